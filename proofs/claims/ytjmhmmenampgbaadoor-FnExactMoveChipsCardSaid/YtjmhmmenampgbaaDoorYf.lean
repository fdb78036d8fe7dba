/- Contracts: full runs by choices, the specification's. -/
import Derived.Test.YtjmhmmenampgbaaDoorYe
import Derived.Test.YtjmhmmenampgbaaDoorIs
import Derived.OwnWalk
namespace Go.Proofs.YtjmhmmenampgbaaDoor
open Go.RowKit
set_option maxRecDepth 100000
set_option linter.unusedSimpArgs false
theorem yields_atY {P : Program} {ops : Array Oper} {S : World → Prop} {a : Act} {t I : TypeId} (ht : P.underlying t = some (.slice I)) (hI : (P.info? I).map (·.size) = some 1) {o : Oper} (hw : Region.wanted o (yielded ops a.tmps) = true) (x y : Operand) (ho : o.op = .indexAddr t x y)
    (b of n c k : Nat) (hx : a.eval x = .slice (some ⟨b, of, none⟩) n c) (hy : a.eval y = .int .i64 (k : Int)) (hk : k < n) : YieldsIf P ops S o (.pointer (some ⟨b, of + k, none⟩)) a := by
  have he : P.underlying t = some (.slice (P.elem t)) := by
    rw [ht]; simp [Program.elem, ht]
  have hE : P.elem t = I := by simp [Program.elem, ht]
  refine .inl ⟨hw, fun w _ => ?_⟩
  have hr : (Instr.indexAt t (.slice (some ⟨b, of, none⟩) n c) (.int .i64 (k : Int))).run P w = .ok (.pointer (some ⟨b, of + k, none⟩)) w := by
    rw [run_indexAt_slice (h := he), if_pos (by omega), hE, run_sizeOf' hI]
    simp [Addr.add]
  unfold execOp
  simp only [ho, hx, hy, Sem.run_bind, Sem.run_pure, hr, Result.andThen_ok]
def lnW : Value → Nat
  | .slice _ n _ => n
  | _ => 0
theorem own.lnW {I : TypeId} {w : World} {base : Nat} {v : Value} {l : List Int} (h : own I w base v l) : lnW v = l.length := by
  obtain ⟨a, c, e⟩ := h.shape
  rw [e]; rfl
theorem lie_or {v8 v10 : Value} {m : Nat} {P : Nat → Prop} (hlie : v10.ownBlock = v8.ownBlock ∨ v10.ownBlock = some m) (h8 : ∀ g, v8.ownBlock = some g → P g) (hm : P m) : ∀ g, v10.ownBlock = some g → P g := by
  intro g hg
  rcases hlie with e | e
  · rw [e] at hg; exact h8 g hg
  · rw [e] at hg; cases hg; exact hm
theorem blk_ne {v : Value} {w : World} {m : Nat} (h : ∀ g, v.ownBlock = some g → g < w.heap.size) (hm : w.heap.size ≤ m) : v.ownBlock ≠ some m := fun e => by have := h m e; omega
/-- The full run's moves, and what lies there behind it; nothing if it is endless. -/
def frR (R : List Int × (Nat → Int) × Bool) : List Int := if R.2.2 then R.1 else []
def frE (n : Nat) (R : List Int × (Nat → Int) × Bool) : List Int := if R.2.2 then toL n R.2.1 else []
attribute [local irreducible] p2 low memB risB
set_option maxHeartbeats 8000000 in
theorem waFull_c (v u z : Value) (M : List (List Int)) (A ch : List Int) (w : World) (hl : rows w.heap.size w v M) (hc : ChP M A) (hu : ints w.heap.size w u A) (hch : ints w.heap.size w z ch) (_hcl : ch.length < 1000000000) (hpos : ∀ k, k < ch.length → 0 ≤ ch[k]?.getD 0) :
    Calls Tryd.prog 57 #[.agg #[v, u], z] w fun e w' => ∃ v1 v2, e = .returned (.tuple #[v1, v2, .bool (frF A.length (plL M A) ch 60 0 (atN A)).2.2]) ∧ own 3 w' w.heap.size v1 (frR (frF A.length (plL M A) ch 60 0 (atN A))) ∧ own 3 w' w.heap.size v2 (frE A.length (frF A.length (plL M A) ch 60 0 (atN A))) ∧ Below w.heap.size w w' := by
  have hLn : LnOk A.length (plL M A) := by have h := pl_ln M A; rwa [plN_yes hc] at h
  have hAt : AtOk A.length (atN A) 30 := by
    have h := pl_at M A
    rw [plN_yes hc] at h
    have e : plA M A = atN A := by funext i; exact plA_yes hc i
    rwa [e] at h
  have HB0 := hide (by_start 29 v u w)
  have HU := hide (by_full HB0.out hu)
  have HCH := hide (by_ints HB0.out hch)
  have h5 := hc.n5
  have HMS := hide (fun (zz : Value) b w1 (h : Below w.heap.size w w1) hz => waMoves_c v u zz M A b w1 ((hl.below h (Nat.le_refl _)).mono h.size) hc hz)
  have HMV := hide (fun (zz : Value) b i w1 (h : Below w.heap.size w w1) hz hi ha => waMove_c v u zz M A b i w1 ((hl.below h (Nat.le_refl _)).mono h.size) hc hz hi ha)
  have HTS := hide (toL_self A)
  have HPOS := hide hpos
  obtain ⟨R, hR⟩ : ∃ R, R = frF A.length (plL M A) ch 60 0 (atN A) := ⟨_, rfl⟩
  rw [← hR]
  have HR := hide (show R = ([] ++ (frF A.length (plL M A) ch (60 - 0) 0 (atN A)).1, (frF A.length (plL M A) ch (60 - 0) 0 (atN A)).2) by rw [hR]; simp)
  have HLN := hide hLn
  have HA0 := hide (show AtOk A.length (atN A) (30 + 3 * ((0 : Nat) : Int)) from hAt)
  generalize plL M A = L at *
  clear hl hu hch hc hLn hAt hR hpos
  go_enter Tryd.func57, Tryd.ntmps57
  go_wp2_with (first
    | (go_at_call 72; refine (l1Own_c u A _ HU.out (by omega)).mono ?_; rintro e w2 ⟨v2, rfl, ho2, hb2⟩; have hz2 := hb2.size; have HO2 := hide (show own 3 w2 (w.heap.size + 1) v2 (toL A.length (atN A)) by rw [HTS.out]; exact ho2.mono (by simp)); have HB2 := hide (by_to HB0.out hb2); clear ho2 hb2; have c0 := by_cell0 HB2.out; have c1 := by_cell1 HB2.out)
    | (go_at_call 42; refine (HMS.out v2 (atN A) w2 (by_below HB2.out) HO2.out.ints).mono ?_; rintro e w3 ⟨v3, rfl, ho3, hb3⟩; have hz3 := hb3.size; have HO3 := hide (ho3.mono (show w.heap.size + 1 ≤ w2.heap.size by have := by_size HB2.out; omega)); have HO23 := hide (HO2.out.kept hb3); have HB3 := hide (by_to HB2.out hb3); clear ho3 hb3))
  clear c0 c1
  go_loopw [7, 8, 9] (fun v7 v8 v9 wr => ∃ (k : Nat) (a : Nat → Int) (rs : List Int), k ≤ 60 ∧ rs.length = k ∧ Hid (R = (rs ++ (frF A.length L ch (60 - k) k a).1, (frF A.length L ch (60 - k) k a).2)) ∧ Hid (AtOk A.length a (30 + 3 * (k : Int))) ∧ Hid (own 3 wr (w.heap.size + 1) v7 (toL A.length a)) ∧ Hid (own 3 wr (w.heap.size + 1) v8 rs) ∧ Hid (own 3 wr (w.heap.size + 1) v9 (opL A.length L a)) ∧ Hid (∀ g, v8.ownBlock = some g → v7.ownBlock ≠ some g ∧ v9.ownBlock ≠ some g) ∧ Hid (Below (w.heap.size + 1) (w.alloc (.cells #[v, u] 29)) wr)) (fun _ v8 _ _ => 61 - lnW v8)
  case atStart => exact ⟨0, atN A, [], by omega, rfl, HR, HA0, HO23, own_nil _ _ _, HO3, fun g hg => by simp [Value.ownBlock] at hg, HB3⟩
  case round =>
    obtain ⟨k, a, rs, hk, hrs, HRR, HAT, HV7, HV8, HV9, HD, HB⟩ := hrel
    have hsz := by_size HB.out
    have HLW := hide HV8.out.lnW
    have hol := opL_len (n := A.length) L a
    by_cases h0 : opL A.length L a = []
    · have HE := hide (show R = (rs, a, true) by rw [HRR.out, frF_end h0]; simp)
      have hl0 : (opL A.length L a).length = 0 := by rw [h0]; rfl
      generalize opL A.length L a = Ol at *
      have hlz : (Ol.length : Int) = 0 := by omega
      clear h0
      go_wp2_with (first
        | (refine wpList_len sliceT rfl (.tmp _) rfl u9 rfl wr.heap.size Ol HV9.out.ints ?_))
      go_ret3
      exact ⟨_, _, by rw [HE.out]; rfl, by rw [HE.out]; exact HV8.out.mono (by omega), by rw [HE.out]; exact HV7.out.mono (by omega), by_below HB.out⟩
    · have hpo : 0 < (opL A.length L a).length := List.length_pos_iff.2 h0
      have hmem := chV_mem (ch := ch) (k := k) h0
      have hop := op_move hmem
      by_cases h60 : k = 60
      · have HE := hide (show R = (rs, a, false) by rw [HRR.out, h60, frF_full h0]; simp)
        generalize opL A.length L a = Ol at *
        have hlz : (0 : Int) < (Ol.length : Int) := by omega
        have hl60 : (rs.length : Int) = 60 := by omega
        clear h0 hmem hop
        go_wp2_with (first
          | (refine wpList_len sliceT rfl (.tmp _) rfl u9 rfl wr.heap.size Ol HV9.out.ints ?_)
          | (refine wpList_len sliceT rfl (.tmp _) rfl u8 rfl wr.heap.size rs HV8.out.ints ?_))
        go_ret3
        exact ⟨_, _, by rw [HE.out]; rfl, by rw [HE.out]; exact own_nil _ _ _, by rw [HE.out]; exact own_nil _ _ _, by_below HB.out⟩
      · have HR2 := hide (show R = ((rs ++ [chV ch k (opL A.length L a)]) ++ (frF A.length L ch (60 - (k + 1)) (k + 1) (mvF L (chV ch k (opL A.length L a)).toNat a)).1, (frF A.length L ch (60 - (k + 1)) (k + 1) (mvF L (chV ch k (opL A.length L a)).toNat a)).2) by
          rw [HRR.out, show 60 - k = (60 - (k + 1)) + 1 by omega, frF_next h0]; simp)
        have HAO2 := hide (show AtOk A.length (mvF L (chV ch k (opL A.length L a)).toNat a) (30 + 3 * ((k + 1 : Nat) : Int)) from (mvF_ok HLN.out HAT.out hop.2.1 hop.2.2).mono (by omega))
        have HAO := hide (HAT.out.mono (show (30 : Int) + 3 * (k : Int) ≤ 500 by omega))
        obtain ⟨i, hie⟩ : ∃ i : Nat, chV ch k (opL A.length L a) = (i : Int) := ⟨_, hop.1⟩
        have hi : i < A.length := by have := hop.2.1; rw [hie, Int.toNat_natCast] at this; exact this
        rw [hie, Int.toNat_natCast] at HR2
        rw [hie, Int.toNat_natCast] at HAO2
        have hix0 := pkI_lt (ch := ch) (k := k) hpo
        have HXV0 := hide (show (opL A.length L a)[pkI ch k (opL A.length L a).length]?.getD 0 = (i : Int) from hie)
        have HIX := hide (show pkI ch k (opL A.length L a).length = if k < ch.length then (ch[k]?.getD 0).toNat % (opL A.length L a).length else 0 from rfl)
        have HCW := hide (HCH.out.below (HB.out.mono (by omega)) (Nat.le_refl _))
        generalize opL A.length L a = Ol at *
        generalize hixe : pkI ch k Ol.length = ix at *
        have HXV := HXV0
        have hix := hix0
        have hlz : (0 : Int) < (Ol.length : Int) := by omega
        have hol2 : ¬ ((Ol.length : Int) = 0) := by omega
        have hol3 : ((Ol.length : Int) == 0) = false := by rw [beq_eq_false_iff_ne]; omega
        have hol4 : ¬ Ol.length = 0 := by omega
        have hol5 : ¬ Ol = [] := fun e => by rw [e] at hpo; simp at hpo
        have hrk : ¬ (rs.length : Int) = 60 := by omega
        have hrb : ((rs.length : Int) == 60) = false := by rw [beq_eq_false_iff_ne]; omega
        obtain ⟨g9, cp9, hG9⟩ := own_blk HV9.out hpo
        subst hG9
        clear h0 hmem hop hie hixe HXV0 hix0 HRR
        by_cases hck : k < ch.length
        · have hck' : (rs.length : Int) < (ch.length : Int) := by omega
          have hx0 := HPOS.out k hck
          have hixe : ix = (ch[k]?.getD 0).toNat % Ol.length := by rw [HIX.out, if_pos hck]
          have hrm : (ch[k]?.getD 0).tmod (Ol.length : Int) = (ix : Int) := by
            rw [Int.tmod_eq_emod_of_nonneg hx0, hixe]
            obtain ⟨q, hq⟩ := Int.eq_ofNat_of_zero_le hx0
            rw [hq]; simp
          have hwr : IntKind.i64.wrap (ix : Int) = (ix : Int) := IntWalk.i64_in _ (by omega)
          generalize hxx : ch[k]?.getD 0 = xx at hrm hx0
          have HXX := hide hxx
          clear hixe hxx HIX
          go_wp2_with (first
            | (refine wpList_len sliceT rfl (.tmp _) rfl (Value.slice (some ⟨g9, 0, none⟩) Ol.length cp9) rfl wr.heap.size Ol HV9.out.ints ?_)
            | (refine wpList_len sliceT rfl (.tmp _) rfl u8 rfl wr.heap.size rs HV8.out.ints ?_)
            | (refine wpList_len sliceT rfl (.tmp _) rfl z rfl w.heap.size ch HCW.out ?_)
            | (refine wpList_at sliceT intS rfl (.tmp 31) (.tmp 33) rfl z rfl k (congrArg (fun q : Nat => Value.int .i64 (q : Int)) hrs) w.heap.size ch HCW.out hck ?_; intro ad1 hcell1 hblk1; rw [HXX.out] at hcell1)
            | (refine wpList_at sliceT intS rfl (.tmp 40) (.tmp 41) rfl (Value.slice (some ⟨g9, 0, none⟩) Ol.length cp9) rfl ix rfl wr.heap.size Ol HV9.out.ints hix ?_; intro ad2 hcell2 hblk2; rw [HXV.out] at hcell2)
            | (at_builtin; refine wpList_append1_at sliceT intI rfl _ _ rfl (w.heap.size + 1) u8 rs rfl (HV8.out.alloc _) _ (i : Int) rfl (by simp [go_sem]) (by simp; omega) (by omega) ?_; intro v10 w10 ho10 hot10 hlie10; have hot11 := (Below.other u8 ((Below.refl wr.heap.size wr).alloc (Nat.le_refl _) _)).trans hot10; have hz10 := hot11.size; have HV10 := hide ho10; have HN10 := hide (show ∀ g, v10.ownBlock = some g → u7.ownBlock ≠ some g ∧ (Value.slice (some ⟨g9, 0, none⟩) Ol.length cp9).ownBlock ≠ some g from lie_or hlie10 HD.out ⟨blk_ne HV7.out.blockLt (by simp), blk_ne HV9.out.blockLt (by simp)⟩); have HV7b := hide (HV7.out.other hot11 fun g hg e => (HD.out g e).1 hg); have HV9b := hide (HV9.out.other hot11 fun g hg e => (HD.out g e).2 hg); have HB10 := hide (HB.out.trans (hot11.below (w.heap.size + 1) (fun g hg => HV8.out.base g hg) (by omega))); clear ho10 hot10 hot11 hlie10)
            )
          have c2 := by_cell0 HB10.out
          have c3 := by_cell1 HB10.out
          have hc9 := (HV9b.out.cell (g := g9) rfl ix hix).1
          rw [HXV.out] at hc9
          have hg9 := HV9b.out.blockLt g9 rfl
          have hs10 := by_size HB10.out
          refine wp_region_held (S := fun w' => Below w10.heap.size w10 w') (by kernel_rfl) ?_
          have hS0 : Below w10.heap.size w10 { w10 with drawn := w10.drawn + 1 } := (Below.refl _ _).drew
          have hzz : ({ w10 with drawn := w10.drawn + 1 } : World).heap.size = w10.heap.size := rfl
          generalize ({ w10 with drawn := w10.drawn + 1 } : World) = V0 at hS0 hzz ⊢
          refine wpAnyH_take (i := 0) rfl (by kernel_rfl) (by kernel_rfl) (by kernel_rfl) (fun _ _ _ h => h) (yields_load_two rowCP sizeCP rfl (.tmp _) rfl w.heap.size rfl v u (fun w' h => (h.cell (p := ⟨w.heap.size, 0, none⟩) (by show w.heap.size < _; omega)).trans c2) (fun w' h => (h.cell (p := ⟨w.heap.size, 1, none⟩) (by show w.heap.size < _; omega)).trans c3)) hS0 ?_
          simp only [Act.put, List.getElem_toArray, List.getElem_cons_zero, List.getElem_cons_succ, List.setIfInBounds_toArray, List.set_cons_zero, List.set_cons_succ]
          refine wpAnyH_take (i := 1) (v := u7) rfl (by kernel_rfl) (by kernel_rfl) (by kernel_rfl) (fun _ _ _ h => h) (.inl ⟨rfl, fun w' _ => by go_simp⟩) hS0 ?_
          simp only [Act.put, List.getElem_toArray, List.getElem_cons_zero, List.getElem_cons_succ, List.setIfInBounds_toArray, List.set_cons_zero, List.set_cons_succ]
          refine wpAnyH_take (i := 2) (v := .slice (some ⟨g9, 0, none⟩) Ol.length cp9) rfl (by kernel_rfl) (by kernel_rfl) (by kernel_rfl) (fun _ _ _ h => h) (.inl ⟨rfl, fun w' _ => by go_simp⟩) hS0 ?_
          simp only [Act.put, List.getElem_toArray, List.getElem_cons_zero, List.getElem_cons_succ, List.setIfInBounds_toArray, List.set_cons_zero, List.set_cons_succ]
          refine wpAnyH_take (i := 3) (v := .int .i64 (ix : Int)) rfl (by kernel_rfl) (by kernel_rfl) (by kernel_rfl) (fun _ _ _ h => h) (.inl ⟨rfl, fun w' _ => by go_simp⟩) hS0 ?_
          simp only [Act.put, List.getElem_toArray, List.getElem_cons_zero, List.getElem_cons_succ, List.setIfInBounds_toArray, List.set_cons_zero, List.set_cons_succ]
          refine wpAnyH_take (i := 4) rfl (by kernel_rfl) (by kernel_rfl) (by kernel_rfl) (fun _ _ _ h => h) (yields_atY sliceT intS rfl (.tmp _) _ rfl g9 0 Ol.length cp9 ix rfl rfl hix) hS0 ?_
          simp only [Act.put, List.getElem_toArray, List.getElem_cons_zero, List.getElem_cons_succ, List.setIfInBounds_toArray, List.set_cons_zero, List.set_cons_succ]
          refine wpAnyH_take (i := 5) rfl (by kernel_rfl) (by kernel_rfl) (by kernel_rfl) (fun _ _ _ h => h) (yields_load_cell rowIntP rfl (.tmp _) rfl ⟨g9, 0 + ix, none⟩ rfl (.int .i64 (i : Int)) (fun w' h => (h.cell (p := ⟨g9, 0 + ix, none⟩) hg9).trans (by rw [Nat.zero_add]; exact hc9))) hS0 ?_
          simp only [Act.put, List.getElem_toArray, List.getElem_cons_zero, List.getElem_cons_succ, List.setIfInBounds_toArray, List.set_cons_zero, List.set_cons_succ]
          refine anyH_call (i := 6) (by kernel_rfl) rfl rfl 52 ent_waMove _ _ rfl #[.agg #[v, u], u7, .int .i64 (i : Int)] rfl (HMV.out u7 a i V0 ((by_below HB10.out).trans (hS0.mono (by omega))) (HV7b.out.kept hS0).ints hi HAO.out) ?_
          rintro e V1 ⟨v11, rfl, ho11, hb11⟩
          have hz11 := hb11.size
          have hS1 := hS0.trans (hb11.mono (by omega))
          refine ⟨_, rfl, hS1, ?_⟩
          simp only [Act.put, List.getElem_toArray, List.getElem_cons_zero, List.getElem_cons_succ, List.setIfInBounds_toArray, List.set_cons_zero, List.set_cons_succ]
          refine anyH_op (i := 7) (by kernel_rfl) rfl rfl v11 V1 (by simp [go_sem]) hS1 ?_
          refine wpAnyH_done (by kernel_rfl) ?_ _
          simp only [Act.put, List.getElem_toArray, List.getElem_cons_zero, List.getElem_cons_succ, List.setIfInBounds_toArray, List.set_cons_zero, List.set_cons_succ]
          have hv11 := fun g hg => ho11.base g hg
          have hv10 := fun g hg => HV10.out.blockLt g hg
          have HD11 := hide (show ∀ g, v10.ownBlock = some g → v11.ownBlock ≠ some g from fun g hg e => by have h1 := hv11 g e; have h2 := hv10 g hg; omega)
          have HV11 := hide (ho11.mono (show w.heap.size + 1 ≤ V0.heap.size by omega))
          have HV12 := hide (HV10.out.kept hS1)
          have HB11 := hide (HB10.out.trans (hS1.mono (by omega)))
          clear hS0 hS1 hb11 ho11 hv11 c2 c3 hc9
          have c0 := by_cell0 HB11.out
          have c1 := by_cell1 HB11.out
          go_wp2_with (first
            | (go_at_call 42; refine (HMS.out v11 (mvF L i a) V1 (by_below HB11.out) HV11.out.ints).mono ?_; rintro e V2 ⟨v13, rfl, ho13, hb13⟩; have HD13 := hide (show ∀ g, v10.ownBlock = some g → v11.ownBlock ≠ some g ∧ v13.ownBlock ≠ some g from fun g hg => ⟨HD11.out g hg, fun e => by have h1 := ho13.base g e; have h2 := hv10 g hg; omega⟩); have hz13 := hb13.size; have HV13 := hide (ho13.mono (show w.heap.size + 1 ≤ V1.heap.size by omega)); have HV14 := hide (HV11.out.kept hb13); have HV15 := hide (HV12.out.kept hb13); have HB13 := hide (by_to HB11.out hb13); clear ho13 hb13))
          have HLW2 := hide HV15.out.lnW
          go_roundw
          case rel => exact ⟨k + 1, mvF L i a, rs ++ [(i : Int)], by omega, by simp; omega, HR2, HAO2, HV14, HV15, HV13, HD13, HB13⟩
          case measure =>
            have h1 := HLW2.out
            have h2 := HLW.out
            simp at h1
            omega
        · have hck' : ¬ (rs.length : Int) < (ch.length : Int) := by omega
          have hix00 : ix = 0 := by rw [HIX.out, if_neg hck]
          subst hix00
          clear HIX
          go_wp2_with (first
            | (refine wpList_len sliceT rfl (.tmp _) rfl (Value.slice (some ⟨g9, 0, none⟩) Ol.length cp9) rfl wr.heap.size Ol HV9.out.ints ?_)
            | (refine wpList_len sliceT rfl (.tmp _) rfl u8 rfl wr.heap.size rs HV8.out.ints ?_)
            | (refine wpList_len sliceT rfl (.tmp _) rfl z rfl w.heap.size ch HCW.out ?_)
            | (refine wpList_at sliceT intS rfl (.tmp 40) (.tmp 41) rfl (Value.slice (some ⟨g9, 0, none⟩) Ol.length cp9) rfl 0 rfl wr.heap.size Ol HV9.out.ints hix ?_; intro ad2 hcell2 hblk2; rw [HXV.out] at hcell2)
            | (at_builtin; refine wpList_append1_at sliceT intI rfl _ _ rfl (w.heap.size + 1) u8 rs rfl (HV8.out.alloc _) _ (i : Int) rfl (by simp [go_sem]) (by simp; omega) (by omega) ?_; intro v10 w10 ho10 hot10 hlie10; have hot11 := (Below.other u8 ((Below.refl wr.heap.size wr).alloc (Nat.le_refl _) _)).trans hot10; have hz10 := hot11.size; have HV10 := hide ho10; have HN10 := hide (show ∀ g, v10.ownBlock = some g → u7.ownBlock ≠ some g ∧ (Value.slice (some ⟨g9, 0, none⟩) Ol.length cp9).ownBlock ≠ some g from lie_or hlie10 HD.out ⟨blk_ne HV7.out.blockLt (by simp), blk_ne HV9.out.blockLt (by simp)⟩); have HV7b := hide (HV7.out.other hot11 fun g hg e => (HD.out g e).1 hg); have HV9b := hide (HV9.out.other hot11 fun g hg e => (HD.out g e).2 hg); have HB10 := hide (HB.out.trans (hot11.below (w.heap.size + 1) (fun g hg => HV8.out.base g hg) (by omega))); clear ho10 hot10 hot11 hlie10)
            )
          have c2 := by_cell0 HB10.out
          have c3 := by_cell1 HB10.out
          have hc9 := (HV9b.out.cell (g := g9) rfl 0 hix).1
          rw [HXV.out] at hc9
          have hg9 := HV9b.out.blockLt g9 rfl
          have hs10 := by_size HB10.out
          refine wp_region_held (S := fun w' => Below w10.heap.size w10 w') (by kernel_rfl) ?_
          have hS0 : Below w10.heap.size w10 { w10 with drawn := w10.drawn + 1 } := (Below.refl _ _).drew
          have hzz : ({ w10 with drawn := w10.drawn + 1 } : World).heap.size = w10.heap.size := rfl
          generalize ({ w10 with drawn := w10.drawn + 1 } : World) = V0 at hS0 hzz ⊢
          refine wpAnyH_take (i := 0) rfl (by kernel_rfl) (by kernel_rfl) (by kernel_rfl) (fun _ _ _ h => h) (yields_load_two rowCP sizeCP rfl (.tmp _) rfl w.heap.size rfl v u (fun w' h => (h.cell (p := ⟨w.heap.size, 0, none⟩) (by show w.heap.size < _; omega)).trans c2) (fun w' h => (h.cell (p := ⟨w.heap.size, 1, none⟩) (by show w.heap.size < _; omega)).trans c3)) hS0 ?_
          simp only [Act.put, List.getElem_toArray, List.getElem_cons_zero, List.getElem_cons_succ, List.setIfInBounds_toArray, List.set_cons_zero, List.set_cons_succ]
          refine wpAnyH_take (i := 1) (v := u7) rfl (by kernel_rfl) (by kernel_rfl) (by kernel_rfl) (fun _ _ _ h => h) (.inl ⟨rfl, fun w' _ => by go_simp⟩) hS0 ?_
          simp only [Act.put, List.getElem_toArray, List.getElem_cons_zero, List.getElem_cons_succ, List.setIfInBounds_toArray, List.set_cons_zero, List.set_cons_succ]
          refine wpAnyH_take (i := 2) (v := .slice (some ⟨g9, 0, none⟩) Ol.length cp9) rfl (by kernel_rfl) (by kernel_rfl) (by kernel_rfl) (fun _ _ _ h => h) (.inl ⟨rfl, fun w' _ => by go_simp⟩) hS0 ?_
          simp only [Act.put, List.getElem_toArray, List.getElem_cons_zero, List.getElem_cons_succ, List.setIfInBounds_toArray, List.set_cons_zero, List.set_cons_succ]
          refine wpAnyH_take (i := 3) (v := .int .i64 ((0 : Nat) : Int)) rfl (by kernel_rfl) (by kernel_rfl) (by kernel_rfl) (fun _ _ _ h => h) (.inl ⟨rfl, fun w' _ => by go_simp⟩) hS0 ?_
          simp only [Act.put, List.getElem_toArray, List.getElem_cons_zero, List.getElem_cons_succ, List.setIfInBounds_toArray, List.set_cons_zero, List.set_cons_succ]
          refine wpAnyH_take (i := 4) rfl (by kernel_rfl) (by kernel_rfl) (by kernel_rfl) (fun _ _ _ h => h) (yields_atY sliceT intS rfl (.tmp _) _ rfl g9 0 Ol.length cp9 0 rfl rfl hix) hS0 ?_
          simp only [Act.put, List.getElem_toArray, List.getElem_cons_zero, List.getElem_cons_succ, List.setIfInBounds_toArray, List.set_cons_zero, List.set_cons_succ]
          refine wpAnyH_take (i := 5) rfl (by kernel_rfl) (by kernel_rfl) (by kernel_rfl) (fun _ _ _ h => h) (yields_load_cell rowIntP rfl (.tmp _) rfl ⟨g9, 0 + 0, none⟩ rfl (.int .i64 (i : Int)) (fun w' h => (h.cell (p := ⟨g9, 0 + 0, none⟩) hg9).trans (by rw [Nat.zero_add]; exact hc9))) hS0 ?_
          simp only [Act.put, List.getElem_toArray, List.getElem_cons_zero, List.getElem_cons_succ, List.setIfInBounds_toArray, List.set_cons_zero, List.set_cons_succ]
          refine anyH_call (i := 6) (by kernel_rfl) rfl rfl 52 ent_waMove _ _ rfl #[.agg #[v, u], u7, .int .i64 (i : Int)] rfl (HMV.out u7 a i V0 ((by_below HB10.out).trans (hS0.mono (by omega))) (HV7b.out.kept hS0).ints hi HAO.out) ?_
          rintro e V1 ⟨v11, rfl, ho11, hb11⟩
          have hz11 := hb11.size
          have hS1 := hS0.trans (hb11.mono (by omega))
          refine ⟨_, rfl, hS1, ?_⟩
          simp only [Act.put, List.getElem_toArray, List.getElem_cons_zero, List.getElem_cons_succ, List.setIfInBounds_toArray, List.set_cons_zero, List.set_cons_succ]
          refine anyH_op (i := 7) (by kernel_rfl) rfl rfl v11 V1 (by simp [go_sem]) hS1 ?_
          refine wpAnyH_done (by kernel_rfl) ?_ _
          simp only [Act.put, List.getElem_toArray, List.getElem_cons_zero, List.getElem_cons_succ, List.setIfInBounds_toArray, List.set_cons_zero, List.set_cons_succ]
          have hv11 := fun g hg => ho11.base g hg
          have hv10 := fun g hg => HV10.out.blockLt g hg
          have HD11 := hide (show ∀ g, v10.ownBlock = some g → v11.ownBlock ≠ some g from fun g hg e => by have h1 := hv11 g e; have h2 := hv10 g hg; omega)
          have HV11 := hide (ho11.mono (show w.heap.size + 1 ≤ V0.heap.size by omega))
          have HV12 := hide (HV10.out.kept hS1)
          have HB11 := hide (HB10.out.trans (hS1.mono (by omega)))
          clear hS0 hS1 hb11 ho11 hv11 c2 c3 hc9
          have c0 := by_cell0 HB11.out
          have c1 := by_cell1 HB11.out
          go_wp2_with (first
            | (go_at_call 42; refine (HMS.out v11 (mvF L i a) V1 (by_below HB11.out) HV11.out.ints).mono ?_; rintro e V2 ⟨v13, rfl, ho13, hb13⟩; have HD13 := hide (show ∀ g, v10.ownBlock = some g → v11.ownBlock ≠ some g ∧ v13.ownBlock ≠ some g from fun g hg => ⟨HD11.out g hg, fun e => by have h1 := ho13.base g e; have h2 := hv10 g hg; omega⟩); have hz13 := hb13.size; have HV13 := hide (ho13.mono (show w.heap.size + 1 ≤ V1.heap.size by omega)); have HV14 := hide (HV11.out.kept hb13); have HV15 := hide (HV12.out.kept hb13); have HB13 := hide (by_to HB11.out hb13); clear ho13 hb13))
          have HLW2 := hide HV15.out.lnW
          go_roundw
          case rel => exact ⟨k + 1, mvF L i a, rs ++ [(i : Int)], by omega, by simp; omega, HR2, HAO2, HV14, HV15, HV13, HD13, HB13⟩
          case measure =>
            have h1 := HLW2.out
            have h2 := HLW.out
            simp at h1
            omega
end Go.Proofs.YtjmhmmenampgbaaDoor
