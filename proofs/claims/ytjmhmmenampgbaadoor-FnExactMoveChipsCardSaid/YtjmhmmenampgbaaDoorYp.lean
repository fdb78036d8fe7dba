/- Contracts: what lies behind a list of moves, full runs, the program's. -/
import Derived.Test.YtjmhmmenampgbaaDoorYo
import Derived.Test.YtjmhmmenampgbaaDoorYn
namespace Go.Proofs.YtjmhmmenampgbaaDoor
open Go.RowKit
set_option maxRecDepth 100000
set_option linter.unusedSimpArgs false
attribute [local irreducible] p2 low memB risB
section
variable {ops : Array Oper} {rest : List Oper} {o : Oper} {a : Act} {w : World} {Q : Exit → Act → World → Prop}
theorem wpList_buildY {T : TypeId} {parts : Array (Nat × Operand)} (hgd : o.guard = none) (ho : o.op = .build T parts) (cs : Array Value) (hb : Tryd.prog.built T (parts.map fun (i, x) => (i, a.eval x)).toList = some cs)
    (h : wpList Tryd.prog ops Q rest (a.put o.dst (.agg cs)) w) : wpList Tryd.prog ops Q (o :: rest) a w :=
  wpList_build hgd T parts ho (by rw [hb]; rfl) (by rw [hb]; exact h)
end
theorem rowFR : (Tryd.prog.underlying 71).map TypeDesc.isRow = some true := by kernel_rfl
theorem sizeFR : (Tryd.prog.info? 71).map (·.size) = some 63 := by kernel_rfl
/-- The cells of a full run. -/
def frC (P Q : List Int) (v : Value) : Array Value := rowV P ++ rowV Q ++ #[v]
theorem frC_size {P Q : List Int} (hP : P.length = 31) (hQ : Q.length = 31) (v : Value) : (frC P Q v).size = 63 := by simp [frC, rowV_size, hP, hQ]
theorem frC_one (P Q : List Int) (b : Option Addr) (k c : Nat) : (frC P Q (.slice b k c)).all (·.oneCell') = true := by
  unfold frC
  rw [Array.all_append, Array.all_append, rowV_one, rowV_one]
  simp [Value.oneCell']
theorem zeroFR : ((Tryd.prog.info? 71).bind (·.zero)).map Value.cells = some (frC (plR 0 zL zA) (plR 0 zL zA) (.slice none 0 0)) := by kernel_rfl
set_option maxHeartbeats 2000000 in
theorem behind_c (n : Nat) (L : Nat → Nat → Int) (a0 : Nat → Int) (a : Option Addr) (c : Nat) (mv : List Int) (w : World) (hL : LnOk n L) (ha : AtOk n a0 30) (hm : ints w.heap.size w (.slice a mv.length c) mv) (hml : mv.length ≤ 120) (hT : tab w) :
    Calls Tryd.prog 55 #[.agg (rowV (plR n L a0)), .slice a mv.length c] w fun e w' => ∃ b, e = .returned (.tuple #[.agg (rowV (plR n L b)), .bool (rsF n L mv a0 mv.length).isSome]) ∧ (∀ b', rsF n L mv a0 mv.length = some b' → b = b') ∧ Below w.heap.size w w' := by
  have hb0 := ((Below.refl w.heap.size w).alloc (Nat.le_refl _) (.cells (rowV (plR n L a0)) 55)).alloc (by simp) (.cells (rowV (plR 0 zL zA)) 55)
  have HB0 := hide hb0
  have HP0 := hide ((pkAt.new w n L a0).alloc (.cells (rowV (plR 0 zL zA)) 55))
  have HZ0 := hide (show pkAt ((w.alloc (.cells (rowV (plR n L a0)) 55)).alloc (.cells (rowV (plR 0 zL zA)) 55)) (w.heap.size + 1) 0 zL zA by have h := pkAt.new (w.alloc (.cells (rowV (plR n L a0)) 55)) 0 zL zA; simpa using h)
  have hz0 : ((w.alloc (.cells (rowV (plR n L a0)) 55)).alloc (.cells (rowV (plR 0 zL zA)) 55)).heap.size = w.heap.size + 2 := by simp
  have HRU := hide (fun w1 (hb : Below w.heap.size w w1) => run_cY n L a0 88 (.slice a mv.length c) 101 120 (nxL mv) (fun rs => rs.length ≤ mv.length) w1 hL ha (guide_li a mv.length c) (Nat.le_refl _) (hT.below hb)
    (fun u v rs Ol w2 hb2 hu hv h0 h5 h120 hle => liNext_c a c u v mv rs Ol w2 ((hm.below (hb.trans (hb2.mono hb.size)) (Nat.le_refl _)).mono (Nat.le_trans hb.size hb2.size)) hml hu hv h5 hle)
    (fun rs b _ z h => by
      unfold nxL at h
      split at h
      · cases h
      · split at h
        · cases h; assumption
        · cases h) (Nat.zero_le _) (fun rs Ol p h1 h2 => by
      unfold nxL at h2
      split at h2
      · cases h2
      · simp; omega))
  have HGD := hide (gd_rs (n := n) (L := L) (mv := mv) (a0 := a0) 120 [] a0 (Nat.zero_le _) (by simp; omega) rfl)
  have HML := hide hml
  clear hb0 hL ha hm hT
  generalize gdF n L (nxL mv) 120 [] a0 = R at *
  obtain ⟨R1, R2⟩ := R
  go_enter Tryd.func55, Tryd.ntmps55
  go_wp2_with (first
    | (refine wpList_alloc_csY zeroPK rfl rfl _ (by first | (simp only [World.size_alloc]; rfl) | rfl) ?_)
    | (refine wpList_load_csY rowPK (sizePKl n L a0) rfl (.tmp _) rfl w.heap.size rfl HP0.out ?_)
    | (go_at_call 73; refine (HRU.out _ HB0.out).mono ?_; rintro e w2 ⟨v2, rfl, ho2, hb2⟩; have hz2 := hb2.size; rw [hz0] at hz2 hb2; have HO2 := hide ho2.ints; have HB2 := hide (HB0.out.trans (hb2.mono (by omega))); have HZ2 := hide (HZ0.out.below hb2 (by omega)); have HK2 := hide (pkAt.new w2 0 zL zA); have HZ3 := hide ((HZ2.out.alloc (.cells (rowV (plR 0 zL zA)) 55)).rowO w2.heap.size (by omega) (rowV (plR n L R2))); have HK3 := hide (HK2.out.row (m := n) (K := L) (b := R2)); have HB3 := hide (bl_row (HB2.out.alloc (by omega) (.cells (rowV (plR 0 zL zA)) 55)) (show w.heap.size ≤ w2.heap.size by omega) (rowV (plR n L R2))); obtain ⟨xa, xc, hx⟩ := ho2.shape; subst hx; clear ho2 hb2)
    | (refine wpList_store_csY (sizePKl n L R2) rfl (.tmp 7) (.tmp _) rfl w2.heap.size rfl rfl _ HK2.out (by simp [rowV, plR_len]) (rowV_one _) ?_)
    | (refine wpList_load_csY rowPK (sizePKl n L R2) rfl (.tmp 7) rfl w2.heap.size rfl HK3.out ?_)
    | (refine wpList_store_csY (sizePKl n L R2) rfl (.tmp 4) (.tmp _) rfl (w.heap.size + 1) rfl rfl _ HZ3.out (by simp [rowV, plR_len]) (rowV_one _) ?_))
  refine (show bodyPost _ _ _ Exit.ret _ _ from ?_)
  refine bodyPost_ret (v := .tuple #[.agg (rowV (plR n L R2)), .bool ((R1.length : Int) == (mv.length : Int))]) (results_cs2Y rowPK (sizePKl n L R2) (fn := Tryd.f55) (p := 4) (q := 5) rfl _ _ (w.heap.size + 1) rfl (HZ3.out.row (m := n) (K := L) (b := R2))) rfl ⟨R2, ?_, fun b' h => HGD.out.2.1 b' h, ?_⟩
  · have h := HGD.out.1
    rw [show ((R1.length : Int) == (mv.length : Int)) = (rsF n L mv a0 mv.length).isSome by
      rw [Bool.eq_iff_iff, beq_iff_eq, ← h]
      show ((R1.length : Int) = (mv.length : Int) ↔ R1.length = mv.length)
      omega]
  · exact bl_row HB3.out (by omega) _
theorem builtFR : ∀ (n m : Nat) (L K : Nat → Nat → Int) (a b : Nat → Int) (x : Option Addr) (k c : Nat), Tryd.prog.built 71 [(0, .agg (rowV (plR n L a))), (1, .agg (rowV (plR m K b))), (2, .slice x k c)] = some (frC (plR n L a) (plR m K b) (.slice x k c)) := fun _ _ _ _ _ _ _ _ _ => by kernel_rfl
theorem builtFR0 : Tryd.prog.built 71 [] = some (frC (plR 0 zL zA) (plR 0 zL zA) (.slice none 0 0)) := by kernel_rfl
theorem wpList_build_fr {ops : Array Oper} {rest : List Oper} {o : Oper} {a : Act} {w : World} {Q : Exit → Act → World → Prop} (hgd : o.guard = none) (x y z : Operand) (ho : o.op = .build 71 #[(0, x), (1, y), (2, z)]) (n m : Nat) (L K : Nat → Nat → Int) (f g : Nat → Int) (b : Option Addr) (k c : Nat)
    (hx : a.eval x = .agg (rowV (plR n L f))) (hy : a.eval y = .agg (rowV (plR m K g))) (hz : a.eval z = .slice b k c)
    (h : wpList Tryd.prog ops Q rest (a.put o.dst (.agg (frC (plR n L f) (plR m K g) (.slice b k c)))) w) : wpList Tryd.prog ops Q (o :: rest) a w := by
  have e : (Tryd.prog.built 71 ((#[(0, x), (1, y), (2, z)] : Array (Nat × Operand)).map fun (i, x) => (i, a.eval x)).toList) = some (frC (plR n L f) (plR m K g) (.slice b k c)) := by
    have e1 : ((#[(0, x), (1, y), (2, z)] : Array (Nat × Operand)).map fun (i, x) => (i, a.eval x)).toList = [(0, .agg (rowV (plR n L f))), (1, .agg (rowV (plR m K g))), (2, .slice b k c)] := by simp [hx, hy, hz]
    rw [e1]; exact builtFR n m L K f g b k c
  exact wpList_build hgd 71 #[(0, x), (1, y), (2, z)] ho (by rw [e]; rfl) (by rw [e]; exact h)
set_option maxHeartbeats 2000000 in
theorem fullRun_c (n : Nat) (L : Nat → Nat → Int) (a0 : Nat → Int) (a : Option Addr) (c : Nat) (ch : List Int) (w : World) (hL : LnOk n L) (ha : AtOk n a0 30) (hch : ints w.heap.size w (.slice a ch.length c) ch) (hcl : ch.length < 1000000000) (hpos : ∀ k, k < ch.length → 0 ≤ ch[k]?.getD 0) (hT : tab w) :
    Calls Tryd.prog 63 #[.agg (rowV (plR n L a0)), .slice a ch.length c] w fun e w' => ∃ v, e = .returned (.tuple #[.agg (if (frF n L ch 60 0 a0).2.2 then frC (plR n L a0) (plR n L (frF n L ch 60 0 a0).2.1) v else frC (plR 0 zL zA) (plR 0 zL zA) (.slice none 0 0)), .bool (frF n L ch 60 0 a0).2.2]) ∧ own 3 w' w.heap.size v (frF n L ch 60 0 a0).1 ∧ Below w.heap.size w w' := by
  have hb0 := ((Below.refl w.heap.size w).alloc (Nat.le_refl _) (.cells (rowV (plR n L a0)) 55)).alloc (by simp) (.cells (frC (plR 0 zL zA) (plR 0 zL zA) (.slice none 0 0)) 71)
  have HB0 := hide hb0
  have HP0 := hide ((pkAt.new w n L a0).alloc (.cells (frC (plR 0 zL zA) (plR 0 zL zA) (.slice none 0 0)) 71))
  have HZ0 := hide (show ((w.alloc (.cells (rowV (plR n L a0)) 55)).alloc (.cells (frC (plR 0 zL zA) (plR 0 zL zA) (.slice none 0 0)) 71)).heap[w.heap.size + 1]? = some (.cells (frC (plR 0 zL zA) (plR 0 zL zA) (.slice none 0 0)) 71) by have h := hp_last (w.alloc (.cells (rowV (plR n L a0)) 55)) (.cells (frC (plR 0 zL zA) (plR 0 zL zA) (.slice none 0 0)) 71); simpa using h)
  have hz0 : ((w.alloc (.cells (rowV (plR n L a0)) 55)).alloc (.cells (frC (plR 0 zL zA) (plR 0 zL zA) (.slice none 0 0)) 71)).heap.size = w.heap.size + 2 := by simp
  have HRU := hide (fun w1 (hb : Below w.heap.size w w1) => run_cY n L a0 91 (.slice a ch.length c) 104 60 (nxC ch) (fun _ => True) w1 hL ha (guide_ch a ch.length c) (by omega) (hT.below hb)
    (fun u v rs Ol w2 hb2 hu hv h0 h5 h120 _ => chNext_c a c u v ch rs Ol w2 ((hch.below (hb.trans (hb2.mono hb.size)) (Nat.le_refl _)).mono (Nat.le_trans hb.size hb2.size)) hcl hpos hu hv h0 h5)
    (fun rs b h0 z h => by
      unfold nxC at h
      cases h
      exact chV_mem h0) trivial (fun _ _ _ _ _ => trivial))
  have HGD := hide (gd_fr (n := n) (L := L) (ch := ch) 60 [] a0)
  have HOPN := hide (fr_open (n := n) (L := L) (ch := ch) 60 0 a0)
  have h5 := hL.n5
  have HOM := hide (fun b => opM_zero (n := n) h5 (L := L) (a := b))
  have HOP := hide (fun b w1 => open_cY n L b w1 hL)
  rw [HGD.out] at HRU
  clear hb0 hL ha hch hpos hT HGD
  simp only [List.nil_append, List.length_nil] at HRU
  generalize frF n L ch 60 0 a0 = R at *
  obtain ⟨R1, b, ok⟩ := R
  simp only at HRU HOPN ⊢
  cases ok
  · have hne : opM n L b ≠ 0 := fun e => by have h := HOPN.out; rw [(HOM.out b).1 e] at h; simp at h
    have hmb : ((opM n L b : Int) != 0) = true := by rw [bne_iff_ne]; omega
    have HX := hide (HOP.out b)
    clear HOPN HOP HOM
    go_enter Tryd.func63, Tryd.ntmps63
    go_wp2_with (first
      | (refine wpList_alloc_csY zeroFR rfl rfl _ (by first | (simp only [World.size_alloc]; rfl) | rfl) ?_)
      | (refine wpList_alloc_csY zeroPK rfl rfl _ rfl ?_)
      | (refine wpList_load_csY rowPK (sizePKl n L a0) rfl (.tmp 2) rfl w.heap.size rfl HP0.out ?_)
      | (go_at_call 73; refine (HRU.out _ HB0.out).mono ?_; rintro e w2 ⟨v2, rfl, ho2, hb2⟩; have hz2 := hb2.size; rw [hz0] at hz2 hb2 ho2; have HB2 := hide (HB0.out.trans (hb2.mono (by omega))); have HZ2 := hide ((hb2.block (w.heap.size + 1) (by omega)).trans HZ0.out); have HP2 := hide (HP0.out.below hb2 (by omega)); have HK2 := hide (pkAt.new w2 0 zL zA); have hb3 := bl_row ((Below.refl w2.heap.size w2).alloc (Nat.le_refl _) (.cells (rowV (plR 0 zL zA)) 55)) (Nat.le_refl _) (rowV (plR n L b)); have HZ3 := hide ((hb3.block (w.heap.size + 1) (by omega)).trans HZ2.out); have HP3 := hide (HP2.out.below hb3 (by omega)); have HK3 := hide (HK2.out.row (m := n) (K := L) (b := b)); have HB3 := hide (HB2.out.trans (hb3.mono (by omega))); have HO3 := hide (ho2.kept hb3); have HZS := hide (show ((w2.alloc (.cells (rowV (plR 0 zL zA)) 55)).setRow w2.heap.size (rowV (plR n L b))).heap.size = w2.heap.size + 1 by simp [World.setRow]); obtain ⟨xa, xc, hx⟩ := ho2.shape; subst hx; clear ho2 hb2 hb3)
      | (refine wpList_store_csY (sizePKl n L b) rfl (.tmp 7) (.tmp _) rfl w2.heap.size rfl rfl _ HK2.out (by simp [rowV, plR_len]) (rowV_one _) ?_)
      | (refine wpList_load_csY rowPK (sizePKl n L b) rfl (.tmp 7) rfl w2.heap.size rfl HK3.out ?_)
      | (go_at_call 45; refine (HX.out _).mono ?_; rintro e w5 ⟨rfl, hb5⟩; have hz5 := hb5.size; have HO5 := hide (HO3.out.kept hb5); have HZ5 := hide ((hb5.block (w.heap.size + 1) (by rw [HZS.out]; omega)).trans HZ3.out); have HB5 := hide (HB3.out.trans (hb5.mono (by rw [HZS.out]; omega))); rw [HZS.out] at hz5; clear hb5)
      | (refine wpList_buildY rfl rfl _ builtFR0 ?_)
      | (refine wpList_store_csY (cs := frC (plR 0 zL zA) (plR 0 zL zA) (.slice none 0 0)) (by rw [frC_size (plR_len _ _ _) (plR_len _ _ _)]; exact sizeFR) rfl (.tmp 4) (.tmp _) rfl (w.heap.size + 1) rfl rfl _ HZ5.out rfl (by kernel_rfl) ?_))
    refine (show bodyPost _ _ _ Exit.ret _ _ from ?_)
    refine bodyPost_ret (v := .tuple #[.agg (frC (plR 0 zL zA) (plR 0 zL zA) (.slice none 0 0)), .bool false]) (results_cs2Y (cs := frC (plR 0 zL zA) (plR 0 zL zA) (.slice none 0 0)) rowFR (by rw [frC_size (plR_len _ _ _) (plR_len _ _ _)]; exact sizeFR) (fn := Tryd.f63) (p := 4) (q := 5) rfl _ _ (w.heap.size + 1) rfl (hp_row _ _ _ _ _ HZ5.out)) rfl ⟨rfl, ⟨.slice xa R1.length xc, ?_⟩, ?_⟩
    · exact (HO5.out.same fun k hk => hp_rowO w5 (w.heap.size + 1) k (frC (plR 0 zL zA) (plR 0 zL zA) (.slice none 0 0)) (by omega)).mono (by omega)
    · exact bl_row HB5.out (by omega) _
  · have hme : opM n L b = 0 := (HOM.out b).2 (by have h := HOPN.out; simpa using h)
    have hmb : ((0 : Int) != 0) = false := by simp
    have HX := hide (HOP.out b)
    rw [hme] at HX
    have HP0B := HP0
    clear HOPN HOP HOM hme
    go_enter Tryd.func63, Tryd.ntmps63
    go_wp2_with (first
      | (refine wpList_alloc_csY zeroFR rfl rfl _ (by first | (simp only [World.size_alloc]; rfl) | rfl) ?_)
      | (refine wpList_alloc_csY zeroPK rfl rfl _ rfl ?_)
      | (refine wpList_load_csY rowPK (sizePKl n L a0) rfl (.tmp 2) rfl w.heap.size rfl HP0.out ?_)
      | (go_at_call 73; refine (HRU.out _ HB0.out).mono ?_; rintro e w2 ⟨v2, rfl, ho2, hb2⟩; have hz2 := hb2.size; rw [hz0] at hz2 hb2 ho2; have HB2 := hide (HB0.out.trans (hb2.mono (by omega))); have HZ2 := hide ((hb2.block (w.heap.size + 1) (by omega)).trans HZ0.out); have HP2 := hide (HP0.out.below hb2 (by omega)); have HK2 := hide (pkAt.new w2 0 zL zA); have hb3 := bl_row ((Below.refl w2.heap.size w2).alloc (Nat.le_refl _) (.cells (rowV (plR 0 zL zA)) 55)) (Nat.le_refl _) (rowV (plR n L b)); have HZ3 := hide ((hb3.block (w.heap.size + 1) (by omega)).trans HZ2.out); have HP3 := hide (HP2.out.below hb3 (by omega)); have HK3 := hide (HK2.out.row (m := n) (K := L) (b := b)); have HB3 := hide (HB2.out.trans (hb3.mono (by omega))); have HO3 := hide (ho2.kept hb3); have HZS := hide (show ((w2.alloc (.cells (rowV (plR 0 zL zA)) 55)).setRow w2.heap.size (rowV (plR n L b))).heap.size = w2.heap.size + 1 by simp [World.setRow]); obtain ⟨xa, xc, hx⟩ := ho2.shape; subst hx; clear ho2 hb2 hb3)
      | (refine wpList_store_csY (sizePKl n L b) rfl (.tmp 7) (.tmp _) rfl w2.heap.size rfl rfl _ HK2.out (by simp [rowV, plR_len]) (rowV_one _) ?_)
      | (refine wpList_load_csY rowPK (sizePKl n L b) rfl (.tmp 7) rfl w2.heap.size rfl HK3.out ?_)
      | (go_at_call 45; refine (HX.out _).mono ?_; rintro e w5 ⟨rfl, hb5⟩; have hz5 := hb5.size; rw [HZS.out] at hz5; have HO5 := hide (HO3.out.kept hb5); have HZ5 := hide ((hb5.block (w.heap.size + 1) (by rw [HZS.out]; omega)).trans HZ3.out); have HB5 := hide (HB3.out.trans (hb5.mono (by rw [HZS.out]; omega))); have HP5 := hide (HP3.out.below hb5 (by rw [HZS.out]; omega)); have HK5 := hide (HK3.out.below hb5 (by rw [HZS.out]; omega)); clear hb5)
      | (refine wpList_load_csY rowPK (sizePKl n L a0) rfl (.tmp 2) rfl w.heap.size rfl HP5.out ?_)
      | (refine wpList_load_csY rowPK (sizePKl n L b) rfl (.tmp 7) rfl w2.heap.size rfl HK5.out ?_)
      | (refine wpList_build_fr rfl (.tmp 19) (.tmp 20) (.tmp 21) rfl n n L L a0 b xa R1.length xc rfl rfl rfl ?_)
      | (refine wpList_store_csY (cs := frC (plR n L a0) (plR n L b) (.slice xa R1.length xc)) (by rw [frC_size (plR_len _ _ _) (plR_len _ _ _)]; exact sizeFR) rfl (.tmp 4) (.tmp _) rfl (w.heap.size + 1) rfl rfl _ HZ5.out (by rw [frC_size (plR_len _ _ _) (plR_len _ _ _), frC_size (plR_len _ _ _) (plR_len _ _ _)]) (frC_one _ _ _ _ _) ?_))
    refine (show bodyPost _ _ _ Exit.ret _ _ from ?_)
    refine bodyPost_ret (v := .tuple #[.agg (frC (plR n L a0) (plR n L b) (.slice xa R1.length xc)), .bool true]) (results_cs2Y (cs := frC (plR n L a0) (plR n L b) (.slice xa R1.length xc)) rowFR (by rw [frC_size (plR_len _ _ _) (plR_len _ _ _)]; exact sizeFR) (fn := Tryd.f63) (p := 4) (q := 5) rfl _ _ (w.heap.size + 1) rfl (hp_row _ _ _ _ _ HZ5.out)) rfl ⟨.slice xa R1.length xc, rfl, ?_, ?_⟩
    · exact (HO5.out.same fun k hk => hp_rowO w5 (w.heap.size + 1) k (frC (plR n L a0) (plR n L b) (.slice xa R1.length xc)) (by omega)).mono (by omega)
    · exact bl_row HB5.out (by omega) (frC (plR n L a0) (plR n L b) (.slice xa R1.length xc))
end Go.Proofs.YtjmhmmenampgbaaDoor
