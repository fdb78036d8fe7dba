/- Contracts: SpaceText: the specification's and the program's. -/
import Derived.Test.YtlgcnablhkmdaaaDoorSt
import Derived.Test.YtlgcnablhkmdaaaDoorTq
import Derived.Test.YtlgcnablhkmdaaaDoorCt
import Derived.Maps.AppendAt
namespace Go.Proofs.YtlgcnablhkmdaaaDoor
open Go.RowKit
set_option maxRecDepth 100000
set_option linter.unusedSimpArgs false
theorem okSp_len128 {n : Int} {l : List Int} (h : okSp n l = true) : l.length ≤ 128 := by
  rw [okSp_list h]
  exact setsTo_len _ 128
theorem okSp_r128T {n : Int} {l : List Int} (h : okSp n l = true) : ∀ j, j < l.length → 0 ≤ l[j]?.getD 0 ∧ l[j]?.getD 0 < 128 := fun j hj => by
  have h1 := okSp_pos h j hj
  have h2 := okSp_n h
  have := low_lt n.toNat (by omega)
  omega
/-- A slice of texts of one's own. -/
def strV (x : List UInt8) : Value := .string ⟨x.toArray⟩
def ownT (w : World) (base : Nat) (v : Value) (L : List (List UInt8)) : Prop := w.ownsRow base 9 1 v L.length (L.map strV)
theorem ownT_nil (w : World) (base : Nat) : ownT w base (.slice none 0 0) [] := World.ownsRow_nil _ _ _ _
theorem ownT.kept {w w' : World} {base : Nat} {v : Value} {L : List (List UInt8)} (h : ownT w base v L) (hb : Below w.heap.size w w') : ownT w' base v L := by
  obtain ⟨h1, h2⟩ := h
  refine ⟨h1, ?_⟩
  rcases h2 with h2 | ⟨g, cap, cur, e, hg, hh, r⟩
  · exact .inl h2
  · exact .inr ⟨g, cap, cur, e, hg, (hb.block g (hp_lt hh)).trans hh, r⟩
theorem ownT.lt {w : World} {base : Nat} {v : Value} {L : List (List UInt8)} (h : ownT w base v L) : ∀ g, v.ownBlock = some g → base ≤ g ∧ g < w.heap.size := World.ownsRow.lt h
theorem ownT.shape {w : World} {base : Nat} {v : Value} {L : List (List UInt8)} (h : ownT w base v L) : ∃ a c, v = .slice a L.length c := by
  obtain ⟨h1, h2⟩ := h
  rcases h2 with ⟨e, h0⟩ | ⟨g, cap, cur, e, _⟩
  · exact ⟨none, 0, by rw [e, h0]⟩
  · exact ⟨_, _, e⟩
theorem ownT.cells {w : World} {base : Nat} {v : Value} {L : List (List UInt8)} (h : ownT w base v L) (hpos : 0 < L.length) : ∃ g c, v = .slice (some ⟨g, 0, none⟩) L.length c ∧ g < w.heap.size ∧ L.length ≤ c ∧ ∀ (j : Nat) x, (L.map fun x => (⟨x.toArray⟩ : ByteArray))[j]? = some x → w.cell? ⟨g, 0 + j, none⟩ = some (.string x) := by
  obtain ⟨h1, h2⟩ := h
  rcases h2 with ⟨e, h0⟩ | ⟨g, cap, cur, e, hg, hh, h5, h6, h7, h8⟩
  · omega
  · refine ⟨g, cap, e, hp_lt hh, h5, fun j x hj => ?_⟩
    rw [Nat.zero_add, hp_cell hh]
    have hjl : j < L.length := by
      rcases Nat.lt_or_ge j L.length with h | h
      · exact h
      · rw [List.getElem?_eq_none (by simpa using h)] at hj; cases hj
    have h9 : (cur.toList.take (L.length * 1))[j]? = (L.map strV)[j]? := by rw [h8]
    rw [List.getElem?_take, if_pos (by omega), List.getElem?_map, List.getElem?_eq_getElem hjl] at h9
    rw [List.getElem?_map, List.getElem?_eq_getElem hjl] at hj
    rw [← Array.getElem?_toList, h9]
    simp only [Option.map_some, Option.some.injEq] at hj ⊢
    rw [← hj]
    rfl
theorem sliceStr : Tryd.prog.underlying 67 = some (.slice 9) := by kernel_rfl
theorem infoStr : (Tryd.prog.info? 9).map (fun i => (i.zero, i.size, i.bytes)) = some (some (.string ⟨#[]⟩), 1, 16) := by kernel_rfl
theorem wpList_appendT {ops : Array Oper} {rest : List Oper} {o : Oper} {a : Act} {w : World} {Q : Exit → Act → World → Prop} (hgd : o.guard = none) (s x : Operand)
    (ho : o.op = .call { callee := .builtin .append, args := #[s, x], argTypes := #[67, 67] }) (base : Nat) (v : Value) (L : List (List UInt8)) (hs : a.eval s = v) (hown : ownT w base v L)
    (g : Nat) (r : List UInt8) (hx : a.eval x = .slice (some ⟨g, 0, none⟩) 1 1) (hg : w.cell? ⟨g, 0, none⟩ = some (strV r)) (hbase : base ≤ w.heap.size) (hlen : L.length < 1000000000)
    (h : ∀ v' w', ownT w' base v' (L ++ [r]) → Below base w w' → wpList Tryd.prog ops Q rest (a.put o.dst v') w') : wpList Tryd.prog ops Q (o :: rest) a w := by
  obtain ⟨i0, hi, hz0, hz1, hz2⟩ : ∃ i, Tryd.prog.info? 9 = some i ∧ i.zero = some (.string ⟨#[]⟩) ∧ i.size = 1 ∧ i.bytes = 16 := by
    have hT := infoStr
    cases hq : Tryd.prog.info? 9 with
    | none => simp [hq] at hT
    | some j => simp [hq] at hT; exact ⟨j, rfl, hT.1, hT.2.1, hT.2.2⟩
  have hlt0 := hown.lt
  refine wpList_append_own_at w hgd s x 67 ho base 9 i0 (.string ⟨#[]⟩) 1 16 sliceStr hi hz0 hz1 hz2 rfl (by decide) v L.length _ hs hown ⟨g, 0, none⟩ 1 1 [strV r] hx rfl ?_ ?_ (by unfold maxLen; omega) (by omega) hbase ?_
  · intro j u hj
    match j, hj with
    | 0, hj => simp at hj; subst hj; simpa [Addr.add] using hg
  · intro u hu; simp at hu; subst hu; rfl
  · intro v' w' hown' hgrow _ _
    refine h v' w' ?_ ⟨hgrow.os, hgrow.tape, hgrow.output, hgrow.size, fun k hk => hgrow.block k (by omega) fun e => by have := hlt0 k e.symm; omega⟩
    unfold ownT
    rw [List.length_append, List.length_singleton, List.map_append, List.map_singleton]
    exact hown'
theorem join_c (g c : Nat) (A : List (List UInt8)) (w : World) (hcells : ∀ (j : Nat) x, (A.map fun x => (⟨x.toArray⟩ : ByteArray))[j]? = some x → w.cell? ⟨g, 0 + j, none⟩ = some (.string x)) (hg : g < w.heap.size) (hA : A.length ≤ 128) (hc : A.length ≤ c) (hJ : (Lib.join A [44]).length ≤ 1000000) :
    Calls Tryd.prog 43 #[.slice (some ⟨g, 0, none⟩) A.length c, .string ⟨#[44]⟩] w fun e w' => e = .returned (.string ⟨(Lib.join A [44]).toArray⟩) ∧ Below w.heap.size w w' := by
  have e1 : (A.map fun x => (⟨x.toArray⟩ : ByteArray)).map (·.data.toList) = A := by
    rw [List.map_map]
    conv => rhs; rw [← List.map_id A]
    exact List.map_congr_left fun x _ => by simp
  have h := strings_Join g 0 c (A.map fun x => (⟨x.toArray⟩ : ByteArray)) ⟨#[44]⟩ w hcells hg (by rw [List.length_map]; omega) (by rw [List.length_map]; omega) (by rw [e1]; show (Lib.join A [44]).length ≤ _; omega)
  rw [e1, List.length_map] at h
  exact h
attribute [local irreducible] p2 low memB risB
set_option maxHeartbeats 1000000 in
theorem specSpaceText_c (n : Int) (v : Value) (l : List Int) (w : World) (hl : ints w.heap.size w v l) (hlen : l.length < 1000000000) (_ : tab w) :
    Calls Tryd.prog 20 #[.agg #[.int .i64 n, v]] w fun e w' => e = .returned (.tuple #[.string (stR n l), .bool (okSp n l)]) ∧ Below w.heap.size w w' := by
  have HL := hide ((hl.alloc (.cells #[.int .i64 n, v] 29)).mono (show w.heap.size ≤ (w.alloc (.cells #[.int .i64 n, v] 29)).heap.size by simp))
  have H0 := hide ((Below.refl w.heap.size w).alloc (Nat.le_refl _) (.cells #[.int .i64 n, v] 29))
  have HS0 := hide (hp_last w (.cells #[.int .i64 n, v] 29))
  have HZ := hide (show (w.alloc (.cells #[.int .i64 n, v] 29)).heap.size = w.heap.size + 1 by simp)
  clear hl
  cases hok : okSp n l
  · have HG := hide (show goodB n l = false by rw [← ok_good]; exact hok)
    rw [stR_no hok]
    clear hok
    go_enter Tryd.func20, Tryd.ntmps20
    go_wp2_with (go_at_call 26; refine (spGood_c n v l _ HL.out hlen).mono ?_; rw [HG.out]; rintro e w' ⟨rfl, hb⟩; have HB := hide (H0.out.trans (hb.mono (by rw [HZ.out]; omega))); clear hb)
    refine bodyPost_ret (v := .tuple #[.string ⟨#[]⟩, .bool false]) (by simp [results, Tryd.results20, go_sem]) rfl ⟨rfl, HB.out⟩
  · have HG := hide (show goodB n l = true by rw [← ok_good]; exact hok)
    have hn := okSp_n hok
    obtain ⟨N, rfl⟩ := Int.eq_ofNat_of_zero_le (show 0 ≤ n by omega)
    have HT := hide (fun (w' : World) (h1 : ints w'.heap.size w' v l) => spText_c N v l w' h1 (by omega) (okSp_r128T hok) (okSp_len128 hok))
    rw [stR_yes hok, Int.toNat_natCast]
    clear hok
    generalize (⟨(stA N l l.length).toArray⟩ : ByteArray) = A at HT ⊢
    go_enter Tryd.func20, Tryd.ntmps20
    go_wp2_with (first
      | (go_at_call 26; refine (spGood_c (N : Int) v l _ HL.out hlen).mono ?_; rw [HG.out]; rintro e w1 ⟨rfl, hb⟩; have hs1 := (hb.block w.heap.size (by rw [HZ.out]; omega)).trans HS0.out; have c0 := cells_at0 hs1; have c1 := cells_at1 hs1; have hz1 := hb.size; rw [HZ.out] at hz1; have HB1 := hide (H0.out.trans (hb.mono (by rw [HZ.out]; omega))); have HL1 := hide ((HL.out.below hb (Nat.le_refl _)).mono hb.size); clear hb hs1)
      | (go_at_call 40; refine (HT.out _ HL1.out).mono ?_; rintro e w2 ⟨rfl, hb2⟩; have HB2 := hide (HB1.out.trans (hb2.mono (by omega))); clear hb2 c0 c1))
    refine bodyPost_ret (v := .tuple #[.string A, .bool true]) (by simp [results, Tryd.results20, go_sem]) rfl ⟨rfl, HB2.out⟩
set_option maxHeartbeats 2000000 in
theorem implSpaceText_c (n : Int) (v : Value) (l : List Int) (w : World) (hl : ints w.heap.size w v l) (hlen : l.length < 1000000000) (hT : tab w) :
    Calls Tryd.prog 21 #[.agg #[.int .i64 n, v]] w fun e w' => e = .returned (.tuple #[.string (stR n l), .bool (okSp n l)]) ∧ Below w.heap.size w w' := by
  have HL := hide ((hl.alloc (.cells #[.int .i64 n, v] 29)).mono (show w.heap.size ≤ (w.alloc (.cells #[.int .i64 n, v] 29)).heap.size by simp))
  have H0 := hide ((Below.refl w.heap.size w).alloc (Nat.le_refl _) (.cells #[.int .i64 n, v] 29))
  have HZ := hide (show (w.alloc (.cells #[.int .i64 n, v] 29)).heap.size = w.heap.size + 1 by simp)
  have HTW := hide hT
  have hgw := hT.1
  clear hl hT
  cases hok : okSp n l
  · have HK := hide hok
    rw [stR_no hok]
    clear hok
    go_enter Tryd.func21, Tryd.ntmps21
    go_wp2_with (first
      | (go_at_call 30; refine (familyOf_c n v l _ HL.out hlen).mono ?_; rw [famVal_no n l HK.out]; rintro e w1 ⟨rfl, hb1⟩; have hz1 := hb1.size; rw [HZ.out] at hz1; have HB1 := hide (bl_row ((H0.out.trans (hb1.mono (by rw [HZ.out]; omega))).alloc (by omega) (.cells (fam 0 noSet) 52)) (show w.heap.size ≤ w1.heap.size by omega) (fam 0 noSet)); clear hb1)
      | (refine wpList_alloc_fam zeroT rfl rfl _ (by first | (simp only [World.size_alloc]; rfl) | rfl) ?_)
      | (refine wpList_store_fam sizeT rfl (.tmp _) (.tmp _) rfl _ _ _ rfl rfl _ _ (famAt.new _ _ _ _) ?_))
    refine bodyPost_ret (v := .tuple #[.string ⟨#[]⟩, .bool false]) (by simp [results, Tryd.results21, go_sem]) rfl ⟨rfl, HB1.out⟩
  · have HK := hide hok
    have hn := okSp_n hok
    obtain ⟨N, rfl⟩ := Int.eq_ofNat_of_zero_le (show 0 ≤ n by omega)
    have hN7 : N < 1000 := by omega
    have HLI := hide (okSp_list hok)
    have HR := hide (okSp_r128T hok)
    have hl128 := okSp_len128 hok
    rw [stR_yes hok, Int.toNat_natCast]
    clear hok hn
    go_enter Tryd.func21, Tryd.ntmps21
    go_wp2_with (first
      | (go_at_call 30; refine (familyOf_c (N : Int) v l _ HL.out hlen).mono ?_; rw [famVal_yes (N : Int) l HK.out]; rintro e w1 ⟨rfl, hb1⟩; have hz1 := hb1.size; rw [HZ.out] at hz1; have HH := hide ((famAt.new 52 w1 0 noSet).row (N : Int) (marksTo l l.length)); have HB1 := hide (bl_row ((H0.out.trans (hb1.mono (by rw [HZ.out]; omega))).alloc (by omega) (.cells (fam 0 noSet) 52)) (show w.heap.size ≤ w1.heap.size by omega) (fam (N : Int) (marksTo l l.length))); clear hb1)
      | (refine wpList_alloc_fam zeroT rfl rfl _ (by first | (simp only [World.size_alloc]; rfl) | rfl) ?_)
      | (refine wpList_store_fam sizeT rfl (.tmp _) (.tmp _) rfl _ _ _ rfl rfl _ _ (famAt.new _ _ _ _) ?_)
      | (refine wpList_load_fam rowT sizeT rfl (.tmp _) rfl _ rfl (N : Int) _ HH.out ?_)
      | (go_at_call 41; refine (sets_c (N : Int) (marksTo l l.length) _).mono ?_; rw [← HLI.out]; rintro e w2 ⟨v2, rfl, ho2, hb2⟩; have HI2 := hide ho2.ints; have hz2 : w1.heap.size + 1 ≤ w2.heap.size := (by have := hb2.size; simpa [World.setRow] using this); have HH2 := hide (HH.out.below hb2 HH.out.lt); have HB2 := hide (HB1.out.trans (hb2.mono (by simp [World.setRow]; omega))); clear ho2 hb2)
      | (refine wpList_len sliceT rfl (.tmp _) rfl _ rfl w2.heap.size l HI2.out ?_))
    have HT2 := hide (HTW.out.belowB HTW.out HB2.out (Nat.le_refl _))
    have hg0 := HH2.out.get0
    go_loopw [6, 19] (fun o i wr => ∃ k : Nat, k ≤ l.length ∧ i = .int .i64 (k : Int) ∧ Hid (ownT wr w2.heap.size o ((l.take k).map fun a => Lib.decDigits a.toNat)) ∧ Hid (Below w2.heap.size w2 wr)) (fun _ i _ => l.length - (intOf i).toNat)
    case atStart => exact ⟨0, by omega, rfl, ownT_nil _ _, Below.refl _ _⟩
    case round =>
      obtain ⟨k, hk, rfl, HO, HB⟩ := hrel
      have hsz := HB.out.size
      have HIW := hide ((HI2.out.below HB.out (Nat.le_refl _)).mono HB.out.size)
      have HTR := hide (HT2.out.below HB.out)
      have hAl : ((l.take k).map fun a => Lib.decDigits a.toNat).length ≤ 128 := by rw [List.length_map, List.length_take]; omega
      by_cases hlt : k < l.length
      · have hrk := HR.out k hlt
        have HN := hide (take_map_dec l k hlt)
        generalize ((l.take k).map fun a => Lib.decDigits a.toNat) = A at HO HN hAl
        generalize hx : l[k]?.getD 0 = x at hrk HN
        have HX := hide hx
        clear hx
        obtain ⟨m, rfl⟩ := Int.eq_ofNat_of_zero_le hrk.1
        rw [Int.toNat_natCast] at HN
        have HIT := hide (fun w' h => itoa_c m w' (by omega) h)
        generalize Lib.decDigits m = r at HN HIT
        clear hg0
        go_wp2_with (first
          | (refine wpList_at sliceT intS rfl (.tmp _) (.tmp _) rfl _ rfl k rfl wr.heap.size l HIW.out hlt ?_; intro ad hcell hblk; rw [HX.out] at hcell)
          | (go_at_call 42; refine (HIT.out wr HTR.out).mono ?_; rintro e w3 ⟨rfl, hb3⟩; have hz3 := hb3.size; have HO3 := hide ((HO.out.kept hb3).kept ((Below.refl w3.heap.size w3).alloc (Nat.le_refl _) (.cells #[.string ⟨r.toArray⟩] 9))); have HB3 := hide ((HB.out.trans (hb3.mono hsz)).alloc (by omega) (.cells #[.string ⟨r.toArray⟩] 9)); clear hb3)
          | (at_builtin; refine wpList_appendT rfl (.tmp 23) (.tmp 26) rfl w2.heap.size _ A rfl HO3.out _ r rfl (by simp [go_sem, strV]) (by simp; omega) (by omega) ?_; intro v8 w8 ho8 hb8; have HO8 := hide ho8; have HB8 := hide (HB3.out.trans hb8); clear ho8 hb8))
        go_roundw
        case rel => exact ⟨k + 1, by omega, by go_num, hide (by rw [HN.out]; exact HO8.out), HB8⟩
        case measure => simp [intOf]; omega
      · have hlt' : ¬ ((k : Int) < (l.length : Int)) := by omega
        have hkl : k = l.length := by omega
        have hpos : 0 < l.length := by obtain ⟨j, hj, _⟩ := (okSp_has HK.out 0).1 (okSp_spc HK.out).zero; omega
        have hJl := stJ_len l HR.out k hk
        have HA0 := hide (show (⟨(stA N l l.length).toArray⟩ : ByteArray) = (⟨(Lib.decDigits N).toArray⟩ ++ ⟨#[58]⟩) ++ ⟨(stJ l k).toArray⟩ by rw [show (⟨#[58]⟩ : ByteArray) = ⟨([58] : List UInt8).toArray⟩ from rfl, bytes_app, bytes_app, ← hkl]; rfl)
        have hj6 : (stJ l k).length ≤ 1000000 := by omega
        have HJC := hide (fun (g c : Nat) (w' : World) h1 h2 h3 => join_c g c (List.map (fun a : Int => Lib.decDigits a.toNat) (l.take k)) w' h1 h2 hAl h3 hj6)
        rw [show Lib.join ((l.take k).map fun a => Lib.decDigits a.toNat) [44] = stJ l k from rfl] at HJC
        have hAp : 0 < ((l.take k).map fun a => Lib.decDigits a.toNat).length := by rw [List.length_map, List.length_take]; omega
        obtain ⟨g, c, hso, hgl, hgc, hcl⟩ := HO.out.cells hAp
        have HCL := hide hcl
        subst hso
        have hsd := size_mk (Lib.decDigits N)
        have hdn := dec_len hN7
        have hsj := size_mk (stJ l k)
        have HIT := hide (fun w' h => itoa_c N w' hN7 h)
        generalize ((l.take k).map fun a => Lib.decDigits a.toNat) = A at HO hAl HJC hAp hgc HCL
        generalize (⟨(Lib.decDigits N).toArray⟩ : ByteArray) = D at hsd HIT HA0
        generalize (⟨(stJ l k).toArray⟩ : ByteArray) = J at hsj HJC HA0
        have hs1 : ¬ (9223372036854775807 < D.size + (⟨#[58]⟩ : ByteArray).size) := by rw [show (⟨#[58]⟩ : ByteArray).size = 1 from rfl]; omega
        have hs2 : ¬ (9223372036854775807 < (D ++ ⟨#[58]⟩).size + J.size) := by rw [ByteArray.size_append, show (⟨#[58]⟩ : ByteArray).size = 1 from rfl]; omega
        have hgr := (HH2.out.below HB.out HH2.out.lt).get0
        clear hcl hg0
        generalize hE : D ++ (⟨#[58]⟩ : ByteArray) = E at hs2 HA0
        go_wp2_with (first
          | (go_at_call 42; refine (HIT.out wr HTR.out).mono ?_; rintro e w3 ⟨rfl, hb3⟩; have hz3 := hb3.size; have HB3 := hide hb3; clear hb3)
          | (go_at_call 43; refine (HJC.out g c w3 (fun j x hj => (HB3.out.cell (p := ⟨g, 0 + j, none⟩) hgl).trans (HCL.out j x hj)) (by omega) hgc).mono ?_; rintro e w4 ⟨rfl, hb4⟩; have HB4 := hide (HB3.out.trans (hb4.mono hz3)); clear hb4))
        refine bodyPost_ret (v := .tuple #[.string (E ++ J), .bool true]) (by simp [results, Tryd.results21, go_sem]) rfl ⟨by rw [HA0.out], HB2.out.trans ((HB.out.mono HB2.out.size).trans (HB4.out.mono (Nat.le_trans HB2.out.size hsz)))⟩
end Go.Proofs.YtlgcnablhkmdaaaDoor
