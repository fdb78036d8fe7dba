/- Contracts: SpaceText: the specification's and the program's. -/
import Derived.Test.YtppojaekngeelaaDoorSt
import Derived.Test.YtppojaekngeelaaDoorTo
import Derived.Test.YtppojaekngeelaaDoorTq
import Derived.Test.YtppojaekngeelaaDoorCt
import Derived.Maps.AppendAt
namespace Go.Proofs.YtppojaekngeelaaDoor
open Go.RowKit
set_option maxRecDepth 100000
set_option linter.unusedSimpArgs false
theorem okSp_len128 {n : Int} {l : List Int} (h : okSp n l = true) : l.length ≤ 128 := by
  rw [okSp_list h]
  exact setsTo_len _ 128
theorem okSp_r128T {n : Int} {l : List Int} (h : okSp n l = true) : ∀ j, j < l.length → 0 ≤ l[j]?.getD 0 ∧ l[j]?.getD 0 < 128 := fun j hj => by
  have h1 := okSp_pos h j hj
  have h2 := okSp_n h
  have := low_lt n.toNat (by omega)
  omega
theorem join_c (g c : Nat) (A : List (List UInt8)) (w : World) (hcells : ∀ (j : Nat) x, (A.map fun x => (⟨x.toArray⟩ : ByteArray))[j]? = some x → w.cell? ⟨g, 0 + j, none⟩ = some (.string x)) (hg : g < w.heap.size) (hA : A.length ≤ 128) (hc : A.length ≤ c) (hJ : (Lib.join A [44]).length ≤ 1000000) :
    Calls Tryd.prog 43 #[.slice (some ⟨g, 0, none⟩) A.length c, .string ⟨#[44]⟩] w fun e w' => e = .returned (.string ⟨(Lib.join A [44]).toArray⟩) ∧ Below w.heap.size w w' := by
  have e1 : (A.map fun x => (⟨x.toArray⟩ : ByteArray)).map (·.data.toList) = A := by
    rw [List.map_map]
    conv => rhs; rw [← List.map_id A]
    exact List.map_congr_left fun x _ => by simp
  have h := strings_Join g 0 c (A.map fun x => (⟨x.toArray⟩ : ByteArray)) ⟨#[44]⟩ w hcells hg (by rw [List.length_map]; omega) (by rw [List.length_map]; omega) (by rw [e1]; show (Lib.join A [44]).length ≤ _; omega)
  rw [e1, List.length_map] at h
  exact h
attribute [local irreducible] p2 low memB risB
set_option maxHeartbeats 1000000 in
theorem specSpaceText_c (n : Int) (v : Value) (l : List Int) (w : World) (hl : ints w.heap.size w v l) (hlen : l.length < 1000000000) (_ : tab w) :
    Calls Tryd.prog 7 #[.agg #[.int .i64 n, v]] w fun e w' => e = .returned (.tuple #[.string (stR n l), .bool (okSp n l)]) ∧ Below w.heap.size w w' := by
  have HL := hide ((hl.alloc (.cells #[.int .i64 n, v] 28)).mono (show w.heap.size ≤ (w.alloc (.cells #[.int .i64 n, v] 28)).heap.size by simp))
  have H0 := hide ((Below.refl w.heap.size w).alloc (Nat.le_refl _) (.cells #[.int .i64 n, v] 28))
  have HS0 := hide (hp_last w (.cells #[.int .i64 n, v] 28))
  have HZ := hide (show (w.alloc (.cells #[.int .i64 n, v] 28)).heap.size = w.heap.size + 1 by simp)
  clear hl
  cases hok : okSp n l
  · have HG := hide (show goodB n l = false by rw [← ok_good]; exact hok)
    rw [stR_no hok]
    clear hok
    go_enter Tryd.func7, Tryd.ntmps7
    go_wp2_with (go_at_call 20; refine (spGood_c n v l _ HL.out hlen).mono ?_; rw [HG.out]; rintro e w' ⟨rfl, hb⟩; have HB := hide (H0.out.trans (hb.mono (by rw [HZ.out]; omega))); clear hb)
    refine bodyPost_ret (v := .tuple #[.string ⟨#[]⟩, .bool false]) (by simp [results, Tryd.results7, go_sem]) rfl ⟨rfl, HB.out⟩
  · have HG := hide (show goodB n l = true by rw [← ok_good]; exact hok)
    have hn := okSp_n hok
    obtain ⟨N, rfl⟩ := Int.eq_ofNat_of_zero_le (show 0 ≤ n by omega)
    have HT := hide (fun (w' : World) (h1 : ints w'.heap.size w' v l) => spText_c N v l w' h1 (by omega) (okSp_r128T hok) (okSp_len128 hok))
    rw [stR_yes hok, Int.toNat_natCast]
    clear hok
    generalize (⟨(stA N l l.length).toArray⟩ : ByteArray) = A at HT ⊢
    go_enter Tryd.func7, Tryd.ntmps7
    go_wp2_with (first
      | (go_at_call 20; refine (spGood_c (N : Int) v l _ HL.out hlen).mono ?_; rw [HG.out]; rintro e w1 ⟨rfl, hb⟩; have hs1 := (hb.block w.heap.size (by rw [HZ.out]; omega)).trans HS0.out; have c0 := cells_at0 hs1; have c1 := cells_at1 hs1; have hz1 := hb.size; rw [HZ.out] at hz1; have HB1 := hide (H0.out.trans (hb.mono (by rw [HZ.out]; omega))); have HL1 := hide ((HL.out.below hb (Nat.le_refl _)).mono hb.size); clear hb hs1)
      | (go_at_call 21; refine (HT.out _ HL1.out).mono ?_; rintro e w2 ⟨rfl, hb2⟩; have HB2 := hide (HB1.out.trans (hb2.mono (by omega))); clear hb2 c0 c1))
    refine bodyPost_ret (v := .tuple #[.string A, .bool true]) (by simp [results, Tryd.results7, go_sem]) rfl ⟨rfl, HB2.out⟩
set_option maxHeartbeats 2000000 in
/-- Numbers with commas between them, the program's. -/
theorem withCommas_c (v : Value) (l : List Int) (w : World) (hI : ints w.heap.size w v l) (hR : ∀ j, j < l.length → 0 ≤ l[j]?.getD 0 ∧ l[j]?.getD 0 < 128) (hl128 : l.length ≤ 128) (hpos : 0 < l.length) (hT : tab w) :
    Calls Tryd.prog 25 #[v] w fun e w' => e = .returned (.string ⟨(stJ l l.length).toArray⟩) ∧ Below w.heap.size w w' := by
  have HI2 := hide hI
  have HR := hide hR
  have HT2 := hide hT
  clear hI hR hT
  go_enter Tryd.func25, Tryd.ntmps25
  go_wp2_with (refine wpList_len sliceT rfl (.tmp _) rfl _ rfl w.heap.size l HI2.out ?_)
  go_loopw [3, 8] (fun o i wr => ∃ k : Nat, k ≤ l.length ∧ i = .int .i64 (k : Int) ∧ Hid (ownT wr w.heap.size o ((l.take k).map fun a => Lib.decDigits a.toNat)) ∧ Hid (Below w.heap.size w wr)) (fun _ i _ => l.length - (intOf i).toNat)
  case atStart => exact ⟨0, by omega, rfl, ownT_nil _ _, Below.refl _ _⟩
  case round =>
    obtain ⟨k, hk, rfl, HO, HB⟩ := hrel
    have hsz := HB.out.size
    have HIW := hide ((HI2.out.below HB.out (Nat.le_refl _)).mono HB.out.size)
    have HTR := hide (HT2.out.below HB.out)
    have hAl : ((l.take k).map fun a => Lib.decDigits a.toNat).length ≤ 128 := by rw [List.length_map, List.length_take]; omega
    by_cases hlt : k < l.length
    · have hrk := HR.out k hlt
      have HN := hide (take_map_dec l k hlt)
      generalize ((l.take k).map fun a => Lib.decDigits a.toNat) = A at HO HN hAl
      generalize hx : l[k]?.getD 0 = x at hrk HN
      have HX := hide hx
      clear hx
      obtain ⟨m, rfl⟩ := Int.eq_ofNat_of_zero_le hrk.1
      rw [Int.toNat_natCast] at HN
      have HIT := hide (fun w' h => itoa_c m w' (by omega) h)
      generalize Lib.decDigits m = r at HN HIT
      go_wp2_with (first
        | (refine wpList_at sliceT intS rfl (.tmp _) (.tmp _) rfl _ rfl k rfl wr.heap.size l HIW.out hlt ?_; intro ad hcell hblk; rw [HX.out] at hcell)
        | (go_at_call 24; refine (HIT.out wr HTR.out).mono ?_; rintro e w3 ⟨rfl, hb3⟩; have hz3 := hb3.size; have HO3 := hide ((HO.out.kept hb3).kept ((Below.refl w3.heap.size w3).alloc (Nat.le_refl _) (.cells #[.string ⟨r.toArray⟩] 9))); have HB3 := hide ((HB.out.trans (hb3.mono hsz)).alloc (by omega) (.cells #[.string ⟨r.toArray⟩] 9)); clear hb3)
        | (at_builtin; refine wpList_appendT rfl (.tmp 12) (.tmp 15) rfl w.heap.size _ A rfl HO3.out _ r rfl (by simp [go_sem, strV]) (by simp; omega) (by omega) ?_; intro v8 w8 ho8 hb8; have HO8 := hide ho8; have HB8 := hide (HB3.out.trans hb8); clear ho8 hb8))
      go_roundw
      case rel => exact ⟨k + 1, by omega, by go_num, hide (by rw [HN.out]; exact HO8.out), HB8⟩
      case measure => simp [intOf]; omega
    · have hlt' : ¬ ((k : Int) < (l.length : Int)) := by omega
      have hkl : k = l.length := by omega
      have hJl := stJ_len l HR.out k hk
      have hj6 : (stJ l k).length ≤ 1000000 := by omega
      have hAl : ((l.take k).map fun a => Lib.decDigits a.toNat).length ≤ 128 := by rw [List.length_map, List.length_take]; omega
      have hAp : 0 < ((l.take k).map fun a => Lib.decDigits a.toNat).length := by rw [List.length_map, List.length_take]; omega
      have HJC := hide (fun (g c : Nat) (w' : World) h1 h2 h3 => join_c g c (List.map (fun a : Int => Lib.decDigits a.toNat) (l.take k)) w' h1 h2 hAl h3 hj6)
      rw [show Lib.join ((l.take k).map fun a => Lib.decDigits a.toNat) [44] = stJ l k from rfl] at HJC
      obtain ⟨g, c, hso, hgl, hgc, hcl⟩ := HO.out.cells hAp
      have HCL := hide hcl
      have HKL := hide hkl
      subst hso
      generalize ((l.take k).map fun a => Lib.decDigits a.toNat) = A at HO hAl HJC hAp hgc HCL
      clear hcl hkl
      go_wp2_with (go_at_call 43; refine (HJC.out g c wr (fun j x hj => HCL.out j x hj) hgl hgc).mono ?_; rintro e w4 ⟨rfl, hb4⟩; have HB4 := hide (HB.out.trans (hb4.mono hsz)); clear hb4)
      refine bodyPost_ret (v := .string ⟨(stJ l k).toArray⟩) (by simp [results, Tryd.results25, go_sem]) rfl ⟨by rw [← HKL.out], HB4.out⟩
set_option maxHeartbeats 2000000 in
theorem implSpaceText_c (n : Int) (v : Value) (l : List Int) (w : World) (hl : ints w.heap.size w v l) (hlen : l.length < 1000000000) (hT : tab w) :
    Calls Tryd.prog 9 #[.agg #[.int .i64 n, v]] w fun e w' => e = .returned (.tuple #[.string (stR n l), .bool (okSp n l)]) ∧ Below w.heap.size w w' := by
  have HL := hide ((hl.alloc (.cells #[.int .i64 n, v] 28)).mono (show w.heap.size ≤ (w.alloc (.cells #[.int .i64 n, v] 28)).heap.size by simp))
  have H0 := hide ((Below.refl w.heap.size w).alloc (Nat.le_refl _) (.cells #[.int .i64 n, v] 28))
  have HZ := hide (show (w.alloc (.cells #[.int .i64 n, v] 28)).heap.size = w.heap.size + 1 by simp)
  have HTW := hide hT
  have hgw := hT.1
  clear hl hT
  cases hok : okSp n l
  · have HK := hide hok
    rw [stR_no hok]
    clear hok
    go_enter Tryd.func9, Tryd.ntmps9
    go_wp2_with (first
      | (go_at_call 23; refine (familyOf_c n v l _ HL.out hlen).mono ?_; rw [famVal_no n l HK.out]; rintro e w1 ⟨rfl, hb1⟩; have hz1 := hb1.size; rw [HZ.out] at hz1; have HB1 := hide (bl_row ((H0.out.trans (hb1.mono (by rw [HZ.out]; omega))).alloc (by omega) (.cells (fam 0 noSet) 45)) (show w.heap.size ≤ w1.heap.size by omega) (fam 0 noSet)); clear hb1)
      | (refine wpList_alloc_fam zeroT rfl rfl _ (by first | (simp only [World.size_alloc]; rfl) | rfl) ?_)
      | (refine wpList_store_fam sizeT rfl (.tmp _) (.tmp _) rfl _ _ _ rfl rfl _ _ (famAt.new _ _ _ _) ?_))
    refine bodyPost_ret (v := .tuple #[.string ⟨#[]⟩, .bool false]) (by simp [results, Tryd.results9, go_sem]) rfl ⟨rfl, HB1.out⟩
  · have HK := hide hok
    have hn := okSp_n hok
    obtain ⟨N, rfl⟩ := Int.eq_ofNat_of_zero_le (show 0 ≤ n by omega)
    have hN7 : N < 1000 := by omega
    have HLI := hide (okSp_list hok)
    have HR := hide (okSp_r128T hok)
    have hl128 := okSp_len128 hok
    rw [stR_yes hok, Int.toNat_natCast]
    clear hok hn
    go_enter Tryd.func9, Tryd.ntmps9
    go_wp2_with (first
      | (go_at_call 23; refine (familyOf_c (N : Int) v l _ HL.out hlen).mono ?_; rw [famVal_yes (N : Int) l HK.out]; rintro e w1 ⟨rfl, hb1⟩; have hz1 := hb1.size; rw [HZ.out] at hz1; have HH := hide ((famAt.new 45 w1 0 noSet).row (N : Int) (marksTo l l.length)); have HB1 := hide (bl_row ((H0.out.trans (hb1.mono (by rw [HZ.out]; omega))).alloc (by omega) (.cells (fam 0 noSet) 45)) (show w.heap.size ≤ w1.heap.size by omega) (fam (N : Int) (marksTo l l.length))); clear hb1)
      | (refine wpList_alloc_fam zeroT rfl rfl _ (by first | (simp only [World.size_alloc]; rfl) | rfl) ?_)
      | (refine wpList_store_fam sizeT rfl (.tmp _) (.tmp _) rfl _ _ _ rfl rfl _ _ (famAt.new _ _ _ _) ?_)
      )
    have hpos : 0 < l.length := by obtain ⟨j, hj, _⟩ := (okSp_has HK.out 0).1 (okSp_spc HK.out).zero; omega
    have HA0 := hide (show (⟨(stA N l l.length).toArray⟩ : ByteArray) = (⟨(Lib.decDigits N).toArray⟩ ++ ⟨#[58]⟩) ++ ⟨(stJ l l.length).toArray⟩ by rw [show (⟨#[58]⟩ : ByteArray) = ⟨([58] : List UInt8).toArray⟩ from rfl, bytes_app, bytes_app]; rfl)
    have hsd := size_mk (Lib.decDigits N)
    have hdn := dec_len hN7
    have hsj := size_mk (stJ l l.length)
    have hJl := stJ_len l HR.out l.length (Nat.le_refl _)
    have HIT := hide (fun w' h => itoa_c N w' hN7 h)
    have HWC := hide (fun v2 w' h1 h2 => withCommas_c v2 l w' h1 HR.out hl128 hpos h2)
    generalize (⟨(Lib.decDigits N).toArray⟩ : ByteArray) = D at hsd HIT HA0
    generalize (⟨(stJ l l.length).toArray⟩ : ByteArray) = J at hsj HWC HA0
    have hs1 : ¬ (9223372036854775807 < D.size + (⟨#[58]⟩ : ByteArray).size) := by rw [show (⟨#[58]⟩ : ByteArray).size = 1 from rfl]; omega
    have hs2 : ¬ (9223372036854775807 < (D ++ ⟨#[58]⟩).size + J.size) := by rw [ByteArray.size_append, show (⟨#[58]⟩ : ByteArray).size = 1 from rfl]; omega
    generalize hE : D ++ (⟨#[58]⟩ : ByteArray) = E at hs2 HA0
    generalize (w1.alloc (.cells (fam 0 noSet) 45)).setRow w1.heap.size (fam (N : Int) (marksTo l l.length)) = W at *
    have hsz := HB1.out.size
    have HTV := hide (HTW.out.below HB1.out)
    have hlw := HH.out.lt
    refine wp_region_held (S := Below W.heap.size W) (by kernel_rfl) ?_
    have hS0 : Below W.heap.size W { W with drawn := W.drawn + 1 } := (Below.refl _ _).drew
    have hzz : ({ W with drawn := W.drawn + 1 } : World).heap.size = W.heap.size := rfl
    generalize ({ W with drawn := W.drawn + 1 } : World) = V0 at hS0 hzz ⊢
    refine wpAnyH_take (i := 0) (v := .pointer (some ⟨w1.heap.size, 0, none⟩)) rfl (by kernel_rfl) (by kernel_rfl) (by kernel_rfl) (fun _ _ _ h => h) (.inl ⟨rfl, fun w' _ => by go_simp⟩) hS0 ?_
    simp only [Act.put, List.getElem_toArray, List.getElem_cons_zero, List.getElem_cons_succ, List.setIfInBounds_toArray, List.set_cons_zero, List.set_cons_succ]
    refine wpAnyH_take (i := 1) rfl (by kernel_rfl) (by kernel_rfl) (by kernel_rfl) (fun _ _ _ h => h) (yields_load_cell rowI rfl (.tmp _) rfl ⟨w1.heap.size, 0, none⟩ rfl (.int .i64 (N : Int)) (fun w' h => (h.cell (p := ⟨w1.heap.size, 0, none⟩) hlw).trans HH.out.get0)) hS0 ?_
    simp only [Act.put, List.getElem_toArray, List.getElem_cons_zero, List.getElem_cons_succ, List.setIfInBounds_toArray, List.set_cons_zero, List.set_cons_succ]
    refine wpAnyH_take (i := 4) rfl (by kernel_rfl) (by kernel_rfl) (by kernel_rfl) (fun _ _ _ h => h) (yields_load_fam rowT sizeT rfl (.tmp _) rfl w1.heap.size rfl (N : Int) _ (fun w' h => HH.out.below h hlw)) hS0 ?_
    simp only [Act.put, List.getElem_toArray, List.getElem_cons_zero, List.getElem_cons_succ, List.setIfInBounds_toArray, List.set_cons_zero, List.set_cons_succ]
    refine anyH_call (i := 2) (by kernel_rfl) rfl rfl 24 (enters_of Tryd.func24 (by kernel_rfl) (by kernel_rfl)) _ _ rfl #[.int .i64 (N : Int)] rfl (HIT.out V0 (HTV.out.below hS0)) ?_
    rintro e V1 ⟨rfl, hb1⟩
    have hS1 : Below W.heap.size W V1 := hS0.trans (hb1.mono (by omega))
    have hz1 : W.heap.size ≤ V1.heap.size := hS1.size
    refine ⟨_, rfl, hS1, ?_⟩
    simp only [Act.put, List.getElem_toArray, List.getElem_cons_zero, List.getElem_cons_succ, List.setIfInBounds_toArray, List.set_cons_zero, List.set_cons_succ]
    refine wpAnyH_take (i := 3) (v := .string E) rfl (by kernel_rfl) (by kernel_rfl) (by kernel_rfl) (fun _ _ _ h => h) (.inl ⟨rfl, fun w' _ => by rw [← hE]; simp [go_sem, hs1]; omega⟩) hS1 ?_
    simp only [Act.put, List.getElem_toArray, List.getElem_cons_zero, List.getElem_cons_succ, List.setIfInBounds_toArray, List.set_cons_zero, List.set_cons_succ]
    refine anyH_call (i := 5) (by kernel_rfl) rfl rfl 26 (enters_of Tryd.func26 (by kernel_rfl) (by kernel_rfl)) _ _ rfl #[.agg (fam (N : Int) (marksTo l l.length))] rfl (sets_c (N : Int) (marksTo l l.length) V1) ?_
    rw [← HLI.out]
    rintro e V2 ⟨v2, rfl, ho2, hb2⟩
    have hS2 : Below W.heap.size W V2 := hS1.trans (hb2.mono hz1)
    have hz2 : W.heap.size ≤ V2.heap.size := hS2.size
    refine ⟨_, rfl, hS2, ?_⟩
    simp only [Act.put, List.getElem_toArray, List.getElem_cons_zero, List.getElem_cons_succ, List.setIfInBounds_toArray, List.set_cons_zero, List.set_cons_succ]
    refine anyH_call (i := 6) (by kernel_rfl) rfl rfl 25 (enters_of Tryd.func25 (by kernel_rfl) (by kernel_rfl)) _ _ rfl #[v2] rfl (HWC.out v2 V2 ho2.ints (HTV.out.below hS2)) ?_
    rintro e V3 ⟨rfl, hb3⟩
    have hS3 : Below W.heap.size W V3 := hS2.trans (hb3.mono hz2)
    refine ⟨_, rfl, hS3, ?_⟩
    simp only [Act.put, List.getElem_toArray, List.getElem_cons_zero, List.getElem_cons_succ, List.setIfInBounds_toArray, List.set_cons_zero, List.set_cons_succ]
    refine anyH_op (i := 7) (by kernel_rfl) rfl rfl (.string (E ++ J)) V3 ?q7 hS3 ?_
    case q7 => simp [go_sem, hs2]
    simp only [Act.put, List.getElem_toArray, List.getElem_cons_zero, List.getElem_cons_succ, List.setIfInBounds_toArray, List.set_cons_zero, List.set_cons_succ]
    refine anyH_op (i := 8) (by kernel_rfl) rfl rfl (.string (E ++ J)) V3 (by simp [go_sem]) hS3 ?_
    simp only [Act.put, List.getElem_toArray, List.getElem_cons_zero, List.getElem_cons_succ, List.setIfInBounds_toArray, List.set_cons_zero, List.set_cons_succ]
    refine anyH_op (i := 9) (by kernel_rfl) rfl rfl (.bool true) V3 (by simp [go_sem]) hS3 ?_
    refine wpAnyH_done (by kernel_rfl) ?_ _
    simp only [Act.put, List.getElem_toArray, List.getElem_cons_zero, List.getElem_cons_succ, List.setIfInBounds_toArray, List.set_cons_zero, List.set_cons_succ]
    have HB3 := hide (HB1.out.trans (hS3.mono hsz))
    clear hS0 hS1 hS2 hS3 hb1 hb2 hb3 ho2
    go_wp2
    go_ret2
    exact ⟨by rw [HA0.out]; rfl, HB3.out⟩
end Go.Proofs.YtppojaekngeelaaDoor
