/- Families as keys of a map. -/
import Derived.Test.YtppojaekngeelaaDoorHp
import Derived.Test.YtppojaekngeelaaDoorHk
import Derived.DeepKeys3
import Derived.Maps.OwnSet
import Derived.Maps.OwnOps
import Derived.Maps.Views
import Derived.Test.YtppojaekngeelaaDoorMn
namespace Go.Proofs.YtppojaekngeelaaDoor
open Go.RowKit
open Go.Maps (Keyed)
open Go.WideMaps
set_option maxRecDepth 100000
set_option linter.unusedSimpArgs false
theorem intUI : Tryd.prog.underlying 3 = some (.int .i64) := by kernel_rfl
theorem boolUI : Tryd.prog.underlying 4 = some .bool := by kernel_rfl
theorem famUI : Tryd.prog.underlying 45 = some (.struct (Tryd.prog.fieldsOf 45)) := by kernel_rfl
theorem arrUI : Tryd.prog.underlying 43 = some (.array 128 4) := by kernel_rfl
theorem types2 : ∃ m, Tryd.prog.types.size = m + 3 := ⟨Tryd.prog.types.size - 3, by kernel_rfl⟩
theorem keyFam : Tryd.prog.keyType 45 = true := by kernel_rfl
theorem keyFamAt : Tryd.prog.keyTypeAt 3 45 = true := by kernel_rfl
theorem tiledFam : Tryd.prog.tiled 3 45 = true := by kernel_rfl
theorem wideFam : (match Tryd.prog.underlying 45 with | some (.array _ _) | some (.struct _) => true | _ => false) = true := by kernel_rfl
theorem lawFam : Keyed Tryd.prog 45 := Keyed.of_law (deep_law (m := 3) (by omega) keyFamAt tiledFam wideFam)
theorem lit_bool (m : Nat) (b : Bool) : Tryd.prog.keyLits (m + 1) 4 [.bool b] = some [.bool b] := by
  unfold Program.keyLits
  rw [boolUI]
theorem lit_arr (m : Nat) (F : Nat → Bool) : Tryd.prog.keyLits (m + 2) 43 (famRow F) = some ((List.range 128).map fun i => Lit.bool (F i)) := by
  unfold Program.keyLits
  rw [arrUI]
  have hc : Tryd.prog.cellsOf 43 = 128 := by kernel_rfl
  have hb : Tryd.prog.cellsOf 4 = 1 := by kernel_rfl
  have key : ∀ i, i < 128 → Tryd.prog.keyLits (m + 1) 4 (((famRow F).drop (i * Tryd.prog.cellsOf 4)).take (Tryd.prog.cellsOf 4)) = some [.bool (F i)] := by
    intro i hi
    rw [hb, Nat.mul_one]
    have h1 := famRow_get F i hi
    have h2 : ((famRow F).drop i).take 1 = [.bool (F i)] := by
      rw [List.take_one, List.head?_drop, h1]
      rfl
    rw [h2, lit_bool]
  have hm : (List.range 128).mapM (fun i => Tryd.prog.keyLits (m + 1) 4 (((famRow F).drop (i * Tryd.prog.cellsOf 4)).take (Tryd.prog.cellsOf 4))) = some ((List.range 128).map fun i => [Lit.bool (F i)]) := by
    have gen : ∀ l : List Nat, (∀ i ∈ l, i < 128) → l.mapM (fun i => Tryd.prog.keyLits (m + 1) 4 (((famRow F).drop (i * Tryd.prog.cellsOf 4)).take (Tryd.prog.cellsOf 4))) = some (l.map fun i => [Lit.bool (F i)]) := by
      intro l
      induction l with
      | nil => intro _; rfl
      | cons i r ih =>
        intro h
        rw [List.mapM_cons, key i (h i (by simp)), ih (fun j hj => h j (by simp [hj]))]
        rfl
    exact gen _ (fun i hi => List.mem_range.1 hi)
  simp only [famRow_len, hc, if_true, hm, Option.map_some]
  congr 1 <;> simp
theorem lit_int (m : Nat) (n : Int) (h : (Lit.int .i64 n).wf = true) : Tryd.prog.keyLits (m + 1) 3 [.int .i64 n] = some [.int .i64 n] := by
  unfold Program.keyLits
  rw [intUI]
  simp [h]
theorem fieldsFam : (Tryd.prog.fieldsOf 45).toList.map (fun f => (f.type, f.offset)) = [(3, 0), (43, 1)] := by kernel_rfl
theorem namesFam : (Tryd.prog.fieldsOf 45).all (·.name != "_") = true := by kernel_rfl
/-- The literal of a family as a key. -/
def kf (m : Nat) (F : Nat → Bool) : Lit := .string (keyBytes (Lit.int .i64 (m : Int) :: (List.range 128).map fun i => Lit.bool (F i)))
theorem keyOfFam (n : Int) (F : Nat → Bool) (hn : (Lit.int .i64 n).wf = true) : keyOf Tryd.prog 45 (.agg (fam n F)) = some (.string (keyBytes (Lit.int .i64 n :: (List.range 128).map fun i => Lit.bool (F i)))) := by
  have hc : Tryd.prog.cellsOf 45 = 129 := by kernel_rfl
  have hci : Tryd.prog.cellsOf 3 = 1 := by kernel_rfl
  have hca : Tryd.prog.cellsOf 43 = 128 := by kernel_rfl
  have hf : (Value.agg (fam n F)).formed Tryd.prog 45 = true := by
    unfold Value.formed
    rw [famUI]
    simp [fam_size, hc]
  obtain ⟨m, hm⟩ := types2
  have hl : (Value.agg (fam n F)).cells.toList = Value.int .i64 n :: famRow F := by simp [Value.cells, fam]
  have hk : Tryd.prog.keyLits (Tryd.prog.types.size + 1) 45 (Value.int .i64 n :: famRow F) = some (Lit.int .i64 n :: (List.range 128).map fun i => Lit.bool (F i)) := by
    rw [hm]
    unfold Program.keyLits
    rw [famUI]
    have hf2 := fieldsFam
    have hnm := namesFam
    generalize Tryd.prog.fieldsOf 45 = fs at hf2 hnm ⊢
    obtain ⟨fl⟩ := fs
    rcases fl with _ | ⟨f0, _ | ⟨f1, _ | ⟨f2, r⟩⟩⟩
    · simp at hf2
    · simp at hf2
    · simp at hf2
      obtain ⟨⟨e1, e2⟩, e3, e4⟩ := hf2
      simp only [hnm, hc, List.length_cons, famRow_len, and_self, if_true]
      rw [show ([f0, f1] : List Field).mapM (fun f => Tryd.prog.keyLits (m + 3) f.type (((Value.int .i64 n :: famRow F).drop f.offset).take (Tryd.prog.cellsOf f.type))) = some [[Lit.int .i64 n], (List.range 128).map fun i => Lit.bool (F i)] from by
        simp only [List.mapM_cons, List.mapM_nil, e1, e2, e3, e4, hci, hca, List.drop_zero, List.drop_succ_cons, List.take_succ_cons, List.take_zero]
        rw [lit_int (m + 2) n hn, List.take_of_length_le (by rw [famRow_len]; omega), lit_arr (m + 1) F]
        rfl]
      simp
    · simp at hf2
  unfold keyOf
  rw [famUI]
  simp only [keyFam, hf, Bool.and_self, if_true, hl, hk]
  rfl
theorem kf_is {m : Nat} (hm : m ≤ 7) (F : Nat → Bool) : keyOf Tryd.prog 45 (.agg (fam (m : Int) F)) = some (kf m F) :=
  keyOfFam (m : Int) F (by
    have : m = 0 ∨ m = 1 ∨ m = 2 ∨ m = 3 ∨ m = 4 ∨ m = 5 ∨ m = 6 ∨ m = 7 := by omega
    rcases this with rfl | rfl | rfl | rfl | rfl | rfl | rfl | rfl <;> decide)
theorem fam_inj {n : Int} {F G : Nat → Bool} (h : fam n F = fam n G) : ∀ i, i < 128 → F i = G i := by
  intro i hi
  have h1 := fam_get n F i hi
  rw [h, fam_get n G i hi] at h1
  exact (Value.bool.inj (Option.some.inj h1)).symm
theorem kf_inj {m : Nat} (hm : m ≤ 7) {F G : Nat → Bool} (hF : ∀ x, F x = true → x ≤ low m) (hG : ∀ x, G x = true → x ≤ low m) (h : kf m F = kf m G) : F = G := by
  have e := lawFam.inj (kf_is hm F) (by rw [h]; exact kf_is hm G)
  have e2 := fam_inj (Value.agg.inj e)
  have hlo := low_lt m hm
  funext x
  rcases Nat.lt_or_ge x 128 with hx | hx
  · exact e2 x hx
  · cases hf : F x
    · cases hg : G x
      · rfl
      · have := hG x hg; omega
    · have := hF x hf; omega
end Go.Proofs.YtppojaekngeelaaDoor
/- Contracts: the least total number of questions, the program's. -/
namespace Go.Proofs.YtppojaekngeelaaDoor
open Go.RowKit
open Go.Maps (Keyed IsMap)
set_option maxRecDepth 100000
set_option linter.unusedSimpArgs false
def mapAt (w : World) (b n : Nat) (D : DataW Unit) : Prop := w.ownsMap Tryd.prog 45 (plainElem Tryd.prog 3) b n D
def totOk (m : Nat) (D : DataW Unit) : Prop := ∀ F, (∀ x, F x = true → x ≤ low m) → Maps.has D (kf m F) = true → ∀ zd, D.atKey (kf m F) zd = .lit (.int .i64 (vmN gT m F : Int))
theorem totOk_new (m : Nat) : totOk m (.map []) := fun F _ h => by simp [Maps.has] at h
theorem totOk_put {m : Nat} (hm : m ≤ 7) {D : DataW Unit} (h : totOk m D) (hD : IsMap D) {G : Nat → Bool} (hG : ∀ x, G x = true → x ≤ low m) : totOk m (D.put (kf m G) (.lit (.int .i64 (vmN gT m G : Int)))) := by
  intro F hF hh zd
  by_cases e : kf m F = kf m G
  · have := kf_inj hm hF hG e
    subst this
    exact Maps.atKey_put_same hD (by unfold kf; trivial) _ _
  · rw [Maps.has_put_other e] at hh
    rw [Maps.atKey_put_other e]
    exact h F hF hh zd
theorem mapAt.own {w : World} {b n : Nat} {D : DataW Unit} (h : mapAt w b n D) : w.ownsMap Tryd.prog 45 (plainElem Tryd.prog 3) b n D := h
theorem mapAt.mk {w : World} {b n : Nat} {D : DataW Unit} (h : w.ownsMap Tryd.prog 45 (plainElem Tryd.prog 3) b n D) : mapAt w b n D := h
theorem mapAt.lt {w : World} {b n : Nat} {D : DataW Unit} (h : mapAt w b n D) : b < w.heap.size := World.ownsMap.lt h
theorem mapAt.isMap {w : World} {b n : Nat} {D : DataW Unit} (h : mapAt w b n D) : IsMap D := World.ownsMap.isMap h
theorem wf_small (q : Nat) (h : q ≤ 1000000) : (Lit.int .i64 (q : Int)).wf = true := by
  have h1 : IntKind.i64.min = -9223372036854775808 := by decide
  have h2 : IntKind.i64.max = 9223372036854775807 := by decide
  show (decide (IntKind.i64.min ≤ (q : Int)) && decide ((q : Int) ≤ IntKind.i64.max)) = true
  rw [h1, h2, decide_eq_true (by omega), decide_eq_true (by omega)]; rfl
theorem zeroI (w : World) : (zeroValue 3).run Tryd.prog w = .ok (.int .i64 0) w := by kernel_rfl
theorem mapAt.blx {w w' : World} {b n : Nat} {D : DataW Unit} (h : mapAt w b n D) (hb : Below w.heap.size w w') : mapAt w' b n D := World.ownsMap.kept h (⟨hb.os, hb.tape, hb.output, hb.size, fun k hk _ => hb.block k hk⟩ : w.grownBy w' none) (by simp)
theorem Blx.ofGrown {b : Nat} {w w' : World} (h : w.grownBy w' (some b)) : Blx (some b) w.heap.size w w' := ⟨h.os, h.tape, h.output, h.size, fun k hk hne => h.block k hk hne⟩
theorem tab.blx {w w' : World} {b : Nat} (h : tab w) (hb : Blx (some b) w.heap.size w w') (hne : 3 ≠ b) : tab w' := by
  obtain ⟨h1, h2⟩ := h
  refine ⟨Nat.lt_of_lt_of_le h1 hb.size, fun j hj => ?_⟩
  rw [World.cell?_of_block (w := w) (hb.block _ h1 (by simp; exact hne))]
  exact h2 j hj
theorem pc_subI : ∀ a, a < 128 → ∀ b, b < 128 → andNot a b = 0 → a ≠ b → pc a < pc b := by decide +kernel
theorem pc_zero0I : ∀ x, x < 128 → pc x = 0 → x = 0 := by decide +kernel
theorem pc_part {m i : Nat} (hm : m ≤ 7) {F : Nat → Bool} (h : (opN m F).testBit i = true) (b : Bool) : pc (opN m (ptF F i b)) < pc (opN m F) := by
  refine pc_subI _ (opN_lt m hm _) _ (opN_lt m hm _) ?_ ?_
  · apply Nat.eq_of_testBit_eq
    intro j
    rw [andNot_bit, Nat.zero_testBit]
    cases e : (opN m (ptF F i b)).testBit j
    · rfl
    · obtain ⟨h1, ⟨s, s1, s2, s3⟩, t, t1, t2, t3⟩ := (opN_bit m j _).1 e
      rw [(opN_bit m j F).2 ⟨h1, ⟨s, s1, ptF_in s2, s3⟩, t, t1, ptF_in t2, t3⟩]; rfl
  · intro e
    rw [← e] at h
    obtain ⟨_, ⟨s, _, s2, s3⟩, t, _, t2, t3⟩ := (opN_bit m i _).1 h
    rw [ptF_at, Bool.and_eq_true, s3] at s2
    rw [ptF_at, Bool.and_eq_true, t3] at t2
    cases b
    · simp at s2
    · simp at t2
/-- The least so far, 0 ahead of the first. -/
def tlTo (c : Nat → Int) (I : List Int) : Nat → Int
  | 0 => 0
  | k + 1 => if tlTo c I k = 0 ∨ c (nth I k) < tlTo c I k then c (nth I k) else tlTo c I k
theorem tl_is {c : Nat → Int} {I : List Int} (hc : ∀ j, j < I.length → 0 < c (nth I j)) : ∀ k, k ≤ I.length → (k = 0 ∧ tlTo c I k = 0) ∨ (0 < k ∧ (∀ j, j < k → tlTo c I k ≤ c (nth I j)) ∧ ∃ j, j < k ∧ tlTo c I k = c (nth I j))
  | 0, _ => .inl ⟨rfl, rfl⟩
  | k + 1, h => by
    right
    refine ⟨by omega, ?_⟩
    rw [tlTo]
    rcases tl_is hc k (by omega) with ⟨rfl, e⟩ | ⟨h1, h2, j0, hj0, e0⟩
    · rw [if_pos (.inl e)]
      exact ⟨fun j hj => by rw [show j = 0 by omega]; exact Int.le_refl _, 0, by omega, rfl⟩
    · have hne : tlTo c I k ≠ 0 := by have := hc j0 (by omega); omega
      by_cases hlt : c (nth I k) < tlTo c I k
      · rw [if_pos (.inr hlt)]
        refine ⟨fun j hj => ?_, k, by omega, rfl⟩
        rcases Nat.lt_or_ge j k with h3 | h3
        · have := h2 j h3; omega
        · rw [show j = k by omega]; exact Int.le_refl _
      · rw [if_neg (by intro h4; rcases h4 with h4 | h4; exact hne h4; exact hlt h4)]
        refine ⟨fun j hj => ?_, j0, by omega, e0⟩
        rcases Nat.lt_or_ge j k with h3 | h3
        · exact h2 j h3
        · rw [show j = k by omega]; omega
theorem tl_end {m : Nat} (hm7 : m ≤ 7) {F : Nat → Bool} (hF : ∀ x, F x = true → x ≤ low m) : tlTo (vcN gT m F) (itemsL (opN m F)) (itemsL (opN m F)).length = (vmN gT m F : Int) := by
  have hO8 := opN_lt m hm7 F
  obtain ⟨h1, h2, h3⟩ := items_seq hO8
  by_cases h0 : opN m F = 0
  · rw [vmN_zero h0, h0]; rfl
  · have hn := next_ex (c := vcN gT m F) hO8 h0
    have hp : ∀ j, j < (itemsL (opN m F)).length → 0 < vcN gT m F (nth (itemsL (opN m F)) j) := fun j _ => tm_pos hm7 hF _ h0
    obtain ⟨q, hq, hqe⟩ := h3 _ hn.1
    rw [vmN_step hm7 hF h0]
    rcases tl_is hp _ (Nat.le_refl _) with ⟨e, _⟩ | ⟨_, h4, j, hj, e⟩
    · omega
    · have a1 := h4 q hq
      rw [hqe] at a1
      have a2 := hn.2.1 _ (h1 j hj).2.2
      omega
attribute [local irreducible] p2 low memB risB famAt own mapAt
theorem ent_countI : enters Tryd.prog 69 := enters_of Tryd.func69 (by kernel_rfl) (by kernel_rfl)
end Go.Proofs.YtppojaekngeelaaDoor
