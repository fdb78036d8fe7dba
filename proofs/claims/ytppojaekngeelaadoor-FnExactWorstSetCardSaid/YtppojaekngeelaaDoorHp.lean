/- Plain mathematics: the least number of questions in the worst case, and the least total number. -/
import Derived.Test.YtppojaekngeelaaDoorHh
import Derived.Test.YtppojaekngeelaaDoorKa
namespace Go.Proofs.YtppojaekngeelaaDoor
open Go.RowKit
set_option maxRecDepth 100000
theorem mnTo_congr {c d : Nat → Int} {O : Nat} (h : ∀ i, O.testBit i = true → c i = d i) : ∀ k, mnTo c O k = mnTo d O k
  | 0 => rfl
  | k + 1 => by
    rw [mnTo, mnTo, mnTo_congr h k]
    cases hb : O.testBit k
    · rfl
    · rcases mnTo_is d O k with ⟨e, _⟩ | ⟨i, e, _, hi, _⟩
      · rw [e]; rfl
      · rw [e, Int.toNat_natCast, h k hb, h i hi]
theorem mnI_congr {c d : Nat → Int} {O : Nat} (h : ∀ i, O.testBit i = true → c i = d i) : mnI c O = mnI d O := by unfold mnI; rw [mnTo_congr h]
/-- The least value, if g tells that of a first question of both parts' values, with f as fuel. -/
def vmF (g : (Nat → Bool) → Nat → Nat → Nat) (n : Nat) : Nat → (Nat → Bool) → Nat
  | 0, _ => 0
  | f + 1, F => if opN n F = 0 then 0 else
      let c : Nat → Int := fun i => ((g F (vmF g n f (ptF F i true)) (vmF g n f (ptF F i false)) : Nat) : Int)
      (c (mnI c (opN n F))).toNat
def vmN (g : (Nat → Bool) → Nat → Nat → Nat) (n : Nat) (F : Nat → Bool) : Nat := vmF g n (cntS F) F
/-- The value if one begins with an item. -/
def vcN (g : (Nat → Bool) → Nat → Nat → Nat) (n : Nat) (F : Nat → Bool) (i : Nat) : Int := ((g F (vmN g n (ptF F i true)) (vmN g n (ptF F i false)) : Nat) : Int)
/-- The item with which a best strategy begins. -/
def viN (g : (Nat → Bool) → Nat → Nat → Nat) (n : Nat) (F : Nat → Bool) : Nat := if opN n F = 0 then 0 else mnI (vcN g n F) (opN n F)
section
variable {g : (Nat → Bool) → Nat → Nat → Nat}
theorem vmF_same (n : Nat) (hn : n ≤ 7) : ∀ f h F, (∀ x, F x = true → x ≤ low n) → cntS F ≤ f → cntS F ≤ h → vmF g n f F = vmF g n h F := by
  intro f
  induction f with
  | zero =>
    intro h F hF h1 h2
    have hz : opN n F = 0 := (opN_zero hn hF).2 (by omega)
    cases h with
    | zero => rfl
    | succ h => rw [vmF, vmF, if_pos hz]
  | succ f ih =>
    intro h F hF h1 h2
    cases h with
    | zero =>
      have hz : opN n F = 0 := (opN_zero hn hF).2 (by omega)
      rw [vmF, vmF, if_pos hz]
    | succ h =>
      rw [vmF, vmF]
      by_cases hz : opN n F = 0
      · rw [if_pos hz, if_pos hz]
      · rw [if_neg hz, if_neg hz]
        have key : ∀ i, (opN n F).testBit i = true → ((g F (vmF g n f (ptF F i true)) (vmF g n f (ptF F i false)) : Nat) : Int) = ((g F (vmF g n h (ptF F i true)) (vmF g n h (ptF F i false)) : Nat) : Int) := by
          intro i hi
          have a1 := part_less hi true
          have a2 := part_less hi false
          rw [ih h (ptF F i true) (low_part hF) (by omega) (by omega), ih h (ptF F i false) (low_part hF) (by omega) (by omega)]
        have e := mnI_congr key
        dsimp only
        rw [e]
        have hb := (next_ex (c := fun i => ((g F (vmF g n h (ptF F i true)) (vmF g n h (ptF F i false)) : Nat) : Int)) (opN_lt n hn F) hz).1
        rw [key _ hb]
theorem vmN_zero {n : Nat} {F : Nat → Bool} (h : opN n F = 0) : vmN g n F = 0 := by
  unfold vmN
  cases cntS F with
  | zero => rfl
  | succ k => rw [vmF, if_pos h]
theorem vmN_step {n : Nat} (hn : n ≤ 7) {F : Nat → Bool} (hF : ∀ x, F x = true → x ≤ low n) (h : opN n F ≠ 0) : (vmN g n F : Int) = vcN g n F (mnI (vcN g n F) (opN n F)) := by
  have hc : ¬ cntS F ≤ 1 := fun h2 => h ((opN_zero hn hF).2 h2)
  obtain ⟨k, hk⟩ : ∃ k, cntS F = k + 1 := ⟨cntS F - 1, by omega⟩
  have key : ∀ i, (opN n F).testBit i = true → ((g F (vmF g n k (ptF F i true)) (vmF g n k (ptF F i false)) : Nat) : Int) = vcN g n F i := by
    intro i hi
    have a1 := part_less hi true
    have a2 := part_less hi false
    unfold vcN vmN
    rw [vmF_same n hn k _ (ptF F i true) (low_part hF) (by omega) (Nat.le_refl _), vmF_same n hn k _ (ptF F i false) (low_part hF) (by omega) (Nat.le_refl _)]
  unfold vmN
  rw [hk, vmF, if_neg h]
  dsimp only
  rw [mnI_congr key, key _ (next_ex (opN_lt n hn F) h).1]
  have : 0 ≤ vcN g n F (mnI (vcN g n F) (opN n F)) := by unfold vcN; omega
  rw [Int.toNat_of_nonneg this]
theorem vmN_next {n : Nat} (hn : n ≤ 7) {F : Nat → Bool} (hF : ∀ x, F x = true → x ≤ low n) (h : opN n F ≠ 0) :
    (opN n F).testBit (viN g n F) = true ∧ (vmN g n F : Int) = vcN g n F (viN g n F) ∧ (∀ j, (opN n F).testBit j = true → (vmN g n F : Int) ≤ vcN g n F j) ∧ ∀ j, (opN n F).testBit j = true → vcN g n F j = (vmN g n F : Int) → viN g n F ≤ j := by
  have h1 := next_ex (c := vcN g n F) (opN_lt n hn F) h
  have h2 := vmN_step (g := g) hn hF h
  unfold viN
  rw [if_neg h]
  exact ⟨h1.1, h2, fun j hj => by rw [h2]; exact h1.2.1 j hj, fun j hj e => h1.2.2 j hj (by rw [e, h2])⟩
theorem vi_of {n : Nat} (hn : n ≤ 7) {F : Nat → Bool} (hF : ∀ x, F x = true → x ≤ low n) {i : Nat} (hi : (opN n F).testBit i = true) (hc : vcN g n F i = (vmN g n F : Int)) (hm : ∀ j, j < i → (opN n F).testBit j = true → vcN g n F j ≠ (vmN g n F : Int)) : viN g n F = i := by
  have h : opN n F ≠ 0 := by intro e; rw [e, Nat.zero_testBit] at hi; cases hi
  obtain ⟨a1, a2, _, a4⟩ := vmN_next (g := g) hn hF h
  have := a4 i hi hc
  rcases Nat.lt_or_ge (viN g n F) i with h2 | h2
  · exact absurd a2.symm (hm _ h2 a1)
  · omega
end
/-! The worst case. -/
def gW (_ : Nat → Bool) (a b : Nat) : Nat := 1 + max a b
/-- A strategy with k questions at most tells at most 2^k sets apart. -/
theorem cnt_pow (n : Nat) (hn : n ≤ 7) : ∀ c F, (∀ x, F x = true → x ≤ low n) → cntS F ≤ c → cntS F ≤ 2 ^ vmN gW n F := by
  intro c
  induction c with
  | zero => intro F _ h; exact Nat.le_trans h (Nat.zero_le _)
  | succ c ih =>
    intro F hF hc
    by_cases h : opN n F = 0
    · exact Nat.le_trans ((opN_zero hn hF).1 h) Nat.one_le_two_pow
    · obtain ⟨a1, a2, _, _⟩ := vmN_next (g := gW) hn hF h
      have b1 := part_less a1 true
      have b2 := part_less a1 false
      have c1 := ih (ptF F (viN gW n F) true) (low_part hF) (by omega)
      have c2 := ih (ptF F (viN gW n F) false) (low_part hF) (by omega)
      have hs := parts_cnt F (viN gW n F)
      have e : vmN gW n F = 1 + max (vmN gW n (ptF F (viN gW n F) true)) (vmN gW n (ptF F (viN gW n F) false)) := by
        unfold vcN gW at a2; exact Int.ofNat.inj a2
      rw [e]
      have d1 : 2 ^ vmN gW n (ptF F (viN gW n F) true) ≤ 2 ^ max (vmN gW n (ptF F (viN gW n F) true)) (vmN gW n (ptF F (viN gW n F) false)) := Nat.pow_le_pow_right (by omega) (Nat.le_max_left _ _)
      have d2 : 2 ^ vmN gW n (ptF F (viN gW n F) false) ≤ 2 ^ max (vmN gW n (ptF F (viN gW n F) true)) (vmN gW n (ptF F (viN gW n F) false)) := Nat.pow_le_pow_right (by omega) (Nat.le_max_right _ _)
      rw [Nat.pow_add]
      omega
theorem hv_wm {n : Nat} (hn : n ≤ 7) {F : Nat → Bool} (hF : ∀ x, F x = true → x ≤ low n) : hvN (cntS F) ≤ vmN gW n F := by
  have h1 := cnt_pow n hn _ F hF (Nat.le_refl _)
  have h2 := cntS_le F
  rcases Nat.lt_or_ge (vmN gW n F) (hvN (cntS F)) with h | h
  · have h7 := hv_le (cntS F)
    have := (hv_lt h2 (show vmN gW n F ≤ 7 by omega)).2 h
    omega
  · exact h
theorem wm_le (n : Nat) (hn : n ≤ 7) : ∀ c F, (∀ x, F x = true → x ≤ low n) → cntS F ≤ c → vmN gW n F ≤ c := by
  intro c
  induction c with
  | zero => intro F hF h; rw [vmN_zero ((opN_zero hn hF).2 (by omega))]; omega
  | succ c ih =>
    intro F hF hc
    by_cases h : opN n F = 0
    · rw [vmN_zero h]; omega
    · obtain ⟨a1, a2, _, _⟩ := vmN_next (g := gW) hn hF h
      have b1 := part_less a1 true
      have b2 := part_less a1 false
      have c1 := ih (ptF F (viN gW n F) true) (low_part hF) (by omega)
      have c2 := ih (ptF F (viN gW n F) false) (low_part hF) (by omega)
      have e : vmN gW n F = 1 + max (vmN gW n (ptF F (viN gW n F) true)) (vmN gW n (ptF F (viN gW n F) false)) := by
        unfold vcN gW at a2; exact Int.ofNat.inj a2
      omega
/-! The total number. -/
def gT (F : Nat → Bool) (a b : Nat) : Nat := cntS F + a + b
theorem tm_le (n : Nat) (hn : n ≤ 7) : ∀ c F, (∀ x, F x = true → x ≤ low n) → cntS F ≤ c → vmN gT n F ≤ cntS F * c := by
  intro c
  induction c with
  | zero => intro F hF h; rw [vmN_zero ((opN_zero hn hF).2 (by omega))]; omega
  | succ c ih =>
    intro F hF hc
    by_cases h : opN n F = 0
    · rw [vmN_zero h]; omega
    · obtain ⟨a1, a2, _, _⟩ := vmN_next (g := gT) hn hF h
      have b1 := part_less a1 true
      have b2 := part_less a1 false
      have c1 := ih (ptF F (viN gT n F) true) (low_part hF) (by omega)
      have c2 := ih (ptF F (viN gT n F) false) (low_part hF) (by omega)
      have hs := parts_cnt F (viN gT n F)
      have e : vmN gT n F = cntS F + vmN gT n (ptF F (viN gT n F) true) + vmN gT n (ptF F (viN gT n F) false) := by
        unfold vcN gT at a2; exact Int.ofNat.inj a2
      rw [e, Nat.mul_succ, ← hs, Nat.add_mul]
      omega
theorem tm_pos {n : Nat} (hn : n ≤ 7) {F : Nat → Bool} (hF : ∀ x, F x = true → x ≤ low n) (i : Nat) (h : opN n F ≠ 0) : 0 < vcN gT n F i := by
  have : ¬ cntS F ≤ 1 := fun h2 => h ((opN_zero hn hF).2 h2)
  unfold vcN gT
  omega
end Go.Proofs.YtppojaekngeelaaDoor
