/- Contracts: the specification's table of answers: a new one, what is left and known. -/
import Derived.Test.YtppojaekngeelaaDoorHr
import Derived.Test.YtppojaekngeelaaDoorHp
import Derived.Test.YtppojaekngeelaaDoorMk
import Derived.Test.YtppojaekngeelaaDoorTw
namespace Go.Proofs.YtppojaekngeelaaDoor
open Go.RowKit
set_option maxRecDepth 100000
set_option linter.unusedSimpArgs false
/-- As `Below`, but two blocks may have turned. -/
structure Blz (b1 b2 : Nat) (B : Nat) (w w' : World) : Prop where
  os : w'.os = w.os
  tape : w'.tape = w.tape
  output : w'.output = w.output
  size : w.heap.size ≤ w'.heap.size
  block : ∀ k, k < B → k ≠ b1 → k ≠ b2 → w'.heap[k]? = w.heap[k]?
theorem Blz.of {b1 b2 B : Nat} {w w' : World} (h : Below B w w') : Blz b1 b2 B w w' := ⟨h.os, h.tape, h.output, h.size, fun k hk _ _ => h.block k hk⟩
theorem Blz.refl (b1 b2 B : Nat) (w : World) : Blz b1 b2 B w w := Blz.of (Below.refl _ _)
theorem Blz.trans {b1 b2 B : Nat} {a b c : World} (h : Blz b1 b2 B a b) (k : Blz b1 b2 B b c) : Blz b1 b2 B a c :=
  ⟨k.os.trans h.os, k.tape.trans h.tape, k.output.trans h.output, Nat.le_trans h.size k.size, fun i hi h1 h2 => (k.block i hi h1 h2).trans (h.block i hi h1 h2)⟩
theorem Blz.mono {b1 b2 B B' : Nat} {w w' : World} (h : Blz b1 b2 B w w') (hB : B' ≤ B) : Blz b1 b2 B' w w' := ⟨h.os, h.tape, h.output, h.size, fun k hk => h.block k (Nat.lt_of_lt_of_le hk hB)⟩
theorem Blz.to {b1 b2 B : Nat} {w w' : World} (h : Blz b1 b2 B w w') {B' : Nat} (hB : B' ≤ B) (h1 : B' ≤ b1) (h2 : B' ≤ b2) : Below B' w w' := ⟨h.os, h.tape, h.output, h.size, fun k hk => h.block k (by omega) (by omega) (by omega)⟩
theorem Blz.set {b1 b2 B : Nat} {a w : World} (h : Blz b1 b2 B a w) (b j : Nat) (hb : b = b1 ∨ b = b2) (x : Value) : Blz b1 b2 B a (w.setCell ⟨b, j, none⟩ x) :=
  h.trans ⟨rfl, rfl, rfl, by simp [World.setCell], fun k _ h1 h2 => Below.heap_setCell _ _ _ _ (by show k ≠ b; omega)⟩
/-- The table in memory. -/
def tbA (T : TypeId) (w : World) (g : Nat) (n : Int) (v : Value) (b1 b2 N : Nat) : Prop := w.heap[g]? = some (.cells #[.int .i64 n, v, .slice (some ⟨b1, 0, none⟩) N N, .slice (some ⟨b2, 0, none⟩) N N] T)
section
variable {T : TypeId} {w : World} {g : Nat} {n : Int} {v : Value} {b1 b2 N : Nat} (h : tbA T w g n v b1 b2 N)
include h
theorem tbA.c0 : w.cell? ⟨g, 0, none⟩ = some (.int .i64 n) := by rw [hp_cell h]; rfl
theorem tbA.c1 : w.cell? ⟨g, 1, none⟩ = some v := by rw [hp_cell h]; rfl
theorem tbA.c2 : w.cell? ⟨g, 2, none⟩ = some (.slice (some ⟨b1, 0, none⟩) N N) := by rw [hp_cell h]; rfl
theorem tbA.c3 : w.cell? ⟨g, 3, none⟩ = some (.slice (some ⟨b2, 0, none⟩) N N) := by rw [hp_cell h]; rfl
theorem tbA.lt : g < w.heap.size := hp_lt h
theorem tbA.blz {w' : World} {B : Nat} (hb : Blz b1 b2 B w w') (hB : g < B) (h1 : g ≠ b1) (h2 : g ≠ b2) : tbA T w' g n v b1 b2 N := (hb.block g hB h1 h2).trans h
end
/-! Mathematics. -/
def mnH (a b : Int) : Int := if a < b then a else b
def mvTo (c : Nat → Int) (O : Nat) : Nat → Int
  | 0 => 1073741824
  | k + 1 => if O.testBit k = true then mnH (mvTo c O k) (c k) else mvTo c O k
theorem mv_yes {c : Nat → Int} {O k : Nat} (h : O.testBit k = true) : mvTo c O (k + 1) = mnH (mvTo c O k) (c k) := by rw [mvTo, if_pos h]
theorem mv_no {c : Nat → Int} {O k : Nat} (h : O.testBit k = false) : mvTo c O (k + 1) = mvTo c O k := by rw [mvTo, if_neg (by rw [h]; simp)]
theorem mv_is (c : Nat → Int) (O : Nat) : ∀ k, (∀ j, j < k → O.testBit j = true → mvTo c O k ≤ c j) ∧ mvTo c O k ≤ 1073741824 ∧ (mvTo c O k = 1073741824 ∨ ∃ j, j < k ∧ O.testBit j = true ∧ mvTo c O k = c j)
  | 0 => ⟨fun j hj => absurd hj (by omega), Int.le_refl _, .inl rfl⟩
  | k + 1 => by
    obtain ⟨h1, h2, h3⟩ := mv_is c O k
    cases hb : O.testBit k
    · rw [mv_no hb]
      refine ⟨fun j hj hjb => ?_, h2, ?_⟩
      · rcases Nat.lt_or_ge j k with h | h
        · exact h1 j h hjb
        · rw [show j = k by omega, hb] at hjb; cases hjb
      · rcases h3 with h3 | ⟨j, hj, hjb, e⟩
        · exact .inl h3
        · exact .inr ⟨j, by omega, hjb, e⟩
    · rw [mv_yes hb]
      unfold mnH
      by_cases hc : mvTo c O k < c k
      · rw [if_pos hc]
        refine ⟨fun j hj hjb => ?_, h2, ?_⟩
        · rcases Nat.lt_or_ge j k with h | h
          · exact h1 j h hjb
          · rw [show j = k by omega]; omega
        · rcases h3 with h3 | ⟨j, hj, hjb, e⟩
          · exact .inl h3
          · exact .inr ⟨j, by omega, hjb, e⟩
      · rw [if_neg hc]
        refine ⟨fun j hj hjb => ?_, by omega, .inr ⟨k, by omega, hb, rfl⟩⟩
        rcases Nat.lt_or_ge j k with h | h
        · have := h1 j h hjb; omega
        · rw [show j = k by omega]; exact Int.le_refl _
theorem mv_end {c : Nat → Int} {O m : Nat} (hm : O < 2 ^ m) (hO : O < 128) (h0 : O ≠ 0) (hc : ∀ i, O.testBit i = true → c i < 1073741824) : mvTo c O m = c (mnI c O) := by
  obtain ⟨h1, h2, h3⟩ := mv_is c O m
  have hn := next_ex (c := c) hO h0
  have ha := h1 (mnI c O) (bit_ltK hm hn.1) hn.1
  rcases h3 with h3 | ⟨j, hj, hjb, e⟩
  · have := hc _ hn.1; omega
  · have := hn.2.1 j hjb; omega
/-- What a table may hold: at answers that tell all that they tell, one more than both least numbers. -/
def tbOk (m : Nat) (M : Nat → Bool) (W Q : List Int) : Prop := W.length = 2 ^ (2 * m) ∧ Q.length = 2 ^ (2 * m) ∧ ∀ i j, i < 2 ^ m → j < 2 ^ m → 0 < W[i * 2 ^ m + j]?.getD 0 → W[i * 2 ^ m + j]?.getD 0 = (vmN gW m (leF M i j) : Int) + 1 ∧ Q[i * 2 ^ m + j]?.getD 0 = (vmN gT m (leF M i j) : Int) + 1
theorem tbOk_new (m : Nat) (M : Nat → Bool) : tbOk m M (List.replicate (2 ^ (2 * m)) 0) (List.replicate (2 ^ (2 * m)) 0) := by
  refine ⟨by simp, by simp, fun i j _ _ h => ?_⟩
  rw [List.getElem?_replicate] at h
  split at h <;> simp at h
theorem at_inj {m i j a b : Nat} (hj : j < 2 ^ m) (hb : b < 2 ^ m) (h : i * 2 ^ m + j = a * 2 ^ m + b) : i = a ∧ j = b := by
  have h1 : (i * 2 ^ m + j) / 2 ^ m = i := by rw [Nat.mul_comm, Nat.mul_add_div (Nat.two_pow_pos m), Nat.div_eq_of_lt hj]; rfl
  have h2 : (a * 2 ^ m + b) / 2 ^ m = a := by rw [Nat.mul_comm, Nat.mul_add_div (Nat.two_pow_pos m), Nat.div_eq_of_lt hb]; rfl
  have : i = a := by rw [← h1, ← h2, h]
  subst this
  exact ⟨rfl, by omega⟩
theorem at_lt {m i j : Nat} (hi : i < 2 ^ m) (hj : j < 2 ^ m) : i * 2 ^ m + j < 2 ^ (2 * m) := by
  have e : 2 ^ (2 * m) = 2 ^ m * 2 ^ m := by rw [← Nat.pow_add]; congr 1; omega
  rw [e]
  have := Nat.mul_le_mul_right (2 ^ m) (show i + 1 ≤ 2 ^ m by omega)
  rw [Nat.add_mul, Nat.one_mul] at this
  omega
theorem tbOk_set {m : Nat} {M : Nat → Bool} {W Q : List Int} {i j : Nat} (h : tbOk m M W Q) (hi : i < 2 ^ m) (hj : j < 2 ^ m) :
    tbOk m M (W.set (i * 2 ^ m + j) ((vmN gW m (leF M i j) : Int) + 1)) (Q.set (i * 2 ^ m + j) ((vmN gT m (leF M i j) : Int) + 1)) := by
  obtain ⟨h1, h2, h3⟩ := h
  refine ⟨by rw [List.length_set]; exact h1, by rw [List.length_set]; exact h2, fun a b ha hb => ?_⟩
  by_cases he : i * 2 ^ m + j = a * 2 ^ m + b
  · obtain ⟨rfl, rfl⟩ := at_inj hj hb he
    intro _
    have hl := at_lt hi hj
    rw [List.getElem?_set_self (by rw [h1]; exact hl), List.getElem?_set_self (by rw [h2]; exact hl)]
    exact ⟨rfl, rfl⟩
  · rw [List.getElem?_set_ne he, List.getElem?_set_ne he]
    exact h3 a b ha hb
/-- What is known of answers tells the same sets. -/
theorem leF_known {m : Nat} {M : Nat → Bool} (hm7 : m ≤ 7) (hM : ∀ x, M x = true → x ≤ low m) {y z : Nat} (hy : y < 2 ^ m) (hz : z < 2 ^ m) :
    leF M (kaL (setsTo (leF M y z) 128) (low m)) (knL (setsTo (leF M y z) 128) (low m)) = leF M y z := by
  funext s
  unfold leF
  cases hs : M s
  · rfl
  · rw [Bool.true_and, Bool.true_and, Bool.eq_iff_iff, leB_iff, leB_iff]
    have hka := fun i => kaTo_bit (setsTo (leF M y z) 128) (low m) i (setsTo (leF M y z) 128).length
    have hkn := fun i => knTo_bit (setsTo (leF M y z) 128) (low m) i (setsTo (leF M y z) 128).length
    have hat : ∀ j, j < (setsTo (leF M y z) 128).length → leB y z (nth (setsTo (leF M y z) 128) j) = true := fun j hj => by
      have := ((sets_iff (leF M y z) _ 128).1 ⟨j, hj, rfl⟩).2
      unfold leF at this
      rw [Bool.and_eq_true] at this
      exact this.2
    constructor
    · intro h i
      refine ⟨fun hyi => (h i).1 ?_, fun hzi => (h i).2 ?_⟩
      · exact (hka i).2 ⟨by rw [low_bit, decide_eq_true_eq]; exact bit_ltK hy hyi, fun j hj => ((leB_iff y z _).1 (hat j hj) i).1 hyi⟩
      · exact (hkn i).2 ⟨by rw [low_bit, decide_eq_true_eq]; exact bit_ltK hz hzi, fun j hj => ((leB_iff y z _).1 (hat j hj) i).2 hzi⟩
    · intro h i
      have hsm : ∃ j, j < (setsTo (leF M y z) 128).length ∧ nth (setsTo (leF M y z) 128) j = s := by
        refine (sets_iff (leF M y z) s 128).2 ⟨?_, ?_⟩
        · have := hM s hs
          have := low_lt m hm7
          omega
        · unfold leF; rw [hs, Bool.true_and, leB_iff]; exact h
      obtain ⟨j, hj, e⟩ := hsm
      refine ⟨fun hki => ?_, fun hki => ?_⟩
      · have := ((hka i).1 hki).2 j hj; rw [e] at this; exact this
      · have := ((hkn i).1 hki).2 j hj; rw [e] at this; exact this
end Go.Proofs.YtppojaekngeelaaDoor
/- Contracts: the specification's table of answers: a new one, what is left and known, least numbers. -/
namespace Go.Proofs.YtppojaekngeelaaDoor
open Go.RowKit
set_option maxRecDepth 100000
set_option linter.unusedSimpArgs false
section
variable {P : Program}
theorem run_makeY {t I : TypeId} (ht : P.underlying t = some (.slice I)) (hI : (P.info? I).map (fun i => (i.zero, i.size, i.bytes)) = some (some (.int .i64 0), 1, 8)) {o : Oper} {a : Act} {w : World}
    (x y : Operand) (ho : o.op = .makeSlice t x y) (n : Nat) (hx : a.eval x = .int .i64 (n : Int)) (hy : a.eval y = .int .i64 (n : Int)) (hn : n < 1000000000) :
    ∃ w', (execOp a.eval o).run P w = .ok (.value (.slice (some ⟨w.heap.size, 0, none⟩) n n)) w' ∧ w'.heap.size = w.heap.size + 1 ∧ blk I w' w.heap.size (List.replicate n 0) ∧ Below w.heap.size w w' := by
  obtain ⟨i0, hi, hz0, hz1, hz2⟩ := info_parts hI
  have hr := run_make (P := P) w t I i0 (.int .i64 0) ht hi hz0 .i64 .i64 n n (by omega) (Int.le_refl _) (by rw [hz2]; omega) (by omega)
  simp only [Int.toNat_natCast] at hr
  refine ⟨w.alloc (.cells (madeCells (Value.int .i64 0).cells (n * i0.size)) I), by unfold execOp; simp only [ho, hx, hy, Sem.run_bind, Sem.run_pure, hr, Result.andThen_ok], by simp, ?_, (Below.refl _ _).alloc (Nat.le_refl _) _⟩
  unfold blk
  rw [hp_last]
  congr 2
  apply Array.toList_inj.1
  rw [hz1, Nat.mul_one]
  show (madeCells #[Value.int .i64 0] n).toList = _
  rw [toList_madeCells_one]
  simp
end
section
variable {P : Program} {ops : Array Oper} {Q : Exit → Act → World → Prop} {a : Act} {w : World}
theorem wpOp_makeY {t I : TypeId} (ht : P.underlying t = some (.slice I)) (hI : (P.info? I).map (fun i => (i.zero, i.size, i.bytes)) = some (some (.int .i64 0), 1, 8)) {i : Nat} {o : Oper} {K : Act → World → Prop} (hi : ops[i]? = some o) (hw : Region.wanted o (yielded ops a.tmps) = true)
    (x y : Operand) (ho : o.op = .makeSlice t x y) (n : Nat) (hx : a.eval x = .int .i64 (n : Int)) (hy : a.eval y = .int .i64 (n : Int)) (hn : n < 1000000000)
    (h : ∀ w', w'.heap.size = w.heap.size + 1 → blk I w' w.heap.size (List.replicate n 0) → Below w.heap.size w w' → K (a.put o.dst (.slice (some ⟨w.heap.size, 0, none⟩) n n)) w') : wpOp P ops Q i K a w := by
  obtain ⟨w', hr, h1, h2, h3⟩ := run_makeY (w := w) ht hI x y ho n hx hy hn
  exact wpOp_op hi hw _ w' hr (h w' h1 h2 h3)
end
theorem tbA_new (T : TypeId) (w : World) (n : Int) (v : Value) (b1 b2 N : Nat) : tbA T (w.alloc (.cells #[.int .i64 n, v, .slice (some ⟨b1, 0, none⟩) N N, .slice (some ⟨b2, 0, none⟩) N N] T)) w.heap.size n v b1 b2 N := hp_last _ _
theorem blkA {I : TypeId} {w : World} {g : Nat} {m : List Int} (h : blk I w g m) (o : Obj) : blk I (w.alloc o) g m := (hp_old w o g h.lt).trans h
theorem builtTb (m : Nat) (v : Value) (B1 B2 N : Nat) : Tryd.prog.built 76 [(0, .agg #[.int .i64 (m : Int), v]), (1, .slice (some ⟨B1, 0, none⟩) N N), (2, .slice (some ⟨B2, 0, none⟩) N N)] = some #[.int .i64 (m : Int), v, .slice (some ⟨B1, 0, none⟩) N N, .slice (some ⟨B2, 0, none⟩) N N] := by kernel_rfl
section
variable {P : Program} {ops : Array Oper} {Q : Exit → Act → World → Prop} {md : Region.Mode} {S : World → Prop} {fuel : Nat} {listed : Array Bool} {a : Act} {w : World}
theorem anyH_buildY {i : Nat} {o : Oper} (hr : Region.ready md ops listed = [i]) (hi : ops[i]? = some o) (hw : Region.wanted o (yielded ops a.tmps) = true) (t : TypeId) (parts : Array (Nat × Operand)) (ho : o.op = .build t parts) {cs : Array Value}
    (hb : P.built t (parts.map fun (i, x) => (i, a.eval x)).toList = some cs) (hS : S w) (h : wpAnyH P md ops Q S fuel (listed.setIfInBounds i true) (a.put o.dst (.agg cs)) w) : wpAnyH P md ops Q S (fuel + 1) listed a w := by
  refine wpAnyH_all hr (by simp) fun j hj => ?_
  have hj' : j = i := by simpa using hj
  subst hj'
  unfold wpOp
  simp only [hi, hw, if_true]
  refine .inl (wp_build t parts ho (by rw [hb]; rfl) ?_)
  rw [hb]
  exact ⟨hS, h⟩
end
theorem wrap_q {m : Nat} (h : m ≤ 7) : wrap64 (2 ^ (2 * m)) = ((2 ^ (2 * m) : Nat) : Int) := by
  have : m = 0 ∨ m = 1 ∨ m = 2 ∨ m = 3 ∨ m = 4 ∨ m = 5 ∨ m = 6 ∨ m = 7 := by omega
  rcases this with rfl | rfl | rfl | rfl | rfl | rfl | rfl | rfl <;> decide +kernel
theorem q_le {m : Nat} (h : m ≤ 7) : 2 ^ (2 * m) ≤ 16384 := Nat.pow_le_pow_right (by omega) (show 2 * m ≤ 14 by omega)
attribute [local irreducible] p2 low memB risB famAt own blk tbA
set_option maxHeartbeats 4000000 in
theorem asNew_c (m : Nat) (v : Value) (w : World) (hm7 : m ≤ 7) :
    Calls Tryd.prog 29 #[.agg #[.int .i64 (m : Int), v]] w fun e w' => ∃ g b1 b2, e = .returned (.pointer (some ⟨g, 0, none⟩)) ∧ w.heap.size ≤ g ∧ w.heap.size ≤ b1 ∧ w.heap.size ≤ b2 ∧ b1 ≠ b2 ∧ g ≠ b1 ∧ g ≠ b2 ∧
      tbA 76 w' g (m : Int) v b1 b2 (2 ^ (2 * m)) ∧ blk 3 w' b1 (List.replicate (2 ^ (2 * m)) 0) ∧ blk 3 w' b2 (List.replicate (2 ^ (2 * m)) 0) ∧ Below w.heap.size w w' := by
  have H0 := hide ((Below.refl w.heap.size w).alloc (Nat.le_refl _) (.cells #[.int .i64 (m : Int), v] 28))
  have HS0 := hide (hp_last w (.cells #[.int .i64 (m : Int), v] 28))
  have HZ := hide (show (w.alloc (.cells #[.int .i64 (m : Int), v] 28)).heap.size = w.heap.size + 1 by simp)
  have hmul : IntKind.i64.wrap (2 * (m : Int)) = ((2 * m : Nat) : Int) := by rw [IntWalk.i64_in _ (by omega)]; omega
  have hw1 := wrap_q hm7
  have hw2 : IntKind.i64.wrap (2 ^ (2 * m)) = ((2 ^ (2 * m) : Nat) : Int) := by rw [IntWalk.i64_left]; exact hw1
  have hN := q_le hm7
  have hw3 : IntKind.i64.wrap (2 ^ min (2 * m) 64) = ((2 ^ (2 * m) : Nat) : Int) := by rw [Nat.min_eq_left (by omega)]; exact hw2
  generalize hq : 2 * m = q at *
  generalize hNN : (2 ^ q : Nat) = N at *
  clear hq hNN
  go_enter Tryd.func29, Tryd.ntmps29
  go_wp2_with fail
  generalize (w.alloc (.cells #[.int .i64 (m : Int), v] 28)) = W at *
  have hzW := HZ.out
  refine wp_region_held (S := fun w' => Below (w.heap.size + 1) W w') (by kernel_rfl) ?_
  have hS0 : Below (w.heap.size + 1) W { W with drawn := W.drawn + 1 } := (Below.refl _ _).drew
  have hz0 : ({ W with drawn := W.drawn + 1 } : World).heap.size = w.heap.size + 1 := hzW
  generalize ({ W with drawn := W.drawn + 1 } : World) = W1 at hS0 hz0 ⊢
  have hC0 : ∀ w', Below (w.heap.size + 1) W w' → w'.cell? ⟨w.heap.size, 0, none⟩ = some (.int .i64 (m : Int)) := fun w' h => (h.cell (p := ⟨w.heap.size, 0, none⟩) (by show w.heap.size < _; omega)).trans (cells_at0 HS0.out)
  have hC1 : ∀ w', Below (w.heap.size + 1) W w' → w'.cell? ⟨w.heap.size, 1, none⟩ = some v := fun w' h => (h.cell (p := ⟨w.heap.size, 1, none⟩) (by show w.heap.size < _; omega)).trans (cells_at1 HS0.out)
  refine wpAnyH_take (i := 0) rfl (by kernel_rfl) (by kernel_rfl) (by kernel_rfl) (fun _ _ _ h => h) (yields_load_two rowSp sizeSp rfl (.tmp _) rfl _ rfl _ _ hC0 hC1) hS0 ?_
  refine wpAnyH_take (i := 1) (v := .pointer (some ⟨w.heap.size, 0, none⟩)) rfl (by kernel_rfl) (by kernel_rfl) (by kernel_rfl) (fun _ _ _ h => h) (.inl ⟨rfl, fun w' _ => by simp [execOp, go_sem, hmul, hw3]⟩) hS0 ?_
  refine wpAnyH_take (i := 2) rfl (by kernel_rfl) (by kernel_rfl) (by kernel_rfl) (fun _ _ _ h => h) (yields_load_cell rowI rfl (.tmp _) rfl ⟨w.heap.size, 0, none⟩ rfl (.int .i64 (m : Int)) hC0) hS0 ?_
  refine wpAnyH_take (i := 3) (v := .int .i64 (q : Int)) rfl (by kernel_rfl) (by kernel_rfl) (by kernel_rfl) (fun _ _ _ h => h) (.inl ⟨rfl, fun w' _ => by simp [execOp, go_sem, hmul, hw3]⟩) hS0 ?_
  refine wpAnyH_take (i := 4) (v := .int .i64 (N : Int)) rfl (by kernel_rfl) (by kernel_rfl) (by kernel_rfl) (fun _ _ _ h => h) (.inl ⟨rfl, fun w' _ => by simp [execOp, go_sem, hmul, hw3]⟩) hS0 ?_
  refine wpAnyH_take (i := 6) (v := .pointer (some ⟨w.heap.size, 0, none⟩)) rfl (by kernel_rfl) (by kernel_rfl) (by kernel_rfl) (fun _ _ _ h => h) (.inl ⟨rfl, fun w' _ => by simp [execOp, go_sem, hmul, hw3]⟩) hS0 ?_
  refine wpAnyH_take (i := 7) rfl (by kernel_rfl) (by kernel_rfl) (by kernel_rfl) (fun _ _ _ h => h) (yields_load_cell rowI rfl (.tmp _) rfl ⟨w.heap.size, 0, none⟩ rfl (.int .i64 (m : Int)) hC0) hS0 ?_
  refine wpAnyH_take (i := 8) (v := .int .i64 (q : Int)) rfl (by kernel_rfl) (by kernel_rfl) (by kernel_rfl) (fun _ _ _ h => h) (.inl ⟨rfl, fun w' _ => by simp [execOp, go_sem, hmul, hw3]⟩) hS0 ?_
  refine wpAnyH_take (i := 9) (v := .int .i64 (N : Int)) rfl (by kernel_rfl) (by kernel_rfl) (by kernel_rfl) (fun _ _ _ h => h) (.inl ⟨rfl, fun w' _ => by simp [execOp, go_sem, hmul, hw3]⟩) hS0 ?_
  simp only [Act.put, List.getElem_toArray, List.getElem_cons_zero, List.getElem_cons_succ, List.setIfInBounds_toArray, List.set_cons_zero, List.set_cons_succ]
  have hfin : ∀ (W4 : World) (g b1 b2 : Nat), w.heap.size ≤ g → w.heap.size ≤ b1 → w.heap.size ≤ b2 → b1 ≠ b2 → g ≠ b1 → g ≠ b2 → tbA 76 W4 g (m : Int) v b1 b2 N → blk 3 W4 b1 (List.replicate N 0) → blk 3 W4 b2 (List.replicate N 0) → Below w.heap.size w W4 →
      ∃ g' b1' b2', Ending.returned (Value.pointer (some ⟨g, 0, none⟩)) = .returned (.pointer (some ⟨g', 0, none⟩)) ∧ w.heap.size ≤ g' ∧ w.heap.size ≤ b1' ∧ w.heap.size ≤ b2' ∧ b1' ≠ b2' ∧ g' ≠ b1' ∧ g' ≠ b2' ∧ tbA 76 W4 g' (m : Int) v b1' b2' N ∧ blk 3 W4 b1' (List.replicate N 0) ∧ blk 3 W4 b2' (List.replicate N 0) ∧ Below w.heap.size w W4 :=
    fun W4 g b1 b2 h1 h2 h3 h4 h5 h6 h7 h8 h9 h10 => ⟨g, b1, b2, rfl, h1, h2, h3, h4, h5, h6, h7, h8, h9, h10⟩
  refine wpAnyH_all (rs := [5, 10]) (by kernel_rfl) (by simp) fun j hj => ?_
  have hj2 : j = 5 ∨ j = 10 := by simpa using hj
  rcases hj2 with rfl | rfl
  · refine wpOp_makeY sliceT intI rfl rfl (.tmp 7) (.tmp 7) rfl N rfl rfl (by omega) ?_
    intro w2 hz2 hk2 hb2
    have hS2 : Below (w.heap.size + 1) W w2 := hS0.trans (hb2.mono (by omega))
    refine ⟨hS2, ?_⟩
    simp only [Act.put, List.getElem_toArray, List.getElem_cons_zero, List.getElem_cons_succ, List.setIfInBounds_toArray, List.set_cons_zero, List.set_cons_succ]
    refine wpAnyH_all (rs := [10]) (by kernel_rfl) (by simp) fun j hj => ?_
    obtain rfl : j = 10 := by simpa using hj
    refine wpOp_makeY sliceT intI rfl rfl (.tmp 12) (.tmp 12) rfl N rfl rfl (by omega) ?_
    intro w3 hz3 hk3 hb3
    have hS3 : Below (w.heap.size + 1) W w3 := hS2.trans (hb3.mono (by omega))
    refine ⟨hS3, ?_⟩
    simp only [Act.put, List.getElem_toArray, List.getElem_cons_zero, List.getElem_cons_succ, List.setIfInBounds_toArray, List.set_cons_zero, List.set_cons_succ]
    have HK1 := hide (hk2.below hb3 (by omega))
    have HK2 := hide hk3
    generalize hB1 : W1.heap.size = B1 at *
    generalize hB2 : w2.heap.size = B2 at *
    refine anyH_buildY (i := 11) (by kernel_rfl) rfl rfl 76 _ rfl (cs := #[.int .i64 (m : Int), v, .slice (some ⟨B1, 0, none⟩) N N, .slice (some ⟨B2, 0, none⟩) N N]) (by simp; exact builtTb m v B1 B2 N) hS3 ?_
    simp only [Act.put, List.getElem_toArray, List.getElem_cons_zero, List.getElem_cons_succ, List.setIfInBounds_toArray, List.set_cons_zero, List.set_cons_succ]
    have hS4 : Below (w.heap.size + 1) W (w3.alloc (.cells #[.int .i64 (m : Int), v, .slice (some ⟨B1, 0, none⟩) N N, .slice (some ⟨B2, 0, none⟩) N N] 76)) := hS3.alloc (by omega) _
    refine anyH_op (i := 12) (by kernel_rfl) rfl rfl (.pointer (some ⟨w3.heap.size, 0, none⟩)) (w3.alloc (.cells #[.int .i64 (m : Int), v, .slice (some ⟨B1, 0, none⟩) N N, .slice (some ⟨B2, 0, none⟩) N N] 76)) (by simp [execOp, go_sem]) hS4 ?_
    simp only [Act.put, List.getElem_toArray, List.getElem_cons_zero, List.getElem_cons_succ, List.setIfInBounds_toArray, List.set_cons_zero, List.set_cons_succ]
    refine anyH_op (i := 13) (by kernel_rfl) rfl rfl (.pointer (some ⟨w3.heap.size, 0, none⟩)) (w3.alloc (.cells #[.int .i64 (m : Int), v, .slice (some ⟨B1, 0, none⟩) N N, .slice (some ⟨B2, 0, none⟩) N N] 76)) (by simp [execOp, go_sem]) hS4 ?_
    refine wpAnyH_done (by kernel_rfl) ?_ _
    simp only [Act.put, List.getElem_toArray, List.getElem_cons_zero, List.getElem_cons_succ, List.setIfInBounds_toArray, List.set_cons_zero, List.set_cons_succ]
    have HF := hide (hfin _ w3.heap.size B1 B2 (by omega) (by omega) (by omega) (by omega) (by omega) (by omega) (tbA_new 76 w3 (m : Int) v B1 B2 N) (blkA HK1.out _) (blkA HK2.out _) (H0.out.trans (hS4.mono (by omega))))
    clear hS0 hS2 hS3 hS4 hb2 hb3 hk2 hk3 hfin hC0 hC1
    go_wp2
    go_ret
    exact HF.out
  · refine wpOp_makeY sliceT intI rfl rfl (.tmp 12) (.tmp 12) rfl N rfl rfl (by omega) ?_
    intro w2 hz2 hk2 hb2
    have hS2 : Below (w.heap.size + 1) W w2 := hS0.trans (hb2.mono (by omega))
    refine ⟨hS2, ?_⟩
    simp only [Act.put, List.getElem_toArray, List.getElem_cons_zero, List.getElem_cons_succ, List.setIfInBounds_toArray, List.set_cons_zero, List.set_cons_succ]
    refine wpAnyH_all (rs := [5]) (by kernel_rfl) (by simp) fun j hj => ?_
    obtain rfl : j = 5 := by simpa using hj
    refine wpOp_makeY sliceT intI rfl rfl (.tmp 7) (.tmp 7) rfl N rfl rfl (by omega) ?_
    intro w3 hz3 hk3 hb3
    have hS3 : Below (w.heap.size + 1) W w3 := hS2.trans (hb3.mono (by omega))
    refine ⟨hS3, ?_⟩
    simp only [Act.put, List.getElem_toArray, List.getElem_cons_zero, List.getElem_cons_succ, List.setIfInBounds_toArray, List.set_cons_zero, List.set_cons_succ]
    have HK2 := hide (hk2.below hb3 (by omega))
    have HK1 := hide hk3
    generalize hB2 : W1.heap.size = B2 at *
    generalize hB1 : w2.heap.size = B1 at *
    refine anyH_buildY (i := 11) (by kernel_rfl) rfl rfl 76 _ rfl (cs := #[.int .i64 (m : Int), v, .slice (some ⟨B1, 0, none⟩) N N, .slice (some ⟨B2, 0, none⟩) N N]) (by simp; exact builtTb m v B1 B2 N) hS3 ?_
    simp only [Act.put, List.getElem_toArray, List.getElem_cons_zero, List.getElem_cons_succ, List.setIfInBounds_toArray, List.set_cons_zero, List.set_cons_succ]
    have hS4 : Below (w.heap.size + 1) W (w3.alloc (.cells #[.int .i64 (m : Int), v, .slice (some ⟨B1, 0, none⟩) N N, .slice (some ⟨B2, 0, none⟩) N N] 76)) := hS3.alloc (by omega) _
    refine anyH_op (i := 12) (by kernel_rfl) rfl rfl (.pointer (some ⟨w3.heap.size, 0, none⟩)) (w3.alloc (.cells #[.int .i64 (m : Int), v, .slice (some ⟨B1, 0, none⟩) N N, .slice (some ⟨B2, 0, none⟩) N N] 76)) (by simp [execOp, go_sem]) hS4 ?_
    simp only [Act.put, List.getElem_toArray, List.getElem_cons_zero, List.getElem_cons_succ, List.setIfInBounds_toArray, List.set_cons_zero, List.set_cons_succ]
    refine anyH_op (i := 13) (by kernel_rfl) rfl rfl (.pointer (some ⟨w3.heap.size, 0, none⟩)) (w3.alloc (.cells #[.int .i64 (m : Int), v, .slice (some ⟨B1, 0, none⟩) N N, .slice (some ⟨B2, 0, none⟩) N N] 76)) (by simp [execOp, go_sem]) hS4 ?_
    refine wpAnyH_done (by kernel_rfl) ?_ _
    simp only [Act.put, List.getElem_toArray, List.getElem_cons_zero, List.getElem_cons_succ, List.setIfInBounds_toArray, List.set_cons_zero, List.set_cons_succ]
    have HF := hide (hfin _ w3.heap.size B1 B2 (by omega) (by omega) (by omega) (by omega) (by omega) (by omega) (tbA_new 76 w3 (m : Int) v B1 B2 N) (blkA HK1.out _) (blkA HK2.out _) (H0.out.trans (hS4.mono (by omega))))
    clear hS0 hS2 hS3 hS4 hb2 hb3 hk2 hk3 hfin hC0 hC1
    go_wp2
    go_ret
    exact HF.out
end Go.Proofs.YtppojaekngeelaaDoor
