/- Lists of seven numbers as keys of a map; how many of some lists are different. -/
import Derived.Test.YtknjiomagdfgfaaDoorLib
import Derived.Test.YtknjiomagdfgfaaDoorProg
import Derived.WideKeyArr2
import Derived.Maps.OwnSet
import Derived.Maps.RangeWalk
namespace Go.Proofs.YtknjiomagdfgfaaDoor
open Go.RowKit
open Go.Maps (Keyed)
open Go.WideMaps
set_option maxRecDepth 100000
def agg7 (l : List Int) : Value := .agg (l.map (Value.int .i64)).toArray
def kk (l : List Int) : Lit := .string (keyBytes (l.map (Lit.int .i64)))
def i64s (l : List Int) : Prop := ∀ x ∈ l, (Lit.int .i64 x).wf = true
theorem intU : Tryd.prog.underlying 3 = some (.int .i64) := by kernel_rfl
theorem arr7 : ArrKey Tryd.prog 102 3 7 := ⟨by kernel_rfl, by kernel_rfl, by kernel_rfl, by kernel_rfl⟩
theorem types_pos : ∃ m, Tryd.prog.types.size = m + 1 := ⟨Tryd.prog.types.size - 1, by kernel_rfl⟩
theorem law7 : Keyed Tryd.prog 102 := Keyed.of_law arr7.law
theorem mapU : Tryd.prog.underlying 80 = some (.map 102 4) := by kernel_rfl
theorem boolU : Tryd.prog.underlying 4 = some .bool := by kernel_rfl
theorem keyLit_int (m : Nat) (v : Value) : Tryd.prog.keyLits (m + 1) 3 [v] = (match v with | .int .i64 n => if (Lit.int .i64 n).wf = true then some [.int .i64 n] else none | _ => none) := by
  unfold Program.keyLits
  rw [intU]
  cases v <;> try rfl
  rename_i q n
  cases q <;> simp
theorem keyLits7 (m : Nat) (a b c d e f g : Value) : Tryd.prog.keyLits (m + 2) 102 [a, b, c, d, e, f, g] =
    ((List.range 7).mapM fun i => Tryd.prog.keyLits (m + 1) 3 (([a, b, c, d, e, f, g].drop i).take 1)).map List.flatten := by
  conv => lhs; unfold Program.keyLits
  rw [arr7.hu]
  simp [arr7.size, arr7.one]
theorem formed7 {v : Value} (h : v.formed Tryd.prog 102 = true) : ∃ a b c d e f g, v = .agg #[a, b, c, d, e, f, g] := by
  unfold Value.formed at h
  rw [arr7.hu] at h
  cases v <;> simp [arr7.size] at h
  rename_i xs
  have : xs.toList.length = 7 := by simpa using h
  obtain ⟨l⟩ := xs
  simp at this
  match l, this with
  | [a, b, c, d, e, f, g], _ => exact ⟨a, b, c, d, e, f, g, rfl⟩
theorem len7 {l : List Int} (h : l.length = 7) : ∃ a b c d e f g, l = [a, b, c, d, e, f, g] := by
  match l, h with
  | [a, b, c, d, e, f, g], _ => exact ⟨a, b, c, d, e, f, g, rfl⟩
theorem keyOf7 {l : List Int} (h : l.length = 7) (hw : i64s l) : keyOf Tryd.prog 102 (agg7 l) = some (kk l) := by
  obtain ⟨a, b, c, d, e, f, g, rfl⟩ := len7 h
  obtain ⟨m, hm⟩ := types_pos
  have hf : (agg7 [a, b, c, d, e, f, g]).formed Tryd.prog 102 = true := by simp [agg7, Value.formed, arr7.hu, arr7.size]
  have hk := arr7.keyType types_pos
  have w1 := hw a (by simp)
  have w2 := hw b (by simp)
  have w3 := hw c (by simp)
  have w4 := hw d (by simp)
  have w5 := hw e (by simp)
  have w6 := hw f (by simp)
  have w7 := hw g (by simp)
  unfold keyOf
  rw [arr7.hu]
  simp only [hk, hf, Bool.and_self, if_true]
  rw [hm]
  have hc : (agg7 [a, b, c, d, e, f, g]).cells.toList = [.int .i64 a, .int .i64 b, .int .i64 c, .int .i64 d, .int .i64 e, .int .i64 f, .int .i64 g] := rfl
  rw [hc, keyLits7]
  simp [List.range_succ, keyLit_int, w1, w2, w3, w4, w5, w6, w7, kk]
theorem keyOf7_inv {v : Value} {kl : Lit} (h : keyOf Tryd.prog 102 v = some kl) : ∃ l : List Int, v = agg7 l ∧ l.length = 7 ∧ i64s l ∧ kl = kk l := by
  have h0 := h
  unfold keyOf at h
  rw [arr7.hu] at h
  simp only at h
  split at h
  · rename_i hc
    rw [Bool.and_eq_true] at hc
    obtain ⟨a, b, c, d, e, f, g, rfl⟩ := formed7 hc.2
    obtain ⟨m, hm⟩ := types_pos
    rw [hm] at h
    rw [show (Value.agg #[a, b, c, d, e, f, g]).cells.toList = [a, b, c, d, e, f, g] from rfl, keyLits7] at h
    have key : ∀ v : Value, (∃ n, v = .int .i64 n ∧ (Lit.int .i64 n).wf = true) ∨ Tryd.prog.keyLits (m + 1) 3 [v] = none := fun v => by
      rw [keyLit_int]
      cases v <;> try exact .inr rfl
      rename_i q n
      cases q <;> try exact .inr rfl
      by_cases hw : (Lit.int .i64 n).wf = true
      · exact .inl ⟨n, rfl, hw⟩
      · exact .inr (by simp [hw])
    rcases key a with ⟨a, rfl, wa⟩ | ha
    · rcases key b with ⟨b, rfl, wb⟩ | hb
      · rcases key c with ⟨c, rfl, wc⟩ | hb
        · rcases key d with ⟨d, rfl, wd⟩ | hb
          · rcases key e with ⟨e, rfl, we⟩ | hb
            · rcases key f with ⟨f, rfl, wf⟩ | hb
              · rcases key g with ⟨g, rfl, wg⟩ | hb
                · have hw : i64s [a, b, c, d, e, f, g] := fun x hx => by
                    simp at hx
                    rcases hx with rfl | rfl | rfl | rfl | rfl | rfl | rfl <;> assumption
                  refine ⟨[a, b, c, d, e, f, g], rfl, rfl, hw, ?_⟩
                  have h1 := keyOf7 (l := [a, b, c, d, e, f, g]) rfl hw
                  have h2 : keyOf Tryd.prog 102 (agg7 [a, b, c, d, e, f, g]) = some kl := h0
                  rw [h1] at h2
                  exact (Option.some.inj h2).symm
                · simp [List.range_succ, hb] at h
              · simp [List.range_succ, hb] at h
            · simp [List.range_succ, hb] at h
          · simp [List.range_succ, hb] at h
        · simp [List.range_succ, hb] at h
      · simp [List.range_succ, hb] at h
    · simp [List.range_succ, ha] at h
  · cases h
theorem agg7_inj {l m : List Int} (h : agg7 l = agg7 m) : l = m := by
  unfold agg7 at h
  have h1 := Array.toList_inj.2 (Value.agg.inj h)
  have h2 : l.map (Value.int .i64) = m.map (Value.int .i64) := by simpa using h1
  exact (List.map_inj_right (fun a b h => by cases h; rfl)).1 h2
theorem kk_inj {l m : List Int} (hl : l.length = 7) (hwl : i64s l) (hm : m.length = 7) (hwm : i64s m) (h : kk l = kk m) : l = m :=
  agg7_inj (law7.inj (keyOf7 hl hwl) (by rw [h]; exact keyOf7 hm hwm))
end Go.Proofs.YtknjiomagdfgfaaDoor
