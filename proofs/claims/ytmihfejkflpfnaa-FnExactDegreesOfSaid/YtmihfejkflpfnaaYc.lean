/- Contracts: degrees, what can be moved and what lies there behind a move, the specification's. -/
import Derived.Test.YtmihfejkflpfnaaYb
import Derived.Test.YtmihfejkflpfnaaBx
import Derived.BigQuiet
namespace Go.Proofs.Ytmihfejkflpfnaa
open Go.RowKit
set_option maxRecDepth 100000
set_option linter.unusedSimpArgs false
theorem rowCP : (Try.prog.underlying 28).map TypeDesc.isRow = some true := by kernel_rfl
theorem sizeCP : (Try.prog.info? 28).map (·.size) = some 2 := by kernel_rfl
theorem rowIntP : (Try.prog.underlying 3).map TypeDesc.isRow = some false := by kernel_rfl
theorem ent_waDegree : enters Try.prog 23 := enters_of Try.func23 (by kernel_rfl) (by kernel_rfl)
theorem pl_row {M : List (List Int)} {A : List Int} (h : ChP M A) {i : Nat} (hi : i < A.length) (j : Nat) : (M[i]?.getD [])[j]?.getD 0 = plL M A i j := (plL_yes h hi j).symm
attribute [local irreducible] p2 low memB risB
set_option maxHeartbeats 1000000 in
theorem waDegree_c (v u : Value) (M : List (List Int)) (A : List Int) (i : Nat) (w : World) (hl : rows w.heap.size w v M) (hc : ChP M A) (hi : i < A.length) :
    Calls Try.prog 23 #[.agg #[v, u], .int .i64 (i : Int)] w fun e w' => e = .returned (.int .i64 (dg (plL M A) i)) ∧ Below w.heap.size w w' := by
  have HL := hide (hl.alloc (.cells #[v, u] 28))
  have HB := hide ((Below.refl w.heap.size w).alloc (Nat.le_refl _) (.cells #[v, u] 28))
  have hiM : i < M.length := by rw [hc.ml]; exact hi
  have hrl := hc.rl i hi
  have h5 := hc.n5
  have HD := hide (show smF (plL M A i) A.length = dg (plL M A) i by have h := dg_n (pl_ln M A) i; rwa [plN_yes hc] at h)
  have HV := hide (fun j => pl_row hc hi j)
  have HBD := hide (show ∀ k, k ≤ 5 → -100 ≤ smF (plL M A i) k ∧ smF (plL M A i) k ≤ 100 from fun k hk => by
    have h1 := smF_lo (f := plL M A i) (k := k) fun j _ => (pl_ln M A).lo i j
    have h2 := smF_hi (f := plL M A i) (c := 3) (k := k) fun j _ => (pl_ln M A).hi i j
    omega)
  have HLO := hide (fun j => (pl_ln M A).lo i j)
  have HHI := hide (fun j => (pl_ln M A).hi i j)
  generalize hrr : M[i]?.getD [] = R at *
  have HRR := hide hrr
  clear hl hc hrr
  generalize plL M A i = f at *
  generalize dg (plL M A) i = d at *
  go_enter Try.func23, Try.ntmps23
  go_wp2_with (first
    | (refine wpList_at2 sliceT2 rowS2 rfl (.tmp _) (.tmp _) rfl v rfl _ rfl i rfl w.heap.size M HL.out hiM ?_; intro ad2 r hcell2 hblk2 hr; rw [HRR.out] at hr; have HR := hide hr; clear hr)
    | (refine wpList_len sliceT rfl (.tmp _) rfl r rfl w.heap.size R HR.out ?_))
  go_loop [5, 14] (fun sv iv => ∃ k : Nat, k ≤ A.length ∧ iv = .int .i64 (k : Int) ∧ sv = .int .i64 (smF f k)) (fun _ iv => A.length - (intOf iv).toNat)
  case atStart => exact ⟨0, Nat.zero_le _, rfl, rfl⟩
  case round =>
    obtain ⟨k, hk, rfl, rfl⟩ := hrel
    have hb1 := HBD.out k (by omega)
    by_cases hlt : k < A.length
    · have hlt' : (k : Int) < (R.length : Int) := by omega
      have hkR : k < R.length := by omega
      have HNX := hide (show smF f (k + 1) = smF f k + f k from rfl)
      have h2 := HLO.out k
      have h3 := HHI.out k
      have HX := hide (HV.out k)
      generalize f k = x at HNX HX h2 h3
      generalize smF f k = s at *
      have hw : IntKind.i64.wrap (s + x) = s + x := IntWalk.i64_in _ (by omega)
      go_wp2_with (refine wpList_at sliceT intS rfl (.tmp _) (.tmp _) rfl r rfl k rfl w.heap.size R HR.out hkR ?_; intro ad3 hcell3 hblk3; rw [HX.out] at hcell3)
      go_round
      case rel => exact ⟨k + 1, by omega, by go_num, by rw [HNX.out]⟩
      case measure => (simp [intOf] <;> omega)
    · have hkn : k = A.length := by omega
      subst hkn
      have hlt' : ¬ ((A.length : Int) < (R.length : Int)) := by omega
      go_wp2
      go_ret
      exact ⟨ret_i HD.out, HB.out⟩
end Go.Proofs.Ytmihfejkflpfnaa
