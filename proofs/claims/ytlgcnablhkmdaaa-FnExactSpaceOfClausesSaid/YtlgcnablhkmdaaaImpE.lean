/- Contracts of the program's functions, V: unions of sets, and a space's family. -/
import Derived.Test.YtlgcnablhkmdaaaImpD
namespace Go.Proofs.Ytlgcnablhkmdaaa
open Go.RowKit
set_option maxRecDepth 100000

theorem famAt.rowO {T : TypeId} {w : World} {b : Nat} {n : Int} {F : Nat → Bool} (h : famAt T w b n F) (g : Nat) (hg : b ≠ g) (c : Array Value) : famAt T (w.setRow g c) b n F := (hp_rowO w g b c hg).trans h
/-- A round over all old sets: each one's union with s is marked. -/
def stepTo (F : Nat → Bool) (s : Nat) : Nat → (Nat → Bool)
  | 0 => F
  | k + 1 => if F k then upd (stepTo F s k) (k ||| s) true else stepTo F s k
def unionsTo (l : List Int) : Nat → (Nat → Bool)
  | 0 => upd noSet 0 true
  | k + 1 => stepTo (unionsTo l k) (l[k]?.getD 0).toNat 128
def unionsF (l : List Int) : Nat → Bool := unionsTo l l.length

end Go.Proofs.Ytlgcnablhkmdaaa
