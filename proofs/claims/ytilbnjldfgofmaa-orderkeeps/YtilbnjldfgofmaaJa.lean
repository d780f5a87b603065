/- A run, plainly, and as the machine holds it. -/
import Derived.Test.YtilbnjldfgofmaaIg
namespace Go.Proofs.Ytilbnjldfgofmaa
open Go.RowKit
set_option linter.unusedVariables false
set_option linter.unusedSimpArgs false
set_option maxRecDepth 8000

structure Wnt where
  kind : Int
  addr : Int
  value : Int
  acq : Int
  rel : Bool
  fence : Int
  dsb : Bool
  sys : Int
  cls : Int
  iss : Int
deriving DecidableEq
abbrev wnA (k : Wnt) : Array Value := #[vI k.kind, vU k.addr, vU k.value, vI k.acq, .bool k.rel, vI k.fence, .bool k.dsb, vI k.sys, vI k.cls, vI k.iss]
abbrev wnV (k : Wnt) : Value := .agg (wnA k)
def nilW : Wnt := ⟨0, 0, 0, 0, false, 0, false, 0, 0, 0⟩
theorem wn_size (k : Wnt) : (wnA k).size = 10 := rfl
theorem wn_one (k : Wnt) : (wnA k).all (·.oneCell') = true := by simp [Value.oneCell']
structure Gt where
  value : Int
  ok : Bool
  fault : Int
abbrev gtA (k : Gt) : Array Value := #[vU k.value, .bool k.ok, vI k.fault]
abbrev gtV (k : Gt) : Value := .agg (gtA k)
/-- A run, plainly. -/
structure Rn where
  next : Nat
  c : Cor
  w : Wnt
  go : Nat
  word : Int
  guest : Bool
  flt : Bool
  vs : List Int
/-- The numbers of a run are of their kinds. -/
structure Rn.Ok (S : Rn) : Prop where
  x : ∀ i (h : i < 31), U64 S.c.x[i]
  sp0 : U64 S.c.sp0
  sp1 : U64 S.c.sp1
  el : S.c.el = 0 ∨ S.c.el = 1
  vs : ∀ v ∈ S.vs, U64 v
/-- A run in memory: its own block, the block of its operations, the block of its values. -/
def RF (g vb : Nat) (k : Nat) : Prop := k = g ∨ k = vb
section
variable {l : List Opr} {g vb : Nat} {so : Value} {S : Rn} {w w' : World}
end
end Go.Proofs.Ytilbnjldfgofmaa
