/- The pass, plainly. -/
import Derived.Test.YtilhjbhhgpoajaaDoorPa
import Derived.Test.YtilhjbhhgpoajaaDoorXd
namespace Go.Proofs.YtilhjbhhgpoajaaDoor
open Go.RowKit
set_option linter.unusedVariables false
set_option linter.unusedSimpArgs false
set_option maxRecDepth 8000

/-- The pass, plainly. -/
structure Fo where
  laid : List Opr
  known : Int → Int → Option Nat
  left : Bool
def flagB (o : Opr) : Bool := if o.kind = 6 then true else if o.kind = 1 then decide (o.imm ≤ 1) else if o.kind = 8 then (o.r == 13 || o.r == 14 || o.r == 15) else false
def Fo.put (S : Fo) (o : Opr) : Fo := { S with laid := S.laid ++ [o] }
def Fo.know (S : Fo) (k r : Int) (v : Nat) : Fo := { S with known := fun a b => if a = k ∧ b = r then some v else S.known a b }
def Fo.drop (S : Fo) (k r : Int) : Fo := { S with known := fun a b => if a = k ∧ b = r then none else S.known a b }
def Fo.leave (S : Fo) : Fo := { S with left := true }
def Fo.get (S : Fo) (o : Opr) : Fo × Nat := match S.known o.kind o.r with
  | some v => (S, v)
  | none => ((S.put o).know o.kind o.r S.laid.length, S.laid.length)
def Fo.set (S : Fo) (k r : Int) (o : Opr) : Fo × Nat := ((S.know k r o.a.toNat).put o, S.laid.length)
def Fo.setFlag (S : Fo) (o : Opr) : Fo × Nat := if flagB (opAt S.laid o.a.toNat) = true then S.set 6 o.r o else ((S.drop 6 o.r).put o, S.laid.length)
def Fo.reckonO (S : Fo) (o : Opr) : Opr := if (opAt S.laid o.a.toNat).kind = 1 ∧ (opAt S.laid o.b.toNat).kind = 1 then ⟨1, 0, 0, 0, 0, Alu.reckonV o.r (opAt S.laid o.a.toNat).imm (opAt S.laid o.b.toNat).imm⟩ else o
def Fo.reckon (S : Fo) (o : Opr) : Fo × Nat := (S.put (S.reckonO o), S.laid.length)
def Fo.exitIf (S : Fo) (o : Opr) : Fo × Nat :=
  if (opAt S.laid o.a.toNat).kind ≠ 1 then (S.put o, 0)
  else if (opAt S.laid o.a.toNat).imm ≠ 0 then ((S.put ⟨16, 0, 0, 0, 0, o.imm⟩).leave, 0)
  else (S, 0)
/-- One operation told anew is laid down: what is laid then, and the place of its value. -/
def Fo.lay (S : Fo) (o : Opr) : Fo × Nat := match o.kind.toNat with
  | 2 => S.get o
  | 3 => S.set 2 o.r o
  | 4 => S.get o
  | 5 => S.set 4 o.r o
  | 6 => S.get o
  | 7 => S.setFlag o
  | 8 => S.reckon o
  | 15 => S.exitIf o
  | _ => (S.put o, S.laid.length)
def toldO (o : Opr) (ps : List Nat) : Opr := { o with a := (ps.getD o.a.toNat 0 : Nat), b := (ps.getD o.b.toNat 0 : Nat) }
def Fo.nil : Fo := ⟨[], fun _ _ => none, false⟩
/-- Where a go stands behind k operations. -/
def foS (l : List Opr) : Nat → Fo × List Nat
  | 0 => (Fo.nil, [])
  | k + 1 => if (foS l k).1.left = true then foS l k else (((foS l k).1.lay (toldO (opAt l k) (foS l k).2)).1, (foS l k).2 ++ [((foS l k).1.lay (toldO (opAt l k) (foS l k).2)).2])
/-- A block's operations, laid anew. -/
def layAll (l : List Opr) : List Opr := (foS l l.length).1.laid
theorem foS_go {l : List Opr} {k : Nat} (h : (foS l k).1.left = false) : foS l (k + 1) = (((foS l k).1.lay (toldO (opAt l k) (foS l k).2)).1, (foS l k).2 ++ [((foS l k).1.lay (toldO (opAt l k) (foS l k).2)).2]) := by
  show (if (foS l k).1.left = true then _ else _) = _
  rw [h, if_neg (by decide)]
theorem foS_stop {l : List Opr} {k : Nat} (h : (foS l k).1.left = true) : ∀ j, k ≤ j → foS l j = foS l k := by
  intro j hj
  induction j with
  | zero => rw [Nat.le_zero.1 hj]
  | succ j ih =>
    rcases Nat.lt_or_ge k (j + 1) with h1 | h1
    · have e := ih (by omega)
      show (if (foS l j).1.left = true then _ else _) = _
      rw [e, if_pos h]
    · rw [show k = j + 1 by omega]
end Go.Proofs.YtilhjbhhgpoajaaDoor
