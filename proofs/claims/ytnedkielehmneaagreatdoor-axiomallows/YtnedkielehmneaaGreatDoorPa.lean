/- Events and their relations, plain. -/
import Derived.Test.YtnedkielehmneaaGreatDoorRw
namespace Go.Proofs.YtnedkielehmneaaGreatDoor.Axm
open Go.RowKit
set_option linter.unusedVariables false
set_option linter.unusedSimpArgs false
set_option maxRecDepth 8000

/-- An event, plain. -/
structure Ev where
  core : Int
  po : Int
  kind : Int
  addr : Int
  value : Int
  acq : Int
  rel : Bool
  ex : Bool
  fence : Int
  stamp : Int
  adr : List Int
  dat : List Int
  ctl : List Int
deriving DecidableEq, Inhabited

/-- What is asked of every thing; of some. -/
def allB (n : Nat) (f : Nat → Bool) : Bool := (List.range n).all f
def someB (n : Nat) (f : Nat → Bool) : Bool := !allB n fun a => !f a
theorem allB_iff {n : Nat} {f : Nat → Bool} : allB n f = true ↔ ∀ a, a < n → f a = true := by
  simp [allB]
theorem someB_iff {n : Nat} {f : Nat → Bool} : someB n f = true ↔ ∃ a, a < n ∧ f a = true := by
  simp [someB, allB]
theorem someB_no {n : Nat} {f : Nat → Bool} : someB n f = false ↔ ∀ a, a < n → f a = false := by
  simp [someB, allB]
/-- Pairs of which this holds; things of a kind with themselves. -/
def suchR (n : Nat) (P : Nat → Nat → Bool) : Nat → Nat → Bool := fun a b => decide (a < n) && decide (b < n) && P a b
def onlyR (n : Nat) (K : Nat → Bool) : Nat → Nat → Bool := fun a b => decide (a < n) && decide (b = a) && K a
theorem suchR_iff {n : Nat} {P : Nat → Nat → Bool} {a b : Nat} : suchR n P a b = true ↔ a < n ∧ b < n ∧ P a b = true := by
  simp [suchR, and_assoc]
theorem onlyR_iff {n : Nat} {K : Nat → Bool} {a b : Nat} : onlyR n K a b = true ↔ a < n ∧ b = a ∧ K a = true := by
  simp [onlyR, and_assoc]
theorem such_fits (n : Nat) (P : Nat → Nat → Bool) : Rlw.Fits n (suchR n P) := fun a b h => ⟨(suchR_iff.1 h).1, (suchR_iff.1 h).2.1⟩
theorem only_fits (n : Nat) (K : Nat → Bool) : Rlw.Fits n (onlyR n K) := fun a b h => ⟨(onlyR_iff.1 h).1, by rw [(onlyR_iff.1 h).2.1]; exact (onlyR_iff.1 h).1⟩
section
variable (n : Nat) (x : Nat → Ev)
def rd (a : Nat) : Bool := decide ((x a).kind = 1)
def wt (a : Nat) : Bool := decide ((x a).kind = 2)
def ib (a : Nat) : Bool := decide ((x a).kind = 4)
def acqs (a : Nat) : Bool := rd x a && decide ((x a).acq = 2)
def takes (a : Nat) : Bool := rd x a && !decide ((x a).acq = 0)
def rels (a : Nat) : Bool := wt x a && (x a).rel
def exc (a : Nat) : Bool := (x a).ex
def full (a : Nat) : Bool := decide ((x a).fence = 15)
def ld (a : Nat) : Bool := decide ((x a).fence = 13) || full x a
def st (a : Nat) : Bool := decide ((x a).fence = 10) || full x a
def oneCore (a b : Nat) : Bool := decide ((x a).core = (x b).core)
def onePlace (a b : Nat) : Bool := oneCore x a b && decide ((x a).po = (x b).po)
def touch (a : Nat) : Bool := rd x a || wt x a
def oneAddr (a b : Nat) : Bool := touch x a && touch x b && decide ((x a).addr = (x b).addr)
def oneStamp (a b : Nat) : Bool := oneAddr x a b && decide ((x a).stamp = (x b).stamp)
def isAt (core po : Int) (a : Nat) : Bool := rd x a && decide ((x a).core = core) && decide ((x a).po = po)
def readAt (core po : Int) : Option Nat := (List.range n).find? (isAt x core po)
def poB (a b : Nat) : Bool := oneCore x a b && decide ((x a).po < (x b).po)
def rfB (a b : Nat) : Bool := wt x a && rd x b && oneStamp x a b
def olderB (a b : Nat) : Bool := wt x b && oneAddr x a b && decide ((x a).stamp < (x b).stamp)
def poR := suchR n (poB x)
def locR := suchR n (oneAddr x)
def coreR := suchR n (oneCore x)
def rfR := suchR n (rfB x)
def olderR := suchR n (olderB x)
def coR := Rlw.thR n (onlyR n (wt x)) (olderR n x)
def frR := Rlw.thR n (onlyR n (rd x)) (olderR n x)
def rfiR := Rlw.inR (rfR n x) (coreR n x)
def rfeR := Rlw.miR (rfR n x) (coreR n x)
def coiR := Rlw.inR (coR n x) (coreR n x)
def coeR := Rlw.miR (coR n x) (coreR n x)
def friR := Rlw.inR (frR n x) (coreR n x)
def freR := Rlw.miR (frR n x) (coreR n x)
def depR (f : Ev → List Int) : Nat → Nat → Bool := fun a b => decide (b < n) && (f (x b)).any fun p => readAt n x (x b).core p == some a
def addrR := depR n x Ev.adr
def dataR := depR n x Ev.dat
def ctrlR := depR n x Ev.ctl
def exR := onlyR n (exc x)
def behR := Rlw.thR n (Rlw.thR n (exR n x) (poR n x)) (exR n x)
def nextR := Rlw.miR (behR n x) (Rlw.thR n (behR n x) (behR n x))
def rmwR := Rlw.inR (Rlw.thR n (Rlw.thR n (onlyR n (rd x)) (nextR n x)) (onlyR n (wt x))) (locR n x)
def obsR := Rlw.unR (Rlw.unR (rfeR n x) (freR n x)) (coeR n x)
def d1R := Rlw.thR n (ctrlR n x) (onlyR n (wt x))
def d2R := Rlw.thR n (Rlw.thR n (Rlw.thR n (Rlw.unR (ctrlR n x) (Rlw.thR n (addrR n x) (poR n x))) (onlyR n (ib x))) (poR n x)) (onlyR n (rd x))
def d3R := Rlw.thR n (Rlw.thR n (addrR n x) (poR n x)) (onlyR n (wt x))
def d4R := Rlw.thR n (Rlw.unR (ctrlR n x) (dataR n x)) (coiR n x)
def d5R := Rlw.thR n (Rlw.unR (addrR n x) (dataR n x)) (rfiR n x)
def dobR := Rlw.unR (Rlw.unR (Rlw.unR (Rlw.unR (Rlw.unR (Rlw.unR (addrR n x) (dataR n x)) (d1R n x)) (d2R n x)) (d3R n x)) (d4R n x)) (d5R n x)
def secR := Rlw.thR n (Rlw.tuR (rmwR n x)) (rmwR n x)
def aobR := Rlw.unR (rmwR n x) (Rlw.thR n (Rlw.thR n (secR n x) (rfiR n x)) (onlyR n (takes x)))
def b1R := Rlw.thR n (Rlw.thR n (poR n x) (onlyR n (full x))) (poR n x)
def b2R := Rlw.thR n (Rlw.thR n (onlyR n (rels x)) (poR n x)) (onlyR n (acqs x))
def b3R := Rlw.thR n (Rlw.thR n (Rlw.thR n (onlyR n (rd x)) (poR n x)) (onlyR n (ld x))) (poR n x)
def b4R := Rlw.thR n (onlyR n (takes x)) (poR n x)
def b5R := Rlw.thR n (Rlw.thR n (Rlw.thR n (Rlw.thR n (onlyR n (wt x)) (poR n x)) (onlyR n (st x))) (poR n x)) (onlyR n (wt x))
def b6R := Rlw.thR n (poR n x) (onlyR n (rels x))
def b7R := Rlw.thR n (Rlw.thR n (poR n x) (onlyR n (rels x))) (coiR n x)
def bobR := Rlw.unR (Rlw.unR (Rlw.unR (Rlw.unR (Rlw.unR (Rlw.unR (b1R n x) (b2R n x)) (b3R n x)) (b4R n x)) (b5R n x)) (b6R n x)) (b7R n x)
def allR := Rlw.unR (Rlw.unR (Rlw.unR (obsR n x) (dobR n x)) (aobR n x)) (bobR n x)
def obR := Rlw.war (allR n x) n
def inbR := Rlw.unR (Rlw.unR (Rlw.unR (Rlw.inR (poR n x) (locR n x)) (rfR n x)) (coR n x)) (frR n x)
def atoR := Rlw.inR (rmwR n x) (Rlw.thR n (freR n x) (coeR n x))
/-- The verdict. -/
def intV : Bool := !(Rlw.loopF n (inbR n x)).isSome
def extV : Bool := !(Rlw.loopF n (obR n x)).isSome
def atoV : Bool := decide ((Rlw.prsN n n (atoR n x)).length = 0)
/-- The candidate. -/
def isFence (f : Int) : Bool := decide (f = 13) || decide (f = 10) || decide (f = 15)
def nothing (e : Ev) : Bool := decide (e.addr = 0) && decide (e.value = 0) && decide (e.acq = 0) && !e.rel && !e.ex && decide (e.stamp = 0)
def formE (e : Ev) : Bool :=
  if e.kind = 1 then decide (0 ≤ e.acq) && decide (e.acq ≤ 2) && !e.rel && decide (e.fence = 0)
  else if e.kind = 2 then decide (e.acq = 0) && decide (e.fence = 0)
  else if e.kind = 3 then isFence e.fence && nothing e
  else if e.kind = 4 then decide (e.fence = 0) && nothing e
  else false
def twin (a : Nat) : Bool := someB n fun b => !decide (a = b) && onePlace x a b
def formed (a : Nat) : Bool :=
  if (x a).core < 0 then false else if (x a).core ≥ 8 then false else if (x a).po < 0 then false else if twin n x a then false else formE (x a)
def ownStamp (a : Nat) : Bool := decide ((x a).stamp ≥ 1) && !someB n fun b => !decide (a = b) && wt x b && oneStamp x a b
def readRight (a : Nat) : Bool :=
  if (x a).stamp = 0 then !someB n fun b => rd x b && oneStamp x a b && !decide ((x a).value = (x b).value)
  else someB n fun b => wt x b && oneStamp x a b && decide ((x a).value = (x b).value)
def behind (a : Nat) (l : List Int) : Bool := l.all fun p => decide (p < (x a).po) && (readAt n x (x a).core p).isSome
def agrees (a : Nat) : Bool :=
  if wt x a && !ownStamp n x a then false
  else if rd x a && !readRight n x a then false
  else behind n x a (x a).adr && behind n x a (x a).dat && behind n x a (x a).ctl
def rightE : Int := if 64 < n then 5 else if !allB n (formed n x) then 1 else if !allB n (agrees n x) then 7 else 0
end
end Go.Proofs.YtnedkielehmneaaGreatDoor.Axm
