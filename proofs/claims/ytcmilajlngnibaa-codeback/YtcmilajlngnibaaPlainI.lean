/- Instructions as records, and what an instruction leaves to its fields: plain definitions, as the chapter has them. No function of the program is named. -/
import GoSem.Claim
import Derived.WalkKit
import Derived.WalkSpells
import Derived.WalkLawsBesides
import Derived.Below
namespace Go.Proofs.Ytcmilajlngnibaa
open Go.RowKit

structure Ins where
  op : Int
  sub : Int
  rd : Int
  rn : Int
  rm : Int
  ra : Int
  imm : Int
  imm2 : Int
  amount : Int
  shift : Int
  cond : Int
  sys : Int
  flags : Bool
  minus : Bool
  not : Bool
  link : Bool

structure Span where
  lo : Int
  hi : Int
  st : Int

def upToS (n : Int) : Span := ⟨0, n, 1⟩
def zeroS : Span := ⟨0, 0, 0⟩

def hasRa (op : Int) : Bool := op == 8
def hasRm (op : Int) : Bool := op == 8 || op == 2 || op == 3 || op == 7 || op == 9 || op == 10 || op == 19 || op == 20 || op == 24
def hasRn2 (op : Int) : Bool := hasRm op || op == 1 || op == 4 || op == 6 || op == 17 || op == 18 || op == 21 || op == 22 || op == 23
def hasRd (op : Int) : Bool := hasRn2 op || op == 5 || op == 11 || op == 14 || op == 15 || op == 28 || op == 30 || op == 31 || op == 32
def hasRn (op : Int) : Bool := hasRn2 op || op == 16
def h31 (b : Bool) : Int := bif b then 31 else 0
def h1 (b : Bool) : Int := bif b then 1 else 0
def regS (b : Bool) : Span := ⟨0, h31 b, h1 b⟩

def subS (op : Int) : Span :=
  bif op == 3 || op == 4 || op == 16 then upToS 2 else bif op == 10 || op == 7 || op == 5 then upToS 3 else bif op == 6 then ⟨0, 2, 2⟩
  else bif op == 9 || op == 11 || op == 21 || op == 23 || op == 24 || op == 26 || op == 33 then upToS 1 else zeroS
def shiftS (op : Int) : Span := bif op == 2 then upToS 2 else bif op == 3 then upToS 3 else zeroS
def condS (op : Int) : Span := bif op == 10 || op == 13 then upToS 15 else zeroS
def imm2S (op : Int) : Span := bif op == 4 || op == 6 then upToS 63 else zeroS
def brS (m : Int) : Span := bif m == 26 then ⟨-134217728, 134217724, 4⟩ else bif m == 19 then ⟨-1048576, 1048572, 4⟩ else ⟨-32768, 32764, 4⟩
def immS (op sub : Int) : Span :=
  bif op == 1 then upToS 4095 else bif op == 4 || op == 6 then upToS 63 else bif op == 5 || op == 34 || op == 35 then upToS 65535
  else bif op == 11 then (bif sub == 1 then ⟨-4294967296, 4294963200, 4096⟩ else ⟨-1048576, 1048575, 1⟩)
  else bif op == 12 then brS 26 else bif op == 13 || op == 14 then brS 19 else bif op == 15 then brS 14
  else bif op == 17 || op == 18 then ⟨0, 32760, 8⟩ else bif op == 26 then ⟨1, 3, 1⟩ else bif op == 33 then upToS 15 else bif op == 37 then upToS 5 else zeroS
def amountS (op : Int) : Span :=
  bif op == 1 then ⟨0, 12, 12⟩ else bif op == 2 || op == 3 || op == 15 then upToS 63 else bif op == 4 then upToS 1 else bif op == 5 then ⟨0, 48, 16⟩
  else bif op == 19 || op == 20 then ⟨0, 3, 3⟩ else zeroS
def flagsR (op sub : Int) : Bool := op == 2 || op == 1 || ((op == 3 || op == 4) && sub == 0)
def minusR (op : Int) : Bool := op == 2 || op == 1 || op == 8
def notR (op : Int) : Bool := op == 3 || op == 14 || op == 15
def linkR (op : Int) : Bool := op == 12

def holdsB (s : Span) (n : Int) : Bool := decide (s.lo ≤ n) && decide (n ≤ s.hi) && (n == 0 || n.tmod s.st == 0)

/-- The values, as the machine has them. -/
abbrev vI (n : Int) : Value := .int .i64 n
abbrev Ins.cells (i : Ins) : Array Value := #[vI i.op, vI i.sub, vI i.rd, vI i.rn, vI i.rm, vI i.ra, vI i.imm, vI i.imm2, vI i.amount, vI i.shift, vI i.cond, vI i.sys, .bool i.flags, .bool i.minus, .bool i.not, .bool i.link]
abbrev Ins.val (i : Ins) : Value := .agg #[vI i.op, vI i.sub, vI i.rd, vI i.rn, vI i.rm, vI i.ra, vI i.imm, vI i.imm2, vI i.amount, vI i.shift, vI i.cond, vI i.sys, .bool i.flags, .bool i.minus, .bool i.not, .bool i.link]
abbrev Span.val (s : Span) : Value := .agg #[vI s.lo, vI s.hi, vI s.st]
abbrev Span.cells (s : Span) : Array Value := #[vI s.lo, vI s.hi, vI s.st]

end Go.Proofs.Ytcmilajlngnibaa
