/- Whether an instruction is right, as the document's own answer to chapter 2 tells it: the contract, for every instruction. -/
import Derived.Test.YtjmdgfimmjodjaaGreatDoorV10
import Derived.Test.YtjmdgfimmjodjaaGreatDoorV11
import Derived.Test.YtjmdgfimmjodjaaGreatDoorV12
import Derived.Test.YtjmdgfimmjodjaaGreatDoorV13
import Derived.Test.YtjmdgfimmjodjaaGreatDoorV14
import Derived.Test.YtjmdgfimmjodjaaGreatDoorV06
import Derived.Lib.ItoaNum
import Derived.Lib.Join
namespace Go.Proofs.YtjmdgfimmjodjaaGreatDoor
open Go.RowKit Go.Rel
set_option linter.unusedVariables false

set_option maxRecDepth 4000 in
set_option maxHeartbeats 4000000 in
theorem rrO (op sub rd rn rm ra imm imm2 amount shift cond sys : Int) (flags minus not link : Bool) (w : World) (ho : ¬ (1 ≤ op ∧ op ≤ 37)) :
    Calls Tryz.prog 5 #[(⟨op, sub, rd, rn, rm, ra, imm, imm2, amount, shift, cond, sys, flags, minus, not, link⟩ : Ins).val] w fun e w' => e = .returned (.bool (rightR ⟨op, sub, rd, rn, rm, ra, imm, imm2, amount, shift, cond, sys, flags, minus, not, link⟩)) ∧ Below w.heap.size w w' := by
  have BX := heap_alloc_new w (.cells #[vI op, vI sub, vI rd, vI rn, vI rm, vI ra, vI imm, vI imm2, vI amount, vI shift, vI cond, vI sys, .bool flags, .bool minus, .bool not, .bool link] 23)
  have HB := below_alloc w (.cells #[vI op, vI sub, vI rd, vI rn, vI rm, vI ra, vI imm, vI imm2, vI amount, vI shift, vI cond, vI sys, .bool flags, .bool minus, .bool not, .bool link] 23)
  have hR : Hid (rightR ⟨op, sub, rd, rn, rm, ra, imm, imm2, amount, shift, cond, sys, flags, minus, not, link⟩ = (clearB ⟨op, sub, rd, rn, rm, ra, imm, imm2, amount, shift, cond, sys, flags, minus, not, link⟩ && false)) := by show _ = _; rw [(re_out (i := ⟨op, sub, rd, rn, rm, ra, imm, imm2, amount, shift, cond, sys, flags, minus, not, link⟩) ho).1, Bool.and_false]
  have HC := rclear_c op sub rd rn rm ra imm imm2 amount shift cond sys flags minus not link
  replace HC := show Hid _ from HC
  generalize rightR ⟨op, sub, rd, rn, rm, ra, imm, imm2, amount, shift, cond, sys, flags, minus, not, link⟩ = R at hR ⊢
  have hcl : clearB ⟨op, sub, rd, rn, rm, ra, imm, imm2, amount, shift, cond, sys, flags, minus, not, link⟩ = false := by unfold clearB; rw [shape_out ho]; rfl
  rw [hcl] at hR HC
  clear hcl
  go_enter Tryz.func5, Tryz.ntmps5
  go_wp2_with (first | (go_at_call 21; refine (HC.out _).mono ?_; rintro e w1 ⟨rfl, hb⟩; replace BX := keepB BX hb; replace HB := thenH HB hb; clear hb HC; dsimp only; obtain ⟨c0, c1, c2, c3, c4, c5, c6, c7, c8, c9, c10, c11, c12, c13, c14, c15⟩ := cells16 BX; clear BX) | ((with_reducible refine wpList_load_if rfl 23 _ rfl w.heap.size rfl 23 _ (0, 0) _ BX Tryz.underlying23 rfl (infoK _ rfl) ?_); simp only [Act.put, List.setIfInBounds_toArray, List.set_cons_succ, List.set_cons_zero]))
  go_ret
  exact ⟨ret_bool (by rw [hR.out]; rfl), HB.out⟩
theorem rright_c (i : Ins) (w : World) :
    Calls Tryz.prog 5 #[i.val] w fun e w' => e = .returned (.bool (rightB i)) ∧ Below w.heap.size w w' := by
  rw [← right_eq]
  obtain ⟨op, sub, rd, rn, rm, ra, imm, imm2, amount, shift, cond, sys, flags, minus, not, link⟩ := i
  by_cases h : 1 ≤ op ∧ op ≤ 37
  · rcases (by omega : op = 1 ∨ op = 2 ∨ op = 3 ∨ op = 4 ∨ op = 5 ∨ op = 6 ∨ op = 7 ∨ op = 8 ∨ op = 9 ∨ op = 10 ∨ op = 11 ∨ op = 12 ∨ op = 13 ∨ op = 14 ∨ op = 15 ∨ op = 16 ∨ op = 17 ∨ op = 18 ∨ op = 19 ∨ op = 20 ∨ op = 21 ∨ op = 22 ∨ op = 23 ∨ op = 24 ∨ op = 25 ∨ op = 26 ∨ op = 27 ∨ op = 28 ∨ op = 29 ∨ op = 30 ∨ op = 31 ∨ op = 32 ∨ op = 33 ∨ op = 34 ∨ op = 35 ∨ op = 36 ∨ op = 37) with rfl | rfl | rfl | rfl | rfl | rfl | rfl | rfl | rfl | rfl | rfl | rfl | rfl | rfl | rfl | rfl | rfl | rfl | rfl | rfl | rfl | rfl | rfl | rfl | rfl | rfl | rfl | rfl | rfl | rfl | rfl | rfl | rfl | rfl | rfl | rfl | rfl
    · exact rr1 _ _ _ _ _ _ _ _ _ _ _ _ _ _ _ _
    · exact rr2 _ _ _ _ _ _ _ _ _ _ _ _ _ _ _ _
    · exact rr3 _ _ _ _ _ _ _ _ _ _ _ _ _ _ _ _
    · exact rr4 _ _ _ _ _ _ _ _ _ _ _ _ _ _ _ _
    · exact rr5 _ _ _ _ _ _ _ _ _ _ _ _ _ _ _ _
    · exact rr6 _ _ _ _ _ _ _ _ _ _ _ _ _ _ _ _
    · exact rr7 _ _ _ _ _ _ _ _ _ _ _ _ _ _ _ _
    · exact rr8 _ _ _ _ _ _ _ _ _ _ _ _ _ _ _ _
    · exact rr9 _ _ _ _ _ _ _ _ _ _ _ _ _ _ _ _
    · exact rr10 _ _ _ _ _ _ _ _ _ _ _ _ _ _ _ _
    · exact rr11 _ _ _ _ _ _ _ _ _ _ _ _ _ _ _ _
    · exact rr12 _ _ _ _ _ _ _ _ _ _ _ _ _ _ _ _
    · exact rr13 _ _ _ _ _ _ _ _ _ _ _ _ _ _ _ _
    · exact rr14 _ _ _ _ _ _ _ _ _ _ _ _ _ _ _ _
    · exact rr15 _ _ _ _ _ _ _ _ _ _ _ _ _ _ _ _
    · exact rr16 _ _ _ _ _ _ _ _ _ _ _ _ _ _ _ _
    · exact rr17 _ _ _ _ _ _ _ _ _ _ _ _ _ _ _ _
    · exact rr18 _ _ _ _ _ _ _ _ _ _ _ _ _ _ _ _
    · exact rr19 _ _ _ _ _ _ _ _ _ _ _ _ _ _ _ _
    · exact rr20 _ _ _ _ _ _ _ _ _ _ _ _ _ _ _ _
    · exact rr21 _ _ _ _ _ _ _ _ _ _ _ _ _ _ _ _
    · exact rr22 _ _ _ _ _ _ _ _ _ _ _ _ _ _ _ _
    · exact rr23 _ _ _ _ _ _ _ _ _ _ _ _ _ _ _ _
    · exact rr24 _ _ _ _ _ _ _ _ _ _ _ _ _ _ _ _
    · exact rr25 _ _ _ _ _ _ _ _ _ _ _ _ _ _ _ _
    · exact rr26 _ _ _ _ _ _ _ _ _ _ _ _ _ _ _ _
    · exact rr27 _ _ _ _ _ _ _ _ _ _ _ _ _ _ _ _
    · exact rr28 _ _ _ _ _ _ _ _ _ _ _ _ _ _ _ _
    · exact rr29 _ _ _ _ _ _ _ _ _ _ _ _ _ _ _ _
    · exact rr30 _ _ _ _ _ _ _ _ _ _ _ _ _ _ _ _
    · exact rr31 _ _ _ _ _ _ _ _ _ _ _ _ _ _ _ _
    · exact rr32 _ _ _ _ _ _ _ _ _ _ _ _ _ _ _ _
    · exact rr33 _ _ _ _ _ _ _ _ _ _ _ _ _ _ _ _
    · exact rr34 _ _ _ _ _ _ _ _ _ _ _ _ _ _ _ _
    · exact rr35 _ _ _ _ _ _ _ _ _ _ _ _ _ _ _ _
    · exact rr36 _ _ _ _ _ _ _ _ _ _ _ _ _ _ _ _
    · exact rr37 _ _ _ _ _ _ _ _ _ _ _ _ _ _ _ _
  · exact rrO _ _ _ _ _ _ _ _ _ _ _ _ _ _ _ _ _ h
end Go.Proofs.YtjmdgfimmjodjaaGreatDoor
/- How an instruction is written, as plain lists of bytes: definitions. -/
namespace Go.Proofs.YtjmdgfimmjodjaaGreatDoor
open Go.RowKit Go.Rel

abbrev Tx := List UInt8
def shiftT (k : Int) : Tx := bif k == 0 then [108, 115, 108] else bif k == 1 then [108, 115, 114] else bif k == 2 then [97, 115, 114] else bif k == 3 then [114, 111, 114] else []
def condT (k : Int) : Tx := bif k == 0 then [101, 113] else bif k == 1 then [110, 101] else bif k == 2 then [99, 115] else bif k == 3 then [99, 99] else bif k == 4 then [109, 105] else bif k == 5 then [112, 108] else bif k == 6 then [118, 115] else bif k == 7 then [118, 99] else bif k == 8 then [104, 105] else bif k == 9 then [108, 115] else bif k == 10 then [103, 101] else bif k == 11 then [108, 116] else bif k == 12 then [103, 116] else bif k == 13 then [108, 101] else bif k == 14 then [97, 108] else bif k == 15 then [110, 118] else []
def bicT (k : Int) : Tx := bif k == 0 then [98, 105, 99] else bif k == 1 then [111, 114, 110] else bif k == 2 then [101, 111, 110] else []
def andT (k : Int) : Tx := bif k == 0 then [97, 110, 100] else bif k == 1 then [111, 114, 114] else bif k == 2 then [101, 111, 114] else []
def movT (k : Int) : Tx := bif k == 0 then [109, 111, 118, 110] else bif k == 1 then [] else bif k == 2 then [109, 111, 118, 122] else bif k == 3 then [109, 111, 118, 107] else []
def bfmT (k : Int) : Tx := bif k == 0 then [115, 98, 102, 109] else bif k == 1 then [] else bif k == 2 then [117, 98, 102, 109] else []
def divT (k : Int) : Tx := bif k == 0 then [117, 100, 105, 118] else bif k == 1 then [115, 100, 105, 118] else []
def selT (k : Int) : Tx := bif k == 0 then [99, 115, 101, 108] else bif k == 1 then [99, 115, 105, 110, 99] else bif k == 2 then [99, 115, 105, 110, 118] else bif k == 3 then [99, 115, 110, 101, 103] else []
def adrT (k : Int) : Tx := bif k == 0 then [97, 100, 114] else bif k == 1 then [97, 100, 114, 112] else []
def brT (k : Int) : Tx := bif k == 0 then [98, 114] else bif k == 1 then [98, 108, 114] else bif k == 2 then [114, 101, 116] else []
def ldarT (k : Int) : Tx := bif k == 0 then [108, 100, 97, 114] else bif k == 1 then [108, 100, 97, 112, 114] else []
def ldxrT (k : Int) : Tx := bif k == 0 then [108, 100, 120, 114] else bif k == 1 then [108, 100, 97, 120, 114] else []
def stxrT (k : Int) : Tx := bif k == 0 then [115, 116, 120, 114] else bif k == 1 then [115, 116, 108, 120, 114] else []
def dmbT (k : Int) : Tx := bif k == 0 then [100, 109, 98] else bif k == 1 then [100, 115, 98] else []
def daifT (k : Int) : Tx := bif k == 0 then [100, 97, 105, 102, 115, 101, 116] else bif k == 1 then [100, 97, 105, 102, 99, 108, 114] else []
def barT (k : Int) : Tx := bif k == 0 then [108, 100] else bif k == 1 then [115, 116] else bif k == 2 then [115, 121] else []

structure Key where
  op : Int
  sub : Int
  cond : Int
  flags : Bool
  minus : Bool
  not : Bool
  link : Bool

def wordK (k : Key) : Tx :=
  bif k.op == 1 || k.op == 2 then (bif k.minus then [115, 117, 98] else [97, 100, 100]) ++ (bif k.flags then [115] else []) else
  bif k.op == 3 || k.op == 4 then (bif k.not then bicT k.sub else andT k.sub) ++ (bif k.flags then [115] else []) else
  bif k.op == 5 then movT k.sub else
  bif k.op == 6 then bfmT k.sub else
  bif k.op == 7 then shiftT k.sub else
  bif k.op == 8 then (bif k.minus then [109, 115, 117, 98] else [109, 97, 100, 100]) else
  bif k.op == 9 then divT k.sub else
  bif k.op == 10 then selT k.sub else
  bif k.op == 11 then adrT k.sub else
  bif k.op == 12 then (bif k.link then [98, 108] else [98]) else
  bif k.op == 13 then [98, 46] ++ condT k.cond else
  bif k.op == 14 then (bif k.not then [99, 98, 110, 122] else [99, 98, 122]) else
  bif k.op == 15 then (bif k.not then [116, 98, 110, 122] else [116, 98, 122]) else
  bif k.op == 16 then brT k.sub else
  bif k.op == 17 || k.op == 19 then [108, 100, 114] else
  bif k.op == 18 || k.op == 20 then [115, 116, 114] else
  bif k.op == 21 then ldarT k.sub else
  bif k.op == 22 then [115, 116, 108, 114] else
  bif k.op == 23 then ldxrT k.sub else
  bif k.op == 24 then stxrT k.sub else
  bif k.op == 25 then [99, 108, 114, 101, 120] else
  bif k.op == 26 then dmbT k.sub else
  bif k.op == 27 then [105, 115, 98] else
  bif k.op == 28 then [105, 99, 32, 105, 118, 97, 117] else
  bif k.op == 29 then [105, 99, 32, 105, 97, 108, 108, 117] else
  bif k.op == 30 then [100, 99, 32, 99, 118, 97, 117] else
  bif k.op == 31 then [109, 114, 115] else
  bif k.op == 32 || k.op == 33 then [109, 115, 114] else
  bif k.op == 34 then [115, 118, 99] else
  bif k.op == 35 then [98, 114, 107] else
  bif k.op == 36 then [101, 114, 101, 116] else
  [104, 105, 110, 116]

def Ins.key (i : Ins) : Key := ⟨i.op, i.sub, i.cond, i.flags, i.minus, i.not, i.link⟩
def wordV (i : Ins) : Tx := wordK i.key

def regT (n : Int) (sp : Bool) : Tx := bif n == 31 then (bif sp then [115, 112] else [120, 122, 114]) else 120 :: Lib.itoa n
def numT (n : Int) : Tx := 35 :: Lib.itoa n
def maskT (i : Ins) : Tx := 35 :: Lib.decDigits (maskV i.amount i.imm i.imm2).toNat
def sftT (k a : Int) : Tx := shiftT k ++ 32 :: numT a
def shiftedT (k a : Int) : List Tx := bif k == 0 && a == 0 then [] else [sftT k a]
abbrev commaT : Tx := [44, 32]
def placeT (xs : List Tx) : Tx := 91 :: (Lib.join xs commaT ++ [93])
def rdT (i : Ins) : Tx := regT i.rd (spD i)
def rnT (i : Ins) : Tx := regT i.rn (spN i)
def rmT (i : Ins) : Tx := regT i.rm false
def partsV (i : Ins) : List Tx :=
  bif i.op == 1 then [rdT i, rnT i, numT i.imm] ++ shiftedT 0 i.amount else
  bif i.op == 2 || i.op == 3 then [rdT i, rnT i, rmT i] ++ shiftedT i.shift i.amount else
  bif i.op == 4 then [rdT i, rnT i, maskT i] else
  bif i.op == 5 then [rdT i, numT i.imm] ++ shiftedT 0 i.amount else
  bif i.op == 6 then [rdT i, rnT i, numT i.imm, numT i.imm2] else
  bif i.op == 7 || i.op == 9 then [rdT i, rnT i, rmT i] else
  bif i.op == 8 then [rdT i, rnT i, rmT i, regT i.ra false] else
  bif i.op == 10 then [rdT i, rnT i, rmT i, condT i.cond] else
  bif i.op == 16 then [rnT i] else
  bif i.op == 17 || i.op == 18 then [rdT i, placeT [rnT i, numT i.imm]] else
  bif i.op == 19 || i.op == 20 then [rdT i, placeT [rnT i, rmT i, sftT 0 i.amount]] else
  bif i.op == 21 || i.op == 22 || i.op == 23 then [rdT i, placeT [rnT i]] else
  bif i.op == 24 then [rmT i, rdT i, placeT [rnT i]] else
  bif i.op == 26 then [barT (i.imm - 1)] else
  bif i.op == 28 || i.op == 30 then [rdT i] else
  bif i.op == 31 then [rdT i, numT i.sys] else
  bif i.op == 32 then [numT i.sys, rdT i] else
  bif i.op == 11 || i.op == 14 then [regT i.rd false, numT i.imm] else
  bif i.op == 15 then [regT i.rd false, numT i.amount, numT i.imm] else
  bif i.op == 12 || i.op == 13 || i.op == 34 || i.op == 35 || i.op == 37 then [numT i.imm] else
  bif i.op == 33 then [daifT i.sub, numT i.imm] else
  []
def textOf (w : Tx) (ps : List Tx) : Tx := match ps with | [] => w | _ :: _ => w ++ ([32] ++ Lib.join ps commaT)
def textV (i : Ins) : Tx := textOf (wordV i) (partsV i)
end Go.Proofs.YtjmdgfimmjodjaaGreatDoor
