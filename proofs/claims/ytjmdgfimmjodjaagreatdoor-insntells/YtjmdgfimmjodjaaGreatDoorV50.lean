/- An instruction that came in: its fields; and what the table of powers of ten reads as. -/
import Derived.Test.YtjmdgfimmjodjaaGreatDoorRows
import Derived.Test.YtjmdgfimmjodjaaGreatDoorV17
import Derived.Test.YtjmdgfimmjodjaaGreatDoorV02
import Derived.ProofKit
import Derived.LaidMore
import Derived.OpenShut
import Derived.Stop.Joined
import Derived.Stop.LaidErr
import Derived.Lib.SmallJoins
namespace Go.Proofs.YtjmdgfimmjodjaaGreatDoor
open Go.ChangeShapes Go.WideShapes Go.ChangeAt Go.RowKit Go.Rel

theorem own : ownKnob Tryz.prog.godebug = none := by kernel_rfl
theorem c3 : Tryz.prog.cellsOf 3 = 1 := by kernel_rfl
theorem c4 : Tryz.prog.cellsOf 4 = 1 := by kernel_rfl
theorem c23 : Tryz.prog.cellsOf 23 = 16 := by kernel_rfl

def Ins.data {H : Type} (i : Ins) : DataW H := .agg [.lit (.int .i64 i.op), .lit (.int .i64 i.sub), .lit (.int .i64 i.rd), .lit (.int .i64 i.rn), .lit (.int .i64 i.rm), .lit (.int .i64 i.ra), .lit (.int .i64 i.imm), .lit (.int .i64 i.imm2), .lit (.int .i64 i.amount), .lit (.int .i64 i.shift), .lit (.int .i64 i.cond), .lit (.int .i64 i.sys), .lit (.bool i.flags), .lit (.bool i.minus), .lit (.bool i.not), .lit (.bool i.link)]
structure Ins.WF (i : Ins) : Prop where
  op : (Lit.int .i64 i.op).wf = true
  sub : (Lit.int .i64 i.sub).wf = true
  rd : (Lit.int .i64 i.rd).wf = true
  rn : (Lit.int .i64 i.rn).wf = true
  rm : (Lit.int .i64 i.rm).wf = true
  ra : (Lit.int .i64 i.ra).wf = true
  imm : (Lit.int .i64 i.imm).wf = true
  imm2 : (Lit.int .i64 i.imm2).wf = true
  amount : (Lit.int .i64 i.amount).wf = true
  shift : (Lit.int .i64 i.shift).wf = true
  cond : (Lit.int .i64 i.cond).wf = true
  sys : (Lit.int .i64 i.sys).wf = true

theorem array16 {α : Type} {cs : Array α} (h : cs.size = 16) : ∃ x0 x1 x2 x3 x4 x5 x6 x7 x8 x9 x10 x11 x12 x13 x14 x15, cs = #[x0, x1, x2, x3, x4, x5, x6, x7, x8, x9, x10, x11, x12, x13, x14, x15] := by
  obtain ⟨l⟩ := cs
  match l, h with
  | [x0, x1, x2, x3, x4, x5, x6, x7, x8, x9, x10, x11, x12, x13, x14, x15], _ => exact ⟨x0, x1, x2, x3, x4, x5, x6, x7, x8, x9, x10, x11, x12, x13, x14, x15, rfl⟩
theorem list16 {α : Type} {xs : List α} (h : xs.length = 16) : ∃ x0 x1 x2 x3 x4 x5 x6 x7 x8 x9 x10 x11 x12 x13 x14 x15, xs = [x0, x1, x2, x3, x4, x5, x6, x7, x8, x9, x10, x11, x12, x13, x14, x15] := by
  match xs, h with
  | [x0, x1, x2, x3, x4, x5, x6, x7, x8, x9, x10, x11, x12, x13, x14, x15], _ => exact ⟨x0, x1, x2, x3, x4, x5, x6, x7, x8, x9, x10, x11, x12, x13, x14, x15, rfl⟩
section
variable {H : Type} {enc : TypeId × Value → H} {W : World} {b0 : Nat} {spare : Nat → Bool} {held : Bool}
set_option maxRecDepth 8000 in
set_option maxHeartbeats 1000000 in
theorem open_insn {r : Reach} {base : Nat} {v : Value} {d : DataW H} {p : List MemPlace} (hv : Value.okWide Tryz.prog W r base 23 v) (h : DataW.Trod enc Tryz.prog W b0 spare held 23 v d p) :
    ∃ i : Ins, i.WF ∧ v = i.val ∧ d = i.data ∧ p = [] := by
  obtain ⟨cs, rfl, hsz⟩ := okWide_struct Tryz.underlying23 hv
  obtain ⟨x0, x1, x2, x3, x4, x5, x6, x7, x8, x9, x10, x11, x12, x13, x14, x15, rfl⟩ := array16 (hsz.trans c23)
  obtain ⟨fuel, hf⟩ := h
  obtain ⟨xs, n, -, hx, -, hlen, hq⟩ := DataW.trod_struct Tryz.underlying23 hf
  obtain ⟨y0, y1, y2, y3, y4, y5, y6, y7, y8, y9, y10, y11, y12, y13, y14, y15, rfl⟩ := list16 hlen
  clear hf hv hsz hlen
  have q0 := hq 0 _ rfl
  have q1 := hq 1 _ rfl
  have q2 := hq 2 _ rfl
  have q3 := hq 3 _ rfl
  have q4 := hq 4 _ rfl
  have q5 := hq 5 _ rfl
  have q6 := hq 6 _ rfl
  have q7 := hq 7 _ rfl
  have q8 := hq 8 _ rfl
  have q9 := hq 9 _ rfl
  have q10 := hq 10 _ rfl
  have q11 := hq 11 _ rfl
  have q12 := hq 12 _ rfl
  have q13 := hq 13 _ rfl
  have q14 := hq 14 _ rfl
  have q15 := hq 15 _ rfl
  clear hq
  simp only [Value.cells, List.getElem?_cons_succ, List.getElem?_cons_zero] at q0 q1 q2 q3 q4 q5 q6 q7 q8 q9 q10 q11 q12 q13 q14 q15
  obtain ⟨n0, e0, rfl, w0⟩ := DataW.trod_int Tryz.underlying3 q0
  obtain rfl := (List.cons.inj e0).1
  obtain ⟨n1, e1, rfl, w1⟩ := DataW.trod_int Tryz.underlying3 q1
  obtain rfl := (List.cons.inj e1).1
  obtain ⟨n2, e2, rfl, w2⟩ := DataW.trod_int Tryz.underlying3 q2
  obtain rfl := (List.cons.inj e2).1
  obtain ⟨n3, e3, rfl, w3⟩ := DataW.trod_int Tryz.underlying3 q3
  obtain rfl := (List.cons.inj e3).1
  obtain ⟨n4, e4, rfl, w4⟩ := DataW.trod_int Tryz.underlying3 q4
  obtain rfl := (List.cons.inj e4).1
  obtain ⟨n5, e5, rfl, w5⟩ := DataW.trod_int Tryz.underlying3 q5
  obtain rfl := (List.cons.inj e5).1
  obtain ⟨n6, e6, rfl, w6⟩ := DataW.trod_int Tryz.underlying3 q6
  obtain rfl := (List.cons.inj e6).1
  obtain ⟨n7, e7, rfl, w7⟩ := DataW.trod_int Tryz.underlying3 q7
  obtain rfl := (List.cons.inj e7).1
  obtain ⟨n8, e8, rfl, w8⟩ := DataW.trod_int Tryz.underlying3 q8
  obtain rfl := (List.cons.inj e8).1
  obtain ⟨n9, e9, rfl, w9⟩ := DataW.trod_int Tryz.underlying3 q9
  obtain rfl := (List.cons.inj e9).1
  obtain ⟨n10, e10, rfl, w10⟩ := DataW.trod_int Tryz.underlying3 q10
  obtain rfl := (List.cons.inj e10).1
  obtain ⟨n11, e11, rfl, w11⟩ := DataW.trod_int Tryz.underlying3 q11
  obtain rfl := (List.cons.inj e11).1
  obtain ⟨n12, e12, rfl⟩ := DataW.trod_bool Tryz.underlying4 q12
  obtain rfl := (List.cons.inj e12).1
  obtain ⟨n13, e13, rfl⟩ := DataW.trod_bool Tryz.underlying4 q13
  obtain rfl := (List.cons.inj e13).1
  obtain ⟨n14, e14, rfl⟩ := DataW.trod_bool Tryz.underlying4 q14
  obtain rfl := (List.cons.inj e14).1
  obtain ⟨n15, e15, rfl⟩ := DataW.trod_bool Tryz.underlying4 q15
  obtain rfl := (List.cons.inj e15).1
  clear q0 q1 q2 q3 q4 q5 q6 q7 q8 q9 q10 q11 q12 q13 q14 q15
  simp only [Prod.mk.injEq] at hx
  exact ⟨⟨n0, n1, n2, n3, n4, n5, n6, n7, n8, n9, n10, n11, n12, n13, n14, n15⟩, ⟨w0, w1, w2, w3, w4, w5, w6, w7, w8, w9, w10, w11⟩, rfl, hx.1, hx.2⟩

theorem trod_int1 {k : IntKind} {t : TypeId} {n : Int} (ht : Tryz.prog.underlying t = some (.int k)) (hw : (Lit.int k n).wf = true) : DataW.trod enc Tryz.prog W b0 spare held 1 t [.int k n] = some (.lit (.int k n), []) := by
  simp [DataW.trod, ht, hw]
theorem trod_bool1 {t : TypeId} {b : Bool} (ht : Tryz.prog.underlying t = some .bool) : DataW.trod enc Tryz.prog W b0 spare held 1 t [.bool b] = some (.lit (.bool b), []) := by
  simp [DataW.trod, ht]
set_option maxRecDepth 8000 in
set_option maxHeartbeats 1000000 in
theorem shut_insn (i : Ins) (h : i.WF) : DataW.Trod enc Tryz.prog W b0 spare held 23 i.val i.data [] := by
  refine ⟨2, ?_⟩
  have := trod_struct_mk (enc := enc) (P := Tryz.prog) (w := W) (base := b0) (spare := spare) (held := held) (t := 23) (n := 1) (cs := i.cells.toList)
    (xs := [(.lit (.int .i64 i.op), []), (.lit (.int .i64 i.sub), []), (.lit (.int .i64 i.rd), []), (.lit (.int .i64 i.rn), []), (.lit (.int .i64 i.rm), []), (.lit (.int .i64 i.ra), []), (.lit (.int .i64 i.imm), []), (.lit (.int .i64 i.imm2), []), (.lit (.int .i64 i.amount), []), (.lit (.int .i64 i.shift), []), (.lit (.int .i64 i.cond), []), (.lit (.int .i64 i.sys), []), (.lit (.bool i.flags), []), (.lit (.bool i.minus), []), (.lit (.bool i.not), []), (.lit (.bool i.link), [])]) Tryz.underlying23 (by rw [c23]; rfl) (by
      simp only [List.mapM_cons, List.mapM_nil, List.drop_succ_cons, List.drop_zero, c3, c4, List.take_succ_cons, List.take_zero, trod_int1 Tryz.underlying3 h.op, trod_int1 Tryz.underlying3 h.sub, trod_int1 Tryz.underlying3 h.rd, trod_int1 Tryz.underlying3 h.rn, trod_int1 Tryz.underlying3 h.rm, trod_int1 Tryz.underlying3 h.ra, trod_int1 Tryz.underlying3 h.imm, trod_int1 Tryz.underlying3 h.imm2, trod_int1 Tryz.underlying3 h.amount, trod_int1 Tryz.underlying3 h.shift, trod_int1 Tryz.underlying3 h.cond, trod_int1 Tryz.underlying3 h.sys, trod_bool1 Tryz.underlying4, Option.pure_def, Option.bind_eq_bind, Option.bind_some])
  exact this
end

def laid3 : List (String × DataW Unit) := [("math/bits.deBruijn32tab", Rows.laid_math_bits_deBruijn32tab), ("math/bits.deBruijn64tab", Rows.laid_math_bits_deBruijn64tab), ("internal/strconv.uint64pow10", Rows.laid_internal_strconv_uint64pow10)]
theorem gTab : Tryz.prog.globalNamed "internal/strconv.uint64pow10" = some 1 := by kernel_rfl
theorem tTab : (Tryz.prog.globals[1]?).map (·.type) = some 102 := by kernel_rfl
theorem tab_of_laid {W : World} (h : laidMetH Tryz.prog laid3 W) : Tab W := by
  rw [MakeChecks.laidMetH_plain _ _ _ (by kernel_rfl)] at h
  exact Lib.tabIs_of_head gTab tTab Tryz.underlying102 Tryz.underlying38 (by kernel_rfl) (by kernel_rfl) (zs := Lib.pow10Tab) (rest := []) h.tail.tail
theorem door_met (os : Os) (args : Array Value) : laidMetH Tryz.prog laid3 ((World.doorLaid Tryz.prog 400 os).forCall (fun _ _ => 0) ⟨#[], args, []⟩).memory :=
  laidMetH_of_parts3 (fuel := 8) (laidMet_of_run' 8 (by kernel_rfl) (by kernel_rfl)) (by kernel_rfl) (by kernel_rfl)
end Go.Proofs.YtjmdgfimmjodjaaGreatDoor
