/- What Encode answers, for every instruction: its contract. -/
import Derived.Test.YtcmilajlngnibaaK15
import Derived.Test.YtcmilajlngnibaaRows
import Derived.Test.YtcmilajlngnibaaK01
import Derived.ProofKit
import Derived.OpenShut
import Derived.ChangeSame
import Derived.WideShapes
import Derived.Test.YtcmilajlngnibaaK14
namespace Go.Proofs.Ytcmilajlngnibaa
open Go.RowKit
set_option linter.unusedVariables false

/-- The instruction's box and the table. -/
structure Ec (i : Ins) (g : Nat) (w0 w : World) : Prop where
  below : Below w0.heap.size w0 w
  box : w.heap[w0.heap.size]? = some (.cells i.cells 25)
  tab : w.heap[g]? = some (.cells formCells.toArray 40)
theorem Ec.grow {i : Ins} {g : Nat} {w0 w w' : World} (h : Ec i g w0 w) (hb : Below w.heap.size w w') : Ec i g w0 w' :=
  ⟨h.below.trans (hb.mono h.below.size), by rw [hb.block _ (Array.getElem?_eq_some_iff.1 h.box).1]; exact h.box, by rw [hb.block _ (Array.getElem?_eq_some_iff.1 h.tab).1]; exact h.tab⟩
theorem ec_start {i : Ins} {w w1 : World} (h : Below w.heap.size w w1) (hx : w1.heap[w.heap.size]? = some (.cells i.cells 25)) : Ec i w1.heap.size w ((w1.alloc (.cells Try.zeroCells40 40)).setRow w1.heap.size formCells.toArray) := by
  have hs := (Array.getElem?_eq_some_iff.1 hx).1
  refine ⟨Go.Proofs.Ytcmilajlngnibaa.below_setRow (below_more h) (Nat.le_of_lt hs), ?_, setRow_heap _ _ _ _ _ _ (heap_alloc_new _ _)⟩
  rw [setRow_other _ _ _ _ (by omega), Below.heap_alloc _ _ _ hs]; exact hx
set_option maxRecDepth 4000 in
set_option maxHeartbeats 4000000 in
theorem encode_c (i : Ins) (hf : Hid (∀ k : Fl, I64 (k.get i))) (w : World) :
    Calls Try.prog 11 #[i.val] w fun e w' => e = .returned (.tuple #[.int .u32 (encV i).1, .int .i64 (encV i).2]) ∧ Below w.heap.size w w' := by
  have BX := heap_alloc_new w (.cells i.cells 25)
  have HB := Go.Proofs.Ytcmilajlngnibaa.below_alloc w (.cells i.cells 25)
  go_enter Try.func11, Try.ntmps11
  cases hR : rightB i with
  | false =>
    have hV : Hid (encV i = (0, 3)) := by show _ = _; rw [encV, if_neg (by rw [hR]; decide)]
    go_wp2_with (first | (go_at_call 15; refine (right_c i _).mono ?_; rw [hR]; rintro e w1 ⟨rfl, hb⟩; replace BX : w1.heap[w.heap.size]? = some (.cells i.cells 25) := (hb.block _ (Array.getElem?_eq_some_iff.1 BX).1).trans BX; replace HB := HB.trans (hb.mono HB.size); clear hb; dsimp only) | ((with_reducible refine wpList_load_if rfl 25 _ rfl w.heap.size rfl 25 _ (0, 0) _ BX Try.underlying25 rfl i.infoC ?_); simp only [Act.put, List.setIfInBounds_toArray, List.set_cons_succ, List.set_cons_zero]))
    go_ret2
    exact ⟨by rw [hV.out]; rfl, HB⟩
  | true =>
    go_upto_region 4 with (first | (go_at_call 15; refine (right_c i _).mono ?_; rw [hR]; rintro e w1 ⟨rfl, hb⟩; replace BX : w1.heap[w.heap.size]? = some (.cells i.cells 25) := (hb.block _ (Array.getElem?_eq_some_iff.1 BX).1).trans BX; replace HB := HB.trans (hb.mono HB.size); clear hb; dsimp only) | ((with_reducible refine wpList_load_if rfl 25 _ rfl w.heap.size rfl 25 _ (0, 0) _ BX Try.underlying25 rfl i.infoC ?_); simp only [Act.put, List.setIfInBounds_toArray, List.set_cons_succ, List.set_cons_zero]) | (go_at_call 13; refine (allForms_c _).mono ?_; rintro e w2 ⟨rfl, hb⟩; replace BX : w2.heap[w.heap.size]? = some (.cells i.cells 25) := (hb.block _ (Array.getElem?_eq_some_iff.1 BX).1).trans BX; replace HB := HB.trans (hb.mono HB.size); clear hb; dsimp only) | ((with_reducible refine wpList_store_row rfl 40 _ _ rfl _ formCells.toArray rfl rfl 40 Try.zeroCells40 (heap_alloc_new _ _) info40 (by kernel_rfl) forms_one ?_)))
    have H := ec_start HB BX
    clear BX HB
    generalize (w2.alloc (Obj.cells Try.zeroCells40 40)).setRow w2.heap.size formCells.toArray = w3 at H ⊢
    generalize w2.heap.size = g at H ⊢
    clear w2
    have hV : encV i = encL i forms := by rw [encV, if_pos hR]
    go_wp2
    go_loopw [11] (fun s8 wr => ∃ k : Nat, k ≤ 40 ∧ s8 = .int .i64 k ∧ Hid (Ec i g w wr) ∧ Hid (encL i (forms.drop k) = encV i)) (fun s8 _ => 40 - (intOf s8).toNat)
    case atStart => exact ⟨0, by omega, rfl, H, hV.symm⟩
    case round =>
      clear H hV
      obtain ⟨k, hk, rfl, H, hD⟩ := hrel
      by_cases hlt : k < 40
      · have hl2 : (k : Int) < 40 := by omega
        obtain ⟨F, hF, G, hd⟩ := drop_at hlt
        have hD : Hid (encL i (F :: forms.drop (k + 1)) = encV i) := by rw [← hd]; exact hD.out
        have hd : True := trivial
        replace H := H.out
        have hat := fm_at H.tab hF
        have O : Ok (F.base, i) := ⟨G.base, hf.out⟩
        cases hB : isForm F i with
        | true =>
          have hV : encV i = ((F.t true (F.base, i)).1, 0) := by rw [← hD.out, encL, if_pos hB]
          go_wp2_with (first | (go_at_call 18; refine (isForm_c F g (k * 5) i _ hat).mono ?_; rw [hB]; rintro e w4 ⟨rfl, hb⟩; replace H := H.grow hb; replace hat := fm_at H.tab hF; clear hb; dsimp only) | (go_at_call 19; refine (together_c F G.fc G.enters g (k * 5) i O _ hat).mono ?_; rintro e w4 ⟨rfl, hb⟩; replace H := H.grow hb; clear hb; dsimp only) | ((with_reducible refine wpList_load_if rfl 25 _ rfl w.heap.size rfl 25 _ (0, 0) _ H.box Try.underlying25 rfl i.infoC ?_); simp only [Act.put, List.setIfInBounds_toArray, List.set_cons_succ, List.set_cons_zero]))
          go_ret2
          exact ⟨by rw [hV]; rfl, H.below⟩
        | false =>
          have hV : encL i (forms.drop (k + 1)) = encV i := by rw [← hD.out, encL, if_neg (by rw [hB]; decide)]
          go_wp2_with (first | (go_at_call 18; refine (isForm_c F g (k * 5) i _ hat).mono ?_; rw [hB]; rintro e w4 ⟨rfl, hb⟩; replace H := H.grow hb; clear hb; dsimp only) | ((with_reducible refine wpList_load_if rfl 25 _ rfl w.heap.size rfl 25 _ (0, 0) _ H.box Try.underlying25 rfl i.infoC ?_); simp only [Act.put, List.setIfInBounds_toArray, List.set_cons_succ, List.set_cons_zero]))
          go_roundw
          case rel => exact ⟨k + 1, by omega, by go_num, H, hV⟩
          case measure => simp [intOf]; omega
      · obtain rfl : k = 40 := by omega
        have hV : encV i = (0, 3) := hD.out.symm
        have HB := H.out.below
        go_wp2
        go_ret2
        exact ⟨by rw [hV]; rfl, HB⟩
end Go.Proofs.Ytcmilajlngnibaa
/- An instruction that came in: its fields; and what the table of powers of ten reads as. -/
namespace Go.Proofs.Ytcmilajlngnibaa
open Go.ChangeShapes Go.WideShapes Go.ChangeAt Go.RowKit
set_option linter.unusedVariables false

theorem own : ownKnob Try.prog.godebug = none := by kernel_rfl
theorem c3 : Try.prog.cellsOf 3 = 1 := by kernel_rfl
theorem c4 : Try.prog.cellsOf 4 = 1 := by kernel_rfl
theorem c25 : Try.prog.cellsOf 25 = 16 := by kernel_rfl

def Ins.data {H : Type} (i : Ins) : DataW H := .agg [.lit (.int .i64 i.op), .lit (.int .i64 i.sub), .lit (.int .i64 i.rd), .lit (.int .i64 i.rn), .lit (.int .i64 i.rm), .lit (.int .i64 i.ra), .lit (.int .i64 i.imm), .lit (.int .i64 i.imm2), .lit (.int .i64 i.amount), .lit (.int .i64 i.shift), .lit (.int .i64 i.cond), .lit (.int .i64 i.sys), .lit (.bool i.flags), .lit (.bool i.minus), .lit (.bool i.not), .lit (.bool i.link)]
structure Ins.WF (i : Ins) : Prop where
  op : (Lit.int .i64 i.op).wf = true
  sub : (Lit.int .i64 i.sub).wf = true
  rd : (Lit.int .i64 i.rd).wf = true
  rn : (Lit.int .i64 i.rn).wf = true
  rm : (Lit.int .i64 i.rm).wf = true
  ra : (Lit.int .i64 i.ra).wf = true
  imm : (Lit.int .i64 i.imm).wf = true
  imm2 : (Lit.int .i64 i.imm2).wf = true
  amount : (Lit.int .i64 i.amount).wf = true
  shift : (Lit.int .i64 i.shift).wf = true
  cond : (Lit.int .i64 i.cond).wf = true
  sys : (Lit.int .i64 i.sys).wf = true

theorem array16 {α : Type} {cs : Array α} (h : cs.size = 16) : ∃ x0 x1 x2 x3 x4 x5 x6 x7 x8 x9 x10 x11 x12 x13 x14 x15, cs = #[x0, x1, x2, x3, x4, x5, x6, x7, x8, x9, x10, x11, x12, x13, x14, x15] := by
  obtain ⟨l⟩ := cs
  match l, h with
  | [x0, x1, x2, x3, x4, x5, x6, x7, x8, x9, x10, x11, x12, x13, x14, x15], _ => exact ⟨x0, x1, x2, x3, x4, x5, x6, x7, x8, x9, x10, x11, x12, x13, x14, x15, rfl⟩
theorem list16 {α : Type} {xs : List α} (h : xs.length = 16) : ∃ x0 x1 x2 x3 x4 x5 x6 x7 x8 x9 x10 x11 x12 x13 x14 x15, xs = [x0, x1, x2, x3, x4, x5, x6, x7, x8, x9, x10, x11, x12, x13, x14, x15] := by
  match xs, h with
  | [x0, x1, x2, x3, x4, x5, x6, x7, x8, x9, x10, x11, x12, x13, x14, x15], _ => exact ⟨x0, x1, x2, x3, x4, x5, x6, x7, x8, x9, x10, x11, x12, x13, x14, x15, rfl⟩
section
variable {H : Type} {enc : TypeId × Value → H} {W : World} {b0 : Nat} {spare : Nat → Bool} {held : Bool}
set_option maxHeartbeats 1000000 in
theorem open_insn {r : Reach} {base : Nat} {v : Value} {d : DataW H} {p : List MemPlace} (hv : Value.okWide Try.prog W r base 25 v) (h : DataW.Trod enc Try.prog W b0 spare held 25 v d p) :
    ∃ i : Ins, i.WF ∧ v = i.val ∧ d = i.data ∧ p = [] := by
  obtain ⟨cs, rfl, hsz⟩ := okWide_struct Try.underlying25 hv
  obtain ⟨x0, x1, x2, x3, x4, x5, x6, x7, x8, x9, x10, x11, x12, x13, x14, x15, rfl⟩ := array16 (hsz.trans c25)
  obtain ⟨fuel, hf⟩ := h
  obtain ⟨xs, n, -, hx, -, hlen, hq⟩ := DataW.trod_struct Try.underlying25 hf
  obtain ⟨y0, y1, y2, y3, y4, y5, y6, y7, y8, y9, y10, y11, y12, y13, y14, y15, rfl⟩ := list16 hlen
  clear hf hv hsz hlen
  have q0 := hq 0 _ rfl
  have q1 := hq 1 _ rfl
  have q2 := hq 2 _ rfl
  have q3 := hq 3 _ rfl
  have q4 := hq 4 _ rfl
  have q5 := hq 5 _ rfl
  have q6 := hq 6 _ rfl
  have q7 := hq 7 _ rfl
  have q8 := hq 8 _ rfl
  have q9 := hq 9 _ rfl
  have q10 := hq 10 _ rfl
  have q11 := hq 11 _ rfl
  have q12 := hq 12 _ rfl
  have q13 := hq 13 _ rfl
  have q14 := hq 14 _ rfl
  have q15 := hq 15 _ rfl
  clear hq
  simp only [Value.cells, List.getElem?_cons_succ, List.getElem?_cons_zero] at q0 q1 q2 q3 q4 q5 q6 q7 q8 q9 q10 q11 q12 q13 q14 q15
  obtain ⟨n0, e0, rfl, w0⟩ := DataW.trod_int Try.underlying3 q0
  obtain rfl := (List.cons.inj e0).1
  obtain ⟨n1, e1, rfl, w1⟩ := DataW.trod_int Try.underlying3 q1
  obtain rfl := (List.cons.inj e1).1
  obtain ⟨n2, e2, rfl, w2⟩ := DataW.trod_int Try.underlying3 q2
  obtain rfl := (List.cons.inj e2).1
  obtain ⟨n3, e3, rfl, w3⟩ := DataW.trod_int Try.underlying3 q3
  obtain rfl := (List.cons.inj e3).1
  obtain ⟨n4, e4, rfl, w4⟩ := DataW.trod_int Try.underlying3 q4
  obtain rfl := (List.cons.inj e4).1
  obtain ⟨n5, e5, rfl, w5⟩ := DataW.trod_int Try.underlying3 q5
  obtain rfl := (List.cons.inj e5).1
  obtain ⟨n6, e6, rfl, w6⟩ := DataW.trod_int Try.underlying3 q6
  obtain rfl := (List.cons.inj e6).1
  obtain ⟨n7, e7, rfl, w7⟩ := DataW.trod_int Try.underlying3 q7
  obtain rfl := (List.cons.inj e7).1
  obtain ⟨n8, e8, rfl, w8⟩ := DataW.trod_int Try.underlying3 q8
  obtain rfl := (List.cons.inj e8).1
  obtain ⟨n9, e9, rfl, w9⟩ := DataW.trod_int Try.underlying3 q9
  obtain rfl := (List.cons.inj e9).1
  obtain ⟨n10, e10, rfl, w10⟩ := DataW.trod_int Try.underlying3 q10
  obtain rfl := (List.cons.inj e10).1
  obtain ⟨n11, e11, rfl, w11⟩ := DataW.trod_int Try.underlying3 q11
  obtain rfl := (List.cons.inj e11).1
  obtain ⟨n12, e12, rfl⟩ := DataW.trod_bool Try.underlying4 q12
  obtain rfl := (List.cons.inj e12).1
  obtain ⟨n13, e13, rfl⟩ := DataW.trod_bool Try.underlying4 q13
  obtain rfl := (List.cons.inj e13).1
  obtain ⟨n14, e14, rfl⟩ := DataW.trod_bool Try.underlying4 q14
  obtain rfl := (List.cons.inj e14).1
  obtain ⟨n15, e15, rfl⟩ := DataW.trod_bool Try.underlying4 q15
  obtain rfl := (List.cons.inj e15).1
  clear q0 q1 q2 q3 q4 q5 q6 q7 q8 q9 q10 q11 q12 q13 q14 q15
  simp only [Prod.mk.injEq] at hx
  exact ⟨⟨n0, n1, n2, n3, n4, n5, n6, n7, n8, n9, n10, n11, n12, n13, n14, n15⟩, ⟨w0, w1, w2, w3, w4, w5, w6, w7, w8, w9, w10, w11⟩, rfl, hx.1, hx.2⟩

theorem trod_int1 {k : IntKind} {t : TypeId} {n : Int} (ht : Try.prog.underlying t = some (.int k)) (hw : (Lit.int k n).wf = true) : DataW.trod enc Try.prog W b0 spare held 1 t [.int k n] = some (.lit (.int k n), []) := by
  simp [DataW.trod, ht, hw]
theorem trod_bool1 {t : TypeId} {b : Bool} (ht : Try.prog.underlying t = some .bool) : DataW.trod enc Try.prog W b0 spare held 1 t [.bool b] = some (.lit (.bool b), []) := by
  simp [DataW.trod, ht]
set_option maxHeartbeats 1000000 in
theorem shut_insn (i : Ins) (h : i.WF) : DataW.Trod enc Try.prog W b0 spare held 25 i.val i.data [] := by
  refine ⟨2, ?_⟩
  have := trod_struct_mk (enc := enc) (P := Try.prog) (w := W) (base := b0) (spare := spare) (held := held) (t := 25) (n := 1) (cs := i.cells.toList)
    (xs := [(.lit (.int .i64 i.op), []), (.lit (.int .i64 i.sub), []), (.lit (.int .i64 i.rd), []), (.lit (.int .i64 i.rn), []), (.lit (.int .i64 i.rm), []), (.lit (.int .i64 i.ra), []), (.lit (.int .i64 i.imm), []), (.lit (.int .i64 i.imm2), []), (.lit (.int .i64 i.amount), []), (.lit (.int .i64 i.shift), []), (.lit (.int .i64 i.cond), []), (.lit (.int .i64 i.sys), []), (.lit (.bool i.flags), []), (.lit (.bool i.minus), []), (.lit (.bool i.not), []), (.lit (.bool i.link), [])]) Try.underlying25 (by rw [c25]; rfl) (by
      simp only [List.mapM_cons, List.mapM_nil, List.drop_succ_cons, List.drop_zero, c3, c4, List.take_succ_cons, List.take_zero, trod_int1 Try.underlying3 h.op, trod_int1 Try.underlying3 h.sub, trod_int1 Try.underlying3 h.rd, trod_int1 Try.underlying3 h.rn, trod_int1 Try.underlying3 h.rm, trod_int1 Try.underlying3 h.ra, trod_int1 Try.underlying3 h.imm, trod_int1 Try.underlying3 h.imm2, trod_int1 Try.underlying3 h.amount, trod_int1 Try.underlying3 h.shift, trod_int1 Try.underlying3 h.cond, trod_int1 Try.underlying3 h.sys, trod_bool1 Try.underlying4, Option.pure_def, Option.bind_eq_bind, Option.bind_some])
  exact this
end

theorem Ins.WF.in64 {i : Ins} (h : i.WF) (k : Fl) : I64 (k.get i) := by
  have e : ∀ n : Int, (Lit.int .i64 n).wf = true → I64 n := fun n hn => by
    have := bounds_i64 hn
    exact ⟨by omega, by omega⟩
  cases k <;> apply e
  · exact h.sub
  · exact h.rd
  · exact h.rn
  · exact h.rm
  · exact h.ra
  · exact h.imm
  · exact h.imm2
  · exact h.amount
  · exact h.shift
  · exact h.cond
  · exact h.sys
end Go.Proofs.Ytcmilajlngnibaa
/- Worlds that hold some instructions of a call's own, each in a block. -/
namespace Go.Proofs.Ytcmilajlngnibaa
open Go.RowKit
set_option linter.unusedVariables false

theorem below_on {w x y : World} (h : Below w.heap.size w x) (hb : Below x.heap.size x y) : Below w.heap.size w y := h.trans (hb.mono h.size)
structure Has (w0 : World) (L : List (Nat × Ins)) (w : World) : Prop where
  below : Below w0.heap.size w0 w
  box : ∀ p ∈ L, w0.heap.size ≤ p.1 ∧ w.heap[p.1]? = some (.cells p.2.cells 25)
theorem has_none (w : World) : Has w [] w := ⟨Below.refl _ _, fun _ h => by cases h⟩
theorem has_start (c : Ins) (w : World) : Has w [(w.heap.size, c)] (w.alloc (.cells c.cells 25)) := by
  refine ⟨Go.Proofs.Ytcmilajlngnibaa.below_alloc _ _, fun p hp => ?_⟩
  obtain rfl := List.mem_singleton.1 hp
  exact ⟨Nat.le_refl _, heap_alloc_new _ _⟩
theorem Has.grow {w0 w w' : World} {L : List (Nat × Ins)} (h : Has w0 L w) (hb : Below w.heap.size w w') : Has w0 L w' := by
  refine ⟨below_on h.below hb, fun p hp => ?_⟩
  obtain ⟨h1, h2⟩ := h.box p hp
  exact ⟨h1, by rw [hb.block _ (Array.getElem?_eq_some_iff.1 h2).1]; exact h2⟩
theorem Has.add {w0 w : World} {L : List (Nat × Ins)} (h : Has w0 L w) (d : Ins) (Z : Array Value) : Has w0 ((w.heap.size, d) :: L) ((w.alloc (.cells Z 25)).setRow w.heap.size d.cells) := by
  refine ⟨Go.Proofs.Ytcmilajlngnibaa.below_setRow (below_on h.below (Go.Proofs.Ytcmilajlngnibaa.below_alloc _ _)) h.below.size, fun p hp => ?_⟩
  rcases List.mem_cons.1 hp with rfl | hp
  · exact ⟨h.below.size, setRow_heap _ _ _ _ _ _ (heap_alloc_new _ _)⟩
  · obtain ⟨h1, h2⟩ := h.box p hp
    have := (Array.getElem?_eq_some_iff.1 h2).1
    exact ⟨h1, by rw [setRow_other _ _ _ _ (by omega), Below.heap_alloc _ _ _ this]; exact h2⟩
theorem Has.get {w0 w : World} {L : List (Nat × Ins)} (h : Has w0 L w) {b : Nat} {c : Ins} (hp : (b, c) ∈ L) : w.heap[b]? = some (.cells c.cells 25) := (h.box _ hp).2
theorem Has.at {w0 w : World} {L : List (Nat × Ins)} (h : Has w0 L w) {b : Nat} {c : Ins} (hp : (b, c) ∈ L) (k : Nat) (v : Value) (hv : c.cells[k]? = some v) : w.cell? ⟨b, k, none⟩ = some v := by
  rw [cell_of_row _ _ _ _ _ _ (h.get hp), hv]
/-- One number read. -/
theorem wpList_load_int {ops : Array Oper} {rest : List Oper} {o : Oper} {a : Act} {w : World} {Q : Exit → Act → World → Prop} (hw : Region.wanted o (yielded ops a.tmps) = true) (ty : TypeId) (x : Operand) (ho : o.op = .load ty x)
    (g j : Nat) (hx : a.eval x = .pointer (some ⟨g, j, none⟩)) (v : Value) (hc : w.cell? ⟨g, j, none⟩ = some v) (k : IntKind) (hu : Try.prog.underlying ty = some (.int k))
    (h : wpList Try.prog ops Q rest (a.put o.dst v) w) : wpList Try.prog ops Q (o :: rest) a w := by
  refine BigFrame.wpList_want hw fun K hK => ?_
  unfold Oper.wp execOp
  have hl : (loadVar ty ⟨g, j, none⟩).run Try.prog w = .ok v w := by
    have ha : (isAgg ty).run Try.prog w = .ok false w := by simp [isAgg, run_underlying hu]
    go_simp
  simp only [ho, hx, Instr.loadAt, Instr.sureAddr, Sem.run_bind, Sem.run_pure, Result.andThen_ok, hl]
  exact hK _ _ h
/-- A new variable of the call's own, behind the store of a state into it. -/
theorem wpList_store_new {w0 : World} {L : List (Nat × Ins)} {ops : Array Oper} {rest : List Oper} {o : Oper} {a : Act} {w : World} {Z : Array Value} {Q : Exit → Act → World → Prop} (H : Has w0 L w) (hgd : o.guard = none) (x y : Operand) (ho : o.op = .store 25 x y)
    (d : Ins) (hx : a.eval x = .pointer (some ⟨w.heap.size, 0, none⟩)) (hy : a.eval y = .agg d.cells) (hZ : Z.size = 16)
    (h : ∀ w2, Has w0 ((w.heap.size, d) :: L) w2 → wpList Try.prog ops Q rest (a.put o.dst undef) w2) : wpList Try.prog ops Q (o :: rest) a (w.alloc (.cells Z 25)) :=
  wpList_store_row hgd 25 x y ho _ _ hx hy 25 _ (heap_alloc_new _ _) (Ins.infoC _) hZ (Ins.oneC _) (h _ (H.add d Z))
end Go.Proofs.Ytcmilajlngnibaa
/- The chapter's examples come out true. -/
namespace Go.Proofs.Ytcmilajlngnibaa
open Go.RowKit
set_option linter.unusedVariables false

def ex1I : Ins := ⟨1, 0, 0, 1, 0, 0, 1, 0, 0, 0, 0, 0, false, false, false, false⟩
def ex3I : Ins := ⟨12, 0, 0, 0, 0, 0, -4, 0, 0, 0, 0, 0, false, false, false, false⟩
def ex4I : Ins := ⟨16, 2, 0, 30, 0, 0, 0, 0, 0, 0, 0, 0, false, false, false, false⟩
theorem ex1 : decV 2432697376 = ex1I := by kernel_rfl
theorem ex2 : decV 0 = nilI := by kernel_rfl
theorem ex3 : decV 402653183 = ex3I := by kernel_rfl
theorem ex4 : encV ex4I = (3596551104, 0) := by kernel_rfl
theorem ex5 : encV nilI = (0, 3) := by kernel_rfl
theorem eqI_refl (i : Ins) : eqI i i = true := (eqI_iff i i).2 rfl
theorem eqI_no {i j : Ins} (h : i ≠ j) : eqI i j = false := by cases e : eqI i j; rfl; exact absurd ((eqI_iff i j).1 e) h
theorem in64_ex4 : Hid (∀ k : Fl, I64 (k.get ex4I)) := fun k => by cases k <;> exact ⟨by decide, by decide⟩
theorem in64_nil : Hid (∀ k : Fl, I64 (k.get nilI)) := fun k => by cases k <;> exact ⟨by decide, by decide⟩
theorem wpList_builtG {P : Program} {ops : Array Oper} {rest : List Oper} {o : Oper} {a : Act} {w : World} {Q : Exit → Act → World → Prop} (hw : Region.wanted o (yielded ops a.tmps) = true) (t : TypeId) (parts : Array (Nat × Operand)) (ho : o.op = .build t parts)
    (cs : Array Value) (hf : P.built t (parts.map fun (i, x) => (i, a.eval x)).toList = some cs)
    (h : wpList P ops Q rest (a.put o.dst (.agg cs)) w) : wpList P ops Q (o :: rest) a w :=
  BigFrame.wpList_want hw fun _ hK => wp_build t parts ho (by rw [hf]; rfl) (by rw [hf]; exact hK _ _ h)
set_option maxRecDepth 4000 in
set_option maxHeartbeats 4000000 in
theorem examples_c (w : World) : Calls Try.prog 8 #[] w fun e w' => e = .returned (.bool true) ∧ Below w.heap.size w w' := by
  have H := has_none w
  go_enter Try.func8, Try.ntmps8
  go_upto_region 5 with (first | ((with_reducible refine wpList_load_if rfl 25 _ rfl _ rfl 25 _ (0, 0) _ (H.get (by first | exact List.mem_cons_self | exact List.mem_cons_of_mem _ (List.mem_cons_self) | exact List.mem_cons_of_mem _ (List.mem_cons_of_mem _ (List.mem_cons_self)) | exact List.mem_cons_of_mem _ (List.mem_cons_of_mem _ (List.mem_cons_of_mem _ (List.mem_cons_self))) | exact List.mem_cons_of_mem _ (List.mem_cons_of_mem _ (List.mem_cons_of_mem _ (List.mem_cons_of_mem _ (List.mem_cons_self)))) | exact List.mem_cons_of_mem _ (List.mem_cons_of_mem _ (List.mem_cons_of_mem _ (List.mem_cons_of_mem _ (List.mem_cons_of_mem _ (List.mem_cons_self))))) | exact List.mem_cons_of_mem _ (List.mem_cons_of_mem _ (List.mem_cons_of_mem _ (List.mem_cons_of_mem _ (List.mem_cons_of_mem _ (List.mem_cons_of_mem _ (List.mem_cons_self)))))))) Try.underlying25 rfl (Ins.infoC _) ?_); (simp only [Act.put, List.setIfInBounds_toArray, List.set_cons_succ, List.set_cons_zero])) | ((with_reducible refine wpList_store_new H rfl _ _ rfl _ rfl rfl ?_ ?_); (focus rfl); intro w2 H; try simp only [Act.put]) | (go_at_call 9; refine (decode_c _ ⟨by decide, by decide⟩ _).mono ?_; try (first | rw [ex1] | rw [ex2] | rw [ex3]); rintro e w1 ⟨rfl, hb⟩; replace H := H.grow hb; clear hb; dsimp only) | (go_at_call 11; refine (encode_c ex4I in64_ex4 _).mono ?_; rw [ex4]; rintro e w1 ⟨rfl, hb⟩; replace H := H.grow hb; clear hb; dsimp only))
  go_upto_region 6 with (first | ((with_reducible refine wpList_load_if rfl 25 _ rfl _ rfl 25 _ (0, 0) _ (H.get (by first | exact List.mem_cons_self | exact List.mem_cons_of_mem _ (List.mem_cons_self) | exact List.mem_cons_of_mem _ (List.mem_cons_of_mem _ (List.mem_cons_self)) | exact List.mem_cons_of_mem _ (List.mem_cons_of_mem _ (List.mem_cons_of_mem _ (List.mem_cons_self))) | exact List.mem_cons_of_mem _ (List.mem_cons_of_mem _ (List.mem_cons_of_mem _ (List.mem_cons_of_mem _ (List.mem_cons_self)))) | exact List.mem_cons_of_mem _ (List.mem_cons_of_mem _ (List.mem_cons_of_mem _ (List.mem_cons_of_mem _ (List.mem_cons_of_mem _ (List.mem_cons_self))))) | exact List.mem_cons_of_mem _ (List.mem_cons_of_mem _ (List.mem_cons_of_mem _ (List.mem_cons_of_mem _ (List.mem_cons_of_mem _ (List.mem_cons_of_mem _ (List.mem_cons_self)))))))) Try.underlying25 rfl (Ins.infoC _) ?_); (simp only [Act.put, List.setIfInBounds_toArray, List.set_cons_succ, List.set_cons_zero])) | (go_at_call 11; refine (encode_c nilI in64_nil _).mono ?_; rw [ex5]; rintro e w1 ⟨rfl, hb⟩; replace H := H.grow hb; clear hb; dsimp only))
  go_wp2_with (first | ((with_reducible refine wpList_load_if rfl 25 _ rfl _ rfl 25 _ (0, 0) _ (H.get (by first | exact List.mem_cons_self | exact List.mem_cons_of_mem _ (List.mem_cons_self) | exact List.mem_cons_of_mem _ (List.mem_cons_of_mem _ (List.mem_cons_self)) | exact List.mem_cons_of_mem _ (List.mem_cons_of_mem _ (List.mem_cons_of_mem _ (List.mem_cons_self))) | exact List.mem_cons_of_mem _ (List.mem_cons_of_mem _ (List.mem_cons_of_mem _ (List.mem_cons_of_mem _ (List.mem_cons_self)))) | exact List.mem_cons_of_mem _ (List.mem_cons_of_mem _ (List.mem_cons_of_mem _ (List.mem_cons_of_mem _ (List.mem_cons_of_mem _ (List.mem_cons_self))))) | exact List.mem_cons_of_mem _ (List.mem_cons_of_mem _ (List.mem_cons_of_mem _ (List.mem_cons_of_mem _ (List.mem_cons_of_mem _ (List.mem_cons_of_mem _ (List.mem_cons_self)))))))) Try.underlying25 rfl (Ins.infoC _) ?_); (simp only [Act.put, List.setIfInBounds_toArray, List.set_cons_succ, List.set_cons_zero])) | ((with_reducible refine wpList_eql_insn rfl _ _ rfl (ex1I) (ex1I) ?_ ?_ true (eqI_refl _) ?_); (focus rfl); (focus rfl); (simp only [Act.put, List.setIfInBounds_toArray, List.set_cons_succ, List.set_cons_zero])) | ((with_reducible refine wpList_eql_insn rfl _ _ rfl (nilI) (nilI) ?_ ?_ true (eqI_refl _) ?_); (focus rfl); (focus rfl); (simp only [Act.put, List.setIfInBounds_toArray, List.set_cons_succ, List.set_cons_zero])) | ((with_reducible refine wpList_eql_insn rfl _ _ rfl (ex3I) (ex3I) ?_ ?_ true (eqI_refl _) ?_); (focus rfl); (focus rfl); (simp only [Act.put, List.setIfInBounds_toArray, List.set_cons_succ, List.set_cons_zero])))
  go_ret
  exact ⟨rfl, H.below⟩
end Go.Proofs.Ytcmilajlngnibaa
