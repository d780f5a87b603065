/- A script that came in. -/
import Derived.Test.YteklkololojamaaGreatFr
import Derived.ChangeArms
namespace Go.Proofs.YteklkololojamaaGreat
open Go.ChangeShapes Go.WideShapes Go.ChangeAt Go.RowKit
set_option linter.unusedVariables false
set_option linter.unusedSimpArgs false

structure St5 where
  k : Int
  c : Int
  l : Int
  s : Int
  v : Int
def St5.row (s : St5) : List Value := [vI s.k, vI s.c, vI s.l, vI s.s, vU s.v]
abbrev St5.val (s : St5) : Value := .agg #[vI s.k, vI s.c, vI s.l, vI s.s, vU s.v]
structure St5.Ok (o : St5) : Prop where
  k : I64 o.k
  c : I64 o.c
  l : I64 o.l
  s : I64 o.s
  v : U64 o.v
structure Scr (w0 : World) (v : Value) (ss : List St5) : Prop where
  len : ∃ ao cap, v = .slice ao ss.length cap
  max : ss.length ≤ maxLen
  cell : 0 < ss.length → ∃ (ra : Addr) (cap : Nat), v = .slice (some ra) ss.length cap ∧ ∀ (i : Nat) s, ss[i]? = some s → ∀ (j : Nat) x, s.row[j]? = some x → ((ra.add (i * 5)).add j).block < w0.heap.size ∧ w0.cell? ((ra.add (i * 5)).add j) = some x
  wf : ∀ s ∈ ss, s.Ok
theorem Scr.grow {w w' : World} {v : Value} {ss : List St5} (h : Scr w v ss) (hb : Below w.heap.size w w') : Scr w' v ss :=
  ⟨h.len, h.max, fun h0 => by
    obtain ⟨ra, cap, e, hc⟩ := h.cell h0
    exact ⟨ra, cap, e, fun i s hs j x hx => ⟨Nat.lt_of_lt_of_le (hc i s hs j x hx).1 hb.size, by rw [hb.cell (hc i s hs j x hx).1]; exact (hc i s hs j x hx).2⟩⟩, h.wf⟩
theorem cells32 : Tryz.prog.cellsOf 32 = 5 := by kernel_rfl
theorem cells30 : Tryz.prog.cellsOf 30 = 1 := by kernel_rfl
theorem inf32 : ∃ i, Tryz.prog.info? 32 = some i ∧ i.size = 5 := by
  have h : (Tryz.prog.info? 32).map (·.size) = some 5 := by kernel_rfl
  cases hq : Tryz.prog.info? 32 with
  | none => rw [hq] at h; cases h
  | some i => exact ⟨i, rfl, by simpa [hq] using h⟩
theorem fields32 : Tryz.prog.underlying 32 = some (.struct (Tryz.prog.fieldsOf 32)) := by rw [Program.fieldsOf, Tryz.underlying32]
theorem run_load32 (w : World) (a : Addr) (s : St5) (h : ∀ (j : Nat) x, s.row[j]? = some x → w.cell? (a.add j) = some x) : (loadVar 32 a).run Tryz.prog w = .ok (s.val) w := by
  obtain ⟨i, h1, h3⟩ := inf32
  have hl := run_loadCells_list (P := Tryz.prog) w a s.row h
  have e : s.row.length = 5 := rfl
  rw [e] at hl
  simp [loadVar, isAgg, run_underlying Tryz.underlying32, sizeOf, typeInfo, h1, h3, hl]
  rfl
theorem wpList_load32 {ops : Array Oper} {rest : List Oper} {o : Oper} {a : Act} {w : World} {Q : Exit → Act → World → Prop} (hw : Region.wanted o (yielded ops a.tmps) = true) (x : Operand) (ho : o.op = .load 32 x) (ad : Addr) (hx : a.eval x = .pointer (some ad)) (s : St5) (hs : ∀ (j : Nat) x, s.row[j]? = some x → w.cell? (ad.add j) = some x)
    (h : wpList Tryz.prog ops Q rest (a.put o.dst (s.val)) w) : wpList Tryz.prog ops Q (o :: rest) a w := by
  refine BigFrame.wpList_want hw fun K hK => ?_
  unfold Oper.wp execOp
  simp only [ho, hx, Instr.loadAt, Instr.sureAddr, Sem.run_bind, Sem.run_pure, Result.andThen_ok, run_load32 w ad s hs]
  exact hK _ _ h
set_option maxRecDepth 8000 in
theorem open_script {H : Type} {enc : TypeId × Value → H} {W : World} {base : Nat} {v : Value} {d : DataW H} {ps : List MemPlace} (hv : Value.okWide Tryz.prog W .any base 22 v) (h : DataW.Trod enc Tryz.prog W 0 (fun _ => true) true 22 v d ps) : ∃ ss, Scr W v ss := by
  obtain ⟨a0, len, cap, rfl⟩ := okWide_slice (P := Tryz.prog) Tryz.underlying22 hv
  obtain ⟨fuel, hf⟩ := h
  rcases DataW.trod_slice Tryz.underlying22 hf with ⟨hcs, hx⟩ | ⟨a, len', cap', elems, rest, n, _, hcs, hx, _, hl, hm, hel, hget, _, _⟩
  · have e : Value.slice a0 len cap = .slice none 0 0 := by simpa [Value.cells] using hcs
    exact ⟨[], ⟨⟨none, 0, e⟩, Nat.zero_le _, fun h => by simp at h, fun _ h => by cases h⟩⟩
  · have e : Value.slice a0 len cap = .slice (some a) len' cap' := by simpa [Value.cells] using hcs
    rw [e]
    have each : ∀ i, i < len' → ∃ s : St5, s.Ok ∧ ∀ (j : Nat) x, s.row[j]? = some x → W.cell? ((a.add (i * 5)).add j) = some x := by
      intro i hi
      have hg := hget i hi
      rw [List.getElem?_eq_getElem (by omega), cells32] at hg
      obtain ⟨cs, hc, ht⟩ := Option.bind_eq_some_iff.1 hg
      obtain ⟨_, hlen, hcell⟩ := World.cells?_some hc
      obtain ⟨xs, m, _, _, _, hxl, hq⟩ := DataW.trod_struct fields32 ht
      match cs, hlen with
      | [c0, c1, c2, c4, c3], _ =>
        have hfs : Tryz.prog.fieldsOf 32 = #[⟨"Kind", 3, 0, false, "", "", 0⟩, ⟨"Core", 3, 1, false, "", "", 8⟩, ⟨"EL", 3, 2, false, "", "", 16⟩, ⟨"At", 3, 3, false, "", "", 24⟩, ⟨"Value", 30, 4, false, "", "", 32⟩] := by kernel_rfl
        have hx5 : xs.length = 5 := by rw [hxl, hfs]; rfl
        have q0 := hq 0 ⟨"Kind", 3, 0, false, "", "", 0⟩ (by rw [hfs]; rfl)
        have q1 := hq 1 ⟨"Core", 3, 1, false, "", "", 8⟩ (by rw [hfs]; rfl)
        have q2 := hq 2 ⟨"EL", 3, 2, false, "", "", 16⟩ (by rw [hfs]; rfl)
        have q4 := hq 3 ⟨"At", 3, 3, false, "", "", 24⟩ (by rw [hfs]; rfl)
        have q3 := hq 4 ⟨"Value", 30, 4, false, "", "", 32⟩ (by rw [hfs]; rfl)
        simp only [cells3, cells30] at q0 q1 q2 q4 q3
        rw [List.getElem?_eq_getElem (by omega)] at q0 q1 q2 q4 q3
        obtain ⟨n0, e0, _, f0⟩ := DataW.trod_int Tryz.underlying3 q0
        obtain ⟨n1, e1, _, f1⟩ := DataW.trod_int Tryz.underlying3 q1
        obtain ⟨n2, e2, _, f2⟩ := DataW.trod_int Tryz.underlying3 q2
        obtain ⟨n4, e4, _, f4⟩ := DataW.trod_int Tryz.underlying3 q4
        obtain ⟨n3, e3, _, f3⟩ := DataW.trod_int Tryz.underlying30 q3
        simp at e0 e1 e2 e4 e3
        subst e0; subst e1; subst e2; subst e4; subst e3
        refine ⟨⟨n0, n1, n2, n4, n3⟩, ⟨i64_of f0, i64_of f1, i64_of f2, i64_of f4, u64_wf f3⟩, fun j x hx => ?_⟩
        have hj : j < 5 := (List.getElem?_eq_some_iff.1 hx).1
        rw [hcell j hj]
        exact hx
    let f : Nat → St5 := fun i => if h : i < len' then (each i h).choose else ⟨0, 0, 0, 0, 0⟩
    have hfi : ∀ i (h : i < len'), f i = (each i h).choose := fun i h => by simp only [f, dif_pos h]
    have hlen : ((List.range len').map f).length = len' := by simp
    have hat : ∀ i s, ((List.range len').map f)[i]? = some s → ∃ h : i < len', s = (each i h).choose := fun i s hs => by
      have hi : i < len' := by have := (List.getElem?_eq_some_iff.1 hs).1; simpa using this
      rw [List.getElem?_map, List.getElem?_range hi] at hs
      cases hs
      exact ⟨hi, hfi i hi⟩
    refine ⟨(List.range len').map f, ⟨⟨some a, cap', by rw [hlen]⟩, by rw [hlen]; omega, fun h0 => ⟨a, cap', by rw [hlen], fun i s hs j x hx => ?_⟩, fun s hs => ?_⟩⟩
    · obtain ⟨hi, rfl⟩ := hat i s hs
      have hc := (each i hi).choose_spec.2 j x hx
      exact ⟨World.block_lt_of_cell? W _ hc, hc⟩
    · obtain ⟨i, hi⟩ := List.mem_iff_getElem?.1 hs
      obtain ⟨h, rfl⟩ := hat i s hi
      exact (each i h).choose_spec.1
end Go.Proofs.YteklkololojamaaGreat
