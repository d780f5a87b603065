/- deeds that came in. -/
import Derived.Test.YtnedkielehmneaaGreatDoorFe0
import Derived.Test.YtnedkielehmneaaGreatDoorFr
namespace Go.Proofs.YtnedkielehmneaaGreatDoor
open Go.RowKit
open Go.Shelf
set_option linter.unusedVariables false
set_option linter.unusedSimpArgs false
set_option maxRecDepth 8000

open Axm
open Go.ChangeShapes Go.WideShapes Go.ChangeAt Go.RowKit
theorem i64_wf {a : Int} (h : (Lit.int .i64 a).wf = true) : I64 a := by
  have := bounds_i64 h
  exact ⟨this.1, by have := this.2; omega⟩
theorem field84 {j t o : Nat} (h : ((Tryz.prog.fieldsOf 84)[j]?).map (fun f => (f.type, f.offset)) = some (t, o)) : ∃ f, (Tryz.prog.fieldsOf 84)[j]? = some f ∧ f.type = t ∧ f.offset = o := by
  cases hq : (Tryz.prog.fieldsOf 84)[j]? with
  | none => rw [hq] at h; cases h
  | some f =>
    rw [hq] at h
    have := Prod.mk.inj (Option.some.inj h)
    exact ⟨f, rfl, this.1, this.2⟩
theorem fields84 : Tryz.prog.underlying 84 = some (.struct (Tryz.prog.fieldsOf 84)) := by rw [Program.fieldsOf, Tryz.underlying84]
theorem cells82 : Tryz.prog.cellsOf 82 = 3 := by kernel_rfl
theorem cells84 : Tryz.prog.cellsOf 84 = 9 := by kernel_rfl
set_option maxRecDepth 8000 in
/-- A slice of numbers within what came in, each of 64 bits. -/
theorem raw64_of {H : Type} {enc : TypeId × Value → H} {W : World} {c : Value} {x : DataW H × List MemPlace} {fuel : Nat} (h : DataW.trod enc Tryz.prog W 0 (fun _ => true) true fuel 34 [c] = some x) : ∃ zs, RawI W c zs ∧ ∀ r ∈ zs, I64 r := by
  rcases open_ints Tryz.underlying34 Tryz.underlying3 (by kernel_rfl) h with ⟨hcs, hx⟩ | ⟨a, len', cap', zs, hcs, _, hl, hm, hz, hx, hcell, hwz⟩
  · have e : c = .slice none 0 0 := by simpa using hcs
    exact ⟨[], ⟨⟨none, 0, e⟩, Nat.zero_le _, fun h => by simp at h⟩, fun r hr => by simp at hr⟩
  · have e : c = .slice (some a) len' cap' := by simpa using hcs
    rw [e]
    have hz' : zs.length = cap' := by simpa using hz
    have hlen : (zs.take len').length = len' := by rw [List.length_take]; omega
    refine ⟨zs.take len', ⟨⟨some a, cap', by rw [hlen]⟩, by rw [hlen]; omega, fun h0 => ⟨a, cap', by rw [hlen], fun i x hx => ?_⟩⟩, fun r hr => i64_wf (hwz r (List.mem_of_mem_take hr))⟩
    · have hi : i < len' := by have := (List.getElem?_eq_some_iff.1 hx).1; omega
      have hc := hcell i (by omega)
      have : zs.getD i 0 = x := by
        rw [List.getElem?_take, if_pos hi] at hx
        simp [List.getD, hx]
      rw [this] at hc
      exact ⟨World.block_lt_of_cell? W _ hc, hc⟩
set_option maxRecDepth 8000 in
/-- Deeds that came in. -/
theorem open_deeds {H : Type} {enc : TypeId × Value → H} {W : World} {base : Nat} {v : Value} {d : DataW H} {ps : List MemPlace} (hv : Value.okWide Tryz.prog W .any base 50 v) (h : DataW.Trod enc Tryz.prog W 0 (fun _ => true) true 50 v d ps) : ∃ n x, Deeds W v n x := by
  obtain ⟨a0, len, cap, rfl⟩ := okWide_slice (P := Tryz.prog) Tryz.underlying50 hv
  obtain ⟨fuel, hf⟩ := h
  rcases DataW.trod_slice Tryz.underlying50 hf with ⟨hcs, hx⟩ | ⟨a, len', cap', elems, rest, n, _, hcs, hx, _, hl, hm, hel, hget, _, _⟩
  · have e : Value.slice a0 len cap = .slice none 0 0 := by simpa [Value.cells] using hcs
    exact ⟨0, fun _ => default, ⟨⟨none, 0, e⟩, Nat.zero_le _, fun h => by omega⟩⟩
  · have e : Value.slice a0 len cap = .slice (some a) len' cap' := by simpa [Value.cells] using hcs
    rw [e]
    have each : ∀ i, ∃ ev : Dd, i < len' → ∃ s0 s1 s2, DdAt W (a.add (i * 9)) ev s0 s1 s2 := by
      intro i
      by_cases hi : i < len'
      · have hg := hget i hi
        rw [List.getElem?_eq_getElem (by omega), cells84] at hg
        obtain ⟨cs, hc, ht⟩ := Option.bind_eq_some_iff.1 hg
        obtain ⟨_, hlen, hcell⟩ := World.cells?_some hc
        obtain ⟨xs, m, _, _, _, hxl, hq⟩ := DataW.trod_struct fields84 ht
        have hx7 : xs.length = 7 := by rw [hxl]; kernel_rfl
        match cs, hlen with
        | [c0, c1, c2, c3, c4, c5, c6, c7, c8], _ =>
          obtain ⟨f0, g0, t0, o0⟩ := field84 (j := 0) (t := 3) (o := 0) (by kernel_rfl)
          have q0 := hq 0 f0 g0
          rw [t0, o0, List.getElem?_eq_getElem (by omega)] at q0
          obtain ⟨f1, g1, t1, o1⟩ := field84 (j := 1) (t := 3) (o := 1) (by kernel_rfl)
          have q1 := hq 1 f1 g1
          rw [t1, o1, List.getElem?_eq_getElem (by omega)] at q1
          obtain ⟨f2, g2, t2, o2⟩ := field84 (j := 2) (t := 3) (o := 2) (by kernel_rfl)
          have q2 := hq 2 f2 g2
          rw [t2, o2, List.getElem?_eq_getElem (by omega)] at q2
          obtain ⟨f3, g3, t3, o3⟩ := field84 (j := 3) (t := 3) (o := 3) (by kernel_rfl)
          have q3 := hq 3 f3 g3
          rw [t3, o3, List.getElem?_eq_getElem (by omega)] at q3
          obtain ⟨f4, g4, t4, o4⟩ := field84 (j := 4) (t := 33) (o := 4) (by kernel_rfl)
          have q4 := hq 4 f4 g4
          rw [t4, o4, List.getElem?_eq_getElem (by omega)] at q4
          obtain ⟨f5, g5, t5, o5⟩ := field84 (j := 5) (t := 4) (o := 5) (by kernel_rfl)
          have q5 := hq 5 f5 g5
          rw [t5, o5, List.getElem?_eq_getElem (by omega)] at q5
          obtain ⟨f6, g6, t6, o6⟩ := field84 (j := 6) (t := 82) (o := 6) (by kernel_rfl)
          have q6 := hq 6 f6 g6
          rw [t6, o6, List.getElem?_eq_getElem (by omega)] at q6
          simp only [cells3, cells4, cells33, cells82] at q0 q1 q2 q3 q4 q5 q6
          obtain ⟨n0, e0, _, w0⟩ := DataW.trod_int Tryz.underlying3 q0
          obtain ⟨n1, e1, _, w1⟩ := DataW.trod_int Tryz.underlying3 q1
          obtain ⟨n2, e2, _, w2⟩ := DataW.trod_int Tryz.underlying3 q2
          obtain ⟨n3, e3, _, w3⟩ := DataW.trod_int Tryz.underlying3 q3
          obtain ⟨n4, e4, _, w4⟩ := DataW.trod_int Tryz.underlying33 q4
          obtain ⟨n5, e5, _⟩ := DataW.trod_bool Tryz.underlying4 q5
          obtain ⟨ys, m2, _, _, _, hyl, hy⟩ := DataW.trod_array Tryz.underlying82 q6
          have y0 := hy 0 (by decide)
          rw [List.getElem?_eq_getElem (by omega)] at y0
          simp only [cells34] at y0
          obtain ⟨n6, e6, w6⟩ := raw64_of (c := c6) y0
          have y1 := hy 1 (by decide)
          rw [List.getElem?_eq_getElem (by omega)] at y1
          simp only [cells34] at y1
          obtain ⟨n7, e7, w7⟩ := raw64_of (c := c7) y1
          have y2 := hy 2 (by decide)
          rw [List.getElem?_eq_getElem (by omega)] at y2
          simp only [cells34] at y2
          obtain ⟨n8, e8, w8⟩ := raw64_of (c := c8) y2
          simp at e0 e1 e2 e3 e4 e5
          subst e0
          subst e1
          subst e2
          subst e3
          subst e4
          subst e5
          have k0 := hcell 0 (by decide)
          refine ⟨⟨n0, n1, n2, n3, n4, n5, n6, n7, n8⟩, fun _ => ⟨c6, c7, c8, World.block_lt_of_cell? W _ k0, fun j v hv => by (have hj : j < 9 := (List.getElem?_eq_some_iff.1 hv).1); (rw [hcell j hj]; exact hv), e6, e7, e8, i64_wf w0, i64_wf w1, i64_wf w2, i64_wf w3, w6, w7, w8⟩⟩
      · exact ⟨default, fun k => absurd k hi⟩
    exact ⟨len', fun i => (each i).choose, ⟨⟨some a, cap', rfl⟩, by omega, fun h0 => ⟨a, cap', rfl, fun i hi => (each i).choose_spec hi⟩⟩⟩
end Go.Proofs.YtnedkielehmneaaGreatDoor
