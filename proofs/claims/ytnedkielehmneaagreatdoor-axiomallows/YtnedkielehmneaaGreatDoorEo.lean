/- The chapter's examples: their verdicts; the region that makes the last one. -/
import Derived.Test.YtnedkielehmneaaGreatDoorEn
import Derived.Test.YtnedkielehmneaaGreatDoorRl
namespace Go.Proofs.YtnedkielehmneaaGreatDoor
open Go.RowKit
open Go.Shelf
set_option linter.unusedVariables false
set_option linter.unusedSimpArgs false
set_option maxRecDepth 8000

open Axm
theorem ext_ord (n : Nat) (x : Nat → Ev) : extV n x = Rlw.ordB n (allR n x) := by
  rw [Bool.eq_iff_iff, extV_iff, Rlw.ordB_iff fit_all]
theorem int_ord (n : Nat) (x : Nat → Ev) : intV n x = Rlw.ordB n (inbR n x) := by
  rw [Bool.eq_iff_iff, intV_iff, Rlw.ordB_iff fit_inb]
abbrev exE (e : Ev) : Ev := ⟨e.core, e.po, e.kind, e.addr, e.value, e.acq, e.rel, true, e.fence, e.stamp, e.adr, e.dat, e.ctl⟩
abbrev sbX : List EvX := [nilX (wE 0 0 8 1 1), nilX (rE 0 2 16 0 0), nilX (wE 1 0 16 1 2), nilX (rE 1 2 8 0 0)]
abbrev fnX : List EvX := [nilX (fE 0 1 15), nilX (fE 1 1 15)]
abbrev sfX : List EvX := sbX ++ fnX
abbrev coX : List EvX := [nilX (wE 0 0 8 1 1), nilX (rE 0 1 8 0 0)]
abbrev atX : List EvX := [nilX (exE (rE 0 0 8 0 0)), nilX (exE (wE 0 1 8 1 2)), nilX (wE 1 0 8 2 1)]
theorem deps_nil (w : World) (es : List EvX) (h : ∀ t ∈ es, t = nilX t.e ∧ t.e.adr = [] ∧ t.e.dat = [] ∧ t.e.ctl = []) : Deps w es := ⟨fun t ht => by
  obtain ⟨h0, h1, h2, h3⟩ := h t ht
  rw [h1, h2, h3, h0]
  exact ⟨RawI.nil w, RawI.nil w, RawI.nil w⟩⟩
/-- What Check says of a list of one's own. -/
theorem check_list {w : World} {base : Nat} {v : Value} {es : List EvX} (L : EvO w base v es) (T : Tab w) {i e t : Bool} (h0 : rightE es.length (xs es) = 0) (h1 : Rlw.ordB es.length (inbR es.length (xs es)) = i) (h2 : Rlw.ordB es.length (allR es.length (xs es)) = e) (h3 : atoV es.length (xs es) = t) : Calls Tryz.prog 12 #[v] w fun r w' => r = .returned (.tuple #[.agg (verV i e t), vI 0]) ∧ Below w.heap.size w w' := by
  have := check_ok L.evs T h0
  rw [int_ord, ext_ord, h1, h2, h3] at this
  exact this
theorem chk_sb {w : World} {base : Nat} {v : Value} (L : EvO w base v sbX) (T : Tab w) : Calls Tryz.prog 12 #[v] w fun r w' => r = .returned (.tuple #[.agg (verV true true true), vI 0]) ∧ Below w.heap.size w w' := check_list L T (by decide +kernel) (by decide +kernel) (by decide +kernel) (by decide +kernel)
theorem chk_sf {w : World} {base : Nat} {v : Value} (L : EvO w base v sfX) (T : Tab w) : Calls Tryz.prog 12 #[v] w fun r w' => r = .returned (.tuple #[.agg (verV true false true), vI 0]) ∧ Below w.heap.size w w' := check_list L T (by decide +kernel) (by decide +kernel) (by decide +kernel) (by decide +kernel)
theorem chk_co {w : World} {base : Nat} {v : Value} (L : EvO w base v coX) (T : Tab w) : Calls Tryz.prog 12 #[v] w fun r w' => r = .returned (.tuple #[.agg (verV false true true), vI 0]) ∧ Below w.heap.size w w' := check_list L T (by decide +kernel) (by decide +kernel) (by decide +kernel) (by decide +kernel)
theorem chk_at {w : World} {base : Nat} {v : Value} (L : EvO w base v atX) (T : Tab w) : Calls Tryz.prog 12 #[v] w fun r w' => r = .returned (.tuple #[.agg (verV true true false), vI 0]) ∧ Below w.heap.size w w' := check_list L T (by decide +kernel) (by decide +kernel) (by decide +kernel) (by decide +kernel)
theorem rel_sb {w : World} {base : Nat} {v : Value} (L : EvO w base v sbX) (T : Tab w) : Calls Tryz.prog 16 #[v, .string { data := #[102, 114] }] w fun e w' => ∃ ao cap, e = .returned (.tuple #[.slice ao 2 cap, vI 0]) ∧ Below w.heap.size w w' := relation_fr L.evs T (by decide +kernel) (q := [(1, 2), (3, 0)]) (by decide +kernel)
/-- A store of one cell. -/
theorem wpList_cell {ops : Array Oper} {rest : List Oper} {o : Oper} {a : Act} {w : World} {Q : Exit → Act → World → Prop} (hg : o.guard = none) (ty : TypeId) (x y : Operand) (ho : o.op = .store ty x y) {t j : Nat} {cs : Array Value} (hx : a.eval x = .pointer (some ⟨t, j, none⟩)) (H : LocE t cs w) (v : Value) (hy : a.eval y = v) (hi : (Tryz.prog.info? ty).map (·.size) = some 1) (hv : v.oneCell' = true) (hv2 : v.cells = #[v]) (hj : j < cs.size)
    (h : ∀ w', LocE t (cs.setIfInBounds j v) w' → Goes (fun k => k = t) w w' → wpList Tryz.prog ops Q rest (a.put o.dst undef) w') : wpList Tryz.prog ops Q (o :: rest) a w :=
  wpList_plain hg fun _ hK => by
    have hc : w.cell? ⟨t, j, none⟩ = some cs[j] := by rw [H.cell, Array.getElem?_eq_getElem hj]
    have hr := run_cell w ty t j v _ hi hv hv2 hc (frozen_of_row _ _ _ _ _ H)
    unfold Oper.wp execOp
    simp only [ho, hx, hy, Instr.storeAt, Instr.sureAddr, Sem.run_bind, Sem.run_pure, Result.andThen_ok, hr]
    refine hK _ _ (h _ ?_ (goes_setCell w (F := fun k => k = t) rfl _ _))
    unfold LocE
    rw [heap_setCell_same w t j _ 36 v H]
theorem inf4 : (Tryz.prog.info? 4).map (·.size) = some 1 := by kernel_rfl
theorem wpList_load27 {ops : Array Oper} {rest : List Oper} {o : Oper} {a : Act} {w : World} {Q : Exit → Act → World → Prop} (x : Operand) (ho : o.op = .load 27 x) (hw : Region.wanted o (yielded ops a.tmps) = true) {t : Nat} {i e u : Bool} (hx : a.eval x = .pointer (some ⟨t, 0, none⟩)) (H : VerAt t (verV i e u) w)
    (h : wpList Tryz.prog ops Q rest (a.put o.dst (.agg (verV i e u))) w) : wpList Tryz.prog ops Q (o :: rest) a w :=
  wpList_wanted hw fun _ hK => wp_load_mid 27 x ho t 0 hx (verV i e u).toList _ (fun j v hv => by
    rw [Nat.zero_add, H.cell]; simpa using hv) Tryz.underlying27 rfl (by show _ = some 3; kernel_rfl) (hK _ _ h)
/-- The region that makes the last list: what is done. -/
structure XJ (w0 : World) (m : Nat → Bool) (x : Nat → Value) (w : World) : Prop where
  b : Below w0.heap.size w0 w
  m0 : m 0 = true → x 0 = .agg (evA (exE (rE 0 0 8 0 0)) nilS nilS nilS)
  m1 : m 1 = true → x 1 = .agg (evA (exE (wE 0 1 8 1 2)) nilS nilS nilS)
  m2 : m 2 = true → x 2 = .agg (evA (wE 1 0 8 2 1) nilS nilS nilS)
  m3 : m 3 = true → ∃ g, x 3 = .slice (some ⟨g, 0, none⟩) 3 3 ∧ (m 4 = false → EvO w w0.heap.size (.slice (some ⟨g, 0, none⟩) 3 3) atX)
  m4 : m 4 = true → x 4 = .tuple #[.agg (verV true true false), vI 0]
  m5 : m 5 = true → x 5 = .tuple #[.agg (verV true true false), vI 0]
  m6 : m 6 = true → x 6 = .agg (verV true true false)
  m7 : m 7 = true → x 7 = vI 0
  m8 : m 8 = true → ∃ q, w0.heap.size ≤ q ∧ x 8 = ptr q 0 ∧ (m 9 = false → VerAt q (verV false false false) w) ∧ (m 9 = true → VerAt q (verV true true false) w)
  m10 : m 10 = true → x 10 = vI 0
section
variable {w0 : World} {m : Nat → Bool} {x : Nat → Value} {w : World}
theorem XJ.grow {w' : World} (H : XJ w0 m x w) (hb : Below w.heap.size w w') : XJ w0 m x w' :=
  ⟨below_then H.b (Nat.le_refl _) hb, H.m0, H.m1, H.m2, fun h => by
    obtain ⟨g, h1, h2⟩ := H.m3 h
    exact ⟨g, h1, fun k => (h2 k).grow hb⟩, H.m4, H.m5, H.m6, H.m7, fun h => by
    obtain ⟨q, h1, h2, h3, h4⟩ := H.m8 h
    exact ⟨q, h1, h2, fun k => (h3 k).grow hb, fun k => (h4 k).grow hb⟩, H.m10⟩
theorem XJ.s0 (H : XJ w0 m x w) : XJ w0 (fun k => k == 0 || m k) (fun k => if k = 0 then .agg (evA (exE (rE 0 0 8 0 0)) nilS nilS nilS) else x k) w := ⟨H.b, fun _ => rfl, H.m1, H.m2, H.m3, H.m4, H.m5, H.m6, H.m7, H.m8, H.m10⟩
theorem XJ.s1 (H : XJ w0 m x w) : XJ w0 (fun k => k == 1 || m k) (fun k => if k = 1 then .agg (evA (exE (wE 0 1 8 1 2)) nilS nilS nilS) else x k) w := ⟨H.b, H.m0, fun _ => rfl, H.m2, H.m3, H.m4, H.m5, H.m6, H.m7, H.m8, H.m10⟩
theorem XJ.s2 (H : XJ w0 m x w) : XJ w0 (fun k => k == 2 || m k) (fun k => if k = 2 then .agg (evA (wE 1 0 8 2 1) nilS nilS nilS) else x k) w := ⟨H.b, H.m0, H.m1, fun _ => rfl, H.m3, H.m4, H.m5, H.m6, H.m7, H.m8, H.m10⟩
theorem XJ.s3 (H : XJ w0 m x w) {g : Nat} (L : EvO w w0.heap.size (.slice (some ⟨g, 0, none⟩) 3 3) atX) : XJ w0 (fun k => k == 3 || m k) (fun k => if k = 3 then .slice (some ⟨g, 0, none⟩) 3 3 else x k) w := ⟨H.b, H.m0, H.m1, H.m2, fun _ => ⟨g, rfl, fun _ => L⟩, H.m4, H.m5, H.m6, H.m7, H.m8, H.m10⟩
theorem XJ.s4 (H : XJ w0 m x w) : XJ w0 (fun k => k == 4 || m k) (fun k => if k = 4 then .tuple #[.agg (verV true true false), vI 0] else x k) w := ⟨H.b, H.m0, H.m1, H.m2, fun h => by
  obtain ⟨g, h1, _⟩ := H.m3 h
  exact ⟨g, h1, fun k => by cases k⟩, fun _ => rfl, H.m5, H.m6, H.m7, H.m8, H.m10⟩
theorem XJ.s5 (H : XJ w0 m x w) : XJ w0 (fun k => k == 5 || m k) (fun k => if k = 5 then .tuple #[.agg (verV true true false), vI 0] else x k) w := ⟨H.b, H.m0, H.m1, H.m2, H.m3, H.m4, fun _ => rfl, H.m6, H.m7, H.m8, H.m10⟩
theorem XJ.s6 (H : XJ w0 m x w) : XJ w0 (fun k => k == 6 || m k) (fun k => if k = 6 then .agg (verV true true false) else x k) w := ⟨H.b, H.m0, H.m1, H.m2, H.m3, H.m4, H.m5, fun _ => rfl, H.m7, H.m8, H.m10⟩
theorem XJ.s7 (H : XJ w0 m x w) : XJ w0 (fun k => k == 7 || m k) (fun k => if k = 7 then vI 0 else x k) w := ⟨H.b, H.m0, H.m1, H.m2, H.m3, H.m4, H.m5, H.m6, fun _ => rfl, H.m8, H.m10⟩
theorem XJ.s8 (H : XJ w0 m x w) (h9 : m 9 = false) {q : Nat} (hq : w0.heap.size ≤ q) (V : VerAt q (verV false false false) w) : XJ w0 (fun k => k == 8 || m k) (fun k => if k = 8 then ptr q 0 else x k) w := ⟨H.b, H.m0, H.m1, H.m2, H.m3, H.m4, H.m5, H.m6, H.m7, fun _ => ⟨q, hq, rfl, fun _ => V, fun h => by have h' : m 9 = true := h; rw [h9] at h'; cases h'⟩, H.m10⟩
theorem XJ.s9 (H : XJ w0 m x w) (h4 : m 4 = true) {w' : World} {q : Nat} (hq : w0.heap.size ≤ q) (hx : x 8 = ptr q 0) (V : VerAt q (verV true true false) w') (G : Goes (fun k => k = q) w w') : XJ w0 (fun k => k == 9 || m k) (fun k => if k = 9 then undef else x k) w' := ⟨H.b.trans (G.below H.b.size (fun k hk => by rw [hk]; exact hq)), H.m0, H.m1, H.m2, fun h => by
  obtain ⟨g, h1, _⟩ := H.m3 h
  exact ⟨g, h1, fun k => by have k' : m 4 = false := k; rw [h4] at k'; cases k'⟩, H.m4, H.m5, H.m6, H.m7, fun _ => ⟨q, hq, hx, (fun h => by cases h), fun _ => V⟩, H.m10⟩
theorem XJ.s10 (H : XJ w0 m x w) : XJ w0 (fun k => k == 10 || m k) (fun k => if k = 10 then vI 0 else x k) w := ⟨H.b, H.m0, H.m1, H.m2, H.m3, H.m4, H.m5, H.m6, H.m7, H.m8, fun _ => rfl⟩
end
theorem falls {m : Nat → Bool} {j k : Nat} (h : m j = true → m k = true) (hk : m k = false) : m j = false := by
  cases e : m j with
  | false => rfl
  | true => rw [h e] at hk; cases hk

theorem evO_base {w : World} {b c : Nat} {v : Value} {es : List EvX} (h : b ≤ c) (L : EvO w c v es) : EvO w b v es := ⟨⟨L.row.1, by
  rcases L.row.2 with k | ⟨g, cap, cur, h1, h2, h3⟩
  · exact .inl k
  · exact .inr ⟨g, cap, cur, h1, Nat.le_trans h h2, h3⟩⟩, L.deps⟩
theorem ext_at0 (a b : Value) (w : World) : (Instr.extract (.tuple #[a, b]) 0).run Tryz.prog w = .ok a w := rfl
theorem ext_at1 (a b : Value) (w : World) : (Instr.extract (.tuple #[a, b]) 1).run Tryz.prog w = .ok b w := rfl
theorem run_lit3 (e0 e1 e2 : Ev) (w : World) : (Instr.buildSlice 22 3 #[(0, .agg (evA e0 nilS nilS nilS)), (1, .agg (evA e1 nilS nilS nilS)), (2, .agg (evA e2 nilS nilS nilS))]).run Tryz.prog w = .ok (.slice (some ⟨w.heap.size, 0, none⟩) 3 3) (w.alloc (.cells (evF [nilX e0, nilX e1, nilX e2]).toArray 36)) := by
  obtain ⟨i, hi, hz, hs, hby⟩ := info_parts info36
  exact run_buildSlice (P := Tryz.prog) w 22 36 3 _ _ i (.agg zA) Tryz.underlying22 hi hz (by rw [hs]; decide) (by rw [hs]; decide) (by rw [hs]; kernel_rfl)
section
variable {o : Oper} {a : Act} {w : World} {F : Value → World → Prop}
theorem up_lit3 {e0 e1 e2 : Ev} (x y z : Operand) (ho : o.op = .buildSlice 22 3 #[(0, x), (1, y), (2, z)]) (hx : a.eval x = .agg (evA e0 nilS nilS nilS)) (hy : a.eval y = .agg (evA e1 nilS nilS nilS)) (hz : a.eval z = .agg (evA e2 nilS nilS nilS)) (hF : F (.slice (some ⟨w.heap.size, 0, none⟩) 3 3) (w.alloc (.cells (evF [nilX e0, nilX e1, nilX e2]).toArray 36))) : Chn.upon Tryz.prog F w ((execOp a.eval o).run Tryz.prog w) := by
  unfold execOp
  simp only [ho, Sem.run_bind, List.map_toArray, List.map_cons, List.map_nil, hx, hy, hz, run_lit3, Result.andThen_ok]
  exact hF
theorem up_call12 {v : Value} (x : Operand) (ho : o.op = .call { callee := .value (.func 12), args := #[x], argTypes := #[22] }) (hf : a.eval (.func 12) = .func (.func 12) #[] #[]) (hx : a.eval x = v) (hc : Calls Tryz.prog 12 #[v] w (fun e w' => ∃ u, e = .returned u ∧ F u w')) : Chn.upon Tryz.prog F w ((execOp a.eval o).run Tryz.prog w) := by
  have eg := enters_of (P := Tryz.prog) Tryz.func12 (by kernel_rfl) rfl
  have e : (execOp a.eval o).run Tryz.prog w = .ok (.enter 12 #[v]) w := by
    unfold execOp
    simp only [ho, resolve, invoke, Sem.run_bind, Sem.run_pure, Result.andThen_ok, List.map_toArray, List.map_cons, List.map_nil, hx, hf]
    exact eg #[v] w
  rw [e]
  exact ⟨rfl, hc⟩
theorem up_call24 {v0 v1 v2 v3 v4 : Value} (x0 x1 x2 x3 x4 : Operand) (ho : o.op = .call { callee := .value (.func 24), args := #[x0, x1, x2, x3, x4], argTypes := #[3, 3, 33, 33, 3] }) (hf : a.eval (.func 24) = .func (.func 24) #[] #[]) (h0 : a.eval x0 = v0) (h1 : a.eval x1 = v1) (h2 : a.eval x2 = v2) (h3 : a.eval x3 = v3) (h4 : a.eval x4 = v4) (hc : Calls Tryz.prog 24 #[v0, v1, v2, v3, v4] w (fun e w' => ∃ u, e = .returned u ∧ F u w')) : Chn.upon Tryz.prog F w ((execOp a.eval o).run Tryz.prog w) := by
  have eg := enters_of (P := Tryz.prog) Tryz.func24 (by kernel_rfl) rfl
  have e : (execOp a.eval o).run Tryz.prog w = .ok (.enter 24 #[v0, v1, v2, v3, v4]) w := by
    unfold execOp
    simp only [ho, resolve, invoke, Sem.run_bind, Sem.run_pure, Result.andThen_ok, List.map_toArray, List.map_cons, List.map_nil, h0, h1, h2, h3, h4, hf]
    exact eg #[v0, v1, v2, v3, v4] w
  rw [e]
  exact ⟨rfl, hc⟩
theorem up_store27 {q : Nat} {i e t i' e' t' : Bool} (x y : Operand) (ho : o.op = .store 27 x y) (hx : a.eval x = ptr q 0) (V : VerAt q (verV i e t) w) (hy : a.eval y = .agg (verV i' e' t')) (hF : ∀ w', VerAt q (verV i' e' t') w' → Goes (fun k => k = q) w w' → F undef w') : Chn.upon Tryz.prog F w ((execOp a.eval o).run Tryz.prog w) := by
  have hr := run_storeVar_row (P := Tryz.prog) w q 27 27 (verV i e t) (verV i' e' t') V (by show _ = some 3; kernel_rfl) rfl (by simp only [List.all_toArray, List.all_cons, List.all_nil]; rfl)
  have hx' : a.eval x = .pointer (some ⟨q, 0, none⟩) := hx
  unfold execOp
  simp only [ho, hx', hy, Instr.storeAt, Instr.sureAddr, Sem.run_bind, Sem.run_pure, Result.andThen_ok, hr]
  exact hF _ (setRow_heap _ _ _ _ _ _ V) (goes_setRow w (F := fun k => k = q) rfl _)
end
end Go.Proofs.YtnedkielehmneaaGreatDoor
