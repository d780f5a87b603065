/- Fences made one: what is told. -/
import Derived.Test.YtilbnjldfgofmaaZm
import Derived.Test.YtilbnjldfgofmaaTail
namespace Go.Proofs.Ytilbnjldfgofmaa
open Go.RowKit
set_option linter.unusedVariables false
set_option linter.unusedSimpArgs false
set_option maxRecDepth 8000

/-- What stands while a rule tells. -/
structure TlC (w : World) (p g cap : Nat) (ids : List Nat) (l : List Opr) (bl bf : Nat) (f : Value) (x : World) : Prop where
  lg : LG x p g cap ids l
  bl : Boxed x bl 50 (ptr p 0)
  bf : Boxed x bf 62 f
  low : Below w.heap.size w x
theorem TlC.grow {w : World} {p g cap : Nat} {ids : List Nat} {l : List Opr} {bl bf : Nat} {f : Value} {x y : World} (h : TlC w p g cap ids l bl bf f x) (hb : Below x.heap.size x y) : TlC w p g cap ids l bl bf f y := ⟨h.lg.grow hb, h.bl.grow hb, h.bf.grow hb, below_then h.low (Nat.le_refl _) hb⟩
def NewP (B : Nat) (t : TypeId) (v0 : Value) (v : Value) (x : World) : Prop := ∃ b, v = ptr b 0 ∧ Boxed x b t v0 ∧ B ≤ b
theorem newP_up (B : Nat) (t : TypeId) (v0 : Value) : ∀ v, Rel.Up Rel.Grows (NewP B t v0 v) := fun v x y h hb => by
  obtain ⟨b, rfl, hB, hl⟩ := h
  exact ⟨b, rfl, hB.grow hb, hl⟩
theorem Boxed.set {w : World} {b : Nat} {t : TypeId} {u : Value} (h : Boxed w b t u) (v : Value) : Boxed (w.setCell ⟨b, 0, none⟩ v) b t v := heap_setCell_same w b 0 _ t v h
section
variable {pc words el : Int} {l : List Opr} {ids : List Nat} {w : World} {p g cap : Nat}
theorem LG.setNew {w : World} {p g cap : Nat} {ids : List Nat} {l : List Opr} {b : Nat} {t : TypeId} {u : Value} (H : LG w p g cap ids l) (hb : Boxed w b t u) {v : Value} {W0 : World} (hlow : Below W0.heap.size W0 w) (hW : LG W0 p g cap ids l) (hn : W0.heap.size ≤ b) : LG (w.setCell ⟨b, 0, none⟩ v) p g cap ids l := hW.grow (below_cell hlow hn)
set_option maxHeartbeats 4000000 in
theorem merge_c (h : rightB pc words el l = true) (H : LG w p g cap ids l) {k : Nat} (hk : k < l.length) :
    Calls Try.prog 26 #[ptr p 0, vI k] w (Told mergeR w p g cap ids l k) := by
  have hlen : Hid (ids.length = l.length) := H.gr.len
  have hb0 := below_alloc w (.cells #[ptr p 0] 50)
  have r0 := Boxed.new w 50 (ptr p 0)
  have H0 := H.grow hb0
  have z0 := r0.cell
  have z1 := H0.ls.boxc
  have z2 := H0.ls.cell (k := k) (by have := hlen.out; omega)
  have hki : (k : Int) < ids.length := by have := hlen.out; omega
  have hmf : ∀ (fn : Fn) (first cap : Array Value) (w : World), (Instr.makeFunc fn first cap).run Try.prog w = .ok (.func fn first cap) w := fun _ _ _ _ => rfl
  go_enter Try.func26, Try.ntmps26
  go_upto_region 1 with fail
  generalize w.alloc (.cells #[ptr p 0] 50) = w1 at *
  go_upto_region 2 with fail
  have hb1 := below_alloc w1 (.cells #[ptr (idAt ids k) 0] 62)
  have r1 := Boxed.new w1 62 (ptr (idAt ids k) 0)
  have T : TlC w p g cap ids l w.heap.size w1.heap.size (ptr (idAt ids k) 0) (w1.alloc (.cells #[ptr (idAt ids k) 0] 62)) := ⟨H0.grow hb1, r0.grow hb1, r1, below_then hb0 (Nat.le_refl _) hb1⟩
  clear hb0 r0 H0 z0 z1 z2 hb1 r1
  generalize w1.alloc (.cells #[ptr (idAt ids k) 0] 62) = w2 at *
  generalize w1.heap.size = bf at *
  clear w1
  generalize w.heap.size = bl at T ⊢
  obtain ⟨d, nd, fd⟩ := T.lg.gr.node k hk
  have c0 := nd.c0
  rw [fd.kind] at c0
  have y0 := T.bf.cell
  by_cases h13 : (opAt l k).kind = 13
  · replace h13 : Hid ((opAt l k).kind = 13) := h13
    rw [h13.out] at c0
    have hin := inner_k h hk (.inr (.inr h13.out))
    obtain ⟨n1, n2, n3, n4⟩ := next_stop h hin.2
    have hm : mergeAt l k = if (opAt l (nextK stopK l k)).kind = 13 then some (nextK stopK l k) else none := by
      unfold mergeAt
      by_cases q : (opAt l (nextK stopK l k)).kind = 13
      · rw [if_pos ⟨h13.out, q⟩, if_pos q]
      · rw [if_neg (fun e => q e.2), if_neg q]
    replace hm : Hid _ := hm
    have kn := fun x (hb : Below w2.heap.size w2 x) => nextStop_c h (T.grow hb).lg.ls (T.grow hb).lg.gr hin.2
    generalize nextK stopK l k = j at *
    go_upto_region 4 with fail
    have hji : (j : Int) < ids.length := by have := hlen.out; omega
    have hjl2 : j < ids.length := by have := hlen.out; omega
    clear n3 n4 c0 y0 nd fd
    refine Rel.wp_region_tail 10 Rel.Grows (fun x => Below w2.heap.size w2 x) [.inl (ptr p 0), .inl (ptr p 0), .inl (ptr p 0), .inl (.slice (some ⟨g, 0, none⟩) ids.length cap), .inl (ptr p 0), .inl (vI k), .inl (vI j), .inl (ptr g j), .inl (ptr (idAt ids j) 0), .inr (NewP w2.heap.size 62 (.pointer none))] (by kernel_rfl) (by kernel_rfl) (fun x y hx hxy => below_then hx (Nat.le_refl _) hxy) (below_dr w2) (by intro k hk; simp only [List.mem_cons, List.not_mem_nil, or_false] at hk; rcases hk with rfl | rfl | rfl | rfl | rfl | rfl | rfl | rfl | rfl | rfl <;> first | trivial | exact newP_up _ _ _) ?_
    refine ⟨fun w6 hC hF => by have zz := (T.grow hC).bl.cell; go_simp; exact Below.refl _ _, ?_⟩
    simp only [Act.put, List.setIfInBounds_toArray, List.set_cons_succ, List.set_cons_zero]
    refine ⟨fun w6 hC hF => by go_simp; exact Below.refl _ _, ?_⟩
    simp only [Act.put, List.setIfInBounds_toArray, List.set_cons_succ, List.set_cons_zero]
    refine ⟨fun w6 hC hF => by go_simp; exact Below.refl _ _, ?_⟩
    simp only [Act.put, List.setIfInBounds_toArray, List.set_cons_succ, List.set_cons_zero]
    refine ⟨fun w6 hC hF => by have zz := (T.grow hC).lg.ls.boxc; go_simp; exact Below.refl _ _, ?_⟩
    simp only [Act.put, List.setIfInBounds_toArray, List.set_cons_succ, List.set_cons_zero]
    refine ⟨fun w6 hC hF => by have zz := (T.grow hC).bl.cell; go_simp; exact Below.refl _ _, ?_⟩
    simp only [Act.put, List.setIfInBounds_toArray, List.set_cons_succ, List.set_cons_zero]
    refine ⟨fun w6 hC hF => by go_simp; exact Below.refl _ _, ?_⟩
    simp only [Act.put, List.setIfInBounds_toArray, List.set_cons_succ, List.set_cons_zero]
    refine ⟨fun w6 hC hF => by go_simp; refine (kn w6 hC).mono ?_; rintro e w7 ⟨rfl, B7⟩; exact ⟨rfl, B7⟩, ?_⟩
    simp only [Act.put, List.setIfInBounds_toArray, List.set_cons_succ, List.set_cons_zero]
    refine ⟨fun w6 hC hF => by go_simp; exact Below.refl _ _, ?_⟩
    simp only [Act.put, List.setIfInBounds_toArray, List.set_cons_succ, List.set_cons_zero]
    refine ⟨fun w6 hC hF => by have zz := (T.grow hC).lg.ls.cell hjl2; go_simp; exact Below.refl _ _, ?_⟩
    simp only [Act.put, List.setIfInBounds_toArray, List.set_cons_succ, List.set_cons_zero]
    refine ⟨fun w6 hC hF => by go_simp; exact ⟨below_alloc _ _, _, rfl, Boxed.new w6 62 (.pointer none), hC.size⟩, fun u => ?_⟩
    simp only [Act.put, List.setIfInBounds_toArray, List.set_cons_succ, List.set_cons_zero]
    intro w3 hC hF
    have hnew : NewP w2.heap.size 62 (.pointer none) u w3 := (hF 9).1 rfl
    obtain ⟨bo, rfl, hbo, hbl⟩ := hnew
    simp only [List.drop_succ_cons, List.drop_zero]
    have y1 := hbo.cell
    have y2 := hbo.frz 0
    have hB4 : Below w2.heap.size w2 (w3.setCell ⟨bo, 0, none⟩ (ptr (idAt ids j) 0)) := below_cell hC hbl
    have T4 := T.grow hB4
    have ro := hbo.set (ptr (idAt ids j) 0)
    clear hF hC hbo hbl hB4
    go_upto_region 5 with fail
    generalize w3.setCell ⟨bo, 0, none⟩ (ptr (idAt ids j) 0) = w4 at *
    clear y1 y2 T kn
    have y0 := ro.cell
    obtain ⟨d, nd, fd⟩ := T4.lg.gr.node j n2
    have c0 := nd.c0
    rw [fd.kind] at c0
    by_cases hj : (opAt l j).kind = 13
    · replace hm : mergeAt l k = some j := by rw [hm.out, if_pos hj]
      rw [hj] at c0
      clear hj
      have hd := mergeD_c h T4.lg hk hm ro T4.bf T4.bl
      go_wp2
      go_ret
      exact ⟨T4.low, _, rfl, .inr ⟨_, by unfold mergeR; rw [hm]; rfl, _, _, rfl, enters_of Try.func44 (by kernel_rfl) rfl, hd⟩⟩
    · have q13 : ((opAt l j).kind == 13) = false := by simpa using hj
      have hn : mergeR l k = none := by unfold mergeR; rw [hm.out, if_neg hj]; rfl
      clear hm
      go_wp2
      go_ret
      exact ⟨T4.low, _, rfl, .inl ⟨hn, rfl⟩⟩
  · have q13 : ((opAt l k).kind == 13) = false := by simpa using h13
    have hn : mergeR l k = none := by unfold mergeR mergeAt; rw [if_neg (fun q => h13 q.1)]; rfl
    go_wp2
    go_ret
    exact ⟨T.low, _, rfl, .inl ⟨hn, rfl⟩⟩
end
end Go.Proofs.Ytilbnjldfgofmaa
