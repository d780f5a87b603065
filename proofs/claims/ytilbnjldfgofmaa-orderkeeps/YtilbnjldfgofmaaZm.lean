/- Fences made one. -/
import Derived.Test.YtilbnjldfgofmaaZl
import Derived.Test.YtilbnjldfgofmaaZf
import Derived.StillTail
import Derived.StillTactics
namespace Go.Proofs.Ytilbnjldfgofmaa
open Go.RowKit
set_option linter.unusedVariables false
set_option linter.unusedSimpArgs false
set_option maxRecDepth 8000

theorem cell_dr {w : World} {q : Addr} {v : Value} (h : w.cell? q = some v) : ({ w with drawn := w.drawn + 1 } : World).cell? q = some v := h
/-- The bits of both. -/
theorem or_13 {x y : Int} (hx : x = 13 ∨ x = 10 ∨ x = 15) (hy : y = 13 ∨ y = 10 ∨ y = 15) : bits .or .i64 x y = orR x y := by
  rcases hx with rfl | rfl | rfl <;> rcases hy with rfl | rfl | rfl <;> decide +kernel
section
variable {pc words el : Int} {l : List Opr} {ids : List Nat} {w : World} {p g cap bo bf bl : Nat}
theorem Gr.setR (G : Gr ids l w) {j : Nat} (hj : j < l.length) (r : Int) : Gr ids (orL l j r) (w.setCell ⟨idAt ids j, 1, none⟩ (vI (orR (opAt l j).r r))) := by
  refine ⟨by rw [orL_len]; exact G.len, G.nd, fun k hk => ?_⟩
  rw [orL_len] at hk
  obtain ⟨d, nd, f⟩ := G.node k hk
  have hl := G.len
  rw [orL_at hj]
  by_cases e : k = j
  · subst e
    rw [if_pos rfl]
    refine ⟨{ d with op := { d.op with r := orR (opAt l k).r r } }, ?_, ⟨f.kind, rfl, f.order, f.imm, f.a, f.b⟩⟩
    have := heap_setCell_same w (idAt ids k) 1 _ 67 (vI (orR (opAt l k).r r)) nd
    exact this
  · rw [if_neg e]
    refine ⟨d, ?_, f⟩
    unfold NdAt
    rw [Below.heap_setCell _ _ _ _ (fun q => e (idAt_inj G.nd (by omega) (by omega) q))]
    exact nd
theorem Ls.item (L : Ls w p g cap ids) (G : Gr ids l w) {b : Nat} (hb : b ∈ ids) {w' : World} (h : Goes (fun k => k = b) w w') : Ls w' p g cap ids := L.goes G (h.mono (fun k _ e => e ▸ hb))
set_option maxHeartbeats 2000000 in
theorem mergeD_c (h : rightB pc words el l = true) (H : LG w p g cap ids l) {k j : Nat} (hk : k < l.length) (e : mergeAt l k = some j) (ho : Boxed w bo 62 (ptr (idAt ids j) 0)) (hf : Boxed w bf 62 (ptr (idAt ids k) 0)) (hl : Boxed w bl 50 (ptr p 0)) :
    Calls Try.prog 44 #[ptr bo 0, ptr bf 0, ptr bl 0] w (Done w p g cap ids (mergeDo l k j)) := by
  have hbd := below_dr w
  replace H := H.grow hbd
  replace ho := ho.grow hbd
  replace hf := hf.grow hbd
  replace hl := hl.grow hbd
  obtain ⟨w0, hw0⟩ : ∃ w0, w0 = ({ w with drawn := w.drawn + 1 } : World) := ⟨_, rfl⟩
  rw [← hw0] at H ho hf hl hbd
  obtain ⟨a1, a2, a3, a4, a5, -, -⟩ := merge_some h hk e
  have hT := or_dropT h hk e
  have hjl : j < l.length := by omega
  obtain ⟨dj, nj, fj⟩ := H.gr.node j hjl
  obtain ⟨dk, nk, fk⟩ := H.gr.node k hk
  have hlen : Hid (ids.length = l.length) := H.gr.len
  have zo := ho.cell
  have zf := hf.cell
  have zl := hl.cell
  have c1 := nj.c1
  have d1 := nk.c1
  have f1 := nj.frz 1
  rw [fj.r] at c1
  rw [fk.r] at d1
  have hor := or_13 (fence_r (op_ok h hjl) a2) (fence_r (op_ok h hk) a1)
  have hbg : Goes (fun b => b = idAt ids j) w0 (w0.setCell ⟨idAt ids j, 1, none⟩ (vI (orR (opAt l j).r (opAt l k).r))) := goes_setCell (F := fun b => b = idAt ids j) w0 rfl 1 _
  have hmj : idAt ids j ∈ ids := idAt_mem (by have := hlen.out; omega)
  have H1 : LG (w0.setCell ⟨idAt ids j, 1, none⟩ (vI (orR (opAt l j).r (opAt l k).r))) p g cap ids (orL l j (opAt l k).r) := ⟨H.ls.item H.gr hmj hbg, H.gr.setR hjl _⟩
  have hkeep : ∀ {b : Nat} {v : Value} {t : TypeId}, Boxed w0 b t v → t ≠ 67 → (w0.setCell ⟨idAt ids j, 1, none⟩ (vI (orR (opAt l j).r (opAt l k).r))).cell? ⟨b, 0, none⟩ = some v := fun {b v t} hb ht => by
    refine Boxed.cell (t := t) ?_
    unfold Boxed
    rw [Below.heap_setCell _ _ _ _ (fun q => by have q : b = idAt ids j := q; subst q; exact ne_of_type hb nj ht rfl)]
    exact hb
  have zf1 := hkeep hf (by decide)
  have zl1 := hkeep hl (by decide)
  have kt := taken_c (k := k) hT.1 H1 (by rw [orL_len]; exact hk) (by rw [orL_len]; exact hT.2)
  rw [orL_len] at kt
  clear hkeep nj nk fj fk a1 a2 e ho hf hl hT
  go_enter Try.func44, Try.ntmps44
  refine wp_seq ?_
  refine wp_region_still_tail 14 (by kernel_rfl) (by kernel_rfl) ?_
  rw [← hw0]
  clear hw0
  simp only [List.take_succ_cons, List.take_zero, List.drop_succ_cons, List.drop_zero]
  repeat still_step
  refine wpStill_nil ?_
  go_wp2_with (first | (go_at_call 45; (with_reducible refine kt.mono ?_); clear kt; rintro e w3 ⟨⟨u, rfl⟩, H3, G3⟩; dsimp only))
  go_end0
  refine ⟨⟨_, rfl⟩, _, H3, drop_sub hlen.out.symm, (goes_of_below hbd).trans ((hbg.mono (fun b _ e => .inr (.inr (e ▸ hmj))) : Goes (OwnL p g ids) _ _).trans (G3.mono (fun b _ e => by rcases e with e | e; exact .inl e; exact .inr (.inl e)) : Goes (OwnL p g ids) _ _) (fun _ _ q => q)) (fun _ _ q => q)⟩
end
end Go.Proofs.Ytilbnjldfgofmaa
