/- A load whose value is known. -/
import Derived.Test.YtilbnjldfgofmaaZn
namespace Go.Proofs.Ytilbnjldfgofmaa
open Go.RowKit
set_option linter.unusedVariables false
set_option linter.unusedSimpArgs false
set_option maxRecDepth 8000

theorem run_eqNilP (w : World) (a : Nat) : (binOp .eql 62 (ptr a 0) (.pointer none)).run Try.prog w = .ok (.bool false) w := by
  have hi : (Try.prog.info? 67).map (·.size) = some 9 := by kernel_rfl
  cases hq : Try.prog.info? 67 with
  | none => simp [hq] at hi
  | some i =>
    have h : ∀ d : Nat, (Op.equalIn (d + 1) 62 (ptr a 0) (.pointer none)).run Try.prog w = .ok false w := fun d => by
      simp [Op.equalIn, run_underlying Try.underlying62, sizeOf, typeInfo, hq]
    simp only [binOp]
    simp [Op.equal, Op.maxDepth, h 9999]
theorem run_eqNilN (w : World) : (binOp .eql 62 (.pointer none) (.pointer none)).run Try.prog w = .ok (.bool true) w := by
  have hi : (Try.prog.info? 67).map (·.size) = some 9 := by kernel_rfl
  cases hq : Try.prog.info? 67 with
  | none => simp [hq] at hi
  | some i =>
    have h : ∀ d : Nat, (Op.equalIn (d + 1) 62 (.pointer none) (.pointer none)).run Try.prog w = .ok true w := fun d => by
      simp [Op.equalIn, run_underlying Try.underlying62, sizeOf, typeInfo, hq]
    simp only [binOp]
    simp [Op.equal, Op.maxDepth, h 9999]
section
variable {pc words el : Int} {l : List Opr} {ids : List Nat} {w : World} {p g cap bl bf bv : Nat}
theorem Boxed.item {w w' : World} {b : Nat} {t : TypeId} {v : Value} (h : Boxed w b t v) (ht : t ≠ 67) (G : Gr ids l w) (hg : Goes (Own ids) w w') : Boxed w' b t v := by
  unfold Boxed
  rw [hg.block b (lt_of_some h) (fun hm => by
    obtain ⟨k, hk⟩ := List.getElem?_of_mem hm
    have hkl : k < ids.length := (List.getElem?_eq_some_iff.1 hk).1
    obtain ⟨d, nd, _⟩ := G.node k (by have := G.len; omega)
    have e2 : idAt ids k = b := by rw [idAt_some hkl] at hk; exact Option.some.inj hk
    rw [e2] at nd
    exact ne_of_type h nd ht rfl)]
  exact h
set_option maxHeartbeats 2000000 in
theorem againD_c (h : rightB pc words el l = true) (H : LG w p g cap ids l) {k v : Nat} (hk : k < l.length) (e : againAt l k = some v) (hl : Boxed w bl 50 (ptr p 0)) (hf : Boxed w bf 62 (ptr (idAt ids k) 0)) (hv : Boxed w bv 62 (ptr (idAt ids v) 0)) :
    Calls Try.prog 48 #[ptr bl 0, ptr bf 0, ptr bv 0] w (Done w p g cap ids (againDo l k v)) := by
  obtain ⟨a1, a2, a3, a4, a5, a6, a7⟩ := again_some h hk e
  have hT := again_topo h hk e
  have hlen : Hid (ids.length = l.length) := H.gr.len
  have ku := use_c h H.ls H.gr hk (show v < l.length by omega)
  have zl := hl.cell
  have zf := hf.cell
  have zv := hv.cell
  have kt := fun w' (H1 : LG w' p g cap ids (substL l k v)) => taken_c (k := k) hT.1 H1 (by rw [subst_len]; exact hk) (by rw [subst_len]; exact hT.2)
  simp only [subst_len] at kt
  go_enter Try.func48, Try.ntmps48
  go_wp2_with (first | (go_at_call 49; (with_reducible refine ku.mono ?_); clear ku; rintro e w2 ⟨⟨u, rfl⟩, L2, G2, GO⟩; dsimp only; replace zl := (hl.item (by decide) H.gr GO).cell; replace zf : w2.cell? ⟨bf, 0, none⟩ = some (ptr (idAt ids k) 0) := (hf.item (by decide) H.gr GO).cell; replace kt := kt w2 ⟨L2, G2⟩) | (go_at_call 45; (with_reducible refine kt.mono ?_); clear kt; rintro e w3 ⟨⟨u, rfl⟩, H3, G3⟩; dsimp only))
  go_end0
  exact ⟨⟨_, rfl⟩, _, H3, drop_sub hlen.out.symm, (GO.mono (fun b _ q => .inr (.inr q)) : Goes (OwnL p g ids) _ _).trans (G3.mono (fun b _ q => by rcases q with q | q; exact .inl q; exact .inr (.inl q)) : Goes (OwnL p g ids) _ _) (fun _ _ q => q)⟩
set_option maxHeartbeats 4000000 in
theorem again_c (h : rightB pc words el l = true) (H : LG w p g cap ids l) {k : Nat} (hk : k < l.length) :
    Calls Try.prog 27 #[ptr p 0, vI k] w (Told againR w p g cap ids l k) := by
  have hlen : Hid (ids.length = l.length) := H.gr.len
  have hb0 := below_alloc w (.cells #[ptr p 0] 50)
  have r0 := Boxed.new w 50 (ptr p 0)
  have H0 := H.grow hb0
  have z0 := r0.cell
  have z1 := H0.ls.boxc
  have z2 := H0.ls.cell (k := k) (by have := hlen.out; omega)
  have hki : (k : Int) < ids.length := by have := hlen.out; omega
  have hmf : ∀ (fn : Fn) (first cap : Array Value) (w : World), (Instr.makeFunc fn first cap).run Try.prog w = .ok (.func fn first cap) w := fun _ _ _ _ => rfl
  go_enter Try.func27, Try.ntmps27
  go_upto_region 1 with fail
  generalize w.alloc (.cells #[ptr p 0] 50) = w1 at *
  go_upto_region 2 with fail
  have hb1 := below_alloc w1 (.cells #[ptr (idAt ids k) 0] 62)
  have r1 := Boxed.new w1 62 (ptr (idAt ids k) 0)
  have T : TlC w p g cap ids l w.heap.size w1.heap.size (ptr (idAt ids k) 0) (w1.alloc (.cells #[ptr (idAt ids k) 0] 62)) := ⟨H0.grow hb1, r0.grow hb1, r1, below_then hb0 (Nat.le_refl _) hb1⟩
  clear hb0 r0 H0 z0 z1 z2 hb1 r1
  generalize w1.alloc (.cells #[ptr (idAt ids k) 0] 62) = w2 at *
  generalize w1.heap.size = bf at *
  clear w1
  generalize w.heap.size = bl at T ⊢
  obtain ⟨d, nd, fd⟩ := T.lg.gr.node k hk
  have y0 := T.bf.cell
  have kp := isPlain_c nd 9
  have hpl : (decide (d.op.kind = 9) && decide (d.op.order = 0)) = plainB (opAt l k) 9 := by
    unfold plainB
    rw [fd.kind, fd.order]
    simp [Bool.beq_eq_decide_eq]
  rw [hpl] at kp
  clear hpl nd fd
  cases hp : plainB (opAt l k) 9 with
  | false =>
    rw [hp] at kp
    have hn : againR l k = none := by unfold againR againAt; rw [hp, if_neg (by decide)]; rfl
    clear hp
    go_wp2_with (first | (go_at_call 46; (with_reducible refine kp.mono ?_); clear kp; rintro e w5 ⟨rfl, rfl⟩; dsimp only))
    go_ret
    exact ⟨T.low, _, rfl, .inl ⟨hn, rfl⟩⟩
  | true =>
    rw [hp] at kp
    have hag : againAt l k = knownL l (opAt l k).a k := by unfold againAt; rw [hp, if_pos rfl]
    replace hag : Hid _ := hag
    clear hp
    have kn := known_c h T.lg.ls T.lg.gr hk
    generalize knownL l (opAt l k).a k = r at *
    have y1 := T.bl.cell
    have hnil := run_eqNilN
    have hptr := run_eqNilP
    cases r with
    | none =>
      simp only [ptrO] at kn
      have hn : againR l k = none := by unfold againR; rw [hag.out]; rfl
      clear hag
      go_upto_region 5 with (first | (go_at_call 46; (with_reducible refine kp.mono ?_); clear kp; rintro e w5 ⟨rfl, rfl⟩; dsimp only) | (go_at_call 47; (with_reducible refine kn.mono ?_); clear kn; rintro e w6 ⟨rfl, B6⟩; dsimp only))
      have hb6 := below_alloc w6 (.cells #[.pointer none] 62)
      have rv := Boxed.new w6 62 (.pointer none)
      have T6 := (T.grow B6).grow hb6
      go_wp2
      go_ret
      exact ⟨T6.low, _, rfl, .inl ⟨hn, rfl⟩⟩
    | some v =>
      simp only [ptrO] at kn
      go_upto_region 5 with (first | (go_at_call 46; (with_reducible refine kp.mono ?_); clear kp; rintro e w5 ⟨rfl, rfl⟩; dsimp only) | (go_at_call 47; (with_reducible refine kn.mono ?_); clear kn; rintro e w6 ⟨rfl, B6⟩; dsimp only))
      have hb6 := below_alloc w6 (.cells #[ptr (idAt ids v) 0] 62)
      have rv := Boxed.new w6 62 (ptr (idAt ids v) 0)
      have T6 := (T.grow B6).grow hb6
      have hd := againD_c h T6.lg hk hag.out T6.bl T6.bf rv
      clear hb6
      generalize w6.alloc (.cells #[ptr (idAt ids v) 0] 62) = w7 at *
      generalize w6.heap.size = bv at *
      have y2 := rv.cell
      have hs : againR l k = some (againDo l k v) := by unfold againR; rw [hag.out]; rfl
      clear hag T B6
      go_wp2
      go_ret
      exact ⟨T6.low, _, rfl, .inr ⟨_, hs, _, _, rfl, enters_of Try.func48 (by kernel_rfl) rfl, hd⟩⟩
end
end Go.Proofs.Ytilbnjldfgofmaa
