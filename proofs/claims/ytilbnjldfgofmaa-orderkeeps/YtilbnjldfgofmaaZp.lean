/- A store that is stored over. -/
import Derived.Test.YtilbnjldfgofmaaZo
namespace Go.Proofs.Ytilbnjldfgofmaa
open Go.RowKit
set_option linter.unusedVariables false
set_option linter.unusedSimpArgs false
set_option maxRecDepth 8000

section
variable {pc words el : Int} {l : List Opr} {ids : List Nat} {w : World} {p g cap bl bf ba bn : Nat}
theorem Gr.isA (G : Gr ids l w) : ∀ y ∈ ids, Is w y := fun y hy => by
  obtain ⟨k, hk⟩ := List.getElem?_of_mem hy
  have hkl : k < ids.length := (List.getElem?_eq_some_iff.1 hk).1
  have e : idAt ids k = y := by rw [idAt_some hkl] at hk; exact Option.some.inj hk
  obtain ⟨d, nd, -⟩ := G.node k (by have := G.len; omega)
  rw [e] at nd
  exact ⟨d, nd⟩
theorem plain_eq {ids : List Nat} {o : Opr} {d : Nd} (f : Fits ids o d) (n : Int) : (decide (d.op.kind = n) && decide (d.op.order = 0)) = plainB o n := by
  unfold plainB
  rw [f.kind, f.order]
  simp [Bool.beq_eq_decide_eq]
theorem plainL_c (G : Gr ids l w) {k : Nat} (hk : k < l.length) (n : Int) : Calls Try.prog 46 #[ptr (idAt ids k) 0, vI n] w fun e w' => e = .returned (.bool (plainB (opAt l k) n)) ∧ w' = w := by
  obtain ⟨d, nd, fd⟩ := G.node k hk
  have := isPlain_c nd n
  rwa [plain_eq fd] at this
set_option maxHeartbeats 2000000 in
theorem overD_c (h : rightB pc words el l = true) (H : LG w p g cap ids l) {k j : Nat} (hk : k < l.length) (e : overAt l k = some j) (hl : Boxed w bl 50 (ptr p 0)) (ha : Boxed w ba 3 (vI k)) (hn : Boxed w bn 3 (vI j)) (hf : Boxed w bf 62 (ptr (idAt ids k) 0)) (hfg : bf ≠ g) :
    Calls Try.prog 51 #[ptr bl 0, ptr ba 0, ptr bn 0, ptr bf 0] w (Done w p g cap ids (overDo l k j)) := by
  obtain ⟨a1, a2, a3, a4, a5, a6, a7, a8, -, -⟩ := over_some h hk e
  have hT := overT h hk e
  have hlen : Hid (ids.length = l.length) := H.gr.len
  have kp := pull_c h H.ls H.gr (k := k) (j := j) (by omega) (by omega)
  have zl := hl.cell
  have za := ha.cell
  have zn := hn.cell
  obtain ⟨R0, hR0, -⟩ := H.ls.row
  have hlg : bl ≠ g := fun q => by subst q; exact ne_of_type hl hR0 (by decide) rfl
  have hmem : idAt ids k ∈ (moveP l k j).map (idAt ids) := List.mem_map.2 ⟨k, (mem_move (by omega) (by omega)).2 (by omega), rfl⟩
  have hnd1 : ((moveP l k j).map (idAt ids)).Nodup := map_nd H.gr.nd (move_nd (by omega)) (fun i hi => by have := (mem_move (by omega) (by omega)).1 hi; have := hlen.out; omega)
  have her : ((moveP l k j).map (idAt ids)).erase (idAt ids k) = (overP l k j).map (idAt ids) := map_erase H.gr.nd (move_nd (by omega)) (fun i hi => by have := (mem_move (by omega) (by omega)).1 hi; have := hlen.out; omega) (by have := hlen.out; omega)
  have hsub : ∀ y ∈ (moveP l k j).map (idAt ids), y ∈ ids := fun y hy => by
    obtain ⟨i, hi, rfl⟩ := List.mem_map.1 hy
    exact idAt_mem (by have := (mem_move (by omega) (by omega)).1 hi; have := hlen.out; omega)
  have kt : ∀ w', Ls w' p g cap ((moveP l k j).map (idAt ids)) → Goes (fun b => b = g) w w' → Calls Try.prog 45 #[ptr p 0, ptr (idAt ids k) 0] w' (Done w p g cap ids (overDo l k j)) := fun w' L1 hg => by
    have G1 : Gr ids l w' := H.gr.goesPG H.ls (hg.mono (fun b _ q => .inr q))
    refine (take_c (ids0 := ids) (l := l) L1 (fun y hy => G1.isA y (hsub y hy)) hmem hnd1).mono ?_
    rintro e w3 ⟨hu, L3, G3⟩
    rw [her] at L3
    refine ⟨hu, _, ⟨L3, (G1.goesPG L1 G3).pick h hT⟩, fun y hy => ?_, (hg.mono (fun b _ q => .inr (.inl q)) : Goes (OwnL p g ids) _ _).trans (G3.mono (fun b _ q => by rcases q with q | q; exact .inl q; exact .inr (.inl q)) : Goes (OwnL p g ids) _ _) (fun _ _ q => q)⟩
    obtain ⟨i, hi, rfl⟩ := List.mem_map.1 hy
    exact hsub _ (List.mem_map.2 ⟨i, (List.mem_filter.1 hi).1, rfl⟩)
  clear her hmem hnd1 hsub
  go_enter Try.func51, Try.ntmps51
  go_wp2_with (first | (go_at_call 52; (with_reducible refine kp.mono ?_); clear kp; rintro e w2 ⟨⟨u, rfl⟩, L2, G2⟩; dsimp only; replace zl : w2.cell? ⟨bl, 0, none⟩ = some (ptr p 0) := Boxed.cell ((G2.block bl (lt_of_some hl) hlg).trans hl); have zf : w2.cell? ⟨bf, 0, none⟩ = some (ptr (idAt ids k) 0) := Boxed.cell ((G2.block bf (lt_of_some hf) hfg).trans hf); replace kt := kt w2 L2 G2) | (go_at_call 45; (with_reducible refine kt.mono ?_); clear kt; rintro e w3 ⟨⟨u, rfl⟩, hD⟩; dsimp only))
  go_end0
  exact ⟨⟨_, rfl⟩, hD⟩
set_option maxHeartbeats 4000000 in
theorem over_c (h : rightB pc words el l = true) (H : LG w p g cap ids l) {k : Nat} (hk : k < l.length) :
    Calls Try.prog 28 #[ptr p 0, vI k] w (Told overR w p g cap ids l k) := by
  have hlen : Hid (ids.length = l.length) := H.gr.len
  have hb0 := below_alloc w (.cells #[ptr p 0] 50)
  have r0 := Boxed.new w 50 (ptr p 0)
  have hb1 := below_alloc (w.alloc (.cells #[ptr p 0] 50)) (.cells #[vI k] 3)
  have r1 := Boxed.new (w.alloc (.cells #[ptr p 0] 50)) 3 (vI k)
  have H0 := (H.grow hb0).grow hb1
  have rl := r0.grow hb1
  have hlow := below_then hb0 (Nat.le_refl _) hb1
  have hmf : ∀ (fn : Fn) (first cap : Array Value) (w : World), (Instr.makeFunc fn first cap).run Try.prog w = .ok (.func fn first cap) w := fun _ _ _ _ => rfl
  clear hb0 r0 hb1
  go_enter Try.func28, Try.ntmps28
  go_upto_region 1 with fail
  generalize (w.alloc (.cells #[ptr p 0] 50)).alloc (.cells #[vI k] 3) = w1 at *
  rw [World.size_alloc] at r1
  obtain ⟨bl, hbl⟩ : ∃ bl, bl = w.heap.size := ⟨_, rfl⟩
  obtain ⟨ba, hba⟩ : ∃ ba, ba = w.heap.size + 1 := ⟨_, rfl⟩
  rw [← hba] at r1 ⊢
  rw [← hbl] at rl ⊢
  clear hbl hba
  have hkl : k < ids.length := by have := hlen.out; omega
  have hki : (k : Int) < ids.length := by omega
  obtain ⟨R0, hR0, -⟩ := H0.ls.row
  have hgw : g < w1.heap.size := lt_of_some hR0
  clear hR0
  refine Rel.wp_region_tail 8 Rel.Grows (fun x => Below w1.heap.size w1 x) [.inl (ptr p 0), .inl (ptr p 0), .inl (ptr p 0), .inl (.slice (some ⟨g, 0, none⟩) ids.length cap), .inl (vI k), .inl (ptr g k), .inl (ptr (idAt ids k) 0), .inr (NewP w1.heap.size 62 (.pointer none))] (by kernel_rfl) (by kernel_rfl) (fun x y hx hxy => below_then hx (Nat.le_refl _) hxy) (below_dr w1) (by intro k hk; simp only [List.mem_cons, List.not_mem_nil, or_false] at hk; rcases hk with rfl | rfl | rfl | rfl | rfl | rfl | rfl | rfl <;> first | trivial | exact newP_up _ _ _) ?_
  refine ⟨fun w6 hC hF => by have zz := (rl.grow hC).cell; go_simp; exact Below.refl _ _, ?_⟩
  simp only [Act.put, List.setIfInBounds_toArray, List.set_cons_succ, List.set_cons_zero]
  refine ⟨fun w6 hC hF => by go_simp; exact Below.refl _ _, ?_⟩
  simp only [Act.put, List.setIfInBounds_toArray, List.set_cons_succ, List.set_cons_zero]
  refine ⟨fun w6 hC hF => by go_simp; exact Below.refl _ _, ?_⟩
  simp only [Act.put, List.setIfInBounds_toArray, List.set_cons_succ, List.set_cons_zero]
  refine ⟨fun w6 hC hF => by have zz := (H0.grow hC).ls.boxc; go_simp; exact Below.refl _ _, ?_⟩
  simp only [Act.put, List.setIfInBounds_toArray, List.set_cons_succ, List.set_cons_zero]
  refine ⟨fun w6 hC hF => by have zz := (r1.grow hC).cell; go_simp; exact Below.refl _ _, ?_⟩
  simp only [Act.put, List.setIfInBounds_toArray, List.set_cons_succ, List.set_cons_zero]
  refine ⟨fun w6 hC hF => by go_simp; exact Below.refl _ _, ?_⟩
  simp only [Act.put, List.setIfInBounds_toArray, List.set_cons_succ, List.set_cons_zero]
  refine ⟨fun w6 hC hF => by have zz := (H0.grow hC).ls.cell hkl; go_simp; exact Below.refl _ _, ?_⟩
  simp only [Act.put, List.setIfInBounds_toArray, List.set_cons_succ, List.set_cons_zero]
  refine ⟨fun w6 hC hF => by go_simp; exact ⟨below_alloc _ _, _, rfl, Boxed.new w6 62 (.pointer none), hC.size⟩, fun u => ?_⟩
  simp only [Act.put, List.setIfInBounds_toArray, List.set_cons_succ, List.set_cons_zero]
  intro w3 hC hF
  have hnew : NewP w1.heap.size 62 (.pointer none) u w3 := (hF 7).1 rfl
  obtain ⟨bf, rfl, hbo, hbl⟩ := hnew
  simp only [List.drop_succ_cons, List.drop_zero]
  have y1 := hbo.cell
  have y2 := hbo.frz 0
  have hB4 : Below w1.heap.size w1 (w3.setCell ⟨bf, 0, none⟩ (ptr (idAt ids k) 0)) := below_cell hC hbl
  have H4 := H0.grow hB4
  have rl4 := rl.grow hB4
  have ra4 := r1.grow hB4
  have rf4 := hbo.set (ptr (idAt ids k) 0)
  have hlow4 := below_then hlow (Nat.le_refl _) hB4
  have hfg : bf ≠ g := by omega
  clear hF hC hbo hbl hB4 H0 rl r1 hlow hgw
  go_upto_region 2 with fail
  generalize w3.setCell ⟨bf, 0, none⟩ (ptr (idAt ids k) 0) = w4 at *
  clear y1 y2 w1
  have y0 := rf4.cell
  have kp := plainL_c H4.gr hk 10
  cases hp : plainB (opAt l k) 10 with
  | false =>
    rw [hp] at kp
    have hn : overR l k = none := by unfold overR overAt; rw [if_neg (fun q => by rw [hp] at q; cases q.1)]; rfl
    clear hp
    go_wp2_with (first | (go_at_call 46; (with_reducible refine kp.mono ?_); clear kp; rintro e w5 ⟨rfl, rfl⟩; dsimp only))
    go_ret
    exact ⟨hlow4, _, rfl, .inl ⟨hn, rfl⟩⟩
  | true =>
    rw [hp] at kp
    have hin := inner_k h hk (.inr (.inl (plain_k hp).1))
    obtain ⟨n1, n2, n3, n4⟩ := next_loud h hin.2
    have hm : Hid (overAt l k = if plainB (opAt l (nextK loudK l k)) 10 = true ∧ (opAt l (nextK loudK l k)).a = (opAt l k).a then some (nextK loudK l k) else none) := by
      show overAt l k = _
      unfold overAt
      by_cases q : plainB (opAt l (nextK loudK l k)) 10 = true ∧ (opAt l (nextK loudK l k)).a = (opAt l k).a
      · rw [if_pos ⟨hp, q⟩, if_pos q]
      · rw [if_neg (fun e => q e.2), if_neg q]
    have kn := nextLoud_c h H4.ls H4.gr hin.2
    generalize nextK loudK l k = j at *
    clear n3 n4 hp
    have y3 := rl4.cell
    have y4 := ra4.cell
    go_upto_region 5 with (first | (go_at_call 46; (with_reducible refine kp.mono ?_); clear kp; rintro e w5 ⟨rfl, rfl⟩; dsimp only) | (go_at_call 42; (with_reducible refine kn.mono ?_); clear kn; rintro e w6 ⟨rfl, B6⟩; dsimp only))
    have hb6 := below_alloc w6 (.cells #[vI j] 3)
    have rn := Boxed.new w6 3 (vI j)
    have hB7 := below_then B6 (Nat.le_refl _) hb6
    have H7 := H4.grow hB7
    have rl7 := rl4.grow hB7
    have ra7 := ra4.grow hB7
    have rf7 := rf4.grow hB7
    have hlow7 := below_then hlow4 (Nat.le_refl _) hB7
    clear hB7 hb6 B6 H4 rl4 ra4 rf4 hlow4 y0 y3 y4
    generalize w6.alloc (.cells #[vI j] 3) = w7 at *
    generalize w6.heap.size = bn at *
    clear w6 w5
    have hji : (j : Int) < ids.length := by have := hlen.out; omega
    have y3 := rl7.cell
    have y4 := rn.cell
    have y5 := H7.ls.boxc
    have y6 := H7.ls.cell (k := j) (by have := hlen.out; omega)
    go_quiet (fail)
    have hdr := below_drewN (Below.refl _ w7) (n := nq)
    have H8 := H7.grow hdr
    have rl8 := rl7.grow hdr
    have ra8 := ra7.grow hdr
    have rf8 := rf7.grow hdr
    have rn8 := rn.grow hdr
    have hlow8 := below_then hlow7 (Nat.le_refl _) hdr
    clear hdr H7 rl7 ra7 rf7 rn hlow7 y3 y4 y5 y6
    generalize w7.drewN nq = w8 at *
    clear w7
    go_upto_region 6 with fail
    obtain ⟨dj, nj, fj⟩ := H8.gr.node j n2
    obtain ⟨dk, nk, fk⟩ := H8.gr.node k hk
    have c6 := nj.c6
    have d6 := nk.c6
    have hbj := ab_lt h n2
    have hbk := ab_lt h hk
    have kne : ∀ n, (binOp .neq 62 (ptr dj.pa 0) (ptr dk.pa 0)).run Try.prog (w8.drewN n) = .ok (.bool (!decide ((opAt l j).a = (opAt l k).a))) (w8.drewN n) := fun n => by
      have q := run_neP (w := w8.drewN n) (a := dj.pa) (b := dk.pa) (by rw [fj.a]; exact (H8.gr.is hbj.2.1).drew n) (by rw [fk.a]; exact (H8.gr.is hbk.2.1).drew n)
      have e : decide (dj.pa = dk.pa) = decide ((opAt l j).a = (opAt l k).a) := by
        rw [fj.a, fk.a]
        have := id_beq H8.gr hbj.1 hbj.2.1 hbk.1 hbk.2.1
        simpa [Bool.beq_eq_decide_eq] using this
      rwa [e] at q
    have kj := fun n => plainL_c (H8.gr.drew n) n2 10
    have y0 := rf8.cell
    clear nj nk fj fk hbj hbk
    cases hq : plainB (opAt l j) 10 with
    | false =>
      rw [hq] at kj
      have hn : overR l k = none := by unfold overR; rw [hm.out, if_neg (fun q => by rw [hq] at q; cases q.1)]; rfl
      clear hm hq kne
      go_quiet (first | (go_at_call 46; with_reducible exact Calls.quiet_of_same (kj _)))
      go_wp2
      go_ret
      exact ⟨below_then hlow8 (Nat.le_refl _) (below_drewN (Below.refl _ w8)), _, rfl, .inl ⟨hn, rfl⟩⟩
    | true =>
      rw [hq] at kj
      by_cases hA : (opAt l j).a = (opAt l k).a
      · have ho : overAt l k = some j := by rw [hm.out, if_pos ⟨hq, hA⟩]
        have hs : overR l k = some (overDo l k j) := by unfold overR; rw [ho]; rfl
        rw [decide_eq_true hA] at kne
        clear hm hq hA
        go_quiet (first | (go_at_call 46; with_reducible exact Calls.quiet_of_same (kj _)))
        have hdr := below_drewN (Below.refl _ w8) (n := nq)
        have hd := overD_c h (H8.grow hdr) hk ho (rl8.grow hdr) (ra8.grow hdr) (rn8.grow hdr) (rf8.grow hdr) hfg
        have hlow9 := below_then hlow8 (Nat.le_refl _) hdr
        clear hdr kne kj
        generalize w8.drewN nq = w9 at *
        go_wp2
        go_ret
        exact ⟨hlow9, _, rfl, .inr ⟨_, hs, _, _, rfl, enters_of Try.func51 (by kernel_rfl) rfl, hd⟩⟩
      · have hn : overR l k = none := by unfold overR; rw [hm.out, if_neg (fun q => hA q.2)]; rfl
        rw [decide_eq_false hA] at kne
        clear hm hq hA
        go_quiet (first | (go_at_call 46; with_reducible exact Calls.quiet_of_same (kj _)))
        go_wp2
        go_ret
        exact ⟨below_then hlow8 (Nat.le_refl _) (below_drewN (Below.refl _ w8)), _, rfl, .inl ⟨hn, rfl⟩⟩
end
end Go.Proofs.Ytilbnjldfgofmaa
