/- A load ahead of a store. -/
import Derived.Test.YtilbnjldfgofmaaZp
namespace Go.Proofs.Ytilbnjldfgofmaa
open Go.RowKit
set_option linter.unusedVariables false
set_option linter.unusedSimpArgs false
set_option maxRecDepth 8000

section
variable {pc words el : Int} {l : List Opr} {ids : List Nat} {w : World} {p g cap bl ba bn : Nat}
theorem differI_c (h : rightB pc words el l = true) (G : Gr ids l w) {x y : Int} (hx0 : 0 ≤ x) (hx : x.toNat < l.length) (hy0 : 0 ≤ y) (hy : y.toNat < l.length) : Calls Try.prog 53 #[ptr (idAt ids x.toNat) 0, ptr (idAt ids y.toNat) 0] w fun e w' => e = .returned (.bool (differB l x y)) ∧ ∃ n, w' = w.drewN n := by
  have := differ_c h G hx hy
  rwa [Int.toNat_of_nonneg hx0, Int.toNat_of_nonneg hy0] at this
set_option maxHeartbeats 2000000 in
theorem aheadD_c (h : rightB pc words el l = true) (H : LG w p g cap ids l) {k j : Nat} (hk : k < l.length) (e : aheadAt l k = some j) (hl : Boxed w bl 50 (ptr p 0)) (ha : Boxed w ba 3 (vI k)) (hn : Boxed w bn 3 (vI j)) :
    Calls Try.prog 54 #[ptr bl 0, ptr ba 0, ptr bn 0] w (Done w p g cap ids (aheadDo l k j)) := by
  obtain ⟨a1, a2, a3, a4, a5, a6, a7, a8, -, -⟩ := ahead_some h hk e
  have hT := aheadT h hk e
  have hlen : Hid (ids.length = l.length) := H.gr.len
  have kp := pull_c h H.ls H.gr (k := k) (j := j) (by omega) (by omega)
  have zl := hl.cell
  have za := ha.cell
  have zn := hn.cell
  have hD : ∀ w', Ls w' p g cap ((moveP l k j).map (idAt ids)) → Goes (fun b => b = g) w w' → ∃ ids', LG w' p g cap ids' (aheadDo l k j) ∧ (∀ i ∈ ids', i ∈ ids) ∧ Goes (OwnL p g ids) w w' := fun w' L1 hg => by
    have G1 : Gr ids l w' := H.gr.goesPG H.ls (hg.mono (fun b _ q => .inr q))
    refine ⟨_, ⟨L1, G1.pick h hT⟩, fun y hy => ?_, hg.mono (fun b _ q => .inr (.inl q))⟩
    obtain ⟨i, hi, rfl⟩ := List.mem_map.1 hy
    exact idAt_mem (by have := (mem_move (by omega) (by omega)).1 hi; have := hlen.out; omega)
  go_enter Try.func54, Try.ntmps54
  go_wp2_with (first | (go_at_call 52; (with_reducible refine kp.mono ?_); clear kp; rintro e w2 ⟨⟨u, rfl⟩, L2, G2⟩; dsimp only))
  go_end0
  exact ⟨⟨_, rfl⟩, hD _ L2 G2⟩
set_option maxHeartbeats 4000000 in
theorem ahead_c (h : rightB pc words el l = true) (H : LG w p g cap ids l) {k : Nat} (hk : k < l.length) :
    Calls Try.prog 29 #[ptr p 0, vI k] w (Told aheadR w p g cap ids l k) := by
  have hlen : Hid (ids.length = l.length) := H.gr.len
  have hb0 := below_alloc w (.cells #[ptr p 0] 50)
  have r0 := Boxed.new w 50 (ptr p 0)
  have hb1 := below_alloc (w.alloc (.cells #[ptr p 0] 50)) (.cells #[vI k] 3)
  have r1 := Boxed.new (w.alloc (.cells #[ptr p 0] 50)) 3 (vI k)
  have H0 := (H.grow hb0).grow hb1
  have rl := r0.grow hb1
  have hlow := below_then hb0 (Nat.le_refl _) hb1
  have hmf : ∀ (fn : Fn) (first cap : Array Value) (w : World), (Instr.makeFunc fn first cap).run Try.prog w = .ok (.func fn first cap) w := fun _ _ _ _ => rfl
  clear hb0 r0 hb1
  go_enter Try.func29, Try.ntmps29
  go_upto_region 1 with fail
  generalize (w.alloc (.cells #[ptr p 0] 50)).alloc (.cells #[vI k] 3) = w1 at *
  rw [World.size_alloc] at r1
  obtain ⟨bl, hbl⟩ : ∃ bl, bl = w.heap.size := ⟨_, rfl⟩
  obtain ⟨ba, hba⟩ : ∃ ba, ba = w.heap.size + 1 := ⟨_, rfl⟩
  rw [← hba] at r1 ⊢
  rw [← hbl] at rl ⊢
  clear hbl hba
  have hkl : k < ids.length := by have := hlen.out; omega
  have hki : (k : Int) < ids.length := by omega
  have y1 := rl.cell
  have y2 := r1.cell
  have y3 := H0.ls.boxc
  have y4 := H0.ls.cell hkl
  go_quiet (fail)
  have hdr := below_drewN (Below.refl _ w1) (n := nq)
  have H4 := H0.grow hdr
  have rl4 := rl.grow hdr
  have ra4 := r1.grow hdr
  have hlow4 := below_then hlow (Nat.le_refl _) hdr
  clear hdr H0 rl r1 hlow y1 y2 y3 y4
  generalize w1.drewN nq = w4 at *
  clear w1
  have kp := plainL_c H4.gr hk 10
  cases hp : plainB (opAt l k) 10 with
  | false =>
    rw [hp] at kp
    have hn : aheadR l k = none := by unfold aheadR aheadAt; rw [if_neg (fun q => by rw [hp] at q; cases q.1)]; rfl
    clear hp
    go_wp2_with (first | (go_at_call 46; (with_reducible refine kp.mono ?_); clear kp; rintro e w5 ⟨rfl, rfl⟩; dsimp only))
    go_ret
    exact ⟨hlow4, _, rfl, .inl ⟨hn, rfl⟩⟩
  | true =>
    rw [hp] at kp
    have hin := inner_k h hk (.inr (.inl (plain_k hp).1))
    obtain ⟨n1, n2, n3, n4⟩ := next_loud h hin.2
    have hm : Hid (aheadAt l k = if plainB (opAt l (nextK loudK l k)) 9 = true ∧ differB l (opAt l k).a (opAt l (nextK loudK l k)).a = true then some (nextK loudK l k) else none) := by
      show aheadAt l k = _
      unfold aheadAt
      by_cases q : plainB (opAt l (nextK loudK l k)) 9 = true ∧ differB l (opAt l k).a (opAt l (nextK loudK l k)).a = true
      · rw [if_pos ⟨hp, q⟩, if_pos q]
      · rw [if_neg (fun e => q e.2), if_neg q]
    have kn := nextLoud_c h H4.ls H4.gr hin.2
    generalize nextK loudK l k = j at *
    clear n3 n4 hp
    have y3 := rl4.cell
    have y4 := ra4.cell
    go_upto_region 5 with (first | (go_at_call 46; (with_reducible refine kp.mono ?_); clear kp; rintro e w5 ⟨rfl, rfl⟩; dsimp only) | (go_at_call 42; (with_reducible refine kn.mono ?_); clear kn; rintro e w6 ⟨rfl, B6⟩; dsimp only))
    have hb6 := below_alloc w6 (.cells #[vI j] 3)
    have rn := Boxed.new w6 3 (vI j)
    have hB7 := below_then B6 (Nat.le_refl _) hb6
    have H7 := H4.grow hB7
    have rl7 := rl4.grow hB7
    have ra7 := ra4.grow hB7
    have hlow7 := below_then hlow4 (Nat.le_refl _) hB7
    clear hB7 hb6 B6 H4 rl4 ra4 hlow4 y3 y4
    generalize w6.alloc (.cells #[vI j] 3) = w7 at *
    generalize w6.heap.size = bn at *
    clear w6 w5
    have hji : (j : Int) < ids.length := by have := hlen.out; omega
    have y3 := rl7.cell
    have y4 := rn.cell
    have y5 := H7.ls.boxc
    have y6 := H7.ls.cell (k := j) (by have := hlen.out; omega)
    go_quiet (fail)
    have hdr := below_drewN (Below.refl _ w7) (n := nq)
    have H8 := H7.grow hdr
    have rl8 := rl7.grow hdr
    have ra8 := ra7.grow hdr
    have rn8 := rn.grow hdr
    have hlow8 := below_then hlow7 (Nat.le_refl _) hdr
    clear hdr H7 rl7 ra7 rn hlow7 y3 y4 y5 y6
    generalize w7.drewN nq = w8 at *
    clear w7
    go_upto_region 6 with fail
    obtain ⟨dj, nj, fj⟩ := H8.gr.node j n2
    obtain ⟨dk, nk, fk⟩ := H8.gr.node k hk
    have c6 := nj.c6
    have d6 := nk.c6
    rw [fj.a] at c6
    rw [fk.a] at d6
    have hbj := ab_lt h n2
    have hbk := ab_lt h hk
    have kd := fun n => differI_c h (H8.gr.drew n) hbk.1 hbk.2.1 hbj.1 hbj.2.1
    have kj := fun n => plainL_c (H8.gr.drew n) n2 9
    clear nj nk fj fk hbj hbk
    cases hq : plainB (opAt l j) 9 with
    | false =>
      rw [hq] at kj
      have hn : aheadR l k = none := by unfold aheadR; rw [hm.out, if_neg (fun q => by rw [hq] at q; cases q.1)]; rfl
      clear hm hq kd
      go_quiet (first | (go_at_call 46; with_reducible exact Calls.quiet_of_same (kj _)))
      go_wp2
      go_ret
      exact ⟨below_then hlow8 (Nat.le_refl _) (below_drewN (Below.refl _ w8)), _, rfl, .inl ⟨hn, rfl⟩⟩
    | true =>
      rw [hq] at kj
      cases hA : differB l (opAt l k).a (opAt l j).a with
      | true =>
        have ho : aheadAt l k = some j := by rw [hm.out, if_pos ⟨hq, hA⟩]
        have hs : aheadR l k = some (aheadDo l k j) := by unfold aheadR; rw [ho]; rfl
        rw [hA] at kd
        clear hm hq hA
        go_quiet (first | (go_at_call 46; with_reducible exact Calls.quiet_of_same (kj _)) | (go_at_call 53; with_reducible exact Calls.quiet_of (kd _)))
        have hdr := below_drewN (Below.refl _ w8) (n := nq)
        have hd := aheadD_c h (H8.grow hdr) hk ho (rl8.grow hdr) (ra8.grow hdr) (rn8.grow hdr)
        have hlow9 := below_then hlow8 (Nat.le_refl _) hdr
        clear hdr kd kj
        generalize w8.drewN nq = w9 at *
        go_wp2
        go_ret
        exact ⟨hlow9, _, rfl, .inr ⟨_, hs, _, _, rfl, enters_of Try.func54 (by kernel_rfl) rfl, hd⟩⟩
      | false =>
        have hn : aheadR l k = none := by unfold aheadR; rw [hm.out, if_neg (fun q => by rw [hA] at q; cases q.2)]; rfl
        rw [hA] at kd
        clear hm hq hA
        go_quiet (first | (go_at_call 46; with_reducible exact Calls.quiet_of_same (kj _)) | (go_at_call 53; with_reducible exact Calls.quiet_of (kd _)))
        go_wp2
        go_ret
        exact ⟨below_then hlow8 (Nat.le_refl _) (below_drewN (Below.refl _ w8)), _, rfl, .inl ⟨hn, rfl⟩⟩
end
end Go.Proofs.Ytilbnjldfgofmaa
