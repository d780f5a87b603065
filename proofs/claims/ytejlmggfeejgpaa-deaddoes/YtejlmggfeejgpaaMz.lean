/- DeadDoes: the walk. -/
import Derived.Test.YtejlmggfeejgpaaMw
import Derived.StillTactics
import Derived.StillTailTactics
namespace Go.Proofs.Ytejlmggfeejgpaa
open Go.RowKit
set_option linter.unusedVariables false
set_option linter.unusedSimpArgs false
set_option maxRecDepth 8000

theorem bl_c3m {x : World} {t : Nat} {pc words el : Int} {v : Value} (h : x.heap[t]? = some (.cells (blA pc words el v) 25)) : x.cell? ⟨t, 3, none⟩ = some v := by rw [cell_of_row _ _ _ _ _ _ h]; rfl
section
variable {w : World} {pc words el : Int} {v vz : Value} {l : List Opr} {c : Cor} {z : List Gt}
/-- What DeadDoes holds ahead of its runs. -/
structure DdW (w : World) (pc words el : Int) (v : Value) (l : List Opr) (c : Cor) (b1 b2 : Nat) (x : World) : Prop where
  r1 : x.heap[b1]? = some (.cells (blA pc words el v) 25)
  r2 : x.heap[b2]? = some (.cells c.cells 43)
  ops : Ops x v l
  below : Below w.heap.size w x
theorem DdW.grow {b1 b2 : Nat} {x y : World} (h : DdW w pc words el v l c b1 b2 x) (hb : Below x.heap.size x y) : DdW w pc words el v l c b1 b2 y :=
  ⟨keepRow h.r1 hb, keepRow h.r2 hb, h.ops.grow hb, below_then h.below (Nat.le_refl _) hb⟩
theorem newE_right (h : rightB pc words el l = true) (hu : ∀ k, U64 (opAt l k).imm) (c : Cor) : (newE pc words el l c = 0 ∧ newE pc words el (deadL l) c = 0) ∨ (newE pc words el l c = 1 ∧ newE pc words el (deadL l) c = 1) := by
  obtain ⟨rm, _, _⟩ := dead_right h hu
  unfold newE
  rw [h, rm, if_pos rfl]
  by_cases hc : rightC c = true ∧ c.el = el
  · left; rw [if_pos hc]; exact ⟨rfl, rfl⟩
  · right; rw [if_neg hc]; exact ⟨rfl, rfl⟩
theorem right_el (h : rightB pc words el l = true) : el = 0 ∨ el = 1 := by
  unfold rightB headB at h
  simp only [Bool.and_eq_true, Bool.or_eq_true, beq_iff_eq] at h
  exact h.1.1.1.1.2
set_option maxHeartbeats 32000000 in
theorem does_walk (G : Gots w vz z) (hpc : 0 ≤ pc) (O : Ops w v l) (hu : ∀ k, U64 (opAt l k).imm) (hcap : ∀ ao n cap, v = .slice ao n cap → n ≤ cap) (hc : CorOk c) : Calls Try.prog 4 #[blV pc words el v, c.val, vz] w fun e w' => e = .returned (.bool true) ∧ Below w.heap.size w w' := by
  have N0 : DdW w pc words el v l c w.heap.size (w.heap.size + 1) ((w.alloc (.cells (blA pc words el v) 25)).alloc (.cells c.cells 43)) := by
    have hb := below_alloc w (.cells (blA pc words el v) 25)
    have hb2 := below_alloc (w.alloc (.cells (blA pc words el v) 25)) (.cells c.cells 43)
    refine ⟨keepRow (heap_alloc_new _ _) hb2, ?_, (O.grow hb).grow hb2, below_then hb (Nat.le_refl _) hb2⟩
    have := heap_alloc_new (w.alloc (.cells (blA pc words el v) 25)) (.cells c.cells 43)
    rw [World.size_alloc] at this; exact this
  have farw : 0 < l.length → ∀ ra n cap, v = .slice (some ra) n cap → ra.block < w.heap.size := fun h0 => ops_far O h0
  clear O
  obtain ⟨zo, zc, rfl⟩ := G.len
  go_enter Try.func4, Try.ntmps4
  go_upto_region 1 with fail
  generalize (w.alloc (.cells (blA pc words el v) 25)).alloc (.cells c.cells 43) = w2 at *
  generalize w.heap.size + 1 = b2 at *
  generalize hbb : w.heap.size = b1 at N0
  clear hbb
  go_upto_region 2 with (first | (go_at_call 6; (with_reducible refine (examples_c _).mono ?_); rintro e w3 ⟨rfl, B⟩; dsimp only; have N := N0.grow B; clear N0 B))
  have kb := block_c (words := words) (el := el) hpc N.ops hu hcap
  have r1 := N.r1
  cases hR : rightB pc words el l with
  | false =>
    replace hR := show Hid _ from hR
    go_upto_region 3 with (first | ((with_reducible refine wpList_load_if rfl 25 _ rfl _ rfl 25 _ (0, 0) _ r1 Try.underlying25 rfl (bl_inf _ _ _ _) ?_); simp only [Act.put, List.setIfInBounds_toArray, List.set_cons_succ, List.set_cons_zero]) | (go_at_call 10; (with_reducible refine kb.mono ?_); clear kb; rintro e w7 ⟨B, ⟨hr, rfl⟩ | ⟨hr, _⟩⟩; rotate_left; (exfalso; rw [hR.out] at hr; cases hr); dsimp only; clear hr; have Hn := has_none w7) | ((with_reducible refine wpList_store_new Hn rfl 25 _ _ rfl (blA 0 0 0 (.slice none 0 0)) rfl rfl (bl_inf _ _ _ _) (by kernel_rfl) (blk_one _ _ _ _ rfl) ?_); clear Hn; intro w8 Hn; simp only [Act.put, List.setIfInBounds_toArray, List.set_cons_succ, List.set_cons_zero]))
    have hB := ((N.grow B).grow Hn.below).below
    clear N r1 B Hn
    go_wp2
    go_ret
    exact ⟨rfl, hB⟩
  | true =>
    obtain ⟨rm, hms, hml, hum⟩ := dead_right hR hu
    obtain ⟨h0, h512, -⟩ := right_lens hR
    obtain ⟨m0, m512, -⟩ := right_lens rm
    have hmm : (deadL l).length ≤ maxLen := by simp only [maxLen]; omega
    replace hR := show Hid _ from hR
    go_upto_region 3 with (first | ((with_reducible refine wpList_load_if rfl 25 _ rfl _ rfl 25 _ (0, 0) _ r1 Try.underlying25 rfl (bl_inf _ _ _ _) ?_); simp only [Act.put, List.setIfInBounds_toArray, List.set_cons_succ, List.set_cons_zero]) | (go_at_call 10; (with_reducible refine kb.mono ?_); clear kb; rintro e w7 ⟨B, ⟨hr, _⟩ | ⟨hr, u, rfl, hown⟩⟩; (exfalso; rw [hR.out] at hr; cases hr); dsimp only; clear hr; have Hn := has_none w7; have hone : u.oneCell' = true := (opsC_of hown hmm).one) | ((with_reducible refine wpList_store_new Hn rfl 25 _ _ rfl (blA pc words el u) rfl rfl (bl_inf _ _ _ _) (by kernel_rfl) (blk_one _ _ _ _ hone) ?_); clear Hn; intro w8 Hn; simp only [Act.put, List.setIfInBounds_toArray, List.set_cons_succ, List.set_cons_zero]))
    have r8 : w8.heap[w7.heap.size]? = some (.cells (blA pc words el u) 25) := Hn.get List.mem_cons_self
    have C1 := (opsC_of hown hmm).grow Hn.below
    replace N := (N.grow B).grow Hn.below
    clear B Hn r1 hown hone
    generalize w7.heap.size = b8 at *
    go_upto_region 5 with fail
    have r1 := N.r1
    have r2 := N.r2
    rcases newE_right hR.out hu c with ⟨h1, h2⟩ | ⟨h1, h2⟩
    · obtain ⟨R, Q, S⟩ := sim_all hR.out
      obtain ⟨fits1, last1⟩ := right_fits hR.out hu
      obtain ⟨fits2, last2⟩ := right_fits rm hum
      have hel := right_el hR.out
      obtain ⟨a1, c1, rfl⟩ := N.ops.len
      have k1 := newDY_c (words := words) hpc N.ops hu hcap hc h1
      have far1 := farw h0
      have far2 := ops_far C1.ops m0
      have hs8 := N.below.size
      clear farw
      go_upto_region 6 with (first | ((with_reducible refine wpList_load_if rfl 25 _ rfl _ rfl 25 _ (0, 0) _ r1 Try.underlying25 rfl (bl_inf _ _ _ _) ?_); simp only [Act.put, List.setIfInBounds_toArray, List.set_cons_succ, List.set_cons_zero]) | ((with_reducible refine wpList_load_if rfl 43 _ rfl _ rfl 43 _ (0, 0) _ r2 Try.underlying43 rfl (Cor.info _) ?_); simp only [Act.put, List.setIfInBounds_toArray, List.set_cons_succ, List.set_cons_zero]) | (go_at_call 15; (with_reducible refine k1.mono ?_); clear k1; rintro e x2 ⟨⟨g1, vb1, rfl, H1, hg1, hv1⟩, B⟩; dsimp only))
      replace N := N.grow B
      replace r8 := keepRow r8 B
      have hs2 := B.size
      have k2 := newDY_c (words := words) hpc (C1.ops.grow B) hum C1.cap hc h2
      clear B r1 r2 C1
      have r2 := N.r2
      have q1 := H1.lt
      have q2 := H1.ltv
      go_upto_region 7 with (first | ((with_reducible refine wpList_load_if rfl 25 _ rfl _ rfl 25 _ (0, 0) _ r8 Try.underlying25 rfl (bl_inf _ _ _ _) ?_); simp only [Act.put, List.setIfInBounds_toArray, List.set_cons_succ, List.set_cons_zero]) | ((with_reducible refine wpList_load_if rfl 43 _ rfl _ rfl 43 _ (0, 0) _ r2 Try.underlying43 rfl (Cor.info _) ?_); simp only [Act.put, List.setIfInBounds_toArray, List.set_cons_succ, List.set_cons_zero]) | (go_at_call 15; (with_reducible refine k2.mono ?_); clear k2; rintro e x3 ⟨⟨g2, vb2, rfl, H2, hg2, hv2⟩, B⟩; dsimp only))
      have C : Tq w pc words el (.slice a1 l.length c1) l u (deadL l) g1 vb1 g2 vb2 b1 (newD l.length c) (newD (deadL l).length c) x3 := by
        refine ⟨H1.grow B, H2, keepRow N.r1 B, (N.grow B).below, ⟨by omega, by omega, by omega, by omega⟩, ⟨by omega, by omega, by omega, by omega⟩, fun ra n cap e => ?_, fun ra n cap e => ?_⟩
        · have := far1 ra n cap e; exact ⟨by omega, by omega⟩
        · have := far2 ra n cap e; exact ⟨by omega, by omega⟩
      have R0 := S.first c
      generalize newD l.length c = D0 at *
      generalize newD (deadL l).length c = E0 at *
      clear r2 r8 B H1 H2 N hg1 hg2 hv1 hv2 q1 q2 hs2 hs8 far1 far2 h1 h2
      go_upto_region 9 with fail
      go_upto_region 10 with fail
      go_loopw [14] (fun s14 wr => ∃ (i : Nat) (D E : Dn), i ≤ l.length ∧ s14 = vI i ∧ R i D E ∧ Tq w pc words el (.slice a1 l.length c1) l u (deadL l) g1 vb1 g2 vb2 b1 D E wr) (fun s14 _ => ((l.length : Int) + 1 - intOf s14).toNat)
      case atStart => exact ⟨0, D0, E0, Nat.zero_le _, rfl, R0, C⟩
      case round =>
        clear C R0
        obtain ⟨i, D, E, hi, rfl, RR, C⟩ := hrel
        have z3 := bl_c3m C.row
        have hlt : (i : Int) ≤ l.length := by omega
        have k8 := dNext_c C.d1 hel fits1 last1 (S.inD RR)
        have k9 := fun x (H : DocAt pc words el u (deadL l) g2 vb2 E x) => dNext_c H hel fits2 last2 (S.inE RR)
        have X := S.next RR
        clear RR
        generalize dNext el l D = F at *
        generalize dNext el (deadL l) E = F' at *
        obtain ⟨ew, eo, ec, eq⟩ := S.out X
        have hle := S.le X
        have htk := S.take X
        rw [ew, eo] at k9
        have hWk : F.waits = true → outW F = F.w := fun q => by unfold outW; rw [if_pos q]
        generalize outW F = W at *
        replace ec := show Hid _ from ec
        replace eq := show Hid _ from eq
        replace X := show Hid _ from X
        replace hWk := show Hid _ from hWk
        replace hle := show Hid _ from hle
        replace htk := show Hid _ from htk
        clear eo
        cases hgo : F.waits with
        | false =>
          rw [hgo] at k8 k9
          have hec : F'.c = F.c := by
            rcases ec.out with q | q
            · rw [hgo] at q; cases q.1
            · exact q
          obtain ⟨q1, q2, q3⟩ := eq.out hgo
          clear ec eq X hle htk hWk
          replace hec := show Hid _ from hec
          replace q1 := show Hid _ from q1
          replace q2 := show Hid _ from q2
          replace q3 := show Hid _ from q3
          go_upto_region 13 with (first | (go_at_call 16; (with_reducible refine k8.mono ?_); clear k8; rintro e x4 ⟨rfl, R4⟩; dsimp only; have Hn := has_none x4) | ((with_reducible refine wpList_store_new Hn rfl 49 _ _ rfl (wnA W) rfl rfl (wn_inf _) (by kernel_rfl) (wn_one _) ?_); clear Hn; intro x5 Hn; simp only [Act.put, List.setIfInBounds_toArray, List.set_cons_succ, List.set_cons_zero]))
          replace C := (C.one R4).grow Hn.below
          have r14 := Hn.get List.mem_cons_self
          generalize x4.heap.size = t14 at *
          clear Hn R4
          replace k9 := k9 _ C.d2
          go_upto_region 14 with (first | (go_at_call 16; (with_reducible refine k9.mono ?_); clear k9; rintro e x6 ⟨rfl, R6⟩; dsimp only; have Hn := has_none x6) | ((with_reducible refine wpList_store_new Hn rfl 49 _ _ rfl (wnA W) rfl rfl (wn_inf _) (by kernel_rfl) (wn_one _) ?_); clear Hn; intro x7 Hn; simp only [Act.put, List.setIfInBounds_toArray, List.set_cons_succ, List.set_cons_zero]))
          replace r14 := keepRow (R6.kept r14 (ne_of_type r14 C.d2.top (by decide)) (ne_of_type r14 C.d2.vals (by decide))) Hn.below
          replace C := (C.two R6).grow Hn.below
          have r16 := Hn.get List.mem_cons_self
          generalize x6.heap.size = t16 at *
          clear Hn R6
          go_upto_region 16 with (first | ((with_reducible refine wpList_load_if rfl 49 _ rfl _ rfl 49 _ (0, 0) _ r14 Try.underlying49 rfl (wn_inf _) ?_); simp only [Act.put, List.setIfInBounds_toArray, List.set_cons_succ, List.set_cons_zero]) | ((with_reducible refine wpList_load_if rfl 49 _ rfl _ rfl 49 _ (0, 0) _ r16 Try.underlying49 rfl (wn_inf _) ?_); simp only [Act.put, List.setIfInBounds_toArray, List.set_cons_succ, List.set_cons_zero]) | ((with_reducible refine wpList_neqW rfl _ _ rfl W rfl rfl ?_); simp only [Act.put, List.setIfInBounds_toArray, List.set_cons_succ, List.set_cons_zero]))
          go_upto_region 17 with fail
          refine wp_region_still_tail 12 (by kernel_rfl) (by kernel_rfl) ?_
          replace C := C.grow (below_dr x7)
          generalize ({ x7 with drawn := x7.drawn + 1 } : World) = x8 at *
          have A1 := run_load_coreD C.d1
          have A2 := run_load_coreD C.d2
          rw [hec.out] at A2
          simp only [List.take_succ_cons, List.take_zero, List.drop_succ_cons, List.drop_zero]
          repeat (first | still_step | ((with_reducible refine still_row rfl _ _ rfl rfl A1 ?_); simp only [Act.put, List.setIfInBounds_toArray, List.set_cons_succ, List.set_cons_zero]) | ((with_reducible refine still_row rfl _ _ rfl rfl A2 ?_); simp only [Act.put, List.setIfInBounds_toArray, List.set_cons_succ, List.set_cons_zero]) | ((with_reducible refine still_neqC rfl _ _ rfl F.c rfl rfl ?_); simp only [Act.put, List.setIfInBounds_toArray, List.set_cons_succ, List.set_cons_zero]))
          refine wpStill_nil ?_
          clear A1 A2
          have y1 := C.d1.c67
          have y2 := C.d2.c67
          have y3 := C.d1.c69
          have y4 := C.d2.c69
          have y5 := C.d1.c68
          have y6 := C.d2.c68
          rw [q1.out] at y2
          rw [q2.out] at y4
          rw [q3.out] at y6
          have hBe := C.below
          generalize F.flt = f1 at *
          generalize F.guest = f2 at *
          generalize F.word = f3 at *
          clear C hec r14 r16 z3 q1 q2 q3
          go_upto_region 20 with fail
          refine wp_region_still_tail 34 (by kernel_rfl) (by kernel_rfl) ?_
          replace hBe := below_then hBe (Nat.le_refl _) (below_dr x8)
          replace y1 : ({ x8 with drawn := x8.drawn + 1 } : World).cell? ⟨g1, 67, none⟩ = some (.bool f1) := y1
          replace y2 : ({ x8 with drawn := x8.drawn + 1 } : World).cell? ⟨g2, 67, none⟩ = some (.bool f1) := y2
          replace y3 : ({ x8 with drawn := x8.drawn + 1 } : World).cell? ⟨g1, 69, none⟩ = some (.bool f2) := y3
          replace y4 : ({ x8 with drawn := x8.drawn + 1 } : World).cell? ⟨g2, 69, none⟩ = some (.bool f2) := y4
          replace y5 : ({ x8 with drawn := x8.drawn + 1 } : World).cell? ⟨g1, 68, none⟩ = some (vU f3) := y5
          replace y6 : ({ x8 with drawn := x8.drawn + 1 } : World).cell? ⟨g2, 68, none⟩ = some (vU f3) := y6
          generalize ({ x8 with drawn := x8.drawn + 1 } : World) = x9 at *
          simp only [List.take_succ_cons, List.take_zero, List.drop_succ_cons, List.drop_zero]
          cases f1 <;> cases f2
          all_goals
            repeat still_step
            refine wpStill_nil ?_
            go_wp2
            go_ret
            exact ⟨rfl, hBe⟩
        | true =>
          rw [hgo] at k8 k9
          go_upto_region 13 with (first | (go_at_call 16; (with_reducible refine k8.mono ?_); clear k8; rintro e x4 ⟨rfl, R4⟩; dsimp only; have Hn := has_none x4) | ((with_reducible refine wpList_store_new Hn rfl 49 _ _ rfl (wnA W) rfl rfl (wn_inf _) (by kernel_rfl) (wn_one _) ?_); clear Hn; intro x5 Hn; simp only [Act.put, List.setIfInBounds_toArray, List.set_cons_succ, List.set_cons_zero]))
          replace C := (C.one R4).grow Hn.below
          have r14 := Hn.get List.mem_cons_self
          generalize x4.heap.size = t14 at *
          clear Hn R4
          replace k9 := k9 _ C.d2
          go_upto_region 14 with (first | (go_at_call 16; (with_reducible refine k9.mono ?_); clear k9; rintro e x6 ⟨rfl, R6⟩; dsimp only; have Hn := has_none x6) | ((with_reducible refine wpList_store_new Hn rfl 49 _ _ rfl (wnA W) rfl rfl (wn_inf _) (by kernel_rfl) (wn_one _) ?_); clear Hn; intro x7 Hn; simp only [Act.put, List.setIfInBounds_toArray, List.set_cons_succ, List.set_cons_zero]))
          replace r14 := keepRow (R6.kept r14 (ne_of_type r14 C.d2.top (by decide)) (ne_of_type r14 C.d2.vals (by decide))) Hn.below
          replace C := (C.two R6).grow Hn.below
          have r16 := Hn.get List.mem_cons_self
          generalize x6.heap.size = t16 at *
          clear Hn R6
          go_upto_region 16 with (first | ((with_reducible refine wpList_load_if rfl 49 _ rfl _ rfl 49 _ (0, 0) _ r14 Try.underlying49 rfl (wn_inf _) ?_); simp only [Act.put, List.setIfInBounds_toArray, List.set_cons_succ, List.set_cons_zero]) | ((with_reducible refine wpList_load_if rfl 49 _ rfl _ rfl 49 _ (0, 0) _ r16 Try.underlying49 rfl (wn_inf _) ?_); simp only [Act.put, List.setIfInBounds_toArray, List.set_cons_succ, List.set_cons_zero]) | ((with_reducible refine wpList_neqW rfl _ _ rfl W rfl rfl ?_); simp only [Act.put, List.setIfInBounds_toArray, List.set_cons_succ, List.set_cons_zero]))
          have zk : x7.cell? ⟨t14, 0, none⟩ = some (vI W.kind) := by rw [cell_of_row _ _ _ _ _ _ r14]; rfl
          clear r14 r16 eq
          have hcase : (W.kind = 6) ∨ (W.kind ≠ 6 ∧ F'.c = F.c) := by
            by_cases h6 : W.kind = 6
            · exact .inl h6
            · refine .inr ⟨h6, ?_⟩
              rcases ec.out with q | q
              · exact absurd (by rw [hWk.out hgo]; exact q.2) h6
              · exact q
          clear ec hWk
          have hgo2 : F'.waits = true := ew.trans hgo
          obtain ⟨hle1, hle2⟩ := hle.out hgo
          have h27a := fun x (H : DocAt pc words el (.slice a1 l.length c1) l g1 vb1 F x) t (hU : U64 (Gt.value t)) => dTake_c H t hU (fun _ => hle1)
          have h27b := fun x (H : DocAt pc words el u (deadL l) g2 vb2 F' x) t (hU : U64 (Gt.value t)) => dTake_c H t hU (fun _ => hle2)
          rw [hgo] at h27a
          rw [hgo2] at h27b
          replace htk := htk.out hgo
          clear hle hle1 hle2 hgo2 ew X
          have h8 : 0 ≤ 8 * (i : Int) ∧ 8 * (i : Int) < 9223372036854775808 := by omega
          have U0 : U64 (8 * (i : Int)) := ⟨h8.1, by omega⟩
          -- what is left, once the states have been held against each other
          rcases hcase with h6 | ⟨h6, hec⟩
          · rw [h6] at zk
            clear h6
            go_upto_region 17 with fail
            clear zk
            go_upto_region 19 with (go_quiet (fail))
            replace C := C.grow (below_drewN (Below.refl _ x7) (n := nq))
            generalize x7.drewN nq = x8 at *
            go_upto_region 21 with fail
            go_upto_region 22 with fail
            have hBg := below_alloc x8 (.cells (gtA ⟨8 * (i : Int), (i : Int) % 2 == 0, 0⟩) 56)
            have r18 : (x8.alloc (.cells (gtA ⟨8 * (i : Int), (i : Int) % 2 == 0, 0⟩) 56)).heap[x8.heap.size]? = some (.cells (gtA ⟨8 * (i : Int), (i : Int) % 2 == 0, 0⟩) 56) := heap_alloc_new _ _
            generalize x8.alloc (.cells (gtA ⟨8 * (i : Int), (i : Int) % 2 == 0, 0⟩) 56) = x9 at *
            by_cases hi2 : (i : Int) < z.length
            · obtain ⟨ra, zc', ez, hcz⟩ := (G.grow (below_then C.below (Nat.le_refl _) hBg)).cell (by omega)
              cases ez
              have hi3 : i < z.length := by omega
              have A := hcz i _ (List.getElem?_eq_getElem hi3)
              have hU := G.ok _ (List.getElem_mem hi3)
              generalize z[i] = t at A hU
              clear hcz
              go_upto_region 24 with (first | ((with_reducible refine wpList_load44 rfl _ rfl _ rfl t A ?_); simp only [Act.put, List.setIfInBounds_toArray, List.set_cons_succ, List.set_cons_zero]) | ((with_reducible refine wpList_store_row rfl 56 _ _ rfl x8.heap.size (gtA t) rfl rfl 56 _ r18 (gt_inf _) rfl (gt_one _) ?_); simp only [Act.put, List.setIfInBounds_toArray, List.set_cons_succ, List.set_cons_zero]))
              replace C := C.grow (below_setRow (cs := gtA t) hBg (Nat.le_refl _))
              replace r18 : (x9.setRow x8.heap.size (gtA t)).heap[x8.heap.size]? = some (.cells (gtA t) 56) := setRow_heap _ _ _ _ _ _ r18
              generalize x9.setRow x8.heap.size (gtA t) = x10 at *
              generalize x8.heap.size = t18 at *
              clear A hBg
              replace h27a := h27a _ C.d1 t hU
              go_upto_region 25 with (first | ((with_reducible refine wpList_load_if rfl 56 _ rfl _ rfl 56 _ (0, 0) _ r18 Try.underlying56 rfl (gt_inf _) ?_); simp only [Act.put, List.setIfInBounds_toArray, List.set_cons_succ, List.set_cons_zero]) | (go_at_call 17; (with_reducible refine h27a.mono ?_); clear h27a; rintro e x11 ⟨rfl, R11⟩; dsimp only))
              replace r18 := R11.kept r18 (ne_of_type r18 C.d1.top (by decide)) (ne_of_type r18 C.d1.vals (by decide))
              replace C := C.one R11
              clear R11
              replace h27b := h27b _ C.d2 t hU
              go_wp2_with (first | ((with_reducible refine wpList_load_if rfl 56 _ rfl _ rfl 56 _ (0, 0) _ r18 Try.underlying56 rfl (gt_inf _) ?_); simp only [Act.put, List.setIfInBounds_toArray, List.set_cons_succ, List.set_cons_zero]) | (go_at_call 17; (with_reducible refine h27b.mono ?_); clear h27b; rintro e x12 ⟨rfl, R12⟩; dsimp only))
              replace C := C.two R12
              obtain ⟨hr1, hr2⟩ := htk t
              go_roundw
              case rel => exact ⟨i + 1, _, _, by omega, by simp, hr2, C⟩
              case measure => simp [intOf]; omega
            · replace C := C.grow hBg
              generalize ht : (⟨8 * (i : Int), (i : Int) % 2 == 0, 0⟩ : Gt) = t at *
              have hU : U64 t.value := by rw [← ht]; exact U0
              generalize x8.heap.size = t18 at *
              clear hBg z3
              generalize x9 = x10 at *
              replace h27a := h27a _ C.d1 t hU
              go_upto_region 25 with (first | ((with_reducible refine wpList_load_if rfl 56 _ rfl _ rfl 56 _ (0, 0) _ r18 Try.underlying56 rfl (gt_inf _) ?_); simp only [Act.put, List.setIfInBounds_toArray, List.set_cons_succ, List.set_cons_zero]) | (go_at_call 17; (with_reducible refine h27a.mono ?_); clear h27a; rintro e x11 ⟨rfl, R11⟩; dsimp only))
              replace r18 := R11.kept r18 (ne_of_type r18 C.d1.top (by decide)) (ne_of_type r18 C.d1.vals (by decide))
              replace C := C.one R11
              clear R11
              replace h27b := h27b _ C.d2 t hU
              go_wp2_with (first | ((with_reducible refine wpList_load_if rfl 56 _ rfl _ rfl 56 _ (0, 0) _ r18 Try.underlying56 rfl (gt_inf _) ?_); simp only [Act.put, List.setIfInBounds_toArray, List.set_cons_succ, List.set_cons_zero]) | (go_at_call 17; (with_reducible refine h27b.mono ?_); clear h27b; rintro e x12 ⟨rfl, R12⟩; dsimp only))
              replace C := C.two R12
              obtain ⟨hr1, hr2⟩ := htk t
              go_roundw
              case rel => exact ⟨i + 1, _, _, by omega, by simp, hr2, C⟩
              case measure => simp [intOf]; omega
          · have hk6 : (W.kind == 6) = false := by simpa using h6
            clear h6
            go_upto_region 17 with fail
            clear zk hk6
            refine wp_region_still_tail 12 (by kernel_rfl) (by kernel_rfl) ?_
            replace C := C.grow (below_dr x7)
            generalize ({ x7 with drawn := x7.drawn + 1 } : World) = x8 at *
            have A1 := run_load_coreD C.d1
            have A2 := run_load_coreD C.d2
            rw [hec] at A2
            clear hec
            simp only [List.take_succ_cons, List.take_zero, List.drop_succ_cons, List.drop_zero]
            repeat (first | still_step | ((with_reducible refine still_row rfl _ _ rfl rfl A1 ?_); simp only [Act.put, List.setIfInBounds_toArray, List.set_cons_succ, List.set_cons_zero]) | ((with_reducible refine still_row rfl _ _ rfl rfl A2 ?_); simp only [Act.put, List.setIfInBounds_toArray, List.set_cons_succ, List.set_cons_zero]) | ((with_reducible refine still_neqC rfl _ _ rfl F.c rfl rfl ?_); simp only [Act.put, List.setIfInBounds_toArray, List.set_cons_succ, List.set_cons_zero]))
            refine wpStill_nil ?_
            clear A1 A2
            go_upto_region 21 with fail
            go_upto_region 22 with fail
            have hBg := below_alloc x8 (.cells (gtA ⟨8 * (i : Int), (i : Int) % 2 == 0, 0⟩) 56)
            have r18 : (x8.alloc (.cells (gtA ⟨8 * (i : Int), (i : Int) % 2 == 0, 0⟩) 56)).heap[x8.heap.size]? = some (.cells (gtA ⟨8 * (i : Int), (i : Int) % 2 == 0, 0⟩) 56) := heap_alloc_new _ _
            generalize x8.alloc (.cells (gtA ⟨8 * (i : Int), (i : Int) % 2 == 0, 0⟩) 56) = x9 at *
            by_cases hi2 : (i : Int) < z.length
            · obtain ⟨ra, zc', ez, hcz⟩ := (G.grow (below_then C.below (Nat.le_refl _) hBg)).cell (by omega)
              cases ez
              have hi3 : i < z.length := by omega
              have A := hcz i _ (List.getElem?_eq_getElem hi3)
              have hU := G.ok _ (List.getElem_mem hi3)
              generalize z[i] = t at A hU
              clear hcz
              go_upto_region 24 with (first | ((with_reducible refine wpList_load44 rfl _ rfl _ rfl t A ?_); simp only [Act.put, List.setIfInBounds_toArray, List.set_cons_succ, List.set_cons_zero]) | ((with_reducible refine wpList_store_row rfl 56 _ _ rfl x8.heap.size (gtA t) rfl rfl 56 _ r18 (gt_inf _) rfl (gt_one _) ?_); simp only [Act.put, List.setIfInBounds_toArray, List.set_cons_succ, List.set_cons_zero]))
              replace C := C.grow (below_setRow (cs := gtA t) hBg (Nat.le_refl _))
              replace r18 : (x9.setRow x8.heap.size (gtA t)).heap[x8.heap.size]? = some (.cells (gtA t) 56) := setRow_heap _ _ _ _ _ _ r18
              generalize x9.setRow x8.heap.size (gtA t) = x10 at *
              generalize x8.heap.size = t18 at *
              clear A hBg
              replace h27a := h27a _ C.d1 t hU
              go_upto_region 25 with (first | ((with_reducible refine wpList_load_if rfl 56 _ rfl _ rfl 56 _ (0, 0) _ r18 Try.underlying56 rfl (gt_inf _) ?_); simp only [Act.put, List.setIfInBounds_toArray, List.set_cons_succ, List.set_cons_zero]) | (go_at_call 17; (with_reducible refine h27a.mono ?_); clear h27a; rintro e x11 ⟨rfl, R11⟩; dsimp only))
              replace r18 := R11.kept r18 (ne_of_type r18 C.d1.top (by decide)) (ne_of_type r18 C.d1.vals (by decide))
              replace C := C.one R11
              clear R11
              replace h27b := h27b _ C.d2 t hU
              go_wp2_with (first | ((with_reducible refine wpList_load_if rfl 56 _ rfl _ rfl 56 _ (0, 0) _ r18 Try.underlying56 rfl (gt_inf _) ?_); simp only [Act.put, List.setIfInBounds_toArray, List.set_cons_succ, List.set_cons_zero]) | (go_at_call 17; (with_reducible refine h27b.mono ?_); clear h27b; rintro e x12 ⟨rfl, R12⟩; dsimp only))
              replace C := C.two R12
              obtain ⟨hr1, hr2⟩ := htk t
              go_roundw
              case rel => exact ⟨i + 1, _, _, by omega, by simp, hr2, C⟩
              case measure => simp [intOf]; omega
            · replace C := C.grow hBg
              generalize ht : (⟨8 * (i : Int), (i : Int) % 2 == 0, 0⟩ : Gt) = t at *
              have hU : U64 t.value := by rw [← ht]; exact U0
              generalize x8.heap.size = t18 at *
              clear hBg z3
              generalize x9 = x10 at *
              replace h27a := h27a _ C.d1 t hU
              go_upto_region 25 with (first | ((with_reducible refine wpList_load_if rfl 56 _ rfl _ rfl 56 _ (0, 0) _ r18 Try.underlying56 rfl (gt_inf _) ?_); simp only [Act.put, List.setIfInBounds_toArray, List.set_cons_succ, List.set_cons_zero]) | (go_at_call 17; (with_reducible refine h27a.mono ?_); clear h27a; rintro e x11 ⟨rfl, R11⟩; dsimp only))
              replace r18 := R11.kept r18 (ne_of_type r18 C.d1.top (by decide)) (ne_of_type r18 C.d1.vals (by decide))
              replace C := C.one R11
              clear R11
              replace h27b := h27b _ C.d2 t hU
              go_wp2_with (first | ((with_reducible refine wpList_load_if rfl 56 _ rfl _ rfl 56 _ (0, 0) _ r18 Try.underlying56 rfl (gt_inf _) ?_); simp only [Act.put, List.setIfInBounds_toArray, List.set_cons_succ, List.set_cons_zero]) | (go_at_call 17; (with_reducible refine h27b.mono ?_); clear h27b; rintro e x12 ⟨rfl, R12⟩; dsimp only))
              replace C := C.two R12
              obtain ⟨hr1, hr2⟩ := htk t
              go_roundw
              case rel => exact ⟨i + 1, _, _, by omega, by simp, hr2, C⟩
              case measure => simp [intOf]; omega
    · have k1 := newDN_c (words := words) hpc N.ops hu hcap hc h1
      go_upto_region 6 with (first | ((with_reducible refine wpList_load_if rfl 25 _ rfl _ rfl 25 _ (0, 0) _ r1 Try.underlying25 rfl (bl_inf _ _ _ _) ?_); simp only [Act.put, List.setIfInBounds_toArray, List.set_cons_succ, List.set_cons_zero]) | ((with_reducible refine wpList_load_if rfl 43 _ rfl _ rfl 43 _ (0, 0) _ r2 Try.underlying43 rfl (Cor.info _) ?_); simp only [Act.put, List.setIfInBounds_toArray, List.set_cons_succ, List.set_cons_zero]) | (go_at_call 15; (with_reducible refine k1.mono ?_); clear k1; rintro e x2 ⟨rfl, B⟩; dsimp only))
      replace N := N.grow B
      replace r8 := keepRow r8 B
      have k2 := newDN_c (words := words) hpc (C1.ops.grow B) hum C1.cap hc h2
      clear B r1 r2 C1
      have r2 := N.r2
      go_wp2_with (first | ((with_reducible refine wpList_load_if rfl 25 _ rfl _ rfl 25 _ (0, 0) _ r8 Try.underlying25 rfl (bl_inf _ _ _ _) ?_); simp only [Act.put, List.setIfInBounds_toArray, List.set_cons_succ, List.set_cons_zero]) | ((with_reducible refine wpList_load_if rfl 43 _ rfl _ rfl 43 _ (0, 0) _ r2 Try.underlying43 rfl (Cor.info _) ?_); simp only [Act.put, List.setIfInBounds_toArray, List.set_cons_succ, List.set_cons_zero]) | (go_at_call 15; (with_reducible refine k2.mono ?_); clear k2; rintro e x3 ⟨rfl, B⟩; dsimp only))
      go_ret
      exact ⟨rfl, (N.grow B).below⟩
end
end Go.Proofs.Ytejlmggfeejgpaa
