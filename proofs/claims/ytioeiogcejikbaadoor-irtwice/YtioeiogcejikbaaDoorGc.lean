/- Two runs of a block. -/
import Derived.Test.YtioeiogcejikbaaDoorGb
namespace Go.Proofs.YtioeiogcejikbaaDoor
open Go.RowKit
set_option linter.unusedVariables false
set_option linter.unusedSimpArgs false
set_option maxRecDepth 8000

theorem RunAt.row {l : List Opr} {g vb t : Nat} {so : Value} {S : Rn} {x : World} {d : Array Value} (H : RunAt l g vb so S x) (h1 : g < t) (h2 : vb < t) (h3 : ∀ k, so.ownBlock = some k → k < t) : RunAt l g vb so S (x.setRow t d) :=
  H.keep (setRow_other _ _ _ _ (by omega)) (setRow_other _ _ _ _ (by omega)) (fun k hk => setRow_other _ _ _ _ (by have := h3 k hk; omega))
theorem Two.row {l : List Opr} {g1 vb1 g2 vb2 t : Nat} {so1 so2 : Value} {S T : Rn} {x : World} {d : Array Value} (H : Two l g1 vb1 so1 g2 vb2 so2 S T x) (h1 : g1 < t) (h2 : vb1 < t) (h3 : ∀ k, so1.ownBlock = some k → k < t) (h4 : g2 < t) (h5 : vb2 < t) (h6 : ∀ k, so2.ownBlock = some k → k < t) : Two l g1 vb1 so1 g2 vb2 so2 S T (x.setRow t d) :=
  ⟨H.r1.row h1 h2 h3, H.r2.row h4 h5 h6, H.gg, H.vv, H.o1, H.o2⟩
section
variable {w : World} {pc words el : Int} {l : List Opr} {c : Cor} {ao : Option Addr} {cap : Nat}
set_option maxHeartbeats 16000000 in
theorem twice_yes {zo : Option Addr} {zc : Nat} {z : List Gt} (G : Gots w (.slice zo z.length zc) z) (hpc : 0 ≤ pc) (O : OpsIn w (.slice ao l.length cap) l) (hl : l.length * 48 ≤ 140737488351232) (hc : CorOk c) (hE : newE pc words el l c = 0) : Calls Tryd.prog 5 #[blV pc words el (.slice ao l.length cap), c.val, .slice zo z.length zc] w fun e w' => e = .returned (.bool true) ∧ Below w.heap.size w w' := by
  have himm : ∀ k, 0 ≤ (opAt l k).imm := fun k => (O.imm k).1
  have fit := new_fit O.imm hE
  have N0 : NwC w pc words el (.slice ao l.length cap) l c w.heap.size (w.heap.size + 1) ((w.alloc (.cells (blA pc words el (.slice ao l.length cap)) 25)).alloc (.cells c.cells 29)) := by
    have hb := below_alloc w (.cells (blA pc words el (.slice ao l.length cap)) 25)
    have hb2 := below_alloc (w.alloc (.cells (blA pc words el (.slice ao l.length cap)) 25)) (.cells c.cells 29)
    refine ⟨?_, ?_, (O.ops.grow hb).grow hb2, below_then hb (Nat.le_refl _) hb2⟩
    · rw [hb2.block _ (by simp)]; exact heap_alloc_new _ _
    · have := heap_alloc_new (w.alloc (.cells (blA pc words el (.slice ao l.length cap)) 25)) (.cells c.cells 29)
      rw [World.size_alloc] at this; exact this
  go_enter Tryd.func5, Tryd.ntmps5
  go_upto_region 1 with fail
  generalize (w.alloc (.cells (blA pc words el (.slice ao l.length cap)) 25)).alloc (.cells c.cells 29) = w2 at *
  generalize w.heap.size + 1 = b2 at *
  generalize hbb : w.heap.size = b1 at N0 ⊢
  clear hbb
  go_upto_region 2 with (first | (go_at_call 6; (with_reducible refine (examples_c _).mono ?_); rintro e w3 ⟨rfl, B⟩; dsimp only; have N := N0.grow B; clear N0 B))

  have k2 := newY_c (words := words) (el := el) hpc N.ops himm O.cap hc hE
  go_upto_region 3 with (first | ((with_reducible refine wpList_load_if rfl 25 _ rfl _ rfl 25 _ (0, 0) _ N.r1 Tryd.underlying25 rfl (bl_inf _ _ _ _) ?_); simp only [Act.put, List.setIfInBounds_toArray, List.set_cons_succ, List.set_cons_zero]) | ((with_reducible refine wpList_load_if rfl 29 _ rfl _ rfl 29 _ (0, 0) _ N.r2 Tryd.underlying29 rfl (Cor.info _) ?_); simp only [Act.put, List.setIfInBounds_toArray, List.set_cons_succ, List.set_cons_zero]) | (go_at_call 7; (with_reducible refine k2.mono ?_); clear k2; rintro e w4 ⟨u1, rfl, F, B⟩; dsimp only; have hlo := N.below.size; replace N := N.grow B; clear B))
  obtain ⟨g1, vb1, so1, e1, H1, hg1, hv1, ho1⟩ := F.ex
  subst e1
  have hw1 : w.heap.size ≤ g1 := by omega
  have hw2 : w.heap.size ≤ vb1 := by omega
  have Y : TwI w pc words el (.slice ao l.length cap) l c b1 b2 w4.heap.size g1 vb1 so1 w4 := ⟨N, H1, Nat.le_refl _⟩
  have q1 := H1.lt
  have q2 := H1.ltv
  have q3 : ∀ k, so1.ownBlock = some k → k < w4.heap.size := fun k hk => (H1.ob hk).1
  have hWle2 : w.heap.size ≤ w4.heap.size := N.below.size
  clear N F hlo hg1 hv1 ho1 H1
  generalize hn1 : w4.heap.size = n1 at Y q1 q2 q3 hWle2
  clear hn1
  refine RelQ.wp_region_rel RelQ.Grows (fun _ _ => False) (fun _ _ _ h _ => h.elim) (TwI w pc words el (.slice ao l.length cap) l c b1 b2 n1 g1 vb1 so1) [.inl (blV pc words el (.slice ao l.length cap)), .inr (fun u x => ∃ v2, u = blV pc words el v2 ∧ OpsC x v2 l), .inl (c.val), .inr (fun u x => ∃ p, u = .tuple #[p, vI 0] ∧ Fresh l (newS l.length c) n1 p x), .inr (fun u x => ∃ p, u = .tuple #[p, vI 0] ∧ Fresh l (newS l.length c) n1 p x), .inr (fun u x => Fresh l (newS l.length c) n1 u x), .inl (vI 0), .inr (fun u x => Fresh l (newS l.length c) n1 u x), .inl (vI 0)] (by kernel_rfl) (by kernel_rfl) RelQ.grows_refl (fun _ _ h hb => h.grow hb) (Y.grow (below_dr _)) (by intro k hk; simp only [List.mem_cons, List.not_mem_nil, or_false] at hk; rcases hk with rfl | rfl | rfl | rfl | rfl | rfl | rfl | rfl | rfl <;> first | exact trivial | exact (fun v x y h hb => Fresh.grow h hb) | exact (fun v x y h hb => by obtain ⟨v2, e0, h1⟩ := h; exact ⟨v2, e0, h1.grow hb⟩) | exact (fun v x y h hb => by obtain ⟨p, e0, F⟩ := h; exact ⟨p, e0, F.grow hb⟩)) ?_
  refine ⟨fun w3 hC hf => RelQ.uponG_yes rfl (by exact rel_load25 hC.n.r1), ?_⟩
  simp only [Act.put, List.setIfInBounds_toArray, List.set_cons_succ, List.set_cons_zero]
  refine ⟨fun w3 hC hf => RelQ.uponG_yes rfl ((by go_simp; refine (copied_c hC.n.ops hl).mono ?_; rintro e w4 ⟨v2, rfl, hO, hb⟩; first | exact ⟨_, rfl, hb, v2, rfl, hO⟩ | exact .inl ⟨_, rfl, hb, v2, rfl, hO⟩)), ?_⟩
  intro u1
  simp only [Act.put, List.setIfInBounds_toArray, List.set_cons_succ, List.set_cons_zero]
  refine ⟨fun w3 hC hf => RelQ.uponG_yes rfl (by exact rel_load29 hC.n.r2), ?_⟩
  simp only [Act.put, List.setIfInBounds_toArray, List.set_cons_succ, List.set_cons_zero]
  refine ⟨fun w3 hC hf => RelQ.uponG_yes rfl ((by obtain ⟨v2, e0, O2⟩ := (hf 1 (by kernel_rfl)).1 rfl; subst e0; go_simp; refine (newY_c hpc O2.ops himm O2.cap hc hE).mono ?_; rintro e w4 ⟨p, rfl, F, hb⟩; first | exact ⟨_, rfl, hb, p, rfl, F.low hC.size⟩ | exact .inl ⟨_, rfl, hb, p, rfl, F.low hC.size⟩)), ?_⟩
  intro u3
  simp only [Act.put, List.setIfInBounds_toArray, List.set_cons_succ, List.set_cons_zero]
  refine ⟨fun w3 hC hf => RelQ.uponG_yes rfl ((by have q := (hf 3 (by kernel_rfl)).1 rfl; exact rel_move q)), ?_⟩
  intro u4
  simp only [Act.put, List.setIfInBounds_toArray, List.set_cons_succ, List.set_cons_zero]
  refine ⟨fun w3 hC hf => RelQ.uponG_yes rfl ((by obtain ⟨p, e0, F⟩ := (hf 4 (by kernel_rfl)).1 rfl; subst e0; go_simp; first | exact RelQ.grows_refl _ | exact ⟨RelQ.grows_refl _, F⟩)), ?_⟩
  intro u5
  simp only [Act.put, List.setIfInBounds_toArray, List.set_cons_succ, List.set_cons_zero]
  refine ⟨fun w3 hC hf => RelQ.uponG_yes rfl (by obtain ⟨p, e0, F⟩ := (hf 4 (by kernel_rfl)).2.1 rfl; subst e0; go_simp; first | exact RelQ.grows_refl _ | exact ⟨RelQ.grows_refl _, rfl⟩), ?_⟩
  simp only [Act.put, List.setIfInBounds_toArray, List.set_cons_succ, List.set_cons_zero]
  refine ⟨fun w3 hC hf => RelQ.uponG_yes rfl ((by have q := (hf 5 (by kernel_rfl)).1 rfl; exact rel_assign q)), ?_⟩
  intro u7
  simp only [Act.put, List.setIfInBounds_toArray, List.set_cons_succ, List.set_cons_zero]
  refine ⟨fun w3 hC _ => RelQ.uponG_yes rfl ((by go_simp; first | exact RelQ.grows_refl _ | exact ⟨RelQ.grows_refl _, rfl⟩)), ?_⟩
  simp only [Act.put, List.setIfInBounds_toArray, List.set_cons_succ, List.set_cons_zero]
  intro w9 hN hf
  obtain ⟨g2, vb2, so2, e2, H2, hg2, hv2, ho2⟩ := ((hf 7).1 rfl).ex
  clear hf
  subst e2
  have P : Two l g1 vb1 so1 g2 vb2 so2 (newS l.length c) (newS l.length c) w9 := ⟨hN.r1, H2, by omega, by omega, fun k hk => ⟨by have := q3 k hk; omega, by have := q3 k hk; omega⟩, fun k hk => ⟨by have := ho2 k hk; omega, by have := ho2 k hk; omega⟩⟩
  have hw3 : w.heap.size ≤ g2 := by omega
  have hw4 : w.heap.size ≤ vb2 := by omega
  have hB := hN.n.below
  have b1r := hN.n.r1
  have hml := O.ops.max
  have hl512 := H2.max
  clear hN Y H2 hg2 hv2 ho2 q1 q2 q3 hWle2 hml
  have I0 := new_inv l.length c
  generalize newS l.length c = S0 at P I0
  go_upto_region 7 with fail
  go_loopw [12] (fun s12 wr => ∃ (k : Nat) (S : Rn), k ≤ l.length + 1 ∧ s12 = vI k ∧ Two l g1 vb1 so1 g2 vb2 so2 S S wr ∧ Inv l.length S ∧ Below w.heap.size w wr ∧ wr.heap[b1]? = some (.cells (blA pc words el (.slice ao l.length cap)) 25)) (fun s12 _ => ((l.length : Int) + 1 - intOf s12).toNat)
  case atStart => exact ⟨0, S0, Nat.zero_le _, rfl, P, I0, hB, b1r⟩
  case round =>
    clear P I0 hB b1r
    obtain ⟨k, S, hk, rfl, P, I, hB, b1r⟩ := hrel
    have z3 : wr.cell? ⟨b1, 3, none⟩ = some (.slice ao l.length cap) := by rw [cell_of_row _ _ _ _ _ _ b1r]; rfl
    by_cases hlt : (k : Int) ≤ l.length
    · have J := next_inv I
      have k8 := fun x (H : RunAt l g1 vb1 so1 S x) => next_c H fit I.le
      have k9 := fun x (H : RunAt l g2 vb2 so2 S x) => next_c H fit I.le
      generalize nextV l S = T at J k8 k9
      clear I
      have k8 := k8 _ P.r1
      cases hgo : (T.go != 0) with
      | false =>
        rw [hgo] at k8

        go_upto_region 10 with (first | (go_at_call 8; (with_reducible refine k8.mono ?_); clear k8; rintro e w12 ⟨rfl, R⟩; dsimp only; have H := has_none w12) | ((with_reducible refine wpList_store_new H rfl 38 _ _ rfl (wnA T.w) rfl rfl (wn_inf _) (by kernel_rfl) (wn_one _) ?_); clear H; intro w13 H; try simp only [Act.put]))
        replace hB := (R.low hB hw1 hw2)
        replace b1r := keepRow (R.kept b1r (ne_of_type b1r P.r1.top (by decide)) (ne_of_type b1r P.r1.vals (by decide))) H.below
        replace P := (P.one R).grow H.below
        replace hB := below_then hB (Nat.le_refl _) H.below
        have r8 := H.get List.mem_cons_self
        generalize w12.heap.size = t8 at r8 ⊢
        clear H R

        have k9 := k9 _ P.r2
        rw [hgo] at k9

        go_upto_region 11 with (first | (go_at_call 8; (with_reducible refine k9.mono ?_); clear k9; rintro e w14 ⟨rfl, R⟩; dsimp only; have H := has_none w14) | ((with_reducible refine wpList_store_new H rfl 38 _ _ rfl (wnA T.w) rfl rfl (wn_inf _) (by kernel_rfl) (wn_one _) ?_); clear H; intro w15 H; try simp only [Act.put]))
        replace hB := (R.low hB hw3 hw4)
        replace b1r := keepRow (R.kept b1r (ne_of_type b1r P.r2.top (by decide)) (ne_of_type b1r P.r2.vals (by decide))) H.below
        replace r8 := keepRow (R.kept r8 (ne_of_type r8 P.r2.top (by decide)) (ne_of_type r8 P.r2.vals (by decide))) H.below
        replace P := (P.two R).grow H.below
        replace hB := below_then hB (Nat.le_refl _) H.below
        have r9 := H.get List.mem_cons_self
        generalize w14.heap.size = t9 at r9 ⊢
        clear H R

        go_upto_region 19 with (first | ((with_reducible refine wpList_load_if rfl 38 _ rfl _ rfl 38 _ (0, 0) _ r8 Tryd.underlying38 rfl (wn_inf _) ?_); simp only [Act.put, List.setIfInBounds_toArray, List.set_cons_succ, List.set_cons_zero]) | ((with_reducible refine wpList_load_if rfl 38 _ rfl _ rfl 38 _ (0, 0) _ r9 Tryd.underlying38 rfl (wn_inf _) ?_); simp only [Act.put, List.setIfInBounds_toArray, List.set_cons_succ, List.set_cons_zero]) | ((with_reducible refine wpList_neq38 rfl _ _ rfl T.w T.w rfl rfl true (by simp) ?_); simp only [Act.put, List.setIfInBounds_toArray, List.set_cons_succ, List.set_cons_zero]) | (go_at_call 10; (with_reducible refine (core_c P.r1).mono ?_); rintro e w23 ⟨rfl, B⟩; dsimp only; replace P := P.grow B; replace hB := below_then hB (Nat.le_refl _) B; replace b1r := keepRow b1r B; clear B) | (go_at_call 10; (with_reducible refine (core_c P.r2).mono ?_); rintro e w23 ⟨rfl, B⟩; dsimp only; replace P := P.grow B; replace hB := below_then hB (Nat.le_refl _) B; replace b1r := keepRow b1r B; clear B) | ((refine wpList_neq_core rfl _ _ rfl T.c T.c rfl rfl true (eqC_refl _) ?_); simp only [Act.put, List.setIfInBounds_toArray, List.set_cons_succ, List.set_cons_zero]))
        have hq : (T.guest = false ∧ T.flt = false) ∨ (T.guest = false ∧ T.flt = true) ∨ (T.guest = true ∧ T.flt = false) := by
          have h := J.gf
          cases h1 : T.guest <;> cases h2 : T.flt <;> simp_all
        have hwd := T.word
        rcases hq with ⟨hg, hf⟩ | ⟨hg, hf⟩ | ⟨hg, hf⟩
        all_goals
          go_wp2_with (first | (go_at_call 12; (with_reducible refine (guestR_c P.r1).mono ?_); rintro e w31 ⟨rfl, R⟩; rw [hg]; dsimp only; replace hB := R.low hB hw1 hw2; replace P := P.one R; clear R) | (go_at_call 12; (with_reducible refine (guestR_c P.r2).mono ?_); rintro e w32 ⟨rfl, R⟩; rw [hg]; dsimp only; replace hB := R.low hB hw3 hw4; replace P := P.two R; clear R) | (go_at_call 13; (with_reducible refine (faulted_c P.r1).mono ?_); rintro e w33 ⟨rfl, rfl⟩; rw [hf]; dsimp only) | (go_at_call 13; (with_reducible refine (faulted_c P.r2).mono ?_); rintro e w33 ⟨rfl, rfl⟩; rw [hf]; dsimp only))
          go_ret
          exact ⟨rfl, hB⟩

      | true =>
        rw [hgo] at k8

        go_upto_region 10 with (first | (go_at_call 8; (with_reducible refine k8.mono ?_); clear k8; rintro e w12 ⟨rfl, R⟩; dsimp only; have H := has_none w12) | ((with_reducible refine wpList_store_new H rfl 38 _ _ rfl (wnA T.w) rfl rfl (wn_inf _) (by kernel_rfl) (wn_one _) ?_); clear H; intro w13 H; try simp only [Act.put]))
        replace hB := (R.low hB hw1 hw2)
        replace b1r := keepRow (R.kept b1r (ne_of_type b1r P.r1.top (by decide)) (ne_of_type b1r P.r1.vals (by decide))) H.below
        replace P := (P.one R).grow H.below
        replace hB := below_then hB (Nat.le_refl _) H.below
        have r8 := H.get List.mem_cons_self
        generalize w12.heap.size = t8 at r8 ⊢
        clear H R

        have k9 := k9 _ P.r2
        rw [hgo] at k9

        go_upto_region 11 with (first | (go_at_call 8; (with_reducible refine k9.mono ?_); clear k9; rintro e w14 ⟨rfl, R⟩; dsimp only; have H := has_none w14) | ((with_reducible refine wpList_store_new H rfl 38 _ _ rfl (wnA T.w) rfl rfl (wn_inf _) (by kernel_rfl) (wn_one _) ?_); clear H; intro w15 H; try simp only [Act.put]))
        replace hB := (R.low hB hw3 hw4)
        replace b1r := keepRow (R.kept b1r (ne_of_type b1r P.r2.top (by decide)) (ne_of_type b1r P.r2.vals (by decide))) H.below
        replace r8 := keepRow (R.kept r8 (ne_of_type r8 P.r2.top (by decide)) (ne_of_type r8 P.r2.vals (by decide))) H.below
        replace P := (P.two R).grow H.below
        replace hB := below_then hB (Nat.le_refl _) H.below
        have r9 := H.get List.mem_cons_self
        generalize w14.heap.size = t9 at r9 ⊢
        clear H R

        go_upto_region 14 with (first | ((with_reducible refine wpList_load_if rfl 38 _ rfl _ rfl 38 _ (0, 0) _ r8 Tryd.underlying38 rfl (wn_inf _) ?_); simp only [Act.put, List.setIfInBounds_toArray, List.set_cons_succ, List.set_cons_zero]) | ((with_reducible refine wpList_load_if rfl 38 _ rfl _ rfl 38 _ (0, 0) _ r9 Tryd.underlying38 rfl (wn_inf _) ?_); simp only [Act.put, List.setIfInBounds_toArray, List.set_cons_succ, List.set_cons_zero]) | ((with_reducible refine wpList_neq38 rfl _ _ rfl T.w T.w rfl rfl true (by simp) ?_); simp only [Act.put, List.setIfInBounds_toArray, List.set_cons_succ, List.set_cons_zero]) | (go_at_call 10; (with_reducible refine (core_c P.r1).mono ?_); rintro e w23 ⟨rfl, B⟩; dsimp only; replace P := P.grow B; replace hB := below_then hB (Nat.le_refl _) B; replace b1r := keepRow b1r B; clear B) | (go_at_call 10; (with_reducible refine (core_c P.r2).mono ?_); rintro e w23 ⟨rfl, B⟩; dsimp only; replace P := P.grow B; replace hB := below_then hB (Nat.le_refl _) B; replace b1r := keepRow b1r B; clear B) | ((refine wpList_neq_core rfl _ _ rfl T.c T.c rfl rfl true (eqC_refl _) ?_); simp only [Act.put, List.setIfInBounds_toArray, List.set_cons_succ, List.set_cons_zero]))
        have H := has_none w23
        have hlo17 := hB.size
        have y1 := P.r1.lt
        have y2 := P.r1.ltv
        have y3 : ∀ k, so1.ownBlock = some k → k < w23.heap.size := fun k hk => (P.r1.ob hk).1
        have y4 := P.r2.lt
        have y5 := P.r2.ltv
        have y6 : ∀ k, so2.ownBlock = some k → k < w23.heap.size := fun k hk => (P.r2.ob hk).1
        have y7 := lt_of_some b1r
        clear r8 r9 hgo k9
        go_upto_region 15 with (first | ((with_reducible refine wpList_store_new H rfl 44 _ _ rfl (gtA ⟨0, false, 0⟩) rfl rfl (gt_inf _) (by kernel_rfl) (gt_one _) ?_); clear H; intro w24 H; try simp only [Act.put]))
        replace b1r := keepRow b1r H.below
        replace P := P.grow H.below
        replace hB := below_then hB (Nat.le_refl _) H.below
        have r17 := H.get List.mem_cons_self
        generalize w23.heap.size = t17 at *
        clear H
        by_cases hi : (k : Int) < z.length
        · obtain ⟨ra, zc', ez, hcz⟩ := (G.grow hB).cell (by omega)
          cases ez
          have hi2 : k < z.length := by omega
          have A := hcz k _ (List.getElem?_eq_getElem hi2)
          have hU := G.ok _ (List.getElem_mem hi2)
          generalize z[k] = t at A hU
          clear hcz
          go_upto_region 17 with (first | ((with_reducible refine wpList_load44 rfl _ rfl _ rfl t A ?_); simp only [Act.put, List.setIfInBounds_toArray, List.set_cons_succ, List.set_cons_zero]) | ((with_reducible refine wpList_store_row rfl 44 _ _ rfl t17 (gtA t) rfl rfl 44 _ r17 (gt_inf _) rfl (gt_one _) ?_); try simp only [Act.put]))
          replace b1r : (w24.setRow t17 (gtA t)).heap[b1]? = some (.cells (blA pc words el (.slice ao l.length cap)) 25) := by rw [setRow_other _ _ _ _ (by omega)]; exact b1r
          replace P := P.row (d := gtA t) y1 y2 y3 y4 y5 y6
          replace hB := below_setRow (cs := gtA t) hB hlo17
          replace r17 : (w24.setRow t17 (gtA t)).heap[t17]? = some (.cells (gtA t) 44) := setRow_heap _ _ _ _ _ _ r17
          generalize w24.setRow t17 (gtA t) = w24' at *
          clear A
  
          go_wp2_with (first | ((with_reducible refine wpList_load_if rfl 44 _ rfl _ rfl 44 _ (0, 0) _ r17 Tryd.underlying44 rfl (gt_inf _) ?_); simp only [Act.put, List.setIfInBounds_toArray, List.set_cons_succ, List.set_cons_zero]) | (go_at_call 9; (with_reducible refine (take_c P.r1 t hU J.g4 J.g1 J.le).mono ?_); rintro e w25 ⟨rfl, R⟩; dsimp only; replace hB := R.low hB hw1 hw2; replace b1r := R.kept b1r (ne_of_type b1r P.r1.top (by decide)) (ne_of_type b1r P.r1.vals (by decide)); replace r17 := R.kept r17 (ne_of_type r17 P.r1.top (by decide)) (ne_of_type r17 P.r1.vals (by decide)); replace P := P.one R; clear R) | (go_at_call 9; (with_reducible refine (take_c P.r2 t hU J.g4 J.g1 J.le).mono ?_); rintro e w26 ⟨rfl, R⟩; dsimp only; replace hB := R.low hB hw3 hw4; replace b1r := R.kept b1r (ne_of_type b1r P.r2.top (by decide)) (ne_of_type b1r P.r2.vals (by decide)); replace P := P.two R; clear R))
          go_roundw
          case rel => exact ⟨k + 1, takeV l.length T t, by omega, by simp, P, take_inv J t, hB, b1r⟩
          case measure => simp [intOf]; omega
  
        · generalize ht : (⟨0, false, 0⟩ : Gt) = t at *
          have hU : U64 t.value := by rw [← ht]; exact ⟨by decide, by decide⟩
          clear ht
  
          go_wp2_with (first | ((with_reducible refine wpList_load_if rfl 44 _ rfl _ rfl 44 _ (0, 0) _ r17 Tryd.underlying44 rfl (gt_inf _) ?_); simp only [Act.put, List.setIfInBounds_toArray, List.set_cons_succ, List.set_cons_zero]) | (go_at_call 9; (with_reducible refine (take_c P.r1 t hU J.g4 J.g1 J.le).mono ?_); rintro e w25 ⟨rfl, R⟩; dsimp only; replace hB := R.low hB hw1 hw2; replace b1r := R.kept b1r (ne_of_type b1r P.r1.top (by decide)) (ne_of_type b1r P.r1.vals (by decide)); replace r17 := R.kept r17 (ne_of_type r17 P.r1.top (by decide)) (ne_of_type r17 P.r1.vals (by decide)); replace P := P.one R; clear R) | (go_at_call 9; (with_reducible refine (take_c P.r2 t hU J.g4 J.g1 J.le).mono ?_); rintro e w26 ⟨rfl, R⟩; dsimp only; replace hB := R.low hB hw3 hw4; replace b1r := R.kept b1r (ne_of_type b1r P.r2.top (by decide)) (ne_of_type b1r P.r2.vals (by decide)); replace P := P.two R; clear R))
          go_roundw
          case rel => exact ⟨k + 1, takeV l.length T t, by omega, by simp, P, take_inv J t, hB, b1r⟩
          case measure => simp [intOf]; omega
  
    · have hq : (S.guest = false ∧ S.flt = false) ∨ (S.guest = false ∧ S.flt = true) ∨ (S.guest = true ∧ S.flt = false) := by
        have h := I.gf
        cases h1 : S.guest <;> cases h2 : S.flt <;> simp_all
      have hwd := S.word
      rcases hq with ⟨hg, hf⟩ | ⟨hg, hf⟩ | ⟨hg, hf⟩
      all_goals
        go_wp2_with (first | (go_at_call 12; (with_reducible refine (guestR_c P.r1).mono ?_); rintro e w31 ⟨rfl, R⟩; rw [hg]; dsimp only; replace hB := R.low hB hw1 hw2; replace P := P.one R; clear R) | (go_at_call 12; (with_reducible refine (guestR_c P.r2).mono ?_); rintro e w32 ⟨rfl, R⟩; rw [hg]; dsimp only; replace hB := R.low hB hw3 hw4; replace P := P.two R; clear R) | (go_at_call 13; (with_reducible refine (faulted_c P.r1).mono ?_); rintro e w33 ⟨rfl, rfl⟩; rw [hf]; dsimp only) | (go_at_call 13; (with_reducible refine (faulted_c P.r2).mono ?_); rintro e w33 ⟨rfl, rfl⟩; rw [hf]; dsimp only))
        go_ret
        exact ⟨rfl, hB⟩

end
end Go.Proofs.YtioeiogcejikbaaDoor
