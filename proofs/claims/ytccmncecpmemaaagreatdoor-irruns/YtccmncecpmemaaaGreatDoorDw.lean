/- IrRuns: the walk. -/
import Derived.Test.YtccmncecpmemaaaGreatDoorXl
namespace Go.Proofs.YtccmncecpmemaaaGreatDoor
open Go.RowKit
set_option linter.unusedVariables false
set_option linter.unusedSimpArgs false
set_option maxRecDepth 8000

theorem dTake_el (l : List Opr) (D : Dn) (t : Gt) : (dTake l D t).c.el = D.c.el := by
  unfold dTake
  split; rfl; split; rfl; split; rfl; split; rfl; split <;> rfl
section
variable {w : World} {pc words el : Int} {l : List Opr} {c : Cor}
set_option maxHeartbeats 32000000 in
theorem runs_yes {ra : Addr} {cap : Nat} {zo : Option Addr} {zc : Nat} {z : List Gt} (G : Gots w (.slice zo z.length zc) z) (hpc : 0 ≤ pc) (O : OpsIn w (.slice (some ra) l.length cap) l) (hl : l.length * 48 ≤ 140737488351232) (hc : CorOk c) (hE : newE pc words el l c = 0) : Calls Tryz.prog 4 #[blV pc words el (.slice (some ra) l.length cap), c.val, .slice zo z.length zc] w fun e w' => e = .returned (.bool true) ∧ Below w.heap.size w w' := by
  have fit := new_fit O.imm hE
  obtain ⟨fits, last⟩ := new_fits O.imm hE
  have hpos : 0 < l.length := by
    have hR : rightB pc words el l = true := by
      cases h : rightB pc words el l with
      | true => rfl
      | false => unfold newE at hE; rw [h] at hE; simp at hE
    unfold rightB at hR
    rw [Bool.and_eq_true] at hR
    have := (headB_len hR.1).1
    omega
  have hcel : c.el = el ∧ (el = 0 ∨ el = 1) := by
    unfold newE at hE
    split at hE
    · rename_i hR
      split at hE
      · rename_i h
        refine ⟨h.2, ?_⟩
        rw [← h.2]
        have := h.1
        unfold rightC at this
        simp only [Bool.and_eq_true, Bool.or_eq_true, beq_iff_eq] at this
        exact this.1.1.1.1
      · simp at hE
    · simp at hE
  obtain ⟨hcel, hel⟩ := hcel
  have hnv := O.ops.lt hpos
  have himm : ∀ k, 0 ≤ (opAt l k).imm := fun k => (O.imm k).1
  have N0 : NwC w pc words el (.slice (some ra) l.length cap) l c w.heap.size (w.heap.size + 1) ((w.alloc (.cells (blA pc words el (.slice (some ra) l.length cap)) 25)).alloc (.cells c.cells 42)) := by
    have hb := below_alloc w (.cells (blA pc words el (.slice (some ra) l.length cap)) 25)
    have hb2 := below_alloc (w.alloc (.cells (blA pc words el (.slice (some ra) l.length cap)) 25)) (.cells c.cells 42)
    refine ⟨?_, ?_, (O.ops.grow hb).grow hb2, below_then hb (Nat.le_refl _) hb2⟩
    · rw [hb2.block _ (by simp)]; exact heap_alloc_new _ _
    · have := heap_alloc_new (w.alloc (.cells (blA pc words el (.slice (some ra) l.length cap)) 25)) (.cells c.cells 42)
      rw [World.size_alloc] at this; exact this
  go_enter Tryz.func4, Tryz.ntmps4
  go_upto_region 1 with fail
  generalize (w.alloc (.cells (blA pc words el (.slice (some ra) l.length cap)) 25)).alloc (.cells c.cells 42) = w2 at *
  generalize w.heap.size + 1 = b2 at *
  generalize hbb : w.heap.size = b1 at N0
  clear hbb
  go_upto_region 2 with (first | (go_at_call 5; (with_reducible refine (examples_c _).mono ?_); rintro e w3 ⟨rfl, B⟩; dsimp only; have N := N0.grow B; clear N0 B))
  have kc := copied_o (pc := pc) (words := words) (el := el) N.ops hl
  go_upto_region 3 with (first | ((with_reducible refine wpList_load_if rfl 25 _ rfl _ rfl 25 _ (0, 0) _ N.r1 Tryz.underlying25 rfl (bl_inf _ _ _ _) ?_); simp only [Act.put, List.setIfInBounds_toArray, List.set_cons_succ, List.set_cons_zero]) | (go_at_call 16; (with_reducible refine kc.mono ?_); clear kc; rintro e w4 ⟨v2, rfl, OW, B⟩; dsimp only; have hlo := N.below.size; replace N := N.grow B; clear B; have H := has_none w4; have OC := opsC_of OW O.ops.max; have hv1 := OC.one) | ((with_reducible refine wpList_store_new H rfl 25 _ _ rfl (blA pc words el v2) rfl rfl (bl_inf _ _ _ _) (by kernel_rfl) (blk_one _ _ _ _ hv1) ?_); clear H; intro w5 H; try simp only [Act.put]))
  replace N := N.grow H.below
  replace OC := OC.grow H.below
  have r8 := H.get List.mem_cons_self
  have OW5 := own_grow6 OW H.below
  have hs5 := H.below.size
  have hw3s := hlo
  have q1 := lt_of_some N.r1
  have hwB := N.below.size
  rcases OW5.2 with ⟨_, h0⟩ | ⟨ob, cap2, cur, rfl, hob, hrow, h1, h2, h3, -⟩
  · omega
  have hobl := (OW.lt ob rfl).2
  have hb8 : ob ≠ w4.heap.size := by omega
  have hb8l : w4.heap.size < w5.heap.size := lt_of_some r8
  have hb8w : w.heap.size ≤ w4.heap.size := by omega
  have hobw : w.heap.size ≤ ob := by omega
  have hbb1 : b1 ≠ ob := fun e => ne_of_type N.r1 hrow (by decide) e
  have hbb2 : b2 ≠ ob := fun e => ne_of_type N.r2 hrow (by decide) e
  have hbb8 : w4.heap.size ≠ ob := by omega
  clear OW OW5 H hs5 hw3s q1 hv1 hlo hb8 h2
  generalize w4.heap.size = b8 at *
  have kd : Calls Tryz.prog 17 #[blV pc words el (.slice (some ra) l.length cap), c.val] w5 fun e w' => (∃ u, e = .returned (.tuple #[u, vI 0]) ∧ FreshD pc words el (.slice (some ra) l.length cap) l (newD l.length c) w5.heap.size u w') ∧ Below w5.heap.size w5 w' := by
    refine (dNew_c hpc N.ops himm O.cap hc).mono ?_
    rintro e w' ⟨hb, ⟨h, he⟩ | ⟨_, u, rfl, F⟩⟩
    · exact absurd hE h
    · exact ⟨⟨u, rfl, F⟩, hb⟩
  go_upto_region 4 with (first | ((with_reducible refine wpList_load_if rfl 25 _ rfl _ rfl 25 _ (0, 0) _ N.r1 Tryz.underlying25 rfl (bl_inf _ _ _ _) ?_); simp only [Act.put, List.setIfInBounds_toArray, List.set_cons_succ, List.set_cons_zero]) | ((with_reducible refine wpList_load_if rfl 42 _ rfl _ rfl 42 _ (0, 0) _ N.r2 Tryz.underlying42 rfl (Cor.info _) ?_); simp only [Act.put, List.setIfInBounds_toArray, List.set_cons_succ, List.set_cons_zero]) | (go_at_call 17; (with_reducible refine kd.mono ?_); clear kd; rintro e w6 ⟨⟨u, rfl, F⟩, B⟩; dsimp only; replace N := N.grow B; replace OC := OC.grow B; replace r8 := keepRow r8 B; replace hrow := keepRow hrow B; have hs6 := B.size; clear B))
  obtain ⟨g2, vb2, rfl, HD, n3, n4⟩ := F
  have kn := newY_c (words := words) (el := el) hpc OC.ops himm OC.cap hc hE
  have q2 := HD.lt
  have q3 := HD.ltv
  have hbw5 : w.heap.size ≤ w5.heap.size := by omega
  go_upto_region 5 with (first | ((with_reducible refine wpList_load_if rfl 25 _ rfl _ rfl 25 _ (0, 0) _ r8 Tryz.underlying25 rfl (bl_inf _ _ _ _) ?_); simp only [Act.put, List.setIfInBounds_toArray, List.set_cons_succ, List.set_cons_zero]) | ((with_reducible refine wpList_load_if rfl 42 _ rfl _ rfl 42 _ (0, 0) _ N.r2 Tryz.underlying42 rfl (Cor.info _) ?_); simp only [Act.put, List.setIfInBounds_toArray, List.set_cons_succ, List.set_cons_zero]) | (go_at_call 18; (with_reducible refine kn.mono ?_); clear kn; rintro e w7 ⟨u, rfl, F, B⟩; dsimp only; replace N := N.grow B; replace HD := HD.grow B; replace r8 := keepRow r8 B; replace hrow := keepRow hrow B; clear B))
  obtain ⟨g1, vb1, so1, rfl, HR, n1, n2, n5⟩ := F.ex
  have hob2 : so1.ownBlock ≠ some ob := fun e => by have := n5 ob e; omega
  have C : Cls w pc words el (.slice (some ra) l.length cap) l g1 vb1 so1 g2 vb2 (newS l.length c) (newD l.length c) [(ob, cur, 27), (b8, blA pc words el (.slice (some ⟨ob, 0, none⟩) l.length cap2), 25), (b1, blA pc words el (.slice (some ra) l.length cap), 25), (b2, c.cells, 42)] w7 := by
    refine ⟨⟨HR, HD, by omega, fun ra' n cp e => by have := hnv ra' n cp e; exact ⟨by omega, by omega⟩⟩, fun p hp => ?_, N.below, by omega, by omega, by omega, by omega, hnv⟩
    rcases List.mem_cons.1 hp with rfl | hp
    · exact ⟨hrow, by simp⟩
    rcases List.mem_cons.1 hp with rfl | hp
    · exact ⟨r8, by simp⟩
    rcases List.mem_cons.1 hp with rfl | hp
    · exact ⟨N.r1, by simp⟩
    rcases List.mem_cons.1 hp with rfl | hp
    · exact ⟨N.r2, by simp⟩
    · cases hp
  have hKK : l.length * 6 ≤ cap2 * 6 := by omega
  have hn512 := HR.max
  have hn512i : (l.length : Int) ≤ 512 := by omega
  generalize hK : cap2 * 6 = K at h3 hKK
  clear hK N OC r8 hrow F HR HD n1 n2 n3 n4 n5 q2 q3 hs6 hbw5 hwB hobl hb8l
  have I0 := new_inv l.length c
  have LK0 := lk_new hpos c
  have hg0 : (newS l.length c).go = 0 := rfl
  have hw0 : W32 (newS l.length c).word := ⟨Int.le_refl 0, by show (0 : Int) < 4294967296; decide⟩
  have hc0 : (newS l.length c).c = c := rfl
  have hd0 : (newD l.length c).c.el = el := hcel
  generalize newS l.length c = S0 at *
  generalize newD l.length c = D0 at *
  go_upto_region 10 with fail
  go_loopw [13] (fun s13 wr => ∃ (i : Nat) (cu : Array Value), i ≤ l.length ∧ s13 = vI i ∧ cu.size = K ∧ Cls w pc words el (.slice (some ra) l.length cap) l g1 vb1 so1 g2 vb2 S0 D0 [(ob, cu, 27), (b8, blA pc words el (.slice (some ⟨ob, 0, none⟩) l.length cap2), 25), (b1, blA pc words el (.slice (some ra) l.length cap), 25), (b2, c.cells, 42)] wr) (fun s13 _ => ((l.length : Int) - intOf s13).toNat)
  case atStart => exact ⟨0, cur, Nat.zero_le _, rfl, h3, C⟩
  case round =>
    clear C h3 cur
    obtain ⟨i, cu, hi, rfl, h3, C⟩ := hrel
    have z8 : wr.cell? ⟨b8, 3, none⟩ = some (.slice (some ⟨ob, 0, none⟩) l.length cap2) := by rw [cell_of_row _ _ _ _ _ _ (C.get (List.mem_cons_of_mem _ List.mem_cons_self))]; rfl
    by_cases hlt : (i : Int) < l.length
    · have hro := C.get (List.mem_cons_self)
      have hbnd : i * 6 + 6 ≤ K := by omega
      go_wp2_with (first | ((with_reducible refine wpList_built rfl _ _ rfl (opA nilO) (by kernel_rfl) ?_); try simp only [Act.put]) | ((refine wpList_opRow rfl _ _ rfl (i := i) (b := ob) (by first | rfl | simp [Act.eval, Addr.add]) nilO rfl hro h3 hbnd ?_); intro Z hZ; try simp only [Act.put]))
      have C2 := C.over (Z' := Z) hob2 hobw (by intro p hp; simp only [List.mem_cons, List.not_mem_nil, or_false] at hp; rcases hp with rfl | rfl | rfl <;> assumption)
      go_roundw
      case rel => exact ⟨i + 1, Z, by omega, by simp, hZ, C2⟩
      case measure => simp [intOf]; omega
    · replace C := C.less [(b1, blA pc words el (.slice (some ra) l.length cap), 25), (b2, c.cells, 42)] (by intro p hp; simp only [List.mem_cons, List.not_mem_nil, or_false] at hp ⊢; rcases hp with rfl | rfl <;> simp)
      go_upto_region 13 with fail
      clear hlt h3 z8
      refine RelQ.wp_region_rel RelQ.Grows (fun _ _ => False) (fun _ _ _ h _ => h.elim) (Cls w pc words el (.slice (some ra) l.length cap) l g1 vb1 so1 g2 vb2 S0 D0 [(b1, blA pc words el (.slice (some ra) l.length cap), 25), (b2, c.cells, 42)]) [.inl (ptr g1 0), .inl (c.val), .inl (c.val), .inl (.bool false), .inl (.bool false), .inl (ptr g1 0), .inl (gtV ⟨0, false, 0⟩), .inl (vI 1), .inl (.bool false), .inl (.bool false)] (by kernel_rfl) (by kernel_rfl) RelQ.grows_refl (fun _ _ h hb => h.grow hb) (C.grow (below_dr _)) (by simp [RelQ.upK]) ?_
      refine ⟨fun w3 hC _ => RelQ.uponG_yes rfl ((by go_simp; first | exact RelQ.grows_refl _ | exact ⟨RelQ.grows_refl _, rfl⟩)), ?_⟩
      simp only [Act.put, List.setIfInBounds_toArray, List.set_cons_succ, List.set_cons_zero]
      refine ⟨fun w3 hC hf => RelQ.uponG_yes rfl ((by go_simp; refine (core_c hC.both.r).mono ?_; rintro e w4 ⟨rfl, hb⟩; exact ⟨by rw [hc0], hb⟩)), ?_⟩
      simp only [Act.put, List.setIfInBounds_toArray, List.set_cons_succ, List.set_cons_zero]
      refine ⟨fun w3 hC hf => RelQ.uponG_yes rfl (by exact rel_load29 (hC.get (List.mem_cons_of_mem _ List.mem_cons_self))), ?_⟩
      simp only [Act.put, List.setIfInBounds_toArray, List.set_cons_succ, List.set_cons_zero]
      refine ⟨fun w3 hC hf => RelQ.uponG_yes rfl (by exact rel_neqC), ?_⟩
      simp only [Act.put, List.setIfInBounds_toArray, List.set_cons_succ, List.set_cons_zero]
      refine ⟨fun w3 hC _ => RelQ.uponG_yes rfl ((by go_simp; first | exact RelQ.grows_refl _ | exact ⟨RelQ.grows_refl _, rfl⟩)), ?_⟩
      simp only [Act.put, List.setIfInBounds_toArray, List.set_cons_succ, List.set_cons_zero]
      refine ⟨fun w3 hC _ => RelQ.uponG_yes rfl ((by go_simp; first | exact RelQ.grows_refl _ | exact ⟨RelQ.grows_refl _, rfl⟩)), ?_⟩
      simp only [Act.put, List.setIfInBounds_toArray, List.set_cons_succ, List.set_cons_zero]
      refine ⟨fun w3 hC _ => RelQ.uponG_yes rfl ((by go_simp; first | exact RelQ.grows_refl _ | exact ⟨RelQ.grows_refl _, rfl⟩)), ?_⟩
      simp only [Act.put, List.setIfInBounds_toArray, List.set_cons_succ, List.set_cons_zero]
      refine ⟨fun w3 hC hf => RelQ.uponG_yes rfl ((by go_simp; refine (take_0b hC.both.r hg0 ⟨0, false, 0⟩).mono ?_; rintro e w4 ⟨rfl, hb⟩; exact ⟨rfl, hb⟩)), ?_⟩
      simp only [Act.put, List.setIfInBounds_toArray, List.set_cons_succ, List.set_cons_zero]
      refine ⟨fun w3 hC _ => RelQ.uponG_yes rfl ((by go_simp; first | exact RelQ.grows_refl _ | exact ⟨RelQ.grows_refl _, rfl⟩)), ?_⟩
      simp only [Act.put, List.setIfInBounds_toArray, List.set_cons_succ, List.set_cons_zero]
      refine ⟨fun w3 hC _ => RelQ.uponG_yes rfl ((by go_simp; first | exact RelQ.grows_refl _ | exact ⟨RelQ.grows_refl _, rfl⟩)), ?_⟩
      simp only [Act.put, List.setIfInBounds_toArray, List.set_cons_succ, List.set_cons_zero]
      intro w9 C13 hC13
      clear hC13
      go_upto_region 16 with fail
      go_loopw [14] (fun s14 wr => ∃ (k : Nat) (S : Rn) (D : Dn), s14 = vI k ∧ k ≤ S.next ∧ Inv l.length S ∧ Lk l.length S D ∧ D.c.el = el ∧ S.go = 0 ∧ W32 S.word ∧ Cls w pc words el (.slice (some ra) l.length cap) l g1 vb1 so1 g2 vb2 S D [(b1, blA pc words el (.slice (some ra) l.length cap), 25), (b2, c.cells, 42)] wr) (fun s14 _ => ((l.length : Int) + 1 - intOf s14).toNat)
      case atStart => exact ⟨0, S0, D0, rfl, Nat.zero_le _, I0, LK0, hd0, hg0, hw0, C13⟩
      case round =>
        clear C C13 I0 LK0 hd0 hg0 hw0 hc0
        obtain ⟨k, S, D, rfl, hkS, I, LK, he, hg, hwd, C⟩ := hrel
        have hkl : (k : Int) ≤ l.length := by have := I.le; omega
        have z3 : wr.cell? ⟨b1, 3, none⟩ = some (.slice (some ra) l.length cap) := by rw [cell_of_row _ _ _ _ _ _ (C.get List.mem_cons_self)]; rfl
        have J := next_inv I
        have hend := next_end (l := l) I.le
        obtain ⟨LKT, heT⟩ := lk_next el fit (fun k hk => (last k hk).2) LK he
        have WO := next_wof (fun k hk => (last k hk).1) hg (l := l)
        have WD : W32 (nextV l S).word := runs_word fit _ _ hwd
        have hnx : k ≤ (nextV l S).next ∧ ((nextV l S).go ≠ 0 → k + 1 ≤ (nextV l S).next) := by
          have h1 := run_next l.length S I.le
          refine ⟨Nat.le_trans hkS h1.1, fun hgo => ?_⟩
          obtain ⟨j, a1, a2, a3, _⟩ := next_want hg I.le hgo
          omega
        have hin := lk_din LK hg
        have k8 := fun x (H : RunAt l g1 vb1 so1 S x) => next_c H fit I.le
        have k9 : ∀ x, DocAt pc words el (.slice (some ra) l.length cap) l g2 vb2 D x → Calls Tryz.prog 22 #[ptr g2 0] x fun e w' => e = .returned (.tuple #[wnV (nextV l S).w, .bool ((nextV l S).go != 0)]) ∧ DT pc words el (.slice (some ra) l.length cap) l g2 vb2 (dNext el l D) x w' := fun x H => by
          have := dNext_c H hel fits last hin
          rw [lk_outW LKT, LKT.waits] at this
          exact this
        have k10 : ∀ x, RunAt l g1 vb1 so1 (nextV l S) x → Calls Tryz.prog 21 #[ptr g1 0] x fun e w' => e = .returned (.tuple #[wnV (nextV l S).w, .bool ((nextV l S).go != 0)]) ∧ RT l g1 vb1 so1 (nextV l S) x w' := fun x H => by
          have := next_c H fit J.le
          rw [hend] at this
          exact this
        clear hend hin LK I he hg hwd hkS
        generalize nextV l S = T at *
        generalize dNext el l D = F at *
        have k8 := k8 _ C.both.r
        go_upto_region 19 with (first | (go_at_call 21; (with_reducible refine k8.mono ?_); clear k8; rintro e w12 ⟨rfl, R⟩; dsimp only; have H := has_none w12) | ((with_reducible refine wpList_store_new H rfl 56 _ _ rfl (wnA T.w) rfl rfl (wn_inf _) (by kernel_rfl) (wn_one _) ?_); clear H; intro w13 H; try simp only [Act.put]))
        replace C := (C.one R).add H (by decide)
        generalize w12.heap.size = t15 at *
        clear H R
        have k9 := k9 _ C.both.d
        go_upto_region 20 with (first | (go_at_call 22; (with_reducible refine k9.mono ?_); clear k9; rintro e w14 ⟨rfl, R⟩; dsimp only; have H := has_none w14) | ((with_reducible refine wpList_store_new H rfl 56 _ _ rfl (wnA T.w) rfl rfl (wn_inf _) (by kernel_rfl) (wn_one _) ?_); clear H; intro w15 H; try simp only [Act.put]))
        replace C := (C.two R).add H (by decide)
        generalize w14.heap.size = t17 at *
        clear H R
        have k10 := k10 _ C.both.r
        go_upto_region 21 with (first | (go_at_call 21; (with_reducible refine k10.mono ?_); clear k10; rintro e w16 ⟨rfl, R⟩; dsimp only; have H := has_none w16) | ((with_reducible refine wpList_store_new H rfl 56 _ _ rfl (wnA T.w) rfl rfl (wn_inf _) (by kernel_rfl) (wn_one _) ?_); clear H; intro w17 H; try simp only [Act.put]))
        replace C := (C.one R).add H (by decide)
        generalize w16.heap.size = t19 at *
        clear H R
        have kg := guestR_c C.both.r
        go_upto_region 22 with (go_at_call 23; (with_reducible refine kg.mono ?_); clear kg; rintro e w18 ⟨rfl, R⟩; dsimp only)
        replace C := C.one R
        clear R z3
        have hFf := LKT.flt
        have hFg := LKT.guest
        have hFw := LKT.word
        have hFc := LKT.c
        have hWw : IntKind.u64.wrap T.word = T.word := by have h1 := WD.1; have h2 := WD.2; simp only [IntKind.wrap, IntKind.signed, IntKind.bits]; simp; omega
        refine RelQ.wp_region_rel RelQ.Grows (fun _ _ => False) (fun _ _ _ h _ => h.elim) (Cls w pc words el (.slice (some ra) l.length cap) l g1 vb1 so1 g2 vb2 T F [(t19, wnA T.w, 56), (t17, wnA T.w, 56), (t15, wnA T.w, 56), (b1, blA pc words el (.slice (some ra) l.length cap), 25), (b2, c.cells, 42)]) [.inl (wnV T.w), .inl (wnV T.w), .inl (.bool false), .inl (.bool false), .inl (.bool (T.go != 0)), .inl (.bool (T.go != 0)), .inl (.bool false), .inl (.bool false), .inl (.bool false), .inl (wnV T.w), .inl (wnV T.w), .inl (.bool false), .inl (.bool false), .inl (.bool false), .inl (.bool (T.go != 0)), .inl (.bool (T.go != 0)), .inl (.bool false), .inl (.bool false), .inl (.bool false), .inl (ptr g1 0), .inl (T.c.val), .inl (ptr g2 0), .inl (ptr g2 0), .inl (ptr g2 4), .inl (T.c.val), .inl (.bool false), .inl (.bool false), .inl (.bool false), .inl (ptr g1 0), .inl (.bool T.flt), .inl (ptr g2 0), .inl (ptr g2 0), .inl (ptr g2 67), .inl (.bool T.flt), .inl (.bool false), .inl (.bool false), .inl (.bool false), .inl (.bool T.guest), .inl (ptr g2 0), .inl (ptr g2 0), .inl (ptr g2 69), .inl (.bool T.guest), .inl (.bool false), .inl (.bool false), .inl (.bool false), .inl (.int .u32 T.word), .inl (vU T.word), .inl (ptr g2 0), .inl (ptr g2 0), .inl (ptr g2 68), .inl (vU T.word), .inl (.bool false), .inl (.bool false)] (by kernel_rfl) (by kernel_rfl) RelQ.grows_refl (fun _ _ h hb => h.grow hb) (C.grow (below_dr _)) (by simp [RelQ.upK]) ?_
        refine ⟨fun w3 hC hf => RelQ.uponG_yes rfl (by exact rel_loadW (hC.get (List.mem_cons_of_mem _ (List.mem_cons_of_mem _ List.mem_cons_self)))), ?_⟩
        simp only [Act.put, List.setIfInBounds_toArray, List.set_cons_succ, List.set_cons_zero]
        refine ⟨fun w3 hC hf => RelQ.uponG_yes rfl (by exact rel_loadW (hC.get (List.mem_cons_of_mem _ List.mem_cons_self))), ?_⟩
        simp only [Act.put, List.setIfInBounds_toArray, List.set_cons_succ, List.set_cons_zero]
        refine ⟨fun w3 hC hf => RelQ.uponG_yes rfl (by exact rel_neqW), ?_⟩
        simp only [Act.put, List.setIfInBounds_toArray, List.set_cons_succ, List.set_cons_zero]
        refine ⟨fun w3 hC _ => RelQ.uponG_yes rfl ((by go_simp; first | exact RelQ.grows_refl _ | exact ⟨RelQ.grows_refl _, rfl⟩)), ?_⟩
        simp only [Act.put, List.setIfInBounds_toArray, List.set_cons_succ, List.set_cons_zero]
        refine ⟨fun w3 hC _ => RelQ.uponG_yes rfl ((by go_simp; first | exact RelQ.grows_refl _ | exact ⟨RelQ.grows_refl _, rfl⟩)), ?_⟩
        simp only [Act.put, List.setIfInBounds_toArray, List.set_cons_succ, List.set_cons_zero]
        refine ⟨fun w3 hC _ => RelQ.uponG_yes rfl ((by go_simp; first | exact RelQ.grows_refl _ | exact ⟨RelQ.grows_refl _, rfl⟩)), ?_⟩
        simp only [Act.put, List.setIfInBounds_toArray, List.set_cons_succ, List.set_cons_zero]
        refine ⟨fun w3 hC _ => RelQ.uponG_yes rfl ((by go_simp; first | exact RelQ.grows_refl _ | exact ⟨RelQ.grows_refl _, rfl⟩)), ?_⟩
        simp only [Act.put, List.setIfInBounds_toArray, List.set_cons_succ, List.set_cons_zero]
        refine ⟨fun w3 hC _ => RelQ.uponG_yes rfl ((by go_simp; first | exact RelQ.grows_refl _ | exact ⟨RelQ.grows_refl _, rfl⟩)), ?_⟩
        simp only [Act.put, List.setIfInBounds_toArray, List.set_cons_succ, List.set_cons_zero]
        refine ⟨fun w3 hC _ => RelQ.uponG_yes rfl ((by go_simp; first | exact RelQ.grows_refl _ | exact ⟨RelQ.grows_refl _, rfl⟩)), ?_⟩
        simp only [Act.put, List.setIfInBounds_toArray, List.set_cons_succ, List.set_cons_zero]
        refine ⟨fun w3 hC hf => RelQ.uponG_yes rfl (by exact rel_loadW (hC.get List.mem_cons_self)), ?_⟩
        simp only [Act.put, List.setIfInBounds_toArray, List.set_cons_succ, List.set_cons_zero]
        refine ⟨fun w3 hC hf => RelQ.uponG_yes rfl (by exact rel_loadW (hC.get (List.mem_cons_of_mem _ (List.mem_cons_of_mem _ List.mem_cons_self)))), ?_⟩
        simp only [Act.put, List.setIfInBounds_toArray, List.set_cons_succ, List.set_cons_zero]
        refine ⟨fun w3 hC hf => RelQ.uponG_yes rfl (by exact rel_neqW), ?_⟩
        simp only [Act.put, List.setIfInBounds_toArray, List.set_cons_succ, List.set_cons_zero]
        refine ⟨fun w3 hC _ => RelQ.uponG_yes rfl ((by go_simp; first | exact RelQ.grows_refl _ | exact ⟨RelQ.grows_refl _, rfl⟩)), ?_⟩
        simp only [Act.put, List.setIfInBounds_toArray, List.set_cons_succ, List.set_cons_zero]
        refine ⟨fun w3 hC _ => RelQ.uponG_yes rfl ((by go_simp; first | exact RelQ.grows_refl _ | exact ⟨RelQ.grows_refl _, rfl⟩)), ?_⟩
        simp only [Act.put, List.setIfInBounds_toArray, List.set_cons_succ, List.set_cons_zero]
        refine ⟨fun w3 hC _ => RelQ.uponG_yes rfl ((by go_simp; first | exact RelQ.grows_refl _ | exact ⟨RelQ.grows_refl _, rfl⟩)), ?_⟩
        simp only [Act.put, List.setIfInBounds_toArray, List.set_cons_succ, List.set_cons_zero]
        refine ⟨fun w3 hC _ => RelQ.uponG_yes rfl ((by go_simp; first | exact RelQ.grows_refl _ | exact ⟨RelQ.grows_refl _, rfl⟩)), ?_⟩
        simp only [Act.put, List.setIfInBounds_toArray, List.set_cons_succ, List.set_cons_zero]
        refine ⟨fun w3 hC _ => RelQ.uponG_yes rfl ((by go_simp; first | exact RelQ.grows_refl _ | exact ⟨RelQ.grows_refl _, rfl⟩)), ?_⟩
        simp only [Act.put, List.setIfInBounds_toArray, List.set_cons_succ, List.set_cons_zero]
        refine ⟨fun w3 hC _ => RelQ.uponG_yes rfl ((by go_simp; first | exact RelQ.grows_refl _ | exact ⟨RelQ.grows_refl _, rfl⟩)), ?_⟩
        simp only [Act.put, List.setIfInBounds_toArray, List.set_cons_succ, List.set_cons_zero]
        refine ⟨fun w3 hC _ => RelQ.uponG_yes rfl ((by go_simp; first | exact RelQ.grows_refl _ | exact ⟨RelQ.grows_refl _, rfl⟩)), ?_⟩
        simp only [Act.put, List.setIfInBounds_toArray, List.set_cons_succ, List.set_cons_zero]
        refine ⟨fun w3 hC _ => RelQ.uponG_yes rfl ((by go_simp; first | exact RelQ.grows_refl _ | exact ⟨RelQ.grows_refl _, rfl⟩)), ?_⟩
        simp only [Act.put, List.setIfInBounds_toArray, List.set_cons_succ, List.set_cons_zero]
        refine ⟨fun w3 hC hf => RelQ.uponG_yes rfl ((by go_simp; refine (core_c hC.both.r).mono ?_; rintro e w4 ⟨rfl, hb⟩; exact ⟨rfl, hb⟩)), ?_⟩
        simp only [Act.put, List.setIfInBounds_toArray, List.set_cons_succ, List.set_cons_zero]
        refine ⟨fun w3 hC _ => RelQ.uponG_yes rfl ((by go_simp; first | exact RelQ.grows_refl _ | exact ⟨RelQ.grows_refl _, rfl⟩)), ?_⟩
        simp only [Act.put, List.setIfInBounds_toArray, List.set_cons_succ, List.set_cons_zero]
        refine ⟨fun w3 hC _ => RelQ.uponG_yes rfl ((by go_simp; first | exact RelQ.grows_refl _ | exact ⟨RelQ.grows_refl _, rfl⟩)), ?_⟩
        simp only [Act.put, List.setIfInBounds_toArray, List.set_cons_succ, List.set_cons_zero]
        refine ⟨fun w3 hC _ => RelQ.uponG_yes rfl ((by go_simp; first | exact RelQ.grows_refl _ | exact ⟨RelQ.grows_refl _, rfl⟩)), ?_⟩
        simp only [Act.put, List.setIfInBounds_toArray, List.set_cons_succ, List.set_cons_zero]
        refine ⟨fun w3 hC hf => RelQ.uponG_yes rfl (by rw [← hFc]; exact rel_loadCD hC.both.d), ?_⟩
        simp only [Act.put, List.setIfInBounds_toArray, List.set_cons_succ, List.set_cons_zero]
        refine ⟨fun w3 hC hf => RelQ.uponG_yes rfl (by exact rel_neqC), ?_⟩
        simp only [Act.put, List.setIfInBounds_toArray, List.set_cons_succ, List.set_cons_zero]
        refine ⟨fun w3 hC _ => RelQ.uponG_yes rfl ((by go_simp; first | exact RelQ.grows_refl _ | exact ⟨RelQ.grows_refl _, rfl⟩)), ?_⟩
        simp only [Act.put, List.setIfInBounds_toArray, List.set_cons_succ, List.set_cons_zero]
        refine ⟨fun w3 hC _ => RelQ.uponG_yes rfl ((by go_simp; first | exact RelQ.grows_refl _ | exact ⟨RelQ.grows_refl _, rfl⟩)), ?_⟩
        simp only [Act.put, List.setIfInBounds_toArray, List.set_cons_succ, List.set_cons_zero]
        refine ⟨fun w3 hC _ => RelQ.uponG_yes rfl ((by go_simp; first | exact RelQ.grows_refl _ | exact ⟨RelQ.grows_refl _, rfl⟩)), ?_⟩
        simp only [Act.put, List.setIfInBounds_toArray, List.set_cons_succ, List.set_cons_zero]
        refine ⟨fun w3 hC hf => RelQ.uponG_yes rfl ((by go_simp; refine (faulted_c hC.both.r).mono ?_; rintro e w4 ⟨rfl, rfl⟩; exact ⟨rfl, RelQ.grows_refl _⟩)), ?_⟩
        simp only [Act.put, List.setIfInBounds_toArray, List.set_cons_succ, List.set_cons_zero]
        refine ⟨fun w3 hC _ => RelQ.uponG_yes rfl ((by go_simp; first | exact RelQ.grows_refl _ | exact ⟨RelQ.grows_refl _, rfl⟩)), ?_⟩
        simp only [Act.put, List.setIfInBounds_toArray, List.set_cons_succ, List.set_cons_zero]
        refine ⟨fun w3 hC _ => RelQ.uponG_yes rfl ((by go_simp; first | exact RelQ.grows_refl _ | exact ⟨RelQ.grows_refl _, rfl⟩)), ?_⟩
        simp only [Act.put, List.setIfInBounds_toArray, List.set_cons_succ, List.set_cons_zero]
        refine ⟨fun w3 hC _ => RelQ.uponG_yes rfl ((by go_simp; first | exact RelQ.grows_refl _ | exact ⟨RelQ.grows_refl _, rfl⟩)), ?_⟩
        simp only [Act.put, List.setIfInBounds_toArray, List.set_cons_succ, List.set_cons_zero]
        refine ⟨fun w3 hC _ => RelQ.uponG_yes rfl ((by have z := hC.both.d.c67; rw [hFf] at z; go_simp; first | exact RelQ.grows_refl _ | exact ⟨RelQ.grows_refl _, rfl⟩)), ?_⟩
        simp only [Act.put, List.setIfInBounds_toArray, List.set_cons_succ, List.set_cons_zero]
        refine ⟨fun w3 hC _ => RelQ.uponG_yes rfl ((by go_simp; first | exact RelQ.grows_refl _ | exact ⟨RelQ.grows_refl _, rfl⟩)), ?_⟩
        simp only [Act.put, List.setIfInBounds_toArray, List.set_cons_succ, List.set_cons_zero]
        refine ⟨fun w3 hC _ => RelQ.uponG_yes rfl ((by go_simp; first | exact RelQ.grows_refl _ | exact ⟨RelQ.grows_refl _, rfl⟩)), ?_⟩
        simp only [Act.put, List.setIfInBounds_toArray, List.set_cons_succ, List.set_cons_zero]
        refine ⟨fun w3 hC _ => RelQ.uponG_yes rfl ((by go_simp; first | exact RelQ.grows_refl _ | exact ⟨RelQ.grows_refl _, rfl⟩)), ?_⟩
        simp only [Act.put, List.setIfInBounds_toArray, List.set_cons_succ, List.set_cons_zero]
        refine ⟨fun w3 hC _ => RelQ.uponG_yes rfl ((by go_simp; first | exact RelQ.grows_refl _ | exact ⟨RelQ.grows_refl _, rfl⟩)), ?_⟩
        simp only [Act.put, List.setIfInBounds_toArray, List.set_cons_succ, List.set_cons_zero]
        refine ⟨fun w3 hC _ => RelQ.uponG_yes rfl ((by go_simp; first | exact RelQ.grows_refl _ | exact ⟨RelQ.grows_refl _, rfl⟩)), ?_⟩
        simp only [Act.put, List.setIfInBounds_toArray, List.set_cons_succ, List.set_cons_zero]
        refine ⟨fun w3 hC _ => RelQ.uponG_yes rfl ((by go_simp; first | exact RelQ.grows_refl _ | exact ⟨RelQ.grows_refl _, rfl⟩)), ?_⟩
        simp only [Act.put, List.setIfInBounds_toArray, List.set_cons_succ, List.set_cons_zero]
        refine ⟨fun w3 hC _ => RelQ.uponG_yes rfl ((by go_simp; first | exact RelQ.grows_refl _ | exact ⟨RelQ.grows_refl _, rfl⟩)), ?_⟩
        simp only [Act.put, List.setIfInBounds_toArray, List.set_cons_succ, List.set_cons_zero]
        refine ⟨fun w3 hC _ => RelQ.uponG_yes rfl ((by have z := hC.both.d.c69; rw [hFg] at z; go_simp; first | exact RelQ.grows_refl _ | exact ⟨RelQ.grows_refl _, rfl⟩)), ?_⟩
        simp only [Act.put, List.setIfInBounds_toArray, List.set_cons_succ, List.set_cons_zero]
        refine ⟨fun w3 hC _ => RelQ.uponG_yes rfl ((by go_simp; first | exact RelQ.grows_refl _ | exact ⟨RelQ.grows_refl _, rfl⟩)), ?_⟩
        simp only [Act.put, List.setIfInBounds_toArray, List.set_cons_succ, List.set_cons_zero]
        refine ⟨fun w3 hC _ => RelQ.uponG_yes rfl ((by go_simp; first | exact RelQ.grows_refl _ | exact ⟨RelQ.grows_refl _, rfl⟩)), ?_⟩
        simp only [Act.put, List.setIfInBounds_toArray, List.set_cons_succ, List.set_cons_zero]
        refine ⟨fun w3 hC _ => RelQ.uponG_yes rfl ((by go_simp; first | exact RelQ.grows_refl _ | exact ⟨RelQ.grows_refl _, rfl⟩)), ?_⟩
        simp only [Act.put, List.setIfInBounds_toArray, List.set_cons_succ, List.set_cons_zero]
        refine ⟨fun w3 hC _ => RelQ.uponG_yes rfl ((by go_simp; first | exact RelQ.grows_refl _ | exact ⟨RelQ.grows_refl _, rfl⟩)), ?_⟩
        simp only [Act.put, List.setIfInBounds_toArray, List.set_cons_succ, List.set_cons_zero]
        refine ⟨fun w3 hC _ => RelQ.uponG_yes rfl ((by have hq := hWw; go_simp; first | exact RelQ.grows_refl _ | exact ⟨RelQ.grows_refl _, rfl⟩)), ?_⟩
        simp only [Act.put, List.setIfInBounds_toArray, List.set_cons_succ, List.set_cons_zero]
        refine ⟨fun w3 hC _ => RelQ.uponG_yes rfl ((by go_simp; first | exact RelQ.grows_refl _ | exact ⟨RelQ.grows_refl _, rfl⟩)), ?_⟩
        simp only [Act.put, List.setIfInBounds_toArray, List.set_cons_succ, List.set_cons_zero]
        refine ⟨fun w3 hC _ => RelQ.uponG_yes rfl ((by go_simp; first | exact RelQ.grows_refl _ | exact ⟨RelQ.grows_refl _, rfl⟩)), ?_⟩
        simp only [Act.put, List.setIfInBounds_toArray, List.set_cons_succ, List.set_cons_zero]
        refine ⟨fun w3 hC _ => RelQ.uponG_yes rfl ((by go_simp; first | exact RelQ.grows_refl _ | exact ⟨RelQ.grows_refl _, rfl⟩)), ?_⟩
        simp only [Act.put, List.setIfInBounds_toArray, List.set_cons_succ, List.set_cons_zero]
        refine ⟨fun w3 hC _ => RelQ.uponG_yes rfl ((by have z := hC.both.d.c68; rw [hFw] at z; go_simp; first | exact RelQ.grows_refl _ | exact ⟨RelQ.grows_refl _, rfl⟩)), ?_⟩
        simp only [Act.put, List.setIfInBounds_toArray, List.set_cons_succ, List.set_cons_zero]
        refine ⟨fun w3 hC _ => RelQ.uponG_yes rfl ((by go_simp; first | exact RelQ.grows_refl _ | exact ⟨RelQ.grows_refl _, rfl⟩)), ?_⟩
        simp only [Act.put, List.setIfInBounds_toArray, List.set_cons_succ, List.set_cons_zero]
        refine ⟨fun w3 hC _ => RelQ.uponG_yes rfl ((by go_simp; first | exact RelQ.grows_refl _ | exact ⟨RelQ.grows_refl _, rfl⟩)), ?_⟩
        simp only [Act.put, List.setIfInBounds_toArray, List.set_cons_succ, List.set_cons_zero]
        intro w19 C19 hC19
        clear hC19 hFf hFg hFw hFc hWw C
        cases hgo : (T.go != 0) with
        | false =>
          have hg0T : T.go = 0 := by simpa using hgo
          have kt := take_0b C19.both.r hg0T ⟨0, false, 0⟩
          go_wp2_with (first | ((with_reducible refine wpList_built rfl _ _ rfl (gtA ⟨0, false, 0⟩) (by kernel_rfl) ?_); try simp only [Act.put]) | (go_at_call 20; (with_reducible refine kt.mono ?_); clear kt; rintro e w20 ⟨rfl, B⟩; dsimp only))
          go_ret
          exact ⟨rfl, (C19.grow B).below⟩
        | true =>
          have hgT : T.go ≠ 0 := by simpa using hgo
          have hFw : F.waits = true := by rw [LKT.waits]; exact hgo
          have hk1 := hnx.2 hgT
          have hTl := (WO.pos hgT).2.1
          have hleft : F.left = false := by
            cases hh : F.left with
            | false => rfl
            | true => exact absurd (LKT.out hh).2 hgT
          have hFat : 1 ≤ F.at_ ∧ F.at_ ≤ l.length := by
            rw [(LKT.run hleft).1]
            exact ⟨(WO.pos hgT).1, hTl⟩
          have LK' := fun t => lk_take LKT WO (fun k hk => (last k hk).2) hgT t
          have hE0 : takeE T = 0 := by unfold takeE; rw [if_neg hgT]
          have hkk : (0 : Int) ≤ (k : Int) ∧ (k : Int) < 513 := by omega
          have H := has_none w19
          have o1 : ∀ b, so1.ownBlock = some b → b < w19.heap.size := fun b hb => (C19.both.r.ob hb).1
          have o2 := C19.below.size
          have o3 := C19.lt (b := b1) (List.mem_cons_of_mem _ (List.mem_cons_of_mem _ (List.mem_cons_of_mem _ List.mem_cons_self)))
          have o4 := C19.lt (b := b2) (List.mem_cons_of_mem _ (List.mem_cons_of_mem _ (List.mem_cons_of_mem _ (List.mem_cons_of_mem _ List.mem_cons_self))))
          replace C19 := C19.less [(b1, blA pc words el (.slice (some ra) l.length cap), 25), (b2, c.cells, 42)] (by intro p hp; simp only [List.mem_cons, List.not_mem_nil, or_false] at hp ⊢; rcases hp with rfl | rfl <;> simp)
          have z2 : (0 : Int) ≤ (k : Int) ∧ (k : Int) < 18446744073709551616 := by omega
          have z3 : w19.cell? ⟨b1, 3, none⟩ = some (.slice (some ra) l.length cap) := by rw [cell_of_row _ _ _ _ _ _ (C19.get List.mem_cons_self)]; rfl
          go_upto_region 27 with (first | ((with_reducible refine wpList_built rfl _ _ rfl (gtA ⟨(k : Int), ((k : Int).tmod 2 == 0), 0⟩) (by kernel_rfl) ?_); try simp only [Act.put]) | ((with_reducible refine wpList_store_new H rfl 54 _ _ rfl (gtA ⟨(k : Int), ((k : Int).tmod 2 == 0), 0⟩) rfl rfl (gt_inf _) (by kernel_rfl) (gt_one _) ?_); clear H; intro w20 H; try simp only [Act.put]))
          have C := C19.add H (by decide)
          have hb1t : b1 ≠ w19.heap.size := by omega
          have hb2t : b2 ≠ w19.heap.size := by omega
          have hot : so1.ownBlock ≠ some w19.heap.size := fun e => by have := o1 _ e; omega
          generalize w19.heap.size = t23 at *
          clear H C19 z3 o3 o4 o1
          by_cases hi : (k : Int) < z.length
          · obtain ⟨za, zc', ez, hcz⟩ := (G.grow C.below).cell (by omega)
            cases ez
            have hi2 : k < z.length := by omega
            have A := hcz k _ (List.getElem?_eq_getElem hi2)
            have hU := G.ok _ (List.getElem_mem hi2)
            generalize z[k] = t at A hU
            clear hcz
            have r23 := C.get List.mem_cons_self
            go_upto_region 29 with (first | ((with_reducible refine wpList_load44 rfl _ rfl _ rfl t A ?_); simp only [Act.put, List.setIfInBounds_toArray, List.set_cons_succ, List.set_cons_zero]) | ((with_reducible refine wpList_store_row rfl 54 _ _ rfl t23 (gtA t) rfl rfl 54 _ r23 (gt_inf _) (by kernel_rfl) (gt_one _) ?_); try simp only [Act.put]))
            have C := C.over (Z' := gtA t) hot o2 (by intro p hp; simp only [List.mem_cons, List.not_mem_nil, or_false] at hp; rcases hp with rfl | rfl <;> assumption)
            clear A r23
            generalize w20.setRow t23 (gtA t) = w21 at *
            have kd := dTake_c C.both.d t hU (fun _ => hFat)
            rw [hFw] at kd
            go_wp2_with (first | ((with_reducible refine wpList_load_if rfl 54 _ rfl _ rfl 54 _ (0, 0) _ (C.get List.mem_cons_self) Tryz.underlying54 rfl (gt_inf _) ?_); simp only [Act.put, List.setIfInBounds_toArray, List.set_cons_succ, List.set_cons_zero]) | (go_at_call 25; (with_reducible refine kd.mono ?_); clear kd; rintro e w22 ⟨rfl, R⟩; dsimp only; replace C := C.two R; clear R; have kt := take_c C.both.r t hU J.g4 J.g1 J.le; rw [hE0] at kt) | (go_at_call 20; (with_reducible refine kt.mono ?_); clear kt; rintro e w23 ⟨rfl, R⟩; dsimp only; replace C := C.one R; clear R))
            go_roundw
            case rel => exact ⟨k + 1, takeV l.length T t, dTake l F t, by simp, Nat.le_trans hk1 (take_next t J.le), take_inv J t, LK' t, by rw [dTake_el]; exact heT, take_go J.g4 t, take_word WD t, C.less _ (fun p hp => List.mem_cons_of_mem _ hp)⟩
            case measure => simp [intOf]; omega
          · have hU : U64 (k : Int) := z2
            generalize ht : (⟨(k : Int), ((k : Int).tmod 2 == 0), 0⟩ : Gt) = t at *
            have hU : U64 t.value := by rw [← ht]; exact hU
            clear ht
            go_upto_region 29 with fail
            generalize w20 = w21 at *
            have kd := dTake_c C.both.d t hU (fun _ => hFat)
            rw [hFw] at kd
            go_wp2_with (first | ((with_reducible refine wpList_load_if rfl 54 _ rfl _ rfl 54 _ (0, 0) _ (C.get List.mem_cons_self) Tryz.underlying54 rfl (gt_inf _) ?_); simp only [Act.put, List.setIfInBounds_toArray, List.set_cons_succ, List.set_cons_zero]) | (go_at_call 25; (with_reducible refine kd.mono ?_); clear kd; rintro e w22 ⟨rfl, R⟩; dsimp only; replace C := C.two R; clear R; have kt := take_c C.both.r t hU J.g4 J.g1 J.le; rw [hE0] at kt) | (go_at_call 20; (with_reducible refine kt.mono ?_); clear kt; rintro e w23 ⟨rfl, R⟩; dsimp only; replace C := C.one R; clear R))
            go_roundw
            case rel => exact ⟨k + 1, takeV l.length T t, dTake l F t, by simp, Nat.le_trans hk1 (take_next t J.le), take_inv J t, LK' t, by rw [dTake_el]; exact heT, take_go J.g4 t, take_word WD t, C.less _ (fun p hp => List.mem_cons_of_mem _ hp)⟩
            case measure => simp [intOf]; omega
end
end Go.Proofs.YtccmncecpmemaaaGreatDoor
