/- OrderFences: the walk. -/
import Derived.Test.YtilbnjldfgofmaaXe
import Derived.Test.YtilbnjldfgofmaaYd
namespace Go.Proofs.Ytilbnjldfgofmaa
open Go.RowKit
set_option linter.unusedVariables false
set_option linter.unusedSimpArgs false
set_option maxRecDepth 8000

theorem merge_sp_all {pc words el : Int} {l : List Opr} (h : rightB pc words el l = true) : sp 0 (mergeL l) = sp 0 l ∧ stepL mergeR (mergeL l) = none := by
  obtain ⟨a, b, c⟩ := run_all (T := fun a b => sp 0 b = sp 0 a) (good_merge (pc := pc) (words := words) (el := el)) (fun _ => rfl) (fun _ _ _ p q => q.trans p) (fun l k m hr hk e => merge_sp hr hk e) l.length l h (Nat.le_refl _)
  exact ⟨c, b⟩
theorem lone_no {m : List Opr} (hr : stepL mergeR m = none) {k1 k2 : Nat} (h1 : k1 < k2) (h2 : k2 < m.length) (e1 : (opAt m k1).kind = 13) (e2 : (opAt m k2).kind = 13) (hb : ∀ q, k1 < q → q < k2 → stopK (opAt m q).kind = false) : False := by
  have hn : nextK stopK m k1 = k2 := next_uniq h1 h2 (by rw [e2]; decide +kernel) hb
  unfold stepL at hr
  rw [List.findSome?_eq_none_iff] at hr
  have := hr k1 (List.mem_range.2 (by omega))
  unfold mergeR mergeAt at this
  rw [hn, if_pos ⟨e1, e2⟩] at this
  cases this
/-- How many fences a scan has met: none, or one with no other behind it. -/
def LoneI (m : List Opr) (k0 k : Nat) (n : Nat) : Prop := (n = 0 ∧ ∀ q, k0 ≤ q → q < k → stopK (opAt m q).kind = false) ∨ (n = 1 ∧ ∃ k1, k0 ≤ k1 ∧ k1 < k ∧ (opAt m k1).kind = 13 ∧ ∀ q, k1 < q → q < k → stopK (opAt m q).kind = false)
theorem LoneI.skip {m : List Opr} {k0 k n : Nat} (h : LoneI m k0 k n) (hs : stopK (opAt m k).kind = false) : LoneI m k0 (k + 1) n := by
  rcases h with ⟨rfl, h⟩ | ⟨rfl, k1, a, b, c, d⟩
  · exact .inl ⟨rfl, fun q q1 q2 => by rcases Nat.lt_or_ge q k with g | g; exact h q q1 g; obtain rfl : q = k := (by omega); exact hs⟩
  · exact .inr ⟨rfl, k1, a, by omega, c, fun q q1 q2 => by rcases Nat.lt_or_ge q k with g | g; exact d q q1 g; obtain rfl : q = k := (by omega); exact hs⟩
theorem LoneI.fence {m : List Opr} {k0 k n : Nat} (h : LoneI m k0 k n) (hr : stepL mergeR m = none) (hk : k < m.length) (h0 : k0 ≤ k) (e : (opAt m k).kind = 13) : n = 0 ∧ LoneI m k0 (k + 1) 1 := by
  rcases h with ⟨rfl, h⟩ | ⟨rfl, k1, a, b, c, d⟩
  · exact ⟨rfl, .inr ⟨rfl, k, h0, by omega, e, fun q q1 q2 => by omega⟩⟩
  · exact (lone_no hr b hk c e d).elim
theorem bits_or (a r : Int) (ha : a = 0 ∨ okR a) (hr : okR r) : bits .or .i64 a r = fR a r := by
  rcases ha with rfl | rfl | rfl | rfl <;> rcases hr with rfl | rfl | rfl <;> decide +kernel
section
variable {pc words el : Int} {l m : List Opr} {v u : Value} {w : World}
theorem last_leav (h : rightB pc words el m = true) : (opAt m (m.length - 1)).kind ≠ 13 ∧ leavK (opAt m (m.length - 1)).kind = true := by
  have h0 := (right_lens h).1
  have hK := kind_at (right_at h (k := m.length - 1) (by omega))
  have hl := last_stop h
  generalize (opAt m (m.length - 1)).kind = k at *
  rcases isK_cases hK with rfl | rfl | rfl | rfl | rfl | rfl | rfl | rfl | rfl | rfl | rfl | rfl | rfl | rfl | rfl | rfl | rfl | rfl <;> first | (exact absurd hl (by decide +kernel)) | decide
theorem sp_ne (h : rightB pc words el m = true) : ∀ (d k : Nat) (a : Int), k + d + 1 = m.length → sp a (m.drop k) ≠ []
  | 0, k, a, e => by
    have hl := last_leav h
    rw [show m.length - 1 = k by omega] at hl
    rw [drop_at (by omega), sp_cons, if_neg hl.1, if_pos hl.2]
    exact List.cons_ne_nil _ _
  | d + 1, k, a, e => by
    rw [drop_at (by omega), sp_cons]
    by_cases h1 : (opAt m k).kind = 13
    · rw [if_pos h1]; exact sp_ne h d (k + 1) _ (by omega)
    · rw [if_neg h1]
      by_cases h2 : leavK (opAt m k).kind = true
      · rw [if_pos h2]; exact List.cons_ne_nil _ _
      · rw [if_neg h2]; exact sp_ne h d (k + 1) _ (by omega)
/-- What OrderFences holds. -/
structure OfW (w : World) (pc words el : Int) (v u : Value) (l m : List Opr) (b1 b4 : Nat) (x : World) : Prop where
  k1 : Bk x b1 pc words el v l
  k4 : Bk x b4 pc words el u m
  low : Below w.heap.size w x
theorem OfW.grow {b1 b4 : Nat} {x y : World} (h : OfW w pc words el v u l m b1 b4 x) (hb : Below x.heap.size x y) : OfW w pc words el v u l m b1 b4 y := ⟨h.k1.grow hb, h.k4.grow hb, below_then h.low (Nat.le_refl _) hb⟩
set_option maxHeartbeats 16000000 in
theorem fences_walk (hpc : 0 ≤ pc) (O : Ops w v l) (himm : ∀ k, 0 ≤ (opAt l k).imm) (hcap : ∀ ao n cap, v = .slice ao n cap → n ≤ cap) : Calls Try.prog 6 #[blV pc words el v] w fun e w' => e = .returned (.bool true) ∧ Below w.heap.size w w' := by
  have hb := below_alloc w (.cells (blA pc words el v) 25)
  have K1 := Bk.new (pc := pc) (words := words) (el := el) O
  go_enter Try.func6, Try.ntmps6
  go_upto_region 1 with fail
  clear O
  generalize w.alloc (.cells (blA pc words el v) 25) = w1 at *
  generalize w.heap.size = b1 at K1 ⊢
  go_upto_region 2 with (first | (go_at_call 7; (with_reducible refine (examples_c _).mono ?_); rintro e w2 ⟨rfl, B⟩; dsimp only))
  replace K1 := K1.grow B
  replace hb := below_then hb (Nat.le_refl _) B
  clear B
  have kp := merge_pass (words := words) (el := el) hpc K1.ops himm hcap
  have r1 := K1.r
  cases hR : rightB pc words el l with
  | false =>
    replace hR := show Hid _ from hR
    go_upto_region 3 with (first | ((with_reducible refine wpList_load_if rfl 25 _ rfl _ rfl 25 _ (0, 0) _ r1 Try.underlying25 rfl (bl_inf _ _ _ _) ?_); simp only [Act.put, List.setIfInBounds_toArray, List.set_cons_succ, List.set_cons_zero]) | (go_at_call 10; (with_reducible refine kp.mono ?_); clear kp; rintro e w3 ⟨B, ⟨hr, rfl⟩ | ⟨hr, _⟩⟩; rotate_left; (exfalso; rw [hR.out] at hr; cases hr); dsimp only; clear hr; have Hn := has_none w3) | ((with_reducible refine wpList_store_new Hn rfl 25 _ _ rfl (blA 0 0 0 (.slice none 0 0)) rfl rfl (bl_inf _ _ _ _) (by kernel_rfl) (blk_one _ _ _ _ rfl) ?_); clear Hn; intro w4 Hn; simp only [Act.put, List.setIfInBounds_toArray, List.set_cons_succ, List.set_cons_zero]))
    replace hb := below_then (below_then hb (Nat.le_refl _) B) (Nat.le_refl _) Hn.below
    clear Hn B r1
    go_wp2
    go_ret
    exact ⟨rfl, hb⟩
  | true =>
    obtain ⟨q4, i4, s4⟩ := merge_rests hR himm
    obtain ⟨hsp, hrest⟩ := merge_sp_all hR
    have l4 : (mergeL l).length ≤ maxLen := by have := (right_lens q4).2.1; simp only [maxLen]; omega
    clear s4 i4
    generalize mergeL l = m at *
    replace hR := show Hid _ from hR
    go_upto_region 3 with (first | ((with_reducible refine wpList_load_if rfl 25 _ rfl _ rfl 25 _ (0, 0) _ r1 Try.underlying25 rfl (bl_inf _ _ _ _) ?_); simp only [Act.put, List.setIfInBounds_toArray, List.set_cons_succ, List.set_cons_zero]) | (go_at_call 10; (with_reducible refine kp.mono ?_); clear kp; rintro e w3 ⟨B, ⟨hr, _⟩ | ⟨hr, u, rfl, hown⟩⟩; (exfalso; rw [hR.out] at hr; cases hr); dsimp only; clear hr; have Hn := has_none w3; have hone := own_one hown) | ((with_reducible refine wpList_store_new Hn rfl 25 _ _ rfl (blA pc words el u) rfl rfl (bl_inf _ _ _ _) (by kernel_rfl) (blk_one _ _ _ _ hone) ?_); clear Hn; intro w4 Hn; simp only [Act.put, List.setIfInBounds_toArray, List.set_cons_succ, List.set_cons_zero]))
    have W0 : OfW w pc words el v u l m b1 w3.heap.size w4 := ⟨(K1.grow B).grow Hn.below, ⟨Hn.get List.mem_cons_self, (opsC_of hown l4).ops.grow Hn.below⟩, below_then (below_then hb (Nat.le_refl _) B) (Nat.le_refl _) Hn.below⟩
    generalize w3.heap.size = b4 at *
    clear Hn B r1 hown hone K1 hb
    obtain ⟨h0, h512, -⟩ := right_lens hR.out
    obtain ⟨m0, m512, -⟩ := right_lens q4
    obtain ⟨ra, c1, rfl, -⟩ := W0.k1.ops.cell h0
    obtain ⟨rb, c4, rfl, -⟩ := W0.k4.ops.cell m0
    go_upto_region 9 with fail
    go_loopw [6, 7, 8, 9] (fun s6 s7 s8 s9 wr => ∃ (i k : Nat) (a : Int), s6 = vI k ∧ s7 = vI a ∧ s8 = vI 0 ∧ s9 = vI i ∧ i ≤ l.length ∧ k ≤ m.length ∧ (a = 0 ∨ okR a) ∧ Hid (sp a (l.drop i) = sp 0 (m.drop k)) ∧ OfW w pc words el (.slice (some ra) l.length c1) (.slice (some rb) m.length c4) l m b1 b4 wr) (fun _ _ _ s9 _ => ((l.length : Int) - intOf s9).toNat)
    case atStart => exact ⟨0, 0, 0, rfl, rfl, rfl, rfl, Nat.zero_le _, Nat.zero_le _, .inl rfl, by show sp 0 l = sp 0 m; exact hsp.symm, W0⟩
    case round =>
      clear W0
      obtain ⟨i, k, a, rfl, rfl, rfl, rfl, hi, hk, ha, hS, W⟩ := hrel
      have z1 := W.k1.z
      by_cases hlt : (i : Int) < l.length
      · have hil : i < l.length := by omega
        obtain ⟨ra', c', e', hc⟩ := W.k1.ops.cell h0
        cases e'
        have A := hc i _ (opAt_some hil)
        clear hc
        have Hn := has_none wr
        go_upto_region 12 with (first | ((with_reducible refine wpList_load42 rfl _ rfl _ rfl _ A ?_); simp only [Act.put, List.setIfInBounds_toArray, List.set_cons_succ, List.set_cons_zero]) | ((with_reducible refine wpList_store_new Hn rfl 40 _ _ rfl (opA (opAt l i)) rfl rfl (op_inf _) (by kernel_rfl) (op_one _) ?_); clear Hn; intro w5 Hn; simp only [Act.put, List.setIfInBounds_toArray, List.set_cons_succ, List.set_cons_zero]))
        have L : LocO wr.heap.size (opAt l i) w5 := Hn.get List.mem_cons_self
        replace W := W.grow Hn.below
        clear Hn A z1
        generalize wr.heap.size = b10 at *
        clear wr
        replace hil := show Hid _ from hil
        replace hS := show Hid _ from hS
        have c0 := L.c0
        by_cases h13 : (opAt l i).kind = 13
        · have hr := fence_okR hR.out hil.out h13
          have hor := bits_or a (opAt l i).r ha hr
          have c1' := L.c1
          have hS2 : Hid (sp (fR a (opAt l i).r) (l.drop (i + 1)) = sp 0 (m.drop k)) := by
            have q := hS.out
            rw [drop_at hil.out, sp_cons, if_pos h13] at q
            exact q
          have hfr := fR_ok ha hr
          rw [h13] at c0
          clear hS L ha hr h13
          go_wp2
          go_roundw
          case rel => exact ⟨i + 1, k, fR a (opAt l i).r, rfl, by first | rfl | rw [hor], rfl, by go_num, by have := hil.out; omega, hk, .inr hfr, hS2, W⟩
          case measure => simp [intOf]; omega
        · by_cases hv : leavK (opAt l i).kind = true
          · have hS2 : Hid ((a, (opAt l i).kind, (opAt l i).order, (opAt l i).imm) :: sp 0 (l.drop (i + 1)) = sp 0 (m.drop k)) := by
              have q := hS.out
              rw [drop_at hil.out, sp_cons, if_neg h13, if_pos hv] at q
              exact q
            have z4 := W.k4.z
            have hc2 : (9 ≤ (opAt l i).kind ∧ (opAt l i).kind ≤ 12) ∨ (9 ≤ (opAt l i).kind ∧ ¬ (opAt l i).kind ≤ 12 ∧ 15 ≤ (opAt l i).kind) := by unfold leavK at hv; simp at hv; omega
            clear hS hv
            rcases hc2 with ⟨h9, h12⟩ | ⟨h9, h12, h15⟩
            · skip
              go_upto_region 17 with fail
              go_loopw [6, 8, 12] (fun s6 s8 s12 wr2 => ∃ (k2 n : Nat) (g : Int), s6 = vI k2 ∧ s8 = vI g ∧ s12 = vI n ∧ k ≤ k2 ∧ k2 ≤ m.length ∧ (g = 0 ∨ okR g) ∧ Hid (sp g (m.drop k2) = (a, (opAt l i).kind, (opAt l i).order, (opAt l i).imm) :: sp 0 (l.drop (i + 1))) ∧ Hid (LoneI m k k2 n) ∧ wr2 = w5) (fun s6 _ _ _ => ((m.length : Int) - intOf s6).toNat)
              case atStart => exact ⟨k, 0, 0, rfl, rfl, rfl, Nat.le_refl _, hk, .inl rfl, hS2.out.symm, .inl ⟨rfl, fun q q1 q2 => by omega⟩, rfl⟩
              case round =>
                obtain ⟨k2, n, g, rfl, rfl, rfl, hk2, hk3, hg, hT, hL, rfl⟩ := hrel
                rcases Nat.lt_or_ge k2 m.length with hlt2 | hge
                · have hki : (k2 : Int) < m.length := by omega
                  have hT2 := hT.out
                  rw [drop_at hlt2, sp_cons] at hT2
                  obtain ⟨rb', c', e', hc⟩ := W.k4.ops.cell m0
                  cases e'
                  have A4 := hc k2 _ (opAt_some hlt2)
                  clear hc
                  have p0 := A4.c0
                  have hK := kind_at (right_at q4 hlt2)
                  have hst := stop_leav hK
                  by_cases g13 : (opAt m k2).kind = 13
                  · rw [if_pos g13] at hT2
                    have hr := fence_okR q4 hlt2 g13
                    have hor := bits_or g (opAt m k2).r hg hr
                    obtain ⟨rfl, hL2⟩ := hL.out.fence hrest hlt2 hk2 g13
                    have p1 := A4.c1
                    have hfr := fR_ok hg hr
                    rw [g13] at p0
                    replace hT2 := show Hid _ from hT2
                    replace hL2 := show Hid _ from hL2
                    clear A4 hT hL hS2 g13 hst hK hg hr
                    go_wp2
                    go_roundw
                    case rel => exact ⟨k2 + 1, 1, fR g (opAt m k2).r, by go_num, by first | rfl | rw [hor], by first | rfl | go_num, by omega, by omega, .inr hfr, hT2, hL2, by first | rfl | trivial⟩
                    case measure => simp [intOf]; omega
                  · rw [if_neg g13] at hT2
                    by_cases gv : leavK (opAt m k2).kind = true
                    · rw [if_pos gv] at hT2
                      injection hT2 with e1 e2
                      simp only [Prod.mk.injEq] at e1
                      obtain ⟨rfl, f1, f2, f3⟩ := e1
                      have p4 := A4.c4
                      have p5 := A4.c5
                      rw [f1] at p0
                      rw [f2] at p4
                      rw [f3] at p5
                      have o4 := L.c4
                      have o5 := L.c5
                      have hn : n = 0 ∨ n = 1 := hL.out.elim (fun q => .inl q.1) (fun q => .inr q.1)
                      have hne : ¬ ((k2 : Int) = m.length) := by omega
                      replace e2 := show Hid _ from e2.symm
                      have h14 : ¬ (opAt l i).kind = 14 := by omega
                      have hl9 : ¬ (opAt l i).kind < 9 := by omega
                      clear A4 hT hL hS2 gv hst hK g13 f1 f2 f3
                      go_upto_region 22 with fail
                      rcases hn with rfl | rfl
                      all_goals
                        go_quiet (fail)
                        go_wp2
                        go_roundw
                        case rel => exact ⟨i + 1, k2 + 1, 0, by go_num, rfl, rfl, by go_num, by have := hil.out; omega, by omega, .inl rfl, e2, W.grow (below_drewN (Below.refl _ _))⟩
                        case measure => simp [intOf]; omega
                    · rw [if_neg gv] at hT2
                      have hL2 := hL.out.skip (by rw [hst]; simp [g13, gv])
                      replace hT2 := show Hid _ from hT2
                      replace hL2 := show Hid _ from hL2
                      by_cases g14 : (opAt m k2).kind = 14
                      · rw [g14] at p0
                        clear A4 hT hL hS2 g13 g14 gv hst hK
                        go_wp2
                        go_roundw
                        case rel => exact ⟨k2 + 1, n, g, by go_num, rfl, rfl, by omega, by omega, hg, hT2, hL2, by first | rfl | trivial⟩
                        case measure => simp [intOf]; omega
                      · have g9 : (opAt m k2).kind < 9 := by unfold leavK at gv; simp at gv; omega
                        clear A4 hT hL hS2 gv hst hK
                        go_wp2
                        go_roundw
                        case rel => exact ⟨k2 + 1, n, g, by go_num, rfl, rfl, by omega, by omega, hg, hT2, hL2, by first | rfl | trivial⟩
                        case measure => simp [intOf]; omega
                · exfalso
                  have hT2 := hT.out
                  rw [List.drop_eq_nil_of_le hge] at hT2
                  cases hT2
            · skip
              go_upto_region 17 with fail
              go_loopw [6, 8, 12] (fun s6 s8 s12 wr2 => ∃ (k2 n : Nat) (g : Int), s6 = vI k2 ∧ s8 = vI g ∧ s12 = vI n ∧ k ≤ k2 ∧ k2 ≤ m.length ∧ (g = 0 ∨ okR g) ∧ Hid (sp g (m.drop k2) = (a, (opAt l i).kind, (opAt l i).order, (opAt l i).imm) :: sp 0 (l.drop (i + 1))) ∧ Hid (LoneI m k k2 n) ∧ wr2 = w5) (fun s6 _ _ _ => ((m.length : Int) - intOf s6).toNat)
              case atStart => exact ⟨k, 0, 0, rfl, rfl, rfl, Nat.le_refl _, hk, .inl rfl, hS2.out.symm, .inl ⟨rfl, fun q q1 q2 => by omega⟩, rfl⟩
              case round =>
                obtain ⟨k2, n, g, rfl, rfl, rfl, hk2, hk3, hg, hT, hL, rfl⟩ := hrel
                rcases Nat.lt_or_ge k2 m.length with hlt2 | hge
                · have hki : (k2 : Int) < m.length := by omega
                  have hT2 := hT.out
                  rw [drop_at hlt2, sp_cons] at hT2
                  obtain ⟨rb', c', e', hc⟩ := W.k4.ops.cell m0
                  cases e'
                  have A4 := hc k2 _ (opAt_some hlt2)
                  clear hc
                  have p0 := A4.c0
                  have hK := kind_at (right_at q4 hlt2)
                  have hst := stop_leav hK
                  by_cases g13 : (opAt m k2).kind = 13
                  · rw [if_pos g13] at hT2
                    have hr := fence_okR q4 hlt2 g13
                    have hor := bits_or g (opAt m k2).r hg hr
                    obtain ⟨rfl, hL2⟩ := hL.out.fence hrest hlt2 hk2 g13
                    have p1 := A4.c1
                    have hfr := fR_ok hg hr
                    rw [g13] at p0
                    replace hT2 := show Hid _ from hT2
                    replace hL2 := show Hid _ from hL2
                    clear A4 hT hL hS2 g13 hst hK hg hr
                    go_wp2
                    go_roundw
                    case rel => exact ⟨k2 + 1, 1, fR g (opAt m k2).r, by go_num, by first | rfl | rw [hor], by first | rfl | go_num, by omega, by omega, .inr hfr, hT2, hL2, by first | rfl | trivial⟩
                    case measure => simp [intOf]; omega
                  · rw [if_neg g13] at hT2
                    by_cases gv : leavK (opAt m k2).kind = true
                    · rw [if_pos gv] at hT2
                      injection hT2 with e1 e2
                      simp only [Prod.mk.injEq] at e1
                      obtain ⟨rfl, f1, f2, f3⟩ := e1
                      have p4 := A4.c4
                      have p5 := A4.c5
                      rw [f1] at p0
                      rw [f2] at p4
                      rw [f3] at p5
                      have o4 := L.c4
                      have o5 := L.c5
                      have hn : n = 0 ∨ n = 1 := hL.out.elim (fun q => .inl q.1) (fun q => .inr q.1)
                      have hne : ¬ ((k2 : Int) = m.length) := by omega
                      replace e2 := show Hid _ from e2.symm
                      have h14 : ¬ (opAt l i).kind = 14 := by omega
                      have hl9 : ¬ (opAt l i).kind < 9 := by omega
                      clear A4 hT hL hS2 gv hst hK g13 f1 f2 f3
                      go_upto_region 22 with fail
                      rcases hn with rfl | rfl
                      all_goals
                        go_quiet (fail)
                        go_wp2
                        go_roundw
                        case rel => exact ⟨i + 1, k2 + 1, 0, by go_num, rfl, rfl, by go_num, by have := hil.out; omega, by omega, .inl rfl, e2, W.grow (below_drewN (Below.refl _ _))⟩
                        case measure => simp [intOf]; omega
                    · rw [if_neg gv] at hT2
                      have hL2 := hL.out.skip (by rw [hst]; simp [g13, gv])
                      replace hT2 := show Hid _ from hT2
                      replace hL2 := show Hid _ from hL2
                      by_cases g14 : (opAt m k2).kind = 14
                      · rw [g14] at p0
                        clear A4 hT hL hS2 g13 g14 gv hst hK
                        go_wp2
                        go_roundw
                        case rel => exact ⟨k2 + 1, n, g, by go_num, rfl, rfl, by omega, by omega, hg, hT2, hL2, by first | rfl | trivial⟩
                        case measure => simp [intOf]; omega
                      · have g9 : (opAt m k2).kind < 9 := by unfold leavK at gv; simp at gv; omega
                        clear A4 hT hL hS2 gv hst hK
                        go_wp2
                        go_roundw
                        case rel => exact ⟨k2 + 1, n, g, by go_num, rfl, rfl, by omega, by omega, hg, hT2, hL2, by first | rfl | trivial⟩
                        case measure => simp [intOf]; omega
                · exfalso
                  have hT2 := hT.out
                  rw [List.drop_eq_nil_of_le hge] at hT2
                  cases hT2
          · have hS2 : Hid (sp a (l.drop (i + 1)) = sp 0 (m.drop k)) := by
              have q := hS.out
              rw [drop_at hil.out, sp_cons, if_neg h13, if_neg hv] at q
              exact q
            by_cases h14 : (opAt l i).kind = 14
            · rw [h14] at c0
              clear hS L h14 h13 hv
              go_wp2
              go_roundw
              case rel => exact ⟨i + 1, k, a, rfl, rfl, rfl, by go_num, by have := hil.out; omega, hk, ha, hS2, W⟩
              case measure => simp [intOf]; omega
            · have h9 : ¬ 9 ≤ (opAt l i).kind := fun q => hv (by unfold leavK; simp; omega)
              have h15 : ¬ 15 ≤ (opAt l i).kind := by omega
              clear hS L h14 hv
              go_wp2
              go_roundw
              case rel => exact ⟨i + 1, k, a, rfl, rfl, rfl, by go_num, by have := hil.out; omega, hk, ha, hS2, W⟩
              case measure => simp [intOf]; omega
      · have hil : i = l.length := by omega
        have hkm : k = m.length := by
          rcases Nat.lt_or_ge k m.length with g | g
          · exfalso
            have q := hS.out
            rw [hil, List.drop_length] at q
            exact sp_ne q4 (m.length - k - 1) k 0 (by omega) q.symm
          · omega
        have z4 := W.k4.z
        have hkm2 : (k : Int) = m.length := by omega
        have B := W.low
        clear W hS
        go_wp2
        go_ret
        exact ⟨by simp [hkm], B⟩
end
end Go.Proofs.Ytilbnjldfgofmaa
