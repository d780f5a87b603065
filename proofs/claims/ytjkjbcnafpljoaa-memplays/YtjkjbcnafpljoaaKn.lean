/- The chapter's example. -/
import Derived.Test.YtjkjbcnafpljoaaEq
namespace Go.Proofs.Ytjkjbcnafpljoaa
open Go.RowKit
set_option linter.unusedVariables false
set_option linter.unusedSimpArgs false

theorem LR.var {w0 w : World} {g : Nat} {S : Sta} {R : List (Value × List Lt)} (h : LR w0 g S R w) (s : Lt) : LR w0 g S ((.slice (some ⟨w.heap.size, 0, none⟩) 1 1, [s]) :: R) (w.alloc (.cells s.cells 59)) :=
  h.add (below_alloc _ _) ⟨rfl, .inr ⟨w.heap.size, 1, s.cells, rfl, Nat.le_refl _, heap_alloc_new _ _, Nat.le_refl _, by simp only [maxLen]; omega, rfl, rfl⟩⟩
theorem Sta.Ok.put {S : Sta} (O : S.Ok) (core addr value : Int) (h0 : 0 ≤ addr) : (putS S core addr value).Ok := by
  unfold putS
  split
  · rename_i h
    have Of := O.flush core
    have hl := flush_len S core
    have h2 : hasWordB S addr = true := by
      simp only [okB, Bool.and_eq_true] at h; exact h.2
    generalize flushS S core = F at *
    unfold reachS
    refine ⟨by simpa using Of.w1, by simpa using Of.w2, Of.c1, Of.c2, Of.d1, Of.d2, ?_, Of.lens, ?_, ?_, ?_⟩
    · intro l hl s hs
      have := Of.held l hl s hs
      simp only [List.length_set, List.length_append, List.length_cons, List.length_nil]
      exact ⟨this.1, this.2.1, by omega⟩
    · have := Of.cnt
      simp only [List.length_set, List.length_append, List.length_cons, List.length_nil]
      omega
    · have := Of.pos
      show 0 ≤ F.reached + 1
      omega
    · intro x hx
      show 0 ≤ x ∧ x ≤ F.reached + 1
      have := Of.pos
      rcases List.mem_or_eq_of_mem_set hx with e | e
      · rcases List.mem_append.1 e with e | e
        · have := Of.st x e; omega
        · simp only [List.mem_singleton] at e; omega
      · have e : x = F.reached + 1 := e
        omega
  · exact O
theorem u64_of {n : Int} (h : (decide (0 ≤ n) && decide (n < 18446744073709551616)) = true) : U64 n := by
  simp only [Bool.and_eq_true, decide_eq_true_eq] at h
  exact h
def k0 : Sta := newS 4 2 2
def k1 : Sta := setS k0 8 1
def k2 : Sta := storeS k1 0 8 5
def k3 : Sta := storeS k2 0 8 6
def k4 : Sta := drainS k3 0
def k5 : Sta := putS k4 0 16 9
theorem o0 : k0.Ok := new_ok (by decide)
theorem o1 : k1.Ok := o0.set _ _
theorem o2 : k2.Ok := o1.store _ _ _ (by decide)
theorem o3 : k3.Ok := o2.store _ _ _ (by decide)
theorem o4 : k4.Ok := o3.drain _
set_option maxRecDepth 8000 in
set_option maxHeartbeats 2000000 in
theorem known_c (w : World) : Calls Try.prog 9 #[] w fun e w' => e = .returned (.bool true) ∧ Below w.heap.size w w' := by
  have f1 : setE k0 8 = 0 := by kernel_rfl
  have f2 : storeE k1 0 8 = 0 := by kernel_rfl
  have f3 : storeT k1 0 8 = 1 := by kernel_rfl
  have f4 : loadP k2 0 8 = (5, 1) := by kernel_rfl
  have f5 : argE (okB k2 0 8) = 0 := by kernel_rfl
  have f6 : loadP k2 1 8 = (1, 0) := by kernel_rfl
  have f7 : argE (okB k2 1 8) = 0 := by kernel_rfl
  have f8 : storeE k2 0 8 = 0 := by kernel_rfl
  have f9 : storeT k2 0 8 = 2 := by kernel_rfl
  have f10 : storeE k3 0 0 = 30 := by kernel_rfl
  have f11 : storeS k3 0 0 7 = k3 := by kernel_rfl
  have f12 : drainL k3 0 = ⟨8, 5, 1⟩ := by kernel_rfl
  have f13 : drainE k3 0 = 0 := by kernel_rfl
  have f14 : putT k4 0 16 = 3 := by kernel_rfl
  have f15 : argE (okB k4 0 16) = 0 := by kernel_rfl
  have f16 : putL k4 0 16 = [⟨8, 6, 2⟩] := by kernel_rfl
  have f17 : orderL k5 = [1, 2, 3] := by kernel_rfl
  have f18 : setE k5 0 = 7 := by kernel_rfl
  go_enter Try.func9, Try.ntmps9
  go_upto_region 2 with (go_at_call 10; refine (new_l 4 2 2 w (by decide)).mono ?_; rintro e w1 ⟨g, rfl, H1⟩; dsimp only)
  replace H1 : LR w g k0 [] w1 := H1
  go_upto_region 4 with (go_at_call 31; refine (set_l H1 o0 8 1 (u64_of (by decide))).mono ?_; rintro e w2 ⟨rfl, H2⟩; dsimp only; rw [f1])
  replace H2 : LR w g k1 [] w2 := H2
  go_upto_region 5 with (go_at_call 27; refine (store_l H2 o1 0 8 5 (u64_of (by decide)) (by decide)).mono ?_; rintro e w3 ⟨rfl, H3⟩; dsimp only; rw [f2, f3])
  replace H3 : LR w g k2 [] w3 := H3
  go_upto_region 6 with (go_at_call 12; refine (load_l H3 o2 0 8 (u64_of (by decide))).mono ?_; rintro e w4 ⟨rfl, H4⟩; dsimp only; rw [f4, f5])
  go_upto_region 7 with (go_at_call 12; refine (load_l H4 o2 1 8 (u64_of (by decide))).mono ?_; rintro e w5 ⟨rfl, H5⟩; dsimp only; rw [f6, f7])
  go_upto_region 8 with (go_at_call 27; refine (store_l H5 o2 0 8 6 (u64_of (by decide)) (by decide)).mono ?_; rintro e w6 ⟨rfl, H6⟩; dsimp only; rw [f8, f9])
  replace H6 : LR w g k3 [] w6 := H6
  go_upto_region 9 with (go_at_call 27; refine (store_l H6 o3 0 0 7 (u64_of (by decide)) (by decide)).mono ?_; rintro e w7 ⟨rfl, H7⟩; dsimp only; rw [f10])
  rw [f11] at H7
  go_upto_region 10 with (go_at_call 28; refine (drain_l H7 o3 0 (by decide)).mono ?_; rintro e w8 ⟨rfl, H8⟩; dsimp only; rw [f12, f13])
  replace H8 : LR w g k4 [] w8 := H8
  have H9 := H8.var ⟨8, 5, 1⟩
  generalize w8.heap.size = p at H9 ⊢
  generalize h9 : World.alloc w8 _ = w9
  replace H9 : LR w g k4 [(.slice (some ⟨p, 0, none⟩) 1 1, [⟨8, 5, 1⟩])] w9 := by rw [← h9]; exact H9
  clear h9
  go_upto_region 11 with (go_at_call 30; refine (put_l H9 o4 0 16 9 (u64_of (by decide)) (by decide)).mono ?_; rintro e wa ⟨v, rfl, Ha⟩; dsimp only; rw [f14, f15])
  rw [f16] at Ha
  replace Ha : LR w g k5 [(v, [⟨8, 6, 2⟩]), (.slice (some ⟨p, 0, none⟩) 1 1, [⟨8, 5, 1⟩])] wa := Ha
  have o5 : k5.Ok := o4.put _ _ _ (by decide)
  obtain ⟨vb, vc, rfl, _, _, _, _, _⟩ := own_addr (Ha.row List.mem_cons_self) (by simp)
  clear H1 H2 H3 H4 H5 H6 H7 H8 H9
  go_wp2_with (first | (go_at_call 17; refine (order_l Ha o5 (by decide)).mono ?_; rintro e wb ⟨o, rfl, ho, Hb⟩; rw [f17] at ho; obtain ⟨ob, oc, rfl, _, _, _, hoc, _⟩ := own_addr ho (by simp); have x2 : wb.cell? ⟨ob, 2, none⟩ = some (vI 3) := hoc 2 (by simp); have y2 : wb.cell? ⟨vb, 2, none⟩ = some (vI 2) := (Hb.row List.mem_cons_self).cellAt 2 (by simp); have z0 : wb.cell? ⟨p, 0, none⟩ = some (vU 8) := (Hb.row (List.mem_cons_of_mem _ List.mem_cons_self)).cellAt 0 (by simp); have z1 : wb.cell? ⟨p, 1, none⟩ = some (vU 5) := (Hb.row (List.mem_cons_of_mem _ List.mem_cons_self)).cellAt 1 (by simp); have z2 : wb.cell? ⟨p, 2, none⟩ = some (vI 1) := (Hb.row (List.mem_cons_of_mem _ List.mem_cons_self)).cellAt 2 (by simp); clear hoc; dsimp only) | ((with_reducible refine wpList_eql_lt rfl _ _ rfl _ _ _ _ _ _ rfl rfl ?_); simp only [Act.put, List.setIfInBounds_toArray, List.set_cons_succ, List.set_cons_zero, eqL_refl]) | (go_at_call 31; refine (set_l Hb o5 0 1 (u64_of (by decide))).mono ?_; rintro e wc ⟨rfl, Hc⟩; dsimp only; rw [f18]))
  go_ret
  exact ⟨rfl, Hc.below⟩
end Go.Proofs.Ytjkjbcnafpljoaa
