/- The document's own timer, as the machine's blocks hold it. -/
import Derived.Test.YtebkpmplhpebbaaQc
import Derived.Test.YtebkpmplhpebbaaQo
namespace Go.Proofs.Ytebkpmplhpebbaa
open Go.RowKit
open Tim
set_option linter.unusedVariables false
set_option linter.unusedSimpArgs false
set_option maxRecDepth 8000

structure RefAt (r cb cv n : Nat) (T : Tm) (w : World) : Prop where
  pos : 0 < n
  le8 : n ≤ 8
  ok : T.Ok
  top : w.heap[r]? = some (.cells #[vU T.cnt, .slice (some ⟨cb, 0, none⟩) n n, .slice (some ⟨cv, 0, none⟩) n n] 42)
  ctl : ∃ C, w.heap[cb]? = some (.cells C 30) ∧ C.size = n ∧ ∀ c, c < n → C[c]? = some (vU (T.ctl c))
  cvl : ∃ C, w.heap[cv]? = some (.cells C 30) ∧ C.size = n ∧ ∀ c, c < n → C[c]? = some (vU (T.cval c))
  ne : cb ≠ cv
def RFoot (r cb cv : Nat) (k : Nat) : Prop := k = r ∨ k = cb ∨ k = cv
section
variable {r cb cv n : Nat} {T : Tm} {w w' : World}
theorem RefAt.keep (H : RefAt r cb cv n T w) (hb : ∀ k, RFoot r cb cv k → w'.heap[k]? = w.heap[k]?) : RefAt r cb cv n T w' :=
  ⟨H.pos, H.le8, H.ok, by rw [hb _ (.inl rfl)]; exact H.top, by rw [hb _ (.inr (.inl rfl))]; exact H.ctl, by rw [hb _ (.inr (.inr rfl))]; exact H.cvl, H.ne⟩
theorem RefAt.lt (H : RefAt r cb cv n T w) {k : Nat} (hk : RFoot r cb cv k) : k < w.heap.size := by
  rcases hk with rfl | rfl | rfl
  · exact lt_of_some H.top
  · obtain ⟨C, h, _⟩ := H.ctl; exact lt_of_some h
  · obtain ⟨C, h, _⟩ := H.cvl; exact lt_of_some h
theorem RefAt.grow (H : RefAt r cb cv n T w) (hb : Below w.heap.size w w') : RefAt r cb cv n T w' := H.keep fun k hk => hb.block k (H.lt hk)
theorem RefAt.c0 (H : RefAt r cb cv n T w) : w.cell? ⟨r, 0, none⟩ = some (vU T.cnt) := by rw [cell_of_row _ _ _ _ _ _ H.top]; rfl
theorem RefAt.c1 (H : RefAt r cb cv n T w) : w.cell? ⟨r, 1, none⟩ = some (.slice (some ⟨cb, 0, none⟩) n n) := by rw [cell_of_row _ _ _ _ _ _ H.top]; rfl
theorem RefAt.c2 (H : RefAt r cb cv n T w) : w.cell? ⟨r, 2, none⟩ = some (.slice (some ⟨cv, 0, none⟩) n n) := by rw [cell_of_row _ _ _ _ _ _ H.top]; rfl
theorem RefAt.f0 (H : RefAt r cb cv n T w) (j : Nat) : w.frozen? ⟨r, j, none⟩ = false := frozen_of_row _ _ _ _ _ H.top
theorem RefAt.fb (H : RefAt r cb cv n T w) (j : Nat) : w.frozen? ⟨cb, j, none⟩ = false := by
  obtain ⟨C, h, _⟩ := H.ctl
  exact frozen_of_row _ _ _ _ _ h
theorem RefAt.fv (H : RefAt r cb cv n T w) (j : Nat) : w.frozen? ⟨cv, j, none⟩ = false := by
  obtain ⟨C, h, _⟩ := H.cvl
  exact frozen_of_row _ _ _ _ _ h
theorem RefAt.cc (H : RefAt r cb cv n T w) {c : Nat} (hc : c < n) : w.cell? ⟨cb, c, none⟩ = some (vU (T.ctl c)) := by
  obtain ⟨C, h, _, t⟩ := H.ctl
  rw [cell_of_row _ _ _ _ _ _ h]; exact t c hc
theorem RefAt.cl (H : RefAt r cb cv n T w) {c : Nat} (hc : c < n) : w.cell? ⟨cv, c, none⟩ = some (vU (T.cval c)) := by
  obtain ⟨C, h, _, t⟩ := H.cvl
  rw [cell_of_row _ _ _ _ _ _ h]; exact t c hc
theorem RefAt.nb (H : RefAt r cb cv n T w) : r ≠ cb := by
  obtain ⟨D, k, _⟩ := H.ctl
  exact ne_of_type H.top k (by decide)
theorem RefAt.nv (H : RefAt r cb cv n T w) : r ≠ cv := by
  obtain ⟨D, k, _⟩ := H.cvl
  exact ne_of_type H.top k (by decide)
/-- What a call does. -/
def RT (r cb cv n : Nat) (T : Tm) (w w' : World) : Prop := RefAt r cb cv n T w' ∧ Goes (RFoot r cb cv) w w'
theorem RT.refl (H : RefAt r cb cv n T w) : RT r cb cv n T w w := ⟨H, Goes.refl _ _⟩
theorem RefAt.ticked (H : RefAt r cb cv n T w) (k : Int) : RT r cb cv n (T.tick k) w (w.setCell ⟨r, 0, none⟩ (vU ((T.cnt + k) % 18446744073709551616))) := by
  refine ⟨⟨H.pos, H.le8, tick_ok H.ok k, heap_setCell_same w r 0 _ 42 _ H.top, ?_, ?_, H.ne⟩, goes_setCell w (F := RFoot r cb cv) (.inl rfl) _ _⟩
  · rw [Below.heap_setCell _ _ _ _ (Ne.symm H.nb)]; exact H.ctl
  · rw [Below.heap_setCell _ _ _ _ (Ne.symm H.nv)]; exact H.cvl
theorem RefAt.putV (H : RefAt r cb cv n T w) {c : Nat} (hc : c < n) {v : Int} (hv : U64 v) : RT r cb cv n (T.setV c v) w (w.setCell ⟨cv, c, none⟩ (vU v)) := by
  refine ⟨⟨H.pos, H.le8, setV_ok H.ok c hv.1 hv.2, ?_, ?_, ?_, H.ne⟩, goes_setCell w (F := RFoot r cb cv) (.inr (.inr rfl)) _ _⟩
  · rw [Below.heap_setCell _ _ _ _ H.nv]; exact H.top
  · rw [Below.heap_setCell _ _ _ _ H.ne]; exact H.ctl
  · obtain ⟨C, h, hs, t⟩ := H.cvl
    refine ⟨_, heap_setCell_same w cv c _ 30 _ h, by simp [hs], fun d hd => ?_⟩
    simp only [Tm.setV, Array.getElem?_setIfInBounds]
    by_cases e : d = c
    · subst e; rw [if_pos rfl, if_pos (by omega), if_pos rfl]
    · rw [if_neg (by omega), if_neg e]; exact t d hd
theorem RefAt.putC (H : RefAt r cb cv n T w) {c : Nat} (hc : c < n) (v : Int) : RT r cb cv n (T.setC c v) w (w.setCell ⟨cb, c, none⟩ (vU (v % 4))) := by
  refine ⟨⟨H.pos, H.le8, setC_ok H.ok c v, ?_, ?_, ?_, H.ne⟩, goes_setCell w (F := RFoot r cb cv) (.inr (.inl rfl)) _ _⟩
  · rw [Below.heap_setCell _ _ _ _ H.nb]; exact H.top
  · obtain ⟨C, h, hs, t⟩ := H.ctl
    refine ⟨_, heap_setCell_same w cb c _ 30 _ h, by simp [hs], fun d hd => ?_⟩
    simp only [Tm.setC, Array.getElem?_setIfInBounds]
    by_cases e : d = c
    · subst e; rw [if_pos rfl, if_pos (by omega), if_pos rfl]
    · rw [if_neg (by omega), if_neg e]; exact t d hd
  · rw [Below.heap_setCell _ _ _ _ (Ne.symm H.ne)]; exact H.cvl
theorem rhas_c (H : RefAt r cb cv n T w) (core : Int) : Calls Try.prog 24 #[ptr r 0, vI core] w fun e w' => e = .returned (.bool (hasB n core)) ∧ w' = w := by
  have c1 := H.c1
  clear H
  unfold hasB
  by_cases h1 : 0 ≤ core
  · rw [decide_eq_true h1]
    go_enter Try.func24, Try.ntmps24
    go_wp2
    go_ret
    exact ⟨rfl, rfl⟩
  · rw [decide_eq_false h1]
    go_enter Try.func24, Try.ntmps24
    go_wp2
    go_ret
    exact ⟨rfl, rfl⟩
theorem rwrite_c (H : RefAt r cb cv n T w) (core sys : Int) {v : Int} (hv : U64 v) : Calls Try.prog 13 #[ptr r 0, vI core, vI sys, vU v] w fun e w' => e = .returned (vI (writeE n core sys)) ∧ RT r cb cv n (writeT n T core sys v) w w' := by
  unfold writeE writeT
  have c1 := H.c1
  have c2 := H.c2
  have hh := rhas_c H core
  cases h1 : hasB n core with
  | false =>
    rw [Bool.false_and, if_neg (by decide), if_neg (by decide)]
    rw [h1] at hh
    go_enter Try.func13, Try.ntmps13
    go_wp2_with (first | (go_at_call 24; refine hh.mono ?_; rintro e w' ⟨rfl, rfl⟩; dsimp only))
    go_ret
    exact ⟨rfl, RT.refl H⟩
  | true =>
    obtain ⟨c, rfl, hc⟩ := core_of h1
    have hc' : (c : Int) < n := by omega
    rw [h1] at hh
    rw [Bool.true_and, Int.toNat_natCast]
    cases hs : wregB sys with
    | false =>
      rw [if_neg (by decide), if_neg (by decide)]
      simp only [wregB, Bool.or_eq_false_iff, decide_eq_false_iff_not] at hs
      obtain ⟨s1, s2⟩ := hs
      have b1 : (sys != 24346) = true := by simpa using s1
      have b2 : (sys != 24345) = true := by simpa using s2
      go_enter Try.func13, Try.ntmps13
      go_wp2_with (first | (go_at_call 24; refine hh.mono ?_; rintro e w' ⟨rfl, rfl⟩; dsimp only))
      go_ret
      exact ⟨rfl, RT.refl H⟩
    | true =>
      rw [if_pos rfl, if_pos rfl]
      have q1 := H.putV hc hv
      have q2 := H.putC hc v
      have z1 := H.cc hc
      have z2 := H.cl hc
      have y1 := H.fb c
      have y2 := H.fv c
      rw [← and3 v hv.1 hv.2] at q2
      by_cases g1 : sys = 24346
      · rw [if_pos g1]
        subst g1
        clear hs q2 z1 y1
        go_enter Try.func13, Try.ntmps13
        go_wp2_with (first | (go_at_call 24; refine hh.mono ?_; rintro e w' ⟨rfl, rfl⟩; dsimp only))
        go_ret
        exact ⟨rfl, q1⟩
      · have g3 : sys = 24345 := by
          simp only [wregB, Bool.or_eq_true, decide_eq_true_eq] at hs
          omega
        rw [if_neg g1]
        subst g3
        clear g1 hs q1 z2 y2
        go_enter Try.func13, Try.ntmps13
        go_wp2_with (first | (go_at_call 24; refine hh.mono ?_; rintro e w' ⟨rfl, rfl⟩; dsimp only))
        go_ret
        exact ⟨rfl, q2⟩
theorem rhigh_c (H : RefAt r cb cv n T w) (core : Int) : Calls Try.prog 16 #[ptr r 0, vI core] w fun e w' => e = .returned (.bool (highV n T core)) ∧ Below w.heap.size w w' := by
  unfold highV
  have c0 := H.c0
  have c1 := H.c1
  have c2 := H.c2
  have hh := rhas_c H core
  cases h1 : hasB n core with
  | false =>
    rw [Bool.false_and]
    rw [h1] at hh
    go_enter Try.func16, Try.ntmps16
    go_upto_region 2 with (first | (go_at_call 24; refine hh.mono ?_; rintro e w' ⟨rfl, rfl⟩; dsimp only))
    go_quiet (fail)
    go_wp2
    go_ret
    exact ⟨rfl, Rel.below_draws (Below.refl _ _)⟩
  | true =>
    obtain ⟨c, rfl, hc⟩ := core_of h1
    have hc' : (c : Int) < n := by omega
    rw [h1] at hh
    rw [Bool.true_and, Int.toNat_natCast]
    have z1 := H.cc hc
    have z2 := H.cl hc
    unfold Tm.high
    by_cases g1 : T.ctl c = 1
    · rw [g1] at z1
      rw [decide_eq_true g1, Bool.true_and]
      clear H g1
      generalize T.cval c = x at z2 ⊢
      generalize T.cnt = y at c0 ⊢
      go_enter Try.func16, Try.ntmps16
      go_upto_region 2 with (first | (go_at_call 24; refine hh.mono ?_; rintro e w' ⟨rfl, rfl⟩; dsimp only))
      go_quiet (fail)
      go_wp2
      go_ret
      exact ⟨rfl, Rel.below_draws (Below.refl _ _)⟩
    · have b1 : (T.ctl c == 1) = false := by simpa using g1
      rw [decide_eq_false g1, Bool.false_and]
      clear H
      go_enter Try.func16, Try.ntmps16
      go_upto_region 2 with (first | (go_at_call 24; refine hh.mono ?_; rintro e w' ⟨rfl, rfl⟩; dsimp only))
      go_quiet (fail)
      go_wp2
      go_ret
      exact ⟨rfl, Rel.below_draws (Below.refl _ _)⟩
end
end Go.Proofs.Ytebkpmplhpebbaa
