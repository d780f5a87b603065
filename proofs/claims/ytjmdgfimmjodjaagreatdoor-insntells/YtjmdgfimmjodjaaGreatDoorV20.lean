/- What an instruction writes, as the document's own answer tells: a contract, for every instruction. -/
import Derived.Test.YtjmdgfimmjodjaaGreatDoorV18
import Derived.Test.YtjmdgfimmjodjaaGreatDoorV19
namespace Go.Proofs.YtjmdgfimmjodjaaGreatDoor
open Go.RowKit Go.Rel

theorem below_drawn1 (w : World) : Below w.heap.size w { w with drawn := w.drawn + 1 } := ⟨rfl, rfl, rfl, Nat.le_refl _, fun _ _ => rfl⟩
def RowOne (x : Value) (t : TypeId) (v : Value) (w : World) : Prop := ∃ g, v = .slice (some ⟨g, 0, none⟩) 1 1 ∧ w.heap[g]? = some (.cells #[x] t)
theorem rowOne_up (x : Value) (t : TypeId) (v : Value) : Up Grows (RowOne x t v) := fun _ _ ⟨g, e, h⟩ hb => ⟨g, e, by rw [hb.block g (Array.getElem?_eq_some_iff.1 h).1]; exact h⟩
def RowL (base S : Nat) (v : Value) (w : World) : Prop := w.ownsRow base 3 1 v (listL S 32).length (listV S 32)
theorem own_up {w w' : World} {base : Nat} {e : TypeId} {size n : Nat} {v : Value} {xs : List Value} (h : w.ownsRow base e size v n xs) (hb : Below w.heap.size w w') : w'.ownsRow base e size v n xs := by
  obtain ⟨h1, h2⟩ := h
  refine ⟨h1, ?_⟩
  rcases h2 with h2 | ⟨g, cap, cur, hv, hg, hc, r⟩
  · exact Or.inl h2
  · refine Or.inr ⟨g, cap, cur, hv, hg, ?_, r⟩
    rw [hb.block g (Array.getElem?_eq_some_iff.1 hc).1]
    exact hc
theorem rowL_up (base S : Nat) (v : Value) : Up Grows (RowL base S v) := fun _ _ h hb => own_up h hb
theorem thirty : listL (zeroF 30).toNat 32 = [30] := by decide +kernel
theorem own_thirty (w : World) (base : Nat) (hb : base ≤ w.heap.size) : (w.alloc (.cells #[vI 30] 3)).ownsRow base 3 1 (.slice (some ⟨w.heap.size, 0, none⟩) 1 1) (listL (zeroF 30).toNat 32).length (listV (zeroF 30).toNat 32) := by
  unfold listV
  rw [thirty]
  exact ⟨by decide, Or.inr ⟨w.heap.size, 1, #[vI 30], rfl, hb, heap_alloc_new _ _, Nat.le_refl _, by unfold maxLen; simp, by simp, by simp⟩⟩
set_option maxRecDepth 8000 in
set_option maxHeartbeats 4000000 in
theorem rWrites_c (i : Ins) (w : World) :
    Calls Tryz.prog 19 #[i.val] w fun e w' => ∃ v, e = .returned v ∧ w'.ownsRow w.heap.size 3 1 v (listL (setOf i (writesV i)) 32).length (listV (setOf i (writesV i)) 32) ∧ Below w.heap.size w w' := by
  have H1 := one_start i w
  cases hR : rightB i
  · have hS : Hid (setOf i (writesV i) = 0) := by show _ = _; simp only [setOf, hR, cond_false]
    go_enter Tryz.func19, Tryz.ntmps19
    go_upto_region 2 with (first | (refine wpList_load_if rfl 23 _ rfl w.heap.size rfl 23 _ (0, 0) _ H1.box Tryz.underlying23 rfl (by kernel_rfl) ?_; simp only [Act.put, List.setIfInBounds_toArray, List.set_cons_succ, List.set_cons_zero]) | (go_at_call 5; refine (rright_c i _).mono ?_; rw [hR]; rintro e w2 ⟨rfl, hb2⟩; replace H1 := H1.grow hb2; clear hb2; dsimp only))
    go_wp2
    go_ret
    refine ⟨_, rfl, ?_, H1.below⟩
    rw [hS.out]
    exact World.ownsRow_nil _ _ _ _
  · have hr := inR_of hR
    have ho := op_in hR
    go_enter Tryz.func19, Tryz.ntmps19
    go_upto_region 4 with (first | (refine wpList_load_if rfl 23 _ rfl w.heap.size rfl 23 _ (0, 0) _ H1.box Tryz.underlying23 rfl (by kernel_rfl) ?_; simp only [Act.put, List.setIfInBounds_toArray, List.set_cons_succ, List.set_cons_zero]) | (go_at_call 5; refine (rright_c i _).mono ?_; rw [hR]; rintro e w2 ⟨rfl, hb2⟩; replace H1 := H1.grow hb2; clear hb2; dsimp only))
    have g0 := H1.at 0 (vI i.op) rfl
    have g1 := H1.at 1 (vI i.sub) rfl
    have g4 := H1.at 4 (vI i.rm) rfl
    have g15 := H1.at 15 (.bool i.link) rfl
    by_cases cA : i.op ≤ 11
    · have hS : Hid (setOf i (writesV i) = setAt [i.rd] [spD i]) := by
        show _ = _
        rw [set_one _ hr.d0 hr.d1]
        simp only [setOf, hR, cond_true]
        have e : writesV i = setDV i := by
          rcases (by omega : i.op = 1 ∨ i.op = 2 ∨ i.op = 3 ∨ i.op = 4 ∨ i.op = 5 ∨ i.op = 6 ∨ i.op = 7 ∨ i.op = 8 ∨ i.op = 9 ∨ i.op = 10 ∨ i.op = 11) with h | h | h | h | h | h | h | h | h | h | h <;> simp [writesV, h]
        rw [e]; rfl
      have c1 : 1 ≤ i.op := ho.1
      clear ho hR hr
      go_upto_region 5 with fail
      refine wp_region_rel Grows (fun x => One i w x) [.inl (.pointer (some ⟨w.heap.size, 2, none⟩)), .inl (vI i.rd), .inr (RowOne (vI i.rd) 3), .inl i.val, .inl (.bool (spD i)), .inr (RowOne (.bool (spD i)) 4), .inr (RowL w.heap.size (setAt [i.rd] [spD i])), .inr (RowL w.heap.size (setAt [i.rd] [spD i]))] (by kernel_rfl) (by kernel_rfl) (One.up i w) (H1.grow (below_drawn1 _)) (by simp only [List.mem_cons, List.not_mem_nil, or_false]; rintro k hk; rcases hk with rfl | rfl | rfl | rfl | rfl | rfl | rfl | rfl <;> first | trivial | exact fun v => rowOne_up _ _ v | exact fun v => rowL_up _ _ v) ?_
      refine ⟨fun w1 hC hF => ?_, ?_⟩
      · go_simp
        first | exact ⟨Below.refl _ _, rfl⟩ | exact Below.refl _ _
      simp only [Act.put, List.setIfInBounds_toArray, List.set_cons_succ, List.set_cons_zero]
      refine ⟨fun w1 hC hF => ?_, ?_⟩
      · have gg := hC.at 2 (vI i.rd) rfl
        go_simp
        first | exact ⟨Below.refl _ _, rfl⟩ | exact Below.refl _ _
      simp only [Act.put, List.setIfInBounds_toArray, List.set_cons_succ, List.set_cons_zero]
      refine ⟨fun w1 hC hF => ?_, fun v2 => ?_⟩
      · go_simp
        exact ⟨below_alloc _ _, _, rfl, heap_alloc_new _ _⟩
      simp only [Act.put, List.setIfInBounds_toArray, List.set_cons_succ, List.set_cons_zero]
      refine ⟨fun w1 hC _ => rel_load_row 23 _ rfl w.heap.size rfl 23 i.cells (0, 0) _ hC.box Tryz.underlying23 rfl (by kernel_rfl), ?_⟩
      simp only [Act.put, List.setIfInBounds_toArray, List.set_cons_succ, List.set_cons_zero]
      refine ⟨fun w1 hC hF => ?_, ?_⟩
      · go_simp
        refine (rspD_c i w1).mono ?_
        rintro e w4 ⟨rfl, hb⟩
        first | exact ⟨rfl, hb⟩ | exact ⟨_, rfl, hb, rfl⟩
      simp only [Act.put, List.setIfInBounds_toArray, List.set_cons_succ, List.set_cons_zero]
      refine ⟨fun w1 hC hF => ?_, fun v5 => ?_⟩
      · go_simp
        exact ⟨below_alloc _ _, _, rfl, heap_alloc_new _ _⟩
      simp only [Act.put, List.setIfInBounds_toArray, List.set_cons_succ, List.set_cons_zero]
      refine ⟨fun w1 hC hF => ?_, fun v6 => ?_⟩
      · obtain ⟨ga, rfl, ha⟩ := (hF 2 (by kernel_rfl)).2.1 rfl
        obtain ⟨gb, rfl, hb⟩ := (hF 5 (by kernel_rfl)).1 rfl
        go_simp
        refine (rlist_c ga 1 gb 1 [i.rd] [spD i] rfl (by simp) w1 (Array.getElem?_eq_some_iff.1 ha).1 (Array.getElem?_eq_some_iff.1 hb).1 ?_ ?_).mono ?_
        · intro j hj
          obtain rfl : j = 0 := by have : j < 1 := hj; omega
          rw [cell_of_row _ _ _ _ _ _ ha]; rfl
        · intro j hj
          obtain rfl : j = 0 := by have : j < 1 := hj; omega
          rw [cell_of_row _ _ _ _ _ _ hb]; rfl
        · rintro e w4 ⟨v, rfl, hown, hbb⟩
          exact ⟨v, rfl, hbb, own_mono hown hC.below.size⟩
      simp only [Act.put, List.setIfInBounds_toArray, List.set_cons_succ, List.set_cons_zero]
      refine ⟨fun w1 hC hF => ?_, fun v7 => ?_⟩
      · have h6 := (hF 6 (by kernel_rfl)).1 rfl
        go_simp
        first | exact ⟨Below.refl _ _, h6⟩ | exact Below.refl _ _
      simp only [Act.put, List.setIfInBounds_toArray, List.set_cons_succ, List.set_cons_zero]
      intro w1 hC hF
      have h7 := (hF 7).1 rfl
      refine then_normal ?_
      go_wp2
      go_ret
      refine ⟨_, rfl, ?_, hC.below⟩
      rw [hS.out]
      exact h7
    have a11 : 11 < i.op := by omega
    have a1 : 1 ≤ i.op := by omega
    clear cA
    by_cases c17 : i.op = 17
    · have hS : Hid (setOf i (writesV i) = setAt [i.rd] [spD i]) := by
        show _ = _
        rw [set_one _ hr.d0 hr.d1]
        simp only [setOf, hR, cond_true]
        have e : writesV i = setDV i := by simp [writesV, c17]
        rw [e]; rfl
      have n17 : (i.op == 17) = true := by simpa using c17
      clear ho hR hr c17
      go_upto_region 5 with fail
      refine wp_region_rel Grows (fun x => One i w x) [.inl (.pointer (some ⟨w.heap.size, 2, none⟩)), .inl (vI i.rd), .inr (RowOne (vI i.rd) 3), .inl i.val, .inl (.bool (spD i)), .inr (RowOne (.bool (spD i)) 4), .inr (RowL w.heap.size (setAt [i.rd] [spD i])), .inr (RowL w.heap.size (setAt [i.rd] [spD i]))] (by kernel_rfl) (by kernel_rfl) (One.up i w) (H1.grow (below_drawn1 _)) (by simp only [List.mem_cons, List.not_mem_nil, or_false]; rintro k hk; rcases hk with rfl | rfl | rfl | rfl | rfl | rfl | rfl | rfl <;> first | trivial | exact fun v => rowOne_up _ _ v | exact fun v => rowL_up _ _ v) ?_
      refine ⟨fun w1 hC hF => ?_, ?_⟩
      · go_simp
        first | exact ⟨Below.refl _ _, rfl⟩ | exact Below.refl _ _
      simp only [Act.put, List.setIfInBounds_toArray, List.set_cons_succ, List.set_cons_zero]
      refine ⟨fun w1 hC hF => ?_, ?_⟩
      · have gg := hC.at 2 (vI i.rd) rfl
        go_simp
        first | exact ⟨Below.refl _ _, rfl⟩ | exact Below.refl _ _
      simp only [Act.put, List.setIfInBounds_toArray, List.set_cons_succ, List.set_cons_zero]
      refine ⟨fun w1 hC hF => ?_, fun v2 => ?_⟩
      · go_simp
        exact ⟨below_alloc _ _, _, rfl, heap_alloc_new _ _⟩
      simp only [Act.put, List.setIfInBounds_toArray, List.set_cons_succ, List.set_cons_zero]
      refine ⟨fun w1 hC _ => rel_load_row 23 _ rfl w.heap.size rfl 23 i.cells (0, 0) _ hC.box Tryz.underlying23 rfl (by kernel_rfl), ?_⟩
      simp only [Act.put, List.setIfInBounds_toArray, List.set_cons_succ, List.set_cons_zero]
      refine ⟨fun w1 hC hF => ?_, ?_⟩
      · go_simp
        refine (rspD_c i w1).mono ?_
        rintro e w4 ⟨rfl, hb⟩
        first | exact ⟨rfl, hb⟩ | exact ⟨_, rfl, hb, rfl⟩
      simp only [Act.put, List.setIfInBounds_toArray, List.set_cons_succ, List.set_cons_zero]
      refine ⟨fun w1 hC hF => ?_, fun v5 => ?_⟩
      · go_simp
        exact ⟨below_alloc _ _, _, rfl, heap_alloc_new _ _⟩
      simp only [Act.put, List.setIfInBounds_toArray, List.set_cons_succ, List.set_cons_zero]
      refine ⟨fun w1 hC hF => ?_, fun v6 => ?_⟩
      · obtain ⟨ga, rfl, ha⟩ := (hF 2 (by kernel_rfl)).2.1 rfl
        obtain ⟨gb, rfl, hb⟩ := (hF 5 (by kernel_rfl)).1 rfl
        go_simp
        refine (rlist_c ga 1 gb 1 [i.rd] [spD i] rfl (by simp) w1 (Array.getElem?_eq_some_iff.1 ha).1 (Array.getElem?_eq_some_iff.1 hb).1 ?_ ?_).mono ?_
        · intro j hj
          obtain rfl : j = 0 := by have : j < 1 := hj; omega
          rw [cell_of_row _ _ _ _ _ _ ha]; rfl
        · intro j hj
          obtain rfl : j = 0 := by have : j < 1 := hj; omega
          rw [cell_of_row _ _ _ _ _ _ hb]; rfl
        · rintro e w4 ⟨v, rfl, hown, hbb⟩
          exact ⟨v, rfl, hbb, own_mono hown hC.below.size⟩
      simp only [Act.put, List.setIfInBounds_toArray, List.set_cons_succ, List.set_cons_zero]
      refine ⟨fun w1 hC hF => ?_, fun v7 => ?_⟩
      · have h6 := (hF 6 (by kernel_rfl)).1 rfl
        go_simp
        first | exact ⟨Below.refl _ _, h6⟩ | exact Below.refl _ _
      simp only [Act.put, List.setIfInBounds_toArray, List.set_cons_succ, List.set_cons_zero]
      intro w1 hC hF
      have h7 := (hF 7).1 rfl
      refine then_normal ?_
      go_wp2
      go_ret
      refine ⟨_, rfl, ?_, hC.below⟩
      rw [hS.out]
      exact h7
    have n17 : (i.op == 17) = false := by simpa using c17
    by_cases c19 : i.op = 19
    · have hS : Hid (setOf i (writesV i) = setAt [i.rd] [spD i]) := by
        show _ = _
        rw [set_one _ hr.d0 hr.d1]
        simp only [setOf, hR, cond_true]
        have e : writesV i = setDV i := by simp [writesV, c19]
        rw [e]; rfl
      have n19 : (i.op == 19) = true := by simpa using c19
      clear ho hR hr c19
      go_upto_region 5 with fail
      refine wp_region_rel Grows (fun x => One i w x) [.inl (.pointer (some ⟨w.heap.size, 2, none⟩)), .inl (vI i.rd), .inr (RowOne (vI i.rd) 3), .inl i.val, .inl (.bool (spD i)), .inr (RowOne (.bool (spD i)) 4), .inr (RowL w.heap.size (setAt [i.rd] [spD i])), .inr (RowL w.heap.size (setAt [i.rd] [spD i]))] (by kernel_rfl) (by kernel_rfl) (One.up i w) (H1.grow (below_drawn1 _)) (by simp only [List.mem_cons, List.not_mem_nil, or_false]; rintro k hk; rcases hk with rfl | rfl | rfl | rfl | rfl | rfl | rfl | rfl <;> first | trivial | exact fun v => rowOne_up _ _ v | exact fun v => rowL_up _ _ v) ?_
      refine ⟨fun w1 hC hF => ?_, ?_⟩
      · go_simp
        first | exact ⟨Below.refl _ _, rfl⟩ | exact Below.refl _ _
      simp only [Act.put, List.setIfInBounds_toArray, List.set_cons_succ, List.set_cons_zero]
      refine ⟨fun w1 hC hF => ?_, ?_⟩
      · have gg := hC.at 2 (vI i.rd) rfl
        go_simp
        first | exact ⟨Below.refl _ _, rfl⟩ | exact Below.refl _ _
      simp only [Act.put, List.setIfInBounds_toArray, List.set_cons_succ, List.set_cons_zero]
      refine ⟨fun w1 hC hF => ?_, fun v2 => ?_⟩
      · go_simp
        exact ⟨below_alloc _ _, _, rfl, heap_alloc_new _ _⟩
      simp only [Act.put, List.setIfInBounds_toArray, List.set_cons_succ, List.set_cons_zero]
      refine ⟨fun w1 hC _ => rel_load_row 23 _ rfl w.heap.size rfl 23 i.cells (0, 0) _ hC.box Tryz.underlying23 rfl (by kernel_rfl), ?_⟩
      simp only [Act.put, List.setIfInBounds_toArray, List.set_cons_succ, List.set_cons_zero]
      refine ⟨fun w1 hC hF => ?_, ?_⟩
      · go_simp
        refine (rspD_c i w1).mono ?_
        rintro e w4 ⟨rfl, hb⟩
        first | exact ⟨rfl, hb⟩ | exact ⟨_, rfl, hb, rfl⟩
      simp only [Act.put, List.setIfInBounds_toArray, List.set_cons_succ, List.set_cons_zero]
      refine ⟨fun w1 hC hF => ?_, fun v5 => ?_⟩
      · go_simp
        exact ⟨below_alloc _ _, _, rfl, heap_alloc_new _ _⟩
      simp only [Act.put, List.setIfInBounds_toArray, List.set_cons_succ, List.set_cons_zero]
      refine ⟨fun w1 hC hF => ?_, fun v6 => ?_⟩
      · obtain ⟨ga, rfl, ha⟩ := (hF 2 (by kernel_rfl)).2.1 rfl
        obtain ⟨gb, rfl, hb⟩ := (hF 5 (by kernel_rfl)).1 rfl
        go_simp
        refine (rlist_c ga 1 gb 1 [i.rd] [spD i] rfl (by simp) w1 (Array.getElem?_eq_some_iff.1 ha).1 (Array.getElem?_eq_some_iff.1 hb).1 ?_ ?_).mono ?_
        · intro j hj
          obtain rfl : j = 0 := by have : j < 1 := hj; omega
          rw [cell_of_row _ _ _ _ _ _ ha]; rfl
        · intro j hj
          obtain rfl : j = 0 := by have : j < 1 := hj; omega
          rw [cell_of_row _ _ _ _ _ _ hb]; rfl
        · rintro e w4 ⟨v, rfl, hown, hbb⟩
          exact ⟨v, rfl, hbb, own_mono hown hC.below.size⟩
      simp only [Act.put, List.setIfInBounds_toArray, List.set_cons_succ, List.set_cons_zero]
      refine ⟨fun w1 hC hF => ?_, fun v7 => ?_⟩
      · have h6 := (hF 6 (by kernel_rfl)).1 rfl
        go_simp
        first | exact ⟨Below.refl _ _, h6⟩ | exact Below.refl _ _
      simp only [Act.put, List.setIfInBounds_toArray, List.set_cons_succ, List.set_cons_zero]
      intro w1 hC hF
      have h7 := (hF 7).1 rfl
      refine then_normal ?_
      go_wp2
      go_ret
      refine ⟨_, rfl, ?_, hC.below⟩
      rw [hS.out]
      exact h7
    have n19 : (i.op == 19) = false := by simpa using c19
    by_cases c21 : i.op = 21
    · have hS : Hid (setOf i (writesV i) = setAt [i.rd] [spD i]) := by
        show _ = _
        rw [set_one _ hr.d0 hr.d1]
        simp only [setOf, hR, cond_true]
        have e : writesV i = setDV i := by simp [writesV, c21]
        rw [e]; rfl
      have n21 : (i.op == 21) = true := by simpa using c21
      clear ho hR hr c21
      go_upto_region 5 with fail
      refine wp_region_rel Grows (fun x => One i w x) [.inl (.pointer (some ⟨w.heap.size, 2, none⟩)), .inl (vI i.rd), .inr (RowOne (vI i.rd) 3), .inl i.val, .inl (.bool (spD i)), .inr (RowOne (.bool (spD i)) 4), .inr (RowL w.heap.size (setAt [i.rd] [spD i])), .inr (RowL w.heap.size (setAt [i.rd] [spD i]))] (by kernel_rfl) (by kernel_rfl) (One.up i w) (H1.grow (below_drawn1 _)) (by simp only [List.mem_cons, List.not_mem_nil, or_false]; rintro k hk; rcases hk with rfl | rfl | rfl | rfl | rfl | rfl | rfl | rfl <;> first | trivial | exact fun v => rowOne_up _ _ v | exact fun v => rowL_up _ _ v) ?_
      refine ⟨fun w1 hC hF => ?_, ?_⟩
      · go_simp
        first | exact ⟨Below.refl _ _, rfl⟩ | exact Below.refl _ _
      simp only [Act.put, List.setIfInBounds_toArray, List.set_cons_succ, List.set_cons_zero]
      refine ⟨fun w1 hC hF => ?_, ?_⟩
      · have gg := hC.at 2 (vI i.rd) rfl
        go_simp
        first | exact ⟨Below.refl _ _, rfl⟩ | exact Below.refl _ _
      simp only [Act.put, List.setIfInBounds_toArray, List.set_cons_succ, List.set_cons_zero]
      refine ⟨fun w1 hC hF => ?_, fun v2 => ?_⟩
      · go_simp
        exact ⟨below_alloc _ _, _, rfl, heap_alloc_new _ _⟩
      simp only [Act.put, List.setIfInBounds_toArray, List.set_cons_succ, List.set_cons_zero]
      refine ⟨fun w1 hC _ => rel_load_row 23 _ rfl w.heap.size rfl 23 i.cells (0, 0) _ hC.box Tryz.underlying23 rfl (by kernel_rfl), ?_⟩
      simp only [Act.put, List.setIfInBounds_toArray, List.set_cons_succ, List.set_cons_zero]
      refine ⟨fun w1 hC hF => ?_, ?_⟩
      · go_simp
        refine (rspD_c i w1).mono ?_
        rintro e w4 ⟨rfl, hb⟩
        first | exact ⟨rfl, hb⟩ | exact ⟨_, rfl, hb, rfl⟩
      simp only [Act.put, List.setIfInBounds_toArray, List.set_cons_succ, List.set_cons_zero]
      refine ⟨fun w1 hC hF => ?_, fun v5 => ?_⟩
      · go_simp
        exact ⟨below_alloc _ _, _, rfl, heap_alloc_new _ _⟩
      simp only [Act.put, List.setIfInBounds_toArray, List.set_cons_succ, List.set_cons_zero]
      refine ⟨fun w1 hC hF => ?_, fun v6 => ?_⟩
      · obtain ⟨ga, rfl, ha⟩ := (hF 2 (by kernel_rfl)).2.1 rfl
        obtain ⟨gb, rfl, hb⟩ := (hF 5 (by kernel_rfl)).1 rfl
        go_simp
        refine (rlist_c ga 1 gb 1 [i.rd] [spD i] rfl (by simp) w1 (Array.getElem?_eq_some_iff.1 ha).1 (Array.getElem?_eq_some_iff.1 hb).1 ?_ ?_).mono ?_
        · intro j hj
          obtain rfl : j = 0 := by have : j < 1 := hj; omega
          rw [cell_of_row _ _ _ _ _ _ ha]; rfl
        · intro j hj
          obtain rfl : j = 0 := by have : j < 1 := hj; omega
          rw [cell_of_row _ _ _ _ _ _ hb]; rfl
        · rintro e w4 ⟨v, rfl, hown, hbb⟩
          exact ⟨v, rfl, hbb, own_mono hown hC.below.size⟩
      simp only [Act.put, List.setIfInBounds_toArray, List.set_cons_succ, List.set_cons_zero]
      refine ⟨fun w1 hC hF => ?_, fun v7 => ?_⟩
      · have h6 := (hF 6 (by kernel_rfl)).1 rfl
        go_simp
        first | exact ⟨Below.refl _ _, h6⟩ | exact Below.refl _ _
      simp only [Act.put, List.setIfInBounds_toArray, List.set_cons_succ, List.set_cons_zero]
      intro w1 hC hF
      have h7 := (hF 7).1 rfl
      refine then_normal ?_
      go_wp2
      go_ret
      refine ⟨_, rfl, ?_, hC.below⟩
      rw [hS.out]
      exact h7
    have n21 : (i.op == 21) = false := by simpa using c21
    by_cases c23 : i.op = 23
    · have hS : Hid (setOf i (writesV i) = setAt [i.rd] [spD i]) := by
        show _ = _
        rw [set_one _ hr.d0 hr.d1]
        simp only [setOf, hR, cond_true]
        have e : writesV i = setDV i := by simp [writesV, c23]
        rw [e]; rfl
      have n23 : (i.op == 23) = true := by simpa using c23
      clear ho hR hr c23
      go_upto_region 5 with fail
      refine wp_region_rel Grows (fun x => One i w x) [.inl (.pointer (some ⟨w.heap.size, 2, none⟩)), .inl (vI i.rd), .inr (RowOne (vI i.rd) 3), .inl i.val, .inl (.bool (spD i)), .inr (RowOne (.bool (spD i)) 4), .inr (RowL w.heap.size (setAt [i.rd] [spD i])), .inr (RowL w.heap.size (setAt [i.rd] [spD i]))] (by kernel_rfl) (by kernel_rfl) (One.up i w) (H1.grow (below_drawn1 _)) (by simp only [List.mem_cons, List.not_mem_nil, or_false]; rintro k hk; rcases hk with rfl | rfl | rfl | rfl | rfl | rfl | rfl | rfl <;> first | trivial | exact fun v => rowOne_up _ _ v | exact fun v => rowL_up _ _ v) ?_
      refine ⟨fun w1 hC hF => ?_, ?_⟩
      · go_simp
        first | exact ⟨Below.refl _ _, rfl⟩ | exact Below.refl _ _
      simp only [Act.put, List.setIfInBounds_toArray, List.set_cons_succ, List.set_cons_zero]
      refine ⟨fun w1 hC hF => ?_, ?_⟩
      · have gg := hC.at 2 (vI i.rd) rfl
        go_simp
        first | exact ⟨Below.refl _ _, rfl⟩ | exact Below.refl _ _
      simp only [Act.put, List.setIfInBounds_toArray, List.set_cons_succ, List.set_cons_zero]
      refine ⟨fun w1 hC hF => ?_, fun v2 => ?_⟩
      · go_simp
        exact ⟨below_alloc _ _, _, rfl, heap_alloc_new _ _⟩
      simp only [Act.put, List.setIfInBounds_toArray, List.set_cons_succ, List.set_cons_zero]
      refine ⟨fun w1 hC _ => rel_load_row 23 _ rfl w.heap.size rfl 23 i.cells (0, 0) _ hC.box Tryz.underlying23 rfl (by kernel_rfl), ?_⟩
      simp only [Act.put, List.setIfInBounds_toArray, List.set_cons_succ, List.set_cons_zero]
      refine ⟨fun w1 hC hF => ?_, ?_⟩
      · go_simp
        refine (rspD_c i w1).mono ?_
        rintro e w4 ⟨rfl, hb⟩
        first | exact ⟨rfl, hb⟩ | exact ⟨_, rfl, hb, rfl⟩
      simp only [Act.put, List.setIfInBounds_toArray, List.set_cons_succ, List.set_cons_zero]
      refine ⟨fun w1 hC hF => ?_, fun v5 => ?_⟩
      · go_simp
        exact ⟨below_alloc _ _, _, rfl, heap_alloc_new _ _⟩
      simp only [Act.put, List.setIfInBounds_toArray, List.set_cons_succ, List.set_cons_zero]
      refine ⟨fun w1 hC hF => ?_, fun v6 => ?_⟩
      · obtain ⟨ga, rfl, ha⟩ := (hF 2 (by kernel_rfl)).2.1 rfl
        obtain ⟨gb, rfl, hb⟩ := (hF 5 (by kernel_rfl)).1 rfl
        go_simp
        refine (rlist_c ga 1 gb 1 [i.rd] [spD i] rfl (by simp) w1 (Array.getElem?_eq_some_iff.1 ha).1 (Array.getElem?_eq_some_iff.1 hb).1 ?_ ?_).mono ?_
        · intro j hj
          obtain rfl : j = 0 := by have : j < 1 := hj; omega
          rw [cell_of_row _ _ _ _ _ _ ha]; rfl
        · intro j hj
          obtain rfl : j = 0 := by have : j < 1 := hj; omega
          rw [cell_of_row _ _ _ _ _ _ hb]; rfl
        · rintro e w4 ⟨v, rfl, hown, hbb⟩
          exact ⟨v, rfl, hbb, own_mono hown hC.below.size⟩
      simp only [Act.put, List.setIfInBounds_toArray, List.set_cons_succ, List.set_cons_zero]
      refine ⟨fun w1 hC hF => ?_, fun v7 => ?_⟩
      · have h6 := (hF 6 (by kernel_rfl)).1 rfl
        go_simp
        first | exact ⟨Below.refl _ _, h6⟩ | exact Below.refl _ _
      simp only [Act.put, List.setIfInBounds_toArray, List.set_cons_succ, List.set_cons_zero]
      intro w1 hC hF
      have h7 := (hF 7).1 rfl
      refine then_normal ?_
      go_wp2
      go_ret
      refine ⟨_, rfl, ?_, hC.below⟩
      rw [hS.out]
      exact h7
    have n23 : (i.op == 23) = false := by simpa using c23
    by_cases c31 : i.op = 31
    · have hS : Hid (setOf i (writesV i) = setAt [i.rd] [spD i]) := by
        show _ = _
        rw [set_one _ hr.d0 hr.d1]
        simp only [setOf, hR, cond_true]
        have e : writesV i = setDV i := by simp [writesV, c31]
        rw [e]; rfl
      have n31 : (i.op == 31) = true := by simpa using c31
      clear ho hR hr c31
      go_upto_region 5 with fail
      refine wp_region_rel Grows (fun x => One i w x) [.inl (.pointer (some ⟨w.heap.size, 2, none⟩)), .inl (vI i.rd), .inr (RowOne (vI i.rd) 3), .inl i.val, .inl (.bool (spD i)), .inr (RowOne (.bool (spD i)) 4), .inr (RowL w.heap.size (setAt [i.rd] [spD i])), .inr (RowL w.heap.size (setAt [i.rd] [spD i]))] (by kernel_rfl) (by kernel_rfl) (One.up i w) (H1.grow (below_drawn1 _)) (by simp only [List.mem_cons, List.not_mem_nil, or_false]; rintro k hk; rcases hk with rfl | rfl | rfl | rfl | rfl | rfl | rfl | rfl <;> first | trivial | exact fun v => rowOne_up _ _ v | exact fun v => rowL_up _ _ v) ?_
      refine ⟨fun w1 hC hF => ?_, ?_⟩
      · go_simp
        first | exact ⟨Below.refl _ _, rfl⟩ | exact Below.refl _ _
      simp only [Act.put, List.setIfInBounds_toArray, List.set_cons_succ, List.set_cons_zero]
      refine ⟨fun w1 hC hF => ?_, ?_⟩
      · have gg := hC.at 2 (vI i.rd) rfl
        go_simp
        first | exact ⟨Below.refl _ _, rfl⟩ | exact Below.refl _ _
      simp only [Act.put, List.setIfInBounds_toArray, List.set_cons_succ, List.set_cons_zero]
      refine ⟨fun w1 hC hF => ?_, fun v2 => ?_⟩
      · go_simp
        exact ⟨below_alloc _ _, _, rfl, heap_alloc_new _ _⟩
      simp only [Act.put, List.setIfInBounds_toArray, List.set_cons_succ, List.set_cons_zero]
      refine ⟨fun w1 hC _ => rel_load_row 23 _ rfl w.heap.size rfl 23 i.cells (0, 0) _ hC.box Tryz.underlying23 rfl (by kernel_rfl), ?_⟩
      simp only [Act.put, List.setIfInBounds_toArray, List.set_cons_succ, List.set_cons_zero]
      refine ⟨fun w1 hC hF => ?_, ?_⟩
      · go_simp
        refine (rspD_c i w1).mono ?_
        rintro e w4 ⟨rfl, hb⟩
        first | exact ⟨rfl, hb⟩ | exact ⟨_, rfl, hb, rfl⟩
      simp only [Act.put, List.setIfInBounds_toArray, List.set_cons_succ, List.set_cons_zero]
      refine ⟨fun w1 hC hF => ?_, fun v5 => ?_⟩
      · go_simp
        exact ⟨below_alloc _ _, _, rfl, heap_alloc_new _ _⟩
      simp only [Act.put, List.setIfInBounds_toArray, List.set_cons_succ, List.set_cons_zero]
      refine ⟨fun w1 hC hF => ?_, fun v6 => ?_⟩
      · obtain ⟨ga, rfl, ha⟩ := (hF 2 (by kernel_rfl)).2.1 rfl
        obtain ⟨gb, rfl, hb⟩ := (hF 5 (by kernel_rfl)).1 rfl
        go_simp
        refine (rlist_c ga 1 gb 1 [i.rd] [spD i] rfl (by simp) w1 (Array.getElem?_eq_some_iff.1 ha).1 (Array.getElem?_eq_some_iff.1 hb).1 ?_ ?_).mono ?_
        · intro j hj
          obtain rfl : j = 0 := by have : j < 1 := hj; omega
          rw [cell_of_row _ _ _ _ _ _ ha]; rfl
        · intro j hj
          obtain rfl : j = 0 := by have : j < 1 := hj; omega
          rw [cell_of_row _ _ _ _ _ _ hb]; rfl
        · rintro e w4 ⟨v, rfl, hown, hbb⟩
          exact ⟨v, rfl, hbb, own_mono hown hC.below.size⟩
      simp only [Act.put, List.setIfInBounds_toArray, List.set_cons_succ, List.set_cons_zero]
      refine ⟨fun w1 hC hF => ?_, fun v7 => ?_⟩
      · have h6 := (hF 6 (by kernel_rfl)).1 rfl
        go_simp
        first | exact ⟨Below.refl _ _, h6⟩ | exact Below.refl _ _
      simp only [Act.put, List.setIfInBounds_toArray, List.set_cons_succ, List.set_cons_zero]
      intro w1 hC hF
      have h7 := (hF 7).1 rfl
      refine then_normal ?_
      go_wp2
      go_ret
      refine ⟨_, rfl, ?_, hC.below⟩
      rw [hS.out]
      exact h7
    have n31 : (i.op == 31) = false := by simpa using c31
    by_cases c24 : i.op = 24
    · have hS : Hid (setOf i (writesV i) = setAt [i.rm] [false]) := by
        show _ = _
        rw [set_zero hr.m0 hr.m1]
        simp only [setOf, hR, cond_true]
        have e : writesV i = zeroF i.rm := by simp [writesV, c24]
        rw [e]
      have n24 : (i.op == 24) = true := by simpa using c24
      clear ho hR hr c24 c17 c19 c21 c23 c31
      go_wp2_with (go_at_call 48; refine (rlist1_c i.rm false _).mono ?_; rintro e w3 ⟨v, rfl, hown, hb3⟩; dsimp only)
      go_ret
      refine ⟨_, rfl, ?_, below_then H1.below hb3⟩
      rw [hS.out]
      exact own_mono hown H1.below.size
    have n24 : (i.op == 24) = false := by simpa using c24
    by_cases c12 : i.op = 12
    · have n12 : (i.op == 12) = true := by simpa using c12
      have n16 : (i.op == 16) = false := by rw [c12]; rfl
      have hS : Hid (setOf i (writesV i) = (bif i.link then (zeroF 30).toNat else 0)) := by
        show _ = _
        simp only [setOf, hR, cond_true]
        have e : writesV i = (bif i.link then zeroF 30 else 0) := by simp [writesV, c12]
        rw [e]; cases i.link <;> rfl
      clear ho hR hr c12 c24 c17 c19 c21 c23 c31
      cases hk : i.link
      · rw [hk] at hS g15
        go_wp2
        all_goals (go_ret; refine ⟨_, rfl, ?_, H1.below⟩; rw [hS.out]; exact World.ownsRow_nil _ _ _ _)
      · rw [hk] at hS g15
        go_wp2
        all_goals (go_ret; refine ⟨_, rfl, ?_, below_more H1.below⟩; rw [hS.out]; exact own_thirty _ _ H1.below.size)
    have n12 : (i.op == 12) = false := by simpa using c12
    by_cases c16 : i.op = 16
    · have n16 : (i.op == 16) = true := by simpa using c16
      have hS : Hid (setOf i (writesV i) = (bif i.sub == 1 then (zeroF 30).toNat else 0)) := by
        show _ = _
        simp only [setOf, hR, cond_true]
        have e : writesV i = (bif i.sub == 1 then zeroF 30 else 0) := by simp [writesV, c16]
        rw [e]; cases i.sub == 1 <;> rfl
      clear ho hR hr c12 c16 c24 c17 c19 c21 c23 c31
      cases hk : i.sub == 1
      · rw [hk] at hS
        go_wp2
        all_goals (go_ret; refine ⟨_, rfl, ?_, H1.below⟩; rw [hS.out]; exact World.ownsRow_nil _ _ _ _)
      · rw [hk] at hS
        go_wp2
        all_goals (go_ret; refine ⟨_, rfl, ?_, below_more H1.below⟩; rw [hS.out]; exact own_thirty _ _ H1.below.size)
    have n16 : (i.op == 16) = false := by simpa using c16
    have hS : Hid (setOf i (writesV i) = 0) := by
      show _ = _
      simp only [setOf, hR, cond_true]
      have e : writesV i = 0 := by
        unfold writesV
        simp only [n12, n16, n17, n19, n21, n23, n24, n31, show decide (i.op ≤ 11) = false by simp; omega]
        rfl
      rw [e]; rfl
    clear ho hR hr c12 c16 c24 c17 c19 c21 c23 c31
    go_wp2
    all_goals (go_ret; refine ⟨_, rfl, ?_, H1.below⟩; rw [hS.out]; exact World.ownsRow_nil _ _ _ _)
end Go.Proofs.YtjmdgfimmjodjaaGreatDoor
