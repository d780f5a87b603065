/- The document's own Store. -/
import Derived.Test.YtjkjbcnafpljoaaUf
import Derived.Test.YtjkjbcnafpljoaaRn
namespace Go.Proofs.Ytjkjbcnafpljoaa
open Go.RowKit
set_option linter.unusedVariables false
set_option linter.unusedSimpArgs false

theorem inf102b : ∃ i, Try.prog.info? 102 = some i ∧ i.zero = some (.agg #[vI 0, vU 0, vU 0, vI 0]) ∧ i.size = 4 ∧ i.bytes = 32 := by
  have h : (Try.prog.info? 102).map (fun i => (i.zero, i.size, i.bytes)) = some (some (.agg #[vI 0, vU 0, vU 0, vI 0]), 4, 32) := by kernel_rfl
  cases hq : Try.prog.info? 102 with
  | none => rw [hq] at h; cases h
  | some i =>
    rw [hq] at h
    simp only [Option.map_some, Option.some.injEq, Prod.mk.injEq] at h
    exact ⟨i, rfl, h.1, h.2.1, h.2.2⟩
theorem one_flatR (l : List R4) : ∀ u ∈ flatR l, u.oneCell' = true := by
  intro u hu
  simp only [flatR, List.mem_flatMap, List.mem_cons, List.not_mem_nil, or_false] at hu
  obtain ⟨s, _, h | h | h | h⟩ := hu <;> subst h <;> rfl
/-- A store appended to the document's row. -/
theorem wpList_app_r4 {ops : Array Oper} {rest : List Oper} {o : Oper} {a : Act} {w : World} {Q : Exit → Act → World → Prop} (hgd : o.guard = none) (s x : Operand)
    (ho : o.op = .call { callee := .builtin .append, args := #[s, x], argTypes := #[45, 45] }) (v : Value) (l : List R4) (hs : a.eval s = v) (hown : w.ownsRow 0 102 4 v l.length (flatR l))
    (b k c : Nat) (z : R4) (hx : a.eval x = .slice (some ⟨b, k, none⟩) 1 c) (hc : ∀ (j : Nat) u, z.row[j]? = some u → w.cell? ⟨b, k + j, none⟩ = some u) (hl : l.length < 1000000000)
    (h : ∀ g cap w', w'.ownsRow 0 102 4 (.slice (some ⟨g, 0, none⟩) (l.length + 1) cap) (l ++ [z]).length (flatR (l ++ [z])) → w.grownBy w' v.ownBlock → (v.ownBlock = some g ∨ g = w.heap.size) → g < w'.heap.size →
      wpList Try.prog ops Q rest (a.put o.dst (.slice (some ⟨g, 0, none⟩) (l.length + 1) cap)) w') : wpList Try.prog ops Q (o :: rest) a w := by
  obtain ⟨i, h1, h2, h3, h4⟩ := inf102b
  refine wpList_append_lies w hgd s x 45 ho 0 102 i (.agg #[vI 0, vU 0, vU 0, vI 0]) 4 32 Try.underlying45 h1 h2 h3 h4 rfl (by decide) v l.length (flatR l) hs hown ⟨b, k, none⟩ 1 c (flatR [z]) hx rfl ?_ (one_flatR _) (by decide) (by simp only [maxLen]; omega) (by omega) (Nat.zero_le _) w.heap.size rfl ?_
  · intro j u hj
    rw [add_zero_addr]
    exact hc j u hj
  · intro g cap w' q1 q2 q3 q4
    refine h g cap w' ?_ q2 q3 q4
    have e : flatR (l ++ [z]) = flatR l ++ flatR [z] := by simp [flatR]
    rw [List.length_append, e]
    exact q1
/-- The row turned elsewhere, then told to the document's memory. -/
theorem DocAt.giveA {h : Nat} {X : Doc} {L : DocLay} {w w1 w2 : World} (H : DocAt h X L w) (hB : Below w.heap.size w w1) {b cap n : Nat} {l : List R4} (q1 : w2.ownsRow 0 102 4 (.slice (some ⟨b, 0, none⟩) n cap) l.length (flatR l)) (q2 : w1.grownBy w2 L.av.ownBlock) (q3 : L.av.ownBlock = some b ∨ b = w1.heap.size) :
    DocTurn h L { X with all := l } w (w2.setCell ⟨h, 3, none⟩ (.slice (some ⟨b, 0, none⟩) n cap)) ∧ (w2.setCell ⟨h, 3, none⟩ (.slice (some ⟨b, 0, none⟩) n cap)).cell? ⟨h, 3, none⟩ = some (.slice (some ⟨b, 0, none⟩) n cap) := by
  have hT : w2.heap[h]? = some (.cells (docV X L) 47) := by
    rw [q2.block h (Nat.lt_of_lt_of_le (lt_of_some H.top) hB.size) (fun e => own_ne H.top H.all (by decide) e.symm), hB.block h (lt_of_some H.top)]
    exact H.top
  have hne : b ≠ h := by
    rcases q1.2 with ⟨h0, _⟩ | ⟨q, cap', cur, h0, _, hq, _⟩
    · cases h0
    · cases h0
      exact ne_of_type hq hT (by decide)
  obtain ⟨cur, hf⟩ : ∃ cur, w.heap[L.fb]? = some (.cells cur 28) := by
    rcases H.first.2 with ⟨h0, _⟩ | ⟨q', cap', cur, h0, hb, hq, _⟩
    · cases h0
    · simp only [Value.slice.injEq, Option.some.injEq, Addr.mk.injEq] at h0
      obtain ⟨⟨rfl, _⟩, _, _⟩ := h0
      exact ⟨cur, hq⟩
  have hfh : L.fb ≠ h := ne_of_type hf H.top (by decide)
  have hfa : L.av.ownBlock ≠ some L.fb := fun e => own_ne hf H.all (by decide) e
  have hsz : w.heap.size ≤ w2.heap.size := Nat.le_trans hB.size q2.size
  rw [setCell_eq_setRow _ _ _ _ _ _ _ hT]
  have hall : ∀ k, k < w.heap.size → k ≠ h → L.av.ownBlock ≠ some k → (w2.setRow h ((docV X L).setIfInBounds 3 (.slice (some ⟨b, 0, none⟩) n cap))).heap[k]? = w.heap[k]? := by
    intro k hk hkg hks
    rw [setRow_other _ _ _ _ hkg, q2.block k (Nat.lt_of_lt_of_le hk hB.size) (fun e => hks e.symm), hB.block k hk]
  have htop : (w2.setRow h ((docV X L).setIfInBounds 3 (.slice (some ⟨b, 0, none⟩) n cap))).heap[h]? = some (.cells ((docV X L).setIfInBounds 3 (.slice (some ⟨b, 0, none⟩) n cap)) 47) := setRow_heap _ _ _ _ _ _ hT
  refine ⟨⟨{ L with av := .slice (some ⟨b, 0, none⟩) n cap }, ⟨?_, ?_, ?_⟩, ⟨?_, ?_, ?_, ?_, ?_⟩, ?_⟩, by rw [cell_of_row _ _ _ _ _ _ htop]; rfl⟩
  · rw [htop]; rfl
  · exact own_of_block H.first fun k hk => by
      obtain rfl : L.fb = k := by simpa [Value.ownBlock] using hk
      exact hall _ (lt_of_some hf) hfh hfa
  · refine own_of_block q1 fun k hk => setRow_other _ _ _ _ ?_
    rintro rfl
    exact hne (by simpa [Value.ownBlock] using hk)
  · exact q2.os.trans hB.os
  · exact q2.tape.trans hB.tape
  · exact q2.output.trans hB.output
  · rw [size_setRow]; exact hsz
  · intro k hk hn
    exact hall k hk (fun e => hn (.inl e)) (fun e => hn (.inr (.inr e)))
  · rintro k (e | e | e)
    · exact .inl (.inl e)
    · exact .inl (.inr (.inl e))
    · obtain rfl : b = k := by simpa [Value.ownBlock] using e
      rcases q3 with q3 | q3
      · exact .inl (.inr (.inr q3))
      · exact .inr (by rw [q3]; exact hB.size)
theorem DocTurn.after {h : Nat} {L : DocLay} {X : Doc} {w w1 w2 : World} (t : DocTurn h L X w1 w2) (hb : Below w.heap.size w w1) : DocTurn h L X w w2 := by
  obtain ⟨L', m, go, ft⟩ := t
  exact ⟨L', m, (goes_of_below hb).trans go fun _ _ e => e, fun k hk => (ft k hk).imp id fun e => Nat.le_trans hb.size e⟩
def HV (n : Nat) (v : Value) (_ : World) : Prop := ∃ ha hc, v = .slice ha n hc
def fullD (X : Doc) (c : Int) : Bool := decide (X.depth ≤ ((heldD X c).length : Int))
def storeDS (X : Doc) (c a v : Int) : Doc := if fullD X c then X else { X with all := X.all ++ [⟨c, a, v, 0⟩] }
set_option maxRecDepth 4000 in
theorem storeD_c (h : Nat) (X : Doc) (L : DocLay) (core addr v : Int) (w : World) (H : DocAt h X L w) (hn : X.all.length < 1000000) : Calls Try.prog 39 #[ptr h 0, vI core, vU addr, vU v] w fun e w' => e = .returned (.tuple #[vI (if fullD X core then 0 else (X.all.length : Int) + 1), vI (if fullD X core then 30 else 0)]) ∧ DocTurn h L (storeDS X core addr v) w w' := by
  have hl : (heldD X core).length ≤ X.all.length := heldF_len _ _ _
  generalize hm : (heldD X core).length = m at hl
  rw [storeDS, fullD, hm]
  by_cases hd : X.depth ≤ (m : Int)
  · rw [decide_eq_true hd]
    simp only [if_true]
    go_enter Try.func39, Try.ntmps39
    go_upto_region 1 with fail
    refine Rel.wp_region_rel Rel.Grows (fun x => Below w.heap.size w x) [.inl (ptr h 0), .inl (vI core), .inr (HV m), .inl (vI m), .inl (ptr h 0), .inl (ptr h 0), .inl (ptr h 2), .inl (vI X.depth), .inl (.bool true)] (by kernel_rfl) (by kernel_rfl) (fun a b h1 h2 => below_then h1 (Nat.le_refl _) h2) ⟨rfl, rfl, rfl, Nat.le_refl _, fun _ _ => rfl⟩ ?_ ?_
    · intro k hk
      simp only [List.mem_cons, List.not_mem_nil, or_false] at hk
      rcases hk with rfl | rfl | rfl | rfl | rfl | rfl | rfl | rfl | rfl
      · trivial
      · trivial
      · exact fun v w w' h _ => h
      · trivial
      · trivial
      · trivial
      · trivial
      · trivial
      · trivial
    refine ⟨fun w1 hC hF => by (go_simp <;> exact Below.refl _ _), ?_⟩
    simp only [Act.put, List.setIfInBounds_toArray, List.set_cons_succ, List.set_cons_zero]
    refine ⟨fun w1 hC hF => by (go_simp <;> exact Below.refl _ _), ?_⟩
    simp only [Act.put, List.setIfInBounds_toArray, List.set_cons_succ, List.set_cons_zero]
    refine ⟨fun w1 hC hF => by
      go_simp
      refine (heldD_c h X L core w1 (H.grow hC) hn).mono ?_
      rintro e w'' ⟨ha, hc, rfl, T⟩
      rw [hm] at T ⊢
      exact ⟨_, rfl, T.below, ha, hc, rfl⟩, fun v1 => ?_⟩
    simp only [Act.put, List.setIfInBounds_toArray, List.set_cons_succ, List.set_cons_zero]
    refine ⟨fun w1 hC hF => by
      obtain ⟨ha, hc, rfl⟩ : HV m v1 w1 := (hF 2 (by kernel_rfl)).1 rfl
      go_simp <;> exact Below.refl _ _, ?_⟩
    simp only [Act.put, List.setIfInBounds_toArray, List.set_cons_succ, List.set_cons_zero]
    refine ⟨fun w1 hC hF => by (go_simp <;> exact Below.refl _ _), ?_⟩
    simp only [Act.put, List.setIfInBounds_toArray, List.set_cons_succ, List.set_cons_zero]
    refine ⟨fun w1 hC hF => by (go_simp <;> exact Below.refl _ _), ?_⟩
    simp only [Act.put, List.setIfInBounds_toArray, List.set_cons_succ, List.set_cons_zero]
    refine ⟨fun w1 hC hF => by (go_simp <;> exact Below.refl _ _), ?_⟩
    simp only [Act.put, List.setIfInBounds_toArray, List.set_cons_succ, List.set_cons_zero]
    refine ⟨fun w1 hC hF => by
      have c2 := (H.grow hC).c2
      go_simp <;> exact Below.refl _ _, ?_⟩
    simp only [Act.put, List.setIfInBounds_toArray, List.set_cons_succ, List.set_cons_zero]
    refine ⟨fun w1 hC hF => by (go_simp <;> exact Below.refl _ _), ?_⟩
    simp only [Act.put, List.setIfInBounds_toArray, List.set_cons_succ, List.set_cons_zero]
    intro w2 hC hF
    go_wp2
    go_ret2
    exact ⟨rfl, docTurn_of_below H hC⟩
  · rw [decide_eq_false hd]
    simp only [Bool.false_eq_true, if_false]
    go_enter Try.func39, Try.ntmps39
    go_upto_region 1 with fail
    refine Rel.wp_region_rel Rel.Grows (fun x => Below w.heap.size w x) [.inl (ptr h 0), .inl (vI core), .inr (HV m), .inl (vI m), .inl (ptr h 0), .inl (ptr h 0), .inl (ptr h 2), .inl (vI X.depth), .inl (.bool false)] (by kernel_rfl) (by kernel_rfl) (fun a b h1 h2 => below_then h1 (Nat.le_refl _) h2) ⟨rfl, rfl, rfl, Nat.le_refl _, fun _ _ => rfl⟩ ?_ ?_
    · intro k hk
      simp only [List.mem_cons, List.not_mem_nil, or_false] at hk
      rcases hk with rfl | rfl | rfl | rfl | rfl | rfl | rfl | rfl | rfl
      · trivial
      · trivial
      · exact fun v w w' h _ => h
      · trivial
      · trivial
      · trivial
      · trivial
      · trivial
      · trivial
    refine ⟨fun w1 hC hF => by (go_simp <;> exact Below.refl _ _), ?_⟩
    simp only [Act.put, List.setIfInBounds_toArray, List.set_cons_succ, List.set_cons_zero]
    refine ⟨fun w1 hC hF => by (go_simp <;> exact Below.refl _ _), ?_⟩
    simp only [Act.put, List.setIfInBounds_toArray, List.set_cons_succ, List.set_cons_zero]
    refine ⟨fun w1 hC hF => by
      go_simp
      refine (heldD_c h X L core w1 (H.grow hC) hn).mono ?_
      rintro e w'' ⟨ha, hc, rfl, T⟩
      rw [hm] at T ⊢
      exact ⟨_, rfl, T.below, ha, hc, rfl⟩, fun v1 => ?_⟩
    simp only [Act.put, List.setIfInBounds_toArray, List.set_cons_succ, List.set_cons_zero]
    refine ⟨fun w1 hC hF => by
      obtain ⟨ha, hc, rfl⟩ : HV m v1 w1 := (hF 2 (by kernel_rfl)).1 rfl
      go_simp <;> exact Below.refl _ _, ?_⟩
    simp only [Act.put, List.setIfInBounds_toArray, List.set_cons_succ, List.set_cons_zero]
    refine ⟨fun w1 hC hF => by (go_simp <;> exact Below.refl _ _), ?_⟩
    simp only [Act.put, List.setIfInBounds_toArray, List.set_cons_succ, List.set_cons_zero]
    refine ⟨fun w1 hC hF => by (go_simp <;> exact Below.refl _ _), ?_⟩
    simp only [Act.put, List.setIfInBounds_toArray, List.set_cons_succ, List.set_cons_zero]
    refine ⟨fun w1 hC hF => by (go_simp <;> exact Below.refl _ _), ?_⟩
    simp only [Act.put, List.setIfInBounds_toArray, List.set_cons_succ, List.set_cons_zero]
    refine ⟨fun w1 hC hF => by
      have c2 := (H.grow hC).c2
      go_simp <;> exact Below.refl _ _, ?_⟩
    simp only [Act.put, List.setIfInBounds_toArray, List.set_cons_succ, List.set_cons_zero]
    refine ⟨fun w1 hC hF => by (go_simp <;> exact Below.refl _ _), ?_⟩
    simp only [Act.put, List.setIfInBounds_toArray, List.set_cons_succ, List.set_cons_zero]
    intro w2 hC hF
    have H2 := H.grow hC
    have c3 := H2.c3
    clear hF
    go_upto_region 4 with (at_builtin; refine wpList_app_r4 (by rfl) _ _ (by rfl) L.av X.all (by rfl) (H2.grow (below_alloc _ _)).all w2.heap.size 0 1 ⟨core, addr, v, 0⟩ (by rfl) (fun j u hj => by rw [World.cell?_alloc_new]; simpa [R4.row] using hj) (by omega) ?_; intro b acap y2 q1 q2 q3 q4; have d3 : y2.cell? ⟨h, 3, none⟩ = some L.av := q2.cell (H2.grow (below_alloc _ _)).c3 (fun e => own_ne H2.top H2.all (by decide) e.symm); have fz : y2.frozen? ⟨h, 3, none⟩ = false := (World.frozen?_of_block (q2.block h (Nat.lt_of_lt_of_le (lt_of_some H2.top) (below_alloc _ _).size) (fun e => own_ne H2.top H2.all (by decide) e.symm))).trans (frozen_of_row _ _ _ _ _ (H2.grow (below_alloc _ _)).top); simp only [Act.put, List.setIfInBounds_toArray, List.set_cons_succ, List.set_cons_zero])
    obtain ⟨T, c5⟩ := H2.giveA (below_alloc _ _) q1 q2 q3
    have T2 := T.after hC
    clear q1 q2 q3 q4 d3 fz c3 T
    generalize World.setCell y2 _ _ = y3 at T2 c5 ⊢
    go_wp2
    go_ret2
    exact ⟨by simp, T2⟩
end Go.Proofs.Ytjkjbcnafpljoaa
