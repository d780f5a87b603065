/- Held, Order. -/
import Derived.Test.YtjkjbcnafpljoaaRn
import Derived.Deep.OwnRows
namespace Go.Proofs.Ytjkjbcnafpljoaa
open Go.RowKit
set_option linter.unusedVariables false
set_option linter.unusedSimpArgs false

def heldL (S : Sta) (core : Int) : List Lt := if hasCoreB S core then bufOf S core else []
theorem wpList_copyrow {ops : Array Oper} {rest : List Oper} {o : Oper} {a : Act} {w : World} {Q : Exit → Act → World → Prop} (hgd : o.guard = none) (s x : Operand)
    (ho : o.op = .call { callee := .builtin .append, args := #[s, x], argTypes := #[52, 52] }) (hs : a.eval s = .slice none 0 0) (l : List Lt) (u : Value) (hx : a.eval x = u) (hu : w.ownsRow 0 59 3 u l.length (flatL l)) (hl : l.length < 1000000000)
    (h : ∀ v w', w'.ownsRow w.heap.size 59 3 v l.length (flatL l) → Below w.heap.size w w' → wpList Try.prog ops Q rest (a.put o.dst v) w') : wpList Try.prog ops Q (o :: rest) a w := by
  rcases hu.2 with ⟨rfl, hn⟩ | ⟨q, cap, cur, rfl, _, hq, hc1, hc2, hcs, htk⟩
  · obtain rfl : l = [] := List.eq_nil_of_length_eq_zero hn
    refine wpList_plain hgd fun K hK => ?_
    obtain ⟨i, h1, h2, h3, h4⟩ := inf59
    have hr : (Builtin.append_ #[52, 52] o.type #[.slice none 0 0, .slice none 0 0]).run Try.prog w = .ok (.slice none 0 0) w := by
      simp [Builtin.append_, run_underlying Try.underlying52, sizeOf, typeInfo, h1, Builtin.lenOf, Builtin.firstCells, loadCells, loadCellsFrom]
    unfold Oper.wp execOp
    simp only [ho, resolve, invoke, builtin, Sem.run_bind, Sem.run_pure, Result.andThen_ok, List.map_toArray, List.map_cons, List.map_nil, hs, hx, hr]
    exact hK _ _ (h _ _ (World.ownsRow_nil _ _ _ _) (Below.refl _ _))
  · obtain ⟨i, h1, h2, h3, h4⟩ := inf59
    refine wpList_append_own w hgd s x 52 ho w.heap.size 59 i nilL.val 3 24 Try.underlying52 h1 h2 h3 h4 rfl (by decide) (.slice none 0 0) 0 [] hs (World.ownsRow_nil _ _ _ _) ⟨q, 0, none⟩ l.length cap (flatL l) hx (len_flatL l) ?_ (one_flatL _) (by simp only [maxLen]; omega) (by omega) (Nat.le_refl _) ?_
    · intro j z hj
      rw [add_zero_addr, Nat.zero_add, cell_of_row _ _ _ _ _ _ hq]
      rw [← htk, List.getElem?_take] at hj
      split at hj
      · simpa using hj
      · cases hj
    · intro v w' q1 q2 q3
      refine h v w' ?_ ⟨q2.os, q2.tape, q2.output, q2.size, fun k hk => q2.block k hk (by simp [Value.ownBlock])⟩
      simpa using q1
set_option maxRecDepth 4000 in
theorem held_c (g : Nat) (S : Sta) (L : Lay) (core : Int) (w : World) (H : MemAt g S L w) (O : S.Ok) : Calls Try.prog 29 #[ptr g 0, vI core] w fun e w' => ∃ v, e = .returned v ∧ w'.ownsRow w.heap.size 59 3 v (heldL S core).length (flatL (heldL S core)) ∧ Below w.heap.size w w' := by
  cases hC : hasCoreB S core
  · rw [heldL, hC]
    go_enter Try.func29, Try.ntmps29
    go_wp2_with (go_at_call 33; refine (hasCore_c g S L core _ H).mono ?_; rintro e w' ⟨rfl, rfl⟩; dsimp only; rw [hC])
    go_ret
    exact ⟨_, rfl, World.ownsRow_nil _ _ _ _, Below.refl _ _⟩
  · rw [heldL, hC, if_pos rfl]
    obtain ⟨k, rfl, hk⟩ := core_nat hC
    obtain ⟨u, l, hu, hl⟩ := core_at H hk
    rw [buf_at hl]
    have hk0 : (0 : Int) ≤ k := by omega
    have hk1 : (k : Int) < S.bufs.length := by omega
    have hlen : l.length < 1000000000 := by
      have := O.lens l (List.mem_of_getElem? hl)
      have := O.d2
      omega
    have c1 := H.c1
    have c2 := (H.cb hu).2
    have ho := H.held k u l hu hl
    go_enter Try.func29, Try.ntmps29
    go_wp2_with (first | (go_at_call 33; refine (hasCore_c g S L k _ H).mono ?_; rintro e w' ⟨rfl, rfl⟩; dsimp only; rw [hC]) | (at_builtin; refine wpList_copyrow (by rfl) _ _ (by rfl) (by rfl) l u (by rfl) ho hlen ?_; intro v w2 q1 q2; simp only [Act.put, List.setIfInBounds_toArray, List.set_cons_succ, List.set_cons_zero]))
    go_ret
    exact ⟨_, rfl, q1, q2⟩
def ordF : List Int → Nat → List Int → List Int
  | [], _, acc => acc
  | s :: r, k, acc => ordF r (k + 1) (if 0 < s then acc.set (s - 1).toNat (k + 1) else acc)
def orderL (S : Sta) : List Int := ordF S.stamps 0 (List.replicate S.reached.toNat 0)
theorem ordF_len (l : List Int) : ∀ (k : Nat) (acc : List Int), (ordF l k acc).length = acc.length := by
  induction l with
  | nil => intro k acc; rfl
  | cons s r ih =>
    intro k acc
    rw [ordF, ih]
    split <;> simp
theorem ordF_take (l : List Int) (j : Nat) (acc : List Int) (x : Int) (hx : l[j]? = some x) : ordF (l.take (j + 1)) 0 acc = (if 0 < x then (ordF (l.take j) 0 acc).set (x - 1).toNat (j + 1) else ordF (l.take j) 0 acc) := by
  have key : ∀ (l : List Int) (j k : Nat) (acc : List Int) (x : Int), l[j]? = some x → ordF (l.take (j + 1)) k acc = (if 0 < x then (ordF (l.take j) k acc).set (x - 1).toNat ((k + j : Nat) + 1) else ordF (l.take j) k acc) := by
    intro l
    induction l with
    | nil => intro j k acc x h; simp at h
    | cons s r ih =>
      intro j k acc x h
      cases j with
      | zero => simp at h; subst h; simp [ordF]
      | succ j =>
        have := ih j (k + 1) (if 0 < s then acc.set (s - 1).toNat (k + 1) else acc) x (by simpa using h)
        rw [List.take_succ_cons, List.take_succ_cons, ordF, ordF, this, show k + 1 + j = k + (j + 1) by omega]
  have := key l j 0 acc x hx
  simpa using this
theorem wpList_make32 {ops : Array Oper} {rest : List Oper} {o : Oper} {a : Act} {w : World} {Q : Exit → Act → World → Prop} (hgd : o.guard = none) (x : Operand) (ho : o.op = .makeSlice 32 x x) (n : Nat) (hx : a.eval x = vI n) (hn : n < 1000000000)
    (h : ∀ b w', w'.ownsRow w.heap.size 3 1 (.slice (some ⟨b, 0, none⟩) n n) n ((List.replicate n (0 : Int)).map vI) → Below w.heap.size w w' → wpList Try.prog ops Q rest (a.put o.dst (.slice (some ⟨b, 0, none⟩) n n)) w') : wpList Try.prog ops Q (o :: rest) a w := by
  obtain ⟨i, h1, h2, h3, h4⟩ := inf3
  obtain ⟨w', hr, q1, q2⟩ := run_make_full (P := Try.prog) w w.heap.size 32 3 i (vI 0) 1 Try.underlying32 h1 h2 h3 .i64 .i64 n (by rw [h4]; omega) (by simp only [maxLen]; omega) (Nat.le_refl _)
  refine wpList_plain hgd fun K hK => ?_
  unfold Oper.wp execOp
  simp only [ho, hx, Sem.run_bind, hr, Result.andThen_ok]
  refine hK _ _ (h _ _ ?_ ⟨q2.os, q2.tape, q2.output, q2.size, fun k hk => q2.block k hk (by simp)⟩)
  have e : (madeCells (Value.cells (vI 0)) (n * 1)).toList = (List.replicate n (0 : Int)).map vI := by
    rw [List.map_replicate]
    apply List.ext_getElem?
    intro j
    by_cases hj : j < n
    · simp [madeCells, hj, Value.cells, Nat.mod_one, List.getElem?_replicate]
    · simp [madeCells, hj, Value.cells, List.getElem?_replicate]
  rw [e] at q1
  exact q1
structure OL (g : Nat) (S : Sta) (L : Lay) (w : World) (n b j : Nat) (wr : World) : Prop where
  mem : MemAt g S L wr
  below : Below w.heap.size w wr
  row : wr.ownsRow w.heap.size 3 1 (.slice (some ⟨b, 0, none⟩) n n) n ((ordF (S.stamps.take j) 0 (List.replicate n 0)).map vI)
theorem OL.step {g : Nat} {S : Sta} {L : Lay} {w wr : World} {n b j : Nat} (h : OL g S L w n b j wr) (hf : ∀ k, Foot g L k → k < w.heap.size) {x : Int} (hx : S.stamps[j]? = some x) (hxn : x ≤ n) :
    OL g S L w n b (j + 1) (if 0 < x then wr.setCell ⟨b, (x - 1).toNat, none⟩ (vI (j + 1)) else wr) := by
  have hb : w.heap.size ≤ b := (h.row.lt b rfl).1
  have e := ordF_take S.stamps j (List.replicate n 0) x hx
  by_cases hp : 0 < x
  · rw [if_pos hp] at e ⊢
    have hs := h.row.stored (x - 1).toNat (vI (j + 1))
    refine ⟨h.mem.keep fun k hk => Below.heap_setCell _ _ _ _ (fun e => ?_), h.below.setCell hb _, ?_⟩
    · have := hf k hk
      have e : k = b := e
      omega
    · rw [e, List.map_set]
      exact hs.1
  · rw [if_neg hp] at e ⊢
    exact ⟨h.mem, h.below, by rw [e]; exact h.row⟩
set_option maxRecDepth 4000 in
theorem order_c (g : Nat) (S : Sta) (L : Lay) (w : World) (H : MemAt g S L w) (O : S.Ok) (ht : S.stamps.length < 1000000) : Calls Try.prog 17 #[ptr g 0] w fun e w' => ∃ v, e = .returned v ∧ w'.ownsRow w.heap.size 3 1 v (orderL S).length ((orderL S).map vI) ∧ Below w.heap.size w w' := by
  obtain ⟨n, hn⟩ : ∃ n : Nat, S.reached = n := ⟨S.reached.toNat, by have := O.pos; omega⟩
  have hn2 : n < 1000000000 := by have := O.reach; omega
  have c3 := H.c3
  have c2 := H.c2
  rw [hn] at c3
  obtain ⟨ao, cap, e, hc1, hc2⟩ := own_len H.stamps
  rw [e] at c2
  go_enter Try.func17, Try.ntmps17
  go_upto_region 2 with ((with_reducible refine wpList_make32 rfl _ rfl n rfl hn2 ?_); intro b w1 q1 q2; simp only [Act.put, List.setIfInBounds_toArray, List.set_cons_succ, List.set_cons_zero])
  have H1 := H.grow q2
  have y2 := H1.c2
  rw [e] at y2
  go_wp2
  have hf : ∀ k, Foot g L k → k < w.heap.size := fun k hk => H.lt hk
  clear y2 c2 c3
  have hst : OL g S L w n b 0 w1 := ⟨H1, q2, q1⟩
  clear q1 q2 H1
  go_loopw [16] (fun s16 wr => ∃ j : Nat, j ≤ S.stamps.length ∧ s16 = .int .i64 j ∧ Hid (OL g S L w n b j wr)) (fun s16 _ => S.stamps.length - (intOf s16).toNat)
  case atStart => exact ⟨0, Nat.zero_le _, rfl, hst⟩
  case round =>
    obtain ⟨j, hj, rfl, hO⟩ := hrel
    have P := hO.out
    clear hO hst
    by_cases hlt : (j : Int) < S.stamps.length
    · have hj2 : j < S.stamps.length := by omega
      have hx : S.stamps[j]? = some S.stamps[j] := List.getElem?_eq_getElem hj2
      obtain ⟨hx0, hxn⟩ := O.st _ (List.mem_of_getElem? hx)
      rw [hn] at hxn
      generalize S.stamps[j] = x at hx hx0 hxn
      obtain ⟨sb, cap', e', _, _, _, hcell, _⟩ := own_addr P.mem.stamps (by omega)
      rw [e] at e'
      cases e'
      have z := hcell j (by omega)
      rw [List.getElem?_map, hx] at z
      replace z : wr.cell? ⟨sb, j, none⟩ = some (vI x) := z
      clear hcell
      have hj0 : (0 : Int) ≤ j := by omega
      have hstep := P.step hf hx (by rw [← hn] at hxn ⊢; exact hxn)
      by_cases hp : 0 < x
      · rw [if_pos hp] at hstep
        obtain ⟨m, hm⟩ : ∃ m : Nat, x - 1 = m := ⟨(x - 1).toNat, by omega⟩
        have hmn : (m : Int) < n := by omega
        have hm0 : (0 : Int) ≤ m := by omega
        have hmw : IntKind.i64.wrap (m : Int) = m := by rw [IntKind.wrap_i64]; omega
        have y := P.row.cellAt m (by omega)
        rw [List.getElem?_eq_getElem (by rw [P.row.1]; omega)] at y
        have fz := P.row.frozenAt m
        rw [hm, Int.toNat_natCast] at hstep
        go_wp2
        go_roundw
        case rel => exact ⟨j + 1, by omega, by go_num, hstep⟩
        case measure => simp [intOf]; omega
      · rw [if_neg hp] at hstep
        go_wp2
        go_roundw
        case rel => exact ⟨j + 1, by omega, by go_num, hstep⟩
        case measure => simp [intOf]; omega
    · obtain rfl : j = S.stamps.length := by omega
      have hfin : wr.ownsRow w.heap.size 3 1 (.slice (some ⟨b, 0, none⟩) n n) (orderL S).length ((orderL S).map vI) := by
        have := P.row
        rw [List.take_length] at this
        have e2 : ordF S.stamps 0 (List.replicate n 0) = orderL S := by rw [orderL, hn]; rfl
        rw [e2] at this
        have e3 : (orderL S).length = n := by rw [orderL, ordF_len, List.length_replicate, hn]; rfl
        rw [e3]
        exact this
      have hB := P.below
      clear P
      go_wp2
      go_ret
      exact ⟨_, rfl, hfin, hB⟩
end Go.Proofs.Ytjkjbcnafpljoaa
