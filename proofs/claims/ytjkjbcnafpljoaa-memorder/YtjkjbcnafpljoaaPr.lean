/- MemOrder's walk. -/
import Derived.Test.YtjkjbcnafpljoaaPo
namespace Go.Proofs.Ytjkjbcnafpljoaa
open Go.RowKit
set_option linter.unusedVariables false
set_option linter.unusedSimpArgs false

theorem inf4 : ∃ i, Try.prog.info? 4 = some i ∧ i.zero = some (.bool false) ∧ i.size = 1 ∧ i.bytes = 1 := by
  have h : (Try.prog.info? 4).map (fun i => (i.zero, i.size, i.bytes)) = some (some (.bool false), 1, 1) := by kernel_rfl
  cases hq : Try.prog.info? 4 with
  | none => rw [hq] at h; cases h
  | some i =>
    rw [hq] at h
    simp only [Option.map_some, Option.some.injEq, Prod.mk.injEq] at h
    exact ⟨i, rfl, h.1, h.2.1, h.2.2⟩
theorem wpList_make64 {ops : Array Oper} {rest : List Oper} {o : Oper} {a : Act} {w : World} {Q : Exit → Act → World → Prop} (hgd : o.guard = none) (x : Operand) (ho : o.op = .makeSlice 64 x x) (n : Nat) (hx : a.eval x = vI n) (hn : n < 1000000000)
    (h : ∀ b w', w'.ownsRow w.heap.size 4 1 (.slice (some ⟨b, 0, none⟩) n n) n (List.replicate n (.bool false)) → Below w.heap.size w w' → wpList Try.prog ops Q rest (a.put o.dst (.slice (some ⟨b, 0, none⟩) n n)) w') : wpList Try.prog ops Q (o :: rest) a w := by
  obtain ⟨i, h1, h2, h3, h4⟩ := inf4
  obtain ⟨w', hr, q1, q2⟩ := run_make_full (P := Try.prog) w w.heap.size 64 4 i (.bool false) 1 Try.underlying64 h1 h2 h3 .i64 .i64 n (by rw [h4]; omega) (by simp only [maxLen]; omega) (Nat.le_refl _)
  refine wpList_plain hgd fun K hK => ?_
  unfold Oper.wp execOp
  simp only [ho, hx, Sem.run_bind, hr, Result.andThen_ok]
  refine hK _ _ (h _ _ ?_ ⟨q2.os, q2.tape, q2.output, q2.size, fun k hk => q2.block k hk (by simp)⟩)
  have e : (madeCells (Value.cells (.bool false)) (n * 1)).toList = List.replicate n (.bool false) := by
    apply List.ext_getElem?
    intro j
    by_cases hj : j < n
    · simp [madeCells, hj, Value.cells, Nat.mod_one, List.getElem?_replicate]
    · simp [madeCells, hj, Value.cells, List.getElem?_replicate]
  rw [e] at q1
  exact q1
theorem LR.side {w0 w : World} {g b : Nat} {S : Sta} {cur : Array Value} {fr : Nat × Nat} (h : LR w0 g S [] w) (hb : w.heap[b]? = some (.cells cur 4 fr)) (h0 : w0.heap.size ≤ b) (k : Nat) (v : Value) : LR w0 g S [] (w.setCell ⟨b, k, none⟩ v) := by
  obtain ⟨L, M, F, B, _⟩ := h
  have hn : ¬ Foot g L b := by
    rintro (rfl | rfl | rfl | e | ⟨u, hu, e⟩)
    · exact ne_of_type hb M.top (by decide) rfl
    · exact ne_of_type hb M.words (by decide) rfl
    · exact ne_of_type hb M.bufs (by decide) rfl
    · exact own_ne hb M.stamps (by decide) e
    · obtain ⟨_, _, _, _, ho⟩ := M.heldOf hu
      exact own_ne hb ho (by decide) e
  exact ⟨L, M.keep fun j hj => Below.heap_setCell _ _ _ _ (fun e => hn (by have e : j = b := e; exact e ▸ hj)), F, B.setCell h0 _, fun _ h => by cases h⟩
def lastT (B : List Lt) : Nat → Int
  | 0 => 0
  | i + 1 => (B.getD i nilL).t
def seenV (S : Sta) (n i : Nat) : List Value := (List.range (n + 1)).map fun t : Nat => .bool (decide (1 ≤ stampV S (t : Int) ∧ stampV S (t : Int) ≤ i))
theorem seen_zero (S : Sta) (n : Nat) : seenV S n 0 = List.replicate (n + 1) (.bool false) := by
  apply List.ext_getElem?
  intro j
  by_cases hj : j < n + 1
  · simp only [seenV, List.getElem?_map, List.getElem?_range hj, List.getElem?_replicate, if_pos hj, Option.map_some]
    rw [decide_eq_false (by omega)]
  · simp [seenV, hj, List.getElem?_replicate]
theorem stamp_inj {S : Sta} (A : All S) {t : Int} {k : Nat} {r : Int} (hk : S.stamps[k]? = some r) (hr : 0 < r) (ht : stampV S t = r) : t = k + 1 := by
  rw [stampV] at ht
  split at ht
  · omega
  · rename_i h
    have h1 : (t - 1).toNat < S.stamps.length := by omega
    rw [List.getD, List.getElem?_eq_getElem h1] at ht
    have e : S.stamps[(t - 1).toNat]? = some r := by rw [List.getElem?_eq_getElem h1]; exact congrArg some ht
    have := A.bij.inj _ _ r hk e hr
    omega
theorem seen_step {S : Sta} (A : All S) {n i k : Nat} (hk : S.stamps[k]? = some ((i : Int) + 1)) : (seenV S n i).set (k + 1) (.bool true) = seenV S n (i + 1) := by
  apply List.ext_getElem?
  intro j
  by_cases hj : j < n + 1
  · by_cases e : k + 1 = j
    · subst e
      rw [List.getElem?_set_self (by simp [seenV]; omega)]
      simp only [seenV, List.getElem?_map, List.getElem?_range hj, Option.map_some]
      have := stamp_at hk
      rw [show ((k + 1 : Nat) : Int) = (k : Int) + 1 by omega, this, decide_eq_true (by omega)]
    · rw [List.getElem?_set_ne e]
      simp only [seenV, List.getElem?_map, List.getElem?_range hj, Option.map_some]
      have hne : stampV S (j : Int) ≠ (i : Int) + 1 := fun h => by have := stamp_inj A hk (by omega) h; omega
      congr 2
      exact decide_eq_decide.2 (by omega)
  · rw [List.getElem?_eq_none (by simp [seenV]; omega), List.getElem?_eq_none (by simp [seenV]; omega)]
structure Fin (X : Sta) (c : Nat) : Prop where
  all : All X
  b : X.bufs.length = 3
  w : X.words.length = 4
  s : X.stamps.length ≤ 150
  e : ∀ k : Nat, k < c → bufOf X k = []
theorem Fin.next {X : Sta} {c : Nat} (F : Fin X c) (hc : c < 3) : Fin (flushS X c) (c + 1) := by
  have hl := flush_len X c
  have hcb : hasCoreB X c = true := by simp only [hasCoreB, F.b, Bool.and_eq_true, decide_eq_true_eq]; omega
  refine ⟨F.all.flush c, by rw [hl.1, F.b], by rw [hl.2.2, F.w], by rw [hl.2.1]; exact F.s, fun k hk => ?_⟩
  by_cases e : k = c
  · subst e; exact flush_buf hcb
  · rw [flushS, dr_other (by omega) (by omega) (by omega)]; exact F.e k (by omega)
theorem Fin.full {X : Sta} (F : Fin X 3) : X.reached = X.stamps.length := by
  have h := F.all.ok.cnt
  have hb := F.b
  have e0 := F.e 0 (by decide)
  have e1 := F.e 1 (by decide)
  have e2 := F.e 2 (by decide)
  match hX : X.bufs, hb with
  | [x, y, z], _ =>
    simp only [bufOf, hX, List.getD] at e0 e1 e2
    rw [hX] at h
    have a0 : x = [] := e0
    have a1 : y = [] := e1
    have a2 : z = [] := e2
    subst a0; subst a1; subst a2
    simp at h
    omega
structure SL (x1 : World) (g : Nat) (X : Sta) (ob oc sb n i : Nat) (wr : World) : Prop where
  mem : LR x1 g X [] wr
  ord : wr.ownsRow x1.heap.size 3 1 (.slice (some ⟨ob, 0, none⟩) n oc) n ((orderL X).map vI)
  seen : wr.ownsRow x1.heap.size 4 1 (.slice (some ⟨sb, 0, none⟩) (n + 1) (n + 1)) (n + 1) (seenV X n i)
theorem own_block {w : World} {base n m size q cap : Nat} {e : TypeId} {xs : List Value} (h : w.ownsRow base e size (.slice (some ⟨q, 0, none⟩) m cap) n xs) : ∃ cur, w.heap[q]? = some (.cells cur e) ∧ base ≤ q := by
  rcases h.2 with ⟨h0, _⟩ | ⟨q', cap', cur, h0, hb, hq, _⟩
  · cases h0
  · cases h0; exact ⟨cur, hq, hb⟩
theorem SL.step {x1 wr : World} {g : Nat} {X : Sta} {ob oc sb n i k : Nat} (h : SL x1 g X ob oc sb n i wr) (A : All X) (hk : X.stamps[k]? = some ((i : Int) + 1)) : SL x1 g X ob oc sb n (i + 1) (wr.setCell ⟨sb, k + 1, none⟩ (.bool true)) := by
  obtain ⟨c1, s1, s2⟩ := own_block h.seen
  obtain ⟨c2, o1, _⟩ := own_block h.ord
  have hne : ob ≠ sb := ne_of_type o1 s1 (by decide)
  refine ⟨h.mem.side s1 s2 _ _, own_of_block h.ord fun b hb => Below.heap_setCell _ _ _ _ ?_, ?_⟩
  · obtain rfl : ob = b := by simpa [Value.ownBlock] using hb
    exact hne
  · rw [← seen_step A hk]
    exact (h.seen.stored (k + 1) (.bool true)).1
end Go.Proofs.Ytjkjbcnafpljoaa
