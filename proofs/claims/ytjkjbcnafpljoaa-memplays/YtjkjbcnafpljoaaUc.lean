/- The document's own Held, Load. -/
import Derived.Test.YtjkjbcnafpljoaaUb
namespace Go.Proofs.Ytjkjbcnafpljoaa
open Go.RowKit
set_option linter.unusedVariables false
set_option linter.unusedSimpArgs false

/-- A number appended to a row of a call's own. -/
theorem wpList_app_intb {ops : Array Oper} {rest : List Oper} {o : Oper} {a : Act} {w : World} {Q : Exit → Act → World → Prop} (hgd : o.guard = none) (s x : Operand)
    (ho : o.op = .call { callee := .builtin .append, args := #[s, x], argTypes := #[32, 32] }) (base : Nat) (v : Value) (l : List Int) (hs : a.eval s = v) (hown : w.ownsRow base 3 1 v l.length (l.map vI)) (hbase : base ≤ w.heap.size)
    (b k c : Nat) (n : Int) (hx : a.eval x = .slice (some ⟨b, k, none⟩) 1 c) (hc : w.cell? ⟨b, k, none⟩ = some (vI n)) (hl : l.length < 1000000000)
    (h : ∀ g cap w', w'.ownsRow base 3 1 (.slice (some ⟨g, 0, none⟩) (l.length + 1) cap) (l ++ [n]).length ((l ++ [n]).map vI) → w.grownBy w' v.ownBlock → (v.ownBlock = some g ∨ g = w.heap.size) → g < w'.heap.size →
      wpList Try.prog ops Q rest (a.put o.dst (.slice (some ⟨g, 0, none⟩) (l.length + 1) cap)) w') : wpList Try.prog ops Q (o :: rest) a w := by
  obtain ⟨i, h1, h2, h3, h4⟩ := inf3
  refine wpList_append_lies w hgd s x 32 ho base 3 i (vI 0) 1 8 Try.underlying32 h1 h2 h3 h4 rfl (by decide) v l.length (l.map vI) hs hown ⟨b, k, none⟩ 1 c [vI n] hx rfl ?_ ?_ (by decide) (by simp only [maxLen]; omega) (by omega) hbase w.heap.size rfl ?_
  · intro j u hj
    match j with
    | 0 => simp at hj; subst hj; rw [add_zero_addr]; exact hc
    | j + 1 => simp at hj
  · intro u hu; simp at hu; subst hu; rfl
  · intro g cap w' q1 q2 q3 q4
    refine h g cap w' ?_ q2 q3 q4
    rw [List.length_append, List.map_append]
    exact q1
/-- What is under way: a row of numbers beside. -/
structure Tks (w0 : World) (v : Value) (l : List Int) (w : World) : Prop where
  row : w.ownsRow w0.heap.size 3 1 v l.length (l.map vI)
  below : Below w0.heap.size w0 w
theorem Tks.grow {w0 w w' : World} {v : Value} {l : List Int} (h : Tks w0 v l w) (hb : Below w.heap.size w w') : Tks w0 v l w' :=
  ⟨own_of_block h.row fun b hk => hb.block b (h.row.lt b hk).2, below_then h.below (Nat.le_refl _) hb⟩
theorem Tks.app {w0 w w1 w2 : World} {v : Value} {l : List Int} (h : Tks w0 v l w) (hB : Below w.heap.size w w1) {b n cap : Nat} {a : Int} (q1 : w2.ownsRow w0.heap.size 3 1 (.slice (some ⟨b, 0, none⟩) n cap) (l ++ [a]).length ((l ++ [a]).map vI)) (q2 : w1.grownBy w2 v.ownBlock) : Tks w0 (.slice (some ⟨b, 0, none⟩) n cap) (l ++ [a]) w2 :=
  ⟨q1, (below_then h.below (Nat.le_refl _) hB).trans ((goes_grown (F := fun k => v.ownBlock = some k) q2 fun k hk => hk).below (Nat.le_trans h.below.size hB.size) fun k hk => (h.row.lt k hk).1)⟩
set_option maxRecDepth 4000 in
theorem heldD_c (h : Nat) (X : Doc) (L : DocLay) (core : Int) (w : World) (H : DocAt h X L w) (hn : X.all.length < 1000000) : Calls Try.prog 47 #[ptr h 0, vI core] w fun e w' => ∃ ha hc, e = .returned (.slice ha (heldD X core).length hc) ∧ Tks w (.slice ha (heldD X core).length hc) (heldD X core) w' := by
  obtain ⟨aa, ac, ea, _, _⟩ := own_len H.all
  go_enter Try.func47, Try.ntmps47
  go_wp2
  go_loopw [5, 6] (fun s5 s6 wr => ∃ i : Nat, i ≤ X.all.length ∧ s6 = .int .i64 i ∧ ∃ ha n hc, s5 = .slice ha n hc ∧ Hid (∃ l, l = heldF core (X.all.take i) 0 ∧ l.length = n ∧ Tks w (.slice ha n hc) l wr)) (fun _ s6 _ => X.all.length - (intOf s6).toNat)
  case atStart => exact ⟨0, Nat.zero_le _, rfl, none, 0, 0, rfl, [], rfl, rfl, World.ownsRow_nil _ _ _ _, Below.refl _ _⟩
  case round =>
    obtain ⟨i, hi, rfl, ha, n, hc, rfl, hH⟩ := hrel
    obtain ⟨l, hl, hln, T⟩ := hH.out
    clear hH
    have H2 := H.grow T.below
    have c3 := H2.c3
    rw [ea] at c3
    by_cases hlt : (i : Int) < X.all.length
    · have hx : X.all[i]? = some X.all[i] := List.getElem?_eq_getElem (by omega)
      generalize X.all[i] = s at hx
      obtain ⟨b, cap, e2, hrow⟩ := H2.row hx
      have hst := heldF_snoc core (X.all.take i) s 0
      have hlen := heldF_len core (X.all.take i) 0
      rw [List.length_take] at hlen
      rw [← take_snoc hx, show 0 + (X.all.take i).length = i by simp; omega, ← hl] at hst
      rw [← hl] at hlen
      rw [ea] at e2
      simp only [Value.slice.injEq] at e2
      obtain ⟨rfl, -, rfl⟩ := e2
      have hi0 : (0 : Int) ≤ i := by omega
      have r0 : wr.cell? ⟨b, i * 4, none⟩ = some (vI s.c) := hrow 0 _ rfl
      have r3 : wr.cell? ⟨b, i * 4 + 3, none⟩ = some (vI s.s) := hrow 3 _ rfl
      have hw1 : IntKind.i64.wrap ((i : Int) + 1) = (i : Int) + 1 := by rw [IntKind.wrap_i64]; omega
      clear hrow H2 hl
      by_cases e1 : s.c = core
      · rw [e1] at r0
        by_cases e3 : s.s = 0
        · rw [e3] at r3
          rw [if_pos ⟨e1, e3⟩] at hst
          go_upto_region 6 with fail
          clear r0 r3 c3
          subst hln
          have hbase : w.heap.size ≤ wr.heap.size := T.below.size
          go_upto_region 4 with (at_builtin; refine wpList_app_intb (by rfl) _ _ (by rfl) w.heap.size (.slice ha l.length hc) l (by rfl) (T.grow (below_alloc _ _)).row (Nat.le_trans hbase (below_alloc _ _).size) wr.heap.size 0 1 ((i : Int) + 1) (by rfl) (by rw [World.cell?_alloc_new]; rfl) (by omega) ?_; intro b2 acap y2 q1 q2 q3 q4; simp only [Act.put, List.setIfInBounds_toArray, List.set_cons_succ, List.set_cons_zero])
          have T2 := T.app (below_alloc _ _) q1 q2
          go_wp2
          go_roundw
          case rel => exact ⟨i + 1, by omega, by go_num, _, _, _, rfl, _, hst.symm, by simp, T2⟩
          case measure => simp [intOf]; omega
        · rw [if_neg (fun h => e3 h.2), List.append_nil] at hst
          have e3' : (s.s == 0) = false := by simpa using e3
          go_wp2
          go_roundw
          case rel => exact ⟨i + 1, by omega, by go_num, ha, n, hc, rfl, l, hst.symm, hln, T⟩
          case measure => simp [intOf]; omega
      · rw [if_neg (fun h => e1 h.1), List.append_nil] at hst
        have e1' : (s.c == core) = false := by simpa using e1
        go_wp2
        go_roundw
        case rel => exact ⟨i + 1, by omega, by go_num, ha, n, hc, rfl, l, hst.symm, hln, T⟩
        case measure => simp [intOf]; omega
    · obtain rfl : i = X.all.length := by omega
      rw [List.take_length] at hl
      have hl' : l = heldD X core := hl
      subst hln
      subst hl'
      go_wp2
      go_ret
      exact ⟨ha, hc, rfl, T⟩
end Go.Proofs.Ytjkjbcnafpljoaa
