/- Rows of notes; what the plain part of FetchAgrees is. -/
import Derived.Test.YtbdmemjenpnjgaaLb
namespace Go.Proofs.Ytbdmemjenpnjgaa
open Go.RowKit
set_option linter.unusedVariables false
set_option linter.unusedSimpArgs false
set_option maxRecDepth 8000

open Go.Shelf Go.Maps
theorem wpList_appN {ops : Array Oper} {rest : List Oper} {o : Oper} {a : Act} {w : World} {Q : Exit → Act → World → Prop} (hgd : o.guard = none) (s x : Operand) (ho : o.op = .call { callee := .builtin .append, args := #[s, x], argTypes := #[22, 22] }) {v : Value} {base b m c : Nat} {tr ns : List Nt} (hs : a.eval s = v) (hx : a.eval x = .slice (some ⟨b, 0, none⟩) m c) (R : w.ownsRow base 34 4 v tr.length (ntF tr)) (hb : base ≤ w.heap.size) (hn : w.heap[b]? = some (.cells (ntF ns).toArray 34)) (hm : ns.length = m) (hl : tr.length + m ≤ 4398046511104)
    (h : ∀ v' w', w'.ownsRow base 34 4 v' (tr ++ ns).length (ntF (tr ++ ns)) → w.grownBy w' v.ownBlock → (v'.ownBlock = v.ownBlock ∨ v'.ownBlock = some w.heap.size) → wpList Try.prog ops Q rest (a.put o.dst v') w') : wpList Try.prog ops Q (o :: rest) a w :=
  wpList_plain hgd fun _ hK => by
    obtain ⟨v', w', hr, q1, q2, q3⟩ := run_appN (c := c) R hb hn hm hl o.type
    unfold Oper.wp execOp
    simp only [ho, resolve, invoke, builtin, Sem.run_bind, Sem.run_pure, Result.andThen_ok, List.map_toArray, List.map_cons, List.map_nil, hs, hx, hr]
    exact hK _ _ (h v' w' q1 q2 q3)
theorem wpList_copyN {ops : Array Oper} {rest : List Oper} {o : Oper} {a : Act} {w : World} {Q : Exit → Act → World → Prop} (hgd : o.guard = none) (s x : Operand) (ho : o.op = .call { callee := .builtin .append, args := #[s, x], argTypes := #[22, 22] }) {v : Value} {tr : List Nt} (hs : a.eval s = .slice none 0 0) (hx : a.eval x = v) (N : Nts w v tr)
    (h : ∀ v' w', w'.ownsRow w.heap.size 34 4 v' tr.length (ntF tr) → Below w.heap.size w w' → wpList Try.prog ops Q rest (a.put o.dst v') w') : wpList Try.prog ops Q (o :: rest) a w :=
  wpList_plain hgd fun _ hK => by
    obtain ⟨v', w', hr, q1, q2⟩ := run_copyN N o.type
    unfold Oper.wp execOp
    simp only [ho, resolve, invoke, builtin, Sem.run_bind, Sem.run_pure, Result.andThen_ok, List.map_toArray, List.map_cons, List.map_nil, hs, hx, hr]
    exact hK _ _ (h v' w' q1 q2)
theorem badAt_app {l m : List Nt} {g : Nat → Nat} {j : Nat} (hj : j < l.length) : badAt (l ++ m) g j = badAt l g j := by
  unfold badAt
  rw [List.getElem?_append_left hj, List.take_append_of_le_length (Nat.le_of_lt hj)]
theorem badAt_last (l : List Nt) (n : Nt) (g : Nat → Nat) : badAt (l ++ [n]) g l.length = (n.kind == 5 && !((vers l n.addr (g n.addr)).drop (au l n.core n.addr).lost).contains n.word) := by
  unfold badAt
  simp
theorem rightL_app (l : List Nt) (n : Nt) : rightL (l ++ [n]) = (rightL l && !wrongB n) := by simp [rightL]
theorem checkL_no {l : List Nt} {g : Nat → Nat} (h : ∀ j, j < l.length → badAt l g j = false) : checkL l g = -1 := firstB_no _ _ _ (fun j _ hj => h j (by omega))
theorem check_last {l : List Nt} {n : Nt} {g : Nat → Nat} (h : ∀ j, j < l.length → badAt l g j = false) : checkL (l ++ [n]) g = if badAt (l ++ [n]) g l.length = true then (l.length : Int) else -1 := by
  unfold checkL
  split
  · rename_i hb
    exact firstB_yes _ _ _ l.length (Nat.zero_le _) (by simp) hb (fun j _ hj => by rw [badAt_app hj]; exact h j hj)
  · rename_i hb
    refine firstB_no _ _ _ (fun j _ hj => ?_)
    by_cases e : j = l.length
    · rw [e]; simpa using hb
    · rw [badAt_app (by simp at hj; omega)]
      exact h j (by simp at hj; omega)
theorem ag_c (fb first : Nat) (hf : first < 4294967296) (w : World) (x : Boxed w fb 24 (v32 first)) : First w 19 #[ptr fb 0] (fun _ => first) :=
  ⟨enters_of Try.func19 (by kernel_rfl) rfl, fun W hW a _ => by
    have c0 := (boxed_grow x hW).cell
    go_enter Try.func19, Try.ntmps19
    go_wp2
    go_ret
    exact ⟨rfl, Below.refl _ _⟩, fun _ => hf⟩
abbrev xB (bad : Nat) : Nt := ⟨5, 1, 64, bad⟩
theorem xB_ok {bad : Nat} (h : bad < 4294967296) : NtOk (xB bad) := ⟨⟨(by decide : (-9223372036854775808 : Int) ≤ 5), (by decide : (5 : Int) < 9223372036854775808)⟩, ⟨(by decide : (-9223372036854775808 : Int) ≤ 1), (by decide : (1 : Int) < 9223372036854775808)⟩, (by decide : (64 : Nat) < 18446744073709551616), h⟩
theorem ag_end {l : List Nt} {first bad : Nat} (hr : rightL l = true) (hg : ∀ j, j < l.length → badAt l (fun _ => first) j = false) : rightL (l ++ [xB bad]) = true ∧ checkL (l ++ [xB bad]) (fun _ => first) = if (mayL l 1 64 first).contains bad then -1 else (l.length : Int) := by
  refine ⟨by rw [rightL_app, hr]; simp [wrongB, coreB, ofWord], ?_⟩
  rw [check_last hg, badAt_last]
  have hin : (mayL l 1 64 first).contains bad = ((vers l 64 first).drop (au l 1 64).lost).contains bad := by
    rw [Bool.eq_iff_iff]
    simp only [List.contains_eq_mem, decide_eq_true_eq]
    exact mayL_mem l 1 64 first bad
  rw [hin]
  cases ((vers l 64 first).drop (au l 1 64).lost).contains bad <;> simp
theorem trOk_app {l : List Nt} {n : Nt} (h : TrOk l) (hn : NtOk n) : TrOk (l ++ [n]) := fun m hm => by
  rcases List.mem_append.1 hm with e | e
  · exact h m e
  · rw [List.mem_singleton.1 e]; exact hn
end Go.Proofs.Ytbdmemjenpnjgaa
