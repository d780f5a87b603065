/- container/heap over the queue: up, Push. -/
import Derived.Test.YteklkololojamaaGreatQi
import Derived.Test.YteklkololojamaaGreatQj
namespace Go.Proofs.YteklkololojamaaGreat
open Go.RowKit
set_option linter.unusedVariables false
set_option linter.unusedSimpArgs false
set_option maxRecDepth 8000

theorem run_wrap (q : Nat) (n : String) (w : World) : (Builtin.ssaWrapNilChk_ #[135] 135 #[ptr q 0, strVal "", strVal n]).run Tryz.prog w = .ok (ptr q 0) w := rfl
theorem run_method (name : String) (f : FuncId) (pb : Bool) (h : ((Tryz.prog.info? 135).bind fun i => (i.methods.find? (·.name == name)).map fun m => (m.path.isEmpty, m.func)) = some (true, some (f, pb))) (q : Nat) (v : Value) (w : World) (hc : (loadVar 145 ⟨q, 0, none⟩).run Tryz.prog w = .ok v w) : Sem.run Tryz.prog (method 286 135 (ptr q 0) name) w = .ok (f, if pb then ptr q 0 else v) w := by
  cases hq : Tryz.prog.info? 135 with
  | none => rw [hq] at h; cases h
  | some i =>
    rw [hq] at h
    simp only [Option.bind_some, Option.map_eq_some_iff] at h
    obtain ⟨m, hm, he⟩ := h
    simp only [Prod.mk.injEq] at he
    obtain ⟨h1, h2⟩ := he
    have h3 : m.path.toList = [] := by simpa using h1
    have h4 : m.path = #[] := by simpa using h1
    unfold method
    cases pb
    · simp [typeInfo, hq, hm, h4, h2, h3, follow, receiverAt, run_underlying Tryz.underlying135, Place.get, run_wrap, asAddr, hc]
    · simp [typeInfo, hq, hm, h4, h2, h3, follow, receiverAt, run_underlying Tryz.underlying135, Place.get, run_wrap, asAddr, hc]
theorem run_ldQ (q : Nat) (v : Value) (w : World) (h : w.cell? ⟨q, 0, none⟩ = some v) : (loadVar 145 ⟨q, 0, none⟩).run Tryz.prog w = .ok v w := by
  simp [loadVar, isAgg, run_underlying Tryz.underlying145, h]
theorem meth_less {q : Nat} {v : Value} {w : World} (h : w.cell? ⟨q, 0, none⟩ = some v) : Sem.run Tryz.prog (method 286 135 (ptr q 0) "Less") w = .ok (163, v) w := run_method "Less" 163 false (by kernel_rfl) q v w (run_ldQ q v w h)
theorem meth_swap {q : Nat} {v : Value} {w : World} (h : w.cell? ⟨q, 0, none⟩ = some v) : Sem.run Tryz.prog (method 286 135 (ptr q 0) "Swap") w = .ok (166, v) w := run_method "Swap" 166 false (by kernel_rfl) q v w (run_ldQ q v w h)
theorem meth_len {q : Nat} {v : Value} {w : World} (h : w.cell? ⟨q, 0, none⟩ = some v) : Sem.run Tryz.prog (method 286 135 (ptr q 0) "Len") w = .ok (76, v) w := run_method "Len" 76 false (by kernel_rfl) q v w (run_ldQ q v w h)
theorem meth_push {q : Nat} {v : Value} {w : World} (h : w.cell? ⟨q, 0, none⟩ = some v) : Sem.run Tryz.prog (method 286 135 (ptr q 0) "Push") w = .ok (165, ptr q 0) w := run_method "Push" 165 true (by kernel_rfl) q v w (run_ldQ q v w h)
theorem meth_pop {q : Nat} {v : Value} {w : World} (h : w.cell? ⟨q, 0, none⟩ = some v) : Sem.run Tryz.prog (method 286 135 (ptr q 0) "Pop") w = .ok (164, ptr q 0) w := run_method "Pop" 164 true (by kernel_rfl) q v w (run_ldQ q v w h)
theorem QAt.swapped {base q : Nat} {v : Value} {l m : List Trn} {w w' : World} (H : QAt base q v l w) (hl : m.length = l.length) (R : w'.ownsRow base 106 2 v l.length (flatT m)) (G : Goes (fun k => v.ownBlock = some k) w w') : QAt base q v m w' :=
  ⟨by rw [G.block q (lt_of_some H.hd) (own_ne H.hd H.row (by decide))]; exact H.hd, by rw [hl]; exact R, H.hq⟩
theorem up_c {base q : Nat} {v : Value} {l : List Trn} {w : World} (H : QAt base q v l w) {j : Nat} (hj : j < l.length) (hl : l.length < 1000) (X : HeapX l j) : Calls Tryz.prog 126 #[.iface 135 (ptr q 0), vI j] w fun e w' => e = .returned (.tuple #[]) ∧ ∃ m, QAt base q v m w' ∧ Heap m ∧ m.length = l.length ∧ (∀ x, x ∈ m ↔ x ∈ l) ∧ Goes (QF q v) w w' := by
  go_enter Tryz.func126, Tryz.ntmps126
  go_wp2
  go_loopw [1] (fun s1 wr => ∃ (j : Nat) (m : List Trn), s1 = .int .i64 j ∧ j < m.length ∧ m.length = l.length ∧ Hid (QAt base q v m wr ∧ HeapX m j ∧ (∀ x, x ∈ m ↔ x ∈ l) ∧ Goes (QF q v) w wr)) (fun s1 _ => (intOf s1).toNat)
  case atStart => exact ⟨j, l, rfl, hj, rfl, H, X, fun _ => Iff.rfl, Goes.refl _ _⟩
  case round =>
    obtain ⟨j, m, rfl, hjm, hml, hH⟩ := hrel
    obtain ⟨H1, X1, M1, G1⟩ := hH.out
    clear hH
    have c0 := H1.c0
    have ml := meth_less c0
    by_cases h0 : j = 0
    · subst h0
      clear ml
      go_wp2
      exact bodyPost_end (results_none rfl _ _ _) rfl ⟨rfl, m, H1, up_stop0 X1, hml, M1, G1⟩
    · obtain ⟨k, rfl⟩ : ∃ k, j = k + 1 := ⟨j - 1, by omega⟩
      have hs := getT hjm
      have ht : m[k / 2]? = some m[k / 2] := getT (by omega)
      generalize m[k + 1] = s at hs
      generalize m[k / 2] = t at ht
      have hle := less_c H1.row hs ht
      have hsw := fun w' (hB : Below wr.heap.size wr w') => swap_c (H1.grow hB).row ht hs
      rw [Int.natCast_add, Int.natCast_one, Int.natCast_ediv] at hle
      simp only [Int.natCast_add, Int.natCast_one, Int.natCast_ediv] at hsw
      cases hlt : ltT s t with
      | false =>
        go_wp2_with (first | (go_at_call 163; refine hle.mono ?_; rintro e w' ⟨rfl, hB⟩; dsimp only; rw [hlt]))
        exact bodyPost_end (results_none rfl _ _ _) rfl ⟨rfl, m, H1.grow hB, up_stop X1 hs (by rw [Nat.add_sub_cancel]; exact ht) hlt, hml, M1, G1.grow hB⟩
      | true =>
        go_wp2_with (first | (go_at_call 163; refine hle.mono ?_; rintro e w' ⟨rfl, hB⟩; dsimp only; rw [hlt]; have ms := meth_swap (H1.grow hB).c0) | (go_at_call 166; refine (hsw _ hB).mono ?_; rintro e w2 ⟨rfl, R2, G2⟩; dsimp only))
        go_roundw
        case rel =>
          have hX := up_step X1 (by omega) hs (by rw [Nat.add_sub_cancel]; exact ht) hlt
          rw [Nat.add_sub_cancel] at hX
          exact ⟨k / 2, (m.set (k / 2) s).set (k + 1) t, by simp, by simp; omega, by simp [hml], (H1.grow hB).swapped (by simp) R2 G2, hX, fun x => (sw_mem ht hs x).trans (M1 x), (G1.grow hB).trans G2 fun _ _ e => .inr e⟩
        case measure => simp [intOf]; omega
theorem QF_sub {q g : Nat} {v u : Value} {w : World} (hu : u.ownBlock = some g) (h : v.ownBlock = some g ∨ w.heap.size ≤ g) : ∀ k, k < w.heap.size → QF q u k → QF q v k := by
  rintro k hk (e | e)
  · exact .inl e
  · rw [hu] at e
    cases e
    rcases h with h | h
    · exact .inr h
    · omega
theorem push_c {base q : Nat} {v : Value} {l : List Trn} {w : World} (H : QAt base q v l w) (hh : Heap l) (t : Trn) (hl : l.length < 900) (hbase : base ≤ w.heap.size) : Calls Tryz.prog 108 #[.iface 135 (ptr q 0), .iface 106 t.val] w fun e w' => e = .returned (.tuple #[]) ∧ ∃ u m, QAt base q u m w' ∧ Heap m ∧ m.length = l.length + 1 ∧ (∀ x, x ∈ m ↔ x ∈ l ∨ x = t) ∧ Goes (QF q v) w w' := by
  have mp := meth_push H.c0
  have hp := qpush_c H t (by omega) hbase
  go_enter Tryz.func108, Tryz.ntmps108
  go_upto_region 1 with (go_at_call 165; refine hp.mono ?_; rintro e w1 ⟨rfl, u, g, H1, G1, hu, hg⟩; dsimp only)
  clear mp hp
  obtain ⟨ao, cap, ev, _, _⟩ := own_len H1.row
  have ml := meth_len H1.c0
  have hX := up_c H1 (j := l.length) (by simp) (by simp; omega) (push_heapX hh t)
  rw [ev] at ml
  have e1 : (l ++ [t]).length = l.length + 1 := by simp
  rw [e1] at ml
  clear ev
  go_wp2_with (first | (go_at_call 76; refine (len_c _ _ _ _).mono ?_; rintro e w' ⟨rfl, rfl⟩; dsimp only) | (go_at_call 126; refine hX.mono ?_; rintro e w2 ⟨rfl, m, H2, h2, l2, M2, G2⟩; dsimp only))
  refine bodyPost_end (results_none rfl _ _ _) rfl ⟨rfl, u, m, H2, h2, by rw [l2, e1], fun x => (M2 x).trans (by simp), G1.trans G2 (QF_sub hu hg)⟩
end Go.Proofs.YteklkololojamaaGreat
