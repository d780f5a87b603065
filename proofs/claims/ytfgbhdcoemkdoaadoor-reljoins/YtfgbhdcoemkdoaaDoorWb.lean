/- The document's Pairs. -/
import Derived.Test.YtfgbhdcoemkdoaaDoorWa
namespace Go.Proofs.YtfgbhdcoemkdoaaDoor
open Go.RowKit
set_option linter.unusedVariables false
set_option linter.unusedSimpArgs false
set_option maxRecDepth 8000

open Rlw
theorem one_flatP (l : List (Nat × Nat)) : ∀ u ∈ flatP l, u.oneCell' = true := fun u hu => by
  obtain ⟨p, _, h⟩ := List.mem_flatMap.1 hu
  rcases List.mem_cons.1 h with rfl | h
  · rfl
  · rw [List.mem_singleton.1 h]; rfl
theorem wpList_appP {ops : Array Oper} {rest : List Oper} {o : Oper} {a : Act} {w : World} {Q : Exit → Act → World → Prop} (hgd : o.guard = none) (s x : Operand) (ho : o.op = .call { callee := .builtin .append, args := #[s, x], argTypes := #[22, 22] }) (base : Nat) (v : Value) (l : List (Nat × Nat)) (hs : a.eval s = v) (hown : w.ownsRow base 60 2 v l.length (flatP l)) (hbase : base ≤ w.heap.size)
    (b c : Nat) (z : Nat × Nat) (hx : a.eval x = .slice (some ⟨b, 0, none⟩) 1 c) (hc : w.heap[b]? = some (.cells #[vI z.1, vI z.2] 60)) (hl : l.length < 1000000000)
    (h : ∀ g cap w', w'.ownsRow base 60 2 (.slice (some ⟨g, 0, none⟩) (l.length + 1) cap) (l ++ [z]).length (flatP (l ++ [z])) → w.grownBy w' v.ownBlock → (v.ownBlock = some g ∨ g = w.heap.size) → wpList Tryd.prog ops Q rest (a.put o.dst (.slice (some ⟨g, 0, none⟩) (l.length + 1) cap)) w') : wpList Tryd.prog ops Q (o :: rest) a w :=
  wpList_plain hgd fun _ hK => by
    obtain ⟨i, h1, h2, h3, h4⟩ := info_parts info60
    obtain ⟨g, cap, w', hr, q1, q2, q3, q4⟩ := run_append_lies (P := Tryd.prog) w 22 o.type base 60 i (.agg #[vI 0, vI 0]) 2 16 Tryd.underlying22 h1 h2 h3 h4 rfl (by decide) v l.length (flatP l) hown ⟨b, 0, none⟩ 1 c (flatP [z]) rfl (by
      intro j u hj
      have e : (⟨b, 0, none⟩ : Addr).add j = ⟨b, j, none⟩ := by rw [Addr.add_mid, Nat.zero_add]
      rw [e, cell_of_row _ _ _ _ _ _ hc]
      simpa [flatP] using hj) (one_flatP _) (by decide) (by simp only [maxLen]; omega) (by omega) hbase w.heap.size rfl
    unfold Oper.wp execOp
    simp only [ho, resolve, invoke, builtin, Sem.run_bind, Sem.run_pure, Result.andThen_ok, List.map_toArray, List.map_cons, List.map_nil, hs, hx, hr]
    refine hK _ _ (h g cap w' ?_ q2 q3)
    rw [flatP_append, List.length_append]
    exact q1
theorem prow_succ (j : Nat) (R : Nat → Nat → Bool) (a : Nat) : prow (j + 1) R a = prow j R a ++ if R a j = true then [(a, j)] else [] := by
  unfold prow
  rw [List.range_succ, List.filter_append, List.map_append]
  by_cases h : R a j = true
  · rw [if_pos h, List.filter_cons_of_pos h]; rfl
  · rw [if_neg h, List.filter_cons_of_neg (by simpa using h)]; rfl
theorem prow_len (j : Nat) (R : Nat → Nat → Bool) (a : Nat) : (prow j R a).length ≤ j := by
  unfold prow
  rw [List.length_map]
  exact Nat.le_trans (List.length_filter_le _ _) (by rw [List.length_range]; exact Nat.le_refl _)
structure PI (w : World) (v : Value) (l : List (Nat × Nat)) (W : World) : Prop where
  row : W.ownsRow w.heap.size 60 2 v l.length (flatP l)
  low : Below w.heap.size w W
theorem PI.grow {w W W' : World} {v : Value} {l : List (Nat × Nat)} (h : PI w v l W) (hb : Below W.heap.size W W') : PI w v l W' := ⟨own_grow h.row hb, h.low.trans (hb.mono h.low.size)⟩
theorem PI.app {w W W' : World} {v v' : Value} {l l' : List (Nat × Nat)} (h : PI w v l W) (hg : W.grownBy W' v.ownBlock) (hown : W'.ownsRow w.heap.size 60 2 v' l'.length (flatP l')) : PI w v' l' W' :=
  ⟨hown, h.low.trans ((goes_grown (F := fun k => v.ownBlock = some k) hg fun k hk => hk).below h.low.size fun k hk => (h.row.lt k hk).1)⟩
set_option maxHeartbeats 4000000 in
theorem docPairs_c {x n : Nat} {T : Nat → Nat → Bool} {w : World} (H : RefAt x n T w) : Calls Tryd.prog 43 #[ptr x 0] w fun e w' => ∃ v, e = .returned v ∧ PI w v (prsN n n T) w' := by
  have hle := H.le
  have hP0 : PI w (.slice none 0 0) (prsN 0 n T) w := ⟨⟨rfl, .inl ⟨rfl, rfl⟩⟩, Below.refl _ _⟩
  go_enter Tryd.func43, Tryd.ntmps43
  go_wp2
  go_loopw [3, 4] (fun s3 s4 wr => ∃ k : Nat, k ≤ n ∧ s4 = vI k ∧ Hid (PI w s3 (prsN k n T) wr)) (fun _ s4 _ => 64 - (intOf s4).toNat)
  case atStart => exact ⟨0, Nat.zero_le _, rfl, hP0⟩
  case round =>
    obtain ⟨k, hkn, rfl, hH⟩ := hrel
    have hP := hH.out
    clear hH hP0
    have c0 := (H.grow hP.low).c0
    by_cases hlt : (k : Int) < n
    · have hkl : k < n := by omega
      have hk64 : k < 64 := by omega
      have hP1 : PI w u3 (prsN k n T ++ prow 0 T k) wr := by
        have : prow 0 T k = [] := rfl
        rw [this, List.append_nil]; exact hP
      have hpl : (prsN k n T).length ≤ 4096 := Nat.le_trans (length_prs n T k) (Nat.le_trans (Nat.mul_le_mul (by omega : k ≤ 64) hle) (by decide))
      go_wp2
      clear c0 hP
      go_loopw [3, 5] (fun s3 s5 wr => ∃ j : Nat, j ≤ n ∧ s5 = vI j ∧ Hid (PI w s3 (prsN k n T ++ prow j T k) wr)) (fun _ s5 _ => 64 - (intOf s5).toNat)
      case atStart => exact ⟨0, Nat.zero_le _, rfl, hP1⟩
      case round =>
        obtain ⟨j, hjn, rfl, hH⟩ := hrel
        have hP := hH.out
        clear hH hP1
        have c0 := (H.grow hP.low).c0
        by_cases hlt2 : (j : Int) < n
        · have hjl : j < n := by omega
          have hj64 : j < 64 := by omega
          have hk64i : (k : Int) < 64 := by omega
          have hj64i : (j : Int) < 64 := by omega
          have cc := (H.grow hP.low).cell hk64 hj64
          cases hR : T k j with
          | false =>
            rw [hR] at cc
            have hP2 : PI w u3 (prsN k n T ++ prow (j + 1) T k) wr := by
              rw [prow_succ, hR]
              simpa using hP
            clear hP
            replace hR := show Hid _ from hR
            go_wp2
            go_roundw
            case rel => exact ⟨j + 1, by omega, by go_num, hP2⟩
            case measure => simp [intOf]; omega
          | true =>
            rw [hR] at cc
            have hl9 : (prsN k n T ++ prow j T k).length < 1000000000 := by
              have := prow_len j T k
              rw [List.length_append]; omega
            have hP2 := hP.grow (below_alloc wr (Obj.cells #[vI k, vI j] 60))
            have hnb : (wr.alloc (Obj.cells #[vI k, vI j] 60)).heap[wr.heap.size]? = some (.cells #[vI k, vI j] 60) := World.alloc_heap_new _ _
            have hpe : Hid ((prsN k n T ++ prow j T k) ++ [(k, j)] = prsN k n T ++ prow (j + 1) T k) := by
              show _ = _
              rw [prow_succ, hR, if_pos rfl, List.append_assoc]
            clear hP
            replace hR := show Hid _ from hR
            go_wp2_with (first | (at_builtin; refine wpList_appP (by rfl) _ _ (by rfl) w.heap.size u3 (prsN k n T ++ prow j T k) (by rfl) hP2.row hP2.low.size wr.heap.size 1 (k, j) (by rfl) hnb hl9 ?_; intro g4 cap4 w9 hown4 hgr4 hvo4; simp only [Act.put, List.setIfInBounds_toArray, List.set_cons_succ, List.set_cons_zero]))
            have hP3 := hP2.app hgr4 hown4
            rw [hpe.out] at hP3
            go_roundw
            case rel => exact ⟨j + 1, by omega, by go_num, hP3⟩
            case measure => simp [intOf]; omega
        · obtain rfl : j = n := by omega
          have hP2 : PI w u3 (prsN (k + 1) j T) wr := by rw [prsN_succ]; exact hP
          go_wp2
          go_roundw
          case rel => exact ⟨k + 1, by omega, by go_num, hP2⟩
          case measure => simp [intOf]; omega
    · obtain rfl : k = n := by omega
      go_wp2
      go_ret
      exact ⟨u3, rfl, hP⟩
end Go.Proofs.YtfgbhdcoemkdoaaDoor
