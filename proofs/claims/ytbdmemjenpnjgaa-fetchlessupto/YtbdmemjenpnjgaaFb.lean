/- The binary search. -/
import Derived.Test.YtbdmemjenpnjgaaFa
namespace Go.Proofs.Ytbdmemjenpnjgaa
open Go.RowKit
set_option linter.unusedVariables false
set_option linter.unusedSimpArgs false
set_option maxRecDepth 8000

open Go.Shelf
/-- A slice of numbers, to be read. -/
structure IntsAt (w : World) (v : Value) (l : List Nat) : Prop where
  len : ∃ ao cap, v = .slice ao l.length cap
  max : l.length ≤ maxLen
  cell : 0 < l.length → ∃ g cap, v = .slice (some ⟨g, 0, none⟩) l.length cap ∧ ∀ (i x : Nat), l[i]? = some x → w.cell? ⟨g, i, none⟩ = some (vI x)
abbrev numV (l : List Nat) : List Value := l.map fun (x : Nat) => vI (x : Int)
theorem ints_of_own {w : World} {base : Nat} {v : Value} {l : List Nat} {e : TypeId} (h : w.ownsRow base e 1 v l.length (numV l)) : IntsAt w v l := by
  obtain ⟨ao, cap, rfl, h1, h2⟩ := own_len h
  refine ⟨⟨ao, cap, rfl⟩, by omega, fun h0 => ?_⟩
  obtain ⟨g, cap', e', h3, h4, h5, h6, h7⟩ := own_addr h h0
  refine ⟨g, cap', e', fun i x hx => ?_⟩
  have hi : i < l.length := (List.getElem?_eq_some_iff.1 hx).1
  rw [h6 i (by omega)]
  simp [hx]
theorem cnt_at {l : List Nat} {b : Nat} (h : Ris b l) {e : Int} {i : Nat} (hi : i ≤ l.length) (h1 : ∀ (k x : Nat), k < i → l[k]? = some x → (x : Int) < e) (h2 : ∀ (k x : Nat), i ≤ k → l[k]? = some x → ¬ (x : Int) < e) : cntN l e = i := by
  have hl : l = l.take i ++ l.drop i := (List.take_append_drop i l).symm
  unfold cntN
  rw [hl, List.filter_append, List.length_append]
  rw [List.filter_eq_self.2 (fun x hx => ?_), (List.filter_eq_nil_iff (l := l.drop i)).2 (fun x hx => ?_)]
  · simp; omega
  · obtain ⟨k, hk⟩ := List.mem_iff_getElem?.1 hx
    rw [List.getElem?_drop] at hk
    simpa using h2 (i + k) x (by omega) hk
  · obtain ⟨k, hk⟩ := List.mem_iff_getElem?.1 hx
    have hki : k < i := by
      have := (List.getElem?_eq_some_iff.1 hk).1
      simp at this; omega
    rw [List.getElem?_take_of_lt hki] at hk
    simpa using h1 k x hki hk
theorem ris_lt {l : List Nat} {b : Nat} (h : Ris b l) {i j x y : Nat} (hi : l[i]? = some x) (hj : l[j]? = some y) (hij : i < j) : x < y := by
  have := List.pairwise_iff_getElem.1 h.up i j (List.getElem?_eq_some_iff.1 hi).1 (List.getElem?_eq_some_iff.1 hj).1 hij
  rw [(List.getElem?_eq_some_iff.1 hi).2, (List.getElem?_eq_some_iff.1 hj).2] at this
  exact this
theorem shr_half (n : Nat) (h : n < 18446744073709551616) : IntKind.u64.wrap ((n : Int) / 2) = ((n / 2 : Nat) : Int) := by
  rw [IntKind.wrap_u64]; omega
def BsR (n : Nat) (r : Ending) : Prop := ∃ fb, r = .returned (.tuple #[vI n, .bool fb])
theorem BsR.mk' {n : Nat} {r : Ending} (fb : Bool) (h : r = .returned (.tuple #[vI n, .bool fb])) : BsR n r := ⟨fb, h⟩
set_option maxHeartbeats 1000000 in
theorem bs_c {w : World} {v : Value} {l : List Nat} {b : Nat} (H : IntsAt w v l) (R : Ris b l) (e : Int) : Calls Try.prog 42 #[v, vI e] w fun r w' => BsR (cntN l e) r ∧ w' = w := by
  obtain ⟨ao, cap, rfl⟩ := H.len
  have hmax := H.max
  simp only [maxLen] at hmax
  have kL := less_c
  go_enter Try.func42, Try.ntmps42
  go_wp2
  go_loopw [7, 8] (fun s7 s8 wr => wr = w ∧ ∃ i j : Nat, s7 = vI i ∧ s8 = vI j ∧ i ≤ j ∧ j ≤ l.length ∧ (∀ (k x : Nat), k < i → l[k]? = some x → (x : Int) < e) ∧ (∀ (k x : Nat), j ≤ k → l[k]? = some x → ¬ (x : Int) < e)) (fun s7 s8 _ => (intOf s8 - intOf s7).toNat)
  case atStart => exact ⟨rfl, 0, l.length, rfl, rfl, by omega, by omega, fun k x h => by omega, fun k x h1 h2 => by have := (List.getElem?_eq_some_iff.1 h2).1; omega⟩
  case round =>
    obtain ⟨rfl, i, j, rfl, rfl, hij, hjn, h1, h2⟩ := hrel
    by_cases hlt : (i : Int) < j
    · obtain ⟨g, cap', e', hc⟩ := H.cell (by omega)
      cases e'
      obtain ⟨m, hm⟩ : ∃ m, m = (i + j) / 2 := ⟨_, rfl⟩
      have hmj : m < j := by omega
      have him : i ≤ m := by omega
      obtain ⟨x, hx⟩ : ∃ x, l[m]? = some x := ⟨l[m]'(by omega), List.getElem?_eq_getElem (by omega)⟩
      have hcm := hc m x hx
      have hsh : wrap64 (IntKind.u64.wrap (wrap64 ((i : Int) + j)) / 2) = (m : Int) := by
        rw [IntKind.wrap_u64]
        unfold wrap64
        omega
      have hmi : (m : Int) < l.length := by omega
      clear hc H
      clear hm
      go_upto_region 5 with fail
      rw [hsh]
      clear hsh
      go_wp2_with (first | (go_at_call 45; with_reducible refine (kL _ _ _).mono ?_; clear kL; rintro e2 w2 ⟨rfl, rfl⟩; dsimp only))
      · rename_i hd
        go_wp2
        go_roundw
        case rel => exact ⟨trivial, m + 1, j, by simp, rfl, by omega, hjn, fun k y hk hy => by
          by_cases e1 : k = m
          · subst e1; rw [hx] at hy; cases hy; exact hd
          · have := ris_lt R hy hx (by omega); omega, h2⟩
        case measure => simp [intOf]; omega
      · rename_i hd
        try go_wp2
        go_roundw
        case rel => exact ⟨trivial, i, m, rfl, rfl, him, by omega, h1, fun k y hk hy => by
          by_cases e1 : k = m
          · subst e1; rw [hx] at hy; cases hy; omega
          · have := ris_lt R hx hy (by omega); omega⟩
        case measure => simp [intOf]; omega
    · have hij' : i = j := by omega
      subst hij'
      have hcn := cnt_at R hjn h1 h2
      have kN := nan2_c
      by_cases hin : (i : Int) < l.length
      · obtain ⟨g, cap', e', hc⟩ := H.cell (by omega)
        cases e'
        obtain ⟨x, hx⟩ : ∃ x, l[i]? = some x := ⟨l[i]'(by omega), List.getElem?_eq_getElem (by omega)⟩
        have hcm := hc i x hx
        clear hc H
        by_cases hxe : (x : Int) = e
        · go_wp2
          go_ret2
          exact ⟨.mk' _ rfl, rfl⟩
        · go_wp2_with (first | (go_at_call 46; with_reducible refine (kN _ _).mono ?_; clear kN; rintro e2 w2 ⟨rfl, rfl⟩; dsimp only))
          go_ret2
          exact ⟨.mk' _ rfl, rfl⟩
      · go_wp2
        go_ret2
        exact ⟨.mk' _ rfl, rfl⟩
theorem countAhead_c {w : World} {v : Value} {l : List Nat} {b : Nat} (H : IntsAt w v l) (R : Ris b l) (e : Int) : Calls Try.prog 39 #[v, vI e] w fun r w' => r = .returned (vI (cntN l e)) ∧ w' = w := by
  have k1 := bs_c H R e
  go_enter Try.func39, Try.ntmps39
  go_wp2_with (first | (go_at_call 42; (with_reducible refine k1.mono ?_); clear k1; rintro e2 w2 ⟨⟨fb, rfl⟩, rfl⟩; dsimp only))
  go_ret
  exact ⟨rfl, rfl⟩
theorem lastAhead_c {w : World} {v : Value} {l : List Nat} {b : Nat} (H : IntsAt w v l) (R : Ris b l) (e : Int) : Calls Try.prog 38 #[v, vI e] w fun r w' => r = .returned (vI (lastN l e)) ∧ w' = w := by
  have k1 := countAhead_c H R e
  have hle := cntN_le l e
  have hmax := H.max
  simp only [maxLen] at hmax
  unfold lastN
  by_cases h0 : cntN l e = 0
  · rw [h0] at k1
    rw [if_pos h0]
    go_enter Try.func38, Try.ntmps38
    go_wp2_with (first | (go_at_call 39; with_reducible refine k1.mono ?_; clear k1; rintro e2 w2 ⟨rfl, rfl⟩; dsimp only))
    go_ret
    exact ⟨rfl, rfl⟩
  · rw [if_neg h0]
    obtain ⟨g, cap', rfl, hc⟩ := H.cell (by omega)
    obtain ⟨c, hcc⟩ : ∃ c, cntN l e = c + 1 := ⟨cntN l e - 1, by omega⟩
    rw [hcc] at k1 hle h0 ⊢
    obtain ⟨x, hx⟩ : ∃ x, l[c]? = some x := ⟨l[c]'(by omega), List.getElem?_eq_getElem (by omega)⟩
    have hcm := hc c x hx
    have hci : (c : Int) < l.length := by omega
    have hd : l.getD (c + 1 - 1) 0 = x := by simp [List.getD, hx]
    rw [hd]
    clear hc H
    go_enter Try.func38, Try.ntmps38
    go_upto_region 2 with (first | (go_at_call 39; with_reducible refine k1.mono ?_; clear k1; rintro e2 w2 ⟨rfl, rfl⟩; dsimp only))
    go_upto_region 4 with fail
    have hs : wrap64 ((c : Int) + 1 - 1) = c := by unfold wrap64; omega
    go_wp2
    go_ret
    exact ⟨rfl, rfl⟩
end Go.Proofs.Ytbdmemjenpnjgaa
