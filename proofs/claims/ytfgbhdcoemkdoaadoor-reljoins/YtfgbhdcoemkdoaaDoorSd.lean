/- container/heap over the queue: down. -/
import Derived.Test.YtfgbhdcoemkdoaaDoorSc
namespace Go.Proofs.YtfgbhdcoemkdoaaDoor
open Go.RowKit
set_option linter.unusedVariables false
set_option linter.unusedSimpArgs false
set_option maxRecDepth 8000

open Hq
def DownP (base q : Nat) (v : Value) (l : List Nat) (n : Nat) (w : World) (e : Ending) (w' : World) : Prop := (∃ b, e = .returned (.bool b)) ∧ ∃ m, QAt base q v m w' ∧ m.length = l.length ∧ m[n]? = l[n]? ∧ Heap m n ∧ (∀ x, x ∈ m ↔ x ∈ l) ∧ Inj m ∧ Goes (QF q v) w w'
set_option maxHeartbeats 4000000 in
theorem down_c {base q : Nat} {v : Value} {l : List Nat} {w : World} (H : QAt base q v l w) {n : Nat} (hn : n < l.length) (hl : l.length < 1000) (hD : HeapD l n 0) (hI : Inj l) : Calls Tryd.prog 64 #[.iface 73 (ptr q 0), vI 0, vI n] w (DownP base q v l n w) := by
  go_enter Tryd.func64, Tryd.ntmps64
  go_wp2
  go_loopw [7] (fun s7 wr => ∃ (i : Nat) (m : List Nat), s7 = .int .i64 i ∧ i ≤ n ∧ m.length = l.length ∧ Hid (QAt base q v m wr ∧ m[n]? = l[n]? ∧ HeapD m n i ∧ (∀ x, x ∈ m ↔ x ∈ l) ∧ Inj m ∧ Goes (QF q v) w wr)) (fun s7 _ => n - (intOf s7).toNat)
  case atStart => exact ⟨0, l, rfl, Nat.zero_le _, rfl, H, rfl, hD, fun _ => Iff.rfl, hI, Goes.refl _ _⟩
  case round =>
    obtain ⟨i, m, rfl, hin, hml, hH⟩ := hrel
    obtain ⟨H1, E1, D1, M1, I1, G1⟩ := hH.out
    clear hH
    have c0 := H1.c0
    have ml := meth_less c0
    have c64 : (i : Int) < 1000 := by omega
    have hs0 := getT (l := m) (k := i) (by omega)
    generalize m[i] = s0 at hs0
    by_cases h1 : (n : Int) ≤ 2 * i + 1
    · clear ml
      go_wp2
      go_ret
      exact ⟨⟨_, rfl⟩, m, H1, hml, E1, down_stop D1 hs0 (fun k a h1 h2 h3 h4 => by omega), M1, I1, G1⟩
    · have hs1 := getT (l := m) (k := 2 * i + 1) (by omega)
      generalize m[2 * i + 1] = s1 at hs1
      by_cases h2 : (2 * i + 1 + 1 : Int) < n
      · have hs2 := getT (l := m) (k := 2 * i + 1 + 1) (by omega)
        generalize m[2 * i + 1 + 1] = s2 at hs2
        have hle := less_c H1.row hs2 hs1
        simp only [Int.natCast_add, Int.natCast_mul, Int.natCast_one, Int.cast_ofNat_Int] at hle
        have kids : ∀ (s : Nat), s ≤ s1 → s ≤ s2 → ∀ k a, 0 < k → k < n → (k - 1) / 2 = i → m[k]? = some a → s ≤ a := fun s g1 g2 k a q1 q2 q3 q4 => by
          rcases (by omega : k = 2 * i + 1 ∨ k = 2 * i + 1 + 1) with e | e
          · rw [e, hs1] at q4; cases q4; exact g1
          · rw [e, hs2] at q4; cases q4; exact g2
        replace kids := show Hid _ from kids
        by_cases hlt : s2 < s1
        · rw [decide_eq_true hlt] at hle
          go_upto_region 8 with (first | (go_at_call 82; refine hle.mono ?_; rintro e w1 ⟨rfl, hB⟩; dsimp only))
          clear ml c0
          have H2 := H1.grow hB
          have ml2 := meth_less H2.c0
          have hl2 := less_c H2.row hs2 hs0
          have hsw := fun w' (hB3 : Below w1.heap.size w1 w') => swap_c (H2.grow hB3).row hs0 hs2
          simp only [Int.natCast_add, Int.natCast_mul, Int.natCast_one, Int.cast_ofNat_Int] at hl2 hsw
          by_cases hlt2 : s2 < s0
          · rw [decide_eq_true hlt2] at hl2
            go_wp2_with (first | (go_at_call 82; refine hl2.mono ?_; rintro e w3 ⟨rfl, hB3⟩; dsimp only; have ms := meth_swap (H2.grow hB3).c0) | (go_at_call 85; refine (hsw _ hB3).mono ?_; rintro e w2 ⟨rfl, R2, G2⟩; dsimp only))
            go_roundw
            case rel => exact ⟨2 * i + 1 + 1, swp m i (2 * i + 1 + 1) s0 s2, by simp, by omega, by rw [swp_len]; exact hml, (H2.grow hB3).swapped (swp_len _ _ _ _ _) R2 G2, by rw [swp_get hs0 hs2, tr, if_neg (by omega), if_neg (by omega)]; exact E1, down_step D1 (by omega) (by omega) (by omega) hs0 hs2 hlt2 (kids.out s2 (Nat.le_of_lt hlt) (Nat.le_refl _)), fun x => (swp_mem hs0 hs2 x).trans (M1 x), swp_inj I1 hs0 hs2, ((G1.grow hB).grow hB3).trans G2 fun _ _ e => .inr e⟩
            case measure => simp [intOf]; omega
          · rw [decide_eq_false hlt2] at hl2
            go_wp2_with (first | (go_at_call 82; refine hl2.mono ?_; rintro e w3 ⟨rfl, hB3⟩; dsimp only))
            go_ret
            exact ⟨⟨_, rfl⟩, m, H2.grow hB3, hml, E1, down_stop D1 hs0 (fun k a h1 h2 h3 h4 => Nat.le_trans (Nat.not_lt.1 hlt2) ((kids.out s2 (Nat.le_of_lt hlt) (Nat.le_refl _)) k a h1 h2 h3 h4)), M1, I1, (G1.grow hB).grow hB3⟩
        · rw [decide_eq_false hlt] at hle
          go_upto_region 8 with (first | (go_at_call 82; refine hle.mono ?_; rintro e w1 ⟨rfl, hB⟩; dsimp only))
          clear ml c0
          have H2 := H1.grow hB
          have ml2 := meth_less H2.c0
          have hl2 := less_c H2.row hs1 hs0
          have hsw := fun w' (hB3 : Below w1.heap.size w1 w') => swap_c (H2.grow hB3).row hs0 hs1
          simp only [Int.natCast_add, Int.natCast_mul, Int.natCast_one, Int.cast_ofNat_Int] at hl2 hsw
          by_cases hlt2 : s1 < s0
          · rw [decide_eq_true hlt2] at hl2
            go_wp2_with (first | (go_at_call 82; refine hl2.mono ?_; rintro e w3 ⟨rfl, hB3⟩; dsimp only; have ms := meth_swap (H2.grow hB3).c0) | (go_at_call 85; refine (hsw _ hB3).mono ?_; rintro e w2 ⟨rfl, R2, G2⟩; dsimp only))
            go_roundw
            case rel => exact ⟨2 * i + 1, swp m i (2 * i + 1) s0 s1, by simp, by omega, by rw [swp_len]; exact hml, (H2.grow hB3).swapped (swp_len _ _ _ _ _) R2 G2, by rw [swp_get hs0 hs1, tr, if_neg (by omega), if_neg (by omega)]; exact E1, down_step D1 (by omega) (by omega) (by omega) hs0 hs1 hlt2 (kids.out s1 (Nat.le_refl _) (Nat.not_lt.1 hlt)), fun x => (swp_mem hs0 hs1 x).trans (M1 x), swp_inj I1 hs0 hs1, ((G1.grow hB).grow hB3).trans G2 fun _ _ e => .inr e⟩
            case measure => simp [intOf]; omega
          · rw [decide_eq_false hlt2] at hl2
            go_wp2_with (first | (go_at_call 82; refine hl2.mono ?_; rintro e w3 ⟨rfl, hB3⟩; dsimp only))
            go_ret
            exact ⟨⟨_, rfl⟩, m, H2.grow hB3, hml, E1, down_stop D1 hs0 (fun k a h1 h2 h3 h4 => Nat.le_trans (Nat.not_lt.1 hlt2) ((kids.out s1 (Nat.le_refl _) (Nat.not_lt.1 hlt)) k a h1 h2 h3 h4)), M1, I1, (G1.grow hB).grow hB3⟩
      · have kids : ∀ k a, 0 < k → k < n → (k - 1) / 2 = i → m[k]? = some a → s1 ≤ a := fun k a q1 q2 q3 q4 => by
          have e : k = 2 * i + 1 := by omega
          rw [e, hs1] at q4; cases q4; exact Nat.le_refl _
        replace kids := show Hid _ from kids
        go_upto_region 8 with fail
        have hB : Below wr.heap.size wr wr := Below.refl _ _
        obtain ⟨w1, hw1⟩ : ∃ w1, w1 = wr := ⟨_, rfl⟩
        rw [← hw1] at hB ⊢
        replace hB : Below wr.heap.size wr w1 := by rw [hw1]; exact Below.refl _ _
        clear hw1
        clear ml c0
        have H2 := H1.grow hB
        have ml2 := meth_less H2.c0
        have hl2 := less_c H2.row hs1 hs0
        have hsw := fun w' (hB3 : Below w1.heap.size w1 w') => swap_c (H2.grow hB3).row hs0 hs1
        simp only [Int.natCast_add, Int.natCast_mul, Int.natCast_one, Int.cast_ofNat_Int] at hl2 hsw
        by_cases hlt2 : s1 < s0
        · rw [decide_eq_true hlt2] at hl2
          go_wp2_with (first | (go_at_call 82; refine hl2.mono ?_; rintro e w3 ⟨rfl, hB3⟩; dsimp only; have ms := meth_swap (H2.grow hB3).c0) | (go_at_call 85; refine (hsw _ hB3).mono ?_; rintro e w2 ⟨rfl, R2, G2⟩; dsimp only))
          go_roundw
          case rel => exact ⟨2 * i + 1, swp m i (2 * i + 1) s0 s1, by simp, by omega, by rw [swp_len]; exact hml, (H2.grow hB3).swapped (swp_len _ _ _ _ _) R2 G2, by rw [swp_get hs0 hs1, tr, if_neg (by omega), if_neg (by omega)]; exact E1, down_step D1 (by omega) (by omega) (by omega) hs0 hs1 hlt2 kids.out, fun x => (swp_mem hs0 hs1 x).trans (M1 x), swp_inj I1 hs0 hs1, ((G1.grow hB).grow hB3).trans G2 fun _ _ e => .inr e⟩
          case measure => simp [intOf]; omega
        · rw [decide_eq_false hlt2] at hl2
          go_wp2_with (first | (go_at_call 82; refine hl2.mono ?_; rintro e w3 ⟨rfl, hB3⟩; dsimp only))
          go_ret
          exact ⟨⟨_, rfl⟩, m, H2.grow hB3, hml, E1, down_stop D1 hs0 (fun k a h1 h2 h3 h4 => Nat.le_trans (Nat.not_lt.1 hlt2) (kids.out k a h1 h2 h3 h4)), M1, I1, (G1.grow hB).grow hB3⟩
end Go.Proofs.YtfgbhdcoemkdoaaDoor
