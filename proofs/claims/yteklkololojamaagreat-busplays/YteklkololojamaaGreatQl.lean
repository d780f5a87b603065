/- container/heap over the queue: down, Pop. -/
import Derived.Test.YteklkololojamaaGreatQk
namespace Go.Proofs.YteklkololojamaaGreat
open Go.RowKit
set_option linter.unusedVariables false
set_option linter.unusedSimpArgs false
set_option maxRecDepth 8000

def DownP (base q : Nat) (v : Value) (l : List Trn) (n : Nat) (w : World) (e : Ending) (w' : World) : Prop := (∃ b, e = .returned (.bool b)) ∧ ∃ m, QAt base q v m w' ∧ m.length = l.length ∧ m[n]? = l[n]? ∧ Goes (QF q v) w w'
set_option maxHeartbeats 2000000 in
theorem down_c {base q : Nat} {v : Value} {l : List Trn} {w : World} (H : QAt base q v l w) {n : Nat} (hn : n < l.length) (hl : l.length < 1000) : Calls Tryz.prog 109 #[.iface 135 (ptr q 0), vI 0, vI n] w (DownP base q v l n w) := by
  go_enter Tryz.func109, Tryz.ntmps109
  go_wp2
  go_loopw [7] (fun s7 wr => ∃ (i : Nat) (m : List Trn), s7 = .int .i64 i ∧ i ≤ n ∧ m.length = l.length ∧ Hid (QAt base q v m wr ∧ m[n]? = l[n]? ∧ Goes (QF q v) w wr)) (fun s7 _ => n - (intOf s7).toNat)
  case atStart => exact ⟨0, l, rfl, Nat.zero_le _, rfl, H, rfl, Goes.refl _ _⟩
  case round =>
    obtain ⟨i, m, rfl, hin, hml, hH⟩ := hrel
    obtain ⟨H1, E1, G1⟩ := hH.out
    clear hH
    have c0 := H1.c0
    have ml := meth_less c0
    have c64 : (i : Int) < 1000 := by omega
    by_cases h1 : (n : Int) ≤ 2 * i + 1
    · clear ml
      go_wp2
      go_ret
      exact ⟨⟨_, rfl⟩, m, H1, hml, E1, G1⟩
    · have hs1 := getT (l := m) (k := 2 * i + 1) (by omega)
      have hs0 := getT (l := m) (k := i) (by omega)
      generalize m[2 * i + 1] = s1 at hs1
      generalize m[i] = s0 at hs0
      by_cases h2 : (2 * i + 1 + 1 : Int) < n
      · have hs2 := getT (l := m) (k := 2 * i + 1 + 1) (by omega)
        generalize m[2 * i + 1 + 1] = s2 at hs2
        have hle := less_c H1.row hs2 hs1
        simp only [Int.natCast_add, Int.natCast_mul, Int.natCast_one, Int.cast_ofNat_Int] at hle
        cases hlt : ltT s2 s1 with
        | true =>
          go_upto_region 8 with (first | (go_at_call 163; refine hle.mono ?_; rintro e w1 ⟨rfl, hB⟩; dsimp only; rw [hlt]))
          clear ml c0
          have H2 := H1.grow hB
          have ml2 := meth_less H2.c0
          have hl2 := less_c H2.row hs2 hs0
          have hsw := fun w' (hB3 : Below w1.heap.size w1 w') => swap_c (H2.grow hB3).row hs0 hs2
          simp only [Int.natCast_add, Int.natCast_mul, Int.natCast_one, Int.cast_ofNat_Int] at hl2 hsw
          cases hlt2 : ltT s2 s0 with
          | false =>
            go_wp2_with (first | (go_at_call 163; refine hl2.mono ?_; rintro e w3 ⟨rfl, hB3⟩; dsimp only; rw [hlt2]))
            go_ret
            exact ⟨⟨_, rfl⟩, m, H2.grow hB3, hml, E1, (G1.grow hB).grow hB3⟩
          | true =>
            go_wp2_with (first | (go_at_call 163; refine hl2.mono ?_; rintro e w3 ⟨rfl, hB3⟩; dsimp only; rw [hlt2]; have ms := meth_swap (H2.grow hB3).c0) | (go_at_call 166; refine (hsw _ hB3).mono ?_; rintro e w2 ⟨rfl, R2, G2⟩; dsimp only))
            go_roundw
            case rel => exact ⟨2 * i + 1 + 1, (m.set i s2).set (2 * i + 1 + 1) s0, by simp, by omega, by simp [hml], (H2.grow hB3).swapped (by simp) R2 G2, by rw [sw_get (by omega) (by omega), if_neg (by omega), if_neg (by omega)]; exact E1, ((G1.grow hB).grow hB3).trans G2 fun _ _ e => .inr e⟩
            case measure => simp [intOf]; omega
        | false =>
          go_upto_region 8 with (first | (go_at_call 163; refine hle.mono ?_; rintro e w1 ⟨rfl, hB⟩; dsimp only; rw [hlt]))
          clear ml c0
          have H2 := H1.grow hB
          have ml2 := meth_less H2.c0
          have hl2 := less_c H2.row hs1 hs0
          have hsw := fun w' (hB3 : Below w1.heap.size w1 w') => swap_c (H2.grow hB3).row hs0 hs1
          simp only [Int.natCast_add, Int.natCast_mul, Int.natCast_one, Int.cast_ofNat_Int] at hl2 hsw
          cases hlt2 : ltT s1 s0 with
          | false =>
            go_wp2_with (first | (go_at_call 163; refine hl2.mono ?_; rintro e w3 ⟨rfl, hB3⟩; dsimp only; rw [hlt2]))
            go_ret
            exact ⟨⟨_, rfl⟩, m, H2.grow hB3, hml, E1, (G1.grow hB).grow hB3⟩
          | true =>
            go_wp2_with (first | (go_at_call 163; refine hl2.mono ?_; rintro e w3 ⟨rfl, hB3⟩; dsimp only; rw [hlt2]; have ms := meth_swap (H2.grow hB3).c0) | (go_at_call 166; refine (hsw _ hB3).mono ?_; rintro e w2 ⟨rfl, R2, G2⟩; dsimp only))
            go_roundw
            case rel => exact ⟨2 * i + 1, (m.set i s1).set (2 * i + 1) s0, by simp, by omega, by simp [hml], (H2.grow hB3).swapped (by simp) R2 G2, by rw [sw_get (by omega) (by omega), if_neg (by omega), if_neg (by omega)]; exact E1, ((G1.grow hB).grow hB3).trans G2 fun _ _ e => .inr e⟩
            case measure => simp [intOf]; omega
      · go_upto_region 8 with fail
        have hB : Below wr.heap.size wr wr := Below.refl _ _
        obtain ⟨w1, hw1⟩ : ∃ w1, w1 = wr := ⟨_, rfl⟩
        rw [← hw1] at hB ⊢
        replace hB : Below wr.heap.size wr w1 := by rw [hw1]; exact Below.refl _ _
        clear hw1
        clear ml c0
        have H2 := H1.grow hB
        have ml2 := meth_less H2.c0
        have hl2 := less_c H2.row hs1 hs0
        have hsw := fun w' (hB3 : Below w1.heap.size w1 w') => swap_c (H2.grow hB3).row hs0 hs1
        simp only [Int.natCast_add, Int.natCast_mul, Int.natCast_one, Int.cast_ofNat_Int] at hl2 hsw
        cases hlt2 : ltT s1 s0 with
        | false =>
          go_wp2_with (first | (go_at_call 163; refine hl2.mono ?_; rintro e w3 ⟨rfl, hB3⟩; dsimp only; rw [hlt2]))
          go_ret
          exact ⟨⟨_, rfl⟩, m, H2.grow hB3, hml, E1, (G1.grow hB).grow hB3⟩
        | true =>
          go_wp2_with (first | (go_at_call 163; refine hl2.mono ?_; rintro e w3 ⟨rfl, hB3⟩; dsimp only; rw [hlt2]; have ms := meth_swap (H2.grow hB3).c0) | (go_at_call 166; refine (hsw _ hB3).mono ?_; rintro e w2 ⟨rfl, R2, G2⟩; dsimp only))
          go_roundw
          case rel => exact ⟨2 * i + 1, (m.set i s1).set (2 * i + 1) s0, by simp, by omega, by simp [hml], (H2.grow hB3).swapped (by simp) R2 G2, by rw [sw_get (by omega) (by omega), if_neg (by omega), if_neg (by omega)]; exact E1, ((G1.grow hB).grow hB3).trans G2 fun _ _ e => .inr e⟩
          case measure => simp [intOf]; omega
end Go.Proofs.YteklkololojamaaGreat
