/- What is made of relations, as relations. -/
import Derived.Test.YtnedkielehmneaaGreatDoorRk
namespace Go.Proofs.YtnedkielehmneaaGreatDoor
open Go.RowKit
set_option linter.unusedVariables false
set_option linter.unusedSimpArgs false
set_option maxRecDepth 8000

theorem union_r {r s n : Nat} {R S : Nat → Nat → Bool} {w : World} (H : RelAt r n R w) (K : RelAt s n S w) (hT : Tab w) : Calls Tryz.prog 90 #[ptr r 0, ptr s 0] w fun e w' => ∃ q, e = .returned (.tuple #[ptr q 0, vI 0]) ∧ RelAt q n (Rlw.unR R S) w' ∧ w.heap.size ≤ q ∧ Below w.heap.size w w' :=
  (union_c H.row K.row H.le (rwd_lt R) (rwd_lt S) hT).mono fun e w' ⟨q, h1, h2, h3, h4⟩ => ⟨q, h1, ⟨h2.congr fun a ha => by
    refine (rwd_eq (by split; exact Nat.or_lt_two_pow (rwd_lt _ _) (rwd_lt _ _); decide) fun b hb => ?_).symm
    split
    · rw [Nat.testBit_or, H.test, K.test]; rfl
    · rename_i hn
      rw [Nat.zero_testBit]
      cases e : Rlw.unR R S a b with
      | false => rfl
      | true => exact absurd ((H.fit.un K.fit) a b e).1 hn, H.fit.un K.fit, H.le⟩, h3, h4⟩

theorem inter_r {r s n : Nat} {R S : Nat → Nat → Bool} {w : World} (H : RelAt r n R w) (K : RelAt s n S w) (hT : Tab w) : Calls Tryz.prog 91 #[ptr r 0, ptr s 0] w fun e w' => ∃ q, e = .returned (.tuple #[ptr q 0, vI 0]) ∧ RelAt q n (Rlw.inR R S) w' ∧ w.heap.size ≤ q ∧ Below w.heap.size w w' :=
  (inter_c H.row K.row H.le (rwd_lt R) (rwd_lt S) hT).mono fun e w' ⟨q, h1, h2, h3, h4⟩ => ⟨q, h1, ⟨h2.congr fun a ha => by
    refine (rwd_eq (by split; exact Nat.lt_of_le_of_lt Nat.and_le_left (rwd_lt _ _); decide) fun b hb => ?_).symm
    split
    · rw [Nat.testBit_and, H.test, K.test]; rfl
    · rename_i hn
      rw [Nat.zero_testBit]
      cases e : Rlw.inR R S a b with
      | false => rfl
      | true => exact absurd ((H.fit.inn S) a b e).1 hn, H.fit.inn S, H.le⟩, h3, h4⟩

theorem minus_r {r s n : Nat} {R S : Nat → Nat → Bool} {w : World} (H : RelAt r n R w) (K : RelAt s n S w) (hT : Tab w) : Calls Tryz.prog 138 #[ptr r 0, ptr s 0] w fun e w' => ∃ q, e = .returned (.tuple #[ptr q 0, vI 0]) ∧ RelAt q n (Rlw.miR R S) w' ∧ w.heap.size ≤ q ∧ Below w.heap.size w w' :=
  (minus_c H.row K.row H.le (rwd_lt R) (rwd_lt S) hT).mono fun e w' ⟨q, h1, h2, h3, h4⟩ => ⟨q, h1, ⟨h2.congr fun a ha => by
    refine (rwd_eq (by split; exact Bit.orN_lt _ 64; decide) fun b hb => ?_).symm
    split
    · rw [Bit.test_less, H.test, K.test, decide_eq_true hb]; rfl
    · rename_i hn
      rw [Nat.zero_testBit]
      cases e : Rlw.miR R S a b with
      | false => rfl
      | true => exact absurd ((H.fit.mi S) a b e).1 hn, H.fit.mi S, H.le⟩, h3, h4⟩

theorem then_test {r s n : Nat} {R S : Nat → Nat → Bool} {w : World} (H : RelAt r n R w) (K : RelAt s n S w) (a c : Nat) : (accW (rwd S) (els (rwd R a))).testBit c = Rlw.thR n R S a c := by
  rw [accW_test, Bool.eq_iff_iff, Rlw.thR_iff H.fit, List.any_eq_true]
  unfold els elsN
  simp only [List.mem_map, List.mem_filter, List.mem_range]
  constructor
  · rintro ⟨x, ⟨b, ⟨_, h1⟩, rfl⟩, h2⟩
    rw [H.test] at h1
    rw [Int.toNat_natCast, K.test] at h2
    exact ⟨b, h1, h2⟩
  · rintro ⟨b, h1, h2⟩
    refine ⟨b, ⟨b, ⟨by have := (H.fit a b h1).2; have := H.le; omega, by rw [H.test]; exact h1⟩, rfl⟩, ?_⟩
    rw [Int.toNat_natCast, K.test]; exact h2
theorem then_r {r s n : Nat} {R S : Nat → Nat → Bool} {w : World} (H : RelAt r n R w) (K : RelAt s n S w) (hT : Tab w) : Calls Tryz.prog 104 #[ptr r 0, ptr s 0] w fun e w' => ∃ q, e = .returned (.tuple #[ptr q 0, vI 0]) ∧ RelAt q n (Rlw.thR n R S) w' ∧ w.heap.size ≤ q ∧ Below w.heap.size w w' :=
  (then_c H.row K.row H.le (rwd_lt R) (rwd_lt S) hT).mono fun e w' ⟨q, h1, h2, h3, h4⟩ => ⟨q, h1, ⟨h2.congr fun a ha => by
    refine (rwd_eq (by split; exact accW_lt (rwd_lt S) _; decide) fun b hb => ?_).symm
    split
    · exact (then_test H K a b).symm
    · rename_i hn
      rw [Nat.zero_testBit]
      cases e : Rlw.thR n R S a b with
      | false => rfl
      | true => exact absurd ((H.fit.th K.fit) a b e).1 hn, H.fit.th K.fit, H.le⟩, h3, h4⟩

theorem turned_r {r n : Nat} {R : Nat → Nat → Bool} {w : World} (H : RelAt r n R w) (hT : Tab w) : Calls Tryz.prog 117 #[ptr r 0] w fun e w' => ∃ q, e = .returned (ptr q 0) ∧ RelAt q n (Rlw.tuR R) w' ∧ w.heap.size ≤ q ∧ Below w.heap.size w w' :=
  (turned_c H.row (rwd_lt R) hT).mono fun e w' ⟨q, h1, h2, h3, h4⟩ => ⟨q, h1, ⟨h2.congr fun b _ => by
    show Bit.orN _ 64 = Bit.orN _ 64
    apply Bit.orN_congr
    intro a _
    rw [H.test]; rfl, H.fit.tu, H.le⟩, h3, h4⟩
theorem pairs_r {r n : Nat} {R : Nat → Nat → Bool} {w : World} (H : RelAt r n R w) (hT : Tab w) : Calls Tryz.prog 43 #[ptr r 0] w fun e w' => ∃ v, e = .returned v ∧ w'.ownsRow w.heap.size 48 2 v (Rlw.prsN n n R).length (flatP (Rlw.prsN n n R)) ∧ Below w.heap.size w w' := by
  rw [← prsW_rel H]
  exact pairs_c H.row (rwd_lt R) hT
end Go.Proofs.YtnedkielehmneaaGreatDoor
