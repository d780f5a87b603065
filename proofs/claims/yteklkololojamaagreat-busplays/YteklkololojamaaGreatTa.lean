/- A timer, plain: no program is named. -/
import Derived.Test.YteklkololojamaaGreatHg
namespace Go.Proofs.YteklkololojamaaGreat.Tim
open Go.RowKit
set_option linter.unusedVariables false
set_option linter.unusedSimpArgs false

/-- The count; of each core its bits and its moment. -/
structure Tm where
  cnt : Int
  ctl : Nat → Int
  cval : Nat → Int
structure Tm.Ok (T : Tm) : Prop where
  c0 : 0 ≤ T.cnt
  c1 : T.cnt < 18446744073709551616
  v0 : ∀ i, 0 ≤ T.cval i
  v1 : ∀ i, T.cval i < 18446744073709551616
  b0 : ∀ i, 0 ≤ T.ctl i
  b1 : ∀ i, T.ctl i ≤ 3
def zeroT : Tm := ⟨0, fun _ => 0, fun _ => 0⟩
theorem zeroT_ok : zeroT.Ok := ⟨by decide, by decide, fun _ => (by decide : (0 : Int) ≤ 0), fun _ => (by decide : (0 : Int) < 18446744073709551616), fun _ => (by decide : (0 : Int) ≤ 0), fun _ => (by decide : (0 : Int) ≤ 3)⟩
def Tm.tick (T : Tm) (n : Int) : Tm := { T with cnt := (T.cnt + n) % 18446744073709551616 }
def Tm.setC (T : Tm) (i : Nat) (v : Int) : Tm := { T with ctl := fun j => if j = i then v % 4 else T.ctl j }
def Tm.setV (T : Tm) (i : Nat) (v : Int) : Tm := { T with cval := fun j => if j = i then v else T.cval j }
def Tm.high (T : Tm) (i : Nat) : Bool := decide (T.ctl i = 1) && decide (T.cval i ≤ T.cnt)
/-- What is read of the bits. -/
def Tm.bits (T : Tm) (i : Nat) : Int := if T.ctl i % 2 = 1 ∧ T.cval i ≤ T.cnt then T.ctl i + 4 else T.ctl i
/-- Does a core wait for a moment to come? -/
def Tm.due (T : Tm) (i : Nat) : Bool := decide (T.ctl i = 1) && decide (T.cnt < T.cval i)
/-- The next of the first m, or -1. -/
def Tm.nextF (T : Tm) : Nat → Int
  | 0 => -1
  | m + 1 => if T.due m = true ∧ (T.nextF m < 0 ∨ T.cval m < T.cval (T.nextF m).toNat) then m else T.nextF m
section
variable {T : Tm}
theorem tick_ok (H : T.Ok) (n : Int) : (T.tick n).Ok := ⟨by unfold Tm.tick; dsimp only; omega, by unfold Tm.tick; dsimp only; omega, H.v0, H.v1, H.b0, H.b1⟩
theorem setC_ok (H : T.Ok) (i : Nat) (v : Int) : (T.setC i v).Ok := by
  refine ⟨H.c0, H.c1, H.v0, H.v1, fun j => ?_, fun j => ?_⟩ <;> (unfold Tm.setC; dsimp only; split)
  · omega
  · exact H.b0 j
  · omega
  · exact H.b1 j
theorem setV_ok (H : T.Ok) (i : Nat) {v : Int} (h0 : 0 ≤ v) (h1 : v < 18446744073709551616) : (T.setV i v).Ok := by
  refine ⟨H.c0, H.c1, fun j => ?_, fun j => ?_, H.b0, H.b1⟩ <;> (unfold Tm.setV; dsimp only; split)
  · exact h0
  · exact H.v0 j
  · exact h1
  · exact H.v1 j
theorem due_iff (i : Nat) : T.due i = true ↔ T.ctl i = 1 ∧ T.cnt < T.cval i := by
  unfold Tm.due; rw [Bool.and_eq_true, decide_eq_true_eq, decide_eq_true_eq]
theorem high_iff (i : Nat) : T.high i = true ↔ T.ctl i = 1 ∧ T.cval i ≤ T.cnt := by
  unfold Tm.high; rw [Bool.and_eq_true, decide_eq_true_eq, decide_eq_true_eq]
/-- What Next is: none waits, or the least moment of those that wait, of several the least number. -/
theorem next_spec (T : Tm) : ∀ m, (T.nextF m = -1 ∧ ∀ j, j < m → T.due j = false) ∨ ∃ k : Nat, T.nextF m = k ∧ k < m ∧ T.due k = true ∧ ∀ j, j < m → T.due j = true → T.cval k < T.cval j ∨ (T.cval k = T.cval j ∧ k ≤ j)
  | 0 => .inl ⟨rfl, fun j hj => absurd hj (Nat.not_lt_zero j)⟩
  | m + 1 => by
    have e : T.nextF (m + 1) = if T.due m = true ∧ (T.nextF m < 0 ∨ T.cval m < T.cval (T.nextF m).toNat) then (m : Int) else T.nextF m := rfl
    rcases next_spec T m with ⟨h1, h2⟩ | ⟨k, h1, h2, h3, h4⟩
    · by_cases hd : T.due m = true
      · refine .inr ⟨m, ?_, Nat.lt_succ_self m, hd, fun j hj hdj => ?_⟩
        · rw [e, if_pos ⟨hd, .inl (by rw [h1]; decide)⟩]
        · by_cases ej : j = m
          · subst ej; exact .inr ⟨rfl, Nat.le_refl _⟩
          · rw [h2 j (by omega)] at hdj; cases hdj
      · refine .inl ⟨?_, fun j hj => ?_⟩
        · rw [e, if_neg (fun h => hd h.1), h1]
        · by_cases ej : j = m
          · subst ej; simpa using hd
          · exact h2 j (by omega)
    · by_cases hc : T.due m = true ∧ (T.nextF m < 0 ∨ T.cval m < T.cval (T.nextF m).toNat)
      · have hlt : T.cval m < T.cval k := by
          rcases hc.2 with h | h
          · rw [h1] at h; omega
          · rw [h1, Int.toNat_natCast] at h; exact h
        refine .inr ⟨m, by rw [e, if_pos hc], Nat.lt_succ_self m, hc.1, fun j hj hdj => ?_⟩
        by_cases ej : j = m
        · subst ej; exact .inr ⟨rfl, Nat.le_refl _⟩
        · rcases h4 j (by omega) hdj with h | ⟨h, _⟩
          · exact .inl (by omega)
          · exact .inl (by omega)
      · refine .inr ⟨k, by rw [e, if_neg hc, h1], by omega, h3, fun j hj hdj => ?_⟩
        by_cases ej : j = m
        · subst ej
          have hn : ¬ (T.nextF j < 0 ∨ T.cval j < T.cval (T.nextF j).toNat) := fun h => hc ⟨hdj, h⟩
          rw [h1, Int.toNat_natCast] at hn
          by_cases ek : T.cval k < T.cval j
          · exact .inl ek
          · exact .inr ⟨by omega, by omega⟩
        · exact h4 j (by omega) hdj
/-- One that is least in that sense is Next's. -/
theorem next_of {m k : Nat} (hk : k < m) (hd : T.due k = true) (hl : ∀ j, j < m → T.due j = true → T.cval k < T.cval j ∨ (T.cval k = T.cval j ∧ k ≤ j)) : T.nextF m = k := by
  rcases next_spec T m with ⟨_, h2⟩ | ⟨q, h1, h2, h3, h4⟩
  · rw [h2 k hk] at hd; cases hd
  · rw [h1]
    have a := hl q h2 h3
    have b := h4 k hk hd
    have : k = q := by
      rcases a with a | ⟨a, a'⟩ <;> rcases b with b | ⟨b, b'⟩ <;> omega
    rw [this]
theorem next_no {m : Nat} (h : ∀ j, j < m → T.due j = false) : T.nextF m = -1 := by
  rcases next_spec T m with ⟨h1, _⟩ | ⟨q, _, h2, h3, _⟩
  · exact h1
  · rw [h q h2] at h3; cases h3
theorem tick_tick (T : Tm) (a b : Int) : (T.tick a).tick b = T.tick (a + b) := by
  unfold Tm.tick
  have : ((T.cnt + a) % 18446744073709551616 + b) % 18446744073709551616 = (T.cnt + (a + b)) % 18446744073709551616 := by omega
  dsimp only
  rw [this]
theorem tick_wrap (T : Tm) (a : Int) : T.tick (a % 18446744073709551616) = T.tick a := by
  unfold Tm.tick
  have : (T.cnt + a % 18446744073709551616) % 18446744073709551616 = (T.cnt + a) % 18446744073709551616 := by omega
  rw [this]
/-- A tick less than Next tells: no line turns. -/
theorem next_quiet (H : T.Ok) {m k : Nat} (hk : T.nextF m = k) {i : Nat} (hi : i < m) : (T.tick (T.cval k - T.cnt - 1)).high i = T.high i := by
  rcases next_spec T m with ⟨h1, _⟩ | ⟨q, h1, h2, h3, h4⟩
  · rw [h1] at hk; omega
  · obtain rfl : q = k := by rw [h1] at hk; omega
    rw [due_iff] at h3
    have c0 := H.c0; have c1 := H.c1; have v1 := H.v1 q
    have e : (T.cnt + (T.cval q - T.cnt - 1)) % 18446744073709551616 = T.cval q - 1 := by omega
    rw [Bool.eq_iff_iff, high_iff, high_iff]
    show T.ctl i = 1 ∧ T.cval i ≤ (T.cnt + (T.cval q - T.cnt - 1)) % 18446744073709551616 ↔ _
    rw [e]
    constructor
    · rintro ⟨a, b⟩
      refine ⟨a, ?_⟩
      by_cases hc : T.cnt < T.cval i
      · have := h4 i hi ((due_iff i).2 ⟨a, hc⟩); omega
      · omega
    · rintro ⟨a, b⟩
      exact ⟨a, by omega⟩
/-- The whole of it: the core's line is high, and of those before it none has turned. -/
theorem next_then (H : T.Ok) {m k : Nat} (hk : T.nextF m = k) : (T.tick (T.cval k - T.cnt)).high k = true ∧ ∀ i, i < k → (T.tick (T.cval k - T.cnt)).high i = T.high i := by
  rcases next_spec T m with ⟨h1, _⟩ | ⟨q, h1, h2, h3, h4⟩
  · rw [h1] at hk; omega
  · obtain rfl : q = k := by rw [h1] at hk; omega
    rw [due_iff] at h3
    have c0 := H.c0; have v1 := H.v1 q
    have e : (T.cnt + (T.cval q - T.cnt)) % 18446744073709551616 = T.cval q := by omega
    refine ⟨?_, fun i hi => ?_⟩
    · rw [high_iff]
      show T.ctl q = 1 ∧ T.cval q ≤ (T.cnt + (T.cval q - T.cnt)) % 18446744073709551616
      rw [e]; exact ⟨h3.1, by omega⟩
    · rw [Bool.eq_iff_iff, high_iff, high_iff]
      show T.ctl i = 1 ∧ T.cval i ≤ (T.cnt + (T.cval q - T.cnt)) % 18446744073709551616 ↔ _
      rw [e]
      constructor
      · rintro ⟨a, b⟩
        refine ⟨a, ?_⟩
        by_cases hc : T.cnt < T.cval i
        · have := h4 i (by omega) ((due_iff i).2 ⟨a, hc⟩); omega
        · omega
      · rintro ⟨a, b⟩
        exact ⟨a, by omega⟩
/-- A tick more, the sum that goes by. -/
theorem tick_next (T : Tm) (s p : Int) : (T.tick s).tick p = T.tick ((s + p) % 18446744073709551616) := by rw [tick_wrap, tick_tick]
theorem and3 (x : Int) (h0 : 0 ≤ x) (h1 : x < 18446744073709551616) : bits .and .u64 x 3 = x % 4 := by
  have e3 : (BitVec.ofInt 64 3).toNat = 2 ^ 2 - 1 := by decide
  have key : (BitVec.ofInt 64 x &&& BitVec.ofInt 64 3).toNat = (x % ((2 ^ 64 : Nat) : Int)).toNat % 2 ^ 2 := by
    rw [BitVec.toNat_and, BitVec.toNat_ofInt, e3, Nat.and_two_pow_sub_one_eq_mod]
  show IntKind.u64.wrap ((BitVec.ofInt 64 x &&& BitVec.ofInt 64 3).toNat : Nat) = x % 4
  rw [key, IntKind.wrap_u64]
  omega
theorem and1 (x : Int) (h0 : 0 ≤ x) (h1 : x < 18446744073709551616) : bits .and .u64 x 1 = x % 2 := by
  have e3 : (BitVec.ofInt 64 1).toNat = 2 ^ 1 - 1 := by decide
  have key : (BitVec.ofInt 64 x &&& BitVec.ofInt 64 1).toNat = (x % ((2 ^ 64 : Nat) : Int)).toNat % 2 ^ 1 := by
    rw [BitVec.toNat_and, BitVec.toNat_ofInt, e3, Nat.and_two_pow_sub_one_eq_mod]
  show IntKind.u64.wrap ((BitVec.ofInt 64 x &&& BitVec.ofInt 64 1).toNat : Nat) = x % 2
  rw [key, IntKind.wrap_u64]
  omega
theorem or4 (x : Int) (h0 : 0 ≤ x) (h1 : x ≤ 3) : bits .or .u64 x 4 = x + 4 := by
  have : x = 0 ∨ x = 1 ∨ x = 2 ∨ x = 3 := by omega
  rcases this with rfl | rfl | rfl | rfl <;> decide
end
end Go.Proofs.YteklkololojamaaGreat.Tim
