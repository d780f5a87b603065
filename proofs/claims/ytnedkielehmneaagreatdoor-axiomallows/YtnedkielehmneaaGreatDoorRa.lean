/- Sets of things as words: with, without, has, the least one; each, as an iterator. -/
import Derived.Test.YtnedkielehmneaaGreatDoorRg
import Derived.Test.YtnedkielehmneaaGreatDoorRw
import Derived.Test.YtnedkielehmneaaGreatDoorBb
import Derived.Lib.TrailingZeros
import Derived.Laws.Bits64b
import Derived.Lib.LaidTab
import Derived.Handy
namespace Go.Proofs.YtnedkielehmneaaGreatDoor
open Go.RowKit
set_option linter.unusedVariables false
set_option linter.unusedSimpArgs false
set_option maxRecDepth 8000

open Go.Shelf
/-- The library's table. -/
def Tab (w : World) : Prop := ∀ j, j < 64 → w.cell? ⟨0, j, none⟩ = some (.int .u8 (Lib.deBruijn64tab.getD j 0 : Nat)) ∧ 0 < w.heap.size
theorem Tab.keep {w w' : World} (h : Tab w) (hb : w'.heap[0]? = w.heap[0]?) : Tab w' := fun j hj => by
  have e := (h j hj).1
  have h0 := (h j hj).2
  refine ⟨by rw [← e]; exact World.cell?_of_block hb, ?_⟩
  rw [Array.getElem?_eq_getElem h0] at hb
  exact lt_of_some hb
theorem Tab.grow {w w' : World} (h : Tab w) (hb : Below w.heap.size w w') : Tab w' := h.keep (hb.block 0 (h 0 (by decide)).2)
theorem Tab.turn {w w' : World} {B : Nat} (h : Tab w) (hb : Rg.Turn B w w') (hB : 0 < B) : Tab w' := h.keep (hb.low hB (h 0 (by decide)).2)
/-- The word's bits from k on. -/
def hiW (v k : Nat) : Nat := Bit.orN (fun j => decide (k ≤ j) && v.testBit j) 64
theorem test_hi (v k j : Nat) : (hiW v k).testBit j = (decide (j < 64) && (decide (k ≤ j) && v.testBit j)) := Bit.test_orN _ _ _
theorem hi_zero {v : Nat} (h : v < 2 ^ 64) : hiW v 0 = v := by
  unfold hiW
  rw [show (fun j => decide (0 ≤ j) && v.testBit j) = v.testBit by funext j; simp]
  exact Bit.orN_all h
theorem hi_lt (v k : Nat) : hiW v k < 2 ^ 64 := Bit.orN_lt _ 64
theorem ctz_low {x : Nat} (h0 : x ≠ 0) (h : x < 2 ^ 64) : Lib.ctz 64 x < 64 ∧ x.testBit (Lib.ctz 64 x) = true ∧ ∀ j, j < Lib.ctz 64 x → x.testBit j = false := by
  have e : Lib.ctz 64 x = Lib.ctzFrom 64 x := by simp [Lib.ctz, h0]
  rw [e]
  obtain ⟨m, hm, hk⟩ := Lib.ctzFrom_spec 64 x (by omega) h
  generalize Lib.ctzFrom 64 x = c at hm hk
  refine ⟨hk, ?_, fun j hj => ?_⟩
  · rw [hm, Nat.testBit_two_pow_mul]; simp
  · rw [hm, Nat.testBit_two_pow_mul]; simp; omega
def elsN (f : Nat → Bool) (k : Nat) : List Nat := (List.range k).filter f
theorem elsN_gap {f : Nat → Bool} {k : Nat} : ∀ d, (∀ j, k ≤ j → j < k + d → f j = false) → elsN f (k + d) = elsN f k
  | 0, _ => rfl
  | d + 1, h => by
    unfold elsN at *
    rw [show k + (d + 1) = (k + d) + 1 from rfl, List.range_succ, List.filter_append]
    have ih := elsN_gap (f := f) (k := k) d (fun j h1 h2 => h j h1 (by omega))
    unfold elsN at ih
    rw [ih, List.filter_cons_of_neg (by rw [h (k + d) (by omega) (by omega)]; simp), List.filter_nil, List.append_nil]
theorem elsN_next {f : Nat → Bool} {k x : Nat} (hk : k ≤ x) (hx : f x = true) (h : ∀ j, k ≤ j → j < x → f j = false) : elsN f (x + 1) = elsN f k ++ [x] := by
  obtain ⟨d, rfl⟩ := Nat.exists_eq_add_of_le hk
  have e := elsN_gap (f := f) (k := k) d h
  unfold elsN at *
  rw [List.range_succ, List.filter_append, e, List.filter_cons_of_pos hx, List.filter_nil]
theorem elsN_pre {f : Nat → Bool} {k m : Nat} (h : k ≤ m) : elsN f k <+: elsN f m := by
  obtain ⟨d, rfl⟩ := Nat.exists_eq_add_of_le h
  unfold elsN
  rw [List.range_add, List.filter_append]
  exact List.prefix_append _ _
/-- The things of a word, rising. -/
def els (v : Nat) : List Int := (elsN v.testBit 64).map fun k : Nat => (k : Int)
def elsTo (v k : Nat) : List Int := (elsN v.testBit k).map fun k : Nat => (k : Int)
theorem els_end {v k : Nat} (hv : v < 2 ^ 64) (hk : k ≤ 64) (h : hiW v k = 0) : elsTo v k = els v := by
  unfold els elsTo
  obtain ⟨d, hd⟩ := Nat.exists_eq_add_of_le hk
  rw [hd, elsN_gap]
  intro j h1 h2
  have := test_hi v k j
  rw [h, Nat.zero_testBit, decide_eq_true (by omega : j < 64), decide_eq_true h1] at this
  simpa using this.symm
theorem els_next {v k : Nat} (h : hiW v k ≠ 0) : Lib.ctz 64 (hiW v k) < 64 ∧ k ≤ Lib.ctz 64 (hiW v k) ∧ v.testBit (Lib.ctz 64 (hiW v k)) = true ∧ elsTo v (Lib.ctz 64 (hiW v k) + 1) = elsTo v k ++ [(Lib.ctz 64 (hiW v k) : Int)] ∧ Bit.less (hiW v k) (2 ^ Lib.ctz 64 (hiW v k)) = hiW v (Lib.ctz 64 (hiW v k) + 1) := by
  obtain ⟨h1, h2, h3⟩ := ctz_low h (hi_lt v k)
  generalize Lib.ctz 64 (hiW v k) = x at *
  rw [test_hi] at h2
  simp only [Bool.and_eq_true, decide_eq_true_eq] at h2
  have hlow : ∀ j, k ≤ j → j < x → v.testBit j = false := fun j hj hx => by
    have := h3 j hx
    rw [test_hi, decide_eq_true (by omega : j < 64), decide_eq_true hj] at this
    simpa using this
  refine ⟨h1, h2.2.1, h2.2.2, ?_, ?_⟩
  · unfold elsTo
    rw [elsN_next h2.2.1 h2.2.2 hlow, List.map_append]; rfl
  · apply Nat.eq_of_testBit_eq
    intro j
    rw [Bit.test_less, test_hi, test_hi, Nat.testBit_two_pow]
    by_cases hj : j < 64
    · rw [decide_eq_true hj]
      by_cases e : x = j
      · subst e; simp; omega
      · rw [decide_eq_false e]
        by_cases e2 : x + 1 ≤ j
        · rw [decide_eq_true e2, decide_eq_true (by omega : k ≤ j)]; simp
        · rw [decide_eq_false e2]
          by_cases e3 : k ≤ j
          · rw [hlow j e3 (by omega)]; simp
          · rw [decide_eq_false e3]; simp
    · rw [decide_eq_false hj]; simp
theorem els_pre {v k : Nat} (h : k ≤ 64) : elsTo v k <+: els v := by
  obtain ⟨t, ht⟩ := elsN_pre (f := v.testBit) h
  refine ⟨t.map fun k : Nat => (k : Int), ?_⟩
  unfold els elsTo
  rw [← ht, List.map_append]
theorem els_mem {v : Nat} {x : Int} {pre : List Int} (h : pre ++ [x] <+: els v) : ∃ k : Nat, x = k ∧ k < 64 ∧ v.testBit k = true := by
  obtain ⟨t, ht⟩ := h
  have : x ∈ els v := by rw [← ht]; simp
  unfold els elsN at this
  simp only [List.mem_map, List.mem_filter, List.mem_range] at this
  obtain ⟨k, ⟨h1, h2⟩, h3⟩ := this
  exact ⟨k, h3.symm, h1, h2⟩
/-- One more, one less, one asked. -/
theorem wrap_pow {i : Nat} (h : i < 64) : IntKind.u64.wrap (2 ^ i) = ((2 ^ i : Nat) : Int) := by
  have hp : 2 ^ i < 2 ^ 64 := Nat.pow_lt_pow_right (by decide) h
  have e : ((2 ^ i : Nat) : Int) = (2 : Int) ^ i := by push_cast; rfl
  rw [IntKind.wrap_u64, ← e]
  generalize (2 ^ i : Nat) = q at hp
  omega
theorem bit_at (v i : Nat) (hv : v < 2 ^ 64) : (bits BinOp.and IntKind.u64 ((v : Int) / 2 ^ i) 1 == 1) = v.testBit i := by
  have e1 : (v : Int) / 2 ^ i = ((v / 2 ^ i : Nat) : Int) := by push_cast; rfl
  have e2 := Bit.and_bit (a := v / 2 ^ i) (b := 1) (Nat.lt_of_le_of_lt (Nat.div_le_self _ _) hv) (by decide)
  rw [e1, show (1 : Int) = ((1 : Nat) : Int) from rfl, e2, Nat.and_one_is_mod, Nat.testBit_eq_decide_div_mod_eq]
  have := Nat.mod_two_eq_zero_or_one (v / 2 ^ i)
  rcases this with h | h <;> rw [h] <;> rfl
theorem has_c (v k : Nat) (hv : v < 2 ^ 64) (hk : k < 64) (w : World) : Calls Tryz.prog 101 #[vU v, vI k] w fun e w' => e = .returned (.bool (v.testBit k)) ∧ w' = w := by
  rw [← bit_at v k hv]
  go_enter Tryz.func101, Tryz.ntmps101
  go_wp2
  go_ret
  exact ⟨rfl, rfl⟩
theorem with_c (v k : Nat) (hv : v < 2 ^ 64) (hk : k < 64) (w : World) : Calls Tryz.prog 141 #[vU v, vI k] w fun e w' => e = .returned (vU ((v ||| 2 ^ k : Nat) : Int)) ∧ w' = w := by
  have hp : 2 ^ k < 2 ^ 64 := Nat.pow_lt_pow_right (by decide) hk
  have e := Bit.or_bit hv hp
  rw [← wrap_pow hk] at e
  rw [← e]
  clear e hp
  go_enter Tryz.func141, Tryz.ntmps141
  go_wp2
  go_ret
  exact ⟨rfl, rfl⟩
theorem andnot_bit {a b : Nat} (ha : a < 2 ^ 64) (hb : b < 2 ^ 64) : bits .andNot .u64 (a : Int) (b : Int) = ((Bit.less a b : Nat) : Int) := by
  have key : (BitVec.ofInt 64 (a : Int) &&& ~~~ BitVec.ofInt 64 (b : Int)).toNat = Bit.less a b := by
    apply Nat.eq_of_testBit_eq
    intro j
    rw [Bit.test_less, BitVec.toNat_and, Nat.testBit_and, ← BitVec.getLsbD, ← BitVec.getLsbD, BitVec.getLsbD_not]
    have e1 : (BitVec.ofInt 64 (a : Int)).toNat = a := by rw [BitVec.toNat_ofInt]; omega
    have e2 : (BitVec.ofInt 64 (b : Int)).toNat = b := by rw [BitVec.toNat_ofInt]; omega
    unfold BitVec.getLsbD
    rw [e1, e2]
    cases a.testBit j <;> cases b.testBit j <;> simp
  have hlt : Bit.less a b < 2 ^ 64 := Bit.orN_lt _ 64
  show IntKind.u64.wrap ((BitVec.ofInt 64 (a : Int) &&& ~~~ BitVec.ofInt 64 (b : Int)).toNat : Nat) = _
  rw [key, IntKind.wrap_u64]
  omega
theorem without_c (v k : Nat) (hv : v < 2 ^ 64) (hk : k < 64) (w : World) : Calls Tryz.prog 125 #[vU v, vI k] w fun e w' => e = .returned (vU ((Bit.less v (2 ^ k) : Nat) : Int)) ∧ w' = w := by
  have hp : 2 ^ k < 2 ^ 64 := Nat.pow_lt_pow_right (by decide) hk
  have e := andnot_bit hv hp
  rw [← wrap_pow hk] at e
  rw [← e]
  clear e hp
  go_enter Tryz.func125, Tryz.ntmps125
  go_wp2
  go_ret
  exact ⟨rfl, rfl⟩
theorem tz_key {v q : Nat} (h0 : v ≠ 0) (hv : v < 18446744073709551616) (h : v &&& (18446744073709551616 - v) = q) : IntKind.u64.wrap (bits BinOp.and IntKind.u64 (v : Int) (IntKind.u64.wrap (-(v : Int))) * 285870213051353865) / 288230376151711744 = ((q * 285870213051353865 % 18446744073709551616 / 288230376151711744 : Nat) : Int) := by
  have e1 : IntKind.u64.wrap (-(v : Int)) = ((18446744073709551616 - v : Nat) : Int) := by rw [IntKind.wrap_u64]; omega
  rw [e1, bits_and_u64_nat v _ hv (by omega), h, IntKind.wrap_u64]
  omega
theorem tz_core (v k idx : Nat) (hz : ((v : Int) == 0) = false) (key : IntKind.u64.wrap (bits BinOp.and IntKind.u64 (v : Int) (IntKind.u64.wrap (-(v : Int))) * 285870213051353865) / 288230376151711744 = (idx : Int)) (hi : idx < 64) (hk : k < 64) (w : World) (hc : w.cell? ⟨0, idx, none⟩ = some (.int .u8 k)) : Calls Tryz.prog 124 #[vU v] w fun e w' => e = .returned (vI k) ∧ w' = w := by
  go_enter Tryz.func124, Tryz.ntmps124
  go_wp2_with (simp only [key])
  go_ret
  exact ⟨rfl, rfl⟩
theorem tz_c (v : Nat) (h0 : v ≠ 0) (hv : v < 2 ^ 64) (w : World) (hT : Tab w) : Calls Tryz.prog 124 #[vU v] w fun e w' => e = .returned (vI (Lib.ctz 64 v)) ∧ w' = w := by
  obtain ⟨hlow, hk⟩ := Lib.lowest_bit 64 v h0 hv
  obtain ⟨hi, htab⟩ := Lib.deBruijn64_at _ hk
  have hc := (hT _ hi).1
  rw [htab] at hc
  have e64 : (2 : Nat) ^ 64 = 18446744073709551616 := by decide
  rw [e64] at hlow hv
  exact tz_core v _ _ (by simp; omega) (tz_key h0 hv hlow) hi hk w hc
end Go.Proofs.YtnedkielehmneaaGreatDoor
