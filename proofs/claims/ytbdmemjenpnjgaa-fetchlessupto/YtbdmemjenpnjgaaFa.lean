/- What is asked of one note. -/
import Derived.Test.YtbdmemjenpnjgaaHg
import Derived.Test.YtbdmemjenpnjgaaPb
import Derived.Test.YtbdmemjenpnjgaaRg
namespace Go.Proofs.Ytbdmemjenpnjgaa
open Go.RowKit
set_option linter.unusedVariables false
set_option linter.unusedSimpArgs false
set_option maxRecDepth 8000

open Go.Shelf
abbrev v32 (n : Int) : Value := .int .u32 n
abbrev ntA (n : Nt) : Array Value := #[vI n.kind, vI n.core, vU n.addr, v32 n.word]
abbrev ntV (n : Nt) : Value := .agg (ntA n)
/-- The numbers of a note are of their kinds. -/
structure NtOk (n : Nt) : Prop where
  kind : -9223372036854775808 ≤ n.kind ∧ n.kind < 9223372036854775808
  core : -9223372036854775808 ≤ n.core ∧ n.core < 9223372036854775808
  addr : n.addr < 18446744073709551616
  word : n.word < 4294967296
/-- A note in a block of its own. -/
def LocN (t : Nat) (n : Nt) (w : World) : Prop := w.heap[t]? = some (.cells (ntA n) 34)
theorem LocN.lt {t : Nat} {n : Nt} {w : World} (h : LocN t n w) : t < w.heap.size := lt_of_some h
theorem LocN.grow {t : Nat} {n : Nt} {w w' : World} (h : LocN t n w) (hb : Below w.heap.size w w') : LocN t n w' := by unfold LocN; rw [hb.block _ h.lt]; exact h
theorem LocN.cell {t : Nat} {n : Nt} {w : World} (h : LocN t n w) (j : Nat) : w.cell? ⟨t, j, none⟩ = (ntA n)[j]? := by rw [cell_of_row _ _ _ _ _ _ h]
theorem LocN.c0 {t : Nat} {n : Nt} {w : World} (h : LocN t n w) : w.cell? ⟨t, 0, none⟩ = some (vI n.kind) := h.cell 0
theorem LocN.c1 {t : Nat} {n : Nt} {w : World} (h : LocN t n w) : w.cell? ⟨t, 1, none⟩ = some (vI n.core) := h.cell 1
theorem LocN.c2 {t : Nat} {n : Nt} {w : World} (h : LocN t n w) : w.cell? ⟨t, 2, none⟩ = some (vU n.addr) := h.cell 2
theorem LocN.c3 {t : Nat} {n : Nt} {w : World} (h : LocN t n w) : w.cell? ⟨t, 3, none⟩ = some (v32 n.word) := h.cell 3
theorem LocN.new (w : World) (n : Nt) : LocN w.heap.size n (w.alloc (.cells (ntA n) 34)) := World.alloc_heap_new w _
theorem isCore_c (c : Int) (w : World) : Calls Try.prog 24 #[vI c] w fun e w' => e = .returned (.bool (coreB c)) ∧ w' = w := by
  unfold coreB
  by_cases h : 0 ≤ c
  · go_enter Try.func24, Try.ntmps24
    go_wp2
    go_ret
    exact ⟨by simp [h] <;> omega, rfl⟩
  · go_enter Try.func24, Try.ntmps24
    go_wp2
    go_ret
    exact ⟨by simp [h] <;> omega, rfl⟩
theorem low6 {X : Nat} (h : X < 18446744073709551616) : X &&& (18446744073709551616 - (63 + 1)) = X - X % 64 := by
  have e2 : X - X % 64 = 2 ^ 6 * (X / 2 ^ 6) := by omega
  have e1 : 18446744073709551616 - (63 + 1) = 2 ^ 6 * (2 ^ 58 - 1) := by decide
  rw [e1, e2]
  apply Nat.eq_of_testBit_eq
  intro i
  rw [Nat.testBit_and, Nat.testBit_two_pow_mul, Nat.testBit_two_pow_sub_one, Nat.testBit_two_pow_mul, Nat.testBit_div_two_pow]
  by_cases h6 : 6 ≤ i
  · by_cases h64 : i < 64
    · simp [h6, show i - 6 < 58 by omega]
    · have hf : X.testBit i = false := Nat.testBit_lt_two_pow (Nat.lt_of_lt_of_le h (by
        have := Nat.pow_le_pow_right (n := 2) (by decide) (show 64 ≤ i by omega)
        omega))
      simp [h6, hf]
  · simp [h6]
theorem bv64 (a : Nat) (ha : a < 18446744073709551616) : (BitVec.ofInt 64 (a : Int)).toNat = a := by
  rw [BitVec.ofInt_natCast, BitVec.toNat_ofNat]; exact Nat.mod_eq_of_lt (by omega)
theorem andNot64 (a b : Nat) (ha : a < 18446744073709551616) (hb : b < 18446744073709551616) : bits .andNot .u64 (a : Int) (b : Int) = ((a &&& (18446744073709551616 - (b + 1)) : Nat) : Int) := by
  have hx : a &&& (18446744073709551616 - (b + 1)) < 2 ^ 64 := Nat.and_lt_two_pow _ (by omega)
  show IntKind.u64.wrap ((BitVec.ofInt 64 (a : Int) &&& ~~~ BitVec.ofInt 64 (b : Int)).toNat : Int) = _
  rw [BitVec.toNat_and, BitVec.toNat_not, bv64 a ha, bv64 b hb, IntKind.wrap_u64, show (2 : Nat) ^ 64 - 1 - b = 18446744073709551616 - (b + 1) by omega]
  omega
theorem line_bits {a : Nat} (ha : a < 18446744073709551616) : bits .andNot .u64 (a : Int) 63 = ((lineN a : Nat) : Int) := by
  rw [show (63 : Int) = ((63 : Nat) : Int) from rfl, andNot64 a 63 ha (by decide), low6 ha]
  unfold lineN
  omega
theorem neq_cast (n : Nat) : ((n : Int) != 0) = (n != 0) := by
  by_cases h : n = 0
  · subst h; rfl
  · rw [bne_iff_ne.2 h, bne_iff_ne.2 (by omega)]
theorem isOfWord_c (a : Nat) (ha : a < 18446744073709551616) (w : World) : Calls Try.prog 25 #[vU a] w fun e w' => e = .returned (.bool (ofWord a)) ∧ w' = w := by
  go_enter Try.func25, Try.ntmps25
  go_wp2
  go_ret
  refine ⟨?_, rfl⟩
  have h : ((a : Int) % 4 == 0) = ofWord a := by
    unfold ofWord
    by_cases h : a % 4 = 0
    · rw [beq_iff_eq.2 h, beq_iff_eq.2 (by omega)]
    · rw [beq_eq_false_iff_ne.2 h, beq_eq_false_iff_ne.2 (by omega)]
  rw [← h]
  rfl
theorem line_c (a : Nat) (ha : a < 18446744073709551616) (w : World) : Calls Try.prog 37 #[vU a] w fun e w' => e = .returned (vU (lineN a)) ∧ w' = w := by
  go_enter Try.func37, Try.ntmps37
  go_wp2
  go_ret
  refine ⟨?_, rfl⟩
  rw [← line_bits ha]
  rfl
theorem nan_c (a : Int) (w : World) : Calls Try.prog 47 #[vI a] w fun e w' => e = .returned (.bool false) ∧ w' = w := by
  go_enter Try.func47, Try.ntmps47
  go_wp2
  go_ret
  exact ⟨by simp, rfl⟩
theorem nan2_c (a : Int) (w : World) : Calls Try.prog 46 #[vI a] w fun e w' => e = .returned (.bool false) ∧ w' = w := by
  go_enter Try.func46, Try.ntmps46
  go_wp2
  go_ret
  exact ⟨by simp, rfl⟩
theorem less_c (a b : Int) (w : World) : Calls Try.prog 45 #[vI a, vI b] w fun e w' => e = .returned (.bool (decide (a < b))) ∧ w' = w := by
  have k1 := nan_c a w
  go_enter Try.func45, Try.ntmps45
  go_wp2_with (first | (go_at_call 47; with_reducible refine k1.mono ?_; clear k1; rintro e w ⟨rfl, rfl⟩; dsimp only))
  go_ret
  exact ⟨by simp, rfl⟩
theorem isWrong_c (n : Nt) (ok : NtOk n) (w : World) : Calls Try.prog 34 #[ntV n] w fun e w' => e = .returned (.bool (wrongB n)) ∧ Below w.heap.size w w' := by
  have k1 := isOfWord_c n.addr ok.addr
  have k2 := isCore_c n.core
  obtain ⟨kind, core, addr, word⟩ := n
  have hw := ok.word
  have ha := ok.addr
  clear ok
  unfold wrongB
  dsimp only at *
  by_cases h1 : kind = 1
  · subst h1
    by_cases h_core : core = 0
    · subst h_core
      go_enter Try.func34, Try.ntmps34
      go_wp2_with (first | (go_at_call 24; with_reducible refine (k2 _).mono ?_; clear k2; rintro e w ⟨rfl, rfl⟩; dsimp only; try rw [hcb]) | (go_at_call 25; with_reducible refine (k1 _).mono ?_; clear k1; rintro e w ⟨rfl, rfl⟩; dsimp only))
      go_ret
      exact ⟨by simp_all [neq_cast], below_alloc _ _⟩
    · have g_core : ((core : Int) == 0) = false := beq_eq_false_iff_ne.2 (by omega)
      go_enter Try.func34, Try.ntmps34
      go_wp2_with (first | (go_at_call 24; with_reducible refine (k2 _).mono ?_; clear k2; rintro e w ⟨rfl, rfl⟩; dsimp only; try rw [hcb]) | (go_at_call 25; with_reducible refine (k1 _).mono ?_; clear k1; rintro e w ⟨rfl, rfl⟩; dsimp only))
      go_ret
      exact ⟨by simp_all [neq_cast], below_alloc _ _⟩
  · have g1 : (kind == 1) = false := beq_eq_false_iff_ne.2 h1
    by_cases h2 : kind = 2
    · subst h2
      by_cases h_core : core = 0
      · subst h_core
        by_cases h_word : word = 0
        · subst h_word
          go_enter Try.func34, Try.ntmps34
          go_wp2_with (first | (go_at_call 24; with_reducible refine (k2 _).mono ?_; clear k2; rintro e w ⟨rfl, rfl⟩; dsimp only; try rw [hcb]) | (go_at_call 25; with_reducible refine (k1 _).mono ?_; clear k1; rintro e w ⟨rfl, rfl⟩; dsimp only))
          go_ret
          exact ⟨by simp_all [neq_cast], below_alloc _ _⟩
        · have g_word : ((word : Int) == 0) = false := beq_eq_false_iff_ne.2 (by omega)
          go_enter Try.func34, Try.ntmps34
          go_wp2_with (first | (go_at_call 24; with_reducible refine (k2 _).mono ?_; clear k2; rintro e w ⟨rfl, rfl⟩; dsimp only; try rw [hcb]) | (go_at_call 25; with_reducible refine (k1 _).mono ?_; clear k1; rintro e w ⟨rfl, rfl⟩; dsimp only))
          go_ret
          exact ⟨by simp_all [neq_cast], below_alloc _ _⟩
      · have g_core : ((core : Int) == 0) = false := beq_eq_false_iff_ne.2 (by omega)
        go_enter Try.func34, Try.ntmps34
        go_wp2_with (first | (go_at_call 24; with_reducible refine (k2 _).mono ?_; clear k2; rintro e w ⟨rfl, rfl⟩; dsimp only; try rw [hcb]) | (go_at_call 25; with_reducible refine (k1 _).mono ?_; clear k1; rintro e w ⟨rfl, rfl⟩; dsimp only))
        go_ret
        exact ⟨by simp_all [neq_cast], below_alloc _ _⟩
    · have g2 : (kind == 2) = false := beq_eq_false_iff_ne.2 h2
      by_cases h3 : kind = 3
      · subst h3
        by_cases h_core : core = 0
        · subst h_core
          by_cases h_addr : addr = 0
          · subst h_addr
            by_cases h_word : word = 0
            · subst h_word
              go_enter Try.func34, Try.ntmps34
              go_wp2_with (first | (go_at_call 24; with_reducible refine (k2 _).mono ?_; clear k2; rintro e w ⟨rfl, rfl⟩; dsimp only; try rw [hcb]) | (go_at_call 25; with_reducible refine (k1 _).mono ?_; clear k1; rintro e w ⟨rfl, rfl⟩; dsimp only))
              go_ret
              exact ⟨by simp_all [neq_cast], below_alloc _ _⟩
            · have g_word : ((word : Int) == 0) = false := beq_eq_false_iff_ne.2 (by omega)
              go_enter Try.func34, Try.ntmps34
              go_wp2_with (first | (go_at_call 24; with_reducible refine (k2 _).mono ?_; clear k2; rintro e w ⟨rfl, rfl⟩; dsimp only; try rw [hcb]) | (go_at_call 25; with_reducible refine (k1 _).mono ?_; clear k1; rintro e w ⟨rfl, rfl⟩; dsimp only))
              go_ret
              exact ⟨by simp_all [neq_cast], below_alloc _ _⟩
          · have g_addr : ((addr : Int) == 0) = false := beq_eq_false_iff_ne.2 (by omega)
            go_enter Try.func34, Try.ntmps34
            go_wp2_with (first | (go_at_call 24; with_reducible refine (k2 _).mono ?_; clear k2; rintro e w ⟨rfl, rfl⟩; dsimp only; try rw [hcb]) | (go_at_call 25; with_reducible refine (k1 _).mono ?_; clear k1; rintro e w ⟨rfl, rfl⟩; dsimp only))
            go_ret
            exact ⟨by simp_all [neq_cast], below_alloc _ _⟩
        · have g_core : ((core : Int) == 0) = false := beq_eq_false_iff_ne.2 (by omega)
          go_enter Try.func34, Try.ntmps34
          go_wp2_with (first | (go_at_call 24; with_reducible refine (k2 _).mono ?_; clear k2; rintro e w ⟨rfl, rfl⟩; dsimp only; try rw [hcb]) | (go_at_call 25; with_reducible refine (k1 _).mono ?_; clear k1; rintro e w ⟨rfl, rfl⟩; dsimp only))
          go_ret
          exact ⟨by simp_all [neq_cast], below_alloc _ _⟩
      · have g3 : (kind == 3) = false := beq_eq_false_iff_ne.2 h3
        by_cases h4 : kind = 4
        · subst h4
          cases hcb : coreB core with
          | false =>
            rw [hcb] at k2
            go_enter Try.func34, Try.ntmps34
            go_wp2_with (first | (go_at_call 24; with_reducible refine (k2 _).mono ?_; clear k2; rintro e w ⟨rfl, rfl⟩; dsimp only; try rw [hcb]) | (go_at_call 25; with_reducible refine (k1 _).mono ?_; clear k1; rintro e w ⟨rfl, rfl⟩; dsimp only))
            go_ret
            exact ⟨by simp_all [neq_cast], below_alloc _ _⟩
          | true =>
            rw [hcb] at k2
            by_cases h_addr : addr = 0
            · subst h_addr
              by_cases h_word : word = 0
              · subst h_word
                go_enter Try.func34, Try.ntmps34
                go_wp2_with (first | (go_at_call 24; with_reducible refine (k2 _).mono ?_; clear k2; rintro e w ⟨rfl, rfl⟩; dsimp only; try rw [hcb]) | (go_at_call 25; with_reducible refine (k1 _).mono ?_; clear k1; rintro e w ⟨rfl, rfl⟩; dsimp only))
                go_ret
                exact ⟨by simp_all [neq_cast], below_alloc _ _⟩
              · have g_word : ((word : Int) == 0) = false := beq_eq_false_iff_ne.2 (by omega)
                go_enter Try.func34, Try.ntmps34
                go_wp2_with (first | (go_at_call 24; with_reducible refine (k2 _).mono ?_; clear k2; rintro e w ⟨rfl, rfl⟩; dsimp only; try rw [hcb]) | (go_at_call 25; with_reducible refine (k1 _).mono ?_; clear k1; rintro e w ⟨rfl, rfl⟩; dsimp only))
                go_ret
                exact ⟨by simp_all [neq_cast], below_alloc _ _⟩
            · have g_addr : ((addr : Int) == 0) = false := beq_eq_false_iff_ne.2 (by omega)
              go_enter Try.func34, Try.ntmps34
              go_wp2_with (first | (go_at_call 24; with_reducible refine (k2 _).mono ?_; clear k2; rintro e w ⟨rfl, rfl⟩; dsimp only; try rw [hcb]) | (go_at_call 25; with_reducible refine (k1 _).mono ?_; clear k1; rintro e w ⟨rfl, rfl⟩; dsimp only))
              go_ret
              exact ⟨by simp_all [neq_cast], below_alloc _ _⟩
        · have g4 : (kind == 4) = false := beq_eq_false_iff_ne.2 h4
          by_cases h5 : kind = 5
          · subst h5
            cases hcb : coreB core with
            | false =>
              rw [hcb] at k2
              go_enter Try.func34, Try.ntmps34
              go_wp2_with (first | (go_at_call 24; with_reducible refine (k2 _).mono ?_; clear k2; rintro e w ⟨rfl, rfl⟩; dsimp only; try rw [hcb]) | (go_at_call 25; with_reducible refine (k1 _).mono ?_; clear k1; rintro e w ⟨rfl, rfl⟩; dsimp only))
              go_ret
              exact ⟨by simp_all [neq_cast], below_alloc _ _⟩
            | true =>
              rw [hcb] at k2
              go_enter Try.func34, Try.ntmps34
              go_wp2_with (first | (go_at_call 24; with_reducible refine (k2 _).mono ?_; clear k2; rintro e w ⟨rfl, rfl⟩; dsimp only; try rw [hcb]) | (go_at_call 25; with_reducible refine (k1 _).mono ?_; clear k1; rintro e w ⟨rfl, rfl⟩; dsimp only))
              go_ret
              exact ⟨by simp_all [neq_cast], below_alloc _ _⟩
          · have g5 : (kind == 5) = false := beq_eq_false_iff_ne.2 h5
            go_enter Try.func34, Try.ntmps34
            go_wp2_with (first | (go_at_call 24; with_reducible refine (k2 _).mono ?_; clear k2; rintro e w ⟨rfl, rfl⟩; dsimp only; try rw [hcb]) | (go_at_call 25; with_reducible refine (k1 _).mono ?_; clear k1; rintro e w ⟨rfl, rfl⟩; dsimp only))
            go_ret
            exact ⟨by simp_all [neq_cast], below_alloc _ _⟩
end Go.Proofs.Ytbdmemjenpnjgaa
