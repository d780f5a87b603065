/- The small functions of the document's own answers to chapters 2 and 3: contracts. -/
import Derived.Test.YtcmilajlngnibaaK01
import Derived.Test.YtcmilajlngnibaaK11
namespace Go.Proofs.Ytcmilajlngnibaa
open Go.RowKit

/-- The lowest bits of a number. -/
def lowE (n : Int) (m : Nat) : Int := (((n % 4294967296).toNat % 2 ^ m : Nat) : Int)
theorem lowE_in (n : Int) (m : Nat) : 0 ≤ lowE n m ∧ lowE n m < ((2 ^ m : Nat) : Int) := by
  unfold lowE
  have := Nat.mod_lt (n % 4294967296).toNat (Nat.two_pow_pos m)
  omega
theorem pow_u32 {m : Nat} (hm : m ≤ 32) : ((2 : Int) ^ m - 1) % 4294967296 = ((2 ^ m - 1 : Nat) : Int) := by
  have h : (2 : Nat) ^ m ≤ 4294967296 := show 2 ^ m ≤ 2 ^ 32 from Nat.pow_le_pow_right (by decide) hm
  have p := Nat.two_pow_pos m
  have hc : ((2 ^ m : Nat) : Int) = (2 : Int) ^ m := by simp
  rw [← hc]
  generalize 2 ^ m = q at *
  omega
theorem pow_lt_u32 {m : Nat} (hm : m ≤ 32) : 2 ^ m - 1 < 4294967296 := by
  have h : (2 : Nat) ^ m ≤ 4294967296 := show 2 ^ m ≤ 2 ^ 32 from Nat.pow_le_pow_right (by decide) hm
  have p := Nat.two_pow_pos m
  omega
theorem low_and {x : Int} (h0 : 0 ≤ x) (h1 : x < 4294967296) {m : Nat} (hm : m ≤ 32) : bits .and .u32 x (((2 : Int) ^ m - 1) % 4294967296) = ((x.toNat % 2 ^ m : Nat) : Int) := by
  rw [pow_u32 hm]
  have := and32 x.toNat (2 ^ m - 1) (by omega) (pow_lt_u32 hm)
  rw [Int.toNat_of_nonneg h0] at this
  rw [this, Nat.and_two_pow_sub_one_eq_mod]
theorem rlow_walk (n : Int) {m : Nat} (hm : m ≤ 32) : bits .and .u32 (IntKind.u64.wrap n % 4294967296) (((2 : Int) ^ m - 1) % 4294967296) = lowE n m := by
  have e : IntKind.u64.wrap n % 4294967296 = n % 4294967296 := by
    rw [show IntKind.u64.wrap n = n % 18446744073709551616 from rfl]; omega
  rw [e, low_and (by omega) (by omega) hm]; rfl

set_option maxHeartbeats 400000 in
theorem rlow_c (n : Int) (m : Nat) (hm : m ≤ 32) (w : World) :
    Calls Try.prog 21 #[vI n, vI m] w fun e w' => e = .returned (.int .u32 (lowE n m)) ∧ w' = w := by
  go_enter Try.func21, Try.ntmps21
  go_wp2
  go_ret
  exact ⟨ret_int (rlow_walk n hm), rfl⟩
theorem when_c (b : Bool) (x : Int) (w : World) :
    Calls Try.prog 22 #[.bool b, .int .u32 x] w fun e w' => e = .returned (.int .u32 (bif b then x else 0)) ∧ w' = w := by
  cases b
  all_goals
    go_enter Try.func22, Try.ntmps22
    go_wp2
    go_ret
    exact ⟨rfl, rfl⟩
def inB (n lo hi : Int) : Bool := decide (lo ≤ n) && decide (n ≤ hi)
theorem in_c (n lo hi : Int) (w : World) :
    Calls Try.prog 58 #[vI n, vI lo, vI hi] w fun e w' => e = .returned (.bool (inB n lo hi)) ∧ w' = w := by
  go_enter Try.func58, Try.ntmps58
  go_wp2
  · go_ret
    refine ⟨ret_bool ?_, rfl⟩
    unfold inB; rw [decide_eq_true (p := lo ≤ n) (by assumption), Bool.true_and]
  · go_ret
    refine ⟨ret_bool ?_, rfl⟩
    unfold inB; rw [decide_eq_false (p := lo ≤ n) (by omega), Bool.false_and]
def stepB (n u lo hi : Int) : Bool := n.tmod u == 0 && decide (lo ≤ n) && decide (n ≤ hi)
theorem step_c (n u lo hi : Int) (hu : 2 ≤ u) (w : World) :
    Calls Try.prog 60 #[vI n, vI u, vI lo, vI hi] w fun e w' => e = .returned (.bool (stepB n u lo hi)) ∧ w' = w := by
  go_enter Try.func60, Try.ntmps60
  go_wp2
  · go_ret
    refine ⟨ret_bool ?_, rfl⟩
    unfold stepB; rw [beq_iff_eq.2 (by assumption), decide_eq_true (p := lo ≤ n) (by assumption), Bool.true_and, Bool.true_and]
  · go_ret
    refine ⟨ret_bool ?_, rfl⟩
    unfold stepB; rw [decide_eq_false (p := lo ≤ n) (by omega), Bool.and_false, Bool.false_and]
  · go_ret
    refine ⟨ret_bool ?_, rfl⟩
    unfold stepB; rw [beq_eq_false_iff_ne.2 (by assumption), Bool.false_and, Bool.false_and]
/-- Some bits of a word. -/
def partE (x : Int) (a m : Nat) : Int := ((x.toNat / 2 ^ a % 2 ^ m : Nat) : Int)
theorem partE_in (x : Int) (a m : Nat) : 0 ≤ partE x a m ∧ partE x a m < ((2 ^ m : Nat) : Int) := by
  unfold partE
  have := Nat.mod_lt (x.toNat / 2 ^ a) (Nat.two_pow_pos m)
  omega
theorem part_walk {x : Int} (h0 : 0 ≤ x) (h1 : x < 4294967296) (a : Nat) {m : Nat} (hm : m ≤ 32) : wrap64 (bits .and .u32 (x / 2 ^ a) (((2 : Int) ^ m - 1) % 4294967296)) = partE x a m := by
  obtain ⟨X, rfl⟩ := Int.eq_ofNat_of_zero_le h0
  have e : (X : Int) / 2 ^ a = ((X / 2 ^ a : Nat) : Int) := by simp
  have hl : X / 2 ^ a ≤ X := Nat.div_le_self _ _
  have hr : X / 2 ^ a % 2 ^ m ≤ X / 2 ^ a := Nat.mod_le _ _
  rw [e, low_and (by omega) (by omega) hm]
  unfold partE wrap64
  simp only [Int.toNat_natCast]
  omega
theorem part_c (x : Int) (a m : Nat) (hx : Hid (0 ≤ x ∧ x < 4294967296)) (ha : a ≤ 31) (hm : m ≤ 32) (w : World) :
    Calls Try.prog 16 #[.int .u32 x, vI a, vI m] w fun e w' => e = .returned (vI (partE x a m)) ∧ ∃ n, w' = w.drewN n := by
  go_enter Try.func16, Try.ntmps16
  go_wp2
  go_quiet (fail)
  go_wp2
  go_ret
  exact ⟨ret_int (part_walk hx.out.1 hx.out.2 a hm), _, rfl⟩
/-- A number of so many bits, the highest one its sign. -/
def sgE (n : Int) (m : Nat) : Int := if n < ((2 ^ (m - 1) : Nat) : Int) then n else n - ((2 ^ m : Nat) : Int)
theorem sgE14 (n : Int) : sgE n 14 = if n < 8192 then n else n - 16384 := rfl
theorem sgE19 (n : Int) : sgE n 19 = if n < 262144 then n else n - 524288 := rfl
theorem sgE26 (n : Int) : sgE n 26 = if n < 33554432 then n else n - 67108864 := rfl
theorem rsigned14_c (x : Int) (a : Nat) (hx : Hid (0 ≤ x ∧ x < 4294967296)) (ha : a ≤ 31) (w : World) :
    Calls Try.prog 17 #[.int .u32 x, vI a, vI 14] w fun e w' => e = .returned (vI (sgE (partE x a 14) 14)) ∧ ∃ n, w' = w.drewN n := by
  have hp : 0 ≤ partE x a 14 ∧ partE x a 14 < 16384 := partE_in x a 14
  rw [sgE14]
  generalize hP : partE x a 14 = p at *
  replace hP := show Hid _ from hP
  go_enter Try.func17, Try.ntmps17
  go_wp2_with (go_at_call 16; refine (part_c _ _ 14 hx ha (by decide) _).mono ?_; rw [hP.out]; rintro e w' ⟨rfl, nn, rfl⟩)
  all_goals (go_ret; exact ⟨rfl, _, rfl⟩)
theorem rsigned19_c (x : Int) (a : Nat) (hx : Hid (0 ≤ x ∧ x < 4294967296)) (ha : a ≤ 31) (w : World) :
    Calls Try.prog 17 #[.int .u32 x, vI a, vI 19] w fun e w' => e = .returned (vI (sgE (partE x a 19) 19)) ∧ ∃ n, w' = w.drewN n := by
  have hp : 0 ≤ partE x a 19 ∧ partE x a 19 < 524288 := partE_in x a 19
  rw [sgE19]
  generalize hP : partE x a 19 = p at *
  replace hP := show Hid _ from hP
  go_enter Try.func17, Try.ntmps17
  go_wp2_with (go_at_call 16; refine (part_c _ _ 19 hx ha (by decide) _).mono ?_; rw [hP.out]; rintro e w' ⟨rfl, nn, rfl⟩)
  all_goals (go_ret; exact ⟨rfl, _, rfl⟩)
theorem rsigned26_c (x : Int) (a : Nat) (hx : Hid (0 ≤ x ∧ x < 4294967296)) (ha : a ≤ 31) (w : World) :
    Calls Try.prog 17 #[.int .u32 x, vI a, vI 26] w fun e w' => e = .returned (vI (sgE (partE x a 26) 26)) ∧ ∃ n, w' = w.drewN n := by
  have hp : 0 ≤ partE x a 26 ∧ partE x a 26 < 67108864 := partE_in x a 26
  rw [sgE26]
  generalize hP : partE x a 26 = p at *
  replace hP := show Hid _ from hP
  go_enter Try.func17, Try.ntmps17
  go_wp2_with (go_at_call 16; refine (part_c _ _ 26 hx ha (by decide) _).mono ?_; rw [hP.out]; rintro e w' ⟨rfl, nn, rfl⟩)
  all_goals (go_ret; exact ⟨rfl, _, rfl⟩)
end Go.Proofs.Ytcmilajlngnibaa
/- Which fields an Op has, as the document's own answer to chapter 2 tells it: contracts. -/
namespace Go.Proofs.Ytcmilajlngnibaa
open Go.RowKit Go.Rel

def hasB (s : ByteArray) (b : Int) : Bool := s.data.toList.any fun x => ((x.toNat : Nat) : Int) == b
theorem hasB_yes {s : ByteArray} {b : Int} {k : Nat} (h : k < s.size) (e : (((s[k].toNat : Nat) : Int) == b) = true) : hasB s b = true :=
  List.any_eq_true.2 ⟨s[k], by show s.data[k]'h ∈ s.data.toList; simp, e⟩
theorem hasB_no {s : ByteArray} {b : Int} (h : ∀ (j : Nat) (hj : j < s.size), (((s[j].toNat : Nat) : Int) == b) = false) : hasB s b = false := by
  refine List.any_eq_false.2 fun x hx => ?_
  obtain ⟨j, hj, rfl⟩ := List.mem_iff_getElem.1 hx
  have hj' : j < s.size := by simpa using hj
  have := h j hj'
  rw [Bool.not_eq_true]
  exact this
set_option maxHeartbeats 400000 in
theorem rhas_c (s : ByteArray) (b : Int) (hs : s.size ≤ 100) (w : World) :
    Calls Try.prog 81 #[.string s, .int .u8 b] w fun e w' => e = .returned (.bool (hasB s b)) ∧ w' = w := by
  go_enter Try.func81, Try.ntmps81
  go_wp2
  go_loop [5] (fun z => ∃ k : Nat, k ≤ s.size ∧ Hid (∀ (j : Nat) (hj : j < s.size), j < k → (((s[j].toNat : Nat) : Int) == b) = false) ∧ z = .int .i64 k) (fun z => s.size - (intOf z).toNat)
  case atStart => exact ⟨0, Nat.zero_le _, fun j _ h => absurd h (Nat.not_lt_zero j), rfl⟩
  case round =>
    obtain ⟨k, hk, hn, rfl⟩ := hrel
    by_cases hlt : k < s.size
    · cases hb : (((s[k].toNat : Nat) : Int) == b)
      · go_wp2
        go_round
        case rel => exact ⟨k + 1, by omega, fun j hj h => (Nat.lt_succ_iff_lt_or_eq.1 h).elim (hn.out j hj) (fun e => by subst e; exact hb), by go_num⟩
        case measure => simp [intOf]; omega
      · have hy := hasB_yes hlt hb
        replace hy := show Hid _ from hy
        go_wp2
        go_ret
        exact ⟨ret_bool hy.out.symm, rfl⟩
    · have hy : Hid (hasB s b = false) := hasB_no fun j hj => hn.out j hj (by omega)
      go_wp2
      go_ret
      exact ⟨ret_bool hy.out.symm, rfl⟩
def shapeS (op : Int) : ByteArray :=
  bif op == 1 then ⟨#[100, 110, 105, 107, 70, 77]⟩ else
  bif op == 2 then ⟨#[100, 110, 109, 116, 107, 70, 77]⟩ else
  bif op == 3 then ⟨#[100, 110, 109, 115, 116, 107, 70, 78]⟩ else
  bif op == 4 then ⟨#[100, 110, 115, 107, 105, 106, 70]⟩ else
  bif op == 5 then ⟨#[100, 115, 105, 107]⟩ else
  bif op == 6 then ⟨#[100, 110, 115, 105, 106]⟩ else
  bif op == 7 || op == 9 then ⟨#[100, 110, 109, 115]⟩ else
  bif op == 8 then ⟨#[100, 110, 109, 97, 77]⟩ else
  bif op == 10 then ⟨#[100, 110, 109, 115, 99]⟩ else
  bif op == 11 then ⟨#[100, 115, 105]⟩ else
  bif op == 12 then ⟨#[105, 76]⟩ else
  bif op == 13 then ⟨#[99, 105]⟩ else
  bif op == 14 then ⟨#[100, 105, 78]⟩ else
  bif op == 15 then ⟨#[100, 105, 107, 78]⟩ else
  bif op == 16 then ⟨#[110, 115]⟩ else
  bif op == 17 || op == 18 then ⟨#[100, 110, 105]⟩ else
  bif op == 19 || op == 20 then ⟨#[100, 110, 109, 107]⟩ else
  bif op == 21 || op == 23 then ⟨#[100, 110, 115]⟩ else
  bif op == 22 then ⟨#[100, 110]⟩ else
  bif op == 24 then ⟨#[100, 110, 109, 115]⟩ else
  bif op == 25 || op == 27 || op == 29 || op == 36 then ⟨#[45]⟩ else
  bif op == 26 || op == 33 then ⟨#[115, 105]⟩ else
  bif op == 28 || op == 30 then ⟨#[100]⟩ else
  bif op == 31 || op == 32 then ⟨#[100, 121]⟩ else
  bif op == 34 || op == 35 || op == 37 then ⟨#[105]⟩ else
  ⟨#[]⟩

set_option maxRecDepth 4000 in
set_option maxHeartbeats 4000000 in
theorem shape_c (op : Int) (w : World) :
    Calls Try.prog 80 #[vI op] w fun e w' => e = .returned (.string (shapeS op)) ∧ w' = w := by
  go_enter Try.func80, Try.ntmps80
  go_wp2
  all_goals (go_ret; refine ⟨congrArg (fun x => Ending.returned (Value.string x)) ?_, rfl⟩; simp only [shapeS, cond_true, cond_false, Bool.or_true, Bool.true_or, Bool.or_false, *])
def sysL : List Int := [17920, 16897, 16896, 17040, 17152, 16904, 16389, 16914, 23057, 23056, 24194, 18016, 18017, 16944, 18013, 24322, 24345, 24346]
theorem sys_cells (w : World) : ∀ k, k < 18 → (w.alloc (.cells #[vI 17920, vI 16897, vI 16896, vI 17040, vI 17152, vI 16904, vI 16389, vI 16914, vI 23057, vI 23056, vI 24194, vI 18016, vI 18017, vI 16944, vI 18013, vI 24322, vI 24345, vI 24346] 3)).cell? ⟨w.heap.size, k, none⟩ = some (vI (sysL.getD k 0)) := by
  intro k hk
  rw [World.cell?_alloc_new]
  rcases (by omega : k = 0 ∨ k = 1 ∨ k = 2 ∨ k = 3 ∨ k = 4 ∨ k = 5 ∨ k = 6 ∨ k = 7 ∨ k = 8 ∨ k = 9 ∨ k = 10 ∨ k = 11 ∨ k = 12 ∨ k = 13 ∨ k = 14 ∨ k = 15 ∨ k = 16 ∨ k = 17) with rfl | rfl | rfl | rfl | rfl | rfl | rfl | rfl | rfl | rfl | rfl | rfl | rfl | rfl | rfl | rfl | rfl | rfl <;> rfl
theorem sysB_yes {n : Int} {k : Nat} (hk : k < 18) (h : (sysL.getD k 0 == n) = true) : sysB n = true := by
  obtain rfl := eq_of_beq h
  rcases (by omega : k = 0 ∨ k = 1 ∨ k = 2 ∨ k = 3 ∨ k = 4 ∨ k = 5 ∨ k = 6 ∨ k = 7 ∨ k = 8 ∨ k = 9 ∨ k = 10 ∨ k = 11 ∨ k = 12 ∨ k = 13 ∨ k = 14 ∨ k = 15 ∨ k = 16 ∨ k = 17) with rfl | rfl | rfl | rfl | rfl | rfl | rfl | rfl | rfl | rfl | rfl | rfl | rfl | rfl | rfl | rfl | rfl | rfl <;> rfl
theorem sysB_no {n : Int} (h : ∀ j, j < 18 → (sysL.getD j 0 == n) = false) : sysB n = false := by
  cases hb : sysB n
  · rfl
  · simp only [sysB, Bool.or_eq_true, beq_iff_eq, or_assoc] at hb
    rcases hb with rfl | rfl | rfl | rfl | rfl | rfl | rfl | rfl | rfl | rfl | rfl | rfl | rfl | rfl | rfl | rfl | rfl | rfl
    · exact h 0 (by decide)
    · exact h 1 (by decide)
    · exact h 2 (by decide)
    · exact h 3 (by decide)
    · exact h 4 (by decide)
    · exact h 5 (by decide)
    · exact h 6 (by decide)
    · exact h 7 (by decide)
    · exact h 8 (by decide)
    · exact h 9 (by decide)
    · exact h 10 (by decide)
    · exact h 11 (by decide)
    · exact h 12 (by decide)
    · exact h 13 (by decide)
    · exact h 14 (by decide)
    · exact h 15 (by decide)
    · exact h 16 (by decide)
    · exact h 17 (by decide)
set_option maxRecDepth 4000 in
set_option maxHeartbeats 4000000 in
theorem rsys_c (n : Int) (w : World) :
    Calls Try.prog 61 #[vI n] w fun e w' => e = .returned (.bool (sysB n)) ∧ Below w.heap.size w w' := by
  have hC := sys_cells w
  replace hC := show Hid _ from hC
  have hB := below_alloc w (.cells #[vI 17920, vI 16897, vI 16896, vI 17040, vI 17152, vI 16904, vI 16389, vI 16914, vI 23057, vI 23056, vI 24194, vI 18016, vI 18017, vI 16944, vI 18013, vI 24322, vI 24345, vI 24346] 3)
  replace hB := show Hid _ from hB
  go_enter Try.func61, Try.ntmps61
  go_wp2
  generalize w.alloc _ = w1 at hC hB ⊢
  go_loop [4] (fun z => ∃ k : Nat, k ≤ 18 ∧ Hid (∀ j, j < k → (sysL.getD j 0 == n) = false) ∧ z = .int .i64 k) (fun z => 18 - (intOf z).toNat)
  case atStart => exact ⟨0, Nat.zero_le _, fun j h => absurd h (Nat.not_lt_zero j), rfl⟩
  case round =>
    obtain ⟨k, hk, hn, rfl⟩ := hrel
    by_cases hlt : k < 18
    · have hc := hC.out k hlt
      generalize hL : sysL.getD k 0 = v at hc
      replace hL := show Hid _ from hL
      cases hb : (v == n)
      · go_wp2
        go_round
        case rel => exact ⟨k + 1, by omega, fun j h => (Nat.lt_succ_iff_lt_or_eq.1 h).elim (hn.out j) (fun e => by subst e; rw [hL.out]; exact hb), by go_num⟩
        case measure => simp [intOf]; omega
      · have hy : Hid (sysB n = true) := sysB_yes hlt (by rw [hL.out]; exact hb)
        go_wp2
        go_ret
        exact ⟨ret_bool hy.out.symm, hB.out⟩
    · have hy : Hid (sysB n = false) := sysB_no fun j hj => hn.out j (by omega)
      go_wp2
      go_ret
      exact ⟨ret_bool hy.out.symm, hB.out⟩
end Go.Proofs.Ytcmilajlngnibaa
