/- The small functions of the document's own answers to chapters 2 and 3: contracts. -/
import Derived.Test.YtbjcdpmhmebjnaaGreatB05
import Derived.Test.YtbjcdpmhmebjnaaGreatB01
import Derived.Test.YtbjcdpmhmebjnaaGreatB08
namespace Go.Proofs.YtbjcdpmhmebjnaaGreat
open Go.RowKit

/-- The lowest bits of a number. -/
def lowE (n : Int) (m : Nat) : Int := (((n % 4294967296).toNat % 2 ^ m : Nat) : Int)
theorem lowE_in (n : Int) (m : Nat) : 0 ≤ lowE n m ∧ lowE n m < ((2 ^ m : Nat) : Int) := by
  unfold lowE
  have := Nat.mod_lt (n % 4294967296).toNat (Nat.two_pow_pos m)
  omega
theorem pow_u32 {m : Nat} (hm : m ≤ 32) : ((2 : Int) ^ m - 1) % 4294967296 = ((2 ^ m - 1 : Nat) : Int) := by
  have h : (2 : Nat) ^ m ≤ 4294967296 := show 2 ^ m ≤ 2 ^ 32 from Nat.pow_le_pow_right (by decide) hm
  have p := Nat.two_pow_pos m
  have hc : ((2 ^ m : Nat) : Int) = (2 : Int) ^ m := by simp
  rw [← hc]
  generalize 2 ^ m = q at *
  omega
theorem pow_lt_u32 {m : Nat} (hm : m ≤ 32) : 2 ^ m - 1 < 4294967296 := by
  have h : (2 : Nat) ^ m ≤ 4294967296 := show 2 ^ m ≤ 2 ^ 32 from Nat.pow_le_pow_right (by decide) hm
  have p := Nat.two_pow_pos m
  omega
theorem low_and {x : Int} (h0 : 0 ≤ x) (h1 : x < 4294967296) {m : Nat} (hm : m ≤ 32) : bits .and .u32 x (((2 : Int) ^ m - 1) % 4294967296) = ((x.toNat % 2 ^ m : Nat) : Int) := by
  rw [pow_u32 hm]
  have := and32 x.toNat (2 ^ m - 1) (by omega) (pow_lt_u32 hm)
  rw [Int.toNat_of_nonneg h0] at this
  rw [this, Nat.and_two_pow_sub_one_eq_mod]
theorem rlow_walk (n : Int) {m : Nat} (hm : m ≤ 32) : bits .and .u32 (IntKind.u64.wrap n % 4294967296) (((2 : Int) ^ m - 1) % 4294967296) = lowE n m := by
  have e : IntKind.u64.wrap n % 4294967296 = n % 4294967296 := by
    rw [show IntKind.u64.wrap n = n % 18446744073709551616 from rfl]; omega
  rw [e, low_and (by omega) (by omega) hm]; rfl

set_option maxHeartbeats 400000 in
theorem rlow_c (n : Int) (m : Nat) (hm : m ≤ 32) (w : World) :
    Calls Tryz.prog 120 #[vI n, vI m] w fun e w' => e = .returned (.int .u32 (lowE n m)) ∧ w' = w := by
  go_enter Tryz.func120, Tryz.ntmps120
  go_wp2
  go_ret
  exact ⟨ret_int (rlow_walk n hm), rfl⟩
theorem when_c (b : Bool) (x : Int) (w : World) :
    Calls Tryz.prog 121 #[.bool b, .int .u32 x] w fun e w' => e = .returned (.int .u32 (bif b then x else 0)) ∧ w' = w := by
  cases b
  all_goals
    go_enter Tryz.func121, Tryz.ntmps121
    go_wp2
    go_ret
    exact ⟨rfl, rfl⟩
def inB (n lo hi : Int) : Bool := decide (lo ≤ n) && decide (n ≤ hi)
theorem in_c (n lo hi : Int) (w : World) :
    Calls Tryz.prog 188 #[vI n, vI lo, vI hi] w fun e w' => e = .returned (.bool (inB n lo hi)) ∧ w' = w := by
  go_enter Tryz.func188, Tryz.ntmps188
  go_wp2
  · go_ret
    refine ⟨ret_bool ?_, rfl⟩
    unfold inB; rw [decide_eq_true (p := lo ≤ n) (by assumption), Bool.true_and]
  · go_ret
    refine ⟨ret_bool ?_, rfl⟩
    unfold inB; rw [decide_eq_false (p := lo ≤ n) (by omega), Bool.false_and]
def stepB (n u lo hi : Int) : Bool := n.tmod u == 0 && decide (lo ≤ n) && decide (n ≤ hi)
theorem step_c (n u lo hi : Int) (hu : 2 ≤ u) (w : World) :
    Calls Tryz.prog 190 #[vI n, vI u, vI lo, vI hi] w fun e w' => e = .returned (.bool (stepB n u lo hi)) ∧ w' = w := by
  go_enter Tryz.func190, Tryz.ntmps190
  go_wp2
  · go_ret
    refine ⟨ret_bool ?_, rfl⟩
    unfold stepB; rw [beq_iff_eq.2 (by assumption), decide_eq_true (p := lo ≤ n) (by assumption), Bool.true_and, Bool.true_and]
  · go_ret
    refine ⟨ret_bool ?_, rfl⟩
    unfold stepB; rw [decide_eq_false (p := lo ≤ n) (by omega), Bool.and_false, Bool.false_and]
  · go_ret
    refine ⟨ret_bool ?_, rfl⟩
    unfold stepB; rw [beq_eq_false_iff_ne.2 (by assumption), Bool.false_and, Bool.false_and]
/-- Some bits of a word. -/
def partE (x : Int) (a m : Nat) : Int := ((x.toNat / 2 ^ a % 2 ^ m : Nat) : Int)
theorem partE_in (x : Int) (a m : Nat) : 0 ≤ partE x a m ∧ partE x a m < ((2 ^ m : Nat) : Int) := by
  unfold partE
  have := Nat.mod_lt (x.toNat / 2 ^ a) (Nat.two_pow_pos m)
  omega
theorem part_walk {x : Int} (h0 : 0 ≤ x) (h1 : x < 4294967296) (a : Nat) {m : Nat} (hm : m ≤ 32) : wrap64 (bits .and .u32 (x / 2 ^ a) (((2 : Int) ^ m - 1) % 4294967296)) = partE x a m := by
  obtain ⟨X, rfl⟩ := Int.eq_ofNat_of_zero_le h0
  have e : (X : Int) / 2 ^ a = ((X / 2 ^ a : Nat) : Int) := by simp
  have hl : X / 2 ^ a ≤ X := Nat.div_le_self _ _
  have hr : X / 2 ^ a % 2 ^ m ≤ X / 2 ^ a := Nat.mod_le _ _
  rw [e, low_and (by omega) (by omega) hm]
  unfold partE wrap64
  simp only [Int.toNat_natCast]
  omega
theorem part_c (x : Int) (a m : Nat) (hx : Hid (0 ≤ x ∧ x < 4294967296)) (ha : a ≤ 31) (hm : m ≤ 32) (w : World) :
    Calls Tryz.prog 45 #[.int .u32 x, vI a, vI m] w fun e w' => e = .returned (vI (partE x a m)) ∧ ∃ n, w' = w.drewN n := by
  go_enter Tryz.func45, Tryz.ntmps45
  go_wp2
  go_quiet (fail)
  go_wp2
  go_ret
  exact ⟨ret_int (part_walk hx.out.1 hx.out.2 a hm), _, rfl⟩
/-- A number of so many bits, the highest one its sign. -/
def sgE (n : Int) (m : Nat) : Int := if n < ((2 ^ (m - 1) : Nat) : Int) then n else n - ((2 ^ m : Nat) : Int)
theorem sgE14 (n : Int) : sgE n 14 = if n < 8192 then n else n - 16384 := rfl
theorem sgE19 (n : Int) : sgE n 19 = if n < 262144 then n else n - 524288 := rfl
theorem sgE26 (n : Int) : sgE n 26 = if n < 33554432 then n else n - 67108864 := rfl
theorem rsigned14_c (x : Int) (a : Nat) (hx : Hid (0 ≤ x ∧ x < 4294967296)) (ha : a ≤ 31) (w : World) :
    Calls Tryz.prog 46 #[.int .u32 x, vI a, vI 14] w fun e w' => e = .returned (vI (sgE (partE x a 14) 14)) ∧ ∃ n, w' = w.drewN n := by
  have hp : 0 ≤ partE x a 14 ∧ partE x a 14 < 16384 := partE_in x a 14
  rw [sgE14]
  generalize hP : partE x a 14 = p at *
  replace hP := show Hid _ from hP
  go_enter Tryz.func46, Tryz.ntmps46
  go_wp2_with (go_at_call 45; refine (part_c _ _ 14 hx ha (by decide) _).mono ?_; rw [hP.out]; rintro e w' ⟨rfl, nn, rfl⟩)
  all_goals (go_ret; exact ⟨rfl, _, rfl⟩)
theorem rsigned19_c (x : Int) (a : Nat) (hx : Hid (0 ≤ x ∧ x < 4294967296)) (ha : a ≤ 31) (w : World) :
    Calls Tryz.prog 46 #[.int .u32 x, vI a, vI 19] w fun e w' => e = .returned (vI (sgE (partE x a 19) 19)) ∧ ∃ n, w' = w.drewN n := by
  have hp : 0 ≤ partE x a 19 ∧ partE x a 19 < 524288 := partE_in x a 19
  rw [sgE19]
  generalize hP : partE x a 19 = p at *
  replace hP := show Hid _ from hP
  go_enter Tryz.func46, Tryz.ntmps46
  go_wp2_with (go_at_call 45; refine (part_c _ _ 19 hx ha (by decide) _).mono ?_; rw [hP.out]; rintro e w' ⟨rfl, nn, rfl⟩)
  all_goals (go_ret; exact ⟨rfl, _, rfl⟩)
theorem rsigned26_c (x : Int) (a : Nat) (hx : Hid (0 ≤ x ∧ x < 4294967296)) (ha : a ≤ 31) (w : World) :
    Calls Tryz.prog 46 #[.int .u32 x, vI a, vI 26] w fun e w' => e = .returned (vI (sgE (partE x a 26) 26)) ∧ ∃ n, w' = w.drewN n := by
  have hp : 0 ≤ partE x a 26 ∧ partE x a 26 < 67108864 := partE_in x a 26
  rw [sgE26]
  generalize hP : partE x a 26 = p at *
  replace hP := show Hid _ from hP
  go_enter Tryz.func46, Tryz.ntmps46
  go_wp2_with (go_at_call 45; refine (part_c _ _ 26 hx ha (by decide) _).mono ?_; rw [hP.out]; rintro e w' ⟨rfl, nn, rfl⟩)
  all_goals (go_ret; exact ⟨rfl, _, rfl⟩)
end Go.Proofs.YtbjcdpmhmebjnaaGreat
/- Which fields an Op has, as the document's own answer to chapter 2 tells it: contracts. -/
namespace Go.Proofs.YtbjcdpmhmebjnaaGreat
open Go.RowKit Go.Rel

def hasB (s : ByteArray) (b : Int) : Bool := s.data.toList.any fun x => ((x.toNat : Nat) : Int) == b
theorem hasB_yes {s : ByteArray} {b : Int} {k : Nat} (h : k < s.size) (e : (((s[k].toNat : Nat) : Int) == b) = true) : hasB s b = true :=
  List.any_eq_true.2 ⟨s[k], by show s.data[k]'h ∈ s.data.toList; simp, e⟩
theorem hasB_no {s : ByteArray} {b : Int} (h : ∀ (j : Nat) (hj : j < s.size), (((s[j].toNat : Nat) : Int) == b) = false) : hasB s b = false := by
  refine List.any_eq_false.2 fun x hx => ?_
  obtain ⟨j, hj, rfl⟩ := List.mem_iff_getElem.1 hx
  have hj' : j < s.size := by simpa using hj
  have := h j hj'
  rw [Bool.not_eq_true]
  exact this
set_option maxHeartbeats 400000 in
theorem rhas_c (s : ByteArray) (b : Int) (hs : s.size ≤ 100) (w : World) :
    Calls Tryz.prog 222 #[.string s, .int .u8 b] w fun e w' => e = .returned (.bool (hasB s b)) ∧ w' = w := by
  go_enter Tryz.func222, Tryz.ntmps222
  go_wp2
  go_loop [5] (fun z => ∃ k : Nat, k ≤ s.size ∧ Hid (∀ (j : Nat) (hj : j < s.size), j < k → (((s[j].toNat : Nat) : Int) == b) = false) ∧ z = .int .i64 k) (fun z => s.size - (intOf z).toNat)
  case atStart => exact ⟨0, Nat.zero_le _, fun j _ h => absurd h (Nat.not_lt_zero j), rfl⟩
  case round =>
    obtain ⟨k, hk, hn, rfl⟩ := hrel
    by_cases hlt : k < s.size
    · cases hb : (((s[k].toNat : Nat) : Int) == b)
      · go_wp2
        go_round
        case rel => exact ⟨k + 1, by omega, fun j hj h => (Nat.lt_succ_iff_lt_or_eq.1 h).elim (hn.out j hj) (fun e => by subst e; exact hb), by go_num⟩
        case measure => simp [intOf]; omega
      · have hy := hasB_yes hlt hb
        replace hy := show Hid _ from hy
        go_wp2
        go_ret
        exact ⟨ret_bool hy.out.symm, rfl⟩
    · have hy : Hid (hasB s b = false) := hasB_no fun j hj => hn.out j hj (by omega)
      go_wp2
      go_ret
      exact ⟨ret_bool hy.out.symm, rfl⟩
def shapeS (op : Int) : ByteArray :=
  bif op == 1 then ⟨#[100, 110, 105, 107, 70, 77]⟩ else
  bif op == 2 then ⟨#[100, 110, 109, 116, 107, 70, 77]⟩ else
  bif op == 3 then ⟨#[100, 110, 109, 115, 116, 107, 70, 78]⟩ else
  bif op == 4 then ⟨#[100, 110, 115, 107, 105, 106, 70]⟩ else
  bif op == 5 then ⟨#[100, 115, 105, 107]⟩ else
  bif op == 6 then ⟨#[100, 110, 115, 105, 106]⟩ else
  bif op == 7 || op == 9 then ⟨#[100, 110, 109, 115]⟩ else
  bif op == 8 then ⟨#[100, 110, 109, 97, 77]⟩ else
  bif op == 10 then ⟨#[100, 110, 109, 115, 99]⟩ else
  bif op == 11 then ⟨#[100, 115, 105]⟩ else
  bif op == 12 then ⟨#[105, 76]⟩ else
  bif op == 13 then ⟨#[99, 105]⟩ else
  bif op == 14 then ⟨#[100, 105, 78]⟩ else
  bif op == 15 then ⟨#[100, 105, 107, 78]⟩ else
  bif op == 16 then ⟨#[110, 115]⟩ else
  bif op == 17 || op == 18 then ⟨#[100, 110, 105]⟩ else
  bif op == 19 || op == 20 then ⟨#[100, 110, 109, 107]⟩ else
  bif op == 21 || op == 23 then ⟨#[100, 110, 115]⟩ else
  bif op == 22 then ⟨#[100, 110]⟩ else
  bif op == 24 then ⟨#[100, 110, 109, 115]⟩ else
  bif op == 25 || op == 27 || op == 29 || op == 36 then ⟨#[45]⟩ else
  bif op == 26 || op == 33 then ⟨#[115, 105]⟩ else
  bif op == 28 || op == 30 then ⟨#[100]⟩ else
  bif op == 31 || op == 32 then ⟨#[100, 121]⟩ else
  bif op == 34 || op == 35 || op == 37 then ⟨#[105]⟩ else
  ⟨#[]⟩

set_option maxRecDepth 4000 in
set_option maxHeartbeats 4000000 in
theorem shape_c (op : Int) (w : World) :
    Calls Tryz.prog 221 #[vI op] w fun e w' => e = .returned (.string (shapeS op)) ∧ w' = w := by
  go_enter Tryz.func221, Tryz.ntmps221
  go_wp2
  all_goals (go_ret; refine ⟨congrArg (fun x => Ending.returned (Value.string x)) ?_, rfl⟩; simp only [shapeS, cond_true, cond_false, Bool.or_true, Bool.true_or, Bool.or_false, *])
def sysL : List Int := [17920, 16897, 16896, 17040, 17152, 16904, 16389, 16914, 23057, 23056, 24194, 18016, 18017, 16944, 18013, 24322, 24345, 24346]
theorem sys_cells (w : World) : ∀ k, k < 18 → (w.alloc (.cells #[vI 17920, vI 16897, vI 16896, vI 17040, vI 17152, vI 16904, vI 16389, vI 16914, vI 23057, vI 23056, vI 24194, vI 18016, vI 18017, vI 16944, vI 18013, vI 24322, vI 24345, vI 24346] 3)).cell? ⟨w.heap.size, k, none⟩ = some (vI (sysL.getD k 0)) := by
  intro k hk
  rw [World.cell?_alloc_new]
  rcases (by omega : k = 0 ∨ k = 1 ∨ k = 2 ∨ k = 3 ∨ k = 4 ∨ k = 5 ∨ k = 6 ∨ k = 7 ∨ k = 8 ∨ k = 9 ∨ k = 10 ∨ k = 11 ∨ k = 12 ∨ k = 13 ∨ k = 14 ∨ k = 15 ∨ k = 16 ∨ k = 17) with rfl | rfl | rfl | rfl | rfl | rfl | rfl | rfl | rfl | rfl | rfl | rfl | rfl | rfl | rfl | rfl | rfl | rfl <;> rfl
theorem sysB_yes {n : Int} {k : Nat} (hk : k < 18) (h : (sysL.getD k 0 == n) = true) : sysB n = true := by
  obtain rfl := eq_of_beq h
  rcases (by omega : k = 0 ∨ k = 1 ∨ k = 2 ∨ k = 3 ∨ k = 4 ∨ k = 5 ∨ k = 6 ∨ k = 7 ∨ k = 8 ∨ k = 9 ∨ k = 10 ∨ k = 11 ∨ k = 12 ∨ k = 13 ∨ k = 14 ∨ k = 15 ∨ k = 16 ∨ k = 17) with rfl | rfl | rfl | rfl | rfl | rfl | rfl | rfl | rfl | rfl | rfl | rfl | rfl | rfl | rfl | rfl | rfl | rfl <;> rfl
theorem sysB_no {n : Int} (h : ∀ j, j < 18 → (sysL.getD j 0 == n) = false) : sysB n = false := by
  cases hb : sysB n
  · rfl
  · simp only [sysB, Bool.or_eq_true, beq_iff_eq, or_assoc] at hb
    rcases hb with rfl | rfl | rfl | rfl | rfl | rfl | rfl | rfl | rfl | rfl | rfl | rfl | rfl | rfl | rfl | rfl | rfl | rfl
    · exact h 0 (by decide)
    · exact h 1 (by decide)
    · exact h 2 (by decide)
    · exact h 3 (by decide)
    · exact h 4 (by decide)
    · exact h 5 (by decide)
    · exact h 6 (by decide)
    · exact h 7 (by decide)
    · exact h 8 (by decide)
    · exact h 9 (by decide)
    · exact h 10 (by decide)
    · exact h 11 (by decide)
    · exact h 12 (by decide)
    · exact h 13 (by decide)
    · exact h 14 (by decide)
    · exact h 15 (by decide)
    · exact h 16 (by decide)
    · exact h 17 (by decide)
set_option maxRecDepth 4000 in
set_option maxHeartbeats 4000000 in
theorem rsys_c (n : Int) (w : World) :
    Calls Tryz.prog 191 #[vI n] w fun e w' => e = .returned (.bool (sysB n)) ∧ Below w.heap.size w w' := by
  have hC := sys_cells w
  replace hC := show Hid _ from hC
  have hB := below_alloc w (.cells #[vI 17920, vI 16897, vI 16896, vI 17040, vI 17152, vI 16904, vI 16389, vI 16914, vI 23057, vI 23056, vI 24194, vI 18016, vI 18017, vI 16944, vI 18013, vI 24322, vI 24345, vI 24346] 3)
  replace hB := show Hid _ from hB
  go_enter Tryz.func191, Tryz.ntmps191
  go_wp2
  generalize w.alloc _ = w1 at hC hB ⊢
  go_loop [4] (fun z => ∃ k : Nat, k ≤ 18 ∧ Hid (∀ j, j < k → (sysL.getD j 0 == n) = false) ∧ z = .int .i64 k) (fun z => 18 - (intOf z).toNat)
  case atStart => exact ⟨0, Nat.zero_le _, fun j h => absurd h (Nat.not_lt_zero j), rfl⟩
  case round =>
    obtain ⟨k, hk, hn, rfl⟩ := hrel
    by_cases hlt : k < 18
    · have hc := hC.out k hlt
      generalize hL : sysL.getD k 0 = v at hc
      replace hL := show Hid _ from hL
      cases hb : (v == n)
      · go_wp2
        go_round
        case rel => exact ⟨k + 1, by omega, fun j h => (Nat.lt_succ_iff_lt_or_eq.1 h).elim (hn.out j) (fun e => by subst e; rw [hL.out]; exact hb), by go_num⟩
        case measure => simp [intOf]; omega
      · have hy : Hid (sysB n = true) := sysB_yes hlt (by rw [hL.out]; exact hb)
        go_wp2
        go_ret
        exact ⟨ret_bool hy.out.symm, hB.out⟩
    · have hy : Hid (sysB n = false) := sysB_no fun j hj => hn.out j (by omega)
      go_wp2
      go_ret
      exact ⟨ret_bool hy.out.symm, hB.out⟩
end Go.Proofs.YtbjcdpmhmebjnaaGreat
/- Whether the fields that an Op has not are nothing, and its registers 0 to 31, as the document's own answer to chapter 2 tells it: a contract. -/
namespace Go.Proofs.YtbjcdpmhmebjnaaGreat
open Go.RowKit Go.Rel

def okN (h reg : Bool) (n : Int) : Bool := bif h then (bif reg then inB n 0 31 else true) else n == 0
def numL (S : ByteArray) (i : Ins) : List Bool := [okN (hasB S 100) true i.rd, okN (hasB S 110) true i.rn, okN (hasB S 109) true i.rm, okN (hasB S 97) true i.ra, okN (hasB S 105) false i.imm, okN (hasB S 106) false i.imm2, okN (hasB S 107) false i.amount, okN (hasB S 116) false i.shift, okN (hasB S 115) false i.sub, okN (hasB S 99) false i.cond, okN (hasB S 121) false i.sys]
def flgL (S : ByteArray) (i : Ins) : List Bool := [(hasB S 70 || !i.flags), (hasB S 77 || !i.minus), (hasB S 78 || !i.not), (hasB S 76 || !i.link)]
def clearB (i : Ins) : Bool := !(shapeS i.op).data.toList.isEmpty && (numL (shapeS i.op) i).all id && (flgL (shapeS i.op) i).all id
theorem all_no {l : List Bool} {k : Nat} (h : l.getD k true = false) : l.all id = false := by
  refine List.all_eq_false.2 ⟨false, ?_, by simp⟩
  rw [List.getD_eq_getElem?_getD] at h
  cases e : l[k]?
  · rw [e] at h; cases h
  · rw [e] at h
    have h : _ = false := h
    subst h
    exact List.mem_of_getElem? e
theorem all_yes {l : List Bool} (h : ∀ j, j < l.length → l.getD j true = true) : l.all id = true := by
  refine List.all_eq_true.2 fun x hx => ?_
  obtain ⟨j, hj, rfl⟩ := List.mem_iff_getElem.1 hx
  have := h j hj
  rw [List.getD_eq_getElem?_getD, List.getElem?_eq_getElem hj] at this
  exact this
theorem next_all {l : List Bool} {k : Nat} (h : ∀ j, j < k → l.getD j true = true) (hk : l.getD k true = true) : ∀ j, j < k + 1 → l.getD j true = true :=
  fun j hj => (Nat.lt_succ_iff_lt_or_eq.1 hj).elim (h j) fun e => by subst e; exact hk
theorem bif_len (b : Bool) {x y : ByteArray} (hx : x.size ≤ 100) (hy : y.size ≤ 100) : (bif b then x else y).size ≤ 100 := by cases b <;> assumption
theorem shape_len (op : Int) : (shapeS op).size ≤ 100 :=
  bif_len _ (by decide) (bif_len _ (by decide) (bif_len _ (by decide) (bif_len _ (by decide) (bif_len _ (by decide) (bif_len _ (by decide) (bif_len _ (by decide) (bif_len _ (by decide) (bif_len _ (by decide) (bif_len _ (by decide) (bif_len _ (by decide) (bif_len _ (by decide) (bif_len _ (by decide) (bif_len _ (by decide) (bif_len _ (by decide) (bif_len _ (by decide) (bif_len _ (by decide) (bif_len _ (by decide) (bif_len _ (by decide) (bif_len _ (by decide) (bif_len _ (by decide) (bif_len _ (by decide) (bif_len _ (by decide) (bif_len _ (by decide) (bif_len _ (by decide) (by decide)))))))))))))))))))))))))
theorem row_cell (w : World) (cs ds : Array Value) (k : Nat) {v : Value} (h : ds[k]? = some v) : ((w.alloc (.cells cs 47)).alloc (.cells ds 3)).cell? ⟨w.heap.size + 1, k, none⟩ = some v := by
  have e : (w.alloc (.cells cs 47)).heap.size = w.heap.size + 1 := Array.size_push ..
  rw [← e, World.cell?_alloc_new]; exact h
theorem box_cell (w : World) (cs ds : Array Value) (k : Nat) {v : Value} (h : cs[k]? = some v) : ((w.alloc (.cells cs 47)).alloc (.cells ds 3)).cell? ⟨w.heap.size, k, none⟩ = some v := by
  have e : ((w.alloc (.cells cs 47)).alloc (.cells ds 3)).heap[w.heap.size]? = some (.cells cs 47) := by
    rw [Below.heap_alloc _ _ _ (by show _ < (w.heap.push _).size; rw [Array.size_push]; omega), heap_alloc_new]
  rw [cell_of_row _ _ _ _ _ _ e]; exact h
theorem new_cell (w : World) (ds : Array Value) (t : TypeId) (k : Nat) {v : Value} (h : ds[k]? = some v) : (w.alloc (.cells ds t)).cell? ⟨w.heap.size, k, none⟩ = some v := by
  rw [World.cell?_alloc_new]; exact h
set_option maxRecDepth 4000 in
set_option maxHeartbeats 8000000 in
theorem rclear_c (op sub rd rn rm ra imm imm2 amount shift cond sys : Int) (flags minus not link : Bool) (w : World) :
    Calls Tryz.prog 187 #[(⟨op, sub, rd, rn, rm, ra, imm, imm2, amount, shift, cond, sys, flags, minus, not, link⟩ : Ins).val] w fun e w' => e = .returned (.bool (clearB ⟨op, sub, rd, rn, rm, ra, imm, imm2, amount, shift, cond, sys, flags, minus, not, link⟩)) ∧ Below w.heap.size w w' := by
  have hS := shape_len op
  have hS : Hid ((shapeS op).size ≤ 100) := hS
  have hR : Hid (clearB ⟨op, sub, rd, rn, rm, ra, imm, imm2, amount, shift, cond, sys, flags, minus, not, link⟩ = (!(shapeS op).toList.isEmpty && (numL (shapeS op) ⟨op, sub, rd, rn, rm, ra, imm, imm2, amount, shift, cond, sys, flags, minus, not, link⟩).all id && (flgL (shapeS op) ⟨op, sub, rd, rn, rm, ra, imm, imm2, amount, shift, cond, sys, flags, minus, not, link⟩).all id)) := by show _ = _; rw [ByteArray.toList_eq]; rfl
  generalize hC : clearB ⟨op, sub, rd, rn, rm, ra, imm, imm2, amount, shift, cond, sys, flags, minus, not, link⟩ = C at hR ⊢
  clear hC
  cases hE : (shapeS op).toList.isEmpty
  · go_enter Tryz.func187, Tryz.ntmps187
    go_wp2_with (go_at_call 221; refine (shape_c _ _).mono ?_; rintro e w' ⟨rfl, rfl⟩)
    have c0 := row_cell w #[vI op, vI sub, vI rd, vI rn, vI rm, vI ra, vI imm, vI imm2, vI amount, vI shift, vI cond, vI sys, .bool flags, .bool minus, .bool not, .bool link] #[vI rd, vI rn, vI rm, vI ra, vI imm, vI imm2, vI amount, vI shift, vI sub, vI cond, vI sys] 0 (v := vI rd) rfl
    have c1 := row_cell w #[vI op, vI sub, vI rd, vI rn, vI rm, vI ra, vI imm, vI imm2, vI amount, vI shift, vI cond, vI sys, .bool flags, .bool minus, .bool not, .bool link] #[vI rd, vI rn, vI rm, vI ra, vI imm, vI imm2, vI amount, vI shift, vI sub, vI cond, vI sys] 1 (v := vI rn) rfl
    have c2 := row_cell w #[vI op, vI sub, vI rd, vI rn, vI rm, vI ra, vI imm, vI imm2, vI amount, vI shift, vI cond, vI sys, .bool flags, .bool minus, .bool not, .bool link] #[vI rd, vI rn, vI rm, vI ra, vI imm, vI imm2, vI amount, vI shift, vI sub, vI cond, vI sys] 2 (v := vI rm) rfl
    have c3 := row_cell w #[vI op, vI sub, vI rd, vI rn, vI rm, vI ra, vI imm, vI imm2, vI amount, vI shift, vI cond, vI sys, .bool flags, .bool minus, .bool not, .bool link] #[vI rd, vI rn, vI rm, vI ra, vI imm, vI imm2, vI amount, vI shift, vI sub, vI cond, vI sys] 3 (v := vI ra) rfl
    have c4 := row_cell w #[vI op, vI sub, vI rd, vI rn, vI rm, vI ra, vI imm, vI imm2, vI amount, vI shift, vI cond, vI sys, .bool flags, .bool minus, .bool not, .bool link] #[vI rd, vI rn, vI rm, vI ra, vI imm, vI imm2, vI amount, vI shift, vI sub, vI cond, vI sys] 4 (v := vI imm) rfl
    have c5 := row_cell w #[vI op, vI sub, vI rd, vI rn, vI rm, vI ra, vI imm, vI imm2, vI amount, vI shift, vI cond, vI sys, .bool flags, .bool minus, .bool not, .bool link] #[vI rd, vI rn, vI rm, vI ra, vI imm, vI imm2, vI amount, vI shift, vI sub, vI cond, vI sys] 5 (v := vI imm2) rfl
    have c6 := row_cell w #[vI op, vI sub, vI rd, vI rn, vI rm, vI ra, vI imm, vI imm2, vI amount, vI shift, vI cond, vI sys, .bool flags, .bool minus, .bool not, .bool link] #[vI rd, vI rn, vI rm, vI ra, vI imm, vI imm2, vI amount, vI shift, vI sub, vI cond, vI sys] 6 (v := vI amount) rfl
    have c7 := row_cell w #[vI op, vI sub, vI rd, vI rn, vI rm, vI ra, vI imm, vI imm2, vI amount, vI shift, vI cond, vI sys, .bool flags, .bool minus, .bool not, .bool link] #[vI rd, vI rn, vI rm, vI ra, vI imm, vI imm2, vI amount, vI shift, vI sub, vI cond, vI sys] 7 (v := vI shift) rfl
    have c8 := row_cell w #[vI op, vI sub, vI rd, vI rn, vI rm, vI ra, vI imm, vI imm2, vI amount, vI shift, vI cond, vI sys, .bool flags, .bool minus, .bool not, .bool link] #[vI rd, vI rn, vI rm, vI ra, vI imm, vI imm2, vI amount, vI shift, vI sub, vI cond, vI sys] 8 (v := vI sub) rfl
    have c9 := row_cell w #[vI op, vI sub, vI rd, vI rn, vI rm, vI ra, vI imm, vI imm2, vI amount, vI shift, vI cond, vI sys, .bool flags, .bool minus, .bool not, .bool link] #[vI rd, vI rn, vI rm, vI ra, vI imm, vI imm2, vI amount, vI shift, vI sub, vI cond, vI sys] 9 (v := vI cond) rfl
    have c10 := row_cell w #[vI op, vI sub, vI rd, vI rn, vI rm, vI ra, vI imm, vI imm2, vI amount, vI shift, vI cond, vI sys, .bool flags, .bool minus, .bool not, .bool link] #[vI rd, vI rn, vI rm, vI ra, vI imm, vI imm2, vI amount, vI shift, vI sub, vI cond, vI sys] 10 (v := vI sys) rfl
    have d12 := box_cell w #[vI op, vI sub, vI rd, vI rn, vI rm, vI ra, vI imm, vI imm2, vI amount, vI shift, vI cond, vI sys, .bool flags, .bool minus, .bool not, .bool link] #[vI rd, vI rn, vI rm, vI ra, vI imm, vI imm2, vI amount, vI shift, vI sub, vI cond, vI sys] 12 (v := .bool flags) rfl
    have d13 := box_cell w #[vI op, vI sub, vI rd, vI rn, vI rm, vI ra, vI imm, vI imm2, vI amount, vI shift, vI cond, vI sys, .bool flags, .bool minus, .bool not, .bool link] #[vI rd, vI rn, vI rm, vI ra, vI imm, vI imm2, vI amount, vI shift, vI sub, vI cond, vI sys] 13 (v := .bool minus) rfl
    have d14 := box_cell w #[vI op, vI sub, vI rd, vI rn, vI rm, vI ra, vI imm, vI imm2, vI amount, vI shift, vI cond, vI sys, .bool flags, .bool minus, .bool not, .bool link] #[vI rd, vI rn, vI rm, vI ra, vI imm, vI imm2, vI amount, vI shift, vI sub, vI cond, vI sys] 14 (v := .bool not) rfl
    have d15 := box_cell w #[vI op, vI sub, vI rd, vI rn, vI rm, vI ra, vI imm, vI imm2, vI amount, vI shift, vI cond, vI sys, .bool flags, .bool minus, .bool not, .bool link] #[vI rd, vI rn, vI rm, vI ra, vI imm, vI imm2, vI amount, vI shift, vI sub, vI cond, vI sys] 15 (v := .bool link) rfl
    have hB : Hid (Below w.heap.size w ((w.alloc (.cells #[vI op, vI sub, vI rd, vI rn, vI rm, vI ra, vI imm, vI imm2, vI amount, vI shift, vI cond, vI sys, .bool flags, .bool minus, .bool not, .bool link] 47)).alloc (.cells #[vI rd, vI rn, vI rm, vI ra, vI imm, vI imm2, vI amount, vI shift, vI sub, vI cond, vI sys] 3))) := below_then (below_alloc _ _) (below_alloc _ _)
    generalize (w.alloc _).alloc _ = w2 at *
    rw [hE] at hR
    clear hE
    generalize shapeS op = T at *
    generalize hN : numL T ⟨op, sub, rd, rn, rm, ra, imm, imm2, amount, shift, cond, sys, flags, minus, not, link⟩ = N at hR
    replace hN := show Hid _ from hN
    generalize hG : flgL T ⟨op, sub, rd, rn, rm, ra, imm, imm2, amount, shift, cond, sys, flags, minus, not, link⟩ = G at hR
    replace hG := show Hid _ from hG
    go_loop [5] (fun z => ∃ k : Nat, k ≤ 11 ∧ Hid (∀ j, j < k → N.getD j true = true) ∧ z = .int .i64 k) (fun z => 11 - (intOf z).toNat)
    case atStart => exact ⟨0, Nat.zero_le _, fun j h => absurd h (Nat.not_lt_zero j), rfl⟩
    case round =>
      obtain ⟨k, hk, hn, rfl⟩ := hrel
      rcases (by omega : k = 0 ∨ k = 1 ∨ k = 2 ∨ k = 3 ∨ k = 4 ∨ k = 5 ∨ k = 6 ∨ k = 7 ∨ k = 8 ∨ k = 9 ∨ k = 10 ∨ k = 11) with rfl | rfl | rfl | rfl | rfl | rfl | rfl | rfl | rfl | rfl | rfl | rfl
      · cases hb : hasB T 100
        · cases hv : (rd != 0)
          · skip
            have hx : Hid (N.getD 0 true = true) := by show _ = _; rw [← hN.out]; show okN (hasB T 100) true rd = true; rw [hb]; simpa [okN] using hv
            go_wp2_with (go_at_call 222; refine (rhas_c T 100 hS.out _).mono ?_; rw [hb]; rintro e w' ⟨rfl, rfl⟩)
            go_round
            case rel => exact ⟨1, by decide, next_all hn.out hx.out, rfl⟩
            case measure => simp [intOf]
          · skip
            have hy : Hid (C = false) := by
              have hx : N.getD 0 true = false := by rw [← hN.out]; show okN (hasB T 100) true rd = false; rw [hb]; simpa [okN] using hv
              show _ = _; rw [hR.out, all_no hx]; simp
            go_wp2_with (go_at_call 222; refine (rhas_c T 100 hS.out _).mono ?_; rw [hb]; rintro e w' ⟨rfl, rfl⟩)
            go_ret
            exact ⟨ret_bool hy.out.symm, hB.out⟩
        · by_cases h0 : rd < 0
          · skip
            have hy : Hid (C = false) := by
              have hx : N.getD 0 true = false := by rw [← hN.out]; show okN (hasB T 100) true rd = false; rw [hb]; show inB _ _ _ = false; unfold inB; rw [decide_eq_false (p := (0 : Int) ≤ rd) (by omega)]; rfl
              show _ = _; rw [hR.out, all_no hx]; simp
            go_wp2_with (go_at_call 222; refine (rhas_c T 100 hS.out _).mono ?_; rw [hb]; rintro e w' ⟨rfl, rfl⟩)
            go_ret
            exact ⟨ret_bool hy.out.symm, hB.out⟩
          · by_cases h1 : 31 < rd
            · skip
              have hy : Hid (C = false) := by
                have hx : N.getD 0 true = false := by rw [← hN.out]; show okN (hasB T 100) true rd = false; rw [hb]; show inB _ _ _ = false; unfold inB; rw [decide_eq_false (p := rd ≤ 31) (by omega)]; simp
                show _ = _; rw [hR.out, all_no hx]; simp
              go_wp2_with (go_at_call 222; refine (rhas_c T 100 hS.out _).mono ?_; rw [hb]; rintro e w' ⟨rfl, rfl⟩)
              go_ret
              exact ⟨ret_bool hy.out.symm, hB.out⟩
            · skip
              have hx : Hid (N.getD 0 true = true) := by show _ = _; rw [← hN.out]; show okN (hasB T 100) true rd = true; rw [hb]; show inB _ _ _ = true; unfold inB; rw [decide_eq_true (p := (0 : Int) ≤ rd) (by omega), decide_eq_true (p := rd ≤ 31) (by omega)]; rfl
              go_wp2_with (go_at_call 222; refine (rhas_c T 100 hS.out _).mono ?_; rw [hb]; rintro e w' ⟨rfl, rfl⟩)
              go_round
              case rel => exact ⟨1, by decide, next_all hn.out hx.out, rfl⟩
              case measure => simp [intOf]
      · cases hb : hasB T 110
        · cases hv : (rn != 0)
          · skip
            have hx : Hid (N.getD 1 true = true) := by show _ = _; rw [← hN.out]; show okN (hasB T 110) true rn = true; rw [hb]; simpa [okN] using hv
            go_wp2_with (go_at_call 222; refine (rhas_c T 110 hS.out _).mono ?_; rw [hb]; rintro e w' ⟨rfl, rfl⟩)
            go_round
            case rel => exact ⟨2, by decide, next_all hn.out hx.out, rfl⟩
            case measure => simp [intOf]
          · skip
            have hy : Hid (C = false) := by
              have hx : N.getD 1 true = false := by rw [← hN.out]; show okN (hasB T 110) true rn = false; rw [hb]; simpa [okN] using hv
              show _ = _; rw [hR.out, all_no hx]; simp
            go_wp2_with (go_at_call 222; refine (rhas_c T 110 hS.out _).mono ?_; rw [hb]; rintro e w' ⟨rfl, rfl⟩)
            go_ret
            exact ⟨ret_bool hy.out.symm, hB.out⟩
        · by_cases h0 : rn < 0
          · skip
            have hy : Hid (C = false) := by
              have hx : N.getD 1 true = false := by rw [← hN.out]; show okN (hasB T 110) true rn = false; rw [hb]; show inB _ _ _ = false; unfold inB; rw [decide_eq_false (p := (0 : Int) ≤ rn) (by omega)]; rfl
              show _ = _; rw [hR.out, all_no hx]; simp
            go_wp2_with (go_at_call 222; refine (rhas_c T 110 hS.out _).mono ?_; rw [hb]; rintro e w' ⟨rfl, rfl⟩)
            go_ret
            exact ⟨ret_bool hy.out.symm, hB.out⟩
          · by_cases h1 : 31 < rn
            · skip
              have hy : Hid (C = false) := by
                have hx : N.getD 1 true = false := by rw [← hN.out]; show okN (hasB T 110) true rn = false; rw [hb]; show inB _ _ _ = false; unfold inB; rw [decide_eq_false (p := rn ≤ 31) (by omega)]; simp
                show _ = _; rw [hR.out, all_no hx]; simp
              go_wp2_with (go_at_call 222; refine (rhas_c T 110 hS.out _).mono ?_; rw [hb]; rintro e w' ⟨rfl, rfl⟩)
              go_ret
              exact ⟨ret_bool hy.out.symm, hB.out⟩
            · skip
              have hx : Hid (N.getD 1 true = true) := by show _ = _; rw [← hN.out]; show okN (hasB T 110) true rn = true; rw [hb]; show inB _ _ _ = true; unfold inB; rw [decide_eq_true (p := (0 : Int) ≤ rn) (by omega), decide_eq_true (p := rn ≤ 31) (by omega)]; rfl
              go_wp2_with (go_at_call 222; refine (rhas_c T 110 hS.out _).mono ?_; rw [hb]; rintro e w' ⟨rfl, rfl⟩)
              go_round
              case rel => exact ⟨2, by decide, next_all hn.out hx.out, rfl⟩
              case measure => simp [intOf]
      · cases hb : hasB T 109
        · cases hv : (rm != 0)
          · skip
            have hx : Hid (N.getD 2 true = true) := by show _ = _; rw [← hN.out]; show okN (hasB T 109) true rm = true; rw [hb]; simpa [okN] using hv
            go_wp2_with (go_at_call 222; refine (rhas_c T 109 hS.out _).mono ?_; rw [hb]; rintro e w' ⟨rfl, rfl⟩)
            go_round
            case rel => exact ⟨3, by decide, next_all hn.out hx.out, rfl⟩
            case measure => simp [intOf]
          · skip
            have hy : Hid (C = false) := by
              have hx : N.getD 2 true = false := by rw [← hN.out]; show okN (hasB T 109) true rm = false; rw [hb]; simpa [okN] using hv
              show _ = _; rw [hR.out, all_no hx]; simp
            go_wp2_with (go_at_call 222; refine (rhas_c T 109 hS.out _).mono ?_; rw [hb]; rintro e w' ⟨rfl, rfl⟩)
            go_ret
            exact ⟨ret_bool hy.out.symm, hB.out⟩
        · by_cases h0 : rm < 0
          · skip
            have hy : Hid (C = false) := by
              have hx : N.getD 2 true = false := by rw [← hN.out]; show okN (hasB T 109) true rm = false; rw [hb]; show inB _ _ _ = false; unfold inB; rw [decide_eq_false (p := (0 : Int) ≤ rm) (by omega)]; rfl
              show _ = _; rw [hR.out, all_no hx]; simp
            go_wp2_with (go_at_call 222; refine (rhas_c T 109 hS.out _).mono ?_; rw [hb]; rintro e w' ⟨rfl, rfl⟩)
            go_ret
            exact ⟨ret_bool hy.out.symm, hB.out⟩
          · by_cases h1 : 31 < rm
            · skip
              have hy : Hid (C = false) := by
                have hx : N.getD 2 true = false := by rw [← hN.out]; show okN (hasB T 109) true rm = false; rw [hb]; show inB _ _ _ = false; unfold inB; rw [decide_eq_false (p := rm ≤ 31) (by omega)]; simp
                show _ = _; rw [hR.out, all_no hx]; simp
              go_wp2_with (go_at_call 222; refine (rhas_c T 109 hS.out _).mono ?_; rw [hb]; rintro e w' ⟨rfl, rfl⟩)
              go_ret
              exact ⟨ret_bool hy.out.symm, hB.out⟩
            · skip
              have hx : Hid (N.getD 2 true = true) := by show _ = _; rw [← hN.out]; show okN (hasB T 109) true rm = true; rw [hb]; show inB _ _ _ = true; unfold inB; rw [decide_eq_true (p := (0 : Int) ≤ rm) (by omega), decide_eq_true (p := rm ≤ 31) (by omega)]; rfl
              go_wp2_with (go_at_call 222; refine (rhas_c T 109 hS.out _).mono ?_; rw [hb]; rintro e w' ⟨rfl, rfl⟩)
              go_round
              case rel => exact ⟨3, by decide, next_all hn.out hx.out, rfl⟩
              case measure => simp [intOf]
      · cases hb : hasB T 97
        · cases hv : (ra != 0)
          · skip
            have hx : Hid (N.getD 3 true = true) := by show _ = _; rw [← hN.out]; show okN (hasB T 97) true ra = true; rw [hb]; simpa [okN] using hv
            go_wp2_with (go_at_call 222; refine (rhas_c T 97 hS.out _).mono ?_; rw [hb]; rintro e w' ⟨rfl, rfl⟩)
            go_round
            case rel => exact ⟨4, by decide, next_all hn.out hx.out, rfl⟩
            case measure => simp [intOf]
          · skip
            have hy : Hid (C = false) := by
              have hx : N.getD 3 true = false := by rw [← hN.out]; show okN (hasB T 97) true ra = false; rw [hb]; simpa [okN] using hv
              show _ = _; rw [hR.out, all_no hx]; simp
            go_wp2_with (go_at_call 222; refine (rhas_c T 97 hS.out _).mono ?_; rw [hb]; rintro e w' ⟨rfl, rfl⟩)
            go_ret
            exact ⟨ret_bool hy.out.symm, hB.out⟩
        · by_cases h0 : ra < 0
          · skip
            have hy : Hid (C = false) := by
              have hx : N.getD 3 true = false := by rw [← hN.out]; show okN (hasB T 97) true ra = false; rw [hb]; show inB _ _ _ = false; unfold inB; rw [decide_eq_false (p := (0 : Int) ≤ ra) (by omega)]; rfl
              show _ = _; rw [hR.out, all_no hx]; simp
            go_wp2_with (go_at_call 222; refine (rhas_c T 97 hS.out _).mono ?_; rw [hb]; rintro e w' ⟨rfl, rfl⟩)
            go_ret
            exact ⟨ret_bool hy.out.symm, hB.out⟩
          · by_cases h1 : 31 < ra
            · skip
              have hy : Hid (C = false) := by
                have hx : N.getD 3 true = false := by rw [← hN.out]; show okN (hasB T 97) true ra = false; rw [hb]; show inB _ _ _ = false; unfold inB; rw [decide_eq_false (p := ra ≤ 31) (by omega)]; simp
                show _ = _; rw [hR.out, all_no hx]; simp
              go_wp2_with (go_at_call 222; refine (rhas_c T 97 hS.out _).mono ?_; rw [hb]; rintro e w' ⟨rfl, rfl⟩)
              go_ret
              exact ⟨ret_bool hy.out.symm, hB.out⟩
            · skip
              have hx : Hid (N.getD 3 true = true) := by show _ = _; rw [← hN.out]; show okN (hasB T 97) true ra = true; rw [hb]; show inB _ _ _ = true; unfold inB; rw [decide_eq_true (p := (0 : Int) ≤ ra) (by omega), decide_eq_true (p := ra ≤ 31) (by omega)]; rfl
              go_wp2_with (go_at_call 222; refine (rhas_c T 97 hS.out _).mono ?_; rw [hb]; rintro e w' ⟨rfl, rfl⟩)
              go_round
              case rel => exact ⟨4, by decide, next_all hn.out hx.out, rfl⟩
              case measure => simp [intOf]
      · cases hb : hasB T 105
        · cases hv : (imm != 0)
          · skip
            have hx : Hid (N.getD 4 true = true) := by show _ = _; rw [← hN.out]; show okN (hasB T 105) false imm = true; rw [hb]; simpa [okN] using hv
            go_wp2_with (go_at_call 222; refine (rhas_c T 105 hS.out _).mono ?_; rw [hb]; rintro e w' ⟨rfl, rfl⟩)
            go_round
            case rel => exact ⟨5, by decide, next_all hn.out hx.out, rfl⟩
            case measure => simp [intOf]
          · skip
            have hy : Hid (C = false) := by
              have hx : N.getD 4 true = false := by rw [← hN.out]; show okN (hasB T 105) false imm = false; rw [hb]; simpa [okN] using hv
              show _ = _; rw [hR.out, all_no hx]; simp
            go_wp2_with (go_at_call 222; refine (rhas_c T 105 hS.out _).mono ?_; rw [hb]; rintro e w' ⟨rfl, rfl⟩)
            go_ret
            exact ⟨ret_bool hy.out.symm, hB.out⟩
        · skip
          have hx : Hid (N.getD 4 true = true) := by show _ = _; rw [← hN.out]; show okN (hasB T 105) false imm = true; rw [hb]; rfl
          go_wp2_with (go_at_call 222; refine (rhas_c T 105 hS.out _).mono ?_; rw [hb]; rintro e w' ⟨rfl, rfl⟩)
          go_round
          case rel => exact ⟨5, by decide, next_all hn.out hx.out, rfl⟩
          case measure => simp [intOf]
      · cases hb : hasB T 106
        · cases hv : (imm2 != 0)
          · skip
            have hx : Hid (N.getD 5 true = true) := by show _ = _; rw [← hN.out]; show okN (hasB T 106) false imm2 = true; rw [hb]; simpa [okN] using hv
            go_wp2_with (go_at_call 222; refine (rhas_c T 106 hS.out _).mono ?_; rw [hb]; rintro e w' ⟨rfl, rfl⟩)
            go_round
            case rel => exact ⟨6, by decide, next_all hn.out hx.out, rfl⟩
            case measure => simp [intOf]
          · skip
            have hy : Hid (C = false) := by
              have hx : N.getD 5 true = false := by rw [← hN.out]; show okN (hasB T 106) false imm2 = false; rw [hb]; simpa [okN] using hv
              show _ = _; rw [hR.out, all_no hx]; simp
            go_wp2_with (go_at_call 222; refine (rhas_c T 106 hS.out _).mono ?_; rw [hb]; rintro e w' ⟨rfl, rfl⟩)
            go_ret
            exact ⟨ret_bool hy.out.symm, hB.out⟩
        · skip
          have hx : Hid (N.getD 5 true = true) := by show _ = _; rw [← hN.out]; show okN (hasB T 106) false imm2 = true; rw [hb]; rfl
          go_wp2_with (go_at_call 222; refine (rhas_c T 106 hS.out _).mono ?_; rw [hb]; rintro e w' ⟨rfl, rfl⟩)
          go_round
          case rel => exact ⟨6, by decide, next_all hn.out hx.out, rfl⟩
          case measure => simp [intOf]
      · cases hb : hasB T 107
        · cases hv : (amount != 0)
          · skip
            have hx : Hid (N.getD 6 true = true) := by show _ = _; rw [← hN.out]; show okN (hasB T 107) false amount = true; rw [hb]; simpa [okN] using hv
            go_wp2_with (go_at_call 222; refine (rhas_c T 107 hS.out _).mono ?_; rw [hb]; rintro e w' ⟨rfl, rfl⟩)
            go_round
            case rel => exact ⟨7, by decide, next_all hn.out hx.out, rfl⟩
            case measure => simp [intOf]
          · skip
            have hy : Hid (C = false) := by
              have hx : N.getD 6 true = false := by rw [← hN.out]; show okN (hasB T 107) false amount = false; rw [hb]; simpa [okN] using hv
              show _ = _; rw [hR.out, all_no hx]; simp
            go_wp2_with (go_at_call 222; refine (rhas_c T 107 hS.out _).mono ?_; rw [hb]; rintro e w' ⟨rfl, rfl⟩)
            go_ret
            exact ⟨ret_bool hy.out.symm, hB.out⟩
        · skip
          have hx : Hid (N.getD 6 true = true) := by show _ = _; rw [← hN.out]; show okN (hasB T 107) false amount = true; rw [hb]; rfl
          go_wp2_with (go_at_call 222; refine (rhas_c T 107 hS.out _).mono ?_; rw [hb]; rintro e w' ⟨rfl, rfl⟩)
          go_round
          case rel => exact ⟨7, by decide, next_all hn.out hx.out, rfl⟩
          case measure => simp [intOf]
      · cases hb : hasB T 116
        · cases hv : (shift != 0)
          · skip
            have hx : Hid (N.getD 7 true = true) := by show _ = _; rw [← hN.out]; show okN (hasB T 116) false shift = true; rw [hb]; simpa [okN] using hv
            go_wp2_with (go_at_call 222; refine (rhas_c T 116 hS.out _).mono ?_; rw [hb]; rintro e w' ⟨rfl, rfl⟩)
            go_round
            case rel => exact ⟨8, by decide, next_all hn.out hx.out, rfl⟩
            case measure => simp [intOf]
          · skip
            have hy : Hid (C = false) := by
              have hx : N.getD 7 true = false := by rw [← hN.out]; show okN (hasB T 116) false shift = false; rw [hb]; simpa [okN] using hv
              show _ = _; rw [hR.out, all_no hx]; simp
            go_wp2_with (go_at_call 222; refine (rhas_c T 116 hS.out _).mono ?_; rw [hb]; rintro e w' ⟨rfl, rfl⟩)
            go_ret
            exact ⟨ret_bool hy.out.symm, hB.out⟩
        · skip
          have hx : Hid (N.getD 7 true = true) := by show _ = _; rw [← hN.out]; show okN (hasB T 116) false shift = true; rw [hb]; rfl
          go_wp2_with (go_at_call 222; refine (rhas_c T 116 hS.out _).mono ?_; rw [hb]; rintro e w' ⟨rfl, rfl⟩)
          go_round
          case rel => exact ⟨8, by decide, next_all hn.out hx.out, rfl⟩
          case measure => simp [intOf]
      · cases hb : hasB T 115
        · cases hv : (sub != 0)
          · skip
            have hx : Hid (N.getD 8 true = true) := by show _ = _; rw [← hN.out]; show okN (hasB T 115) false sub = true; rw [hb]; simpa [okN] using hv
            go_wp2_with (go_at_call 222; refine (rhas_c T 115 hS.out _).mono ?_; rw [hb]; rintro e w' ⟨rfl, rfl⟩)
            go_round
            case rel => exact ⟨9, by decide, next_all hn.out hx.out, rfl⟩
            case measure => simp [intOf]
          · skip
            have hy : Hid (C = false) := by
              have hx : N.getD 8 true = false := by rw [← hN.out]; show okN (hasB T 115) false sub = false; rw [hb]; simpa [okN] using hv
              show _ = _; rw [hR.out, all_no hx]; simp
            go_wp2_with (go_at_call 222; refine (rhas_c T 115 hS.out _).mono ?_; rw [hb]; rintro e w' ⟨rfl, rfl⟩)
            go_ret
            exact ⟨ret_bool hy.out.symm, hB.out⟩
        · skip
          have hx : Hid (N.getD 8 true = true) := by show _ = _; rw [← hN.out]; show okN (hasB T 115) false sub = true; rw [hb]; rfl
          go_wp2_with (go_at_call 222; refine (rhas_c T 115 hS.out _).mono ?_; rw [hb]; rintro e w' ⟨rfl, rfl⟩)
          go_round
          case rel => exact ⟨9, by decide, next_all hn.out hx.out, rfl⟩
          case measure => simp [intOf]
      · cases hb : hasB T 99
        · cases hv : (cond != 0)
          · skip
            have hx : Hid (N.getD 9 true = true) := by show _ = _; rw [← hN.out]; show okN (hasB T 99) false cond = true; rw [hb]; simpa [okN] using hv
            go_wp2_with (go_at_call 222; refine (rhas_c T 99 hS.out _).mono ?_; rw [hb]; rintro e w' ⟨rfl, rfl⟩)
            go_round
            case rel => exact ⟨10, by decide, next_all hn.out hx.out, rfl⟩
            case measure => simp [intOf]
          · skip
            have hy : Hid (C = false) := by
              have hx : N.getD 9 true = false := by rw [← hN.out]; show okN (hasB T 99) false cond = false; rw [hb]; simpa [okN] using hv
              show _ = _; rw [hR.out, all_no hx]; simp
            go_wp2_with (go_at_call 222; refine (rhas_c T 99 hS.out _).mono ?_; rw [hb]; rintro e w' ⟨rfl, rfl⟩)
            go_ret
            exact ⟨ret_bool hy.out.symm, hB.out⟩
        · skip
          have hx : Hid (N.getD 9 true = true) := by show _ = _; rw [← hN.out]; show okN (hasB T 99) false cond = true; rw [hb]; rfl
          go_wp2_with (go_at_call 222; refine (rhas_c T 99 hS.out _).mono ?_; rw [hb]; rintro e w' ⟨rfl, rfl⟩)
          go_round
          case rel => exact ⟨10, by decide, next_all hn.out hx.out, rfl⟩
          case measure => simp [intOf]
      · cases hb : hasB T 121
        · cases hv : (sys != 0)
          · skip
            have hx : Hid (N.getD 10 true = true) := by show _ = _; rw [← hN.out]; show okN (hasB T 121) false sys = true; rw [hb]; simpa [okN] using hv
            go_wp2_with (go_at_call 222; refine (rhas_c T 121 hS.out _).mono ?_; rw [hb]; rintro e w' ⟨rfl, rfl⟩)
            go_round
            case rel => exact ⟨11, by decide, next_all hn.out hx.out, rfl⟩
            case measure => simp [intOf]
          · skip
            have hy : Hid (C = false) := by
              have hx : N.getD 10 true = false := by rw [← hN.out]; show okN (hasB T 121) false sys = false; rw [hb]; simpa [okN] using hv
              show _ = _; rw [hR.out, all_no hx]; simp
            go_wp2_with (go_at_call 222; refine (rhas_c T 121 hS.out _).mono ?_; rw [hb]; rintro e w' ⟨rfl, rfl⟩)
            go_ret
            exact ⟨ret_bool hy.out.symm, hB.out⟩
        · skip
          have hx : Hid (N.getD 10 true = true) := by show _ = _; rw [← hN.out]; show okN (hasB T 121) false sys = true; rw [hb]; rfl
          go_wp2_with (go_at_call 222; refine (rhas_c T 121 hS.out _).mono ?_; rw [hb]; rintro e w' ⟨rfl, rfl⟩)
          go_round
          case rel => exact ⟨11, by decide, next_all hn.out hx.out, rfl⟩
          case measure => simp [intOf]
      · have hall : N.all id = true := all_yes fun j hj => hn.out j (by rw [← hN.out] at hj; exact hj)
        rw [hall] at hR
        clear hn hall hN
        go_wp2_with (go_at_call 222; refine (rhas_c _ _ hS.out _).mono ?_; rintro e w' ⟨rfl, rfl⟩)
        have e0 := new_cell w2 #[.bool flags, .bool minus, .bool not, .bool link] 4 0 (v := .bool flags) rfl
        have e1 := new_cell w2 #[.bool flags, .bool minus, .bool not, .bool link] 4 1 (v := .bool minus) rfl
        have e2 := new_cell w2 #[.bool flags, .bool minus, .bool not, .bool link] 4 2 (v := .bool not) rfl
        have e3 := new_cell w2 #[.bool flags, .bool minus, .bool not, .bool link] 4 3 (v := .bool link) rfl
        have hB2 : Hid (Below w.heap.size w (w2.alloc (.cells #[.bool flags, .bool minus, .bool not, .bool link] 4))) := below_then hB.out (below_alloc _ _)
        generalize w2.alloc _ = w3 at e0 e1 e2 e3 hB2 ⊢
        generalize w2.heap.size = g at *
        clear hB c0 c1 c2 c3 c4 c5 c6 c7 c8 c9 c10 d12 d13 d14 d15
        go_loop [8] (fun z => ∃ k : Nat, k ≤ 4 ∧ Hid (∀ j, j < k → G.getD j true = true) ∧ z = .int .i64 k) (fun z => 4 - (intOf z).toNat)
        case atStart => exact ⟨0, Nat.zero_le _, fun j h => absurd h (Nat.not_lt_zero j), rfl⟩
        case round =>
          obtain ⟨k, hk, hn, rfl⟩ := hrel
          rcases (by omega : k = 0 ∨ k = 1 ∨ k = 2 ∨ k = 3 ∨ k = 4) with rfl | rfl | rfl | rfl | rfl
          · cases hb : hasB T 70
            · cases hv : flags
              · skip
                have hx : Hid (G.getD 0 true = true) := by show _ = _; rw [← hG.out]; show (hasB T 70 || !flags) = true; rw [hb]; first | rfl | (rw [hv]; rfl)
                go_wp2_with (go_at_call 222; refine (rhas_c T 70 hS.out _).mono ?_; rw [hb]; rintro e w' ⟨rfl, rfl⟩)
                go_round
                case rel => exact ⟨1, by decide, next_all hn.out hx.out, rfl⟩
                case measure => simp [intOf]
              · have hy : Hid (C = false) := by
                  have hx : G.getD 0 true = false := by rw [← hG.out]; show (hasB T 70 || !flags) = false; rw [hb, hv]; rfl
                  show _ = _; rw [hR.out, all_no hx]; simp
                go_wp2_with (go_at_call 222; refine (rhas_c T 70 hS.out _).mono ?_; rw [hb]; rintro e w' ⟨rfl, rfl⟩)
                go_ret
                exact ⟨ret_bool hy.out.symm, hB2.out⟩
            · skip
              have hx : Hid (G.getD 0 true = true) := by show _ = _; rw [← hG.out]; show (hasB T 70 || !flags) = true; rw [hb]; first | rfl | (rw [hv]; rfl)
              go_wp2_with (go_at_call 222; refine (rhas_c T 70 hS.out _).mono ?_; rw [hb]; rintro e w' ⟨rfl, rfl⟩)
              go_round
              case rel => exact ⟨1, by decide, next_all hn.out hx.out, rfl⟩
              case measure => simp [intOf]
          · cases hb : hasB T 77
            · cases hv : minus
              · skip
                have hx : Hid (G.getD 1 true = true) := by show _ = _; rw [← hG.out]; show (hasB T 77 || !minus) = true; rw [hb]; first | rfl | (rw [hv]; rfl)
                go_wp2_with (go_at_call 222; refine (rhas_c T 77 hS.out _).mono ?_; rw [hb]; rintro e w' ⟨rfl, rfl⟩)
                go_round
                case rel => exact ⟨2, by decide, next_all hn.out hx.out, rfl⟩
                case measure => simp [intOf]
              · have hy : Hid (C = false) := by
                  have hx : G.getD 1 true = false := by rw [← hG.out]; show (hasB T 77 || !minus) = false; rw [hb, hv]; rfl
                  show _ = _; rw [hR.out, all_no hx]; simp
                go_wp2_with (go_at_call 222; refine (rhas_c T 77 hS.out _).mono ?_; rw [hb]; rintro e w' ⟨rfl, rfl⟩)
                go_ret
                exact ⟨ret_bool hy.out.symm, hB2.out⟩
            · skip
              have hx : Hid (G.getD 1 true = true) := by show _ = _; rw [← hG.out]; show (hasB T 77 || !minus) = true; rw [hb]; first | rfl | (rw [hv]; rfl)
              go_wp2_with (go_at_call 222; refine (rhas_c T 77 hS.out _).mono ?_; rw [hb]; rintro e w' ⟨rfl, rfl⟩)
              go_round
              case rel => exact ⟨2, by decide, next_all hn.out hx.out, rfl⟩
              case measure => simp [intOf]
          · cases hb : hasB T 78
            · cases hv : not
              · skip
                have hx : Hid (G.getD 2 true = true) := by show _ = _; rw [← hG.out]; show (hasB T 78 || !not) = true; rw [hb]; first | rfl | (rw [hv]; rfl)
                go_wp2_with (go_at_call 222; refine (rhas_c T 78 hS.out _).mono ?_; rw [hb]; rintro e w' ⟨rfl, rfl⟩)
                go_round
                case rel => exact ⟨3, by decide, next_all hn.out hx.out, rfl⟩
                case measure => simp [intOf]
              · have hy : Hid (C = false) := by
                  have hx : G.getD 2 true = false := by rw [← hG.out]; show (hasB T 78 || !not) = false; rw [hb, hv]; rfl
                  show _ = _; rw [hR.out, all_no hx]; simp
                go_wp2_with (go_at_call 222; refine (rhas_c T 78 hS.out _).mono ?_; rw [hb]; rintro e w' ⟨rfl, rfl⟩)
                go_ret
                exact ⟨ret_bool hy.out.symm, hB2.out⟩
            · skip
              have hx : Hid (G.getD 2 true = true) := by show _ = _; rw [← hG.out]; show (hasB T 78 || !not) = true; rw [hb]; first | rfl | (rw [hv]; rfl)
              go_wp2_with (go_at_call 222; refine (rhas_c T 78 hS.out _).mono ?_; rw [hb]; rintro e w' ⟨rfl, rfl⟩)
              go_round
              case rel => exact ⟨3, by decide, next_all hn.out hx.out, rfl⟩
              case measure => simp [intOf]
          · cases hb : hasB T 76
            · cases hv : link
              · skip
                have hx : Hid (G.getD 3 true = true) := by show _ = _; rw [← hG.out]; show (hasB T 76 || !link) = true; rw [hb]; first | rfl | (rw [hv]; rfl)
                go_wp2_with (go_at_call 222; refine (rhas_c T 76 hS.out _).mono ?_; rw [hb]; rintro e w' ⟨rfl, rfl⟩)
                go_round
                case rel => exact ⟨4, by decide, next_all hn.out hx.out, rfl⟩
                case measure => simp [intOf]
              · have hy : Hid (C = false) := by
                  have hx : G.getD 3 true = false := by rw [← hG.out]; show (hasB T 76 || !link) = false; rw [hb, hv]; rfl
                  show _ = _; rw [hR.out, all_no hx]; simp
                go_wp2_with (go_at_call 222; refine (rhas_c T 76 hS.out _).mono ?_; rw [hb]; rintro e w' ⟨rfl, rfl⟩)
                go_ret
                exact ⟨ret_bool hy.out.symm, hB2.out⟩
            · skip
              have hx : Hid (G.getD 3 true = true) := by show _ = _; rw [← hG.out]; show (hasB T 76 || !link) = true; rw [hb]; first | rfl | (rw [hv]; rfl)
              go_wp2_with (go_at_call 222; refine (rhas_c T 76 hS.out _).mono ?_; rw [hb]; rintro e w' ⟨rfl, rfl⟩)
              go_round
              case rel => exact ⟨4, by decide, next_all hn.out hx.out, rfl⟩
              case measure => simp [intOf]
          · have hall : G.all id = true := all_yes fun j hj => hn.out j (by rw [← hG.out] at hj; exact hj)
            have hy : Hid (C = true) := by show _ = _; rw [hR.out, hall]; rfl
            go_wp2
            go_ret
            exact ⟨ret_bool hy.out.symm, hB2.out⟩
  · have hy : Hid (C = false) := by show _ = _; rw [hR.out, hE]; rfl
    go_enter Tryz.func187, Tryz.ntmps187
    go_wp2_with (go_at_call 221; refine (shape_c _ _).mono ?_; rintro e w' ⟨rfl, rfl⟩)
    go_ret
    exact ⟨ret_bool hy.out.symm, below_alloc _ _⟩
end Go.Proofs.YtbjcdpmhmebjnaaGreat
