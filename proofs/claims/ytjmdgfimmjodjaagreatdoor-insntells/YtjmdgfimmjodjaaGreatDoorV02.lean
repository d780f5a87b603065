/- Plain facts on masks: the size, the ones, how they are turned and laid again and again: no Go text is named here. -/
import Derived.Test.YtjmdgfimmjodjaaGreatDoorV01
import GoSem.Claim
import Derived.WalkKit
import Derived.WalkSpells
import Derived.WalkLawsBesides
import Derived.Below
namespace Go.Proofs.YtjmdgfimmjodjaaGreatDoor
open Go.RowKit

/-- The size that imms tells. -/
def sizeI (n s : Int) : Int :=
  if n = 1 then 64 else if s ≤ 31 then 32 else if s ≤ 47 then 16 else if s ≤ 55 then 8 else if s ≤ 59 then 4 else if s ≤ 61 then 2 else if s ≤ 62 then 1 else 0

def isSize (m : Int) : Prop := m = 2 ∨ m = 4 ∨ m = 8 ∨ m = 16 ∨ m = 32 ∨ m = 64

theorem sizeI_cases (n s : Int) : (sizeI n s < 2 ∨ isSize (sizeI n s)) ∧ sizeI n s ≤ 64 ∧ 0 ≤ sizeI n s := by
  unfold sizeI isSize
  split
  · omega
  · split
    · omega
    · split
      · omega
      · split
        · omega
        · split
          · omega
          · split
            · omega
            · split <;> omega

/-- What stands at the size loop's head. -/
def sizeHead (s z : Int) : Prop := z = 32 ∨ ((z = 16 ∨ z = 8 ∨ z = 4 ∨ z = 2 ∨ z = 1) ∧ 63 - s < 2 * z) ∨ (z = 0 ∧ s = 63)

theorem sizeHead_next {s z : Int} (hs : 0 ≤ s) (hs2 : s ≤ 63) (h : sizeHead s z) (hlt : 63 - s < z) : sizeHead s (z / 2) ∧ 0 < z ∧ z ≤ 32 := by
  unfold sizeHead at *
  omega

theorem sizeHead_end {n s z : Int} (hn : n ≠ 1) (hs2 : s ≤ 63) (h : sizeHead s z) (hge : z ≤ 63 - s) : z = sizeI n s := by
  unfold sizeHead at h
  unfold sizeI
  rw [if_neg hn]
  split
  · omega
  · split
    · omega
    · split
      · omega
      · split
        · omega
        · split
          · omega
          · split <;> omega

theorem sizeHead_bounds {s z : Int} (h : sizeHead s z) : 0 ≤ z ∧ z ≤ 32 := by
  unfold sizeHead at h
  omega

/-! ### The piece, laid again and again -/
def repBit (p m : Int) (i : Nat) : Bool := p.toNat.testBit (i % m.toNat)
def repF (p m : Int) : Int := ((orBits (repBit p m) 64 : Nat) : Int)

theorem rep_start (p m : Int) (h0 : 0 ≤ p) (hp : p.toNat < 2 ^ m.toNat) : p = ((orBits (repBit p m) m.toNat : Nat) : Int) := by
  have e : p.toNat = orBits (repBit p m) m.toNat := by
    apply eq_orBits
    intro i
    unfold repBit
    by_cases h : i < m.toNat
    · rw [Nat.mod_eq_of_lt h]; simp [h]
    · have : p.toNat.testBit i = false := Nat.testBit_lt_two_pow (Nat.lt_of_lt_of_le hp (Nat.pow_le_pow_right (by decide) (by omega)))
      simp [h, this]
  omega

theorem rep_step (p m : Int) (s : Nat) (hd : m.toNat ∣ s) (hs : s + s ≤ 64) :
    bits .or .u64 ((orBits (repBit p m) s : Nat) : Int) (IntKind.u64.wrap (((orBits (repBit p m) s : Nat) : Int) * 2 ^ s)) = ((orBits (repBit p m) (s + s) : Nat) : Int) := by
  have h1 := orBits_lt (repBit p m) s
  have h2 : orBits (repBit p m) s * 2 ^ s < 18446744073709551616 := by
    have a : orBits (repBit p m) s * 2 ^ s < 2 ^ s * 2 ^ s := Nat.mul_lt_mul_of_pos_right h1 (Nat.two_pow_pos _)
    rw [← Nat.pow_add] at a
    exact Nat.lt_of_lt_of_le a (pow_le64 hs)
  have e : IntKind.u64.wrap (((orBits (repBit p m) s : Nat) : Int) * 2 ^ s) = ((orBits (repBit p m) s * 2 ^ s : Nat) : Int) := by
    rw [IntKind.wrap_u64]
    have : ((orBits (repBit p m) s : Nat) : Int) * 2 ^ s = ((orBits (repBit p m) s * 2 ^ s : Nat) : Int) := by simp
    rw [this]
    omega
  rw [e, bits_or_u64_nat _ _ (orBits_lt64 _ s (by omega)) h2]
  congr 1
  apply eq_orBits
  intro i
  rw [Nat.testBit_or, Nat.testBit_mul_two_pow, testBit_orBits, testBit_orBits]
  by_cases c1 : i < s
  · have c2 : i < s + s := by omega
    have c3 : ¬ s ≤ i := by omega
    simp [c1, c2, c3]
  · by_cases c2 : i < s + s
    · have c3 : s ≤ i := by omega
      have c4 : i - s < s := by omega
      have c5 : repBit p m (i - s) = repBit p m i := by
        unfold repBit
        congr 1
        obtain ⟨c, hc⟩ := hd
        have : i = (i - s) + m.toNat * c := by omega
        conv => rhs; rw [this]
        rw [Nat.add_mul_mod_self_left]
      simp [c1, c2, c3, c4, c5]
    · have c4 : ¬ i - s < s := by omega
      simp [c1, c2, c4]

/-! ### The mask of a size, a number of ones and a turn -/
def maskN (z s r : Nat) : Nat := orBits (fun i => (turnN (2 ^ (s + 1) - 1) r z).testBit (i % z)) 64

def argB (n r s : Int) : Bool := decide ((0 ≤ n ∧ n ≤ 1) ∧ (0 ≤ r ∧ r ≤ 63) ∧ (0 ≤ s ∧ s ≤ 63))
def badB (n s : Int) : Bool := decide (sizeI n s < 2 ∨ s % sizeI n s = sizeI n s - 1)
def maskV (n r s : Int) : Int := if (argB n r s && !badB n s) = true then ((maskN (sizeI n s).toNat (s % sizeI n s).toNat (r % sizeI n s).toNat : Nat) : Int) else 0
def maskE (n r s : Int) : Int := if argB n r s = true then (if badB n s = true then 2 else 0) else 1

theorem arg_of {n r s : Int} (h : argB n r s = true) : (0 ≤ n ∧ n ≤ 1) ∧ (0 ≤ r ∧ r ≤ 63) ∧ (0 ≤ s ∧ s ≤ 63) := by
  unfold argB at h
  rwa [decide_eq_true_eq] at h

theorem notarg_of {n r s : Int} (h : argB n r s = false) : ¬ ((0 ≤ n ∧ n ≤ 1) ∧ (0 ≤ r ∧ r ≤ 63) ∧ (0 ≤ s ∧ s ≤ 63)) := by
  unfold argB at h
  rwa [decide_eq_false_iff_not] at h

theorem mask_arg {n r s : Int} (h : argB n r s = false) : maskV n r s = 0 ∧ maskE n r s = 1 := by
  unfold maskV maskE
  rw [h]
  exact ⟨rfl, rfl⟩

theorem mask_bad {n r s : Int} (h : argB n r s = true) (hb : badB n s = true) : maskV n r s = 0 ∧ maskE n r s = 2 := by
  unfold maskV maskE
  rw [h, hb]
  exact ⟨rfl, rfl⟩

theorem mask_yes {n r s : Int} (h : argB n r s = true) (hb : badB n s = false) : maskV n r s = ((maskN (sizeI n s).toNat (s % sizeI n s).toNat (r % sizeI n s).toNat : Nat) : Int) ∧ maskE n r s = 0 := by
  unfold maskV maskE
  rw [h, hb]
  exact ⟨rfl, rfl⟩

theorem size_pos {m : Int} (h : isSize m) : 2 ≤ m ∧ m ≤ 64 := by unfold isSize at h; omega

theorem lowF_bounds (k : Int) : 0 ≤ lowF k ∧ lowF k < 18446744073709551616 := by
  unfold lowF
  have := pow_le64 (m := min k.toNat 64) (by omega)
  have := Nat.two_pow_pos (min k.toNat 64)
  omega

theorem turnF_bounds (v b m : Int) (hm : m ≤ 64) : 0 ≤ turnF v b m ∧ turnF v b m < 18446744073709551616 := by
  unfold turnF
  have := turnN_lt v.toNat b.toNat m.toNat
  have := pow_le64 (m := m.toNat) (by omega)
  omega

theorem turnF_fits (v b m : Int) : (turnF v b m).toNat < 2 ^ m.toNat := by
  unfold turnF
  rw [Int.toNat_natCast]
  exact turnN_lt _ _ _

/-- What package bits makes of them is the mask. -/
theorem mask_code {z s r : Int} (hz : 2 ≤ z) (hz2 : z ≤ 64) : repF (turnF (lowF (s % z + 1)) (r % z) z) z = ((maskN z.toNat (s % z).toNat (r % z).toNat : Nat) : Int) := by
  have q1 : 0 ≤ s % z := Int.emod_nonneg _ (by omega)
  have q2 : s % z < z := Int.emod_lt_of_pos _ (by omega)
  have e : (s % z + 1).toNat = (s % z).toNat + 1 := by omega
  have e2 : min ((s % z).toNat + 1) 64 = (s % z).toNat + 1 := by omega
  unfold repF maskN repBit turnF lowF
  rw [e, e2]
  simp only [Int.toNat_natCast]

theorem ones_low (k : Nat) (hk : k ≤ 64) : ((orBits (fun _ => true) k : Nat) : Int) = lowF (k : Int) := by
  unfold lowF
  have : 2 ^ k - 1 = orBits (fun _ => true) k := by
    apply eq_orBits
    intro i
    rw [Nat.testBit_two_pow_sub_one]
    simp
  rw [Int.toNat_natCast, show min k 64 = k by omega, this]

theorem one_step (k : Nat) (hk : k < 64) : bits .or .u64 ((orBits (fun _ => true) k : Nat) : Int) (IntKind.u64.wrap (2 ^ k)) = ((orBits (fun _ => true) (k + 1) : Nat) : Int) := by
  have := or_step (fun _ => true) k hk 1 rfl
  rwa [Int.one_mul] at this

theorem low_fits {k z : Int} (h1 : k ≤ z) (hz : z ≤ 64) : fits64 (lowF k) z = true := by
  unfold fits64 lowF
  rw [decide_eq_true_eq, Int.toNat_natCast]
  have : 2 ^ min k.toNat 64 ≤ 2 ^ z.toNat := Nat.pow_le_pow_right (by decide) (by omega)
  have := Nat.two_pow_pos (min k.toNat 64)
  omega

end Go.Proofs.YtjmdgfimmjodjaaGreatDoor
/- What Mask of package bits, and of the document's own answer, gives back, for all numbers: contracts. -/
namespace Go.Proofs.YtjmdgfimmjodjaaGreatDoor
open Go.RowKit

set_option maxHeartbeats 400000 in
theorem sizeOf_c (n s : Int) (hs : 0 ≤ s) (hs2 : s ≤ 63) (w : World) :
    Calls Tryz.prog 91 #[.int .i64 n, .int .i64 s] w fun e w' => e = .returned (.int .i64 (sizeI n s)) ∧ w' = w := by
  by_cases hn : n = 1
  · have hE : Hid (sizeI n s = 64) := by show _ = _; unfold sizeI; rw [if_pos hn]
    have hn : (n == 1) = true := by simpa using hn
    go_enter Tryz.func91, Tryz.ntmps91
    go_wp2
    go_ret
    exact ⟨ret_int hE.out.symm, rfl⟩
  · have hN : Hid (n ≠ 1) := hn
    have hn : (n == 1) = false := by simpa using hn
    go_enter Tryz.func91, Tryz.ntmps91
    go_wp2
    go_loop [5] (fun z => ∃ k : Int, Hid (sizeHead s k) ∧ z = .int .i64 k) (fun z => (intOf z).toNat)
    case atStart => exact ⟨32, Or.inl rfl, rfl⟩
    case round =>
      obtain ⟨k, hk, rfl⟩ := hrel
      obtain ⟨b1, b2⟩ := sizeHead_bounds hk.out
      by_cases hlt : 63 - s < k
      · obtain ⟨g1, g2, g3⟩ := sizeHead_next hs hs2 hk.out hlt
        have G : Hid (sizeHead s (k / 2)) := g1
        clear g1
        go_wp2
        go_round
        case rel => exact ⟨k / 2, G, rfl⟩
        case measure => simp [intOf]; omega
      · go_wp2
        go_ret
        exact ⟨ret_int (sizeHead_end hN.out hs2 hk.out (by omega)), rfl⟩

set_option maxHeartbeats 400000 in
theorem again_c (p m : Int) (hp : Hid (0 ≤ p ∧ p.toNat < 2 ^ m.toNat)) (hm : Hid (isSize m)) (w : World) :
    Calls Tryz.prog 93 #[.int .u64 p, .int .i64 m] w fun e w' => e = .returned (.int .u64 (repF p m)) ∧ w' = w := by
  obtain ⟨h1, h2⟩ := size_pos hm.out
  go_enter Tryz.func93, Tryz.ntmps93
  go_wp2
  go_loop [0, 1] (fun q z => ∃ k : Nat, Hid (isSize k) ∧ Hid (m.toNat ∣ k) ∧ z = .int .i64 k ∧ q = .int .u64 ((orBits (repBit p m) k : Nat) : Int)) (fun _ z => 64 - (intOf z).toNat)
  case atStart =>
    refine ⟨m.toNat, ?_, Nat.dvd_refl _, ?_, ?_⟩
    · rw [Int.toNat_of_nonneg (by omega)]; exact hm
    · rw [Int.toNat_of_nonneg (by omega)]
    · rw [← rep_start p m hp.out.1 hp.out.2]
  case round =>
    obtain ⟨k, hk, hd, rfl, rfl⟩ := hrel
    obtain ⟨b1, b2⟩ := size_pos hk.out
    by_cases hlt : (k : Int) < 64
    · have hk2 : Hid (isSize ((k + k : Nat) : Int)) ∧ k + k ≤ 64 := by
        have := hk.out; unfold isSize at this; refine ⟨?_, by omega⟩; show isSize _; unfold isSize; omega
      obtain ⟨hk2, hk3⟩ := hk2
      go_wp2
      go_round
      case rel =>
        refine ⟨k + k, hk2, Nat.dvd_add hd.out hd.out, ?_, ?_⟩
        · rw [show ((k + k : Nat) : Int) = (k : Int) * 2 by omega]
        · rw [rep_step p m k hd.out hk3]
      case measure => simp [intOf]; omega
    · obtain rfl : k = 64 := by omega
      go_wp2
      go_ret
      exact ⟨ret_int rfl, rfl⟩

set_option maxHeartbeats 800000 in
theorem mask_c (n r s : Int) (w : World) :
    Calls Tryz.prog 84 #[.int .i64 n, .int .i64 r, .int .i64 s] w fun e w' => e = .returned (.tuple #[.int .u64 (maskV n r s), .int .i64 (maskE n r s)]) ∧ ∃ m, w' = w.drewN m := by
  by_cases ha : argB n r s = true
  · obtain ⟨⟨a1, a2⟩, ⟨a3, a4⟩, a5, a6⟩ := arg_of ha
    have s1 : sixB r = true := by unfold sixB; rw [decide_eq_true_eq]; omega
    have s2 : sixB s = true := by unfold sixB; rw [decide_eq_true_eq]; omega
    obtain ⟨z1, z2, z3⟩ := sizeI_cases n s
    by_cases hb : badB n s = true
    · have hE := mask_bad ha hb
      replace hE := show Hid _ from hE
      have hb' : Hid (sizeI n s < 2 ∨ s % sizeI n s = sizeI n s - 1) := by unfold badB at hb; rwa [decide_eq_true_eq] at hb
      clear z1 ha hb
      generalize hZ : sizeI n s = z at *
      replace hZ := show Hid _ from hZ
      by_cases hz : z < 2
      · go_enter Tryz.func84, Tryz.ntmps84
        go_wp2_with (first | (go_at_call 90; refine (six_c _ _).mono ?_; rintro e w' ⟨rfl, rfl⟩) | (go_at_call 91; refine (sizeOf_c _ _ (by omega) (by omega) _).mono ?_; rw [hZ.out]; rintro e w' ⟨rfl, rfl⟩))
        go_ret2
        exact ⟨ret_two hE.out.1.symm hE.out.2.symm, 0, rfl⟩
      · have hz2 : (s % z == z - 1) = true := by have := hb'.out; rw [beq_iff_eq]; omega
        go_enter Tryz.func84, Tryz.ntmps84
        go_wp2_with (first | (go_at_call 90; refine (six_c _ _).mono ?_; rintro e w' ⟨rfl, rfl⟩) | (go_at_call 91; refine (sizeOf_c _ _ (by omega) (by omega) _).mono ?_; rw [hZ.out]; rintro e w' ⟨rfl, rfl⟩))
        go_ret2
        exact ⟨ret_two hE.out.1.symm hE.out.2.symm, 0, rfl⟩
    · have hbf : badB n s = false := by simpa using hb
      have hE := mask_yes ha hbf
      replace hE := show Hid _ from hE
      have hb' : Hid (¬ (sizeI n s < 2 ∨ s % sizeI n s = sizeI n s - 1)) := by unfold badB at hbf; rwa [decide_eq_false_iff_not] at hbf
      clear ha hb hbf
      generalize hZ : sizeI n s = z at *
      replace hZ := show Hid _ from hZ
      have hz : 2 ≤ z := by have := hb'.out; omega
      have hZs : Hid (isSize z) := by rcases z1 with h | h; exact absurd h (by omega); exact h
      clear z1
      have hz2 : (s % z == z - 1) = false := by have := hb'.out; rw [beq_eq_false_iff_ne]; omega
      have q1 : 0 ≤ s % z := Int.emod_nonneg _ (by omega)
      have q2 : s % z < z := Int.emod_lt_of_pos _ (by omega)
      have q3 : 0 ≤ r % z := Int.emod_nonneg _ (by omega)
      have q4 : r % z < z := Int.emod_lt_of_pos _ (by omega)
      have hM := mask_code (s := s) (r := r) hz z2
      replace hM := show Hid _ from hM
      go_enter Tryz.func84, Tryz.ntmps84
      go_wp2_with (first | (go_at_call 90; refine (six_c _ _).mono ?_; rintro e w' ⟨rfl, rfl⟩) | (go_at_call 91; refine (sizeOf_c _ _ (by omega) (by omega) _).mono ?_; rw [hZ.out]; rintro e w' ⟨rfl, rfl⟩) | (go_at_call 92; refine (low_c _ (by omega) _).mono ?_; rintro e w' ⟨rfl, rfl⟩) | (go_at_call 94; refine (turn_c _ _ _ (lowF_bounds _) (by omega) (by omega) (by omega) _).mono ?_; rintro e w' ⟨rfl, nn, rfl⟩) | (go_at_call 93; refine (again_c _ _ ⟨(turnF_bounds _ _ _ (by omega)).1, turnF_fits _ _ _⟩ hZs _).mono ?_; rintro e w' ⟨rfl, rfl⟩))
      go_ret2
      exact ⟨ret_two (by rw [hE.out.1]; exact hM.out) hE.out.2.symm, _, rfl⟩
  · have ha : argB n r s = false := by simpa using ha
    have hE := mask_arg ha
    replace hE := show Hid _ from hE
    have hn : Hid (¬ ((0 ≤ n ∧ n ≤ 1) ∧ (0 ≤ r ∧ r ≤ 63) ∧ (0 ≤ s ∧ s ≤ 63))) := notarg_of ha
    clear ha
    by_cases g1 : n < 0
    · go_enter Tryz.func84, Tryz.ntmps84
      go_wp2_with (go_at_call 90; refine (six_c _ _).mono ?_; rintro e w' ⟨rfl, rfl⟩)
      go_ret2
      exact ⟨ret_two hE.out.1.symm hE.out.2.symm, 0, rfl⟩
    · by_cases g2 : 1 < n
      · go_enter Tryz.func84, Tryz.ntmps84
        go_wp2_with (go_at_call 90; refine (six_c _ _).mono ?_; rintro e w' ⟨rfl, rfl⟩)
        go_ret2
        exact ⟨ret_two hE.out.1.symm hE.out.2.symm, 0, rfl⟩
      · by_cases g3 : sixB r = true
        · have g4 : sixB s = false := by
            unfold sixB at *
            rw [decide_eq_true_eq] at g3
            rw [decide_eq_false_iff_not]
            have := hn.out
            omega
          go_enter Tryz.func84, Tryz.ntmps84
          go_wp2_with (go_at_call 90; refine (six_c _ _).mono ?_; rintro e w' ⟨rfl, rfl⟩)
          go_ret2
          exact ⟨ret_two hE.out.1.symm hE.out.2.symm, 0, rfl⟩
        · have g3 : sixB r = false := by simpa using g3
          go_enter Tryz.func84, Tryz.ntmps84
          go_wp2_with (go_at_call 90; refine (six_c _ _).mono ?_; rintro e w' ⟨rfl, rfl⟩)
          go_ret2
          exact ⟨ret_two hE.out.1.symm hE.out.2.symm, 0, rfl⟩

theorem mod_place {k : Nat} {z : Int} (hz : 0 ≤ z) : ((k : Int) % z).toNat = k % z.toNat := by
  obtain ⟨Z, rfl⟩ := Int.eq_ofNat_of_zero_le hz
  have e : ((k : Int) % (Z : Int)) = ((k % Z : Nat) : Int) := by simp
  rw [e]
  simp only [Int.toNat_natCast]

end Go.Proofs.YtjmdgfimmjodjaaGreatDoor
/- Instructions as records, and what an instruction leaves to its fields: plain definitions, as the chapter has them. No function of the program is named. -/
namespace Go.Proofs.YtjmdgfimmjodjaaGreatDoor
open Go.RowKit

structure Ins where
  op : Int
  sub : Int
  rd : Int
  rn : Int
  rm : Int
  ra : Int
  imm : Int
  imm2 : Int
  amount : Int
  shift : Int
  cond : Int
  sys : Int
  flags : Bool
  minus : Bool
  not : Bool
  link : Bool

structure Span where
  lo : Int
  hi : Int
  st : Int

def upToS (n : Int) : Span := ⟨0, n, 1⟩
def zeroS : Span := ⟨0, 0, 0⟩

def hasRa (op : Int) : Bool := op == 8
def hasRm (op : Int) : Bool := op == 8 || op == 2 || op == 3 || op == 7 || op == 9 || op == 10 || op == 19 || op == 20 || op == 24
def hasRn2 (op : Int) : Bool := hasRm op || op == 1 || op == 4 || op == 6 || op == 17 || op == 18 || op == 21 || op == 22 || op == 23
def hasRd (op : Int) : Bool := hasRn2 op || op == 5 || op == 11 || op == 14 || op == 15 || op == 28 || op == 30 || op == 31 || op == 32
def hasRn (op : Int) : Bool := hasRn2 op || op == 16
def h31 (b : Bool) : Int := bif b then 31 else 0
def h1 (b : Bool) : Int := bif b then 1 else 0
def regS (b : Bool) : Span := ⟨0, h31 b, h1 b⟩

def subS (op : Int) : Span :=
  bif op == 3 || op == 4 || op == 16 then upToS 2 else bif op == 10 || op == 7 || op == 5 then upToS 3 else bif op == 6 then ⟨0, 2, 2⟩
  else bif op == 9 || op == 11 || op == 21 || op == 23 || op == 24 || op == 26 || op == 33 then upToS 1 else zeroS
def shiftS (op : Int) : Span := bif op == 2 then upToS 2 else bif op == 3 then upToS 3 else zeroS
def condS (op : Int) : Span := bif op == 10 || op == 13 then upToS 15 else zeroS
def imm2S (op : Int) : Span := bif op == 4 || op == 6 then upToS 63 else zeroS
def brS (m : Int) : Span := bif m == 26 then ⟨-134217728, 134217724, 4⟩ else bif m == 19 then ⟨-1048576, 1048572, 4⟩ else ⟨-32768, 32764, 4⟩
def immS (op sub : Int) : Span :=
  bif op == 1 then upToS 4095 else bif op == 4 || op == 6 then upToS 63 else bif op == 5 || op == 34 || op == 35 then upToS 65535
  else bif op == 11 then (bif sub == 1 then ⟨-4294967296, 4294963200, 4096⟩ else ⟨-1048576, 1048575, 1⟩)
  else bif op == 12 then brS 26 else bif op == 13 || op == 14 then brS 19 else bif op == 15 then brS 14
  else bif op == 17 || op == 18 then ⟨0, 32760, 8⟩ else bif op == 26 then ⟨1, 3, 1⟩ else bif op == 33 then upToS 15 else bif op == 37 then upToS 5 else zeroS
def amountS (op : Int) : Span :=
  bif op == 1 then ⟨0, 12, 12⟩ else bif op == 2 || op == 3 || op == 15 then upToS 63 else bif op == 4 then upToS 1 else bif op == 5 then ⟨0, 48, 16⟩
  else bif op == 19 || op == 20 then ⟨0, 3, 3⟩ else zeroS
def flagsR (op sub : Int) : Bool := op == 2 || op == 1 || ((op == 3 || op == 4) && sub == 0)
def minusR (op : Int) : Bool := op == 2 || op == 1 || op == 8
def notR (op : Int) : Bool := op == 3 || op == 14 || op == 15
def linkR (op : Int) : Bool := op == 12

def holdsB (s : Span) (n : Int) : Bool := decide (s.lo ≤ n) && decide (n ≤ s.hi) && (n == 0 || n.tmod s.st == 0)

/-- The values, as the machine has them. -/
abbrev vI (n : Int) : Value := .int .i64 n
abbrev Ins.cells (i : Ins) : Array Value := #[vI i.op, vI i.sub, vI i.rd, vI i.rn, vI i.rm, vI i.ra, vI i.imm, vI i.imm2, vI i.amount, vI i.shift, vI i.cond, vI i.sys, .bool i.flags, .bool i.minus, .bool i.not, .bool i.link]
abbrev Ins.val (i : Ins) : Value := .agg #[vI i.op, vI i.sub, vI i.rd, vI i.rn, vI i.rm, vI i.ra, vI i.imm, vI i.imm2, vI i.amount, vI i.shift, vI i.cond, vI i.sys, .bool i.flags, .bool i.minus, .bool i.not, .bool i.link]
abbrev Span.val (s : Span) : Value := .agg #[vI s.lo, vI s.hi, vI s.st]
abbrev Span.cells (s : Span) : Array Value := #[vI s.lo, vI s.hi, vI s.st]

end Go.Proofs.YtjmdgfimmjodjaaGreatDoor
