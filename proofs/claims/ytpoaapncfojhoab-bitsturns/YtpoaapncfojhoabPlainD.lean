/- Plain facts on the parts of a mask: how many ones it has, and that the first size, ones and turn that make it are the only first ones: no Go text is named here. -/
import Derived.Test.YtpoaapncfojhoabPlainC
namespace Go.Proofs.Ytpoaapncfojhoab
open Go.RowKit

/-! ### How many ones, as the library's OnesCount64 reckons it -/
def o1 (x : Int) : Int := IntKind.u64.wrap (bits .and .u64 (x / 2) 6148914691236517205 + bits .and .u64 x 6148914691236517205)
def o2 (x : Int) : Int := IntKind.u64.wrap (bits .and .u64 (x / 4) 3689348814741910323 + bits .and .u64 x 3689348814741910323)
def o3 (x : Int) : Int := bits .and .u64 (IntKind.u64.wrap (x / 16 + x)) 1085102592571150095
def o4 (x : Int) : Int := IntKind.u64.wrap (x + x / 256)
def o5 (x : Int) : Int := IntKind.u64.wrap (x + x / 65536)
def o6 (x : Int) : Int := IntKind.u64.wrap (x + x / 4294967296)
def o7 (x : Int) : Int := bits .and .i64 (wrap64 x) 127
def onesF (x : Int) : Int := o7 (o6 (o5 (o4 (o3 (o2 (o1 x))))))

def n1 (x : Nat) : Nat := ((x / 2 &&& 6148914691236517205) + (x &&& 6148914691236517205)) % 18446744073709551616
def n2 (x : Nat) : Nat := ((x / 4 &&& 3689348814741910323) + (x &&& 3689348814741910323)) % 18446744073709551616
def n3 (x : Nat) : Nat := (x / 16 + x) % 18446744073709551616 &&& 1085102592571150095
def n4 (x : Nat) : Nat := (x + x / 256) % 18446744073709551616
def n5 (x : Nat) : Nat := (x + x / 65536) % 18446744073709551616
def n6 (x : Nat) : Nat := (x + x / 4294967296) % 18446744073709551616
def onesN (x : Nat) : Nat := n6 (n5 (n4 (n3 (n2 (n1 x))))) % 128

theorem wrapNat (n : Nat) : IntKind.u64.wrap (n : Int) = ((n % 18446744073709551616 : Nat) : Int) := by
  rw [IntKind.wrap_u64]; omega

theorem o1_eq (x : Nat) (hx : x < 18446744073709551616) : o1 (x : Int) = ((n1 x : Nat) : Int) := by
  unfold o1 n1
  rw [show (x : Int) / 2 = ((x / 2 : Nat) : Int) by omega, show (6148914691236517205 : Int) = ((6148914691236517205 : Nat) : Int) from rfl,
    bits_and_u64_nat _ _ (by omega) (by omega), bits_and_u64_nat _ _ hx (by omega), ← Int.natCast_add, wrapNat]

theorem o2_eq (x : Nat) (hx : x < 18446744073709551616) : o2 (x : Int) = ((n2 x : Nat) : Int) := by
  unfold o2 n2
  rw [show (x : Int) / 4 = ((x / 4 : Nat) : Int) by omega, show (3689348814741910323 : Int) = ((3689348814741910323 : Nat) : Int) from rfl,
    bits_and_u64_nat _ _ (by omega) (by omega), bits_and_u64_nat _ _ hx (by omega), ← Int.natCast_add, wrapNat]

theorem o3_eq (x : Nat) : o3 (x : Int) = ((n3 x : Nat) : Int) := by
  unfold o3 n3
  rw [show (x : Int) / 16 = ((x / 16 : Nat) : Int) by omega, ← Int.natCast_add, wrapNat, show (1085102592571150095 : Int) = ((1085102592571150095 : Nat) : Int) from rfl,
    bits_and_u64_nat _ _ (Nat.mod_lt _ (by omega)) (by omega)]

theorem o4_eq (x : Nat) : o4 (x : Int) = ((n4 x : Nat) : Int) := by
  unfold o4 n4
  rw [show (x : Int) / 256 = ((x / 256 : Nat) : Int) by omega, ← Int.natCast_add, wrapNat]

theorem o5_eq (x : Nat) : o5 (x : Int) = ((n5 x : Nat) : Int) := by
  unfold o5 n5
  rw [show (x : Int) / 65536 = ((x / 65536 : Nat) : Int) by omega, ← Int.natCast_add, wrapNat]

theorem o6_eq (x : Nat) : o6 (x : Int) = ((n6 x : Nat) : Int) := by
  unfold o6 n6
  rw [show (x : Int) / 4294967296 = ((x / 4294967296 : Nat) : Int) by omega, ← Int.natCast_add, wrapNat]

theorem o7_eq (x : Nat) : o7 (x : Int) = ((x % 128 : Nat) : Int) := by
  unfold o7
  show IntKind.i64.wrap ((BitVec.ofInt 64 (wrap64 (x : Int)) &&& BitVec.ofInt 64 127).toNat : Int) = _
  rw [BitVec.toNat_and, show (BitVec.ofInt 64 127).toNat = 2 ^ 7 - 1 from rfl, Nat.and_two_pow_sub_one_eq_mod, BitVec.toNat_ofInt, IntKind.wrap_i64]
  unfold wrap64
  omega

theorem ones_eq (x : Int) (h : Hid (0 ≤ x ∧ x < 18446744073709551616)) : onesF x = ((onesN x.toNat : Nat) : Int) := by
  obtain ⟨X, rfl⟩ := Int.eq_ofNat_of_zero_le h.out.1
  have h2 := h.out.2
  unfold onesF onesN
  rw [o1_eq X (by omega), o2_eq (n1 X) (Nat.mod_lt _ (by omega)), o3_eq, o4_eq, o5_eq, o6_eq, o7_eq, Int.toNat_natCast]

theorem onesN_le (x : Nat) : onesN x ≤ 127 := by
  unfold onesN
  have := Nat.mod_lt (n6 (n5 (n4 (n3 (n2 (n1 x)))))) (show 128 > 0 by omega)
  omega

/-! ### Closed facts, size by size -/
def allBelow (n : Nat) (p : Nat → Bool) : Bool :=
  match n with
  | 0 => true
  | n + 1 => p n && allBelow n p

theorem allBelow_of {n : Nat} {p : Nat → Bool} (h : allBelow n p = true) : ∀ i, i < n → p i = true := by
  induction n with
  | zero => intro i hi; omega
  | succ n ih =>
    intro i hi
    unfold allBelow at h
    rw [Bool.and_eq_true] at h
    rcases Nat.lt_or_eq_of_le (Nat.le_of_lt_succ hi) with h1 | h1
    · exact ih h.2 i h1
    · rw [h1]; exact h.1

/-- At size z each number of ones k below z is told, whatever the turn. -/
def tells (z : Nat) : Bool := allBelow z fun r => allBelow z fun k => onesN (turnN (2 ^ k - 1) r z) == k
/-- At size z no number of ones from z + 1 to 127 is told. -/
def tellsNot (z : Nat) : Bool := allBelow z fun r => allBelow (127 - z) fun k => onesN (turnN (2 ^ min (z + 1 + k) 64 - 1) r z) != z + 1 + k

theorem tells2 : tells 2 = true := by decide +kernel
theorem tells4 : tells 4 = true := by decide +kernel
theorem tells8 : tells 8 = true := by decide +kernel
theorem tells16 : tells 16 = true := by decide +kernel
theorem tells32 : tells 32 = true := by decide +kernel
theorem tells64 : tells 64 = true := by decide +kernel
theorem tellsNot2 : tellsNot 2 = true := by decide +kernel
theorem tellsNot4 : tellsNot 4 = true := by decide +kernel
theorem tellsNot8 : tellsNot 8 = true := by decide +kernel
theorem tellsNot16 : tellsNot 16 = true := by decide +kernel
theorem tellsNot32 : tellsNot 32 = true := by decide +kernel
theorem tellsNot64 : tellsNot 64 = true := by decide +kernel

theorem six_of (t : Nat) (h1 : 1 ≤ t) (h2 : t ≤ 6) : t = 1 ∨ t = 2 ∨ t = 3 ∨ t = 4 ∨ t = 5 ∨ t = 6 := by omega

theorem tells_all {t : Nat} (h1 : 1 ≤ t) (h2 : t ≤ 6) : tells (2 ^ t) = true ∧ tellsNot (2 ^ t) = true := by
  rcases six_of t h1 h2 with rfl | rfl | rfl | rfl | rfl | rfl
  · exact ⟨tells2, tellsNot2⟩
  · exact ⟨tells4, tellsNot4⟩
  · exact ⟨tells8, tellsNot8⟩
  · exact ⟨tells16, tellsNot16⟩
  · exact ⟨tells32, tellsNot32⟩
  · exact ⟨tells64, tellsNot64⟩

theorem ones_turn {t s r : Nat} (h1 : 1 ≤ t) (h2 : t ≤ 6) (hs : s + 1 < 2 ^ t) (hr : r < 2 ^ t) : onesN (turnN (2 ^ (s + 1) - 1) r (2 ^ t)) = s + 1 := by
  have h := (tells_all h1 h2).1
  unfold tells at h
  have := allBelow_of (allBelow_of h r hr) (s + 1) hs
  rwa [beq_iff_eq] at this

theorem ones_not {t k r : Nat} (h1 : 1 ≤ t) (h2 : t ≤ 6) (hk : 2 ^ t < k) (hk2 : k ≤ 127) (hr : r < 2 ^ t) : onesN (turnN (2 ^ min k 64 - 1) r (2 ^ t)) ≠ k := by
  have h := (tells_all h1 h2).2
  unfold tellsNot at h
  have := allBelow_of (allBelow_of h r hr) (k - (2 ^ t + 1)) (by omega)
  rw [show 2 ^ t + 1 + (k - (2 ^ t + 1)) = k by omega] at this
  simpa using this

/-! ### The first size, ones and turn that make a mask -/
def hit (M t s r : Nat) : Prop := 1 ≤ t ∧ t ≤ 6 ∧ s + 1 < 2 ^ t ∧ r < 2 ^ t ∧ maskN (2 ^ t) s r = M
def before (t s r t' s' r' : Nat) : Prop := t < t' ∨ (t = t' ∧ (s < s' ∨ (s = s' ∧ r ≤ r')))
def formA (t : Nat) : Int := if t = 6 then 1 else 0
def formC (t s : Nat) : Int := if t = 6 then (s : Int) else 64 - 2 * ((2 ^ t : Nat) : Int) + (s : Int)
def Found (M t s r : Nat) : Prop := hit M t s r ∧ ∀ t' s' r', hit M t' s' r' → before t s r t' s' r'
def PartsAre (M : Nat) (a b c e : Int) : Prop :=
  (∃ t s r : Nat, Found M t s r ∧ a = formA t ∧ b = (r : Int) ∧ c = formC t s ∧ e = 0) ∨ ((∀ t s r, ¬ hit M t s r) ∧ a = 0 ∧ b = 0 ∧ c = 0 ∧ e = 2)

theorem parts_one {M : Nat} {a b c e a' b' c' e' : Int} (h : PartsAre M a b c e) (h' : PartsAre M a' b' c' e') : a = a' ∧ b = b' ∧ c = c' ∧ e = e' := by
  rcases h with ⟨t, s, r, ⟨f1, f2⟩, rfl, rfl, rfl, rfl⟩ | ⟨f, rfl, rfl, rfl, rfl⟩
  · rcases h' with ⟨t', s', r', ⟨g1, g2⟩, rfl, rfl, rfl, rfl⟩ | ⟨g, rfl, rfl, rfl, rfl⟩
    · have x := f2 _ _ _ g1
      have y := g2 _ _ _ f1
      unfold before at x y
      obtain ⟨rfl, rfl, rfl⟩ : t = t' ∧ s = s' ∧ r = r' := by omega
      exact ⟨rfl, rfl, rfl, rfl⟩
    · exact absurd f1 (g _ _ _)
  · rcases h' with ⟨t', s', r', ⟨g1, g2⟩, rfl, rfl, rfl, rfl⟩ | ⟨g, rfl, rfl, rfl, rfl⟩
    · exact absurd g1 (f _ _ _)
    · exact ⟨rfl, rfl, rfl, rfl⟩

theorem pow_six {t : Nat} (h : t ≤ 6) : 2 ^ t ≤ 64 := show 2 ^ t ≤ 2 ^ 6 from Nat.pow_le_pow_right (by decide) h

theorem mask_piece {t s r : Nat} (h2 : t ≤ 6) : maskN (2 ^ t) s r % 2 ^ 2 ^ t = turnN (2 ^ (s + 1) - 1) r (2 ^ t) := by
  apply Nat.eq_of_testBit_eq
  intro i
  unfold maskN
  rw [Nat.testBit_mod_two_pow, testBit_orBits]
  have h6 := pow_six h2
  by_cases hi : i < 2 ^ t
  · have : i < 64 := by omega
    rw [Nat.mod_eq_of_lt hi]
    simp [hi, this]
  · have : (turnN (2 ^ (s + 1) - 1) r (2 ^ t)).testBit i = false := Nat.testBit_lt_two_pow (Nat.lt_of_lt_of_le (turnN_lt _ _ _) (Nat.pow_le_pow_right (by decide) (by omega)))
    simp [hi, this]

def pieceF (mask z : Int) : Int := ((mask.toNat % 2 ^ z.toNat : Nat) : Int)

theorem piece_walk (mask z : Int) (h : Hid (0 ≤ mask ∧ mask < 18446744073709551616)) (hz : z ≤ 64) : bits .and .u64 mask (lowF z) = pieceF mask z := by
  obtain ⟨M, rfl⟩ := Int.eq_ofNat_of_zero_le h.out.1
  have h2 := h.out.2
  unfold pieceF
  have h3 := lowF_bounds z
  unfold lowF at *
  rw [bits_and_u64_nat _ _ (by omega) (by omega), show min z.toNat 64 = z.toNat by omega, Nat.and_two_pow_sub_one_eq_mod, Int.toNat_natCast]

theorem piece_bounds (mask z : Int) (h : Hid (0 ≤ mask ∧ mask < 18446744073709551616)) : 0 ≤ pieceF mask z ∧ pieceF mask z < 18446744073709551616 := by
  unfold pieceF
  have := h.out
  have := Nat.mod_le mask.toNat (2 ^ z.toNat)
  omega

theorem piece_fits (mask z : Int) : 0 ≤ pieceF mask z ∧ (pieceF mask z).toNat < 2 ^ z.toNat := by
  unfold pieceF
  rw [Int.toNat_natCast]
  exact ⟨by omega, Nat.mod_lt _ (Nat.two_pow_pos _)⟩

/-- The number of ones that package bits reckons of its piece. -/
def onesP (mask : Int) (t : Nat) : Int := onesF (pieceF mask ((2 ^ t : Nat) : Int))

theorem onesP_eq {mask : Int} (h : Hid (0 ≤ mask ∧ mask < 18446744073709551616)) (t : Nat) : onesP mask t = ((onesN (mask.toNat % 2 ^ 2 ^ t) : Nat) : Int) := by
  unfold onesP
  rw [ones_eq _ (piece_bounds mask _ h)]
  unfold pieceF
  rw [Int.toNat_natCast, Int.toNat_natCast]

theorem onesP_bounds {mask : Int} (h : Hid (0 ≤ mask ∧ mask < 18446744073709551616)) (t : Nat) : 0 ≤ onesP mask t ∧ onesP mask t ≤ 127 := by
  rw [onesP_eq h]
  have := onesN_le (mask.toNat % 2 ^ 2 ^ t)
  omega

/-- What makes the mask is met. -/
theorem hit_met {mask : Int} {t s r : Nat} (h : Hid (0 ≤ mask ∧ mask < 18446744073709551616)) (hh : hit mask.toNat t s r) :
    repF (pieceF mask ((2 ^ t : Nat) : Int)) ((2 ^ t : Nat) : Int) = mask ∧ onesP mask t = ((s + 1 : Nat) : Int) ∧ turnF (lowF (onesP mask t)) (r : Int) ((2 ^ t : Nat) : Int) = pieceF mask ((2 ^ t : Nat) : Int) := by
  obtain ⟨h1, h2, h3, h4, h5⟩ := hh
  have hp := mask_piece (s := s) (r := r) h2
  rw [h5] at hp
  have ho : onesP mask t = ((s + 1 : Nat) : Int) := by
    rw [onesP_eq h, hp, ones_turn h1 h2 h3 h4]
  have h6 := pow_six h2
  refine ⟨?_, ho, ?_⟩
  · unfold repF repBit pieceF
    simp only [Int.toNat_natCast]
    rw [hp]
    have : orBits (fun i => (turnN (2 ^ (s + 1) - 1) r (2 ^ t)).testBit (i % 2 ^ t)) 64 = mask.toNat := h5
    rw [this]
    have := h.out
    omega
  · rw [ho]
    unfold turnF lowF pieceF
    simp only [Int.toNat_natCast]
    rw [hp, show min (s + 1) 64 = s + 1 by omega]

/-- What is met makes the mask. -/
theorem met_hit {mask : Int} {t r : Nat} (h : Hid (0 ≤ mask ∧ mask < 18446744073709551616)) (h1 : 1 ≤ t) (h2 : t ≤ 6) (hr : r < 2 ^ t)
    (m1 : repF (pieceF mask ((2 ^ t : Nat) : Int)) ((2 ^ t : Nat) : Int) = mask) (m2 : onesP mask t ≠ 0) (m3 : onesP mask t ≠ ((2 ^ t : Nat) : Int))
    (m4 : turnF (lowF (onesP mask t)) (r : Int) ((2 ^ t : Nat) : Int) = pieceF mask ((2 ^ t : Nat) : Int)) :
    ∃ s : Nat, hit mask.toNat t s r ∧ onesP mask t = (s : Int) + 1 := by
  have ho := onesP_eq h t
  have hl := onesN_le (mask.toNat % 2 ^ 2 ^ t)
  generalize hk : onesN (mask.toNat % 2 ^ 2 ^ t) = k at *
  rw [ho] at m2 m3 m4
  have h6 := pow_six h2
  have m5 : turnN (2 ^ min k 64 - 1) r (2 ^ t) = mask.toNat % 2 ^ 2 ^ t := by
    unfold turnF lowF pieceF at m4
    simp only [Int.toNat_natCast] at m4
    omega
  have hlt : k < 2 ^ t := by
    rcases Nat.lt_or_ge (2 ^ t) k with c | c
    · exact absurd (by rw [m5]; exact hk) (ones_not h1 h2 c hl hr)
    · omega
  obtain ⟨s, rfl⟩ : ∃ s, k = s + 1 := ⟨k - 1, by omega⟩
  rw [show min (s + 1) 64 = s + 1 by omega] at m5
  refine ⟨s, ⟨h1, h2, hlt, hr, ?_⟩, by rw [ho]; omega⟩
  unfold repF repBit pieceF at m1
  simp only [Int.toNat_natCast] at m1
  rw [← m5] at m1
  have : orBits (fun i => (turnN (2 ^ (s + 1) - 1) r (2 ^ t)).testBit (i % 2 ^ t)) 64 = maskN (2 ^ t) s r := rfl
  rw [← this]
  have := h.out
  omega

/-- No mask of a smaller size is it. -/
def noneBelow (M t : Nat) : Prop := ∀ t' s r, t' < t → ¬ hit M t' s r

theorem none_start (M : Nat) : noneBelow M 1 := by
  intro t' s r ht hh
  have := hh.1
  omega

theorem none_next {M t : Nat} (h : noneBelow M t) (hn : ∀ s r, ¬ hit M t s r) : noneBelow M (t + 1) := by
  intro t' s r ht hh
  rcases Nat.lt_or_eq_of_le (Nat.le_of_lt_succ ht) with c | c
  · exact h _ _ _ c hh
  · subst c; exact hn _ _ hh

theorem none_end {M : Nat} (h : noneBelow M 7) : PartsAre M 0 0 0 2 :=
  Or.inr ⟨fun t s r hh => h t s r (by have := hh.2.1; omega) hh, rfl, rfl, rfl, rfl⟩

/-- The turns below k do not meet. -/
def notYet (mask : Int) (t k : Nat) : Prop := ∀ r, r < k → turnF (lowF (onesP mask t)) (r : Int) ((2 ^ t : Nat) : Int) ≠ pieceF mask ((2 ^ t : Nat) : Int)

theorem notYet_next {mask : Int} {t k : Nat} (h : notYet mask t k) (hn : turnF (lowF (onesP mask t)) (k : Int) ((2 ^ t : Nat) : Int) ≠ pieceF mask ((2 ^ t : Nat) : Int)) : notYet mask t (k + 1) := by
  intro r hr
  rcases Nat.lt_or_eq_of_le (Nat.le_of_lt_succ hr) with c | c
  · exact h r c
  · subst c; exact hn

theorem notYet_end {mask : Int} {t : Nat} (h : Hid (0 ≤ mask ∧ mask < 18446744073709551616)) (hn : notYet mask t (2 ^ t)) : ∀ s r, ¬ hit mask.toNat t s r := by
  intro s r hh
  exact hn r hh.2.2.2.1 (hit_met h hh).2.2

theorem skip_end {mask : Int} {t : Nat} (h : Hid (0 ≤ mask ∧ mask < 18446744073709551616))
    (hn : repF (pieceF mask ((2 ^ t : Nat) : Int)) ((2 ^ t : Nat) : Int) ≠ mask ∨ onesP mask t = 0 ∨ onesP mask t = ((2 ^ t : Nat) : Int)) : ∀ s r, ¬ hit mask.toNat t s r := by
  intro s r hh
  obtain ⟨a, b, c⟩ := hit_met h hh
  have := hh.2.2.1
  rcases hn with hn | hn | hn
  · exact hn a
  · omega
  · omega

theorem found_code {mask : Int} {t r : Nat} (h : Hid (0 ≤ mask ∧ mask < 18446744073709551616)) (h1 : 1 ≤ t) (h2 : t ≤ 6) (hr : r < 2 ^ t)
    (hn : noneBelow mask.toNat t) (hy : notYet mask t r)
    (m1 : repF (pieceF mask ((2 ^ t : Nat) : Int)) ((2 ^ t : Nat) : Int) = mask) (m2 : onesP mask t ≠ 0) (m3 : onesP mask t ≠ ((2 ^ t : Nat) : Int))
    (m4 : turnF (lowF (onesP mask t)) (r : Int) ((2 ^ t : Nat) : Int) = pieceF mask ((2 ^ t : Nat) : Int)) :
    ∃ s : Nat, PartsAre mask.toNat (formA t) (r : Int) (formC t s) 0 ∧ onesP mask t = (s : Int) + 1 ∧ s < 2 ^ t := by
  obtain ⟨s, hh, ho⟩ := met_hit h h1 h2 hr m1 m2 m3 m4
  refine ⟨s, Or.inl ⟨t, s, r, ⟨hh, ?_⟩, rfl, rfl, rfl, rfl⟩, ho, by have := hh.2.2.1; omega⟩
  intro t' s' r' hh'
  unfold before
  rcases Nat.lt_trichotomy t t' with c | c | c
  · exact Or.inl c
  · subst c
    obtain ⟨a, b, d⟩ := hit_met h hh'
    have es : s = s' := by omega
    refine Or.inr ⟨rfl, Or.inr ⟨es, ?_⟩⟩
    rcases Nat.lt_or_ge r' r with e | e
    · exact absurd d (hy r' e)
    · exact e
  · exact absurd hh' (hn _ _ _ c)

end Go.Proofs.Ytpoaapncfojhoab
