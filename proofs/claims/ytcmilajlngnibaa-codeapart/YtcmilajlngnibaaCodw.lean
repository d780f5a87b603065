/- Fields that are read with a sign, and those in two pieces: plain. -/
import Derived.Test.YtcmilajlngnibaaCod
namespace Go.Proofs.Ytcmilajlngnibaa
open Go.RowKit
set_option linter.unusedVariables false

def sgI (n m : Nat) : Int := if n < 2 ^ (m - 1) then (n : Int) else (n : Int) - 2 ^ m
theorem sg_bits {n m : Nat} (h1 : 1 ≤ m) (h2 : m ≤ 32) (hn : n < 2 ^ m) (hs : ¬ n < 2 ^ (m - 1)) : orBits (signBit (n : Int) (m : Int)) 64 = (2 ^ (64 - m) - 1) * 2 ^ m + n := by
  have top : n.testBit (m - 1) = true := by
    have : n / 2 ^ (m - 1) = 1 := by
      have e : 2 ^ m = 2 ^ (m - 1) * 2 := by rw [← Nat.pow_succ]; congr 1; omega
      apply Nat.div_eq_of_lt_le <;> omega
    rw [Nat.testBit_eq_decide_div_mod_eq, this]; rfl
  apply Nat.eq_of_testBit_eq
  intro i
  rw [testBit_orBits, ← Nat.shiftLeft_eq, Nat.shiftLeft_add_eq_or_of_lt hn, Nat.testBit_or, Nat.testBit_shiftLeft, Nat.testBit_two_pow_sub_one]
  unfold signBit
  rw [Int.toNat_natCast, Int.toNat_natCast]
  by_cases hi : i < m
  · rw [show min i (m - 1) = i by omega]
    simp [show i < 64 by omega, show ¬ m ≤ i by omega]
  · rw [show min i (m - 1) = m - 1 by omega, top, Nat.testBit_lt_two_pow (Nat.lt_of_lt_of_le hn (Nat.pow_le_pow_right (by decide) (by omega)))]
    by_cases h6 : i < 64
    · simp [h6, show m ≤ i by omega, show i - m < 64 - m by omega]
    · simp [h6, show ¬ i - m < 64 - m by omega]
theorem sg_low {n m : Nat} (h1 : 1 ≤ m) (h2 : m ≤ 32) (hs : n < 2 ^ (m - 1)) : orBits (signBit (n : Int) (m : Int)) 64 = n := by
  apply Nat.eq_of_testBit_eq
  intro i
  rw [testBit_orBits]
  unfold signBit
  rw [Int.toNat_natCast, Int.toNat_natCast]
  by_cases hi : i < m
  · rw [show min i (m - 1) = i by omega]; simp [show i < 64 by omega]
  · rw [show min i (m - 1) = m - 1 by omega, Nat.testBit_lt_two_pow hs, Nat.testBit_lt_two_pow (Nat.lt_of_lt_of_le hs (Nat.pow_le_pow_right (by decide) (by omega)))]
    simp
theorem sgV_eq {n m : Nat} (h1 : 1 ≤ m) (h2 : m ≤ 32) (hn : n < 2 ^ m) : sgV (n : Int) (m : Int) = sgI n m := by
  have hm : inNumB (m : Int) = true := by unfold inNumB; simp only [decide_eq_true_eq]; omega
  have hp : (2 : Nat) ^ m ≤ 4294967296 := show 2 ^ m ≤ 2 ^ 32 from Nat.pow_le_pow_right (by decide) h2
  unfold sgV signedV sgI
  rw [if_pos hm]
  by_cases hs : n < 2 ^ (m - 1)
  · rw [if_pos hs, sg_low h1 h2 hs]
    unfold wrap64; omega
  · rw [if_neg hs, sg_bits h1 h2 hn hs]
    have e : (2 ^ (64 - m) - 1) * 2 ^ m + n = 18446744073709551616 - 2 ^ m + n := by
      rw [Nat.sub_mul, Nat.one_mul, ← Nat.pow_add, show 64 - m + m = 64 by omega]
    have hc : ((2 ^ m : Nat) : Int) = (2 : Int) ^ m := by simp
    have hlo : 2 ^ m ≤ 2 * n := by
      have : (2 : Nat) ^ m = 2 ^ (m - 1) * 2 := by rw [← Nat.pow_succ]; congr 1; omega
      omega
    rw [e, ← hc]
    unfold wrap64
    generalize 2 ^ m = q at *
    omega
theorem sgI_in {n m : Nat} (h1 : 1 ≤ m) (hn : n < 2 ^ m) : -(((2 : Nat) ^ (m - 1) : Nat) : Int) ≤ sgI n m ∧ sgI n m < ((2 : Nat) ^ (m - 1) : Nat) := by
  have e : (2 : Nat) ^ m = 2 ^ (m - 1) * 2 := by rw [← Nat.pow_succ]; congr 1; omega
  have hc : ((2 ^ m : Nat) : Int) = (2 : Int) ^ m := by simp
  unfold sgI
  rw [← hc]
  generalize 2 ^ m = q at *
  generalize 2 ^ (m - 1) = r at *
  split <;> omega
theorem dvd_int {q : Nat} (h : q ∣ 4294967296) : (q : Int) ∣ 4294967296 := Int.natCast_dvd_natCast.2 h
/-- A number with a sign, laid and read again. -/
theorem sg_back {y : Int} {m : Nat} (h1 : 1 ≤ m) (h2 : m ≤ 32) (hl : -(((2 : Nat) ^ (m - 1) : Nat) : Int) ≤ y) (hu : y < ((2 : Nat) ^ (m - 1) : Nat)) : sgI (lowN y m) m = y := by
  have e : (2 : Nat) ^ m = 2 ^ (m - 1) * 2 := by rw [← Nat.pow_succ]; congr 1; omega
  have hc : ((2 ^ m : Nat) : Int) = (2 : Int) ^ m := by simp
  have hp : (2 : Nat) ^ m ∣ 4294967296 := show 2 ^ m ∣ 2 ^ 32 from Nat.pow_dvd_pow 2 h2
  have hle : (2 : Nat) ^ m ≤ 4294967296 := Nat.le_of_dvd (by decide) hp
  have hlow : ((lowN y m : Nat) : Int) = y % ((2 ^ m : Nat) : Int) := by
    unfold lowN
    rw [Int.natCast_emod, Int.toNat_of_nonneg (Int.emod_nonneg _ (by decide)), Int.emod_emod_of_dvd _ (dvd_int hp)]
  unfold sgI
  rw [← hc]
  by_cases hy : 0 ≤ y
  · have e1 : y % ((2 ^ m : Nat) : Int) = y := Int.emod_eq_of_lt hy (by generalize 2 ^ m = q at *; generalize 2 ^ (m - 1) = r at *; omega)
    rw [e1] at hlow
    generalize 2 ^ m = q at *
    generalize 2 ^ (m - 1) = r at *
    split <;> omega
  · have e1 : y % ((2 ^ m : Nat) : Int) = y + ((2 ^ m : Nat) : Int) := by
      rw [← Int.add_emod_right]
      exact Int.emod_eq_of_lt (by generalize 2 ^ m = q at *; generalize 2 ^ (m - 1) = r at *; omega) (by generalize 2 ^ m = q at *; omega)
    rw [e1] at hlow
    generalize 2 ^ m = q at *
    generalize 2 ^ (m - 1) = r at *
    split <;> omega
/-- A number with a sign, read and laid again. -/
theorem sg_forth {n m : Nat} (h1 : 1 ≤ m) (h2 : m ≤ 32) (hn : n < 2 ^ m) : lowN (sgI n m) m = n := by
  have hc : ((2 ^ m : Nat) : Int) = (2 : Int) ^ m := by simp
  have hp : (2 : Nat) ^ m ∣ 4294967296 := show 2 ^ m ∣ 2 ^ 32 from Nat.pow_dvd_pow 2 h2
  have hlow : ∀ y : Int, ((lowN y m : Nat) : Int) = y % ((2 ^ m : Nat) : Int) := fun y => by
    unfold lowN
    rw [Int.natCast_emod, Int.toNat_of_nonneg (Int.emod_nonneg _ (by decide)), Int.emod_emod_of_dvd _ (dvd_int hp)]
  have : ((lowN (sgI n m) m : Nat) : Int) = (n : Int) := by
    rw [hlow]
    unfold sgI
    rw [← hc]
    split
    · exact Int.emod_eq_of_lt (by omega) (by generalize 2 ^ m = q at *; omega)
    · rw [Int.sub_emod_right]; exact Int.emod_eq_of_lt (by omega) (by generalize 2 ^ m = q at *; omega)
  omega
theorem wrap_four {y : Int} (h : -4294967296 ≤ y ∧ y < 4294967296) {u : Int} (h1 : 1 ≤ u) (h2 : u ≤ 4096) : wrap64 (y * u) = y * u := by
  have a := Int.mul_le_mul (show y ≤ 4294967296 by omega) h2 (by omega) (by omega)
  have b := Int.mul_le_mul (show -y ≤ 4294967296 by omega) h2 (by omega) (by omega)
  rw [Int.neg_mul] at b
  unfold wrap64
  omega
theorem sgI_small {n m : Nat} (h1 : 1 ≤ m) (h2 : m ≤ 32) (hn : n < 2 ^ m) : -4294967296 ≤ sgI n m ∧ sgI n m < 4294967296 := by
  have := sgI_in h1 hn
  have hp : (2 : Nat) ^ (m - 1) ≤ 4294967296 := show 2 ^ (m - 1) ≤ 2 ^ 32 from Nat.pow_le_pow_right (by decide) (by omega)
  omega
theorem setI_same (i : Ins) {n : Int} (h : n = i.imm) : ({ i with imm := n } : Ins) = i := by subst h; rfl
theorem cd_words (a m : Nat) (h1 : 1 ≤ m) (h2 : a + m ≤ 32) :
    Cd (wordsT a m) (fun i => [⟨a, m, lowN (i.imm.tdiv 4) m⟩]) (fun i => ∃ y : Int, -(((2 : Nat) ^ (m - 1) : Nat) : Int) ≤ y ∧ y < ((2 : Nat) ^ (m - 1) : Nat) ∧ i.imm = y * 4) (fun W i => i.imm = sgI (fld W a m) m * 4) (fun W i => { i with imm := sgI (fld W a m) m * 4 }) where
  lay W i _ h := by
    obtain ⟨y, hl, hu, e⟩ := h
    have ht : i.imm.tdiv 4 = y := by rw [e]; exact Int.mul_tdiv_cancel _ (by decide)
    show (crossW true W (i.imm.tdiv 4) a m, ({ i with imm := wrap64 (sgV (crossG true W (i.imm.tdiv 4) a m) m * 4) } : Ins)) = _
    rw [put_eq _ _ h1 h2, got_eq _ _ h1 h2, ht, sgV_eq h1 (by omega) (lowN_lt _ _), sg_back h1 (by omega) hl hu, setI_same i]
    · rfl
    · rw [e]
      have hp : (2 : Nat) ^ (m - 1) ≤ 4294967296 := show 2 ^ (m - 1) ≤ 2 ^ 32 from Nat.pow_le_pow_right (by decide) (by omega)
      exact wrap_four ⟨by omega, by omega⟩ (by decide) (by decide)
  take W i _ := by
    show (W, ({ i with imm := wrap64 (sgV (crossG false W (i.imm.tdiv 4) a m) m * 4) } : Ins)) = _
    rw [take_eq _ _ h1 h2, sgV_eq h1 (by omega) (fld_lt _ _ _), wrap_four (sgI_small h1 (by omega) (fld_lt _ _ _)) (by decide) (by decide)]
  into W i h := by
    obtain ⟨hl, hu⟩ := sgI_in h1 (fld_lt W a m)
    refine ⟨⟨_, hl, hu, h⟩, ?_⟩
    intro c hc
    obtain rfl : c = ⟨a, m, lowN (i.imm.tdiv 4) m⟩ := by simpa using hc
    show fld W a m = lowN (i.imm.tdiv 4) m
    rw [h, Int.mul_tdiv_cancel _ (by decide), sg_forth h1 (by omega) (fld_lt _ _ _)]
  fro W i h hc := by
    obtain ⟨y, hl, hu, e⟩ := h
    have this : fld W a m = lowN (i.imm.tdiv 4) m := hc _ (List.mem_singleton.2 rfl)
    rw [e, Int.mul_tdiv_cancel _ (by decide)] at this
    rw [this, sg_back h1 (by omega) hl hu]; exact e
  small i c hc := by
    obtain rfl : c = ⟨a, m, lowN (i.imm.tdiv 4) m⟩ := by simpa using hc
    exact lowN_lt _ _
theorem setSF (i : Ins) {n : Int} {f : Bool} (h : n = i.sub) (hf : f = i.flags) : ({ i with sub := n, flags := f } : Ins) = i := by subst h; subst hf; rfl
/-- The kinds of logic: the Sub, or 3 for the Sub 0 with flags. -/
theorem cd_logic : Cd logicT (fun i => [⟨29, 2, lowN (logN i) 2⟩]) (fun i => 0 ≤ i.sub ∧ i.sub ≤ 2 ∧ (i.flags = true → i.sub = 0)) (fun W i => i.sub = (fld W 29 2 : Nat).cast % 3 ∧ i.flags = (((fld W 29 2 : Nat) : Int) == 3)) (fun W i => { i with sub := (fld W 29 2 : Nat).cast % 3, flags := ((fld W 29 2 : Nat) : Int) == 3 }) where
  lay W i _ h := by
    obtain ⟨h0, h1, h2⟩ := h
    show (crossW true W (logN i) ((29 : Nat) : Int) ((2 : Nat) : Int), ({ i with sub := (crossG true W (logN i) ((29 : Nat) : Int) ((2 : Nat) : Int)).tmod 3, flags := crossG true W (logN i) ((29 : Nat) : Int) ((2 : Nat) : Int) == 3 } : Ins)) = _
    rw [put_eq _ _ (by decide) (by decide), got_eq _ _ (by decide) (by decide)]
    rcases (by omega : i.sub = 0 ∨ i.sub = 1 ∨ i.sub = 2) with h | h | h <;> cases hf : i.flags
    · have hg : lowN (logN i) 2 = 0 := by unfold logN; rw [hf, h]; rfl
      rw [setSF i (by rw [hg, h]; rfl) (by rw [hg, hf]; rfl)]; rfl
    · have hg : lowN (logN i) 2 = 3 := by unfold logN; rw [hf]; rfl
      rw [setSF i (by rw [hg, h]; rfl) (by rw [hg, hf]; rfl)]; rfl
    · have hg : lowN (logN i) 2 = 1 := by unfold logN; rw [hf, h]; rfl
      rw [setSF i (by rw [hg, h]; rfl) (by rw [hg, hf]; rfl)]; rfl
    · have := h2 hf; omega
    · have hg : lowN (logN i) 2 = 2 := by unfold logN; rw [hf, h]; rfl
      rw [setSF i (by rw [hg, h]; rfl) (by rw [hg, hf]; rfl)]; rfl
    · have := h2 hf; omega
  take W i _ := by
    show (W, ({ i with sub := (crossG false W (logN i) ((29 : Nat) : Int) ((2 : Nat) : Int)).tmod 3, flags := crossG false W (logN i) ((29 : Nat) : Int) ((2 : Nat) : Int) == 3 } : Ins)) = _
    rw [take_eq _ _ (by decide) (by decide), Int.tmod_eq_emod_of_nonneg (by omega)]
  into W i h := by
    obtain ⟨h0, h1⟩ := h
    have hl : fld W 29 2 < 4 := fld_lt W 29 2
    refine ⟨⟨by omega, by omega, fun h => by rw [h1] at h; have := beq_iff_eq.1 h; omega⟩, ?_⟩
    intro c hc
    obtain rfl : c = ⟨29, 2, lowN (logN i) 2⟩ := by simpa using hc
    show fld W 29 2 = lowN (logN i) 2
    unfold logN
    rw [h1, h0]
    rcases (by omega : fld W 29 2 = 0 ∨ fld W 29 2 = 1 ∨ fld W 29 2 = 2 ∨ fld W 29 2 = 3) with h | h | h | h <;> rw [h] <;> rfl
  fro W i h hc := by
    obtain ⟨h0, h1, h2⟩ := h
    have this : fld W 29 2 = lowN (logN i) 2 := hc _ (List.mem_singleton.2 rfl)
    rw [this]
    unfold logN
    rcases (by omega : i.sub = 0 ∨ i.sub = 1 ∨ i.sub = 2) with h | h | h <;> rw [h] at h2 ⊢ <;> cases hf : i.flags <;> first | exact ⟨rfl, rfl⟩ | exact absurd (h2 hf) (by decide)
  small i c hc := by
    obtain rfl : c = ⟨29, 2, lowN (logN i) 2⟩ := by simpa using hc
    exact lowN_lt _ _
end Go.Proofs.Ytcmilajlngnibaa
