/- Fields that are read with a sign, and those in two pieces: plain. -/
import Derived.Test.YtbjcdpmhmebjnaaGreatB08
namespace Go.Proofs.YtbjcdpmhmebjnaaGreat
open Go.RowKit
set_option linter.unusedVariables false

def sgI (n m : Nat) : Int := if n < 2 ^ (m - 1) then (n : Int) else (n : Int) - 2 ^ m
theorem sg_bits {n m : Nat} (h1 : 1 ≤ m) (h2 : m ≤ 32) (hn : n < 2 ^ m) (hs : ¬ n < 2 ^ (m - 1)) : orBits (signBit (n : Int) (m : Int)) 64 = (2 ^ (64 - m) - 1) * 2 ^ m + n := by
  have top : n.testBit (m - 1) = true := by
    have : n / 2 ^ (m - 1) = 1 := by
      have e : 2 ^ m = 2 ^ (m - 1) * 2 := by rw [← Nat.pow_succ]; congr 1; omega
      apply Nat.div_eq_of_lt_le <;> omega
    rw [Nat.testBit_eq_decide_div_mod_eq, this]; rfl
  apply Nat.eq_of_testBit_eq
  intro i
  rw [testBit_orBits, ← Nat.shiftLeft_eq, Nat.shiftLeft_add_eq_or_of_lt hn, Nat.testBit_or, Nat.testBit_shiftLeft, Nat.testBit_two_pow_sub_one]
  unfold signBit
  rw [Int.toNat_natCast, Int.toNat_natCast]
  by_cases hi : i < m
  · rw [show min i (m - 1) = i by omega]
    simp [show i < 64 by omega, show ¬ m ≤ i by omega]
  · rw [show min i (m - 1) = m - 1 by omega, top, Nat.testBit_lt_two_pow (Nat.lt_of_lt_of_le hn (Nat.pow_le_pow_right (by decide) (by omega)))]
    by_cases h6 : i < 64
    · simp [h6, show m ≤ i by omega, show i - m < 64 - m by omega]
    · simp [h6, show ¬ i - m < 64 - m by omega]
theorem sg_low {n m : Nat} (h1 : 1 ≤ m) (h2 : m ≤ 32) (hs : n < 2 ^ (m - 1)) : orBits (signBit (n : Int) (m : Int)) 64 = n := by
  apply Nat.eq_of_testBit_eq
  intro i
  rw [testBit_orBits]
  unfold signBit
  rw [Int.toNat_natCast, Int.toNat_natCast]
  by_cases hi : i < m
  · rw [show min i (m - 1) = i by omega]; simp [show i < 64 by omega]
  · rw [show min i (m - 1) = m - 1 by omega, Nat.testBit_lt_two_pow hs, Nat.testBit_lt_two_pow (Nat.lt_of_lt_of_le hs (Nat.pow_le_pow_right (by decide) (by omega)))]
    simp
theorem sgV_eq {n m : Nat} (h1 : 1 ≤ m) (h2 : m ≤ 32) (hn : n < 2 ^ m) : sgV (n : Int) (m : Int) = sgI n m := by
  have hm : inNumB (m : Int) = true := by unfold inNumB; simp only [decide_eq_true_eq]; omega
  have hp : (2 : Nat) ^ m ≤ 4294967296 := show 2 ^ m ≤ 2 ^ 32 from Nat.pow_le_pow_right (by decide) h2
  unfold sgV signedV sgI
  rw [if_pos hm]
  by_cases hs : n < 2 ^ (m - 1)
  · rw [if_pos hs, sg_low h1 h2 hs]
    unfold wrap64; omega
  · rw [if_neg hs, sg_bits h1 h2 hn hs]
    have e : (2 ^ (64 - m) - 1) * 2 ^ m + n = 18446744073709551616 - 2 ^ m + n := by
      rw [Nat.sub_mul, Nat.one_mul, ← Nat.pow_add, show 64 - m + m = 64 by omega]
    have hc : ((2 ^ m : Nat) : Int) = (2 : Int) ^ m := by simp
    have hlo : 2 ^ m ≤ 2 * n := by
      have : (2 : Nat) ^ m = 2 ^ (m - 1) * 2 := by rw [← Nat.pow_succ]; congr 1; omega
      omega
    rw [e, ← hc]
    unfold wrap64
    generalize 2 ^ m = q at *
    omega
theorem sgI_in {n m : Nat} (h1 : 1 ≤ m) (hn : n < 2 ^ m) : -(((2 : Nat) ^ (m - 1) : Nat) : Int) ≤ sgI n m ∧ sgI n m < ((2 : Nat) ^ (m - 1) : Nat) := by
  have e : (2 : Nat) ^ m = 2 ^ (m - 1) * 2 := by rw [← Nat.pow_succ]; congr 1; omega
  have hc : ((2 ^ m : Nat) : Int) = (2 : Int) ^ m := by simp
  unfold sgI
  rw [← hc]
  generalize 2 ^ m = q at *
  generalize 2 ^ (m - 1) = r at *
  split <;> omega
theorem dvd_int {q : Nat} (h : q ∣ 4294967296) : (q : Int) ∣ 4294967296 := Int.natCast_dvd_natCast.2 h
/-- A number with a sign, laid and read again. -/
theorem sg_back {y : Int} {m : Nat} (h1 : 1 ≤ m) (h2 : m ≤ 32) (hl : -(((2 : Nat) ^ (m - 1) : Nat) : Int) ≤ y) (hu : y < ((2 : Nat) ^ (m - 1) : Nat)) : sgI (lowN y m) m = y := by
  have e : (2 : Nat) ^ m = 2 ^ (m - 1) * 2 := by rw [← Nat.pow_succ]; congr 1; omega
  have hc : ((2 ^ m : Nat) : Int) = (2 : Int) ^ m := by simp
  have hp : (2 : Nat) ^ m ∣ 4294967296 := show 2 ^ m ∣ 2 ^ 32 from Nat.pow_dvd_pow 2 h2
  have hle : (2 : Nat) ^ m ≤ 4294967296 := Nat.le_of_dvd (by decide) hp
  have hlow : ((lowN y m : Nat) : Int) = y % ((2 ^ m : Nat) : Int) := by
    unfold lowN
    rw [Int.natCast_emod, Int.toNat_of_nonneg (Int.emod_nonneg _ (by decide)), Int.emod_emod_of_dvd _ (dvd_int hp)]
  unfold sgI
  rw [← hc]
  by_cases hy : 0 ≤ y
  · have e1 : y % ((2 ^ m : Nat) : Int) = y := Int.emod_eq_of_lt hy (by generalize 2 ^ m = q at *; generalize 2 ^ (m - 1) = r at *; omega)
    rw [e1] at hlow
    generalize 2 ^ m = q at *
    generalize 2 ^ (m - 1) = r at *
    split <;> omega
  · have e1 : y % ((2 ^ m : Nat) : Int) = y + ((2 ^ m : Nat) : Int) := by
      rw [← Int.add_emod_right]
      exact Int.emod_eq_of_lt (by generalize 2 ^ m = q at *; generalize 2 ^ (m - 1) = r at *; omega) (by generalize 2 ^ m = q at *; omega)
    rw [e1] at hlow
    generalize 2 ^ m = q at *
    generalize 2 ^ (m - 1) = r at *
    split <;> omega
/-- A number with a sign, read and laid again. -/
theorem sg_forth {n m : Nat} (h1 : 1 ≤ m) (h2 : m ≤ 32) (hn : n < 2 ^ m) : lowN (sgI n m) m = n := by
  have hc : ((2 ^ m : Nat) : Int) = (2 : Int) ^ m := by simp
  have hp : (2 : Nat) ^ m ∣ 4294967296 := show 2 ^ m ∣ 2 ^ 32 from Nat.pow_dvd_pow 2 h2
  have hlow : ∀ y : Int, ((lowN y m : Nat) : Int) = y % ((2 ^ m : Nat) : Int) := fun y => by
    unfold lowN
    rw [Int.natCast_emod, Int.toNat_of_nonneg (Int.emod_nonneg _ (by decide)), Int.emod_emod_of_dvd _ (dvd_int hp)]
  have : ((lowN (sgI n m) m : Nat) : Int) = (n : Int) := by
    rw [hlow]
    unfold sgI
    rw [← hc]
    split
    · exact Int.emod_eq_of_lt (by omega) (by generalize 2 ^ m = q at *; omega)
    · rw [Int.sub_emod_right]; exact Int.emod_eq_of_lt (by omega) (by generalize 2 ^ m = q at *; omega)
  omega
theorem wrap_four {y : Int} (h : -4294967296 ≤ y ∧ y < 4294967296) {u : Int} (h1 : 1 ≤ u) (h2 : u ≤ 4096) : wrap64 (y * u) = y * u := by
  have a := Int.mul_le_mul (show y ≤ 4294967296 by omega) h2 (by omega) (by omega)
  have b := Int.mul_le_mul (show -y ≤ 4294967296 by omega) h2 (by omega) (by omega)
  rw [Int.neg_mul] at b
  unfold wrap64
  omega
theorem sgI_small {n m : Nat} (h1 : 1 ≤ m) (h2 : m ≤ 32) (hn : n < 2 ^ m) : -4294967296 ≤ sgI n m ∧ sgI n m < 4294967296 := by
  have := sgI_in h1 hn
  have hp : (2 : Nat) ^ (m - 1) ≤ 4294967296 := show 2 ^ (m - 1) ≤ 2 ^ 32 from Nat.pow_le_pow_right (by decide) (by omega)
  omega
theorem setI_same (i : Ins) {n : Int} (h : n = i.imm) : ({ i with imm := n } : Ins) = i := by subst h; rfl
theorem cd_words (a m : Nat) (h1 : 1 ≤ m) (h2 : a + m ≤ 32) :
    Cd (wordsT a m) (fun i => [⟨a, m, lowN (i.imm.tdiv 4) m⟩]) (fun i => ∃ y : Int, -(((2 : Nat) ^ (m - 1) : Nat) : Int) ≤ y ∧ y < ((2 : Nat) ^ (m - 1) : Nat) ∧ i.imm = y * 4) (fun W i => i.imm = sgI (fld W a m) m * 4) (fun W i => { i with imm := sgI (fld W a m) m * 4 }) where
  lay W i _ h := by
    obtain ⟨y, hl, hu, e⟩ := h
    have ht : i.imm.tdiv 4 = y := by rw [e]; exact Int.mul_tdiv_cancel _ (by decide)
    show (crossW true W (i.imm.tdiv 4) a m, ({ i with imm := wrap64 (sgV (crossG true W (i.imm.tdiv 4) a m) m * 4) } : Ins)) = _
    rw [put_eq _ _ h1 h2, got_eq _ _ h1 h2, ht, sgV_eq h1 (by omega) (lowN_lt _ _), sg_back h1 (by omega) hl hu, setI_same i]
    · rfl
    · rw [e]
      have hp : (2 : Nat) ^ (m - 1) ≤ 4294967296 := show 2 ^ (m - 1) ≤ 2 ^ 32 from Nat.pow_le_pow_right (by decide) (by omega)
      exact wrap_four ⟨by omega, by omega⟩ (by decide) (by decide)
  take W i _ := by
    show (W, ({ i with imm := wrap64 (sgV (crossG false W (i.imm.tdiv 4) a m) m * 4) } : Ins)) = _
    rw [take_eq _ _ h1 h2, sgV_eq h1 (by omega) (fld_lt _ _ _), wrap_four (sgI_small h1 (by omega) (fld_lt _ _ _)) (by decide) (by decide)]
  into W i h := by
    obtain ⟨hl, hu⟩ := sgI_in h1 (fld_lt W a m)
    refine ⟨⟨_, hl, hu, h⟩, ?_⟩
    intro c hc
    obtain rfl : c = ⟨a, m, lowN (i.imm.tdiv 4) m⟩ := by simpa using hc
    show fld W a m = lowN (i.imm.tdiv 4) m
    rw [h, Int.mul_tdiv_cancel _ (by decide), sg_forth h1 (by omega) (fld_lt _ _ _)]
  fro W i h hc := by
    obtain ⟨y, hl, hu, e⟩ := h
    have this : fld W a m = lowN (i.imm.tdiv 4) m := hc _ (List.mem_singleton.2 rfl)
    rw [e, Int.mul_tdiv_cancel _ (by decide)] at this
    rw [this, sg_back h1 (by omega) hl hu]; exact e
  small i c hc := by
    obtain rfl : c = ⟨a, m, lowN (i.imm.tdiv 4) m⟩ := by simpa using hc
    exact lowN_lt _ _
theorem setSF (i : Ins) {n : Int} {f : Bool} (h : n = i.sub) (hf : f = i.flags) : ({ i with sub := n, flags := f } : Ins) = i := by subst h; subst hf; rfl
/-- The kinds of logic: the Sub, or 3 for the Sub 0 with flags. -/
theorem cd_logic : Cd logicT (fun i => [⟨29, 2, lowN (logN i) 2⟩]) (fun i => 0 ≤ i.sub ∧ i.sub ≤ 2 ∧ (i.flags = true → i.sub = 0)) (fun W i => i.sub = (fld W 29 2 : Nat).cast % 3 ∧ i.flags = (((fld W 29 2 : Nat) : Int) == 3)) (fun W i => { i with sub := (fld W 29 2 : Nat).cast % 3, flags := ((fld W 29 2 : Nat) : Int) == 3 }) where
  lay W i _ h := by
    obtain ⟨h0, h1, h2⟩ := h
    show (crossW true W (logN i) ((29 : Nat) : Int) ((2 : Nat) : Int), ({ i with sub := (crossG true W (logN i) ((29 : Nat) : Int) ((2 : Nat) : Int)).tmod 3, flags := crossG true W (logN i) ((29 : Nat) : Int) ((2 : Nat) : Int) == 3 } : Ins)) = _
    rw [put_eq _ _ (by decide) (by decide), got_eq _ _ (by decide) (by decide)]
    rcases (by omega : i.sub = 0 ∨ i.sub = 1 ∨ i.sub = 2) with h | h | h <;> cases hf : i.flags
    · have hg : lowN (logN i) 2 = 0 := by unfold logN; rw [hf, h]; rfl
      rw [setSF i (by rw [hg, h]; rfl) (by rw [hg, hf]; rfl)]; rfl
    · have hg : lowN (logN i) 2 = 3 := by unfold logN; rw [hf]; rfl
      rw [setSF i (by rw [hg, h]; rfl) (by rw [hg, hf]; rfl)]; rfl
    · have hg : lowN (logN i) 2 = 1 := by unfold logN; rw [hf, h]; rfl
      rw [setSF i (by rw [hg, h]; rfl) (by rw [hg, hf]; rfl)]; rfl
    · have := h2 hf; omega
    · have hg : lowN (logN i) 2 = 2 := by unfold logN; rw [hf, h]; rfl
      rw [setSF i (by rw [hg, h]; rfl) (by rw [hg, hf]; rfl)]; rfl
    · have := h2 hf; omega
  take W i _ := by
    show (W, ({ i with sub := (crossG false W (logN i) ((29 : Nat) : Int) ((2 : Nat) : Int)).tmod 3, flags := crossG false W (logN i) ((29 : Nat) : Int) ((2 : Nat) : Int) == 3 } : Ins)) = _
    rw [take_eq _ _ (by decide) (by decide), Int.tmod_eq_emod_of_nonneg (by omega)]
  into W i h := by
    obtain ⟨h0, h1⟩ := h
    have hl : fld W 29 2 < 4 := fld_lt W 29 2
    refine ⟨⟨by omega, by omega, fun h => by rw [h1] at h; have := beq_iff_eq.1 h; omega⟩, ?_⟩
    intro c hc
    obtain rfl : c = ⟨29, 2, lowN (logN i) 2⟩ := by simpa using hc
    show fld W 29 2 = lowN (logN i) 2
    unfold logN
    rw [h1, h0]
    rcases (by omega : fld W 29 2 = 0 ∨ fld W 29 2 = 1 ∨ fld W 29 2 = 2 ∨ fld W 29 2 = 3) with h | h | h | h <;> rw [h] <;> rfl
  fro W i h hc := by
    obtain ⟨h0, h1, h2⟩ := h
    have this : fld W 29 2 = lowN (logN i) 2 := hc _ (List.mem_singleton.2 rfl)
    rw [this]
    unfold logN
    rcases (by omega : i.sub = 0 ∨ i.sub = 1 ∨ i.sub = 2) with h | h | h <;> rw [h] at h2 ⊢ <;> cases hf : i.flags <;> first | exact ⟨rfl, rfl⟩ | exact absurd (h2 hf) (by decide)
  small i c hc := by
    obtain rfl : c = ⟨29, 2, lowN (logN i) 2⟩ := by simpa using hc
    exact lowN_lt _ _
end Go.Proofs.YtbjcdpmhmebjnaaGreat
/- Fields in two pieces: plain. -/
namespace Go.Proofs.YtbjcdpmhmebjnaaGreat
open Go.RowKit
set_option linter.unusedVariables false

def twoT (k : Fl) (u a1 a2 m2 : Int) : Tr := fun lay s => (crossW lay (crossW lay s.1 ((k.get s.2).tdiv u) a1 1) ((k.get s.2).tmod u) a2 m2, k.set (IntKind.i64.wrap (IntKind.i64.wrap (crossG lay s.1 ((k.get s.2).tdiv u) a1 1 * u) + crossG lay (crossW lay s.1 ((k.get s.2).tdiv u) a1 1) ((k.get s.2).tmod u) a2 m2)) s.2)
theorem sel0_two : sel0T = twoT .sub 2 30 10 1 := rfl
theorem tbz0_two : tbz0T = twoT .amount 32 31 19 5 := rfl
def twoC (k : Fl) (a1 a2 m2 : Nat) (i : Ins) : List Cr := [⟨a1, 1, lowN ((k.get i).tdiv ((2 ^ m2 : Nat) : Int)) 1⟩, ⟨a2, m2, lowN ((k.get i).tmod ((2 ^ m2 : Nat) : Int)) m2⟩]
def twoG (W a1 a2 m2 : Nat) : Nat := fld W a1 1 * 2 ^ m2 + fld W a2 m2
theorem two_low {x m2 : Nat} (hm : m2 ≤ 5) (h : x < 2 * 2 ^ m2) : lowN ((x : Int).tdiv ((2 ^ m2 : Nat) : Int)) 1 = x / 2 ^ m2 ∧ lowN ((x : Int).tmod ((2 ^ m2 : Nat) : Int)) m2 = x % 2 ^ m2 := by
  rw [← Int.ofNat_tdiv, ← Int.ofNat_tmod]
  exact ⟨lowN_nat (by decide) (Nat.div_lt_of_lt_mul (by omega)), lowN_nat (by omega) (Nat.mod_lt _ (Nat.two_pow_pos m2))⟩
theorem two_wrap {x : Nat} (h : x < 4294967296) {y : Nat} (hy : y ≤ x) : IntKind.i64.wrap (IntKind.i64.wrap (y : Int) + ((x - y : Nat) : Int)) = (x : Int) := by
  rw [wrapK_i64 (n := (y : Int)) ⟨by omega, by omega⟩, wrapK_i64 ⟨by omega, by omega⟩]; omega
theorem cd_two (k : Fl) (a1 a2 m2 : Nat) (ha : a1 + 1 ≤ 32) (h1 : 1 ≤ m2) (hm : m2 ≤ 5) (h2 : a2 + m2 ≤ 32) :
    Cd (twoT k ((2 ^ m2 : Nat) : Int) a1 a2 m2) (twoC k a1 a2 m2) (fun i => ∃ x : Nat, x < 2 * 2 ^ m2 ∧ k.get i = x) (fun W i => k.get i = (twoG W a1 a2 m2 : Nat)) (fun W i => k.set (twoG W a1 a2 m2 : Nat) i) where
  lay W i hW h := by
    obtain ⟨x, hx, e⟩ := h
    have hp : 2 ^ m2 ≤ 32 := show 2 ^ m2 ≤ 2 ^ 5 from Nat.pow_le_pow_right (by decide) hm
    obtain ⟨l1, l2⟩ := two_low hm hx
    show (crossW true (crossW true W ((k.get i).tdiv ((2 ^ m2 : Nat) : Int)) a1 ((1 : Nat) : Int)) ((k.get i).tmod ((2 ^ m2 : Nat) : Int)) a2 m2, k.set (IntKind.i64.wrap (IntKind.i64.wrap (crossG true W ((k.get i).tdiv ((2 ^ m2 : Nat) : Int)) a1 ((1 : Nat) : Int) * ((2 ^ m2 : Nat) : Int)) + crossG true (crossW true W ((k.get i).tdiv ((2 ^ m2 : Nat) : Int)) a1 ((1 : Nat) : Int)) ((k.get i).tmod ((2 ^ m2 : Nat) : Int)) a2 m2)) i) = _
    rw [put_eq _ _ h1 h2, got_eq _ _ h1 h2, put_eq _ _ (by decide) ha, got_eq _ _ (by decide) ha]
    have hd : x / 2 ^ m2 * 2 ^ m2 + x % 2 ^ m2 = x := by rw [Nat.mul_comm]; exact Nat.div_add_mod x _
    have hv : IntKind.i64.wrap (IntKind.i64.wrap (((lowN ((k.get i).tdiv ((2 ^ m2 : Nat) : Int)) 1 : Nat) : Int) * ((2 ^ m2 : Nat) : Int)) + ((lowN ((k.get i).tmod ((2 ^ m2 : Nat) : Int)) m2 : Nat) : Int)) = k.get i := by
      rw [e, l1, l2, ← Int.natCast_mul]
      have := two_wrap (x := x) (by omega) (y := x / 2 ^ m2 * 2 ^ m2) (by omega)
      rwa [show x - x / 2 ^ m2 * 2 ^ m2 = x % 2 ^ m2 by omega] at this
    rw [hv, Fl.set_get]; rfl
  take W i _ := by
    have hp : 2 ^ m2 ≤ 32 := show 2 ^ m2 ≤ 2 ^ 5 from Nat.pow_le_pow_right (by decide) hm
    show (W, k.set (IntKind.i64.wrap (IntKind.i64.wrap (crossG false W ((k.get i).tdiv ((2 ^ m2 : Nat) : Int)) a1 ((1 : Nat) : Int) * ((2 ^ m2 : Nat) : Int)) + crossG false W ((k.get i).tmod ((2 ^ m2 : Nat) : Int)) a2 m2)) i) = _
    rw [take_eq _ _ (by decide) ha, take_eq _ _ h1 h2, ← Int.natCast_mul]
    have l1 : fld W.toNat a1 1 < 2 := fld_lt _ _ _
    have l2 := fld_lt W.toNat a2 m2
    have l3 : fld W.toNat a1 1 * 2 ^ m2 ≤ 1 * 32 := Nat.mul_le_mul (by omega) hp
    have := two_wrap (x := twoG W.toNat a1 a2 m2) (by unfold twoG; omega) (y := fld W.toNat a1 1 * 2 ^ m2) (by unfold twoG; omega)
    rw [show twoG W.toNat a1 a2 m2 - fld W.toNat a1 1 * 2 ^ m2 = fld W.toNat a2 m2 by unfold twoG; omega] at this
    rw [this]
  into W i h := by
    have l1 : fld W a1 1 < 2 := fld_lt _ _ _
    have l2 := fld_lt W a2 m2
    have hx : twoG W a1 a2 m2 < 2 * 2 ^ m2 := by
      have l3 : fld W a1 1 * 2 ^ m2 ≤ 1 * 2 ^ m2 := Nat.mul_le_mul_right _ (by omega)
      unfold twoG; omega
    refine ⟨⟨_, hx, h⟩, ?_⟩
    obtain ⟨e1, e2⟩ := two_low hm hx
    intro c hc
    have hc : c = ⟨a1, 1, lowN ((k.get i).tdiv ((2 ^ m2 : Nat) : Int)) 1⟩ ∨ c = ⟨a2, m2, lowN ((k.get i).tmod ((2 ^ m2 : Nat) : Int)) m2⟩ := by simpa [twoC] using hc
    have p := Nat.two_pow_pos m2
    rcases hc with rfl | rfl
    · show fld W a1 1 = lowN ((k.get i).tdiv ((2 ^ m2 : Nat) : Int)) 1
      rw [h, e1]
      unfold twoG
      rw [Nat.mul_comm, Nat.mul_add_div p, Nat.div_eq_of_lt l2, Nat.add_zero]
    · show fld W a2 m2 = lowN ((k.get i).tmod ((2 ^ m2 : Nat) : Int)) m2
      rw [h, e2]
      unfold twoG
      rw [Nat.mul_comm, Nat.mul_add_mod, Nat.mod_eq_of_lt l2]
  fro W i h hc := by
    obtain ⟨x, hx, e⟩ := h
    obtain ⟨e1, e2⟩ := two_low hm hx
    have q1 : fld W a1 1 = lowN ((k.get i).tdiv ((2 ^ m2 : Nat) : Int)) 1 := hc ⟨a1, 1, lowN ((k.get i).tdiv ((2 ^ m2 : Nat) : Int)) 1⟩ (by simp [twoC])
    have q2 : fld W a2 m2 = lowN ((k.get i).tmod ((2 ^ m2 : Nat) : Int)) m2 := hc ⟨a2, m2, lowN ((k.get i).tmod ((2 ^ m2 : Nat) : Int)) m2⟩ (by simp [twoC])
    rw [e, e1] at q1
    rw [e, e2] at q2
    rw [e]
    unfold twoG
    rw [q1, q2]
    congr 1
    rw [Nat.mul_comm]; exact (Nat.div_add_mod x _).symm
  small i c hc := by
    have hc : c = ⟨a1, 1, lowN ((k.get i).tdiv ((2 ^ m2 : Nat) : Int)) 1⟩ ∨ c = ⟨a2, m2, lowN ((k.get i).tmod ((2 ^ m2 : Nat) : Int)) m2⟩ := by simpa [twoC] using hc
    rcases hc with rfl | rfl <;> exact lowN_lt _ _
theorem cd_sel0 : Cd sel0T (twoC .sub 30 10 1) (fun i => ∃ x : Nat, x < 2 * 2 ^ 1 ∧ i.sub = x) (fun W i => i.sub = (twoG W 30 10 1 : Nat)) (fun W i => { i with sub := (twoG W 30 10 1 : Nat) }) := cd_two .sub 30 10 1 (by decide) (by decide) (by decide) (by decide)
theorem cd_tbz0 : Cd tbz0T (twoC .amount 31 19 5) (fun i => ∃ x : Nat, x < 2 * 2 ^ 5 ∧ i.amount = x) (fun W i => i.amount = (twoG W 31 19 5 : Nat)) (fun W i => { i with amount := (twoG W 31 19 5 : Nat) }) := cd_two .amount 31 19 5 (by decide) (by decide) (by decide) (by decide)
theorem low_mod (y : Int) {m : Nat} (h2 : m ≤ 32) : ((lowN y m : Nat) : Int) = y % ((2 ^ m : Nat) : Int) := by
  unfold lowN
  rw [Int.natCast_emod, Int.toNat_of_nonneg (Int.emod_nonneg _ (by decide)), Int.emod_emod_of_dvd _ (dvd_int (show 2 ^ m ∣ 2 ^ 32 from Nat.pow_dvd_pow 2 h2))]
def adrF (W : Nat) : Nat := fld W 29 2 + fld W 5 19 * 4
theorem adrF_lt (W : Nat) : adrF W < 2 ^ 21 := by
  have l1 : fld W 29 2 < 4 := fld_lt W 29 2
  have l2 : fld W 5 19 < 524288 := fld_lt W 5 19
  show _ < 2097152
  unfold adrF; omega
def adrC (i : Ins) : List Cr := [⟨29, 2, lowN (adrN i) 2⟩, ⟨5, 19, lowN (adrN i / 4) 19⟩]
theorem adr_num {i : Ins} {y : Int} (h : i.imm = y * adrU i) : adrN i = y := by
  unfold adrN adrU at *
  cases e : (i.sub == 1)
  · rw [e] at h; simpa using h
  · rw [e] at h
    have h : i.imm = y * 4096 := h
    show i.imm.tdiv 4096 = y
    rw [h]; exact Int.mul_tdiv_cancel _ (by decide)
theorem adrU_in (i : Ins) : 1 ≤ adrU i ∧ adrU i ≤ 4096 := by unfold adrU; cases (i.sub == 1) <;> decide
theorem adr_low (y : Int) : lowN y 2 + lowN (y / 4) 19 * 4 = lowN y 21 := by
  have a : ((lowN y 2 : Nat) : Int) = y % 4 := low_mod y (by decide)
  have b : ((lowN (y / 4) 19 : Nat) : Int) = (y / 4) % 524288 := low_mod (y / 4) (by decide)
  have c : ((lowN y 21 : Nat) : Int) = y % 2097152 := low_mod y (by decide)
  omega
theorem cd_adr0 : Cd adr0T adrC (fun i => ∃ y : Int, -1048576 ≤ y ∧ y < 1048576 ∧ i.imm = y * adrU i) (fun W i => i.imm = sgI (adrF W) 21 * adrU i) (fun W i => { i with imm := sgI (adrF W) 21 * adrU i }) where
  lay W i _ h := by
    obtain ⟨y, hl, hu, e⟩ := h
    have hn := adr_num e
    obtain ⟨u1, u2⟩ := adrU_in i
    show (crossW true (crossW true W (adrN i) ((29 : Nat) : Int) ((2 : Nat) : Int)) (adrN i / 4) ((5 : Nat) : Int) ((19 : Nat) : Int), ({ i with imm := wrap64 (sgV (crossG true W (adrN i) ((29 : Nat) : Int) ((2 : Nat) : Int) + crossG true (crossW true W (adrN i) ((29 : Nat) : Int) ((2 : Nat) : Int)) (adrN i / 4) ((5 : Nat) : Int) ((19 : Nat) : Int) * 4) ((21 : Nat) : Int) * adrU i) } : Ins)) = _
    rw [put_eq _ _ (by decide) (by decide), got_eq _ _ (by decide) (by decide), put_eq _ _ (by decide) (by decide), got_eq _ _ (by decide) (by decide)]
    have hv : (((lowN (adrN i) 2 : Nat) : Int) + ((lowN (adrN i / 4) 19 : Nat) : Int) * 4) = ((lowN y 21 : Nat) : Int) := by rw [hn]; have := adr_low y; omega
    rw [hv, sgV_eq (by decide) (by decide) (lowN_lt _ _), sg_back (by decide) (by decide) hl hu, wrap_four ⟨by omega, by omega⟩ u1 u2, setI_same i e.symm]
    rfl
  take W i _ := by
    obtain ⟨u1, u2⟩ := adrU_in i
    show (W, ({ i with imm := wrap64 (sgV (crossG false W (adrN i) ((29 : Nat) : Int) ((2 : Nat) : Int) + crossG false W (adrN i / 4) ((5 : Nat) : Int) ((19 : Nat) : Int) * 4) ((21 : Nat) : Int) * adrU i) } : Ins)) = _
    rw [take_eq _ _ (by decide) (by decide), take_eq _ _ (by decide) (by decide)]
    have hv : (((fld W.toNat 29 2 : Nat) : Int) + ((fld W.toNat 5 19 : Nat) : Int) * 4) = ((adrF W.toNat : Nat) : Int) := by unfold adrF; omega
    rw [hv, sgV_eq (by decide) (by decide) (adrF_lt _), wrap_four (sgI_small (by decide) (by decide) (adrF_lt _)) u1 u2]
  into W i h := by
    obtain ⟨hl, hu⟩ := sgI_in (m := 21) (by decide) (adrF_lt W)
    refine ⟨⟨_, hl, hu, h⟩, ?_⟩
    have hn := adr_num h
    have hb := sg_forth (m := 21) (by decide) (by decide) (adrF_lt W)
    have l1 : fld W 29 2 < 4 := fld_lt W 29 2
    have l2 : fld W 5 19 < 524288 := fld_lt W 5 19
    have hs := adr_low (adrN i)
    rw [hn] at hs
    rw [hb] at hs
    have m1 : lowN (sgI (adrF W) 21) 2 < 4 := lowN_lt _ 2
    have m2 : adrF W = fld W 29 2 + fld W 5 19 * 4 := rfl
    intro c hc
    have hc : c = ⟨29, 2, lowN (adrN i) 2⟩ ∨ c = ⟨5, 19, lowN (adrN i / 4) 19⟩ := by simpa [adrC] using hc
    rcases hc with rfl | rfl
    · show fld W 29 2 = lowN (adrN i) 2
      rw [hn]; omega
    · show fld W 5 19 = lowN (adrN i / 4) 19
      rw [hn]; omega
  fro W i h hc := by
    obtain ⟨y, hl, hu, e⟩ := h
    have hn := adr_num e
    have q1 : fld W 29 2 = lowN (adrN i) 2 := hc ⟨29, 2, lowN (adrN i) 2⟩ (by simp [adrC])
    have q2 : fld W 5 19 = lowN (adrN i / 4) 19 := hc ⟨5, 19, lowN (adrN i / 4) 19⟩ (by simp [adrC])
    have : adrF W = lowN y 21 := by unfold adrF; rw [q1, q2, hn]; exact adr_low y
    rw [this, sg_back (by decide) (by decide) hl hu]; exact e
  small i c hc := by
    have hc : c = ⟨29, 2, lowN (adrN i) 2⟩ ∨ c = ⟨5, 19, lowN (adrN i / 4) 19⟩ := by simpa [adrC] using hc
    rcases hc with rfl | rfl <;> exact lowN_lt _ _
end Go.Proofs.YtbjcdpmhmebjnaaGreat
