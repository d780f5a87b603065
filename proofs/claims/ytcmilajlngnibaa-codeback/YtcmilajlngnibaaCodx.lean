/- Fields in two pieces: plain. -/
import Derived.Test.YtcmilajlngnibaaCodw
namespace Go.Proofs.Ytcmilajlngnibaa
open Go.RowKit
set_option linter.unusedVariables false

def twoT (k : Fl) (u a1 a2 m2 : Int) : Tr := fun lay s => (crossW lay (crossW lay s.1 ((k.get s.2).tdiv u) a1 1) ((k.get s.2).tmod u) a2 m2, k.set (IntKind.i64.wrap (IntKind.i64.wrap (crossG lay s.1 ((k.get s.2).tdiv u) a1 1 * u) + crossG lay (crossW lay s.1 ((k.get s.2).tdiv u) a1 1) ((k.get s.2).tmod u) a2 m2)) s.2)
theorem sel0_two : sel0T = twoT .sub 2 30 10 1 := rfl
theorem tbz0_two : tbz0T = twoT .amount 32 31 19 5 := rfl
def twoC (k : Fl) (a1 a2 m2 : Nat) (i : Ins) : List Cr := [⟨a1, 1, lowN ((k.get i).tdiv ((2 ^ m2 : Nat) : Int)) 1⟩, ⟨a2, m2, lowN ((k.get i).tmod ((2 ^ m2 : Nat) : Int)) m2⟩]
def twoG (W a1 a2 m2 : Nat) : Nat := fld W a1 1 * 2 ^ m2 + fld W a2 m2
theorem two_low {x m2 : Nat} (hm : m2 ≤ 5) (h : x < 2 * 2 ^ m2) : lowN ((x : Int).tdiv ((2 ^ m2 : Nat) : Int)) 1 = x / 2 ^ m2 ∧ lowN ((x : Int).tmod ((2 ^ m2 : Nat) : Int)) m2 = x % 2 ^ m2 := by
  rw [← Int.ofNat_tdiv, ← Int.ofNat_tmod]
  exact ⟨lowN_nat (by decide) (Nat.div_lt_of_lt_mul (by omega)), lowN_nat (by omega) (Nat.mod_lt _ (Nat.two_pow_pos m2))⟩
theorem two_wrap {x : Nat} (h : x < 4294967296) {y : Nat} (hy : y ≤ x) : IntKind.i64.wrap (IntKind.i64.wrap (y : Int) + ((x - y : Nat) : Int)) = (x : Int) := by
  rw [wrapK_i64 (n := (y : Int)) ⟨by omega, by omega⟩, wrapK_i64 ⟨by omega, by omega⟩]; omega
theorem cd_two (k : Fl) (a1 a2 m2 : Nat) (ha : a1 + 1 ≤ 32) (h1 : 1 ≤ m2) (hm : m2 ≤ 5) (h2 : a2 + m2 ≤ 32) :
    Cd (twoT k ((2 ^ m2 : Nat) : Int) a1 a2 m2) (twoC k a1 a2 m2) (fun i => ∃ x : Nat, x < 2 * 2 ^ m2 ∧ k.get i = x) (fun W i => k.get i = (twoG W a1 a2 m2 : Nat)) (fun W i => k.set (twoG W a1 a2 m2 : Nat) i) where
  lay W i hW h := by
    obtain ⟨x, hx, e⟩ := h
    have hp : 2 ^ m2 ≤ 32 := show 2 ^ m2 ≤ 2 ^ 5 from Nat.pow_le_pow_right (by decide) hm
    obtain ⟨l1, l2⟩ := two_low hm hx
    show (crossW true (crossW true W ((k.get i).tdiv ((2 ^ m2 : Nat) : Int)) a1 ((1 : Nat) : Int)) ((k.get i).tmod ((2 ^ m2 : Nat) : Int)) a2 m2, k.set (IntKind.i64.wrap (IntKind.i64.wrap (crossG true W ((k.get i).tdiv ((2 ^ m2 : Nat) : Int)) a1 ((1 : Nat) : Int) * ((2 ^ m2 : Nat) : Int)) + crossG true (crossW true W ((k.get i).tdiv ((2 ^ m2 : Nat) : Int)) a1 ((1 : Nat) : Int)) ((k.get i).tmod ((2 ^ m2 : Nat) : Int)) a2 m2)) i) = _
    rw [put_eq _ _ h1 h2, got_eq _ _ h1 h2, put_eq _ _ (by decide) ha, got_eq _ _ (by decide) ha]
    have hd : x / 2 ^ m2 * 2 ^ m2 + x % 2 ^ m2 = x := by rw [Nat.mul_comm]; exact Nat.div_add_mod x _
    have hv : IntKind.i64.wrap (IntKind.i64.wrap (((lowN ((k.get i).tdiv ((2 ^ m2 : Nat) : Int)) 1 : Nat) : Int) * ((2 ^ m2 : Nat) : Int)) + ((lowN ((k.get i).tmod ((2 ^ m2 : Nat) : Int)) m2 : Nat) : Int)) = k.get i := by
      rw [e, l1, l2, ← Int.natCast_mul]
      have := two_wrap (x := x) (by omega) (y := x / 2 ^ m2 * 2 ^ m2) (by omega)
      rwa [show x - x / 2 ^ m2 * 2 ^ m2 = x % 2 ^ m2 by omega] at this
    rw [hv, Fl.set_get]; rfl
  take W i _ := by
    have hp : 2 ^ m2 ≤ 32 := show 2 ^ m2 ≤ 2 ^ 5 from Nat.pow_le_pow_right (by decide) hm
    show (W, k.set (IntKind.i64.wrap (IntKind.i64.wrap (crossG false W ((k.get i).tdiv ((2 ^ m2 : Nat) : Int)) a1 ((1 : Nat) : Int) * ((2 ^ m2 : Nat) : Int)) + crossG false W ((k.get i).tmod ((2 ^ m2 : Nat) : Int)) a2 m2)) i) = _
    rw [take_eq _ _ (by decide) ha, take_eq _ _ h1 h2, ← Int.natCast_mul]
    have l1 : fld W.toNat a1 1 < 2 := fld_lt _ _ _
    have l2 := fld_lt W.toNat a2 m2
    have l3 : fld W.toNat a1 1 * 2 ^ m2 ≤ 1 * 32 := Nat.mul_le_mul (by omega) hp
    have := two_wrap (x := twoG W.toNat a1 a2 m2) (by unfold twoG; omega) (y := fld W.toNat a1 1 * 2 ^ m2) (by unfold twoG; omega)
    rw [show twoG W.toNat a1 a2 m2 - fld W.toNat a1 1 * 2 ^ m2 = fld W.toNat a2 m2 by unfold twoG; omega] at this
    rw [this]
  into W i h := by
    have l1 : fld W a1 1 < 2 := fld_lt _ _ _
    have l2 := fld_lt W a2 m2
    have hx : twoG W a1 a2 m2 < 2 * 2 ^ m2 := by
      have l3 : fld W a1 1 * 2 ^ m2 ≤ 1 * 2 ^ m2 := Nat.mul_le_mul_right _ (by omega)
      unfold twoG; omega
    refine ⟨⟨_, hx, h⟩, ?_⟩
    obtain ⟨e1, e2⟩ := two_low hm hx
    intro c hc
    have hc : c = ⟨a1, 1, lowN ((k.get i).tdiv ((2 ^ m2 : Nat) : Int)) 1⟩ ∨ c = ⟨a2, m2, lowN ((k.get i).tmod ((2 ^ m2 : Nat) : Int)) m2⟩ := by simpa [twoC] using hc
    have p := Nat.two_pow_pos m2
    rcases hc with rfl | rfl
    · show fld W a1 1 = lowN ((k.get i).tdiv ((2 ^ m2 : Nat) : Int)) 1
      rw [h, e1]
      unfold twoG
      rw [Nat.mul_comm, Nat.mul_add_div p, Nat.div_eq_of_lt l2, Nat.add_zero]
    · show fld W a2 m2 = lowN ((k.get i).tmod ((2 ^ m2 : Nat) : Int)) m2
      rw [h, e2]
      unfold twoG
      rw [Nat.mul_comm, Nat.mul_add_mod, Nat.mod_eq_of_lt l2]
  fro W i h hc := by
    obtain ⟨x, hx, e⟩ := h
    obtain ⟨e1, e2⟩ := two_low hm hx
    have q1 : fld W a1 1 = lowN ((k.get i).tdiv ((2 ^ m2 : Nat) : Int)) 1 := hc ⟨a1, 1, lowN ((k.get i).tdiv ((2 ^ m2 : Nat) : Int)) 1⟩ (by simp [twoC])
    have q2 : fld W a2 m2 = lowN ((k.get i).tmod ((2 ^ m2 : Nat) : Int)) m2 := hc ⟨a2, m2, lowN ((k.get i).tmod ((2 ^ m2 : Nat) : Int)) m2⟩ (by simp [twoC])
    rw [e, e1] at q1
    rw [e, e2] at q2
    rw [e]
    unfold twoG
    rw [q1, q2]
    congr 1
    rw [Nat.mul_comm]; exact (Nat.div_add_mod x _).symm
  small i c hc := by
    have hc : c = ⟨a1, 1, lowN ((k.get i).tdiv ((2 ^ m2 : Nat) : Int)) 1⟩ ∨ c = ⟨a2, m2, lowN ((k.get i).tmod ((2 ^ m2 : Nat) : Int)) m2⟩ := by simpa [twoC] using hc
    rcases hc with rfl | rfl <;> exact lowN_lt _ _
theorem cd_sel0 : Cd sel0T (twoC .sub 30 10 1) (fun i => ∃ x : Nat, x < 2 * 2 ^ 1 ∧ i.sub = x) (fun W i => i.sub = (twoG W 30 10 1 : Nat)) (fun W i => { i with sub := (twoG W 30 10 1 : Nat) }) := cd_two .sub 30 10 1 (by decide) (by decide) (by decide) (by decide)
theorem cd_tbz0 : Cd tbz0T (twoC .amount 31 19 5) (fun i => ∃ x : Nat, x < 2 * 2 ^ 5 ∧ i.amount = x) (fun W i => i.amount = (twoG W 31 19 5 : Nat)) (fun W i => { i with amount := (twoG W 31 19 5 : Nat) }) := cd_two .amount 31 19 5 (by decide) (by decide) (by decide) (by decide)
theorem low_mod (y : Int) {m : Nat} (h2 : m ≤ 32) : ((lowN y m : Nat) : Int) = y % ((2 ^ m : Nat) : Int) := by
  unfold lowN
  rw [Int.natCast_emod, Int.toNat_of_nonneg (Int.emod_nonneg _ (by decide)), Int.emod_emod_of_dvd _ (dvd_int (show 2 ^ m ∣ 2 ^ 32 from Nat.pow_dvd_pow 2 h2))]
def adrF (W : Nat) : Nat := fld W 29 2 + fld W 5 19 * 4
theorem adrF_lt (W : Nat) : adrF W < 2 ^ 21 := by
  have l1 : fld W 29 2 < 4 := fld_lt W 29 2
  have l2 : fld W 5 19 < 524288 := fld_lt W 5 19
  show _ < 2097152
  unfold adrF; omega
def adrC (i : Ins) : List Cr := [⟨29, 2, lowN (adrN i) 2⟩, ⟨5, 19, lowN (adrN i / 4) 19⟩]
theorem adr_num {i : Ins} {y : Int} (h : i.imm = y * adrU i) : adrN i = y := by
  unfold adrN adrU at *
  cases e : (i.sub == 1)
  · rw [e] at h; simpa using h
  · rw [e] at h
    have h : i.imm = y * 4096 := h
    show i.imm.tdiv 4096 = y
    rw [h]; exact Int.mul_tdiv_cancel _ (by decide)
theorem adrU_in (i : Ins) : 1 ≤ adrU i ∧ adrU i ≤ 4096 := by unfold adrU; cases (i.sub == 1) <;> decide
theorem adr_low (y : Int) : lowN y 2 + lowN (y / 4) 19 * 4 = lowN y 21 := by
  have a : ((lowN y 2 : Nat) : Int) = y % 4 := low_mod y (by decide)
  have b : ((lowN (y / 4) 19 : Nat) : Int) = (y / 4) % 524288 := low_mod (y / 4) (by decide)
  have c : ((lowN y 21 : Nat) : Int) = y % 2097152 := low_mod y (by decide)
  omega
theorem cd_adr0 : Cd adr0T adrC (fun i => ∃ y : Int, -1048576 ≤ y ∧ y < 1048576 ∧ i.imm = y * adrU i) (fun W i => i.imm = sgI (adrF W) 21 * adrU i) (fun W i => { i with imm := sgI (adrF W) 21 * adrU i }) where
  lay W i _ h := by
    obtain ⟨y, hl, hu, e⟩ := h
    have hn := adr_num e
    obtain ⟨u1, u2⟩ := adrU_in i
    show (crossW true (crossW true W (adrN i) ((29 : Nat) : Int) ((2 : Nat) : Int)) (adrN i / 4) ((5 : Nat) : Int) ((19 : Nat) : Int), ({ i with imm := wrap64 (sgV (crossG true W (adrN i) ((29 : Nat) : Int) ((2 : Nat) : Int) + crossG true (crossW true W (adrN i) ((29 : Nat) : Int) ((2 : Nat) : Int)) (adrN i / 4) ((5 : Nat) : Int) ((19 : Nat) : Int) * 4) ((21 : Nat) : Int) * adrU i) } : Ins)) = _
    rw [put_eq _ _ (by decide) (by decide), got_eq _ _ (by decide) (by decide), put_eq _ _ (by decide) (by decide), got_eq _ _ (by decide) (by decide)]
    have hv : (((lowN (adrN i) 2 : Nat) : Int) + ((lowN (adrN i / 4) 19 : Nat) : Int) * 4) = ((lowN y 21 : Nat) : Int) := by rw [hn]; have := adr_low y; omega
    rw [hv, sgV_eq (by decide) (by decide) (lowN_lt _ _), sg_back (by decide) (by decide) hl hu, wrap_four ⟨by omega, by omega⟩ u1 u2, setI_same i e.symm]
    rfl
  take W i _ := by
    obtain ⟨u1, u2⟩ := adrU_in i
    show (W, ({ i with imm := wrap64 (sgV (crossG false W (adrN i) ((29 : Nat) : Int) ((2 : Nat) : Int) + crossG false W (adrN i / 4) ((5 : Nat) : Int) ((19 : Nat) : Int) * 4) ((21 : Nat) : Int) * adrU i) } : Ins)) = _
    rw [take_eq _ _ (by decide) (by decide), take_eq _ _ (by decide) (by decide)]
    have hv : (((fld W.toNat 29 2 : Nat) : Int) + ((fld W.toNat 5 19 : Nat) : Int) * 4) = ((adrF W.toNat : Nat) : Int) := by unfold adrF; omega
    rw [hv, sgV_eq (by decide) (by decide) (adrF_lt _), wrap_four (sgI_small (by decide) (by decide) (adrF_lt _)) u1 u2]
  into W i h := by
    obtain ⟨hl, hu⟩ := sgI_in (m := 21) (by decide) (adrF_lt W)
    refine ⟨⟨_, hl, hu, h⟩, ?_⟩
    have hn := adr_num h
    have hb := sg_forth (m := 21) (by decide) (by decide) (adrF_lt W)
    have l1 : fld W 29 2 < 4 := fld_lt W 29 2
    have l2 : fld W 5 19 < 524288 := fld_lt W 5 19
    have hs := adr_low (adrN i)
    rw [hn] at hs
    rw [hb] at hs
    have m1 : lowN (sgI (adrF W) 21) 2 < 4 := lowN_lt _ 2
    have m2 : adrF W = fld W 29 2 + fld W 5 19 * 4 := rfl
    intro c hc
    have hc : c = ⟨29, 2, lowN (adrN i) 2⟩ ∨ c = ⟨5, 19, lowN (adrN i / 4) 19⟩ := by simpa [adrC] using hc
    rcases hc with rfl | rfl
    · show fld W 29 2 = lowN (adrN i) 2
      rw [hn]; omega
    · show fld W 5 19 = lowN (adrN i / 4) 19
      rw [hn]; omega
  fro W i h hc := by
    obtain ⟨y, hl, hu, e⟩ := h
    have hn := adr_num e
    have q1 : fld W 29 2 = lowN (adrN i) 2 := hc ⟨29, 2, lowN (adrN i) 2⟩ (by simp [adrC])
    have q2 : fld W 5 19 = lowN (adrN i / 4) 19 := hc ⟨5, 19, lowN (adrN i / 4) 19⟩ (by simp [adrC])
    have : adrF W = lowN y 21 := by unfold adrF; rw [q1, q2, hn]; exact adr_low y
    rw [this, sg_back (by decide) (by decide) hl hu]; exact e
  small i c hc := by
    have hc : c = ⟨29, 2, lowN (adrN i) 2⟩ ∨ c = ⟨5, 19, lowN (adrN i / 4) 19⟩ := by simpa [adrC] using hc
    rcases hc with rfl | rfl <;> exact lowN_lt _ _
end Go.Proofs.Ytcmilajlngnibaa
