/- A word that is laid together of fields is the base and the sum of them: plain. -/
import Derived.Test.YtcmilajlngnibaaK14
import Derived.Test.YtcmilajlngnibaaK24
import Derived.Deep.QuietTactic
import Derived.BigQuiet
namespace Go.Proofs.Ytcmilajlngnibaa
open Go.RowKit

theorem put_split {W a m v : Nat} (h0 : fld W a m = 0) : W + v * 2 ^ a = ((W / 2 ^ (a + m)) <<< m + v) <<< a + W % 2 ^ a := by
  have e1 := Nat.div_add_mod W (2 ^ a)
  have e2 := Nat.div_add_mod (W / 2 ^ a) (2 ^ m)
  have e3 : W / 2 ^ a / 2 ^ m = W / 2 ^ (a + m) := by rw [Nat.div_div_eq_div_mul, ← Nat.pow_add]
  unfold fld at h0
  rw [h0, e3, Nat.add_zero] at e2
  rw [← e2] at e1
  rw [Nat.shiftLeft_eq, Nat.shiftLeft_eq, Nat.add_mul]
  have e4 : W / 2 ^ (a + m) * 2 ^ m * 2 ^ a = 2 ^ a * (2 ^ m * (W / 2 ^ (a + m))) := by rw [Nat.mul_comm, Nat.mul_comm (2 ^ m)]
  rw [e4]
  omega
theorem putN_add {W a m v : Nat} (hW : W < 4294967296) (h : a + m ≤ 32) (hv : v < 2 ^ m) (h0 : fld W a m = 0) : putN W a m v = W + v * 2 ^ a := by
  apply Nat.eq_of_testBit_eq
  intro i
  rw [put_split h0, Nat.shiftLeft_add_eq_or_of_lt (Nat.mod_lt _ (Nat.two_pow_pos a)), Nat.testBit_or, Nat.testBit_shiftLeft, Nat.shiftLeft_add_eq_or_of_lt hv, Nat.testBit_or, Nat.testBit_shiftLeft, Nat.testBit_mod_two_pow, Nat.testBit_div_two_pow]
  by_cases hi : i < 32
  · by_cases h1 : a ≤ i
    · by_cases h2 : i < a + m
      · rw [putN_in hi h1 h2]
        simp [h1, show ¬ i < a by omega, show ¬ m ≤ i - a by omega]
      · rw [putN_out hi (by omega)]
        have hz : v.testBit (i - a) = false := Nat.testBit_lt_two_pow (Nat.lt_of_lt_of_le hv (Nat.pow_le_pow_right Nat.zero_lt_two (by omega)))
        simp [h1, show ¬ i < a by omega, show m ≤ i - a by omega, hz, show i - a - m + (a + m) = i by omega]
    · rw [putN_out hi (by omega)]
      simp [h1, show i < a by omega]
  · have hz : v.testBit (i - a) = false := Nat.testBit_lt_two_pow (Nat.lt_of_lt_of_le hv (Nat.pow_le_pow_right Nat.zero_lt_two (by omega)))
    rw [bit_high (putN_lt _ _ _ _) hi]
    simp [show a ≤ i by omega, show ¬ i < a by omega, show m ≤ i - a by omega, hz, show i - a - m + (a + m) = i by omega, bit_high hW hi]
theorem fld_put_other {W a m v c d : Nat} (hc : c + d ≤ 32) (h : a + m ≤ c ∨ c + d ≤ a) : fld (putN W a m v) c d = fld W c d := by
  apply Nat.eq_of_testBit_eq
  intro k
  rw [testBit_fld, testBit_fld]
  by_cases hk : k < d
  · rw [putN_out (by omega) (by omega)]
  · simp [hk]
def sumC : List Cr → Nat
  | [] => 0
  | c :: l => c.v * 2 ^ c.a + sumC l
theorem apart_in : ∀ {l : List (Nat × Nat)}, apartL l = true → ∀ x ∈ l, x.1 + x.2 ≤ 32
  | [], _, x, hx => by cases hx
  | (a, m) :: l, h, x, hx => by
    obtain ⟨p1, _, p3⟩ := apart_cons h
    rcases List.mem_cons.1 hx with rfl | hx
    · exact p1
    · exact apart_in p3 x hx
theorem lays_sum : ∀ (l : List Cr) (W : Nat), W < 4294967296 → apartL (placesL l) = true → (∀ c ∈ l, c.v < 2 ^ c.m) → (∀ c ∈ l, fld W c.a c.m = 0) → lays W l = W + sumC l
  | [], _, _, _, _, _ => rfl
  | c :: l, W, hW, hp, hv, h0 => by
    obtain ⟨p1, p2, p3⟩ := apart_cons (show apartL ((c.a, c.m) :: placesL l) = true from hp)
    show lays (putN W c.a c.m c.v) l = W + (c.v * 2 ^ c.a + sumC l)
    rw [lays_sum l _ (putN_lt _ _ _ _) p3 (fun d hd => hv d (List.mem_cons_of_mem _ hd)) fun d hd => by
      have hm : (d.a, d.m) ∈ placesL l := List.mem_map.2 ⟨d, hd, rfl⟩
      rw [fld_put_other (apart_in p3 _ hm) (p2 _ hm)]
      exact h0 d (List.mem_cons_of_mem _ hd)]
    rw [putN_add hW p1 (hv c (List.mem_cons_self ..)) (h0 c (List.mem_cons_self ..))]
    omega
def zerosB (base : Nat) (ps : List (Nat × Nat)) : Bool := ps.all fun x => fld base x.1 x.2 == 0
/-- The word of an instruction of a form, as a sum. -/
theorem word_sum (F : Fm) {cr : Ins → List Cr} {fits : Ins → Prop} {ag : Nat → Ins → Prop} {got : Nat → Ins → Ins} (C : Cd F.t cr fits ag got) (hF : F ∈ forms) (ps : List (Nat × Nat)) (hps : ∀ i, placesL (cr i) = ps) (hap : apartL ps = true) (hz : zerosB F.base.toNat ps = true)
    {i : Ins} (hR : rightB i = true) (hi : isForm F i = true) (hf : fits i) : encV i = (((F.base.toNat + sumC (cr i) : Nat) : Int), 0) := by
  rw [encV, if_pos hR, encL_of hi forms hF fun G hG h => one_form hG hF h hi]
  have hb := (good_all F hF).base
  rw [C.lay _ i hb hf]
  show (((lays F.base.toNat (cr i) : Nat) : Int), 0) = _
  rw [lays_sum (cr i) F.base.toNat (w32_of hb).1 (by rw [hps]; exact hap) (C.small i) fun c hc => by
    have := List.all_eq_true.1 hz (c.a, c.m) (by rw [← hps i]; exact List.mem_map.2 ⟨c, hc, rfl⟩)
    exact beq_iff_eq.1 this]
end Go.Proofs.Ytcmilajlngnibaa
/- Numbers of the document's own answer to chapter 3: plain, and contracts in the form that its walks want. -/
namespace Go.Proofs.Ytcmilajlngnibaa
open Go.RowKit Go.Rel

def lowI (n m : Int) : Int := lowE n m.toNat
theorem lowI_c (n m : Int) (h0 : 0 ≤ m) (h1 : m ≤ 32) (w : World) :
    Calls Try.prog 21 #[vI n, vI m] w fun e w' => e = .returned (.int .u32 (lowI n m)) ∧ w' = w := by
  have := rlow_c n m.toNat (by omega) w
  rwa [Int.toNat_of_nonneg h0] at this
theorem lowI_in (n : Int) (m : Nat) : 0 ≤ lowI n m ∧ lowI n m < ((2 ^ m : Nat) : Int) := lowE_in n m
def whenI (b : Bool) (x : Int) : Int := bif b then x else 0
theorem whenI_c (b : Bool) (x : Int) (w : World) :
    Calls Try.prog 22 #[.bool b, .int .u32 x] w fun e w' => e = .returned (.int .u32 (whenI b x)) ∧ w' = w := when_c b x w
end Go.Proofs.Ytcmilajlngnibaa
/- The word of an instruction, form by form, as a sum of numbers: plain. -/
namespace Go.Proofs.Ytcmilajlngnibaa
open Go.RowKit
set_option linter.unusedVariables false
set_option linter.unusedSimpArgs false

theorem lowI_mod (n : Int) (m : Nat) (hm : m ≤ 32) : lowI n m = n % ((2 ^ m : Nat) : Int) := low_mod n hm
theorem when_low (b : Bool) (x : Int) : ((lowN (boolI b) 1 : Nat) : Int) * x = whenI b x := by
  cases b
  · show (0 : Int) * x = 0; omega
  · show (1 : Int) * x = x; omega
theorem sum_cons (c : Cr) (l : List Cr) : ((sumC (c :: l) : Nat) : Int) = ((c.v : Nat) : Int) * ((2 ^ c.a : Nat) : Int) + ((sumC l : Nat) : Int) := by
  show ((c.v * 2 ^ c.a + sumC l : Nat) : Int) = _
  rw [Int.natCast_add, Int.natCast_mul]
theorem sum_nil : ((sumC [] : Nat) : Int) = 0 := rfl
set_option maxRecDepth 4000 in
theorem wd0 (sub rd rn rm ra imm imm2 amount shift cond sys : Int) (flags minus not link : Bool) (hR : rightB (⟨1, 0, rd, rn, rm, ra, imm, imm2, amount, shift, cond, sys, flags, minus, not, link⟩ : Ins) = true) : (encV (⟨1, 0, rd, rn, rm, ra, imm, imm2, amount, shift, cond, sys, flags, minus, not, link⟩ : Ins)).1 = 2432696320 + (whenI minus 1073741824 + (whenI flags 536870912 + (amount.tdiv 12 % 2 * 4194304 + (imm % 4096 * 1024 + (rn % 32 * 32 + (rd % 32 * 1 + 0)))))) ∧ (encV (⟨1, 0, rd, rn, rm, ra, imm, imm2, amount, shift, cond, sys, flags, minus, not, link⟩ : Ins)).2 = 0 := by
  have hF : isForm fm0 (⟨1, 0, rd, rn, rm, ra, imm, imm2, amount, shift, cond, sys, flags, minus, not, link⟩ : Ins) = true := isForm_one rfl rfl
  have R := rightF hR
  have q_rd : holdsB ⟨0, 31, 1⟩ rd = true := R.rd
  have q_rn : holdsB ⟨0, 31, 1⟩ rn = true := R.rn
  have q_rm : holdsB ⟨0, 0, 0⟩ rm = true := R.rm
  have q_ra : holdsB ⟨0, 0, 0⟩ ra = true := R.ra
  have q_sub : holdsB ⟨0, 0, 0⟩ 0 = true := R.sub
  have q_imm : holdsB ⟨0, 4095, 1⟩ imm = true := R.imm
  have q_imm2 : holdsB ⟨0, 0, 0⟩ imm2 = true := R.imm2
  have q_amount : holdsB ⟨0, 12, 12⟩ amount = true := R.amount
  have q_shift : holdsB ⟨0, 0, 0⟩ shift = true := R.shift
  have q_cond : holdsB ⟨0, 0, 0⟩ cond = true := R.cond
  have C := (cd_then (cd_then (cd_sgn .minus 30 (by decide)) (cd_sgn .flags 29 (by decide))) (cd_then (cd_num .amount 12 22 1 (by decide) (by decide) (by decide)) (cd_then (cd_num .imm 1 10 12 (by decide) (by decide) (by decide)) (cd_then (cd_num .rn 1 5 5 (by decide) (by decide) (by decide)) (cd_num .rd 1 0 5 (by decide) (by decide) (by decide))))))
  have e := word_sum fm0 C (by simp [forms, formsA, formsB]) [(30, 1), (29, 1), (22, 1), (10, 12), (5, 5), (0, 5)] (fun _ => rfl) (by kernel_rfl) (by kernel_rfl) hR hF ⟨⟨trivial, trivial⟩, ⟨(fit_num q_amount (by decide) (by decide) (by decide)), ⟨(fit_one q_imm (by decide) (by decide)), ⟨(fit_one q_rn (by decide) (by decide)), (fit_one q_rd (by decide) (by decide))⟩⟩⟩⟩
  rw [e]
  refine ⟨?_, rfl⟩
  show ((2432696320 + sumC _ : Nat) : Int) = _
  rw [Int.natCast_add]
  simp only [List.cons_append, List.nil_append, twoC, adrC, sum_cons, sum_nil]
  congr 1
  refine congr (congrArg _ (by exact when_low minus _)) ?_
  refine congr (congrArg _ (by exact when_low flags _)) ?_
  refine congr (congrArg _ (by exact congrArg (· * _) (low_mod _ (by decide)))) ?_
  refine congr (congrArg _ (by exact congrArg (· * _) ((low_mod _ (by decide)).trans (by rw [Int.tdiv_one]; rfl)))) ?_
  refine congr (congrArg _ (by exact congrArg (· * _) ((low_mod _ (by decide)).trans (by rw [Int.tdiv_one]; rfl)))) ?_
  refine congr (congrArg _ (by exact congrArg (· * _) ((low_mod _ (by decide)).trans (by rw [Int.tdiv_one]; rfl)))) ?_
  rfl
set_option maxRecDepth 4000 in
theorem wd1 (sub rd rn rm ra imm imm2 amount shift cond sys : Int) (flags minus not link : Bool) (hR : rightB (⟨2, 0, rd, rn, rm, ra, imm, imm2, amount, shift, cond, sys, flags, minus, not, link⟩ : Ins) = true) : (encV (⟨2, 0, rd, rn, rm, ra, imm, imm2, amount, shift, cond, sys, flags, minus, not, link⟩ : Ins)).1 = 2332033024 + (whenI minus 1073741824 + (whenI flags 536870912 + (shift % 4 * 4194304 + (amount % 64 * 1024 + (rm % 32 * 65536 + (rn % 32 * 32 + (rd % 32 * 1 + 0))))))) ∧ (encV (⟨2, 0, rd, rn, rm, ra, imm, imm2, amount, shift, cond, sys, flags, minus, not, link⟩ : Ins)).2 = 0 := by
  have hF : isForm fm1 (⟨2, 0, rd, rn, rm, ra, imm, imm2, amount, shift, cond, sys, flags, minus, not, link⟩ : Ins) = true := isForm_one rfl rfl
  have R := rightF hR
  have q_rd : holdsB ⟨0, 31, 1⟩ rd = true := R.rd
  have q_rn : holdsB ⟨0, 31, 1⟩ rn = true := R.rn
  have q_rm : holdsB ⟨0, 31, 1⟩ rm = true := R.rm
  have q_ra : holdsB ⟨0, 0, 0⟩ ra = true := R.ra
  have q_sub : holdsB ⟨0, 0, 0⟩ 0 = true := R.sub
  have q_imm : holdsB ⟨0, 0, 0⟩ imm = true := R.imm
  have q_imm2 : holdsB ⟨0, 0, 0⟩ imm2 = true := R.imm2
  have q_amount : holdsB ⟨0, 63, 1⟩ amount = true := R.amount
  have q_shift : holdsB ⟨0, 2, 1⟩ shift = true := R.shift
  have q_cond : holdsB ⟨0, 0, 0⟩ cond = true := R.cond
  have C := (cd_then (cd_then (cd_sgn .minus 30 (by decide)) (cd_sgn .flags 29 (by decide))) (cd_then (cd_num .shift 1 22 2 (by decide) (by decide) (by decide)) (cd_then (cd_num .amount 1 10 6 (by decide) (by decide) (by decide)) (cd_then (cd_num .rm 1 16 5 (by decide) (by decide) (by decide)) (cd_then (cd_num .rn 1 5 5 (by decide) (by decide) (by decide)) (cd_num .rd 1 0 5 (by decide) (by decide) (by decide)))))))
  have e := word_sum fm1 C (by simp [forms, formsA, formsB]) [(30, 1), (29, 1), (22, 2), (10, 6), (16, 5), (5, 5), (0, 5)] (fun _ => rfl) (by kernel_rfl) (by kernel_rfl) hR hF ⟨⟨trivial, trivial⟩, ⟨(fit_one q_shift (by decide) (by decide)), ⟨(fit_one q_amount (by decide) (by decide)), ⟨(fit_one q_rm (by decide) (by decide)), ⟨(fit_one q_rn (by decide) (by decide)), (fit_one q_rd (by decide) (by decide))⟩⟩⟩⟩⟩
  rw [e]
  refine ⟨?_, rfl⟩
  show ((2332033024 + sumC _ : Nat) : Int) = _
  rw [Int.natCast_add]
  simp only [List.cons_append, List.nil_append, twoC, adrC, sum_cons, sum_nil]
  congr 1
  refine congr (congrArg _ (by exact when_low minus _)) ?_
  refine congr (congrArg _ (by exact when_low flags _)) ?_
  refine congr (congrArg _ (by exact congrArg (· * _) ((low_mod _ (by decide)).trans (by rw [Int.tdiv_one]; rfl)))) ?_
  refine congr (congrArg _ (by exact congrArg (· * _) ((low_mod _ (by decide)).trans (by rw [Int.tdiv_one]; rfl)))) ?_
  refine congr (congrArg _ (by exact congrArg (· * _) ((low_mod _ (by decide)).trans (by rw [Int.tdiv_one]; rfl)))) ?_
  refine congr (congrArg _ (by exact congrArg (· * _) ((low_mod _ (by decide)).trans (by rw [Int.tdiv_one]; rfl)))) ?_
  refine congr (congrArg _ (by exact congrArg (· * _) ((low_mod _ (by decide)).trans (by rw [Int.tdiv_one]; rfl)))) ?_
  rfl
set_option maxRecDepth 4000 in
theorem wd2 (sub rd rn rm ra imm imm2 amount shift cond sys : Int) (flags minus not link : Bool) (hR : rightB (⟨3, sub, rd, rn, rm, ra, imm, imm2, amount, shift, cond, sys, flags, minus, not, link⟩ : Ins) = true) : (encV (⟨3, sub, rd, rn, rm, ra, imm, imm2, amount, shift, cond, sys, flags, minus, not, link⟩ : Ins)).1 = 2315255808 + ((bif flags then 3 else sub) % 4 * 536870912 + (whenI not 2097152 + (shift % 4 * 4194304 + (amount % 64 * 1024 + (rm % 32 * 65536 + (rn % 32 * 32 + (rd % 32 * 1 + 0))))))) ∧ (encV (⟨3, sub, rd, rn, rm, ra, imm, imm2, amount, shift, cond, sys, flags, minus, not, link⟩ : Ins)).2 = 0 := by
  have hF : isForm fm2 (⟨3, sub, rd, rn, rm, ra, imm, imm2, amount, shift, cond, sys, flags, minus, not, link⟩ : Ins) = true := isForm_each rfl rfl
  have R := rightF hR
  have q_rd : holdsB ⟨0, 31, 1⟩ rd = true := R.rd
  have q_rn : holdsB ⟨0, 31, 1⟩ rn = true := R.rn
  have q_rm : holdsB ⟨0, 31, 1⟩ rm = true := R.rm
  have q_ra : holdsB ⟨0, 0, 0⟩ ra = true := R.ra
  have q_sub : holdsB ⟨0, 2, 1⟩ sub = true := R.sub
  have q_imm : holdsB ⟨0, 0, 0⟩ imm = true := R.imm
  have q_imm2 : holdsB ⟨0, 0, 0⟩ imm2 = true := R.imm2
  have q_amount : holdsB ⟨0, 63, 1⟩ amount = true := R.amount
  have q_shift : holdsB ⟨0, 3, 1⟩ shift = true := R.shift
  have q_cond : holdsB ⟨0, 0, 0⟩ cond = true := R.cond
  have C := (cd_then cd_logic (cd_then (cd_sgn .not 21 (by decide)) (cd_then (cd_num .shift 1 22 2 (by decide) (by decide) (by decide)) (cd_then (cd_num .amount 1 10 6 (by decide) (by decide) (by decide)) (cd_then (cd_num .rm 1 16 5 (by decide) (by decide) (by decide)) (cd_then (cd_num .rn 1 5 5 (by decide) (by decide) (by decide)) (cd_num .rd 1 0 5 (by decide) (by decide) (by decide))))))))
  have e := word_sum fm2 C (by simp [forms, formsA, formsB]) [(29, 2), (21, 1), (22, 2), (10, 6), (16, 5), (5, 5), (0, 5)] (fun _ => rfl) (by kernel_rfl) (by kernel_rfl) hR hF ⟨⟨(holds_of q_sub).1, (holds_of q_sub).2.1, logic_of R.flags⟩, ⟨trivial, ⟨(fit_one q_shift (by decide) (by decide)), ⟨(fit_one q_amount (by decide) (by decide)), ⟨(fit_one q_rm (by decide) (by decide)), ⟨(fit_one q_rn (by decide) (by decide)), (fit_one q_rd (by decide) (by decide))⟩⟩⟩⟩⟩⟩
  rw [e]
  refine ⟨?_, rfl⟩
  show ((2315255808 + sumC _ : Nat) : Int) = _
  rw [Int.natCast_add]
  simp only [List.cons_append, List.nil_append, twoC, adrC, sum_cons, sum_nil]
  congr 1
  refine congr (congrArg _ (by exact congrArg (· * _) (low_mod _ (by decide)))) ?_
  refine congr (congrArg _ (by exact when_low not _)) ?_
  refine congr (congrArg _ (by exact congrArg (· * _) ((low_mod _ (by decide)).trans (by rw [Int.tdiv_one]; rfl)))) ?_
  refine congr (congrArg _ (by exact congrArg (· * _) ((low_mod _ (by decide)).trans (by rw [Int.tdiv_one]; rfl)))) ?_
  refine congr (congrArg _ (by exact congrArg (· * _) ((low_mod _ (by decide)).trans (by rw [Int.tdiv_one]; rfl)))) ?_
  refine congr (congrArg _ (by exact congrArg (· * _) ((low_mod _ (by decide)).trans (by rw [Int.tdiv_one]; rfl)))) ?_
  refine congr (congrArg _ (by exact congrArg (· * _) ((low_mod _ (by decide)).trans (by rw [Int.tdiv_one]; rfl)))) ?_
  rfl
set_option maxRecDepth 4000 in
theorem wd3 (sub rd rn rm ra imm imm2 amount shift cond sys : Int) (flags minus not link : Bool) (hR : rightB (⟨4, sub, rd, rn, rm, ra, imm, imm2, amount, shift, cond, sys, flags, minus, not, link⟩ : Ins) = true) : (encV (⟨4, sub, rd, rn, rm, ra, imm, imm2, amount, shift, cond, sys, flags, minus, not, link⟩ : Ins)).1 = 2449473536 + ((bif flags then 3 else sub) % 4 * 536870912 + (amount % 2 * 4194304 + (imm % 64 * 65536 + (imm2 % 64 * 1024 + (rn % 32 * 32 + (rd % 32 * 1 + 0)))))) ∧ (encV (⟨4, sub, rd, rn, rm, ra, imm, imm2, amount, shift, cond, sys, flags, minus, not, link⟩ : Ins)).2 = 0 := by
  have hF : isForm fm3 (⟨4, sub, rd, rn, rm, ra, imm, imm2, amount, shift, cond, sys, flags, minus, not, link⟩ : Ins) = true := isForm_each rfl rfl
  have R := rightF hR
  have q_rd : holdsB ⟨0, 31, 1⟩ rd = true := R.rd
  have q_rn : holdsB ⟨0, 31, 1⟩ rn = true := R.rn
  have q_rm : holdsB ⟨0, 0, 0⟩ rm = true := R.rm
  have q_ra : holdsB ⟨0, 0, 0⟩ ra = true := R.ra
  have q_sub : holdsB ⟨0, 2, 1⟩ sub = true := R.sub
  have q_imm : holdsB ⟨0, 63, 1⟩ imm = true := R.imm
  have q_imm2 : holdsB ⟨0, 63, 1⟩ imm2 = true := R.imm2
  have q_amount : holdsB ⟨0, 1, 1⟩ amount = true := R.amount
  have q_shift : holdsB ⟨0, 0, 0⟩ shift = true := R.shift
  have q_cond : holdsB ⟨0, 0, 0⟩ cond = true := R.cond
  have C := (cd_then cd_logic (cd_then (cd_num .amount 1 22 1 (by decide) (by decide) (by decide)) (cd_then (cd_num .imm 1 16 6 (by decide) (by decide) (by decide)) (cd_then (cd_num .imm2 1 10 6 (by decide) (by decide) (by decide)) (cd_then (cd_num .rn 1 5 5 (by decide) (by decide) (by decide)) (cd_num .rd 1 0 5 (by decide) (by decide) (by decide)))))))
  have e := word_sum fm3 C (by simp [forms, formsA, formsB]) [(29, 2), (22, 1), (16, 6), (10, 6), (5, 5), (0, 5)] (fun _ => rfl) (by kernel_rfl) (by kernel_rfl) hR hF ⟨⟨(holds_of q_sub).1, (holds_of q_sub).2.1, logic_of R.flags⟩, ⟨(fit_one q_amount (by decide) (by decide)), ⟨(fit_one q_imm (by decide) (by decide)), ⟨(fit_one q_imm2 (by decide) (by decide)), ⟨(fit_one q_rn (by decide) (by decide)), (fit_one q_rd (by decide) (by decide))⟩⟩⟩⟩⟩
  rw [e]
  refine ⟨?_, rfl⟩
  show ((2449473536 + sumC _ : Nat) : Int) = _
  rw [Int.natCast_add]
  simp only [List.cons_append, List.nil_append, twoC, adrC, sum_cons, sum_nil]
  congr 1
  refine congr (congrArg _ (by exact congrArg (· * _) (low_mod _ (by decide)))) ?_
  refine congr (congrArg _ (by exact congrArg (· * _) ((low_mod _ (by decide)).trans (by rw [Int.tdiv_one]; rfl)))) ?_
  refine congr (congrArg _ (by exact congrArg (· * _) ((low_mod _ (by decide)).trans (by rw [Int.tdiv_one]; rfl)))) ?_
  refine congr (congrArg _ (by exact congrArg (· * _) ((low_mod _ (by decide)).trans (by rw [Int.tdiv_one]; rfl)))) ?_
  refine congr (congrArg _ (by exact congrArg (· * _) ((low_mod _ (by decide)).trans (by rw [Int.tdiv_one]; rfl)))) ?_
  refine congr (congrArg _ (by exact congrArg (· * _) ((low_mod _ (by decide)).trans (by rw [Int.tdiv_one]; rfl)))) ?_
  rfl
set_option maxRecDepth 4000 in
theorem wd4 (sub rd rn rm ra imm imm2 amount shift cond sys : Int) (flags minus not link : Bool) (hR : rightB (⟨5, sub, rd, rn, rm, ra, imm, imm2, amount, shift, cond, sys, flags, minus, not, link⟩ : Ins) = true) : (encV (⟨5, sub, rd, rn, rm, ra, imm, imm2, amount, shift, cond, sys, flags, minus, not, link⟩ : Ins)).1 = 2457862144 + (sub % 4 * 536870912 + (amount.tdiv 16 % 4 * 2097152 + (imm % 65536 * 32 + (rd % 32 * 1 + 0)))) ∧ (encV (⟨5, sub, rd, rn, rm, ra, imm, imm2, amount, shift, cond, sys, flags, minus, not, link⟩ : Ins)).2 = 0 := by
  have hF : isForm fm4 (⟨5, sub, rd, rn, rm, ra, imm, imm2, amount, shift, cond, sys, flags, minus, not, link⟩ : Ins) = true := isForm_each rfl rfl
  have R := rightF hR
  have q_rd : holdsB ⟨0, 31, 1⟩ rd = true := R.rd
  have q_rn : holdsB ⟨0, 0, 0⟩ rn = true := R.rn
  have q_rm : holdsB ⟨0, 0, 0⟩ rm = true := R.rm
  have q_ra : holdsB ⟨0, 0, 0⟩ ra = true := R.ra
  have q_sub : holdsB ⟨0, 3, 1⟩ sub = true := R.sub
  have q_imm : holdsB ⟨0, 65535, 1⟩ imm = true := R.imm
  have q_imm2 : holdsB ⟨0, 0, 0⟩ imm2 = true := R.imm2
  have q_amount : holdsB ⟨0, 48, 16⟩ amount = true := R.amount
  have q_shift : holdsB ⟨0, 0, 0⟩ shift = true := R.shift
  have q_cond : holdsB ⟨0, 0, 0⟩ cond = true := R.cond
  have C := (cd_then (cd_num .sub 1 29 2 (by decide) (by decide) (by decide)) (cd_then (cd_num .amount 16 21 2 (by decide) (by decide) (by decide)) (cd_then (cd_num .imm 1 5 16 (by decide) (by decide) (by decide)) (cd_num .rd 1 0 5 (by decide) (by decide) (by decide)))))
  have e := word_sum fm4 C (by simp [forms, formsA, formsB]) [(29, 2), (21, 2), (5, 16), (0, 5)] (fun _ => rfl) (by kernel_rfl) (by kernel_rfl) hR hF ⟨(fit_one q_sub (by decide) (by decide)), ⟨(fit_num q_amount (by decide) (by decide) (by decide)), ⟨(fit_one q_imm (by decide) (by decide)), (fit_one q_rd (by decide) (by decide))⟩⟩⟩
  rw [e]
  refine ⟨?_, rfl⟩
  show ((2457862144 + sumC _ : Nat) : Int) = _
  rw [Int.natCast_add]
  simp only [List.cons_append, List.nil_append, twoC, adrC, sum_cons, sum_nil]
  congr 1
  refine congr (congrArg _ (by exact congrArg (· * _) ((low_mod _ (by decide)).trans (by rw [Int.tdiv_one]; rfl)))) ?_
  refine congr (congrArg _ (by exact congrArg (· * _) (low_mod _ (by decide)))) ?_
  refine congr (congrArg _ (by exact congrArg (· * _) ((low_mod _ (by decide)).trans (by rw [Int.tdiv_one]; rfl)))) ?_
  refine congr (congrArg _ (by exact congrArg (· * _) ((low_mod _ (by decide)).trans (by rw [Int.tdiv_one]; rfl)))) ?_
  rfl
set_option maxRecDepth 4000 in
theorem wd5 (sub rd rn rm ra imm imm2 amount shift cond sys : Int) (flags minus not link : Bool) (hR : rightB (⟨6, sub, rd, rn, rm, ra, imm, imm2, amount, shift, cond, sys, flags, minus, not, link⟩ : Ins) = true) : (encV (⟨6, sub, rd, rn, rm, ra, imm, imm2, amount, shift, cond, sys, flags, minus, not, link⟩ : Ins)).1 = 2470445056 + (sub % 4 * 536870912 + (imm % 64 * 65536 + (imm2 % 64 * 1024 + (rn % 32 * 32 + (rd % 32 * 1 + 0))))) ∧ (encV (⟨6, sub, rd, rn, rm, ra, imm, imm2, amount, shift, cond, sys, flags, minus, not, link⟩ : Ins)).2 = 0 := by
  have hF : isForm fm5 (⟨6, sub, rd, rn, rm, ra, imm, imm2, amount, shift, cond, sys, flags, minus, not, link⟩ : Ins) = true := isForm_each rfl rfl
  have R := rightF hR
  have q_rd : holdsB ⟨0, 31, 1⟩ rd = true := R.rd
  have q_rn : holdsB ⟨0, 31, 1⟩ rn = true := R.rn
  have q_rm : holdsB ⟨0, 0, 0⟩ rm = true := R.rm
  have q_ra : holdsB ⟨0, 0, 0⟩ ra = true := R.ra
  have q_sub : holdsB ⟨0, 2, 2⟩ sub = true := R.sub
  have q_imm : holdsB ⟨0, 63, 1⟩ imm = true := R.imm
  have q_imm2 : holdsB ⟨0, 63, 1⟩ imm2 = true := R.imm2
  have q_amount : holdsB ⟨0, 0, 0⟩ amount = true := R.amount
  have q_shift : holdsB ⟨0, 0, 0⟩ shift = true := R.shift
  have q_cond : holdsB ⟨0, 0, 0⟩ cond = true := R.cond
  have C := (cd_then (cd_num .sub 1 29 2 (by decide) (by decide) (by decide)) (cd_then (cd_num .imm 1 16 6 (by decide) (by decide) (by decide)) (cd_then (cd_num .imm2 1 10 6 (by decide) (by decide) (by decide)) (cd_then (cd_num .rn 1 5 5 (by decide) (by decide) (by decide)) (cd_num .rd 1 0 5 (by decide) (by decide) (by decide))))))
  have e := word_sum fm5 C (by simp [forms, formsA, formsB]) [(29, 2), (16, 6), (10, 6), (5, 5), (0, 5)] (fun _ => rfl) (by kernel_rfl) (by kernel_rfl) hR hF ⟨(fit_one q_sub (by decide) (by decide)), ⟨(fit_one q_imm (by decide) (by decide)), ⟨(fit_one q_imm2 (by decide) (by decide)), ⟨(fit_one q_rn (by decide) (by decide)), (fit_one q_rd (by decide) (by decide))⟩⟩⟩⟩
  rw [e]
  refine ⟨?_, rfl⟩
  show ((2470445056 + sumC _ : Nat) : Int) = _
  rw [Int.natCast_add]
  simp only [List.cons_append, List.nil_append, twoC, adrC, sum_cons, sum_nil]
  congr 1
  refine congr (congrArg _ (by exact congrArg (· * _) ((low_mod _ (by decide)).trans (by rw [Int.tdiv_one]; rfl)))) ?_
  refine congr (congrArg _ (by exact congrArg (· * _) ((low_mod _ (by decide)).trans (by rw [Int.tdiv_one]; rfl)))) ?_
  refine congr (congrArg _ (by exact congrArg (· * _) ((low_mod _ (by decide)).trans (by rw [Int.tdiv_one]; rfl)))) ?_
  refine congr (congrArg _ (by exact congrArg (· * _) ((low_mod _ (by decide)).trans (by rw [Int.tdiv_one]; rfl)))) ?_
  refine congr (congrArg _ (by exact congrArg (· * _) ((low_mod _ (by decide)).trans (by rw [Int.tdiv_one]; rfl)))) ?_
  rfl
set_option maxRecDepth 4000 in
theorem wd6 (sub rd rn rm ra imm imm2 amount shift cond sys : Int) (flags minus not link : Bool) (hR : rightB (⟨7, sub, rd, rn, rm, ra, imm, imm2, amount, shift, cond, sys, flags, minus, not, link⟩ : Ins) = true) : (encV (⟨7, sub, rd, rn, rm, ra, imm, imm2, amount, shift, cond, sys, flags, minus, not, link⟩ : Ins)).1 = 2596282368 + (sub % 4 * 1024 + (rm % 32 * 65536 + (rn % 32 * 32 + (rd % 32 * 1 + 0)))) ∧ (encV (⟨7, sub, rd, rn, rm, ra, imm, imm2, amount, shift, cond, sys, flags, minus, not, link⟩ : Ins)).2 = 0 := by
  have hF : isForm fm6 (⟨7, sub, rd, rn, rm, ra, imm, imm2, amount, shift, cond, sys, flags, minus, not, link⟩ : Ins) = true := isForm_each rfl rfl
  have R := rightF hR
  have q_rd : holdsB ⟨0, 31, 1⟩ rd = true := R.rd
  have q_rn : holdsB ⟨0, 31, 1⟩ rn = true := R.rn
  have q_rm : holdsB ⟨0, 31, 1⟩ rm = true := R.rm
  have q_ra : holdsB ⟨0, 0, 0⟩ ra = true := R.ra
  have q_sub : holdsB ⟨0, 3, 1⟩ sub = true := R.sub
  have q_imm : holdsB ⟨0, 0, 0⟩ imm = true := R.imm
  have q_imm2 : holdsB ⟨0, 0, 0⟩ imm2 = true := R.imm2
  have q_amount : holdsB ⟨0, 0, 0⟩ amount = true := R.amount
  have q_shift : holdsB ⟨0, 0, 0⟩ shift = true := R.shift
  have q_cond : holdsB ⟨0, 0, 0⟩ cond = true := R.cond
  have C := (cd_then (cd_num .sub 1 10 2 (by decide) (by decide) (by decide)) (cd_then (cd_num .rm 1 16 5 (by decide) (by decide) (by decide)) (cd_then (cd_num .rn 1 5 5 (by decide) (by decide) (by decide)) (cd_num .rd 1 0 5 (by decide) (by decide) (by decide)))))
  have e := word_sum fm6 C (by simp [forms, formsA, formsB]) [(10, 2), (16, 5), (5, 5), (0, 5)] (fun _ => rfl) (by kernel_rfl) (by kernel_rfl) hR hF ⟨(fit_one q_sub (by decide) (by decide)), ⟨(fit_one q_rm (by decide) (by decide)), ⟨(fit_one q_rn (by decide) (by decide)), (fit_one q_rd (by decide) (by decide))⟩⟩⟩
  rw [e]
  refine ⟨?_, rfl⟩
  show ((2596282368 + sumC _ : Nat) : Int) = _
  rw [Int.natCast_add]
  simp only [List.cons_append, List.nil_append, twoC, adrC, sum_cons, sum_nil]
  congr 1
  refine congr (congrArg _ (by exact congrArg (· * _) ((low_mod _ (by decide)).trans (by rw [Int.tdiv_one]; rfl)))) ?_
  refine congr (congrArg _ (by exact congrArg (· * _) ((low_mod _ (by decide)).trans (by rw [Int.tdiv_one]; rfl)))) ?_
  refine congr (congrArg _ (by exact congrArg (· * _) ((low_mod _ (by decide)).trans (by rw [Int.tdiv_one]; rfl)))) ?_
  refine congr (congrArg _ (by exact congrArg (· * _) ((low_mod _ (by decide)).trans (by rw [Int.tdiv_one]; rfl)))) ?_
  rfl
set_option maxRecDepth 4000 in
theorem wd7 (sub rd rn rm ra imm imm2 amount shift cond sys : Int) (flags minus not link : Bool) (hR : rightB (⟨8, 0, rd, rn, rm, ra, imm, imm2, amount, shift, cond, sys, flags, minus, not, link⟩ : Ins) = true) : (encV (⟨8, 0, rd, rn, rm, ra, imm, imm2, amount, shift, cond, sys, flags, minus, not, link⟩ : Ins)).1 = 2600468480 + (whenI minus 32768 + (ra % 32 * 1024 + (rm % 32 * 65536 + (rn % 32 * 32 + (rd % 32 * 1 + 0))))) ∧ (encV (⟨8, 0, rd, rn, rm, ra, imm, imm2, amount, shift, cond, sys, flags, minus, not, link⟩ : Ins)).2 = 0 := by
  have hF : isForm fm7 (⟨8, 0, rd, rn, rm, ra, imm, imm2, amount, shift, cond, sys, flags, minus, not, link⟩ : Ins) = true := isForm_one rfl rfl
  have R := rightF hR
  have q_rd : holdsB ⟨0, 31, 1⟩ rd = true := R.rd
  have q_rn : holdsB ⟨0, 31, 1⟩ rn = true := R.rn
  have q_rm : holdsB ⟨0, 31, 1⟩ rm = true := R.rm
  have q_ra : holdsB ⟨0, 31, 1⟩ ra = true := R.ra
  have q_sub : holdsB ⟨0, 0, 0⟩ 0 = true := R.sub
  have q_imm : holdsB ⟨0, 0, 0⟩ imm = true := R.imm
  have q_imm2 : holdsB ⟨0, 0, 0⟩ imm2 = true := R.imm2
  have q_amount : holdsB ⟨0, 0, 0⟩ amount = true := R.amount
  have q_shift : holdsB ⟨0, 0, 0⟩ shift = true := R.shift
  have q_cond : holdsB ⟨0, 0, 0⟩ cond = true := R.cond
  have C := (cd_then (cd_sgn .minus 15 (by decide)) (cd_then (cd_num .ra 1 10 5 (by decide) (by decide) (by decide)) (cd_then (cd_num .rm 1 16 5 (by decide) (by decide) (by decide)) (cd_then (cd_num .rn 1 5 5 (by decide) (by decide) (by decide)) (cd_num .rd 1 0 5 (by decide) (by decide) (by decide))))))
  have e := word_sum fm7 C (by simp [forms, formsA, formsB]) [(15, 1), (10, 5), (16, 5), (5, 5), (0, 5)] (fun _ => rfl) (by kernel_rfl) (by kernel_rfl) hR hF ⟨trivial, ⟨(fit_one q_ra (by decide) (by decide)), ⟨(fit_one q_rm (by decide) (by decide)), ⟨(fit_one q_rn (by decide) (by decide)), (fit_one q_rd (by decide) (by decide))⟩⟩⟩⟩
  rw [e]
  refine ⟨?_, rfl⟩
  show ((2600468480 + sumC _ : Nat) : Int) = _
  rw [Int.natCast_add]
  simp only [List.cons_append, List.nil_append, twoC, adrC, sum_cons, sum_nil]
  congr 1
  refine congr (congrArg _ (by exact when_low minus _)) ?_
  refine congr (congrArg _ (by exact congrArg (· * _) ((low_mod _ (by decide)).trans (by rw [Int.tdiv_one]; rfl)))) ?_
  refine congr (congrArg _ (by exact congrArg (· * _) ((low_mod _ (by decide)).trans (by rw [Int.tdiv_one]; rfl)))) ?_
  refine congr (congrArg _ (by exact congrArg (· * _) ((low_mod _ (by decide)).trans (by rw [Int.tdiv_one]; rfl)))) ?_
  refine congr (congrArg _ (by exact congrArg (· * _) ((low_mod _ (by decide)).trans (by rw [Int.tdiv_one]; rfl)))) ?_
  rfl
set_option maxRecDepth 4000 in
theorem wd8 (sub rd rn rm ra imm imm2 amount shift cond sys : Int) (flags minus not link : Bool) (hR : rightB (⟨9, sub, rd, rn, rm, ra, imm, imm2, amount, shift, cond, sys, flags, minus, not, link⟩ : Ins) = true) : (encV (⟨9, sub, rd, rn, rm, ra, imm, imm2, amount, shift, cond, sys, flags, minus, not, link⟩ : Ins)).1 = 2596276224 + (sub % 2 * 1024 + (rm % 32 * 65536 + (rn % 32 * 32 + (rd % 32 * 1 + 0)))) ∧ (encV (⟨9, sub, rd, rn, rm, ra, imm, imm2, amount, shift, cond, sys, flags, minus, not, link⟩ : Ins)).2 = 0 := by
  have hF : isForm fm8 (⟨9, sub, rd, rn, rm, ra, imm, imm2, amount, shift, cond, sys, flags, minus, not, link⟩ : Ins) = true := isForm_each rfl rfl
  have R := rightF hR
  have q_rd : holdsB ⟨0, 31, 1⟩ rd = true := R.rd
  have q_rn : holdsB ⟨0, 31, 1⟩ rn = true := R.rn
  have q_rm : holdsB ⟨0, 31, 1⟩ rm = true := R.rm
  have q_ra : holdsB ⟨0, 0, 0⟩ ra = true := R.ra
  have q_sub : holdsB ⟨0, 1, 1⟩ sub = true := R.sub
  have q_imm : holdsB ⟨0, 0, 0⟩ imm = true := R.imm
  have q_imm2 : holdsB ⟨0, 0, 0⟩ imm2 = true := R.imm2
  have q_amount : holdsB ⟨0, 0, 0⟩ amount = true := R.amount
  have q_shift : holdsB ⟨0, 0, 0⟩ shift = true := R.shift
  have q_cond : holdsB ⟨0, 0, 0⟩ cond = true := R.cond
  have C := (cd_then (cd_num .sub 1 10 1 (by decide) (by decide) (by decide)) (cd_then (cd_num .rm 1 16 5 (by decide) (by decide) (by decide)) (cd_then (cd_num .rn 1 5 5 (by decide) (by decide) (by decide)) (cd_num .rd 1 0 5 (by decide) (by decide) (by decide)))))
  have e := word_sum fm8 C (by simp [forms, formsA, formsB]) [(10, 1), (16, 5), (5, 5), (0, 5)] (fun _ => rfl) (by kernel_rfl) (by kernel_rfl) hR hF ⟨(fit_one q_sub (by decide) (by decide)), ⟨(fit_one q_rm (by decide) (by decide)), ⟨(fit_one q_rn (by decide) (by decide)), (fit_one q_rd (by decide) (by decide))⟩⟩⟩
  rw [e]
  refine ⟨?_, rfl⟩
  show ((2596276224 + sumC _ : Nat) : Int) = _
  rw [Int.natCast_add]
  simp only [List.cons_append, List.nil_append, twoC, adrC, sum_cons, sum_nil]
  congr 1
  refine congr (congrArg _ (by exact congrArg (· * _) ((low_mod _ (by decide)).trans (by rw [Int.tdiv_one]; rfl)))) ?_
  refine congr (congrArg _ (by exact congrArg (· * _) ((low_mod _ (by decide)).trans (by rw [Int.tdiv_one]; rfl)))) ?_
  refine congr (congrArg _ (by exact congrArg (· * _) ((low_mod _ (by decide)).trans (by rw [Int.tdiv_one]; rfl)))) ?_
  refine congr (congrArg _ (by exact congrArg (· * _) ((low_mod _ (by decide)).trans (by rw [Int.tdiv_one]; rfl)))) ?_
  rfl
set_option maxRecDepth 4000 in
theorem wd9 (sub rd rn rm ra imm imm2 amount shift cond sys : Int) (flags minus not link : Bool) (hR : rightB (⟨10, sub, rd, rn, rm, ra, imm, imm2, amount, shift, cond, sys, flags, minus, not, link⟩ : Ins) = true) : (encV (⟨10, sub, rd, rn, rm, ra, imm, imm2, amount, shift, cond, sys, flags, minus, not, link⟩ : Ins)).1 = 2592079872 + (sub.tdiv 2 % 2 * 1073741824 + (sub.tmod 2 % 2 * 1024 + (cond % 16 * 4096 + (rm % 32 * 65536 + (rn % 32 * 32 + (rd % 32 * 1 + 0)))))) ∧ (encV (⟨10, sub, rd, rn, rm, ra, imm, imm2, amount, shift, cond, sys, flags, minus, not, link⟩ : Ins)).2 = 0 := by
  have hF : isForm fm9 (⟨10, sub, rd, rn, rm, ra, imm, imm2, amount, shift, cond, sys, flags, minus, not, link⟩ : Ins) = true := isForm_each rfl rfl
  have R := rightF hR
  have q_rd : holdsB ⟨0, 31, 1⟩ rd = true := R.rd
  have q_rn : holdsB ⟨0, 31, 1⟩ rn = true := R.rn
  have q_rm : holdsB ⟨0, 31, 1⟩ rm = true := R.rm
  have q_ra : holdsB ⟨0, 0, 0⟩ ra = true := R.ra
  have q_sub : holdsB ⟨0, 3, 1⟩ sub = true := R.sub
  have q_imm : holdsB ⟨0, 0, 0⟩ imm = true := R.imm
  have q_imm2 : holdsB ⟨0, 0, 0⟩ imm2 = true := R.imm2
  have q_amount : holdsB ⟨0, 0, 0⟩ amount = true := R.amount
  have q_shift : holdsB ⟨0, 0, 0⟩ shift = true := R.shift
  have q_cond : holdsB ⟨0, 15, 1⟩ cond = true := R.cond
  have C := (cd_then cd_sel0 (cd_then (cd_num .cond 1 12 4 (by decide) (by decide) (by decide)) (cd_then (cd_num .rm 1 16 5 (by decide) (by decide) (by decide)) (cd_then (cd_num .rn 1 5 5 (by decide) (by decide) (by decide)) (cd_num .rd 1 0 5 (by decide) (by decide) (by decide))))))
  have e := word_sum fm9 C (by simp [forms, formsA, formsB]) [(30, 1), (10, 1), (12, 4), (16, 5), (5, 5), (0, 5)] (fun _ => rfl) (by kernel_rfl) (by kernel_rfl) hR hF ⟨(fit_two q_sub (by decide) (by decide)), ⟨(fit_one q_cond (by decide) (by decide)), ⟨(fit_one q_rm (by decide) (by decide)), ⟨(fit_one q_rn (by decide) (by decide)), (fit_one q_rd (by decide) (by decide))⟩⟩⟩⟩
  rw [e]
  refine ⟨?_, rfl⟩
  show ((2592079872 + sumC _ : Nat) : Int) = _
  rw [Int.natCast_add]
  simp only [List.cons_append, List.nil_append, twoC, adrC, sum_cons, sum_nil]
  congr 1
  refine congr (congrArg _ (by exact congrArg (· * _) (low_mod _ (by decide)))) ?_
  refine congr (congrArg _ (by exact congrArg (· * _) (low_mod _ (by decide)))) ?_
  refine congr (congrArg _ (by exact congrArg (· * _) ((low_mod _ (by decide)).trans (by rw [Int.tdiv_one]; rfl)))) ?_
  refine congr (congrArg _ (by exact congrArg (· * _) ((low_mod _ (by decide)).trans (by rw [Int.tdiv_one]; rfl)))) ?_
  refine congr (congrArg _ (by exact congrArg (· * _) ((low_mod _ (by decide)).trans (by rw [Int.tdiv_one]; rfl)))) ?_
  refine congr (congrArg _ (by exact congrArg (· * _) ((low_mod _ (by decide)).trans (by rw [Int.tdiv_one]; rfl)))) ?_
  rfl
set_option maxRecDepth 4000 in
theorem wd10 (sub rd rn rm ra imm imm2 amount shift cond sys : Int) (flags minus not link : Bool) (hR : rightB (⟨11, sub, rd, rn, rm, ra, imm, imm2, amount, shift, cond, sys, flags, minus, not, link⟩ : Ins) = true) : (encV (⟨11, sub, rd, rn, rm, ra, imm, imm2, amount, shift, cond, sys, flags, minus, not, link⟩ : Ins)).1 = 268435456 + (sub % 2 * 2147483648 + ((bif sub == 1 then imm.tdiv 4096 else imm) % 4 * 536870912 + ((bif sub == 1 then imm.tdiv 4096 else imm) / 4 % 524288 * 32 + (rd % 32 * 1 + 0)))) ∧ (encV (⟨11, sub, rd, rn, rm, ra, imm, imm2, amount, shift, cond, sys, flags, minus, not, link⟩ : Ins)).2 = 0 := by
  have hF : isForm fm10 (⟨11, sub, rd, rn, rm, ra, imm, imm2, amount, shift, cond, sys, flags, minus, not, link⟩ : Ins) = true := isForm_each rfl rfl
  have R := rightF hR
  have q_rd : holdsB ⟨0, 31, 1⟩ rd = true := R.rd
  have q_rn : holdsB ⟨0, 0, 0⟩ rn = true := R.rn
  have q_rm : holdsB ⟨0, 0, 0⟩ rm = true := R.rm
  have q_ra : holdsB ⟨0, 0, 0⟩ ra = true := R.ra
  have q_sub : holdsB ⟨0, 1, 1⟩ sub = true := R.sub
  have q_imm2 : holdsB ⟨0, 0, 0⟩ imm2 = true := R.imm2
  have q_amount : holdsB ⟨0, 0, 0⟩ amount = true := R.amount
  have q_shift : holdsB ⟨0, 0, 0⟩ shift = true := R.shift
  have q_cond : holdsB ⟨0, 0, 0⟩ cond = true := R.cond
  have C := (cd_then (cd_num .sub 1 31 1 (by decide) (by decide) (by decide)) (cd_then cd_adr0 (cd_num .rd 1 0 5 (by decide) (by decide) (by decide))))
  have e := word_sum fm10 C (by simp [forms, formsA, formsB]) [(31, 1), (29, 2), (5, 19), (0, 5)] (fun _ => rfl) (by kernel_rfl) (by kernel_rfl) hR hF ⟨(fit_one q_sub (by decide) (by decide)), ⟨fit_adr (i := (⟨11, sub, rd, rn, rm, ra, imm, imm2, amount, shift, cond, sys, flags, minus, not, link⟩ : Ins)) rfl q_sub R.imm, (fit_one q_rd (by decide) (by decide))⟩⟩
  rw [e]
  refine ⟨?_, rfl⟩
  show ((268435456 + sumC _ : Nat) : Int) = _
  rw [Int.natCast_add]
  simp only [List.cons_append, List.nil_append, twoC, adrC, sum_cons, sum_nil]
  congr 1
  refine congr (congrArg _ (by exact congrArg (· * _) ((low_mod _ (by decide)).trans (by rw [Int.tdiv_one]; rfl)))) ?_
  refine congr (congrArg _ (by exact congrArg (· * _) (low_mod _ (by decide)))) ?_
  refine congr (congrArg _ (by exact congrArg (· * _) (low_mod _ (by decide)))) ?_
  refine congr (congrArg _ (by exact congrArg (· * _) ((low_mod _ (by decide)).trans (by rw [Int.tdiv_one]; rfl)))) ?_
  rfl
set_option maxRecDepth 4000 in
theorem wd11 (sub rd rn rm ra imm imm2 amount shift cond sys : Int) (flags minus not link : Bool) (hR : rightB (⟨12, 0, rd, rn, rm, ra, imm, imm2, amount, shift, cond, sys, flags, minus, not, link⟩ : Ins) = true) : (encV (⟨12, 0, rd, rn, rm, ra, imm, imm2, amount, shift, cond, sys, flags, minus, not, link⟩ : Ins)).1 = 335544320 + (whenI link 2147483648 + (imm.tdiv 4 % 67108864 * 1 + 0)) ∧ (encV (⟨12, 0, rd, rn, rm, ra, imm, imm2, amount, shift, cond, sys, flags, minus, not, link⟩ : Ins)).2 = 0 := by
  have hF : isForm fm11 (⟨12, 0, rd, rn, rm, ra, imm, imm2, amount, shift, cond, sys, flags, minus, not, link⟩ : Ins) = true := isForm_one rfl rfl
  have R := rightF hR
  have q_rd : holdsB ⟨0, 0, 0⟩ rd = true := R.rd
  have q_rn : holdsB ⟨0, 0, 0⟩ rn = true := R.rn
  have q_rm : holdsB ⟨0, 0, 0⟩ rm = true := R.rm
  have q_ra : holdsB ⟨0, 0, 0⟩ ra = true := R.ra
  have q_sub : holdsB ⟨0, 0, 0⟩ 0 = true := R.sub
  have q_imm : holdsB ⟨(-134217728), 134217724, 4⟩ imm = true := R.imm
  have q_imm2 : holdsB ⟨0, 0, 0⟩ imm2 = true := R.imm2
  have q_amount : holdsB ⟨0, 0, 0⟩ amount = true := R.amount
  have q_shift : holdsB ⟨0, 0, 0⟩ shift = true := R.shift
  have q_cond : holdsB ⟨0, 0, 0⟩ cond = true := R.cond
  have C := (cd_then (cd_sgn .link 31 (by decide)) (cd_words 0 26 (by decide) (by decide)))
  have e := word_sum fm11 C (by simp [forms, formsA, formsB]) [(31, 1), (0, 26)] (fun _ => rfl) (by kernel_rfl) (by kernel_rfl) hR hF ⟨trivial, (fit_words q_imm (by decide) (by decide))⟩
  rw [e]
  refine ⟨?_, rfl⟩
  show ((335544320 + sumC _ : Nat) : Int) = _
  rw [Int.natCast_add]
  simp only [List.cons_append, List.nil_append, twoC, adrC, sum_cons, sum_nil]
  congr 1
  refine congr (congrArg _ (by exact when_low link _)) ?_
  refine congr (congrArg _ (by exact congrArg (· * _) (low_mod _ (by decide)))) ?_
  rfl
set_option maxRecDepth 4000 in
theorem wd12 (sub rd rn rm ra imm imm2 amount shift cond sys : Int) (flags minus not link : Bool) (hR : rightB (⟨13, 0, rd, rn, rm, ra, imm, imm2, amount, shift, cond, sys, flags, minus, not, link⟩ : Ins) = true) : (encV (⟨13, 0, rd, rn, rm, ra, imm, imm2, amount, shift, cond, sys, flags, minus, not, link⟩ : Ins)).1 = 1409286144 + (imm.tdiv 4 % 524288 * 32 + (cond % 16 * 1 + 0)) ∧ (encV (⟨13, 0, rd, rn, rm, ra, imm, imm2, amount, shift, cond, sys, flags, minus, not, link⟩ : Ins)).2 = 0 := by
  have hF : isForm fm12 (⟨13, 0, rd, rn, rm, ra, imm, imm2, amount, shift, cond, sys, flags, minus, not, link⟩ : Ins) = true := isForm_one rfl rfl
  have R := rightF hR
  have q_rd : holdsB ⟨0, 0, 0⟩ rd = true := R.rd
  have q_rn : holdsB ⟨0, 0, 0⟩ rn = true := R.rn
  have q_rm : holdsB ⟨0, 0, 0⟩ rm = true := R.rm
  have q_ra : holdsB ⟨0, 0, 0⟩ ra = true := R.ra
  have q_sub : holdsB ⟨0, 0, 0⟩ 0 = true := R.sub
  have q_imm : holdsB ⟨(-1048576), 1048572, 4⟩ imm = true := R.imm
  have q_imm2 : holdsB ⟨0, 0, 0⟩ imm2 = true := R.imm2
  have q_amount : holdsB ⟨0, 0, 0⟩ amount = true := R.amount
  have q_shift : holdsB ⟨0, 0, 0⟩ shift = true := R.shift
  have q_cond : holdsB ⟨0, 15, 1⟩ cond = true := R.cond
  have C := (cd_then (cd_words 5 19 (by decide) (by decide)) (cd_num .cond 1 0 4 (by decide) (by decide) (by decide)))
  have e := word_sum fm12 C (by simp [forms, formsA, formsB]) [(5, 19), (0, 4)] (fun _ => rfl) (by kernel_rfl) (by kernel_rfl) hR hF ⟨(fit_words q_imm (by decide) (by decide)), (fit_one q_cond (by decide) (by decide))⟩
  rw [e]
  refine ⟨?_, rfl⟩
  show ((1409286144 + sumC _ : Nat) : Int) = _
  rw [Int.natCast_add]
  simp only [List.cons_append, List.nil_append, twoC, adrC, sum_cons, sum_nil]
  congr 1
  refine congr (congrArg _ (by exact congrArg (· * _) (low_mod _ (by decide)))) ?_
  refine congr (congrArg _ (by exact congrArg (· * _) ((low_mod _ (by decide)).trans (by rw [Int.tdiv_one]; rfl)))) ?_
  rfl
set_option maxRecDepth 4000 in
theorem wd13 (sub rd rn rm ra imm imm2 amount shift cond sys : Int) (flags minus not link : Bool) (hR : rightB (⟨14, 0, rd, rn, rm, ra, imm, imm2, amount, shift, cond, sys, flags, minus, not, link⟩ : Ins) = true) : (encV (⟨14, 0, rd, rn, rm, ra, imm, imm2, amount, shift, cond, sys, flags, minus, not, link⟩ : Ins)).1 = 3019898880 + (whenI not 16777216 + (imm.tdiv 4 % 524288 * 32 + (rd % 32 * 1 + 0))) ∧ (encV (⟨14, 0, rd, rn, rm, ra, imm, imm2, amount, shift, cond, sys, flags, minus, not, link⟩ : Ins)).2 = 0 := by
  have hF : isForm fm13 (⟨14, 0, rd, rn, rm, ra, imm, imm2, amount, shift, cond, sys, flags, minus, not, link⟩ : Ins) = true := isForm_one rfl rfl
  have R := rightF hR
  have q_rd : holdsB ⟨0, 31, 1⟩ rd = true := R.rd
  have q_rn : holdsB ⟨0, 0, 0⟩ rn = true := R.rn
  have q_rm : holdsB ⟨0, 0, 0⟩ rm = true := R.rm
  have q_ra : holdsB ⟨0, 0, 0⟩ ra = true := R.ra
  have q_sub : holdsB ⟨0, 0, 0⟩ 0 = true := R.sub
  have q_imm : holdsB ⟨(-1048576), 1048572, 4⟩ imm = true := R.imm
  have q_imm2 : holdsB ⟨0, 0, 0⟩ imm2 = true := R.imm2
  have q_amount : holdsB ⟨0, 0, 0⟩ amount = true := R.amount
  have q_shift : holdsB ⟨0, 0, 0⟩ shift = true := R.shift
  have q_cond : holdsB ⟨0, 0, 0⟩ cond = true := R.cond
  have C := (cd_then (cd_sgn .not 24 (by decide)) (cd_then (cd_words 5 19 (by decide) (by decide)) (cd_num .rd 1 0 5 (by decide) (by decide) (by decide))))
  have e := word_sum fm13 C (by simp [forms, formsA, formsB]) [(24, 1), (5, 19), (0, 5)] (fun _ => rfl) (by kernel_rfl) (by kernel_rfl) hR hF ⟨trivial, ⟨(fit_words q_imm (by decide) (by decide)), (fit_one q_rd (by decide) (by decide))⟩⟩
  rw [e]
  refine ⟨?_, rfl⟩
  show ((3019898880 + sumC _ : Nat) : Int) = _
  rw [Int.natCast_add]
  simp only [List.cons_append, List.nil_append, twoC, adrC, sum_cons, sum_nil]
  congr 1
  refine congr (congrArg _ (by exact when_low not _)) ?_
  refine congr (congrArg _ (by exact congrArg (· * _) (low_mod _ (by decide)))) ?_
  refine congr (congrArg _ (by exact congrArg (· * _) ((low_mod _ (by decide)).trans (by rw [Int.tdiv_one]; rfl)))) ?_
  rfl
set_option maxRecDepth 4000 in
theorem wd14 (sub rd rn rm ra imm imm2 amount shift cond sys : Int) (flags minus not link : Bool) (hR : rightB (⟨15, 0, rd, rn, rm, ra, imm, imm2, amount, shift, cond, sys, flags, minus, not, link⟩ : Ins) = true) : (encV (⟨15, 0, rd, rn, rm, ra, imm, imm2, amount, shift, cond, sys, flags, minus, not, link⟩ : Ins)).1 = 905969664 + (whenI not 16777216 + (amount.tdiv 32 % 2 * 2147483648 + (amount.tmod 32 % 32 * 524288 + (imm.tdiv 4 % 16384 * 32 + (rd % 32 * 1 + 0))))) ∧ (encV (⟨15, 0, rd, rn, rm, ra, imm, imm2, amount, shift, cond, sys, flags, minus, not, link⟩ : Ins)).2 = 0 := by
  have hF : isForm fm14 (⟨15, 0, rd, rn, rm, ra, imm, imm2, amount, shift, cond, sys, flags, minus, not, link⟩ : Ins) = true := isForm_one rfl rfl
  have R := rightF hR
  have q_rd : holdsB ⟨0, 31, 1⟩ rd = true := R.rd
  have q_rn : holdsB ⟨0, 0, 0⟩ rn = true := R.rn
  have q_rm : holdsB ⟨0, 0, 0⟩ rm = true := R.rm
  have q_ra : holdsB ⟨0, 0, 0⟩ ra = true := R.ra
  have q_sub : holdsB ⟨0, 0, 0⟩ 0 = true := R.sub
  have q_imm : holdsB ⟨(-32768), 32764, 4⟩ imm = true := R.imm
  have q_imm2 : holdsB ⟨0, 0, 0⟩ imm2 = true := R.imm2
  have q_amount : holdsB ⟨0, 63, 1⟩ amount = true := R.amount
  have q_shift : holdsB ⟨0, 0, 0⟩ shift = true := R.shift
  have q_cond : holdsB ⟨0, 0, 0⟩ cond = true := R.cond
  have C := (cd_then (cd_sgn .not 24 (by decide)) (cd_then cd_tbz0 (cd_then (cd_words 5 14 (by decide) (by decide)) (cd_num .rd 1 0 5 (by decide) (by decide) (by decide)))))
  have e := word_sum fm14 C (by simp [forms, formsA, formsB]) [(24, 1), (31, 1), (19, 5), (5, 14), (0, 5)] (fun _ => rfl) (by kernel_rfl) (by kernel_rfl) hR hF ⟨trivial, ⟨(fit_two q_amount (by decide) (by decide)), ⟨(fit_words q_imm (by decide) (by decide)), (fit_one q_rd (by decide) (by decide))⟩⟩⟩
  rw [e]
  refine ⟨?_, rfl⟩
  show ((905969664 + sumC _ : Nat) : Int) = _
  rw [Int.natCast_add]
  simp only [List.cons_append, List.nil_append, twoC, adrC, sum_cons, sum_nil]
  congr 1
  refine congr (congrArg _ (by exact when_low not _)) ?_
  refine congr (congrArg _ (by exact congrArg (· * _) (low_mod _ (by decide)))) ?_
  refine congr (congrArg _ (by exact congrArg (· * _) (low_mod _ (by decide)))) ?_
  refine congr (congrArg _ (by exact congrArg (· * _) (low_mod _ (by decide)))) ?_
  refine congr (congrArg _ (by exact congrArg (· * _) ((low_mod _ (by decide)).trans (by rw [Int.tdiv_one]; rfl)))) ?_
  rfl
set_option maxRecDepth 4000 in
theorem wd15 (sub rd rn rm ra imm imm2 amount shift cond sys : Int) (flags minus not link : Bool) (hR : rightB (⟨16, sub, rd, rn, rm, ra, imm, imm2, amount, shift, cond, sys, flags, minus, not, link⟩ : Ins) = true) : (encV (⟨16, sub, rd, rn, rm, ra, imm, imm2, amount, shift, cond, sys, flags, minus, not, link⟩ : Ins)).1 = 3592355840 + (sub % 4 * 2097152 + (rn % 32 * 32 + 0)) ∧ (encV (⟨16, sub, rd, rn, rm, ra, imm, imm2, amount, shift, cond, sys, flags, minus, not, link⟩ : Ins)).2 = 0 := by
  have hF : isForm fm15 (⟨16, sub, rd, rn, rm, ra, imm, imm2, amount, shift, cond, sys, flags, minus, not, link⟩ : Ins) = true := isForm_each rfl rfl
  have R := rightF hR
  have q_rd : holdsB ⟨0, 0, 0⟩ rd = true := R.rd
  have q_rn : holdsB ⟨0, 31, 1⟩ rn = true := R.rn
  have q_rm : holdsB ⟨0, 0, 0⟩ rm = true := R.rm
  have q_ra : holdsB ⟨0, 0, 0⟩ ra = true := R.ra
  have q_sub : holdsB ⟨0, 2, 1⟩ sub = true := R.sub
  have q_imm : holdsB ⟨0, 0, 0⟩ imm = true := R.imm
  have q_imm2 : holdsB ⟨0, 0, 0⟩ imm2 = true := R.imm2
  have q_amount : holdsB ⟨0, 0, 0⟩ amount = true := R.amount
  have q_shift : holdsB ⟨0, 0, 0⟩ shift = true := R.shift
  have q_cond : holdsB ⟨0, 0, 0⟩ cond = true := R.cond
  have C := (cd_then (cd_num .sub 1 21 2 (by decide) (by decide) (by decide)) (cd_num .rn 1 5 5 (by decide) (by decide) (by decide)))
  have e := word_sum fm15 C (by simp [forms, formsA, formsB]) [(21, 2), (5, 5)] (fun _ => rfl) (by kernel_rfl) (by kernel_rfl) hR hF ⟨(fit_one q_sub (by decide) (by decide)), (fit_one q_rn (by decide) (by decide))⟩
  rw [e]
  refine ⟨?_, rfl⟩
  show ((3592355840 + sumC _ : Nat) : Int) = _
  rw [Int.natCast_add]
  simp only [List.cons_append, List.nil_append, twoC, adrC, sum_cons, sum_nil]
  congr 1
  refine congr (congrArg _ (by exact congrArg (· * _) ((low_mod _ (by decide)).trans (by rw [Int.tdiv_one]; rfl)))) ?_
  refine congr (congrArg _ (by exact congrArg (· * _) ((low_mod _ (by decide)).trans (by rw [Int.tdiv_one]; rfl)))) ?_
  rfl
set_option maxRecDepth 4000 in
theorem wd16 (sub rd rn rm ra imm imm2 amount shift cond sys : Int) (flags minus not link : Bool) (hR : rightB (⟨17, 0, rd, rn, rm, ra, imm, imm2, amount, shift, cond, sys, flags, minus, not, link⟩ : Ins) = true) : (encV (⟨17, 0, rd, rn, rm, ra, imm, imm2, amount, shift, cond, sys, flags, minus, not, link⟩ : Ins)).1 = 4181721088 + (imm.tdiv 8 % 4096 * 1024 + (rn % 32 * 32 + (rd % 32 * 1 + 0))) ∧ (encV (⟨17, 0, rd, rn, rm, ra, imm, imm2, amount, shift, cond, sys, flags, minus, not, link⟩ : Ins)).2 = 0 := by
  have hF : isForm fm16 (⟨17, 0, rd, rn, rm, ra, imm, imm2, amount, shift, cond, sys, flags, minus, not, link⟩ : Ins) = true := isForm_one rfl rfl
  have R := rightF hR
  have q_rd : holdsB ⟨0, 31, 1⟩ rd = true := R.rd
  have q_rn : holdsB ⟨0, 31, 1⟩ rn = true := R.rn
  have q_rm : holdsB ⟨0, 0, 0⟩ rm = true := R.rm
  have q_ra : holdsB ⟨0, 0, 0⟩ ra = true := R.ra
  have q_sub : holdsB ⟨0, 0, 0⟩ 0 = true := R.sub
  have q_imm : holdsB ⟨0, 32760, 8⟩ imm = true := R.imm
  have q_imm2 : holdsB ⟨0, 0, 0⟩ imm2 = true := R.imm2
  have q_amount : holdsB ⟨0, 0, 0⟩ amount = true := R.amount
  have q_shift : holdsB ⟨0, 0, 0⟩ shift = true := R.shift
  have q_cond : holdsB ⟨0, 0, 0⟩ cond = true := R.cond
  have C := (cd_then (cd_num .imm 8 10 12 (by decide) (by decide) (by decide)) (cd_then (cd_num .rn 1 5 5 (by decide) (by decide) (by decide)) (cd_num .rd 1 0 5 (by decide) (by decide) (by decide))))
  have e := word_sum fm16 C (by simp [forms, formsA, formsB]) [(10, 12), (5, 5), (0, 5)] (fun _ => rfl) (by kernel_rfl) (by kernel_rfl) hR hF ⟨(fit_num q_imm (by decide) (by decide) (by decide)), ⟨(fit_one q_rn (by decide) (by decide)), (fit_one q_rd (by decide) (by decide))⟩⟩
  rw [e]
  refine ⟨?_, rfl⟩
  show ((4181721088 + sumC _ : Nat) : Int) = _
  rw [Int.natCast_add]
  simp only [List.cons_append, List.nil_append, twoC, adrC, sum_cons, sum_nil]
  congr 1
  refine congr (congrArg _ (by exact congrArg (· * _) (low_mod _ (by decide)))) ?_
  refine congr (congrArg _ (by exact congrArg (· * _) ((low_mod _ (by decide)).trans (by rw [Int.tdiv_one]; rfl)))) ?_
  refine congr (congrArg _ (by exact congrArg (· * _) ((low_mod _ (by decide)).trans (by rw [Int.tdiv_one]; rfl)))) ?_
  rfl
set_option maxRecDepth 4000 in
theorem wd17 (sub rd rn rm ra imm imm2 amount shift cond sys : Int) (flags minus not link : Bool) (hR : rightB (⟨18, 0, rd, rn, rm, ra, imm, imm2, amount, shift, cond, sys, flags, minus, not, link⟩ : Ins) = true) : (encV (⟨18, 0, rd, rn, rm, ra, imm, imm2, amount, shift, cond, sys, flags, minus, not, link⟩ : Ins)).1 = 4177526784 + (imm.tdiv 8 % 4096 * 1024 + (rn % 32 * 32 + (rd % 32 * 1 + 0))) ∧ (encV (⟨18, 0, rd, rn, rm, ra, imm, imm2, amount, shift, cond, sys, flags, minus, not, link⟩ : Ins)).2 = 0 := by
  have hF : isForm fm17 (⟨18, 0, rd, rn, rm, ra, imm, imm2, amount, shift, cond, sys, flags, minus, not, link⟩ : Ins) = true := isForm_one rfl rfl
  have R := rightF hR
  have q_rd : holdsB ⟨0, 31, 1⟩ rd = true := R.rd
  have q_rn : holdsB ⟨0, 31, 1⟩ rn = true := R.rn
  have q_rm : holdsB ⟨0, 0, 0⟩ rm = true := R.rm
  have q_ra : holdsB ⟨0, 0, 0⟩ ra = true := R.ra
  have q_sub : holdsB ⟨0, 0, 0⟩ 0 = true := R.sub
  have q_imm : holdsB ⟨0, 32760, 8⟩ imm = true := R.imm
  have q_imm2 : holdsB ⟨0, 0, 0⟩ imm2 = true := R.imm2
  have q_amount : holdsB ⟨0, 0, 0⟩ amount = true := R.amount
  have q_shift : holdsB ⟨0, 0, 0⟩ shift = true := R.shift
  have q_cond : holdsB ⟨0, 0, 0⟩ cond = true := R.cond
  have C := (cd_then (cd_num .imm 8 10 12 (by decide) (by decide) (by decide)) (cd_then (cd_num .rn 1 5 5 (by decide) (by decide) (by decide)) (cd_num .rd 1 0 5 (by decide) (by decide) (by decide))))
  have e := word_sum fm17 C (by simp [forms, formsA, formsB]) [(10, 12), (5, 5), (0, 5)] (fun _ => rfl) (by kernel_rfl) (by kernel_rfl) hR hF ⟨(fit_num q_imm (by decide) (by decide) (by decide)), ⟨(fit_one q_rn (by decide) (by decide)), (fit_one q_rd (by decide) (by decide))⟩⟩
  rw [e]
  refine ⟨?_, rfl⟩
  show ((4177526784 + sumC _ : Nat) : Int) = _
  rw [Int.natCast_add]
  simp only [List.cons_append, List.nil_append, twoC, adrC, sum_cons, sum_nil]
  congr 1
  refine congr (congrArg _ (by exact congrArg (· * _) (low_mod _ (by decide)))) ?_
  refine congr (congrArg _ (by exact congrArg (· * _) ((low_mod _ (by decide)).trans (by rw [Int.tdiv_one]; rfl)))) ?_
  refine congr (congrArg _ (by exact congrArg (· * _) ((low_mod _ (by decide)).trans (by rw [Int.tdiv_one]; rfl)))) ?_
  rfl
set_option maxRecDepth 4000 in
theorem wd18 (sub rd rn rm ra imm imm2 amount shift cond sys : Int) (flags minus not link : Bool) (hR : rightB (⟨19, 0, rd, rn, rm, ra, imm, imm2, amount, shift, cond, sys, flags, minus, not, link⟩ : Ins) = true) : (encV (⟨19, 0, rd, rn, rm, ra, imm, imm2, amount, shift, cond, sys, flags, minus, not, link⟩ : Ins)).1 = 4167067648 + (amount.tdiv 3 % 2 * 4096 + (rm % 32 * 65536 + (rn % 32 * 32 + (rd % 32 * 1 + 0)))) ∧ (encV (⟨19, 0, rd, rn, rm, ra, imm, imm2, amount, shift, cond, sys, flags, minus, not, link⟩ : Ins)).2 = 0 := by
  have hF : isForm fm18 (⟨19, 0, rd, rn, rm, ra, imm, imm2, amount, shift, cond, sys, flags, minus, not, link⟩ : Ins) = true := isForm_one rfl rfl
  have R := rightF hR
  have q_rd : holdsB ⟨0, 31, 1⟩ rd = true := R.rd
  have q_rn : holdsB ⟨0, 31, 1⟩ rn = true := R.rn
  have q_rm : holdsB ⟨0, 31, 1⟩ rm = true := R.rm
  have q_ra : holdsB ⟨0, 0, 0⟩ ra = true := R.ra
  have q_sub : holdsB ⟨0, 0, 0⟩ 0 = true := R.sub
  have q_imm : holdsB ⟨0, 0, 0⟩ imm = true := R.imm
  have q_imm2 : holdsB ⟨0, 0, 0⟩ imm2 = true := R.imm2
  have q_amount : holdsB ⟨0, 3, 3⟩ amount = true := R.amount
  have q_shift : holdsB ⟨0, 0, 0⟩ shift = true := R.shift
  have q_cond : holdsB ⟨0, 0, 0⟩ cond = true := R.cond
  have C := (cd_then (cd_num .amount 3 12 1 (by decide) (by decide) (by decide)) (cd_then (cd_num .rm 1 16 5 (by decide) (by decide) (by decide)) (cd_then (cd_num .rn 1 5 5 (by decide) (by decide) (by decide)) (cd_num .rd 1 0 5 (by decide) (by decide) (by decide)))))
  have e := word_sum fm18 C (by simp [forms, formsA, formsB]) [(12, 1), (16, 5), (5, 5), (0, 5)] (fun _ => rfl) (by kernel_rfl) (by kernel_rfl) hR hF ⟨(fit_num q_amount (by decide) (by decide) (by decide)), ⟨(fit_one q_rm (by decide) (by decide)), ⟨(fit_one q_rn (by decide) (by decide)), (fit_one q_rd (by decide) (by decide))⟩⟩⟩
  rw [e]
  refine ⟨?_, rfl⟩
  show ((4167067648 + sumC _ : Nat) : Int) = _
  rw [Int.natCast_add]
  simp only [List.cons_append, List.nil_append, twoC, adrC, sum_cons, sum_nil]
  congr 1
  refine congr (congrArg _ (by exact congrArg (· * _) (low_mod _ (by decide)))) ?_
  refine congr (congrArg _ (by exact congrArg (· * _) ((low_mod _ (by decide)).trans (by rw [Int.tdiv_one]; rfl)))) ?_
  refine congr (congrArg _ (by exact congrArg (· * _) ((low_mod _ (by decide)).trans (by rw [Int.tdiv_one]; rfl)))) ?_
  refine congr (congrArg _ (by exact congrArg (· * _) ((low_mod _ (by decide)).trans (by rw [Int.tdiv_one]; rfl)))) ?_
  rfl
set_option maxRecDepth 4000 in
theorem wd19 (sub rd rn rm ra imm imm2 amount shift cond sys : Int) (flags minus not link : Bool) (hR : rightB (⟨20, 0, rd, rn, rm, ra, imm, imm2, amount, shift, cond, sys, flags, minus, not, link⟩ : Ins) = true) : (encV (⟨20, 0, rd, rn, rm, ra, imm, imm2, amount, shift, cond, sys, flags, minus, not, link⟩ : Ins)).1 = 4162873344 + (amount.tdiv 3 % 2 * 4096 + (rm % 32 * 65536 + (rn % 32 * 32 + (rd % 32 * 1 + 0)))) ∧ (encV (⟨20, 0, rd, rn, rm, ra, imm, imm2, amount, shift, cond, sys, flags, minus, not, link⟩ : Ins)).2 = 0 := by
  have hF : isForm fm19 (⟨20, 0, rd, rn, rm, ra, imm, imm2, amount, shift, cond, sys, flags, minus, not, link⟩ : Ins) = true := isForm_one rfl rfl
  have R := rightF hR
  have q_rd : holdsB ⟨0, 31, 1⟩ rd = true := R.rd
  have q_rn : holdsB ⟨0, 31, 1⟩ rn = true := R.rn
  have q_rm : holdsB ⟨0, 31, 1⟩ rm = true := R.rm
  have q_ra : holdsB ⟨0, 0, 0⟩ ra = true := R.ra
  have q_sub : holdsB ⟨0, 0, 0⟩ 0 = true := R.sub
  have q_imm : holdsB ⟨0, 0, 0⟩ imm = true := R.imm
  have q_imm2 : holdsB ⟨0, 0, 0⟩ imm2 = true := R.imm2
  have q_amount : holdsB ⟨0, 3, 3⟩ amount = true := R.amount
  have q_shift : holdsB ⟨0, 0, 0⟩ shift = true := R.shift
  have q_cond : holdsB ⟨0, 0, 0⟩ cond = true := R.cond
  have C := (cd_then (cd_num .amount 3 12 1 (by decide) (by decide) (by decide)) (cd_then (cd_num .rm 1 16 5 (by decide) (by decide) (by decide)) (cd_then (cd_num .rn 1 5 5 (by decide) (by decide) (by decide)) (cd_num .rd 1 0 5 (by decide) (by decide) (by decide)))))
  have e := word_sum fm19 C (by simp [forms, formsA, formsB]) [(12, 1), (16, 5), (5, 5), (0, 5)] (fun _ => rfl) (by kernel_rfl) (by kernel_rfl) hR hF ⟨(fit_num q_amount (by decide) (by decide) (by decide)), ⟨(fit_one q_rm (by decide) (by decide)), ⟨(fit_one q_rn (by decide) (by decide)), (fit_one q_rd (by decide) (by decide))⟩⟩⟩
  rw [e]
  refine ⟨?_, rfl⟩
  show ((4162873344 + sumC _ : Nat) : Int) = _
  rw [Int.natCast_add]
  simp only [List.cons_append, List.nil_append, twoC, adrC, sum_cons, sum_nil]
  congr 1
  refine congr (congrArg _ (by exact congrArg (· * _) (low_mod _ (by decide)))) ?_
  refine congr (congrArg _ (by exact congrArg (· * _) ((low_mod _ (by decide)).trans (by rw [Int.tdiv_one]; rfl)))) ?_
  refine congr (congrArg _ (by exact congrArg (· * _) ((low_mod _ (by decide)).trans (by rw [Int.tdiv_one]; rfl)))) ?_
  refine congr (congrArg _ (by exact congrArg (· * _) ((low_mod _ (by decide)).trans (by rw [Int.tdiv_one]; rfl)))) ?_
  rfl
set_option maxRecDepth 4000 in
theorem wd20 (sub rd rn rm ra imm imm2 amount shift cond sys : Int) (flags minus not link : Bool) (hR : rightB (⟨21, 0, rd, rn, rm, ra, imm, imm2, amount, shift, cond, sys, flags, minus, not, link⟩ : Ins) = true) : (encV (⟨21, 0, rd, rn, rm, ra, imm, imm2, amount, shift, cond, sys, flags, minus, not, link⟩ : Ins)).1 = 3370122240 + (rn % 32 * 32 + (rd % 32 * 1 + 0)) ∧ (encV (⟨21, 0, rd, rn, rm, ra, imm, imm2, amount, shift, cond, sys, flags, minus, not, link⟩ : Ins)).2 = 0 := by
  have hF : isForm fm20 (⟨21, 0, rd, rn, rm, ra, imm, imm2, amount, shift, cond, sys, flags, minus, not, link⟩ : Ins) = true := isForm_one rfl rfl
  have R := rightF hR
  have q_rd : holdsB ⟨0, 31, 1⟩ rd = true := R.rd
  have q_rn : holdsB ⟨0, 31, 1⟩ rn = true := R.rn
  have q_rm : holdsB ⟨0, 0, 0⟩ rm = true := R.rm
  have q_ra : holdsB ⟨0, 0, 0⟩ ra = true := R.ra
  have q_sub : holdsB ⟨0, 1, 1⟩ 0 = true := R.sub
  have q_imm : holdsB ⟨0, 0, 0⟩ imm = true := R.imm
  have q_imm2 : holdsB ⟨0, 0, 0⟩ imm2 = true := R.imm2
  have q_amount : holdsB ⟨0, 0, 0⟩ amount = true := R.amount
  have q_shift : holdsB ⟨0, 0, 0⟩ shift = true := R.shift
  have q_cond : holdsB ⟨0, 0, 0⟩ cond = true := R.cond
  have C := (cd_then (cd_num .rn 1 5 5 (by decide) (by decide) (by decide)) (cd_num .rd 1 0 5 (by decide) (by decide) (by decide)))
  have e := word_sum fm20 C (by simp [forms, formsA, formsB]) [(5, 5), (0, 5)] (fun _ => rfl) (by kernel_rfl) (by kernel_rfl) hR hF ⟨(fit_one q_rn (by decide) (by decide)), (fit_one q_rd (by decide) (by decide))⟩
  rw [e]
  refine ⟨?_, rfl⟩
  show ((3370122240 + sumC _ : Nat) : Int) = _
  rw [Int.natCast_add]
  simp only [List.cons_append, List.nil_append, twoC, adrC, sum_cons, sum_nil]
  congr 1
  refine congr (congrArg _ (by exact congrArg (· * _) ((low_mod _ (by decide)).trans (by rw [Int.tdiv_one]; rfl)))) ?_
  refine congr (congrArg _ (by exact congrArg (· * _) ((low_mod _ (by decide)).trans (by rw [Int.tdiv_one]; rfl)))) ?_
  rfl
set_option maxRecDepth 4000 in
theorem wd21 (sub rd rn rm ra imm imm2 amount shift cond sys : Int) (flags minus not link : Bool) (hR : rightB (⟨21, 1, rd, rn, rm, ra, imm, imm2, amount, shift, cond, sys, flags, minus, not, link⟩ : Ins) = true) : (encV (⟨21, 1, rd, rn, rm, ra, imm, imm2, amount, shift, cond, sys, flags, minus, not, link⟩ : Ins)).1 = 4173316096 + (rn % 32 * 32 + (rd % 32 * 1 + 0)) ∧ (encV (⟨21, 1, rd, rn, rm, ra, imm, imm2, amount, shift, cond, sys, flags, minus, not, link⟩ : Ins)).2 = 0 := by
  have hF : isForm fm21 (⟨21, 1, rd, rn, rm, ra, imm, imm2, amount, shift, cond, sys, flags, minus, not, link⟩ : Ins) = true := isForm_one rfl rfl
  have R := rightF hR
  have q_rd : holdsB ⟨0, 31, 1⟩ rd = true := R.rd
  have q_rn : holdsB ⟨0, 31, 1⟩ rn = true := R.rn
  have q_rm : holdsB ⟨0, 0, 0⟩ rm = true := R.rm
  have q_ra : holdsB ⟨0, 0, 0⟩ ra = true := R.ra
  have q_sub : holdsB ⟨0, 1, 1⟩ 1 = true := R.sub
  have q_imm : holdsB ⟨0, 0, 0⟩ imm = true := R.imm
  have q_imm2 : holdsB ⟨0, 0, 0⟩ imm2 = true := R.imm2
  have q_amount : holdsB ⟨0, 0, 0⟩ amount = true := R.amount
  have q_shift : holdsB ⟨0, 0, 0⟩ shift = true := R.shift
  have q_cond : holdsB ⟨0, 0, 0⟩ cond = true := R.cond
  have C := (cd_then (cd_num .rn 1 5 5 (by decide) (by decide) (by decide)) (cd_num .rd 1 0 5 (by decide) (by decide) (by decide)))
  have e := word_sum fm21 C (by simp [forms, formsA, formsB]) [(5, 5), (0, 5)] (fun _ => rfl) (by kernel_rfl) (by kernel_rfl) hR hF ⟨(fit_one q_rn (by decide) (by decide)), (fit_one q_rd (by decide) (by decide))⟩
  rw [e]
  refine ⟨?_, rfl⟩
  show ((4173316096 + sumC _ : Nat) : Int) = _
  rw [Int.natCast_add]
  simp only [List.cons_append, List.nil_append, twoC, adrC, sum_cons, sum_nil]
  congr 1
  refine congr (congrArg _ (by exact congrArg (· * _) ((low_mod _ (by decide)).trans (by rw [Int.tdiv_one]; rfl)))) ?_
  refine congr (congrArg _ (by exact congrArg (· * _) ((low_mod _ (by decide)).trans (by rw [Int.tdiv_one]; rfl)))) ?_
  rfl
set_option maxRecDepth 4000 in
theorem wd22 (sub rd rn rm ra imm imm2 amount shift cond sys : Int) (flags minus not link : Bool) (hR : rightB (⟨22, 0, rd, rn, rm, ra, imm, imm2, amount, shift, cond, sys, flags, minus, not, link⟩ : Ins) = true) : (encV (⟨22, 0, rd, rn, rm, ra, imm, imm2, amount, shift, cond, sys, flags, minus, not, link⟩ : Ins)).1 = 3365927936 + (rn % 32 * 32 + (rd % 32 * 1 + 0)) ∧ (encV (⟨22, 0, rd, rn, rm, ra, imm, imm2, amount, shift, cond, sys, flags, minus, not, link⟩ : Ins)).2 = 0 := by
  have hF : isForm fm22 (⟨22, 0, rd, rn, rm, ra, imm, imm2, amount, shift, cond, sys, flags, minus, not, link⟩ : Ins) = true := isForm_one rfl rfl
  have R := rightF hR
  have q_rd : holdsB ⟨0, 31, 1⟩ rd = true := R.rd
  have q_rn : holdsB ⟨0, 31, 1⟩ rn = true := R.rn
  have q_rm : holdsB ⟨0, 0, 0⟩ rm = true := R.rm
  have q_ra : holdsB ⟨0, 0, 0⟩ ra = true := R.ra
  have q_sub : holdsB ⟨0, 0, 0⟩ 0 = true := R.sub
  have q_imm : holdsB ⟨0, 0, 0⟩ imm = true := R.imm
  have q_imm2 : holdsB ⟨0, 0, 0⟩ imm2 = true := R.imm2
  have q_amount : holdsB ⟨0, 0, 0⟩ amount = true := R.amount
  have q_shift : holdsB ⟨0, 0, 0⟩ shift = true := R.shift
  have q_cond : holdsB ⟨0, 0, 0⟩ cond = true := R.cond
  have C := (cd_then (cd_num .rn 1 5 5 (by decide) (by decide) (by decide)) (cd_num .rd 1 0 5 (by decide) (by decide) (by decide)))
  have e := word_sum fm22 C (by simp [forms, formsA, formsB]) [(5, 5), (0, 5)] (fun _ => rfl) (by kernel_rfl) (by kernel_rfl) hR hF ⟨(fit_one q_rn (by decide) (by decide)), (fit_one q_rd (by decide) (by decide))⟩
  rw [e]
  refine ⟨?_, rfl⟩
  show ((3365927936 + sumC _ : Nat) : Int) = _
  rw [Int.natCast_add]
  simp only [List.cons_append, List.nil_append, twoC, adrC, sum_cons, sum_nil]
  congr 1
  refine congr (congrArg _ (by exact congrArg (· * _) ((low_mod _ (by decide)).trans (by rw [Int.tdiv_one]; rfl)))) ?_
  refine congr (congrArg _ (by exact congrArg (· * _) ((low_mod _ (by decide)).trans (by rw [Int.tdiv_one]; rfl)))) ?_
  rfl
set_option maxRecDepth 4000 in
theorem wd23 (sub rd rn rm ra imm imm2 amount shift cond sys : Int) (flags minus not link : Bool) (hR : rightB (⟨23, sub, rd, rn, rm, ra, imm, imm2, amount, shift, cond, sys, flags, minus, not, link⟩ : Ins) = true) : (encV (⟨23, sub, rd, rn, rm, ra, imm, imm2, amount, shift, cond, sys, flags, minus, not, link⟩ : Ins)).1 = 3361700864 + (sub % 2 * 32768 + (rn % 32 * 32 + (rd % 32 * 1 + 0))) ∧ (encV (⟨23, sub, rd, rn, rm, ra, imm, imm2, amount, shift, cond, sys, flags, minus, not, link⟩ : Ins)).2 = 0 := by
  have hF : isForm fm23 (⟨23, sub, rd, rn, rm, ra, imm, imm2, amount, shift, cond, sys, flags, minus, not, link⟩ : Ins) = true := isForm_each rfl rfl
  have R := rightF hR
  have q_rd : holdsB ⟨0, 31, 1⟩ rd = true := R.rd
  have q_rn : holdsB ⟨0, 31, 1⟩ rn = true := R.rn
  have q_rm : holdsB ⟨0, 0, 0⟩ rm = true := R.rm
  have q_ra : holdsB ⟨0, 0, 0⟩ ra = true := R.ra
  have q_sub : holdsB ⟨0, 1, 1⟩ sub = true := R.sub
  have q_imm : holdsB ⟨0, 0, 0⟩ imm = true := R.imm
  have q_imm2 : holdsB ⟨0, 0, 0⟩ imm2 = true := R.imm2
  have q_amount : holdsB ⟨0, 0, 0⟩ amount = true := R.amount
  have q_shift : holdsB ⟨0, 0, 0⟩ shift = true := R.shift
  have q_cond : holdsB ⟨0, 0, 0⟩ cond = true := R.cond
  have C := (cd_then (cd_num .sub 1 15 1 (by decide) (by decide) (by decide)) (cd_then (cd_num .rn 1 5 5 (by decide) (by decide) (by decide)) (cd_num .rd 1 0 5 (by decide) (by decide) (by decide))))
  have e := word_sum fm23 C (by simp [forms, formsA, formsB]) [(15, 1), (5, 5), (0, 5)] (fun _ => rfl) (by kernel_rfl) (by kernel_rfl) hR hF ⟨(fit_one q_sub (by decide) (by decide)), ⟨(fit_one q_rn (by decide) (by decide)), (fit_one q_rd (by decide) (by decide))⟩⟩
  rw [e]
  refine ⟨?_, rfl⟩
  show ((3361700864 + sumC _ : Nat) : Int) = _
  rw [Int.natCast_add]
  simp only [List.cons_append, List.nil_append, twoC, adrC, sum_cons, sum_nil]
  congr 1
  refine congr (congrArg _ (by exact congrArg (· * _) ((low_mod _ (by decide)).trans (by rw [Int.tdiv_one]; rfl)))) ?_
  refine congr (congrArg _ (by exact congrArg (· * _) ((low_mod _ (by decide)).trans (by rw [Int.tdiv_one]; rfl)))) ?_
  refine congr (congrArg _ (by exact congrArg (· * _) ((low_mod _ (by decide)).trans (by rw [Int.tdiv_one]; rfl)))) ?_
  rfl
set_option maxRecDepth 4000 in
theorem wd24 (sub rd rn rm ra imm imm2 amount shift cond sys : Int) (flags minus not link : Bool) (hR : rightB (⟨24, sub, rd, rn, rm, ra, imm, imm2, amount, shift, cond, sys, flags, minus, not, link⟩ : Ins) = true) : (encV (⟨24, sub, rd, rn, rm, ra, imm, imm2, amount, shift, cond, sys, flags, minus, not, link⟩ : Ins)).1 = 3355474944 + (sub % 2 * 32768 + (rm % 32 * 65536 + (rn % 32 * 32 + (rd % 32 * 1 + 0)))) ∧ (encV (⟨24, sub, rd, rn, rm, ra, imm, imm2, amount, shift, cond, sys, flags, minus, not, link⟩ : Ins)).2 = 0 := by
  have hF : isForm fm24 (⟨24, sub, rd, rn, rm, ra, imm, imm2, amount, shift, cond, sys, flags, minus, not, link⟩ : Ins) = true := isForm_each rfl rfl
  have R := rightF hR
  have q_rd : holdsB ⟨0, 31, 1⟩ rd = true := R.rd
  have q_rn : holdsB ⟨0, 31, 1⟩ rn = true := R.rn
  have q_rm : holdsB ⟨0, 31, 1⟩ rm = true := R.rm
  have q_ra : holdsB ⟨0, 0, 0⟩ ra = true := R.ra
  have q_sub : holdsB ⟨0, 1, 1⟩ sub = true := R.sub
  have q_imm : holdsB ⟨0, 0, 0⟩ imm = true := R.imm
  have q_imm2 : holdsB ⟨0, 0, 0⟩ imm2 = true := R.imm2
  have q_amount : holdsB ⟨0, 0, 0⟩ amount = true := R.amount
  have q_shift : holdsB ⟨0, 0, 0⟩ shift = true := R.shift
  have q_cond : holdsB ⟨0, 0, 0⟩ cond = true := R.cond
  have C := (cd_then (cd_num .sub 1 15 1 (by decide) (by decide) (by decide)) (cd_then (cd_num .rm 1 16 5 (by decide) (by decide) (by decide)) (cd_then (cd_num .rn 1 5 5 (by decide) (by decide) (by decide)) (cd_num .rd 1 0 5 (by decide) (by decide) (by decide)))))
  have e := word_sum fm24 C (by simp [forms, formsA, formsB]) [(15, 1), (16, 5), (5, 5), (0, 5)] (fun _ => rfl) (by kernel_rfl) (by kernel_rfl) hR hF ⟨(fit_one q_sub (by decide) (by decide)), ⟨(fit_one q_rm (by decide) (by decide)), ⟨(fit_one q_rn (by decide) (by decide)), (fit_one q_rd (by decide) (by decide))⟩⟩⟩
  rw [e]
  refine ⟨?_, rfl⟩
  show ((3355474944 + sumC _ : Nat) : Int) = _
  rw [Int.natCast_add]
  simp only [List.cons_append, List.nil_append, twoC, adrC, sum_cons, sum_nil]
  congr 1
  refine congr (congrArg _ (by exact congrArg (· * _) ((low_mod _ (by decide)).trans (by rw [Int.tdiv_one]; rfl)))) ?_
  refine congr (congrArg _ (by exact congrArg (· * _) ((low_mod _ (by decide)).trans (by rw [Int.tdiv_one]; rfl)))) ?_
  refine congr (congrArg _ (by exact congrArg (· * _) ((low_mod _ (by decide)).trans (by rw [Int.tdiv_one]; rfl)))) ?_
  refine congr (congrArg _ (by exact congrArg (· * _) ((low_mod _ (by decide)).trans (by rw [Int.tdiv_one]; rfl)))) ?_
  rfl
set_option maxRecDepth 4000 in
theorem wd25 (sub rd rn rm ra imm imm2 amount shift cond sys : Int) (flags minus not link : Bool) (hR : rightB (⟨25, 0, rd, rn, rm, ra, imm, imm2, amount, shift, cond, sys, flags, minus, not, link⟩ : Ins) = true) : (encV (⟨25, 0, rd, rn, rm, ra, imm, imm2, amount, shift, cond, sys, flags, minus, not, link⟩ : Ins)).1 = 3573759839 + 0 ∧ (encV (⟨25, 0, rd, rn, rm, ra, imm, imm2, amount, shift, cond, sys, flags, minus, not, link⟩ : Ins)).2 = 0 := by
  have hF : isForm fm25 (⟨25, 0, rd, rn, rm, ra, imm, imm2, amount, shift, cond, sys, flags, minus, not, link⟩ : Ins) = true := isForm_one rfl rfl
  have R := rightF hR
  have q_rd : holdsB ⟨0, 0, 0⟩ rd = true := R.rd
  have q_rn : holdsB ⟨0, 0, 0⟩ rn = true := R.rn
  have q_rm : holdsB ⟨0, 0, 0⟩ rm = true := R.rm
  have q_ra : holdsB ⟨0, 0, 0⟩ ra = true := R.ra
  have q_sub : holdsB ⟨0, 0, 0⟩ 0 = true := R.sub
  have q_imm : holdsB ⟨0, 0, 0⟩ imm = true := R.imm
  have q_imm2 : holdsB ⟨0, 0, 0⟩ imm2 = true := R.imm2
  have q_amount : holdsB ⟨0, 0, 0⟩ amount = true := R.amount
  have q_shift : holdsB ⟨0, 0, 0⟩ shift = true := R.shift
  have q_cond : holdsB ⟨0, 0, 0⟩ cond = true := R.cond
  have C := cd_nothing
  have e := word_sum fm25 C (by simp [forms, formsA, formsB]) [] (fun _ => rfl) (by kernel_rfl) (by kernel_rfl) hR hF trivial
  rw [e]
  refine ⟨?_, rfl⟩
  show ((3573759839 + sumC _ : Nat) : Int) = _
  rw [Int.natCast_add]
  simp only [List.cons_append, List.nil_append, twoC, adrC, sum_cons, sum_nil]
  congr 1
set_option maxRecDepth 4000 in
theorem wd26 (sub rd rn rm ra imm imm2 amount shift cond sys : Int) (flags minus not link : Bool) (hR : rightB (⟨26, 0, rd, rn, rm, ra, imm, imm2, amount, shift, cond, sys, flags, minus, not, link⟩ : Ins) = true) : (encV (⟨26, 0, rd, rn, rm, ra, imm, imm2, amount, shift, cond, sys, flags, minus, not, link⟩ : Ins)).1 = 3573759167 + (imm % 4 * 256 + 0) ∧ (encV (⟨26, 0, rd, rn, rm, ra, imm, imm2, amount, shift, cond, sys, flags, minus, not, link⟩ : Ins)).2 = 0 := by
  have hF : isForm fm26 (⟨26, 0, rd, rn, rm, ra, imm, imm2, amount, shift, cond, sys, flags, minus, not, link⟩ : Ins) = true := isForm_one rfl rfl
  have R := rightF hR
  have q_rd : holdsB ⟨0, 0, 0⟩ rd = true := R.rd
  have q_rn : holdsB ⟨0, 0, 0⟩ rn = true := R.rn
  have q_rm : holdsB ⟨0, 0, 0⟩ rm = true := R.rm
  have q_ra : holdsB ⟨0, 0, 0⟩ ra = true := R.ra
  have q_sub : holdsB ⟨0, 1, 1⟩ 0 = true := R.sub
  have q_imm : holdsB ⟨1, 3, 1⟩ imm = true := R.imm
  have q_imm2 : holdsB ⟨0, 0, 0⟩ imm2 = true := R.imm2
  have q_amount : holdsB ⟨0, 0, 0⟩ amount = true := R.amount
  have q_shift : holdsB ⟨0, 0, 0⟩ shift = true := R.shift
  have q_cond : holdsB ⟨0, 0, 0⟩ cond = true := R.cond
  have C := (cd_num .imm 1 8 2 (by decide) (by decide) (by decide))
  have e := word_sum fm26 C (by simp [forms, formsA, formsB]) [(8, 2)] (fun _ => rfl) (by kernel_rfl) (by kernel_rfl) hR hF (fit_one q_imm (by decide) (by decide))
  rw [e]
  refine ⟨?_, rfl⟩
  show ((3573759167 + sumC _ : Nat) : Int) = _
  rw [Int.natCast_add]
  simp only [List.cons_append, List.nil_append, twoC, adrC, sum_cons, sum_nil]
  congr 1
  refine congr (congrArg _ (by exact congrArg (· * _) ((low_mod _ (by decide)).trans (by rw [Int.tdiv_one]; rfl)))) ?_
  rfl
set_option maxRecDepth 4000 in
theorem wd27 (sub rd rn rm ra imm imm2 amount shift cond sys : Int) (flags minus not link : Bool) (hR : rightB (⟨26, 1, rd, rn, rm, ra, imm, imm2, amount, shift, cond, sys, flags, minus, not, link⟩ : Ins) = true) : (encV (⟨26, 1, rd, rn, rm, ra, imm, imm2, amount, shift, cond, sys, flags, minus, not, link⟩ : Ins)).1 = 3573759135 + (imm % 4 * 256 + 0) ∧ (encV (⟨26, 1, rd, rn, rm, ra, imm, imm2, amount, shift, cond, sys, flags, minus, not, link⟩ : Ins)).2 = 0 := by
  have hF : isForm fm27 (⟨26, 1, rd, rn, rm, ra, imm, imm2, amount, shift, cond, sys, flags, minus, not, link⟩ : Ins) = true := isForm_one rfl rfl
  have R := rightF hR
  have q_rd : holdsB ⟨0, 0, 0⟩ rd = true := R.rd
  have q_rn : holdsB ⟨0, 0, 0⟩ rn = true := R.rn
  have q_rm : holdsB ⟨0, 0, 0⟩ rm = true := R.rm
  have q_ra : holdsB ⟨0, 0, 0⟩ ra = true := R.ra
  have q_sub : holdsB ⟨0, 1, 1⟩ 1 = true := R.sub
  have q_imm : holdsB ⟨1, 3, 1⟩ imm = true := R.imm
  have q_imm2 : holdsB ⟨0, 0, 0⟩ imm2 = true := R.imm2
  have q_amount : holdsB ⟨0, 0, 0⟩ amount = true := R.amount
  have q_shift : holdsB ⟨0, 0, 0⟩ shift = true := R.shift
  have q_cond : holdsB ⟨0, 0, 0⟩ cond = true := R.cond
  have C := (cd_num .imm 1 8 2 (by decide) (by decide) (by decide))
  have e := word_sum fm27 C (by simp [forms, formsA, formsB]) [(8, 2)] (fun _ => rfl) (by kernel_rfl) (by kernel_rfl) hR hF (fit_one q_imm (by decide) (by decide))
  rw [e]
  refine ⟨?_, rfl⟩
  show ((3573759135 + sumC _ : Nat) : Int) = _
  rw [Int.natCast_add]
  simp only [List.cons_append, List.nil_append, twoC, adrC, sum_cons, sum_nil]
  congr 1
  refine congr (congrArg _ (by exact congrArg (· * _) ((low_mod _ (by decide)).trans (by rw [Int.tdiv_one]; rfl)))) ?_
  rfl
set_option maxRecDepth 4000 in
theorem wd28 (sub rd rn rm ra imm imm2 amount shift cond sys : Int) (flags minus not link : Bool) (hR : rightB (⟨27, 0, rd, rn, rm, ra, imm, imm2, amount, shift, cond, sys, flags, minus, not, link⟩ : Ins) = true) : (encV (⟨27, 0, rd, rn, rm, ra, imm, imm2, amount, shift, cond, sys, flags, minus, not, link⟩ : Ins)).1 = 3573759967 + 0 ∧ (encV (⟨27, 0, rd, rn, rm, ra, imm, imm2, amount, shift, cond, sys, flags, minus, not, link⟩ : Ins)).2 = 0 := by
  have hF : isForm fm28 (⟨27, 0, rd, rn, rm, ra, imm, imm2, amount, shift, cond, sys, flags, minus, not, link⟩ : Ins) = true := isForm_one rfl rfl
  have R := rightF hR
  have q_rd : holdsB ⟨0, 0, 0⟩ rd = true := R.rd
  have q_rn : holdsB ⟨0, 0, 0⟩ rn = true := R.rn
  have q_rm : holdsB ⟨0, 0, 0⟩ rm = true := R.rm
  have q_ra : holdsB ⟨0, 0, 0⟩ ra = true := R.ra
  have q_sub : holdsB ⟨0, 0, 0⟩ 0 = true := R.sub
  have q_imm : holdsB ⟨0, 0, 0⟩ imm = true := R.imm
  have q_imm2 : holdsB ⟨0, 0, 0⟩ imm2 = true := R.imm2
  have q_amount : holdsB ⟨0, 0, 0⟩ amount = true := R.amount
  have q_shift : holdsB ⟨0, 0, 0⟩ shift = true := R.shift
  have q_cond : holdsB ⟨0, 0, 0⟩ cond = true := R.cond
  have C := cd_nothing
  have e := word_sum fm28 C (by simp [forms, formsA, formsB]) [] (fun _ => rfl) (by kernel_rfl) (by kernel_rfl) hR hF trivial
  rw [e]
  refine ⟨?_, rfl⟩
  show ((3573759967 + sumC _ : Nat) : Int) = _
  rw [Int.natCast_add]
  simp only [List.cons_append, List.nil_append, twoC, adrC, sum_cons, sum_nil]
  congr 1
set_option maxRecDepth 4000 in
theorem wd29 (sub rd rn rm ra imm imm2 amount shift cond sys : Int) (flags minus not link : Bool) (hR : rightB (⟨28, 0, rd, rn, rm, ra, imm, imm2, amount, shift, cond, sys, flags, minus, not, link⟩ : Ins) = true) : (encV (⟨28, 0, rd, rn, rm, ra, imm, imm2, amount, shift, cond, sys, flags, minus, not, link⟩ : Ins)).1 = 3574297888 + (rd % 32 * 1 + 0) ∧ (encV (⟨28, 0, rd, rn, rm, ra, imm, imm2, amount, shift, cond, sys, flags, minus, not, link⟩ : Ins)).2 = 0 := by
  have hF : isForm fm29 (⟨28, 0, rd, rn, rm, ra, imm, imm2, amount, shift, cond, sys, flags, minus, not, link⟩ : Ins) = true := isForm_one rfl rfl
  have R := rightF hR
  have q_rd : holdsB ⟨0, 31, 1⟩ rd = true := R.rd
  have q_rn : holdsB ⟨0, 0, 0⟩ rn = true := R.rn
  have q_rm : holdsB ⟨0, 0, 0⟩ rm = true := R.rm
  have q_ra : holdsB ⟨0, 0, 0⟩ ra = true := R.ra
  have q_sub : holdsB ⟨0, 0, 0⟩ 0 = true := R.sub
  have q_imm : holdsB ⟨0, 0, 0⟩ imm = true := R.imm
  have q_imm2 : holdsB ⟨0, 0, 0⟩ imm2 = true := R.imm2
  have q_amount : holdsB ⟨0, 0, 0⟩ amount = true := R.amount
  have q_shift : holdsB ⟨0, 0, 0⟩ shift = true := R.shift
  have q_cond : holdsB ⟨0, 0, 0⟩ cond = true := R.cond
  have C := (cd_num .rd 1 0 5 (by decide) (by decide) (by decide))
  have e := word_sum fm29 C (by simp [forms, formsA, formsB]) [(0, 5)] (fun _ => rfl) (by kernel_rfl) (by kernel_rfl) hR hF (fit_one q_rd (by decide) (by decide))
  rw [e]
  refine ⟨?_, rfl⟩
  show ((3574297888 + sumC _ : Nat) : Int) = _
  rw [Int.natCast_add]
  simp only [List.cons_append, List.nil_append, twoC, adrC, sum_cons, sum_nil]
  congr 1
  refine congr (congrArg _ (by exact congrArg (· * _) ((low_mod _ (by decide)).trans (by rw [Int.tdiv_one]; rfl)))) ?_
  rfl
set_option maxRecDepth 4000 in
theorem wd30 (sub rd rn rm ra imm imm2 amount shift cond sys : Int) (flags minus not link : Bool) (hR : rightB (⟨30, 0, rd, rn, rm, ra, imm, imm2, amount, shift, cond, sys, flags, minus, not, link⟩ : Ins) = true) : (encV (⟨30, 0, rd, rn, rm, ra, imm, imm2, amount, shift, cond, sys, flags, minus, not, link⟩ : Ins)).1 = 3574299424 + (rd % 32 * 1 + 0) ∧ (encV (⟨30, 0, rd, rn, rm, ra, imm, imm2, amount, shift, cond, sys, flags, minus, not, link⟩ : Ins)).2 = 0 := by
  have hF : isForm fm30 (⟨30, 0, rd, rn, rm, ra, imm, imm2, amount, shift, cond, sys, flags, minus, not, link⟩ : Ins) = true := isForm_one rfl rfl
  have R := rightF hR
  have q_rd : holdsB ⟨0, 31, 1⟩ rd = true := R.rd
  have q_rn : holdsB ⟨0, 0, 0⟩ rn = true := R.rn
  have q_rm : holdsB ⟨0, 0, 0⟩ rm = true := R.rm
  have q_ra : holdsB ⟨0, 0, 0⟩ ra = true := R.ra
  have q_sub : holdsB ⟨0, 0, 0⟩ 0 = true := R.sub
  have q_imm : holdsB ⟨0, 0, 0⟩ imm = true := R.imm
  have q_imm2 : holdsB ⟨0, 0, 0⟩ imm2 = true := R.imm2
  have q_amount : holdsB ⟨0, 0, 0⟩ amount = true := R.amount
  have q_shift : holdsB ⟨0, 0, 0⟩ shift = true := R.shift
  have q_cond : holdsB ⟨0, 0, 0⟩ cond = true := R.cond
  have C := (cd_num .rd 1 0 5 (by decide) (by decide) (by decide))
  have e := word_sum fm30 C (by simp [forms, formsA, formsB]) [(0, 5)] (fun _ => rfl) (by kernel_rfl) (by kernel_rfl) hR hF (fit_one q_rd (by decide) (by decide))
  rw [e]
  refine ⟨?_, rfl⟩
  show ((3574299424 + sumC _ : Nat) : Int) = _
  rw [Int.natCast_add]
  simp only [List.cons_append, List.nil_append, twoC, adrC, sum_cons, sum_nil]
  congr 1
  refine congr (congrArg _ (by exact congrArg (· * _) ((low_mod _ (by decide)).trans (by rw [Int.tdiv_one]; rfl)))) ?_
  rfl
set_option maxRecDepth 4000 in
theorem wd31 (sub rd rn rm ra imm imm2 amount shift cond sys : Int) (flags minus not link : Bool) (hR : rightB (⟨29, 0, rd, rn, rm, ra, imm, imm2, amount, shift, cond, sys, flags, minus, not, link⟩ : Ins) = true) : (encV (⟨29, 0, rd, rn, rm, ra, imm, imm2, amount, shift, cond, sys, flags, minus, not, link⟩ : Ins)).1 = 3574101279 + 0 ∧ (encV (⟨29, 0, rd, rn, rm, ra, imm, imm2, amount, shift, cond, sys, flags, minus, not, link⟩ : Ins)).2 = 0 := by
  have hF : isForm fm31 (⟨29, 0, rd, rn, rm, ra, imm, imm2, amount, shift, cond, sys, flags, minus, not, link⟩ : Ins) = true := isForm_one rfl rfl
  have R := rightF hR
  have q_rd : holdsB ⟨0, 0, 0⟩ rd = true := R.rd
  have q_rn : holdsB ⟨0, 0, 0⟩ rn = true := R.rn
  have q_rm : holdsB ⟨0, 0, 0⟩ rm = true := R.rm
  have q_ra : holdsB ⟨0, 0, 0⟩ ra = true := R.ra
  have q_sub : holdsB ⟨0, 0, 0⟩ 0 = true := R.sub
  have q_imm : holdsB ⟨0, 0, 0⟩ imm = true := R.imm
  have q_imm2 : holdsB ⟨0, 0, 0⟩ imm2 = true := R.imm2
  have q_amount : holdsB ⟨0, 0, 0⟩ amount = true := R.amount
  have q_shift : holdsB ⟨0, 0, 0⟩ shift = true := R.shift
  have q_cond : holdsB ⟨0, 0, 0⟩ cond = true := R.cond
  have C := cd_nothing
  have e := word_sum fm31 C (by simp [forms, formsA, formsB]) [] (fun _ => rfl) (by kernel_rfl) (by kernel_rfl) hR hF trivial
  rw [e]
  refine ⟨?_, rfl⟩
  show ((3574101279 + sumC _ : Nat) : Int) = _
  rw [Int.natCast_add]
  simp only [List.cons_append, List.nil_append, twoC, adrC, sum_cons, sum_nil]
  congr 1
set_option maxRecDepth 4000 in
theorem wd32 (sub rd rn rm ra imm imm2 amount shift cond sys : Int) (flags minus not link : Bool) (hR : rightB (⟨31, 0, rd, rn, rm, ra, imm, imm2, amount, shift, cond, sys, flags, minus, not, link⟩ : Ins) = true) : (encV (⟨31, 0, rd, rn, rm, ra, imm, imm2, amount, shift, cond, sys, flags, minus, not, link⟩ : Ins)).1 = 3576692736 + (sys % 32768 * 32 + (rd % 32 * 1 + 0)) ∧ (encV (⟨31, 0, rd, rn, rm, ra, imm, imm2, amount, shift, cond, sys, flags, minus, not, link⟩ : Ins)).2 = 0 := by
  have hF : isForm fm32 (⟨31, 0, rd, rn, rm, ra, imm, imm2, amount, shift, cond, sys, flags, minus, not, link⟩ : Ins) = true := isForm_one rfl rfl
  have R := rightF hR
  have q_rd : holdsB ⟨0, 31, 1⟩ rd = true := R.rd
  have q_rn : holdsB ⟨0, 0, 0⟩ rn = true := R.rn
  have q_rm : holdsB ⟨0, 0, 0⟩ rm = true := R.rm
  have q_ra : holdsB ⟨0, 0, 0⟩ ra = true := R.ra
  have q_sub : holdsB ⟨0, 0, 0⟩ 0 = true := R.sub
  have q_imm : holdsB ⟨0, 0, 0⟩ imm = true := R.imm
  have q_imm2 : holdsB ⟨0, 0, 0⟩ imm2 = true := R.imm2
  have q_amount : holdsB ⟨0, 0, 0⟩ amount = true := R.amount
  have q_shift : holdsB ⟨0, 0, 0⟩ shift = true := R.shift
  have q_cond : holdsB ⟨0, 0, 0⟩ cond = true := R.cond
  have C := (cd_then (cd_num .sys 1 5 15 (by decide) (by decide) (by decide)) (cd_num .rd 1 0 5 (by decide) (by decide) (by decide)))
  have e := word_sum fm32 C (by simp [forms, formsA, formsB]) [(5, 15), (0, 5)] (fun _ => rfl) (by kernel_rfl) (by kernel_rfl) hR hF ⟨(sys_of R.sys), (fit_one q_rd (by decide) (by decide))⟩
  rw [e]
  refine ⟨?_, rfl⟩
  show ((3576692736 + sumC _ : Nat) : Int) = _
  rw [Int.natCast_add]
  simp only [List.cons_append, List.nil_append, twoC, adrC, sum_cons, sum_nil]
  congr 1
  refine congr (congrArg _ (by exact congrArg (· * _) ((low_mod _ (by decide)).trans (by rw [Int.tdiv_one]; rfl)))) ?_
  refine congr (congrArg _ (by exact congrArg (· * _) ((low_mod _ (by decide)).trans (by rw [Int.tdiv_one]; rfl)))) ?_
  rfl
set_option maxRecDepth 4000 in
theorem wd33 (sub rd rn rm ra imm imm2 amount shift cond sys : Int) (flags minus not link : Bool) (hR : rightB (⟨32, 0, rd, rn, rm, ra, imm, imm2, amount, shift, cond, sys, flags, minus, not, link⟩ : Ins) = true) : (encV (⟨32, 0, rd, rn, rm, ra, imm, imm2, amount, shift, cond, sys, flags, minus, not, link⟩ : Ins)).1 = 3574595584 + (sys % 32768 * 32 + (rd % 32 * 1 + 0)) ∧ (encV (⟨32, 0, rd, rn, rm, ra, imm, imm2, amount, shift, cond, sys, flags, minus, not, link⟩ : Ins)).2 = 0 := by
  have hF : isForm fm33 (⟨32, 0, rd, rn, rm, ra, imm, imm2, amount, shift, cond, sys, flags, minus, not, link⟩ : Ins) = true := isForm_one rfl rfl
  have R := rightF hR
  have q_rd : holdsB ⟨0, 31, 1⟩ rd = true := R.rd
  have q_rn : holdsB ⟨0, 0, 0⟩ rn = true := R.rn
  have q_rm : holdsB ⟨0, 0, 0⟩ rm = true := R.rm
  have q_ra : holdsB ⟨0, 0, 0⟩ ra = true := R.ra
  have q_sub : holdsB ⟨0, 0, 0⟩ 0 = true := R.sub
  have q_imm : holdsB ⟨0, 0, 0⟩ imm = true := R.imm
  have q_imm2 : holdsB ⟨0, 0, 0⟩ imm2 = true := R.imm2
  have q_amount : holdsB ⟨0, 0, 0⟩ amount = true := R.amount
  have q_shift : holdsB ⟨0, 0, 0⟩ shift = true := R.shift
  have q_cond : holdsB ⟨0, 0, 0⟩ cond = true := R.cond
  have C := (cd_then (cd_num .sys 1 5 15 (by decide) (by decide) (by decide)) (cd_num .rd 1 0 5 (by decide) (by decide) (by decide)))
  have e := word_sum fm33 C (by simp [forms, formsA, formsB]) [(5, 15), (0, 5)] (fun _ => rfl) (by kernel_rfl) (by kernel_rfl) hR hF ⟨(sys_of R.sys), (fit_one q_rd (by decide) (by decide))⟩
  rw [e]
  refine ⟨?_, rfl⟩
  show ((3574595584 + sumC _ : Nat) : Int) = _
  rw [Int.natCast_add]
  simp only [List.cons_append, List.nil_append, twoC, adrC, sum_cons, sum_nil]
  congr 1
  refine congr (congrArg _ (by exact congrArg (· * _) ((low_mod _ (by decide)).trans (by rw [Int.tdiv_one]; rfl)))) ?_
  refine congr (congrArg _ (by exact congrArg (· * _) ((low_mod _ (by decide)).trans (by rw [Int.tdiv_one]; rfl)))) ?_
  rfl
set_option maxRecDepth 4000 in
theorem wd34 (sub rd rn rm ra imm imm2 amount shift cond sys : Int) (flags minus not link : Bool) (hR : rightB (⟨33, 0, rd, rn, rm, ra, imm, imm2, amount, shift, cond, sys, flags, minus, not, link⟩ : Ins) = true) : (encV (⟨33, 0, rd, rn, rm, ra, imm, imm2, amount, shift, cond, sys, flags, minus, not, link⟩ : Ins)).1 = 3573760223 + (imm % 16 * 256 + 0) ∧ (encV (⟨33, 0, rd, rn, rm, ra, imm, imm2, amount, shift, cond, sys, flags, minus, not, link⟩ : Ins)).2 = 0 := by
  have hF : isForm fm34 (⟨33, 0, rd, rn, rm, ra, imm, imm2, amount, shift, cond, sys, flags, minus, not, link⟩ : Ins) = true := isForm_one rfl rfl
  have R := rightF hR
  have q_rd : holdsB ⟨0, 0, 0⟩ rd = true := R.rd
  have q_rn : holdsB ⟨0, 0, 0⟩ rn = true := R.rn
  have q_rm : holdsB ⟨0, 0, 0⟩ rm = true := R.rm
  have q_ra : holdsB ⟨0, 0, 0⟩ ra = true := R.ra
  have q_sub : holdsB ⟨0, 1, 1⟩ 0 = true := R.sub
  have q_imm : holdsB ⟨0, 15, 1⟩ imm = true := R.imm
  have q_imm2 : holdsB ⟨0, 0, 0⟩ imm2 = true := R.imm2
  have q_amount : holdsB ⟨0, 0, 0⟩ amount = true := R.amount
  have q_shift : holdsB ⟨0, 0, 0⟩ shift = true := R.shift
  have q_cond : holdsB ⟨0, 0, 0⟩ cond = true := R.cond
  have C := (cd_num .imm 1 8 4 (by decide) (by decide) (by decide))
  have e := word_sum fm34 C (by simp [forms, formsA, formsB]) [(8, 4)] (fun _ => rfl) (by kernel_rfl) (by kernel_rfl) hR hF (fit_one q_imm (by decide) (by decide))
  rw [e]
  refine ⟨?_, rfl⟩
  show ((3573760223 + sumC _ : Nat) : Int) = _
  rw [Int.natCast_add]
  simp only [List.cons_append, List.nil_append, twoC, adrC, sum_cons, sum_nil]
  congr 1
  refine congr (congrArg _ (by exact congrArg (· * _) ((low_mod _ (by decide)).trans (by rw [Int.tdiv_one]; rfl)))) ?_
  rfl
set_option maxRecDepth 4000 in
theorem wd35 (sub rd rn rm ra imm imm2 amount shift cond sys : Int) (flags minus not link : Bool) (hR : rightB (⟨33, 1, rd, rn, rm, ra, imm, imm2, amount, shift, cond, sys, flags, minus, not, link⟩ : Ins) = true) : (encV (⟨33, 1, rd, rn, rm, ra, imm, imm2, amount, shift, cond, sys, flags, minus, not, link⟩ : Ins)).1 = 3573760255 + (imm % 16 * 256 + 0) ∧ (encV (⟨33, 1, rd, rn, rm, ra, imm, imm2, amount, shift, cond, sys, flags, minus, not, link⟩ : Ins)).2 = 0 := by
  have hF : isForm fm35 (⟨33, 1, rd, rn, rm, ra, imm, imm2, amount, shift, cond, sys, flags, minus, not, link⟩ : Ins) = true := isForm_one rfl rfl
  have R := rightF hR
  have q_rd : holdsB ⟨0, 0, 0⟩ rd = true := R.rd
  have q_rn : holdsB ⟨0, 0, 0⟩ rn = true := R.rn
  have q_rm : holdsB ⟨0, 0, 0⟩ rm = true := R.rm
  have q_ra : holdsB ⟨0, 0, 0⟩ ra = true := R.ra
  have q_sub : holdsB ⟨0, 1, 1⟩ 1 = true := R.sub
  have q_imm : holdsB ⟨0, 15, 1⟩ imm = true := R.imm
  have q_imm2 : holdsB ⟨0, 0, 0⟩ imm2 = true := R.imm2
  have q_amount : holdsB ⟨0, 0, 0⟩ amount = true := R.amount
  have q_shift : holdsB ⟨0, 0, 0⟩ shift = true := R.shift
  have q_cond : holdsB ⟨0, 0, 0⟩ cond = true := R.cond
  have C := (cd_num .imm 1 8 4 (by decide) (by decide) (by decide))
  have e := word_sum fm35 C (by simp [forms, formsA, formsB]) [(8, 4)] (fun _ => rfl) (by kernel_rfl) (by kernel_rfl) hR hF (fit_one q_imm (by decide) (by decide))
  rw [e]
  refine ⟨?_, rfl⟩
  show ((3573760255 + sumC _ : Nat) : Int) = _
  rw [Int.natCast_add]
  simp only [List.cons_append, List.nil_append, twoC, adrC, sum_cons, sum_nil]
  congr 1
  refine congr (congrArg _ (by exact congrArg (· * _) ((low_mod _ (by decide)).trans (by rw [Int.tdiv_one]; rfl)))) ?_
  rfl
set_option maxRecDepth 4000 in
theorem wd36 (sub rd rn rm ra imm imm2 amount shift cond sys : Int) (flags minus not link : Bool) (hR : rightB (⟨34, 0, rd, rn, rm, ra, imm, imm2, amount, shift, cond, sys, flags, minus, not, link⟩ : Ins) = true) : (encV (⟨34, 0, rd, rn, rm, ra, imm, imm2, amount, shift, cond, sys, flags, minus, not, link⟩ : Ins)).1 = 3556769793 + (imm % 65536 * 32 + 0) ∧ (encV (⟨34, 0, rd, rn, rm, ra, imm, imm2, amount, shift, cond, sys, flags, minus, not, link⟩ : Ins)).2 = 0 := by
  have hF : isForm fm36 (⟨34, 0, rd, rn, rm, ra, imm, imm2, amount, shift, cond, sys, flags, minus, not, link⟩ : Ins) = true := isForm_one rfl rfl
  have R := rightF hR
  have q_rd : holdsB ⟨0, 0, 0⟩ rd = true := R.rd
  have q_rn : holdsB ⟨0, 0, 0⟩ rn = true := R.rn
  have q_rm : holdsB ⟨0, 0, 0⟩ rm = true := R.rm
  have q_ra : holdsB ⟨0, 0, 0⟩ ra = true := R.ra
  have q_sub : holdsB ⟨0, 0, 0⟩ 0 = true := R.sub
  have q_imm : holdsB ⟨0, 65535, 1⟩ imm = true := R.imm
  have q_imm2 : holdsB ⟨0, 0, 0⟩ imm2 = true := R.imm2
  have q_amount : holdsB ⟨0, 0, 0⟩ amount = true := R.amount
  have q_shift : holdsB ⟨0, 0, 0⟩ shift = true := R.shift
  have q_cond : holdsB ⟨0, 0, 0⟩ cond = true := R.cond
  have C := (cd_num .imm 1 5 16 (by decide) (by decide) (by decide))
  have e := word_sum fm36 C (by simp [forms, formsA, formsB]) [(5, 16)] (fun _ => rfl) (by kernel_rfl) (by kernel_rfl) hR hF (fit_one q_imm (by decide) (by decide))
  rw [e]
  refine ⟨?_, rfl⟩
  show ((3556769793 + sumC _ : Nat) : Int) = _
  rw [Int.natCast_add]
  simp only [List.cons_append, List.nil_append, twoC, adrC, sum_cons, sum_nil]
  congr 1
  refine congr (congrArg _ (by exact congrArg (· * _) ((low_mod _ (by decide)).trans (by rw [Int.tdiv_one]; rfl)))) ?_
  rfl
set_option maxRecDepth 4000 in
theorem wd37 (sub rd rn rm ra imm imm2 amount shift cond sys : Int) (flags minus not link : Bool) (hR : rightB (⟨35, 0, rd, rn, rm, ra, imm, imm2, amount, shift, cond, sys, flags, minus, not, link⟩ : Ins) = true) : (encV (⟨35, 0, rd, rn, rm, ra, imm, imm2, amount, shift, cond, sys, flags, minus, not, link⟩ : Ins)).1 = 3558866944 + (imm % 65536 * 32 + 0) ∧ (encV (⟨35, 0, rd, rn, rm, ra, imm, imm2, amount, shift, cond, sys, flags, minus, not, link⟩ : Ins)).2 = 0 := by
  have hF : isForm fm37 (⟨35, 0, rd, rn, rm, ra, imm, imm2, amount, shift, cond, sys, flags, minus, not, link⟩ : Ins) = true := isForm_one rfl rfl
  have R := rightF hR
  have q_rd : holdsB ⟨0, 0, 0⟩ rd = true := R.rd
  have q_rn : holdsB ⟨0, 0, 0⟩ rn = true := R.rn
  have q_rm : holdsB ⟨0, 0, 0⟩ rm = true := R.rm
  have q_ra : holdsB ⟨0, 0, 0⟩ ra = true := R.ra
  have q_sub : holdsB ⟨0, 0, 0⟩ 0 = true := R.sub
  have q_imm : holdsB ⟨0, 65535, 1⟩ imm = true := R.imm
  have q_imm2 : holdsB ⟨0, 0, 0⟩ imm2 = true := R.imm2
  have q_amount : holdsB ⟨0, 0, 0⟩ amount = true := R.amount
  have q_shift : holdsB ⟨0, 0, 0⟩ shift = true := R.shift
  have q_cond : holdsB ⟨0, 0, 0⟩ cond = true := R.cond
  have C := (cd_num .imm 1 5 16 (by decide) (by decide) (by decide))
  have e := word_sum fm37 C (by simp [forms, formsA, formsB]) [(5, 16)] (fun _ => rfl) (by kernel_rfl) (by kernel_rfl) hR hF (fit_one q_imm (by decide) (by decide))
  rw [e]
  refine ⟨?_, rfl⟩
  show ((3558866944 + sumC _ : Nat) : Int) = _
  rw [Int.natCast_add]
  simp only [List.cons_append, List.nil_append, twoC, adrC, sum_cons, sum_nil]
  congr 1
  refine congr (congrArg _ (by exact congrArg (· * _) ((low_mod _ (by decide)).trans (by rw [Int.tdiv_one]; rfl)))) ?_
  rfl
set_option maxRecDepth 4000 in
theorem wd38 (sub rd rn rm ra imm imm2 amount shift cond sys : Int) (flags minus not link : Bool) (hR : rightB (⟨36, 0, rd, rn, rm, ra, imm, imm2, amount, shift, cond, sys, flags, minus, not, link⟩ : Ins) = true) : (encV (⟨36, 0, rd, rn, rm, ra, imm, imm2, amount, shift, cond, sys, flags, minus, not, link⟩ : Ins)).1 = 3600745440 + 0 ∧ (encV (⟨36, 0, rd, rn, rm, ra, imm, imm2, amount, shift, cond, sys, flags, minus, not, link⟩ : Ins)).2 = 0 := by
  have hF : isForm fm38 (⟨36, 0, rd, rn, rm, ra, imm, imm2, amount, shift, cond, sys, flags, minus, not, link⟩ : Ins) = true := isForm_one rfl rfl
  have R := rightF hR
  have q_rd : holdsB ⟨0, 0, 0⟩ rd = true := R.rd
  have q_rn : holdsB ⟨0, 0, 0⟩ rn = true := R.rn
  have q_rm : holdsB ⟨0, 0, 0⟩ rm = true := R.rm
  have q_ra : holdsB ⟨0, 0, 0⟩ ra = true := R.ra
  have q_sub : holdsB ⟨0, 0, 0⟩ 0 = true := R.sub
  have q_imm : holdsB ⟨0, 0, 0⟩ imm = true := R.imm
  have q_imm2 : holdsB ⟨0, 0, 0⟩ imm2 = true := R.imm2
  have q_amount : holdsB ⟨0, 0, 0⟩ amount = true := R.amount
  have q_shift : holdsB ⟨0, 0, 0⟩ shift = true := R.shift
  have q_cond : holdsB ⟨0, 0, 0⟩ cond = true := R.cond
  have C := cd_nothing
  have e := word_sum fm38 C (by simp [forms, formsA, formsB]) [] (fun _ => rfl) (by kernel_rfl) (by kernel_rfl) hR hF trivial
  rw [e]
  refine ⟨?_, rfl⟩
  show ((3600745440 + sumC _ : Nat) : Int) = _
  rw [Int.natCast_add]
  simp only [List.cons_append, List.nil_append, twoC, adrC, sum_cons, sum_nil]
  congr 1
set_option maxRecDepth 4000 in
theorem wd39 (sub rd rn rm ra imm imm2 amount shift cond sys : Int) (flags minus not link : Bool) (hR : rightB (⟨37, 0, rd, rn, rm, ra, imm, imm2, amount, shift, cond, sys, flags, minus, not, link⟩ : Ins) = true) : (encV (⟨37, 0, rd, rn, rm, ra, imm, imm2, amount, shift, cond, sys, flags, minus, not, link⟩ : Ins)).1 = 3573751839 + (imm % 8 * 32 + 0) ∧ (encV (⟨37, 0, rd, rn, rm, ra, imm, imm2, amount, shift, cond, sys, flags, minus, not, link⟩ : Ins)).2 = 0 := by
  have hF : isForm fm39 (⟨37, 0, rd, rn, rm, ra, imm, imm2, amount, shift, cond, sys, flags, minus, not, link⟩ : Ins) = true := isForm_one rfl rfl
  have R := rightF hR
  have q_rd : holdsB ⟨0, 0, 0⟩ rd = true := R.rd
  have q_rn : holdsB ⟨0, 0, 0⟩ rn = true := R.rn
  have q_rm : holdsB ⟨0, 0, 0⟩ rm = true := R.rm
  have q_ra : holdsB ⟨0, 0, 0⟩ ra = true := R.ra
  have q_sub : holdsB ⟨0, 0, 0⟩ 0 = true := R.sub
  have q_imm : holdsB ⟨0, 5, 1⟩ imm = true := R.imm
  have q_imm2 : holdsB ⟨0, 0, 0⟩ imm2 = true := R.imm2
  have q_amount : holdsB ⟨0, 0, 0⟩ amount = true := R.amount
  have q_shift : holdsB ⟨0, 0, 0⟩ shift = true := R.shift
  have q_cond : holdsB ⟨0, 0, 0⟩ cond = true := R.cond
  have C := (cd_num .imm 1 5 3 (by decide) (by decide) (by decide))
  have e := word_sum fm39 C (by simp [forms, formsA, formsB]) [(5, 3)] (fun _ => rfl) (by kernel_rfl) (by kernel_rfl) hR hF (fit_one q_imm (by decide) (by decide))
  rw [e]
  refine ⟨?_, rfl⟩
  show ((3573751839 + sumC _ : Nat) : Int) = _
  rw [Int.natCast_add]
  simp only [List.cons_append, List.nil_append, twoC, adrC, sum_cons, sum_nil]
  congr 1
  refine congr (congrArg _ (by exact congrArg (· * _) ((low_mod _ (by decide)).trans (by rw [Int.tdiv_one]; rfl)))) ?_
  rfl
end Go.Proofs.Ytcmilajlngnibaa
