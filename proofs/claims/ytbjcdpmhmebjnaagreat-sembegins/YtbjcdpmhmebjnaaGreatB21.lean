/- The word of an instruction, form by form, as a sum of numbers: plain. -/
import Derived.Test.YtbjcdpmhmebjnaaGreatB20
namespace Go.Proofs.YtbjcdpmhmebjnaaGreat
open Go.RowKit
set_option linter.unusedVariables false
set_option linter.unusedSimpArgs false

theorem lowI_mod (n : Int) (m : Nat) (hm : m ≤ 32) : lowI n m = n % ((2 ^ m : Nat) : Int) := low_mod n hm
theorem when_low (b : Bool) (x : Int) : ((lowN (boolI b) 1 : Nat) : Int) * x = whenI b x := by
  cases b
  · show (0 : Int) * x = 0; omega
  · show (1 : Int) * x = x; omega
theorem sum_cons (c : Cr) (l : List Cr) : ((sumC (c :: l) : Nat) : Int) = ((c.v : Nat) : Int) * ((2 ^ c.a : Nat) : Int) + ((sumC l : Nat) : Int) := by
  show ((c.v * 2 ^ c.a + sumC l : Nat) : Int) = _
  rw [Int.natCast_add, Int.natCast_mul]
theorem sum_nil : ((sumC [] : Nat) : Int) = 0 := rfl
set_option maxRecDepth 4000 in
theorem wd0 (S D N M A I J U F cond Y : Int) (G X O L : Bool) (hR : rightB (⟨1, 0, D, N, M, A, I, J, U, F, cond, Y, G, X, O, L⟩ : Ins) = true) : (encV (⟨1, 0, D, N, M, A, I, J, U, F, cond, Y, G, X, O, L⟩ : Ins)).1 = 2432696320 + (whenI X 1073741824 + (whenI G 536870912 + (U.tdiv 12 % 2 * 4194304 + (I % 4096 * 1024 + (N % 32 * 32 + (D % 32 * 1 + 0)))))) ∧ (encV (⟨1, 0, D, N, M, A, I, J, U, F, cond, Y, G, X, O, L⟩ : Ins)).2 = 0 := by
  have hF : isForm fm0 (⟨1, 0, D, N, M, A, I, J, U, F, cond, Y, G, X, O, L⟩ : Ins) = true := isForm_one rfl rfl
  have R := rightF hR
  have q_rd : holdsB ⟨0, 31, 1⟩ D = true := R.rd
  have q_rn : holdsB ⟨0, 31, 1⟩ N = true := R.rn
  have q_imm : holdsB ⟨0, 4095, 1⟩ I = true := R.imm
  have q_amount : holdsB ⟨0, 12, 12⟩ U = true := R.amount
  have C := (cd_then (cd_then (cd_sgn .minus 30 (by decide)) (cd_sgn .flags 29 (by decide))) (cd_then (cd_num .amount 12 22 1 (by decide) (by decide) (by decide)) (cd_then (cd_num .imm 1 10 12 (by decide) (by decide) (by decide)) (cd_then (cd_num .rn 1 5 5 (by decide) (by decide) (by decide)) (cd_num .rd 1 0 5 (by decide) (by decide) (by decide))))))
  have e := word_sum fm0 C (by simp [forms, formsA, formsB]) [(30, 1), (29, 1), (22, 1), (10, 12), (5, 5), (0, 5)] (fun _ => rfl) (by kernel_rfl) (by kernel_rfl) hR hF ⟨⟨trivial, trivial⟩, ⟨(fit_num q_amount (by decide) (by decide) (by decide)), ⟨(fit_one q_imm (by decide) (by decide)), ⟨(fit_one q_rn (by decide) (by decide)), (fit_one q_rd (by decide) (by decide))⟩⟩⟩⟩
  rw [e]
  refine ⟨?_, rfl⟩
  show ((2432696320 + sumC _ : Nat) : Int) = _
  rw [Int.natCast_add]
  simp only [List.cons_append, List.nil_append, twoC, adrC, sum_cons, sum_nil]
  congr 1
  refine congr (congrArg _ (by exact when_low X _)) ?_
  refine congr (congrArg _ (by exact when_low G _)) ?_
  refine congr (congrArg _ (by exact congrArg (· * _) (low_mod _ (by decide)))) ?_
  iterate 3 (refine congr (congrArg _ (by exact congrArg (· * _) ((low_mod _ (by decide)).trans (by rw [Int.tdiv_one]; rfl)))) ?_)
  rfl
set_option maxRecDepth 4000 in
theorem wd1 (S D N M A I J U F cond Y : Int) (G X O L : Bool) (hR : rightB (⟨2, 0, D, N, M, A, I, J, U, F, cond, Y, G, X, O, L⟩ : Ins) = true) : (encV (⟨2, 0, D, N, M, A, I, J, U, F, cond, Y, G, X, O, L⟩ : Ins)).1 = 2332033024 + (whenI X 1073741824 + (whenI G 536870912 + (F % 4 * 4194304 + (U % 64 * 1024 + (M % 32 * 65536 + (N % 32 * 32 + (D % 32 * 1 + 0))))))) ∧ (encV (⟨2, 0, D, N, M, A, I, J, U, F, cond, Y, G, X, O, L⟩ : Ins)).2 = 0 := by
  have hF : isForm fm1 (⟨2, 0, D, N, M, A, I, J, U, F, cond, Y, G, X, O, L⟩ : Ins) = true := isForm_one rfl rfl
  have R := rightF hR
  have q_rd : holdsB ⟨0, 31, 1⟩ D = true := R.rd
  have q_rn : holdsB ⟨0, 31, 1⟩ N = true := R.rn
  have q_rm : holdsB ⟨0, 31, 1⟩ M = true := R.rm
  have q_amount : holdsB ⟨0, 63, 1⟩ U = true := R.amount
  have q_shift : holdsB ⟨0, 2, 1⟩ F = true := R.shift
  have C := (cd_then (cd_then (cd_sgn .minus 30 (by decide)) (cd_sgn .flags 29 (by decide))) (cd_then (cd_num .shift 1 22 2 (by decide) (by decide) (by decide)) (cd_then (cd_num .amount 1 10 6 (by decide) (by decide) (by decide)) (cd_then (cd_num .rm 1 16 5 (by decide) (by decide) (by decide)) (cd_then (cd_num .rn 1 5 5 (by decide) (by decide) (by decide)) (cd_num .rd 1 0 5 (by decide) (by decide) (by decide)))))))
  have e := word_sum fm1 C (by simp [forms, formsA, formsB]) [(30, 1), (29, 1), (22, 2), (10, 6), (16, 5), (5, 5), (0, 5)] (fun _ => rfl) (by kernel_rfl) (by kernel_rfl) hR hF ⟨⟨trivial, trivial⟩, ⟨(fit_one q_shift (by decide) (by decide)), ⟨(fit_one q_amount (by decide) (by decide)), ⟨(fit_one q_rm (by decide) (by decide)), ⟨(fit_one q_rn (by decide) (by decide)), (fit_one q_rd (by decide) (by decide))⟩⟩⟩⟩⟩
  rw [e]
  refine ⟨?_, rfl⟩
  show ((2332033024 + sumC _ : Nat) : Int) = _
  rw [Int.natCast_add]
  simp only [List.cons_append, List.nil_append, twoC, adrC, sum_cons, sum_nil]
  congr 1
  refine congr (congrArg _ (by exact when_low X _)) ?_
  refine congr (congrArg _ (by exact when_low G _)) ?_
  iterate 5 (refine congr (congrArg _ (by exact congrArg (· * _) ((low_mod _ (by decide)).trans (by rw [Int.tdiv_one]; rfl)))) ?_)
  rfl
set_option maxRecDepth 4000 in
theorem wd2 (S D N M A I J U F cond Y : Int) (G X O L : Bool) (hR : rightB (⟨3, S, D, N, M, A, I, J, U, F, cond, Y, G, X, O, L⟩ : Ins) = true) : (encV (⟨3, S, D, N, M, A, I, J, U, F, cond, Y, G, X, O, L⟩ : Ins)).1 = 2315255808 + ((bif G then 3 else S) % 4 * 536870912 + (whenI O 2097152 + (F % 4 * 4194304 + (U % 64 * 1024 + (M % 32 * 65536 + (N % 32 * 32 + (D % 32 * 1 + 0))))))) ∧ (encV (⟨3, S, D, N, M, A, I, J, U, F, cond, Y, G, X, O, L⟩ : Ins)).2 = 0 := by
  have hF : isForm fm2 (⟨3, S, D, N, M, A, I, J, U, F, cond, Y, G, X, O, L⟩ : Ins) = true := isForm_each rfl rfl
  have R := rightF hR
  have q_rd : holdsB ⟨0, 31, 1⟩ D = true := R.rd
  have q_rn : holdsB ⟨0, 31, 1⟩ N = true := R.rn
  have q_rm : holdsB ⟨0, 31, 1⟩ M = true := R.rm
  have q_sub : holdsB ⟨0, 2, 1⟩ S = true := R.sub
  have q_amount : holdsB ⟨0, 63, 1⟩ U = true := R.amount
  have q_shift : holdsB ⟨0, 3, 1⟩ F = true := R.shift
  have C := (cd_then cd_logic (cd_then (cd_sgn .not 21 (by decide)) (cd_then (cd_num .shift 1 22 2 (by decide) (by decide) (by decide)) (cd_then (cd_num .amount 1 10 6 (by decide) (by decide) (by decide)) (cd_then (cd_num .rm 1 16 5 (by decide) (by decide) (by decide)) (cd_then (cd_num .rn 1 5 5 (by decide) (by decide) (by decide)) (cd_num .rd 1 0 5 (by decide) (by decide) (by decide))))))))
  have e := word_sum fm2 C (by simp [forms, formsA, formsB]) [(29, 2), (21, 1), (22, 2), (10, 6), (16, 5), (5, 5), (0, 5)] (fun _ => rfl) (by kernel_rfl) (by kernel_rfl) hR hF ⟨⟨(holds_of q_sub).1, (holds_of q_sub).2.1, logic_of R.flags⟩, ⟨trivial, ⟨(fit_one q_shift (by decide) (by decide)), ⟨(fit_one q_amount (by decide) (by decide)), ⟨(fit_one q_rm (by decide) (by decide)), ⟨(fit_one q_rn (by decide) (by decide)), (fit_one q_rd (by decide) (by decide))⟩⟩⟩⟩⟩⟩
  rw [e]
  refine ⟨?_, rfl⟩
  show ((2315255808 + sumC _ : Nat) : Int) = _
  rw [Int.natCast_add]
  simp only [List.cons_append, List.nil_append, twoC, adrC, sum_cons, sum_nil]
  congr 1
  refine congr (congrArg _ (by exact congrArg (· * _) (low_mod _ (by decide)))) ?_
  refine congr (congrArg _ (by exact when_low O _)) ?_
  iterate 5 (refine congr (congrArg _ (by exact congrArg (· * _) ((low_mod _ (by decide)).trans (by rw [Int.tdiv_one]; rfl)))) ?_)
  rfl
set_option maxRecDepth 4000 in
theorem wd3 (S D N M A I J U F cond Y : Int) (G X O L : Bool) (hR : rightB (⟨4, S, D, N, M, A, I, J, U, F, cond, Y, G, X, O, L⟩ : Ins) = true) : (encV (⟨4, S, D, N, M, A, I, J, U, F, cond, Y, G, X, O, L⟩ : Ins)).1 = 2449473536 + ((bif G then 3 else S) % 4 * 536870912 + (U % 2 * 4194304 + (I % 64 * 65536 + (J % 64 * 1024 + (N % 32 * 32 + (D % 32 * 1 + 0)))))) ∧ (encV (⟨4, S, D, N, M, A, I, J, U, F, cond, Y, G, X, O, L⟩ : Ins)).2 = 0 := by
  have hF : isForm fm3 (⟨4, S, D, N, M, A, I, J, U, F, cond, Y, G, X, O, L⟩ : Ins) = true := isForm_each rfl rfl
  have R := rightF hR
  have q_rd : holdsB ⟨0, 31, 1⟩ D = true := R.rd
  have q_rn : holdsB ⟨0, 31, 1⟩ N = true := R.rn
  have q_sub : holdsB ⟨0, 2, 1⟩ S = true := R.sub
  have q_imm : holdsB ⟨0, 63, 1⟩ I = true := R.imm
  have q_imm2 : holdsB ⟨0, 63, 1⟩ J = true := R.imm2
  have q_amount : holdsB ⟨0, 1, 1⟩ U = true := R.amount
  have C := (cd_then cd_logic (cd_then (cd_num .amount 1 22 1 (by decide) (by decide) (by decide)) (cd_then (cd_num .imm 1 16 6 (by decide) (by decide) (by decide)) (cd_then (cd_num .imm2 1 10 6 (by decide) (by decide) (by decide)) (cd_then (cd_num .rn 1 5 5 (by decide) (by decide) (by decide)) (cd_num .rd 1 0 5 (by decide) (by decide) (by decide)))))))
  have e := word_sum fm3 C (by simp [forms, formsA, formsB]) [(29, 2), (22, 1), (16, 6), (10, 6), (5, 5), (0, 5)] (fun _ => rfl) (by kernel_rfl) (by kernel_rfl) hR hF ⟨⟨(holds_of q_sub).1, (holds_of q_sub).2.1, logic_of R.flags⟩, ⟨(fit_one q_amount (by decide) (by decide)), ⟨(fit_one q_imm (by decide) (by decide)), ⟨(fit_one q_imm2 (by decide) (by decide)), ⟨(fit_one q_rn (by decide) (by decide)), (fit_one q_rd (by decide) (by decide))⟩⟩⟩⟩⟩
  rw [e]
  refine ⟨?_, rfl⟩
  show ((2449473536 + sumC _ : Nat) : Int) = _
  rw [Int.natCast_add]
  simp only [List.cons_append, List.nil_append, twoC, adrC, sum_cons, sum_nil]
  congr 1
  refine congr (congrArg _ (by exact congrArg (· * _) (low_mod _ (by decide)))) ?_
  iterate 5 (refine congr (congrArg _ (by exact congrArg (· * _) ((low_mod _ (by decide)).trans (by rw [Int.tdiv_one]; rfl)))) ?_)
  rfl
set_option maxRecDepth 4000 in
theorem wd4 (S D N M A I J U F cond Y : Int) (G X O L : Bool) (hR : rightB (⟨5, S, D, N, M, A, I, J, U, F, cond, Y, G, X, O, L⟩ : Ins) = true) : (encV (⟨5, S, D, N, M, A, I, J, U, F, cond, Y, G, X, O, L⟩ : Ins)).1 = 2457862144 + (S % 4 * 536870912 + (U.tdiv 16 % 4 * 2097152 + (I % 65536 * 32 + (D % 32 * 1 + 0)))) ∧ (encV (⟨5, S, D, N, M, A, I, J, U, F, cond, Y, G, X, O, L⟩ : Ins)).2 = 0 := by
  have hF : isForm fm4 (⟨5, S, D, N, M, A, I, J, U, F, cond, Y, G, X, O, L⟩ : Ins) = true := isForm_each rfl rfl
  have R := rightF hR
  have q_rd : holdsB ⟨0, 31, 1⟩ D = true := R.rd
  have q_sub : holdsB ⟨0, 3, 1⟩ S = true := R.sub
  have q_imm : holdsB ⟨0, 65535, 1⟩ I = true := R.imm
  have q_amount : holdsB ⟨0, 48, 16⟩ U = true := R.amount
  have C := (cd_then (cd_num .sub 1 29 2 (by decide) (by decide) (by decide)) (cd_then (cd_num .amount 16 21 2 (by decide) (by decide) (by decide)) (cd_then (cd_num .imm 1 5 16 (by decide) (by decide) (by decide)) (cd_num .rd 1 0 5 (by decide) (by decide) (by decide)))))
  have e := word_sum fm4 C (by simp [forms, formsA, formsB]) [(29, 2), (21, 2), (5, 16), (0, 5)] (fun _ => rfl) (by kernel_rfl) (by kernel_rfl) hR hF ⟨(fit_one q_sub (by decide) (by decide)), ⟨(fit_num q_amount (by decide) (by decide) (by decide)), ⟨(fit_one q_imm (by decide) (by decide)), (fit_one q_rd (by decide) (by decide))⟩⟩⟩
  rw [e]
  refine ⟨?_, rfl⟩
  show ((2457862144 + sumC _ : Nat) : Int) = _
  rw [Int.natCast_add]
  simp only [List.cons_append, List.nil_append, twoC, adrC, sum_cons, sum_nil]
  congr 1
  refine congr (congrArg _ (by exact congrArg (· * _) ((low_mod _ (by decide)).trans (by rw [Int.tdiv_one]; rfl)))) ?_
  refine congr (congrArg _ (by exact congrArg (· * _) (low_mod _ (by decide)))) ?_
  iterate 2 (refine congr (congrArg _ (by exact congrArg (· * _) ((low_mod _ (by decide)).trans (by rw [Int.tdiv_one]; rfl)))) ?_)
  rfl
set_option maxRecDepth 4000 in
theorem wd5 (S D N M A I J U F cond Y : Int) (G X O L : Bool) (hR : rightB (⟨6, S, D, N, M, A, I, J, U, F, cond, Y, G, X, O, L⟩ : Ins) = true) : (encV (⟨6, S, D, N, M, A, I, J, U, F, cond, Y, G, X, O, L⟩ : Ins)).1 = 2470445056 + (S % 4 * 536870912 + (I % 64 * 65536 + (J % 64 * 1024 + (N % 32 * 32 + (D % 32 * 1 + 0))))) ∧ (encV (⟨6, S, D, N, M, A, I, J, U, F, cond, Y, G, X, O, L⟩ : Ins)).2 = 0 := by
  have hF : isForm fm5 (⟨6, S, D, N, M, A, I, J, U, F, cond, Y, G, X, O, L⟩ : Ins) = true := isForm_each rfl rfl
  have R := rightF hR
  have q_rd : holdsB ⟨0, 31, 1⟩ D = true := R.rd
  have q_rn : holdsB ⟨0, 31, 1⟩ N = true := R.rn
  have q_sub : holdsB ⟨0, 2, 2⟩ S = true := R.sub
  have q_imm : holdsB ⟨0, 63, 1⟩ I = true := R.imm
  have q_imm2 : holdsB ⟨0, 63, 1⟩ J = true := R.imm2
  have C := (cd_then (cd_num .sub 1 29 2 (by decide) (by decide) (by decide)) (cd_then (cd_num .imm 1 16 6 (by decide) (by decide) (by decide)) (cd_then (cd_num .imm2 1 10 6 (by decide) (by decide) (by decide)) (cd_then (cd_num .rn 1 5 5 (by decide) (by decide) (by decide)) (cd_num .rd 1 0 5 (by decide) (by decide) (by decide))))))
  have e := word_sum fm5 C (by simp [forms, formsA, formsB]) [(29, 2), (16, 6), (10, 6), (5, 5), (0, 5)] (fun _ => rfl) (by kernel_rfl) (by kernel_rfl) hR hF ⟨(fit_one q_sub (by decide) (by decide)), ⟨(fit_one q_imm (by decide) (by decide)), ⟨(fit_one q_imm2 (by decide) (by decide)), ⟨(fit_one q_rn (by decide) (by decide)), (fit_one q_rd (by decide) (by decide))⟩⟩⟩⟩
  rw [e]
  refine ⟨?_, rfl⟩
  show ((2470445056 + sumC _ : Nat) : Int) = _
  rw [Int.natCast_add]
  simp only [List.cons_append, List.nil_append, twoC, adrC, sum_cons, sum_nil]
  congr 1
  iterate 5 (refine congr (congrArg _ (by exact congrArg (· * _) ((low_mod _ (by decide)).trans (by rw [Int.tdiv_one]; rfl)))) ?_)
  rfl
set_option maxRecDepth 4000 in
theorem wd6 (S D N M A I J U F cond Y : Int) (G X O L : Bool) (hR : rightB (⟨7, S, D, N, M, A, I, J, U, F, cond, Y, G, X, O, L⟩ : Ins) = true) : (encV (⟨7, S, D, N, M, A, I, J, U, F, cond, Y, G, X, O, L⟩ : Ins)).1 = 2596282368 + (S % 4 * 1024 + (M % 32 * 65536 + (N % 32 * 32 + (D % 32 * 1 + 0)))) ∧ (encV (⟨7, S, D, N, M, A, I, J, U, F, cond, Y, G, X, O, L⟩ : Ins)).2 = 0 := by
  have hF : isForm fm6 (⟨7, S, D, N, M, A, I, J, U, F, cond, Y, G, X, O, L⟩ : Ins) = true := isForm_each rfl rfl
  have R := rightF hR
  have q_rd : holdsB ⟨0, 31, 1⟩ D = true := R.rd
  have q_rn : holdsB ⟨0, 31, 1⟩ N = true := R.rn
  have q_rm : holdsB ⟨0, 31, 1⟩ M = true := R.rm
  have q_sub : holdsB ⟨0, 3, 1⟩ S = true := R.sub
  have C := (cd_then (cd_num .sub 1 10 2 (by decide) (by decide) (by decide)) (cd_then (cd_num .rm 1 16 5 (by decide) (by decide) (by decide)) (cd_then (cd_num .rn 1 5 5 (by decide) (by decide) (by decide)) (cd_num .rd 1 0 5 (by decide) (by decide) (by decide)))))
  have e := word_sum fm6 C (by simp [forms, formsA, formsB]) [(10, 2), (16, 5), (5, 5), (0, 5)] (fun _ => rfl) (by kernel_rfl) (by kernel_rfl) hR hF ⟨(fit_one q_sub (by decide) (by decide)), ⟨(fit_one q_rm (by decide) (by decide)), ⟨(fit_one q_rn (by decide) (by decide)), (fit_one q_rd (by decide) (by decide))⟩⟩⟩
  rw [e]
  refine ⟨?_, rfl⟩
  show ((2596282368 + sumC _ : Nat) : Int) = _
  rw [Int.natCast_add]
  simp only [List.cons_append, List.nil_append, twoC, adrC, sum_cons, sum_nil]
  congr 1
  iterate 4 (refine congr (congrArg _ (by exact congrArg (· * _) ((low_mod _ (by decide)).trans (by rw [Int.tdiv_one]; rfl)))) ?_)
  rfl
set_option maxRecDepth 4000 in
theorem wd7 (S D N M A I J U F cond Y : Int) (G X O L : Bool) (hR : rightB (⟨8, 0, D, N, M, A, I, J, U, F, cond, Y, G, X, O, L⟩ : Ins) = true) : (encV (⟨8, 0, D, N, M, A, I, J, U, F, cond, Y, G, X, O, L⟩ : Ins)).1 = 2600468480 + (whenI X 32768 + (A % 32 * 1024 + (M % 32 * 65536 + (N % 32 * 32 + (D % 32 * 1 + 0))))) ∧ (encV (⟨8, 0, D, N, M, A, I, J, U, F, cond, Y, G, X, O, L⟩ : Ins)).2 = 0 := by
  have hF : isForm fm7 (⟨8, 0, D, N, M, A, I, J, U, F, cond, Y, G, X, O, L⟩ : Ins) = true := isForm_one rfl rfl
  have R := rightF hR
  have q_rd : holdsB ⟨0, 31, 1⟩ D = true := R.rd
  have q_rn : holdsB ⟨0, 31, 1⟩ N = true := R.rn
  have q_rm : holdsB ⟨0, 31, 1⟩ M = true := R.rm
  have q_ra : holdsB ⟨0, 31, 1⟩ A = true := R.ra
  have C := (cd_then (cd_sgn .minus 15 (by decide)) (cd_then (cd_num .ra 1 10 5 (by decide) (by decide) (by decide)) (cd_then (cd_num .rm 1 16 5 (by decide) (by decide) (by decide)) (cd_then (cd_num .rn 1 5 5 (by decide) (by decide) (by decide)) (cd_num .rd 1 0 5 (by decide) (by decide) (by decide))))))
  have e := word_sum fm7 C (by simp [forms, formsA, formsB]) [(15, 1), (10, 5), (16, 5), (5, 5), (0, 5)] (fun _ => rfl) (by kernel_rfl) (by kernel_rfl) hR hF ⟨trivial, ⟨(fit_one q_ra (by decide) (by decide)), ⟨(fit_one q_rm (by decide) (by decide)), ⟨(fit_one q_rn (by decide) (by decide)), (fit_one q_rd (by decide) (by decide))⟩⟩⟩⟩
  rw [e]
  refine ⟨?_, rfl⟩
  show ((2600468480 + sumC _ : Nat) : Int) = _
  rw [Int.natCast_add]
  simp only [List.cons_append, List.nil_append, twoC, adrC, sum_cons, sum_nil]
  congr 1
  refine congr (congrArg _ (by exact when_low X _)) ?_
  iterate 4 (refine congr (congrArg _ (by exact congrArg (· * _) ((low_mod _ (by decide)).trans (by rw [Int.tdiv_one]; rfl)))) ?_)
  rfl
set_option maxRecDepth 4000 in
theorem wd8 (S D N M A I J U F cond Y : Int) (G X O L : Bool) (hR : rightB (⟨9, S, D, N, M, A, I, J, U, F, cond, Y, G, X, O, L⟩ : Ins) = true) : (encV (⟨9, S, D, N, M, A, I, J, U, F, cond, Y, G, X, O, L⟩ : Ins)).1 = 2596276224 + (S % 2 * 1024 + (M % 32 * 65536 + (N % 32 * 32 + (D % 32 * 1 + 0)))) ∧ (encV (⟨9, S, D, N, M, A, I, J, U, F, cond, Y, G, X, O, L⟩ : Ins)).2 = 0 := by
  have hF : isForm fm8 (⟨9, S, D, N, M, A, I, J, U, F, cond, Y, G, X, O, L⟩ : Ins) = true := isForm_each rfl rfl
  have R := rightF hR
  have q_rd : holdsB ⟨0, 31, 1⟩ D = true := R.rd
  have q_rn : holdsB ⟨0, 31, 1⟩ N = true := R.rn
  have q_rm : holdsB ⟨0, 31, 1⟩ M = true := R.rm
  have q_sub : holdsB ⟨0, 1, 1⟩ S = true := R.sub
  have C := (cd_then (cd_num .sub 1 10 1 (by decide) (by decide) (by decide)) (cd_then (cd_num .rm 1 16 5 (by decide) (by decide) (by decide)) (cd_then (cd_num .rn 1 5 5 (by decide) (by decide) (by decide)) (cd_num .rd 1 0 5 (by decide) (by decide) (by decide)))))
  have e := word_sum fm8 C (by simp [forms, formsA, formsB]) [(10, 1), (16, 5), (5, 5), (0, 5)] (fun _ => rfl) (by kernel_rfl) (by kernel_rfl) hR hF ⟨(fit_one q_sub (by decide) (by decide)), ⟨(fit_one q_rm (by decide) (by decide)), ⟨(fit_one q_rn (by decide) (by decide)), (fit_one q_rd (by decide) (by decide))⟩⟩⟩
  rw [e]
  refine ⟨?_, rfl⟩
  show ((2596276224 + sumC _ : Nat) : Int) = _
  rw [Int.natCast_add]
  simp only [List.cons_append, List.nil_append, twoC, adrC, sum_cons, sum_nil]
  congr 1
  iterate 4 (refine congr (congrArg _ (by exact congrArg (· * _) ((low_mod _ (by decide)).trans (by rw [Int.tdiv_one]; rfl)))) ?_)
  rfl
set_option maxRecDepth 4000 in
theorem wd9 (S D N M A I J U F cond Y : Int) (G X O L : Bool) (hR : rightB (⟨10, S, D, N, M, A, I, J, U, F, cond, Y, G, X, O, L⟩ : Ins) = true) : (encV (⟨10, S, D, N, M, A, I, J, U, F, cond, Y, G, X, O, L⟩ : Ins)).1 = 2592079872 + (S.tdiv 2 % 2 * 1073741824 + (S.tmod 2 % 2 * 1024 + (cond % 16 * 4096 + (M % 32 * 65536 + (N % 32 * 32 + (D % 32 * 1 + 0)))))) ∧ (encV (⟨10, S, D, N, M, A, I, J, U, F, cond, Y, G, X, O, L⟩ : Ins)).2 = 0 := by
  have hF : isForm fm9 (⟨10, S, D, N, M, A, I, J, U, F, cond, Y, G, X, O, L⟩ : Ins) = true := isForm_each rfl rfl
  have R := rightF hR
  have q_rd : holdsB ⟨0, 31, 1⟩ D = true := R.rd
  have q_rn : holdsB ⟨0, 31, 1⟩ N = true := R.rn
  have q_rm : holdsB ⟨0, 31, 1⟩ M = true := R.rm
  have q_sub : holdsB ⟨0, 3, 1⟩ S = true := R.sub
  have q_cond : holdsB ⟨0, 15, 1⟩ cond = true := R.cond
  have C := (cd_then cd_sel0 (cd_then (cd_num .cond 1 12 4 (by decide) (by decide) (by decide)) (cd_then (cd_num .rm 1 16 5 (by decide) (by decide) (by decide)) (cd_then (cd_num .rn 1 5 5 (by decide) (by decide) (by decide)) (cd_num .rd 1 0 5 (by decide) (by decide) (by decide))))))
  have e := word_sum fm9 C (by simp [forms, formsA, formsB]) [(30, 1), (10, 1), (12, 4), (16, 5), (5, 5), (0, 5)] (fun _ => rfl) (by kernel_rfl) (by kernel_rfl) hR hF ⟨(fit_two q_sub (by decide) (by decide)), ⟨(fit_one q_cond (by decide) (by decide)), ⟨(fit_one q_rm (by decide) (by decide)), ⟨(fit_one q_rn (by decide) (by decide)), (fit_one q_rd (by decide) (by decide))⟩⟩⟩⟩
  rw [e]
  refine ⟨?_, rfl⟩
  show ((2592079872 + sumC _ : Nat) : Int) = _
  rw [Int.natCast_add]
  simp only [List.cons_append, List.nil_append, twoC, adrC, sum_cons, sum_nil]
  congr 1
  iterate 2 (refine congr (congrArg _ (by exact congrArg (· * _) (low_mod _ (by decide)))) ?_)
  iterate 4 (refine congr (congrArg _ (by exact congrArg (· * _) ((low_mod _ (by decide)).trans (by rw [Int.tdiv_one]; rfl)))) ?_)
  rfl
set_option maxRecDepth 4000 in
theorem wd10 (S D N M A I J U F cond Y : Int) (G X O L : Bool) (hR : rightB (⟨11, S, D, N, M, A, I, J, U, F, cond, Y, G, X, O, L⟩ : Ins) = true) : (encV (⟨11, S, D, N, M, A, I, J, U, F, cond, Y, G, X, O, L⟩ : Ins)).1 = 268435456 + (S % 2 * 2147483648 + ((bif S == 1 then I.tdiv 4096 else I) % 4 * 536870912 + ((bif S == 1 then I.tdiv 4096 else I) / 4 % 524288 * 32 + (D % 32 * 1 + 0)))) ∧ (encV (⟨11, S, D, N, M, A, I, J, U, F, cond, Y, G, X, O, L⟩ : Ins)).2 = 0 := by
  have hF : isForm fm10 (⟨11, S, D, N, M, A, I, J, U, F, cond, Y, G, X, O, L⟩ : Ins) = true := isForm_each rfl rfl
  have R := rightF hR
  have q_rd : holdsB ⟨0, 31, 1⟩ D = true := R.rd
  have q_sub : holdsB ⟨0, 1, 1⟩ S = true := R.sub
  have C := (cd_then (cd_num .sub 1 31 1 (by decide) (by decide) (by decide)) (cd_then cd_adr0 (cd_num .rd 1 0 5 (by decide) (by decide) (by decide))))
  have e := word_sum fm10 C (by simp [forms, formsA, formsB]) [(31, 1), (29, 2), (5, 19), (0, 5)] (fun _ => rfl) (by kernel_rfl) (by kernel_rfl) hR hF ⟨(fit_one q_sub (by decide) (by decide)), ⟨fit_adr (i := (⟨11, S, D, N, M, A, I, J, U, F, cond, Y, G, X, O, L⟩ : Ins)) rfl q_sub R.imm, (fit_one q_rd (by decide) (by decide))⟩⟩
  rw [e]
  refine ⟨?_, rfl⟩
  show ((268435456 + sumC _ : Nat) : Int) = _
  rw [Int.natCast_add]
  simp only [List.cons_append, List.nil_append, twoC, adrC, sum_cons, sum_nil]
  congr 1
  refine congr (congrArg _ (by exact congrArg (· * _) ((low_mod _ (by decide)).trans (by rw [Int.tdiv_one]; rfl)))) ?_
  iterate 2 (refine congr (congrArg _ (by exact congrArg (· * _) (low_mod _ (by decide)))) ?_)
  refine congr (congrArg _ (by exact congrArg (· * _) ((low_mod _ (by decide)).trans (by rw [Int.tdiv_one]; rfl)))) ?_
  rfl
set_option maxRecDepth 4000 in
theorem wd11 (S D N M A I J U F cond Y : Int) (G X O L : Bool) (hR : rightB (⟨12, 0, D, N, M, A, I, J, U, F, cond, Y, G, X, O, L⟩ : Ins) = true) : (encV (⟨12, 0, D, N, M, A, I, J, U, F, cond, Y, G, X, O, L⟩ : Ins)).1 = 335544320 + (whenI L 2147483648 + (I.tdiv 4 % 67108864 * 1 + 0)) ∧ (encV (⟨12, 0, D, N, M, A, I, J, U, F, cond, Y, G, X, O, L⟩ : Ins)).2 = 0 := by
  have hF : isForm fm11 (⟨12, 0, D, N, M, A, I, J, U, F, cond, Y, G, X, O, L⟩ : Ins) = true := isForm_one rfl rfl
  have R := rightF hR
  have q_imm : holdsB ⟨(-134217728), 134217724, 4⟩ I = true := R.imm
  have C := (cd_then (cd_sgn .link 31 (by decide)) (cd_words 0 26 (by decide) (by decide)))
  have e := word_sum fm11 C (by simp [forms, formsA, formsB]) [(31, 1), (0, 26)] (fun _ => rfl) (by kernel_rfl) (by kernel_rfl) hR hF ⟨trivial, (fit_words q_imm (by decide) (by decide))⟩
  rw [e]
  refine ⟨?_, rfl⟩
  show ((335544320 + sumC _ : Nat) : Int) = _
  rw [Int.natCast_add]
  simp only [List.cons_append, List.nil_append, twoC, adrC, sum_cons, sum_nil]
  congr 1
  refine congr (congrArg _ (by exact when_low L _)) ?_
  refine congr (congrArg _ (by exact congrArg (· * _) (low_mod _ (by decide)))) ?_
  rfl
set_option maxRecDepth 4000 in
theorem wd12 (S D N M A I J U F cond Y : Int) (G X O L : Bool) (hR : rightB (⟨13, 0, D, N, M, A, I, J, U, F, cond, Y, G, X, O, L⟩ : Ins) = true) : (encV (⟨13, 0, D, N, M, A, I, J, U, F, cond, Y, G, X, O, L⟩ : Ins)).1 = 1409286144 + (I.tdiv 4 % 524288 * 32 + (cond % 16 * 1 + 0)) ∧ (encV (⟨13, 0, D, N, M, A, I, J, U, F, cond, Y, G, X, O, L⟩ : Ins)).2 = 0 := by
  have hF : isForm fm12 (⟨13, 0, D, N, M, A, I, J, U, F, cond, Y, G, X, O, L⟩ : Ins) = true := isForm_one rfl rfl
  have R := rightF hR
  have q_imm : holdsB ⟨(-1048576), 1048572, 4⟩ I = true := R.imm
  have q_cond : holdsB ⟨0, 15, 1⟩ cond = true := R.cond
  have C := (cd_then (cd_words 5 19 (by decide) (by decide)) (cd_num .cond 1 0 4 (by decide) (by decide) (by decide)))
  have e := word_sum fm12 C (by simp [forms, formsA, formsB]) [(5, 19), (0, 4)] (fun _ => rfl) (by kernel_rfl) (by kernel_rfl) hR hF ⟨(fit_words q_imm (by decide) (by decide)), (fit_one q_cond (by decide) (by decide))⟩
  rw [e]
  refine ⟨?_, rfl⟩
  show ((1409286144 + sumC _ : Nat) : Int) = _
  rw [Int.natCast_add]
  simp only [List.cons_append, List.nil_append, twoC, adrC, sum_cons, sum_nil]
  congr 1
  refine congr (congrArg _ (by exact congrArg (· * _) (low_mod _ (by decide)))) ?_
  refine congr (congrArg _ (by exact congrArg (· * _) ((low_mod _ (by decide)).trans (by rw [Int.tdiv_one]; rfl)))) ?_
  rfl
set_option maxRecDepth 4000 in
theorem wd13 (S D N M A I J U F cond Y : Int) (G X O L : Bool) (hR : rightB (⟨14, 0, D, N, M, A, I, J, U, F, cond, Y, G, X, O, L⟩ : Ins) = true) : (encV (⟨14, 0, D, N, M, A, I, J, U, F, cond, Y, G, X, O, L⟩ : Ins)).1 = 3019898880 + (whenI O 16777216 + (I.tdiv 4 % 524288 * 32 + (D % 32 * 1 + 0))) ∧ (encV (⟨14, 0, D, N, M, A, I, J, U, F, cond, Y, G, X, O, L⟩ : Ins)).2 = 0 := by
  have hF : isForm fm13 (⟨14, 0, D, N, M, A, I, J, U, F, cond, Y, G, X, O, L⟩ : Ins) = true := isForm_one rfl rfl
  have R := rightF hR
  have q_rd : holdsB ⟨0, 31, 1⟩ D = true := R.rd
  have q_imm : holdsB ⟨(-1048576), 1048572, 4⟩ I = true := R.imm
  have C := (cd_then (cd_sgn .not 24 (by decide)) (cd_then (cd_words 5 19 (by decide) (by decide)) (cd_num .rd 1 0 5 (by decide) (by decide) (by decide))))
  have e := word_sum fm13 C (by simp [forms, formsA, formsB]) [(24, 1), (5, 19), (0, 5)] (fun _ => rfl) (by kernel_rfl) (by kernel_rfl) hR hF ⟨trivial, ⟨(fit_words q_imm (by decide) (by decide)), (fit_one q_rd (by decide) (by decide))⟩⟩
  rw [e]
  refine ⟨?_, rfl⟩
  show ((3019898880 + sumC _ : Nat) : Int) = _
  rw [Int.natCast_add]
  simp only [List.cons_append, List.nil_append, twoC, adrC, sum_cons, sum_nil]
  congr 1
  refine congr (congrArg _ (by exact when_low O _)) ?_
  refine congr (congrArg _ (by exact congrArg (· * _) (low_mod _ (by decide)))) ?_
  refine congr (congrArg _ (by exact congrArg (· * _) ((low_mod _ (by decide)).trans (by rw [Int.tdiv_one]; rfl)))) ?_
  rfl
set_option maxRecDepth 4000 in
theorem wd14 (S D N M A I J U F cond Y : Int) (G X O L : Bool) (hR : rightB (⟨15, 0, D, N, M, A, I, J, U, F, cond, Y, G, X, O, L⟩ : Ins) = true) : (encV (⟨15, 0, D, N, M, A, I, J, U, F, cond, Y, G, X, O, L⟩ : Ins)).1 = 905969664 + (whenI O 16777216 + (U.tdiv 32 % 2 * 2147483648 + (U.tmod 32 % 32 * 524288 + (I.tdiv 4 % 16384 * 32 + (D % 32 * 1 + 0))))) ∧ (encV (⟨15, 0, D, N, M, A, I, J, U, F, cond, Y, G, X, O, L⟩ : Ins)).2 = 0 := by
  have hF : isForm fm14 (⟨15, 0, D, N, M, A, I, J, U, F, cond, Y, G, X, O, L⟩ : Ins) = true := isForm_one rfl rfl
  have R := rightF hR
  have q_rd : holdsB ⟨0, 31, 1⟩ D = true := R.rd
  have q_imm : holdsB ⟨(-32768), 32764, 4⟩ I = true := R.imm
  have q_amount : holdsB ⟨0, 63, 1⟩ U = true := R.amount
  have C := (cd_then (cd_sgn .not 24 (by decide)) (cd_then cd_tbz0 (cd_then (cd_words 5 14 (by decide) (by decide)) (cd_num .rd 1 0 5 (by decide) (by decide) (by decide)))))
  have e := word_sum fm14 C (by simp [forms, formsA, formsB]) [(24, 1), (31, 1), (19, 5), (5, 14), (0, 5)] (fun _ => rfl) (by kernel_rfl) (by kernel_rfl) hR hF ⟨trivial, ⟨(fit_two q_amount (by decide) (by decide)), ⟨(fit_words q_imm (by decide) (by decide)), (fit_one q_rd (by decide) (by decide))⟩⟩⟩
  rw [e]
  refine ⟨?_, rfl⟩
  show ((905969664 + sumC _ : Nat) : Int) = _
  rw [Int.natCast_add]
  simp only [List.cons_append, List.nil_append, twoC, adrC, sum_cons, sum_nil]
  congr 1
  refine congr (congrArg _ (by exact when_low O _)) ?_
  iterate 3 (refine congr (congrArg _ (by exact congrArg (· * _) (low_mod _ (by decide)))) ?_)
  refine congr (congrArg _ (by exact congrArg (· * _) ((low_mod _ (by decide)).trans (by rw [Int.tdiv_one]; rfl)))) ?_
  rfl
set_option maxRecDepth 4000 in
theorem wd15 (S D N M A I J U F cond Y : Int) (G X O L : Bool) (hR : rightB (⟨16, S, D, N, M, A, I, J, U, F, cond, Y, G, X, O, L⟩ : Ins) = true) : (encV (⟨16, S, D, N, M, A, I, J, U, F, cond, Y, G, X, O, L⟩ : Ins)).1 = 3592355840 + (S % 4 * 2097152 + (N % 32 * 32 + 0)) ∧ (encV (⟨16, S, D, N, M, A, I, J, U, F, cond, Y, G, X, O, L⟩ : Ins)).2 = 0 := by
  have hF : isForm fm15 (⟨16, S, D, N, M, A, I, J, U, F, cond, Y, G, X, O, L⟩ : Ins) = true := isForm_each rfl rfl
  have R := rightF hR
  have q_rn : holdsB ⟨0, 31, 1⟩ N = true := R.rn
  have q_sub : holdsB ⟨0, 2, 1⟩ S = true := R.sub
  have C := (cd_then (cd_num .sub 1 21 2 (by decide) (by decide) (by decide)) (cd_num .rn 1 5 5 (by decide) (by decide) (by decide)))
  have e := word_sum fm15 C (by simp [forms, formsA, formsB]) [(21, 2), (5, 5)] (fun _ => rfl) (by kernel_rfl) (by kernel_rfl) hR hF ⟨(fit_one q_sub (by decide) (by decide)), (fit_one q_rn (by decide) (by decide))⟩
  rw [e]
  refine ⟨?_, rfl⟩
  show ((3592355840 + sumC _ : Nat) : Int) = _
  rw [Int.natCast_add]
  simp only [List.cons_append, List.nil_append, twoC, adrC, sum_cons, sum_nil]
  congr 1
  iterate 2 (refine congr (congrArg _ (by exact congrArg (· * _) ((low_mod _ (by decide)).trans (by rw [Int.tdiv_one]; rfl)))) ?_)
  rfl
set_option maxRecDepth 4000 in
theorem wd16 (S D N M A I J U F cond Y : Int) (G X O L : Bool) (hR : rightB (⟨17, 0, D, N, M, A, I, J, U, F, cond, Y, G, X, O, L⟩ : Ins) = true) : (encV (⟨17, 0, D, N, M, A, I, J, U, F, cond, Y, G, X, O, L⟩ : Ins)).1 = 4181721088 + (I.tdiv 8 % 4096 * 1024 + (N % 32 * 32 + (D % 32 * 1 + 0))) ∧ (encV (⟨17, 0, D, N, M, A, I, J, U, F, cond, Y, G, X, O, L⟩ : Ins)).2 = 0 := by
  have hF : isForm fm16 (⟨17, 0, D, N, M, A, I, J, U, F, cond, Y, G, X, O, L⟩ : Ins) = true := isForm_one rfl rfl
  have R := rightF hR
  have q_rd : holdsB ⟨0, 31, 1⟩ D = true := R.rd
  have q_rn : holdsB ⟨0, 31, 1⟩ N = true := R.rn
  have q_imm : holdsB ⟨0, 32760, 8⟩ I = true := R.imm
  have C := (cd_then (cd_num .imm 8 10 12 (by decide) (by decide) (by decide)) (cd_then (cd_num .rn 1 5 5 (by decide) (by decide) (by decide)) (cd_num .rd 1 0 5 (by decide) (by decide) (by decide))))
  have e := word_sum fm16 C (by simp [forms, formsA, formsB]) [(10, 12), (5, 5), (0, 5)] (fun _ => rfl) (by kernel_rfl) (by kernel_rfl) hR hF ⟨(fit_num q_imm (by decide) (by decide) (by decide)), ⟨(fit_one q_rn (by decide) (by decide)), (fit_one q_rd (by decide) (by decide))⟩⟩
  rw [e]
  refine ⟨?_, rfl⟩
  show ((4181721088 + sumC _ : Nat) : Int) = _
  rw [Int.natCast_add]
  simp only [List.cons_append, List.nil_append, twoC, adrC, sum_cons, sum_nil]
  congr 1
  refine congr (congrArg _ (by exact congrArg (· * _) (low_mod _ (by decide)))) ?_
  iterate 2 (refine congr (congrArg _ (by exact congrArg (· * _) ((low_mod _ (by decide)).trans (by rw [Int.tdiv_one]; rfl)))) ?_)
  rfl
set_option maxRecDepth 4000 in
theorem wd17 (S D N M A I J U F cond Y : Int) (G X O L : Bool) (hR : rightB (⟨18, 0, D, N, M, A, I, J, U, F, cond, Y, G, X, O, L⟩ : Ins) = true) : (encV (⟨18, 0, D, N, M, A, I, J, U, F, cond, Y, G, X, O, L⟩ : Ins)).1 = 4177526784 + (I.tdiv 8 % 4096 * 1024 + (N % 32 * 32 + (D % 32 * 1 + 0))) ∧ (encV (⟨18, 0, D, N, M, A, I, J, U, F, cond, Y, G, X, O, L⟩ : Ins)).2 = 0 := by
  have hF : isForm fm17 (⟨18, 0, D, N, M, A, I, J, U, F, cond, Y, G, X, O, L⟩ : Ins) = true := isForm_one rfl rfl
  have R := rightF hR
  have q_rd : holdsB ⟨0, 31, 1⟩ D = true := R.rd
  have q_rn : holdsB ⟨0, 31, 1⟩ N = true := R.rn
  have q_imm : holdsB ⟨0, 32760, 8⟩ I = true := R.imm
  have C := (cd_then (cd_num .imm 8 10 12 (by decide) (by decide) (by decide)) (cd_then (cd_num .rn 1 5 5 (by decide) (by decide) (by decide)) (cd_num .rd 1 0 5 (by decide) (by decide) (by decide))))
  have e := word_sum fm17 C (by simp [forms, formsA, formsB]) [(10, 12), (5, 5), (0, 5)] (fun _ => rfl) (by kernel_rfl) (by kernel_rfl) hR hF ⟨(fit_num q_imm (by decide) (by decide) (by decide)), ⟨(fit_one q_rn (by decide) (by decide)), (fit_one q_rd (by decide) (by decide))⟩⟩
  rw [e]
  refine ⟨?_, rfl⟩
  show ((4177526784 + sumC _ : Nat) : Int) = _
  rw [Int.natCast_add]
  simp only [List.cons_append, List.nil_append, twoC, adrC, sum_cons, sum_nil]
  congr 1
  refine congr (congrArg _ (by exact congrArg (· * _) (low_mod _ (by decide)))) ?_
  iterate 2 (refine congr (congrArg _ (by exact congrArg (· * _) ((low_mod _ (by decide)).trans (by rw [Int.tdiv_one]; rfl)))) ?_)
  rfl
set_option maxRecDepth 4000 in
theorem wd18 (S D N M A I J U F cond Y : Int) (G X O L : Bool) (hR : rightB (⟨19, 0, D, N, M, A, I, J, U, F, cond, Y, G, X, O, L⟩ : Ins) = true) : (encV (⟨19, 0, D, N, M, A, I, J, U, F, cond, Y, G, X, O, L⟩ : Ins)).1 = 4167067648 + (U.tdiv 3 % 2 * 4096 + (M % 32 * 65536 + (N % 32 * 32 + (D % 32 * 1 + 0)))) ∧ (encV (⟨19, 0, D, N, M, A, I, J, U, F, cond, Y, G, X, O, L⟩ : Ins)).2 = 0 := by
  have hF : isForm fm18 (⟨19, 0, D, N, M, A, I, J, U, F, cond, Y, G, X, O, L⟩ : Ins) = true := isForm_one rfl rfl
  have R := rightF hR
  have q_rd : holdsB ⟨0, 31, 1⟩ D = true := R.rd
  have q_rn : holdsB ⟨0, 31, 1⟩ N = true := R.rn
  have q_rm : holdsB ⟨0, 31, 1⟩ M = true := R.rm
  have q_amount : holdsB ⟨0, 3, 3⟩ U = true := R.amount
  have C := (cd_then (cd_num .amount 3 12 1 (by decide) (by decide) (by decide)) (cd_then (cd_num .rm 1 16 5 (by decide) (by decide) (by decide)) (cd_then (cd_num .rn 1 5 5 (by decide) (by decide) (by decide)) (cd_num .rd 1 0 5 (by decide) (by decide) (by decide)))))
  have e := word_sum fm18 C (by simp [forms, formsA, formsB]) [(12, 1), (16, 5), (5, 5), (0, 5)] (fun _ => rfl) (by kernel_rfl) (by kernel_rfl) hR hF ⟨(fit_num q_amount (by decide) (by decide) (by decide)), ⟨(fit_one q_rm (by decide) (by decide)), ⟨(fit_one q_rn (by decide) (by decide)), (fit_one q_rd (by decide) (by decide))⟩⟩⟩
  rw [e]
  refine ⟨?_, rfl⟩
  show ((4167067648 + sumC _ : Nat) : Int) = _
  rw [Int.natCast_add]
  simp only [List.cons_append, List.nil_append, twoC, adrC, sum_cons, sum_nil]
  congr 1
  refine congr (congrArg _ (by exact congrArg (· * _) (low_mod _ (by decide)))) ?_
  iterate 3 (refine congr (congrArg _ (by exact congrArg (· * _) ((low_mod _ (by decide)).trans (by rw [Int.tdiv_one]; rfl)))) ?_)
  rfl
set_option maxRecDepth 4000 in
theorem wd19 (S D N M A I J U F cond Y : Int) (G X O L : Bool) (hR : rightB (⟨20, 0, D, N, M, A, I, J, U, F, cond, Y, G, X, O, L⟩ : Ins) = true) : (encV (⟨20, 0, D, N, M, A, I, J, U, F, cond, Y, G, X, O, L⟩ : Ins)).1 = 4162873344 + (U.tdiv 3 % 2 * 4096 + (M % 32 * 65536 + (N % 32 * 32 + (D % 32 * 1 + 0)))) ∧ (encV (⟨20, 0, D, N, M, A, I, J, U, F, cond, Y, G, X, O, L⟩ : Ins)).2 = 0 := by
  have hF : isForm fm19 (⟨20, 0, D, N, M, A, I, J, U, F, cond, Y, G, X, O, L⟩ : Ins) = true := isForm_one rfl rfl
  have R := rightF hR
  have q_rd : holdsB ⟨0, 31, 1⟩ D = true := R.rd
  have q_rn : holdsB ⟨0, 31, 1⟩ N = true := R.rn
  have q_rm : holdsB ⟨0, 31, 1⟩ M = true := R.rm
  have q_amount : holdsB ⟨0, 3, 3⟩ U = true := R.amount
  have C := (cd_then (cd_num .amount 3 12 1 (by decide) (by decide) (by decide)) (cd_then (cd_num .rm 1 16 5 (by decide) (by decide) (by decide)) (cd_then (cd_num .rn 1 5 5 (by decide) (by decide) (by decide)) (cd_num .rd 1 0 5 (by decide) (by decide) (by decide)))))
  have e := word_sum fm19 C (by simp [forms, formsA, formsB]) [(12, 1), (16, 5), (5, 5), (0, 5)] (fun _ => rfl) (by kernel_rfl) (by kernel_rfl) hR hF ⟨(fit_num q_amount (by decide) (by decide) (by decide)), ⟨(fit_one q_rm (by decide) (by decide)), ⟨(fit_one q_rn (by decide) (by decide)), (fit_one q_rd (by decide) (by decide))⟩⟩⟩
  rw [e]
  refine ⟨?_, rfl⟩
  show ((4162873344 + sumC _ : Nat) : Int) = _
  rw [Int.natCast_add]
  simp only [List.cons_append, List.nil_append, twoC, adrC, sum_cons, sum_nil]
  congr 1
  refine congr (congrArg _ (by exact congrArg (· * _) (low_mod _ (by decide)))) ?_
  iterate 3 (refine congr (congrArg _ (by exact congrArg (· * _) ((low_mod _ (by decide)).trans (by rw [Int.tdiv_one]; rfl)))) ?_)
  rfl
set_option maxRecDepth 4000 in
theorem wd20 (S D N M A I J U F cond Y : Int) (G X O L : Bool) (hR : rightB (⟨21, 0, D, N, M, A, I, J, U, F, cond, Y, G, X, O, L⟩ : Ins) = true) : (encV (⟨21, 0, D, N, M, A, I, J, U, F, cond, Y, G, X, O, L⟩ : Ins)).1 = 3370122240 + (N % 32 * 32 + (D % 32 * 1 + 0)) ∧ (encV (⟨21, 0, D, N, M, A, I, J, U, F, cond, Y, G, X, O, L⟩ : Ins)).2 = 0 := by
  have hF : isForm fm20 (⟨21, 0, D, N, M, A, I, J, U, F, cond, Y, G, X, O, L⟩ : Ins) = true := isForm_one rfl rfl
  have R := rightF hR
  have q_rd : holdsB ⟨0, 31, 1⟩ D = true := R.rd
  have q_rn : holdsB ⟨0, 31, 1⟩ N = true := R.rn
  have C := (cd_then (cd_num .rn 1 5 5 (by decide) (by decide) (by decide)) (cd_num .rd 1 0 5 (by decide) (by decide) (by decide)))
  have e := word_sum fm20 C (by simp [forms, formsA, formsB]) [(5, 5), (0, 5)] (fun _ => rfl) (by kernel_rfl) (by kernel_rfl) hR hF ⟨(fit_one q_rn (by decide) (by decide)), (fit_one q_rd (by decide) (by decide))⟩
  rw [e]
  refine ⟨?_, rfl⟩
  show ((3370122240 + sumC _ : Nat) : Int) = _
  rw [Int.natCast_add]
  simp only [List.cons_append, List.nil_append, twoC, adrC, sum_cons, sum_nil]
  congr 1
  iterate 2 (refine congr (congrArg _ (by exact congrArg (· * _) ((low_mod _ (by decide)).trans (by rw [Int.tdiv_one]; rfl)))) ?_)
  rfl
set_option maxRecDepth 4000 in
theorem wd21 (S D N M A I J U F cond Y : Int) (G X O L : Bool) (hR : rightB (⟨21, 1, D, N, M, A, I, J, U, F, cond, Y, G, X, O, L⟩ : Ins) = true) : (encV (⟨21, 1, D, N, M, A, I, J, U, F, cond, Y, G, X, O, L⟩ : Ins)).1 = 4173316096 + (N % 32 * 32 + (D % 32 * 1 + 0)) ∧ (encV (⟨21, 1, D, N, M, A, I, J, U, F, cond, Y, G, X, O, L⟩ : Ins)).2 = 0 := by
  have hF : isForm fm21 (⟨21, 1, D, N, M, A, I, J, U, F, cond, Y, G, X, O, L⟩ : Ins) = true := isForm_one rfl rfl
  have R := rightF hR
  have q_rd : holdsB ⟨0, 31, 1⟩ D = true := R.rd
  have q_rn : holdsB ⟨0, 31, 1⟩ N = true := R.rn
  have C := (cd_then (cd_num .rn 1 5 5 (by decide) (by decide) (by decide)) (cd_num .rd 1 0 5 (by decide) (by decide) (by decide)))
  have e := word_sum fm21 C (by simp [forms, formsA, formsB]) [(5, 5), (0, 5)] (fun _ => rfl) (by kernel_rfl) (by kernel_rfl) hR hF ⟨(fit_one q_rn (by decide) (by decide)), (fit_one q_rd (by decide) (by decide))⟩
  rw [e]
  refine ⟨?_, rfl⟩
  show ((4173316096 + sumC _ : Nat) : Int) = _
  rw [Int.natCast_add]
  simp only [List.cons_append, List.nil_append, twoC, adrC, sum_cons, sum_nil]
  congr 1
  iterate 2 (refine congr (congrArg _ (by exact congrArg (· * _) ((low_mod _ (by decide)).trans (by rw [Int.tdiv_one]; rfl)))) ?_)
  rfl
set_option maxRecDepth 4000 in
theorem wd22 (S D N M A I J U F cond Y : Int) (G X O L : Bool) (hR : rightB (⟨22, 0, D, N, M, A, I, J, U, F, cond, Y, G, X, O, L⟩ : Ins) = true) : (encV (⟨22, 0, D, N, M, A, I, J, U, F, cond, Y, G, X, O, L⟩ : Ins)).1 = 3365927936 + (N % 32 * 32 + (D % 32 * 1 + 0)) ∧ (encV (⟨22, 0, D, N, M, A, I, J, U, F, cond, Y, G, X, O, L⟩ : Ins)).2 = 0 := by
  have hF : isForm fm22 (⟨22, 0, D, N, M, A, I, J, U, F, cond, Y, G, X, O, L⟩ : Ins) = true := isForm_one rfl rfl
  have R := rightF hR
  have q_rd : holdsB ⟨0, 31, 1⟩ D = true := R.rd
  have q_rn : holdsB ⟨0, 31, 1⟩ N = true := R.rn
  have C := (cd_then (cd_num .rn 1 5 5 (by decide) (by decide) (by decide)) (cd_num .rd 1 0 5 (by decide) (by decide) (by decide)))
  have e := word_sum fm22 C (by simp [forms, formsA, formsB]) [(5, 5), (0, 5)] (fun _ => rfl) (by kernel_rfl) (by kernel_rfl) hR hF ⟨(fit_one q_rn (by decide) (by decide)), (fit_one q_rd (by decide) (by decide))⟩
  rw [e]
  refine ⟨?_, rfl⟩
  show ((3365927936 + sumC _ : Nat) : Int) = _
  rw [Int.natCast_add]
  simp only [List.cons_append, List.nil_append, twoC, adrC, sum_cons, sum_nil]
  congr 1
  iterate 2 (refine congr (congrArg _ (by exact congrArg (· * _) ((low_mod _ (by decide)).trans (by rw [Int.tdiv_one]; rfl)))) ?_)
  rfl
set_option maxRecDepth 4000 in
theorem wd23 (S D N M A I J U F cond Y : Int) (G X O L : Bool) (hR : rightB (⟨23, S, D, N, M, A, I, J, U, F, cond, Y, G, X, O, L⟩ : Ins) = true) : (encV (⟨23, S, D, N, M, A, I, J, U, F, cond, Y, G, X, O, L⟩ : Ins)).1 = 3361700864 + (S % 2 * 32768 + (N % 32 * 32 + (D % 32 * 1 + 0))) ∧ (encV (⟨23, S, D, N, M, A, I, J, U, F, cond, Y, G, X, O, L⟩ : Ins)).2 = 0 := by
  have hF : isForm fm23 (⟨23, S, D, N, M, A, I, J, U, F, cond, Y, G, X, O, L⟩ : Ins) = true := isForm_each rfl rfl
  have R := rightF hR
  have q_rd : holdsB ⟨0, 31, 1⟩ D = true := R.rd
  have q_rn : holdsB ⟨0, 31, 1⟩ N = true := R.rn
  have q_sub : holdsB ⟨0, 1, 1⟩ S = true := R.sub
  have C := (cd_then (cd_num .sub 1 15 1 (by decide) (by decide) (by decide)) (cd_then (cd_num .rn 1 5 5 (by decide) (by decide) (by decide)) (cd_num .rd 1 0 5 (by decide) (by decide) (by decide))))
  have e := word_sum fm23 C (by simp [forms, formsA, formsB]) [(15, 1), (5, 5), (0, 5)] (fun _ => rfl) (by kernel_rfl) (by kernel_rfl) hR hF ⟨(fit_one q_sub (by decide) (by decide)), ⟨(fit_one q_rn (by decide) (by decide)), (fit_one q_rd (by decide) (by decide))⟩⟩
  rw [e]
  refine ⟨?_, rfl⟩
  show ((3361700864 + sumC _ : Nat) : Int) = _
  rw [Int.natCast_add]
  simp only [List.cons_append, List.nil_append, twoC, adrC, sum_cons, sum_nil]
  congr 1
  iterate 3 (refine congr (congrArg _ (by exact congrArg (· * _) ((low_mod _ (by decide)).trans (by rw [Int.tdiv_one]; rfl)))) ?_)
  rfl
set_option maxRecDepth 4000 in
theorem wd24 (S D N M A I J U F cond Y : Int) (G X O L : Bool) (hR : rightB (⟨24, S, D, N, M, A, I, J, U, F, cond, Y, G, X, O, L⟩ : Ins) = true) : (encV (⟨24, S, D, N, M, A, I, J, U, F, cond, Y, G, X, O, L⟩ : Ins)).1 = 3355474944 + (S % 2 * 32768 + (M % 32 * 65536 + (N % 32 * 32 + (D % 32 * 1 + 0)))) ∧ (encV (⟨24, S, D, N, M, A, I, J, U, F, cond, Y, G, X, O, L⟩ : Ins)).2 = 0 := by
  have hF : isForm fm24 (⟨24, S, D, N, M, A, I, J, U, F, cond, Y, G, X, O, L⟩ : Ins) = true := isForm_each rfl rfl
  have R := rightF hR
  have q_rd : holdsB ⟨0, 31, 1⟩ D = true := R.rd
  have q_rn : holdsB ⟨0, 31, 1⟩ N = true := R.rn
  have q_rm : holdsB ⟨0, 31, 1⟩ M = true := R.rm
  have q_sub : holdsB ⟨0, 1, 1⟩ S = true := R.sub
  have C := (cd_then (cd_num .sub 1 15 1 (by decide) (by decide) (by decide)) (cd_then (cd_num .rm 1 16 5 (by decide) (by decide) (by decide)) (cd_then (cd_num .rn 1 5 5 (by decide) (by decide) (by decide)) (cd_num .rd 1 0 5 (by decide) (by decide) (by decide)))))
  have e := word_sum fm24 C (by simp [forms, formsA, formsB]) [(15, 1), (16, 5), (5, 5), (0, 5)] (fun _ => rfl) (by kernel_rfl) (by kernel_rfl) hR hF ⟨(fit_one q_sub (by decide) (by decide)), ⟨(fit_one q_rm (by decide) (by decide)), ⟨(fit_one q_rn (by decide) (by decide)), (fit_one q_rd (by decide) (by decide))⟩⟩⟩
  rw [e]
  refine ⟨?_, rfl⟩
  show ((3355474944 + sumC _ : Nat) : Int) = _
  rw [Int.natCast_add]
  simp only [List.cons_append, List.nil_append, twoC, adrC, sum_cons, sum_nil]
  congr 1
  iterate 4 (refine congr (congrArg _ (by exact congrArg (· * _) ((low_mod _ (by decide)).trans (by rw [Int.tdiv_one]; rfl)))) ?_)
  rfl
set_option maxRecDepth 4000 in
theorem wd25 (S D N M A I J U F cond Y : Int) (G X O L : Bool) (hR : rightB (⟨25, 0, D, N, M, A, I, J, U, F, cond, Y, G, X, O, L⟩ : Ins) = true) : (encV (⟨25, 0, D, N, M, A, I, J, U, F, cond, Y, G, X, O, L⟩ : Ins)).1 = 3573759839 + 0 ∧ (encV (⟨25, 0, D, N, M, A, I, J, U, F, cond, Y, G, X, O, L⟩ : Ins)).2 = 0 := by
  have hF : isForm fm25 (⟨25, 0, D, N, M, A, I, J, U, F, cond, Y, G, X, O, L⟩ : Ins) = true := isForm_one rfl rfl
  have R := rightF hR
  have C := cd_nothing
  have e := word_sum fm25 C (by simp [forms, formsA, formsB]) [] (fun _ => rfl) (by kernel_rfl) (by kernel_rfl) hR hF trivial
  rw [e]
  refine ⟨?_, rfl⟩
  show ((3573759839 + sumC _ : Nat) : Int) = _
  rw [Int.natCast_add]
  simp only [List.cons_append, List.nil_append, twoC, adrC, sum_cons, sum_nil]
  congr 1
set_option maxRecDepth 4000 in
theorem wd26 (S D N M A I J U F cond Y : Int) (G X O L : Bool) (hR : rightB (⟨26, 0, D, N, M, A, I, J, U, F, cond, Y, G, X, O, L⟩ : Ins) = true) : (encV (⟨26, 0, D, N, M, A, I, J, U, F, cond, Y, G, X, O, L⟩ : Ins)).1 = 3573759167 + (I % 4 * 256 + 0) ∧ (encV (⟨26, 0, D, N, M, A, I, J, U, F, cond, Y, G, X, O, L⟩ : Ins)).2 = 0 := by
  have hF : isForm fm26 (⟨26, 0, D, N, M, A, I, J, U, F, cond, Y, G, X, O, L⟩ : Ins) = true := isForm_one rfl rfl
  have R := rightF hR
  have q_imm : holdsB ⟨1, 3, 1⟩ I = true := R.imm
  have C := (cd_num .imm 1 8 2 (by decide) (by decide) (by decide))
  have e := word_sum fm26 C (by simp [forms, formsA, formsB]) [(8, 2)] (fun _ => rfl) (by kernel_rfl) (by kernel_rfl) hR hF (fit_one q_imm (by decide) (by decide))
  rw [e]
  refine ⟨?_, rfl⟩
  show ((3573759167 + sumC _ : Nat) : Int) = _
  rw [Int.natCast_add]
  simp only [List.cons_append, List.nil_append, twoC, adrC, sum_cons, sum_nil]
  congr 1
  refine congr (congrArg _ (by exact congrArg (· * _) ((low_mod _ (by decide)).trans (by rw [Int.tdiv_one]; rfl)))) ?_
  rfl
set_option maxRecDepth 4000 in
theorem wd27 (S D N M A I J U F cond Y : Int) (G X O L : Bool) (hR : rightB (⟨26, 1, D, N, M, A, I, J, U, F, cond, Y, G, X, O, L⟩ : Ins) = true) : (encV (⟨26, 1, D, N, M, A, I, J, U, F, cond, Y, G, X, O, L⟩ : Ins)).1 = 3573759135 + (I % 4 * 256 + 0) ∧ (encV (⟨26, 1, D, N, M, A, I, J, U, F, cond, Y, G, X, O, L⟩ : Ins)).2 = 0 := by
  have hF : isForm fm27 (⟨26, 1, D, N, M, A, I, J, U, F, cond, Y, G, X, O, L⟩ : Ins) = true := isForm_one rfl rfl
  have R := rightF hR
  have q_imm : holdsB ⟨1, 3, 1⟩ I = true := R.imm
  have C := (cd_num .imm 1 8 2 (by decide) (by decide) (by decide))
  have e := word_sum fm27 C (by simp [forms, formsA, formsB]) [(8, 2)] (fun _ => rfl) (by kernel_rfl) (by kernel_rfl) hR hF (fit_one q_imm (by decide) (by decide))
  rw [e]
  refine ⟨?_, rfl⟩
  show ((3573759135 + sumC _ : Nat) : Int) = _
  rw [Int.natCast_add]
  simp only [List.cons_append, List.nil_append, twoC, adrC, sum_cons, sum_nil]
  congr 1
  refine congr (congrArg _ (by exact congrArg (· * _) ((low_mod _ (by decide)).trans (by rw [Int.tdiv_one]; rfl)))) ?_
  rfl
set_option maxRecDepth 4000 in
theorem wd28 (S D N M A I J U F cond Y : Int) (G X O L : Bool) (hR : rightB (⟨27, 0, D, N, M, A, I, J, U, F, cond, Y, G, X, O, L⟩ : Ins) = true) : (encV (⟨27, 0, D, N, M, A, I, J, U, F, cond, Y, G, X, O, L⟩ : Ins)).1 = 3573759967 + 0 ∧ (encV (⟨27, 0, D, N, M, A, I, J, U, F, cond, Y, G, X, O, L⟩ : Ins)).2 = 0 := by
  have hF : isForm fm28 (⟨27, 0, D, N, M, A, I, J, U, F, cond, Y, G, X, O, L⟩ : Ins) = true := isForm_one rfl rfl
  have R := rightF hR
  have C := cd_nothing
  have e := word_sum fm28 C (by simp [forms, formsA, formsB]) [] (fun _ => rfl) (by kernel_rfl) (by kernel_rfl) hR hF trivial
  rw [e]
  refine ⟨?_, rfl⟩
  show ((3573759967 + sumC _ : Nat) : Int) = _
  rw [Int.natCast_add]
  simp only [List.cons_append, List.nil_append, twoC, adrC, sum_cons, sum_nil]
  congr 1
set_option maxRecDepth 4000 in
theorem wd29 (S D N M A I J U F cond Y : Int) (G X O L : Bool) (hR : rightB (⟨28, 0, D, N, M, A, I, J, U, F, cond, Y, G, X, O, L⟩ : Ins) = true) : (encV (⟨28, 0, D, N, M, A, I, J, U, F, cond, Y, G, X, O, L⟩ : Ins)).1 = 3574297888 + (D % 32 * 1 + 0) ∧ (encV (⟨28, 0, D, N, M, A, I, J, U, F, cond, Y, G, X, O, L⟩ : Ins)).2 = 0 := by
  have hF : isForm fm29 (⟨28, 0, D, N, M, A, I, J, U, F, cond, Y, G, X, O, L⟩ : Ins) = true := isForm_one rfl rfl
  have R := rightF hR
  have q_rd : holdsB ⟨0, 31, 1⟩ D = true := R.rd
  have C := (cd_num .rd 1 0 5 (by decide) (by decide) (by decide))
  have e := word_sum fm29 C (by simp [forms, formsA, formsB]) [(0, 5)] (fun _ => rfl) (by kernel_rfl) (by kernel_rfl) hR hF (fit_one q_rd (by decide) (by decide))
  rw [e]
  refine ⟨?_, rfl⟩
  show ((3574297888 + sumC _ : Nat) : Int) = _
  rw [Int.natCast_add]
  simp only [List.cons_append, List.nil_append, twoC, adrC, sum_cons, sum_nil]
  congr 1
  refine congr (congrArg _ (by exact congrArg (· * _) ((low_mod _ (by decide)).trans (by rw [Int.tdiv_one]; rfl)))) ?_
  rfl
set_option maxRecDepth 4000 in
theorem wd30 (S D N M A I J U F cond Y : Int) (G X O L : Bool) (hR : rightB (⟨30, 0, D, N, M, A, I, J, U, F, cond, Y, G, X, O, L⟩ : Ins) = true) : (encV (⟨30, 0, D, N, M, A, I, J, U, F, cond, Y, G, X, O, L⟩ : Ins)).1 = 3574299424 + (D % 32 * 1 + 0) ∧ (encV (⟨30, 0, D, N, M, A, I, J, U, F, cond, Y, G, X, O, L⟩ : Ins)).2 = 0 := by
  have hF : isForm fm30 (⟨30, 0, D, N, M, A, I, J, U, F, cond, Y, G, X, O, L⟩ : Ins) = true := isForm_one rfl rfl
  have R := rightF hR
  have q_rd : holdsB ⟨0, 31, 1⟩ D = true := R.rd
  have C := (cd_num .rd 1 0 5 (by decide) (by decide) (by decide))
  have e := word_sum fm30 C (by simp [forms, formsA, formsB]) [(0, 5)] (fun _ => rfl) (by kernel_rfl) (by kernel_rfl) hR hF (fit_one q_rd (by decide) (by decide))
  rw [e]
  refine ⟨?_, rfl⟩
  show ((3574299424 + sumC _ : Nat) : Int) = _
  rw [Int.natCast_add]
  simp only [List.cons_append, List.nil_append, twoC, adrC, sum_cons, sum_nil]
  congr 1
  refine congr (congrArg _ (by exact congrArg (· * _) ((low_mod _ (by decide)).trans (by rw [Int.tdiv_one]; rfl)))) ?_
  rfl
set_option maxRecDepth 4000 in
theorem wd31 (S D N M A I J U F cond Y : Int) (G X O L : Bool) (hR : rightB (⟨29, 0, D, N, M, A, I, J, U, F, cond, Y, G, X, O, L⟩ : Ins) = true) : (encV (⟨29, 0, D, N, M, A, I, J, U, F, cond, Y, G, X, O, L⟩ : Ins)).1 = 3574101279 + 0 ∧ (encV (⟨29, 0, D, N, M, A, I, J, U, F, cond, Y, G, X, O, L⟩ : Ins)).2 = 0 := by
  have hF : isForm fm31 (⟨29, 0, D, N, M, A, I, J, U, F, cond, Y, G, X, O, L⟩ : Ins) = true := isForm_one rfl rfl
  have R := rightF hR
  have C := cd_nothing
  have e := word_sum fm31 C (by simp [forms, formsA, formsB]) [] (fun _ => rfl) (by kernel_rfl) (by kernel_rfl) hR hF trivial
  rw [e]
  refine ⟨?_, rfl⟩
  show ((3574101279 + sumC _ : Nat) : Int) = _
  rw [Int.natCast_add]
  simp only [List.cons_append, List.nil_append, twoC, adrC, sum_cons, sum_nil]
  congr 1
set_option maxRecDepth 4000 in
theorem wd32 (S D N M A I J U F cond Y : Int) (G X O L : Bool) (hR : rightB (⟨31, 0, D, N, M, A, I, J, U, F, cond, Y, G, X, O, L⟩ : Ins) = true) : (encV (⟨31, 0, D, N, M, A, I, J, U, F, cond, Y, G, X, O, L⟩ : Ins)).1 = 3576692736 + (Y % 32768 * 32 + (D % 32 * 1 + 0)) ∧ (encV (⟨31, 0, D, N, M, A, I, J, U, F, cond, Y, G, X, O, L⟩ : Ins)).2 = 0 := by
  have hF : isForm fm32 (⟨31, 0, D, N, M, A, I, J, U, F, cond, Y, G, X, O, L⟩ : Ins) = true := isForm_one rfl rfl
  have R := rightF hR
  have q_rd : holdsB ⟨0, 31, 1⟩ D = true := R.rd
  have C := (cd_then (cd_num .sys 1 5 15 (by decide) (by decide) (by decide)) (cd_num .rd 1 0 5 (by decide) (by decide) (by decide)))
  have e := word_sum fm32 C (by simp [forms, formsA, formsB]) [(5, 15), (0, 5)] (fun _ => rfl) (by kernel_rfl) (by kernel_rfl) hR hF ⟨(sys_of R.sys), (fit_one q_rd (by decide) (by decide))⟩
  rw [e]
  refine ⟨?_, rfl⟩
  show ((3576692736 + sumC _ : Nat) : Int) = _
  rw [Int.natCast_add]
  simp only [List.cons_append, List.nil_append, twoC, adrC, sum_cons, sum_nil]
  congr 1
  iterate 2 (refine congr (congrArg _ (by exact congrArg (· * _) ((low_mod _ (by decide)).trans (by rw [Int.tdiv_one]; rfl)))) ?_)
  rfl
set_option maxRecDepth 4000 in
theorem wd33 (S D N M A I J U F cond Y : Int) (G X O L : Bool) (hR : rightB (⟨32, 0, D, N, M, A, I, J, U, F, cond, Y, G, X, O, L⟩ : Ins) = true) : (encV (⟨32, 0, D, N, M, A, I, J, U, F, cond, Y, G, X, O, L⟩ : Ins)).1 = 3574595584 + (Y % 32768 * 32 + (D % 32 * 1 + 0)) ∧ (encV (⟨32, 0, D, N, M, A, I, J, U, F, cond, Y, G, X, O, L⟩ : Ins)).2 = 0 := by
  have hF : isForm fm33 (⟨32, 0, D, N, M, A, I, J, U, F, cond, Y, G, X, O, L⟩ : Ins) = true := isForm_one rfl rfl
  have R := rightF hR
  have q_rd : holdsB ⟨0, 31, 1⟩ D = true := R.rd
  have C := (cd_then (cd_num .sys 1 5 15 (by decide) (by decide) (by decide)) (cd_num .rd 1 0 5 (by decide) (by decide) (by decide)))
  have e := word_sum fm33 C (by simp [forms, formsA, formsB]) [(5, 15), (0, 5)] (fun _ => rfl) (by kernel_rfl) (by kernel_rfl) hR hF ⟨(sys_of R.sys), (fit_one q_rd (by decide) (by decide))⟩
  rw [e]
  refine ⟨?_, rfl⟩
  show ((3574595584 + sumC _ : Nat) : Int) = _
  rw [Int.natCast_add]
  simp only [List.cons_append, List.nil_append, twoC, adrC, sum_cons, sum_nil]
  congr 1
  iterate 2 (refine congr (congrArg _ (by exact congrArg (· * _) ((low_mod _ (by decide)).trans (by rw [Int.tdiv_one]; rfl)))) ?_)
  rfl
set_option maxRecDepth 4000 in
theorem wd34 (S D N M A I J U F cond Y : Int) (G X O L : Bool) (hR : rightB (⟨33, 0, D, N, M, A, I, J, U, F, cond, Y, G, X, O, L⟩ : Ins) = true) : (encV (⟨33, 0, D, N, M, A, I, J, U, F, cond, Y, G, X, O, L⟩ : Ins)).1 = 3573760223 + (I % 16 * 256 + 0) ∧ (encV (⟨33, 0, D, N, M, A, I, J, U, F, cond, Y, G, X, O, L⟩ : Ins)).2 = 0 := by
  have hF : isForm fm34 (⟨33, 0, D, N, M, A, I, J, U, F, cond, Y, G, X, O, L⟩ : Ins) = true := isForm_one rfl rfl
  have R := rightF hR
  have q_imm : holdsB ⟨0, 15, 1⟩ I = true := R.imm
  have C := (cd_num .imm 1 8 4 (by decide) (by decide) (by decide))
  have e := word_sum fm34 C (by simp [forms, formsA, formsB]) [(8, 4)] (fun _ => rfl) (by kernel_rfl) (by kernel_rfl) hR hF (fit_one q_imm (by decide) (by decide))
  rw [e]
  refine ⟨?_, rfl⟩
  show ((3573760223 + sumC _ : Nat) : Int) = _
  rw [Int.natCast_add]
  simp only [List.cons_append, List.nil_append, twoC, adrC, sum_cons, sum_nil]
  congr 1
  refine congr (congrArg _ (by exact congrArg (· * _) ((low_mod _ (by decide)).trans (by rw [Int.tdiv_one]; rfl)))) ?_
  rfl
set_option maxRecDepth 4000 in
theorem wd35 (S D N M A I J U F cond Y : Int) (G X O L : Bool) (hR : rightB (⟨33, 1, D, N, M, A, I, J, U, F, cond, Y, G, X, O, L⟩ : Ins) = true) : (encV (⟨33, 1, D, N, M, A, I, J, U, F, cond, Y, G, X, O, L⟩ : Ins)).1 = 3573760255 + (I % 16 * 256 + 0) ∧ (encV (⟨33, 1, D, N, M, A, I, J, U, F, cond, Y, G, X, O, L⟩ : Ins)).2 = 0 := by
  have hF : isForm fm35 (⟨33, 1, D, N, M, A, I, J, U, F, cond, Y, G, X, O, L⟩ : Ins) = true := isForm_one rfl rfl
  have R := rightF hR
  have q_imm : holdsB ⟨0, 15, 1⟩ I = true := R.imm
  have C := (cd_num .imm 1 8 4 (by decide) (by decide) (by decide))
  have e := word_sum fm35 C (by simp [forms, formsA, formsB]) [(8, 4)] (fun _ => rfl) (by kernel_rfl) (by kernel_rfl) hR hF (fit_one q_imm (by decide) (by decide))
  rw [e]
  refine ⟨?_, rfl⟩
  show ((3573760255 + sumC _ : Nat) : Int) = _
  rw [Int.natCast_add]
  simp only [List.cons_append, List.nil_append, twoC, adrC, sum_cons, sum_nil]
  congr 1
  refine congr (congrArg _ (by exact congrArg (· * _) ((low_mod _ (by decide)).trans (by rw [Int.tdiv_one]; rfl)))) ?_
  rfl
set_option maxRecDepth 4000 in
theorem wd36 (S D N M A I J U F cond Y : Int) (G X O L : Bool) (hR : rightB (⟨34, 0, D, N, M, A, I, J, U, F, cond, Y, G, X, O, L⟩ : Ins) = true) : (encV (⟨34, 0, D, N, M, A, I, J, U, F, cond, Y, G, X, O, L⟩ : Ins)).1 = 3556769793 + (I % 65536 * 32 + 0) ∧ (encV (⟨34, 0, D, N, M, A, I, J, U, F, cond, Y, G, X, O, L⟩ : Ins)).2 = 0 := by
  have hF : isForm fm36 (⟨34, 0, D, N, M, A, I, J, U, F, cond, Y, G, X, O, L⟩ : Ins) = true := isForm_one rfl rfl
  have R := rightF hR
  have q_imm : holdsB ⟨0, 65535, 1⟩ I = true := R.imm
  have C := (cd_num .imm 1 5 16 (by decide) (by decide) (by decide))
  have e := word_sum fm36 C (by simp [forms, formsA, formsB]) [(5, 16)] (fun _ => rfl) (by kernel_rfl) (by kernel_rfl) hR hF (fit_one q_imm (by decide) (by decide))
  rw [e]
  refine ⟨?_, rfl⟩
  show ((3556769793 + sumC _ : Nat) : Int) = _
  rw [Int.natCast_add]
  simp only [List.cons_append, List.nil_append, twoC, adrC, sum_cons, sum_nil]
  congr 1
  refine congr (congrArg _ (by exact congrArg (· * _) ((low_mod _ (by decide)).trans (by rw [Int.tdiv_one]; rfl)))) ?_
  rfl
set_option maxRecDepth 4000 in
theorem wd37 (S D N M A I J U F cond Y : Int) (G X O L : Bool) (hR : rightB (⟨35, 0, D, N, M, A, I, J, U, F, cond, Y, G, X, O, L⟩ : Ins) = true) : (encV (⟨35, 0, D, N, M, A, I, J, U, F, cond, Y, G, X, O, L⟩ : Ins)).1 = 3558866944 + (I % 65536 * 32 + 0) ∧ (encV (⟨35, 0, D, N, M, A, I, J, U, F, cond, Y, G, X, O, L⟩ : Ins)).2 = 0 := by
  have hF : isForm fm37 (⟨35, 0, D, N, M, A, I, J, U, F, cond, Y, G, X, O, L⟩ : Ins) = true := isForm_one rfl rfl
  have R := rightF hR
  have q_imm : holdsB ⟨0, 65535, 1⟩ I = true := R.imm
  have C := (cd_num .imm 1 5 16 (by decide) (by decide) (by decide))
  have e := word_sum fm37 C (by simp [forms, formsA, formsB]) [(5, 16)] (fun _ => rfl) (by kernel_rfl) (by kernel_rfl) hR hF (fit_one q_imm (by decide) (by decide))
  rw [e]
  refine ⟨?_, rfl⟩
  show ((3558866944 + sumC _ : Nat) : Int) = _
  rw [Int.natCast_add]
  simp only [List.cons_append, List.nil_append, twoC, adrC, sum_cons, sum_nil]
  congr 1
  refine congr (congrArg _ (by exact congrArg (· * _) ((low_mod _ (by decide)).trans (by rw [Int.tdiv_one]; rfl)))) ?_
  rfl
set_option maxRecDepth 4000 in
theorem wd38 (S D N M A I J U F cond Y : Int) (G X O L : Bool) (hR : rightB (⟨36, 0, D, N, M, A, I, J, U, F, cond, Y, G, X, O, L⟩ : Ins) = true) : (encV (⟨36, 0, D, N, M, A, I, J, U, F, cond, Y, G, X, O, L⟩ : Ins)).1 = 3600745440 + 0 ∧ (encV (⟨36, 0, D, N, M, A, I, J, U, F, cond, Y, G, X, O, L⟩ : Ins)).2 = 0 := by
  have hF : isForm fm38 (⟨36, 0, D, N, M, A, I, J, U, F, cond, Y, G, X, O, L⟩ : Ins) = true := isForm_one rfl rfl
  have R := rightF hR
  have C := cd_nothing
  have e := word_sum fm38 C (by simp [forms, formsA, formsB]) [] (fun _ => rfl) (by kernel_rfl) (by kernel_rfl) hR hF trivial
  rw [e]
  refine ⟨?_, rfl⟩
  show ((3600745440 + sumC _ : Nat) : Int) = _
  rw [Int.natCast_add]
  simp only [List.cons_append, List.nil_append, twoC, adrC, sum_cons, sum_nil]
  congr 1
set_option maxRecDepth 4000 in
theorem wd39 (S D N M A I J U F cond Y : Int) (G X O L : Bool) (hR : rightB (⟨37, 0, D, N, M, A, I, J, U, F, cond, Y, G, X, O, L⟩ : Ins) = true) : (encV (⟨37, 0, D, N, M, A, I, J, U, F, cond, Y, G, X, O, L⟩ : Ins)).1 = 3573751839 + (I % 8 * 32 + 0) ∧ (encV (⟨37, 0, D, N, M, A, I, J, U, F, cond, Y, G, X, O, L⟩ : Ins)).2 = 0 := by
  have hF : isForm fm39 (⟨37, 0, D, N, M, A, I, J, U, F, cond, Y, G, X, O, L⟩ : Ins) = true := isForm_one rfl rfl
  have R := rightF hR
  have q_imm : holdsB ⟨0, 5, 1⟩ I = true := R.imm
  have C := (cd_num .imm 1 5 3 (by decide) (by decide) (by decide))
  have e := word_sum fm39 C (by simp [forms, formsA, formsB]) [(5, 3)] (fun _ => rfl) (by kernel_rfl) (by kernel_rfl) hR hF (fit_one q_imm (by decide) (by decide))
  rw [e]
  refine ⟨?_, rfl⟩
  show ((3573751839 + sumC _ : Nat) : Int) = _
  rw [Int.natCast_add]
  simp only [List.cons_append, List.nil_append, twoC, adrC, sum_cons, sum_nil]
  congr 1
  refine congr (congrArg _ (by exact congrArg (· * _) ((low_mod _ (by decide)).trans (by rw [Int.tdiv_one]; rfl)))) ?_
  rfl
end Go.Proofs.YtbjcdpmhmebjnaaGreat
