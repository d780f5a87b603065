/- What Decode answers is among what the document's own Decode tries, and so its answer: plain. -/
import Derived.Test.YtcmilajlngnibaaK34
namespace Go.Proofs.Ytcmilajlngnibaa
open Go.RowKit
set_option linter.unusedVariables false

theorem rfind_of {x : Int} (hx : W32 x) : ∀ L : List Ins, (decV x ≠ nilI → decV x ∈ L) → rfind x L = decV x
  | [], h => by
    show nilI = decV x
    by_cases e : decV x = nilI
    · exact e.symm
    · exact absurd (h e) (by simp)
  | i :: l, h => by
    show (bif rightB i && (encV i).1 == x then i else rfind x l) = decV x
    cases hc : (rightB i && (encV i).1 == x)
    · refine rfind_of hx l fun hn => ?_
      rcases List.mem_cons.1 (h hn) with e | e
      · exfalso
        rcases enc_dec hx with h2 | ⟨_, h2⟩
        · exact hn h2
        · rw [e] at h2
          have hr : rightB i = true := by
            cases hr : rightB i
            · rw [enc_no hr] at h2; cases h2
            · rfl
          rw [hr, h2] at hc
          simp at hc
      · exact e
    · rw [Bool.and_eq_true, beq_iff_eq] at hc
      show i = decV x
      rcases dec_enc i with e | ⟨_, _, e⟩
      · have := enc_ok hc.1
        rw [e] at this; cases this
      · rw [hc.2] at e; exact e.symm
theorem sgE_eq (n m : Nat) : sgE ((n : Nat) : Int) m = sgI n m := by
  unfold sgE sgI
  by_cases h : n < 2 ^ (m - 1)
  · rw [if_pos (Int.ofNat_lt.2 h), if_pos h]
  · rw [if_neg (fun e => h (Int.ofNat_lt.1 e)), if_neg h]
    simp
theorem sig_eq (x : Int) (a m : Nat) : sgI (fld x.toNat a m) m * 4 = 4 * sigI x a m := by
  rw [show sigI x a m = sgE ((fld x.toNat a m : Nat) : Int) m from rfl, sgE_eq, Int.mul_comm]
theorem two_eq (x : Int) : ((twoG x.toNat 30 10 1 : Nat) : Int) = 2 * partI x 30 1 + partI x 10 1 := by
  show ((fld x.toNat 30 1 * 2 + fld x.toNat 10 1 : Nat) : Int) = 2 * ((fld x.toNat 30 1 : Nat) : Int) + ((fld x.toNat 10 1 : Nat) : Int)
  omega
theorem tbz_eq (x : Int) : ((twoG x.toNat 31 19 5 : Nat) : Int) = 32 * partI x 31 1 + partI x 19 5 := by
  show ((fld x.toNat 31 1 * 32 + fld x.toNat 19 5 : Nat) : Int) = 32 * ((fld x.toNat 31 1 : Nat) : Int) + ((fld x.toNat 19 5 : Nat) : Int)
  omega
theorem adr_eq (x : Int) : sgI (adrF x.toNat) 21 = 4 * sigI x 5 19 + partI x 29 2 := by
  rw [show sigI x 5 19 = sgE ((fld x.toNat 5 19 : Nat) : Int) 19 from rfl, sgE_eq]
  show _ = 4 * sgI (fld x.toNat 5 19) 19 + ((fld x.toNat 29 2 : Nat) : Int)
  have h1 : fld x.toNat 29 2 < 4 := fld_lt _ 29 2
  have h2 : fld x.toNat 5 19 < 524288 := fld_lt _ 5 19
  unfold sgI adrF
  rw [show (2 : Nat) ^ (21 - 1) = 1048576 from rfl, show (2 : Nat) ^ (19 - 1) = 262144 from rfl, show (2 : Int) ^ 21 = 2097152 from rfl, show (2 : Int) ^ 19 = 524288 from rfl]
  generalize fld x.toNat 29 2 = p at *
  generalize fld x.toNat 5 19 = q at *
  by_cases h : q < 262144
  · rw [if_pos (by omega), if_pos h]; omega
  · rw [if_neg (by omega), if_neg h]; omega
theorem at_mem {L : List Ins} {i j : Ins} (k : Nat) (h : L[k]? = some j) (e : i = j) : i ∈ L := by
  rw [e]; exact List.mem_of_getElem? h
set_option maxRecDepth 4000 in
theorem me0 (x kk : Int) (hW : W32 x) (hK : partI x 12 1 * 3 = kk) : (fm0.t false (x, startI fm0)).2 ∈ rdec x kk := by
  have C := (cd_then (cd_then (cd_sgn .minus 30 (by decide)) (cd_sgn .flags 29 (by decide))) (cd_then (cd_num .amount 12 22 1 (by decide) (by decide) (by decide)) (cd_then (cd_num .imm 1 10 12 (by decide) (by decide) (by decide)) (cd_then (cd_num .rn 1 5 5 (by decide) (by decide) (by decide)) (cd_num .rd 1 0 5 (by decide) (by decide) (by decide))))))
  have e := congrArg Prod.snd (C.take x (startI fm0) hW)
  refine (show (fm0.t false (x, startI fm0)).2 = _ from e) ▸ ?_
  exact at_mem 0 rfl (Ins.ext16 (rfl) (rfl) (Int.mul_one _) (Int.mul_one _) (rfl) (rfl) (Int.mul_one _) (rfl) (Int.mul_comm _ _) (rfl) (rfl) (rfl) (rfl) (rfl) (rfl) (rfl))
set_option maxRecDepth 4000 in
theorem me1 (x kk : Int) (hW : W32 x) (hK : partI x 12 1 * 3 = kk) : (fm1.t false (x, startI fm1)).2 ∈ rdec x kk := by
  have C := (cd_then (cd_then (cd_sgn .minus 30 (by decide)) (cd_sgn .flags 29 (by decide))) (cd_then (cd_num .shift 1 22 2 (by decide) (by decide) (by decide)) (cd_then (cd_num .amount 1 10 6 (by decide) (by decide) (by decide)) (cd_then (cd_num .rm 1 16 5 (by decide) (by decide) (by decide)) (cd_then (cd_num .rn 1 5 5 (by decide) (by decide) (by decide)) (cd_num .rd 1 0 5 (by decide) (by decide) (by decide)))))))
  have e := congrArg Prod.snd (C.take x (startI fm1) hW)
  refine (show (fm1.t false (x, startI fm1)).2 = _ from e) ▸ ?_
  exact at_mem 1 rfl (Ins.ext16 (rfl) (rfl) (Int.mul_one _) (Int.mul_one _) (Int.mul_one _) (rfl) (rfl) (rfl) (Int.mul_one _) (Int.mul_one _) (rfl) (rfl) (rfl) (rfl) (rfl) (rfl))
set_option maxRecDepth 4000 in
theorem me2 (x kk : Int) (hW : W32 x) (hK : partI x 12 1 * 3 = kk) : (fm2.t false (x, startI fm2)).2 ∈ rdec x kk := by
  have C := (cd_then cd_logic (cd_then (cd_sgn .not 21 (by decide)) (cd_then (cd_num .shift 1 22 2 (by decide) (by decide) (by decide)) (cd_then (cd_num .amount 1 10 6 (by decide) (by decide) (by decide)) (cd_then (cd_num .rm 1 16 5 (by decide) (by decide) (by decide)) (cd_then (cd_num .rn 1 5 5 (by decide) (by decide) (by decide)) (cd_num .rd 1 0 5 (by decide) (by decide) (by decide))))))))
  have e := congrArg Prod.snd (C.take x (startI fm2) hW)
  refine (show (fm2.t false (x, startI fm2)).2 = _ from e) ▸ ?_
  exact at_mem 2 rfl (Ins.ext16 (rfl) (rfl) (Int.mul_one _) (Int.mul_one _) (Int.mul_one _) (rfl) (rfl) (rfl) (Int.mul_one _) (Int.mul_one _) (rfl) (rfl) (rfl) (rfl) (rfl) (rfl))
set_option maxRecDepth 4000 in
theorem me3 (x kk : Int) (hW : W32 x) (hK : partI x 12 1 * 3 = kk) : (fm3.t false (x, startI fm3)).2 ∈ rdec x kk := by
  have C := (cd_then cd_logic (cd_then (cd_num .amount 1 22 1 (by decide) (by decide) (by decide)) (cd_then (cd_num .imm 1 16 6 (by decide) (by decide) (by decide)) (cd_then (cd_num .imm2 1 10 6 (by decide) (by decide) (by decide)) (cd_then (cd_num .rn 1 5 5 (by decide) (by decide) (by decide)) (cd_num .rd 1 0 5 (by decide) (by decide) (by decide)))))))
  have e := congrArg Prod.snd (C.take x (startI fm3) hW)
  refine (show (fm3.t false (x, startI fm3)).2 = _ from e) ▸ ?_
  exact at_mem 3 rfl (Ins.ext16 (rfl) (rfl) (Int.mul_one _) (Int.mul_one _) (rfl) (rfl) (Int.mul_one _) (Int.mul_one _) (Int.mul_one _) (rfl) (rfl) (rfl) (rfl) (rfl) (rfl) (rfl))
set_option maxRecDepth 4000 in
theorem me4 (x kk : Int) (hW : W32 x) (hK : partI x 12 1 * 3 = kk) : (fm4.t false (x, startI fm4)).2 ∈ rdec x kk := by
  have C := (cd_then (cd_num .sub 1 29 2 (by decide) (by decide) (by decide)) (cd_then (cd_num .amount 16 21 2 (by decide) (by decide) (by decide)) (cd_then (cd_num .imm 1 5 16 (by decide) (by decide) (by decide)) (cd_num .rd 1 0 5 (by decide) (by decide) (by decide)))))
  have e := congrArg Prod.snd (C.take x (startI fm4) hW)
  refine (show (fm4.t false (x, startI fm4)).2 = _ from e) ▸ ?_
  exact at_mem 4 rfl (Ins.ext16 (rfl) (Int.mul_one _) (Int.mul_one _) (rfl) (rfl) (rfl) (Int.mul_one _) (rfl) (Int.mul_comm _ _) (rfl) (rfl) (rfl) (rfl) (rfl) (rfl) (rfl))
set_option maxRecDepth 4000 in
theorem me5 (x kk : Int) (hW : W32 x) (hK : partI x 12 1 * 3 = kk) : (fm5.t false (x, startI fm5)).2 ∈ rdec x kk := by
  have C := (cd_then (cd_num .sub 1 29 2 (by decide) (by decide) (by decide)) (cd_then (cd_num .imm 1 16 6 (by decide) (by decide) (by decide)) (cd_then (cd_num .imm2 1 10 6 (by decide) (by decide) (by decide)) (cd_then (cd_num .rn 1 5 5 (by decide) (by decide) (by decide)) (cd_num .rd 1 0 5 (by decide) (by decide) (by decide))))))
  have e := congrArg Prod.snd (C.take x (startI fm5) hW)
  refine (show (fm5.t false (x, startI fm5)).2 = _ from e) ▸ ?_
  exact at_mem 5 rfl (Ins.ext16 (rfl) (Int.mul_one _) (Int.mul_one _) (Int.mul_one _) (rfl) (rfl) (Int.mul_one _) (Int.mul_one _) (rfl) (rfl) (rfl) (rfl) (rfl) (rfl) (rfl) (rfl))
set_option maxRecDepth 4000 in
theorem me6 (x kk : Int) (hW : W32 x) (hK : partI x 12 1 * 3 = kk) : (fm6.t false (x, startI fm6)).2 ∈ rdec x kk := by
  have C := (cd_then (cd_num .sub 1 10 2 (by decide) (by decide) (by decide)) (cd_then (cd_num .rm 1 16 5 (by decide) (by decide) (by decide)) (cd_then (cd_num .rn 1 5 5 (by decide) (by decide) (by decide)) (cd_num .rd 1 0 5 (by decide) (by decide) (by decide)))))
  have e := congrArg Prod.snd (C.take x (startI fm6) hW)
  refine (show (fm6.t false (x, startI fm6)).2 = _ from e) ▸ ?_
  exact at_mem 6 rfl (Ins.ext16 (rfl) (Int.mul_one _) (Int.mul_one _) (Int.mul_one _) (Int.mul_one _) (rfl) (rfl) (rfl) (rfl) (rfl) (rfl) (rfl) (rfl) (rfl) (rfl) (rfl))
set_option maxRecDepth 4000 in
theorem me7 (x kk : Int) (hW : W32 x) (hK : partI x 12 1 * 3 = kk) : (fm7.t false (x, startI fm7)).2 ∈ rdec x kk := by
  have C := (cd_then (cd_sgn .minus 15 (by decide)) (cd_then (cd_num .ra 1 10 5 (by decide) (by decide) (by decide)) (cd_then (cd_num .rm 1 16 5 (by decide) (by decide) (by decide)) (cd_then (cd_num .rn 1 5 5 (by decide) (by decide) (by decide)) (cd_num .rd 1 0 5 (by decide) (by decide) (by decide))))))
  have e := congrArg Prod.snd (C.take x (startI fm7) hW)
  refine (show (fm7.t false (x, startI fm7)).2 = _ from e) ▸ ?_
  exact at_mem 7 rfl (Ins.ext16 (rfl) (rfl) (Int.mul_one _) (Int.mul_one _) (Int.mul_one _) (Int.mul_one _) (rfl) (rfl) (rfl) (rfl) (rfl) (rfl) (rfl) (rfl) (rfl) (rfl))
set_option maxRecDepth 4000 in
theorem me8 (x kk : Int) (hW : W32 x) (hK : partI x 12 1 * 3 = kk) : (fm8.t false (x, startI fm8)).2 ∈ rdec x kk := by
  have C := (cd_then (cd_num .sub 1 10 1 (by decide) (by decide) (by decide)) (cd_then (cd_num .rm 1 16 5 (by decide) (by decide) (by decide)) (cd_then (cd_num .rn 1 5 5 (by decide) (by decide) (by decide)) (cd_num .rd 1 0 5 (by decide) (by decide) (by decide)))))
  have e := congrArg Prod.snd (C.take x (startI fm8) hW)
  refine (show (fm8.t false (x, startI fm8)).2 = _ from e) ▸ ?_
  exact at_mem 8 rfl (Ins.ext16 (rfl) (Int.mul_one _) (Int.mul_one _) (Int.mul_one _) (Int.mul_one _) (rfl) (rfl) (rfl) (rfl) (rfl) (rfl) (rfl) (rfl) (rfl) (rfl) (rfl))
set_option maxRecDepth 4000 in
theorem me9 (x kk : Int) (hW : W32 x) (hK : partI x 12 1 * 3 = kk) : (fm9.t false (x, startI fm9)).2 ∈ rdec x kk := by
  have C := (cd_then cd_sel0 (cd_then (cd_num .cond 1 12 4 (by decide) (by decide) (by decide)) (cd_then (cd_num .rm 1 16 5 (by decide) (by decide) (by decide)) (cd_then (cd_num .rn 1 5 5 (by decide) (by decide) (by decide)) (cd_num .rd 1 0 5 (by decide) (by decide) (by decide))))))
  have e := congrArg Prod.snd (C.take x (startI fm9) hW)
  refine (show (fm9.t false (x, startI fm9)).2 = _ from e) ▸ ?_
  exact at_mem 9 rfl (Ins.ext16 (rfl) (two_eq x) (Int.mul_one _) (Int.mul_one _) (Int.mul_one _) (rfl) (rfl) (rfl) (rfl) (rfl) (Int.mul_one _) (rfl) (rfl) (rfl) (rfl) (rfl))
set_option maxRecDepth 4000 in
theorem me10 (x kk : Int) (hW : W32 x) (hK : partI x 12 1 * 3 = kk) : (fm10.t false (x, startI fm10)).2 ∈ rdec x kk := by
  have C := (cd_then (cd_num .sub 1 31 1 (by decide) (by decide) (by decide)) (cd_then cd_adr0 (cd_num .rd 1 0 5 (by decide) (by decide) (by decide))))
  have e := congrArg Prod.snd (C.take x (startI fm10) hW)
  refine (show (fm10.t false (x, startI fm10)).2 = _ from e) ▸ ?_
  have hb : fld x.toNat 31 1 < 2 := fld_lt _ 31 1
  rcases (by omega : fld x.toNat 31 1 = 0 ∨ fld x.toNat 31 1 = 1) with h | h
  · exact at_mem 10 rfl (Ins.ext16 (rfl) (show ((fld x.toNat 31 1 : Nat) : Int) * 1 = 0 by rw [h]; rfl) (Int.mul_one _) (rfl) (rfl) (rfl) (show sgI (adrF x.toNat) 21 * adrU _ = _ by rw [(show adrU _ = 1 from by show (bif (((fld x.toNat 31 1 : Nat) : Int) * 1) == 1 then (4096 : Int) else 1) = 1; rw [h]; rfl), adr_eq]; exact Int.mul_one _) (rfl) (rfl) (rfl) (rfl) (rfl) (rfl) (rfl) (rfl) (rfl))
  · exact at_mem 11 rfl (Ins.ext16 (rfl) (show ((fld x.toNat 31 1 : Nat) : Int) * 1 = 1 by rw [h]; rfl) (Int.mul_one _) (rfl) (rfl) (rfl) (show sgI (adrF x.toNat) 21 * adrU _ = _ by rw [(show adrU _ = 4096 from by show (bif (((fld x.toNat 31 1 : Nat) : Int) * 1) == 1 then (4096 : Int) else 1) = 4096; rw [h]; rfl), adr_eq]; exact Int.mul_comm _ _) (rfl) (rfl) (rfl) (rfl) (rfl) (rfl) (rfl) (rfl) (rfl))
set_option maxRecDepth 4000 in
theorem me11 (x kk : Int) (hW : W32 x) (hK : partI x 12 1 * 3 = kk) : (fm11.t false (x, startI fm11)).2 ∈ rdec x kk := by
  have C := (cd_then (cd_sgn .link 31 (by decide)) (cd_words 0 26 (by decide) (by decide)))
  have e := congrArg Prod.snd (C.take x (startI fm11) hW)
  refine (show (fm11.t false (x, startI fm11)).2 = _ from e) ▸ ?_
  exact at_mem 12 rfl (Ins.ext16 (rfl) (rfl) (rfl) (rfl) (rfl) (rfl) (sig_eq x 0 26) (rfl) (rfl) (rfl) (rfl) (rfl) (rfl) (rfl) (rfl) (rfl))
set_option maxRecDepth 4000 in
theorem me12 (x kk : Int) (hW : W32 x) (hK : partI x 12 1 * 3 = kk) : (fm12.t false (x, startI fm12)).2 ∈ rdec x kk := by
  have C := (cd_then (cd_words 5 19 (by decide) (by decide)) (cd_num .cond 1 0 4 (by decide) (by decide) (by decide)))
  have e := congrArg Prod.snd (C.take x (startI fm12) hW)
  refine (show (fm12.t false (x, startI fm12)).2 = _ from e) ▸ ?_
  exact at_mem 13 rfl (Ins.ext16 (rfl) (rfl) (rfl) (rfl) (rfl) (rfl) (sig_eq x 5 19) (rfl) (rfl) (rfl) (Int.mul_one _) (rfl) (rfl) (rfl) (rfl) (rfl))
set_option maxRecDepth 4000 in
theorem me13 (x kk : Int) (hW : W32 x) (hK : partI x 12 1 * 3 = kk) : (fm13.t false (x, startI fm13)).2 ∈ rdec x kk := by
  have C := (cd_then (cd_sgn .not 24 (by decide)) (cd_then (cd_words 5 19 (by decide) (by decide)) (cd_num .rd 1 0 5 (by decide) (by decide) (by decide))))
  have e := congrArg Prod.snd (C.take x (startI fm13) hW)
  refine (show (fm13.t false (x, startI fm13)).2 = _ from e) ▸ ?_
  exact at_mem 14 rfl (Ins.ext16 (rfl) (rfl) (Int.mul_one _) (rfl) (rfl) (rfl) (sig_eq x 5 19) (rfl) (rfl) (rfl) (rfl) (rfl) (rfl) (rfl) (rfl) (rfl))
set_option maxRecDepth 4000 in
theorem me14 (x kk : Int) (hW : W32 x) (hK : partI x 12 1 * 3 = kk) : (fm14.t false (x, startI fm14)).2 ∈ rdec x kk := by
  have C := (cd_then (cd_sgn .not 24 (by decide)) (cd_then cd_tbz0 (cd_then (cd_words 5 14 (by decide) (by decide)) (cd_num .rd 1 0 5 (by decide) (by decide) (by decide)))))
  have e := congrArg Prod.snd (C.take x (startI fm14) hW)
  refine (show (fm14.t false (x, startI fm14)).2 = _ from e) ▸ ?_
  exact at_mem 15 rfl (Ins.ext16 (rfl) (rfl) (Int.mul_one _) (rfl) (rfl) (rfl) (sig_eq x 5 14) (rfl) (tbz_eq x) (rfl) (rfl) (rfl) (rfl) (rfl) (rfl) (rfl))
set_option maxRecDepth 4000 in
theorem me15 (x kk : Int) (hW : W32 x) (hK : partI x 12 1 * 3 = kk) : (fm15.t false (x, startI fm15)).2 ∈ rdec x kk := by
  have C := (cd_then (cd_num .sub 1 21 2 (by decide) (by decide) (by decide)) (cd_num .rn 1 5 5 (by decide) (by decide) (by decide)))
  have e := congrArg Prod.snd (C.take x (startI fm15) hW)
  refine (show (fm15.t false (x, startI fm15)).2 = _ from e) ▸ ?_
  exact at_mem 16 rfl (Ins.ext16 (rfl) (Int.mul_one _) (rfl) (Int.mul_one _) (rfl) (rfl) (rfl) (rfl) (rfl) (rfl) (rfl) (rfl) (rfl) (rfl) (rfl) (rfl))
set_option maxRecDepth 4000 in
theorem me16 (x kk : Int) (hW : W32 x) (hK : partI x 12 1 * 3 = kk) : (fm16.t false (x, startI fm16)).2 ∈ rdec x kk := by
  have C := (cd_then (cd_num .imm 8 10 12 (by decide) (by decide) (by decide)) (cd_then (cd_num .rn 1 5 5 (by decide) (by decide) (by decide)) (cd_num .rd 1 0 5 (by decide) (by decide) (by decide))))
  have e := congrArg Prod.snd (C.take x (startI fm16) hW)
  refine (show (fm16.t false (x, startI fm16)).2 = _ from e) ▸ ?_
  exact at_mem 17 rfl (Ins.ext16 (rfl) (rfl) (Int.mul_one _) (Int.mul_one _) (rfl) (rfl) (Int.mul_comm _ _) (rfl) (rfl) (rfl) (rfl) (rfl) (rfl) (rfl) (rfl) (rfl))
set_option maxRecDepth 4000 in
theorem me17 (x kk : Int) (hW : W32 x) (hK : partI x 12 1 * 3 = kk) : (fm17.t false (x, startI fm17)).2 ∈ rdec x kk := by
  have C := (cd_then (cd_num .imm 8 10 12 (by decide) (by decide) (by decide)) (cd_then (cd_num .rn 1 5 5 (by decide) (by decide) (by decide)) (cd_num .rd 1 0 5 (by decide) (by decide) (by decide))))
  have e := congrArg Prod.snd (C.take x (startI fm17) hW)
  refine (show (fm17.t false (x, startI fm17)).2 = _ from e) ▸ ?_
  exact at_mem 18 rfl (Ins.ext16 (rfl) (rfl) (Int.mul_one _) (Int.mul_one _) (rfl) (rfl) (Int.mul_comm _ _) (rfl) (rfl) (rfl) (rfl) (rfl) (rfl) (rfl) (rfl) (rfl))
set_option maxRecDepth 4000 in
theorem me18 (x kk : Int) (hW : W32 x) (hK : partI x 12 1 * 3 = kk) : (fm18.t false (x, startI fm18)).2 ∈ rdec x kk := by
  have C := (cd_then (cd_num .amount 3 12 1 (by decide) (by decide) (by decide)) (cd_then (cd_num .rm 1 16 5 (by decide) (by decide) (by decide)) (cd_then (cd_num .rn 1 5 5 (by decide) (by decide) (by decide)) (cd_num .rd 1 0 5 (by decide) (by decide) (by decide)))))
  have e := congrArg Prod.snd (C.take x (startI fm18) hW)
  refine (show (fm18.t false (x, startI fm18)).2 = _ from e) ▸ ?_
  exact at_mem 19 rfl (Ins.ext16 (rfl) (rfl) (Int.mul_one _) (Int.mul_one _) (Int.mul_one _) (rfl) (rfl) (rfl) (hK) (rfl) (rfl) (rfl) (rfl) (rfl) (rfl) (rfl))
set_option maxRecDepth 4000 in
theorem me19 (x kk : Int) (hW : W32 x) (hK : partI x 12 1 * 3 = kk) : (fm19.t false (x, startI fm19)).2 ∈ rdec x kk := by
  have C := (cd_then (cd_num .amount 3 12 1 (by decide) (by decide) (by decide)) (cd_then (cd_num .rm 1 16 5 (by decide) (by decide) (by decide)) (cd_then (cd_num .rn 1 5 5 (by decide) (by decide) (by decide)) (cd_num .rd 1 0 5 (by decide) (by decide) (by decide)))))
  have e := congrArg Prod.snd (C.take x (startI fm19) hW)
  refine (show (fm19.t false (x, startI fm19)).2 = _ from e) ▸ ?_
  exact at_mem 20 rfl (Ins.ext16 (rfl) (rfl) (Int.mul_one _) (Int.mul_one _) (Int.mul_one _) (rfl) (rfl) (rfl) (hK) (rfl) (rfl) (rfl) (rfl) (rfl) (rfl) (rfl))
set_option maxRecDepth 4000 in
theorem me20 (x kk : Int) (hW : W32 x) (hK : partI x 12 1 * 3 = kk) : (fm20.t false (x, startI fm20)).2 ∈ rdec x kk := by
  have C := (cd_then (cd_num .rn 1 5 5 (by decide) (by decide) (by decide)) (cd_num .rd 1 0 5 (by decide) (by decide) (by decide)))
  have e := congrArg Prod.snd (C.take x (startI fm20) hW)
  refine (show (fm20.t false (x, startI fm20)).2 = _ from e) ▸ ?_
  exact at_mem 21 rfl (Ins.ext16 (rfl) (rfl) (Int.mul_one _) (Int.mul_one _) (rfl) (rfl) (rfl) (rfl) (rfl) (rfl) (rfl) (rfl) (rfl) (rfl) (rfl) (rfl))
set_option maxRecDepth 4000 in
theorem me21 (x kk : Int) (hW : W32 x) (hK : partI x 12 1 * 3 = kk) : (fm21.t false (x, startI fm21)).2 ∈ rdec x kk := by
  have C := (cd_then (cd_num .rn 1 5 5 (by decide) (by decide) (by decide)) (cd_num .rd 1 0 5 (by decide) (by decide) (by decide)))
  have e := congrArg Prod.snd (C.take x (startI fm21) hW)
  refine (show (fm21.t false (x, startI fm21)).2 = _ from e) ▸ ?_
  exact at_mem 22 rfl (Ins.ext16 (rfl) (rfl) (Int.mul_one _) (Int.mul_one _) (rfl) (rfl) (rfl) (rfl) (rfl) (rfl) (rfl) (rfl) (rfl) (rfl) (rfl) (rfl))
set_option maxRecDepth 4000 in
theorem me22 (x kk : Int) (hW : W32 x) (hK : partI x 12 1 * 3 = kk) : (fm22.t false (x, startI fm22)).2 ∈ rdec x kk := by
  have C := (cd_then (cd_num .rn 1 5 5 (by decide) (by decide) (by decide)) (cd_num .rd 1 0 5 (by decide) (by decide) (by decide)))
  have e := congrArg Prod.snd (C.take x (startI fm22) hW)
  refine (show (fm22.t false (x, startI fm22)).2 = _ from e) ▸ ?_
  exact at_mem 23 rfl (Ins.ext16 (rfl) (rfl) (Int.mul_one _) (Int.mul_one _) (rfl) (rfl) (rfl) (rfl) (rfl) (rfl) (rfl) (rfl) (rfl) (rfl) (rfl) (rfl))
set_option maxRecDepth 4000 in
theorem me23 (x kk : Int) (hW : W32 x) (hK : partI x 12 1 * 3 = kk) : (fm23.t false (x, startI fm23)).2 ∈ rdec x kk := by
  have C := (cd_then (cd_num .sub 1 15 1 (by decide) (by decide) (by decide)) (cd_then (cd_num .rn 1 5 5 (by decide) (by decide) (by decide)) (cd_num .rd 1 0 5 (by decide) (by decide) (by decide))))
  have e := congrArg Prod.snd (C.take x (startI fm23) hW)
  refine (show (fm23.t false (x, startI fm23)).2 = _ from e) ▸ ?_
  exact at_mem 24 rfl (Ins.ext16 (rfl) (Int.mul_one _) (Int.mul_one _) (Int.mul_one _) (rfl) (rfl) (rfl) (rfl) (rfl) (rfl) (rfl) (rfl) (rfl) (rfl) (rfl) (rfl))
set_option maxRecDepth 4000 in
theorem me24 (x kk : Int) (hW : W32 x) (hK : partI x 12 1 * 3 = kk) : (fm24.t false (x, startI fm24)).2 ∈ rdec x kk := by
  have C := (cd_then (cd_num .sub 1 15 1 (by decide) (by decide) (by decide)) (cd_then (cd_num .rm 1 16 5 (by decide) (by decide) (by decide)) (cd_then (cd_num .rn 1 5 5 (by decide) (by decide) (by decide)) (cd_num .rd 1 0 5 (by decide) (by decide) (by decide)))))
  have e := congrArg Prod.snd (C.take x (startI fm24) hW)
  refine (show (fm24.t false (x, startI fm24)).2 = _ from e) ▸ ?_
  exact at_mem 25 rfl (Ins.ext16 (rfl) (Int.mul_one _) (Int.mul_one _) (Int.mul_one _) (Int.mul_one _) (rfl) (rfl) (rfl) (rfl) (rfl) (rfl) (rfl) (rfl) (rfl) (rfl) (rfl))
set_option maxRecDepth 4000 in
theorem me25 (x kk : Int) (hW : W32 x) (hK : partI x 12 1 * 3 = kk) : (fm25.t false (x, startI fm25)).2 ∈ rdec x kk := by
  have C := cd_nothing
  have e := congrArg Prod.snd (C.take x (startI fm25) hW)
  refine (show (fm25.t false (x, startI fm25)).2 = _ from e) ▸ ?_
  exact at_mem 26 rfl (Ins.ext16 (rfl) (rfl) (rfl) (rfl) (rfl) (rfl) (rfl) (rfl) (rfl) (rfl) (rfl) (rfl) (rfl) (rfl) (rfl) (rfl))
set_option maxRecDepth 4000 in
theorem me26 (x kk : Int) (hW : W32 x) (hK : partI x 12 1 * 3 = kk) : (fm26.t false (x, startI fm26)).2 ∈ rdec x kk := by
  have C := (cd_num .imm 1 8 2 (by decide) (by decide) (by decide))
  have e := congrArg Prod.snd (C.take x (startI fm26) hW)
  refine (show (fm26.t false (x, startI fm26)).2 = _ from e) ▸ ?_
  exact at_mem 27 rfl (Ins.ext16 (rfl) (rfl) (rfl) (rfl) (rfl) (rfl) (Int.mul_one _) (rfl) (rfl) (rfl) (rfl) (rfl) (rfl) (rfl) (rfl) (rfl))
set_option maxRecDepth 4000 in
theorem me27 (x kk : Int) (hW : W32 x) (hK : partI x 12 1 * 3 = kk) : (fm27.t false (x, startI fm27)).2 ∈ rdec x kk := by
  have C := (cd_num .imm 1 8 2 (by decide) (by decide) (by decide))
  have e := congrArg Prod.snd (C.take x (startI fm27) hW)
  refine (show (fm27.t false (x, startI fm27)).2 = _ from e) ▸ ?_
  exact at_mem 28 rfl (Ins.ext16 (rfl) (rfl) (rfl) (rfl) (rfl) (rfl) (Int.mul_one _) (rfl) (rfl) (rfl) (rfl) (rfl) (rfl) (rfl) (rfl) (rfl))
set_option maxRecDepth 4000 in
theorem me28 (x kk : Int) (hW : W32 x) (hK : partI x 12 1 * 3 = kk) : (fm28.t false (x, startI fm28)).2 ∈ rdec x kk := by
  have C := cd_nothing
  have e := congrArg Prod.snd (C.take x (startI fm28) hW)
  refine (show (fm28.t false (x, startI fm28)).2 = _ from e) ▸ ?_
  exact at_mem 29 rfl (Ins.ext16 (rfl) (rfl) (rfl) (rfl) (rfl) (rfl) (rfl) (rfl) (rfl) (rfl) (rfl) (rfl) (rfl) (rfl) (rfl) (rfl))
set_option maxRecDepth 4000 in
theorem me29 (x kk : Int) (hW : W32 x) (hK : partI x 12 1 * 3 = kk) : (fm29.t false (x, startI fm29)).2 ∈ rdec x kk := by
  have C := (cd_num .rd 1 0 5 (by decide) (by decide) (by decide))
  have e := congrArg Prod.snd (C.take x (startI fm29) hW)
  refine (show (fm29.t false (x, startI fm29)).2 = _ from e) ▸ ?_
  exact at_mem 30 rfl (Ins.ext16 (rfl) (rfl) (Int.mul_one _) (rfl) (rfl) (rfl) (rfl) (rfl) (rfl) (rfl) (rfl) (rfl) (rfl) (rfl) (rfl) (rfl))
set_option maxRecDepth 4000 in
theorem me30 (x kk : Int) (hW : W32 x) (hK : partI x 12 1 * 3 = kk) : (fm30.t false (x, startI fm30)).2 ∈ rdec x kk := by
  have C := (cd_num .rd 1 0 5 (by decide) (by decide) (by decide))
  have e := congrArg Prod.snd (C.take x (startI fm30) hW)
  refine (show (fm30.t false (x, startI fm30)).2 = _ from e) ▸ ?_
  exact at_mem 31 rfl (Ins.ext16 (rfl) (rfl) (Int.mul_one _) (rfl) (rfl) (rfl) (rfl) (rfl) (rfl) (rfl) (rfl) (rfl) (rfl) (rfl) (rfl) (rfl))
set_option maxRecDepth 4000 in
theorem me31 (x kk : Int) (hW : W32 x) (hK : partI x 12 1 * 3 = kk) : (fm31.t false (x, startI fm31)).2 ∈ rdec x kk := by
  have C := cd_nothing
  have e := congrArg Prod.snd (C.take x (startI fm31) hW)
  refine (show (fm31.t false (x, startI fm31)).2 = _ from e) ▸ ?_
  exact at_mem 32 rfl (Ins.ext16 (rfl) (rfl) (rfl) (rfl) (rfl) (rfl) (rfl) (rfl) (rfl) (rfl) (rfl) (rfl) (rfl) (rfl) (rfl) (rfl))
set_option maxRecDepth 4000 in
theorem me32 (x kk : Int) (hW : W32 x) (hK : partI x 12 1 * 3 = kk) : (fm32.t false (x, startI fm32)).2 ∈ rdec x kk := by
  have C := (cd_then (cd_num .sys 1 5 15 (by decide) (by decide) (by decide)) (cd_num .rd 1 0 5 (by decide) (by decide) (by decide)))
  have e := congrArg Prod.snd (C.take x (startI fm32) hW)
  refine (show (fm32.t false (x, startI fm32)).2 = _ from e) ▸ ?_
  exact at_mem 33 rfl (Ins.ext16 (rfl) (rfl) (Int.mul_one _) (rfl) (rfl) (rfl) (rfl) (rfl) (rfl) (rfl) (rfl) (Int.mul_one _) (rfl) (rfl) (rfl) (rfl))
set_option maxRecDepth 4000 in
theorem me33 (x kk : Int) (hW : W32 x) (hK : partI x 12 1 * 3 = kk) : (fm33.t false (x, startI fm33)).2 ∈ rdec x kk := by
  have C := (cd_then (cd_num .sys 1 5 15 (by decide) (by decide) (by decide)) (cd_num .rd 1 0 5 (by decide) (by decide) (by decide)))
  have e := congrArg Prod.snd (C.take x (startI fm33) hW)
  refine (show (fm33.t false (x, startI fm33)).2 = _ from e) ▸ ?_
  exact at_mem 34 rfl (Ins.ext16 (rfl) (rfl) (Int.mul_one _) (rfl) (rfl) (rfl) (rfl) (rfl) (rfl) (rfl) (rfl) (Int.mul_one _) (rfl) (rfl) (rfl) (rfl))
set_option maxRecDepth 4000 in
theorem me34 (x kk : Int) (hW : W32 x) (hK : partI x 12 1 * 3 = kk) : (fm34.t false (x, startI fm34)).2 ∈ rdec x kk := by
  have C := (cd_num .imm 1 8 4 (by decide) (by decide) (by decide))
  have e := congrArg Prod.snd (C.take x (startI fm34) hW)
  refine (show (fm34.t false (x, startI fm34)).2 = _ from e) ▸ ?_
  exact at_mem 35 rfl (Ins.ext16 (rfl) (rfl) (rfl) (rfl) (rfl) (rfl) (Int.mul_one _) (rfl) (rfl) (rfl) (rfl) (rfl) (rfl) (rfl) (rfl) (rfl))
set_option maxRecDepth 4000 in
theorem me35 (x kk : Int) (hW : W32 x) (hK : partI x 12 1 * 3 = kk) : (fm35.t false (x, startI fm35)).2 ∈ rdec x kk := by
  have C := (cd_num .imm 1 8 4 (by decide) (by decide) (by decide))
  have e := congrArg Prod.snd (C.take x (startI fm35) hW)
  refine (show (fm35.t false (x, startI fm35)).2 = _ from e) ▸ ?_
  exact at_mem 36 rfl (Ins.ext16 (rfl) (rfl) (rfl) (rfl) (rfl) (rfl) (Int.mul_one _) (rfl) (rfl) (rfl) (rfl) (rfl) (rfl) (rfl) (rfl) (rfl))
set_option maxRecDepth 4000 in
theorem me36 (x kk : Int) (hW : W32 x) (hK : partI x 12 1 * 3 = kk) : (fm36.t false (x, startI fm36)).2 ∈ rdec x kk := by
  have C := (cd_num .imm 1 5 16 (by decide) (by decide) (by decide))
  have e := congrArg Prod.snd (C.take x (startI fm36) hW)
  refine (show (fm36.t false (x, startI fm36)).2 = _ from e) ▸ ?_
  exact at_mem 37 rfl (Ins.ext16 (rfl) (rfl) (rfl) (rfl) (rfl) (rfl) (Int.mul_one _) (rfl) (rfl) (rfl) (rfl) (rfl) (rfl) (rfl) (rfl) (rfl))
set_option maxRecDepth 4000 in
theorem me37 (x kk : Int) (hW : W32 x) (hK : partI x 12 1 * 3 = kk) : (fm37.t false (x, startI fm37)).2 ∈ rdec x kk := by
  have C := (cd_num .imm 1 5 16 (by decide) (by decide) (by decide))
  have e := congrArg Prod.snd (C.take x (startI fm37) hW)
  refine (show (fm37.t false (x, startI fm37)).2 = _ from e) ▸ ?_
  exact at_mem 38 rfl (Ins.ext16 (rfl) (rfl) (rfl) (rfl) (rfl) (rfl) (Int.mul_one _) (rfl) (rfl) (rfl) (rfl) (rfl) (rfl) (rfl) (rfl) (rfl))
set_option maxRecDepth 4000 in
theorem me38 (x kk : Int) (hW : W32 x) (hK : partI x 12 1 * 3 = kk) : (fm38.t false (x, startI fm38)).2 ∈ rdec x kk := by
  have C := cd_nothing
  have e := congrArg Prod.snd (C.take x (startI fm38) hW)
  refine (show (fm38.t false (x, startI fm38)).2 = _ from e) ▸ ?_
  exact at_mem 39 rfl (Ins.ext16 (rfl) (rfl) (rfl) (rfl) (rfl) (rfl) (rfl) (rfl) (rfl) (rfl) (rfl) (rfl) (rfl) (rfl) (rfl) (rfl))
set_option maxRecDepth 4000 in
theorem me39 (x kk : Int) (hW : W32 x) (hK : partI x 12 1 * 3 = kk) : (fm39.t false (x, startI fm39)).2 ∈ rdec x kk := by
  have C := (cd_num .imm 1 5 3 (by decide) (by decide) (by decide))
  have e := congrArg Prod.snd (C.take x (startI fm39) hW)
  refine (show (fm39.t false (x, startI fm39)).2 = _ from e) ▸ ?_
  exact at_mem 40 rfl (Ins.ext16 (rfl) (rfl) (rfl) (rfl) (rfl) (rfl) (Int.mul_one _) (rfl) (rfl) (rfl) (rfl) (rfl) (rfl) (rfl) (rfl) (rfl))
theorem dec_mem (x kk : Int) (hW : W32 x) (hK : partI x 12 1 * 3 = kk) (hn : decV x ≠ nilI) : decV x ∈ rdec x kk := by
  rcases decL_some (word := x) forms with h | ⟨F, hF, _, _, h⟩
  · exact absurd h hn
  · rw [show decV x = (F.t false (x, startI F)).2 from h]
    simp only [forms, formsA, formsB, List.cons_append, List.nil_append, List.mem_cons, List.not_mem_nil, or_false] at hF
    rcases hF with rfl | rfl | rfl | rfl | rfl | rfl | rfl | rfl | rfl | rfl | rfl | rfl | rfl | rfl | rfl | rfl | rfl | rfl | rfl | rfl | rfl | rfl | rfl | rfl | rfl | rfl | rfl | rfl | rfl | rfl | rfl | rfl | rfl | rfl | rfl | rfl | rfl | rfl | rfl | rfl
    · exact me0 x kk hW hK
    · exact me1 x kk hW hK
    · exact me2 x kk hW hK
    · exact me3 x kk hW hK
    · exact me4 x kk hW hK
    · exact me5 x kk hW hK
    · exact me6 x kk hW hK
    · exact me7 x kk hW hK
    · exact me8 x kk hW hK
    · exact me9 x kk hW hK
    · exact me10 x kk hW hK
    · exact me11 x kk hW hK
    · exact me12 x kk hW hK
    · exact me13 x kk hW hK
    · exact me14 x kk hW hK
    · exact me15 x kk hW hK
    · exact me16 x kk hW hK
    · exact me17 x kk hW hK
    · exact me18 x kk hW hK
    · exact me19 x kk hW hK
    · exact me20 x kk hW hK
    · exact me21 x kk hW hK
    · exact me22 x kk hW hK
    · exact me23 x kk hW hK
    · exact me24 x kk hW hK
    · exact me25 x kk hW hK
    · exact me26 x kk hW hK
    · exact me27 x kk hW hK
    · exact me28 x kk hW hK
    · exact me29 x kk hW hK
    · exact me30 x kk hW hK
    · exact me31 x kk hW hK
    · exact me32 x kk hW hK
    · exact me33 x kk hW hK
    · exact me34 x kk hW hK
    · exact me35 x kk hW hK
    · exact me36 x kk hW hK
    · exact me37 x kk hW hK
    · exact me38 x kk hW hK
    · exact me39 x kk hW hK
theorem part_bit (x : Int) : partI x 12 1 = 0 ∨ partI x 12 1 = 1 := by
  have : 0 ≤ partI x 12 1 ∧ partI x 12 1 < 2 := partI_in x 12 1
  omega
theorem rdecode_c (x : Int) (hW : W32 x) (w : World) :
    Calls Try.prog 10 #[.int .u32 x] w fun e w' => e = .returned (decV x).val ∧ Below w.heap.size w w' := by
  have hx : Hid (0 ≤ x ∧ x < 4294967296) := ⟨hW.1, by have := hW.2; omega⟩
  rcases part_bit x with h | h
  · have := rdecode_0 x hx (by rw [h]; rfl) w
    rwa [rfind_of hW _ (dec_mem x 0 hW (by rw [h]; rfl))] at this
  · have := rdecode_3 x hx (by rw [h]; rfl) w
    rwa [rfind_of hW _ (dec_mem x 3 hW (by rw [h]; rfl))] at this
end Go.Proofs.Ytcmilajlngnibaa
