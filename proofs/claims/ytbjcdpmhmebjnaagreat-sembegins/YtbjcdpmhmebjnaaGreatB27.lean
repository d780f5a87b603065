/- What Decode answers is among what the document's own Decode tries, and so its answer: plain. -/
import Derived.Test.YtbjcdpmhmebjnaaGreatB26
import Derived.Test.YtbjcdpmhmebjnaaGreatB14
import Derived.Test.YtbjcdpmhmebjnaaGreatB15
import Derived.Test.YtbjcdpmhmebjnaaGreatB11
namespace Go.Proofs.YtbjcdpmhmebjnaaGreat
open Go.RowKit
set_option linter.unusedVariables false

theorem rfind_of {x : Int} (hx : W32 x) : ∀ L : List Ins, (decV x ≠ nilI → decV x ∈ L) → rfind x L = decV x
  | [], h => by
    show nilI = decV x
    by_cases e : decV x = nilI
    · exact e.symm
    · exact absurd (h e) (by simp)
  | i :: l, h => by
    show (bif rightB i && (encV i).1 == x then i else rfind x l) = decV x
    cases hc : (rightB i && (encV i).1 == x)
    · refine rfind_of hx l fun hn => ?_
      rcases List.mem_cons.1 (h hn) with e | e
      · exfalso
        rcases enc_dec hx with h2 | ⟨_, h2⟩
        · exact hn h2
        · rw [e] at h2
          have hr : rightB i = true := by
            cases hr : rightB i
            · rw [enc_no hr] at h2; cases h2
            · rfl
          rw [hr, h2] at hc
          simp at hc
      · exact e
    · rw [Bool.and_eq_true, beq_iff_eq] at hc
      show i = decV x
      rcases dec_enc i with e | ⟨_, _, e⟩
      · have := enc_ok hc.1
        rw [e] at this; cases this
      · rw [hc.2] at e; exact e.symm
theorem sgE_eq (n m : Nat) : sgE ((n : Nat) : Int) m = sgI n m := by
  unfold sgE sgI
  by_cases h : n < 2 ^ (m - 1)
  · rw [if_pos (Int.ofNat_lt.2 h), if_pos h]
  · rw [if_neg (fun e => h (Int.ofNat_lt.1 e)), if_neg h]
    simp
theorem sig_eq (x : Int) (a m : Nat) : sgI (fld x.toNat a m) m * 4 = 4 * sigI x a m := by
  rw [show sigI x a m = sgE ((fld x.toNat a m : Nat) : Int) m from rfl, sgE_eq, Int.mul_comm]
theorem two_eq (x : Int) : ((twoG x.toNat 30 10 1 : Nat) : Int) = 2 * partI x 30 1 + partI x 10 1 := by
  show ((fld x.toNat 30 1 * 2 + fld x.toNat 10 1 : Nat) : Int) = 2 * ((fld x.toNat 30 1 : Nat) : Int) + ((fld x.toNat 10 1 : Nat) : Int)
  omega
theorem tbz_eq (x : Int) : ((twoG x.toNat 31 19 5 : Nat) : Int) = 32 * partI x 31 1 + partI x 19 5 := by
  show ((fld x.toNat 31 1 * 32 + fld x.toNat 19 5 : Nat) : Int) = 32 * ((fld x.toNat 31 1 : Nat) : Int) + ((fld x.toNat 19 5 : Nat) : Int)
  omega
theorem adr_eq (x : Int) : sgI (adrF x.toNat) 21 = 4 * sigI x 5 19 + partI x 29 2 := by
  rw [show sigI x 5 19 = sgE ((fld x.toNat 5 19 : Nat) : Int) 19 from rfl, sgE_eq]
  show _ = 4 * sgI (fld x.toNat 5 19) 19 + ((fld x.toNat 29 2 : Nat) : Int)
  have h1 : fld x.toNat 29 2 < 4 := fld_lt _ 29 2
  have h2 : fld x.toNat 5 19 < 524288 := fld_lt _ 5 19
  unfold sgI adrF
  rw [show (2 : Nat) ^ (21 - 1) = 1048576 from rfl, show (2 : Nat) ^ (19 - 1) = 262144 from rfl, show (2 : Int) ^ 21 = 2097152 from rfl, show (2 : Int) ^ 19 = 524288 from rfl]
  generalize fld x.toNat 29 2 = p at *
  generalize fld x.toNat 5 19 = q at *
  by_cases h : q < 262144
  · rw [if_pos (by omega), if_pos h]; omega
  · rw [if_neg (by omega), if_neg h]; omega
theorem at_mem {L : List Ins} {i j : Ins} (k : Nat) (h : L[k]? = some j) (e : i = j) : i ∈ L := by
  rw [e]; exact List.mem_of_getElem? h
set_option maxRecDepth 4000 in
theorem me0 (x kk : Int) (hW : W32 x) (hK : partI x 12 1 * 3 = kk) : (fm0.t false (x, startI fm0)).2 ∈ rdec x kk := by
  have C := (cd_then (cd_then (cd_sgn .minus 30 (by decide)) (cd_sgn .flags 29 (by decide))) (cd_then (cd_num .amount 12 22 1 (by decide) (by decide) (by decide)) (cd_then (cd_num .imm 1 10 12 (by decide) (by decide) (by decide)) (cd_then (cd_num .rn 1 5 5 (by decide) (by decide) (by decide)) (cd_num .rd 1 0 5 (by decide) (by decide) (by decide))))))
  have e := congrArg Prod.snd (C.take x (startI fm0) hW)
  refine (show (fm0.t false (x, startI fm0)).2 = _ from e) ▸ ?_
  exact at_mem 0 rfl (Ins.ext16 (rfl) (rfl) (Int.mul_one _) (Int.mul_one _) (rfl) (rfl) (Int.mul_one _) (rfl) (Int.mul_comm _ _) (rfl) (rfl) (rfl) (rfl) (rfl) (rfl) (rfl))
set_option maxRecDepth 4000 in
theorem me1 (x kk : Int) (hW : W32 x) (hK : partI x 12 1 * 3 = kk) : (fm1.t false (x, startI fm1)).2 ∈ rdec x kk := by
  have C := (cd_then (cd_then (cd_sgn .minus 30 (by decide)) (cd_sgn .flags 29 (by decide))) (cd_then (cd_num .shift 1 22 2 (by decide) (by decide) (by decide)) (cd_then (cd_num .amount 1 10 6 (by decide) (by decide) (by decide)) (cd_then (cd_num .rm 1 16 5 (by decide) (by decide) (by decide)) (cd_then (cd_num .rn 1 5 5 (by decide) (by decide) (by decide)) (cd_num .rd 1 0 5 (by decide) (by decide) (by decide)))))))
  have e := congrArg Prod.snd (C.take x (startI fm1) hW)
  refine (show (fm1.t false (x, startI fm1)).2 = _ from e) ▸ ?_
  exact at_mem 1 rfl (Ins.ext16 (rfl) (rfl) (Int.mul_one _) (Int.mul_one _) (Int.mul_one _) (rfl) (rfl) (rfl) (Int.mul_one _) (Int.mul_one _) (rfl) (rfl) (rfl) (rfl) (rfl) (rfl))
set_option maxRecDepth 4000 in
theorem me2 (x kk : Int) (hW : W32 x) (hK : partI x 12 1 * 3 = kk) : (fm2.t false (x, startI fm2)).2 ∈ rdec x kk := by
  have C := (cd_then cd_logic (cd_then (cd_sgn .not 21 (by decide)) (cd_then (cd_num .shift 1 22 2 (by decide) (by decide) (by decide)) (cd_then (cd_num .amount 1 10 6 (by decide) (by decide) (by decide)) (cd_then (cd_num .rm 1 16 5 (by decide) (by decide) (by decide)) (cd_then (cd_num .rn 1 5 5 (by decide) (by decide) (by decide)) (cd_num .rd 1 0 5 (by decide) (by decide) (by decide))))))))
  have e := congrArg Prod.snd (C.take x (startI fm2) hW)
  refine (show (fm2.t false (x, startI fm2)).2 = _ from e) ▸ ?_
  exact at_mem 2 rfl (Ins.ext16 (rfl) (rfl) (Int.mul_one _) (Int.mul_one _) (Int.mul_one _) (rfl) (rfl) (rfl) (Int.mul_one _) (Int.mul_one _) (rfl) (rfl) (rfl) (rfl) (rfl) (rfl))
set_option maxRecDepth 4000 in
theorem me3 (x kk : Int) (hW : W32 x) (hK : partI x 12 1 * 3 = kk) : (fm3.t false (x, startI fm3)).2 ∈ rdec x kk := by
  have C := (cd_then cd_logic (cd_then (cd_num .amount 1 22 1 (by decide) (by decide) (by decide)) (cd_then (cd_num .imm 1 16 6 (by decide) (by decide) (by decide)) (cd_then (cd_num .imm2 1 10 6 (by decide) (by decide) (by decide)) (cd_then (cd_num .rn 1 5 5 (by decide) (by decide) (by decide)) (cd_num .rd 1 0 5 (by decide) (by decide) (by decide)))))))
  have e := congrArg Prod.snd (C.take x (startI fm3) hW)
  refine (show (fm3.t false (x, startI fm3)).2 = _ from e) ▸ ?_
  exact at_mem 3 rfl (Ins.ext16 (rfl) (rfl) (Int.mul_one _) (Int.mul_one _) (rfl) (rfl) (Int.mul_one _) (Int.mul_one _) (Int.mul_one _) (rfl) (rfl) (rfl) (rfl) (rfl) (rfl) (rfl))
set_option maxRecDepth 4000 in
theorem me4 (x kk : Int) (hW : W32 x) (hK : partI x 12 1 * 3 = kk) : (fm4.t false (x, startI fm4)).2 ∈ rdec x kk := by
  have C := (cd_then (cd_num .sub 1 29 2 (by decide) (by decide) (by decide)) (cd_then (cd_num .amount 16 21 2 (by decide) (by decide) (by decide)) (cd_then (cd_num .imm 1 5 16 (by decide) (by decide) (by decide)) (cd_num .rd 1 0 5 (by decide) (by decide) (by decide)))))
  have e := congrArg Prod.snd (C.take x (startI fm4) hW)
  refine (show (fm4.t false (x, startI fm4)).2 = _ from e) ▸ ?_
  exact at_mem 4 rfl (Ins.ext16 (rfl) (Int.mul_one _) (Int.mul_one _) (rfl) (rfl) (rfl) (Int.mul_one _) (rfl) (Int.mul_comm _ _) (rfl) (rfl) (rfl) (rfl) (rfl) (rfl) (rfl))
set_option maxRecDepth 4000 in
theorem me5 (x kk : Int) (hW : W32 x) (hK : partI x 12 1 * 3 = kk) : (fm5.t false (x, startI fm5)).2 ∈ rdec x kk := by
  have C := (cd_then (cd_num .sub 1 29 2 (by decide) (by decide) (by decide)) (cd_then (cd_num .imm 1 16 6 (by decide) (by decide) (by decide)) (cd_then (cd_num .imm2 1 10 6 (by decide) (by decide) (by decide)) (cd_then (cd_num .rn 1 5 5 (by decide) (by decide) (by decide)) (cd_num .rd 1 0 5 (by decide) (by decide) (by decide))))))
  have e := congrArg Prod.snd (C.take x (startI fm5) hW)
  refine (show (fm5.t false (x, startI fm5)).2 = _ from e) ▸ ?_
  exact at_mem 5 rfl (Ins.ext16 (rfl) (Int.mul_one _) (Int.mul_one _) (Int.mul_one _) (rfl) (rfl) (Int.mul_one _) (Int.mul_one _) (rfl) (rfl) (rfl) (rfl) (rfl) (rfl) (rfl) (rfl))
set_option maxRecDepth 4000 in
theorem me6 (x kk : Int) (hW : W32 x) (hK : partI x 12 1 * 3 = kk) : (fm6.t false (x, startI fm6)).2 ∈ rdec x kk := by
  have C := (cd_then (cd_num .sub 1 10 2 (by decide) (by decide) (by decide)) (cd_then (cd_num .rm 1 16 5 (by decide) (by decide) (by decide)) (cd_then (cd_num .rn 1 5 5 (by decide) (by decide) (by decide)) (cd_num .rd 1 0 5 (by decide) (by decide) (by decide)))))
  have e := congrArg Prod.snd (C.take x (startI fm6) hW)
  refine (show (fm6.t false (x, startI fm6)).2 = _ from e) ▸ ?_
  exact at_mem 6 rfl (Ins.ext16 (rfl) (Int.mul_one _) (Int.mul_one _) (Int.mul_one _) (Int.mul_one _) (rfl) (rfl) (rfl) (rfl) (rfl) (rfl) (rfl) (rfl) (rfl) (rfl) (rfl))
set_option maxRecDepth 4000 in
theorem me7 (x kk : Int) (hW : W32 x) (hK : partI x 12 1 * 3 = kk) : (fm7.t false (x, startI fm7)).2 ∈ rdec x kk := by
  have C := (cd_then (cd_sgn .minus 15 (by decide)) (cd_then (cd_num .ra 1 10 5 (by decide) (by decide) (by decide)) (cd_then (cd_num .rm 1 16 5 (by decide) (by decide) (by decide)) (cd_then (cd_num .rn 1 5 5 (by decide) (by decide) (by decide)) (cd_num .rd 1 0 5 (by decide) (by decide) (by decide))))))
  have e := congrArg Prod.snd (C.take x (startI fm7) hW)
  refine (show (fm7.t false (x, startI fm7)).2 = _ from e) ▸ ?_
  exact at_mem 7 rfl (Ins.ext16 (rfl) (rfl) (Int.mul_one _) (Int.mul_one _) (Int.mul_one _) (Int.mul_one _) (rfl) (rfl) (rfl) (rfl) (rfl) (rfl) (rfl) (rfl) (rfl) (rfl))
set_option maxRecDepth 4000 in
theorem me8 (x kk : Int) (hW : W32 x) (hK : partI x 12 1 * 3 = kk) : (fm8.t false (x, startI fm8)).2 ∈ rdec x kk := by
  have C := (cd_then (cd_num .sub 1 10 1 (by decide) (by decide) (by decide)) (cd_then (cd_num .rm 1 16 5 (by decide) (by decide) (by decide)) (cd_then (cd_num .rn 1 5 5 (by decide) (by decide) (by decide)) (cd_num .rd 1 0 5 (by decide) (by decide) (by decide)))))
  have e := congrArg Prod.snd (C.take x (startI fm8) hW)
  refine (show (fm8.t false (x, startI fm8)).2 = _ from e) ▸ ?_
  exact at_mem 8 rfl (Ins.ext16 (rfl) (Int.mul_one _) (Int.mul_one _) (Int.mul_one _) (Int.mul_one _) (rfl) (rfl) (rfl) (rfl) (rfl) (rfl) (rfl) (rfl) (rfl) (rfl) (rfl))
set_option maxRecDepth 4000 in
theorem me9 (x kk : Int) (hW : W32 x) (hK : partI x 12 1 * 3 = kk) : (fm9.t false (x, startI fm9)).2 ∈ rdec x kk := by
  have C := (cd_then cd_sel0 (cd_then (cd_num .cond 1 12 4 (by decide) (by decide) (by decide)) (cd_then (cd_num .rm 1 16 5 (by decide) (by decide) (by decide)) (cd_then (cd_num .rn 1 5 5 (by decide) (by decide) (by decide)) (cd_num .rd 1 0 5 (by decide) (by decide) (by decide))))))
  have e := congrArg Prod.snd (C.take x (startI fm9) hW)
  refine (show (fm9.t false (x, startI fm9)).2 = _ from e) ▸ ?_
  exact at_mem 9 rfl (Ins.ext16 (rfl) (two_eq x) (Int.mul_one _) (Int.mul_one _) (Int.mul_one _) (rfl) (rfl) (rfl) (rfl) (rfl) (Int.mul_one _) (rfl) (rfl) (rfl) (rfl) (rfl))
set_option maxRecDepth 4000 in
theorem me10 (x kk : Int) (hW : W32 x) (hK : partI x 12 1 * 3 = kk) : (fm10.t false (x, startI fm10)).2 ∈ rdec x kk := by
  have C := (cd_then (cd_num .sub 1 31 1 (by decide) (by decide) (by decide)) (cd_then cd_adr0 (cd_num .rd 1 0 5 (by decide) (by decide) (by decide))))
  have e := congrArg Prod.snd (C.take x (startI fm10) hW)
  refine (show (fm10.t false (x, startI fm10)).2 = _ from e) ▸ ?_
  have hb : fld x.toNat 31 1 < 2 := fld_lt _ 31 1
  rcases (by omega : fld x.toNat 31 1 = 0 ∨ fld x.toNat 31 1 = 1) with h | h
  · exact at_mem 10 rfl (Ins.ext16 (rfl) (show ((fld x.toNat 31 1 : Nat) : Int) * 1 = 0 by rw [h]; rfl) (Int.mul_one _) (rfl) (rfl) (rfl) (show sgI (adrF x.toNat) 21 * adrU _ = _ by rw [(show adrU _ = 1 from by show (bif (((fld x.toNat 31 1 : Nat) : Int) * 1) == 1 then (4096 : Int) else 1) = 1; rw [h]; rfl), adr_eq]; exact Int.mul_one _) (rfl) (rfl) (rfl) (rfl) (rfl) (rfl) (rfl) (rfl) (rfl))
  · exact at_mem 11 rfl (Ins.ext16 (rfl) (show ((fld x.toNat 31 1 : Nat) : Int) * 1 = 1 by rw [h]; rfl) (Int.mul_one _) (rfl) (rfl) (rfl) (show sgI (adrF x.toNat) 21 * adrU _ = _ by rw [(show adrU _ = 4096 from by show (bif (((fld x.toNat 31 1 : Nat) : Int) * 1) == 1 then (4096 : Int) else 1) = 4096; rw [h]; rfl), adr_eq]; exact Int.mul_comm _ _) (rfl) (rfl) (rfl) (rfl) (rfl) (rfl) (rfl) (rfl) (rfl))
set_option maxRecDepth 4000 in
theorem me11 (x kk : Int) (hW : W32 x) (hK : partI x 12 1 * 3 = kk) : (fm11.t false (x, startI fm11)).2 ∈ rdec x kk := by
  have C := (cd_then (cd_sgn .link 31 (by decide)) (cd_words 0 26 (by decide) (by decide)))
  have e := congrArg Prod.snd (C.take x (startI fm11) hW)
  refine (show (fm11.t false (x, startI fm11)).2 = _ from e) ▸ ?_
  exact at_mem 12 rfl (Ins.ext16 (rfl) (rfl) (rfl) (rfl) (rfl) (rfl) (sig_eq x 0 26) (rfl) (rfl) (rfl) (rfl) (rfl) (rfl) (rfl) (rfl) (rfl))
set_option maxRecDepth 4000 in
theorem me12 (x kk : Int) (hW : W32 x) (hK : partI x 12 1 * 3 = kk) : (fm12.t false (x, startI fm12)).2 ∈ rdec x kk := by
  have C := (cd_then (cd_words 5 19 (by decide) (by decide)) (cd_num .cond 1 0 4 (by decide) (by decide) (by decide)))
  have e := congrArg Prod.snd (C.take x (startI fm12) hW)
  refine (show (fm12.t false (x, startI fm12)).2 = _ from e) ▸ ?_
  exact at_mem 13 rfl (Ins.ext16 (rfl) (rfl) (rfl) (rfl) (rfl) (rfl) (sig_eq x 5 19) (rfl) (rfl) (rfl) (Int.mul_one _) (rfl) (rfl) (rfl) (rfl) (rfl))
set_option maxRecDepth 4000 in
theorem me13 (x kk : Int) (hW : W32 x) (hK : partI x 12 1 * 3 = kk) : (fm13.t false (x, startI fm13)).2 ∈ rdec x kk := by
  have C := (cd_then (cd_sgn .not 24 (by decide)) (cd_then (cd_words 5 19 (by decide) (by decide)) (cd_num .rd 1 0 5 (by decide) (by decide) (by decide))))
  have e := congrArg Prod.snd (C.take x (startI fm13) hW)
  refine (show (fm13.t false (x, startI fm13)).2 = _ from e) ▸ ?_
  exact at_mem 14 rfl (Ins.ext16 (rfl) (rfl) (Int.mul_one _) (rfl) (rfl) (rfl) (sig_eq x 5 19) (rfl) (rfl) (rfl) (rfl) (rfl) (rfl) (rfl) (rfl) (rfl))
set_option maxRecDepth 4000 in
theorem me14 (x kk : Int) (hW : W32 x) (hK : partI x 12 1 * 3 = kk) : (fm14.t false (x, startI fm14)).2 ∈ rdec x kk := by
  have C := (cd_then (cd_sgn .not 24 (by decide)) (cd_then cd_tbz0 (cd_then (cd_words 5 14 (by decide) (by decide)) (cd_num .rd 1 0 5 (by decide) (by decide) (by decide)))))
  have e := congrArg Prod.snd (C.take x (startI fm14) hW)
  refine (show (fm14.t false (x, startI fm14)).2 = _ from e) ▸ ?_
  exact at_mem 15 rfl (Ins.ext16 (rfl) (rfl) (Int.mul_one _) (rfl) (rfl) (rfl) (sig_eq x 5 14) (rfl) (tbz_eq x) (rfl) (rfl) (rfl) (rfl) (rfl) (rfl) (rfl))
set_option maxRecDepth 4000 in
theorem me15 (x kk : Int) (hW : W32 x) (hK : partI x 12 1 * 3 = kk) : (fm15.t false (x, startI fm15)).2 ∈ rdec x kk := by
  have C := (cd_then (cd_num .sub 1 21 2 (by decide) (by decide) (by decide)) (cd_num .rn 1 5 5 (by decide) (by decide) (by decide)))
  have e := congrArg Prod.snd (C.take x (startI fm15) hW)
  refine (show (fm15.t false (x, startI fm15)).2 = _ from e) ▸ ?_
  exact at_mem 16 rfl (Ins.ext16 (rfl) (Int.mul_one _) (rfl) (Int.mul_one _) (rfl) (rfl) (rfl) (rfl) (rfl) (rfl) (rfl) (rfl) (rfl) (rfl) (rfl) (rfl))
set_option maxRecDepth 4000 in
theorem me16 (x kk : Int) (hW : W32 x) (hK : partI x 12 1 * 3 = kk) : (fm16.t false (x, startI fm16)).2 ∈ rdec x kk := by
  have C := (cd_then (cd_num .imm 8 10 12 (by decide) (by decide) (by decide)) (cd_then (cd_num .rn 1 5 5 (by decide) (by decide) (by decide)) (cd_num .rd 1 0 5 (by decide) (by decide) (by decide))))
  have e := congrArg Prod.snd (C.take x (startI fm16) hW)
  refine (show (fm16.t false (x, startI fm16)).2 = _ from e) ▸ ?_
  exact at_mem 17 rfl (Ins.ext16 (rfl) (rfl) (Int.mul_one _) (Int.mul_one _) (rfl) (rfl) (Int.mul_comm _ _) (rfl) (rfl) (rfl) (rfl) (rfl) (rfl) (rfl) (rfl) (rfl))
set_option maxRecDepth 4000 in
theorem me17 (x kk : Int) (hW : W32 x) (hK : partI x 12 1 * 3 = kk) : (fm17.t false (x, startI fm17)).2 ∈ rdec x kk := by
  have C := (cd_then (cd_num .imm 8 10 12 (by decide) (by decide) (by decide)) (cd_then (cd_num .rn 1 5 5 (by decide) (by decide) (by decide)) (cd_num .rd 1 0 5 (by decide) (by decide) (by decide))))
  have e := congrArg Prod.snd (C.take x (startI fm17) hW)
  refine (show (fm17.t false (x, startI fm17)).2 = _ from e) ▸ ?_
  exact at_mem 18 rfl (Ins.ext16 (rfl) (rfl) (Int.mul_one _) (Int.mul_one _) (rfl) (rfl) (Int.mul_comm _ _) (rfl) (rfl) (rfl) (rfl) (rfl) (rfl) (rfl) (rfl) (rfl))
set_option maxRecDepth 4000 in
theorem me18 (x kk : Int) (hW : W32 x) (hK : partI x 12 1 * 3 = kk) : (fm18.t false (x, startI fm18)).2 ∈ rdec x kk := by
  have C := (cd_then (cd_num .amount 3 12 1 (by decide) (by decide) (by decide)) (cd_then (cd_num .rm 1 16 5 (by decide) (by decide) (by decide)) (cd_then (cd_num .rn 1 5 5 (by decide) (by decide) (by decide)) (cd_num .rd 1 0 5 (by decide) (by decide) (by decide)))))
  have e := congrArg Prod.snd (C.take x (startI fm18) hW)
  refine (show (fm18.t false (x, startI fm18)).2 = _ from e) ▸ ?_
  exact at_mem 19 rfl (Ins.ext16 (rfl) (rfl) (Int.mul_one _) (Int.mul_one _) (Int.mul_one _) (rfl) (rfl) (rfl) (hK) (rfl) (rfl) (rfl) (rfl) (rfl) (rfl) (rfl))
set_option maxRecDepth 4000 in
theorem me19 (x kk : Int) (hW : W32 x) (hK : partI x 12 1 * 3 = kk) : (fm19.t false (x, startI fm19)).2 ∈ rdec x kk := by
  have C := (cd_then (cd_num .amount 3 12 1 (by decide) (by decide) (by decide)) (cd_then (cd_num .rm 1 16 5 (by decide) (by decide) (by decide)) (cd_then (cd_num .rn 1 5 5 (by decide) (by decide) (by decide)) (cd_num .rd 1 0 5 (by decide) (by decide) (by decide)))))
  have e := congrArg Prod.snd (C.take x (startI fm19) hW)
  refine (show (fm19.t false (x, startI fm19)).2 = _ from e) ▸ ?_
  exact at_mem 20 rfl (Ins.ext16 (rfl) (rfl) (Int.mul_one _) (Int.mul_one _) (Int.mul_one _) (rfl) (rfl) (rfl) (hK) (rfl) (rfl) (rfl) (rfl) (rfl) (rfl) (rfl))
set_option maxRecDepth 4000 in
theorem me20 (x kk : Int) (hW : W32 x) (hK : partI x 12 1 * 3 = kk) : (fm20.t false (x, startI fm20)).2 ∈ rdec x kk := by
  have C := (cd_then (cd_num .rn 1 5 5 (by decide) (by decide) (by decide)) (cd_num .rd 1 0 5 (by decide) (by decide) (by decide)))
  have e := congrArg Prod.snd (C.take x (startI fm20) hW)
  refine (show (fm20.t false (x, startI fm20)).2 = _ from e) ▸ ?_
  exact at_mem 21 rfl (Ins.ext16 (rfl) (rfl) (Int.mul_one _) (Int.mul_one _) (rfl) (rfl) (rfl) (rfl) (rfl) (rfl) (rfl) (rfl) (rfl) (rfl) (rfl) (rfl))
set_option maxRecDepth 4000 in
theorem me21 (x kk : Int) (hW : W32 x) (hK : partI x 12 1 * 3 = kk) : (fm21.t false (x, startI fm21)).2 ∈ rdec x kk := by
  have C := (cd_then (cd_num .rn 1 5 5 (by decide) (by decide) (by decide)) (cd_num .rd 1 0 5 (by decide) (by decide) (by decide)))
  have e := congrArg Prod.snd (C.take x (startI fm21) hW)
  refine (show (fm21.t false (x, startI fm21)).2 = _ from e) ▸ ?_
  exact at_mem 22 rfl (Ins.ext16 (rfl) (rfl) (Int.mul_one _) (Int.mul_one _) (rfl) (rfl) (rfl) (rfl) (rfl) (rfl) (rfl) (rfl) (rfl) (rfl) (rfl) (rfl))
set_option maxRecDepth 4000 in
theorem me22 (x kk : Int) (hW : W32 x) (hK : partI x 12 1 * 3 = kk) : (fm22.t false (x, startI fm22)).2 ∈ rdec x kk := by
  have C := (cd_then (cd_num .rn 1 5 5 (by decide) (by decide) (by decide)) (cd_num .rd 1 0 5 (by decide) (by decide) (by decide)))
  have e := congrArg Prod.snd (C.take x (startI fm22) hW)
  refine (show (fm22.t false (x, startI fm22)).2 = _ from e) ▸ ?_
  exact at_mem 23 rfl (Ins.ext16 (rfl) (rfl) (Int.mul_one _) (Int.mul_one _) (rfl) (rfl) (rfl) (rfl) (rfl) (rfl) (rfl) (rfl) (rfl) (rfl) (rfl) (rfl))
set_option maxRecDepth 4000 in
theorem me23 (x kk : Int) (hW : W32 x) (hK : partI x 12 1 * 3 = kk) : (fm23.t false (x, startI fm23)).2 ∈ rdec x kk := by
  have C := (cd_then (cd_num .sub 1 15 1 (by decide) (by decide) (by decide)) (cd_then (cd_num .rn 1 5 5 (by decide) (by decide) (by decide)) (cd_num .rd 1 0 5 (by decide) (by decide) (by decide))))
  have e := congrArg Prod.snd (C.take x (startI fm23) hW)
  refine (show (fm23.t false (x, startI fm23)).2 = _ from e) ▸ ?_
  exact at_mem 24 rfl (Ins.ext16 (rfl) (Int.mul_one _) (Int.mul_one _) (Int.mul_one _) (rfl) (rfl) (rfl) (rfl) (rfl) (rfl) (rfl) (rfl) (rfl) (rfl) (rfl) (rfl))
set_option maxRecDepth 4000 in
theorem me24 (x kk : Int) (hW : W32 x) (hK : partI x 12 1 * 3 = kk) : (fm24.t false (x, startI fm24)).2 ∈ rdec x kk := by
  have C := (cd_then (cd_num .sub 1 15 1 (by decide) (by decide) (by decide)) (cd_then (cd_num .rm 1 16 5 (by decide) (by decide) (by decide)) (cd_then (cd_num .rn 1 5 5 (by decide) (by decide) (by decide)) (cd_num .rd 1 0 5 (by decide) (by decide) (by decide)))))
  have e := congrArg Prod.snd (C.take x (startI fm24) hW)
  refine (show (fm24.t false (x, startI fm24)).2 = _ from e) ▸ ?_
  exact at_mem 25 rfl (Ins.ext16 (rfl) (Int.mul_one _) (Int.mul_one _) (Int.mul_one _) (Int.mul_one _) (rfl) (rfl) (rfl) (rfl) (rfl) (rfl) (rfl) (rfl) (rfl) (rfl) (rfl))
set_option maxRecDepth 4000 in
theorem me25 (x kk : Int) (hW : W32 x) (hK : partI x 12 1 * 3 = kk) : (fm25.t false (x, startI fm25)).2 ∈ rdec x kk := by
  have C := cd_nothing
  have e := congrArg Prod.snd (C.take x (startI fm25) hW)
  refine (show (fm25.t false (x, startI fm25)).2 = _ from e) ▸ ?_
  exact at_mem 26 rfl (Ins.ext16 (rfl) (rfl) (rfl) (rfl) (rfl) (rfl) (rfl) (rfl) (rfl) (rfl) (rfl) (rfl) (rfl) (rfl) (rfl) (rfl))
set_option maxRecDepth 4000 in
theorem me26 (x kk : Int) (hW : W32 x) (hK : partI x 12 1 * 3 = kk) : (fm26.t false (x, startI fm26)).2 ∈ rdec x kk := by
  have C := (cd_num .imm 1 8 2 (by decide) (by decide) (by decide))
  have e := congrArg Prod.snd (C.take x (startI fm26) hW)
  refine (show (fm26.t false (x, startI fm26)).2 = _ from e) ▸ ?_
  exact at_mem 27 rfl (Ins.ext16 (rfl) (rfl) (rfl) (rfl) (rfl) (rfl) (Int.mul_one _) (rfl) (rfl) (rfl) (rfl) (rfl) (rfl) (rfl) (rfl) (rfl))
set_option maxRecDepth 4000 in
theorem me27 (x kk : Int) (hW : W32 x) (hK : partI x 12 1 * 3 = kk) : (fm27.t false (x, startI fm27)).2 ∈ rdec x kk := by
  have C := (cd_num .imm 1 8 2 (by decide) (by decide) (by decide))
  have e := congrArg Prod.snd (C.take x (startI fm27) hW)
  refine (show (fm27.t false (x, startI fm27)).2 = _ from e) ▸ ?_
  exact at_mem 28 rfl (Ins.ext16 (rfl) (rfl) (rfl) (rfl) (rfl) (rfl) (Int.mul_one _) (rfl) (rfl) (rfl) (rfl) (rfl) (rfl) (rfl) (rfl) (rfl))
set_option maxRecDepth 4000 in
theorem me28 (x kk : Int) (hW : W32 x) (hK : partI x 12 1 * 3 = kk) : (fm28.t false (x, startI fm28)).2 ∈ rdec x kk := by
  have C := cd_nothing
  have e := congrArg Prod.snd (C.take x (startI fm28) hW)
  refine (show (fm28.t false (x, startI fm28)).2 = _ from e) ▸ ?_
  exact at_mem 29 rfl (Ins.ext16 (rfl) (rfl) (rfl) (rfl) (rfl) (rfl) (rfl) (rfl) (rfl) (rfl) (rfl) (rfl) (rfl) (rfl) (rfl) (rfl))
set_option maxRecDepth 4000 in
theorem me29 (x kk : Int) (hW : W32 x) (hK : partI x 12 1 * 3 = kk) : (fm29.t false (x, startI fm29)).2 ∈ rdec x kk := by
  have C := (cd_num .rd 1 0 5 (by decide) (by decide) (by decide))
  have e := congrArg Prod.snd (C.take x (startI fm29) hW)
  refine (show (fm29.t false (x, startI fm29)).2 = _ from e) ▸ ?_
  exact at_mem 30 rfl (Ins.ext16 (rfl) (rfl) (Int.mul_one _) (rfl) (rfl) (rfl) (rfl) (rfl) (rfl) (rfl) (rfl) (rfl) (rfl) (rfl) (rfl) (rfl))
set_option maxRecDepth 4000 in
theorem me30 (x kk : Int) (hW : W32 x) (hK : partI x 12 1 * 3 = kk) : (fm30.t false (x, startI fm30)).2 ∈ rdec x kk := by
  have C := (cd_num .rd 1 0 5 (by decide) (by decide) (by decide))
  have e := congrArg Prod.snd (C.take x (startI fm30) hW)
  refine (show (fm30.t false (x, startI fm30)).2 = _ from e) ▸ ?_
  exact at_mem 31 rfl (Ins.ext16 (rfl) (rfl) (Int.mul_one _) (rfl) (rfl) (rfl) (rfl) (rfl) (rfl) (rfl) (rfl) (rfl) (rfl) (rfl) (rfl) (rfl))
set_option maxRecDepth 4000 in
theorem me31 (x kk : Int) (hW : W32 x) (hK : partI x 12 1 * 3 = kk) : (fm31.t false (x, startI fm31)).2 ∈ rdec x kk := by
  have C := cd_nothing
  have e := congrArg Prod.snd (C.take x (startI fm31) hW)
  refine (show (fm31.t false (x, startI fm31)).2 = _ from e) ▸ ?_
  exact at_mem 32 rfl (Ins.ext16 (rfl) (rfl) (rfl) (rfl) (rfl) (rfl) (rfl) (rfl) (rfl) (rfl) (rfl) (rfl) (rfl) (rfl) (rfl) (rfl))
set_option maxRecDepth 4000 in
theorem me32 (x kk : Int) (hW : W32 x) (hK : partI x 12 1 * 3 = kk) : (fm32.t false (x, startI fm32)).2 ∈ rdec x kk := by
  have C := (cd_then (cd_num .sys 1 5 15 (by decide) (by decide) (by decide)) (cd_num .rd 1 0 5 (by decide) (by decide) (by decide)))
  have e := congrArg Prod.snd (C.take x (startI fm32) hW)
  refine (show (fm32.t false (x, startI fm32)).2 = _ from e) ▸ ?_
  exact at_mem 33 rfl (Ins.ext16 (rfl) (rfl) (Int.mul_one _) (rfl) (rfl) (rfl) (rfl) (rfl) (rfl) (rfl) (rfl) (Int.mul_one _) (rfl) (rfl) (rfl) (rfl))
set_option maxRecDepth 4000 in
theorem me33 (x kk : Int) (hW : W32 x) (hK : partI x 12 1 * 3 = kk) : (fm33.t false (x, startI fm33)).2 ∈ rdec x kk := by
  have C := (cd_then (cd_num .sys 1 5 15 (by decide) (by decide) (by decide)) (cd_num .rd 1 0 5 (by decide) (by decide) (by decide)))
  have e := congrArg Prod.snd (C.take x (startI fm33) hW)
  refine (show (fm33.t false (x, startI fm33)).2 = _ from e) ▸ ?_
  exact at_mem 34 rfl (Ins.ext16 (rfl) (rfl) (Int.mul_one _) (rfl) (rfl) (rfl) (rfl) (rfl) (rfl) (rfl) (rfl) (Int.mul_one _) (rfl) (rfl) (rfl) (rfl))
set_option maxRecDepth 4000 in
theorem me34 (x kk : Int) (hW : W32 x) (hK : partI x 12 1 * 3 = kk) : (fm34.t false (x, startI fm34)).2 ∈ rdec x kk := by
  have C := (cd_num .imm 1 8 4 (by decide) (by decide) (by decide))
  have e := congrArg Prod.snd (C.take x (startI fm34) hW)
  refine (show (fm34.t false (x, startI fm34)).2 = _ from e) ▸ ?_
  exact at_mem 35 rfl (Ins.ext16 (rfl) (rfl) (rfl) (rfl) (rfl) (rfl) (Int.mul_one _) (rfl) (rfl) (rfl) (rfl) (rfl) (rfl) (rfl) (rfl) (rfl))
set_option maxRecDepth 4000 in
theorem me35 (x kk : Int) (hW : W32 x) (hK : partI x 12 1 * 3 = kk) : (fm35.t false (x, startI fm35)).2 ∈ rdec x kk := by
  have C := (cd_num .imm 1 8 4 (by decide) (by decide) (by decide))
  have e := congrArg Prod.snd (C.take x (startI fm35) hW)
  refine (show (fm35.t false (x, startI fm35)).2 = _ from e) ▸ ?_
  exact at_mem 36 rfl (Ins.ext16 (rfl) (rfl) (rfl) (rfl) (rfl) (rfl) (Int.mul_one _) (rfl) (rfl) (rfl) (rfl) (rfl) (rfl) (rfl) (rfl) (rfl))
set_option maxRecDepth 4000 in
theorem me36 (x kk : Int) (hW : W32 x) (hK : partI x 12 1 * 3 = kk) : (fm36.t false (x, startI fm36)).2 ∈ rdec x kk := by
  have C := (cd_num .imm 1 5 16 (by decide) (by decide) (by decide))
  have e := congrArg Prod.snd (C.take x (startI fm36) hW)
  refine (show (fm36.t false (x, startI fm36)).2 = _ from e) ▸ ?_
  exact at_mem 37 rfl (Ins.ext16 (rfl) (rfl) (rfl) (rfl) (rfl) (rfl) (Int.mul_one _) (rfl) (rfl) (rfl) (rfl) (rfl) (rfl) (rfl) (rfl) (rfl))
set_option maxRecDepth 4000 in
theorem me37 (x kk : Int) (hW : W32 x) (hK : partI x 12 1 * 3 = kk) : (fm37.t false (x, startI fm37)).2 ∈ rdec x kk := by
  have C := (cd_num .imm 1 5 16 (by decide) (by decide) (by decide))
  have e := congrArg Prod.snd (C.take x (startI fm37) hW)
  refine (show (fm37.t false (x, startI fm37)).2 = _ from e) ▸ ?_
  exact at_mem 38 rfl (Ins.ext16 (rfl) (rfl) (rfl) (rfl) (rfl) (rfl) (Int.mul_one _) (rfl) (rfl) (rfl) (rfl) (rfl) (rfl) (rfl) (rfl) (rfl))
set_option maxRecDepth 4000 in
theorem me38 (x kk : Int) (hW : W32 x) (hK : partI x 12 1 * 3 = kk) : (fm38.t false (x, startI fm38)).2 ∈ rdec x kk := by
  have C := cd_nothing
  have e := congrArg Prod.snd (C.take x (startI fm38) hW)
  refine (show (fm38.t false (x, startI fm38)).2 = _ from e) ▸ ?_
  exact at_mem 39 rfl (Ins.ext16 (rfl) (rfl) (rfl) (rfl) (rfl) (rfl) (rfl) (rfl) (rfl) (rfl) (rfl) (rfl) (rfl) (rfl) (rfl) (rfl))
set_option maxRecDepth 4000 in
theorem me39 (x kk : Int) (hW : W32 x) (hK : partI x 12 1 * 3 = kk) : (fm39.t false (x, startI fm39)).2 ∈ rdec x kk := by
  have C := (cd_num .imm 1 5 3 (by decide) (by decide) (by decide))
  have e := congrArg Prod.snd (C.take x (startI fm39) hW)
  refine (show (fm39.t false (x, startI fm39)).2 = _ from e) ▸ ?_
  exact at_mem 40 rfl (Ins.ext16 (rfl) (rfl) (rfl) (rfl) (rfl) (rfl) (Int.mul_one _) (rfl) (rfl) (rfl) (rfl) (rfl) (rfl) (rfl) (rfl) (rfl))
theorem dec_mem (x kk : Int) (hW : W32 x) (hK : partI x 12 1 * 3 = kk) (hn : decV x ≠ nilI) : decV x ∈ rdec x kk := by
  rcases decL_some (word := x) forms with h | ⟨F, hF, _, _, h⟩
  · exact absurd h hn
  · rw [show decV x = (F.t false (x, startI F)).2 from h]
    simp only [forms, formsA, formsB, List.cons_append, List.nil_append, List.mem_cons, List.not_mem_nil, or_false] at hF
    rcases hF with rfl | rfl | rfl | rfl | rfl | rfl | rfl | rfl | rfl | rfl | rfl | rfl | rfl | rfl | rfl | rfl | rfl | rfl | rfl | rfl | rfl | rfl | rfl | rfl | rfl | rfl | rfl | rfl | rfl | rfl | rfl | rfl | rfl | rfl | rfl | rfl | rfl | rfl | rfl | rfl
    · exact me0 x kk hW hK
    · exact me1 x kk hW hK
    · exact me2 x kk hW hK
    · exact me3 x kk hW hK
    · exact me4 x kk hW hK
    · exact me5 x kk hW hK
    · exact me6 x kk hW hK
    · exact me7 x kk hW hK
    · exact me8 x kk hW hK
    · exact me9 x kk hW hK
    · exact me10 x kk hW hK
    · exact me11 x kk hW hK
    · exact me12 x kk hW hK
    · exact me13 x kk hW hK
    · exact me14 x kk hW hK
    · exact me15 x kk hW hK
    · exact me16 x kk hW hK
    · exact me17 x kk hW hK
    · exact me18 x kk hW hK
    · exact me19 x kk hW hK
    · exact me20 x kk hW hK
    · exact me21 x kk hW hK
    · exact me22 x kk hW hK
    · exact me23 x kk hW hK
    · exact me24 x kk hW hK
    · exact me25 x kk hW hK
    · exact me26 x kk hW hK
    · exact me27 x kk hW hK
    · exact me28 x kk hW hK
    · exact me29 x kk hW hK
    · exact me30 x kk hW hK
    · exact me31 x kk hW hK
    · exact me32 x kk hW hK
    · exact me33 x kk hW hK
    · exact me34 x kk hW hK
    · exact me35 x kk hW hK
    · exact me36 x kk hW hK
    · exact me37 x kk hW hK
    · exact me38 x kk hW hK
    · exact me39 x kk hW hK
theorem part_bit (x : Int) : partI x 12 1 = 0 ∨ partI x 12 1 = 1 := by
  have : 0 ≤ partI x 12 1 ∧ partI x 12 1 < 2 := partI_in x 12 1
  omega
theorem rdecode_c (x : Int) (hW : W32 x) (w : World) :
    Calls Tryz.prog 24 #[.int .u32 x] w fun e w' => e = .returned (decV x).val ∧ Below w.heap.size w w' := by
  have hx : Hid (0 ≤ x ∧ x < 4294967296) := ⟨hW.1, by have := hW.2; omega⟩
  rcases part_bit x with h | h
  · have := rdecode_0 x hx (by rw [h]; rfl) w
    rwa [rfind_of hW _ (dec_mem x 0 hW (by rw [h]; rfl))] at this
  · have := rdecode_3 x hx (by rw [h]; rfl) w
    rwa [rfind_of hW _ (dec_mem x 3 hW (by rw [h]; rfl))] at this
end Go.Proofs.YtbjcdpmhmebjnaaGreat
/- The document's own Begin and Fetch: contracts, for every state and word. -/
namespace Go.Proofs.YtbjcdpmhmebjnaaGreat
open Go.RowKit
set_option linter.unusedVariables false

/-- The lowest six bits taken away. -/
theorem low6 {X : Nat} (h : X < 18446744073709551616) : X &&& (18446744073709551616 - (63 + 1)) = X - X % 64 := by
  have e2 : X - X % 64 = 2 ^ 6 * (X / 2 ^ 6) := by omega
  have e1 : 18446744073709551616 - (63 + 1) = 2 ^ 6 * (2 ^ 58 - 1) := by decide
  rw [e1, e2]
  apply Nat.eq_of_testBit_eq
  intro i
  rw [Nat.testBit_and, Nat.testBit_two_pow_mul, Nat.testBit_two_pow_sub_one, Nat.testBit_two_pow_mul, Nat.testBit_div_two_pow]
  by_cases h6 : 6 ≤ i
  · by_cases h64 : i < 64
    · simp [h6, show i - 6 < 58 by omega]
    · have hf : X.testBit i = false := Nat.testBit_lt_two_pow (Nat.lt_of_lt_of_le h (by
        have := Nat.pow_le_pow_right (n := 2) (by decide) (show 64 ≤ i by omega)
        omega))
      simp [h6, hf]
  · simp [h6]
theorem line_eq {x : Int} (h : U64 x) : IntKind.u64.wrap (x - x.tmod 64) = bits .andNot .u64 x 63 := by
  obtain ⟨X, rfl, hX⟩ := nat_of h
  rw [show (63 : Int) = ((63 : Nat) : Int) from rfl, andNot64 X 63 hX (by decide), low6 hX, wrapU, Int.tmod_eq_emod_of_nonneg (by omega)]
  omega
theorem x_in {c : Cor} (hx : ∀ (i : Nat) (h : i < 31), U64 c.x[i]) (r : Int) : U64 (xV c r) := by
  unfold xV
  split
  · rename_i h
    by_cases h31 : r.toNat < 31
    · have := hx r.toNat h31
      simpa [h31] using this
    · simp [h31]; exact ⟨by decide, by decide⟩
  · exact ⟨by decide, by decide⟩
theorem imm_zero {i : Ins} (h : i = nilI ∨ rightB i = true) : i.op = 19 ∨ i.op = 20 → i.imm = 0 := by
  intro ho
  rcases h with e | e
  · rw [e]; rfl
  · have R := rb_in (right_rb e).imm
    have ei : immS i.op i.sub = zeroS := by rcases ho with e | e <;> rw [e] <;> rfl
    rw [ei] at R
    have h1 : 0 ≤ i.imm := R.1
    have h2 : i.imm ≤ 0 := R.2.1
    omega
/-- The document's own access. -/
theorem qaccess_c (c : Cor) (i : Ins) (F : Fine i) (hz : i.op = 19 ∨ i.op = 20 → i.imm = 0) (hel : 0 ≤ c.el ∧ c.el ≤ 1) (ho : 17 ≤ i.op ∧ i.op ≤ 24) (w : World) :
    Calls Tryz.prog 26 #[c.val, i.val] w fun e w' => e = .returned (wishV c i).val ∧ Below w.heap.size w w' := by
  have hn := sadr_in c i
  by_cases h8 : adrV c i % 8 = 0
  · have e8 : ((adrV c i).tmod 8 != 0) = false := by rw [tmod8 hn]; simp [h8]
    rcases (by omega : i.op = 17 ∨ i.op = 18 ∨ i.op = 19 ∨ i.op = 20 ∨ i.op = 21 ∨ i.op = 22 ∨ i.op = 23 ∨ i.op = 24) with e | e | e | e | e | e | e | e
    · have ev : wishV c i = accV c i { nilW with kind := 1 } := by simp [wishV, e]
      rw [ev, accV, if_pos h8]; exact qacc_v c i hel F.am hz _ rfl _ (.inl ⟨e, rfl⟩) e8 w
    · have ev : wishV c i = accV c i { nilW with kind := 2, value := xV c i.rd } := by simp [wishV, e]
      rw [ev, accV, if_pos h8]; exact qacc_v c i hel F.am hz _ rfl _ (.inr (.inl ⟨e, rfl⟩)) e8 w
    · have ev : wishV c i = accV c i { nilW with kind := 1 } := by simp [wishV, e]
      rw [ev, accV, if_pos h8]; exact qacc_v c i hel F.am hz _ rfl _ (.inr (.inr (.inl ⟨e, rfl⟩))) e8 w
    · have ev : wishV c i = accV c i { nilW with kind := 2, value := xV c i.rd } := by simp [wishV, e]
      rw [ev, accV, if_pos h8]; exact qacc_v c i hel F.am hz _ rfl _ (.inr (.inr (.inr (.inl ⟨e, rfl⟩)))) e8 w
    · have ev : wishV c i = accV c i { nilW with kind := 1, acq := 2 - i.sub } := by simp [wishV, e]
      rcases F.sub e with s | s
      · rw [ev, accV, if_pos h8, s]; exact qacc_s c i hel F.am hz _ rfl _ (.inl ⟨e, s, rfl⟩) e8 w
      · rw [ev, accV, if_pos h8, s]; exact qacc_s c i hel F.am hz _ rfl _ (.inr (.inl ⟨e, s, rfl⟩)) e8 w
    · have ev : wishV c i = accV c i { nilW with kind := 2, value := xV c i.rd, rel := true } := by simp [wishV, e]
      rw [ev, accV, if_pos h8]; exact qacc_v c i hel F.am hz _ rfl _ (.inr (.inr (.inr (.inr (.inl ⟨e, rfl⟩))))) e8 w
    · have ev : wishV c i = accV c i { nilW with kind := 3, acq := 2 * i.sub } := by simp [wishV, e]
      rcases F.subx e with s | s
      · rw [ev, accV, if_pos h8, s]; exact qacc_s c i hel F.am hz _ rfl _ (.inr (.inr (.inl ⟨e, s, rfl⟩))) e8 w
      · rw [ev, accV, if_pos h8, s]; exact qacc_s c i hel F.am hz _ rfl _ (.inr (.inr (.inr ⟨e, s, rfl⟩))) e8 w
    · have ev : wishV c i = accV c i { nilW with kind := 4, value := xV c i.rd, rel := i.sub == 1 } := by simp [wishV, e]
      rw [ev, accV, if_pos h8]; exact qacc_v c i hel F.am hz _ rfl _ (.inr (.inr (.inr (.inr (.inr ⟨e, rfl⟩))))) e8 w
  · have e8 : ((adrV c i).tmod 8 != 0) = true := by rw [tmod8 hn]; simp [h8]
    rcases (by omega : i.op = 17 ∨ i.op = 18 ∨ i.op = 19 ∨ i.op = 20 ∨ i.op = 21 ∨ i.op = 22 ∨ i.op = 23 ∨ i.op = 24) with e | e | e | e | e | e | e | e
    · have ev : wishV c i = accV c i { nilW with kind := 1 } := by simp [wishV, e]
      rw [ev, accV, if_neg h8]; exact qtrap c i hel F.am hz _ rfl false (by rw [e]; decide) e8 w
    · have ev : wishV c i = accV c i { nilW with kind := 2, value := xV c i.rd } := by simp [wishV, e]
      rw [ev, accV, if_neg h8]; exact qtrap c i hel F.am hz _ rfl true (by rw [e]; decide) e8 w
    · have ev : wishV c i = accV c i { nilW with kind := 1 } := by simp [wishV, e]
      rw [ev, accV, if_neg h8]; exact qtrap c i hel F.am hz _ rfl false (by rw [e]; decide) e8 w
    · have ev : wishV c i = accV c i { nilW with kind := 2, value := xV c i.rd } := by simp [wishV, e]
      rw [ev, accV, if_neg h8]; exact qtrap c i hel F.am hz _ rfl true (by rw [e]; decide) e8 w
    · have ev : wishV c i = accV c i { nilW with kind := 1, acq := 2 - i.sub } := by simp [wishV, e]
      rw [ev, accV, if_neg h8]; exact qtrap c i hel F.am hz _ rfl false (by rw [e]; decide) e8 w
    · have ev : wishV c i = accV c i { nilW with kind := 2, value := xV c i.rd, rel := true } := by simp [wishV, e]
      rw [ev, accV, if_neg h8]; exact qtrap c i hel F.am hz _ rfl true (by rw [e]; decide) e8 w
    · have ev : wishV c i = accV c i { nilW with kind := 3, acq := 2 * i.sub } := by simp [wishV, e]
      rw [ev, accV, if_neg h8]; exact qtrap c i hel F.am hz _ rfl false (by rw [e]; decide) e8 w
    · have ev : wishV c i = accV c i { nilW with kind := 4, value := xV c i.rd, rel := i.sub == 1 } := by simp [wishV, e]
      rw [ev, accV, if_neg h8]; exact qtrap c i hel F.am hz _ rfl true (by rw [e]; decide) e8 w
/-- The document's own Begin. -/
theorem qbegin_i (c : Cor) (word : Int) (i : Ins) (hdec : ∀ w : World, Calls Tryz.prog 24 #[.int .u32 word] w fun e w' => e = .returned i.val ∧ Below w.heap.size w w') (F : Fine i) (hz : i.op = 19 ∨ i.op = 20 → i.imm = 0) (hx : U64 (xV c i.rd)) (hr : rightC c = true) (w : World) :
    Calls Tryz.prog 10 #[c.val, .int .u32 word] w fun e w' => e = .returned (.tuple #[(wantV c i).val, .bool true]) ∧ Below w.heap.size w w' := by
  have hel := right_el hr
  cases hbar : barB c i
  · have ev : wantV c i = wishV c i := by simp [wantV, hbar]
    rw [ev]
    have h0 := F.op
    rcases (by omega : i.op = 0 ∨ i.op = 1 ∨ i.op = 2 ∨ i.op = 3 ∨ i.op = 4 ∨ i.op = 5 ∨ i.op = 6 ∨ i.op = 7 ∨ i.op = 8 ∨ i.op = 9 ∨ i.op = 10 ∨ i.op = 11 ∨ i.op = 12 ∨ i.op = 13 ∨ i.op = 14 ∨ i.op = 15 ∨ i.op = 16 ∨ i.op = 17 ∨ i.op = 18 ∨ i.op = 19 ∨ i.op = 20 ∨ i.op = 21 ∨ i.op = 22 ∨ i.op = 23 ∨ i.op = 24 ∨ i.op = 25 ∨ i.op = 26 ∨ i.op = 27 ∨ i.op = 28 ∨ i.op = 29 ∨ i.op = 30 ∨ i.op = 31 ∨ i.op = 32 ∨ i.op = 33 ∨ i.op = 34 ∨ i.op = 35 ∨ i.op = 36 ∨ i.op = 37) with e | e | e | e | e | e | e | e | e | e | e | e | e | e | e | e | e | e | e | e | e | e | e | e | e | e | e | e | e | e | e | e | e | e | e | e | e | e
    · have ev2 : wishV c i = unkV := by simp [wishV, e]
      rw [ev2]; exact qb_0 c word i hdec hr hbar e w
    · have ev2 : wishV c i = nilW := by simp [wishV, e]
      rw [ev2]; exact qb_nil c word i hdec hr hbar (.inl e) w
    · have ev2 : wishV c i = nilW := by simp [wishV, e]
      rw [ev2]; exact qb_nil c word i hdec hr hbar (.inr (.inl e)) w
    · have ev2 : wishV c i = nilW := by simp [wishV, e]
      rw [ev2]; exact qb_nil c word i hdec hr hbar (.inr (.inr (.inl e))) w
    · have ev2 : wishV c i = nilW := by simp [wishV, e]
      rw [ev2]; exact qb_nil c word i hdec hr hbar (.inr (.inr (.inr (.inl e)))) w
    · have ev2 : wishV c i = nilW := by simp [wishV, e]
      rw [ev2]; exact qb_nil c word i hdec hr hbar (.inr (.inr (.inr (.inr (.inl e))))) w
    · have ev2 : wishV c i = nilW := by simp [wishV, e]
      rw [ev2]; exact qb_nil c word i hdec hr hbar (.inr (.inr (.inr (.inr (.inr (.inl e)))))) w
    · have ev2 : wishV c i = nilW := by simp [wishV, e]
      rw [ev2]; exact qb_nil c word i hdec hr hbar (.inr (.inr (.inr (.inr (.inr (.inr (.inl e))))))) w
    · have ev2 : wishV c i = nilW := by simp [wishV, e]
      rw [ev2]; exact qb_nil c word i hdec hr hbar (.inr (.inr (.inr (.inr (.inr (.inr (.inr (.inl e)))))))) w
    · have ev2 : wishV c i = nilW := by simp [wishV, e]
      rw [ev2]; exact qb_nil c word i hdec hr hbar (.inr (.inr (.inr (.inr (.inr (.inr (.inr (.inr (.inl e))))))))) w
    · have ev2 : wishV c i = nilW := by simp [wishV, e]
      rw [ev2]; exact qb_nil c word i hdec hr hbar (.inr (.inr (.inr (.inr (.inr (.inr (.inr (.inr (.inr (.inl e)))))))))) w
    · have ev2 : wishV c i = nilW := by simp [wishV, e]
      rw [ev2]; exact qb_nil c word i hdec hr hbar (.inr (.inr (.inr (.inr (.inr (.inr (.inr (.inr (.inr (.inr (.inl e))))))))))) w
    · have ev2 : wishV c i = nilW := by simp [wishV, e]
      rw [ev2]; exact qb_nil c word i hdec hr hbar (.inr (.inr (.inr (.inr (.inr (.inr (.inr (.inr (.inr (.inr (.inr (.inl e)))))))))))) w
    · have ev2 : wishV c i = nilW := by simp [wishV, e]
      rw [ev2]; exact qb_nil c word i hdec hr hbar (.inr (.inr (.inr (.inr (.inr (.inr (.inr (.inr (.inr (.inr (.inr (.inr (.inl e))))))))))))) w
    · have ev2 : wishV c i = nilW := by simp [wishV, e]
      rw [ev2]; exact qb_nil c word i hdec hr hbar (.inr (.inr (.inr (.inr (.inr (.inr (.inr (.inr (.inr (.inr (.inr (.inr (.inr (.inl e)))))))))))))) w
    · have ev2 : wishV c i = nilW := by simp [wishV, e]
      rw [ev2]; exact qb_nil c word i hdec hr hbar (.inr (.inr (.inr (.inr (.inr (.inr (.inr (.inr (.inr (.inr (.inr (.inr (.inr (.inr (.inl e))))))))))))))) w
    · have ev2 : wishV c i = nilW := by simp [wishV, e]
      rw [ev2]; exact qb_nil c word i hdec hr hbar (.inr (.inr (.inr (.inr (.inr (.inr (.inr (.inr (.inr (.inr (.inr (.inr (.inr (.inr (.inr (.inl e)))))))))))))))) w
    · exact qb_acc c word i hdec hr hbar (.inl e) _ (qaccess_c c i F hz hel (by omega)) w
    · exact qb_acc c word i hdec hr hbar (.inr (.inl e)) _ (qaccess_c c i F hz hel (by omega)) w
    · exact qb_acc c word i hdec hr hbar (.inr (.inr (.inl e))) _ (qaccess_c c i F hz hel (by omega)) w
    · exact qb_acc c word i hdec hr hbar (.inr (.inr (.inr (.inl e)))) _ (qaccess_c c i F hz hel (by omega)) w
    · exact qb_acc c word i hdec hr hbar (.inr (.inr (.inr (.inr (.inl e))))) _ (qaccess_c c i F hz hel (by omega)) w
    · exact qb_acc c word i hdec hr hbar (.inr (.inr (.inr (.inr (.inr (.inl e)))))) _ (qaccess_c c i F hz hel (by omega)) w
    · exact qb_acc c word i hdec hr hbar (.inr (.inr (.inr (.inr (.inr (.inr (.inl e))))))) _ (qaccess_c c i F hz hel (by omega)) w
    · exact qb_acc c word i hdec hr hbar (.inr (.inr (.inr (.inr (.inr (.inr (.inr e))))))) _ (qaccess_c c i F hz hel (by omega)) w
    · have ev2 : wishV c i = { nilW with kind := 5 } := by simp [wishV, e]
      rw [ev2]; exact qb_const c word i hdec hr hbar _ (.inl ⟨e, rfl⟩) w
    · have hm := F.imm e
      rcases (by omega : i.imm = 1 ∨ i.imm = 2 ∨ i.imm = 3) with m | m | m
      · have ev2 : wishV c i = { nilW with kind := 6, fence := 13, dsb := i.sub == 1 } := by simp [wishV, e, m, fenceV]
        rw [ev2]; exact qb_26 c word i hdec hr hbar e 1 13 (by decide) m rfl w
      · have ev2 : wishV c i = { nilW with kind := 6, fence := 10, dsb := i.sub == 1 } := by simp [wishV, e, m, fenceV]
        rw [ev2]; exact qb_26 c word i hdec hr hbar e 2 10 (by decide) m rfl w
      · have ev2 : wishV c i = { nilW with kind := 6, fence := 15, dsb := i.sub == 1 } := by simp [wishV, e, m, fenceV]
        rw [ev2]; exact qb_26 c word i hdec hr hbar e 3 15 (by decide) m rfl w
    · have ev2 : wishV c i = { nilW with kind := 7 } := by simp [wishV, e]
      rw [ev2]; exact qb_const c word i hdec hr hbar _ (.inr (.inl ⟨e, rfl⟩)) w
    · have ev2 : wishV c i = { nilW with kind := 8, addr := bits .andNot .u64 (xV c i.rd) 63 } := by simp [wishV, e, lineV]
      rw [ev2]; exact qb_line c word i hdec hr hbar _ _ _ (.inl ⟨e, rfl⟩) rfl (line_eq hx) w
    · have ev2 : wishV c i = { nilW with kind := 9 } := by simp [wishV, e]
      rw [ev2]; exact qb_const c word i hdec hr hbar _ (.inr (.inr ⟨e, rfl⟩)) w
    · have ev2 : wishV c i = { nilW with kind := 10, addr := bits .andNot .u64 (xV c i.rd) 63 } := by simp [wishV, e, lineV]
      rw [ev2]; exact qb_line c word i hdec hr hbar _ _ _ (.inr ⟨e, rfl⟩) rfl (line_eq hx) w
    · cases hd : outB i.sys
      · have ev2 : wishV c i = nilW := by simp [wishV, e, hd]
        rw [ev2]; exact qb_sys_n c word i hdec hr hbar (.inl e) hd w
      · have ev2 : wishV c i = { nilW with kind := 11, sys := i.sys } := by simp [wishV, e, hd]
        rw [ev2]; exact qb_31y c word i hdec hr hbar e hd w
    · cases hd : outB i.sys
      · have ev2 : wishV c i = nilW := by simp [wishV, e, hd]
        rw [ev2]; exact qb_sys_n c word i hdec hr hbar (.inr e) hd w
      · have ev2 : wishV c i = { nilW with kind := 12, sys := i.sys, value := xV c i.rd } := by simp [wishV, e, hd]
        rw [ev2]; exact qb_32y c word i hdec hr hbar e hd _ rfl w
    · have ev2 : wishV c i = nilW := by simp [wishV, e]
      rw [ev2]; exact qb_nil c word i hdec hr hbar (.inr (.inr (.inr (.inr (.inr (.inr (.inr (.inr (.inr (.inr (.inr (.inr (.inr (.inr (.inr (.inr (.inl e))))))))))))))))) w
    · have ev2 : wishV c i = { nilW with kind := 15, cls := 21, iss := i.imm } := by simp [wishV, e]
      rw [ev2]; exact qb_exc c word i hdec hr hbar _ (.inl ⟨e, rfl⟩) w
    · have ev2 : wishV c i = { nilW with kind := 15, cls := 60, iss := i.imm } := by simp [wishV, e]
      rw [ev2]; exact qb_exc c word i hdec hr hbar _ (.inr ⟨e, rfl⟩) w
    · have ev2 : wishV c i = nilW := by simp [wishV, e]
      rw [ev2]; exact qb_nil c word i hdec hr hbar (.inr (.inr (.inr (.inr (.inr (.inr (.inr (.inr (.inr (.inr (.inr (.inr (.inr (.inr (.inr (.inr (.inr e))))))))))))))))) w
    · have ev2 : wishV c i = hintV c i := by simp [wishV, e]
      rw [ev2]
      unfold hintV
      by_cases h2 : i.imm = 2
      · cases he : c.event
        · rw [if_pos ⟨h2, rfl⟩]; exact qb_hint c word i hdec hr hbar e _ (.inl ⟨h2, he, rfl⟩) w
        · rw [if_neg (fun hh => by cases hh.2), if_neg (by omega), if_neg (by omega)]; exact qb_hint c word i hdec hr hbar e _ (.inr (.inl ⟨h2, he, rfl⟩)) w
      · rw [if_neg (fun hh => h2 hh.1)]
        by_cases h3 : i.imm = 3
        · rw [if_pos h3]; exact qb_hint c word i hdec hr hbar e _ (.inr (.inr (.inl ⟨h3, rfl⟩))) w
        · rw [if_neg h3]
          by_cases h4 : i.imm = 4
          · rw [if_pos h4]; exact qb_hint c word i hdec hr hbar e _ (.inr (.inr (.inr ⟨h4, rfl⟩))) w
          · rw [if_neg h4]; exact qb_37_0 c word i hdec hr hbar e (by simp [h2]) (by simp [h3]) (by simp [h4]) w
  · have ev : wantV c i = unkV := by simp [wantV, hbar]
    rw [ev]
    exact qb_bar c word i hdec hr hbar w
set_option maxRecDepth 4000 in
set_option maxHeartbeats 4000000 in
theorem qbegin_no (c : Cor) (word : Int) (hr : rightC c = false) (w : World) :
    Calls Tryz.prog 10 #[c.val, .int .u32 word] w fun e w' => e = .returned (.tuple #[nilW.val, .bool false]) ∧ Below w.heap.size w w' := by
  go_enter Tryz.func10, Tryz.ntmps10
  go_upto_region 1 with fail
  have H := stwo_start w c.cells #[.int .i64 0, .int .u64 0, .int .u64 0, .int .i64 0, .bool false, .int .i64 0, .bool false, .int .i64 0, .int .i64 0, .int .i64 0] 26 30
  generalize hb : w.heap.size = b at H ⊢
  generalize (w.alloc _).alloc _ = w1 at H ⊢
  obtain ⟨Z, hZ, H⟩ : ∃ Z, Z.size = 10 ∧ Has w [(b + 1, Z, 30), (b, c.cells, 26)] w1 := ⟨_, rfl, H⟩
  have hne : ∀ p ∈ [(b, c.cells, (26 : TypeId))], p.1 ≠ b + 1 := one_other (by omega)
  go_wp2_with (first | ((with_reducible refine wpList_load_ifA rfl 26 _ rfl b rfl 26 _ (0, 0) _ (H.get (List.mem_cons_of_mem _ List.mem_cons_self)) Tryz.underlying26 rfl (Cor.info _) ?_); simp only [Act.put, List.setIfInBounds_toArray, List.set_cons_succ, List.set_cons_zero]) | (go_at_call 23; refine (refRight_c c _).mono ?_; rw [hr]; rintro e wa ⟨rfl, hB⟩; dsimp only; replace H := H.grow hB) | ((with_reducible refine wpList_built_w rfl _ rfl nilW (by kernel_rfl) ?_); simp only [Act.put, List.setIfInBounds_toArray, List.set_cons_succ, List.set_cons_zero]) | ((with_reducible refine wpList_store_w rfl _ _ rfl H hne hZ _ rfl rfl ?_); intro wq H; simp only [Act.put]))
  exact bodyPost_ret (back_wt rfl _ _ _ _ _ _ rfl (H.get List.mem_cons_self)) rfl ⟨rfl, by first | exact H.below | (rw [← hb]; exact H.below)⟩
theorem qbegin_c (c : Cor) (word : Int) (hW : W32 word) (hx : ∀ (i : Nat) (h : i < 31), U64 c.x[i]) (w : World) :
    Calls Tryz.prog 10 #[c.val, .int .u32 word] w fun e w' => e = .returned (.tuple #[(beginV c (decV word)).val, .bool (rightC c)]) ∧ Below w.heap.size w w' := by
  unfold beginV
  cases hr : rightC c
  · rw [if_neg (by decide)]; exact qbegin_no c word hr w
  · rw [if_pos rfl]; exact qbegin_i c word (decV word) (rdecode_c word hW) (dec_fine hW) (imm_zero (dec_right hW)) (x_in hx _) hr w
set_option maxRecDepth 4000 in
set_option maxHeartbeats 4000000 in
theorem qfetch_c (c : Cor) (hpc : 0 ≤ c.pc) (w : World) :
    Calls Tryz.prog 12 #[c.val] w fun e w' => e = .returned (.tuple #[(fetchV c).val, .bool (rightC c)]) ∧ Below w.heap.size w w' := by
  have hm : ∀ n : Int, 0 ≤ n → n.tmod 4 = n % 4 := fun n h => Int.tmod_eq_emod_of_nonneg h
  cases hr : rightC c
  · have ev : fetchV c = nilW := by simp [fetchV, hr]
    rw [ev]
    go_enter Tryz.func12, Tryz.ntmps12
    go_upto_region 1 with fail
    have H := stwo_start w c.cells #[.int .i64 0, .int .u64 0, .int .u64 0, .int .i64 0, .bool false, .int .i64 0, .bool false, .int .i64 0, .int .i64 0, .int .i64 0] 26 30
    generalize hb : w.heap.size = b at H ⊢
    generalize (w.alloc _).alloc _ = w1 at H ⊢
    obtain ⟨Z, hZ, H⟩ : ∃ Z, Z.size = 10 ∧ Has w [(b + 1, Z, 30), (b, c.cells, 26)] w1 := ⟨_, rfl, H⟩
    have hne : ∀ p ∈ [(b, c.cells, (26 : TypeId))], p.1 ≠ b + 1 := one_other (by omega)
    go_wp2_with (first | ((with_reducible refine wpList_load_ifA rfl 26 _ rfl b rfl 26 _ (0, 0) _ (H.get (List.mem_cons_of_mem _ List.mem_cons_self)) Tryz.underlying26 rfl (Cor.info _) ?_); simp only [Act.put, List.setIfInBounds_toArray, List.set_cons_succ, List.set_cons_zero]) | (go_at_call 23; refine (refRight_c c _).mono ?_; rw [hr]; rintro e wa ⟨rfl, hB⟩; dsimp only; replace H := H.grow hB) | ((with_reducible refine wpList_built_w rfl _ rfl nilW (by kernel_rfl) ?_); simp only [Act.put, List.setIfInBounds_toArray, List.set_cons_succ, List.set_cons_zero]) | ((with_reducible refine wpList_store_w rfl _ _ rfl H hne hZ _ rfl rfl ?_); intro wq H; simp only [Act.put]))
    exact bodyPost_ret (back_wt rfl _ _ _ _ _ _ rfl (H.get List.mem_cons_self)) rfl ⟨rfl, by first | exact H.below | (rw [← hb]; exact H.below)⟩
  · by_cases h4 : c.pc % 4 = 0
    · have ev : fetchV c = { nilW with kind := 1, addr := c.pc } := by simp [fetchV, hr, h4]
      have e4 : (c.pc.tmod 4 != 0) = false := by rw [hm _ hpc]; simp [h4]
      rw [ev]
      go_enter Tryz.func12, Tryz.ntmps12
      go_upto_region 1 with fail
      have H := stwo_start w c.cells #[.int .i64 0, .int .u64 0, .int .u64 0, .int .i64 0, .bool false, .int .i64 0, .bool false, .int .i64 0, .int .i64 0, .int .i64 0] 26 30
      generalize hb : w.heap.size = b at H ⊢
      generalize (w.alloc _).alloc _ = w1 at H ⊢
      obtain ⟨Z, hZ, H⟩ : ∃ Z, Z.size = 10 ∧ Has w [(b + 1, Z, 30), (b, c.cells, 26)] w1 := ⟨_, rfl, H⟩
      have hne : ∀ p ∈ [(b, c.cells, (26 : TypeId))], p.1 ≠ b + 1 := one_other (by omega)
      go_upto_region 4 with (first | ((with_reducible refine wpList_load_ifA rfl 26 _ rfl b rfl 26 _ (0, 0) _ (H.get (List.mem_cons_of_mem _ List.mem_cons_self)) Tryz.underlying26 rfl (Cor.info _) ?_); simp only [Act.put, List.setIfInBounds_toArray, List.set_cons_succ, List.set_cons_zero]) | (go_at_call 23; refine (refRight_c c _).mono ?_; rw [hr]; rintro e wa ⟨rfl, hB⟩; dsimp only; replace H := H.grow hB))
      have c33 := H.at (List.mem_cons_of_mem _ List.mem_cons_self) 33 (.int .u64 c.pc) c.a33
      go_wp2_with (first | ((with_reducible refine wpList_built_w rfl _ rfl { nilW with kind := 1, addr := c.pc } (by kernel_rfl) ?_); simp only [Act.put, List.setIfInBounds_toArray, List.set_cons_succ, List.set_cons_zero]) | ((with_reducible refine wpList_store_w rfl _ _ rfl H hne hZ _ rfl rfl ?_); intro wq H; simp only [Act.put]))
      exact bodyPost_ret (back_wt rfl _ _ _ _ _ _ rfl (H.get List.mem_cons_self)) rfl ⟨rfl, by first | exact H.below | (rw [← hb]; exact H.below)⟩
    · have ev : fetchV c = { nilW with kind := 15, cls := 34, addr := c.pc } := by simp [fetchV, hr, h4]
      have e4 : (c.pc.tmod 4 != 0) = true := by rw [hm _ hpc]; simp [h4]
      rw [ev]
      go_enter Tryz.func12, Tryz.ntmps12
      go_upto_region 1 with fail
      have H := stwo_start w c.cells #[.int .i64 0, .int .u64 0, .int .u64 0, .int .i64 0, .bool false, .int .i64 0, .bool false, .int .i64 0, .int .i64 0, .int .i64 0] 26 30
      generalize hb : w.heap.size = b at H ⊢
      generalize (w.alloc _).alloc _ = w1 at H ⊢
      obtain ⟨Z, hZ, H⟩ : ∃ Z, Z.size = 10 ∧ Has w [(b + 1, Z, 30), (b, c.cells, 26)] w1 := ⟨_, rfl, H⟩
      have hne : ∀ p ∈ [(b, c.cells, (26 : TypeId))], p.1 ≠ b + 1 := one_other (by omega)
      go_upto_region 4 with (first | ((with_reducible refine wpList_load_ifA rfl 26 _ rfl b rfl 26 _ (0, 0) _ (H.get (List.mem_cons_of_mem _ List.mem_cons_self)) Tryz.underlying26 rfl (Cor.info _) ?_); simp only [Act.put, List.setIfInBounds_toArray, List.set_cons_succ, List.set_cons_zero]) | (go_at_call 23; refine (refRight_c c _).mono ?_; rw [hr]; rintro e wa ⟨rfl, hB⟩; dsimp only; replace H := H.grow hB))
      have c33 := H.at (List.mem_cons_of_mem _ List.mem_cons_self) 33 (.int .u64 c.pc) c.a33
      go_wp2_with (first | ((with_reducible refine wpList_built_w rfl _ rfl { nilW with kind := 15, cls := 34, addr := c.pc } (by kernel_rfl) ?_); simp only [Act.put, List.setIfInBounds_toArray, List.set_cons_succ, List.set_cons_zero]) | ((with_reducible refine wpList_store_w rfl _ _ rfl H hne hZ _ rfl rfl ?_); intro wq H; simp only [Act.put]))
      exact bodyPost_ret (back_wt rfl _ _ _ _ _ _ rfl (H.get List.mem_cons_self)) rfl ⟨rfl, by first | exact H.below | (rw [← hb]; exact H.below)⟩
end Go.Proofs.YtbjcdpmhmebjnaaGreat
