/- What an instruction reads, as the document's own answer tells: a contract, for every instruction. -/
import Derived.Test.YtjmdgfimmjodjaaGreatDoorV22
import Derived.Test.YtjmdgfimmjodjaaGreatDoorV23
import Derived.Test.YtjmdgfimmjodjaaGreatDoorV24
import Derived.Test.YtjmdgfimmjodjaaGreatDoorV17
import Derived.Laws.AppendOwnNone
import Derived.Great.BuildSlice
namespace Go.Proofs.YtjmdgfimmjodjaaGreatDoor
open Go.RowKit Go.Rel
theorem or_nil {S : Nat} (h : S = 0) : S = setAt [] [] := h.trans set_none.symm
set_option maxRecDepth 8000 in
set_option maxHeartbeats 1000000 in
theorem rReads_no (i : Ins) (hR : rightB i = false) (w : World) :
    Calls Tryz.prog 17 #[i.val] w fun e w' => ∃ v, e = .returned v ∧ w'.ownsRow w.heap.size 3 1 v (listL (setOf i (readsV i)) 32).length (listV (setOf i (readsV i)) 32) ∧ Below w.heap.size w w' := by
  have H1 := one_start i w
  have hS : Hid (setOf i (readsV i) = 0) := by show _ = _; simp only [setOf, hR, cond_false]
  go_enter Tryz.func17, Tryz.ntmps17
  go_upto_region 2 with (first | (refine wpList_load_if rfl 23 _ rfl w.heap.size rfl 23 _ (0, 0) _ H1.box Tryz.underlying23 rfl (by kernel_rfl) ?_; simp only [Act.put, List.setIfInBounds_toArray, List.set_cons_succ, List.set_cons_zero]) | (go_at_call 5; refine (rright_c i _).mono ?_; rw [hR]; rintro e w2 ⟨rfl, hb2⟩; replace H1 := H1.grow hb2; clear hb2; dsimp only))
  go_wp2
  go_ret
  refine ⟨_, rfl, ?_, H1.below⟩
  rw [hS.out]
  exact World.ownsRow_nil _ _ _ _
set_option maxHeartbeats 2000000 in
theorem rReads_c (i : Ins) (w : World) :
    Calls Tryz.prog 17 #[i.val] w fun e w' => ∃ v, e = .returned v ∧ w'.ownsRow w.heap.size 3 1 v (listL (setOf i (readsV i)) 32).length (listV (setOf i (readsV i)) 32) ∧ Below w.heap.size w w' := by
  cases hR : rightB i
  · exact rReads_no i hR w
  · have hr := inR_of hR
    have ho := op_in hR
    have rN := r32_n hr
    have rM := r32_zf hr.m0 hr.m1
    have rD := r32_zf hr.d0 hr.d1
    have rA := r32_zf hr.a0 hr.a1
    have eN := set_one (spN i) hr.n0 hr.n1
    have eM := set_zero hr.m0 hr.m1
    have eD := set_zero hr.d0 hr.d1
    have eA := set_zero hr.a0 hr.a1
    have key : ∀ S, setOf i (readsV i) = S → (Calls Tryz.prog 17 #[i.val] w fun e w' => ∃ v, e = .returned v ∧ w'.ownsRow w.heap.size 3 1 v (listL S 32).length (listV S 32) ∧ Below w.heap.size w w') → Calls Tryz.prog 17 #[i.val] w fun e w' => ∃ v, e = .returned v ∧ w'.ownsRow w.heap.size 3 1 v (listL (setOf i (readsV i)) 32).length (listV (setOf i (readsV i)) 32) ∧ Below w.heap.size w w' := fun S h c => by rw [h]; exact c
    have hSo : setOf i (readsV i) = (readsV i).toNat := by simp only [setOf, hR, cond_true]
    rw [hSo] at key ⊢
    clear hSo
    obtain ⟨op, sub, rd, rn, rm, ra, imm, imm2, amount, shift, cond, sys, flags, minus, not, link⟩ := i
    dsimp only at ho rM rD rA eM eD eA eN
    change setAt [rn] [_] = (setNV _).toNat at eN
    rcases (by omega : op = 1 ∨ op = 2 ∨ op = 3 ∨ op = 4 ∨ op = 5 ∨ op = 6 ∨ op = 7 ∨ op = 8 ∨ op = 9 ∨ op = 10 ∨ op = 11 ∨ op = 12 ∨ op = 13 ∨ op = 14 ∨ op = 15 ∨ op = 16 ∨ op = 17 ∨ op = 18 ∨ op = 19 ∨ op = 20 ∨ op = 21 ∨ op = 22 ∨ op = 23 ∨ op = 24 ∨ op = 25 ∨ op = 26 ∨ op = 27 ∨ op = 28 ∨ op = 29 ∨ op = 30 ∨ op = 31 ∨ op = 32 ∨ op = 33 ∨ op = 34 ∨ op = 35 ∨ op = 36 ∨ op = 37) with rfl | rfl | rfl | rfl | rfl | rfl | rfl | rfl | rfl | rfl | rfl | rfl | rfl | rfl | rfl | rfl | rfl | rfl | rfl | rfl | rfl | rfl | rfl | rfl | rfl | rfl | rfl | rfl | rfl | rfl | rfl | rfl | rfl | rfl | rfl | rfl | rfl
    · refine key _ ?_ (rd_1 sub rd rn rm ra imm imm2 amount shift cond sys flags minus not link hR w)
      rw [show readsV (⟨1, sub, rd, rn, rm, ra, imm, imm2, amount, shift, cond, sys, flags, minus, not, link⟩ : Ins) = orS 0 (setNV (⟨1, sub, rd, rn, rm, ra, imm, imm2, amount, shift, cond, sys, flags, minus, not, link⟩ : Ins)) by rfl, orS_zero rN, eN]
    · refine key _ ?_ (rd_2 sub rd rn rm ra imm imm2 amount shift cond sys flags minus not link hR w)
      rw [show readsV (⟨2, sub, rd, rn, rm, ra, imm, imm2, amount, shift, cond, sys, flags, minus, not, link⟩ : Ins) = orS (orS 0 (zeroF rm)) (setNV (⟨2, sub, rd, rn, rm, ra, imm, imm2, amount, shift, cond, sys, flags, minus, not, link⟩ : Ins)) by rfl, orS_nat (r32_or r32_zero rM) rN, orS_zero rM, set_two, eN, eM, Nat.or_comm]
    · refine key _ ?_ (rd_3 sub rd rn rm ra imm imm2 amount shift cond sys flags minus not link hR w)
      rw [show readsV (⟨3, sub, rd, rn, rm, ra, imm, imm2, amount, shift, cond, sys, flags, minus, not, link⟩ : Ins) = orS (orS 0 (zeroF rm)) (setNV (⟨3, sub, rd, rn, rm, ra, imm, imm2, amount, shift, cond, sys, flags, minus, not, link⟩ : Ins)) by rfl, orS_nat (r32_or r32_zero rM) rN, orS_zero rM, set_two, eN, eM, Nat.or_comm]
    · refine key _ ?_ (rd_4 sub rd rn rm ra imm imm2 amount shift cond sys flags minus not link hR w)
      rw [show readsV (⟨4, sub, rd, rn, rm, ra, imm, imm2, amount, shift, cond, sys, flags, minus, not, link⟩ : Ins) = orS 0 (setNV (⟨4, sub, rd, rn, rm, ra, imm, imm2, amount, shift, cond, sys, flags, minus, not, link⟩ : Ins)) by rfl, orS_zero rN, eN]
    · cases hs : sub == 3
      · refine key _ ?_ (rd_5n sub rd rn rm ra imm imm2 amount shift cond sys flags minus not link hR hs w)
        rw [show (readsV (⟨5, sub, rd, rn, rm, ra, imm, imm2, amount, shift, cond, sys, flags, minus, not, link⟩ : Ins)) = 0 by simp [readsV, hs]]
        exact or_nil rfl
      · refine key _ ?_ (rd_5y sub rd rn rm ra imm imm2 amount shift cond sys flags minus not link hR hs w)
        rw [show (readsV (⟨5, sub, rd, rn, rm, ra, imm, imm2, amount, shift, cond, sys, flags, minus, not, link⟩ : Ins)) = orS 0 (zeroF rd) by simp [readsV, hs], orS_zero rD, eD]
    · refine key _ ?_ (rd_6 sub rd rn rm ra imm imm2 amount shift cond sys flags minus not link hR w)
      rw [show readsV (⟨6, sub, rd, rn, rm, ra, imm, imm2, amount, shift, cond, sys, flags, minus, not, link⟩ : Ins) = orS 0 (setNV (⟨6, sub, rd, rn, rm, ra, imm, imm2, amount, shift, cond, sys, flags, minus, not, link⟩ : Ins)) by rfl, orS_zero rN, eN]
    · refine key _ ?_ (rd_7 sub rd rn rm ra imm imm2 amount shift cond sys flags minus not link hR w)
      rw [show readsV (⟨7, sub, rd, rn, rm, ra, imm, imm2, amount, shift, cond, sys, flags, minus, not, link⟩ : Ins) = orS (orS 0 (zeroF rm)) (setNV (⟨7, sub, rd, rn, rm, ra, imm, imm2, amount, shift, cond, sys, flags, minus, not, link⟩ : Ins)) by rfl, orS_nat (r32_or r32_zero rM) rN, orS_zero rM, set_two, eN, eM, Nat.or_comm]
    · refine key _ ?_ (rd_8 sub rd rn rm ra imm imm2 amount shift cond sys flags minus not link hR w)
      rw [show readsV (⟨8, sub, rd, rn, rm, ra, imm, imm2, amount, shift, cond, sys, flags, minus, not, link⟩ : Ins) = orS (orS (orS 0 (zeroF ra)) (zeroF rm)) (setNV (⟨8, sub, rd, rn, rm, ra, imm, imm2, amount, shift, cond, sys, flags, minus, not, link⟩ : Ins)) by rfl, orS_nat (r32_or (r32_or r32_zero rA) rM) rN, orS_nat (r32_or r32_zero rA) rM, orS_zero rA, set_three, eN, eM, eA]
      rw [Nat.or_comm ((zeroF ra).toNat ||| (zeroF rm).toNat), Nat.or_comm (zeroF ra).toNat, Nat.or_assoc]
    · refine key _ ?_ (rd_9 sub rd rn rm ra imm imm2 amount shift cond sys flags minus not link hR w)
      rw [show readsV (⟨9, sub, rd, rn, rm, ra, imm, imm2, amount, shift, cond, sys, flags, minus, not, link⟩ : Ins) = orS (orS 0 (zeroF rm)) (setNV (⟨9, sub, rd, rn, rm, ra, imm, imm2, amount, shift, cond, sys, flags, minus, not, link⟩ : Ins)) by rfl, orS_nat (r32_or r32_zero rM) rN, orS_zero rM, set_two, eN, eM, Nat.or_comm]
    · refine key _ ?_ (rd_10 sub rd rn rm ra imm imm2 amount shift cond sys flags minus not link hR w)
      rw [show readsV (⟨10, sub, rd, rn, rm, ra, imm, imm2, amount, shift, cond, sys, flags, minus, not, link⟩ : Ins) = orS (orS 0 (zeroF rm)) (setNV (⟨10, sub, rd, rn, rm, ra, imm, imm2, amount, shift, cond, sys, flags, minus, not, link⟩ : Ins)) by rfl, orS_nat (r32_or r32_zero rM) rN, orS_zero rM, set_two, eN, eM, Nat.or_comm]
    · refine key _ ?_ (rd_11 sub rd rn rm ra imm imm2 amount shift cond sys flags minus not link hR w)
      rw [show readsV (⟨11, sub, rd, rn, rm, ra, imm, imm2, amount, shift, cond, sys, flags, minus, not, link⟩ : Ins) = 0 by rfl]
      exact or_nil rfl
    · refine key _ ?_ (rd_12 sub rd rn rm ra imm imm2 amount shift cond sys flags minus not link hR w)
      rw [show readsV (⟨12, sub, rd, rn, rm, ra, imm, imm2, amount, shift, cond, sys, flags, minus, not, link⟩ : Ins) = 0 by rfl]
      exact or_nil rfl
    · refine key _ ?_ (rd_13 sub rd rn rm ra imm imm2 amount shift cond sys flags minus not link hR w)
      rw [show readsV (⟨13, sub, rd, rn, rm, ra, imm, imm2, amount, shift, cond, sys, flags, minus, not, link⟩ : Ins) = 0 by rfl]
      exact or_nil rfl
    · refine key _ ?_ (rd_14 sub rd rn rm ra imm imm2 amount shift cond sys flags minus not link hR w)
      rw [show readsV (⟨14, sub, rd, rn, rm, ra, imm, imm2, amount, shift, cond, sys, flags, minus, not, link⟩ : Ins) = orS 0 (zeroF rd) by rfl, orS_zero rD, eD]
    · refine key _ ?_ (rd_15 sub rd rn rm ra imm imm2 amount shift cond sys flags minus not link hR w)
      rw [show readsV (⟨15, sub, rd, rn, rm, ra, imm, imm2, amount, shift, cond, sys, flags, minus, not, link⟩ : Ins) = orS 0 (zeroF rd) by rfl, orS_zero rD, eD]
    · refine key _ ?_ (rd_16 sub rd rn rm ra imm imm2 amount shift cond sys flags minus not link hR w)
      rw [show readsV (⟨16, sub, rd, rn, rm, ra, imm, imm2, amount, shift, cond, sys, flags, minus, not, link⟩ : Ins) = orS 0 (setNV (⟨16, sub, rd, rn, rm, ra, imm, imm2, amount, shift, cond, sys, flags, minus, not, link⟩ : Ins)) by rfl, orS_zero rN, eN]
    · refine key _ ?_ (rd_17 sub rd rn rm ra imm imm2 amount shift cond sys flags minus not link hR w)
      rw [show readsV (⟨17, sub, rd, rn, rm, ra, imm, imm2, amount, shift, cond, sys, flags, minus, not, link⟩ : Ins) = orS 0 (setNV (⟨17, sub, rd, rn, rm, ra, imm, imm2, amount, shift, cond, sys, flags, minus, not, link⟩ : Ins)) by rfl, orS_zero rN, eN]
    · refine key _ ?_ (rd_18 sub rd rn rm ra imm imm2 amount shift cond sys flags minus not link hR w)
      rw [show readsV (⟨18, sub, rd, rn, rm, ra, imm, imm2, amount, shift, cond, sys, flags, minus, not, link⟩ : Ins) = orS (orS 0 (setNV (⟨18, sub, rd, rn, rm, ra, imm, imm2, amount, shift, cond, sys, flags, minus, not, link⟩ : Ins))) (zeroF rd) by rfl, orS_nat (r32_or r32_zero rN) rD, orS_zero rN, set_two, eN, eD]
    · refine key _ ?_ (rd_19 sub rd rn rm ra imm imm2 amount shift cond sys flags minus not link hR w)
      rw [show readsV (⟨19, sub, rd, rn, rm, ra, imm, imm2, amount, shift, cond, sys, flags, minus, not, link⟩ : Ins) = orS (orS 0 (zeroF rm)) (setNV (⟨19, sub, rd, rn, rm, ra, imm, imm2, amount, shift, cond, sys, flags, minus, not, link⟩ : Ins)) by rfl, orS_nat (r32_or r32_zero rM) rN, orS_zero rM, set_two, eN, eM, Nat.or_comm]
    · refine key _ ?_ (rd_20 sub rd rn rm ra imm imm2 amount shift cond sys flags minus not link hR w)
      rw [show readsV (⟨20, sub, rd, rn, rm, ra, imm, imm2, amount, shift, cond, sys, flags, minus, not, link⟩ : Ins) = orS (orS (orS 0 (zeroF rm)) (setNV (⟨20, sub, rd, rn, rm, ra, imm, imm2, amount, shift, cond, sys, flags, minus, not, link⟩ : Ins))) (zeroF rd) by rfl, orS_nat (r32_or (r32_or r32_zero rM) rN) rD, orS_nat (r32_or r32_zero rM) rN, orS_zero rM, set_three, eN, eM, eD, Nat.or_comm (zeroF rm).toNat]
    · refine key _ ?_ (rd_21 sub rd rn rm ra imm imm2 amount shift cond sys flags minus not link hR w)
      rw [show readsV (⟨21, sub, rd, rn, rm, ra, imm, imm2, amount, shift, cond, sys, flags, minus, not, link⟩ : Ins) = orS 0 (setNV (⟨21, sub, rd, rn, rm, ra, imm, imm2, amount, shift, cond, sys, flags, minus, not, link⟩ : Ins)) by rfl, orS_zero rN, eN]
    · refine key _ ?_ (rd_22 sub rd rn rm ra imm imm2 amount shift cond sys flags minus not link hR w)
      rw [show readsV (⟨22, sub, rd, rn, rm, ra, imm, imm2, amount, shift, cond, sys, flags, minus, not, link⟩ : Ins) = orS (orS 0 (setNV (⟨22, sub, rd, rn, rm, ra, imm, imm2, amount, shift, cond, sys, flags, minus, not, link⟩ : Ins))) (zeroF rd) by rfl, orS_nat (r32_or r32_zero rN) rD, orS_zero rN, set_two, eN, eD]
    · refine key _ ?_ (rd_23 sub rd rn rm ra imm imm2 amount shift cond sys flags minus not link hR w)
      rw [show readsV (⟨23, sub, rd, rn, rm, ra, imm, imm2, amount, shift, cond, sys, flags, minus, not, link⟩ : Ins) = orS 0 (setNV (⟨23, sub, rd, rn, rm, ra, imm, imm2, amount, shift, cond, sys, flags, minus, not, link⟩ : Ins)) by rfl, orS_zero rN, eN]
    · refine key _ ?_ (rd_24 sub rd rn rm ra imm imm2 amount shift cond sys flags minus not link hR w)
      rw [show readsV (⟨24, sub, rd, rn, rm, ra, imm, imm2, amount, shift, cond, sys, flags, minus, not, link⟩ : Ins) = orS (orS 0 (setNV (⟨24, sub, rd, rn, rm, ra, imm, imm2, amount, shift, cond, sys, flags, minus, not, link⟩ : Ins))) (zeroF rd) by rfl, orS_nat (r32_or r32_zero rN) rD, orS_zero rN, set_two, eN, eD]
    · refine key _ ?_ (rd_25 sub rd rn rm ra imm imm2 amount shift cond sys flags minus not link hR w)
      rw [show readsV (⟨25, sub, rd, rn, rm, ra, imm, imm2, amount, shift, cond, sys, flags, minus, not, link⟩ : Ins) = 0 by rfl]
      exact or_nil rfl
    · refine key _ ?_ (rd_26 sub rd rn rm ra imm imm2 amount shift cond sys flags minus not link hR w)
      rw [show readsV (⟨26, sub, rd, rn, rm, ra, imm, imm2, amount, shift, cond, sys, flags, minus, not, link⟩ : Ins) = 0 by rfl]
      exact or_nil rfl
    · refine key _ ?_ (rd_27 sub rd rn rm ra imm imm2 amount shift cond sys flags minus not link hR w)
      rw [show readsV (⟨27, sub, rd, rn, rm, ra, imm, imm2, amount, shift, cond, sys, flags, minus, not, link⟩ : Ins) = 0 by rfl]
      exact or_nil rfl
    · refine key _ ?_ (rd_28 sub rd rn rm ra imm imm2 amount shift cond sys flags minus not link hR w)
      rw [show readsV (⟨28, sub, rd, rn, rm, ra, imm, imm2, amount, shift, cond, sys, flags, minus, not, link⟩ : Ins) = orS 0 (zeroF rd) by rfl, orS_zero rD, eD]
    · refine key _ ?_ (rd_29 sub rd rn rm ra imm imm2 amount shift cond sys flags minus not link hR w)
      rw [show readsV (⟨29, sub, rd, rn, rm, ra, imm, imm2, amount, shift, cond, sys, flags, minus, not, link⟩ : Ins) = 0 by rfl]
      exact or_nil rfl
    · refine key _ ?_ (rd_30 sub rd rn rm ra imm imm2 amount shift cond sys flags minus not link hR w)
      rw [show readsV (⟨30, sub, rd, rn, rm, ra, imm, imm2, amount, shift, cond, sys, flags, minus, not, link⟩ : Ins) = orS 0 (zeroF rd) by rfl, orS_zero rD, eD]
    · refine key _ ?_ (rd_31 sub rd rn rm ra imm imm2 amount shift cond sys flags minus not link hR w)
      rw [show readsV (⟨31, sub, rd, rn, rm, ra, imm, imm2, amount, shift, cond, sys, flags, minus, not, link⟩ : Ins) = 0 by rfl]
      exact or_nil rfl
    · refine key _ ?_ (rd_32 sub rd rn rm ra imm imm2 amount shift cond sys flags minus not link hR w)
      rw [show readsV (⟨32, sub, rd, rn, rm, ra, imm, imm2, amount, shift, cond, sys, flags, minus, not, link⟩ : Ins) = orS 0 (zeroF rd) by rfl, orS_zero rD, eD]
    · refine key _ ?_ (rd_33 sub rd rn rm ra imm imm2 amount shift cond sys flags minus not link hR w)
      rw [show readsV (⟨33, sub, rd, rn, rm, ra, imm, imm2, amount, shift, cond, sys, flags, minus, not, link⟩ : Ins) = 0 by rfl]
      exact or_nil rfl
    · refine key _ ?_ (rd_34 sub rd rn rm ra imm imm2 amount shift cond sys flags minus not link hR w)
      rw [show readsV (⟨34, sub, rd, rn, rm, ra, imm, imm2, amount, shift, cond, sys, flags, minus, not, link⟩ : Ins) = 0 by rfl]
      exact or_nil rfl
    · refine key _ ?_ (rd_35 sub rd rn rm ra imm imm2 amount shift cond sys flags minus not link hR w)
      rw [show readsV (⟨35, sub, rd, rn, rm, ra, imm, imm2, amount, shift, cond, sys, flags, minus, not, link⟩ : Ins) = 0 by rfl]
      exact or_nil rfl
    · refine key _ ?_ (rd_36 sub rd rn rm ra imm imm2 amount shift cond sys flags minus not link hR w)
      rw [show readsV (⟨36, sub, rd, rn, rm, ra, imm, imm2, amount, shift, cond, sys, flags, minus, not, link⟩ : Ins) = 0 by rfl]
      exact or_nil rfl
    · refine key _ ?_ (rd_37 sub rd rn rm ra imm imm2 amount shift cond sys flags minus not link hR w)
      rw [show readsV (⟨37, sub, rd, rn, rm, ra, imm, imm2, amount, shift, cond, sys, flags, minus, not, link⟩ : Ins) = 0 by rfl]
      exact or_nil rfl
end Go.Proofs.YtjmdgfimmjodjaaGreatDoor
/- Registers, numbers, masks and shifts, as package insn writes them: contracts. -/
namespace Go.Proofs.YtjmdgfimmjodjaaGreatDoor
open Go.RowKit Go.Rel

theorem itoa_le {n : Int} (h0 : -9223372036854775808 ≤ n) (h1 : n ≤ 9223372036854775807) : (Lib.itoa n).length ≤ 21 := Lib.itoa_length_le n h0 h1

set_option maxRecDepth 4000 in
set_option maxHeartbeats 400000 in
theorem number_c (n : Int) (h0 : -9223372036854775808 ≤ n) (h1 : n ≤ 9223372036854775807) (w : World) (T : Tab w) :
    Calls Tryz.prog 54 #[vI n] w fun e w' => e = .returned (strV (numT n)) ∧ Below w.heap.size w w' := by
  have hl := itoa_le h0 h1
  have H0 : Hid (-9223372036854775808 ≤ n) := h0
  have H1 : Hid (n ≤ 9223372036854775807) := h1
  clear h0 h1
  go_enter Tryz.func54, Tryz.ntmps54
  go_wp2_with (go_at_call 78; refine (itoa_c n H0.out H1.out _ T).mono ?_; rintro e w' ⟨rfl, hb⟩)
  go_ret
  exact ⟨congrArg Ending.returned (congrArg Value.string (str_app [35] _)), hb⟩

set_option maxRecDepth 4000 in
set_option maxHeartbeats 400000 in
theorem name_c (n : Int) (sp : Bool) (h0 : 0 ≤ n) (h1 : n ≤ 31) (w : World) (T : Tab w) :
    Calls Tryz.prog 51 #[vI n, .bool sp] w fun e w' => e = .returned (strV (regT n sp)) ∧ Below w.heap.size w w' := by
  have hl := itoa_le (n := n) (by omega) (by omega)
  have H0 : Hid (-9223372036854775808 ≤ n) := by show _ ≤ _; omega
  have H1 : Hid (n ≤ 9223372036854775807) := by show _ ≤ _; omega
  clear h0 h1
  cases h31 : n == 31
  · have hR : Hid (regT n sp = 120 :: Lib.itoa n) := by show _ = _; unfold regT; rw [h31]; rfl
    go_enter Tryz.func51, Tryz.ntmps51
    go_wp2_with (go_at_call 78; refine (itoa_c n H0.out H1.out _ T).mono ?_; rintro e w' ⟨rfl, hb⟩)
    go_ret
    rw [hR.out]
    exact ⟨congrArg Ending.returned (congrArg Value.string (str_app [120] _)), hb⟩
  · obtain rfl := eq_of_beq h31
    clear hl H0 H1 h31
    cases sp
    all_goals
      go_enter Tryz.func51, Tryz.ntmps51
      go_wp2
      go_ret
      exact ⟨rfl, Below.refl _ _⟩
end Go.Proofs.YtjmdgfimmjodjaaGreatDoor
/- Shifts, masks and places, as package insn writes them: contracts. -/
namespace Go.Proofs.YtjmdgfimmjodjaaGreatDoor
open Go.RowKit Go.Rel

/-- A row of texts that the call made, or none. -/
abbrev RowT (base : Nat) (xs : List Tx) (v : Value) (w : World) : Prop := w.ownsRow base 9 1 v xs.length (xs.map strV)

theorem own_grow {w w' : World} {base : Nat} {e : TypeId} {size n : Nat} {v : Value} {xs : List Value} (h : w.ownsRow base e size v n xs) (hb : Below w.heap.size w w') : w'.ownsRow base e size v n xs := by
  obtain ⟨h1, h2⟩ := h
  refine ⟨h1, ?_⟩
  rcases h2 with h2 | ⟨g, cap, cur, hv, hg, hc, r⟩
  · exact Or.inl h2
  · refine Or.inr ⟨g, cap, cur, hv, hg, ?_, r⟩
    rw [hb.block g (Array.getElem?_eq_some_iff.1 hc).1]
    exact hc
theorem row_up (base : Nat) (xs : List Tx) (v : Value) : Up Grows (RowT base xs v) := fun _ _ h hb => own_grow h hb

theorem own_new (w : World) (cs : List Value) (n : Nat) (hn : cs.length = n) (h1 : n ≤ 1000) (base : Nat) (hb : base ≤ w.heap.size) : (w.alloc (.cells cs.toArray 9)).ownsRow base 9 1 (.slice (some ⟨w.heap.size, 0, none⟩) n n) n cs := by
  refine ⟨by omega, Or.inr ⟨w.heap.size, n, cs.toArray, rfl, hb, heap_alloc_new _ _, Nat.le_refl _, by unfold maxLen; omega, by simp [hn], ?_⟩⟩
  simp [← hn]
theorem row_new (w : World) (xs : List Tx) (h1 : xs.length ≤ 1000) (base : Nat) (hb : base ≤ w.heap.size) : RowT base xs (.slice (some ⟨w.heap.size, 0, none⟩) xs.length xs.length) (w.alloc (.cells (xs.map strV).toArray 9)) :=
  own_new w _ _ (by simp) h1 base hb

theorem maskV_bounds (n r s : Int) : 0 ≤ maskV n r s ∧ maskV n r s < 18446744073709551616 := by
  unfold maskV
  split
  · have := orBits_lt (fun i => (turnN (2 ^ ((s % sizeI n s).toNat + 1) - 1) (r % sizeI n s).toNat (sizeI n s).toNat).testBit (i % (sizeI n s).toNat)) 64
    unfold maskN
    omega
  · omega

theorem sft_len {k a : Int} (h0 : 0 ≤ k) (h3 : k ≤ 3) (a0 : -9223372036854775808 ≤ a) (a1 : a ≤ 9223372036854775807) : (sftT k a).length ≤ 26 := by
  have := shift_split h0 h3
  have := itoa_le a0 a1
  simp [sftT, numT]; omega
theorem num_len {a : Int} (a0 : -9223372036854775808 ≤ a) (a1 : a ≤ 9223372036854775807) : (numT a).length ≤ 22 := by
  have := itoa_le a0 a1
  simp [numT]; omega
theorem reg_len {n : Int} (sp : Bool) (h0 : 0 ≤ n) (h1 : n ≤ 31) : (regT n sp).length ≤ 22 := by
  have := itoa_le (n := n) (by omega) (by omega)
  unfold regT
  cases n == 31
  · simp; omega
  · cases sp <;> simp

set_option maxRecDepth 4000 in
set_option maxHeartbeats 800000 in
theorem maskT_c (i : Ins) (w : World) (T : Tab w) : Calls Tryz.prog 56 #[i.val] w fun e w' => e = .returned (strV (maskT i)) ∧ Below w.heap.size w w' := by
  have HB := one_start i w
  have hm := maskV_bounds i.amount i.imm i.imm2
  obtain ⟨u, hu⟩ : ∃ u : Nat, maskV i.amount i.imm i.imm2 = (u : Int) := ⟨_, (Int.toNat_of_nonneg hm.1).symm⟩
  have hu64 : Hid (u < 18446744073709551616) := by show _ < _; omega
  have hl : (Lib.decDigits u).length ≤ 20 := by
    rw [Lib.decDigits_length]
    by_cases h1 : 1 ≤ u
    · have := Lib.numDigits_eq u h1 hu64.out
      split at this <;> omega
    · rw [Lib.nDigits_small (by omega)]; omega
  have hU : Hid (maskT i = 35 :: Lib.decDigits u) := by show _ = _; unfold maskT; rw [hu]; rfl
  clear hm
  have HU : Hid (maskV i.amount i.imm i.imm2 = (u : Int)) := hu
  clear hu
  go_enter Tryz.func56, Tryz.ntmps56
  repeat' (first | with_reducible refine then_exit ?_ | with_reducible refine then_normal ?_ | with_reducible refine inBlock_eq ?_ | with_reducible refine inBlock_ne rfl ?_ | with_reducible refine inBlock_normal ?_ | (refine wpList_load_if rfl 23 _ rfl w.heap.size rfl 23 _ (0, 0) _ HB.box Tryz.underlying23 rfl (by kernel_rfl) ?_; simp only [Act.put, List.setIfInBounds_toArray, List.set_cons_succ, List.set_cons_zero]) | (go_at_call 74; refine (maskOf_c i _).mono ?_; rw [HU.out]; rintro e w' ⟨rfl, hb⟩; dsimp only; replace HB := HB.grow hb; clear hb) | (go_at_call 80; refine (uint_c u hu64.out _ (T.grow HB.below)).mono ?_; rintro e w' ⟨rfl, hb⟩; dsimp only; replace HB := HB.grow hb; clear hb) | go_step)
  go_ret
  rw [hU.out]
  exact ⟨congrArg Ending.returned (congrArg Value.string (str_app [35] _)), HB.below⟩

set_option maxRecDepth 4000 in
set_option maxHeartbeats 800000 in
theorem shifted_c (k a : Int) (h0 : 0 ≤ k) (h3 : k ≤ 3) (a0 : -9223372036854775808 ≤ a) (a1 : a ≤ 9223372036854775807) (w : World) (T : Tab w) :
    Calls Tryz.prog 55 #[vI k, vI a] w fun e w' => ∃ v, e = .returned v ∧ RowT w.heap.size (shiftedT k a) v w' ∧ Below w.heap.size w w' := by
  have hl := sft_len h0 h3 a0 a1
  have hs := shift_split h0 h3
  have hn := num_len a0 a1
  have H0 : Hid (0 ≤ k) := h0
  have H3 : Hid (k ≤ 3) := h3
  have A0 : Hid (-9223372036854775808 ≤ a) := a0
  have A1 : Hid (a ≤ 9223372036854775807) := a1
  clear h0 h3 a0 a1
  have hE : Hid ((⟨(shiftT k).toArray⟩ : ByteArray) ++ ⟨#[32]⟩ ++ ⟨(numT a).toArray⟩ = ⟨(sftT k a).toArray⟩) := by
    show _ = _
    rw [str_app _ [32], str_app, List.append_assoc]
    rfl
  cases hk : k == 0
  · have hS : Hid (shiftedT k a = [sftT k a]) := by show _ = _; unfold shiftedT; rw [hk]; rfl
    go_enter Tryz.func55, Tryz.ntmps55
    repeat' (first | with_reducible refine then_exit ?_ | with_reducible refine then_normal ?_ | with_reducible refine inBlock_eq ?_ | with_reducible refine inBlock_ne rfl ?_ | with_reducible refine inBlock_normal ?_ | (go_at_call 59; refine (shift_c k H0.out H3.out _).mono ?_; rintro e w1 ⟨rfl, hb1⟩; dsimp only) | (go_at_call 54; refine (number_c a A0.out A1.out _ (T.grow hb1)).mono ?_; rintro e w2 ⟨rfl, hb2⟩; dsimp only) | go_step)
    go_ret
    refine ⟨_, rfl, ?_, below_then (below_then hb1 hb2) (below_alloc _ _)⟩
    rw [hS.out, hE.out]
    exact row_new w2 [sftT k a] (by simp) _ (below_then hb1 hb2).size
  · cases ha : a == 0
    · have hS : Hid (shiftedT k a = [sftT k a]) := by show _ = _; unfold shiftedT; rw [hk, ha]; rfl
      go_enter Tryz.func55, Tryz.ntmps55
      repeat' (first | with_reducible refine then_exit ?_ | with_reducible refine then_normal ?_ | with_reducible refine inBlock_eq ?_ | with_reducible refine inBlock_ne rfl ?_ | with_reducible refine inBlock_normal ?_ | (go_at_call 59; refine (shift_c k H0.out H3.out _).mono ?_; rintro e w1 ⟨rfl, hb1⟩; dsimp only) | (go_at_call 54; refine (number_c a A0.out A1.out _ (T.grow hb1)).mono ?_; rintro e w2 ⟨rfl, hb2⟩; dsimp only) | go_step)
      go_ret
      refine ⟨_, rfl, ?_, below_then (below_then hb1 hb2) (below_alloc _ _)⟩
      rw [hS.out, hE.out]
      exact row_new w2 [sftT k a] (by simp) _ (below_then hb1 hb2).size
    · have hS : Hid (shiftedT k a = []) := by show _ = _; unfold shiftedT; rw [hk, ha]; rfl
      go_enter Tryz.func55, Tryz.ntmps55
      repeat' (first | with_reducible refine then_exit ?_ | with_reducible refine then_normal ?_ | with_reducible refine inBlock_eq ?_ | with_reducible refine inBlock_ne rfl ?_ | with_reducible refine inBlock_normal ?_ | go_step)
      go_ret
      refine ⟨_, rfl, ?_, Below.refl _ _⟩
      rw [hS.out]
      exact World.ownsRow_nil _ _ _ _

theorem flat_le : ∀ (xs : List Tx), (∀ x ∈ xs, x.length ≤ 100) → (Lib.join xs commaT).length ≤ 102 * xs.length
  | [], _ => by simp [Lib.join]
  | [x], h => by
    rw [Lib.join_one]
    have := h x (by simp)
    simp; omega
  | x :: y :: r, h => by
    rw [join_two]
    have h1 := h x (by simp)
    have h2 := flat_le (y :: r) (fun z hz => h z (List.mem_cons_of_mem _ hz))
    simp only [List.length_append, List.length_cons] at h2 ⊢
    omega

theorem join_c (xs : List Tx) (v : Value) (base : Nat) (w : World) (hrow : RowT base xs v w) (hne : xs ≠ []) (hl : ∀ x ∈ xs, x.length ≤ 100) (hn : xs.length ≤ 10) :
    Calls Tryz.prog 28 #[v, strV commaT] w fun e w' => e = .returned (strV (Lib.join xs commaT)) ∧ Below w.heap.size w w' := by
  rcases hrow.2 with ⟨-, h0⟩ | ⟨g, cap, cur, rfl, hg, hc, hcap, -⟩
  · exact absurd (List.length_eq_zero_iff.1 h0) hne
  · have hcells := World.ownsRow.cells hrow (g := g) rfl
    have hlt := (Array.getElem?_eq_some_iff.1 hc).1
    have hmap : ((xs.map fun x => (⟨x.toArray⟩ : ByteArray)).map (·.data.toList)) = xs := by
      rw [List.map_map]
      exact List.map_id'' (fun _ => rfl) xs
    have := Tryz.strings_Join g 0 cap (xs.map fun x => (⟨x.toArray⟩ : ByteArray)) ⟨commaT.toArray⟩ w (fun j x hx => by
      rw [List.getElem?_map] at hx
      obtain ⟨y, hy, rfl⟩ := Option.map_eq_some_iff.1 hx
      have := hcells j (strV y) (by rw [List.getElem?_map, hy]; rfl)
      rwa [Lib.add_plain] at this) hlt (by rw [List.length_map]; omega) (by rw [List.length_map]; exact hcap) (by
      rw [hmap]
      have := flat_le xs hl
      show (Lib.join xs commaT).length ≤ _
      omega)
    rw [hmap, List.length_map] at this
    exact this

set_option maxRecDepth 4000 in
set_option maxHeartbeats 800000 in
theorem place_c (xs : List Tx) (v : Value) (base : Nat) (w : World) (hrow : RowT base xs v w) (hne : xs ≠ []) (hl : ∀ x ∈ xs, x.length ≤ 100) (hn : xs.length ≤ 10) :
    Calls Tryz.prog 58 #[v] w fun e w' => e = .returned (strV (placeT xs)) ∧ Below w.heap.size w w' := by
  have hE : Hid ((⟨#[91]⟩ : ByteArray) ++ ⟨(Lib.join xs commaT).toArray⟩ ++ ⟨#[93]⟩ = ⟨(placeT xs).toArray⟩) := by
    show _ = _
    rw [str_app [91], str_app _ [93]]
    rfl
  have hj := join_c xs v base w hrow hne hl hn
  have hle := flat_le xs hl
  replace hle : (Lib.join xs commaT).length ≤ 1020 := by omega
  clear hrow hne hl hn
  go_enter Tryz.func58, Tryz.ntmps58
  repeat' (first | with_reducible refine then_exit ?_ | with_reducible refine then_normal ?_ | with_reducible refine inBlock_eq ?_ | with_reducible refine inBlock_ne rfl ?_ | with_reducible refine inBlock_normal ?_ | (go_at_call 28; refine hj.mono ?_; rintro e w1 ⟨rfl, hb1⟩; dsimp only) | go_step)
  go_ret
  exact ⟨congrArg Ending.returned (congrArg Value.string hE.out), hb1⟩
end Go.Proofs.YtjmdgfimmjodjaaGreatDoor
