/- The bus: Read, Write. -/
import Derived.Test.YteklkololojamaaGreatBg
namespace Go.Proofs.YteklkololojamaaGreat
open Go.RowKit
set_option linter.unusedVariables false
set_option linter.unusedSimpArgs false
set_option maxRecDepth 8000

def enW (n : Nat) (S : Bs) (core : Int) : Nat := Bit.orN (fun i => (lookV n S.P core i).e) 64
def peW (n : Nat) (S : Bs) (core : Int) : Nat := Bit.orN (fun i => ((lookV n S.P core i).l || (lookV n S.P core i).h)) 64
def acW (n : Nat) (S : Bs) (core : Int) : Nat := Bit.orN (fun i => (lookV n S.P core i).a) 64
/-- What a register of a range tells. -/
def rdV (n : Nat) (S : Bs) (core : Int) (k p : Nat) : Int := match k with
  | 0 => enW n S core
  | 1 => enW n S core
  | 2 => peW n S core
  | 3 => peW n S core
  | 4 => acW n S core
  | 5 => (lookV n S.P core p).rank % 18446744073709551616
  | 6 => (lookV n S.P 0 (32 + (p : Int))).goes % 18446744073709551616
  | _ => S.O.length
/-- What is made of a bus by a register of a range. -/
def wrS (n : Nat) (S : Bs) (core : Int) (k p : Nat) (v : Nat) : Bs := match k with
  | 0 => { S with P := sprF (fun Q id => genableP n Q core id true) S.P v 64 }
  | 1 => { S with P := sprF (fun Q id => genableP n Q core id false) S.P v 64 }
  | 2 => { S with P := sprF (fun Q id => gpendP n Q core id true) S.P v 64 }
  | 3 => { S with P := sprF (fun Q id => gpendP n Q core id false) S.P v 64 }
  | 4 => S
  | 5 => { S with P := grankP n S.P core p (v % 256 : Nat) }
  | 6 => routeS n S p v
  | _ => sayS S v
def brdV (n : Nat) (S : Bs) (core a : Int) : Int := match findK a with
  | none => 0
  | some k => if hasB n core then rdV n S core k (plcK k a) else 0
def brdE (n : Nat) (core a : Int) : Int := match findK a with
  | none => 1
  | some _ => if hasB n core then 0 else 1
def bwrS (n : Nat) (S : Bs) (core a : Int) (v : Nat) : Bs := match findK a with
  | none => S
  | some k => if hasB n core then wrS n S core k (plcK k a) v else S
section
variable {b g t n : Nat} {S S' : Bs} {Y Y' : BLay} {w w' w1 w2 : World}

set_option maxHeartbeats 2000000 in
theorem bread_c (H : BusAt b g t n S Y w) (core a : Int) : Calls Tryz.prog 13 #[ptr b 0, vI core, vU a] w fun e w' => e = .returned (.tuple #[vU (brdV n S core a), vI (brdE n core a)]) ∧ Below w.heap.size w w' := by
  have hfind := find_k a w
  have hno : findK a = none → brdV n S core a = 0 ∧ brdE n core a = 1 := fun h => by unfold brdV brdE; rw [h]; exact ⟨rfl, rfl⟩
  have hyes : ∀ k, findK a = some k → hasB n core = true → brdV n S core a = rdV n S core k (plcK k a) ∧ brdE n core a = 0 := fun k h e => by unfold brdV brdE; rw [h]; dsimp only; rw [e, if_pos rfl, if_pos rfl]; exact ⟨rfl, rfl⟩
  have hnot : ∀ k, findK a = some k → hasB n core = false → brdV n S core a = 0 ∧ brdE n core a = 1 := fun k h e => by unfold brdV brdE; rw [h]; dsimp only; rw [e, if_neg (by decide), if_neg (by decide)]; exact ⟨rfl, rfl⟩

  cases hf : findK a with
  | none =>
    rw [hf] at hfind
    have hans := show Hid _ from hno hf
    go_enter Tryz.func13, Tryz.ntmps13
    go_upto_region 2 with (first | (go_at_call 42; refine hfind.mono ?_; rintro e w1 ⟨rfl, hB1⟩; dsimp only) | (refine spn_st rfl _ _ rfl w1.heap.size rfl spn0 rfl rfl _ (by kernel_rfl) rfl (heap_alloc_new _ _) ?_; simp only [Act.put, List.setIfInBounds_toArray, List.set_cons_succ, List.set_cons_zero]))
    generalize hw3 : World.setRow _ _ _ = w3
    have hB3 : Below w1.heap.size w1 w3 := by rw [← hw3]; exact below_setRow (below_alloc _ _) (Nat.le_refl _)
    have hB := show Hid _ from below_then hB1 (Nat.le_refl _) hB3
    clear hw3 hB3 hB1 hfind
    go_wp2
    go_ret2
    exact ⟨by rw [hans.out.1, hans.out.2]; rfl, hB.out⟩
  | some k =>
    obtain ⟨hk, hhit⟩ := findF_lt hf
    rw [hf] at hfind
    replace hfind : Calls Tryz.prog 42 #[vU a] w fun e w' => e = .returned (.tuple #[(spn k).val, vI (plcK k a), .bool true]) ∧ Below w.heap.size w w' := hfind
    have hp32 : k = 6 → plcK k a < 32 := fun e => by
      subst e
      simp only [hitK, Bool.and_eq_true, decide_eq_true_eq] at hhit
      have h1 : offK 6 a < 32 * 8 := hhit.1
      have h0 : 0 ≤ offK 6 a := by unfold offK; omega
      unfold plcK
      omega
    have hans := fun e => show Hid _ from hyes k hf e
    have hansN := fun e => show Hid _ from hnot k hf e
    have h12 := spn_r1 k
    generalize hpp : plcK k a = p at *
    generalize hs : spn k = s at hfind h12
    replace hs := show Hid _ from hs
    clear hhit hf hyes hnot hno
    go_enter Tryz.func13, Tryz.ntmps13
    go_upto_region 2 with (first | (go_at_call 42; refine hfind.mono ?_; rintro e w1 ⟨rfl, hB1⟩; dsimp only) | (refine spn_st rfl _ _ rfl w1.heap.size rfl s h12.1 h12.2 _ (by kernel_rfl) rfl (heap_alloc_new _ _) ?_; simp only [Act.put, List.setIfInBounds_toArray, List.set_cons_succ, List.set_cons_zero]))
    generalize hw3 : World.setRow _ _ _ = w3
    have hd : w3.heap[w1.heap.size]? = some (.cells s.row.toArray 80) := by rw [← hw3]; exact setRow_heap _ _ _ _ _ _ (heap_alloc_new _ _)
    have hB3 : Below w1.heap.size w1 w3 := by rw [← hw3]; exact below_setRow (below_alloc _ _) (Nat.le_refl _)
    have hB := below_then hB1 (Nat.le_refl _) hB3
    have z2 : w3.cell? ⟨w1.heap.size, 2, none⟩ = some s.r := by rw [cell_of_row _ _ _ _ _ _ hd]; rfl
    have H1 := H.grow hB
    replace hB := show Hid _ from hB
    clear hw3 hB3 hB1 hd hfind
    generalize w1.heap.size = q at *
    have hhas := bhas_c H1 core
    cases hc : hasB n core with
    | false =>
      rw [hc] at hhas
      replace hansN := hansN hc
      clear hans
      go_wp2_with (first | (go_at_call 43; refine hhas.mono ?_; rintro e w' ⟨rfl, rfl⟩; dsimp only))
      go_ret2
      exact ⟨by rw [hansN.out.1, hansN.out.2]; rfl, hB.out⟩
    | true =>
      rw [hc] at hhas
      replace hans := hans hc
      clear hansN
      go_upto_region 4 with (first | (go_at_call 43; refine hhas.mono ?_; rintro e w' ⟨rfl, rfl⟩; dsimp only))
      clear hhas hc
      rcases (by omega : k = 0 ∨ k = 1 ∨ k = 2 ∨ k = 3 ∨ k = 4 ∨ k = 5 ∨ k = 6 ∨ k = 7) with rfl | rfl | rfl | rfl | rfl | rfl | rfl | rfl
      · have e2 : s.r = .func (.func 81) #[] #[] := by rw [← hs.out]; rfl
        rw [e2] at z2
        have hm := enabledM H1 core p
        go_wp2_with (first | (go_at_call 81; refine hm.mono ?_; rintro e w4 ⟨rfl, hB4⟩; dsimp only))
        go_ret2
        exact ⟨by rw [hans.out.1, hans.out.2]; rfl, below_then hB.out (Nat.le_refl _) hB4⟩
      · have e2 : s.r = .func (.func 81) #[] #[] := by rw [← hs.out]; rfl
        rw [e2] at z2
        have hm := enabledM H1 core p
        go_wp2_with (first | (go_at_call 81; refine hm.mono ?_; rintro e w4 ⟨rfl, hB4⟩; dsimp only))
        go_ret2
        exact ⟨by rw [hans.out.1, hans.out.2]; rfl, below_then hB.out (Nat.le_refl _) hB4⟩
      · have e2 : s.r = .func (.func 84) #[] #[] := by rw [← hs.out]; rfl
        rw [e2] at z2
        have hm := pendingM H1 core p
        go_wp2_with (first | (go_at_call 84; refine hm.mono ?_; rintro e w4 ⟨rfl, hB4⟩; dsimp only))
        go_ret2
        exact ⟨by rw [hans.out.1, hans.out.2]; rfl, below_then hB.out (Nat.le_refl _) hB4⟩
      · have e2 : s.r = .func (.func 84) #[] #[] := by rw [← hs.out]; rfl
        rw [e2] at z2
        have hm := pendingM H1 core p
        go_wp2_with (first | (go_at_call 84; refine hm.mono ?_; rintro e w4 ⟨rfl, hB4⟩; dsimp only))
        go_ret2
        exact ⟨by rw [hans.out.1, hans.out.2]; rfl, below_then hB.out (Nat.le_refl _) hB4⟩
      · have e2 : s.r = .func (.func 87) #[] #[] := by rw [← hs.out]; rfl
        rw [e2] at z2
        have hm := activeM H1 core p
        go_wp2_with (first | (go_at_call 87; refine hm.mono ?_; rintro e w4 ⟨rfl, hB4⟩; dsimp only))
        go_ret2
        exact ⟨by rw [hans.out.1, hans.out.2]; rfl, below_then hB.out (Nat.le_refl _) hB4⟩
      · have e2 : s.r = .func (.func 89) #[] #[] := by rw [← hs.out]; rfl
        rw [e2] at z2
        have hm := rankM H1 core p
        go_wp2_with (first | (go_at_call 89; refine hm.mono ?_; rintro e w4 ⟨rfl, hB4⟩; dsimp only))
        go_ret2
        exact ⟨by rw [hans.out.1, hans.out.2]; rfl, below_then hB.out (Nat.le_refl _) hB4⟩
      · have e2 : s.r = .func (.func 91) #[] #[] := by rw [← hs.out]; rfl
        rw [e2] at z2
        have hm := goesM H1 core p (hp32 rfl)
        go_wp2_with (first | (go_at_call 91; refine hm.mono ?_; rintro e w4 ⟨rfl, hB4⟩; dsimp only))
        go_ret2
        exact ⟨by rw [hans.out.1, hans.out.2]; rfl, below_then hB.out (Nat.le_refl _) hB4⟩
      · have e2 : s.r = .func (.func 93) #[] #[] := by rw [← hs.out]; rfl
        rw [e2] at z2
        have hm := said_c H1 core p
        go_wp2_with (first | (go_at_call 93; refine hm.mono ?_; rintro e w4 ⟨rfl, hB4⟩; dsimp only))
        go_ret2
        exact ⟨by rw [hans.out.1, hans.out.2]; rfl, by rw [hB4]; exact hB.out⟩

set_option maxHeartbeats 2000000 in
theorem bwrite_c (H : BusAt b g t n S Y w) (core a : Int) (v : Nat) (hv : v < 2 ^ 64) : Calls Tryz.prog 16 #[ptr b 0, vI core, vU a, vU v] w fun e w' => e = .returned (vI (brdE n core a)) ∧ BT b g t n Y (bwrS n S core a v) w w' := by
  have hfind := find_k a w
  have hno : findK a = none → brdE n core a = 1 ∧ bwrS n S core a v = S := fun h => by unfold bwrS brdE; rw [h]; exact ⟨rfl, rfl⟩
  have hyes : ∀ k, findK a = some k → hasB n core = true → brdE n core a = 0 ∧ bwrS n S core a v = wrS n S core k (plcK k a) v := fun k h e => by unfold bwrS brdE; rw [h]; dsimp only; rw [e, if_pos rfl, if_pos rfl]; exact ⟨rfl, rfl⟩
  have hnot : ∀ k, findK a = some k → hasB n core = false → brdE n core a = 1 ∧ bwrS n S core a v = S := fun k h e => by unfold bwrS brdE; rw [h]; dsimp only; rw [e, if_neg (by decide), if_neg (by decide)]; exact ⟨rfl, rfl⟩

  cases hf : findK a with
  | none =>
    rw [hf] at hfind
    have hans := show Hid _ from hno hf
    go_enter Tryz.func16, Tryz.ntmps16
    go_upto_region 2 with (first | (go_at_call 42; refine hfind.mono ?_; rintro e w1 ⟨rfl, hB1⟩; dsimp only) | (refine spn_st rfl _ _ rfl w1.heap.size rfl spn0 rfl rfl _ (by kernel_rfl) rfl (heap_alloc_new _ _) ?_; simp only [Act.put, List.setIfInBounds_toArray, List.set_cons_succ, List.set_cons_zero]))
    generalize hw3 : World.setRow _ _ _ = w3
    have hB3 : Below w1.heap.size w1 w3 := by rw [← hw3]; exact below_setRow (below_alloc _ _) (Nat.le_refl _)
    have hB := show Hid _ from below_then hB1 (Nat.le_refl _) hB3
    clear hw3 hB3 hB1 hfind
    go_wp2
    go_ret
    exact ⟨by rw [hans.out.1]; rfl, by rw [hans.out.2]; exact H.same hB.out⟩
  | some k =>
    obtain ⟨hk, hhit⟩ := findF_lt hf
    rw [hf] at hfind
    replace hfind : Calls Tryz.prog 42 #[vU a] w fun e w' => e = .returned (.tuple #[(spn k).val, vI (plcK k a), .bool true]) ∧ Below w.heap.size w w' := hfind
    have hp32 : k = 6 → plcK k a < 32 := fun e => by
      subst e
      simp only [hitK, Bool.and_eq_true, decide_eq_true_eq] at hhit
      have h1 : offK 6 a < 32 * 8 := hhit.1
      have h0 : 0 ≤ offK 6 a := by unfold offK; omega
      unfold plcK
      omega
    have hans := fun e => show Hid _ from hyes k hf e
    have hansN := fun e => show Hid _ from hnot k hf e
    have h12 := spn_r1 k
    generalize hpp : plcK k a = p at *
    generalize hs : spn k = s at hfind h12
    replace hs := show Hid _ from hs
    clear hhit hf hyes hnot hno
    go_enter Tryz.func16, Tryz.ntmps16
    go_upto_region 2 with (first | (go_at_call 42; refine hfind.mono ?_; rintro e w1 ⟨rfl, hB1⟩; dsimp only) | (refine spn_st rfl _ _ rfl w1.heap.size rfl s h12.1 h12.2 _ (by kernel_rfl) rfl (heap_alloc_new _ _) ?_; simp only [Act.put, List.setIfInBounds_toArray, List.set_cons_succ, List.set_cons_zero]))
    generalize hw3 : World.setRow _ _ _ = w3
    have hd : w3.heap[w1.heap.size]? = some (.cells s.row.toArray 80) := by rw [← hw3]; exact setRow_heap _ _ _ _ _ _ (heap_alloc_new _ _)
    have hB3 : Below w1.heap.size w1 w3 := by rw [← hw3]; exact below_setRow (below_alloc _ _) (Nat.le_refl _)
    have hB := below_then hB1 (Nat.le_refl _) hB3
    have z2 : w3.cell? ⟨w1.heap.size, 3, none⟩ = some s.w := by rw [cell_of_row _ _ _ _ _ _ hd]; rfl
    have H1 := H.grow hB
    replace hB := show Hid _ from hB
    clear hw3 hB3 hB1 hd hfind
    generalize w1.heap.size = q at *
    have hhas := bhas_c H1 core
    cases hc : hasB n core with
    | false =>
      rw [hc] at hhas
      replace hansN := hansN hc
      clear hans
      go_wp2_with (first | (go_at_call 43; refine hhas.mono ?_; rintro e w' ⟨rfl, rfl⟩; dsimp only))
      go_ret
      exact ⟨by rw [hansN.out.1]; rfl, by rw [hansN.out.2]; exact H.same hB.out⟩
    | true =>
      rw [hc] at hhas
      replace hans := hans hc
      clear hansN
      go_upto_region 4 with (first | (go_at_call 43; refine hhas.mono ?_; rintro e w' ⟨rfl, rfl⟩; dsimp only))
      clear hhas hc
      rcases (by omega : k = 0 ∨ k = 1 ∨ k = 2 ∨ k = 3 ∨ k = 4 ∨ k = 5 ∨ k = 6 ∨ k = 7) with rfl | rfl | rfl | rfl | rfl | rfl | rfl | rfl
      · have e2 : s.w = .func (.func 82) #[] #[] := by rw [← hs.out]; rfl
        rw [e2] at z2
        have hm := enableM H1 core p v hv
        have hst : bwrS n S core a v = wrS n S core 0 p v := hans.out.2
        replace hst := show Hid _ from hst
        go_wp2_with (first | (go_at_call 82; refine hm.mono ?_; rintro e w4 ⟨rfl, hT⟩; dsimp only))
        go_ret
        exact ⟨by rw [hans.out.1]; rfl, by rw [hst.out]; exact BT.ahead hB.out hT⟩
      · have e2 : s.w = .func (.func 83) #[] #[] := by rw [← hs.out]; rfl
        rw [e2] at z2
        have hm := disableM H1 core p v hv
        have hst : bwrS n S core a v = wrS n S core 1 p v := hans.out.2
        replace hst := show Hid _ from hst
        go_wp2_with (first | (go_at_call 83; refine hm.mono ?_; rintro e w4 ⟨rfl, hT⟩; dsimp only))
        go_ret
        exact ⟨by rw [hans.out.1]; rfl, by rw [hst.out]; exact BT.ahead hB.out hT⟩
      · have e2 : s.w = .func (.func 85) #[] #[] := by rw [← hs.out]; rfl
        rw [e2] at z2
        have hm := latchM H1 core p v hv
        have hst : bwrS n S core a v = wrS n S core 2 p v := hans.out.2
        replace hst := show Hid _ from hst
        go_wp2_with (first | (go_at_call 85; refine hm.mono ?_; rintro e w4 ⟨rfl, hT⟩; dsimp only))
        go_ret
        exact ⟨by rw [hans.out.1]; rfl, by rw [hst.out]; exact BT.ahead hB.out hT⟩
      · have e2 : s.w = .func (.func 86) #[] #[] := by rw [← hs.out]; rfl
        rw [e2] at z2
        have hm := unlatchM H1 core p v hv
        have hst : bwrS n S core a v = wrS n S core 3 p v := hans.out.2
        replace hst := show Hid _ from hst
        go_wp2_with (first | (go_at_call 86; refine hm.mono ?_; rintro e w4 ⟨rfl, hT⟩; dsimp only))
        go_ret
        exact ⟨by rw [hans.out.1]; rfl, by rw [hst.out]; exact BT.ahead hB.out hT⟩
      · have e2 : s.w = .func (.func 88) #[] #[] := by rw [← hs.out]; rfl
        rw [e2] at z2
        have hm := ignoreM H1 core p v
        have hst : bwrS n S core a v = wrS n S core 4 p v := hans.out.2
        replace hst := show Hid _ from hst
        go_wp2_with (first | (go_at_call 88; refine hm.mono ?_; rintro e w4 ⟨rfl, hT⟩; dsimp only))
        go_ret
        exact ⟨by rw [hans.out.1]; rfl, by rw [hst.out]; exact BT.ahead hB.out hT⟩
      · have e2 : s.w = .func (.func 90) #[] #[] := by rw [← hs.out]; rfl
        rw [e2] at z2
        have hm := setRankM H1 core p v hv
        have hst : bwrS n S core a v = wrS n S core 5 p v := hans.out.2
        replace hst := show Hid _ from hst
        go_wp2_with (first | (go_at_call 90; refine hm.mono ?_; rintro e w4 ⟨rfl, hT⟩; dsimp only))
        go_ret
        exact ⟨by rw [hans.out.1]; rfl, by rw [hst.out]; exact BT.ahead hB.out hT⟩
      · have e2 : s.w = .func (.func 92) #[] #[] := by rw [← hs.out]; rfl
        rw [e2] at z2
        have hm := routeM H1 core p (hp32 rfl) v hv
        have hst : bwrS n S core a v = wrS n S core 6 p v := hans.out.2
        replace hst := show Hid _ from hst
        go_wp2_with (first | (go_at_call 92; refine hm.mono ?_; rintro e w4 ⟨rfl, hT⟩; dsimp only))
        go_ret
        exact ⟨by rw [hans.out.1]; rfl, by rw [hst.out]; exact BT.ahead hB.out hT⟩
      · have e2 : s.w = .func (.func 94) #[] #[] := by rw [← hs.out]; rfl
        rw [e2] at z2
        have hm := sayM H1 core p v hv
        have hst : bwrS n S core a v = wrS n S core 7 p v := hans.out.2
        replace hst := show Hid _ from hst
        go_wp2_with (first | (go_at_call 94; refine hm.mono ?_; rintro e w4 ⟨rfl, hT⟩; dsimp only))
        go_ret
        exact ⟨by rw [hans.out.1]; rfl, by rw [hst.out]; exact BT.ahead hB.out hT⟩
end
end Go.Proofs.YteklkololojamaaGreat
