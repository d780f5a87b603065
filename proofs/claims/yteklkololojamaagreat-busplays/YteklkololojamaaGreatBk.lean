/- The bus: Sys, SetSys. -/
import Derived.Test.YteklkololojamaaGreatBj
import Derived.Test.YteklkololojamaaGreatBg
namespace Go.Proofs.YteklkololojamaaGreat
open Go.RowKit
set_option linter.unusedVariables false
set_option linter.unusedSimpArgs false
set_option maxRecDepth 8000

@[go_sem] theorem eql_func91 (fn : Fn) (first cap : Array Value) (w : World) : (binOp .eql 91 (.func fn first cap) .nilFunc).run Tryz.prog w = .ok (.bool false) w := Tmr.eql_func Tryz.underlying91 fn first cap w
@[go_sem] theorem eql_nil91 (w : World) : (binOp .eql 91 .nilFunc .nilFunc).run Tryz.prog w = .ok (.bool true) w := Tmr.eql_nil Tryz.underlying91 w
@[go_sem] theorem eql_func92 (fn : Fn) (first cap : Array Value) (w : World) : (binOp .eql 92 (.func fn first cap) .nilFunc).run Tryz.prog w = .ok (.bool false) w := Tmr.eql_func Tryz.underlying92 fn first cap w
@[go_sem] theorem eql_nil92 (w : World) : (binOp .eql 92 .nilFunc .nilFunc).run Tryz.prog w = .ok (.bool true) w := Tmr.eql_nil Tryz.underlying92 w
@[go_sem] theorem fld94_2 (a b c d : Value) (w : World) : Sem.run Tryz.prog (Instr.field 94 (.agg #[a, b, c, d]) 2) w = .ok c w := by kernel_rfl
@[go_sem] theorem fld94_3 (a b c d : Value) (w : World) : Sem.run Tryz.prog (Instr.field 94 (.agg #[a, b, c, d]) 3) w = .ok d w := by kernel_rfl
/-- What a system register tells, and what that makes of a bus. -/
def srV (n : Nat) (S : Bs) (core : Int) (k : Nat) : Int := match k with
  | 0 => Tmr.readV n S.T core 24322
  | 1 => Tmr.readV n S.T core 24345
  | 2 => Tmr.readV n S.T core 24346
  | 3 => ackV n S.P core % 18446744073709551616
  | 4 => limV n S.P core % 18446744073709551616
  | _ => 0
def srS (n : Nat) (S : Bs) (core : Int) (k : Nat) : Bs := match k with
  | 3 => { S with P := ackP n S.P core }
  | _ => S
def swS (n : Nat) (S : Bs) (core : Int) (k : Nat) (v : Nat) : Bs := match k with
  | 1 => turnS n S core 24345 v
  | 2 => turnS n S core 24346 v
  | 4 => { S with P := gmaskP n S.P core (v % 256 : Nat) }
  | 5 => { S with P := geoiP n S.P core (v % 16777216 : Nat) }
  | 6 => { S with P := gsendP n S.P (sgiT n core v) (sgiI v) }
  | _ => S
def rdbl (k : Nat) : Bool := decide (k ≤ 4)
def wrbl (k : Nat) : Bool := decide (k ≠ 0) && decide (k ≠ 3)
def bsysV (n : Nat) (S : Bs) (core el sys : Int) : Int := match reachK el sys with
  | none => 0
  | some k => if (hasB n core && rdbl k) = true then srV n S core k else 0
def bsysE (n : Nat) (core el sys : Int) : Int := match reachK el sys with
  | none => 2
  | some k => if (hasB n core && rdbl k) = true then 0 else 2
def bsysS (n : Nat) (S : Bs) (core el sys : Int) : Bs := match reachK el sys with
  | none => S
  | some k => if (hasB n core && rdbl k) = true then srS n S core k else S
def bsetE (n : Nat) (core el sys : Int) : Int := match reachK el sys with
  | none => 2
  | some k => if (hasB n core && wrbl k) = true then 0 else 2
def bsetS (n : Nat) (S : Bs) (core el sys : Int) (v : Nat) : Bs := match reachK el sys with
  | none => S
  | some k => if (hasB n core && wrbl k) = true then swS n S core k v else S
section
variable {b g t n : Nat} {S S' : Bs} {Y Y' : BLay} {w w' w1 w2 : World}
set_option maxHeartbeats 2000000 in
theorem bsys_c (H : BusAt b g t n S Y w) (core el sys : Int) (hlen : ∀ c, c < n → (S.P.wk c).length + 1 < 1000000) : Calls Tryz.prog 17 #[ptr b 0, vI core, vI el, vI sys] w fun e w' => e = .returned (.tuple #[vU (bsysV n S core el sys), vI (bsysE n core el sys)]) ∧ BT b g t n Y (bsysS n S core el sys) w w' := by
  have hreach := reach_k el sys w
  have hno : reachK el sys = none → bsysV n S core el sys = 0 ∧ bsysE n core el sys = 2 ∧ bsysS n S core el sys = S := fun h => by unfold bsysV bsysE bsysS; rw [h]; exact ⟨rfl, rfl, rfl⟩
  have hyes : ∀ k, reachK el sys = some k → (hasB n core && rdbl k) = true → bsysV n S core el sys = srV n S core k ∧ bsysE n core el sys = 0 ∧ bsysS n S core el sys = srS n S core k := fun k h e => by unfold bsysV bsysE bsysS; rw [h]; dsimp only; rw [if_pos e, if_pos e, if_pos e]; exact ⟨rfl, rfl, rfl⟩
  have hnot : ∀ k, reachK el sys = some k → (hasB n core && rdbl k) = false → bsysV n S core el sys = 0 ∧ bsysE n core el sys = 2 ∧ bsysS n S core el sys = S := fun k h e => by unfold bsysV bsysE bsysS; rw [h]; dsimp only; rw [e, if_neg (by decide), if_neg (by decide), if_neg (by decide)]; exact ⟨rfl, rfl, rfl⟩
  cases hf : reachK el sys with
  | none =>
    rw [hf] at hreach
    replace hreach : Calls Tryz.prog 49 #[vI el, vI sys] w fun e w' => e = .returned (.agg #[vI 0, vI 0, .nilFunc, .nilFunc]) ∧ Below w.heap.size w w' := hreach
    have hans := show Hid _ from hno hf
    clear hno hyes hnot hf
    go_enter Tryz.func17, Tryz.ntmps17
    go_wp2_with (first | (go_at_call 49; refine hreach.mono ?_; rintro e w1 ⟨rfl, hB⟩; replace hB := show Hid _ from hB; dsimp only))
    go_ret2
    exact ⟨by rw [hans.out.1, hans.out.2.1]; rfl, by rw [hans.out.2.2]; exact H.same hB.out⟩
  | some k =>
    obtain ⟨hk, hhit⟩ := reachF_lt hf
    rw [hf] at hreach
    have hN := fun e => show Hid _ from hnot k hf e
    have hY := fun e => show Hid _ from hyes k hf e
    clear hno hyes hnot hhit hf
    rcases (by omega : k = 0 ∨ k = 1 ∨ k = 2 ∨ k = 3 ∨ k = 4 ∨ k = 5 ∨ k = 6) with rfl | rfl | rfl | rfl | rfl | rfl | rfl
    · replace hreach : Calls Tryz.prog 49 #[vI el, vI sys] w fun e w' => e = .returned (.agg #[vI 24322, vI 0, .func (.func 95) #[] #[], .nilFunc]) ∧ Below w.heap.size w w' := hreach
      clear hk
      cases hc : hasB n core with
      | false =>
        have hans := hN (by rw [hc]; rfl)
        clear hN hY
        go_enter Tryz.func17, Tryz.ntmps17
        go_upto_region 2 with (first | (go_at_call 49; refine hreach.mono ?_; rintro e w1 ⟨rfl, hB⟩; dsimp only))
        have H1 := H.grow hB
        replace hB := show Hid _ from hB
        have hhas := bhas_c H1 core
        rw [hc] at hhas
        clear hreach
        go_wp2_with (first | (go_at_call 43; refine hhas.mono ?_; rintro e w' ⟨rfl, rfl⟩; dsimp only))
        go_ret2
        exact ⟨by rw [hans.out.1, hans.out.2.1]; rfl, by rw [hans.out.2.2]; exact H.same hB.out⟩
      | true =>
        have hans := hY (by rw [hc]; rfl)
        clear hN hY
        go_enter Tryz.func17, Tryz.ntmps17
        go_upto_region 2 with (first | (go_at_call 49; refine hreach.mono ?_; rintro e w1 ⟨rfl, hB⟩; dsimp only))
        have H1 := H.grow hB
        replace hB := show Hid _ from hB
        have hhas := bhas_c H1 core
        rw [hc] at hhas
        clear hreach
        go_upto_region 4 with (first | (go_at_call 43; refine hhas.mono ?_; rintro e w' ⟨rfl, rfl⟩; dsimp only))
        clear hhas
        have hm := countM H1 core
        go_wp2_with (first | (go_at_call 95; refine hm.mono ?_; rintro e w4 ⟨rfl, hT⟩; dsimp only))
        go_ret2
        exact ⟨by rw [hans.out.1, hans.out.2.1]; rfl, by rw [hans.out.2.2]; exact H.same (below_then hB.out (Nat.le_refl _) hT)⟩
    · replace hreach : Calls Tryz.prog 49 #[vI el, vI sys] w fun e w' => e = .returned (.agg #[vI 24345, vI 0, .func (.func 96) #[] #[], .func (.func 97) #[] #[]]) ∧ Below w.heap.size w w' := hreach
      clear hk
      cases hc : hasB n core with
      | false =>
        have hans := hN (by rw [hc]; rfl)
        clear hN hY
        go_enter Tryz.func17, Tryz.ntmps17
        go_upto_region 2 with (first | (go_at_call 49; refine hreach.mono ?_; rintro e w1 ⟨rfl, hB⟩; dsimp only))
        have H1 := H.grow hB
        replace hB := show Hid _ from hB
        have hhas := bhas_c H1 core
        rw [hc] at hhas
        clear hreach
        go_wp2_with (first | (go_at_call 43; refine hhas.mono ?_; rintro e w' ⟨rfl, rfl⟩; dsimp only))
        go_ret2
        exact ⟨by rw [hans.out.1, hans.out.2.1]; rfl, by rw [hans.out.2.2]; exact H.same hB.out⟩
      | true =>
        have hans := hY (by rw [hc]; rfl)
        clear hN hY
        go_enter Tryz.func17, Tryz.ntmps17
        go_upto_region 2 with (first | (go_at_call 49; refine hreach.mono ?_; rintro e w1 ⟨rfl, hB⟩; dsimp only))
        have H1 := H.grow hB
        replace hB := show Hid _ from hB
        have hhas := bhas_c H1 core
        rw [hc] at hhas
        clear hreach
        go_upto_region 4 with (first | (go_at_call 43; refine hhas.mono ?_; rintro e w' ⟨rfl, rfl⟩; dsimp only))
        clear hhas
        have hm := ctlM H1 core
        go_wp2_with (first | (go_at_call 96; refine hm.mono ?_; rintro e w4 ⟨rfl, hT⟩; dsimp only))
        go_ret2
        exact ⟨by rw [hans.out.1, hans.out.2.1]; rfl, by rw [hans.out.2.2]; exact H.same (below_then hB.out (Nat.le_refl _) hT)⟩
    · replace hreach : Calls Tryz.prog 49 #[vI el, vI sys] w fun e w' => e = .returned (.agg #[vI 24346, vI 0, .func (.func 98) #[] #[], .func (.func 99) #[] #[]]) ∧ Below w.heap.size w w' := hreach
      clear hk
      cases hc : hasB n core with
      | false =>
        have hans := hN (by rw [hc]; rfl)
        clear hN hY
        go_enter Tryz.func17, Tryz.ntmps17
        go_upto_region 2 with (first | (go_at_call 49; refine hreach.mono ?_; rintro e w1 ⟨rfl, hB⟩; dsimp only))
        have H1 := H.grow hB
        replace hB := show Hid _ from hB
        have hhas := bhas_c H1 core
        rw [hc] at hhas
        clear hreach
        go_wp2_with (first | (go_at_call 43; refine hhas.mono ?_; rintro e w' ⟨rfl, rfl⟩; dsimp only))
        go_ret2
        exact ⟨by rw [hans.out.1, hans.out.2.1]; rfl, by rw [hans.out.2.2]; exact H.same hB.out⟩
      | true =>
        have hans := hY (by rw [hc]; rfl)
        clear hN hY
        go_enter Tryz.func17, Tryz.ntmps17
        go_upto_region 2 with (first | (go_at_call 49; refine hreach.mono ?_; rintro e w1 ⟨rfl, hB⟩; dsimp only))
        have H1 := H.grow hB
        replace hB := show Hid _ from hB
        have hhas := bhas_c H1 core
        rw [hc] at hhas
        clear hreach
        go_upto_region 4 with (first | (go_at_call 43; refine hhas.mono ?_; rintro e w' ⟨rfl, rfl⟩; dsimp only))
        clear hhas
        have hm := cvalM H1 core
        go_wp2_with (first | (go_at_call 98; refine hm.mono ?_; rintro e w4 ⟨rfl, hT⟩; dsimp only))
        go_ret2
        exact ⟨by rw [hans.out.1, hans.out.2.1]; rfl, by rw [hans.out.2.2]; exact H.same (below_then hB.out (Nat.le_refl _) hT)⟩
    · replace hreach : Calls Tryz.prog 49 #[vI el, vI sys] w fun e w' => e = .returned (.agg #[vI 18016, vI 1, .func (.func 100) #[] #[], .nilFunc]) ∧ Below w.heap.size w w' := hreach
      clear hk
      cases hc : hasB n core with
      | false =>
        have hans := hN (by rw [hc]; rfl)
        clear hN hY
        go_enter Tryz.func17, Tryz.ntmps17
        go_upto_region 2 with (first | (go_at_call 49; refine hreach.mono ?_; rintro e w1 ⟨rfl, hB⟩; dsimp only))
        have H1 := H.grow hB
        replace hB := show Hid _ from hB
        have hhas := bhas_c H1 core
        rw [hc] at hhas
        clear hreach
        go_wp2_with (first | (go_at_call 43; refine hhas.mono ?_; rintro e w' ⟨rfl, rfl⟩; dsimp only))
        go_ret2
        exact ⟨by rw [hans.out.1, hans.out.2.1]; rfl, by rw [hans.out.2.2]; exact H.same hB.out⟩
      | true =>
        have hans := hY (by rw [hc]; rfl)
        clear hN hY
        go_enter Tryz.func17, Tryz.ntmps17
        go_upto_region 2 with (first | (go_at_call 49; refine hreach.mono ?_; rintro e w1 ⟨rfl, hB⟩; dsimp only))
        have H1 := H.grow hB
        replace hB := show Hid _ from hB
        have hhas := bhas_c H1 core
        rw [hc] at hhas
        clear hreach
        go_upto_region 4 with (first | (go_at_call 43; refine hhas.mono ?_; rintro e w' ⟨rfl, rfl⟩; dsimp only))
        clear hhas
        have hm := takeM H1 core hlen
        go_wp2_with (first | (go_at_call 100; refine hm.mono ?_; rintro e w4 ⟨rfl, hT⟩; dsimp only))
        go_ret2
        exact ⟨by rw [hans.out.1, hans.out.2.1]; rfl, by rw [hans.out.2.2]; exact BT.ahead hB.out hT⟩
    · replace hreach : Calls Tryz.prog 49 #[vI el, vI sys] w fun e w' => e = .returned (.agg #[vI 16944, vI 1, .func (.func 101) #[] #[], .func (.func 102) #[] #[]]) ∧ Below w.heap.size w w' := hreach
      clear hk
      cases hc : hasB n core with
      | false =>
        have hans := hN (by rw [hc]; rfl)
        clear hN hY
        go_enter Tryz.func17, Tryz.ntmps17
        go_upto_region 2 with (first | (go_at_call 49; refine hreach.mono ?_; rintro e w1 ⟨rfl, hB⟩; dsimp only))
        have H1 := H.grow hB
        replace hB := show Hid _ from hB
        have hhas := bhas_c H1 core
        rw [hc] at hhas
        clear hreach
        go_wp2_with (first | (go_at_call 43; refine hhas.mono ?_; rintro e w' ⟨rfl, rfl⟩; dsimp only))
        go_ret2
        exact ⟨by rw [hans.out.1, hans.out.2.1]; rfl, by rw [hans.out.2.2]; exact H.same hB.out⟩
      | true =>
        have hans := hY (by rw [hc]; rfl)
        clear hN hY
        go_enter Tryz.func17, Tryz.ntmps17
        go_upto_region 2 with (first | (go_at_call 49; refine hreach.mono ?_; rintro e w1 ⟨rfl, hB⟩; dsimp only))
        have H1 := H.grow hB
        replace hB := show Hid _ from hB
        have hhas := bhas_c H1 core
        rw [hc] at hhas
        clear hreach
        go_upto_region 4 with (first | (go_at_call 43; refine hhas.mono ?_; rintro e w' ⟨rfl, rfl⟩; dsimp only))
        clear hhas
        have hm := limitM H1 core
        go_wp2_with (first | (go_at_call 101; refine hm.mono ?_; rintro e w4 ⟨rfl, hT⟩; dsimp only))
        go_ret2
        exact ⟨by rw [hans.out.1, hans.out.2.1]; rfl, by rw [hans.out.2.2]; exact H.same (below_then hB.out (Nat.le_refl _) hT)⟩
    · replace hreach : Calls Tryz.prog 49 #[vI el, vI sys] w fun e w' => e = .returned (.agg #[vI 18017, vI 1, .nilFunc, .func (.func 103) #[] #[]]) ∧ Below w.heap.size w w' := hreach
      clear hk
      have hans := hN (by cases hasB n core <;> rfl)
      clear hN hY
      go_enter Tryz.func17, Tryz.ntmps17
      go_wp2_with (first | (go_at_call 49; refine hreach.mono ?_; rintro e w1 ⟨rfl, hB⟩; replace hB := show Hid _ from hB; dsimp only))
      go_ret2
      exact ⟨by rw [hans.out.1, hans.out.2.1]; rfl, by rw [hans.out.2.2]; exact H.same hB.out⟩
    · replace hreach : Calls Tryz.prog 49 #[vI el, vI sys] w fun e w' => e = .returned (.agg #[vI 18013, vI 1, .nilFunc, .func (.func 104) #[] #[]]) ∧ Below w.heap.size w w' := hreach
      clear hk
      have hans := hN (by cases hasB n core <;> rfl)
      clear hN hY
      go_enter Tryz.func17, Tryz.ntmps17
      go_wp2_with (first | (go_at_call 49; refine hreach.mono ?_; rintro e w1 ⟨rfl, hB⟩; replace hB := show Hid _ from hB; dsimp only))
      go_ret2
      exact ⟨by rw [hans.out.1, hans.out.2.1]; rfl, by rw [hans.out.2.2]; exact H.same hB.out⟩

set_option maxHeartbeats 2000000 in
theorem bset_c (H : BusAt b g t n S Y w) (core el sys : Int) (v : Nat) (hv : v < 2 ^ 64) : Calls Tryz.prog 20 #[ptr b 0, vI core, vI el, vI sys, vU v] w fun e w' => e = .returned (vI (bsetE n core el sys)) ∧ BT b g t n Y (bsetS n S core el sys v) w w' := by
  have hreach := reach_k el sys w
  have hno : reachK el sys = none → bsetE n core el sys = 2 ∧ bsetS n S core el sys v = S := fun h => by unfold bsetE bsetS; rw [h]; exact ⟨rfl, rfl⟩
  have hyes : ∀ k, reachK el sys = some k → (hasB n core && wrbl k) = true → bsetE n core el sys = 0 ∧ bsetS n S core el sys v = swS n S core k v := fun k h e => by unfold bsetE bsetS; rw [h]; dsimp only; rw [if_pos e, if_pos e]; exact ⟨rfl, rfl⟩
  have hnot : ∀ k, reachK el sys = some k → (hasB n core && wrbl k) = false → bsetE n core el sys = 2 ∧ bsetS n S core el sys v = S := fun k h e => by unfold bsetE bsetS; rw [h]; dsimp only; rw [e, if_neg (by decide), if_neg (by decide)]; exact ⟨rfl, rfl⟩
  cases hf : reachK el sys with
  | none =>
    rw [hf] at hreach
    replace hreach : Calls Tryz.prog 49 #[vI el, vI sys] w fun e w' => e = .returned (.agg #[vI 0, vI 0, .nilFunc, .nilFunc]) ∧ Below w.heap.size w w' := hreach
    have hans := show Hid _ from hno hf
    clear hno hyes hnot hf
    go_enter Tryz.func20, Tryz.ntmps20
    go_wp2_with (first | (go_at_call 49; refine hreach.mono ?_; rintro e w1 ⟨rfl, hB⟩; replace hB := show Hid _ from hB; dsimp only))
    go_ret
    exact ⟨by rw [hans.out.1]; rfl, by rw [hans.out.2]; exact H.same hB.out⟩
  | some k =>
    obtain ⟨hk, hhit⟩ := reachF_lt hf
    rw [hf] at hreach
    have hN := fun e => show Hid _ from hnot k hf e
    have hY := fun e => show Hid _ from hyes k hf e
    clear hno hyes hnot hhit hf
    rcases (by omega : k = 0 ∨ k = 1 ∨ k = 2 ∨ k = 3 ∨ k = 4 ∨ k = 5 ∨ k = 6) with rfl | rfl | rfl | rfl | rfl | rfl | rfl
    · replace hreach : Calls Tryz.prog 49 #[vI el, vI sys] w fun e w' => e = .returned (.agg #[vI 24322, vI 0, .func (.func 95) #[] #[], .nilFunc]) ∧ Below w.heap.size w w' := hreach
      clear hk
      have hans := hN (by cases hasB n core <;> rfl)
      clear hN hY
      go_enter Tryz.func20, Tryz.ntmps20
      go_wp2_with (first | (go_at_call 49; refine hreach.mono ?_; rintro e w1 ⟨rfl, hB⟩; replace hB := show Hid _ from hB; dsimp only))
      go_ret
      exact ⟨by rw [hans.out.1]; rfl, by rw [hans.out.2]; exact H.same hB.out⟩
    · replace hreach : Calls Tryz.prog 49 #[vI el, vI sys] w fun e w' => e = .returned (.agg #[vI 24345, vI 0, .func (.func 96) #[] #[], .func (.func 97) #[] #[]]) ∧ Below w.heap.size w w' := hreach
      clear hk
      cases hc : hasB n core with
      | false =>
        have hans := hN (by rw [hc]; rfl)
        clear hN hY
        go_enter Tryz.func20, Tryz.ntmps20
        go_upto_region 2 with (first | (go_at_call 49; refine hreach.mono ?_; rintro e w1 ⟨rfl, hB⟩; dsimp only))
        have H1 := H.grow hB
        replace hB := show Hid _ from hB
        have hhas := bhas_c H1 core
        rw [hc] at hhas
        clear hreach
        go_wp2_with (first | (go_at_call 43; refine hhas.mono ?_; rintro e w' ⟨rfl, rfl⟩; dsimp only))
        go_ret
        exact ⟨by rw [hans.out.1]; rfl, by rw [hans.out.2]; exact H.same hB.out⟩
      | true =>
        have hans := hY (by rw [hc]; rfl)
        clear hN hY
        go_enter Tryz.func20, Tryz.ntmps20
        go_upto_region 2 with (first | (go_at_call 49; refine hreach.mono ?_; rintro e w1 ⟨rfl, hB⟩; dsimp only))
        have H1 := H.grow hB
        replace hB := show Hid _ from hB
        have hhas := bhas_c H1 core
        rw [hc] at hhas
        clear hreach
        go_upto_region 4 with (first | (go_at_call 43; refine hhas.mono ?_; rintro e w' ⟨rfl, rfl⟩; dsimp only))
        clear hhas
        have hm := setCtlM H1 core v hv
        go_wp2_with (first | (go_at_call 97; refine hm.mono ?_; rintro e w4 ⟨rfl, hT⟩; dsimp only))
        go_ret
        exact ⟨by rw [hans.out.1]; rfl, by rw [hans.out.2]; exact BT.ahead hB.out hT⟩
    · replace hreach : Calls Tryz.prog 49 #[vI el, vI sys] w fun e w' => e = .returned (.agg #[vI 24346, vI 0, .func (.func 98) #[] #[], .func (.func 99) #[] #[]]) ∧ Below w.heap.size w w' := hreach
      clear hk
      cases hc : hasB n core with
      | false =>
        have hans := hN (by rw [hc]; rfl)
        clear hN hY
        go_enter Tryz.func20, Tryz.ntmps20
        go_upto_region 2 with (first | (go_at_call 49; refine hreach.mono ?_; rintro e w1 ⟨rfl, hB⟩; dsimp only))
        have H1 := H.grow hB
        replace hB := show Hid _ from hB
        have hhas := bhas_c H1 core
        rw [hc] at hhas
        clear hreach
        go_wp2_with (first | (go_at_call 43; refine hhas.mono ?_; rintro e w' ⟨rfl, rfl⟩; dsimp only))
        go_ret
        exact ⟨by rw [hans.out.1]; rfl, by rw [hans.out.2]; exact H.same hB.out⟩
      | true =>
        have hans := hY (by rw [hc]; rfl)
        clear hN hY
        go_enter Tryz.func20, Tryz.ntmps20
        go_upto_region 2 with (first | (go_at_call 49; refine hreach.mono ?_; rintro e w1 ⟨rfl, hB⟩; dsimp only))
        have H1 := H.grow hB
        replace hB := show Hid _ from hB
        have hhas := bhas_c H1 core
        rw [hc] at hhas
        clear hreach
        go_upto_region 4 with (first | (go_at_call 43; refine hhas.mono ?_; rintro e w' ⟨rfl, rfl⟩; dsimp only))
        clear hhas
        have hm := setCvalM H1 core v hv
        go_wp2_with (first | (go_at_call 99; refine hm.mono ?_; rintro e w4 ⟨rfl, hT⟩; dsimp only))
        go_ret
        exact ⟨by rw [hans.out.1]; rfl, by rw [hans.out.2]; exact BT.ahead hB.out hT⟩
    · replace hreach : Calls Tryz.prog 49 #[vI el, vI sys] w fun e w' => e = .returned (.agg #[vI 18016, vI 1, .func (.func 100) #[] #[], .nilFunc]) ∧ Below w.heap.size w w' := hreach
      clear hk
      have hans := hN (by cases hasB n core <;> rfl)
      clear hN hY
      go_enter Tryz.func20, Tryz.ntmps20
      go_wp2_with (first | (go_at_call 49; refine hreach.mono ?_; rintro e w1 ⟨rfl, hB⟩; replace hB := show Hid _ from hB; dsimp only))
      go_ret
      exact ⟨by rw [hans.out.1]; rfl, by rw [hans.out.2]; exact H.same hB.out⟩
    · replace hreach : Calls Tryz.prog 49 #[vI el, vI sys] w fun e w' => e = .returned (.agg #[vI 16944, vI 1, .func (.func 101) #[] #[], .func (.func 102) #[] #[]]) ∧ Below w.heap.size w w' := hreach
      clear hk
      cases hc : hasB n core with
      | false =>
        have hans := hN (by rw [hc]; rfl)
        clear hN hY
        go_enter Tryz.func20, Tryz.ntmps20
        go_upto_region 2 with (first | (go_at_call 49; refine hreach.mono ?_; rintro e w1 ⟨rfl, hB⟩; dsimp only))
        have H1 := H.grow hB
        replace hB := show Hid _ from hB
        have hhas := bhas_c H1 core
        rw [hc] at hhas
        clear hreach
        go_wp2_with (first | (go_at_call 43; refine hhas.mono ?_; rintro e w' ⟨rfl, rfl⟩; dsimp only))
        go_ret
        exact ⟨by rw [hans.out.1]; rfl, by rw [hans.out.2]; exact H.same hB.out⟩
      | true =>
        have hans := hY (by rw [hc]; rfl)
        clear hN hY
        go_enter Tryz.func20, Tryz.ntmps20
        go_upto_region 2 with (first | (go_at_call 49; refine hreach.mono ?_; rintro e w1 ⟨rfl, hB⟩; dsimp only))
        have H1 := H.grow hB
        replace hB := show Hid _ from hB
        have hhas := bhas_c H1 core
        rw [hc] at hhas
        clear hreach
        go_upto_region 4 with (first | (go_at_call 43; refine hhas.mono ?_; rintro e w' ⟨rfl, rfl⟩; dsimp only))
        clear hhas
        have hm := setLimitM H1 core v hv
        go_wp2_with (first | (go_at_call 102; refine hm.mono ?_; rintro e w4 ⟨rfl, hT⟩; dsimp only))
        go_ret
        exact ⟨by rw [hans.out.1]; rfl, by rw [hans.out.2]; exact BT.ahead hB.out hT⟩
    · replace hreach : Calls Tryz.prog 49 #[vI el, vI sys] w fun e w' => e = .returned (.agg #[vI 18017, vI 1, .nilFunc, .func (.func 103) #[] #[]]) ∧ Below w.heap.size w w' := hreach
      clear hk
      cases hc : hasB n core with
      | false =>
        have hans := hN (by rw [hc]; rfl)
        clear hN hY
        go_enter Tryz.func20, Tryz.ntmps20
        go_upto_region 2 with (first | (go_at_call 49; refine hreach.mono ?_; rintro e w1 ⟨rfl, hB⟩; dsimp only))
        have H1 := H.grow hB
        replace hB := show Hid _ from hB
        have hhas := bhas_c H1 core
        rw [hc] at hhas
        clear hreach
        go_wp2_with (first | (go_at_call 43; refine hhas.mono ?_; rintro e w' ⟨rfl, rfl⟩; dsimp only))
        go_ret
        exact ⟨by rw [hans.out.1]; rfl, by rw [hans.out.2]; exact H.same hB.out⟩
      | true =>
        have hans := hY (by rw [hc]; rfl)
        clear hN hY
        go_enter Tryz.func20, Tryz.ntmps20
        go_upto_region 2 with (first | (go_at_call 49; refine hreach.mono ?_; rintro e w1 ⟨rfl, hB⟩; dsimp only))
        have H1 := H.grow hB
        replace hB := show Hid _ from hB
        have hhas := bhas_c H1 core
        rw [hc] at hhas
        clear hreach
        go_upto_region 4 with (first | (go_at_call 43; refine hhas.mono ?_; rintro e w' ⟨rfl, rfl⟩; dsimp only))
        clear hhas
        have hm := endM H1 core v hv
        go_wp2_with (first | (go_at_call 103; refine hm.mono ?_; rintro e w4 ⟨rfl, hT⟩; dsimp only))
        go_ret
        exact ⟨by rw [hans.out.1]; rfl, by rw [hans.out.2]; exact BT.ahead hB.out hT⟩
    · replace hreach : Calls Tryz.prog 49 #[vI el, vI sys] w fun e w' => e = .returned (.agg #[vI 18013, vI 1, .nilFunc, .func (.func 104) #[] #[]]) ∧ Below w.heap.size w w' := hreach
      clear hk
      cases hc : hasB n core with
      | false =>
        have hans := hN (by rw [hc]; rfl)
        clear hN hY
        go_enter Tryz.func20, Tryz.ntmps20
        go_upto_region 2 with (first | (go_at_call 49; refine hreach.mono ?_; rintro e w1 ⟨rfl, hB⟩; dsimp only))
        have H1 := H.grow hB
        replace hB := show Hid _ from hB
        have hhas := bhas_c H1 core
        rw [hc] at hhas
        clear hreach
        go_wp2_with (first | (go_at_call 43; refine hhas.mono ?_; rintro e w' ⟨rfl, rfl⟩; dsimp only))
        go_ret
        exact ⟨by rw [hans.out.1]; rfl, by rw [hans.out.2]; exact H.same hB.out⟩
      | true =>
        have hans := hY (by rw [hc]; rfl)
        clear hN hY
        go_enter Tryz.func20, Tryz.ntmps20
        go_upto_region 2 with (first | (go_at_call 49; refine hreach.mono ?_; rintro e w1 ⟨rfl, hB⟩; dsimp only))
        have H1 := H.grow hB
        replace hB := show Hid _ from hB
        have hhas := bhas_c H1 core
        rw [hc] at hhas
        clear hreach
        go_upto_region 4 with (first | (go_at_call 43; refine hhas.mono ?_; rintro e w' ⟨rfl, rfl⟩; dsimp only))
        clear hhas
        obtain ⟨c, rfl, hcn⟩ := Tmr.core_of hc
        have hm := sendM H1 c hcn v hv
        go_wp2_with (first | (go_at_call 104; refine hm.mono ?_; rintro e w4 ⟨rfl, hT⟩; dsimp only))
        go_ret
        exact ⟨by rw [hans.out.1]; rfl, by rw [hans.out.2]; exact BT.ahead hB.out hT⟩
end
end Go.Proofs.YteklkololojamaaGreat
