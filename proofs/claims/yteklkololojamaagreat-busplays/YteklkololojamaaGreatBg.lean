/- The bus: a register found. -/
import Derived.Test.YteklkololojamaaGreatBf
namespace Go.Proofs.YteklkololojamaaGreat
open Go.RowKit
set_option linter.unusedVariables false
set_option linter.unusedSimpArgs false
set_option maxRecDepth 8000

def offK (k : Nat) (a : Int) : Int := (a - (spn k).f) % 18446744073709551616
def hitK (k : Nat) (a : Int) : Bool := decide (offK k a < (spn k).c * 8) && decide (offK k a % 8 = 0)
/-- The range that has a register at an address: the first of k. -/
def findF (a : Int) : Nat → Option Nat
  | 0 => none
  | k + 1 => match findF a k with | some j => some j | none => if hitK k a then some k else none
def findK (a : Int) : Option Nat := findF a 8
theorem findF_lt {a : Int} : ∀ {k j : Nat}, findF a k = some j → j < k ∧ hitK j a = true
  | 0, j, h => by cases h
  | k + 1, j, h => by
    unfold findF at h
    cases hk : findF a k with
    | some i =>
      rw [hk] at h
      cases h
      have := findF_lt hk
      exact ⟨by omega, this.2⟩
    | none =>
      rw [hk] at h
      dsimp only at h
      split at h
      · cases h; rename_i e; exact ⟨by omega, e⟩
      · cases h
theorem findF_no {a : Int} : ∀ {k : Nat}, findF a k = none → ∀ m, findF a (k + m) = none ∨ ∃ j, k ≤ j ∧ findF a (k + m) = some j := by
  intro k hk m
  cases h : findF a (k + m) with
  | none => exact .inl rfl
  | some j =>
    refine .inr ⟨j, ?_, rfl⟩
    refine Nat.not_lt.1 fun hlt => ?_
    have hh := (findF_lt h).2
    have : ∀ i, i ≤ k → findF a i = none := fun i hi => by
      cases e : findF a i with
      | none => rfl
      | some q =>
        have mono : ∀ d, findF a (i + d) = some q := fun d => by
          induction d with
          | zero => exact e
          | succ d ih => show (match findF a (i + d) with | some j => some j | none => _) = _; rw [ih]
        have := mono (k - i)
        rw [show i + (k - i) = k by omega, hk] at this
        cases this
    have e1 := this (j + 1) hlt
    unfold findF at e1
    rw [this j (by omega), hh] at e1
    cases e1
theorem findF_stay {a : Int} {k j : Nat} (h : findF a k = some j) : ∀ d, findF a (k + d) = some j
  | 0 => h
  | d + 1 => by
    have ih := findF_stay h d
    show (match findF a (k + d) with | some j => some j | none => _) = _
    rw [ih]
def spnO : Option Nat → Spn
  | some k => spn k
  | none => ⟨0, 0, .nilFunc, .nilFunc⟩
def plcK (k : Nat) (a : Int) : Nat := (offK k a / 8).toNat
def plcO (a : Int) : Option Nat → Nat
  | some k => plcK k a
  | none => 0
theorem spn_c8 : ∀ k, IntKind.u64.wrap ((spn k).c * 8) = (spn k).c * 8
  | 0 => rfl
  | 1 => rfl
  | 2 => rfl
  | 3 => rfl
  | 4 => rfl
  | 5 => rfl
  | 6 => rfl
  | 7 => rfl
  | _ + 8 => rfl
theorem spn_c512 : ∀ k, (spn k).c * 8 ≤ 512
  | 0 => by decide
  | 1 => by decide
  | 2 => by decide
  | 3 => by decide
  | 4 => by decide
  | 5 => by decide
  | 6 => by decide
  | 7 => by decide
  | _ + 8 => (by decide : (0 : Int) * 8 ≤ 512)
theorem load80 (w : World) (g : Nat) (s : Spn) (hg : w.heap[g]? = some (.cells s.row.toArray 80)) : (loadVar 80 ⟨g, 0, none⟩).run Tryz.prog w = .ok s.val w :=
  run_loadVar_row w g 80 80 s.row.toArray (0, 0) _ hg Tryz.underlying80 rfl spn_inf
theorem back_f {fn : Func} {p u v : Tmp} (h : fn.results = #[.cell p 80, .tmp u, .tmp v]) (tmps : Array Value) (w : World) (g : Nat) (s : Spn) (hp : tmps.getD p undef = ptr g 0) (hg : w.heap[g]? = some (.cells s.row.toArray 80)) : (results fn tmps).run Tryz.prog w = .ok (.tuple #[s.val, tmps.getD u undef, tmps.getD v undef]) w := by
  have hp' : tmps[p]?.getD undef = .pointer (some ⟨g, 0, none⟩) := by simpa using hp
  simp [results, h, hp', asAddr, load80 w g s hg]
abbrev spn0 : Spn := ⟨0, 0, .nilFunc, .nilFunc⟩
structure FW (w : World) (q : Nat) (wr : World) : Prop where
  b : Below w.heap.size w wr
  q : wr.heap[q]? = some (.cells spn0.row.toArray 80)
set_option maxHeartbeats 2000000 in
theorem find_k (a : Int) (w : World) : Calls Tryz.prog 42 #[vU a] w fun e w' => e = .returned (.tuple #[(spnO (findK a)).val, vI (plcO a (findK a)), .bool (findK a).isSome]) ∧ Below w.heap.size w w' := by
  go_enter Tryz.func42, Tryz.ntmps42
  go_upto_region 1 with fail
  generalize hw1 : World.alloc _ _ = w1
  have HF : FW w w.heap.size w1 := by rw [← hw1]; exact ⟨below_alloc _ _, heap_alloc_new _ _⟩
  clear hw1
  go_upto_region 2 with (first | (go_at_call 72; refine (spn_c _).mono ?_; rintro e w2 ⟨rfl, hB2⟩; dsimp only))
  replace HF : FW w w.heap.size w2 := ⟨below_then HF.b (Nat.le_refl _) hB2, by rw [hB2.block _ (lt_of_some HF.q)]; exact HF.q⟩
  clear hB2
  generalize hsc : (Value.agg spnCells) = sc
  replace hsc := show Hid _ from hsc
  go_loopw [9] (fun s9 wr => ∃ k : Nat, k ≤ 8 ∧ s9 = .int .i64 k ∧ Hid (FW w w.heap.size wr) ∧ Hid (findF a k = none)) (fun s9 _ => 8 - (intOf s9).toNat)
  case atStart => exact ⟨0, by omega, rfl, HF, rfl⟩
  case round =>
    obtain ⟨k, hk8, rfl, hF, hN⟩ := hrel
    by_cases hlt : (k : Int) < 8
    · have hk : k < 8 := by omega
      have hix := spn_idx wr k hk
      rw [hsc.out] at hix
      have h12 := spn_r1 k
      have hc8 := spn_c8 k
      have hc512 := spn_c512 k
      have hres : findF a (k + 1) = if hitK k a then some k else none := by
        show (match findF a k with | some j => some j | none => _) = _
        rw [hN.out]
      have hhit : hitK k a = (decide (offK k a < (spn k).c * 8) && decide (offK k a % 8 = 0)) := rfl
      have hoff : IntKind.u64.wrap (a - (spn k).f) = offK k a := by rw [IntKind.wrap_u64]; rfl
      have hin := within_c a (spn k).f ((spn k).c * 8)
      have hz : 0 ≤ offK k a ∧ offK k a < 18446744073709551616 := by unfold offK; omega
      have hin' : ∀ w, Calls Tryz.prog 59 #[vU a, vU (spn k).f, vU ((spn k).c * 8)] w fun e w' => e = .returned (.bool (decide (offK k a < (spn k).c * 8))) ∧ w' = w := hin
      have hplc : plcK k a = (offK k a / 8).toNat := rfl
      clear hin
      generalize hs : spn k = s at *
      generalize offK k a = z at *
      obtain ⟨cc, hcc⟩ : ∃ cc, cc = s.c * 8 := ⟨_, rfl⟩
      rw [← hcc] at hin' hhit hc512
      rw [← hcc] at hc8
      replace hc8 : IntKind.u64.wrap (s.c * 8) = cc := by rw [← hcc]; exact hc8
      replace hres := show Hid _ from hres
      replace hhit := show Hid _ from hhit
      replace hcc := show Hid _ from hcc
      replace hs := show Hid _ from hs
      replace hplc := show Hid _ from hplc
      replace hz := show Hid _ from hz
      have hD : wr.heap.size ≤ wr.heap.size := Nat.le_refl _
      go_upto_region 4 with (first | (refine spn_st rfl _ _ rfl wr.heap.size rfl s h12.1 h12.2 _ (by kernel_rfl) rfl (heap_alloc_new _ _) ?_; simp only [Act.put, List.setIfInBounds_toArray, List.set_cons_succ, List.set_cons_zero]))
      generalize hw3 : World.setRow _ _ _ = w3
      have hd6 : w3.heap[wr.heap.size]? = some (.cells s.row.toArray 80) := by rw [← hw3]; exact setRow_heap _ _ _ _ _ _ (heap_alloc_new _ _)
      have hB3 : Below wr.heap.size wr w3 := by rw [← hw3]; exact below_setRow (below_alloc _ _) (Nat.le_refl _)
      have hF3 : Hid (FW w w.heap.size w3) := ⟨below_then hF.out.b (Nat.le_refl _) hB3, by rw [hB3.block _ (lt_of_some hF.out.q)]; exact hF.out.q⟩
      have z0 : w3.cell? ⟨wr.heap.size, 0, none⟩ = some (vU s.f) := by rw [cell_of_row _ _ _ _ _ _ hd6]; rfl
      have z1 : w3.cell? ⟨wr.heap.size, 1, none⟩ = some (vU s.c) := by rw [cell_of_row _ _ _ _ _ _ hd6]; rfl
      replace hd6 := show Hid _ from hd6
      clear hw3 hB3 hix h12 hD hF
      generalize wr.heap.size = q6 at *
      by_cases h1 : z < cc
      · by_cases h2 : z % 8 = 0
        · have hr : findF a (k + 1) = some k := by rw [hres.out, hhit.out, decide_eq_true h1, decide_eq_true h2]; rfl
          have hfin : findK a = some k := by
            have := findF_stay hr (7 - k)
            rw [show k + 1 + (7 - k) = 8 by omega] at this
            exact this
          have hsp : spnO (some k) = s := hs.out
          have hpl : plcO a (some k) = (z / 8).toNat := hplc.out
          have e7 : IntKind.u64.wrap (z.tdiv 8) = z / 8 := by
            have := hz.out
            rw [IntKind.wrap_u64, Int.tdiv_eq_ediv_of_nonneg this.1]
            omega
          have e8 : wrap64 (z / 8) = ((z / 8).toNat : Int) := by
            have := hz.out
            rw [IntWalk.wrap64_in _ ⟨by omega, by omega⟩]
            omega
          have e6 : (z.tmod 8 == 0) = true := by rw [Int.tmod_eq_emod_of_nonneg hz.out.1, h2]; rfl
          clear h2
          have hans : ∀ v : Value, v = .tuple #[s.val, vI (wrap64 (z / 8)), .bool true] → Ending.returned v = .returned (.tuple #[(spnO (findK a)).val, vI (plcO a (findK a)), .bool (findK a).isSome]) := fun v hv => by rw [hv, hfin, hsp, hpl, e8]; rfl
          replace hans := show Hid _ from hans
          clear hfin hr hsp hpl e8
          go_upto_region 6 with (first | (go_at_call 59; refine (hin' _).mono ?_; rintro e w' ⟨rfl, rfl⟩; dsimp only; rw [decide_eq_true h1]))
          clear hin' z0 z1
          go_wp2_with (first | (refine spn_ld rfl _ rfl q6 rfl s hd6.out ?_; simp only [Act.put, List.setIfInBounds_toArray, List.set_cons_succ, List.set_cons_zero]) | (refine spn_st rfl _ _ rfl w.heap.size rfl s (by rw [← hs.out]; exact (spn_r1 k).1) (by rw [← hs.out]; exact (spn_r1 k).2) _ rfl rfl hF3.out.q ?_; simp only [Act.put, List.setIfInBounds_toArray, List.set_cons_succ, List.set_cons_zero]))
          exact bodyPost_ret (back_f rfl _ _ w.heap.size s rfl (setRow_heap _ _ _ _ _ _ hF3.out.q)) rfl ⟨hans.out _ rfl, below_setRow hF3.out.b (Nat.le_refl _)⟩
        · have hr : Hid (findF a (k + 1) = none) := by
            show findF a (k + 1) = none
            rw [hres.out, hhit.out, decide_eq_true h1, decide_eq_false h2]; rfl
          have e6 : (z.tmod 8 == 0) = false := by rw [Int.tmod_eq_emod_of_nonneg hz.out.1]; simpa using h2
          clear h2
          go_wp2_with (first | (go_at_call 59; refine (hin' _).mono ?_; rintro e w' ⟨rfl, rfl⟩; dsimp only; rw [decide_eq_true h1]))
          go_roundw
          case rel => exact ⟨k + 1, by omega, by go_num, hF3, hr⟩
          case measure => simp [intOf]; omega
      · have hr : Hid (findF a (k + 1) = none) := by
          show findF a (k + 1) = none
          rw [hres.out, hhit.out, decide_eq_false h1]; rfl
        go_wp2_with (first | (go_at_call 59; refine (hin' _).mono ?_; rintro e w' ⟨rfl, rfl⟩; dsimp only; rw [decide_eq_false h1]))
        go_roundw
        case rel => exact ⟨k + 1, by omega, by go_num, hF3, hr⟩
        case measure => simp [intOf]; omega
    · obtain rfl : k = 8 := by omega
      have hfin : findK a = none := hN.out
      have hans : ∀ v : Value, v = .tuple #[spn0.val, vI 0, .bool false] → Ending.returned v = .returned (.tuple #[(spnO (findK a)).val, vI (plcO a (findK a)), .bool (findK a).isSome]) := fun v hv => by rw [hv, hfin]; rfl
      replace hans := show Hid _ from hans
      clear hfin
      have hF1 := hF
      go_wp2_with (first | (with_reducible refine wpList_built rfl 80 _ rfl #[vU 0, vU 0, .nilFunc, .nilFunc] (by kernel_rfl) ?_; simp only [Act.put, List.setIfInBounds_toArray, List.set_cons_succ, List.set_cons_zero]) | (refine spn_st rfl _ _ rfl w.heap.size rfl spn0 rfl rfl _ rfl rfl hF1.out.q ?_; simp only [Act.put, List.setIfInBounds_toArray, List.set_cons_succ, List.set_cons_zero]))
      exact bodyPost_ret (back_f rfl _ _ w.heap.size spn0 rfl (setRow_heap _ _ _ _ _ _ hF.out.q)) rfl ⟨hans.out _ rfl, below_setRow hF.out.b (Nat.le_refl _)⟩

/-- Does a level reach the k-th system register under a number? -/
def hitR (k : Nat) (el sys : Int) : Bool := decide ((reg k).f = sys) && decide ((reg k).c ≤ el) && decide (el ≤ 1)
def reachF (el sys : Int) : Nat → Option Nat
  | 0 => none
  | k + 1 => match reachF el sys k with | some j => some j | none => if hitR k el sys then some k else none
def reachK (el sys : Int) : Option Nat := reachF el sys 7
theorem reachF_stay {el sys : Int} {k j : Nat} (h : reachF el sys k = some j) : ∀ d, reachF el sys (k + d) = some j
  | 0 => h
  | d + 1 => by
    have ih := reachF_stay h d
    show (match reachF el sys (k + d) with | some j => some j | none => _) = _
    rw [ih]
theorem reachF_lt {el sys : Int} : ∀ {k j : Nat}, reachF el sys k = some j → j < k ∧ hitR j el sys = true
  | 0, j, h => by cases h
  | k + 1, j, h => by
    unfold reachF at h
    cases hk : reachF el sys k with
    | some i =>
      rw [hk] at h
      cases h
      have := reachF_lt hk
      exact ⟨by omega, this.2⟩
    | none =>
      rw [hk] at h
      dsimp only at h
      split at h
      · cases h; rename_i e; exact ⟨by omega, e⟩
      · cases h
def regO : Option Nat → Rgt
  | some k => reg k
  | none => ⟨0, 0, .nilFunc, .nilFunc⟩
theorem load94 (w : World) (g : Nat) (s : Rgt) (hg : w.heap[g]? = some (.cells s.row.toArray 94)) : (loadVar 94 ⟨g, 0, none⟩).run Tryz.prog w = .ok s.val w :=
  run_loadVar_row w g 94 94 s.row.toArray (0, 0) _ hg Tryz.underlying94 rfl reg_inf
theorem back_r {fn : Func} {p : Tmp} (h : fn.results = #[.cell p 94]) (tmps : Array Value) (w : World) (g : Nat) (s : Rgt) (hp : tmps.getD p undef = ptr g 0) (hg : w.heap[g]? = some (.cells s.row.toArray 94)) : (results fn tmps).run Tryz.prog w = .ok s.val w := by
  have hp' : tmps[p]?.getD undef = .pointer (some ⟨g, 0, none⟩) := by simpa using hp
  simp [results, h, hp', asAddr, load94 w g s hg]
abbrev reg0 : Rgt := ⟨0, 0, .nilFunc, .nilFunc⟩
structure RW (w : World) (q : Nat) (wr : World) : Prop where
  b : Below w.heap.size w wr
  q : wr.heap[q]? = some (.cells reg0.row.toArray 94)
set_option maxHeartbeats 2000000 in
theorem reach_k (el sys : Int) (w : World) : Calls Tryz.prog 49 #[vI el, vI sys] w fun e w' => e = .returned (regO (reachK el sys)).val ∧ Below w.heap.size w w' := by
  go_enter Tryz.func49, Tryz.ntmps49
  go_upto_region 1 with fail
  generalize hw1 : World.alloc _ _ = w1
  have HF : RW w w.heap.size w1 := by rw [← hw1]; exact ⟨below_alloc _ _, heap_alloc_new _ _⟩
  clear hw1
  go_upto_region 2 with (first | (go_at_call 73; refine (reg_c _).mono ?_; rintro e w2 ⟨rfl, hB2⟩; dsimp only))
  replace HF : RW w w.heap.size w2 := ⟨below_then HF.b (Nat.le_refl _) hB2, by rw [hB2.block _ (lt_of_some HF.q)]; exact HF.q⟩
  clear hB2
  generalize hsc : (Value.agg regCells) = sc
  replace hsc := show Hid _ from hsc
  go_loopw [8] (fun s8 wr => ∃ k : Nat, k ≤ 7 ∧ s8 = .int .i64 k ∧ Hid (RW w w.heap.size wr) ∧ Hid (reachF el sys k = none)) (fun s8 _ => 7 - (intOf s8).toNat)
  case atStart => exact ⟨0, by omega, rfl, HF, rfl⟩
  case round =>
    obtain ⟨k, hk8, rfl, hF, hN⟩ := hrel
    by_cases hlt : (k : Int) < 7
    · have hk : k < 7 := by omega
      have hix := reg_idx wr k hk
      rw [hsc.out] at hix
      have h12 := reg_r1 k
      have hres : reachF el sys (k + 1) = if hitR k el sys then some k else none := by
        show (match reachF el sys k with | some j => some j | none => _) = _
        rw [hN.out]
      have hhit : hitR k el sys = (decide ((reg k).f = sys) && decide ((reg k).c ≤ el) && decide (el ≤ 1)) := rfl
      generalize hs : reg k = s at *
      replace hres := show Hid _ from hres
      replace hhit := show Hid _ from hhit
      replace hs := show Hid _ from hs
      go_upto_region 4 with (first | (refine reg_st rfl _ _ rfl wr.heap.size rfl s h12.1 h12.2 _ (by kernel_rfl) rfl (heap_alloc_new _ _) ?_; simp only [Act.put, List.setIfInBounds_toArray, List.set_cons_succ, List.set_cons_zero]))
      generalize hw3 : World.setRow _ _ _ = w3
      have hd6 : w3.heap[wr.heap.size]? = some (.cells s.row.toArray 94) := by rw [← hw3]; exact setRow_heap _ _ _ _ _ _ (heap_alloc_new _ _)
      have hB3 : Below wr.heap.size wr w3 := by rw [← hw3]; exact below_setRow (below_alloc _ _) (Nat.le_refl _)
      have hF3 : Hid (RW w w.heap.size w3) := ⟨below_then hF.out.b (Nat.le_refl _) hB3, by rw [hB3.block _ (lt_of_some hF.out.q)]; exact hF.out.q⟩
      have z0 : w3.cell? ⟨wr.heap.size, 0, none⟩ = some (vI s.f) := by rw [cell_of_row _ _ _ _ _ _ hd6]; rfl
      have z1 : w3.cell? ⟨wr.heap.size, 1, none⟩ = some (vI s.c) := by rw [cell_of_row _ _ _ _ _ _ hd6]; rfl
      replace hd6 := show Hid _ from hd6
      clear hw3 hB3 hix h12 hF
      generalize wr.heap.size = q6 at *
      by_cases h1 : s.f = sys
      · have b1 : (s.f == sys) = true := by simpa using h1
        by_cases h2 : s.c ≤ el
        · by_cases h3 : el ≤ 1
          · have hr : reachF el sys (k + 1) = some k := by rw [hres.out, hhit.out, decide_eq_true h1, decide_eq_true h2, decide_eq_true h3]; rfl
            have hfin : reachK el sys = some k := by
              have := reachF_stay hr (6 - k)
              rw [show k + 1 + (6 - k) = 7 by omega] at this
              exact this
            have hans : ∀ v : Value, v = s.val → Ending.returned v = .returned (regO (reachK el sys)).val := fun v hv => by rw [hv, hfin, show regO (some k) = s from hs.out]
            replace hans := show Hid _ from hans
            clear hfin hr h1
            go_upto_region 5 with fail
            clear z0 z1
            go_wp2_with (first | (refine reg_ld rfl _ rfl q6 rfl s hd6.out ?_; simp only [Act.put, List.setIfInBounds_toArray, List.set_cons_succ, List.set_cons_zero]) | (refine reg_st rfl _ _ rfl w.heap.size rfl s (by rw [← hs.out]; exact (reg_r1 k).1) (by rw [← hs.out]; exact (reg_r1 k).2) _ rfl rfl hF3.out.q ?_; simp only [Act.put, List.setIfInBounds_toArray, List.set_cons_succ, List.set_cons_zero]))
            exact bodyPost_ret (back_r rfl _ _ w.heap.size s rfl (setRow_heap _ _ _ _ _ _ hF3.out.q)) rfl ⟨hans.out _ rfl, below_setRow hF3.out.b (Nat.le_refl _)⟩
          · have hr : Hid (reachF el sys (k + 1) = none) := by
              show reachF el sys (k + 1) = none
              rw [hres.out, hhit.out, decide_eq_true h1, decide_eq_true h2, decide_eq_false h3]; rfl
            clear h1
            go_wp2
            go_roundw
            case rel => exact ⟨k + 1, by omega, by go_num, hF3, hr⟩
            case measure => simp [intOf]; omega
        · have hr : Hid (reachF el sys (k + 1) = none) := by
            show reachF el sys (k + 1) = none
            rw [hres.out, hhit.out, decide_eq_true h1, decide_eq_false h2]; rfl
          clear h1
          go_wp2
          go_roundw
          case rel => exact ⟨k + 1, by omega, by go_num, hF3, hr⟩
          case measure => simp [intOf]; omega
      · have b1 : (s.f == sys) = false := by simpa using h1
        have hr : Hid (reachF el sys (k + 1) = none) := by
          show reachF el sys (k + 1) = none
          rw [hres.out, hhit.out, decide_eq_false h1]; rfl
        clear h1
        go_wp2
        go_roundw
        case rel => exact ⟨k + 1, by omega, by go_num, hF3, hr⟩
        case measure => simp [intOf]; omega
    · obtain rfl : k = 7 := by omega
      have hfin : reachK el sys = none := hN.out
      have hans : ∀ v : Value, v = reg0.val → Ending.returned v = .returned (regO (reachK el sys)).val := fun v hv => by rw [hv, hfin]; rfl
      replace hans := show Hid _ from hans
      clear hfin
      have hF1 := hF
      go_wp2_with (first | (with_reducible refine wpList_built rfl 94 _ rfl #[vI 0, vI 0, .nilFunc, .nilFunc] (by kernel_rfl) ?_; simp only [Act.put, List.setIfInBounds_toArray, List.set_cons_succ, List.set_cons_zero]) | (refine reg_st rfl _ _ rfl w.heap.size rfl reg0 rfl rfl _ rfl rfl hF1.out.q ?_; simp only [Act.put, List.setIfInBounds_toArray, List.set_cons_succ, List.set_cons_zero]))
      exact bodyPost_ret (back_r rfl _ _ w.heap.size reg0 rfl (setRow_heap _ _ _ _ _ _ hF.out.q)) rfl ⟨hans.out _ rfl, below_setRow hF.out.b (Nat.le_refl _)⟩
end Go.Proofs.YteklkololojamaaGreat
