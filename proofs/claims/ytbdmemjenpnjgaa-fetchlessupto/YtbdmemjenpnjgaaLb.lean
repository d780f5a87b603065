/- The chapter's examples. -/
import Derived.Test.YtbdmemjenpnjgaaLa
namespace Go.Proofs.Ytbdmemjenpnjgaa
open Go.RowKit
set_option linter.unusedVariables false
set_option linter.unusedSimpArgs false
set_option maxRecDepth 8000

open Go.Shelf Go.Maps
/-- One contract for May. -/
def mayW (tr : List Nt) (c : Int) (a f : Nat) : List Nat := if mayOk tr c a then mayL tr c a f else []
def mayE (tr : List Nt) (c : Int) (a : Nat) : Int := if mayOk tr c a then 0 else 1
theorem may_all {tr : List Nt} {v : Value} {c : Int} {a f : Nat} {w : World} (N : Nts w v tr) (ok : TrOk tr) (ha : a < 18446744073709551616) (hf : f < 4294967296) : Calls Try.prog 10 #[v, vI c, vU a, v32 f] w fun e w' => MayR w (mayW tr c a f) (mayE tr c a) e w' := by
  unfold mayW mayE
  cases h : mayOk tr c a with
  | false => exact may_no N ok ha h
  | true =>
    have h' := h
    unfold mayOk at h'
    simp only [Bool.and_eq_true] at h'
    obtain ⟨⟨_, h2⟩, _⟩ := h'
    obtain ⟨n, rfl⟩ : ∃ n : Nat, c = n := ⟨c.toNat, by simp [coreB] at h2; omega⟩
    exact may_ok N ok ha hf h
theorem nts_nil (w : World) : Nts w (.slice none 0 0) [] := ⟨⟨none, 0, rfl⟩, by decide, fun h => by simp at h⟩
theorem trOk_nil : TrOk [] := fun _ h => by cases h
theorem nts_new (w : World) (ns : List Nt) (m : Nat) (hm : ns.length = m) (h0 : 0 < m) (hl : m ≤ 4398046511104) (cs : Array Value) (hcs : cs = (ntF ns).toArray) : Nts (w.alloc (.cells cs 34)) (.slice (some ⟨w.heap.size, 0, none⟩) m m) ns := by
  subst hcs hm
  refine own_nts (base := w.heap.size) ⟨ntF_len _, .inr ⟨w.heap.size, ns.length, (ntF ns).toArray, rfl, Nat.le_refl _, World.alloc_heap_new _ _, Nat.le_refl _, by simp only [maxLen]; omega, by simp [ntF_len], by simp [← ntF_len]⟩⟩ hl
theorem wds_new (w : World) (l : List Nat) (m : Nat) (hm : l.length = m) (hl : m ≤ 4398046511105) (cs : Array Value) (hcs : cs = (wrdV l).toArray) : Wds (w.alloc (.cells cs 24)) (.slice (some ⟨w.heap.size, 0, none⟩) m m) l := by
  subst hcs hm
  refine wds_of_own (base := w.heap.size) ⟨by simp [wrdV], .inr ⟨w.heap.size, l.length, (wrdV l).toArray, rfl, Nat.le_refl _, World.alloc_heap_new _ _, Nat.le_refl _, by simp only [maxLen]; omega, by simp [wrdV], by rw [Nat.mul_one]; exact (List.take_of_length_le (by simp [wrdV]))⟩⟩ hl
abbrev x1 : List Nt := [⟨1, 0, 64, 8⟩, ⟨2, 0, 100, 0⟩, ⟨4, 0, 0, 0⟩]
abbrev x2 : List Nt := [⟨1, 0, 64, 8⟩, ⟨2, 0, 100, 0⟩, ⟨4, 1, 0, 0⟩]
abbrev x3 : List Nt := [⟨1, 0, 64, 8⟩, ⟨2, 0, 100, 0⟩, ⟨4, 1, 0, 0⟩, ⟨5, 1, 64, 7⟩]
theorem x3_ok : TrOk x3 := fun n hn => by
  simp only [x3, List.mem_cons, List.not_mem_nil, or_false] at hn
  rcases hn with rfl | rfl | rfl | rfl <;> exact ⟨by decide, by decide, by decide, by decide⟩
theorem x2_ok : TrOk x2 := fun n hn => by
  simp only [x2, List.mem_cons, List.not_mem_nil, or_false] at hn
  rcases hn with rfl | rfl | rfl <;> exact ⟨by decide, by decide, by decide, by decide⟩
theorem x1_ok : TrOk x1 := fun n hn => by
  simp only [x1, List.mem_cons, List.not_mem_nil, or_false] at hn
  rcases hn with rfl | rfl | rfl <;> exact ⟨by decide, by decide, by decide, by decide⟩
theorem m0 : mayW [] 1 64 7 = [7] ∧ mayE [] 1 64 = 0 := by decide
theorem m1 : mayW x1 1 64 7 = [7, 8] ∧ mayE x1 1 64 = 0 := by decide
theorem m2 : mayW x2 1 64 7 = [8] ∧ mayE x2 1 64 = 0 := by decide
theorem m3 : mayW [] 1 2 7 = [] ∧ mayE [] 1 2 = 1 := by decide
theorem m4 : rightL x3 = true ∧ checkL x3 (fun _ => 7) = 3 := by decide
theorem first20 (w : World) : First w 20 #[] (fun _ => 7) := ⟨enters_of Try.func20 (by kernel_rfl) rfl, fun W _ a _ => (ex1_c a W).mono fun e W' ⟨h1, h2⟩ => ⟨h1, by rw [h2]; exact Below.refl _ _⟩, fun _ => by decide⟩
theorem wds_may {w w' w2 : World} {l : List Nat} {u : Value} (R : w'.ownsRow w.heap.size 24 1 u l.length (wrdV l)) (hl : l.length ≤ 4398046511105) (B : Below w'.heap.size w' w2) : Wds w2 u l := (wds_of_own R hl).grow B
set_option maxHeartbeats 1000000 in
theorem examples_c (w : World) : Calls Try.prog 8 #[] w fun e w' => e = .returned (.bool true) ∧ Below w.heap.size w w' := by
  have kA : ∀ w, Calls Try.prog 10 #[.slice none 0 0, vI 1, vU 64, v32 7] w fun e w' => MayR w [7] 0 e w' := fun w => by
    have := may_all (f := 7) (nts_nil w) trOk_nil (c := 1) (a := 64) (by decide) (by decide)
    rw [m0.1, m0.2] at this
    exact this
  have kD : ∀ w, Calls Try.prog 10 #[.slice none 0 0, vI 1, vU 2, v32 7] w fun e w' => MayR w [] 1 e w' := fun w => by
    have := may_all (f := 7) (nts_nil w) trOk_nil (c := 1) (a := 2) (by decide) (by decide)
    rw [m3.1, m3.2] at this
    exact this
  have kB : ∀ w v, Nts w v x1 → Calls Try.prog 10 #[v, vI 1, vU 64, v32 7] w fun e w' => MayR w [7, 8] 0 e w' := fun w v N => by
    have := may_all (f := 7) N x1_ok (c := 1) (a := 64) (by decide) (by decide)
    rw [m1.1, m1.2] at this
    exact this
  have kC : ∀ w v, Nts w v x2 → Calls Try.prog 10 #[v, vI 1, vU 64, v32 7] w fun e w' => MayR w [8] 0 e w' := fun w v N => by
    have := may_all (f := 7) N x2_ok (c := 1) (a := 64) (by decide) (by decide)
    rw [m2.1, m2.2] at this
    exact this
  have kE : ∀ w v, Nts w v x3 → Calls Try.prog 13 #[v, clo 20 #[]] w fun e w' => CheckR w 3 0 e w' := fun w v N => by
    have := check_c (first20 w) N x3_ok
    rw [m4.1, m4.2] at this
    exact this
  have kW : ∀ w, Calls Try.prog 16 #[vU 64, v32 8] w fun e w' => e = .returned (.agg #[vI 1, vI 0, vU 64, v32 8]) ∧ Below w.heap.size w w' := fun w => write_c 64 8 w
  have kI : ∀ w, Calls Try.prog 15 #[vU 100] w fun e w' => e = .returned (.agg #[vI 2, vI 0, vU 100, v32 0]) ∧ Below w.heap.size w w' := fun w => ic_c 100 w
  have kS0 : ∀ w, Calls Try.prog 17 #[vI 0] w fun e w' => e = .returned (.agg #[vI 4, vI 0, vU 0, v32 0]) ∧ Below w.heap.size w w' := fun w => isb_c 0 w
  have kS1 : ∀ w, Calls Try.prog 17 #[vI 1] w fun e w' => e = .returned (.agg #[vI 4, vI 1, vU 0, v32 0]) ∧ Below w.heap.size w w' := fun w => isb_c 1 w
  go_enter Try.func8, Try.ntmps8
  go_upto_region 2 with (go_at_call 10; (with_reducible refine (kA _).mono ?_); clear kA; rintro e w1 ⟨uA, rfl, RA, B1⟩; dsimp only)
  have WA := wds_of_own RA (by decide)
  go_upto_region 3 with (first
    | (go_at_call 16; (with_reducible refine (kW _).mono ?_); rintro e p2 ⟨rfl, hp2⟩; dsimp only)
    | (go_at_call 15; (with_reducible refine (kI _).mono ?_); rintro e q2 ⟨rfl, hq2⟩; dsimp only)
    | (go_at_call 17; (with_reducible refine (kS0 _).mono ?_); rintro e r2 ⟨rfl, hr2⟩; dsimp only; have N2 := nts_new r2 x1 3 rfl (by decide) (by decide) #[vI 1, vI 0, vU 64, v32 8, vI 2, vI 0, vU 100, v32 0, vI 4, vI 0, vU 0, v32 0] rfl; have C2 := kB _ _ N2; have A2 := below_alloc r2 (.cells #[vI 1, vI 0, vU 64, v32 8, vI 2, vI 0, vU 100, v32 0, vI 4, vI 0, vU 0, v32 0] 34))
    | (go_at_call 10; (with_reducible refine C2.mono ?_); clear C2 N2; rintro e w2 ⟨uB, rfl, RB, B2⟩; dsimp only))
  have WB := wds_of_own RB (by decide)
  have T2 : Below w1.heap.size w1 w2 := below_then (below_then (below_then (below_then hp2 (Nat.le_refl _) hq2) (Nat.le_refl _) hr2) (Nat.le_refl _) A2) (Nat.le_refl _) B2
  clear hp2 hq2 hr2 A2 B2
  replace WA := WA.grow T2
  replace B1 := below_then B1 (Nat.le_refl _) T2
  clear T2
  go_upto_region 4 with (first
    | (go_at_call 16; (with_reducible refine (kW _).mono ?_); rintro e p3 ⟨rfl, hp3⟩; dsimp only)
    | (go_at_call 15; (with_reducible refine (kI _).mono ?_); rintro e q3 ⟨rfl, hq3⟩; dsimp only)
    | (go_at_call 17; (with_reducible refine (kS1 _).mono ?_); rintro e r3 ⟨rfl, hr3⟩; dsimp only; have N3 := nts_new r3 x2 3 rfl (by decide) (by decide) #[vI 1, vI 0, vU 64, v32 8, vI 2, vI 0, vU 100, v32 0, vI 4, vI 1, vU 0, v32 0] rfl; have C3 := kC _ _ N3; have A3 := below_alloc r3 (.cells #[vI 1, vI 0, vU 64, v32 8, vI 2, vI 0, vU 100, v32 0, vI 4, vI 1, vU 0, v32 0] 34))
    | (go_at_call 10; (with_reducible refine C3.mono ?_); clear C3 N3; rintro e w3 ⟨uC, rfl, RC, B3⟩; dsimp only))
  have WC := wds_of_own RC (by decide)
  have T3 : Below w2.heap.size w2 w3 := below_then (below_then (below_then (below_then hp3 (Nat.le_refl _) hq3) (Nat.le_refl _) hr3) (Nat.le_refl _) A3) (Nat.le_refl _) B3
  clear hp3 hq3 hr3 A3 B3
  replace WA := WA.grow T3
  replace WB := WB.grow T3
  replace B1 := below_then B1 (Nat.le_refl _) T3
  clear T3
  go_upto_region 5 with (go_at_call 10; (with_reducible refine (kD _).mono ?_); clear kD; rintro e w4 ⟨uD, rfl, RD, B4⟩; dsimp only)
  replace WA := WA.grow B4
  replace WB := WB.grow B4
  replace WC := WC.grow B4
  replace B1 := below_then B1 (Nat.le_refl _) B4
  clear B4
  go_upto_region 6 with (first
    | (go_at_call 16; (with_reducible refine (kW _).mono ?_); rintro e p5 ⟨rfl, hp5⟩; dsimp only)
    | (go_at_call 15; (with_reducible refine (kI _).mono ?_); rintro e q5 ⟨rfl, hq5⟩; dsimp only)
    | (go_at_call 17; (with_reducible refine (kS1 _).mono ?_); rintro e r5 ⟨rfl, hr5⟩; dsimp only; have N5 := nts_new r5 x3 4 rfl (by decide) (by decide) #[vI 1, vI 0, vU 64, v32 8, vI 2, vI 0, vU 100, v32 0, vI 4, vI 1, vU 0, v32 0, vI 5, vI 1, vU 64, v32 7] rfl; have C5 := kE _ _ N5; have A5 := below_alloc r5 (.cells #[vI 1, vI 0, vU 64, v32 8, vI 2, vI 0, vU 100, v32 0, vI 4, vI 1, vU 0, v32 0, vI 5, vI 1, vU 64, v32 7] 34))
    | (go_at_call 13; (with_reducible refine C5.mono ?_); clear C5 N5; rintro e w5 ⟨rfl, B5⟩; dsimp only))
  have T5 : Below w4.heap.size w4 w5 := below_then (below_then (below_then (below_then hp5 (Nat.le_refl _) hq5) (Nat.le_refl _) hr5) (Nat.le_refl _) A5) (Nat.le_refl _) B5
  clear hp5 hq5 hr5 A5 B5
  replace WA := WA.grow T5
  replace WB := WB.grow T5
  replace WC := WC.grow T5
  replace B1 := below_then B1 (Nat.le_refl _) T5
  clear T5
  have E5 := below_alloc w5 (.cells #[v32 7] 24)
  have D5 := same_c (WA.grow E5) (wds_new w5 [7] 1 rfl (by decide) #[v32 7] rfl)
  go_upto_region 7 with (go_at_call 11; (with_reducible refine D5.mono ?_); clear D5; rintro e w6 ⟨rfl, F5⟩; dsimp only)
  replace E5 := below_then E5 (Nat.le_refl _) F5
  replace B1 := below_then B1 (Nat.le_refl _) E5
  replace WB := WB.grow E5
  replace WC := WC.grow E5
  clear E5 F5
  have E6 := below_alloc w6 (.cells #[v32 7, v32 8] 24)
  have D6 := same_c (WB.grow E6) (wds_new w6 [7, 8] 2 rfl (by decide) #[v32 7, v32 8] rfl)
  go_upto_region 8 with (go_at_call 11; (with_reducible refine D6.mono ?_); clear D6; rintro e w7 ⟨rfl, F6⟩; dsimp only)
  replace E6 := below_then E6 (Nat.le_refl _) F6
  replace B1 := below_then B1 (Nat.le_refl _) E6
  replace WC := WC.grow E6
  clear E6 F6
  have E7 := below_alloc w7 (.cells #[v32 8] 24)
  have D7 := same_c (WC.grow E7) (wds_new w7 [8] 1 rfl (by decide) #[v32 8] rfl)
  go_upto_region 9 with (go_at_call 11; (with_reducible refine D7.mono ?_); clear D7; rintro e w8 ⟨rfl, F7⟩; dsimp only)
  replace E7 := below_then E7 (Nat.le_refl _) F7
  replace B1 := below_then B1 (Nat.le_refl _) E7
  clear E7 F7
  go_wp2
  go_ret
  exact ⟨by simp, B1⟩
end Go.Proofs.Ytbdmemjenpnjgaa
