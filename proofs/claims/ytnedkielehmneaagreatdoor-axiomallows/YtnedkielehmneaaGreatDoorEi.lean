/- behindReads, agrees, Right. -/
import Derived.Test.YtnedkielehmneaaGreatDoorEh
import Derived.Test.YtnedkielehmneaaGreatDoorPl
namespace Go.Proofs.YtnedkielehmneaaGreatDoor
open Go.RowKit
open Go.Shelf
set_option linter.unusedVariables false
set_option linter.unusedSimpArgs false
set_option maxRecDepth 8000

open Axm
set_option maxHeartbeats 2000000 in
theorem behind_c {w : World} {v : Value} {n : Nat} {x : Nat → Ev} (E : Evs w v n x) {a : Nat} (ha : a < n) {s : Value} {l : List Int} (R : RawI w s l) : Calls Tryz.prog 72 #[v, vI a, s] w fun e w' => e = .returned (.bool (behind n x a l)) ∧ w' = w := by
  obtain ⟨ra, cap, rfl, hc⟩ := E.cell (by omega)
  obtain ⟨s0, s1, s2, A⟩ := hc a ha
  have c0 := A.c0
  have c1 := A.c1
  have hai : (a : Int) < n := by omega
  obtain ⟨so, scap, hs⟩ := R.len
  have hsm := R.max
  simp only [maxLen] at hsm
  obtain ⟨r, hr⟩ : ∃ r, r = behind n x a l := ⟨_, rfl⟩
  rw [← hr]
  replace hr := show Hid _ from hr
  rw [hs]
  go_enter Tryz.func72, Tryz.ntmps72
  go_wp2
  go_loop [8, 9, 10, 13] (fun _ _ _ s13 => ∃ k : Nat, k ≤ l.length ∧ s13 = vI k ∧ ∀ i p, i < k → l[i]? = some p → (decide (p < (x a).po) && (readAt n x (x a).core p).isSome) = true) (fun _ _ _ s13 => l.length - (intOf s13).toNat)
  case atStart => exact ⟨0, Nat.zero_le _, rfl, fun i p h => by omega⟩
  case round =>
    obtain ⟨k, hk, rfl, hno⟩ := hrel
    replace hno := show Hid _ from hno
    by_cases hlt : (k : Int) < l.length
    · obtain ⟨pa, pcap, pe, hcell⟩ := R.cell (by omega)
      rw [hs] at pe
      cases pe
      have hpj : l[k]? = some l[k] := List.getElem?_eq_getElem (by omega)
      obtain ⟨hb1, cz⟩ := hcell k _ hpj
      generalize l[k] = p at hpj cz
      clear hcell
      have hq := readAt_c E (x a).core p
      have bad : (decide (p < (x a).po) && (readAt n x (x a).core p).isSome) = false → r = false := fun h => by
        rw [hr.out]
        unfold behind
        rw [Bool.eq_false_iff, Ne, List.all_eq_true]
        intro e
        have := e p (List.mem_of_getElem? hpj)
        rw [h] at this; cases this
      have good : (decide (p < (x a).po) && (readAt n x (x a).core p).isSome) = true → ∀ i q, i < k + 1 → l[i]? = some q → (decide (q < (x a).po) && (readAt n x (x a).core q).isSome) = true := fun h i q hi hq => by
        by_cases e : i = k
        · subst e; rw [hpj] at hq; cases hq; exact h
        · exact hno.out i q (by omega) hq
      replace bad := show Hid _ from bad
      replace good := show Hid _ from good
      clear hc A E hno R
      by_cases h1 : p < (x a).po
      · cases hz : readAt n x (x a).core p with
        | none =>
          have hv := bad.out (by rw [hz]; simp)
          rw [hz] at hq
          replace hq : Calls Tryz.prog 110 #[.slice (some ra) n cap, vI (x a).core, vI p] w fun e w' => e = .returned (.tuple #[vI 0, .bool false]) ∧ w' = w := hq
          go_wp2_with (first | (go_at_call 110; with_reducible refine hq.mono ?_; clear hq; rintro e w1 ⟨rfl, rfl⟩; dsimp only))
          go_ret
          exact ⟨by first | rfl | (rw [hv]; rfl), rfl⟩
        | some c =>
          have hv := good.out (by rw [hz, decide_eq_true h1]; rfl)
          rw [hz] at hq
          replace hq : Calls Tryz.prog 110 #[.slice (some ra) n cap, vI (x a).core, vI p] w fun e w' => e = .returned (.tuple #[vI c, .bool true]) ∧ w' = w := hq
          go_wp2_with (first | (go_at_call 110; with_reducible refine hq.mono ?_; clear hq; rintro e w1 ⟨rfl, rfl⟩; dsimp only))
          go_round
          case rel => exact ⟨k + 1, by omega, by go_num, hv⟩
          case measure => simp [intOf]; omega
      · have hv := bad.out (by rw [decide_eq_false h1]; rfl)
        go_wp2_with (first | (go_at_call 110; with_reducible refine hq.mono ?_; clear hq; rintro e w1 ⟨rfl, rfl⟩; dsimp only))
        go_ret
        exact ⟨by first | rfl | (rw [hv]; rfl), rfl⟩
    · have hv : r = true := by
        rw [hr.out]
        unfold behind
        rw [List.all_eq_true]
        intro p hp
        obtain ⟨i, hi⟩ := List.getElem?_of_mem hp
        exact hno.out i p (by have := (List.getElem?_eq_some_iff.1 hi).1; omega) hi
      go_wp2
      go_ret
      exact ⟨by first | rfl | (rw [hv]; rfl), rfl⟩
set_option maxHeartbeats 4000000 in
theorem agrees_c {w : World} {v : Value} {n : Nat} {x : Nat → Ev} (E : Evs w v n x) {a : Nat} (ha : a < n) : Calls Tryz.prog 36 #[v, vI a] w fun e w' => e = .returned (.bool (agrees n x a)) ∧ Below w.heap.size w w' := by
  have kw := wt_c E ha
  have ko := ownStamp_c E ha
  have kq := readRight_c E ha
  obtain ⟨r, hr⟩ : ∃ r, r = agrees n x a := ⟨_, rfl⟩
  rw [← hr]
  replace hr := show Hid _ from hr
  have hb0 := Below.refl w.heap.size w
  obtain ⟨ra, cap, rfl, hc⟩ := E.cell (by omega)
  obtain ⟨s0, s1, s2, A⟩ := hc a ha
  obtain ⟨o0, p0, e0⟩ := A.r0.len
  obtain ⟨o1, p1, e1⟩ := A.r1.len
  obtain ⟨o2, p2, e2⟩ := A.r2.len
  have hai : (a : Int) < n := by omega
  cases h1 : wt x a with
  | true =>
    have h2 : rd x a = false := by cases e : rd x a with | false => rfl | true => exact (rd_wt e h1).elim
    rw [h1] at kw
    cases h3 : ownStamp n x a with
    | false =>
      have hv : r = false := by rw [hr.out, agrees, h1, h3]; rfl
      rw [h3] at ko
      go_enter Tryz.func36, Tryz.ntmps36
      go_wp2_with (first | (go_at_call 68; with_reducible refine kw.mono ?_; clear kw; rintro e w0 ⟨rfl, rfl⟩; dsimp only) | (go_at_call 69; with_reducible refine ko.mono ?_; clear ko; rintro e w1 ⟨rfl, hB1⟩; dsimp only))
      go_ret
      exact ⟨by first | rfl | (rw [hv]; rfl), hB1⟩
    | true =>
      rw [h3] at ko
      go_enter Tryz.func36, Tryz.ntmps36
      go_upto_region 3 with (first | (go_at_call 68; with_reducible refine kw.mono ?_; clear kw; rintro e w0 ⟨rfl, rfl⟩; dsimp only) | (go_at_call 69; with_reducible refine ko.mono ?_; clear ko; rintro e w1 ⟨rfl, hB1⟩; dsimp only))
      have kr := rd_c (E.grow hB1) ha
      rw [h2] at kr
      have A5 := A.grow hB1
      have g0 := A5.c10
      have g1 := A5.c11
      have g2 := A5.c12
      have k0 := behind_c (E.grow hB1) ha A5.r0
      have k1 := behind_c (E.grow hB1) ha A5.r1
      have k2 := behind_c (E.grow hB1) ha A5.r2
      have hr5 : r = (behind n x a (x a).adr && behind n x a (x a).dat && behind n x a (x a).ctl) := by rw [hr.out, agrees, h1, h2, h3]; rfl
      replace hr5 := show Hid _ from hr5
      rw [e0] at g0 k0
      rw [e1] at g1 k1
      rw [e2] at g2 k2
      clear hc A A5 E
      cases m0 : behind n x a (x a).adr with
      | false =>
        rw [m0] at k0
        have hv : r = false := by rw [hr5.out, m0]; rfl
        go_wp2_with (first | (go_at_call 68; with_reducible refine kw.mono ?_; clear kw; rintro e w0 ⟨rfl, rfl⟩; dsimp only) | (go_at_call 70; with_reducible refine kr.mono ?_; clear kr; rintro e w0 ⟨rfl, rfl⟩; dsimp only) | (go_at_call 72; with_reducible refine k0.mono ?_; clear k0; rintro e w0 ⟨rfl, rfl⟩; dsimp only))
        go_ret
        exact ⟨by first | rfl | (rw [hv]; rfl), hB1⟩
      | true =>
        rw [m0] at k0
        cases m1 : behind n x a (x a).dat with
        | false =>
          rw [m1] at k1
          have hv : r = false := by rw [hr5.out, m0, m1]; rfl
          go_wp2_with (first | (go_at_call 68; with_reducible refine kw.mono ?_; clear kw; rintro e w0 ⟨rfl, rfl⟩; dsimp only) | (go_at_call 70; with_reducible refine kr.mono ?_; clear kr; rintro e w0 ⟨rfl, rfl⟩; dsimp only) | (go_at_call 72; with_reducible refine k0.mono ?_; clear k0; rintro e w0 ⟨rfl, rfl⟩; dsimp only) | (go_at_call 72; with_reducible refine k1.mono ?_; clear k1; rintro e w0 ⟨rfl, rfl⟩; dsimp only))
          go_ret
          exact ⟨by first | rfl | (rw [hv]; rfl), hB1⟩
        | true =>
          rw [m1] at k1
          have hv : r = behind n x a (x a).ctl := by rw [hr5.out, m0, m1]; rfl
          go_wp2_with (first | (go_at_call 68; with_reducible refine kw.mono ?_; clear kw; rintro e w0 ⟨rfl, rfl⟩; dsimp only) | (go_at_call 70; with_reducible refine kr.mono ?_; clear kr; rintro e w0 ⟨rfl, rfl⟩; dsimp only) | (go_at_call 72; with_reducible refine k0.mono ?_; clear k0; rintro e w0 ⟨rfl, rfl⟩; dsimp only) | (go_at_call 72; with_reducible refine k1.mono ?_; clear k1; rintro e w0 ⟨rfl, rfl⟩; dsimp only) | (go_at_call 72; with_reducible refine k2.mono ?_; clear k2; rintro e w0 ⟨rfl, rfl⟩; dsimp only))
          go_ret
          exact ⟨by first | rfl | (rw [hv]; rfl), hB1⟩
  | false =>
    rw [h1] at kw
    have kr := rd_c E ha
    cases h2 : rd x a with
    | false =>
      rw [h2] at kr
      have A5 := A.grow hb0
      have g0 := A5.c10
      have g1 := A5.c11
      have g2 := A5.c12
      have k0 := behind_c (E.grow hb0) ha A5.r0
      have k1 := behind_c (E.grow hb0) ha A5.r1
      have k2 := behind_c (E.grow hb0) ha A5.r2
      have hr5 : r = (behind n x a (x a).adr && behind n x a (x a).dat && behind n x a (x a).ctl) := by rw [hr.out, agrees, h1, h2]; rfl
      replace hr5 := show Hid _ from hr5
      rw [e0] at g0 k0
      rw [e1] at g1 k1
      rw [e2] at g2 k2
      clear hc A A5 E
      go_enter Tryz.func36, Tryz.ntmps36
      go_upto_region 3 with (first | (go_at_call 68; with_reducible refine kw.mono ?_; clear kw; rintro e w0 ⟨rfl, rfl⟩; dsimp only))
      cases m0 : behind n x a (x a).adr with
      | false =>
        rw [m0] at k0
        have hv : r = false := by rw [hr5.out, m0]; rfl
        go_wp2_with (first | (go_at_call 68; with_reducible refine kw.mono ?_; clear kw; rintro e w0 ⟨rfl, rfl⟩; dsimp only) | (go_at_call 70; with_reducible refine kr.mono ?_; clear kr; rintro e w0 ⟨rfl, rfl⟩; dsimp only) | (go_at_call 72; with_reducible refine k0.mono ?_; clear k0; rintro e w0 ⟨rfl, rfl⟩; dsimp only))
        go_ret
        exact ⟨by first | rfl | (rw [hv]; rfl), hb0⟩
      | true =>
        rw [m0] at k0
        cases m1 : behind n x a (x a).dat with
        | false =>
          rw [m1] at k1
          have hv : r = false := by rw [hr5.out, m0, m1]; rfl
          go_wp2_with (first | (go_at_call 68; with_reducible refine kw.mono ?_; clear kw; rintro e w0 ⟨rfl, rfl⟩; dsimp only) | (go_at_call 70; with_reducible refine kr.mono ?_; clear kr; rintro e w0 ⟨rfl, rfl⟩; dsimp only) | (go_at_call 72; with_reducible refine k0.mono ?_; clear k0; rintro e w0 ⟨rfl, rfl⟩; dsimp only) | (go_at_call 72; with_reducible refine k1.mono ?_; clear k1; rintro e w0 ⟨rfl, rfl⟩; dsimp only))
          go_ret
          exact ⟨by first | rfl | (rw [hv]; rfl), hb0⟩
        | true =>
          rw [m1] at k1
          have hv : r = behind n x a (x a).ctl := by rw [hr5.out, m0, m1]; rfl
          go_wp2_with (first | (go_at_call 68; with_reducible refine kw.mono ?_; clear kw; rintro e w0 ⟨rfl, rfl⟩; dsimp only) | (go_at_call 70; with_reducible refine kr.mono ?_; clear kr; rintro e w0 ⟨rfl, rfl⟩; dsimp only) | (go_at_call 72; with_reducible refine k0.mono ?_; clear k0; rintro e w0 ⟨rfl, rfl⟩; dsimp only) | (go_at_call 72; with_reducible refine k1.mono ?_; clear k1; rintro e w0 ⟨rfl, rfl⟩; dsimp only) | (go_at_call 72; with_reducible refine k2.mono ?_; clear k2; rintro e w0 ⟨rfl, rfl⟩; dsimp only))
          go_ret
          exact ⟨by first | rfl | (rw [hv]; rfl), hb0⟩
    | true =>
      rw [h2] at kr
      cases h3 : readRight n x a with
      | false =>
        have hv : r = false := by rw [hr.out, agrees, h1, h2, h3]; rfl
        rw [h3] at kq
        go_enter Tryz.func36, Tryz.ntmps36
        go_wp2_with (first | (go_at_call 68; with_reducible refine kw.mono ?_; clear kw; rintro e w0 ⟨rfl, rfl⟩; dsimp only) | (go_at_call 70; with_reducible refine kr.mono ?_; clear kr; rintro e w0 ⟨rfl, rfl⟩; dsimp only) | (go_at_call 71; with_reducible refine kq.mono ?_; clear kq; rintro e w1 ⟨rfl, hB1⟩; dsimp only))
        go_ret
        exact ⟨by first | rfl | (rw [hv]; rfl), hB1⟩
      | true =>
        rw [h3] at kq
        go_enter Tryz.func36, Tryz.ntmps36
        go_upto_region 5 with (first | (go_at_call 68; with_reducible refine kw.mono ?_; clear kw; rintro e w0 ⟨rfl, rfl⟩; dsimp only) | (go_at_call 70; with_reducible refine kr.mono ?_; clear kr; rintro e w0 ⟨rfl, rfl⟩; dsimp only) | (go_at_call 71; with_reducible refine kq.mono ?_; clear kq; rintro e w1 ⟨rfl, hB1⟩; dsimp only))
        have A5 := A.grow hB1
        have g0 := A5.c10
        have g1 := A5.c11
        have g2 := A5.c12
        have k0 := behind_c (E.grow hB1) ha A5.r0
        have k1 := behind_c (E.grow hB1) ha A5.r1
        have k2 := behind_c (E.grow hB1) ha A5.r2
        have hr5 : r = (behind n x a (x a).adr && behind n x a (x a).dat && behind n x a (x a).ctl) := by rw [hr.out, agrees, h1, h2, h3]; rfl
        replace hr5 := show Hid _ from hr5
        rw [e0] at g0 k0
        rw [e1] at g1 k1
        rw [e2] at g2 k2
        clear hc A A5 E
        cases m0 : behind n x a (x a).adr with
        | false =>
          rw [m0] at k0
          have hv : r = false := by rw [hr5.out, m0]; rfl
          go_wp2_with (first | (go_at_call 68; with_reducible refine kw.mono ?_; clear kw; rintro e w0 ⟨rfl, rfl⟩; dsimp only) | (go_at_call 70; with_reducible refine kr.mono ?_; clear kr; rintro e w0 ⟨rfl, rfl⟩; dsimp only) | (go_at_call 72; with_reducible refine k0.mono ?_; clear k0; rintro e w0 ⟨rfl, rfl⟩; dsimp only))
          go_ret
          exact ⟨by first | rfl | (rw [hv]; rfl), hB1⟩
        | true =>
          rw [m0] at k0
          cases m1 : behind n x a (x a).dat with
          | false =>
            rw [m1] at k1
            have hv : r = false := by rw [hr5.out, m0, m1]; rfl
            go_wp2_with (first | (go_at_call 68; with_reducible refine kw.mono ?_; clear kw; rintro e w0 ⟨rfl, rfl⟩; dsimp only) | (go_at_call 70; with_reducible refine kr.mono ?_; clear kr; rintro e w0 ⟨rfl, rfl⟩; dsimp only) | (go_at_call 72; with_reducible refine k0.mono ?_; clear k0; rintro e w0 ⟨rfl, rfl⟩; dsimp only) | (go_at_call 72; with_reducible refine k1.mono ?_; clear k1; rintro e w0 ⟨rfl, rfl⟩; dsimp only))
            go_ret
            exact ⟨by first | rfl | (rw [hv]; rfl), hB1⟩
          | true =>
            rw [m1] at k1
            have hv : r = behind n x a (x a).ctl := by rw [hr5.out, m0, m1]; rfl
            go_wp2_with (first | (go_at_call 68; with_reducible refine kw.mono ?_; clear kw; rintro e w0 ⟨rfl, rfl⟩; dsimp only) | (go_at_call 70; with_reducible refine kr.mono ?_; clear kr; rintro e w0 ⟨rfl, rfl⟩; dsimp only) | (go_at_call 72; with_reducible refine k0.mono ?_; clear k0; rintro e w0 ⟨rfl, rfl⟩; dsimp only) | (go_at_call 72; with_reducible refine k1.mono ?_; clear k1; rintro e w0 ⟨rfl, rfl⟩; dsimp only) | (go_at_call 72; with_reducible refine k2.mono ?_; clear k2; rintro e w0 ⟨rfl, rfl⟩; dsimp only))
            go_ret
            exact ⟨by first | rfl | (rw [hv]; rfl), hB1⟩

set_option maxHeartbeats 2000000 in
theorem right_c {w : World} {v : Value} {n : Nat} {x : Nat → Ev} (E : Evs w v n x) : Calls Tryz.prog 13 #[v] w fun e w' => e = .returned (vI (rightE n x)) ∧ Below w.heap.size w w' := by
  have hmax := E.max
  simp only [maxLen] at hmax
  have hb0 := Below.refl w.heap.size w
  have k1 := all_A E 35 (enters_of Tryz.func35 (by kernel_rfl) rfl) (formed n x) (fun a ha W hW => formed_c (E.grow hW) ha)
  obtain ⟨ao, cap, hv⟩ := E.len
  have k2 : ∀ W, Below w.heap.size w W → Calls Tryz.prog 34 #[v, .func (.func 36) #[v] #[]] W fun e w' => e = .returned (.bool (allB n (agrees n x))) ∧ Below W.heap.size W w' := fun W hW => all_A (E.grow hW) 36 (enters_of Tryz.func36 (by kernel_rfl) rfl) (agrees n x) (fun a ha W' hW' => agrees_c ((E.grow hW).grow hW') ha)
  clear E
  subst hv
  obtain ⟨r, hr⟩ : ∃ r, r = rightE n x := ⟨_, rfl⟩
  rw [← hr]
  replace hr := show Hid _ from hr
  by_cases h0 : 64 < n
  · have h0i : (n : Int) > 64 := by omega
    have hv : r = 5 := by rw [hr.out, rightE, if_pos h0]
    go_enter Tryz.func13, Tryz.ntmps13
    go_wp2
    go_ret
    exact ⟨by first | rfl | (rw [hv]; rfl), hb0⟩
  · have h0i : ¬ ((n : Int) > 64) := by omega
    cases h1 : allB n (formed n x) with
    | false =>
      have hv : r = 1 := by rw [hr.out, rightE, if_neg h0, h1]; rfl
      rw [h1] at k1
      go_enter Tryz.func13, Tryz.ntmps13
      go_wp2_with (first | (go_at_call 34; with_reducible refine k1.mono ?_; clear k1; rintro e w1 ⟨rfl, hB1⟩; dsimp only))
      go_ret
      exact ⟨by first | rfl | (rw [hv]; rfl), hB1⟩
    | true =>
      rw [h1] at k1
      cases h2 : allB n (agrees n x) with
      | false =>
        have hv : r = 7 := by rw [hr.out, rightE, if_neg h0, h1, h2]; rfl
        rw [h2] at k2
        go_enter Tryz.func13, Tryz.ntmps13
        go_wp2_with (first | (go_at_call 34; with_reducible refine k1.mono ?_; clear k1; rintro e w1 ⟨rfl, hB1⟩; dsimp only) | (go_at_call 34; with_reducible refine (k2 _ hB1).mono ?_; clear k2; rintro e w2 ⟨rfl, hB2⟩; dsimp only))
        go_ret
        exact ⟨by first | rfl | (rw [hv]; rfl), hB1.trans (hB2.mono hB1.size)⟩
      | true =>
        have hv : r = 0 := by rw [hr.out, rightE, if_neg h0, h1, h2]; rfl
        rw [h2] at k2
        go_enter Tryz.func13, Tryz.ntmps13
        go_wp2_with (first | (go_at_call 34; with_reducible refine k1.mono ?_; clear k1; rintro e w1 ⟨rfl, hB1⟩; dsimp only) | (go_at_call 34; with_reducible refine (k2 _ hB1).mono ?_; clear k2; rintro e w2 ⟨rfl, hB2⟩; dsimp only))
        go_ret
        exact ⟨by first | rfl | (rw [hv]; rfl), hB1.trans (hB2.mono hB1.size)⟩
end Go.Proofs.YtnedkielehmneaaGreatDoor
