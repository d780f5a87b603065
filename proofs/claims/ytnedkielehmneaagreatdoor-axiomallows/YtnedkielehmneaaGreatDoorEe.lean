/- readAt; dependencies. -/
import Derived.Test.YtnedkielehmneaaGreatDoorEd
namespace Go.Proofs.YtnedkielehmneaaGreatDoor
open Go.RowKit
open Go.Shelf
set_option linter.unusedVariables false
set_option linter.unusedSimpArgs false
set_option maxRecDepth 8000

open Axm
theorem readAt_no {n : Nat} {x : Nat → Ev} {core po : Int} (h : ∀ a, a < n → isAt x core po a = false) : readAt n x core po = none := Rlw.find_none.2 h
theorem readAt_yes {n : Nat} {x : Nat → Ev} {core po : Int} {k : Nat} (hk : k < n) (h : ∀ a, a < k → isAt x core po a = false) (hy : isAt x core po k = true) : readAt n x core po = some k := Rlw.find_range.2 ⟨hk, hy, h⟩
set_option maxHeartbeats 2000000 in
theorem readAt_c {w : World} {v : Value} {n : Nat} {x : Nat → Ev} (E : Evs w v n x) (core po : Int) : Calls Tryz.prog 110 #[v, vI core, vI po] w fun e w' => e = .returned (.tuple #[vI ((readAt n x core po).getD 0 : Nat), .bool (readAt n x core po).isSome]) ∧ w' = w := by
  obtain ⟨ao, cap, hv⟩ := E.len
  have hmax := E.max
  simp only [maxLen] at hmax
  subst hv
  go_enter Tryz.func110, Tryz.ntmps110
  go_wp2
  go_loop [8, 11] (fun _ s11 => ∃ k : Nat, k ≤ n ∧ s11 = vI k ∧ ∀ a, a < k → isAt x core po a = false) (fun _ s11 => n - (intOf s11).toNat)
  case atStart => exact ⟨0, Nat.zero_le _, rfl, fun a h => by omega⟩
  case round =>
    obtain ⟨k, hk, rfl, hno⟩ := hrel
    replace hno := show Hid _ from hno
    by_cases hlt : (k : Int) < n
    · have hk2 : k < n := by omega
      have kr := rd_c E hk2
      obtain ⟨ra, cap2, ev, hc⟩ := E.cell (by omega)
      cases ev
      obtain ⟨s0, s1, s2, A⟩ := hc k hk2
      have c0 := A.c0
      have c1 := A.c1
      have step : isAt x core po k = false → ∀ a, a < k + 1 → isAt x core po a = false := fun h a ha => by
        by_cases e : a = k
        · rw [e]; exact h
        · exact hno.out a (by omega)
      have found : isAt x core po k = true → readAt n x core po = some k := readAt_yes hk2 hno.out
      replace step := show Hid _ from step
      replace found := show Hid _ from found
      clear hc A E hno
      cases h1 : rd x k with
      | false =>
        rw [h1] at kr
        have hz : isAt x core po k = false := by simp [isAt, h1]
        go_wp2_with (first | (go_at_call 70; with_reducible refine kr.mono ?_; clear kr; rintro e w1 ⟨rfl, rfl⟩; dsimp only))
        go_round
        case rel => exact ⟨k + 1, by omega, by go_num, step.out hz⟩
        case measure => simp [intOf]; omega
      | true =>
        rw [h1] at kr
        by_cases h2 : (x k).core = core
        · by_cases h3 : (x k).po = po
          · have hz := found.out (by simp [isAt, h1, h2, h3])
            go_wp2_with (first | (go_at_call 70; with_reducible refine kr.mono ?_; clear kr; rintro e w1 ⟨rfl, rfl⟩; dsimp only))
            go_ret2
            exact ⟨by first | rfl | (rw [hz]; rfl), rfl⟩
          · have hz : isAt x core po k = false := by simp [isAt, h1, h3]
            go_wp2_with (first | (go_at_call 70; with_reducible refine kr.mono ?_; clear kr; rintro e w1 ⟨rfl, rfl⟩; dsimp only))
            go_round
            case rel => exact ⟨k + 1, by omega, by go_num, step.out hz⟩
            case measure => simp [intOf]; omega
        · have hz : isAt x core po k = false := by simp [isAt, h1, h2]
          go_wp2_with (first | (go_at_call 70; with_reducible refine kr.mono ?_; clear kr; rintro e w1 ⟨rfl, rfl⟩; dsimp only))
          go_round
          case rel => exact ⟨k + 1, by omega, by go_num, step.out hz⟩
          case measure => simp [intOf]; omega
    · have hz : readAt n x core po = none := readAt_no fun a ha => hno.out a (by omega)
      go_wp2
      go_ret2
      exact ⟨by first | rfl | (rw [hz]; rfl), rfl⟩
/-- The dependencies so far. -/
def depP (n : Nat) (x : Nat → Ev) (l : List Int) (b a : Nat) : Bool := l.any fun p => readAt n x (x b).core p == some a
def dpR (n : Nat) (x : Nat → Ev) (g : Nat → List Int) (k j : Nat) : Nat → Nat → Bool := fun a b => decide (b < k) && depP n x (g b) b a || decide (b = k) && depP n x ((g b).take j) b a
theorem dpR_iff {n : Nat} {x : Nat → Ev} {g : Nat → List Int} {k j a b : Nat} : dpR n x g k j a b = true ↔ b < k ∧ depP n x (g b) b a = true ∨ b = k ∧ depP n x ((g b).take j) b a = true := by simp [dpR]
theorem dpR_zero (n : Nat) (x : Nat → Ev) (g : Nat → List Int) : (fun _ _ => false) = dpR n x g 0 0 := Rlw.ext2 fun a b => by
  rw [dpR_iff]
  constructor
  · intro h; cases h
  · rintro (⟨h, _⟩ | ⟨_, h⟩)
    · omega
    · simp [depP] at h
theorem take_more {l : List Int} {j : Nat} {p : Int} (h : l[j]? = some p) : l.take (j + 1) = l.take j ++ [p] := by
  rw [List.take_add_one, h]; rfl
theorem dpR_add {n : Nat} {x : Nat → Ev} {g : Nat → List Int} {k j : Nat} {p : Int} (hp : (g k)[j]? = some p) {c : Nat} (h : readAt n x (x k).core p = some c) : Rlw.addR (dpR n x g k j) c k = dpR n x g k (j + 1) := Rlw.ext2 fun a b => by
  rw [dpR_iff]
  simp only [Rlw.addR, Bool.or_eq_true, dpR_iff, Bool.and_eq_true, decide_eq_true_eq]
  constructor
  · rintro ((h1 | ⟨rfl, h1⟩) | ⟨rfl, rfl⟩)
    · exact .inl h1
    · refine .inr ⟨rfl, ?_⟩
      rw [take_more hp]; simp only [depP, List.any_append, Bool.or_eq_true]; exact .inl h1
    · refine .inr ⟨rfl, ?_⟩
      rw [take_more hp]; simp [depP, h]
  · rintro (h1 | ⟨rfl, h1⟩)
    · exact .inl (.inl h1)
    · rw [take_more hp] at h1
      simp only [depP, List.any_append, Bool.or_eq_true] at h1
      rcases h1 with h1 | h1
      · exact .inl (.inr ⟨rfl, h1⟩)
      · simp [h] at h1
        exact .inr ⟨h1.symm, rfl⟩
theorem dpR_skip {n : Nat} {x : Nat → Ev} {g : Nat → List Int} {k j : Nat} {p : Int} (hp : (g k)[j]? = some p) (h : readAt n x (x k).core p = none) : dpR n x g k j = dpR n x g k (j + 1) := Rlw.ext2 fun a b => by
  rw [dpR_iff, dpR_iff]
  constructor
  · rintro (h1 | ⟨rfl, h1⟩)
    · exact .inl h1
    · refine .inr ⟨rfl, ?_⟩
      rw [take_more hp]; simp only [depP, List.any_append, Bool.or_eq_true]; exact .inl h1
  · rintro (h1 | ⟨rfl, h1⟩)
    · exact .inl h1
    · rw [take_more hp] at h1
      simp only [depP, List.any_append, Bool.or_eq_true] at h1
      rcases h1 with h1 | h1
      · exact .inr ⟨rfl, h1⟩
      · simp [h] at h1
theorem dpR_row (n : Nat) (x : Nat → Ev) (g : Nat → List Int) (k : Nat) : dpR n x g k (g k).length = dpR n x g (k + 1) 0 := Rlw.ext2 fun a b => by
  rw [dpR_iff, dpR_iff]
  constructor
  · rintro (⟨h, h1⟩ | ⟨rfl, h1⟩)
    · exact .inl ⟨by omega, h1⟩
    · rw [List.take_length] at h1
      exact .inl ⟨by omega, h1⟩
  · rintro (⟨h, h1⟩ | ⟨rfl, h1⟩)
    · by_cases e : b = k
      · subst e
        exact .inr ⟨rfl, by rw [List.take_length]; exact h1⟩
      · exact .inl ⟨by omega, h1⟩
    · simp [depP] at h1
theorem dpR_all (n : Nat) (x : Nat → Ev) (f : Ev → List Int) : dpR n x (fun b => f (x b)) n 0 = depR n x f := Rlw.ext2 fun a b => by
  rw [dpR_iff]
  simp only [depR, depP, Bool.and_eq_true, decide_eq_true_eq]
  constructor
  · rintro (h | ⟨_, h⟩)
    · exact h
    · simp at h
  · exact fun h => .inl h
set_option maxHeartbeats 4000000 in
theorem depends_B {w : World} {v : Value} {n : Nat} {x : Nat → Ev} (E : Evs w v n x) (hn : n ≤ 64) (fid : FuncId) (eg : ∀ args w, (callFunc fid args).run Tryz.prog w = .ok (.enter fid args) w) (p1 : Value) (sv : Nat → Value) (g : Nat → List Int) (hr : ∀ b, b < n → RawI w (sv b) (g b)) (hf : ∀ b, b < n → ∀ W, Below w.heap.size w W → Calls Tryz.prog fid #[vI b, p1] W fun e W' => e = .returned (sv b) ∧ W' = W) : Calls Tryz.prog 112 #[v, .func (.func fid) #[] #[p1]] w fun e w' => ∃ r, e = .returned (ptr r 0) ∧ OwnR w r n (dpR n x g n 0) w' := by
  have k0 := none_c E hn
  obtain ⟨ao, cap, hv⟩ := E.len
  subst hv
  go_enter Tryz.func112, Tryz.ntmps112
  go_wp2_with (first | (go_at_call 134; with_reducible refine k0.mono ?_; clear k0; rintro e w0 ⟨r, rfl, O0⟩; dsimp only))
  replace O0 := O0.congr (dpR_zero n x g)
  go_loopw [6, 8, 9, 10, 15] (fun _ _ _ _ s15 wr => ∃ k : Nat, k ≤ n ∧ s15 = vI k ∧ Hid (OwnR w r n (dpR n x g k 0) wr)) (fun _ _ _ _ s15 _ => 64 - (intOf s15).toNat)
  case atStart => exact ⟨0, Nat.zero_le _, rfl, O0⟩
  case round =>
    clear O0
    obtain ⟨k, hk, rfl, hH⟩ := hrel
    have O := hH.out
    clear hH
    by_cases hlt : (k : Int) < n
    · have hk2 : k < n := by omega
      have hh := hf k hk2 _ O.low
      have hR := hr k hk2
      obtain ⟨so, scap, hs⟩ := hR.len
      have hsm := hR.max
      simp only [maxLen] at hsm
      rw [hs] at hh
      go_wp2_with (first | (with_reducible refine hh.mono ?_; clear hh; rintro e w1 ⟨rfl, rfl⟩; dsimp only))
      go_loopw [8, 9, 10, 22] (fun _ _ _ s22 wr => ∃ j : Nat, j ≤ (g k).length ∧ s22 = vI j ∧ Hid (OwnR w r n (dpR n x g k j) wr)) (fun _ _ _ s22 _ => (g k).length - (intOf s22).toNat)
      case atStart => exact ⟨0, Nat.zero_le _, rfl, O⟩
      case round =>
        clear O
        obtain ⟨j, hj, rfl, hH⟩ := hrel
        have O := hH.out
        clear hH
        by_cases hlj : (j : Int) < (g k).length
        · obtain ⟨pa, pcap, pe, hcell⟩ := hR.cell (by omega)
          rw [hs] at pe
          cases pe
          have hpj : (g k)[j]? = some (g k)[j] := List.getElem?_eq_getElem (by omega)
          obtain ⟨hb1, hc1⟩ := hcell j _ hpj
          generalize (g k)[j] = p at hpj hc1
          have cz : wr.cell? (pa.add j) = some (vI p) := by rw [O.low.cell hb1]; exact hc1
          clear hcell hc1
          obtain ⟨ra, cap2, ev, hc⟩ := E.cell (by omega)
          cases ev
          obtain ⟨s0, s1, s2, A⟩ := hc k hk2
          have c0 := (A.grow O.low).c0
          have hq := readAt_c (E.grow O.low) (x k).core p
          cases hz : readAt n x (x k).core p with
          | none =>
            have e1 := dpR_skip hpj hz
            rw [hz] at hq
            replace hq : Calls Tryz.prog 110 #[.slice (some ra) n cap, vI (x k).core, vI p] wr fun e w' => e = .returned (.tuple #[vI 0, .bool false]) ∧ w' = wr := hq
            go_wp2_with (first | (go_at_call 110; with_reducible refine hq.mono ?_; clear hq; rintro e w1 ⟨rfl, rfl⟩; dsimp only))
            go_roundw
            case rel => exact ⟨j + 1, by omega, by go_num, O.congr e1⟩
            case measure => simp [intOf]; omega
          | some c =>
            have e1 := dpR_add hpj hz
            have hcn := (readAt_some hz).1
            rw [hz] at hq
            replace hq : Calls Tryz.prog 110 #[.slice (some ra) n cap, vI (x k).core, vI p] wr fun e w' => e = .returned (.tuple #[vI c, .bool true]) ∧ w' = wr := hq
            have ka := add_own O hcn hk2
            go_wp2_with (first | (go_at_call 110; with_reducible refine hq.mono ?_; clear hq; rintro e w1 ⟨rfl, rfl⟩; dsimp only) | (go_at_call 135; with_reducible refine ka.mono ?_; clear ka; rintro e w3 ⟨rfl, O3⟩; dsimp only))
            go_roundw
            case rel => exact ⟨j + 1, by omega, by go_num, O3.congr e1⟩
            case measure => simp [intOf]; omega
        · obtain rfl : j = (g k).length := by omega
          replace O := O.congr (dpR_row _ _ _ _)
          go_wp2
          go_roundw
          case rel => exact ⟨k + 1, by omega, by go_num, O⟩
          case measure => simp [intOf]; omega
    · obtain rfl : k = n := by omega
      go_wp2
      go_ret
      exact ⟨r, rfl, O⟩
set_option maxHeartbeats 1000000 in
theorem addr_c {w : World} {v : Value} {n : Nat} {x : Nat → Ev} (E : Evs w v n x) (hn : n ≤ 64) : Calls Tryz.prog 78 #[v] w fun e w' => Got w n (addrR n x) e w' := by
  obtain ⟨ao, cap, rfl⟩ := E.len
  have b1 : Boxed (w.alloc (Obj.cells #[.slice ao n cap] 63)) w.heap.size 63 (.slice ao n cap) := Boxed.new w 63 _
  have hB0 := below_alloc w (Obj.cells #[.slice ao n cap] 63)
  have hsv : ∀ b, ∃ s, b < n → RawI (w.alloc (Obj.cells #[.slice ao n cap] 63)) s (x b).adr ∧ ∀ W, Below (w.alloc (Obj.cells #[.slice ao n cap] 63)).heap.size (w.alloc (Obj.cells #[.slice ao n cap] 63)) W → Calls Tryz.prog 113 #[vI b, ptr w.heap.size 0] W fun e W' => e = .returned s ∧ W' = W := fun b => by
    by_cases hb : b < n
    · obtain ⟨ra, cap2, ev, hc⟩ := E.cell (by omega)
      cases ev
      obtain ⟨s0, s1, s2, A⟩ := hc b hb
      refine ⟨s0, fun _ => ⟨(A.grow hB0).r0, fun W hW => ?_⟩⟩
      have c1 := (boxed_grow b1 hW).cell
      have c2 := ((A.grow hB0).grow hW).c10
      obtain ⟨so, sc, es⟩ := A.r0.len
      rw [es] at c2 ⊢
      have hbi : (b : Int) < n := by omega
      clear hc A E
      go_enter Tryz.func113, Tryz.ntmps113
      go_wp2
      go_ret
      exact ⟨rfl, rfl⟩
    · exact ⟨.bool true, fun h => absurd h hb⟩
  have hh := depends_B (E.grow hB0) hn 113 (enters_of Tryz.func113 (by kernel_rfl) rfl) (ptr w.heap.size 0) (fun b => (hsv b).choose) (fun b => (x b).adr) (fun b hb => ((hsv b).choose_spec hb).1) (fun b hb W hW => ((hsv b).choose_spec hb).2 W hW)
  rw [dpR_all n x Ev.adr] at hh
  clear hsv E b1
  go_enter Tryz.func78, Tryz.ntmps78
  go_wp2_with (first | (go_at_call 112; with_reducible refine hh.mono ?_; clear hh; rintro e w2 ⟨q2, rfl, H2⟩; dsimp only))
  go_ret
  exact ⟨q2, rfl, H2.rel, hB0.trans (H2.low.mono hB0.size)⟩
set_option maxHeartbeats 1000000 in
theorem data_c {w : World} {v : Value} {n : Nat} {x : Nat → Ev} (E : Evs w v n x) (hn : n ≤ 64) : Calls Tryz.prog 79 #[v] w fun e w' => Got w n (dataR n x) e w' := by
  obtain ⟨ao, cap, rfl⟩ := E.len
  have b1 : Boxed (w.alloc (Obj.cells #[.slice ao n cap] 63)) w.heap.size 63 (.slice ao n cap) := Boxed.new w 63 _
  have hB0 := below_alloc w (Obj.cells #[.slice ao n cap] 63)
  have hsv : ∀ b, ∃ s, b < n → RawI (w.alloc (Obj.cells #[.slice ao n cap] 63)) s (x b).dat ∧ ∀ W, Below (w.alloc (Obj.cells #[.slice ao n cap] 63)).heap.size (w.alloc (Obj.cells #[.slice ao n cap] 63)) W → Calls Tryz.prog 114 #[vI b, ptr w.heap.size 0] W fun e W' => e = .returned s ∧ W' = W := fun b => by
    by_cases hb : b < n
    · obtain ⟨ra, cap2, ev, hc⟩ := E.cell (by omega)
      cases ev
      obtain ⟨s0, s1, s2, A⟩ := hc b hb
      refine ⟨s1, fun _ => ⟨(A.grow hB0).r1, fun W hW => ?_⟩⟩
      have c1 := (boxed_grow b1 hW).cell
      have c2 := ((A.grow hB0).grow hW).c11
      obtain ⟨so, sc, es⟩ := A.r1.len
      rw [es] at c2 ⊢
      have hbi : (b : Int) < n := by omega
      clear hc A E
      go_enter Tryz.func114, Tryz.ntmps114
      go_wp2
      go_ret
      exact ⟨rfl, rfl⟩
    · exact ⟨.bool true, fun h => absurd h hb⟩
  have hh := depends_B (E.grow hB0) hn 114 (enters_of Tryz.func114 (by kernel_rfl) rfl) (ptr w.heap.size 0) (fun b => (hsv b).choose) (fun b => (x b).dat) (fun b hb => ((hsv b).choose_spec hb).1) (fun b hb W hW => ((hsv b).choose_spec hb).2 W hW)
  rw [dpR_all n x Ev.dat] at hh
  clear hsv E b1
  go_enter Tryz.func79, Tryz.ntmps79
  go_wp2_with (first | (go_at_call 112; with_reducible refine hh.mono ?_; clear hh; rintro e w2 ⟨q2, rfl, H2⟩; dsimp only))
  go_ret
  exact ⟨q2, rfl, H2.rel, hB0.trans (H2.low.mono hB0.size)⟩
set_option maxHeartbeats 1000000 in
theorem ctrl_c {w : World} {v : Value} {n : Nat} {x : Nat → Ev} (E : Evs w v n x) (hn : n ≤ 64) : Calls Tryz.prog 80 #[v] w fun e w' => Got w n (ctrlR n x) e w' := by
  obtain ⟨ao, cap, rfl⟩ := E.len
  have b1 : Boxed (w.alloc (Obj.cells #[.slice ao n cap] 63)) w.heap.size 63 (.slice ao n cap) := Boxed.new w 63 _
  have hB0 := below_alloc w (Obj.cells #[.slice ao n cap] 63)
  have hsv : ∀ b, ∃ s, b < n → RawI (w.alloc (Obj.cells #[.slice ao n cap] 63)) s (x b).ctl ∧ ∀ W, Below (w.alloc (Obj.cells #[.slice ao n cap] 63)).heap.size (w.alloc (Obj.cells #[.slice ao n cap] 63)) W → Calls Tryz.prog 115 #[vI b, ptr w.heap.size 0] W fun e W' => e = .returned s ∧ W' = W := fun b => by
    by_cases hb : b < n
    · obtain ⟨ra, cap2, ev, hc⟩ := E.cell (by omega)
      cases ev
      obtain ⟨s0, s1, s2, A⟩ := hc b hb
      refine ⟨s2, fun _ => ⟨(A.grow hB0).r2, fun W hW => ?_⟩⟩
      have c1 := (boxed_grow b1 hW).cell
      have c2 := ((A.grow hB0).grow hW).c12
      obtain ⟨so, sc, es⟩ := A.r2.len
      rw [es] at c2 ⊢
      have hbi : (b : Int) < n := by omega
      clear hc A E
      go_enter Tryz.func115, Tryz.ntmps115
      go_wp2
      go_ret
      exact ⟨rfl, rfl⟩
    · exact ⟨.bool true, fun h => absurd h hb⟩
  have hh := depends_B (E.grow hB0) hn 115 (enters_of Tryz.func115 (by kernel_rfl) rfl) (ptr w.heap.size 0) (fun b => (hsv b).choose) (fun b => (x b).ctl) (fun b hb => ((hsv b).choose_spec hb).1) (fun b hb W hW => ((hsv b).choose_spec hb).2 W hW)
  rw [dpR_all n x Ev.ctl] at hh
  clear hsv E b1
  go_enter Tryz.func80, Tryz.ntmps80
  go_wp2_with (first | (go_at_call 112; with_reducible refine hh.mono ?_; clear hh; rintro e w2 ⟨q2, rfl, H2⟩; dsimp only))
  go_ret
  exact ⟨q2, rfl, H2.rel, hB0.trans (H2.low.mono hB0.size)⟩
end Go.Proofs.YtnedkielehmneaaGreatDoor
