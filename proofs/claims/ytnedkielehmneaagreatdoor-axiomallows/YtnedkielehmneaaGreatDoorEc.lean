/- all, some, such, only. -/
import Derived.Test.YtnedkielehmneaaGreatDoorEb
namespace Go.Proofs.YtnedkielehmneaaGreatDoor
open Go.RowKit
open Go.Shelf
set_option linter.unusedVariables false
set_option linter.unusedSimpArgs false
set_option maxRecDepth 8000

open Axm
/-- A relation of the call's own. -/
structure OwnR (w : World) (r n : Nat) (R : Nat → Nat → Bool) (W : World) : Prop where
  rel : RelAt r n R W
  hr : w.heap.size ≤ r
  low : Below w.heap.size w W
theorem OwnR.grow {w W W' : World} {r n : Nat} {R : Nat → Nat → Bool} (h : OwnR w r n R W) (hb : Below W.heap.size W W') : OwnR w r n R W' := ⟨h.rel.grow hb, h.hr, h.low.trans (hb.mono h.low.size)⟩
theorem OwnR.turn {w W W' : World} {r n : Nat} {R S : Nat → Nat → Bool} (h : OwnR w r n R W) (k : RT r n S W W') : OwnR w r n S W' :=
  ⟨k.1, h.hr, h.low.trans (k.2.below h.low.size (fun k hk => by rw [hk]; exact h.hr))⟩
theorem OwnR.congr {w W : World} {r n : Nat} {R S : Nat → Nat → Bool} (h : OwnR w r n R W) (e : R = S) : OwnR w r n S W := e ▸ h
theorem add_own {w W : World} {r n : Nat} {R : Nat → Nat → Bool} (h : OwnR w r n R W) {a b : Nat} (ha : a < n) (hb : b < n) : Calls Tryz.prog 135 #[ptr r 0, vI a, vI b] W fun e W' => e = .returned (vI 0) ∧ OwnR w r n (Rlw.addR R a b) W' :=
  (radd_c h.rel a b).mono fun e W' k => by
    have h1 : (inB n a && inB n b) = true := by simp [inB]; omega
    rcases k with ⟨k, _⟩ | ⟨_, k2, k3⟩
    · rw [h1] at k; cases k
    · rw [Int.toNat_natCast, Int.toNat_natCast] at k3
      exact ⟨k2, h.turn k3⟩
theorem none_c {w : World} {v : Value} {n : Nat} {x : Nat → Ev} (E : Evs w v n x) (hn : n ≤ 64) : Calls Tryz.prog 134 #[v] w fun e w' => ∃ r, e = .returned (ptr r 0) ∧ OwnR w r n (fun _ _ => false) w' := by
  have k1 := new_ok hn w
  obtain ⟨ao, cap, rfl⟩ := E.len
  clear E
  go_enter Tryz.func134, Tryz.ntmps134
  go_wp2_with (first | (go_at_call 142; with_reducible refine k1.mono ?_; rintro e w1 ⟨r, rfl, HR, hr, hB⟩; dsimp only))
  go_ret
  exact ⟨r, rfl, HR, hr, hB⟩
/-- The pairs so far. -/
def upR (n : Nat) (P : Nat → Nat → Bool) (k j : Nat) : Nat → Nat → Bool := fun a b => decide (b < n) && P a b && (decide (a < k) || decide (a = k) && decide (b < j))
theorem upR_iff {n : Nat} {P : Nat → Nat → Bool} {k j a b : Nat} : upR n P k j a b = true ↔ b < n ∧ P a b = true ∧ (a < k ∨ a = k ∧ b < j) := by simp [upR, and_assoc]
theorem upR_zero (n : Nat) (P : Nat → Nat → Bool) : (fun _ _ => false) = upR n P 0 0 := Rlw.ext2 fun a b => by rw [upR_iff]; constructor; (intro h; cases h); (rintro ⟨_, _, h⟩; omega)
theorem upR_add {n : Nat} {P : Nat → Nat → Bool} {k j : Nat} (hj : j < n) (h : P k j = true) : Rlw.addR (upR n P k j) k j = upR n P k (j + 1) := Rlw.ext2 fun a b => by
  rw [upR_iff]
  simp only [Rlw.addR, Bool.or_eq_true, upR_iff, Bool.and_eq_true, decide_eq_true_eq]
  constructor
  · rintro (⟨h1, h2, h3⟩ | ⟨rfl, rfl⟩)
    · exact ⟨h1, h2, by omega⟩
    · exact ⟨hj, h, by omega⟩
  · rintro ⟨h1, h2, h3⟩
    by_cases e : a = k ∧ b = j
    · exact .inr e
    · exact .inl ⟨h1, h2, by omega⟩
theorem upR_skip {n : Nat} {P : Nat → Nat → Bool} {k j : Nat} (h : P k j = false) : upR n P k j = upR n P k (j + 1) := Rlw.ext2 fun a b => by
  rw [upR_iff, upR_iff]
  constructor
  · rintro ⟨h1, h2, h3⟩; exact ⟨h1, h2, by omega⟩
  · rintro ⟨h1, h2, h3⟩
    by_cases e : a = k ∧ b = j
    · rw [e.1, e.2, h] at h2; cases h2
    · exact ⟨h1, h2, by omega⟩
theorem upR_row (n : Nat) (P : Nat → Nat → Bool) (k : Nat) : upR n P k n = upR n P (k + 1) 0 := Rlw.ext2 fun a b => by
  rw [upR_iff, upR_iff]
  constructor
  · rintro ⟨h1, h2, h3⟩; exact ⟨h1, h2, by omega⟩
  · rintro ⟨h1, h2, h3⟩; exact ⟨h1, h2, by omega⟩
theorem upR_all (n : Nat) (P : Nat → Nat → Bool) : upR n P n 0 = suchR n P := Rlw.ext2 fun a b => by
  rw [upR_iff, suchR_iff]
  constructor
  · rintro ⟨h1, h2, h3⟩; exact ⟨by omega, h1, h2⟩
  · rintro ⟨h1, h2, h3⟩; exact ⟨h2, h3, by omega⟩
def onR (K : Nat → Bool) (k : Nat) : Nat → Nat → Bool := onlyR k K
theorem onR_add {K : Nat → Bool} {k : Nat} (h : K k = true) : Rlw.addR (onlyR k K) k k = onlyR (k + 1) K := Rlw.ext2 fun a b => by
  rw [onlyR_iff]
  simp only [Rlw.addR, Bool.or_eq_true, onlyR_iff, Bool.and_eq_true, decide_eq_true_eq]
  constructor
  · rintro (⟨h1, h2, h3⟩ | ⟨rfl, rfl⟩)
    · exact ⟨by omega, h2, h3⟩
    · exact ⟨by omega, rfl, h⟩
  · rintro ⟨h1, h2, h3⟩
    by_cases e : a = k
    · exact .inr ⟨e, by omega⟩
    · exact .inl ⟨by omega, h2, h3⟩
theorem onR_skip {K : Nat → Bool} {k : Nat} (h : K k = false) : onlyR k K = onlyR (k + 1) K := Rlw.ext2 fun a b => by
  rw [onlyR_iff, onlyR_iff]
  constructor
  · rintro ⟨h1, h2, h3⟩; exact ⟨by omega, h2, h3⟩
  · rintro ⟨h1, h2, h3⟩
    by_cases e : a = k
    · rw [e, h] at h3; cases h3
    · exact ⟨by omega, h2, h3⟩
theorem onR_zero (K : Nat → Bool) : (fun _ _ => false) = onlyR 0 K := Rlw.ext2 fun a b => by rw [onlyR_iff]; constructor; (intro h; cases h); (rintro ⟨h, _⟩; omega)
theorem allB_no {n : Nat} {f : Nat → Bool} {k : Nat} (hk : k < n) (h : f k = false) : allB n f = false := by
  rw [Bool.eq_false_iff, Ne, allB_iff]
  intro e
  have := e k hk
  rw [h] at this; cases this
set_option maxHeartbeats 1000000 in
theorem all_A {w : World} {v : Value} {n : Nat} {x : Nat → Ev} (E : Evs w v n x) (fid : FuncId) (eg : ∀ args w, (callFunc fid args).run Tryz.prog w = .ok (.enter fid args) w)  (f : Nat → Bool) (hf : ∀ a, a < n → ∀ W, Below w.heap.size w W → Calls Tryz.prog fid #[v, vI a] W fun e W' => e = .returned (.bool (f a)) ∧ Below W.heap.size W W') : Calls Tryz.prog 34 #[v, (.func (.func fid) #[v] #[])] w fun e w' => e = .returned (.bool (allB n f)) ∧ Below w.heap.size w w' := by
  obtain ⟨ao, cap, hv⟩ := E.len
  have hmax := E.max
  simp only [maxLen] at hmax
  clear E
  subst hv
  go_enter Tryz.func34, Tryz.ntmps34
  go_wp2
  go_loopw [8] (fun s8 wr => ∃ k : Nat, k ≤ n ∧ s8 = vI k ∧ Hid (Below w.heap.size w wr ∧ ∀ a, a < k → f a = true)) (fun s8 _ => n - (intOf s8).toNat)
  case atStart => exact ⟨0, Nat.zero_le _, rfl, Below.refl _ _, fun a h => by omega⟩
  case round =>
    obtain ⟨k, hk, rfl, hH⟩ := hrel
    obtain ⟨hB, hall⟩ := hH.out
    clear hH
    replace hall := show Hid _ from hall
    by_cases hlt : (k : Int) < n
    · have hk2 : k < n := by omega
      have hh := hf k hk2 wr hB
      cases hfk : f k with
      | true =>
        rw [hfk] at hh
        go_wp2_with (first | (with_reducible refine hh.mono ?_; clear hh; rintro e w2 ⟨rfl, hB2⟩; dsimp only))
        go_roundw
        case rel => exact ⟨k + 1, by omega, by go_num, hB.trans (hB2.mono hB.size), fun a ha => by
          by_cases e : a = k
          · rw [e]; exact hfk
          · exact hall.out a (by omega)⟩
        case measure => simp [intOf]; omega
      | false =>
        rw [hfk] at hh
        have e1 := allB_no hk2 hfk
        go_wp2_with (first | (with_reducible refine hh.mono ?_; clear hh; rintro e w2 ⟨rfl, hB2⟩; dsimp only))
        go_ret
        exact ⟨by rw [e1]; rfl, hB.trans (hB2.mono hB.size)⟩
    · have e1 : allB n f = true := allB_iff.2 fun a ha => hall.out a (by omega)
      go_wp2
      go_ret
      exact ⟨by first | rfl | (rw [e1]; rfl), hB⟩
set_option maxHeartbeats 1000000 in
theorem all_B {w : World} {v : Value} {n : Nat} {x : Nat → Ev} (E : Evs w v n x) (fid : FuncId) (eg : ∀ args w, (callFunc fid args).run Tryz.prog w = .ok (.enter fid args) w) (p1 : Value) (f : Nat → Bool) (hf : ∀ a, a < n → ∀ W, Below w.heap.size w W → Calls Tryz.prog fid #[vI a, p1] W fun e W' => e = .returned (.bool (f a)) ∧ Below W.heap.size W W') : Calls Tryz.prog 34 #[v, (.func (.func fid) #[] #[p1])] w fun e w' => e = .returned (.bool (allB n f)) ∧ Below w.heap.size w w' := by
  obtain ⟨ao, cap, hv⟩ := E.len
  have hmax := E.max
  simp only [maxLen] at hmax
  clear E
  subst hv
  go_enter Tryz.func34, Tryz.ntmps34
  go_wp2
  go_loopw [8] (fun s8 wr => ∃ k : Nat, k ≤ n ∧ s8 = vI k ∧ Hid (Below w.heap.size w wr ∧ ∀ a, a < k → f a = true)) (fun s8 _ => n - (intOf s8).toNat)
  case atStart => exact ⟨0, Nat.zero_le _, rfl, Below.refl _ _, fun a h => by omega⟩
  case round =>
    obtain ⟨k, hk, rfl, hH⟩ := hrel
    obtain ⟨hB, hall⟩ := hH.out
    clear hH
    replace hall := show Hid _ from hall
    by_cases hlt : (k : Int) < n
    · have hk2 : k < n := by omega
      have hh := hf k hk2 wr hB
      cases hfk : f k with
      | true =>
        rw [hfk] at hh
        go_wp2_with (first | (with_reducible refine hh.mono ?_; clear hh; rintro e w2 ⟨rfl, hB2⟩; dsimp only))
        go_roundw
        case rel => exact ⟨k + 1, by omega, by go_num, hB.trans (hB2.mono hB.size), fun a ha => by
          by_cases e : a = k
          · rw [e]; exact hfk
          · exact hall.out a (by omega)⟩
        case measure => simp [intOf]; omega
      | false =>
        rw [hfk] at hh
        have e1 := allB_no hk2 hfk
        go_wp2_with (first | (with_reducible refine hh.mono ?_; clear hh; rintro e w2 ⟨rfl, hB2⟩; dsimp only))
        go_ret
        exact ⟨by rw [e1]; rfl, hB.trans (hB2.mono hB.size)⟩
    · have e1 : allB n f = true := allB_iff.2 fun a ha => hall.out a (by omega)
      go_wp2
      go_ret
      exact ⟨by first | rfl | (rw [e1]; rfl), hB⟩
set_option maxHeartbeats 1000000 in
theorem some_C {w : World} {v : Value} {n : Nat} {x : Nat → Ev} (E : Evs w v n x) (fid : FuncId) (eg : ∀ args w, (callFunc fid args).run Tryz.prog w = .ok (.enter fid args) w) (p1 p2 : Value) (f : Nat → Bool) (hf : ∀ a, a < n → ∀ W, Below w.heap.size w W → Calls Tryz.prog fid #[vI a, p1, p2] W fun e W' => e = .returned (.bool (f a)) ∧ Below W.heap.size W W') : Calls Tryz.prog 63 #[v, (.func (.func fid) #[] #[p1, p2])] w fun e w' => e = .returned (.bool (someB n f)) ∧ Below w.heap.size w w' := by
  have b1 : Boxed (w.alloc (Obj.cells #[.func (.func fid) #[] #[p1, p2]] 58)) w.heap.size 58 (.func (.func fid) #[] #[p1, p2]) := Boxed.new w 58 _
  have hB0 := below_alloc w (Obj.cells #[.func (.func fid) #[] #[p1, p2]] 58)
  have hall := all_B (E.grow hB0) 106 (enters_of Tryz.func106 (by kernel_rfl) rfl) (ptr w.heap.size 0) (fun a => !f a) (fun a ha W hW => by
    have c1 := (boxed_grow b1 hW).cell
    have hh := hf a ha W (hB0.trans (hW.mono hB0.size))
    go_enter Tryz.func106, Tryz.ntmps106
    go_wp2_with (first | (with_reducible refine hh.mono ?_; clear hh; rintro e w2 ⟨rfl, hB2⟩; dsimp only))
    go_ret
    exact ⟨rfl, hB2⟩)
  generalize hW : w.alloc (Obj.cells #[.func (.func fid) #[] #[p1, p2]] 58) = W at *
  clear E
  go_enter Tryz.func63, Tryz.ntmps63
  go_upto_region 1 with fail
  try rw [hW]
  go_wp2_with (first | (go_at_call 34; with_reducible refine hall.mono ?_; clear hall; rintro e w2 ⟨rfl, hB2⟩; dsimp only))
  go_ret
  exact ⟨rfl, hB0.trans (hB2.mono hB0.size)⟩
set_option maxHeartbeats 2000000 in
theorem such_A {w : World} {v : Value} {n : Nat} {x : Nat → Ev} (E : Evs w v n x) (hn : n ≤ 64) (fid : FuncId) (eg : ∀ args w, (callFunc fid args).run Tryz.prog w = .ok (.enter fid args) w)  (f : Nat → Nat → Bool) (hf : ∀ a b, a < n → b < n → ∀ W, Below w.heap.size w W → Calls Tryz.prog fid #[v, vI a, vI b] W fun e W' => e = .returned (.bool (f a b)) ∧ Below W.heap.size W W') : Calls Tryz.prog 92 #[v, (.func (.func fid) #[v] #[])] w fun e w' => ∃ r, e = .returned (ptr r 0) ∧ OwnR w r n (suchR n f) w' := by
  have k0 := none_c E hn
  obtain ⟨ao, cap, hv⟩ := E.len
  clear E
  subst hv
  go_enter Tryz.func92, Tryz.ntmps92
  go_wp2_with (first | (go_at_call 134; with_reducible refine k0.mono ?_; clear k0; rintro e w0 ⟨r, rfl, O0⟩; dsimp only))
  replace O0 := O0.congr (upR_zero n f)
  go_loopw [6, 7, 12] (fun _ _ s12 wr => ∃ k : Nat, k ≤ n ∧ s12 = vI k ∧ Hid (OwnR w r n (upR n f k 0) wr)) (fun _ _ s12 _ => 64 - (intOf s12).toNat)
  case atStart => exact ⟨0, Nat.zero_le _, rfl, O0⟩
  case round =>
    clear O0
    obtain ⟨k, hk, rfl, hH⟩ := hrel
    have O := hH.out
    clear hH
    by_cases hlt : (k : Int) < n
    · go_wp2
      go_loopw [7, 17] (fun _ s17 wr => ∃ j : Nat, j ≤ n ∧ s17 = vI j ∧ Hid (OwnR w r n (upR n f k j) wr)) (fun _ s17 _ => 64 - (intOf s17).toNat)
      case atStart => exact ⟨0, Nat.zero_le _, rfl, O⟩
      case round =>
        clear O
        obtain ⟨j, hj, rfl, hH⟩ := hrel
        have O := hH.out
        clear hH
        by_cases hlj : (j : Int) < n
        · have hh := hf k j (by omega) (by omega) _ O.low
          cases hfk : f k j with
          | false =>
            rw [hfk] at hh
            have e1 := upR_skip (n := n) hfk
            go_wp2_with (first | (with_reducible refine hh.mono ?_; clear hh; rintro e w2 ⟨rfl, hB2⟩; dsimp only))
            go_roundw
            case rel => exact ⟨j + 1, by omega, by go_num, (O.grow hB2).congr e1⟩
            case measure => simp [intOf]; omega
          | true =>
            rw [hfk] at hh
            have e1 := upR_add (n := n) (show j < n by omega) hfk
            go_wp2_with (first | (with_reducible refine hh.mono ?_; clear hh; rintro e w2 ⟨rfl, hB2⟩; have ka := add_own (O.grow hB2) (show k < n by omega) (show j < n by omega); dsimp only) | (go_at_call 135; with_reducible refine ka.mono ?_; clear ka; rintro e w3 ⟨rfl, O3⟩; dsimp only))
            go_roundw
            case rel => exact ⟨j + 1, by omega, by go_num, O3.congr e1⟩
            case measure => simp [intOf]; omega
        · obtain rfl : j = n := by omega
          replace O := O.congr (upR_row _ _ _)
          go_wp2
          go_roundw
          case rel => exact ⟨k + 1, by omega, by go_num, O⟩
          case measure => simp [intOf]; omega
    · obtain rfl : k = n := by omega
      replace O := O.congr (upR_all _ _)
      go_wp2
      go_ret
      exact ⟨r, rfl, O⟩
set_option maxHeartbeats 2000000 in
theorem such_B {w : World} {v : Value} {n : Nat} {x : Nat → Ev} (E : Evs w v n x) (hn : n ≤ 64) (fid : FuncId) (eg : ∀ args w, (callFunc fid args).run Tryz.prog w = .ok (.enter fid args) w) (p1 : Value) (f : Nat → Nat → Bool) (hf : ∀ a b, a < n → b < n → ∀ W, Below w.heap.size w W → Calls Tryz.prog fid #[vI a, vI b, p1] W fun e W' => e = .returned (.bool (f a b)) ∧ Below W.heap.size W W') : Calls Tryz.prog 92 #[v, (.func (.func fid) #[] #[p1])] w fun e w' => ∃ r, e = .returned (ptr r 0) ∧ OwnR w r n (suchR n f) w' := by
  have k0 := none_c E hn
  obtain ⟨ao, cap, hv⟩ := E.len
  clear E
  subst hv
  go_enter Tryz.func92, Tryz.ntmps92
  go_wp2_with (first | (go_at_call 134; with_reducible refine k0.mono ?_; clear k0; rintro e w0 ⟨r, rfl, O0⟩; dsimp only))
  replace O0 := O0.congr (upR_zero n f)
  go_loopw [6, 7, 12] (fun _ _ s12 wr => ∃ k : Nat, k ≤ n ∧ s12 = vI k ∧ Hid (OwnR w r n (upR n f k 0) wr)) (fun _ _ s12 _ => 64 - (intOf s12).toNat)
  case atStart => exact ⟨0, Nat.zero_le _, rfl, O0⟩
  case round =>
    clear O0
    obtain ⟨k, hk, rfl, hH⟩ := hrel
    have O := hH.out
    clear hH
    by_cases hlt : (k : Int) < n
    · go_wp2
      go_loopw [7, 17] (fun _ s17 wr => ∃ j : Nat, j ≤ n ∧ s17 = vI j ∧ Hid (OwnR w r n (upR n f k j) wr)) (fun _ s17 _ => 64 - (intOf s17).toNat)
      case atStart => exact ⟨0, Nat.zero_le _, rfl, O⟩
      case round =>
        clear O
        obtain ⟨j, hj, rfl, hH⟩ := hrel
        have O := hH.out
        clear hH
        by_cases hlj : (j : Int) < n
        · have hh := hf k j (by omega) (by omega) _ O.low
          cases hfk : f k j with
          | false =>
            rw [hfk] at hh
            have e1 := upR_skip (n := n) hfk
            go_wp2_with (first | (with_reducible refine hh.mono ?_; clear hh; rintro e w2 ⟨rfl, hB2⟩; dsimp only))
            go_roundw
            case rel => exact ⟨j + 1, by omega, by go_num, (O.grow hB2).congr e1⟩
            case measure => simp [intOf]; omega
          | true =>
            rw [hfk] at hh
            have e1 := upR_add (n := n) (show j < n by omega) hfk
            go_wp2_with (first | (with_reducible refine hh.mono ?_; clear hh; rintro e w2 ⟨rfl, hB2⟩; have ka := add_own (O.grow hB2) (show k < n by omega) (show j < n by omega); dsimp only) | (go_at_call 135; with_reducible refine ka.mono ?_; clear ka; rintro e w3 ⟨rfl, O3⟩; dsimp only))
            go_roundw
            case rel => exact ⟨j + 1, by omega, by go_num, O3.congr e1⟩
            case measure => simp [intOf]; omega
        · obtain rfl : j = n := by omega
          replace O := O.congr (upR_row _ _ _)
          go_wp2
          go_roundw
          case rel => exact ⟨k + 1, by omega, by go_num, O⟩
          case measure => simp [intOf]; omega
    · obtain rfl : k = n := by omega
      replace O := O.congr (upR_all _ _)
      go_wp2
      go_ret
      exact ⟨r, rfl, O⟩
set_option maxHeartbeats 2000000 in
theorem only_A {w : World} {v : Value} {n : Nat} {x : Nat → Ev} (E : Evs w v n x) (hn : n ≤ 64) (fid : FuncId) (eg : ∀ args w, (callFunc fid args).run Tryz.prog w = .ok (.enter fid args) w)  (f : Nat → Bool) (hf : ∀ a, a < n → ∀ W, Below w.heap.size w W → Calls Tryz.prog fid #[v, vI a] W fun e W' => e = .returned (.bool (f a)) ∧ Below W.heap.size W W') : Calls Tryz.prog 98 #[v, (.func (.func fid) #[v] #[])] w fun e w' => ∃ r, e = .returned (ptr r 0) ∧ OwnR w r n (onlyR n f) w' := by
  have k0 := none_c E hn
  obtain ⟨ao, cap, hv⟩ := E.len
  clear E
  subst hv
  go_enter Tryz.func98, Tryz.ntmps98
  go_wp2_with (first | (go_at_call 134; with_reducible refine k0.mono ?_; clear k0; rintro e w0 ⟨r, rfl, O0⟩; dsimp only))
  replace O0 := O0.congr (onR_zero f)
  go_loopw [6, 11] (fun _ s11 wr => ∃ k : Nat, k ≤ n ∧ s11 = vI k ∧ Hid (OwnR w r n (onlyR k f) wr)) (fun _ s11 _ => 64 - (intOf s11).toNat)
  case atStart => exact ⟨0, Nat.zero_le _, rfl, O0⟩
  case round =>
    clear O0
    obtain ⟨k, hk, rfl, hH⟩ := hrel
    have O := hH.out
    clear hH
    by_cases hlt : (k : Int) < n
    · have hh := hf k (by omega) _ O.low
      cases hfk : f k with
      | false =>
        rw [hfk] at hh
        have e1 := onR_skip hfk
        go_wp2_with (first | (with_reducible refine hh.mono ?_; clear hh; rintro e w2 ⟨rfl, hB2⟩; dsimp only))
        go_roundw
        case rel => exact ⟨k + 1, by omega, by go_num, (O.grow hB2).congr e1⟩
        case measure => simp [intOf]; omega
      | true =>
        rw [hfk] at hh
        have e1 := onR_add hfk
        go_wp2_with (first | (with_reducible refine hh.mono ?_; clear hh; rintro e w2 ⟨rfl, hB2⟩; have ka := add_own (O.grow hB2) (show k < n by omega) (show k < n by omega); dsimp only) | (go_at_call 135; with_reducible refine ka.mono ?_; clear ka; rintro e w3 ⟨rfl, O3⟩; dsimp only))
        go_roundw
        case rel => exact ⟨k + 1, by omega, by go_num, O3.congr e1⟩
        case measure => simp [intOf]; omega
    · obtain rfl : k = n := by omega
      go_wp2
      go_ret
      exact ⟨r, rfl, O⟩
end Go.Proofs.YtnedkielehmneaaGreatDoor
