/- An interrupt that is sent is latched at just the cores that are named: the walk. -/
import Derived.Test.YtpmlehfnlodmbaaLa
namespace Go.Proofs.Ytpmlehfnlodmbaa
open Go.RowKit
set_option linter.unusedVariables false
set_option linter.unusedSimpArgs false
set_option maxRecDepth 8000

def pndV (n : Nat) (P : Pg) (c i : Nat) : Bool := (lookV n P c i).l || (lookV n P c i).h
def pndQ (n : Nat) (P : Pg) (q : Nat) : Bool := pndV n P (q / 64) (q % 64)
theorem sendF_src (P : Pg) (t : Int) (id : Nat) (r k : Nat) : ∀ c, (gsendF P t id c).src r k = if r < c ∧ k = id ∧ t / 2 ^ r % 2 = 1 then { P.src r k with l := true } else P.src r k
  | 0 => by rw [if_neg (fun h => by omega)]; rfl
  | c + 1 => by
    have ih := sendF_src P t id r k c
    unfold gsendF
    by_cases hb : t / 2 ^ c % 2 = 1
    · rw [if_pos hb]
      show (if r = c ∧ k = id then { (gsendF P t id c).src c id with l := true } else (gsendF P t id c).src r k) = _
      by_cases e : r = c ∧ k = id
      · obtain ⟨rfl, rfl⟩ := e
        rw [if_pos ⟨rfl, rfl⟩, ih, if_neg (fun h => by omega), if_pos ⟨by omega, rfl, hb⟩]
      · rw [if_neg e, ih]
        by_cases e2 : r < c ∧ k = id ∧ t / 2 ^ r % 2 = 1
        · rw [if_pos e2, if_pos ⟨by omega, e2.2⟩]
        · rw [if_neg e2, if_neg (fun h => e2 ⟨by
            rcases Nat.lt_or_ge r c with h5 | h5
            · exact h5
            · exact absurd ⟨by omega, h.2.1⟩ e, h.2⟩)]
    · rw [if_neg hb, ih]
      by_cases e2 : r < c ∧ k = id ∧ t / 2 ^ r % 2 = 1
      · rw [if_pos e2, if_pos ⟨by omega, e2.2⟩]
      · rw [if_neg e2, if_neg (fun h => e2 ⟨by
          rcases Nat.lt_or_ge r c with h5 | h5
          · exact h5
          · obtain rfl : r = c := by omega
            exact absurd h.2.2 hb, h.2⟩)]
theorem send_pend {P : Pg} {t id : Int} {c i : Nat} (hc : c < 3) (hi : i < 64) : pndV 3 (gsendP 3 P t id) c i = (pndV 3 P c i || (!gsendE 3 t id && (decide ((i : Int) = id) && decide (t / 2 ^ c % 2 = 1)))) := by
  cases hE : gsendE 3 t id with
  | true =>
    rw [gsendP, hE, if_pos rfl]; simp
  | false =>
    have h16 : 0 ≤ id ∧ id < 16 := by
      simp only [gsendE, Bool.or_eq_false_iff, decide_eq_false_iff_not] at hE
      omega
    rw [gsendP, hE, if_neg (by decide)]
    unfold pndV
    rw [look_nat hc (by omega) (by omega), look_nat hc (by omega) (by omega), sendF_src]
    unfold pr pk
    by_cases h32 : 32 ≤ (i : Int)
    · rw [if_pos h32, if_pos h32, if_neg (fun h => by omega), decide_eq_false (show ¬ (i : Int) = id by omega)]
      simp
    · rw [if_neg h32, if_neg h32, Int.toNat_natCast, Int.toNat_natCast]
      by_cases e : (i : Int) = id
      · by_cases e2 : t / 2 ^ c % 2 = 1
        · rw [if_pos ⟨hc, by omega, e2⟩, decide_eq_true e, decide_eq_true e2]; simp
        · rw [if_neg (fun h => e2 h.2.2), decide_eq_false e2]; simp
      · rw [if_neg (fun h => e (by omega)), decide_eq_false e]; simp
/-- The table of what was pending. -/
structure Tab (n : Nat) (P : Pg) (d q : Nat) (w w' : World) : Prop where
  go : Goes (fun k => k = d) w w'
  ar : ∃ C, w'.heap[d]? = some (.cells C 52 (0, 0)) ∧ C.size = 192 ∧ ∀ j, j < q → C[j]? = some (.bool (pndQ n P j))
theorem Tab.grow {n : Nat} {P : Pg} {d q : Nat} {w w' w'' : World} (H : Tab n P d q w w') (hb : Below w'.heap.size w' w'') : Tab n P d q w w'' := by
  obtain ⟨C, h1, h2, h3⟩ := H.ar
  exact ⟨H.go.grow hb, C, by rw [hb.block _ (lt_of_some h1)]; exact h1, h2, h3⟩
theorem Tab.put {n : Nat} {P : Pg} {d q : Nat} {w w' : World} (H : Tab n P d q w w') (hq : q < 192) {b : Bool} (hb : b = pndQ n P q) : Tab n P d (q + 1) w (w'.setCell ⟨d, q, none⟩ (.bool b)) := by
  obtain ⟨C, h1, h2, h3⟩ := H.ar
  refine ⟨H.go.trans (goes_setCell w' (F := fun k => k = d) rfl q _) fun _ _ e => e, _, heap_setCell_same w' d q C 52 _ h1, by simp [h2], fun j hj => ?_⟩
  by_cases e : j = q
  · subst e; rw [Array.getElem?_setIfInBounds_self_of_lt (by omega), hb]
  · rw [Array.getElem?_setIfInBounds_ne (by omega)]; exact h3 j (by omega)
def TbC (n : Nat) (P : Pg) (d q : Nat) (w : World) : Nat → World → Prop
  | 0, w' => Tab n P d q w w'
  | 1, w' => Tab n P d q w w'
  | 2, w' => Tab n P d (q + 1) w w'
  | _, _ => False
theorem inf4 : (Try.prog.info? 4).map (·.size) = some 1 := by kernel_rfl
set_option maxHeartbeats 4000000 in
theorem sends_walk (v : Value) (ss : List St5) (t id : Int) (W : World) (R : Scr W v ss) (ht : I64 t) (hid : I64 id) : Calls Try.prog 6 #[v, vI t, vI id] W fun e w' => e = .returned (.bool true) ∧ Below W.heap.size W w' := by
  go_enter Try.func6, Try.ntmps6
  go_upto_region 2 with (first | (go_at_call 9; refine (known_c W).mono ?_; rintro e w1 ⟨rfl, hB1⟩; dsimp only))
  have hmade := made_c R hB1
  go_upto_region 5 with (first | (go_at_call 14; refine hmade.mono ?_; rintro e w2 ⟨g, rfl, L, K⟩; dsimp only))
  clear hmade
  generalize plP 3 newP ss (min ss.length 100) = P at K
  have B2 : Below W.heap.size W w2 := below_then hB1 (Nat.le_refl _) K.below
  have H := K.at_
  have hfoot : ∀ k, GFoot g 3 L k → W.heap.size ≤ k := fun k hk => Nat.le_trans hB1.size (K.foot k hk)
  have hd : ¬ GFoot g 3 L w2.heap.size := fun h => by have := H.lt h; omega
  clear K hB1 R
  go_upto_region 6 with fail
  generalize hw3 : World.alloc _ _ = w3
  have B3 : Below w2.heap.size w2 w3 := by rw [← hw3]; exact below_alloc _ _
  have hD : ∃ C, w3.heap[w2.heap.size]? = some (.cells C 52 (0, 0)) ∧ C.size = 192 := by rw [← hw3]; exact ⟨_, heap_alloc_new _ _, by kernel_rfl⟩
  clear hw3
  have H3 := H.grow B3
  have T3 : Tab 3 P w2.heap.size 0 w3 w3 := by
    obtain ⟨C, h1, h2⟩ := hD
    exact ⟨Goes.refl _ _, C, h1, h2, fun j hj => by omega⟩
  have B3' : Below W.heap.size W w3 := below_then B2 (Nat.le_refl _) B3
  have hdW : W.heap.size ≤ w2.heap.size := B2.size
  clear hD B2 H B3
  generalize w2.heap.size = d at T3 hd hdW ⊢
  have hkeep : ∀ q w', Tab 3 P d q w3 w' → GicAt g 3 P L w' := fun q w' T => H3.keep fun k hk => T.go.block k (H3.lt hk) fun e => hd (e ▸ hk)
  have hbel : ∀ q w', Tab 3 P d q w3 w' → Below W.heap.size W w' := fun q w' T => B3'.trans (T.go.below B3'.size fun k hk => by rw [hk]; exact hdW)
  go_wp2
  go_loopw [10, 11] (fun s10 _ wr => ∃ c : Nat, c ≤ 3 ∧ s10 = .int .i64 c ∧ Hid (Tab 3 P d (c * 64) w3 wr)) (fun s10 _ _ => 3 - (intOf s10).toNat)
  case atStart => exact ⟨0, Nat.zero_le _, rfl, T3⟩
  case round =>
    clear T3
    obtain ⟨c, hc, rfl, hT⟩ := hrel
    by_cases hc3 : (c : Int) < 3
    · have hcn : c < 3 := by omega
      go_wp2
      go_loopw [11] (fun s11 wr => ∃ i : Nat, i ≤ 64 ∧ s11 = .int .i64 i ∧ Hid (Tab 3 P d (c * 64 + i) w3 wr)) (fun s11 _ => 64 - (intOf s11).toNat)
      case atStart => exact ⟨0, Nat.zero_le _, rfl, hT⟩
      case round =>
        clear hT
        obtain ⟨i, hi, rfl, hT⟩ := hrel
        by_cases hi64 : (i : Int) < 64
        · have hT1 := hT.out
          have hq : c * 64 + i < 192 := by omega
          have hpv : pndV 3 P c i = pndQ 3 P (c * 64 + i) := by rw [pndQ, show (c * 64 + i) / 64 = c by omega, show (c * 64 + i) % 64 = i by omega]
          go_upto_region 12 with fail
          have hst : TbC 3 P d (c * 64 + i) w3 0 { wr with drawn := wr.drawn + 1 } := hT1.grow (Rel.below_draws (n := 1) (Below.refl _ _))
          refine Chn.wp_region_chainL (TbC 3 P d (c * 64 + i) w3) [5, 8] [2, 2, 2, 2, 2, 2, 2, 2, 2] [vI c, vI i, ptr g 0, vI c, vI i, .bool (pndV 3 P c i), ptr d (c * 64), ptr d (c * 64 + i), undef] (by kernel_rfl) (by kernel_rfl) (by kernel_rfl) (by kernel_rfl) (by kernel_rfl) hst ?_
          clear hst
          iterate 5 (refine ⟨fun j w1 hj hC => by exact Chn.upon_pure hC (fun F hF => by (go_simp <;> exact hF)), ?_⟩; simp only [Act.put, List.setIfInBounds_toArray, List.set_cons_succ, List.set_cons_zero])
          refine ⟨fun w5 hC => by
            exact Chn.upon_call (C := TbC 3 P d (c * 64 + i) w3 1) (pending_c (hkeep _ _ hC) c i) (fun e2 w6 hh => ⟨hh.1, Tab.grow hC hh.2⟩) (fun F hF => by (go_simp <;> exact hF)), ?_⟩
          simp only [Act.put, List.setIfInBounds_toArray, List.set_cons_succ, List.set_cons_zero]
          iterate 2 (refine ⟨fun j w1 hj hC => by exact Chn.upon_pure hC (fun F hF => by (go_simp <;> exact hF)), ?_⟩; simp only [Act.put, List.setIfInBounds_toArray, List.set_cons_succ, List.set_cons_zero])
          refine ⟨fun w5 hC => by
            have hC1 : Tab 3 P d (c * 64 + i) w3 w5 := hC
            obtain ⟨C, h1, h2, h3⟩ := hC1.ar
            exact chn_store 4 _ _ rfl d (c * 64 + i) rfl _ rfl (run_cell w5 4 d (c * 64 + i) _ _ inf4 rfl rfl (by rw [cell_of_row _ _ _ _ _ _ h1]; exact Array.getElem?_eq_getElem (by omega)) (frozen_of_row _ _ _ _ _ h1)) (hC1.put hq hpv), ?_⟩
          simp only [Act.put]
          intro w7 hC
          have hC7 : Tab 3 P d (c * 64 + i + 1) w3 w7 := hC
          clear hC hT1
          go_wp2
          go_roundw
          case rel => exact ⟨i + 1, by omega, by go_num, hC7⟩
          case measure => simp [intOf]; omega
        · obtain rfl : i = 64 := by omega
          go_wp2
          go_roundw
          case rel => exact ⟨c + 1, by omega, by go_num, by rw [show (c + 1) * 64 = c * 64 + 64 by omega]; exact hT.out⟩
          case measure => simp [intOf]; omega
    · obtain rfl : c = 3 := by omega
      have hT1 := hT.out
      have hsend := gsend_c (hkeep _ _ hT1) t id
      by_cases h1 : 0 ≤ id
      · by_cases h2 : id < 16
        · by_cases h3 : 0 ≤ t
          · by_cases h4 : t < 8
            · have hE : gsendE 3 t id = false := by simp only [gsendE, Bool.or_eq_false_iff, decide_eq_false_iff_not]; omega
              have hs2 := hsend
              rw [hE] at hs2
              replace hs2 : Calls Try.prog 29 #[ptr g 0, vI t, vI id] wr fun e w' => e = .returned (vI 0) ∧ GT g 3 L (gsendP 3 P t id) wr w' := hs2
              go_upto_region 14 with (first | (go_at_call 29; refine hs2.mono ?_; rintro e w5 ⟨rfl, hG⟩; dsimp only))
              have H5 := hG.1
              obtain ⟨C, hC0, hCs, hC3⟩ := hT1.ar
              have hC : w5.heap[d]? = some (.cells C 52 (0, 0)) := by rw [hG.2.block d (lt_of_some hC0) hd]; exact hC0
              have B5 : Below W.heap.size W w5 := (hbel _ _ hT1).trans (hG.2.below (hbel _ _ hT1).size hfoot)
              clear hG hs2 hsend
              go_upto_region 17 with fail
              go_wp2
              go_loopw [14, 15, 16] (fun s14 _ _ wr => ∃ c : Nat, c ≤ 3 ∧ s14 = .int .i64 c ∧ Hid (Below w5.heap.size w5 wr)) (fun s14 _ _ _ => 3 - (intOf s14).toNat)
              case atStart => exact ⟨0, Nat.zero_le _, rfl, Below.refl _ _⟩
              case round =>
                obtain ⟨c, hc, rfl, hT⟩ := hrel
                by_cases hc3 : (c : Int) < 3
                · have hcn : c < 3 := by omega
                  go_wp2
                  go_loopw [15, 16] (fun s15 _ wr => ∃ i : Nat, i ≤ 64 ∧ s15 = .int .i64 i ∧ Hid (Below w5.heap.size w5 wr)) (fun s15 _ _ => 64 - (intOf s15).toNat)
                  case atStart => exact ⟨0, Nat.zero_le _, rfl, hT⟩
                  case round =>
                    clear hT
                    obtain ⟨i, hi, rfl, hT⟩ := hrel
                    by_cases hi64 : (i : Int) < 64
                    · have z : wr.cell? ⟨d, c * 64 + i, none⟩ = some (.bool (pndV 3 P c i)) := by
                        rw [cell_of_row _ _ _ _ _ _ ((hT.out.block _ (lt_of_some hC)).trans hC), hC3 _ (by omega), pndQ, show (c * 64 + i) / 64 = c by omega, show (c * 64 + i) % 64 = i by omega]
                      have hpe : Calls Try.prog 20 #[ptr g 0, vI c, vI i] wr fun e w' => e = .returned (.bool (pndV 3 (gsendP 3 P t id) c i)) ∧ Below wr.heap.size wr w' := pending_c (H5.grow hT.out) c i
                      have hsp := send_pend (P := P) (t := t) (id := id) hcn (show i < 64 by omega)
                      rw [hE] at hsp
                      cases hv : pndV 3 P c i with
                      | true =>
                        rw [hv] at z hsp
                        rw [hsp] at hpe
                        replace hpe : Calls Try.prog 20 #[ptr g 0, vI c, vI i] wr fun e w' => e = .returned (.bool true) ∧ Below wr.heap.size wr w' := hpe
                        clear hsp hv
                        go_wp2_with (first | (go_at_call 20; refine hpe.mono ?_; rintro e w7 ⟨rfl, hb⟩; dsimp only))
                        go_roundw
                        case rel => exact ⟨i + 1, by omega, by go_num, below_then hT.out (Nat.le_refl _) hb⟩
                        case measure => simp [intOf]; omega
                      | false =>
                        rw [hv] at z hsp
                        clear hv
                        by_cases e1 : (i : Int) = id
                        · have n1 : ((i : Int) == id) = true := by simpa using e1
                          by_cases e2 : t / 2 ^ c % 2 = 1
                          · have hbt : (bits BinOp.and IntKind.i64 (t / 2 ^ c) 1 == 1) = true := by rw [gand_one, e2]; rfl
                            rw [decide_eq_true e1, decide_eq_true e2] at hsp
                            rw [hsp] at hpe
                            replace hpe : Calls Try.prog 20 #[ptr g 0, vI c, vI i] wr fun e w' => e = .returned (.bool true) ∧ Below wr.heap.size wr w' := hpe
                            clear hsp e2
                            replace e1 := show Hid _ from e1
                            go_wp2_with (first | (go_at_call 20; refine hpe.mono ?_; rintro e w7 ⟨rfl, hb⟩; dsimp only))
                            go_roundw
                            case rel => exact ⟨i + 1, by omega, by go_num, below_then hT.out (Nat.le_refl _) hb⟩
                            case measure => simp [intOf]; omega
                          · have hbt : (bits BinOp.and IntKind.i64 (t / 2 ^ c) 1 == 1) = false := by rw [gand_one]; simpa using e2
                            rw [decide_eq_true e1, decide_eq_false e2] at hsp
                            rw [hsp] at hpe
                            replace hpe : Calls Try.prog 20 #[ptr g 0, vI c, vI i] wr fun e w' => e = .returned (.bool false) ∧ Below wr.heap.size wr w' := hpe
                            clear hsp
                            replace e1 := show Hid _ from e1
                            go_wp2_with (first | (go_at_call 20; refine hpe.mono ?_; rintro e w7 ⟨rfl, hb⟩; dsimp only))
                            go_roundw
                            case rel => exact ⟨i + 1, by omega, by go_num, below_then hT.out (Nat.le_refl _) hb⟩
                            case measure => simp [intOf]; omega
                        · have n1 : ((i : Int) == id) = false := by simpa using e1
                          rw [decide_eq_false e1] at hsp
                          rw [hsp] at hpe
                          replace hpe : Calls Try.prog 20 #[ptr g 0, vI c, vI i] wr fun e w' => e = .returned (.bool false) ∧ Below wr.heap.size wr w' := hpe
                          clear hsp
                          go_wp2_with (first | (go_at_call 20; refine hpe.mono ?_; rintro e w7 ⟨rfl, hb⟩; dsimp only))
                          go_roundw
                          case rel => exact ⟨i + 1, by omega, by go_num, below_then hT.out (Nat.le_refl _) hb⟩
                          case measure => simp [intOf]; omega
                    · obtain rfl : i = 64 := by omega
                      go_wp2
                      go_roundw
                      case rel => exact ⟨c + 1, by omega, by go_num, hT.out⟩
                      case measure => simp [intOf]; omega
                · obtain rfl : c = 3 := by omega
                  go_wp2
                  go_ret
                  exact ⟨rfl, below_then B5 (Nat.le_refl _) hT.out⟩
            · have hE : gsendE 3 t id = true := by simp only [gsendE, Bool.or_eq_true, decide_eq_true_eq]; omega
              have hs2 := hsend
              rw [hE] at hs2
              replace hs2 : Calls Try.prog 29 #[ptr g 0, vI t, vI id] wr fun e w' => e = .returned (vI 1) ∧ GT g 3 L (gsendP 3 P t id) wr w' := hs2
              go_upto_region 14 with (first | (go_at_call 29; refine hs2.mono ?_; rintro e w5 ⟨rfl, hG⟩; dsimp only))
              have H5 := hG.1
              obtain ⟨C, hC0, hCs, hC3⟩ := hT1.ar
              have hC : w5.heap[d]? = some (.cells C 52 (0, 0)) := by rw [hG.2.block d (lt_of_some hC0) hd]; exact hC0
              have B5 : Below W.heap.size W w5 := (hbel _ _ hT1).trans (hG.2.below (hbel _ _ hT1).size hfoot)
              clear hG hs2 hsend
              go_upto_region 17 with fail
              go_wp2
              go_loopw [14, 15, 16] (fun s14 _ _ wr => ∃ c : Nat, c ≤ 3 ∧ s14 = .int .i64 c ∧ Hid (Below w5.heap.size w5 wr)) (fun s14 _ _ _ => 3 - (intOf s14).toNat)
              case atStart => exact ⟨0, Nat.zero_le _, rfl, Below.refl _ _⟩
              case round =>
                obtain ⟨c, hc, rfl, hT⟩ := hrel
                by_cases hc3 : (c : Int) < 3
                · have hcn : c < 3 := by omega
                  go_wp2
                  go_loopw [15, 16] (fun s15 _ wr => ∃ i : Nat, i ≤ 64 ∧ s15 = .int .i64 i ∧ Hid (Below w5.heap.size w5 wr)) (fun s15 _ _ => 64 - (intOf s15).toNat)
                  case atStart => exact ⟨0, Nat.zero_le _, rfl, hT⟩
                  case round =>
                    clear hT
                    obtain ⟨i, hi, rfl, hT⟩ := hrel
                    by_cases hi64 : (i : Int) < 64
                    · have z : wr.cell? ⟨d, c * 64 + i, none⟩ = some (.bool (pndV 3 P c i)) := by
                        rw [cell_of_row _ _ _ _ _ _ ((hT.out.block _ (lt_of_some hC)).trans hC), hC3 _ (by omega), pndQ, show (c * 64 + i) / 64 = c by omega, show (c * 64 + i) % 64 = i by omega]
                      have hpe : Calls Try.prog 20 #[ptr g 0, vI c, vI i] wr fun e w' => e = .returned (.bool (pndV 3 (gsendP 3 P t id) c i)) ∧ Below wr.heap.size wr w' := pending_c (H5.grow hT.out) c i
                      have hsp := send_pend (P := P) (t := t) (id := id) hcn (show i < 64 by omega)
                      rw [hE] at hsp
                      cases hv : pndV 3 P c i with
                      | true =>
                        rw [hv] at z hsp
                        rw [hsp] at hpe
                        replace hpe : Calls Try.prog 20 #[ptr g 0, vI c, vI i] wr fun e w' => e = .returned (.bool true) ∧ Below wr.heap.size wr w' := hpe
                        clear hsp hv
                        go_wp2_with (first | (go_at_call 20; refine hpe.mono ?_; rintro e w7 ⟨rfl, hb⟩; dsimp only))
                        go_roundw
                        case rel => exact ⟨i + 1, by omega, by go_num, below_then hT.out (Nat.le_refl _) hb⟩
                        case measure => simp [intOf]; omega
                      | false =>
                        rw [hv] at z hsp
                        clear hv
                        rw [hsp] at hpe
                        replace hpe : Calls Try.prog 20 #[ptr g 0, vI c, vI i] wr fun e w' => e = .returned (.bool false) ∧ Below wr.heap.size wr w' := hpe
                        clear hsp
                        go_wp2_with (first | (go_at_call 20; refine hpe.mono ?_; rintro e w7 ⟨rfl, hb⟩; dsimp only))
                        go_roundw
                        case rel => exact ⟨i + 1, by omega, by go_num, below_then hT.out (Nat.le_refl _) hb⟩
                        case measure => simp [intOf]; omega
                    · obtain rfl : i = 64 := by omega
                      go_wp2
                      go_roundw
                      case rel => exact ⟨c + 1, by omega, by go_num, hT.out⟩
                      case measure => simp [intOf]; omega
                · obtain rfl : c = 3 := by omega
                  go_wp2
                  go_ret
                  exact ⟨rfl, below_then B5 (Nat.le_refl _) hT.out⟩
          · have hE : gsendE 3 t id = true := by simp only [gsendE, Bool.or_eq_true, decide_eq_true_eq]; omega
            have hs2 := hsend
            rw [hE] at hs2
            replace hs2 : Calls Try.prog 29 #[ptr g 0, vI t, vI id] wr fun e w' => e = .returned (vI 1) ∧ GT g 3 L (gsendP 3 P t id) wr w' := hs2
            go_upto_region 14 with (first | (go_at_call 29; refine hs2.mono ?_; rintro e w5 ⟨rfl, hG⟩; dsimp only))
            have H5 := hG.1
            obtain ⟨C, hC0, hCs, hC3⟩ := hT1.ar
            have hC : w5.heap[d]? = some (.cells C 52 (0, 0)) := by rw [hG.2.block d (lt_of_some hC0) hd]; exact hC0
            have B5 : Below W.heap.size W w5 := (hbel _ _ hT1).trans (hG.2.below (hbel _ _ hT1).size hfoot)
            clear hG hs2 hsend
            go_upto_region 17 with fail
            go_wp2
            go_loopw [14, 15, 16] (fun s14 _ _ wr => ∃ c : Nat, c ≤ 3 ∧ s14 = .int .i64 c ∧ Hid (Below w5.heap.size w5 wr)) (fun s14 _ _ _ => 3 - (intOf s14).toNat)
            case atStart => exact ⟨0, Nat.zero_le _, rfl, Below.refl _ _⟩
            case round =>
              obtain ⟨c, hc, rfl, hT⟩ := hrel
              by_cases hc3 : (c : Int) < 3
              · have hcn : c < 3 := by omega
                go_wp2
                go_loopw [15, 16] (fun s15 _ wr => ∃ i : Nat, i ≤ 64 ∧ s15 = .int .i64 i ∧ Hid (Below w5.heap.size w5 wr)) (fun s15 _ _ => 64 - (intOf s15).toNat)
                case atStart => exact ⟨0, Nat.zero_le _, rfl, hT⟩
                case round =>
                  clear hT
                  obtain ⟨i, hi, rfl, hT⟩ := hrel
                  by_cases hi64 : (i : Int) < 64
                  · have z : wr.cell? ⟨d, c * 64 + i, none⟩ = some (.bool (pndV 3 P c i)) := by
                      rw [cell_of_row _ _ _ _ _ _ ((hT.out.block _ (lt_of_some hC)).trans hC), hC3 _ (by omega), pndQ, show (c * 64 + i) / 64 = c by omega, show (c * 64 + i) % 64 = i by omega]
                    have hpe : Calls Try.prog 20 #[ptr g 0, vI c, vI i] wr fun e w' => e = .returned (.bool (pndV 3 (gsendP 3 P t id) c i)) ∧ Below wr.heap.size wr w' := pending_c (H5.grow hT.out) c i
                    have hsp := send_pend (P := P) (t := t) (id := id) hcn (show i < 64 by omega)
                    rw [hE] at hsp
                    cases hv : pndV 3 P c i with
                    | true =>
                      rw [hv] at z hsp
                      rw [hsp] at hpe
                      replace hpe : Calls Try.prog 20 #[ptr g 0, vI c, vI i] wr fun e w' => e = .returned (.bool true) ∧ Below wr.heap.size wr w' := hpe
                      clear hsp hv
                      go_wp2_with (first | (go_at_call 20; refine hpe.mono ?_; rintro e w7 ⟨rfl, hb⟩; dsimp only))
                      go_roundw
                      case rel => exact ⟨i + 1, by omega, by go_num, below_then hT.out (Nat.le_refl _) hb⟩
                      case measure => simp [intOf]; omega
                    | false =>
                      rw [hv] at z hsp
                      clear hv
                      rw [hsp] at hpe
                      replace hpe : Calls Try.prog 20 #[ptr g 0, vI c, vI i] wr fun e w' => e = .returned (.bool false) ∧ Below wr.heap.size wr w' := hpe
                      clear hsp
                      go_wp2_with (first | (go_at_call 20; refine hpe.mono ?_; rintro e w7 ⟨rfl, hb⟩; dsimp only))
                      go_roundw
                      case rel => exact ⟨i + 1, by omega, by go_num, below_then hT.out (Nat.le_refl _) hb⟩
                      case measure => simp [intOf]; omega
                  · obtain rfl : i = 64 := by omega
                    go_wp2
                    go_roundw
                    case rel => exact ⟨c + 1, by omega, by go_num, hT.out⟩
                    case measure => simp [intOf]; omega
              · obtain rfl : c = 3 := by omega
                go_wp2
                go_ret
                exact ⟨rfl, below_then B5 (Nat.le_refl _) hT.out⟩
        · have hE : gsendE 3 t id = true := by simp only [gsendE, Bool.or_eq_true, decide_eq_true_eq]; omega
          have hs2 := hsend
          rw [hE] at hs2
          replace hs2 : Calls Try.prog 29 #[ptr g 0, vI t, vI id] wr fun e w' => e = .returned (vI 1) ∧ GT g 3 L (gsendP 3 P t id) wr w' := hs2
          go_upto_region 14 with (first | (go_at_call 29; refine hs2.mono ?_; rintro e w5 ⟨rfl, hG⟩; dsimp only))
          have H5 := hG.1
          obtain ⟨C, hC0, hCs, hC3⟩ := hT1.ar
          have hC : w5.heap[d]? = some (.cells C 52 (0, 0)) := by rw [hG.2.block d (lt_of_some hC0) hd]; exact hC0
          have B5 : Below W.heap.size W w5 := (hbel _ _ hT1).trans (hG.2.below (hbel _ _ hT1).size hfoot)
          clear hG hs2 hsend
          go_upto_region 17 with fail
          go_wp2
          go_loopw [14, 15, 16] (fun s14 _ _ wr => ∃ c : Nat, c ≤ 3 ∧ s14 = .int .i64 c ∧ Hid (Below w5.heap.size w5 wr)) (fun s14 _ _ _ => 3 - (intOf s14).toNat)
          case atStart => exact ⟨0, Nat.zero_le _, rfl, Below.refl _ _⟩
          case round =>
            obtain ⟨c, hc, rfl, hT⟩ := hrel
            by_cases hc3 : (c : Int) < 3
            · have hcn : c < 3 := by omega
              go_wp2
              go_loopw [15, 16] (fun s15 _ wr => ∃ i : Nat, i ≤ 64 ∧ s15 = .int .i64 i ∧ Hid (Below w5.heap.size w5 wr)) (fun s15 _ _ => 64 - (intOf s15).toNat)
              case atStart => exact ⟨0, Nat.zero_le _, rfl, hT⟩
              case round =>
                clear hT
                obtain ⟨i, hi, rfl, hT⟩ := hrel
                by_cases hi64 : (i : Int) < 64
                · have z : wr.cell? ⟨d, c * 64 + i, none⟩ = some (.bool (pndV 3 P c i)) := by
                    rw [cell_of_row _ _ _ _ _ _ ((hT.out.block _ (lt_of_some hC)).trans hC), hC3 _ (by omega), pndQ, show (c * 64 + i) / 64 = c by omega, show (c * 64 + i) % 64 = i by omega]
                  have hpe : Calls Try.prog 20 #[ptr g 0, vI c, vI i] wr fun e w' => e = .returned (.bool (pndV 3 (gsendP 3 P t id) c i)) ∧ Below wr.heap.size wr w' := pending_c (H5.grow hT.out) c i
                  have hsp := send_pend (P := P) (t := t) (id := id) hcn (show i < 64 by omega)
                  rw [hE] at hsp
                  cases hv : pndV 3 P c i with
                  | true =>
                    rw [hv] at z hsp
                    rw [hsp] at hpe
                    replace hpe : Calls Try.prog 20 #[ptr g 0, vI c, vI i] wr fun e w' => e = .returned (.bool true) ∧ Below wr.heap.size wr w' := hpe
                    clear hsp hv
                    go_wp2_with (first | (go_at_call 20; refine hpe.mono ?_; rintro e w7 ⟨rfl, hb⟩; dsimp only))
                    go_roundw
                    case rel => exact ⟨i + 1, by omega, by go_num, below_then hT.out (Nat.le_refl _) hb⟩
                    case measure => simp [intOf]; omega
                  | false =>
                    rw [hv] at z hsp
                    clear hv
                    rw [hsp] at hpe
                    replace hpe : Calls Try.prog 20 #[ptr g 0, vI c, vI i] wr fun e w' => e = .returned (.bool false) ∧ Below wr.heap.size wr w' := hpe
                    clear hsp
                    go_wp2_with (first | (go_at_call 20; refine hpe.mono ?_; rintro e w7 ⟨rfl, hb⟩; dsimp only))
                    go_roundw
                    case rel => exact ⟨i + 1, by omega, by go_num, below_then hT.out (Nat.le_refl _) hb⟩
                    case measure => simp [intOf]; omega
                · obtain rfl : i = 64 := by omega
                  go_wp2
                  go_roundw
                  case rel => exact ⟨c + 1, by omega, by go_num, hT.out⟩
                  case measure => simp [intOf]; omega
            · obtain rfl : c = 3 := by omega
              go_wp2
              go_ret
              exact ⟨rfl, below_then B5 (Nat.le_refl _) hT.out⟩
      · have hE : gsendE 3 t id = true := by simp only [gsendE, Bool.or_eq_true, decide_eq_true_eq]; omega
        have hs2 := hsend
        rw [hE] at hs2
        replace hs2 : Calls Try.prog 29 #[ptr g 0, vI t, vI id] wr fun e w' => e = .returned (vI 1) ∧ GT g 3 L (gsendP 3 P t id) wr w' := hs2
        go_upto_region 14 with (first | (go_at_call 29; refine hs2.mono ?_; rintro e w5 ⟨rfl, hG⟩; dsimp only))
        have H5 := hG.1
        obtain ⟨C, hC0, hCs, hC3⟩ := hT1.ar
        have hC : w5.heap[d]? = some (.cells C 52 (0, 0)) := by rw [hG.2.block d (lt_of_some hC0) hd]; exact hC0
        have B5 : Below W.heap.size W w5 := (hbel _ _ hT1).trans (hG.2.below (hbel _ _ hT1).size hfoot)
        clear hG hs2 hsend
        go_upto_region 17 with fail
        go_wp2
        go_loopw [14, 15, 16] (fun s14 _ _ wr => ∃ c : Nat, c ≤ 3 ∧ s14 = .int .i64 c ∧ Hid (Below w5.heap.size w5 wr)) (fun s14 _ _ _ => 3 - (intOf s14).toNat)
        case atStart => exact ⟨0, Nat.zero_le _, rfl, Below.refl _ _⟩
        case round =>
          obtain ⟨c, hc, rfl, hT⟩ := hrel
          by_cases hc3 : (c : Int) < 3
          · have hcn : c < 3 := by omega
            go_wp2
            go_loopw [15, 16] (fun s15 _ wr => ∃ i : Nat, i ≤ 64 ∧ s15 = .int .i64 i ∧ Hid (Below w5.heap.size w5 wr)) (fun s15 _ _ => 64 - (intOf s15).toNat)
            case atStart => exact ⟨0, Nat.zero_le _, rfl, hT⟩
            case round =>
              clear hT
              obtain ⟨i, hi, rfl, hT⟩ := hrel
              by_cases hi64 : (i : Int) < 64
              · have z : wr.cell? ⟨d, c * 64 + i, none⟩ = some (.bool (pndV 3 P c i)) := by
                  rw [cell_of_row _ _ _ _ _ _ ((hT.out.block _ (lt_of_some hC)).trans hC), hC3 _ (by omega), pndQ, show (c * 64 + i) / 64 = c by omega, show (c * 64 + i) % 64 = i by omega]
                have hpe : Calls Try.prog 20 #[ptr g 0, vI c, vI i] wr fun e w' => e = .returned (.bool (pndV 3 (gsendP 3 P t id) c i)) ∧ Below wr.heap.size wr w' := pending_c (H5.grow hT.out) c i
                have hsp := send_pend (P := P) (t := t) (id := id) hcn (show i < 64 by omega)
                rw [hE] at hsp
                cases hv : pndV 3 P c i with
                | true =>
                  rw [hv] at z hsp
                  rw [hsp] at hpe
                  replace hpe : Calls Try.prog 20 #[ptr g 0, vI c, vI i] wr fun e w' => e = .returned (.bool true) ∧ Below wr.heap.size wr w' := hpe
                  clear hsp hv
                  go_wp2_with (first | (go_at_call 20; refine hpe.mono ?_; rintro e w7 ⟨rfl, hb⟩; dsimp only))
                  go_roundw
                  case rel => exact ⟨i + 1, by omega, by go_num, below_then hT.out (Nat.le_refl _) hb⟩
                  case measure => simp [intOf]; omega
                | false =>
                  rw [hv] at z hsp
                  clear hv
                  rw [hsp] at hpe
                  replace hpe : Calls Try.prog 20 #[ptr g 0, vI c, vI i] wr fun e w' => e = .returned (.bool false) ∧ Below wr.heap.size wr w' := hpe
                  clear hsp
                  go_wp2_with (first | (go_at_call 20; refine hpe.mono ?_; rintro e w7 ⟨rfl, hb⟩; dsimp only))
                  go_roundw
                  case rel => exact ⟨i + 1, by omega, by go_num, below_then hT.out (Nat.le_refl _) hb⟩
                  case measure => simp [intOf]; omega
              · obtain rfl : i = 64 := by omega
                go_wp2
                go_roundw
                case rel => exact ⟨c + 1, by omega, by go_num, hT.out⟩
                case measure => simp [intOf]; omega
          · obtain rfl : c = 3 := by omega
            go_wp2
            go_ret
            exact ⟨rfl, below_then B5 (Nat.le_refl _) hT.out⟩
end Go.Proofs.Ytpmlehfnlodmbaa
