/- MonitorOne's walk. -/
import Derived.Test.YtgloemlbkkjcaaaMh
import Derived.Test.YtgloemlbkkjcaaaFr
namespace Go.Proofs.Ytgloemlbkkjcaaa
open Go.RowKit
set_option linter.unusedVariables false
set_option linter.unusedSimpArgs false

theorem Raw.grow {w w' : World} {v : Value} {zs : List Int} (h : Raw w v zs) (hb : Below w.heap.size w w') : Raw w' v zs :=
  ⟨h.len, h.max, fun h0 => by
    obtain ⟨ra, cap, e, hc⟩ := h.cell h0
    exact ⟨ra, cap, e, fun i x hx => ⟨Nat.lt_of_lt_of_le (hc i x hx).1 hb.size, by rw [hb.cell (hc i x hx).1]; exact (hc i x hx).2⟩⟩, h.wf⟩
def One (M : Mk) (i : Nat) (won : Int) (ms : List Mk) : Prop := (i = 0 ∧ won = 0 ∧ ∀ c : Int, 0 ≤ c → c < 8 → mkAt ms c = M) ∨ (0 < i ∧ won = 1 ∧ ∀ c : Int, 0 ≤ c → c < 8 → mkAt ms c = (false, 0))
set_option maxRecDepth 8000 in
set_option maxHeartbeats 8000000 in
theorem one_walk (line : Int) (v u : Value) (zs us : List Int) (w : World) (hline : U64 line) (R : Raw w v zs) (U : Raw w u us) : Calls Try.prog 5 #[vU line, v, u] w fun e w' => e = .returned (.bool true) ∧ Below w.heap.size w w' := by
  obtain ⟨ao, cap, ev⟩ := R.len
  obtain ⟨bo, bcap, eu⟩ := U.len
  have hmx := R.max
  have hmy := U.max
  simp only [maxLen] at hmx hmy
  have l0 := hline.1
  have l1 := hline.2
  have ht : line.tmod 64 = line % 64 := Int.tmod_eq_emod_of_nonneg l0
  obtain ⟨b, hb⟩ : ∃ b, b = line - line % 64 := ⟨_, rfl⟩
  have hw0 : IntKind.u64.wrap (line % 64) = line % 64 := by rw [IntKind.wrap_u64]; omega
  have hw1 : IntKind.u64.wrap (line - line % 64) = b := by rw [IntKind.wrap_u64]; omega
  have hb0 : 0 ≤ b := by omega
  have hbb : b + 64 ≤ 18446744073709551616 := by omega
  have hdiv : ∀ k : Int, 0 ≤ k → k < 64 → ofV (b + k) = ofV b := fun k h0 h1 => of_inj.2 (by omega)
  replace hb := show Hid _ from hb
  clear hline
  go_enter Try.func5, Try.ntmps5
  go_upto_region 6 with (first | (go_at_call 7; refine (known_c _).mono ?_; rintro e x1 ⟨rfl, hb1⟩; dsimp only) | (go_at_call 8; refine (new_m 8 _ (by decide)).mono ?_; rintro e x2 ⟨rfl, H⟩; dsimp only))
  generalize x1.heap.size = g at H ⊢
  have R' := R.grow hb1
  have U' := U.grow hb1
  clear R U hw0 hw1 ht
  go_wp2
  go_loopw [11] (fun s11 wr => ∃ i : Nat, i ≤ 8 ∧ s11 = .int .i64 i ∧ Hid (∃ ms, LM x1 g 8 ms wr ∧ ∀ c : Int, 0 ≤ c → c < i → mkAt ms c = ofV b)) (fun s11 _ => 8 - (intOf s11).toNat)
  case atStart => exact ⟨0, by omega, rfl, nilM, H, fun c h0 h1 => by omega⟩
  case round =>
    obtain ⟨i, hi, rfl, hH⟩ := hrel
    obtain ⟨ms, P, hms⟩ := hH.out
    clear hH H
    by_cases hlt : (i : Int) < 8
    · have hi0 : (0 : Int) ≤ i := by omega
      have wa : IntKind.i64.wrap ((i : Int) * 8) = (i : Int) * 8 := by rw [IntKind.wrap_i64]; omega
      have wb : IntKind.u64.wrap ((i : Int) * 8) = (i : Int) * 8 := by rw [IntKind.wrap_u64]; omega
      have wc : IntKind.u64.wrap (b + (i : Int) * 8) = b + (i : Int) * 8 := by rw [IntKind.wrap_u64]; omega
      have hA : U64 (b + (i : Int) * 8) := ⟨by omega, by omega⟩
      have hB : hasB 8 i = true := hasB_iff.2 ⟨hi0, hlt⟩
      go_wp2_with (go_at_call 10; refine (mark_m P i (b + (i : Int) * 8) hA).mono ?_; rintro e y ⟨rfl, P2, -⟩; dsimp only)
      go_roundw
      case rel =>
        refine ⟨i + 1, by omega, by go_num, _, P2, fun c h0 h1 => ?_⟩
        rw [mark_at hB (by decide) P.at_.len _ h0, hdiv _ (by omega) (by omega)]
        split
        · rfl
        · exact hms c h0 (by omega)
      case measure => simp [intOf]; omega
    · obtain rfl : i = 8 := by omega
      go_wp2
      clear hi hlt
      have P0 := P
      clear P
      go_loopw [12, 13] (fun s12 s13 wr => ∃ i : Nat, i ≤ zs.length ∧ i ≤ 30 ∧ s13 = .int .i64 i ∧ ∃ won : Int, s12 = .int .i64 won ∧ Hid (∃ ms, LM x1 g 8 ms wr ∧ One (ofV b) i won ms)) (fun _ s13 _ => 30 - (intOf s13).toNat)
      case atStart => exact ⟨0, by omega, by omega, rfl, 0, rfl, ms, P0, .inl ⟨rfl, rfl, fun c h0 h1 => hms c h0 h1⟩⟩
      case round =>
        clear hms P0
        obtain ⟨i, hi1, hi2, rfl, won, rfl, hH⟩ := hrel
        obtain ⟨ms, P, hO⟩ := hH.out
        clear hH
        have hfin : ∀ (hz : ¬ ((i : Int) < zs.length ∧ (i : Int) < 30)), (won = 0 ∧ zs.length = 0) ∨ won = 1 := fun hz => by
          rcases hO with ⟨h1, h2, _⟩ | ⟨h1, h2, _⟩
          · exact .inl ⟨h2, by omega⟩
          · exact .inr h2
        by_cases hlt : (i : Int) < zs.length
        · by_cases h30 : (i : Int) < 30
          · obtain ⟨ra, rc, e2, hrc⟩ := R'.cell (by omega)
            have hx : zs[i]? = some zs[i] := List.getElem?_eq_getElem (by omega)
            have hwf := R'.wf zs[i] (List.getElem_mem (by omega))
            obtain ⟨hrb, z⟩ := hrc i _ hx
            generalize zs[i] = x at hx hwf z
            clear hrc hx hfin
            rw [← P.below.cell (p := ra.add i) hrb] at z
            subst e2
            have hi0 : (0 : Int) ≤ i := by omega
            obtain ⟨p0, p1⟩ := pick_in x (n := 8) (by decide)
            generalize hc : pickV x 8 = c at p0 p1
            have hB : hasB 8 c = true := hasB_iff.2 ⟨p0, p1⟩
            replace hc := show Hid _ from hc
            go_upto_region 16 with (go_at_call 18; refine (pick_c x 8 _ hwf (by decide) (by decide)).mono ?_; rintro e w' ⟨rfl, rfl⟩; dsimp only; rw [hc.out])
            by_cases hu : (i : Int) < us.length
            · obtain ⟨rb, rd, e3, hrd⟩ := U'.cell (by omega)
              have hx2 : us[i]? = some us[i] := List.getElem?_eq_getElem (by omega)
              have hwf2 := U'.wf us[i] (List.getElem_mem (by omega))
              obtain ⟨hrb2, z2⟩ := hrd i _ hx2
              generalize us[i] = x3 at hx2 hwf2 z2
              clear hrd hx2
              rw [← P.below.cell (p := rb.add i) hrb2] at z2
              rw [eu] at e3
              simp only [Value.slice.injEq] at e3
              obtain ⟨rfl, -, -⟩ := e3
              obtain ⟨k0, k1⟩ := pick_in x3 (n := 64) (by decide)
              generalize hk : pickV x3 64 = k at k0 k1
              replace hk := show Hid _ from hk
              clear z
              have wk : IntKind.u64.wrap k = k := by rw [IntKind.wrap_u64]; omega
              obtain ⟨A, hAe⟩ : ∃ A, A = b + k := ⟨_, rfl⟩
              have wbk : IntKind.u64.wrap (b + k) = A := by rw [IntKind.wrap_u64]; omega
              have hA : U64 A := ⟨by omega, by omega⟩
              have hd : ofV A = ofV b := by rw [hAe]; exact hdiv k k0 k1
              replace hAe := show Hid _ from hAe
              go_upto_region 18 with (go_at_call 18; refine (pick_c x3 64 _ hwf2 (by decide) (by decide)).mono ?_; rintro e w3 ⟨rfl, rfl⟩; dsimp only; rw [hk.out])
              rcases hO with ⟨hO1, hO2, hO3⟩ | ⟨hO1, hO2, hO3⟩
              · have hT : takeB 8 ms c A = true := (take_iff hB).2 (by rw [hd]; exact hO3 c p0 p1)
                have hw1 : IntKind.i64.wrap (won + 1) = 1 := by rw [hO2]; rfl
                go_wp2_with (first | (go_at_call 15; refine (take_m P c A hA).mono ?_; rintro e y ⟨rfl, P2, -⟩; dsimp only; rw [hT, hB, errT]) | (go_at_call 13; refine (wrote_m P2 c A hA).mono ?_; rintro e y2 ⟨wha, whc, rfl, P3, -, -⟩; dsimp only))
                go_roundw
                case rel =>
                  refine ⟨i + 1, by omega, by omega, by go_num, 1, rfl, _, P3, .inr ⟨by omega, rfl, fun x h0 h1 => ?_⟩⟩
                  rw [wrote_at hB P2.at_.len _ h0 h1, clear_at hB (by decide) P.at_.len h0, hd]
                  by_cases e : x = c
                  · rw [if_neg (fun h => h.1 e), if_pos e]
                  · rw [if_neg e, if_pos ⟨e, hO3 x h0 h1⟩]
                case measure => simp [intOf]; omega
              · have hT : takeB 8 ms c A = false := by
                  cases h : takeB 8 ms c A
                  · rfl
                  · have := (take_iff hB).1 h
                    rw [hO3 c p0 p1] at this
                    exact absurd this.symm (of_ne_nil _)
                go_wp2_with (first | (go_at_call 15; refine (take_m P c A hA).mono ?_; rintro e y ⟨rfl, P2, -⟩; dsimp only; rw [hT, hB, errT]))
                go_roundw
                case rel =>
                  refine ⟨i + 1, by omega, by omega, by go_num, won, rfl, _, P2, .inr ⟨by omega, hO2, fun x h0 h1 => ?_⟩⟩
                  rw [clear_at hB (by decide) P.at_.len h0]
                  split
                  · rfl
                  · exact hO3 x h0 h1
                case measure => simp [intOf]; omega
            · obtain ⟨A, hAe⟩ : ∃ A, A = b := ⟨_, rfl⟩
              have wbk : IntKind.u64.wrap b = A := by rw [IntKind.wrap_u64]; omega
              have hA : U64 A := ⟨by omega, by omega⟩
              have hd : ofV A = ofV b := by rw [hAe]
              replace hAe := show Hid _ from hAe
              clear z
              go_upto_region 18 with fail
              rcases hO with ⟨hO1, hO2, hO3⟩ | ⟨hO1, hO2, hO3⟩
              · have hT : takeB 8 ms c A = true := (take_iff hB).2 (by rw [hd]; exact hO3 c p0 p1)
                have hw1 : IntKind.i64.wrap (won + 1) = 1 := by rw [hO2]; rfl
                go_wp2_with (first | (go_at_call 15; refine (take_m P c A hA).mono ?_; rintro e y ⟨rfl, P2, -⟩; dsimp only; rw [hT, hB, errT]) | (go_at_call 13; refine (wrote_m P2 c A hA).mono ?_; rintro e y2 ⟨wha, whc, rfl, P3, -, -⟩; dsimp only))
                go_roundw
                case rel =>
                  refine ⟨i + 1, by omega, by omega, by go_num, 1, rfl, _, P3, .inr ⟨by omega, rfl, fun x h0 h1 => ?_⟩⟩
                  rw [wrote_at hB P2.at_.len _ h0 h1, clear_at hB (by decide) P.at_.len h0, hd]
                  by_cases e : x = c
                  · rw [if_neg (fun h => h.1 e), if_pos e]
                  · rw [if_neg e, if_pos ⟨e, hO3 x h0 h1⟩]
                case measure => simp [intOf]; omega
              · have hT : takeB 8 ms c A = false := by
                  cases h : takeB 8 ms c A
                  · rfl
                  · have := (take_iff hB).1 h
                    rw [hO3 c p0 p1] at this
                    exact absurd this.symm (of_ne_nil _)
                go_wp2_with (first | (go_at_call 15; refine (take_m P c A hA).mono ?_; rintro e y ⟨rfl, P2, -⟩; dsimp only; rw [hT, hB, errT]))
                go_roundw
                case rel =>
                  refine ⟨i + 1, by omega, by omega, by go_num, won, rfl, _, P2, .inr ⟨by omega, hO2, fun x h0 h1 => ?_⟩⟩
                  rw [clear_at hB (by decide) P.at_.len h0]
                  split
                  · rfl
                  · exact hO3 x h0 h1
                case measure => simp [intOf]; omega
          · have hi30 : i = 30 := by omega
            rcases hfin (fun h => by omega) with ⟨h1, h2⟩ | h1
            · subst h1
              have h2' : ((zs.length : Nat) : Int) = 0 := by omega
              go_wp2
              go_ret
              exact ⟨rfl, below_then hb1 (Nat.le_refl _) P.below⟩
            · subst h1
              go_wp2
              go_ret
              exact ⟨rfl, below_then hb1 (Nat.le_refl _) P.below⟩
        · rcases hfin (fun h => by omega) with ⟨h1, h2⟩ | h1
          · subst h1
            have h2' : ((zs.length : Nat) : Int) = 0 := by omega
            go_wp2
            go_ret
            exact ⟨rfl, below_then hb1 (Nat.le_refl _) P.below⟩
          · subst h1
            go_wp2
            go_ret
            exact ⟨rfl, below_then hb1 (Nat.le_refl _) P.below⟩
end Go.Proofs.Ytgloemlbkkjcaaa
