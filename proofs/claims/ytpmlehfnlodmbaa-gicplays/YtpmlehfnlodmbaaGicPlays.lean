/- Lp, GicPlays of the seat, joined. -/
import Derived.Test.YtpmlehfnlodmbaaVe
import Derived.Test.YtpmlehfnlodmbaaVf
import Derived.Test.YtpmlehfnlodmbaaFr
import Derived.Test.YtpmlehfnlodmbaaSc
/- GicPlays' walk. -/
namespace Go.Proofs.Ytpmlehfnlodmbaa
open Go.RowKit
set_option linter.unusedVariables false
set_option linter.unusedSimpArgs false
set_option maxRecDepth 8000

set_option maxHeartbeats 4000000 in
theorem plays_walk (cores : Int) (v : Value) (ss : List St5) (W : World) (hI : I64 cores) (R : Scr W v ss) : Calls Try.prog 3 #[vI cores, v] W fun e w' => e = .returned (.bool true) ∧ Below W.heap.size W w' := by
  go_enter Try.func3, Try.ntmps3
  go_upto_region 2 with (first | (go_at_call 9; refine (known_c W).mono ?_; rintro e w1 ⟨rfl, hB1⟩; dsimp only))
  by_cases hlo : cores < 1
  · have q10 := new_no cores (.inl hlo) w1
    go_wp2_with (go_at_call 10; refine q10.mono ?_; rintro e w' ⟨rfl, rfl⟩; dsimp only)
    go_ret
    exact ⟨rfl, hB1⟩
  by_cases hhi : 8 < cores
  · have q10 := new_no cores (.inr hhi) w1
    go_wp2_with (go_at_call 10; refine q10.mono ?_; rintro e w' ⟨rfl, rfl⟩; dsimp only)
    go_ret
    exact ⟨rfl, hB1⟩
  obtain ⟨n, rfl⟩ : ∃ n : Nat, cores = (n : Int) := ⟨cores.toNat, by omega⟩
  have hn1 : 1 ≤ n := by omega
  have hn8 : n ≤ 8 := by omega
  have q10 := new_c n hn1 hn8 w1
  go_upto_region 7 with (go_at_call 10; refine q10.mono ?_; rintro e w2 ⟨g, rfl, hG, hB2, hg⟩; dsimp only)
  obtain ⟨L, K⟩ := newKW hG hB2
  clear q10 hG hg
  have q11 := Doc.newR_c n w2 hn8
  go_upto_region 8 with (go_at_call 11; refine q11.mono ?_; rintro e w3 ⟨h, M, rfl, hR, hF, hB3⟩; dsimp only)
  generalize hw4 : World.alloc _ _ = w4
  have H : PW w1.heap.size w1 g h n newP (Doc.newR n) L M w3.heap.size w4 := by
    rw [← hw4]
    have hb := below_alloc w3 (.cells #[ptr g 0, ptr h 0] 32)
    exact ⟨(K.grow hB3).grow hb, hR.grow hb, fun k hk => Nat.le_trans hB2.size (hF k hk), heap_alloc_new _ _, new_lk n⟩
  clear hw4 K q11 hR hF hB3 hB2
  generalize w3.heap.size = wb at H ⊢
  obtain ⟨ao, cap, ev⟩ := R.len
  rw [ev]
  go_wp2
  go_loopw [9] (fun s9 wr => ∃ i : Nat, i ≤ min ss.length 200 ∧ s9 = .int .i64 i ∧ Hid (∃ Q Y L, (∀ c, (Q.wk c).length ≤ i) ∧ PW w1.heap.size w1 g h n Q Y L M wb wr)) (fun s9 _ => 200 - (intOf s9).toNat)
  case atStart => exact ⟨0, Nat.zero_le _, rfl, newP, Doc.newR n, L, fun c => Nat.le_refl _, H⟩
  case round =>
    clear H
    obtain ⟨i, hi, rfl, hH⟩ := hrel
    obtain ⟨Q, Y, L, hQ, H⟩ := hH.out
    clear hH
    by_cases h1 : (i : Int) < ss.length
    · by_cases h2 : (i : Int) < 200
      · have hs := List.getElem?_eq_getElem (l := ss) (i := i) (by omega)
        generalize ss[i] = o at hs
        obtain ⟨ra, cap', ev', hc⟩ := R.at (below_then hB1 (Nat.le_refl _) H.kw.below) hs
        rw [ev] at ev'
        cases ev'
        have hwf := R.wf o (List.mem_of_getElem? hs)
        have q12 := step_c H o hn8 (fun c hc => by have := hQ c; omega)
        go_upto_region 12 with (first | (go_at_call 12; refine q12.mono ?_; rintro e w5 ⟨rfl, hX⟩; dsimp only) | (refine wpList_load35 rfl _ rfl _ rfl o hc ?_; simp only [Act.put]))
        clear H q12 hc
        obtain ⟨Y5, L5, H⟩ := hX
        obtain ⟨ra', cap', ev', hc⟩ := R.at (below_then hB1 (Nat.le_refl _) H.kw.below) hs
        rw [ev] at ev'
        cases ev'
        have zid : w5.cell? { block := (ra.add (i * 5)).block, off := (ra.add (i * 5)).off + 2 } = some (vI o.id) := hc 2 _ rfl
        clear hc
        have q13 := looks_c H hn1 hn8 o.id hwf.id
        go_wp2_with (go_at_call 13; refine q13.mono ?_; rintro e w6 ⟨rfl, H6⟩; dsimp only)
        go_roundw
        case rel => exact ⟨i + 1, by omega, by go_num, onlyP n Q o, Y5, L5, fun c => by have := only_len n Q o c; have := hQ c; omega, H6⟩
        case measure => simp [intOf]; omega
      · have hc := h1
        clear hc
        go_wp2
        go_loopw [12] (fun s12 wq => ∃ d : Int, 0 ≤ d ∧ d ≤ 72 ∧ s12 = .int .i64 d ∧ Hid (PW w1.heap.size w1 g h n Q Y L M wb wq)) (fun s12 _ => (72 - intOf s12).toNat)
        case atStart => exact ⟨0, by omega, by omega, rfl, H⟩
        case round =>
          clear H
          obtain ⟨d, hd0, hd1, rfl, hH⟩ := hrel
          have H := hH.out
          clear hH
          by_cases hd : d < 64
          · have q13 := looks_c H hn1 hn8 d ⟨by omega, by omega⟩
            go_wp2_with (go_at_call 13; refine q13.mono ?_; rintro e w6 ⟨rfl, H6⟩; dsimp only)
            go_roundw
            case rel => exact ⟨d + 9, by omega, by omega, by go_num, H6⟩
            case measure => simp [intOf]; omega
          · go_wp2
            go_ret
            exact ⟨rfl, below_then hB1 (Nat.le_refl _) H.kw.below⟩
    · have hc := h1
      clear hc
      go_wp2
      go_loopw [12] (fun s12 wq => ∃ d : Int, 0 ≤ d ∧ d ≤ 72 ∧ s12 = .int .i64 d ∧ Hid (PW w1.heap.size w1 g h n Q Y L M wb wq)) (fun s12 _ => (72 - intOf s12).toNat)
      case atStart => exact ⟨0, by omega, by omega, rfl, H⟩
      case round =>
        clear H
        obtain ⟨d, hd0, hd1, rfl, hH⟩ := hrel
        have H := hH.out
        clear hH
        by_cases hd : d < 64
        · have q13 := looks_c H hn1 hn8 d ⟨by omega, by omega⟩
          go_wp2_with (go_at_call 13; refine q13.mono ?_; rintro e w6 ⟨rfl, H6⟩; dsimp only)
          go_roundw
          case rel => exact ⟨d + 9, by omega, by omega, by go_num, H6⟩
          case measure => simp [intOf]; omega
        · go_wp2
          go_ret
          exact ⟨rfl, below_then hB1 (Nat.le_refl _) H.kw.below⟩
end Go.Proofs.Ytpmlehfnlodmbaa
/- Interrupts are set, taken and ended, call by call, just as the chapter says: GicPlays returns true, whatever its arguments. -/
namespace Go.Proofs.Ytpmlehfnlodmbaa.gicPlays
open Go.ChangeShapes Go.WideShapes Go.ChangeAt Go.RowKit
set_option linter.unusedVariables false
set_option linter.unusedSimpArgs false

theorem own : ownKnob Try.prog.godebug = none := by kernel_rfl

set_option maxRecDepth 100000 in
theorem lifted (os : Os) (started : os.Started) (H : Type) (enc : TypeId × Value → H) :
    ReturnsInHanded {} Try.checked os 3 .any (Rows.gicPlaysSpec.pre6 enc Try.prog Try.f3 Rows.gicPlaysRow.domain false) (Rows.gicPlaysSpec.post enc Try.prog Try.f3 false true false false) := by
  refine returnsInHanded_of_change (C := Try.checked) own started (by kernel_rfl) Try.func3
    (ChangeSpec.witness6 (enc := enc) (C := Try.checked) false ⟨#[], #[.int .i64 0, .slice none 0 0], []⟩ 8 (by kernel_rfl) (by kernel_rfl) (by kernel_rfl) (by kernel_rfl)) ?_
  intro W base args ds gs before hval0 hW hcnd _
  have hval : ∀ (j : Nat) t v, Try.f3.params[j]? = some t → args[j]? = some v → Value.okWide Try.prog W .any base t v := hval0
  have hW' := hW
  obtain ⟨p, q, hA0, hV, rfl, hfz, hnd⟩ := hW
  have hA : DataW.TrodAll enc Try.prog W 0 (fun _ => true) true Try.f3.params.toList args.toList ds p := hA0
  have hAll := hA
  rw [Try.params3] at hA hval
  obtain ⟨v0, vs0, d0, ds0, p0, q0, hargs, rfl, rfl, h0, r0⟩ := trodAll_cons hA
  obtain ⟨v1, vs1, d1, ds1, p1, q1, rfl, rfl, rfl, h1, r1⟩ := trodAll_cons r0
  obtain ⟨rfl, rfl, rfl⟩ := trodAll_nil r1
  obtain rfl : args = #[v0, v1] := by cases args; simp_all
  obtain ⟨rfl, rfl⟩ := trodVars_none hV
  obtain ⟨a0, rfl, rfl, rfl, w0⟩ := open_int Try.underlying3 (hval 0 3 v0 rfl rfl) h0
  obtain ⟨z1, R1⟩ := open_script (hval 1 22 v1 rfl rfl) h1
  clear hA0 hval0
  simp only [List.append_nil] at hW' hAll
  refine (plays_walk a0 v1 z1 W (i64_of w0) R1).mono fun e W' ⟨he, hb⟩ => ?_
  subst he
  refine ⟨_, rfl, post_old (P := Try.prog) (by kernel_rfl) hW' hb hAll ?_ (fun _ _ _ => (trodAll_cons_mk (shut_bool Try.underlying4 _) trodAll_mk0)) rfl (fun _ => rfl) (ok_one (by kernel_rfl) rfl (okWide_bool_mk Try.underlying4 _))⟩
  intro t ht
  rw [Try.params3] at ht
  have ht' : t = 3 ∨ t = 22 := by simpa using ht
  rcases ht' with rfl | rfl <;> exact ⟨by kernel_rfl, of_decide_eq_true (by kernel_rfl)⟩

theorem over : Rows.gicPlaysRow.holds Try.pinned (OpenSpec.ofChange Rows.gicPlaysSpec) :=
  OpenClaim.holds_of_wide 3 Try.f3 rfl rfl rfl rfl rfl rfl rfl ⟨rfl, rfl, rfl, rfl, rfl⟩ rfl rfl rfl rfl rfl (by kernel_rfl) Try.func3 (by kernel_rfl)
    (of_decide_eq_true (by kernel_rfl)) (by unfold Func.isWrapper; first | (rw [if_pos (by decide +kernel)]; kernel_rfl) | (rw [if_neg (by decide +kernel)]; exact ⟨rfl, rfl⟩))
    (fun os started H enc _ => lifted os started H enc)

theorem proved : Rows.GicPlaysSaid :=
  over
end Go.Proofs.Ytpmlehfnlodmbaa.gicPlays

namespace Go.Proofs.Ytpmlehfnlodmbaa
theorem gicPlays_holds : Rows.GicPlaysSaid := gicPlays.proved
#print axioms gicPlays_holds
end Go.Proofs.Ytpmlehfnlodmbaa
