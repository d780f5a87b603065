/- MonitorApart's walk. -/
import Derived.Test.YtgloemlbkkjcaaaMh
import Derived.Test.YtgloemlbkkjcaaaSc
namespace Go.Proofs.Ytgloemlbkkjcaaa
open Go.RowKit
set_option linter.unusedVariables false
set_option linter.unusedSimpArgs false

structure Box3 (ob : Nat) (s : St3) (w : World) : Prop where
  at_ : w.heap[ob]? = some (.cells #[vI s.k, vI s.c, vU s.a] 32)
theorem Box3.cells {y : World} {ob : Nat} {s : St3} (h : Box3 ob s y) : y.cell? ⟨ob, 0, none⟩ = some (vI s.k) ∧ y.cell? ⟨ob, 1, none⟩ = some (vI s.c) ∧ y.cell? ⟨ob, 2, none⟩ = some (vU s.a) := by
  rw [cell_of_row _ _ _ _ _ _ h.at_, cell_of_row _ _ _ _ _ _ h.at_, cell_of_row _ _ _ _ _ _ h.at_]
  exact ⟨rfl, rfl, rfl⟩
set_option maxRecDepth 8000 in
set_option maxHeartbeats 4000000 in
theorem apart_walk (addr : Int) (v : Value) (ss : List St3) (w : World) (hA : U64 addr) (R : Scr w v ss) : Calls Try.prog 6 #[vU addr, v] w fun e w' => e = .returned (.bool true) ∧ Below w.heap.size w w' := by
  obtain ⟨ao, cap, ev⟩ := R.len
  have hmx := R.max
  simp only [maxLen] at hmx
  have a0 := hA.1
  have a1 := hA.2
  have h03 : hasB 3 0 = true := by decide
  have t1 : addr.tmod 64 = addr % 64 := Int.tmod_eq_emod_of_nonneg a0
  have t2 : addr.tdiv 64 = addr / 64 := Int.tdiv_eq_ediv_of_nonneg a0
  have t3 : IntKind.u64.wrap (addr % 64) = addr % 64 := by rw [IntKind.wrap_u64]; omega
  have t4 : IntKind.u64.wrap (addr / 64) = addr / 64 := by rw [IntKind.wrap_u64]; omega
  have t5 : IntKind.u64.wrap (addr - addr % 64) = addr / 64 * 64 := by rw [IntKind.wrap_u64]; omega
  go_enter Try.func6, Try.ntmps6
  go_wp2_with (first | (go_at_call 7; refine (known_c _).mono ?_; rintro e x1 ⟨rfl, hb1⟩; dsimp only) | (go_at_call 8; refine (new_m 3 _ (by decide)).mono ?_; rintro e x2 ⟨rfl, H0⟩; dsimp only; generalize x1.heap.size = g at H0 ⊢) | (go_at_call 10; refine (mark_m H0 0 addr hA).mono ?_; rintro e x3 ⟨rfl, H, -⟩; dsimp only; rw [h03, errT]))
  have hst : mkAt (markS 3 nilM 0 addr) 0 = ofV addr := rfl
  generalize markS 3 nilM 0 addr = m0 at H hst
  have R' := R.grow hb1
  clear R H0
  go_loopw [8] (fun s8 wr => ∃ i : Nat, i ≤ ss.length ∧ i ≤ 100 ∧ s8 = .int .i64 i ∧ Hid (∃ ms, LM x1 g 3 ms wr ∧ mkAt ms 0 = ofV addr)) (fun s8 _ => 100 - (intOf s8).toNat)
  case atStart => exact ⟨0, Nat.zero_le _, Nat.zero_le _, rfl, m0, H, hst⟩
  case round =>
    obtain ⟨i, hi1, hi2, rfl, hH⟩ := hrel
    obtain ⟨ms, P, hm⟩ := hH.out
    clear hH hst H
    by_cases hlt : (i : Int) < ss.length
    · by_cases h100 : (i : Int) < 100
      · obtain ⟨ra, rc, e2, hrc⟩ := R'.cell (by omega)
        have hx : ss[i]? = some ss[i] := List.getElem?_eq_getElem (by omega)
        have hwf := R'.wf ss[i] (List.getElem_mem (by omega))
        have hcl := hrc i _ hx
        generalize ss[i] = s at hx hwf hcl
        clear hx hrc
        have hrow : ∀ (j : Nat) x, s.row[j]? = some x → wr.cell? ((ra.add (i * 3)).add j) = some x := fun j x hx => by
          obtain ⟨h1, h2⟩ := hcl j x hx
          rw [P.below.cell h1]; exact h2
        clear hcl
        subst e2
        have hi0 : (0 : Int) ≤ i := by omega
        obtain ⟨p0, p1⟩ := pick_in s.c (n := 2) (by decide)
        generalize hc : pickV s.c 2 = d at p0 p1
        obtain ⟨c, hcd⟩ : ∃ c, c = 1 + d := ⟨_, rfl⟩
        have wc : IntKind.i64.wrap (1 + d) = c := by rw [IntKind.wrap_i64]; omega
        have hB : hasB 3 c = true := hasB_iff.2 ⟨by omega, by omega⟩
        have hc0 : ¬ (0 : Int) = c := by omega
        replace hc := show Hid _ from hc
        replace hcd := show Hid _ from hcd
        have hl8 := P.at_.len
        have hAs := hwf.a
        have s0 := hAs.1
        have s1 := hAs.2
        have u2 : s.a.tdiv 64 = s.a / 64 := Int.tdiv_eq_ediv_of_nonneg s0
        have u4 : IntKind.u64.wrap (s.a / 64) = s.a / 64 := by rw [IntKind.wrap_u64]; omega
        go_upto_region 10 with ((with_reducible refine wpList_load32 rfl _ rfl _ rfl s hrow ?_); simp only [Act.put, List.setIfInBounds_toArray, List.set_cons_succ, List.set_cons_zero])
        have P1 := P.grow (below_alloc wr (.cells #[vI s.k, vI s.c, vU s.a] 32))
        have hbx : Box3 wr.heap.size s (wr.alloc (.cells #[vI s.k, vI s.c, vU s.a] 32)) := ⟨heap_alloc_new _ _⟩
        have hog : wr.heap.size ≠ g := by have := P.at_.lt; omega
        generalize wr.heap.size = ob at hbx hog ⊢
        generalize h4 : World.alloc wr _ = y1
        have h5 : wr.alloc (.cells #[vI s.k, vI s.c, vU s.a] 32) = y1 := h4
        rw [h5] at P1 hbx
        clear h4 h5 hrow P
        obtain ⟨c0, c1, c2⟩ := hbx.cells
        go_upto_region 11 with (go_at_call 18; refine (pick_c s.c 2 _ hwf.c (by decide) (by decide)).mono ?_; rintro e w' ⟨rfl, rfl⟩; dsimp only; rw [hc.out])
        by_cases k1 : s.k = 1
        · rw [k1] at c0
          have hm2 : mkAt (markS 3 ms c s.a) 0 = ofV addr := by rw [mark_at hB (by decide) hl8 _ (by decide), if_neg hc0]; exact hm
          go_upto_region 27 with (go_at_call 10; refine (mark_m P1 c s.a hAs).mono ?_; rintro e y2 ⟨rfl, P2, S2⟩; dsimp only)
          generalize markS 3 ms c s.a = ns at P2 hm2
          have hmk : markedP 3 ns 0 = (addr / 64 * 64, true) := by rw [markedP, h03, if_pos rfl, hm2]; rfl
          go_wp2_with (go_at_call 17; refine (marked_m P2 0).mono ?_; rintro e z9 ⟨rfl, P9, S9⟩; dsimp only; rw [hmk, h03, errT])
          go_roundw
          case rel => exact ⟨i + 1, by omega, by omega, by go_num, _, P9, hm2⟩
          case measure => simp [intOf]; omega
        · by_cases k2 : s.k = 2
          · rw [k2] at c0
            have hm2 : mkAt (clearS 3 ms c) 0 = ofV addr := by rw [clear_at hB (by decide) hl8 (by decide), if_neg hc0]; exact hm
            go_upto_region 27 with (go_at_call 12; refine (clear_m P1 c).mono ?_; rintro e y2 ⟨rfl, P2, S2⟩; dsimp only)
            generalize clearS 3 ms c = ns at P2 hm2
            have hmk : markedP 3 ns 0 = (addr / 64 * 64, true) := by rw [markedP, h03, if_pos rfl, hm2]; rfl
            go_wp2_with (go_at_call 17; refine (marked_m P2 0).mono ?_; rintro e z9 ⟨rfl, P9, S9⟩; dsimp only; rw [hmk, h03, errT])
            go_roundw
            case rel => exact ⟨i + 1, by omega, by omega, by go_num, _, P9, hm2⟩
            case measure => simp [intOf]; omega
          · by_cases k3 : s.k = 3
            · rw [k3] at c0
              by_cases hsame : s.a / 64 = addr / 64
              · have hs' : (s.a / 64 != addr / 64) = false := by simpa using hsame
                have hm3 : mkAt (wroteS 3 ms 0 s.a) 0 = ofV addr := by rw [wrote_at h03 hl8 _ (by decide) (by decide), if_neg (fun h => h.1 rfl)]; exact hm
                go_upto_region 27 with (go_at_call 13; refine (wrote_m P1 0 s.a hAs).mono ?_; rintro e y5 ⟨va, vc, rfl, P5, S5, R5⟩; dsimp only; generalize (wroteL 3 ms 0 s.a).length = n5)
                generalize wroteS 3 ms 0 s.a = qs at P5 hm3
                clear R5
                have hmk : markedP 3 qs 0 = (addr / 64 * 64, true) := by rw [markedP, h03, if_pos rfl, hm3]; rfl
                go_wp2_with (go_at_call 17; refine (marked_m P5 0).mono ?_; rintro e z9 ⟨rfl, P9, S9⟩; dsimp only; rw [hmk, h03, errT])
                go_roundw
                case rel => exact ⟨i + 1, by omega, by omega, by go_num, _, P9, hm3⟩
                case measure => simp [intOf]; omega
              · have hs' : (s.a / 64 != addr / 64) = true := by simpa using hsame
                have hm2 : mkAt (wroteS 3 ms c s.a) 0 = ofV addr := by
                  rw [wrote_at hB hl8 _ (by decide) (by decide), if_neg (fun h => hsame (by have := h.2; rw [hm] at this; exact (of_inj.1 this).symm))]; exact hm
                have hno : ∀ x ∈ wroteL 3 ms c s.a, x ≠ 0 := fun x hx e => by
                  obtain ⟨_, _, _, h⟩ := wrote_mem hB hl8 _ hx
                  rw [e, hm] at h
                  exact hsame (of_inj.1 h).symm
                have hx8 := lst_len ms c (ofV s.a) 8
                have hx9 : (wroteL 3 ms c s.a).length ≤ 8 := by rw [wroteL, hB, if_pos rfl]; exact hx8
                clear hx8
                go_upto_region 19 with (go_at_call 13; refine (wrote_m P1 c s.a hAs).mono ?_; rintro e y2 ⟨la, lc, rfl, P2, S2, R2⟩; dsimp only; rw [hB, errT])
                have hbx2 : Box3 ob s y2 := ⟨S2.get hbx.at_ hog⟩
                generalize wroteS 3 ms c s.a = ns at P2 hm2
                generalize wroteL 3 ms c s.a = L at R2 hno hx9 ⊢
                clear P1 S2 c0 c1 c2 hbx
                obtain ⟨c0, c1, c2⟩ := hbx2.cells
                go_wp2
                go_loopw [13] (fun s13 wq => ∃ j : Nat, j ≤ L.length ∧ s13 = .int .i64 j ∧ Hid (wq = y2)) (fun s13 _ => L.length - (intOf s13).toNat)
                case atStart => exact ⟨0, Nat.zero_le _, rfl, rfl⟩
                case round =>
                  obtain ⟨j, hj, rfl, hq⟩ := hrel
                  obtain rfl := hq.out
                  clear hq
                  by_cases hjl : (j : Int) < L.length
                  · have hj0 : (0 : Int) ≤ j := by omega
                    obtain ⟨lb, lcap, le, _, _, _, hlc, _⟩ := own_addr R2 (by omega)
                    have hxj : L[j]? = some L[j] := List.getElem?_eq_getElem (by omega)
                    have hne := hno _ (List.mem_of_getElem? hxj)
                    have zj := hlc j (by omega)
                    rw [List.getElem?_map, hxj] at zj
                    generalize L[j] = xj at zj hne hxj
                    have zj' : World.cell? _ ⟨lb, j, none⟩ = some (vI xj) := zj
                    simp only [Value.slice.injEq] at le
                    obtain ⟨rfl, -, rfl⟩ := le
                    have hne' : (xj == 0) = false := by simpa using hne
                    clear hlc zj hxj
                    go_wp2
                    go_roundw
                    case rel => exact ⟨j + 1, by omega, by go_num, by first | exact rfl | exact trivial⟩
                    case measure => simp [intOf]; omega
                  · obtain rfl : j = L.length := by omega
                    have hl8' := P2.at_.len
                    have hm3 : mkAt (wroteS 3 ns 0 s.a) 0 = ofV addr := by rw [wrote_at h03 hl8' _ (by decide) (by decide), if_neg (fun h => h.1 rfl)]; exact hm2
                    go_upto_region 27 with (go_at_call 13; refine (wrote_m P2 0 s.a hAs).mono ?_; rintro e y5 ⟨va, vc, rfl, P5, S5, R5⟩; dsimp only; generalize (wroteL 3 ns 0 s.a).length = n5)
                    generalize wroteS 3 ns 0 s.a = qs at P5 hm3
                    clear R5
                    have hmk : markedP 3 qs 0 = (addr / 64 * 64, true) := by rw [markedP, h03, if_pos rfl, hm3]; rfl
                    go_wp2_with (go_at_call 17; refine (marked_m P5 0).mono ?_; rintro e z9 ⟨rfl, P9, S9⟩; dsimp only; rw [hmk, h03, errT])
                    go_roundw
                    case rel => exact ⟨i + 1, by omega, by omega, by go_num, _, P9, hm3⟩
                    case measure => simp [intOf]; omega
            · by_cases k4 : s.k = 4
              · rw [k4] at c0
                have hm2 : mkAt (clearS 3 ms c) 0 = ofV addr := by rw [clear_at hB (by decide) hl8 (by decide), if_neg hc0]; exact hm
                go_upto_region 27 with (go_at_call 15; refine (take_m P1 c s.a hAs).mono ?_; rintro e y2 ⟨rfl, P2, S2⟩; dsimp only)
                generalize clearS 3 ms c = ns at P2 hm2
                have hmk : markedP 3 ns 0 = (addr / 64 * 64, true) := by rw [markedP, h03, if_pos rfl, hm2]; rfl
                go_wp2_with (go_at_call 17; refine (marked_m P2 0).mono ?_; rintro e z9 ⟨rfl, P9, S9⟩; dsimp only; rw [hmk, h03, errT])
                go_roundw
                case rel => exact ⟨i + 1, by omega, by omega, by go_num, _, P9, hm2⟩
                case measure => simp [intOf]; omega
              · have k1' : (s.k == 1) = false := by simpa using k1
                have k2' : (s.k == 2) = false := by simpa using k2
                have k3' : (s.k == 3) = false := by simpa using k3
                have k4' : (s.k == 4) = false := by simpa using k4
                go_upto_region 27 with fail
                have hmk : markedP 3 ms 0 = (addr / 64 * 64, true) := by rw [markedP, h03, if_pos rfl, hm]; rfl
                go_wp2_with (go_at_call 17; refine (marked_m P1 0).mono ?_; rintro e z9 ⟨rfl, P9, S9⟩; dsimp only; rw [hmk, h03, errT])
                go_roundw
                case rel => exact ⟨i + 1, by omega, by omega, by go_num, _, P9, hm⟩
                case measure => simp [intOf]; omega
      · have hi100 : i = 100 := by omega
        go_wp2
        go_ret
        exact ⟨rfl, below_then hb1 (Nat.le_refl _) P.below⟩
    · go_wp2
      go_ret
      exact ⟨rfl, below_then hb1 (Nat.le_refl _) P.below⟩
end Go.Proofs.Ytgloemlbkkjcaaa
