/- MonitorHolds' walk. -/
import Derived.Test.YtgloemlbkkjcaaaAp
namespace Go.Proofs.Ytgloemlbkkjcaaa
open Go.RowKit
set_option linter.unusedVariables false
set_option linter.unusedSimpArgs false

set_option maxRecDepth 8000 in
set_option maxHeartbeats 1500000 in
theorem holds_walk (addr : Int) (v : Value) (ss : List St3) (core : Int) (w : World) (hA : U64 addr) (R : Scr w v ss) (hcore : I64 core) : Calls Try.prog 4 #[vU addr, v, vI core] w fun e w' => e = .returned (.bool true) ∧ Below w.heap.size w w' := by
  obtain ⟨ao, cap, ev⟩ := R.len
  have hmx := R.max
  simp only [maxLen] at hmx
  have a0 := hA.1
  have a1 := hA.2
  obtain ⟨q0, q1⟩ := pick_in core (n := 4) (by decide)
  generalize hcc : pickV core 4 = c at q0 q1
  have hBc : hasB 4 c = true := hasB_iff.2 ⟨q0, q1⟩
  have t2 : addr.tdiv 64 = addr / 64 := Int.tdiv_eq_ediv_of_nonneg a0
  have t4 : IntKind.u64.wrap (addr / 64) = addr / 64 := by rw [IntKind.wrap_u64]; omega
  replace hcc := show Hid _ from hcc
  go_enter Try.func4, Try.ntmps4
  go_wp2_with (first | (go_at_call 7; refine (known_c _).mono ?_; rintro e x1 ⟨rfl, hb1⟩; dsimp only) | (go_at_call 8; refine (new_m 4 _ (by decide)).mono ?_; rintro e x2 ⟨rfl, H0⟩; dsimp only; generalize x1.heap.size = g at H0 ⊢) | (go_at_call 18; refine (pick_c core 4 _ hcore (by decide) (by decide)).mono ?_; rintro e x' ⟨rfl, rfl⟩; dsimp only; rw [hcc.out]) | (go_at_call 10; refine (mark_m H0 c addr hA).mono ?_; rintro e x3 ⟨rfl, H, -⟩; dsimp only; rw [hBc, errT]))
  have hst : mkAt (markS 4 nilM c addr) c = if true = true then ofV addr else (false, 0) := by rw [mark_at hBc (by decide) rfl _ q0, if_pos rfl]; rfl
  generalize markS 4 nilM c addr = m0 at H hst
  have R' := R.grow hb1
  clear R H0
  go_loopw [11, 12] (fun s11 s12 wr => ∃ i : Nat, i ≤ ss.length ∧ i ≤ 100 ∧ s12 = .int .i64 i ∧ ∃ hb : Bool, s11 = .bool hb ∧ Hid (∃ ms, LM x1 g 4 ms wr ∧ mkAt ms c = if hb = true then ofV addr else (false, 0))) (fun _ s12 _ => 100 - (intOf s12).toNat)
  case atStart => exact ⟨0, Nat.zero_le _, Nat.zero_le _, rfl, true, rfl, m0, H, hst⟩
  case round =>
    obtain ⟨i, hi1, hi2, rfl, hb, rfl, hH⟩ := hrel
    obtain ⟨ms, P, hm⟩ := hH.out
    clear hH hst H
    by_cases hlt : (i : Int) < ss.length
    · by_cases h100 : (i : Int) < 100
      · obtain ⟨ra, rc, e2, hrc⟩ := R'.cell (by omega)
        have hx : ss[i]? = some ss[i] := List.getElem?_eq_getElem (by omega)
        have hwf := R'.wf ss[i] (List.getElem_mem (by omega))
        have hcl := hrc i _ hx
        generalize ss[i] = s at hx hwf hcl
        clear hx hrc
        have hrow : ∀ (j : Nat) x, s.row[j]? = some x → wr.cell? ((ra.add (i * 3)).add j) = some x := fun j x hx => by
          obtain ⟨h1, h2⟩ := hcl j x hx
          rw [P.below.cell h1]; exact h2
        clear hcl
        subst e2
        have hi0 : (0 : Int) ≤ i := by omega
        obtain ⟨p0, p1⟩ := pick_in s.c (n := 4) (by decide)
        generalize hc : pickV s.c 4 = d at p0 p1
        have hB : hasB 4 d = true := hasB_iff.2 ⟨p0, p1⟩
        replace hc := show Hid _ from hc
        have hl8 := P.at_.len
        have hAs := hwf.a
        have s0 := hAs.1
        have s1 := hAs.2
        have u2 : s.a.tdiv 64 = s.a / 64 := Int.tdiv_eq_ediv_of_nonneg s0
        have u4 : IntKind.u64.wrap (s.a / 64) = s.a / 64 := by rw [IntKind.wrap_u64]; omega
        go_upto_region 12 with ((with_reducible refine wpList_load32 rfl _ rfl _ rfl s hrow ?_); simp only [Act.put, List.setIfInBounds_toArray, List.set_cons_succ, List.set_cons_zero])
        have P1 := P.grow (below_alloc wr (.cells #[vI s.k, vI s.c, vU s.a] 32))
        have hbx : Box3 wr.heap.size s (wr.alloc (.cells #[vI s.k, vI s.c, vU s.a] 32)) := ⟨heap_alloc_new _ _⟩
        have hog : wr.heap.size ≠ g := by have := P.at_.lt; omega
        generalize wr.heap.size = ob at hbx hog ⊢
        generalize h4 : World.alloc wr _ = y1
        have h5 : wr.alloc (.cells #[vI s.k, vI s.c, vU s.a] 32) = y1 := h4
        rw [h5] at P1 hbx
        clear h4 h5 hrow P
        obtain ⟨c0, c1, c2⟩ := hbx.cells
        go_upto_region 13 with (go_at_call 18; refine (pick_c s.c 4 _ hwf.c (by decide) (by decide)).mono ?_; rintro e w' ⟨rfl, rfl⟩; dsimp only; rw [hc.out])
        by_cases k1 : s.k = 1
        · rw [k1] at c0
          have v1 : d.tmod 3 = d % 3 := Int.tmod_eq_emod_of_nonneg p0
          have v2 : IntKind.i64.wrap (c + 1) = c + 1 := by rw [IntKind.wrap_i64]; omega
          have v3 : IntKind.i64.wrap (d % 3) = d % 3 := by rw [IntKind.wrap_i64]; omega
          have v4 : IntKind.i64.wrap (c + 1 + d % 3) = c + 1 + d % 3 := by rw [IntKind.wrap_i64]; omega
          have v5 : (c + 1 + d % 3).tmod 4 = (c + 1 + d % 3) % 4 := Int.tmod_eq_emod_of_nonneg (by omega)
          obtain ⟨f, hf⟩ : ∃ f, f = (c + 1 + d % 3) % 4 := ⟨_, rfl⟩
          have v6 : IntKind.i64.wrap ((c + 1 + d % 3) % 4) = f := by rw [IntKind.wrap_i64]; omega
          have hBf : hasB 4 f = true := hasB_iff.2 ⟨by omega, by omega⟩
          have hcf : ¬ c = f := by omega
          rw [← hf] at v5
          replace hf := show Hid _ from hf
          have hm2 : mkAt (markS 4 ms f s.a) c = if hb = true then ofV addr else (false, 0) := by rw [mark_at hBf (by decide) hl8 _ q0, if_neg hcf]; exact hm
          go_wp2_with (go_at_call 10; refine (mark_m P1 f s.a hAs).mono ?_; rintro e y2 ⟨rfl, P2, -⟩; dsimp only)
          go_roundw
          case rel => exact ⟨i + 1, by omega, by omega, by go_num, hb, rfl, _, P2, hm2⟩
          case measure => simp [intOf]; omega
        · by_cases k2 : s.k = 2
          · rw [k2] at c0
            by_cases hdc : d = c
            · have hdc' : (d == c) = true := by simpa using hdc
              have hm2 : mkAt (clearS 4 ms d) c = if false = true then ofV addr else (false, 0) := by rw [clear_at hB (by decide) hl8 q0, if_pos hdc.symm]; rfl
              replace hdc := show Hid _ from hdc
              go_wp2_with (go_at_call 12; refine (clear_m P1 d).mono ?_; rintro e y2 ⟨rfl, P2, -⟩; dsimp only)
              go_roundw
              case rel => exact ⟨i + 1, by omega, by omega, by go_num, false, rfl, _, P2, hm2⟩
              case measure => simp [intOf]; omega
            · have hdc' : (d == c) = false := by simpa using hdc
              have hm2 : mkAt (clearS 4 ms d) c = if hb = true then ofV addr else (false, 0) := by rw [clear_at hB (by decide) hl8 q0, if_neg (fun e => hdc e.symm)]; exact hm
              go_wp2_with (go_at_call 12; refine (clear_m P1 d).mono ?_; rintro e y2 ⟨rfl, P2, -⟩; dsimp only)
              go_roundw
              case rel => exact ⟨i + 1, by omega, by omega, by go_num, hb, rfl, _, P2, hm2⟩
              case measure => simp [intOf]; omega
          · by_cases k3 : s.k = 3
            · rw [k3] at c0
              by_cases hdc : d = c
              · have hdc' : (d != c) = false := by simpa using hdc
                have hm2 : mkAt (wroteS 4 ms d s.a) c = if hb = true then ofV addr else (false, 0) := by rw [wrote_at hB hl8 _ q0 (by omega), if_neg (fun h => h.1 hdc.symm)]; exact hm
                replace hdc := show Hid _ from hdc
                go_wp2_with (go_at_call 13; refine (wrote_m P1 d s.a hAs).mono ?_; rintro e y2 ⟨la, lc, rfl, P2, -, -⟩; dsimp only)
                go_roundw
                case rel => exact ⟨i + 1, by omega, by omega, by go_num, hb, rfl, _, P2, hm2⟩
                case measure => simp [intOf]; omega
              · have hdc' : (d != c) = true := by simpa using hdc
                by_cases hsame : s.a / 64 = addr / 64
                · have hs' : (s.a / 64 == addr / 64) = true := by simpa using hsame
                  have hm2 : mkAt (wroteS 4 ms d s.a) c = if false = true then ofV addr else (false, 0) := by
                    rw [wrote_at hB hl8 _ q0 (by omega)]
                    cases hb
                    · rw [if_neg (fun h => absurd (hm.symm.trans h.2).symm (of_ne_nil _))]; exact hm
                    · rw [if_pos ⟨fun e => hdc e.symm, hm.trans (of_inj.2 hsame.symm)⟩]; rfl
                  go_wp2_with (go_at_call 13; refine (wrote_m P1 d s.a hAs).mono ?_; rintro e y2 ⟨la, lc, rfl, P2, -, -⟩; dsimp only)
                  go_roundw
                  case rel => exact ⟨i + 1, by omega, by omega, by go_num, false, rfl, _, P2, hm2⟩
                  case measure => simp [intOf]; omega
                · have hs' : (s.a / 64 == addr / 64) = false := by simpa using hsame
                  have hm2 : mkAt (wroteS 4 ms d s.a) c = if hb = true then ofV addr else (false, 0) := by
                    rw [wrote_at hB hl8 _ q0 (by omega)]
                    cases hb
                    · rw [if_neg (fun h => absurd (hm.symm.trans h.2).symm (of_ne_nil _))]; exact hm
                    · rw [if_neg (fun h => hsame (of_inj.1 (hm.symm.trans h.2)).symm)]; exact hm
                  go_wp2_with (go_at_call 13; refine (wrote_m P1 d s.a hAs).mono ?_; rintro e y2 ⟨la, lc, rfl, P2, -, -⟩; dsimp only)
                  go_roundw
                  case rel => exact ⟨i + 1, by omega, by omega, by go_num, hb, rfl, _, P2, hm2⟩
                  case measure => simp [intOf]; omega
            · by_cases k4 : s.k = 4
              · rw [k4] at c0
                by_cases hdc : d = c
                · have hdc' : (d == c) = true := by simpa using hdc
                  have hm2 : mkAt (clearS 4 ms d) c = if false = true then ofV addr else (false, 0) := by rw [clear_at hB (by decide) hl8 q0, if_pos hdc.symm]; rfl
                  replace hdc := show Hid _ from hdc
                  go_wp2_with (go_at_call 15; refine (take_m P1 d s.a hAs).mono ?_; rintro e y2 ⟨rfl, P2, -⟩; dsimp only)
                  go_roundw
                  case rel => exact ⟨i + 1, by omega, by omega, by go_num, false, rfl, _, P2, hm2⟩
                  case measure => simp [intOf]; omega
                · have hdc' : (d == c) = false := by simpa using hdc
                  have hm2 : mkAt (clearS 4 ms d) c = if hb = true then ofV addr else (false, 0) := by rw [clear_at hB (by decide) hl8 q0, if_neg (fun e => hdc e.symm)]; exact hm
                  go_wp2_with (go_at_call 15; refine (take_m P1 d s.a hAs).mono ?_; rintro e y2 ⟨rfl, P2, -⟩; dsimp only)
                  go_roundw
                  case rel => exact ⟨i + 1, by omega, by omega, by go_num, hb, rfl, _, P2, hm2⟩
                  case measure => simp [intOf]; omega
              · have k1' : (s.k == 1) = false := by simpa using k1
                have k2' : (s.k == 2) = false := by simpa using k2
                have k3' : (s.k == 3) = false := by simpa using k3
                have k4' : (s.k == 4) = false := by simpa using k4
                go_wp2_with (fail)
                go_roundw
                case rel => exact ⟨i + 1, by omega, by omega, by go_num, hb, rfl, _, P1, hm⟩
                case measure => simp [intOf]; omega
      · have hi100 : i = 100 := by omega
        have hl8 := P.at_.len
        have hT : takeB 4 ms c addr = hb := by
          cases hb
          · cases h : takeB 4 ms c addr
            · rfl
            · exact absurd (hm.symm.trans ((take_iff hBc).1 h)).symm (of_ne_nil _)
          · exact (take_iff hBc).2 hm
        have hT2 : takeB 4 (clearS 4 ms c) c addr = false := by
          cases h : takeB 4 (clearS 4 ms c) c addr
          · rfl
          · have := (take_iff hBc).1 h
            rw [clear_at hBc (by decide) hl8 q0, if_pos rfl] at this
            exact absurd this.symm (of_ne_nil _)
        cases hb
        · go_wp2_with (first | (go_at_call 15; refine (take_m P9 c addr hA).mono ?_; rintro e z2 ⟨rfl, P8, -⟩; dsimp only; rw [hT2, hBc, errT]) | (go_at_call 15; refine (take_m P c addr hA).mono ?_; rintro e z1 ⟨rfl, P9, -⟩; dsimp only; rw [hT, hBc, errT]))
          go_ret
          exact ⟨rfl, below_then hb1 (Nat.le_refl _) P8.below⟩
        · go_wp2_with (first | (go_at_call 15; refine (take_m P9 c addr hA).mono ?_; rintro e z2 ⟨rfl, P8, -⟩; dsimp only; rw [hT2, hBc, errT]) | (go_at_call 15; refine (take_m P c addr hA).mono ?_; rintro e z1 ⟨rfl, P9, -⟩; dsimp only; rw [hT, hBc, errT]))
          go_ret
          exact ⟨rfl, below_then hb1 (Nat.le_refl _) P8.below⟩
    · have hl8 := P.at_.len
      have hT : takeB 4 ms c addr = hb := by
        cases hb
        · cases h : takeB 4 ms c addr
          · rfl
          · exact absurd (hm.symm.trans ((take_iff hBc).1 h)).symm (of_ne_nil _)
        · exact (take_iff hBc).2 hm
      have hT2 : takeB 4 (clearS 4 ms c) c addr = false := by
        cases h : takeB 4 (clearS 4 ms c) c addr
        · rfl
        · have := (take_iff hBc).1 h
          rw [clear_at hBc (by decide) hl8 q0, if_pos rfl] at this
          exact absurd this.symm (of_ne_nil _)
      cases hb
      · go_wp2_with (first | (go_at_call 15; refine (take_m P9 c addr hA).mono ?_; rintro e z2 ⟨rfl, P8, -⟩; dsimp only; rw [hT2, hBc, errT]) | (go_at_call 15; refine (take_m P c addr hA).mono ?_; rintro e z1 ⟨rfl, P9, -⟩; dsimp only; rw [hT, hBc, errT]))
        go_ret
        exact ⟨rfl, below_then hb1 (Nat.le_refl _) P8.below⟩
      · go_wp2_with (first | (go_at_call 15; refine (take_m P9 c addr hA).mono ?_; rintro e z2 ⟨rfl, P8, -⟩; dsimp only; rw [hT2, hBc, errT]) | (go_at_call 15; refine (take_m P c addr hA).mono ?_; rintro e z1 ⟨rfl, P9, -⟩; dsimp only; rw [hT, hBc, errT]))
        go_ret
        exact ⟨rfl, below_then hb1 (Nat.le_refl _) P8.below⟩
end Go.Proofs.Ytgloemlbkkjcaaa
