/- MemTells' walk. -/
import Derived.Test.YtjkjbcnafpljoabTq
namespace Go.Proofs.Ytjkjbcnafpljoab
open Go.RowKit
set_option linter.unusedVariables false
set_option linter.unusedSimpArgs false

set_option maxRecDepth 8000 in
set_option maxHeartbeats 20000000 in
theorem memTells_walk (v : Value) (zs : List Int) (depth : Int) (w : World) (R : Raw w v zs) (hdep : I64 depth) : Calls Try.prog 4 #[v, vI depth] w fun e w' => e = .returned (.bool true) ∧ Below w.heap.size w w' := by
  obtain ⟨p0, p1⟩ := pick_in depth (n := 6) (by decide)
  generalize hc : pickV depth 6 = d at p0 p1
  have hB : newB ((4 : Nat) : Int) ((3 : Nat) : Int) (1 + d) = true := by simp only [newB, Bool.and_eq_true, decide_eq_true_eq]; omega
  have I0 : TI (newS 4 3 (1 + d)) [] := ⟨all_new hB, tel_new _ _ _, rfl, rfl⟩
  have w1 : IntKind.i64.wrap (1 + d) = 1 + d := by rw [IntKind.wrap_i64]; omega
  obtain ⟨ao, cap, ev⟩ := R.len
  have hmx := R.max
  simp only [maxLen] at hmx
  replace hc := show Hid _ from hc
  go_enter Try.func4, Try.ntmps4
  go_upto_region 6 with (first | (go_at_call 5; refine (known_c _).mono ?_; rintro e x1 ⟨rfl, hb1⟩; dsimp only) | (go_at_call 11; refine (pick_c depth 6 _ hdep (by decide) (by decide)).mono ?_; rintro e x' ⟨rfl, rfl⟩; dsimp only; rw [hc.out]) | (go_at_call 12; refine (made_c (1 + d) _ (by omega) (by omega)).mono ?_; rintro e x2 ⟨g, rfl, H⟩; dsimp only))
  have hst : TL x' g (newS 4 3 (1 + d)) (.slice none 0 0) [] x2 := ⟨(lx_of H).less (fun b hb => by simp [Value.ownBlock] at hb), World.ownsRow_nil _ _ _ _⟩
  generalize newS 4 3 (1 + d) = S0 at hst I0
  clear H hB w1
  have R' := R.grow hb1
  clear R
  go_wp2
  go_loopw [8, 9] (fun s8 s9 wr => ∃ i : Nat, i ≤ zs.length ∧ i ≤ 150 ∧ s9 = .int .i64 i ∧ ∃ aa n ac, n ≤ i ∧ s8 = .slice aa n ac ∧ Hid (∃ S ad, ad.length = n ∧ TI S ad ∧ TL x' g S (.slice aa n ac) ad wr)) (fun _ s9 _ => 150 - (intOf s9).toNat)
  case atStart => exact ⟨0, Nat.zero_le _, Nat.zero_le _, rfl, none, 0, 0, Nat.le_refl _, rfl, S0, [], rfl, I0, hst⟩
  case round =>
    obtain ⟨i, hi1, hi2, rfl, aa, n, ac, hni, rfl, hH⟩ := hrel
    obtain ⟨S, ad, hn, I, A⟩ := hH.out
    clear hH hst I0
    have O := I.all.ok
    have hsS : S.stamps.length < 1000000 := by rw [I.tel.len]; omega
    by_cases hlt : (i : Int) < zs.length
    · by_cases h150 : (i : Int) < 150
      · have hi3 : i < zs.length := by omega
        obtain ⟨ra, rc, e2, hrc⟩ := R'.cell (by omega)
        have hx : zs[i]? = some zs[i] := List.getElem?_eq_getElem hi3
        have hwf := R'.wf zs[i] (List.getElem_mem hi3)
        obtain ⟨hrb, z⟩ := hrc i _ hx
        generalize zs[i] = x at hx hwf z
        clear hrc
        rw [← A.mem.below.cell (p := ra.add i) hrb] at z
        subst e2
        have hi0 : (0 : Int) ≤ i := by omega
        obtain ⟨p0, p1⟩ := pick_in x (n := 36) (by decide)
        generalize hpn : pickV x 36 = r at p0 p1
        have t1 : r.tmod 3 = r % 3 := Int.tmod_eq_emod_of_nonneg p0
        have t2 : r.tdiv 3 = r / 3 := Int.tdiv_eq_ediv_of_nonneg p0
        have t3 : (r / 3).tmod 4 = r / 3 % 4 := Int.tmod_eq_emod_of_nonneg (by omega)
        have t4 : r.tdiv 12 = r / 12 := Int.tdiv_eq_ediv_of_nonneg p0
        obtain ⟨c, hc⟩ : ∃ c, c = r % 3 := ⟨_, rfl⟩
        obtain ⟨q, hq⟩ : ∃ q, q = r / 12 := ⟨_, rfl⟩
        obtain ⟨k, hk⟩ : ∃ k, k = r / 3 % 4 := ⟨_, rfl⟩
        have hc0 : 0 ≤ c := by omega
        have hc1 : c < 3 := by omega
        have hq0 : 0 ≤ q := by omega
        have hq1 : q < 3 := by omega
        have hk0 : 0 ≤ k := by omega
        have hk1 : k < 4 := by omega
        have hm0 : 0 ≤ r / 3 := by omega
        have hm1 : r / 3 < 12 := by omega
        rw [← hc] at t1
        rw [← hk] at t3
        rw [← hq] at t4
        have w1 : IntKind.i64.wrap c = c := by rw [IntKind.wrap_i64]; omega
        have w2 : IntKind.i64.wrap q = q := by rw [IntKind.wrap_i64]; omega
        have w3 : IntKind.i64.wrap k = k := by rw [IntKind.wrap_i64]; omega
        have w4 : IntKind.i64.wrap (r / 3) = r / 3 := by rw [IntKind.wrap_i64]; omega
        have w5 : IntKind.i64.wrap (8 * q) = 8 * q := by rw [IntKind.wrap_i64]; omega
        have w6 : IntKind.u64.wrap (8 * q) = 8 * q := by rw [IntKind.wrap_u64]; omega
        have w7 : IntKind.i64.wrap (1000 + (n : Int)) = 1000 + (n : Int) := by rw [IntKind.wrap_i64]; omega
        have w8 : IntKind.i64.wrap (1000 + (n : Int) + 1) = 1000 + (n : Int) + 1 := by rw [IntKind.wrap_i64]; omega
        have w9 : IntKind.u64.wrap (1000 + (n : Int) + 1) = 1000 + (n : Int) + 1 := by rw [IntKind.wrap_u64]; omega
        have hA : U64 (8 * q) := ⟨by omega, by omega⟩
        have hcb := I.core hc0 hc1
        have hwb := I.word hq0 (by omega)
        obtain ⟨m, hm⟩ : ∃ m : Nat, (m : Int) = i % 4 := ⟨i % 4, by omega⟩
        have hm4 : (m : Int) < 4 := by omega
        have hmm : (0 : Int) ≤ m := by omega
        have u1 : (i : Int).tmod 4 = m := by rw [Int.tmod_eq_emod_of_nonneg hi0, hm]
        have u2 : IntKind.i64.wrap (m : Int) = m := by rw [IntKind.wrap_i64]; omega
        have u3 : IntKind.i64.wrap (8 * (m : Int)) = 8 * (m : Int) := by rw [IntKind.wrap_i64]; omega
        have u4 : IntKind.u64.wrap (8 * (m : Int)) = 8 * (m : Int) := by rw [IntKind.wrap_u64]; omega
        have hAm : U64 (8 * (m : Int)) := ⟨by omega, by omega⟩
        replace hpn := show Hid _ from hpn
        replace hc := show Hid _ from hc
        replace hq := show Hid _ from hq
        replace hk := show Hid _ from hk
        replace hx := show Hid _ from hx
        replace hm := show Hid _ from hm
        by_cases hk3 : k = 3
        · go_upto_region 19 with (first | (go_at_call 11; refine (pick_c x 36 _ hwf (by decide) (by decide)).mono ?_; rintro e w' ⟨rfl, rfl⟩; dsimp only; rw [hpn.out]) | (go_at_call 13; refine (drain_t A O c hsS).mono ?_; rintro e y1 ⟨rfl, P⟩; dsimp only))
          have J := I.drain c
          generalize drainS S c = T at P J
          clear A
          have OT := J.all.ok
          have hlenT : ad.length = n := hn
          have hsT : T.stamps.length < 1000000 := by rw [J.tel.len, hlenT]; omega
          go_wp2
          go_loopw [14] (fun s14 wr => ∃ o : Nat, o ≤ 3 ∧ s14 = .int .i64 o ∧ Hid (TL x' g T (.slice aa n ac) ad wr)) (fun s14 _ => 3 - (intOf s14).toNat)
          case atStart => exact ⟨0, by omega, rfl, P⟩
          case round =>
            obtain ⟨o, ho1, rfl, hH⟩ := hrel
            have P2 := hH.out
            clear hH P
            by_cases ho : (o : Int) < 3
            · have hcT := J.core (c := o) (by omega) ho
              have hwT := J.word hmm hm4
              have hok : okB T o (8 * m) = true := by rw [okB, hcT, hwT]; rfl
              have hT := tel_load OT J.tel hcT (by rw [J.w]; omega) hwT
              have hhl : heldL T o = bufOf T o := by rw [heldL, hcT]; rfl
              have hbm := List.mem_of_getElem? (core_buf hcT)
              go_upto_region 24 with (go_at_call 9; refine (load_t P2 OT o (8 * m) hAm).mono ?_; rintro e y3 ⟨rfl, P3⟩; dsimp only; rw [hok, show argE true = 0 from rfl])
              generalize (loadP T o (8 * m)).1 = lv at hT ⊢
              generalize (loadP T o (8 * m)).2 = lt at hT ⊢
              clear P2
              rcases hT with ⟨rfl, rfl⟩ | ⟨h1, h2, h3, h4⟩
              · go_upto_region 27 with (go_at_call 14; refine (heldt P3 OT o).mono ?_; rintro e y4 ⟨ha, hcp, rfl, P4⟩; dsimp only; rw [hhl] at P4 ⊢)
                have hfact : ∀ s ∈ bufOf T o, 1 ≤ s.t ∧ s.t ≤ (n : Nat) ∧ stampV T s.t = 0 ∧ ad[(s.t - 1).toNat]? = some s.a := fun s hs => by
                  obtain ⟨_, k1, k2⟩ := OT.held _ hbm s hs
                  have k3 := stamp_at (J.all.bij.zer _ hbm s hs)
                  rw [show (((s.t - 1).toNat : Nat) : Int) + 1 = s.t by omega] at k3
                  exact ⟨k1, by have := J.tel.len; omega, k3, (J.tel.held _ hbm s hs).2⟩
                have hl32 : (bufOf T o).length ≤ 32 := by have k1 := OT.lens _ hbm; have k2 := OT.d2; omega
                clear hbm hhl P3
                generalize bufOf T o = l at P4 hfact hl32 ⊢
                go_wp2
                go_loopw [20] (fun s20 wr => ∃ k : Nat, k ≤ l.length ∧ s20 = .int .i64 k ∧ Hid (TH x' g T (.slice aa n ac) ad (.slice ha l.length hcp) l wr)) (fun s20 _ => l.length - (intOf s20).toNat)
                case atStart => exact ⟨0, Nat.zero_le _, rfl, P4⟩
                case round =>
                  obtain ⟨k, hkl, rfl, hH⟩ := hrel
                  have P5 := hH.out
                  clear hH P4
                  by_cases hkk : (k : Int) < l.length
                  · have hx5 : l[k]? = some l[k] := List.getElem?_eq_getElem (by omega)
                    obtain ⟨f1, f2, f3, f4⟩ := hfact l[k] (List.getElem_mem (by omega))
                    generalize l[k] = s at hx5 f1 f2 f3 f4
                    obtain ⟨y0, y1', y2⟩ := flatL_get hx5
                    obtain ⟨hb, hcq, e5, _, _, _, hl1, _⟩ := own_addr P5.hrow (by omega)
                    have z0 := hl1 (k * 3) (by omega)
                    have z2 := hl1 (k * 3 + 2) (by omega)
                    rw [y0] at z0
                    rw [y2] at z2
                    clear y0 y1' y2 hl1 hx5
                    obtain ⟨sp, hsp⟩ : ∃ sp : Nat, s.t = (sp : Int) + 1 := ⟨(s.t - 1).toNat, by omega⟩
                    rw [hsp] at f1 f2 f3 f4 z2
                    rw [show ((sp : Int) + 1 - 1).toNat = sp by omega] at f4
                    obtain ⟨qb, qcp, e6, _, _, _, hcl6, _⟩ := own_addr P5.row (by omega)
                    have z6 := hcl6 sp (by omega)
                    rw [List.getElem?_map, f4] at z6
                    replace z6 : wr.cell? ⟨qb, sp, none⟩ = some (vU s.a) := z6
                    clear hcl6
                    simp only [Value.slice.injEq] at e5 e6
                    obtain ⟨e5, -, -⟩ := e5
                    obtain ⟨e6, -, -⟩ := e6
                    cases e5
                    cases e6
                    have hk0' : (0 : Int) ≤ k := by omega
                    have s1 : IntKind.i64.wrap ((sp : Int) + 1 - 1) = sp := by rw [IntKind.wrap_i64]; omega
                    have s2 : (0 : Int) ≤ sp := by omega
                    have s3 : (sp : Int) < (n : Nat) := by omega
                    obtain ⟨L5, M5, _⟩ := id P5.mem
                    go_upto_region 30 with fail
                    go_quiet ((first | (go_at_call 15; exact Calls.quiet_of_same (stamp_c g T L5 ((sp : Int) + 1) _ (M5.keep fun _ _ => rfl)))))
                    replace P5 := P5.grow (below_drewN (Below.refl _ _) nq)
                    generalize wr.drewN nq = w9' at P5 ⊢
                    clear z0 z2 z6 M5
                    go_wp2
                    go_roundw
                    case rel => exact ⟨k + 1, by omega, by go_num, P5⟩
                    case measure => simp [intOf]; omega
                  · go_wp2
                    go_roundw
                    case rel => exact ⟨o + 1, by omega, by go_num, P5.tl⟩
                    case measure => simp [intOf]; omega

              · obtain ⟨p, rfl⟩ : ∃ p : Nat, lt = (p : Int) + 1 := ⟨(lt - 1).toNat, by omega⟩
                rw [show ((p : Int) + 1 - 1).toNat = p by omega] at h4
                subst h3
                obtain ⟨ab, acp, ea, _, _, _, hcl, _⟩ := own_addr P3.row (by omega)
                have za := hcl p (by omega)
                rw [List.getElem?_map, h4] at za
                replace za : y3.cell? ⟨ab, p, none⟩ = some (vU (8 * (m : Int))) := za
                clear hcl
                simp only [Value.slice.injEq] at ea
                obtain ⟨ea, -, -⟩ := ea
                cases ea
                have r1 : IntKind.i64.wrap (1000 + ((p : Int) + 1)) = 1000 + ((p : Int) + 1) := by rw [IntKind.wrap_i64]; omega
                have r2 : IntKind.u64.wrap (1000 + ((p : Int) + 1)) = 1000 + ((p : Int) + 1) := by rw [IntKind.wrap_u64]; omega
                have r3 : IntKind.i64.wrap ((p : Int) + 1 - 1) = p := by rw [IntKind.wrap_i64]; omega
                have r4 : (0 : Int) ≤ p := by omega
                have r5 : (p : Int) < (n : Nat) := by omega
                have r6 : ¬ ((n : Nat) : Int) < (p : Int) + 1 := by omega
                have r7 : ¬ (p : Int) + 1 < 0 := by omega
                have r8 : (0 : Int) < (p : Int) + 1 := by omega
                have r9 : (((p : Int) + 1) == 0) = false := by simp; omega
                go_upto_region 26 with fail
                clear za
                go_upto_region 27 with (go_at_call 14; refine (heldt P3 OT o).mono ?_; rintro e y4 ⟨ha, hcp, rfl, P4⟩; dsimp only; rw [hhl] at P4 ⊢)
                have hfact : ∀ s ∈ bufOf T o, 1 ≤ s.t ∧ s.t ≤ (n : Nat) ∧ stampV T s.t = 0 ∧ ad[(s.t - 1).toNat]? = some s.a := fun s hs => by
                  obtain ⟨_, k1, k2⟩ := OT.held _ hbm s hs
                  have k3 := stamp_at (J.all.bij.zer _ hbm s hs)
                  rw [show (((s.t - 1).toNat : Nat) : Int) + 1 = s.t by omega] at k3
                  exact ⟨k1, by have := J.tel.len; omega, k3, (J.tel.held _ hbm s hs).2⟩
                have hl32 : (bufOf T o).length ≤ 32 := by have k1 := OT.lens _ hbm; have k2 := OT.d2; omega
                clear hbm hhl P3
                generalize bufOf T o = l at P4 hfact hl32 ⊢
                go_wp2
                go_loopw [20] (fun s20 wr => ∃ k : Nat, k ≤ l.length ∧ s20 = .int .i64 k ∧ Hid (TH x' g T (.slice (some ⟨ab, 0, none⟩) n ac) ad (.slice ha l.length hcp) l wr)) (fun s20 _ => l.length - (intOf s20).toNat)
                case atStart => exact ⟨0, Nat.zero_le _, rfl, P4⟩
                case round =>
                  obtain ⟨k, hkl, rfl, hH⟩ := hrel
                  have P5 := hH.out
                  clear hH P4
                  by_cases hkk : (k : Int) < l.length
                  · have hx5 : l[k]? = some l[k] := List.getElem?_eq_getElem (by omega)
                    obtain ⟨f1, f2, f3, f4⟩ := hfact l[k] (List.getElem_mem (by omega))
                    generalize l[k] = s at hx5 f1 f2 f3 f4
                    obtain ⟨y0, y1', y2⟩ := flatL_get hx5
                    obtain ⟨hb, hcq, e5, _, _, _, hl1, _⟩ := own_addr P5.hrow (by omega)
                    have z0 := hl1 (k * 3) (by omega)
                    have z2 := hl1 (k * 3 + 2) (by omega)
                    rw [y0] at z0
                    rw [y2] at z2
                    clear y0 y1' y2 hl1 hx5
                    obtain ⟨sp, hsp⟩ : ∃ sp : Nat, s.t = (sp : Int) + 1 := ⟨(s.t - 1).toNat, by omega⟩
                    rw [hsp] at f1 f2 f3 f4 z2
                    rw [show ((sp : Int) + 1 - 1).toNat = sp by omega] at f4
                    obtain ⟨qb, qcp, e6, _, _, _, hcl6, _⟩ := own_addr P5.row (by omega)
                    have z6 := hcl6 sp (by omega)
                    rw [List.getElem?_map, f4] at z6
                    replace z6 : wr.cell? ⟨qb, sp, none⟩ = some (vU s.a) := z6
                    clear hcl6
                    simp only [Value.slice.injEq] at e5 e6
                    obtain ⟨e5, -, -⟩ := e5
                    obtain ⟨e6, -, -⟩ := e6
                    cases e5
                    cases e6
                    have hk0' : (0 : Int) ≤ k := by omega
                    have s1 : IntKind.i64.wrap ((sp : Int) + 1 - 1) = sp := by rw [IntKind.wrap_i64]; omega
                    have s2 : (0 : Int) ≤ sp := by omega
                    have s3 : (sp : Int) < (n : Nat) := by omega
                    obtain ⟨L5, M5, _⟩ := id P5.mem
                    go_upto_region 30 with fail
                    go_quiet ((first | (go_at_call 15; exact Calls.quiet_of_same (stamp_c g T L5 ((sp : Int) + 1) _ (M5.keep fun _ _ => rfl)))))
                    replace P5 := P5.grow (below_drewN (Below.refl _ _) nq)
                    generalize wr.drewN nq = w9' at P5 ⊢
                    clear z0 z2 z6 M5
                    go_wp2
                    go_roundw
                    case rel => exact ⟨k + 1, by omega, by go_num, P5⟩
                    case measure => simp [intOf]; omega
                  · go_wp2
                    go_roundw
                    case rel => exact ⟨o + 1, by omega, by go_num, P5.tl⟩
                    case measure => simp [intOf]; omega
            · go_wp2
              go_roundw
              case rel => exact ⟨i + 1, by omega, by omega, by go_num, aa, n, ac, by omega, rfl, T, ad, hlenT, J, P2⟩
              case measure => simp [intOf]; omega
        · by_cases hd : S.depth ≤ (bufOf S c).length
          · have he : storeE S c (8 * q) = 30 := by rw [storeE, hwb, hcb, if_pos rfl, if_pos rfl, if_pos hd]
            have hsm : storeS S c (8 * q) (1000 + (n : Int) + 1) = S := by rw [storeS, if_neg (by rw [he]; decide)]
            have het : storeT S c (8 * q) = 0 := by rw [storeT, if_neg (by rw [he]; decide)]
            have hk3' : (k == 3) = false := by simpa using hk3
            go_upto_region 19 with (first | (go_at_call 11; refine (pick_c x 36 _ hwf (by decide) (by decide)).mono ?_; rintro e w' ⟨rfl, rfl⟩; dsimp only; rw [hpn.out]) | (go_at_call 8; refine (store_t A O c (8 * q) (1000 + (n : Int) + 1) hA hsS).mono ?_; rintro e y1 ⟨rfl, P1⟩; dsimp only; rw [he, het]))
            try simp only [hk3']
            rw [hsm] at P1
            obtain ⟨T, P, J⟩ : ∃ T, TL x' g T (.slice aa n ac) ad y1 ∧ TI T ad := ⟨S, P1, I⟩
            clear A P1 hsm he het I O hsS hd hcb hwb
            have OT := J.all.ok
            have hlenT : ad.length = n := hn
            have hsT : T.stamps.length < 1000000 := by rw [J.tel.len, hlenT]; omega
            go_wp2
            go_loopw [14] (fun s14 wr => ∃ o : Nat, o ≤ 3 ∧ s14 = .int .i64 o ∧ Hid (TL x' g T (.slice aa n ac) ad wr)) (fun s14 _ => 3 - (intOf s14).toNat)
            case atStart => exact ⟨0, by omega, rfl, P⟩
            case round =>
              obtain ⟨o, ho1, rfl, hH⟩ := hrel
              have P2 := hH.out
              clear hH P
              by_cases ho : (o : Int) < 3
              · have hcT := J.core (c := o) (by omega) ho
                have hwT := J.word hmm hm4
                have hok : okB T o (8 * m) = true := by rw [okB, hcT, hwT]; rfl
                have hT := tel_load OT J.tel hcT (by rw [J.w]; omega) hwT
                have hhl : heldL T o = bufOf T o := by rw [heldL, hcT]; rfl
                have hbm := List.mem_of_getElem? (core_buf hcT)
                go_upto_region 24 with (go_at_call 9; refine (load_t P2 OT o (8 * m) hAm).mono ?_; rintro e y3 ⟨rfl, P3⟩; dsimp only; rw [hok, show argE true = 0 from rfl])
                generalize (loadP T o (8 * m)).1 = lv at hT ⊢
                generalize (loadP T o (8 * m)).2 = lt at hT ⊢
                clear P2
                rcases hT with ⟨rfl, rfl⟩ | ⟨h1, h2, h3, h4⟩
                · go_upto_region 27 with (go_at_call 14; refine (heldt P3 OT o).mono ?_; rintro e y4 ⟨ha, hcp, rfl, P4⟩; dsimp only; rw [hhl] at P4 ⊢)
                  have hfact : ∀ s ∈ bufOf T o, 1 ≤ s.t ∧ s.t ≤ (n : Nat) ∧ stampV T s.t = 0 ∧ ad[(s.t - 1).toNat]? = some s.a := fun s hs => by
                    obtain ⟨_, k1, k2⟩ := OT.held _ hbm s hs
                    have k3 := stamp_at (J.all.bij.zer _ hbm s hs)
                    rw [show (((s.t - 1).toNat : Nat) : Int) + 1 = s.t by omega] at k3
                    exact ⟨k1, by have := J.tel.len; omega, k3, (J.tel.held _ hbm s hs).2⟩
                  have hl32 : (bufOf T o).length ≤ 32 := by have k1 := OT.lens _ hbm; have k2 := OT.d2; omega
                  clear hbm hhl P3
                  generalize bufOf T o = l at P4 hfact hl32 ⊢
                  go_wp2
                  go_loopw [20] (fun s20 wr => ∃ k : Nat, k ≤ l.length ∧ s20 = .int .i64 k ∧ Hid (TH x' g T (.slice aa n ac) ad (.slice ha l.length hcp) l wr)) (fun s20 _ => l.length - (intOf s20).toNat)
                  case atStart => exact ⟨0, Nat.zero_le _, rfl, P4⟩
                  case round =>
                    obtain ⟨k, hkl, rfl, hH⟩ := hrel
                    have P5 := hH.out
                    clear hH P4
                    by_cases hkk : (k : Int) < l.length
                    · have hx5 : l[k]? = some l[k] := List.getElem?_eq_getElem (by omega)
                      obtain ⟨f1, f2, f3, f4⟩ := hfact l[k] (List.getElem_mem (by omega))
                      generalize l[k] = s at hx5 f1 f2 f3 f4
                      obtain ⟨y0, y1', y2⟩ := flatL_get hx5
                      obtain ⟨hb, hcq, e5, _, _, _, hl1, _⟩ := own_addr P5.hrow (by omega)
                      have z0 := hl1 (k * 3) (by omega)
                      have z2 := hl1 (k * 3 + 2) (by omega)
                      rw [y0] at z0
                      rw [y2] at z2
                      clear y0 y1' y2 hl1 hx5
                      obtain ⟨sp, hsp⟩ : ∃ sp : Nat, s.t = (sp : Int) + 1 := ⟨(s.t - 1).toNat, by omega⟩
                      rw [hsp] at f1 f2 f3 f4 z2
                      rw [show ((sp : Int) + 1 - 1).toNat = sp by omega] at f4
                      obtain ⟨qb, qcp, e6, _, _, _, hcl6, _⟩ := own_addr P5.row (by omega)
                      have z6 := hcl6 sp (by omega)
                      rw [List.getElem?_map, f4] at z6
                      replace z6 : wr.cell? ⟨qb, sp, none⟩ = some (vU s.a) := z6
                      clear hcl6
                      simp only [Value.slice.injEq] at e5 e6
                      obtain ⟨e5, -, -⟩ := e5
                      obtain ⟨e6, -, -⟩ := e6
                      cases e5
                      cases e6
                      have hk0' : (0 : Int) ≤ k := by omega
                      have s1 : IntKind.i64.wrap ((sp : Int) + 1 - 1) = sp := by rw [IntKind.wrap_i64]; omega
                      have s2 : (0 : Int) ≤ sp := by omega
                      have s3 : (sp : Int) < (n : Nat) := by omega
                      obtain ⟨L5, M5, _⟩ := id P5.mem
                      go_upto_region 30 with fail
                      go_quiet ((first | (go_at_call 15; exact Calls.quiet_of_same (stamp_c g T L5 ((sp : Int) + 1) _ (M5.keep fun _ _ => rfl)))))
                      replace P5 := P5.grow (below_drewN (Below.refl _ _) nq)
                      generalize wr.drewN nq = w9' at P5 ⊢
                      clear z0 z2 z6 M5
                      go_wp2
                      go_roundw
                      case rel => exact ⟨k + 1, by omega, by go_num, P5⟩
                      case measure => simp [intOf]; omega
                    · go_wp2
                      go_roundw
                      case rel => exact ⟨o + 1, by omega, by go_num, P5.tl⟩
                      case measure => simp [intOf]; omega

                · obtain ⟨p, rfl⟩ : ∃ p : Nat, lt = (p : Int) + 1 := ⟨(lt - 1).toNat, by omega⟩
                  rw [show ((p : Int) + 1 - 1).toNat = p by omega] at h4
                  subst h3
                  obtain ⟨ab, acp, ea, _, _, _, hcl, _⟩ := own_addr P3.row (by omega)
                  have za := hcl p (by omega)
                  rw [List.getElem?_map, h4] at za
                  replace za : y3.cell? ⟨ab, p, none⟩ = some (vU (8 * (m : Int))) := za
                  clear hcl
                  simp only [Value.slice.injEq] at ea
                  obtain ⟨ea, -, -⟩ := ea
                  cases ea
                  have r1 : IntKind.i64.wrap (1000 + ((p : Int) + 1)) = 1000 + ((p : Int) + 1) := by rw [IntKind.wrap_i64]; omega
                  have r2 : IntKind.u64.wrap (1000 + ((p : Int) + 1)) = 1000 + ((p : Int) + 1) := by rw [IntKind.wrap_u64]; omega
                  have r3 : IntKind.i64.wrap ((p : Int) + 1 - 1) = p := by rw [IntKind.wrap_i64]; omega
                  have r4 : (0 : Int) ≤ p := by omega
                  have r5 : (p : Int) < (n : Nat) := by omega
                  have r6 : ¬ ((n : Nat) : Int) < (p : Int) + 1 := by omega
                  have r7 : ¬ (p : Int) + 1 < 0 := by omega
                  have r8 : (0 : Int) < (p : Int) + 1 := by omega
                  have r9 : (((p : Int) + 1) == 0) = false := by simp; omega
                  go_upto_region 26 with fail
                  clear za
                  go_upto_region 27 with (go_at_call 14; refine (heldt P3 OT o).mono ?_; rintro e y4 ⟨ha, hcp, rfl, P4⟩; dsimp only; rw [hhl] at P4 ⊢)
                  have hfact : ∀ s ∈ bufOf T o, 1 ≤ s.t ∧ s.t ≤ (n : Nat) ∧ stampV T s.t = 0 ∧ ad[(s.t - 1).toNat]? = some s.a := fun s hs => by
                    obtain ⟨_, k1, k2⟩ := OT.held _ hbm s hs
                    have k3 := stamp_at (J.all.bij.zer _ hbm s hs)
                    rw [show (((s.t - 1).toNat : Nat) : Int) + 1 = s.t by omega] at k3
                    exact ⟨k1, by have := J.tel.len; omega, k3, (J.tel.held _ hbm s hs).2⟩
                  have hl32 : (bufOf T o).length ≤ 32 := by have k1 := OT.lens _ hbm; have k2 := OT.d2; omega
                  clear hbm hhl P3
                  generalize bufOf T o = l at P4 hfact hl32 ⊢
                  go_wp2
                  go_loopw [20] (fun s20 wr => ∃ k : Nat, k ≤ l.length ∧ s20 = .int .i64 k ∧ Hid (TH x' g T (.slice (some ⟨ab, 0, none⟩) n ac) ad (.slice ha l.length hcp) l wr)) (fun s20 _ => l.length - (intOf s20).toNat)
                  case atStart => exact ⟨0, Nat.zero_le _, rfl, P4⟩
                  case round =>
                    obtain ⟨k, hkl, rfl, hH⟩ := hrel
                    have P5 := hH.out
                    clear hH P4
                    by_cases hkk : (k : Int) < l.length
                    · have hx5 : l[k]? = some l[k] := List.getElem?_eq_getElem (by omega)
                      obtain ⟨f1, f2, f3, f4⟩ := hfact l[k] (List.getElem_mem (by omega))
                      generalize l[k] = s at hx5 f1 f2 f3 f4
                      obtain ⟨y0, y1', y2⟩ := flatL_get hx5
                      obtain ⟨hb, hcq, e5, _, _, _, hl1, _⟩ := own_addr P5.hrow (by omega)
                      have z0 := hl1 (k * 3) (by omega)
                      have z2 := hl1 (k * 3 + 2) (by omega)
                      rw [y0] at z0
                      rw [y2] at z2
                      clear y0 y1' y2 hl1 hx5
                      obtain ⟨sp, hsp⟩ : ∃ sp : Nat, s.t = (sp : Int) + 1 := ⟨(s.t - 1).toNat, by omega⟩
                      rw [hsp] at f1 f2 f3 f4 z2
                      rw [show ((sp : Int) + 1 - 1).toNat = sp by omega] at f4
                      obtain ⟨qb, qcp, e6, _, _, _, hcl6, _⟩ := own_addr P5.row (by omega)
                      have z6 := hcl6 sp (by omega)
                      rw [List.getElem?_map, f4] at z6
                      replace z6 : wr.cell? ⟨qb, sp, none⟩ = some (vU s.a) := z6
                      clear hcl6
                      simp only [Value.slice.injEq] at e5 e6
                      obtain ⟨e5, -, -⟩ := e5
                      obtain ⟨e6, -, -⟩ := e6
                      cases e5
                      cases e6
                      have hk0' : (0 : Int) ≤ k := by omega
                      have s1 : IntKind.i64.wrap ((sp : Int) + 1 - 1) = sp := by rw [IntKind.wrap_i64]; omega
                      have s2 : (0 : Int) ≤ sp := by omega
                      have s3 : (sp : Int) < (n : Nat) := by omega
                      obtain ⟨L5, M5, _⟩ := id P5.mem
                      go_upto_region 30 with fail
                      go_quiet ((first | (go_at_call 15; exact Calls.quiet_of_same (stamp_c g T L5 ((sp : Int) + 1) _ (M5.keep fun _ _ => rfl)))))
                      replace P5 := P5.grow (below_drewN (Below.refl _ _) nq)
                      generalize wr.drewN nq = w9' at P5 ⊢
                      clear z0 z2 z6 M5
                      go_wp2
                      go_roundw
                      case rel => exact ⟨k + 1, by omega, by go_num, P5⟩
                      case measure => simp [intOf]; omega
                    · go_wp2
                      go_roundw
                      case rel => exact ⟨o + 1, by omega, by go_num, P5.tl⟩
                      case measure => simp [intOf]; omega
              · go_wp2
                go_roundw
                case rel => exact ⟨i + 1, by omega, by omega, by go_num, aa, n, ac, by omega, rfl, T, ad, hlenT, J, P2⟩
                case measure => simp [intOf]; omega
          · have he : storeE S c (8 * q) = 0 := by rw [storeE, hwb, hcb, if_pos rfl, if_pos rfl, if_neg hd]
            have het : storeT S c (8 * q) = (n : Int) + 1 := by rw [storeT, if_pos he, I.tel.len, hn]
            have J := I.store (by omega) he
            rw [hn] at J
            go_upto_region 16 with (first | (go_at_call 11; refine (pick_c x 36 _ hwf (by decide) (by decide)).mono ?_; rintro e w' ⟨rfl, rfl⟩; dsimp only; rw [hpn.out]) | (go_at_call 8; refine (store_t A O c (8 * q) (1000 + (n : Int) + 1) hA hsS).mono ?_; rintro e y1 ⟨rfl, P1⟩; dsimp only; rw [he, het]))
            generalize storeS S c (8 * q) (1000 + (n : Int) + 1) = T at P1 J
            have hbase : x'.heap.size ≤ y1.heap.size := P1.mem.below.size
            subst hn
            go_upto_region 17 with (at_builtin; refine wpList_app_u64 (by rfl) _ _ (by rfl) x'.heap.size (.slice aa ad.length ac) ad (by rfl) (P1.grow (below_alloc _ _)).row (Nat.le_trans hbase (below_alloc _ _).size) y1.heap.size 0 1 (8 * q) (by rfl) (by rw [World.cell?_alloc_new]; rfl) (by omega) ?_; intro b acap y2 q1 q2 q3 q4; simp only [Act.put, List.setIfInBounds_toArray, List.set_cons_succ, List.set_cons_zero])
            have P := P1.app (below_alloc _ _) q1 q2 q3 q4
            have hn2 : (ad ++ [8 * q]).length = ad.length + 1 := by simp
            generalize ad ++ [8 * q] = ad2 at P J hn2
            generalize hnn : ad.length = n at *
            clear q1 q2 q3 q4 P1 A
            have OT := J.all.ok
            have hlenT : ad2.length = (n + 1) := hn2
            have hsT : T.stamps.length < 1000000 := by rw [J.tel.len, hlenT]; omega
            go_wp2
            go_loopw [14] (fun s14 wr => ∃ o : Nat, o ≤ 3 ∧ s14 = .int .i64 o ∧ Hid (TL x' g T (.slice (some ⟨b, 0, none⟩) (n + 1) acap) ad2 wr)) (fun s14 _ => 3 - (intOf s14).toNat)
            case atStart => exact ⟨0, by omega, rfl, P⟩
            case round =>
              obtain ⟨o, ho1, rfl, hH⟩ := hrel
              have P2 := hH.out
              clear hH P
              by_cases ho : (o : Int) < 3
              · have hcT := J.core (c := o) (by omega) ho
                have hwT := J.word hmm hm4
                have hok : okB T o (8 * m) = true := by rw [okB, hcT, hwT]; rfl
                have hT := tel_load OT J.tel hcT (by rw [J.w]; omega) hwT
                have hhl : heldL T o = bufOf T o := by rw [heldL, hcT]; rfl
                have hbm := List.mem_of_getElem? (core_buf hcT)
                go_upto_region 24 with (go_at_call 9; refine (load_t P2 OT o (8 * m) hAm).mono ?_; rintro e y3 ⟨rfl, P3⟩; dsimp only; rw [hok, show argE true = 0 from rfl])
                generalize (loadP T o (8 * m)).1 = lv at hT ⊢
                generalize (loadP T o (8 * m)).2 = lt at hT ⊢
                clear P2
                rcases hT with ⟨rfl, rfl⟩ | ⟨h1, h2, h3, h4⟩
                · go_upto_region 27 with (go_at_call 14; refine (heldt P3 OT o).mono ?_; rintro e y4 ⟨ha, hcp, rfl, P4⟩; dsimp only; rw [hhl] at P4 ⊢)
                  have hfact : ∀ s ∈ bufOf T o, 1 ≤ s.t ∧ s.t ≤ ((n + 1) : Nat) ∧ stampV T s.t = 0 ∧ ad2[(s.t - 1).toNat]? = some s.a := fun s hs => by
                    obtain ⟨_, k1, k2⟩ := OT.held _ hbm s hs
                    have k3 := stamp_at (J.all.bij.zer _ hbm s hs)
                    rw [show (((s.t - 1).toNat : Nat) : Int) + 1 = s.t by omega] at k3
                    exact ⟨k1, by have := J.tel.len; omega, k3, (J.tel.held _ hbm s hs).2⟩
                  have hl32 : (bufOf T o).length ≤ 32 := by have k1 := OT.lens _ hbm; have k2 := OT.d2; omega
                  clear hbm hhl P3
                  generalize bufOf T o = l at P4 hfact hl32 ⊢
                  go_wp2
                  go_loopw [20] (fun s20 wr => ∃ k : Nat, k ≤ l.length ∧ s20 = .int .i64 k ∧ Hid (TH x' g T (.slice (some ⟨b, 0, none⟩) (n + 1) acap) ad2 (.slice ha l.length hcp) l wr)) (fun s20 _ => l.length - (intOf s20).toNat)
                  case atStart => exact ⟨0, Nat.zero_le _, rfl, P4⟩
                  case round =>
                    obtain ⟨k, hkl, rfl, hH⟩ := hrel
                    have P5 := hH.out
                    clear hH P4
                    by_cases hkk : (k : Int) < l.length
                    · have hx5 : l[k]? = some l[k] := List.getElem?_eq_getElem (by omega)
                      obtain ⟨f1, f2, f3, f4⟩ := hfact l[k] (List.getElem_mem (by omega))
                      generalize l[k] = s at hx5 f1 f2 f3 f4
                      obtain ⟨y0, y1', y2⟩ := flatL_get hx5
                      obtain ⟨hb, hcq, e5, _, _, _, hl1, _⟩ := own_addr P5.hrow (by omega)
                      have z0 := hl1 (k * 3) (by omega)
                      have z2 := hl1 (k * 3 + 2) (by omega)
                      rw [y0] at z0
                      rw [y2] at z2
                      clear y0 y1' y2 hl1 hx5
                      obtain ⟨sp, hsp⟩ : ∃ sp : Nat, s.t = (sp : Int) + 1 := ⟨(s.t - 1).toNat, by omega⟩
                      rw [hsp] at f1 f2 f3 f4 z2
                      rw [show ((sp : Int) + 1 - 1).toNat = sp by omega] at f4
                      obtain ⟨qb, qcp, e6, _, _, _, hcl6, _⟩ := own_addr P5.row (by omega)
                      have z6 := hcl6 sp (by omega)
                      rw [List.getElem?_map, f4] at z6
                      replace z6 : wr.cell? ⟨qb, sp, none⟩ = some (vU s.a) := z6
                      clear hcl6
                      simp only [Value.slice.injEq] at e5 e6
                      obtain ⟨e5, -, -⟩ := e5
                      obtain ⟨e6, -, -⟩ := e6
                      cases e5
                      cases e6
                      have hk0' : (0 : Int) ≤ k := by omega
                      have s1 : IntKind.i64.wrap ((sp : Int) + 1 - 1) = sp := by rw [IntKind.wrap_i64]; omega
                      have s2 : (0 : Int) ≤ sp := by omega
                      have s3 : (sp : Int) < ((n + 1) : Nat) := by omega
                      obtain ⟨L5, M5, _⟩ := id P5.mem
                      go_upto_region 30 with fail
                      go_quiet ((first | (go_at_call 15; exact Calls.quiet_of_same (stamp_c g T L5 ((sp : Int) + 1) _ (M5.keep fun _ _ => rfl)))))
                      replace P5 := P5.grow (below_drewN (Below.refl _ _) nq)
                      generalize wr.drewN nq = w9' at P5 ⊢
                      clear z0 z2 z6 M5
                      go_wp2
                      go_roundw
                      case rel => exact ⟨k + 1, by omega, by go_num, P5⟩
                      case measure => simp [intOf]; omega
                    · go_wp2
                      go_roundw
                      case rel => exact ⟨o + 1, by omega, by go_num, P5.tl⟩
                      case measure => simp [intOf]; omega

                · obtain ⟨p, rfl⟩ : ∃ p : Nat, lt = (p : Int) + 1 := ⟨(lt - 1).toNat, by omega⟩
                  rw [show ((p : Int) + 1 - 1).toNat = p by omega] at h4
                  subst h3
                  obtain ⟨ab, acp, ea, _, _, _, hcl, _⟩ := own_addr P3.row (by omega)
                  have za := hcl p (by omega)
                  rw [List.getElem?_map, h4] at za
                  replace za : y3.cell? ⟨ab, p, none⟩ = some (vU (8 * (m : Int))) := za
                  clear hcl
                  simp only [Value.slice.injEq] at ea
                  obtain ⟨ea, -, -⟩ := ea
                  cases ea
                  have r1 : IntKind.i64.wrap (1000 + ((p : Int) + 1)) = 1000 + ((p : Int) + 1) := by rw [IntKind.wrap_i64]; omega
                  have r2 : IntKind.u64.wrap (1000 + ((p : Int) + 1)) = 1000 + ((p : Int) + 1) := by rw [IntKind.wrap_u64]; omega
                  have r3 : IntKind.i64.wrap ((p : Int) + 1 - 1) = p := by rw [IntKind.wrap_i64]; omega
                  have r4 : (0 : Int) ≤ p := by omega
                  have r5 : (p : Int) < ((n + 1) : Nat) := by omega
                  have r6 : ¬ (((n + 1) : Nat) : Int) < (p : Int) + 1 := by omega
                  have r7 : ¬ (p : Int) + 1 < 0 := by omega
                  have r8 : (0 : Int) < (p : Int) + 1 := by omega
                  have r9 : (((p : Int) + 1) == 0) = false := by simp; omega
                  go_upto_region 26 with fail
                  clear za
                  go_upto_region 27 with (go_at_call 14; refine (heldt P3 OT o).mono ?_; rintro e y4 ⟨ha, hcp, rfl, P4⟩; dsimp only; rw [hhl] at P4 ⊢)
                  have hfact : ∀ s ∈ bufOf T o, 1 ≤ s.t ∧ s.t ≤ ((n + 1) : Nat) ∧ stampV T s.t = 0 ∧ ad2[(s.t - 1).toNat]? = some s.a := fun s hs => by
                    obtain ⟨_, k1, k2⟩ := OT.held _ hbm s hs
                    have k3 := stamp_at (J.all.bij.zer _ hbm s hs)
                    rw [show (((s.t - 1).toNat : Nat) : Int) + 1 = s.t by omega] at k3
                    exact ⟨k1, by have := J.tel.len; omega, k3, (J.tel.held _ hbm s hs).2⟩
                  have hl32 : (bufOf T o).length ≤ 32 := by have k1 := OT.lens _ hbm; have k2 := OT.d2; omega
                  clear hbm hhl P3
                  generalize bufOf T o = l at P4 hfact hl32 ⊢
                  go_wp2
                  go_loopw [20] (fun s20 wr => ∃ k : Nat, k ≤ l.length ∧ s20 = .int .i64 k ∧ Hid (TH x' g T (.slice (some ⟨b, 0, none⟩) (n + 1) acap) ad2 (.slice ha l.length hcp) l wr)) (fun s20 _ => l.length - (intOf s20).toNat)
                  case atStart => exact ⟨0, Nat.zero_le _, rfl, P4⟩
                  case round =>
                    obtain ⟨k, hkl, rfl, hH⟩ := hrel
                    have P5 := hH.out
                    clear hH P4
                    by_cases hkk : (k : Int) < l.length
                    · have hx5 : l[k]? = some l[k] := List.getElem?_eq_getElem (by omega)
                      obtain ⟨f1, f2, f3, f4⟩ := hfact l[k] (List.getElem_mem (by omega))
                      generalize l[k] = s at hx5 f1 f2 f3 f4
                      obtain ⟨y0, y1', y2⟩ := flatL_get hx5
                      obtain ⟨hb, hcq, e5, _, _, _, hl1, _⟩ := own_addr P5.hrow (by omega)
                      have z0 := hl1 (k * 3) (by omega)
                      have z2 := hl1 (k * 3 + 2) (by omega)
                      rw [y0] at z0
                      rw [y2] at z2
                      clear y0 y1' y2 hl1 hx5
                      obtain ⟨sp, hsp⟩ : ∃ sp : Nat, s.t = (sp : Int) + 1 := ⟨(s.t - 1).toNat, by omega⟩
                      rw [hsp] at f1 f2 f3 f4 z2
                      rw [show ((sp : Int) + 1 - 1).toNat = sp by omega] at f4
                      obtain ⟨qb, qcp, e6, _, _, _, hcl6, _⟩ := own_addr P5.row (by omega)
                      have z6 := hcl6 sp (by omega)
                      rw [List.getElem?_map, f4] at z6
                      replace z6 : wr.cell? ⟨qb, sp, none⟩ = some (vU s.a) := z6
                      clear hcl6
                      simp only [Value.slice.injEq] at e5 e6
                      obtain ⟨e5, -, -⟩ := e5
                      obtain ⟨e6, -, -⟩ := e6
                      cases e5
                      cases e6
                      have hk0' : (0 : Int) ≤ k := by omega
                      have s1 : IntKind.i64.wrap ((sp : Int) + 1 - 1) = sp := by rw [IntKind.wrap_i64]; omega
                      have s2 : (0 : Int) ≤ sp := by omega
                      have s3 : (sp : Int) < ((n + 1) : Nat) := by omega
                      obtain ⟨L5, M5, _⟩ := id P5.mem
                      go_upto_region 30 with fail
                      go_quiet ((first | (go_at_call 15; exact Calls.quiet_of_same (stamp_c g T L5 ((sp : Int) + 1) _ (M5.keep fun _ _ => rfl)))))
                      replace P5 := P5.grow (below_drewN (Below.refl _ _) nq)
                      generalize wr.drewN nq = w9' at P5 ⊢
                      clear z0 z2 z6 M5
                      go_wp2
                      go_roundw
                      case rel => exact ⟨k + 1, by omega, by go_num, P5⟩
                      case measure => simp [intOf]; omega
                    · go_wp2
                      go_roundw
                      case rel => exact ⟨o + 1, by omega, by go_num, P5.tl⟩
                      case measure => simp [intOf]; omega
              · go_wp2
                go_roundw
                case rel => exact ⟨i + 1, by omega, by omega, by go_num, (some ⟨b, 0, none⟩), (n + 1), acap, by omega, rfl, T, ad2, hlenT, J, P2⟩
                case measure => simp [intOf]; omega
      · have hi150 : i = 150 := by omega
        go_wp2
        go_loopw [21, 22] (fun s21 s22 wr => ∃ j : Nat, j ≤ n ∧ s22 = .int .i64 ((j : Int) + 1) ∧ s21 = .int .i64 (zc S j) ∧ Hid (TL x' g S (.slice aa n ac) ad wr)) (fun _ s22 _ => n + 1 - (intOf s22).toNat)
        case atStart => exact ⟨0, Nat.zero_le _, rfl, rfl, A⟩
        case round =>
          obtain ⟨j, hj1, rfl, rfl, hH⟩ := hrel
          have A2 := hH.out
          clear hH A
          by_cases hj : (j : Int) + 1 ≤ n
          · have hx : S.stamps[j]? = some (S.stamps[j]'(by have := I.tel.len; omega)) := List.getElem?_eq_getElem _
            have hsv := stamp_at hx
            have hz := zc_step hx
            have hzl := zc_le S j
            generalize S.stamps[j]'_ = x at hx hsv hz
            obtain ⟨L2, M2, _⟩ := id A2.mem
            by_cases h0 : x = 0
            · rw [if_pos h0] at hz
              rw [h0] at hsv
              generalize zc S j = zz at hz hzl
              go_wp2_with (go_at_call 15; refine (stamp_c g S L2 _ _ M2).mono ?_; rintro e y' ⟨rfl, rfl⟩; dsimp only; rw [hsv])
              go_roundw
              case rel => exact ⟨j + 1, by omega, by go_num, by rw [hz]; go_num, A2⟩
              case measure => simp [intOf]; omega
            · rw [if_neg h0] at hz
              have h0' : (x == 0) = false := by simpa using h0
              go_wp2_with (go_at_call 15; refine (stamp_c g S L2 _ _ M2).mono ?_; rintro e y' ⟨rfl, rfl⟩; dsimp only; rw [hsv])
              go_roundw
              case rel => exact ⟨j + 1, by omega, by go_num, by rw [hz]; rfl, A2⟩
              case measure => simp [intOf]; omega
          · obtain rfl : j = n := by omega
            obtain ⟨z1, z2⟩ := zc_all I.tel I.all I.b
            rw [hn] at z1 z2
            have hol : ((orderL S).length : Int) = S.reached := by rw [order_len]; have := O.pos; omega
            have hcc : ∀ c : Nat, c < 3 → heldL S c = bufOf S c ∧ (bufOf S c).length ≤ 32 := fun c hc => by
              have hcb := I.core (c := c) (by omega) (by omega)
              have k1 := O.lens _ (List.mem_of_getElem? (core_buf hcb))
              have k2 := O.d2
              exact ⟨by rw [heldL, hcb]; rfl, by omega⟩
            obtain ⟨e0, k0⟩ := hcc 0 (by decide)
            obtain ⟨e1, k1⟩ := hcc 1 (by decide)
            obtain ⟨e2, k2⟩ := hcc 2 (by decide)
            replace e0 : heldL S 0 = bufOf S 0 := e0
            replace e1 : heldL S 1 = bufOf S 1 := e1
            replace e2 : heldL S 2 = bufOf S 2 := e2
            replace k0 : (bufOf S 0).length ≤ 32 := k0
            replace k1 : (bufOf S 1).length ≤ 32 := k1
            replace k2 : (bufOf S 2).length ≤ 32 := k2
            rw [← e0] at z1 k0
            rw [← e1] at z1 k1
            rw [← e2] at z1 k2
            clear hcc e0 e1 e2
            generalize hl0 : (heldL S 0).length = l0 at z1 k0
            generalize hl1 : (heldL S 1).length = l1 at z1 k1
            generalize hl2 : (heldL S 2).length = l2 at z1 k2
            generalize hl3 : (orderL S).length = l3 at hol
            have hts : (S.stamps.length : Int) = (l3 : Int) + ((l0 : Int) + l1 + l2) := by omega
            have v1 : IntKind.i64.wrap ((l0 : Int) + l1) = (l0 : Int) + l1 := by rw [IntKind.wrap_i64]; omega
            have v2 : IntKind.i64.wrap ((l0 : Int) + l1 + l2) = (l0 : Int) + l1 + l2 := by rw [IntKind.wrap_i64]; omega
            have v3 : IntKind.i64.wrap ((l3 : Int) + ((l0 : Int) + l1 + l2)) = (l3 : Int) + ((l0 : Int) + l1 + l2) := by rw [IntKind.wrap_i64]; omega
            rw [z1]
            replace hl0 := show Hid _ from hl0
            replace hl1 := show Hid _ from hl1
            replace hl2 := show Hid _ from hl2
            replace hl3 := show Hid _ from hl3
            replace hts := show Hid _ from hts
            clear z1 z2 hol
            go_wp2_with (first | (go_at_call 14; refine (heldt B2.tl O 2).mono ?_; rintro e y3 ⟨ha2, hc2, rfl, B3⟩; dsimp only; rw [hl2.out]) | (go_at_call 14; refine (heldt B1.tl O 1).mono ?_; rintro e y2 ⟨ha1, hc1, rfl, B2⟩; dsimp only; rw [hl1.out]) | (go_at_call 14; refine (heldt A2 O 0).mono ?_; rintro e y1 ⟨ha0, hc0, rfl, B1⟩; dsimp only; rw [hl0.out]) | (go_at_call 16; refine (order_t B3.tl O hsS).mono ?_; rintro e y4 ⟨ha3, hc3, rfl, B4⟩; dsimp only; rw [hl3.out]) | (go_at_call 17; obtain ⟨L4, M4, _⟩ := id B4.mem; refine (tickets_c g S L4 _ M4).mono ?_; rintro e y' ⟨rfl, rfl⟩; dsimp only; rw [hts.out]))
            go_ret
            exact ⟨rfl, below_then hb1 (Nat.le_refl _) B4.mem.below⟩
    · have hil : i = zs.length := by omega
      go_wp2
      go_loopw [21, 22] (fun s21 s22 wr => ∃ j : Nat, j ≤ n ∧ s22 = .int .i64 ((j : Int) + 1) ∧ s21 = .int .i64 (zc S j) ∧ Hid (TL x' g S (.slice aa n ac) ad wr)) (fun _ s22 _ => n + 1 - (intOf s22).toNat)
      case atStart => exact ⟨0, Nat.zero_le _, rfl, rfl, A⟩
      case round =>
        obtain ⟨j, hj1, rfl, rfl, hH⟩ := hrel
        have A2 := hH.out
        clear hH A
        by_cases hj : (j : Int) + 1 ≤ n
        · have hx : S.stamps[j]? = some (S.stamps[j]'(by have := I.tel.len; omega)) := List.getElem?_eq_getElem _
          have hsv := stamp_at hx
          have hz := zc_step hx
          have hzl := zc_le S j
          generalize S.stamps[j]'_ = x at hx hsv hz
          obtain ⟨L2, M2, _⟩ := id A2.mem
          by_cases h0 : x = 0
          · rw [if_pos h0] at hz
            rw [h0] at hsv
            generalize zc S j = zz at hz hzl
            go_wp2_with (go_at_call 15; refine (stamp_c g S L2 _ _ M2).mono ?_; rintro e y' ⟨rfl, rfl⟩; dsimp only; rw [hsv])
            go_roundw
            case rel => exact ⟨j + 1, by omega, by go_num, by rw [hz]; go_num, A2⟩
            case measure => simp [intOf]; omega
          · rw [if_neg h0] at hz
            have h0' : (x == 0) = false := by simpa using h0
            go_wp2_with (go_at_call 15; refine (stamp_c g S L2 _ _ M2).mono ?_; rintro e y' ⟨rfl, rfl⟩; dsimp only; rw [hsv])
            go_roundw
            case rel => exact ⟨j + 1, by omega, by go_num, by rw [hz]; rfl, A2⟩
            case measure => simp [intOf]; omega
        · obtain rfl : j = n := by omega
          obtain ⟨z1, z2⟩ := zc_all I.tel I.all I.b
          rw [hn] at z1 z2
          have hol : ((orderL S).length : Int) = S.reached := by rw [order_len]; have := O.pos; omega
          have hcc : ∀ c : Nat, c < 3 → heldL S c = bufOf S c ∧ (bufOf S c).length ≤ 32 := fun c hc => by
            have hcb := I.core (c := c) (by omega) (by omega)
            have k1 := O.lens _ (List.mem_of_getElem? (core_buf hcb))
            have k2 := O.d2
            exact ⟨by rw [heldL, hcb]; rfl, by omega⟩
          obtain ⟨e0, k0⟩ := hcc 0 (by decide)
          obtain ⟨e1, k1⟩ := hcc 1 (by decide)
          obtain ⟨e2, k2⟩ := hcc 2 (by decide)
          replace e0 : heldL S 0 = bufOf S 0 := e0
          replace e1 : heldL S 1 = bufOf S 1 := e1
          replace e2 : heldL S 2 = bufOf S 2 := e2
          replace k0 : (bufOf S 0).length ≤ 32 := k0
          replace k1 : (bufOf S 1).length ≤ 32 := k1
          replace k2 : (bufOf S 2).length ≤ 32 := k2
          rw [← e0] at z1 k0
          rw [← e1] at z1 k1
          rw [← e2] at z1 k2
          clear hcc e0 e1 e2
          generalize hl0 : (heldL S 0).length = l0 at z1 k0
          generalize hl1 : (heldL S 1).length = l1 at z1 k1
          generalize hl2 : (heldL S 2).length = l2 at z1 k2
          generalize hl3 : (orderL S).length = l3 at hol
          have hts : (S.stamps.length : Int) = (l3 : Int) + ((l0 : Int) + l1 + l2) := by omega
          have v1 : IntKind.i64.wrap ((l0 : Int) + l1) = (l0 : Int) + l1 := by rw [IntKind.wrap_i64]; omega
          have v2 : IntKind.i64.wrap ((l0 : Int) + l1 + l2) = (l0 : Int) + l1 + l2 := by rw [IntKind.wrap_i64]; omega
          have v3 : IntKind.i64.wrap ((l3 : Int) + ((l0 : Int) + l1 + l2)) = (l3 : Int) + ((l0 : Int) + l1 + l2) := by rw [IntKind.wrap_i64]; omega
          rw [z1]
          replace hl0 := show Hid _ from hl0
          replace hl1 := show Hid _ from hl1
          replace hl2 := show Hid _ from hl2
          replace hl3 := show Hid _ from hl3
          replace hts := show Hid _ from hts
          clear z1 z2 hol
          go_wp2_with (first | (go_at_call 14; refine (heldt B2.tl O 2).mono ?_; rintro e y3 ⟨ha2, hc2, rfl, B3⟩; dsimp only; rw [hl2.out]) | (go_at_call 14; refine (heldt B1.tl O 1).mono ?_; rintro e y2 ⟨ha1, hc1, rfl, B2⟩; dsimp only; rw [hl1.out]) | (go_at_call 14; refine (heldt A2 O 0).mono ?_; rintro e y1 ⟨ha0, hc0, rfl, B1⟩; dsimp only; rw [hl0.out]) | (go_at_call 16; refine (order_t B3.tl O hsS).mono ?_; rintro e y4 ⟨ha3, hc3, rfl, B4⟩; dsimp only; rw [hl3.out]) | (go_at_call 17; obtain ⟨L4, M4, _⟩ := id B4.mem; refine (tickets_c g S L4 _ M4).mono ?_; rintro e y' ⟨rfl, rfl⟩; dsimp only; rw [hts.out]))
          go_ret
          exact ⟨rfl, below_then hb1 (Nat.le_refl _) B4.mem.below⟩
end Go.Proofs.Ytjkjbcnafpljoab
