/- MemPut's walk. -/
import Derived.Test.YtjkjbcnafpljoaaPp
namespace Go.Proofs.Ytjkjbcnafpljoaa
open Go.RowKit
set_option linter.unusedVariables false
set_option linter.unusedSimpArgs false

set_option maxRecDepth 8000 in
set_option maxHeartbeats 4000000 in
theorem memPut_walk (v : Value) (zs : List Int) (core word value : Int) (w : World) (R : Raw w v zs) (hcore : I64 core) (hword : I64 word) : Calls Try.prog 7 #[v, vI core, vI word, vU value] w fun e w' => e = .returned (.bool true) ∧ Below w.heap.size w w' := by
  obtain ⟨p0, p1⟩ := pick_in core (n := 3) (by decide)
  obtain ⟨q0, q1⟩ := pick_in word (n := 4) (by decide)
  generalize hc : pickV core 3 = c at p0 p1
  generalize hm : pickV word 4 = m at q0 q1
  have O0 : (newS 4 3 5).Ok := new_ok (n := 4) (c := 3) (d := 5) (by decide)
  have w1 : IntKind.i64.wrap (8 * m) = 8 * m := by rw [IntKind.wrap_i64]; omega
  have w2 : IntKind.u64.wrap (8 * m) = 8 * m := by rw [IntKind.wrap_u64]; omega
  have hA : U64 (8 * m) := ⟨by omega, by omega⟩
  replace hc := show Hid _ from hc
  replace hm := show Hid _ from hm
  go_enter Try.func7, Try.ntmps7
  go_upto_region 8 with (first | (go_at_call 9; refine (known_c _).mono ?_; rintro e x1 ⟨rfl, hb1⟩; dsimp only) | (go_at_call 23; refine (made_c 5 _ (by decide) (by decide)).mono ?_; rintro e x2 ⟨g, rfl, H⟩; dsimp only) | (go_at_call 24; refine (play_c H O0 rfl rfl rfl v zs (R.grow hb1)).mono ?_; rintro e x3 ⟨rfl, i, hi, P⟩; dsimp only))
  obtain ⟨OT, Z, hN⟩ := pl_ok O0 zs i
  have IT := inc_pl O0 (inc_new 4 3 5) zs i
  have hT3 : (plS (newS 4 3 5) zs i).bufs.length = 3 := Z.b
  have hT4 : (plS (newS 4 3 5) zs i).words.length = 4 := Z.w
  have hT0 : (plS (newS 4 3 5) zs i).stamps.length ≤ 150 := Nat.le_trans hN (by show 0 + i ≤ _; omega)
  have hTs : (plS (newS 4 3 5) zs i).stamps.length < 1000000 := by omega
  generalize plS (newS 4 3 5) zs i = T at P OT IT hT3 hT4 hTs hT0
  clear Z hN H
  have hcb : hasCoreB T c = true := by simp only [hasCoreB, hT3, Bool.and_eq_true, decide_eq_true_eq]; omega
  have hwb : hasWordB T (8 * m) = true := by simp only [hasWordB, withinB, hT4, Bool.and_eq_true, beq_iff_eq, decide_eq_true_eq]; omega
  have X := put_plain (v := value) OT IT hcb (by omega) hwb
  have OS := OT.put c (8 * m) value (by omega)
  have hhl : heldL T c = bufOf T c := by rw [heldL, hcb]; rfl
  have hrn : ((orderL T).length : Int) = T.reached := by rw [order_len]; have := OT.pos; omega
  have hr0 := OT.pos
  have hr1 := OT.reach
  have hBl : (bufOf T c).length ≤ 32 := by have := OT.lens _ (List.mem_of_getElem? (core_buf hcb)); have := OT.d2; omega
  have hcoreT : ∀ o : Nat, o < 3 → hasCoreB T o = true := fun o ho => by simp only [hasCoreB, hT3, Bool.and_eq_true, decide_eq_true_eq]; omega
  generalize hS : putS T c (8 * m) value = S at *
  have c1 := X.g1
  have c2 := X.g2
  have c3 := X.g3
  have c4 := X.g4
  have c5 := X.g5
  have hSs : S.stamps.length < 1000000 := by have := put_szs T c (8 * m) value; rw [hS] at this; omega
  go_upto_region 9 with (go_at_call 18; refine (pick_c core 3 _ hcore (by decide) (by decide)).mono ?_; rintro e x' ⟨rfl, rfl⟩; dsimp only; rw [hc.out])
  go_upto_region 10 with (go_at_call 18; refine (pick_c word 4 _ hword (by decide) (by decide)).mono ?_; rintro e x' ⟨rfl, rfl⟩; dsimp only; rw [hm.out])
  go_upto_region 11 with (go_at_call 29; refine (held_l P OT c).mono ?_; rintro e x4 ⟨hv, rfl, P4⟩; dsimp only)
  rw [hhl] at P4
  go_upto_region 12 with (go_at_call 17; refine (order_l P4 OT hTs).mono ?_; rintro e x5 ⟨ov, rfl, hov, P5⟩; obtain ⟨oa, oc, rfl, _, _⟩ := own_len hov; dsimp only)
  go_upto_region 13 with (go_at_call 30; refine (put_l P5 OT c (8 * m) value hA hTs).mono ?_; rintro e x6 ⟨lv, rfl, P6⟩; dsimp only; rw [c1, c2])
  rw [hS, c3] at P6
  obtain ⟨la, lc, el, _, _⟩ := own_len (P6.row List.mem_cons_self)
  obtain ⟨ha, hca, eh, _, _⟩ := own_len (P6.row (List.mem_cons_of_mem _ List.mem_cons_self))
  have hlen1 : IntKind.i64.wrap (T.reached + (bufOf T c).length) = T.reached + (bufOf T c).length := by rw [IntKind.wrap_i64]; omega
  have hlen2 : IntKind.i64.wrap (T.reached + (bufOf T c).length + 1) = T.reached + (bufOf T c).length + 1 := by rw [IntKind.wrap_i64]; omega
  subst el
  subst eh
  go_upto_region 15 with (first | (go_at_call 29; refine (held_l P6 OS c).mono ?_; rintro e x7 ⟨kv, rfl, P7⟩; rw [c4] at P7; obtain ⟨ka, kc, rfl, _, _⟩ := own_len (P7.row List.mem_cons_self); dsimp only) | (go_at_call 22; refine (stamp_l P7 OS _).mono ?_; rintro e x8 ⟨rfl, P8⟩; dsimp only; rw [c5]))
  replace P8 := P8.less (R' := [(.slice la (bufOf T c).length lc, bufOf T c), (.slice ha (bufOf T c).length hca, bufOf T c)]) (fun p hp => List.mem_cons_of_mem _ hp)
  clear P P4 P5 P6 P7 c1 c2 c3 c4 c5
  go_wp2
  go_loopw [19] (fun s19 wr => ∃ i : Nat, i ≤ (bufOf T c).length ∧ s19 = .int .i64 i ∧ Hid (LR x1 g S [(.slice la (bufOf T c).length lc, bufOf T c), (.slice ha (bufOf T c).length hca, bufOf T c)] wr)) (fun s19 _ => (bufOf T c).length - (intOf s19).toNat)
  case atStart => exact ⟨0, Nat.zero_le _, rfl, P8⟩
  case round =>
    obtain ⟨i, hi1, rfl, hH⟩ := hrel
    have P := hH.out
    clear hH P8
    by_cases hlt : (i : Int) < (bufOf T c).length
    · have hi2 : i < (bufOf T c).length := by omega
      have hx : (bufOf T c)[i]? = some (bufOf T c)[i] := List.getElem?_eq_getElem hi2
      have hg6 := X.g6 i _ hx
      generalize (bufOf T c)[i] = x at hx hg6
      obtain ⟨lb, lc', e1, _, _, _, hl1, _⟩ := own_addr (P.row List.mem_cons_self) (by omega)
      obtain ⟨hb, hc', e2, _, _, _, hl2, _⟩ := own_addr (P.row (List.mem_cons_of_mem _ List.mem_cons_self)) (by omega)
      cases e1
      cases e2
      obtain ⟨y0, y1, y2⟩ := flatL_get hx
      have z0 := hl1 (i * 3) (by omega)
      have z1 := hl1 (i * 3 + 1) (by omega)
      have z2 := hl1 (i * 3 + 2) (by omega)
      have v0 := hl2 (i * 3) (by omega)
      have v1 := hl2 (i * 3 + 1) (by omega)
      have v2 := hl2 (i * 3 + 2) (by omega)
      rw [y0] at z0 v0
      rw [y1] at z1 v1
      rw [y2] at z2 v2
      clear y0 y1 y2 hl1 hl2
      have hi0 : (0 : Int) ≤ i := by omega
      have hw3 : IntKind.i64.wrap (T.reached + i) = T.reached + i := by rw [IntKind.wrap_i64]; omega
      have hw4 : IntKind.i64.wrap (T.reached + i + 1) = T.reached + i + 1 := by rw [IntKind.wrap_i64]; omega
      obtain ⟨L, M, _⟩ := id P
      have heq : ∀ w : World, (Op.equalIn 10000 59 (.agg #[vU x.a, vU x.v, vI x.t]) (.agg #[vU x.a, vU x.v, vI x.t])).run Try.prog w = .ok true w := fun w => by rw [← eqL_refl x]; exact lt_eq x x w
      go_upto_region 18 with fail
      go_quiet ((first | (go_at_call 22; exact Calls.quiet_of_same (stamp_c g S L x.t _ (M.keep fun _ _ => rfl)))))
      replace P := P.grow (below_drewN (Below.refl _ _) nq)
      generalize wr.drewN nq = w9 at P ⊢
      clear z0 z1 z2 v0 v1 v2 M
      go_wp2
      go_roundw
      case rel => exact ⟨i + 1, by omega, by go_num, P⟩
      case measure => simp [intOf]; omega
    · obtain rfl : i = (bufOf T c).length := by omega
      replace P := P.nil
      go_wp2
      go_loopw [20] (fun s20 wr => ∃ o : Nat, o ≤ 3 ∧ s20 = .int .i64 o ∧ Hid (LR x1 g S [] wr)) (fun s20 _ => 3 - (intOf s20).toNat)
      case atStart => exact ⟨0, by omega, rfl, P⟩
      case round =>
        obtain ⟨o, ho1, rfl, hH⟩ := hrel
        have P := hH.out
        clear hH
        by_cases ho : (o : Int) < 3
        · have hoT := hcoreT o (by omega)
          have h8 := X.g8 o hoT
          have h7 := X.g7 o hoT
          have hlS : (heldL S o).length ≤ 32 := by
            rw [heldL]
            split
            · rename_i hh
              have h1 := OS.lens _ (List.mem_of_getElem? (core_buf hh))
              have h2 := OS.d2
              omega
            · simp
          generalize hl : heldL S o = l at h7 hlS
          go_wp2_with (go_at_call 29; refine (held_l P OS o).mono ?_; rintro e y1 ⟨xv, rfl, P1⟩; dsimp only)
          rw [hl] at P1
          obtain ⟨xa, xc, ex, _, _⟩ := own_len (P1.row List.mem_cons_self)
          subst ex
          go_loopw [21, 23] (fun s21 s23 wr => ∃ j : Nat, j ≤ l.length ∧ s23 = .int .i64 j ∧ s21 = .bool ((l.take j).any fun s => s.a == 8 * m) ∧ Hid (LR x1 g S [(.slice xa l.length xc, l)] wr)) (fun _ s23 _ => l.length - (intOf s23).toNat)
          case atStart => exact ⟨0, Nat.zero_le _, rfl, rfl, P1⟩
          case round =>
            obtain ⟨j, hj1, rfl, rfl, hH⟩ := hrel
            have P2 := hH.out
            clear hH P1
            by_cases hj : (j : Int) < l.length
            · have hj2 : j < l.length := by omega
              have hx : l[j]? = some l[j] := List.getElem?_eq_getElem hj2
              have hany : ((l.take (j + 1)).any fun s => s.a == 8 * m) = (((l.take j).any fun s => s.a == 8 * m) || (l[j].a == 8 * m)) := by
                rw [← List.take_append_getElem hj2, List.any_append]; simp
              generalize l[j] = x at hx hany
              obtain ⟨xb, xc', e1, _, _, _, hl1, _⟩ := own_addr (P2.row List.mem_cons_self) (by omega)
              cases e1
              have z0 := hl1 (j * 3) (by omega)
              rw [(flatL_get hx).1] at z0
              clear hl1
              have hj0 : (0 : Int) ≤ j := by omega
              cases hb : (l.take j).any fun s => s.a == 8 * m
              · rw [hb, Bool.false_or] at hany
                go_wp2
                go_roundw
                case rel => exact ⟨j + 1, by omega, by go_num, by rw [hany], P2⟩
                case measure => simp [intOf]; omega
              · rw [hb, Bool.true_or] at hany
                go_wp2
                go_roundw
                case rel => exact ⟨j + 1, by omega, by go_num, by rw [hany], P2⟩
                case measure => simp [intOf]; omega
            · obtain rfl : j = l.length := by omega
              rw [List.take_length]
              rcases h7 with ⟨h71, h72⟩ | ⟨h71, h72⟩
              · rw [h71]
                go_wp2_with (go_at_call 12; refine (load_l P2 OS o (8 * m) hA).mono ?_; rintro e y2 ⟨rfl, P3⟩; dsimp only; rw [h8])
                go_roundw
                case rel => exact ⟨o + 1, by omega, by go_num, P3.nil⟩
                case measure => simp [intOf]; omega
              · rw [h71]
                go_wp2_with (go_at_call 12; refine (load_l P2 OS o (8 * m) hA).mono ?_; rintro e y2 ⟨rfl, P3⟩; dsimp only; rw [h8, h72])
                go_roundw
                case rel => exact ⟨o + 1, by omega, by go_num, P3.nil⟩
                case measure => simp [intOf]; omega
        · go_wp2
          go_ret
          exact ⟨rfl, below_then hb1 (Nat.le_refl _) P.below⟩
end Go.Proofs.Ytjkjbcnafpljoaa
