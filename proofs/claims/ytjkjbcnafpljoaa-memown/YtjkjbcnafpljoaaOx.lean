/- MemOwn's walk. -/
import Derived.Test.YtjkjbcnafpljoaaOw
namespace Go.Proofs.Ytjkjbcnafpljoaa
open Go.RowKit
set_option linter.unusedVariables false
set_option linter.unusedSimpArgs false

structure OwnF (F S2 S3 : Sta) (c o a v N : Int) : Prop where
  f1 : storeE F c a = 0
  f2 : storeT F c a = N
  f3 : loadP S2 c a = (v, N)
  f4 : okB S2 c a = true
  f5 : peekV S2 a = peekV F a
  f6 : (loadP S2 o a).1 = (loadP F o a).1
  f7 : drainE S2 c = 0
  f8 : drainL S2 c = ⟨a, v, N⟩
  f9 : peekV S3 a = v
  f10 : peekT S3 a = N
  f11 : hasWordB S3 a = true
  f12 : stampV S3 N = ((orderL S3).length : Nat)
theorem own_plain {F : Sta} (O : F.Ok) {c o a v : Int} (hc : hasCoreB F c = true) (ho : 0 ≤ o) (hoc : hasCoreB F o = true) (hne : c ≠ o) (h0 : 0 ≤ a) (hw : hasWordB F a = true) (hb : bufOf F c = []) :
    OwnF F (storeS F c a v) (drainS (storeS F c a v) c) c o a v (F.stamps.length + 1) := by
  have hc0 : 0 ≤ c := by simp only [hasCoreB, Bool.and_eq_true, decide_eq_true_eq] at hc; exact hc.1
  obtain ⟨e1, e2, Hd⟩ := store_hold (v := v) hc hw (by rw [hb]; have := O.d1; simp; omega)
  have hb2 := Hd.own hc
  rw [hb, List.nil_append] at hb2
  have hw2 := peek_congr Hd.w a
  have hc2 : hasCoreB (storeS F c a v) c = true := by rw [Hd.core]; exact hc
  have hl := load_of (a := a) hc2 (by rw [hw2.2.2]; exact hw)
  rw [hb2] at hl
  have hnl : nw [(⟨a, v, F.stamps.length + 1⟩ : Lt)] a = some ⟨a, v, F.stamps.length + 1⟩ := nw_last [] ⟨a, v, F.stamps.length + 1⟩
  rw [hnl] at hl
  obtain ⟨d1, d2, G⟩ := drain_gone hc2 hb2
  have hp := set_peek (T := drainS (storeS F c a v) c) (S := storeS F c a v) (a := a) (v := v) (t := F.stamps.length + 1) h0 (by rw [hw2.2.2]; exact hw) G.w
  refine ⟨e1, e2, hl, by rw [okB, hc2, hw2.2.2, hw]; rfl, hw2.1, ?_, d1, d2, hp.2.1, hp.2.2, hp.1, ?_⟩
  · rw [load_of (by rw [Hd.core]; exact hoc) (by rw [hw2.2.2]; exact hw), load_of hoc hw, Hd.other hc0 ho hne]
    cases nw (bufOf F o) a with
    | none => exact hw2.1
    | some s => rfl
  · have e3 : (drainS (storeS F c a v) c).stamps[F.stamps.length]? = some (F.reached + 1) := by
      rw [G.s, Hd.s, Hd.r, show ((F.stamps.length : Int) + 1 - 1).toNat = F.stamps.length by omega]
      rw [List.getElem?_set_self (by simp)]
    rw [stamp_at e3, order_len, G.r, Hd.r]
    have := O.pos
    omega
set_option maxRecDepth 8000 in
set_option maxHeartbeats 4000000 in
theorem memOwn_walk (v : Value) (zs : List Int) (core word value : Int) (w : World) (R : Raw w v zs) (hcore : I64 core) (hword : I64 word) : Calls Try.prog 5 #[v, vI core, vI word, vU value] w fun e w' => e = .returned (.bool true) ∧ Below w.heap.size w w' := by
  obtain ⟨p0, p1⟩ := pick_in core (n := 3) (by decide)
  obtain ⟨q0, q1⟩ := pick_in word (n := 4) (by decide)
  generalize hc : pickV core 3 = c at p0 p1
  generalize hm : pickV word 4 = m at q0 q1
  have O0 : (newS 4 3 4).Ok := new_ok (n := 4) (c := 3) (d := 4) (by decide)
  have w1 : IntKind.i64.wrap (8 * m) = 8 * m := by rw [IntKind.wrap_i64]; omega
  have w2 : IntKind.u64.wrap (8 * m) = 8 * m := by rw [IntKind.wrap_u64]; omega
  have w3 : IntKind.i64.wrap (c + 1) = c + 1 := by rw [IntKind.wrap_i64]; omega
  have t1 : (c + 1).tmod 3 = (c + 1) % 3 := Int.tmod_eq_emod_of_nonneg (by omega)
  obtain ⟨o, ho⟩ : ∃ o, o = (c + 1) % 3 := ⟨_, rfl⟩
  rw [← ho] at t1
  have ho0 : 0 ≤ o := by omega
  have ho1 : o < 3 := by omega
  have hoc : c ≠ o := by omega
  have w4 : IntKind.i64.wrap o = o := by rw [IntKind.wrap_i64]; omega
  have hA : U64 (8 * m) := ⟨by omega, by omega⟩
  replace hc := show Hid _ from hc
  replace hm := show Hid _ from hm
  replace ho := show Hid _ from ho
  go_enter Try.func5, Try.ntmps5
  go_upto_region 8 with (first | (go_at_call 9; refine (known_c _).mono ?_; rintro e x1 ⟨rfl, hb1⟩; dsimp only) | (go_at_call 23; refine (made_c 4 _ (by decide) (by decide)).mono ?_; rintro e x2 ⟨g, rfl, H⟩; dsimp only) | (go_at_call 24; refine (play_c H O0 rfl rfl rfl v zs (R.grow hb1)).mono ?_; rintro e x3 ⟨rfl, i, hi, P⟩; dsimp only))
  obtain ⟨OT, Z, hN⟩ := pl_ok O0 zs i
  have hT3 : (plS (newS 4 3 4) zs i).bufs.length = 3 := Z.b
  have hT4 : (plS (newS 4 3 4) zs i).words.length = 4 := Z.w
  have hT0 : (plS (newS 4 3 4) zs i).stamps.length ≤ 150 := Nat.le_trans hN (by show 0 + i ≤ _; omega)
  have hTs : (plS (newS 4 3 4) zs i).stamps.length < 1000000 := by omega
  generalize plS (newS 4 3 4) zs i = T at P OT hT3 hT4 hTs hT0
  clear Z hN H
  have hcb : hasCoreB T c = true := by simp only [hasCoreB, hT3, Bool.and_eq_true, decide_eq_true_eq]; omega
  have OF := OT.flush c
  have lf := flush_len T c
  have hcF : hasCoreB (flushS T c) c = true := by rw [hasCore_len lf.1]; exact hcb
  have hoF : hasCoreB (flushS T c) o = true := by simp only [hasCoreB, lf.1, hT3, Bool.and_eq_true, decide_eq_true_eq]; omega
  have hwF : hasWordB (flushS T c) (8 * m) = true := by simp only [hasWordB, withinB, lf.2.2, hT4, Bool.and_eq_true, beq_iff_eq, decide_eq_true_eq]; omega
  have X := own_plain (v := value) OF hcF ho0 hoF hoc (by omega) hwF (flush_buf hcb)
  have hFs : (flushS T c).stamps.length < 1000000 := by rw [lf.2.1]; exact hTs
  have hokF : argE (okB (flushS T c) o (8 * m)) = 0 := by rw [okB, hoF, hwF]; rfl
  have O2 := OF.store c (8 * m) value (by omega)
  have h2s : (storeS (flushS T c) c (8 * m) value).stamps.length < 1000000 := by have := (store_szs (flushS T c) c (8 * m) value).2; omega
  have O3 := O2.drain c
  have h3s : (drainS (storeS (flushS T c) c (8 * m) value) c).stamps.length < 1000000 := by rw [(drain_szs _ _).2]; exact h2s
  generalize hF : flushS T c = F at *
  generalize hS2 : storeS F c (8 * m) value = S2 at *
  generalize hS3 : drainS S2 c = S3 at *
  generalize hNe : F.stamps.length = N at *
  have c1 := X.f1
  have c2 := X.f2
  have c3 := X.f3
  have c4 := X.f4
  have c5 := X.f5
  have c6 := X.f6
  have c7 := X.f7
  have c8 := X.f8
  have c9 := X.f9
  have c10 := X.f10
  have c11 := X.f11
  have c12 := X.f12
  clear X lf
  go_upto_region 9 with (go_at_call 18; refine (pick_c core 3 _ hcore (by decide) (by decide)).mono ?_; rintro e x' ⟨rfl, rfl⟩; dsimp only; rw [hc.out])
  go_upto_region 10 with (go_at_call 18; refine (pick_c word 4 _ hword (by decide) (by decide)).mono ?_; rintro e x' ⟨rfl, rfl⟩; dsimp only; rw [hm.out])
  go_upto_region 11 with (go_at_call 25; refine (flush_l P OT c hTs hcb).mono ?_; rintro e x4 ⟨fv, rfl, P4⟩; replace P4 := P4.nil; dsimp only)
  rw [hF] at P4
  go_upto_region 12 with (go_at_call 26; refine (peek_l P4 OF (8 * m) hA).mono ?_; rintro e x5 ⟨rfl, P5⟩; dsimp only)
  go_upto_region 14 with (go_at_call 12; refine (load_l P5 OF o (8 * m) hA).mono ?_; rintro e x6 ⟨rfl, P6⟩; dsimp only)
  go_upto_region 15 with (go_at_call 27; refine (store_l P6 OF c (8 * m) value hA (by rw [hNe]; exact hFs)).mono ?_; rintro e x7 ⟨rfl, P7⟩; dsimp only; rw [c1, c2])
  rw [hS2] at P7
  go_upto_region 16 with (go_at_call 12; refine (load_l P7 O2 c (8 * m) hA).mono ?_; rintro e x8 ⟨rfl, P8⟩; dsimp only; rw [c3, c4])
  go_upto_region 17 with (go_at_call 26; refine (peek_l P8 O2 (8 * m) hA).mono ?_; rintro e x9 ⟨rfl, P9⟩; dsimp only; rw [c5])
  go_upto_region 18 with (go_at_call 12; refine (load_l P9 O2 o (8 * m) hA).mono ?_; rintro e xa ⟨rfl, Pa⟩; dsimp only; rw [c6])
  go_upto_region 19 with (go_at_call 28; refine (drain_l Pa O2 c h2s).mono ?_; rintro e xb ⟨rfl, Pb⟩; dsimp only; rw [c7, c8])
  rw [hS3] at Pb
  have Pc := Pb.var ⟨8 * m, value, N + 1⟩
  generalize xb.heap.size = p at Pc ⊢
  generalize h9 : World.alloc xb _ = xc
  replace Pc : LR x1 g S3 [(.slice (some ⟨p, 0, none⟩) 1 1, [⟨8 * m, value, N + 1⟩])] xc := by rw [← h9]; exact Pc
  clear h9
  go_upto_region 20 with (go_at_call 26; refine (peek_l Pc O3 (8 * m) hA).mono ?_; rintro e xd ⟨rfl, Pd⟩; dsimp only; rw [c9, c10, c11])
  have z2 : xd.cell? ⟨p, 2, none⟩ = some (vI (N + 1)) := (Pd.row List.mem_cons_self).cellAt 2 (by simp)
  clear P P4 P5 P6 P7 P8 P9 Pa Pb Pc c1 c2 c3 c4 c5 c6 c7 c8 c9 c10 c11
  go_wp2_with (first | (go_at_call 22; refine (stamp_l Pd O3 (N + 1)).mono ?_; rintro e xe ⟨rfl, Pe⟩; dsimp only; rw [c12]) | (go_at_call 17; refine (order_l Pe O3 h3s).mono ?_; rintro e xf ⟨ov, rfl, hov, Pf⟩; obtain ⟨oa, oc, rfl, _, _⟩ := own_len hov; dsimp only))
  go_ret
  exact ⟨rfl, below_then hb1 (Nat.le_refl _) Pf.below⟩
end Go.Proofs.Ytjkjbcnafpljoaa
