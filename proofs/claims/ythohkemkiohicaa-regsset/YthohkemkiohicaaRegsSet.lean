/- For every state, every number of a system register and every value: what Set has set Get tells, as far as the register has the bits, and set back the state is as it was: RegsSet returns true, whatever its arguments. -/
import Derived.Test.YthohkemkiohicaaOpen
namespace Go.Proofs.Ythohkemkiohicaa.regsSet
open Go.ChangeShapes Go.WideShapes Go.ChangeAt Go.RowKit
set_option linter.unusedVariables false

theorem sub_bits (V a n i : Nat) (h : ((V / 2 ^ a % 2 ^ n) * 2 ^ a).testBit i = true) : V.testBit i = true := by
  rw [Nat.testBit_mul_two_pow, Nat.testBit_mod_two_pow, Nat.testBit_div_two_pow] at h
  simp only [Bool.and_eq_true, decide_eq_true_eq] at h
  obtain ⟨h1, -, h2⟩ := h
  rwa [show i - a + a = i by omega] at h2
theorem and_part {v x : Int} (hv : U64 v) (hx : U64 x) (a n : Nat) (e : x.toNat = (v.toNat / 2 ^ a % 2 ^ n) * 2 ^ a) : bits .and .u64 x v = x :=
  and_sub hx hv (fun i h => by rw [e] at h; exact sub_bits _ _ _ _ h)
theorem flags_back (c : Cor) : bitB (nzcvV c) 31 = c.n ∧ bitB (nzcvV c) 30 = c.z ∧ bitB (nzcvV c) 29 = c.c ∧ bitB (nzcvV c) 28 = c.v ∧ U64 (nzcvV c) := by
  unfold nzcvV U64
  cases c.n <;> cases c.z <;> cases c.c <;> cases c.v <;> decide
theorem mask_back (c : Cor) : bitB (daifV c) 7 = c.mask ∧ U64 (daifV c) := by
  unfold daifV U64
  cases c.mask <;> decide
theorem set_same (c : Cor) : setNzcvV c (nzcvV c) = c := by
  obtain ⟨h1, h2, h3, h4, -⟩ := flags_back c
  unfold setNzcvV
  rw [h1, h2, h3, h4]
theorem bit_int (v : Int) (k : Nat) (m : Int) : (bif bitB v k then m else 0) = (v / 2 ^ k % 2) * m := by
  unfold bitB
  have : v / 2 ^ k % 2 = 0 ∨ v / 2 ^ k % 2 = 1 := by omega
  rcases this with h | h <;> rw [h] <;> simp
structure Facts (c : Cor) (sys v : Int) : Prop where
  get : getB sys = true
  old : U64 (getV c sys)
  new : U64 (getV (setV c sys v) sys)
  twice : setV (setV c sys v) sys v = setV c sys v
  same : setV (setV c sys v) sys (getV (setV c sys v) sys) = setV c sys v
  again : setV (setV c sys v) sys (getV c sys) = setV c sys (getV c sys)
  bits : bits .and .u64 (getV (setV c sys v) sys) v = getV (setV c sys v) sys
theorem facts (c : Cor) (wc : c.WF) (sys v : Int) (hv : U64 v) (hs : setB sys = true) : Facts c sys v := by
  have := hv.1
  have := hv.2
  have self : bits .and .u64 v v = v := and_sub hv hv fun _ h => h
  simp only [setB, Bool.or_eq_true, beq_iff_eq] at hs
  rcases hs with (((((((h | h) | h) | h) | h) | h) | h) | h) | h <;> subst h
  · refine ⟨rfl, wc.vbar, ⟨?_, ?_⟩, ?_, ?_, rfl, ?_⟩
    · show 0 ≤ v - v % 2048; omega
    · show v - v % 2048 < _; omega
    · rfl
    · show ({ c with vbar := (v - v % 2048) - (v - v % 2048) % 2048 } : Cor) = { c with vbar := v - v % 2048 }
      rw [show (v - v % 2048) - (v - v % 2048) % 2048 = v - v % 2048 by omega]
    · refine and_part hv ⟨?_, ?_⟩ 11 53 ?_
      · show 0 ≤ v - v % 2048; omega
      · show v - v % 2048 < _; omega
      · show (v - v % 2048).toNat = _
        simp only [Nat.reducePow]
        omega
  · exact ⟨rfl, wc.elr, hv, rfl, rfl, rfl, self⟩
  · exact ⟨rfl, wc.spsr, hv, rfl, rfl, rfl, self⟩
  · refine ⟨rfl, wc.esr, ⟨?_, ?_⟩, ?_, ?_, rfl, ?_⟩
    · show 0 ≤ v % 4294967296; omega
    · show v % 4294967296 < _; omega
    · rfl
    · show ({ c with esr := v % 4294967296 % 4294967296 } : Cor) = { c with esr := v % 4294967296 }
      rw [show v % 4294967296 % 4294967296 = v % 4294967296 by omega]
    · refine and_part hv ⟨?_, ?_⟩ 0 32 ?_
      · show 0 ≤ v % 4294967296; omega
      · show v % 4294967296 < _; omega
      · show (v % 4294967296).toNat = _
        simp only [Nat.reducePow]
        omega
  · exact ⟨rfl, wc.far, hv, rfl, rfl, rfl, self⟩
  · exact ⟨rfl, wc.sp0, hv, rfl, rfl, rfl, self⟩
  · exact ⟨rfl, wc.tpidr, hv, rfl, rfl, rfl, self⟩
  · have e : nzcvV (setNzcvV c v) = (v / 268435456 % 16) * 268435456 := by
      unfold nzcvV setNzcvV
      simp only [bit_int, Int.reducePow]
      omega
    refine ⟨rfl, (flags_back c).2.2.2.2, (flags_back (setNzcvV c v)).2.2.2.2, rfl, set_same (setNzcvV c v), rfl, ?_⟩
    refine and_part hv (flags_back (setNzcvV c v)).2.2.2.2 28 4 ?_
    show (nzcvV (setNzcvV c v)).toNat = _
    rw [e]
    simp only [Nat.reducePow]
    omega
  · have e : daifV ({ c with mask := bitB v 7 } : Cor) = (v / 128 % 2) * 128 := by
      unfold daifV
      simp only [bit_int, Int.reducePow]
    refine ⟨rfl, (mask_back c).2, (mask_back _).2, rfl, ?_, rfl, ?_⟩
    · show ({ c with mask := bitB (daifV ({ c with mask := bitB v 7 } : Cor)) 7 } : Cor) = _
      rw [(mask_back _).1]
      rfl
    · refine and_part hv (mask_back _).2 7 1 ?_
      show (daifV ({ c with mask := bitB v 7 } : Cor)).toNat = _
      rw [e]
      simp only [Nat.reducePow]
      omega
set_option maxRecDepth 4000 in
set_option maxHeartbeats 4000000 in
theorem walk (c : Cor) (wc : c.WF) (a1 : Int) (a2 : Int) (w1 : (Lit.int .i64 a1).wf = true) (w2 : (Lit.int .u64 a2).wf = true) (w : World) :
    Calls Try.prog 7 #[c.val, .int .i64 a1, .int .u64 a2] w fun e w' => e = .returned (.bool true) ∧ Below w.heap.size w w' := by
  have hv : Hid (U64 a2) := u64_of w2
  clear w1 w2
  cases hb : setB a1 with
  | false =>
    have e1 : setV c a1 a2 = nilC := by
      simp only [setB, Bool.or_eq_false_iff] at hb
      simp only [setV, hb, cond_false]
    go_enter Try.func7, Try.ntmps7
    go_upto_region 1 with fail
    have H := has_start c w
    generalize w.alloc (.cells c.cells 26) = w1 at H ⊢
    go_wp2_with (first | (with_reducible refine wpList_load_if rfl 26 _ rfl _ rfl 26 _ (0, 0) _ (H.get (by first | exact List.mem_cons_self | exact List.mem_cons_of_mem _ (List.mem_cons_self) | exact List.mem_cons_of_mem _ (List.mem_cons_of_mem _ (List.mem_cons_self)) | exact List.mem_cons_of_mem _ (List.mem_cons_of_mem _ (List.mem_cons_of_mem _ (List.mem_cons_self))) | exact List.mem_cons_of_mem _ (List.mem_cons_of_mem _ (List.mem_cons_of_mem _ (List.mem_cons_of_mem _ (List.mem_cons_self)))) | exact List.mem_cons_of_mem _ (List.mem_cons_of_mem _ (List.mem_cons_of_mem _ (List.mem_cons_of_mem _ (List.mem_cons_of_mem _ (List.mem_cons_self))))) | exact List.mem_cons_of_mem _ (List.mem_cons_of_mem _ (List.mem_cons_of_mem _ (List.mem_cons_of_mem _ (List.mem_cons_of_mem _ (List.mem_cons_of_mem _ (List.mem_cons_self)))))) | exact List.mem_cons_of_mem _ (List.mem_cons_of_mem _ (List.mem_cons_of_mem _ (List.mem_cons_of_mem _ (List.mem_cons_of_mem _ (List.mem_cons_of_mem _ (List.mem_cons_of_mem _ (List.mem_cons_self))))))))) Try.underlying26 rfl (Cor.info _) ?_; simp only [Act.put, List.setIfInBounds_toArray, List.set_cons_succ, List.set_cons_zero]) | ((with_reducible refine wpList_store_new H rfl _ _ rfl _ rfl rfl ?_ ?_); (focus rfl); intro w2 H; try simp only [Act.put]) | (with_reducible refine wpList_build_nil rfl rfl ?_; simp only [Act.put, List.setIfInBounds_toArray, List.set_cons_succ, List.set_cons_zero]) | (with_reducible refine wpList_eql_core rfl _ _ rfl _ _ rfl rfl true (eqC_refl _) ?_; simp only [Act.put, List.setIfInBounds_toArray, List.set_cons_succ, List.set_cons_zero]) | (go_at_call 9; refine (examples_c _).mono ?_; rintro e w1 ⟨rfl, hb⟩; replace H := H.grow hb; clear hb; dsimp only) | (go_at_call 25; refine (Get_c _ _ _).mono ?_; rintro e w1 ⟨rfl, hb⟩; replace H := H.grow hb; clear hb; dsimp only) | (go_at_call 27; refine (Set_c _ _ _ hv _).mono ?_; rw [e1]; rintro e w1 ⟨rfl, hb⟩; replace H := H.grow hb; clear hb; dsimp only))
    go_ret
    exact ⟨rfl, H.below⟩
  | true =>
    have F := facts c wc a1 a2 hv.out hb
    have g1 := F.get
    have g2 : Hid (U64 (getV c a1)) := F.old
    have g3 : Hid (U64 (getV (setV c a1 a2) a1)) := F.new
    have g4 : Hid (setV (setV c a1 a2) a1 a2 = setV c a1 a2) := F.twice
    have g5 : Hid (setV (setV c a1 a2) a1 (getV (setV c a1 a2) a1) = setV c a1 a2) := F.same
    have g6 : Hid (setV (setV c a1 a2) a1 (getV c a1) = setV c a1 (getV c a1)) := F.again
    have g7 := F.bits
    clear F wc
    by_cases hw : setV c a1 (getV c a1) = c
    · have hw : Hid (setV c a1 (getV c a1) = c) := hw
      replace g6 : Hid (setV (setV c a1 a2) a1 (getV c a1) = c) := g6.out.trans hw.out
      go_enter Try.func7, Try.ntmps7
      go_upto_region 1 with fail
      have H := has_start c w
      generalize w.alloc (.cells c.cells 26) = w1 at H ⊢
      go_wp2_with (first | (with_reducible refine wpList_load_if rfl 26 _ rfl _ rfl 26 _ (0, 0) _ (H.get (by first | exact List.mem_cons_self | exact List.mem_cons_of_mem _ (List.mem_cons_self) | exact List.mem_cons_of_mem _ (List.mem_cons_of_mem _ (List.mem_cons_self)) | exact List.mem_cons_of_mem _ (List.mem_cons_of_mem _ (List.mem_cons_of_mem _ (List.mem_cons_self))) | exact List.mem_cons_of_mem _ (List.mem_cons_of_mem _ (List.mem_cons_of_mem _ (List.mem_cons_of_mem _ (List.mem_cons_self)))) | exact List.mem_cons_of_mem _ (List.mem_cons_of_mem _ (List.mem_cons_of_mem _ (List.mem_cons_of_mem _ (List.mem_cons_of_mem _ (List.mem_cons_self))))) | exact List.mem_cons_of_mem _ (List.mem_cons_of_mem _ (List.mem_cons_of_mem _ (List.mem_cons_of_mem _ (List.mem_cons_of_mem _ (List.mem_cons_of_mem _ (List.mem_cons_self)))))) | exact List.mem_cons_of_mem _ (List.mem_cons_of_mem _ (List.mem_cons_of_mem _ (List.mem_cons_of_mem _ (List.mem_cons_of_mem _ (List.mem_cons_of_mem _ (List.mem_cons_of_mem _ (List.mem_cons_self))))))))) Try.underlying26 rfl (Cor.info _) ?_; simp only [Act.put, List.setIfInBounds_toArray, List.set_cons_succ, List.set_cons_zero]) | ((with_reducible refine wpList_store_new H rfl _ _ rfl _ rfl rfl ?_ ?_); (focus rfl); intro w2 H; try simp only [Act.put]) | (with_reducible refine wpList_eql_core rfl _ _ rfl _ _ rfl rfl true (eqC_refl _) ?_; simp only [Act.put, List.setIfInBounds_toArray, List.set_cons_succ, List.set_cons_zero]) | (go_at_call 9; refine (examples_c _).mono ?_; rintro e w1 ⟨rfl, hb⟩; replace H := H.grow hb; clear hb; dsimp only) | (go_at_call 25; refine (Get_c _ _ _).mono ?_; rintro e w1 ⟨rfl, hb⟩; replace H := H.grow hb; clear hb; dsimp only) | (go_at_call 27; refine (Set_c _ _ _ (by assumption) _).mono ?_; (first | rw [g4.out] | rw [g5.out] | rw [g6.out] | rw [hw.out] | skip); rintro e w1 ⟨rfl, hb⟩; replace H := H.grow hb; clear hb; dsimp only))
      go_ret
      exact ⟨rfl, H.below⟩
    · have hn : Hid (eqC (setV c a1 (getV c a1)) c = false) := eqC_ne hw
      clear hw
      cases hB : (getV (setV c a1 (getV c a1)) a1 == getV c a1) with
      | true =>
        go_enter Try.func7, Try.ntmps7
        go_upto_region 1 with fail
        have H := has_start c w
        generalize w.alloc (.cells c.cells 26) = w1 at H ⊢
        go_wp2_with (first | (with_reducible refine wpList_load_if rfl 26 _ rfl _ rfl 26 _ (0, 0) _ (H.get (by first | exact List.mem_cons_self | exact List.mem_cons_of_mem _ (List.mem_cons_self) | exact List.mem_cons_of_mem _ (List.mem_cons_of_mem _ (List.mem_cons_self)) | exact List.mem_cons_of_mem _ (List.mem_cons_of_mem _ (List.mem_cons_of_mem _ (List.mem_cons_self))) | exact List.mem_cons_of_mem _ (List.mem_cons_of_mem _ (List.mem_cons_of_mem _ (List.mem_cons_of_mem _ (List.mem_cons_self)))) | exact List.mem_cons_of_mem _ (List.mem_cons_of_mem _ (List.mem_cons_of_mem _ (List.mem_cons_of_mem _ (List.mem_cons_of_mem _ (List.mem_cons_self))))) | exact List.mem_cons_of_mem _ (List.mem_cons_of_mem _ (List.mem_cons_of_mem _ (List.mem_cons_of_mem _ (List.mem_cons_of_mem _ (List.mem_cons_of_mem _ (List.mem_cons_self)))))) | exact List.mem_cons_of_mem _ (List.mem_cons_of_mem _ (List.mem_cons_of_mem _ (List.mem_cons_of_mem _ (List.mem_cons_of_mem _ (List.mem_cons_of_mem _ (List.mem_cons_of_mem _ (List.mem_cons_self))))))))) Try.underlying26 rfl (Cor.info _) ?_; simp only [Act.put, List.setIfInBounds_toArray, List.set_cons_succ, List.set_cons_zero]) | ((with_reducible refine wpList_store_new H rfl _ _ rfl _ rfl rfl ?_ ?_); (focus rfl); intro w2 H; try simp only [Act.put]) | (with_reducible refine wpList_neq_core rfl _ _ rfl _ _ rfl rfl false hn.out ?_; simp only [Act.put, List.setIfInBounds_toArray, List.set_cons_succ, List.set_cons_zero, Bool.not_false]) | (with_reducible refine wpList_eql_core rfl _ _ rfl _ _ rfl rfl true (eqC_refl _) ?_; simp only [Act.put, List.setIfInBounds_toArray, List.set_cons_succ, List.set_cons_zero]) | (go_at_call 9; refine (examples_c _).mono ?_; rintro e w1 ⟨rfl, hb⟩; replace H := H.grow hb; clear hb; dsimp only) | (go_at_call 25; refine (Get_c _ _ _).mono ?_; rintro e w1 ⟨rfl, hb⟩; replace H := H.grow hb; clear hb; dsimp only) | (go_at_call 27; refine (Set_c _ _ _ (by assumption) _).mono ?_; (first | rw [g4.out] | rw [g5.out] | rw [g6.out] | skip); rintro e w1 ⟨rfl, hb⟩; replace H := H.grow hb; clear hb; dsimp only))
        go_ret
        exact ⟨rfl, H.below⟩
      | false =>
        go_enter Try.func7, Try.ntmps7
        go_upto_region 1 with fail
        have H := has_start c w
        generalize w.alloc (.cells c.cells 26) = w1 at H ⊢
        go_wp2_with (first | (with_reducible refine wpList_load_if rfl 26 _ rfl _ rfl 26 _ (0, 0) _ (H.get (by first | exact List.mem_cons_self | exact List.mem_cons_of_mem _ (List.mem_cons_self) | exact List.mem_cons_of_mem _ (List.mem_cons_of_mem _ (List.mem_cons_self)) | exact List.mem_cons_of_mem _ (List.mem_cons_of_mem _ (List.mem_cons_of_mem _ (List.mem_cons_self))) | exact List.mem_cons_of_mem _ (List.mem_cons_of_mem _ (List.mem_cons_of_mem _ (List.mem_cons_of_mem _ (List.mem_cons_self)))) | exact List.mem_cons_of_mem _ (List.mem_cons_of_mem _ (List.mem_cons_of_mem _ (List.mem_cons_of_mem _ (List.mem_cons_of_mem _ (List.mem_cons_self))))) | exact List.mem_cons_of_mem _ (List.mem_cons_of_mem _ (List.mem_cons_of_mem _ (List.mem_cons_of_mem _ (List.mem_cons_of_mem _ (List.mem_cons_of_mem _ (List.mem_cons_self)))))) | exact List.mem_cons_of_mem _ (List.mem_cons_of_mem _ (List.mem_cons_of_mem _ (List.mem_cons_of_mem _ (List.mem_cons_of_mem _ (List.mem_cons_of_mem _ (List.mem_cons_of_mem _ (List.mem_cons_self))))))))) Try.underlying26 rfl (Cor.info _) ?_; simp only [Act.put, List.setIfInBounds_toArray, List.set_cons_succ, List.set_cons_zero]) | ((with_reducible refine wpList_store_new H rfl _ _ rfl _ rfl rfl ?_ ?_); (focus rfl); intro w2 H; try simp only [Act.put]) | (with_reducible refine wpList_neq_core rfl _ _ rfl _ _ rfl rfl false hn.out ?_; simp only [Act.put, List.setIfInBounds_toArray, List.set_cons_succ, List.set_cons_zero, Bool.not_false]) | (with_reducible refine wpList_eql_core rfl _ _ rfl _ _ rfl rfl true (eqC_refl _) ?_; simp only [Act.put, List.setIfInBounds_toArray, List.set_cons_succ, List.set_cons_zero]) | (go_at_call 9; refine (examples_c _).mono ?_; rintro e w1 ⟨rfl, hb⟩; replace H := H.grow hb; clear hb; dsimp only) | (go_at_call 25; refine (Get_c _ _ _).mono ?_; rintro e w1 ⟨rfl, hb⟩; replace H := H.grow hb; clear hb; dsimp only) | (go_at_call 27; refine (Set_c _ _ _ (by assumption) _).mono ?_; (first | rw [g4.out] | rw [g5.out] | rw [g6.out] | skip); rintro e w1 ⟨rfl, hb⟩; replace H := H.grow hb; clear hb; dsimp only))
        go_ret
        exact ⟨rfl, H.below⟩

set_option maxRecDepth 100000 in
theorem lifted (os : Os) (started : os.Started) (H : Type) (enc : TypeId × Value → H) :
    ReturnsInHanded {} Try.checked os 7 .any (Rows.regsSetSpec.pre6 enc Try.prog Try.f7 Rows.regsSetRow.domain false) (Rows.regsSetSpec.post enc Try.prog Try.f7 false true false false) := by
  refine returnsInHanded_of_change (C := Try.checked) own started (by kernel_rfl) Try.func7
    (ChangeSpec.witness6 (enc := enc) (C := Try.checked) false ⟨#[], #[nilC.val, .int .i64 0, .int .u64 0], []⟩ 8 (by kernel_rfl) (by kernel_rfl) (by kernel_rfl) (by kernel_rfl)) ?_
  intro W base args ds gs before hval0 hW hcnd _
  have hval : ∀ (j : Nat) t v, Try.f7.params[j]? = some t → args[j]? = some v → Value.okWide Try.prog W .any base t v := hval0
  have hW' := hW
  obtain ⟨p, q, hA0, hV, rfl, hfz, hnd⟩ := hW
  have hA : DataW.TrodAll enc Try.prog W 0 (fun _ => true) true Try.f7.params.toList args.toList ds p := hA0
  rw [Try.params7] at hA hval
  obtain ⟨v0, vs0, d0, ds0, p0, q0, hargs, rfl, rfl, h0, r0⟩ := trodAll_cons hA
  obtain ⟨v1, vs1, d1, ds1, p1, q1, rfl, rfl, rfl, h1, r1⟩ := trodAll_cons r0
  obtain ⟨v2, vs2, d2, ds2, p2, q2, rfl, rfl, rfl, h2, r2⟩ := trodAll_cons r1
  obtain ⟨rfl, rfl, rfl⟩ := trodAll_nil r2
  obtain rfl : args = #[v0, v1, v2] := by cases args; simp_all
  obtain ⟨rfl, rfl⟩ := trodVars_none hV
  obtain ⟨c, rfl, wc⟩ := open_core (hval 0 26 v0 rfl rfl) h0
  obtain rfl := (Trod_flat (w' := W) (b' := 0) (s' := fun _ => true) (h' := true) flat26 h0).1
  obtain ⟨a1, rfl, rfl, rfl, w1⟩ := open_int Try.underlying3 (hval 1 3 v1 rfl rfl) h1
  obtain ⟨a2, rfl, rfl, rfl, w2⟩ := open_int Try.underlying22 (hval 2 22 v2 rfl rfl) h2
  clear hA0 hval0
  simp only [List.append_nil] at hW'
  refine (walk c wc a1 a2 w1 w2 W).mono fun e W' ⟨he, hb⟩ => ?_
  subst he
  exact ⟨_, rfl, post_flat hW' (fun _ _ _ => (trodAll_cons_mk (shut_bool Try.underlying4 _) trodAll_mk0)) (fun sp => (trodAll_cons_mk (Trod_flat flat26 h0 |>.2) (trodAll_cons_mk (shut_int Try.underlying3 w1) (trodAll_cons_mk (shut_int Try.underlying22 w2) trodAll_mk0)))) (fun _ => rfl) (fun may => hb.frame may) (ok_one (by kernel_rfl) rfl (okWide_bool_mk Try.underlying4 _))⟩

theorem over : Rows.regsSetRow.holds Try.pinned (OpenSpec.ofChange Rows.regsSetSpec) :=
  OpenClaim.holds_of_wide 7 Try.f7 rfl rfl rfl rfl rfl rfl rfl ⟨rfl, rfl, rfl, rfl, rfl⟩ rfl rfl rfl rfl rfl (by kernel_rfl) Try.func7 (by kernel_rfl)
    (of_decide_eq_true (by kernel_rfl)) (by unfold Func.isWrapper; first | (rw [if_pos (by decide +kernel)]; kernel_rfl) | (rw [if_neg (by decide +kernel)]; exact ⟨rfl, rfl⟩))
    (fun os started H enc _ => lifted os started H enc)

theorem proved : Rows.RegsSetSaid :=
  over
end Go.Proofs.Ythohkemkiohicaa.regsSet

namespace Go.Proofs.Ythohkemkiohicaa
theorem regsSet_holds : Rows.RegsSetSaid := regsSet.proved
#print axioms regsSet_holds
end Go.Proofs.Ythohkemkiohicaa
