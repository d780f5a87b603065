/- For every word and every bit's number: words that differ in one bit are not decoded alike, unless they are no instructions: CodeBits returns true, whatever its arguments. -/
import Derived.Test.YtcmilajlngnibaaExs
import Derived.Laws.BitsAllLaws
namespace Go.Proofs.Ytcmilajlngnibaa.codeBits
open Go.ChangeShapes Go.WideShapes Go.ChangeAt Go.RowKit
set_option linter.unusedVariables false

theorem flip {a x : Int} (h : W32 a) : W32 (bits .xor .u32 a (2 ^ (x % 32).toNat % 4294967296)) ∧ a ≠ bits .xor .u32 a (2 ^ (x % 32).toNat % 4294967296) := by
  have hk : (x % 32).toNat < 32 := by omega
  generalize (x % 32).toNat = k at hk
  have hp : 2 ^ k < 4294967296 := show 2 ^ k < 2 ^ 32 from Nat.pow_lt_pow_right (by decide) hk
  have e : (2 : Int) ^ k % 4294967296 = ((2 ^ k : Nat) : Int) := by
    rw [show (2 : Int) ^ k = ((2 ^ k : Nat) : Int) by simp]
    exact Int.emod_eq_of_lt (Int.natCast_nonneg _) (Int.ofNat_lt.2 hp)
  rw [e, u32_xor a _ h.1 h.2 (Int.natCast_nonneg _) (Int.ofNat_lt.2 hp), Int.toNat_natCast]
  refine ⟨w32_nat (show _ < 2 ^ 32 from Nat.xor_lt_two_pow (w32_of h).1 hp), fun q => ?_⟩
  have q : a.toNat = a.toNat ^^^ 2 ^ k := by have := congrArg Int.toNat q; rwa [Int.toNat_natCast] at this
  have := congrArg (fun n => n.testBit k) q
  simp only [Nat.testBit_xor, Nat.testBit_two_pow_self] at this
  cases ha : a.toNat.testBit k <;> simp [ha] at this
set_option maxRecDepth 4000 in
set_option maxHeartbeats 4000000 in
theorem walk (a0 a1 : Int) (w0 : (Lit.int .u32 a0).wf = true) (w1 : (Lit.int .i64 a1).wf = true) (w : World) :
    Calls Try.prog 7 #[.int .u32 a0, .int .i64 a1] w fun e w' => e = .returned (.bool true) ∧ Below w.heap.size w w' := by
  have b0 := bounds_u32 w0
  have b1 := bounds_i64 w1
  have hW : W32 a0 := ⟨by omega, by omega⟩
  clear w0 w1
  have H := has_none w
  by_cases hn : a1 < 0
  · go_enter Try.func7, Try.ntmps7
    go_upto_region 5 with (first | ((with_reducible refine wpList_store_new H rfl _ _ rfl _ rfl rfl ?_ ?_); (focus rfl); intro w2 H; try simp only [Act.put]) | (go_at_call 8; refine (examples_c _).mono ?_; rintro e w1 ⟨rfl, hb⟩; replace H := H.grow hb; clear hb; dsimp only) | (go_at_call 9; refine (decode_c _ hW _).mono ?_; rintro e w1 ⟨rfl, hb⟩; replace H := H.grow hb; clear hb; dsimp only))
    generalize hx : -(a1 + 1) = x
    have x0 : 0 ≤ x := by omega
    have x1 : x < 9223372036854775808 := by omega
    obtain ⟨hX, hne⟩ := flip (x := x) hW
    go_upto_region 6 with (first | ((with_reducible refine wpList_store_new H rfl _ _ rfl _ rfl rfl ?_ ?_); (focus rfl); intro w2 H; try simp only [Act.put]) | (go_at_call 9; refine (decode_c _ hX _).mono ?_; rintro e w1 ⟨rfl, hb⟩; replace H := H.grow hb; clear hb; dsimp only))
    generalize bits .xor .u32 a0 (2 ^ (x % 32).toNat % 4294967296) = X at hX hne H ⊢
    cases hE : eqI (decV a0) (decV X) with
    | false =>
      go_wp2_with (first | ((with_reducible refine wpList_load_if rfl 25 _ rfl _ rfl 25 _ (0, 0) _ (H.get (by first | exact List.mem_cons_self | exact List.mem_cons_of_mem _ (List.mem_cons_self) | exact List.mem_cons_of_mem _ (List.mem_cons_of_mem _ (List.mem_cons_self)) | exact List.mem_cons_of_mem _ (List.mem_cons_of_mem _ (List.mem_cons_of_mem _ (List.mem_cons_self))) | exact List.mem_cons_of_mem _ (List.mem_cons_of_mem _ (List.mem_cons_of_mem _ (List.mem_cons_of_mem _ (List.mem_cons_self)))) | exact List.mem_cons_of_mem _ (List.mem_cons_of_mem _ (List.mem_cons_of_mem _ (List.mem_cons_of_mem _ (List.mem_cons_of_mem _ (List.mem_cons_self))))) | exact List.mem_cons_of_mem _ (List.mem_cons_of_mem _ (List.mem_cons_of_mem _ (List.mem_cons_of_mem _ (List.mem_cons_of_mem _ (List.mem_cons_of_mem _ (List.mem_cons_self)))))))) Try.underlying25 rfl (Ins.infoC _) ?_); (simp only [Act.put, List.setIfInBounds_toArray, List.set_cons_succ, List.set_cons_zero])) | ((with_reducible refine wpList_neq_insn rfl _ _ rfl (decV a0) (decV X) ?_ ?_ false hE ?_); (focus rfl); (focus rfl); (simp only [Act.put, List.setIfInBounds_toArray, List.set_cons_succ, List.set_cons_zero])))
      go_ret
      exact ⟨rfl, H.below⟩
    | true =>
      have hN : decV a0 = nilI := (dec_apart hW hX hne).resolve_left fun h => h ((eqI_iff _ _).1 hE)
      have hE2 : eqI (decV a0) nilI = true := by rw [hN]; exact eqI_refl _
      clear hN
      go_wp2_with (first | ((with_reducible refine wpList_load_if rfl 25 _ rfl _ rfl 25 _ (0, 0) _ (H.get (by first | exact List.mem_cons_self | exact List.mem_cons_of_mem _ (List.mem_cons_self) | exact List.mem_cons_of_mem _ (List.mem_cons_of_mem _ (List.mem_cons_self)) | exact List.mem_cons_of_mem _ (List.mem_cons_of_mem _ (List.mem_cons_of_mem _ (List.mem_cons_self))) | exact List.mem_cons_of_mem _ (List.mem_cons_of_mem _ (List.mem_cons_of_mem _ (List.mem_cons_of_mem _ (List.mem_cons_self)))) | exact List.mem_cons_of_mem _ (List.mem_cons_of_mem _ (List.mem_cons_of_mem _ (List.mem_cons_of_mem _ (List.mem_cons_of_mem _ (List.mem_cons_self))))) | exact List.mem_cons_of_mem _ (List.mem_cons_of_mem _ (List.mem_cons_of_mem _ (List.mem_cons_of_mem _ (List.mem_cons_of_mem _ (List.mem_cons_of_mem _ (List.mem_cons_self)))))))) Try.underlying25 rfl (Ins.infoC _) ?_); (simp only [Act.put, List.setIfInBounds_toArray, List.set_cons_succ, List.set_cons_zero])) | ((with_reducible refine wpList_neq_insn rfl _ _ rfl (decV a0) (decV X) ?_ ?_ true hE ?_); (focus rfl); (focus rfl); (simp only [Act.put, List.setIfInBounds_toArray, List.set_cons_succ, List.set_cons_zero])) | ((with_reducible refine wpList_eql_insn rfl _ _ rfl (decV a0) (nilI) ?_ ?_ true hE2 ?_); (focus rfl); (focus rfl); (simp only [Act.put, List.setIfInBounds_toArray, List.set_cons_succ, List.set_cons_zero])) | ((with_reducible refine wpList_builtG rfl 25 _ rfl nilI.cells (by kernel_rfl) ?_); (simp only [Act.put, List.setIfInBounds_toArray, List.set_cons_succ, List.set_cons_zero])))
      go_ret
      exact ⟨rfl, H.below⟩
  · go_enter Try.func7, Try.ntmps7
    go_upto_region 5 with (first | ((with_reducible refine wpList_store_new H rfl _ _ rfl _ rfl rfl ?_ ?_); (focus rfl); intro w2 H; try simp only [Act.put]) | (go_at_call 8; refine (examples_c _).mono ?_; rintro e w1 ⟨rfl, hb⟩; replace H := H.grow hb; clear hb; dsimp only) | (go_at_call 9; refine (decode_c _ hW _).mono ?_; rintro e w1 ⟨rfl, hb⟩; replace H := H.grow hb; clear hb; dsimp only))
    obtain ⟨x, rfl⟩ : ∃ x, x = a1 := ⟨_, rfl⟩
    have x0 : 0 ≤ x := by omega
    have x1 : x < 9223372036854775808 := by omega
    obtain ⟨hX, hne⟩ := flip (x := x) hW
    go_upto_region 6 with (first | ((with_reducible refine wpList_store_new H rfl _ _ rfl _ rfl rfl ?_ ?_); (focus rfl); intro w2 H; try simp only [Act.put]) | (go_at_call 9; refine (decode_c _ hX _).mono ?_; rintro e w1 ⟨rfl, hb⟩; replace H := H.grow hb; clear hb; dsimp only))
    generalize bits .xor .u32 a0 (2 ^ (x % 32).toNat % 4294967296) = X at hX hne H ⊢
    cases hE : eqI (decV a0) (decV X) with
    | false =>
      go_wp2_with (first | ((with_reducible refine wpList_load_if rfl 25 _ rfl _ rfl 25 _ (0, 0) _ (H.get (by first | exact List.mem_cons_self | exact List.mem_cons_of_mem _ (List.mem_cons_self) | exact List.mem_cons_of_mem _ (List.mem_cons_of_mem _ (List.mem_cons_self)) | exact List.mem_cons_of_mem _ (List.mem_cons_of_mem _ (List.mem_cons_of_mem _ (List.mem_cons_self))) | exact List.mem_cons_of_mem _ (List.mem_cons_of_mem _ (List.mem_cons_of_mem _ (List.mem_cons_of_mem _ (List.mem_cons_self)))) | exact List.mem_cons_of_mem _ (List.mem_cons_of_mem _ (List.mem_cons_of_mem _ (List.mem_cons_of_mem _ (List.mem_cons_of_mem _ (List.mem_cons_self))))) | exact List.mem_cons_of_mem _ (List.mem_cons_of_mem _ (List.mem_cons_of_mem _ (List.mem_cons_of_mem _ (List.mem_cons_of_mem _ (List.mem_cons_of_mem _ (List.mem_cons_self)))))))) Try.underlying25 rfl (Ins.infoC _) ?_); (simp only [Act.put, List.setIfInBounds_toArray, List.set_cons_succ, List.set_cons_zero])) | ((with_reducible refine wpList_neq_insn rfl _ _ rfl (decV a0) (decV X) ?_ ?_ false hE ?_); (focus rfl); (focus rfl); (simp only [Act.put, List.setIfInBounds_toArray, List.set_cons_succ, List.set_cons_zero])))
      go_ret
      exact ⟨rfl, H.below⟩
    | true =>
      have hN : decV a0 = nilI := (dec_apart hW hX hne).resolve_left fun h => h ((eqI_iff _ _).1 hE)
      have hE2 : eqI (decV a0) nilI = true := by rw [hN]; exact eqI_refl _
      clear hN
      go_wp2_with (first | ((with_reducible refine wpList_load_if rfl 25 _ rfl _ rfl 25 _ (0, 0) _ (H.get (by first | exact List.mem_cons_self | exact List.mem_cons_of_mem _ (List.mem_cons_self) | exact List.mem_cons_of_mem _ (List.mem_cons_of_mem _ (List.mem_cons_self)) | exact List.mem_cons_of_mem _ (List.mem_cons_of_mem _ (List.mem_cons_of_mem _ (List.mem_cons_self))) | exact List.mem_cons_of_mem _ (List.mem_cons_of_mem _ (List.mem_cons_of_mem _ (List.mem_cons_of_mem _ (List.mem_cons_self)))) | exact List.mem_cons_of_mem _ (List.mem_cons_of_mem _ (List.mem_cons_of_mem _ (List.mem_cons_of_mem _ (List.mem_cons_of_mem _ (List.mem_cons_self))))) | exact List.mem_cons_of_mem _ (List.mem_cons_of_mem _ (List.mem_cons_of_mem _ (List.mem_cons_of_mem _ (List.mem_cons_of_mem _ (List.mem_cons_of_mem _ (List.mem_cons_self)))))))) Try.underlying25 rfl (Ins.infoC _) ?_); (simp only [Act.put, List.setIfInBounds_toArray, List.set_cons_succ, List.set_cons_zero])) | ((with_reducible refine wpList_neq_insn rfl _ _ rfl (decV a0) (decV X) ?_ ?_ true hE ?_); (focus rfl); (focus rfl); (simp only [Act.put, List.setIfInBounds_toArray, List.set_cons_succ, List.set_cons_zero])) | ((with_reducible refine wpList_eql_insn rfl _ _ rfl (decV a0) (nilI) ?_ ?_ true hE2 ?_); (focus rfl); (focus rfl); (simp only [Act.put, List.setIfInBounds_toArray, List.set_cons_succ, List.set_cons_zero])) | ((with_reducible refine wpList_builtG rfl 25 _ rfl nilI.cells (by kernel_rfl) ?_); (simp only [Act.put, List.setIfInBounds_toArray, List.set_cons_succ, List.set_cons_zero])))
      go_ret
      exact ⟨rfl, H.below⟩

set_option maxRecDepth 100000 in
theorem lifted (os : Os) (started : os.Started) (H : Type) (enc : TypeId × Value → H) :
    ReturnsInHanded {} Try.checked os 7 .any (Rows.codeBitsSpec.pre6 enc Try.prog Try.f7 Rows.codeBitsRow.domain false) (Rows.codeBitsSpec.post enc Try.prog Try.f7 false true false false) := by
  refine returnsInHanded_of_change (C := Try.checked) own started (by kernel_rfl) Try.func7
    (ChangeSpec.witness6 (enc := enc) (C := Try.checked) false ⟨#[], #[.int .u32 0, .int .i64 0], []⟩ 8 (by kernel_rfl) (by kernel_rfl) (by kernel_rfl) (by kernel_rfl)) ?_
  intro W base args ds gs before hval0 hW hcnd _
  have hval : ∀ (j : Nat) t v, Try.f7.params[j]? = some t → args[j]? = some v → Value.okWide Try.prog W .any base t v := hval0
  have hW' := hW
  obtain ⟨p, q, hA0, hV, rfl, hfz, hnd⟩ := hW
  have hA : DataW.TrodAll enc Try.prog W 0 (fun _ => true) true Try.f7.params.toList args.toList ds p := hA0
  rw [Try.params7] at hA hval
  obtain ⟨v0, vs0, d0, ds0, p0, q0, hargs, rfl, rfl, h0, r0⟩ := trodAll_cons hA
  obtain ⟨v1, vs1, d1, ds1, p1, q1, rfl, rfl, rfl, h1, r1⟩ := trodAll_cons r0
  obtain ⟨rfl, rfl, rfl⟩ := trodAll_nil r1
  obtain rfl : args = #[v0, v1] := by cases args; simp_all
  obtain ⟨rfl, rfl⟩ := trodVars_none hV
  obtain ⟨a0, rfl, rfl, rfl, w0⟩ := open_int Try.underlying22 (hval 0 22 v0 rfl rfl) h0
  obtain ⟨a1, rfl, rfl, rfl, w1⟩ := open_int Try.underlying3 (hval 1 3 v1 rfl rfl) h1
  clear hA0 hval0
  simp only [List.append_nil] at hW'
  refine (walk a0 a1 w0 w1 W).mono fun e W' ⟨he, hb⟩ => ?_
  subst he
  exact ⟨_, rfl, post_flat hW' (fun _ _ _ => (trodAll_cons_mk (shut_bool Try.underlying4 _) trodAll_mk0)) (fun sp => (trodAll_cons_mk (shut_int Try.underlying22 w0) (trodAll_cons_mk (shut_int Try.underlying3 w1) trodAll_mk0))) (fun _ => rfl) (fun may => hb.frame may) (ok_one (by kernel_rfl) rfl (okWide_bool_mk Try.underlying4 _))⟩

theorem over : Rows.codeBitsRow.holds Try.pinned (OpenSpec.ofChange Rows.codeBitsSpec) :=
  OpenClaim.holds_of_wide 7 Try.f7 rfl rfl rfl rfl rfl rfl rfl ⟨rfl, rfl, rfl, rfl, rfl⟩ rfl rfl rfl rfl rfl (by kernel_rfl) Try.func7 (by kernel_rfl)
    (of_decide_eq_true (by kernel_rfl)) (by unfold Func.isWrapper; first | (rw [if_pos (by decide +kernel)]; kernel_rfl) | (rw [if_neg (by decide +kernel)]; exact ⟨rfl, rfl⟩))
    (fun os started H enc _ => lifted os started H enc)

theorem proved : Rows.CodeBitsSaid :=
  over
end Go.Proofs.Ytcmilajlngnibaa.codeBits

namespace Go.Proofs.Ytcmilajlngnibaa
theorem codeBits_holds : Rows.CodeBitsSaid := codeBits.proved
#print axioms codeBits_holds
end Go.Proofs.Ytcmilajlngnibaa
