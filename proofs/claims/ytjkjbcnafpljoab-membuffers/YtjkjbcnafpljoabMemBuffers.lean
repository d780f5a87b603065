/- For all first values and all values: of two cores that each store one word and read the other's both read what was there before, as long as nothing drains, and both see both when all has: MemBuffers returns true, whatever its arguments. -/
import Derived.Test.YtjkjbcnafpljoabKn
import Derived.Test.YtjkjbcnafpljoabFlat
namespace Go.Proofs.Ytjkjbcnafpljoab.memBuffers
open Go.ChangeShapes Go.WideShapes Go.ChangeAt Go.RowKit
set_option linter.unusedVariables false
set_option linter.unusedSimpArgs false

theorem own : ownKnob Try.prog.godebug = none := by kernel_rfl
def m0 : Sta := newS 2 2 1
def m1 (a : Int) : Sta := setS m0 0 a
def m2 (a b : Int) : Sta := setS (m1 a) 8 b
def m3 (a b x : Int) : Sta := storeS (m2 a b) 0 0 x
def m4 (a b x y : Int) : Sta := storeS (m3 a b x) 1 8 y
def m5 (a b x y : Int) : Sta := flushS (m4 a b x y) 0
def m6 (a b x y : Int) : Sta := flushS (m5 a b x y) 1
theorem o0 : m0.Ok := new_ok (by decide)
theorem o1 (a : Int) : (m1 a).Ok := o0.set _ _
theorem o2 (a b : Int) : (m2 a b).Ok := (o1 a).set _ _
theorem o3 (a b x : Int) : (m3 a b x).Ok := (o2 a b).store _ _ _ (by decide)
theorem o4 (a b x y : Int) : (m4 a b x y).Ok := (o3 a b x).store _ _ _ (by decide)
theorem o5 (a b x y : Int) : (m5 a b x y).Ok := (o4 a b x y).flush _
theorem o6 (a b x y : Int) : (m6 a b x y).Ok := (o5 a b x y).flush _
set_option maxRecDepth 8000 in
set_option maxHeartbeats 4000000 in
theorem walk (a b x y : Int) (w0 : (Lit.int .u64 a).wf = true) (w1 : (Lit.int .u64 b).wf = true) (w2 : (Lit.int .u64 x).wf = true) (w3 : (Lit.int .u64 y).wf = true) (w : World) : Calls Try.prog 3 #[.int .u64 a, .int .u64 b, .int .u64 x, .int .u64 y] w fun e w' => e = .returned (.bool true) ∧ Below w.heap.size w w' := by
  have f1 : setE m0 0 = 0 := by kernel_rfl
  have f2 : setE (m1 a) 8 = 0 := by kernel_rfl
  have f3 : storeE (m2 a b) 0 0 = 0 := by kernel_rfl
  have f4 : storeT (m2 a b) 0 0 = 1 := by kernel_rfl
  have f5 : storeE (m3 a b x) 1 8 = 0 := by kernel_rfl
  have f6 : storeT (m3 a b x) 1 8 = 2 := by kernel_rfl
  have f7 : loadP (m4 a b x y) 0 8 = (b, 0) := by kernel_rfl
  have f8 : loadP (m4 a b x y) 1 0 = (a, 0) := by kernel_rfl
  have f9 : hasCoreB (m4 a b x y) 0 = true := by kernel_rfl
  have f10 : hasCoreB (m5 a b x y) 1 = true := by kernel_rfl
  have f11 : loadP (m6 a b x y) 0 8 = (y, 2) := by kernel_rfl
  have f12 : loadP (m6 a b x y) 1 0 = (x, 1) := by kernel_rfl
  have s2 : (m2 a b).stamps.length < 1000000 := of_decide_eq_true (by kernel_rfl)
  have s3 : (m3 a b x).stamps.length < 1000000 := of_decide_eq_true (by kernel_rfl)
  have s4 : (m4 a b x y).stamps.length < 1000000 := of_decide_eq_true (by kernel_rfl)
  have s5 : (m5 a b x y).stamps.length < 1000000 := of_decide_eq_true (by kernel_rfl)
  have u0 : U64 0 := u64_of (by decide)
  have u8 : U64 8 := u64_of (by decide)
  go_enter Try.func3, Try.ntmps3
  go_upto_region 3 with (first | (go_at_call 5; refine (known_c _).mono ?_; rintro e x1 ⟨rfl, hb1⟩; dsimp only) | (go_at_call 6; refine (new_l 2 2 1 _ (by decide)).mono ?_; rintro e x2 ⟨g, rfl, H0⟩; dsimp only))
  replace H0 : LR x1 g m0 [] x2 := H0
  go_upto_region 5 with (first | (go_at_call 7; refine (set_l H0 o0 0 a u0).mono ?_; rintro e x3 ⟨rfl, H1⟩; dsimp only; rw [f1]; replace H1 : LR x1 g (m1 a) [] x3 := H1; clear H0) | (go_at_call 7; refine (set_l H1 (o1 a) 8 b u8).mono ?_; rintro e x4 ⟨rfl, H2⟩; dsimp only; rw [f2]))
  replace H2 : LR x1 g (m2 a b) [] x4 := H2
  go_upto_region 6 with (go_at_call 8; refine (store_l H2 (o2 a b) 0 0 x u0 s2).mono ?_; rintro e x5 ⟨rfl, H3⟩; dsimp only; rw [f3, f4])
  replace H3 : LR x1 g (m3 a b x) [] x5 := H3
  go_upto_region 7 with (go_at_call 8; refine (store_l H3 (o3 a b x) 1 8 y u8 s3).mono ?_; rintro e x6 ⟨rfl, H4⟩; dsimp only; rw [f5, f6])
  replace H4 : LR x1 g (m4 a b x y) [] x6 := H4
  go_upto_region 8 with (go_at_call 9; refine (load_l H4 (o4 a b x y) 0 8 u8).mono ?_; rintro e x7 ⟨rfl, H5⟩; dsimp only; rw [f7])
  go_upto_region 9 with (go_at_call 9; refine (load_l H5 (o4 a b x y) 1 0 u0).mono ?_; rintro e x8 ⟨rfl, H6⟩; dsimp only; rw [f8])
  go_upto_region 10 with (go_at_call 10; refine (flush_l H6 (o4 a b x y) 0 s4 f9).mono ?_; rintro e x9 ⟨v1, rfl, H7⟩; dsimp only)
  replace H7 : LR x1 g (m5 a b x y) [] x9 := H7.less fun _ h => by cases h
  go_upto_region 11 with (go_at_call 10; refine (flush_l H7 (o5 a b x y) 1 s5 f10).mono ?_; rintro e xa ⟨v2, rfl, H8⟩; dsimp only)
  replace H8 : LR x1 g (m6 a b x y) [] xa := H8.less fun _ h => by cases h
  go_upto_region 12 with (go_at_call 9; refine (load_l H8 (o6 a b x y) 0 8 u8).mono ?_; rintro e xb ⟨rfl, H9⟩; dsimp only; rw [f11])
  go_upto_region 13 with (go_at_call 9; refine (load_l H9 (o6 a b x y) 1 0 u0).mono ?_; rintro e xc ⟨rfl, Ha⟩; dsimp only; rw [f12])
  go_wp2
  go_ret
  exact ⟨rfl, below_then hb1 (Nat.le_refl _) Ha.below⟩

set_option maxRecDepth 100000 in
theorem lifted (os : Os) (started : os.Started) (H : Type) (enc : TypeId × Value → H) :
    ReturnsInHanded {} Try.checked os 3 .any (Rows.memBuffersSpec.pre6 enc Try.prog Try.f3 Rows.memBuffersRow.domain false) (Rows.memBuffersSpec.post enc Try.prog Try.f3 false true false false) := by
  refine returnsInHanded_of_change (C := Try.checked) own started (by kernel_rfl) Try.func3
    (ChangeSpec.witness6 (enc := enc) (C := Try.checked) false ⟨#[], #[.int .u64 0, .int .u64 0, .int .u64 0, .int .u64 0], []⟩ 8 (by kernel_rfl) (by kernel_rfl) (by kernel_rfl) (by kernel_rfl)) ?_
  intro W base args ds gs before hval0 hW hcnd _
  have hval : ∀ (j : Nat) t v, Try.f3.params[j]? = some t → args[j]? = some v → Value.okWide Try.prog W .any base t v := hval0
  have hW' := hW
  obtain ⟨p, q, hA0, hV, rfl, hfz, hnd⟩ := hW
  have hA : DataW.TrodAll enc Try.prog W 0 (fun _ => true) true Try.f3.params.toList args.toList ds p := hA0
  rw [Try.params3] at hA hval
  obtain ⟨v0, vs0, d0, ds0, p0, q0, hargs, rfl, rfl, h0, r0⟩ := trodAll_cons hA
  obtain ⟨v1, vs1, d1, ds1, p1, q1, rfl, rfl, rfl, h1, r1⟩ := trodAll_cons r0
  obtain ⟨v2, vs2, d2, ds2, p2, q2, rfl, rfl, rfl, h2, r2⟩ := trodAll_cons r1
  obtain ⟨v3, vs3, d3, ds3, p3, q3, rfl, rfl, rfl, h3, r3⟩ := trodAll_cons r2
  obtain ⟨rfl, rfl, rfl⟩ := trodAll_nil r3
  obtain rfl : args = #[v0, v1, v2, v3] := by cases args; simp_all
  obtain ⟨rfl, rfl⟩ := trodVars_none hV
  obtain ⟨a0, rfl, rfl, rfl, w0⟩ := open_int Try.underlying22 (hval 0 22 v0 rfl rfl) h0
  obtain ⟨a1, rfl, rfl, rfl, w1⟩ := open_int Try.underlying22 (hval 1 22 v1 rfl rfl) h1
  obtain ⟨a2, rfl, rfl, rfl, w2⟩ := open_int Try.underlying22 (hval 2 22 v2 rfl rfl) h2
  obtain ⟨a3, rfl, rfl, rfl, w3⟩ := open_int Try.underlying22 (hval 3 22 v3 rfl rfl) h3
  clear hA0 hval0
  simp only [List.append_nil] at hW'
  refine (walk a0 a1 a2 a3 w0 w1 w2 w3 W).mono fun e W' ⟨he, hb⟩ => ?_
  subst he
  exact ⟨_, rfl, post_flat hW' (fun _ _ _ => (trodAll_cons_mk (shut_bool Try.underlying4 _) trodAll_mk0)) (fun sp => (trodAll_cons_mk (shut_int Try.underlying22 w0) (trodAll_cons_mk (shut_int Try.underlying22 w1) (trodAll_cons_mk (shut_int Try.underlying22 w2) (trodAll_cons_mk (shut_int Try.underlying22 w3) trodAll_mk0))))) (fun _ => rfl) (fun may => hb.frame may) (ok_one (by kernel_rfl) rfl (okWide_bool_mk Try.underlying4 _))⟩

theorem over : Rows.memBuffersRow.holds Try.pinned (OpenSpec.ofChange Rows.memBuffersSpec) :=
  OpenClaim.holds_of_wide 3 Try.f3 rfl rfl rfl rfl rfl rfl rfl ⟨rfl, rfl, rfl, rfl, rfl⟩ rfl rfl rfl rfl rfl (by kernel_rfl) Try.func3 (by kernel_rfl)
    (of_decide_eq_true (by kernel_rfl)) (by unfold Func.isWrapper; first | (rw [if_pos (by decide +kernel)]; kernel_rfl) | (rw [if_neg (by decide +kernel)]; exact ⟨rfl, rfl⟩))
    (fun os started H enc _ => lifted os started H enc)

theorem proved : Rows.MemBuffersSaid :=
  over
end Go.Proofs.Ytjkjbcnafpljoab.memBuffers

namespace Go.Proofs.Ytjkjbcnafpljoab
theorem memBuffers_holds : Rows.MemBuffersSaid := memBuffers.proved
#print axioms memBuffers_holds
end Go.Proofs.Ytjkjbcnafpljoab
