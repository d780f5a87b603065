/- The document's own Order. -/
import Derived.Test.YtjkjbcnafpljoaaVb
namespace Go.Proofs.Ytjkjbcnafpljoaa
open Go.RowKit
set_option linter.unusedVariables false
set_option linter.unusedSimpArgs false

def ordI (all : List R4) (st : Int) : Nat → List Int
  | 0 => []
  | i + 1 => if (all.getD i ⟨0, 0, 0, 0⟩).s = st then ordI all st i ++ [(i : Int) + 1] else ordI all st i
def ordD (all : List R4) : Nat → List Int
  | 0 => []
  | n + 1 => ordD all n ++ ordI all ((n : Int) + 1) all.length
theorem ordI_len (all : List R4) (st : Int) (i : Nat) : (ordI all st i).length ≤ i := by
  induction i with
  | zero => exact Nat.le_refl _
  | succ i ih =>
    rw [ordI]
    split
    · rw [List.length_append, List.length_singleton]; omega
    · omega
theorem ordD_len (all : List R4) (n : Nat) : (ordD all n).length ≤ n * all.length := by
  induction n with
  | zero => simp [ordD]
  | succ n ih =>
    have := ordI_len all ((n : Int) + 1) all.length
    rw [ordD, List.length_append, Nat.succ_mul]
    omega
set_option maxRecDepth 4000 in
set_option maxHeartbeats 2000000 in
theorem orderD_c (h : Nat) (X : Doc) (L : DocLay) (m : Nat) (w : World) (H : DocAt h X L w) (hn : X.all.length ≤ 1000) (hst : X.stamps = m) (hm : m ≤ 1000) : Calls Try.prog 21 #[ptr h 0] w fun e w' => ∃ ha hc, e = .returned (.slice ha (ordD X.all m).length hc) ∧ Tks w (.slice ha (ordD X.all m).length hc) (ordD X.all m) w' := by
  obtain ⟨aa, ac, ea, _, _⟩ := own_len H.all
  have hbig : m * X.all.length ≤ 1000000 := by
    have := Nat.mul_le_mul hm hn
    omega
  go_enter Try.func21, Try.ntmps21
  go_wp2
  go_loopw [3, 4] (fun s3 s4 wr => ∃ st : Nat, st ≤ m ∧ s4 = .int .i64 ((st : Int) + 1) ∧ ∃ ha n hc, s3 = .slice ha n hc ∧ Hid ((ordD X.all st).length = n) ∧ Hid (Tks w (.slice ha n hc) (ordD X.all st) wr)) (fun _ s4 _ => m + 1 - (intOf s4).toNat)
  case atStart => exact ⟨0, Nat.zero_le _, rfl, none, 0, 0, rfl, rfl, World.ownsRow_nil _ _ _ _, Below.refl _ _⟩
  case round =>
    obtain ⟨st, hs, rfl, ha, n, hc, rfl, hln, hH⟩ := hrel
    have T := hH.out
    clear hH
    have H2 := H.grow T.below
    have c4 := H2.c4
    rw [hst] at c4
    have hlm := ordD_len X.all st
    have hmul : st * X.all.length ≤ m * X.all.length := Nat.mul_le_mul hs (Nat.le_refl _)
    by_cases hle : (st : Int) + 1 ≤ m
    · have hw2 : IntKind.i64.wrap ((st : Int) + 1 + 1) = (st : Int) + 1 + 1 := by rw [IntKind.wrap_i64]; omega
      have hmul2 : (st + 1) * X.all.length ≤ m * X.all.length := Nat.mul_le_mul (by omega) (Nat.le_refl _)
      rw [Nat.succ_mul] at hmul2
      go_wp2
      clear c4 H2
      have T0 := T
      clear T
      go_loopw [3, 5] (fun s3 s5 wq => ∃ i : Nat, i ≤ X.all.length ∧ s5 = .int .i64 i ∧ ∃ ha n hc, s3 = .slice ha n hc ∧ Hid ((ordD X.all st ++ ordI X.all ((st : Int) + 1) i).length = n) ∧ Hid (Tks w (.slice ha n hc) (ordD X.all st ++ ordI X.all ((st : Int) + 1) i) wq)) (fun _ s5 _ => X.all.length - (intOf s5).toNat)
      case atStart => exact ⟨0, Nat.zero_le _, rfl, ha, n, hc, rfl, by rw [ordI, List.append_nil]; exact hln, by rw [ordI, List.append_nil]; exact T0⟩
      case round =>
        clear T0 hln
        obtain ⟨i, hi, rfl, ha, n, hc, rfl, hln, hH⟩ := hrel
        have T := hH.out
        clear hH
        have H2 := H.grow T.below
        have c3 := H2.c3
        rw [ea] at c3
        have hil := ordI_len X.all ((st : Int) + 1) i
        by_cases hlt : (i : Int) < X.all.length
        · have hx : X.all[i]? = some X.all[i] := List.getElem?_eq_getElem (by omega)
          have hgd : X.all.getD i ⟨0, 0, 0, 0⟩ = X.all[i] := by simp [List.getD, hx]
          generalize X.all[i] = s at hx hgd
          obtain ⟨b, cap, e2, hrow⟩ := H2.row hx
          rw [ea] at e2
          simp only [Value.slice.injEq] at e2
          obtain ⟨rfl, -, rfl⟩ := e2
          have hi0 : (0 : Int) ≤ i := by omega
          have r3 : World.cell? _ ⟨b, i * 4 + 3, none⟩ = some (vI s.s) := hrow 3 _ rfl
          have hw1 : IntKind.i64.wrap ((i : Int) + 1) = (i : Int) + 1 := by rw [IntKind.wrap_i64]; omega
          clear hrow H2
          by_cases e3 : s.s = (st : Int) + 1
          · rw [e3] at r3
            have eI : ordI X.all ((st : Int) + 1) (i + 1) = ordI X.all ((st : Int) + 1) i ++ [(i : Int) + 1] := by rw [ordI, hgd, if_pos e3]
            replace e3 := show Hid _ from e3
            replace eI := show Hid _ from eI
            go_upto_region 9 with fail
            clear r3 c3
            generalize hl : ordD X.all st ++ ordI X.all ((st : Int) + 1) i = l at T hln
            have hll : l.length ≤ 2000000 := by rw [← hl, List.length_append]; omega
            have hln' := hln.out
            subst hln'
            have hbase := T.below.size
            go_wp2_with (at_builtin; refine wpList_app_intb (by rfl) _ _ (by rfl) w.heap.size (.slice ha l.length hc) l (by rfl) (T.grow (below_alloc _ _)).row (Nat.le_trans hbase (below_alloc _ _).size) _ 0 1 ((i : Int) + 1) (by rfl) (by rw [World.cell?_alloc_new]; rfl) (by omega) ?_; intro b2 acap y2 q1 q2 q3 q4; simp only [Act.put, List.setIfInBounds_toArray, List.set_cons_succ, List.set_cons_zero])
            have T2 := T.app (below_alloc _ _) q1 q2
            have e9 : ordD X.all st ++ ordI X.all ((st : Int) + 1) (i + 1) = l ++ [(i : Int) + 1] := by rw [eI.out, ← List.append_assoc, hl]
            go_roundw
            case rel => exact ⟨i + 1, by omega, by go_num, _, _, _, rfl, by rw [e9]; show _ = _; simp, by rw [e9]; exact T2⟩
            case measure => simp [intOf]; omega
          · have e3' : (s.s == (st : Int) + 1) = false := by simpa using e3
            have eI : ordI X.all ((st : Int) + 1) (i + 1) = ordI X.all ((st : Int) + 1) i := by rw [ordI, hgd, if_neg e3]
            replace eI := show Hid _ from eI
            go_wp2
            go_roundw
            case rel => exact ⟨i + 1, by omega, by go_num, ha, n, hc, rfl, by rw [eI.out]; exact hln, by rw [eI.out]; exact T⟩
            case measure => simp [intOf]; omega
        · obtain rfl : i = X.all.length := by omega
          go_wp2
          go_roundw
          case rel => exact ⟨st + 1, by omega, by go_num, ha, n, hc, rfl, by rw [ordD]; exact hln, by rw [ordD]; exact T⟩
          case measure => simp [intOf]; omega
    · obtain rfl : st = m := by omega
      have hln' := hln.out
      subst hln'
      go_wp2
      go_ret
      exact ⟨ha, hc, rfl, T⟩
end Go.Proofs.Ytjkjbcnafpljoaa
