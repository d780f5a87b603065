/- FetchSees: the plain part. -/
import Derived.Test.YtbdmemjenpnjgaaLc
import Derived.Test.YtbdmemjenpnjgaaRelP
namespace Go.Proofs.Ytbdmemjenpnjgaa
open Go.RowKit
set_option linter.unusedVariables false
set_option linter.unusedSimpArgs false
set_option maxRecDepth 8000

open Go.Shelf Go.Maps
abbrev nW (a x : Nat) : Nt := ⟨1, 0, a, x⟩
abbrev nI (c : Int) : Nt := ⟨4, c, 0, 0⟩
theorem vers_app (tr : List Nt) (n : Nt) (a f : Nat) : vers (tr ++ [n]) a f = vers tr a f ++ (if isW a n then [n.word] else []) := vers_snoc tr n a f
theorem see_plain {tr : List Nt} {c : Int} {a x : Nat} {y : Nt} (h : mayOk tr c a = true) (y1 : isT a y = true) (y2 : isW a y = false) (y3 : wrongB y = false) :
    mayOk (tr ++ [nW a x]) c a = true ∧ mayOk (tr ++ [nW a x] ++ [y, nI c]) c a = true ∧ (∀ z ∈ mayL tr c a 1, z ∈ mayL (tr ++ [nW a x]) c a 1) ∧ x ∈ mayL (tr ++ [nW a x]) c a 1 ∧ mayL (tr ++ [nW a x] ++ [y, nI c]) c a 1 = [x] := by
  unfold mayOk at *
  simp only [Bool.and_eq_true] at h
  obtain ⟨⟨h1, h2⟩, h3⟩ := h
  have r1 : rightL (tr ++ [nW a x]) = true := by rw [rightL_app, h1]; simp [wrongB, h3]
  have e2 : tr ++ [nW a x] ++ [y, nI c] = ((tr ++ [nW a x]) ++ [y]) ++ [nI c] := by simp
  have r2 : rightL (tr ++ [nW a x] ++ [y, nI c]) = true := by rw [e2, rightL_app, rightL_app, r1, y3]; simp [wrongB, h2]
  have w1 : isW a (nW a x) = true := by simp [isW]
  have a1 : au (tr ++ [nW a x]) c a = { au tr c a with nw := (au tr c a).nw + 1 } := by rw [au_snoc]; simp [Au.step, w1]
  have v1 : vers (tr ++ [nW a x]) a 1 = vers tr a 1 ++ [x] := by rw [vers_app, w1]; rfl
  have hle := au_le tr c a
  have hlen := vers_len tr c a 1
  have d1 : (vers (tr ++ [nW a x]) a 1).drop (au (tr ++ [nW a x]) c a).lost = (vers tr a 1).drop (au tr c a).lost ++ [x] := by
    rw [v1, a1]
    exact List.drop_append_of_le_length (by show (au tr c a).lost ≤ _; omega)
  refine ⟨by rw [r1, h2, h3]; rfl, by rw [r2, h2, h3]; rfl, fun z hz => ?_, ?_, ?_⟩
  · rw [mayL_mem] at hz ⊢
    rw [d1]
    exact List.mem_append_left _ hz
  · rw [mayL_mem, d1]
    exact List.mem_append_right _ (List.mem_singleton.2 rfl)
  · have i1 : isW a (nI c) = false := by simp [isW]
    have i2 : isT a (nI c) = false := by simp [isT]
    have i3 : isI c (nI c) = true := by simp [isI]
    have a2 : (au (tr ++ [nW a x] ++ [y, nI c]) c a).lost = (au tr c a).nw + 1 := by
      rw [e2, au_snoc, au_snoc, a1]
      simp [Au.step, y1, y2, i1, i2, i3]
    have v2 : vers (tr ++ [nW a x] ++ [y, nI c]) a 1 = vers tr a 1 ++ [x] := by
      rw [e2, vers_app, vers_app, y2, i1, v1]; simp
    unfold mayL
    rw [a2, v2, ← hlen, List.drop_left]
    rfl
theorem isb_x (c : Int) (w : World) : Calls Try.prog 17 #[vI c] w fun e w' => e = .returned (ntV (nI c)) ∧ w' = w.alloc (.cells (ntA (nI c)) 34) := by
  go_enter Try.func17, Try.ntmps17
  go_wp2
  refine bodyPost_ret (v := ntV (nI c)) (back34 rfl _ _ w.heap.size rfl (LocN.new w (nI c))) rfl ⟨rfl, rfl⟩
def tupAt (u : Value) (i : Nat) : Value := match u with
  | .tuple vs => vs.getD i undef
  | _ => undef
end Go.Proofs.Ytbdmemjenpnjgaa
