/- The orders are one; Fetch. -/
import Derived.Test.YtjkjbcnafpljoaaVf
namespace Go.Proofs.Ytjkjbcnafpljoaa
open Go.RowKit
set_option linter.unusedVariables false
set_option linter.unusedSimpArgs false

theorem hF_mem2 {c : Int} {l : List R4} {i : Nat} {y : Lt} (h : y ∈ hF c l i) : ∃ k s, y = (⟨s.a, s.v, ((i + k : Nat) : Int) + 1⟩ : Lt) ∧ l[k]? = some s ∧ s.c = c ∧ s.s = 0 := by
  induction l generalizing i with
  | nil => cases h
  | cons x l ih =>
    rw [hF] at h
    have up : y ∈ hF c l (i + 1) → ∃ k s, y = (⟨s.a, s.v, ((i + k : Nat) : Int) + 1⟩ : Lt) ∧ (x :: l)[k]? = some s ∧ s.c = c ∧ s.s = 0 := fun h => by
      obtain ⟨k, s, e, h1, h2⟩ := ih h
      exact ⟨k + 1, s, by rw [e, show i + 1 + k = i + (k + 1) by omega], by simpa using h1, h2⟩
    split at h
    · rename_i hx
      rcases List.mem_cons.1 h with rfl | h
      · exact ⟨0, x, rfl, rfl, hx⟩
      · exact up h
    · exact up h
theorem Lk.toBij {S : Sta} {X : Doc} (h : Lk S X) : Bij S := by
  have key : ∀ (k : Nat) l, S.bufs[k]? = some l → ∀ s ∈ l, ∃ (j : Nat) (r : R4), s.t = (j : Int) + 1 ∧ X.all[j]? = some r ∧ r.c = k ∧ r.s = 0 := fun k l hl s hs => by
    have hk : k < S.bufs.length := (List.getElem?_eq_some_iff.1 hl).1
    rw [h.bufs k hk] at hl
    cases hl
    obtain ⟨j, r, e, h1, h2, h3⟩ := hF_mem2 hs
    rw [Nat.zero_add] at e
    exact ⟨j, r, by rw [e], h1, h2, h3⟩
  refine ⟨h.st2.inj, h.st2.sur, fun l hl s hs => ?_, fun k m l n hkm hl hn s hs u hu => ?_⟩
  · obtain ⟨k, hk⟩ := List.mem_iff_getElem?.1 hl
    obtain ⟨j, r, e, h1, h2, h3⟩ := key k l hk s hs
    rw [e, show ((j : Int) + 1 - 1).toNat = j by omega, h.stamps, List.getElem?_map, h1]
    simp [h3]
  · obtain ⟨j, r, e, h1, h2, h3⟩ := key k l hl s hs
    obtain ⟨j', r', e', h1', h2', h3'⟩ := key m n hn u hu
    intro e9
    have : j = j' := by omega
    subst this
    rw [h1] at h1'
    cases h1'
    omega
theorem ord_eq {S : Sta} {X : Doc} (h : Lk S X) : orderL S = ordD X.all S.reached.toNat := by
  have hp := h.st2.pos
  obtain ⟨h1, h2⟩ := ord_at h S.reached.toNat (by omega)
  have hl : (orderL S).length = S.reached.toNat := by rw [orderL, ordF_len, List.length_replicate]
  apply List.ext_getElem?
  intro i
  by_cases hi : i < S.reached.toNat
  · obtain ⟨k, e1, e2⟩ := h2 i hi
    rw [e2]
    have := ord_get h.toBij h.st2.bnd hp e1 (by omega)
    rw [show ((i : Int) + 1 - 1).toNat = i by omega] at this
    exact this
  · rw [List.getElem?_eq_none (by omega), List.getElem?_eq_none (by omega)]
def fetchOk (S : Sta) (a : Int) : Bool := (a % 4 == 0) && withinB S a
def fetchV (S : Sta) (a : Int) : Int := if fetchOk S a then (if a % 8 = 4 then (S.words.getD (a / 8).toNat (0, 0)).1 / 4294967296 % 4294967296 else (S.words.getD (a / 8).toNat (0, 0)).1 % 4294967296) else 0
set_option maxRecDepth 4000 in
theorem fetch_c (g : Nat) (S : Sta) (L : Lay) (a : Int) (w : World) (H : MemAt g S L w) (hn : S.words.length ≤ 8192) (hA : U64 a) : Calls Try.prog 45 #[ptr g 0, vU a] w fun e w' => e = .returned (.tuple #[.int .u32 (fetchV S a), vI (argE (fetchOk S a))]) ∧ w' = w := by
  have a0 := hA.1
  have a1 := hA.2
  have t1 : a.tmod 4 = a % 4 := Int.tmod_eq_emod_of_nonneg a0
  have w1 : IntKind.u64.wrap (a % 4) = a % 4 := by rw [IntKind.wrap_u64]; omega
  unfold fetchV fetchOk
  cases h4 : a % 4 == 0
  · have h4' : (a % 4 != 0) = true := by simpa using h4
    go_enter Try.func45, Try.ntmps45
    go_wp2
    go_ret2
    exact ⟨rfl, rfl⟩
  · have h4' : (a % 4 != 0) = false := by simpa using h4
    have h40 : a % 4 = 0 := by simpa using h4
    cases hw : withinB S a
    · go_enter Try.func45, Try.ntmps45
      go_wp2_with (go_at_call 54; refine (within_c g S L a _ H hn).mono ?_; rintro e w' ⟨rfl, rfl⟩; dsimp only; rw [hw])
      go_ret2
      exact ⟨rfl, rfl⟩
    · have hlt : a < 8 * S.words.length := by simpa [withinB] using hw
      have hk : (a / 8).toNat < S.words.length := by omega
      have hx : S.words[(a / 8).toNat]? = some S.words[(a / 8).toNat] := List.getElem?_eq_getElem hk
      have hg : S.words.getD (a / 8).toNat (0, 0) = S.words[(a / 8).toNat] := by rw [List.getD_eq_getElem?_getD, hx]; rfl
      rw [hg]
      generalize S.words[(a / 8).toNat] = s at hx
      obtain ⟨c1, _⟩ := H.cw hx
      have c0 := H.c0
      have t2 : a.tdiv 8 = a / 8 := Int.tdiv_eq_ediv_of_nonneg a0
      have w2 : IntKind.u64.wrap (a / 8) = a / 8 := by rw [IntKind.wrap_u64]; omega
      have t3 : a.tmod 8 = a % 8 := Int.tmod_eq_emod_of_nonneg a0
      have w3 : IntKind.u64.wrap (a % 8) = a % 8 := by rw [IntKind.wrap_u64]; omega
      have hd0 : 0 ≤ a / 8 := by omega
      have hd1 : a / 8 < S.words.length := by omega
      by_cases h8 : a % 8 = 4
      · rw [if_pos h8]
        rw [h8] at w3 t3
        go_enter Try.func45, Try.ntmps45
        go_wp2_with (go_at_call 54; refine (within_c g S L a _ H hn).mono ?_; rintro e w' ⟨rfl, rfl⟩; dsimp only; rw [hw])
        go_ret2
        exact ⟨rfl, rfl⟩
      · have h80 : a % 8 = 0 := by omega
        rw [if_neg h8]
        rw [h80] at w3 t3
        go_enter Try.func45, Try.ntmps45
        go_wp2_with (go_at_call 54; refine (within_c g S L a _ H hn).mono ?_; rintro e w' ⟨rfl, rfl⟩; dsimp only; rw [hw])
        go_ret2
        exact ⟨rfl, rfl⟩
end Go.Proofs.Ytjkjbcnafpljoaa
