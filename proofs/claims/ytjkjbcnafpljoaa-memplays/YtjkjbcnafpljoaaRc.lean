/- Fetch, Stamp; Set, the next ticket, and giving it. -/
import Derived.Test.YtjkjbcnafpljoaaTu
import Derived.Deep.RegionHeld3
namespace Go.Proofs.Ytjkjbcnafpljoaa
open Go.RowKit
set_option linter.unusedVariables false

def stampV (S : Sta) (t : Int) : Int := if t < 1 ∨ S.stamps.length < t then 0 else S.stamps.getD (t - 1).toNat 0
theorem own_addr {w : World} {base size n : Nat} {e : TypeId} {v : Value} {xs : List Value} (h : w.ownsRow base e size v n xs) (hn : 0 < n) : ∃ g cap, v = .slice (some ⟨g, 0, none⟩) n cap ∧ n ≤ cap ∧ cap ≤ maxLen ∧ g < w.heap.size ∧ (∀ j, j < n * size → w.cell? ⟨g, j, none⟩ = xs[j]?) ∧ ∀ j, w.frozen? ⟨g, j, none⟩ = false := by
  have h0 := h
  rcases h.2 with ⟨rfl, rfl⟩ | ⟨g, cap, cur, rfl, _, hg, h1, h2, _⟩
  · omega
  · exact ⟨g, cap, rfl, h1, h2, lt_of_some hg, h0.cellAt, h0.frozenAt⟩
set_option maxRecDepth 4000 in
theorem stamp_c (g : Nat) (S : Sta) (L : Lay) (t : Int) (w : World) (H : MemAt g S L w) : Calls Try.prog 22 #[ptr g 0, vI t] w fun e w' => e = .returned (vI (stampV S t)) ∧ w' = w := by
  have c := H.c2
  by_cases h1 : t < 1
  · rw [stampV, if_pos (.inl h1)]
    go_enter Try.func22, Try.ntmps22
    go_wp2
    go_ret
    exact ⟨rfl, rfl⟩
  · by_cases h2 : S.stamps.length < t
    · rw [stampV, if_pos (.inr h2)]
      obtain ⟨ao, cap, e, _⟩ := own_len H.stamps
      rw [e] at c
      clear H e
      go_enter Try.func22, Try.ntmps22
      go_wp2
      go_ret
      exact ⟨rfl, rfl⟩
    · rw [stampV, if_neg (by omega)]
      obtain ⟨b, cap, e, hc1, hc2, _, hcell, _⟩ := own_addr H.stamps (by omega)
      rw [e] at c
      obtain ⟨k, rfl⟩ : ∃ k : Nat, t = k + 1 := ⟨(t - 1).toNat, by omega⟩
      have hk : k < S.stamps.length := by omega
      have hk1 : (k : Int) < S.stamps.length := by omega
      have hcell1 := hcell k (by omega)
      rw [List.getElem?_map, List.getElem?_eq_getElem hk] at hcell1
      have hs : S.stamps.getD ((k : Int) + 1 - 1).toNat 0 = S.stamps[k] := by
        rw [show ((k : Int) + 1 - 1).toNat = k by omega]; simp [List.getD, List.getElem?_eq_getElem hk]
      rw [hs]
      generalize S.stamps[k] = x at hcell1
      have hsub : (k : Int) + 1 - 1 = k := by omega
      clear hcell hs
      have hw64 : IntKind.i64.wrap (k : Int) = k := by
        simp only [maxLen] at hc2
        rw [IntKind.wrap_i64]; omega
      clear H e
      go_enter Try.func22, Try.ntmps22
      go_wp2
      go_ret
      exact ⟨rfl, rfl⟩
end Go.Proofs.Ytjkjbcnafpljoaa
