/- The document's own Drain: plain, and what is under way in it. -/
import Derived.Test.YtjkjbcnafpljoaaUg
namespace Go.Proofs.Ytjkjbcnafpljoaa
open Go.RowKit
set_option linter.unusedVariables false
set_option linter.unusedSimpArgs false

theorem flatR_set {l : List R4} {k : Nat} {s : R4} (h : l[k]? = some s) (x : Int) : (flatR l).set (k * 4 + 3) (vI x) = flatR (l.set k { s with s := x }) := by
  induction l generalizing k with
  | nil => simp at h
  | cons a l ih =>
    cases k with
    | zero => simp at h; subst h; rfl
    | succ k =>
      have := ih (k := k) (by simpa using h)
      have e : (k + 1) * 4 + 3 = (k * 4 + 3) + 4 := by omega
      rw [e]
      have e2 : flatR (a :: l) = [vI a.c, vU a.a, vU a.v, vI a.s] ++ flatR l := rfl
      rw [e2, List.set_append_right _ _ (by simp)]
      simp only [List.length_cons, List.length_nil, Nat.zero_add, Nat.reduceAdd, Nat.add_sub_cancel]
      rw [this]
      rfl
/-- A ticket that is held stands for a store. -/
theorem heldF_mem {c : Int} {l : List R4} {i : Nat} {t : Int} (h : t ∈ heldF c l i) : ∃ k s, t = ((i + k : Nat) : Int) + 1 ∧ l[k]? = some s ∧ s.c = c ∧ s.s = 0 := by
  induction l generalizing i with
  | nil => cases h
  | cons x l ih =>
    rw [heldF] at h
    have up : t ∈ heldF c l (i + 1) → ∃ k s, t = ((i + k : Nat) : Int) + 1 ∧ (x :: l)[k]? = some s ∧ s.c = c ∧ s.s = 0 := fun h => by
      obtain ⟨k, s, e, h1, h2⟩ := ih h
      exact ⟨k + 1, s, by rw [e]; congr 2; omega, by simpa using h1, h2⟩
    split at h
    · rename_i hx
      rcases List.mem_cons.1 h with rfl | h
      · exact ⟨0, x, rfl, rfl, hx.1, hx.2⟩
      · exact up h
    · exact up h
/-- The document's memory, and a row of tickets beside. -/
structure DP (h : Nat) (X : Doc) (L : DocLay) (hv : Value) (l : List Int) (w w' : World) : Prop where
  doc : DocAt h X L w'
  row : w'.ownsRow w.heap.size 3 1 hv l.length (l.map vI)
  goes : Goes (DocFoot h L) w w'
  old : ∀ k, DocFoot h L k → k < w.heap.size
theorem DP.setS {h : Nat} {X : Doc} {L : DocLay} {hv : Value} {l : List Int} {w w' : World} (H : DP h X L hv l w w') (x : Int) : DP h { X with stamps := x } L hv l w (w'.setCell ⟨h, 4, none⟩ (vI x)) := by
  obtain ⟨cur, hf⟩ : ∃ cur, w'.heap[L.fb]? = some (.cells cur 28) := by
    rcases H.doc.first.2 with ⟨h0, _⟩ | ⟨q', cap', cur, h0, hb, hq, _⟩
    · cases h0
    · simp only [Value.slice.injEq, Option.some.injEq, Addr.mk.injEq] at h0
      obtain ⟨⟨rfl, _⟩, _, _⟩ := h0
      exact ⟨cur, hq⟩
  have hfh : L.fb ≠ h := ne_of_type hf H.doc.top (by decide)
  have keep : ∀ k, k ≠ h → (w'.setCell ⟨h, 4, none⟩ (vI x)).heap[k]? = w'.heap[k]? := fun k hk => Below.heap_setCell _ _ _ _ hk
  refine ⟨⟨?_, own_of_block H.doc.first fun k hk => keep k ?_, own_of_block H.doc.all fun k hk => keep k ?_⟩, own_of_block H.row fun k hk => keep k ?_, H.goes.trans (goes_setCell w' (F := DocFoot h L) (.inl rfl) _ _) fun _ _ e => e, H.old⟩
  · rw [setCell_eq_setRow _ _ _ _ _ _ _ H.doc.top]
    exact setRow_heap _ _ _ _ _ _ H.doc.top
  · obtain rfl : L.fb = k := by simpa [Value.ownBlock] using hk
    exact hfh
  · rintro rfl; exact own_ne H.doc.top H.doc.all (by decide) hk
  · rintro rfl
    have := (H.row.lt k hk).1
    have := H.old k (.inl rfl)
    omega
theorem DP.setA {h : Nat} {X : Doc} {L : DocLay} {hv : Value} {l : List Int} {w w' : World} (H : DP h X L hv l w w') {b cap k : Nat} {s : R4} (ea : L.av = .slice (some ⟨b, 0, none⟩) X.all.length cap) (hs : X.all[k]? = some s) (x : Int) : DP h { X with all := X.all.set k { s with s := x } } L hv l w (w'.setCell ⟨b, k * 4 + 3, none⟩ (vI x)) := by
  have hab : L.av.ownBlock = some b := by rw [ea]; rfl
  have hbt : b ≠ h := by
    intro e
    subst e
    exact own_ne H.doc.top H.doc.all (by decide) hab
  obtain ⟨cur, hf⟩ : ∃ cur, w'.heap[L.fb]? = some (.cells cur 28) := by
    rcases H.doc.first.2 with ⟨h0, _⟩ | ⟨q', cap', cur, h0, hb, hq, _⟩
    · cases h0
    · simp only [Value.slice.injEq, Option.some.injEq, Addr.mk.injEq] at h0
      obtain ⟨⟨rfl, _⟩, _, _⟩ := h0
      exact ⟨cur, hq⟩
  have hfb : L.fb ≠ b := by
    intro e
    subst e
    exact own_ne hf H.doc.all (by decide) hab
  have keep : ∀ j, j ≠ b → (w'.setCell ⟨b, k * 4 + 3, none⟩ (vI x)).heap[j]? = w'.heap[j]? := fun j hk => Below.heap_setCell _ _ _ _ hk
  have hst := H.doc.all
  rw [ea] at hst
  have hst2 := (hst.stored (k * 4 + 3) (vI x)).1
  rw [flatR_set hs] at hst2
  refine ⟨⟨?_, own_of_block H.doc.first fun j hk => keep j ?_, ?_⟩, own_of_block H.row fun j hk => keep j ?_, H.goes.trans (goes_setCell w' (F := DocFoot h L) (.inr (.inr hab)) _ _) fun _ _ e => e, H.old⟩
  · rw [keep h (Ne.symm hbt)]; exact H.doc.top
  · obtain rfl : L.fb = j := by simpa [Value.ownBlock] using hk
    exact hfb
  · rw [ea]
    simpa using hst2
  · rintro rfl
    have := (H.row.lt j hk).1
    have := H.old j (.inr (.inr hab))
    omega
end Go.Proofs.Ytjkjbcnafpljoaa
