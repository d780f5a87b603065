/- The document's own controller, as the machine's blocks hold it. -/
import Derived.Test.YtpmlehfnlodmbaaHg
namespace Go.Proofs.Ytpmlehfnlodmbaa.Doc
open Go.RowKit
set_option linter.unusedVariables false
set_option linter.unusedSimpArgs false

/-- Of an interrupt. -/
structure In8 where
  e : Bool
  l : Bool
  h : Bool
  a : Bool
  rank : Int
  core : Int
  own : Int
  was : Int
def In8.row (s : In8) : List Value := [.bool s.e, .bool s.l, .bool s.h, .bool s.a, vI s.rank, vI s.core, vI s.own, vI s.was]
def flatI (l : List In8) : List Value := l.flatMap In8.row
theorem len_row (s : In8) : s.row.length = 8 := rfl
theorem len_flatI (l : List In8) : (flatI l).length = l.length * 8 := by
  induction l with
  | nil => rfl
  | cons a l ih => simp only [flatI, List.flatMap_cons, List.length_append, List.length_cons, len_row] at ih ⊢; omega
theorem flatI_cons (a : In8) (l : List In8) : flatI (a :: l) = a.row ++ flatI l := rfl
theorem flatI_get {l : List In8} {k : Nat} {s : In8} (h : l[k]? = some s) (j : Nat) (hj : j < 8) : (flatI l)[k * 8 + j]? = s.row[j]? := by
  induction l generalizing k with
  | nil => simp at h
  | cons a l ih =>
    cases k with
    | zero =>
      simp at h; subst h
      rw [flatI_cons, Nat.zero_mul, Nat.zero_add, List.getElem?_append_left (by rw [len_row]; exact hj)]
    | succ k =>
      have := ih (k := k) (by simpa using h)
      rw [flatI_cons, List.getElem?_append_right (by rw [len_row]; omega), len_row, ← this]
      congr 1; omega
theorem flatI_set {l : List In8} {k : Nat} {s s' : In8} (h : l[k]? = some s) (j : Nat) (hj : j < 8) {v : Value} (hs : s.row.set j v = s'.row) : (flatI l).set (k * 8 + j) v = flatI (l.set k s') := by
  induction l generalizing k with
  | nil => simp at h
  | cons a l ih =>
    cases k with
    | zero =>
      simp at h; subst h
      rw [flatI_cons, Nat.zero_mul, Nat.zero_add, List.set_append_left _ _ (by rw [len_row]; exact hj), hs]
      rfl
    | succ k =>
      have := ih (k := k) (by simpa using h)
      rw [flatI_cons, List.set_append_right _ _ (by rw [len_row]; omega), len_row]
      have e : (k + 1) * 8 + j - 8 = k * 8 + j := by omega
      rw [e, this]
      rfl
/-- The document's controller: a row of 32 for each core, and behind them the shared ones; the limits. -/
structure Ref where
  rows : Nat → List In8
  lims : List Int
structure RLay where
  ov : Value
  lv : Value
  rb : Nat → Nat
  rc : Nat → Nat
abbrev RLay.sl (L : RLay) (r : Nat) : Value := .slice (some ⟨L.rb r, 0, none⟩) 32 (L.rc r)
structure RefAt (h n : Nat) (X : Ref) (L : RLay) (w : World) : Prop where
  top : w.heap[h]? = some (.cells #[vI n, L.ov, L.sl n, L.lv] 73)
  own : w.ownsRow 0 71 1 L.ov n ((List.range n).map L.sl)
  row : ∀ r, r ≤ n → w.ownsRow 0 75 8 (L.sl r) 32 (flatI (X.rows r))
  len : ∀ r, r ≤ n → (X.rows r).length = 32
  lim : w.ownsRow 0 3 1 L.lv n (X.lims.map vI)
  limn : X.lims.length = n
  inj : ∀ r s, r ≤ n → s ≤ n → L.rb r = L.rb s → r = s
def RFoot (h n : Nat) (L : RLay) (k : Nat) : Prop := k = h ∨ L.ov.ownBlock = some k ∨ (∃ r, r ≤ n ∧ k = L.rb r) ∨ L.lv.ownBlock = some k
section
variable {h n : Nat} {X : Ref} {L : RLay} {w w' : World}
theorem RefAt.keep (H : RefAt h n X L w) (hb : ∀ k, RFoot h n L k → w'.heap[k]? = w.heap[k]?) : RefAt h n X L w' :=
  ⟨by rw [hb _ (.inl rfl)]; exact H.top, own_of_block H.own fun k hk => hb k (.inr (.inl hk)), fun r hr => own_of_block (H.row r hr) fun k hk => hb k (.inr (.inr (.inl ⟨r, hr, by simpa [Value.ownBlock] using hk.symm⟩))), H.len, own_of_block H.lim fun k hk => hb k (.inr (.inr (.inr hk))), H.limn, H.inj⟩
theorem RefAt.lt (H : RefAt h n X L w) {k : Nat} (hk : RFoot h n L k) : k < w.heap.size := by
  rcases hk with rfl | e | ⟨r, hr, rfl⟩ | e
  · exact lt_of_some H.top
  · exact (H.own.lt _ e).2
  · exact ((H.row r hr).lt _ rfl).2
  · exact (H.lim.lt _ e).2
theorem RefAt.grow (H : RefAt h n X L w) (hb : Below w.heap.size w w') : RefAt h n X L w' := H.keep fun k hk => hb.block k (H.lt hk)
theorem RefAt.c0 (H : RefAt h n X L w) : w.cell? ⟨h, 0, none⟩ = some (vI n) := by rw [cell_of_row _ _ _ _ _ _ H.top]; rfl
theorem RefAt.c1 (H : RefAt h n X L w) : w.cell? ⟨h, 1, none⟩ = some L.ov := by rw [cell_of_row _ _ _ _ _ _ H.top]; rfl
theorem RefAt.c2 (H : RefAt h n X L w) : w.cell? ⟨h, 2, none⟩ = some (L.sl n) := by rw [cell_of_row _ _ _ _ _ _ H.top]; rfl
theorem RefAt.c3 (H : RefAt h n X L w) : w.cell? ⟨h, 3, none⟩ = some L.lv := by rw [cell_of_row _ _ _ _ _ _ H.top]; rfl
/-- Cell j of interrupt k of row r. -/
theorem RefAt.at (H : RefAt h n X L w) {r k : Nat} (hr : r ≤ n) {s : In8} (hs : (X.rows r)[k]? = some s) (j : Nat) (hj : j < 8) : w.cell? ⟨L.rb r, k * 8 + j, none⟩ = s.row[j]? := by
  have hk := (List.getElem?_eq_some_iff.1 hs).1
  rw [H.len r hr] at hk
  rw [(H.row r hr).cellAt (k * 8 + j) (by omega), flatI_get hs j hj]
theorem RefAt.fz (H : RefAt h n X L w) {r : Nat} (hr : r ≤ n) (j : Nat) : w.frozen? ⟨L.rb r, j, none⟩ = false := (H.row r hr).frozenAt j
theorem RefAt.kind (H : RefAt h n X L w) {r : Nat} (hr : r ≤ n) : ∃ C, w.heap[L.rb r]? = some (.cells C 75) := by
  obtain ⟨C, _, hC⟩ := own_kind (H.row r hr) (b := L.rb r) rfl
  exact ⟨C, hC⟩
def Ref.put (X : Ref) (r k : Nat) (s : In8) : Ref := { X with rows := fun i => if i = r then (X.rows i).set k s else X.rows i }
theorem RefAt.set (H : RefAt h n X L w) {r k : Nat} (hr : r ≤ n) {s s' : In8} (hs : (X.rows r)[k]? = some s) (j : Nat) (hj : j < 8) {v : Value} (hv : s.row.set j v = s'.row) : RefAt h n (X.put r k s') L (w.setCell ⟨L.rb r, k * 8 + j, none⟩ v) ∧ Goes (RFoot h n L) w (w.setCell ⟨L.rb r, k * 8 + j, none⟩ v) := by
  obtain ⟨C, hC⟩ := H.kind hr
  have keep : ∀ i, i ≠ L.rb r → (w.setCell ⟨L.rb r, k * 8 + j, none⟩ v).heap[i]? = w.heap[i]? := fun i hi => Below.heap_setCell _ _ _ _ hi
  refine ⟨⟨?_, own_of_block H.own fun i hi => keep i ?_, fun q hq => ?_, fun q hq => ?_, own_of_block H.lim fun i hi => keep i ?_, H.limn, H.inj⟩, goes_setCell w (.inr (.inr (.inl ⟨r, hr, rfl⟩))) _ _⟩
  · rw [keep h (Ne.symm (ne_of_type hC H.top (by decide)))]; exact H.top
  · rintro rfl; exact own_ne hC H.own (by decide) hi
  · by_cases e : q = r
    · subst e
      have := ((H.row q hq).stored (k * 8 + j) v).1
      rw [flatI_set hs j hj hv] at this
      simpa [Ref.put] using this
    · have : (X.put r k s').rows q = X.rows q := by simp [Ref.put, e]
      rw [this]
      exact own_of_block (H.row q hq) fun i hi => keep i fun e2 => e (H.inj q r hq hr (by have : L.rb q = i := by simpa [Value.ownBlock] using hi
                                                                                          rw [this, e2]))
  · by_cases e : q = r
    · subst e; simp [Ref.put, H.len q hq]
    · simp [Ref.put, e, H.len q hq]
  · rintro rfl; exact own_ne hC H.lim (by decide) hi
end
end Go.Proofs.Ytpmlehfnlodmbaa.Doc
