/- Both controllers in one memory, and the law's World. -/
import Derived.Test.YtpmlehfnlodmbaaVc
import Derived.Test.YtpmlehfnlodmbaaKx
namespace Go.Proofs.Ytpmlehfnlodmbaa
open Go.RowKit
set_option linter.unusedVariables false
set_option linter.unusedSimpArgs false

/-- The types of the blocks of the document's own. -/
theorem ref_kind {h n : Nat} {X : Doc.Ref} {M : Doc.RLay} {w : World} (H : Doc.RefAt h n X M w) {k : Nat} (hk : Doc.RFoot h n M k) : ∃ C t, w.heap[k]? = some (.cells C t) ∧ t ≠ 64 ∧ t ≠ 67 ∧ t ≠ 84 ∧ t ≠ 32 := by
  rcases hk with rfl | e | ⟨r, hr, rfl⟩ | e
  · exact ⟨_, 73, H.top, by decide, by decide, by decide, by decide⟩
  · obtain ⟨C, _, hC⟩ := own_kind H.own e
    exact ⟨C, 71, hC, by decide, by decide, by decide, by decide⟩
  · obtain ⟨C, _, hC⟩ := own_kind (H.row r hr) (b := M.rb r) rfl
    exact ⟨C, 75, hC, by decide, by decide, by decide, by decide⟩
  · obtain ⟨C, _, hC⟩ := own_kind H.lim e
    exact ⟨C, 3, hC, by decide, by decide, by decide, by decide⟩
structure PW (B : Nat) (w0 : World) (g h n : Nat) (P : Pg) (X : Doc.Ref) (L : GLay) (M : Doc.RLay) (wb : Nat) (w : World) : Prop where
  kw : KW B w0 g n P L w
  ref : Doc.RefAt h n X M w
  rB : ∀ k, Doc.RFoot h n M k → B ≤ k
  wb_ : w.heap[wb]? = some (.cells #[ptr g 0, ptr h 0] 32)
  lk : Lk n P X
section
variable {B : Nat} {w0 : World} {g h n : Nat} {P Q : Pg} {X Y : Doc.Ref} {L : GLay} {M : Doc.RLay} {wb : Nat} {w w' : World}
theorem PW.c0 (H : PW B w0 g h n P X L M wb w) : w.cell? ⟨wb, 0, none⟩ = some (ptr g 0) := by rw [cell_of_row _ _ _ _ _ _ H.wb_]; rfl
theorem PW.c1 (H : PW B w0 g h n P X L M wb w) : w.cell? ⟨wb, 1, none⟩ = some (ptr h 0) := by rw [cell_of_row _ _ _ _ _ _ H.wb_]; rfl
theorem PW.grow (H : PW B w0 g h n P X L M wb w) (hb : Below w.heap.size w w') : PW B w0 g h n P X L M wb w' :=
  ⟨H.kw.grow hb, H.ref.grow hb, H.rB, by rw [hb.block _ (lt_of_some H.wb_)]; exact H.wb_, H.lk⟩
/-- What is under way: the likeness is lost, or not yet there again. -/
structure PU (B : Nat) (w0 : World) (g h n : Nat) (P : Pg) (X : Doc.Ref) (L : GLay) (M : Doc.RLay) (wb : Nat) (w : World) : Prop where
  kw : KW B w0 g n P L w
  ref : Doc.RefAt h n X M w
  rB : ∀ k, Doc.RFoot h n M k → B ≤ k
  wb_ : w.heap[wb]? = some (.cells #[ptr g 0, ptr h 0] 32)
theorem PW.pu (H : PW B w0 g h n P X L M wb w) : PU B w0 g h n P X L M wb w := ⟨H.kw, H.ref, H.rB, H.wb_⟩
theorem PU.pw (H : PU B w0 g h n P X L M wb w) (lk : Lk n P X) : PW B w0 g h n P X L M wb w := ⟨H.kw, H.ref, H.rB, H.wb_, lk⟩
theorem PU.c0 (H : PU B w0 g h n P X L M wb w) : w.cell? ⟨wb, 0, none⟩ = some (ptr g 0) := by rw [cell_of_row _ _ _ _ _ _ H.wb_]; rfl
theorem PU.c1 (H : PU B w0 g h n P X L M wb w) : w.cell? ⟨wb, 1, none⟩ = some (ptr h 0) := by rw [cell_of_row _ _ _ _ _ _ H.wb_]; rfl
theorem PU.grow (H : PU B w0 g h n P X L M wb w) (hb : Below w.heap.size w w') : PU B w0 g h n P X L M wb w' :=
  ⟨H.kw.grow hb, H.ref.grow hb, H.rB, by rw [hb.block _ (lt_of_some H.wb_)]; exact H.wb_⟩
/-- A call of the document's own. -/
theorem PU.doc (H : PU B w0 g h n P X L M wb w) (T : Doc.RTurn h n M Y w w') : PU B w0 g h n P Y L M wb w' := by
  obtain ⟨T1, T2⟩ := T
  have nf : ∀ {k C t f}, w.heap[k]? = some (.cells C t f) → (t = 64 ∨ t = 67 ∨ t = 84 ∨ t = 32) → ¬ Doc.RFoot h n M k := fun hC ht hk => by
    obtain ⟨D, u, hD, h1, h2, h3, h4⟩ := ref_kind H.ref hk
    rw [hC] at hD
    cases hD
    rcases ht with e | e | e | e
    · exact h1 e
    · exact h2 e
    · exact h3 e
    · exact h4 e
  have gk : ∀ k, GFoot g n L k → w'.heap[k]? = w.heap[k]? := fun k hk => by
    refine T2.block k (H.kw.at_.lt hk) ?_
    rcases hk with rfl | rfl | ⟨c, hc, e⟩
    · obtain ⟨C, hC, _⟩ := H.kw.at_.top; exact nf hC (.inl rfl)
    · obtain ⟨C, hC, _⟩ := H.kw.at_.cor; exact nf hC (.inr (.inl rfl))
    · obtain ⟨C, _, hC⟩ := own_kind (H.kw.at_.wks c hc) e; exact nf hC (.inr (.inr (.inl rfl)))
  exact ⟨⟨H.kw.at_.keep gk, H.kw.foot, H.kw.below.trans (T2.below (Nat.le_trans H.kw.le H.kw.below.size) H.rB), H.kw.le⟩, T1, H.rB, by rw [T2.block wb (lt_of_some H.wb_) (nf H.wb_ (.inr (.inr (.inr rfl))))]; exact H.wb_⟩
/-- A call of the program's. -/
theorem PU.prog (H : PU B w0 g h n P X L M wb w) (T : GTL g n L Q w w') : ∃ L', PU B w0 g h n Q X L' M wb w' := by
  obtain ⟨L', K'⟩ := H.kw.gtl T
  obtain ⟨_, _, T2, _⟩ := T
  refine ⟨L', K', H.ref.keep fun k hk => T2.block k (H.ref.lt hk) ?_, H.rB, ?_⟩
  · obtain ⟨C, t, hC, h1, h2, h3, _⟩ := ref_kind H.ref hk
    exact H.kw.at_.notFoot hC h1 h2 h3
  · rw [T2.block wb (lt_of_some H.wb_) (H.kw.at_.notFoot H.wb_ (by decide) (by decide) (by decide))]; exact H.wb_
end
end Go.Proofs.Ytpmlehfnlodmbaa
