/- May: what holds between its rounds. -/
import Derived.Test.YtbdmemjenpnjgaaOn
namespace Go.Proofs.Ytbdmemjenpnjgaa
open Go.RowKit
set_option linter.unusedVariables false
set_option linter.unusedSimpArgs false
set_option maxRecDepth 8000

open Go.Shelf Go.Maps
theorem PastAt.turn {G : Gh} {S : Pst} {M B : Nat} {W W' : World} (h : PastAt G S M W) (hw : G.bw < B) (hl : G.bl < B) (hn : G.bn < B) (t : Rg.Turn B W W') : PastAt G S M W' :=
  h.keep fun k hk => by
    rcases hk with rfl | rfl | rfl | rfl | ⟨s, hs⟩
    · rw [t.cells h.hd, h.hd]
    · exact t.low hw (h.lt (.inr (.inl rfl)))
    · exact t.low hl (h.lt (.inr (.inr (.inl rfl))))
    · exact t.low hn (h.lt (.inr (.inr (.inr (.inl rfl)))))
    · obtain ⟨C, _, hC⟩ := own_kind (h.row s) hs
      rw [t.cells hC, hC]
theorem foot_cells {G : Gh} {S : Pst} {M b : Nat} {t : TypeId} {C : Array Value} {W : World} (h : PastAt G S M W) (hb : W.heap[b]? = some (.cells C t)) (h1 : t ≠ 69) (h2 : t ≠ 3) : ¬ Foot G b := by
  rintro (rfl | rfl | rfl | rfl | ⟨s, hs⟩)
  · exact ne_of_type hb h.hd h1 rfl
  · obtain ⟨_, _, e⟩ := h.mw.is; rw [e] at hb; cases hb
  · obtain ⟨_, _, e⟩ := h.ml.is; rw [e] at hb; cases hb
  · obtain ⟨_, _, e⟩ := h.mn.is; rw [e] at hb; cases hb
  · exact own_ne hb (h.row s) h2 hs
theorem foot_own {G : Gh} {S : Pst} {M base size n b : Nat} {t : TypeId} {v : Value} {xs : List Value} {W : World} (h : PastAt G S M W) (R : W.ownsRow base t size v n xs) (h1 : t ≠ 69) (h2 : t ≠ 3) (hb : v.ownBlock = some b) : ¬ Foot G b := by
  obtain ⟨C, _, hC⟩ := own_kind R hb
  exact foot_cells h hC h1 h2
theorem boxed_goes {F : Nat → Prop} {q : Nat} {t : TypeId} {v : Value} {W W' : World} (h : Boxed W q t v) (g : Goes F W W') (hn : ¬ F q) : Boxed W' q t v := (g.block q h.lt hn).trans h
theorem own_goes {F : Nat → Prop} {W W' : World} {base size n : Nat} {e : TypeId} {v : Value} {xs : List Value} (h : W.ownsRow base e size v n xs) (g : Goes F W W') (hn : ∀ k, v.ownBlock = some k → ¬ F k) : W'.ownsRow base e size v n xs := own_of_block h fun k hk => g.block k (h.lt k hk).2 (hn k hk)
/-- The places of May's own variables. -/
structure MyP where
  pb : Nat
  vb : Nat
  b1 : Nat
  b2 : Nat
  ab : Nat
  cb : Nat
/-- Behind some of the notes that bear on it. -/
structure MyI (w : World) (B : Nat) (X : MyP) (v : Value) (c a f : Nat) (fl : List Nt) (k : Nat) (W : World) : Prop where
  past : ∃ G, PastAt G (pst fl) (2 * k) W ∧ Boxed W X.pb 54 (ptr G.p 0) ∧ G.bw < B ∧ G.bl < B ∧ G.bn < B ∧ ∀ i, Foot G i → w.heap.size ≤ i ∧ i ≠ X.cb
  vs : ∃ u, Boxed W X.vb 26 u ∧ W.ownsRow w.heap.size 24 1 u (vers fl a f).length (wrdV (vers fl a f))
  x1 : Boxed W X.b1 22 v
  x2 : Boxed W X.b2 59 (clo 36 #[ptr X.ab 0, ptr X.cb 0])
  x3 : Boxed W X.ab 23 (vU a)
  x4 : Boxed W X.cb 3 (vI c)
  low : Below w.heap.size w W
  hv : w.heap.size ≤ X.vb
  len : fl.length ≤ k
section
variable {w : World} {B : Nat} {X : MyP} {v : Value} {c a f : Nat} {fl : List Nt} {k : Nat} {W W' : World}
theorem MyI.turn (h : MyI w B X v c a f fl k W) (hB : w.heap.size ≤ B) (t : Rg.Turn B W W') : MyI w B X v c a f fl k W' := by
  obtain ⟨G, h1, h2, h3, h4, h5, h6⟩ := h.past
  obtain ⟨u, h7, h8⟩ := h.vs
  exact ⟨⟨G, h1.turn h3 h4 h5 t, boxed_turn h2 t, h3, h4, h5, h6⟩, ⟨u, boxed_turn h7 t, t.own h8⟩, boxed_turn h.x1 t, boxed_turn h.x2 t, boxed_turn h.x3 t, boxed_turn h.x4 t, h.low.trans (t.below hB h.low.size), h.hv, h.len⟩
theorem MyI.grow (h : MyI w B X v c a f fl k W) (t : Below W.heap.size W W') : MyI w B X v c a f fl k W' := by
  obtain ⟨G, h1, h2, h3, h4, h5, h6⟩ := h.past
  obtain ⟨u, h7, h8⟩ := h.vs
  exact ⟨⟨G, h1.grow t, boxed_grow h2 t, h3, h4, h5, h6⟩, ⟨u, boxed_grow h7 t, own_of_block h8 fun k hk => t.block k (h8.lt k hk).2⟩, boxed_grow h.x1 t, boxed_grow h.x2 t, boxed_grow h.x3 t, boxed_grow h.x4 t, h.low.trans (t.mono h.low.size), h.hv, h.len⟩
theorem MyI.next (h : MyI w B X v c a f fl k W) : MyI w B X v c a f fl (k + 1) W := by
  obtain ⟨G, h1, h2⟩ := h.past
  exact ⟨⟨G, h1.mono (by omega), h2⟩, h.vs, h.x1, h.x2, h.x3, h.x4, h.low, h.hv, by have := h.len; omega⟩
/-- Behind add: the versions are still as they were. -/
theorem MyI.added (h : MyI w B X v c a f fl k W) {G : Gh} {n : Nt} (P : PastAt G (pst fl) (2 * k) W) (hp : Boxed W X.pb 54 (ptr G.p 0)) (hw : G.bw < B) (hl : G.bl < B) (hn : G.bn < B) (hF : ∀ i, Foot G i → w.heap.size ≤ i ∧ i ≠ X.cb) {e : Ending} (r : AddR G ((pst fl).add n) (2 * k + 2) W e W') :
    e = .returned (.tuple #[]) ∧ (∃ G', PastAt G' (pst (fl ++ [n])) (2 * (k + 1)) W' ∧ Boxed W' X.pb 54 (ptr G'.p 0) ∧ G'.bw < B ∧ G'.bl < B ∧ G'.bn < B ∧ ∀ i, Foot G' i → w.heap.size ≤ i ∧ i ≠ X.cb) ∧ (∃ u, Boxed W' X.vb 26 u ∧ W'.ownsRow w.heap.size 24 1 u (vers fl a f).length (wrdV (vers fl a f))) ∧ Boxed W' X.b1 22 v ∧ Boxed W' X.b2 59 (clo 36 #[ptr X.ab 0, ptr X.cb 0]) ∧ Boxed W' X.ab 23 (vU a) ∧ Boxed W' X.cb 3 (vI c) ∧ Below w.heap.size w W' ∧ Goes (Foot G) W W' := by
  obtain ⟨he, G', e1, e2, e3, e4, P', hg, hf⟩ := r
  obtain ⟨u, h7, h8⟩ := h.vs
  refine ⟨he, ⟨G', by rw [pst_snoc]; exact P', by rw [e1]; exact boxed_goes hp hg (foot_cells P hp (by decide) (by decide)), by omega, by omega, by omega, fun i hi => ?_⟩, ⟨u, boxed_goes h7 hg (foot_cells P h7 (by decide) (by decide)), own_goes h8 hg fun k hk => foot_own P h8 (by decide) (by decide) hk⟩, boxed_goes h.x1 hg (foot_cells P h.x1 (by decide) (by decide)), boxed_goes h.x2 hg (foot_cells P h.x2 (by decide) (by decide)), boxed_goes h.x3 hg (foot_cells P h.x3 (by decide) (by decide)), boxed_goes h.x4 hg (fun q => (hF _ q).2 rfl), h.low.trans (hg.below h.low.size fun i hi => (hF i hi).1), hg⟩
  rcases hf i hi with q | q
  · exact hF i q
  · have := h.x4.lt
    exact ⟨Nat.le_trans h.low.size q, by omega⟩
end
end Go.Proofs.Ytbdmemjenpnjgaa
