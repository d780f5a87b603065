/- What the notes so far tell, in memory. -/
import Derived.Test.YtbdmemjenpnjgaaPt
namespace Go.Proofs.Ytbdmemjenpnjgaa
open Go.RowKit
set_option linter.unusedVariables false
set_option linter.unusedSimpArgs false
set_option maxRecDepth 8000

open Go.Shelf Go.Maps
/-- Where it lies. -/
structure Gh where
  p : Nat
  bw : Nat
  bl : Nat
  bn : Nat
  val : Sl → Value
def Gh.set (G : Gh) (s : Sl) (u : Value) : Gh := { G with val := fun t => if t = s then u else G.val t }
def Pst.put (S : Pst) (s : Sl) (l : List Nat) : Pst := { S with ms := fun t => if t = s then l else S.ms t }
abbrev nilS : Value := .slice none 0 0
def pcells (G : Gh) (S : Pst) : Array Value := #[vI S.now, .map (some G.bw), .map (some G.bl), G.val .al, vI (S.isb 0), vI (S.isb 1), vI (S.isb 2), vI (S.isb 3), vI (S.isb 4), vI (S.isb 5), vI (S.isb 6), vI (S.isb 7), .map (some G.bn)]
def mapW (b M : Nat) (v : Nat → Value) (w : World) : Prop := ∃ f, MapF Try.prog 23 b M f w ∧ ∀ a : Nat, a < 18446744073709551616 → (f (vU a)).getD nilS = v a
def mapN (b M : Nat) (v : Nat → Nat → Nat) (w : World) : Prop := ∃ f, MapF Try.prog 73 b M f w ∧ ∀ a x : Nat, a < 18446744073709551616 → x < 4294967296 → (f (.agg #[vU a, v32 x])).getD (vI 0) = vI (v a x)
structure PastAt (G : Gh) (S : Pst) (M : Nat) (w : World) : Prop where
  hd : w.heap[G.p]? = some (.cells (pcells G S) 69)
  mw : mapW G.bw M (fun a => G.val (.wr a)) w
  ml : mapW G.bl M (fun a => G.val (.ln a)) w
  mn : mapN G.bn M S.new w
  row : ∀ s, w.ownsRow 0 3 1 (G.val s) (S.ms s).length (numV (S.ms s))
  len : ∀ s, (S.ms s).length ≤ M
  apart : ∀ s t, s ≠ t → (G.val s).ownBlock = none ∨ (G.val s).ownBlock ≠ (G.val t).ownBlock
  ne1 : G.bw ≠ G.bl
  ne2 : G.bw ≠ G.bn
  ne3 : G.bl ≠ G.bn
def Foot (G : Gh) (k : Nat) : Prop := k = G.p ∨ k = G.bw ∨ k = G.bl ∨ k = G.bn ∨ ∃ s, (G.val s).ownBlock = some k
theorem mapW.keep {b M : Nat} {v : Nat → Value} {w w' : World} (h : mapW b M v w) (hb : w'.heap[b]? = w.heap[b]?) : mapW b M v w' := by obtain ⟨f, h1, h2⟩ := h; exact ⟨f, h1.keep hb, h2⟩
theorem mapW.mono {b M N : Nat} {v : Nat → Value} {w : World} (h : mapW b M v w) (hb : M ≤ N) : mapW b N v w := by obtain ⟨f, h1, h2⟩ := h; exact ⟨f, h1.mono hb, h2⟩
theorem mapN.keep {b M : Nat} {v : Nat → Nat → Nat} {w w' : World} (h : mapN b M v w) (hb : w'.heap[b]? = w.heap[b]?) : mapN b M v w' := by obtain ⟨f, h1, h2⟩ := h; exact ⟨f, h1.keep hb, h2⟩
theorem mapN.mono {b M N : Nat} {v : Nat → Nat → Nat} {w : World} (h : mapN b M v w) (hb : M ≤ N) : mapN b N v w := by obtain ⟨f, h1, h2⟩ := h; exact ⟨f, h1.mono hb, h2⟩
theorem mapW.is {b M : Nat} {v : Nat → Value} {w : World} (h : mapW b M v w) : ∃ es c, w.heap[b]? = some (.map es c) := by obtain ⟨f, h1, h2⟩ := h; exact h1.isMap
theorem mapN.is {b M : Nat} {v : Nat → Nat → Nat} {w : World} (h : mapN b M v w) : ∃ es c, w.heap[b]? = some (.map es c) := by obtain ⟨f, h1, h2⟩ := h; exact h1.isMap
theorem mapW.look {b M : Nat} {v : Nat → Value} {w : World} (h : mapW b M v w) {a : Nat} (ha : a < 18446744073709551616) : (Instr.lookup 65 (.map (some b)) (vU a) false).run Try.prog w = .ok (v a) w := by
  obtain ⟨f, h1, h2⟩ := h
  have := h1.look law23 Try.underlying65 (zero48 w) (key64 ha) false
  rw [h2 a ha] at this
  exact this
theorem mapN.look {b M : Nat} {v : Nat → Nat → Nat} {w : World} (h : mapN b M v w) {a x : Nat} (ha : a < 18446744073709551616) (hx : x < 4294967296) : (Instr.lookup 66 (.map (some b)) (.agg #[vU a, v32 x]) false).run Try.prog w = .ok (vI (v a x)) w := by
  obtain ⟨f, h1, h2⟩ := h
  obtain ⟨kl, hk⟩ := key73 ha hx
  have := h1.look law73 Try.underlying66 (zero3 w) hk false
  rw [h2 a x ha hx] at this
  exact this
theorem not_row_of_map {w : World} {b base size n : Nat} {e : TypeId} {v : Value} {xs : List Value} (R : w.ownsRow base e size v n xs) (h : ∃ es c, w.heap[b]? = some (.map es c)) : v.ownBlock ≠ some b := by
  intro hb
  obtain ⟨C, _, hC⟩ := own_kind R hb
  obtain ⟨es, c, h⟩ := h
  rw [h] at hC
  cases hC
section
variable {G : Gh} {S : Pst} {M : Nat} {w w' : World}
theorem PastAt.keep (h : PastAt G S M w) (hb : ∀ k, Foot G k → w'.heap[k]? = w.heap[k]?) : PastAt G S M w' :=
  ⟨(hb _ (.inl rfl)).trans h.hd, h.mw.keep (hb _ (.inr (.inl rfl))), h.ml.keep (hb _ (.inr (.inr (.inl rfl)))), h.mn.keep (hb _ (.inr (.inr (.inr (.inl rfl))))),
    fun s => own_of_block (h.row s) fun k hk => hb k (.inr (.inr (.inr (.inr ⟨s, hk⟩)))), h.len, h.apart, h.ne1, h.ne2, h.ne3⟩
theorem PastAt.lt (h : PastAt G S M w) {k : Nat} (hk : Foot G k) : k < w.heap.size := by
  rcases hk with rfl | rfl | rfl | rfl | ⟨s, hs⟩
  · exact lt_of_some h.hd
  · obtain ⟨_, _, hb⟩ := h.mw.is; exact lt_of_some hb
  · obtain ⟨_, _, hb⟩ := h.ml.is; exact lt_of_some hb
  · obtain ⟨_, _, hb⟩ := h.mn.is; exact lt_of_some hb
  · exact ((h.row s).lt k hs).2
theorem PastAt.grow (h : PastAt G S M w) (hb : Below w.heap.size w w') : PastAt G S M w' := h.keep fun k hk => hb.block k (h.lt hk)
theorem PastAt.mono (h : PastAt G S M w) {N : Nat} (hN : M ≤ N) : PastAt G S N w := ⟨h.hd, h.mw.mono hN, h.ml.mono hN, h.mn.mono hN, h.row, fun s => Nat.le_trans (h.len s) hN, h.apart, h.ne1, h.ne2, h.ne3⟩
theorem PastAt.cell (h : PastAt G S M w) (j : Nat) : w.cell? ⟨G.p, j, none⟩ = (pcells G S)[j]? := cell_of_row _ _ _ _ _ _ h.hd
theorem PastAt.c0 (h : PastAt G S M w) : w.cell? ⟨G.p, 0, none⟩ = some (vI S.now) := h.cell 0
theorem PastAt.c1 (h : PastAt G S M w) : w.cell? ⟨G.p, 1, none⟩ = some (.map (some G.bw)) := h.cell 1
theorem PastAt.c2 (h : PastAt G S M w) : w.cell? ⟨G.p, 2, none⟩ = some (.map (some G.bl)) := h.cell 2
theorem PastAt.c3 (h : PastAt G S M w) : w.cell? ⟨G.p, 3, none⟩ = some (G.val .al) := h.cell 3
theorem PastAt.c5 (h : PastAt G S M w) : w.cell? ⟨G.p, 12, none⟩ = some (.map (some G.bn)) := h.cell 12
theorem PastAt.fz (h : PastAt G S M w) (j : Nat) : w.frozen? ⟨G.p, j, none⟩ = false := frozen_of_row _ _ _ _ _ h.hd
theorem PastAt.isb (h : PastAt G S M w) {c : Nat} (hc : c < 8) : w.cell? ⟨G.p, 4 + c, none⟩ = some (vI (S.isb c)) := by
  rw [h.cell]
  match c, hc with
  | 0, _ => rfl
  | 1, _ => rfl
  | 2, _ => rfl
  | 3, _ => rfl
  | 4, _ => rfl
  | 5, _ => rfl
  | 6, _ => rfl
  | 7, _ => rfl
  | c + 8, h => omega
end
/-- Behind an append to one of its rows, ahead of the store. -/
structure Mid (G : Gh) (S : Pst) (M : Nat) (s : Sl) (u : Value) (l : List Nat) (w0 w' : World) : Prop where
  past : PastAt G S M w0
  own : w'.ownsRow 0 3 1 u l.length (numV l)
  gr : w0.grownBy w' (G.val s).ownBlock
  at_ : ∃ g, u.ownBlock = some g ∧ ((G.val s).ownBlock = some g ∨ g = w0.heap.size)
  len : l.length ≤ M + 1
section
variable {G : Gh} {S : Pst} {M : Nat} {s : Sl} {u : Value} {l : List Nat} {w0 w' w2 : World}
theorem Mid.rows (h : Mid G S M s u l w0 w') {t : Sl} (ht : t ≠ s) : w'.ownsRow 0 3 1 (G.val t) (S.ms t).length (numV (S.ms t)) := (h.past.row t).kept h.gr (h.past.apart t s ht)
theorem Mid.hd (h : Mid G S M s u l w0 w') : w'.heap[G.p]? = some (.cells (pcells G S) 69) := (h.gr.block _ (lt_of_some h.past.hd) (fun e => own_ne h.past.hd (h.past.row s) (by decide) e.symm)).trans h.past.hd
theorem Mid.mw (h : Mid G S M s u l w0 w') : mapW G.bw M (fun a => G.val (.wr a)) w' := h.past.mw.keep (h.gr.block _ (h.past.lt (.inr (.inl rfl))) (fun e => not_row_of_map (h.past.row s) h.past.mw.is e.symm))
theorem Mid.ml (h : Mid G S M s u l w0 w') : mapW G.bl M (fun a => G.val (.ln a)) w' := h.past.ml.keep (h.gr.block _ (h.past.lt (.inr (.inr (.inl rfl)))) (fun e => not_row_of_map (h.past.row s) h.past.ml.is e.symm))
theorem Mid.mn (h : Mid G S M s u l w0 w') : mapN G.bn M S.new w' := h.past.mn.keep (h.gr.block _ (h.past.lt (.inr (.inr (.inr (.inl rfl))))) (fun e => not_row_of_map (h.past.row s) h.past.mn.is e.symm))
theorem Mid.apart (h : Mid G S M s u l w0 w') {t : Sl} (ht : t ≠ s) : (G.val t).ownBlock = none ∨ (G.val t).ownBlock ≠ u.ownBlock := by
  obtain ⟨g, hg, hq⟩ := h.at_
  rcases hq with hq | hq
  · rw [hg, ← hq]; exact h.past.apart t s ht
  · cases hv : (G.val t).ownBlock with
    | none => exact .inl rfl
    | some k =>
      right
      rw [hg]
      intro e
      obtain rfl := Option.some.inj e
      have := ((h.past.row t).lt _ hv).2
      omega
theorem Mid.foot (h : Mid G S M s u l w0 w') {k : Nat} (hk : Foot (G.set s u) k) : Foot G k ∨ w0.heap.size ≤ k := by
  rcases hk with hk | hk | hk | hk | ⟨t, ht⟩
  · exact .inl (.inl hk)
  · exact .inl (.inr (.inl hk))
  · exact .inl (.inr (.inr (.inl hk)))
  · exact .inl (.inr (.inr (.inr (.inl hk))))
  · unfold Gh.set at ht
    dsimp only at ht
    split at ht
    · obtain ⟨g, hg, hq⟩ := h.at_
      rw [hg] at ht
      cases ht
      rcases hq with hq | hq
      · exact .inl (.inr (.inr (.inr (.inr ⟨s, hq⟩))))
      · right; omega
    · exact .inl (.inr (.inr (.inr (.inr ⟨t, ht⟩))))
theorem Mid.goes (h : Mid G S M s u l w0 w') : Goes (Foot G) w0 w' := goes_grown h.gr fun k hk => .inr (.inr (.inr (.inr ⟨s, hk⟩)))
/-- All but one of the blocks stand: what is laid back. -/
theorem Mid.done (h : Mid G S M s u l w0 w') (b : Nat) (hb : w'.grownBy w2 (some b)) (hbr : ∀ t : Sl, ((G.set s u).val t).ownBlock ≠ some b) (hd : w2.heap[G.p]? = some (.cells (pcells (G.set s u) S) 69))
    (mw : mapW G.bw (M + 1) (fun a => (G.set s u).val (.wr a)) w2) (ml : mapW G.bl (M + 1) (fun a => (G.set s u).val (.ln a)) w2) (mn : mapN G.bn (M + 1) S.new w2) : PastAt (G.set s u) (S.put s l) (M + 1) w2 := by
  refine ⟨hd, mw, ml, mn, fun t => ?_, fun t => ?_, fun t t' ht => ?_, h.past.ne1, h.past.ne2, h.past.ne3⟩
  · have hbt := hbr t
    unfold Gh.set at hbt ⊢
    unfold Pst.put
    dsimp only at hbt ⊢
    by_cases e : t = s
    · rw [if_pos e] at hbt ⊢
      rw [if_pos e]
      exact h.own.kept hb (.inr hbt)
    · rw [if_neg e] at hbt ⊢
      rw [if_neg e]
      exact (h.rows e).kept hb (.inr hbt)
  · unfold Pst.put
    dsimp only
    split
    · exact h.len
    · have := h.past.len t; omega
  · unfold Gh.set
    dsimp only
    by_cases e : t = s
    · have e' : t' ≠ s := fun q => ht (e.trans q.symm)
      rw [if_pos e, if_neg e']
      rcases h.apart e' with q | q
      · right
        obtain ⟨g, hg, _⟩ := h.at_
        rw [q, hg]; simp
      · exact .inr fun q' => q q'.symm
    · rw [if_neg e]
      by_cases e' : t' = s
      · rw [if_pos e']; exact h.apart e
      · rw [if_neg e']; exact h.past.apart t t' ht
theorem Mid.not_map (h : Mid G S M s u l w0 w') {b : Nat} (hb : ∃ es c, w'.heap[b]? = some (.map es c)) (t : Sl) : ((G.set s u).val t).ownBlock ≠ some b := by
  unfold Gh.set
  dsimp only
  split
  · exact not_row_of_map h.own hb
  · rename_i e; exact not_row_of_map (h.rows e) hb
theorem Mid.wr {a : Nat} (h : Mid G S M (.wr a) u l w0 w') (ha : a < 18446744073709551616) (hM : M < 100000000000000) : ∃ w2, (Instr.mapUpdate 65 (.map (some G.bw)) (vU a) u).run Try.prog w' = .ok () w2 ∧ PastAt (G.set (.wr a) u) (S.put (.wr a) l) (M + 1) w2 ∧ Goes (Foot G) w0 w2 := by
  obtain ⟨f, h1, h2⟩ := h.mw
  obtain ⟨w2, q1, q2, q3, q4⟩ := h1.put law23 Try.underlying65 (by simp only [maxLen]; omega) (key64 ha) (val := u)
  have hlt : ∀ {k : Nat}, Foot G k → k < w'.heap.size := fun hk => Nat.lt_of_lt_of_le (h.past.lt hk) h.gr.size
  refine ⟨w2, q1, h.done G.bw q3 (h.not_map h.mw.is) ?_ ⟨_, q2, fun a' ha' => ?_⟩ ?_ ?_, h.goes.trans (goes_grown (F := fun k => k = G.bw) q3 (fun k hk => by cases hk; rfl)) (fun k _ e => .inr (.inl e))⟩
  · have hne : some G.p ≠ some G.bw := fun e => by
      obtain ⟨es, c, hm⟩ := h.mw.is
      rw [← Option.some.inj e, h.hd] at hm; cases hm
    exact (q3.block _ (hlt (.inl rfl)) hne).trans h.hd
  · unfold Gh.set
    dsimp only
    by_cases e : a' = a
    · subst e; rw [putF_same, if_pos rfl]; rfl
    · rw [putF_other _ _ (by intro q; apply e; simp at q; omega), if_neg (by simpa using e)]; exact h2 a' ha'
  · refine mapW.mono ((h.ml.keep (q3.block _ (hlt (.inr (.inr (.inl rfl)))) (fun e => h.past.ne1 (Option.some.inj e).symm)))) (by omega)
  · exact mapN.mono ((h.mn.keep (q3.block _ (hlt (.inr (.inr (.inr (.inl rfl))))) (fun e => h.past.ne2 (Option.some.inj e).symm)))) (by omega)
theorem Mid.ln {a : Nat} (h : Mid G S M (.ln a) u l w0 w') (ha : a < 18446744073709551616) (hM : M < 100000000000000) : ∃ w2, (Instr.mapUpdate 65 (.map (some G.bl)) (vU a) u).run Try.prog w' = .ok () w2 ∧ PastAt (G.set (.ln a) u) (S.put (.ln a) l) (M + 1) w2 ∧ Goes (Foot G) w0 w2 := by
  obtain ⟨f, h1, h2⟩ := h.ml
  obtain ⟨w2, q1, q2, q3, q4⟩ := h1.put law23 Try.underlying65 (by simp only [maxLen]; omega) (key64 ha) (val := u)
  have hlt : ∀ {k : Nat}, Foot G k → k < w'.heap.size := fun hk => Nat.lt_of_lt_of_le (h.past.lt hk) h.gr.size
  refine ⟨w2, q1, h.done G.bl q3 (h.not_map h.ml.is) ?_ ?_ ⟨_, q2, fun a' ha' => ?_⟩ ?_, h.goes.trans (goes_grown (F := fun k => k = G.bl) q3 (fun k hk => by cases hk; rfl)) (fun k _ e => .inr (.inr (.inl e)))⟩
  · have hne : some G.p ≠ some G.bl := fun e => by
      obtain ⟨es, c, hm⟩ := h.ml.is
      rw [← Option.some.inj e, h.hd] at hm; cases hm
    exact (q3.block _ (hlt (.inl rfl)) hne).trans h.hd
  · refine mapW.mono ((h.mw.keep (q3.block _ (hlt (.inr (.inl rfl))) (fun e => h.past.ne1 (Option.some.inj e))))) (by omega)
  · unfold Gh.set
    dsimp only
    by_cases e : a' = a
    · subst e; rw [putF_same, if_pos rfl]; rfl
    · rw [putF_other _ _ (by intro q; apply e; simp at q; omega), if_neg (by simpa using e)]; exact h2 a' ha'
  · exact mapN.mono ((h.mn.keep (q3.block _ (hlt (.inr (.inr (.inr (.inl rfl))))) (fun e => h.past.ne3 (Option.some.inj e).symm)))) (by omega)
theorem grown_setCell (w : World) (b k : Nat) (v : Value) : w.grownBy (w.setCell ⟨b, k, none⟩ v) (some b) :=
  ⟨rfl, rfl, rfl, by simp [World.setCell], fun i _ hi => Below.heap_setCell _ _ _ _ (fun e => hi (by have e : i = b := e; rw [e]))⟩
theorem Mid.al (h : Mid G S M .al u l w0 w') : PastAt (G.set .al u) (S.put .al l) (M + 1) (w'.setCell ⟨G.p, 3, none⟩ u) ∧ Goes (Foot G) w0 (w'.setCell ⟨G.p, 3, none⟩ u) := by
  have q3 := grown_setCell w' G.p 3 u
  have hlt : ∀ {k : Nat}, Foot G k → k < w'.heap.size := fun hk => Nat.lt_of_lt_of_le (h.past.lt hk) h.gr.size
  have hnm : ∀ {b : Nat}, (∃ es c, w'.heap[b]? = some (.map es c)) → some b ≠ some G.p := fun ⟨es, c, hm⟩ e => by
    rw [Option.some.inj e, h.hd] at hm; cases hm
  refine ⟨h.done G.p q3 (fun t => ?_) ?_ ?_ ?_ ?_, h.goes.trans (goes_setCell w' (F := fun k => k = G.p) rfl 3 u) (fun k _ e => .inl e)⟩
  · unfold Gh.set
    dsimp only
    split
    · exact own_ne h.hd h.own (by decide)
    · rename_i e; exact own_ne h.hd (h.rows e) (by decide)
  · have := heap_setCell_same w' G.p 3 _ 69 u h.hd
    rw [this]
    rfl
  · exact mapW.mono ((h.mw.keep (q3.block _ (hlt (.inr (.inl rfl))) (hnm h.mw.is)))) (by omega)
  · exact mapW.mono ((h.ml.keep (q3.block _ (hlt (.inr (.inr (.inl rfl)))) (hnm h.ml.is)))) (by omega)
  · exact mapN.mono ((h.mn.keep (q3.block _ (hlt (.inr (.inr (.inr (.inl rfl))))) (hnm h.mn.is)))) (by omega)
end
section
variable {G : Gh} {S : Pst} {M : Nat} {w : World}
/-- The newest version with a word is noted. -/
theorem PastAt.mark (h : PastAt G S M w) {a x : Nat} (ha : a < 18446744073709551616) (hx : x < 4294967296) (hM : M < 100000000000000) (k : Nat) : ∃ w2, (Instr.mapUpdate 66 (.map (some G.bn)) (.agg #[vU a, v32 x]) (vI k)).run Try.prog w = .ok () w2 ∧ PastAt G { S with new := fun a' x' => if a' = a ∧ x' = x then k else S.new a' x' } (M + 1) w2 ∧ Goes (Foot G) w w2 := by
  obtain ⟨f, h1, h2⟩ := h.mn
  obtain ⟨kl, hk⟩ := key73 ha hx
  obtain ⟨w2, q1, q2, q3, q4⟩ := h1.put law73 Try.underlying66 (by simp only [maxLen]; omega) hk (val := vI k)
  have hnm : some G.p ≠ some G.bn := fun e => by
    obtain ⟨es, c, hm⟩ := h.mn.is
    rw [← Option.some.inj e, h.hd] at hm; cases hm
  refine ⟨w2, q1, ⟨(q3.block _ (h.lt (.inl rfl)) hnm).trans h.hd, mapW.mono (h.mw.keep (q3.block _ (h.lt (.inr (.inl rfl))) (fun e => h.ne2 (Option.some.inj e)))) (by omega), mapW.mono (h.ml.keep (q3.block _ (h.lt (.inr (.inr (.inl rfl)))) (fun e => h.ne3 (Option.some.inj e)))) (by omega), ⟨_, q2, fun a' x' ha' hx' => ?_⟩, fun s => (h.row s).kept q3 (.inr (not_row_of_map (h.row s) h.mn.is)), fun s => Nat.le_succ_of_le (h.len s), h.apart, h.ne1, h.ne2, h.ne3⟩, goes_grown q3 (fun k hk => by cases hk; exact .inr (.inr (.inr (.inl rfl))))⟩
  dsimp only
  by_cases e : a' = a ∧ x' = x
  · obtain ⟨rfl, rfl⟩ := e
    rw [putF_same, if_pos ⟨rfl, rfl⟩]; rfl
  · rw [putF_other _ _ (by intro q; apply e; simp at q; omega), if_neg e]; exact h2 a' x' ha' hx'
theorem PastAt.cellP (h : PastAt G S M w) (j : Nat) (v : Value) (S' : Pst) (hc : (pcells G S).setIfInBounds j v = pcells G S') (h1 : S'.ms = S.ms) (h2 : S'.new = S.new) : PastAt G S' M (w.setCell ⟨G.p, j, none⟩ v) ∧ Goes (Foot G) w (w.setCell ⟨G.p, j, none⟩ v) := by
  have q3 := grown_setCell w G.p j v
  have hnm : ∀ {b : Nat}, (∃ es c, w.heap[b]? = some (.map es c)) → some b ≠ some G.p := fun ⟨es, c, hm⟩ e => by
    rw [Option.some.inj e, h.hd] at hm; cases hm
  refine ⟨⟨?_, h.mw.keep (q3.block _ (h.lt (.inr (.inl rfl))) (hnm h.mw.is)), h.ml.keep (q3.block _ (h.lt (.inr (.inr (.inl rfl)))) (hnm h.ml.is)), ?_, fun s => ?_, fun s => ?_, h.apart, h.ne1, h.ne2, h.ne3⟩, goes_setCell w (.inl rfl) j v⟩
  · rw [heap_setCell_same w G.p j _ 69 v h.hd, hc]
  · rw [h2]; exact h.mn.keep (q3.block _ (h.lt (.inr (.inr (.inr (.inl rfl))))) (hnm h.mn.is))
  · rw [h1]; exact (h.row s).kept q3 (.inr (own_ne h.hd (h.row s) (by decide)))
  · rw [h1]; exact h.len s
end
end Go.Proofs.Ytbdmemjenpnjgaa
