/- What a memory is behind a store into one of its blocks. -/
import Derived.Test.YtjkjbcnafpljoaaRb
import Derived.Deep.AppendLies
namespace Go.Proofs.Ytjkjbcnafpljoaa
open Go.RowKit
set_option linter.unusedVariables false

theorem ne_of_type {w : World} {a b : Nat} {X Y : Array Value} {t u : TypeId} {f f' : Nat × Nat} (h : w.heap[a]? = some (.cells X t f)) (k : w.heap[b]? = some (.cells Y u f')) (hn : t ≠ u) : a ≠ b := by
  rintro rfl
  rw [h] at k
  cases k
  exact hn rfl
theorem own_ne {w : World} {b base n size : Nat} {X : Array Value} {t e : TypeId} {f : Nat × Nat} {v : Value} {xs : List Value} (h : w.heap[b]? = some (.cells X t f)) (k : w.ownsRow base e size v n xs) (hn : t ≠ e) : v.ownBlock ≠ some b := by
  intro hb
  rcases k.2 with ⟨rfl, _⟩ | ⟨g, cap, cur, rfl, _, hg, _⟩
  · cases hb
  · obtain rfl : g = b := by simpa [Value.ownBlock] using hb
    exact ne_of_type h hg hn rfl
theorem MemAt.gw_g {g : Nat} {S : Sta} {L : Lay} {w : World} (h : MemAt g S L w) : L.gw ≠ g := ne_of_type h.words h.top (by decide)
theorem MemAt.gb_g {g : Nat} {S : Sta} {L : Lay} {w : World} (h : MemAt g S L w) : L.gb ≠ g := ne_of_type h.bufs h.top (by decide)
theorem MemAt.gw_gb {g : Nat} {S : Sta} {L : Lay} {w : World} (h : MemAt g S L w) : L.gw ≠ L.gb := ne_of_type h.words h.bufs (by decide)
theorem MemAt.heldOf {g : Nat} {S : Sta} {L : Lay} {w : World} (h : MemAt g S L w) {v : Value} (hv : v ∈ L.hv) : ∃ (k : Nat) (l : List Lt), L.hv[k]? = some v ∧ S.bufs[k]? = some l ∧ w.ownsRow 0 59 3 v l.length (flatL l) := by
  obtain ⟨i, hi⟩ := List.mem_iff_getElem?.1 hv
  have hl : i < S.bufs.length := by rw [← h.len]; exact (List.getElem?_eq_some_iff.1 hi).1
  exact ⟨i, S.bufs[i], hi, List.getElem?_eq_getElem hl, h.held i v _ hi (List.getElem?_eq_getElem hl)⟩
/-- A word laid down. -/
theorem MemAt.setW {g : Nat} {S : Sta} {L : Lay} {w : World} (h : MemAt g S L w) (k : Nat) (s : Int × Int) : MemAt g { S with words := S.words.set k s } L (w.setRow L.gw (flatW (S.words.set k s)).toArray) := by
  have e1 := h.gw_g
  have e2 := h.gw_gb
  refine ⟨?_, setRow_heap _ _ _ _ _ _ h.words, by rw [setRow_other _ _ _ _ (Ne.symm e2)]; exact h.bufs, ?_, h.len, ?_, h.apart⟩
  · rw [setRow_other _ _ _ _ (Ne.symm e1)]
    have := h.top
    simpa [topV] using this
  · exact own_of_block h.stamps fun b hb => setRow_other _ _ _ _ (by rintro rfl; exact own_ne h.words h.stamps (by decide) hb)
  · intro i v l hv hl
    have := h.held i v l hv hl
    exact own_of_block this fun b hb => setRow_other _ _ _ _ (by rintro rfl; exact own_ne h.words this (by decide) hb)
theorem MemAt.turnW {g : Nat} {S : Sta} {L : Lay} {w : World} (h : MemAt g S L w) (k : Nat) (s : Int × Int) : Turn g L { S with words := S.words.set k s } w (w.setRow L.gw (flatW (S.words.set k s)).toArray) :=
  ⟨L, h.setW k s, goes_setRow w (.inr (.inl rfl)) _, fun _ hk => .inl hk⟩
/-- The count of stamps laid down. -/
theorem MemAt.setR {g : Nat} {S : Sta} {L : Lay} {w : World} (h : MemAt g S L w) (r : Int) : MemAt g { S with reached := r } L (w.setRow g (topV { S with reached := r } L)) := by
  have e1 := h.gw_g
  have e2 := h.gb_g
  refine ⟨setRow_heap _ _ _ _ _ _ h.top, by rw [setRow_other _ _ _ _ e1]; exact h.words, by rw [setRow_other _ _ _ _ e2]; exact h.bufs, ?_, h.len, ?_, h.apart⟩
  · exact own_of_block h.stamps fun b hb => setRow_other _ _ _ _ (by rintro rfl; exact own_ne h.top h.stamps (by decide) hb)
  · intro i v l hv hl
    have := h.held i v l hv hl
    exact own_of_block this fun b hb => setRow_other _ _ _ _ (by rintro rfl; exact own_ne h.top this (by decide) hb)
/-- The stamps turned, where they lie or at a new place. -/
theorem MemAt.turnS {g : Nat} {S : Sta} {L : Lay} {w w' : World} (h : MemAt g S L w) {v : Value} {l : List Int} (hg : ∀ b, b < w.heap.size → b ≠ g → L.sv.ownBlock ≠ some b → w'.heap[b]? = w.heap[b]?)
    (ht : w'.heap[g]? = some (.cells (topV { S with stamps := l } { L with sv := v }) 75)) (ho : w'.ownsRow 0 3 1 v l.length (l.map vI)) : MemAt g { S with stamps := l } { L with sv := v } w' := by
  have e1 := h.gw_g
  have e2 := h.gb_g
  refine ⟨ht, ?_, ?_, ho, h.len, ?_, h.apart⟩
  · rw [hg _ (lt_of_some h.words) e1 (own_ne h.words h.stamps (by decide))]; exact h.words
  · rw [hg _ (lt_of_some h.bufs) e2 (own_ne h.bufs h.stamps (by decide))]; exact h.bufs
  · intro i u m hv hl
    have hh := h.held i u m hv hl
    refine own_of_block hh fun b hb => hg b (hh.lt b hb).2 (fun e => own_ne h.top hh (by decide) (e ▸ hb)) fun e => ?_
    rcases h.stamps.2 with ⟨h0, _⟩ | ⟨q, cap, cur, h0, _, hq, _⟩
    · rw [h0] at e; cases e
    · obtain rfl : q = b := by rw [h0] at e; simpa [Value.ownBlock] using e
      exact own_ne hq hh (by decide) hb
/-- A buffer turned. -/
theorem MemAt.turnB {g : Nat} {S : Sta} {L : Lay} {w w' : World} (h : MemAt g S L w) {k : Nat} {v v' : Value} {l' : List Lt} (hv : L.hv[k]? = some v) (hs : w.heap.size ≤ w'.heap.size)
    (hg : ∀ b, b < w.heap.size → b ≠ L.gb → v.ownBlock ≠ some b → w'.heap[b]? = w.heap[b]?) (hb : w'.heap[L.gb]? = some (.cells (flatB S.depth (L.hv.set k v')).toArray 77))
    (ho : w'.ownsRow 0 59 3 v' l'.length (flatL l')) (hn : ∀ b, v'.ownBlock = some b → v.ownBlock = some b ∨ w.heap.size ≤ b) : MemAt g { S with bufs := S.bufs.set k l' } { L with hv := L.hv.set k v' } w' := by
  have hk : k < L.hv.length := (List.getElem?_eq_some_iff.1 hv).1
  have hk' : k < S.bufs.length := by rw [← h.len]; exact hk
  have hho : w.ownsRow 0 59 3 v (S.bufs[k]).length (flatL S.bufs[k]) := h.held k v _ hv (List.getElem?_eq_getElem hk')
  refine ⟨?_, ?_, hb, ?_, by simp [h.len], ?_, ?_⟩
  · rw [hg _ (lt_of_some h.top) (Ne.symm h.gb_g) (own_ne h.top hho (by decide))]
    have := h.top
    simpa [topV] using this
  · rw [hg _ (lt_of_some h.words) h.gw_gb (own_ne h.words hho (by decide))]; exact h.words
  · refine own_of_block h.stamps fun b hb2 => hg b (h.stamps.lt b hb2).2 (fun e => own_ne h.bufs h.stamps (by decide) (e ▸ hb2)) fun e => ?_
    rcases hho.2 with ⟨h0, _⟩ | ⟨q, cap, cur, h0, _, hq, _⟩
    · rw [h0] at e; cases e
    · obtain rfl : q = b := by rw [h0] at e; simpa [Value.ownBlock] using e
      exact own_ne hq h.stamps (by decide) hb2
  · intro i u m hu hm
    by_cases hik : i = k
    · subst hik
      simp only [List.getElem?_set_self hk, Option.some.injEq] at hu
      simp only [List.getElem?_set_self hk', Option.some.injEq] at hm
      subst hu; subst hm
      exact ho
    · simp only [List.getElem?_set_ne (Ne.symm hik)] at hu hm
      have hh := h.held i u m hu hm
      refine own_of_block hh fun b hb2 => hg b (hh.lt b hb2).2 (fun e => own_ne h.bufs hh (by decide) (e ▸ hb2)) ?_
      exact h.apart i k u v b hu hv hik hb2
  · intro i j u z b hu hz hij hub hzb
    by_cases hik : i = k
    · subst hik
      simp only [List.getElem?_set_self hk, Option.some.injEq] at hu
      subst hu
      simp only [List.getElem?_set_ne hij] at hz
      rcases hn b hub with e | e
      · exact h.apart i j v z b hv hz hij e hzb
      · have hl : j < S.bufs.length := by rw [← h.len]; exact (List.getElem?_eq_some_iff.1 hz).1
        have := ((h.held j z S.bufs[j] hz (List.getElem?_eq_getElem hl)).lt b hzb).2
        omega
    · simp only [List.getElem?_set_ne (Ne.symm hik)] at hu
      by_cases hjk : j = k
      · subst hjk
        simp only [List.getElem?_set_self hk, Option.some.injEq] at hz
        subst hz
        rcases hn b hzb with e | e
        · exact h.apart i j u v b hu hv hij hub e
        · have hl : i < S.bufs.length := by rw [← h.len]; exact (List.getElem?_eq_some_iff.1 hu).1
          have := ((h.held i u S.bufs[i] hu (List.getElem?_eq_getElem hl)).lt b hub).2
          omega
      · simp only [List.getElem?_set_ne (Ne.symm hjk)] at hz
        exact h.apart i j u z b hu hz hij hub hzb
theorem Turn.then {g : Nat} {L : Lay} {S S' : Sta} {w w1 w2 : World} (h : Turn g L S w w1) (k : ∀ L', MemAt g S L' w1 → Turn g L' S' w1 w2) : Turn g L S' w w2 := by
  obtain ⟨L1, h1, h2, h3⟩ := h
  obtain ⟨L2, k1, k2, k3⟩ := k L1 h1
  refine ⟨L2, k1, h2.trans k2 fun b hb hf => ?_, fun b hb => ?_⟩
  · rcases h3 b hf with e | e
    · exact e
    · omega
  · rcases k3 b hb with e | e
    · exact h3 b e
    · exact .inr (Nat.le_trans h2.size e)
theorem Turn.grow {g : Nat} {L : Lay} {S : Sta} {w w1 w2 : World} (h : Turn g L S w w1) (k : Below w1.heap.size w1 w2) : Turn g L S w w2 := h.then fun _ h1 => turn_of_below h1 k
theorem turn_refl {g : Nat} {L : Lay} {S : Sta} {w : World} (h : MemAt g S L w) : Turn g L S w w := turn_of_below h (Below.refl _ _)
/-- What was there beside the memory is as it was. -/
theorem Turn.other {g : Nat} {L : Lay} {S : Sta} {w w' : World} (h : Turn g L S w w') {b : Nat} (hb : b < w.heap.size) (hn : ¬ Foot g L b) : w'.heap[b]? = w.heap[b]? := by
  obtain ⟨_, _, h2, _⟩ := h
  exact h2.block b hb hn
end Go.Proofs.Ytjkjbcnafpljoaa
