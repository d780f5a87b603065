/- The document's own memory: where it lies, and its readers. -/
import Derived.Test.YtjkjbcnafpljoaaLx
namespace Go.Proofs.Ytjkjbcnafpljoaa
open Go.RowKit
set_option linter.unusedVariables false
set_option linter.unusedSimpArgs false

/-- A store as the document keeps it. -/
structure R4 where
  c : Int
  a : Int
  v : Int
  s : Int
def flatR (l : List R4) : List Value := l.flatMap fun s => [vI s.c, vU s.a, vU s.v, vI s.s]
theorem len_flatR (l : List R4) : (flatR l).length = l.length * 4 := by
  induction l with
  | nil => rfl
  | cons a l ih => simp only [flatR, List.flatMap_cons, List.length_append, List.length_cons, List.length_nil] at ih ⊢; omega
theorem flatR_get {l : List R4} {k : Nat} {s : R4} (h : l[k]? = some s) : (flatR l)[k * 4]? = some (vI s.c) ∧ (flatR l)[k * 4 + 1]? = some (vU s.a) ∧ (flatR l)[k * 4 + 2]? = some (vU s.v) ∧ (flatR l)[k * 4 + 3]? = some (vI s.s) := by
  induction l generalizing k with
  | nil => simp at h
  | cons a l ih =>
    cases k with
    | zero => simp at h; subst h; exact ⟨rfl, rfl, rfl, rfl⟩
    | succ k =>
      have := ih (k := k) (by simpa using h)
      have e : (k + 1) * 4 = k * 4 + 4 := by omega
      rw [e]
      exact this
/-- The document's own memory. -/
structure Doc where
  first : List Int
  cores : Int
  depth : Int
  all : List R4
  stamps : Int
structure DocLay where
  fb : Nat
  av : Value
def docV (X : Doc) (L : DocLay) : Array Value := #[.slice (some ⟨L.fb, 0, none⟩) X.first.length X.first.length, vI X.cores, vI X.depth, L.av, vI X.stamps]
structure DocAt (h : Nat) (X : Doc) (L : DocLay) (w : World) : Prop where
  top : w.heap[h]? = some (.cells (docV X L) 47)
  first : w.ownsRow 0 28 1 (.slice (some ⟨L.fb, 0, none⟩) X.first.length X.first.length) X.first.length (X.first.map vU)
  all : w.ownsRow 0 102 4 L.av X.all.length (flatR X.all)
theorem DocAt.c0 {h : Nat} {X : Doc} {L : DocLay} {w : World} (H : DocAt h X L w) : w.cell? ⟨h, 0, none⟩ = some (.slice (some ⟨L.fb, 0, none⟩) X.first.length X.first.length) := by rw [cell_of_row _ _ _ _ _ _ H.top]; rfl
theorem DocAt.c1 {h : Nat} {X : Doc} {L : DocLay} {w : World} (H : DocAt h X L w) : w.cell? ⟨h, 1, none⟩ = some (vI X.cores) := by rw [cell_of_row _ _ _ _ _ _ H.top]; rfl
theorem DocAt.c2 {h : Nat} {X : Doc} {L : DocLay} {w : World} (H : DocAt h X L w) : w.cell? ⟨h, 2, none⟩ = some (vI X.depth) := by rw [cell_of_row _ _ _ _ _ _ H.top]; rfl
theorem DocAt.c3 {h : Nat} {X : Doc} {L : DocLay} {w : World} (H : DocAt h X L w) : w.cell? ⟨h, 3, none⟩ = some L.av := by rw [cell_of_row _ _ _ _ _ _ H.top]; rfl
theorem DocAt.c4 {h : Nat} {X : Doc} {L : DocLay} {w : World} (H : DocAt h X L w) : w.cell? ⟨h, 4, none⟩ = some (vI X.stamps) := by rw [cell_of_row _ _ _ _ _ _ H.top]; rfl
/-- The blocks that are its own. -/
def DocFoot (h : Nat) (L : DocLay) (k : Nat) : Prop := k = h ∨ k = L.fb ∨ L.av.ownBlock = some k
theorem DocAt.keep {h : Nat} {X : Doc} {L : DocLay} {w w' : World} (H : DocAt h X L w) (hb : ∀ k, DocFoot h L k → w'.heap[k]? = w.heap[k]?) : DocAt h X L w' :=
  ⟨by rw [hb _ (.inl rfl)]; exact H.top, own_of_block H.first fun k hk => hb k (.inr (.inl (by simpa [Value.ownBlock] using hk.symm))), own_of_block H.all fun k hk => hb k (.inr (.inr hk))⟩
theorem DocAt.lt {h : Nat} {X : Doc} {L : DocLay} {w : World} (H : DocAt h X L w) {k : Nat} (hk : DocFoot h L k) : k < w.heap.size := by
  rcases hk with rfl | rfl | e
  · exact lt_of_some H.top
  · exact (H.first.lt _ rfl).2
  · exact (H.all.lt _ e).2
theorem DocAt.grow {h : Nat} {X : Doc} {L : DocLay} {w w' : World} (H : DocAt h X L w) (hb : Below w.heap.size w w') : DocAt h X L w' := H.keep fun k hk => hb.block k (H.lt hk)
def badB (X : Doc) (core addr : Int) : Bool := decide (core < 0) || decide (X.cores ≤ core) || decide (addr % 8 ≠ 0) || decide ((X.first.length : Int) ≤ addr / 8)
theorem bad_c (h : Nat) (X : Doc) (L : DocLay) (core addr : Int) (w : World) (H : DocAt h X L w) (hA : U64 addr) (hn : X.first.length < 1000000000) : Calls Try.prog 37 #[ptr h 0, vI core, vU addr] w fun e w' => e = .returned (.bool (badB X core addr)) ∧ w' = w := by
  have c0 := H.c0
  have c1 := H.c1
  clear H
  have a1 := hA.1
  have a2 := hA.2
  have t1 : addr.tmod 8 = addr % 8 := Int.tmod_eq_emod_of_nonneg a1
  have t2 : addr.tdiv 8 = addr / 8 := Int.tdiv_eq_ediv_of_nonneg a1
  have w1 : IntKind.u64.wrap (addr % 8) = addr % 8 := by rw [IntKind.wrap_u64]; omega
  have w2 : IntKind.u64.wrap (addr / 8) = addr / 8 := by rw [IntKind.wrap_u64]; omega
  have w3 : IntKind.u64.wrap (X.first.length : Int) = X.first.length := by rw [IntKind.wrap_u64]; omega
  unfold badB
  by_cases h1 : core < 0
  · rw [decide_eq_true h1]
    go_enter Try.func37, Try.ntmps37
    go_wp2
    go_ret
    exact ⟨rfl, rfl⟩
  · rw [decide_eq_false h1]
    by_cases h2 : X.cores ≤ core
    · rw [decide_eq_true h2]
      go_enter Try.func37, Try.ntmps37
      go_wp2
      go_ret
      exact ⟨rfl, rfl⟩
    · rw [decide_eq_false h2]
      by_cases h3 : addr % 8 = 0
      · have h4 : (addr % 8 == 0) = true := by simpa using h3
        rw [decide_eq_false (show ¬ (addr % 8 ≠ 0) from fun e => e h3)]
        by_cases h5 : (X.first.length : Int) ≤ addr / 8
        · rw [decide_eq_true h5]
          go_enter Try.func37, Try.ntmps37
          go_wp2
          go_ret
          exact ⟨rfl, rfl⟩
        · rw [decide_eq_false h5]
          go_enter Try.func37, Try.ntmps37
          go_wp2
          go_ret
          exact ⟨rfl, rfl⟩
      · have h4 : (addr % 8 == 0) = false := by simpa using h3
        rw [decide_eq_true (show addr % 8 ≠ 0 from h3)]
        go_enter Try.func37, Try.ntmps37
        go_wp2
        go_ret
        exact ⟨rfl, rfl⟩
end Go.Proofs.Ytjkjbcnafpljoaa
