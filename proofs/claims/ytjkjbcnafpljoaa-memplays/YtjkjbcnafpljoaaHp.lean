/- A memory with its buffers, as the machine's blocks hold it: where it lies, what is its own, what a call leaves as it was. -/
import Derived.Test.YtjkjbcnafpljoaaRows
import Derived.WalkKit
import Derived.WalkSpells
import Derived.WalkLawsBesides
import Derived.Below
import Derived.Laws.Rows
import Derived.Laws.AppendOwn
import Derived.Laws.OwnMore
import Derived.Laws.ResultCell
import Derived.BigQuiet
import Derived.Deep.QuietTactic
import Derived.Deep.RegionWith
import Derived.Deep.CutRange
import Derived.Deep.MidRow
namespace Go.Proofs.Ytjkjbcnafpljoaa
open Go.RowKit
set_option linter.unusedVariables false

abbrev vU (n : Int) : Value := .int .u64 n
abbrev vI (n : Int) : Value := .int .i64 n
abbrev ptr (g k : Nat) : Value := .pointer (some ⟨g, k, none⟩)
def U64 (n : Int) : Prop := 0 ≤ n ∧ n < 18446744073709551616

/-- All blocks but those of F are as they were. -/
structure Goes (F : Nat → Prop) (w w' : World) : Prop where
  os : w'.os = w.os
  tape : w'.tape = w.tape
  output : w'.output = w.output
  size : w.heap.size ≤ w'.heap.size
  block : ∀ k, k < w.heap.size → ¬ F k → w'.heap[k]? = w.heap[k]?
theorem Goes.refl (F : Nat → Prop) (w : World) : Goes F w w := ⟨rfl, rfl, rfl, Nat.le_refl _, fun _ _ _ => rfl⟩
theorem Goes.trans {F G : Nat → Prop} {a b c : World} (h : Goes F a b) (k : Goes G b c) (hF : ∀ k, k < a.heap.size → G k → F k) : Goes F a c :=
  ⟨k.os.trans h.os, k.tape.trans h.tape, k.output.trans h.output, Nat.le_trans h.size k.size, fun i hi hn => (k.block i (Nat.lt_of_lt_of_le hi h.size) (fun g => hn (hF i hi g))).trans (h.block i hi hn)⟩
theorem Goes.mono {F G : Nat → Prop} {a b : World} (h : Goes F a b) (hF : ∀ k, k < a.heap.size → F k → G k) : Goes G a b :=
  ⟨h.os, h.tape, h.output, h.size, fun k hk hn => h.block k hk fun hf => hn (hF k hk hf)⟩
theorem Goes.grow {F : Nat → Prop} {a b c : World} (h : Goes F a b) (k : Below b.heap.size b c) : Goes F a c :=
  ⟨k.os.trans h.os, k.tape.trans h.tape, k.output.trans h.output, Nat.le_trans h.size k.size, fun i hi hn => (k.block i (Nat.lt_of_lt_of_le hi h.size)).trans (h.block i hi hn)⟩
theorem goes_of_below {F : Nat → Prop} {a b : World} (k : Below a.heap.size a b) : Goes F a b := (Goes.refl F a).grow k
theorem Goes.below {F : Nat → Prop} {a b : World} {B : Nat} (h : Goes F a b) (hB : B ≤ a.heap.size) (hF : ∀ k, F k → B ≤ k) : Below B a b :=
  ⟨h.os, h.tape, h.output, h.size, fun k hk => h.block k (by omega) fun hf => by have := hF k hf; omega⟩
theorem goes_setRow {F : Nat → Prop} (w : World) {b : Nat} (hb : F b) (cs : Array Value) : Goes F w (w.setRow b cs) :=
  ⟨rfl, rfl, rfl, by simp, fun k _ hn => setRow_other w b k cs (fun e => hn (e ▸ hb))⟩
theorem goes_grown {F : Nat → Prop} {w w' : World} {row : Option Nat} (h : w.grownBy w' row) (hr : ∀ k, row = some k → F k) : Goes F w w' :=
  ⟨h.os, h.tape, h.output, h.size, fun k hk hn => h.block k hk fun e => hn (hr k e.symm)⟩
theorem below_alloc (w : World) (o : Obj) : Below w.heap.size w (w.alloc o) := (Below.refl _ _).alloc (Nat.le_refl _) o
theorem below_then {B : Nat} {a b c : World} (h : Below B a b) (hB : B ≤ a.heap.size) (k : Below b.heap.size b c) : Below B a c := h.trans (k.mono (Nat.le_trans hB h.size))

/-- A store. -/
structure Lt where
  a : Int
  v : Int
  t : Int
abbrev Lt.cells (s : Lt) : Array Value := #[vU s.a, vU s.v, vI s.t]
abbrev Lt.val (s : Lt) : Value := .agg s.cells
def nilL : Lt := ⟨0, 0, 0⟩
def flatL (l : List Lt) : List Value := l.flatMap fun s => [vU s.a, vU s.v, vI s.t]
def flatW (l : List (Int × Int)) : List Value := l.flatMap fun s => [vU s.1, vI s.2]
def flatB (d : Int) (l : List Value) : List Value := l.flatMap fun s => [vI d, s]
theorem len_flatL (l : List Lt) : (flatL l).length = l.length * 3 := by
  induction l with
  | nil => rfl
  | cons a l ih => simp only [flatL, List.flatMap_cons, List.length_append, List.length_cons, List.length_nil] at ih ⊢; omega
theorem len_flatW (l : List (Int × Int)) : (flatW l).length = l.length * 2 := by
  induction l with
  | nil => rfl
  | cons a l ih => simp only [flatW, List.flatMap_cons, List.length_append, List.length_cons, List.length_nil] at ih ⊢; omega
theorem len_flatB (d : Int) (l : List Value) : (flatB d l).length = l.length * 2 := by
  induction l with
  | nil => rfl
  | cons a l ih => simp only [flatB, List.flatMap_cons, List.length_append, List.length_cons, List.length_nil] at ih ⊢; omega
theorem flatL_get {l : List Lt} {k : Nat} {s : Lt} (h : l[k]? = some s) : (flatL l)[k * 3]? = some (vU s.a) ∧ (flatL l)[k * 3 + 1]? = some (vU s.v) ∧ (flatL l)[k * 3 + 2]? = some (vI s.t) := by
  induction l generalizing k with
  | nil => simp at h
  | cons a l ih =>
    cases k with
    | zero => simp at h; subst h; exact ⟨rfl, rfl, rfl⟩
    | succ k =>
      have := ih (k := k) (by simpa using h)
      rw [show (k + 1) * 3 = k * 3 + 3 by omega]
      exact this
theorem flatW_get {l : List (Int × Int)} {k : Nat} {s : Int × Int} (h : l[k]? = some s) : (flatW l)[k * 2]? = some (vU s.1) ∧ (flatW l)[k * 2 + 1]? = some (vI s.2) := by
  induction l generalizing k with
  | nil => simp at h
  | cons a l ih =>
    cases k with
    | zero => simp at h; subst h; exact ⟨rfl, rfl⟩
    | succ k =>
      have := ih (k := k) (by simpa using h)
      rw [show (k + 1) * 2 = k * 2 + 2 by omega]
      exact this
theorem flatB_get {d : Int} {l : List Value} {k : Nat} {s : Value} (h : l[k]? = some s) : (flatB d l)[k * 2]? = some (vI d) ∧ (flatB d l)[k * 2 + 1]? = some s := by
  induction l generalizing k with
  | nil => simp at h
  | cons a l ih =>
    cases k with
    | zero => simp at h; subst h; exact ⟨rfl, rfl⟩
    | succ k =>
      have := ih (k := k) (by simpa using h)
      rw [show (k + 1) * 2 = k * 2 + 2 by omega]
      exact this
theorem flatB_set (d : Int) (l : List Value) (k : Nat) (v : Value) : (flatB d l).set (k * 2 + 1) v = flatB d (l.set k v) := by
  induction l generalizing k with
  | nil => rfl
  | cons a l ih =>
    cases k with
    | zero => rfl
    | succ k =>
      rw [show (k + 1) * 2 + 1 = (k * 2 + 1) + 2 by omega]
      show vI d :: a :: (flatB d l).set (k * 2 + 1) v = _
      rw [ih]; rfl
theorem flatW_set (l : List (Int × Int)) (k : Nat) (v : Int × Int) : ((flatW l).set (k * 2) (vU v.1)).set (k * 2 + 1) (vI v.2) = flatW (l.set k v) := by
  induction l generalizing k with
  | nil => rfl
  | cons a l ih =>
    cases k with
    | zero => rfl
    | succ k =>
      rw [show (k + 1) * 2 = k * 2 + 2 by omega]
      show vU a.1 :: vI a.2 :: ((flatW l).set (k * 2) (vU v.1)).set (k * 2 + 1) (vI v.2) = _
      rw [ih]; rfl
theorem flatL_append (l m : List Lt) : flatL (l ++ m) = flatL l ++ flatL m := by simp [flatL]

/-- What a memory holds. -/
structure Sta where
  words : List (Int × Int)
  bufs : List (List Lt)
  depth : Int
  stamps : List Int
  reached : Int
/-- Where it lies. -/
structure Lay where
  gw : Nat
  gb : Nat
  sv : Value
  hv : List Value
def topV (S : Sta) (L : Lay) : Array Value := #[.slice (some ⟨L.gw, 0, none⟩) S.words.length S.words.length, .slice (some ⟨L.gb, 0, none⟩) S.bufs.length S.bufs.length, L.sv, vI S.reached]
structure MemAt (g : Nat) (S : Sta) (L : Lay) (w : World) : Prop where
  top : w.heap[g]? = some (.cells (topV S L) 75)
  words : w.heap[L.gw]? = some (.cells (flatW S.words).toArray 104)
  bufs : w.heap[L.gb]? = some (.cells (flatB S.depth L.hv).toArray 77)
  stamps : w.ownsRow 0 3 1 L.sv S.stamps.length (S.stamps.map vI)
  len : L.hv.length = S.bufs.length
  held : ∀ (k : Nat) v l, L.hv[k]? = some v → S.bufs[k]? = some l → w.ownsRow 0 59 3 v l.length (flatL l)
  apart : ∀ (i j : Nat) v u b, L.hv[i]? = some v → L.hv[j]? = some u → i ≠ j → v.ownBlock = some b → u.ownBlock ≠ some b
/-- The blocks that are its own. -/
def Foot (g : Nat) (L : Lay) (k : Nat) : Prop := k = g ∨ k = L.gw ∨ k = L.gb ∨ L.sv.ownBlock = some k ∨ ∃ v ∈ L.hv, v.ownBlock = some k
theorem own_of_block {w w' : World} {base size n : Nat} {e : TypeId} {v : Value} {xs : List Value} (h : w.ownsRow base e size v n xs) (hb : ∀ k, v.ownBlock = some k → w'.heap[k]? = w.heap[k]?) : w'.ownsRow base e size v n xs := by
  refine ⟨h.1, ?_⟩
  rcases h.2 with hn | ⟨g, cap, cur, rfl, h1, h2, rest⟩
  · exact .inl hn
  · exact .inr ⟨g, cap, cur, rfl, h1, by rw [hb g rfl]; exact h2, rest⟩
theorem MemAt.keep {g : Nat} {S : Sta} {L : Lay} {w w' : World} (h : MemAt g S L w) (hb : ∀ k, Foot g L k → w'.heap[k]? = w.heap[k]?) : MemAt g S L w' := by
  refine ⟨by rw [hb _ (.inl rfl)]; exact h.top, by rw [hb _ (.inr (.inl rfl))]; exact h.words, by rw [hb _ (.inr (.inr (.inl rfl)))]; exact h.bufs, own_of_block h.stamps fun k hk => hb k (.inr (.inr (.inr (.inl hk)))), h.len, ?_, h.apart⟩
  intro k v l hv hl
  exact own_of_block (h.held k v l hv hl) fun b hk => hb b (.inr (.inr (.inr (.inr ⟨v, List.mem_of_getElem? hv, hk⟩))))
theorem lt_of_some {w : World} {b : Nat} {o : Obj} (h : w.heap[b]? = some o) : b < w.heap.size := (Array.getElem?_eq_some_iff.1 h).1
theorem MemAt.lt {g : Nat} {S : Sta} {L : Lay} {w : World} (h : MemAt g S L w) {k : Nat} (hk : Foot g L k) : k < w.heap.size := by
  rcases hk with rfl | rfl | rfl | hk | ⟨v, hv, hk⟩
  · exact lt_of_some h.top
  · exact lt_of_some h.words
  · exact lt_of_some h.bufs
  · exact (h.stamps.lt k hk).2
  · obtain ⟨i, hi⟩ := List.mem_iff_getElem?.1 hv
    have hl : i < S.bufs.length := by rw [← h.len]; exact (List.getElem?_eq_some_iff.1 hi).1
    exact ((h.held i v S.bufs[i] hi (List.getElem?_eq_getElem hl)).lt k hk).2
theorem MemAt.grow {g : Nat} {S : Sta} {L : Lay} {w w' : World} (h : MemAt g S L w) (hb : Below w.heap.size w w') : MemAt g S L w' := h.keep fun k hk => hb.block k (h.lt hk)
/-- A call that turns a memory leaves all else as it was. -/
def Turn (g : Nat) (L : Lay) (S : Sta) (w w' : World) : Prop := ∃ L', MemAt g S L' w' ∧ Goes (Foot g L) w w' ∧ ∀ k, Foot g L' k → Foot g L k ∨ w.heap.size ≤ k
theorem turn_of_below {g : Nat} {L : Lay} {S : Sta} {w w' : World} (h : MemAt g S L w) (hb : Below w.heap.size w w') : Turn g L S w w' := ⟨L, h.grow hb, goes_of_below hb, fun _ hk => .inl hk⟩
theorem MemAt.c0 {g : Nat} {S : Sta} {L : Lay} {w : World} (h : MemAt g S L w) : w.cell? ⟨g, 0, none⟩ = some (.slice (some ⟨L.gw, 0, none⟩) S.words.length S.words.length) := by rw [cell_of_row _ _ _ _ _ _ h.top]; rfl
theorem MemAt.c1 {g : Nat} {S : Sta} {L : Lay} {w : World} (h : MemAt g S L w) : w.cell? ⟨g, 1, none⟩ = some (.slice (some ⟨L.gb, 0, none⟩) S.bufs.length S.bufs.length) := by rw [cell_of_row _ _ _ _ _ _ h.top]; rfl
theorem MemAt.c2 {g : Nat} {S : Sta} {L : Lay} {w : World} (h : MemAt g S L w) : w.cell? ⟨g, 2, none⟩ = some L.sv := by rw [cell_of_row _ _ _ _ _ _ h.top]; rfl
theorem MemAt.c3 {g : Nat} {S : Sta} {L : Lay} {w : World} (h : MemAt g S L w) : w.cell? ⟨g, 3, none⟩ = some (vI S.reached) := by rw [cell_of_row _ _ _ _ _ _ h.top]; rfl
theorem MemAt.cw {g : Nat} {S : Sta} {L : Lay} {w : World} (h : MemAt g S L w) {k : Nat} {s : Int × Int} (hs : S.words[k]? = some s) : w.cell? ⟨L.gw, k * 2, none⟩ = some (vU s.1) ∧ w.cell? ⟨L.gw, k * 2 + 1, none⟩ = some (vI s.2) := by
  have := flatW_get hs
  rw [cell_of_row _ _ _ _ _ _ h.words, cell_of_row _ _ _ _ _ _ h.words]
  simpa using this
theorem MemAt.cb {g : Nat} {S : Sta} {L : Lay} {w : World} (h : MemAt g S L w) {k : Nat} {v : Value} (hs : L.hv[k]? = some v) : w.cell? ⟨L.gb, k * 2, none⟩ = some (vI S.depth) ∧ w.cell? ⟨L.gb, k * 2 + 1, none⟩ = some v := by
  have := flatB_get (d := S.depth) hs
  rw [cell_of_row _ _ _ _ _ _ h.bufs, cell_of_row _ _ _ _ _ _ h.bufs]
  simpa using this
/-- A slice that is owned, by its length alone. -/
theorem own_len {w : World} {base size n : Nat} {e : TypeId} {v : Value} {xs : List Value} (h : w.ownsRow base e size v n xs) : ∃ ao cap, v = .slice ao n cap ∧ n ≤ cap ∧ cap ≤ maxLen := by
  rcases h.2 with ⟨rfl, rfl⟩ | ⟨g, cap, cur, rfl, _, _, h1, h2, _⟩
  · exact ⟨none, 0, rfl, Nat.le_refl _, Nat.zero_le _⟩
  · exact ⟨_, cap, rfl, h1, h2⟩
end Go.Proofs.Ytjkjbcnafpljoaa
