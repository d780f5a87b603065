/- Ways in relations, plain: no program is named. -/
import Derived.Below
import Derived.WalkKit
namespace Go.Proofs.YtnedkielehmneaaGreatDoor.Rlw
open Go.RowKit
set_option linter.unusedVariables false
set_option linter.unusedSimpArgs false
set_option maxRecDepth 8000

/-- One or more pairs lead from a to b. -/
inductive Way (R : Nat → Nat → Prop) : Nat → Nat → Prop
  | one {a b : Nat} : R a b → Way R a b
  | more {a c b : Nat} : R a c → Way R c b → Way R a b
theorem Way.trans {R : Nat → Nat → Prop} {a b c : Nat} (h : Way R a b) (k : Way R b c) : Way R a c := by
  induction h with
  | one h => exact .more h k
  | more h _ ih => exact .more h (ih k)
theorem Way.mono {R S : Nat → Nat → Prop} (hs : ∀ a b, R a b → S a b) {a b : Nat} (h : Way R a b) : Way S a b := by
  induction h with
  | one h => exact .one (hs _ _ h)
  | more h _ ih => exact .more (hs _ _ h) ih
theorem Way.closed {R : Nat → Nat → Prop} {a b : Nat} (h : Way (Way R) a b) : Way R a b := by
  induction h with
  | one h => exact h
  | more h _ ih => exact h.trans ih
theorem Way.closed_iff {R : Nat → Nat → Prop} {a b : Nat} : Way (Way R) a b ↔ Way R a b := ⟨Way.closed, .one⟩
theorem Way.last {R : Nat → Nat → Prop} {a b : Nat} (h : Way R a b) : R a b ∨ ∃ c, Way R a c ∧ R c b := by
  induction h with
  | one h => exact .inl h
  | more h _ ih =>
    rcases ih with k | ⟨c, k1, k2⟩
    · exact .inr ⟨_, .one h, k⟩
    · exact .inr ⟨c, .more h k1, k2⟩
theorem Way.turn {R : Nat → Nat → Prop} {a b : Nat} (h : Way R a b) : Way (fun x y => R y x) b a := by
  induction h with
  | one h => exact .one h
  | more h _ ih => exact ih.trans (.one h)
theorem Way.first {R : Nat → Nat → Prop} {a b : Nat} (h : Way R a b) : ∃ c, R a c := by
  cases h with
  | one h => exact ⟨_, h⟩
  | more h _ => exact ⟨_, h⟩
/-- The same, over inner things below k alone. -/
inductive WayB (R : Nat → Nat → Prop) (k : Nat) : Nat → Nat → Prop
  | one {a b : Nat} : R a b → WayB R k a b
  | more {a c b : Nat} : R a c → c < k → WayB R k c b → WayB R k a b
theorem WayB.way {R : Nat → Nat → Prop} {k a b : Nat} (h : WayB R k a b) : Way R a b := by
  induction h with
  | one h => exact .one h
  | more h _ _ ih => exact .more h ih
theorem WayB.up {R : Nat → Nat → Prop} {k a b : Nat} (h : WayB R k a b) : WayB R (k + 1) a b := by
  induction h with
  | one h => exact .one h
  | more h hc _ ih => exact .more h (by omega) ih
theorem WayB.join {R : Nat → Nat → Prop} {k a b c : Nat} (h : WayB R k a c) (hc : c < k) (h' : WayB R k c b) : WayB R k a b := by
  induction h with
  | one h => exact .more h hc h'
  | more h hd _ ih => exact .more h hd (ih hc h')
theorem WayB.split {R : Nat → Nat → Prop} {k a b : Nat} (h : WayB R (k + 1) a b) : WayB R k a b ∨ (WayB R k a k ∧ WayB R k k b) := by
  induction h with
  | one h => exact .inl (.one h)
  | @more a c b h hc _ ih =>
    by_cases e : c = k
    · subst e
      rcases ih with i | ⟨_, i⟩
      · exact .inr ⟨.one h, i⟩
      · exact .inr ⟨.one h, i⟩
    · have hck : c < k := by omega
      rcases ih with i | ⟨i, j⟩
      · exact .inl (.more h hck i)
      · exact .inr ⟨.more h hck i, j⟩
theorem way_all {R : Nat → Nat → Prop} {n : Nat} (hn : ∀ a b, R a b → a < n) {a b : Nat} (h : Way R a b) : WayB R n a b := by
  induction h with
  | one h => exact .one h
  | more h k ih =>
    obtain ⟨c, hc⟩ := k.first
    exact .more h (hn _ _ hc) ih
/-- Warshall's rows: over the things below k. -/
def war (R : Nat → Nat → Bool) : Nat → Nat → Nat → Bool
  | 0, a, b => R a b
  | k + 1, a, b => war R k a b || (war R k a k && war R k k b)
theorem war_iff (R : Nat → Nat → Bool) : ∀ k a b, war R k a b = true ↔ WayB (fun x y => R x y = true) k a b
  | 0, a, b => by
    constructor
    · intro h; exact .one h
    · intro h
      cases h with
      | one h => exact h
      | more _ hc _ => exact absurd hc (Nat.not_lt_zero _)
  | k + 1, a, b => by
    show (war R k a b || (war R k a k && war R k k b)) = true ↔ _
    rw [Bool.or_eq_true, Bool.and_eq_true, war_iff R k a b, war_iff R k a k, war_iff R k k b]
    constructor
    · rintro (h | ⟨h1, h2⟩)
      · exact h.up
      · exact h1.up.join (Nat.lt_succ_self k) h2.up
    · exact WayB.split
theorem war_way {R : Nat → Nat → Bool} {n : Nat} (hn : ∀ a b, R a b = true → a < n) (a b : Nat) : war R n a b = true ↔ Way (fun x y => R x y = true) a b :=
  ⟨fun h => ((war_iff R n a b).1 h).way, fun h => (war_iff R n a b).2 (way_all hn h)⟩
/-- A row of things in which a stands ahead of b for each pair: then nothing leads to itself. -/
theorem order_no_loop {R : Nat → Nat → Prop} {p : Nat → Nat} (h : ∀ a b, R a b → p a < p b) {a : Nat} : ¬ Way R a a := by
  have key : ∀ {x y : Nat}, Way R x y → p x < p y := fun {x y} hw => by
    induction hw with
    | one k => exact h _ _ k
    | more k _ ih => exact Nat.lt_trans (h _ _ k) ih
  intro hw
  exact absurd (key hw) (Nat.lt_irrefl _)
/-- The pairs are of things below n. -/
def Fits (n : Nat) (R : Nat → Nat → Bool) : Prop := ∀ a b, R a b = true → a < n ∧ b < n
/-- The pairs, rising: n rows of m things. -/
def prow (m : Nat) (R : Nat → Nat → Bool) (a : Nat) : List (Nat × Nat) := ((List.range m).filter (R a)).map fun b => (a, b)
def prsN (n m : Nat) (R : Nat → Nat → Bool) : List (Nat × Nat) := (List.range n).flatMap (prow m R)
theorem prsN_succ (n m : Nat) (R : Nat → Nat → Bool) : prsN (n + 1) m R = prsN n m R ++ prow m R n := by
  unfold prsN
  rw [List.range_succ, List.flatMap_append]
  simp
theorem filter_more {f : Nat → Bool} {n : Nat} (h : ∀ b, f b = true → b < n) : ∀ k, (List.range (n + k)).filter f = (List.range n).filter f
  | 0 => rfl
  | k + 1 => by
    rw [show n + (k + 1) = (n + k) + 1 from rfl, List.range_succ, List.filter_append, filter_more h k]
    have : f (n + k) = false := by
      cases e : f (n + k) with
      | false => rfl
      | true => have := h _ e; omega
    simp [this]
theorem prow_fits {n m : Nat} {R : Nat → Nat → Bool} (h : Fits n R) (hm : n ≤ m) (a : Nat) : prow m R a = prow n R a := by
  unfold prow
  obtain ⟨k, rfl⟩ := Nat.exists_eq_add_of_le hm
  rw [filter_more (fun b hb => (h a b hb).2)]
theorem prow_none {n m : Nat} {R : Nat → Nat → Bool} (h : Fits n R) {a : Nat} (ha : n ≤ a) : prow m R a = [] := by
  unfold prow
  rw [List.map_eq_nil_iff, List.filter_eq_nil_iff]
  intro b _ hb
  have := (h a b hb).1
  omega
theorem prsN_fits {n m k : Nat} {R : Nat → Nat → Bool} (h : Fits n R) (hm : n ≤ m) (hk : n ≤ k) : prsN k m R = prsN n n R := by
  have e1 : ∀ j, prsN j m R = prsN j n R := fun j => by
    unfold prsN
    congr 1
    funext a
    exact prow_fits h hm a
  rw [e1]
  obtain ⟨j, rfl⟩ := Nat.exists_eq_add_of_le hk
  induction j with
  | zero => rfl
  | succ j ih =>
    rw [show n + (j + 1) = (n + j) + 1 from rfl, prsN_succ, ih (by omega), prow_none h (by omega), List.append_nil]
theorem mem_prs {n m : Nat} {R : Nat → Nat → Bool} {a b : Nat} : (a, b) ∈ prsN n m R ↔ a < n ∧ b < m ∧ R a b = true := by
  unfold prsN prow
  simp only [List.mem_flatMap, List.mem_range, List.mem_map, List.mem_filter, Prod.mk.injEq]
  constructor
  · rintro ⟨a', h1, b', ⟨h2, h3⟩, rfl, rfl⟩
    exact ⟨h1, h2, h3⟩
  · rintro ⟨h1, h2, h3⟩
    exact ⟨a, h1, b, ⟨h2, h3⟩, rfl, rfl⟩
theorem length_prow (m : Nat) (R : Nat → Nat → Bool) (a : Nat) : (prow m R a).length ≤ m := by
  unfold prow
  rw [List.length_map]
  exact Nat.le_trans (List.length_filter_le _ _) (by rw [List.length_range]; exact Nat.le_refl _)
theorem length_prs (m : Nat) (R : Nat → Nat → Bool) : ∀ n, (prsN n m R).length ≤ n * m
  | 0 => by simp [prsN]
  | n + 1 => by
    rw [prsN_succ, List.length_append]
    have := length_prs m R n
    have := length_prow m R n
    rw [Nat.succ_mul]
    omega
/-- What is made of relations. -/
def addR (R : Nat → Nat → Bool) (a b : Nat) : Nat → Nat → Bool := fun x y => R x y || (decide (x = a) && decide (y = b))
def unR (R S : Nat → Nat → Bool) : Nat → Nat → Bool := fun a b => R a b || S a b
def inR (R S : Nat → Nat → Bool) : Nat → Nat → Bool := fun a b => R a b && S a b
def miR (R S : Nat → Nat → Bool) : Nat → Nat → Bool := fun a b => R a b && !S a b
def thR (n : Nat) (R S : Nat → Nat → Bool) : Nat → Nat → Bool := fun a c => (List.range n).any fun b => R a b && S b c
def tuR (R : Nat → Nat → Bool) : Nat → Nat → Bool := fun a b => R b a
def keR (f g : Nat → Bool) (R : Nat → Nat → Bool) : Nat → Nat → Bool := fun a b => R a b && f a && g b
theorem fits_no (n : Nat) : Fits n fun _ _ => false := fun _ _ h => by cases h
theorem Fits.add {n a b : Nat} {R : Nat → Nat → Bool} (h : Fits n R) (ha : a < n) (hb : b < n) : Fits n (addR R a b) := fun x y e => by
  simp only [addR, Bool.or_eq_true, Bool.and_eq_true, decide_eq_true_eq] at e
  rcases e with e | ⟨rfl, rfl⟩
  · exact h x y e
  · exact ⟨ha, hb⟩
theorem Fits.un {n : Nat} {R S : Nat → Nat → Bool} (h : Fits n R) (k : Fits n S) : Fits n (unR R S) := fun x y e => by
  simp only [unR, Bool.or_eq_true] at e
  exact e.elim (h x y) (k x y)
theorem Fits.inn {n : Nat} {R : Nat → Nat → Bool} (h : Fits n R) (S : Nat → Nat → Bool) : Fits n (inR R S) := fun x y e => by
  simp only [inR, Bool.and_eq_true] at e
  exact h x y e.1
theorem Fits.mi {n : Nat} {R : Nat → Nat → Bool} (h : Fits n R) (S : Nat → Nat → Bool) : Fits n (miR R S) := fun x y e => by
  simp only [miR, Bool.and_eq_true] at e
  exact h x y e.1
theorem Fits.th {n m : Nat} {R S : Nat → Nat → Bool} (h : Fits n R) (k : Fits n S) : Fits n (thR m R S) := fun x y e => by
  simp only [thR, List.any_eq_true, Bool.and_eq_true] at e
  obtain ⟨b, _, e1, e2⟩ := e
  exact ⟨(h x b e1).1, (k b y e2).2⟩
theorem Fits.tu {n : Nat} {R : Nat → Nat → Bool} (h : Fits n R) : Fits n (tuR R) := fun x y e => ⟨(h y x e).2, (h y x e).1⟩
theorem Fits.ke {n : Nat} {R : Nat → Nat → Bool} (h : Fits n R) (f g : Nat → Bool) : Fits n (keR f g R) := fun x y e => by
  simp only [keR, Bool.and_eq_true] at e
  exact h x y e.1.1
theorem Fits.wa {n : Nat} {R : Nat → Nat → Bool} (h : Fits n R) : ∀ k, Fits n (war R k)
  | 0 => h
  | k + 1 => fun a b e => by
    have e' : (war R k a b || (war R k a k && war R k k b)) = true := e
    simp only [Bool.or_eq_true, Bool.and_eq_true] at e'
    rcases e' with e' | ⟨e1, e2⟩
    · exact Fits.wa h k a b e'
    · exact ⟨(Fits.wa h k a k e1).1, (Fits.wa h k k b e2).2⟩
theorem thR_iff {n : Nat} {R S : Nat → Nat → Bool} (h : Fits n R) {a c : Nat} : thR n R S a c = true ↔ ∃ b, R a b = true ∧ S b c = true := by
  simp only [thR, List.any_eq_true, Bool.and_eq_true, List.mem_range]
  exact ⟨fun ⟨b, _, h⟩ => ⟨b, h⟩, fun ⟨b, e⟩ => ⟨b, (h a b e.1).2, e⟩⟩
theorem ext2 {R S : Nat → Nat → Bool} (h : ∀ a b, R a b = true ↔ S a b = true) : R = S := by
  funext a b
  exact Bool.eq_iff_iff.2 (h a b)
/-- One behind the other, in any grouping. -/
theorem th_group {n : Nat} {R S T : Nat → Nat → Bool} (h : Fits n R) (k : Fits n S) : thR n (thR n R S) T = thR n R (thR n S T) := ext2 fun a d => by
  rw [thR_iff (h.th k), thR_iff h]
  constructor
  · rintro ⟨c, e1, e2⟩
    obtain ⟨b, e3, e4⟩ := (thR_iff h).1 e1
    exact ⟨b, e3, (thR_iff k).2 ⟨c, e4, e2⟩⟩
  · rintro ⟨b, e1, e2⟩
    obtain ⟨c, e3, e4⟩ := (thR_iff k).1 e2
    exact ⟨c, (thR_iff h).2 ⟨b, e1, e3⟩, e4⟩
theorem war_iff_way {n : Nat} {R : Nat → Nat → Bool} (h : Fits n R) (a b : Nat) : war R n a b = true ↔ Way (fun x y => R x y = true) a b := war_way (fun a b e => (h a b e).1) a b
/-- Closed once is closed. -/
theorem war_twice {n : Nat} {R : Nat → Nat → Bool} (h : Fits n R) : war (war R n) n = war R n := ext2 fun a b => by
  rw [war_iff_way (h.wa n), war_iff_way h]
  have e : (fun x y => war R n x y = true) = Way (fun x y => R x y = true) := by
    funext x y
    exact propext (war_iff_way h x y)
  rw [e]
  exact Way.closed_iff
/-- The least thing that leads to itself. -/
def loopF (n : Nat) (R : Nat → Nat → Bool) : Option Nat := (List.range n).find? fun a => war R n a a
/-- The next thing of the least order. -/
def rdy (n : Nat) (R : Nat → Nat → Bool) (l : List Nat) (b : Nat) : Bool := !decide (b ∈ l) && (List.range n).all fun a => decide (a ∈ l) || !R a b
def nxt (n : Nat) (R : Nat → Nat → Bool) (l : List Nat) : Option Nat := (List.range n).find? (rdy n R l)
def ordL (n : Nat) (R : Nat → Nat → Bool) : Nat → List Nat
  | 0 => []
  | k + 1 => match nxt n R (ordL n R k) with
    | some b => ordL n R k ++ [b]
    | none => ordL n R k
def ordB (n : Nat) (R : Nat → Nat → Bool) : Bool := decide ((ordL n R n).length = n)
theorem rdy_iff {n : Nat} {R : Nat → Nat → Bool} (h : Fits n R) {l : List Nat} {b : Nat} : rdy n R l b = true ↔ b ∉ l ∧ ∀ a, R a b = true → a ∈ l := by
  simp only [rdy, Bool.and_eq_true, Bool.not_eq_true', decide_eq_false_iff_not, List.all_eq_true, List.mem_range, Bool.or_eq_true, decide_eq_true_eq]
  refine and_congr_right fun _ => ⟨fun k a e => ?_, fun k a _ => ?_⟩
  · rcases k a (h a b e).1 with r | r
    · exact r
    · rw [e] at r; cases r
  · cases e : R a b with
    | true => exact .inl (k a e)
    | false => exact .inr rfl
theorem find_range {n : Nat} {f : Nat → Bool} {b : Nat} : (List.range n).find? f = some b ↔ b < n ∧ f b = true ∧ ∀ a, a < b → f a = false := by
  rw [List.find?_range_eq_some]
  simp only [List.mem_range, Bool.not_eq_true']
  constructor
  · rintro ⟨h1, h2, h3⟩; exact ⟨h2, h1, h3⟩
  · rintro ⟨h1, h2, h3⟩; exact ⟨h2, h1, h3⟩
theorem find_none {n : Nat} {f : Nat → Bool} : (List.range n).find? f = none ↔ ∀ a, a < n → f a = false := by
  rw [List.find?_eq_none]
  simp only [List.mem_range, Bool.not_eq_true]
theorem ordL_some {n k b : Nat} {R : Nat → Nat → Bool} (h : nxt n R (ordL n R k) = some b) : ordL n R (k + 1) = ordL n R k ++ [b] := by
  show (match nxt n R (ordL n R k) with | some b => ordL n R k ++ [b] | none => ordL n R k) = _
  rw [h]
theorem ordL_none {n k : Nat} {R : Nat → Nat → Bool} (h : nxt n R (ordL n R k) = none) : ∀ j, ordL n R (k + j) = ordL n R k
  | 0 => rfl
  | j + 1 => by
    have ih := ordL_none h j
    show (match nxt n R (ordL n R (k + j)) with | some b => ordL n R (k + j) ++ [b] | none => ordL n R (k + j)) = _
    rw [ih, h]
theorem ordL_len (n : Nat) (R : Nat → Nat → Bool) : ∀ k, (ordL n R k).length ≤ k
  | 0 => Nat.le_refl _
  | k + 1 => by
    have := ordL_len n R k
    show (match nxt n R (ordL n R k) with | some b => ordL n R k ++ [b] | none => ordL n R k).length ≤ _
    split
    · rw [List.length_append]; simp; omega
    · omega
/-- What an order has at each step: things below n, each once, whoever leads to one ahead of it. -/
structure Ordd (n : Nat) (R : Nat → Nat → Bool) (l : List Nat) : Prop where
  lt : ∀ b ∈ l, b < n
  one : l.Nodup
  fwd : ∀ (i : Nat) (b : Nat), l[i]? = some b → ∀ a, R a b = true → ∃ j, j < i ∧ l[j]? = some a
theorem Ordd.snoc {n b : Nat} {R : Nat → Nat → Bool} {l : List Nat} (hR : Fits n R) (H : Ordd n R l) (h : nxt n R l = some b) : Ordd n R (l ++ [b]) := by
  obtain ⟨h1, h2, _⟩ := find_range.1 h
  obtain ⟨h3, h4⟩ := (rdy_iff hR).1 h2
  refine ⟨fun c hc => ?_, ?_, fun i c hi a ha => ?_⟩
  · rcases List.mem_append.1 hc with hc | hc
    · exact H.lt c hc
    · rw [List.mem_singleton.1 hc]; exact h1
  · rw [List.nodup_append]
    refine ⟨H.one, by simp, fun x hx y hy e => ?_⟩
    rw [List.mem_singleton.1 hy] at e
    exact h3 (e ▸ hx)
  · by_cases hl : i < l.length
    · rw [List.getElem?_append_left hl] at hi
      obtain ⟨j, hj, e⟩ := H.fwd i c hi a ha
      exact ⟨j, hj, by rw [List.getElem?_append_left (by omega)]; exact e⟩
    · have hi' := (List.getElem?_eq_some_iff.1 hi).1
      rw [List.length_append] at hi'
      simp at hi'
      have e : i = l.length := by omega
      subst e
      rw [List.getElem?_append_right (Nat.le_refl _)] at hi
      simp at hi
      subst hi
      obtain ⟨j, hj⟩ := List.mem_iff_getElem?.1 (h4 a ha)
      have hj' := (List.getElem?_eq_some_iff.1 hj).1
      exact ⟨j, hj', by rw [List.getElem?_append_left hj']; exact hj⟩
theorem ordL_ordd {n : Nat} {R : Nat → Nat → Bool} (hR : Fits n R) : ∀ k, Ordd n R (ordL n R k)
  | 0 => ⟨fun b h => absurd h (by simp [ordL]), List.nodup_nil, fun i b h => by simp [ordL] at h⟩
  | k + 1 => by
    have ih := ordL_ordd hR k
    cases h : nxt n R (ordL n R k) with
    | none => rw [ordL_none h 1]; exact ih
    | some b => rw [ordL_some h]; exact ih.snoc hR h
theorem nodup_sub : ∀ {l m : List Nat}, l.Nodup → (∀ x ∈ l, x ∈ m) → l.length ≤ m.length
  | [], _, _, _ => Nat.zero_le _
  | x :: l, m, hd, hs => by
    have hx := hs x (by simp)
    have ih := nodup_sub (m := m.erase x) (List.nodup_cons.1 hd).2 (fun y hy => (List.mem_erase_of_ne (by rintro rfl; exact (List.nodup_cons.1 hd).1 hy)).2 (hs y (by simp [hy])))
    rw [List.length_erase_of_mem hx] at ih
    have := List.length_pos_of_mem hx
    simp only [List.length_cons]; omega
/-- Things below n, each once: no more than n; if there are n, each is there. -/
theorem nodup_len {n : Nat} {l : List Nat} (h : ∀ b ∈ l, b < n) (hd : l.Nodup) : l.length ≤ n := by
  have : l.length ≤ (List.range n).length := nodup_sub hd (fun b hb => List.mem_range.2 (h b hb))
  rwa [List.length_range] at this
theorem nodup_all {n : Nat} {l : List Nat} (h : ∀ b ∈ l, b < n) (hd : l.Nodup) (hn : l.length = n) {b : Nat} (hb : b < n) : b ∈ l := by
  refine Classical.byContradiction fun hc => ?_
  have : (b :: l).length ≤ n := nodup_len (fun c hm => by
    rcases List.mem_cons.1 hm with rfl | hm
    · exact hb
    · exact h c hm) (List.nodup_cons.2 ⟨hc, hd⟩)
  simp at this
  omega
/-- Of several things, where nothing leads to itself, one to which none of them leads. -/
theorem least {W : Nat → Nat → Prop} (ht : ∀ a b c, W a b → W b c → W a c) (hi : ∀ a, ¬ W a a) : ∀ (l : List Nat), l ≠ [] → ∃ m ∈ l, ∀ a ∈ l, ¬ W a m
  | [], h => absurd rfl h
  | [x], _ => ⟨x, List.mem_singleton.2 rfl, fun a ha => by rw [List.mem_singleton.1 ha]; exact hi x⟩
  | x :: y :: l, _ => by
    obtain ⟨m, hm, hl⟩ := least ht hi (y :: l) (by simp)
    by_cases hx : W x m
    · refine ⟨x, by simp, fun a ha hw => ?_⟩
      rcases List.mem_cons.1 ha with rfl | ha
      · exact hi _ hw
      · exact hl a ha (ht _ _ _ hw hx)
    · refine ⟨m, List.mem_cons_of_mem _ hm, fun a ha hw => ?_⟩
      rcases List.mem_cons.1 ha with rfl | ha
      · exact hx hw
      · exact hl a ha hw
/-- There is an order just if nothing leads to itself. -/
theorem nxt_some {n : Nat} {R : Nat → Nat → Bool} (hR : Fits n R) {l : List Nat} (H : Ordd n R l) (hl : l.length < n) (hw : ∀ a, ¬ Way (fun x y => R x y = true) a a) : nxt n R l ≠ none := by
  intro hn
  have hne : (List.range n).filter (fun b => !decide (b ∈ l)) ≠ [] := by
    intro e
    rw [List.filter_eq_nil_iff] at e
    have : (List.range n).length ≤ l.length := nodup_sub List.nodup_range (fun b hb => by
      have := e b hb
      simpa using this)
    rw [List.length_range] at this
    omega
  obtain ⟨m, hm, hmin⟩ := least (W := Way (fun x y => R x y = true)) (fun _ _ _ h k => h.trans k) hw _ hne
  simp only [List.mem_filter, List.mem_range, Bool.not_eq_true', decide_eq_false_iff_not] at hm hmin
  have hr : rdy n R l m = true := (rdy_iff hR).2 ⟨hm.2, fun a ha => Classical.byContradiction fun hc => hmin a ⟨(hR a m ha).1, hc⟩ (.one ha)⟩
  rw [find_none.1 hn m hm.1] at hr
  cases hr
theorem ordB_iff {n : Nat} {R : Nat → Nat → Bool} (hR : Fits n R) : ordB n R = true ↔ ∀ a, ¬ Way (fun x y => R x y = true) a a := by
  unfold ordB
  rw [decide_eq_true_eq]
  constructor
  · intro hl a
    have H := ordL_ordd hR n
    have hall : ∀ b, b < n → b ∈ ordL n R n := fun b hb => nodup_all H.lt H.one hl hb
    refine order_no_loop (p := fun b => (ordL n R n).idxOf b) (fun a b hab => ?_)
    have hb := hall b (hR a b hab).2
    have ei : (ordL n R n)[(ordL n R n).idxOf b]? = some b := by
      rw [List.getElem?_eq_getElem (List.idxOf_lt_length_of_mem hb), List.getElem_idxOf]
    obtain ⟨j, hj, ej⟩ := H.fwd _ b ei a hab
    refine Nat.lt_of_le_of_lt ?_ hj
    have hj' := (List.getElem?_eq_some_iff.1 ej)
    have : (ordL n R n).idxOf a = j := by
      have hx := H.one.idxOf_getElem j hj'.1
      rw [hj'.2] at hx
      exact hx
    omega
  · intro hw
    have key : ∀ k, k ≤ n → (ordL n R k).length = k := by
      intro k
      induction k with
      | zero => intro _; rfl
      | succ k ih =>
        intro hk
        have ih' := ih (by omega)
        cases h : nxt n R (ordL n R k) with
        | none => exact absurd h (nxt_some hR (ordL_ordd hR k) (by omega) hw)
        | some b => rw [ordL_some h, List.length_append, ih']; rfl
    exact key n (Nat.le_refl n)
theorem loopF_iff {n : Nat} {R : Nat → Nat → Bool} (hR : Fits n R) : (loopF n R).isSome = true ↔ ∃ a, Way (fun x y => R x y = true) a a := by
  unfold loopF
  rw [List.find?_isSome]
  simp only [List.mem_range]
  constructor
  · rintro ⟨a, _, h⟩; exact ⟨a, (war_iff_way hR a a).1 h⟩
  · rintro ⟨a, h⟩
    have h' := (war_iff_way hR a a).2 h
    exact ⟨a, (hR.wa n a a h').1, h'⟩
theorem ord_loop {n : Nat} {R : Nat → Nat → Bool} (hR : Fits n R) : ordB n R = !(loopF n R).isSome := by
  apply Bool.eq_iff_iff.2
  rw [ordB_iff hR, Bool.not_eq_true', Bool.eq_false_iff, ne_eq, loopF_iff hR]
  exact ⟨fun h ⟨a, ha⟩ => h a ha, fun h a ha => h ⟨a, ha⟩⟩
end Go.Proofs.YtnedkielehmneaaGreatDoor.Rlw
