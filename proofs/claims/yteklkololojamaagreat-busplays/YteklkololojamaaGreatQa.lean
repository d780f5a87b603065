/- The program's controller, as the machine's blocks hold it. -/
import Derived.Test.YteklkololojamaaGreatHg
namespace Go.Proofs.YteklkololojamaaGreat
open Go.RowKit
set_option linter.unusedVariables false
set_option linter.unusedSimpArgs false

/-- An interrupt. -/
structure Src where
  e : Bool
  l : Bool
  h : Bool
  a : Bool
  rank : Int
  goes : Int
def Src.row (s : Src) : List Value := [.bool s.e, .bool s.l, .bool s.h, .bool s.a, vI s.rank, vI s.goes]
abbrev Src.val (s : Src) : Value := .agg #[.bool s.e, .bool s.l, .bool s.h, .bool s.a, vI s.rank, vI s.goes]
/-- What a core works at. -/
structure Trn where
  rank : Int
  id : Int
def Trn.row (t : Trn) : List Value := [vI t.rank, vI t.id]
abbrev Trn.val (t : Trn) : Value := .agg #[vI t.rank, vI t.id]
def flatT (l : List Trn) : List Value := l.flatMap Trn.row
theorem len_flatT (l : List Trn) : (flatT l).length = l.length * 2 := by
  induction l with
  | nil => rfl
  | cons a l ih => simp only [flatT, List.flatMap_cons, List.length_append, List.length_cons, Trn.row] at ih ⊢; simp only [List.length_nil]; omega
theorem flatT_get {l : List Trn} {k : Nat} {s : Trn} (h : l[k]? = some s) (j : Nat) (hj : j < 2) : (flatT l)[k * 2 + j]? = s.row[j]? := by
  induction l generalizing k with
  | nil => simp at h
  | cons a l ih =>
    have e : flatT (a :: l) = a.row ++ flatT l := rfl
    cases k with
    | zero =>
      simp at h; subst h
      rw [e, Nat.zero_mul, Nat.zero_add, List.getElem?_append_left (by simpa [Trn.row] using hj)]
    | succ k =>
      have := ih (k := k) (by simpa using h)
      rw [e, List.getElem?_append_right (by simp [Trn.row]; omega), ← this]
      simp only [Trn.row, List.length_cons, List.length_nil]
      congr 1; omega
theorem one_flatT (l : List Trn) : ∀ u ∈ flatT l, u.oneCell' = true := by
  intro u hu
  simp only [flatT, Trn.row, List.mem_flatMap, List.mem_cons, List.not_mem_nil, or_false] at hu
  obtain ⟨s, _, h | h⟩ := hu <;> subst h <;> rfl
/-- The program's controller: a row of 32 for each core, and behind them (row n) the shared ones. -/
structure Pg where
  src : Nat → Nat → Src
  lim : Nat → Int
  wk : Nat → List Trn
def Pg.put (P : Pg) (r k : Nat) (s : Src) : Pg := { P with src := fun i j => if i = r ∧ j = k then s else P.src i j }
def Pg.setLim (P : Pg) (c : Nat) (v : Int) : Pg := { P with lim := fun i => if i = c then v else P.lim i }
def Pg.setWk (P : Pg) (c : Nat) (l : List Trn) : Pg := { P with wk := fun i => if i = c then l else P.wk i }
structure GLay where
  cb : Nat
  wv : Nat → Value
structure TopC (n cb : Nat) (sh : Nat → Src) (C : Array Value) : Prop where
  size : C.size = 193
  c0 : C[0]? = some (.slice (some ⟨cb, 0, none⟩) n n)
  sh : ∀ k j, k < 32 → j < 6 → C[1 + k * 6 + j]? = (sh k).row[j]?
structure CorC (n : Nat) (P : Pg) (wv : Nat → Value) (C : Array Value) : Prop where
  size : C.size = n * 194
  lim : ∀ c, c < n → C[c * 194]? = some (vI (P.lim c))
  wv : ∀ c, c < n → C[c * 194 + 193]? = some (wv c)
  own : ∀ c k j, c < n → k < 32 → j < 6 → C[c * 194 + 1 + k * 6 + j]? = (P.src c k).row[j]?
structure GicAt (g n : Nat) (P : Pg) (L : GLay) (w : World) : Prop where
  pos : 0 < n
  le8 : n ≤ 8
  top : ∃ C, w.heap[g]? = some (.cells C 122) ∧ TopC n L.cb (P.src n) C
  cor : ∃ C, w.heap[L.cb]? = some (.cells C 119) ∧ CorC n P L.wv C
  wks : ∀ c, c < n → w.ownsRow 0 106 2 (L.wv c) (P.wk c).length (flatT (P.wk c))
  inj : ∀ c d b, c < n → d < n → (L.wv c).ownBlock = some b → (L.wv d).ownBlock = some b → c = d
  lenk : ∀ c, c < n → (P.wk c).length < 1000000
def GFoot (g n : Nat) (L : GLay) (k : Nat) : Prop := k = g ∨ k = L.cb ∨ ∃ c, c < n ∧ (L.wv c).ownBlock = some k
/-- Where an interrupt's cells begin. -/
def sb (g n : Nat) (L : GLay) (r : Nat) : Nat := if r = n then g else L.cb
def so (n r k : Nat) : Nat := if r = n then 1 + k * 6 else r * 194 + 1 + k * 6
section
variable {g n : Nat} {P : Pg} {L : GLay} {w w' : World}
theorem GicAt.keep (H : GicAt g n P L w) (hb : ∀ k, GFoot g n L k → w'.heap[k]? = w.heap[k]?) : GicAt g n P L w' :=
  ⟨H.pos, H.le8, by rw [hb _ (.inl rfl)]; exact H.top, by rw [hb _ (.inr (.inl rfl))]; exact H.cor, fun c hc => own_of_block (H.wks c hc) fun k hk => hb k (.inr (.inr ⟨c, hc, hk⟩)), H.inj, H.lenk⟩
theorem GicAt.lt (H : GicAt g n P L w) {k : Nat} (hk : GFoot g n L k) : k < w.heap.size := by
  rcases hk with rfl | rfl | ⟨c, hc, e⟩
  · obtain ⟨C, h, _⟩ := H.top; exact lt_of_some h
  · obtain ⟨C, h, _⟩ := H.cor; exact lt_of_some h
  · exact ((H.wks c hc).lt _ e).2
theorem GicAt.grow (H : GicAt g n P L w) (hb : Below w.heap.size w w') : GicAt g n P L w' := H.keep fun k hk => hb.block k (H.lt hk)
theorem GicAt.c0 (H : GicAt g n P L w) : w.cell? ⟨g, 0, none⟩ = some (.slice (some ⟨L.cb, 0, none⟩) n n) := by
  obtain ⟨C, h, t⟩ := H.top
  rw [cell_of_row _ _ _ _ _ _ h]; exact t.c0
theorem GicAt.cLim (H : GicAt g n P L w) {c : Nat} (hc : c < n) : w.cell? ⟨L.cb, c * 194, none⟩ = some (vI (P.lim c)) := by
  obtain ⟨C, h, t⟩ := H.cor
  rw [cell_of_row _ _ _ _ _ _ h]; exact t.lim c hc
theorem GicAt.cWv (H : GicAt g n P L w) {c : Nat} (hc : c < n) : w.cell? ⟨L.cb, c * 194 + 193, none⟩ = some (L.wv c) := by
  obtain ⟨C, h, t⟩ := H.cor
  rw [cell_of_row _ _ _ _ _ _ h]; exact t.wv c hc
theorem GicAt.frz (H : GicAt g n P L w) {b : Nat} (hb : b = g ∨ b = L.cb) (j : Nat) : w.frozen? ⟨b, j, none⟩ = false := by
  rcases hb with rfl | rfl
  · obtain ⟨C, h, t⟩ := H.top; exact frozen_of_row _ _ _ _ _ h
  · obtain ⟨C, h, t⟩ := H.cor; exact frozen_of_row _ _ _ _ _ h
theorem sb_or (r : Nat) : sb g n L r = g ∨ sb g n L r = L.cb := by unfold sb; split <;> simp
theorem GicAt.at (H : GicAt g n P L w) {r k : Nat} (hr : r ≤ n) (hk : k < 32) (j : Nat) (hj : j < 6) : w.cell? ⟨sb g n L r, so n r k + j, none⟩ = (P.src r k).row[j]? := by
  unfold sb so
  by_cases e : r = n
  · subst e
    rw [if_pos rfl, if_pos rfl]
    obtain ⟨C, h, t⟩ := H.top
    rw [cell_of_row _ _ _ _ _ _ h]; exact t.sh k j hk hj
  · rw [if_neg e, if_neg e]
    obtain ⟨C, h, t⟩ := H.cor
    rw [cell_of_row _ _ _ _ _ _ h]; exact t.own r k j (by omega) hk hj
theorem GicAt.ne (H : GicAt g n P L w) : g ≠ L.cb := by
  obtain ⟨C, h, _⟩ := H.top
  obtain ⟨D, k, _⟩ := H.cor
  exact ne_of_type h k (by decide)
theorem GicAt.neW (H : GicAt g n P L w) {c : Nat} (hc : c < n) : (L.wv c).ownBlock ≠ some g ∧ (L.wv c).ownBlock ≠ some L.cb := by
  obtain ⟨C, h, _⟩ := H.top
  obtain ⟨D, k, _⟩ := H.cor
  exact ⟨own_ne h (H.wks c hc) (by decide), own_ne k (H.wks c hc) (by decide)⟩
theorem row_set {s s' : Src} {i j : Nat} {v : Value} (h : s.row.set j v = s'.row) : s'.row[i]? = if i = j ∧ j < 6 then some v else s.row[i]? := by
  rw [← h, List.getElem?_set]
  by_cases e : j = i
  · subst e
    by_cases e2 : j < 6
    · rw [if_pos rfl, if_pos (by simpa [Src.row] using e2), if_pos ⟨rfl, e2⟩]
    · rw [if_pos rfl, if_neg (by simpa [Src.row] using e2), if_neg (fun h => e2 h.2)]
      exact (List.getElem?_eq_none (by simp [Src.row]; omega)).symm
  · rw [if_neg e, if_neg (fun h => e h.1.symm)]
theorem cell_in {c d x y : Nat} (hx : x < 194) (hy : y < 194) (h : c * 194 + x = d * 194 + y) : c = d ∧ x = y := by omega
theorem at_ne0 {c r k j : Nat} (hk : k < 32) (hj : j < 6) : r * 194 + 1 + k * 6 + j ≠ c * 194 := fun h => by
  have := (cell_in (c := r) (d := c) (x := 1 + k * 6 + j) (y := 0) (by omega) (by omega) (by omega)).2
  omega
theorem at_ne1 {c r k j : Nat} (hk : k < 32) (hj : j < 6) : r * 194 + 1 + k * 6 + j ≠ c * 194 + 193 := fun h => by
  have := (cell_in (c := r) (d := c) (x := 1 + k * 6 + j) (y := 193) (by omega) (by omega) (by omega)).2
  omega
theorem at_neI {r c k q j i : Nat} (hk : k < 32) (hj : j < 6) (hq : q < 32) (hi : i < 6) (hn : ¬ (c = r ∧ q = k ∧ i = j)) : r * 194 + 1 + k * 6 + j ≠ c * 194 + 1 + q * 6 + i := fun h => by
  have := cell_in (c := r) (d := c) (x := 1 + k * 6 + j) (y := 1 + q * 6 + i) (by omega) (by omega) (by omega)
  omega
theorem zero_ne1 {c d : Nat} : c * 194 ≠ d * 194 + 193 := fun h => by
  have := (cell_in (c := c) (d := d) (x := 0) (y := 193) (by omega) (by omega) (by omega)).2
  omega
/-- A field of an interrupt set. -/
theorem GicAt.set (H : GicAt g n P L w) {r k : Nat} (hr : r ≤ n) (hk : k < 32) {s' : Src} (j : Nat) (hj : j < 6) {v : Value} (hv : (P.src r k).row.set j v = s'.row) : GicAt g n (P.put r k s') L (w.setCell ⟨sb g n L r, so n r k + j, none⟩ v) ∧ Goes (GFoot g n L) w (w.setCell ⟨sb g n L r, so n r k + j, none⟩ v) := by
  have hF : GFoot g n L (sb g n L r) := by rcases sb_or (g := g) (n := n) (L := L) r with e | e <;> rw [e]; exact .inl rfl; exact .inr (.inl rfl)
  have keep : ∀ i, i ≠ sb g n L r → (w.setCell ⟨sb g n L r, so n r k + j, none⟩ v).heap[i]? = w.heap[i]? := fun i hi => Below.heap_setCell _ _ _ _ hi
  have hw : ∀ c, c < n → ∀ i, (L.wv c).ownBlock = some i → i ≠ sb g n L r := by
    rintro c hc i hi rfl
    rcases sb_or (g := g) (n := n) (L := L) r with e | e
    · exact (H.neW hc).1 (e ▸ hi)
    · exact (H.neW hc).2 (e ▸ hi)
  have hrow := fun i => row_set (i := i) hv
  refine ⟨⟨H.pos, H.le8, ?_, ?_, fun c hc => own_of_block (H.wks c hc) fun i hi => keep i (hw c hc i hi), H.inj, H.lenk⟩, goes_setCell w hF _ _⟩
  · obtain ⟨C, h, t⟩ := H.top
    by_cases e : r = n
    · subst e
      have e1 : sb g r L r = g := if_pos rfl
      have e2 : so r r k = 1 + k * 6 := if_pos rfl
      rw [e1, e2]
      refine ⟨_, heap_setCell_same w g _ C 122 v h, by simp [t.size], ?_, fun q i hq hi => ?_⟩
      · rw [Array.getElem?_setIfInBounds_ne (by omega)]; exact t.c0
      · simp only [Pg.put]
        by_cases e3 : q = k
        · subst e3
          rw [if_pos ⟨trivial, rfl⟩, hrow i]
          by_cases e4 : i = j
          · subst e4
            rw [if_pos ⟨rfl, hj⟩, Array.getElem?_setIfInBounds_self_of_lt (by rw [t.size]; omega)]
          · rw [if_neg (fun h => e4 h.1), Array.getElem?_setIfInBounds_ne (by omega)]
            exact t.sh q i hq hi
        · rw [if_neg (fun h => e3 h.2), Array.getElem?_setIfInBounds_ne (by omega)]
          exact t.sh q i hq hi
    · have e1 : sb g n L r = L.cb := if_neg e
      rw [keep g (by rw [e1]; exact H.ne)]
      refine ⟨C, h, t.size, t.c0, fun q i hq hi => ?_⟩
      simp only [Pg.put]
      rw [if_neg (fun h => e h.1.symm)]
      exact t.sh q i hq hi
  · obtain ⟨C, h, t⟩ := H.cor
    by_cases e : r = n
    · have e1 : sb g n L r = g := if_pos e
      rw [keep L.cb (by rw [e1]; exact H.ne.symm)]
      refine ⟨C, h, t.size, t.lim, t.wv, fun c q i hc hq hi => ?_⟩
      simp only [Pg.put]
      rw [if_neg (fun h => by omega)]
      exact t.own c q i hc hq hi
    · have e1 : sb g n L r = L.cb := if_neg e
      have e2 : so n r k = r * 194 + 1 + k * 6 := if_neg e
      rw [e1, e2]
      refine ⟨_, heap_setCell_same w L.cb _ C 119 v h, by simp [t.size], fun c hc => ?_, fun c hc => ?_, fun c q i hc hq hi => ?_⟩
      · rw [Array.getElem?_setIfInBounds_ne (at_ne0 hk hj)]; exact t.lim c hc
      · rw [Array.getElem?_setIfInBounds_ne (at_ne1 hk hj)]; exact t.wv c hc
      · simp only [Pg.put]
        by_cases e3 : c = r ∧ q = k
        · obtain ⟨rfl, rfl⟩ := e3
          rw [if_pos ⟨rfl, rfl⟩, hrow i]
          by_cases e4 : i = j
          · subst e4
            rw [if_pos ⟨rfl, hj⟩, Array.getElem?_setIfInBounds_self_of_lt (by rw [t.size]; omega)]
          · rw [if_neg (fun h => e4 h.1), Array.getElem?_setIfInBounds_ne (at_neI hk hj hq hi fun h => e4 h.2.2)]
            exact t.own c q i hc hq hi
        · rw [if_neg e3, Array.getElem?_setIfInBounds_ne (at_neI hk hj hq hi fun h => e3 ⟨h.1, h.2.1⟩)]
          exact t.own c q i hc hq hi
/-- A limit set. -/
theorem GicAt.limSet (H : GicAt g n P L w) {c : Nat} (hc : c < n) (v : Int) : GicAt g n (P.setLim c v) L (w.setCell ⟨L.cb, c * 194, none⟩ (vI v)) ∧ Goes (GFoot g n L) w (w.setCell ⟨L.cb, c * 194, none⟩ (vI v)) := by
  have keep : ∀ i, i ≠ L.cb → (w.setCell ⟨L.cb, c * 194, none⟩ (vI v)).heap[i]? = w.heap[i]? := fun i hi => Below.heap_setCell _ _ _ _ hi
  refine ⟨⟨H.pos, H.le8, by rw [keep g H.ne]; exact H.top, ?_, fun d hd => own_of_block (H.wks d hd) fun i hi => keep i (by rintro rfl; exact (H.neW hd).2 hi), H.inj, H.lenk⟩, goes_setCell w (.inr (.inl rfl)) _ _⟩
  obtain ⟨C, h, t⟩ := H.cor
  refine ⟨_, heap_setCell_same w L.cb _ C 119 _ h, by simp [t.size], fun d hd => ?_, fun d hd => ?_, fun d q i hd hq hi => ?_⟩
  · simp only [Pg.setLim]
    by_cases e : d = c
    · subst e; rw [if_pos rfl, Array.getElem?_setIfInBounds_self_of_lt (by rw [t.size]; omega)]
    · rw [if_neg e, Array.getElem?_setIfInBounds_ne (by omega)]; exact t.lim d hd
  · rw [Array.getElem?_setIfInBounds_ne zero_ne1]; exact t.wv d hd
  · rw [Array.getElem?_setIfInBounds_ne (at_ne0 hq hi).symm]; exact t.own d q i hd hq hi
/-- A core's row of works put in place: w1 is w with the row turned (and grown), v the row's new value. -/
theorem GicAt.wkSet {w1 : World} (H : GicAt g n P L w) {c : Nat} (hc : c < n) {v : Value} {l : List Trn} (hl : l.length < 1000000) (G : Goes (fun k => (L.wv c).ownBlock = some k) w w1) (hrow : w1.ownsRow 0 106 2 v l.length (flatT l)) (hv : ∀ b, v.ownBlock = some b → (L.wv c).ownBlock = some b ∨ w.heap.size ≤ b) :
    GicAt g n (P.setWk c l) { L with wv := fun i => if i = c then v else L.wv i } (w1.setCell ⟨L.cb, c * 194 + 193, none⟩ v) ∧ Goes (GFoot g n L) w (w1.setCell ⟨L.cb, c * 194 + 193, none⟩ v) ∧ ∀ k, GFoot g n { L with wv := fun i => if i = c then v else L.wv i } k → GFoot g n L k ∨ w.heap.size ≤ k := by
  have keep : ∀ i, i ≠ L.cb → (w1.setCell ⟨L.cb, c * 194 + 193, none⟩ v).heap[i]? = w1.heap[i]? := fun i hi => Below.heap_setCell _ _ _ _ hi
  obtain ⟨C, h, t⟩ := H.cor
  obtain ⟨D, hD, tD⟩ := H.top
  have hcb : w1.heap[L.cb]? = some (.cells C 119) := by rw [G.block L.cb (lt_of_some h) (H.neW hc).2]; exact h
  have hg : w1.heap[g]? = some (.cells D 122) := by rw [G.block g (lt_of_some hD) (H.neW hc).1]; exact hD
  refine ⟨⟨H.pos, H.le8, ⟨D, by rw [keep g H.ne]; exact hg, tD⟩, ?_, fun d hd => ?_, fun d e b hd he h1 h2 => ?_, fun d hd => ?_⟩, ?_, ?_⟩
  · refine ⟨_, heap_setCell_same w1 L.cb _ C 119 _ hcb, by simp [t.size], fun d hd => ?_, fun d hd => ?_, fun d q i hd hq hi => ?_⟩
    · rw [Array.getElem?_setIfInBounds_ne zero_ne1.symm]; exact t.lim d hd
    · by_cases e : d = c
      · subst e; rw [Array.getElem?_setIfInBounds_self_of_lt (by rw [t.size]; omega)]; simp
      · simp only [if_neg e]; rw [Array.getElem?_setIfInBounds_ne (by omega)]; exact t.wv d hd
    · rw [Array.getElem?_setIfInBounds_ne (at_ne1 hq hi).symm]; exact t.own d q i hd hq hi
  · simp only [Pg.setWk]
    by_cases e : d = c
    · subst e
      simp only [if_pos rfl]
      exact own_of_block hrow fun k hk => keep k (by rintro rfl; exact own_ne hcb hrow (by decide) hk)
    · simp only [if_neg e]
      refine own_of_block (H.wks d hd) fun k hk => (keep k (by rintro rfl; exact (H.neW hd).2 hk)).trans (G.block k ((H.wks d hd).lt k hk).2 fun h2 => e (H.inj d c k hd hc hk h2))
  · by_cases e1 : d = c
    · by_cases e2 : e = c
      · omega
      · simp only [if_pos e1, if_neg e2] at h1 h2
        rcases hv b h1 with h3 | h3
        · exact absurd (H.inj e c b he hc h2 h3) e2
        · have := ((H.wks e he).lt b h2).2; omega
    · by_cases e2 : e = c
      · simp only [if_neg e1, if_pos e2] at h1 h2
        rcases hv b h2 with h3 | h3
        · exact absurd (H.inj d c b hd hc h1 h3) e1
        · have := ((H.wks d hd).lt b h1).2; omega
      · simp only [if_neg e1, if_neg e2] at h1 h2
        exact H.inj d e b hd he h1 h2
  · simp only [Pg.setWk]
    by_cases e : d = c
    · rw [if_pos e]; exact hl
    · rw [if_neg e]; exact H.lenk d hd
  · exact (G.mono (G := GFoot g n L) fun k _ h => .inr (.inr ⟨c, hc, h⟩)).trans (goes_setCell w1 (F := GFoot g n L) (.inr (.inl rfl)) _ _) (fun _ _ h => h)
  · rintro k (rfl | rfl | ⟨d, hd, h⟩)
    · exact .inl (.inl rfl)
    · exact .inl (.inr (.inl rfl))
    · by_cases e : d = c
      · simp only [if_pos e] at h
        rcases hv k h with h3 | h3
        · exact .inl (.inr (.inr ⟨c, hc, h3⟩))
        · exact .inr h3
      · simp only [if_neg e] at h
        exact .inl (.inr (.inr ⟨d, hd, h⟩))
end
/-- A controller all of whose blocks are in F. -/
def Gi (g n : Nat) (P : Pg) (F : Nat → Prop) (w : World) : Prop := ∃ L, GicAt g n P L w ∧ ∀ k, GFoot g n L k → F k
/-- What a call does. -/
def GTurn (g n : Nat) (F : Nat → Prop) (P : Pg) (w w' : World) : Prop := Gi g n P F w' ∧ Goes F w w'
theorem gturn_refl {g n : Nat} {F : Nat → Prop} {P : Pg} {w : World} (H : Gi g n P F w) : GTurn g n F P w w := ⟨H, Goes.refl _ _⟩
theorem GTurn.then {g n : Nat} {F : Nat → Prop} {P Q : Pg} {w w1 w2 : World} (h : GTurn g n F P w w1) (k : GTurn g n F Q w1 w2) : GTurn g n F Q w w2 := ⟨k.1, h.2.trans k.2 fun _ _ e => e⟩
theorem Gi.grow {g n : Nat} {F : Nat → Prop} {P : Pg} {w w' : World} (H : Gi g n P F w) (hb : Below w.heap.size w w') : Gi g n P F w' := by
  obtain ⟨L, H, hL⟩ := H
  exact ⟨L, H.grow hb, hL⟩
theorem GTurn.grow {g n : Nat} {F : Nat → Prop} {P : Pg} {w w1 w2 : World} (h : GTurn g n F P w w1) (hb : Below w1.heap.size w1 w2) : GTurn g n F P w w2 := ⟨h.1.grow hb, h.2.grow hb⟩
theorem GTurn.ahead {g n : Nat} {F : Nat → Prop} {P : Pg} {w w1 w2 : World} (hb : Below w.heap.size w w1) (h : GTurn g n F P w1 w2) : GTurn g n F P w w2 := ⟨h.1, (goes_of_below hb).trans h.2 fun _ _ e => e⟩
end Go.Proofs.YteklkololojamaaGreat
