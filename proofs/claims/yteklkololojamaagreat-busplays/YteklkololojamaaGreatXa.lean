/- Ga, Gb, Gc, Gd, Ge, Gf, Gg, Gi, Gj, Gk, Gl of the seat, joined. -/
import Derived.Test.YteklkololojamaaGreatHg
import Derived.Deep.AppendLies
/- The document's own controller, as the machine's blocks hold it. -/
namespace Go.Proofs.YteklkololojamaaGreat.Doc
open Go.RowKit
set_option linter.unusedVariables false
set_option linter.unusedSimpArgs false

/-- Of an interrupt. -/
structure In8 where
  e : Bool
  l : Bool
  h : Bool
  a : Bool
  rank : Int
  core : Int
  own : Int
  was : Int
def In8.row (s : In8) : List Value := [.bool s.e, .bool s.l, .bool s.h, .bool s.a, vI s.rank, vI s.core, vI s.own, vI s.was]
def flatI (l : List In8) : List Value := l.flatMap In8.row
theorem len_row (s : In8) : s.row.length = 8 := rfl
theorem len_flatI (l : List In8) : (flatI l).length = l.length * 8 := by
  induction l with
  | nil => rfl
  | cons a l ih => simp only [flatI, List.flatMap_cons, List.length_append, List.length_cons, len_row] at ih ⊢; omega
theorem flatI_cons (a : In8) (l : List In8) : flatI (a :: l) = a.row ++ flatI l := rfl
theorem flatI_get {l : List In8} {k : Nat} {s : In8} (h : l[k]? = some s) (j : Nat) (hj : j < 8) : (flatI l)[k * 8 + j]? = s.row[j]? := by
  induction l generalizing k with
  | nil => simp at h
  | cons a l ih =>
    cases k with
    | zero =>
      simp at h; subst h
      rw [flatI_cons, Nat.zero_mul, Nat.zero_add, List.getElem?_append_left (by rw [len_row]; exact hj)]
    | succ k =>
      have := ih (k := k) (by simpa using h)
      rw [flatI_cons, List.getElem?_append_right (by rw [len_row]; omega), len_row, ← this]
      congr 1; omega
theorem flatI_set {l : List In8} {k : Nat} {s s' : In8} (h : l[k]? = some s) (j : Nat) (hj : j < 8) {v : Value} (hs : s.row.set j v = s'.row) : (flatI l).set (k * 8 + j) v = flatI (l.set k s') := by
  induction l generalizing k with
  | nil => simp at h
  | cons a l ih =>
    cases k with
    | zero =>
      simp at h; subst h
      rw [flatI_cons, Nat.zero_mul, Nat.zero_add, List.set_append_left _ _ (by rw [len_row]; exact hj), hs]
      rfl
    | succ k =>
      have := ih (k := k) (by simpa using h)
      rw [flatI_cons, List.set_append_right _ _ (by rw [len_row]; omega), len_row]
      have e : (k + 1) * 8 + j - 8 = k * 8 + j := by omega
      rw [e, this]
      rfl
/-- The document's controller: a row of 32 for each core, and behind them the shared ones; the limits. -/
structure Ref where
  rows : Nat → List In8
  lims : List Int
structure RLay where
  ov : Value
  lv : Value
  rb : Nat → Nat
  rc : Nat → Nat
abbrev RLay.sl (L : RLay) (r : Nat) : Value := .slice (some ⟨L.rb r, 0, none⟩) 32 (L.rc r)
structure RefAt (h n : Nat) (X : Ref) (L : RLay) (w : World) : Prop where
  top : w.heap[h]? = some (.cells #[vI n, L.ov, L.sl n, L.lv] 100)
  own : w.ownsRow 0 98 1 L.ov n ((List.range n).map L.sl)
  row : ∀ r, r ≤ n → w.ownsRow 0 87 8 (L.sl r) 32 (flatI (X.rows r))
  len : ∀ r, r ≤ n → (X.rows r).length = 32
  lim : w.ownsRow 0 3 1 L.lv n (X.lims.map vI)
  limn : X.lims.length = n
  inj : ∀ r s, r ≤ n → s ≤ n → L.rb r = L.rb s → r = s
def RFoot (h n : Nat) (L : RLay) (k : Nat) : Prop := k = h ∨ L.ov.ownBlock = some k ∨ (∃ r, r ≤ n ∧ k = L.rb r) ∨ L.lv.ownBlock = some k
section
variable {h n : Nat} {X : Ref} {L : RLay} {w w' : World}
theorem RefAt.keep (H : RefAt h n X L w) (hb : ∀ k, RFoot h n L k → w'.heap[k]? = w.heap[k]?) : RefAt h n X L w' :=
  ⟨by rw [hb _ (.inl rfl)]; exact H.top, own_of_block H.own fun k hk => hb k (.inr (.inl hk)), fun r hr => own_of_block (H.row r hr) fun k hk => hb k (.inr (.inr (.inl ⟨r, hr, by simpa [Value.ownBlock] using hk.symm⟩))), H.len, own_of_block H.lim fun k hk => hb k (.inr (.inr (.inr hk))), H.limn, H.inj⟩
theorem RefAt.lt (H : RefAt h n X L w) {k : Nat} (hk : RFoot h n L k) : k < w.heap.size := by
  rcases hk with rfl | e | ⟨r, hr, rfl⟩ | e
  · exact lt_of_some H.top
  · exact (H.own.lt _ e).2
  · exact ((H.row r hr).lt _ rfl).2
  · exact (H.lim.lt _ e).2
theorem RefAt.grow (H : RefAt h n X L w) (hb : Below w.heap.size w w') : RefAt h n X L w' := H.keep fun k hk => hb.block k (H.lt hk)
theorem RefAt.c0 (H : RefAt h n X L w) : w.cell? ⟨h, 0, none⟩ = some (vI n) := by rw [cell_of_row _ _ _ _ _ _ H.top]; rfl
theorem RefAt.c1 (H : RefAt h n X L w) : w.cell? ⟨h, 1, none⟩ = some L.ov := by rw [cell_of_row _ _ _ _ _ _ H.top]; rfl
theorem RefAt.c2 (H : RefAt h n X L w) : w.cell? ⟨h, 2, none⟩ = some (L.sl n) := by rw [cell_of_row _ _ _ _ _ _ H.top]; rfl
theorem RefAt.c3 (H : RefAt h n X L w) : w.cell? ⟨h, 3, none⟩ = some L.lv := by rw [cell_of_row _ _ _ _ _ _ H.top]; rfl
/-- Cell j of interrupt k of row r. -/
theorem RefAt.at (H : RefAt h n X L w) {r k : Nat} (hr : r ≤ n) {s : In8} (hs : (X.rows r)[k]? = some s) (j : Nat) (hj : j < 8) : w.cell? ⟨L.rb r, k * 8 + j, none⟩ = s.row[j]? := by
  have hk := (List.getElem?_eq_some_iff.1 hs).1
  rw [H.len r hr] at hk
  rw [(H.row r hr).cellAt (k * 8 + j) (by omega), flatI_get hs j hj]
theorem RefAt.fz (H : RefAt h n X L w) {r : Nat} (hr : r ≤ n) (j : Nat) : w.frozen? ⟨L.rb r, j, none⟩ = false := (H.row r hr).frozenAt j
theorem RefAt.kind (H : RefAt h n X L w) {r : Nat} (hr : r ≤ n) : ∃ C, w.heap[L.rb r]? = some (.cells C 87) := by
  obtain ⟨C, _, hC⟩ := own_kind (H.row r hr) (b := L.rb r) rfl
  exact ⟨C, hC⟩
def Ref.put (X : Ref) (r k : Nat) (s : In8) : Ref := { X with rows := fun i => if i = r then (X.rows i).set k s else X.rows i }
theorem RefAt.set (H : RefAt h n X L w) {r k : Nat} (hr : r ≤ n) {s s' : In8} (hs : (X.rows r)[k]? = some s) (j : Nat) (hj : j < 8) {v : Value} (hv : s.row.set j v = s'.row) : RefAt h n (X.put r k s') L (w.setCell ⟨L.rb r, k * 8 + j, none⟩ v) ∧ Goes (RFoot h n L) w (w.setCell ⟨L.rb r, k * 8 + j, none⟩ v) := by
  obtain ⟨C, hC⟩ := H.kind hr
  have keep : ∀ i, i ≠ L.rb r → (w.setCell ⟨L.rb r, k * 8 + j, none⟩ v).heap[i]? = w.heap[i]? := fun i hi => Below.heap_setCell _ _ _ _ hi
  refine ⟨⟨?_, own_of_block H.own fun i hi => keep i ?_, fun q hq => ?_, fun q hq => ?_, own_of_block H.lim fun i hi => keep i ?_, H.limn, H.inj⟩, goes_setCell w (.inr (.inr (.inl ⟨r, hr, rfl⟩))) _ _⟩
  · rw [keep h (Ne.symm (ne_of_type hC H.top (by decide)))]; exact H.top
  · rintro rfl; exact own_ne hC H.own (by decide) hi
  · by_cases e : q = r
    · subst e
      have := ((H.row q hq).stored (k * 8 + j) v).1
      rw [flatI_set hs j hj hv] at this
      simpa [Ref.put] using this
    · have : (X.put r k s').rows q = X.rows q := by simp [Ref.put, e]
      rw [this]
      exact own_of_block (H.row q hq) fun i hi => keep i fun e2 => e (H.inj q r hq hr (by have : L.rb q = i := by simpa [Value.ownBlock] using hi
                                                                                          rw [this, e2]))
  · by_cases e : q = r
    · subst e; simp [Ref.put, H.len q hq]
    · simp [Ref.put, e, H.len q hq]
  · rintro rfl; exact own_ne hC H.lim (by decide) hi
end
end Go.Proofs.YteklkololojamaaGreat.Doc
/- The document's own controller: Bad, Of, Pending. -/
namespace Go.Proofs.YteklkololojamaaGreat.Doc
open Go.RowKit
set_option linter.unusedVariables false
set_option linter.unusedSimpArgs false

def rbadB (n : Nat) (core id : Int) : Bool := decide (core < 0) || decide ((n : Int) ≤ core) || decide (id < 0) || decide (63 < id)
theorem rbad_of {n : Nat} {core id : Int} (h : rbadB n core id = false) : 0 ≤ core ∧ core < n ∧ 0 ≤ id ∧ id ≤ 63 := by
  simp only [rbadB, Bool.or_eq_false_iff, decide_eq_false_iff_not] at h
  omega
theorem rbad_c {h n : Nat} {X : Ref} {L : RLay} {w : World} (H : RefAt h n X L w) (core id : Int) : Calls Tryz.prog 60 #[ptr h 0, vI core, vI id] w fun e w' => e = .returned (.bool (rbadB n core id)) ∧ w' = w := by
  have c0 := H.c0
  clear H
  unfold rbadB
  by_cases h1 : core < 0
  · rw [decide_eq_true h1]
    go_enter Tryz.func60, Tryz.ntmps60
    go_wp2
    go_ret
    exact ⟨rfl, rfl⟩
  · rw [decide_eq_false h1]
    by_cases h2 : (n : Int) ≤ core
    · rw [decide_eq_true h2]
      go_enter Tryz.func60, Tryz.ntmps60
      go_wp2
      go_ret
      exact ⟨rfl, rfl⟩
    · rw [decide_eq_false h2]
      by_cases h3 : id < 0
      · rw [decide_eq_true h3]
        go_enter Tryz.func60, Tryz.ntmps60
        go_wp2
        go_ret
        exact ⟨rfl, rfl⟩
      · rw [decide_eq_false h3]
        by_cases h4 : 63 < id
        · rw [decide_eq_true h4]
          go_enter Tryz.func60, Tryz.ntmps60
          go_wp2
          go_ret
          exact ⟨rfl, rfl⟩
        · rw [decide_eq_false h4]
          go_enter Tryz.func60, Tryz.ntmps60
          go_wp2
          go_ret
          exact ⟨rfl, rfl⟩
/-- Where an interrupt stands. -/
def posR (n : Nat) (core id : Int) : Nat := if 32 ≤ id then n else core.toNat
def posK (id : Int) : Nat := if 32 ≤ id then (id - 32).toNat else id.toNat
theorem pos_in {n : Nat} {core id : Int} (h : rbadB n core id = false) : posR n core id ≤ n ∧ posK id < 32 := by
  obtain ⟨h1, h2, h3, h4⟩ := rbad_of h
  unfold posR posK
  split <;> omega
set_option maxRecDepth 4000 in
theorem of_c {h n : Nat} {X : Ref} {L : RLay} {w : World} (H : RefAt h n X L w) (core id : Int) (hb : rbadB n core id = false) : Calls Tryz.prog 46 #[ptr h 0, vI core, vI id] w fun e w' => e = .returned (ptr (L.rb (posR n core id)) (posK id * 8)) ∧ w' = w := by
  obtain ⟨h1, h2, h3, h4⟩ := rbad_of hb
  unfold posR posK
  by_cases h5 : 32 ≤ id
  · rw [if_pos h5, if_pos h5]
    obtain ⟨k, rfl⟩ : ∃ k : Nat, id = 32 + (k : Int) := ⟨(id - 32).toNat, by omega⟩
    have e1 : (32 + (k : Int) - 32).toNat = k := by omega
    have w1 : IntKind.i64.wrap (32 + (k : Int) - 32) = k := by rw [IntKind.wrap_i64]; omega
    have k1 : (0 : Int) ≤ k := by omega
    have k2 : (k : Int) < 32 := by omega
    have c2 := H.c2
    rw [e1]
    clear H
    go_enter Tryz.func46, Tryz.ntmps46
    go_wp2
    go_ret
    exact ⟨rfl, rfl⟩
  · rw [if_neg h5, if_neg h5]
    obtain ⟨k, rfl⟩ : ∃ k : Nat, id = (k : Int) := ⟨id.toNat, by omega⟩
    obtain ⟨c, rfl⟩ : ∃ c : Nat, core = (c : Int) := ⟨core.toNat, by omega⟩
    rw [Int.toNat_natCast, Int.toNat_natCast]
    have k2 : (k : Int) < 32 := by omega
    obtain ⟨b, cap, eo, _, _, _, hcell, _⟩ := own_addr H.own (by omega)
    have z := hcell c (by omega)
    rw [List.getElem?_map, List.getElem?_range (by omega)] at z
    replace z : w.cell? ⟨b, c, none⟩ = some (.slice (some ⟨L.rb c, 0, none⟩) 32 (L.rc c)) := z
    have c1 := H.c1
    rw [eo] at c1
    clear H hcell eo
    go_enter Tryz.func46, Tryz.ntmps46
    go_wp2
    go_ret
    exact ⟨rfl, rfl⟩
theorem pend_c {b o : Nat} {l hi : Bool} {w : World} (hl : w.cell? ⟨b, o + 1, none⟩ = some (.bool l)) (hh : w.cell? ⟨b, o + 2, none⟩ = some (.bool hi)) : Calls Tryz.prog 61 #[ptr b o] w fun e w' => e = .returned (.bool (l || hi)) ∧ w' = w := by
  cases l
  · go_enter Tryz.func61, Tryz.ntmps61
    go_wp2
    go_ret
    exact ⟨rfl, rfl⟩
  · go_enter Tryz.func61, Tryz.ntmps61
    go_wp2
    go_ret
    exact ⟨rfl, rfl⟩
end Go.Proofs.YteklkololojamaaGreat.Doc
/- The document's own controller turned: Mask, Route, Set. -/
namespace Go.Proofs.YteklkololojamaaGreat.Doc
open Go.RowKit
set_option linter.unusedVariables false
set_option linter.unusedSimpArgs false

/-- What a call does to the document's controller. -/
def RTurn (h n : Nat) (L : RLay) (X : Ref) (w w' : World) : Prop := RefAt h n X L w' ∧ Goes (RFoot h n L) w w'
theorem rturn_refl {h n : Nat} {L : RLay} {X : Ref} {w : World} (H : RefAt h n X L w) : RTurn h n L X w w := ⟨H, Goes.refl _ _⟩
theorem RefAt.limAt {h n : Nat} {X : Ref} {L : RLay} {w : World} (H : RefAt h n X L w) {c : Nat} (hc : c < n) : ∃ b cap v0, L.lv = .slice (some ⟨b, 0, none⟩) n cap ∧ X.lims[c]? = some v0 ∧ w.cell? ⟨b, c, none⟩ = some (vI v0) ∧ w.frozen? ⟨b, c, none⟩ = false ∧ ∀ v, RTurn h n L { X with lims := X.lims.set c v } w (w.setCell ⟨b, c, none⟩ (vI v)) := by
  obtain ⟨b, cap, eo, _, _, _, hcell, hfz⟩ := own_addr H.lim (by omega)
  have hc' : c < X.lims.length := by rw [H.limn]; exact hc
  have hv : X.lims[c]? = some X.lims[c] := List.getElem?_eq_getElem hc'
  have hbk : L.lv.ownBlock = some b := by rw [eo]; rfl
  obtain ⟨C, _, hC⟩ := own_kind H.lim hbk
  refine ⟨b, cap, _, eo, hv, by rw [hcell c (by omega), List.getElem?_map, hv]; rfl, hfz c, fun v => ?_⟩
  have keep : ∀ i, i ≠ b → (w.setCell ⟨b, c, none⟩ (vI v)).heap[i]? = w.heap[i]? := fun i hi => Below.heap_setCell _ _ _ _ hi
  refine ⟨⟨?_, own_of_block H.own fun i hi => keep i ?_, fun q hq => own_of_block (H.row q hq) fun i hi => keep i ?_, H.len, ?_, by simp [H.limn], H.inj⟩, goes_setCell w (.inr (.inr (.inr hbk))) _ _⟩
  · rw [keep h (Ne.symm (ne_of_type hC H.top (by decide)))]; exact H.top
  · rintro rfl; exact own_ne hC H.own (by decide) hi
  · rintro rfl; exact own_ne hC (H.row q hq) (by decide) hi
  · have hl := H.lim
    rw [eo] at hl ⊢
    have := (hl.stored c (vI v)).1
    rw [← List.map_set] at this
    exact this
def maskE (n : Nat) (core v : Int) : Int := if rbadB n core 0 = true ∨ v < 0 ∨ 255 < v then 1 else 0
def maskR (X : Ref) (n : Nat) (core v : Int) : Ref := if maskE n core v = 0 then { X with lims := X.lims.set core.toNat v } else X
set_option maxRecDepth 4000 in
theorem mask_c {h n : Nat} {X : Ref} {L : RLay} {w : World} (H : RefAt h n X L w) (core v : Int) : Calls Tryz.prog 54 #[ptr h 0, vI core, vI v] w fun e w' => e = .returned (vI (maskE n core v)) ∧ RTurn h n L (maskR X n core v) w w' := by
  cases hb : rbadB n core 0 with
  | true =>
    have e0 : maskE n core v = 1 := if_pos (.inl hb)
    rw [maskR, e0, if_neg (by decide)]
    go_enter Tryz.func54, Tryz.ntmps54
    go_wp2_with (go_at_call 60; refine (rbad_c H core 0).mono ?_; rintro e w' ⟨rfl, rfl⟩; dsimp only; rw [hb])
    go_ret
    exact ⟨rfl, rturn_refl H⟩
  | false =>
    by_cases h1 : v < 0
    · have e0 : maskE n core v = 1 := if_pos (.inr (.inl h1))
      rw [maskR, e0, if_neg (by decide)]
      go_enter Tryz.func54, Tryz.ntmps54
      go_wp2_with (go_at_call 60; refine (rbad_c H core 0).mono ?_; rintro e w' ⟨rfl, rfl⟩; dsimp only; rw [hb])
      go_ret
      exact ⟨rfl, rturn_refl H⟩
    · by_cases h2 : 255 < v
      · have e0 : maskE n core v = 1 := if_pos (.inr (.inr h2))
        rw [maskR, e0, if_neg (by decide)]
        go_enter Tryz.func54, Tryz.ntmps54
        go_wp2_with (go_at_call 60; refine (rbad_c H core 0).mono ?_; rintro e w' ⟨rfl, rfl⟩; dsimp only; rw [hb])
        go_ret
        exact ⟨rfl, rturn_refl H⟩
      · have e0 : maskE n core v = 0 := if_neg (by rw [hb]; rintro (h | h | h) <;> first | cases h | omega)
        rw [maskR, e0, if_pos rfl]
        obtain ⟨g1, g2, _, _⟩ := rbad_of hb
        obtain ⟨c, rfl⟩ : ∃ c : Nat, core = (c : Int) := ⟨core.toNat, by omega⟩
        rw [Int.toNat_natCast]
        obtain ⟨b, cap, v0, el, _, z, fz, hT⟩ := H.limAt (c := c) (by omega)
        have c3 := H.c3
        rw [el] at c3
        replace hT := hT v
        clear el
        go_enter Tryz.func54, Tryz.ntmps54
        go_wp2_with (go_at_call 60; refine (rbad_c H c 0).mono ?_; rintro e w' ⟨rfl, rfl⟩; dsimp only; rw [hb])
        go_ret
        exact ⟨rfl, hT⟩
theorem RefAt.in8 {h n : Nat} {X : Ref} {L : RLay} {w : World} (H : RefAt h n X L w) {r k : Nat} (hr : r ≤ n) (hk : k < 32) : ∃ s, (X.rows r)[k]? = some s := ⟨_, List.getElem?_eq_getElem (by rw [H.len r hr]; exact hk)⟩
end Go.Proofs.YteklkololojamaaGreat.Doc
/- The document's own controller turned: Route, Set. -/
namespace Go.Proofs.YteklkololojamaaGreat.Doc
open Go.RowKit
set_option linter.unusedVariables false
set_option linter.unusedSimpArgs false

def routeE (n : Nat) (id core : Int) : Int := if rbadB n core id = true ∨ id < 32 then 1 else 0
def Ref.get (X : Ref) (r k : Nat) : In8 := ((X.rows r)[k]?).getD ⟨false, false, false, false, 0, 0, 0, 0⟩
def routeR (X : Ref) (n : Nat) (id core : Int) : Ref := if routeE n id core = 0 then X.put n (posK id) { X.get n (posK id) with core := core } else X
theorem RefAt.in8g {h n : Nat} {X : Ref} {L : RLay} {w : World} (H : RefAt h n X L w) {r k : Nat} (hr : r ≤ n) (hk : k < 32) : (X.rows r)[k]? = some (X.get r k) := by
  obtain ⟨s, hs⟩ := H.in8 hr hk
  rw [Ref.get, hs]; rfl
set_option maxRecDepth 4000 in
theorem route_c {h n : Nat} {X : Ref} {L : RLay} {w : World} (H : RefAt h n X L w) (id core : Int) : Calls Tryz.prog 48 #[ptr h 0, vI id, vI core] w fun e w' => e = .returned (vI (routeE n id core)) ∧ RTurn h n L (routeR X n id core) w w' := by
  cases hb : rbadB n core id with
  | true =>
    have e0 : routeE n id core = 1 := if_pos (.inl hb)
    rw [routeR, e0, if_neg (by decide)]
    go_enter Tryz.func48, Tryz.ntmps48
    go_wp2_with (go_at_call 60; refine (rbad_c H core id).mono ?_; rintro e w' ⟨rfl, rfl⟩; dsimp only; rw [hb])
    go_ret
    exact ⟨rfl, rturn_refl H⟩
  | false =>
    by_cases h1 : id < 32
    · have e0 : routeE n id core = 1 := if_pos (.inr h1)
      rw [routeR, e0, if_neg (by decide)]
      go_enter Tryz.func48, Tryz.ntmps48
      go_wp2_with (go_at_call 60; refine (rbad_c H core id).mono ?_; rintro e w' ⟨rfl, rfl⟩; dsimp only; rw [hb])
      go_ret
      exact ⟨rfl, rturn_refl H⟩
    · have e0 : routeE n id core = 0 := if_neg (by rw [hb]; rintro (h | h) <;> first | cases h | omega)
      rw [routeR, e0, if_pos rfl]
      obtain ⟨g1, g2, g3, g4⟩ := rbad_of hb
      obtain ⟨k, hk⟩ : ∃ k : Nat, id = 32 + (k : Int) := ⟨(id - 32).toNat, by omega⟩
      have ek : posK id = k := by rw [posK, if_pos (by omega)]; omega
      rw [ek]
      have w1 : IntKind.i64.wrap (id - 32) = k := by rw [IntKind.wrap_i64]; omega
      have k1 : (0 : Int) ≤ k := by omega
      have k2 : (k : Int) < 32 := by omega
      have hs := H.in8g (r := n) (k := k) (Nat.le_refl n) (by omega)
      generalize X.get n k = s at hs
      have z := H.at (Nat.le_refl n) hs 5 (by decide)
      replace z : w.cell? ⟨L.rb n, k * 8 + 5, none⟩ = some (vI s.core) := z
      have fz := H.fz (Nat.le_refl n) (k * 8 + 5)
      have hT := H.set (Nat.le_refl n) hs (s' := { s with core := core }) 5 (by decide) (v := vI core) rfl
      have c2 := H.c2
      replace hk := show Hid _ from hk
      clear hs ek
      go_enter Tryz.func48, Tryz.ntmps48
      go_wp2_with (go_at_call 60; refine (rbad_c H core id).mono ?_; rintro e w' ⟨rfl, rfl⟩; dsimp only; rw [hb])
      go_ret
      exact ⟨rfl, hT⟩
def In8.setW (s : In8) (what : Int) (on : Bool) (v : Int) : In8 := if what = 0 then { s with e := on } else if what = 1 then { s with l := on } else if what = 2 then { s with h := on } else { s with rank := v }
def setE (n : Nat) (what core id v : Int) : Int := if rbadB n core id = true ∨ what = 2 ∧ id < 16 ∨ what = 3 ∧ (v < 0 ∨ 255 < v) then 1 else 0
def setR (X : Ref) (n : Nat) (what core id : Int) (on : Bool) (v : Int) : Ref := if setE n what core id v = 0 then X.put (posR n core id) (posK id) ((X.get (posR n core id) (posK id)).setW what on v) else X
set_option maxRecDepth 4000 in
theorem set_0 {h n : Nat} {X : Ref} {L : RLay} {w : World} (H : RefAt h n X L w) (core id v : Int) (on : Bool) : Calls Tryz.prog 47 #[ptr h 0, vI 0, vI core, vI id, .bool on, vI v] w fun e w' => e = .returned (vI (setE n 0 core id v)) ∧ RTurn h n L (setR X n 0 core id on v) w w' := by
  cases hb : rbadB n core id with
  | true =>
    have e0 : setE n 0 core id v = 1 := if_pos (.inl hb)
    rw [setR, e0, if_neg (by decide)]
    go_enter Tryz.func47, Tryz.ntmps47
    go_wp2_with (go_at_call 60; refine (rbad_c H core id).mono ?_; rintro e w' ⟨rfl, rfl⟩; dsimp only; rw [hb])
    go_ret
    exact ⟨rfl, rturn_refl H⟩
  | false =>
    have e0 : setE n 0 core id v = 0 := if_neg (by rw [hb]; rintro (h | ⟨h, h'⟩ | ⟨h, h'⟩) <;> first | (cases h; done) | omega)
    rw [setR, e0, if_pos rfl]
    obtain ⟨hr, hk⟩ := pos_in hb
    have hs := H.in8g hr hk
    have hT := H.set hr hs (s' := (X.get (posR n core id) (posK id)).setW 0 on v) 0 (by decide) (v := .bool on) rfl
    have z := H.at hr hs 0 (by decide)
    generalize X.get (posR n core id) (posK id) = s at hs z hT ⊢
    replace z : w.cell? ⟨L.rb (posR n core id), posK id * 8 + 0, none⟩ = some (.bool s.e) := z
    have fz := H.fz hr (posK id * 8 + 0)
    clear hs
    rw [Nat.add_zero] at z fz hT
    generalize hR : posR n core id = r at z fz hT hr ⊢
    generalize hK : posK id = k at z fz hT hk ⊢
    replace hR := show Hid _ from hR
    replace hK := show Hid _ from hK
    go_enter Tryz.func47, Tryz.ntmps47
    go_wp2_with (first | (go_at_call 60; refine (rbad_c H core id).mono ?_; rintro e w' ⟨rfl, rfl⟩; dsimp only; rw [hb]) | (go_at_call 46; refine (of_c H core id hb).mono ?_; rintro e w' ⟨rfl, rfl⟩; dsimp only; rw [hR.out, hK.out]))
    go_ret
    exact ⟨rfl, hT⟩
set_option maxRecDepth 4000 in
theorem set_1 {h n : Nat} {X : Ref} {L : RLay} {w : World} (H : RefAt h n X L w) (core id v : Int) (on : Bool) : Calls Tryz.prog 47 #[ptr h 0, vI 1, vI core, vI id, .bool on, vI v] w fun e w' => e = .returned (vI (setE n 1 core id v)) ∧ RTurn h n L (setR X n 1 core id on v) w w' := by
  cases hb : rbadB n core id with
  | true =>
    have e0 : setE n 1 core id v = 1 := if_pos (.inl hb)
    rw [setR, e0, if_neg (by decide)]
    go_enter Tryz.func47, Tryz.ntmps47
    go_wp2_with (go_at_call 60; refine (rbad_c H core id).mono ?_; rintro e w' ⟨rfl, rfl⟩; dsimp only; rw [hb])
    go_ret
    exact ⟨rfl, rturn_refl H⟩
  | false =>
    have e0 : setE n 1 core id v = 0 := if_neg (by rw [hb]; rintro (h | ⟨h, h'⟩ | ⟨h, h'⟩) <;> first | (cases h; done) | omega)
    rw [setR, e0, if_pos rfl]
    obtain ⟨hr, hk⟩ := pos_in hb
    have hs := H.in8g hr hk
    have hT := H.set hr hs (s' := (X.get (posR n core id) (posK id)).setW 1 on v) 1 (by decide) (v := .bool on) rfl
    have z := H.at hr hs 1 (by decide)
    generalize X.get (posR n core id) (posK id) = s at hs z hT ⊢
    replace z : w.cell? ⟨L.rb (posR n core id), posK id * 8 + 1, none⟩ = some (.bool s.l) := z
    have fz := H.fz hr (posK id * 8 + 1)
    clear hs
    generalize hR : posR n core id = r at z fz hT hr ⊢
    generalize hK : posK id = k at z fz hT hk ⊢
    replace hR := show Hid _ from hR
    replace hK := show Hid _ from hK
    go_enter Tryz.func47, Tryz.ntmps47
    go_wp2_with (first | (go_at_call 60; refine (rbad_c H core id).mono ?_; rintro e w' ⟨rfl, rfl⟩; dsimp only; rw [hb]) | (go_at_call 46; refine (of_c H core id hb).mono ?_; rintro e w' ⟨rfl, rfl⟩; dsimp only; rw [hR.out, hK.out]))
    go_ret
    exact ⟨rfl, hT⟩
set_option maxRecDepth 4000 in
theorem set_2 {h n : Nat} {X : Ref} {L : RLay} {w : World} (H : RefAt h n X L w) (core id v : Int) (on : Bool) : Calls Tryz.prog 47 #[ptr h 0, vI 2, vI core, vI id, .bool on, vI v] w fun e w' => e = .returned (vI (setE n 2 core id v)) ∧ RTurn h n L (setR X n 2 core id on v) w w' := by
  cases hb : rbadB n core id with
  | true =>
    have e0 : setE n 2 core id v = 1 := if_pos (.inl hb)
    rw [setR, e0, if_neg (by decide)]
    go_enter Tryz.func47, Tryz.ntmps47
    go_wp2_with (go_at_call 60; refine (rbad_c H core id).mono ?_; rintro e w' ⟨rfl, rfl⟩; dsimp only; rw [hb])
    go_ret
    exact ⟨rfl, rturn_refl H⟩
  | false =>
    by_cases h1 : id < 16
    · have e0 : setE n 2 core id v = 1 := if_pos (.inr (.inl ⟨rfl, h1⟩))
      rw [setR, e0, if_neg (by decide)]
      go_enter Tryz.func47, Tryz.ntmps47
      go_wp2_with (go_at_call 60; refine (rbad_c H core id).mono ?_; rintro e w' ⟨rfl, rfl⟩; dsimp only; rw [hb])
      go_ret
      exact ⟨rfl, rturn_refl H⟩
    · have e0 : setE n 2 core id v = 0 := if_neg (by rw [hb]; rintro (h | ⟨h, h'⟩ | ⟨h, h'⟩) <;> first | (cases h; done) | omega)
      rw [setR, e0, if_pos rfl]
      obtain ⟨hr, hk⟩ := pos_in hb
      have hs := H.in8g hr hk
      have hT := H.set hr hs (s' := (X.get (posR n core id) (posK id)).setW 2 on v) 2 (by decide) (v := .bool on) rfl
      have z := H.at hr hs 2 (by decide)
      generalize X.get (posR n core id) (posK id) = s at hs z hT ⊢
      replace z : w.cell? ⟨L.rb (posR n core id), posK id * 8 + 2, none⟩ = some (.bool s.h) := z
      have fz := H.fz hr (posK id * 8 + 2)
      clear hs
      generalize hR : posR n core id = r at z fz hT hr ⊢
      generalize hK : posK id = k at z fz hT hk ⊢
      replace hR := show Hid _ from hR
      replace hK := show Hid _ from hK
      go_enter Tryz.func47, Tryz.ntmps47
      go_wp2_with (first | (go_at_call 60; refine (rbad_c H core id).mono ?_; rintro e w' ⟨rfl, rfl⟩; dsimp only; rw [hb]) | (go_at_call 46; refine (of_c H core id hb).mono ?_; rintro e w' ⟨rfl, rfl⟩; dsimp only; rw [hR.out, hK.out]))
      go_ret
      exact ⟨rfl, hT⟩
set_option maxRecDepth 4000 in
theorem set_3 {h n : Nat} {X : Ref} {L : RLay} {w : World} (H : RefAt h n X L w) (core id v : Int) (on : Bool) : Calls Tryz.prog 47 #[ptr h 0, vI 3, vI core, vI id, .bool on, vI v] w fun e w' => e = .returned (vI (setE n 3 core id v)) ∧ RTurn h n L (setR X n 3 core id on v) w w' := by
  cases hb : rbadB n core id with
  | true =>
    have e0 : setE n 3 core id v = 1 := if_pos (.inl hb)
    rw [setR, e0, if_neg (by decide)]
    go_enter Tryz.func47, Tryz.ntmps47
    go_wp2_with (go_at_call 60; refine (rbad_c H core id).mono ?_; rintro e w' ⟨rfl, rfl⟩; dsimp only; rw [hb])
    go_ret
    exact ⟨rfl, rturn_refl H⟩
  | false =>
    by_cases h1 : v < 0
    · have e0 : setE n 3 core id v = 1 := if_pos (.inr (.inr ⟨rfl, .inl h1⟩))
      rw [setR, e0, if_neg (by decide)]
      go_enter Tryz.func47, Tryz.ntmps47
      go_wp2_with (go_at_call 60; refine (rbad_c H core id).mono ?_; rintro e w' ⟨rfl, rfl⟩; dsimp only; rw [hb])
      go_ret
      exact ⟨rfl, rturn_refl H⟩
    · by_cases h2 : 255 < v
      · have e0 : setE n 3 core id v = 1 := if_pos (.inr (.inr ⟨rfl, .inr h2⟩))
        rw [setR, e0, if_neg (by decide)]
        go_enter Tryz.func47, Tryz.ntmps47
        go_wp2_with (go_at_call 60; refine (rbad_c H core id).mono ?_; rintro e w' ⟨rfl, rfl⟩; dsimp only; rw [hb])
        go_ret
        exact ⟨rfl, rturn_refl H⟩
      · have e0 : setE n 3 core id v = 0 := if_neg (by rw [hb]; rintro (h | ⟨h, h'⟩ | ⟨h, h'⟩) <;> first | (cases h; done) | omega)
        rw [setR, e0, if_pos rfl]
        obtain ⟨hr, hk⟩ := pos_in hb
        have hs := H.in8g hr hk
        have hT := H.set hr hs (s' := (X.get (posR n core id) (posK id)).setW 3 on v) 4 (by decide) (v := vI v) rfl
        have z := H.at hr hs 4 (by decide)
        generalize X.get (posR n core id) (posK id) = s at hs z hT ⊢
        replace z : w.cell? ⟨L.rb (posR n core id), posK id * 8 + 4, none⟩ = some (vI s.rank) := z
        have fz := H.fz hr (posK id * 8 + 4)
        clear hs
        generalize hR : posR n core id = r at z fz hT hr ⊢
        generalize hK : posK id = k at z fz hT hk ⊢
        replace hR := show Hid _ from hR
        replace hK := show Hid _ from hK
        go_enter Tryz.func47, Tryz.ntmps47
        go_wp2_with (first | (go_at_call 60; refine (rbad_c H core id).mono ?_; rintro e w' ⟨rfl, rfl⟩; dsimp only; rw [hb]) | (go_at_call 46; refine (of_c H core id hb).mono ?_; rintro e w' ⟨rfl, rfl⟩; dsimp only; rw [hR.out, hK.out]))
        go_ret
        exact ⟨rfl, hT⟩
end Go.Proofs.YteklkololojamaaGreat.Doc
/- The document's own controller: Running, Eoi. -/
namespace Go.Proofs.YteklkololojamaaGreat.Doc
open Go.RowKit
set_option linter.unusedVariables false
set_option linter.unusedSimpArgs false

def runF (X : Ref) (n : Nat) (core : Int) : Nat → Int
  | 0 => 256
  | m + 1 => if (X.get (posR n core m) (posK m)).a = true ∧ (X.get (posR n core m) (posK m)).own = core ∧ (X.get (posR n core m) (posK m)).was < runF X n core m then (X.get (posR n core m) (posK m)).was else runF X n core m
theorem rbad_in {n : Nat} {core : Int} {i : Nat} (h1 : 0 ≤ core) (h2 : core < n) (h3 : i < 64) : rbadB n core i = false := by
  simp only [rbadB, Bool.or_eq_false_iff, decide_eq_false_iff_not]
  omega
set_option maxRecDepth 4000 in
theorem run_c {h n : Nat} {X : Ref} {L : RLay} {w : World} (H : RefAt h n X L w) (core : Int) (h1 : 0 ≤ core) (h2 : core < n) : Calls Tryz.prog 32 #[ptr h 0, vI core] w fun e w' => e = .returned (vI (runF X n core 64)) ∧ w' = w := by
  go_enter Tryz.func32, Tryz.ntmps32
  go_wp2
  go_loop [5, 6] (fun s5 s6 => ∃ i : Nat, i ≤ 64 ∧ s6 = .int .i64 i ∧ s5 = .int .i64 (runF X n core i)) (fun s5 s6 => 64 - (intOf s6).toNat)
  case atStart => exact ⟨0, Nat.zero_le _, rfl, rfl⟩
  case round =>
    obtain ⟨i, hi, rfl, rfl⟩ := hrel
    by_cases hlt : (i : Int) < 64
    · have hb := rbad_in (i := i) h1 h2 (by omega)
      obtain ⟨hr, hk⟩ := pos_in hb
      have hs := H.in8g hr hk
      have hF : runF X n core (i + 1) = if (X.get (posR n core i) (posK i)).a = true ∧ (X.get (posR n core i) (posK i)).own = core ∧ (X.get (posR n core i) (posK i)).was < runF X n core i then (X.get (posR n core i) (posK i)).was else runF X n core i := rfl
      have z3 := H.at hr hs 3 (by decide)
      have z6 := H.at hr hs 6 (by decide)
      have z7 := H.at hr hs 7 (by decide)
      generalize X.get (posR n core i) (posK i) = s at hs z3 z6 z7 hF
      replace z3 : w.cell? ⟨L.rb (posR n core i), posK i * 8 + 3, none⟩ = some (.bool s.a) := z3
      replace z6 : w.cell? ⟨L.rb (posR n core i), posK i * 8 + 6, none⟩ = some (vI s.own) := z6
      replace z7 : w.cell? ⟨L.rb (posR n core i), posK i * 8 + 7, none⟩ = some (vI s.was) := z7
      generalize hv : runF X n core i = v at hF
      replace hv := show Hid _ from hv
      clear hs
      by_cases ha : s.a = true
      · rw [ha] at z3
        by_cases ho : s.own = core
        · by_cases hw : s.was < v
          · rw [if_pos ⟨ha, ho, hw⟩] at hF
            replace hF := show Hid _ from hF
            replace ho := show Hid _ from ho
            rw [ho.out] at z6
            go_wp2_with (go_at_call 46; refine (of_c H core i hb).mono ?_; rintro e w' ⟨rfl, rfl⟩; dsimp only)
            go_round
            case rel => exact ⟨i + 1, by omega, by go_num, by rw [hF.out]⟩
            case measure => simp [intOf]; omega
          · rw [if_neg (fun e => hw e.2.2)] at hF
            replace hF := show Hid _ from hF
            replace ho := show Hid _ from ho
            rw [ho.out] at z6
            go_wp2_with (go_at_call 46; refine (of_c H core i hb).mono ?_; rintro e w' ⟨rfl, rfl⟩; dsimp only)
            go_round
            case rel => exact ⟨i + 1, by omega, by go_num, by rw [hF.out]⟩
            case measure => simp [intOf]; omega
        · rw [if_neg (fun e => ho e.2.1)] at hF
          replace hF := show Hid _ from hF
          go_wp2_with (go_at_call 46; refine (of_c H core i hb).mono ?_; rintro e w' ⟨rfl, rfl⟩; dsimp only)
          go_round
          case rel => exact ⟨i + 1, by omega, by go_num, by rw [hF.out]⟩
          case measure => simp [intOf]; omega
      · rw [if_neg (fun e => ha e.1)] at hF
        replace hF := show Hid _ from hF
        replace ha : s.a = false := by simpa using ha
        rw [ha] at z3
        go_wp2_with (go_at_call 46; refine (of_c H core i hb).mono ?_; rintro e w' ⟨rfl, rfl⟩; dsimp only)
        go_round
        case rel => exact ⟨i + 1, by omega, by go_num, by rw [hF.out]⟩
        case measure => simp [intOf]; omega
    · have hi64 : i = 64 := by omega
      subst hi64
      go_wp2
      go_ret
      exact ⟨rfl, rfl⟩
end Go.Proofs.YteklkololojamaaGreat.Doc
/- The document's own controller: Eoi. -/
namespace Go.Proofs.YteklkololojamaaGreat.Doc
open Go.RowKit
set_option linter.unusedVariables false
set_option linter.unusedSimpArgs false

theorem put_put (X : Ref) (r k : Nat) (s s' : In8) : (X.put r k s).put r k s' = X.put r k s' := by
  unfold Ref.put
  congr 1
  funext i
  by_cases e : i = r
  · simp [e, List.set_set]
  · simp [e]
theorem put_at {h n : Nat} {X : Ref} {L : RLay} {w : World} (H : RefAt h n X L w) {r k : Nat} (hr : r ≤ n) (hk : k < 32) (s : In8) : ((X.put r k s).rows r)[k]? = some s := by
  have := H.len r hr
  simp only [Ref.put, if_true]
  rw [List.getElem?_set_self (by omega)]
def eoiB (X : Ref) (n : Nat) (core id : Int) : Bool := !(rbadB n core id) && (X.get (posR n core id) (posK id)).a && decide ((X.get (posR n core id) (posK id)).own = core)
def eoiE (n : Nat) (core id : Int) : Int := if rbadB n core id = true then 1 else 0
def eoiR (X : Ref) (n : Nat) (core id : Int) : Ref := if eoiB X n core id = true then X.put (posR n core id) (posK id) { X.get (posR n core id) (posK id) with a := false, own := -1 } else X
set_option maxRecDepth 4000 in
theorem eoi_c {h n : Nat} {X : Ref} {L : RLay} {w : World} (H : RefAt h n X L w) (core id : Int) : Calls Tryz.prog 55 #[ptr h 0, vI core, vI id] w fun e w' => e = .returned (.tuple #[.bool (eoiB X n core id), vI (eoiE n core id)]) ∧ RTurn h n L (eoiR X n core id) w w' := by
  cases hb : rbadB n core id with
  | true =>
    have e0 : eoiB X n core id = false := by rw [eoiB, hb]; rfl
    have e1 : eoiE n core id = 1 := if_pos hb
    rw [eoiR, e0, e1, if_neg (by decide)]
    go_enter Tryz.func55, Tryz.ntmps55
    go_wp2_with (go_at_call 60; refine (rbad_c H core id).mono ?_; rintro e w' ⟨rfl, rfl⟩; dsimp only; rw [hb])
    go_ret2
    exact ⟨rfl, rturn_refl H⟩
  | false =>
    have e1 : eoiE n core id = 0 := if_neg (by rw [hb]; decide)
    have e0 : eoiB X n core id = ((X.get (posR n core id) (posK id)).a && decide ((X.get (posR n core id) (posK id)).own = core)) := by rw [eoiB, hb]; rfl
    rw [eoiR, e0, e1]
    clear e0 e1
    obtain ⟨hr, hk⟩ := pos_in hb
    have hs := H.in8g hr hk
    have z3 := H.at hr hs 3 (by decide)
    have z6 := H.at hr hs 6 (by decide)
    generalize X.get (posR n core id) (posK id) = s at hs z3 z6 ⊢
    generalize hR : posR n core id = r at z3 z6 hr hs ⊢
    generalize hK : posK id = k at z3 z6 hk hs ⊢
    replace hR := show Hid _ from hR
    replace hK := show Hid _ from hK
    replace z3 : w.cell? ⟨L.rb r, k * 8 + 3, none⟩ = some (.bool s.a) := z3
    replace z6 : w.cell? ⟨L.rb r, k * 8 + 6, none⟩ = some (vI s.own) := z6
    by_cases ha : s.a = true
    · rw [ha] at z3 ⊢
      by_cases ho : s.own = core
      · rw [decide_eq_true ho, Bool.and_true, if_pos rfl]
        rw [ho] at z6
        have fz3 := H.fz hr (k * 8 + 3)
        have hT := H.set hr hs (s' := { s with a := false }) 3 (by decide) (v := .bool false) rfl
        replace ho := show Hid _ from ho
        go_enter Tryz.func55, Tryz.ntmps55
        go_upto_region 8 with (first | (go_at_call 60; refine (rbad_c H core id).mono ?_; rintro e w' ⟨rfl, rfl⟩; dsimp only; rw [hb]) | (go_at_call 46; refine (of_c H core id hb).mono ?_; rintro e w' ⟨rfl, rfl⟩; dsimp only; rw [hR.out, hK.out]))
        generalize World.setCell _ _ _ = w1 at hT ⊢
        obtain ⟨H1, G1⟩ := hT
        have hs1 := put_at H hr hk { s with a := false }
        have y6 := H1.at hr hs1 6 (by decide)
        replace y6 : w1.cell? ⟨L.rb r, k * 8 + 6, none⟩ = some (vI s.own) := y6
        have fz6 := H1.fz hr (k * 8 + 6)
        have hT2 := H1.set hr hs1 (s' := { s with a := false, own := -1 }) 6 (by decide) (v := vI (-1)) rfl
        rw [put_put] at hT2
        clear z3 z6 fz3 hs hs1
        go_wp2
        go_ret2
        exact ⟨rfl, hT2.1, G1.trans hT2.2 fun _ _ e => e⟩
      · rw [decide_eq_false ho, Bool.and_false, if_neg (by decide)]
        go_enter Tryz.func55, Tryz.ntmps55
        go_wp2_with (first | (go_at_call 60; refine (rbad_c H core id).mono ?_; rintro e w' ⟨rfl, rfl⟩; dsimp only; rw [hb]) | (go_at_call 46; refine (of_c H core id hb).mono ?_; rintro e w' ⟨rfl, rfl⟩; dsimp only; rw [hR.out, hK.out]))
        go_ret2
        exact ⟨rfl, rturn_refl H⟩
    · replace ha : s.a = false := by simpa using ha
      rw [ha] at z3 ⊢
      rw [Bool.false_and, if_neg (by decide)]
      go_enter Tryz.func55, Tryz.ntmps55
      go_wp2_with (first | (go_at_call 60; refine (rbad_c H core id).mono ?_; rintro e w' ⟨rfl, rfl⟩; dsimp only; rw [hb]) | (go_at_call 46; refine (of_c H core id hb).mono ?_; rintro e w' ⟨rfl, rfl⟩; dsimp only; rw [hR.out, hK.out]))
      go_ret2
      exact ⟨rfl, rturn_refl H⟩
end Go.Proofs.YteklkololojamaaGreat.Doc
/- The document's own controller: Best. -/
namespace Go.Proofs.YteklkololojamaaGreat.Doc
open Go.RowKit
set_option linter.unusedVariables false
set_option linter.unusedSimpArgs false

/-- A world in which but the draws have gone on. -/
structure Alike (y w : World) : Prop where
  os : w.os = y.os
  tape : w.tape = y.tape
  output : w.output = y.output
  heap : w.heap = y.heap
theorem Alike.below {y w : World} (h : Alike y w) : Below y.heap.size y w := ⟨h.os, h.tape, h.output, by rw [h.heap]; exact Nat.le_refl _, fun _ _ => by rw [h.heap]⟩
theorem Alike.drew {y w : World} (h : Alike y w) (n : Nat) : Alike y (w.drewN n) := ⟨h.os, h.tape, h.output, h.heap⟩
theorem RefAt.alike {h n : Nat} {X : Ref} {L : RLay} {y w : World} (H : RefAt h n X L y) (A : Alike y w) : RefAt h n X L w := H.keep fun k _ => by rw [A.heap]
theorem of_q (h n : Nat) (X : Ref) (L : RLay) (core id : Int) (w : World) (H : RefAt h n X L w) (hb : rbadB n core id = false) : Calls Tryz.prog 46 #[ptr h 0, vI core, vI id] w fun e w' => e = .returned (ptr (L.rb (posR n core id)) (posK id * 8)) ∧ w' = w := of_c H core id hb
def candB (s : In8) (core run lim : Int) (i : Nat) : Bool := (s.l || s.h) && s.e && !s.a && (decide ((i : Int) < 32) || decide (s.core = core)) && decide (s.rank < lim) && decide (s.rank < run)
def Ref.of (X : Ref) (n : Nat) (core id : Int) : In8 := X.get (posR n core id) (posK id)
def bestF (X : Ref) (n : Nat) (core run lim : Int) : Nat → Int
  | 0 => -1
  | m + 1 => if candB (X.of n core m) core run lim m = true ∧ (bestF X n core run lim m < 0 ∨ (X.of n core m).rank < (X.of n core (bestF X n core run lim m)).rank) then (m : Int) else bestF X n core run lim m
theorem best_in (X : Ref) (n : Nat) (core run lim : Int) (m : Nat) : -1 ≤ bestF X n core run lim m ∧ bestF X n core run lim m < m := by
  induction m with
  | zero => exact ⟨Int.le_refl _, by rw [bestF]; omega⟩
  | succ m ih =>
    rw [bestF]
    split <;> omega
def limOf (X : Ref) (core : Int) : Int := (X.lims[core.toNat]?).getD 0
def bestV (X : Ref) (n : Nat) (core : Int) : Int := if rbadB n core 0 = true then -1 else bestF X n core (runF X n core 64) (limOf X core) 64
set_option maxRecDepth 8000 in
set_option maxHeartbeats 2000000 in
theorem best_walk {h n : Nat} {X : Ref} {L : RLay} {w : World} (H : RefAt h n X L w) (core : Int) (hb0 : rbadB n core 0 = false) : Calls Tryz.prog 25 #[ptr h 0, vI core] w fun e w' => e = .returned (.tuple (if bestV X n core < 0 then #[vI 0, .bool false] else #[vI (bestV X n core), .bool true])) ∧ Alike w w' := by
  have eV : bestV X n core = bestF X n core (runF X n core 64) (limOf X core) 64 := if_neg (by rw [hb0]; decide)
  rw [eV]
  clear eV
  obtain ⟨h1, h2, _, _⟩ := rbad_of hb0
  obtain ⟨c, rfl⟩ : ∃ c : Nat, core = (c : Int) := ⟨core.toNat, by omega⟩
  obtain ⟨lb, lcap, lim, el, hlv, _, _, _⟩ := H.limAt (c := c) (by omega)
  have eL : limOf X c = lim := by rw [limOf, Int.toNat_natCast, hlv]; rfl
  rw [eL]
  clear eL
  generalize hrun : runF X n c 64 = run
  replace hrun := show Hid _ from hrun
  go_enter Tryz.func25, Tryz.ntmps25
  go_wp2_with (first | (go_at_call 60; refine (rbad_c H c 0).mono ?_; rintro e w' ⟨rfl, rfl⟩; dsimp only; rw [hb0]) | (go_at_call 32; refine (run_c H c h1 h2).mono ?_; rintro e w' ⟨rfl, rfl⟩; dsimp only; rw [hrun.out]))
  go_loopw [8, 9] (fun s8 s9 wr => ∃ i : Nat, i ≤ 64 ∧ s8 = .int .i64 (bestF X n c run lim i) ∧ s9 = .int .i64 i ∧ Hid (Alike w' wr)) (fun s8 s9 _ => 64 - (intOf s9).toNat)
  case atStart => exact ⟨0, Nat.zero_le _, rfl, rfl, ⟨rfl, rfl, rfl, rfl⟩⟩
  case round =>
    obtain ⟨i, hi, rfl, rfl, hA⟩ := hrel
    by_cases hlt : (i : Int) < 64
    · have Hr := H.alike hA.out
      have hb := rbad_in (i := i) h1 h2 (by omega)
      obtain ⟨hr, hk⟩ := pos_in hb
      have hs := Hr.in8g hr hk
      have hF0 : bestF X n c run lim (i + 1) = if candB (X.of n c i) c run lim i = true ∧ (bestF X n c run lim i < 0 ∨ (X.of n c i).rank < (X.of n c (bestF X n c run lim i)).rank) then (i : Int) else bestF X n c run lim i := rfl
      obtain ⟨v1, v2⟩ := best_in X n c run lim i
      generalize bestF X n c run lim i = v at hF0 v1 v2 ⊢
      rw [Ref.of] at hF0
      have z0 := Hr.at hr hs 0 (by decide)
      have z1 := Hr.at hr hs 1 (by decide)
      have z2 := Hr.at hr hs 2 (by decide)
      have z3 := Hr.at hr hs 3 (by decide)
      have z4 := Hr.at hr hs 4 (by decide)
      have z5 := Hr.at hr hs 5 (by decide)
      generalize X.get (posR n c i) (posK i) = s at hs z0 z1 z2 z3 z4 z5 hF0
      generalize hR : posR n c i = r at hs z0 z1 z2 z3 z4 z5 hr
      generalize hK : posK i = k at hs z0 z1 z2 z3 z4 z5 hk
      replace hR := show Hid _ from hR
      replace hK := show Hid _ from hK
      rw [Nat.add_zero] at z0
      replace z0 : wr.cell? ⟨L.rb r, k * 8, none⟩ = some (.bool s.e) := z0
      replace z1 : wr.cell? ⟨L.rb r, k * 8 + 1, none⟩ = some (.bool s.l) := z1
      replace z2 : wr.cell? ⟨L.rb r, k * 8 + 2, none⟩ = some (.bool s.h) := z2
      replace z3 : wr.cell? ⟨L.rb r, k * 8 + 3, none⟩ = some (.bool s.a) := z3
      replace z4 : wr.cell? ⟨L.rb r, k * 8 + 4, none⟩ = some (vI s.rank) := z4
      replace z5 : wr.cell? ⟨L.rb r, k * 8 + 5, none⟩ = some (vI s.core) := z5
      obtain ⟨lb2, lcap2, lim2, el2, hlv2, zl, _, _⟩ := Hr.limAt (c := c) (by omega)
      obtain rfl : lim = lim2 := Option.some.inj (hlv.symm.trans hlv2)
      have c3 := Hr.c3
      rw [el2] at c3
      clear el2 hlv2
      cases hp : (s.l || s.h) with
      | false =>
        have hc0 : candB s c run lim i = false := by rw [candB, hp]; simp
        have hF : bestF X n c run lim (i + 1) = v := by rw [hF0, if_neg (fun e => by rw [hc0] at e; cases e.1)]
        clear hc0
        clear hF0
        replace hF := show Hid _ from hF
        go_upto_region 11 with (first | (go_at_call 46; refine (of_c Hr c i hb).mono ?_; rintro e w' ⟨rfl, rfl⟩; dsimp only; rw [hR.out, hK.out]) | (go_at_call 61; refine (pend_c z1 z2).mono ?_; rintro e w' ⟨rfl, rfl⟩; dsimp only; rw [hp]))
        go_quiet (fail)
        have A2 := hA.out.drew nq
        generalize World.drewN _ nq = w2 at A2 ⊢
        clear z0 z1 z2 z3 z4 z5 zl c3 Hr
        go_wp2
        go_roundw
        case rel => exact ⟨i + 1, by omega, by rw [hF.out], by go_num, A2⟩
        case measure => simp [intOf]; omega
      | true =>
        cases he : s.e with
        | false =>
          rw [he] at z0
          have hc0 : candB s c run lim i = false := by rw [candB, he]; simp
          have hF : bestF X n c run lim (i + 1) = v := by rw [hF0, if_neg (fun e => by rw [hc0] at e; cases e.1)]
          clear hc0
          clear hF0
          replace hF := show Hid _ from hF
          go_upto_region 11 with (first | (go_at_call 46; refine (of_c Hr c i hb).mono ?_; rintro e w' ⟨rfl, rfl⟩; dsimp only; rw [hR.out, hK.out]) | (go_at_call 61; refine (pend_c z1 z2).mono ?_; rintro e w' ⟨rfl, rfl⟩; dsimp only; rw [hp]))
          go_quiet (fail)
          have A2 := hA.out.drew nq
          generalize World.drewN _ nq = w2 at A2 ⊢
          clear z0 z1 z2 z3 z4 z5 zl c3 Hr
          go_wp2
          go_roundw
          case rel => exact ⟨i + 1, by omega, by rw [hF.out], by go_num, A2⟩
          case measure => simp [intOf]; omega
        | true =>
          cases ha : s.a with
          | true =>
            rw [ha] at z3
            rw [he] at z0
            have hc0 : candB s c run lim i = false := by rw [candB, ha]; simp
            have hF : bestF X n c run lim (i + 1) = v := by rw [hF0, if_neg (fun e => by rw [hc0] at e; cases e.1)]
            clear hc0
            clear hF0
            replace hF := show Hid _ from hF
            go_upto_region 11 with (first | (go_at_call 46; refine (of_c Hr c i hb).mono ?_; rintro e w' ⟨rfl, rfl⟩; dsimp only; rw [hR.out, hK.out]) | (go_at_call 61; refine (pend_c z1 z2).mono ?_; rintro e w' ⟨rfl, rfl⟩; dsimp only; rw [hp]))
            go_quiet (fail)
            have A2 := hA.out.drew nq
            generalize World.drewN _ nq = w2 at A2 ⊢
            clear z0 z1 z2 z3 z4 z5 zl c3 Hr
            go_wp2
            go_roundw
            case rel => exact ⟨i + 1, by omega, by rw [hF.out], by go_num, A2⟩
            case measure => simp [intOf]; omega
          | false =>
            rw [he] at z0
            rw [ha] at z3
            by_cases h32 : (i : Int) < 32
            · by_cases hl : s.rank < lim
              · by_cases hu : s.rank < run
                · have hcand : candB s c run lim i = true := by rw [candB, hp, he, ha, decide_eq_true hl, decide_eq_true hu, decide_eq_true h32]; rfl
                  have d32 : decide ((32 : Int) ≤ (i : Int)) = false := decide_eq_false (by omega)
                  have dl : decide (lim ≤ s.rank) = false := decide_eq_false (by omega)
                  have du : decide (run ≤ s.rank) = false := decide_eq_false (by omega)
                  go_upto_region 11 with (first | (go_at_call 46; refine (of_c Hr c i hb).mono ?_; rintro e w' ⟨rfl, rfl⟩; dsimp only; rw [hR.out, hK.out]) | (go_at_call 61; refine (pend_c z1 z2).mono ?_; rintro e w' ⟨rfl, rfl⟩; dsimp only; rw [hp]))
                  go_quiet (fail)
                  have A2 := hA.out.drew nq
                  generalize World.drewN _ nq = w2 at A2 ⊢
                  clear z0 z1 z2 z3 z4 z5 zl c3 Hr
                  have H2 := H.alike A2
                  have y4 : w2.cell? ⟨L.rb r, k * 8 + 4, none⟩ = some (vI s.rank) := H2.at hr hs 4 (by decide)
                  go_upto_region 12 with fail
                  by_cases hv0 : v < 0
                  · have hF : bestF X n c run lim (i + 1) = i := by rw [hF0, if_pos ⟨hcand, .inl hv0⟩]
                    clear hF0
                    replace hF := show Hid _ from hF
                    go_quiet (fail)
                    have A3 := A2.drew nq
                    generalize World.drewN _ nq = w3 at A3 ⊢
                    clear y4 H2
                    go_wp2
                    go_roundw
                    case rel => exact ⟨i + 1, by omega, by rw [hF.out], by go_num, A3⟩
                    case measure => simp [intOf]; omega
                  · obtain ⟨m, hm⟩ : ∃ m : Nat, v = m := ⟨v.toNat, by omega⟩
                    subst hm
                    have hbm := rbad_in (i := m) h1 h2 (by omega)
                    obtain ⟨hrm, hkm⟩ := pos_in hbm
                    have hsm := H2.in8g hrm hkm
                    have ym : w2.cell? ⟨L.rb (posR n c m), posK m * 8 + 4, none⟩ = some (vI (X.of n c m).rank) := H2.at hrm hsm 4 (by decide)
                    generalize X.of n c m = sm at hF0 ym
                    by_cases hlt2 : s.rank < sm.rank
                    · have hF : bestF X n c run lim (i + 1) = i := by rw [hF0, if_pos ⟨hcand, .inr hlt2⟩]
                      clear hF0
                      replace hF := show Hid _ from hF
                      go_quiet ((go_at_call 46; exact Calls.quiet_of_same (of_q h n X L (c : Int) (m : Int) _ (H2.keep fun _ _ => rfl) hbm)))
                      have A3 := A2.drew nq
                      generalize World.drewN _ nq = w3 at A3 ⊢
                      clear y4 ym H2
                      go_wp2
                      go_roundw
                      case rel => exact ⟨i + 1, by omega, by rw [hF.out], by go_num, A3⟩
                      case measure => simp [intOf]; omega
                    · have hF : bestF X n c run lim (i + 1) = m := by rw [hF0, if_neg (fun e => e.2.elim hv0 hlt2)]
                      clear hF0
                      replace hF := show Hid _ from hF
                      go_quiet ((go_at_call 46; exact Calls.quiet_of_same (of_q h n X L (c : Int) (m : Int) _ (H2.keep fun _ _ => rfl) hbm)))
                      have A3 := A2.drew nq
                      generalize World.drewN _ nq = w3 at A3 ⊢
                      clear y4 ym H2
                      go_wp2
                      go_roundw
                      case rel => exact ⟨i + 1, by omega, by rw [hF.out], by go_num, A3⟩
                      case measure => simp [intOf]; omega
                · have d32 : decide ((32 : Int) ≤ (i : Int)) = false := decide_eq_false (by omega)
                  have dl : decide (lim ≤ s.rank) = false := decide_eq_false (by omega)
                  have du : decide (run ≤ s.rank) = true := decide_eq_true (by omega)
                  have hc0 : candB s c run lim i = false := by rw [candB, decide_eq_false hu]; simp
                  have hF : bestF X n c run lim (i + 1) = v := by rw [hF0, if_neg (fun e => by rw [hc0] at e; cases e.1)]
                  clear hc0
                  clear hF0
                  replace hF := show Hid _ from hF
                  go_upto_region 11 with (first | (go_at_call 46; refine (of_c Hr c i hb).mono ?_; rintro e w' ⟨rfl, rfl⟩; dsimp only; rw [hR.out, hK.out]) | (go_at_call 61; refine (pend_c z1 z2).mono ?_; rintro e w' ⟨rfl, rfl⟩; dsimp only; rw [hp]))
                  go_quiet (fail)
                  have A2 := hA.out.drew nq
                  generalize World.drewN _ nq = w2 at A2 ⊢
                  clear z0 z1 z2 z3 z4 z5 zl c3 Hr
                  go_wp2
                  go_roundw
                  case rel => exact ⟨i + 1, by omega, by rw [hF.out], by go_num, A2⟩
                  case measure => simp [intOf]; omega
              · have d32 : decide ((32 : Int) ≤ (i : Int)) = false := decide_eq_false (by omega)
                have dl : decide (lim ≤ s.rank) = true := decide_eq_true (by omega)
                have hc0 : candB s c run lim i = false := by rw [candB, decide_eq_false hl]; simp
                have hF : bestF X n c run lim (i + 1) = v := by rw [hF0, if_neg (fun e => by rw [hc0] at e; cases e.1)]
                clear hc0
                clear hF0
                replace hF := show Hid _ from hF
                go_upto_region 11 with (first | (go_at_call 46; refine (of_c Hr c i hb).mono ?_; rintro e w' ⟨rfl, rfl⟩; dsimp only; rw [hR.out, hK.out]) | (go_at_call 61; refine (pend_c z1 z2).mono ?_; rintro e w' ⟨rfl, rfl⟩; dsimp only; rw [hp]))
                go_quiet (fail)
                have A2 := hA.out.drew nq
                generalize World.drewN _ nq = w2 at A2 ⊢
                clear z0 z1 z2 z3 z4 z5 zl c3 Hr
                go_wp2
                go_roundw
                case rel => exact ⟨i + 1, by omega, by rw [hF.out], by go_num, A2⟩
                case measure => simp [intOf]; omega
            · by_cases hco : s.core = c
              · rw [hco] at z5
                by_cases hl : s.rank < lim
                · by_cases hu : s.rank < run
                  · have hcand : candB s c run lim i = true := by rw [candB, hp, he, ha, decide_eq_true hl, decide_eq_true hu, decide_eq_true hco, Bool.or_true]; rfl
                    replace hco := show Hid _ from hco
                    have d32 : decide ((32 : Int) ≤ (i : Int)) = true := decide_eq_true (by omega)
                    have dl : decide (lim ≤ s.rank) = false := decide_eq_false (by omega)
                    have du : decide (run ≤ s.rank) = false := decide_eq_false (by omega)
                    go_upto_region 11 with (first | (go_at_call 46; refine (of_c Hr c i hb).mono ?_; rintro e w' ⟨rfl, rfl⟩; dsimp only; rw [hR.out, hK.out]) | (go_at_call 61; refine (pend_c z1 z2).mono ?_; rintro e w' ⟨rfl, rfl⟩; dsimp only; rw [hp]))
                    go_quiet (fail)
                    have A2 := hA.out.drew nq
                    generalize World.drewN _ nq = w2 at A2 ⊢
                    clear z0 z1 z2 z3 z4 z5 zl c3 Hr
                    have H2 := H.alike A2
                    have y4 : w2.cell? ⟨L.rb r, k * 8 + 4, none⟩ = some (vI s.rank) := H2.at hr hs 4 (by decide)
                    go_upto_region 12 with fail
                    by_cases hv0 : v < 0
                    · have hF : bestF X n c run lim (i + 1) = i := by rw [hF0, if_pos ⟨hcand, .inl hv0⟩]
                      clear hF0
                      replace hF := show Hid _ from hF
                      go_quiet (fail)
                      have A3 := A2.drew nq
                      generalize World.drewN _ nq = w3 at A3 ⊢
                      clear y4 H2
                      go_wp2
                      go_roundw
                      case rel => exact ⟨i + 1, by omega, by rw [hF.out], by go_num, A3⟩
                      case measure => simp [intOf]; omega
                    · obtain ⟨m, hm⟩ : ∃ m : Nat, v = m := ⟨v.toNat, by omega⟩
                      subst hm
                      have hbm := rbad_in (i := m) h1 h2 (by omega)
                      obtain ⟨hrm, hkm⟩ := pos_in hbm
                      have hsm := H2.in8g hrm hkm
                      have ym : w2.cell? ⟨L.rb (posR n c m), posK m * 8 + 4, none⟩ = some (vI (X.of n c m).rank) := H2.at hrm hsm 4 (by decide)
                      generalize X.of n c m = sm at hF0 ym
                      by_cases hlt2 : s.rank < sm.rank
                      · have hF : bestF X n c run lim (i + 1) = i := by rw [hF0, if_pos ⟨hcand, .inr hlt2⟩]
                        clear hF0
                        replace hF := show Hid _ from hF
                        go_quiet ((go_at_call 46; exact Calls.quiet_of_same (of_q h n X L (c : Int) (m : Int) _ (H2.keep fun _ _ => rfl) hbm)))
                        have A3 := A2.drew nq
                        generalize World.drewN _ nq = w3 at A3 ⊢
                        clear y4 ym H2
                        go_wp2
                        go_roundw
                        case rel => exact ⟨i + 1, by omega, by rw [hF.out], by go_num, A3⟩
                        case measure => simp [intOf]; omega
                      · have hF : bestF X n c run lim (i + 1) = m := by rw [hF0, if_neg (fun e => e.2.elim hv0 hlt2)]
                        clear hF0
                        replace hF := show Hid _ from hF
                        go_quiet ((go_at_call 46; exact Calls.quiet_of_same (of_q h n X L (c : Int) (m : Int) _ (H2.keep fun _ _ => rfl) hbm)))
                        have A3 := A2.drew nq
                        generalize World.drewN _ nq = w3 at A3 ⊢
                        clear y4 ym H2
                        go_wp2
                        go_roundw
                        case rel => exact ⟨i + 1, by omega, by rw [hF.out], by go_num, A3⟩
                        case measure => simp [intOf]; omega
                  · replace hco := show Hid _ from hco
                    have d32 : decide ((32 : Int) ≤ (i : Int)) = true := decide_eq_true (by omega)
                    have dl : decide (lim ≤ s.rank) = false := decide_eq_false (by omega)
                    have du : decide (run ≤ s.rank) = true := decide_eq_true (by omega)
                    have hc0 : candB s c run lim i = false := by rw [candB, decide_eq_false hu]; simp
                    have hF : bestF X n c run lim (i + 1) = v := by rw [hF0, if_neg (fun e => by rw [hc0] at e; cases e.1)]
                    clear hc0
                    clear hF0
                    replace hF := show Hid _ from hF
                    go_upto_region 11 with (first | (go_at_call 46; refine (of_c Hr c i hb).mono ?_; rintro e w' ⟨rfl, rfl⟩; dsimp only; rw [hR.out, hK.out]) | (go_at_call 61; refine (pend_c z1 z2).mono ?_; rintro e w' ⟨rfl, rfl⟩; dsimp only; rw [hp]))
                    go_quiet (fail)
                    have A2 := hA.out.drew nq
                    generalize World.drewN _ nq = w2 at A2 ⊢
                    clear z0 z1 z2 z3 z4 z5 zl c3 Hr
                    go_wp2
                    go_roundw
                    case rel => exact ⟨i + 1, by omega, by rw [hF.out], by go_num, A2⟩
                    case measure => simp [intOf]; omega
                · replace hco := show Hid _ from hco
                  have d32 : decide ((32 : Int) ≤ (i : Int)) = true := decide_eq_true (by omega)
                  have dl : decide (lim ≤ s.rank) = true := decide_eq_true (by omega)
                  have hc0 : candB s c run lim i = false := by rw [candB, decide_eq_false hl]; simp
                  have hF : bestF X n c run lim (i + 1) = v := by rw [hF0, if_neg (fun e => by rw [hc0] at e; cases e.1)]
                  clear hc0
                  clear hF0
                  replace hF := show Hid _ from hF
                  go_upto_region 11 with (first | (go_at_call 46; refine (of_c Hr c i hb).mono ?_; rintro e w' ⟨rfl, rfl⟩; dsimp only; rw [hR.out, hK.out]) | (go_at_call 61; refine (pend_c z1 z2).mono ?_; rintro e w' ⟨rfl, rfl⟩; dsimp only; rw [hp]))
                  go_quiet (fail)
                  have A2 := hA.out.drew nq
                  generalize World.drewN _ nq = w2 at A2 ⊢
                  clear z0 z1 z2 z3 z4 z5 zl c3 Hr
                  go_wp2
                  go_roundw
                  case rel => exact ⟨i + 1, by omega, by rw [hF.out], by go_num, A2⟩
                  case measure => simp [intOf]; omega
              · have d32 : decide ((32 : Int) ≤ (i : Int)) = true := decide_eq_true (by omega)
                have dco1 : (s.core == (c : Int)) = false := by simpa using hco
                have dco2 : (s.core != (c : Int)) = true := by simpa using hco
                have hc0 : candB s c run lim i = false := by rw [candB, decide_eq_false h32, decide_eq_false hco]; simp
                have hF : bestF X n c run lim (i + 1) = v := by rw [hF0, if_neg (fun e => by rw [hc0] at e; cases e.1)]
                clear hc0
                clear hF0
                replace hF := show Hid _ from hF
                go_upto_region 11 with (first | (go_at_call 46; refine (of_c Hr c i hb).mono ?_; rintro e w' ⟨rfl, rfl⟩; dsimp only; rw [hR.out, hK.out]) | (go_at_call 61; refine (pend_c z1 z2).mono ?_; rintro e w' ⟨rfl, rfl⟩; dsimp only; rw [hp]))
                go_quiet (fail)
                have A2 := hA.out.drew nq
                generalize World.drewN _ nq = w2 at A2 ⊢
                clear z0 z1 z2 z3 z4 z5 zl c3 Hr
                go_wp2
                go_roundw
                case rel => exact ⟨i + 1, by omega, by rw [hF.out], by go_num, A2⟩
                case measure => simp [intOf]; omega
    · have hi64 : i = 64 := by omega
      by_cases hv : bestF X n c run lim i < 0
      · have hv2 := hv
        rw [hi64] at hv2
        replace hi64 := show Hid _ from hi64
        go_wp2
        go_ret2
        exact ⟨rfl, hA.out⟩
      · have hv2 := hv
        rw [hi64] at hv2
        replace hi64 := show Hid _ from hi64
        go_wp2
        go_ret2
        have e := hi64.out
        subst e
        exact ⟨rfl, hA.out⟩
end Go.Proofs.YteklkololojamaaGreat.Doc
/- The document's own controller: Best for every core; Ack. -/
namespace Go.Proofs.YteklkololojamaaGreat.Doc
open Go.RowKit
set_option linter.unusedVariables false
set_option linter.unusedSimpArgs false

set_option maxRecDepth 4000 in
theorem best_c {h n : Nat} {X : Ref} {L : RLay} {w : World} (H : RefAt h n X L w) (core : Int) : Calls Tryz.prog 25 #[ptr h 0, vI core] w fun e w' => e = .returned (.tuple (if bestV X n core < 0 then #[vI 0, .bool false] else #[vI (bestV X n core), .bool true])) ∧ Alike w w' := by
  cases hb : rbadB n core 0 with
  | false => exact best_walk H core hb
  | true =>
    have e0 : bestV X n core = -1 := if_pos hb
    rw [e0, if_pos (by decide)]
    go_enter Tryz.func25, Tryz.ntmps25
    go_wp2_with (go_at_call 60; refine (rbad_c H core 0).mono ?_; rintro e w' ⟨rfl, rfl⟩; dsimp only; rw [hb])
    go_ret2
    exact ⟨rfl, ⟨rfl, rfl, rfl, rfl⟩⟩
theorem bestV_in {X : Ref} {n : Nat} {core : Int} (h : ¬ bestV X n core < 0) : rbadB n core (bestV X n core) = false := by
  unfold bestV at h ⊢
  split at h
  · exact absurd (by decide) h
  · rename_i hb
    rw [if_neg hb]
    have := rbad_of (by simpa using hb : rbadB n core 0 = false)
    have := best_in X n core (runF X n core 64) (limOf X core) 64
    simp only [rbadB, Bool.or_eq_false_iff, decide_eq_false_iff_not]
    omega
def ackV (X : Ref) (n : Nat) (core : Int) : Int := if bestV X n core < 0 then 1023 else bestV X n core
def ackR (X : Ref) (n : Nat) (core : Int) : Ref := if bestV X n core < 0 then X else X.put (posR n core (bestV X n core)) (posK (bestV X n core)) { X.of n core (bestV X n core) with l := false, a := true, own := core, was := (X.of n core (bestV X n core)).rank }
theorem Alike.goes {y w : World} (h : Alike y w) (F : Nat → Prop) : Goes F y w := goes_of_below h.below
set_option maxRecDepth 4000 in
theorem ack_c {h n : Nat} {X : Ref} {L : RLay} {w : World} (H : RefAt h n X L w) (core : Int) : Calls Tryz.prog 51 #[ptr h 0, vI core] w fun e w' => e = .returned (vI (ackV X n core)) ∧ RTurn h n L (ackR X n core) w w' := by
  unfold ackV ackR
  by_cases hv : bestV X n core < 0
  · rw [if_pos hv, if_pos hv]
    go_enter Tryz.func51, Tryz.ntmps51
    go_wp2_with (go_at_call 25; refine (best_c H core).mono ?_; rintro e w1 ⟨rfl, A⟩; dsimp only; rw [if_pos hv])
    go_ret
    exact ⟨rfl, H.alike A, A.goes _⟩
  · rw [if_neg hv, if_neg hv]
    have hb := bestV_in hv
    obtain ⟨hr, hk⟩ := pos_in hb
    have hs := H.in8g hr hk
    unfold Ref.of
    generalize hV : bestV X n core = v at hb hr hk hs hv ⊢
    generalize X.get (posR n core v) (posK v) = s at hs ⊢
    generalize hR : posR n core v = r at hr hs ⊢
    generalize hK : posK v = k at hk hs ⊢
    replace hV := show Hid _ from hV
    replace hR := show Hid _ from hR
    replace hK := show Hid _ from hK
    go_enter Tryz.func51, Tryz.ntmps51
    go_upto_region 5 with (first | (go_at_call 25; refine (best_c H core).mono ?_; rintro e w1 ⟨rfl, A⟩; dsimp only; rw [hV.out, if_neg hv]; have H1 := H.alike A) | (go_at_call 46; refine (of_c H1 core v hb).mono ?_; rintro e w' ⟨rfl, rfl⟩; dsimp only; rw [hR.out, hK.out]))
    have G1 := A.goes (RFoot h n L)
    have z1 : World.cell? _ ⟨L.rb r, k * 8 + 1, none⟩ = some (.bool s.l) := H1.at hr hs 1 (by decide)
    have f1 := H1.fz hr (k * 8 + 1)
    obtain ⟨H2, G2⟩ := H1.set hr hs (s' := { s with l := false }) 1 (by decide) (v := .bool false) rfl
    go_upto_region 6 with fail
    generalize World.setCell _ _ _ = w2 at H2 G2 ⊢
    clear z1 f1
    replace G2 := G1.trans G2 fun _ _ e => e
    have hs2 := put_at H hr hk { s with l := false }
    have z2 : World.cell? w2 ⟨L.rb r, k * 8 + 3, none⟩ = some (.bool s.a) := H2.at hr hs2 3 (by decide)
    have f2 := H2.fz hr (k * 8 + 3)
    obtain ⟨H3, G3⟩ := H2.set hr hs2 (s' := { s with l := false, a := true }) 3 (by decide) (v := .bool true) rfl
    rw [put_put] at H3
    go_upto_region 7 with fail
    generalize World.setCell _ _ _ = w3 at H3 G3 ⊢
    clear z2 f2
    replace G3 := G2.trans G3 fun _ _ e => e
    have hs3 := put_at H hr hk { s with l := false, a := true }
    have z3 : World.cell? w3 ⟨L.rb r, k * 8 + 6, none⟩ = some (vI s.own) := H3.at hr hs3 6 (by decide)
    have f3 := H3.fz hr (k * 8 + 6)
    obtain ⟨H4, G4⟩ := H3.set hr hs3 (s' := { s with l := false, a := true, own := core }) 6 (by decide) (v := vI core) rfl
    rw [put_put] at H4
    go_upto_region 8 with fail
    generalize World.setCell _ _ _ = w4 at H4 G4 ⊢
    clear z3 f3
    replace G4 := G3.trans G4 fun _ _ e => e
    have hs4 := put_at H hr hk { s with l := false, a := true, own := core }
    have z4 : World.cell? w4 ⟨L.rb r, k * 8 + 4, none⟩ = some (vI s.rank) := H4.at hr hs4 4 (by decide)
    have z7 : World.cell? w4 ⟨L.rb r, k * 8 + 7, none⟩ = some (vI s.was) := H4.at hr hs4 7 (by decide)
    have f4 := H4.fz hr (k * 8 + 7)
    obtain ⟨H5, G5⟩ := H4.set hr hs4 (s' := { s with l := false, a := true, own := core, was := s.rank }) 7 (by decide) (v := vI s.rank) rfl
    rw [put_put] at H5
    replace G5 := G4.trans G5 fun _ _ e => e
    clear hs hs2 hs3 hs4
    go_wp2
    go_ret
    exact ⟨rfl, H5, G5⟩
end Go.Proofs.YteklkololojamaaGreat.Doc
/- The document's own controller: Send. -/
namespace Go.Proofs.YteklkololojamaaGreat.Doc
open Go.RowKit
set_option linter.unusedVariables false
set_option linter.unusedSimpArgs false

def sendF (X : Ref) (t : Int) (id : Nat) : Nat → Ref
  | 0 => X
  | c + 1 => if t / 2 ^ c % 2 = 1 then (sendF X t id c).put c id { (sendF X t id c).get c id with l := true } else sendF X t id c
def sendE (n : Nat) (t id : Int) : Int := if id < 0 ∨ 15 < id ∨ t < 0 ∨ 2 ^ n ≤ t then 1 else 0
def sendR (X : Ref) (n : Nat) (t id : Int) : Ref := if sendE n t id = 0 then sendF X t id.toNat n else X
theorem pow_le {n : Nat} (hn : n ≤ 8) : (2 : Int) ^ n ≤ 256 := by
  have : n = 0 ∨ n = 1 ∨ n = 2 ∨ n = 3 ∨ n = 4 ∨ n = 5 ∨ n = 6 ∨ n = 7 ∨ n = 8 := by omega
  rcases this with rfl | rfl | rfl | rfl | rfl | rfl | rfl | rfl | rfl <;> decide
theorem and_one (x : Int) : bits .and .i64 x 1 = x % 2 := by
  have h1 : (BitVec.ofInt 64 1).toNat = 2 ^ 1 - 1 := by decide
  have key : (BitVec.ofInt 64 x &&& BitVec.ofInt 64 1).toNat = (x % ((2 ^ 64 : Nat) : Int)).toNat % 2 ^ 1 := by
    rw [BitVec.toNat_and, BitVec.toNat_ofInt, h1, Nat.and_two_pow_sub_one_eq_mod]
  show IntKind.i64.wrap ((BitVec.ofInt 64 x &&& BitVec.ofInt 64 1).toNat : Nat) = x % 2
  rw [key, IntKind.wrap_i64]
  omega
set_option maxRecDepth 4000 in
theorem send_c {h n : Nat} {X : Ref} {L : RLay} {w : World} (H : RefAt h n X L w) (t id : Int) (hn : n ≤ 8) : Calls Tryz.prog 56 #[ptr h 0, vI t, vI id] w fun e w' => e = .returned (vI (sendE n t id)) ∧ RTurn h n L (sendR X n t id) w w' := by
  have c0 := H.c0
  have hp := pow_le hn
  have hp0 : (0 : Int) < 2 ^ n := Int.pow_pos (by decide)
  have w1 : wrap64 (2 ^ n) = 2 ^ n := IntWalk.wrap64_in _ ⟨by omega, by omega⟩
  by_cases h1 : id < 0
  · have e0 : sendE n t id = 1 := if_pos (.inl h1)
    rw [sendR, e0, if_neg (by decide)]
    go_enter Tryz.func56, Tryz.ntmps56
    go_wp2
    go_ret
    exact ⟨rfl, rturn_refl H⟩
  by_cases h2 : 15 < id
  · have e0 : sendE n t id = 1 := if_pos (.inr (.inl h2))
    rw [sendR, e0, if_neg (by decide)]
    go_enter Tryz.func56, Tryz.ntmps56
    go_wp2
    go_ret
    exact ⟨rfl, rturn_refl H⟩
  by_cases h3 : t < 0
  · have e0 : sendE n t id = 1 := if_pos (.inr (.inr (.inl h3)))
    rw [sendR, e0, if_neg (by decide)]
    go_enter Tryz.func56, Tryz.ntmps56
    go_wp2
    go_ret
    exact ⟨rfl, rturn_refl H⟩
  by_cases h4 : 2 ^ n ≤ t
  · have e0 : sendE n t id = 1 := if_pos (.inr (.inr (.inr h4)))
    rw [sendR, e0, if_neg (by decide)]
    go_enter Tryz.func56, Tryz.ntmps56
    go_wp2
    go_ret
    exact ⟨rfl, rturn_refl H⟩
  have e0 : sendE n t id = 0 := if_neg (by omega)
  rw [sendR, e0, if_pos rfl]
  obtain ⟨k, rfl⟩ : ∃ k : Nat, id = (k : Int) := ⟨id.toNat, by omega⟩
  rw [Int.toNat_natCast]
  clear e0
  go_enter Tryz.func56, Tryz.ntmps56
  go_wp2
  clear c0
  go_loopw [7] (fun s7 wr => ∃ c : Nat, c ≤ n ∧ s7 = .int .i64 c ∧ Hid (RTurn h n L (sendF X t k c) w wr)) (fun s7 _ => 8 - (intOf s7).toNat)
  case atStart => exact ⟨0, Nat.zero_le _, rfl, rturn_refl H⟩
  case round =>
    obtain ⟨c, hcn, rfl, hT⟩ := hrel
    obtain ⟨H1, G1⟩ := hT.out
    clear hT
    have c0 := H1.c0
    by_cases hlt : (c : Int) < n
    · by_cases hbit : t / 2 ^ c % 2 = 1
      · have hF : sendF X t k (c + 1) = (sendF X t k c).put c k { (sendF X t k c).get c k with l := true } := if_pos hbit
        replace hF := show Hid _ from hF
        have hbt : (bits BinOp.and IntKind.i64 (t / 2 ^ c) 1 == 1) = true := by rw [and_one, hbit]; rfl
        have hs := H1.in8g (r := c) (k := k) hcn (by omega)
        generalize (sendF X t k c).get c k = s at hs hF
        have z1 : wr.cell? ⟨L.rb c, k * 8 + 1, none⟩ = some (.bool s.l) := H1.at hcn hs 1 (by decide)
        have fz := H1.fz hcn (k * 8 + 1)
        have hT := H1.set hcn hs (s' := { s with l := true }) 1 (by decide) (v := .bool true) rfl
        obtain ⟨b, cap, eo, _, _, _, hcell, _⟩ := own_addr H1.own (by omega)
        have z := hcell c (by omega)
        rw [List.getElem?_map, List.getElem?_range (by omega)] at z
        replace z : wr.cell? ⟨b, c, none⟩ = some (.slice (some ⟨L.rb c, 0, none⟩) 32 (L.rc c)) := z
        have c1 := H1.c1
        rw [eo] at c1
        clear hcell eo hs hbit
        go_upto_region 5 with fail
        generalize World.setCell _ _ _ = w2 at hT ⊢
        clear z1 fz z c1 c0
        go_wp2
        go_roundw
        case rel => exact ⟨c + 1, by omega, by go_num, by rw [hF.out]; exact ⟨hT.1, G1.trans hT.2 fun _ _ e => e⟩⟩
        case measure => simp [intOf]; omega
      · have hF : sendF X t k (c + 1) = sendF X t k c := if_neg hbit
        replace hF := show Hid _ from hF
        have hbt : (bits BinOp.and IntKind.i64 (t / 2 ^ c) 1 == 1) = false := by rw [and_one]; simpa using hbit
        go_wp2
        go_roundw
        case rel => exact ⟨c + 1, by omega, by go_num, by rw [hF.out]; exact ⟨H1, G1⟩⟩
        case measure => simp [intOf]; omega
    · have hcn2 : c = n := by omega
      subst hcn2
      go_wp2
      go_ret
      exact ⟨rfl, H1, G1⟩
end Go.Proofs.YteklkololojamaaGreat.Doc
/- Appending to the rows of the document's own controller. -/
namespace Go.Proofs.YteklkololojamaaGreat.Doc
open Go.RowKit
set_option linter.unusedVariables false
set_option linter.unusedSimpArgs false

theorem infI : ∃ i, Tryz.prog.info? 87 = some i ∧ i.zero = some (.agg #[.bool false, .bool false, .bool false, .bool false, vI 0, vI 0, vI 0, vI 0]) ∧ i.size = 8 ∧ i.bytes = 40 := by
  have h : (Tryz.prog.info? 87).map (fun i => (i.zero, i.size, i.bytes)) = some (some (.agg #[.bool false, .bool false, .bool false, .bool false, vI 0, vI 0, vI 0, vI 0]), 8, 40) := by kernel_rfl
  cases hq : Tryz.prog.info? 87 with
  | none => rw [hq] at h; cases h
  | some i =>
    rw [hq] at h
    simp only [Option.map_some, Option.some.injEq, Prod.mk.injEq] at h
    exact ⟨i, rfl, h.1, h.2.1, h.2.2⟩
theorem infR : ∃ i, Tryz.prog.info? 98 = some i ∧ i.zero = some (.slice none 0 0) ∧ i.size = 1 ∧ i.bytes = 24 := by
  have h : (Tryz.prog.info? 98).map (fun i => (i.zero, i.size, i.bytes)) = some (some (.slice none 0 0), 1, 24) := by kernel_rfl
  cases hq : Tryz.prog.info? 98 with
  | none => rw [hq] at h; cases h
  | some i =>
    rw [hq] at h
    simp only [Option.map_some, Option.some.injEq, Prod.mk.injEq] at h
    exact ⟨i, rfl, h.1, h.2.1, h.2.2⟩
theorem infN : ∃ i, Tryz.prog.info? 3 = some i ∧ i.zero = some (vI 0) ∧ i.size = 1 ∧ i.bytes = 8 := by
  have h : (Tryz.prog.info? 3).map (fun i => (i.zero, i.size, i.bytes)) = some (some (vI 0), 1, 8) := by kernel_rfl
  cases hq : Tryz.prog.info? 3 with
  | none => rw [hq] at h; cases h
  | some i =>
    rw [hq] at h
    simp only [Option.map_some, Option.some.injEq, Prod.mk.injEq] at h
    exact ⟨i, rfl, h.1, h.2.1, h.2.2⟩
theorem one_flatI (l : List In8) : ∀ u ∈ flatI l, u.oneCell' = true := by
  intro u hu
  simp only [flatI, In8.row, List.mem_flatMap, List.mem_cons, List.not_mem_nil, or_false] at hu
  obtain ⟨s, _, h | h | h | h | h | h | h | h⟩ := hu <;> subst h <;> rfl
theorem addr0 (b k : Nat) (j : Nat) : (⟨b, k, none⟩ : Addr).add j = ⟨b, k + j, none⟩ := by unfold Addr.add; split <;> simp_all
/-- An interrupt appended to a row. -/
theorem wpList_app_in {ops : Array Oper} {rest : List Oper} {o : Oper} {a : Act} {w : World} {Q : Exit → Act → World → Prop} (hgd : o.guard = none) (s x : Operand)
    (ho : o.op = .call { callee := .builtin .append, args := #[s, x], argTypes := #[98, 98] }) (base : Nat) (v : Value) (l : List In8) (hs : a.eval s = v) (hown : w.ownsRow base 87 8 v l.length (flatI l)) (hbase : base ≤ w.heap.size)
    (b k c : Nat) (z : In8) (hx : a.eval x = .slice (some ⟨b, k, none⟩) 1 c) (hc : ∀ (j : Nat) u, z.row[j]? = some u → w.cell? ⟨b, k + j, none⟩ = some u) (hl : l.length < 1000000000)
    (h : ∀ g cap w', w'.ownsRow base 87 8 (.slice (some ⟨g, 0, none⟩) (l.length + 1) cap) (l ++ [z]).length (flatI (l ++ [z])) → w.grownBy w' v.ownBlock → (v.ownBlock = some g ∨ g = w.heap.size) → g < w'.heap.size →
      wpList Tryz.prog ops Q rest (a.put o.dst (.slice (some ⟨g, 0, none⟩) (l.length + 1) cap)) w') : wpList Tryz.prog ops Q (o :: rest) a w := by
  obtain ⟨i, h1, h2, h3, h4⟩ := infI
  refine wpList_append_lies w hgd s x 98 ho base 87 i _ 8 40 Tryz.underlying98 h1 h2 h3 h4 rfl (by decide) v l.length (flatI l) hs hown ⟨b, k, none⟩ 1 c (flatI [z]) hx rfl ?_ (one_flatI _) (by decide) (by simp only [maxLen]; omega) (by omega) hbase w.heap.size rfl ?_
  · intro j u hj
    rw [addr0]
    exact hc j u (by simpa [flatI] using hj)
  · intro g cap w' q1 q2 q3 q4
    refine h g cap w' ?_ q2 q3 q4
    have e : flatI (l ++ [z]) = flatI l ++ flatI [z] := by simp [flatI]
    rw [List.length_append, e]
    exact q1
/-- A row appended to the rows. -/
theorem wpList_app_row {ops : Array Oper} {rest : List Oper} {o : Oper} {a : Act} {w : World} {Q : Exit → Act → World → Prop} (hgd : o.guard = none) (s x : Operand)
    (ho : o.op = .call { callee := .builtin .append, args := #[s, x], argTypes := #[97, 97] }) (base : Nat) (v : Value) (l : List Value) (hs : a.eval s = v) (hown : w.ownsRow base 98 1 v l.length l) (hbase : base ≤ w.heap.size)
    (b k c : Nat) (q : Option Addr) (m d : Nat) (hx : a.eval x = .slice (some ⟨b, k, none⟩) 1 c) (hc : w.cell? ⟨b, k, none⟩ = some (.slice q m d)) (hl : l.length < 1000000000)
    (h : ∀ g cap w', w'.ownsRow base 98 1 (.slice (some ⟨g, 0, none⟩) (l.length + 1) cap) (l ++ [Value.slice q m d]).length (l ++ [Value.slice q m d]) → w.grownBy w' v.ownBlock → (v.ownBlock = some g ∨ g = w.heap.size) → g < w'.heap.size →
      wpList Tryz.prog ops Q rest (a.put o.dst (.slice (some ⟨g, 0, none⟩) (l.length + 1) cap)) w') : wpList Tryz.prog ops Q (o :: rest) a w := by
  obtain ⟨i, h1, h2, h3, h4⟩ := infR
  refine wpList_append_lies w hgd s x 97 ho base 98 i _ 1 24 Tryz.underlying97 h1 h2 h3 h4 rfl (by decide) v l.length l hs hown ⟨b, k, none⟩ 1 c [.slice q m d] hx rfl ?_ ?_ (by decide) (by simp only [maxLen]; omega) (by omega) hbase w.heap.size rfl ?_
  · intro j u hj
    match j with
    | 0 => simp at hj; subst hj; rw [addr0]; exact hc
    | j + 1 => simp at hj
  · intro u hu; simp at hu; subst hu; rfl
  · intro g cap w' q1 q2 q3 q4
    refine h g cap w' ?_ q2 q3 q4
    rw [List.length_append]
    exact q1
/-- A number appended to the limits. -/
theorem wpList_app_lim {ops : Array Oper} {rest : List Oper} {o : Oper} {a : Act} {w : World} {Q : Exit → Act → World → Prop} (hgd : o.guard = none) (s x : Operand)
    (ho : o.op = .call { callee := .builtin .append, args := #[s, x], argTypes := #[63, 63] }) (base : Nat) (v : Value) (l : List Int) (hs : a.eval s = v) (hown : w.ownsRow base 3 1 v l.length (l.map vI)) (hbase : base ≤ w.heap.size)
    (b k c : Nat) (n : Int) (hx : a.eval x = .slice (some ⟨b, k, none⟩) 1 c) (hc : w.cell? ⟨b, k, none⟩ = some (vI n)) (hl : l.length < 1000000000)
    (h : ∀ g cap w', w'.ownsRow base 3 1 (.slice (some ⟨g, 0, none⟩) (l.length + 1) cap) (l ++ [n]).length ((l ++ [n]).map vI) → w.grownBy w' v.ownBlock → (v.ownBlock = some g ∨ g = w.heap.size) → g < w'.heap.size →
      wpList Tryz.prog ops Q rest (a.put o.dst (.slice (some ⟨g, 0, none⟩) (l.length + 1) cap)) w') : wpList Tryz.prog ops Q (o :: rest) a w := by
  obtain ⟨i, h1, h2, h3, h4⟩ := infN
  refine wpList_append_lies w hgd s x 63 ho base 3 i (vI 0) 1 8 Tryz.underlying63 h1 h2 h3 h4 rfl (by decide) v l.length (l.map vI) hs hown ⟨b, k, none⟩ 1 c [vI n] hx rfl ?_ ?_ (by decide) (by simp only [maxLen]; omega) (by omega) hbase w.heap.size rfl ?_
  · intro j u hj
    match j with
    | 0 => simp at hj; subst hj; rw [addr0]; exact hc
    | j + 1 => simp at hj
  · intro u hu; simp at hu; subst hu; rfl
  · intro g cap w' q1 q2 q3 q4
    refine h g cap w' ?_ q2 q3 q4
    rw [List.length_append, List.map_append]
    exact q1
end Go.Proofs.YteklkololojamaaGreat.Doc
/- The document's own controller made: New. -/
namespace Go.Proofs.YteklkololojamaaGreat.Doc
open Go.RowKit
set_option linter.unusedVariables false
set_option linter.unusedSimpArgs false

def z0 : In8 := ⟨false, false, false, false, 160, 0, -1, 0⟩
def newR (n : Nat) : Ref := ⟨fun _ => List.replicate 32 z0, List.replicate n 255⟩
/-- The rows that are made so far. -/
structure NW (w0 : World) (h n r a b : Nat) (L : RLay) (w : World) : Prop where
  top : w.heap[h]? = some (.cells #[vI n, L.ov, .slice none 0 0, L.lv] 100)
  hh : w0.heap.size ≤ h
  own : w.ownsRow w0.heap.size 98 1 L.ov a ((List.range a).map L.sl)
  row : ∀ i, i < r → w.ownsRow w0.heap.size 87 8 (L.sl i) 32 (flatI (List.replicate 32 z0))
  lim : w.ownsRow w0.heap.size 3 1 L.lv b ((List.replicate b 255).map vI)
  inj : ∀ i s, i < r → s < r → L.rb i = L.rb s → i = s
  below : Below w0.heap.size w0 w
theorem NW.grow {w0 w w' : World} {h n r a b : Nat} {L : RLay} (U : NW w0 h n r a b L w) (hb : Below w.heap.size w w') : NW w0 h n r a b L w' :=
  ⟨by rw [hb.block h (lt_of_some U.top)]; exact U.top, U.hh, own_of_block U.own fun k hk => hb.block k (U.own.lt k hk).2, fun i hi => own_of_block (U.row i hi) fun k hk => hb.block k ((U.row i hi).lt k hk).2, own_of_block U.lim fun k hk => hb.block k (U.lim.lt k hk).2, U.inj, below_then U.below (Nat.le_refl _) hb⟩
def RLay.more (L : RLay) (c g hc : Nat) : RLay := { L with rb := fun i => if i = c then g else L.rb i, rc := fun i => if i = c then hc else L.rc i }
theorem more_lt {L : RLay} {c g hc i : Nat} (h : i < c) : (L.more c g hc).sl i = L.sl i := by
  have : ¬ i = c := by omega
  simp [RLay.sl, RLay.more, this]
theorem more_at {L : RLay} {c g hc : Nat} : (L.more c g hc).sl c = .slice (some ⟨g, 0, none⟩) 32 hc := by simp [RLay.sl, RLay.more]
/-- A row under way. -/
structure RU (w0 : World) (v : Value) (i : Nat) (w : World) : Prop where
  row : w.ownsRow w0.heap.size 87 8 v i (flatI (List.replicate i z0))
  below : Below w0.heap.size w0 w
theorem RU.grow {w0 w w' : World} {v : Value} {i : Nat} (h : RU w0 v i w) (hb : Below w.heap.size w w') : RU w0 v i w' :=
  ⟨own_of_block h.row fun b hk => hb.block b (h.row.lt b hk).2, below_then h.below (Nat.le_refl _) hb⟩
theorem RU.app {w0 w w1 w2 : World} {v : Value} {i : Nat} (h : RU w0 v i w) (hB : Below w.heap.size w w1) {b m cap : Nat} (q1 : w2.ownsRow w0.heap.size 87 8 (.slice (some ⟨b, 0, none⟩) m cap) (List.replicate i z0 ++ [z0]).length (flatI (List.replicate i z0 ++ [z0]))) (q2 : w1.grownBy w2 v.ownBlock) : RU w0 (.slice (some ⟨b, 0, none⟩) m cap) (i + 1) w2 := by
  refine ⟨?_, (below_then h.below (Nat.le_refl _) hB).trans ((goes_grown (F := fun k => v.ownBlock = some k) q2 fun k hk => hk).below (Nat.le_trans h.below.size hB.size) fun k hk => (h.row.lt k hk).1)⟩
  have e : List.replicate i z0 ++ [z0] = List.replicate (i + 1) z0 := by rw [List.replicate_succ']
  rw [e, List.length_replicate] at q1
  exact q1
theorem NW.addRow {w0 wo w : World} {h n r a b : Nat} {L : RLay} (U : NW w0 h n r a b L wo) (hab : a ≤ r) {g hc : Nat} (T : RU wo (.slice (some ⟨g, 0, none⟩) 32 hc) 32 w) : NW w0 h n (r + 1) a b (L.more r g hc) w := by
  have V := U.grow T.below
  have hg := (T.row.lt g rfl).1
  refine ⟨V.top, V.hh, ?_, fun i hi => ?_, V.lim, fun i s hi hs e => ?_, V.below⟩
  · have e : (List.range a).map (L.more r g hc).sl = (List.range a).map L.sl := List.map_congr_left fun i hi => more_lt (by have := List.mem_range.1 hi; omega)
    rw [e]; exact V.own
  · by_cases e : i = r
    · subst e
      rw [more_at]
      exact own_mono T.row U.below.size
    · rw [more_lt (by omega)]
      exact V.row i (by omega)
  · have lt : ∀ i, i < r → L.rb i < wo.heap.size := fun i hi => ((U.row i hi).lt _ rfl).2
    by_cases e1 : i = r
    · by_cases e2 : s = r
      · omega
      · have := lt s (by omega)
        simp only [RLay.more, if_pos e1, if_neg e2] at e
        omega
    · by_cases e2 : s = r
      · have := lt i (by omega)
        simp only [RLay.more, if_neg e1, if_pos e2] at e
        omega
      · simp only [RLay.more, if_neg e1, if_neg e2] at e
        exact U.inj i s (by omega) (by omega) e
theorem NW.addOwn {w0 w w1 y : World} {h n r a b : Nat} {L : RLay} (U : NW w0 h n r a b L w) (hB : Below w.heap.size w w1) {g m cap : Nat} {x : Value} (hx : x = L.sl a) (q1 : y.ownsRow w0.heap.size 98 1 (.slice (some ⟨g, 0, none⟩) m cap) (((List.range a).map L.sl) ++ [x]).length (((List.range a).map L.sl) ++ [x])) (q2 : w1.grownBy y L.ov.ownBlock) :
    NW w0 h n r (a + 1) b { L with ov := .slice (some ⟨g, 0, none⟩) m cap } (y.setCell ⟨h, 1, none⟩ (.slice (some ⟨g, 0, none⟩) m cap)) := by
  have V := U.grow hB
  have G := goes_grown (F := fun k => L.ov.ownBlock = some k) q2 fun k hk => hk
  have topY : y.heap[h]? = some (.cells #[vI n, L.ov, .slice none 0 0, L.lv] 100) := by
    rw [G.block h (lt_of_some V.top) (own_ne V.top V.own (by decide))]; exact V.top
  have keep : ∀ k, k ≠ h → (y.setCell ⟨h, 1, none⟩ (.slice (some ⟨g, 0, none⟩) m cap)).heap[k]? = y.heap[k]? := fun k hk => Below.heap_setCell _ _ _ _ hk
  refine ⟨?_, U.hh, ?_, fun i hi => own_of_block (V.row i hi) fun k hk => (keep k ?_).trans (G.block k ((V.row i hi).lt k hk).2 ?_), own_of_block V.lim fun k hk => (keep k ?_).trans (G.block k (V.lim.lt k hk).2 ?_), U.inj, ?_⟩
  · rw [setCell_eq_setRow _ _ _ _ _ _ _ topY]
    exact setRow_heap _ _ _ _ _ _ topY
  · have e : ((List.range a).map L.sl) ++ [x] = (List.range (a + 1)).map L.sl := by rw [List.range_succ, List.map_append, hx]; rfl
    rw [e, List.length_map, List.length_range] at q1
    exact own_of_block q1 fun k hk => keep k (by rintro rfl; exact own_ne topY q1 (by decide) hk)
  · rintro rfl; exact own_ne V.top (V.row i hi) (by decide) hk
  · intro e
    obtain ⟨C, _, hC⟩ := own_kind V.own e
    exact own_ne hC (V.row i hi) (by decide) hk
  · rintro rfl; exact own_ne V.top V.lim (by decide) hk
  · intro e
    obtain ⟨C, _, hC⟩ := own_kind V.own e
    exact own_ne hC V.lim (by decide) hk
  · refine (V.below.trans (G.below V.below.size fun k hk => (V.own.lt k hk).1)).trans ((goes_setCell y (F := fun k => k = h) rfl _ _).below (Nat.le_trans V.below.size G.size) fun k hk => ?_)
    subst hk; exact U.hh
theorem NW.addLim {w0 w w1 y : World} {h n r a b : Nat} {L : RLay} (U : NW w0 h n r a b L w) (hB : Below w.heap.size w w1) {g m cap : Nat} (q1 : y.ownsRow w0.heap.size 3 1 (.slice (some ⟨g, 0, none⟩) m cap) (List.replicate b (255 : Int) ++ [255]).length ((List.replicate b (255 : Int) ++ [255]).map vI)) (q2 : w1.grownBy y L.lv.ownBlock) :
    NW w0 h n r a (b + 1) { L with lv := .slice (some ⟨g, 0, none⟩) m cap } (y.setCell ⟨h, 3, none⟩ (.slice (some ⟨g, 0, none⟩) m cap)) := by
  have V := U.grow hB
  have G := goes_grown (F := fun k => L.lv.ownBlock = some k) q2 fun k hk => hk
  have topY : y.heap[h]? = some (.cells #[vI n, L.ov, .slice none 0 0, L.lv] 100) := by
    rw [G.block h (lt_of_some V.top) (own_ne V.top V.lim (by decide))]; exact V.top
  have keep : ∀ k, k ≠ h → (y.setCell ⟨h, 3, none⟩ (.slice (some ⟨g, 0, none⟩) m cap)).heap[k]? = y.heap[k]? := fun k hk => Below.heap_setCell _ _ _ _ hk
  refine ⟨?_, U.hh, own_of_block V.own fun k hk => (keep k ?_).trans (G.block k (V.own.lt k hk).2 ?_), fun i hi => own_of_block (V.row i hi) fun k hk => (keep k ?_).trans (G.block k ((V.row i hi).lt k hk).2 ?_), ?_, U.inj, ?_⟩
  · rw [setCell_eq_setRow _ _ _ _ _ _ _ topY]
    exact setRow_heap _ _ _ _ _ _ topY
  · rintro rfl; exact own_ne V.top V.own (by decide) hk
  · intro e
    obtain ⟨C, _, hC⟩ := own_kind V.lim e
    exact own_ne hC V.own (by decide) hk
  · rintro rfl; exact own_ne V.top (V.row i hi) (by decide) hk
  · intro e
    obtain ⟨C, _, hC⟩ := own_kind V.lim e
    exact own_ne hC (V.row i hi) (by decide) hk
  · have e : List.replicate b (255 : Int) ++ [255] = List.replicate (b + 1) 255 := by rw [List.replicate_succ']
    rw [e, List.length_replicate] at q1
    exact own_of_block q1 fun k hk => keep k (by rintro rfl; exact own_ne topY q1 (by decide) hk)
  · refine (V.below.trans (G.below V.below.size fun k hk => (V.lim.lt k hk).1)).trans ((goes_setCell y (F := fun k => k = h) rfl _ _).below (Nat.le_trans V.below.size G.size) fun k hk => ?_)
    subst hk; exact U.hh
theorem NW.atOwn {w0 w w1 y : World} {h n r a b : Nat} {L : RLay} (U : NW w0 h n r a b L w) (hB : Below w.heap.size w w1) (q2 : w1.grownBy y L.ov.ownBlock) : y.cell? ⟨h, 1, none⟩ = some L.ov ∧ y.frozen? ⟨h, 1, none⟩ = false := by
  have V := U.grow hB
  have G := goes_grown (F := fun k => L.ov.ownBlock = some k) q2 fun k hk => hk
  have topY : y.heap[h]? = some (.cells #[vI n, L.ov, .slice none 0 0, L.lv] 100) := by
    rw [G.block h (lt_of_some V.top) (own_ne V.top V.own (by decide))]; exact V.top
  exact ⟨by rw [cell_of_row _ _ _ _ _ _ topY]; rfl, frozen_of_row _ _ _ _ _ topY⟩
theorem NW.atLim {w0 w w1 y : World} {h n r a b : Nat} {L : RLay} (U : NW w0 h n r a b L w) (hB : Below w.heap.size w w1) (q2 : w1.grownBy y L.lv.ownBlock) : y.cell? ⟨h, 3, none⟩ = some L.lv ∧ y.frozen? ⟨h, 3, none⟩ = false := by
  have V := U.grow hB
  have G := goes_grown (F := fun k => L.lv.ownBlock = some k) q2 fun k hk => hk
  have topY : y.heap[h]? = some (.cells #[vI n, L.ov, .slice none 0 0, L.lv] 100) := by
    rw [G.block h (lt_of_some V.top) (own_ne V.top V.lim (by decide))]; exact V.top
  exact ⟨by rw [cell_of_row _ _ _ _ _ _ topY]; rfl, frozen_of_row _ _ _ _ _ topY⟩
theorem NW.done {w0 w : World} {h n : Nat} {L : RLay} (U : NW w0 h n (n + 1) n n L w) : RefAt h n (newR n) L (w.setCell ⟨h, 2, none⟩ (L.sl n)) ∧ (∀ k, RFoot h n L k → w0.heap.size ≤ k) ∧ Below w0.heap.size w0 (w.setCell ⟨h, 2, none⟩ (L.sl n)) := by
  have keep : ∀ k, k ≠ h → (w.setCell ⟨h, 2, none⟩ (L.sl n)).heap[k]? = w.heap[k]? := fun k hk => Below.heap_setCell _ _ _ _ hk
  refine ⟨⟨?_, own_mono (own_of_block U.own fun k hk => keep k ?_) (Nat.zero_le _), fun i hi => own_mono (own_of_block (U.row i (by omega)) fun k hk => keep k ?_) (Nat.zero_le _), fun i hi => by simp [newR], own_mono (own_of_block U.lim fun k hk => keep k ?_) (Nat.zero_le _), by simp [newR], fun i s hi hs e => U.inj i s (by omega) (by omega) e⟩, ?_, ?_⟩
  · rw [setCell_eq_setRow _ _ _ _ _ _ _ U.top]
    exact setRow_heap _ _ _ _ _ _ U.top
  · rintro rfl; exact own_ne U.top U.own (by decide) hk
  · rintro rfl; exact own_ne U.top (U.row i (by omega)) (by decide) hk
  · rintro rfl; exact own_ne U.top U.lim (by decide) hk
  · rintro k (rfl | e | ⟨i, hi, rfl⟩ | e)
    · exact U.hh
    · exact (U.own.lt k e).1
    · exact ((U.row i (by omega)).lt _ rfl).1
    · exact (U.lim.lt k e).1
  · refine U.below.trans ((goes_setCell w (F := fun k => k = h) rfl _ _).below U.below.size fun k hk => ?_)
    subst hk; exact U.hh
set_option maxRecDepth 8000 in
set_option maxHeartbeats 1000000 in
theorem newR_c (n : Nat) (w : World) (hn : n ≤ 8) : Calls Tryz.prog 40 #[vI n] w fun e w' => ∃ h L, e = .returned (ptr h 0) ∧ RefAt h n (newR n) L w' ∧ (∀ k, RFoot h n L k → w.heap.size ≤ k) ∧ Below w.heap.size w w' := by
  go_enter Tryz.func40, Tryz.ntmps40
  go_wp2
  have U0 : NW w w.heap.size n 0 0 0 ⟨.slice none 0 0, .slice none 0 0, fun _ => 0, fun _ => 0⟩ (w.alloc (.cells #[vI n, .slice none 0 0, .slice none 0 0, .slice none 0 0] 100)) :=
    ⟨heap_alloc_new _ _, Nat.le_refl _, World.ownsRow_nil _ _ _ _, fun r hr => absurd hr (Nat.not_lt_zero _), World.ownsRow_nil _ _ _ _, fun r s hr => absurd hr (Nat.not_lt_zero _), below_alloc _ _⟩
  generalize hh : w.heap.size = h at U0 ⊢
  have hh' : h = w.heap.size := hh.symm
  generalize hx : World.alloc w _ = x1
  replace U0 : NW w h n 0 0 0 ⟨.slice none 0 0, .slice none 0 0, fun _ => 0, fun _ => 0⟩ x1 := by rw [← hx]; exact U0
  clear hx
  replace hh := show Hid _ from hh
  replace hh' := show Hid _ from hh'
  go_loopw [4] (fun s4 wr => ∃ c : Nat, c ≤ n ∧ s4 = .int .i64 c ∧ Hid (∃ L, NW w h n c c c L wr)) (fun s4 _ => 9 - (intOf s4).toNat)
  case atStart => exact ⟨0, Nat.zero_le _, rfl, _, U0⟩
  case round =>
    obtain ⟨c, hcn, rfl, hU⟩ := hrel
    obtain ⟨L, U⟩ := hU.out
    clear hU U0
    have hcn' : (c : Int) ≤ n := by omega
    go_wp2
    generalize wr = wo at U ⊢
    go_loopw [5, 6] (fun s5 s6 wq => ∃ i : Nat, i ≤ 32 ∧ s6 = .int .i64 i ∧ ∃ ha hc, s5 = .slice ha i hc ∧ Hid (RU wo (.slice ha i hc) i wq)) (fun _ s6 _ => 32 - (intOf s6).toNat)
    case atStart => exact ⟨0, Nat.zero_le _, rfl, none, 0, rfl, World.ownsRow_nil _ _ _ _, Below.refl _ _⟩
    case round =>
      obtain ⟨i, hi, rfl, ha, hc, rfl, hT⟩ := hrel
      have T := hT.out
      clear hT
      by_cases hlt : (i : Int) < 32
      · go_upto_region 9 with fail
        have hbase : wo.heap.size ≤ wr.heap.size := T.below.size
        go_upto_region 8 with (at_builtin; refine wpList_app_in (by rfl) _ _ (by rfl) wo.heap.size (.slice ha i hc) (List.replicate i z0) (by rfl) (by rw [List.length_replicate]; exact (T.grow (below_alloc _ _)).row) (Nat.le_trans hbase (below_alloc _ _).size) wr.heap.size 0 1 z0 (by rfl) (by intro j u hj; rw [World.cell?_alloc_new, Nat.zero_add]; simpa [In8.row, z0] using hj) (by rw [List.length_replicate]; omega) ?_; intro b2 acap y2 q1 q2 q3 q4; simp only [Act.put, List.setIfInBounds_toArray, List.set_cons_succ, List.set_cons_zero, List.length_replicate] at q1 ⊢)
        have T2 := T.app (below_alloc _ _) q1 q2
        clear q1 q2 q3 q4
        go_wp2
        go_roundw
        case rel => exact ⟨i + 1, by omega, by go_num, _, _, rfl, T2⟩
        case measure => simp [intOf]; omega
      · obtain rfl : i = 32 := by omega
        obtain ⟨g, cap, eg, _, _, _, _, _⟩ := own_addr T.row (by decide)
        simp only [Value.slice.injEq] at eg
        obtain ⟨rfl, -, rfl⟩ := eg
        have V := U.addRow (Nat.le_refl _) T
        have hsl : (L.more c g hc).sl c = .slice (some ⟨g, 0, none⟩) 32 hc := more_at
        clear T U
        generalize L.more c g hc = L2 at V hsl
        by_cases hce : c = n
        · subst hce
          have z2 : wr.cell? ⟨h, 2, none⟩ = some (.slice none 0 0) := by rw [cell_of_row _ _ _ _ _ _ V.top]; rfl
          have f2 := frozen_of_row wr h 2 _ _ V.top
          have D := V.done
          rw [hsl] at D
          clear V
          go_wp2
          go_ret
          exact ⟨h, rfl, L2, D⟩
        · have hne : ((c : Int) == (n : Int)) = false := beq_eq_false_iff_ne.2 (by omega)
          obtain ⟨ao, oc, eo, _, _⟩ := own_len V.own
          have z1 : wr.cell? ⟨h, 1, none⟩ = some L2.ov := by rw [cell_of_row _ _ _ _ _ _ V.top]; rfl
          rw [eo] at z1
          have hbase : w.heap.size ≤ wr.heap.size := V.below.size
          go_upto_region 12 with fail
          go_upto_region 13 with (at_builtin; refine wpList_app_row (by rfl) _ _ (by rfl) w.heap.size (.slice ao c oc) ((List.range c).map L2.sl) (by rfl) (by rw [List.length_map, List.length_range, ← eo]; exact (V.grow (below_alloc _ _)).own) (Nat.le_trans hbase (below_alloc _ _).size) wr.heap.size 0 1 (some ⟨g, 0, none⟩) 32 hc (by rfl) (by rw [World.cell?_alloc_new]; rfl) (by rw [List.length_map, List.length_range]; omega) ?_; intro b2 acap y2 q1 q2 q3 q4; rw [← eo] at q2; have zz := V.atOwn (below_alloc _ _) q2; have zz1 := zz.1; have zz2 := zz.2; rw [eo] at zz1; simp only [Act.put, List.setIfInBounds_toArray, List.set_cons_succ, List.set_cons_zero, List.length_map, List.length_range] at q1 ⊢)
          obtain ⟨L3, V3⟩ : ∃ L3, NW w h n (c + 1) (c + 1) c L3 (y2.setCell ⟨h, 1, none⟩ (.slice (some ⟨b2, 0, none⟩) (c + 1) acap)) := ⟨_, V.addOwn (below_alloc _ _) hsl.symm q1 q2⟩
          generalize World.setCell _ _ _ = x2 at V3 ⊢
          clear V zz zz1 zz2 q1 q2 q3 q4 z1 eo hsl hbase
          obtain ⟨lo, lc, el, _, _⟩ := own_len V3.lim
          have z3 : x2.cell? ⟨h, 3, none⟩ = some L3.lv := by rw [cell_of_row _ _ _ _ _ _ V3.top]; rfl
          rw [el] at z3
          have hbase : w.heap.size ≤ x2.heap.size := V3.below.size
          go_upto_region 4 with (at_builtin; refine wpList_app_lim (by rfl) _ _ (by rfl) w.heap.size (.slice lo c lc) (List.replicate c 255) (by rfl) (by rw [List.length_replicate, ← el]; exact (V3.grow (below_alloc _ _)).lim) (Nat.le_trans hbase (below_alloc _ _).size) x2.heap.size 0 1 255 (by rfl) (by rw [World.cell?_alloc_new]; rfl) (by rw [List.length_replicate]; omega) ?_; intro b3 acap3 y3 q1 q2 q3 q4; rw [← el] at q2; have zz := V3.atLim (below_alloc _ _) q2; have zz1 := zz.1; have zz2 := zz.2; rw [el] at zz1; simp only [Act.put, List.setIfInBounds_toArray, List.set_cons_succ, List.set_cons_zero, List.length_replicate] at q1 ⊢)
          obtain ⟨L4, V4⟩ : ∃ L4, NW w h n (c + 1) (c + 1) (c + 1) L4 (y3.setCell ⟨h, 3, none⟩ (.slice (some ⟨b3, 0, none⟩) (c + 1) acap3)) := ⟨_, V3.addLim (below_alloc _ _) q1 q2⟩
          generalize World.setCell _ _ _ = x4 at V4 ⊢
          clear V3 zz zz1 zz2 q1 q2 q3 q4 z3 el
          go_wp2
          go_roundw
          case rel => exact ⟨c + 1, by omega, by go_num, L4, V4⟩
          case measure => simp [intOf]; omega
end Go.Proofs.YteklkololojamaaGreat.Doc
