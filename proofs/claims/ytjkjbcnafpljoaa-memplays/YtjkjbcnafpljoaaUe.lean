/- The document's own memory turned: Set. -/
import Derived.Test.YtjkjbcnafpljoaaUd
namespace Go.Proofs.Ytjkjbcnafpljoaa
open Go.RowKit
set_option linter.unusedVariables false
set_option linter.unusedSimpArgs false

/-- What a call does to the document's memory. -/
def DocTurn (h : Nat) (L : DocLay) (X : Doc) (w w' : World) : Prop := ∃ L', DocAt h X L' w' ∧ Goes (DocFoot h L) w w' ∧ ∀ k, DocFoot h L' k → DocFoot h L k ∨ w.heap.size ≤ k
theorem docTurn_of_below {h : Nat} {L : DocLay} {X : Doc} {w w' : World} (H : DocAt h X L w) (hb : Below w.heap.size w w') : DocTurn h L X w w' := ⟨L, H.grow hb, goes_of_below hb, fun _ hk => .inl hk⟩
theorem docTurn_refl {h : Nat} {L : DocLay} {X : Doc} {w : World} (H : DocAt h X L w) : DocTurn h L X w w := docTurn_of_below H (Below.refl _ _)
def dsetE (X : Doc) (addr : Int) : Int := if badB X 0 addr then 1 else if 0 < X.all.length then 7 else 0
def setD (X : Doc) (addr v : Int) : Doc := if dsetE X addr = 0 then { X with first := X.first.set (addr / 8).toNat v } else X
theorem bad_word {X : Doc} {core addr : Int} (h : badB X core addr = false) : 0 ≤ core ∧ core < X.cores ∧ addr % 8 = 0 ∧ addr / 8 < X.first.length := by
  simp only [badB, Bool.or_eq_false_iff, decide_eq_false_iff_not] at h
  omega
theorem goes_setCell {F : Nat → Prop} (w : World) {b : Nat} (hb : F b) (k : Nat) (v : Value) : Goes F w (w.setCell ⟨b, k, none⟩ v) :=
  ⟨rfl, rfl, rfl, by simp [World.setCell], fun j _ hn => Below.heap_setCell _ _ _ _ (fun e => hn (by have e : j = b := e; exact e ▸ hb))⟩
set_option maxRecDepth 4000 in
theorem setD_c (h : Nat) (X : Doc) (L : DocLay) (addr v : Int) (w : World) (H : DocAt h X L w) (hA : U64 addr) (hn : X.first.length < 1000000000) : Calls Try.prog 48 #[ptr h 0, vU addr, vU v] w fun e w' => e = .returned (vI (dsetE X addr)) ∧ DocTurn h L (setD X addr v) w w' := by
  have a1 := hA.1
  have a2 := hA.2
  cases hb : badB X 0 addr with
  | true =>
    have e0 : dsetE X addr = 1 := by rw [dsetE, hb]; rfl
    rw [setD, e0, if_neg (by decide)]
    go_enter Try.func48, Try.ntmps48
    go_wp2_with (go_at_call 37; refine (bad_c h X L 0 addr _ H hA hn).mono ?_; rintro e w' ⟨rfl, rfl⟩; dsimp only; rw [hb])
    go_ret
    exact ⟨rfl, docTurn_refl H⟩
  | false =>
    obtain ⟨aa, ac, ea, _, _⟩ := own_len H.all
    have c3 := H.c3
    rw [ea] at c3
    by_cases h0 : (0 : Int) < X.all.length
    · have e0 : dsetE X addr = 7 := by rw [dsetE, hb, if_neg (by decide), if_pos (by omega)]
      rw [setD, e0, if_neg (by decide)]
      go_enter Try.func48, Try.ntmps48
      go_wp2_with (go_at_call 37; refine (bad_c h X L 0 addr _ H hA hn).mono ?_; rintro e w' ⟨rfl, rfl⟩; dsimp only; rw [hb])
      go_ret
      exact ⟨rfl, docTurn_refl H⟩
    · have e0 : dsetE X addr = 0 := by rw [dsetE, hb, if_neg (by decide), if_neg (by omega)]
      rw [setD, e0, if_pos rfl]
      obtain ⟨_, _, _, hwd⟩ := bad_word hb
      have c0 := H.c0
      have t2 : addr.tdiv 8 = addr / 8 := Int.tdiv_eq_ediv_of_nonneg a1
      have w2 : IntKind.u64.wrap (addr / 8) = addr / 8 := by rw [IntKind.wrap_u64]; omega
      have hd0 : 0 ≤ addr / 8 := by omega
      have hk : (addr / 8).toNat < X.first.length := by omega
      have hx : X.first[(addr / 8).toNat]? = some X.first[(addr / 8).toNat] := List.getElem?_eq_getElem hk
      have z := H.first.cellAt (addr / 8).toNat (by omega)
      rw [List.getElem?_map, hx] at z
      replace z : w.cell? ⟨L.fb, (addr / 8).toNat, none⟩ = some (vU X.first[(addr / 8).toNat]) := z
      have fz := H.first.frozenAt (addr / 8).toNat
      have hst := (H.first.stored (addr / 8).toNat (vU v)).1
      rw [← List.map_set] at hst
      have hne : L.fb ≠ h := by
        obtain ⟨cur, hc, _⟩ : ∃ cur, w.heap[L.fb]? = some (.cells cur 28) ∧ 0 ≤ L.fb := by
          rcases H.first.2 with ⟨h0, _⟩ | ⟨q', cap', cur, h0, hb, hq, _⟩
          · cases h0
          · simp only [Value.slice.injEq, Option.some.injEq, Addr.mk.injEq] at h0
            obtain ⟨⟨rfl, _⟩, _, _⟩ := h0
            exact ⟨cur, hq, hb⟩
        exact ne_of_type hc H.top (by decide)
      have hna : L.av.ownBlock ≠ some L.fb := by
        obtain ⟨cur, hc, _⟩ : ∃ cur, w.heap[L.fb]? = some (.cells cur 28) ∧ 0 ≤ L.fb := by
          rcases H.first.2 with ⟨h0, _⟩ | ⟨q', cap', cur, h0, hb, hq, _⟩
          · cases h0
          · simp only [Value.slice.injEq, Option.some.injEq, Addr.mk.injEq] at h0
            obtain ⟨⟨rfl, _⟩, _, _⟩ := h0
            exact ⟨cur, hq, hb⟩
        exact fun e => own_ne hc H.all (by decide) e
      have hT : DocTurn h L { X with first := X.first.set (addr / 8).toNat v } w (w.setCell ⟨L.fb, (addr / 8).toNat, none⟩ (vU v)) := by
        refine ⟨L, ⟨?_, ?_, ?_⟩, goes_setCell w (.inr (.inl rfl)) _ _, fun _ hk => .inl hk⟩
        · rw [Below.heap_setCell _ _ _ _ (Ne.symm hne)]
          simpa [docV] using H.top
        · simpa using hst
        · exact own_of_block H.all fun k hk => Below.heap_setCell _ _ _ _ (fun e => hna (by have e : k = L.fb := e; rw [← e]; exact hk))
      clear hst hx hna hne
      generalize X.first[(addr / 8).toNat] = f0 at z
      go_enter Try.func48, Try.ntmps48
      go_wp2_with (go_at_call 37; refine (bad_c h X L 0 addr _ H hA hn).mono ?_; rintro e w' ⟨rfl, rfl⟩; dsimp only; rw [hb])
      go_ret
      exact ⟨rfl, hT⟩
end Go.Proofs.Ytjkjbcnafpljoaa
