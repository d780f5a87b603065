/- What waits, in the queue: waiting; Next. -/
import Derived.Test.YtebkpmplhpebbaaQm
import Derived.Test.YtebkpmplhpebbaaQc
namespace Go.Proofs.Ytebkpmplhpebbaa
open Go.RowKit
open Tim
set_option linter.unusedVariables false
set_option linter.unusedSimpArgs false
set_option maxRecDepth 8000

/-- What lies in the queue behind i cores. -/
structure WQ (T : Tm) (w : World) (q : Nat) (i : Nat) (v : Value) (m : List Trn) (wr : World) : Prop where
  at_ : QAt w.heap.size q v m wr
  heap : Heap m
  len : m.length ≤ i
  mem : ∀ x, x ∈ m ↔ ∃ k, k < i ∧ T.due k = true ∧ x = ⟨T.cval k, k⟩
  below : Below w.heap.size w wr
theorem WQ.grow {T : Tm} {w : World} {q i : Nat} {v : Value} {m : List Trn} {wr wr' : World} (H : WQ T w q i v m wr) (hb : Below wr.heap.size wr wr') : WQ T w q i v m wr' := ⟨H.at_.grow hb, H.heap, H.len, H.mem, below_then H.below (Nat.le_refl _) hb⟩
theorem WQ.skip {T : Tm} {w : World} {q i : Nat} {v : Value} {m : List Trn} {wr : World} (H : WQ T w q i v m wr) (hc : T.due i = false) : WQ T w q (i + 1) v m wr :=
  ⟨H.at_, H.heap, Nat.le_succ_of_le H.len, fun x => (H.mem x).trans ⟨fun ⟨k, h1, h2⟩ => ⟨k, by omega, h2⟩, fun ⟨k, h1, h2, h3⟩ => by
    rcases Nat.lt_or_ge k i with h | h
    · exact ⟨k, h, h2, h3⟩
    · obtain rfl : k = i := by omega
      rw [hc] at h2
      cases h2⟩, H.below⟩
theorem WQ.put {T : Tm} {w : World} {q i : Nat} {v u : Value} {m m' : List Trn} {wr wr' : World} (H : WQ T w q i v m wr) (hc : T.due i = true) (HQ : QAt w.heap.size q u m' wr') (hh : Heap m') (hl : m'.length = m.length + 1) (hm : ∀ x, x ∈ m' ↔ x ∈ m ∨ x = ⟨T.cval i, i⟩) (G : Goes (QF q v) wr wr') : WQ T w q (i + 1) u m' wr' := by
  refine ⟨HQ, hh, by have := H.len; omega, fun x => (hm x).trans ⟨?_, ?_⟩, H.below.trans (G.below H.below.size ?_)⟩
  · rintro (h | h)
    · obtain ⟨k, h1, h2⟩ := (H.mem x).1 h
      exact ⟨k, by omega, h2⟩
    · exact ⟨i, by omega, hc, h⟩
  · rintro ⟨k, h1, h2, h3⟩
    rcases Nat.lt_or_ge k i with h | h
    · exact .inl ((H.mem x).2 ⟨k, h, h2, h3⟩)
    · obtain rfl : k = i := by omega
      exact .inr h3
  · rintro k (e | e)
    · rw [e]; exact H.at_.hq
    · exact (H.at_.row.lt k e).1
theorem waits_eq (T : Tm) (i : Nat) : (lookV T i).waits = T.due i := by
  unfold Sg.waits Tm.due lookV
  dsimp only
  by_cases h : T.cval i ≤ T.cnt
  · rw [decide_eq_true h, decide_eq_false (by omega : ¬ T.cnt < T.cval i)]; rfl
  · rw [decide_eq_false h, decide_eq_true (by omega : T.cnt < T.cval i)]; rfl
/-- The first of the heap is the next. -/
theorem WQ.first {n : Nat} {T : Tm} {w : World} {q : Nat} {v : Value} {m : List Trn} {wr : World} (H : WQ T w q n v m wr) : (m = [] ∧ T.nextF n = -1) ∨ ∃ k : Nat, m[0]? = some ⟨T.cval k, k⟩ ∧ T.nextF n = k := by
  rcases next_spec T n with ⟨h1, h2⟩ | ⟨k, h1, h2, h3, h4⟩
  · left
    refine ⟨?_, h1⟩
    cases m with
    | nil => rfl
    | cons a r =>
      obtain ⟨k, g1, g2, _⟩ := (H.mem a).1 (by simp)
      rw [h2 k g1] at g2
      cases g2
  · right
    refine ⟨k, ?_, h1⟩
    obtain ⟨j, hj⟩ := List.mem_iff_getElem?.1 ((H.mem ⟨T.cval k, k⟩).2 ⟨k, h2, h3, rfl⟩)
    have hpos : 0 < m.length := by have := (List.getElem?_eq_some_iff.1 hj).1; omega
    have ha : m[0]? = some m[0] := getT hpos
    generalize m[0] = a at ha
    obtain ⟨p, g1, g2, g3⟩ := (H.mem a).1 (List.mem_of_getElem? ha)
    have e2 := heap_min H.heap (j + 1) j (by omega) _ a hj ha
    have e1 := h4 p g1 g2
    rw [ha]
    subst g3
    rw [ltT_false] at e2
    dsimp only at e2
    have hp : p = k := by omega
    rw [hp]
section
variable {g cb n : Nat} {T : Tm} {w : World}
set_option maxHeartbeats 4000000 in
theorem waiting_c (H : TimAt g cb n T w) : Calls Try.prog 27 #[ptr g 0] w fun e w' => ∃ q, e = .returned (ptr q 0) ∧ ∃ v m, WQ T w q n v m w' := by
  have hn8 := H.le8
  go_enter Try.func27, Try.ntmps27
  go_upto_region 2 with fail
  generalize hw2 : World.alloc (World.alloc w _) _ = w2
  have B2 : Below w.heap.size w w2 := by rw [← hw2]; exact Rel.below_alloc2 _ _ _
  have Q2 : WQ T w (w.heap.size + 1) 0 (.slice (some ⟨w.heap.size, 0, none⟩) 0 0) [] w2 := by
    have h1 : w2.heap[w.heap.size]? = some (.cells #[] 67) := by rw [← hw2, (below_alloc _ _).block _ (by show _ < (w.heap.push _).size; simp)]; exact heap_alloc_new _ _
    have h2 : w2.heap[w.heap.size + 1]? = some (.cells #[.slice (some ⟨w.heap.size, 0, none⟩) 0 0] 71) := by
      have e : (w.alloc (.cells #[] 67)).heap.size = w.heap.size + 1 := by show (w.heap.push _).size = _; simp
      rw [← hw2, ← e]; exact heap_alloc_new _ _
    exact ⟨⟨h2, ⟨rfl, .inr ⟨w.heap.size, 0, #[], rfl, Nat.le_refl _, h1, Nat.le_refl _, Nat.zero_le _, rfl, rfl⟩⟩, by omega⟩, fun k s t hk hs => by simp at hs, Nat.le_refl _, fun x => ⟨fun h => by simp at h, fun ⟨k, h, _⟩ => by omega⟩, B2⟩
  clear hw2
  have H2 := H.grow B2
  have c1 := H2.c1
  generalize w.heap.size + 1 = q at Q2 ⊢
  generalize Value.slice (some ⟨w.heap.size, 0, none⟩) 0 0 = v0 at Q2 ⊢
  go_wp2
  clear c1
  go_loopw [13] (fun s13 wr => ∃ (i : Nat) (v : Value) (m : List Trn), s13 = .int .i64 i ∧ i ≤ n ∧ Hid (WQ T w q i v m wr)) (fun s13 _ => n - (intOf s13).toNat)
  case atStart => exact ⟨0, v0, [], rfl, Nat.zero_le _, Q2⟩
  case round =>
    obtain ⟨i, v, m, rfl, hi, hQ⟩ := hrel
    clear Q2
    by_cases hlt : (i : Int) < n
    · have hQ' := hQ.out
      have hin : i < n := by omega
      have H1 := H.grow hQ'.below
      have hlook := look_c H1 hin
      have hwt := waits_c (lookV T i)
      rw [waits_eq] at hwt
      obtain ⟨s, hs⟩ : ∃ s, lookV T i = s := ⟨_, rfl⟩
      have es : s.cval = T.cval i := by rw [← hs]; rfl
      rw [hs] at hlook hwt
      clear hs
      replace es := show Hid _ from es
      go_upto_region 6 with (first | (go_at_call 22; refine hlook.mono ?_; rintro e w1 ⟨rfl, hB⟩; dsimp only) | (refine wpList_stS rfl _ _ rfl w1.heap.size rfl s nilG rfl (heap_alloc_new _ _) ?_; simp only [Act.put]))
      clear hlook H1
      generalize hw4 : World.setRow _ _ _ = w4
      have B4 : Below wr.heap.size wr w4 := by rw [← hw4]; exact below_then hB (Nat.le_refl _) (below_setRow (below_alloc _ _) (Nat.le_refl _))
      have hd : w4.heap[w1.heap.size]? = some (.cells s.row.toArray 59) := by rw [← hw4]; exact setRow_heap _ _ _ _ _ _ (heap_alloc_new _ _)
      clear hw4
      generalize w1.heap.size = b at hd ⊢
      replace hQ' := hQ'.grow B4
      replace hQ := show Hid _ from hQ'
      clear hB B4 hQ'
      have z := cells_of hd
      cases hdu : T.due i with
      | false =>
        rw [hdu] at hwt
        go_wp2_with (first | (go_at_call 37; refine (hwt _).mono ?_; rintro e w5 ⟨rfl, hB5⟩; dsimp only; replace hB5 := show Hid _ from hB5) | (refine wpList_ldS rfl _ rfl b 0 rfl s z ?_; simp only [Act.put]))
        go_roundw
        case rel => exact ⟨i + 1, v, m, by go_num, by omega, (hQ.out.grow hB5.out).skip hdu⟩
        case measure => simp [intOf]; omega
      | true =>
        rw [hdu] at hwt
        go_upto_region 7 with (first | (go_at_call 37; refine (hwt _).mono ?_; rintro e w5 ⟨rfl, hB5⟩; dsimp only; replace hB5 := show Hid _ from hB5) | (refine wpList_ldS rfl _ rfl b 0 rfl s z ?_; simp only [Act.put]))
        have hQ5 := hQ.out.grow hB5.out
        have z0 : w5.cell? ⟨b, 0, none⟩ = some (vU s.cval) := cells_of ((hB5.out.block _ (lt_of_some hd)).trans hd) 0 (by decide)
        have hp := push_c hQ5.at_ hQ5.heap ⟨s.cval, i⟩ (by have := hQ5.len; omega) hQ5.below.size
        clear z
        go_wp2_with (first | (go_at_call 38; refine hp.mono ?_; rintro e w6 ⟨rfl, u, m6, H6, h6, l6, M6, G6⟩; dsimp only))
        go_roundw
        case rel =>
          have e1 := es.out
          exact ⟨i + 1, u, m6, by go_num, by omega, hQ5.put hdu H6 h6 l6 (by rw [← e1]; exact M6) G6⟩
        case measure => simp [intOf]; omega
    · obtain rfl : i = n := by omega
      go_wp2
      go_ret
      exact ⟨q, rfl, v, m, hQ.out⟩
end
end Go.Proofs.Ytebkpmplhpebbaa
