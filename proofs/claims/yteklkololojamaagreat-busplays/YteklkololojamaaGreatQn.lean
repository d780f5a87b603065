/- What waits for a core. -/
import Derived.Test.YteklkololojamaaGreatQm
namespace Go.Proofs.YteklkololojamaaGreat
open Go.RowKit
set_option linter.unusedVariables false
set_option linter.unusedSimpArgs false
set_option maxRecDepth 8000

/-- Could a core take it now? -/
def awayB (c : Nat) (i : Nat) (s : Src) : Bool := decide (32 ≤ (i : Int)) && (s.goes != (c : Int))
def waitB (s : Src) : Bool := s.e && (s.l || s.h) && !s.a
def minV (a b : Int) : Int := if b < a then b else a
def candB (n : Nat) (P : Pg) (c : Nat) (i : Nat) : Bool := waitB (lookV n P c i) && !awayB c i (lookV n P c i) && decide ((lookV n P c i).rank < minV (P.lim c) (runV (P.wk c)))
/-- What lies in the queue behind i interrupts. -/
structure WQ (n : Nat) (P : Pg) (c : Nat) (w : World) (q : Nat) (i : Nat) (v : Value) (m : List Trn) (wr : World) : Prop where
  at_ : QAt w.heap.size q v m wr
  heap : Heap m
  len : m.length ≤ i
  mem : ∀ x, x ∈ m ↔ ∃ k, k < i ∧ candB n P c k = true ∧ x = ⟨(lookV n P c k).rank, k⟩
  below : Below w.heap.size w wr
theorem WQ.grow {n : Nat} {P : Pg} {c : Nat} {w : World} {q i : Nat} {v : Value} {m : List Trn} {wr wr' : World} (H : WQ n P c w q i v m wr) (hb : Below wr.heap.size wr wr') : WQ n P c w q i v m wr' := ⟨H.at_.grow hb, H.heap, H.len, H.mem, below_then H.below (Nat.le_refl _) hb⟩
theorem WQ.skip {n : Nat} {P : Pg} {c : Nat} {w : World} {q i : Nat} {v : Value} {m : List Trn} {wr : World} (H : WQ n P c w q i v m wr) (hc : candB n P c i = false) : WQ n P c w q (i + 1) v m wr :=
  ⟨H.at_, H.heap, Nat.le_succ_of_le H.len, fun x => (H.mem x).trans ⟨fun ⟨k, h1, h2⟩ => ⟨k, by omega, h2⟩, fun ⟨k, h1, h2, h3⟩ => by
    rcases Nat.lt_or_ge k i with h | h
    · exact ⟨k, h, h2, h3⟩
    · obtain rfl : k = i := by omega
      rw [hc] at h2
      cases h2⟩, H.below⟩
theorem WQ.put {n : Nat} {P : Pg} {c : Nat} {w : World} {q i : Nat} {v u : Value} {m m' : List Trn} {wr wr' : World} (H : WQ n P c w q i v m wr) (hc : candB n P c i = true) (HQ : QAt w.heap.size q u m' wr') (hh : Heap m') (hl : m'.length = m.length + 1) (hm : ∀ x, x ∈ m' ↔ x ∈ m ∨ x = ⟨(lookV n P c i).rank, i⟩) (G : Goes (QF q v) wr wr') : WQ n P c w q (i + 1) u m' wr' := by
  refine ⟨HQ, hh, by have := H.len; omega, fun x => (hm x).trans ⟨?_, ?_⟩, H.below.trans (G.below H.below.size ?_)⟩
  · rintro (h | h)
    · obtain ⟨k, h1, h2⟩ := (H.mem x).1 h
      exact ⟨k, by omega, h2⟩
    · exact ⟨i, by omega, hc, h⟩
  · rintro ⟨k, h1, h2, h3⟩
    rcases Nat.lt_or_ge k i with h | h
    · exact .inl ((H.mem x).2 ⟨k, h, h2, h3⟩)
    · obtain rfl : k = i := by omega
      exact .inr h3
  · rintro k (e | e)
    · rw [e]; exact H.at_.hq
    · exact (H.at_.row.lt k e).1
section
variable {g n : Nat} {P : Pg} {L : GLay} {w : World}
set_option maxHeartbeats 4000000 in
theorem waiting_c (H : GicAt g n P L w) {c : Nat} (hc : c < n) : Calls Tryz.prog 75 #[ptr g 0, vI c] w fun e w' => ∃ q, e = .returned (ptr q 0) ∧ ∃ v m, WQ n P c w q 64 v m w' := by
  have hc8 : (c : Int) < n := by omega
  go_enter Tryz.func75, Tryz.ntmps75
  go_upto_region 2 with fail
  generalize hw2 : World.alloc (World.alloc w _) _ = w2
  have B2 : Below w.heap.size w w2 := by rw [← hw2]; exact Rel.below_alloc2 _ _ _
  have Q2 : WQ n P c w (w.heap.size + 1) 0 (.slice (some ⟨w.heap.size, 0, none⟩) 0 0) [] w2 := by
    have h1 : w2.heap[w.heap.size]? = some (.cells #[] 106) := by rw [← hw2, (below_alloc _ _).block _ (by show _ < (w.heap.push _).size; simp)]; exact heap_alloc_new _ _
    have h2 : w2.heap[w.heap.size + 1]? = some (.cells #[.slice (some ⟨w.heap.size, 0, none⟩) 0 0] 145) := by
      have e : (w.alloc (.cells #[] 106)).heap.size = w.heap.size + 1 := by show (w.heap.push _).size = _; simp
      rw [← hw2, ← e]; exact heap_alloc_new _ _
    exact ⟨⟨h2, ⟨rfl, .inr ⟨w.heap.size, 0, #[], rfl, Nat.le_refl _, h1, Nat.le_refl _, Nat.zero_le _, rfl, rfl⟩⟩, by omega⟩, fun k s t hk hs => by simp at hs, Nat.le_refl _, fun x => ⟨fun h => by simp at h, fun ⟨k, h, _⟩ => by omega⟩, B2⟩
  clear hw2
  have H2 := H.grow B2
  generalize hm : minV (P.lim c) (runV (P.wk c)) = below
  generalize w.heap.size + 1 = q at Q2 ⊢
  have hreg : True := trivial
  refine Rel.wp_region_rel Rel.Grows (fun x => Below w2.heap.size w2 x) [.inl (ptr g 0), .inl (ptr g 0), .inl (ptr g 0), .inl (.slice (some ⟨L.cb, 0, none⟩) n n), .inl (vI c), .inl (ptr L.cb (c * 194)), .inl (ptr L.cb (c * 194)), .inl (vI (P.lim c)), .inl (ptr g 0), .inl (ptr g 0), .inl (ptr g 0), .inl (.slice (some ⟨L.cb, 0, none⟩) n n), .inl (vI c), .inl (ptr L.cb (c * 194)), .inl (vI (runV (P.wk c))), .inl (vI below), .inl (vI below)] (by kernel_rfl) (by kernel_rfl) (fun a b h1 h2 => below_then h1 (Nat.le_refl _) h2) ⟨rfl, rfl, rfl, Nat.le_refl _, fun _ _ => rfl⟩ ?_ ?_
  · intro k hk
    simp only [List.mem_cons, List.not_mem_nil, or_false] at hk
    rcases hk with rfl | rfl | rfl | rfl | rfl | rfl | rfl | rfl | rfl | rfl | rfl | rfl | rfl | rfl | rfl | rfl | rfl <;> trivial
  iterate 3 (refine ⟨fun w1 hC hF => by (go_simp <;> exact Below.refl _ _), ?_⟩; simp only [Act.put, List.setIfInBounds_toArray, List.set_cons_succ, List.set_cons_zero])
  refine ⟨fun w1 hC hF => by (have z := (H2.grow hC).c0; go_simp <;> exact Below.refl _ _), ?_⟩; simp only [Act.put, List.setIfInBounds_toArray, List.set_cons_succ, List.set_cons_zero]
  iterate 3 (refine ⟨fun w1 hC hF => by (go_simp <;> exact Below.refl _ _), ?_⟩; simp only [Act.put, List.setIfInBounds_toArray, List.set_cons_succ, List.set_cons_zero])
  refine ⟨fun w1 hC hF => by (have z := (H2.grow hC).cLim hc; go_simp <;> exact Below.refl _ _), ?_⟩; simp only [Act.put, List.setIfInBounds_toArray, List.set_cons_succ, List.set_cons_zero]
  iterate 3 (refine ⟨fun w1 hC hF => by (go_simp <;> exact Below.refl _ _), ?_⟩; simp only [Act.put, List.setIfInBounds_toArray, List.set_cons_succ, List.set_cons_zero])
  refine ⟨fun w1 hC hF => by (have z := (H2.grow hC).c0; go_simp <;> exact Below.refl _ _), ?_⟩; simp only [Act.put, List.setIfInBounds_toArray, List.set_cons_succ, List.set_cons_zero]
  iterate 2 (refine ⟨fun w1 hC hF => by (go_simp <;> exact Below.refl _ _), ?_⟩; simp only [Act.put, List.setIfInBounds_toArray, List.set_cons_succ, List.set_cons_zero])
  refine ⟨fun w1 hC hF => by
    go_simp
    refine (running_c (H2.grow hC) hc).mono ?_
    rintro e w'' ⟨rfl, hb⟩
    exact ⟨rfl, hb⟩, ?_⟩
  simp only [Act.put, List.setIfInBounds_toArray, List.set_cons_succ, List.set_cons_zero]
  refine ⟨fun w1 hC hF => by (rw [← hm]; unfold minV; go_simp <;> exact Below.refl _ _), ?_⟩; simp only [Act.put, List.setIfInBounds_toArray, List.set_cons_succ, List.set_cons_zero]
  refine ⟨fun w1 hC hF => by (go_simp <;> exact Below.refl _ _), ?_⟩; simp only [Act.put, List.setIfInBounds_toArray, List.set_cons_succ, List.set_cons_zero]
  intro w3 hC _
  replace Q2 := Q2.grow hC
  clear hC H2 B2 hreg
  generalize Value.slice (some ⟨w.heap.size, 0, none⟩) 0 0 = v0 at Q2 ⊢
  go_wp2
  go_loopw [28] (fun s28 wr => ∃ (i : Nat) (v : Value) (m : List Trn), s28 = .int .i64 i ∧ i ≤ 64 ∧ Hid (WQ n P c w q i v m wr)) (fun s28 _ => 64 - (intOf s28).toNat)
  case atStart => exact ⟨0, v0, [], rfl, Nat.zero_le _, Q2⟩
  case round =>
    obtain ⟨i, v, m, rfl, hi, hQ⟩ := hrel
    clear Q2
    by_cases hlt : (i : Int) < 64
    · have hQ' := hQ.out
      obtain ⟨s, hs⟩ : ∃ s, lookV n P c i = s := ⟨_, rfl⟩
      have H1 := H.grow hQ'.below
      have hlook := look_c H1 c i
      rw [hs] at hlook
      replace hs := show Hid _ from hs
      go_upto_region 7 with (first | (go_at_call 69; refine hlook.mono ?_; rintro e w1 ⟨rfl, hB⟩; dsimp only) | (refine wpList_stS rfl _ _ rfl w1.heap.size rfl s nilS rfl (heap_alloc_new _ _) ?_; simp only [Act.put]))
      clear hlook H1
      generalize hw4 : World.setRow _ _ _ = w4
      have B4 : Below wr.heap.size wr w4 := by rw [← hw4]; exact below_then hB (Nat.le_refl _) (below_setRow (below_alloc _ _) (Nat.le_refl _))
      have hd : w4.heap[w1.heap.size]? = some (.cells s.row.toArray 115) := by rw [← hw4]; exact setRow_heap _ _ _ _ _ _ (heap_alloc_new _ _)
      clear hw4
      generalize w1.heap.size = b at hd ⊢
      replace hQ' := hQ'.grow B4
      replace hQ := show Hid _ from hQ'
      clear hB B4 hQ'
      have z5 : w4.cell? ⟨b, 5, none⟩ = some (vI s.goes) := by rw [cell_of_row _ _ _ _ _ _ hd]; rfl
      have z4 : w4.cell? ⟨b, 4, none⟩ = some (vI s.rank) := by rw [cell_of_row _ _ _ _ _ _ hd]; rfl
      have hr : ∀ j, j < 6 → w4.cell? ⟨b, 0 + j, none⟩ = s.row[j]? := fun j hj => by rw [cell_of_row _ _ _ _ _ _ hd, Nat.zero_add]; simp
      by_cases h32 : 32 ≤ (i : Int)
      · go_upto_region 8 with fail
        cases hgo : (s.goes != (c : Int)) with
        | true =>
          have hcand : candB n P c i = (waitB s && !true && decide (s.rank < below)) := by rw [candB, hs.out, hm, show awayB c i s = true from by rw [awayB, decide_eq_true h32, hgo]; rfl]
          cases hwt : waitB s with
          | false =>
            go_wp2_with (first | (go_at_call 107; refine (waits_c s _).mono ?_; rintro e w5 ⟨rfl, hB5⟩; dsimp only; rw [show (s.e && (s.l || s.h) && !s.a) = _ from hwt]; have z4' : w5.cell? ⟨b, 4, none⟩ = some (vI s.rank) := (by rw [cell_of_row _ _ _ _ _ _ ((hB5.block _ (lt_of_some hd)).trans hd)]; rfl); replace hB5 := show Hid _ from hB5) | (refine wpList_ldS rfl _ rfl b 0 rfl s hr ?_; simp only [Act.put]))
            go_roundw
            case rel => exact ⟨i + 1, v, m, by go_num, by omega, (hQ.out.grow hB5.out).skip (by rw [hcand, hwt]; rfl)⟩
            case measure => simp [intOf]; omega
          | true =>
            go_wp2_with (first | (go_at_call 107; refine (waits_c s _).mono ?_; rintro e w5 ⟨rfl, hB5⟩; dsimp only; rw [show (s.e && (s.l || s.h) && !s.a) = _ from hwt]; have z4' : w5.cell? ⟨b, 4, none⟩ = some (vI s.rank) := (by rw [cell_of_row _ _ _ _ _ _ ((hB5.block _ (lt_of_some hd)).trans hd)]; rfl); replace hB5 := show Hid _ from hB5) | (refine wpList_ldS rfl _ rfl b 0 rfl s hr ?_; simp only [Act.put]))
            go_roundw
            case rel => exact ⟨i + 1, v, m, by go_num, by omega, (hQ.out.grow hB5.out).skip (by rw [hcand, hwt]; rfl)⟩
            case measure => simp [intOf]; omega
        | false =>
          have hcand : candB n P c i = (waitB s && !false && decide (s.rank < below)) := by rw [candB, hs.out, hm, show awayB c i s = false from by rw [awayB, decide_eq_true h32, hgo]; rfl]
          cases hwt : waitB s with
          | false =>
            go_wp2_with (first | (go_at_call 107; refine (waits_c s _).mono ?_; rintro e w5 ⟨rfl, hB5⟩; dsimp only; rw [show (s.e && (s.l || s.h) && !s.a) = _ from hwt]; have z4' : w5.cell? ⟨b, 4, none⟩ = some (vI s.rank) := (by rw [cell_of_row _ _ _ _ _ _ ((hB5.block _ (lt_of_some hd)).trans hd)]; rfl); replace hB5 := show Hid _ from hB5) | (refine wpList_ldS rfl _ rfl b 0 rfl s hr ?_; simp only [Act.put]))
            go_roundw
            case rel => exact ⟨i + 1, v, m, by go_num, by omega, (hQ.out.grow hB5.out).skip (by rw [hcand, hwt]; rfl)⟩
            case measure => simp [intOf]; omega
          | true =>
            by_cases hrk : s.rank < below
            · go_upto_region 9 with (first | (go_at_call 107; refine (waits_c s _).mono ?_; rintro e w5 ⟨rfl, hB5⟩; dsimp only; rw [show (s.e && (s.l || s.h) && !s.a) = _ from hwt]; have z4' : w5.cell? ⟨b, 4, none⟩ = some (vI s.rank) := (by rw [cell_of_row _ _ _ _ _ _ ((hB5.block _ (lt_of_some hd)).trans hd)]; rfl); replace hB5 := show Hid _ from hB5) | (refine wpList_ldS rfl _ rfl b 0 rfl s hr ?_; simp only [Act.put]))
              have hQ5 := hQ.out.grow hB5.out
              have hp := push_c hQ5.at_ hQ5.heap ⟨s.rank, i⟩ (by have := hQ5.len; omega) hQ5.below.size
              go_wp2_with (first | (go_at_call 108; refine hp.mono ?_; rintro e w6 ⟨rfl, u, m6, H6, h6, l6, M6, G6⟩; dsimp only))
              go_roundw
              case rel =>
                have e1 := hs.out
                exact ⟨i + 1, u, m6, by go_num, by omega, hQ5.put (by rw [hcand, hwt, decide_eq_true hrk]; rfl) H6 h6 l6 (by rw [e1]; exact M6) G6⟩
              case measure => simp [intOf]; omega
            · have hrk' : decide (s.rank < below) = false := decide_eq_false hrk
              go_wp2_with (first | (go_at_call 107; refine (waits_c s _).mono ?_; rintro e w5 ⟨rfl, hB5⟩; dsimp only; rw [show (s.e && (s.l || s.h) && !s.a) = _ from hwt]; have z4' : w5.cell? ⟨b, 4, none⟩ = some (vI s.rank) := (by rw [cell_of_row _ _ _ _ _ _ ((hB5.block _ (lt_of_some hd)).trans hd)]; rfl); replace hB5 := show Hid _ from hB5) | (refine wpList_ldS rfl _ rfl b 0 rfl s hr ?_; simp only [Act.put]))
              go_roundw
              case rel => exact ⟨i + 1, v, m, by go_num, by omega, (hQ.out.grow hB5.out).skip (by rw [hcand, hwt]; rw [hrk']; rfl)⟩
              case measure => simp [intOf]; omega
      · go_upto_region 8 with fail
        have hcand : candB n P c i = (waitB s && !false && decide (s.rank < below)) := by rw [candB, hs.out, hm, show awayB c i s = false from by rw [awayB, decide_eq_false h32]; rfl]
        cases hwt : waitB s with
        | false =>
          go_wp2_with (first | (go_at_call 107; refine (waits_c s _).mono ?_; rintro e w5 ⟨rfl, hB5⟩; dsimp only; rw [show (s.e && (s.l || s.h) && !s.a) = _ from hwt]; have z4' : w5.cell? ⟨b, 4, none⟩ = some (vI s.rank) := (by rw [cell_of_row _ _ _ _ _ _ ((hB5.block _ (lt_of_some hd)).trans hd)]; rfl); replace hB5 := show Hid _ from hB5) | (refine wpList_ldS rfl _ rfl b 0 rfl s hr ?_; simp only [Act.put]))
          go_roundw
          case rel => exact ⟨i + 1, v, m, by go_num, by omega, (hQ.out.grow hB5.out).skip (by rw [hcand, hwt]; rfl)⟩
          case measure => simp [intOf]; omega
        | true =>
          by_cases hrk : s.rank < below
          · go_upto_region 9 with (first | (go_at_call 107; refine (waits_c s _).mono ?_; rintro e w5 ⟨rfl, hB5⟩; dsimp only; rw [show (s.e && (s.l || s.h) && !s.a) = _ from hwt]; have z4' : w5.cell? ⟨b, 4, none⟩ = some (vI s.rank) := (by rw [cell_of_row _ _ _ _ _ _ ((hB5.block _ (lt_of_some hd)).trans hd)]; rfl); replace hB5 := show Hid _ from hB5) | (refine wpList_ldS rfl _ rfl b 0 rfl s hr ?_; simp only [Act.put]))
            have hQ5 := hQ.out.grow hB5.out
            have hp := push_c hQ5.at_ hQ5.heap ⟨s.rank, i⟩ (by have := hQ5.len; omega) hQ5.below.size
            go_wp2_with (first | (go_at_call 108; refine hp.mono ?_; rintro e w6 ⟨rfl, u, m6, H6, h6, l6, M6, G6⟩; dsimp only))
            go_roundw
            case rel =>
              have e1 := hs.out
              exact ⟨i + 1, u, m6, by go_num, by omega, hQ5.put (by rw [hcand, hwt, decide_eq_true hrk]; rfl) H6 h6 l6 (by rw [e1]; exact M6) G6⟩
            case measure => simp [intOf]; omega
          · have hrk' : decide (s.rank < below) = false := decide_eq_false hrk
            go_wp2_with (first | (go_at_call 107; refine (waits_c s _).mono ?_; rintro e w5 ⟨rfl, hB5⟩; dsimp only; rw [show (s.e && (s.l || s.h) && !s.a) = _ from hwt]; have z4' : w5.cell? ⟨b, 4, none⟩ = some (vI s.rank) := (by rw [cell_of_row _ _ _ _ _ _ ((hB5.block _ (lt_of_some hd)).trans hd)]; rfl); replace hB5 := show Hid _ from hB5) | (refine wpList_ldS rfl _ rfl b 0 rfl s hr ?_; simp only [Act.put]))
            go_roundw
            case rel => exact ⟨i + 1, v, m, by go_num, by omega, (hQ.out.grow hB5.out).skip (by rw [hcand, hwt]; rw [hrk']; rfl)⟩
            case measure => simp [intOf]; omega
    · obtain rfl : i = 64 := by omega
      go_wp2
      go_ret
      exact ⟨q, rfl, v, m, hQ.out⟩
end
end Go.Proofs.YteklkololojamaaGreat
