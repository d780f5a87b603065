/- Events in memory; what is asked of one. -/
import Derived.Test.YtnedkielehmneaaGreatDoorRl
import Derived.Test.YtnedkielehmneaaGreatDoorPb
namespace Go.Proofs.YtnedkielehmneaaGreatDoor
open Go.RowKit
set_option linter.unusedVariables false
set_option linter.unusedSimpArgs false
set_option maxRecDepth 8000

open Axm
/-- A slice of numbers. -/
structure RawI (w0 : World) (v : Value) (zs : List Int) : Prop where
  len : ∃ ao cap, v = .slice ao zs.length cap
  max : zs.length ≤ maxLen
  cell : 0 < zs.length → ∃ (ra : Addr) (cap : Nat), v = .slice (some ra) zs.length cap ∧ ∀ i x, zs[i]? = some x → (ra.add i).block < w0.heap.size ∧ w0.cell? (ra.add i) = some (vI x)
theorem RawI.grow {w w' : World} {v : Value} {zs : List Int} (h : RawI w v zs) (hb : Below w.heap.size w w') : RawI w' v zs :=
  ⟨h.len, h.max, fun h0 => by
    obtain ⟨ra, cap, e, hc⟩ := h.cell h0
    exact ⟨ra, cap, e, fun i x hx => ⟨Nat.lt_of_lt_of_le (hc i x hx).1 hb.size, by rw [hb.cell (hc i x hx).1]; exact (hc i x hx).2⟩⟩⟩
theorem RawI.nil (w : World) : RawI w (.slice none 0 0) [] := ⟨⟨none, 0, rfl⟩, Nat.zero_le _, fun h => by simp at h⟩
/-- An event in memory. -/
structure EvAt (w : World) (p : Addr) (e : Ev) (s0 s1 s2 : Value) : Prop where
  lt : p.block < w.heap.size
  c0 : w.cell? p = some (vI e.core)
  c1 : w.cell? ⟨p.block, p.off + 1, none⟩ = some (vI e.po)
  c2 : w.cell? ⟨p.block, p.off + 2, none⟩ = some (vI e.kind)
  c3 : w.cell? ⟨p.block, p.off + 3, none⟩ = some (vU e.addr)
  c4 : w.cell? ⟨p.block, p.off + 4, none⟩ = some (vU e.value)
  c5 : w.cell? ⟨p.block, p.off + 5, none⟩ = some (vI e.acq)
  c6 : w.cell? ⟨p.block, p.off + 6, none⟩ = some (.bool e.rel)
  c7 : w.cell? ⟨p.block, p.off + 7, none⟩ = some (.bool e.ex)
  c8 : w.cell? ⟨p.block, p.off + 8, none⟩ = some (vI e.fence)
  c9 : w.cell? ⟨p.block, p.off + 9, none⟩ = some (vI e.stamp)
  c10 : w.cell? ⟨p.block, p.off + 10, none⟩ = some s0
  c11 : w.cell? ⟨p.block, p.off + 11, none⟩ = some s1
  c12 : w.cell? ⟨p.block, p.off + 12, none⟩ = some s2
  r0 : RawI w s0 e.adr
  r1 : RawI w s1 e.dat
  r2 : RawI w s2 e.ctl
theorem EvAt.grow {w w' : World} {p : Addr} {e : Ev} {s0 s1 s2 : Value} (h : EvAt w p e s0 s1 s2) (hb : Below w.heap.size w w') : EvAt w' p e s0 s1 s2 :=
  ⟨Nat.lt_of_lt_of_le h.lt hb.size, by rw [hb.cell h.lt]; exact h.c0, by rw [hb.cell (p := ⟨p.block, p.off + 1, none⟩) h.lt]; exact h.c1, by rw [hb.cell (p := ⟨p.block, p.off + 2, none⟩) h.lt]; exact h.c2, by rw [hb.cell (p := ⟨p.block, p.off + 3, none⟩) h.lt]; exact h.c3, by rw [hb.cell (p := ⟨p.block, p.off + 4, none⟩) h.lt]; exact h.c4, by rw [hb.cell (p := ⟨p.block, p.off + 5, none⟩) h.lt]; exact h.c5, by rw [hb.cell (p := ⟨p.block, p.off + 6, none⟩) h.lt]; exact h.c6, by rw [hb.cell (p := ⟨p.block, p.off + 7, none⟩) h.lt]; exact h.c7, by rw [hb.cell (p := ⟨p.block, p.off + 8, none⟩) h.lt]; exact h.c8, by rw [hb.cell (p := ⟨p.block, p.off + 9, none⟩) h.lt]; exact h.c9, by rw [hb.cell (p := ⟨p.block, p.off + 10, none⟩) h.lt]; exact h.c10, by rw [hb.cell (p := ⟨p.block, p.off + 11, none⟩) h.lt]; exact h.c11, by rw [hb.cell (p := ⟨p.block, p.off + 12, none⟩) h.lt]; exact h.c12, h.r0.grow hb, h.r1.grow hb, h.r2.grow hb⟩
/-- A slice of events: their places, and where their own lists lie. -/
structure Evs (w : World) (v : Value) (n : Nat) (x : Nat → Ev) : Prop where
  len : ∃ ao cap, v = .slice ao n cap
  max : n ≤ maxLen
  cell : 0 < n → ∃ (ra : Addr) (cap : Nat), v = .slice (some ra) n cap ∧ ∀ i, i < n → ∃ s0 s1 s2, EvAt w (ra.add (i * 13)) (x i) s0 s1 s2
theorem Evs.grow {w w' : World} {v : Value} {n : Nat} {x : Nat → Ev} (h : Evs w v n x) (hb : Below w.heap.size w w') : Evs w' v n x :=
  ⟨h.len, h.max, fun h0 => by
    obtain ⟨ra, cap, e, hc⟩ := h.cell h0
    exact ⟨ra, cap, e, fun i hi => by obtain ⟨s0, s1, s2, hh⟩ := hc i hi; exact ⟨s0, s1, s2, hh.grow hb⟩⟩⟩
theorem rd_c {w : World} {v : Value} {n : Nat} {x : Nat → Ev} (E : Evs w v n x) {a : Nat} (ha : a < n) : Calls Tryz.prog 70 #[v, vI a] w fun e w' => e = .returned (.bool (rd x a)) ∧ w' = w := by
  obtain ⟨ra, cap, rfl, hc⟩ := E.cell (by omega)
  obtain ⟨s0, s1, s2, A⟩ := hc a ha
  have c2 := A.c2
  have hai : (a : Int) < n := by omega
  clear hc A E
  unfold rd
  go_enter Tryz.func70, Tryz.ntmps70
  go_wp2
  go_ret
  exact ⟨rfl, rfl⟩
theorem wt_c {w : World} {v : Value} {n : Nat} {x : Nat → Ev} (E : Evs w v n x) {a : Nat} (ha : a < n) : Calls Tryz.prog 68 #[v, vI a] w fun e w' => e = .returned (.bool (wt x a)) ∧ w' = w := by
  obtain ⟨ra, cap, rfl, hc⟩ := E.cell (by omega)
  obtain ⟨s0, s1, s2, A⟩ := hc a ha
  have c2 := A.c2
  have hai : (a : Int) < n := by omega
  clear hc A E
  unfold wt
  go_enter Tryz.func68, Tryz.ntmps68
  go_wp2
  go_ret
  exact ⟨rfl, rfl⟩
theorem ib_c {w : World} {v : Value} {n : Nat} {x : Nat → Ev} (E : Evs w v n x) {a : Nat} (ha : a < n) : Calls Tryz.prog 116 #[v, vI a] w fun e w' => e = .returned (.bool (ib x a)) ∧ w' = w := by
  obtain ⟨ra, cap, rfl, hc⟩ := E.cell (by omega)
  obtain ⟨s0, s1, s2, A⟩ := hc a ha
  have c2 := A.c2
  have hai : (a : Int) < n := by omega
  clear hc A E
  unfold ib
  go_enter Tryz.func116, Tryz.ntmps116
  go_wp2
  go_ret
  exact ⟨rfl, rfl⟩
theorem exc_c {w : World} {v : Value} {n : Nat} {x : Nat → Ev} (E : Evs w v n x) {a : Nat} (ha : a < n) : Calls Tryz.prog 102 #[v, vI a] w fun e w' => e = .returned (.bool (exc x a)) ∧ w' = w := by
  obtain ⟨ra, cap, rfl, hc⟩ := E.cell (by omega)
  obtain ⟨s0, s1, s2, A⟩ := hc a ha
  have c7 := A.c7
  have hai : (a : Int) < n := by omega
  clear hc A E
  unfold exc
  go_enter Tryz.func102, Tryz.ntmps102
  go_wp2
  go_ret
  exact ⟨rfl, rfl⟩
theorem full_c {w : World} {v : Value} {n : Nat} {x : Nat → Ev} (E : Evs w v n x) {a : Nat} (ha : a < n) : Calls Tryz.prog 120 #[v, vI a] w fun e w' => e = .returned (.bool (full x a)) ∧ w' = w := by
  obtain ⟨ra, cap, rfl, hc⟩ := E.cell (by omega)
  obtain ⟨s0, s1, s2, A⟩ := hc a ha
  have c8 := A.c8
  have hai : (a : Int) < n := by omega
  clear hc A E
  unfold full
  go_enter Tryz.func120, Tryz.ntmps120
  go_wp2
  go_ret
  exact ⟨rfl, rfl⟩
theorem acqs_c {w : World} {v : Value} {n : Nat} {x : Nat → Ev} (E : Evs w v n x) {a : Nat} (ha : a < n) : Calls Tryz.prog 121 #[v, vI a] w fun e w' => e = .returned (.bool (acqs x a)) ∧ w' = w := by
  have k1 := rd_c E ha
  obtain ⟨ra, cap, rfl, hc⟩ := E.cell (by omega)
  obtain ⟨s0, s1, s2, A⟩ := hc a ha
  have c5 := A.c5
  have hai : (a : Int) < n := by omega
  clear hc A E
  unfold acqs
  cases h1 : rd x a with
  | false =>
    rw [h1] at k1
    go_enter Tryz.func121, Tryz.ntmps121
    go_wp2_with (first | (go_at_call 70; with_reducible refine k1.mono ?_; clear k1; rintro e w ⟨rfl, rfl⟩; dsimp only))
    go_ret
    exact ⟨rfl, rfl⟩
  | true =>
    rw [h1] at k1
    go_enter Tryz.func121, Tryz.ntmps121
    go_wp2_with (first | (go_at_call 70; with_reducible refine k1.mono ?_; clear k1; rintro e w ⟨rfl, rfl⟩; dsimp only))
    go_ret
    exact ⟨rfl, rfl⟩
theorem takes_c {w : World} {v : Value} {n : Nat} {x : Nat → Ev} (E : Evs w v n x) {a : Nat} (ha : a < n) : Calls Tryz.prog 118 #[v, vI a] w fun e w' => e = .returned (.bool (takes x a)) ∧ w' = w := by
  have k1 := rd_c E ha
  obtain ⟨ra, cap, rfl, hc⟩ := E.cell (by omega)
  obtain ⟨s0, s1, s2, A⟩ := hc a ha
  have c5 := A.c5
  have hai : (a : Int) < n := by omega
  clear hc A E
  unfold takes
  cases h1 : rd x a with
  | false =>
    rw [h1] at k1
    go_enter Tryz.func118, Tryz.ntmps118
    go_wp2_with (first | (go_at_call 70; with_reducible refine k1.mono ?_; clear k1; rintro e w ⟨rfl, rfl⟩; dsimp only))
    go_ret
    exact ⟨rfl, rfl⟩
  | true =>
    rw [h1] at k1
    go_enter Tryz.func118, Tryz.ntmps118
    go_wp2_with (first | (go_at_call 70; with_reducible refine k1.mono ?_; clear k1; rintro e w ⟨rfl, rfl⟩; dsimp only))
    go_ret
    exact ⟨rfl, rfl⟩
theorem rels_c {w : World} {v : Value} {n : Nat} {x : Nat → Ev} (E : Evs w v n x) {a : Nat} (ha : a < n) : Calls Tryz.prog 119 #[v, vI a] w fun e w' => e = .returned (.bool (rels x a)) ∧ w' = w := by
  have k1 := wt_c E ha
  obtain ⟨ra, cap, rfl, hc⟩ := E.cell (by omega)
  obtain ⟨s0, s1, s2, A⟩ := hc a ha
  have c6 := A.c6
  have hai : (a : Int) < n := by omega
  clear hc A E
  unfold rels
  cases h1 : wt x a with
  | false =>
    rw [h1] at k1
    go_enter Tryz.func119, Tryz.ntmps119
    go_wp2_with (first | (go_at_call 68; with_reducible refine k1.mono ?_; clear k1; rintro e w ⟨rfl, rfl⟩; dsimp only))
    go_ret
    exact ⟨rfl, rfl⟩
  | true =>
    rw [h1] at k1
    go_enter Tryz.func119, Tryz.ntmps119
    go_wp2_with (first | (go_at_call 68; with_reducible refine k1.mono ?_; clear k1; rintro e w ⟨rfl, rfl⟩; dsimp only))
    go_ret
    exact ⟨rfl, rfl⟩
theorem ld_c {w : World} {v : Value} {n : Nat} {x : Nat → Ev} (E : Evs w v n x) {a : Nat} (ha : a < n) : Calls Tryz.prog 122 #[v, vI a] w fun e w' => e = .returned (.bool (ld x a)) ∧ w' = w := by
  have k1 := full_c E ha
  obtain ⟨ra, cap, rfl, hc⟩ := E.cell (by omega)
  obtain ⟨s0, s1, s2, A⟩ := hc a ha
  have c8 := A.c8
  have hai : (a : Int) < n := by omega
  clear hc A E
  unfold ld
  by_cases h1 : (x a).fence = 13
  · rw [decide_eq_true h1]
    clear k1
    go_enter Tryz.func122, Tryz.ntmps122
    go_wp2
    go_ret
    exact ⟨rfl, rfl⟩
  ·
    go_enter Tryz.func122, Tryz.ntmps122
    go_wp2_with (first | (go_at_call 120; with_reducible refine k1.mono ?_; clear k1; rintro e w ⟨rfl, rfl⟩; dsimp only))
    go_ret
    exact ⟨rfl, rfl⟩
theorem st_c {w : World} {v : Value} {n : Nat} {x : Nat → Ev} (E : Evs w v n x) {a : Nat} (ha : a < n) : Calls Tryz.prog 123 #[v, vI a] w fun e w' => e = .returned (.bool (st x a)) ∧ w' = w := by
  have k1 := full_c E ha
  obtain ⟨ra, cap, rfl, hc⟩ := E.cell (by omega)
  obtain ⟨s0, s1, s2, A⟩ := hc a ha
  have c8 := A.c8
  have hai : (a : Int) < n := by omega
  clear hc A E
  unfold st
  by_cases h1 : (x a).fence = 10
  · rw [decide_eq_true h1]
    clear k1
    go_enter Tryz.func123, Tryz.ntmps123
    go_wp2
    go_ret
    exact ⟨rfl, rfl⟩
  ·
    go_enter Tryz.func123, Tryz.ntmps123
    go_wp2_with (first | (go_at_call 120; with_reducible refine k1.mono ?_; clear k1; rintro e w ⟨rfl, rfl⟩; dsimp only))
    go_ret
    exact ⟨rfl, rfl⟩
theorem touch_c {w : World} {v : Value} {n : Nat} {x : Nat → Ev} (E : Evs w v n x) {a : Nat} (ha : a < n) : Calls Tryz.prog 136 #[v, vI a] w fun e w' => e = .returned (.bool (touch x a)) ∧ w' = w := by
  have k1 := rd_c E ha
  have k2 := wt_c E ha
  obtain ⟨ra, cap, rfl, hc⟩ := E.cell (by omega)
  obtain ⟨s0, s1, s2, A⟩ := hc a ha
  have hai : (a : Int) < n := by omega
  clear hc A E
  unfold touch
  cases h1 : rd x a with
  | true =>
    rw [h1] at k1
    clear k2
    go_enter Tryz.func136, Tryz.ntmps136
    go_wp2_with (first | (go_at_call 70; with_reducible refine k1.mono ?_; clear k1; rintro e w ⟨rfl, rfl⟩; dsimp only))
    go_ret
    exact ⟨rfl, rfl⟩
  | false =>
    rw [h1] at k1
    go_enter Tryz.func136, Tryz.ntmps136
    go_wp2_with (first | (go_at_call 70; with_reducible refine k1.mono ?_; clear k1; rintro e w ⟨rfl, rfl⟩; dsimp only) | (go_at_call 68; with_reducible refine k2.mono ?_; clear k2; rintro e w ⟨rfl, rfl⟩; dsimp only))
    go_ret
    exact ⟨rfl, rfl⟩
end Go.Proofs.YtnedkielehmneaaGreatDoor
