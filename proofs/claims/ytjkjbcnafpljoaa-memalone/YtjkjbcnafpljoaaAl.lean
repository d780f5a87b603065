/- MemAlone's walk. -/
import Derived.Test.YtjkjbcnafpljoaaLx
import Derived.Test.YtjkjbcnafpljoaaSc
namespace Go.Proofs.Ytjkjbcnafpljoaa
open Go.RowKit
set_option linter.unusedVariables false
set_option linter.unusedSimpArgs false

def wasV (S : Sta) : Array Value := #[vU (alone S 0), vU (alone S 1), vU (alone S 2), vU (alone S 3), vU (alone S 4), vU (alone S 5)]
theorem was_at (S : Sta) {m : Nat} (hm : m < 6) : (wasV S)[m]? = some (vU (alone S m)) := by
  rcases (by omega : m = 0 ∨ m = 1 ∨ m = 2 ∨ m = 3 ∨ m = 4 ∨ m = 5) with rfl | rfl | rfl | rfl | rfl | rfl <;> rfl
theorem was_same {S T : Sta} (h : ∀ k, k < 6 → alone T k = alone S k) : wasV T = wasV S := by
  simp only [wasV, h 0 (by decide), h 1 (by decide), h 2 (by decide), h 3 (by decide), h 4 (by decide), h 5 (by decide)]
theorem was_set {S T : Sta} {m : Nat} {v : Int} (hm : m < 6) (h : ∀ k, k < 6 → alone T k = if k = m then v else alone S k) : (wasV S).setIfInBounds m (vU v) = wasV T := by
  simp only [wasV, h 0 (by decide), h 1 (by decide), h 2 (by decide), h 3 (by decide), h 4 (by decide), h 5 (by decide)]
  rcases (by omega : m = 0 ∨ m = 1 ∨ m = 2 ∨ m = 3 ∨ m = 4 ∨ m = 5) with rfl | rfl | rfl | rfl | rfl | rfl <;> rfl
structure AL (x1 : World) (g wb : Nat) (S : Sta) (K : Nat → Prop) (w : World) : Prop where
  one : One S
  mem : LX x1 g S K w
  box : w.heap[wb]? = some (.cells (wasV S) 68)
  nb : x1.heap.size ≤ wb
theorem AL.cell {x1 w : World} {g wb : Nat} {S : Sta} {K : Nat → Prop} (h : AL x1 g wb S K w) {m : Nat} (hm : m < 6) : w.cell? ⟨wb, m, none⟩ = some (vU (alone S m)) ∧ w.frozen? ⟨wb, m, none⟩ = false := by
  rw [cell_of_row _ _ _ _ _ _ h.box, was_at S hm]
  exact ⟨rfl, frozen_of_row _ _ _ _ _ h.box⟩
theorem AL.put {x1 w : World} {g wb : Nat} {S T : Sta} {K : Nat → Prop} (hb : w.heap[wb]? = some (.cells (wasV S) 68)) (nb : x1.heap.size ≤ wb) (hk : K wb) (hT : One T) (hx : LX x1 g T K w) {m : Nat} {v : Int} (hm : m < 6) (h : ∀ k, k < 6 → alone T k = if k = m then v else alone S k) : AL x1 g wb T K (w.setCell ⟨wb, m, none⟩ (vU v)) :=
  ⟨hT, hx.put hk nb m _, by rw [setCell_eq_setRow _ _ _ _ _ _ _ hb, was_set hm h]; exact setRow_heap _ _ _ _ _ _ hb, nb⟩
structure Rnd (y : World) (ob : Nat) (s : St4) : Prop where
  box : y.heap[ob]? = some (.cells #[vI s.k, vI s.c, vU s.a, vU s.v] 43)
theorem Rnd.cells {y : World} {ob : Nat} {s : St4} (h : Rnd y ob s) : y.cell? ⟨ob, 0, none⟩ = some (vI s.k) ∧ y.cell? ⟨ob, 2, none⟩ = some (vU s.a) ∧ y.cell? ⟨ob, 3, none⟩ = some (vU s.v) := by
  rw [cell_of_row _ _ _ _ _ _ h.box, cell_of_row _ _ _ _ _ _ h.box, cell_of_row _ _ _ _ _ _ h.box]
  exact ⟨rfl, rfl, rfl⟩
theorem flush_stamps (S : Sta) (c : Int) : (flushS S c).stamps.length = S.stamps.length := (dr_len S c _).2.1
theorem put_stamps {S : Sta} (h : One S) {m : Nat} (hm : m < 6) (v : Int) : (putS S 0 (8 * m) v).stamps.length ≤ S.stamps.length + 1 := by
  have hf := flush_stamps S 0
  rw [putS, h.okb hm, if_pos rfl]
  simp only [reachS, List.length_set, List.length_append, List.length_singleton, hf]
  omega
def kb (wb ob : Nat) (b : Nat) : Prop := b = wb ∨ b = ob
set_option maxRecDepth 8000 in
set_option maxHeartbeats 8000000 in
theorem memAlone_walk (depth : Int) (v : Value) (ss : List St4) (w : World) (hdep : I64 depth) (R : Scr w v ss) : Calls Try.prog 8 #[vI depth, v] w fun e w' => e = .returned (.bool true) ∧ Below w.heap.size w w' := by
  obtain ⟨p0, p1⟩ := pick_in depth (n := 8) (by decide)
  generalize hc : pickV depth 8 = d at p0 p1
  have hB : newB ((6 : Nat) : Int) ((1 : Nat) : Int) (1 + d) = true := by simp only [newB, Bool.and_eq_true, decide_eq_true_eq]; omega
  have hOne : One (newS 6 1 (1 + d)) := ⟨new_ok hB, rfl, rfl⟩
  have w1 : IntKind.i64.wrap (1 + d) = 1 + d := by rw [IntKind.wrap_i64]; omega
  obtain ⟨ao, cap, ev⟩ := R.len
  have hmx := R.max
  simp only [maxLen] at hmx
  replace hc := show Hid _ from hc
  go_enter Try.func8, Try.ntmps8
  go_upto_region 5 with (first | (go_at_call 9; refine (known_c _).mono ?_; rintro e x1 ⟨rfl, hb1⟩; dsimp only) | (go_at_call 18; refine (pick_c depth 8 _ hdep (by decide) (by decide)).mono ?_; rintro e x' ⟨rfl, rfl⟩; dsimp only; rw [hc.out]) | (go_at_call 10; refine (new_l 6 1 (1 + d) _ hB).mono ?_; rintro e x2 ⟨g, rfl, H⟩; dsimp only))
  go_wp2
  have hst : AL x' g x2.heap.size (newS 6 1 (1 + d)) (fun b => b = x2.heap.size) (x2.alloc (.cells #[vU 0, vU 0, vU 0, vU 0, vU 0, vU 0] 68)) :=
    ⟨hOne, ((lx_of H).new _).less (fun b hb => .inr hb), heap_alloc_new _ _, H.below.size⟩
  have hS0 : (newS 6 1 (1 + d)).stamps.length = 0 := rfl
  generalize newS 6 1 (1 + d) = S0 at hst hS0
  generalize x2.heap.size = wb at hst ⊢
  generalize h3 : World.alloc x2 _ = x3
  replace hst : AL x' g wb S0 (fun b => b = wb) x3 := by rw [← h3]; exact hst
  clear h3 H hOne hB w1
  have R' := R.grow hb1
  clear R
  go_loopw [9] (fun s9 wr => ∃ i : Nat, i ≤ ss.length ∧ i ≤ 200 ∧ s9 = .int .i64 i ∧ Hid (∃ S, S.stamps.length ≤ i ∧ AL x' g wb S (fun b => b = wb) wr)) (fun s9 _ => 200 - (intOf s9).toNat)
  case atStart => exact ⟨0, Nat.zero_le _, Nat.zero_le _, rfl, S0, by omega, hst⟩
  case round =>
    obtain ⟨i, hi1, hi2, rfl, hH⟩ := hrel
    obtain ⟨S, hSi, A⟩ := hH.out
    clear hH hst hS0
    by_cases hlt : (i : Int) < ss.length
    · by_cases h200 : (i : Int) < 200
      · obtain ⟨ra, rc, e2, hrc⟩ := R'.cell (by omega)
        have hx : ss[i]? = some ss[i] := List.getElem?_eq_getElem (by omega)
        have hwf := R'.wf ss[i] (List.getElem_mem (by omega))
        have hcl := hrc i _ hx
        generalize ss[i] = s at hx hwf hcl
        clear hx hrc
        have hrow : ∀ (j : Nat) x, s.row[j]? = some x → wr.cell? ((ra.add (i * 4)).add j) = some x := fun j x hx => by
          obtain ⟨h1, h2⟩ := hcl j x hx
          rw [A.mem.below.cell h1]; exact h2
        clear hcl
        subst e2
        have hi0 : (0 : Int) ≤ i := by omega
        obtain ⟨m, hm⟩ : ∃ m : Nat, s.a % 6 = m := ⟨(s.a % 6).toNat, by omega⟩
        have hm6 : m < 6 := by omega
        have hmi : (m : Int) < 6 := by omega
        have hm0 : (0 : Int) ≤ m := by omega
        have ht : s.a.tmod 6 = m := by rw [Int.tmod_eq_emod_of_nonneg hwf.a.1, hm]
        have wm1 : IntKind.u64.wrap (m : Int) = m := by rw [IntKind.wrap_u64]; omega
        have wm2 : IntKind.i64.wrap (m : Int) = m := by rw [IntKind.wrap_i64]; omega
        have wm3 : IntKind.i64.wrap (8 * (m : Int)) = 8 * (m : Int) := by rw [IntKind.wrap_i64]; omega
        have wm4 : IntKind.u64.wrap (8 * (m : Int)) = 8 * (m : Int) := by rw [IntKind.wrap_u64]; omega
        have hA : U64 (8 * (m : Int)) := ⟨by omega, by omega⟩
        replace hm := show Hid _ from hm
        go_upto_region 10 with ((with_reducible refine wpList_load43 rfl _ rfl _ rfl s hrow ?_); simp only [Act.put, List.setIfInBounds_toArray, List.set_cons_succ, List.set_cons_zero])
        have nb := A.nb
        have hob : wr.heap.size ≠ wb := by have := lt_of_some A.box; omega
        have M1 : LX x' g S (kb wb wr.heap.size) (wr.alloc (.cells #[vI s.k, vI s.c, vU s.a, vU s.v] 43)) := (A.mem.new _).less fun b hb => hb
        have hbx : (wr.alloc (.cells #[vI s.k, vI s.c, vU s.a, vU s.v] 43)).heap[wb]? = some (.cells (wasV S) 68) := by rw [Below.heap_alloc _ _ _ (lt_of_some A.box)]; exact A.box
        have hr : Rnd (wr.alloc (.cells #[vI s.k, vI s.c, vU s.a, vU s.v] 43)) wr.heap.size s := ⟨heap_alloc_new _ _⟩
        generalize wr.heap.size = ob at M1 hr hob ⊢
        generalize h4 : World.alloc wr _ = y1
        have h5 : wr.alloc (.cells #[vI s.k, vI s.c, vU s.a, vU s.v] 43) = y1 := h4
        rw [h5] at M1 hbx hr
        clear h4 h5 hrow
        obtain ⟨c0, c2, c3⟩ := hr.cells
        have hsS : S.stamps.length < 1000000 := by omega
        by_cases k2 : s.k = 2
        · rw [k2] at c0
          obtain ⟨hT, hcase⟩ := store_alone A.one hm6 s.v
          have hz := (store_szs S 0 (8 * m) s.v).2
          rcases hcase with ⟨he, hal2⟩ | ⟨he, hsame⟩
          · go_upto_region 15 with (go_at_call 27; refine (store_x M1 A.one.ok 0 (8 * m) s.v hA hsS).mono ?_; rintro e y2 ⟨rfl, M2, K2⟩; dsimp only; rw [he])
            have hb2 : y2.heap[wb]? = some (.cells (wasV S) 68) := (K2 wb (.inl rfl)).trans hbx
            have hr2 : Rnd y2 ob s := ⟨(K2 ob (.inr rfl)).trans hr.box⟩
            clear c0 c2 c3
            obtain ⟨c0, c2, c3⟩ := hr2.cells
            have zo : y2.cell? ⟨wb, m, none⟩ = some (vU (alone S m)) := by rw [cell_of_row _ _ _ _ _ _ hb2, was_at S hm6]
            have zf := frozen_of_row y2 wb m _ _ hb2
            have AP := AL.put hb2 nb (.inl rfl) hT M2 hm6 hal2
            generalize hTT : storeS S 0 (8 * m) s.v = T at *
            go_upto_region 26 with fail
            generalize World.setCell y2 _ _ = y3 at AP ⊢
            have M3 := AP.mem
            have hb3 := AP.box
            clear c0 c2 c3 zo zf
            go_wp2_with (go_at_call 12; refine (load_x M3 hT.ok 0 (8 * m) hA).mono ?_; rintro e z3 ⟨rfl, M4, K4⟩; dsimp only; rw [hT.okb hm6, show argE true = 0 from rfl]; have hb4 : z3.heap[wb]? = some (.cells (wasV T) 68) := (K4 wb (.inl rfl)).trans hb3; have zc : z3.cell? ⟨wb, m, none⟩ = some (vU (alone T m)) := (by rw [cell_of_row _ _ _ _ _ _ hb4, was_at T hm6]); have hal : (loadP T 0 (8 * (m : Int))).1 = alone T m := rfl; rw [hal])
            go_roundw
            case rel => exact ⟨i + 1, by omega, by omega, by go_num, T, by omega, hT, M4.less (fun b hb => .inl hb), hb4, A.nb⟩
            case measure => simp [intOf]; omega
          · go_upto_region 15 with (go_at_call 27; refine (store_x M1 A.one.ok 0 (8 * m) s.v hA hsS).mono ?_; rintro e y2 ⟨rfl, M3, K2⟩; dsimp only)
            rw [hsame] at M3 hT hz
            have hb3 : y2.heap[wb]? = some (.cells (wasV S) 68) := (K2 wb (.inl rfl)).trans hbx
            generalize storeE S 0 (8 * (m : Int)) = E at he
            clear c0 c2 c3
            go_wp2_with (go_at_call 12; refine (load_x M3 hT.ok 0 (8 * m) hA).mono ?_; rintro e z3 ⟨rfl, M4, K4⟩; dsimp only; rw [hT.okb hm6, show argE true = 0 from rfl]; have hb4 : z3.heap[wb]? = some (.cells (wasV S) 68) := (K4 wb (.inl rfl)).trans hb3; have zc : z3.cell? ⟨wb, m, none⟩ = some (vU (alone S m)) := (by rw [cell_of_row _ _ _ _ _ _ hb4, was_at S hm6]); have hal : (loadP S 0 (8 * (m : Int))).1 = alone S m := rfl; rw [hal])
            go_roundw
            case rel => exact ⟨i + 1, by omega, by omega, by go_num, S, by omega, hT, M4.less (fun b hb => .inl hb), hb4, A.nb⟩
            case measure => simp [intOf]; omega
        · by_cases k3 : s.k = 3
          · rw [k3] at c0
            obtain ⟨_, hT⟩ := drain_alone A.one (k := 0) (by decide)
            have hsame := fun (k : Nat) (hk : k < 6) => (drain_alone A.one hk).1
            have hz : (drainS S 0).stamps.length = S.stamps.length := (drain_len S 0).2.1
            generalize hTT : drainS S 0 = T at hT hsame hz
            go_wp2_with (first | (go_at_call 28; refine (drain_x M1 A.one.ok 0 hsS).mono ?_; rintro e y2 ⟨rfl, M3, K2⟩; dsimp only; rw [hTT] at M3; have hb3 : y2.heap[wb]? = some (.cells (wasV T) 68) := (by rw [was_same hsame]; exact (K2 wb (.inl rfl)).trans hbx)) | (go_at_call 12; refine (load_x M3 hT.ok 0 (8 * m) hA).mono ?_; rintro e z3 ⟨rfl, M4, K4⟩; dsimp only; rw [hT.okb hm6, show argE true = 0 from rfl]; have hb4 : z3.heap[wb]? = some (.cells (wasV T) 68) := (K4 wb (.inl rfl)).trans hb3; have zc : z3.cell? ⟨wb, m, none⟩ = some (vU (alone T m)) := (by rw [cell_of_row _ _ _ _ _ _ hb4, was_at T hm6]); have hal : (loadP T 0 (8 * (m : Int))).1 = alone T m := rfl; rw [hal]))
            go_roundw
            case rel => exact ⟨i + 1, by omega, by omega, by go_num, T, by omega, hT, M4.less (fun b hb => .inl hb), hb4, A.nb⟩
            case measure => simp [intOf]; omega
          · by_cases k4 : s.k = 4
            · rw [k4] at c0
              obtain ⟨hT, _, _⟩ := flush_peek A.one (k := 0) (by decide)
              have hsame := fun (k : Nat) (hk : k < 6) => (flush_peek A.one hk).2.1
              have hz : (flushS S 0).stamps.length = S.stamps.length := flush_stamps S 0
              generalize hTT : flushS S 0 = T at hT hsame hz
              go_wp2_with (first | (go_at_call 25; refine (flush_x M1 A.one.ok 0 hsS A.one.core).mono ?_; rintro e y2 ⟨fv, rfl, M3, K2⟩; dsimp only; rw [hTT] at M3; have hb3 : y2.heap[wb]? = some (.cells (wasV T) 68) := (by rw [was_same hsame]; exact (K2 wb (.inl rfl)).trans hbx)) | (go_at_call 12; refine (load_x M3 hT.ok 0 (8 * m) hA).mono ?_; rintro e z3 ⟨rfl, M4, K4⟩; dsimp only; rw [hT.okb hm6, show argE true = 0 from rfl]; have hb4 : z3.heap[wb]? = some (.cells (wasV T) 68) := (K4 wb (.inl rfl)).trans hb3; have zc : z3.cell? ⟨wb, m, none⟩ = some (vU (alone T m)) := (by rw [cell_of_row _ _ _ _ _ _ hb4, was_at T hm6]); have hal : (loadP T 0 (8 * (m : Int))).1 = alone T m := rfl; rw [hal]))
              go_roundw
              case rel => exact ⟨i + 1, by omega, by omega, by go_num, T, by omega, hT, M4.less (fun b hb => .inl hb), hb4, A.nb⟩
              case measure => simp [intOf]; omega
            · by_cases k5 : s.k = 5
              · rw [k5] at c0
                obtain ⟨hT, hal2⟩ := put_alone A.one hm6 s.v
                have hz : (putS S 0 (8 * m) s.v).stamps.length ≤ S.stamps.length + 1 := put_stamps A.one hm6 s.v
                go_upto_region 23 with (go_at_call 30; refine (put_x M1 A.one.ok 0 (8 * m) s.v hA hsS).mono ?_; rintro e y2 ⟨fv, rfl, M2, K2⟩; dsimp only; rw [A.one.okb hm6, show argE true = 0 from rfl])
                have hb2 : y2.heap[wb]? = some (.cells (wasV S) 68) := (K2 wb (.inl rfl)).trans hbx
                have hr2 : Rnd y2 ob s := ⟨(K2 ob (.inr rfl)).trans hr.box⟩
                clear c0 c2 c3
                obtain ⟨c0, c2, c3⟩ := hr2.cells
                have zo : y2.cell? ⟨wb, m, none⟩ = some (vU (alone S m)) := by rw [cell_of_row _ _ _ _ _ _ hb2, was_at S hm6]
                have zf := frozen_of_row y2 wb m _ _ hb2
                have AP := AL.put hb2 nb (.inl rfl) hT M2 hm6 hal2
                generalize hTT : putS S 0 (8 * m) s.v = T at *
                go_upto_region 26 with fail
                generalize World.setCell y2 _ _ = y3 at AP ⊢
                have M3 := AP.mem
                have hb3 := AP.box
                clear c0 c2 c3 zo zf
                go_wp2_with (go_at_call 12; refine (load_x M3 hT.ok 0 (8 * m) hA).mono ?_; rintro e z3 ⟨rfl, M4, K4⟩; dsimp only; rw [hT.okb hm6, show argE true = 0 from rfl]; have hb4 : z3.heap[wb]? = some (.cells (wasV T) 68) := (K4 wb (.inl rfl)).trans hb3; have zc : z3.cell? ⟨wb, m, none⟩ = some (vU (alone T m)) := (by rw [cell_of_row _ _ _ _ _ _ hb4, was_at T hm6]); have hal : (loadP T 0 (8 * (m : Int))).1 = alone T m := rfl; rw [hal])
                go_roundw
                case rel => exact ⟨i + 1, by omega, by omega, by go_num, T, by omega, hT, M4.less (fun b hb => .inl hb), hb4, A.nb⟩
                case measure => simp [intOf]; omega
              · have k2' : (s.k == 2) = false := by simpa using k2
                have k3' : (s.k == 3) = false := by simpa using k3
                have k4' : (s.k == 4) = false := by simpa using k4
                have k5' : (s.k == 5) = false := by simpa using k5
                have hT := A.one
                have M3 := M1
                have hb3 := hbx
                go_wp2_with (go_at_call 12; refine (load_x M3 hT.ok 0 (8 * m) hA).mono ?_; rintro e z3 ⟨rfl, M4, K4⟩; dsimp only; rw [hT.okb hm6, show argE true = 0 from rfl]; have hb4 : z3.heap[wb]? = some (.cells (wasV S) 68) := (K4 wb (.inl rfl)).trans hb3; have zc : z3.cell? ⟨wb, m, none⟩ = some (vU (alone S m)) := (by rw [cell_of_row _ _ _ _ _ _ hb4, was_at S hm6]); have hal : (loadP S 0 (8 * (m : Int))).1 = alone S m := rfl; rw [hal])
                go_roundw
                case rel => exact ⟨i + 1, by omega, by omega, by go_num, S, by omega, hT, M4.less (fun b hb => .inl hb), hb4, A.nb⟩
                case measure => simp [intOf]; omega
      · have hi200 : i = 200 := by omega
        obtain ⟨hF, _, _⟩ := flush_peek A.one (k := 0) (by decide)
        have hpk := fun (k : Nat) (hk : k < 6) => (flush_peek A.one hk).2.2
        have hsS : S.stamps.length < 1000000 := by omega
        go_wp2_with (go_at_call 25; refine (flush_x A.mem A.one.ok 0 hsS A.one.core).mono ?_; rintro e z1 ⟨fv, rfl, M1, K1⟩; dsimp only)
        have hbx : z1.heap[wb]? = some (.cells (wasV S) 68) := by rw [K1 wb rfl]; exact A.box
        have nb := A.nb
        clear A K1
        generalize flushS S 0 = T at M1 hF hpk
        go_loopw [21] (fun s21 wr => ∃ k : Nat, k ≤ 6 ∧ s21 = .int .i64 k ∧ Hid (LX x' g T (fun b => b = wb) wr ∧ wr.heap[wb]? = some (.cells (wasV S) 68))) (fun s21 _ => 6 - (intOf s21).toNat)
        case atStart => exact ⟨0, by omega, rfl, M1, hbx⟩
        case round =>
          obtain ⟨k, hk1, rfl, hH⟩ := hrel
          obtain ⟨M2, hb2⟩ := hH.out
          clear hH M1 hbx
          by_cases hk : (k : Int) < 6
          · have hk6 : k < 6 := by omega
            have hk0 : (0 : Int) ≤ k := by omega
            have hA : U64 (8 * (k : Int)) := ⟨by omega, by omega⟩
            have wa : IntKind.i64.wrap (8 * (k : Int)) = 8 * (k : Int) := by rw [IntKind.wrap_i64]; omega
            have wb' : IntKind.u64.wrap (8 * (k : Int)) = 8 * (k : Int) := by rw [IntKind.wrap_u64]; omega
            have hv := hpk k hk6
            have hw := hF.word hk6
            go_wp2_with (go_at_call 26; refine (peek_x M2 hF.ok (8 * k) hA).mono ?_; rintro e z2 ⟨rfl, M3, K3⟩; dsimp only; rw [hv, hw, show argE true = 0 from rfl]; have hb3 : z2.heap[wb]? = some (.cells (wasV S) 68) := (K3 wb rfl).trans hb2; have zc : z2.cell? ⟨wb, k, none⟩ = some (vU (alone S k)) := (by rw [cell_of_row _ _ _ _ _ _ hb3, was_at S hk6]))
            go_roundw
            case rel => exact ⟨k + 1, by omega, by go_num, M3, hb3⟩
            case measure => simp [intOf]; omega
          · go_wp2
            go_ret
            exact ⟨rfl, below_then hb1 (Nat.le_refl _) M2.below⟩
    · have hil : i = ss.length := by omega
      obtain ⟨hF, _, _⟩ := flush_peek A.one (k := 0) (by decide)
      have hpk := fun (k : Nat) (hk : k < 6) => (flush_peek A.one hk).2.2
      have hsS : S.stamps.length < 1000000 := by omega
      go_wp2_with (go_at_call 25; refine (flush_x A.mem A.one.ok 0 hsS A.one.core).mono ?_; rintro e z1 ⟨fv, rfl, M1, K1⟩; dsimp only)
      have hbx : z1.heap[wb]? = some (.cells (wasV S) 68) := by rw [K1 wb rfl]; exact A.box
      have nb := A.nb
      clear A K1
      generalize flushS S 0 = T at M1 hF hpk
      go_loopw [21] (fun s21 wr => ∃ k : Nat, k ≤ 6 ∧ s21 = .int .i64 k ∧ Hid (LX x' g T (fun b => b = wb) wr ∧ wr.heap[wb]? = some (.cells (wasV S) 68))) (fun s21 _ => 6 - (intOf s21).toNat)
      case atStart => exact ⟨0, by omega, rfl, M1, hbx⟩
      case round =>
        obtain ⟨k, hk1, rfl, hH⟩ := hrel
        obtain ⟨M2, hb2⟩ := hH.out
        clear hH M1 hbx
        by_cases hk : (k : Int) < 6
        · have hk6 : k < 6 := by omega
          have hk0 : (0 : Int) ≤ k := by omega
          have hA : U64 (8 * (k : Int)) := ⟨by omega, by omega⟩
          have wa : IntKind.i64.wrap (8 * (k : Int)) = 8 * (k : Int) := by rw [IntKind.wrap_i64]; omega
          have wb' : IntKind.u64.wrap (8 * (k : Int)) = 8 * (k : Int) := by rw [IntKind.wrap_u64]; omega
          have hv := hpk k hk6
          have hw := hF.word hk6
          go_wp2_with (go_at_call 26; refine (peek_x M2 hF.ok (8 * k) hA).mono ?_; rintro e z2 ⟨rfl, M3, K3⟩; dsimp only; rw [hv, hw, show argE true = 0 from rfl]; have hb3 : z2.heap[wb]? = some (.cells (wasV S) 68) := (K3 wb rfl).trans hb2; have zc : z2.cell? ⟨wb, k, none⟩ = some (vU (alone S k)) := (by rw [cell_of_row _ _ _ _ _ _ hb3, was_at S hk6]))
          go_roundw
          case rel => exact ⟨k + 1, by omega, by go_num, M3, hb3⟩
          case measure => simp [intOf]; omega
        · go_wp2
          go_ret
          exact ⟨rfl, below_then hb1 (Nat.le_refl _) M2.below⟩
end Go.Proofs.Ytjkjbcnafpljoaa
