/- made: both relations. -/
import Derived.Test.YtfgbhdcoemkdoaaDoorTa
namespace Go.Proofs.YtfgbhdcoemkdoaaDoor
open Go.RowKit
set_option linter.unusedVariables false
set_option linter.unusedSimpArgs false
set_option maxRecDepth 8000

/-- Pairs that came in. -/
structure PAt (w : World) (a : Addr) (p : Int × Int) : Prop where
  b0 : a.block < w.heap.size
  c0 : w.cell? a = some (vI p.1)
  c1 : w.cell? ⟨a.block, a.off + 1, none⟩ = some (vI p.2)
theorem PAt.grow {w w' : World} {a : Addr} {p : Int × Int} (h : PAt w a p) (hb : Below w.heap.size w w') : w'.cell? a = some (vI p.1) ∧ w'.cell? ⟨a.block, a.off + 1, none⟩ = some (vI p.2) :=
  ⟨by rw [hb.cell h.b0]; exact h.c0, by rw [hb.cell (p := ⟨a.block, a.off + 1, none⟩) h.b0]; exact h.c1⟩
theorem PAt.low {w w' : World} {B : Nat} {a : Addr} {p : Int × Int} (h : PAt w a p) (hb : Below w.heap.size w w') : PAt w' a p :=
  ⟨Nat.lt_of_lt_of_le h.b0 hb.size, (h.grow hb).1, (h.grow hb).2⟩
structure Prs (w0 : World) (v : Value) (ps : List (Int × Int)) : Prop where
  len : ∃ ao cap, v = .slice ao ps.length cap
  max : ps.length ≤ maxLen
  cell : 0 < ps.length → ∃ (ra : Addr) (cap : Nat), v = .slice (some ra) ps.length cap ∧ ∀ (i : Nat) p, ps[i]? = some p → PAt w0 (ra.add (i * 2)) p
theorem Prs.grow {w w' : World} {v : Value} {ps : List (Int × Int)} (h : Prs w v ps) (hb : Below w.heap.size w w') : Prs w' v ps :=
  ⟨h.len, h.max, fun h0 => by
    obtain ⟨ra, cap, e, hc⟩ := h.cell h0
    exact ⟨ra, cap, e, fun i p hp => (hc i p hp).low (B := 0) hb⟩⟩
/-- What an Add makes. -/
def addP (n : Nat) (R : Nat → Nat → Bool) (x y : Int) : Nat → Nat → Bool := if (inB n x && inB n y) = true then Rlw.addR R x.toNat y.toNat else R
def addE (n : Nat) (x y : Int) : Int := if (inB n x && inB n y) = true then 0 else 1
theorem radd_p {r n : Nat} {R : Nat → Nat → Bool} {w : World} (H : RelAt r n R w) (x y : Int) : Calls Tryd.prog 42 #[ptr r 0, vI x, vI y] w fun e w' => e = .returned (vI (addE n x y)) ∧ RT r n (addP n R x y) w w' :=
  (radd_c H x y).mono fun e w' h => by
    unfold addE addP
    rcases h with ⟨h1, h2, h3⟩ | ⟨h1, h2, h3⟩
    · rw [h1, if_neg (by decide), if_neg (by decide)]
      exact ⟨h2, by rw [h3]; exact ⟨H, Goes.refl _ _⟩⟩
    · rw [h1, if_pos rfl, if_pos rfl]
      exact ⟨h2, h3⟩
theorem docAdd_p {x n : Nat} {T : Nat → Nat → Bool} {w : World} (H : RefAt x n T w) (y z : Int) : Calls Tryd.prog 41 #[ptr x 0, vI y, vI z] w fun e w' => e = .returned (vI (addE n y z)) ∧ RefAt x n (addP n T y z) w' ∧ Goes (fun k => k = x) w w' :=
  (docAdd_c H y z).mono fun e w' h => by
    unfold addE addP
    rcases h with ⟨h1, h2, h3⟩ | ⟨h1, h2, h3⟩
    · rw [h1, if_neg (by decide), if_neg (by decide)]
      exact ⟨h2, by rw [h3]; exact ⟨H, Goes.refl _ _⟩⟩
    · rw [h1, if_pos rfl, if_pos rfl]
      exact ⟨h2, h3⟩
/-- Both relations, of the call's own. -/
structure Both (w : World) (r x m : Nat) (R : Nat → Nat → Bool) (W : World) : Prop where
  rel : RelAt r m R W
  ref : RefAt x m R W
  hr : w.heap.size ≤ r
  hx : w.heap.size ≤ x
  low : Below w.heap.size w W
theorem Both.grow {w : World} {r x m : Nat} {R : Nat → Nat → Bool} {W W' : World} (h : Both w r x m R W) (hb : Below W.heap.size W W') : Both w r x m R W' := ⟨h.rel.grow hb, h.ref.grow hb, h.hr, h.hx, h.low.trans (hb.mono h.low.size)⟩
theorem rel_ref {r x n m : Nat} {R T : Nat → Nat → Bool} {W : World} (h : RelAt r n R W) (k : RefAt x m T W) : r ≠ x := ne_of_type h.row k.row (by decide)
def MadeP (n : Int) (w : World) (e : Ending) (w' : World) : Prop :=
  (newE n ≠ 0 ∧ e = .returned (.tuple #[.pointer none, .pointer none, .bool true]) ∧ Below w.heap.size w w') ∨
  (∃ (m r x : Nat) (R : Nat → Nat → Bool), n = m ∧ e = .returned (.tuple #[ptr r 0, ptr x 0, .bool true]) ∧ Both w r x m R w')
theorem newE_ne {n : Int} (h : newE n ≠ 0) : ((newE n) != 0) = true := by simpa using h
set_option maxHeartbeats 4000000 in
theorem made_c (n : Int) {v : Value} {ps : List (Int × Int)} {w : World} (hv : Prs w v ps) : Calls Tryd.prog 8 #[vI n, v] w (MadeP n w) := by
  by_cases hn : newE n = 0
  · obtain ⟨m, rfl, hm⟩ := new_nat hn
    clear hn
    have hx := docNew_ok hm w
    obtain ⟨ao, cap, ev⟩ := hv.len
    have hmax := hv.max
    go_enter Tryd.func8, Tryd.ntmps8
    go_upto_region 2 with (first | (go_at_call 40; with_reducible refine hx.mono ?_; rintro e w1 ⟨x, rfl, HX, hx1, hB1⟩; dsimp only))
    have hr := new_ok hm w1
    go_upto_region 3 with (first | (go_at_call 39; with_reducible refine hr.mono ?_; rintro e w2 ⟨r, rfl, HR, hr1, hB2⟩; dsimp only))
    have hB0 : Both w r x m (fun _ _ => false) w2 := ⟨HR, HX.grow hB2, Nat.le_trans hB1.size hr1, hx1, hB1.trans (hB2.mono hB1.size)⟩
    clear hx hr HR HX hr1 hB2 hx1 hB1
    rw [ev]
    go_wp2
    go_loopw [8, 11] (fun s8 s11 wr => ∃ (i : Nat) (R : Nat → Nat → Bool), i ≤ ps.length ∧ s11 = vI i ∧ Hid (Both w r x m R wr)) (fun _ s11 _ => 5000 - (intOf s11).toNat)
    case atStart => exact ⟨0, _, Nat.zero_le _, rfl, hB0⟩
    case round =>
      clear hB0
      obtain ⟨i, R, hi, rfl, hH⟩ := hrel
      have hB := hH.out
      clear hH
      by_cases hlt : (i : Int) < ps.length
      · by_cases h5 : (i : Int) < 5000
        · obtain ⟨ra, cap2, ev2, hcell⟩ := hv.cell (by omega)
          have hpi : ps[i]? = some ps[i] := List.getElem?_eq_getElem (by omega)
          have hp0 := hcell i _ hpi
          generalize ps[i] = p at hp0 hpi
          clear hpi hcell
          have hp := hp0.low (B := 0) hB.low
          have eao : (Value.slice ao ps.length cap) = v := ev.symm
          have evr : v = .slice (some ra) ps.length cap2 := ev2
          rw [ev] at evr
          cases evr
          subst ev
          clear ev2
          go_upto_region 10 with fail
          have hst : (StC wr (fun w1 => Both w r x m R wr ∧ RelAt r m R w1 ∧ RefAt x m (addP m R p.1 p.2) w1 ∧ Below w.heap.size w w1)) 0 { wr with drawn := wr.drawn + 1 } := Rel.below_draws (n := 1) (Below.refl _ _)
          refine Chn.wp_region_chainL (StC wr (fun w1 => Both w r x m R wr ∧ RelAt r m R w1 ∧ RefAt x m (addP m R p.1 p.2) w1 ∧ Below w.heap.size w w1)) [11] [1, 1, 1, 1, 1, 0, 1, 1, 1, 1, 0, 1, 1] [ptr x 0, .slice (some ra) ps.length cap, vI i, .pointer (some (ra.add (i * 2))), .pointer (some (ra.add (i * 2))), vI p.1, .slice (some ra) ps.length cap, vI i, .pointer (some (ra.add (i * 2))), .pointer (some ⟨(ra.add (i * 2)).block, (ra.add (i * 2)).off + 1, none⟩), vI p.2, vI (addE m p.1 p.2), vI (addE m p.1 p.2)] (by kernel_rfl) (by kernel_rfl) (by kernel_rfl) (by kernel_rfl) (by kernel_rfl) hst ?_
          clear hst
          refine ⟨fun j w1 hj hC => by exact Chn.upon_pure hC (fun F hF => by (go_simp <;> exact hF)), ?_⟩
          simp only [Act.put, List.setIfInBounds_toArray, List.set_cons_succ, List.set_cons_zero]
          refine ⟨fun j w1 hj hC => by exact Chn.upon_pure hC (fun F hF => by (go_simp <;> exact hF)), ?_⟩
          simp only [Act.put, List.setIfInBounds_toArray, List.set_cons_succ, List.set_cons_zero]
          refine ⟨fun j w1 hj hC => by exact Chn.upon_pure hC (fun F hF => by (go_simp <;> exact hF)), ?_⟩
          simp only [Act.put, List.setIfInBounds_toArray, List.set_cons_succ, List.set_cons_zero]
          refine ⟨fun j w1 hj hC => by exact Chn.upon_pure hC (fun F hF => by (go_simp <;> exact hF)), ?_⟩
          simp only [Act.put, List.setIfInBounds_toArray, List.set_cons_succ, List.set_cons_zero]
          refine ⟨fun j w1 hj hC => by exact Chn.upon_pure hC (fun F hF => by (go_simp <;> exact hF)), ?_⟩
          simp only [Act.put, List.setIfInBounds_toArray, List.set_cons_succ, List.set_cons_zero]
          refine ⟨fun j w1 hj hC => by
            have z := (hp.grow (stC_low hj hC)).1
            exact Chn.upon_pure hC (fun F hF => by (go_simp <;> exact hF)), ?_⟩
          simp only [Act.put, List.setIfInBounds_toArray, List.set_cons_succ, List.set_cons_zero]
          refine ⟨fun j w1 hj hC => by exact Chn.upon_pure hC (fun F hF => by (go_simp <;> exact hF)), ?_⟩
          simp only [Act.put, List.setIfInBounds_toArray, List.set_cons_succ, List.set_cons_zero]
          refine ⟨fun j w1 hj hC => by exact Chn.upon_pure hC (fun F hF => by (go_simp <;> exact hF)), ?_⟩
          simp only [Act.put, List.setIfInBounds_toArray, List.set_cons_succ, List.set_cons_zero]
          refine ⟨fun j w1 hj hC => by exact Chn.upon_pure hC (fun F hF => by (go_simp <;> exact hF)), ?_⟩
          simp only [Act.put, List.setIfInBounds_toArray, List.set_cons_succ, List.set_cons_zero]
          refine ⟨fun j w1 hj hC => by exact Chn.upon_pure hC (fun F hF => by (go_simp <;> exact hF)), ?_⟩
          simp only [Act.put, List.setIfInBounds_toArray, List.set_cons_succ, List.set_cons_zero]
          refine ⟨fun j w1 hj hC => by
            have z := (hp.grow (stC_low hj hC)).2
            exact Chn.upon_pure hC (fun F hF => by (go_simp <;> exact hF)), ?_⟩
          simp only [Act.put, List.setIfInBounds_toArray, List.set_cons_succ, List.set_cons_zero]
          refine ⟨fun w1 hC => by
            exact Chn.upon_call (C := (StC wr (fun w1 => Both w r x m R wr ∧ RelAt r m R w1 ∧ RefAt x m (addP m R p.1 p.2) w1 ∧ Below w.heap.size w w1)) 1) (docAdd_p (hB.ref.grow hC) p.1 p.2) (fun e2 w2 hh => ⟨hh.1, hB, (hB.rel.grow hC).keep (hh.2.2.block _ (hB.rel.grow hC).lt (rel_ref (hB.rel.grow hC) (hB.ref.grow hC))), hh.2.1, (hB.low.trans (hC.mono hB.low.size)).trans (hh.2.2.below (Nat.le_trans hB.low.size hC.size) (fun k hk => by rw [hk]; exact hB.hx))⟩) (fun F hF => by (go_simp <;> exact hF)), ?_⟩
          simp only [Act.put, List.setIfInBounds_toArray, List.set_cons_succ, List.set_cons_zero]
          refine ⟨fun j w1 hj hC => by exact Chn.upon_pure hC (fun F hF => by (go_simp <;> exact hF)), ?_⟩
          simp only [Act.put, List.setIfInBounds_toArray, List.set_cons_succ, List.set_cons_zero]
          intro w5 hC

          obtain ⟨_, hR5, hX5, hB5⟩ := hC
          have hRr := hB.hr
          have hXx := hB.hx
          clear hB hp
          have hp := hp0.low (B := 0) hB5
          go_upto_region 11 with fail
          have hst : (StC w5 (fun w1 => Both w r x m (addP m R p.1 p.2) w1)) 0 { w5 with drawn := w5.drawn + 1 } := Rel.below_draws (n := 1) (Below.refl _ _)
          refine Chn.wp_region_chainL (StC w5 (fun w1 => Both w r x m (addP m R p.1 p.2) w1)) [11] [1, 1, 1, 1, 1, 0, 1, 1, 1, 1, 0, 1, 1, 1] [ptr r 0, .slice (some ra) ps.length cap, vI i, .pointer (some (ra.add (i * 2))), .pointer (some (ra.add (i * 2))), vI p.1, .slice (some ra) ps.length cap, vI i, .pointer (some (ra.add (i * 2))), .pointer (some ⟨(ra.add (i * 2)).block, (ra.add (i * 2)).off + 1, none⟩), vI p.2, vI (addE m p.1 p.2), vI (addE m p.1 p.2), .bool false] (by kernel_rfl) (by kernel_rfl) (by kernel_rfl) (by kernel_rfl) (by kernel_rfl) hst ?_
          clear hst
          refine ⟨fun j w1 hj hC => by exact Chn.upon_pure hC (fun F hF => by (go_simp <;> exact hF)), ?_⟩
          simp only [Act.put, List.setIfInBounds_toArray, List.set_cons_succ, List.set_cons_zero]
          refine ⟨fun j w1 hj hC => by exact Chn.upon_pure hC (fun F hF => by (go_simp <;> exact hF)), ?_⟩
          simp only [Act.put, List.setIfInBounds_toArray, List.set_cons_succ, List.set_cons_zero]
          refine ⟨fun j w1 hj hC => by exact Chn.upon_pure hC (fun F hF => by (go_simp <;> exact hF)), ?_⟩
          simp only [Act.put, List.setIfInBounds_toArray, List.set_cons_succ, List.set_cons_zero]
          refine ⟨fun j w1 hj hC => by exact Chn.upon_pure hC (fun F hF => by (go_simp <;> exact hF)), ?_⟩
          simp only [Act.put, List.setIfInBounds_toArray, List.set_cons_succ, List.set_cons_zero]
          refine ⟨fun j w1 hj hC => by exact Chn.upon_pure hC (fun F hF => by (go_simp <;> exact hF)), ?_⟩
          simp only [Act.put, List.setIfInBounds_toArray, List.set_cons_succ, List.set_cons_zero]
          refine ⟨fun j w1 hj hC => by
            have z := (hp.grow (stC_low hj hC)).1
            exact Chn.upon_pure hC (fun F hF => by (go_simp <;> exact hF)), ?_⟩
          simp only [Act.put, List.setIfInBounds_toArray, List.set_cons_succ, List.set_cons_zero]
          refine ⟨fun j w1 hj hC => by exact Chn.upon_pure hC (fun F hF => by (go_simp <;> exact hF)), ?_⟩
          simp only [Act.put, List.setIfInBounds_toArray, List.set_cons_succ, List.set_cons_zero]
          refine ⟨fun j w1 hj hC => by exact Chn.upon_pure hC (fun F hF => by (go_simp <;> exact hF)), ?_⟩
          simp only [Act.put, List.setIfInBounds_toArray, List.set_cons_succ, List.set_cons_zero]
          refine ⟨fun j w1 hj hC => by exact Chn.upon_pure hC (fun F hF => by (go_simp <;> exact hF)), ?_⟩
          simp only [Act.put, List.setIfInBounds_toArray, List.set_cons_succ, List.set_cons_zero]
          refine ⟨fun j w1 hj hC => by exact Chn.upon_pure hC (fun F hF => by (go_simp <;> exact hF)), ?_⟩
          simp only [Act.put, List.setIfInBounds_toArray, List.set_cons_succ, List.set_cons_zero]
          refine ⟨fun j w1 hj hC => by
            have z := (hp.grow (stC_low hj hC)).2
            exact Chn.upon_pure hC (fun F hF => by (go_simp <;> exact hF)), ?_⟩
          simp only [Act.put, List.setIfInBounds_toArray, List.set_cons_succ, List.set_cons_zero]
          refine ⟨fun w1 hC => by
            exact Chn.upon_call (C := (StC w5 (fun w1 => Both w r x m (addP m R p.1 p.2) w1)) 1) (radd_p (hR5.grow hC) p.1 p.2) (fun e2 w2 hh => ⟨hh.1, hh.2.1, (hX5.grow hC).keep (hh.2.2.block _ (hX5.grow hC).lt (rel_ref (hR5.grow hC) (hX5.grow hC)).symm), hRr, hXx, (hB5.trans (hC.mono hB5.size)).trans (hh.2.2.below (Nat.le_trans hB5.size hC.size) (fun k hk => by rw [hk]; exact hRr))⟩) (fun F hF => by (go_simp <;> exact hF)), ?_⟩
          simp only [Act.put, List.setIfInBounds_toArray, List.set_cons_succ, List.set_cons_zero]
          refine ⟨fun j w1 hj hC => by exact Chn.upon_pure hC (fun F hF => by (go_simp <;> exact hF)), ?_⟩
          simp only [Act.put, List.setIfInBounds_toArray, List.set_cons_succ, List.set_cons_zero]
          refine ⟨fun j w1 hj hC => by exact Chn.upon_pure hC (fun F hF => by (go_simp <;> exact hF)), ?_⟩
          simp only [Act.put, List.setIfInBounds_toArray, List.set_cons_succ, List.set_cons_zero]
          intro w6 hC

          have hB6 : Both w r x m (addP m R p.1 p.2) w6 := hC
          clear hC hp hR5 hX5 hB5
          go_wp2
          go_roundw
          case rel => exact ⟨i + 1, _, by omega, by go_num, hB6⟩
          case measure => simp [intOf]; omega
        · go_wp2
          go_ret3
          exact .inr ⟨m, r, x, R, rfl, rfl, hB⟩
      · go_wp2
        go_ret3
        exact .inr ⟨m, r, x, R, rfl, rfl, hB⟩
  · have hx := docNew_bad hn w
    have hr := new_bad hn w
    have hne := newE_ne hn
    have hn' := show Hid _ from hn
    generalize hE : newE n = E at hx hr hne
    clear hE hn
    go_enter Tryd.func8, Tryd.ntmps8
    go_wp2_with (first | (go_at_call 40; with_reducible refine hx.mono ?_; rintro e w ⟨rfl, rfl⟩; dsimp only) | (go_at_call 39; with_reducible refine hr.mono ?_; rintro e w ⟨rfl, rfl⟩; dsimp only))
    go_ret3
    exact .inl ⟨hn'.out, rfl, Below.refl _ _⟩
end Go.Proofs.YtfgbhdcoemkdoaaDoor
