/- Events in another order. -/
import Derived.Test.YtnedkielehmneaaGreatDoorEp
import Derived.Test.YtnedkielehmneaaGreatDoorPo
namespace Go.Proofs.YtnedkielehmneaaGreatDoor
open Go.RowKit
open Go.Shelf
set_option linter.unusedVariables false
set_option linter.unusedSimpArgs false
set_option maxRecDepth 8000

open Axm
/-- What Check says of any events. -/
def iV (n : Nat) (x : Nat → Ev) : Bool := decide (rightE n x = 0) && intV n x
def eV (n : Nat) (x : Nat → Ev) : Bool := decide (rightE n x = 0) && extV n x
def aV (n : Nat) (x : Nat → Ev) : Bool := decide (rightE n x = 0) && atoV n x
theorem check_c {w : World} {v : Value} {n : Nat} {x : Nat → Ev} (E : Evs w v n x) (T : Tab w) : Calls Tryz.prog 12 #[v] w fun e w' => e = .returned (.tuple #[.agg (verV (iV n x) (eV n x) (aV n x)), vI (rightE n x)]) ∧ Below w.heap.size w w' := by
  unfold iV eV aV
  by_cases h : rightE n x = 0
  · rw [decide_eq_true h, h]
    exact check_ok E T h
  · rw [decide_eq_false h]
    exact check_no E h
/-- One event more. -/
theorem row_cells (w : World) (cs : Array Value) (j : Nat) (u : Value) (h : cs.toList[j]? = some u) : (w.alloc (.cells cs 36)).cell? ((⟨w.heap.size, 0, none⟩ : Addr).add j) = some u := by
  rw [Addr.add_mid, Nat.zero_add, cell_of_row _ _ _ _ _ _ (World.alloc_heap_new w _)]
  simpa using h
theorem wpList_app1 {ops : Array Oper} {rest : List Oper} {o : Oper} {a : Act} {w : World} {Q : Exit → Act → World → Prop} (hg : o.guard = none) (s x : Operand) (ho : o.op = .call { callee := .builtin .append, args := #[s, x], argTypes := #[22, 22] }) {base n : Nat} {v : Value} {es : List EvX} {t : EvX} (hs : a.eval s = v) (hx : a.eval x = .slice (some ⟨w.heap.size, 0, none⟩) 1 1) (R : w.ownsRow base 36 13 v n (evF es)) (h1 : (evA t.e t.s0 t.s1 t.s2).all (·.oneCell') = true) (hl : (n + 1) * 144 ≤ 140737488355328) (hbase : base ≤ w.heap.size)
    (h : ∀ v' w', w'.ownsRow base 36 13 v' (n + 1) (evF (es ++ [t])) → Below base w w' → wpList Tryz.prog ops Q rest (a.put o.dst v') w') : wpList Tryz.prog ops Q (o :: rest) a (w.alloc (.cells (evA t.e t.s0 t.s1 t.s2) 36)) := by
  obtain ⟨i, hi, hz, hsz, hby⟩ := info_parts info36
  refine wpList_append_own _ hg s x 22 ho base 36 i (.agg zA) 13 144 Tryz.underlying22 hi hz hsz hby rfl (by decide) v n (evF es) hs (R.alloc _) ⟨w.heap.size, 0, none⟩ 1 1 (evA t.e t.s0 t.s1 t.s2).toList hx rfl (row_cells w _) (fun u hu => (Array.all_eq_true_iff_forall_mem.1 h1) u (by simpa using hu)) (by simp only [maxLen]; omega) hl (by simp; omega) ?_
  intro v' w' hR hgr _
  refine h v' w' (by rw [evF_append]; simpa [evF] using hR) ?_
  have hG : Goes (fun k => v.ownBlock = some k) (w.alloc (.cells (evA t.e t.s0 t.s1 t.s2) 36)) w' := goes_grown hgr (fun k hk => hk)
  exact ((below_alloc w _).mono hbase).trans (hG.below (by simp; omega) (fun k hk => (R.lt k hk).1))
/-- The events of a list that came in, with where their lists lie. -/
theorem evs_pick {w : World} {v : Value} {n : Nat} {x : Nat → Ev} (E : Evs w v n x) (hn : 0 < n) : ∃ (ra : Addr) (cap : Nat) (f : Nat → EvX), v = .slice (some ra) n cap ∧ ∀ i, i < n → (f i).e = x i ∧ EvAt w (ra.add (i * 13)) (x i) (f i).s0 (f i).s1 (f i).s2 := by
  obtain ⟨ra, cap, e, hc⟩ := E.cell hn
  have : ∀ i, ∃ t : EvX, i < n → t.e = x i ∧ EvAt w (ra.add (i * 13)) (x i) t.s0 t.s1 t.s2 := fun i => by
    by_cases h : i < n
    · obtain ⟨s0, s1, s2, A⟩ := hc i h
      exact ⟨⟨x i, s0, s1, s2⟩, fun _ => ⟨rfl, A⟩⟩
    · exact ⟨⟨zE, nilS, nilS, nilS⟩, fun k => absurd k h⟩
  exact ⟨ra, cap, fun i => (this i).choose, e, fun i hi => (this i).choose_spec hi⟩
def orL (f : Nat → EvX) (n k j : Nat) : List EvX := (List.range j).map fun a => f (back n k a)
theorem orL_len (f : Nat → EvX) (n k j : Nat) : (orL f n k j).length = j := by simp [orL]
theorem orL_succ (f : Nat → EvX) (n k j : Nat) : orL f n k (j + 1) = orL f n k j ++ [f (back n k j)] := by simp [orL, List.range_succ]
theorem orL_xs {f : Nat → EvX} {n k : Nat} {a : Nat} (h : a < n) : xs (orL f n k n) a = (f (back n k a)).e := by simp [xs, orL, h]
theorem back_int {n k j : Nat} {i : Int} (hk : k < n) (h0 : 0 ≤ i) (h : i + j = n - 1) : (i + k) % (n : Int) = (back n k j : Int) := by
  unfold back
  rw [Int.natCast_emod]
  congr 1
  omega
set_option maxHeartbeats 8000000 in
theorem order_walk {w : World} {v : Value} {n : Nat} {x : Nat → Ev} (E : Evs w v n x) (T : Tab w) (turn : Int) (ht : I64 turn) (hl : n * 144 ≤ 140737488355328) : Calls Tryz.prog 6 #[v, vI turn] w fun e w' => e = .returned (.bool true) ∧ Below w.heap.size w w' := by
  have B := Below.refl w.heap.size w
  have G := Below.refl w.heap.size w
  have hmax := E.max
  obtain ⟨ao, cap, hv⟩ := E.len
  subst hv
  go_enter Tryz.func6, Tryz.ntmps6
  go_upto_region 3 with (first | (go_at_call 9; with_reducible refine (examples_c T).mono ?_; rintro e u1 ⟨rfl, g⟩; replace G := G.trans (g.mono G.size); clear g; dsimp only) | (go_at_call 12; with_reducible refine (check_c (E.grow G) (T.grow G)).mono ?_; rintro e u2 ⟨rfl, g⟩; replace G := G.trans (g.mono G.size); clear g; dsimp only) | (with_reducible refine wpList_new27 rfl rfl ?_; intro u3 V1 g z; have q := G.size; replace G := G.trans (g.mono G.size); clear g z; simp only [Act.put, List.setIfInBounds_toArray, List.set_cons_succ, List.set_cons_zero]) | (with_reducible refine wpList_store27 (i' := iV n x) (e' := eV n x) (t' := aV n x) rfl _ _ rfl rfl V1 rfl ?_; intro u4 V1 g z; replace G := G.trans (g.below G.size (fun k hk => by rw [hk]; exact q)); clear g z; simp only [Act.put, List.setIfInBounds_toArray, List.set_cons_succ, List.set_cons_zero]))
  clear q
  generalize u2.heap.size = q1 at V1 ⊢
  replace B := B.trans (G.mono B.size)
  replace T := T.grow G
  replace E := E.grow G
  clear G
  by_cases h0 : n = 0
  · subst h0
    go_wp2
    go_ret
    exact ⟨rfl, B⟩
  · have h0i : ¬ ((n : Int) = 0) := by omega
    have hp := pick_c turn n (by omega) (by omega) ht u4
    have hk : pickV turn n < n := pick_lt (by omega)
    generalize pickV turn n = k at hp hk
    obtain ⟨ra, cap2, f, ev, hf⟩ := evs_pick E (by omega)
    cases ev
    have hn1 : (1 : Int) ≤ n := by omega
    go_upto_region 7 with (first | (go_at_call 22; with_reducible refine hp.mono ?_; clear hp; rintro e u4 ⟨rfl, rfl⟩; dsimp only))
    go_wp2
    go_loopw [9, 10] (fun s9 s10 wr => ∃ (i : Int) (j : Nat), i + j = n - 1 ∧ s10 = vI i ∧ j ≤ n ∧ Hid (wr.ownsRow u4.heap.size 36 13 s9 j (evF (orL f n k j)) ∧ Below u4.heap.size u4 wr)) (fun _ s10 _ => (intOf s10 + 1).toNat)
    case atStart => exact ⟨(n : Int) - 1, 0, by omega, by go_num, Nat.zero_le _, World.ownsRow_nil _ _ _ _, Below.refl _ _⟩
    case round =>
      obtain ⟨i, j, hij, rfl, hjn, hH⟩ := hrel
      obtain ⟨R, G⟩ := hH.out
      clear hH
      by_cases hi : i ≥ 0
      · have hb := back_int hk hi hij
        have hbn : back n k j < n := (back_turn hk).ls j (by omega)
        have A := (hf _ hbn).2.grow G
        have hone := A.one
        have he := (hf _ hbn).1
        have hs := orL_succ f n k j
        have hsz := G.size
        have hbi : ((back n k j : Nat) : Int) < n := by omega
        have hin : i < n := by omega
        have hkn : (k : Int) < n := by omega
        have htm : (i + k).tmod n = ((back n k j : Nat) : Int) := by rw [Int.tmod_eq_emod_of_nonneg (by omega)]; exact hb
        generalize back n k j = c at *
        generalize f c = t at *
        obtain ⟨te, s0, s1, s2⟩ := t
        dsimp only at he A hone
        subst he
        go_wp2_with (first | (with_reducible refine wpList_load36 rfl _ rfl rfl A ?_; simp only [Act.put, List.setIfInBounds_toArray, List.set_cons_succ, List.set_cons_zero]) | (with_reducible refine wpList_app1 (t := ⟨x c, s0, s1, s2⟩) rfl _ _ rfl rfl rfl R hone (by omega) hsz ?_; intro v' w2 R2 g2; simp only [Act.put, List.setIfInBounds_toArray, List.set_cons_succ, List.set_cons_zero]))
        go_roundw
        case rel => exact ⟨i - 1, j + 1, by omega, by go_num, by omega, by rw [hs]; exact R2, G.trans g2⟩
        case measure => simp [intOf]; omega
      · obtain rfl : j = n := by omega
        have D : Deps wr (orL f j k j) := ⟨fun t ht => by
          obtain ⟨a, ha, rfl⟩ := List.mem_map.1 ht
          have hbn : back j k a < j := (back_turn hk).ls a (List.mem_range.1 ha)
          obtain ⟨he, A⟩ := hf _ hbn
          have A2 := A.grow G
          rw [he]
          exact ⟨A2.r0, A2.r1, A2.r2⟩⟩
        have hlen := orL_len f j k j
        have L : EvO wr u4.heap.size u9 (orL f j k j) := ⟨by rw [hlen]; exact R, D⟩
        have E2 := L.evs
        rw [hlen] at E2
        have hy : ∀ a, a < j → xs (orL f j k j) a = x (back j k a) := fun a ha => by rw [orL_xs ha]; exact (hf _ ((back_turn hk).ls a ha)).1
        have er := t_right (back_turn hk) hy
        have K := check_c E2 (T.grow G)
        have ei : iV j (xs (orL f j k j)) = iV j x := by unfold iV; rw [er, turn_int (back_turn hk) hy]
        have ea : aV j (xs (orL f j k j)) = aV j x := by unfold aV; rw [er, turn_ato (back_turn hk) hy]
        have ee : eV j (xs (orL f j k j)) = eV j x := by
          unfold eV
          rw [er]
          by_cases h : rightE j x = 0
          · rw [turn_ext (back_turn hk) hy (own_right h) (own_right (er.trans h))]
          · rw [decide_eq_false h]; rfl
        rw [ei, ee, ea, er] at K
        replace V1 := V1.grow G
        have B2 := B.trans (G.mono B.size)
        clear L E2 hy er ei ea ee D R E hf T G
        generalize iV j x = c1 at *
        generalize eV j x = c2 at *
        generalize aV j x = c3 at *
        generalize rightE j x = q at *
        have hr : ∀ w, Sem.run Tryz.prog (binOp BinOp.eql 27 (.agg (verV c1 c2 c3)) (.agg (verV c1 c2 c3))) w = .ok (.bool true) w := fun _ => by cases c1 <;> cases c2 <;> cases c3 <;> kernel_rfl
        have hqq : (q == q) = true := by simp
        have G := Below.refl wr.heap.size wr
        go_wp2_with (first | (go_at_call 12; with_reducible refine K.mono ?_; clear K; rintro e u5 ⟨rfl, g⟩; replace G := G.trans (g.mono G.size); clear g; dsimp only) | (with_reducible refine wpList_new27 rfl rfl ?_; intro u6 V2 g z; have q2 := G.size; replace G := G.trans (g.mono G.size); clear g z; simp only [Act.put, List.setIfInBounds_toArray, List.set_cons_succ, List.set_cons_zero]) | (with_reducible refine wpList_store27 (i' := c1) (e' := c2) (t' := c3) rfl _ _ rfl rfl V2 rfl ?_; intro u7 V2 g z; replace G := G.trans (g.below G.size (fun k hk => by rw [hk]; exact q2)); replace V1 := V1.grow G; clear g z; simp only [Act.put, List.setIfInBounds_toArray, List.set_cons_succ, List.set_cons_zero]) | (refine wpList_load27 _ rfl rfl rfl V1 ?_; simp only [Act.put, List.setIfInBounds_toArray, List.set_cons_succ, List.set_cons_zero]) | (refine wpList_load27 _ rfl rfl rfl V2 ?_; simp only [Act.put, List.setIfInBounds_toArray, List.set_cons_succ, List.set_cons_zero]))
        go_ret
        exact ⟨rfl, B2.trans (G.mono B2.size)⟩
end Go.Proofs.YtnedkielehmneaaGreatDoor
