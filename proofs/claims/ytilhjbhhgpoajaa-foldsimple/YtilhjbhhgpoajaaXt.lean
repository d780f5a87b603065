/- Wi, Wj, Wk, Wy of the seat, joined. -/
import Derived.Test.YtilhjbhhgpoajaaXs
import Derived.Test.YtilhjbhhgpoajaaWe
import Derived.Test.YtilhjbhhgpoajaaWa
import Derived.StillTail
import Derived.StillTactics
/- certain, many. -/
namespace Go.Proofs.Ytilhjbhhgpoajaa
open Go.RowKit
set_option linter.unusedVariables false
set_option linter.unusedSimpArgs false
set_option maxRecDepth 8000

theorem bl_c0 {pc words el : Int} {v : Value} {x : World} {t : Nat} (h : x.heap[t]? = some (.cells (blA pc words el v) 25)) : x.cell? ⟨t, 0, none⟩ = some (vU pc) := by rw [cell_of_row _ _ _ _ _ _ h]; rfl
theorem bl_c3 {pc words el : Int} {v : Value} {x : World} {t : Nat} (h : x.heap[t]? = some (.cells (blA pc words el v) 25)) : x.cell? ⟨t, 3, none⟩ = some v := by rw [cell_of_row _ _ _ _ _ _ h]; rfl
theorem certain_c (o : Opr) (w : World) : Calls Try.prog 29 #[opV o] w fun e w' => e = .returned (.bool (certB o)) ∧ Below w.heap.size w w' := by
  have hb := below_alloc w (.cells (opA o) 45)
  have L := LocO.new w o
  have z0 := L.c0
  have z1 := L.c1
  have z5 := L.c5
  clear L
  go_enter Try.func29, Try.ntmps29
  go_upto_region 1 with fail
  generalize w.alloc (.cells (opA o) 45) = w1 at *
  generalize w.heap.size = t at z0 z1 z5 ⊢
  obtain ⟨kind, r, a, b, order, imm⟩ := o
  dsimp only at z0 z1 z5
  rcases Decidable.em (kind = 6) with h6 | h6
  · subst h6
    (go_wp2; go_ret; exact ⟨ret_bool (by unfold certB; simp_all), hb⟩)
  · rcases Decidable.em (kind = 1) with h1 | h1
    · subst h1
      by_cases hq : imm < 2 <;> (go_wp2; go_ret; exact ⟨ret_bool (by unfold certB; simp_all), hb⟩)
    · rcases Decidable.em (kind = 8) with h8 | h8
      · subst h8
        by_cases hq : 13 ≤ r <;> (go_wp2; go_ret; exact ⟨ret_bool (by unfold certB; simp_all), hb⟩)
      · have e6 : (kind == 6) = false := by simpa using h6
        have e1 : (kind == 1) = false := by simpa using h1
        have e8 : (kind == 8) = false := by simpa using h8
        (go_wp2; go_ret; exact ⟨ret_bool (by unfold certB; simp_all), hb⟩)
section
variable {w : World} {l : List Opr} {v : Value} {pc words el : Int}
set_option maxHeartbeats 4000000 in
theorem many_c (O : Ops w v l) (hl : l.length ≤ 512) (kind : Int) : Calls Try.prog 15 #[blV pc words el v, vI kind] w fun e w' => e = .returned (vI (manyN l kind l.length)) ∧ Below w.heap.size w w' := by
  have hb1 := below_alloc w (.cells (blA pc words el v) 25)
  have r1 := heap_alloc_new w (.cells (blA pc words el v) 25)
  have O1 := O.grow hb1
  obtain ⟨a1, c1, rfl⟩ := O.len
  have z3 := bl_c3 r1
  go_enter Try.func15, Try.ntmps15
  go_upto_region 3 with fail
  generalize w.alloc (.cells (blA pc words el (.slice a1 l.length c1)) 25) = w1 at *
  generalize hb : w.heap.size = b1 at r1 z3
  replace hb := show Hid _ from hb
  clear O r1
  go_loopw [5, 6] (fun s5 s6 wr => ∃ i : Nat, wr = w1 ∧ s5 = vI (manyN l kind i) ∧ s6 = vI i ∧ i ≤ l.length) (fun _ s6 _ => l.length - (intOf s6).toNat)
  case atStart => exact ⟨0, rfl, rfl, rfl, Nat.zero_le _⟩
  case round =>
    obtain ⟨i, rfl, rfl, rfl, hi⟩ := hrel
    have hml := many_le l kind i
    by_cases hlt : (i : Int) < l.length
    · have hil : i < l.length := by omega
      obtain ⟨ra, ca, e1, h1⟩ := O1.cell (by omega)
      cases e1
      have A1 := (h1 i _ (opAt_some hil)).c0
      clear h1
      have hs : manyN l kind (i + 1) = manyN l kind i + (if (opAt l i).kind = kind then 1 else 0) := rfl
      by_cases hk : (opAt l i).kind = kind
      · rw [if_pos hk] at hs
        go_wp2
        go_roundw
        case rel => exact ⟨i + 1, trivial, by simp [hs], by simp, by omega⟩
        case measure => simp [intOf]; omega
      · rw [if_neg hk] at hs
        go_wp2
        go_roundw
        case rel => exact ⟨i + 1, trivial, by simp [hs], by simp, by omega⟩
        case measure => simp [intOf]; omega
    · have : i = l.length := by omega
      subst this
      go_wp2
      go_ret
      exact ⟨rfl, hb1⟩
end
end Go.Proofs.Ytilhjbhhgpoajaa
/- last. -/
namespace Go.Proofs.Ytilhjbhhgpoajaa
open Go.RowKit
set_option linter.unusedVariables false
set_option linter.unusedSimpArgs false
set_option maxRecDepth 8000

section
variable {w : World} {l : List Opr} {v : Value} {pc words el : Int}
structure LsW (w : World) (pc words el : Int) (v : Value) (l : List Opr) (o : Opr) (b1 t5 : Nat) (x : World) : Prop where
  r1 : x.heap[b1]? = some (.cells (blA pc words el v) 25)
  r5 : x.heap[t5]? = some (.cells (opA o) 45)
  ops : Ops x v l
  below : Below w.heap.size w x
theorem LsW.grow {o : Opr} {b1 t5 : Nat} {x y : World} (h : LsW w pc words el v l o b1 t5 x) (hb : Below x.heap.size x y) : LsW w pc words el v l o b1 t5 y :=
  ⟨keepRow h.r1 hb, keepRow h.r5 hb, h.ops.grow hb, below_then h.below (Nat.le_refl _) hb⟩
theorem op_c0 {x : World} {t : Nat} {o : Opr} (h : x.heap[t]? = some (.cells (opA o) 45)) : x.cell? ⟨t, 0, none⟩ = some (vI o.kind) := by rw [cell_of_row _ _ _ _ _ _ h]; rfl
theorem op_c1 {x : World} {t : Nat} {o : Opr} (h : x.heap[t]? = some (.cells (opA o) 45)) : x.cell? ⟨t, 1, none⟩ = some (vI o.r) := by rw [cell_of_row _ _ _ _ _ _ h]; rfl
theorem op_c2 {x : World} {t : Nat} {o : Opr} (h : x.heap[t]? = some (.cells (opA o) 45)) : x.cell? ⟨t, 2, none⟩ = some (vI o.a) := by rw [cell_of_row _ _ _ _ _ _ h]; rfl
theorem op_c3 {x : World} {t : Nat} {o : Opr} (h : x.heap[t]? = some (.cells (opA o) 45)) : x.cell? ⟨t, 3, none⟩ = some (vI o.b) := by rw [cell_of_row _ _ _ _ _ _ h]; rfl
theorem last_no {m : List Opr} {o : Opr} {n : Nat} (h : hitB o (opAt m n) = false) : lastI m o (n + 1) = lastI m o n := by
  show (if hitB o (opAt m n) = true then (n : Int) else lastI m o n) = _
  rw [h, if_neg (by decide)]
theorem last_yes {m : List Opr} {o : Opr} {n : Nat} (h : hitB o (opAt m n) = true) : lastI m o (n + 1) = n := by
  show (if hitB o (opAt m n) = true then (n : Int) else lastI m o n) = _
  rw [h, if_pos rfl]
set_option maxHeartbeats 8000000 in
theorem last_c (O : Ops w v l) (hl : l.length ≤ 512) {k : Nat} (hk : k < l.length) (hO : (opAt l k).kind = 2 ∨ (opAt l k).kind = 4 ∨ (opAt l k).kind = 6) : Calls Try.prog 28 #[blV pc words el v, vI k] w fun e w' => e = .returned (vI (lastI l (opAt l k) k)) ∧ Below w.heap.size w w' := by
  have hb1 := below_alloc w (.cells (blA pc words el v) 25)
  have r1 := heap_alloc_new w (.cells (blA pc words el v) 25)
  have O1 := O.grow hb1
  obtain ⟨ra, c1, rfl, h1⟩ := O1.cell (by omega)
  have A1 := h1 k _ (opAt_some hk)
  have z3 := bl_c3 r1
  go_enter Try.func28, Try.ntmps28
  go_upto_region 1 with fail
  generalize w.alloc (.cells (blA pc words el (.slice (some ra) l.length c1)) 25) = w1 at *
  generalize hb : w.heap.size = b1 at r1 z3
  replace hb := show Hid _ from hb
  have Hn := has_none w1
  clear O h1
  have hkk : (k : Int) < l.length := by omega
  generalize ho : opAt l k = o at *
  replace ho := show Hid _ from ho
  go_upto_region 2 with (first | ((with_reducible refine wpList_load42 rfl _ rfl _ rfl _ A1 ?_); simp only [Act.put, List.setIfInBounds_toArray, List.set_cons_succ, List.set_cons_zero]) | ((with_reducible refine wpList_store_new Hn rfl 45 _ _ rfl (opA o) rfl rfl (op_inf _) (by kernel_rfl) (op_one _) ?_); clear Hn; intro w2 Hn; simp only [Act.put, List.setIfInBounds_toArray, List.set_cons_succ, List.set_cons_zero]))
  have X : LsW w pc words el (.slice (some ra) l.length c1) l o b1 w1.heap.size w2 := ⟨keepRow r1 Hn.below, Hn.get List.mem_cons_self, O1.grow Hn.below, below_then hb1 (Nat.le_refl _) Hn.below⟩
  generalize w1.heap.size = t5 at X ⊢
  clear Hn r1 A1 O1 hb1 z3
  go_upto_region 3 with fail
  go_loopw [6] (fun s6 wr => ∃ n : Nat, s6 = vI ((n : Int) - 1) ∧ n ≤ k ∧ Hid (lastI l o k = lastI l o n) ∧ LsW w pc words el (.slice (some ra) l.length c1) l o b1 t5 wr) (fun s6 _ => (intOf s6 + 1).toNat)
  case atStart => exact ⟨k, rfl, Nat.le_refl _, rfl, X⟩
  case round =>
    clear X
    obtain ⟨n, rfl, hn, hlast, X⟩ := hrel
    cases n with
    | zero =>
      have hB := X.below
      go_wp2
      go_ret
      refine ⟨?_, hB⟩
      rw [ho.out, hlast.out]; rfl
    | succ i =>
      have ei : (((i + 1 : Nat) : Int) - 1) = i := by omega
      rw [ei]
      have hik : i < k := by omega
      have hil : i < l.length := by omega
      have hii : (i : Int) < l.length := by omega
      obtain ⟨rb, cb, e1, h1⟩ := X.ops.cell (by omega)
      cases e1
      have A1 := h1 i _ (opAt_some hil)
      have z3 := bl_c3 X.r1
      have Hn := has_none wr
      clear h1
      generalize hx : opAt l i = x at *
      replace hx := show Hid _ from hx
      go_upto_region 6 with (first | ((with_reducible refine wpList_load42 rfl _ rfl _ rfl _ A1 ?_); simp only [Act.put, List.setIfInBounds_toArray, List.set_cons_succ, List.set_cons_zero]) | ((with_reducible refine wpList_store_new Hn rfl 45 _ _ rfl (opA x) rfl rfl (op_inf _) (by kernel_rfl) (op_one _) ?_); clear Hn; intro w3 Hn; simp only [Act.put, List.setIfInBounds_toArray, List.set_cons_succ, List.set_cons_zero]))
      have r7 : w3.heap[wr.heap.size]? = some (.cells (opA x) 45) := Hn.get List.mem_cons_self
      replace X := X.grow Hn.below
      clear Hn A1 z3
      generalize wr.heap.size = t7 at *
      have y0 := op_c0 X.r5
      have y1 := op_c1 X.r5
      have x0 := op_c0 r7
      have x1 := op_c1 r7
      obtain ⟨kx, rx, ax, bx, ox, ix⟩ := x
      obtain ⟨ko, ro, ao, bo, oo, io⟩ := o
      dsimp only at hO x0 x1 y0 y1
      have hhit : hitB ⟨ko, ro, ao, bo, oo, io⟩ (opAt l i) = (if ko = 2 then (kx == 3 || kx == 2) && rx == ro else if ko = 4 then kx == 5 || kx == 4 else if ko = 6 then (kx == 7 || kx == 6) && rx == ro else false) := by rw [hx.out]; rfl
      cases hh : hitB ⟨ko, ro, ao, bo, oo, io⟩ (opAt l i) with
      | true =>
        have hres : lastI l ⟨ko, ro, ao, bo, oo, io⟩ k = i := by rw [hlast.out]; exact last_yes hh
        rw [hh] at hhit
        replace hres := show Hid _ from hres
        have hB := X.below
        clear X hlast hx r7 hh
        rcases hO with rfl | rfl | rfl
        · have hq : (kx = 3 ∨ kx = 2) ∧ rx = ro := by simpa using hhit.symm
          clear hhit
          obtain ⟨hq, rfl⟩ := hq
          rcases hq with rfl | rfl <;> (go_wp2; go_ret; exact ⟨by rw [ho.out, hres.out]; rfl, hB⟩)
        · have hq : (kx = 5 ∨ kx = 4) := by simpa using hhit.symm
          clear hhit
          rcases hq with rfl | rfl <;> (go_wp2; go_ret; exact ⟨by rw [ho.out, hres.out]; rfl, hB⟩)
        · have hq : (kx = 7 ∨ kx = 6) ∧ rx = ro := by simpa using hhit.symm
          clear hhit
          obtain ⟨hq, rfl⟩ := hq
          rcases hq with rfl | rfl <;> (go_wp2; go_ret; exact ⟨by rw [ho.out, hres.out]; rfl, hB⟩)
      | false =>
        have hl2 : Hid (lastI l ⟨ko, ro, ao, bo, oo, io⟩ k = lastI l ⟨ko, ro, ao, bo, oo, io⟩ i) := by
          show _ = _
          rw [hlast.out]; exact last_no hh
        rw [hh] at hhit
        clear hlast hx r7 hh
        rcases hO with rfl | rfl | rfl
        · have hq : ((kx == 3) = false ∧ (kx == 2) = false) ∨ (rx == ro) = false := by
            have := hhit.symm
            rw [if_pos rfl, Bool.and_eq_false_iff, Bool.or_eq_false_iff] at this
            exact this
          clear hhit
          by_cases hr : (rx == ro) = true
          · have hq2 : (kx == 3) = false ∧ (kx == 2) = false := by
              rcases hq with q | q
              · exact q
              · rw [hr] at q; cases q
            obtain ⟨e3, e2⟩ := hq2
            clear hq
            (go_wp2; go_roundw; (case rel => exact ⟨i, rfl, by omega, hl2, X⟩); (case measure => simp [intOf]))
          · have hr : (rx == ro) = false := by simpa using hr
            clear hq
            cases e3 : (kx == 3) <;> cases e2 : (kx == 2) <;> (go_wp2; go_roundw; (case rel => exact ⟨i, rfl, by omega, hl2, X⟩); (case measure => simp [intOf]))
        · have hq : (kx == 5) = false ∧ (kx == 4) = false := by
            have := hhit.symm
            rw [if_neg (by decide), if_pos rfl, Bool.or_eq_false_iff] at this
            exact this
          clear hhit
          obtain ⟨e3, e2⟩ := hq
          (go_wp2; go_roundw; (case rel => exact ⟨i, rfl, by omega, hl2, X⟩); (case measure => simp [intOf]))
        · have hq : ((kx == 7) = false ∧ (kx == 6) = false) ∨ (rx == ro) = false := by
            have := hhit.symm
            rw [if_neg (by decide), if_neg (by decide), if_pos rfl, Bool.and_eq_false_iff, Bool.or_eq_false_iff] at this
            exact this
          clear hhit
          by_cases hr : (rx == ro) = true
          · have hq2 : (kx == 7) = false ∧ (kx == 6) = false := by
              rcases hq with q | q
              · exact q
              · rw [hr] at q; cases q
            obtain ⟨e3, e2⟩ := hq2
            clear hq
            (go_wp2; go_roundw; (case rel => exact ⟨i, rfl, by omega, hl2, X⟩); (case measure => simp [intOf]))
          · have hr : (rx == ro) = false := by simpa using hr
            clear hq
            cases e3 : (kx == 7) <;> cases e2 : (kx == 6) <;> (go_wp2; go_roundw; (case rel => exact ⟨i, rfl, by omega, hl2, X⟩); (case measure => simp [intOf]))
end
end Go.Proofs.Ytilhjbhhgpoajaa
/- simple. -/
namespace Go.Proofs.Ytilhjbhhgpoajaa
open Go.RowKit
set_option linter.unusedVariables false
set_option linter.unusedSimpArgs false
set_option maxRecDepth 8000

section
variable {w : World} {l : List Opr} {v : Value} {pc words el : Int}
set_option maxHeartbeats 1000000 in
theorem simple_c (O : Ops w v l) (hR : rightB pc words el l = true) {k : Nat} (hk : k < l.length) (hS : simB l k = true) : Calls Try.prog 14 #[blV pc words el v, vI k] w fun e w' => e = .returned (.bool true) ∧ Below w.heap.size w w' := by
  have hl := (right_first hR).2.1
  have P := right_ok hR hk
  have hb1 := below_alloc w (.cells (blA pc words el v) 25)
  have r1 := heap_alloc_new w (.cells (blA pc words el v) 25)
  have O1 := O.grow hb1
  obtain ⟨ra, c1, rfl, h1⟩ := O1.cell (by omega)
  have A1 := h1 k _ (opAt_some hk)
  have z3 := bl_c3 r1
  go_enter Try.func14, Try.ntmps14
  go_upto_region 1 with fail
  generalize w.alloc (.cells (blA pc words el (.slice (some ra) l.length c1)) 25) = w1 at *
  generalize hb : w.heap.size = b1 at r1 z3
  replace hb := show Hid _ from hb
  have Hn := has_none w1
  clear O h1
  have hkk : (k : Int) < l.length := by omega
  unfold simB at hS
  have hPa : hasP (opAt l k).kind 2 = true → ∃ j : Nat, (opAt l k).a = j ∧ j < l.length := fun e => ⟨(opAt l k).a.toNat, by have := P.a e; omega, by have := P.a e; omega⟩
  have hPb : hasP (opAt l k).kind 4 = true → ∃ j : Nat, (opAt l k).b = j ∧ j < l.length := fun e => ⟨(opAt l k).b.toNat, by have := P.b e; omega, by have := P.b e; omega⟩
  have hK := P.kind
  have kl : (opAt l k).kind = 2 ∨ (opAt l k).kind = 4 ∨ (opAt l k).kind = 6 → ∀ x, Ops x (.slice (some ra) l.length c1) l → Calls Try.prog 28 #[blV pc words el (.slice (some ra) l.length c1), vI k] x fun e w' => e = .returned (vI (lastI l (opAt l k) k)) ∧ Below x.heap.size x w' := fun h x Ox => last_c Ox hl hk h
  have hlk : lastI l (opAt l k) k < k := by
    have : ∀ j o, lastI l o j < j := by
      intro j o
      induction j with
      | zero => unfold lastI; decide
      | succ j ih => unfold lastI; split <;> omega
    exact this k _
  have hge : ∀ j o, -1 ≤ lastI l o j := by
    intro j o
    induction j with
    | zero => unfold lastI; decide
    | succ j ih => unfold lastI; split <;> omega
  replace hge := hge k (opAt l k)
  clear P
  generalize ho : opAt l k = o at *
  replace ho := show Hid _ from ho
  go_upto_region 2 with (first | ((with_reducible refine wpList_load42 rfl _ rfl _ rfl _ A1 ?_); simp only [Act.put, List.setIfInBounds_toArray, List.set_cons_succ, List.set_cons_zero]) | ((with_reducible refine wpList_store_new Hn rfl 45 _ _ rfl (opA o) rfl rfl (op_inf _) (by kernel_rfl) (op_one _) ?_); clear Hn; intro w2 Hn; simp only [Act.put, List.setIfInBounds_toArray, List.set_cons_succ, List.set_cons_zero]))
  have X : LsW w pc words el (.slice (some ra) l.length c1) l o b1 w1.heap.size w2 := ⟨keepRow r1 Hn.below, Hn.get List.mem_cons_self, O1.grow Hn.below, below_then hb1 (Nat.le_refl _) Hn.below⟩
  generalize w1.heap.size = t5 at X ⊢
  clear Hn r1 A1 O1 hb1 z3
  have cellA : ∀ (x : World), Ops x (.slice (some ra) l.length c1) l → ∀ j : Nat, j < l.length → OpAt x (ra.add (j * 6)) (opAt l j) := fun x Ox j hj => by
    obtain ⟨rb, cb, e1, h1⟩ := Ox.cell (by omega)
    cases e1
    exact h1 j _ (opAt_some hj)
  have z3 := bl_c3 X.r1
  have y0 := op_c0 X.r5
  have y2 := op_c2 X.r5
  have y3 := op_c3 X.r5
  have hB := X.below
  obtain ⟨ko, ro, ao, bo, oo, io⟩ := o
  dsimp only at hS hPa hPb hK kl y0 y2 y3
  rcases Decidable.em (ko = 8) with h8 | h8
  · subst h8
    rw [if_pos rfl] at hS
    obtain ⟨ja, rfl, hja⟩ := hPa hp8_2
    obtain ⟨jb, rfl, hjb⟩ := hPb hp8_4
    rw [Int.toNat_natCast, Int.toNat_natCast] at hS
    have xa := (cellA _ X.ops ja hja).c0
    have xb := (cellA _ X.ops jb hjb).c0
    have hja' : (ja : Int) < l.length := by omega
    have hjb' : (jb : Int) < l.length := by omega
    clear X hPa hPb kl cellA hlk
    generalize (opAt l ja).kind = ka at *
    generalize (opAt l jb).kind = kb at *
    cases e1 : (ka != 1) with
    | true =>
      clear hS
      go_wp2
      go_ret
      exact ⟨rfl, hB⟩
    | false =>
      have e2 : (kb != 1) = true := by simpa [e1] using hS
      clear hS
      go_wp2
      go_ret
      exact ⟨rfl, hB⟩
  · rw [if_neg h8] at hS
    rcases Decidable.em (ko = 15) with h15 | h15
    · subst h15
      rw [if_pos rfl] at hS
      obtain ⟨ja, rfl, hja⟩ := hPa hp15_2
      rw [Int.toNat_natCast] at hS
      have xa := (cellA _ X.ops ja hja).c0
      have hja' : (ja : Int) < l.length := by omega
      clear X hPa hPb kl cellA hlk
      generalize (opAt l ja).kind = ka at *
      go_wp2
      go_ret
      exact ⟨rfl, hB⟩
    · rw [if_neg h15] at hS
      rcases Decidable.em (ko = 2 ∨ ko = 4) with h24 | h24
      · rw [if_pos h24] at hS
        have hS := of_decide_eq_true hS
        have kq := kl (by omega) _ X.ops
        clear kl
        have k3 := X.r1
        generalize lastI l ⟨ko, ro, ao, bo, oo, io⟩ k = li at *
        obtain rfl : li = -1 := by omega
        clear X hPa hPb cellA hlk h8 h15 hge hS
        rcases h24 with rfl | rfl
        · go_wp2_with (first | ((with_reducible refine wpList_load_if rfl 25 _ rfl _ rfl 25 _ (0, 0) _ k3 Try.underlying25 rfl (bl_inf _ _ _ _) ?_); simp only [Act.put, List.setIfInBounds_toArray, List.set_cons_succ, List.set_cons_zero]) | (go_at_call 28; (with_reducible refine kq.mono ?_); clear kq; rintro e w4 ⟨rfl, B⟩; dsimp only))
          go_ret
          exact ⟨rfl, below_then hB (Nat.le_refl _) B⟩
        · go_wp2_with (first | ((with_reducible refine wpList_load_if rfl 25 _ rfl _ rfl 25 _ (0, 0) _ k3 Try.underlying25 rfl (bl_inf _ _ _ _) ?_); simp only [Act.put, List.setIfInBounds_toArray, List.set_cons_succ, List.set_cons_zero]) | (go_at_call 28; (with_reducible refine kq.mono ?_); clear kq; rintro e w4 ⟨rfl, B⟩; dsimp only))
          go_ret
          exact ⟨rfl, below_then hB (Nat.le_refl _) B⟩
      · rw [if_neg h24] at hS
        rcases Decidable.em (ko = 6) with h6 | h6
        · subst h6
          rw [if_pos rfl] at hS
          have kq := kl (.inr (.inr rfl)) _ X.ops
          clear kl
          have k3 := X.r1
          generalize lastI l ⟨6, ro, ao, bo, oo, io⟩ k = li at *
          clear hPa hPb h8 h15 h24
          go_upto_region 12 with (first | ((with_reducible refine wpList_load_if rfl 25 _ rfl _ rfl 25 _ (0, 0) _ k3 Try.underlying25 rfl (bl_inf _ _ _ _) ?_); simp only [Act.put, List.setIfInBounds_toArray, List.set_cons_succ, List.set_cons_zero]) | (go_at_call 28; (with_reducible refine kq.mono ?_); clear kq; rintro e w4 ⟨rfl, B⟩; dsimp only))
          replace X := X.grow B
          clear B z3 y0 y2 y3 k3 hB
          have hB := X.below
          have z3 := bl_c3 X.r1
          by_cases hneg : li < 0
          · obtain rfl : li = -1 := by omega
            clear hS X cellA hge hneg hlk
            go_quiet (fail)
            go_wp2
            go_ret
            exact ⟨rfl, below_then hB (Nat.le_refl _) (below_drewN (Below.refl _ w4) (n := nq))⟩
          · rw [decide_eq_false hneg, Bool.false_or, Bool.and_eq_true] at hS
            obtain ⟨n, rfl⟩ : ∃ n : Nat, li = n := ⟨li.toNat, by omega⟩
            rw [Int.toNat_natCast] at hS
            have hn0 : ¬ (n : Int) < 0 := by omega
            clear hB z3
            have hnl : n < l.length := by omega
            have hnl' : (n : Int) < l.length := by omega
            refine wp_region_still_tail 21 (by kernel_rfl) (by kernel_rfl) ?_
            replace X := X.grow (below_dr w4)
            generalize ({ w4 with drawn := w4.drawn + 1 } : World) = w5 at *
            have hB := X.below
            have z3 := bl_c3 X.r1
            have A := cellA _ X.ops n hnl
            have Pn := right_ok hR hnl
            have k7 : (opAt l n).kind = 7 := by simpa using hS.1
            have xa := A.c0
            rw [k7] at xa
            have ha := Pn.a (by rw [k7]; exact hp7_2)
            obtain ⟨j, hj⟩ : ∃ j : Nat, (opAt l n).a = j := ⟨(opAt l n).a.toNat, by omega⟩
            have hjl : j < l.length := by omega
            have hjl' : (j : Int) < l.length := by omega
            have hS2 := hS.2
            rw [hj, Int.toNat_natCast] at hS2
            have x2 := A.c2
            rw [hj] at x2
            have A2 := run_load42 (cellA _ X.ops j hjl)
            have kc := certain_c (opAt l j) w5
            have hcf : certB (opAt l j) = false := by simpa using hS2
            rw [hcf] at kc
            clear hS hS2 X A Pn k7 ha hj cellA hcf hge hneg hlk
            simp only [List.take_succ_cons, List.take_zero, List.drop_succ_cons, List.drop_zero]
            repeat (first | still_step | ((with_reducible refine still_row rfl _ _ rfl rfl A2 ?_); simp only [Act.put, List.setIfInBounds_toArray, List.set_cons_succ, List.set_cons_zero]))
            refine wpStill_nil ?_
            go_wp2_with (go_at_call 29; (with_reducible refine kc.mono ?_); clear kc; rintro e w6 ⟨rfl, B⟩; dsimp only)
            go_ret
            exact ⟨rfl, below_then hB (Nat.le_refl _) B⟩
        · have e2 : ¬ ko = 2 := fun e => h24 (.inl e)
          have e4 : ¬ ko = 4 := fun e => h24 (.inr e)
          clear hS hPa hPb kl cellA X hlk h24
          go_wp2
          go_ret
          exact ⟨rfl, hB⟩
end
end Go.Proofs.Ytilhjbhhgpoajaa
/- FoldSimple: the walk. -/
namespace Go.Proofs.Ytilhjbhhgpoajaa
open Go.RowKit
set_option linter.unusedVariables false
set_option linter.unusedSimpArgs false
set_option maxRecDepth 8000

section
variable {w : World} {pc words el : Int} {v : Value} {l : List Opr}
/-- What FoldSimple holds. -/
structure SyW (w : World) (pc words el : Int) (v : Value) (l : List Opr) (u : Value) (b1 t4 : Nat) (x : World) : Prop where
  r1 : x.heap[b1]? = some (.cells (blA pc words el v) 25)
  r4 : x.heap[t4]? = some (.cells (blA pc words el u) 25)
  ops : Ops x v l
  cm : OpsC x u (layAll l)
  below : Below w.heap.size w x
theorem SyW.grow {u : Value} {b1 t4 : Nat} {x y : World} (h : SyW w pc words el v l u b1 t4 x) (hb : Below x.heap.size x y) : SyW w pc words el v l u b1 t4 y :=
  ⟨keepRow h.r1 hb, keepRow h.r4 hb, h.ops.grow hb, h.cm.grow hb, below_then h.below (Nat.le_refl _) hb⟩
set_option maxHeartbeats 16000000 in
theorem simple_walk (hpc : 0 ≤ pc) (O : OpsIn w v l) (hl : l.length * 48 ≤ 140737488351232) : Calls Try.prog 4 #[blV pc words el v] w fun e w' => e = .returned (.bool true) ∧ Below w.heap.size w w' := by
  have hu := O.imm
  have hcapv := O.cap
  have hb0 := below_alloc w (.cells (blA pc words el v) 25)
  have r0 := heap_alloc_new w (.cells (blA pc words el v) 25)
  have O0 := O.ops.grow hb0
  clear O
  go_enter Try.func4, Try.ntmps4
  go_upto_region 1 with fail
  generalize w.alloc (.cells (blA pc words el v) 25) = w2 at *
  generalize hbb : w.heap.size = b1 at r0
  replace hbb := show Hid _ from hbb
  go_upto_region 2 with (first | (go_at_call 6; (with_reducible refine (examples_c _).mono ?_); rintro e w3 ⟨rfl, B⟩; dsimp only; have r1 := keepRow r0 B; have O1 := O0.grow B; have hB := below_then hb0 (Nat.le_refl _) B; clear r0 O0 hb0 B))
  have kb := block_c_all (words := words) (el := el) hpc O1 hu hcapv
  cases hR : rightB pc words el l with
  | false =>
    replace hR := show Hid _ from hR
    go_upto_region 3 with (first | ((with_reducible refine wpList_load_if rfl 25 _ rfl _ rfl 25 _ (0, 0) _ r1 Try.underlying25 rfl (bl_inf _ _ _ _) ?_); simp only [Act.put, List.setIfInBounds_toArray, List.set_cons_succ, List.set_cons_zero]) | (go_at_call 9; (with_reducible refine kb.mono ?_); clear kb; rintro e w7 ⟨B, ⟨hr, rfl⟩ | ⟨hr, _⟩⟩; rotate_left; (exfalso; rw [hR.out] at hr; cases hr); dsimp only; clear hr; have Hn := has_none w7) | ((with_reducible refine wpList_store_new Hn rfl 25 _ _ rfl (blA 0 0 0 (.slice none 0 0)) rfl rfl (bl_inf _ _ _ _) (by kernel_rfl) (blk_one _ _ _ _ rfl) ?_); clear Hn; intro w8 Hn; simp only [Act.put, List.setIfInBounds_toArray, List.set_cons_succ, List.set_cons_zero]))
    have hB2 := below_then (below_then hB (Nat.le_refl _) B) (Nat.le_refl _) Hn.below
    clear Hn B r1 O1
    go_wp2
    go_ret
    exact ⟨rfl, hB2⟩
  | true =>
    obtain ⟨rm, hml, hum⟩ := right_layAll hR hu
    obtain ⟨h0, h512, -⟩ := right_first hR
    obtain ⟨hm0, hm512, -⟩ := right_first rm
    have hidem := layAll_idem hR hu
    have hsim : ∀ k, k < (layAll l).length → simB (layAll l) k = true := fun k hk => sim_all rm hum hidem hk
    have hmany : ∀ kind : Int, 9 ≤ kind → kind ≤ 15 → manyN (layAll l) kind (layAll l).length ≤ manyN l kind l.length := fun kind h1 h2 => many_all hR h1 h2
    have hmm : (layAll l).length ≤ maxLen := by simp only [maxLen]; omega
    replace hR := show Hid _ from hR
    replace rm := show Hid _ from rm
    replace hidem := show Hid _ from hidem
    go_upto_region 3 with (first | ((with_reducible refine wpList_load_if rfl 25 _ rfl _ rfl 25 _ (0, 0) _ r1 Try.underlying25 rfl (bl_inf _ _ _ _) ?_); simp only [Act.put, List.setIfInBounds_toArray, List.set_cons_succ, List.set_cons_zero]) | (go_at_call 9; (with_reducible refine kb.mono ?_); clear kb; rintro e w7 ⟨B, ⟨hr, _⟩ | ⟨hr, u, rfl, hown⟩⟩; (exfalso; rw [hR.out] at hr; cases hr); dsimp only; clear hr; have Hn := has_none w7; have hone : u.oneCell' = true := (opsC_of hown hmm).one) | ((with_reducible refine wpList_store_new Hn rfl 25 _ _ rfl (blA pc words el u) rfl rfl (bl_inf _ _ _ _) (by kernel_rfl) (blk_one _ _ _ _ hone) ?_); clear Hn; intro w8 Hn; simp only [Act.put, List.setIfInBounds_toArray, List.set_cons_succ, List.set_cons_zero]))
    have X : SyW w pc words el v l u b1 w7.heap.size w8 := ⟨keepRow (keepRow r1 B) Hn.below, Hn.get List.mem_cons_self, (O1.grow B).grow Hn.below, (opsC_of hown hmm).grow Hn.below, below_then (below_then hB (Nat.le_refl _) B) (Nat.le_refl _) Hn.below⟩
    clear Hn B r1 O1 hown hone hB
    generalize w7.heap.size = t4 at *
    have himm2 : ∀ k, 0 ≤ (opAt (layAll l) k).imm := fun k => (hum k).1
    have kr := dRight_c (words := words) (el := el) hpc X.cm.ops himm2 X.cm.cap
    rw [rm.out] at kr
    have k4 := X.r4
    go_upto_region 6 with (first | ((with_reducible refine wpList_load_if rfl 25 _ rfl _ rfl 25 _ (0, 0) _ k4 Try.underlying25 rfl (bl_inf _ _ _ _) ?_); simp only [Act.put, List.setIfInBounds_toArray, List.set_cons_succ, List.set_cons_zero]) | (go_at_call 7; (with_reducible refine kr.mono ?_); clear kr; rintro e w9 ⟨rfl, B⟩; dsimp only))
    replace X := X.grow B
    clear B k4
    obtain ⟨a1, c1, rfl⟩ := X.ops.len
    obtain ⟨a2, c2, rfl⟩ := X.cm.ops.len
    have z4 := bl_c3 X.r4
    have z1 := bl_c3 X.r1
    have hle : ¬ ((l.length : Nat) : Int) < ((layAll l).length : Nat) := by omega
    go_upto_region 8 with fail
    clear z4 z1 hle
    go_upto_region 9 with fail
    go_loopw [7] (fun s7 wr => ∃ k : Nat, s7 = vI k ∧ k ≤ (layAll l).length ∧ SyW w pc words el (.slice a1 l.length c1) l (.slice a2 (layAll l).length c2) b1 t4 wr) (fun s7 _ => (layAll l).length - (intOf s7).toNat)
    case atStart => exact ⟨0, rfl, Nat.zero_le _, X⟩
    case round =>
      clear X
      obtain ⟨k, rfl, hk, X⟩ := hrel
      have z4 := bl_c3 X.r4
      have k4 := X.r4
      by_cases hlt : (k : Int) < (layAll l).length
      · have hkl : k < (layAll l).length := by omega
        have kq := simple_c (pc := pc) (words := words) (el := el) X.cm.ops rm.out hkl (hsim k hkl)
        go_upto_region 12 with (first | ((with_reducible refine wpList_load_if rfl 25 _ rfl _ rfl 25 _ (0, 0) _ k4 Try.underlying25 rfl (bl_inf _ _ _ _) ?_); simp only [Act.put, List.setIfInBounds_toArray, List.set_cons_succ, List.set_cons_zero]) | (go_at_call 14; (with_reducible refine kq.mono ?_); clear kq; rintro e w9 ⟨rfl, B⟩; dsimp only))
        replace X := X.grow B
        clear B k4 z4
        go_wp2
        go_roundw
        case rel => exact ⟨k + 1, by go_num, by omega, X⟩
        case measure => simp [intOf]; omega
      · clear k4 hsim
        go_upto_region 15 with fail
        clear z4 hk hlt
        go_loopw [9] (fun s9 wr => ∃ kd : Int, s9 = vI kd ∧ 9 ≤ kd ∧ kd ≤ 16 ∧ SyW w pc words el (.slice a1 l.length c1) l (.slice a2 (layAll l).length c2) b1 t4 wr) (fun s9 _ => 16 - (intOf s9).toNat)
        case atStart => exact ⟨9, rfl, by omega, by omega, X⟩
        case round =>
          clear X
          obtain ⟨kd, rfl, hk1, hk2, X⟩ := hrel
          by_cases hlt : kd ≤ 15
          · have hm := hmany kd hk1 hlt
            have hnm : decide (((manyN l kd l.length : Nat) : Int) < ((manyN (layAll l) kd (layAll l).length : Nat) : Int)) = false := decide_eq_false (by omega)
            clear hm
            go_upto_region 17 with fail
            refine RelQ.wp_region_rel RelQ.Grows (fun _ _ => False) (fun _ _ _ h _ => h.elim) (SyW w pc words el (.slice a1 l.length c1) l (.slice a2 (layAll l).length c2) b1 t4) [.inl (blV pc words el (.slice a2 (layAll l).length c2)), .inl (vI kd), .inl (vI (manyN (layAll l) kd (layAll l).length)), .inl (blV pc words el (.slice a1 l.length c1)), .inl (vI kd), .inl (vI (manyN l kd l.length)), .inl (.bool (decide (((manyN l kd l.length : Nat) : Int) < ((manyN (layAll l) kd (layAll l).length : Nat) : Int))))] (by kernel_rfl) (by kernel_rfl) RelQ.grows_refl (fun _ _ h hb => h.grow hb) (X.grow (below_dr wr)) (by simp [RelQ.upK]) ?_
            refine ⟨fun w3 hC hf => RelQ.uponG_yes rfl (by exact rel_loadBb hC.r4), ?_⟩
            simp only [Act.put, List.setIfInBounds_toArray, List.set_cons_succ, List.set_cons_zero]
            refine ⟨fun w3 hC _ => RelQ.uponG_yes rfl ((by go_simp; first | exact RelQ.grows_refl _ | exact ⟨RelQ.grows_refl _, rfl⟩)), ?_⟩
            simp only [Act.put, List.setIfInBounds_toArray, List.set_cons_succ, List.set_cons_zero]
            refine ⟨fun w3 hC hf => RelQ.uponG_yes rfl ((by go_simp; refine (many_c (pc := pc) (words := words) (el := el) hC.cm.ops hm512 kd).mono ?_; rintro e w4 ⟨rfl, hb⟩; first | exact ⟨rfl, hb⟩ | exact ⟨hb, rfl⟩ | exact .inl ⟨_, rfl, hb, rfl⟩ | exact .inl ⟨rfl, hb⟩)), ?_⟩
            simp only [Act.put, List.setIfInBounds_toArray, List.set_cons_succ, List.set_cons_zero]
            refine ⟨fun w3 hC hf => RelQ.uponG_yes rfl (by exact rel_loadBb hC.r1), ?_⟩
            simp only [Act.put, List.setIfInBounds_toArray, List.set_cons_succ, List.set_cons_zero]
            refine ⟨fun w3 hC _ => RelQ.uponG_yes rfl ((by go_simp; first | exact RelQ.grows_refl _ | exact ⟨RelQ.grows_refl _, rfl⟩)), ?_⟩
            simp only [Act.put, List.setIfInBounds_toArray, List.set_cons_succ, List.set_cons_zero]
            refine ⟨fun w3 hC hf => RelQ.uponG_yes rfl ((by go_simp; refine (many_c (pc := pc) (words := words) (el := el) hC.ops h512 kd).mono ?_; rintro e w4 ⟨rfl, hb⟩; first | exact ⟨rfl, hb⟩ | exact ⟨hb, rfl⟩ | exact .inl ⟨_, rfl, hb, rfl⟩ | exact .inl ⟨rfl, hb⟩)), ?_⟩
            simp only [Act.put, List.setIfInBounds_toArray, List.set_cons_succ, List.set_cons_zero]
            refine ⟨fun w3 hC _ => RelQ.uponG_yes rfl ((by go_simp; first | exact RelQ.grows_refl _ | exact ⟨RelQ.grows_refl _, rfl⟩)), ?_⟩
            simp only [Act.put, List.setIfInBounds_toArray, List.set_cons_succ, List.set_cons_zero]
            intro w9 X9 _
            rw [hnm]
            clear X
            go_wp2
            go_roundw
            case rel => exact ⟨kd + 1, by go_num, by omega, by omega, X9⟩
            case measure => simp [intOf]; omega
          · clear hmany
            have kb := block_c_all (words := words) (el := el) hpc X.cm.ops hum X.cm.cap
            rw [hidem.out] at kb
            have k4 := X.r4
            go_upto_region 20 with (first | ((with_reducible refine wpList_load_if rfl 25 _ rfl _ rfl 25 _ (0, 0) _ k4 Try.underlying25 rfl (bl_inf _ _ _ _) ?_); simp only [Act.put, List.setIfInBounds_toArray, List.set_cons_succ, List.set_cons_zero]) | (go_at_call 9; (with_reducible refine kb.mono ?_); clear kb; rintro e w10 ⟨B, ⟨hr, _⟩ | ⟨hr, u2, rfl, hown⟩⟩; (exfalso; rw [rm.out] at hr; cases hr); dsimp only; clear hr; have Hn := has_none w10; have hone : u2.oneCell' = true := (opsC_of hown hmm).one) | ((with_reducible refine wpList_store_new Hn rfl 25 _ _ rfl (blA pc words el u2) rfl rfl (bl_inf _ _ _ _) (by kernel_rfl) (blk_one _ _ _ _ hone) ?_); clear Hn; intro w11 Hn; simp only [Act.put, List.setIfInBounds_toArray, List.set_cons_succ, List.set_cons_zero]))
            have r10 : w11.heap[w10.heap.size]? = some (.cells (blA pc words el u2) 25) := Hn.get List.mem_cons_self
            have C2 := (opsC_of hown hmm).grow Hn.below
            replace X := (X.grow B).grow Hn.below
            clear Hn B hown hone k4
            generalize w10.heap.size = t10 at *
            have ks := step_c_all (words := words) (el := el) hpc X.cm.ops hum X.cm.cap
            rw [hidem.out, show (!(decide (layAll l = layAll l))) = false by simp] at ks
            have k4 := X.r4
            go_upto_region 21 with (first | ((with_reducible refine wpList_load_if rfl 25 _ rfl _ rfl 25 _ (0, 0) _ k4 Try.underlying25 rfl (bl_inf _ _ _ _) ?_); simp only [Act.put, List.setIfInBounds_toArray, List.set_cons_succ, List.set_cons_zero]) | (go_at_call 10; (with_reducible refine ks.mono ?_); clear ks; rintro e w12 ⟨B, ⟨hr, _⟩ | ⟨hr, u3, rfl, hown⟩⟩; (exfalso; rw [rm.out] at hr; cases hr); dsimp only; clear hr; have Hn := has_none w12; have hone : u3.oneCell' = true := (opsC_of hown hmm).one) | ((with_reducible refine wpList_store_new Hn rfl 25 _ _ rfl (blA pc words el u3) rfl rfl (bl_inf _ _ _ _) (by kernel_rfl) (blk_one _ _ _ _ hone) ?_); clear Hn; intro w13 Hn; simp only [Act.put, List.setIfInBounds_toArray, List.set_cons_succ, List.set_cons_zero]))
            have r12 : w13.heap[w12.heap.size]? = some (.cells (blA pc words el u3) 25) := Hn.get List.mem_cons_self
            have C3 := (opsC_of hown hmm).grow Hn.below
            replace X := (X.grow B).grow Hn.below
            replace r10 := keepRow (keepRow r10 B) Hn.below
            replace C2 := (C2.grow B).grow Hn.below
            clear Hn B hown hone k4
            generalize w12.heap.size = t12 at *
            have k4 := X.r4
            have ksm := same_c (pc := pc) (words := words) (el := el) C2.ops X.cm.ops
            rw [show decide (layAll l = layAll l) = true by simp] at ksm
            go_upto_region 22 with (first | ((with_reducible refine wpList_load_if rfl 25 _ rfl _ rfl 25 _ (0, 0) _ r10 Try.underlying25 rfl (bl_inf _ _ _ _) ?_); simp only [Act.put, List.setIfInBounds_toArray, List.set_cons_succ, List.set_cons_zero]) | ((with_reducible refine wpList_load_if rfl 25 _ rfl _ rfl 25 _ (0, 0) _ k4 Try.underlying25 rfl (bl_inf _ _ _ _) ?_); simp only [Act.put, List.setIfInBounds_toArray, List.set_cons_succ, List.set_cons_zero]) | (go_at_call 12; (with_reducible refine ksm.mono ?_); clear ksm; rintro e w14 ⟨rfl, B⟩; dsimp only))
            replace X := X.grow B
            replace r12 := keepRow r12 B
            replace C3 := C3.grow B
            clear B k4 r10 C2
            have k4 := X.r4
            have ksm := same_c (pc := pc) (words := words) (el := el) C3.ops X.cm.ops
            rw [show decide (layAll l = layAll l) = true by simp] at ksm
            go_upto_region 23 with (first | ((with_reducible refine wpList_load_if rfl 25 _ rfl _ rfl 25 _ (0, 0) _ r12 Try.underlying25 rfl (bl_inf _ _ _ _) ?_); simp only [Act.put, List.setIfInBounds_toArray, List.set_cons_succ, List.set_cons_zero]) | ((with_reducible refine wpList_load_if rfl 25 _ rfl _ rfl 25 _ (0, 0) _ k4 Try.underlying25 rfl (bl_inf _ _ _ _) ?_); simp only [Act.put, List.setIfInBounds_toArray, List.set_cons_succ, List.set_cons_zero]) | (go_at_call 12; (with_reducible refine ksm.mono ?_); clear ksm; rintro e w15 ⟨rfl, B⟩; dsimp only))
            have hB := (X.grow B).below
            clear X B k4 r12 C3
            go_wp2
            go_ret
            exact ⟨rfl, hB⟩
end
end Go.Proofs.Ytilhjbhhgpoajaa
