/- FetchAgrees: the walk. -/
import Derived.Test.YtbdmemjenpnjgaaLc
import Derived.Test.YtbdmemjenpnjgaaFr
namespace Go.Proofs.Ytbdmemjenpnjgaa
open Go.RowKit
set_option linter.unusedVariables false
set_option linter.unusedSimpArgs false
set_option maxRecDepth 8000

open Go.Shelf Go.Maps
theorem own_apart {w : World} {b1 b2 s1 s2 n m : Nat} {t1 t2 : TypeId} {u v : Value} {xs ys : List Value} (h : w.ownsRow b1 t1 s1 u n xs) (k : w.ownsRow b2 t2 s2 v m ys) (hne : t1 ≠ t2) : u.ownBlock = none ∨ u.ownBlock ≠ v.ownBlock := by
  cases hu : u.ownBlock with
  | none => exact .inl rfl
  | some q =>
    right
    intro e
    obtain ⟨C, _, hC⟩ := own_kind h hu
    exact own_ne hC k hne e.symm
structure AgI (w : World) (fb first : Nat) (l : List Nt) (u : Value) (W : World) : Prop where
  row : W.ownsRow w.heap.size 34 4 u l.length (ntF l)
  box : Boxed W fb 24 (v32 first)
  low : Below w.heap.size w W
  ok : TrOk l
  good : ∀ j, j < l.length → badAt l (fun _ => first) j = false
theorem AgI.grow {w W W' : World} {fb first : Nat} {l : List Nt} {u : Value} (h : AgI w fb first l u W) (t : Below W.heap.size W W') : AgI w fb first l u W' :=
  ⟨own_grow h.row t, boxed_grow h.box t, h.low.trans (t.mono h.low.size), h.ok, h.good⟩
theorem AgI.app {w W W' : World} {fb first : Nat} {l : List Nt} {u u' : Value} {n : Nt} {o : Obj} (h : AgI w fb first l u W) (hown : W'.ownsRow w.heap.size 34 4 u' (l ++ [n]).length (ntF (l ++ [n]))) (hg : (W.alloc o).grownBy W' u.ownBlock) (okn : NtOk n) (hb : badAt (l ++ [n]) (fun _ => first) l.length = false) : AgI w fb first (l ++ [n]) u' W' := by
  have hg' : W.grownBy W' u.ownBlock := (World.grownBy_alloc _ _ _).trans hg
  refine ⟨hown, (hg'.block _ h.box.lt (fun e => own_ne h.box h.row (by decide) e.symm)).trans h.box, h.low.trans ((goes_grown (F := fun k => u.ownBlock = some k) hg' (fun k hk => hk)).below h.low.size (fun k hk => (h.row.lt k hk).1)), fun m hm => ?_, fun j hj => ?_⟩
  · rcases List.mem_append.1 hm with e | e
    · exact h.ok m e
    · rw [List.mem_singleton.1 e]; exact okn
  · by_cases e : j = l.length
    · rw [e]; exact hb
    · have : j < l.length := by rw [List.length_append, List.length_singleton] at hj; omega
      rw [badAt_app this]; exact h.good j this
theorem AgI.cell {w W : World} {fb first t : Nat} {l : List Nt} {u : Value} (h : AgI w fb first l u W) (h1 : u.ownBlock ≠ some t) (h2 : fb ≠ t) (h3 : w.heap.size ≤ t) (v : Value) : AgI w fb first l u (W.setCell ⟨t, 3, none⟩ v) :=
  ⟨own_of_block h.row fun k hk => Below.heap_setCell _ _ _ _ (fun e => h1 (by rw [hk]; exact congrArg some e)), (Below.heap_setCell _ _ _ _ h2).trans h.box, h.low.setCell (p := ⟨t, 3, none⟩) h3 v, h.ok, h.good⟩
theorem mayL_lt {tr : List Nt} {c : Int} {a f : Nat} (ok : TrOk tr) (hf : f < 4294967296) : ∀ x ∈ mayL tr c a f, x < 4294967296 := fun x hx => by
  have hx := List.mem_of_mem_drop ((mayL_mem _ _ _ _ _).1 hx)
  rcases List.mem_cons.1 hx with rfl | hx
  · exact hf
  · obtain ⟨n, hn, rfl⟩ := List.mem_map.1 hx
    exact (ok n (List.mem_filter.1 hn).1).word
theorem rem_nat {z : Int} (hz : 0 ≤ z) {m : Nat} (hm : 0 < m) : ∃ p : Nat, p < m ∧ z.tmod (m : Int) = (p : Int) := by
  refine ⟨z.toNat % m, Nat.mod_lt _ hm, ?_⟩
  rw [Int.natCast_emod, Int.toNat_of_nonneg hz, Int.tmod_eq_emod_of_nonneg hz]
/-- What is picked. -/
def pickN (z : Int) (m : Nat) : Nat := (if z < 0 then (-(z + 1)) else z).toNat % m
theorem pick_eq {z : Int} {m : Nat} (hm : 0 < m) (h : I64 z) (hz : 0 ≤ z) : z.tmod (m : Int) = (pickN z m : Nat) := by
  unfold pickN
  rw [if_neg (by omega), Int.natCast_emod, Int.toNat_of_nonneg hz, Int.tmod_eq_emod_of_nonneg hz]
set_option maxHeartbeats 2000000 in
theorem agrees_walk {tr : List Nt} {v0 v1 : Value} {zs : List Int} {first bad : Nat} {w : World} (N : Nts w v0 tr) (ok : TrOk tr) (Z : Raw w v1 zs) (hf : first < 4294967296) (hbad : bad < 4294967296) : Calls Try.prog 7 #[v0, v1, v32 first, v32 bad] w fun e w' => e = .returned (.bool true) ∧ Below w.heap.size w w' := by
  obtain ⟨ao, cap, ev⟩ := N.len
  subst ev
  obtain ⟨bo, cap1, ev⟩ := Z.len
  subst ev
  have hmax := N.max
  have hzmax := Z.max
  simp only [maxLen] at hzmax
  have B0 := below_alloc w (.cells #[v32 first] 24)
  have x0 := Boxed.new w 24 (v32 first)
  go_enter Try.func7, Try.ntmps7
  go_upto_region 1 with fail
  obtain ⟨fb, hfb⟩ : ∃ fb, fb = w.heap.size := ⟨_, rfl⟩
  rw [← hfb] at x0
  rw [← hfb]
  generalize w.alloc (.cells #[v32 first] 24) = w1 at *
  clear hfb
  have ke := examples_c w1
  go_wp2_with (go_at_call 8; (with_reducible refine ke.mono ?_); clear ke; rintro e w2 ⟨rfl, B2⟩; dsimp only)
  have hI0 : AgI w fb first [] (.slice none 0 0) w2 := ⟨World.ownsRow_nil _ _ _ _, boxed_grow x0 B2, below_then B0 (Nat.le_refl _) B2, (fun _ h => by cases h), (fun j h => absurd h (Nat.not_lt_zero _))⟩
  go_loopw [11, 12] (fun s11 s12 wr => ∃ (k : Nat) (l : List Nt), k ≤ 60 ∧ k ≤ tr.length ∧ l.length = k ∧ s12 = vI k ∧ AgI w fb first l s11 wr) (fun _ s12 _ => ((tr.length : Int) - intOf s12).toNat)
  case atStart => exact ⟨0, [], by omega, by omega, rfl, rfl, hI0⟩
  case round =>
    obtain ⟨k, l, hk60, hkl, hlk, rfl, hI⟩ := hrel
    clear hI0 x0 B0 B2
    by_cases hlt : k < tr.length ∧ k < 60
    · obtain ⟨hlt1, hlt2⟩ := hlt
      have hi1 : (k : Int) < tr.length := by omega
      have hi2 : (k : Int) < 60 := by omega
      obtain ⟨n, hn⟩ : ∃ n, tr[k]? = some n := ⟨tr[k], List.getElem?_eq_getElem hlt1⟩
      have okn := ok n (List.mem_of_getElem? hn)
      obtain ⟨ra, cap', ev', hc⟩ := (N.low hI.low.size fun b hb => hI.low.block b hb).cell (by omega)
      cases ev'
      obtain ⟨_, c0, c1, c2, c3⟩ := hc k n hn
      clear hc
      replace hlk : Hid (l.length = k) := hlk
      go_upto_region 8 with fail
      have L3 := LocN.new wr n
      have hI3 := hI.grow (below_alloc wr (.cells (ntA n) 34))
      have hap : u11.ownBlock ≠ some wr.heap.size := fun e => Nat.lt_irrefl _ (hI.row.lt _ e).2
      have hbx : fb ≠ wr.heap.size := Nat.ne_of_lt hI.box.lt
      have htl : w.heap.size ≤ wr.heap.size := hI.low.size
      have hZ := Z.grow hI.low
      clear c0 c1 c2 c3 hI
      obtain ⟨t, ht⟩ : ∃ t, t = wr.heap.size := ⟨_, rfl⟩
      rw [← ht] at L3 hap hbx htl
      rw [← ht]
      generalize wr.alloc (Obj.cells _ 34) = w3 at *
      clear ht
      by_cases h5 : n.kind = 5
      · replace h5 : Hid (n.kind = 5) := h5
        have kM := may_all (f := first) (c := n.core) (own_nts hI3.row (by have := hlk.out; omega)) hI3.ok okn.addr hf
        have d0 := L3.c0
        rw [h5.out] at d0
        have d1 := L3.c1
        have d2 := L3.c2
        have dx := hI3.box.cell
        go_upto_region 10 with (go_at_call 10; (with_reducible refine kM.mono ?_); clear kM; rintro e w4 ⟨uM, rfl, RM, B4⟩; dsimp only)
        have hI4 := hI3.grow B4
        have L4 := L3.grow B4
        have htw : t < w3.heap.size := L3.lt
        clear d0 d1 d2 dx
        cases hmo : mayOk l n.core n.addr with
        | false =>
          have e1 : mayE l n.core n.addr = 1 := by unfold mayE; rw [hmo]; rfl
          rw [e1]
          go_wp2
          go_ret
          exact ⟨rfl, hI4.low⟩
        | true =>
          have e1 : mayE l n.core n.addr = 0 := by unfold mayE; rw [hmo]; rfl
          have e2 : mayW l n.core n.addr first = mayL l n.core n.addr first := by unfold mayW; rw [hmo]; rfl
          rw [e1]
          rw [e2] at RM
          have hM0 := mayL_pos l n.core n.addr first
          have hM1 := mayL_len l n.core n.addr first
          have hM32 := mayL_lt (c := n.core) (a := n.addr) hI4.ok hf
          obtain ⟨M, hMe⟩ : ∃ M, mayL l n.core n.addr first = M := ⟨_, rfl⟩
          rw [hMe] at RM hM0 hM1 hM32
          replace hMe : Hid (mayL l n.core n.addr first = M) := hMe
          obtain ⟨gM, cM, rfl, _, _, _, hcM0, _⟩ := own_addr RM hM0
          have hcM : ∀ (i x : Nat), M[i]? = some x → w4.cell? ⟨gM, i, none⟩ = some (v32 x) := fun i x hx => by
            rw [hcM0 i (by have := (List.getElem?_eq_some_iff.1 hx).1; omega)]
            simp [hx]
          clear hcM0 e1 e2
          have hlen60 := hlk.out
          have hlz : ((M.length : Int) == 0) = false := beq_eq_false_iff_ne.2 (by omega)
          have hlz' : ¬ ((M.length : Int) = 0) := by omega
          by_cases hkz : k < zs.length
          · have hkz' : (k : Int) < zs.length := by omega
            obtain ⟨z, hz⟩ : ∃ z, zs[k]? = some z := ⟨zs[k], List.getElem?_eq_getElem hkz⟩
            obtain ⟨zw1, zw2⟩ := hZ.wf z (List.mem_of_getElem? hz)
            obtain ⟨rz, capz, evz, hcz⟩ := hZ.cell (by omega)
            cases evz
            have hB34 : Below w.heap.size w w4 := hI4.low
            obtain ⟨rz2, capz2, evz2, hcz2⟩ := (Z.grow hI4.low).cell (by omega)
            cases evz2
            have hcz := (hcz2 k z hz).2
            clear hcz2
            by_cases hneg : z < 0
            · have hng : ((z : Int) < 0) := hneg
              have hv1 : wrap64 (z + 1) = z + 1 := by unfold wrap64; omega
              have hv2 : wrap64 (-(z + 1)) = -(z + 1) := by unfold wrap64; omega
              go_upto_region 19 with fail
              obtain ⟨p, hp, hrem⟩ : ∃ p : Nat, p < M.length ∧ (-(z + 1) : Int).tmod (M.length : Int) = (p : Int) := rem_nat (by omega) hM0
              obtain ⟨y, hy⟩ : ∃ y, M[p]? = some y := ⟨M[p], List.getElem?_eq_getElem hp⟩
              have hcy := hcM p y hy
              have hy32 : y < 4294967296 := hM32 y (List.mem_of_getElem? hy)
              replace hy : Hid (M[p]? = some y) := hy
              have hpi : (p : Int) < M.length := by omega
              have hf3 : w4.frozen? ⟨t, 3, none⟩ = false := frozen_of_row _ _ _ _ _ L4
              have hc3 := L4.c3
              clear hcM
              go_upto_region 20 with fail
              have L5 : LocN t { n with word := y } (w4.setCell ⟨t, 3, none⟩ (v32 y)) := heap_setCell_same w4 t 3 _ 34 _ L4
              have hI5 : AgI w fb first l u11 (w4.setCell ⟨t, 3, none⟩ (v32 y)) := hI4.cell hap hbx htl _
              have okn' : NtOk { n with word := y } := ⟨okn.kind, okn.core, okn.addr, hy32⟩
              have hbn : badAt (l ++ [{ n with word := y }]) (fun _ => first) l.length = false := by
                rw [badAt_last]
                have hmem : y ∈ mayL l n.core n.addr first := by rw [hMe.out]; exact List.mem_of_getElem? hy.out
                have := (mayL_mem l n.core n.addr first y).1 hmem
                simp [this]
              clear hcy hI4 L4 hc3 hf3 RM
              generalize w4.setCell { block := t, off := 3 } _ = w5 at *
              have g0 := L5.c0
              have g1 := L5.c1
              have g2 := L5.c2
              have g3 := L5.c3
              have hlen := hlk.out
              have hsz := hI5.low.size
              go_wp2_with (at_builtin; refine wpList_appN rfl _ _ rfl (tr := l) (ns := [({ n with word := y } : Nt)]) rfl rfl (own_grow hI5.row (below_alloc w5 (.cells (ntA ({ n with word := y } : Nt)) 34))) (by simp; omega) (World.alloc_heap_new _ _) rfl (by omega) ?_; intro v' w6 hown hgr _; simp only [Act.put, List.setIfInBounds_toArray, List.set_cons_succ, List.set_cons_zero])
              go_roundw
              case rel => exact ⟨k + 1, l ++ [({ n with word := y } : Nt)], by omega, by omega, by rw [List.length_append, List.length_singleton, hlen], by simp, hI5.app hown hgr okn' hbn⟩
              case measure => simp [intOf]; omega
            · have hnn : ¬ (z < 0) := hneg
              go_upto_region 19 with fail
              obtain ⟨p, hp, hrem⟩ : ∃ p : Nat, p < M.length ∧ (z : Int).tmod (M.length : Int) = (p : Int) := rem_nat (by omega) hM0
              obtain ⟨y, hy⟩ : ∃ y, M[p]? = some y := ⟨M[p], List.getElem?_eq_getElem hp⟩
              have hcy := hcM p y hy
              have hy32 : y < 4294967296 := hM32 y (List.mem_of_getElem? hy)
              replace hy : Hid (M[p]? = some y) := hy
              have hpi : (p : Int) < M.length := by omega
              have hf3 : w4.frozen? ⟨t, 3, none⟩ = false := frozen_of_row _ _ _ _ _ L4
              have hc3 := L4.c3
              clear hcM
              go_upto_region 20 with fail
              have L5 : LocN t { n with word := y } (w4.setCell ⟨t, 3, none⟩ (v32 y)) := heap_setCell_same w4 t 3 _ 34 _ L4
              have hI5 : AgI w fb first l u11 (w4.setCell ⟨t, 3, none⟩ (v32 y)) := hI4.cell hap hbx htl _
              have okn' : NtOk { n with word := y } := ⟨okn.kind, okn.core, okn.addr, hy32⟩
              have hbn : badAt (l ++ [{ n with word := y }]) (fun _ => first) l.length = false := by
                rw [badAt_last]
                have hmem : y ∈ mayL l n.core n.addr first := by rw [hMe.out]; exact List.mem_of_getElem? hy.out
                have := (mayL_mem l n.core n.addr first y).1 hmem
                simp [this]
              clear hcy hI4 L4 hc3 hf3 RM
              generalize w4.setCell { block := t, off := 3 } _ = w5 at *
              have g0 := L5.c0
              have g1 := L5.c1
              have g2 := L5.c2
              have g3 := L5.c3
              have hlen := hlk.out
              have hsz := hI5.low.size
              go_wp2_with (at_builtin; refine wpList_appN rfl _ _ rfl (tr := l) (ns := [({ n with word := y } : Nt)]) rfl rfl (own_grow hI5.row (below_alloc w5 (.cells (ntA ({ n with word := y } : Nt)) 34))) (by simp; omega) (World.alloc_heap_new _ _) rfl (by omega) ?_; intro v' w6 hown hgr _; simp only [Act.put, List.setIfInBounds_toArray, List.set_cons_succ, List.set_cons_zero])
              go_roundw
              case rel => exact ⟨k + 1, l ++ [({ n with word := y } : Nt)], by omega, by omega, by rw [List.length_append, List.length_singleton, hlen], by simp, hI5.app hown hgr okn' hbn⟩
              case measure => simp [intOf]; omega
          · have hkz' : ¬ (k : Int) < zs.length := by omega
            go_upto_region 19 with fail
            obtain ⟨p, hp, hrem⟩ : ∃ p : Nat, p < M.length ∧ (0 : Int).tmod (M.length : Int) = (p : Int) := rem_nat (by omega) hM0
            obtain ⟨y, hy⟩ : ∃ y, M[p]? = some y := ⟨M[p], List.getElem?_eq_getElem hp⟩
            have hcy := hcM p y hy
            have hy32 : y < 4294967296 := hM32 y (List.mem_of_getElem? hy)
            replace hy : Hid (M[p]? = some y) := hy
            have hpi : (p : Int) < M.length := by omega
            have hf3 : w4.frozen? ⟨t, 3, none⟩ = false := frozen_of_row _ _ _ _ _ L4
            have hc3 := L4.c3
            clear hcM
            go_upto_region 20 with fail
            have L5 : LocN t { n with word := y } (w4.setCell ⟨t, 3, none⟩ (v32 y)) := heap_setCell_same w4 t 3 _ 34 _ L4
            have hI5 : AgI w fb first l u11 (w4.setCell ⟨t, 3, none⟩ (v32 y)) := hI4.cell hap hbx htl _
            have okn' : NtOk { n with word := y } := ⟨okn.kind, okn.core, okn.addr, hy32⟩
            have hbn : badAt (l ++ [{ n with word := y }]) (fun _ => first) l.length = false := by
              rw [badAt_last]
              have hmem : y ∈ mayL l n.core n.addr first := by rw [hMe.out]; exact List.mem_of_getElem? hy.out
              have := (mayL_mem l n.core n.addr first y).1 hmem
              simp [this]
            clear hcy hI4 L4 hc3 hf3 RM
            generalize w4.setCell { block := t, off := 3 } _ = w5 at *
            have g0 := L5.c0
            have g1 := L5.c1
            have g2 := L5.c2
            have g3 := L5.c3
            have hlen := hlk.out
            have hsz := hI5.low.size
            go_wp2_with (at_builtin; refine wpList_appN rfl _ _ rfl (tr := l) (ns := [({ n with word := y } : Nt)]) rfl rfl (own_grow hI5.row (below_alloc w5 (.cells (ntA ({ n with word := y } : Nt)) 34))) (by simp; omega) (World.alloc_heap_new _ _) rfl (by omega) ?_; intro v' w6 hown hgr _; simp only [Act.put, List.setIfInBounds_toArray, List.set_cons_succ, List.set_cons_zero])
            go_roundw
            case rel => exact ⟨k + 1, l ++ [({ n with word := y } : Nt)], by omega, by omega, by rw [List.length_append, List.length_singleton, hlen], by simp, hI5.app hown hgr okn' hbn⟩
            case measure => simp [intOf]; omega
      · have k5 : (n.kind == 5) = false := beq_eq_false_iff_ne.2 h5
        have hbn : badAt (l ++ [n]) (fun _ => first) l.length = false := by rw [badAt_last, k5]; rfl
        have g0 := L3.c0
        have g1 := L3.c1
        have g2 := L3.c2
        have g3 := L3.c3
        have hlen := hlk.out
        have hsz := hI3.low.size
        go_wp2_with (at_builtin; refine wpList_appN rfl _ _ rfl (tr := l) (ns := [n]) rfl rfl (own_grow hI3.row (below_alloc w3 (.cells (ntA n) 34))) (by simp; omega) (World.alloc_heap_new _ _) rfl (by omega) ?_; intro v' w6 hown hgr _; simp only [Act.put, List.setIfInBounds_toArray, List.set_cons_succ, List.set_cons_zero])
        go_roundw
        case rel => exact ⟨k + 1, l ++ [n], by omega, by omega, by rw [List.length_append, List.length_singleton, hlen], by simp, hI3.app hown hgr okn hbn⟩
        case measure => simp [intOf]; omega
    · have hgo : (¬ (k : Int) < tr.length) ∨ ((k : Int) < tr.length ∧ ¬ (k : Int) < 60) := by omega
      obtain ⟨aL, cL, eL, _⟩ := own_len hI.row
      subst eL
      have FI := ag_c fb first hf wr hI.box
      have hlen := hlk
      have hmx : l.length ≤ 4398046511104 := by omega
      have kc := check_c FI (own_nts hI.row hmx) hI.ok
      replace hlk : Hid (l.length = k) := hlk
      clear hlen hlt N
      rcases hgo with hgo | ⟨hgo1, hgo2⟩
      all_goals
        cases hr : rightL l with
        | false =>
          rw [hr] at kc
          go_wp2_with (go_at_call 13; (with_reducible refine kc.mono ?_); clear kc; rintro e w3 ⟨rfl, B3⟩; dsimp only)
          go_ret
          exact ⟨rfl, hI.low.trans (B3.mono hI.low.size)⟩
        | true =>
          rw [hr] at kc
          have hck : checkL l (fun _ => first) = -1 := checkL_no hI.good
          simp only [if_true, hck] at kc
          go_upto_region 24 with (go_at_call 13; (with_reducible refine kc.mono ?_); clear kc; rintro e w3 ⟨rfl, B3⟩; dsimp only)
          have hI3 := hI.grow B3
          clear hI FI hck
          have hmo : mayOk l 1 64 = true := by unfold mayOk; rw [hr]; decide
          have kM : Calls Try.prog 10 #[.slice aL l.length cL, vI 1, vU 64, v32 first] w3 fun e w' => MayR w3 (mayL l 1 64 first) 0 e w' := by
            have h := may_all (f := first) (c := 1) (a := 64) (own_nts hI3.row hmx) hI3.ok (by decide) hf
            unfold mayW mayE at h
            rw [hmo] at h
            exact h
          have dx := hI3.box.cell
          go_upto_region 25 with (go_at_call 10; (with_reducible refine kM.mono ?_); clear kM; rintro e w4 ⟨uM, rfl, RM, B4⟩; dsimp only)
          have hI4 := hI3.grow B4
          have hWM := wds_of_own RM (Nat.le_trans (mayL_len _ _ _ _) (by omega))
          have hsz := hI4.low.size
          have hlen := hlk.out
          obtain ⟨hr2, hcl⟩ := ag_end (bad := bad) hr hI4.good
          obtain ⟨M, hM⟩ : ∃ M, mayL l 1 64 first = M := ⟨_, rfl⟩
          rw [hM] at RM hWM hcl
          obtain ⟨m, hm⟩ : ∃ m : Int, (if M.contains bad then -1 else (l.length : Int)) = m := ⟨_, rfl⟩
          rw [hm] at hcl
          replace hm : Hid ((if M.contains bad then -1 else (l.length : Int)) = m) := hm
          clear hM dx hI3 B3
          have kq : ∀ W v, W.ownsRow w.heap.size 34 4 v (l ++ [xB bad]).length (ntF (l ++ [xB bad])) → Boxed W fb 24 (v32 first) → Calls Try.prog 13 #[v, clo 19 #[ptr fb 0]] W fun e w' => CheckR W m 0 e w' := fun W v R X => by
            have h := check_c (ag_c fb first hf W X) (own_nts R (by rw [List.length_append, List.length_singleton]; omega)) (trOk_app hI4.ok (xB_ok hbad))
            rw [hr2, hcl] at h
            exact h
          clear hcl hr2
          go_upto_region 26 with (first
            | (at_builtin; refine wpList_appN rfl _ _ rfl (tr := l) (ns := [xB bad]) rfl rfl (own_grow hI4.row (below_alloc w4 (.cells (ntA (xB bad)) 34))) (by simp; omega) (World.alloc_heap_new _ _) rfl (by omega) ?_; intro v' w6 hown hgr _; simp only [Act.put, List.setIfInBounds_toArray, List.set_cons_succ, List.set_cons_zero]; have hg' : w4.grownBy w6 (Value.slice aL l.length cL).ownBlock := (World.grownBy_alloc _ _ _).trans hgr; have X6 : Boxed w6 fb 24 (v32 first) := (hg'.block _ hI4.box.lt (fun e => own_ne hI4.box hI4.row (by decide) e.symm)).trans hI4.box; have k6 := kq w6 v' hown X6)
            | (go_at_call 13; (with_reducible refine k6.mono ?_); clear k6; rintro e w7 ⟨rfl, B7⟩; dsimp only))
          have W7 := (wds_of_own (RM.kept hg' (own_apart RM hI4.row (by decide))) hWM.max).grow B7
          have low7 : Below w.heap.size w w7 := (hI4.low.trans ((goes_grown (F := fun q => (Value.slice aL l.length cL).ownBlock = some q) hg' (fun q hq => hq)).below hsz (fun q hq => (hI4.row.lt q hq).1))).trans (B7.mono (Nat.le_trans hsz hg'.size))
          have ki := in_c W7 bad
          clear RM hWM hgr hg' X6 hown kq B7 B4 W7 hI4 hlen
          cases hc : M.contains bad with
          | false =>
            rw [hc] at ki
            have hm := hm.out
            rw [hc] at hm
            have hm2 : m = (l.length : Int) := hm.symm
            subst hm2
            clear hc hm hlk
            go_wp2_with (go_at_call 18; (with_reducible refine ki.mono ?_); clear ki; rintro e w8 ⟨rfl, rfl⟩; dsimp only)
            go_ret
            exact ⟨by simp, low7⟩
          | true =>
            rw [hc] at ki
            have hm := hm.out
            rw [hc] at hm
            have hm2 : m = -1 := hm.symm
            subst hm2
            clear hc hm hlk
            go_wp2_with (go_at_call 18; (with_reducible refine ki.mono ?_); clear ki; rintro e w8 ⟨rfl, rfl⟩; dsimp only)
            go_ret
            exact ⟨by simp, low7⟩
end Go.Proofs.Ytbdmemjenpnjgaa
