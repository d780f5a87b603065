/- TimerPlays' walk. -/
import Derived.Test.YtebkpmplhpebbaaKc
import Derived.Test.YtebkpmplhpebbaaDc
import Derived.Test.YtebkpmplhpebbaaDd
import Derived.Test.YtebkpmplhpebbaaRelG
namespace Go.Proofs.Ytebkpmplhpebbaa
open Go.RowKit
open Tim
set_option linter.unusedVariables false
set_option linter.unusedSimpArgs false
set_option maxRecDepth 8000

/-- Both timers beyond B, apart. -/
structure QW (B : Nat) (W : World) (g cb r rb rv n : Nat) (T U : Tm) (w : World) : Prop where
  a : TimAt g cb n T w
  b : RefAt r rb rv n U w
  fa : ∀ k, TFoot g cb k → B ≤ k
  fb : ∀ k, RFoot r rb rv k → B ≤ k
  below : Below B W w
  le : B ≤ W.heap.size
  ne : ∀ k, TFoot g cb k → ¬ RFoot r rb rv k
section
variable {B : Nat} {W : World} {g cb r rb rv n : Nat} {T U V : Tm} {w w' : World}
theorem QW.big (H : QW B W g cb r rb rv n T U w) : B ≤ w.heap.size := Nat.le_trans H.le H.below.size
theorem QW.grow (H : QW B W g cb r rb rv n T U w) (hb : Below w.heap.size w w') : QW B W g cb r rb rv n T U w' := ⟨H.a.grow hb, H.b.grow hb, H.fa, H.fb, H.below.trans (hb.mono H.big), H.le, H.ne⟩
theorem QW.tt (H : QW B W g cb r rb rv n T U w) (k : TT g cb n V w w') : QW B W g cb r rb rv n V U w' :=
  ⟨k.1, H.b.keep fun i hi => k.2.block i (H.b.lt hi) fun e => H.ne i e hi, H.fa, H.fb, H.below.trans (k.2.below H.big H.fa), H.le, H.ne⟩
theorem QW.rt (H : QW B W g cb r rb rv n T U w) (k : RT r rb rv n V w w') : QW B W g cb r rb rv n T V w' :=
  ⟨H.a.keep fun i hi => k.2.block i (H.a.lt hi) fun e => H.ne i hi e, k.1, H.fa, H.fb, H.below.trans (k.2.below H.big H.fb), H.le, H.ne⟩
end
/-- And the step's own copy of its entry. -/
structure OW (B : Nat) (W : World) (g cb r rb rv n : Nat) (T U : Tm) (ob : Nat) (o : St4) (w : World) : Prop where
  q : QW B W g cb r rb rv n T U w
  row : w.heap[ob]? = some (.cells o.row.toArray 32)
  na : ¬ TFoot g cb ob
  nb : ¬ RFoot r rb rv ob
section
variable {B : Nat} {W : World} {g cb r rb rv n : Nat} {T U V : Tm} {ob : Nat} {o : St4} {w w' : World}
theorem OW.grow (H : OW B W g cb r rb rv n T U ob o w) (hb : Below w.heap.size w w') : OW B W g cb r rb rv n T U ob o w' := ⟨H.q.grow hb, by rw [hb.block _ (lt_of_some H.row)]; exact H.row, H.na, H.nb⟩
theorem OW.tt (H : OW B W g cb r rb rv n T U ob o w) (k : TT g cb n V w w') : OW B W g cb r rb rv n V U ob o w' := ⟨H.q.tt k, by rw [k.2.block _ (lt_of_some H.row) H.na]; exact H.row, H.na, H.nb⟩
theorem OW.rt (H : OW B W g cb r rb rv n T U ob o w) (k : RT r rb rv n V w w') : OW B W g cb r rb rv n T V ob o w' := ⟨H.q.rt k, by rw [k.2.block _ (lt_of_some H.row) H.nb]; exact H.row, H.na, H.nb⟩
theorem OW.cells (H : OW B W g cb r rb rv n T U ob o w) : w.cell? ⟨ob, 0, none⟩ = some (vI o.k) ∧ w.cell? ⟨ob, 1, none⟩ = some (vI o.c) ∧ w.cell? ⟨ob, 2, none⟩ = some (vI o.s) ∧ w.cell? ⟨ob, 3, none⟩ = some (vU o.v) := by
  refine ⟨?_, ?_, ?_, ?_⟩ <;> rw [cell_of_row _ _ _ _ _ _ H.row] <;> rfl
end
theorem wpList_st32 {ops : Array Oper} {rest : List Oper} {o : Oper} {a : Act} {w : World} {Q : Exit → Act → World → Prop} (hgd : o.guard = none) (x y : Operand) (ho : o.op = .store 32 x y) (b : Nat) (hx : a.eval x = ptr b 0) (s s0 : St4) (hy : a.eval y = s.val) (hg : w.heap[b]? = some (.cells s0.row.toArray 32))
    (h : wpList Try.prog ops Q rest (a.put o.dst undef) (w.setRow b s.row.toArray)) : wpList Try.prog ops Q (o :: rest) a w :=
  wpList_store_row hgd 32 x y ho b s.row.toArray hx hy 32 _ hg (by kernel_rfl) rfl (by simp [Value.oneCell', St4.row]) h
/-- The document's count turned: ahead of the store, behind it. -/
def CtC (r rb rv n : Nat) (U : Tm) (w : World) : Nat → World → Prop
  | 0, w' => Below w.heap.size w w'
  | 1, w' => RT r rb rv n U w w'
  | _, _ => False
theorem wrap_mod (x : Int) : IntKind.u64.wrap x = x % 18446744073709551616 := by rw [IntKind.wrap_u64]
set_option maxHeartbeats 8000000 in
theorem plays_walk (cores : Int) (v1 : Value) (ss : List St4) (W : World) (hco : I64 cores) (R : Scr W v1 ss) : Calls Try.prog 3 #[vI cores, v1] W fun e w' => e = .returned (.bool true) ∧ Below W.heap.size W w' := by
  obtain ⟨ao, cap, ev⟩ := R.len
  have hkn := known_c W
  by_cases hr : cores < 1 ∨ 8 < cores
  · have hno := fun w => new_no cores hr w
    rcases hr with h | h
    · go_enter Try.func3, Try.ntmps3
      go_wp2_with (first | (go_at_call 7; refine hkn.mono ?_; rintro e w1 ⟨rfl, hB1⟩; dsimp only) | (go_at_call 8; refine (hno _).mono ?_; rintro e w2 ⟨rfl, rfl⟩; dsimp only))
      go_ret
      exact ⟨rfl, hB1⟩
    · go_enter Try.func3, Try.ntmps3
      go_wp2_with (first | (go_at_call 7; refine hkn.mono ?_; rintro e w1 ⟨rfl, hB1⟩; dsimp only) | (go_at_call 8; refine (hno _).mono ?_; rintro e w2 ⟨rfl, rfl⟩; dsimp only))
      go_ret
      exact ⟨rfl, hB1⟩
  · obtain ⟨n, rfl⟩ : ∃ n : Nat, cores = n := ⟨cores.toNat, by omega⟩
    have n0 : 0 < n := by omega
    have n8 : n ≤ 8 := by omega
    have k0 : ¬ ((n : Int) < 1) := by omega
    have k8 : ¬ (8 < (n : Int)) := by omega
    clear hr hco
    go_enter Try.func3, Try.ntmps3
    go_upto_region 2 with (first | (go_at_call 7; refine hkn.mono ?_; rintro e w1 ⟨rfl, hB1⟩; dsimp only))
    clear hkn
    have hnew := new_c n n0 n8 w1
    go_upto_region 7 with (first | (go_at_call 8; refine hnew.mono ?_; rintro e w2 ⟨g, rfl, cb, hG, hB, hg, hcb⟩; dsimp only))
    clear hnew
    have hnew := rnew_c n n0 n8 w2
    go_upto_region 8 with (first | (go_at_call 9; refine hnew.mono ?_; rintro e w3 ⟨r, rfl, rb, rv, hR, hB2, hf⟩; dsimp only))
    have K0 := newKW hG hB hg hcb
    have Q0 : ∃ T, QW W.heap.size W g cb r rb rv n T T w3 := ⟨zeroT, hG.grow hB2, hR, fun k hk => Nat.le_trans hB1.size (K0.foot k hk), fun k hk => Nat.le_trans (Nat.le_trans hB1.size hB.size) (hf k hk), below_then (below_then hB1 (Nat.le_refl _) hB) (Nat.le_refl _) hB2, Nat.le_refl _, fun k h1 h2 => by have := hG.lt h1; have := hf k h2; omega⟩
    clear hnew hG hB hg hcb K0 hB1 hR hB2 hf
    rw [ev]
    go_wp2
    go_loopw [9, 10, 11, 12, 13, 14, 15, 16, 17, 18, 19, 20, 21, 22, 23, 24] (fun s9 s10 s11 s12 s13 s14 s15 s16 s17 s18 s19 s20 s21 s22 s23 s24 wr => ∃ i : Nat, i ≤ min ss.length 200 ∧ s9 = .int .i64 i ∧ Hid (∃ T, QW W.heap.size W g cb r rb rv n T T wr)) (fun s9 s10 s11 s12 s13 s14 s15 s16 s17 s18 s19 s20 s21 s22 s23 s24 _ => 200 - (intOf s9).toNat)
    case atStart => exact ⟨0, Nat.zero_le _, rfl, Q0⟩
    case round =>
      clear Q0
      obtain ⟨i, hi, rfl, hM⟩ := hrel
      obtain ⟨T, Q⟩ := hM.out
      clear hM
      by_cases hend : (i : Int) < ss.length ∧ (i : Int) < 200
      · obtain ⟨h1, h2⟩ := hend
        have hs := List.getElem?_eq_getElem (l := ss) (i := i) (by omega)
        generalize ss[i] = o at hs
        obtain ⟨ra, cap2, ev', hc⟩ := R.at Q.below hs
        rw [ev] at ev'
        cases ev'
        have hwf := R.wf o (List.mem_of_getElem? hs)
        have hrow : ∀ (j : Nat) x, o.row[j]? = some x → wr.cell? ((ra.add (i * 4)).add j) = some x := fun j x hx => (hc j x hx).2
        go_upto_region 12 with (first | (refine wpList_load32 rfl _ rfl _ rfl o hrow ?_; simp only [Act.put]) | (refine wpList_st32 rfl _ _ rfl wr.heap.size rfl o ⟨0, 0, 0, 0⟩ rfl (heap_alloc_new _ _) ?_; simp only [Act.put]))
        generalize hw4 : World.setRow _ _ _ = w3
        have B4 : Below wr.heap.size wr w3 := by rw [← hw4]; exact below_setRow (below_alloc _ _) (Nat.le_refl _)
        have hd : w3.heap[wr.heap.size]? = some (.cells o.row.toArray 32) := by rw [← hw4]; exact setRow_heap _ _ _ _ _ _ (heap_alloc_new _ _)
        have O : OW W.heap.size W g cb r rb rv n T T wr.heap.size o w3 := ⟨Q.grow B4, hd, fun h => by have := Q.a.lt h; omega, fun h => by have := Q.b.lt h; omega⟩
        have hi2 : i + 1 ≤ min ss.length 200 := by omega
        clear hw4 B4 hd Q hrow hc hs h1 h2
        generalize wr.heap.size = ob at O ⊢
        obtain ⟨z0, z1, z2, z3⟩ := O.cells
        have hsy := sys_c o.s hwf.s w3
        go_upto_region 13 with (first | (go_at_call 10; refine hsy.mono ?_; rintro e w4 ⟨rfl, hB⟩; dsimp only))
        replace O := O.grow hB
        clear hB hsy z0 z1 z2 z3
        obtain ⟨z0, z1, _, z3⟩ := O.cells
        by_cases k1 : o.k = 1
        · have h1 := read_c O.q.a o.c (sysV o.s)
          have h2 := fun w' (hB : Below w4.heap.size w4 w') => rread_c (O.q.b.grow hB) o.c (sysV o.s)
          generalize readV n T o.c (sysV o.s) = x at h1 h2
          generalize readE n o.c (sysV o.s) = y at h1 h2
          go_upto_region 16 with (first | (go_at_call 11; refine h1.mono ?_; rintro e w5 ⟨rfl, hB⟩; dsimp only))
          replace h2 := h2 w5 hB
          replace O := O.grow hB
          clear hB h1 z1 z3
          obtain ⟨_, z1, _, z3⟩ := O.cells
          go_upto_region 26 with (first | (go_at_call 12; refine h2.mono ?_; rintro e w9 ⟨rfl, hB⟩; dsimp only))
          replace O := O.grow hB
          clear hB h2 z1 z3 k1
          generalize T = U at O
          go_wp2
          go_loopw [17, 18] (fun s17 s18 wr => ∃ j : Nat, j ≤ n + 2 ∧ s17 = .int .i64 ((j : Int) - 1) ∧ Hid (OW W.heap.size W g cb r rb rv n U U ob o wr)) (fun s17 s18 _ => n + 2 - (intOf s17 + 1).toNat)
          case atStart => exact ⟨0, Nat.zero_le _, rfl, O⟩
          case round =>
            clear O
            obtain ⟨j, hj, rfl, hO⟩ := hrel
            have O := hO.out
            clear hO
            by_cases hin : (j : Int) - 1 ≤ n
            · have h1 := rhigh_c O.q.b ((j : Int) - 1)
              have h2 := fun w' (hB : Below wr.heap.size wr w') => thigh_c (O.q.a.grow hB) ((j : Int) - 1)
              have hO := show Hid _ from O
              clear O
              cases highV n U ((j : Int) - 1)
              all_goals
                go_wp2_with (first | (go_at_call 16; refine h1.mono ?_; rintro e w10 ⟨rfl, hB⟩; dsimp only; replace h2 := h2 w10 hB; replace hO := show Hid _ from hO.out.grow hB; clear hB h1) | (go_at_call 17; refine h2.mono ?_; rintro e w11 ⟨rfl, hB⟩; dsimp only; replace hO := show Hid _ from hO.out.grow hB; clear hB h2))
                go_roundw
                case rel => exact ⟨j + 1, by omega, by go_num, hO.out⟩
                case measure => simp [intOf]; omega
            · have h1 := next_c O.q.a
              have h2 := fun w' (hB : Below wr.heap.size wr w') => rnext_c (O.q.b.grow hB)
              generalize nxC n U = x at h1 h2
              generalize nxN n U = y at h1 h2
              generalize nxB n U = z at h1 h2
              go_upto_region 33 with (first | (go_at_call 18; refine h1.mono ?_; rintro e w10 ⟨rfl, hB⟩; dsimp only))
              replace h2 := h2 w10 hB
              replace O := O.grow hB
              clear hB h1
              go_upto_region 34 with (first | (go_at_call 19; refine h2.mono ?_; rintro e w11 ⟨rfl, hB⟩; dsimp only))
              replace O := O.grow hB
              clear hB h2 hin hj
              cases z with
              | false =>
                refine RelG.wp_region_rel RelG.Grows (fun x => Below w11.heap.size w11 x) [.inl (vI x), .inl (vI x), .inl (.bool false), .inl (.bool false), .inl (vU y), .inl (vU y), .inl (.bool false), .inl (.bool false), .inl (.bool false), .inl (.bool false), .inl (.bool false), .inl (.bool false), .inl (.bool false), .inl (.bool false), .inl (ptr g 0), .inl (vU U.cnt), .inl (ptr r 0), .inl (ptr r 0), .inl (ptr r 0), .inl (vU U.cnt), .inl (.bool false), .inl (.bool false)] (by kernel_rfl) (by kernel_rfl) RelG.grows_refl (fun _ _ h hb => below_then h (Nat.le_refl _) hb) ⟨rfl, rfl, rfl, Nat.le_refl _, fun _ _ => rfl⟩ (by simp [RelG.upK]) ?_
                refine ⟨fun w3 hC _ => RelG.uponG_yes rfl ((by go_simp; first | exact RelG.grows_refl _ | exact ⟨RelG.grows_refl _, rfl⟩)), ?_⟩
                simp only [Act.put, List.setIfInBounds_toArray, List.set_cons_succ, List.set_cons_zero]
                refine ⟨fun w3 hC _ => RelG.uponG_yes rfl ((by go_simp; first | exact RelG.grows_refl _ | exact ⟨RelG.grows_refl _, rfl⟩)), ?_⟩
                simp only [Act.put, List.setIfInBounds_toArray, List.set_cons_succ, List.set_cons_zero]
                refine ⟨fun w3 hC _ => RelG.uponG_yes rfl ((by go_simp; first | exact RelG.grows_refl _ | exact ⟨RelG.grows_refl _, rfl⟩)), ?_⟩
                simp only [Act.put, List.setIfInBounds_toArray, List.set_cons_succ, List.set_cons_zero]
                refine ⟨fun w3 hC _ => RelG.uponG_yes rfl ((by go_simp; first | exact RelG.grows_refl _ | exact ⟨RelG.grows_refl _, rfl⟩)), ?_⟩
                simp only [Act.put, List.setIfInBounds_toArray, List.set_cons_succ, List.set_cons_zero]
                refine ⟨fun w3 hC _ => RelG.uponG_yes rfl ((by go_simp; first | exact RelG.grows_refl _ | exact ⟨RelG.grows_refl _, rfl⟩)), ?_⟩
                simp only [Act.put, List.setIfInBounds_toArray, List.set_cons_succ, List.set_cons_zero]
                refine ⟨fun w3 hC _ => RelG.uponG_yes rfl ((by go_simp; first | exact RelG.grows_refl _ | exact ⟨RelG.grows_refl _, rfl⟩)), ?_⟩
                simp only [Act.put, List.setIfInBounds_toArray, List.set_cons_succ, List.set_cons_zero]
                refine ⟨fun w3 hC _ => RelG.uponG_yes rfl ((by go_simp; first | exact RelG.grows_refl _ | exact ⟨RelG.grows_refl _, rfl⟩)), ?_⟩
                simp only [Act.put, List.setIfInBounds_toArray, List.set_cons_succ, List.set_cons_zero]
                refine ⟨fun w3 hC _ => RelG.uponG_yes rfl ((by go_simp; first | exact RelG.grows_refl _ | exact ⟨RelG.grows_refl _, rfl⟩)), ?_⟩
                simp only [Act.put, List.setIfInBounds_toArray, List.set_cons_succ, List.set_cons_zero]
                refine ⟨fun w3 hC _ => RelG.uponG_yes rfl ((by go_simp; first | exact RelG.grows_refl _ | exact ⟨RelG.grows_refl _, rfl⟩)), ?_⟩
                simp only [Act.put, List.setIfInBounds_toArray, List.set_cons_succ, List.set_cons_zero]
                refine ⟨fun w3 hC _ => RelG.uponG_yes rfl ((by go_simp; first | exact RelG.grows_refl _ | exact ⟨RelG.grows_refl _, rfl⟩)), ?_⟩
                simp only [Act.put, List.setIfInBounds_toArray, List.set_cons_succ, List.set_cons_zero]
                refine ⟨fun w3 hC _ => RelG.uponG_yes rfl ((by go_simp; first | exact RelG.grows_refl _ | exact ⟨RelG.grows_refl _, rfl⟩)), ?_⟩
                simp only [Act.put, List.setIfInBounds_toArray, List.set_cons_succ, List.set_cons_zero]
                refine ⟨fun w3 hC _ => RelG.uponG_yes rfl ((by go_simp; first | exact RelG.grows_refl _ | exact ⟨RelG.grows_refl _, rfl⟩)), ?_⟩
                simp only [Act.put, List.setIfInBounds_toArray, List.set_cons_succ, List.set_cons_zero]
                refine ⟨fun w3 hC _ => RelG.uponG_yes rfl ((by go_simp; first | exact RelG.grows_refl _ | exact ⟨RelG.grows_refl _, rfl⟩)), ?_⟩
                simp only [Act.put, List.setIfInBounds_toArray, List.set_cons_succ, List.set_cons_zero]
                refine ⟨fun w3 hC _ => RelG.uponG_yes rfl ((by go_simp; first | exact RelG.grows_refl _ | exact ⟨RelG.grows_refl _, rfl⟩)), ?_⟩
                simp only [Act.put, List.setIfInBounds_toArray, List.set_cons_succ, List.set_cons_zero]
                refine ⟨fun w3 hC _ => RelG.uponG_yes rfl ((by go_simp; first | exact RelG.grows_refl _ | exact ⟨RelG.grows_refl _, rfl⟩)), ?_⟩
                simp only [Act.put, List.setIfInBounds_toArray, List.set_cons_succ, List.set_cons_zero]
                refine ⟨fun w3 hC _ => RelG.uponG_yes rfl ((by go_simp; refine (count_c (O.q.a.grow hC)).mono ?_; rintro e w4 ⟨rfl, rfl⟩; exact ⟨rfl, RelG.grows_refl _⟩)), ?_⟩
                simp only [Act.put, List.setIfInBounds_toArray, List.set_cons_succ, List.set_cons_zero]
                refine ⟨fun w3 hC _ => RelG.uponG_yes rfl ((by go_simp; first | exact RelG.grows_refl _ | exact ⟨RelG.grows_refl _, rfl⟩)), ?_⟩
                simp only [Act.put, List.setIfInBounds_toArray, List.set_cons_succ, List.set_cons_zero]
                refine ⟨fun w3 hC _ => RelG.uponG_yes rfl ((by go_simp; first | exact RelG.grows_refl _ | exact ⟨RelG.grows_refl _, rfl⟩)), ?_⟩
                simp only [Act.put, List.setIfInBounds_toArray, List.set_cons_succ, List.set_cons_zero]
                refine ⟨fun w3 hC _ => RelG.uponG_yes rfl ((by go_simp; first | exact RelG.grows_refl _ | exact ⟨RelG.grows_refl _, rfl⟩)), ?_⟩
                simp only [Act.put, List.setIfInBounds_toArray, List.set_cons_succ, List.set_cons_zero]
                refine ⟨fun w3 hC _ => RelG.uponG_yes rfl ((by have z := (O.q.b.grow hC).c0; go_simp; first | exact RelG.grows_refl _ | exact ⟨RelG.grows_refl _, rfl⟩)), ?_⟩
                simp only [Act.put, List.setIfInBounds_toArray, List.set_cons_succ, List.set_cons_zero]
                refine ⟨fun w3 hC _ => RelG.uponG_yes rfl ((by go_simp; first | exact RelG.grows_refl _ | exact ⟨RelG.grows_refl _, rfl⟩)), ?_⟩
                simp only [Act.put, List.setIfInBounds_toArray, List.set_cons_succ, List.set_cons_zero]
                refine ⟨fun w3 hC _ => RelG.uponG_yes rfl ((by go_simp; first | exact RelG.grows_refl _ | exact ⟨RelG.grows_refl _, rfl⟩)), ?_⟩
                simp only [Act.put, List.setIfInBounds_toArray, List.set_cons_succ, List.set_cons_zero]
                intro w12 hC _
                go_wp2
                go_roundw
                case rel => exact ⟨i + 1, by omega, by go_num, U, (O.grow hC).q⟩
                case measure => simp [intOf]; omega
              | true =>
                refine RelG.wp_region_rel RelG.Grows (fun x => Below w11.heap.size w11 x) [.inl (vI x), .inl (vI x), .inl (.bool false), .inl (.bool false), .inl (vU y), .inl (vU y), .inl (.bool false), .inl (.bool false), .inl (.bool false), .inl (.bool true), .inl (.bool true), .inl (.bool false), .inl (.bool false), .inl (.bool false), .inl (ptr g 0), .inl (vU U.cnt), .inl (ptr r 0), .inl (ptr r 0), .inl (ptr r 0), .inl (vU U.cnt), .inl (.bool false), .inl (.bool false)] (by kernel_rfl) (by kernel_rfl) RelG.grows_refl (fun _ _ h hb => below_then h (Nat.le_refl _) hb) ⟨rfl, rfl, rfl, Nat.le_refl _, fun _ _ => rfl⟩ (by simp [RelG.upK]) ?_
                refine ⟨fun w3 hC _ => RelG.uponG_yes rfl ((by go_simp; first | exact RelG.grows_refl _ | exact ⟨RelG.grows_refl _, rfl⟩)), ?_⟩
                simp only [Act.put, List.setIfInBounds_toArray, List.set_cons_succ, List.set_cons_zero]
                refine ⟨fun w3 hC _ => RelG.uponG_yes rfl ((by go_simp; first | exact RelG.grows_refl _ | exact ⟨RelG.grows_refl _, rfl⟩)), ?_⟩
                simp only [Act.put, List.setIfInBounds_toArray, List.set_cons_succ, List.set_cons_zero]
                refine ⟨fun w3 hC _ => RelG.uponG_yes rfl ((by go_simp; first | exact RelG.grows_refl _ | exact ⟨RelG.grows_refl _, rfl⟩)), ?_⟩
                simp only [Act.put, List.setIfInBounds_toArray, List.set_cons_succ, List.set_cons_zero]
                refine ⟨fun w3 hC _ => RelG.uponG_yes rfl ((by go_simp; first | exact RelG.grows_refl _ | exact ⟨RelG.grows_refl _, rfl⟩)), ?_⟩
                simp only [Act.put, List.setIfInBounds_toArray, List.set_cons_succ, List.set_cons_zero]
                refine ⟨fun w3 hC _ => RelG.uponG_yes rfl ((by go_simp; first | exact RelG.grows_refl _ | exact ⟨RelG.grows_refl _, rfl⟩)), ?_⟩
                simp only [Act.put, List.setIfInBounds_toArray, List.set_cons_succ, List.set_cons_zero]
                refine ⟨fun w3 hC _ => RelG.uponG_yes rfl ((by go_simp; first | exact RelG.grows_refl _ | exact ⟨RelG.grows_refl _, rfl⟩)), ?_⟩
                simp only [Act.put, List.setIfInBounds_toArray, List.set_cons_succ, List.set_cons_zero]
                refine ⟨fun w3 hC _ => RelG.uponG_yes rfl ((by go_simp; first | exact RelG.grows_refl _ | exact ⟨RelG.grows_refl _, rfl⟩)), ?_⟩
                simp only [Act.put, List.setIfInBounds_toArray, List.set_cons_succ, List.set_cons_zero]
                refine ⟨fun w3 hC _ => RelG.uponG_yes rfl ((by go_simp; first | exact RelG.grows_refl _ | exact ⟨RelG.grows_refl _, rfl⟩)), ?_⟩
                simp only [Act.put, List.setIfInBounds_toArray, List.set_cons_succ, List.set_cons_zero]
                refine ⟨fun w3 hC _ => RelG.uponG_yes rfl ((by go_simp; first | exact RelG.grows_refl _ | exact ⟨RelG.grows_refl _, rfl⟩)), ?_⟩
                simp only [Act.put, List.setIfInBounds_toArray, List.set_cons_succ, List.set_cons_zero]
                refine ⟨fun w3 hC _ => RelG.uponG_yes rfl ((by go_simp; first | exact RelG.grows_refl _ | exact ⟨RelG.grows_refl _, rfl⟩)), ?_⟩
                simp only [Act.put, List.setIfInBounds_toArray, List.set_cons_succ, List.set_cons_zero]
                refine ⟨fun w3 hC _ => RelG.uponG_yes rfl ((by go_simp; first | exact RelG.grows_refl _ | exact ⟨RelG.grows_refl _, rfl⟩)), ?_⟩
                simp only [Act.put, List.setIfInBounds_toArray, List.set_cons_succ, List.set_cons_zero]
                refine ⟨fun w3 hC _ => RelG.uponG_yes rfl ((by go_simp; first | exact RelG.grows_refl _ | exact ⟨RelG.grows_refl _, rfl⟩)), ?_⟩
                simp only [Act.put, List.setIfInBounds_toArray, List.set_cons_succ, List.set_cons_zero]
                refine ⟨fun w3 hC _ => RelG.uponG_yes rfl ((by go_simp; first | exact RelG.grows_refl _ | exact ⟨RelG.grows_refl _, rfl⟩)), ?_⟩
                simp only [Act.put, List.setIfInBounds_toArray, List.set_cons_succ, List.set_cons_zero]
                refine ⟨fun w3 hC _ => RelG.uponG_yes rfl ((by go_simp; first | exact RelG.grows_refl _ | exact ⟨RelG.grows_refl _, rfl⟩)), ?_⟩
                simp only [Act.put, List.setIfInBounds_toArray, List.set_cons_succ, List.set_cons_zero]
                refine ⟨fun w3 hC _ => RelG.uponG_yes rfl ((by go_simp; first | exact RelG.grows_refl _ | exact ⟨RelG.grows_refl _, rfl⟩)), ?_⟩
                simp only [Act.put, List.setIfInBounds_toArray, List.set_cons_succ, List.set_cons_zero]
                refine ⟨fun w3 hC _ => RelG.uponG_yes rfl ((by go_simp; refine (count_c (O.q.a.grow hC)).mono ?_; rintro e w4 ⟨rfl, rfl⟩; exact ⟨rfl, RelG.grows_refl _⟩)), ?_⟩
                simp only [Act.put, List.setIfInBounds_toArray, List.set_cons_succ, List.set_cons_zero]
                refine ⟨fun w3 hC _ => RelG.uponG_yes rfl ((by go_simp; first | exact RelG.grows_refl _ | exact ⟨RelG.grows_refl _, rfl⟩)), ?_⟩
                simp only [Act.put, List.setIfInBounds_toArray, List.set_cons_succ, List.set_cons_zero]
                refine ⟨fun w3 hC _ => RelG.uponG_yes rfl ((by go_simp; first | exact RelG.grows_refl _ | exact ⟨RelG.grows_refl _, rfl⟩)), ?_⟩
                simp only [Act.put, List.setIfInBounds_toArray, List.set_cons_succ, List.set_cons_zero]
                refine ⟨fun w3 hC _ => RelG.uponG_yes rfl ((by go_simp; first | exact RelG.grows_refl _ | exact ⟨RelG.grows_refl _, rfl⟩)), ?_⟩
                simp only [Act.put, List.setIfInBounds_toArray, List.set_cons_succ, List.set_cons_zero]
                refine ⟨fun w3 hC _ => RelG.uponG_yes rfl ((by have z := (O.q.b.grow hC).c0; go_simp; first | exact RelG.grows_refl _ | exact ⟨RelG.grows_refl _, rfl⟩)), ?_⟩
                simp only [Act.put, List.setIfInBounds_toArray, List.set_cons_succ, List.set_cons_zero]
                refine ⟨fun w3 hC _ => RelG.uponG_yes rfl ((by go_simp; first | exact RelG.grows_refl _ | exact ⟨RelG.grows_refl _, rfl⟩)), ?_⟩
                simp only [Act.put, List.setIfInBounds_toArray, List.set_cons_succ, List.set_cons_zero]
                refine ⟨fun w3 hC _ => RelG.uponG_yes rfl ((by go_simp; first | exact RelG.grows_refl _ | exact ⟨RelG.grows_refl _, rfl⟩)), ?_⟩
                simp only [Act.put, List.setIfInBounds_toArray, List.set_cons_succ, List.set_cons_zero]
                intro w12 hC _
                go_wp2
                go_roundw
                case rel => exact ⟨i + 1, by omega, by go_num, U, (O.grow hC).q⟩
                case measure => simp [intOf]; omega
        · by_cases k2 : o.k = 2
          · have h1 := rwrite_c O.q.b o.c (sysV o.s) hwf.v
            go_upto_region 21 with (first | (go_at_call 13; refine h1.mono ?_; rintro e w5 ⟨rfl, hT⟩; dsimp only))
            replace O := O.rt hT
            clear hT h1 z1 z3
            obtain ⟨_, z1, _, z3⟩ := O.cells
            have h2 := write_c O.q.a o.c (sysV o.s) hwf.v
            go_upto_region 26 with (first | (go_at_call 14; refine h2.mono ?_; rintro e w9 ⟨rfl, hT⟩; dsimp only))
            replace O := O.tt hT
            clear hT h2 z1 z3 k1 k2
            generalize writeT n T o.c (sysV o.s) o.v = U at O
            go_wp2
            go_loopw [17, 18] (fun s17 s18 wr => ∃ j : Nat, j ≤ n + 2 ∧ s17 = .int .i64 ((j : Int) - 1) ∧ Hid (OW W.heap.size W g cb r rb rv n U U ob o wr)) (fun s17 s18 _ => n + 2 - (intOf s17 + 1).toNat)
            case atStart => exact ⟨0, Nat.zero_le _, rfl, O⟩
            case round =>
              clear O
              obtain ⟨j, hj, rfl, hO⟩ := hrel
              have O := hO.out
              clear hO
              by_cases hin : (j : Int) - 1 ≤ n
              · have h1 := rhigh_c O.q.b ((j : Int) - 1)
                have h2 := fun w' (hB : Below wr.heap.size wr w') => thigh_c (O.q.a.grow hB) ((j : Int) - 1)
                have hO := show Hid _ from O
                clear O
                cases highV n U ((j : Int) - 1)
                all_goals
                  go_wp2_with (first | (go_at_call 16; refine h1.mono ?_; rintro e w10 ⟨rfl, hB⟩; dsimp only; replace h2 := h2 w10 hB; replace hO := show Hid _ from hO.out.grow hB; clear hB h1) | (go_at_call 17; refine h2.mono ?_; rintro e w11 ⟨rfl, hB⟩; dsimp only; replace hO := show Hid _ from hO.out.grow hB; clear hB h2))
                  go_roundw
                  case rel => exact ⟨j + 1, by omega, by go_num, hO.out⟩
                  case measure => simp [intOf]; omega
              · have h1 := next_c O.q.a
                have h2 := fun w' (hB : Below wr.heap.size wr w') => rnext_c (O.q.b.grow hB)
                generalize nxC n U = x at h1 h2
                generalize nxN n U = y at h1 h2
                generalize nxB n U = z at h1 h2
                go_upto_region 33 with (first | (go_at_call 18; refine h1.mono ?_; rintro e w10 ⟨rfl, hB⟩; dsimp only))
                replace h2 := h2 w10 hB
                replace O := O.grow hB
                clear hB h1
                go_upto_region 34 with (first | (go_at_call 19; refine h2.mono ?_; rintro e w11 ⟨rfl, hB⟩; dsimp only))
                replace O := O.grow hB
                clear hB h2 hin hj
                cases z with
                | false =>
                  refine RelG.wp_region_rel RelG.Grows (fun x => Below w11.heap.size w11 x) [.inl (vI x), .inl (vI x), .inl (.bool false), .inl (.bool false), .inl (vU y), .inl (vU y), .inl (.bool false), .inl (.bool false), .inl (.bool false), .inl (.bool false), .inl (.bool false), .inl (.bool false), .inl (.bool false), .inl (.bool false), .inl (ptr g 0), .inl (vU U.cnt), .inl (ptr r 0), .inl (ptr r 0), .inl (ptr r 0), .inl (vU U.cnt), .inl (.bool false), .inl (.bool false)] (by kernel_rfl) (by kernel_rfl) RelG.grows_refl (fun _ _ h hb => below_then h (Nat.le_refl _) hb) ⟨rfl, rfl, rfl, Nat.le_refl _, fun _ _ => rfl⟩ (by simp [RelG.upK]) ?_
                  refine ⟨fun w3 hC _ => RelG.uponG_yes rfl ((by go_simp; first | exact RelG.grows_refl _ | exact ⟨RelG.grows_refl _, rfl⟩)), ?_⟩
                  simp only [Act.put, List.setIfInBounds_toArray, List.set_cons_succ, List.set_cons_zero]
                  refine ⟨fun w3 hC _ => RelG.uponG_yes rfl ((by go_simp; first | exact RelG.grows_refl _ | exact ⟨RelG.grows_refl _, rfl⟩)), ?_⟩
                  simp only [Act.put, List.setIfInBounds_toArray, List.set_cons_succ, List.set_cons_zero]
                  refine ⟨fun w3 hC _ => RelG.uponG_yes rfl ((by go_simp; first | exact RelG.grows_refl _ | exact ⟨RelG.grows_refl _, rfl⟩)), ?_⟩
                  simp only [Act.put, List.setIfInBounds_toArray, List.set_cons_succ, List.set_cons_zero]
                  refine ⟨fun w3 hC _ => RelG.uponG_yes rfl ((by go_simp; first | exact RelG.grows_refl _ | exact ⟨RelG.grows_refl _, rfl⟩)), ?_⟩
                  simp only [Act.put, List.setIfInBounds_toArray, List.set_cons_succ, List.set_cons_zero]
                  refine ⟨fun w3 hC _ => RelG.uponG_yes rfl ((by go_simp; first | exact RelG.grows_refl _ | exact ⟨RelG.grows_refl _, rfl⟩)), ?_⟩
                  simp only [Act.put, List.setIfInBounds_toArray, List.set_cons_succ, List.set_cons_zero]
                  refine ⟨fun w3 hC _ => RelG.uponG_yes rfl ((by go_simp; first | exact RelG.grows_refl _ | exact ⟨RelG.grows_refl _, rfl⟩)), ?_⟩
                  simp only [Act.put, List.setIfInBounds_toArray, List.set_cons_succ, List.set_cons_zero]
                  refine ⟨fun w3 hC _ => RelG.uponG_yes rfl ((by go_simp; first | exact RelG.grows_refl _ | exact ⟨RelG.grows_refl _, rfl⟩)), ?_⟩
                  simp only [Act.put, List.setIfInBounds_toArray, List.set_cons_succ, List.set_cons_zero]
                  refine ⟨fun w3 hC _ => RelG.uponG_yes rfl ((by go_simp; first | exact RelG.grows_refl _ | exact ⟨RelG.grows_refl _, rfl⟩)), ?_⟩
                  simp only [Act.put, List.setIfInBounds_toArray, List.set_cons_succ, List.set_cons_zero]
                  refine ⟨fun w3 hC _ => RelG.uponG_yes rfl ((by go_simp; first | exact RelG.grows_refl _ | exact ⟨RelG.grows_refl _, rfl⟩)), ?_⟩
                  simp only [Act.put, List.setIfInBounds_toArray, List.set_cons_succ, List.set_cons_zero]
                  refine ⟨fun w3 hC _ => RelG.uponG_yes rfl ((by go_simp; first | exact RelG.grows_refl _ | exact ⟨RelG.grows_refl _, rfl⟩)), ?_⟩
                  simp only [Act.put, List.setIfInBounds_toArray, List.set_cons_succ, List.set_cons_zero]
                  refine ⟨fun w3 hC _ => RelG.uponG_yes rfl ((by go_simp; first | exact RelG.grows_refl _ | exact ⟨RelG.grows_refl _, rfl⟩)), ?_⟩
                  simp only [Act.put, List.setIfInBounds_toArray, List.set_cons_succ, List.set_cons_zero]
                  refine ⟨fun w3 hC _ => RelG.uponG_yes rfl ((by go_simp; first | exact RelG.grows_refl _ | exact ⟨RelG.grows_refl _, rfl⟩)), ?_⟩
                  simp only [Act.put, List.setIfInBounds_toArray, List.set_cons_succ, List.set_cons_zero]
                  refine ⟨fun w3 hC _ => RelG.uponG_yes rfl ((by go_simp; first | exact RelG.grows_refl _ | exact ⟨RelG.grows_refl _, rfl⟩)), ?_⟩
                  simp only [Act.put, List.setIfInBounds_toArray, List.set_cons_succ, List.set_cons_zero]
                  refine ⟨fun w3 hC _ => RelG.uponG_yes rfl ((by go_simp; first | exact RelG.grows_refl _ | exact ⟨RelG.grows_refl _, rfl⟩)), ?_⟩
                  simp only [Act.put, List.setIfInBounds_toArray, List.set_cons_succ, List.set_cons_zero]
                  refine ⟨fun w3 hC _ => RelG.uponG_yes rfl ((by go_simp; first | exact RelG.grows_refl _ | exact ⟨RelG.grows_refl _, rfl⟩)), ?_⟩
                  simp only [Act.put, List.setIfInBounds_toArray, List.set_cons_succ, List.set_cons_zero]
                  refine ⟨fun w3 hC _ => RelG.uponG_yes rfl ((by go_simp; refine (count_c (O.q.a.grow hC)).mono ?_; rintro e w4 ⟨rfl, rfl⟩; exact ⟨rfl, RelG.grows_refl _⟩)), ?_⟩
                  simp only [Act.put, List.setIfInBounds_toArray, List.set_cons_succ, List.set_cons_zero]
                  refine ⟨fun w3 hC _ => RelG.uponG_yes rfl ((by go_simp; first | exact RelG.grows_refl _ | exact ⟨RelG.grows_refl _, rfl⟩)), ?_⟩
                  simp only [Act.put, List.setIfInBounds_toArray, List.set_cons_succ, List.set_cons_zero]
                  refine ⟨fun w3 hC _ => RelG.uponG_yes rfl ((by go_simp; first | exact RelG.grows_refl _ | exact ⟨RelG.grows_refl _, rfl⟩)), ?_⟩
                  simp only [Act.put, List.setIfInBounds_toArray, List.set_cons_succ, List.set_cons_zero]
                  refine ⟨fun w3 hC _ => RelG.uponG_yes rfl ((by go_simp; first | exact RelG.grows_refl _ | exact ⟨RelG.grows_refl _, rfl⟩)), ?_⟩
                  simp only [Act.put, List.setIfInBounds_toArray, List.set_cons_succ, List.set_cons_zero]
                  refine ⟨fun w3 hC _ => RelG.uponG_yes rfl ((by have z := (O.q.b.grow hC).c0; go_simp; first | exact RelG.grows_refl _ | exact ⟨RelG.grows_refl _, rfl⟩)), ?_⟩
                  simp only [Act.put, List.setIfInBounds_toArray, List.set_cons_succ, List.set_cons_zero]
                  refine ⟨fun w3 hC _ => RelG.uponG_yes rfl ((by go_simp; first | exact RelG.grows_refl _ | exact ⟨RelG.grows_refl _, rfl⟩)), ?_⟩
                  simp only [Act.put, List.setIfInBounds_toArray, List.set_cons_succ, List.set_cons_zero]
                  refine ⟨fun w3 hC _ => RelG.uponG_yes rfl ((by go_simp; first | exact RelG.grows_refl _ | exact ⟨RelG.grows_refl _, rfl⟩)), ?_⟩
                  simp only [Act.put, List.setIfInBounds_toArray, List.set_cons_succ, List.set_cons_zero]
                  intro w12 hC _
                  go_wp2
                  go_roundw
                  case rel => exact ⟨i + 1, by omega, by go_num, U, (O.grow hC).q⟩
                  case measure => simp [intOf]; omega
                | true =>
                  refine RelG.wp_region_rel RelG.Grows (fun x => Below w11.heap.size w11 x) [.inl (vI x), .inl (vI x), .inl (.bool false), .inl (.bool false), .inl (vU y), .inl (vU y), .inl (.bool false), .inl (.bool false), .inl (.bool false), .inl (.bool true), .inl (.bool true), .inl (.bool false), .inl (.bool false), .inl (.bool false), .inl (ptr g 0), .inl (vU U.cnt), .inl (ptr r 0), .inl (ptr r 0), .inl (ptr r 0), .inl (vU U.cnt), .inl (.bool false), .inl (.bool false)] (by kernel_rfl) (by kernel_rfl) RelG.grows_refl (fun _ _ h hb => below_then h (Nat.le_refl _) hb) ⟨rfl, rfl, rfl, Nat.le_refl _, fun _ _ => rfl⟩ (by simp [RelG.upK]) ?_
                  refine ⟨fun w3 hC _ => RelG.uponG_yes rfl ((by go_simp; first | exact RelG.grows_refl _ | exact ⟨RelG.grows_refl _, rfl⟩)), ?_⟩
                  simp only [Act.put, List.setIfInBounds_toArray, List.set_cons_succ, List.set_cons_zero]
                  refine ⟨fun w3 hC _ => RelG.uponG_yes rfl ((by go_simp; first | exact RelG.grows_refl _ | exact ⟨RelG.grows_refl _, rfl⟩)), ?_⟩
                  simp only [Act.put, List.setIfInBounds_toArray, List.set_cons_succ, List.set_cons_zero]
                  refine ⟨fun w3 hC _ => RelG.uponG_yes rfl ((by go_simp; first | exact RelG.grows_refl _ | exact ⟨RelG.grows_refl _, rfl⟩)), ?_⟩
                  simp only [Act.put, List.setIfInBounds_toArray, List.set_cons_succ, List.set_cons_zero]
                  refine ⟨fun w3 hC _ => RelG.uponG_yes rfl ((by go_simp; first | exact RelG.grows_refl _ | exact ⟨RelG.grows_refl _, rfl⟩)), ?_⟩
                  simp only [Act.put, List.setIfInBounds_toArray, List.set_cons_succ, List.set_cons_zero]
                  refine ⟨fun w3 hC _ => RelG.uponG_yes rfl ((by go_simp; first | exact RelG.grows_refl _ | exact ⟨RelG.grows_refl _, rfl⟩)), ?_⟩
                  simp only [Act.put, List.setIfInBounds_toArray, List.set_cons_succ, List.set_cons_zero]
                  refine ⟨fun w3 hC _ => RelG.uponG_yes rfl ((by go_simp; first | exact RelG.grows_refl _ | exact ⟨RelG.grows_refl _, rfl⟩)), ?_⟩
                  simp only [Act.put, List.setIfInBounds_toArray, List.set_cons_succ, List.set_cons_zero]
                  refine ⟨fun w3 hC _ => RelG.uponG_yes rfl ((by go_simp; first | exact RelG.grows_refl _ | exact ⟨RelG.grows_refl _, rfl⟩)), ?_⟩
                  simp only [Act.put, List.setIfInBounds_toArray, List.set_cons_succ, List.set_cons_zero]
                  refine ⟨fun w3 hC _ => RelG.uponG_yes rfl ((by go_simp; first | exact RelG.grows_refl _ | exact ⟨RelG.grows_refl _, rfl⟩)), ?_⟩
                  simp only [Act.put, List.setIfInBounds_toArray, List.set_cons_succ, List.set_cons_zero]
                  refine ⟨fun w3 hC _ => RelG.uponG_yes rfl ((by go_simp; first | exact RelG.grows_refl _ | exact ⟨RelG.grows_refl _, rfl⟩)), ?_⟩
                  simp only [Act.put, List.setIfInBounds_toArray, List.set_cons_succ, List.set_cons_zero]
                  refine ⟨fun w3 hC _ => RelG.uponG_yes rfl ((by go_simp; first | exact RelG.grows_refl _ | exact ⟨RelG.grows_refl _, rfl⟩)), ?_⟩
                  simp only [Act.put, List.setIfInBounds_toArray, List.set_cons_succ, List.set_cons_zero]
                  refine ⟨fun w3 hC _ => RelG.uponG_yes rfl ((by go_simp; first | exact RelG.grows_refl _ | exact ⟨RelG.grows_refl _, rfl⟩)), ?_⟩
                  simp only [Act.put, List.setIfInBounds_toArray, List.set_cons_succ, List.set_cons_zero]
                  refine ⟨fun w3 hC _ => RelG.uponG_yes rfl ((by go_simp; first | exact RelG.grows_refl _ | exact ⟨RelG.grows_refl _, rfl⟩)), ?_⟩
                  simp only [Act.put, List.setIfInBounds_toArray, List.set_cons_succ, List.set_cons_zero]
                  refine ⟨fun w3 hC _ => RelG.uponG_yes rfl ((by go_simp; first | exact RelG.grows_refl _ | exact ⟨RelG.grows_refl _, rfl⟩)), ?_⟩
                  simp only [Act.put, List.setIfInBounds_toArray, List.set_cons_succ, List.set_cons_zero]
                  refine ⟨fun w3 hC _ => RelG.uponG_yes rfl ((by go_simp; first | exact RelG.grows_refl _ | exact ⟨RelG.grows_refl _, rfl⟩)), ?_⟩
                  simp only [Act.put, List.setIfInBounds_toArray, List.set_cons_succ, List.set_cons_zero]
                  refine ⟨fun w3 hC _ => RelG.uponG_yes rfl ((by go_simp; first | exact RelG.grows_refl _ | exact ⟨RelG.grows_refl _, rfl⟩)), ?_⟩
                  simp only [Act.put, List.setIfInBounds_toArray, List.set_cons_succ, List.set_cons_zero]
                  refine ⟨fun w3 hC _ => RelG.uponG_yes rfl ((by go_simp; refine (count_c (O.q.a.grow hC)).mono ?_; rintro e w4 ⟨rfl, rfl⟩; exact ⟨rfl, RelG.grows_refl _⟩)), ?_⟩
                  simp only [Act.put, List.setIfInBounds_toArray, List.set_cons_succ, List.set_cons_zero]
                  refine ⟨fun w3 hC _ => RelG.uponG_yes rfl ((by go_simp; first | exact RelG.grows_refl _ | exact ⟨RelG.grows_refl _, rfl⟩)), ?_⟩
                  simp only [Act.put, List.setIfInBounds_toArray, List.set_cons_succ, List.set_cons_zero]
                  refine ⟨fun w3 hC _ => RelG.uponG_yes rfl ((by go_simp; first | exact RelG.grows_refl _ | exact ⟨RelG.grows_refl _, rfl⟩)), ?_⟩
                  simp only [Act.put, List.setIfInBounds_toArray, List.set_cons_succ, List.set_cons_zero]
                  refine ⟨fun w3 hC _ => RelG.uponG_yes rfl ((by go_simp; first | exact RelG.grows_refl _ | exact ⟨RelG.grows_refl _, rfl⟩)), ?_⟩
                  simp only [Act.put, List.setIfInBounds_toArray, List.set_cons_succ, List.set_cons_zero]
                  refine ⟨fun w3 hC _ => RelG.uponG_yes rfl ((by have z := (O.q.b.grow hC).c0; go_simp; first | exact RelG.grows_refl _ | exact ⟨RelG.grows_refl _, rfl⟩)), ?_⟩
                  simp only [Act.put, List.setIfInBounds_toArray, List.set_cons_succ, List.set_cons_zero]
                  refine ⟨fun w3 hC _ => RelG.uponG_yes rfl ((by go_simp; first | exact RelG.grows_refl _ | exact ⟨RelG.grows_refl _, rfl⟩)), ?_⟩
                  simp only [Act.put, List.setIfInBounds_toArray, List.set_cons_succ, List.set_cons_zero]
                  refine ⟨fun w3 hC _ => RelG.uponG_yes rfl ((by go_simp; first | exact RelG.grows_refl _ | exact ⟨RelG.grows_refl _, rfl⟩)), ?_⟩
                  simp only [Act.put, List.setIfInBounds_toArray, List.set_cons_succ, List.set_cons_zero]
                  intro w12 hC _
                  go_wp2
                  go_roundw
                  case rel => exact ⟨i + 1, by omega, by go_num, U, (O.grow hC).q⟩
                  case measure => simp [intOf]; omega
          · by_cases k3 : o.k = 3
            · go_upto_region 24 with fail
              have hst : CtC r rb rv n (T.tick o.v) w4 0 { w4 with drawn := w4.drawn + 1 } := Rel.below_draws (n := 1) (Below.refl _ _)
              refine Chn.wp_region_chainL (CtC r rb rv n (T.tick o.v) w4) [10] [1, 1, 1, 1, 0, 1, 0, 1, 1, 1, 1] [ptr r 0, ptr r 0, ptr r 0, ptr r 0, vU T.cnt, ptr ob 3, vU o.v, vU ((T.cnt + o.v) % 18446744073709551616), ptr r 0, ptr r 0, undef] (by kernel_rfl) (by kernel_rfl) (by kernel_rfl) (by kernel_rfl) (by kernel_rfl) hst ?_
              clear hst
              refine ⟨fun j w1 hj hC => by exact Chn.upon_pure hC (fun F hF => by (go_simp <;> exact hF)), ?_⟩
              simp only [Act.put, List.setIfInBounds_toArray, List.set_cons_succ, List.set_cons_zero]
              refine ⟨fun j w1 hj hC => by exact Chn.upon_pure hC (fun F hF => by (go_simp <;> exact hF)), ?_⟩
              simp only [Act.put, List.setIfInBounds_toArray, List.set_cons_succ, List.set_cons_zero]
              refine ⟨fun j w1 hj hC => by exact Chn.upon_pure hC (fun F hF => by (go_simp <;> exact hF)), ?_⟩
              simp only [Act.put, List.setIfInBounds_toArray, List.set_cons_succ, List.set_cons_zero]
              refine ⟨fun j w1 hj hC => by exact Chn.upon_pure hC (fun F hF => by (go_simp <;> exact hF)), ?_⟩
              simp only [Act.put, List.setIfInBounds_toArray, List.set_cons_succ, List.set_cons_zero]
              refine ⟨fun j w1 hj hC => by
                obtain rfl : j = 0 := Nat.le_zero.1 hj
                have z := (O.q.b.grow hC).c0
                exact Chn.upon_pure hC (fun F hF => by (go_simp <;> exact hF)), ?_⟩
              simp only [Act.put, List.setIfInBounds_toArray, List.set_cons_succ, List.set_cons_zero]
              refine ⟨fun j w1 hj hC => by exact Chn.upon_pure hC (fun F hF => by (go_simp <;> exact hF)), ?_⟩
              simp only [Act.put, List.setIfInBounds_toArray, List.set_cons_succ, List.set_cons_zero]
              refine ⟨fun j w1 hj hC => by
                obtain rfl : j = 0 := Nat.le_zero.1 hj
                have z := (O.grow hC).cells.2.2.2
                exact Chn.upon_pure hC (fun F hF => by (go_simp <;> exact hF)), ?_⟩
              simp only [Act.put, List.setIfInBounds_toArray, List.set_cons_succ, List.set_cons_zero]
              refine ⟨fun j w1 hj hC => by exact Chn.upon_int hC (IntKind.u64.wrap (T.cnt + o.v)) (wrap_mod _) (fun F hF => by (go_simp <;> exact hF)), ?_⟩
              simp only [Act.put, List.setIfInBounds_toArray, List.set_cons_succ, List.set_cons_zero]
              refine ⟨fun j w1 hj hC => by exact Chn.upon_pure hC (fun F hF => by (go_simp <;> exact hF)), ?_⟩
              simp only [Act.put, List.setIfInBounds_toArray, List.set_cons_succ, List.set_cons_zero]
              refine ⟨fun j w1 hj hC => by exact Chn.upon_pure hC (fun F hF => by (go_simp <;> exact hF)), ?_⟩
              simp only [Act.put, List.setIfInBounds_toArray, List.set_cons_succ, List.set_cons_zero]
              refine ⟨fun w1 hC => by
                have hq := (O.q.b.grow hC)
                have hT := hq.ticked o.v
                exact chn_store 30 _ _ rfl r 0 rfl _ rfl (run_cell w1 30 r 0 _ _ (by kernel_rfl) rfl rfl hq.c0 (hq.f0 0)) ⟨hT.1, (goes_of_below hC).trans hT.2 fun _ _ e => e⟩, ?_⟩
              simp only [Act.put, List.setIfInBounds_toArray, List.set_cons_succ, List.set_cons_zero]
              intro w5 hC
              replace hC : RT r rb rv n (T.tick o.v) w4 w5 := hC
              replace O := O.rt hC
              clear hC z1 z3
              obtain ⟨_, z1, _, z3⟩ := O.cells
              have h2 := tick_c O.q.a o.v
              go_upto_region 26 with (first | (go_at_call 15; refine h2.mono ?_; rintro e w9 ⟨rfl, hT⟩; dsimp only))
              replace O := O.tt hT
              clear hT h2 z1 z3 k1 k2 k3
              generalize T.tick o.v = U at O
              go_wp2
              go_loopw [17, 18] (fun s17 s18 wr => ∃ j : Nat, j ≤ n + 2 ∧ s17 = .int .i64 ((j : Int) - 1) ∧ Hid (OW W.heap.size W g cb r rb rv n U U ob o wr)) (fun s17 s18 _ => n + 2 - (intOf s17 + 1).toNat)
              case atStart => exact ⟨0, Nat.zero_le _, rfl, O⟩
              case round =>
                clear O
                obtain ⟨j, hj, rfl, hO⟩ := hrel
                have O := hO.out
                clear hO
                by_cases hin : (j : Int) - 1 ≤ n
                · have h1 := rhigh_c O.q.b ((j : Int) - 1)
                  have h2 := fun w' (hB : Below wr.heap.size wr w') => thigh_c (O.q.a.grow hB) ((j : Int) - 1)
                  have hO := show Hid _ from O
                  clear O
                  cases highV n U ((j : Int) - 1)
                  all_goals
                    go_wp2_with (first | (go_at_call 16; refine h1.mono ?_; rintro e w10 ⟨rfl, hB⟩; dsimp only; replace h2 := h2 w10 hB; replace hO := show Hid _ from hO.out.grow hB; clear hB h1) | (go_at_call 17; refine h2.mono ?_; rintro e w11 ⟨rfl, hB⟩; dsimp only; replace hO := show Hid _ from hO.out.grow hB; clear hB h2))
                    go_roundw
                    case rel => exact ⟨j + 1, by omega, by go_num, hO.out⟩
                    case measure => simp [intOf]; omega
                · have h1 := next_c O.q.a
                  have h2 := fun w' (hB : Below wr.heap.size wr w') => rnext_c (O.q.b.grow hB)
                  generalize nxC n U = x at h1 h2
                  generalize nxN n U = y at h1 h2
                  generalize nxB n U = z at h1 h2
                  go_upto_region 33 with (first | (go_at_call 18; refine h1.mono ?_; rintro e w10 ⟨rfl, hB⟩; dsimp only))
                  replace h2 := h2 w10 hB
                  replace O := O.grow hB
                  clear hB h1
                  go_upto_region 34 with (first | (go_at_call 19; refine h2.mono ?_; rintro e w11 ⟨rfl, hB⟩; dsimp only))
                  replace O := O.grow hB
                  clear hB h2 hin hj
                  cases z with
                  | false =>
                    refine RelG.wp_region_rel RelG.Grows (fun x => Below w11.heap.size w11 x) [.inl (vI x), .inl (vI x), .inl (.bool false), .inl (.bool false), .inl (vU y), .inl (vU y), .inl (.bool false), .inl (.bool false), .inl (.bool false), .inl (.bool false), .inl (.bool false), .inl (.bool false), .inl (.bool false), .inl (.bool false), .inl (ptr g 0), .inl (vU U.cnt), .inl (ptr r 0), .inl (ptr r 0), .inl (ptr r 0), .inl (vU U.cnt), .inl (.bool false), .inl (.bool false)] (by kernel_rfl) (by kernel_rfl) RelG.grows_refl (fun _ _ h hb => below_then h (Nat.le_refl _) hb) ⟨rfl, rfl, rfl, Nat.le_refl _, fun _ _ => rfl⟩ (by simp [RelG.upK]) ?_
                    refine ⟨fun w3 hC _ => RelG.uponG_yes rfl ((by go_simp; first | exact RelG.grows_refl _ | exact ⟨RelG.grows_refl _, rfl⟩)), ?_⟩
                    simp only [Act.put, List.setIfInBounds_toArray, List.set_cons_succ, List.set_cons_zero]
                    refine ⟨fun w3 hC _ => RelG.uponG_yes rfl ((by go_simp; first | exact RelG.grows_refl _ | exact ⟨RelG.grows_refl _, rfl⟩)), ?_⟩
                    simp only [Act.put, List.setIfInBounds_toArray, List.set_cons_succ, List.set_cons_zero]
                    refine ⟨fun w3 hC _ => RelG.uponG_yes rfl ((by go_simp; first | exact RelG.grows_refl _ | exact ⟨RelG.grows_refl _, rfl⟩)), ?_⟩
                    simp only [Act.put, List.setIfInBounds_toArray, List.set_cons_succ, List.set_cons_zero]
                    refine ⟨fun w3 hC _ => RelG.uponG_yes rfl ((by go_simp; first | exact RelG.grows_refl _ | exact ⟨RelG.grows_refl _, rfl⟩)), ?_⟩
                    simp only [Act.put, List.setIfInBounds_toArray, List.set_cons_succ, List.set_cons_zero]
                    refine ⟨fun w3 hC _ => RelG.uponG_yes rfl ((by go_simp; first | exact RelG.grows_refl _ | exact ⟨RelG.grows_refl _, rfl⟩)), ?_⟩
                    simp only [Act.put, List.setIfInBounds_toArray, List.set_cons_succ, List.set_cons_zero]
                    refine ⟨fun w3 hC _ => RelG.uponG_yes rfl ((by go_simp; first | exact RelG.grows_refl _ | exact ⟨RelG.grows_refl _, rfl⟩)), ?_⟩
                    simp only [Act.put, List.setIfInBounds_toArray, List.set_cons_succ, List.set_cons_zero]
                    refine ⟨fun w3 hC _ => RelG.uponG_yes rfl ((by go_simp; first | exact RelG.grows_refl _ | exact ⟨RelG.grows_refl _, rfl⟩)), ?_⟩
                    simp only [Act.put, List.setIfInBounds_toArray, List.set_cons_succ, List.set_cons_zero]
                    refine ⟨fun w3 hC _ => RelG.uponG_yes rfl ((by go_simp; first | exact RelG.grows_refl _ | exact ⟨RelG.grows_refl _, rfl⟩)), ?_⟩
                    simp only [Act.put, List.setIfInBounds_toArray, List.set_cons_succ, List.set_cons_zero]
                    refine ⟨fun w3 hC _ => RelG.uponG_yes rfl ((by go_simp; first | exact RelG.grows_refl _ | exact ⟨RelG.grows_refl _, rfl⟩)), ?_⟩
                    simp only [Act.put, List.setIfInBounds_toArray, List.set_cons_succ, List.set_cons_zero]
                    refine ⟨fun w3 hC _ => RelG.uponG_yes rfl ((by go_simp; first | exact RelG.grows_refl _ | exact ⟨RelG.grows_refl _, rfl⟩)), ?_⟩
                    simp only [Act.put, List.setIfInBounds_toArray, List.set_cons_succ, List.set_cons_zero]
                    refine ⟨fun w3 hC _ => RelG.uponG_yes rfl ((by go_simp; first | exact RelG.grows_refl _ | exact ⟨RelG.grows_refl _, rfl⟩)), ?_⟩
                    simp only [Act.put, List.setIfInBounds_toArray, List.set_cons_succ, List.set_cons_zero]
                    refine ⟨fun w3 hC _ => RelG.uponG_yes rfl ((by go_simp; first | exact RelG.grows_refl _ | exact ⟨RelG.grows_refl _, rfl⟩)), ?_⟩
                    simp only [Act.put, List.setIfInBounds_toArray, List.set_cons_succ, List.set_cons_zero]
                    refine ⟨fun w3 hC _ => RelG.uponG_yes rfl ((by go_simp; first | exact RelG.grows_refl _ | exact ⟨RelG.grows_refl _, rfl⟩)), ?_⟩
                    simp only [Act.put, List.setIfInBounds_toArray, List.set_cons_succ, List.set_cons_zero]
                    refine ⟨fun w3 hC _ => RelG.uponG_yes rfl ((by go_simp; first | exact RelG.grows_refl _ | exact ⟨RelG.grows_refl _, rfl⟩)), ?_⟩
                    simp only [Act.put, List.setIfInBounds_toArray, List.set_cons_succ, List.set_cons_zero]
                    refine ⟨fun w3 hC _ => RelG.uponG_yes rfl ((by go_simp; first | exact RelG.grows_refl _ | exact ⟨RelG.grows_refl _, rfl⟩)), ?_⟩
                    simp only [Act.put, List.setIfInBounds_toArray, List.set_cons_succ, List.set_cons_zero]
                    refine ⟨fun w3 hC _ => RelG.uponG_yes rfl ((by go_simp; refine (count_c (O.q.a.grow hC)).mono ?_; rintro e w4 ⟨rfl, rfl⟩; exact ⟨rfl, RelG.grows_refl _⟩)), ?_⟩
                    simp only [Act.put, List.setIfInBounds_toArray, List.set_cons_succ, List.set_cons_zero]
                    refine ⟨fun w3 hC _ => RelG.uponG_yes rfl ((by go_simp; first | exact RelG.grows_refl _ | exact ⟨RelG.grows_refl _, rfl⟩)), ?_⟩
                    simp only [Act.put, List.setIfInBounds_toArray, List.set_cons_succ, List.set_cons_zero]
                    refine ⟨fun w3 hC _ => RelG.uponG_yes rfl ((by go_simp; first | exact RelG.grows_refl _ | exact ⟨RelG.grows_refl _, rfl⟩)), ?_⟩
                    simp only [Act.put, List.setIfInBounds_toArray, List.set_cons_succ, List.set_cons_zero]
                    refine ⟨fun w3 hC _ => RelG.uponG_yes rfl ((by go_simp; first | exact RelG.grows_refl _ | exact ⟨RelG.grows_refl _, rfl⟩)), ?_⟩
                    simp only [Act.put, List.setIfInBounds_toArray, List.set_cons_succ, List.set_cons_zero]
                    refine ⟨fun w3 hC _ => RelG.uponG_yes rfl ((by have z := (O.q.b.grow hC).c0; go_simp; first | exact RelG.grows_refl _ | exact ⟨RelG.grows_refl _, rfl⟩)), ?_⟩
                    simp only [Act.put, List.setIfInBounds_toArray, List.set_cons_succ, List.set_cons_zero]
                    refine ⟨fun w3 hC _ => RelG.uponG_yes rfl ((by go_simp; first | exact RelG.grows_refl _ | exact ⟨RelG.grows_refl _, rfl⟩)), ?_⟩
                    simp only [Act.put, List.setIfInBounds_toArray, List.set_cons_succ, List.set_cons_zero]
                    refine ⟨fun w3 hC _ => RelG.uponG_yes rfl ((by go_simp; first | exact RelG.grows_refl _ | exact ⟨RelG.grows_refl _, rfl⟩)), ?_⟩
                    simp only [Act.put, List.setIfInBounds_toArray, List.set_cons_succ, List.set_cons_zero]
                    intro w12 hC _
                    go_wp2
                    go_roundw
                    case rel => exact ⟨i + 1, by omega, by go_num, U, (O.grow hC).q⟩
                    case measure => simp [intOf]; omega
                  | true =>
                    refine RelG.wp_region_rel RelG.Grows (fun x => Below w11.heap.size w11 x) [.inl (vI x), .inl (vI x), .inl (.bool false), .inl (.bool false), .inl (vU y), .inl (vU y), .inl (.bool false), .inl (.bool false), .inl (.bool false), .inl (.bool true), .inl (.bool true), .inl (.bool false), .inl (.bool false), .inl (.bool false), .inl (ptr g 0), .inl (vU U.cnt), .inl (ptr r 0), .inl (ptr r 0), .inl (ptr r 0), .inl (vU U.cnt), .inl (.bool false), .inl (.bool false)] (by kernel_rfl) (by kernel_rfl) RelG.grows_refl (fun _ _ h hb => below_then h (Nat.le_refl _) hb) ⟨rfl, rfl, rfl, Nat.le_refl _, fun _ _ => rfl⟩ (by simp [RelG.upK]) ?_
                    refine ⟨fun w3 hC _ => RelG.uponG_yes rfl ((by go_simp; first | exact RelG.grows_refl _ | exact ⟨RelG.grows_refl _, rfl⟩)), ?_⟩
                    simp only [Act.put, List.setIfInBounds_toArray, List.set_cons_succ, List.set_cons_zero]
                    refine ⟨fun w3 hC _ => RelG.uponG_yes rfl ((by go_simp; first | exact RelG.grows_refl _ | exact ⟨RelG.grows_refl _, rfl⟩)), ?_⟩
                    simp only [Act.put, List.setIfInBounds_toArray, List.set_cons_succ, List.set_cons_zero]
                    refine ⟨fun w3 hC _ => RelG.uponG_yes rfl ((by go_simp; first | exact RelG.grows_refl _ | exact ⟨RelG.grows_refl _, rfl⟩)), ?_⟩
                    simp only [Act.put, List.setIfInBounds_toArray, List.set_cons_succ, List.set_cons_zero]
                    refine ⟨fun w3 hC _ => RelG.uponG_yes rfl ((by go_simp; first | exact RelG.grows_refl _ | exact ⟨RelG.grows_refl _, rfl⟩)), ?_⟩
                    simp only [Act.put, List.setIfInBounds_toArray, List.set_cons_succ, List.set_cons_zero]
                    refine ⟨fun w3 hC _ => RelG.uponG_yes rfl ((by go_simp; first | exact RelG.grows_refl _ | exact ⟨RelG.grows_refl _, rfl⟩)), ?_⟩
                    simp only [Act.put, List.setIfInBounds_toArray, List.set_cons_succ, List.set_cons_zero]
                    refine ⟨fun w3 hC _ => RelG.uponG_yes rfl ((by go_simp; first | exact RelG.grows_refl _ | exact ⟨RelG.grows_refl _, rfl⟩)), ?_⟩
                    simp only [Act.put, List.setIfInBounds_toArray, List.set_cons_succ, List.set_cons_zero]
                    refine ⟨fun w3 hC _ => RelG.uponG_yes rfl ((by go_simp; first | exact RelG.grows_refl _ | exact ⟨RelG.grows_refl _, rfl⟩)), ?_⟩
                    simp only [Act.put, List.setIfInBounds_toArray, List.set_cons_succ, List.set_cons_zero]
                    refine ⟨fun w3 hC _ => RelG.uponG_yes rfl ((by go_simp; first | exact RelG.grows_refl _ | exact ⟨RelG.grows_refl _, rfl⟩)), ?_⟩
                    simp only [Act.put, List.setIfInBounds_toArray, List.set_cons_succ, List.set_cons_zero]
                    refine ⟨fun w3 hC _ => RelG.uponG_yes rfl ((by go_simp; first | exact RelG.grows_refl _ | exact ⟨RelG.grows_refl _, rfl⟩)), ?_⟩
                    simp only [Act.put, List.setIfInBounds_toArray, List.set_cons_succ, List.set_cons_zero]
                    refine ⟨fun w3 hC _ => RelG.uponG_yes rfl ((by go_simp; first | exact RelG.grows_refl _ | exact ⟨RelG.grows_refl _, rfl⟩)), ?_⟩
                    simp only [Act.put, List.setIfInBounds_toArray, List.set_cons_succ, List.set_cons_zero]
                    refine ⟨fun w3 hC _ => RelG.uponG_yes rfl ((by go_simp; first | exact RelG.grows_refl _ | exact ⟨RelG.grows_refl _, rfl⟩)), ?_⟩
                    simp only [Act.put, List.setIfInBounds_toArray, List.set_cons_succ, List.set_cons_zero]
                    refine ⟨fun w3 hC _ => RelG.uponG_yes rfl ((by go_simp; first | exact RelG.grows_refl _ | exact ⟨RelG.grows_refl _, rfl⟩)), ?_⟩
                    simp only [Act.put, List.setIfInBounds_toArray, List.set_cons_succ, List.set_cons_zero]
                    refine ⟨fun w3 hC _ => RelG.uponG_yes rfl ((by go_simp; first | exact RelG.grows_refl _ | exact ⟨RelG.grows_refl _, rfl⟩)), ?_⟩
                    simp only [Act.put, List.setIfInBounds_toArray, List.set_cons_succ, List.set_cons_zero]
                    refine ⟨fun w3 hC _ => RelG.uponG_yes rfl ((by go_simp; first | exact RelG.grows_refl _ | exact ⟨RelG.grows_refl _, rfl⟩)), ?_⟩
                    simp only [Act.put, List.setIfInBounds_toArray, List.set_cons_succ, List.set_cons_zero]
                    refine ⟨fun w3 hC _ => RelG.uponG_yes rfl ((by go_simp; first | exact RelG.grows_refl _ | exact ⟨RelG.grows_refl _, rfl⟩)), ?_⟩
                    simp only [Act.put, List.setIfInBounds_toArray, List.set_cons_succ, List.set_cons_zero]
                    refine ⟨fun w3 hC _ => RelG.uponG_yes rfl ((by go_simp; refine (count_c (O.q.a.grow hC)).mono ?_; rintro e w4 ⟨rfl, rfl⟩; exact ⟨rfl, RelG.grows_refl _⟩)), ?_⟩
                    simp only [Act.put, List.setIfInBounds_toArray, List.set_cons_succ, List.set_cons_zero]
                    refine ⟨fun w3 hC _ => RelG.uponG_yes rfl ((by go_simp; first | exact RelG.grows_refl _ | exact ⟨RelG.grows_refl _, rfl⟩)), ?_⟩
                    simp only [Act.put, List.setIfInBounds_toArray, List.set_cons_succ, List.set_cons_zero]
                    refine ⟨fun w3 hC _ => RelG.uponG_yes rfl ((by go_simp; first | exact RelG.grows_refl _ | exact ⟨RelG.grows_refl _, rfl⟩)), ?_⟩
                    simp only [Act.put, List.setIfInBounds_toArray, List.set_cons_succ, List.set_cons_zero]
                    refine ⟨fun w3 hC _ => RelG.uponG_yes rfl ((by go_simp; first | exact RelG.grows_refl _ | exact ⟨RelG.grows_refl _, rfl⟩)), ?_⟩
                    simp only [Act.put, List.setIfInBounds_toArray, List.set_cons_succ, List.set_cons_zero]
                    refine ⟨fun w3 hC _ => RelG.uponG_yes rfl ((by have z := (O.q.b.grow hC).c0; go_simp; first | exact RelG.grows_refl _ | exact ⟨RelG.grows_refl _, rfl⟩)), ?_⟩
                    simp only [Act.put, List.setIfInBounds_toArray, List.set_cons_succ, List.set_cons_zero]
                    refine ⟨fun w3 hC _ => RelG.uponG_yes rfl ((by go_simp; first | exact RelG.grows_refl _ | exact ⟨RelG.grows_refl _, rfl⟩)), ?_⟩
                    simp only [Act.put, List.setIfInBounds_toArray, List.set_cons_succ, List.set_cons_zero]
                    refine ⟨fun w3 hC _ => RelG.uponG_yes rfl ((by go_simp; first | exact RelG.grows_refl _ | exact ⟨RelG.grows_refl _, rfl⟩)), ?_⟩
                    simp only [Act.put, List.setIfInBounds_toArray, List.set_cons_succ, List.set_cons_zero]
                    intro w12 hC _
                    go_wp2
                    go_roundw
                    case rel => exact ⟨i + 1, by omega, by go_num, U, (O.grow hC).q⟩
                    case measure => simp [intOf]; omega
            · go_upto_region 26 with fail
              clear z1 z3 k1 k2 k3
              generalize T = U at O
              generalize w4 = w9 at O ⊢
              go_wp2
              go_loopw [17, 18] (fun s17 s18 wr => ∃ j : Nat, j ≤ n + 2 ∧ s17 = .int .i64 ((j : Int) - 1) ∧ Hid (OW W.heap.size W g cb r rb rv n U U ob o wr)) (fun s17 s18 _ => n + 2 - (intOf s17 + 1).toNat)
              case atStart => exact ⟨0, Nat.zero_le _, rfl, O⟩
              case round =>
                clear O
                obtain ⟨j, hj, rfl, hO⟩ := hrel
                have O := hO.out
                clear hO
                by_cases hin : (j : Int) - 1 ≤ n
                · have h1 := rhigh_c O.q.b ((j : Int) - 1)
                  have h2 := fun w' (hB : Below wr.heap.size wr w') => thigh_c (O.q.a.grow hB) ((j : Int) - 1)
                  have hO := show Hid _ from O
                  clear O
                  cases highV n U ((j : Int) - 1)
                  all_goals
                    go_wp2_with (first | (go_at_call 16; refine h1.mono ?_; rintro e w10 ⟨rfl, hB⟩; dsimp only; replace h2 := h2 w10 hB; replace hO := show Hid _ from hO.out.grow hB; clear hB h1) | (go_at_call 17; refine h2.mono ?_; rintro e w11 ⟨rfl, hB⟩; dsimp only; replace hO := show Hid _ from hO.out.grow hB; clear hB h2))
                    go_roundw
                    case rel => exact ⟨j + 1, by omega, by go_num, hO.out⟩
                    case measure => simp [intOf]; omega
                · have h1 := next_c O.q.a
                  have h2 := fun w' (hB : Below wr.heap.size wr w') => rnext_c (O.q.b.grow hB)
                  generalize nxC n U = x at h1 h2
                  generalize nxN n U = y at h1 h2
                  generalize nxB n U = z at h1 h2
                  go_upto_region 33 with (first | (go_at_call 18; refine h1.mono ?_; rintro e w10 ⟨rfl, hB⟩; dsimp only))
                  replace h2 := h2 w10 hB
                  replace O := O.grow hB
                  clear hB h1
                  go_upto_region 34 with (first | (go_at_call 19; refine h2.mono ?_; rintro e w11 ⟨rfl, hB⟩; dsimp only))
                  replace O := O.grow hB
                  clear hB h2 hin hj
                  cases z with
                  | false =>
                    refine RelG.wp_region_rel RelG.Grows (fun x => Below w11.heap.size w11 x) [.inl (vI x), .inl (vI x), .inl (.bool false), .inl (.bool false), .inl (vU y), .inl (vU y), .inl (.bool false), .inl (.bool false), .inl (.bool false), .inl (.bool false), .inl (.bool false), .inl (.bool false), .inl (.bool false), .inl (.bool false), .inl (ptr g 0), .inl (vU U.cnt), .inl (ptr r 0), .inl (ptr r 0), .inl (ptr r 0), .inl (vU U.cnt), .inl (.bool false), .inl (.bool false)] (by kernel_rfl) (by kernel_rfl) RelG.grows_refl (fun _ _ h hb => below_then h (Nat.le_refl _) hb) ⟨rfl, rfl, rfl, Nat.le_refl _, fun _ _ => rfl⟩ (by simp [RelG.upK]) ?_
                    refine ⟨fun w3 hC _ => RelG.uponG_yes rfl ((by go_simp; first | exact RelG.grows_refl _ | exact ⟨RelG.grows_refl _, rfl⟩)), ?_⟩
                    simp only [Act.put, List.setIfInBounds_toArray, List.set_cons_succ, List.set_cons_zero]
                    refine ⟨fun w3 hC _ => RelG.uponG_yes rfl ((by go_simp; first | exact RelG.grows_refl _ | exact ⟨RelG.grows_refl _, rfl⟩)), ?_⟩
                    simp only [Act.put, List.setIfInBounds_toArray, List.set_cons_succ, List.set_cons_zero]
                    refine ⟨fun w3 hC _ => RelG.uponG_yes rfl ((by go_simp; first | exact RelG.grows_refl _ | exact ⟨RelG.grows_refl _, rfl⟩)), ?_⟩
                    simp only [Act.put, List.setIfInBounds_toArray, List.set_cons_succ, List.set_cons_zero]
                    refine ⟨fun w3 hC _ => RelG.uponG_yes rfl ((by go_simp; first | exact RelG.grows_refl _ | exact ⟨RelG.grows_refl _, rfl⟩)), ?_⟩
                    simp only [Act.put, List.setIfInBounds_toArray, List.set_cons_succ, List.set_cons_zero]
                    refine ⟨fun w3 hC _ => RelG.uponG_yes rfl ((by go_simp; first | exact RelG.grows_refl _ | exact ⟨RelG.grows_refl _, rfl⟩)), ?_⟩
                    simp only [Act.put, List.setIfInBounds_toArray, List.set_cons_succ, List.set_cons_zero]
                    refine ⟨fun w3 hC _ => RelG.uponG_yes rfl ((by go_simp; first | exact RelG.grows_refl _ | exact ⟨RelG.grows_refl _, rfl⟩)), ?_⟩
                    simp only [Act.put, List.setIfInBounds_toArray, List.set_cons_succ, List.set_cons_zero]
                    refine ⟨fun w3 hC _ => RelG.uponG_yes rfl ((by go_simp; first | exact RelG.grows_refl _ | exact ⟨RelG.grows_refl _, rfl⟩)), ?_⟩
                    simp only [Act.put, List.setIfInBounds_toArray, List.set_cons_succ, List.set_cons_zero]
                    refine ⟨fun w3 hC _ => RelG.uponG_yes rfl ((by go_simp; first | exact RelG.grows_refl _ | exact ⟨RelG.grows_refl _, rfl⟩)), ?_⟩
                    simp only [Act.put, List.setIfInBounds_toArray, List.set_cons_succ, List.set_cons_zero]
                    refine ⟨fun w3 hC _ => RelG.uponG_yes rfl ((by go_simp; first | exact RelG.grows_refl _ | exact ⟨RelG.grows_refl _, rfl⟩)), ?_⟩
                    simp only [Act.put, List.setIfInBounds_toArray, List.set_cons_succ, List.set_cons_zero]
                    refine ⟨fun w3 hC _ => RelG.uponG_yes rfl ((by go_simp; first | exact RelG.grows_refl _ | exact ⟨RelG.grows_refl _, rfl⟩)), ?_⟩
                    simp only [Act.put, List.setIfInBounds_toArray, List.set_cons_succ, List.set_cons_zero]
                    refine ⟨fun w3 hC _ => RelG.uponG_yes rfl ((by go_simp; first | exact RelG.grows_refl _ | exact ⟨RelG.grows_refl _, rfl⟩)), ?_⟩
                    simp only [Act.put, List.setIfInBounds_toArray, List.set_cons_succ, List.set_cons_zero]
                    refine ⟨fun w3 hC _ => RelG.uponG_yes rfl ((by go_simp; first | exact RelG.grows_refl _ | exact ⟨RelG.grows_refl _, rfl⟩)), ?_⟩
                    simp only [Act.put, List.setIfInBounds_toArray, List.set_cons_succ, List.set_cons_zero]
                    refine ⟨fun w3 hC _ => RelG.uponG_yes rfl ((by go_simp; first | exact RelG.grows_refl _ | exact ⟨RelG.grows_refl _, rfl⟩)), ?_⟩
                    simp only [Act.put, List.setIfInBounds_toArray, List.set_cons_succ, List.set_cons_zero]
                    refine ⟨fun w3 hC _ => RelG.uponG_yes rfl ((by go_simp; first | exact RelG.grows_refl _ | exact ⟨RelG.grows_refl _, rfl⟩)), ?_⟩
                    simp only [Act.put, List.setIfInBounds_toArray, List.set_cons_succ, List.set_cons_zero]
                    refine ⟨fun w3 hC _ => RelG.uponG_yes rfl ((by go_simp; first | exact RelG.grows_refl _ | exact ⟨RelG.grows_refl _, rfl⟩)), ?_⟩
                    simp only [Act.put, List.setIfInBounds_toArray, List.set_cons_succ, List.set_cons_zero]
                    refine ⟨fun w3 hC _ => RelG.uponG_yes rfl ((by go_simp; refine (count_c (O.q.a.grow hC)).mono ?_; rintro e w4 ⟨rfl, rfl⟩; exact ⟨rfl, RelG.grows_refl _⟩)), ?_⟩
                    simp only [Act.put, List.setIfInBounds_toArray, List.set_cons_succ, List.set_cons_zero]
                    refine ⟨fun w3 hC _ => RelG.uponG_yes rfl ((by go_simp; first | exact RelG.grows_refl _ | exact ⟨RelG.grows_refl _, rfl⟩)), ?_⟩
                    simp only [Act.put, List.setIfInBounds_toArray, List.set_cons_succ, List.set_cons_zero]
                    refine ⟨fun w3 hC _ => RelG.uponG_yes rfl ((by go_simp; first | exact RelG.grows_refl _ | exact ⟨RelG.grows_refl _, rfl⟩)), ?_⟩
                    simp only [Act.put, List.setIfInBounds_toArray, List.set_cons_succ, List.set_cons_zero]
                    refine ⟨fun w3 hC _ => RelG.uponG_yes rfl ((by go_simp; first | exact RelG.grows_refl _ | exact ⟨RelG.grows_refl _, rfl⟩)), ?_⟩
                    simp only [Act.put, List.setIfInBounds_toArray, List.set_cons_succ, List.set_cons_zero]
                    refine ⟨fun w3 hC _ => RelG.uponG_yes rfl ((by have z := (O.q.b.grow hC).c0; go_simp; first | exact RelG.grows_refl _ | exact ⟨RelG.grows_refl _, rfl⟩)), ?_⟩
                    simp only [Act.put, List.setIfInBounds_toArray, List.set_cons_succ, List.set_cons_zero]
                    refine ⟨fun w3 hC _ => RelG.uponG_yes rfl ((by go_simp; first | exact RelG.grows_refl _ | exact ⟨RelG.grows_refl _, rfl⟩)), ?_⟩
                    simp only [Act.put, List.setIfInBounds_toArray, List.set_cons_succ, List.set_cons_zero]
                    refine ⟨fun w3 hC _ => RelG.uponG_yes rfl ((by go_simp; first | exact RelG.grows_refl _ | exact ⟨RelG.grows_refl _, rfl⟩)), ?_⟩
                    simp only [Act.put, List.setIfInBounds_toArray, List.set_cons_succ, List.set_cons_zero]
                    intro w12 hC _
                    go_wp2
                    go_roundw
                    case rel => exact ⟨i + 1, by omega, by go_num, U, (O.grow hC).q⟩
                    case measure => simp [intOf]; omega
                  | true =>
                    refine RelG.wp_region_rel RelG.Grows (fun x => Below w11.heap.size w11 x) [.inl (vI x), .inl (vI x), .inl (.bool false), .inl (.bool false), .inl (vU y), .inl (vU y), .inl (.bool false), .inl (.bool false), .inl (.bool false), .inl (.bool true), .inl (.bool true), .inl (.bool false), .inl (.bool false), .inl (.bool false), .inl (ptr g 0), .inl (vU U.cnt), .inl (ptr r 0), .inl (ptr r 0), .inl (ptr r 0), .inl (vU U.cnt), .inl (.bool false), .inl (.bool false)] (by kernel_rfl) (by kernel_rfl) RelG.grows_refl (fun _ _ h hb => below_then h (Nat.le_refl _) hb) ⟨rfl, rfl, rfl, Nat.le_refl _, fun _ _ => rfl⟩ (by simp [RelG.upK]) ?_
                    refine ⟨fun w3 hC _ => RelG.uponG_yes rfl ((by go_simp; first | exact RelG.grows_refl _ | exact ⟨RelG.grows_refl _, rfl⟩)), ?_⟩
                    simp only [Act.put, List.setIfInBounds_toArray, List.set_cons_succ, List.set_cons_zero]
                    refine ⟨fun w3 hC _ => RelG.uponG_yes rfl ((by go_simp; first | exact RelG.grows_refl _ | exact ⟨RelG.grows_refl _, rfl⟩)), ?_⟩
                    simp only [Act.put, List.setIfInBounds_toArray, List.set_cons_succ, List.set_cons_zero]
                    refine ⟨fun w3 hC _ => RelG.uponG_yes rfl ((by go_simp; first | exact RelG.grows_refl _ | exact ⟨RelG.grows_refl _, rfl⟩)), ?_⟩
                    simp only [Act.put, List.setIfInBounds_toArray, List.set_cons_succ, List.set_cons_zero]
                    refine ⟨fun w3 hC _ => RelG.uponG_yes rfl ((by go_simp; first | exact RelG.grows_refl _ | exact ⟨RelG.grows_refl _, rfl⟩)), ?_⟩
                    simp only [Act.put, List.setIfInBounds_toArray, List.set_cons_succ, List.set_cons_zero]
                    refine ⟨fun w3 hC _ => RelG.uponG_yes rfl ((by go_simp; first | exact RelG.grows_refl _ | exact ⟨RelG.grows_refl _, rfl⟩)), ?_⟩
                    simp only [Act.put, List.setIfInBounds_toArray, List.set_cons_succ, List.set_cons_zero]
                    refine ⟨fun w3 hC _ => RelG.uponG_yes rfl ((by go_simp; first | exact RelG.grows_refl _ | exact ⟨RelG.grows_refl _, rfl⟩)), ?_⟩
                    simp only [Act.put, List.setIfInBounds_toArray, List.set_cons_succ, List.set_cons_zero]
                    refine ⟨fun w3 hC _ => RelG.uponG_yes rfl ((by go_simp; first | exact RelG.grows_refl _ | exact ⟨RelG.grows_refl _, rfl⟩)), ?_⟩
                    simp only [Act.put, List.setIfInBounds_toArray, List.set_cons_succ, List.set_cons_zero]
                    refine ⟨fun w3 hC _ => RelG.uponG_yes rfl ((by go_simp; first | exact RelG.grows_refl _ | exact ⟨RelG.grows_refl _, rfl⟩)), ?_⟩
                    simp only [Act.put, List.setIfInBounds_toArray, List.set_cons_succ, List.set_cons_zero]
                    refine ⟨fun w3 hC _ => RelG.uponG_yes rfl ((by go_simp; first | exact RelG.grows_refl _ | exact ⟨RelG.grows_refl _, rfl⟩)), ?_⟩
                    simp only [Act.put, List.setIfInBounds_toArray, List.set_cons_succ, List.set_cons_zero]
                    refine ⟨fun w3 hC _ => RelG.uponG_yes rfl ((by go_simp; first | exact RelG.grows_refl _ | exact ⟨RelG.grows_refl _, rfl⟩)), ?_⟩
                    simp only [Act.put, List.setIfInBounds_toArray, List.set_cons_succ, List.set_cons_zero]
                    refine ⟨fun w3 hC _ => RelG.uponG_yes rfl ((by go_simp; first | exact RelG.grows_refl _ | exact ⟨RelG.grows_refl _, rfl⟩)), ?_⟩
                    simp only [Act.put, List.setIfInBounds_toArray, List.set_cons_succ, List.set_cons_zero]
                    refine ⟨fun w3 hC _ => RelG.uponG_yes rfl ((by go_simp; first | exact RelG.grows_refl _ | exact ⟨RelG.grows_refl _, rfl⟩)), ?_⟩
                    simp only [Act.put, List.setIfInBounds_toArray, List.set_cons_succ, List.set_cons_zero]
                    refine ⟨fun w3 hC _ => RelG.uponG_yes rfl ((by go_simp; first | exact RelG.grows_refl _ | exact ⟨RelG.grows_refl _, rfl⟩)), ?_⟩
                    simp only [Act.put, List.setIfInBounds_toArray, List.set_cons_succ, List.set_cons_zero]
                    refine ⟨fun w3 hC _ => RelG.uponG_yes rfl ((by go_simp; first | exact RelG.grows_refl _ | exact ⟨RelG.grows_refl _, rfl⟩)), ?_⟩
                    simp only [Act.put, List.setIfInBounds_toArray, List.set_cons_succ, List.set_cons_zero]
                    refine ⟨fun w3 hC _ => RelG.uponG_yes rfl ((by go_simp; first | exact RelG.grows_refl _ | exact ⟨RelG.grows_refl _, rfl⟩)), ?_⟩
                    simp only [Act.put, List.setIfInBounds_toArray, List.set_cons_succ, List.set_cons_zero]
                    refine ⟨fun w3 hC _ => RelG.uponG_yes rfl ((by go_simp; refine (count_c (O.q.a.grow hC)).mono ?_; rintro e w4 ⟨rfl, rfl⟩; exact ⟨rfl, RelG.grows_refl _⟩)), ?_⟩
                    simp only [Act.put, List.setIfInBounds_toArray, List.set_cons_succ, List.set_cons_zero]
                    refine ⟨fun w3 hC _ => RelG.uponG_yes rfl ((by go_simp; first | exact RelG.grows_refl _ | exact ⟨RelG.grows_refl _, rfl⟩)), ?_⟩
                    simp only [Act.put, List.setIfInBounds_toArray, List.set_cons_succ, List.set_cons_zero]
                    refine ⟨fun w3 hC _ => RelG.uponG_yes rfl ((by go_simp; first | exact RelG.grows_refl _ | exact ⟨RelG.grows_refl _, rfl⟩)), ?_⟩
                    simp only [Act.put, List.setIfInBounds_toArray, List.set_cons_succ, List.set_cons_zero]
                    refine ⟨fun w3 hC _ => RelG.uponG_yes rfl ((by go_simp; first | exact RelG.grows_refl _ | exact ⟨RelG.grows_refl _, rfl⟩)), ?_⟩
                    simp only [Act.put, List.setIfInBounds_toArray, List.set_cons_succ, List.set_cons_zero]
                    refine ⟨fun w3 hC _ => RelG.uponG_yes rfl ((by have z := (O.q.b.grow hC).c0; go_simp; first | exact RelG.grows_refl _ | exact ⟨RelG.grows_refl _, rfl⟩)), ?_⟩
                    simp only [Act.put, List.setIfInBounds_toArray, List.set_cons_succ, List.set_cons_zero]
                    refine ⟨fun w3 hC _ => RelG.uponG_yes rfl ((by go_simp; first | exact RelG.grows_refl _ | exact ⟨RelG.grows_refl _, rfl⟩)), ?_⟩
                    simp only [Act.put, List.setIfInBounds_toArray, List.set_cons_succ, List.set_cons_zero]
                    refine ⟨fun w3 hC _ => RelG.uponG_yes rfl ((by go_simp; first | exact RelG.grows_refl _ | exact ⟨RelG.grows_refl _, rfl⟩)), ?_⟩
                    simp only [Act.put, List.setIfInBounds_toArray, List.set_cons_succ, List.set_cons_zero]
                    intro w12 hC _
                    go_wp2
                    go_roundw
                    case rel => exact ⟨i + 1, by omega, by go_num, U, (O.grow hC).q⟩
                    case measure => simp [intOf]; omega
      · by_cases h1 : (i : Int) < ss.length
        · have h2 : ¬ (i : Int) < 200 := fun h => hend ⟨h1, h⟩
          clear hend
          go_wp2
          go_ret
          exact ⟨rfl, Q.below⟩
        · clear hend
          go_wp2
          go_ret
          exact ⟨rfl, Q.below⟩
end Go.Proofs.Ytebkpmplhpebbaa
