/- What is done to a core's own interrupts is nothing to other cores: the walk. -/
import Derived.Test.YtpmlehfnlodmbaaLb
namespace Go.Proofs.Ytpmlehfnlodmbaa
open Go.RowKit
set_option linter.unusedVariables false
set_option linter.unusedSimpArgs false
set_option maxRecDepth 8000

/-- As the core d sees it, the same. -/
structure Vw (n d : Nat) (P Q : Pg) : Prop where
  src : ∀ i : Nat, i < 64 → lookV n Q d i = lookV n P d i
  lim : Q.lim d = P.lim d
  wk : Q.wk d = P.wk d
theorem Vw.refl {n d : Nat} (P : Pg) : Vw n d P P := ⟨fun _ _ => rfl, rfl, rfl⟩
theorem Vw.trans {n d : Nat} {P Q R : Pg} (h : Vw n d P Q) (k : Vw n d Q R) : Vw n d P R := ⟨fun i hi => (k.src i hi).trans (h.src i hi), k.lim.trans h.lim, k.wk.trans h.wk⟩
theorem Vw.bst {n d : Nat} {P Q : Pg} (h : Vw n d P Q) : ∀ i, i ≤ 64 → bstF n Q d i = bstF n P d i
  | 0, _ => rfl
  | i + 1, hi => by
    have ih := h.bst i (by omega)
    have hs := h.src i (by omega)
    have hc : candB n Q d i = candB n P d i := by rw [candB, candB, hs, h.lim, h.wk]
    rw [bstF, bstF, ih, hc, hs]
theorem Vw.next {n d : Nat} {P Q : Pg} (h : Vw n d P Q) : nextV n Q d = nextV n P d := by
  unfold nextV
  rw [Int.toNat_natCast, h.bst 64 (Nat.le_refl _)]
theorem vw_put {n d : Nat} (P : Pg) {r k : Nat} (s : Src) (hr : r ≠ d) (hn : r ≠ n) (hd : d < n) : Vw n d P (P.put r k s) := by
  refine ⟨fun i hi => ?_, rfl, rfl⟩
  rw [look_nat hd (by omega) (by omega), look_nat hd (by omega) (by omega)]
  show (if pr n d i = r ∧ pk i = k then s else _) = _
  rw [if_neg (fun h => ?_)]
  have h := h.1
  unfold pr at h
  split at h
  · omega
  · rw [Int.toNat_natCast] at h; omega
/-- A call tamed: of the core 0, of an interrupt below 32. -/
def tame (o : St5) : St5 := ⟨if o.k = 6 ∨ o.k = 4 ∨ o.k = 7 ∨ o.k = 8 then 0 else o.k, 0, (pickV o.id 32 : Nat), o.n, o.on⟩
theorem tame_view (P : Pg) (o : St5) : Vw 3 1 P (onlyP 3 P (tame o)) := by
  have hid : pickV o.id 32 < 32 := pick_lt (by decide)
  have hpr : pr 3 0 (pickV o.id 32 : Nat) = 0 := by unfold pr; rw [if_neg (by omega)]; rfl
  unfold onlyP
  have hk4 : ¬ (tame o).k = 4 := by unfold tame; dsimp only; split <;> omega
  have hk6 : ¬ (tame o).k = 6 := by unfold tame; dsimp only; split <;> omega
  have hk7 : ¬ (tame o).k = 7 := by unfold tame; dsimp only; split <;> omega
  have hk8 : ¬ (tame o).k = 8 := by unfold tame; dsimp only; split <;> omega
  rw [if_neg hk4, if_neg hk6, if_neg hk7, if_neg hk8]
  split
  · unfold genableP; split
    · exact Vw.refl _
    · exact vw_put _ _ (show pr 3 0 (pickV o.id 32 : Nat) ≠ 1 by omega) (show pr 3 0 (pickV o.id 32 : Nat) ≠ 3 by omega) (by decide)
  split
  · unfold gpendP; split
    · exact Vw.refl _
    · exact vw_put _ _ (show pr 3 0 (pickV o.id 32 : Nat) ≠ 1 by omega) (show pr 3 0 (pickV o.id 32 : Nat) ≠ 3 by omega) (by decide)
  split
  · unfold glineP; split
    · exact Vw.refl _
    · exact vw_put _ _ (show pr 3 0 (pickV o.id 32 : Nat) ≠ 1 by omega) (show pr 3 0 (pickV o.id 32 : Nat) ≠ 3 by omega) (by decide)
  split
  · unfold grankP; split
    · exact Vw.refl _
    · exact vw_put _ _ (show pr 3 0 (pickV o.id 32 : Nat) ≠ 1 by omega) (show pr 3 0 (pickV o.id 32 : Nat) ≠ 3 by omega) (by decide)
  split
  · unfold gmaskP; split
    · exact Vw.refl _
    · exact ⟨fun i hi => rfl, rfl, rfl⟩
  · exact Vw.refl _
/-- The first j of what was pending. -/
structure Tb1 (P : Pg) (d q : Nat) (w : World) : Prop where
  ar : ∃ C, w.heap[d]? = some (.cells C 56 (0, 0)) ∧ C.size = 32 ∧ ∀ j, j < q → C[j]? = some (.bool (pndV 3 P 1 j))
theorem Tb1.put {P : Pg} {d q : Nat} {w : World} (H : Tb1 P d q w) (hq : q < 32) : Tb1 P d (q + 1) (w.setCell ⟨d, q, none⟩ (.bool (pndV 3 P 1 q))) := by
  obtain ⟨C, h1, h2, h3⟩ := H.ar
  refine ⟨_, heap_setCell_same w d q C 56 _ h1, by simp [h2], fun j hj => ?_⟩
  by_cases e : j = q
  · subst e; rw [Array.getElem?_setIfInBounds_self_of_lt (by omega)]
  · rw [Array.getElem?_setIfInBounds_ne (by omega)]; exact h3 j (by omega)
theorem Tb1.keep {P : Pg} {d q : Nat} {w w' : World} (H : Tb1 P d q w) (h : w'.heap[d]? = w.heap[d]?) : Tb1 P d q w' := by
  obtain ⟨C, h1, h2, h3⟩ := H.ar
  exact ⟨C, by rw [h]; exact h1, h2, h3⟩
theorem Tb1.cell {P : Pg} {d q : Nat} {w : World} (H : Tb1 P d q w) {i : Nat} (hi : i < 32) : ∃ old, w.cell? ⟨d, i, none⟩ = some old ∧ w.frozen? ⟨d, i, none⟩ = false := by
  obtain ⟨C, h1, h2, h3⟩ := H.ar
  exact ⟨_, by rw [cell_of_row _ _ _ _ _ _ h1]; exact Array.getElem?_eq_getElem (by omega), frozen_of_row _ _ _ _ _ h1⟩
theorem Tb1.get {P : Pg} {d q : Nat} {w : World} (H : Tb1 P d q w) {i : Nat} (hi : i < q) : w.cell? ⟨d, i, none⟩ = some (.bool (pndV 3 P 1 i)) := by
  obtain ⟨C, h1, h2, h3⟩ := H.ar
  rw [cell_of_row _ _ _ _ _ _ h1]; exact h3 i hi
theorem Tb1.lt {P : Pg} {d q : Nat} {w : World} (H : Tb1 P d q w) : d < w.heap.size := by
  obtain ⟨C, h1, _⟩ := H.ar
  exact lt_of_some h1
/-- A controller, a table beside it, and the law's World. -/
structure AW (B : Nat) (w0 : World) (g : Nat) (P0 P : Pg) (L : GLay) (wb d : Nat) (w : World) : Prop where
  mw : MW B w0 g 3 P L wb (.pointer none) w
  tab : Tb1 P0 d 32 w
  nf : ¬ GFoot g 3 L d
theorem AW.gtl {B : Nat} {w0 : World} {g : Nat} {P0 P Q : Pg} {L : GLay} {wb d : Nat} {w w' : World} (H : AW B w0 g P0 P L wb d w) (h : GTL g 3 L Q w w') : ∃ L', AW B w0 g P0 Q L' wb d w' := by
  have h1 := h
  obtain ⟨L1, a1, a2, a3⟩ := h
  have hd : w'.heap[d]? = w.heap[d]? := a2.block d H.tab.lt H.nf
  have hw : w'.heap[wb]? = some (.cells #[ptr g 0, .pointer none] 32) := by rw [a2.block wb (lt_of_some H.mw.wb_) H.mw.nf]; exact H.mw.wb_
  refine ⟨L1, ⟨⟨a1, fun k hk => (a3 k hk).elim (H.mw.kw.foot k) fun h => Nat.le_trans (Nat.le_trans H.mw.kw.le H.mw.kw.below.size) h, H.mw.kw.below.trans (a2.below (Nat.le_trans H.mw.kw.le H.mw.kw.below.size) H.mw.kw.foot), H.mw.kw.le⟩, hw, fun h => ?_⟩, H.tab.keep hd, fun h => ?_⟩
  · rcases a3 wb h with h | h
    · exact H.mw.nf h
    · have := lt_of_some H.mw.wb_; omega
  · rcases a3 d h with h | h
    · exact H.nf h
    · have := H.tab.lt; omega
theorem AW.grow {B : Nat} {w0 : World} {g : Nat} {P0 P : Pg} {L : GLay} {wb d : Nat} {w w' : World} (H : AW B w0 g P0 P L wb d w) (hb : Below w.heap.size w w') : AW B w0 g P0 P L wb d w' := ⟨H.mw.grow hb, H.tab.keep (hb.block d H.tab.lt), H.nf⟩
theorem wpList_st35 {ops : Array Oper} {rest : List Oper} {o : Oper} {a : Act} {w : World} {Q : Exit → Act → World → Prop} (hgd : o.guard = none) (x y : Operand) (ho : o.op = .store 35 x y) (b : Nat) (hx : a.eval x = ptr b 0) (s s0 : St5) (hy : a.eval y = s.val) (hg : w.heap[b]? = some (.cells s0.row.toArray 35))
    (h : wpList Try.prog ops Q rest (a.put o.dst undef) (w.setRow b s.row.toArray)) : wpList Try.prog ops Q (o :: rest) a w :=
  wpList_store_row hgd 35 x y ho b s.row.toArray hx hy 35 _ hg (by kernel_rfl) rfl (by simp [Value.oneCell', St5.row]) h
theorem wpList_ld35 {ops : Array Oper} {rest : List Oper} {o : Oper} {a : Act} {w : World} {Q : Exit → Act → World → Prop} (hgd : o.guard = none) (x : Operand) (ho : o.op = .load 35 x) (b : Nat) (hx : a.eval x = ptr b 0) (s : St5) (hg : w.heap[b]? = some (.cells s.row.toArray 35))
    (h : wpList Try.prog ops Q rest (a.put o.dst s.val) w) : wpList Try.prog ops Q (o :: rest) a w :=
  wpList_load_mid hgd 35 x ho b 0 hx s.row _ (fun j y hy => by rw [cell_of_row _ _ _ _ _ _ hg, Nat.zero_add]; simpa using hy) Try.underlying35 rfl (by kernel_rfl) h
set_option maxHeartbeats 4000000 in
theorem apart_walk (v v' : Value) (ss sm : List St5) (W : World) (R : Scr W v ss) (R' : Scr W v' sm) : Calls Try.prog 8 #[v, v'] W fun e w' => e = .returned (.bool true) ∧ Below W.heap.size W w' := by
  obtain ⟨ao', cap', ev'⟩ := R'.len
  go_enter Try.func8, Try.ntmps8
  go_upto_region 2 with (first | (go_at_call 9; refine (known_c W).mono ?_; rintro e w1 ⟨rfl, hB1⟩; dsimp only))
  have hmade := made_c R hB1
  go_upto_region 5 with (first | (go_at_call 14; refine hmade.mono ?_; rintro e w2 ⟨g, rfl, L, K⟩; dsimp only))
  clear hmade
  have hlen : ∀ c, ((plP 3 newP ss (min ss.length 100)).wk c).length ≤ 100 := fun c => by have := pl_len 3 newP ss c (min ss.length 100); have e : (newP.wk c).length = 0 := rfl; omega
  generalize plP 3 newP ss (min ss.length 100) = P at K hlen
  have hW1 := hB1.size
  replace K : KW W.heap.size W g 3 P L w2 := ⟨K.at_, fun k hk => Nat.le_trans hW1 (K.foot k hk), below_then hB1 (Nat.le_refl _) K.below, Nat.le_refl _⟩
  clear hB1 R hW1
  have hbest := gbest_c K.at_ 1
  have hrun := fun w' (hb : Below w2.heap.size w2 w') => grun_c (K.at_.grow hb) 1
  have hlim := fun w' (hb : Below w2.heap.size w2 w') => limit_c (K.at_.grow hb) 1
  have hB := Below.refl w2.heap.size w2
  go_upto_region 8 with (first | (go_at_call 23; refine hbest.mono ?_; rintro e w3 ⟨rfl, hb⟩; dsimp only; replace hB := below_then hB (Nat.le_refl _) hb; clear hb) | (go_at_call 17; refine (hrun _ hB).mono ?_; rintro e w4 ⟨rfl, hb⟩; dsimp only; replace hB := below_then hB (Nat.le_refl _) hb; clear hb) | (go_at_call 16; refine (hlim _ hB).mono ?_; rintro e w5 ⟨rfl, hb⟩; dsimp only; replace hB := below_then hB (Nat.le_refl _) hb; clear hb))
  replace K := K.grow hB
  clear hB hbest hrun hlim
  go_upto_region 9 with fail
  generalize hw6 : World.alloc _ _ = w6
  have B6 : Below w5.heap.size w5 w6 := by rw [← hw6]; exact below_alloc _ _
  have T6 : Tb1 P w5.heap.size 0 w6 := by
    rw [← hw6]
    exact ⟨_, heap_alloc_new _ _, by kernel_rfl, fun j hj => by omega⟩
  have hd : ¬ GFoot g 3 L w5.heap.size := fun h => by have := K.at_.lt h; omega
  have hdW : W.heap.size ≤ w5.heap.size := K.below.size
  replace K := K.grow B6
  clear hw6 B6
  generalize w5.heap.size = d at T6 hd hdW ⊢
  go_wp2
  go_loopw [12] (fun s12 wr => ∃ i : Nat, i ≤ 32 ∧ s12 = .int .i64 i ∧ Hid (KW W.heap.size W g 3 P L wr ∧ Tb1 P d i wr)) (fun s12 _ => 32 - (intOf s12).toNat)
  case atStart => exact ⟨0, Nat.zero_le _, rfl, K, T6⟩
  case round =>
    clear K T6
    obtain ⟨i, hi, rfl, hK⟩ := hrel
    obtain ⟨K, T⟩ := hK.out
    clear hK
    by_cases hi32 : (i : Int) < 32
    · have hpe : Calls Try.prog 20 #[ptr g 0, vI 1, vI i] wr fun e w' => e = .returned (.bool (pndV 3 P 1 i)) ∧ Below wr.heap.size wr w' := pending_c K.at_ 1 i
      go_upto_region 11 with (first | (go_at_call 20; refine hpe.mono ?_; rintro e w7 ⟨rfl, hb⟩; dsimp only; replace K := K.grow hb; replace T := T.keep (hb.block d T.lt); obtain ⟨old, z, fz⟩ := T.cell (show i < 32 by omega); clear hpe hb))
      have T8 := T.put (show i < 32 by omega)
      have G8 := goes_setCell w7 (F := fun k => k = d) rfl i (.bool (pndV 3 P 1 i))
      clear z fz
      generalize World.setCell _ _ _ = w8 at T8 G8 ⊢
      have K8 : KW W.heap.size W g 3 P L w8 := ⟨K.at_.keep fun k hk => G8.block k (K.at_.lt hk) fun e => hd (e ▸ hk), K.foot, K.below.trans (G8.below K.below.size fun k hk => by rw [hk]; exact hdW), K.le⟩
      clear G8 K T
      go_wp2
      go_roundw
      case rel => exact ⟨i + 1, by omega, by go_num, K8, T8⟩
      case measure => simp [intOf]; omega
    · obtain rfl : i = 32 := by omega
      go_upto_region 14 with fail
      generalize hw7 : World.alloc _ _ = w7
      have A7 : ∃ L, AW W.heap.size W g P P L wr.heap.size d w7 := by
        rw [← hw7]
        have hb := below_alloc wr (.cells #[ptr g 0, .pointer none] 32)
        exact ⟨L, ⟨K.grow hb, heap_alloc_new _ _, fun h => by have := K.at_.lt h; omega⟩, T.keep (hb.block d T.lt), hd⟩
      clear hw7 K T hd
      generalize wr.heap.size = wb at A7 ⊢
      rw [ev']
      go_wp2
      go_loopw [14] (fun s14 wr => ∃ i : Nat, i ≤ min sm.length 60 ∧ s14 = .int .i64 i ∧ Hid (∃ Q L, Vw 3 1 P Q ∧ (∀ c, (Q.wk c).length ≤ 100 + i) ∧ AW W.heap.size W g P Q L wb d wr)) (fun s14 _ => 60 - (intOf s14).toNat)
      case atStart =>
        obtain ⟨L7, A7⟩ := A7
        exact ⟨0, Nat.zero_le _, rfl, P, L7, Vw.refl _, hlen, A7⟩
      case round =>
        clear A7
        obtain ⟨i, hi, rfl, hA⟩ := hrel
        obtain ⟨Q, LQ, hV, hQl, A⟩ := hA.out
        clear hA
        by_cases h1 : (i : Int) < sm.length
        · by_cases h2 : (i : Int) < 60
          · have hs := List.getElem?_eq_getElem (l := sm) (i := i) (by omega)
            generalize sm[i] = o at hs
            obtain ⟨ra, cap2, ev2, hc⟩ := R'.at A.mw.kw.below hs
            rw [ev'] at ev2
            cases ev2
            have hwf := R'.wf o (List.mem_of_getElem? hs)
            go_upto_region 18 with (first | (refine wpList_load35 rfl _ rfl _ rfl o hc ?_; simp only [Act.put]) | (refine wpList_st35 rfl _ _ rfl wr.heap.size rfl o ⟨0, 0, 0, 0, false⟩ rfl (heap_alloc_new _ _) ?_; simp only [Act.put]))
            generalize hw8 : World.setRow _ _ _ = w8
            have B8 : Below wr.heap.size wr w8 := by rw [← hw8]; exact below_setRow (below_alloc _ _) (Nat.le_refl _)
            have hb8 : w8.heap[wr.heap.size]? = some (.cells o.row.toArray 35) := by rw [← hw8]; exact setRow_heap _ _ _ _ _ _ (heap_alloc_new _ _)
            clear hw8 hc
            generalize hbs : wr.heap.size = b at B8 hb8 ⊢
            replace hbs := show Hid _ from hbs
            replace B8 := show Hid _ from B8
            obtain ⟨_, z1, z2, _, _⟩ := row_st hb8
            have f1 := frozen_of_row w8 b 1 _ _ hb8
            have n1 := heap_setCell_same w8 b 1 _ 35 (vI 0) hb8
            have G1 := goes_setCell w8 (F := fun k => k = b) rfl 1 (vI 0)
            go_upto_region 19 with fail
            generalize World.setCell _ _ _ = w9 at n1 G1 ⊢
            replace n1 : w9.heap[b]? = some (.cells (St5.row ⟨o.k, 0, o.id, o.n, o.on⟩).toArray 35) := n1
            clear z1 z2 f1 hb8
            obtain ⟨_, _, z2, _, _⟩ := row_st n1
            have f2 := frozen_of_row w9 b 2 _ _ n1
            have hp := gpick_c o.id 32 (by decide) (by decide) ⟨hwf.id.1, by have := hwf.id.2; omega⟩ w9
            have n2 := heap_setCell_same w9 b 2 _ 35 (vI (pickV o.id 32 : Nat)) n1
            have G2 := goes_setCell w9 (F := fun k => k = b) rfl 2 (vI (pickV o.id 32 : Nat))
            go_upto_region 20 with (first | (go_at_call 15; refine hp.mono ?_; rintro e w' ⟨rfl, rfl⟩; dsimp only))
            generalize World.setCell _ _ _ = w10 at n2 G2 ⊢
            replace n2 : w10.heap[b]? = some (.cells (St5.row ⟨o.k, 0, (pickV o.id 32 : Nat), o.n, o.on⟩).toArray 35) := n2
            clear z2 f2 n1 hp
            have G := G1.trans G2 fun _ _ e => e
            clear G1 G2
            obtain ⟨z0, _, _, _, _⟩ := row_st n2
            by_cases hk : o.k = 6 ∨ o.k = 4 ∨ o.k = 7 ∨ o.k = 8
            · have htm : tame o = ⟨0, 0, (pickV o.id 32 : Nat), o.n, o.on⟩ := by rw [tame, if_pos hk]
              have f0 := frozen_of_row w10 b 0 _ _ n2
              have n3 := heap_setCell_same w10 b 0 _ 35 (vI 0) n2
              have G3 := G.trans (goes_setCell w10 (F := fun k => k = b) rfl 0 (vI 0)) fun _ _ e => e
              have hkk := show Hid _ from hk
              rcases hk with e | e | e | e <;> (rw [e] at z0; go_upto_region 22 with fail; generalize World.setCell _ _ _ = w11 at n3 G3 ⊢; replace n3 : w11.heap[b]? = some (.cells (tame o).row.toArray 35) := (by rw [htm]; exact n3); clear z0 f0 n2 e htm hkk)
              all_goals
                have B11 : Below wr.heap.size wr w11 := by
                  have h8 := B8.out
                  rw [hbs.out]
                  exact h8.trans (G3.below (by have := h8.size; rw [hbs.out] at this; exact this) fun k hk => by rw [hk]; exact Nat.le_refl _)
                have A2 := A.grow B11
                have hon := only_c A2.mw.kw.at_ (tame o) A2.mw.wb_ (fun c hc => by have := hQl c; omega)
                clear B11 G3
                go_wp2_with (first | (go_at_call 30; refine hon.mono ?_; rintro e w12 ⟨rfl, hT⟩; dsimp only) | (refine wpList_ld35 rfl _ rfl b rfl (tame o) n3 ?_; simp only [Act.put]))
                go_roundw
                case rel =>
                  obtain ⟨L3, A3⟩ := A2.gtl hT
                  exact ⟨i + 1, by omega, by go_num, onlyP 3 Q (tame o), L3, hV.trans (tame_view _ _), fun c => by have := only_len 3 Q (tame o) c; have := hQl c; omega, A3⟩
                case measure => simp [intOf]; omega

            · have htm : tame o = ⟨o.k, 0, (pickV o.id 32 : Nat), o.n, o.on⟩ := by rw [tame, if_neg hk]
              have m6 : (o.k == 6) = false := by simp; omega
              have m4 : (o.k == 4) = false := by simp; omega
              have m7 : (o.k == 7) = false := by simp; omega
              have m8 : (o.k == 8) = false := by simp; omega
              go_upto_region 22 with fail
              have n3 : w10.heap[b]? = some (.cells (tame o).row.toArray 35) := by rw [htm]; exact n2
              have G3 := G
              obtain ⟨w11, hw11⟩ : ∃ w11, w11 = w10 := ⟨_, rfl⟩
              rw [← hw11] at n3 G3 ⊢
              clear hw11
              clear z0 htm m6 m4 m7 m8 n2
              have B11 : Below wr.heap.size wr w11 := by
                have h8 := B8.out
                rw [hbs.out]
                exact h8.trans (G3.below (by have := h8.size; rw [hbs.out] at this; exact this) fun k hk => by rw [hk]; exact Nat.le_refl _)
              have A2 := A.grow B11
              have hon := only_c A2.mw.kw.at_ (tame o) A2.mw.wb_ (fun c hc => by have := hQl c; omega)
              clear B11 G3
              go_wp2_with (first | (go_at_call 30; refine hon.mono ?_; rintro e w12 ⟨rfl, hT⟩; dsimp only) | (refine wpList_ld35 rfl _ rfl b rfl (tame o) n3 ?_; simp only [Act.put]))
              go_roundw
              case rel =>
                obtain ⟨L3, A3⟩ := A2.gtl hT
                exact ⟨i + 1, by omega, by go_num, onlyP 3 Q (tame o), L3, hV.trans (tame_view _ _), fun c => by have := only_len 3 Q (tame o) c; have := hQl c; omega, A3⟩
              case measure => simp [intOf]; omega
          · obtain ⟨wp, hwp⟩ : ∃ wp, wp = wr := ⟨_, rfl⟩
            rw [← hwp] at A ⊢
            clear hwp
            go_wp2
            go_loopw [16] (fun s16 wq => ∃ j : Nat, j ≤ 32 ∧ s16 = .int .i64 j ∧ Hid (Below wp.heap.size wp wq)) (fun s16 _ => 32 - (intOf s16).toNat)
            case atStart => exact ⟨0, Nat.zero_le _, rfl, Below.refl _ _⟩
            case round =>
              obtain ⟨j, hj, rfl, hb⟩ := hrel
              have A2 := A.grow hb.out
              by_cases hj32 : (j : Int) < 32
              · go_upto_region 26 with fail
                have hpv : pndV 3 Q 1 j = pndV 3 P 1 j := by
                  have := hV.src j (by omega)
                  rw [pndV, pndV, this]
                refine Rel.wp_region_rel Rel.Grows (fun x => Below wr.heap.size wr x) [.inl (ptr g 0), .inl (vI j), .inl (.bool (pndV 3 P 1 j)), .inl (vI j), .inl (ptr d j), .inl (.bool (pndV 3 P 1 j)), .inl (.bool false)] (by kernel_rfl) (by kernel_rfl) (fun a b h1 h2 => below_then h1 (Nat.le_refl _) h2) ⟨rfl, rfl, rfl, Nat.le_refl _, fun _ _ => rfl⟩ ?_ ?_
                · intro k hk
                  simp only [List.mem_cons, List.not_mem_nil, or_false] at hk
                  rcases hk with rfl | rfl | rfl | rfl | rfl | rfl | rfl <;> trivial
                iterate 2 (refine ⟨fun w1 hC hF => by (go_simp <;> exact Below.refl _ _), ?_⟩; simp only [Act.put, List.setIfInBounds_toArray, List.set_cons_succ, List.set_cons_zero])
                refine ⟨fun w1 hC hF => by
                  go_simp
                  have hpe : Calls Try.prog 20 #[ptr g 0, vI 1, vI j] w1 fun e w' => e = .returned (.bool (pndV 3 Q 1 j)) ∧ Below w1.heap.size w1 w' := pending_c (A2.grow hC).mw.kw.at_ 1 j
                  rw [hpv] at hpe
                  refine hpe.mono ?_
                  rintro e w'' ⟨rfl, hb⟩
                  exact ⟨rfl, hb⟩, ?_⟩
                simp only [Act.put, List.setIfInBounds_toArray, List.set_cons_succ, List.set_cons_zero]
                iterate 2 (refine ⟨fun w1 hC hF => by (go_simp <;> exact Below.refl _ _), ?_⟩; simp only [Act.put, List.setIfInBounds_toArray, List.set_cons_succ, List.set_cons_zero])
                refine ⟨fun w1 hC hF => by (have z := (A2.grow hC).tab.get (i := j) (by omega); go_simp <;> exact Below.refl _ _), ?_⟩
                simp only [Act.put, List.setIfInBounds_toArray, List.set_cons_succ, List.set_cons_zero]
                refine ⟨fun w1 hC hF => by (go_simp <;> exact Below.refl _ _), ?_⟩
                simp only [Act.put, List.setIfInBounds_toArray, List.set_cons_succ, List.set_cons_zero]
                intro w3 hC _
                go_wp2
                go_roundw
                case rel => exact ⟨j + 1, by omega, by go_num, below_then hb.out (Nat.le_refl _) hC⟩
                case measure => simp [intOf]; omega
              · obtain rfl : j = 32 := by omega
                have hn : nextV 3 Q 1 = nextV 3 P 1 := hV.next
                have hn2 : nextT 3 Q 1 = nextT 3 P 1 := by rw [nextT, nextT, hn]
                have hr : runC 3 Q 1 = runC 3 P 1 := by
                  show (if hasB 3 1 then runV (Q.wk 1) else 0) = (if hasB 3 1 then runV (P.wk 1) else 0)
                  rw [hV.wk]
                have hl : limV 3 Q 1 = limV 3 P 1 := by
                  show (if hasB 3 1 then Q.lim 1 else 0) = (if hasB 3 1 then P.lim 1 else 0)
                  rw [hV.lim]
                have hbest := gbest_c A2.mw.kw.at_ 1
                have hrun := fun w' (hb : Below wr.heap.size wr w') => grun_c (A2.mw.kw.at_.grow hb) 1
                have hlim := fun w' (hb : Below wr.heap.size wr w') => limit_c (A2.mw.kw.at_.grow hb) 1
                rw [hn, hn2] at hbest
                simp only [hr] at hrun
                simp only [hl] at hlim
                have hB := Below.refl wr.heap.size wr
                clear hn hn2 hr hl
                go_wp2_with (first | (go_at_call 23; refine hbest.mono ?_; rintro e w3 ⟨rfl, hb⟩; dsimp only; replace hB := below_then hB (Nat.le_refl _) hb; clear hb) | (go_at_call 17; refine (hrun _ hB).mono ?_; rintro e w4 ⟨rfl, hb⟩; dsimp only; replace hB := below_then hB (Nat.le_refl _) hb; clear hb) | (go_at_call 16; refine (hlim _ hB).mono ?_; rintro e w5 ⟨rfl, hb⟩; dsimp only; replace hB := below_then hB (Nat.le_refl _) hb; clear hb))
                go_ret
                exact ⟨rfl, (A2.grow hB).mw.kw.below⟩
        · obtain ⟨wp, hwp⟩ : ∃ wp, wp = wr := ⟨_, rfl⟩
          rw [← hwp] at A ⊢
          clear hwp
          go_wp2
          go_loopw [16] (fun s16 wq => ∃ j : Nat, j ≤ 32 ∧ s16 = .int .i64 j ∧ Hid (Below wp.heap.size wp wq)) (fun s16 _ => 32 - (intOf s16).toNat)
          case atStart => exact ⟨0, Nat.zero_le _, rfl, Below.refl _ _⟩
          case round =>
            obtain ⟨j, hj, rfl, hb⟩ := hrel
            have A2 := A.grow hb.out
            by_cases hj32 : (j : Int) < 32
            · go_upto_region 26 with fail
              have hpv : pndV 3 Q 1 j = pndV 3 P 1 j := by
                have := hV.src j (by omega)
                rw [pndV, pndV, this]
              refine Rel.wp_region_rel Rel.Grows (fun x => Below wr.heap.size wr x) [.inl (ptr g 0), .inl (vI j), .inl (.bool (pndV 3 P 1 j)), .inl (vI j), .inl (ptr d j), .inl (.bool (pndV 3 P 1 j)), .inl (.bool false)] (by kernel_rfl) (by kernel_rfl) (fun a b h1 h2 => below_then h1 (Nat.le_refl _) h2) ⟨rfl, rfl, rfl, Nat.le_refl _, fun _ _ => rfl⟩ ?_ ?_
              · intro k hk
                simp only [List.mem_cons, List.not_mem_nil, or_false] at hk
                rcases hk with rfl | rfl | rfl | rfl | rfl | rfl | rfl <;> trivial
              iterate 2 (refine ⟨fun w1 hC hF => by (go_simp <;> exact Below.refl _ _), ?_⟩; simp only [Act.put, List.setIfInBounds_toArray, List.set_cons_succ, List.set_cons_zero])
              refine ⟨fun w1 hC hF => by
                go_simp
                have hpe : Calls Try.prog 20 #[ptr g 0, vI 1, vI j] w1 fun e w' => e = .returned (.bool (pndV 3 Q 1 j)) ∧ Below w1.heap.size w1 w' := pending_c (A2.grow hC).mw.kw.at_ 1 j
                rw [hpv] at hpe
                refine hpe.mono ?_
                rintro e w'' ⟨rfl, hb⟩
                exact ⟨rfl, hb⟩, ?_⟩
              simp only [Act.put, List.setIfInBounds_toArray, List.set_cons_succ, List.set_cons_zero]
              iterate 2 (refine ⟨fun w1 hC hF => by (go_simp <;> exact Below.refl _ _), ?_⟩; simp only [Act.put, List.setIfInBounds_toArray, List.set_cons_succ, List.set_cons_zero])
              refine ⟨fun w1 hC hF => by (have z := (A2.grow hC).tab.get (i := j) (by omega); go_simp <;> exact Below.refl _ _), ?_⟩
              simp only [Act.put, List.setIfInBounds_toArray, List.set_cons_succ, List.set_cons_zero]
              refine ⟨fun w1 hC hF => by (go_simp <;> exact Below.refl _ _), ?_⟩
              simp only [Act.put, List.setIfInBounds_toArray, List.set_cons_succ, List.set_cons_zero]
              intro w3 hC _
              go_wp2
              go_roundw
              case rel => exact ⟨j + 1, by omega, by go_num, below_then hb.out (Nat.le_refl _) hC⟩
              case measure => simp [intOf]; omega
            · obtain rfl : j = 32 := by omega
              have hn : nextV 3 Q 1 = nextV 3 P 1 := hV.next
              have hn2 : nextT 3 Q 1 = nextT 3 P 1 := by rw [nextT, nextT, hn]
              have hr : runC 3 Q 1 = runC 3 P 1 := by
                show (if hasB 3 1 then runV (Q.wk 1) else 0) = (if hasB 3 1 then runV (P.wk 1) else 0)
                rw [hV.wk]
              have hl : limV 3 Q 1 = limV 3 P 1 := by
                show (if hasB 3 1 then Q.lim 1 else 0) = (if hasB 3 1 then P.lim 1 else 0)
                rw [hV.lim]
              have hbest := gbest_c A2.mw.kw.at_ 1
              have hrun := fun w' (hb : Below wr.heap.size wr w') => grun_c (A2.mw.kw.at_.grow hb) 1
              have hlim := fun w' (hb : Below wr.heap.size wr w') => limit_c (A2.mw.kw.at_.grow hb) 1
              rw [hn, hn2] at hbest
              simp only [hr] at hrun
              simp only [hl] at hlim
              have hB := Below.refl wr.heap.size wr
              clear hn hn2 hr hl
              go_wp2_with (first | (go_at_call 23; refine hbest.mono ?_; rintro e w3 ⟨rfl, hb⟩; dsimp only; replace hB := below_then hB (Nat.le_refl _) hb; clear hb) | (go_at_call 17; refine (hrun _ hB).mono ?_; rintro e w4 ⟨rfl, hb⟩; dsimp only; replace hB := below_then hB (Nat.le_refl _) hb; clear hb) | (go_at_call 16; refine (hlim _ hB).mono ?_; rintro e w5 ⟨rfl, hb⟩; dsimp only; replace hB := below_then hB (Nat.le_refl _) hb; clear hb))
              go_ret
              exact ⟨rfl, (A2.grow hB).mw.kw.below⟩
end Go.Proofs.Ytpmlehfnlodmbaa
