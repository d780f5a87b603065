/- Ack. -/
import Derived.Test.YteklkololojamaaGreatQq
namespace Go.Proofs.YteklkololojamaaGreat
open Go.RowKit
set_option linter.unusedVariables false
set_option linter.unusedSimpArgs false
set_option maxRecDepth 8000

/-- What a call does that may move a row of works. -/
def GTL (g n : Nat) (L : GLay) (P : Pg) (w w' : World) : Prop := ∃ L', GicAt g n P L' w' ∧ Goes (GFoot g n L) w w' ∧ ∀ k, GFoot g n L' k → GFoot g n L k ∨ w.heap.size ≤ k
theorem GT.gtl {g n : Nat} {L : GLay} {P : Pg} {w w' : World} (h : GT g n L P w w') : GTL g n L P w w' := ⟨L, h.1, h.2, fun _ hk => .inl hk⟩
theorem GTL.turn {g n : Nat} {L : GLay} {P : Pg} {F : Nat → Prop} {w w' : World} (h : GTL g n L P w w') (hL : ∀ k, GFoot g n L k → F k) (hF : ∀ k, w.heap.size ≤ k → F k) : GTurn g n F P w w' := by
  obtain ⟨L', h1, h2, h3⟩ := h
  exact ⟨⟨L', h1, fun k hk => (h3 k hk).elim (hL k) (hF k)⟩, h2.mono fun k _ e => hL k e⟩
theorem GTL.ahead {g n : Nat} {L : GLay} {P Q : Pg} {w w1 w2 : World} (hb : GT g n L Q w w1) (h : GTL g n L P w1 w2) : GTL g n L P w w2 := by
  obtain ⟨L', h1, h2, h3⟩ := h
  exact ⟨L', h1, hb.2.trans h2 fun _ _ e => e, fun k hk => (h3 k hk).imp id fun h => Nat.le_trans hb.2.size h⟩
theorem GTL.grow {g n : Nat} {L : GLay} {P : Pg} {w w1 w2 : World} (h : GTL g n L P w w1) (hb : Below w1.heap.size w1 w2) : GTL g n L P w w2 := by
  obtain ⟨L', h1, h2, h3⟩ := h
  exact ⟨L', h1.grow hb, h2.grow hb, h3⟩
def AkC (g n : Nat) (P : Pg) (L : GLay) (c : Nat) (t : Trn) (d : Nat) (w : World) : Nat → Option Value → World → Prop
  | 0, none, w' => GicAt g n P L w' ∧ Below w.heap.size w w' ∧ w'.heap[d]? = some (.cells t.row.toArray 106) ∧ w'.heap.size = w.heap.size
  | 1, none, w' => GicAt g n P L w' ∧ Below w.heap.size w w' ∧ w'.heap[w.heap.size]? = some (.cells t.row.toArray 106)
  | 2, some u, w' => ∃ w0 b cap, u = .slice (some ⟨b, 0, none⟩) ((P.wk c).length + 1) cap ∧ GicAt g n P L w0 ∧ Below w.heap.size w w0 ∧ w'.ownsRow 0 106 2 u (P.wk c ++ [t]).length (flatT (P.wk c ++ [t])) ∧ w0.grownBy w' (L.wv c).ownBlock ∧ ((L.wv c).ownBlock = some b ∨ b = w0.heap.size)
  | 3, some u, w' => GTL g n L (P.setWk c (P.wk c ++ [t])) w w'
  | _, _, _ => False
section
variable {g n : Nat} {P : Pg} {L : GLay} {w : World}
theorem akC_c0 {c : Nat} {t : Trn} {d j : Nat} {ou : Option Value} {w' : World} (hc : c < n) (hj : j ≤ 2) (h : AkC g n P L c t d w j ou w') : w'.cell? ⟨g, 0, none⟩ = some (.slice (some ⟨L.cb, 0, none⟩) n n) := by
  match j, ou, h with
  | 0, none, h => exact h.1.c0
  | 1, none, h => exact h.1.c0
  | 2, some u, h =>
    obtain ⟨w0, b, cap, _, H0, _, _, hg, _⟩ := h
    rw [World.cell?_of_block (w := w0) (a := ⟨g, 0, none⟩) (hg.block g (H0.lt (.inl rfl)) (fun e => (H0.neW hc).1 e.symm))]
    exact H0.c0
theorem akC_wv {c : Nat} {t : Trn} {d j : Nat} {ou : Option Value} {w' : World} (hc : c < n) (hj : j ≤ 1) (h : AkC g n P L c t d w j ou w') : w'.cell? ⟨L.cb, c * 194 + 193, none⟩ = some (L.wv c) := by
  match j, ou, h with
  | 0, none, h => exact h.1.cWv hc
  | 1, none, h => exact h.1.cWv hc
def ackV (n : Nat) (P : Pg) (core : Int) : Int := match nextV n P core with | none => 1023 | some t => t.id
def ackP (n : Nat) (P : Pg) (core : Int) : Pg := match nextV n P core with | none => P | some t => (P.put (pr n core t.id) (pk t.id) { P.src (pr n core t.id) (pk t.id) with l := false, a := true }).setWk core.toNat (P.wk core.toNat ++ [t])
theorem next_in {core : Int} {t : Trn} (h : nextV n P core = some t) : ∃ c k : Nat, core = c ∧ c < n ∧ k < 64 ∧ t = ⟨(lookV n P c k).rank, k⟩ ∧ candB n P c k = true ∧ badB n core t.id = false := by
  unfold nextV at h
  split at h
  · rename_i h1
    obtain ⟨h2, h3⟩ := has_of h1
    obtain ⟨⟨k, g1, g2, g3⟩, _⟩ := bst_some 64 t h
    refine ⟨core.toNat, k, by omega, by omega, g1, g3, g2, ?_⟩
    rw [badB, h1, g3]
    simp
    omega
  · cases h
set_option maxHeartbeats 1000000 in
theorem gack_c (H : GicAt g n P L w) (core : Int) (hlen : ∀ c, c < n → (P.wk c).length + 1 < 1000000) : Calls Tryz.prog 121 #[ptr g 0, vI core] w fun e w' => e = .returned (vI (ackV n P core)) ∧ GTL g n L (ackP n P core) w w' := by
  have hn := next_c H core
  cases hN : nextV n P core with
  | none =>
    have e1 : ackV n P core = 1023 := by rw [ackV, hN]
    have e2 : ackP n P core = P := by rw [ackP, hN]
    rw [e1, e2]
    have e3 : nextT n P core = nilT := by rw [nextT, hN]; rfl
    rw [hN, e3] at hn
    replace hn : Calls Tryz.prog 62 #[ptr g 0, vI core] w fun e w' => e = .returned (.tuple #[nilT.val, .bool false]) ∧ Below w.heap.size w w' := hn
    go_enter Tryz.func121, Tryz.ntmps121
    go_upto_region 2 with (first | (go_at_call 62; refine hn.mono ?_; rintro e w1 ⟨rfl, hB⟩; dsimp only) | (refine wpList_stT rfl _ _ rfl w1.heap.size rfl nilT nilT rfl (heap_alloc_new _ _) ?_; simp only [Act.put]))
    generalize hw4 : World.setRow _ _ _ = w4
    have B4 : Below w.heap.size w w4 := by rw [← hw4]; exact below_then hB (Nat.le_refl _) (below_setRow (below_alloc _ _) (Nat.le_refl _))
    clear hw4
    go_wp2
    go_ret
    exact ⟨rfl, ((gt_refl H).grow B4).gtl⟩
  | some t =>
    obtain ⟨c, k, rfl, hc, hk, et, hcand, hbad⟩ := next_in hN
    have e1 : ackV n P c = t.id := by rw [ackV, hN]
    have e2 : ackP n P c = (P.put (pr n c t.id) (pk t.id) { P.src (pr n c t.id) (pk t.id) with l := false, a := true }).setWk c (P.wk c ++ [t]) := by rw [ackP, hN]; rfl
    rw [e1, e2]
    have e3 : nextT n P c = t := by rw [nextT, hN]; rfl
    rw [hN, e3] at hn
    replace hn : Calls Tryz.prog 62 #[ptr g 0, vI c] w fun e w' => e = .returned (.tuple #[t.val, .bool true]) ∧ Below w.heap.size w w' := hn
    clear e1 e2 e3 hcand et hN
    go_enter Tryz.func121, Tryz.ntmps121
    go_upto_region 2 with (first | (go_at_call 62; refine hn.mono ?_; rintro e w1 ⟨rfl, hB⟩; dsimp only) | (refine wpList_stT rfl _ _ rfl w1.heap.size rfl t nilT rfl (heap_alloc_new _ _) ?_; simp only [Act.put]))
    generalize hw4 : World.setRow _ _ _ = w4
    have B4 : Below w.heap.size w w4 := by rw [← hw4]; exact below_then hB (Nat.le_refl _) (below_setRow (below_alloc _ _) (Nat.le_refl _))
    have hd : w4.heap[w1.heap.size]? = some (.cells t.row.toArray 106) := by rw [← hw4]; exact setRow_heap _ _ _ _ _ _ (heap_alloc_new _ _)
    have z : w4.cell? ⟨w1.heap.size, 1, none⟩ = some (vI t.id) := by rw [cell_of_row _ _ _ _ _ _ hd]; rfl
    have hdF : ¬ GFoot g n L w1.heap.size := fun h => by have := H.lt h; have := hB.size; omega
    clear hw4 hn
    generalize w1.heap.size = d at hd z hdF ⊢
    have H4 := H.grow B4
    go_upto_region 5 with (first | (go_at_call 105; refine (chg_ack1 H4 c t.id hbad).mono ?_; rintro e w5 ⟨rfl, hT⟩; dsimp only))
    have hd5 : w5.heap[d]? = some (.cells t.row.toArray 106) := (hT.2.block d (lt_of_some hd) hdF).trans hd
    have hTA := GT.ahead B4 hT
    have H5 := hT.1
    clear hT H4 z B4 hd hB
    obtain ⟨P1, hP1⟩ : ∃ P1, P1 = P.put (pr n c t.id) (pk t.id) { P.src (pr n c t.id) (pk t.id) with l := false, a := true } := ⟨_, rfl⟩
    rw [← hP1] at hTA H5
    have hwk : P1.wk c = P.wk c := by rw [hP1]; rfl
    have hl1 : (P1.wk c).length + 1 < 1000000 := by rw [hwk]; exact hlen c hc
    replace hwk := show Hid _ from hwk
    replace hP1 := show Hid _ from hP1
    have hc8 : (c : Int) < n := by omega
    have hst : AkC g n P1 L c t d w5 0 none { w5 with drawn := w5.drawn + 1 } := ⟨H5.grow (Rel.below_draws (n := 1) (Below.refl _ _)), Rel.below_draws (n := 1) (Below.refl _ _), hd5, rfl⟩
    refine Chn.wp_region_chainX (AkC g n P1 L c t d w5) [14, 15, 18] [3, 3, 3, 2, 3, 3, 3, 3, 2, 3, 3, 3, 1, 0, 3, 3, 3, 3, 3] 15 (fun u => [ptr g 0, ptr g 0, ptr g 0, .slice (some ⟨L.cb, 0, none⟩) n n, vI c, ptr g 0, ptr g 0, ptr g 0, .slice (some ⟨L.cb, 0, none⟩) n n, vI c, ptr L.cb (c * 194), ptr L.cb (c * 194 + 193), L.wv c, t.val, .slice (some ⟨w5.heap.size, 0, none⟩) 1 1, u, ptr L.cb (c * 194), ptr L.cb (c * 194 + 193), undef]) (by kernel_rfl) (by kernel_rfl) (by kernel_rfl) (by kernel_rfl) (by kernel_rfl) (by kernel_rfl) (fun v q hq => by match q, hq with | 0, _ => rfl | 1, _ => rfl | 2, _ => rfl | 3, _ => rfl | 4, _ => rfl | 5, _ => rfl | 6, _ => rfl | 7, _ => rfl | 8, _ => rfl | 9, _ => rfl | 10, _ => rfl | 11, _ => rfl | 12, _ => rfl | 13, _ => rfl | 14, _ => rfl | 16, _ => rfl | 17, _ => rfl | 18, _ => rfl | n + 19, _ => rfl) (fun v => rfl) (by decide) hst ?_
    intro u
    clear hst
    iterate 3 (refine ⟨fun j ou w1 hj hn hC => by exact Chn.upon_pure hC (fun F hF => by (go_simp <;> exact hF)), ?_⟩; simp only [Act.put, List.setIfInBounds_toArray, List.set_cons_succ, List.set_cons_zero])
    refine ⟨fun j ou w1 hj hn hC => by have z := akC_c0 hc hj hC; exact Chn.upon_pure hC (fun F hF => by (go_simp <;> exact hF)), ?_⟩
    simp only [Act.put, List.setIfInBounds_toArray, List.set_cons_succ, List.set_cons_zero]
    iterate 4 (refine ⟨fun j ou w1 hj hn hC => by exact Chn.upon_pure hC (fun F hF => by (go_simp <;> exact hF)), ?_⟩; simp only [Act.put, List.setIfInBounds_toArray, List.set_cons_succ, List.set_cons_zero])
    refine ⟨fun j ou w1 hj hn hC => by have z := akC_c0 hc hj hC; exact Chn.upon_pure hC (fun F hF => by (go_simp <;> exact hF)), ?_⟩
    simp only [Act.put, List.setIfInBounds_toArray, List.set_cons_succ, List.set_cons_zero]
    iterate 3 (refine ⟨fun j ou w1 hj hn hC => by exact Chn.upon_pure hC (fun F hF => by (go_simp <;> exact hF)), ?_⟩; simp only [Act.put, List.setIfInBounds_toArray, List.set_cons_succ, List.set_cons_zero])
    refine ⟨fun j ou w1 hj hn hC => by have z := akC_wv hc hj hC; exact Chn.upon_pure hC (fun F hF => by (go_simp <;> exact hF)), ?_⟩
    simp only [Act.put, List.setIfInBounds_toArray, List.set_cons_succ, List.set_cons_zero]
    refine ⟨fun j ou w1 hj hn hC => by
      obtain rfl : j = 0 := Nat.le_zero.1 hj
      match ou, hC with
      | none, hC => exact chn_ldT (C := AkC g n P1 L c t d w5 0 none) _ rfl d 0 rfl t (by rw [cell_of_row _ _ _ _ _ _ hC.2.2.1]; rfl) (by rw [cell_of_row _ _ _ _ _ _ hC.2.2.1]; rfl) hC, ?_⟩
    simp only [Act.put, List.setIfInBounds_toArray, List.set_cons_succ, List.set_cons_zero]
    refine ⟨fun ou w1 hn hC => by
      match ou, hC with
      | none, hC => exact chn_build 117 Tryz.underlying117 hC.2.2.2 (.tmp 33) rfl t rfl ⟨hC.1.grow (below_alloc _ _), below_then hC.2.1 (Nat.le_refl _) (below_alloc _ _), by rw [← hC.2.2.2]; exact heap_alloc_new _ _⟩, ?_⟩
    simp only [Act.put, List.setIfInBounds_toArray, List.set_cons_succ, List.set_cons_zero]
    refine ⟨fun w1 hC => by
      exact chn_app 117 Tryz.underlying117 _ _ rfl 0 (L.wv c) (P1.wk c) rfl (hC.1.wks c hc) (Nat.zero_le _) w5.heap.size 1 t rfl hC.2.2 (by omega) (fun b cap w2 q1 q2 q3 => ⟨w1, b, cap, rfl, hC.1, hC.2.1, q1, q2, q3⟩), ?_⟩
    simp only [Act.put, List.setIfInBounds_toArray, List.set_cons_succ, List.set_cons_zero]
    iterate 2 (refine ⟨fun j ou w1 hj hn hC => by exact Chn.upon_pure hC (fun F hF => by (go_simp <;> exact hF)), ?_⟩; simp only [Act.put, List.setIfInBounds_toArray, List.set_cons_succ, List.set_cons_zero])
    refine ⟨fun ou w1 hn hC => by
      obtain rfl := hn (by kernel_rfl)
      obtain ⟨w0, b, cap, rfl, H0, B0, ho, hg, hq⟩ := hC
      have G0 := goes_grown (F := fun k => (L.wv c).ownBlock = some k) hg fun k hk => hk
      have hS := H0.wkSet hc (l := P1.wk c ++ [t]) (by simp; omega) G0 ho (fun b' hb' => by cases hb'; exact hq.imp id fun e => Nat.le_of_eq e.symm)
      have z : w1.cell? ⟨L.cb, c * 194 + 193, none⟩ = some (L.wv c) := by
        rw [World.cell?_of_block (w := w0) (a := ⟨L.cb, c * 194 + 193, none⟩) (hg.block L.cb (H0.lt (.inr (.inl rfl))) (fun e => (H0.neW hc).2 e.symm))]
        exact H0.cWv hc
      have fz : w1.frozen? ⟨L.cb, c * 194 + 193, none⟩ = false := by
        rw [World.frozen?_of_block (w := w0) (a := ⟨L.cb, c * 194 + 193, none⟩) (hg.block L.cb (H0.lt (.inr (.inl rfl))) (fun e => (H0.neW hc).2 e.symm))]
        exact H0.frz (.inr rfl) _
      exact chn_store 117 _ _ rfl L.cb (c * 194 + 193) rfl _ rfl (run_cell w1 117 L.cb (c * 194 + 193) _ _ inf65 rfl rfl z fz) ⟨_, hS.1, (goes_of_below B0).trans hS.2.1 (fun _ _ e => e), fun k hk => (hS.2.2 k hk).imp id fun h => Nat.le_trans B0.size h⟩, ?_⟩
    simp only [Act.put]
    intro w6 hC
    have hfin := GTL.ahead hTA hC
    have hd6 : w6.heap[d]? = some (.cells t.row.toArray 106) := by
      obtain ⟨L', _, h2, _⟩ := hC
      rw [h2.block d (lt_of_some hd5) hdF]; exact hd5
    have z6 : w6.cell? ⟨d, 1, none⟩ = some (vI t.id) := by rw [cell_of_row _ _ _ _ _ _ hd6]; rfl
    clear hC hd6 hd5 H5 hTA
    rw [hwk.out, hP1.out] at hfin
    go_wp2
    go_ret
    exact ⟨rfl, hfin⟩
end
end Go.Proofs.YteklkololojamaaGreat
