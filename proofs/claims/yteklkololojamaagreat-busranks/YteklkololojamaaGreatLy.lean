/- Ranks and routes of a bus, plain; rows of words of one's own. -/
import Derived.Test.YteklkololojamaaGreatBo
import Derived.Test.YteklkololojamaaGreatBn
namespace Go.Proofs.YteklkololojamaaGreat
open Go.RowKit
set_option linter.unusedVariables false
set_option linter.unusedSimpArgs false
set_option maxRecDepth 8000

theorem findR (id : Nat) (h : id < 64) : findK (134218240 + 8 * (id : Int)) = some 5 ∧ plcK 5 (134218240 + 8 * (id : Int)) = id := by
  have key : ∀ i : Fin 64, (findK (134218240 + 8 * ((i.val : Nat) : Int)) == some 5 && plcK 5 (134218240 + 8 * ((i.val : Nat) : Int)) == i.val) = true := by decide +kernel
  have := key ⟨id, h⟩
  simp only [Bool.and_eq_true, beq_iff_eq] at this
  exact this
theorem findT (p : Nat) (h : p < 32) : findK (134218752 + 8 * (p : Int)) = some 6 ∧ plcK 6 (134218752 + 8 * (p : Int)) = p := by
  have key : ∀ i : Fin 32, (findK (134218752 + 8 * ((i.val : Nat) : Int)) == some 6 && plcK 6 (134218752 + 8 * ((i.val : Nat) : Int)) == i.val) = true := by decide +kernel
  have := key ⟨p, h⟩
  simp only [Bool.and_eq_true, beq_iff_eq] at this
  exact this
theorem look_rank {n c d i j r : Nat} {Q : Pg} (hc : c < n) (hd : d < n) (hi : i < 64) (hj : j < 64) (hr : r < 256) : lookV n (grankP n Q c j r) d i = if j = i ∧ (d = c ∨ 32 ≤ i) then { lookV n Q d i with rank := r } else lookV n Q d i := by
  have hE : grankE n c j r = false := by
    unfold grankE
    rw [bad_nat hc (by omega) (by omega), decide_eq_true (by omega : (0 : Int) ≤ r), decide_eq_true (by omega : (r : Int) ≤ 255)]; rfl
  rw [grankP, hE, if_neg (by decide), look_put hc hd hi hj]
  by_cases h : j = i ∧ (d = c ∨ 32 ≤ i)
  · rw [if_pos h, if_pos h, look_nat hd (by omega) (by omega), (pos_iff hc hd hi hj).2 h |>.1, (pos_iff hc hd hi hj).2 h |>.2]
  · rw [if_neg h, if_neg h]
theorem look_route {n d i p v : Nat} {Q : Pg} (hd : d < n) (hi : i < 64) (hp : p < 32) (hv : v < n) : lookV n (grouteP n Q (32 + (p : Int)) v) d i = if 32 + p = i then { lookV n Q d i with goes := v } else lookV n Q d i := by
  have e32 : (32 + (p : Int)) = ((32 + p : Nat) : Int) := by omega
  have hE : grouteE n (32 + (p : Int)) v = false := by
    unfold grouteE
    rw [decide_eq_false (by omega), e32, bad_nat hv (by omega) (by omega)]; rfl
  rw [grouteP, hE, if_neg (by decide), e32, look_put hv hd hi (by omega)]
  by_cases h : 32 + p = i
  · have h' : 32 + p = i ∧ (d = v ∨ 32 ≤ i) := ⟨h, .inr (by omega)⟩
    rw [if_pos h, if_pos h', look_nat hd (by omega) (by omega), (pos_iff hv hd hi (by omega)).2 h' |>.1, (pos_iff hv hd hi (by omega)).2 h' |>.2]
  · rw [if_neg h, if_neg (fun e => h e.1)]
/-- Sixty-four words in a block of one's own. -/
def ArrAt (q : Nat) (f : Nat → Nat) (w : World) : Prop := ∃ C : Array Value, w.heap[q]? = some (.cells C 64) ∧ C.size = 64 ∧ ∀ j, j < 64 → C[j]? = some (vU (f j))
def up (f : Nat → Nat) (j x : Nat) : Nat → Nat := fun i => if i = j then x else f i
section
variable {q : Nat} {f : Nat → Nat} {w w' : World}
theorem ArrAt.lt (h : ArrAt q f w) : q < w.heap.size := by
  obtain ⟨C, h, _⟩ := h
  exact lt_of_some h
theorem ArrAt.keep (h : ArrAt q f w) (hb : w'.heap[q]? = w.heap[q]?) : ArrAt q f w' := by
  unfold ArrAt
  rw [hb]
  exact h
theorem ArrAt.cell (h : ArrAt q f w) {j : Nat} (hj : j < 64) : w.cell? ⟨q, j, none⟩ = some (vU (f j)) := by
  obtain ⟨C, h, _, t⟩ := h
  rw [cell_of_row _ _ _ _ _ _ h]; exact t j hj
theorem ArrAt.frz (h : ArrAt q f w) (j : Nat) : w.frozen? ⟨q, j, none⟩ = false := by
  obtain ⟨C, h, _⟩ := h
  exact frozen_of_row _ _ _ _ _ h
theorem ArrAt.put (h : ArrAt q f w) {j : Nat} (hj : j < 64) (x : Nat) : ArrAt q (up f j x) (w.setCell ⟨q, j, none⟩ (vU x)) := by
  obtain ⟨C, h, hs, t⟩ := h
  refine ⟨_, heap_setCell_same w q j _ 64 _ h, by simp [hs], fun i hi => ?_⟩
  simp only [Array.getElem?_setIfInBounds, up]
  by_cases e : i = j
  · subst e; rw [if_pos rfl, if_pos (by omega), if_pos rfl]
  · rw [if_neg (fun h => e h.symm), if_neg e]; exact t i hi
theorem ArrAt.nf (h : ArrAt q f w) {b g t n : Nat} {S : Bs} {Y : BLay} (H : BusAt b g t n S Y w) : ¬ BFoot b g t n Y q := by
  obtain ⟨C, h, _⟩ := h
  rintro (rfl | hf | hf | hf)
  · exact ne_of_type h H.top (by decide) rfl
  · exact H.gic.notFoot h (by decide) (by decide) (by decide) hf
  · exact timNot H.tim h (by decide) (by decide) hf
  · obtain ⟨D, hD⟩ := H.outBlock hf
    exact ne_of_type h hD (by decide) rfl
end
structure RkW (W : World) (b g t q1 q2 : Nat) (rk tg : Nat → Nat) (S : Bs) (w : World) : Prop where
  bus : ∃ Y, BK W.heap.size W b g t 4 S Y w
  a1 : ArrAt q1 rk w
  a2 : ArrAt q2 tg w
  ne : q1 ≠ q2
  h1 : W.heap.size ≤ q1
  h2 : W.heap.size ≤ q2
structure RkS (c : Nat) (rk tg : Nat → Nat) (S : Bs) : Prop where
  r : ∀ i : Nat, i < 64 → (lookV 4 S.P c i).rank = rk i ∧ rk i < 256
  t : ∀ i : Nat, i < 64 → (lookV 4 S.P 0 i).goes = tg i ∧ tg i < 4
section
variable {W w w' : World} {b g t q1 q2 c : Nat} {rk tg : Nat → Nat} {S S' : Bs}
theorem RkW.grow (H : RkW W b g t q1 q2 rk tg S w) (hb : Below w.heap.size w w') : RkW W b g t q1 q2 rk tg S w' := by
  obtain ⟨Y, K⟩ := H.bus
  exact ⟨⟨Y, K.grow hb⟩, H.a1.keep (hb.block _ H.a1.lt), H.a2.keep (hb.block _ H.a2.lt), H.ne, H.h1, H.h2⟩
theorem RkW.bt {Y : BLay} (H : RkW W b g t q1 q2 rk tg S w) (K : BK W.heap.size W b g t 4 S Y w) (h : BT b g t 4 Y S' w w') : RkW W b g t q1 q2 rk tg S' w' := by
  have h' := h
  obtain ⟨Z, h1, h2, h3⟩ := h
  exact ⟨K.bt h', H.a1.keep (h2.block _ H.a1.lt (H.a1.nf K.at_)), H.a2.keep (h2.block _ H.a2.lt (H.a2.nf K.at_)), H.ne, H.h1, H.h2⟩
theorem bk_set {Y : BLay} {q : Nat} {f : Nat → Nat} (K : BK W.heap.size W b g t 4 S Y w) (ha : ArrAt q f w) (hq : W.heap.size ≤ q) (j : Nat) (x : Value) : BK W.heap.size W b g t 4 S Y (w.setCell ⟨q, j, none⟩ x) :=
  ⟨K.at_.keep fun k hk => Below.heap_setCell _ _ _ _ fun (e : k = q) => ha.nf K.at_ (e ▸ hk), K.foot, K.below.trans ((goes_setCell w (F := fun k => k = q) rfl j x).below (Nat.le_trans K.le K.below.size) fun k hk => by rw [hk]; exact hq), K.le⟩
theorem RkW.put1 (H : RkW W b g t q1 q2 rk tg S w) {j : Nat} (hj : j < 64) (x : Nat) : RkW W b g t q1 q2 (up rk j x) tg S (w.setCell ⟨q1, j, none⟩ (vU x)) := by
  obtain ⟨Y, K⟩ := H.bus
  exact ⟨⟨Y, bk_set K H.a1 H.h1 j _⟩, H.a1.put hj x, H.a2.keep (Below.heap_setCell _ _ _ _ H.ne.symm), H.ne, H.h1, H.h2⟩
theorem RkW.put2 (H : RkW W b g t q1 q2 rk tg S w) {j : Nat} (hj : j < 64) (x : Nat) : RkW W b g t q1 q2 rk (up tg j x) S (w.setCell ⟨q2, j, none⟩ (vU x)) := by
  obtain ⟨Y, K⟩ := H.bus
  exact ⟨⟨Y, bk_set K H.a2 H.h2 j _⟩, H.a1.keep (Below.heap_setCell _ _ _ _ H.ne), H.a2.put hj x, H.ne, H.h1, H.h2⟩
theorem wr_rank {id v : Nat} (hc : c < 4) (hi : id < 64) : bwrS 4 S c (134218240 + 8 * (id : Int)) v = { S with P := grankP 4 S.P c id (v % 256 : Nat) } := by
  rw [bwr_at hc (findR id hi).1, (findR id hi).2]; rfl
theorem wr_route {p v : Nat} (hc : c < 4) (hp : p < 32) : bwrS 4 S c (134218752 + 8 * (p : Int)) v = routeS 4 S p v := by
  rw [bwr_at hc (findT p hp).1, (findT p hp).2]; rfl
theorem RkS.rank {id v : Nat} (H : RkS c rk tg S) (hc : c < 4) (hi : id < 64) : RkS c (up rk id (v % 256)) tg { S with P := grankP 4 S.P c id (v % 256 : Nat) } := by
  refine ⟨fun i h => ?_, fun i h => ?_⟩
  · show (lookV 4 (grankP 4 S.P c id (v % 256 : Nat)) c i).rank = _ ∧ _
    rw [look_rank hc hc h hi (Nat.mod_lt _ (by decide))]
    unfold up
    by_cases e : i = id
    · subst e
      rw [if_pos ⟨rfl, .inl rfl⟩, if_pos rfl]
      exact ⟨rfl, Nat.mod_lt _ (by decide)⟩
    · rw [if_neg (fun h => e h.1.symm), if_neg e]
      exact H.r i h
  · show (lookV 4 (grankP 4 S.P c id (v % 256 : Nat)) (0 : Nat) i).goes = _ ∧ _
    rw [look_rank hc (by decide) h hi (Nat.mod_lt _ (by decide))]
    split
    · exact H.t i h
    · exact H.t i h
theorem RkS.route {p v : Nat} (H : RkS c rk tg S) (hc : c < 4) (hp : p < 32) (hv : v < 4) : RkS c rk (up tg (32 + p) v) (routeS 4 S p v) := by
  unfold routeS
  rw [if_pos hv]
  refine ⟨fun i h => ?_, fun i h => ?_⟩
  · show (lookV 4 (grouteP 4 S.P (32 + (p : Int)) v) c i).rank = _ ∧ _
    rw [look_route hc h hp hv]
    split
    · exact H.r i h
    · exact H.r i h
  · show (lookV 4 (grouteP 4 S.P (32 + (p : Int)) v) (0 : Nat) i).goes = _ ∧ _
    rw [look_route (by decide) h hp hv]
    unfold up
    by_cases e : i = 32 + p
    · subst e
      rw [if_pos rfl, if_pos rfl]
      exact ⟨rfl, hv⟩
    · rw [if_neg (fun h => e h.symm), if_neg e]
      exact H.t i h
theorem RkS.no {p v : Nat} (H : RkS c rk tg S) (hv : ¬ v < 4) : RkS c rk tg (routeS 4 S p v) := by
  unfold routeS
  rw [if_neg hv]
  exact H
theorem rd_rank {id : Nat} (H : RkS c rk tg S) (hc : c < 4) (hi : id < 64) : brdV 4 S c (134218240 + 8 * (id : Int)) = rk id ∧ brdE 4 c (134218240 + 8 * (id : Int)) = 0 := by
  have h := brd_at (S := S) hc (findR id hi).1
  rw [(findR id hi).2] at h
  refine ⟨?_, h.2⟩
  rw [h.1]
  show (lookV 4 S.P c id).rank % 18446744073709551616 = _
  have := H.r id hi
  rw [this.1]
  omega
theorem rd_route {p : Nat} (H : RkS c rk tg S) (hc : c < 4) (hp : p < 32) : brdV 4 S c (134218752 + 8 * (p : Int)) = tg (32 + p) ∧ brdE 4 c (134218752 + 8 * (p : Int)) = 0 := by
  have h := brd_at (S := S) hc (findT p hp).1
  rw [(findT p hp).2] at h
  refine ⟨?_, h.2⟩
  rw [h.1]
  show (lookV 4 S.P 0 (32 + (p : Int))).goes % 18446744073709551616 = _
  have := H.t (32 + p) (by omega)
  rw [show (32 + (p : Int)) = ((32 + p : Nat) : Int) by omega, this.1]
  omega
theorem RkS.new (hc : c < 4) : RkS c (fun _ => 160) (fun _ => 0) newS := by
  refine ⟨fun i h => ?_, fun i h => ?_⟩
  · show (lookV 4 newP c i).rank = _ ∧ _
    rw [look_new hc h]; exact ⟨rfl, by decide⟩
  · show (lookV 4 newP (0 : Nat) i).goes = _ ∧ _
    rw [look_new (by decide) h]; exact ⟨rfl, by decide⟩
end
end Go.Proofs.YteklkololojamaaGreat
