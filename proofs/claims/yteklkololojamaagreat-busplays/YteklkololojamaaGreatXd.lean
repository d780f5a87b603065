/- Ca, Cb, Cc, Cd, Ce of the seat, joined. -/
import Derived.Test.YteklkololojamaaGreatXa
import Derived.Test.YteklkololojamaaGreatXb
import Derived.Laws.BytesArg
import Derived.Test.YteklkololojamaaGreatChx
import Derived.Test.YteklkololojamaaGreatBg
import Derived.Test.YteklkololojamaaGreatHg
import Derived.Test.YteklkololojamaaGreatBb
import Derived.Test.YteklkololojamaaGreatBh
/- The document's bus, as the machine's blocks hold it. -/
namespace Go.Proofs.YteklkololojamaaGreat
open Go.RowKit
set_option linter.unusedVariables false
set_option linter.unusedSimpArgs false
set_option maxRecDepth 8000

/-- The block at k is of a type in the list. -/
def HasT (w : World) (k : Nat) (L : List TypeId) : Prop := ∃ C t f, w.heap[k]? = some (.cells C t f) ∧ t ∈ L
theorem HasT.mono {w : World} {k : Nat} {L M : List TypeId} (h : HasT w k L) (hs : ∀ t ∈ L, t ∈ M) : HasT w k M := by
  obtain ⟨C, t, f, h1, h2⟩ := h
  exact ⟨C, t, f, h1, hs t h2⟩
theorem HasT.apart {w : World} {k : Nat} {L M : List TypeId} (h : HasT w k L) (h' : HasT w k M) (hd : ∀ t ∈ L, t ∉ M) : False := by
  obtain ⟨C, t, f, h1, h2⟩ := h
  obtain ⟨C', t', f', h1', h2'⟩ := h'
  rw [h1] at h1'
  cases h1'
  exact hd t h2 h2'
theorem docT {h n : Nat} {X : Doc.Ref} {M : Doc.RLay} {w : World} (H : Doc.RefAt h n X M w) {k : Nat} (hk : Doc.RFoot h n M k) : HasT w k [100, 98, 87, 3] := by
  rcases hk with rfl | e | ⟨r, hr, rfl⟩ | e
  · exact ⟨_, _, _, H.top, by simp⟩
  · obtain ⟨D, _, hD⟩ := own_kind H.own e
    exact ⟨_, _, _, hD, by simp⟩
  · obtain ⟨D, _, hD⟩ := own_kind (H.row r hr) (rfl : (M.sl r).ownBlock = some (M.rb r))
    exact ⟨_, _, _, hD, by simp⟩
  · obtain ⟨D, _, hD⟩ := own_kind H.lim e
    exact ⟨_, _, _, hD, by simp⟩
theorem dtmT {r cb cv n : Nat} {T : Tim.Tm} {w : World} (H : Tmr.RefAt r cb cv n T w) {k : Nat} (hk : Tmr.RFoot r cb cv k) : HasT w k [57, 30] := by
  rcases hk with rfl | rfl | rfl
  · exact ⟨_, _, _, H.top, by simp⟩
  · obtain ⟨C, h, _⟩ := H.ctl
    exact ⟨_, _, _, h, by simp⟩
  · obtain ⟨C, h, _⟩ := H.cvl
    exact ⟨_, _, _, h, by simp⟩
theorem lt_of_T {w : World} {k : Nat} {L : List TypeId} (h : HasT w k L) : k < w.heap.size := by
  obtain ⟨C, t, f, h1, _⟩ := h
  exact lt_of_some h1
/-- The document's bus. -/
structure Ds where
  X : Doc.Ref
  T : Tim.Tm
  O : List Int
structure DLay where
  M : Doc.RLay
  cb : Nat
  cv : Nat
structure DocAt (d h r n : Nat) (S : Ds) (Z : DLay) (w : World) : Prop where
  top : w.heap[d]? = some (.cells #[vI n, ptr h 0, ptr r 0, .string (strOfNums S.O)] 46)
  gic : Doc.RefAt h n S.X Z.M w
  tim : Tmr.RefAt r Z.cb Z.cv n S.T w
  le8 : n ≤ 8
  len : S.O.length ≤ 10000
def DFoot (d h r n : Nat) (Z : DLay) (k : Nat) : Prop := k = d ∨ Doc.RFoot h n Z.M k ∨ Tmr.RFoot r Z.cb Z.cv k
def DT (d h r n : Nat) (Z : DLay) (S : Ds) (w w' : World) : Prop := DocAt d h r n S Z w' ∧ Goes (DFoot d h r n Z) w w'
section
variable {d h r n : Nat} {S S' : Ds} {Z : DLay} {w w' w1 w2 : World}
theorem DocAt.typ (H : DocAt d h r n S Z w) {k : Nat} (hk : DFoot d h r n Z k) : HasT w k [46, 100, 98, 87, 3, 57, 30] := by
  rcases hk with rfl | hk | hk
  · exact ⟨_, _, _, H.top, by simp⟩
  · exact (docT H.gic hk).mono (by decide)
  · exact (dtmT H.tim hk).mono (by decide)
theorem ref_keep {X : Doc.Ref} {M : Doc.RLay} (H : Doc.RefAt h n X M w) (hb : ∀ k, Doc.RFoot h n M k → w'.heap[k]? = w.heap[k]?) : Doc.RefAt h n X M w' :=
  ⟨by rw [hb _ (.inl rfl)]; exact H.top, own_of_block H.own fun k hk => hb k (.inr (.inl hk)), fun q hq => own_of_block (H.row q hq) fun k hk => hb k (.inr (.inr (.inl ⟨q, hq, by cases hk; rfl⟩))), H.len, own_of_block H.lim fun k hk => hb k (.inr (.inr (.inr hk))), H.limn, H.inj⟩
theorem rtm_keep {cb cv : Nat} {T : Tim.Tm} (H : Tmr.RefAt r cb cv n T w) (hb : ∀ k, Tmr.RFoot r cb cv k → w'.heap[k]? = w.heap[k]?) : Tmr.RefAt r cb cv n T w' := H.keep hb
theorem DocAt.keep (H : DocAt d h r n S Z w) (hb : ∀ k, DFoot d h r n Z k → w'.heap[k]? = w.heap[k]?) : DocAt d h r n S Z w' :=
  ⟨by rw [hb _ (.inl rfl)]; exact H.top, ref_keep H.gic fun k hk => hb k (.inr (.inl hk)), rtm_keep H.tim fun k hk => hb k (.inr (.inr hk)), H.le8, H.len⟩
theorem DocAt.grow (H : DocAt d h r n S Z w) (hb : Below w.heap.size w w') : DocAt d h r n S Z w' := H.keep fun k hk => hb.block k (lt_of_T (H.typ hk))
theorem DocAt.same (H : DocAt d h r n S Z w) (hb : Below w.heap.size w w') : DT d h r n Z S w w' := ⟨H.grow hb, goes_of_below hb⟩
theorem DocAt.refl (H : DocAt d h r n S Z w) : DT d h r n Z S w w := ⟨H, Goes.refl _ _⟩
theorem DT.then (G : DT d h r n Z S w w1) (k : DT d h r n Z S' w1 w2) : DT d h r n Z S' w w2 := ⟨k.1, G.2.trans k.2 fun _ _ e => e⟩
theorem DT.ahead (hb : Below w.heap.size w w1) (k : DT d h r n Z S w1 w2) : DT d h r n Z S w w2 := ⟨k.1, (goes_of_below hb).trans k.2 fun _ _ e => e⟩
theorem DT.grow (k : DT d h r n Z S w w1) (hb : Below w1.heap.size w1 w2) : DT d h r n Z S w w2 := ⟨k.1.grow hb, k.2.grow hb⟩
theorem DocAt.gicT (H : DocAt d h r n S Z w) {X' : Doc.Ref} (k : Doc.RTurn h n Z.M X' w w') : DT d h r n Z { S with X := X' } w w' := by
  obtain ⟨k1, k2⟩ := k
  have ap : ∀ q, HasT w q [46, 57, 30] → w'.heap[q]? = w.heap[q]? := fun q hq => k2.block q (lt_of_T hq) fun hf => (docT H.gic hf).apart hq (by decide)
  refine ⟨⟨by rw [ap d ⟨_, _, _, H.top, by simp⟩]; exact H.top, k1, rtm_keep H.tim fun q hq => ap q ((dtmT H.tim hq).mono (by decide)), H.le8, H.len⟩, k2.mono fun q _ hq => .inr (.inl hq)⟩
theorem DocAt.timT (H : DocAt d h r n S Z w) {T' : Tim.Tm} (k : Tmr.RT r Z.cb Z.cv n T' w w') : DT d h r n Z { S with T := T' } w w' := by
  obtain ⟨k1, k2⟩ := k
  have ap : ∀ q, HasT w q [46, 100, 98, 87, 3] → w'.heap[q]? = w.heap[q]? := fun q hq => k2.block q (lt_of_T hq) fun hf => (dtmT H.tim hf).apart hq (by decide)
  refine ⟨⟨by rw [ap d ⟨_, _, _, H.top, by simp⟩]; exact H.top, ref_keep H.gic fun q hq => ap q ((docT H.gic hq).mono (by decide)), k1, H.le8, H.len⟩, k2.mono fun q _ hq => .inr (.inr hq)⟩
theorem DocAt.outT (H : DocAt d h r n S Z w) (O : List Int) (hl : O.length ≤ 10000) : DT d h r n Z { S with O := O } w (w.setCell ⟨d, 3, none⟩ (.string (strOfNums O))) := by
  have ap : ∀ q, HasT w q [100, 98, 87, 3, 57, 30] → (w.setCell ⟨d, 3, none⟩ (.string (strOfNums O))).heap[q]? = w.heap[q]? := fun q hq => Below.heap_setCell _ _ _ _ fun (e : q = d) => by
    subst e
    exact hq.apart ⟨_, _, _, H.top, by simp⟩ (M := [46]) (by decide)
  exact ⟨⟨heap_setCell_same w d 3 _ 46 _ H.top, ref_keep H.gic fun q hq => ap q ((docT H.gic hq).mono (by decide)), rtm_keep H.tim fun q hq => ap q ((dtmT H.tim hq).mono (by decide)), H.le8, hl⟩, goes_setCell w (F := DFoot d h r n Z) (.inl rfl) _ _⟩
theorem DocAt.c0 (H : DocAt d h r n S Z w) : w.cell? ⟨d, 0, none⟩ = some (vI n) := by rw [cell_of_row _ _ _ _ _ _ H.top]; rfl
theorem DocAt.c1 (H : DocAt d h r n S Z w) : w.cell? ⟨d, 1, none⟩ = some (ptr h 0) := by rw [cell_of_row _ _ _ _ _ _ H.top]; rfl
theorem DocAt.c2 (H : DocAt d h r n S Z w) : w.cell? ⟨d, 2, none⟩ = some (ptr r 0) := by rw [cell_of_row _ _ _ _ _ _ H.top]; rfl
theorem DocAt.c3 (H : DocAt d h r n S Z w) : w.cell? ⟨d, 3, none⟩ = some (.string (strOfNums S.O)) := by rw [cell_of_row _ _ _ _ _ _ H.top]; rfl
theorem DocAt.f (H : DocAt d h r n S Z w) (j : Nat) : w.frozen? ⟨d, j, none⟩ = false := frozen_of_row _ _ _ _ _ H.top
end
end Go.Proofs.YteklkololojamaaGreat
/- The document's bus: Is, lines. -/
namespace Go.Proofs.YteklkololojamaaGreat
open Go.RowKit
set_option linter.unusedVariables false
set_option linter.unusedSimpArgs false
set_option maxRecDepth 8000

open Tim
def docIs (a : Int) : Bool := (decide (134217728 ≤ a) && decide (a < 134221824)) || (decide (150994944 ≤ a) && decide (a < 150994952))
theorem dis_c (a : Int) (w : World) : Calls Tryz.prog 23 #[vU a] w fun e w' => e = .returned (.bool (docIs a)) ∧ w' = w := by
  unfold docIs
  by_cases h1 : 134217728 ≤ a <;> by_cases h2 : a < 134221824 <;> by_cases h3 : 150994944 ≤ a
  all_goals
    simp only [h1, h2, h3, decide_true, decide_false, Bool.and_true, Bool.true_and, Bool.false_and, Bool.and_false, Bool.or_false, Bool.false_or, Bool.true_or]
    go_enter Tryz.func23, Tryz.ntmps23
    go_wp2
    go_ret
    exact ⟨rfl, rfl⟩
section
variable {d h r n : Nat} {S S' : Ds} {Z : DLay} {w w' w1 w2 : World}
/-- An interrupt's line set. -/
def dlineX (n : Nat) (X : Doc.Ref) (T : Tm) (c : Nat) : Doc.Ref := X.put c 27 { X.get c 27 with h := Tmr.highV n T c }
def dlnF (n : Nat) (T : Tm) (X : Doc.Ref) : Nat → Doc.Ref
  | 0 => X
  | c + 1 => dlineX n (dlnF n T X c) T c
theorem row27 (H : DocAt d h r n S Z w) {c : Nat} (hc : c < n) : (S.X.rows c)[27]? = some (S.X.get c 27) := by
  have hl := H.gic.len c (by omega)
  unfold Doc.Ref.get
  rw [List.getElem?_eq_getElem (by omega)]; rfl
theorem lcell (H : DocAt d h r n S Z w) {c : Nat} (hc : c < n) : w.cell? ⟨Z.M.rb c, 218, none⟩ = some (.bool (S.X.get c 27).h) := by
  have := H.gic.at (r := c) (by omega) (row27 H hc) 2 (by decide)
  exact this
theorem lfrz (H : DocAt d h r n S Z w) {c : Nat} (hc : c < n) : w.frozen? ⟨Z.M.rb c, 218, none⟩ = false := by
  obtain ⟨D, _, hD⟩ := own_kind (H.gic.row c (by omega)) (rfl : (Z.M.sl c).ownBlock = some (Z.M.rb c))
  exact frozen_of_row _ _ _ _ _ hD
theorem lset (H : DocAt d h r n S Z w) {c : Nat} (hc : c < n) (v : Bool) : DT d h r n Z { S with X := S.X.put c 27 { S.X.get c 27 with h := v } } w (w.setCell ⟨Z.M.rb c, 218, none⟩ (.bool v)) := by
  have := H.gic.set (r := c) (k := 27) (by omega) (row27 H hc) 2 (by decide) (s' := { S.X.get c 27 with h := v }) (v := .bool v) rfl
  exact H.gicT ⟨this.1, this.2⟩
def LnC (d h r n : Nat) (Z : DLay) (X' : Doc.Ref) (S : Ds) (w : World) : Nat → World → Prop
  | 0, w' => Below w.heap.size w w'
  | 1, w' => Below w.heap.size w w'
  | 2, w' => Below w.heap.size w w'
  | 3, w' => DT d h r n Z { S with X := X' } w w'
  | _, _ => False
theorem lnC_below {X' : Doc.Ref} {j : Nat} (hj : j ≤ 2) (k : LnC d h r n Z X' S w j w') : Below w.heap.size w w' := by
  match j, hj with
  | 0, _ => exact k
  | 1, _ => exact k
  | 2, _ => exact k
set_option maxHeartbeats 1000000 in
theorem dlines_c (H : DocAt d h r n S Z w) : Calls Tryz.prog 53 #[ptr d 0] w fun e w' => e = .returned (.tuple #[]) ∧ DT d h r n Z { S with X := dlnF n S.T S.X n } w w' := by
  have hn := H.le8
  go_enter Tryz.func53, Tryz.ntmps53
  go_wp2
  go_loopw [2] (fun s2 wr => ∃ c : Nat, c ≤ n ∧ s2 = .int .i64 c ∧ Hid (DT d h r n Z { S with X := dlnF n S.T S.X c } w wr)) (fun s2 _ => 8 - (intOf s2).toNat)
  case atStart => exact ⟨0, Nat.zero_le _, rfl, H.refl⟩
  case round =>
    obtain ⟨c, hcn, rfl, hT⟩ := hrel
    have c0 := hT.out.1.c0
    by_cases hlt : (c : Int) < n
    · have hlt2 : c < n := by omega
      obtain ⟨H1, G1⟩ := hT.out
      clear hT
      generalize hQ : ({ S with X := dlnF n S.T S.X c } : Ds) = Q at H1 G1
      have hF : ({ Q with X := dlineX n Q.X Q.T c } : Ds) = { S with X := dlnF n S.T S.X (c + 1) } := by rw [← hQ]; rfl
      replace hF := show Hid _ from hF
      clear hQ
      have hof : ∀ w, DocAt d h r n Q Z w → Calls Tryz.prog 46 #[ptr h 0, vI c, vI 27] w fun e w' => e = .returned (ptr (Z.M.rb c) 216) ∧ w' = w := fun w H => by
        have hb : Doc.rbadB n c 27 = false := by
          unfold Doc.rbadB
          rw [decide_eq_false (by omega), decide_eq_false (by omega)]; rfl
        have := Doc.of_c H.gic c 27 hb
        unfold Doc.posR Doc.posK at this
        rw [if_neg (by decide), if_neg (by decide), Int.toNat_natCast] at this
        exact this
      go_upto_region 3 with fail
      clear c0
      have hst : LnC d h r n Z (dlineX n Q.X Q.T c) Q wr 0 { wr with drawn := wr.drawn + 1 } := Rel.below_draws (n := 1) (Below.refl _ _)
      refine Chn.wp_region_chainL (LnC d h r n Z (dlineX n Q.X Q.T c) Q wr) [5, 11, 14] [3, 3, 3, 0, 3, 3, 3, 3, 3, 1, 3, 3, 3, 3, 3] [ptr d 0, ptr d 0, ptr d 1, ptr h 0, vI c, ptr (Z.M.rb c) 216, ptr d 0, ptr d 0, ptr d 2, ptr r 0, vI c, .bool (Tmr.highV n Q.T c), ptr (Z.M.rb c) 216, ptr (Z.M.rb c) 218, undef] (by kernel_rfl) (by kernel_rfl) (by kernel_rfl) (by kernel_rfl) (by kernel_rfl) hst ?_
      clear hst
      refine ⟨fun j w1 hj hC => by exact Chn.upon_pure hC (fun F hF => by (go_simp <;> exact hF)), ?_⟩
      simp only [Act.put, List.setIfInBounds_toArray, List.set_cons_succ, List.set_cons_zero]
      refine ⟨fun j w1 hj hC => by exact Chn.upon_pure hC (fun F hF => by (go_simp <;> exact hF)), ?_⟩
      simp only [Act.put, List.setIfInBounds_toArray, List.set_cons_succ, List.set_cons_zero]
      refine ⟨fun j w1 hj hC => by exact Chn.upon_pure hC (fun F hF => by (go_simp <;> exact hF)), ?_⟩
      simp only [Act.put, List.setIfInBounds_toArray, List.set_cons_succ, List.set_cons_zero]
      refine ⟨fun j w1 hj hC => by
        have z := (H1.grow (lnC_below (Nat.le_trans hj (by decide)) hC)).c1
        exact Chn.upon_pure hC (fun F hF => by (go_simp <;> exact hF)), ?_⟩
      simp only [Act.put, List.setIfInBounds_toArray, List.set_cons_succ, List.set_cons_zero]
      refine ⟨fun j w1 hj hC => by exact Chn.upon_pure hC (fun F hF => by (go_simp <;> exact hF)), ?_⟩
      simp only [Act.put, List.setIfInBounds_toArray, List.set_cons_succ, List.set_cons_zero]
      refine ⟨fun w1 hC => by
        exact Chn.upon_call (C := (LnC d h r n Z (dlineX n Q.X Q.T c) Q wr) 1) (hof w1 (H1.grow hC)) (fun e2 w2 hh => ⟨hh.1, by rw [hh.2]; exact hC⟩) (fun F hF => by (go_simp <;> exact hF)), ?_⟩
      simp only [Act.put, List.setIfInBounds_toArray, List.set_cons_succ, List.set_cons_zero]
      refine ⟨fun j w1 hj hC => by exact Chn.upon_pure hC (fun F hF => by (go_simp <;> exact hF)), ?_⟩
      simp only [Act.put, List.setIfInBounds_toArray, List.set_cons_succ, List.set_cons_zero]
      refine ⟨fun j w1 hj hC => by exact Chn.upon_pure hC (fun F hF => by (go_simp <;> exact hF)), ?_⟩
      simp only [Act.put, List.setIfInBounds_toArray, List.set_cons_succ, List.set_cons_zero]
      refine ⟨fun j w1 hj hC => by exact Chn.upon_pure hC (fun F hF => by (go_simp <;> exact hF)), ?_⟩
      simp only [Act.put, List.setIfInBounds_toArray, List.set_cons_succ, List.set_cons_zero]
      refine ⟨fun j w1 hj hC => by
        have z := (H1.grow (lnC_below (Nat.le_trans hj (by decide)) hC)).c2
        exact Chn.upon_pure hC (fun F hF => by (go_simp <;> exact hF)), ?_⟩
      simp only [Act.put, List.setIfInBounds_toArray, List.set_cons_succ, List.set_cons_zero]
      refine ⟨fun j w1 hj hC => by exact Chn.upon_pure hC (fun F hF => by (go_simp <;> exact hF)), ?_⟩
      simp only [Act.put, List.setIfInBounds_toArray, List.set_cons_succ, List.set_cons_zero]
      refine ⟨fun w1 hC => by
        exact Chn.upon_call (C := (LnC d h r n Z (dlineX n Q.X Q.T c) Q wr) 2) (Tmr.rhigh_c (H1.grow hC).tim c) (fun e2 w2 hh => ⟨hh.1, below_then hC (Nat.le_refl _) hh.2⟩) (fun F hF => by (go_simp <;> exact hF)), ?_⟩
      simp only [Act.put, List.setIfInBounds_toArray, List.set_cons_succ, List.set_cons_zero]
      refine ⟨fun j w1 hj hC => by exact Chn.upon_pure hC (fun F hF => by (go_simp <;> exact hF)), ?_⟩
      simp only [Act.put, List.setIfInBounds_toArray, List.set_cons_succ, List.set_cons_zero]
      refine ⟨fun j w1 hj hC => by exact Chn.upon_pure hC (fun F hF => by (go_simp <;> exact hF)), ?_⟩
      simp only [Act.put, List.setIfInBounds_toArray, List.set_cons_succ, List.set_cons_zero]
      refine ⟨fun w1 hC => by
        have H2 := H1.grow hC
        have z := lcell H2 hlt2
        have fz := lfrz H2 hlt2
        have hn := lset H2 hlt2 (Tmr.highV n Q.T c)
        have hn2 : LnC d h r n Z (dlineX n Q.X Q.T c) Q wr 3 (w1.setCell ⟨Z.M.rb c, 218, none⟩ (.bool (Tmr.highV n Q.T c))) := DT.ahead hC hn
        generalize Tmr.highV n Q.T c = hv at *
        generalize LnC d h r n Z (dlineX n Q.X Q.T c) Q wr 3 = FF at *
        go_simp
        exact hn2, ?_⟩
      simp only [Act.put, List.setIfInBounds_toArray, List.set_cons_succ, List.set_cons_zero]
      intro w5 hC

      replace hC : DT d h r n Z { Q with X := dlineX n Q.X Q.T c } wr w5 := hC
      rw [hF.out] at hC
      go_wp2
      go_roundw
      case rel => exact ⟨c + 1, by omega, by go_num, ⟨hC.1, G1.trans hC.2 fun _ _ e => e⟩⟩
      case measure => simp [intOf]; omega
    · have hcn2 : c = n := by omega
      subst hcn2
      go_wp2
      exact bodyPost_end (results_none rfl _ _ _) rfl ⟨rfl, hT.out⟩
end
end Go.Proofs.YteklkololojamaaGreat
/- The document's bus: where registers are. -/
namespace Go.Proofs.YteklkololojamaaGreat
open Go.RowKit
set_option linter.unusedVariables false
set_option linter.unusedSimpArgs false
set_option maxRecDepth 8000

theorem findK_if (a : Int) : findK a = if hitK 0 a then some 0 else if hitK 1 a then some 1 else if hitK 2 a then some 2 else if hitK 3 a then some 3 else if hitK 4 a then some 4 else if hitK 5 a then some 5 else if hitK 6 a then some 6 else if hitK 7 a then some 7 else none := by
  unfold findK findF findF findF findF findF findF findF findF findF
  cases hitK 0 a <;> cases hitK 1 a <;> cases hitK 2 a <;> cases hitK 3 a <;> cases hitK 4 a <;> cases hitK 5 a <;> cases hitK 6 a <;> cases hitK 7 a <;> rfl
/-- What the document calls a register: its kind, its interrupt. -/
def thK (a : Int) : Int := match findK a with
  | none => 0
  | some k => k
def thI (a : Int) : Int := match findK a with
  | some 5 => plcK 5 a
  | some 6 => plcK 6 a + 32
  | _ => 0

theorem th_con (a : Int) (hu : U64 a) (h : a = 150994944) (w : World) : Calls Tryz.prog 44 #[vU a] w fun e w' => e = .returned (.tuple #[vI (thK a), vI (thI a), .bool (findK a).isSome]) ∧ w' = w := by
    obtain ⟨u0, u1⟩ := hu
    have g0 : hitK 0 a = false := by
      show (decide ((a - 134217728) % 18446744073709551616 < 1 * 8) && decide ((a - 134217728) % 18446744073709551616 % 8 = 0)) = false
      rw [Bool.and_eq_false_iff, decide_eq_false_iff_not, decide_eq_false_iff_not]; omega
    have g1 : hitK 1 a = false := by
      show (decide ((a - 134217736) % 18446744073709551616 < 1 * 8) && decide ((a - 134217736) % 18446744073709551616 % 8 = 0)) = false
      rw [Bool.and_eq_false_iff, decide_eq_false_iff_not, decide_eq_false_iff_not]; omega
    have g2 : hitK 2 a = false := by
      show (decide ((a - 134217744) % 18446744073709551616 < 1 * 8) && decide ((a - 134217744) % 18446744073709551616 % 8 = 0)) = false
      rw [Bool.and_eq_false_iff, decide_eq_false_iff_not, decide_eq_false_iff_not]; omega
    have g3 : hitK 3 a = false := by
      show (decide ((a - 134217752) % 18446744073709551616 < 1 * 8) && decide ((a - 134217752) % 18446744073709551616 % 8 = 0)) = false
      rw [Bool.and_eq_false_iff, decide_eq_false_iff_not, decide_eq_false_iff_not]; omega
    have g4 : hitK 4 a = false := by
      show (decide ((a - 134217760) % 18446744073709551616 < 1 * 8) && decide ((a - 134217760) % 18446744073709551616 % 8 = 0)) = false
      rw [Bool.and_eq_false_iff, decide_eq_false_iff_not, decide_eq_false_iff_not]; omega
    have g5 : hitK 5 a = false := by
      show (decide ((a - 134218240) % 18446744073709551616 < 64 * 8) && decide ((a - 134218240) % 18446744073709551616 % 8 = 0)) = false
      rw [Bool.and_eq_false_iff, decide_eq_false_iff_not, decide_eq_false_iff_not]; omega
    have g6 : hitK 6 a = false := by
      show (decide ((a - 134218752) % 18446744073709551616 < 32 * 8) && decide ((a - 134218752) % 18446744073709551616 % 8 = 0)) = false
      rw [Bool.and_eq_false_iff, decide_eq_false_iff_not, decide_eq_false_iff_not]; omega
    have g7 : hitK 7 a = true := by
      show (decide ((a - 150994944) % 18446744073709551616 < 1 * 8) && decide ((a - 150994944) % 18446744073709551616 % 8 = 0)) = true
      rw [decide_eq_true (by omega), decide_eq_true (by omega)]; rfl
    have hk : findK a = some 7 := by
      rw [findK_if]
      rw [g0, if_neg (by decide)]
      rw [g1, if_neg (by decide)]
      rw [g2, if_neg (by decide)]
      rw [g3, if_neg (by decide)]
      rw [g4, if_neg (by decide)]
      rw [g5, if_neg (by decide)]
      rw [g6, if_neg (by decide)]
      rw [g7, if_pos rfl]
    have hans : ∀ v : Value, v = .tuple #[vI (7), vI (0), .bool true] → Ending.returned v = .returned (.tuple #[vI (thK a), vI (thI a), .bool (findK a).isSome]) := fun v hv => by
      rw [hv]; unfold thK thI; rw [hk]; rfl
    replace hans := show Hid _ from hans
    clear hk g0 g1 g2 g3 g4 g5 g6 g7
    subst h
    go_enter Tryz.func44, Tryz.ntmps44
    go_wp2
    go_ret3
    exact ⟨hans.out _ rfl, rfl⟩

theorem th_low (a : Int) (hu : U64 a) (h : a < 134217728) (w : World) : Calls Tryz.prog 44 #[vU a] w fun e w' => e = .returned (.tuple #[vI (thK a), vI (thI a), .bool (findK a).isSome]) ∧ w' = w := by
    obtain ⟨u0, u1⟩ := hu
    have g0 : hitK 0 a = false := by
      show (decide ((a - 134217728) % 18446744073709551616 < 1 * 8) && decide ((a - 134217728) % 18446744073709551616 % 8 = 0)) = false
      rw [Bool.and_eq_false_iff, decide_eq_false_iff_not, decide_eq_false_iff_not]; omega
    have g1 : hitK 1 a = false := by
      show (decide ((a - 134217736) % 18446744073709551616 < 1 * 8) && decide ((a - 134217736) % 18446744073709551616 % 8 = 0)) = false
      rw [Bool.and_eq_false_iff, decide_eq_false_iff_not, decide_eq_false_iff_not]; omega
    have g2 : hitK 2 a = false := by
      show (decide ((a - 134217744) % 18446744073709551616 < 1 * 8) && decide ((a - 134217744) % 18446744073709551616 % 8 = 0)) = false
      rw [Bool.and_eq_false_iff, decide_eq_false_iff_not, decide_eq_false_iff_not]; omega
    have g3 : hitK 3 a = false := by
      show (decide ((a - 134217752) % 18446744073709551616 < 1 * 8) && decide ((a - 134217752) % 18446744073709551616 % 8 = 0)) = false
      rw [Bool.and_eq_false_iff, decide_eq_false_iff_not, decide_eq_false_iff_not]; omega
    have g4 : hitK 4 a = false := by
      show (decide ((a - 134217760) % 18446744073709551616 < 1 * 8) && decide ((a - 134217760) % 18446744073709551616 % 8 = 0)) = false
      rw [Bool.and_eq_false_iff, decide_eq_false_iff_not, decide_eq_false_iff_not]; omega
    have g5 : hitK 5 a = false := by
      show (decide ((a - 134218240) % 18446744073709551616 < 64 * 8) && decide ((a - 134218240) % 18446744073709551616 % 8 = 0)) = false
      rw [Bool.and_eq_false_iff, decide_eq_false_iff_not, decide_eq_false_iff_not]; omega
    have g6 : hitK 6 a = false := by
      show (decide ((a - 134218752) % 18446744073709551616 < 32 * 8) && decide ((a - 134218752) % 18446744073709551616 % 8 = 0)) = false
      rw [Bool.and_eq_false_iff, decide_eq_false_iff_not, decide_eq_false_iff_not]; omega
    have g7 : hitK 7 a = false := by
      show (decide ((a - 150994944) % 18446744073709551616 < 1 * 8) && decide ((a - 150994944) % 18446744073709551616 % 8 = 0)) = false
      rw [Bool.and_eq_false_iff, decide_eq_false_iff_not, decide_eq_false_iff_not]; omega
    have hk : findK a = none := by
      rw [findK_if]
      rw [g0, if_neg (by decide)]
      rw [g1, if_neg (by decide)]
      rw [g2, if_neg (by decide)]
      rw [g3, if_neg (by decide)]
      rw [g4, if_neg (by decide)]
      rw [g5, if_neg (by decide)]
      rw [g6, if_neg (by decide)]
      rw [g7, if_neg (by decide)]
    have hans : ∀ v : Value, v = .tuple #[vI (0), vI (0), .bool false] → Ending.returned v = .returned (.tuple #[vI (thK a), vI (thI a), .bool (findK a).isSome]) := fun v hv => by
      rw [hv]; unfold thK thI; rw [hk]; rfl
    replace hans := show Hid _ from hans
    clear hk g0 g1 g2 g3 g4 g5 g6 g7
    have b0 : (a == 150994944) = false := by simp; omega
    go_enter Tryz.func44, Tryz.ntmps44
    go_wp2
    go_ret3
    exact ⟨hans.out _ rfl, rfl⟩

theorem th_high (a : Int) (hu : U64 a) (h : 134221824 ≤ a) (hc : ¬ a = 150994944) (w : World) : Calls Tryz.prog 44 #[vU a] w fun e w' => e = .returned (.tuple #[vI (thK a), vI (thI a), .bool (findK a).isSome]) ∧ w' = w := by
    obtain ⟨u0, u1⟩ := hu
    have g0 : hitK 0 a = false := by
      show (decide ((a - 134217728) % 18446744073709551616 < 1 * 8) && decide ((a - 134217728) % 18446744073709551616 % 8 = 0)) = false
      rw [Bool.and_eq_false_iff, decide_eq_false_iff_not, decide_eq_false_iff_not]; omega
    have g1 : hitK 1 a = false := by
      show (decide ((a - 134217736) % 18446744073709551616 < 1 * 8) && decide ((a - 134217736) % 18446744073709551616 % 8 = 0)) = false
      rw [Bool.and_eq_false_iff, decide_eq_false_iff_not, decide_eq_false_iff_not]; omega
    have g2 : hitK 2 a = false := by
      show (decide ((a - 134217744) % 18446744073709551616 < 1 * 8) && decide ((a - 134217744) % 18446744073709551616 % 8 = 0)) = false
      rw [Bool.and_eq_false_iff, decide_eq_false_iff_not, decide_eq_false_iff_not]; omega
    have g3 : hitK 3 a = false := by
      show (decide ((a - 134217752) % 18446744073709551616 < 1 * 8) && decide ((a - 134217752) % 18446744073709551616 % 8 = 0)) = false
      rw [Bool.and_eq_false_iff, decide_eq_false_iff_not, decide_eq_false_iff_not]; omega
    have g4 : hitK 4 a = false := by
      show (decide ((a - 134217760) % 18446744073709551616 < 1 * 8) && decide ((a - 134217760) % 18446744073709551616 % 8 = 0)) = false
      rw [Bool.and_eq_false_iff, decide_eq_false_iff_not, decide_eq_false_iff_not]; omega
    have g5 : hitK 5 a = false := by
      show (decide ((a - 134218240) % 18446744073709551616 < 64 * 8) && decide ((a - 134218240) % 18446744073709551616 % 8 = 0)) = false
      rw [Bool.and_eq_false_iff, decide_eq_false_iff_not, decide_eq_false_iff_not]; omega
    have g6 : hitK 6 a = false := by
      show (decide ((a - 134218752) % 18446744073709551616 < 32 * 8) && decide ((a - 134218752) % 18446744073709551616 % 8 = 0)) = false
      rw [Bool.and_eq_false_iff, decide_eq_false_iff_not, decide_eq_false_iff_not]; omega
    have g7 : hitK 7 a = false := by
      show (decide ((a - 150994944) % 18446744073709551616 < 1 * 8) && decide ((a - 150994944) % 18446744073709551616 % 8 = 0)) = false
      rw [Bool.and_eq_false_iff, decide_eq_false_iff_not, decide_eq_false_iff_not]; omega
    have hk : findK a = none := by
      rw [findK_if]
      rw [g0, if_neg (by decide)]
      rw [g1, if_neg (by decide)]
      rw [g2, if_neg (by decide)]
      rw [g3, if_neg (by decide)]
      rw [g4, if_neg (by decide)]
      rw [g5, if_neg (by decide)]
      rw [g6, if_neg (by decide)]
      rw [g7, if_neg (by decide)]
    have hans : ∀ v : Value, v = .tuple #[vI (0), vI (0), .bool false] → Ending.returned v = .returned (.tuple #[vI (thK a), vI (thI a), .bool (findK a).isSome]) := fun v hv => by
      rw [hv]; unfold thK thI; rw [hk]; rfl
    replace hans := show Hid _ from hans
    clear hk g0 g1 g2 g3 g4 g5 g6 g7
    have b0 : (a == 150994944) = false := by simpa using hc
    have b1 : ¬ a < 134217728 := by omega
    clear hc
    go_enter Tryz.func44, Tryz.ntmps44
    go_wp2
    go_ret3
    exact ⟨hans.out _ rfl, rfl⟩

theorem th_odd (a : Int) (hu : U64 a) (h0 : 134217728 ≤ a) (h1 : a < 134221824) (h : ¬ a % 8 = 0) (w : World) : Calls Tryz.prog 44 #[vU a] w fun e w' => e = .returned (.tuple #[vI (thK a), vI (thI a), .bool (findK a).isSome]) ∧ w' = w := by
    obtain ⟨u0, u1⟩ := hu
    have g0 : hitK 0 a = false := by
      show (decide ((a - 134217728) % 18446744073709551616 < 1 * 8) && decide ((a - 134217728) % 18446744073709551616 % 8 = 0)) = false
      rw [Bool.and_eq_false_iff, decide_eq_false_iff_not, decide_eq_false_iff_not]; omega
    have g1 : hitK 1 a = false := by
      show (decide ((a - 134217736) % 18446744073709551616 < 1 * 8) && decide ((a - 134217736) % 18446744073709551616 % 8 = 0)) = false
      rw [Bool.and_eq_false_iff, decide_eq_false_iff_not, decide_eq_false_iff_not]; omega
    have g2 : hitK 2 a = false := by
      show (decide ((a - 134217744) % 18446744073709551616 < 1 * 8) && decide ((a - 134217744) % 18446744073709551616 % 8 = 0)) = false
      rw [Bool.and_eq_false_iff, decide_eq_false_iff_not, decide_eq_false_iff_not]; omega
    have g3 : hitK 3 a = false := by
      show (decide ((a - 134217752) % 18446744073709551616 < 1 * 8) && decide ((a - 134217752) % 18446744073709551616 % 8 = 0)) = false
      rw [Bool.and_eq_false_iff, decide_eq_false_iff_not, decide_eq_false_iff_not]; omega
    have g4 : hitK 4 a = false := by
      show (decide ((a - 134217760) % 18446744073709551616 < 1 * 8) && decide ((a - 134217760) % 18446744073709551616 % 8 = 0)) = false
      rw [Bool.and_eq_false_iff, decide_eq_false_iff_not, decide_eq_false_iff_not]; omega
    have g5 : hitK 5 a = false := by
      show (decide ((a - 134218240) % 18446744073709551616 < 64 * 8) && decide ((a - 134218240) % 18446744073709551616 % 8 = 0)) = false
      rw [Bool.and_eq_false_iff, decide_eq_false_iff_not, decide_eq_false_iff_not]; omega
    have g6 : hitK 6 a = false := by
      show (decide ((a - 134218752) % 18446744073709551616 < 32 * 8) && decide ((a - 134218752) % 18446744073709551616 % 8 = 0)) = false
      rw [Bool.and_eq_false_iff, decide_eq_false_iff_not, decide_eq_false_iff_not]; omega
    have g7 : hitK 7 a = false := by
      show (decide ((a - 150994944) % 18446744073709551616 < 1 * 8) && decide ((a - 150994944) % 18446744073709551616 % 8 = 0)) = false
      rw [Bool.and_eq_false_iff, decide_eq_false_iff_not, decide_eq_false_iff_not]; omega
    have hk : findK a = none := by
      rw [findK_if]
      rw [g0, if_neg (by decide)]
      rw [g1, if_neg (by decide)]
      rw [g2, if_neg (by decide)]
      rw [g3, if_neg (by decide)]
      rw [g4, if_neg (by decide)]
      rw [g5, if_neg (by decide)]
      rw [g6, if_neg (by decide)]
      rw [g7, if_neg (by decide)]
    have hans : ∀ v : Value, v = .tuple #[vI (0), vI (0), .bool false] → Ending.returned v = .returned (.tuple #[vI (thK a), vI (thI a), .bool (findK a).isSome]) := fun v hv => by
      rw [hv]; unfold thK thI; rw [hk]; rfl
    replace hans := show Hid _ from hans
    clear hk g0 g1 g2 g3 g4 g5 g6 g7
    have b0 : (a == 150994944) = false := by simp; omega
    have b1 : ¬ a < 134217728 := by omega
    have b2 : ¬ 134221824 ≤ a := by omega
    have b3 : (a.tmod 8 != 0) = true := by rw [Int.tmod_eq_emod_of_nonneg u0]; simpa using h
    go_enter Tryz.func44, Tryz.ntmps44
    go_wp2
    go_ret3
    exact ⟨hans.out _ rfl, rfl⟩

theorem th_b0 (a : Int) (hu : U64 a) (h : a = 134217728) (w : World) : Calls Tryz.prog 44 #[vU a] w fun e w' => e = .returned (.tuple #[vI (thK a), vI (thI a), .bool (findK a).isSome]) ∧ w' = w := by
    obtain ⟨u0, u1⟩ := hu
    have g0 : hitK 0 a = true := by
      show (decide ((a - 134217728) % 18446744073709551616 < 1 * 8) && decide ((a - 134217728) % 18446744073709551616 % 8 = 0)) = true
      rw [decide_eq_true (by omega), decide_eq_true (by omega)]; rfl
    have hk : findK a = some 0 := by
      rw [findK_if]
      rw [g0, if_pos rfl]
    have hans : ∀ v : Value, v = .tuple #[vI (0), vI (0), .bool true] → Ending.returned v = .returned (.tuple #[vI (thK a), vI (thI a), .bool (findK a).isSome]) := fun v hv => by
      rw [hv]; unfold thK thI; rw [hk]; rfl
    replace hans := show Hid _ from hans
    clear hk g0
    subst h
    go_enter Tryz.func44, Tryz.ntmps44
    go_wp2
    go_ret3
    exact ⟨hans.out _ rfl, rfl⟩

theorem th_b1 (a : Int) (hu : U64 a) (h : a = 134217736) (w : World) : Calls Tryz.prog 44 #[vU a] w fun e w' => e = .returned (.tuple #[vI (thK a), vI (thI a), .bool (findK a).isSome]) ∧ w' = w := by
    obtain ⟨u0, u1⟩ := hu
    have g0 : hitK 0 a = false := by
      show (decide ((a - 134217728) % 18446744073709551616 < 1 * 8) && decide ((a - 134217728) % 18446744073709551616 % 8 = 0)) = false
      rw [Bool.and_eq_false_iff, decide_eq_false_iff_not, decide_eq_false_iff_not]; omega
    have g1 : hitK 1 a = true := by
      show (decide ((a - 134217736) % 18446744073709551616 < 1 * 8) && decide ((a - 134217736) % 18446744073709551616 % 8 = 0)) = true
      rw [decide_eq_true (by omega), decide_eq_true (by omega)]; rfl
    have hk : findK a = some 1 := by
      rw [findK_if]
      rw [g0, if_neg (by decide)]
      rw [g1, if_pos rfl]
    have hans : ∀ v : Value, v = .tuple #[vI (1), vI (0), .bool true] → Ending.returned v = .returned (.tuple #[vI (thK a), vI (thI a), .bool (findK a).isSome]) := fun v hv => by
      rw [hv]; unfold thK thI; rw [hk]; rfl
    replace hans := show Hid _ from hans
    clear hk g0 g1
    subst h
    go_enter Tryz.func44, Tryz.ntmps44
    go_wp2
    go_ret3
    exact ⟨hans.out _ rfl, rfl⟩

theorem th_b2 (a : Int) (hu : U64 a) (h : a = 134217744) (w : World) : Calls Tryz.prog 44 #[vU a] w fun e w' => e = .returned (.tuple #[vI (thK a), vI (thI a), .bool (findK a).isSome]) ∧ w' = w := by
    obtain ⟨u0, u1⟩ := hu
    have g0 : hitK 0 a = false := by
      show (decide ((a - 134217728) % 18446744073709551616 < 1 * 8) && decide ((a - 134217728) % 18446744073709551616 % 8 = 0)) = false
      rw [Bool.and_eq_false_iff, decide_eq_false_iff_not, decide_eq_false_iff_not]; omega
    have g1 : hitK 1 a = false := by
      show (decide ((a - 134217736) % 18446744073709551616 < 1 * 8) && decide ((a - 134217736) % 18446744073709551616 % 8 = 0)) = false
      rw [Bool.and_eq_false_iff, decide_eq_false_iff_not, decide_eq_false_iff_not]; omega
    have g2 : hitK 2 a = true := by
      show (decide ((a - 134217744) % 18446744073709551616 < 1 * 8) && decide ((a - 134217744) % 18446744073709551616 % 8 = 0)) = true
      rw [decide_eq_true (by omega), decide_eq_true (by omega)]; rfl
    have hk : findK a = some 2 := by
      rw [findK_if]
      rw [g0, if_neg (by decide)]
      rw [g1, if_neg (by decide)]
      rw [g2, if_pos rfl]
    have hans : ∀ v : Value, v = .tuple #[vI (2), vI (0), .bool true] → Ending.returned v = .returned (.tuple #[vI (thK a), vI (thI a), .bool (findK a).isSome]) := fun v hv => by
      rw [hv]; unfold thK thI; rw [hk]; rfl
    replace hans := show Hid _ from hans
    clear hk g0 g1 g2
    subst h
    go_enter Tryz.func44, Tryz.ntmps44
    go_wp2
    go_ret3
    exact ⟨hans.out _ rfl, rfl⟩

theorem th_b3 (a : Int) (hu : U64 a) (h : a = 134217752) (w : World) : Calls Tryz.prog 44 #[vU a] w fun e w' => e = .returned (.tuple #[vI (thK a), vI (thI a), .bool (findK a).isSome]) ∧ w' = w := by
    obtain ⟨u0, u1⟩ := hu
    have g0 : hitK 0 a = false := by
      show (decide ((a - 134217728) % 18446744073709551616 < 1 * 8) && decide ((a - 134217728) % 18446744073709551616 % 8 = 0)) = false
      rw [Bool.and_eq_false_iff, decide_eq_false_iff_not, decide_eq_false_iff_not]; omega
    have g1 : hitK 1 a = false := by
      show (decide ((a - 134217736) % 18446744073709551616 < 1 * 8) && decide ((a - 134217736) % 18446744073709551616 % 8 = 0)) = false
      rw [Bool.and_eq_false_iff, decide_eq_false_iff_not, decide_eq_false_iff_not]; omega
    have g2 : hitK 2 a = false := by
      show (decide ((a - 134217744) % 18446744073709551616 < 1 * 8) && decide ((a - 134217744) % 18446744073709551616 % 8 = 0)) = false
      rw [Bool.and_eq_false_iff, decide_eq_false_iff_not, decide_eq_false_iff_not]; omega
    have g3 : hitK 3 a = true := by
      show (decide ((a - 134217752) % 18446744073709551616 < 1 * 8) && decide ((a - 134217752) % 18446744073709551616 % 8 = 0)) = true
      rw [decide_eq_true (by omega), decide_eq_true (by omega)]; rfl
    have hk : findK a = some 3 := by
      rw [findK_if]
      rw [g0, if_neg (by decide)]
      rw [g1, if_neg (by decide)]
      rw [g2, if_neg (by decide)]
      rw [g3, if_pos rfl]
    have hans : ∀ v : Value, v = .tuple #[vI (3), vI (0), .bool true] → Ending.returned v = .returned (.tuple #[vI (thK a), vI (thI a), .bool (findK a).isSome]) := fun v hv => by
      rw [hv]; unfold thK thI; rw [hk]; rfl
    replace hans := show Hid _ from hans
    clear hk g0 g1 g2 g3
    subst h
    go_enter Tryz.func44, Tryz.ntmps44
    go_wp2
    go_ret3
    exact ⟨hans.out _ rfl, rfl⟩

theorem th_b4 (a : Int) (hu : U64 a) (h : a = 134217760) (w : World) : Calls Tryz.prog 44 #[vU a] w fun e w' => e = .returned (.tuple #[vI (thK a), vI (thI a), .bool (findK a).isSome]) ∧ w' = w := by
    obtain ⟨u0, u1⟩ := hu
    have g0 : hitK 0 a = false := by
      show (decide ((a - 134217728) % 18446744073709551616 < 1 * 8) && decide ((a - 134217728) % 18446744073709551616 % 8 = 0)) = false
      rw [Bool.and_eq_false_iff, decide_eq_false_iff_not, decide_eq_false_iff_not]; omega
    have g1 : hitK 1 a = false := by
      show (decide ((a - 134217736) % 18446744073709551616 < 1 * 8) && decide ((a - 134217736) % 18446744073709551616 % 8 = 0)) = false
      rw [Bool.and_eq_false_iff, decide_eq_false_iff_not, decide_eq_false_iff_not]; omega
    have g2 : hitK 2 a = false := by
      show (decide ((a - 134217744) % 18446744073709551616 < 1 * 8) && decide ((a - 134217744) % 18446744073709551616 % 8 = 0)) = false
      rw [Bool.and_eq_false_iff, decide_eq_false_iff_not, decide_eq_false_iff_not]; omega
    have g3 : hitK 3 a = false := by
      show (decide ((a - 134217752) % 18446744073709551616 < 1 * 8) && decide ((a - 134217752) % 18446744073709551616 % 8 = 0)) = false
      rw [Bool.and_eq_false_iff, decide_eq_false_iff_not, decide_eq_false_iff_not]; omega
    have g4 : hitK 4 a = true := by
      show (decide ((a - 134217760) % 18446744073709551616 < 1 * 8) && decide ((a - 134217760) % 18446744073709551616 % 8 = 0)) = true
      rw [decide_eq_true (by omega), decide_eq_true (by omega)]; rfl
    have hk : findK a = some 4 := by
      rw [findK_if]
      rw [g0, if_neg (by decide)]
      rw [g1, if_neg (by decide)]
      rw [g2, if_neg (by decide)]
      rw [g3, if_neg (by decide)]
      rw [g4, if_pos rfl]
    have hans : ∀ v : Value, v = .tuple #[vI (4), vI (0), .bool true] → Ending.returned v = .returned (.tuple #[vI (thK a), vI (thI a), .bool (findK a).isSome]) := fun v hv => by
      rw [hv]; unfold thK thI; rw [hk]; rfl
    replace hans := show Hid _ from hans
    clear hk g0 g1 g2 g3 g4
    subst h
    go_enter Tryz.func44, Tryz.ntmps44
    go_wp2
    go_ret3
    exact ⟨hans.out _ rfl, rfl⟩

theorem th_5 (a : Int) (hu : U64 a) (h0 : 134218240 ≤ a) (h1 : a < 134218752) (h : a % 8 = 0) (w : World) : Calls Tryz.prog 44 #[vU a] w fun e w' => e = .returned (.tuple #[vI (thK a), vI (thI a), .bool (findK a).isSome]) ∧ w' = w := by
    obtain ⟨u0, u1⟩ := hu
    have g0 : hitK 0 a = false := by
      show (decide ((a - 134217728) % 18446744073709551616 < 1 * 8) && decide ((a - 134217728) % 18446744073709551616 % 8 = 0)) = false
      rw [Bool.and_eq_false_iff, decide_eq_false_iff_not, decide_eq_false_iff_not]; omega
    have g1 : hitK 1 a = false := by
      show (decide ((a - 134217736) % 18446744073709551616 < 1 * 8) && decide ((a - 134217736) % 18446744073709551616 % 8 = 0)) = false
      rw [Bool.and_eq_false_iff, decide_eq_false_iff_not, decide_eq_false_iff_not]; omega
    have g2 : hitK 2 a = false := by
      show (decide ((a - 134217744) % 18446744073709551616 < 1 * 8) && decide ((a - 134217744) % 18446744073709551616 % 8 = 0)) = false
      rw [Bool.and_eq_false_iff, decide_eq_false_iff_not, decide_eq_false_iff_not]; omega
    have g3 : hitK 3 a = false := by
      show (decide ((a - 134217752) % 18446744073709551616 < 1 * 8) && decide ((a - 134217752) % 18446744073709551616 % 8 = 0)) = false
      rw [Bool.and_eq_false_iff, decide_eq_false_iff_not, decide_eq_false_iff_not]; omega
    have g4 : hitK 4 a = false := by
      show (decide ((a - 134217760) % 18446744073709551616 < 1 * 8) && decide ((a - 134217760) % 18446744073709551616 % 8 = 0)) = false
      rw [Bool.and_eq_false_iff, decide_eq_false_iff_not, decide_eq_false_iff_not]; omega
    have g5 : hitK 5 a = true := by
      show (decide ((a - 134218240) % 18446744073709551616 < 64 * 8) && decide ((a - 134218240) % 18446744073709551616 % 8 = 0)) = true
      rw [decide_eq_true (by omega), decide_eq_true (by omega)]; rfl
    have hk : findK a = some 5 := by
      rw [findK_if]
      rw [g0, if_neg (by decide)]
      rw [g1, if_neg (by decide)]
      rw [g2, if_neg (by decide)]
      rw [g3, if_neg (by decide)]
      rw [g4, if_neg (by decide)]
      rw [g5, if_pos rfl]
    have hans : ∀ v : Value, v = .tuple #[vI (5), vI ((a - 134217728 - 512) / 8), .bool true] → Ending.returned v = .returned (.tuple #[vI (thK a), vI (thI a), .bool (findK a).isSome]) := fun v hv => by
      rw [hv]; unfold thK thI; rw [hk]; have e : (a - 134217728 - 512) / 8 = (((offK 5 a) / 8).toNat : Int) := by (unfold offK; show _ = ((((a - 134218240) % 18446744073709551616) / 8).toNat : Int); omega)
      rw [e]; rfl
    replace hans := show Hid _ from hans
    clear hk g0 g1 g2 g3 g4 g5
    have b0 : (a == 150994944) = false := by simp; omega
    have b1 : ¬ a < 134217728 := by omega
    have b2 : ¬ 134221824 ≤ a := by omega
    have b3 : (a.tmod 8 != 0) = false := by rw [Int.tmod_eq_emod_of_nonneg u0]; simp; omega
    have n1 : IntKind.u64.wrap (a - 134217728) = a - 134217728 := by rw [IntKind.wrap_u64]; omega
    have n2 : wrap64 (a - 134217728) = a - 134217728 := IntWalk.wrap64_in _ ⟨by omega, by omega⟩
    have m1 : ¬ a - 134217728 ≤ 32 := by omega
    have m2 : 512 ≤ a - 134217728 := by omega
    have m3 : a - 134217728 < 1024 := by omega
    go_enter Tryz.func44, Tryz.ntmps44
    go_wp2
    go_ret3
    exact ⟨hans.out _ rfl, rfl⟩

theorem th_6 (a : Int) (hu : U64 a) (h0 : 134218752 ≤ a) (h1 : a < 134219008) (h : a % 8 = 0) (w : World) : Calls Tryz.prog 44 #[vU a] w fun e w' => e = .returned (.tuple #[vI (thK a), vI (thI a), .bool (findK a).isSome]) ∧ w' = w := by
    obtain ⟨u0, u1⟩ := hu
    have g0 : hitK 0 a = false := by
      show (decide ((a - 134217728) % 18446744073709551616 < 1 * 8) && decide ((a - 134217728) % 18446744073709551616 % 8 = 0)) = false
      rw [Bool.and_eq_false_iff, decide_eq_false_iff_not, decide_eq_false_iff_not]; omega
    have g1 : hitK 1 a = false := by
      show (decide ((a - 134217736) % 18446744073709551616 < 1 * 8) && decide ((a - 134217736) % 18446744073709551616 % 8 = 0)) = false
      rw [Bool.and_eq_false_iff, decide_eq_false_iff_not, decide_eq_false_iff_not]; omega
    have g2 : hitK 2 a = false := by
      show (decide ((a - 134217744) % 18446744073709551616 < 1 * 8) && decide ((a - 134217744) % 18446744073709551616 % 8 = 0)) = false
      rw [Bool.and_eq_false_iff, decide_eq_false_iff_not, decide_eq_false_iff_not]; omega
    have g3 : hitK 3 a = false := by
      show (decide ((a - 134217752) % 18446744073709551616 < 1 * 8) && decide ((a - 134217752) % 18446744073709551616 % 8 = 0)) = false
      rw [Bool.and_eq_false_iff, decide_eq_false_iff_not, decide_eq_false_iff_not]; omega
    have g4 : hitK 4 a = false := by
      show (decide ((a - 134217760) % 18446744073709551616 < 1 * 8) && decide ((a - 134217760) % 18446744073709551616 % 8 = 0)) = false
      rw [Bool.and_eq_false_iff, decide_eq_false_iff_not, decide_eq_false_iff_not]; omega
    have g5 : hitK 5 a = false := by
      show (decide ((a - 134218240) % 18446744073709551616 < 64 * 8) && decide ((a - 134218240) % 18446744073709551616 % 8 = 0)) = false
      rw [Bool.and_eq_false_iff, decide_eq_false_iff_not, decide_eq_false_iff_not]; omega
    have g6 : hitK 6 a = true := by
      show (decide ((a - 134218752) % 18446744073709551616 < 32 * 8) && decide ((a - 134218752) % 18446744073709551616 % 8 = 0)) = true
      rw [decide_eq_true (by omega), decide_eq_true (by omega)]; rfl
    have hk : findK a = some 6 := by
      rw [findK_if]
      rw [g0, if_neg (by decide)]
      rw [g1, if_neg (by decide)]
      rw [g2, if_neg (by decide)]
      rw [g3, if_neg (by decide)]
      rw [g4, if_neg (by decide)]
      rw [g5, if_neg (by decide)]
      rw [g6, if_pos rfl]
    have hans : ∀ v : Value, v = .tuple #[vI (6), vI ((a - 134217728 - 1024) / 8 + 32), .bool true] → Ending.returned v = .returned (.tuple #[vI (thK a), vI (thI a), .bool (findK a).isSome]) := fun v hv => by
      rw [hv]; unfold thK thI; rw [hk]; have e : (a - 134217728 - 1024) / 8 + 32 = (((offK 6 a) / 8).toNat : Int) + 32 := by (unfold offK; show _ = ((((a - 134218752) % 18446744073709551616) / 8).toNat : Int) + 32; omega)
      rw [e]; rfl
    replace hans := show Hid _ from hans
    clear hk g0 g1 g2 g3 g4 g5 g6
    have b0 : (a == 150994944) = false := by simp; omega
    have b1 : ¬ a < 134217728 := by omega
    have b2 : ¬ 134221824 ≤ a := by omega
    have b3 : (a.tmod 8 != 0) = false := by rw [Int.tmod_eq_emod_of_nonneg u0]; simp; omega
    have n1 : IntKind.u64.wrap (a - 134217728) = a - 134217728 := by rw [IntKind.wrap_u64]; omega
    have n2 : wrap64 (a - 134217728) = a - 134217728 := IntWalk.wrap64_in _ ⟨by omega, by omega⟩
    have m1 : ¬ a - 134217728 ≤ 32 := by omega
    have m2 : 512 ≤ a - 134217728 := by omega
    have m3 : ¬ a - 134217728 < 1024 := by omega
    have m4 : 1024 ≤ a - 134217728 := by omega
    have m5 : a - 134217728 < 1280 := by omega
    go_enter Tryz.func44, Tryz.ntmps44
    go_wp2
    go_ret3
    exact ⟨hans.out _ rfl, rfl⟩

theorem th_m1 (a : Int) (hu : U64 a) (h0 : 134217760 < a) (h1 : a < 134218240) (h : a % 8 = 0) (w : World) : Calls Tryz.prog 44 #[vU a] w fun e w' => e = .returned (.tuple #[vI (thK a), vI (thI a), .bool (findK a).isSome]) ∧ w' = w := by
    obtain ⟨u0, u1⟩ := hu
    have g0 : hitK 0 a = false := by
      show (decide ((a - 134217728) % 18446744073709551616 < 1 * 8) && decide ((a - 134217728) % 18446744073709551616 % 8 = 0)) = false
      rw [Bool.and_eq_false_iff, decide_eq_false_iff_not, decide_eq_false_iff_not]; omega
    have g1 : hitK 1 a = false := by
      show (decide ((a - 134217736) % 18446744073709551616 < 1 * 8) && decide ((a - 134217736) % 18446744073709551616 % 8 = 0)) = false
      rw [Bool.and_eq_false_iff, decide_eq_false_iff_not, decide_eq_false_iff_not]; omega
    have g2 : hitK 2 a = false := by
      show (decide ((a - 134217744) % 18446744073709551616 < 1 * 8) && decide ((a - 134217744) % 18446744073709551616 % 8 = 0)) = false
      rw [Bool.and_eq_false_iff, decide_eq_false_iff_not, decide_eq_false_iff_not]; omega
    have g3 : hitK 3 a = false := by
      show (decide ((a - 134217752) % 18446744073709551616 < 1 * 8) && decide ((a - 134217752) % 18446744073709551616 % 8 = 0)) = false
      rw [Bool.and_eq_false_iff, decide_eq_false_iff_not, decide_eq_false_iff_not]; omega
    have g4 : hitK 4 a = false := by
      show (decide ((a - 134217760) % 18446744073709551616 < 1 * 8) && decide ((a - 134217760) % 18446744073709551616 % 8 = 0)) = false
      rw [Bool.and_eq_false_iff, decide_eq_false_iff_not, decide_eq_false_iff_not]; omega
    have g5 : hitK 5 a = false := by
      show (decide ((a - 134218240) % 18446744073709551616 < 64 * 8) && decide ((a - 134218240) % 18446744073709551616 % 8 = 0)) = false
      rw [Bool.and_eq_false_iff, decide_eq_false_iff_not, decide_eq_false_iff_not]; omega
    have g6 : hitK 6 a = false := by
      show (decide ((a - 134218752) % 18446744073709551616 < 32 * 8) && decide ((a - 134218752) % 18446744073709551616 % 8 = 0)) = false
      rw [Bool.and_eq_false_iff, decide_eq_false_iff_not, decide_eq_false_iff_not]; omega
    have g7 : hitK 7 a = false := by
      show (decide ((a - 150994944) % 18446744073709551616 < 1 * 8) && decide ((a - 150994944) % 18446744073709551616 % 8 = 0)) = false
      rw [Bool.and_eq_false_iff, decide_eq_false_iff_not, decide_eq_false_iff_not]; omega
    have hk : findK a = none := by
      rw [findK_if]
      rw [g0, if_neg (by decide)]
      rw [g1, if_neg (by decide)]
      rw [g2, if_neg (by decide)]
      rw [g3, if_neg (by decide)]
      rw [g4, if_neg (by decide)]
      rw [g5, if_neg (by decide)]
      rw [g6, if_neg (by decide)]
      rw [g7, if_neg (by decide)]
    have hans : ∀ v : Value, v = .tuple #[vI (0), vI (0), .bool false] → Ending.returned v = .returned (.tuple #[vI (thK a), vI (thI a), .bool (findK a).isSome]) := fun v hv => by
      rw [hv]; unfold thK thI; rw [hk]; rfl
    replace hans := show Hid _ from hans
    clear hk g0 g1 g2 g3 g4 g5 g6 g7
    have b0 : (a == 150994944) = false := by simp; omega
    have b1 : ¬ a < 134217728 := by omega
    have b2 : ¬ 134221824 ≤ a := by omega
    have b3 : (a.tmod 8 != 0) = false := by rw [Int.tmod_eq_emod_of_nonneg u0]; simp; omega
    have n1 : IntKind.u64.wrap (a - 134217728) = a - 134217728 := by rw [IntKind.wrap_u64]; omega
    have n2 : wrap64 (a - 134217728) = a - 134217728 := IntWalk.wrap64_in _ ⟨by omega, by omega⟩
    have m1 : ¬ a - 134217728 ≤ 32 := by omega
    have m2 : ¬ 512 ≤ a - 134217728 := by omega
    have m4 : ¬ 1024 ≤ a - 134217728 := by omega
    generalize hz : a - 134217728 = z at *
    replace hz := show Hid _ from hz
    go_enter Tryz.func44, Tryz.ntmps44
    go_wp2
    go_ret3
    exact ⟨hans.out _ rfl, rfl⟩

theorem th_m2 (a : Int) (hu : U64 a) (h0 : 134219008 ≤ a) (h1 : a < 134221824) (h : a % 8 = 0) (w : World) : Calls Tryz.prog 44 #[vU a] w fun e w' => e = .returned (.tuple #[vI (thK a), vI (thI a), .bool (findK a).isSome]) ∧ w' = w := by
    obtain ⟨u0, u1⟩ := hu
    have g0 : hitK 0 a = false := by
      show (decide ((a - 134217728) % 18446744073709551616 < 1 * 8) && decide ((a - 134217728) % 18446744073709551616 % 8 = 0)) = false
      rw [Bool.and_eq_false_iff, decide_eq_false_iff_not, decide_eq_false_iff_not]; omega
    have g1 : hitK 1 a = false := by
      show (decide ((a - 134217736) % 18446744073709551616 < 1 * 8) && decide ((a - 134217736) % 18446744073709551616 % 8 = 0)) = false
      rw [Bool.and_eq_false_iff, decide_eq_false_iff_not, decide_eq_false_iff_not]; omega
    have g2 : hitK 2 a = false := by
      show (decide ((a - 134217744) % 18446744073709551616 < 1 * 8) && decide ((a - 134217744) % 18446744073709551616 % 8 = 0)) = false
      rw [Bool.and_eq_false_iff, decide_eq_false_iff_not, decide_eq_false_iff_not]; omega
    have g3 : hitK 3 a = false := by
      show (decide ((a - 134217752) % 18446744073709551616 < 1 * 8) && decide ((a - 134217752) % 18446744073709551616 % 8 = 0)) = false
      rw [Bool.and_eq_false_iff, decide_eq_false_iff_not, decide_eq_false_iff_not]; omega
    have g4 : hitK 4 a = false := by
      show (decide ((a - 134217760) % 18446744073709551616 < 1 * 8) && decide ((a - 134217760) % 18446744073709551616 % 8 = 0)) = false
      rw [Bool.and_eq_false_iff, decide_eq_false_iff_not, decide_eq_false_iff_not]; omega
    have g5 : hitK 5 a = false := by
      show (decide ((a - 134218240) % 18446744073709551616 < 64 * 8) && decide ((a - 134218240) % 18446744073709551616 % 8 = 0)) = false
      rw [Bool.and_eq_false_iff, decide_eq_false_iff_not, decide_eq_false_iff_not]; omega
    have g6 : hitK 6 a = false := by
      show (decide ((a - 134218752) % 18446744073709551616 < 32 * 8) && decide ((a - 134218752) % 18446744073709551616 % 8 = 0)) = false
      rw [Bool.and_eq_false_iff, decide_eq_false_iff_not, decide_eq_false_iff_not]; omega
    have g7 : hitK 7 a = false := by
      show (decide ((a - 150994944) % 18446744073709551616 < 1 * 8) && decide ((a - 150994944) % 18446744073709551616 % 8 = 0)) = false
      rw [Bool.and_eq_false_iff, decide_eq_false_iff_not, decide_eq_false_iff_not]; omega
    have hk : findK a = none := by
      rw [findK_if]
      rw [g0, if_neg (by decide)]
      rw [g1, if_neg (by decide)]
      rw [g2, if_neg (by decide)]
      rw [g3, if_neg (by decide)]
      rw [g4, if_neg (by decide)]
      rw [g5, if_neg (by decide)]
      rw [g6, if_neg (by decide)]
      rw [g7, if_neg (by decide)]
    have hans : ∀ v : Value, v = .tuple #[vI (0), vI (0), .bool false] → Ending.returned v = .returned (.tuple #[vI (thK a), vI (thI a), .bool (findK a).isSome]) := fun v hv => by
      rw [hv]; unfold thK thI; rw [hk]; rfl
    replace hans := show Hid _ from hans
    clear hk g0 g1 g2 g3 g4 g5 g6 g7
    have b0 : (a == 150994944) = false := by simp; omega
    have b1 : ¬ a < 134217728 := by omega
    have b2 : ¬ 134221824 ≤ a := by omega
    have b3 : (a.tmod 8 != 0) = false := by rw [Int.tmod_eq_emod_of_nonneg u0]; simp; omega
    have n1 : IntKind.u64.wrap (a - 134217728) = a - 134217728 := by rw [IntKind.wrap_u64]; omega
    have n2 : wrap64 (a - 134217728) = a - 134217728 := IntWalk.wrap64_in _ ⟨by omega, by omega⟩
    have m1 : ¬ a - 134217728 ≤ 32 := by omega
    have m2 : 512 ≤ a - 134217728 := by omega
    have m3 : ¬ a - 134217728 < 1024 := by omega
    have m4 : 1024 ≤ a - 134217728 := by omega
    have m5 : ¬ a - 134217728 < 1280 := by omega
    generalize hz : a - 134217728 = z at *
    replace hz := show Hid _ from hz
    go_enter Tryz.func44, Tryz.ntmps44
    go_wp2
    go_ret3
    exact ⟨hans.out _ rfl, rfl⟩

theorem there_c (a : Int) (hu : U64 a) (w : World) : Calls Tryz.prog 44 #[vU a] w fun e w' => e = .returned (.tuple #[vI (thK a), vI (thI a), .bool (findK a).isSome]) ∧ w' = w := by
  by_cases h1 : a = 150994944
  · exact th_con a hu h1 w
  by_cases h2 : a < 134217728
  · exact th_low a hu h2 w
  by_cases h3 : 134221824 ≤ a
  · exact th_high a hu h3 h1 w
  by_cases h4 : a % 8 = 0
  · by_cases b0 : a = 134217728
    · exact th_b0 a hu b0 w
    by_cases b1 : a = 134217736
    · exact th_b1 a hu b1 w
    by_cases b2 : a = 134217744
    · exact th_b2 a hu b2 w
    by_cases b3 : a = 134217752
    · exact th_b3 a hu b3 w
    by_cases b4 : a = 134217760
    · exact th_b4 a hu b4 w
    by_cases c1 : a < 134218240
    · exact th_m1 a hu (by omega) c1 h4 w
    by_cases c2 : a < 134218752
    · exact th_5 a hu (by omega) c2 h4 w
    by_cases c3 : a < 134219008
    · exact th_6 a hu (by omega) c3 h4 w
    exact th_m2 a hu (by omega) (by omega) h4 w
  · exact th_odd a hu (by omega) (by omega) h4 w
end Go.Proofs.YteklkololojamaaGreat
/- The document's bus: words of bits, Tick, New. -/
namespace Go.Proofs.YteklkololojamaaGreat
open Go.RowKit
set_option linter.unusedVariables false
set_option linter.unusedSimpArgs false
set_option maxRecDepth 8000

theorem wpList_bld {P : Program} {ops : Array Oper} {rest : List Oper} {o : Oper} {a : Act} {w : World} {Q : Exit → Act → World → Prop} (hg : o.guard = none) (t : TypeId) (parts : Array (Nat × Operand)) (ho : o.op = .build t parts)
    (cs : Array Value) (hf : P.built t (parts.map fun (i, x) => (i, a.eval x)).toList = some cs)
    (h : wpList P ops Q rest (a.put o.dst (.agg cs)) w) : wpList P ops Q (o :: rest) a w :=
  wpList_build hg t parts ho (by rw [hf]; rfl) (by rw [hf]; exact h)

open Tim
theorem wrapP {i : Nat} (h : i < 64) : IntKind.u64.wrap (2 ^ i) = ((2 ^ i : Nat) : Int) := by
  have hp : 2 ^ i < 2 ^ 64 := Nat.pow_lt_pow_right (by decide) h
  have e : ((2 ^ i : Nat) : Int) = (2 : Int) ^ i := by push_cast; rfl
  rw [IntKind.wrap_u64, ← e]
  generalize (2 ^ i : Nat) = q at hp
  omega
section
variable {d h r n : Nat} {S S' : Ds} {Z : DLay} {w w' w1 w2 : World}
theorem dbad {n c i : Nat} (hc : c < n) (hi : i < 64) : Doc.rbadB n c i = false := by
  unfold Doc.rbadB
  rw [decide_eq_false (by omega), decide_eq_false (by omega), decide_eq_false (by omega), decide_eq_false (by omega)]; rfl
theorem dof_c (H : DocAt d h r n S Z w) {c i : Nat} (hc : c < n) (hi : i < 64) : Calls Tryz.prog 46 #[ptr h 0, vI c, vI i] w fun e w' => e = .returned (ptr (Z.M.rb (Doc.posR n c i)) (Doc.posK i * 8)) ∧ w' = w := Doc.of_c H.gic c i (dbad hc hi)
theorem drow (H : DocAt d h r n S Z w) {q k : Nat} (hq : q ≤ n) (hk : k < 32) : (S.X.rows q)[k]? = some (S.X.get q k) := by
  have hl := H.gic.len q hq
  unfold Doc.Ref.get
  rw [List.getElem?_eq_getElem (by omega)]; rfl
theorem dpos {n c i : Nat} (hc : c < n) (hi : i < 64) : Doc.posR n c i ≤ n ∧ Doc.posK i < 32 := by
  unfold Doc.posR Doc.posK
  by_cases e : 32 ≤ (i : Int)
  · rw [if_pos e, if_pos e]; omega
  · rw [if_neg e, if_neg e, Int.toNat_natCast, Int.toNat_natCast]; omega
theorem dcell (H : DocAt d h r n S Z w) {c i : Nat} (hc : c < n) (hi : i < 64) (j : Nat) (hj : j < 8) : w.cell? ⟨Z.M.rb (Doc.posR n c i), Doc.posK i * 8 + j, none⟩ = (S.X.of n c i).row[j]? :=
  H.gic.at (dpos hc hi).1 (drow H (dpos hc hi).1 (dpos hc hi).2) j hj

set_option maxHeartbeats 1000000 in
theorem dbits_e (H : DocAt d h r n S Z w) {c : Nat} (hc : c < n) : Calls Tryz.prog 45 #[ptr d 0, vI c, vI 0] w fun e w' => e = .returned (vU (Bit.orN (fun i => (S.X.of n c i).e) 64 : Nat)) ∧ w' = w := by
  generalize hf : (fun i : Nat => (S.X.of n c i).e) = f
  go_enter Tryz.func45, Tryz.ntmps45
  go_wp2
  go_loopw [7, 8] (fun s7 s8 wr => ∃ i : Nat, i ≤ 64 ∧ s7 = .int .u64 (Bit.orN f i : Nat) ∧ s8 = .int .i64 i ∧ Hid (wr = w)) (fun _ s8 _ => 64 - (intOf s8).toNat)
  case atStart => exact ⟨0, Nat.zero_le _, rfl, rfl, rfl⟩
  case round =>
    obtain ⟨i, hi, rfl, rfl, hW⟩ := hrel
    have hWo := hW.out
    by_cases hlt : (i : Int) < 64
    · have hi64 : i < 64 := by omega
      have H1 : DocAt d h r n S Z wr := by rw [hWo]; exact H
      have c1 := H1.c1
      have hof := dof_c H1 hc hi64
      have z := fun j hj => dcell H1 hc hi64 j hj
      have hfi : f i = (S.X.of n c i).e := by rw [← hf]
      generalize S.X.of n c i = x at hfi z
      have z0 : wr.cell? ⟨Z.M.rb (Doc.posR n c i), Doc.posK i * 8, none⟩ = some (.bool x.e) := z 0 (by decide)
      have z1 : wr.cell? ⟨Z.M.rb (Doc.posR n c i), Doc.posK i * 8 + 1, none⟩ = some (.bool x.l) := z 1 (by decide)
      have z2 : wr.cell? ⟨Z.M.rb (Doc.posR n c i), Doc.posK i * 8 + 2, none⟩ = some (.bool x.h) := z 2 (by decide)
      have z3 : wr.cell? ⟨Z.M.rb (Doc.posR n c i), Doc.posK i * 8 + 3, none⟩ = some (.bool x.a) := z 3 (by decide)
      have hpe := Doc.pend_c z1 z2
      clear z H1 hWo
      generalize Z.M.rb (Doc.posR n c i) = rb at *
      generalize Doc.posK i * 8 = ro at *
      replace hfi : f i = x.e := hfi
      rw [← hfi] at z0
      clear hfi
      cases hb : f i with
      | true =>
        rw [hb] at z0
        have e1 : Bit.orN f (i + 1) = Bit.orN f i ||| 2 ^ i := by rw [Bit.orN, hb, if_pos rfl]
        have hp : 2 ^ i < 2 ^ 64 := Nat.pow_lt_pow_right (by decide) (by omega)
        have ho : Bit.orN f i < 2 ^ 64 := Nat.lt_of_lt_of_le (Bit.orN_lt f i) (Nat.pow_le_pow_right (by decide) hi)
        have e2 := Bit.or_bit ho hp
        rw [← e1] at e2
        replace e2 := show Hid _ from e2
        clear hp ho e1 hb
        go_wp2_with (first | (go_at_call 46; refine hof.mono ?_; rintro e w' ⟨rfl, rfl⟩; dsimp only) | (go_at_call 61; refine hpe.mono ?_; rintro e w' ⟨rfl, rfl⟩; dsimp only))
        go_roundw
        case rel => exact ⟨i + 1, by omega, by rw [← e2.out, ← wrapP (by omega)], by go_num, hW⟩
        case measure => simp [intOf]; omega
      | false =>
        rw [hb] at z0
        have e1 : Bit.orN f (i + 1) = Bit.orN f i := by rw [Bit.orN, hb, if_neg (by decide)]
        replace e1 := show Hid _ from e1
        clear hb
        go_wp2_with (first | (go_at_call 46; refine hof.mono ?_; rintro e w' ⟨rfl, rfl⟩; dsimp only) | (go_at_call 61; refine hpe.mono ?_; rintro e w' ⟨rfl, rfl⟩; dsimp only))
        go_roundw
        case rel => exact ⟨i + 1, by omega, by rw [e1.out], by go_num, hW⟩
        case measure => simp [intOf]; omega
    · obtain rfl : i = 64 := by omega
      go_wp2
      go_ret
      exact ⟨rfl, by first | rfl | exact hW.out⟩

set_option maxHeartbeats 1000000 in
theorem dbits_p (H : DocAt d h r n S Z w) {c : Nat} (hc : c < n) : Calls Tryz.prog 45 #[ptr d 0, vI c, vI 1] w fun e w' => e = .returned (vU (Bit.orN (fun i => ((S.X.of n c i).l || (S.X.of n c i).h)) 64 : Nat)) ∧ w' = w := by
  generalize hf : (fun i : Nat => ((S.X.of n c i).l || (S.X.of n c i).h)) = f
  go_enter Tryz.func45, Tryz.ntmps45
  go_wp2
  go_loopw [7, 8] (fun s7 s8 wr => ∃ i : Nat, i ≤ 64 ∧ s7 = .int .u64 (Bit.orN f i : Nat) ∧ s8 = .int .i64 i ∧ Hid (wr = w)) (fun _ s8 _ => 64 - (intOf s8).toNat)
  case atStart => exact ⟨0, Nat.zero_le _, rfl, rfl, rfl⟩
  case round =>
    obtain ⟨i, hi, rfl, rfl, hW⟩ := hrel
    have hWo := hW.out
    by_cases hlt : (i : Int) < 64
    · have hi64 : i < 64 := by omega
      have H1 : DocAt d h r n S Z wr := by rw [hWo]; exact H
      have c1 := H1.c1
      have hof := dof_c H1 hc hi64
      have z := fun j hj => dcell H1 hc hi64 j hj
      have hfi : f i = ((S.X.of n c i).l || (S.X.of n c i).h) := by rw [← hf]
      generalize S.X.of n c i = x at hfi z
      have z0 : wr.cell? ⟨Z.M.rb (Doc.posR n c i), Doc.posK i * 8, none⟩ = some (.bool x.e) := z 0 (by decide)
      have z1 : wr.cell? ⟨Z.M.rb (Doc.posR n c i), Doc.posK i * 8 + 1, none⟩ = some (.bool x.l) := z 1 (by decide)
      have z2 : wr.cell? ⟨Z.M.rb (Doc.posR n c i), Doc.posK i * 8 + 2, none⟩ = some (.bool x.h) := z 2 (by decide)
      have z3 : wr.cell? ⟨Z.M.rb (Doc.posR n c i), Doc.posK i * 8 + 3, none⟩ = some (.bool x.a) := z 3 (by decide)
      have hpe := Doc.pend_c z1 z2
      clear z H1 hWo
      generalize Z.M.rb (Doc.posR n c i) = rb at *
      generalize Doc.posK i * 8 = ro at *
      replace hfi : f i = (x.l || x.h) := hfi
      rw [← hfi] at hpe
      clear hfi
      cases hb : f i with
      | true =>
        rw [hb] at hpe
        have e1 : Bit.orN f (i + 1) = Bit.orN f i ||| 2 ^ i := by rw [Bit.orN, hb, if_pos rfl]
        have hp : 2 ^ i < 2 ^ 64 := Nat.pow_lt_pow_right (by decide) (by omega)
        have ho : Bit.orN f i < 2 ^ 64 := Nat.lt_of_lt_of_le (Bit.orN_lt f i) (Nat.pow_le_pow_right (by decide) hi)
        have e2 := Bit.or_bit ho hp
        rw [← e1] at e2
        replace e2 := show Hid _ from e2
        clear hp ho e1 hb
        go_wp2_with (first | (go_at_call 46; refine hof.mono ?_; rintro e w' ⟨rfl, rfl⟩; dsimp only) | (go_at_call 61; refine hpe.mono ?_; rintro e w' ⟨rfl, rfl⟩; dsimp only))
        go_roundw
        case rel => exact ⟨i + 1, by omega, by rw [← e2.out, ← wrapP (by omega)], by go_num, hW⟩
        case measure => simp [intOf]; omega
      | false =>
        rw [hb] at hpe
        have e1 : Bit.orN f (i + 1) = Bit.orN f i := by rw [Bit.orN, hb, if_neg (by decide)]
        replace e1 := show Hid _ from e1
        clear hb
        go_wp2_with (first | (go_at_call 46; refine hof.mono ?_; rintro e w' ⟨rfl, rfl⟩; dsimp only) | (go_at_call 61; refine hpe.mono ?_; rintro e w' ⟨rfl, rfl⟩; dsimp only))
        go_roundw
        case rel => exact ⟨i + 1, by omega, by rw [e1.out], by go_num, hW⟩
        case measure => simp [intOf]; omega
    · obtain rfl : i = 64 := by omega
      go_wp2
      go_ret
      exact ⟨rfl, by first | rfl | exact hW.out⟩

set_option maxHeartbeats 1000000 in
theorem dbits_a (H : DocAt d h r n S Z w) {c : Nat} (hc : c < n) : Calls Tryz.prog 45 #[ptr d 0, vI c, vI 2] w fun e w' => e = .returned (vU (Bit.orN (fun i => (S.X.of n c i).a) 64 : Nat)) ∧ w' = w := by
  generalize hf : (fun i : Nat => (S.X.of n c i).a) = f
  go_enter Tryz.func45, Tryz.ntmps45
  go_wp2
  go_loopw [7, 8] (fun s7 s8 wr => ∃ i : Nat, i ≤ 64 ∧ s7 = .int .u64 (Bit.orN f i : Nat) ∧ s8 = .int .i64 i ∧ Hid (wr = w)) (fun _ s8 _ => 64 - (intOf s8).toNat)
  case atStart => exact ⟨0, Nat.zero_le _, rfl, rfl, rfl⟩
  case round =>
    obtain ⟨i, hi, rfl, rfl, hW⟩ := hrel
    have hWo := hW.out
    by_cases hlt : (i : Int) < 64
    · have hi64 : i < 64 := by omega
      have H1 : DocAt d h r n S Z wr := by rw [hWo]; exact H
      have c1 := H1.c1
      have hof := dof_c H1 hc hi64
      have z := fun j hj => dcell H1 hc hi64 j hj
      have hfi : f i = (S.X.of n c i).a := by rw [← hf]
      generalize S.X.of n c i = x at hfi z
      have z0 : wr.cell? ⟨Z.M.rb (Doc.posR n c i), Doc.posK i * 8, none⟩ = some (.bool x.e) := z 0 (by decide)
      have z1 : wr.cell? ⟨Z.M.rb (Doc.posR n c i), Doc.posK i * 8 + 1, none⟩ = some (.bool x.l) := z 1 (by decide)
      have z2 : wr.cell? ⟨Z.M.rb (Doc.posR n c i), Doc.posK i * 8 + 2, none⟩ = some (.bool x.h) := z 2 (by decide)
      have z3 : wr.cell? ⟨Z.M.rb (Doc.posR n c i), Doc.posK i * 8 + 3, none⟩ = some (.bool x.a) := z 3 (by decide)
      have hpe := Doc.pend_c z1 z2
      clear z H1 hWo
      generalize Z.M.rb (Doc.posR n c i) = rb at *
      generalize Doc.posK i * 8 = ro at *
      replace hfi : f i = x.a := hfi
      rw [← hfi] at z3
      clear hfi
      cases hb : f i with
      | true =>
        rw [hb] at z3
        have e1 : Bit.orN f (i + 1) = Bit.orN f i ||| 2 ^ i := by rw [Bit.orN, hb, if_pos rfl]
        have hp : 2 ^ i < 2 ^ 64 := Nat.pow_lt_pow_right (by decide) (by omega)
        have ho : Bit.orN f i < 2 ^ 64 := Nat.lt_of_lt_of_le (Bit.orN_lt f i) (Nat.pow_le_pow_right (by decide) hi)
        have e2 := Bit.or_bit ho hp
        rw [← e1] at e2
        replace e2 := show Hid _ from e2
        clear hp ho e1 hb
        go_wp2_with (first | (go_at_call 46; refine hof.mono ?_; rintro e w' ⟨rfl, rfl⟩; dsimp only) | (go_at_call 61; refine hpe.mono ?_; rintro e w' ⟨rfl, rfl⟩; dsimp only))
        go_roundw
        case rel => exact ⟨i + 1, by omega, by rw [← e2.out, ← wrapP (by omega)], by go_num, hW⟩
        case measure => simp [intOf]; omega
      | false =>
        rw [hb] at z3
        have e1 : Bit.orN f (i + 1) = Bit.orN f i := by rw [Bit.orN, hb, if_neg (by decide)]
        replace e1 := show Hid _ from e1
        clear hb
        go_wp2_with (first | (go_at_call 46; refine hof.mono ?_; rintro e w' ⟨rfl, rfl⟩; dsimp only) | (go_at_call 61; refine hpe.mono ?_; rintro e w' ⟨rfl, rfl⟩; dsimp only))
        go_roundw
        case rel => exact ⟨i + 1, by omega, by rw [e1.out], by go_num, hW⟩
        case measure => simp [intOf]; omega
    · obtain rfl : i = 64 := by omega
      go_wp2
      go_ret
      exact ⟨rfl, by first | rfl | exact hW.out⟩

def TkC (d h r n : Nat) (Z : DLay) (S : Ds) (k : Int) (w : World) : Nat → World → Prop
  | 0, w' => Below w.heap.size w w'
  | 1, w' => DT d h r n Z { S with T := S.T.tick k } w w'
  | _, _ => False
def dtickS (n : Nat) (S : Ds) (k : Int) : Ds := { S with T := S.T.tick k, X := dlnF n (S.T.tick k) S.X n }
set_option maxHeartbeats 1000000 in
theorem dtick_c (H : DocAt d h r n S Z w) (k : Int) : Calls Tryz.prog 21 #[ptr d 0, vU k] w fun e w' => e = .returned (.tuple #[]) ∧ DT d h r n Z (dtickS n S k) w w' := by
  have hj0 : ∀ j, j ≤ 0 → ∀ {w1 : World} {v : Value}, TkC d h r n Z S k w j w1 → (∀ {w : World}, DocAt d h r n S Z w → w.cell? ⟨d, 2, none⟩ = some v) → w1.cell? ⟨d, 2, none⟩ = some v := fun j hj {w1 v} hC f => by
    obtain rfl := Nat.le_zero.1 hj
    exact f (H.grow hC)
  have hj1 : ∀ j, j ≤ 0 → ∀ {w1 : World}, TkC d h r n Z S k w j w1 → w1.cell? ⟨r, 0, none⟩ = some (vU S.T.cnt) := fun j hj {w1} hC => by
    obtain rfl := Nat.le_zero.1 hj
    exact (H.grow hC).tim.c0
  go_enter Tryz.func21, Tryz.ntmps21
  go_upto_region 0 with fail
  have hst : TkC d h r n Z S k w 0 { w with drawn := w.drawn + 1 } := Rel.below_draws (n := 1) (Below.refl _ _)
  refine Chn.wp_region_chainL (TkC d h r n Z S k w) [15] [1, 1, 1, 0, 1, 1, 1, 0, 1, 1, 0, 1, 1, 1, 1, 1] [ptr d 0, ptr d 0, ptr d 2, ptr r 0, ptr d 0, ptr d 0, ptr d 2, ptr r 0, ptr r 0, ptr r 0, vU S.T.cnt, vU k, .int .u64 (IntKind.u64.wrap (S.T.cnt + k)), ptr r 0, ptr r 0, undef] (by kernel_rfl) (by kernel_rfl) (by kernel_rfl) (by kernel_rfl) (by kernel_rfl) hst ?_
  clear hst
  refine ⟨fun j w1 hj hC => by exact Chn.upon_pure hC (fun F hF => by (go_simp <;> exact hF)), ?_⟩
  simp only [Act.put, List.setIfInBounds_toArray, List.set_cons_succ, List.set_cons_zero]
  refine ⟨fun j w1 hj hC => by exact Chn.upon_pure hC (fun F hF => by (go_simp <;> exact hF)), ?_⟩
  simp only [Act.put, List.setIfInBounds_toArray, List.set_cons_succ, List.set_cons_zero]
  refine ⟨fun j w1 hj hC => by exact Chn.upon_pure hC (fun F hF => by (go_simp <;> exact hF)), ?_⟩
  simp only [Act.put, List.setIfInBounds_toArray, List.set_cons_succ, List.set_cons_zero]
  refine ⟨fun j w1 hj hC => by
    have z := hj0 j hj hC (fun H => H.c2)
    exact Chn.upon_pure hC (fun F hF => by (go_simp <;> exact hF)), ?_⟩
  simp only [Act.put, List.setIfInBounds_toArray, List.set_cons_succ, List.set_cons_zero]
  refine ⟨fun j w1 hj hC => by exact Chn.upon_pure hC (fun F hF => by (go_simp <;> exact hF)), ?_⟩
  simp only [Act.put, List.setIfInBounds_toArray, List.set_cons_succ, List.set_cons_zero]
  refine ⟨fun j w1 hj hC => by exact Chn.upon_pure hC (fun F hF => by (go_simp <;> exact hF)), ?_⟩
  simp only [Act.put, List.setIfInBounds_toArray, List.set_cons_succ, List.set_cons_zero]
  refine ⟨fun j w1 hj hC => by exact Chn.upon_pure hC (fun F hF => by (go_simp <;> exact hF)), ?_⟩
  simp only [Act.put, List.setIfInBounds_toArray, List.set_cons_succ, List.set_cons_zero]
  refine ⟨fun j w1 hj hC => by
    have z := hj0 j hj hC (fun H => H.c2)
    exact Chn.upon_pure hC (fun F hF => by (go_simp <;> exact hF)), ?_⟩
  simp only [Act.put, List.setIfInBounds_toArray, List.set_cons_succ, List.set_cons_zero]
  refine ⟨fun j w1 hj hC => by exact Chn.upon_pure hC (fun F hF => by (go_simp <;> exact hF)), ?_⟩
  simp only [Act.put, List.setIfInBounds_toArray, List.set_cons_succ, List.set_cons_zero]
  refine ⟨fun j w1 hj hC => by exact Chn.upon_pure hC (fun F hF => by (go_simp <;> exact hF)), ?_⟩
  simp only [Act.put, List.setIfInBounds_toArray, List.set_cons_succ, List.set_cons_zero]
  refine ⟨fun j w1 hj hC => by
    have z := hj1 j hj hC
    exact Chn.upon_pure hC (fun F hF => by (go_simp <;> exact hF)), ?_⟩
  simp only [Act.put, List.setIfInBounds_toArray, List.set_cons_succ, List.set_cons_zero]
  refine ⟨fun j w1 hj hC => by exact Chn.upon_pure hC (fun F hF => by (go_simp <;> exact hF)), ?_⟩
  simp only [Act.put, List.setIfInBounds_toArray, List.set_cons_succ, List.set_cons_zero]
  refine ⟨fun j w1 hj hC => by exact Chn.upon_pure hC (fun F hF => by (go_simp <;> exact hF)), ?_⟩
  simp only [Act.put, List.setIfInBounds_toArray, List.set_cons_succ, List.set_cons_zero]
  refine ⟨fun j w1 hj hC => by exact Chn.upon_pure hC (fun F hF => by (go_simp <;> exact hF)), ?_⟩
  simp only [Act.put, List.setIfInBounds_toArray, List.set_cons_succ, List.set_cons_zero]
  refine ⟨fun j w1 hj hC => by exact Chn.upon_pure hC (fun F hF => by (go_simp <;> exact hF)), ?_⟩
  simp only [Act.put, List.setIfInBounds_toArray, List.set_cons_succ, List.set_cons_zero]
  refine ⟨fun w1 hC => by
    have H2 := H.grow hC
    have z := H2.tim.c0
    have fz := H2.tim.f0 0
    have hn := H2.timT (H2.tim.ticked k)
    rw [← IntKind.wrap_u64] at hn
    have hn2 : TkC d h r n Z S k w 1 (w1.setCell ⟨r, 0, none⟩ (vU (IntKind.u64.wrap (S.T.cnt + k)))) := DT.ahead hC hn
    generalize TkC d h r n Z S k w 1 = FF at *
    go_simp
    exact hn2, ?_⟩
  simp only [Act.put, List.setIfInBounds_toArray, List.set_cons_succ, List.set_cons_zero]
  intro w5 hC
  replace hC : DT d h r n Z { S with T := S.T.tick k } w w5 := hC
  clear hj0 hj1
  go_wp2_with (first | (go_at_call 53; refine (dlines_c hC.1).mono ?_; rintro e w2 ⟨rfl, hT⟩; dsimp only))
  exact bodyPost_end (results_none rfl _ _ _) rfl ⟨rfl, hC.then hT⟩
theorem dnew_c (n : Nat) (h1 : 1 ≤ n) (h8 : n ≤ 8) (w : World) : Calls Tryz.prog 10 #[vI n] w fun e w' => ∃ d, e = .returned (ptr d 0) ∧ ∃ h r Z, DocAt d h r n ⟨Doc.newR n, zeroT, []⟩ Z w' ∧ Below w.heap.size w w' ∧ ∀ k, DFoot d h r n Z k → w.heap.size ≤ k := by
  have hg := Doc.newR_c n w h8
  have ht := Tmr.rnew_c n h1 h8
  go_enter Tryz.func10, Tryz.ntmps10
  go_wp2_with (first | (go_at_call 40; refine hg.mono ?_; rintro e w1 ⟨h, M, rfl, G1, GF, B1⟩; clear hg; dsimp only) | (go_at_call 41; refine (ht w1).mono ?_; rintro e w2 ⟨r, rfl, cb, cv, T1, B2, TF⟩; clear ht; dsimp only) | (with_reducible refine wpList_bld rfl 46 _ rfl #[vI n, ptr h 0, ptr r 0, .string (strOfNums [])] (by kernel_rfl) ?_; simp only [Act.put, List.setIfInBounds_toArray, List.set_cons_succ, List.set_cons_zero]))
  go_ret
  have B3 := below_then B1 (Nat.le_refl _) B2
  have B4 := below_alloc w2 (.cells #[vI n, ptr h 0, ptr r 0, .string (strOfNums [])] 46)
  refine ⟨w2.heap.size, rfl, h, r, ⟨M, cb, cv⟩, ⟨heap_alloc_new _ _, (G1.grow B2).grow B4, T1.grow B4, h8, Nat.zero_le _⟩, below_then B3 (Nat.le_refl _) B4, ?_⟩
  rintro k (rfl | hk | hk)
  · exact B3.size
  · exact GF k hk
  · exact Nat.le_trans B1.size (TF k hk)
end
end Go.Proofs.YteklkololojamaaGreat
/- The document's bus: Read. -/
namespace Go.Proofs.YteklkololojamaaGreat
open Go.RowKit
set_option linter.unusedVariables false
set_option linter.unusedSimpArgs false
set_option maxRecDepth 8000

/-- What a register of a range tells, by the document. -/
def ddV (n : Nat) (S : Ds) (c k p : Nat) : Int := match k with
  | 0 => (Bit.orN (fun i => (S.X.of n c i).e) 64 : Nat)
  | 1 => (Bit.orN (fun i => (S.X.of n c i).e) 64 : Nat)
  | 2 => (Bit.orN (fun i => ((S.X.of n c i).l || (S.X.of n c i).h)) 64 : Nat)
  | 3 => (Bit.orN (fun i => ((S.X.of n c i).l || (S.X.of n c i).h)) 64 : Nat)
  | 4 => (Bit.orN (fun i => (S.X.of n c i).a) 64 : Nat)
  | 5 => (S.X.of n c p).rank % 18446744073709551616
  | 6 => (S.X.of n c (p + 32 : Nat)).core % 18446744073709551616
  | _ => S.O.length
def ddrV (n : Nat) (S : Ds) (core a : Int) : Int := match findK a with
  | none => 0
  | some k => if hasB n core then ddV n S core.toNat k (plcK k a) else 0
section
variable {d h r n : Nat} {S S' : Ds} {Z : DLay} {w w' w1 w2 : World}
set_option maxHeartbeats 2000000 in
theorem dread_c (H : DocAt d h r n S Z w) (core a : Int) (hu : U64 a) : Calls Tryz.prog 14 #[ptr d 0, vI core, vU a] w fun e w' => e = .returned (.tuple #[vU (ddrV n S core a), vI (brdE n core a)]) ∧ w' = w := by
  have hth := there_c a hu w
  have c0 := H.c0
  have hno : findK a = none → ddrV n S core a = 0 ∧ brdE n core a = 1 := fun h => by unfold ddrV brdE; rw [h]; exact ⟨rfl, rfl⟩
  have hyes : ∀ k, findK a = some k → hasB n core = true → ddrV n S core a = ddV n S core.toNat k (plcK k a) ∧ brdE n core a = 0 := fun k h e => by unfold ddrV brdE; rw [h]; dsimp only; rw [e, if_pos rfl, if_pos rfl]; exact ⟨rfl, rfl⟩
  have hnot : ∀ k, findK a = some k → hasB n core = false → ddrV n S core a = 0 ∧ brdE n core a = 1 := fun k h e => by unfold ddrV brdE; rw [h]; dsimp only; rw [e, if_neg (by decide), if_neg (by decide)]; exact ⟨rfl, rfl⟩
  cases hf : findK a with
  | none =>
    have t1 : thK a = 0 := by unfold thK; rw [hf]
    have t2 : thI a = 0 := by unfold thI; rw [hf]
    rw [hf, t1, t2] at hth
    replace hth : Calls Tryz.prog 44 #[vU a] w fun e w' => e = .returned (.tuple #[vI 0, vI 0, .bool false]) ∧ w' = w := hth
    have hans := show Hid _ from hno hf
    clear t1 t2 hno hyes hnot hf
    go_enter Tryz.func14, Tryz.ntmps14
    go_wp2_with (first | (go_at_call 44; refine hth.mono ?_; rintro e w' ⟨rfl, rfl⟩; dsimp only))
    go_ret2
    exact ⟨by rw [hans.out.1, hans.out.2]; rfl, rfl⟩
  | some k =>
    obtain ⟨hk, hhit⟩ := findF_lt hf
    have t1 : thK a = k := by unfold thK; rw [hf]
    have hN := fun e => show Hid _ from hnot k hf e
    have hY := fun e => show Hid _ from hyes k hf e
    have hpl : (k = 6 → plcK k a < 32) ∧ (k = 5 → plcK k a < 64) := by
      simp only [hitK, Bool.and_eq_true, decide_eq_true_eq] at hhit
      have h0 : 0 ≤ offK k a := by unfold offK; omega
      refine ⟨fun e => ?_, fun e => ?_⟩
      · subst e
        have h1 : offK 6 a < 32 * 8 := hhit.1
        unfold plcK; omega
      · subst e
        have h1 : offK 5 a < 64 * 8 := hhit.1
        unfold plcK; omega
    have t2 : thI a = if k = 5 then (plcK k a : Int) else if k = 6 then (plcK k a : Int) + 32 else 0 := by
      unfold thI; rw [hf]
      rcases (by omega : k = 0 ∨ k = 1 ∨ k = 2 ∨ k = 3 ∨ k = 4 ∨ k = 5 ∨ k = 6 ∨ k = 7) with rfl | rfl | rfl | rfl | rfl | rfl | rfl | rfl <;> rfl
    rw [hf, t1] at hth
    replace hth : Calls Tryz.prog 44 #[vU a] w fun e w' => e = .returned (.tuple #[vI k, vI (thI a), .bool true]) ∧ w' = w := hth
    generalize plcK k a = p at *
    generalize hiI : thI a = iI at *
    clear hhit hno hyes hnot t1 hf
    by_cases h1 : core < 0
    · have hans := hN (by unfold hasB; rw [decide_eq_false (by omega)]; rfl)
      clear hN hY hpl t2
      go_enter Tryz.func14, Tryz.ntmps14
      go_wp2_with (first | (go_at_call 44; refine hth.mono ?_; rintro e w' ⟨rfl, rfl⟩; dsimp only))
      go_ret2
      exact ⟨by rw [hans.out.1, hans.out.2]; rfl, rfl⟩
    by_cases h2 : (n : Int) ≤ core
    · have hans := hN (by unfold hasB; rw [decide_eq_false (show ¬ core < (n : Int) by omega)]; simp)
      clear hN hY hpl t2
      go_enter Tryz.func14, Tryz.ntmps14
      go_wp2_with (first | (go_at_call 44; refine hth.mono ?_; rintro e w' ⟨rfl, rfl⟩; dsimp only))
      go_ret2
      exact ⟨by rw [hans.out.1, hans.out.2]; rfl, rfl⟩
    obtain ⟨c, rfl⟩ : ∃ c : Nat, core = c := ⟨core.toNat, by omega⟩
    have hc : c < n := by omega
    have hans := hY (has_nat hc)
    obtain ⟨hd1, hd2⟩ := hans.out
    rw [Int.toNat_natCast] at hd1
    clear hans
    have hans : Hid (_ ∧ _) := ⟨hd1, hd2⟩
    clear hd1 hd2
    clear hN hY
    rcases (by omega : k = 0 ∨ k = 1 ∨ k = 2 ∨ k = 3 ∨ k = 4 ∨ k = 5 ∨ k = 6 ∨ k = 7) with rfl | rfl | rfl | rfl | rfl | rfl | rfl | rfl
    · replace hth : Calls Tryz.prog 44 #[vU a] w fun e w' => e = .returned (.tuple #[vI 0, vI iI, .bool true]) ∧ w' = w := hth
      have hm := dbits_e H hc
      clear hpl t2 hiI
      go_enter Tryz.func14, Tryz.ntmps14
      go_wp2_with (first | (go_at_call 44; refine hth.mono ?_; rintro e w' ⟨rfl, rfl⟩; dsimp only) | (go_at_call 45; refine hm.mono ?_; rintro e w' ⟨rfl, rfl⟩; dsimp only))
      go_ret2
      exact ⟨by rw [hans.out.1, hans.out.2]; rfl, rfl⟩
    · replace hth : Calls Tryz.prog 44 #[vU a] w fun e w' => e = .returned (.tuple #[vI 1, vI iI, .bool true]) ∧ w' = w := hth
      have hm := dbits_e H hc
      clear hpl t2 hiI
      go_enter Tryz.func14, Tryz.ntmps14
      go_wp2_with (first | (go_at_call 44; refine hth.mono ?_; rintro e w' ⟨rfl, rfl⟩; dsimp only) | (go_at_call 45; refine hm.mono ?_; rintro e w' ⟨rfl, rfl⟩; dsimp only))
      go_ret2
      exact ⟨by rw [hans.out.1, hans.out.2]; rfl, rfl⟩
    · replace hth : Calls Tryz.prog 44 #[vU a] w fun e w' => e = .returned (.tuple #[vI 2, vI iI, .bool true]) ∧ w' = w := hth
      have hm := dbits_p H hc
      clear hpl t2 hiI
      go_enter Tryz.func14, Tryz.ntmps14
      go_wp2_with (first | (go_at_call 44; refine hth.mono ?_; rintro e w' ⟨rfl, rfl⟩; dsimp only) | (go_at_call 45; refine hm.mono ?_; rintro e w' ⟨rfl, rfl⟩; dsimp only))
      go_ret2
      exact ⟨by rw [hans.out.1, hans.out.2]; rfl, rfl⟩
    · replace hth : Calls Tryz.prog 44 #[vU a] w fun e w' => e = .returned (.tuple #[vI 3, vI iI, .bool true]) ∧ w' = w := hth
      have hm := dbits_p H hc
      clear hpl t2 hiI
      go_enter Tryz.func14, Tryz.ntmps14
      go_wp2_with (first | (go_at_call 44; refine hth.mono ?_; rintro e w' ⟨rfl, rfl⟩; dsimp only) | (go_at_call 45; refine hm.mono ?_; rintro e w' ⟨rfl, rfl⟩; dsimp only))
      go_ret2
      exact ⟨by rw [hans.out.1, hans.out.2]; rfl, rfl⟩
    · replace hth : Calls Tryz.prog 44 #[vU a] w fun e w' => e = .returned (.tuple #[vI 4, vI iI, .bool true]) ∧ w' = w := hth
      have hm := dbits_a H hc
      clear hpl t2 hiI
      go_enter Tryz.func14, Tryz.ntmps14
      go_wp2_with (first | (go_at_call 44; refine hth.mono ?_; rintro e w' ⟨rfl, rfl⟩; dsimp only) | (go_at_call 45; refine hm.mono ?_; rintro e w' ⟨rfl, rfl⟩; dsimp only))
      go_ret2
      exact ⟨by rw [hans.out.1, hans.out.2]; rfl, rfl⟩
    · replace hth : Calls Tryz.prog 44 #[vU a] w fun e w' => e = .returned (.tuple #[vI 5, vI iI, .bool true]) ∧ w' = w := hth
      have hI : iI = (p : Int) := t2
      clear t2
      subst hI
      have hi64 : p < 64 := hpl.2 rfl
      have hof := dof_c H hc hi64
      have z : w.cell? ⟨Z.M.rb (Doc.posR n c p), Doc.posK p * 8 + 4, none⟩ = some (vI (S.X.of n c p).rank) := dcell H hc hi64 4 (by decide)
      have hvv : ddrV n S c a = (S.X.of n c p).rank % 18446744073709551616 := hans.out.1
      generalize (S.X.of n c p).rank = y at *
      have ew : IntKind.u64.wrap y = y % 18446744073709551616 := by rw [IntKind.wrap_u64]
      have hv2 : ddrV n S c a = IntKind.u64.wrap y := by rw [ew]; exact hvv
      clear ew hvv
      replace hv2 := show Hid _ from hv2
      have he2 := show Hid _ from hans.out.2
      clear hans
      generalize Z.M.rb (Doc.posR n c p) = rb at *
      generalize Doc.posK p * 8 = ro at *
      clear hpl hiI 
      have c1 := H.c1
      go_enter Tryz.func14, Tryz.ntmps14
      go_wp2_with (first | (go_at_call 44; refine hth.mono ?_; rintro e w' ⟨rfl, rfl⟩; dsimp only) | (go_at_call 46; refine hof.mono ?_; rintro e w' ⟨rfl, rfl⟩; dsimp only))
      go_ret2
      exact ⟨by rw [hv2.out, he2.out]; rfl, rfl⟩
    · replace hth : Calls Tryz.prog 44 #[vU a] w fun e w' => e = .returned (.tuple #[vI 6, vI iI, .bool true]) ∧ w' = w := hth
      obtain ⟨i, hi⟩ : ∃ i : Nat, i = p + 32 := ⟨_, rfl⟩
      have hI : iI = (i : Int) := by rw [t2]; show (p : Int) + 32 = _; omega
      clear t2
      subst hI
      have hi64 : i < 64 := by have := hpl.1 rfl; omega
      have hof := dof_c H hc hi64
      have z : w.cell? ⟨Z.M.rb (Doc.posR n c i), Doc.posK i * 8 + 5, none⟩ = some (vI (S.X.of n c i).core) := dcell H hc hi64 5 (by decide)
      have hvv : ddrV n S c a = (S.X.of n c i).core % 18446744073709551616 := by rw [hi]; exact hans.out.1
      generalize (S.X.of n c i).core = y at *
      have ew : IntKind.u64.wrap y = y % 18446744073709551616 := by rw [IntKind.wrap_u64]
      have hv2 : ddrV n S c a = IntKind.u64.wrap y := by rw [ew]; exact hvv
      clear ew hvv
      replace hv2 := show Hid _ from hv2
      have he2 := show Hid _ from hans.out.2
      clear hans
      generalize Z.M.rb (Doc.posR n c i) = rb at *
      generalize Doc.posK i * 8 = ro at *
      clear hpl hiI hi
      have c1 := H.c1
      go_enter Tryz.func14, Tryz.ntmps14
      go_wp2_with (first | (go_at_call 44; refine hth.mono ?_; rintro e w' ⟨rfl, rfl⟩; dsimp only) | (go_at_call 46; refine hof.mono ?_; rintro e w' ⟨rfl, rfl⟩; dsimp only))
      go_ret2
      exact ⟨by rw [hv2.out, he2.out]; rfl, rfl⟩
    · replace hth : Calls Tryz.prog 44 #[vU a] w fun e w' => e = .returned (.tuple #[vI 7, vI iI, .bool true]) ∧ w' = w := hth
      have c3 := H.c3
      have hz := strOfNums_size S.O
      have hl := H.len
      have e1 : IntKind.u64.wrap (S.O.length : Int) = S.O.length := by rw [IntKind.wrap_u64]; omega
      have hv2 : ddrV n S c a = (S.O.length : Int) := hans.out.1
      replace hv2 := show Hid _ from hv2
      have he2 := show Hid _ from hans.out.2
      clear hans hpl t2 hiI hl
      go_enter Tryz.func14, Tryz.ntmps14
      go_wp2_with (first | (go_at_call 44; refine hth.mono ?_; rintro e w' ⟨rfl, rfl⟩; dsimp only))
      go_ret2
      exact ⟨by rw [hv2.out, he2.out]; rfl, rfl⟩
end
end Go.Proofs.YteklkololojamaaGreat
