/- The program's controller turned: what a closure sets, change, Enable, Pend, Line, Rank, Route. -/
import Derived.Test.YteklkololojamaaGreatQd
namespace Go.Proofs.YteklkololojamaaGreat
open Go.RowKit
set_option linter.unusedVariables false
set_option linter.unusedSimpArgs false
set_option maxRecDepth 8000

/-- What a call does that leaves the blocks where they are. -/
def GT (g n : Nat) (L : GLay) (P : Pg) (w w' : World) : Prop := GicAt g n P L w' ∧ Goes (GFoot g n L) w w'
theorem gt_refl {g n : Nat} {L : GLay} {P : Pg} {w : World} (H : GicAt g n P L w) : GT g n L P w w := ⟨H, Goes.refl _ _⟩
theorem GT.ahead {g n : Nat} {L : GLay} {P : Pg} {w w1 w2 : World} (hb : Below w.heap.size w w1) (h : GT g n L P w1 w2) : GT g n L P w w2 := ⟨h.1, (goes_of_below hb).trans h.2 fun _ _ e => e⟩
theorem GT.grow {g n : Nat} {L : GLay} {P : Pg} {w w1 w2 : World} (h : GT g n L P w w1) (hb : Below w1.heap.size w1 w2) : GT g n L P w w2 := ⟨h.1.grow hb, h.2.grow hb⟩
theorem GT.then {g n : Nat} {L : GLay} {P Q : Pg} {w w1 w2 : World} (h : GT g n L P w w1) (k : GT g n L Q w1 w2) : GT g n L Q w w2 := ⟨k.1, h.2.trans k.2 fun _ _ e => e⟩
theorem GT.turn {g n : Nat} {L : GLay} {P : Pg} {F : Nat → Prop} {w w' : World} (h : GT g n L P w w') (hL : ∀ k, GFoot g n L k → F k) : GTurn g n F P w w' := ⟨⟨L, h.1, hL⟩, h.2.mono fun k _ e => hL k e⟩
theorem isRank_c (r : Int) (w : World) : Calls Tryz.prog 129 #[vI r] w fun e w' => e = .returned (.bool (decide (0 ≤ r) && decide (r ≤ 255))) ∧ w' = w := by
  by_cases h : 0 ≤ r
  · rw [decide_eq_true h]
    go_enter Tryz.func129, Tryz.ntmps129
    go_wp2
    go_ret
    exact ⟨rfl, rfl⟩
  · rw [decide_eq_false h]
    go_enter Tryz.func129, Tryz.ntmps129
    go_wp2
    go_ret
    exact ⟨rfl, rfl⟩
theorem en1_c {b o d : Nat} {x v : Bool} {w : World} (hd : w.cell? ⟨d, 0, none⟩ = some (.bool v)) (hc : w.cell? ⟨b, o, none⟩ = some (.bool x)) (hf : w.frozen? ⟨b, o, none⟩ = false) : Calls Tryz.prog 127 #[ptr b o, ptr d 0] w fun e w' => e = .returned (.tuple #[]) ∧ w' = w.setCell ⟨b, o, none⟩ (.bool v) := by
  go_enter Tryz.func127, Tryz.ntmps127
  go_wp2
  refine bodyPost_end (results_none rfl _ _ _) rfl ?_
  exact ⟨rfl, rfl⟩
theorem chg_en1 {g n : Nat} {P : Pg} {L : GLay} {w : World} (H : GicAt g n P L w) (core id : Int) (v : Bool) (d : Nat) (hd : w.cell? ⟨d, 0, none⟩ = some (.bool v)) : Calls Tryz.prog 105 #[ptr g 0, vI core, vI id, .func (.func 127) #[] #[ptr d 0]] w fun e w' => e = .returned (vI (if badB n core id then 1 else 0)) ∧ GT g n L (if badB n core id then P else P.put (pr n core id) (pk id) { P.src (pr n core id) (pk id) with e := v }) w w' := by
  cases hb : badB n core id with
  | true =>
    rw [if_pos rfl, if_pos rfl]
    go_enter Tryz.func105, Tryz.ntmps105
    go_wp2_with (go_at_call 80; refine (find_no H core id hb).mono ?_; rintro e w' ⟨rfl, rfl⟩; dsimp only)
    go_ret
    exact ⟨rfl, gt_refl H⟩
  | false =>
    rw [if_neg (by decide), if_neg (by decide)]
    have hr := pr_le hb
    have hk := pk_lt hb
    have z : w.cell? ⟨sb g n L (pr n core id), so n (pr n core id) (pk id), none⟩ = some (.bool (P.src (pr n core id) (pk id)).e) := H.at hr hk 0 (by decide)
    have fz := H.frz (sb_or (n := n) (pr n core id)) (so n (pr n core id) (pk id))
    have hT := H.set hr hk (s' := { P.src (pr n core id) (pk id) with e := v }) 0 (by decide) (v := .bool v) rfl
    rw [Nat.add_zero] at hT
    go_enter Tryz.func105, Tryz.ntmps105
    go_wp2_with (first | (go_at_call 80; refine (find_c H core id hb).mono ?_; rintro e w' ⟨rfl, rfl⟩; dsimp only) | (go_at_call 127; refine (en1_c hd z fz).mono ?_; rintro e w' ⟨rfl, rfl⟩; dsimp only; generalize World.setCell _ _ _ = w2 at hT ⊢))
    go_ret
    exact ⟨rfl, hT⟩
theorem pe1_c {b o d : Nat} {x v : Bool} {w : World} (hd : w.cell? ⟨d, 0, none⟩ = some (.bool v)) (hc : w.cell? ⟨b, o + 1, none⟩ = some (.bool x)) (hf : w.frozen? ⟨b, o + 1, none⟩ = false) : Calls Tryz.prog 128 #[ptr b o, ptr d 0] w fun e w' => e = .returned (.tuple #[]) ∧ w' = w.setCell ⟨b, o + 1, none⟩ (.bool v) := by
  go_enter Tryz.func128, Tryz.ntmps128
  go_wp2
  refine bodyPost_end (results_none rfl _ _ _) rfl ?_
  exact ⟨rfl, rfl⟩
theorem chg_pe1 {g n : Nat} {P : Pg} {L : GLay} {w : World} (H : GicAt g n P L w) (core id : Int) (v : Bool) (d : Nat) (hd : w.cell? ⟨d, 0, none⟩ = some (.bool v)) : Calls Tryz.prog 105 #[ptr g 0, vI core, vI id, .func (.func 128) #[] #[ptr d 0]] w fun e w' => e = .returned (vI (if badB n core id then 1 else 0)) ∧ GT g n L (if badB n core id then P else P.put (pr n core id) (pk id) { P.src (pr n core id) (pk id) with l := v }) w w' := by
  cases hb : badB n core id with
  | true =>
    rw [if_pos rfl, if_pos rfl]
    go_enter Tryz.func105, Tryz.ntmps105
    go_wp2_with (go_at_call 80; refine (find_no H core id hb).mono ?_; rintro e w' ⟨rfl, rfl⟩; dsimp only)
    go_ret
    exact ⟨rfl, gt_refl H⟩
  | false =>
    rw [if_neg (by decide), if_neg (by decide)]
    have hr := pr_le hb
    have hk := pk_lt hb
    have z : w.cell? ⟨sb g n L (pr n core id), so n (pr n core id) (pk id) + 1, none⟩ = some (.bool (P.src (pr n core id) (pk id)).l) := H.at hr hk 1 (by decide)
    have fz := H.frz (sb_or (n := n) (pr n core id)) (so n (pr n core id) (pk id) + 1)
    have hT := H.set hr hk (s' := { P.src (pr n core id) (pk id) with l := v }) 1 (by decide) (v := .bool v) rfl
    skip
    go_enter Tryz.func105, Tryz.ntmps105
    go_wp2_with (first | (go_at_call 80; refine (find_c H core id hb).mono ?_; rintro e w' ⟨rfl, rfl⟩; dsimp only) | (go_at_call 128; refine (pe1_c hd z fz).mono ?_; rintro e w' ⟨rfl, rfl⟩; dsimp only; generalize World.setCell _ _ _ = w2 at hT ⊢))
    go_ret
    exact ⟨rfl, hT⟩
theorem li1_c {b o d : Nat} {x v : Bool} {w : World} (hd : w.cell? ⟨d, 0, none⟩ = some (.bool v)) (hc : w.cell? ⟨b, o + 2, none⟩ = some (.bool x)) (hf : w.frozen? ⟨b, o + 2, none⟩ = false) : Calls Tryz.prog 106 #[ptr b o, ptr d 0] w fun e w' => e = .returned (.tuple #[]) ∧ w' = w.setCell ⟨b, o + 2, none⟩ (.bool v) := by
  go_enter Tryz.func106, Tryz.ntmps106
  go_wp2
  refine bodyPost_end (results_none rfl _ _ _) rfl ?_
  exact ⟨rfl, rfl⟩
theorem chg_li1 {g n : Nat} {P : Pg} {L : GLay} {w : World} (H : GicAt g n P L w) (core id : Int) (v : Bool) (d : Nat) (hd : w.cell? ⟨d, 0, none⟩ = some (.bool v)) : Calls Tryz.prog 105 #[ptr g 0, vI core, vI id, .func (.func 106) #[] #[ptr d 0]] w fun e w' => e = .returned (vI (if badB n core id then 1 else 0)) ∧ GT g n L (if badB n core id then P else P.put (pr n core id) (pk id) { P.src (pr n core id) (pk id) with h := v }) w w' := by
  cases hb : badB n core id with
  | true =>
    rw [if_pos rfl, if_pos rfl]
    go_enter Tryz.func105, Tryz.ntmps105
    go_wp2_with (go_at_call 80; refine (find_no H core id hb).mono ?_; rintro e w' ⟨rfl, rfl⟩; dsimp only)
    go_ret
    exact ⟨rfl, gt_refl H⟩
  | false =>
    rw [if_neg (by decide), if_neg (by decide)]
    have hr := pr_le hb
    have hk := pk_lt hb
    have z : w.cell? ⟨sb g n L (pr n core id), so n (pr n core id) (pk id) + 2, none⟩ = some (.bool (P.src (pr n core id) (pk id)).h) := H.at hr hk 2 (by decide)
    have fz := H.frz (sb_or (n := n) (pr n core id)) (so n (pr n core id) (pk id) + 2)
    have hT := H.set hr hk (s' := { P.src (pr n core id) (pk id) with h := v }) 2 (by decide) (v := .bool v) rfl
    skip
    go_enter Tryz.func105, Tryz.ntmps105
    go_wp2_with (first | (go_at_call 80; refine (find_c H core id hb).mono ?_; rintro e w' ⟨rfl, rfl⟩; dsimp only) | (go_at_call 106; refine (li1_c hd z fz).mono ?_; rintro e w' ⟨rfl, rfl⟩; dsimp only; generalize World.setCell _ _ _ = w2 at hT ⊢))
    go_ret
    exact ⟨rfl, hT⟩
theorem ra1_c {b o d : Nat} {x v : Int} {w : World} (hd : w.cell? ⟨d, 0, none⟩ = some (vI v)) (hc : w.cell? ⟨b, o + 4, none⟩ = some (vI x)) (hf : w.frozen? ⟨b, o + 4, none⟩ = false) : Calls Tryz.prog 130 #[ptr b o, ptr d 0] w fun e w' => e = .returned (.tuple #[]) ∧ w' = w.setCell ⟨b, o + 4, none⟩ (vI v) := by
  go_enter Tryz.func130, Tryz.ntmps130
  go_wp2
  refine bodyPost_end (results_none rfl _ _ _) rfl ?_
  exact ⟨rfl, rfl⟩
theorem chg_ra1 {g n : Nat} {P : Pg} {L : GLay} {w : World} (H : GicAt g n P L w) (core id : Int) (v : Int) (d : Nat) (hd : w.cell? ⟨d, 0, none⟩ = some (vI v)) : Calls Tryz.prog 105 #[ptr g 0, vI core, vI id, .func (.func 130) #[] #[ptr d 0]] w fun e w' => e = .returned (vI (if badB n core id then 1 else 0)) ∧ GT g n L (if badB n core id then P else P.put (pr n core id) (pk id) { P.src (pr n core id) (pk id) with rank := v }) w w' := by
  cases hb : badB n core id with
  | true =>
    rw [if_pos rfl, if_pos rfl]
    go_enter Tryz.func105, Tryz.ntmps105
    go_wp2_with (go_at_call 80; refine (find_no H core id hb).mono ?_; rintro e w' ⟨rfl, rfl⟩; dsimp only)
    go_ret
    exact ⟨rfl, gt_refl H⟩
  | false =>
    rw [if_neg (by decide), if_neg (by decide)]
    have hr := pr_le hb
    have hk := pk_lt hb
    have z : w.cell? ⟨sb g n L (pr n core id), so n (pr n core id) (pk id) + 4, none⟩ = some (vI (P.src (pr n core id) (pk id)).rank) := H.at hr hk 4 (by decide)
    have fz := H.frz (sb_or (n := n) (pr n core id)) (so n (pr n core id) (pk id) + 4)
    have hT := H.set hr hk (s' := { P.src (pr n core id) (pk id) with rank := v }) 4 (by decide) (v := vI v) rfl
    skip
    go_enter Tryz.func105, Tryz.ntmps105
    go_wp2_with (first | (go_at_call 80; refine (find_c H core id hb).mono ?_; rintro e w' ⟨rfl, rfl⟩; dsimp only) | (go_at_call 130; refine (ra1_c hd z fz).mono ?_; rintro e w' ⟨rfl, rfl⟩; dsimp only; generalize World.setCell _ _ _ = w2 at hT ⊢))
    go_ret
    exact ⟨rfl, hT⟩
theorem ro1_c {b o d : Nat} {x v : Int} {w : World} (hd : w.cell? ⟨d, 0, none⟩ = some (vI v)) (hc : w.cell? ⟨b, o + 5, none⟩ = some (vI x)) (hf : w.frozen? ⟨b, o + 5, none⟩ = false) : Calls Tryz.prog 131 #[ptr b o, ptr d 0] w fun e w' => e = .returned (.tuple #[]) ∧ w' = w.setCell ⟨b, o + 5, none⟩ (vI v) := by
  go_enter Tryz.func131, Tryz.ntmps131
  go_wp2
  refine bodyPost_end (results_none rfl _ _ _) rfl ?_
  exact ⟨rfl, rfl⟩
theorem chg_ro1 {g n : Nat} {P : Pg} {L : GLay} {w : World} (H : GicAt g n P L w) (core id : Int) (v : Int) (d : Nat) (hd : w.cell? ⟨d, 0, none⟩ = some (vI v)) : Calls Tryz.prog 105 #[ptr g 0, vI core, vI id, .func (.func 131) #[] #[ptr d 0]] w fun e w' => e = .returned (vI (if badB n core id then 1 else 0)) ∧ GT g n L (if badB n core id then P else P.put (pr n core id) (pk id) { P.src (pr n core id) (pk id) with goes := v }) w w' := by
  cases hb : badB n core id with
  | true =>
    rw [if_pos rfl, if_pos rfl]
    go_enter Tryz.func105, Tryz.ntmps105
    go_wp2_with (go_at_call 80; refine (find_no H core id hb).mono ?_; rintro e w' ⟨rfl, rfl⟩; dsimp only)
    go_ret
    exact ⟨rfl, gt_refl H⟩
  | false =>
    rw [if_neg (by decide), if_neg (by decide)]
    have hr := pr_le hb
    have hk := pk_lt hb
    have z : w.cell? ⟨sb g n L (pr n core id), so n (pr n core id) (pk id) + 5, none⟩ = some (vI (P.src (pr n core id) (pk id)).goes) := H.at hr hk 5 (by decide)
    have fz := H.frz (sb_or (n := n) (pr n core id)) (so n (pr n core id) (pk id) + 5)
    have hT := H.set hr hk (s' := { P.src (pr n core id) (pk id) with goes := v }) 5 (by decide) (v := vI v) rfl
    skip
    go_enter Tryz.func105, Tryz.ntmps105
    go_wp2_with (first | (go_at_call 80; refine (find_c H core id hb).mono ?_; rintro e w' ⟨rfl, rfl⟩; dsimp only) | (go_at_call 131; refine (ro1_c hd z fz).mono ?_; rintro e w' ⟨rfl, rfl⟩; dsimp only; generalize World.setCell _ _ _ = w2 at hT ⊢))
    go_ret
    exact ⟨rfl, hT⟩
theorem GT.ahead_of {g n : Nat} {L : GLay} {P : Pg} {w w1 : World} (h : GT g n L P w w) (hb : Below w.heap.size w w1) : GT g n L P w w1 := h.grow hb
def genableE (n : Nat) (core id : Int) (v : Bool) : Bool := badB n core id
def genableP (n : Nat) (P : Pg) (core id : Int) (v : Bool) : Pg := if genableE n core id v then P else P.put (pr n core id) (pk id) { P.src (pr n core id) (pk id) with e := v }
theorem genable_c {g n : Nat} {P : Pg} {L : GLay} {w : World} (H : GicAt g n P L w) (core id : Int) (v : Bool) : Calls Tryz.prog 113 #[ptr g 0, vI core, vI id, .bool v] w fun e w' => e = .returned (vI (if genableE n core id v then 1 else 0)) ∧ GT g n L (genableP n P core id v) w w' := by
  show Calls Tryz.prog 113 #[ptr g 0, vI core, vI id, .bool v] w fun e w' => e = .returned (vI (if badB n core id then 1 else 0)) ∧ GT g n L (if badB n core id then P else P.put (pr n core id) (pk id) { P.src (pr n core id) (pk id) with e := v }) w w'
  have B : ∀ o : Obj, Below w.heap.size w (w.alloc o) := fun o => below_alloc w o
  have hd : (w.alloc (.cells #[.bool v] 4)).cell? ⟨w.heap.size, 0, none⟩ = some (.bool v) := by rw [cell_of_row _ _ _ _ _ _ (heap_alloc_new _ _)]; rfl
  have hC := chg_en1 (H.grow (B (.cells #[.bool v] 4))) core id v w.heap.size hd
  generalize (if badB n core id = true then (1 : Int) else 0) = ev at hC ⊢
  generalize (if badB n core id = true then P else P.put (pr n core id) (pk id) { P.src (pr n core id) (pk id) with e := v }) = PV at hC ⊢
  go_enter Tryz.func113, Tryz.ntmps113
  go_wp2_with (first | (go_at_call 105; refine hC.mono ?_; rintro e w' ⟨rfl, hT⟩; dsimp only))
  go_ret
  exact ⟨rfl, hT.ahead (B _)⟩
def gpendE (n : Nat) (core id : Int) (v : Bool) : Bool := badB n core id
def gpendP (n : Nat) (P : Pg) (core id : Int) (v : Bool) : Pg := if gpendE n core id v then P else P.put (pr n core id) (pk id) { P.src (pr n core id) (pk id) with l := v }
theorem gpend_c {g n : Nat} {P : Pg} {L : GLay} {w : World} (H : GicAt g n P L w) (core id : Int) (v : Bool) : Calls Tryz.prog 114 #[ptr g 0, vI core, vI id, .bool v] w fun e w' => e = .returned (vI (if gpendE n core id v then 1 else 0)) ∧ GT g n L (gpendP n P core id v) w w' := by
  show Calls Tryz.prog 114 #[ptr g 0, vI core, vI id, .bool v] w fun e w' => e = .returned (vI (if badB n core id then 1 else 0)) ∧ GT g n L (if badB n core id then P else P.put (pr n core id) (pk id) { P.src (pr n core id) (pk id) with l := v }) w w'
  have B : ∀ o : Obj, Below w.heap.size w (w.alloc o) := fun o => below_alloc w o
  have hd : (w.alloc (.cells #[.bool v] 4)).cell? ⟨w.heap.size, 0, none⟩ = some (.bool v) := by rw [cell_of_row _ _ _ _ _ _ (heap_alloc_new _ _)]; rfl
  have hC := chg_pe1 (H.grow (B (.cells #[.bool v] 4))) core id v w.heap.size hd
  generalize (if badB n core id = true then (1 : Int) else 0) = ev at hC ⊢
  generalize (if badB n core id = true then P else P.put (pr n core id) (pk id) { P.src (pr n core id) (pk id) with l := v }) = PV at hC ⊢
  go_enter Tryz.func114, Tryz.ntmps114
  go_wp2_with (first | (go_at_call 105; refine hC.mono ?_; rintro e w' ⟨rfl, hT⟩; dsimp only))
  go_ret
  exact ⟨rfl, hT.ahead (B _)⟩
def glineE (n : Nat) (core id : Int) (v : Bool) : Bool := decide (id < 16) || badB n core id
def glineP (n : Nat) (P : Pg) (core id : Int) (v : Bool) : Pg := if glineE n core id v then P else P.put (pr n core id) (pk id) { P.src (pr n core id) (pk id) with h := v }
theorem gline_c {g n : Nat} {P : Pg} {L : GLay} {w : World} (H : GicAt g n P L w) (core id : Int) (v : Bool) : Calls Tryz.prog 74 #[ptr g 0, vI core, vI id, .bool v] w fun e w' => e = .returned (vI (if glineE n core id v then 1 else 0)) ∧ GT g n L (glineP n P core id v) w w' := by
  unfold glineP glineE
  by_cases hk : id < 16
  · rw [decide_eq_true hk, if_pos (by rfl), if_pos (by rfl)]
    go_enter Tryz.func74, Tryz.ntmps74
    go_wp2
    go_ret
    exact ⟨rfl, (gt_refl H).ahead_of (below_alloc _ _)⟩
  rw [decide_eq_false hk, Bool.false_or]
  have B : ∀ o : Obj, Below w.heap.size w (w.alloc o) := fun o => below_alloc w o
  have hd : (w.alloc (.cells #[.bool v] 4)).cell? ⟨w.heap.size, 0, none⟩ = some (.bool v) := by rw [cell_of_row _ _ _ _ _ _ (heap_alloc_new _ _)]; rfl
  have hC := chg_li1 (H.grow (B (.cells #[.bool v] 4))) core id v w.heap.size hd
  generalize (if badB n core id = true then (1 : Int) else 0) = ev at hC ⊢
  generalize (if badB n core id = true then P else P.put (pr n core id) (pk id) { P.src (pr n core id) (pk id) with h := v }) = PV at hC ⊢
  go_enter Tryz.func74, Tryz.ntmps74
  go_wp2_with (first | (go_at_call 105; refine hC.mono ?_; rintro e w' ⟨rfl, hT⟩; dsimp only))
  go_ret
  exact ⟨rfl, hT.ahead (B _)⟩
def grankE (n : Nat) (core id : Int) (v : Int) : Bool := !(decide (0 ≤ v) && decide (v ≤ 255)) || badB n core id
def grankP (n : Nat) (P : Pg) (core id : Int) (v : Int) : Pg := if grankE n core id v then P else P.put (pr n core id) (pk id) { P.src (pr n core id) (pk id) with rank := v }
theorem grank_c {g n : Nat} {P : Pg} {L : GLay} {w : World} (H : GicAt g n P L w) (core id : Int) (v : Int) : Calls Tryz.prog 116 #[ptr g 0, vI core, vI id, vI v] w fun e w' => e = .returned (vI (if grankE n core id v then 1 else 0)) ∧ GT g n L (grankP n P core id v) w w' := by
  unfold grankP grankE
  cases hk : (decide (0 ≤ v) && decide (v ≤ 255)) with
  | false =>
    rw [if_pos (by rfl), if_pos (by rfl)]
    go_enter Tryz.func116, Tryz.ntmps116
    go_wp2_with (go_at_call 129; refine (isRank_c v _).mono ?_; rintro e w' ⟨rfl, rfl⟩; dsimp only; rw [hk])
    go_ret
    exact ⟨rfl, (gt_refl H).ahead_of (below_alloc _ _)⟩
  | true =>
  rw [show (!true || badB n core id) = badB n core id from rfl]
  have B : ∀ o : Obj, Below w.heap.size w (w.alloc o) := fun o => below_alloc w o
  have hd : (w.alloc (.cells #[vI v] 3)).cell? ⟨w.heap.size, 0, none⟩ = some (vI v) := by rw [cell_of_row _ _ _ _ _ _ (heap_alloc_new _ _)]; rfl
  have hC := chg_ra1 (H.grow (B (.cells #[vI v] 3))) core id v w.heap.size hd
  generalize (if badB n core id = true then (1 : Int) else 0) = ev at hC ⊢
  generalize (if badB n core id = true then P else P.put (pr n core id) (pk id) { P.src (pr n core id) (pk id) with rank := v }) = PV at hC ⊢
  go_enter Tryz.func116, Tryz.ntmps116
  go_wp2_with (first | (go_at_call 105; refine hC.mono ?_; rintro e w' ⟨rfl, hT⟩; dsimp only) | (go_at_call 129; refine (isRank_c v _).mono ?_; rintro e w' ⟨rfl, rfl⟩; dsimp only; rw [hk]))
  go_ret
  exact ⟨rfl, hT.ahead (B _)⟩
def grouteE (n : Nat) (id v : Int) : Bool := decide (id < 32) || badB n v id
def grouteP (n : Nat) (P : Pg) (id v : Int) : Pg := if grouteE n id v then P else P.put (pr n v id) (pk id) { P.src (pr n v id) (pk id) with goes := v }
theorem groute_c {g n : Nat} {P : Pg} {L : GLay} {w : World} (H : GicAt g n P L w) (id v : Int) : Calls Tryz.prog 118 #[ptr g 0, vI id, vI v] w fun e w' => e = .returned (vI (if grouteE n id v then 1 else 0)) ∧ GT g n L (grouteP n P id v) w w' := by
  unfold grouteP grouteE
  by_cases hk : id < 32
  · rw [decide_eq_true hk, if_pos (by rfl), if_pos (by rfl)]
    go_enter Tryz.func118, Tryz.ntmps118
    go_wp2
    go_ret
    exact ⟨rfl, (gt_refl H).ahead_of (below_alloc _ _)⟩
  rw [decide_eq_false hk, Bool.false_or]
  have B : ∀ o : Obj, Below w.heap.size w (w.alloc o) := fun o => below_alloc w o
  have hd : (w.alloc (.cells #[vI v] 3)).cell? ⟨w.heap.size, 0, none⟩ = some (vI v) := by rw [cell_of_row _ _ _ _ _ _ (heap_alloc_new _ _)]; rfl
  have hC := chg_ro1 (H.grow (B (.cells #[vI v] 3))) v id v w.heap.size hd
  generalize (if badB n v id = true then (1 : Int) else 0) = ev at hC ⊢
  generalize (if badB n v id = true then P else P.put (pr n v id) (pk id) { P.src (pr n v id) (pk id) with goes := v }) = PV at hC ⊢
  go_enter Tryz.func118, Tryz.ntmps118
  go_wp2_with (first | (go_at_call 105; refine hC.mono ?_; rintro e w' ⟨rfl, hT⟩; dsimp only))
  go_ret
  exact ⟨rfl, hT.ahead (B _)⟩
end Go.Proofs.YteklkololojamaaGreat
