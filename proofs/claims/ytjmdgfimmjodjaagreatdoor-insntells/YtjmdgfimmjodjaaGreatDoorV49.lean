/- The chapter's examples come out as they should: a contract. -/
import Derived.Test.YtjmdgfimmjodjaaGreatDoorV38
import Derived.Test.YtjmdgfimmjodjaaGreatDoorV48
import Derived.Test.YtjmdgfimmjodjaaGreatDoorV07
import Derived.Test.YtjmdgfimmjodjaaGreatDoorV46
import Derived.Test.YtjmdgfimmjodjaaGreatDoorV47
namespace Go.Proofs.YtjmdgfimmjodjaaGreatDoor
open Go.RowKit Go.Rel

abbrev addI : Ins := ⟨1, 0, 0, 1, 0, 0, 1, 0, 0, 0, 0, 0, false, false, false, false⟩
abbrev stxI : Ins := ⟨24, 1, 1, 2, 3, 0, 0, 0, 0, 0, 0, 0, false, false, false, false⟩
abbrev nilI : Ins := ⟨0, 0, 0, 0, 0, 0, 0, 0, 0, 0, 0, 0, false, false, false, false⟩
abbrev subI : Ins := ⟨1, 0, 31, 31, 0, 0, 16, 0, 0, 0, 0, 0, false, true, false, false⟩
abbrev braI : Ins := ⟨12, 0, 0, 0, 0, 0, 0, 0, 0, 0, 0, 0, false, false, false, false⟩

theorem it (n : Nat) (h : n < 10) : Lib.itoa (n : Int) = [UInt8.ofNat (48 + n)] := by rw [Lib.itoa_nonneg, Lib.decDigits_one h]
theorem it0 : Lib.itoa 0 = [48] := it 0 (by decide)
theorem it1 : Lib.itoa 1 = [49] := it 1 (by decide)
theorem it2 : Lib.itoa 2 = [50] := it 2 (by decide)
theorem it3 : Lib.itoa 3 = [51] := it 3 (by decide)
theorem addR : rightB addI = true := by decide +kernel
theorem stxR : rightB stxI = true := by decide +kernel
theorem nilR : rightB nilI = false := by decide +kernel
theorem subR : rightB subI = true := by decide +kernel
theorem braE : (rightB braI && endsB braI) = true := by decide +kernel
theorem addT : textV addI = [97, 100, 100, 32, 120, 48, 44, 32, 120, 49, 44, 32, 35, 49] := by
  have h : partsV addI = [120 :: Lib.itoa 0, 120 :: Lib.itoa 1, 35 :: Lib.itoa 1] := rfl
  unfold textV
  rw [h, it0, it1]
  rfl
theorem stxT : textV stxI = [115, 116, 108, 120, 114, 32, 120, 51, 44, 32, 120, 49, 44, 32, 91, 120, 50, 93] := by
  have h : partsV stxI = [120 :: Lib.itoa 3, 120 :: Lib.itoa 1, placeT [120 :: Lib.itoa 2]] := rfl
  unfold textV
  rw [h, it1, it2, it3]
  rfl
theorem addRd : listL (setOf addI (readsV addI)) 32 = [1] := by decide +kernel
theorem subWr : listL (setOf subI (writesV subI)) 32 = [31] := by decide +kernel

set_option maxRecDepth 100000 in
set_option maxHeartbeats 1000000 in
theorem add_c (w : World) : Calls Tryz.prog 20 #[] w fun e w' => e = .returned addI.val ∧ Below w.heap.size w w' := by
  go_enter Tryz.func20, Tryz.ntmps20
  repeat' (first | with_reducible refine then_exit ?_ | with_reducible refine then_normal ?_ | with_reducible refine inBlock_eq ?_ | with_reducible refine inBlock_ne rfl ?_ | with_reducible refine inBlock_normal ?_ | (refine wpList_store_row rfl 23 _ _ rfl w.heap.size _ rfl rfl 23 _ (heap_alloc_new _ _) (by kernel_rfl) rfl (by simp [Value.oneCell']) ?_; simp only [Act.put]) | go_step)
  have hc := setRow_heap (w.alloc (.cells nilI.cells 23)) w.heap.size nilI.cells addI.cells 23 (0, 0) (heap_alloc_new _ _)
  refine bodyPost_ret (v := addI.val) (results_cell_row rfl _ _ w.heap.size 23 _ (0, 0) _ rfl hc Tryz.underlying23 rfl (by kernel_rfl)) rfl ⟨rfl, ?_⟩
  refine (below_alloc w (.cells nilI.cells 23)).trans ⟨rfl, rfl, rfl, by rw [setRow_size]; exact Nat.le_refl _, fun k hk => setRow_other _ _ _ _ (by omega)⟩

theorem addText (w : World) (T : Tab w) : Calls Tryz.prog 9 #[addI.val] w fun e w' => e = .returned (.tuple #[strV [97, 100, 100, 32, 120, 48, 44, 32, 120, 49, 44, 32, 35, 49], .int .i64 0]) ∧ Below w.heap.size w w' := by
  rw [← addT]; exact Text_yes addI addR w T
theorem stxText (w : World) (T : Tab w) : Calls Tryz.prog 9 #[stxI.val] w fun e w' => e = .returned (.tuple #[strV [115, 116, 108, 120, 114, 32, 120, 51, 44, 32, 120, 49, 44, 32, 91, 120, 50, 93], .int .i64 0]) ∧ Below w.heap.size w w' := by
  rw [← stxT]; exact Text_yes stxI stxR w T
theorem one_row {w : World} {base : Nat} {v : Value} {n : Nat} (h : w.ownsRow base 3 1 v 1 [vI (n : Int)]) : ∃ g cap, v = .slice (some ⟨g, 0, none⟩) 1 cap ∧ g < w.heap.size ∧ w.cell? ⟨g, 0, none⟩ = some (vI (n : Int)) := by
  rcases h.2 with ⟨-, h0⟩ | ⟨g, cap, cur, rfl, hg, hc, -⟩
  · cases h0
  · have := World.ownsRow.cells h (g := g) rfl 0 _ rfl
    rw [Lib.add_plain] at this
    exact ⟨g, cap, rfl, (Array.getElem?_eq_some_iff.1 hc).1, this⟩
theorem addReads (w : World) : Calls Tryz.prog 13 #[addI.val] w fun e w' => ∃ g cap, e = .returned (.slice (some ⟨g, 0, none⟩) 1 cap) ∧ g < w'.heap.size ∧ w'.cell? ⟨g, 0, none⟩ = some (vI 1) ∧ Below w.heap.size w w' := by
  refine (Reads_c addI w).mono ?_
  rintro e w' ⟨v, rfl, hrow, hb⟩
  rw [listV, addRd] at hrow
  obtain ⟨g, cap, rfl, hg, hc⟩ := one_row hrow
  exact ⟨g, cap, rfl, hg, hc, hb⟩
theorem subWrites (w : World) : Calls Tryz.prog 15 #[subI.val] w fun e w' => ∃ g cap, e = .returned (.slice (some ⟨g, 0, none⟩) 1 cap) ∧ g < w'.heap.size ∧ w'.cell? ⟨g, 0, none⟩ = some (vI 31) ∧ Below w.heap.size w w' := by
  refine (Writes_c subI w).mono ?_
  rintro e w' ⟨v, rfl, hrow, hb⟩
  rw [listV, subWr] at hrow
  obtain ⟨g, cap, rfl, hg, hc⟩ := one_row hrow
  exact ⟨g, cap, rfl, hg, hc, hb⟩
theorem cell_grow {w w' : World} {g o : Nat} {v : Value} (hg : g < w.heap.size) (h : w.cell? ⟨g, o, none⟩ = some v) (hb : Below w.heap.size w w') : w'.cell? ⟨g, o, none⟩ = some v := by
  rw [World.cell?_of_block (w := w) (hb.block g hg)]; exact h

set_option maxRecDepth 8000 in
set_option maxHeartbeats 4000000 in
theorem examples_c (w : World) (T : Tab w) : Calls Tryz.prog 4 #[] w fun e w' => e = .returned (.bool true) ∧ Below w.heap.size w w' := by
  have HB : Below w.heap.size w w := Below.refl _ _
  go_enter Tryz.func4, Tryz.ntmps4
  repeat' (first | with_reducible refine then_exit ?_ | with_reducible refine then_normal ?_ | with_reducible refine inBlock_eq ?_ | with_reducible refine inBlock_ne rfl ?_ | with_reducible refine inBlock_normal ?_ | go_step)
  go_at_call 20
  refine (add_c _).mono ?_
  rintro e w' ⟨rfl, hb⟩
  dsimp only
  replace HB := below_then HB hb
  clear hb
  repeat' (first | with_reducible refine then_exit ?_ | with_reducible refine then_normal ?_ | with_reducible refine inBlock_eq ?_ | with_reducible refine inBlock_ne rfl ?_ | with_reducible refine inBlock_normal ?_ | go_step)
  go_at_call 9
  refine (addText _ (T.grow HB)).mono ?_
  rintro e w' ⟨rfl, hb⟩
  dsimp only
  replace HB := below_then HB hb
  clear hb
  repeat' (first | with_reducible refine then_exit ?_ | with_reducible refine then_normal ?_ | with_reducible refine inBlock_eq ?_ | with_reducible refine inBlock_ne rfl ?_ | with_reducible refine inBlock_normal ?_ | go_step)
  go_at_call 9
  refine (stxText _ (T.grow HB)).mono ?_
  rintro e w' ⟨rfl, hb⟩
  dsimp only
  replace HB := below_then HB hb
  clear hb
  repeat' (first | with_reducible refine then_exit ?_ | with_reducible refine then_normal ?_ | with_reducible refine inBlock_eq ?_ | with_reducible refine inBlock_ne rfl ?_ | with_reducible refine inBlock_normal ?_ | go_step)
  go_at_call 9
  refine (Text_no nilI nilR _ (T.grow HB)).mono ?_
  rintro e w' ⟨rfl, hb⟩
  dsimp only
  replace HB := below_then HB hb
  clear hb
  repeat' (first | with_reducible refine then_exit ?_ | with_reducible refine then_normal ?_ | with_reducible refine inBlock_eq ?_ | with_reducible refine inBlock_ne rfl ?_ | with_reducible refine inBlock_normal ?_ | go_step)
  go_at_call 20
  refine (add_c _).mono ?_
  rintro e w' ⟨rfl, hb⟩
  dsimp only
  replace HB := below_then HB hb
  clear hb
  repeat' (first | with_reducible refine then_exit ?_ | with_reducible refine then_normal ?_ | with_reducible refine inBlock_eq ?_ | with_reducible refine inBlock_ne rfl ?_ | with_reducible refine inBlock_normal ?_ | go_step)
  go_at_call 13
  refine (addReads _).mono ?_
  rintro e w' ⟨g1, cap1, rfl, gA, hA, hb⟩
  dsimp only
  replace HB := below_then HB hb
  clear hb
  repeat' (first | with_reducible refine then_exit ?_ | with_reducible refine then_normal ?_ | with_reducible refine inBlock_eq ?_ | with_reducible refine inBlock_ne rfl ?_ | with_reducible refine inBlock_normal ?_ | go_step)
  go_at_call 15
  refine (subWrites _).mono ?_
  rintro e w' ⟨g2, cap2, rfl, gS, hS, hb⟩
  dsimp only
  replace hA := cell_grow gA hA hb
  replace gA := Nat.lt_of_lt_of_le gA hb.size
  replace HB := below_then HB hb
  clear hb
  repeat' (first | with_reducible refine then_exit ?_ | with_reducible refine then_normal ?_ | with_reducible refine inBlock_eq ?_ | with_reducible refine inBlock_ne rfl ?_ | with_reducible refine inBlock_normal ?_ | go_step)
  go_at_call 20
  refine (add_c _).mono ?_
  rintro e w' ⟨rfl, hb⟩
  dsimp only
  replace hA := cell_grow gA hA hb
  replace gA := Nat.lt_of_lt_of_le gA hb.size
  replace hS := cell_grow gS hS hb
  replace gS := Nat.lt_of_lt_of_le gS hb.size
  replace HB := below_then HB hb
  clear hb
  repeat' (first | with_reducible refine then_exit ?_ | with_reducible refine then_normal ?_ | with_reducible refine inBlock_eq ?_ | with_reducible refine inBlock_ne rfl ?_ | with_reducible refine inBlock_normal ?_ | go_step)
  go_at_call 11
  refine (right_c addI _).mono ?_
  rw [addR]
  rintro e w' ⟨rfl, hb⟩
  dsimp only
  replace hA := cell_grow gA hA hb
  replace gA := Nat.lt_of_lt_of_le gA hb.size
  replace hS := cell_grow gS hS hb
  replace gS := Nat.lt_of_lt_of_le gS hb.size
  replace HB := below_then HB hb
  clear hb
  repeat' (first | with_reducible refine then_exit ?_ | with_reducible refine then_normal ?_ | with_reducible refine inBlock_eq ?_ | with_reducible refine inBlock_ne rfl ?_ | with_reducible refine inBlock_normal ?_ | go_step)
  go_at_call 11
  refine (right_c nilI _).mono ?_
  rw [nilR]
  rintro e w' ⟨rfl, hb⟩
  dsimp only
  replace hA := cell_grow gA hA hb
  replace gA := Nat.lt_of_lt_of_le gA hb.size
  replace hS := cell_grow gS hS hb
  replace gS := Nat.lt_of_lt_of_le gS hb.size
  replace HB := below_then HB hb
  clear hb
  repeat' (first | with_reducible refine then_exit ?_ | with_reducible refine then_normal ?_ | with_reducible refine inBlock_eq ?_ | with_reducible refine inBlock_ne rfl ?_ | with_reducible refine inBlock_normal ?_ | go_step)
  go_at_call 12
  refine (Ends_c braI _).mono ?_
  rw [braE]
  rintro e w' ⟨rfl, hb⟩
  dsimp only
  replace hA := cell_grow gA hA hb
  replace gA := Nat.lt_of_lt_of_le gA hb.size
  replace hS := cell_grow gS hS hb
  replace gS := Nat.lt_of_lt_of_le gS hb.size
  replace HB := below_then HB hb
  clear hb
  repeat' (first | with_reducible refine then_exit ?_ | with_reducible refine then_normal ?_ | with_reducible refine inBlock_eq ?_ | with_reducible refine inBlock_ne rfl ?_ | with_reducible refine inBlock_normal ?_ | go_step)
  go_ret
  exact ⟨rfl, HB⟩
end Go.Proofs.YtjmdgfimmjodjaaGreatDoor
/- InsnTells' walk. -/
namespace Go.Proofs.YtjmdgfimmjodjaaGreatDoor
open Go.RowKit Go.Rel
set_option linter.unusedVariables false
set_option linter.unusedSimpArgs false
set_option maxRecDepth 8000

theorem wpList_neB {ops : Array Oper} {rest : List Oper} {o : Oper} {a : Act} {w : World} {Q : Exit → Act → World → Prop} (hw : Region.wanted o (yielded ops a.tmps) = true) (x y : Operand) (ho : o.op = .binOp .neq 4 x y 4) (b : Bool) (hx : a.eval x = .bool b) (hy : a.eval y = .bool b)
    (h : wpList Tryz.prog ops Q rest (a.put o.dst (.bool false)) w) : wpList Tryz.prog ops Q (o :: rest) a w := by
  refine BigFrame.wpList_want hw fun K hK => ?_
  have e : (execOp a.eval o).run Tryz.prog w = .ok (.value (.bool false)) w := by
    unfold execOp
    simp only [ho, hx, hy]
    cases b <;> go_simp
  unfold Oper.wp
  rw [e]
  exact hK _ _ h
theorem wpList_neS {ops : Array Oper} {rest : List Oper} {o : Oper} {a : Act} {w : World} {Q : Exit → Act → World → Prop} (hw : Region.wanted o (yielded ops a.tmps) = true) (x y : Operand) (ho : o.op = .binOp .neq 9 x y 9) (p : Tx) (hx : a.eval x = strV p) (hy : a.eval y = strV p)
    (h : wpList Tryz.prog ops Q rest (a.put o.dst (.bool false)) w) : wpList Tryz.prog ops Q (o :: rest) a w := by
  refine BigFrame.wpList_want hw fun K hK => ?_
  have e : (execOp a.eval o).run Tryz.prog w = .ok (.value (.bool false)) w := by
    unfold execOp
    simp only [ho, hx, hy]
    go_simp
  unfold Oper.wp
  rw [e]
  exact hK _ _ h
/-- A row into which may be stored. -/
def Wr (B : Nat) (v : Value) (n : Nat) (w : World) : Prop := (n = 0 ∧ ∃ ao c, v = .slice ao 0 c) ∨ ∃ g cap C t, v = .slice (some ⟨g, 0, none⟩) n cap ∧ B < g ∧ w.heap[g]? = some (.cells C t) ∧ n ≤ C.size
theorem wr_of {base B n : Nat} {v : Value} {xs : List Value} {w : World} (h : w.ownsRow base 3 1 v n xs) (hB : B < base) : Wr B v n w := by
  have hx := h.1
  rcases h.2 with ⟨rfl, rfl⟩ | ⟨g, cap, cur, rfl, h1, h2, h3, h4, h5, h6⟩
  · exact .inl ⟨rfl, none, 0, rfl⟩
  · exact .inr ⟨g, cap, cur, 3, rfl, by omega, h2, by omega⟩
theorem Wr.grow {B n : Nat} {v : Value} {w w' : World} (H : Wr B v n w) (hb : Below w.heap.size w w') : Wr B v n w' := by
  rcases H with h | ⟨g, cap, C, t, h1, h2, h3, h4⟩
  · exact .inl h
  · exact .inr ⟨g, cap, C, t, h1, h2, by rw [hb.block _ (Array.getElem?_eq_some_iff.1 h3).1]; exact h3, h4⟩
theorem Wr.put {B n : Nat} {v : Value} {w : World} (H : Wr B v n w) (b k : Nat) (x : Value) : Wr B v n (w.setCell ⟨b, k, none⟩ x) := by
  rcases H with h | ⟨g, cap, C, t, h1, h2, h3, h4⟩
  · exact .inl h
  · by_cases e : g = b
    · subst e
      exact .inr ⟨g, cap, _, t, h1, h2, heap_setCell_same w g k _ t x h3, by simpa using h4⟩
    · exact .inr ⟨g, cap, C, t, h1, h2, by rw [Below.heap_setCell _ _ _ _ e]; exact h3, h4⟩
theorem Wr.at {B n : Nat} {v : Value} {w : World} (H : Wr B v n w) {k : Nat} (hk : k < n) : ∃ g cap, v = .slice (some ⟨g, 0, none⟩) n cap ∧ B < g ∧ ∃ x, w.cell? ⟨g, k, none⟩ = some x ∧ w.frozen? ⟨g, k, none⟩ = false := by
  rcases H with ⟨h, _⟩ | ⟨g, cap, C, t, h1, h2, h3, h4⟩
  · omega
  · exact ⟨g, cap, h1, h2, C[k], by rw [cell_of_row _ _ _ _ _ _ h3]; exact Array.getElem?_eq_getElem (by omega), frozen_of_row _ _ _ _ _ h3⟩
theorem Wr.len {B n : Nat} {v : Value} {w : World} (H : Wr B v n w) : ∃ ao cap, v = .slice ao n cap := by
  rcases H with ⟨h, ao, c, e⟩ | ⟨g, cap, C, t, h1, h2, h3, h4⟩
  · exact ⟨ao, c, by rw [h]; exact e⟩
  · exact ⟨_, cap, h1⟩
/-- The instruction's box, and three rows to be stored into. -/
structure ZW (i : Ins) (W : World) (va vb vc : Value) (na nb nc : Nat) (w : World) : Prop where
  one : One i W w
  ra : Wr W.heap.size va na w
  rb : Wr W.heap.size vb nb w
  rc : Wr W.heap.size vc nc w
theorem ZW.put {i : Ins} {W : World} {va vb vc : Value} {na nb nc : Nat} {w : World} (H : ZW i W va vb vc na nb nc w) {g : Nat} (hg : W.heap.size < g) {k : Nat} {x : Value} : ZW i W va vb vc na nb nc (w.setCell ⟨g, k, none⟩ x) := by
  refine ⟨⟨H.one.below.trans ⟨rfl, rfl, rfl, by simp [World.setCell], fun j hj => Below.heap_setCell _ _ _ _ (by show j ≠ g; omega)⟩, ?_⟩, H.ra.put g k x, H.rb.put g k x, H.rc.put g k x⟩
  rw [Below.heap_setCell _ _ _ _ (by show W.heap.size ≠ g; omega)]
  exact H.one.box
theorem one_lt {i : Ins} {W w : World} (H : One i W w) : W.heap.size < w.heap.size := (Array.getElem?_eq_some_iff.1 H.box).1
theorem drew_below (w : World) (m : Nat) : Below w.heap.size w (w.drewN m) := ⟨rfl, rfl, rfl, Nat.le_refl _, fun _ _ => rfl⟩
set_option maxHeartbeats 16000000 in
theorem tells_walk (i : Ins) (W : World) (T : Tab W) : Calls Tryz.prog 3 #[i.val] W fun e w' => e = .returned (.bool true) ∧ Below W.heap.size W w' := by
  have H1 := one_start i W
  cases hR : rightB i
  all_goals
    go_enter Tryz.func3, Tryz.ntmps3
    go_upto_region 10 with (first | (refine wpList_load_if rfl 23 _ rfl W.heap.size rfl 23 _ (0, 0) _ H1.box Tryz.underlying23 rfl (by kernel_rfl) ?_; simp only [Act.put, List.setIfInBounds_toArray, List.set_cons_succ, List.set_cons_zero]) | (go_at_call 4; refine (examples_c _ (T.grow H1.below)).mono ?_; rintro e w2 ⟨rfl, hb2⟩; replace H1 := H1.grow hb2; clear hb2; dsimp only) | (go_at_call 5; refine (rright_c i _).mono ?_; rw [hR]; rintro e w2 ⟨rfl, hb2⟩; replace H1 := H1.grow hb2; clear hb2; dsimp only) | (go_at_call 6; refine (Flags_c i _).mono ?_; rw [hR]; rintro e w2 ⟨rfl, hb2⟩; replace H1 := H1.grow hb2; clear hb2; dsimp only) | (go_at_call 7; refine (rFlags_c i _).mono ?_; rw [hR]; rintro e w2 ⟨rfl, hb2⟩; replace H1 := H1.grow hb2; clear hb2; dsimp only) | (go_at_call 8; refine (rEnds_c i _).mono ?_; rw [hR]; rintro e w2 ⟨rfl, hb2⟩; replace H1 := H1.grow hb2; clear hb2; dsimp only) | (go_at_call 9; (first | refine (Text_yes i hR _ (T.grow H1.below)).mono ?_ | refine (Text_no i hR _ (T.grow H1.below)).mono ?_); rintro e w2 ⟨rfl, hb2⟩; replace H1 := H1.grow hb2; clear hb2; dsimp only) | (go_at_call 10; (first | refine (rText_yes i hR _).mono ?_ | refine (rText_no i hR _).mono ?_); rintro e w2 ⟨rfl, hb2⟩; replace H1 := H1.grow hb2; clear hb2; dsimp only) | (go_at_call 11; refine (right_c i _).mono ?_; rw [hR]; rintro e w2 ⟨rfl, hb2⟩; replace H1 := H1.grow hb2; clear hb2; dsimp only) | (go_at_call 12; refine (Ends_c i _).mono ?_; rw [hR]; rintro e w2 ⟨rfl, hb2⟩; replace H1 := H1.grow hb2; clear hb2; dsimp only) | ((with_reducible refine wpList_neB rfl _ _ rfl _ rfl rfl ?_); simp only [Act.put, List.setIfInBounds_toArray, List.set_cons_succ, List.set_cons_zero]) | ((with_reducible refine wpList_neS rfl _ _ rfl _ rfl rfl ?_); simp only [Act.put, List.setIfInBounds_toArray, List.set_cons_succ, List.set_cons_zero]))
    have hH := show Hid _ from H1
    clear H1
    go_wp2
    go_loopw [14, 15, 16, 17, 18, 19, 20, 21, 22, 23] (fun s14 s15 s16 s17 s18 s19 s20 s21 s22 s23 wr => ∃ t : Nat, t ≤ 2 ∧ s14 = .int .i64 t ∧ Hid (One i W wr)) (fun s14 s15 s16 s17 s18 s19 s20 s21 s22 s23 _ => 2 - (intOf s14).toNat)
    case atStart => exact ⟨0, Nat.zero_le _, rfl, hH⟩
    case round =>
      clear hH
      obtain ⟨t, ht, rfl, hH⟩ := hrel
      have H1 := hH.out
      clear hH
      by_cases hin : t < 2
      · have l0 := one_lt H1
        go_upto_region 14 with (first | (refine wpList_load_if rfl 23 _ rfl W.heap.size rfl 23 _ (0, 0) _ H1.box Tryz.underlying23 rfl (by kernel_rfl) ?_; simp only [Act.put, List.setIfInBounds_toArray, List.set_cons_succ, List.set_cons_zero]) | (go_at_call 13; refine (Reads_c i _).mono ?_; rintro e w3 ⟨va, rfl, hra, hb3⟩; dsimp only))
        have l1 := hb3.size
        replace H1 := H1.grow hb3
        clear hb3
        go_upto_region 15 with (first | (refine wpList_load_if rfl 23 _ rfl W.heap.size rfl 23 _ (0, 0) _ H1.box Tryz.underlying23 rfl (by kernel_rfl) ?_; simp only [Act.put, List.setIfInBounds_toArray, List.set_cons_succ, List.set_cons_zero]) | (go_at_call 14; refine (Address_c i _).mono ?_; rintro e w4 ⟨vb, rfl, hrb, hb3⟩; dsimp only))
        have l2 := hb3.size
        replace H1 := H1.grow hb3
        replace hra := own_up hra hb3
        clear hb3
        go_upto_region 16 with (first | (refine wpList_load_if rfl 23 _ rfl W.heap.size rfl 23 _ (0, 0) _ H1.box Tryz.underlying23 rfl (by kernel_rfl) ?_; simp only [Act.put, List.setIfInBounds_toArray, List.set_cons_succ, List.set_cons_zero]) | (go_at_call 15; refine (Writes_c i _).mono ?_; rintro e w5 ⟨vc, rfl, hrc, hb3⟩; dsimp only))
        have l3 := hb3.size
        replace H1 := H1.grow hb3
        replace hra := own_up hra hb3
        replace hrb := own_up hrb hb3
        clear hb3
        go_upto_region 17 with (first | (refine wpList_load_if rfl 23 _ rfl W.heap.size rfl 23 _ (0, 0) _ H1.box Tryz.underlying23 rfl (by kernel_rfl) ?_; simp only [Act.put, List.setIfInBounds_toArray, List.set_cons_succ, List.set_cons_zero]) | (go_at_call 17; refine (rReads_c i _).mono ?_; rintro e w6 ⟨vd, rfl, hrd, hb3⟩; replace H1 := H1.grow hb3; replace hra := own_up hra hb3; replace hrb := own_up hrb hb3; replace hrc := own_up hrc hb3; clear hb3; dsimp only) | (go_at_call 16; refine (same_c hra hrd).mono ?_; rintro e w7 ⟨rfl, q, hq⟩; have hb3 : Below w6.heap.size w6 w7 := (by rw [hq]; exact drew_below _ _); clear hq; replace H1 := H1.grow hb3; replace hra := own_up hra hb3; replace hrb := own_up hrb hb3; replace hrc := own_up hrc hb3; clear hb3 hrd; dsimp only))
        go_upto_region 18 with (first | (refine wpList_load_if rfl 23 _ rfl W.heap.size rfl 23 _ (0, 0) _ H1.box Tryz.underlying23 rfl (by kernel_rfl) ?_; simp only [Act.put, List.setIfInBounds_toArray, List.set_cons_succ, List.set_cons_zero]) | (go_at_call 18; refine (rAddress_c i _).mono ?_; rintro e w6 ⟨vd, rfl, hrd, hb3⟩; replace H1 := H1.grow hb3; replace hra := own_up hra hb3; replace hrb := own_up hrb hb3; replace hrc := own_up hrc hb3; clear hb3; dsimp only) | (go_at_call 16; refine (same_c hrb hrd).mono ?_; rintro e w7 ⟨rfl, q, hq⟩; have hb3 : Below w6.heap.size w6 w7 := (by rw [hq]; exact drew_below _ _); clear hq; replace H1 := H1.grow hb3; replace hra := own_up hra hb3; replace hrb := own_up hrb hb3; replace hrc := own_up hrc hb3; clear hb3 hrd; dsimp only))
        go_upto_region 19 with (first | (refine wpList_load_if rfl 23 _ rfl W.heap.size rfl 23 _ (0, 0) _ H1.box Tryz.underlying23 rfl (by kernel_rfl) ?_; simp only [Act.put, List.setIfInBounds_toArray, List.set_cons_succ, List.set_cons_zero]) | (go_at_call 19; refine (rWrites_c i _).mono ?_; rintro e w6 ⟨vd, rfl, hrd, hb3⟩; replace H1 := H1.grow hb3; replace hra := own_up hra hb3; replace hrb := own_up hrb hb3; replace hrc := own_up hrc hb3; clear hb3; dsimp only) | (go_at_call 16; refine (same_c hrc hrd).mono ?_; rintro e w7 ⟨rfl, q, hq⟩; have hb3 : Below w6.heap.size w6 w7 := (by rw [hq]; exact drew_below _ _); clear hq; replace H1 := H1.grow hb3; replace hra := own_up hra hb3; replace hrb := own_up hrb hb3; replace hrc := own_up hrc hb3; clear hb3 hrd; dsimp only))
        have na32 := listL_le (setOf i (readsV i)) 32
        have nb32 := listL_le (setOf i (addressV i)) 32
        have nc32 := listL_le (setOf i (writesV i)) 32
        have Z : ZW i W va vb vc _ _ _ _ := ⟨H1, wr_of hra (by omega), wr_of hrb (by omega), wr_of hrc (by omega)⟩
        clear H1 hra hrb hrc l0 l1 l2 l3
        generalize (listL (setOf i (readsV i)) 32).length = na at Z na32
        generalize (listL (setOf i (addressV i)) 32).length = nb at Z nb32
        generalize (listL (setOf i (writesV i)) 32).length = nc at Z nc32
        go_upto_region 21 with fail
        go_wp2
        go_loopw [21] (fun s wr => ∃ k : Nat, k ≤ na ∧ s = .int .i64 k ∧ Hid (ZW i W va vb vc na nb nc wr)) (fun s _ => na - (intOf s).toNat)
        case atStart => exact ⟨0, Nat.zero_le _, rfl, Z⟩
        case round =>
          clear Z
          obtain ⟨k, hk, rfl, hZ⟩ := hrel
          have Z := hZ.out
          clear hZ
          by_cases hin : k < na
          · obtain ⟨g, cap, ev, hg, x, hx, hf⟩ := Z.ra.at hin
            have hst := Z.put hg (k := k) (x := vI (-1))
            rw [ev]
            go_upto_region 23 with fail
            generalize World.setCell _ _ _ = w9 at hst ⊢
            go_wp2
            go_roundw
            case rel => exact ⟨k + 1, by omega, by go_num, by rw [← ev]; exact hst⟩
            case measure => simp [intOf]; omega
          · obtain ⟨ao, cap, ev⟩ := Z.ra.len
            rw [ev]
            go_upto_region 25 with fail
            go_wp2
            go_loopw [22] (fun s wr => ∃ k : Nat, k ≤ nb ∧ s = .int .i64 k ∧ Hid (ZW i W va vb vc na nb nc wr)) (fun s _ => nb - (intOf s).toNat)
            case atStart => exact ⟨0, Nat.zero_le _, rfl, Z⟩
            case round =>
              clear Z
              obtain ⟨k, hk, rfl, hZ⟩ := hrel
              have Z := hZ.out
              clear hZ
              by_cases hin : k < nb
              · obtain ⟨g, cap, ev, hg, x, hx, hf⟩ := Z.rb.at hin
                have hst := Z.put hg (k := k) (x := vI (-1))
                rw [ev]
                go_upto_region 27 with fail
                generalize World.setCell _ _ _ = w9 at hst ⊢
                go_wp2
                go_roundw
                case rel => exact ⟨k + 1, by omega, by go_num, by rw [← ev]; exact hst⟩
                case measure => simp [intOf]; omega
              · obtain ⟨ao, cap, ev⟩ := Z.rb.len
                rw [ev]
                go_upto_region 29 with fail
                go_wp2
                go_loopw [23] (fun s wr => ∃ k : Nat, k ≤ nc ∧ s = .int .i64 k ∧ Hid (ZW i W va vb vc na nb nc wr)) (fun s _ => nc - (intOf s).toNat)
                case atStart => exact ⟨0, Nat.zero_le _, rfl, Z⟩
                case round =>
                  clear Z
                  obtain ⟨k, hk, rfl, hZ⟩ := hrel
                  have Z := hZ.out
                  clear hZ
                  by_cases hin : k < nc
                  · obtain ⟨g, cap, ev, hg, x, hx, hf⟩ := Z.rc.at hin
                    have hst := Z.put hg (k := k) (x := vI (-1))
                    rw [ev]
                    go_upto_region 31 with fail
                    generalize World.setCell _ _ _ = w9 at hst ⊢
                    go_wp2
                    go_roundw
                    case rel => exact ⟨k + 1, by omega, by go_num, by rw [← ev]; exact hst⟩
                    case measure => simp [intOf]; omega
                  · obtain ⟨ao, cap, ev⟩ := Z.rc.len
                    rw [ev]
                    go_upto_region 12 with fail
                    go_wp2
                    go_roundw
                    case rel => exact ⟨t + 1, by omega, by go_num, Z.one⟩
                    case measure => simp [intOf]; omega
      · go_wp2
        go_ret
        exact ⟨rfl, H1.below⟩
end Go.Proofs.YtjmdgfimmjodjaaGreatDoor
