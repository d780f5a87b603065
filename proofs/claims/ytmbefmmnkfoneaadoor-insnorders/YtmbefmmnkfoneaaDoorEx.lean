/- The chapter's examples come out as they should: a contract. -/
import Derived.Test.YtmbefmmnkfoneaaDoorText
import Derived.Test.YtmbefmmnkfoneaaDoorWrites
import Derived.Test.YtmbefmmnkfoneaaDoorEnds
namespace Go.Proofs.YtmbefmmnkfoneaaDoor
open Go.RowKit Go.Rel

abbrev addI : Ins := ⟨1, 0, 0, 1, 0, 0, 1, 0, 0, 0, 0, 0, false, false, false, false⟩
abbrev stxI : Ins := ⟨24, 1, 1, 2, 3, 0, 0, 0, 0, 0, 0, 0, false, false, false, false⟩
abbrev nilI : Ins := ⟨0, 0, 0, 0, 0, 0, 0, 0, 0, 0, 0, 0, false, false, false, false⟩
abbrev subI : Ins := ⟨1, 0, 31, 31, 0, 0, 16, 0, 0, 0, 0, 0, false, true, false, false⟩
abbrev braI : Ins := ⟨12, 0, 0, 0, 0, 0, 0, 0, 0, 0, 0, 0, false, false, false, false⟩

theorem it (n : Nat) (h : n < 10) : Lib.itoa (n : Int) = [UInt8.ofNat (48 + n)] := by rw [Lib.itoa_nonneg, Lib.decDigits_one h]
theorem it0 : Lib.itoa 0 = [48] := it 0 (by decide)
theorem it1 : Lib.itoa 1 = [49] := it 1 (by decide)
theorem it2 : Lib.itoa 2 = [50] := it 2 (by decide)
theorem it3 : Lib.itoa 3 = [51] := it 3 (by decide)
theorem addR : rightB addI = true := by decide +kernel
theorem stxR : rightB stxI = true := by decide +kernel
theorem nilR : rightB nilI = false := by decide +kernel
theorem subR : rightB subI = true := by decide +kernel
theorem braE : (rightB braI && endsB braI) = true := by decide +kernel
theorem addT : textV addI = [97, 100, 100, 32, 120, 48, 44, 32, 120, 49, 44, 32, 35, 49] := by
  have h : partsV addI = [120 :: Lib.itoa 0, 120 :: Lib.itoa 1, 35 :: Lib.itoa 1] := rfl
  unfold textV
  rw [h, it0, it1]
  rfl
theorem stxT : textV stxI = [115, 116, 108, 120, 114, 32, 120, 51, 44, 32, 120, 49, 44, 32, 91, 120, 50, 93] := by
  have h : partsV stxI = [120 :: Lib.itoa 3, 120 :: Lib.itoa 1, placeT [120 :: Lib.itoa 2]] := rfl
  unfold textV
  rw [h, it1, it2, it3]
  rfl
theorem addRd : listL (setOf addI (readsV addI)) 32 = [1] := by decide +kernel
theorem subWr : listL (setOf subI (writesV subI)) 32 = [31] := by decide +kernel

set_option maxHeartbeats 1000000 in
theorem add_c (w : World) : Calls Tryd.prog 12 #[] w fun e w' => e = .returned addI.val ∧ Below w.heap.size w w' := by
  go_enter Tryd.func12, Tryd.ntmps12
  repeat' (first | with_reducible refine then_exit ?_ | with_reducible refine then_normal ?_ | with_reducible refine inBlock_eq ?_ | with_reducible refine inBlock_ne rfl ?_ | with_reducible refine inBlock_normal ?_ | (refine wpList_store_row rfl 23 _ _ rfl w.heap.size _ rfl rfl 23 _ (heap_alloc_new _ _) (by kernel_rfl) rfl (by simp [Value.oneCell']) ?_; simp only [Act.put]) | go_step)
  have hc := setRow_heap (w.alloc (.cells nilI.cells 23)) w.heap.size nilI.cells addI.cells 23 (0, 0) (heap_alloc_new _ _)
  refine bodyPost_ret (v := addI.val) (results_cell_row rfl _ _ w.heap.size 23 _ (0, 0) _ rfl hc Tryd.underlying23 rfl (by kernel_rfl)) rfl ⟨rfl, ?_⟩
  refine (below_alloc w (.cells nilI.cells 23)).trans ⟨rfl, rfl, rfl, by rw [setRow_size]; exact Nat.le_refl _, fun k hk => setRow_other _ _ _ _ (by omega)⟩

theorem addText (w : World) (T : Tab w) : Calls Tryd.prog 11 #[addI.val] w fun e w' => e = .returned (.tuple #[strV [97, 100, 100, 32, 120, 48, 44, 32, 120, 49, 44, 32, 35, 49], .int .i64 0]) ∧ Below w.heap.size w w' := by
  rw [← addT]; exact Text_yes addI addR w T
theorem stxText (w : World) (T : Tab w) : Calls Tryd.prog 11 #[stxI.val] w fun e w' => e = .returned (.tuple #[strV [115, 116, 108, 120, 114, 32, 120, 51, 44, 32, 120, 49, 44, 32, 91, 120, 50, 93], .int .i64 0]) ∧ Below w.heap.size w w' := by
  rw [← stxT]; exact Text_yes stxI stxR w T
theorem one_row {w : World} {base : Nat} {v : Value} {n : Nat} (h : w.ownsRow base 3 1 v 1 [vI (n : Int)]) : ∃ g cap, v = .slice (some ⟨g, 0, none⟩) 1 cap ∧ g < w.heap.size ∧ w.cell? ⟨g, 0, none⟩ = some (vI (n : Int)) := by
  rcases h.2 with ⟨-, h0⟩ | ⟨g, cap, cur, rfl, hg, hc, -⟩
  · cases h0
  · have := World.ownsRow.cells h (g := g) rfl 0 _ rfl
    rw [Lib.add_plain] at this
    exact ⟨g, cap, rfl, (Array.getElem?_eq_some_iff.1 hc).1, this⟩
theorem addReads (w : World) : Calls Tryd.prog 6 #[addI.val] w fun e w' => ∃ g cap, e = .returned (.slice (some ⟨g, 0, none⟩) 1 cap) ∧ g < w'.heap.size ∧ w'.cell? ⟨g, 0, none⟩ = some (vI 1) ∧ Below w.heap.size w w' := by
  refine (Reads_c addI w).mono ?_
  rintro e w' ⟨v, rfl, hrow, hb⟩
  rw [listV, addRd] at hrow
  obtain ⟨g, cap, rfl, hg, hc⟩ := one_row hrow
  exact ⟨g, cap, rfl, hg, hc, hb⟩
theorem subWrites (w : World) : Calls Tryd.prog 8 #[subI.val] w fun e w' => ∃ g cap, e = .returned (.slice (some ⟨g, 0, none⟩) 1 cap) ∧ g < w'.heap.size ∧ w'.cell? ⟨g, 0, none⟩ = some (vI 31) ∧ Below w.heap.size w w' := by
  refine (Writes_c subI w).mono ?_
  rintro e w' ⟨v, rfl, hrow, hb⟩
  rw [listV, subWr] at hrow
  obtain ⟨g, cap, rfl, hg, hc⟩ := one_row hrow
  exact ⟨g, cap, rfl, hg, hc, hb⟩
theorem cell_grow {w w' : World} {g o : Nat} {v : Value} (hg : g < w.heap.size) (h : w.cell? ⟨g, o, none⟩ = some v) (hb : Below w.heap.size w w') : w'.cell? ⟨g, o, none⟩ = some v := by
  rw [World.cell?_of_block (w := w) (hb.block g hg)]; exact h

set_option maxRecDepth 8000 in
set_option maxHeartbeats 4000000 in
theorem examples_c (w : World) (T : Tab w) : Calls Tryd.prog 5 #[] w fun e w' => e = .returned (.bool true) ∧ Below w.heap.size w w' := by
  have HB : Below w.heap.size w w := Below.refl _ _
  go_enter Tryd.func5, Tryd.ntmps5
  repeat' (first | with_reducible refine then_exit ?_ | with_reducible refine then_normal ?_ | with_reducible refine inBlock_eq ?_ | with_reducible refine inBlock_ne rfl ?_ | with_reducible refine inBlock_normal ?_ | go_step)
  go_at_call 12
  refine (add_c _).mono ?_
  rintro e w' ⟨rfl, hb⟩
  dsimp only
  replace HB := below_then HB hb
  clear hb
  repeat' (first | with_reducible refine then_exit ?_ | with_reducible refine then_normal ?_ | with_reducible refine inBlock_eq ?_ | with_reducible refine inBlock_ne rfl ?_ | with_reducible refine inBlock_normal ?_ | go_step)
  go_at_call 11
  refine (addText _ (T.grow HB)).mono ?_
  rintro e w' ⟨rfl, hb⟩
  dsimp only
  replace HB := below_then HB hb
  clear hb
  repeat' (first | with_reducible refine then_exit ?_ | with_reducible refine then_normal ?_ | with_reducible refine inBlock_eq ?_ | with_reducible refine inBlock_ne rfl ?_ | with_reducible refine inBlock_normal ?_ | go_step)
  go_at_call 11
  refine (stxText _ (T.grow HB)).mono ?_
  rintro e w' ⟨rfl, hb⟩
  dsimp only
  replace HB := below_then HB hb
  clear hb
  repeat' (first | with_reducible refine then_exit ?_ | with_reducible refine then_normal ?_ | with_reducible refine inBlock_eq ?_ | with_reducible refine inBlock_ne rfl ?_ | with_reducible refine inBlock_normal ?_ | go_step)
  go_at_call 11
  refine (Text_no nilI nilR _ (T.grow HB)).mono ?_
  rintro e w' ⟨rfl, hb⟩
  dsimp only
  replace HB := below_then HB hb
  clear hb
  repeat' (first | with_reducible refine then_exit ?_ | with_reducible refine then_normal ?_ | with_reducible refine inBlock_eq ?_ | with_reducible refine inBlock_ne rfl ?_ | with_reducible refine inBlock_normal ?_ | go_step)
  go_at_call 12
  refine (add_c _).mono ?_
  rintro e w' ⟨rfl, hb⟩
  dsimp only
  replace HB := below_then HB hb
  clear hb
  repeat' (first | with_reducible refine then_exit ?_ | with_reducible refine then_normal ?_ | with_reducible refine inBlock_eq ?_ | with_reducible refine inBlock_ne rfl ?_ | with_reducible refine inBlock_normal ?_ | go_step)
  go_at_call 6
  refine (addReads _).mono ?_
  rintro e w' ⟨g1, cap1, rfl, gA, hA, hb⟩
  dsimp only
  replace HB := below_then HB hb
  clear hb
  repeat' (first | with_reducible refine then_exit ?_ | with_reducible refine then_normal ?_ | with_reducible refine inBlock_eq ?_ | with_reducible refine inBlock_ne rfl ?_ | with_reducible refine inBlock_normal ?_ | go_step)
  go_at_call 8
  refine (subWrites _).mono ?_
  rintro e w' ⟨g2, cap2, rfl, gS, hS, hb⟩
  dsimp only
  replace hA := cell_grow gA hA hb
  replace gA := Nat.lt_of_lt_of_le gA hb.size
  replace HB := below_then HB hb
  clear hb
  repeat' (first | with_reducible refine then_exit ?_ | with_reducible refine then_normal ?_ | with_reducible refine inBlock_eq ?_ | with_reducible refine inBlock_ne rfl ?_ | with_reducible refine inBlock_normal ?_ | go_step)
  go_at_call 12
  refine (add_c _).mono ?_
  rintro e w' ⟨rfl, hb⟩
  dsimp only
  replace hA := cell_grow gA hA hb
  replace gA := Nat.lt_of_lt_of_le gA hb.size
  replace hS := cell_grow gS hS hb
  replace gS := Nat.lt_of_lt_of_le gS hb.size
  replace HB := below_then HB hb
  clear hb
  repeat' (first | with_reducible refine then_exit ?_ | with_reducible refine then_normal ?_ | with_reducible refine inBlock_eq ?_ | with_reducible refine inBlock_ne rfl ?_ | with_reducible refine inBlock_normal ?_ | go_step)
  go_at_call 10
  refine (right_c addI _).mono ?_
  rw [addR]
  rintro e w' ⟨rfl, hb⟩
  dsimp only
  replace hA := cell_grow gA hA hb
  replace gA := Nat.lt_of_lt_of_le gA hb.size
  replace hS := cell_grow gS hS hb
  replace gS := Nat.lt_of_lt_of_le gS hb.size
  replace HB := below_then HB hb
  clear hb
  repeat' (first | with_reducible refine then_exit ?_ | with_reducible refine then_normal ?_ | with_reducible refine inBlock_eq ?_ | with_reducible refine inBlock_ne rfl ?_ | with_reducible refine inBlock_normal ?_ | go_step)
  go_at_call 10
  refine (right_c nilI _).mono ?_
  rw [nilR]
  rintro e w' ⟨rfl, hb⟩
  dsimp only
  replace hA := cell_grow gA hA hb
  replace gA := Nat.lt_of_lt_of_le gA hb.size
  replace hS := cell_grow gS hS hb
  replace gS := Nat.lt_of_lt_of_le gS hb.size
  replace HB := below_then HB hb
  clear hb
  repeat' (first | with_reducible refine then_exit ?_ | with_reducible refine then_normal ?_ | with_reducible refine inBlock_eq ?_ | with_reducible refine inBlock_ne rfl ?_ | with_reducible refine inBlock_normal ?_ | go_step)
  go_at_call 13
  refine (Ends_c braI _).mono ?_
  rw [braE]
  rintro e w' ⟨rfl, hb⟩
  dsimp only
  replace hA := cell_grow gA hA hb
  replace gA := Nat.lt_of_lt_of_le gA hb.size
  replace hS := cell_grow gS hS hb
  replace gS := Nat.lt_of_lt_of_le gS hb.size
  replace HB := below_then HB hb
  clear hb
  repeat' (first | with_reducible refine then_exit ?_ | with_reducible refine then_normal ?_ | with_reducible refine inBlock_eq ?_ | with_reducible refine inBlock_ne rfl ?_ | with_reducible refine inBlock_normal ?_ | go_step)
  go_ret
  exact ⟨rfl, HB⟩
end Go.Proofs.YtmbefmmnkfoneaaDoor
