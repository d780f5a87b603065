/- What Decode answers, for every word: its contract. -/
import Derived.Test.YtcmilajlngnibaaK12
import Derived.BigQuiet
namespace Go.Proofs.Ytcmilajlngnibaa
open Go.RowKit
set_option linter.unusedVariables false

theorem Ins.oneC (i : Ins) : i.cells.all (·.oneCell') = true := i.one
theorem Ins.infoC (i : Ins) : (Try.prog.info? 25).map (·.size) = some i.cells.size := info25
/-- The result's box and the table. -/
structure Dc (g : Nat) (w0 w : World) : Prop where
  below : Below w0.heap.size w0 w
  res : ∃ Z, w.heap[w0.heap.size]? = some (.cells Z 25) ∧ Z.size = 16
  tab : w.heap[g]? = some (.cells formCells.toArray 40)
  up : w0.heap.size < g
theorem Dc.grow {g : Nat} {w0 w w' : World} (h : Dc g w0 w) (hb : Below w.heap.size w w') : Dc g w0 w' := by
  obtain ⟨Z, hz, hs⟩ := h.res
  exact ⟨h.below.trans (hb.mono h.below.size), ⟨Z, by rw [hb.block _ (Array.getElem?_eq_some_iff.1 hz).1]; exact hz, hs⟩, by rw [hb.block _ (Array.getElem?_eq_some_iff.1 h.tab).1]; exact h.tab, h.up⟩
theorem dc_start {w w1 : World} {Z : Array Value} (hZ : Z.size = 16) (h : Below (w.alloc (.cells Z 25)).heap.size (w.alloc (.cells Z 25)) w1) : Dc w1.heap.size w ((w1.alloc (.cells Try.zeroCells40 40)).setRow w1.heap.size formCells.toArray) := by
  have hs : w.heap.size < (w.alloc (.cells Z 25)).heap.size := (Array.getElem?_eq_some_iff.1 (heap_alloc_new w (.cells Z 25))).1
  have hs1 : w.heap.size < w1.heap.size := Nat.lt_of_lt_of_le hs h.size
  refine ⟨?_, ⟨Z, ?_, hZ⟩, setRow_heap _ _ _ _ _ _ (heap_alloc_new _ _), hs1⟩
  · exact Go.Proofs.Ytcmilajlngnibaa.below_setRow (below_more ((Go.Proofs.Ytcmilajlngnibaa.below_alloc w _).trans (h.mono (Nat.le_of_lt hs)))) (Nat.le_of_lt hs1)
  · rw [setRow_other _ _ _ _ (by omega), Below.heap_alloc _ _ _ hs1, h.block _ hs]
    exact heap_alloc_new _ _
set_option maxRecDepth 4000 in
set_option maxHeartbeats 4000000 in
theorem decode_c (word : Int) (hW : W32 word) (w : World) :
    Calls Try.prog 9 #[.int .u32 word] w fun e w' => e = .returned (decV word).val ∧ Below w.heap.size w w' := by
  go_enter Try.func9, Try.ntmps9
  go_upto_region 2 with (first | (go_at_call 13; refine (allForms_c _).mono ?_; rintro e w1 ⟨rfl, H1⟩; dsimp only) | ((with_reducible refine wpList_store_row rfl 40 _ _ rfl _ formCells.toArray rfl rfl 40 Try.zeroCells40 (heap_alloc_new _ _) info40 (by kernel_rfl) forms_one ?_)))
  have H := dc_start rfl H1
  clear H1
  generalize (w1.alloc (Obj.cells Try.zeroCells40 40)).setRow w1.heap.size formCells.toArray = w2 at H ⊢
  generalize w1.heap.size = g at H ⊢
  clear w1
  go_wp2
  go_loopw [8] (fun s8 wr => ∃ k : Nat, k ≤ 40 ∧ s8 = .int .i64 k ∧ Hid (Dc g w wr) ∧ Hid (decL word (forms.drop k) = decV word)) (fun s8 _ => 40 - (intOf s8).toNat)
  case atStart => exact ⟨0, by omega, rfl, H, rfl⟩
  case round =>
    clear H
    obtain ⟨k, hk, rfl, H, hD⟩ := hrel
    by_cases hlt : k < 40
    · have hl2 : (k : Int) < 40 := by omega
      obtain ⟨F, hF, G, hd⟩ := drop_at hlt
      have hD : Hid (decL word (F :: forms.drop (k + 1)) = decV word) := by rw [← hd]; exact hD.out
      have hd : True := trivial
      have hat := fm_at H.out.tab hF
      go_upto_region 6 with fail
      have c2 := hat.c2
      have c3 := hat.c3
      by_cases e1 : bits .and .u32 word F.mask = F.base
      · have d1 : (bits .and .u32 word F.mask != F.base) = false := by simpa using e1
        go_quiet (fail)
        replace H := H.out.grow (below_drewN (Below.refl _ _) nq)
        replace hat := fm_at H.tab hF
        clear c2 c3
        generalize wr.drewN nq = w3 at H hat ⊢
        have hI : Hid (decL word (F :: forms.drop (k + 1)) = if rightB (F.t false (word, startI F)).2 = true then (F.t false (word, startI F)).2 else decL word (forms.drop (k + 1))) := by
          show _ = _
          rw [decL]
          simp only [e1, true_and]
        have hA := apart_c F G.fc G.enters g (k * 5) word hW G.sub w3 hat
        generalize (F.t false (word, startI F)).2 = I at hI hA
        go_upto_region 8 with (first | (go_at_call 14; refine hA.mono ?_; rintro e w4 ⟨rfl, hb⟩; have H4 := H.grow hb; replace H := H4; clear hb; dsimp only) | (((with_reducible refine wpList_store_row rfl 25 _ _ rfl _ I.cells rfl ?_ 25 _ (heap_alloc_new _ _) I.infoC ?_ I.oneC ?_); (focus rfl); (focus rfl); (simp only [Act.put]))))
        have BX := setRow_heap (w4.alloc _) w4.heap.size _ I.cells 25 (0, 0) (heap_alloc_new w4 (.cells #[.int .i64 0, .int .i64 0, .int .i64 0, .int .i64 0, .int .i64 0, .int .i64 0, .int .i64 0, .int .i64 0, .int .i64 0, .int .i64 0, .int .i64 0, .int .i64 0, .bool false, .bool false, .bool false, .bool false] 25))
        replace H := H.grow (Go.Proofs.Ytcmilajlngnibaa.below_setRow (cs := I.cells) (Go.Proofs.Ytcmilajlngnibaa.below_alloc w4 (.cells #[.int .i64 0, .int .i64 0, .int .i64 0, .int .i64 0, .int .i64 0, .int .i64 0, .int .i64 0, .int .i64 0, .int .i64 0, .int .i64 0, .int .i64 0, .int .i64 0, .bool false, .bool false, .bool false, .bool false] 25)) (Nat.le_refl _))
        have hb : w.heap.size < w4.heap.size := Nat.lt_of_lt_of_le H4.up (Nat.le_of_lt (Array.getElem?_eq_some_iff.1 H4.tab).1)
        generalize World.setRow _ _ _ = w5 at H BX ⊢
        generalize w4.heap.size = b at hb BX ⊢
        cases hR : rightB I with
        | true =>
          go_upto_region 9 with (first | (go_at_call 15; refine (right_c I _).mono ?_; rw [hR]; rintro e w6 ⟨rfl, hb⟩; replace H := H.grow hb; replace BX : w6.heap[b]? = some (.cells I.cells 25) := (hb.block b (Array.getElem?_eq_some_iff.1 BX).1).trans BX; clear hb; dsimp only) | ((with_reducible refine wpList_load_if rfl 25 _ rfl b rfl 25 _ (0, 0) _ BX Try.underlying25 rfl I.infoC ?_); simp only [Act.put, List.setIfInBounds_toArray, List.set_cons_succ, List.set_cons_zero]))
          obtain ⟨Z, hz, hZ⟩ := H.res
          have hV : decV word = I := by rw [← hD.out, hI.out, if_pos hR]
          go_wp2_with (first | ((with_reducible refine wpList_load_if rfl 25 _ rfl b rfl 25 _ (0, 0) _ BX Try.underlying25 rfl I.infoC ?_); simp only [Act.put, List.setIfInBounds_toArray, List.set_cons_succ, List.set_cons_zero]) | (((with_reducible refine wpList_store_row rfl 25 _ _ rfl w.heap.size I.cells rfl ?_ 25 _ hz I.infoC ?_ I.oneC ?_); (focus rfl); (focus (rw [hZ]; rfl)); (simp only [Act.put]))))
          refine bodyPost_ret (results_cell_row rfl _ _ _ 25 _ (0, 0) _ rfl (setRow_heap _ _ _ _ _ _ hz) Try.underlying25 rfl I.infoC) rfl ?_
          exact ⟨by rw [hV], Go.Proofs.Ytcmilajlngnibaa.below_setRow H.below (Nat.le_refl _)⟩
        | false =>
          have hV : decL word (forms.drop (k + 1)) = decV word := by rw [← hD.out, hI.out, if_neg (by rw [hR]; decide)]
          go_wp2_with (first | (go_at_call 15; refine (right_c I _).mono ?_; rw [hR]; rintro e w6 ⟨rfl, hb⟩; replace H := H.grow hb; replace BX : w6.heap[b]? = some (.cells I.cells 25) := (hb.block b (Array.getElem?_eq_some_iff.1 BX).1).trans BX; clear hb; dsimp only) | ((with_reducible refine wpList_load_if rfl 25 _ rfl b rfl 25 _ (0, 0) _ BX Try.underlying25 rfl I.infoC ?_); simp only [Act.put, List.setIfInBounds_toArray, List.set_cons_succ, List.set_cons_zero]))
          go_roundw
          case rel => exact ⟨k + 1, by omega, by go_num, H, hV⟩
          case measure => simp [intOf]; omega
      · have d1 : (bits .and .u32 word F.mask != F.base) = true := by simpa using e1
        go_quiet (fail)
        go_wp2
        go_roundw
        case rel => exact ⟨k + 1, by omega, by go_num, H.out.grow (below_drewN (Below.refl _ _) _), by rw [← hD.out]; show _ = _; rw [decL, if_neg (fun h => e1 h.1)]⟩
        case measure => simp [intOf]; omega
    · obtain rfl : k = 40 := by omega
      have hD : decV word = nilI := hD.out.symm
      obtain ⟨Z, hz, hZ⟩ := H.out.res
      have HB := H.out.below
      go_upto_region 11 with fail
      refine wp_region_lit ?_
      with_reducible refine wpList_built rfl 25 _ rfl nilI.cells (by kernel_rfl) ?_
      simp only [Act.put, List.setIfInBounds_toArray, List.set_cons_succ, List.set_cons_zero]
      with_reducible refine wpList_store_row rfl 25 _ _ rfl w.heap.size nilI.cells rfl rfl 25 Z hz nilI.infoC ?_ nilI.oneC ?_
      focus (rw [hZ]; rfl)
      go_wp2
      refine bodyPost_ret (results_cell_row rfl _ _ _ 25 _ (0, 0) _ rfl (setRow_heap _ _ _ _ _ _ hz) Try.underlying25 rfl nilI.infoC) rfl ?_
      exact ⟨by rw [hD], Go.Proofs.Ytcmilajlngnibaa.below_setRow HB (Nat.le_refl _)⟩
end Go.Proofs.Ytcmilajlngnibaa
