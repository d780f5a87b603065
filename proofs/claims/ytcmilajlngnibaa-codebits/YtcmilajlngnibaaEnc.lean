/- What Encode answers, for every instruction: its contract. -/
import Derived.Test.YtcmilajlngnibaaDec
namespace Go.Proofs.Ytcmilajlngnibaa
open Go.RowKit
set_option linter.unusedVariables false

/-- The instruction's box and the table. -/
structure Ec (i : Ins) (g : Nat) (w0 w : World) : Prop where
  below : Below w0.heap.size w0 w
  box : w.heap[w0.heap.size]? = some (.cells i.cells 25)
  tab : w.heap[g]? = some (.cells formCells.toArray 40)
theorem Ec.grow {i : Ins} {g : Nat} {w0 w w' : World} (h : Ec i g w0 w) (hb : Below w.heap.size w w') : Ec i g w0 w' :=
  ⟨h.below.trans (hb.mono h.below.size), by rw [hb.block _ (Array.getElem?_eq_some_iff.1 h.box).1]; exact h.box, by rw [hb.block _ (Array.getElem?_eq_some_iff.1 h.tab).1]; exact h.tab⟩
theorem ec_start {i : Ins} {w w1 : World} (h : Below w.heap.size w w1) (hx : w1.heap[w.heap.size]? = some (.cells i.cells 25)) : Ec i w1.heap.size w ((w1.alloc (.cells Try.zeroCells40 40)).setRow w1.heap.size formCells.toArray) := by
  have hs := (Array.getElem?_eq_some_iff.1 hx).1
  refine ⟨Go.Proofs.Ytcmilajlngnibaa.below_setRow (below_more h) (Nat.le_of_lt hs), ?_, setRow_heap _ _ _ _ _ _ (heap_alloc_new _ _)⟩
  rw [setRow_other _ _ _ _ (by omega), Below.heap_alloc _ _ _ hs]; exact hx
set_option maxRecDepth 4000 in
set_option maxHeartbeats 4000000 in
theorem encode_c (i : Ins) (hf : Hid (∀ k : Fl, I64 (k.get i))) (w : World) :
    Calls Try.prog 11 #[i.val] w fun e w' => e = .returned (.tuple #[.int .u32 (encV i).1, .int .i64 (encV i).2]) ∧ Below w.heap.size w w' := by
  have BX := heap_alloc_new w (.cells i.cells 25)
  have HB := Go.Proofs.Ytcmilajlngnibaa.below_alloc w (.cells i.cells 25)
  go_enter Try.func11, Try.ntmps11
  cases hR : rightB i with
  | false =>
    have hV : Hid (encV i = (0, 3)) := by show _ = _; rw [encV, if_neg (by rw [hR]; decide)]
    go_wp2_with (first | (go_at_call 15; refine (right_c i _).mono ?_; rw [hR]; rintro e w1 ⟨rfl, hb⟩; replace BX : w1.heap[w.heap.size]? = some (.cells i.cells 25) := (hb.block _ (Array.getElem?_eq_some_iff.1 BX).1).trans BX; replace HB := HB.trans (hb.mono HB.size); clear hb; dsimp only) | ((with_reducible refine wpList_load_if rfl 25 _ rfl w.heap.size rfl 25 _ (0, 0) _ BX Try.underlying25 rfl i.infoC ?_); simp only [Act.put, List.setIfInBounds_toArray, List.set_cons_succ, List.set_cons_zero]))
    go_ret2
    exact ⟨by rw [hV.out]; rfl, HB⟩
  | true =>
    go_upto_region 4 with (first | (go_at_call 15; refine (right_c i _).mono ?_; rw [hR]; rintro e w1 ⟨rfl, hb⟩; replace BX : w1.heap[w.heap.size]? = some (.cells i.cells 25) := (hb.block _ (Array.getElem?_eq_some_iff.1 BX).1).trans BX; replace HB := HB.trans (hb.mono HB.size); clear hb; dsimp only) | ((with_reducible refine wpList_load_if rfl 25 _ rfl w.heap.size rfl 25 _ (0, 0) _ BX Try.underlying25 rfl i.infoC ?_); simp only [Act.put, List.setIfInBounds_toArray, List.set_cons_succ, List.set_cons_zero]) | (go_at_call 13; refine (allForms_c _).mono ?_; rintro e w2 ⟨rfl, hb⟩; replace BX : w2.heap[w.heap.size]? = some (.cells i.cells 25) := (hb.block _ (Array.getElem?_eq_some_iff.1 BX).1).trans BX; replace HB := HB.trans (hb.mono HB.size); clear hb; dsimp only) | ((with_reducible refine wpList_store_row rfl 40 _ _ rfl _ formCells.toArray rfl rfl 40 Try.zeroCells40 (heap_alloc_new _ _) info40 (by kernel_rfl) forms_one ?_)))
    have H := ec_start HB BX
    clear BX HB
    generalize (w2.alloc (Obj.cells Try.zeroCells40 40)).setRow w2.heap.size formCells.toArray = w3 at H ⊢
    generalize w2.heap.size = g at H ⊢
    clear w2
    have hV : encV i = encL i forms := by rw [encV, if_pos hR]
    go_wp2
    go_loopw [11] (fun s8 wr => ∃ k : Nat, k ≤ 40 ∧ s8 = .int .i64 k ∧ Hid (Ec i g w wr) ∧ Hid (encL i (forms.drop k) = encV i)) (fun s8 _ => 40 - (intOf s8).toNat)
    case atStart => exact ⟨0, by omega, rfl, H, hV.symm⟩
    case round =>
      clear H hV
      obtain ⟨k, hk, rfl, H, hD⟩ := hrel
      by_cases hlt : k < 40
      · have hl2 : (k : Int) < 40 := by omega
        obtain ⟨F, hF, G, hd⟩ := drop_at hlt
        have hD : Hid (encL i (F :: forms.drop (k + 1)) = encV i) := by rw [← hd]; exact hD.out
        have hd : True := trivial
        replace H := H.out
        have hat := fm_at H.tab hF
        have O : Ok (F.base, i) := ⟨G.base, hf.out⟩
        cases hB : isForm F i with
        | true =>
          have hV : encV i = ((F.t true (F.base, i)).1, 0) := by rw [← hD.out, encL, if_pos hB]
          go_wp2_with (first | (go_at_call 18; refine (isForm_c F g (k * 5) i _ hat).mono ?_; rw [hB]; rintro e w4 ⟨rfl, hb⟩; replace H := H.grow hb; replace hat := fm_at H.tab hF; clear hb; dsimp only) | (go_at_call 19; refine (together_c F G.fc G.enters g (k * 5) i O _ hat).mono ?_; rintro e w4 ⟨rfl, hb⟩; replace H := H.grow hb; clear hb; dsimp only) | ((with_reducible refine wpList_load_if rfl 25 _ rfl w.heap.size rfl 25 _ (0, 0) _ H.box Try.underlying25 rfl i.infoC ?_); simp only [Act.put, List.setIfInBounds_toArray, List.set_cons_succ, List.set_cons_zero]))
          go_ret2
          exact ⟨by rw [hV]; rfl, H.below⟩
        | false =>
          have hV : encL i (forms.drop (k + 1)) = encV i := by rw [← hD.out, encL, if_neg (by rw [hB]; decide)]
          go_wp2_with (first | (go_at_call 18; refine (isForm_c F g (k * 5) i _ hat).mono ?_; rw [hB]; rintro e w4 ⟨rfl, hb⟩; replace H := H.grow hb; clear hb; dsimp only) | ((with_reducible refine wpList_load_if rfl 25 _ rfl w.heap.size rfl 25 _ (0, 0) _ H.box Try.underlying25 rfl i.infoC ?_); simp only [Act.put, List.setIfInBounds_toArray, List.set_cons_succ, List.set_cons_zero]))
          go_roundw
          case rel => exact ⟨k + 1, by omega, by go_num, H, hV⟩
          case measure => simp [intOf]; omega
      · obtain rfl : k = 40 := by omega
        have hV : encV i = (0, 3) := hD.out.symm
        have HB := H.out.below
        go_wp2
        go_ret2
        exact ⟨by rw [hV]; rfl, HB⟩
end Go.Proofs.Ytcmilajlngnibaa
