/- Whether the fields that an Op has not are nothing, and its registers 0 to 31, as the document's own answer to chapter 2 tells it: a contract. -/
import Derived.Test.YtjmdgfimmjodjaaGreatDoorV07
namespace Go.Proofs.YtjmdgfimmjodjaaGreatDoor
open Go.RowKit Go.Rel

def okN (h reg : Bool) (n : Int) : Bool := bif h then (bif reg then inB n 0 31 else true) else n == 0
def numL (S : ByteArray) (i : Ins) : List Bool := [okN (hasB S 100) true i.rd, okN (hasB S 110) true i.rn, okN (hasB S 109) true i.rm, okN (hasB S 97) true i.ra, okN (hasB S 105) false i.imm, okN (hasB S 106) false i.imm2, okN (hasB S 107) false i.amount, okN (hasB S 116) false i.shift, okN (hasB S 115) false i.sub, okN (hasB S 99) false i.cond, okN (hasB S 121) false i.sys]
def flgL (S : ByteArray) (i : Ins) : List Bool := [(hasB S 70 || !i.flags), (hasB S 77 || !i.minus), (hasB S 78 || !i.not), (hasB S 76 || !i.link)]
def clearB (i : Ins) : Bool := !(shapeS i.op).data.toList.isEmpty && (numL (shapeS i.op) i).all id && (flgL (shapeS i.op) i).all id
theorem all_no {l : List Bool} {k : Nat} (h : l.getD k true = false) : l.all id = false := by
  refine List.all_eq_false.2 ⟨false, ?_, by simp⟩
  rw [List.getD_eq_getElem?_getD] at h
  cases e : l[k]?
  · rw [e] at h; cases h
  · rw [e] at h
    have h : _ = false := h
    subst h
    exact List.mem_of_getElem? e
theorem all_yes {l : List Bool} (h : ∀ j, j < l.length → l.getD j true = true) : l.all id = true := by
  refine List.all_eq_true.2 fun x hx => ?_
  obtain ⟨j, hj, rfl⟩ := List.mem_iff_getElem.1 hx
  have := h j hj
  rw [List.getD_eq_getElem?_getD, List.getElem?_eq_getElem hj] at this
  exact this
theorem next_all {l : List Bool} {k : Nat} (h : ∀ j, j < k → l.getD j true = true) (hk : l.getD k true = true) : ∀ j, j < k + 1 → l.getD j true = true :=
  fun j hj => (Nat.lt_succ_iff_lt_or_eq.1 hj).elim (h j) fun e => by subst e; exact hk
theorem bif_len (b : Bool) {x y : ByteArray} (hx : x.size ≤ 100) (hy : y.size ≤ 100) : (bif b then x else y).size ≤ 100 := by cases b <;> assumption
theorem shape_len (op : Int) : (shapeS op).size ≤ 100 :=
  bif_len _ (by decide) (bif_len _ (by decide) (bif_len _ (by decide) (bif_len _ (by decide) (bif_len _ (by decide) (bif_len _ (by decide) (bif_len _ (by decide) (bif_len _ (by decide) (bif_len _ (by decide) (bif_len _ (by decide) (bif_len _ (by decide) (bif_len _ (by decide) (bif_len _ (by decide) (bif_len _ (by decide) (bif_len _ (by decide) (bif_len _ (by decide) (bif_len _ (by decide) (bif_len _ (by decide) (bif_len _ (by decide) (bif_len _ (by decide) (bif_len _ (by decide) (bif_len _ (by decide) (bif_len _ (by decide) (bif_len _ (by decide) (bif_len _ (by decide) (by decide)))))))))))))))))))))))))
theorem row_cell (w : World) (cs ds : Array Value) (k : Nat) {v : Value} (h : ds[k]? = some v) : ((w.alloc (.cells cs 23)).alloc (.cells ds 3)).cell? ⟨w.heap.size + 1, k, none⟩ = some v := by
  have e : (w.alloc (.cells cs 23)).heap.size = w.heap.size + 1 := Array.size_push ..
  rw [← e, World.cell?_alloc_new]; exact h
theorem box_cell (w : World) (cs ds : Array Value) (k : Nat) {v : Value} (h : cs[k]? = some v) : ((w.alloc (.cells cs 23)).alloc (.cells ds 3)).cell? ⟨w.heap.size, k, none⟩ = some v := by
  have e : ((w.alloc (.cells cs 23)).alloc (.cells ds 3)).heap[w.heap.size]? = some (.cells cs 23) := by
    rw [Below.heap_alloc _ _ _ (by show _ < (w.heap.push _).size; rw [Array.size_push]; omega), heap_alloc_new]
  rw [cell_of_row _ _ _ _ _ _ e]; exact h
theorem new_cell (w : World) (ds : Array Value) (t : TypeId) (k : Nat) {v : Value} (h : ds[k]? = some v) : (w.alloc (.cells ds t)).cell? ⟨w.heap.size, k, none⟩ = some v := by
  rw [World.cell?_alloc_new]; exact h
set_option maxRecDepth 4000 in
set_option maxHeartbeats 8000000 in
theorem rclear_c (op sub rd rn rm ra imm imm2 amount shift cond sys : Int) (flags minus not link : Bool) (w : World) :
    Calls Tryz.prog 21 #[(⟨op, sub, rd, rn, rm, ra, imm, imm2, amount, shift, cond, sys, flags, minus, not, link⟩ : Ins).val] w fun e w' => e = .returned (.bool (clearB ⟨op, sub, rd, rn, rm, ra, imm, imm2, amount, shift, cond, sys, flags, minus, not, link⟩)) ∧ Below w.heap.size w w' := by
  have hS := shape_len op
  have hS : Hid ((shapeS op).size ≤ 100) := hS
  have hR : Hid (clearB ⟨op, sub, rd, rn, rm, ra, imm, imm2, amount, shift, cond, sys, flags, minus, not, link⟩ = (!(shapeS op).toList.isEmpty && (numL (shapeS op) ⟨op, sub, rd, rn, rm, ra, imm, imm2, amount, shift, cond, sys, flags, minus, not, link⟩).all id && (flgL (shapeS op) ⟨op, sub, rd, rn, rm, ra, imm, imm2, amount, shift, cond, sys, flags, minus, not, link⟩).all id)) := by show _ = _; rw [ByteArray.toList_eq]; rfl
  generalize hC : clearB ⟨op, sub, rd, rn, rm, ra, imm, imm2, amount, shift, cond, sys, flags, minus, not, link⟩ = C at hR ⊢
  clear hC
  cases hE : (shapeS op).toList.isEmpty
  · go_enter Tryz.func21, Tryz.ntmps21
    go_wp2_with (go_at_call 46; refine (shape_c _ _).mono ?_; rintro e w' ⟨rfl, rfl⟩)
    have c0 := row_cell w #[vI op, vI sub, vI rd, vI rn, vI rm, vI ra, vI imm, vI imm2, vI amount, vI shift, vI cond, vI sys, .bool flags, .bool minus, .bool not, .bool link] #[vI rd, vI rn, vI rm, vI ra, vI imm, vI imm2, vI amount, vI shift, vI sub, vI cond, vI sys] 0 (v := vI rd) rfl
    have c1 := row_cell w #[vI op, vI sub, vI rd, vI rn, vI rm, vI ra, vI imm, vI imm2, vI amount, vI shift, vI cond, vI sys, .bool flags, .bool minus, .bool not, .bool link] #[vI rd, vI rn, vI rm, vI ra, vI imm, vI imm2, vI amount, vI shift, vI sub, vI cond, vI sys] 1 (v := vI rn) rfl
    have c2 := row_cell w #[vI op, vI sub, vI rd, vI rn, vI rm, vI ra, vI imm, vI imm2, vI amount, vI shift, vI cond, vI sys, .bool flags, .bool minus, .bool not, .bool link] #[vI rd, vI rn, vI rm, vI ra, vI imm, vI imm2, vI amount, vI shift, vI sub, vI cond, vI sys] 2 (v := vI rm) rfl
    have c3 := row_cell w #[vI op, vI sub, vI rd, vI rn, vI rm, vI ra, vI imm, vI imm2, vI amount, vI shift, vI cond, vI sys, .bool flags, .bool minus, .bool not, .bool link] #[vI rd, vI rn, vI rm, vI ra, vI imm, vI imm2, vI amount, vI shift, vI sub, vI cond, vI sys] 3 (v := vI ra) rfl
    have c4 := row_cell w #[vI op, vI sub, vI rd, vI rn, vI rm, vI ra, vI imm, vI imm2, vI amount, vI shift, vI cond, vI sys, .bool flags, .bool minus, .bool not, .bool link] #[vI rd, vI rn, vI rm, vI ra, vI imm, vI imm2, vI amount, vI shift, vI sub, vI cond, vI sys] 4 (v := vI imm) rfl
    have c5 := row_cell w #[vI op, vI sub, vI rd, vI rn, vI rm, vI ra, vI imm, vI imm2, vI amount, vI shift, vI cond, vI sys, .bool flags, .bool minus, .bool not, .bool link] #[vI rd, vI rn, vI rm, vI ra, vI imm, vI imm2, vI amount, vI shift, vI sub, vI cond, vI sys] 5 (v := vI imm2) rfl
    have c6 := row_cell w #[vI op, vI sub, vI rd, vI rn, vI rm, vI ra, vI imm, vI imm2, vI amount, vI shift, vI cond, vI sys, .bool flags, .bool minus, .bool not, .bool link] #[vI rd, vI rn, vI rm, vI ra, vI imm, vI imm2, vI amount, vI shift, vI sub, vI cond, vI sys] 6 (v := vI amount) rfl
    have c7 := row_cell w #[vI op, vI sub, vI rd, vI rn, vI rm, vI ra, vI imm, vI imm2, vI amount, vI shift, vI cond, vI sys, .bool flags, .bool minus, .bool not, .bool link] #[vI rd, vI rn, vI rm, vI ra, vI imm, vI imm2, vI amount, vI shift, vI sub, vI cond, vI sys] 7 (v := vI shift) rfl
    have c8 := row_cell w #[vI op, vI sub, vI rd, vI rn, vI rm, vI ra, vI imm, vI imm2, vI amount, vI shift, vI cond, vI sys, .bool flags, .bool minus, .bool not, .bool link] #[vI rd, vI rn, vI rm, vI ra, vI imm, vI imm2, vI amount, vI shift, vI sub, vI cond, vI sys] 8 (v := vI sub) rfl
    have c9 := row_cell w #[vI op, vI sub, vI rd, vI rn, vI rm, vI ra, vI imm, vI imm2, vI amount, vI shift, vI cond, vI sys, .bool flags, .bool minus, .bool not, .bool link] #[vI rd, vI rn, vI rm, vI ra, vI imm, vI imm2, vI amount, vI shift, vI sub, vI cond, vI sys] 9 (v := vI cond) rfl
    have c10 := row_cell w #[vI op, vI sub, vI rd, vI rn, vI rm, vI ra, vI imm, vI imm2, vI amount, vI shift, vI cond, vI sys, .bool flags, .bool minus, .bool not, .bool link] #[vI rd, vI rn, vI rm, vI ra, vI imm, vI imm2, vI amount, vI shift, vI sub, vI cond, vI sys] 10 (v := vI sys) rfl
    have d12 := box_cell w #[vI op, vI sub, vI rd, vI rn, vI rm, vI ra, vI imm, vI imm2, vI amount, vI shift, vI cond, vI sys, .bool flags, .bool minus, .bool not, .bool link] #[vI rd, vI rn, vI rm, vI ra, vI imm, vI imm2, vI amount, vI shift, vI sub, vI cond, vI sys] 12 (v := .bool flags) rfl
    have d13 := box_cell w #[vI op, vI sub, vI rd, vI rn, vI rm, vI ra, vI imm, vI imm2, vI amount, vI shift, vI cond, vI sys, .bool flags, .bool minus, .bool not, .bool link] #[vI rd, vI rn, vI rm, vI ra, vI imm, vI imm2, vI amount, vI shift, vI sub, vI cond, vI sys] 13 (v := .bool minus) rfl
    have d14 := box_cell w #[vI op, vI sub, vI rd, vI rn, vI rm, vI ra, vI imm, vI imm2, vI amount, vI shift, vI cond, vI sys, .bool flags, .bool minus, .bool not, .bool link] #[vI rd, vI rn, vI rm, vI ra, vI imm, vI imm2, vI amount, vI shift, vI sub, vI cond, vI sys] 14 (v := .bool not) rfl
    have d15 := box_cell w #[vI op, vI sub, vI rd, vI rn, vI rm, vI ra, vI imm, vI imm2, vI amount, vI shift, vI cond, vI sys, .bool flags, .bool minus, .bool not, .bool link] #[vI rd, vI rn, vI rm, vI ra, vI imm, vI imm2, vI amount, vI shift, vI sub, vI cond, vI sys] 15 (v := .bool link) rfl
    have hB : Hid (Below w.heap.size w ((w.alloc (.cells #[vI op, vI sub, vI rd, vI rn, vI rm, vI ra, vI imm, vI imm2, vI amount, vI shift, vI cond, vI sys, .bool flags, .bool minus, .bool not, .bool link] 23)).alloc (.cells #[vI rd, vI rn, vI rm, vI ra, vI imm, vI imm2, vI amount, vI shift, vI sub, vI cond, vI sys] 3))) := below_then (below_alloc _ _) (below_alloc _ _)
    generalize (w.alloc _).alloc _ = w2 at *
    rw [hE] at hR
    clear hE
    generalize shapeS op = T at *
    generalize hN : numL T ⟨op, sub, rd, rn, rm, ra, imm, imm2, amount, shift, cond, sys, flags, minus, not, link⟩ = N at hR
    replace hN := show Hid _ from hN
    generalize hG : flgL T ⟨op, sub, rd, rn, rm, ra, imm, imm2, amount, shift, cond, sys, flags, minus, not, link⟩ = G at hR
    replace hG := show Hid _ from hG
    go_loop [5] (fun z => ∃ k : Nat, k ≤ 11 ∧ Hid (∀ j, j < k → N.getD j true = true) ∧ z = .int .i64 k) (fun z => 11 - (intOf z).toNat)
    case atStart => exact ⟨0, Nat.zero_le _, fun j h => absurd h (Nat.not_lt_zero j), rfl⟩
    case round =>
      obtain ⟨k, hk, hn, rfl⟩ := hrel
      rcases (by omega : k = 0 ∨ k = 1 ∨ k = 2 ∨ k = 3 ∨ k = 4 ∨ k = 5 ∨ k = 6 ∨ k = 7 ∨ k = 8 ∨ k = 9 ∨ k = 10 ∨ k = 11) with rfl | rfl | rfl | rfl | rfl | rfl | rfl | rfl | rfl | rfl | rfl | rfl
      · cases hb : hasB T 100
        · cases hv : (rd != 0)
          · skip
            have hx : Hid (N.getD 0 true = true) := by show _ = _; rw [← hN.out]; show okN (hasB T 100) true rd = true; rw [hb]; simpa [okN] using hv
            go_wp2_with (go_at_call 47; refine (rhas_c T 100 hS.out _).mono ?_; rw [hb]; rintro e w' ⟨rfl, rfl⟩)
            go_round
            case rel => exact ⟨1, by decide, next_all hn.out hx.out, rfl⟩
            case measure => simp [intOf]
          · skip
            have hy : Hid (C = false) := by
              have hx : N.getD 0 true = false := by rw [← hN.out]; show okN (hasB T 100) true rd = false; rw [hb]; simpa [okN] using hv
              show _ = _; rw [hR.out, all_no hx]; simp
            go_wp2_with (go_at_call 47; refine (rhas_c T 100 hS.out _).mono ?_; rw [hb]; rintro e w' ⟨rfl, rfl⟩)
            go_ret
            exact ⟨ret_bool hy.out.symm, hB.out⟩
        · by_cases h0 : rd < 0
          · skip
            have hy : Hid (C = false) := by
              have hx : N.getD 0 true = false := by rw [← hN.out]; show okN (hasB T 100) true rd = false; rw [hb]; show inB _ _ _ = false; unfold inB; rw [decide_eq_false (p := (0 : Int) ≤ rd) (by omega)]; rfl
              show _ = _; rw [hR.out, all_no hx]; simp
            go_wp2_with (go_at_call 47; refine (rhas_c T 100 hS.out _).mono ?_; rw [hb]; rintro e w' ⟨rfl, rfl⟩)
            go_ret
            exact ⟨ret_bool hy.out.symm, hB.out⟩
          · by_cases h1 : 31 < rd
            · skip
              have hy : Hid (C = false) := by
                have hx : N.getD 0 true = false := by rw [← hN.out]; show okN (hasB T 100) true rd = false; rw [hb]; show inB _ _ _ = false; unfold inB; rw [decide_eq_false (p := rd ≤ 31) (by omega)]; simp
                show _ = _; rw [hR.out, all_no hx]; simp
              go_wp2_with (go_at_call 47; refine (rhas_c T 100 hS.out _).mono ?_; rw [hb]; rintro e w' ⟨rfl, rfl⟩)
              go_ret
              exact ⟨ret_bool hy.out.symm, hB.out⟩
            · skip
              have hx : Hid (N.getD 0 true = true) := by show _ = _; rw [← hN.out]; show okN (hasB T 100) true rd = true; rw [hb]; show inB _ _ _ = true; unfold inB; rw [decide_eq_true (p := (0 : Int) ≤ rd) (by omega), decide_eq_true (p := rd ≤ 31) (by omega)]; rfl
              go_wp2_with (go_at_call 47; refine (rhas_c T 100 hS.out _).mono ?_; rw [hb]; rintro e w' ⟨rfl, rfl⟩)
              go_round
              case rel => exact ⟨1, by decide, next_all hn.out hx.out, rfl⟩
              case measure => simp [intOf]
      · cases hb : hasB T 110
        · cases hv : (rn != 0)
          · skip
            have hx : Hid (N.getD 1 true = true) := by show _ = _; rw [← hN.out]; show okN (hasB T 110) true rn = true; rw [hb]; simpa [okN] using hv
            go_wp2_with (go_at_call 47; refine (rhas_c T 110 hS.out _).mono ?_; rw [hb]; rintro e w' ⟨rfl, rfl⟩)
            go_round
            case rel => exact ⟨2, by decide, next_all hn.out hx.out, rfl⟩
            case measure => simp [intOf]
          · skip
            have hy : Hid (C = false) := by
              have hx : N.getD 1 true = false := by rw [← hN.out]; show okN (hasB T 110) true rn = false; rw [hb]; simpa [okN] using hv
              show _ = _; rw [hR.out, all_no hx]; simp
            go_wp2_with (go_at_call 47; refine (rhas_c T 110 hS.out _).mono ?_; rw [hb]; rintro e w' ⟨rfl, rfl⟩)
            go_ret
            exact ⟨ret_bool hy.out.symm, hB.out⟩
        · by_cases h0 : rn < 0
          · skip
            have hy : Hid (C = false) := by
              have hx : N.getD 1 true = false := by rw [← hN.out]; show okN (hasB T 110) true rn = false; rw [hb]; show inB _ _ _ = false; unfold inB; rw [decide_eq_false (p := (0 : Int) ≤ rn) (by omega)]; rfl
              show _ = _; rw [hR.out, all_no hx]; simp
            go_wp2_with (go_at_call 47; refine (rhas_c T 110 hS.out _).mono ?_; rw [hb]; rintro e w' ⟨rfl, rfl⟩)
            go_ret
            exact ⟨ret_bool hy.out.symm, hB.out⟩
          · by_cases h1 : 31 < rn
            · skip
              have hy : Hid (C = false) := by
                have hx : N.getD 1 true = false := by rw [← hN.out]; show okN (hasB T 110) true rn = false; rw [hb]; show inB _ _ _ = false; unfold inB; rw [decide_eq_false (p := rn ≤ 31) (by omega)]; simp
                show _ = _; rw [hR.out, all_no hx]; simp
              go_wp2_with (go_at_call 47; refine (rhas_c T 110 hS.out _).mono ?_; rw [hb]; rintro e w' ⟨rfl, rfl⟩)
              go_ret
              exact ⟨ret_bool hy.out.symm, hB.out⟩
            · skip
              have hx : Hid (N.getD 1 true = true) := by show _ = _; rw [← hN.out]; show okN (hasB T 110) true rn = true; rw [hb]; show inB _ _ _ = true; unfold inB; rw [decide_eq_true (p := (0 : Int) ≤ rn) (by omega), decide_eq_true (p := rn ≤ 31) (by omega)]; rfl
              go_wp2_with (go_at_call 47; refine (rhas_c T 110 hS.out _).mono ?_; rw [hb]; rintro e w' ⟨rfl, rfl⟩)
              go_round
              case rel => exact ⟨2, by decide, next_all hn.out hx.out, rfl⟩
              case measure => simp [intOf]
      · cases hb : hasB T 109
        · cases hv : (rm != 0)
          · skip
            have hx : Hid (N.getD 2 true = true) := by show _ = _; rw [← hN.out]; show okN (hasB T 109) true rm = true; rw [hb]; simpa [okN] using hv
            go_wp2_with (go_at_call 47; refine (rhas_c T 109 hS.out _).mono ?_; rw [hb]; rintro e w' ⟨rfl, rfl⟩)
            go_round
            case rel => exact ⟨3, by decide, next_all hn.out hx.out, rfl⟩
            case measure => simp [intOf]
          · skip
            have hy : Hid (C = false) := by
              have hx : N.getD 2 true = false := by rw [← hN.out]; show okN (hasB T 109) true rm = false; rw [hb]; simpa [okN] using hv
              show _ = _; rw [hR.out, all_no hx]; simp
            go_wp2_with (go_at_call 47; refine (rhas_c T 109 hS.out _).mono ?_; rw [hb]; rintro e w' ⟨rfl, rfl⟩)
            go_ret
            exact ⟨ret_bool hy.out.symm, hB.out⟩
        · by_cases h0 : rm < 0
          · skip
            have hy : Hid (C = false) := by
              have hx : N.getD 2 true = false := by rw [← hN.out]; show okN (hasB T 109) true rm = false; rw [hb]; show inB _ _ _ = false; unfold inB; rw [decide_eq_false (p := (0 : Int) ≤ rm) (by omega)]; rfl
              show _ = _; rw [hR.out, all_no hx]; simp
            go_wp2_with (go_at_call 47; refine (rhas_c T 109 hS.out _).mono ?_; rw [hb]; rintro e w' ⟨rfl, rfl⟩)
            go_ret
            exact ⟨ret_bool hy.out.symm, hB.out⟩
          · by_cases h1 : 31 < rm
            · skip
              have hy : Hid (C = false) := by
                have hx : N.getD 2 true = false := by rw [← hN.out]; show okN (hasB T 109) true rm = false; rw [hb]; show inB _ _ _ = false; unfold inB; rw [decide_eq_false (p := rm ≤ 31) (by omega)]; simp
                show _ = _; rw [hR.out, all_no hx]; simp
              go_wp2_with (go_at_call 47; refine (rhas_c T 109 hS.out _).mono ?_; rw [hb]; rintro e w' ⟨rfl, rfl⟩)
              go_ret
              exact ⟨ret_bool hy.out.symm, hB.out⟩
            · skip
              have hx : Hid (N.getD 2 true = true) := by show _ = _; rw [← hN.out]; show okN (hasB T 109) true rm = true; rw [hb]; show inB _ _ _ = true; unfold inB; rw [decide_eq_true (p := (0 : Int) ≤ rm) (by omega), decide_eq_true (p := rm ≤ 31) (by omega)]; rfl
              go_wp2_with (go_at_call 47; refine (rhas_c T 109 hS.out _).mono ?_; rw [hb]; rintro e w' ⟨rfl, rfl⟩)
              go_round
              case rel => exact ⟨3, by decide, next_all hn.out hx.out, rfl⟩
              case measure => simp [intOf]
      · cases hb : hasB T 97
        · cases hv : (ra != 0)
          · skip
            have hx : Hid (N.getD 3 true = true) := by show _ = _; rw [← hN.out]; show okN (hasB T 97) true ra = true; rw [hb]; simpa [okN] using hv
            go_wp2_with (go_at_call 47; refine (rhas_c T 97 hS.out _).mono ?_; rw [hb]; rintro e w' ⟨rfl, rfl⟩)
            go_round
            case rel => exact ⟨4, by decide, next_all hn.out hx.out, rfl⟩
            case measure => simp [intOf]
          · skip
            have hy : Hid (C = false) := by
              have hx : N.getD 3 true = false := by rw [← hN.out]; show okN (hasB T 97) true ra = false; rw [hb]; simpa [okN] using hv
              show _ = _; rw [hR.out, all_no hx]; simp
            go_wp2_with (go_at_call 47; refine (rhas_c T 97 hS.out _).mono ?_; rw [hb]; rintro e w' ⟨rfl, rfl⟩)
            go_ret
            exact ⟨ret_bool hy.out.symm, hB.out⟩
        · by_cases h0 : ra < 0
          · skip
            have hy : Hid (C = false) := by
              have hx : N.getD 3 true = false := by rw [← hN.out]; show okN (hasB T 97) true ra = false; rw [hb]; show inB _ _ _ = false; unfold inB; rw [decide_eq_false (p := (0 : Int) ≤ ra) (by omega)]; rfl
              show _ = _; rw [hR.out, all_no hx]; simp
            go_wp2_with (go_at_call 47; refine (rhas_c T 97 hS.out _).mono ?_; rw [hb]; rintro e w' ⟨rfl, rfl⟩)
            go_ret
            exact ⟨ret_bool hy.out.symm, hB.out⟩
          · by_cases h1 : 31 < ra
            · skip
              have hy : Hid (C = false) := by
                have hx : N.getD 3 true = false := by rw [← hN.out]; show okN (hasB T 97) true ra = false; rw [hb]; show inB _ _ _ = false; unfold inB; rw [decide_eq_false (p := ra ≤ 31) (by omega)]; simp
                show _ = _; rw [hR.out, all_no hx]; simp
              go_wp2_with (go_at_call 47; refine (rhas_c T 97 hS.out _).mono ?_; rw [hb]; rintro e w' ⟨rfl, rfl⟩)
              go_ret
              exact ⟨ret_bool hy.out.symm, hB.out⟩
            · skip
              have hx : Hid (N.getD 3 true = true) := by show _ = _; rw [← hN.out]; show okN (hasB T 97) true ra = true; rw [hb]; show inB _ _ _ = true; unfold inB; rw [decide_eq_true (p := (0 : Int) ≤ ra) (by omega), decide_eq_true (p := ra ≤ 31) (by omega)]; rfl
              go_wp2_with (go_at_call 47; refine (rhas_c T 97 hS.out _).mono ?_; rw [hb]; rintro e w' ⟨rfl, rfl⟩)
              go_round
              case rel => exact ⟨4, by decide, next_all hn.out hx.out, rfl⟩
              case measure => simp [intOf]
      · cases hb : hasB T 105
        · cases hv : (imm != 0)
          · skip
            have hx : Hid (N.getD 4 true = true) := by show _ = _; rw [← hN.out]; show okN (hasB T 105) false imm = true; rw [hb]; simpa [okN] using hv
            go_wp2_with (go_at_call 47; refine (rhas_c T 105 hS.out _).mono ?_; rw [hb]; rintro e w' ⟨rfl, rfl⟩)
            go_round
            case rel => exact ⟨5, by decide, next_all hn.out hx.out, rfl⟩
            case measure => simp [intOf]
          · skip
            have hy : Hid (C = false) := by
              have hx : N.getD 4 true = false := by rw [← hN.out]; show okN (hasB T 105) false imm = false; rw [hb]; simpa [okN] using hv
              show _ = _; rw [hR.out, all_no hx]; simp
            go_wp2_with (go_at_call 47; refine (rhas_c T 105 hS.out _).mono ?_; rw [hb]; rintro e w' ⟨rfl, rfl⟩)
            go_ret
            exact ⟨ret_bool hy.out.symm, hB.out⟩
        · skip
          have hx : Hid (N.getD 4 true = true) := by show _ = _; rw [← hN.out]; show okN (hasB T 105) false imm = true; rw [hb]; rfl
          go_wp2_with (go_at_call 47; refine (rhas_c T 105 hS.out _).mono ?_; rw [hb]; rintro e w' ⟨rfl, rfl⟩)
          go_round
          case rel => exact ⟨5, by decide, next_all hn.out hx.out, rfl⟩
          case measure => simp [intOf]
      · cases hb : hasB T 106
        · cases hv : (imm2 != 0)
          · skip
            have hx : Hid (N.getD 5 true = true) := by show _ = _; rw [← hN.out]; show okN (hasB T 106) false imm2 = true; rw [hb]; simpa [okN] using hv
            go_wp2_with (go_at_call 47; refine (rhas_c T 106 hS.out _).mono ?_; rw [hb]; rintro e w' ⟨rfl, rfl⟩)
            go_round
            case rel => exact ⟨6, by decide, next_all hn.out hx.out, rfl⟩
            case measure => simp [intOf]
          · skip
            have hy : Hid (C = false) := by
              have hx : N.getD 5 true = false := by rw [← hN.out]; show okN (hasB T 106) false imm2 = false; rw [hb]; simpa [okN] using hv
              show _ = _; rw [hR.out, all_no hx]; simp
            go_wp2_with (go_at_call 47; refine (rhas_c T 106 hS.out _).mono ?_; rw [hb]; rintro e w' ⟨rfl, rfl⟩)
            go_ret
            exact ⟨ret_bool hy.out.symm, hB.out⟩
        · skip
          have hx : Hid (N.getD 5 true = true) := by show _ = _; rw [← hN.out]; show okN (hasB T 106) false imm2 = true; rw [hb]; rfl
          go_wp2_with (go_at_call 47; refine (rhas_c T 106 hS.out _).mono ?_; rw [hb]; rintro e w' ⟨rfl, rfl⟩)
          go_round
          case rel => exact ⟨6, by decide, next_all hn.out hx.out, rfl⟩
          case measure => simp [intOf]
      · cases hb : hasB T 107
        · cases hv : (amount != 0)
          · skip
            have hx : Hid (N.getD 6 true = true) := by show _ = _; rw [← hN.out]; show okN (hasB T 107) false amount = true; rw [hb]; simpa [okN] using hv
            go_wp2_with (go_at_call 47; refine (rhas_c T 107 hS.out _).mono ?_; rw [hb]; rintro e w' ⟨rfl, rfl⟩)
            go_round
            case rel => exact ⟨7, by decide, next_all hn.out hx.out, rfl⟩
            case measure => simp [intOf]
          · skip
            have hy : Hid (C = false) := by
              have hx : N.getD 6 true = false := by rw [← hN.out]; show okN (hasB T 107) false amount = false; rw [hb]; simpa [okN] using hv
              show _ = _; rw [hR.out, all_no hx]; simp
            go_wp2_with (go_at_call 47; refine (rhas_c T 107 hS.out _).mono ?_; rw [hb]; rintro e w' ⟨rfl, rfl⟩)
            go_ret
            exact ⟨ret_bool hy.out.symm, hB.out⟩
        · skip
          have hx : Hid (N.getD 6 true = true) := by show _ = _; rw [← hN.out]; show okN (hasB T 107) false amount = true; rw [hb]; rfl
          go_wp2_with (go_at_call 47; refine (rhas_c T 107 hS.out _).mono ?_; rw [hb]; rintro e w' ⟨rfl, rfl⟩)
          go_round
          case rel => exact ⟨7, by decide, next_all hn.out hx.out, rfl⟩
          case measure => simp [intOf]
      · cases hb : hasB T 116
        · cases hv : (shift != 0)
          · skip
            have hx : Hid (N.getD 7 true = true) := by show _ = _; rw [← hN.out]; show okN (hasB T 116) false shift = true; rw [hb]; simpa [okN] using hv
            go_wp2_with (go_at_call 47; refine (rhas_c T 116 hS.out _).mono ?_; rw [hb]; rintro e w' ⟨rfl, rfl⟩)
            go_round
            case rel => exact ⟨8, by decide, next_all hn.out hx.out, rfl⟩
            case measure => simp [intOf]
          · skip
            have hy : Hid (C = false) := by
              have hx : N.getD 7 true = false := by rw [← hN.out]; show okN (hasB T 116) false shift = false; rw [hb]; simpa [okN] using hv
              show _ = _; rw [hR.out, all_no hx]; simp
            go_wp2_with (go_at_call 47; refine (rhas_c T 116 hS.out _).mono ?_; rw [hb]; rintro e w' ⟨rfl, rfl⟩)
            go_ret
            exact ⟨ret_bool hy.out.symm, hB.out⟩
        · skip
          have hx : Hid (N.getD 7 true = true) := by show _ = _; rw [← hN.out]; show okN (hasB T 116) false shift = true; rw [hb]; rfl
          go_wp2_with (go_at_call 47; refine (rhas_c T 116 hS.out _).mono ?_; rw [hb]; rintro e w' ⟨rfl, rfl⟩)
          go_round
          case rel => exact ⟨8, by decide, next_all hn.out hx.out, rfl⟩
          case measure => simp [intOf]
      · cases hb : hasB T 115
        · cases hv : (sub != 0)
          · skip
            have hx : Hid (N.getD 8 true = true) := by show _ = _; rw [← hN.out]; show okN (hasB T 115) false sub = true; rw [hb]; simpa [okN] using hv
            go_wp2_with (go_at_call 47; refine (rhas_c T 115 hS.out _).mono ?_; rw [hb]; rintro e w' ⟨rfl, rfl⟩)
            go_round
            case rel => exact ⟨9, by decide, next_all hn.out hx.out, rfl⟩
            case measure => simp [intOf]
          · skip
            have hy : Hid (C = false) := by
              have hx : N.getD 8 true = false := by rw [← hN.out]; show okN (hasB T 115) false sub = false; rw [hb]; simpa [okN] using hv
              show _ = _; rw [hR.out, all_no hx]; simp
            go_wp2_with (go_at_call 47; refine (rhas_c T 115 hS.out _).mono ?_; rw [hb]; rintro e w' ⟨rfl, rfl⟩)
            go_ret
            exact ⟨ret_bool hy.out.symm, hB.out⟩
        · skip
          have hx : Hid (N.getD 8 true = true) := by show _ = _; rw [← hN.out]; show okN (hasB T 115) false sub = true; rw [hb]; rfl
          go_wp2_with (go_at_call 47; refine (rhas_c T 115 hS.out _).mono ?_; rw [hb]; rintro e w' ⟨rfl, rfl⟩)
          go_round
          case rel => exact ⟨9, by decide, next_all hn.out hx.out, rfl⟩
          case measure => simp [intOf]
      · cases hb : hasB T 99
        · cases hv : (cond != 0)
          · skip
            have hx : Hid (N.getD 9 true = true) := by show _ = _; rw [← hN.out]; show okN (hasB T 99) false cond = true; rw [hb]; simpa [okN] using hv
            go_wp2_with (go_at_call 47; refine (rhas_c T 99 hS.out _).mono ?_; rw [hb]; rintro e w' ⟨rfl, rfl⟩)
            go_round
            case rel => exact ⟨10, by decide, next_all hn.out hx.out, rfl⟩
            case measure => simp [intOf]
          · skip
            have hy : Hid (C = false) := by
              have hx : N.getD 9 true = false := by rw [← hN.out]; show okN (hasB T 99) false cond = false; rw [hb]; simpa [okN] using hv
              show _ = _; rw [hR.out, all_no hx]; simp
            go_wp2_with (go_at_call 47; refine (rhas_c T 99 hS.out _).mono ?_; rw [hb]; rintro e w' ⟨rfl, rfl⟩)
            go_ret
            exact ⟨ret_bool hy.out.symm, hB.out⟩
        · skip
          have hx : Hid (N.getD 9 true = true) := by show _ = _; rw [← hN.out]; show okN (hasB T 99) false cond = true; rw [hb]; rfl
          go_wp2_with (go_at_call 47; refine (rhas_c T 99 hS.out _).mono ?_; rw [hb]; rintro e w' ⟨rfl, rfl⟩)
          go_round
          case rel => exact ⟨10, by decide, next_all hn.out hx.out, rfl⟩
          case measure => simp [intOf]
      · cases hb : hasB T 121
        · cases hv : (sys != 0)
          · skip
            have hx : Hid (N.getD 10 true = true) := by show _ = _; rw [← hN.out]; show okN (hasB T 121) false sys = true; rw [hb]; simpa [okN] using hv
            go_wp2_with (go_at_call 47; refine (rhas_c T 121 hS.out _).mono ?_; rw [hb]; rintro e w' ⟨rfl, rfl⟩)
            go_round
            case rel => exact ⟨11, by decide, next_all hn.out hx.out, rfl⟩
            case measure => simp [intOf]
          · skip
            have hy : Hid (C = false) := by
              have hx : N.getD 10 true = false := by rw [← hN.out]; show okN (hasB T 121) false sys = false; rw [hb]; simpa [okN] using hv
              show _ = _; rw [hR.out, all_no hx]; simp
            go_wp2_with (go_at_call 47; refine (rhas_c T 121 hS.out _).mono ?_; rw [hb]; rintro e w' ⟨rfl, rfl⟩)
            go_ret
            exact ⟨ret_bool hy.out.symm, hB.out⟩
        · skip
          have hx : Hid (N.getD 10 true = true) := by show _ = _; rw [← hN.out]; show okN (hasB T 121) false sys = true; rw [hb]; rfl
          go_wp2_with (go_at_call 47; refine (rhas_c T 121 hS.out _).mono ?_; rw [hb]; rintro e w' ⟨rfl, rfl⟩)
          go_round
          case rel => exact ⟨11, by decide, next_all hn.out hx.out, rfl⟩
          case measure => simp [intOf]
      · have hall : N.all id = true := all_yes fun j hj => hn.out j (by rw [← hN.out] at hj; exact hj)
        rw [hall] at hR
        clear hn hall hN
        go_wp2_with (go_at_call 47; refine (rhas_c _ _ hS.out _).mono ?_; rintro e w' ⟨rfl, rfl⟩)
        have e0 := new_cell w2 #[.bool flags, .bool minus, .bool not, .bool link] 4 0 (v := .bool flags) rfl
        have e1 := new_cell w2 #[.bool flags, .bool minus, .bool not, .bool link] 4 1 (v := .bool minus) rfl
        have e2 := new_cell w2 #[.bool flags, .bool minus, .bool not, .bool link] 4 2 (v := .bool not) rfl
        have e3 := new_cell w2 #[.bool flags, .bool minus, .bool not, .bool link] 4 3 (v := .bool link) rfl
        have hB2 : Hid (Below w.heap.size w (w2.alloc (.cells #[.bool flags, .bool minus, .bool not, .bool link] 4))) := below_then hB.out (below_alloc _ _)
        generalize w2.alloc _ = w3 at e0 e1 e2 e3 hB2 ⊢
        generalize w2.heap.size = g at *
        clear hB c0 c1 c2 c3 c4 c5 c6 c7 c8 c9 c10 d12 d13 d14 d15
        go_loop [8] (fun z => ∃ k : Nat, k ≤ 4 ∧ Hid (∀ j, j < k → G.getD j true = true) ∧ z = .int .i64 k) (fun z => 4 - (intOf z).toNat)
        case atStart => exact ⟨0, Nat.zero_le _, fun j h => absurd h (Nat.not_lt_zero j), rfl⟩
        case round =>
          obtain ⟨k, hk, hn, rfl⟩ := hrel
          rcases (by omega : k = 0 ∨ k = 1 ∨ k = 2 ∨ k = 3 ∨ k = 4) with rfl | rfl | rfl | rfl | rfl
          · cases hb : hasB T 70
            · cases hv : flags
              · skip
                have hx : Hid (G.getD 0 true = true) := by show _ = _; rw [← hG.out]; show (hasB T 70 || !flags) = true; rw [hb]; first | rfl | (rw [hv]; rfl)
                go_wp2_with (go_at_call 47; refine (rhas_c T 70 hS.out _).mono ?_; rw [hb]; rintro e w' ⟨rfl, rfl⟩)
                go_round
                case rel => exact ⟨1, by decide, next_all hn.out hx.out, rfl⟩
                case measure => simp [intOf]
              · have hy : Hid (C = false) := by
                  have hx : G.getD 0 true = false := by rw [← hG.out]; show (hasB T 70 || !flags) = false; rw [hb, hv]; rfl
                  show _ = _; rw [hR.out, all_no hx]; simp
                go_wp2_with (go_at_call 47; refine (rhas_c T 70 hS.out _).mono ?_; rw [hb]; rintro e w' ⟨rfl, rfl⟩)
                go_ret
                exact ⟨ret_bool hy.out.symm, hB2.out⟩
            · skip
              have hx : Hid (G.getD 0 true = true) := by show _ = _; rw [← hG.out]; show (hasB T 70 || !flags) = true; rw [hb]; first | rfl | (rw [hv]; rfl)
              go_wp2_with (go_at_call 47; refine (rhas_c T 70 hS.out _).mono ?_; rw [hb]; rintro e w' ⟨rfl, rfl⟩)
              go_round
              case rel => exact ⟨1, by decide, next_all hn.out hx.out, rfl⟩
              case measure => simp [intOf]
          · cases hb : hasB T 77
            · cases hv : minus
              · skip
                have hx : Hid (G.getD 1 true = true) := by show _ = _; rw [← hG.out]; show (hasB T 77 || !minus) = true; rw [hb]; first | rfl | (rw [hv]; rfl)
                go_wp2_with (go_at_call 47; refine (rhas_c T 77 hS.out _).mono ?_; rw [hb]; rintro e w' ⟨rfl, rfl⟩)
                go_round
                case rel => exact ⟨2, by decide, next_all hn.out hx.out, rfl⟩
                case measure => simp [intOf]
              · have hy : Hid (C = false) := by
                  have hx : G.getD 1 true = false := by rw [← hG.out]; show (hasB T 77 || !minus) = false; rw [hb, hv]; rfl
                  show _ = _; rw [hR.out, all_no hx]; simp
                go_wp2_with (go_at_call 47; refine (rhas_c T 77 hS.out _).mono ?_; rw [hb]; rintro e w' ⟨rfl, rfl⟩)
                go_ret
                exact ⟨ret_bool hy.out.symm, hB2.out⟩
            · skip
              have hx : Hid (G.getD 1 true = true) := by show _ = _; rw [← hG.out]; show (hasB T 77 || !minus) = true; rw [hb]; first | rfl | (rw [hv]; rfl)
              go_wp2_with (go_at_call 47; refine (rhas_c T 77 hS.out _).mono ?_; rw [hb]; rintro e w' ⟨rfl, rfl⟩)
              go_round
              case rel => exact ⟨2, by decide, next_all hn.out hx.out, rfl⟩
              case measure => simp [intOf]
          · cases hb : hasB T 78
            · cases hv : not
              · skip
                have hx : Hid (G.getD 2 true = true) := by show _ = _; rw [← hG.out]; show (hasB T 78 || !not) = true; rw [hb]; first | rfl | (rw [hv]; rfl)
                go_wp2_with (go_at_call 47; refine (rhas_c T 78 hS.out _).mono ?_; rw [hb]; rintro e w' ⟨rfl, rfl⟩)
                go_round
                case rel => exact ⟨3, by decide, next_all hn.out hx.out, rfl⟩
                case measure => simp [intOf]
              · have hy : Hid (C = false) := by
                  have hx : G.getD 2 true = false := by rw [← hG.out]; show (hasB T 78 || !not) = false; rw [hb, hv]; rfl
                  show _ = _; rw [hR.out, all_no hx]; simp
                go_wp2_with (go_at_call 47; refine (rhas_c T 78 hS.out _).mono ?_; rw [hb]; rintro e w' ⟨rfl, rfl⟩)
                go_ret
                exact ⟨ret_bool hy.out.symm, hB2.out⟩
            · skip
              have hx : Hid (G.getD 2 true = true) := by show _ = _; rw [← hG.out]; show (hasB T 78 || !not) = true; rw [hb]; first | rfl | (rw [hv]; rfl)
              go_wp2_with (go_at_call 47; refine (rhas_c T 78 hS.out _).mono ?_; rw [hb]; rintro e w' ⟨rfl, rfl⟩)
              go_round
              case rel => exact ⟨3, by decide, next_all hn.out hx.out, rfl⟩
              case measure => simp [intOf]
          · cases hb : hasB T 76
            · cases hv : link
              · skip
                have hx : Hid (G.getD 3 true = true) := by show _ = _; rw [← hG.out]; show (hasB T 76 || !link) = true; rw [hb]; first | rfl | (rw [hv]; rfl)
                go_wp2_with (go_at_call 47; refine (rhas_c T 76 hS.out _).mono ?_; rw [hb]; rintro e w' ⟨rfl, rfl⟩)
                go_round
                case rel => exact ⟨4, by decide, next_all hn.out hx.out, rfl⟩
                case measure => simp [intOf]
              · have hy : Hid (C = false) := by
                  have hx : G.getD 3 true = false := by rw [← hG.out]; show (hasB T 76 || !link) = false; rw [hb, hv]; rfl
                  show _ = _; rw [hR.out, all_no hx]; simp
                go_wp2_with (go_at_call 47; refine (rhas_c T 76 hS.out _).mono ?_; rw [hb]; rintro e w' ⟨rfl, rfl⟩)
                go_ret
                exact ⟨ret_bool hy.out.symm, hB2.out⟩
            · skip
              have hx : Hid (G.getD 3 true = true) := by show _ = _; rw [← hG.out]; show (hasB T 76 || !link) = true; rw [hb]; first | rfl | (rw [hv]; rfl)
              go_wp2_with (go_at_call 47; refine (rhas_c T 76 hS.out _).mono ?_; rw [hb]; rintro e w' ⟨rfl, rfl⟩)
              go_round
              case rel => exact ⟨4, by decide, next_all hn.out hx.out, rfl⟩
              case measure => simp [intOf]
          · have hall : G.all id = true := all_yes fun j hj => hn.out j (by rw [← hG.out] at hj; exact hj)
            have hy : Hid (C = true) := by show _ = _; rw [hR.out, hall]; rfl
            go_wp2
            go_ret
            exact ⟨ret_bool hy.out.symm, hB2.out⟩
  · have hy : Hid (C = false) := by show _ = _; rw [hR.out, hE]; rfl
    go_enter Tryz.func21, Tryz.ntmps21
    go_wp2_with (go_at_call 46; refine (shape_c _ _).mono ?_; rintro e w' ⟨rfl, rfl⟩)
    go_ret
    exact ⟨ret_bool hy.out.symm, below_alloc _ _⟩
end Go.Proofs.YtjmdgfimmjodjaaGreatDoor
