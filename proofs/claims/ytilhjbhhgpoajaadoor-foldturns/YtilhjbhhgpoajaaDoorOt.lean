/- FoldTurns: the walk. -/
import Derived.Test.YtilhjbhhgpoajaaDoorWa
import Derived.Test.YtilhjbhhgpoajaaDoorVb
import Derived.Test.YtilhjbhhgpoajaaDoorNt
namespace Go.Proofs.YtilhjbhhgpoajaaDoor
open Go.RowKit
set_option linter.unusedVariables false
set_option linter.unusedSimpArgs false
set_option maxRecDepth 8000

theorem growO {w w' : World} {base : Nat} {v : Value} {n : Nat} {xs : List Value} (h : w.ownsRow base 37 6 v n xs) (hb : Below w.heap.size w w') : w'.ownsRow base 37 6 v n xs :=
  own_of_block h (fun k hk => hb.block k (h.lt k hk).2)
theorem keepR {w x : World} {b : Nat} {cs : Array Value} {t : TypeId} (h : w.heap[b]? = some (.cells cs t)) (hb : Below w.heap.size w x) : x.heap[b]? = some (.cells cs t) := by rw [hb.block b (lt_of_some h)]; exact h
/-- What FoldTurns holds ahead of a go. -/
structure FtW (w : World) (pc words el : Int) (v : Value) (l : List Opr) (b1 ab xb B0 : Nat) (ua : Value) (m : List Opr) (xu : Value) (x : World) : Prop where
  r1 : x.heap[b1]? = some (.cells (blA pc words el v) 25)
  ra : x.heap[ab]? = some (.cells (blA pc words el ua) 25)
  rx : x.heap[xb]? = some (.cells (blA pc words el xu) 25)
  own : x.ownsRow B0 37 6 ua (layAll l).length (opF (layAll l))
  opx : OpsC x xu m
  below : Below w.heap.size w x
  lo : w.heap.size ≤ xb ∧ b1 ≠ xb ∧ ab ≠ xb
section
variable {w x y : World} {pc words el : Int} {v ua xu : Value} {l m : List Opr} {b1 ab xb B0 : Nat}
theorem FtW.grow (h : FtW w pc words el v l b1 ab xb B0 ua m xu x) (hb : Below x.heap.size x y) : FtW w pc words el v l b1 ab xb B0 ua m xu y :=
  ⟨keepR h.r1 hb, keepR h.ra hb, keepR h.rx hb, growO h.own hb, h.opx.grow hb, below_then h.below (Nat.le_refl _) hb, h.lo⟩
theorem FtW.opa (h : FtW w pc words el v l b1 ab xb B0 ua m xu x) (hm : (layAll l).length ≤ maxLen) : OpsC x ua (layAll l) := opsC_of h.own hm
theorem FtW.next (h : FtW w pc words el v l b1 ab xb B0 ua m xu x) {yu : Value} {B : Nat} (hy : x.ownsRow B 37 6 yu (layAll l).length (opF (layAll l))) (hm : (layAll l).length ≤ maxLen) : FtW w pc words el v l b1 ab xb B0 ua (layAll l) yu (x.setRow xb (blA pc words el yu)) := by
  have hk : ∀ {B : Nat} {u : Value}, x.ownsRow B 37 6 u (layAll l).length (opF (layAll l)) → (x.setRow xb (blA pc words el yu)).ownsRow B 37 6 u (layAll l).length (opF (layAll l)) := fun {B u} q => own_of_block q (fun k hk => setRow_other _ _ _ _ (fun e => own_ne h.rx q (by decide) (by rw [hk, e])))
  exact ⟨by rw [setRow_other _ _ _ _ h.lo.2.1]; exact h.r1, by rw [setRow_other _ _ _ _ h.lo.2.2]; exact h.ra, setRow_heap _ _ _ _ _ _ h.rx, hk h.own, opsC_of (hk hy) hm, below_setRow h.below h.lo.1, h.lo⟩
end
section
variable {w : World} {pc words el : Int} {v : Value} {l : List Opr}
set_option maxHeartbeats 16000000 in
theorem turns_walk (hpc : 0 ≤ pc) (O : Ops w v l) (hu : ∀ k, U64 (opAt l k).imm) (hcap : ∀ ao n cap, v = .slice ao n cap → n ≤ cap) (ht : Tab w) : Calls Tryd.prog 3 #[blV pc words el v] w fun e w' => e = .returned (.bool true) ∧ Below w.heap.size w w' := by
  have himm : ∀ k, 0 ≤ (opAt l k).imm := fun k => (hu k).1
  have h1 : v.oneCell' = true := by obtain ⟨_, _, rfl⟩ := O.len; rfl
  have hb := below_alloc w (.cells (blA pc words el v) 25)
  have r1 : (w.alloc (.cells (blA pc words el v) 25)).heap[w.heap.size]? = some (.cells (blA pc words el v) 25) := heap_alloc_new _ _
  have O1 := O.grow hb
  clear O
  replace ht := show Hid _ from ht
  go_enter Tryd.func3, Tryd.ntmps3
  go_upto_region 1 with fail
  generalize w.alloc (.cells (blA pc words el v) 25) = w1 at *
  obtain ⟨b1, hb1⟩ : ∃ b1, b1 = w.heap.size := ⟨_, rfl⟩
  rw [← hb1] at r1 ⊢
  replace hb1 := show Hid _ from hb1
  go_upto_region 2 with (first | (go_at_call 4; (with_reducible refine (examples_c _).mono ?_); rintro e w2 ⟨rfl, B⟩; dsimp only))
  replace hb := below_then hb (Nat.le_refl _) B
  replace r1 := keepR r1 B
  replace O1 := O1.grow B
  clear B
  have kb := block_c_all (words := words) (el := el) hpc O1 hu hcap
  cases hR : rightB pc words el l with
  | false =>
    replace hR := show Hid _ from hR
    go_upto_region 3 with (first | ((with_reducible refine wpList_load_if rfl 25 _ rfl _ rfl 25 _ (0, 0) _ r1 Tryd.underlying25 rfl (bl_inf _ _ _ _) ?_); simp only [Act.put, List.setIfInBounds_toArray, List.set_cons_succ, List.set_cons_zero]) | (go_at_call 5; (with_reducible refine kb.mono ?_); clear kb; rintro e w7 ⟨B, ⟨hr, rfl⟩ | ⟨hr, _⟩⟩; rotate_left; (exfalso; rw [hR.out] at hr; cases hr); dsimp only; clear hr; have Hn := has_none w7) | ((with_reducible refine wpList_store_new Hn rfl 25 _ _ rfl (blA 0 0 0 (.slice none 0 0)) rfl rfl (bl_inf _ _ _ _) (by kernel_rfl) (blk_one _ _ _ _ rfl) ?_); clear Hn; intro w8 Hn; simp only [Act.put, List.setIfInBounds_toArray, List.set_cons_succ, List.set_cons_zero]))
    replace r1 := keepR (keepR r1 B) Hn.below
    replace O1 := (O1.grow B).grow Hn.below
    replace hb := below_then (below_then hb (Nat.le_refl _) B) (Nat.le_refl _) Hn.below
    clear B Hn
    have kr := right_c (words := words) (el := el) hpc O1 himm hcap
    rw [hR.out] at kr
    go_wp2_with (first | ((with_reducible refine wpList_load_if rfl 25 _ rfl _ rfl 25 _ (0, 0) _ r1 Tryd.underlying25 rfl (bl_inf _ _ _ _) ?_); simp only [Act.put, List.setIfInBounds_toArray, List.set_cons_succ, List.set_cons_zero]) | (go_at_call 6; (with_reducible refine kr.mono ?_); clear kr; rintro e w9 ⟨rfl, B⟩; dsimp only; replace hb := below_then hb (Nat.le_refl _) B; clear B))
    go_ret
    exact ⟨rfl, hb⟩
  | true =>
    obtain ⟨rm, hml, hum⟩ := right_layAll hR hu
    have hid := layAll_idem hR hu
    have hl5 : 0 < l.length ∧ l.length ≤ 512 := by
      have := hR
      unfold rightB at this
      rw [Bool.and_eq_true] at this
      exact headB_len this.1
    obtain ⟨h0, h512⟩ := hl5
    have hmm : (layAll l).length ≤ maxLen := by simp only [maxLen]; omega
    replace hR := show Hid _ from hR
    replace rm := show Hid _ from rm
    replace hid := show Hid _ from hid
    replace hmm := show Hid _ from hmm
    go_upto_region 3 with (first | ((with_reducible refine wpList_load_if rfl 25 _ rfl _ rfl 25 _ (0, 0) _ r1 Tryd.underlying25 rfl (bl_inf _ _ _ _) ?_); simp only [Act.put, List.setIfInBounds_toArray, List.set_cons_succ, List.set_cons_zero]) | (go_at_call 5; (with_reducible refine kb.mono ?_); clear kb; rintro e w7 ⟨B, ⟨hr, _⟩ | ⟨hr, ua, rfl, hown⟩⟩; (exfalso; rw [hR.out] at hr; cases hr); dsimp only; clear hr; have Hn := has_none w7; have Ca := opsC_of hown hmm.out) | ((with_reducible refine wpList_store_new Hn rfl 25 _ _ rfl (blA pc words el ua) rfl rfl (bl_inf _ _ _ _) (by kernel_rfl) (blk_one _ _ _ _ Ca.one) ?_); clear Hn; intro w8 Hn; simp only [Act.put, List.setIfInBounds_toArray, List.set_cons_succ, List.set_cons_zero]))
    have ra : w8.heap[w7.heap.size]? = some (.cells (blA pc words el ua) 25) := Hn.get List.mem_cons_self
    replace r1 := keepR (keepR r1 B) Hn.below
    replace O1 := (O1.grow B).grow Hn.below
    replace hb := below_then (below_then hb (Nat.le_refl _) B) (Nat.le_refl _) Hn.below
    have hown2 := growO hown Hn.below
    generalize w7.heap.size = ab at *
    clear B Hn hown
    go_upto_region 5 with fail
    have Hn := has_none w8
    go_upto_region 6 with (first | ((with_reducible refine wpList_load_if rfl 25 _ rfl _ rfl 25 _ (0, 0) _ r1 Tryd.underlying25 rfl (bl_inf _ _ _ _) ?_); simp only [Act.put, List.setIfInBounds_toArray, List.set_cons_succ, List.set_cons_zero]) | ((with_reducible refine wpList_store_new Hn rfl 25 _ _ rfl (blA pc words el v) rfl rfl (bl_inf _ _ _ _) (by kernel_rfl) (blk_one _ _ _ _ h1) ?_); clear Hn; intro w9 Hn; simp only [Act.put, List.setIfInBounds_toArray, List.set_cons_succ, List.set_cons_zero]))
    have X : FtW w pc words el v l b1 ab w8.heap.size w2.heap.size ua l v w9 := ⟨keepR r1 Hn.below, keepR ra Hn.below, Hn.get List.mem_cons_self, growO hown2 Hn.below, ⟨O1.grow Hn.below, hcap, h1⟩, below_then hb (Nat.le_refl _) Hn.below, hb.size, fun e => by have := lt_of_some r1; omega, fun e => by have := lt_of_some ra; omega⟩
    generalize w8.heap.size = xb at *
    generalize w2.heap.size = B0 at *
    clear Hn r1 ra O1 hb Ca hown2
    obtain ⟨bo, bc, rfl⟩ := X.opx.ops.len
    go_upto_region 7 with fail
    go_loopw [7] (fun s7 wr => ∃ (i : Nat) (m : List Opr) (xu : Value), s7 = vI i ∧ Hid ((i = 0 ∧ m = l) ∨ (i = 1 ∧ m = layAll l)) ∧ FtW w pc words el (.slice bo l.length bc) l b1 ab xb B0 ua m xu wr) (fun s7 _ => (2 - intOf s7).toNat)
    case atStart => exact ⟨0, l, _, rfl, .inl ⟨rfl, rfl⟩, X⟩
    case round =>
      clear X
      obtain ⟨i, m, xu, rfl, him, X⟩ := hrel
      have him2 := him.out
      have hi : (i : Int) ≤ (l.length : Int) + 1 := by rcases him2 with ⟨e, _⟩ | ⟨e, _⟩ <;> omega
      have hi1 : i ≤ 1 := by rcases him2 with ⟨e, _⟩ | ⟨e, _⟩ <;> omega
      have hlay : layAll m = layAll l := by rcases him2 with ⟨_, e⟩ | ⟨_, e⟩ <;> rw [e]; exact hid.out
      have hstay : layAll m ≠ m → i = 0 := fun h => by
        rcases him2 with ⟨e, _⟩ | ⟨_, e⟩
        · exact e
        · exact absurd (by rw [e]; exact hid.out) h
      have hrm : rightB pc words el m = true ∧ (layAll l).length ≤ m.length ∧ ∀ k, U64 (opAt m k).imm := by
        rcases him2 with ⟨_, e⟩ | ⟨_, e⟩ <;> rw [e]
        · exact ⟨hR.out, hml, hu⟩
        · exact ⟨rm.out, Nat.le_refl _, hum⟩
      obtain ⟨hr1, hr2, hr3⟩ := hrm
      have z3 : wr.cell? ⟨b1, 3, none⟩ = some (.slice bo l.length bc) := by rw [cell_of_row _ _ _ _ _ _ X.r1]; rfl
      have rx := X.rx
      have ks := step_c_all (words := words) (el := el) hpc X.opx.ops hr3 X.opx.cap
      rw [hlay] at ks hstay
      clear him him2
      replace hr1 := show Hid _ from hr1
      replace hlay := show Hid _ from hlay
      replace hstay := show Hid _ from hstay
      obtain ⟨xo, xc, rfl⟩ := X.opx.ops.len
      go_upto_region 9 with fail
      clear z3 hi
      cases hch : decide (layAll l = m) with
      | true =>
        rw [hch] at ks
        replace hch := show Hid _ from hch
        go_upto_region 10 with (first | ((with_reducible refine wpList_load_if rfl 25 _ rfl _ rfl 25 _ (0, 0) _ rx Tryd.underlying25 rfl (bl_inf _ _ _ _) ?_); simp only [Act.put, List.setIfInBounds_toArray, List.set_cons_succ, List.set_cons_zero]) | (go_at_call 7; (with_reducible refine ks.mono ?_); clear ks; rintro e y7 ⟨B, ⟨hr, _⟩ | ⟨hr, yu, rfl, hown⟩⟩; (exfalso; rw [hr1.out] at hr; cases hr); dsimp only; clear hr; have Hn := has_none y7; have Cy := opsC_of hown hmm.out) | ((with_reducible refine wpList_store_new Hn rfl 25 _ _ rfl (blA pc words el yu) rfl rfl (bl_inf _ _ _ _) (by kernel_rfl) (blk_one _ _ _ _ Cy.one) ?_); clear Hn; intro y8 Hn; simp only [Act.put, List.setIfInBounds_toArray, List.set_cons_succ, List.set_cons_zero]))
        replace X := (X.grow B).grow Hn.below
        have ry : y8.heap[y7.heap.size]? = some (.cells (blA pc words el yu) 25) := Hn.get List.mem_cons_self
        replace Cy := Cy.grow Hn.below
        generalize y7.heap.size = yb at *
        clear rx B Hn hown
        obtain ⟨yo, yc, rfl⟩ := Cy.ops.len
        have zy : y8.cell? ⟨yb, 3, none⟩ = some (.slice yo (layAll l).length yc) := by rw [cell_of_row _ _ _ _ _ _ ry]; rfl
        have zx : y8.cell? ⟨xb, 3, none⟩ = some (.slice xo m.length xc) := by rw [cell_of_row _ _ _ _ _ _ X.rx]; rfl
        have hle2 : ((layAll l).length : Int) ≤ m.length := by omega
        go_upto_region 13 with fail
        clear zy zx hle2 hr2
        have kt := textR_c (words := words) (el := el) hpc Cy.ops hum Cy.cap rm.out (Tab.grow ht.out X.below)
        go_upto_region 14 with (first | ((with_reducible refine wpList_load_if rfl 25 _ rfl _ rfl 25 _ (0, 0) _ ry Tryd.underlying25 rfl (bl_inf _ _ _ _) ?_); simp only [Act.put, List.setIfInBounds_toArray, List.set_cons_succ, List.set_cons_zero]) | (go_at_call 8; (with_reducible refine kt.mono ?_); clear kt; rintro e y9 ⟨rfl, B⟩; dsimp only))
        replace X := X.grow B
        clear ry B Cy
        have ra := X.ra
        have kt := textR_c (words := words) (el := el) hpc (X.opa hmm.out).ops hum (X.opa hmm.out).cap rm.out (Tab.grow ht.out X.below)
        generalize linesS digS digS (layAll l) (layAll l).length = S at *
        go_upto_region 15 with (first | ((with_reducible refine wpList_load_if rfl 25 _ rfl _ rfl 25 _ (0, 0) _ ra Tryd.underlying25 rfl (bl_inf _ _ _ _) ?_); simp only [Act.put, List.setIfInBounds_toArray, List.set_cons_succ, List.set_cons_zero]) | (go_at_call 8; (with_reducible refine kt.mono ?_); clear kt; rintro e z9 ⟨rfl, B⟩; dsimp only))
        replace X := X.grow B
        have hB := X.below
        clear X ra B
        go_wp2
        go_ret
        exact ⟨by first | rfl | simp, hB⟩
      | false =>
        rw [hch] at ks
        have hi0 : i = 0 := hstay.out (of_decide_eq_false hch)
        replace hch := show Hid _ from hch
        go_upto_region 10 with (first | ((with_reducible refine wpList_load_if rfl 25 _ rfl _ rfl 25 _ (0, 0) _ rx Tryd.underlying25 rfl (bl_inf _ _ _ _) ?_); simp only [Act.put, List.setIfInBounds_toArray, List.set_cons_succ, List.set_cons_zero]) | (go_at_call 7; (with_reducible refine ks.mono ?_); clear ks; rintro e y7 ⟨B, ⟨hr, _⟩ | ⟨hr, yu, rfl, hown⟩⟩; (exfalso; rw [hr1.out] at hr; cases hr); dsimp only; clear hr; have Hn := has_none y7; have Cy := opsC_of hown hmm.out) | ((with_reducible refine wpList_store_new Hn rfl 25 _ _ rfl (blA pc words el yu) rfl rfl (bl_inf _ _ _ _) (by kernel_rfl) (blk_one _ _ _ _ Cy.one) ?_); clear Hn; intro y8 Hn; simp only [Act.put, List.setIfInBounds_toArray, List.set_cons_succ, List.set_cons_zero]))
        replace X := (X.grow B).grow Hn.below
        have ry : y8.heap[y7.heap.size]? = some (.cells (blA pc words el yu) 25) := Hn.get List.mem_cons_self
        have hown2 := growO hown Hn.below
        generalize y7.heap.size = yb at *
        clear rx B Hn Cy hown
        have Cy := opsC_of hown2 hmm.out
        obtain ⟨yo, yc, rfl⟩ := Cy.ops.len
        have zy : y8.cell? ⟨yb, 3, none⟩ = some (.slice yo (layAll l).length yc) := by rw [cell_of_row _ _ _ _ _ _ ry]; rfl
        have zx : y8.cell? ⟨xb, 3, none⟩ = some (.slice xo m.length xc) := by rw [cell_of_row _ _ _ _ _ _ X.rx]; rfl
        have hle2 : ((layAll l).length : Int) ≤ m.length := by omega
        go_upto_region 16 with fail
        clear zy zx hle2 hr2
        have rx := X.rx
        have hone := Cy.one
        have X9 := X.next hown2 hmm.out
        go_wp2_with (first | ((with_reducible refine wpList_load_if rfl 25 _ rfl _ rfl 25 _ (0, 0) _ ry Tryd.underlying25 rfl (bl_inf _ _ _ _) ?_); simp only [Act.put, List.setIfInBounds_toArray, List.set_cons_succ, List.set_cons_zero]) | ((with_reducible refine wpList_store_row rfl 25 _ _ rfl xb (blA pc words el (.slice yo (layAll l).length yc)) rfl rfl 25 _ rx (bl_inf _ _ _ _) rfl (blk_one _ _ _ _ hone) ?_); simp only [Act.put, List.setIfInBounds_toArray, List.set_cons_succ, List.set_cons_zero]))
        go_roundw
        case rel => exact ⟨i + 1, layAll l, _, by go_num, .inr ⟨by omega, rfl⟩, X9⟩
        case measure => simp [intOf]; try omega
end
end Go.Proofs.YtilhjbhhgpoajaaDoor
