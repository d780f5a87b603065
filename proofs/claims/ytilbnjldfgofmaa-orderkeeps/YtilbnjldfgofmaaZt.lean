/- A block's operations as items. -/
import Derived.Test.YtilbnjldfgofmaaZs
namespace Go.Proofs.Ytilbnjldfgofmaa
open Go.RowKit
set_option linter.unusedVariables false
set_option linter.unusedSimpArgs false
set_option maxRecDepth 8000

theorem keepR {w x : World} {b : Nat} {cs : Array Value} {t : TypeId} (h : w.heap[b]? = some (.cells cs t)) (hb : Below w.heap.size w x) : x.heap[b]? = some (.cells cs t) := by rw [hb.block b (lt_of_some h)]; exact h
theorem lt_self {pc words el : Int} {l : List Opr} (h : rightB pc words el l = true) {k : Nat} (hk : k < l.length) : (opAt l k).a.toNat ≤ k ∧ (opAt l k).b.toNat ≤ k := by
  have ok := right_at h hk
  constructor
  · cases hA : hasP (opAt l k).kind 2
    · rw [noA ok hA]; exact Nat.zero_le _
    · exact Nat.le_of_lt (use_lt h hk (uses_a hA)).2.1
  · cases hB : hasP (opAt l k).kind 4
    · rw [noB ok hB]; exact Nat.zero_le _
    · exact Nat.le_of_lt (use_lt h hk (uses_b hB)).2.1
/-- A node whose values are not told yet. -/
def rawA (o : Opr) (va vb : Value) : Array Value := #[vI o.kind, vI o.r, vI o.a, vI o.b, vI o.order, vU o.imm, va, vb, vI 0]
/-- While the list is made: the first ones. -/
structure LiI (w : World) (p g n : Nat) (ids : List Nat) (l : List Opr) (W : World) : Prop where
  box : W.heap[p]? = some (.cells #[.slice (some ⟨g, 0, none⟩) n n] 65)
  row : W.heap[g]? = some (.cells (roA ids (List.replicate (n - ids.length) (.pointer none))) 62)
  nd : ids.Nodup
  node : ∀ k, k < ids.length → ∃ d, NdAt W (idAt ids k) d ∧ Fits ids (opAt l k) d
  low : Below w.heap.size w W
  old : w.heap.size ≤ p ∧ w.heap.size ≤ g ∧ ∀ i ∈ ids, w.heap.size ≤ i
theorem LiI.grow {w W W' : World} {p g n : Nat} {ids : List Nat} {l : List Opr} (h : LiI w p g n ids l W) (hb : Below W.heap.size W W') : LiI w p g n ids l W' :=
  ⟨by rw [hb.block _ (lt_of_some h.box)]; exact h.box, by rw [hb.block _ (lt_of_some h.row)]; exact h.row, h.nd, fun k hk => by obtain ⟨d, nd, f⟩ := h.node k hk; exact ⟨d, nd.grow hb, f⟩, below_then h.low (Nat.le_refl _) hb, h.old⟩
theorem made_nilP (n : Nat) : madeCells #[.pointer none] n = roA [] (List.replicate n (.pointer none)) := by
  apply Array.ext
  · simp [madeCells, roA]
  · intro i h1 h2
    simp [madeCells, roA]
    rw [Nat.mod_one]
    rfl
theorem run_mkP (w : World) (n : Nat) (hn : n ≤ 512) : (Instr.makeSlice 63 (vI n) (vI n)).run Try.prog w = .ok (.slice (some ⟨w.heap.size, 0, none⟩) n n) (w.alloc (.cells (roA [] (List.replicate n (.pointer none))) 62)) := by
  obtain ⟨i, h1, h2, h3, h4⟩ := info_parts infoP
  have hr := run_makeSlice (P := Try.prog) w 63 62 i (.pointer none) Try.underlying63 h1 h2 .i64 .i64 n n (by omega) (by omega) (by rw [h3, Int.toNat_natCast]; omega) (by rw [h4]; omega) (by omega)
  rw [Int.toNat_natCast, h3, Nat.mul_one] at hr
  rw [← made_nilP]
  exact hr
theorem wpList_mkP {ops : Array Oper} {rest : List Oper} {o : Oper} {a : Act} {w : World} {Q : Exit → Act → World → Prop} (hg : o.guard = none) (x : Operand) (ho : o.op = .makeSlice 63 x x) {n : Nat} (hn : n ≤ 512) (hx : a.eval x = vI n)
    (h : wpList Try.prog ops Q rest (a.put o.dst (.slice (some ⟨w.heap.size, 0, none⟩) n n)) (w.alloc (.cells (roA [] (List.replicate n (.pointer none))) 62))) : wpList Try.prog ops Q (o :: rest) a w :=
  wpList_plain hg fun _ hK => by
    unfold Oper.wp execOp
    simp only [ho, hx, Sem.run_bind, Sem.run_pure, run_mkP w n hn, Result.andThen_ok]
    exact hK _ _ h
theorem roA_snoc {ids : List Nat} {n : Nat} (id : Nat) (h : ids.length < n) : (roA ids (List.replicate (n - ids.length) (.pointer none))).setIfInBounds ids.length (ptr id 0) = roA (ids ++ [id]) (List.replicate (n - (ids ++ [id]).length) (.pointer none)) := by
  unfold roA
  rw [List.setIfInBounds_toArray]
  congr 1
  rw [List.set_append_right _ _ (by simp)]
  obtain ⟨k, hk⟩ : ∃ k, n - ids.length = k + 1 := ⟨n - ids.length - 1, by omega⟩
  rw [hk, List.length_append, List.length_singleton, show n - (ids.length + 1) = k by omega, List.replicate_succ, List.length_map, Nat.sub_self, List.set_cons_zero, List.map_append, List.append_assoc]
  rfl
theorem roA_nil {ids : List Nat} {n : Nat} (h : ids.length < n) : (roA ids (List.replicate (n - ids.length) (.pointer none)))[ids.length]? = some (.pointer none) := by
  unfold roA
  simp only [List.getElem?_toArray]
  rw [List.getElem?_append_right (by simp), List.length_map, Nat.sub_self, List.getElem?_replicate, if_pos (by omega)]
/-- While a node's values are told. -/
structure LiC (w6 : World) (p g n : Nat) (ids' : List Nat) (R : List Value) (tb : Nat) (o : Opr) (id ia ib : Nat) (j : Nat) (x : World) : Prop where
  box : x.heap[p]? = some (.cells #[.slice (some ⟨g, 0, none⟩) n n] 65)
  row : x.heap[g]? = some (.cells (roA ids' R) 62)
  loc : LocO tb o x
  nod : x.heap[id]? = some (.cells (rawA o (if 0 < j then ptr ia 0 else .pointer none) (if 1 < j then ptr ib 0 else .pointer none)) 67)
  goes : Goes (fun b => b = id) w6 x
section
variable {w6 x : World} {p g n tb id ia ib j : Nat} {ids' : List Nat} {R : List Value} {o : Opr}
theorem LiC.boxc (h : LiC w6 p g n ids' R tb o id ia ib j x) : x.cell? ⟨p, 0, none⟩ = some (.slice (some ⟨g, 0, none⟩) n n) := Boxed.cell h.box
theorem LiC.at_ (h : LiC w6 p g n ids' R tb o id ia ib j x) {k : Nat} (hk : k < ids'.length) : x.cell? ⟨g, k, none⟩ = some (ptr (idAt ids' k) 0) := by rw [cell_of_row _ _ _ _ _ _ h.row]; exact roA_get hk
theorem LiC.oa (h : LiC w6 p g n ids' R tb o id ia ib j x) {k : Nat} (e : o.a = k) : x.cell? ⟨tb, 2, none⟩ = some (vI k) := by rw [h.loc.c2, e]
theorem LiC.ob (h : LiC w6 p g n ids' R tb o id ia ib j x) {k : Nat} (e : o.b = k) : x.cell? ⟨tb, 3, none⟩ = some (vI k) := by rw [h.loc.c3, e]
theorem LiC.n6 (h : LiC w6 p g n ids' R tb o id ia ib j x) : x.cell? ⟨id, 6, none⟩ = some (if 0 < j then ptr ia 0 else .pointer none) := by rw [cell_of_row _ _ _ _ _ _ h.nod]; rfl
theorem LiC.n7 (h : LiC w6 p g n ids' R tb o id ia ib j x) : x.cell? ⟨id, 7, none⟩ = some (if 1 < j then ptr ib 0 else .pointer none) := by rw [cell_of_row _ _ _ _ _ _ h.nod]; rfl
theorem LiC.fr (h : LiC w6 p g n ids' R tb o id ia ib j x) (k : Nat) : x.frozen? ⟨id, k, none⟩ = false := frozen_of_row _ _ _ _ _ h.nod
theorem LiC.set6 (h : LiC w6 p g n ids' R tb o id ia ib 0 x) (hp : id ≠ p) (hg : id ≠ g) (ht : id ≠ tb) : LiC w6 p g n ids' R tb o id ia ib 1 (x.setCell ⟨id, 6, none⟩ (ptr ia 0)) := by
  have hb : ∀ b, id ≠ b → (x.setCell ⟨id, 6, none⟩ (ptr ia 0)).heap[b]? = x.heap[b]? := fun b hb => Below.heap_setCell _ _ _ _ (fun e => hb (by have e : b = id := e; exact e.symm))
  exact ⟨(hb _ hp).trans h.box, (hb _ hg).trans h.row, (hb _ ht).trans h.loc, heap_setCell_same x id 6 _ 67 _ h.nod, h.goes.trans (goes_setCell (F := fun b => b = id) x rfl 6 _) (fun _ _ q => q)⟩
theorem LiC.set7 (h : LiC w6 p g n ids' R tb o id ia ib 1 x) (hp : id ≠ p) (hg : id ≠ g) (ht : id ≠ tb) : LiC w6 p g n ids' R tb o id ia ib 2 (x.setCell ⟨id, 7, none⟩ (ptr ib 0)) := by
  have hb : ∀ b, id ≠ b → (x.setCell ⟨id, 7, none⟩ (ptr ib 0)).heap[b]? = x.heap[b]? := fun b hb => Below.heap_setCell _ _ _ _ (fun e => hb (by have e : b = id := e; exact e.symm))
  exact ⟨(hb _ hp).trans h.box, (hb _ hg).trans h.row, (hb _ ht).trans h.loc, heap_setCell_same x id 7 _ 67 _ h.nod, h.goes.trans (goes_setCell (F := fun b => b = id) x rfl 7 _) (fun _ _ q => q)⟩
end
theorem it_inf (o : Opr) (va vb : Value) : (Try.prog.info? 67).map (·.size) = some (rawA o va vb).size := by
  show (Try.prog.info? 67).map (·.size) = some 9
  kernel_rfl
section
variable {pc words el : Int} {l : List Opr} {w : World} {v : Value}
set_option maxHeartbeats 4000000 in
theorem listOf_c (h : rightB pc words el l = true) (O : Ops w v l) :
    Calls Try.prog 36 #[v] w fun e w' => ∃ p g ids, e = .returned (ptr p 0) ∧ LG w' p g l.length ids l ∧ Below w.heap.size w w' ∧ w.heap.size ≤ p ∧ w.heap.size ≤ g ∧ ∀ i ∈ ids, w.heap.size ≤ i := by
  obtain ⟨h0, h512, -⟩ := right_lens h
  obtain ⟨ra, cap, rfl, hc⟩ := O.cell h0
  have hb1 := below_alloc w (.cells (roA [] (List.replicate l.length (.pointer none))) 62)
  have r1 : (w.alloc (.cells (roA [] (List.replicate l.length (.pointer none))) 62)).heap[w.heap.size]? = some (.cells (roA [] (List.replicate l.length (.pointer none))) 62) := heap_alloc_new _ _
  go_enter Try.func36, Try.ntmps36
  go_upto_region 2 with (first | ((with_reducible refine wpList_mkP rfl _ rfl h512 rfl ?_); simp only [Act.put, List.setIfInBounds_toArray, List.set_cons_succ, List.set_cons_zero]) | ((with_reducible refine wpList_built rfl 65 _ rfl #[.slice (some ⟨w.heap.size, 0, none⟩) l.length l.length] (by kernel_rfl) ?_); simp only [Act.put, List.setIfInBounds_toArray, List.set_cons_succ, List.set_cons_zero]))
  have hb2 := below_alloc (w.alloc (.cells (roA [] (List.replicate l.length (.pointer none))) 62)) (.cells #[.slice (some ⟨w.heap.size, 0, none⟩) l.length l.length] 65)
  have r2 := Boxed.new (w.alloc (.cells (roA [] (List.replicate l.length (.pointer none))) 62)) 65 (.slice (some ⟨w.heap.size, 0, none⟩) l.length l.length)
  rw [World.size_alloc] at r2
  have hlow := below_then hb1 (Nat.le_refl _) hb2
  have r1' := keepR r1 hb2
  generalize (w.alloc (.cells (roA [] (List.replicate l.length (.pointer none))) 62)).alloc (.cells #[.slice (some ⟨w.heap.size, 0, none⟩) l.length l.length] 65) = w1 at *
  clear hb1 hb2 r1 hc
  obtain ⟨g, hg⟩ : ∃ g, g = w.heap.size := ⟨_, rfl⟩
  obtain ⟨p, hp⟩ : ∃ p, p = w.heap.size + 1 := ⟨_, rfl⟩
  rw [← hp] at r2 ⊢
  rw [← hg] at r1' r2 ⊢
  have hI : LiI w p g l.length [] l w1 := ⟨r2, r1', List.nodup_nil, fun k hk => absurd hk (by simp), hlow, by omega, by omega, fun i hi => by cases hi⟩
  have hgp : g ≠ p := by omega
  clear r2 r1' hlow hg hp
  go_upto_region 3 with fail
  go_loopw [14] (fun s14 wr => ∃ ids : List Nat, s14 = vI ids.length ∧ ids.length ≤ l.length ∧ LiI w p g l.length ids l wr) (fun s14 _ => ((l.length : Int) - intOf s14).toNat)
  case atStart => exact ⟨[], rfl, Nat.zero_le _, hI⟩
  case round =>
    clear hI
    obtain ⟨ids, rfl, hk, I⟩ := hrel
    by_cases hlt : (ids.length : Int) < l.length
    · have hkl : ids.length < l.length := by omega
      have O3 := O.grow I.low
      obtain ⟨ra', cap', e', hc⟩ := O3.cell h0
      cases e'
      have A := hc ids.length (opAt l ids.length) (opAt_some hkl)
      clear hc O3
      have c0 := A.c0
      have c1 := A.c1
      have c2 := A.c2
      have c3 := A.c3
      have c4 := A.c4
      have c5 := A.c5
      go_upto_region 5 with ((with_reducible refine wpList_load42 rfl _ rfl _ rfl _ A ?_); simp only [Act.put, List.setIfInBounds_toArray, List.set_cons_succ, List.set_cons_zero])
      have hb4 := below_alloc wr (.cells (opA (opAt l ids.length)) 40)
      have L4 := LocO.new wr (opAt l ids.length)
      have I4 := I.grow hb4
      clear A c0 c1 c2 c3 c4 c5 hb4 I
      change Code.wp Try.prog _ _ _ (wr.alloc (.cells (opA (opAt l ids.length)) 40))
      generalize wr.alloc (.cells (opA (opAt l ids.length)) 40) = w4 at *
      generalize wr.heap.size = tb at *
      clear wr
      obtain ⟨m, hm⟩ : ∃ m, m = ids.length := ⟨_, rfl⟩
      have hab := ab_lt h hkl
      have hua : (opAt l ids.length).a.toNat ≤ ids.length ∧ (opAt l ids.length).b.toNat ≤ ids.length := lt_self h hkl
      obtain ⟨o, ho⟩ : ∃ o, o = opAt l ids.length := ⟨_, rfl⟩
      rw [← ho] at L4 hab hua
      simp only [← ho, ← hm]
      rw [← hm] at hua hlt
      replace hm : Hid (m = ids.length) := hm
      replace ho : Hid (o = opAt l ids.length) := ho
      have L5 := L4
      go_upto_region 6 with (first | ((with_reducible refine wpList_load42 rfl _ rfl _ rfl _ L5.at_ ?_); simp only [Act.put, List.setIfInBounds_toArray, List.set_cons_succ, List.set_cons_zero]) | ((with_reducible refine wpList_built rfl 67 _ rfl (rawA o (.pointer none) (.pointer none)) (by kernel_rfl) ?_); simp only [Act.put, List.setIfInBounds_toArray, List.set_cons_succ, List.set_cons_zero]))
      have hb5 := below_alloc w4 (.cells (rawA o (.pointer none) (.pointer none)) 67)
      have r5 : (w4.alloc (.cells (rawA o (.pointer none) (.pointer none)) 67)).heap[w4.heap.size]? = some (.cells (rawA o (.pointer none) (.pointer none)) 67) := heap_alloc_new _ _
      have I5 := I4.grow hb5
      replace L5 := L5.grow hb5
      have hidn : ∀ i ∈ ids, i ≠ w4.heap.size := fun i hi e => by
        obtain ⟨k, hk⟩ := List.getElem?_of_mem hi
        have hkl : k < ids.length := (List.getElem?_eq_some_iff.1 hk).1
        obtain ⟨d, nd, -⟩ := I4.node k hkl
        have e2 : idAt ids k = i := by rw [idAt_some hkl] at hk; exact Option.some.inj hk
        have := nd.lt
        omega
      have hid : w.heap.size ≤ w4.heap.size := I4.low.size
      have hidg : w4.heap.size ≠ g := fun e => by have := lt_of_some I4.row; omega
      have hidp : w4.heap.size ≠ p := fun e => by have := lt_of_some I4.box; omega
      have hidt : w4.heap.size ≠ tb := fun e => by have := L4.lt; omega
      clear I4 L4 hb5
      generalize w4.alloc (.cells (rawA o (.pointer none) (.pointer none)) 67) = w5 at *
      generalize w4.heap.size = id at *
      clear w4
      have hrow : w5.heap[g]? = some (.cells (roA ids (List.replicate (l.length - ids.length) (.pointer none))) 62) := I5.row
      have hset := roA_snoc (ids := ids) (n := l.length) id (by have := hm.out; omega)
      have y1 : w5.cell? ⟨p, 0, none⟩ = some (.slice (some ⟨g, 0, none⟩) l.length l.length) := Boxed.cell I5.box
      have y2 : w5.cell? ⟨g, m, none⟩ = some (.pointer none) := by
        rw [cell_of_row _ _ _ _ _ _ hrow, hm.out]
        exact roA_nil (by have := hm.out; omega)
      have y3 := frozen_of_row w5 g m _ _ hrow
      have hg6 := goes_setCell (F := fun b => b = g) w5 (b := g) rfl m (ptr id 0)
      have row6 : (w5.setCell ⟨g, m, none⟩ (ptr id 0)).heap[g]? = some (.cells (roA (ids ++ [id]) (List.replicate (l.length - (ids ++ [id]).length) (.pointer none))) 62) := by
        rw [heap_setCell_same w5 g m _ 62 _ hrow, hm.out, hset]
      have box6 : (w5.setCell ⟨g, m, none⟩ (ptr id 0)).heap[p]? = some (.cells #[.slice (some ⟨g, 0, none⟩) l.length l.length] 65) := (hg6.block p (lt_of_some I5.box) (fun e => hgp e.symm)).trans I5.box
      have r6 : (w5.setCell ⟨g, m, none⟩ (ptr id 0)).heap[id]? = some (.cells (rawA o (.pointer none) (.pointer none)) 67) := (hg6.block id (lt_of_some r5) hidg).trans r5
      have L6 : LocO tb o (w5.setCell ⟨g, m, none⟩ (ptr id 0)) := (hg6.block tb L5.lt (fun e => by
        have e2 : w5.heap[g]? = some (.cells (opA o) 40) := by rw [← e]; exact L5
        exact ne_of_type e2 hrow (by decide) rfl)).trans L5
      go_upto_region 7 with fail
      generalize w5.setCell ⟨g, m, none⟩ (ptr id 0) = w6 at *
      clear y1 y2 y3 r5 L5 hset
      have hml : m ≤ l.length := by omega
      obtain ⟨ids', hids'⟩ : ∃ ids', ids' = ids ++ [id] := ⟨_, rfl⟩
      have hlen' : ids'.length = m + 1 := by rw [hids', List.length_append, List.length_singleton, hm.out]
      rw [← hids'] at row6
      have hst : LiC w6 p g l.length ids' (List.replicate (l.length - ids'.length) (.pointer none)) tb o id (idAt ids' o.a.toNat) (idAt ids' o.b.toNat) 0 { w6 with drawn := w6.drawn + 1 } := ⟨box6, row6, L6, r6, goes_of_below (below_dr w6)⟩
      obtain ⟨ia, hia⟩ : ∃ ia : Nat, o.a = ia := ⟨o.a.toNat, by omega⟩
      obtain ⟨ib, hib⟩ : ∃ ib : Nat, o.b = ib := ⟨o.b.toNat, by omega⟩
      have hia2 : ia < ids'.length := by omega
      have hib2 : ib < ids'.length := by omega
      have hia3 : (ia : Int) < l.length := by omega
      have hib3 : (ib : Int) < l.length := by omega
      have hlen2 : ids'.length ≤ l.length := by omega
      rw [hia, hib, Int.toNat_natCast, Int.toNat_natCast] at hst
      replace hia : Hid (o.a = ia) := hia
      replace hib : Hid (o.b = ib) := hib
      replace hids' : Hid (ids' = ids ++ [id]) := hids'
      replace hlen' : Hid (ids'.length = m + 1) := hlen'
      refine Chn.wp_region_chainL (LiC w6 p g l.length ids' (List.replicate (l.length - ids'.length) (.pointer none)) tb o id (idAt ids' ia) (idAt ids' ib)) [20, 23] [2, 2, 2, 2, 2, 2, 2, 2, 2, 2, 2, 2, 2, 2, 2, 2, 2, 2, 2, 2, 2, 2, 2, 2] [ptr id 0, ptr id 0, ptr p 0, ptr p 0, ptr p 0, .slice (some ⟨g, 0, none⟩) l.length l.length, ptr tb 2, vI ia, ptr g ia, ptr (idAt ids' ia) 0, ptr p 0, ptr p 0, ptr p 0, .slice (some ⟨g, 0, none⟩) l.length l.length, ptr tb 3, vI ib, ptr g ib, ptr (idAt ids' ib) 0, ptr id 0, ptr id 6, undef, ptr id 0, ptr id 7, undef] (by kernel_rfl) (by kernel_rfl) (by kernel_rfl) (by kernel_rfl) (by kernel_rfl) hst ?_
      clear hst
      refine ⟨fun j x hj hC => by
        exact Chn.upon_pure hC (fun F hF => by (go_simp <;> exact hF)), ?_⟩
      simp only [Act.put, List.setIfInBounds_toArray, List.set_cons_succ, List.set_cons_zero]
      refine ⟨fun j x hj hC => by
        exact Chn.upon_pure hC (fun F hF => by (go_simp <;> exact hF)), ?_⟩
      simp only [Act.put, List.setIfInBounds_toArray, List.set_cons_succ, List.set_cons_zero]
      refine ⟨fun j x hj hC => by
        exact Chn.upon_pure hC (fun F hF => by (go_simp <;> exact hF)), ?_⟩
      simp only [Act.put, List.setIfInBounds_toArray, List.set_cons_succ, List.set_cons_zero]
      refine ⟨fun j x hj hC => by
        exact Chn.upon_pure hC (fun F hF => by (go_simp <;> exact hF)), ?_⟩
      simp only [Act.put, List.setIfInBounds_toArray, List.set_cons_succ, List.set_cons_zero]
      refine ⟨fun j x hj hC => by
        exact Chn.upon_pure hC (fun F hF => by (go_simp <;> exact hF)), ?_⟩
      simp only [Act.put, List.setIfInBounds_toArray, List.set_cons_succ, List.set_cons_zero]
      refine ⟨fun j x hj hC => by
        have zz := hC.boxc
        exact Chn.upon_pure hC (fun F hF => by (go_simp <;> exact hF)), ?_⟩
      simp only [Act.put, List.setIfInBounds_toArray, List.set_cons_succ, List.set_cons_zero]
      refine ⟨fun j x hj hC => by
        exact Chn.upon_pure hC (fun F hF => by (go_simp <;> exact hF)), ?_⟩
      simp only [Act.put, List.setIfInBounds_toArray, List.set_cons_succ, List.set_cons_zero]
      refine ⟨fun j x hj hC => by
        have zz := hC.oa hia.out
        exact Chn.upon_pure hC (fun F hF => by (go_simp <;> exact hF)), ?_⟩
      simp only [Act.put, List.setIfInBounds_toArray, List.set_cons_succ, List.set_cons_zero]
      refine ⟨fun j x hj hC => by
        exact Chn.upon_pure hC (fun F hF => by (go_simp <;> exact hF)), ?_⟩
      simp only [Act.put, List.setIfInBounds_toArray, List.set_cons_succ, List.set_cons_zero]
      refine ⟨fun j x hj hC => by
        have zz := hC.at_ hia2
        exact Chn.upon_pure hC (fun F hF => by (go_simp <;> exact hF)), ?_⟩
      simp only [Act.put, List.setIfInBounds_toArray, List.set_cons_succ, List.set_cons_zero]
      refine ⟨fun j x hj hC => by
        exact Chn.upon_pure hC (fun F hF => by (go_simp <;> exact hF)), ?_⟩
      simp only [Act.put, List.setIfInBounds_toArray, List.set_cons_succ, List.set_cons_zero]
      refine ⟨fun j x hj hC => by
        exact Chn.upon_pure hC (fun F hF => by (go_simp <;> exact hF)), ?_⟩
      simp only [Act.put, List.setIfInBounds_toArray, List.set_cons_succ, List.set_cons_zero]
      refine ⟨fun j x hj hC => by
        exact Chn.upon_pure hC (fun F hF => by (go_simp <;> exact hF)), ?_⟩
      simp only [Act.put, List.setIfInBounds_toArray, List.set_cons_succ, List.set_cons_zero]
      refine ⟨fun j x hj hC => by
        have zz := hC.boxc
        exact Chn.upon_pure hC (fun F hF => by (go_simp <;> exact hF)), ?_⟩
      simp only [Act.put, List.setIfInBounds_toArray, List.set_cons_succ, List.set_cons_zero]
      refine ⟨fun j x hj hC => by
        exact Chn.upon_pure hC (fun F hF => by (go_simp <;> exact hF)), ?_⟩
      simp only [Act.put, List.setIfInBounds_toArray, List.set_cons_succ, List.set_cons_zero]
      refine ⟨fun j x hj hC => by
        have zz := hC.ob hib.out
        exact Chn.upon_pure hC (fun F hF => by (go_simp <;> exact hF)), ?_⟩
      simp only [Act.put, List.setIfInBounds_toArray, List.set_cons_succ, List.set_cons_zero]
      refine ⟨fun j x hj hC => by
        exact Chn.upon_pure hC (fun F hF => by (go_simp <;> exact hF)), ?_⟩
      simp only [Act.put, List.setIfInBounds_toArray, List.set_cons_succ, List.set_cons_zero]
      refine ⟨fun j x hj hC => by
        have zz := hC.at_ hib2
        exact Chn.upon_pure hC (fun F hF => by (go_simp <;> exact hF)), ?_⟩
      simp only [Act.put, List.setIfInBounds_toArray, List.set_cons_succ, List.set_cons_zero]
      refine ⟨fun j x hj hC => by
        exact Chn.upon_pure hC (fun F hF => by (go_simp <;> exact hF)), ?_⟩
      simp only [Act.put, List.setIfInBounds_toArray, List.set_cons_succ, List.set_cons_zero]
      refine ⟨fun j x hj hC => by
        exact Chn.upon_pure hC (fun F hF => by (go_simp <;> exact hF)), ?_⟩
      simp only [Act.put, List.setIfInBounds_toArray, List.set_cons_succ, List.set_cons_zero]
      refine ⟨fun x hC => by
        have z := hC.n6
        have f := hC.fr 6
        have hn := hC.set6 hidp hidg hidt
        go_simp, ?_⟩
      simp only [Act.put, List.setIfInBounds_toArray, List.set_cons_succ, List.set_cons_zero]
      refine ⟨fun j x hj hC => by
        exact Chn.upon_pure hC (fun F hF => by (go_simp <;> exact hF)), ?_⟩
      simp only [Act.put, List.setIfInBounds_toArray, List.set_cons_succ, List.set_cons_zero]
      refine ⟨fun j x hj hC => by
        exact Chn.upon_pure hC (fun F hF => by (go_simp <;> exact hF)), ?_⟩
      simp only [Act.put, List.setIfInBounds_toArray, List.set_cons_succ, List.set_cons_zero]
      refine ⟨fun x hC => by
        have z := hC.n7
        have f := hC.fr 7
        have hn := hC.set7 hidp hidg hidt
        go_simp, ?_⟩
      simp only [Act.put, List.setIfInBounds_toArray, List.set_cons_succ, List.set_cons_zero]
      intro w7 hC
      have hnew : LiI w p g l.length ids' l w7 := by
        have hml2 := hm.out
        have hne : ∀ k, k < ids.length → idAt ids' k = idAt ids k := fun k hk => by
          rw [hids'.out]
          unfold idAt
          rw [List.getD_eq_getElem?_getD, List.getElem?_append_left hk, List.getD_eq_getElem?_getD]
        have hlast : idAt ids' m = id := by
          rw [hids'.out, hm.out]
          unfold idAt
          rw [List.getD_eq_getElem?_getD, List.getElem?_append_right (Nat.le_refl _)]
          simp
        have hB6 : Below w.heap.size w w6 := I5.low.trans (hg6.below I5.low.size (fun b e => by subst e; exact I5.old.2.1))
        refine ⟨hC.box, hC.row, ?_, fun k hk2 => ?_, hB6.trans (hC.goes.below hB6.size (fun b e => by subst e; exact hid)), I5.old.1, I5.old.2.1, fun i hi => ?_⟩
        · rw [hids'.out, List.nodup_append]
          refine ⟨I5.nd, List.pairwise_singleton _ _, fun a ha b hb => ?_⟩
          rw [List.mem_singleton] at hb
          rw [hb]; exact hidn a ha
        · rcases Nat.lt_or_ge k ids.length with q | q
          · obtain ⟨d, nd, fd⟩ := I5.node k q
            have hki : idAt ids k ∈ ids := idAt_mem q
            have e6 : w6.heap[idAt ids k]? = w5.heap[idAt ids k]? := hg6.block _ nd.lt (fun e => by rw [e] at nd; exact ne_of_type nd hrow (by decide) rfl)
            have l6 : idAt ids k < w6.heap.size := Nat.lt_of_lt_of_le nd.lt hg6.size
            have e7 : w7.heap[idAt ids k]? = w6.heap[idAt ids k]? := hC.goes.block _ l6 (fun e => hidn _ hki e)
            have hs := lt_self h (show k < l.length by omega)
            refine ⟨d, by rw [hne k q]; unfold NdAt; rw [e7, e6]; exact nd, fd.kind, fd.r, fd.order, fd.imm, ?_, ?_⟩
            · rw [hne _ (by omega)]; exact fd.a
            · rw [hne _ (by omega)]; exact fd.b
          · obtain rfl : k = m := by have := hlen'.out; omega
            rw [hlast]
            refine ⟨⟨o, idAt ids' ia, idAt ids' ib, 0⟩, hC.nod, ?_⟩
            rw [hm.out, ← ho.out]
            exact ⟨rfl, rfl, rfl, rfl, by rw [hia.out, Int.toNat_natCast], by rw [hib.out, Int.toNat_natCast]⟩
        · rw [hids'.out, List.mem_append, List.mem_singleton] at hi
          rcases hi with hi | hi
          · exact I5.old.2.2 i hi
          · rw [hi]; exact hid
      have hlen3 : Hid ((m : Int) + 1 = ids'.length) := by show _ = _; rw [hlen'.out]; rfl
      clear hC I5 hg6 box6 r6 L6 row6 hrow hidn
      go_wp2
      go_roundw
      case rel => exact ⟨ids', by first | (rw [← hlen3.out]; go_num) | (rw [hlen3.out]), hlen2, hnew⟩
      case measure => simp [intOf]; have := hlen3.out; have := hm.out; omega
    · have hln : ids.length = l.length := by omega
      have hfin : LG wr p g l.length ids l := ⟨⟨by rw [hln]; exact I.box, ⟨_, I.row, by simp; omega⟩, h512⟩, ⟨hln, I.nd, fun k hk => I.node k (by omega)⟩⟩
      have hlow := I.low
      have hold := I.old
      clear I
      replace hln : Hid (ids.length = l.length) := hln
      go_wp2
      go_ret
      first | exact ⟨p, g, ids, rfl, hfin, hlow, hold⟩ | exact ⟨p, rfl, g, ids, hfin, hlow, hold⟩
end
end Go.Proofs.Ytilbnjldfgofmaa
