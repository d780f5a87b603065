/- Items as operations again. -/
import Derived.Test.YtilbnjldfgofmaaZu
namespace Go.Proofs.Ytilbnjldfgofmaa
open Go.RowKit
set_option linter.unusedVariables false
set_option linter.unusedSimpArgs false
set_option maxRecDepth 8000

/-- While operations are laid down: the first ones. -/
structure OpI (w : World) (p g cap gr : Nat) (ids : List Nat) (l : List Opr) (m : Nat) (W : World) : Prop where
  ls : Ls W p g cap ids
  row : W.heap[gr]? = some (.cells (opF (l.take m ++ List.replicate (l.length - m) nilO)).toArray 40)
  node : ∀ i, i < l.length → ∃ d, NdAt W (idAt ids i) d ∧ Fits ids (opAt l i) d ∧ (i < m → d.pl = i)
  goes : Goes (Own ids) w W
theorem NdAt.set8 {W : World} {id : Nat} {d : Nd} (h : NdAt W id d) (x : Int) : NdAt (W.setCell ⟨id, 8, none⟩ (vI x)) id { d with pl := x } := heap_setCell_same W id 8 _ 67 _ h
theorem take_set {l : List Opr} {m : Nat} (h : m < l.length) : (l.take m ++ List.replicate (l.length - m) nilO).set m (opAt l m) = l.take (m + 1) ++ List.replicate (l.length - (m + 1)) nilO := by
  have hl : (l.take m).length = m := by rw [List.length_take]; omega
  rw [List.set_append_right _ _ (by omega), hl, Nat.sub_self]
  obtain ⟨k, hk⟩ : ∃ k, l.length - m = k + 1 := ⟨l.length - m - 1, by omega⟩
  rw [hk, List.replicate_succ, List.set_cons_zero, show l.length - (m + 1) = k by omega, List.take_add_one, opAt_some h, List.append_assoc]
  rfl
/-- While one operation's values are told. -/
structure OpC (w6 : World) (gr : Nat) (L0 L1 L2 : List Opr) (j : Nat) (x : World) : Prop where
  row : x.heap[gr]? = some (.cells (opF (if j = 0 then L0 else if j = 1 then L1 else L2)).toArray 40)
  goes : Goes (fun b => b = gr) w6 x
theorem OpC.keep {w6 x : World} {gr j b k : Nat} {L0 L1 L2 : List Opr} {v : Value} (h : OpC w6 gr L0 L1 L2 j x) (hb : b ≠ gr) (hv : w6.cell? ⟨b, k, none⟩ = some v) : x.cell? ⟨b, k, none⟩ = some v := by
  have hl : b < w6.heap.size := by
    rcases Nat.lt_or_ge b w6.heap.size with r | r
    · exact r
    · unfold World.cell? at hv
      rw [Array.getElem?_eq_none r] at hv
      cases hv
  have e := h.goes.block b hl hb
  unfold World.cell? at hv ⊢
  rw [e]; exact hv
section
variable {pc words el : Int} {l : List Opr} {ids : List Nat} {w : World} {p g cap : Nat}
set_option maxHeartbeats 4000000 in
theorem ops_c (h : rightB pc words el l = true) (H : LG w p g cap ids l) :
    Calls Try.prog 41 #[ptr p 0] w fun e w' => ∃ gr, w.heap.size ≤ gr ∧ e = .returned (.slice (some ⟨gr, 0, none⟩) l.length l.length) ∧ w'.heap[gr]? = some (.cells (opF l).toArray 40) ∧ LG w' p g cap ids l ∧ Goes (Own ids) w w' := by
  obtain ⟨h0, h512, -⟩ := right_lens h
  have hlen : Hid (ids.length = l.length) := H.gr.len
  have z := H.ls.boxc
  rw [hlen.out] at z
  have hb1 := below_alloc w (.cells (opF (List.replicate l.length nilO)).toArray 40)
  have r1 : (w.alloc (.cells (opF (List.replicate l.length nilO)).toArray 40)).heap[w.heap.size]? = some (.cells (opF (List.replicate l.length nilO)).toArray 40) := heap_alloc_new _ _
  have H1 := H.grow hb1
  have z1 := H1.ls.boxc
  rw [hlen.out] at z1
  go_enter Try.func41, Try.ntmps41
  go_upto_region 2 with (first | ((with_reducible refine wpList_mkO rfl _ rfl h512 rfl ?_); simp only [Act.put, List.setIfInBounds_toArray, List.set_cons_succ, List.set_cons_zero]))
  have hI : OpI w p g cap w.heap.size ids l 0 (w.alloc (.cells (opF (List.replicate l.length nilO)).toArray 40)) := ⟨H1.ls, by rw [List.take_zero, List.nil_append, Nat.sub_zero]; exact r1, fun i hi => by obtain ⟨d, nd, f⟩ := H1.gr.node i hi; exact ⟨d, nd, f, fun q => absurd q (by omega)⟩, goes_of_below hb1⟩
  generalize w.alloc (.cells (opF (List.replicate l.length nilO)).toArray 40) = w1 at *
  obtain ⟨gr, hgr⟩ : ∃ gr, gr = w.heap.size := ⟨_, rfl⟩
  rw [← hgr] at hI ⊢
  have hgw : Hid (w.heap.size ≤ gr) := by show _ ≤ _; omega
  have hgi : ∀ i ∈ ids, i ≠ gr := fun i hi e => by obtain ⟨d, nd⟩ := H.is i hi; have := nd.lt; omega
  have hgp : p ≠ gr := fun e => by have := lt_of_some H.ls.box; omega
  have hgg : g ≠ gr := fun e => by obtain ⟨R, hR, -⟩ := H.ls.row; have := lt_of_some hR; omega
  have hnd := H.gr.nd
  clear z r1 hgr hb1 H1
  go_upto_region 3 with fail
  clear z1
  go_loopw [17] (fun s17 wr => ∃ m : Nat, s17 = vI m ∧ m ≤ l.length ∧ OpI w p g cap gr ids l m wr) (fun s17 _ => ((l.length : Int) - intOf s17).toNat)
  case atStart => exact ⟨0, rfl, Nat.zero_le _, hI⟩
  case round =>
    clear hI
    obtain ⟨m, rfl, hm, I⟩ := hrel
    by_cases hlt : (m : Int) < l.length
    · have hml : m < l.length := by omega
      have zm := I.ls.cell (k := m) (by have := hlen.out; omega)
      obtain ⟨d, nd, fd, -⟩ := I.node m hml
      have c8 := nd.c8
      have f8 := nd.frz 8
      have n8 := nd.set8 (m : Int)
      have g8 := goes_setCell (F := fun b => b = idAt ids m) wr (b := idAt ids m) rfl 8 (vI m)
      have hidm : idAt ids m ∈ ids := idAt_mem (by have := hlen.out; omega)
      have hne1 : ∀ i, i < l.length → i ≠ m → idAt ids i ≠ idAt ids m := fun i hi hn e => hn (idAt_inj hnd (by have := hlen.out; omega) (by have := hlen.out; omega) e)
      have I5 : OpI w p g cap gr ids l m (wr.setCell ⟨idAt ids m, 8, none⟩ (vI m)) ∧ ∀ i, i ≤ m → ∃ d, NdAt (wr.setCell ⟨idAt ids m, 8, none⟩ (vI m)) (idAt ids i) d ∧ Fits ids (opAt l i) d ∧ d.pl = i := by
        have hk : ∀ i, i < l.length → i ≠ m → (wr.setCell ⟨idAt ids m, 8, none⟩ (vI m)).heap[idAt ids i]? = wr.heap[idAt ids i]? := fun i hi hn => Below.heap_setCell _ _ _ _ (hne1 i hi hn)
        have hx : ∀ {b : Nat} {C : Array Value} {t : TypeId}, wr.heap[b]? = some (.cells C t) → t ≠ 67 → (wr.setCell ⟨idAt ids m, 8, none⟩ (vI m)).heap[b]? = some (.cells C t) := fun {b C t} hb ht => by
          rw [Below.heap_setCell _ _ _ _ (fun e => by have e : b = idAt ids m := e; subst e; exact ne_of_type hb nd ht rfl)]; exact hb
        obtain ⟨R, hR, hq⟩ := I.ls.row
        refine ⟨⟨⟨hx I.ls.box (by decide), ⟨R, hx hR (by decide), hq⟩, I.ls.max⟩, hx I.row (by decide), fun i hi => ?_, I.goes.trans g8 (fun b _ e => by subst e; exact hidm)⟩, fun i hi => ?_⟩
        · by_cases e : i = m
          · subst e; exact ⟨_, n8, ⟨fd.kind, fd.r, fd.order, fd.imm, fd.a, fd.b⟩, fun _ => rfl⟩
          · obtain ⟨d2, nd2, f2, p2⟩ := I.node i hi
            exact ⟨d2, by unfold NdAt; rw [hk i hi e]; exact nd2, f2, p2⟩
        · by_cases e : i = m
          · subst e; exact ⟨_, n8, ⟨fd.kind, fd.r, fd.order, fd.imm, fd.a, fd.b⟩, rfl⟩
          · obtain ⟨d2, nd2, f2, p2⟩ := I.node i (by omega)
            exact ⟨d2, by unfold NdAt; rw [hk i (by omega) e]; exact nd2, f2, p2 (by omega)⟩
      go_upto_region 6 with fail
      clear I n8 nd c8 f8 g8 zm
      generalize wr.setCell ⟨idAt ids m, 8, none⟩ (vI m) = w5 at *
      obtain ⟨I5, hpl⟩ := I5
      clear wr fd d
      obtain ⟨d, nd, fd, hdp⟩ := hpl m (Nat.le_refl _)
      have hLlen : (l.take m ++ List.replicate (l.length - m) nilO).length = l.length := by rw [List.length_append, List.length_take, List.length_replicate, Nat.min_eq_left (by omega)]; omega
      obtain ⟨L, hL⟩ : ∃ L, L = l.take m ++ List.replicate (l.length - m) nilO := ⟨_, rfl⟩
      have hrow := I5.row
      rw [← hL] at hrow hLlen
      have hset := opF_set (L := L) (k := m) (by omega) d.op
      have hA := nd.opAt
      have hO6 : ∀ x, x < 6 → m * 6 + x < (opF L).toArray.size := fun x hx => by show _ < (opF L).length; rw [opF_len]; omega
      have hsz6 : m * 6 + 6 ≤ (opF L).toArray.size := by show _ ≤ (opF L).length; rw [opF_len]; omega
      replace hL : Hid (L = l.take m ++ List.replicate (l.length - m) nilO) := hL
      replace hLlen : Hid (L.length = l.length) := hLlen
      go_upto_region 7 with (first | ((with_reducible refine wpList_load42 rfl _ rfl _ rfl _ hA ?_); simp only [Act.put, List.setIfInBounds_toArray, List.set_cons_succ, List.set_cons_zero]) | ((refine wpList_stO rfl _ _ rfl d.op rfl rfl hrow hsz6 ?_); rw [hset]; simp only [Act.put, List.setIfInBounds_toArray, List.set_cons_succ, List.set_cons_zero]))
      have g6 := goes_setRow (F := fun b => b = gr) w5 (b := gr) rfl (opF (L.set m d.op)).toArray
      have r6 := setRow_heap w5 gr _ (opF (L.set m d.op)).toArray _ _ hrow
      have keep6 : ∀ {b k : Nat} {v : Value}, b ≠ gr → w5.cell? ⟨b, k, none⟩ = some v → (w5.setRow gr (opF (L.set m d.op)).toArray).cell? ⟨b, k, none⟩ = some v := fun {b k v} hb hv => by
        have e := setRow_other w5 gr b (opF (L.set m d.op)).toArray hb
        unfold World.cell? at hv ⊢
        rw [e]; exact hv
      have hs := lt_self h hml
      have hab := ab_lt h hml
      obtain ⟨ia, hia⟩ : ∃ ia : Nat, (opAt l m).a = ia := ⟨(opAt l m).a.toNat, by omega⟩
      obtain ⟨ib, hib⟩ : ∃ ib : Nat, (opAt l m).b = ib := ⟨(opAt l m).b.toNat, by omega⟩
      rw [hia, hib, Int.toNat_natCast, Int.toNat_natCast] at hs
      obtain ⟨da, nda, fda, hda⟩ := hpl ia hs.1
      obtain ⟨db, ndb, fdb, hdb⟩ := hpl ib hs.2
      have hida : idAt ids ia ∈ ids := idAt_mem (by have := hlen.out; omega)
      have hidb : idAt ids ib ∈ ids := idAt_mem (by have := hlen.out; omega)
      have x6 := keep6 (hgi _ hidm) nd.c6
      have x7 := keep6 (hgi _ hidm) nd.c7
      have xa := keep6 (hgi _ hida) nda.c8
      have xb := keep6 (hgi _ hidb) ndb.c8
      rw [fd.a, hia, Int.toNat_natCast] at x6
      rw [fd.b, hib, Int.toNat_natCast] at x7
      rw [hda] at xa
      rw [hdb] at xb
      have e1 : (opF (L.set m d.op)).toArray.setIfInBounds (m * 6 + 2) (vI ia) = (opF (L.set m { d.op with a := (ia : Int) })).toArray := by
        rw [opF_setA (by rw [List.length_set]; have := hLlen.out; omega), opAt_set (by have := hLlen.out; omega), if_pos rfl, List.set_set]
      have e2 : (opF (L.set m { d.op with a := (ia : Int) })).toArray.setIfInBounds (m * 6 + 3) (vI ib) = (opF (L.set m { d.op with a := (ia : Int), b := (ib : Int) })).toArray := by
        rw [opF_setB (by rw [List.length_set]; have := hLlen.out; omega), opAt_set (by have := hLlen.out; omega), if_pos rfl, List.set_set]
      have hfin : ({ d.op with a := (ia : Int), b := (ib : Int) } : Opr) = opAt l m := by
        have q1 := fd.kind
        have q2 := fd.r
        have q3 := fd.order
        have q4 := fd.imm
        generalize opAt l m = o at *
        obtain ⟨k1, r1, a1, b1, o1, i1⟩ := o
        obtain ⟨⟨k2, r2, a2, b2, o2, i2⟩, pa, pb, pl⟩ := d
        dsimp only at q1 q2 q3 q4 hia hib ⊢
        rw [q1, q2, q3, q4, hia, hib]
      have o2 : (opF (L.set m d.op)).toArray[m * 6 + 2]? = some (vI d.op.a) := by
        rw [opF_at (by rw [List.length_set]; have := hLlen.out; omega) (by decide), opAt_set (by have := hLlen.out; omega), if_pos rfl]; rfl
      have o3 : (opF (L.set m { d.op with a := (ia : Int) })).toArray[m * 6 + 3]? = some (vI d.op.b) := by
        rw [opF_at (by rw [List.length_set]; have := hLlen.out; omega) (by decide), opAt_set (by have := hLlen.out; omega), if_pos rfl]; rfl
      have hag := hgi _ hida
      have hbg := hgi _ hidb
      have hmg := hgi _ hidm
      generalize w5.setRow gr (opF (L.set m d.op)).toArray = w6 at *
      clear keep6 nd nda ndb fd fda fdb hda hdb hA hrow hset
      replace hpl : Hid _ := hpl
      have hst : OpC w6 gr (L.set m d.op) (L.set m { d.op with a := (ia : Int) }) (L.set m { d.op with a := (ia : Int), b := (ib : Int) }) 0 { w6 with drawn := w6.drawn + 1 } := ⟨r6, goes_of_below (below_dr w6)⟩
      replace hia : Hid ((opAt l m).a = ia) := hia
      replace hib : Hid ((opAt l m).b = ib) := hib
      replace hdp : Hid _ := hdp
      replace hfin : Hid _ := hfin
      refine Chn.wp_region_chainL (OpC w6 gr (L.set m d.op) (L.set m { d.op with a := (ia : Int) }) (L.set m { d.op with a := (ia : Int), b := (ib : Int) })) [20, 23] [2, 2, 2, 2, 2, 2, 2, 2, 2, 2, 2, 2, 2, 2, 2, 2, 2, 2, 2, 2, 2, 2, 2, 2] [.slice (some ⟨gr, 0, none⟩) l.length l.length, vI m, .slice (some ⟨gr, 0, none⟩) l.length l.length, vI m, ptr (idAt ids m) 0, ptr (idAt ids m) 0, ptr (idAt ids m) 6, ptr (idAt ids ia) 0, ptr (idAt ids ia) 0, ptr (idAt ids ia) 8, vI ia, ptr (idAt ids m) 0, ptr (idAt ids m) 0, ptr (idAt ids m) 7, ptr (idAt ids ib) 0, ptr (idAt ids ib) 0, ptr (idAt ids ib) 8, vI ib, ptr gr (m * 6), ptr gr (m * 6 + 2), undef, ptr gr (m * 6), ptr gr (m * 6 + 3), undef] (by kernel_rfl) (by kernel_rfl) (by kernel_rfl) (by kernel_rfl) (by kernel_rfl) hst ?_
      clear hst
      refine ⟨fun j x hj hC => by
        exact Chn.upon_pure hC (fun F hF => by (go_simp <;> exact hF)), ?_⟩
      simp only [Act.put, List.setIfInBounds_toArray, List.set_cons_succ, List.set_cons_zero]
      refine ⟨fun j x hj hC => by
        exact Chn.upon_pure hC (fun F hF => by (go_simp <;> exact hF)), ?_⟩
      simp only [Act.put, List.setIfInBounds_toArray, List.set_cons_succ, List.set_cons_zero]
      refine ⟨fun j x hj hC => by
        exact Chn.upon_pure hC (fun F hF => by (go_simp <;> exact hF)), ?_⟩
      simp only [Act.put, List.setIfInBounds_toArray, List.set_cons_succ, List.set_cons_zero]
      refine ⟨fun j x hj hC => by
        exact Chn.upon_pure hC (fun F hF => by (go_simp <;> exact hF)), ?_⟩
      simp only [Act.put, List.setIfInBounds_toArray, List.set_cons_succ, List.set_cons_zero]
      refine ⟨fun j x hj hC => by
        exact Chn.upon_pure hC (fun F hF => by (go_simp <;> exact hF)), ?_⟩
      simp only [Act.put, List.setIfInBounds_toArray, List.set_cons_succ, List.set_cons_zero]
      refine ⟨fun j x hj hC => by
        exact Chn.upon_pure hC (fun F hF => by (go_simp <;> exact hF)), ?_⟩
      simp only [Act.put, List.setIfInBounds_toArray, List.set_cons_succ, List.set_cons_zero]
      refine ⟨fun j x hj hC => by
        exact Chn.upon_pure hC (fun F hF => by (go_simp <;> exact hF)), ?_⟩
      simp only [Act.put, List.setIfInBounds_toArray, List.set_cons_succ, List.set_cons_zero]
      refine ⟨fun j x hj hC => by
        have zz := hC.keep hmg x6
        exact Chn.upon_pure hC (fun F hF => by (go_simp <;> exact hF)), ?_⟩
      simp only [Act.put, List.setIfInBounds_toArray, List.set_cons_succ, List.set_cons_zero]
      refine ⟨fun j x hj hC => by
        exact Chn.upon_pure hC (fun F hF => by (go_simp <;> exact hF)), ?_⟩
      simp only [Act.put, List.setIfInBounds_toArray, List.set_cons_succ, List.set_cons_zero]
      refine ⟨fun j x hj hC => by
        exact Chn.upon_pure hC (fun F hF => by (go_simp <;> exact hF)), ?_⟩
      simp only [Act.put, List.setIfInBounds_toArray, List.set_cons_succ, List.set_cons_zero]
      refine ⟨fun j x hj hC => by
        have zz := hC.keep hag xa
        exact Chn.upon_pure hC (fun F hF => by (go_simp <;> exact hF)), ?_⟩
      simp only [Act.put, List.setIfInBounds_toArray, List.set_cons_succ, List.set_cons_zero]
      refine ⟨fun j x hj hC => by
        exact Chn.upon_pure hC (fun F hF => by (go_simp <;> exact hF)), ?_⟩
      simp only [Act.put, List.setIfInBounds_toArray, List.set_cons_succ, List.set_cons_zero]
      refine ⟨fun j x hj hC => by
        exact Chn.upon_pure hC (fun F hF => by (go_simp <;> exact hF)), ?_⟩
      simp only [Act.put, List.setIfInBounds_toArray, List.set_cons_succ, List.set_cons_zero]
      refine ⟨fun j x hj hC => by
        exact Chn.upon_pure hC (fun F hF => by (go_simp <;> exact hF)), ?_⟩
      simp only [Act.put, List.setIfInBounds_toArray, List.set_cons_succ, List.set_cons_zero]
      refine ⟨fun j x hj hC => by
        have zz := hC.keep hmg x7
        exact Chn.upon_pure hC (fun F hF => by (go_simp <;> exact hF)), ?_⟩
      simp only [Act.put, List.setIfInBounds_toArray, List.set_cons_succ, List.set_cons_zero]
      refine ⟨fun j x hj hC => by
        exact Chn.upon_pure hC (fun F hF => by (go_simp <;> exact hF)), ?_⟩
      simp only [Act.put, List.setIfInBounds_toArray, List.set_cons_succ, List.set_cons_zero]
      refine ⟨fun j x hj hC => by
        exact Chn.upon_pure hC (fun F hF => by (go_simp <;> exact hF)), ?_⟩
      simp only [Act.put, List.setIfInBounds_toArray, List.set_cons_succ, List.set_cons_zero]
      refine ⟨fun j x hj hC => by
        have zz := hC.keep hbg xb
        exact Chn.upon_pure hC (fun F hF => by (go_simp <;> exact hF)), ?_⟩
      simp only [Act.put, List.setIfInBounds_toArray, List.set_cons_succ, List.set_cons_zero]
      refine ⟨fun j x hj hC => by
        exact Chn.upon_pure hC (fun F hF => by (go_simp <;> exact hF)), ?_⟩
      simp only [Act.put, List.setIfInBounds_toArray, List.set_cons_succ, List.set_cons_zero]
      refine ⟨fun j x hj hC => by
        exact Chn.upon_pure hC (fun F hF => by (go_simp <;> exact hF)), ?_⟩
      simp only [Act.put, List.setIfInBounds_toArray, List.set_cons_succ, List.set_cons_zero]
      refine ⟨fun x hC => by
        have z : x.cell? ⟨gr, m * 6 + 2, none⟩ = some (vI d.op.a) := by rw [cell_of_row _ _ _ _ _ _ hC.row]; exact o2
        have f : x.frozen? ⟨gr, m * 6 + 2, none⟩ = false := frozen_of_row _ _ _ _ _ hC.row
        have hn : OpC w6 gr (L.set m d.op) (L.set m { d.op with a := (ia : Int) }) (L.set m { d.op with a := (ia : Int), b := (ib : Int) }) 1 (x.setCell ⟨gr, m * 6 + 2, none⟩ (vI ia)) := ⟨by
          have q := heap_setCell_same x gr (m * 6 + 2) _ 40 (vI ia) hC.row
          rw [q]
          show some (Obj.cells ((opF (L.set m d.op)).toArray.setIfInBounds (m * 6 + 2) (vI ia)) 40) = _
          rw [e1]; rfl, hC.goes.trans (goes_setCell (F := fun b => b = gr) x rfl _ _) (fun _ _ q => q)⟩
        go_simp, ?_⟩
      simp only [Act.put, List.setIfInBounds_toArray, List.set_cons_succ, List.set_cons_zero]
      refine ⟨fun j x hj hC => by
        exact Chn.upon_pure hC (fun F hF => by (go_simp <;> exact hF)), ?_⟩
      simp only [Act.put, List.setIfInBounds_toArray, List.set_cons_succ, List.set_cons_zero]
      refine ⟨fun j x hj hC => by
        exact Chn.upon_pure hC (fun F hF => by (go_simp <;> exact hF)), ?_⟩
      simp only [Act.put, List.setIfInBounds_toArray, List.set_cons_succ, List.set_cons_zero]
      refine ⟨fun x hC => by
        have z : x.cell? ⟨gr, m * 6 + 3, none⟩ = some (vI d.op.b) := by rw [cell_of_row _ _ _ _ _ _ hC.row]; exact o3
        have f : x.frozen? ⟨gr, m * 6 + 3, none⟩ = false := frozen_of_row _ _ _ _ _ hC.row
        have hn : OpC w6 gr (L.set m d.op) (L.set m { d.op with a := (ia : Int) }) (L.set m { d.op with a := (ia : Int), b := (ib : Int) }) 2 (x.setCell ⟨gr, m * 6 + 3, none⟩ (vI ib)) := ⟨by
          have q := heap_setCell_same x gr (m * 6 + 3) _ 40 (vI ib) hC.row
          rw [q]
          show some (Obj.cells ((opF (L.set m { d.op with a := (ia : Int) })).toArray.setIfInBounds (m * 6 + 3) (vI ib)) 40) = _
          rw [e2]; rfl, hC.goes.trans (goes_setCell (F := fun b => b = gr) x rfl _ _) (fun _ _ q => q)⟩
        go_simp, ?_⟩
      simp only [Act.put, List.setIfInBounds_toArray, List.set_cons_succ, List.set_cons_zero]
      intro w7 hC
      have hnew : OpI w p g cap gr ids l (m + 1) w7 := by
        have hg67 := g6.trans hC.goes (fun _ _ q => q)
        obtain ⟨R, hR, hq⟩ := I5.ls.row
        refine ⟨⟨(hg67.block p (lt_of_some I5.ls.box) hgp).trans I5.ls.box, ⟨R, (hg67.block g (lt_of_some hR) hgg).trans hR, hq⟩, I5.ls.max⟩, ?_, fun i hi => ?_, ?_⟩
        · have hr := hC.row
          have e : L.set m { d.op with a := (ia : Int), b := (ib : Int) } = l.take (m + 1) ++ List.replicate (l.length - (m + 1)) nilO := by
            rw [show ({ d.op with a := (ia : Int), b := (ib : Int) } : Opr) = opAt l m from hfin.out, hL.out]
            exact take_set hml
          rw [← e]
          exact hr
        · have hn := I5.node i hi
          have hig : idAt ids i ≠ gr := hgi _ (idAt_mem (by have := hlen.out; omega))
          have hk : ∀ {d2 : Nd}, NdAt w5 (idAt ids i) d2 → NdAt w7 (idAt ids i) d2 := fun {d2} nd2 => (hg67.block _ (lt_of_some nd2) hig).trans nd2
          by_cases e : i < m + 1
          · obtain ⟨d2, nd2, f2, p2⟩ := hpl.out i (by omega)
            exact ⟨d2, hk nd2, f2, fun _ => p2⟩
          · obtain ⟨d2, nd2, f2, -⟩ := hn
            exact ⟨d2, hk nd2, f2, fun q => absurd q e⟩
        · refine ⟨hg67.os.trans I5.goes.os, hg67.tape.trans I5.goes.tape, hg67.output.trans I5.goes.output, Nat.le_trans I5.goes.size hg67.size, fun b hb hF => ?_⟩
          have e1 := I5.goes.block b hb hF
          have e2 := hg67.block b (Nat.lt_of_lt_of_le hb I5.goes.size) (fun e => by have := hgw.out; subst e; omega)
          exact e2.trans e1
      clear hC g6
      go_wp2
      go_roundw
      case rel => exact ⟨m + 1, by go_num, by omega, hnew⟩
      case measure => simp [intOf]; omega
    · have hml : m = l.length := by omega
      have hrow := I.row
      have hgo := I.goes
      have hLG : LG wr p g cap ids l := ⟨I.ls, H.gr.len, H.gr.nd, fun k hk => by obtain ⟨d, nd, f, -⟩ := I.node k hk; exact ⟨d, nd, f⟩⟩
      rw [hml, List.take_length, Nat.sub_self, List.replicate_zero, List.append_nil] at hrow
      clear I
      replace hml : Hid (m = l.length) := hml
      go_wp2
      go_ret
      exact ⟨gr, hgw.out, rfl, hrow, hLG, hgo⟩
end
end Go.Proofs.Ytilbnjldfgofmaa
