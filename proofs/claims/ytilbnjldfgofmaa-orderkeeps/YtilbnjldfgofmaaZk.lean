/- pullAhead. -/
import Derived.Test.YtilbnjldfgofmaaZj
import Derived.Test.YtilbnjldfgofmaaChx
namespace Go.Proofs.Ytilbnjldfgofmaa
open Go.RowKit
set_option linter.unusedVariables false
set_option linter.unusedSimpArgs false
set_option maxRecDepth 8000

theorem ids_take {ids : List Nat} {k : Nat} (h : k ≤ ids.length) : ids.take k = (List.range k).map (idAt ids) := by
  apply List.ext_getElem?
  intro i
  rw [List.getElem?_take, List.getElem?_map]
  by_cases q : i < k
  · rw [if_pos q, List.getElem?_range q, idAt_some (by omega)]; rfl
  · rw [if_neg q, List.getElem?_eq_none (by simpa using q)]; rfl
theorem ids_drop {ids : List Nat} {a : Nat} : ids.drop a = (List.range' a (ids.length - a)).map (idAt ids) := by
  apply List.ext_getElem?
  intro i
  rw [List.getElem?_drop, List.getElem?_map]
  by_cases q : i < ids.length - a
  · rw [List.getElem?_range' q, idAt_some (by omega)]; simp
  · rw [List.getElem?_eq_none (by omega), List.getElem?_eq_none (by simpa using q)]; rfl
theorem move_row {ids : List Nat} {R : List Value} {l : List Opr} {k j : Nat} (hl : ids.length = l.length) (hk : k ≤ j) (hj : j < l.length) {m : Nat} (hm : m = j + 1 - k) :
    ((roA ids R).toList.take k ++ fP ((nonAts l k j).map (idAt ids) ++ (k :: ats l k j).map (idAt ids)) ++ (roA ids R).toList.drop (k + m)).toArray = roA ((moveP l k j).map (idAt ids)) R := by
  unfold roA
  congr 1
  show (fP ids ++ R).take k ++ _ ++ (fP ids ++ R).drop _ = _
  rw [List.take_append_of_le_length (by simp [fP]; omega), List.drop_append_of_le_length (by simp [fP]; omega)]
  unfold fP
  rw [← List.map_take, ← List.map_drop, ids_take (by omega), ids_drop, show k + m = j + 1 by omega, hl]
  unfold moveP
  simp only [List.map_append, List.append_assoc]
theorem len_parts (f : Nat → Bool) (xs : List Nat) : (xs.filter (fun x => !f x)).length + (xs.filter f).length = xs.length := by
  induction xs with
  | nil => rfl
  | cons x t ih =>
    rw [List.filter_cons, List.filter_cons]
    cases h : f x <;> simp <;> omega
theorem chn_appP {p : Oper} {a : Act} {w : World} {F : Value → World → Prop} (s x : Operand) (ho : p.op = .call { callee := .builtin .append, args := #[s, x], argTypes := #[63, 63] }) {base : Nat} {v u : Value} {xa xb : List Nat} (hs : a.eval s = v) (hx : a.eval x = u) (O : w.ownsRow base 62 1 v xa.length (fP xa)) (U : w.ownsRow base 62 1 u xb.length (fP xb)) (h0 : 0 < xb.length) (hl : xa.length + xb.length ≤ 100000) (hbase : base ≤ w.heap.size)
    (h : ∀ v' w', w'.ownsRow base 62 1 v' (xa.length + xb.length) (fP (xa ++ xb)) → w.grownBy w' v.ownBlock → F v' w') : Chn.upon Try.prog F w ((execOp a.eval p).run Try.prog w) := by
  obtain ⟨i, hi, hz, hsz, hby⟩ := info_parts infoP
  obtain ⟨gu, cu, rfl, hu1, hu2, hu3, hc, -⟩ := own_addr U h0
  obtain ⟨v', w', hr, q1, q2, _⟩ := run_append_own (P := Try.prog) w base 63 p.type 62 i (.pointer none) 1 8 Try.underlying63 hi hz hsz hby rfl (by decide) v xa.length (fP xa) O ⟨gu, 0, none⟩ xb.length cu (fP xb) (by simp) (fun j y hj => by
    have hjl : j < xb.length := by have := (List.getElem?_eq_some_iff.1 hj).1; simpa using this
    rw [Addr.add_mid, Nat.zero_add, hc j (by omega)]
    exact hj) (fun y hy => by
      obtain ⟨q, -, rfl⟩ := List.mem_map.1 hy
      rfl) (by simp only [maxLen]; omega) (by omega) hbase
  unfold execOp
  simp only [ho, resolve, invoke, builtin, Sem.run_bind, Sem.run_pure, Result.andThen_ok, List.map_toArray, List.map_cons, List.map_nil, hs, hx, hr]
  exact h v' w' (by simpa [fP] using q1) q2
theorem sizeP : (Try.prog.info? 62).map (·.size) = some 1 := by kernel_rfl
theorem chn_copyP {p : Oper} {a : Act} {w : World} {F : World → Prop} {r : Value} (s x : Operand) (ho : p.op = .call { callee := .builtin .copy, args := #[s, x], argTypes := #[63, 63] }) {base g k n c : Nat} {u : Value} {xs : List Nat} {cur : Array Value} (hs : a.eval s = .slice (some ⟨g, k, none⟩) n c) (hx : a.eval x = u) (U : w.ownsRow base 62 1 u xs.length (fP xs)) (h0 : 0 < xs.length) (hn : xs.length ≤ n) (hg : w.heap[g]? = some (.cells cur 62)) (hfit : k + xs.length ≤ cur.size) (hr : r = goInt xs.length)
    (h : F (w.setRow g (cur.toList.take k ++ fP xs ++ cur.toList.drop (k + xs.length)).toArray)) : Chn.upon Try.prog (fun v' w' => v' = r ∧ F w') w ((execOp a.eval p).run Try.prog w) := by
  obtain ⟨gu, cu, rfl, hu1, hu2, hu3, hc, -⟩ := own_addr U h0
  have q := run_copy_row (P := Try.prog) w 63 63 p.type 62 g k n c ⟨gu, 0, none⟩ xs.length cu cur 62 (fP xs) Try.underlying63 sizeP hg (by simp [fP, Nat.min_eq_left hn]) (fun j y hj => by
    have hjl : j < xs.length := by have := (List.getElem?_eq_some_iff.1 hj).1; simpa using this
    rw [Addr.add_mid, Nat.zero_add, hc j (by omega)]
    exact hj) (by simpa [fP] using hfit) (fun y hy => by
      obtain ⟨q, -, rfl⟩ := List.mem_map.1 hy
      rfl)
  unfold execOp
  simp only [ho, resolve, invoke, builtin, Sem.run_bind, Sem.run_pure, Result.andThen_ok, List.map_toArray, List.map_cons, List.map_nil, hs, hx, q]
  exact ⟨by rw [hr]; simp [fP], by simpa [fP] using h⟩
/-- While the row is laid anew. -/
def PkC (w : World) (p g cap : Nat) (ids : List Nat) (R : List Value) (va vb : Value) (xa xb : List Nat) (new : Array Value) : Nat → Option Value → World → Prop
  | 0, none, x => x.heap[p]? = some (.cells #[.slice (some ⟨g, 0, none⟩) ids.length cap] 65) ∧ x.heap[g]? = some (.cells (roA ids R) 62) ∧ x.ownsRow w.heap.size 62 1 va xa.length (fP xa) ∧ x.ownsRow w.heap.size 62 1 vb xb.length (fP xb) ∧ Below w.heap.size w x
  | 1, some u, x => x.heap[p]? = some (.cells #[.slice (some ⟨g, 0, none⟩) ids.length cap] 65) ∧ x.heap[g]? = some (.cells (roA ids R) 62) ∧ x.ownsRow w.heap.size 62 1 u (xa.length + xb.length) (fP (xa ++ xb)) ∧ Below w.heap.size w x
  | 2, some u, x => x.heap[p]? = some (.cells #[.slice (some ⟨g, 0, none⟩) ids.length cap] 65) ∧ x.heap[g]? = some (.cells new 62) ∧ Goes (fun b => b = g) w x
  | _, _, _ => False
theorem pkC_box {w x : World} {p g cap : Nat} {ids : List Nat} {R : List Value} {va vb : Value} {xa xb : List Nat} {new : Array Value} {j : Nat} {ou : Option Value} (h : PkC w p g cap ids R va vb xa xb new j ou x) : x.heap[p]? = some (.cells #[.slice (some ⟨g, 0, none⟩) ids.length cap] 65) := by
  match j, ou, h with
  | 0, none, h => exact h.1
  | 1, some u, h => exact h.1
  | 2, some u, h => exact h.1
theorem pkC_cell {w x : World} {p g cap : Nat} {ids : List Nat} {R : List Value} {va vb : Value} {xa xb : List Nat} {new : Array Value} {j : Nat} {ou : Option Value} (h : PkC w p g cap ids R va vb xa xb new j ou x) : x.cell? ⟨p, 0, none⟩ = some (.slice (some ⟨g, 0, none⟩) ids.length cap) := by rw [cell_of_row _ _ _ _ _ _ (pkC_box h)]; rfl
theorem pkC_app {w x y : World} {p g cap : Nat} {ids : List Nat} {R : List Value} {va vb u : Value} {xa xb : List Nat} {new : Array Value} (h : PkC w p g cap ids R va vb xa xb new 0 none x) (hg : g < w.heap.size) (hp : p < w.heap.size) (q1 : y.ownsRow w.heap.size 62 1 u (xa.length + xb.length) (fP (xa ++ xb))) (q2 : x.grownBy y va.ownBlock) : PkC w p g cap ids R va vb xa xb new 1 (some u) y := by
  have hG : Goes (fun k => va.ownBlock = some k) x y := goes_grown q2 (fun k hk => hk)
  have hlow : Below w.heap.size w y := h.2.2.2.2.trans (hG.below h.2.2.2.2.size (fun k hk => (h.2.2.1.lt k hk).1))
  have hx := h.2.2.2.2
  exact ⟨((hlow.block p hp).trans (hx.block p hp).symm).trans h.1, ((hlow.block g hg).trans (hx.block g hg).symm).trans h.2.1, q1, hlow⟩
theorem pkC_end {w x : World} {p g cap : Nat} {ids : List Nat} {R : List Value} {va vb u : Value} {xa xb : List Nat} {new : Array Value} (h : PkC w p g cap ids R va vb xa xb new 1 (some u) x) (hpg : p ≠ g) : PkC w p g cap ids R va vb xa xb new 2 (some u) (x.setRow g new) :=
  ⟨by rw [setRow_other _ _ _ _ hpg]; exact h.1, setRow_heap _ _ _ _ _ _ h.2.1, ((goes_of_below h.2.2.2 : Goes (fun b => b = g) w x)).trans (goes_setRow (F := fun b => b = g) x rfl new) (fun _ _ q => q)⟩
section
variable {pc words el : Int} {l : List Opr} {ids : List Nat} {w : World} {p g cap : Nat}
theorem Ls.low {w W : World} {p g cap : Nat} {ids : List Nat} (L : Ls w p g cap ids) (hb : Below w.heap.size w W) : Ls W p g cap ids := L.grow hb
set_option maxHeartbeats 2000000 in
theorem pull_c (h : rightB pc words el l = true) (L : Ls w p g cap ids) (G : Gr ids l w) {k j : Nat} (hk : k ≤ j) (hj : j < l.length) :
    Calls Try.prog 52 #[ptr p 0, vI k, vI j] w fun e w' => (∃ u, e = .returned u) ∧ Ls w' p g cap ((moveP l k j).map (idAt ids)) ∧ Goes (fun b => b = g) w w' := by
  have hlen : Hid (ids.length = l.length) := G.len
  have h512 := (right_lens h).2.1
  have z := L.boxc
  have hcap := L.max
  have hc2 : ids.length ≤ cap := by obtain ⟨R, -, q⟩ := L.row; omega
  have hi1 : (k : Int) ≤ ids.length := by have := hlen.out; omega
  have hi2 : (j : Int) + 1 ≤ cap := by have := hlen.out; omega
  have hkc : ¬ cap = k := by have := hlen.out; omega
  have hI : PaI w (.slice none 0 0) (.slice none 0 0) [] [] w := ⟨⟨rfl, .inl ⟨rfl, rfl⟩⟩, ⟨rfl, .inl ⟨rfl, rfl⟩⟩, (fun k hk => by have hk : (none : Option Nat) = some k := hk; cases hk), Below.refl _ _⟩
  have hkj : (k : Int) ≤ (j : Int) + 1 := by omega
  go_enter Try.func52, Try.ntmps52
  go_upto_region 2 with fail
  generalize hm : j + 1 - k = m
  go_loopw [6, 7, 19] (fun s6 s7 s19 wr => ∃ i : Nat, s19 = vI i ∧ i ≤ m ∧ PaI w s6 s7 ((ahL l k i).map (idAt ids)) ((beL l k i).map (idAt ids)) wr) (fun _ _ s19 _ => ((m : Int) - intOf s19).toNat)
  case atStart => exact ⟨0, rfl, Nat.zero_le _, hI⟩
  case round =>
    clear hI z
    obtain ⟨i, rfl, hi, hP⟩ := hrel
    have hla := ahL_len l k i
    have hlb := beL_len l k i
    have h1000 : i ≤ 600 := by omega
    by_cases hlt : (i : Int) < m
    · have hkl : k + i < l.length := by omega
      have hL := L.grow hP.low
      have hG := G.grow hP.low
      have zk := hL.cell (k := k + i) (by have := hlen.out; omega)
      obtain ⟨d, nd, fd⟩ := hG.node (k + i) hkl
      have c0 := nd.c0
      rw [fd.kind] at c0
      have hsz := hP.low.size
      replace hm : Hid (j + 1 - k = m) := hm
      clear fd nd hG
      by_cases hi0 : i = 0
      · have hB : Hid (isB l k (k + i) = true) := by show isB l k (k + i) = true; subst hi0; simp [isB]
        have q0 : ((i : Int) == 0) = true := by simp [hi0]
        clear hi0
        go_wp2_with (first | ((with_reducible refine wpList_oneP rfl _ rfl (idAt ids (k + i)) rfl ?_); simp only [Act.put, List.setIfInBounds_toArray, List.set_cons_succ, List.set_cons_zero]) | (at_builtin; ((refine wpList_appP (p := idAt ids (k + i)) rfl _ _ rfl rfl rfl hP.rb (by simp; omega) (by omega) ?_); intro v' w2 hown hgr hat; simp only [Act.put, List.setIfInBounds_toArray, List.set_cons_succ, List.set_cons_zero])))
        go_roundw
        case rel => exact ⟨i + 1, by go_num, by omega, by rw [ahL_step, beL_step, if_pos hB.out, if_pos hB.out, List.map_append]; exact (hP.symm.left (by simpa using hown) hgr hat).symm⟩
        case measure => simp [intOf]; omega
      · have q0 : ((i : Int) == 0) = false := by simp [hi0]
        by_cases h14 : (opAt l (k + i)).kind = 14
        · have hB : Hid (isB l k (k + i) = true) := by show isB l k (k + i) = true; simp [isB, isAt, h14]
          rw [h14] at c0
          clear hi0 h14
          go_wp2_with (first | ((with_reducible refine wpList_oneP rfl _ rfl (idAt ids (k + i)) rfl ?_); simp only [Act.put, List.setIfInBounds_toArray, List.set_cons_succ, List.set_cons_zero]) | (at_builtin; ((refine wpList_appP (p := idAt ids (k + i)) rfl _ _ rfl rfl rfl hP.rb (by simp; omega) (by omega) ?_); intro v' w2 hown hgr hat; simp only [Act.put, List.setIfInBounds_toArray, List.set_cons_succ, List.set_cons_zero])))
          go_roundw
          case rel => exact ⟨i + 1, by go_num, by omega, by rw [ahL_step, beL_step, if_pos hB.out, if_pos hB.out, List.map_append]; exact (hP.symm.left (by simpa using hown) hgr hat).symm⟩
          case measure => simp [intOf]; omega
        · have hB : Hid (isB l k (k + i) = false) := by show isB l k (k + i) = false; simp [isB, isAt, h14, hi0]
          have q14 : ((opAt l (k + i)).kind == 14) = false := by simpa using h14
          clear hi0 h14
          go_wp2_with (first | ((with_reducible refine wpList_oneP rfl _ rfl (idAt ids (k + i)) rfl ?_); simp only [Act.put, List.setIfInBounds_toArray, List.set_cons_succ, List.set_cons_zero]) | (at_builtin; ((refine wpList_appP (p := idAt ids (k + i)) rfl _ _ rfl rfl rfl hP.ra (by simp; omega) (by omega) ?_); intro v' w2 hown hgr hat; simp only [Act.put, List.setIfInBounds_toArray, List.set_cons_succ, List.set_cons_zero])))
          go_roundw
          case rel => exact ⟨i + 1, by go_num, by omega, by rw [ahL_step, beL_step, if_neg (by rw [hB.out]; decide), if_neg (by rw [hB.out]; decide), List.map_append]; exact hP.left (by simpa using hown) hgr hat⟩
          case measure => simp [intOf]; omega
    · obtain rfl : i = m := by omega
      rw [← hm, ahL_end hk, beL_end hk] at hP
      obtain ⟨R, hR, hRl⟩ := L.row
      have hbox := L.box
      have hxl : ((nonAts l k j).map (idAt ids)).length + ((k :: ats l k j).map (idAt ids)).length = j + 1 - k := by
        have e1 := ahL_end (l := l) hk
        have e2 := beL_end (l := l) hk
        rw [← e1, ← e2, List.length_map, List.length_map]
        unfold ahL beL
        have := len_parts (fun x => isB l k x) (List.range' k (j + 1 - k))
        rw [List.length_range'] at this
        omega
      have hrow := move_row (R := R) hlen.out hk hj hm.symm
      have hx0 : 0 < ((k :: ats l k j).map (idAt ids)).length := by simp
      have hnd : Hid (((moveP l k j).map (idAt ids)).length = ids.length) := by
        show _ = _
        rw [List.length_map, move_len hk hj]; exact hlen.out.symm
      generalize (nonAts l k j).map (idAt ids) = xa at *
      generalize (k :: ats l k j).map (idAt ids) = xb at *
      obtain ⟨ids', hids⟩ : ∃ ids', Hid ((moveP l k j).map (idAt ids) = ids') := ⟨_, rfl⟩
      rw [hids.out] at hrow hnd
      go_upto_region 8 with fail
      have hsz := hP.low.size
      have hpg : p ≠ g := fun e => by subst e; exact ne_of_type hbox hR (by decide) rfl
      have hgw := lt_of_some hR
      have hpw := lt_of_some hbox
      have hst : PkC w p g cap ids R u6 u7 xa xb (roA ids' R) 0 none { wr with drawn := wr.drawn + 1 } := ⟨(hP.low.block p hpw).trans hbox, (hP.low.block g hgw).trans hR, hP.ra, hP.rb, below_then hP.low (by omega) (below_dr wr)⟩
      refine Chn.wp_region_chainX (PkC w p g cap ids R u6 u7 xa xb (roA ids' R)) [8, 9] [2, 2, 2, 2, 2, 2, 2, 2, 2, 2] 8 (fun u => [ptr p 0, ptr p 0, ptr p 0, .slice (some ⟨g, 0, none⟩) ids.length cap, vI k, .slice (some ⟨g, k, none⟩) (ids.length - k) (cap - k), u6, u7, u, goInt (xa ++ xb).length]) (by kernel_rfl) (by kernel_rfl) (by kernel_rfl) (by kernel_rfl) (by kernel_rfl) (by kernel_rfl) (fun v k hk => by match k with | 0 => rfl | 1 => rfl | 2 => rfl | 3 => rfl | 4 => rfl | 5 => rfl | 6 => rfl | 7 => rfl | 8 => exact absurd rfl hk | k + 9 => rfl) (fun _ => rfl) (by decide) hst ?_
      clear hst hP
      intro u
      refine ⟨fun j ou x hj hn hC => by
        have zz := pkC_cell hC
        exact Chn.upon_pure hC (fun F hF => by (go_simp <;> exact hF)), ?_⟩
      simp only [Act.put, List.setIfInBounds_toArray, List.set_cons_succ, List.set_cons_zero]
      refine ⟨fun j ou x hj hn hC => by
        have zz := pkC_cell hC
        exact Chn.upon_pure hC (fun F hF => by (go_simp <;> exact hF)), ?_⟩
      simp only [Act.put, List.setIfInBounds_toArray, List.set_cons_succ, List.set_cons_zero]
      refine ⟨fun j ou x hj hn hC => by
        have zz := pkC_cell hC
        exact Chn.upon_pure hC (fun F hF => by (go_simp <;> exact hF)), ?_⟩
      simp only [Act.put, List.setIfInBounds_toArray, List.set_cons_succ, List.set_cons_zero]
      refine ⟨fun j ou x hj hn hC => by
        have zz := pkC_cell hC
        exact Chn.upon_pure hC (fun F hF => by (go_simp <;> exact hF)), ?_⟩
      simp only [Act.put, List.setIfInBounds_toArray, List.set_cons_succ, List.set_cons_zero]
      refine ⟨fun j ou x hj hn hC => by
        have zz := pkC_cell hC
        exact Chn.upon_pure hC (fun F hF => by (go_simp <;> exact hF)), ?_⟩
      simp only [Act.put, List.setIfInBounds_toArray, List.set_cons_succ, List.set_cons_zero]
      refine ⟨fun j ou x hj hn hC => by
        have zz := pkC_cell hC
        exact Chn.upon_pure hC (fun F hF => by (go_simp <;> exact hF)), ?_⟩
      simp only [Act.put, List.setIfInBounds_toArray, List.set_cons_succ, List.set_cons_zero]
      refine ⟨fun j ou x hj hn hC => by
        have zz := pkC_cell hC
        exact Chn.upon_pure hC (fun F hF => by (go_simp <;> exact hF)), ?_⟩
      simp only [Act.put, List.setIfInBounds_toArray, List.set_cons_succ, List.set_cons_zero]
      refine ⟨fun j ou x hj hn hC => by
        have zz := pkC_cell hC
        exact Chn.upon_pure hC (fun F hF => by (go_simp <;> exact hF)), ?_⟩
      simp only [Act.put, List.setIfInBounds_toArray, List.set_cons_succ, List.set_cons_zero]
      refine ⟨fun x hC => by
        exact chn_appP (xa := xa) (xb := xb) _ _ rfl rfl rfl hC.2.2.1 hC.2.2.2.1 hx0 (by omega) hC.2.2.2.2.size (fun v' w' q1 q2 => pkC_app hC hgw hpw q1 q2), ?_⟩
      simp only [Act.put, List.setIfInBounds_toArray, List.set_cons_succ, List.set_cons_zero]
      refine ⟨fun ou x hn hC => by
        obtain rfl := hn (by kernel_rfl)
        exact chn_copyP (xs := xa ++ xb) (n := ids.length - k) (c := cap - k) _ _ rfl rfl rfl (by rw [List.length_append]; exact hC.2.2.1) (by rw [List.length_append]; omega) (by rw [List.length_append]; have := hlen.out; omega) hC.2.1 (by rw [roA_size, List.length_append]; have := hlen.out; omega) rfl (by
          rw [show k + (xa ++ xb).length = k + i by rw [List.length_append]; omega, hrow]
          exact pkC_end hC hpg), ?_⟩
      simp only [Act.put, List.setIfInBounds_toArray, List.set_cons_succ, List.set_cons_zero]
      intro w3 hC
      obtain ⟨h1, h2, h3⟩ := hC
      go_at_K
      go_end0
      rw [hids.out]
      exact ⟨⟨_, rfl⟩, ⟨by rw [hnd.out]; exact h1, ⟨R, h2, by rw [hnd.out]; exact hRl⟩, hcap⟩, h3⟩
end
end Go.Proofs.Ytilbnjldfgofmaa
