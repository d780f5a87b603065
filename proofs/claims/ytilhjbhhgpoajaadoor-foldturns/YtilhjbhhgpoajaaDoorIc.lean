/- What an operation uses. -/
import Derived.Test.YtilhjbhhgpoajaaDoorIb
import Derived.Maps.AppendAt
import Derived.OwnWalk
import Derived.Great.BuildSlice
namespace Go.Proofs.YtilhjbhhgpoajaaDoor
open Go.RowKit
set_option linter.unusedVariables false
set_option linter.unusedSimpArgs false
set_option maxRecDepth 8000

structure RawI (w0 : World) (v : Value) (zs : List Int) : Prop where
  len : ∃ ao cap, v = .slice ao zs.length cap
  max : zs.length ≤ maxLen
  cell : 0 < zs.length → ∃ (ra : Addr) (cap : Nat), v = .slice (some ra) zs.length cap ∧ ∀ i x, zs[i]? = some x → (ra.add i).block < w0.heap.size ∧ w0.cell? (ra.add i) = some (vI x)
theorem RawI.grow {w w' : World} {v : Value} {zs : List Int} (h : RawI w v zs) (hb : Below w.heap.size w w') : RawI w' v zs :=
  ⟨h.len, h.max, fun h0 => by
    obtain ⟨ra, cap, e, hc⟩ := h.cell h0
    exact ⟨ra, cap, e, fun i x hx => ⟨Nat.lt_of_lt_of_le (hc i x hx).1 hb.size, by rw [hb.cell (hc i x hx).1]; exact (hc i x hx).2⟩⟩⟩
theorem RawI.nil (w : World) : RawI w (.slice none 0 0) [] := ⟨⟨none, 0, rfl⟩, Nat.zero_le _, fun h => by simp at h⟩
theorem info3 : (Tryd.prog.info? 3).map (fun i => (i.zero, i.size, i.bytes)) = some (some (vI 0), 1, 8) := by kernel_rfl
def flI (zs : List Int) : List Value := zs.map vI
theorem raw_own {w : World} {base : Nat} {v : Value} {zs : List Int} (h : w.ownsRow base 3 1 v zs.length (flI zs)) : RawI w v zs := by
  rcases h.2 with ⟨h1, h2⟩ | ⟨g, cap, cur, h1, _, h3, h4, h5, h6, h7⟩
  · have : zs = [] := List.length_eq_zero_iff.1 h2
    subst this
    rw [h1]
    exact RawI.nil w
  · rw [h1]
    refine ⟨⟨_, _, rfl⟩, by simp only [maxLen] at *; omega, fun _ => ⟨_, _, rfl, fun i x hx => ?_⟩⟩
    rw [Addr.add_mid, Nat.zero_add]
    refine ⟨lt_of_some h3, ?_⟩
    rw [cell_of_row _ _ _ _ _ _ h3]
    have hu : (flI zs)[i]? = some (vI x) := by simp [flI, hx]
    rw [← h7] at hu
    have hk := (List.getElem?_eq_some_iff.1 hu).1
    rw [List.length_take] at hk
    rw [List.getElem?_take, if_pos (by omega)] at hu
    simpa using hu
theorem run_one36 (p : Int) (w : World) : (Instr.buildSlice 59 1 #[(0, vI p)]).run Tryd.prog w = .ok (.slice (some ⟨w.heap.size, 0, none⟩) 1 1) (w.alloc (.cells #[vI p] 3)) := by
  obtain ⟨i, hi, hz, hs, hby⟩ := info_parts info3
  exact run_buildSlice (P := Tryd.prog) w 59 3 1 _ _ i (vI 0) Tryd.underlying59 hi hz (by rw [hs]; decide) (by rw [hs]; decide) (by rw [hs]; kernel_rfl)
theorem wpList_one36 {ops : Array Oper} {rest : List Oper} {o : Oper} {a : Act} {w : World} {Q : Exit → Act → World → Prop} (hg : o.guard = none) (y : Operand) (ho : o.op = .buildSlice 59 1 #[(0, y)]) (p : Int) (hy : a.eval y = vI p)
    (h : wpList Tryd.prog ops Q rest (a.put o.dst (.slice (some ⟨w.heap.size, 0, none⟩) 1 1)) (w.alloc (.cells #[vI p] 3))) : wpList Tryd.prog ops Q (o :: rest) a w :=
  wpList_plain hg fun _ hK => by
    unfold Oper.wp execOp
    simp only [ho, Sem.run_bind, List.map_toArray, List.map_cons, List.map_nil, hy, run_one36, Result.andThen_ok]
    exact hK _ _ h
theorem wpList_appI {ops : Array Oper} {rest : List Oper} {o : Oper} {a : Act} {w : World} {Q : Exit → Act → World → Prop} (hg : o.guard = none) (s x : Operand) (ho : o.op = .call { callee := .builtin .append, args := #[s, x], argTypes := #[59, 59] }) {base : Nat} {v : Value} {zs : List Int} {p : Int} (hs : a.eval s = v) (hx : a.eval x = .slice (some ⟨w.heap.size, 0, none⟩) 1 1) (O : w.ownsRow base 3 1 v zs.length (flI zs)) (hl : zs.length ≤ 1000) (hbase : base ≤ w.heap.size)
    (h : ∀ v' w', w'.ownsRow base 3 1 v' (zs ++ [p]).length (flI (zs ++ [p])) → Below base w w' → (∀ b, b < w.heap.size → v.ownBlock ≠ some b → w'.heap[b]? = w.heap[b]?) → wpList Tryd.prog ops Q rest (a.put o.dst v') w') : wpList Tryd.prog ops Q (o :: rest) a (w.alloc (.cells #[vI p] 3)) := by
  obtain ⟨i, hi, hz, hsz, hby⟩ := info_parts info3
  refine wpList_append_own _ hg s x 59 ho base 3 i (vI 0) 1 8 Tryd.underlying59 hi hz hsz hby rfl (by decide) v zs.length (flI zs) hs (O.alloc _) ⟨w.heap.size, 0, none⟩ 1 1 [vI p] hx rfl (cell_one_new _ _ _) (by simp [Value.oneCell']) (by simp only [maxLen]; omega) (by omega) (by simp; omega) ?_
  intro v' w' hR hgr _
  have hG : Goes (fun k => v.ownBlock = some k) (w.alloc (.cells #[vI p] 3)) w' := goes_grown hgr (fun k hk => hk)
  refine h v' w' (by simpa [flI] using hR) ?_ (fun b hb hn => ?_)
  · exact ((below_alloc w _).mono hbase).trans (hG.below (by simp; omega) (fun k hk => (O.lt k hk).1))
  · rw [hG.block b (by simp; omega) hn, Below.heap_alloc _ _ _ hb]
theorem Has.keep {w0 w w' : World} {L : List (Nat × Array Value × TypeId)} (h : Has w0 L w) (hb : Below w0.heap.size w w') (hk : ∀ p ∈ L, w'.heap[p.1]? = w.heap[p.1]?) : Has w0 L w' :=
  ⟨h.below.trans hb, fun p hp => ⟨(h.box p hp).1, by rw [hk p hp]; exact (h.box p hp).2⟩⟩
theorem own_none (w : World) (b : Nat) : w.ownsRow b 3 1 (.slice none 0 0) ([] : List Int).length (flI []) := ⟨rfl, .inl ⟨rfl, rfl⟩⟩

theorem own_grow {w w' : World} {base : Nat} {v : Value} {n : Nat} {xs : List Value} (h : w.ownsRow base 3 1 v n xs) (hb : Below w.heap.size w w') : w'.ownsRow base 3 1 v n xs :=
  own_of_block h (fun k hk => hb.block k (h.lt k hk).2)
theorem own_nb {w : World} {base b : Nat} {v : Value} {n : Nat} {xs : List Value} (h : w.ownsRow base 3 1 v n xs) {C : Array Value} {t : TypeId} (hg : w.heap[b]? = some (.cells C t)) (ht : t ≠ 3) : v.ownBlock ≠ some b := own_ne hg h ht
set_option maxHeartbeats 4000000 in
theorem uses_c (o : Opr) (hk : isK o.kind = true) (w : World) : Calls Tryd.prog 25 #[opV o] w fun e w' => ∃ v, e = .returned v ∧ w'.ownsRow w.heap.size 3 1 v (usesL o).length (flI (usesL o)) ∧ Below w.heap.size w w' := by
  obtain ⟨kind, r, a, b, order, imm⟩ := o
  dsimp only at hk
  have H := (has_none w).new 37 (opA ⟨kind, r, a, b, order, imm⟩)
  have O := own_none (w.alloc (.cells (opA ⟨kind, r, a, b, order, imm⟩) 37)) w.heap.size
  unfold usesL
  dsimp only
  cases hA : hasP kind 2 <;> cases hB : hasP kind 4
  all_goals
    go_enter Tryd.func25, Tryd.ntmps25
    go_upto_region 3 with (first | (go_at_call 21; refine (shapeOf_c _ hk _).mono ?_; rintro e w1 ⟨rfl, B⟩; dsimp only; replace H := H.grow B; clear B) | ((with_reducible refine wpList_store_new H rfl 54 _ _ rfl _ rfl rfl (sh_inf2 _ _) (two_size _ _ _ _) (sh_one2 _ _) ?_); clear H; intro w1 H; try simp only [Act.put]) | ((with_reducible refine wpList_load_if rfl 54 _ rfl _ rfl 54 _ (0, 0) _ (H.get List.mem_cons_self) Tryd.underlying54 rfl (sh_inf2 _ _) ?_); simp only [Act.put, List.setIfInBounds_toArray, List.set_cons_succ, List.set_cons_zero]))
    replace O := own_none w1 w.heap.size
  · go_wp2_with (first | ((with_reducible refine wpList_load_if rfl 54 _ rfl _ rfl 54 _ (0, 0) _ (H.get List.mem_cons_self) Tryd.underlying54 rfl (sh_inf2 _ _) ?_); simp only [Act.put, List.setIfInBounds_toArray, List.set_cons_succ, List.set_cons_zero]) | (go_at_call 22; refine (hasK_c _ _ _).mono ?_; rintro e w1 ⟨rfl, B⟩; dsimp only; replace O := own_grow O B; replace H := H.grow B; clear B; have c2 : w1.cell? ⟨w.heap.size, 2, none⟩ = some (vI a) := H.at (by first | exact List.mem_cons_self | exact List.mem_cons_of_mem _ List.mem_cons_self | exact List.mem_cons_of_mem _ (List.mem_cons_of_mem _ List.mem_cons_self)) 2 _ rfl; have c3 : w1.cell? ⟨w.heap.size, 3, none⟩ = some (vI b) := H.at (by first | exact List.mem_cons_self | exact List.mem_cons_of_mem _ List.mem_cons_self | exact List.mem_cons_of_mem _ (List.mem_cons_of_mem _ List.mem_cons_self)) 3 _ rfl; simp only [hA, hB]))
    go_ret
    exact ⟨_, rfl, O, H.below⟩
  · go_wp2_with (first | ((with_reducible refine wpList_load_if rfl 54 _ rfl _ rfl 54 _ (0, 0) _ (H.get List.mem_cons_self) Tryd.underlying54 rfl (sh_inf2 _ _) ?_); simp only [Act.put, List.setIfInBounds_toArray, List.set_cons_succ, List.set_cons_zero]) | (go_at_call 22; refine (hasK_c _ _ _).mono ?_; rintro e w1 ⟨rfl, B⟩; dsimp only; replace O := own_grow O B; replace H := H.grow B; clear B; have c2 : w1.cell? ⟨w.heap.size, 2, none⟩ = some (vI a) := H.at (by first | exact List.mem_cons_self | exact List.mem_cons_of_mem _ List.mem_cons_self | exact List.mem_cons_of_mem _ (List.mem_cons_of_mem _ List.mem_cons_self)) 2 _ rfl; have c3 : w1.cell? ⟨w.heap.size, 3, none⟩ = some (vI b) := H.at (by first | exact List.mem_cons_self | exact List.mem_cons_of_mem _ List.mem_cons_self | exact List.mem_cons_of_mem _ (List.mem_cons_of_mem _ List.mem_cons_self)) 3 _ rfl; simp only [hA, hB]) | ((with_reducible refine wpList_one36 rfl _ rfl b rfl ?_); simp only [Act.put, List.setIfInBounds_toArray, List.set_cons_succ, List.set_cons_zero]) | ((with_reducible refine wpList_appI (zs := []) rfl _ _ rfl rfl rfl O (by simp) H.below.size ?_); have n1 := own_nb O (H.get List.mem_cons_self) (by decide); have n2 := own_nb O (H.get (List.mem_cons_of_mem _ List.mem_cons_self)) (by decide); have l1 := lt_of_some (H.get List.mem_cons_self); have l2 := lt_of_some (H.get (List.mem_cons_of_mem _ List.mem_cons_self)); clear O; intro v w1 O B K; replace H := H.keep B (by intro p hp; rcases List.mem_cons.1 hp with rfl | hp; exact K _ l1 n1; obtain rfl := List.mem_singleton.1 hp; exact K _ l2 n2); clear B K; simp only [Act.put, List.setIfInBounds_toArray, List.set_cons_succ, List.set_cons_zero]))
    go_ret
    exact ⟨_, rfl, O, H.below⟩
  · go_wp2_with (first | ((with_reducible refine wpList_load_if rfl 54 _ rfl _ rfl 54 _ (0, 0) _ (H.get List.mem_cons_self) Tryd.underlying54 rfl (sh_inf2 _ _) ?_); simp only [Act.put, List.setIfInBounds_toArray, List.set_cons_succ, List.set_cons_zero]) | (go_at_call 22; refine (hasK_c _ _ _).mono ?_; rintro e w1 ⟨rfl, B⟩; dsimp only; replace O := own_grow O B; replace H := H.grow B; clear B; have c2 : w1.cell? ⟨w.heap.size, 2, none⟩ = some (vI a) := H.at (by first | exact List.mem_cons_self | exact List.mem_cons_of_mem _ List.mem_cons_self | exact List.mem_cons_of_mem _ (List.mem_cons_of_mem _ List.mem_cons_self)) 2 _ rfl; have c3 : w1.cell? ⟨w.heap.size, 3, none⟩ = some (vI b) := H.at (by first | exact List.mem_cons_self | exact List.mem_cons_of_mem _ List.mem_cons_self | exact List.mem_cons_of_mem _ (List.mem_cons_of_mem _ List.mem_cons_self)) 3 _ rfl; simp only [hA, hB]) | ((with_reducible refine wpList_one36 rfl _ rfl a rfl ?_); simp only [Act.put, List.setIfInBounds_toArray, List.set_cons_succ, List.set_cons_zero]) | ((with_reducible refine wpList_appI (zs := []) rfl _ _ rfl rfl rfl O (by simp) H.below.size ?_); have n1 := own_nb O (H.get List.mem_cons_self) (by decide); have n2 := own_nb O (H.get (List.mem_cons_of_mem _ List.mem_cons_self)) (by decide); have l1 := lt_of_some (H.get List.mem_cons_self); have l2 := lt_of_some (H.get (List.mem_cons_of_mem _ List.mem_cons_self)); clear O; intro v w1 O B K; replace H := H.keep B (by intro p hp; rcases List.mem_cons.1 hp with rfl | hp; exact K _ l1 n1; obtain rfl := List.mem_singleton.1 hp; exact K _ l2 n2); clear B K; simp only [Act.put, List.setIfInBounds_toArray, List.set_cons_succ, List.set_cons_zero]))
    go_ret
    exact ⟨_, rfl, O, H.below⟩
  · go_wp2_with (first | ((with_reducible refine wpList_load_if rfl 54 _ rfl _ rfl 54 _ (0, 0) _ (H.get List.mem_cons_self) Tryd.underlying54 rfl (sh_inf2 _ _) ?_); simp only [Act.put, List.setIfInBounds_toArray, List.set_cons_succ, List.set_cons_zero]) | (go_at_call 22; refine (hasK_c _ _ _).mono ?_; rintro e w1 ⟨rfl, B⟩; dsimp only; replace O := own_grow O B; replace H := H.grow B; clear B; have c2 : w1.cell? ⟨w.heap.size, 2, none⟩ = some (vI a) := H.at (by first | exact List.mem_cons_self | exact List.mem_cons_of_mem _ List.mem_cons_self | exact List.mem_cons_of_mem _ (List.mem_cons_of_mem _ List.mem_cons_self)) 2 _ rfl; have c3 : w1.cell? ⟨w.heap.size, 3, none⟩ = some (vI b) := H.at (by first | exact List.mem_cons_self | exact List.mem_cons_of_mem _ List.mem_cons_self | exact List.mem_cons_of_mem _ (List.mem_cons_of_mem _ List.mem_cons_self)) 3 _ rfl; simp only [hA, hB]) | ((with_reducible refine wpList_one36 rfl _ rfl a rfl ?_); simp only [Act.put, List.setIfInBounds_toArray, List.set_cons_succ, List.set_cons_zero]) | ((with_reducible refine wpList_one36 rfl _ rfl b rfl ?_); simp only [Act.put, List.setIfInBounds_toArray, List.set_cons_succ, List.set_cons_zero]) | ((with_reducible refine wpList_appI (zs := []) rfl _ _ rfl rfl rfl O (by simp) H.below.size ?_); have n1 := own_nb O (H.get List.mem_cons_self) (by decide); have n2 := own_nb O (H.get (List.mem_cons_of_mem _ List.mem_cons_self)) (by decide); have l1 := lt_of_some (H.get List.mem_cons_self); have l2 := lt_of_some (H.get (List.mem_cons_of_mem _ List.mem_cons_self)); clear O; intro v w1 O B K; replace H := H.keep B (by intro p hp; rcases List.mem_cons.1 hp with rfl | hp; exact K _ l1 n1; obtain rfl := List.mem_singleton.1 hp; exact K _ l2 n2); clear B K; simp only [Act.put, List.setIfInBounds_toArray, List.set_cons_succ, List.set_cons_zero]) | ((with_reducible refine wpList_appI (zs := [] ++ [a]) rfl _ _ rfl rfl rfl O (by simp) H.below.size ?_); have n1 := own_nb O (H.get List.mem_cons_self) (by decide); have n2 := own_nb O (H.get (List.mem_cons_of_mem _ List.mem_cons_self)) (by decide); have l1 := lt_of_some (H.get List.mem_cons_self); have l2 := lt_of_some (H.get (List.mem_cons_of_mem _ List.mem_cons_self)); clear O; intro v w1 O B K; replace H := H.keep B (by intro p hp; rcases List.mem_cons.1 hp with rfl | hp; exact K _ l1 n1; obtain rfl := List.mem_singleton.1 hp; exact K _ l2 n2); clear B K; simp only [Act.put, List.setIfInBounds_toArray, List.set_cons_succ, List.set_cons_zero]))
    go_ret
    exact ⟨_, rfl, O, H.below⟩
end Go.Proofs.YtilhjbhhgpoajaaDoor
