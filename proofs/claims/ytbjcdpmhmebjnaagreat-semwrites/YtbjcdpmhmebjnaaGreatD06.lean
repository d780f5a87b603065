/- What an access wants, as a step reckons it: a contract. -/
import Derived.Test.YtbjcdpmhmebjnaaGreatD05
namespace Go.Proofs.YtbjcdpmhmebjnaaGreat
open Go.RowKit
set_option linter.unusedVariables false

theorem sadr_in (c : Cor) (i : Ins) : 0 ≤ adrV c i := by
  unfold adrV u64
  split <;> omega
theorem tmod8 {n : Int} (h : 0 ≤ n) : n.tmod 8 = n % 8 := Int.tmod_eq_emod_of_nonneg h
set_option maxRecDepth 4000 in
set_option maxHeartbeats 2000000 in
theorem access_c (g : Nat) (s : Stp) (k : Wnt) (w : World) (h : w.heap[g]? = some (.cells s.cells 58)) (ha : s.i.op = 19 ∨ s.i.op = 20 → s.i.amount = 0 ∨ s.i.amount = 3) (hel : 0 ≤ s.c.el ∧ s.c.el ≤ 1) :
    Calls Tryz.prog 183 #[.pointer (some ⟨g, 0, none⟩), k.val] w fun e w' => e = .returned (accV s.c s.i k).val ∧ Below w.heap.size w w' := by
  have hn := sadr_in s.c s.i
  go_enter Tryz.func183, Tryz.ntmps183
  go_upto_region 1 with fail
  have H := (stwo_start w k.cells #[.int .i64 0, .int .u64 0, .int .u64 0, .int .i64 0, .bool false, .int .i64 0, .bool false, .int .i64 0, .int .i64 0, .int .i64 0] 30 30).swap
  have hs := keep_row h (r_below_more (r_below_alloc w (.cells k.cells 30)) (o := .cells #[.int .i64 0, .int .u64 0, .int .u64 0, .int .i64 0, .bool false, .int .i64 0, .bool false, .int .i64 0, .int .i64 0, .int .i64 0] 30))
  generalize hb : w.heap.size = b at H ⊢
  have hgb : g ≠ b := by have := (Array.getElem?_eq_some_iff.1 h).1; omega
  generalize (w.alloc _).alloc _ = w1 at H hs ⊢
  obtain ⟨Z, hZ, H⟩ : ∃ Z, Z.size = 10 ∧ Has w [(b, k.cells, 30), (b + 1, Z, 30)] w1 := ⟨_, rfl, H⟩
  have hne : ∀ p ∈ [(b + 1, Z, (30 : TypeId))], p.1 ≠ b := one_other (by omega)
  go_upto_region 2 with (first | (go_at_call 219; refine (address_c g s _ hs ha).mono ?_; rintro e w2 ⟨rfl, hB⟩; dsimp only; replace H := H.grow hB; replace hs := keep_row hs hB) | ((with_reducible refine wpList_put_w rfl 22 _ _ rfl H hne 1 .u64 (adrV s.c s.i) rfl rfl _ k.a1 size22 _ (k.s1 _) ?_); intro w3 H hk; replace hs := hk g _ hgb hs; simp only [Act.put]))
  have c1 := H.at List.mem_cons_self 1 (.int .u64 (adrV s.c s.i)) rfl
  by_cases h8 : adrV s.c s.i % 8 = 0
  · have e8 : ((adrV s.c s.i).tmod 8 == 0) = true := by rw [tmod8 hn]; simp [h8]
    have ev : accV s.c s.i k = { k with addr := adrV s.c s.i } := by simp [accV, h8]
    replace H := H.swap
    have hne' : ∀ p ∈ [(b, ({ k with addr := adrV s.c s.i } : Wnt).cells, (30 : TypeId))], p.1 ≠ b + 1 := one_other (by omega)
    go_wp2_with (first | ((with_reducible refine wpList_load_ifA rfl 30 _ rfl b rfl 30 _ (0, 0) _ (H.get (List.mem_cons_of_mem _ List.mem_cons_self)) Tryz.underlying30 rfl (Wnt.info _) ?_); simp only [Act.put, List.setIfInBounds_toArray, List.set_cons_succ, List.set_cons_zero]) | ((with_reducible refine wpList_store_w rfl _ _ rfl H hne' hZ _ rfl rfl ?_); intro w4 H; simp only [Act.put]))
    exact bodyPost_ret (back_w rfl _ _ _ _ _ _ rfl (H.get List.mem_cons_self)) rfl ⟨by first | rw [ev] | rfl, by first | exact H.below | (rw [← hb]; exact H.below)⟩
  · have e8 : ((adrV s.c s.i).tmod 8 == 0) = false := by rw [tmod8 hn]; simp [h8]
    have ev : accV s.c s.i k = { nilW with kind := 15, cls := 36 + s.c.el, iss := bif storeK k.kind then 97 else 33, addr := adrV s.c s.i } := by simp [accV, h8]
    go_upto_region 4 with fail
    refine Rel.wp_region_tail 12 Rel.Grows (fun x => Has w [(b, ({ k with addr := adrV s.c s.i } : Wnt).cells, 30), (b + 1, Z, 30)] x ∧ x.heap[g]? = some (.cells s.cells 58)) [.inl (.pointer (some ⟨g, 0, none⟩)), .inl (.pointer (some ⟨g, 0, none⟩)), .inl (.pointer (some ⟨g, 16, none⟩)), .inl (.pointer (some ⟨g, 54, none⟩)), .inl (.int .i64 s.c.el), .inl (.int .i64 (36 + s.c.el)), .inl (.pointer (some ⟨b, 0, none⟩)), .inl (.int .i64 k.kind), .inl (.int .i64 (bif storeK k.kind then 97 else 33)), .inl (.pointer (some ⟨b, 1, none⟩)), .inl (.int .u64 (adrV s.c s.i)), .inl (Wnt.val { nilW with kind := 15, cls := 36 + s.c.el, iss := bif storeK k.kind then 97 else 33, addr := adrV s.c s.i })] (by kernel_rfl) (by kernel_rfl) (fun _ _ hh hb => ⟨hh.1.grow hb, keep_row hh.2 hb⟩) (⟨H.grow ⟨rfl, rfl, rfl, Nat.le_refl _, fun _ _ => rfl⟩, keep_row hs ⟨rfl, rfl, rfl, Nat.le_refl _, fun _ _ => rfl⟩⟩) (by simp [Rel.upK]) ?_
    refine ⟨fun w1 hC _ => by go_simp; first | exact Below.refl _ _ | exact ⟨Below.refl _ _, rfl⟩, ?_⟩
    simp only [Act.put, List.setIfInBounds_toArray, List.set_cons_succ, List.set_cons_zero]
    refine ⟨fun w1 hC _ => by go_simp; first | exact Below.refl _ _ | exact ⟨Below.refl _ _, rfl⟩, ?_⟩
    simp only [Act.put, List.setIfInBounds_toArray, List.set_cons_succ, List.set_cons_zero]
    refine ⟨fun w1 hC _ => by go_simp; first | exact Below.refl _ _ | exact ⟨Below.refl _ _, rfl⟩, ?_⟩
    simp only [Act.put, List.setIfInBounds_toArray, List.set_cons_succ, List.set_cons_zero]
    refine ⟨fun w1 hC _ => by go_simp; first | exact Below.refl _ _ | exact ⟨Below.refl _ _, rfl⟩, ?_⟩
    simp only [Act.put, List.setIfInBounds_toArray, List.set_cons_succ, List.set_cons_zero]
    refine ⟨fun w1 hC _ => by have hq := at_c hC.2 38 (.int .i64 s.c.el) (by decide) s.c.a38; go_simp; first | exact Below.refl _ _ | exact ⟨Below.refl _ _, rfl⟩, ?_⟩
    simp only [Act.put, List.setIfInBounds_toArray, List.set_cons_succ, List.set_cons_zero]
    refine ⟨fun w1 hC _ => by go_simp; exact ⟨Below.refl _ _, by rcases (by omega : s.c.el = 0 ∨ s.c.el = 1) with e | e <;> rw [e] <;> rfl⟩, ?_⟩
    simp only [Act.put, List.setIfInBounds_toArray, List.set_cons_succ, List.set_cons_zero]
    refine ⟨fun w1 hC _ => by go_simp; first | exact Below.refl _ _ | exact ⟨Below.refl _ _, rfl⟩, ?_⟩
    simp only [Act.put, List.setIfInBounds_toArray, List.set_cons_succ, List.set_cons_zero]
    refine ⟨fun w1 hC _ => by have hq := hC.1.at List.mem_cons_self 0 (.int .i64 k.kind) rfl; go_simp; first | exact Below.refl _ _ | exact ⟨Below.refl _ _, rfl⟩, ?_⟩
    simp only [Act.put, List.setIfInBounds_toArray, List.set_cons_succ, List.set_cons_zero]
    refine ⟨fun w1 hC _ => by go_simp; refine (issOf33_c k.kind w1).mono ?_; rintro e w2 ⟨rfl, rfl⟩; exact ⟨rfl, Below.refl _ _⟩, ?_⟩
    simp only [Act.put, List.setIfInBounds_toArray, List.set_cons_succ, List.set_cons_zero]
    refine ⟨fun w1 hC _ => by go_simp; first | exact Below.refl _ _ | exact ⟨Below.refl _ _, rfl⟩, ?_⟩
    simp only [Act.put, List.setIfInBounds_toArray, List.set_cons_succ, List.set_cons_zero]
    refine ⟨fun w1 hC _ => by have hq := hC.1.at List.mem_cons_self 1 (.int .u64 (adrV s.c s.i)) rfl; go_simp; first | exact Below.refl _ _ | exact ⟨Below.refl _ _, rfl⟩, ?_⟩
    simp only [Act.put, List.setIfInBounds_toArray, List.set_cons_succ, List.set_cons_zero]
    refine ⟨fun w1 hC _ => by exact rel_built_w _ rfl { nilW with kind := 15, cls := 36 + s.c.el, iss := bif storeK k.kind then 97 else 33, addr := adrV s.c s.i } (by kernel_rfl), ?_⟩
    simp only [Act.put, List.setIfInBounds_toArray, List.set_cons_succ, List.set_cons_zero]
    intro w4 hC _
    simp only [List.drop_succ_cons, List.drop_zero]
    replace H := hC.1.swap
    have hne' : ∀ p ∈ [(b, ({ k with addr := adrV s.c s.i } : Wnt).cells, (30 : TypeId))], p.1 ≠ b + 1 := one_other (by omega)
    go_wp2_with ((with_reducible refine wpList_store_w rfl _ _ rfl H hne' hZ _ rfl rfl ?_); intro w5 H; simp only [Act.put])
    exact bodyPost_ret (back_w rfl _ _ _ _ _ _ rfl (H.get List.mem_cons_self)) rfl ⟨by first | rw [ev] | rfl, by first | exact H.below | (rw [← hb]; exact H.below)⟩
end Go.Proofs.YtbjcdpmhmebjnaaGreat
