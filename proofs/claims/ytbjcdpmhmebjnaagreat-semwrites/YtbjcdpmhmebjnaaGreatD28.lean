/- Package trap: Enter, Irq: contracts. -/
import Derived.Test.YtbjcdpmhmebjnaaGreatD27
import Derived.Test.YtbjcdpmhmebjnaaGreatD26
namespace Go.Proofs.YtbjcdpmhmebjnaaGreat
open Go.RowKit
set_option linter.unusedVariables false

theorem ret_cor {X Y : Cor} {v : Value} (h : X = Y) : Ending.returned (.tuple #[X.val, v]) = .returned (.tuple #[Y.val, v]) := by rw [h]
theorem sh_class (k : Int) (h0 : 0 ≤ k) (h1 : k ≤ 63) : IntKind.i64.wrap (k * 67108864) = k * 67108864 := by rw [IntKind.wrap_i64]; omega
theorem esr_u64 (k iss : Int) (h0 : 0 ≤ k) (h1 : k ≤ 63) (h2 : 0 ≤ iss) (h3 : iss ≤ 33554431) : IntKind.u64.wrap (esrV k iss) = esrV k iss := by rw [IntKind.wrap_u64]; unfold esrV; omega
set_option maxRecDepth 4000 in
set_option maxHeartbeats 4000000 in
theorem Enter_svc (c : Cor) (k iss far E : Int) (hr : rightC c = true) (h0 : 0 ≤ k) (h1 : k ≤ 63) (h2 : 0 ≤ iss) (h3 : iss ≤ 33554431) (hE : esrV k iss = E) (h21 : k = 21) (F : Int) (e4 : IntKind.u64.wrap ((intoV c (wayV k) E far).elr + 4) = F) (w : World) :
    Calls Tryz.prog 30 #[c.val, r_vI k, r_vI iss, vU far] w fun e w' => e = .returned (.tuple #[({ intoV c (wayV k) E far with elr := F } : Cor).val, r_vI 0]) ∧ Below w.heap.size w w' := by
  have e1 := sh_class k h0 h1
  have e2 := or_esr k iss h0 h1 h2 h3
  have e3 := esr_u64 k iss h0 h1 h2 h3
  rw [hE] at e2 e3
  clear hE
  replace h21 : Hid (k = 21) := h21
  go_enter Tryz.func30, Tryz.ntmps30
  go_upto_region 1 with fail
  generalize hW : (w.alloc (Obj.cells c.cells 26)).alloc _ = w1
  have H : Own w [(w.heap.size + 1, nilC), (w.heap.size, c)] w1 := by rw [← hW]; exact own_two c w _ (by kernel_rfl)
  clear hW
  go_upto_region 3 with (first | ((with_reducible refine wpList_all H rfl _ rfl rfl (by first | exact List.mem_cons_self | exact List.mem_cons_of_mem _ (List.mem_cons_self) | exact List.mem_cons_of_mem _ (List.mem_cons_of_mem _ (List.mem_cons_self)) | exact List.mem_cons_of_mem _ (List.mem_cons_of_mem _ (List.mem_cons_of_mem _ (List.mem_cons_self))) | exact List.mem_cons_of_mem _ (List.mem_cons_of_mem _ (List.mem_cons_of_mem _ (List.mem_cons_of_mem _ (List.mem_cons_self)))) | exact List.mem_cons_of_mem _ (List.mem_cons_of_mem _ (List.mem_cons_of_mem _ (List.mem_cons_of_mem _ (List.mem_cons_of_mem _ (List.mem_cons_self))))) | exact List.mem_cons_of_mem _ (List.mem_cons_of_mem _ (List.mem_cons_of_mem _ (List.mem_cons_of_mem _ (List.mem_cons_of_mem _ (List.mem_cons_of_mem _ (List.mem_cons_self))))))) ?_); simp only [Act.put, List.setIfInBounds_toArray, List.set_cons_succ, List.set_cons_zero]) | ((with_reducible refine wpList_get0 H rfl _ _ rfl _ rfl (by decide) _ (by first | exact Cor.a33 _ | exact Cor.a34 _ | exact Cor.a35 _ | exact Cor.a36 _ | exact Cor.a37 _ | exact Cor.a38 _ | exact Cor.a39 _ | exact Cor.a40 _ | exact Cor.a41 _ | exact Cor.a42 _ | exact Cor.a43 _ | exact Cor.a44 _ | exact Cor.a45 _ | exact Cor.a46 _ | exact Cor.a47 _ | exact Cor.a48 _) ?_); simp only [Act.put, List.setIfInBounds_toArray, List.set_cons_succ, List.set_cons_zero]) | ((with_reducible refine wpList_layI0 H rfl _ _ _ rfl _ rfl (by decide) _ _ rfl _ (by decide) (by first | exact Cor.s33 _ _ | exact Cor.s40 _ _ | exact Cor.s41 _ _ | exact Cor.s42 _ _ | exact Cor.s43 _ _ | exact Cor.s38 _ _ | exact Cor.s47 _ _ | exact Cor.s44 _ _ | exact Cor.s45 _ _ | exact Cor.s46 _ _) ?_); intro w2 H; simp only [Act.put]) | ((with_reducible refine wpList_row1 H rfl _ _ rfl rfl _ rfl ?_); intro w2 H; simp only [Act.put]) | (go_at_call 21; refine (Right_c _ _).mono ?_; rw [hr]; rintro e w1 ⟨rfl, hb⟩; replace H := H.grow hb; clear hb; dsimp only))
  refine Rel.wp_region_tail 12 Rel.Grows (Own w [(w.heap.size + 1, nilC), (w.heap.size, c)]) [.inl c.val, .inl (r_vI k), .inl (r_vI (wayV k)), .inl (r_vI k), .inl (r_vI (k * 67108864)), .inl (r_vI (bits .or .i64 (k * 67108864) 33554432)), .inl (r_vI iss), .inl (r_vI E), .inl (vU E), .inl (vU far), .inl (intoV c (wayV k) E far).val, .inr (FreshT w [(w.heap.size + 1, nilC), (w.heap.size, c)])] (by kernel_rfl) (by kernel_rfl) (own_up _ _) (H.grow ⟨rfl, rfl, rfl, Nat.le_refl _, fun _ _ => rfl⟩) (by simp only [List.mem_cons, List.not_mem_nil, or_false]; rintro k hk; rcases hk with rfl | rfl | rfl | rfl | rfl | rfl | rfl | rfl | rfl | rfl | rfl | rfl <;> first | trivial | exact fun v => fresh_upT _ _ v) ?_
  refine ⟨fun w1 hC _ => by exact rel_all hC _ rfl rfl (List.mem_cons_of_mem _ List.mem_cons_self), ?_⟩
  simp only [Act.put, List.setIfInBounds_toArray, List.set_cons_succ, List.set_cons_zero]
  refine ⟨fun w1 hC _ => by go_simp; first | exact Below.refl _ _ | exact ⟨Below.refl _ _, rfl⟩, ?_⟩
  simp only [Act.put, List.setIfInBounds_toArray, List.set_cons_succ, List.set_cons_zero]
  refine ⟨fun w1 hC _ => by go_simp; refine (wayOf_c _ _).mono ?_; rintro e w2 ⟨rfl, rfl⟩; exact ⟨rfl, Below.refl _ _⟩, ?_⟩
  simp only [Act.put, List.setIfInBounds_toArray, List.set_cons_succ, List.set_cons_zero]
  refine ⟨fun w1 hC _ => by go_simp; first | exact Below.refl _ _ | exact ⟨Below.refl _ _, rfl⟩, ?_⟩
  simp only [Act.put, List.setIfInBounds_toArray, List.set_cons_succ, List.set_cons_zero]
  refine ⟨fun w1 hC _ => by go_simp; first | exact Below.refl _ _ | exact ⟨Below.refl _ _, rfl⟩, ?_⟩
  simp only [Act.put, List.setIfInBounds_toArray, List.set_cons_succ, List.set_cons_zero]
  refine ⟨fun w1 hC _ => by go_simp; first | exact Below.refl _ _ | exact ⟨Below.refl _ _, rfl⟩, ?_⟩
  simp only [Act.put, List.setIfInBounds_toArray, List.set_cons_succ, List.set_cons_zero]
  refine ⟨fun w1 hC _ => by go_simp; first | exact Below.refl _ _ | exact ⟨Below.refl _ _, rfl⟩, ?_⟩
  simp only [Act.put, List.setIfInBounds_toArray, List.set_cons_succ, List.set_cons_zero]
  refine ⟨fun w1 hC _ => by go_simp; first | exact Below.refl _ _ | exact ⟨Below.refl _ _, rfl⟩, ?_⟩
  simp only [Act.put, List.setIfInBounds_toArray, List.set_cons_succ, List.set_cons_zero]
  refine ⟨fun w1 hC _ => by go_simp; first | exact Below.refl _ _ | exact ⟨Below.refl _ _, rfl⟩, ?_⟩
  simp only [Act.put, List.setIfInBounds_toArray, List.set_cons_succ, List.set_cons_zero]
  refine ⟨fun w1 hC _ => by go_simp; first | exact Below.refl _ _ | exact ⟨Below.refl _ _, rfl⟩, ?_⟩
  simp only [Act.put, List.setIfInBounds_toArray, List.set_cons_succ, List.set_cons_zero]
  refine ⟨fun w1 hC _ => by go_simp; refine (into_way _ _ _ _ _).mono ?_; rintro e w2 ⟨rfl, hb⟩; exact ⟨rfl, hb⟩, ?_⟩
  simp only [Act.put, List.setIfInBounds_toArray, List.set_cons_succ, List.set_cons_zero]
  refine ⟨fun w1 hC _ => ?_, fun vp => ?_⟩
  · go_simp
    exact ⟨r_below_alloc _ _, fresh_newT hC rfl⟩
  simp only [Act.put, List.setIfInBounds_toArray, List.set_cons_succ, List.set_cons_zero]
  clear H
  intro w2 H hf
  obtain ⟨b, Z, rfl, hb, hl, hrow, hZ⟩ := (hf 11).1 rfl
  clear hf
  simp only [List.drop_succ_cons, List.drop_zero]
  with_reducible refine wpList_store_row rfl 26 _ _ rfl b _ rfl rfl 26 Z hrow (Cor.info _) ?_ (Cor.one _) ?_
  focus (rw [hZ, Cor.size])
  replace H := H.lay hb hl hrow (intoV c (wayV k) E far)
  clear hrow hZ hl
  generalize w2.setRow b _ = w3 at H ⊢
  replace h21 := h21.out
  go_wp2_with (first | ((with_reducible refine wpList_all H rfl _ rfl rfl (by first | exact List.mem_cons_self | exact List.mem_cons_of_mem _ (List.mem_cons_self) | exact List.mem_cons_of_mem _ (List.mem_cons_of_mem _ (List.mem_cons_self)) | exact List.mem_cons_of_mem _ (List.mem_cons_of_mem _ (List.mem_cons_of_mem _ (List.mem_cons_self))) | exact List.mem_cons_of_mem _ (List.mem_cons_of_mem _ (List.mem_cons_of_mem _ (List.mem_cons_of_mem _ (List.mem_cons_self)))) | exact List.mem_cons_of_mem _ (List.mem_cons_of_mem _ (List.mem_cons_of_mem _ (List.mem_cons_of_mem _ (List.mem_cons_of_mem _ (List.mem_cons_self))))) | exact List.mem_cons_of_mem _ (List.mem_cons_of_mem _ (List.mem_cons_of_mem _ (List.mem_cons_of_mem _ (List.mem_cons_of_mem _ (List.mem_cons_of_mem _ (List.mem_cons_self))))))) ?_); simp only [Act.put, List.setIfInBounds_toArray, List.set_cons_succ, List.set_cons_zero]) | ((with_reducible refine wpList_get0 H rfl _ _ rfl _ rfl (by decide) _ (by first | exact Cor.a33 _ | exact Cor.a34 _ | exact Cor.a35 _ | exact Cor.a36 _ | exact Cor.a37 _ | exact Cor.a38 _ | exact Cor.a39 _ | exact Cor.a40 _ | exact Cor.a41 _ | exact Cor.a42 _ | exact Cor.a43 _ | exact Cor.a44 _ | exact Cor.a45 _ | exact Cor.a46 _ | exact Cor.a47 _ | exact Cor.a48 _) ?_); simp only [Act.put, List.setIfInBounds_toArray, List.set_cons_succ, List.set_cons_zero]) | ((with_reducible refine wpList_layI0 H rfl _ _ _ rfl _ rfl (by decide) _ _ rfl _ (by decide) (by first | exact Cor.s33 _ _ | exact Cor.s40 _ _ | exact Cor.s41 _ _ | exact Cor.s42 _ _ | exact Cor.s43 _ _ | exact Cor.s38 _ _ | exact Cor.s47 _ _ | exact Cor.s44 _ _ | exact Cor.s45 _ _ | exact Cor.s46 _ _) ?_); intro w2 H; simp only [Act.put]) | ((with_reducible refine wpList_row1 H rfl _ _ rfl rfl _ rfl ?_); intro w2 H; simp only [Act.put]))
  refine bodyPost_ret (back_two rfl _ _ _ _ _ _ rfl (H.get (by first | exact List.mem_cons_self | exact List.mem_cons_of_mem _ (List.mem_cons_self) | exact List.mem_cons_of_mem _ (List.mem_cons_of_mem _ (List.mem_cons_self)) | exact List.mem_cons_of_mem _ (List.mem_cons_of_mem _ (List.mem_cons_of_mem _ (List.mem_cons_self))) | exact List.mem_cons_of_mem _ (List.mem_cons_of_mem _ (List.mem_cons_of_mem _ (List.mem_cons_of_mem _ (List.mem_cons_self)))) | exact List.mem_cons_of_mem _ (List.mem_cons_of_mem _ (List.mem_cons_of_mem _ (List.mem_cons_of_mem _ (List.mem_cons_of_mem _ (List.mem_cons_self))))) | exact List.mem_cons_of_mem _ (List.mem_cons_of_mem _ (List.mem_cons_of_mem _ (List.mem_cons_of_mem _ (List.mem_cons_of_mem _ (List.mem_cons_of_mem _ (List.mem_cons_self))))))))) rfl ?_
  exact ⟨ret_cor (by subst h21; simp only [e4]), H.below⟩
set_option maxRecDepth 4000 in
set_option maxHeartbeats 4000000 in
theorem Enter_oth (c : Cor) (k iss far E : Int) (hr : rightC c = true) (h0 : 0 ≤ k) (h1 : k ≤ 63) (h2 : 0 ≤ iss) (h3 : iss ≤ 33554431) (hE : esrV k iss = E) (h21 : ¬ k = 21) (w : World) :
    Calls Tryz.prog 30 #[c.val, r_vI k, r_vI iss, vU far] w fun e w' => e = .returned (.tuple #[(intoV c (wayV k) E far : Cor).val, r_vI 0]) ∧ Below w.heap.size w w' := by
  have e1 := sh_class k h0 h1
  have e2 := or_esr k iss h0 h1 h2 h3
  have e3 := esr_u64 k iss h0 h1 h2 h3
  rw [hE] at e2 e3
  clear hE
  replace h21 : Hid (¬ k = 21) := h21
  go_enter Tryz.func30, Tryz.ntmps30
  go_upto_region 1 with fail
  generalize hW : (w.alloc (Obj.cells c.cells 26)).alloc _ = w1
  have H : Own w [(w.heap.size + 1, nilC), (w.heap.size, c)] w1 := by rw [← hW]; exact own_two c w _ (by kernel_rfl)
  clear hW
  go_upto_region 3 with (first | ((with_reducible refine wpList_all H rfl _ rfl rfl (by first | exact List.mem_cons_self | exact List.mem_cons_of_mem _ (List.mem_cons_self) | exact List.mem_cons_of_mem _ (List.mem_cons_of_mem _ (List.mem_cons_self)) | exact List.mem_cons_of_mem _ (List.mem_cons_of_mem _ (List.mem_cons_of_mem _ (List.mem_cons_self))) | exact List.mem_cons_of_mem _ (List.mem_cons_of_mem _ (List.mem_cons_of_mem _ (List.mem_cons_of_mem _ (List.mem_cons_self)))) | exact List.mem_cons_of_mem _ (List.mem_cons_of_mem _ (List.mem_cons_of_mem _ (List.mem_cons_of_mem _ (List.mem_cons_of_mem _ (List.mem_cons_self))))) | exact List.mem_cons_of_mem _ (List.mem_cons_of_mem _ (List.mem_cons_of_mem _ (List.mem_cons_of_mem _ (List.mem_cons_of_mem _ (List.mem_cons_of_mem _ (List.mem_cons_self))))))) ?_); simp only [Act.put, List.setIfInBounds_toArray, List.set_cons_succ, List.set_cons_zero]) | ((with_reducible refine wpList_get0 H rfl _ _ rfl _ rfl (by decide) _ (by first | exact Cor.a33 _ | exact Cor.a34 _ | exact Cor.a35 _ | exact Cor.a36 _ | exact Cor.a37 _ | exact Cor.a38 _ | exact Cor.a39 _ | exact Cor.a40 _ | exact Cor.a41 _ | exact Cor.a42 _ | exact Cor.a43 _ | exact Cor.a44 _ | exact Cor.a45 _ | exact Cor.a46 _ | exact Cor.a47 _ | exact Cor.a48 _) ?_); simp only [Act.put, List.setIfInBounds_toArray, List.set_cons_succ, List.set_cons_zero]) | ((with_reducible refine wpList_layI0 H rfl _ _ _ rfl _ rfl (by decide) _ _ rfl _ (by decide) (by first | exact Cor.s33 _ _ | exact Cor.s40 _ _ | exact Cor.s41 _ _ | exact Cor.s42 _ _ | exact Cor.s43 _ _ | exact Cor.s38 _ _ | exact Cor.s47 _ _ | exact Cor.s44 _ _ | exact Cor.s45 _ _ | exact Cor.s46 _ _) ?_); intro w2 H; simp only [Act.put]) | ((with_reducible refine wpList_row1 H rfl _ _ rfl rfl _ rfl ?_); intro w2 H; simp only [Act.put]) | (go_at_call 21; refine (Right_c _ _).mono ?_; rw [hr]; rintro e w1 ⟨rfl, hb⟩; replace H := H.grow hb; clear hb; dsimp only))
  refine Rel.wp_region_tail 12 Rel.Grows (Own w [(w.heap.size + 1, nilC), (w.heap.size, c)]) [.inl c.val, .inl (r_vI k), .inl (r_vI (wayV k)), .inl (r_vI k), .inl (r_vI (k * 67108864)), .inl (r_vI (bits .or .i64 (k * 67108864) 33554432)), .inl (r_vI iss), .inl (r_vI E), .inl (vU E), .inl (vU far), .inl (intoV c (wayV k) E far).val, .inr (FreshT w [(w.heap.size + 1, nilC), (w.heap.size, c)])] (by kernel_rfl) (by kernel_rfl) (own_up _ _) (H.grow ⟨rfl, rfl, rfl, Nat.le_refl _, fun _ _ => rfl⟩) (by simp only [List.mem_cons, List.not_mem_nil, or_false]; rintro k hk; rcases hk with rfl | rfl | rfl | rfl | rfl | rfl | rfl | rfl | rfl | rfl | rfl | rfl <;> first | trivial | exact fun v => fresh_upT _ _ v) ?_
  refine ⟨fun w1 hC _ => by exact rel_all hC _ rfl rfl (List.mem_cons_of_mem _ List.mem_cons_self), ?_⟩
  simp only [Act.put, List.setIfInBounds_toArray, List.set_cons_succ, List.set_cons_zero]
  refine ⟨fun w1 hC _ => by go_simp; first | exact Below.refl _ _ | exact ⟨Below.refl _ _, rfl⟩, ?_⟩
  simp only [Act.put, List.setIfInBounds_toArray, List.set_cons_succ, List.set_cons_zero]
  refine ⟨fun w1 hC _ => by go_simp; refine (wayOf_c _ _).mono ?_; rintro e w2 ⟨rfl, rfl⟩; exact ⟨rfl, Below.refl _ _⟩, ?_⟩
  simp only [Act.put, List.setIfInBounds_toArray, List.set_cons_succ, List.set_cons_zero]
  refine ⟨fun w1 hC _ => by go_simp; first | exact Below.refl _ _ | exact ⟨Below.refl _ _, rfl⟩, ?_⟩
  simp only [Act.put, List.setIfInBounds_toArray, List.set_cons_succ, List.set_cons_zero]
  refine ⟨fun w1 hC _ => by go_simp; first | exact Below.refl _ _ | exact ⟨Below.refl _ _, rfl⟩, ?_⟩
  simp only [Act.put, List.setIfInBounds_toArray, List.set_cons_succ, List.set_cons_zero]
  refine ⟨fun w1 hC _ => by go_simp; first | exact Below.refl _ _ | exact ⟨Below.refl _ _, rfl⟩, ?_⟩
  simp only [Act.put, List.setIfInBounds_toArray, List.set_cons_succ, List.set_cons_zero]
  refine ⟨fun w1 hC _ => by go_simp; first | exact Below.refl _ _ | exact ⟨Below.refl _ _, rfl⟩, ?_⟩
  simp only [Act.put, List.setIfInBounds_toArray, List.set_cons_succ, List.set_cons_zero]
  refine ⟨fun w1 hC _ => by go_simp; first | exact Below.refl _ _ | exact ⟨Below.refl _ _, rfl⟩, ?_⟩
  simp only [Act.put, List.setIfInBounds_toArray, List.set_cons_succ, List.set_cons_zero]
  refine ⟨fun w1 hC _ => by go_simp; first | exact Below.refl _ _ | exact ⟨Below.refl _ _, rfl⟩, ?_⟩
  simp only [Act.put, List.setIfInBounds_toArray, List.set_cons_succ, List.set_cons_zero]
  refine ⟨fun w1 hC _ => by go_simp; first | exact Below.refl _ _ | exact ⟨Below.refl _ _, rfl⟩, ?_⟩
  simp only [Act.put, List.setIfInBounds_toArray, List.set_cons_succ, List.set_cons_zero]
  refine ⟨fun w1 hC _ => by go_simp; refine (into_way _ _ _ _ _).mono ?_; rintro e w2 ⟨rfl, hb⟩; exact ⟨rfl, hb⟩, ?_⟩
  simp only [Act.put, List.setIfInBounds_toArray, List.set_cons_succ, List.set_cons_zero]
  refine ⟨fun w1 hC _ => ?_, fun vp => ?_⟩
  · go_simp
    exact ⟨r_below_alloc _ _, fresh_newT hC rfl⟩
  simp only [Act.put, List.setIfInBounds_toArray, List.set_cons_succ, List.set_cons_zero]
  clear H
  intro w2 H hf
  obtain ⟨b, Z, rfl, hb, hl, hrow, hZ⟩ := (hf 11).1 rfl
  clear hf
  simp only [List.drop_succ_cons, List.drop_zero]
  with_reducible refine wpList_store_row rfl 26 _ _ rfl b _ rfl rfl 26 Z hrow (Cor.info _) ?_ (Cor.one _) ?_
  focus (rw [hZ, Cor.size])
  replace H := H.lay hb hl hrow (intoV c (wayV k) E far)
  clear hrow hZ hl
  generalize w2.setRow b _ = w3 at H ⊢
  replace h21 := h21.out
  go_wp2_with (first | ((with_reducible refine wpList_all H rfl _ rfl rfl (by first | exact List.mem_cons_self | exact List.mem_cons_of_mem _ (List.mem_cons_self) | exact List.mem_cons_of_mem _ (List.mem_cons_of_mem _ (List.mem_cons_self)) | exact List.mem_cons_of_mem _ (List.mem_cons_of_mem _ (List.mem_cons_of_mem _ (List.mem_cons_self))) | exact List.mem_cons_of_mem _ (List.mem_cons_of_mem _ (List.mem_cons_of_mem _ (List.mem_cons_of_mem _ (List.mem_cons_self)))) | exact List.mem_cons_of_mem _ (List.mem_cons_of_mem _ (List.mem_cons_of_mem _ (List.mem_cons_of_mem _ (List.mem_cons_of_mem _ (List.mem_cons_self))))) | exact List.mem_cons_of_mem _ (List.mem_cons_of_mem _ (List.mem_cons_of_mem _ (List.mem_cons_of_mem _ (List.mem_cons_of_mem _ (List.mem_cons_of_mem _ (List.mem_cons_self))))))) ?_); simp only [Act.put, List.setIfInBounds_toArray, List.set_cons_succ, List.set_cons_zero]) | ((with_reducible refine wpList_get0 H rfl _ _ rfl _ rfl (by decide) _ (by first | exact Cor.a33 _ | exact Cor.a34 _ | exact Cor.a35 _ | exact Cor.a36 _ | exact Cor.a37 _ | exact Cor.a38 _ | exact Cor.a39 _ | exact Cor.a40 _ | exact Cor.a41 _ | exact Cor.a42 _ | exact Cor.a43 _ | exact Cor.a44 _ | exact Cor.a45 _ | exact Cor.a46 _ | exact Cor.a47 _ | exact Cor.a48 _) ?_); simp only [Act.put, List.setIfInBounds_toArray, List.set_cons_succ, List.set_cons_zero]) | ((with_reducible refine wpList_layI0 H rfl _ _ _ rfl _ rfl (by decide) _ _ rfl _ (by decide) (by first | exact Cor.s33 _ _ | exact Cor.s40 _ _ | exact Cor.s41 _ _ | exact Cor.s42 _ _ | exact Cor.s43 _ _ | exact Cor.s38 _ _ | exact Cor.s47 _ _ | exact Cor.s44 _ _ | exact Cor.s45 _ _ | exact Cor.s46 _ _) ?_); intro w2 H; simp only [Act.put]) | ((with_reducible refine wpList_row1 H rfl _ _ rfl rfl _ rfl ?_); intro w2 H; simp only [Act.put]))
  refine bodyPost_ret (back_two rfl _ _ _ _ _ _ rfl (H.get (by first | exact List.mem_cons_self | exact List.mem_cons_of_mem _ (List.mem_cons_self) | exact List.mem_cons_of_mem _ (List.mem_cons_of_mem _ (List.mem_cons_self)) | exact List.mem_cons_of_mem _ (List.mem_cons_of_mem _ (List.mem_cons_of_mem _ (List.mem_cons_self))) | exact List.mem_cons_of_mem _ (List.mem_cons_of_mem _ (List.mem_cons_of_mem _ (List.mem_cons_of_mem _ (List.mem_cons_self)))) | exact List.mem_cons_of_mem _ (List.mem_cons_of_mem _ (List.mem_cons_of_mem _ (List.mem_cons_of_mem _ (List.mem_cons_of_mem _ (List.mem_cons_self))))) | exact List.mem_cons_of_mem _ (List.mem_cons_of_mem _ (List.mem_cons_of_mem _ (List.mem_cons_of_mem _ (List.mem_cons_of_mem _ (List.mem_cons_of_mem _ (List.mem_cons_self))))))))) rfl ?_
  exact ⟨rfl, H.below⟩
theorem Enter_c (c : Cor) (k iss far : Int) (w : World) :
    Calls Tryz.prog 30 #[c.val, r_vI k, r_vI iss, vU far] w fun e w' => e = .returned (.tuple #[(enterV c k iss far).val, r_vI (errB (entB c k iss))]) ∧ Below w.heap.size w w' := by
  unfold enterV
  cases hr : rightC c with
  | false => simpa [entB, hr, errB] using Enter_nor c k iss far hr w
  | true =>
    by_cases h0 : k < 0
    · simpa [entB, hr, errB, show ¬ 0 ≤ k by omega] using Enter_noa c k iss far hr h0 w
    by_cases h1 : 63 < k
    · simpa [entB, hr, errB, show ¬ k ≤ 63 by omega] using Enter_nob c k iss far hr (by omega) h1 w
    by_cases h2 : iss < 0
    · simpa [entB, hr, errB, show ¬ 0 ≤ iss by omega] using Enter_noc c k iss far hr (by omega) (by omega) h2 w
    by_cases h3 : 33554431 < iss
    · simpa [entB, hr, errB, show ¬ iss ≤ 33554431 by omega] using Enter_nod c k iss far hr (by omega) (by omega) (by omega) h3 w
    have hb : entB c k iss = true := by simp [entB, hr]; omega
    rw [hb]
    unfold entC svcV
    by_cases h21 : k = 21
    · rw [if_pos h21]
      exact Enter_svc c k iss far (esrV k iss) hr (by omega) (by omega) (by omega) (by omega) rfl h21 (((intoV c (wayV k) (esrV k iss) far).elr + 4) % 18446744073709551616) (IntKind.wrap_u64 _) w
    · rw [if_neg h21]
      exact Enter_oth c k iss far (esrV k iss) hr (by omega) (by omega) (by omega) (by omega) rfl h21 w
end Go.Proofs.YtbjcdpmhmebjnaaGreat
/- End, where there is no exception, and where there is one: contracts. -/
namespace Go.Proofs.YtbjcdpmhmebjnaaGreat
open Go.RowKit
set_option linter.unusedVariables false

set_option maxRecDepth 8000 in
set_option maxHeartbeats 8000000 in
theorem End_n (c d : Cor) (word : Int) (i : Ins) (k : Gt) (p : Int) (w : World) (hdec : ∀ w : World, Calls Tryz.prog 15 #[.int .u32 word] w fun e w' => e = .returned i.val ∧ Below w.heap.size w w') (F : Fine i) (hr : rightC c = true)
    (V : Wnt) (hV : wantV c i = V) (hX : ∀ w : World, Calls Tryz.prog 29 #[V.val, k.val, .int .i64 c.el] w fun e w' => e = .returned (.tuple #[.agg exZ, .bool false]) ∧ Below w.heap.size w w') (hp : IntKind.u64.wrap (c.pc + 4) = p)
    (hdo : ∀ (g : Nat) (w : World), w.heap[g]? = some (.cells (Stp.cells ⟨i, { c with pc := p }, k, 0⟩) 58) → Calls Tryz.prog 54 #[.pointer (some ⟨g, 0, none⟩)] w fun e w' => e = .returned (.tuple #[]) ∧ w'.heap[g]? = some (.cells (Stp.cells ⟨i, d, k, 0⟩) 58) ∧ But g w w') :
    Calls Tryz.prog 13 #[c.val, .int .u32 word, k.val] w fun e w' => e = .returned (.tuple #[d.val, .int .i64 0]) ∧ Below w.heap.size w w' := by
  go_enter Tryz.func13, Tryz.ntmps13
  go_upto_region 1 with fail
  generalize hw1 : ((w.alloc _).alloc _).alloc _ = w1
  obtain ⟨Z, hZ, H⟩ : ∃ Z : Array Value, Z.size = 49 ∧ Has w [(w.heap.size + 2, Z, 26), (w.heap.size + 1, k.cells, 40), (w.heap.size, c.cells, 26)] w1 := by
    refine ⟨_, ?_, by rw [← hw1]; exact three_start w c.cells k.cells _ 26 40 26⟩
    rfl
  clear hw1
  generalize hb : w.heap.size = b at H ⊢
  have hne : ∀ p ∈ [(b + 1, k.cells, (40 : TypeId)), (b, c.cells, (26 : TypeId))], p.1 ≠ b + 2 := by intro p hp; simp at hp; rcases hp with rfl | rfl <;> simp
  go_upto_region 3 with (first | ((with_reducible refine wpList_load_ifA rfl 26 _ rfl b rfl 26 _ (0, 0) _ (H.get (List.mem_cons_of_mem _ (List.mem_cons_of_mem _ List.mem_cons_self))) Tryz.underlying26 rfl (Cor.info _) ?_); simp only [Act.put, List.setIfInBounds_toArray, List.set_cons_succ, List.set_cons_zero]) | (go_at_call 21; refine (Right_c c _).mono ?_; rw [hr]; rintro e w2 ⟨rfl, hB⟩; dsimp only; replace H := H.grow hB))
  refine Rel.wp_region_tail 6 Rel.Grows (fun x => Has w [(b + 2, Z, 26), (b + 1, k.cells, 40), (b, c.cells, 26)] x) [.inl (.int .u32 word), .inl i.val, .inl c.val, .inl k.val, .inl (.agg (Stp.cells ⟨i, c, k, 0⟩)), .inr (FreshS (b + 2))] (by kernel_rfl) (by kernel_rfl) (fun _ _ hh hb => hh.grow hb) (H.grow ⟨rfl, rfl, rfl, Nat.le_refl _, fun _ _ => rfl⟩) (by simp only [List.mem_cons, List.not_mem_nil, or_false]; rintro k hk; rcases hk with rfl | rfl | rfl | rfl | rfl | rfl <;> first | trivial | exact fun v => freshS_up _ v) ?_
  refine ⟨fun w1 hC _ => by go_simp; exact Below.refl _ _, ?_⟩
  simp only [Act.put, List.setIfInBounds_toArray, List.set_cons_succ, List.set_cons_zero]
  refine ⟨fun w1 hC _ => by go_simp; refine (hdec w1).mono ?_; rintro e w2 ⟨rfl, hb⟩; exact ⟨rfl, hb⟩, ?_⟩
  simp only [Act.put, List.setIfInBounds_toArray, List.set_cons_succ, List.set_cons_zero]
  refine ⟨fun w1 hC _ => rel_load_c _ rfl b rfl (hC.get (List.mem_cons_of_mem _ (List.mem_cons_of_mem _ List.mem_cons_self))), ?_⟩
  simp only [Act.put, List.setIfInBounds_toArray, List.set_cons_succ, List.set_cons_zero]
  refine ⟨fun w1 hC _ => rel_load_g _ rfl (b + 1) rfl (hC.get (List.mem_cons_of_mem _ List.mem_cons_self)), ?_⟩
  simp only [Act.put, List.setIfInBounds_toArray, List.set_cons_succ, List.set_cons_zero]
  refine ⟨fun w1 hC _ => rel_built_s _ rfl ⟨i, c, k, 0⟩ [(0, i.val), (1, c.val), (2, k.val)] (by simp only [Array.toList_map, List.map_cons, List.map_nil]; rfl) (built53g _ _ _), ?_⟩
  simp only [Act.put, List.setIfInBounds_toArray, List.set_cons_succ, List.set_cons_zero]
  refine ⟨fun w1 hC _ => ?_, fun vp => ?_⟩
  · go_simp
    exact ⟨r_below_alloc _ _, _, _, rfl, (Array.getElem?_eq_some_iff.1 (hC.get List.mem_cons_self)).1, heap_alloc_new _ _, rfl⟩
  simp only [Act.put, List.setIfInBounds_toArray, List.set_cons_succ, List.set_cons_zero]
  clear H
  intro w3 H hfr
  obtain ⟨g, Zs, rfl, hg, hrow, hZs⟩ := (hfr 5).1 rfl
  clear hfr
  simp only [List.drop_succ_cons, List.drop_zero]
  have hLg : ∀ p ∈ [(b + 2, Z, (26 : TypeId)), (b + 1, k.cells, (40 : TypeId)), (b, c.cells, (26 : TypeId))], p.1 ≠ g := by intro p hp; simp at hp; rcases hp with rfl | rfl | rfl <;> simp <;> omega
  with_reducible refine wpList_store_row rfl 58 _ _ rfl g _ rfl rfl 58 Zs hrow (Stp.info _) ?_ (Stp.one _) ?_
  focus (rw [hZs, Stp.size])
  have hs := setRow_heap w3 g Zs (Stp.cells ⟨i, c, k, 0⟩) 58 (0, 0) hrow
  have H2 := Has.of (H.but (but_setRow g w3 (Stp.cells ⟨i, c, k, 0⟩)) (by omega) hLg) (by omega) hs
  clear H hrow hs
  generalize w3.setRow g _ = w4 at H2 ⊢
  go_upto_region 4 with fail
  have hLe : ∀ p ∈ [(g, Stp.cells ⟨i, c, k, 0⟩, (58 : TypeId)), (b + 2, Z, (26 : TypeId)), (b + 1, k.cells, (40 : TypeId)), (b, c.cells, (26 : TypeId))], p.1 ≤ g := by intro p hp; simp at hp; rcases hp with rfl | rfl | rfl | rfl <;> simp <;> omega
  refine Rel.wp_region_rel (GX g) (fun x => Has w [(g, Stp.cells ⟨i, c, k, 0⟩, 58), (b + 2, Z, 26), (b + 1, k.cells, 40), (b, c.cells, 26)] x) [.inl V.val, .inl k.val, .inl (.pointer (some ⟨b, 38, none⟩)), .inl (.int .i64 c.el), .inl (.tuple #[.agg exZ, .bool false]), .inl (.tuple #[.agg exZ, .bool false]), .inl (.agg exZ), .inl (.bool false), .inr (FreshX g), .inl undef, .inl (.bool false)] (by kernel_rfl) (by kernel_rfl) (has_upX (by omega) hLe) (H2.grow ⟨rfl, rfl, rfl, Nat.le_refl _, fun _ _ => rfl⟩) (by simp only [List.mem_cons, List.not_mem_nil, or_false]; rintro k hk; rcases hk with rfl | rfl | rfl | rfl | rfl | rfl | rfl | rfl | rfl | rfl | rfl <;> first | trivial | exact fun v => freshX_upX _ v) ?_
  refine ⟨fun w1 hC _ => by go_simp; refine (want_c g ⟨i, c, k, 0⟩ w1 (hC.get List.mem_cons_self) F (right_el hr)).mono ?_; rintro e w2 ⟨rfl, hb⟩; first | exact gx_below hb | exact ⟨by rw [← hV], gx_below hb⟩, ?_⟩
  simp only [Act.put, List.setIfInBounds_toArray, List.set_cons_succ, List.set_cons_zero]
  refine ⟨fun w1 hC _ => relX_load_g _ rfl (b + 1) rfl (hC.get (List.mem_cons_of_mem _ (List.mem_cons_of_mem _ List.mem_cons_self))), ?_⟩
  simp only [Act.put, List.setIfInBounds_toArray, List.set_cons_succ, List.set_cons_zero]
  refine ⟨fun w1 hC _ => by go_simp; exact gx_below (Below.refl _ _), ?_⟩
  simp only [Act.put, List.setIfInBounds_toArray, List.set_cons_succ, List.set_cons_zero]
  refine ⟨fun w1 hC _ => by have hq := hC.at (List.mem_cons_of_mem _ (List.mem_cons_of_mem _ (List.mem_cons_of_mem _ List.mem_cons_self))) 38 (.int .i64 c.el) c.a38; go_simp; exact gx_below (Below.refl _ _), ?_⟩
  simp only [Act.put, List.setIfInBounds_toArray, List.set_cons_succ, List.set_cons_zero]
  refine ⟨fun w1 hC _ => by go_simp; refine (hX w1).mono ?_; rintro e w2 ⟨rfl, hb⟩; first | exact ⟨rfl, gx_below hb⟩ | exact ⟨_, rfl, gx_below hb, rfl⟩, ?_⟩
  simp only [Act.put, List.setIfInBounds_toArray, List.set_cons_succ, List.set_cons_zero]
  refine ⟨fun w1 hC _ => by go_simp; first | exact gx_below (Below.refl _ _) | exact ⟨gx_below (Below.refl _ _), rfl⟩, ?_⟩
  simp only [Act.put, List.setIfInBounds_toArray, List.set_cons_succ, List.set_cons_zero]
  refine ⟨fun w1 hC _ => by go_simp; first | exact gx_below (Below.refl _ _) | exact ⟨gx_below (Below.refl _ _), rfl⟩, ?_⟩
  simp only [Act.put, List.setIfInBounds_toArray, List.set_cons_succ, List.set_cons_zero]
  refine ⟨fun w1 hC _ => by go_simp; first | exact gx_below (Below.refl _ _) | exact ⟨gx_below (Below.refl _ _), rfl⟩, ?_⟩
  simp only [Act.put, List.setIfInBounds_toArray, List.set_cons_succ, List.set_cons_zero]
  refine ⟨fun w1 hC _ => ?_, fun vp => ?_⟩
  · go_simp
    exact ⟨gx_below (r_below_alloc _ _), _, _, rfl, (Array.getElem?_eq_some_iff.1 (hC.get List.mem_cons_self)).1, heap_alloc_new _ _, rfl⟩
  simp only [Act.put, List.setIfInBounds_toArray, List.set_cons_succ, List.set_cons_zero]
  refine ⟨fun w1 hC hF => relX_store_x _ _ rfl vp rfl rfl ((hF 8 (by kernel_rfl)).1 rfl), ?_⟩
  simp only [Act.put]
  refine ⟨fun w1 hC _ => by go_simp; first | exact gx_below (Below.refl _ _) | exact ⟨gx_below (Below.refl _ _), rfl⟩, ?_⟩
  simp only [Act.put, List.setIfInBounds_toArray, List.set_cons_succ, List.set_cons_zero]
  clear H2
  intro w6 H3 hfr
  clear hfr
  have hs := H3.get List.mem_cons_self
  have H : Has w [(b + 2, Z, 26), (b + 1, k.cells, 40), (b, c.cells, 26)] w6 := ⟨H3.below, fun p hp => H3.box p (List.mem_cons_of_mem _ hp)⟩
  clear H3
  go_wp2_with (first | (go_at_call 31; refine (end_c g i c d k p _ hs hp (hdo g)).mono ?_; rintro e w7 ⟨rfl, hB7⟩; dsimp only; replace H := H.but hB7 (by omega) hLg) | ((with_reducible refine wpList_store_over rfl 26 H hne _ _ rfl d.cells rfl rfl (Cor.info _) ?_ (Cor.one _) ?_); (focus (rw [hZ, Cor.size])); intro w9 H; simp only [Act.put]))
  refine bodyPost_ret (back_two rfl _ _ _ _ _ _ rfl (H.get List.mem_cons_self)) rfl ⟨rfl, by first | exact H.below | (rw [← hb]; exact H.below)⟩
/-- The variables of End behind the first calls of its region, and the new variable of an exception. -/
def PhE (w0 : World) (L : List (Nat × Array Value × TypeId)) (g : Nat) (E : Array Value) (j : Nat) (ou : Option Value) (w : World) : Prop :=
  Has w0 L w ∧ ∀ v, ou = some v → ∃ bx Zx, v = .pointer (some ⟨bx, 0, none⟩) ∧ g < bx ∧ Zx.size = 3 ∧ w.heap[bx]? = some (.cells Zx 65) ∧ (3 ≤ j → Zx = E)
theorem PhE.grow {w0 : World} {L : List (Nat × Array Value × TypeId)} {g : Nat} {E : Array Value} {j j' : Nat} {ou : Option Value} {w w' : World} (h : PhE w0 L g E j ou w) (hb : Below w.heap.size w w') (hj : 3 ≤ j' → 3 ≤ j) : PhE w0 L g E j' ou w' :=
  ⟨h.1.grow hb, fun v e => by
    obtain ⟨bx, Zx, h1, h2, h3, h4, h5⟩ := h.2 v e
    exact ⟨bx, Zx, h1, h2, h3, keep_row h4 hb, fun hh => h5 (hj hh)⟩⟩
theorem phE_new {w0 : World} {L : List (Nat × Array Value × TypeId)} {g : Nat} {E Z : Array Value} {j : Nat} {w : World} (h : PhE w0 L g E j none w) (hj : j ≤ 2) (hg : g < w.heap.size) (hZ : Z.size = 3) : PhE w0 L g E j (some (.pointer (some ⟨w.heap.size, 0, none⟩))) (w.alloc (.cells Z 65)) :=
  ⟨h.1.grow (r_below_alloc _ _), fun v e => by
    obtain rfl := Option.some.inj e
    exact ⟨_, Z, rfl, hg, hZ, heap_alloc_new _ _, fun hh => absurd hh (by omega)⟩⟩
theorem phE_store {w0 : World} {L : List (Nat × Array Value × TypeId)} {g : Nat} {cls iss far : Int} {w : World} {v : Value} (h : PhE w0 L g (exC cls iss far) 2 (some v) w) (h0 : w0.heap.size ≤ g) (hL : ∀ p ∈ L, p.1 ≤ g) {o : Oper} {a : Act} (x y : Operand) (ho : o.op = .store 65 x y) (hx : a.eval x = v) (hy : a.eval y = .agg (exC cls iss far)) :
    Chn.upon Tryz.prog (fun u w' => u = undef ∧ PhE w0 L g (exC cls iss far) 3 (some v) w') w ((execOp a.eval o).run Tryz.prog w) := by
  obtain ⟨bx, Zx, h1, h2, h3, h4, -⟩ := h.2 v rfl
  have hst := run_storeVar_row (P := Tryz.prog) w bx 65 65 Zx (exC cls iss far) h4 (exC_info _ _ _) (by rw [h3]; rfl) (exC_one _ _ _)
  subst h1
  unfold execOp
  simp only [ho, hx, hy, Instr.storeAt, Instr.sureAddr, Sem.run_bind, Sem.run_pure, Result.andThen_ok, hst]
  refine ⟨rfl, h.1.but (but_setRow _ _ _) (by omega) (fun p hp => by have := hL p hp; omega), fun v e => ?_⟩
  obtain rfl := Option.some.inj e
  exact ⟨bx, _, rfl, h2, rfl, setRow_heap _ _ _ _ _ _ h4, fun _ => rfl⟩
theorem chn_load_g {o : Oper} {a : Act} {w : World} {Cw : World → Prop} {k : Gt} (hC : Cw w) (x : Operand) (ho : o.op = .load 40 x) (g : Nat) (hx : a.eval x = .pointer (some ⟨g, 0, none⟩)) (hg : w.heap[g]? = some (.cells k.cells 40)) :
    Chn.upon Tryz.prog (fun v w' => v = k.val ∧ Cw w') w ((execOp a.eval o).run Tryz.prog w) := by
  unfold execOp
  simp only [ho, hx, Instr.loadAt, Instr.sureAddr, Sem.run_bind, Sem.run_pure, Result.andThen_ok, run_loadVar_row w g 40 40 k.cells (0, 0) _ hg Tryz.underlying40 rfl k.info]
  exact ⟨rfl, hC⟩
set_option maxRecDepth 8000 in
set_option maxHeartbeats 8000000 in
theorem End_x (c : Cor) (word : Int) (i : Ins) (k : Gt) (w : World) (hdec : ∀ w : World, Calls Tryz.prog 15 #[.int .u32 word] w fun e w' => e = .returned i.val ∧ Below w.heap.size w w') (F : Fine i) (hr : rightC c = true)
    (V : Wnt) (hV : wantV c i = V) (cls iss far : Int) (hX : ∀ w : World, Calls Tryz.prog 29 #[V.val, k.val, .int .i64 c.el] w fun e w' => e = .returned (.tuple #[.agg (exC cls iss far), .bool true]) ∧ Below w.heap.size w w') :
    Calls Tryz.prog 13 #[c.val, .int .u32 word, k.val] w fun e w' => e = .returned (.tuple #[(enterV c cls iss far).val, .int .i64 (errB (entB c cls iss))]) ∧ Below w.heap.size w w' := by
  go_enter Tryz.func13, Tryz.ntmps13
  go_upto_region 1 with fail
  generalize hw1 : ((w.alloc _).alloc _).alloc _ = w1
  obtain ⟨Z, hZ, H⟩ : ∃ Z : Array Value, Z.size = 49 ∧ Has w [(w.heap.size + 2, Z, 26), (w.heap.size + 1, k.cells, 40), (w.heap.size, c.cells, 26)] w1 := by
    refine ⟨_, ?_, by rw [← hw1]; exact three_start w c.cells k.cells _ 26 40 26⟩
    rfl
  clear hw1
  generalize hb : w.heap.size = b at H ⊢
  have hne : ∀ p ∈ [(b + 1, k.cells, (40 : TypeId)), (b, c.cells, (26 : TypeId))], p.1 ≠ b + 2 := by intro p hp; simp at hp; rcases hp with rfl | rfl <;> simp
  go_upto_region 3 with (first | ((with_reducible refine wpList_load_ifA rfl 26 _ rfl b rfl 26 _ (0, 0) _ (H.get (List.mem_cons_of_mem _ (List.mem_cons_of_mem _ List.mem_cons_self))) Tryz.underlying26 rfl (Cor.info _) ?_); simp only [Act.put, List.setIfInBounds_toArray, List.set_cons_succ, List.set_cons_zero]) | (go_at_call 21; refine (Right_c c _).mono ?_; rw [hr]; rintro e w2 ⟨rfl, hB⟩; dsimp only; replace H := H.grow hB))
  refine Rel.wp_region_tail 6 Rel.Grows (fun x => Has w [(b + 2, Z, 26), (b + 1, k.cells, 40), (b, c.cells, 26)] x) [.inl (.int .u32 word), .inl i.val, .inl c.val, .inl k.val, .inl (.agg (Stp.cells ⟨i, c, k, 0⟩)), .inr (FreshS (b + 2))] (by kernel_rfl) (by kernel_rfl) (fun _ _ hh hb => hh.grow hb) (H.grow ⟨rfl, rfl, rfl, Nat.le_refl _, fun _ _ => rfl⟩) (by simp only [List.mem_cons, List.not_mem_nil, or_false]; rintro k hk; rcases hk with rfl | rfl | rfl | rfl | rfl | rfl <;> first | trivial | exact fun v => freshS_up _ v) ?_
  refine ⟨fun w1 hC _ => by go_simp; exact Below.refl _ _, ?_⟩
  simp only [Act.put, List.setIfInBounds_toArray, List.set_cons_succ, List.set_cons_zero]
  refine ⟨fun w1 hC _ => by go_simp; refine (hdec w1).mono ?_; rintro e w2 ⟨rfl, hb⟩; exact ⟨rfl, hb⟩, ?_⟩
  simp only [Act.put, List.setIfInBounds_toArray, List.set_cons_succ, List.set_cons_zero]
  refine ⟨fun w1 hC _ => rel_load_c _ rfl b rfl (hC.get (List.mem_cons_of_mem _ (List.mem_cons_of_mem _ List.mem_cons_self))), ?_⟩
  simp only [Act.put, List.setIfInBounds_toArray, List.set_cons_succ, List.set_cons_zero]
  refine ⟨fun w1 hC _ => rel_load_g _ rfl (b + 1) rfl (hC.get (List.mem_cons_of_mem _ List.mem_cons_self)), ?_⟩
  simp only [Act.put, List.setIfInBounds_toArray, List.set_cons_succ, List.set_cons_zero]
  refine ⟨fun w1 hC _ => rel_built_s _ rfl ⟨i, c, k, 0⟩ [(0, i.val), (1, c.val), (2, k.val)] (by simp only [Array.toList_map, List.map_cons, List.map_nil]; rfl) (built53g _ _ _), ?_⟩
  simp only [Act.put, List.setIfInBounds_toArray, List.set_cons_succ, List.set_cons_zero]
  refine ⟨fun w1 hC _ => ?_, fun vp => ?_⟩
  · go_simp
    exact ⟨r_below_alloc _ _, _, _, rfl, (Array.getElem?_eq_some_iff.1 (hC.get List.mem_cons_self)).1, heap_alloc_new _ _, rfl⟩
  simp only [Act.put, List.setIfInBounds_toArray, List.set_cons_succ, List.set_cons_zero]
  clear H
  intro w3 H hfr
  obtain ⟨g, Zs, rfl, hg, hrow, hZs⟩ := (hfr 5).1 rfl
  clear hfr
  simp only [List.drop_succ_cons, List.drop_zero]
  have hLg : ∀ p ∈ [(b + 2, Z, (26 : TypeId)), (b + 1, k.cells, (40 : TypeId)), (b, c.cells, (26 : TypeId))], p.1 ≠ g := by intro p hp; simp at hp; rcases hp with rfl | rfl | rfl <;> simp <;> omega
  with_reducible refine wpList_store_row rfl 58 _ _ rfl g _ rfl rfl 58 Zs hrow (Stp.info _) ?_ (Stp.one _) ?_
  focus (rw [hZs, Stp.size])
  have hs := setRow_heap w3 g Zs (Stp.cells ⟨i, c, k, 0⟩) 58 (0, 0) hrow
  have H2 := Has.of (H.but (but_setRow g w3 (Stp.cells ⟨i, c, k, 0⟩)) (by omega) hLg) (by omega) hs
  clear H hrow hs
  generalize w3.setRow g _ = w4 at H2 ⊢
  go_upto_region 4 with fail
  have hLe : ∀ p ∈ [(g, Stp.cells ⟨i, c, k, 0⟩, (58 : TypeId)), (b + 2, Z, (26 : TypeId)), (b + 1, k.cells, (40 : TypeId)), (b, c.cells, (26 : TypeId))], p.1 ≤ g := by intro p hp; simp at hp; rcases hp with rfl | rfl | rfl | rfl <;> simp <;> omega
  have hg0 : w.heap.size ≤ g := by omega
  refine Chn.wp_region_chainF (PhE w [(g, Stp.cells ⟨i, c, k, 0⟩, 58), (b + 2, Z, 26), (b + 1, k.cells, 40), (b, c.cells, 26)] g (exC cls iss far)) [0, 4, 9] [3, 3, 3, 3, 3, 3, 3, 3, 2, 3, 3] 8 (fun v => [(V.val), (k.val), (.pointer (some ⟨b, 38, none⟩)), (.int .i64 c.el), (.tuple #[.agg (exC cls iss far), .bool true]), (.tuple #[.agg (exC cls iss far), .bool true]), (.agg (exC cls iss far)), (.bool true), (v), (undef), (.bool true)]) (by kernel_rfl) (by kernel_rfl) (by kernel_rfl) (by kernel_rfl) (by kernel_rfl) (by kernel_rfl) (fun v q hq => by match q, hq with | 0, _ => rfl | 1, _ => rfl | 2, _ => rfl | 3, _ => rfl | 4, _ => rfl | 5, _ => rfl | 6, _ => rfl | 7, _ => rfl | 8, hq => exact absurd rfl hq | 9, _ => rfl | 10, _ => rfl | _ + 11, _ => rfl) (fun v => rfl) (by decide) ⟨H2.grow ⟨rfl, rfl, rfl, Nat.le_refl _, fun _ _ => rfl⟩, fun _ e => absurd e (by simp)⟩ ?_
  intro v
  refine ⟨fun ou w1 hn hC => by exact Chn.upon_call (want_c g ⟨i, c, k, 0⟩ w1 (hC.1.get List.mem_cons_self) F (right_el hr)) (fun e2 w2 hh => ⟨by rw [hh.1, ← hV], PhE.grow hC hh.2 (by omega)⟩) (fun F hF => by (go_simp <;> exact hF)), ?_⟩
  simp only [Act.put, List.setIfInBounds_toArray, List.set_cons_succ, List.set_cons_zero]
  refine ⟨fun j ou w1 hj hn hC => by exact chn_load_g hC _ rfl (b + 1) rfl (hC.1.get (List.mem_cons_of_mem _ (List.mem_cons_of_mem _ List.mem_cons_self))), ?_⟩
  simp only [Act.put, List.setIfInBounds_toArray, List.set_cons_succ, List.set_cons_zero]
  refine ⟨fun j ou w1 hj hn hC => by exact Chn.upon_pure hC (fun F hF => by (go_simp <;> exact hF)), ?_⟩
  simp only [Act.put, List.setIfInBounds_toArray, List.set_cons_succ, List.set_cons_zero]
  refine ⟨fun j ou w1 hj hn hC => by have hq := hC.1.at (List.mem_cons_of_mem _ (List.mem_cons_of_mem _ (List.mem_cons_of_mem _ List.mem_cons_self))) 38 (.int .i64 c.el) c.a38; exact Chn.upon_pure hC (fun F hF => by (go_simp <;> exact hF)), ?_⟩
  simp only [Act.put, List.setIfInBounds_toArray, List.set_cons_succ, List.set_cons_zero]
  refine ⟨fun ou w1 hn hC => by exact Chn.upon_call (hX w1) (fun e2 w2 hh => ⟨hh.1, PhE.grow hC hh.2 (by omega)⟩) (fun F hF => by (go_simp <;> exact hF)), ?_⟩
  simp only [Act.put, List.setIfInBounds_toArray, List.set_cons_succ, List.set_cons_zero]
  refine ⟨fun j ou w1 hj hn hC => by exact Chn.upon_pure hC (fun F hF => by (go_simp <;> exact hF)), ?_⟩
  simp only [Act.put, List.setIfInBounds_toArray, List.set_cons_succ, List.set_cons_zero]
  refine ⟨fun j ou w1 hj hn hC => by exact Chn.upon_pure hC (fun F hF => by (go_simp <;> exact hF)), ?_⟩
  simp only [Act.put, List.setIfInBounds_toArray, List.set_cons_succ, List.set_cons_zero]
  refine ⟨fun j ou w1 hj hn hC => by exact Chn.upon_pure hC (fun F hF => by (go_simp <;> exact hF)), ?_⟩
  simp only [Act.put, List.setIfInBounds_toArray, List.set_cons_succ, List.set_cons_zero]
  refine ⟨fun j w1 hj hC => ?_, ?_⟩
  · replace hj : j ≤ 2 := hj
    have hgl := (Array.getElem?_eq_some_iff.1 (hC.1.get List.mem_cons_self)).1
    go_simp
    exact phE_new hC hj hgl rfl
  simp only [Act.put, List.setIfInBounds_toArray, List.set_cons_succ, List.set_cons_zero]
  refine ⟨fun ou w1 hn hC => by (obtain rfl := hn (by kernel_rfl)); exact phE_store hC hg0 hLe _ _ rfl rfl rfl, ?_⟩
  simp only [Act.put]
  refine ⟨fun j ou w1 hj hn hC => by exact Chn.upon_pure hC (fun F hF => by (go_simp <;> exact hF)), ?_⟩
  simp only [Act.put, List.setIfInBounds_toArray, List.set_cons_succ, List.set_cons_zero]
  clear H2
  intro w6 hP
  obtain ⟨H3, hx3⟩ := hP
  obtain ⟨bx, Zx, rfl, -, -, hrow, hE3⟩ := hx3 v rfl
  obtain rfl := hE3 (Nat.le_refl _)
  have x0 := cell_of_row w6 bx 0 _ _ _ hrow
  have x1 := cell_of_row w6 bx 1 _ _ _ hrow
  have x2 := cell_of_row w6 bx 2 _ _ _ hrow
  replace x0 : w6.cell? ⟨bx, 0, none⟩ = some (.int .i64 cls) := x0
  replace x1 : w6.cell? ⟨bx, 1, none⟩ = some (.int .i64 iss) := x1
  replace x2 : w6.cell? ⟨bx, 2, none⟩ = some (.int .u64 far) := x2
  clear hrow hx3 hE3
  have H : Has w [(b + 2, Z, 26), (b + 1, k.cells, 40), (b, c.cells, 26)] w6 := ⟨H3.below, fun p hp => H3.box p (List.mem_cons_of_mem _ hp)⟩
  clear H3
  go_wp2_with (first | ((with_reducible refine wpList_load_ifA rfl 26 _ rfl b rfl 26 _ (0, 0) _ (H.get (List.mem_cons_of_mem _ (List.mem_cons_of_mem _ List.mem_cons_self))) Tryz.underlying26 rfl (Cor.info _) ?_); simp only [Act.put, List.setIfInBounds_toArray, List.set_cons_succ, List.set_cons_zero]) | (go_at_call 30; refine (Enter_c _ _ _ _ _).mono ?_; rintro e w7 ⟨rfl, hB7⟩; dsimp only; replace H := H.grow hB7) | ((with_reducible refine wpList_store_over rfl 26 H hne _ _ rfl (enterV c cls iss far).cells rfl rfl (Cor.info _) ?_ (Cor.one _) ?_); (focus (rw [hZ, Cor.size])); intro w9 H; simp only [Act.put]))
  refine bodyPost_ret (back_two rfl _ _ _ _ _ _ rfl (H.get List.mem_cons_self)) rfl ⟨rfl, by first | exact H.below | (rw [← hb]; exact H.below)⟩
end Go.Proofs.YtbjcdpmhmebjnaaGreat
