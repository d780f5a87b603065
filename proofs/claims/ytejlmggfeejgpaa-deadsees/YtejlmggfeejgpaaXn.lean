/- Na, Nb, Nc, Nd, Ne of the seat, joined. -/
import Derived.Test.YtejlmggfeejgpaaXo
import Derived.Test.YtejlmggfeejgpaaXa
import Derived.Test.YtejlmggfeejgpaaXs
import Derived.Test.YtejlmggfeejgpaaRelQ
import Derived.Test.YtejlmggfeejgpaaKc
import Derived.Test.YtejlmggfeejgpaaIf
import Derived.Test.YtejlmggfeejgpaaLb
/- The chapter's twin: what it tells; of registers. -/
namespace Go.Proofs.Ytejlmggfeejgpaa
open Go.RowKit
set_option linter.unusedVariables false
set_option linter.unusedSimpArgs false
set_option maxRecDepth 8000

def twSet (o x : Opr) : Bool := if o.kind = 3 then x.kind == 3 && x.r == o.r else if o.kind = 5 then x.kind == 5 else if o.kind = 7 then x.kind == 7 && x.r == o.r else x.kind == 14
def twGet (o x : Opr) : Bool := if o.kind = 3 then x.kind == 2 && x.r == o.r else if o.kind = 5 then x.kind == 4 else if o.kind = 7 then x.kind == 6 && x.r == o.r else false

/-- What twin holds of its two operations. -/
structure TwC (w : World) (b1 b2 : Nat) (o x : Opr) (W : World) : Prop where
  r1 : W.heap[b1]? = some (.cells (opA o) 39)
  r2 : W.heap[b2]? = some (.cells (opA x) 39)
  below : Below w.heap.size w W
theorem TwC.grow {w : World} {b1 b2 : Nat} {o x : Opr} {W W' : World} (h : TwC w b1 b2 o x W) (hb : Below W.heap.size W W') : TwC w b1 b2 o x W' := ⟨keepRow h.r1 hb, keepRow h.r2 hb, below_then h.below (Nat.le_refl _) hb⟩
theorem TwC.y1 {w : World} {b1 b2 : Nat} {o x : Opr} {W : World} (h : TwC w b1 b2 o x W) : W.cell? ⟨b1, 1, none⟩ = some (vI o.r) := by rw [cell_of_row _ _ _ _ _ _ h.r1]; rfl
theorem TwC.z0 {w : World} {b1 b2 : Nat} {o x : Opr} {W : World} (h : TwC w b1 b2 o x W) : W.cell? ⟨b2, 0, none⟩ = some (vI x.kind) := by rw [cell_of_row _ _ _ _ _ _ h.r2]; rfl
theorem TwC.z1 {w : World} {b1 b2 : Nat} {o x : Opr} {W : World} (h : TwC w b1 b2 o x W) : W.cell? ⟨b2, 1, none⟩ = some (vI x.r) := by rw [cell_of_row _ _ _ _ _ _ h.r2]; rfl

set_option maxHeartbeats 8000000 in
theorem twin3_c {o x : Opr} (h3 : o.kind = 3) (w : World) : Calls Try.prog 49 #[opV o, opV x] w fun e w' => e = .returned (.tuple #[.bool (twSet o x), .bool (twGet o x)]) ∧ Below w.heap.size w w' := by
  have hb1 := below_alloc w (.cells (opA o) 39)
  have hb2 := below_alloc (w.alloc (.cells (opA o) 39)) (.cells (opA x) 39)
  have B := below_then hb1 (Nat.le_refl _) hb2
  have r1 := keepRow (heap_alloc_new w (.cells (opA o) 39)) hb2
  have r2 := heap_alloc_new (w.alloc (.cells (opA o) 39)) (.cells (opA x) 39)
  rw [World.size_alloc] at r2
  have hS := show Hid _ from (show twSet o x = (x.kind == 3 && x.r == o.r) by unfold twSet; rw [if_pos h3])
  have hG := show Hid _ from (show twGet o x = (x.kind == 2 && x.r == o.r) by unfold twGet; rw [if_pos h3])
  go_enter Try.func49, Try.ntmps49
  go_upto_region 1 with fail
  generalize (w.alloc (.cells (opA o) 39)).alloc (.cells (opA x) 39) = w1 at *
  generalize w.heap.size + 1 = b2 at *
  generalize hbb : w.heap.size = b1 at r1 B
  replace hbb := show Hid _ from hbb
  clear hb1 hb2
  have X : TwC w b1 b2 o x w1 := ⟨r1, r2, by rw [hbb.out]; exact B⟩
  have y0 : w1.cell? ⟨b1, 0, none⟩ = some (vI o.kind) := by rw [cell_of_row _ _ _ _ _ _ r1]; rfl
  have y1 : w1.cell? ⟨b1, 1, none⟩ = some (vI o.r) := by rw [cell_of_row _ _ _ _ _ _ r1]; rfl
  have z0 : w1.cell? ⟨b2, 0, none⟩ = some (vI x.kind) := by rw [cell_of_row _ _ _ _ _ _ r2]; rfl
  have z1 : w1.cell? ⟨b2, 1, none⟩ = some (vI x.r) := by rw [cell_of_row _ _ _ _ _ _ r2]; rfl
  rw [h3] at y0
  clear r1 r2 y1 z0 z1
  go_upto_region 3 with fail
  clear h3 y0
  cases e1 : (x.kind == 3)
  · cases e2 : (x.kind == 2)
    · skip
      refine RelQ.wp_region_rel RelQ.Grows (fun _ _ => False) (fun _ _ _ h _ => h.elim) (TwC w b1 b2 o x) [.inl (ptr b2 0), .inl (vI x.kind), .inl (.bool false), .inl (.bool false), .inl (undef), .inl (undef), .inl (undef), .inl (undef), .inl (undef), .inl (.bool false), .inl (ptr b2 0), .inl (vI x.kind), .inl (.bool false), .inl (.bool false), .inl (undef), .inl (undef), .inl (undef), .inl (undef), .inl (undef), .inl (.bool false), .inl (.bool false), .inl (.bool false)] (by kernel_rfl) (by kernel_rfl) RelQ.grows_refl (fun _ _ h hb => h.grow hb) (X.grow (below_dr _)) (by intro k hk; simp only [List.mem_cons, List.not_mem_nil, or_false] at hk; rcases hk with rfl | rfl | rfl | rfl | rfl | rfl | rfl | rfl | rfl | rfl | rfl | rfl | rfl | rfl | rfl | rfl | rfl | rfl | rfl | rfl | rfl | rfl <;> exact trivial) ?_
      refine ⟨fun w3 hC _ => RelQ.uponG_yes rfl (by have z0 := hC.z0; have z1 := hC.z1; have y1 := hC.y1; go_simp; first | exact RelQ.grows_refl _ | exact ⟨RelQ.grows_refl _, rfl⟩), ?_⟩
      simp only [Act.put, List.setIfInBounds_toArray, List.set_cons_succ, List.set_cons_zero]
      refine ⟨fun w3 hC _ => RelQ.uponG_yes rfl (by have z0 := hC.z0; have z1 := hC.z1; have y1 := hC.y1; go_simp; first | exact RelQ.grows_refl _ | exact ⟨RelQ.grows_refl _, rfl⟩), ?_⟩
      simp only [Act.put, List.setIfInBounds_toArray, List.set_cons_succ, List.set_cons_zero]
      refine ⟨fun w3 hC _ => RelQ.uponG_yes rfl (by have z0 := hC.z0; have z1 := hC.z1; have y1 := hC.y1; go_simp; first | exact RelQ.grows_refl _ | exact ⟨RelQ.grows_refl _, rfl⟩), ?_⟩
      simp only [Act.put, List.setIfInBounds_toArray, List.set_cons_succ, List.set_cons_zero]
      refine ⟨fun w3 hC _ => RelQ.uponG_yes rfl (by have z0 := hC.z0; have z1 := hC.z1; have y1 := hC.y1; go_simp; first | exact RelQ.grows_refl _ | exact ⟨RelQ.grows_refl _, rfl⟩), ?_⟩
      simp only [Act.put, List.setIfInBounds_toArray, List.set_cons_succ, List.set_cons_zero]
      refine ⟨fun w3 hC _ => RelQ.uponG_no rfl rfl, ?_⟩
      simp only [Act.put, List.setIfInBounds_toArray, List.set_cons_succ, List.set_cons_zero]
      refine ⟨fun w3 hC _ => RelQ.uponG_no rfl rfl, ?_⟩
      simp only [Act.put, List.setIfInBounds_toArray, List.set_cons_succ, List.set_cons_zero]
      refine ⟨fun w3 hC _ => RelQ.uponG_no rfl rfl, ?_⟩
      simp only [Act.put, List.setIfInBounds_toArray, List.set_cons_succ, List.set_cons_zero]
      refine ⟨fun w3 hC _ => RelQ.uponG_no rfl rfl, ?_⟩
      simp only [Act.put, List.setIfInBounds_toArray, List.set_cons_succ, List.set_cons_zero]
      refine ⟨fun w3 hC _ => RelQ.uponG_no rfl rfl, ?_⟩
      simp only [Act.put, List.setIfInBounds_toArray, List.set_cons_succ, List.set_cons_zero]
      refine ⟨fun w3 hC _ => RelQ.uponG_yes rfl (by have z0 := hC.z0; have z1 := hC.z1; have y1 := hC.y1; go_simp; first | exact RelQ.grows_refl _ | exact ⟨RelQ.grows_refl _, rfl⟩), ?_⟩
      simp only [Act.put, List.setIfInBounds_toArray, List.set_cons_succ, List.set_cons_zero]
      refine ⟨fun w3 hC _ => RelQ.uponG_yes rfl (by have z0 := hC.z0; have z1 := hC.z1; have y1 := hC.y1; go_simp; first | exact RelQ.grows_refl _ | exact ⟨RelQ.grows_refl _, rfl⟩), ?_⟩
      simp only [Act.put, List.setIfInBounds_toArray, List.set_cons_succ, List.set_cons_zero]
      refine ⟨fun w3 hC _ => RelQ.uponG_yes rfl (by have z0 := hC.z0; have z1 := hC.z1; have y1 := hC.y1; go_simp; first | exact RelQ.grows_refl _ | exact ⟨RelQ.grows_refl _, rfl⟩), ?_⟩
      simp only [Act.put, List.setIfInBounds_toArray, List.set_cons_succ, List.set_cons_zero]
      refine ⟨fun w3 hC _ => RelQ.uponG_yes rfl (by have z0 := hC.z0; have z1 := hC.z1; have y1 := hC.y1; go_simp; first | exact RelQ.grows_refl _ | exact ⟨RelQ.grows_refl _, rfl⟩), ?_⟩
      simp only [Act.put, List.setIfInBounds_toArray, List.set_cons_succ, List.set_cons_zero]
      refine ⟨fun w3 hC _ => RelQ.uponG_yes rfl (by have z0 := hC.z0; have z1 := hC.z1; have y1 := hC.y1; go_simp; first | exact RelQ.grows_refl _ | exact ⟨RelQ.grows_refl _, rfl⟩), ?_⟩
      simp only [Act.put, List.setIfInBounds_toArray, List.set_cons_succ, List.set_cons_zero]
      refine ⟨fun w3 hC _ => RelQ.uponG_no rfl rfl, ?_⟩
      simp only [Act.put, List.setIfInBounds_toArray, List.set_cons_succ, List.set_cons_zero]
      refine ⟨fun w3 hC _ => RelQ.uponG_no rfl rfl, ?_⟩
      simp only [Act.put, List.setIfInBounds_toArray, List.set_cons_succ, List.set_cons_zero]
      refine ⟨fun w3 hC _ => RelQ.uponG_no rfl rfl, ?_⟩
      simp only [Act.put, List.setIfInBounds_toArray, List.set_cons_succ, List.set_cons_zero]
      refine ⟨fun w3 hC _ => RelQ.uponG_no rfl rfl, ?_⟩
      simp only [Act.put, List.setIfInBounds_toArray, List.set_cons_succ, List.set_cons_zero]
      refine ⟨fun w3 hC _ => RelQ.uponG_no rfl rfl, ?_⟩
      simp only [Act.put, List.setIfInBounds_toArray, List.set_cons_succ, List.set_cons_zero]
      refine ⟨fun w3 hC _ => RelQ.uponG_yes rfl (by have z0 := hC.z0; have z1 := hC.z1; have y1 := hC.y1; go_simp; first | exact RelQ.grows_refl _ | exact ⟨RelQ.grows_refl _, rfl⟩), ?_⟩
      simp only [Act.put, List.setIfInBounds_toArray, List.set_cons_succ, List.set_cons_zero]
      refine ⟨fun w3 hC _ => RelQ.uponG_yes rfl (by have z0 := hC.z0; have z1 := hC.z1; have y1 := hC.y1; go_simp; first | exact RelQ.grows_refl _ | exact ⟨RelQ.grows_refl _, rfl⟩), ?_⟩
      simp only [Act.put, List.setIfInBounds_toArray, List.set_cons_succ, List.set_cons_zero]
      refine ⟨fun w3 hC _ => RelQ.uponG_yes rfl (by have z0 := hC.z0; have z1 := hC.z1; have y1 := hC.y1; go_simp; first | exact RelQ.grows_refl _ | exact ⟨RelQ.grows_refl _, rfl⟩), ?_⟩
      simp only [Act.put, List.setIfInBounds_toArray, List.set_cons_succ, List.set_cons_zero]
      intro w9 hN _
      go_wp2
      go_ret2
      exact ⟨by rw [hS.out, hG.out, e1, e2]; first | rfl | done, hN.below⟩
    · cases e3 : (x.r == o.r)
      · skip
        refine RelQ.wp_region_rel RelQ.Grows (fun _ _ => False) (fun _ _ _ h _ => h.elim) (TwC w b1 b2 o x) [.inl (ptr b2 0), .inl (vI x.kind), .inl (.bool false), .inl (.bool false), .inl (undef), .inl (undef), .inl (undef), .inl (undef), .inl (undef), .inl (.bool false), .inl (ptr b2 0), .inl (vI x.kind), .inl (.bool true), .inl (.bool true), .inl (ptr b2 1), .inl (vI x.r), .inl (ptr b1 1), .inl (vI o.r), .inl (.bool false), .inl (.bool false), .inl (.bool false), .inl (.bool false)] (by kernel_rfl) (by kernel_rfl) RelQ.grows_refl (fun _ _ h hb => h.grow hb) (X.grow (below_dr _)) (by intro k hk; simp only [List.mem_cons, List.not_mem_nil, or_false] at hk; rcases hk with rfl | rfl | rfl | rfl | rfl | rfl | rfl | rfl | rfl | rfl | rfl | rfl | rfl | rfl | rfl | rfl | rfl | rfl | rfl | rfl | rfl | rfl <;> exact trivial) ?_
        refine ⟨fun w3 hC _ => RelQ.uponG_yes rfl (by have z0 := hC.z0; have z1 := hC.z1; have y1 := hC.y1; go_simp; first | exact RelQ.grows_refl _ | exact ⟨RelQ.grows_refl _, rfl⟩), ?_⟩
        simp only [Act.put, List.setIfInBounds_toArray, List.set_cons_succ, List.set_cons_zero]
        refine ⟨fun w3 hC _ => RelQ.uponG_yes rfl (by have z0 := hC.z0; have z1 := hC.z1; have y1 := hC.y1; go_simp; first | exact RelQ.grows_refl _ | exact ⟨RelQ.grows_refl _, rfl⟩), ?_⟩
        simp only [Act.put, List.setIfInBounds_toArray, List.set_cons_succ, List.set_cons_zero]
        refine ⟨fun w3 hC _ => RelQ.uponG_yes rfl (by have z0 := hC.z0; have z1 := hC.z1; have y1 := hC.y1; go_simp; first | exact RelQ.grows_refl _ | exact ⟨RelQ.grows_refl _, rfl⟩), ?_⟩
        simp only [Act.put, List.setIfInBounds_toArray, List.set_cons_succ, List.set_cons_zero]
        refine ⟨fun w3 hC _ => RelQ.uponG_yes rfl (by have z0 := hC.z0; have z1 := hC.z1; have y1 := hC.y1; go_simp; first | exact RelQ.grows_refl _ | exact ⟨RelQ.grows_refl _, rfl⟩), ?_⟩
        simp only [Act.put, List.setIfInBounds_toArray, List.set_cons_succ, List.set_cons_zero]
        refine ⟨fun w3 hC _ => RelQ.uponG_no rfl rfl, ?_⟩
        simp only [Act.put, List.setIfInBounds_toArray, List.set_cons_succ, List.set_cons_zero]
        refine ⟨fun w3 hC _ => RelQ.uponG_no rfl rfl, ?_⟩
        simp only [Act.put, List.setIfInBounds_toArray, List.set_cons_succ, List.set_cons_zero]
        refine ⟨fun w3 hC _ => RelQ.uponG_no rfl rfl, ?_⟩
        simp only [Act.put, List.setIfInBounds_toArray, List.set_cons_succ, List.set_cons_zero]
        refine ⟨fun w3 hC _ => RelQ.uponG_no rfl rfl, ?_⟩
        simp only [Act.put, List.setIfInBounds_toArray, List.set_cons_succ, List.set_cons_zero]
        refine ⟨fun w3 hC _ => RelQ.uponG_no rfl rfl, ?_⟩
        simp only [Act.put, List.setIfInBounds_toArray, List.set_cons_succ, List.set_cons_zero]
        refine ⟨fun w3 hC _ => RelQ.uponG_yes rfl (by have z0 := hC.z0; have z1 := hC.z1; have y1 := hC.y1; go_simp; first | exact RelQ.grows_refl _ | exact ⟨RelQ.grows_refl _, rfl⟩), ?_⟩
        simp only [Act.put, List.setIfInBounds_toArray, List.set_cons_succ, List.set_cons_zero]
        refine ⟨fun w3 hC _ => RelQ.uponG_yes rfl (by have z0 := hC.z0; have z1 := hC.z1; have y1 := hC.y1; go_simp; first | exact RelQ.grows_refl _ | exact ⟨RelQ.grows_refl _, rfl⟩), ?_⟩
        simp only [Act.put, List.setIfInBounds_toArray, List.set_cons_succ, List.set_cons_zero]
        refine ⟨fun w3 hC _ => RelQ.uponG_yes rfl (by have z0 := hC.z0; have z1 := hC.z1; have y1 := hC.y1; go_simp; first | exact RelQ.grows_refl _ | exact ⟨RelQ.grows_refl _, rfl⟩), ?_⟩
        simp only [Act.put, List.setIfInBounds_toArray, List.set_cons_succ, List.set_cons_zero]
        refine ⟨fun w3 hC _ => RelQ.uponG_yes rfl (by have z0 := hC.z0; have z1 := hC.z1; have y1 := hC.y1; go_simp; first | exact RelQ.grows_refl _ | exact ⟨RelQ.grows_refl _, rfl⟩), ?_⟩
        simp only [Act.put, List.setIfInBounds_toArray, List.set_cons_succ, List.set_cons_zero]
        refine ⟨fun w3 hC _ => RelQ.uponG_yes rfl (by have z0 := hC.z0; have z1 := hC.z1; have y1 := hC.y1; go_simp; first | exact RelQ.grows_refl _ | exact ⟨RelQ.grows_refl _, rfl⟩), ?_⟩
        simp only [Act.put, List.setIfInBounds_toArray, List.set_cons_succ, List.set_cons_zero]
        refine ⟨fun w3 hC _ => RelQ.uponG_yes rfl (by have z0 := hC.z0; have z1 := hC.z1; have y1 := hC.y1; go_simp; first | exact RelQ.grows_refl _ | exact ⟨RelQ.grows_refl _, rfl⟩), ?_⟩
        simp only [Act.put, List.setIfInBounds_toArray, List.set_cons_succ, List.set_cons_zero]
        refine ⟨fun w3 hC _ => RelQ.uponG_yes rfl (by have z0 := hC.z0; have z1 := hC.z1; have y1 := hC.y1; go_simp; first | exact RelQ.grows_refl _ | exact ⟨RelQ.grows_refl _, rfl⟩), ?_⟩
        simp only [Act.put, List.setIfInBounds_toArray, List.set_cons_succ, List.set_cons_zero]
        refine ⟨fun w3 hC _ => RelQ.uponG_yes rfl (by have z0 := hC.z0; have z1 := hC.z1; have y1 := hC.y1; go_simp; first | exact RelQ.grows_refl _ | exact ⟨RelQ.grows_refl _, rfl⟩), ?_⟩
        simp only [Act.put, List.setIfInBounds_toArray, List.set_cons_succ, List.set_cons_zero]
        refine ⟨fun w3 hC _ => RelQ.uponG_yes rfl (by have z0 := hC.z0; have z1 := hC.z1; have y1 := hC.y1; go_simp; first | exact RelQ.grows_refl _ | exact ⟨RelQ.grows_refl _, rfl⟩), ?_⟩
        simp only [Act.put, List.setIfInBounds_toArray, List.set_cons_succ, List.set_cons_zero]
        refine ⟨fun w3 hC _ => RelQ.uponG_yes rfl (by have z0 := hC.z0; have z1 := hC.z1; have y1 := hC.y1; go_simp; first | exact RelQ.grows_refl _ | exact ⟨RelQ.grows_refl _, rfl⟩), ?_⟩
        simp only [Act.put, List.setIfInBounds_toArray, List.set_cons_succ, List.set_cons_zero]
        refine ⟨fun w3 hC _ => RelQ.uponG_yes rfl (by have z0 := hC.z0; have z1 := hC.z1; have y1 := hC.y1; go_simp; first | exact RelQ.grows_refl _ | exact ⟨RelQ.grows_refl _, rfl⟩), ?_⟩
        simp only [Act.put, List.setIfInBounds_toArray, List.set_cons_succ, List.set_cons_zero]
        refine ⟨fun w3 hC _ => RelQ.uponG_yes rfl (by have z0 := hC.z0; have z1 := hC.z1; have y1 := hC.y1; go_simp; first | exact RelQ.grows_refl _ | exact ⟨RelQ.grows_refl _, rfl⟩), ?_⟩
        simp only [Act.put, List.setIfInBounds_toArray, List.set_cons_succ, List.set_cons_zero]
        refine ⟨fun w3 hC _ => RelQ.uponG_yes rfl (by have z0 := hC.z0; have z1 := hC.z1; have y1 := hC.y1; go_simp; first | exact RelQ.grows_refl _ | exact ⟨RelQ.grows_refl _, rfl⟩), ?_⟩
        simp only [Act.put, List.setIfInBounds_toArray, List.set_cons_succ, List.set_cons_zero]
        intro w9 hN _
        go_wp2
        go_ret2
        exact ⟨by rw [hS.out, hG.out, e1, e2, e3]; first | rfl | done, hN.below⟩
      · skip
        refine RelQ.wp_region_rel RelQ.Grows (fun _ _ => False) (fun _ _ _ h _ => h.elim) (TwC w b1 b2 o x) [.inl (ptr b2 0), .inl (vI x.kind), .inl (.bool false), .inl (.bool false), .inl (undef), .inl (undef), .inl (undef), .inl (undef), .inl (undef), .inl (.bool false), .inl (ptr b2 0), .inl (vI x.kind), .inl (.bool true), .inl (.bool true), .inl (ptr b2 1), .inl (vI x.r), .inl (ptr b1 1), .inl (vI o.r), .inl (.bool true), .inl (.bool true), .inl (.bool false), .inl (.bool true)] (by kernel_rfl) (by kernel_rfl) RelQ.grows_refl (fun _ _ h hb => h.grow hb) (X.grow (below_dr _)) (by intro k hk; simp only [List.mem_cons, List.not_mem_nil, or_false] at hk; rcases hk with rfl | rfl | rfl | rfl | rfl | rfl | rfl | rfl | rfl | rfl | rfl | rfl | rfl | rfl | rfl | rfl | rfl | rfl | rfl | rfl | rfl | rfl <;> exact trivial) ?_
        refine ⟨fun w3 hC _ => RelQ.uponG_yes rfl (by have z0 := hC.z0; have z1 := hC.z1; have y1 := hC.y1; go_simp; first | exact RelQ.grows_refl _ | exact ⟨RelQ.grows_refl _, rfl⟩), ?_⟩
        simp only [Act.put, List.setIfInBounds_toArray, List.set_cons_succ, List.set_cons_zero]
        refine ⟨fun w3 hC _ => RelQ.uponG_yes rfl (by have z0 := hC.z0; have z1 := hC.z1; have y1 := hC.y1; go_simp; first | exact RelQ.grows_refl _ | exact ⟨RelQ.grows_refl _, rfl⟩), ?_⟩
        simp only [Act.put, List.setIfInBounds_toArray, List.set_cons_succ, List.set_cons_zero]
        refine ⟨fun w3 hC _ => RelQ.uponG_yes rfl (by have z0 := hC.z0; have z1 := hC.z1; have y1 := hC.y1; go_simp; first | exact RelQ.grows_refl _ | exact ⟨RelQ.grows_refl _, rfl⟩), ?_⟩
        simp only [Act.put, List.setIfInBounds_toArray, List.set_cons_succ, List.set_cons_zero]
        refine ⟨fun w3 hC _ => RelQ.uponG_yes rfl (by have z0 := hC.z0; have z1 := hC.z1; have y1 := hC.y1; go_simp; first | exact RelQ.grows_refl _ | exact ⟨RelQ.grows_refl _, rfl⟩), ?_⟩
        simp only [Act.put, List.setIfInBounds_toArray, List.set_cons_succ, List.set_cons_zero]
        refine ⟨fun w3 hC _ => RelQ.uponG_no rfl rfl, ?_⟩
        simp only [Act.put, List.setIfInBounds_toArray, List.set_cons_succ, List.set_cons_zero]
        refine ⟨fun w3 hC _ => RelQ.uponG_no rfl rfl, ?_⟩
        simp only [Act.put, List.setIfInBounds_toArray, List.set_cons_succ, List.set_cons_zero]
        refine ⟨fun w3 hC _ => RelQ.uponG_no rfl rfl, ?_⟩
        simp only [Act.put, List.setIfInBounds_toArray, List.set_cons_succ, List.set_cons_zero]
        refine ⟨fun w3 hC _ => RelQ.uponG_no rfl rfl, ?_⟩
        simp only [Act.put, List.setIfInBounds_toArray, List.set_cons_succ, List.set_cons_zero]
        refine ⟨fun w3 hC _ => RelQ.uponG_no rfl rfl, ?_⟩
        simp only [Act.put, List.setIfInBounds_toArray, List.set_cons_succ, List.set_cons_zero]
        refine ⟨fun w3 hC _ => RelQ.uponG_yes rfl (by have z0 := hC.z0; have z1 := hC.z1; have y1 := hC.y1; go_simp; first | exact RelQ.grows_refl _ | exact ⟨RelQ.grows_refl _, rfl⟩), ?_⟩
        simp only [Act.put, List.setIfInBounds_toArray, List.set_cons_succ, List.set_cons_zero]
        refine ⟨fun w3 hC _ => RelQ.uponG_yes rfl (by have z0 := hC.z0; have z1 := hC.z1; have y1 := hC.y1; go_simp; first | exact RelQ.grows_refl _ | exact ⟨RelQ.grows_refl _, rfl⟩), ?_⟩
        simp only [Act.put, List.setIfInBounds_toArray, List.set_cons_succ, List.set_cons_zero]
        refine ⟨fun w3 hC _ => RelQ.uponG_yes rfl (by have z0 := hC.z0; have z1 := hC.z1; have y1 := hC.y1; go_simp; first | exact RelQ.grows_refl _ | exact ⟨RelQ.grows_refl _, rfl⟩), ?_⟩
        simp only [Act.put, List.setIfInBounds_toArray, List.set_cons_succ, List.set_cons_zero]
        refine ⟨fun w3 hC _ => RelQ.uponG_yes rfl (by have z0 := hC.z0; have z1 := hC.z1; have y1 := hC.y1; go_simp; first | exact RelQ.grows_refl _ | exact ⟨RelQ.grows_refl _, rfl⟩), ?_⟩
        simp only [Act.put, List.setIfInBounds_toArray, List.set_cons_succ, List.set_cons_zero]
        refine ⟨fun w3 hC _ => RelQ.uponG_yes rfl (by have z0 := hC.z0; have z1 := hC.z1; have y1 := hC.y1; go_simp; first | exact RelQ.grows_refl _ | exact ⟨RelQ.grows_refl _, rfl⟩), ?_⟩
        simp only [Act.put, List.setIfInBounds_toArray, List.set_cons_succ, List.set_cons_zero]
        refine ⟨fun w3 hC _ => RelQ.uponG_yes rfl (by have z0 := hC.z0; have z1 := hC.z1; have y1 := hC.y1; go_simp; first | exact RelQ.grows_refl _ | exact ⟨RelQ.grows_refl _, rfl⟩), ?_⟩
        simp only [Act.put, List.setIfInBounds_toArray, List.set_cons_succ, List.set_cons_zero]
        refine ⟨fun w3 hC _ => RelQ.uponG_yes rfl (by have z0 := hC.z0; have z1 := hC.z1; have y1 := hC.y1; go_simp; first | exact RelQ.grows_refl _ | exact ⟨RelQ.grows_refl _, rfl⟩), ?_⟩
        simp only [Act.put, List.setIfInBounds_toArray, List.set_cons_succ, List.set_cons_zero]
        refine ⟨fun w3 hC _ => RelQ.uponG_yes rfl (by have z0 := hC.z0; have z1 := hC.z1; have y1 := hC.y1; go_simp; first | exact RelQ.grows_refl _ | exact ⟨RelQ.grows_refl _, rfl⟩), ?_⟩
        simp only [Act.put, List.setIfInBounds_toArray, List.set_cons_succ, List.set_cons_zero]
        refine ⟨fun w3 hC _ => RelQ.uponG_yes rfl (by have z0 := hC.z0; have z1 := hC.z1; have y1 := hC.y1; go_simp; first | exact RelQ.grows_refl _ | exact ⟨RelQ.grows_refl _, rfl⟩), ?_⟩
        simp only [Act.put, List.setIfInBounds_toArray, List.set_cons_succ, List.set_cons_zero]
        refine ⟨fun w3 hC _ => RelQ.uponG_yes rfl (by have z0 := hC.z0; have z1 := hC.z1; have y1 := hC.y1; go_simp; first | exact RelQ.grows_refl _ | exact ⟨RelQ.grows_refl _, rfl⟩), ?_⟩
        simp only [Act.put, List.setIfInBounds_toArray, List.set_cons_succ, List.set_cons_zero]
        refine ⟨fun w3 hC _ => RelQ.uponG_yes rfl (by have z0 := hC.z0; have z1 := hC.z1; have y1 := hC.y1; go_simp; first | exact RelQ.grows_refl _ | exact ⟨RelQ.grows_refl _, rfl⟩), ?_⟩
        simp only [Act.put, List.setIfInBounds_toArray, List.set_cons_succ, List.set_cons_zero]
        refine ⟨fun w3 hC _ => RelQ.uponG_yes rfl (by have z0 := hC.z0; have z1 := hC.z1; have y1 := hC.y1; go_simp; first | exact RelQ.grows_refl _ | exact ⟨RelQ.grows_refl _, rfl⟩), ?_⟩
        simp only [Act.put, List.setIfInBounds_toArray, List.set_cons_succ, List.set_cons_zero]
        refine ⟨fun w3 hC _ => RelQ.uponG_yes rfl (by have z0 := hC.z0; have z1 := hC.z1; have y1 := hC.y1; go_simp; first | exact RelQ.grows_refl _ | exact ⟨RelQ.grows_refl _, rfl⟩), ?_⟩
        simp only [Act.put, List.setIfInBounds_toArray, List.set_cons_succ, List.set_cons_zero]
        intro w9 hN _
        go_wp2
        go_ret2
        exact ⟨by rw [hS.out, hG.out, e1, e2, e3]; first | rfl | done, hN.below⟩
  · have e2 : (x.kind == 2) = false := by
      have : x.kind = 3 := by simpa using e1
      rw [this]; rfl
    cases e3 : (x.r == o.r)
    · skip
      refine RelQ.wp_region_rel RelQ.Grows (fun _ _ => False) (fun _ _ _ h _ => h.elim) (TwC w b1 b2 o x) [.inl (ptr b2 0), .inl (vI x.kind), .inl (.bool true), .inl (.bool true), .inl (ptr b2 1), .inl (vI x.r), .inl (ptr b1 1), .inl (vI o.r), .inl (.bool false), .inl (.bool false), .inl (ptr b2 0), .inl (vI x.kind), .inl (.bool false), .inl (.bool false), .inl (undef), .inl (undef), .inl (undef), .inl (undef), .inl (undef), .inl (.bool false), .inl (.bool false), .inl (.bool false)] (by kernel_rfl) (by kernel_rfl) RelQ.grows_refl (fun _ _ h hb => h.grow hb) (X.grow (below_dr _)) (by intro k hk; simp only [List.mem_cons, List.not_mem_nil, or_false] at hk; rcases hk with rfl | rfl | rfl | rfl | rfl | rfl | rfl | rfl | rfl | rfl | rfl | rfl | rfl | rfl | rfl | rfl | rfl | rfl | rfl | rfl | rfl | rfl <;> exact trivial) ?_
      refine ⟨fun w3 hC _ => RelQ.uponG_yes rfl (by have z0 := hC.z0; have z1 := hC.z1; have y1 := hC.y1; go_simp; first | exact RelQ.grows_refl _ | exact ⟨RelQ.grows_refl _, rfl⟩), ?_⟩
      simp only [Act.put, List.setIfInBounds_toArray, List.set_cons_succ, List.set_cons_zero]
      refine ⟨fun w3 hC _ => RelQ.uponG_yes rfl (by have z0 := hC.z0; have z1 := hC.z1; have y1 := hC.y1; go_simp; first | exact RelQ.grows_refl _ | exact ⟨RelQ.grows_refl _, rfl⟩), ?_⟩
      simp only [Act.put, List.setIfInBounds_toArray, List.set_cons_succ, List.set_cons_zero]
      refine ⟨fun w3 hC _ => RelQ.uponG_yes rfl (by have z0 := hC.z0; have z1 := hC.z1; have y1 := hC.y1; go_simp; first | exact RelQ.grows_refl _ | exact ⟨RelQ.grows_refl _, rfl⟩), ?_⟩
      simp only [Act.put, List.setIfInBounds_toArray, List.set_cons_succ, List.set_cons_zero]
      refine ⟨fun w3 hC _ => RelQ.uponG_yes rfl (by have z0 := hC.z0; have z1 := hC.z1; have y1 := hC.y1; go_simp; first | exact RelQ.grows_refl _ | exact ⟨RelQ.grows_refl _, rfl⟩), ?_⟩
      simp only [Act.put, List.setIfInBounds_toArray, List.set_cons_succ, List.set_cons_zero]
      refine ⟨fun w3 hC _ => RelQ.uponG_yes rfl (by have z0 := hC.z0; have z1 := hC.z1; have y1 := hC.y1; go_simp; first | exact RelQ.grows_refl _ | exact ⟨RelQ.grows_refl _, rfl⟩), ?_⟩
      simp only [Act.put, List.setIfInBounds_toArray, List.set_cons_succ, List.set_cons_zero]
      refine ⟨fun w3 hC _ => RelQ.uponG_yes rfl (by have z0 := hC.z0; have z1 := hC.z1; have y1 := hC.y1; go_simp; first | exact RelQ.grows_refl _ | exact ⟨RelQ.grows_refl _, rfl⟩), ?_⟩
      simp only [Act.put, List.setIfInBounds_toArray, List.set_cons_succ, List.set_cons_zero]
      refine ⟨fun w3 hC _ => RelQ.uponG_yes rfl (by have z0 := hC.z0; have z1 := hC.z1; have y1 := hC.y1; go_simp; first | exact RelQ.grows_refl _ | exact ⟨RelQ.grows_refl _, rfl⟩), ?_⟩
      simp only [Act.put, List.setIfInBounds_toArray, List.set_cons_succ, List.set_cons_zero]
      refine ⟨fun w3 hC _ => RelQ.uponG_yes rfl (by have z0 := hC.z0; have z1 := hC.z1; have y1 := hC.y1; go_simp; first | exact RelQ.grows_refl _ | exact ⟨RelQ.grows_refl _, rfl⟩), ?_⟩
      simp only [Act.put, List.setIfInBounds_toArray, List.set_cons_succ, List.set_cons_zero]
      refine ⟨fun w3 hC _ => RelQ.uponG_yes rfl (by have z0 := hC.z0; have z1 := hC.z1; have y1 := hC.y1; go_simp; first | exact RelQ.grows_refl _ | exact ⟨RelQ.grows_refl _, rfl⟩), ?_⟩
      simp only [Act.put, List.setIfInBounds_toArray, List.set_cons_succ, List.set_cons_zero]
      refine ⟨fun w3 hC _ => RelQ.uponG_yes rfl (by have z0 := hC.z0; have z1 := hC.z1; have y1 := hC.y1; go_simp; first | exact RelQ.grows_refl _ | exact ⟨RelQ.grows_refl _, rfl⟩), ?_⟩
      simp only [Act.put, List.setIfInBounds_toArray, List.set_cons_succ, List.set_cons_zero]
      refine ⟨fun w3 hC _ => RelQ.uponG_yes rfl (by have z0 := hC.z0; have z1 := hC.z1; have y1 := hC.y1; go_simp; first | exact RelQ.grows_refl _ | exact ⟨RelQ.grows_refl _, rfl⟩), ?_⟩
      simp only [Act.put, List.setIfInBounds_toArray, List.set_cons_succ, List.set_cons_zero]
      refine ⟨fun w3 hC _ => RelQ.uponG_yes rfl (by have z0 := hC.z0; have z1 := hC.z1; have y1 := hC.y1; go_simp; first | exact RelQ.grows_refl _ | exact ⟨RelQ.grows_refl _, rfl⟩), ?_⟩
      simp only [Act.put, List.setIfInBounds_toArray, List.set_cons_succ, List.set_cons_zero]
      refine ⟨fun w3 hC _ => RelQ.uponG_yes rfl (by have z0 := hC.z0; have z1 := hC.z1; have y1 := hC.y1; go_simp; first | exact RelQ.grows_refl _ | exact ⟨RelQ.grows_refl _, rfl⟩), ?_⟩
      simp only [Act.put, List.setIfInBounds_toArray, List.set_cons_succ, List.set_cons_zero]
      refine ⟨fun w3 hC _ => RelQ.uponG_yes rfl (by have z0 := hC.z0; have z1 := hC.z1; have y1 := hC.y1; go_simp; first | exact RelQ.grows_refl _ | exact ⟨RelQ.grows_refl _, rfl⟩), ?_⟩
      simp only [Act.put, List.setIfInBounds_toArray, List.set_cons_succ, List.set_cons_zero]
      refine ⟨fun w3 hC _ => RelQ.uponG_no rfl rfl, ?_⟩
      simp only [Act.put, List.setIfInBounds_toArray, List.set_cons_succ, List.set_cons_zero]
      refine ⟨fun w3 hC _ => RelQ.uponG_no rfl rfl, ?_⟩
      simp only [Act.put, List.setIfInBounds_toArray, List.set_cons_succ, List.set_cons_zero]
      refine ⟨fun w3 hC _ => RelQ.uponG_no rfl rfl, ?_⟩
      simp only [Act.put, List.setIfInBounds_toArray, List.set_cons_succ, List.set_cons_zero]
      refine ⟨fun w3 hC _ => RelQ.uponG_no rfl rfl, ?_⟩
      simp only [Act.put, List.setIfInBounds_toArray, List.set_cons_succ, List.set_cons_zero]
      refine ⟨fun w3 hC _ => RelQ.uponG_no rfl rfl, ?_⟩
      simp only [Act.put, List.setIfInBounds_toArray, List.set_cons_succ, List.set_cons_zero]
      refine ⟨fun w3 hC _ => RelQ.uponG_yes rfl (by have z0 := hC.z0; have z1 := hC.z1; have y1 := hC.y1; go_simp; first | exact RelQ.grows_refl _ | exact ⟨RelQ.grows_refl _, rfl⟩), ?_⟩
      simp only [Act.put, List.setIfInBounds_toArray, List.set_cons_succ, List.set_cons_zero]
      refine ⟨fun w3 hC _ => RelQ.uponG_yes rfl (by have z0 := hC.z0; have z1 := hC.z1; have y1 := hC.y1; go_simp; first | exact RelQ.grows_refl _ | exact ⟨RelQ.grows_refl _, rfl⟩), ?_⟩
      simp only [Act.put, List.setIfInBounds_toArray, List.set_cons_succ, List.set_cons_zero]
      refine ⟨fun w3 hC _ => RelQ.uponG_yes rfl (by have z0 := hC.z0; have z1 := hC.z1; have y1 := hC.y1; go_simp; first | exact RelQ.grows_refl _ | exact ⟨RelQ.grows_refl _, rfl⟩), ?_⟩
      simp only [Act.put, List.setIfInBounds_toArray, List.set_cons_succ, List.set_cons_zero]
      intro w9 hN _
      go_wp2
      go_ret2
      exact ⟨by rw [hS.out, hG.out, e1, e2, e3]; first | rfl | done, hN.below⟩
    · skip
      refine RelQ.wp_region_rel RelQ.Grows (fun _ _ => False) (fun _ _ _ h _ => h.elim) (TwC w b1 b2 o x) [.inl (ptr b2 0), .inl (vI x.kind), .inl (.bool true), .inl (.bool true), .inl (ptr b2 1), .inl (vI x.r), .inl (ptr b1 1), .inl (vI o.r), .inl (.bool true), .inl (.bool true), .inl (ptr b2 0), .inl (vI x.kind), .inl (.bool false), .inl (.bool false), .inl (undef), .inl (undef), .inl (undef), .inl (undef), .inl (undef), .inl (.bool false), .inl (.bool true), .inl (.bool false)] (by kernel_rfl) (by kernel_rfl) RelQ.grows_refl (fun _ _ h hb => h.grow hb) (X.grow (below_dr _)) (by intro k hk; simp only [List.mem_cons, List.not_mem_nil, or_false] at hk; rcases hk with rfl | rfl | rfl | rfl | rfl | rfl | rfl | rfl | rfl | rfl | rfl | rfl | rfl | rfl | rfl | rfl | rfl | rfl | rfl | rfl | rfl | rfl <;> exact trivial) ?_
      refine ⟨fun w3 hC _ => RelQ.uponG_yes rfl (by have z0 := hC.z0; have z1 := hC.z1; have y1 := hC.y1; go_simp; first | exact RelQ.grows_refl _ | exact ⟨RelQ.grows_refl _, rfl⟩), ?_⟩
      simp only [Act.put, List.setIfInBounds_toArray, List.set_cons_succ, List.set_cons_zero]
      refine ⟨fun w3 hC _ => RelQ.uponG_yes rfl (by have z0 := hC.z0; have z1 := hC.z1; have y1 := hC.y1; go_simp; first | exact RelQ.grows_refl _ | exact ⟨RelQ.grows_refl _, rfl⟩), ?_⟩
      simp only [Act.put, List.setIfInBounds_toArray, List.set_cons_succ, List.set_cons_zero]
      refine ⟨fun w3 hC _ => RelQ.uponG_yes rfl (by have z0 := hC.z0; have z1 := hC.z1; have y1 := hC.y1; go_simp; first | exact RelQ.grows_refl _ | exact ⟨RelQ.grows_refl _, rfl⟩), ?_⟩
      simp only [Act.put, List.setIfInBounds_toArray, List.set_cons_succ, List.set_cons_zero]
      refine ⟨fun w3 hC _ => RelQ.uponG_yes rfl (by have z0 := hC.z0; have z1 := hC.z1; have y1 := hC.y1; go_simp; first | exact RelQ.grows_refl _ | exact ⟨RelQ.grows_refl _, rfl⟩), ?_⟩
      simp only [Act.put, List.setIfInBounds_toArray, List.set_cons_succ, List.set_cons_zero]
      refine ⟨fun w3 hC _ => RelQ.uponG_yes rfl (by have z0 := hC.z0; have z1 := hC.z1; have y1 := hC.y1; go_simp; first | exact RelQ.grows_refl _ | exact ⟨RelQ.grows_refl _, rfl⟩), ?_⟩
      simp only [Act.put, List.setIfInBounds_toArray, List.set_cons_succ, List.set_cons_zero]
      refine ⟨fun w3 hC _ => RelQ.uponG_yes rfl (by have z0 := hC.z0; have z1 := hC.z1; have y1 := hC.y1; go_simp; first | exact RelQ.grows_refl _ | exact ⟨RelQ.grows_refl _, rfl⟩), ?_⟩
      simp only [Act.put, List.setIfInBounds_toArray, List.set_cons_succ, List.set_cons_zero]
      refine ⟨fun w3 hC _ => RelQ.uponG_yes rfl (by have z0 := hC.z0; have z1 := hC.z1; have y1 := hC.y1; go_simp; first | exact RelQ.grows_refl _ | exact ⟨RelQ.grows_refl _, rfl⟩), ?_⟩
      simp only [Act.put, List.setIfInBounds_toArray, List.set_cons_succ, List.set_cons_zero]
      refine ⟨fun w3 hC _ => RelQ.uponG_yes rfl (by have z0 := hC.z0; have z1 := hC.z1; have y1 := hC.y1; go_simp; first | exact RelQ.grows_refl _ | exact ⟨RelQ.grows_refl _, rfl⟩), ?_⟩
      simp only [Act.put, List.setIfInBounds_toArray, List.set_cons_succ, List.set_cons_zero]
      refine ⟨fun w3 hC _ => RelQ.uponG_yes rfl (by have z0 := hC.z0; have z1 := hC.z1; have y1 := hC.y1; go_simp; first | exact RelQ.grows_refl _ | exact ⟨RelQ.grows_refl _, rfl⟩), ?_⟩
      simp only [Act.put, List.setIfInBounds_toArray, List.set_cons_succ, List.set_cons_zero]
      refine ⟨fun w3 hC _ => RelQ.uponG_yes rfl (by have z0 := hC.z0; have z1 := hC.z1; have y1 := hC.y1; go_simp; first | exact RelQ.grows_refl _ | exact ⟨RelQ.grows_refl _, rfl⟩), ?_⟩
      simp only [Act.put, List.setIfInBounds_toArray, List.set_cons_succ, List.set_cons_zero]
      refine ⟨fun w3 hC _ => RelQ.uponG_yes rfl (by have z0 := hC.z0; have z1 := hC.z1; have y1 := hC.y1; go_simp; first | exact RelQ.grows_refl _ | exact ⟨RelQ.grows_refl _, rfl⟩), ?_⟩
      simp only [Act.put, List.setIfInBounds_toArray, List.set_cons_succ, List.set_cons_zero]
      refine ⟨fun w3 hC _ => RelQ.uponG_yes rfl (by have z0 := hC.z0; have z1 := hC.z1; have y1 := hC.y1; go_simp; first | exact RelQ.grows_refl _ | exact ⟨RelQ.grows_refl _, rfl⟩), ?_⟩
      simp only [Act.put, List.setIfInBounds_toArray, List.set_cons_succ, List.set_cons_zero]
      refine ⟨fun w3 hC _ => RelQ.uponG_yes rfl (by have z0 := hC.z0; have z1 := hC.z1; have y1 := hC.y1; go_simp; first | exact RelQ.grows_refl _ | exact ⟨RelQ.grows_refl _, rfl⟩), ?_⟩
      simp only [Act.put, List.setIfInBounds_toArray, List.set_cons_succ, List.set_cons_zero]
      refine ⟨fun w3 hC _ => RelQ.uponG_yes rfl (by have z0 := hC.z0; have z1 := hC.z1; have y1 := hC.y1; go_simp; first | exact RelQ.grows_refl _ | exact ⟨RelQ.grows_refl _, rfl⟩), ?_⟩
      simp only [Act.put, List.setIfInBounds_toArray, List.set_cons_succ, List.set_cons_zero]
      refine ⟨fun w3 hC _ => RelQ.uponG_no rfl rfl, ?_⟩
      simp only [Act.put, List.setIfInBounds_toArray, List.set_cons_succ, List.set_cons_zero]
      refine ⟨fun w3 hC _ => RelQ.uponG_no rfl rfl, ?_⟩
      simp only [Act.put, List.setIfInBounds_toArray, List.set_cons_succ, List.set_cons_zero]
      refine ⟨fun w3 hC _ => RelQ.uponG_no rfl rfl, ?_⟩
      simp only [Act.put, List.setIfInBounds_toArray, List.set_cons_succ, List.set_cons_zero]
      refine ⟨fun w3 hC _ => RelQ.uponG_no rfl rfl, ?_⟩
      simp only [Act.put, List.setIfInBounds_toArray, List.set_cons_succ, List.set_cons_zero]
      refine ⟨fun w3 hC _ => RelQ.uponG_no rfl rfl, ?_⟩
      simp only [Act.put, List.setIfInBounds_toArray, List.set_cons_succ, List.set_cons_zero]
      refine ⟨fun w3 hC _ => RelQ.uponG_yes rfl (by have z0 := hC.z0; have z1 := hC.z1; have y1 := hC.y1; go_simp; first | exact RelQ.grows_refl _ | exact ⟨RelQ.grows_refl _, rfl⟩), ?_⟩
      simp only [Act.put, List.setIfInBounds_toArray, List.set_cons_succ, List.set_cons_zero]
      refine ⟨fun w3 hC _ => RelQ.uponG_yes rfl (by have z0 := hC.z0; have z1 := hC.z1; have y1 := hC.y1; go_simp; first | exact RelQ.grows_refl _ | exact ⟨RelQ.grows_refl _, rfl⟩), ?_⟩
      simp only [Act.put, List.setIfInBounds_toArray, List.set_cons_succ, List.set_cons_zero]
      refine ⟨fun w3 hC _ => RelQ.uponG_yes rfl (by have z0 := hC.z0; have z1 := hC.z1; have y1 := hC.y1; go_simp; first | exact RelQ.grows_refl _ | exact ⟨RelQ.grows_refl _, rfl⟩), ?_⟩
      simp only [Act.put, List.setIfInBounds_toArray, List.set_cons_succ, List.set_cons_zero]
      intro w9 hN _
      go_wp2
      go_ret2
      exact ⟨by rw [hS.out, hG.out, e1, e2, e3]; first | rfl | done, hN.below⟩
end Go.Proofs.Ytejlmggfeejgpaa
/- The chapter's twin, of flags. -/
namespace Go.Proofs.Ytejlmggfeejgpaa
open Go.RowKit
set_option linter.unusedVariables false
set_option linter.unusedSimpArgs false
set_option maxRecDepth 8000

set_option maxHeartbeats 8000000 in
theorem twin7_c {o x : Opr} (h7 : o.kind = 7) (w : World) : Calls Try.prog 49 #[opV o, opV x] w fun e w' => e = .returned (.tuple #[.bool (twSet o x), .bool (twGet o x)]) ∧ Below w.heap.size w w' := by
  have hb1 := below_alloc w (.cells (opA o) 39)
  have hb2 := below_alloc (w.alloc (.cells (opA o) 39)) (.cells (opA x) 39)
  have B := below_then hb1 (Nat.le_refl _) hb2
  have r1 := keepRow (heap_alloc_new w (.cells (opA o) 39)) hb2
  have r2 := heap_alloc_new (w.alloc (.cells (opA o) 39)) (.cells (opA x) 39)
  rw [World.size_alloc] at r2
  have hS := show Hid _ from (show twSet o x = (x.kind == 7 && x.r == o.r) by unfold twSet; rw [if_neg (by omega), if_neg (by omega), if_pos h7])
  have hG := show Hid _ from (show twGet o x = (x.kind == 6 && x.r == o.r) by unfold twGet; rw [if_neg (by omega), if_neg (by omega), if_pos h7])
  go_enter Try.func49, Try.ntmps49
  go_upto_region 1 with fail
  generalize (w.alloc (.cells (opA o) 39)).alloc (.cells (opA x) 39) = w1 at *
  generalize w.heap.size + 1 = b2 at *
  generalize hbb : w.heap.size = b1 at r1 B
  replace hbb := show Hid _ from hbb
  clear hb1 hb2
  have X : TwC w b1 b2 o x w1 := ⟨r1, r2, by rw [hbb.out]; exact B⟩
  have y0 : w1.cell? ⟨b1, 0, none⟩ = some (vI o.kind) := by rw [cell_of_row _ _ _ _ _ _ r1]; rfl
  have y1 : w1.cell? ⟨b1, 1, none⟩ = some (vI o.r) := by rw [cell_of_row _ _ _ _ _ _ r1]; rfl
  have z0 : w1.cell? ⟨b2, 0, none⟩ = some (vI x.kind) := by rw [cell_of_row _ _ _ _ _ _ r2]; rfl
  have z1 : w1.cell? ⟨b2, 1, none⟩ = some (vI x.r) := by rw [cell_of_row _ _ _ _ _ _ r2]; rfl
  rw [h7] at y0
  clear r1 r2 y1 z0 z1
  go_upto_region 7 with fail
  clear h7 y0
  cases e1 : (x.kind == 7)
  · cases e2 : (x.kind == 6)
    · skip
      refine RelQ.wp_region_rel RelQ.Grows (fun _ _ => False) (fun _ _ _ h _ => h.elim) (TwC w b1 b2 o x) [.inl (ptr b2 0), .inl (vI x.kind), .inl (.bool false), .inl (.bool false), .inl (undef), .inl (undef), .inl (undef), .inl (undef), .inl (undef), .inl (.bool false), .inl (ptr b2 0), .inl (vI x.kind), .inl (.bool false), .inl (.bool false), .inl (undef), .inl (undef), .inl (undef), .inl (undef), .inl (undef), .inl (.bool false), .inl (.bool false), .inl (.bool false)] (by kernel_rfl) (by kernel_rfl) RelQ.grows_refl (fun _ _ h hb => h.grow hb) (X.grow (below_dr _)) (by intro k hk; simp only [List.mem_cons, List.not_mem_nil, or_false] at hk; rcases hk with rfl | rfl | rfl | rfl | rfl | rfl | rfl | rfl | rfl | rfl | rfl | rfl | rfl | rfl | rfl | rfl | rfl | rfl | rfl | rfl | rfl | rfl <;> exact trivial) ?_
      refine ⟨fun w3 hC _ => RelQ.uponG_yes rfl (by have z0 := hC.z0; have z1 := hC.z1; have y1 := hC.y1; go_simp; first | exact RelQ.grows_refl _ | exact ⟨RelQ.grows_refl _, rfl⟩), ?_⟩
      simp only [Act.put, List.setIfInBounds_toArray, List.set_cons_succ, List.set_cons_zero]
      refine ⟨fun w3 hC _ => RelQ.uponG_yes rfl (by have z0 := hC.z0; have z1 := hC.z1; have y1 := hC.y1; go_simp; first | exact RelQ.grows_refl _ | exact ⟨RelQ.grows_refl _, rfl⟩), ?_⟩
      simp only [Act.put, List.setIfInBounds_toArray, List.set_cons_succ, List.set_cons_zero]
      refine ⟨fun w3 hC _ => RelQ.uponG_yes rfl (by have z0 := hC.z0; have z1 := hC.z1; have y1 := hC.y1; go_simp; first | exact RelQ.grows_refl _ | exact ⟨RelQ.grows_refl _, rfl⟩), ?_⟩
      simp only [Act.put, List.setIfInBounds_toArray, List.set_cons_succ, List.set_cons_zero]
      refine ⟨fun w3 hC _ => RelQ.uponG_yes rfl (by have z0 := hC.z0; have z1 := hC.z1; have y1 := hC.y1; go_simp; first | exact RelQ.grows_refl _ | exact ⟨RelQ.grows_refl _, rfl⟩), ?_⟩
      simp only [Act.put, List.setIfInBounds_toArray, List.set_cons_succ, List.set_cons_zero]
      refine ⟨fun w3 hC _ => RelQ.uponG_no rfl rfl, ?_⟩
      simp only [Act.put, List.setIfInBounds_toArray, List.set_cons_succ, List.set_cons_zero]
      refine ⟨fun w3 hC _ => RelQ.uponG_no rfl rfl, ?_⟩
      simp only [Act.put, List.setIfInBounds_toArray, List.set_cons_succ, List.set_cons_zero]
      refine ⟨fun w3 hC _ => RelQ.uponG_no rfl rfl, ?_⟩
      simp only [Act.put, List.setIfInBounds_toArray, List.set_cons_succ, List.set_cons_zero]
      refine ⟨fun w3 hC _ => RelQ.uponG_no rfl rfl, ?_⟩
      simp only [Act.put, List.setIfInBounds_toArray, List.set_cons_succ, List.set_cons_zero]
      refine ⟨fun w3 hC _ => RelQ.uponG_no rfl rfl, ?_⟩
      simp only [Act.put, List.setIfInBounds_toArray, List.set_cons_succ, List.set_cons_zero]
      refine ⟨fun w3 hC _ => RelQ.uponG_yes rfl (by have z0 := hC.z0; have z1 := hC.z1; have y1 := hC.y1; go_simp; first | exact RelQ.grows_refl _ | exact ⟨RelQ.grows_refl _, rfl⟩), ?_⟩
      simp only [Act.put, List.setIfInBounds_toArray, List.set_cons_succ, List.set_cons_zero]
      refine ⟨fun w3 hC _ => RelQ.uponG_yes rfl (by have z0 := hC.z0; have z1 := hC.z1; have y1 := hC.y1; go_simp; first | exact RelQ.grows_refl _ | exact ⟨RelQ.grows_refl _, rfl⟩), ?_⟩
      simp only [Act.put, List.setIfInBounds_toArray, List.set_cons_succ, List.set_cons_zero]
      refine ⟨fun w3 hC _ => RelQ.uponG_yes rfl (by have z0 := hC.z0; have z1 := hC.z1; have y1 := hC.y1; go_simp; first | exact RelQ.grows_refl _ | exact ⟨RelQ.grows_refl _, rfl⟩), ?_⟩
      simp only [Act.put, List.setIfInBounds_toArray, List.set_cons_succ, List.set_cons_zero]
      refine ⟨fun w3 hC _ => RelQ.uponG_yes rfl (by have z0 := hC.z0; have z1 := hC.z1; have y1 := hC.y1; go_simp; first | exact RelQ.grows_refl _ | exact ⟨RelQ.grows_refl _, rfl⟩), ?_⟩
      simp only [Act.put, List.setIfInBounds_toArray, List.set_cons_succ, List.set_cons_zero]
      refine ⟨fun w3 hC _ => RelQ.uponG_yes rfl (by have z0 := hC.z0; have z1 := hC.z1; have y1 := hC.y1; go_simp; first | exact RelQ.grows_refl _ | exact ⟨RelQ.grows_refl _, rfl⟩), ?_⟩
      simp only [Act.put, List.setIfInBounds_toArray, List.set_cons_succ, List.set_cons_zero]
      refine ⟨fun w3 hC _ => RelQ.uponG_no rfl rfl, ?_⟩
      simp only [Act.put, List.setIfInBounds_toArray, List.set_cons_succ, List.set_cons_zero]
      refine ⟨fun w3 hC _ => RelQ.uponG_no rfl rfl, ?_⟩
      simp only [Act.put, List.setIfInBounds_toArray, List.set_cons_succ, List.set_cons_zero]
      refine ⟨fun w3 hC _ => RelQ.uponG_no rfl rfl, ?_⟩
      simp only [Act.put, List.setIfInBounds_toArray, List.set_cons_succ, List.set_cons_zero]
      refine ⟨fun w3 hC _ => RelQ.uponG_no rfl rfl, ?_⟩
      simp only [Act.put, List.setIfInBounds_toArray, List.set_cons_succ, List.set_cons_zero]
      refine ⟨fun w3 hC _ => RelQ.uponG_no rfl rfl, ?_⟩
      simp only [Act.put, List.setIfInBounds_toArray, List.set_cons_succ, List.set_cons_zero]
      refine ⟨fun w3 hC _ => RelQ.uponG_yes rfl (by have z0 := hC.z0; have z1 := hC.z1; have y1 := hC.y1; go_simp; first | exact RelQ.grows_refl _ | exact ⟨RelQ.grows_refl _, rfl⟩), ?_⟩
      simp only [Act.put, List.setIfInBounds_toArray, List.set_cons_succ, List.set_cons_zero]
      refine ⟨fun w3 hC _ => RelQ.uponG_yes rfl (by have z0 := hC.z0; have z1 := hC.z1; have y1 := hC.y1; go_simp; first | exact RelQ.grows_refl _ | exact ⟨RelQ.grows_refl _, rfl⟩), ?_⟩
      simp only [Act.put, List.setIfInBounds_toArray, List.set_cons_succ, List.set_cons_zero]
      refine ⟨fun w3 hC _ => RelQ.uponG_yes rfl (by have z0 := hC.z0; have z1 := hC.z1; have y1 := hC.y1; go_simp; first | exact RelQ.grows_refl _ | exact ⟨RelQ.grows_refl _, rfl⟩), ?_⟩
      simp only [Act.put, List.setIfInBounds_toArray, List.set_cons_succ, List.set_cons_zero]
      intro w9 hN _
      go_wp2
      go_ret2
      exact ⟨by rw [hS.out, hG.out, e1, e2]; first | rfl | done, hN.below⟩
    · cases e3 : (x.r == o.r)
      · skip
        refine RelQ.wp_region_rel RelQ.Grows (fun _ _ => False) (fun _ _ _ h _ => h.elim) (TwC w b1 b2 o x) [.inl (ptr b2 0), .inl (vI x.kind), .inl (.bool false), .inl (.bool false), .inl (undef), .inl (undef), .inl (undef), .inl (undef), .inl (undef), .inl (.bool false), .inl (ptr b2 0), .inl (vI x.kind), .inl (.bool true), .inl (.bool true), .inl (ptr b2 1), .inl (vI x.r), .inl (ptr b1 1), .inl (vI o.r), .inl (.bool false), .inl (.bool false), .inl (.bool false), .inl (.bool false)] (by kernel_rfl) (by kernel_rfl) RelQ.grows_refl (fun _ _ h hb => h.grow hb) (X.grow (below_dr _)) (by intro k hk; simp only [List.mem_cons, List.not_mem_nil, or_false] at hk; rcases hk with rfl | rfl | rfl | rfl | rfl | rfl | rfl | rfl | rfl | rfl | rfl | rfl | rfl | rfl | rfl | rfl | rfl | rfl | rfl | rfl | rfl | rfl <;> exact trivial) ?_
        refine ⟨fun w3 hC _ => RelQ.uponG_yes rfl (by have z0 := hC.z0; have z1 := hC.z1; have y1 := hC.y1; go_simp; first | exact RelQ.grows_refl _ | exact ⟨RelQ.grows_refl _, rfl⟩), ?_⟩
        simp only [Act.put, List.setIfInBounds_toArray, List.set_cons_succ, List.set_cons_zero]
        refine ⟨fun w3 hC _ => RelQ.uponG_yes rfl (by have z0 := hC.z0; have z1 := hC.z1; have y1 := hC.y1; go_simp; first | exact RelQ.grows_refl _ | exact ⟨RelQ.grows_refl _, rfl⟩), ?_⟩
        simp only [Act.put, List.setIfInBounds_toArray, List.set_cons_succ, List.set_cons_zero]
        refine ⟨fun w3 hC _ => RelQ.uponG_yes rfl (by have z0 := hC.z0; have z1 := hC.z1; have y1 := hC.y1; go_simp; first | exact RelQ.grows_refl _ | exact ⟨RelQ.grows_refl _, rfl⟩), ?_⟩
        simp only [Act.put, List.setIfInBounds_toArray, List.set_cons_succ, List.set_cons_zero]
        refine ⟨fun w3 hC _ => RelQ.uponG_yes rfl (by have z0 := hC.z0; have z1 := hC.z1; have y1 := hC.y1; go_simp; first | exact RelQ.grows_refl _ | exact ⟨RelQ.grows_refl _, rfl⟩), ?_⟩
        simp only [Act.put, List.setIfInBounds_toArray, List.set_cons_succ, List.set_cons_zero]
        refine ⟨fun w3 hC _ => RelQ.uponG_no rfl rfl, ?_⟩
        simp only [Act.put, List.setIfInBounds_toArray, List.set_cons_succ, List.set_cons_zero]
        refine ⟨fun w3 hC _ => RelQ.uponG_no rfl rfl, ?_⟩
        simp only [Act.put, List.setIfInBounds_toArray, List.set_cons_succ, List.set_cons_zero]
        refine ⟨fun w3 hC _ => RelQ.uponG_no rfl rfl, ?_⟩
        simp only [Act.put, List.setIfInBounds_toArray, List.set_cons_succ, List.set_cons_zero]
        refine ⟨fun w3 hC _ => RelQ.uponG_no rfl rfl, ?_⟩
        simp only [Act.put, List.setIfInBounds_toArray, List.set_cons_succ, List.set_cons_zero]
        refine ⟨fun w3 hC _ => RelQ.uponG_no rfl rfl, ?_⟩
        simp only [Act.put, List.setIfInBounds_toArray, List.set_cons_succ, List.set_cons_zero]
        refine ⟨fun w3 hC _ => RelQ.uponG_yes rfl (by have z0 := hC.z0; have z1 := hC.z1; have y1 := hC.y1; go_simp; first | exact RelQ.grows_refl _ | exact ⟨RelQ.grows_refl _, rfl⟩), ?_⟩
        simp only [Act.put, List.setIfInBounds_toArray, List.set_cons_succ, List.set_cons_zero]
        refine ⟨fun w3 hC _ => RelQ.uponG_yes rfl (by have z0 := hC.z0; have z1 := hC.z1; have y1 := hC.y1; go_simp; first | exact RelQ.grows_refl _ | exact ⟨RelQ.grows_refl _, rfl⟩), ?_⟩
        simp only [Act.put, List.setIfInBounds_toArray, List.set_cons_succ, List.set_cons_zero]
        refine ⟨fun w3 hC _ => RelQ.uponG_yes rfl (by have z0 := hC.z0; have z1 := hC.z1; have y1 := hC.y1; go_simp; first | exact RelQ.grows_refl _ | exact ⟨RelQ.grows_refl _, rfl⟩), ?_⟩
        simp only [Act.put, List.setIfInBounds_toArray, List.set_cons_succ, List.set_cons_zero]
        refine ⟨fun w3 hC _ => RelQ.uponG_yes rfl (by have z0 := hC.z0; have z1 := hC.z1; have y1 := hC.y1; go_simp; first | exact RelQ.grows_refl _ | exact ⟨RelQ.grows_refl _, rfl⟩), ?_⟩
        simp only [Act.put, List.setIfInBounds_toArray, List.set_cons_succ, List.set_cons_zero]
        refine ⟨fun w3 hC _ => RelQ.uponG_yes rfl (by have z0 := hC.z0; have z1 := hC.z1; have y1 := hC.y1; go_simp; first | exact RelQ.grows_refl _ | exact ⟨RelQ.grows_refl _, rfl⟩), ?_⟩
        simp only [Act.put, List.setIfInBounds_toArray, List.set_cons_succ, List.set_cons_zero]
        refine ⟨fun w3 hC _ => RelQ.uponG_yes rfl (by have z0 := hC.z0; have z1 := hC.z1; have y1 := hC.y1; go_simp; first | exact RelQ.grows_refl _ | exact ⟨RelQ.grows_refl _, rfl⟩), ?_⟩
        simp only [Act.put, List.setIfInBounds_toArray, List.set_cons_succ, List.set_cons_zero]
        refine ⟨fun w3 hC _ => RelQ.uponG_yes rfl (by have z0 := hC.z0; have z1 := hC.z1; have y1 := hC.y1; go_simp; first | exact RelQ.grows_refl _ | exact ⟨RelQ.grows_refl _, rfl⟩), ?_⟩
        simp only [Act.put, List.setIfInBounds_toArray, List.set_cons_succ, List.set_cons_zero]
        refine ⟨fun w3 hC _ => RelQ.uponG_yes rfl (by have z0 := hC.z0; have z1 := hC.z1; have y1 := hC.y1; go_simp; first | exact RelQ.grows_refl _ | exact ⟨RelQ.grows_refl _, rfl⟩), ?_⟩
        simp only [Act.put, List.setIfInBounds_toArray, List.set_cons_succ, List.set_cons_zero]
        refine ⟨fun w3 hC _ => RelQ.uponG_yes rfl (by have z0 := hC.z0; have z1 := hC.z1; have y1 := hC.y1; go_simp; first | exact RelQ.grows_refl _ | exact ⟨RelQ.grows_refl _, rfl⟩), ?_⟩
        simp only [Act.put, List.setIfInBounds_toArray, List.set_cons_succ, List.set_cons_zero]
        refine ⟨fun w3 hC _ => RelQ.uponG_yes rfl (by have z0 := hC.z0; have z1 := hC.z1; have y1 := hC.y1; go_simp; first | exact RelQ.grows_refl _ | exact ⟨RelQ.grows_refl _, rfl⟩), ?_⟩
        simp only [Act.put, List.setIfInBounds_toArray, List.set_cons_succ, List.set_cons_zero]
        refine ⟨fun w3 hC _ => RelQ.uponG_yes rfl (by have z0 := hC.z0; have z1 := hC.z1; have y1 := hC.y1; go_simp; first | exact RelQ.grows_refl _ | exact ⟨RelQ.grows_refl _, rfl⟩), ?_⟩
        simp only [Act.put, List.setIfInBounds_toArray, List.set_cons_succ, List.set_cons_zero]
        refine ⟨fun w3 hC _ => RelQ.uponG_yes rfl (by have z0 := hC.z0; have z1 := hC.z1; have y1 := hC.y1; go_simp; first | exact RelQ.grows_refl _ | exact ⟨RelQ.grows_refl _, rfl⟩), ?_⟩
        simp only [Act.put, List.setIfInBounds_toArray, List.set_cons_succ, List.set_cons_zero]
        refine ⟨fun w3 hC _ => RelQ.uponG_yes rfl (by have z0 := hC.z0; have z1 := hC.z1; have y1 := hC.y1; go_simp; first | exact RelQ.grows_refl _ | exact ⟨RelQ.grows_refl _, rfl⟩), ?_⟩
        simp only [Act.put, List.setIfInBounds_toArray, List.set_cons_succ, List.set_cons_zero]
        intro w9 hN _
        go_wp2
        go_ret2
        exact ⟨by rw [hS.out, hG.out, e1, e2, e3]; first | rfl | done, hN.below⟩
      · skip
        refine RelQ.wp_region_rel RelQ.Grows (fun _ _ => False) (fun _ _ _ h _ => h.elim) (TwC w b1 b2 o x) [.inl (ptr b2 0), .inl (vI x.kind), .inl (.bool false), .inl (.bool false), .inl (undef), .inl (undef), .inl (undef), .inl (undef), .inl (undef), .inl (.bool false), .inl (ptr b2 0), .inl (vI x.kind), .inl (.bool true), .inl (.bool true), .inl (ptr b2 1), .inl (vI x.r), .inl (ptr b1 1), .inl (vI o.r), .inl (.bool true), .inl (.bool true), .inl (.bool false), .inl (.bool true)] (by kernel_rfl) (by kernel_rfl) RelQ.grows_refl (fun _ _ h hb => h.grow hb) (X.grow (below_dr _)) (by intro k hk; simp only [List.mem_cons, List.not_mem_nil, or_false] at hk; rcases hk with rfl | rfl | rfl | rfl | rfl | rfl | rfl | rfl | rfl | rfl | rfl | rfl | rfl | rfl | rfl | rfl | rfl | rfl | rfl | rfl | rfl | rfl <;> exact trivial) ?_
        refine ⟨fun w3 hC _ => RelQ.uponG_yes rfl (by have z0 := hC.z0; have z1 := hC.z1; have y1 := hC.y1; go_simp; first | exact RelQ.grows_refl _ | exact ⟨RelQ.grows_refl _, rfl⟩), ?_⟩
        simp only [Act.put, List.setIfInBounds_toArray, List.set_cons_succ, List.set_cons_zero]
        refine ⟨fun w3 hC _ => RelQ.uponG_yes rfl (by have z0 := hC.z0; have z1 := hC.z1; have y1 := hC.y1; go_simp; first | exact RelQ.grows_refl _ | exact ⟨RelQ.grows_refl _, rfl⟩), ?_⟩
        simp only [Act.put, List.setIfInBounds_toArray, List.set_cons_succ, List.set_cons_zero]
        refine ⟨fun w3 hC _ => RelQ.uponG_yes rfl (by have z0 := hC.z0; have z1 := hC.z1; have y1 := hC.y1; go_simp; first | exact RelQ.grows_refl _ | exact ⟨RelQ.grows_refl _, rfl⟩), ?_⟩
        simp only [Act.put, List.setIfInBounds_toArray, List.set_cons_succ, List.set_cons_zero]
        refine ⟨fun w3 hC _ => RelQ.uponG_yes rfl (by have z0 := hC.z0; have z1 := hC.z1; have y1 := hC.y1; go_simp; first | exact RelQ.grows_refl _ | exact ⟨RelQ.grows_refl _, rfl⟩), ?_⟩
        simp only [Act.put, List.setIfInBounds_toArray, List.set_cons_succ, List.set_cons_zero]
        refine ⟨fun w3 hC _ => RelQ.uponG_no rfl rfl, ?_⟩
        simp only [Act.put, List.setIfInBounds_toArray, List.set_cons_succ, List.set_cons_zero]
        refine ⟨fun w3 hC _ => RelQ.uponG_no rfl rfl, ?_⟩
        simp only [Act.put, List.setIfInBounds_toArray, List.set_cons_succ, List.set_cons_zero]
        refine ⟨fun w3 hC _ => RelQ.uponG_no rfl rfl, ?_⟩
        simp only [Act.put, List.setIfInBounds_toArray, List.set_cons_succ, List.set_cons_zero]
        refine ⟨fun w3 hC _ => RelQ.uponG_no rfl rfl, ?_⟩
        simp only [Act.put, List.setIfInBounds_toArray, List.set_cons_succ, List.set_cons_zero]
        refine ⟨fun w3 hC _ => RelQ.uponG_no rfl rfl, ?_⟩
        simp only [Act.put, List.setIfInBounds_toArray, List.set_cons_succ, List.set_cons_zero]
        refine ⟨fun w3 hC _ => RelQ.uponG_yes rfl (by have z0 := hC.z0; have z1 := hC.z1; have y1 := hC.y1; go_simp; first | exact RelQ.grows_refl _ | exact ⟨RelQ.grows_refl _, rfl⟩), ?_⟩
        simp only [Act.put, List.setIfInBounds_toArray, List.set_cons_succ, List.set_cons_zero]
        refine ⟨fun w3 hC _ => RelQ.uponG_yes rfl (by have z0 := hC.z0; have z1 := hC.z1; have y1 := hC.y1; go_simp; first | exact RelQ.grows_refl _ | exact ⟨RelQ.grows_refl _, rfl⟩), ?_⟩
        simp only [Act.put, List.setIfInBounds_toArray, List.set_cons_succ, List.set_cons_zero]
        refine ⟨fun w3 hC _ => RelQ.uponG_yes rfl (by have z0 := hC.z0; have z1 := hC.z1; have y1 := hC.y1; go_simp; first | exact RelQ.grows_refl _ | exact ⟨RelQ.grows_refl _, rfl⟩), ?_⟩
        simp only [Act.put, List.setIfInBounds_toArray, List.set_cons_succ, List.set_cons_zero]
        refine ⟨fun w3 hC _ => RelQ.uponG_yes rfl (by have z0 := hC.z0; have z1 := hC.z1; have y1 := hC.y1; go_simp; first | exact RelQ.grows_refl _ | exact ⟨RelQ.grows_refl _, rfl⟩), ?_⟩
        simp only [Act.put, List.setIfInBounds_toArray, List.set_cons_succ, List.set_cons_zero]
        refine ⟨fun w3 hC _ => RelQ.uponG_yes rfl (by have z0 := hC.z0; have z1 := hC.z1; have y1 := hC.y1; go_simp; first | exact RelQ.grows_refl _ | exact ⟨RelQ.grows_refl _, rfl⟩), ?_⟩
        simp only [Act.put, List.setIfInBounds_toArray, List.set_cons_succ, List.set_cons_zero]
        refine ⟨fun w3 hC _ => RelQ.uponG_yes rfl (by have z0 := hC.z0; have z1 := hC.z1; have y1 := hC.y1; go_simp; first | exact RelQ.grows_refl _ | exact ⟨RelQ.grows_refl _, rfl⟩), ?_⟩
        simp only [Act.put, List.setIfInBounds_toArray, List.set_cons_succ, List.set_cons_zero]
        refine ⟨fun w3 hC _ => RelQ.uponG_yes rfl (by have z0 := hC.z0; have z1 := hC.z1; have y1 := hC.y1; go_simp; first | exact RelQ.grows_refl _ | exact ⟨RelQ.grows_refl _, rfl⟩), ?_⟩
        simp only [Act.put, List.setIfInBounds_toArray, List.set_cons_succ, List.set_cons_zero]
        refine ⟨fun w3 hC _ => RelQ.uponG_yes rfl (by have z0 := hC.z0; have z1 := hC.z1; have y1 := hC.y1; go_simp; first | exact RelQ.grows_refl _ | exact ⟨RelQ.grows_refl _, rfl⟩), ?_⟩
        simp only [Act.put, List.setIfInBounds_toArray, List.set_cons_succ, List.set_cons_zero]
        refine ⟨fun w3 hC _ => RelQ.uponG_yes rfl (by have z0 := hC.z0; have z1 := hC.z1; have y1 := hC.y1; go_simp; first | exact RelQ.grows_refl _ | exact ⟨RelQ.grows_refl _, rfl⟩), ?_⟩
        simp only [Act.put, List.setIfInBounds_toArray, List.set_cons_succ, List.set_cons_zero]
        refine ⟨fun w3 hC _ => RelQ.uponG_yes rfl (by have z0 := hC.z0; have z1 := hC.z1; have y1 := hC.y1; go_simp; first | exact RelQ.grows_refl _ | exact ⟨RelQ.grows_refl _, rfl⟩), ?_⟩
        simp only [Act.put, List.setIfInBounds_toArray, List.set_cons_succ, List.set_cons_zero]
        refine ⟨fun w3 hC _ => RelQ.uponG_yes rfl (by have z0 := hC.z0; have z1 := hC.z1; have y1 := hC.y1; go_simp; first | exact RelQ.grows_refl _ | exact ⟨RelQ.grows_refl _, rfl⟩), ?_⟩
        simp only [Act.put, List.setIfInBounds_toArray, List.set_cons_succ, List.set_cons_zero]
        refine ⟨fun w3 hC _ => RelQ.uponG_yes rfl (by have z0 := hC.z0; have z1 := hC.z1; have y1 := hC.y1; go_simp; first | exact RelQ.grows_refl _ | exact ⟨RelQ.grows_refl _, rfl⟩), ?_⟩
        simp only [Act.put, List.setIfInBounds_toArray, List.set_cons_succ, List.set_cons_zero]
        refine ⟨fun w3 hC _ => RelQ.uponG_yes rfl (by have z0 := hC.z0; have z1 := hC.z1; have y1 := hC.y1; go_simp; first | exact RelQ.grows_refl _ | exact ⟨RelQ.grows_refl _, rfl⟩), ?_⟩
        simp only [Act.put, List.setIfInBounds_toArray, List.set_cons_succ, List.set_cons_zero]
        intro w9 hN _
        go_wp2
        go_ret2
        exact ⟨by rw [hS.out, hG.out, e1, e2, e3]; first | rfl | done, hN.below⟩
  · have e2 : (x.kind == 6) = false := by
      have : x.kind = 7 := by simpa using e1
      rw [this]; rfl
    cases e3 : (x.r == o.r)
    · skip
      refine RelQ.wp_region_rel RelQ.Grows (fun _ _ => False) (fun _ _ _ h _ => h.elim) (TwC w b1 b2 o x) [.inl (ptr b2 0), .inl (vI x.kind), .inl (.bool true), .inl (.bool true), .inl (ptr b2 1), .inl (vI x.r), .inl (ptr b1 1), .inl (vI o.r), .inl (.bool false), .inl (.bool false), .inl (ptr b2 0), .inl (vI x.kind), .inl (.bool false), .inl (.bool false), .inl (undef), .inl (undef), .inl (undef), .inl (undef), .inl (undef), .inl (.bool false), .inl (.bool false), .inl (.bool false)] (by kernel_rfl) (by kernel_rfl) RelQ.grows_refl (fun _ _ h hb => h.grow hb) (X.grow (below_dr _)) (by intro k hk; simp only [List.mem_cons, List.not_mem_nil, or_false] at hk; rcases hk with rfl | rfl | rfl | rfl | rfl | rfl | rfl | rfl | rfl | rfl | rfl | rfl | rfl | rfl | rfl | rfl | rfl | rfl | rfl | rfl | rfl | rfl <;> exact trivial) ?_
      refine ⟨fun w3 hC _ => RelQ.uponG_yes rfl (by have z0 := hC.z0; have z1 := hC.z1; have y1 := hC.y1; go_simp; first | exact RelQ.grows_refl _ | exact ⟨RelQ.grows_refl _, rfl⟩), ?_⟩
      simp only [Act.put, List.setIfInBounds_toArray, List.set_cons_succ, List.set_cons_zero]
      refine ⟨fun w3 hC _ => RelQ.uponG_yes rfl (by have z0 := hC.z0; have z1 := hC.z1; have y1 := hC.y1; go_simp; first | exact RelQ.grows_refl _ | exact ⟨RelQ.grows_refl _, rfl⟩), ?_⟩
      simp only [Act.put, List.setIfInBounds_toArray, List.set_cons_succ, List.set_cons_zero]
      refine ⟨fun w3 hC _ => RelQ.uponG_yes rfl (by have z0 := hC.z0; have z1 := hC.z1; have y1 := hC.y1; go_simp; first | exact RelQ.grows_refl _ | exact ⟨RelQ.grows_refl _, rfl⟩), ?_⟩
      simp only [Act.put, List.setIfInBounds_toArray, List.set_cons_succ, List.set_cons_zero]
      refine ⟨fun w3 hC _ => RelQ.uponG_yes rfl (by have z0 := hC.z0; have z1 := hC.z1; have y1 := hC.y1; go_simp; first | exact RelQ.grows_refl _ | exact ⟨RelQ.grows_refl _, rfl⟩), ?_⟩
      simp only [Act.put, List.setIfInBounds_toArray, List.set_cons_succ, List.set_cons_zero]
      refine ⟨fun w3 hC _ => RelQ.uponG_yes rfl (by have z0 := hC.z0; have z1 := hC.z1; have y1 := hC.y1; go_simp; first | exact RelQ.grows_refl _ | exact ⟨RelQ.grows_refl _, rfl⟩), ?_⟩
      simp only [Act.put, List.setIfInBounds_toArray, List.set_cons_succ, List.set_cons_zero]
      refine ⟨fun w3 hC _ => RelQ.uponG_yes rfl (by have z0 := hC.z0; have z1 := hC.z1; have y1 := hC.y1; go_simp; first | exact RelQ.grows_refl _ | exact ⟨RelQ.grows_refl _, rfl⟩), ?_⟩
      simp only [Act.put, List.setIfInBounds_toArray, List.set_cons_succ, List.set_cons_zero]
      refine ⟨fun w3 hC _ => RelQ.uponG_yes rfl (by have z0 := hC.z0; have z1 := hC.z1; have y1 := hC.y1; go_simp; first | exact RelQ.grows_refl _ | exact ⟨RelQ.grows_refl _, rfl⟩), ?_⟩
      simp only [Act.put, List.setIfInBounds_toArray, List.set_cons_succ, List.set_cons_zero]
      refine ⟨fun w3 hC _ => RelQ.uponG_yes rfl (by have z0 := hC.z0; have z1 := hC.z1; have y1 := hC.y1; go_simp; first | exact RelQ.grows_refl _ | exact ⟨RelQ.grows_refl _, rfl⟩), ?_⟩
      simp only [Act.put, List.setIfInBounds_toArray, List.set_cons_succ, List.set_cons_zero]
      refine ⟨fun w3 hC _ => RelQ.uponG_yes rfl (by have z0 := hC.z0; have z1 := hC.z1; have y1 := hC.y1; go_simp; first | exact RelQ.grows_refl _ | exact ⟨RelQ.grows_refl _, rfl⟩), ?_⟩
      simp only [Act.put, List.setIfInBounds_toArray, List.set_cons_succ, List.set_cons_zero]
      refine ⟨fun w3 hC _ => RelQ.uponG_yes rfl (by have z0 := hC.z0; have z1 := hC.z1; have y1 := hC.y1; go_simp; first | exact RelQ.grows_refl _ | exact ⟨RelQ.grows_refl _, rfl⟩), ?_⟩
      simp only [Act.put, List.setIfInBounds_toArray, List.set_cons_succ, List.set_cons_zero]
      refine ⟨fun w3 hC _ => RelQ.uponG_yes rfl (by have z0 := hC.z0; have z1 := hC.z1; have y1 := hC.y1; go_simp; first | exact RelQ.grows_refl _ | exact ⟨RelQ.grows_refl _, rfl⟩), ?_⟩
      simp only [Act.put, List.setIfInBounds_toArray, List.set_cons_succ, List.set_cons_zero]
      refine ⟨fun w3 hC _ => RelQ.uponG_yes rfl (by have z0 := hC.z0; have z1 := hC.z1; have y1 := hC.y1; go_simp; first | exact RelQ.grows_refl _ | exact ⟨RelQ.grows_refl _, rfl⟩), ?_⟩
      simp only [Act.put, List.setIfInBounds_toArray, List.set_cons_succ, List.set_cons_zero]
      refine ⟨fun w3 hC _ => RelQ.uponG_yes rfl (by have z0 := hC.z0; have z1 := hC.z1; have y1 := hC.y1; go_simp; first | exact RelQ.grows_refl _ | exact ⟨RelQ.grows_refl _, rfl⟩), ?_⟩
      simp only [Act.put, List.setIfInBounds_toArray, List.set_cons_succ, List.set_cons_zero]
      refine ⟨fun w3 hC _ => RelQ.uponG_yes rfl (by have z0 := hC.z0; have z1 := hC.z1; have y1 := hC.y1; go_simp; first | exact RelQ.grows_refl _ | exact ⟨RelQ.grows_refl _, rfl⟩), ?_⟩
      simp only [Act.put, List.setIfInBounds_toArray, List.set_cons_succ, List.set_cons_zero]
      refine ⟨fun w3 hC _ => RelQ.uponG_no rfl rfl, ?_⟩
      simp only [Act.put, List.setIfInBounds_toArray, List.set_cons_succ, List.set_cons_zero]
      refine ⟨fun w3 hC _ => RelQ.uponG_no rfl rfl, ?_⟩
      simp only [Act.put, List.setIfInBounds_toArray, List.set_cons_succ, List.set_cons_zero]
      refine ⟨fun w3 hC _ => RelQ.uponG_no rfl rfl, ?_⟩
      simp only [Act.put, List.setIfInBounds_toArray, List.set_cons_succ, List.set_cons_zero]
      refine ⟨fun w3 hC _ => RelQ.uponG_no rfl rfl, ?_⟩
      simp only [Act.put, List.setIfInBounds_toArray, List.set_cons_succ, List.set_cons_zero]
      refine ⟨fun w3 hC _ => RelQ.uponG_no rfl rfl, ?_⟩
      simp only [Act.put, List.setIfInBounds_toArray, List.set_cons_succ, List.set_cons_zero]
      refine ⟨fun w3 hC _ => RelQ.uponG_yes rfl (by have z0 := hC.z0; have z1 := hC.z1; have y1 := hC.y1; go_simp; first | exact RelQ.grows_refl _ | exact ⟨RelQ.grows_refl _, rfl⟩), ?_⟩
      simp only [Act.put, List.setIfInBounds_toArray, List.set_cons_succ, List.set_cons_zero]
      refine ⟨fun w3 hC _ => RelQ.uponG_yes rfl (by have z0 := hC.z0; have z1 := hC.z1; have y1 := hC.y1; go_simp; first | exact RelQ.grows_refl _ | exact ⟨RelQ.grows_refl _, rfl⟩), ?_⟩
      simp only [Act.put, List.setIfInBounds_toArray, List.set_cons_succ, List.set_cons_zero]
      refine ⟨fun w3 hC _ => RelQ.uponG_yes rfl (by have z0 := hC.z0; have z1 := hC.z1; have y1 := hC.y1; go_simp; first | exact RelQ.grows_refl _ | exact ⟨RelQ.grows_refl _, rfl⟩), ?_⟩
      simp only [Act.put, List.setIfInBounds_toArray, List.set_cons_succ, List.set_cons_zero]
      intro w9 hN _
      go_wp2
      go_ret2
      exact ⟨by rw [hS.out, hG.out, e1, e2, e3]; first | rfl | done, hN.below⟩
    · skip
      refine RelQ.wp_region_rel RelQ.Grows (fun _ _ => False) (fun _ _ _ h _ => h.elim) (TwC w b1 b2 o x) [.inl (ptr b2 0), .inl (vI x.kind), .inl (.bool true), .inl (.bool true), .inl (ptr b2 1), .inl (vI x.r), .inl (ptr b1 1), .inl (vI o.r), .inl (.bool true), .inl (.bool true), .inl (ptr b2 0), .inl (vI x.kind), .inl (.bool false), .inl (.bool false), .inl (undef), .inl (undef), .inl (undef), .inl (undef), .inl (undef), .inl (.bool false), .inl (.bool true), .inl (.bool false)] (by kernel_rfl) (by kernel_rfl) RelQ.grows_refl (fun _ _ h hb => h.grow hb) (X.grow (below_dr _)) (by intro k hk; simp only [List.mem_cons, List.not_mem_nil, or_false] at hk; rcases hk with rfl | rfl | rfl | rfl | rfl | rfl | rfl | rfl | rfl | rfl | rfl | rfl | rfl | rfl | rfl | rfl | rfl | rfl | rfl | rfl | rfl | rfl <;> exact trivial) ?_
      refine ⟨fun w3 hC _ => RelQ.uponG_yes rfl (by have z0 := hC.z0; have z1 := hC.z1; have y1 := hC.y1; go_simp; first | exact RelQ.grows_refl _ | exact ⟨RelQ.grows_refl _, rfl⟩), ?_⟩
      simp only [Act.put, List.setIfInBounds_toArray, List.set_cons_succ, List.set_cons_zero]
      refine ⟨fun w3 hC _ => RelQ.uponG_yes rfl (by have z0 := hC.z0; have z1 := hC.z1; have y1 := hC.y1; go_simp; first | exact RelQ.grows_refl _ | exact ⟨RelQ.grows_refl _, rfl⟩), ?_⟩
      simp only [Act.put, List.setIfInBounds_toArray, List.set_cons_succ, List.set_cons_zero]
      refine ⟨fun w3 hC _ => RelQ.uponG_yes rfl (by have z0 := hC.z0; have z1 := hC.z1; have y1 := hC.y1; go_simp; first | exact RelQ.grows_refl _ | exact ⟨RelQ.grows_refl _, rfl⟩), ?_⟩
      simp only [Act.put, List.setIfInBounds_toArray, List.set_cons_succ, List.set_cons_zero]
      refine ⟨fun w3 hC _ => RelQ.uponG_yes rfl (by have z0 := hC.z0; have z1 := hC.z1; have y1 := hC.y1; go_simp; first | exact RelQ.grows_refl _ | exact ⟨RelQ.grows_refl _, rfl⟩), ?_⟩
      simp only [Act.put, List.setIfInBounds_toArray, List.set_cons_succ, List.set_cons_zero]
      refine ⟨fun w3 hC _ => RelQ.uponG_yes rfl (by have z0 := hC.z0; have z1 := hC.z1; have y1 := hC.y1; go_simp; first | exact RelQ.grows_refl _ | exact ⟨RelQ.grows_refl _, rfl⟩), ?_⟩
      simp only [Act.put, List.setIfInBounds_toArray, List.set_cons_succ, List.set_cons_zero]
      refine ⟨fun w3 hC _ => RelQ.uponG_yes rfl (by have z0 := hC.z0; have z1 := hC.z1; have y1 := hC.y1; go_simp; first | exact RelQ.grows_refl _ | exact ⟨RelQ.grows_refl _, rfl⟩), ?_⟩
      simp only [Act.put, List.setIfInBounds_toArray, List.set_cons_succ, List.set_cons_zero]
      refine ⟨fun w3 hC _ => RelQ.uponG_yes rfl (by have z0 := hC.z0; have z1 := hC.z1; have y1 := hC.y1; go_simp; first | exact RelQ.grows_refl _ | exact ⟨RelQ.grows_refl _, rfl⟩), ?_⟩
      simp only [Act.put, List.setIfInBounds_toArray, List.set_cons_succ, List.set_cons_zero]
      refine ⟨fun w3 hC _ => RelQ.uponG_yes rfl (by have z0 := hC.z0; have z1 := hC.z1; have y1 := hC.y1; go_simp; first | exact RelQ.grows_refl _ | exact ⟨RelQ.grows_refl _, rfl⟩), ?_⟩
      simp only [Act.put, List.setIfInBounds_toArray, List.set_cons_succ, List.set_cons_zero]
      refine ⟨fun w3 hC _ => RelQ.uponG_yes rfl (by have z0 := hC.z0; have z1 := hC.z1; have y1 := hC.y1; go_simp; first | exact RelQ.grows_refl _ | exact ⟨RelQ.grows_refl _, rfl⟩), ?_⟩
      simp only [Act.put, List.setIfInBounds_toArray, List.set_cons_succ, List.set_cons_zero]
      refine ⟨fun w3 hC _ => RelQ.uponG_yes rfl (by have z0 := hC.z0; have z1 := hC.z1; have y1 := hC.y1; go_simp; first | exact RelQ.grows_refl _ | exact ⟨RelQ.grows_refl _, rfl⟩), ?_⟩
      simp only [Act.put, List.setIfInBounds_toArray, List.set_cons_succ, List.set_cons_zero]
      refine ⟨fun w3 hC _ => RelQ.uponG_yes rfl (by have z0 := hC.z0; have z1 := hC.z1; have y1 := hC.y1; go_simp; first | exact RelQ.grows_refl _ | exact ⟨RelQ.grows_refl _, rfl⟩), ?_⟩
      simp only [Act.put, List.setIfInBounds_toArray, List.set_cons_succ, List.set_cons_zero]
      refine ⟨fun w3 hC _ => RelQ.uponG_yes rfl (by have z0 := hC.z0; have z1 := hC.z1; have y1 := hC.y1; go_simp; first | exact RelQ.grows_refl _ | exact ⟨RelQ.grows_refl _, rfl⟩), ?_⟩
      simp only [Act.put, List.setIfInBounds_toArray, List.set_cons_succ, List.set_cons_zero]
      refine ⟨fun w3 hC _ => RelQ.uponG_yes rfl (by have z0 := hC.z0; have z1 := hC.z1; have y1 := hC.y1; go_simp; first | exact RelQ.grows_refl _ | exact ⟨RelQ.grows_refl _, rfl⟩), ?_⟩
      simp only [Act.put, List.setIfInBounds_toArray, List.set_cons_succ, List.set_cons_zero]
      refine ⟨fun w3 hC _ => RelQ.uponG_yes rfl (by have z0 := hC.z0; have z1 := hC.z1; have y1 := hC.y1; go_simp; first | exact RelQ.grows_refl _ | exact ⟨RelQ.grows_refl _, rfl⟩), ?_⟩
      simp only [Act.put, List.setIfInBounds_toArray, List.set_cons_succ, List.set_cons_zero]
      refine ⟨fun w3 hC _ => RelQ.uponG_no rfl rfl, ?_⟩
      simp only [Act.put, List.setIfInBounds_toArray, List.set_cons_succ, List.set_cons_zero]
      refine ⟨fun w3 hC _ => RelQ.uponG_no rfl rfl, ?_⟩
      simp only [Act.put, List.setIfInBounds_toArray, List.set_cons_succ, List.set_cons_zero]
      refine ⟨fun w3 hC _ => RelQ.uponG_no rfl rfl, ?_⟩
      simp only [Act.put, List.setIfInBounds_toArray, List.set_cons_succ, List.set_cons_zero]
      refine ⟨fun w3 hC _ => RelQ.uponG_no rfl rfl, ?_⟩
      simp only [Act.put, List.setIfInBounds_toArray, List.set_cons_succ, List.set_cons_zero]
      refine ⟨fun w3 hC _ => RelQ.uponG_no rfl rfl, ?_⟩
      simp only [Act.put, List.setIfInBounds_toArray, List.set_cons_succ, List.set_cons_zero]
      refine ⟨fun w3 hC _ => RelQ.uponG_yes rfl (by have z0 := hC.z0; have z1 := hC.z1; have y1 := hC.y1; go_simp; first | exact RelQ.grows_refl _ | exact ⟨RelQ.grows_refl _, rfl⟩), ?_⟩
      simp only [Act.put, List.setIfInBounds_toArray, List.set_cons_succ, List.set_cons_zero]
      refine ⟨fun w3 hC _ => RelQ.uponG_yes rfl (by have z0 := hC.z0; have z1 := hC.z1; have y1 := hC.y1; go_simp; first | exact RelQ.grows_refl _ | exact ⟨RelQ.grows_refl _, rfl⟩), ?_⟩
      simp only [Act.put, List.setIfInBounds_toArray, List.set_cons_succ, List.set_cons_zero]
      refine ⟨fun w3 hC _ => RelQ.uponG_yes rfl (by have z0 := hC.z0; have z1 := hC.z1; have y1 := hC.y1; go_simp; first | exact RelQ.grows_refl _ | exact ⟨RelQ.grows_refl _, rfl⟩), ?_⟩
      simp only [Act.put, List.setIfInBounds_toArray, List.set_cons_succ, List.set_cons_zero]
      intro w9 hN _
      go_wp2
      go_ret2
      exact ⟨by rw [hS.out, hG.out, e1, e2, e3]; first | rfl | done, hN.below⟩
end Go.Proofs.Ytejlmggfeejgpaa
/- The chapter's twin, of any. -/
namespace Go.Proofs.Ytejlmggfeejgpaa
open Go.RowKit
set_option linter.unusedVariables false
set_option linter.unusedSimpArgs false
set_option maxRecDepth 8000

set_option maxHeartbeats 8000000 in
theorem twin5_c {o x : Opr} (h5 : o.kind = 5) (w : World) : Calls Try.prog 49 #[opV o, opV x] w fun e w' => e = .returned (.tuple #[.bool (twSet o x), .bool (twGet o x)]) ∧ Below w.heap.size w w' := by
  have hb1 := below_alloc w (.cells (opA o) 39)
  have hb2 := below_alloc (w.alloc (.cells (opA o) 39)) (.cells (opA x) 39)
  have B := below_then hb1 (Nat.le_refl _) hb2
  have r1 := keepRow (heap_alloc_new w (.cells (opA o) 39)) hb2
  have r2 := heap_alloc_new (w.alloc (.cells (opA o) 39)) (.cells (opA x) 39)
  rw [World.size_alloc] at r2
  have hS := show Hid _ from (show twSet o x = (x.kind == 5) by unfold twSet; rw [if_neg (by omega), if_pos h5])
  have hG := show Hid _ from (show twGet o x = (x.kind == 4) by unfold twGet; rw [if_neg (by omega), if_pos h5])
  go_enter Try.func49, Try.ntmps49
  go_upto_region 1 with fail
  generalize (w.alloc (.cells (opA o) 39)).alloc (.cells (opA x) 39) = w1 at *
  generalize w.heap.size + 1 = b2 at *
  generalize hbb : w.heap.size = b1 at r1 B
  replace hbb := show Hid _ from hbb
  clear hb1 hb2
  have X : TwC w b1 b2 o x w1 := ⟨r1, r2, by rw [hbb.out]; exact B⟩
  have y0 : w1.cell? ⟨b1, 0, none⟩ = some (vI o.kind) := by rw [cell_of_row _ _ _ _ _ _ r1]; rfl
  have y1 : w1.cell? ⟨b1, 1, none⟩ = some (vI o.r) := by rw [cell_of_row _ _ _ _ _ _ r1]; rfl
  have z0 : w1.cell? ⟨b2, 0, none⟩ = some (vI x.kind) := by rw [cell_of_row _ _ _ _ _ _ r2]; rfl
  have z1 : w1.cell? ⟨b2, 1, none⟩ = some (vI x.r) := by rw [cell_of_row _ _ _ _ _ _ r2]; rfl
  rw [h5] at y0
  clear r1 r2 y1 z0 z1
  go_upto_region 5 with fail
  clear h5 y0
  refine RelQ.wp_region_rel RelQ.Grows (fun _ _ => False) (fun _ _ _ h _ => h.elim) (TwC w b1 b2 o x) [.inl (ptr b2 0), .inl (vI x.kind), .inl (.bool (x.kind == 5)), .inl (ptr b2 0), .inl (vI x.kind), .inl (.bool (x.kind == 4)), .inl (.bool (x.kind == 5)), .inl (.bool (x.kind == 4))] (by kernel_rfl) (by kernel_rfl) RelQ.grows_refl (fun _ _ h hb => h.grow hb) (X.grow (below_dr _)) (by intro k hk; simp only [List.mem_cons, List.not_mem_nil, or_false] at hk; rcases hk with rfl | rfl | rfl | rfl | rfl | rfl | rfl | rfl <;> exact trivial) ?_
  refine ⟨fun w3 hC _ => RelQ.uponG_yes rfl (by have z0 := hC.z0; have z1 := hC.z1; have y1 := hC.y1; go_simp; first | exact RelQ.grows_refl _ | exact ⟨RelQ.grows_refl _, rfl⟩), ?_⟩
  simp only [Act.put, List.setIfInBounds_toArray, List.set_cons_succ, List.set_cons_zero]
  refine ⟨fun w3 hC _ => RelQ.uponG_yes rfl (by have z0 := hC.z0; have z1 := hC.z1; have y1 := hC.y1; go_simp; first | exact RelQ.grows_refl _ | exact ⟨RelQ.grows_refl _, rfl⟩), ?_⟩
  simp only [Act.put, List.setIfInBounds_toArray, List.set_cons_succ, List.set_cons_zero]
  refine ⟨fun w3 hC _ => RelQ.uponG_yes rfl (by have z0 := hC.z0; have z1 := hC.z1; have y1 := hC.y1; go_simp; first | exact RelQ.grows_refl _ | exact ⟨RelQ.grows_refl _, rfl⟩), ?_⟩
  simp only [Act.put, List.setIfInBounds_toArray, List.set_cons_succ, List.set_cons_zero]
  refine ⟨fun w3 hC _ => RelQ.uponG_yes rfl (by have z0 := hC.z0; have z1 := hC.z1; have y1 := hC.y1; go_simp; first | exact RelQ.grows_refl _ | exact ⟨RelQ.grows_refl _, rfl⟩), ?_⟩
  simp only [Act.put, List.setIfInBounds_toArray, List.set_cons_succ, List.set_cons_zero]
  refine ⟨fun w3 hC _ => RelQ.uponG_yes rfl (by have z0 := hC.z0; have z1 := hC.z1; have y1 := hC.y1; go_simp; first | exact RelQ.grows_refl _ | exact ⟨RelQ.grows_refl _, rfl⟩), ?_⟩
  simp only [Act.put, List.setIfInBounds_toArray, List.set_cons_succ, List.set_cons_zero]
  refine ⟨fun w3 hC _ => RelQ.uponG_yes rfl (by have z0 := hC.z0; have z1 := hC.z1; have y1 := hC.y1; go_simp; first | exact RelQ.grows_refl _ | exact ⟨RelQ.grows_refl _, rfl⟩), ?_⟩
  simp only [Act.put, List.setIfInBounds_toArray, List.set_cons_succ, List.set_cons_zero]
  refine ⟨fun w3 hC _ => RelQ.uponG_yes rfl (by have z0 := hC.z0; have z1 := hC.z1; have y1 := hC.y1; go_simp; first | exact RelQ.grows_refl _ | exact ⟨RelQ.grows_refl _, rfl⟩), ?_⟩
  simp only [Act.put, List.setIfInBounds_toArray, List.set_cons_succ, List.set_cons_zero]
  refine ⟨fun w3 hC _ => RelQ.uponG_yes rfl (by have z0 := hC.z0; have z1 := hC.z1; have y1 := hC.y1; go_simp; first | exact RelQ.grows_refl _ | exact ⟨RelQ.grows_refl _, rfl⟩), ?_⟩
  simp only [Act.put, List.setIfInBounds_toArray, List.set_cons_succ, List.set_cons_zero]
  intro w9 hN _
  go_wp2
  go_ret2
  exact ⟨by rw [hS.out, hG.out]; first | rfl | done, hN.below⟩

set_option maxHeartbeats 8000000 in
theorem twin0_c {o x : Opr} (h3 : (o.kind == 3) = false) (h5 : (o.kind == 5) = false) (h7 : (o.kind == 7) = false) (w : World) : Calls Try.prog 49 #[opV o, opV x] w fun e w' => e = .returned (.tuple #[.bool (twSet o x), .bool (twGet o x)]) ∧ Below w.heap.size w w' := by
  have hb1 := below_alloc w (.cells (opA o) 39)
  have hb2 := below_alloc (w.alloc (.cells (opA o) 39)) (.cells (opA x) 39)
  have B := below_then hb1 (Nat.le_refl _) hb2
  have r1 := keepRow (heap_alloc_new w (.cells (opA o) 39)) hb2
  have r2 := heap_alloc_new (w.alloc (.cells (opA o) 39)) (.cells (opA x) 39)
  rw [World.size_alloc] at r2
  have hS := show Hid _ from (show twSet o x = (x.kind == 14) by unfold twSet; rw [if_neg (by simpa using h3), if_neg (by simpa using h5), if_neg (by simpa using h7)])
  have hG := show Hid _ from (show twGet o x = false by unfold twGet; rw [if_neg (by simpa using h3), if_neg (by simpa using h5), if_neg (by simpa using h7)])
  go_enter Try.func49, Try.ntmps49
  go_upto_region 1 with fail
  generalize (w.alloc (.cells (opA o) 39)).alloc (.cells (opA x) 39) = w1 at *
  generalize w.heap.size + 1 = b2 at *
  generalize hbb : w.heap.size = b1 at r1 B
  replace hbb := show Hid _ from hbb
  clear hb1 hb2
  have X : TwC w b1 b2 o x w1 := ⟨r1, r2, by rw [hbb.out]; exact B⟩
  have y0 : w1.cell? ⟨b1, 0, none⟩ = some (vI o.kind) := by rw [cell_of_row _ _ _ _ _ _ r1]; rfl
  have y1 : w1.cell? ⟨b1, 1, none⟩ = some (vI o.r) := by rw [cell_of_row _ _ _ _ _ _ r1]; rfl
  have z0 : w1.cell? ⟨b2, 0, none⟩ = some (vI x.kind) := by rw [cell_of_row _ _ _ _ _ _ r2]; rfl
  have z1 : w1.cell? ⟨b2, 1, none⟩ = some (vI x.r) := by rw [cell_of_row _ _ _ _ _ _ r2]; rfl
  clear y1 z1 r1 r2 X
  go_wp2
  go_ret2
  exact ⟨by rw [hS.out, hG.out]; rfl, by rw [hbb.out]; exact B⟩
theorem twin_c (o x : Opr) (w : World) : Calls Try.prog 49 #[opV o, opV x] w fun e w' => e = .returned (.tuple #[.bool (twSet o x), .bool (twGet o x)]) ∧ Below w.heap.size w w' := by
  by_cases h3 : o.kind = 3
  · exact twin3_c h3 w
  · by_cases h5 : o.kind = 5
    · exact twin5_c h5 w
    · by_cases h7 : o.kind = 7
      · exact twin7_c h7 w
      · exact twin0_c (by simpa using h3) (by simpa using h5) (by simpa using h7) w
end Go.Proofs.Ytejlmggfeejgpaa
/- The chapter's over. -/
namespace Go.Proofs.Ytejlmggfeejgpaa
open Go.RowKit
set_option linter.unusedVariables false
set_option linter.unusedSimpArgs false
set_option maxRecDepth 8000

/-- Is what the operation sets set anew in the list, ahead of all that gets it and of all that leaves? As the chapter says it. -/
def overT (o : Opr) : List Opr → Bool
  | [] => false
  | x :: t => if twGet o x = true ∨ leavB x.kind = true then false else if twSet o x = true then true else overT o t
structure OvW (w : World) (pc words el : Int) (v : Value) (l : List Opr) (b1 : Nat) (x : World) : Prop where
  r1 : x.heap[b1]? = some (.cells (blA pc words el v) 25)
  ops : Ops x v l
  below : Below w.heap.size w x
theorem OvW.grow {w x y : World} {pc words el : Int} {v : Value} {l : List Opr} {b1 : Nat} (h : OvW w pc words el v l b1 x) (hb : Below x.heap.size x y) : OvW w pc words el v l b1 y :=
  ⟨keepRow h.r1 hb, h.ops.grow hb, below_then h.below (Nat.le_refl _) hb⟩
theorem OvW.z3 {w x : World} {pc words el : Int} {v : Value} {l : List Opr} {b1 : Nat} (h : OvW w pc words el v l b1 x) : x.cell? ⟨b1, 3, none⟩ = some v := by rw [cell_of_row _ _ _ _ _ _ h.r1]; rfl
theorem OvW.at_ {w x : World} {pc words el : Int} {ra : Addr} {cap : Nat} {l : List Opr} {b1 : Nat} (h : OvW w pc words el (.slice (some ra) l.length cap) l b1 x) {k : Nat} (hk : k < l.length) : OpAt x (ra.add (k * 6)) (opAt l k) := by
  obtain ⟨ra', cap', e', hc⟩ := h.ops.cell (by omega)
  cases e'
  exact hc k _ (opAt_some hk)
section
variable {w : World} {pc words el : Int} {v : Value} {l : List Opr}
set_option maxHeartbeats 8000000 in
theorem over_c (O : Ops w v l) {k : Nat} (hk : k < l.length) : Calls Try.prog 29 #[blV pc words el v, vI (k : Int)] w fun e w' => e = .returned (.bool (overT (opAt l k) (l.drop (k + 1)))) ∧ Below w.heap.size w w' := by
  obtain ⟨T, hT⟩ : ∃ T, T = overT (opAt l k) (l.drop (k + 1)) := ⟨_, rfl⟩
  rw [← hT]
  have hb := below_alloc w (.cells (blA pc words el v) 25)
  have X : OvW w pc words el v l w.heap.size (w.alloc (.cells (blA pc words el v) 25)) := ⟨heap_alloc_new _ _, O.grow hb, hb⟩
  obtain ⟨ra, cap, rfl, -⟩ := O.cell (by omega)
  have hm := O.max
  simp only [maxLen] at hm
  clear O hb
  have E0 := show Hid _ from hT.symm
  clear hT
  go_enter Try.func29, Try.ntmps29
  go_upto_region 1 with fail
  generalize w.alloc (.cells (blA pc words el (.slice (some ra) l.length cap)) 25) = w1 at *
  generalize hb1 : w.heap.size = b1 at X ⊢
  replace hb1 := show Hid _ from hb1
  have hki : (k : Int) + 1 < 9223372036854775808 := by omega
  go_upto_region 2 with fail
  go_loopw [5] (fun s5 wr => ∃ i : Nat, i ≤ l.length ∧ s5 = vI i ∧ OvW w pc words el (.slice (some ra) l.length cap) l b1 wr ∧ Hid (overT (opAt l k) (l.drop i) = T)) (fun s5 _ => ((l.length : Int) - intOf s5).toNat)
  case atStart => exact ⟨k + 1, by omega, by go_num, X, E0⟩
  case round =>
    clear X E0
    obtain ⟨i, hi, rfl, X, hE⟩ := hrel
    by_cases hlt : (i : Int) < l.length
    · have hil : i < l.length := by omega
      have hE2 := hE.out
      rw [drop_at hil] at hE2
      unfold overT at hE2
      replace hE2 := show Hid _ from hE2
      clear hE
      have z3 := X.z3
      obtain ⟨S, hS⟩ : ∃ S, twSet (opAt l k) (opAt l i) = S := ⟨_, rfl⟩
      obtain ⟨G, hG⟩ : ∃ G, twGet (opAt l k) (opAt l i) = G := ⟨_, rfl⟩
      replace hS := show Hid _ from hS
      replace hG := show Hid _ from hG
      have hops := show Hid _ from (fun (w3 : World) (hC : OvW w pc words el (.slice (some ra) l.length cap) l b1 w3) (q : Nat) (hq : q < l.length) => hC.at_ hq)
      have hkl : (k : Int) < l.length := by omega
      go_upto_region 4 with fail
      clear z3
      · replace hops := hops.out
        refine RelQ.wp_region_rel RelQ.Grows (fun _ _ => False) (fun _ _ _ h _ => h.elim) (OvW w pc words el (.slice (some ra) l.length cap) l b1) [.inl (ptr b1 3), .inl (.slice (some ra) l.length cap), .inl (vI (k : Int)), .inl (.pointer (some (ra.add (k * 6)))), .inl (opV (opAt l k)), .inl (ptr b1 3), .inl (.slice (some ra) l.length cap), .inl (vI (i : Int)), .inl (.pointer (some (ra.add (i * 6)))), .inl (opV (opAt l i)), .inl (.tuple #[.bool S, .bool G]), .inl (.tuple #[.bool S, .bool G]), .inl (.bool S), .inl (.bool G), .inl (.bool S), .inl (.bool G)] (by kernel_rfl) (by kernel_rfl) RelQ.grows_refl (fun _ _ h hb => h.grow hb) (X.grow (below_dr _)) (by intro q hq; simp only [List.mem_cons, List.not_mem_nil, or_false] at hq; rcases hq with rfl | rfl | rfl | rfl | rfl | rfl | rfl | rfl | rfl | rfl | rfl | rfl | rfl | rfl | rfl | rfl <;> exact trivial) ?_
        refine ⟨fun w3 hC _ => RelQ.uponG_yes rfl (by have z3 := hC.z3; go_simp; first | exact RelQ.grows_refl _ | exact ⟨RelQ.grows_refl _, rfl⟩), ?_⟩
        simp only [Act.put, List.setIfInBounds_toArray, List.set_cons_succ, List.set_cons_zero]
        refine ⟨fun w3 hC _ => RelQ.uponG_yes rfl (by have z3 := hC.z3; go_simp; first | exact RelQ.grows_refl _ | exact ⟨RelQ.grows_refl _, rfl⟩), ?_⟩
        simp only [Act.put, List.setIfInBounds_toArray, List.set_cons_succ, List.set_cons_zero]
        refine ⟨fun w3 hC _ => RelQ.uponG_yes rfl (by have z3 := hC.z3; go_simp; first | exact RelQ.grows_refl _ | exact ⟨RelQ.grows_refl _, rfl⟩), ?_⟩
        simp only [Act.put, List.setIfInBounds_toArray, List.set_cons_succ, List.set_cons_zero]
        refine ⟨fun w3 hC _ => RelQ.uponG_yes rfl (by have z3 := hC.z3; go_simp; first | exact RelQ.grows_refl _ | exact ⟨RelQ.grows_refl _, rfl⟩), ?_⟩
        simp only [Act.put, List.setIfInBounds_toArray, List.set_cons_succ, List.set_cons_zero]
        refine ⟨fun w3 hC _ => RelQ.uponG_yes rfl (rel_load42 (hops w3 hC _ hk)), ?_⟩
        simp only [Act.put, List.setIfInBounds_toArray, List.set_cons_succ, List.set_cons_zero]
        refine ⟨fun w3 hC _ => RelQ.uponG_yes rfl (by have z3 := hC.z3; go_simp; first | exact RelQ.grows_refl _ | exact ⟨RelQ.grows_refl _, rfl⟩), ?_⟩
        simp only [Act.put, List.setIfInBounds_toArray, List.set_cons_succ, List.set_cons_zero]
        refine ⟨fun w3 hC _ => RelQ.uponG_yes rfl (by have z3 := hC.z3; go_simp; first | exact RelQ.grows_refl _ | exact ⟨RelQ.grows_refl _, rfl⟩), ?_⟩
        simp only [Act.put, List.setIfInBounds_toArray, List.set_cons_succ, List.set_cons_zero]
        refine ⟨fun w3 hC _ => RelQ.uponG_yes rfl (by have z3 := hC.z3; go_simp; first | exact RelQ.grows_refl _ | exact ⟨RelQ.grows_refl _, rfl⟩), ?_⟩
        simp only [Act.put, List.setIfInBounds_toArray, List.set_cons_succ, List.set_cons_zero]
        refine ⟨fun w3 hC _ => RelQ.uponG_yes rfl (by have z3 := hC.z3; go_simp; first | exact RelQ.grows_refl _ | exact ⟨RelQ.grows_refl _, rfl⟩), ?_⟩
        simp only [Act.put, List.setIfInBounds_toArray, List.set_cons_succ, List.set_cons_zero]
        refine ⟨fun w3 hC _ => RelQ.uponG_yes rfl (rel_load42 (hops w3 hC _ hil)), ?_⟩
        simp only [Act.put, List.setIfInBounds_toArray, List.set_cons_succ, List.set_cons_zero]
        refine ⟨fun w3 hC _ => RelQ.uponG_yes rfl (by go_simp; refine (twin_c (opAt l k) (opAt l i) _).mono ?_; rintro e w4 ⟨rfl, hb⟩; rw [hS.out, hG.out]; first | exact ⟨rfl, hb⟩ | exact .inl ⟨_, rfl, hb, rfl⟩ | exact .inl ⟨rfl, hb⟩), ?_⟩
        simp only [Act.put, List.setIfInBounds_toArray, List.set_cons_succ, List.set_cons_zero]
        refine ⟨fun w3 hC _ => RelQ.uponG_yes rfl (by have z3 := hC.z3; go_simp; first | exact RelQ.grows_refl _ | exact ⟨RelQ.grows_refl _, rfl⟩), ?_⟩
        simp only [Act.put, List.setIfInBounds_toArray, List.set_cons_succ, List.set_cons_zero]
        refine ⟨fun w3 hC _ => RelQ.uponG_yes rfl (by have z3 := hC.z3; go_simp; first | exact RelQ.grows_refl _ | exact ⟨RelQ.grows_refl _, rfl⟩), ?_⟩
        simp only [Act.put, List.setIfInBounds_toArray, List.set_cons_succ, List.set_cons_zero]
        refine ⟨fun w3 hC _ => RelQ.uponG_yes rfl (by have z3 := hC.z3; go_simp; first | exact RelQ.grows_refl _ | exact ⟨RelQ.grows_refl _, rfl⟩), ?_⟩
        simp only [Act.put, List.setIfInBounds_toArray, List.set_cons_succ, List.set_cons_zero]
        refine ⟨fun w3 hC _ => RelQ.uponG_yes rfl (by have z3 := hC.z3; go_simp; first | exact RelQ.grows_refl _ | exact ⟨RelQ.grows_refl _, rfl⟩), ?_⟩
        simp only [Act.put, List.setIfInBounds_toArray, List.set_cons_succ, List.set_cons_zero]
        refine ⟨fun w3 hC _ => RelQ.uponG_yes rfl (by have z3 := hC.z3; go_simp; first | exact RelQ.grows_refl _ | exact ⟨RelQ.grows_refl _, rfl⟩), ?_⟩
        simp only [Act.put, List.setIfInBounds_toArray, List.set_cons_succ, List.set_cons_zero]
        intro x4 X4 _
        clear X hops
        have z3 := X4.z3
        have A := X4.at_ hil
        have kl := dLeaves_c (opAt l i)
        obtain ⟨L, hL⟩ : ∃ L, leavB (opAt l i).kind = L := ⟨_, rfl⟩
        replace hL := show Hid _ from hL
        go_upto_region 6 with (first | ((with_reducible refine wpList_load42 rfl _ rfl _ rfl _ A ?_); simp only [Act.put, List.setIfInBounds_toArray, List.set_cons_succ, List.set_cons_zero]) | (go_at_call 50; (with_reducible refine (kl _).mono ?_); clear kl; rintro e x5 ⟨rfl, B⟩; dsimp only; rw [hL.out]))
        replace X4 := X4.grow B
        clear z3 A B
        cases G with
        | true =>
          have hno : false = T := by have := hE2.out; rw [if_pos (.inl hG.out)] at this; exact this
          subst hno
          clear hE2
          go_wp2
          go_ret
          exact ⟨rfl, X4.below⟩
        | false =>
          cases L with
          | true =>
            have hno : false = T := by have := hE2.out; rw [if_pos (.inr hL.out)] at this; exact this
            subst hno
            clear hE2
            go_wp2
            go_ret
            exact ⟨rfl, X4.below⟩
          | false =>
            have hE3 := hE2.out
            rw [if_neg (by rw [hG.out, hL.out]; decide)] at hE3
            clear hE2
            cases S with
            | true =>
              rw [if_pos hS.out] at hE3
              replace hE3 := show Hid _ from hE3
              go_wp2
              go_ret
              exact ⟨by rw [← hE3.out]; rfl, X4.below⟩
            | false =>
              rw [if_neg (by rw [hS.out]; decide)] at hE3
              replace hE3 := show Hid _ from hE3
              go_wp2
              go_roundw
              case rel => exact ⟨i + 1, by omega, by go_num, X4, hE3⟩
              case measure => simp [intOf]; omega
    · have hno : false = T := by
        have := hE.out
        rw [List.drop_of_length_le (by omega)] at this
        exact this
      subst hno
      have hB := X.below
      have z3 := X.z3
      clear hE hki hm hk X hb1
      go_wp2
      go_ret
      exact ⟨rfl, hB⟩
end
end Go.Proofs.Ytejlmggfeejgpaa
/- The chapter's Seen, plain. -/
namespace Go.Proofs.Ytejlmggfeejgpaa
open Go.RowKit
set_option linter.unusedVariables false
set_option linter.unusedSimpArgs false
set_option maxRecDepth 8000

theorem shape_parts {k : Int} (h : isK k = true) : hasP k 2 = decide (shpV k = 1 ∨ shpV k = 2) ∧ hasP k 4 = decide (shpV k = 2) := by
  rcases isK_cases h with rfl | rfl | rfl | rfl | rfl | rfl | rfl | rfl | rfl | rfl | rfl | rfl | rfl | rfl | rfl | rfl | rfl | rfl <;> decide +kernel
theorem uses_same {o : Opr} (h : isK o.kind = true) : usesD o = usesL o := by
  obtain ⟨h2, h4⟩ := shape_parts h
  unfold usesD usesL
  rw [h2, h4]
  by_cases e1 : shpV o.kind = 1
  · rw [if_pos e1, if_pos (by simp [e1]), if_neg (by simp [e1])]; rfl
  · by_cases e2 : shpV o.kind = 2
    · rw [if_neg e1, if_pos e2, if_pos (by simp [e2]), if_pos (by simp [e2])]; rfl
    · rw [if_neg e1, if_neg e2, if_neg (by simp [e1, e2]), if_neg (by simp [e2])]; rfl
theorem tw_same {o x : Opr} (ho : RngO o) (hx : RngO x) {n : Nat} (hn : setN o = some n) : (twSet o x = true ↔ setN x = some n) ∧ (twGet o x = true ↔ getN x = some n) := by
  obtain ⟨ko, ro, ao, bo, odo, imo⟩ := o
  obtain ⟨kx, rx, ax, bx, odx, imx⟩ := x
  obtain ⟨-, ox, of⟩ := ho
  obtain ⟨kk, xx, xf⟩ := hx
  dsimp only at ox of kk xx xf
  unfold setN at hn
  dsimp only at hn
  have hc : (ko = 3 ∧ ro.toNat = n) ∨ (ko = 5 ∧ 31 = n) ∨ (ko = 7 ∧ 32 + ro.toNat = n) ∨ (ko = 14 ∧ 36 = n) := by
    split at hn
    · next h => exact .inl ⟨h, by injection hn⟩
    · split at hn
      · next h => exact .inr (.inl ⟨h, by injection hn⟩)
      · split at hn
        · next h => exact .inr (.inr (.inl ⟨h, by injection hn⟩))
        · split at hn
          · next h => exact .inr (.inr (.inr ⟨h, by injection hn⟩))
          · cases hn
  clear hn
  unfold twSet twGet setN getN
  dsimp only
  rcases hc with ⟨rfl, rfl⟩ | ⟨rfl, rfl⟩ | ⟨rfl, rfl⟩ | ⟨rfl, rfl⟩
  all_goals
    rcases isK_cases kk with rfl | rfl | rfl | rfl | rfl | rfl | rfl | rfl | rfl | rfl | rfl | rfl | rfl | rfl | rfl | rfl | rfl | rfl <;> simp at ox of xx xf ⊢ <;> omega
theorem over_anew {o : Opr} (ho : RngO o) {n : Nat} (hn : setN o = some n) : ∀ t : List Opr, (∀ x ∈ t, RngO x) → overT o t = anew n t
  | [], _ => rfl
  | x :: t, h => by
    have ih := over_anew ho hn t (fun y hy => h y (List.mem_cons_of_mem _ hy))
    obtain ⟨h1, h2⟩ := tw_same ho (h x List.mem_cons_self) hn
    unfold overT anew
    rw [ih, leav_has]
    unfold lvB
    by_cases c1 : twGet o x = true ∨ hasP x.kind 64 = true
    · have g : getN x = some n ∨ hasP x.kind 64 = true := by rcases c1 with c1 | c1; exact .inl (h2.1 c1); exact .inr c1
      rw [if_pos c1, if_pos g]
    · have g : ¬ (getN x = some n ∨ hasP x.kind 64 = true) := fun c => c1 (by rcases c with c | c; exact .inl (h2.2 c); exact .inr c)
      rw [if_neg c1, if_neg g]
      by_cases c2 : twSet o x = true
      · have g := h1.1 c2
        rw [if_pos c2, if_pos g]
      · have g : ¬ setN x = some n := fun c => c2 (h1.2 c)
        rw [if_neg c2, if_neg g]
def setK (k : Int) : Bool := k == 14 || k == 3 || k == 5 || k == 7
/-- What the chapter marks the operation at a place with, where those behind it have been asked and this is its mark so far. -/
def docC (l : List Opr) (k : Nat) (s : Bool) : Bool := if defsB (opAt l k).kind = true ∧ accB (opAt l k).kind = false then s else if setK (opAt l k).kind = true then !(overT (opAt l k) (l.drop (k + 1))) || decide (k = 0) else true
def docK (l : List Opr) (d : Nat) : List Bool := if d = l.length then seenL l else markK l d
theorem docK_len (l : List Opr) (d : Nat) : (docK l d).length = l.length := by
  unfold docK
  split
  · exact seenL_len l
  · exact markK_len l d
theorem setK_some {o : Opr} (h : setK o.kind = true) : ∃ n, setN o = some n := by
  unfold setK at h
  simp only [Bool.or_eq_true, beq_iff_eq] at h
  unfold setN
  rcases h with ((h | h) | h) | h <;> simp [h]
theorem setK_parts {k : Int} (h : isK k = true) : (setK k = true → hasP k 32 = false) ∧ (defsB k = true ∧ accB k = false → hasP k 64 = false ∧ k ≠ 13 ∧ k ≠ 14) ∧ (setK k = false → ¬ (defsB k = true ∧ accB k = false) → k = 13 ∨ hasP k 64 = true) := by
  rcases isK_cases h with rfl | rfl | rfl | rfl | rfl | rfl | rfl | rfl | rfl | rfl | rfl | rfl | rfl | rfl | rfl | rfl | rfl | rfl <;> decide +kernel
theorem list_set_same {S : List Bool} {k : Nat} {b : Bool} (hk : k < S.length) (h : S.getD k false = b) : S.set k b = S := by
  apply List.ext_getElem (by simp)
  intro j h1 h2
  rw [List.getElem_set]
  split
  · next e => subst e; rw [← h]; simp [List.getD, hk]
  · rfl
section
variable {pc words el : Int} {l : List Opr}
theorem doc_step (hR : rightB pc words el l = true) {d k : Nat} (hd : d + k + 1 = l.length) : docK l (d + 1) = (if docC l k ((docK l d).getD k false) = true then upAll ((docK l d).set k (docC l k ((docK l d).getD k false))) (usesL (opAt l k)) else (docK l d).set k (docC l k ((docK l d).getD k false))) := by
  have hk : k < l.length := by omega
  have hok : ∀ j, j < l.length → RngO (opAt l j) := fun j hj => ⟨kind_ok (right_at hR hj), rng_x (right_at hR hj), rng_f (right_at hR hj)⟩
  have h14 : (opAt l 0).kind = 14 := by rw [(right_lens hR).2.2]
  have e0 : docK l d = markK l d := by unfold docK; rw [if_neg (by omega)]
  rw [e0]
  have hm : markK l (d + 1) = if seesB (opAt l k) (l.drop (k + 1)) ((markK l d).getD k false) = true then upAll ((markK l d).set k true) (usesL (opAt l k)) else markK l d := by
    show (if seesB (opAt l (l.length - (d + 1))) (l.drop (l.length - d)) ((markK l d).getD (l.length - (d + 1)) false) = true then upAll ((markK l d).set (l.length - (d + 1)) true) (usesL (opAt l (l.length - (d + 1)))) else markK l d) = _
    rw [show l.length - (d + 1) = k by omega, show l.length - d = k + 1 by omega]
  have hS : k < (markK l d).length := by rw [markK_len]; exact hk
  obtain ⟨p1, p2, p3⟩ := setK_parts (hok k hk).kind
  have hlast : k ≠ 0 → docK l (d + 1) = markK l (d + 1) := fun h => by unfold docK; rw [if_neg (by omega)]
  unfold docC
  by_cases hA : defsB (opAt l k).kind = true ∧ accB (opAt l k).kind = false
  · rw [if_pos hA]
    obtain ⟨q1, q2, q3⟩ := p2 hA
    have h32 : hasP (opAt l k).kind 32 = true := by rw [← defs_has]; exact hA.1
    rw [hlast (fun e => q3 (by rw [e]; exact h14)), hm, seesB_val (set_32 h32) q1 q2]
    cases hs : (markK l d).getD k false with
    | true => rfl
    | false => rw [if_neg (by decide), if_neg (by decide), list_set_same hS hs]
  · rw [if_neg hA]
    cases hB : setK (opAt l k).kind with
    | true =>
      rw [if_pos rfl]
      obtain ⟨n, hn⟩ := setK_some hB
      have hov := over_anew (hok k hk) hn (l.drop (k + 1)) (fun x hx => by
        obtain ⟨j, hj, e⟩ := List.getElem_of_mem (List.mem_of_mem_drop hx)
        have := hok j hj
        unfold opAt at this
        rw [List.getElem?_eq_getElem hj] at this
        rw [← e]; exact this)
      have hs : (markK l d).getD k false = false := by
        cases e : (markK l d).getD k false with
        | false => rfl
        | true => have := marked_32 hR d k (by omega) e; rw [p1 hB] at this; cases this
      have hse : seesB (opAt l k) (l.drop (k + 1)) ((markK l d).getD k false) = !(anew n (l.drop (k + 1))) := by unfold seesB; rw [hn]
      rw [hse] at hm
      rw [hov]
      by_cases hk0 : k = 0
      · have hu : usesL (opAt l k) = [] := by unfold usesL; rw [hk0, h14, if_neg (by decide +kernel), if_neg (by decide +kernel)]; rfl
        rw [hu] at hm ⊢
        have hd1 : docK l (d + 1) = (markK l (d + 1)).set 0 true := by unfold docK; rw [if_pos (by omega)]; unfold seenL; rw [show l.length = d + 1 by omega]
        rw [hd1, hm, decide_eq_true hk0, Bool.or_true, if_pos rfl, hk0]
        unfold upAll
        cases anew n (List.drop (0 + 1) l) <;> simp
      · rw [hlast hk0, hm, decide_eq_false hk0, Bool.or_false]
        cases anew n (l.drop (k + 1)) with
        | false => rfl
        | true =>
          show (if false = true then _ else _) = if false = true then _ else _
          rw [if_neg (by decide), if_neg (by decide)]
          exact (list_set_same hS hs).symm
    | false =>
      have hq : ∀ A : Bool, (if false = true then A else true) = true := fun _ => rfl
      rw [hq, if_pos rfl]
      have hk0 : k ≠ 0 := fun e => by rw [e, h14] at hB; cases hB
      have hno : setN (opAt l k) = none := by
        unfold setK at hB
        simp only [Bool.or_eq_false_iff, beq_eq_false_iff_ne] at hB
        unfold setN
        rw [if_neg hB.1.1.2, if_neg hB.1.2, if_neg hB.2, if_neg hB.1.1.1]
      rw [hlast hk0, hm]
      have hse : seesB (opAt l k) (l.drop (k + 1)) ((markK l d).getD k false) = true := by
        unfold seesB
        rw [hno]
        dsimp only
        rw [if_pos (by rcases p3 hB hA with q | q; exact .inl q; exact .inr q)]
      rw [hse, if_pos rfl]
end
end Go.Proofs.Ytejlmggfeejgpaa
