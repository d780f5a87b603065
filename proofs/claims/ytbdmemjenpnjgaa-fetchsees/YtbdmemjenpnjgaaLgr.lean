/- FetchSees: the region that draws. -/
import Derived.Test.YtbdmemjenpnjgaaLf
namespace Go.Proofs.Ytbdmemjenpnjgaa
open Go.RowKit
set_option linter.unusedVariables false
set_option linter.unusedSimpArgs false
set_option maxRecDepth 8000

open Go.Shelf Go.Maps
def SeF (w8 : World) (vL : Value) (t : Nat) (y : Nt) (x : Nat) (u : Value) (w : World) : Prop := ∃ q, u = .tuple #[q, vI 0] ∧ w.ownsRow w8.heap.size 24 1 q 1 [v32 x] ∧ Goes (fun k => vL.ownBlock = some k) w8 w ∧ LocN t y w
theorem SeF.loc {w8 w : World} {vL : Value} {t x : Nat} {y : Nt} {u : Value} (h : SeF w8 vL t y x u w) : LocN t y w := by obtain ⟨_, _, _, _, h⟩ := h; exact h
theorem chn_buildN {o : Oper} {a : Act} {w : World} {C : World → Prop} {N : Nat} (hN : w.heap.size = N) (x1 x2 : Operand) (ho : o.op = .buildSlice 22 2 #[(0, x1), (1, x2)]) (n1 n2 : Nt) (h1 : a.eval x1 = ntV n1) (h2 : a.eval x2 = ntV n2) (hC : C (w.alloc (.cells (ntA n1 ++ ntA n2) 34))) :
    Chn.upon Try.prog (fun v w' => v = .slice (some ⟨N, 0, none⟩) 2 2 ∧ C w') w ((execOp a.eval o).run Try.prog w) := by
  obtain ⟨i, i1, i2, i3, i4⟩ := info_parts info34
  have hf : Instr.fill (fun j => some (j * i.size, i.size)) ((Array.range (2 * i.size)).map ((Value.agg #[vI 0, vI 0, vU 0, v32 0]).cells[· % (Value.agg #[vI 0, vI 0, vU 0, v32 0]).cells.size]!)) (#[(0, ntV n1), (1, ntV n2)] : Array (Nat × Value)).toList = some (ntA n1 ++ ntA n2) := by
    rw [i3]; kernel_rfl
  have hr := run_buildSlice (P := Try.prog) w 22 34 2 #[(0, ntV n1), (1, ntV n2)] (ntA n1 ++ ntA n2) i (.agg #[vI 0, vI 0, vU 0, v32 0]) Try.underlying22 i1 i2 (by rw [i3]; decide) (by rw [i3]; decide) hf
  unfold execOp
  simp only [ho, Sem.run_bind, List.map_toArray, List.map_cons, List.map_nil, h1, h2, hr, Result.andThen_ok]
  exact ⟨by rw [hN], hC⟩
theorem chn_runapp {o : Oper} {a : Act} {w w' : World} {v' : Value} {F : Value → World → Prop} (s x : Operand) (ho : o.op = .call { callee := .builtin .append, args := #[s, x], argTypes := #[22, 22] }) (v1 v2 : Value) (hs : a.eval s = v1) (hx : a.eval x = v2) (hr : (Builtin.append_ #[22, 22] o.type #[v1, v2]).run Try.prog w = .ok v' w') (h : F v' w') :
    Chn.upon Try.prog F w ((execOp a.eval o).run Try.prog w) := by
  unfold execOp
  simp only [ho, resolve, invoke, builtin, Sem.run_bind, Sem.run_pure, Result.andThen_ok, List.map_toArray, List.map_cons, List.map_nil, hs, hx, hr]
  exact h
theorem sees_region {w4 w8 : World} {vL : Value} {l : List Nt} {t a x : Nat} {c : Int} {y : Nt} (R8 : w8.ownsRow w4.heap.size 34 4 vL l.length (ntF l)) (hl : l.length + 2 ≤ 4398046511104) (L8 : LocN t y w8) (ok : TrOk l) (oky : NtOk y) (hc : -9223372036854775808 ≤ c ∧ c < 9223372036854775808) (ha : a < 18446744073709551616) (hm : mayOk (l ++ [y, nI c]) c a = true) (hL : mayL (l ++ [y, nI c]) c a 1 = [x]) (hb : w4.heap.size ≤ w8.heap.size) (ht : t < w4.heap.size) :
    ∃ (vL' : Value) (Cs : Nat → World → Prop), Cs 0 { w8 with drawn := w8.drawn + 1 } ∧ (∀ j W, Cs j W → LocN t y W) ∧
      (∀ W, Cs 0 W → Calls Try.prog 17 #[vI c] W fun e w' => e = .returned (ntV (nI c)) ∧ Cs 1 w') ∧
      (∀ W, Cs 1 W → W.heap.size = w8.heap.size + 1 ∧ Cs 2 (W.alloc (.cells (ntA y ++ ntA (nI c)) 34))) ∧
      (∀ W, Cs 2 W → ∃ W', (Builtin.append_ #[22, 22] 22 #[vL, .slice (some ⟨w8.heap.size + 1, 0, none⟩) 2 2]).run Try.prog W = .ok vL' W' ∧ Cs 3 W') ∧
      (∀ W, Cs 3 W → Calls Try.prog 10 #[vL', vI c, vU a, v32 1] W fun e w' => ∃ u, e = .returned u ∧ SeF w8 vL t y x u w') := by
  obtain ⟨W9, h9⟩ : ∃ W9, W9 = { w8 with drawn := w8.drawn + 1 } := ⟨_, rfl⟩
  have D9 : Below w8.heap.size w8 W9 := by rw [h9]; exact Rel.below_draws (n := 1) (Below.refl _ _)
  have s9 : W9.heap.size = w8.heap.size := by rw [h9]
  have D1 := below_alloc W9 (.cells (ntA (nI c)) 34)
  have s1 : (W9.alloc (.cells (ntA (nI c)) 34)).heap.size = w8.heap.size + 1 := by rw [World.size_alloc, s9]
  obtain ⟨A1, hA1⟩ : ∃ A1, A1 = W9.alloc (.cells (ntA (nI c)) 34) := ⟨_, rfl⟩
  rw [← hA1] at D1 s1
  have D2 := below_alloc A1 (.cells (ntA y ++ ntA (nI c)) 34)
  have hn : (A1.alloc (.cells (ntA y ++ ntA (nI c)) 34)).heap[w8.heap.size + 1]? = some (.cells (ntF [y, nI c]).toArray 34) := by rw [← s1]; exact World.alloc_heap_new _ _
  obtain ⟨A2, hA2⟩ : ∃ A2, A2 = A1.alloc (.cells (ntA y ++ ntA (nI c)) 34) := ⟨_, rfl⟩
  rw [← hA2] at D2 hn
  have L9 := L8.grow D9
  have L1 := L9.grow D1
  have L2 := L1.grow D2
  have R9 := own_grow R8 D9
  have R2 := own_grow (own_grow R9 D1) D2
  obtain ⟨vL', A3, hr, q1, q2, _⟩ := run_appN (c := 2) R2 (by have := D1.size; have := D2.size; omega) hn rfl hl 22
  have L3 : LocN t y A3 := (q2.block _ L2.lt (fun e => by have := (R8.lt t e.symm).1; omega)).trans L2
  have G3 : Goes (fun k => vL.ownBlock = some k) w8 A3 := (goes_of_below (below_then (below_then D9 (Nat.le_refl _) D1) (Nat.le_refl _) D2)).trans (goes_grown (F := fun k => vL.ownBlock = some k) q2 (fun k hk => hk)) (fun k _ h => h)
  refine ⟨vL', fun j W => LocN t y W ∧ ((j = 0 ∧ W = W9) ∨ (j = 1 ∧ W = A1) ∨ (j = 2 ∧ W = A2) ∨ (j = 3 ∧ W = A3)), ⟨by rw [← h9]; exact L9, .inl ⟨rfl, h9.symm⟩⟩, fun j W h => h.1, ?_, ?_, ?_, ?_⟩
  · rintro W ⟨_, ⟨_, rfl⟩ | ⟨h, _⟩ | ⟨h, _⟩ | ⟨h, _⟩⟩
    · exact (isb_x c W).mono fun e w' ⟨e1, e2⟩ => ⟨e1, by rw [e2, ← hA1]; exact ⟨L1, .inr (.inl ⟨rfl, rfl⟩)⟩⟩
    all_goals exact absurd h (by decide)
  · rintro W ⟨_, ⟨h, _⟩ | ⟨_, rfl⟩ | ⟨h, _⟩ | ⟨h, _⟩⟩
    · exact absurd h (by decide)
    · exact ⟨s1, by rw [← hA2]; exact ⟨L2, .inr (.inr (.inl ⟨rfl, rfl⟩))⟩⟩
    all_goals exact absurd h (by decide)
  · rintro W ⟨_, ⟨h, _⟩ | ⟨h, _⟩ | ⟨_, rfl⟩ | ⟨h, _⟩⟩
    · exact absurd h (by decide)
    · exact absurd h (by decide)
    · exact ⟨A3, hr, L3, .inr (.inr (.inr ⟨rfl, rfl⟩))⟩
    · exact absurd h (by decide)
  · rintro W ⟨_, ⟨h, _⟩ | ⟨h, _⟩ | ⟨h, _⟩ | ⟨_, rfl⟩⟩
    · exact absurd h (by decide)
    · exact absurd h (by decide)
    · exact absurd h (by decide)
    · have h := may_all (f := 1) (c := c) (a := a) (own_nts q1 (by simp; omega)) (by
        have := trOk_app (trOk_app ok oky) (n := nI c) ⟨⟨(by decide : (-9223372036854775808 : Int) ≤ 4), (by decide : (4 : Int) < 9223372036854775808)⟩, hc, (by decide : (0 : Nat) < 18446744073709551616), (by decide : (0 : Nat) < 4294967296)⟩
        simpa using this) ha (by decide)
      unfold mayW mayE at h
      rw [hm] at h
      refine h.mono ?_
      rintro e w' ⟨u, rfl, R, B⟩
      simp only [if_true, hL] at R
      exact ⟨_, rfl, u, rfl, own_mono R G3.size, G3.grow B, L3.grow B⟩
end Go.Proofs.Ytbdmemjenpnjgaa
