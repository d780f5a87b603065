/- A run of a block ends. -/
import Derived.Test.YtioeiogcejikbaaDoorGb
import Derived.Test.YtioeiogcejikbaaDoorHa
namespace Go.Proofs.YtioeiogcejikbaaDoor
open Go.RowKit
set_option linter.unusedVariables false
set_option linter.unusedSimpArgs false
set_option maxRecDepth 8000

def kA : Array Value := #[vI 0, vI 9, vI 10, vI 11, vI 12, vI 0, vI 13]
theorem info3p : (Tryd.prog.info? 3).map (fun i => (i.zero, i.size, i.bytes)) = some (some (vI 0), 1, 8) := by kernel_rfl
theorem run_k36 (w : World) : (Instr.buildSlice 36 7 #[(0, vI 0), (1, vI 9), (2, vI 10), (3, vI 11), (4, vI 12), (5, vI 0), (6, vI 13)]).run Tryd.prog w = .ok (.slice (some ⟨w.heap.size, 0, none⟩) 7 7) (w.alloc (.cells kA 3)) := by
  obtain ⟨i, hi, hz, hs, hby⟩ := info_parts info3p
  exact run_buildSlice (P := Tryd.prog) w 36 3 7 _ _ i (vI 0) Tryd.underlying36 hi hz (by rw [hs]; decide) (by rw [hs]; decide) (by rw [hs]; kernel_rfl)
theorem wpList_k36 {ops : Array Oper} {rest : List Oper} {p : Oper} {a : Act} {w : World} {Q : Exit → Act → World → Prop} (hg : p.guard = none) (x0 x1 x2 x3 x4 x5 x6 : Operand) (ho : p.op = .buildSlice 36 7 #[(0, x0), (1, x1), (2, x2), (3, x3), (4, x4), (5, x5), (6, x6)])
    (h0 : a.eval x0 = vI 0)
    (h1 : a.eval x1 = vI 9)
    (h2 : a.eval x2 = vI 10)
    (h3 : a.eval x3 = vI 11)
    (h4 : a.eval x4 = vI 12)
    (h5 : a.eval x5 = vI 0)
    (h6 : a.eval x6 = vI 13)
    (h : wpList Tryd.prog ops Q rest (a.put p.dst (.slice (some ⟨w.heap.size, 0, none⟩) 7 7)) (w.alloc (.cells kA 3))) : wpList Tryd.prog ops Q (p :: rest) a w :=
  wpList_plain hg fun _ hK => by
    unfold Oper.wp execOp
    simp only [ho, Sem.run_bind, List.map_toArray, List.map_cons, List.map_nil, h0, h1, h2, h3, h4, h5, h6, run_k36, Result.andThen_ok]
    exact hK _ _ h
theorem want_k {o : Opr} {d : Wnt} (h : WantOf o d) : ∃ (D : Nat) (W : Int), d.kind = (D : Int) ∧ 1 ≤ D ∧ D ≤ 6 ∧ D ≠ 5 ∧ kA[D]? = some (vI W) ∧ o.kind = W := by
  obtain ⟨h, _⟩ := h
  rcases h with ⟨h1, h2⟩ | ⟨h1, h2⟩ | ⟨h1, h2⟩ | ⟨h1, h2⟩ | ⟨h1, h2⟩
  · exact ⟨1, _, h1, by decide, by decide, by decide, rfl, h2⟩
  · exact ⟨2, _, h1, by decide, by decide, by decide, rfl, h2⟩
  · exact ⟨3, _, h1, by decide, by decide, by decide, rfl, h2⟩
  · exact ⟨4, _, h1, by decide, by decide, by decide, rfl, h2⟩
  · exact ⟨6, _, h1, by decide, by decide, by decide, rfl, h2⟩
theorem RunAt.rowE {l : List Opr} {g vb t : Nat} {so : Value} {S : Rn} {x : World} {d : Array Value} (H : RunAt l g vb so S x) (h1 : g < t) (h2 : vb < t) (h3 : ∀ k, so.ownBlock = some k → k < t) : RunAt l g vb so S (x.setRow t d) :=
  H.keep (setRow_other _ _ _ _ (by omega)) (setRow_other _ _ _ _ (by omega)) (fun k hk => setRow_other _ _ _ _ (by have := h3 k hk; omega))
section
variable {w : World} {pc words el : Int} {l : List Opr} {c : Cor}
/-- While the want is sought among the operations. -/
structure EnW (w : World) (pc words el : Int) (v : Value) (l : List Opr) (g vb : Nat) (so : Value) (T : Rn) (b1 kb t13 : Nat) (x : World) : Prop where
  r1 : x.heap[b1]? = some (.cells (blA pc words el v) 25)
  k : x.heap[kb]? = some (.cells kA 3)
  d : x.heap[t13]? = some (.cells (wnA T.w) 38)
  run : RunAt l g vb so T x
  below : Below w.heap.size w x
theorem EnW.grow {v : Value} {g vb : Nat} {so : Value} {T : Rn} {b1 kb t13 : Nat} {x y : World} (h : EnW w pc words el v l g vb so T b1 kb t13 x) (hb : Below x.heap.size x y) : EnW w pc words el v l g vb so T b1 kb t13 y :=
  ⟨keepRow h.r1 hb, keepRow h.k hb, keepRow h.d hb, h.run.grow hb, below_then h.below (Nat.le_refl _) hb⟩
theorem EnW.c3 {v : Value} {g vb : Nat} {so : Value} {T : Rn} {b1 kb t13 : Nat} {x : World} (h : EnW w pc words el v l g vb so T b1 kb t13 x) : x.cell? ⟨b1, 3, none⟩ = some v := by rw [cell_of_row _ _ _ _ _ _ h.r1]; rfl
theorem EnW.ck {v : Value} {g vb : Nat} {so : Value} {T : Rn} {b1 kb t13 D : Nat} {W : Int} {x : World} (h : EnW w pc words el v l g vb so T b1 kb t13 x) (hD : kA[D]? = some (vI W)) : x.cell? ⟨kb, D, none⟩ = some (vI W) := by rw [cell_of_row _ _ _ _ _ _ h.k]; exact hD
theorem EnW.cd {v : Value} {g vb : Nat} {so : Value} {T : Rn} {b1 kb t13 D : Nat} {x : World} (h : EnW w pc words el v l g vb so T b1 kb t13 x) (hD : T.w.kind = (D : Int)) : x.cell? ⟨t13, 0, none⟩ = some (vI (D : Int)) := by rw [cell_of_row _ _ _ _ _ _ h.d]; show some (vI T.w.kind) = _; rw [hD]

set_option maxHeartbeats 4000000 in
theorem ends_no1 {v : Value} (vz : Value) (hpc : 0 ≤ pc) (O : OpsIn w v l) (hc : CorOk c) (hE : newE pc words el l c = 1) : Calls Tryd.prog 3 #[blV pc words el v, c.val, vz] w fun e w' => e = .returned (.bool true) ∧ Below w.heap.size w w' := by
  have himm : ∀ k, 0 ≤ (opAt l k).imm := fun k => (O.imm k).1
  have N0 : NwC w pc words el v l c w.heap.size (w.heap.size + 1) ((w.alloc (.cells (blA pc words el v) 25)).alloc (.cells c.cells 29)) := by
    have hb := below_alloc w (.cells (blA pc words el v) 25)
    have hb2 := below_alloc (w.alloc (.cells (blA pc words el v) 25)) (.cells c.cells 29)
    refine ⟨?_, ?_, (O.ops.grow hb).grow hb2, below_then hb (Nat.le_refl _) hb2⟩
    · rw [hb2.block _ (by simp)]; exact heap_alloc_new _ _
    · have := heap_alloc_new (w.alloc (.cells (blA pc words el v) 25)) (.cells c.cells 29)
      rw [World.size_alloc] at this; exact this
  go_enter Tryd.func3, Tryd.ntmps3
  go_upto_region 1 with fail
  generalize (w.alloc (.cells (blA pc words el v) 25)).alloc (.cells c.cells 29) = w2 at *
  generalize w.heap.size + 1 = b2 at *
  generalize hbb : w.heap.size = b1 at N0 ⊢
  clear hbb
  go_upto_region 2 with (first | (go_at_call 6; (with_reducible refine (examples_c _).mono ?_); rintro e w3 ⟨rfl, B⟩; dsimp only; have N := N0.grow B; clear N0 B))

  have k2 := newN_c (words := words) (el := el) hpc N.ops himm O.cap hc hE (by decide)
  go_upto_region 3 with (first | ((with_reducible refine wpList_load_if rfl 25 _ rfl _ rfl 25 _ (0, 0) _ N.r1 Tryd.underlying25 rfl (bl_inf _ _ _ _) ?_); simp only [Act.put, List.setIfInBounds_toArray, List.set_cons_succ, List.set_cons_zero]) | ((with_reducible refine wpList_load_if rfl 29 _ rfl _ rfl 29 _ (0, 0) _ N.r2 Tryd.underlying29 rfl (Cor.info _) ?_); simp only [Act.put, List.setIfInBounds_toArray, List.set_cons_succ, List.set_cons_zero]) | (go_at_call 7; (with_reducible refine k2.mono ?_); clear k2; rintro e w4 ⟨rfl, B⟩; dsimp only; replace N := N.grow B; clear B))
  go_wp2
  go_ret
  exact ⟨rfl, N.below⟩

set_option maxHeartbeats 4000000 in
theorem ends_no4 {v : Value} (vz : Value) (hpc : 0 ≤ pc) (O : OpsIn w v l) (hc : CorOk c) (hE : newE pc words el l c = 4) : Calls Tryd.prog 3 #[blV pc words el v, c.val, vz] w fun e w' => e = .returned (.bool true) ∧ Below w.heap.size w w' := by
  have himm : ∀ k, 0 ≤ (opAt l k).imm := fun k => (O.imm k).1
  have N0 : NwC w pc words el v l c w.heap.size (w.heap.size + 1) ((w.alloc (.cells (blA pc words el v) 25)).alloc (.cells c.cells 29)) := by
    have hb := below_alloc w (.cells (blA pc words el v) 25)
    have hb2 := below_alloc (w.alloc (.cells (blA pc words el v) 25)) (.cells c.cells 29)
    refine ⟨?_, ?_, (O.ops.grow hb).grow hb2, below_then hb (Nat.le_refl _) hb2⟩
    · rw [hb2.block _ (by simp)]; exact heap_alloc_new _ _
    · have := heap_alloc_new (w.alloc (.cells (blA pc words el v) 25)) (.cells c.cells 29)
      rw [World.size_alloc] at this; exact this
  go_enter Tryd.func3, Tryd.ntmps3
  go_upto_region 1 with fail
  generalize (w.alloc (.cells (blA pc words el v) 25)).alloc (.cells c.cells 29) = w2 at *
  generalize w.heap.size + 1 = b2 at *
  generalize hbb : w.heap.size = b1 at N0 ⊢
  clear hbb
  go_upto_region 2 with (first | (go_at_call 6; (with_reducible refine (examples_c _).mono ?_); rintro e w3 ⟨rfl, B⟩; dsimp only; have N := N0.grow B; clear N0 B))

  have k2 := newN_c (words := words) (el := el) hpc N.ops himm O.cap hc hE (by decide)
  go_upto_region 3 with (first | ((with_reducible refine wpList_load_if rfl 25 _ rfl _ rfl 25 _ (0, 0) _ N.r1 Tryd.underlying25 rfl (bl_inf _ _ _ _) ?_); simp only [Act.put, List.setIfInBounds_toArray, List.set_cons_succ, List.set_cons_zero]) | ((with_reducible refine wpList_load_if rfl 29 _ rfl _ rfl 29 _ (0, 0) _ N.r2 Tryd.underlying29 rfl (Cor.info _) ?_); simp only [Act.put, List.setIfInBounds_toArray, List.set_cons_succ, List.set_cons_zero]) | (go_at_call 7; (with_reducible refine k2.mono ?_); clear k2; rintro e w4 ⟨rfl, B⟩; dsimp only; replace N := N.grow B; clear B))
  go_wp2
  go_ret
  exact ⟨rfl, N.below⟩

set_option maxHeartbeats 16000000 in
theorem ends_yes {ra : Addr} {cap : Nat} {zo : Option Addr} {zc : Nat} {z : List Gt} (G : Gots w (.slice zo z.length zc) z) (hpc : 0 ≤ pc) (O : OpsIn w (.slice (some ra) l.length cap) l) (hc : CorOk c) (hE : newE pc words el l c = 0) (hops : ∀ i o, l[i]? = some o → OpAt w (ra.add (i * 6)) o) : Calls Tryd.prog 3 #[blV pc words el (.slice (some ra) l.length cap), c.val, .slice zo z.length zc] w fun e w' => e = .returned (.bool true) ∧ Below w.heap.size w w' := by
  have himm : ∀ k, 0 ≤ (opAt l k).imm := fun k => (O.imm k).1
  have fit := new_fit O.imm hE
  have N0 : NwC w pc words el (.slice (some ra) l.length cap) l c w.heap.size (w.heap.size + 1) ((w.alloc (.cells (blA pc words el (.slice (some ra) l.length cap)) 25)).alloc (.cells c.cells 29)) := by
    have hb := below_alloc w (.cells (blA pc words el (.slice (some ra) l.length cap)) 25)
    have hb2 := below_alloc (w.alloc (.cells (blA pc words el (.slice (some ra) l.length cap)) 25)) (.cells c.cells 29)
    refine ⟨?_, ?_, (O.ops.grow hb).grow hb2, below_then hb (Nat.le_refl _) hb2⟩
    · rw [hb2.block _ (by simp)]; exact heap_alloc_new _ _
    · have := heap_alloc_new (w.alloc (.cells (blA pc words el (.slice (some ra) l.length cap)) 25)) (.cells c.cells 29)
      rw [World.size_alloc] at this; exact this
  go_enter Tryd.func3, Tryd.ntmps3
  go_upto_region 1 with fail
  generalize (w.alloc (.cells (blA pc words el (.slice (some ra) l.length cap)) 25)).alloc (.cells c.cells 29) = w2 at *
  generalize w.heap.size + 1 = b2 at *
  generalize hbb : w.heap.size = b1 at N0 ⊢
  clear hbb
  go_upto_region 2 with (first | (go_at_call 6; (with_reducible refine (examples_c _).mono ?_); rintro e w3 ⟨rfl, B⟩; dsimp only; have N := N0.grow B; clear N0 B))

  have k2 := newY_c (words := words) (el := el) hpc N.ops himm O.cap hc hE
  go_upto_region 3 with (first | ((with_reducible refine wpList_load_if rfl 25 _ rfl _ rfl 25 _ (0, 0) _ N.r1 Tryd.underlying25 rfl (bl_inf _ _ _ _) ?_); simp only [Act.put, List.setIfInBounds_toArray, List.set_cons_succ, List.set_cons_zero]) | ((with_reducible refine wpList_load_if rfl 29 _ rfl _ rfl 29 _ (0, 0) _ N.r2 Tryd.underlying29 rfl (Cor.info _) ?_); simp only [Act.put, List.setIfInBounds_toArray, List.set_cons_succ, List.set_cons_zero]) | (go_at_call 7; (with_reducible refine k2.mono ?_); clear k2; rintro e w4 ⟨u1, rfl, F, B⟩; dsimp only; have hlo := N.below.size; replace N := N.grow B; clear B))
  obtain ⟨g, vb, so, e1, P, hg1, hv1, ho1⟩ := F.ex
  subst e1
  have hw1 : w.heap.size ≤ g := by omega
  have hw2 : w.heap.size ≤ vb := by omega
  have hB := N.below
  have b1r := N.r1
  have hl512 := P.max
  clear N F hlo hg1 hv1 ho1
  go_upto_region 5 with fail
  have kr : (w4.alloc (.cells kA 3)).heap[w4.heap.size]? = some (.cells kA 3) := heap_alloc_new _ _
  have B := below_alloc w4 (.cells kA 3)
  go_upto_region 7 with (first | ((with_reducible refine wpList_k36 rfl _ _ _ _ _ _ _ rfl rfl rfl rfl rfl rfl rfl rfl ?_); simp only [Act.put, List.setIfInBounds_toArray, List.set_cons_succ, List.set_cons_zero]))
  replace P := P.grow B
  replace b1r := keepRow b1r B
  replace hB := below_then hB (Nat.le_refl _) B
  clear B
  generalize w4.alloc (.cells kA 3) = w5 at *
  generalize w4.heap.size = kb at *
  have I0 := new_inv l.length c
  have hgo0 : (newS l.length c).go = 0 := rfl
  generalize newS l.length c = S0 at P I0 hgo0
  go_upto_region 8 with fail
  go_loopw [11, 12] (fun s11 s12 wr => ∃ (k a : Nat) (S : Rn), s12 = vI k ∧ s11 = vI a ∧ RunAt l g vb so S wr ∧ Inv l.length S ∧ S.go = 0 ∧ k ≤ S.next ∧ a ≤ S.next ∧ Below w.heap.size w wr ∧ wr.heap[b1]? = some (.cells (blA pc words el (.slice (some ra) l.length cap)) 25) ∧ wr.heap[kb]? = some (.cells kA 3)) (fun s11 s12 _ => ((l.length : Int) + 1 - intOf s12).toNat)
  case atStart => exact ⟨0, 0, S0, rfl, rfl, P, I0, hgo0, Nat.zero_le _, Nat.zero_le _, hB, b1r, kr⟩
  case round =>
    clear P I0 hB b1r kr hgo0
    obtain ⟨k, a, S, rfl, rfl, P, I, hgo, hkS, haS, hB, b1r, kr⟩ := hrel
    have z3 : wr.cell? ⟨b1, 3, none⟩ = some (.slice (some ra) l.length cap) := by rw [cell_of_row _ _ _ _ _ _ b1r]; rfl
    have hlt : (k : Int) ≤ l.length := by have := I.le; omega
    have J := next_inv I
    have hW := next_want hgo I.le
    have k8 := next_c P fit I.le
    generalize nextV l S = T at J k8 hW
    by_cases hgT : T.go = 0
    · have hgo2 : (T.go != 0) = false := by simp [hgT]
      rw [hgo2] at k8

      go_upto_region 11 with (first | (go_at_call 8; (with_reducible refine k8.mono ?_); clear k8; rintro e w12 ⟨rfl, R⟩; dsimp only; have H := has_none w12) | ((with_reducible refine wpList_store_new H rfl 38 _ _ rfl (wnA T.w) rfl rfl (wn_inf _) (by kernel_rfl) (wn_one _) ?_); clear H; intro w13 H; try simp only [Act.put]))
      replace hB := (R.low hB hw1 hw2)
      replace b1r := keepRow (R.kept b1r (ne_of_type b1r P.top (by decide)) (ne_of_type b1r P.vals (by decide))) H.below
      replace kr := keepRow (R.kept kr (ne_of_type kr P.top (by decide)) (ne_of_type kr P.vals (by decide))) H.below
      replace P := R.1.grow H.below
      replace hB := below_then hB (Nat.le_refl _) H.below
      have r13 := H.get List.mem_cons_self
      generalize w12.heap.size = t13 at r13 ⊢
      clear H R

      go_wp2
      go_ret
      exact ⟨rfl, hB⟩
    · have hgo2 : (T.go != 0) = true := by simp [hgT]
      rw [hgo2] at k8
      obtain ⟨j, hj1, hj2, hj3, hWj⟩ := hW hgT
      have hE0 : takeE T = 0 := by unfold takeE; rw [if_neg hgT]
      have n4 := hWj.2
      have n5 : T.w.addr.tmod 8 = 0 := Int.tmod_eq_zero_of_dvd (Int.dvd_of_emod_eq_zero n4)
      obtain ⟨D, W, hDk, hD1, hD6, hD5, hDA, hWk⟩ := want_k hWj

      go_upto_region 11 with (first | (go_at_call 8; (with_reducible refine k8.mono ?_); clear k8; rintro e w12 ⟨rfl, R⟩; dsimp only; have H := has_none w12) | ((with_reducible refine wpList_store_new H rfl 38 _ _ rfl (wnA T.w) rfl rfl (wn_inf _) (by kernel_rfl) (wn_one _) ?_); clear H; intro w13 H; try simp only [Act.put]))
      replace hB := (R.low hB hw1 hw2)
      replace b1r := keepRow (R.kept b1r (ne_of_type b1r P.top (by decide)) (ne_of_type b1r P.vals (by decide))) H.below
      replace kr := keepRow (R.kept kr (ne_of_type kr P.top (by decide)) (ne_of_type kr P.vals (by decide))) H.below
      replace P := R.1.grow H.below
      replace hB := below_then hB (Nat.le_refl _) H.below
      have r13 := H.get List.mem_cons_self
      generalize w12.heap.size = t13 at r13 ⊢
      clear H R

      have z0 : w13.cell? ⟨t13, 0, none⟩ = some (vI (D : Int)) := by rw [cell_of_row _ _ _ _ _ _ r13]; show some (vI T.w.kind) = _; rw [hDk]
      have z1 : w13.cell? ⟨t13, 1, none⟩ = some (vU T.w.addr) := by rw [cell_of_row _ _ _ _ _ _ r13]; rfl
      have n1 : ¬ (D : Int) < 1 := by omega
      have n2 : ¬ (6 : Int) < (D : Int) := by omega
      have n3 : ¬ (D : Int) = 5 := by omega
      go_upto_region 15 with fail
      have X0 : EnW w pc words el (.slice (some ra) l.length cap) l g vb so T b1 kb t13 w13 := ⟨b1r, kr, r13, P, hB⟩
      have hml : l.length ≤ 512 := hl512
      have haj0 : a ≤ j := by omega
      have hkj : k < j + 1 := by omega
      clear z0 z1 n1 n2 n3 n4 n5 b1r kr r13 P hB z3 haS
      go_loopw [11] (fun s11 wr => ∃ a : Nat, a ≤ j ∧ s11 = vI a ∧ EnW w pc words el (.slice (some ra) l.length cap) l g vb so T b1 kb t13 wr) (fun s11 _ => ((l.length : Int) - intOf s11).toNat)
      case atStart => exact ⟨a, haj0, rfl, X0⟩
      case round =>
        clear X0 haj0
        obtain ⟨a, haj, rfl, X⟩ := hrel
        have HA : ∀ x, Below w.heap.size w x → OpAt x (ra.add (a * 6)) (opAt l a) := fun x hb => (hops a _ (opAt_some (by omega))).grow hb
        by_cases hkw : (opAt l a).kind = W
        · go_upto_region 15 with fail
          refine RelQ.wp_region_rel RelQ.Grows (fun _ _ => False) (fun _ _ _ h _ => h.elim) (EnW w pc words el (.slice (some ra) l.length cap) l g vb so T b1 kb t13) [.inl (vI (a : Int)), .inl (ptr b1 3), .inl ((.slice (some ra) l.length cap)), .inl (vI (l.length : Int)), .inl (.bool true), .inl (.bool true), .inl (ptr b1 3), .inl ((.slice (some ra) l.length cap)), .inl (vI (a : Int)), .inl (.pointer (some (ra.add (a * 6)))), .inl (.pointer (some (ra.add (a * 6)))), .inl (vI (opAt l a).kind), .inl (.slice (some ⟨kb, 0, none⟩) 7 7), .inl (ptr t13 0), .inl (vI (D : Int)), .inl (ptr kb D), .inl (vI W), .inl (.bool false), .inl (.bool false)] (by kernel_rfl) (by kernel_rfl) RelQ.grows_refl (fun _ _ h hb => h.grow hb) (X.grow (below_dr _)) (by simp [RelQ.upK]) ?_
          refine ⟨fun w3 hC _ => RelQ.uponG_yes rfl ((by go_simp; first | exact RelQ.grows_refl _ | exact ⟨RelQ.grows_refl _, rfl⟩)), ?_⟩
          simp only [Act.put, List.setIfInBounds_toArray, List.set_cons_succ, List.set_cons_zero]
          refine ⟨fun w3 hC _ => RelQ.uponG_yes rfl ((by go_simp; first | exact RelQ.grows_refl _ | exact ⟨RelQ.grows_refl _, rfl⟩)), ?_⟩
          simp only [Act.put, List.setIfInBounds_toArray, List.set_cons_succ, List.set_cons_zero]
          refine ⟨fun w3 hC _ => RelQ.uponG_yes rfl ((by have z := hC.c3; go_simp; first | exact RelQ.grows_refl _ | exact ⟨RelQ.grows_refl _, rfl⟩)), ?_⟩
          simp only [Act.put, List.setIfInBounds_toArray, List.set_cons_succ, List.set_cons_zero]
          refine ⟨fun w3 hC _ => RelQ.uponG_yes rfl ((by go_simp; first | exact RelQ.grows_refl _ | exact ⟨RelQ.grows_refl _, rfl⟩)), ?_⟩
          simp only [Act.put, List.setIfInBounds_toArray, List.set_cons_succ, List.set_cons_zero]
          refine ⟨fun w3 hC hf => RelQ.uponG_yes rfl (by have q : decide ((a : Int) < (l.length : Int)) = true := decide_eq_true (by omega); go_simp; first | exact RelQ.grows_refl _ | exact ⟨RelQ.grows_refl _, rfl⟩ | exact ⟨RelQ.grows_refl _, by omega⟩ | (rw [q]; exact ⟨RelQ.grows_refl _, rfl⟩)), ?_⟩
          simp only [Act.put, List.setIfInBounds_toArray, List.set_cons_succ, List.set_cons_zero]
          refine ⟨fun w3 hC _ => RelQ.uponG_yes rfl ((by go_simp; first | exact RelQ.grows_refl _ | exact ⟨RelQ.grows_refl _, rfl⟩)), ?_⟩
          simp only [Act.put, List.setIfInBounds_toArray, List.set_cons_succ, List.set_cons_zero]
          refine ⟨fun w3 hC _ => RelQ.uponG_yes rfl ((by go_simp; first | exact RelQ.grows_refl _ | exact ⟨RelQ.grows_refl _, rfl⟩)), ?_⟩
          simp only [Act.put, List.setIfInBounds_toArray, List.set_cons_succ, List.set_cons_zero]
          refine ⟨fun w3 hC _ => RelQ.uponG_yes rfl ((by have z := hC.c3; go_simp; first | exact RelQ.grows_refl _ | exact ⟨RelQ.grows_refl _, rfl⟩)), ?_⟩
          simp only [Act.put, List.setIfInBounds_toArray, List.set_cons_succ, List.set_cons_zero]
          refine ⟨fun w3 hC _ => RelQ.uponG_yes rfl ((by go_simp; first | exact RelQ.grows_refl _ | exact ⟨RelQ.grows_refl _, rfl⟩)), ?_⟩
          simp only [Act.put, List.setIfInBounds_toArray, List.set_cons_succ, List.set_cons_zero]
          refine ⟨fun w3 hC _ => RelQ.uponG_yes rfl ((by have hal : (a : Int) < l.length := (by omega); go_simp; first | exact RelQ.grows_refl _ | exact ⟨RelQ.grows_refl _, rfl⟩)), ?_⟩
          simp only [Act.put, List.setIfInBounds_toArray, List.set_cons_succ, List.set_cons_zero]
          refine ⟨fun w3 hC _ => RelQ.uponG_yes rfl ((by go_simp; first | exact RelQ.grows_refl _ | exact ⟨RelQ.grows_refl _, rfl⟩)), ?_⟩
          simp only [Act.put, List.setIfInBounds_toArray, List.set_cons_succ, List.set_cons_zero]
          refine ⟨fun w3 hC _ => RelQ.uponG_yes rfl ((by have z := (HA _ hC.below).c0; go_simp; first | exact RelQ.grows_refl _ | exact ⟨RelQ.grows_refl _, rfl⟩)), ?_⟩
          simp only [Act.put, List.setIfInBounds_toArray, List.set_cons_succ, List.set_cons_zero]
          refine ⟨fun w3 hC _ => RelQ.uponG_yes rfl ((by go_simp; first | exact RelQ.grows_refl _ | exact ⟨RelQ.grows_refl _, rfl⟩)), ?_⟩
          simp only [Act.put, List.setIfInBounds_toArray, List.set_cons_succ, List.set_cons_zero]
          refine ⟨fun w3 hC _ => RelQ.uponG_yes rfl ((by go_simp; first | exact RelQ.grows_refl _ | exact ⟨RelQ.grows_refl _, rfl⟩)), ?_⟩
          simp only [Act.put, List.setIfInBounds_toArray, List.set_cons_succ, List.set_cons_zero]
          refine ⟨fun w3 hC _ => RelQ.uponG_yes rfl ((by have z := hC.cd hDk; go_simp; first | exact RelQ.grows_refl _ | exact ⟨RelQ.grows_refl _, rfl⟩)), ?_⟩
          simp only [Act.put, List.setIfInBounds_toArray, List.set_cons_succ, List.set_cons_zero]
          refine ⟨fun w3 hC _ => RelQ.uponG_yes rfl ((by have hd7 : (D : Int) < 7 := (by omega); go_simp; first | exact RelQ.grows_refl _ | exact ⟨RelQ.grows_refl _, rfl⟩)), ?_⟩
          simp only [Act.put, List.setIfInBounds_toArray, List.set_cons_succ, List.set_cons_zero]
          refine ⟨fun w3 hC _ => RelQ.uponG_yes rfl ((by have z := hC.ck hDA; go_simp; first | exact RelQ.grows_refl _ | exact ⟨RelQ.grows_refl _, rfl⟩)), ?_⟩
          simp only [Act.put, List.setIfInBounds_toArray, List.set_cons_succ, List.set_cons_zero]
          refine ⟨fun w3 hC hf => RelQ.uponG_yes rfl (by have q : decide ((opAt l a).kind = W) = true := (by first | exact decide_eq_true hkw | exact decide_eq_false hkw); go_simp; first | exact RelQ.grows_refl _ | exact ⟨RelQ.grows_refl _, rfl⟩ | (simp [hkw]; exact RelQ.grows_refl _)), ?_⟩
          simp only [Act.put, List.setIfInBounds_toArray, List.set_cons_succ, List.set_cons_zero]
          refine ⟨fun w3 hC _ => RelQ.uponG_yes rfl ((by go_simp; first | exact RelQ.grows_refl _ | exact ⟨RelQ.grows_refl _, rfl⟩)), ?_⟩
          simp only [Act.put, List.setIfInBounds_toArray, List.set_cons_succ, List.set_cons_zero]
          intro w9 hN _
          have z3 := hN.c3
          have nal : ¬ (a : Int) = (l.length : Int) := by omega
          have hB := hN.below
          have b1r := hN.r1
          have kr := hN.k
          have P := hN.run
          have hlo17 := hB.size
          have y1 := P.lt
          have y2 := P.ltv
          have y3 : ∀ k, so.ownBlock = some k → k < w9.heap.size := fun k hk => (P.ob hk).1
          have y7 := lt_of_some b1r
          have y8 := lt_of_some kr
          have k512 : (k : Int) ≤ 512 := by omega
          have k0 : (0 : Int) ≤ (k : Int) := by omega
          clear hN X HA hkw hW
          have H := has_none w9
          go_upto_region 20 with fail
          go_upto_region 21 with (first | ((with_reducible refine wpList_store_new H rfl 44 _ _ rfl (gtA ⟨8 * (k : Int), false, 0⟩) rfl rfl (gt_inf _) (by kernel_rfl) (gt_one _) ?_); clear H; intro w24 H; try simp only [Act.put]))
          have hU0 : U64 (8 * (k : Int)) := ⟨by omega, by omega⟩
          replace b1r := keepRow b1r H.below
          replace kr := keepRow kr H.below
          replace P := P.grow H.below
          replace hB := below_then hB (Nat.le_refl _) H.below
          have r17 := H.get List.mem_cons_self
          generalize w9.heap.size = t17 at *
          clear H z3
          by_cases hi : (k : Int) < z.length
          · obtain ⟨rz, zc', ez, hcz⟩ := (G.grow hB).cell (by omega)
            cases ez
            have hi2 : k < z.length := by omega
            have A := hcz k _ (List.getElem?_eq_getElem hi2)
            have hU := G.ok _ (List.getElem_mem hi2)
            generalize z[k] = t at A hU
            clear hcz
            go_upto_region 23 with (first | ((with_reducible refine wpList_load44 rfl _ rfl _ rfl t A ?_); simp only [Act.put, List.setIfInBounds_toArray, List.set_cons_succ, List.set_cons_zero]) | ((with_reducible refine wpList_store_row rfl 44 _ _ rfl t17 (gtA t) rfl rfl 44 _ r17 (gt_inf _) rfl (gt_one _) ?_); try simp only [Act.put]))
            replace b1r : (w24.setRow t17 (gtA t)).heap[b1]? = some (.cells (blA pc words el (.slice (some ra) l.length cap)) 25) := by rw [setRow_other _ _ _ _ (by omega)]; exact b1r
            replace kr : (w24.setRow t17 (gtA t)).heap[kb]? = some (.cells kA 3) := by rw [setRow_other _ _ _ _ (by omega)]; exact kr
            replace P := P.rowE (d := gtA t) y1 y2 y3
            replace hB := below_setRow (cs := gtA t) hB hlo17
            replace r17 : (w24.setRow t17 (gtA t)).heap[t17]? = some (.cells (gtA t) 44) := setRow_heap _ _ _ _ _ _ r17
            generalize w24.setRow t17 (gtA t) = w24' at *
            clear A
            go_wp2_with (first | ((with_reducible refine wpList_load_if rfl 44 _ rfl _ rfl 44 _ (0, 0) _ r17 Tryd.underlying44 rfl (gt_inf _) ?_); simp only [Act.put, List.setIfInBounds_toArray, List.set_cons_succ, List.set_cons_zero]) | (go_at_call 9; (with_reducible refine (take_c P t hU J.g4 J.g1 J.le).mono ?_); rintro e w25 ⟨rfl, R⟩; rw [hE0]; dsimp only; replace hB := R.low hB hw1 hw2; replace b1r := R.kept b1r (ne_of_type b1r P.top (by decide)) (ne_of_type b1r P.vals (by decide)); replace kr := R.kept kr (ne_of_type kr P.top (by decide)) (ne_of_type kr P.vals (by decide)); replace P := R.1; clear R))
            go_roundw
            case rel => exact ⟨k + 1, a + 1, takeV l.length T t, rfl, by simp, P, take_inv J t, take_go J.g4 t, by have := take_next (n := l.length) t J.le; omega, by have := take_next (n := l.length) t J.le; omega, hB, b1r, kr⟩
            case measure => simp [intOf]; omega
          · generalize ht : (⟨8 * (k : Int), false, 0⟩ : Gt) = t at *
            have hU : U64 t.value := by rw [← ht]; exact hU0
            clear ht
            go_wp2_with (first | ((with_reducible refine wpList_load_if rfl 44 _ rfl _ rfl 44 _ (0, 0) _ r17 Tryd.underlying44 rfl (gt_inf _) ?_); simp only [Act.put, List.setIfInBounds_toArray, List.set_cons_succ, List.set_cons_zero]) | (go_at_call 9; (with_reducible refine (take_c P t hU J.g4 J.g1 J.le).mono ?_); rintro e w25 ⟨rfl, R⟩; rw [hE0]; dsimp only; replace hB := R.low hB hw1 hw2; replace b1r := R.kept b1r (ne_of_type b1r P.top (by decide)) (ne_of_type b1r P.vals (by decide)); replace kr := R.kept kr (ne_of_type kr P.top (by decide)) (ne_of_type kr P.vals (by decide)); replace P := R.1; clear R))
            go_roundw
            case rel => exact ⟨k + 1, a + 1, takeV l.length T t, rfl, by simp, P, take_inv J t, take_go J.g4 t, by have := take_next (n := l.length) t J.le; omega, by have := take_next (n := l.length) t J.le; omega, hB, b1r, kr⟩
            case measure => simp [intOf]; omega
        · have hne : a ≠ j := fun h => hkw (by rw [h]; exact hWk)
          go_upto_region 15 with fail
          refine RelQ.wp_region_rel RelQ.Grows (fun _ _ => False) (fun _ _ _ h _ => h.elim) (EnW w pc words el (.slice (some ra) l.length cap) l g vb so T b1 kb t13) [.inl (vI (a : Int)), .inl (ptr b1 3), .inl ((.slice (some ra) l.length cap)), .inl (vI (l.length : Int)), .inl (.bool true), .inl (.bool true), .inl (ptr b1 3), .inl ((.slice (some ra) l.length cap)), .inl (vI (a : Int)), .inl (.pointer (some (ra.add (a * 6)))), .inl (.pointer (some (ra.add (a * 6)))), .inl (vI (opAt l a).kind), .inl (.slice (some ⟨kb, 0, none⟩) 7 7), .inl (ptr t13 0), .inl (vI (D : Int)), .inl (ptr kb D), .inl (vI W), .inl (.bool true), .inl (.bool true)] (by kernel_rfl) (by kernel_rfl) RelQ.grows_refl (fun _ _ h hb => h.grow hb) (X.grow (below_dr _)) (by simp [RelQ.upK]) ?_
          refine ⟨fun w3 hC _ => RelQ.uponG_yes rfl ((by go_simp; first | exact RelQ.grows_refl _ | exact ⟨RelQ.grows_refl _, rfl⟩)), ?_⟩
          simp only [Act.put, List.setIfInBounds_toArray, List.set_cons_succ, List.set_cons_zero]
          refine ⟨fun w3 hC _ => RelQ.uponG_yes rfl ((by go_simp; first | exact RelQ.grows_refl _ | exact ⟨RelQ.grows_refl _, rfl⟩)), ?_⟩
          simp only [Act.put, List.setIfInBounds_toArray, List.set_cons_succ, List.set_cons_zero]
          refine ⟨fun w3 hC _ => RelQ.uponG_yes rfl ((by have z := hC.c3; go_simp; first | exact RelQ.grows_refl _ | exact ⟨RelQ.grows_refl _, rfl⟩)), ?_⟩
          simp only [Act.put, List.setIfInBounds_toArray, List.set_cons_succ, List.set_cons_zero]
          refine ⟨fun w3 hC _ => RelQ.uponG_yes rfl ((by go_simp; first | exact RelQ.grows_refl _ | exact ⟨RelQ.grows_refl _, rfl⟩)), ?_⟩
          simp only [Act.put, List.setIfInBounds_toArray, List.set_cons_succ, List.set_cons_zero]
          refine ⟨fun w3 hC hf => RelQ.uponG_yes rfl (by have q : decide ((a : Int) < (l.length : Int)) = true := decide_eq_true (by omega); go_simp; first | exact RelQ.grows_refl _ | exact ⟨RelQ.grows_refl _, rfl⟩ | exact ⟨RelQ.grows_refl _, by omega⟩ | (rw [q]; exact ⟨RelQ.grows_refl _, rfl⟩)), ?_⟩
          simp only [Act.put, List.setIfInBounds_toArray, List.set_cons_succ, List.set_cons_zero]
          refine ⟨fun w3 hC _ => RelQ.uponG_yes rfl ((by go_simp; first | exact RelQ.grows_refl _ | exact ⟨RelQ.grows_refl _, rfl⟩)), ?_⟩
          simp only [Act.put, List.setIfInBounds_toArray, List.set_cons_succ, List.set_cons_zero]
          refine ⟨fun w3 hC _ => RelQ.uponG_yes rfl ((by go_simp; first | exact RelQ.grows_refl _ | exact ⟨RelQ.grows_refl _, rfl⟩)), ?_⟩
          simp only [Act.put, List.setIfInBounds_toArray, List.set_cons_succ, List.set_cons_zero]
          refine ⟨fun w3 hC _ => RelQ.uponG_yes rfl ((by have z := hC.c3; go_simp; first | exact RelQ.grows_refl _ | exact ⟨RelQ.grows_refl _, rfl⟩)), ?_⟩
          simp only [Act.put, List.setIfInBounds_toArray, List.set_cons_succ, List.set_cons_zero]
          refine ⟨fun w3 hC _ => RelQ.uponG_yes rfl ((by go_simp; first | exact RelQ.grows_refl _ | exact ⟨RelQ.grows_refl _, rfl⟩)), ?_⟩
          simp only [Act.put, List.setIfInBounds_toArray, List.set_cons_succ, List.set_cons_zero]
          refine ⟨fun w3 hC _ => RelQ.uponG_yes rfl ((by have hal : (a : Int) < l.length := (by omega); go_simp; first | exact RelQ.grows_refl _ | exact ⟨RelQ.grows_refl _, rfl⟩)), ?_⟩
          simp only [Act.put, List.setIfInBounds_toArray, List.set_cons_succ, List.set_cons_zero]
          refine ⟨fun w3 hC _ => RelQ.uponG_yes rfl ((by go_simp; first | exact RelQ.grows_refl _ | exact ⟨RelQ.grows_refl _, rfl⟩)), ?_⟩
          simp only [Act.put, List.setIfInBounds_toArray, List.set_cons_succ, List.set_cons_zero]
          refine ⟨fun w3 hC _ => RelQ.uponG_yes rfl ((by have z := (HA _ hC.below).c0; go_simp; first | exact RelQ.grows_refl _ | exact ⟨RelQ.grows_refl _, rfl⟩)), ?_⟩
          simp only [Act.put, List.setIfInBounds_toArray, List.set_cons_succ, List.set_cons_zero]
          refine ⟨fun w3 hC _ => RelQ.uponG_yes rfl ((by go_simp; first | exact RelQ.grows_refl _ | exact ⟨RelQ.grows_refl _, rfl⟩)), ?_⟩
          simp only [Act.put, List.setIfInBounds_toArray, List.set_cons_succ, List.set_cons_zero]
          refine ⟨fun w3 hC _ => RelQ.uponG_yes rfl ((by go_simp; first | exact RelQ.grows_refl _ | exact ⟨RelQ.grows_refl _, rfl⟩)), ?_⟩
          simp only [Act.put, List.setIfInBounds_toArray, List.set_cons_succ, List.set_cons_zero]
          refine ⟨fun w3 hC _ => RelQ.uponG_yes rfl ((by have z := hC.cd hDk; go_simp; first | exact RelQ.grows_refl _ | exact ⟨RelQ.grows_refl _, rfl⟩)), ?_⟩
          simp only [Act.put, List.setIfInBounds_toArray, List.set_cons_succ, List.set_cons_zero]
          refine ⟨fun w3 hC _ => RelQ.uponG_yes rfl ((by have hd7 : (D : Int) < 7 := (by omega); go_simp; first | exact RelQ.grows_refl _ | exact ⟨RelQ.grows_refl _, rfl⟩)), ?_⟩
          simp only [Act.put, List.setIfInBounds_toArray, List.set_cons_succ, List.set_cons_zero]
          refine ⟨fun w3 hC _ => RelQ.uponG_yes rfl ((by have z := hC.ck hDA; go_simp; first | exact RelQ.grows_refl _ | exact ⟨RelQ.grows_refl _, rfl⟩)), ?_⟩
          simp only [Act.put, List.setIfInBounds_toArray, List.set_cons_succ, List.set_cons_zero]
          refine ⟨fun w3 hC hf => RelQ.uponG_yes rfl (by have q : decide ((opAt l a).kind = W) = false := (by first | exact decide_eq_true hkw | exact decide_eq_false hkw); go_simp; first | exact RelQ.grows_refl _ | exact ⟨RelQ.grows_refl _, rfl⟩ | (simp [hkw]; exact RelQ.grows_refl _)), ?_⟩
          simp only [Act.put, List.setIfInBounds_toArray, List.set_cons_succ, List.set_cons_zero]
          refine ⟨fun w3 hC _ => RelQ.uponG_yes rfl ((by go_simp; first | exact RelQ.grows_refl _ | exact ⟨RelQ.grows_refl _, rfl⟩)), ?_⟩
          simp only [Act.put, List.setIfInBounds_toArray, List.set_cons_succ, List.set_cons_zero]
          intro w9 hN _
          go_wp2
          go_roundw
          case rel => exact ⟨a + 1, by omega, by simp, hN⟩
          case measure => simp [intOf]; omega
end
end Go.Proofs.YtioeiogcejikbaaDoor
