/- What a run leaves as it was: the walk. -/
import Derived.Test.YtioeiogcejikbaaDoorGb
import Derived.Test.YtioeiogcejikbaaDoorKa
namespace Go.Proofs.YtioeiogcejikbaaDoor
open Go.RowKit
set_option linter.unusedVariables false
set_option linter.unusedSimpArgs false
set_option maxRecDepth 8000

theorem RunAt.rowK {l : List Opr} {g vb t : Nat} {so : Value} {S : Rn} {x : World} {d : Array Value} (H : RunAt l g vb so S x) (h1 : g < t) (h2 : vb < t) (h3 : ∀ k, so.ownBlock = some k → k < t) : RunAt l g vb so S (x.setRow t d) :=
  H.keep (setRow_other _ _ _ _ (by omega)) (setRow_other _ _ _ _ (by omega)) (fun k hk => setRow_other _ _ _ _ (by have := h3 k hk; omega))
section
variable {w : World} {pc words el : Int} {l : List Opr} {c : Cor}
/-- While what was set is taken back. -/
structure KpW (w : World) (pc words el : Int) (v : Value) (c : Cor) (b1 b2 t14 : Nat) (d : Cor) (x : World) : Prop where
  r1 : x.heap[b1]? = some (.cells (blA pc words el v) 25)
  r2 : x.heap[b2]? = some (.cells c.cells 29)
  d : x.heap[t14]? = some (.cells d.cells 29)
  below : Below w.heap.size w x
  n1 : b1 ≠ t14
  n2 : b2 ≠ t14
  lo : w.heap.size ≤ t14
section
variable {v : Value} {b1 b2 t14 : Nat} {d d' : Cor} {x y : World}
theorem KpW.grow (h : KpW w pc words el v c b1 b2 t14 d x) (hb : Below x.heap.size x y) : KpW w pc words el v c b1 b2 t14 d y :=
  ⟨keepRow h.r1 hb, keepRow h.r2 hb, keepRow h.d hb, below_then h.below (Nat.le_refl _) hb, h.n1, h.n2, h.lo⟩
theorem KpW.c3 (h : KpW w pc words el v c b1 b2 t14 d x) : x.cell? ⟨b1, 3, none⟩ = some v := by rw [cell_of_row _ _ _ _ _ _ h.r1]; rfl
theorem KpW.c2 (h : KpW w pc words el v c b1 b2 t14 d x) : x.cell? ⟨b1, 2, none⟩ = some (vI el) := by rw [cell_of_row _ _ _ _ _ _ h.r1]; rfl
theorem KpW.cc (h : KpW w pc words el v c b1 b2 t14 d x) (k : Nat) : x.cell? ⟨b2, k, none⟩ = c.cells[k]? := by rw [cell_of_row _ _ _ _ _ _ h.r2]
theorem KpW.cd (h : KpW w pc words el v c b1 b2 t14 d x) (k : Nat) : x.cell? ⟨t14, k, none⟩ = d.cells[k]? := by rw [cell_of_row _ _ _ _ _ _ h.d]
theorem KpW.fz (h : KpW w pc words el v c b1 b2 t14 d x) (k : Nat) : x.frozen? ⟨t14, k, none⟩ = false := frozen_of_row _ _ _ _ _ h.d
theorem KpW.put (h : KpW w pc words el v c b1 b2 t14 d x) {k : Nat} {u : Value} (he : d.cells.setIfInBounds k u = d'.cells) : KpW w pc words el v c b1 b2 t14 d' (x.setCell ⟨t14, k, none⟩ u) := by
  have hd := heap_setCell_same x t14 k _ 29 u h.d
  rw [he] at hd
  exact ⟨by rw [heap_setCell_other _ _ _ _ (show b1 ≠ t14 from h.n1)]; exact h.r1, by rw [heap_setCell_other _ _ _ _ (show b2 ≠ t14 from h.n2)]; exact h.r2, hd, below_cell h.below h.lo, h.n1, h.n2, h.lo⟩
end
theorem cset31 (d : Cor) (u : Int) : d.cells.setIfInBounds 31 (vU u) = ({ d with sp0 := u } : Cor).cells := by rw [Cor.set _ _ _ (by decide)]; rfl
theorem cset32 (d : Cor) (u : Int) : d.cells.setIfInBounds 32 (vU u) = ({ d with sp1 := u } : Cor).cells := by rw [Cor.set _ _ _ (by decide)]; rfl
theorem cset33 (d : Cor) (u : Int) : d.cells.setIfInBounds 33 (vU u) = ({ d with pc := u } : Cor).cells := by rw [Cor.set _ _ _ (by decide)]; rfl
theorem cset34 (d : Cor) (u : Bool) : d.cells.setIfInBounds 34 (.bool u) = ({ d with n := u } : Cor).cells := by rw [Cor.set _ _ _ (by decide)]; rfl
theorem cset35 (d : Cor) (u : Bool) : d.cells.setIfInBounds 35 (.bool u) = ({ d with z := u } : Cor).cells := by rw [Cor.set _ _ _ (by decide)]; rfl
theorem cset36 (d : Cor) (u : Bool) : d.cells.setIfInBounds 36 (.bool u) = ({ d with c := u } : Cor).cells := by rw [Cor.set _ _ _ (by decide)]; rfl
theorem cset37 (d : Cor) (u : Bool) : d.cells.setIfInBounds 37 (.bool u) = ({ d with v := u } : Cor).cells := by rw [Cor.set _ _ _ (by decide)]; rfl

set_option maxHeartbeats 4000000 in
theorem keeps_no1 {v : Value} (vz : Value) (hpc : 0 ≤ pc) (O : OpsIn w v l) (hc : CorOk c) (hE : newE pc words el l c = 1) : Calls Tryd.prog 4 #[blV pc words el v, c.val, vz] w fun e w' => e = .returned (.bool true) ∧ Below w.heap.size w w' := by
  have himm : ∀ k, 0 ≤ (opAt l k).imm := fun k => (O.imm k).1
  have N0 : NwC w pc words el v l c w.heap.size (w.heap.size + 1) ((w.alloc (.cells (blA pc words el v) 25)).alloc (.cells c.cells 29)) := by
    have hb := below_alloc w (.cells (blA pc words el v) 25)
    have hb2 := below_alloc (w.alloc (.cells (blA pc words el v) 25)) (.cells c.cells 29)
    refine ⟨?_, ?_, (O.ops.grow hb).grow hb2, below_then hb (Nat.le_refl _) hb2⟩
    · rw [hb2.block _ (by simp)]; exact heap_alloc_new _ _
    · have := heap_alloc_new (w.alloc (.cells (blA pc words el v) 25)) (.cells c.cells 29)
      rw [World.size_alloc] at this; exact this
  go_enter Tryd.func4, Tryd.ntmps4
  go_upto_region 1 with fail
  generalize (w.alloc (.cells (blA pc words el v) 25)).alloc (.cells c.cells 29) = w2 at *
  generalize w.heap.size + 1 = b2 at *
  generalize hbb : w.heap.size = b1 at N0 ⊢
  clear hbb
  go_upto_region 2 with (first | (go_at_call 6; (with_reducible refine (examples_c _).mono ?_); rintro e w3 ⟨rfl, B⟩; dsimp only; have N := N0.grow B; clear N0 B))

  have k2 := newN_c (words := words) (el := el) hpc N.ops himm O.cap hc hE (by decide)
  go_upto_region 3 with (first | ((with_reducible refine wpList_load_if rfl 25 _ rfl _ rfl 25 _ (0, 0) _ N.r1 Tryd.underlying25 rfl (bl_inf _ _ _ _) ?_); simp only [Act.put, List.setIfInBounds_toArray, List.set_cons_succ, List.set_cons_zero]) | ((with_reducible refine wpList_load_if rfl 29 _ rfl _ rfl 29 _ (0, 0) _ N.r2 Tryd.underlying29 rfl (Cor.info _) ?_); simp only [Act.put, List.setIfInBounds_toArray, List.set_cons_succ, List.set_cons_zero]) | (go_at_call 7; (with_reducible refine k2.mono ?_); clear k2; rintro e w4 ⟨rfl, B⟩; dsimp only; replace N := N.grow B; clear B))
  go_wp2
  go_ret
  exact ⟨rfl, N.below⟩

set_option maxHeartbeats 4000000 in
theorem keeps_no4 {v : Value} (vz : Value) (hpc : 0 ≤ pc) (O : OpsIn w v l) (hc : CorOk c) (hE : newE pc words el l c = 4) : Calls Tryd.prog 4 #[blV pc words el v, c.val, vz] w fun e w' => e = .returned (.bool true) ∧ Below w.heap.size w w' := by
  have himm : ∀ k, 0 ≤ (opAt l k).imm := fun k => (O.imm k).1
  have N0 : NwC w pc words el v l c w.heap.size (w.heap.size + 1) ((w.alloc (.cells (blA pc words el v) 25)).alloc (.cells c.cells 29)) := by
    have hb := below_alloc w (.cells (blA pc words el v) 25)
    have hb2 := below_alloc (w.alloc (.cells (blA pc words el v) 25)) (.cells c.cells 29)
    refine ⟨?_, ?_, (O.ops.grow hb).grow hb2, below_then hb (Nat.le_refl _) hb2⟩
    · rw [hb2.block _ (by simp)]; exact heap_alloc_new _ _
    · have := heap_alloc_new (w.alloc (.cells (blA pc words el v) 25)) (.cells c.cells 29)
      rw [World.size_alloc] at this; exact this
  go_enter Tryd.func4, Tryd.ntmps4
  go_upto_region 1 with fail
  generalize (w.alloc (.cells (blA pc words el v) 25)).alloc (.cells c.cells 29) = w2 at *
  generalize w.heap.size + 1 = b2 at *
  generalize hbb : w.heap.size = b1 at N0 ⊢
  clear hbb
  go_upto_region 2 with (first | (go_at_call 6; (with_reducible refine (examples_c _).mono ?_); rintro e w3 ⟨rfl, B⟩; dsimp only; have N := N0.grow B; clear N0 B))

  have k2 := newN_c (words := words) (el := el) hpc N.ops himm O.cap hc hE (by decide)
  go_upto_region 3 with (first | ((with_reducible refine wpList_load_if rfl 25 _ rfl _ rfl 25 _ (0, 0) _ N.r1 Tryd.underlying25 rfl (bl_inf _ _ _ _) ?_); simp only [Act.put, List.setIfInBounds_toArray, List.set_cons_succ, List.set_cons_zero]) | ((with_reducible refine wpList_load_if rfl 29 _ rfl _ rfl 29 _ (0, 0) _ N.r2 Tryd.underlying29 rfl (Cor.info _) ?_); simp only [Act.put, List.setIfInBounds_toArray, List.set_cons_succ, List.set_cons_zero]) | (go_at_call 7; (with_reducible refine k2.mono ?_); clear k2; rintro e w4 ⟨rfl, B⟩; dsimp only; replace N := N.grow B; clear B))
  go_wp2
  go_ret
  exact ⟨rfl, N.below⟩

set_option maxHeartbeats 16000000 in
theorem keeps_yes {ra : Addr} {cap : Nat} {zo : Option Addr} {zc : Nat} {z : List Gt} (G : Gots w (.slice zo z.length zc) z) (hpc : 0 ≤ pc) (O : OpsIn w (.slice (some ra) l.length cap) l) (hc : CorOk c) (hE : newE pc words el l c = 0) (he : el = 0 ∨ el = 1) (hce : c.el = el) (hops : ∀ i o, l[i]? = some o → OpAt w (ra.add (i * 6)) o) : Calls Tryd.prog 4 #[blV pc words el (.slice (some ra) l.length cap), c.val, .slice zo z.length zc] w fun e w' => e = .returned (.bool true) ∧ Below w.heap.size w w' := by
  have himm : ∀ k, 0 ≤ (opAt l k).imm := fun k => (O.imm k).1
  have fit := new_fit O.imm hE
  have N0 : NwC w pc words el (.slice (some ra) l.length cap) l c w.heap.size (w.heap.size + 1) ((w.alloc (.cells (blA pc words el (.slice (some ra) l.length cap)) 25)).alloc (.cells c.cells 29)) := by
    have hb := below_alloc w (.cells (blA pc words el (.slice (some ra) l.length cap)) 25)
    have hb2 := below_alloc (w.alloc (.cells (blA pc words el (.slice (some ra) l.length cap)) 25)) (.cells c.cells 29)
    refine ⟨?_, ?_, (O.ops.grow hb).grow hb2, below_then hb (Nat.le_refl _) hb2⟩
    · rw [hb2.block _ (by simp)]; exact heap_alloc_new _ _
    · have := heap_alloc_new (w.alloc (.cells (blA pc words el (.slice (some ra) l.length cap)) 25)) (.cells c.cells 29)
      rw [World.size_alloc] at this; exact this
  go_enter Tryd.func4, Tryd.ntmps4
  go_upto_region 1 with fail
  generalize (w.alloc (.cells (blA pc words el (.slice (some ra) l.length cap)) 25)).alloc (.cells c.cells 29) = w2 at *
  generalize w.heap.size + 1 = b2 at *
  generalize hbb : w.heap.size = b1 at N0 ⊢
  clear hbb
  go_upto_region 2 with (first | (go_at_call 6; (with_reducible refine (examples_c _).mono ?_); rintro e w3 ⟨rfl, B⟩; dsimp only; have N := N0.grow B; clear N0 B))

  have k2 := newY_c (words := words) (el := el) hpc N.ops himm O.cap hc hE
  go_upto_region 3 with (first | ((with_reducible refine wpList_load_if rfl 25 _ rfl _ rfl 25 _ (0, 0) _ N.r1 Tryd.underlying25 rfl (bl_inf _ _ _ _) ?_); simp only [Act.put, List.setIfInBounds_toArray, List.set_cons_succ, List.set_cons_zero]) | ((with_reducible refine wpList_load_if rfl 29 _ rfl _ rfl 29 _ (0, 0) _ N.r2 Tryd.underlying29 rfl (Cor.info _) ?_); simp only [Act.put, List.setIfInBounds_toArray, List.set_cons_succ, List.set_cons_zero]) | (go_at_call 7; (with_reducible refine k2.mono ?_); clear k2; rintro e w4 ⟨u1, rfl, F, B⟩; dsimp only; have hlo := N.below.size; replace N := N.grow B; clear B))
  obtain ⟨g, vb, so, e1, P, hg1, hv1, ho1⟩ := F.ex
  subst e1
  have hw1 : w.heap.size ≤ g := by omega
  have hw2 : w.heap.size ≤ vb := by omega
  have hB := N.below
  have b1r := N.r1
  have b2r := N.r2
  have hl512 := P.max
  clear N F hlo hg1 hv1 ho1 himm hE hpc
  have I0 := new_inv l.length c
  have U0 : Und l el c 0 (newS l.length c).c := Und.start l el c
  generalize newS l.length c = S0 at P I0 U0
  go_upto_region 6 with fail
  go_loopw [10] (fun s10 wr => ∃ (k : Nat) (S : Rn), k ≤ l.length + 1 ∧ s10 = vI k ∧ RunAt l g vb so S wr ∧ Inv l.length S ∧ Und l el c 0 S.c ∧ Below w.heap.size w wr ∧ wr.heap[b1]? = some (.cells (blA pc words el (.slice (some ra) l.length cap)) 25) ∧ wr.heap[b2]? = some (.cells c.cells 29)) (fun s10 _ => ((l.length : Int) + 1 - intOf s10).toNat)
  case atStart => exact ⟨0, S0, Nat.zero_le _, rfl, P, I0, U0, hB, b1r, b2r⟩
  case round =>
    clear P I0 hB b1r b2r U0
    obtain ⟨k, S, hk, rfl, P, I, U, hB, b1r, b2r⟩ := hrel
    have z3 : wr.cell? ⟨b1, 3, none⟩ = some (.slice (some ra) l.length cap) := by rw [cell_of_row _ _ _ _ _ _ b1r]; rfl
    by_cases hlt : (k : Int) ≤ l.length
    · have J := next_inv I
      replace U := next_und fit he hce U
      have k8 := next_c P fit I.le
      generalize nextV l S = T at J k8 U
      cases hgo : (T.go != 0) with
      | false =>
        rw [hgo] at k8

        go_upto_region 9 with (first | (go_at_call 8; (with_reducible refine k8.mono ?_); clear k8; rintro e w12 ⟨rfl, R⟩; dsimp only; have H := has_none w12) | ((with_reducible refine wpList_store_new H rfl 38 _ _ rfl (wnA T.w) rfl rfl (wn_inf _) (by kernel_rfl) (wn_one _) ?_); clear H; intro w13 H; try simp only [Act.put]))
        replace hB := (R.low hB hw1 hw2)
        replace b1r := keepRow (R.kept b1r (ne_of_type b1r P.top (by decide)) (ne_of_type b1r P.vals (by decide))) H.below
        replace b2r := keepRow (R.kept b2r (ne_of_type b2r P.top (by decide)) (ne_of_type b2r P.vals (by decide))) H.below
        replace P := R.1.grow H.below
        replace hB := below_then hB (Nat.le_refl _) H.below
        clear H R
        clear z3 hgo J I hlt
        go_upto_region 14 with fail
        have H := has_none w13
        have kC := core_c P
        go_upto_region 15 with (first | (go_at_call 10; (with_reducible refine kC.mono ?_); clear kC; rintro e w40 ⟨rfl, B⟩; dsimp only; replace hB := below_then hB (Nat.le_refl _) B; replace b1r := keepRow b1r B; replace b2r := keepRow b2r B; clear B H; have H := has_none w40) | ((refine wpList_store_new H rfl 29 _ _ rfl T.c.cells rfl rfl (Cor.info _) (by rw [Cor.size]; kernel_rfl) (Cor.one _) ?_); clear H; intro w41 H; try simp only [Act.put]))
        have X0 : KpW w pc words el (.slice (some ra) l.length cap) c b1 b2 w40.heap.size T.c w41 := ⟨keepRow b1r H.below, keepRow b2r H.below, H.get List.mem_cons_self, below_then hB (Nat.le_refl _) H.below, Nat.ne_of_lt (lt_of_some b1r), Nat.ne_of_lt (lt_of_some b2r), hB.size⟩
        generalize w40.heap.size = t14 at *
        clear H b1r b2r hB P
        have z1 : w41.cell? ⟨b2, 33, none⟩ = some (vU c.pc) := (X0.cc 33).trans (Cor.a33 c)
        have z2 : w41.cell? ⟨t14, 33, none⟩ = some (vU T.c.pc) := (X0.cd 33).trans (Cor.a33 T.c)
        have z4 := X0.fz 33
        go_upto_region 17 with fail
        have X1 := X0.put (d' := { T.c with pc := c.pc }) (cset33 T.c c.pc)
        have U1 := U.pc c.pc
        clear z1 z2 z4 X0
        generalize w41.setCell ⟨t14, 33, none⟩ (vU c.pc) = w42 at *
        have hpc1 : ({ T.c with pc := c.pc } : Cor).pc = c.pc := rfl
        generalize ({ T.c with pc := c.pc } : Cor) = d0 at *
        go_loopw [15] (fun s15 wr => ∃ (k : Nat) (d : Cor), k ≤ l.length ∧ s15 = vI k ∧ Und l el c k d ∧ d.pc = c.pc ∧ KpW w pc words el (.slice (some ra) l.length cap) c b1 b2 t14 d wr) (fun s15 _ => ((l.length : Int) - intOf s15).toNat)
        case atStart => exact ⟨0, d0, Nat.zero_le _, rfl, U1, hpc1, X1⟩
        case round =>
          clear X1 U1 hpc1
          obtain ⟨k, d, hk, rfl, U, hpc2, X⟩ := hrel
          have z3 := X.c3
          by_cases hlt : (k : Int) < l.length
          · have hkl : k < l.length := by omega
            have HA : ∀ x, Below w.heap.size w x → OpAt x (ra.add (k * 6)) (opAt l k) := fun x hb => (hops k _ (opAt_some hkl)).grow hb
            have A := HA _ X.below
            have fk := (fit k hkl).rng
            have zk := A.c0
            have zr := A.c1
            by_cases h3 : (opAt l k).kind = 3
            · have hr3 := rng3 fk h3
              obtain ⟨q, hr⟩ : ∃ q : Nat, (opAt l k).r = q := ⟨(opAt l k).r.toNat, by omega⟩
              have hq : q < 31 := by omega
              have hqi : (q : Int) < 31 := by omega
              have hU := U.setx h3 hr hq
              rw [h3] at zk
              clear zr A
              go_upto_region 21 with fail
              have hst : Ph (KpW w pc words el (.slice (some ra) l.length cap) c b1 b2 t14 d) (KpW w pc words el (.slice (some ra) l.length cap) c b1 b2 t14 { d with x := d.x.set q c.x[q] }) 0 _ := X.grow (below_dr _)
              refine Chn.wp_region_chainL (Ph (KpW w pc words el (.slice (some ra) l.length cap) c b1 b2 t14 d) (KpW w pc words el (.slice (some ra) l.length cap) c b1 b2 t14 { d with x := d.x.set q c.x[q] })) [17] [1, 0, 1, 1, 1, 0, 1, 0, 1, 1, 1, 0, 1, 1, 0, 1, 1, 1] [ptr b1 3, (.slice (some ra) l.length cap), vI (k : Int), .pointer (some (ra.add (k * 6))), .pointer (some ⟨(ra.add (k * 6)).block, (ra.add (k * 6)).off + 1, none⟩), vI (q : Int), ptr b1 3, (.slice (some ra) l.length cap), vI (k : Int), .pointer (some (ra.add (k * 6))), .pointer (some ⟨(ra.add (k * 6)).block, (ra.add (k * 6)).off + 1, none⟩), vI (q : Int), ptr b2 0, ptr b2 q, vU c.x[q], ptr t14 0, ptr t14 q, undef] (by kernel_rfl) (by kernel_rfl) (by kernel_rfl) (by kernel_rfl) (by kernel_rfl) hst ?_
              clear hst
              refine ⟨fun j w1 hj hC => by exact Chn.upon_pure hC (fun F hF => by (go_simp <;> exact hF)), ?_⟩
              simp only [Act.put, List.setIfInBounds_toArray, List.set_cons_succ, List.set_cons_zero]
              refine ⟨fun j w1 hj hC => by
                obtain rfl : j = 0 := Nat.le_zero.1 hj
                have hA : (KpW w pc words el (.slice (some ra) l.length cap) c b1 b2 t14 d) w1 := hC
                have z := hA.c3
                exact Chn.upon_pure hC (fun F hF => by (go_simp <;> exact hF)), ?_⟩
              simp only [Act.put, List.setIfInBounds_toArray, List.set_cons_succ, List.set_cons_zero]
              refine ⟨fun j w1 hj hC => by exact Chn.upon_pure hC (fun F hF => by (go_simp <;> exact hF)), ?_⟩
              simp only [Act.put, List.setIfInBounds_toArray, List.set_cons_succ, List.set_cons_zero]
              refine ⟨fun j w1 hj hC => by exact Chn.upon_pure hC (fun F hF => by (go_simp <;> exact hF)), ?_⟩
              simp only [Act.put, List.setIfInBounds_toArray, List.set_cons_succ, List.set_cons_zero]
              refine ⟨fun j w1 hj hC => by exact Chn.upon_pure hC (fun F hF => by (go_simp <;> exact hF)), ?_⟩
              simp only [Act.put, List.setIfInBounds_toArray, List.set_cons_succ, List.set_cons_zero]
              refine ⟨fun j w1 hj hC => by
                obtain rfl : j = 0 := Nat.le_zero.1 hj
                have hA : (KpW w pc words el (.slice (some ra) l.length cap) c b1 b2 t14 d) w1 := hC
                have z := (HA w1 hA.below).c1
                rw [hr] at z
                exact Chn.upon_pure hC (fun F hF => by (go_simp <;> exact hF)), ?_⟩
              simp only [Act.put, List.setIfInBounds_toArray, List.set_cons_succ, List.set_cons_zero]
              refine ⟨fun j w1 hj hC => by exact Chn.upon_pure hC (fun F hF => by (go_simp <;> exact hF)), ?_⟩
              simp only [Act.put, List.setIfInBounds_toArray, List.set_cons_succ, List.set_cons_zero]
              refine ⟨fun j w1 hj hC => by
                obtain rfl : j = 0 := Nat.le_zero.1 hj
                have hA : (KpW w pc words el (.slice (some ra) l.length cap) c b1 b2 t14 d) w1 := hC
                have z := hA.c3
                exact Chn.upon_pure hC (fun F hF => by (go_simp <;> exact hF)), ?_⟩
              simp only [Act.put, List.setIfInBounds_toArray, List.set_cons_succ, List.set_cons_zero]
              refine ⟨fun j w1 hj hC => by exact Chn.upon_pure hC (fun F hF => by (go_simp <;> exact hF)), ?_⟩
              simp only [Act.put, List.setIfInBounds_toArray, List.set_cons_succ, List.set_cons_zero]
              refine ⟨fun j w1 hj hC => by exact Chn.upon_pure hC (fun F hF => by (go_simp <;> exact hF)), ?_⟩
              simp only [Act.put, List.setIfInBounds_toArray, List.set_cons_succ, List.set_cons_zero]
              refine ⟨fun j w1 hj hC => by exact Chn.upon_pure hC (fun F hF => by (go_simp <;> exact hF)), ?_⟩
              simp only [Act.put, List.setIfInBounds_toArray, List.set_cons_succ, List.set_cons_zero]
              refine ⟨fun j w1 hj hC => by
                obtain rfl : j = 0 := Nat.le_zero.1 hj
                have hA : (KpW w pc words el (.slice (some ra) l.length cap) c b1 b2 t14 d) w1 := hC
                have z := (HA w1 hA.below).c1
                rw [hr] at z
                exact Chn.upon_pure hC (fun F hF => by (go_simp <;> exact hF)), ?_⟩
              simp only [Act.put, List.setIfInBounds_toArray, List.set_cons_succ, List.set_cons_zero]
              refine ⟨fun j w1 hj hC => by exact Chn.upon_pure hC (fun F hF => by (go_simp <;> exact hF)), ?_⟩
              simp only [Act.put, List.setIfInBounds_toArray, List.set_cons_succ, List.set_cons_zero]
              refine ⟨fun j w1 hj hC => by exact Chn.upon_pure hC (fun F hF => by (go_simp <;> exact hF)), ?_⟩
              simp only [Act.put, List.setIfInBounds_toArray, List.set_cons_succ, List.set_cons_zero]
              refine ⟨fun j w1 hj hC => by
                obtain rfl : j = 0 := Nat.le_zero.1 hj
                have hA : (KpW w pc words el (.slice (some ra) l.length cap) c b1 b2 t14 d) w1 := hC
                have z := (hA.cc q).trans (Cor.atX c q hq)
                exact Chn.upon_pure hC (fun F hF => by (go_simp <;> exact hF)), ?_⟩
              simp only [Act.put, List.setIfInBounds_toArray, List.set_cons_succ, List.set_cons_zero]
              refine ⟨fun j w1 hj hC => by exact Chn.upon_pure hC (fun F hF => by (go_simp <;> exact hF)), ?_⟩
              simp only [Act.put, List.setIfInBounds_toArray, List.set_cons_succ, List.set_cons_zero]
              refine ⟨fun j w1 hj hC => by exact Chn.upon_pure hC (fun F hF => by (go_simp <;> exact hF)), ?_⟩
              simp only [Act.put, List.setIfInBounds_toArray, List.set_cons_succ, List.set_cons_zero]
              refine ⟨fun w1 hC => by
                have hA : (KpW w pc words el (.slice (some ra) l.length cap) c b1 b2 t14 d) w1 := hC
                exact chn_store 22 _ _ rfl t14 q rfl _ rfl (run_cell _ 22 t14 q _ _ inf22 rfl rfl ((hA.cd q).trans (Cor.atX d q hq)) (hA.fz q)) (hA.put (Cor.setX d q _ hq)), ?_⟩
              simp only [Act.put, List.setIfInBounds_toArray, List.set_cons_succ, List.set_cons_zero]
              intro w5 hC
              have hC : (KpW w pc words el (.slice (some ra) l.length cap) c b1 b2 t14 { d with x := d.x.set q c.x[q] }) w5 := hC
              go_wp2
              go_roundw
              case rel => exact ⟨k + 1, _, by omega, by simp, hU, hpc2, hC⟩
              case measure => simp [intOf]; omega
            · by_cases h5 : (opAt l k).kind = 5
              · rw [h5] at zk
                clear zr A
                rcases he with he | he
                · subst he
                  have hU := U.set_s0 h5 rfl
                  go_upto_region 23 with fail
                  have hst : Ph (KpW w pc words 0 (.slice (some ra) l.length cap) c b1 b2 t14 d) (KpW w pc words 0 (.slice (some ra) l.length cap) c b1 b2 t14 { d with sp0 := c.sp0 }) 0 _ := X.grow (below_dr _)
                  refine Chn.wp_region_chainL (Ph (KpW w pc words 0 (.slice (some ra) l.length cap) c b1 b2 t14 d) (KpW w pc words 0 (.slice (some ra) l.length cap) c b1 b2 t14 { d with sp0 := c.sp0 })) [9] [1, 0, 1, 0, 1, 1, 0, 1, 1, 1] [ptr b1 2, vI 0, ptr b1 2, vI 0, ptr b2 31, ptr b2 31, vU c.sp0, ptr t14 31, ptr t14 31, undef] (by kernel_rfl) (by kernel_rfl) (by kernel_rfl) (by kernel_rfl) (by kernel_rfl) hst ?_
                  clear hst
                  refine ⟨fun j w1 hj hC => by exact Chn.upon_pure hC (fun F hF => by (go_simp <;> exact hF)), ?_⟩
                  simp only [Act.put, List.setIfInBounds_toArray, List.set_cons_succ, List.set_cons_zero]
                  refine ⟨fun j w1 hj hC => by
                    obtain rfl : j = 0 := Nat.le_zero.1 hj
                    have hA : (KpW w pc words 0 (.slice (some ra) l.length cap) c b1 b2 t14 d) w1 := hC
                    have z := hA.c2
                    exact Chn.upon_pure hC (fun F hF => by (go_simp <;> exact hF)), ?_⟩
                  simp only [Act.put, List.setIfInBounds_toArray, List.set_cons_succ, List.set_cons_zero]
                  refine ⟨fun j w1 hj hC => by exact Chn.upon_pure hC (fun F hF => by (go_simp <;> exact hF)), ?_⟩
                  simp only [Act.put, List.setIfInBounds_toArray, List.set_cons_succ, List.set_cons_zero]
                  refine ⟨fun j w1 hj hC => by
                    obtain rfl : j = 0 := Nat.le_zero.1 hj
                    have hA : (KpW w pc words 0 (.slice (some ra) l.length cap) c b1 b2 t14 d) w1 := hC
                    have z := hA.c2
                    exact Chn.upon_pure hC (fun F hF => by (go_simp <;> exact hF)), ?_⟩
                  simp only [Act.put, List.setIfInBounds_toArray, List.set_cons_succ, List.set_cons_zero]
                  refine ⟨fun j w1 hj hC => by exact Chn.upon_pure hC (fun F hF => by (go_simp <;> exact hF)), ?_⟩
                  simp only [Act.put, List.setIfInBounds_toArray, List.set_cons_succ, List.set_cons_zero]
                  refine ⟨fun j w1 hj hC => by exact Chn.upon_pure hC (fun F hF => by (go_simp <;> exact hF)), ?_⟩
                  simp only [Act.put, List.setIfInBounds_toArray, List.set_cons_succ, List.set_cons_zero]
                  refine ⟨fun j w1 hj hC => by
                    obtain rfl : j = 0 := Nat.le_zero.1 hj
                    have hA : (KpW w pc words 0 (.slice (some ra) l.length cap) c b1 b2 t14 d) w1 := hC
                    have z := (hA.cc 31).trans (Cor.a31 c)
                    exact Chn.upon_pure hC (fun F hF => by (go_simp <;> exact hF)), ?_⟩
                  simp only [Act.put, List.setIfInBounds_toArray, List.set_cons_succ, List.set_cons_zero]
                  refine ⟨fun j w1 hj hC => by exact Chn.upon_pure hC (fun F hF => by (go_simp <;> exact hF)), ?_⟩
                  simp only [Act.put, List.setIfInBounds_toArray, List.set_cons_succ, List.set_cons_zero]
                  refine ⟨fun j w1 hj hC => by exact Chn.upon_pure hC (fun F hF => by (go_simp <;> exact hF)), ?_⟩
                  simp only [Act.put, List.setIfInBounds_toArray, List.set_cons_succ, List.set_cons_zero]
                  refine ⟨fun w1 hC => by
                    have hA : (KpW w pc words 0 (.slice (some ra) l.length cap) c b1 b2 t14 d) w1 := hC
                    exact chn_store 22 _ _ rfl t14 31 rfl _ rfl (run_cell _ 22 t14 31 _ _ inf22 rfl rfl ((hA.cd 31).trans (Cor.a31 d)) (hA.fz 31)) (hA.put (cset31 d _)), ?_⟩
                  simp only [Act.put, List.setIfInBounds_toArray, List.set_cons_succ, List.set_cons_zero]
                  intro w5 hC
                  have hC : (KpW w pc words 0 (.slice (some ra) l.length cap) c b1 b2 t14 { d with sp0 := c.sp0 }) w5 := hC
                  go_wp2
                  go_roundw
                  case rel => exact ⟨k + 1, _, by omega, by simp, hU, hpc2, hC⟩
                  case measure => simp [intOf]; omega
                · subst he
                  have hU := U.set_s1 h5 rfl
                  go_upto_region 23 with fail
                  have hst : Ph (KpW w pc words 1 (.slice (some ra) l.length cap) c b1 b2 t14 d) (KpW w pc words 1 (.slice (some ra) l.length cap) c b1 b2 t14 { d with sp1 := c.sp1 }) 0 _ := X.grow (below_dr _)
                  refine Chn.wp_region_chainL (Ph (KpW w pc words 1 (.slice (some ra) l.length cap) c b1 b2 t14 d) (KpW w pc words 1 (.slice (some ra) l.length cap) c b1 b2 t14 { d with sp1 := c.sp1 })) [9] [1, 0, 1, 0, 1, 1, 0, 1, 1, 1] [ptr b1 2, vI 1, ptr b1 2, vI 1, ptr b2 31, ptr b2 32, vU c.sp1, ptr t14 31, ptr t14 32, undef] (by kernel_rfl) (by kernel_rfl) (by kernel_rfl) (by kernel_rfl) (by kernel_rfl) hst ?_
                  clear hst
                  refine ⟨fun j w1 hj hC => by exact Chn.upon_pure hC (fun F hF => by (go_simp <;> exact hF)), ?_⟩
                  simp only [Act.put, List.setIfInBounds_toArray, List.set_cons_succ, List.set_cons_zero]
                  refine ⟨fun j w1 hj hC => by
                    obtain rfl : j = 0 := Nat.le_zero.1 hj
                    have hA : (KpW w pc words 1 (.slice (some ra) l.length cap) c b1 b2 t14 d) w1 := hC
                    have z := hA.c2
                    exact Chn.upon_pure hC (fun F hF => by (go_simp <;> exact hF)), ?_⟩
                  simp only [Act.put, List.setIfInBounds_toArray, List.set_cons_succ, List.set_cons_zero]
                  refine ⟨fun j w1 hj hC => by exact Chn.upon_pure hC (fun F hF => by (go_simp <;> exact hF)), ?_⟩
                  simp only [Act.put, List.setIfInBounds_toArray, List.set_cons_succ, List.set_cons_zero]
                  refine ⟨fun j w1 hj hC => by
                    obtain rfl : j = 0 := Nat.le_zero.1 hj
                    have hA : (KpW w pc words 1 (.slice (some ra) l.length cap) c b1 b2 t14 d) w1 := hC
                    have z := hA.c2
                    exact Chn.upon_pure hC (fun F hF => by (go_simp <;> exact hF)), ?_⟩
                  simp only [Act.put, List.setIfInBounds_toArray, List.set_cons_succ, List.set_cons_zero]
                  refine ⟨fun j w1 hj hC => by exact Chn.upon_pure hC (fun F hF => by (go_simp <;> exact hF)), ?_⟩
                  simp only [Act.put, List.setIfInBounds_toArray, List.set_cons_succ, List.set_cons_zero]
                  refine ⟨fun j w1 hj hC => by exact Chn.upon_pure hC (fun F hF => by (go_simp <;> exact hF)), ?_⟩
                  simp only [Act.put, List.setIfInBounds_toArray, List.set_cons_succ, List.set_cons_zero]
                  refine ⟨fun j w1 hj hC => by
                    obtain rfl : j = 0 := Nat.le_zero.1 hj
                    have hA : (KpW w pc words 1 (.slice (some ra) l.length cap) c b1 b2 t14 d) w1 := hC
                    have z := (hA.cc 32).trans (Cor.a32 c)
                    exact Chn.upon_pure hC (fun F hF => by (go_simp <;> exact hF)), ?_⟩
                  simp only [Act.put, List.setIfInBounds_toArray, List.set_cons_succ, List.set_cons_zero]
                  refine ⟨fun j w1 hj hC => by exact Chn.upon_pure hC (fun F hF => by (go_simp <;> exact hF)), ?_⟩
                  simp only [Act.put, List.setIfInBounds_toArray, List.set_cons_succ, List.set_cons_zero]
                  refine ⟨fun j w1 hj hC => by exact Chn.upon_pure hC (fun F hF => by (go_simp <;> exact hF)), ?_⟩
                  simp only [Act.put, List.setIfInBounds_toArray, List.set_cons_succ, List.set_cons_zero]
                  refine ⟨fun w1 hC => by
                    have hA : (KpW w pc words 1 (.slice (some ra) l.length cap) c b1 b2 t14 d) w1 := hC
                    exact chn_store 22 _ _ rfl t14 32 rfl _ rfl (run_cell _ 22 t14 32 _ _ inf22 rfl rfl ((hA.cd 32).trans (Cor.a32 d)) (hA.fz 32)) (hA.put (cset32 d _)), ?_⟩
                  simp only [Act.put, List.setIfInBounds_toArray, List.set_cons_succ, List.set_cons_zero]
                  intro w5 hC
                  have hC : (KpW w pc words 1 (.slice (some ra) l.length cap) c b1 b2 t14 { d with sp1 := c.sp1 }) w5 := hC
                  go_wp2
                  go_roundw
                  case rel => exact ⟨k + 1, _, by omega, by simp, hU, hpc2, hC⟩
                  case measure => simp [intOf]; omega
              · by_cases h7 : (opAt l k).kind = 7
                · have hr7 := rng7 fk h7
                  rw [h7] at zk
                  have hrr : (opAt l k).r = 0 ∨ (opAt l k).r = 1 ∨ (opAt l k).r = 2 ∨ (opAt l k).r = 3 := by omega
                  rcases hrr with hr | hr | hr | hr
                  · rw [hr] at zr
                    have hU := U.set_n h7 hr
                    have y1 : wr.cell? ⟨b2, 34, none⟩ = some (.bool c.n) := (X.cc 34).trans (Cor.a34 c)
                    have y2 : wr.cell? ⟨t14, 34, none⟩ = some (.bool d.n) := (X.cd 34).trans (Cor.a34 d)
                    have y3 := X.fz 34
                    have hC := X.put (cset34 d c.n)
                    clear HA A
                    go_wp2
                    go_roundw
                    case rel => exact ⟨k + 1, _, by omega, by simp, hU, hpc2, hC⟩
                    case measure => simp [intOf]; omega
                  · rw [hr] at zr
                    have hU := U.set_z h7 hr
                    have y1 : wr.cell? ⟨b2, 35, none⟩ = some (.bool c.z) := (X.cc 35).trans (Cor.a35 c)
                    have y2 : wr.cell? ⟨t14, 35, none⟩ = some (.bool d.z) := (X.cd 35).trans (Cor.a35 d)
                    have y3 := X.fz 35
                    have hC := X.put (cset35 d c.z)
                    clear HA A
                    go_wp2
                    go_roundw
                    case rel => exact ⟨k + 1, _, by omega, by simp, hU, hpc2, hC⟩
                    case measure => simp [intOf]; omega
                  · rw [hr] at zr
                    have hU := U.set_c h7 hr
                    have y1 : wr.cell? ⟨b2, 36, none⟩ = some (.bool c.c) := (X.cc 36).trans (Cor.a36 c)
                    have y2 : wr.cell? ⟨t14, 36, none⟩ = some (.bool d.c) := (X.cd 36).trans (Cor.a36 d)
                    have y3 := X.fz 36
                    have hC := X.put (cset36 d c.c)
                    clear HA A
                    go_wp2
                    go_roundw
                    case rel => exact ⟨k + 1, _, by omega, by simp, hU, hpc2, hC⟩
                    case measure => simp [intOf]; omega
                  · rw [hr] at zr
                    have hU := U.set_v h7 hr
                    have y1 : wr.cell? ⟨b2, 37, none⟩ = some (.bool c.v) := (X.cc 37).trans (Cor.a37 c)
                    have y2 : wr.cell? ⟨t14, 37, none⟩ = some (.bool d.v) := (X.cd 37).trans (Cor.a37 d)
                    have y3 := X.fz 37
                    have hC := X.put (cset37 d c.v)
                    clear HA A
                    go_wp2
                    go_roundw
                    case rel => exact ⟨k + 1, _, by omega, by simp, hU, hpc2, hC⟩
                    case measure => simp [intOf]; omega
                · have hU := U.no h3 h5 h7
                  have hC := X
                  go_wp2
                  go_roundw
                  case rel => exact ⟨k + 1, _, by omega, by simp, hU, hpc2, hC⟩
                  case measure => simp [intOf]; omega
          · have hke : k = l.length := by omega
            have hdc : d = c := by rw [hke] at U; exact U.end_ hpc2
            subst hdc
            go_wp2_with (first | ((with_reducible refine wpList_load_if rfl 29 _ rfl _ rfl 29 _ (0, 0) _ X.d Tryd.underlying29 rfl (Cor.info _) ?_); simp only [Act.put, List.setIfInBounds_toArray, List.set_cons_succ, List.set_cons_zero]) | ((with_reducible refine wpList_load_if rfl 29 _ rfl _ rfl 29 _ (0, 0) _ X.r2 Tryd.underlying29 rfl (Cor.info _) ?_); simp only [Act.put, List.setIfInBounds_toArray, List.set_cons_succ, List.set_cons_zero]) | ((refine wpList_eql_core rfl _ _ rfl d d rfl rfl true (eqC_refl _) ?_); simp only [Act.put, List.setIfInBounds_toArray, List.set_cons_succ, List.set_cons_zero]))
            go_ret
            exact ⟨rfl, X.below⟩
      | true =>
        rw [hgo] at k8

        go_upto_region 9 with (first | (go_at_call 8; (with_reducible refine k8.mono ?_); clear k8; rintro e w12 ⟨rfl, R⟩; dsimp only; have H := has_none w12) | ((with_reducible refine wpList_store_new H rfl 38 _ _ rfl (wnA T.w) rfl rfl (wn_inf _) (by kernel_rfl) (wn_one _) ?_); clear H; intro w13 H; try simp only [Act.put]))
        replace hB := (R.low hB hw1 hw2)
        replace b1r := keepRow (R.kept b1r (ne_of_type b1r P.top (by decide)) (ne_of_type b1r P.vals (by decide))) H.below
        replace b2r := keepRow (R.kept b2r (ne_of_type b2r P.top (by decide)) (ne_of_type b2r P.vals (by decide))) H.below
        replace P := R.1.grow H.below
        replace hB := below_then hB (Nat.le_refl _) H.below
        clear H R
        go_upto_region 10 with fail
        have H := has_none w13
        have hlo17 := hB.size
        have y1 := P.lt
        have y2 := P.ltv
        have y3 : ∀ k, so.ownBlock = some k → k < w13.heap.size := fun k hk => (P.ob hk).1
        have y7 := lt_of_some b1r
        have y8 := lt_of_some b2r
        clear hgo
        go_upto_region 11 with (first | ((with_reducible refine wpList_store_new H rfl 44 _ _ rfl (gtA ⟨0, false, 0⟩) rfl rfl (gt_inf _) (by kernel_rfl) (gt_one _) ?_); clear H; intro w24 H; try simp only [Act.put]))
        replace b1r := keepRow b1r H.below
        replace b2r := keepRow b2r H.below
        replace P := P.grow H.below
        replace hB := below_then hB (Nat.le_refl _) H.below
        have r17 := H.get List.mem_cons_self
        generalize w13.heap.size = t17 at *
        clear H
        by_cases hi : (k : Int) < z.length
        · obtain ⟨rz, zc', ez, hcz⟩ := (G.grow hB).cell (by omega)
          cases ez
          have hi2 : k < z.length := by omega
          have A := hcz k _ (List.getElem?_eq_getElem hi2)
          have hU := G.ok _ (List.getElem_mem hi2)
          generalize z[k] = t at A hU
          clear hcz
          go_upto_region 13 with (first | ((with_reducible refine wpList_load44 rfl _ rfl _ rfl t A ?_); simp only [Act.put, List.setIfInBounds_toArray, List.set_cons_succ, List.set_cons_zero]) | ((with_reducible refine wpList_store_row rfl 44 _ _ rfl t17 (gtA t) rfl rfl 44 _ r17 (gt_inf _) rfl (gt_one _) ?_); try simp only [Act.put]))
          replace b1r : (w24.setRow t17 (gtA t)).heap[b1]? = some (.cells (blA pc words el (.slice (some ra) l.length cap)) 25) := by rw [setRow_other _ _ _ _ (by omega)]; exact b1r
          replace b2r : (w24.setRow t17 (gtA t)).heap[b2]? = some (.cells c.cells 29) := by rw [setRow_other _ _ _ _ (by omega)]; exact b2r
          replace P := P.rowK (d := gtA t) y1 y2 y3
          replace hB := below_setRow (cs := gtA t) hB hlo17
          replace r17 : (w24.setRow t17 (gtA t)).heap[t17]? = some (.cells (gtA t) 44) := setRow_heap _ _ _ _ _ _ r17
          generalize w24.setRow t17 (gtA t) = w24' at *
          clear A
          go_wp2_with (first | ((with_reducible refine wpList_load_if rfl 44 _ rfl _ rfl 44 _ (0, 0) _ r17 Tryd.underlying44 rfl (gt_inf _) ?_); simp only [Act.put, List.setIfInBounds_toArray, List.set_cons_succ, List.set_cons_zero]) | (go_at_call 9; (with_reducible refine (take_c P t hU J.g4 J.g1 J.le).mono ?_); rintro e w25 ⟨rfl, R⟩; dsimp only; replace hB := R.low hB hw1 hw2; replace b1r := R.kept b1r (ne_of_type b1r P.top (by decide)) (ne_of_type b1r P.vals (by decide)); replace b2r := R.kept b2r (ne_of_type b2r P.top (by decide)) (ne_of_type b2r P.vals (by decide)); replace P := R.1; clear R))
          go_roundw
          case rel => exact ⟨k + 1, takeV l.length T t, by omega, by simp, P, take_inv J t, by rw [take_cor]; exact U, hB, b1r, b2r⟩
          case measure => simp [intOf]; omega
        · generalize ht : (⟨0, false, 0⟩ : Gt) = t at *
          have hU : U64 t.value := by rw [← ht]; exact ⟨by decide, by decide⟩
          clear ht
          go_wp2_with (first | ((with_reducible refine wpList_load_if rfl 44 _ rfl _ rfl 44 _ (0, 0) _ r17 Tryd.underlying44 rfl (gt_inf _) ?_); simp only [Act.put, List.setIfInBounds_toArray, List.set_cons_succ, List.set_cons_zero]) | (go_at_call 9; (with_reducible refine (take_c P t hU J.g4 J.g1 J.le).mono ?_); rintro e w25 ⟨rfl, R⟩; dsimp only; replace hB := R.low hB hw1 hw2; replace b1r := R.kept b1r (ne_of_type b1r P.top (by decide)) (ne_of_type b1r P.vals (by decide)); replace b2r := R.kept b2r (ne_of_type b2r P.top (by decide)) (ne_of_type b2r P.vals (by decide)); replace P := R.1; clear R))
          go_roundw
          case rel => exact ⟨k + 1, takeV l.length T t, by omega, by simp, P, take_inv J t, by rw [take_cor]; exact U, hB, b1r, b2r⟩
          case measure => simp [intOf]; omega
    · go_upto_region 14 with fail
      clear z3 I hlt
      have H := has_none wr
      have kC := core_c P
      go_upto_region 15 with (first | (go_at_call 10; (with_reducible refine kC.mono ?_); clear kC; rintro e w40 ⟨rfl, B⟩; dsimp only; replace hB := below_then hB (Nat.le_refl _) B; replace b1r := keepRow b1r B; replace b2r := keepRow b2r B; clear B H; have H := has_none w40) | ((refine wpList_store_new H rfl 29 _ _ rfl S.c.cells rfl rfl (Cor.info _) (by rw [Cor.size]; kernel_rfl) (Cor.one _) ?_); clear H; intro w41 H; try simp only [Act.put]))
      have X0 : KpW w pc words el (.slice (some ra) l.length cap) c b1 b2 w40.heap.size S.c w41 := ⟨keepRow b1r H.below, keepRow b2r H.below, H.get List.mem_cons_self, below_then hB (Nat.le_refl _) H.below, Nat.ne_of_lt (lt_of_some b1r), Nat.ne_of_lt (lt_of_some b2r), hB.size⟩
      generalize w40.heap.size = t14 at *
      clear H b1r b2r hB P
      have z1 : w41.cell? ⟨b2, 33, none⟩ = some (vU c.pc) := (X0.cc 33).trans (Cor.a33 c)
      have z2 : w41.cell? ⟨t14, 33, none⟩ = some (vU S.c.pc) := (X0.cd 33).trans (Cor.a33 S.c)
      have z4 := X0.fz 33
      go_upto_region 17 with fail
      have X1 := X0.put (d' := { S.c with pc := c.pc }) (cset33 S.c c.pc)
      have U1 := U.pc c.pc
      clear z1 z2 z4 X0
      generalize w41.setCell ⟨t14, 33, none⟩ (vU c.pc) = w42 at *
      have hpc1 : ({ S.c with pc := c.pc } : Cor).pc = c.pc := rfl
      generalize ({ S.c with pc := c.pc } : Cor) = d0 at *
      go_loopw [15] (fun s15 wr => ∃ (k : Nat) (d : Cor), k ≤ l.length ∧ s15 = vI k ∧ Und l el c k d ∧ d.pc = c.pc ∧ KpW w pc words el (.slice (some ra) l.length cap) c b1 b2 t14 d wr) (fun s15 _ => ((l.length : Int) - intOf s15).toNat)
      case atStart => exact ⟨0, d0, Nat.zero_le _, rfl, U1, hpc1, X1⟩
      case round =>
        clear X1 U1 hpc1
        obtain ⟨k, d, hk, rfl, U, hpc2, X⟩ := hrel
        have z3 := X.c3
        by_cases hlt : (k : Int) < l.length
        · have hkl : k < l.length := by omega
          have HA : ∀ x, Below w.heap.size w x → OpAt x (ra.add (k * 6)) (opAt l k) := fun x hb => (hops k _ (opAt_some hkl)).grow hb
          have A := HA _ X.below
          have fk := (fit k hkl).rng
          have zk := A.c0
          have zr := A.c1
          by_cases h3 : (opAt l k).kind = 3
          · have hr3 := rng3 fk h3
            obtain ⟨q, hr⟩ : ∃ q : Nat, (opAt l k).r = q := ⟨(opAt l k).r.toNat, by omega⟩
            have hq : q < 31 := by omega
            have hqi : (q : Int) < 31 := by omega
            have hU := U.setx h3 hr hq
            rw [h3] at zk
            clear zr A
            go_upto_region 21 with fail
            have hst : Ph (KpW w pc words el (.slice (some ra) l.length cap) c b1 b2 t14 d) (KpW w pc words el (.slice (some ra) l.length cap) c b1 b2 t14 { d with x := d.x.set q c.x[q] }) 0 _ := X.grow (below_dr _)
            refine Chn.wp_region_chainL (Ph (KpW w pc words el (.slice (some ra) l.length cap) c b1 b2 t14 d) (KpW w pc words el (.slice (some ra) l.length cap) c b1 b2 t14 { d with x := d.x.set q c.x[q] })) [17] [1, 0, 1, 1, 1, 0, 1, 0, 1, 1, 1, 0, 1, 1, 0, 1, 1, 1] [ptr b1 3, (.slice (some ra) l.length cap), vI (k : Int), .pointer (some (ra.add (k * 6))), .pointer (some ⟨(ra.add (k * 6)).block, (ra.add (k * 6)).off + 1, none⟩), vI (q : Int), ptr b1 3, (.slice (some ra) l.length cap), vI (k : Int), .pointer (some (ra.add (k * 6))), .pointer (some ⟨(ra.add (k * 6)).block, (ra.add (k * 6)).off + 1, none⟩), vI (q : Int), ptr b2 0, ptr b2 q, vU c.x[q], ptr t14 0, ptr t14 q, undef] (by kernel_rfl) (by kernel_rfl) (by kernel_rfl) (by kernel_rfl) (by kernel_rfl) hst ?_
            clear hst
            refine ⟨fun j w1 hj hC => by exact Chn.upon_pure hC (fun F hF => by (go_simp <;> exact hF)), ?_⟩
            simp only [Act.put, List.setIfInBounds_toArray, List.set_cons_succ, List.set_cons_zero]
            refine ⟨fun j w1 hj hC => by
              obtain rfl : j = 0 := Nat.le_zero.1 hj
              have hA : (KpW w pc words el (.slice (some ra) l.length cap) c b1 b2 t14 d) w1 := hC
              have z := hA.c3
              exact Chn.upon_pure hC (fun F hF => by (go_simp <;> exact hF)), ?_⟩
            simp only [Act.put, List.setIfInBounds_toArray, List.set_cons_succ, List.set_cons_zero]
            refine ⟨fun j w1 hj hC => by exact Chn.upon_pure hC (fun F hF => by (go_simp <;> exact hF)), ?_⟩
            simp only [Act.put, List.setIfInBounds_toArray, List.set_cons_succ, List.set_cons_zero]
            refine ⟨fun j w1 hj hC => by exact Chn.upon_pure hC (fun F hF => by (go_simp <;> exact hF)), ?_⟩
            simp only [Act.put, List.setIfInBounds_toArray, List.set_cons_succ, List.set_cons_zero]
            refine ⟨fun j w1 hj hC => by exact Chn.upon_pure hC (fun F hF => by (go_simp <;> exact hF)), ?_⟩
            simp only [Act.put, List.setIfInBounds_toArray, List.set_cons_succ, List.set_cons_zero]
            refine ⟨fun j w1 hj hC => by
              obtain rfl : j = 0 := Nat.le_zero.1 hj
              have hA : (KpW w pc words el (.slice (some ra) l.length cap) c b1 b2 t14 d) w1 := hC
              have z := (HA w1 hA.below).c1
              rw [hr] at z
              exact Chn.upon_pure hC (fun F hF => by (go_simp <;> exact hF)), ?_⟩
            simp only [Act.put, List.setIfInBounds_toArray, List.set_cons_succ, List.set_cons_zero]
            refine ⟨fun j w1 hj hC => by exact Chn.upon_pure hC (fun F hF => by (go_simp <;> exact hF)), ?_⟩
            simp only [Act.put, List.setIfInBounds_toArray, List.set_cons_succ, List.set_cons_zero]
            refine ⟨fun j w1 hj hC => by
              obtain rfl : j = 0 := Nat.le_zero.1 hj
              have hA : (KpW w pc words el (.slice (some ra) l.length cap) c b1 b2 t14 d) w1 := hC
              have z := hA.c3
              exact Chn.upon_pure hC (fun F hF => by (go_simp <;> exact hF)), ?_⟩
            simp only [Act.put, List.setIfInBounds_toArray, List.set_cons_succ, List.set_cons_zero]
            refine ⟨fun j w1 hj hC => by exact Chn.upon_pure hC (fun F hF => by (go_simp <;> exact hF)), ?_⟩
            simp only [Act.put, List.setIfInBounds_toArray, List.set_cons_succ, List.set_cons_zero]
            refine ⟨fun j w1 hj hC => by exact Chn.upon_pure hC (fun F hF => by (go_simp <;> exact hF)), ?_⟩
            simp only [Act.put, List.setIfInBounds_toArray, List.set_cons_succ, List.set_cons_zero]
            refine ⟨fun j w1 hj hC => by exact Chn.upon_pure hC (fun F hF => by (go_simp <;> exact hF)), ?_⟩
            simp only [Act.put, List.setIfInBounds_toArray, List.set_cons_succ, List.set_cons_zero]
            refine ⟨fun j w1 hj hC => by
              obtain rfl : j = 0 := Nat.le_zero.1 hj
              have hA : (KpW w pc words el (.slice (some ra) l.length cap) c b1 b2 t14 d) w1 := hC
              have z := (HA w1 hA.below).c1
              rw [hr] at z
              exact Chn.upon_pure hC (fun F hF => by (go_simp <;> exact hF)), ?_⟩
            simp only [Act.put, List.setIfInBounds_toArray, List.set_cons_succ, List.set_cons_zero]
            refine ⟨fun j w1 hj hC => by exact Chn.upon_pure hC (fun F hF => by (go_simp <;> exact hF)), ?_⟩
            simp only [Act.put, List.setIfInBounds_toArray, List.set_cons_succ, List.set_cons_zero]
            refine ⟨fun j w1 hj hC => by exact Chn.upon_pure hC (fun F hF => by (go_simp <;> exact hF)), ?_⟩
            simp only [Act.put, List.setIfInBounds_toArray, List.set_cons_succ, List.set_cons_zero]
            refine ⟨fun j w1 hj hC => by
              obtain rfl : j = 0 := Nat.le_zero.1 hj
              have hA : (KpW w pc words el (.slice (some ra) l.length cap) c b1 b2 t14 d) w1 := hC
              have z := (hA.cc q).trans (Cor.atX c q hq)
              exact Chn.upon_pure hC (fun F hF => by (go_simp <;> exact hF)), ?_⟩
            simp only [Act.put, List.setIfInBounds_toArray, List.set_cons_succ, List.set_cons_zero]
            refine ⟨fun j w1 hj hC => by exact Chn.upon_pure hC (fun F hF => by (go_simp <;> exact hF)), ?_⟩
            simp only [Act.put, List.setIfInBounds_toArray, List.set_cons_succ, List.set_cons_zero]
            refine ⟨fun j w1 hj hC => by exact Chn.upon_pure hC (fun F hF => by (go_simp <;> exact hF)), ?_⟩
            simp only [Act.put, List.setIfInBounds_toArray, List.set_cons_succ, List.set_cons_zero]
            refine ⟨fun w1 hC => by
              have hA : (KpW w pc words el (.slice (some ra) l.length cap) c b1 b2 t14 d) w1 := hC
              exact chn_store 22 _ _ rfl t14 q rfl _ rfl (run_cell _ 22 t14 q _ _ inf22 rfl rfl ((hA.cd q).trans (Cor.atX d q hq)) (hA.fz q)) (hA.put (Cor.setX d q _ hq)), ?_⟩
            simp only [Act.put, List.setIfInBounds_toArray, List.set_cons_succ, List.set_cons_zero]
            intro w5 hC
            have hC : (KpW w pc words el (.slice (some ra) l.length cap) c b1 b2 t14 { d with x := d.x.set q c.x[q] }) w5 := hC
            go_wp2
            go_roundw
            case rel => exact ⟨k + 1, _, by omega, by simp, hU, hpc2, hC⟩
            case measure => simp [intOf]; omega
          · by_cases h5 : (opAt l k).kind = 5
            · rw [h5] at zk
              clear zr A
              rcases he with he | he
              · subst he
                have hU := U.set_s0 h5 rfl
                go_upto_region 23 with fail
                have hst : Ph (KpW w pc words 0 (.slice (some ra) l.length cap) c b1 b2 t14 d) (KpW w pc words 0 (.slice (some ra) l.length cap) c b1 b2 t14 { d with sp0 := c.sp0 }) 0 _ := X.grow (below_dr _)
                refine Chn.wp_region_chainL (Ph (KpW w pc words 0 (.slice (some ra) l.length cap) c b1 b2 t14 d) (KpW w pc words 0 (.slice (some ra) l.length cap) c b1 b2 t14 { d with sp0 := c.sp0 })) [9] [1, 0, 1, 0, 1, 1, 0, 1, 1, 1] [ptr b1 2, vI 0, ptr b1 2, vI 0, ptr b2 31, ptr b2 31, vU c.sp0, ptr t14 31, ptr t14 31, undef] (by kernel_rfl) (by kernel_rfl) (by kernel_rfl) (by kernel_rfl) (by kernel_rfl) hst ?_
                clear hst
                refine ⟨fun j w1 hj hC => by exact Chn.upon_pure hC (fun F hF => by (go_simp <;> exact hF)), ?_⟩
                simp only [Act.put, List.setIfInBounds_toArray, List.set_cons_succ, List.set_cons_zero]
                refine ⟨fun j w1 hj hC => by
                  obtain rfl : j = 0 := Nat.le_zero.1 hj
                  have hA : (KpW w pc words 0 (.slice (some ra) l.length cap) c b1 b2 t14 d) w1 := hC
                  have z := hA.c2
                  exact Chn.upon_pure hC (fun F hF => by (go_simp <;> exact hF)), ?_⟩
                simp only [Act.put, List.setIfInBounds_toArray, List.set_cons_succ, List.set_cons_zero]
                refine ⟨fun j w1 hj hC => by exact Chn.upon_pure hC (fun F hF => by (go_simp <;> exact hF)), ?_⟩
                simp only [Act.put, List.setIfInBounds_toArray, List.set_cons_succ, List.set_cons_zero]
                refine ⟨fun j w1 hj hC => by
                  obtain rfl : j = 0 := Nat.le_zero.1 hj
                  have hA : (KpW w pc words 0 (.slice (some ra) l.length cap) c b1 b2 t14 d) w1 := hC
                  have z := hA.c2
                  exact Chn.upon_pure hC (fun F hF => by (go_simp <;> exact hF)), ?_⟩
                simp only [Act.put, List.setIfInBounds_toArray, List.set_cons_succ, List.set_cons_zero]
                refine ⟨fun j w1 hj hC => by exact Chn.upon_pure hC (fun F hF => by (go_simp <;> exact hF)), ?_⟩
                simp only [Act.put, List.setIfInBounds_toArray, List.set_cons_succ, List.set_cons_zero]
                refine ⟨fun j w1 hj hC => by exact Chn.upon_pure hC (fun F hF => by (go_simp <;> exact hF)), ?_⟩
                simp only [Act.put, List.setIfInBounds_toArray, List.set_cons_succ, List.set_cons_zero]
                refine ⟨fun j w1 hj hC => by
                  obtain rfl : j = 0 := Nat.le_zero.1 hj
                  have hA : (KpW w pc words 0 (.slice (some ra) l.length cap) c b1 b2 t14 d) w1 := hC
                  have z := (hA.cc 31).trans (Cor.a31 c)
                  exact Chn.upon_pure hC (fun F hF => by (go_simp <;> exact hF)), ?_⟩
                simp only [Act.put, List.setIfInBounds_toArray, List.set_cons_succ, List.set_cons_zero]
                refine ⟨fun j w1 hj hC => by exact Chn.upon_pure hC (fun F hF => by (go_simp <;> exact hF)), ?_⟩
                simp only [Act.put, List.setIfInBounds_toArray, List.set_cons_succ, List.set_cons_zero]
                refine ⟨fun j w1 hj hC => by exact Chn.upon_pure hC (fun F hF => by (go_simp <;> exact hF)), ?_⟩
                simp only [Act.put, List.setIfInBounds_toArray, List.set_cons_succ, List.set_cons_zero]
                refine ⟨fun w1 hC => by
                  have hA : (KpW w pc words 0 (.slice (some ra) l.length cap) c b1 b2 t14 d) w1 := hC
                  exact chn_store 22 _ _ rfl t14 31 rfl _ rfl (run_cell _ 22 t14 31 _ _ inf22 rfl rfl ((hA.cd 31).trans (Cor.a31 d)) (hA.fz 31)) (hA.put (cset31 d _)), ?_⟩
                simp only [Act.put, List.setIfInBounds_toArray, List.set_cons_succ, List.set_cons_zero]
                intro w5 hC
                have hC : (KpW w pc words 0 (.slice (some ra) l.length cap) c b1 b2 t14 { d with sp0 := c.sp0 }) w5 := hC
                go_wp2
                go_roundw
                case rel => exact ⟨k + 1, _, by omega, by simp, hU, hpc2, hC⟩
                case measure => simp [intOf]; omega
              · subst he
                have hU := U.set_s1 h5 rfl
                go_upto_region 23 with fail
                have hst : Ph (KpW w pc words 1 (.slice (some ra) l.length cap) c b1 b2 t14 d) (KpW w pc words 1 (.slice (some ra) l.length cap) c b1 b2 t14 { d with sp1 := c.sp1 }) 0 _ := X.grow (below_dr _)
                refine Chn.wp_region_chainL (Ph (KpW w pc words 1 (.slice (some ra) l.length cap) c b1 b2 t14 d) (KpW w pc words 1 (.slice (some ra) l.length cap) c b1 b2 t14 { d with sp1 := c.sp1 })) [9] [1, 0, 1, 0, 1, 1, 0, 1, 1, 1] [ptr b1 2, vI 1, ptr b1 2, vI 1, ptr b2 31, ptr b2 32, vU c.sp1, ptr t14 31, ptr t14 32, undef] (by kernel_rfl) (by kernel_rfl) (by kernel_rfl) (by kernel_rfl) (by kernel_rfl) hst ?_
                clear hst
                refine ⟨fun j w1 hj hC => by exact Chn.upon_pure hC (fun F hF => by (go_simp <;> exact hF)), ?_⟩
                simp only [Act.put, List.setIfInBounds_toArray, List.set_cons_succ, List.set_cons_zero]
                refine ⟨fun j w1 hj hC => by
                  obtain rfl : j = 0 := Nat.le_zero.1 hj
                  have hA : (KpW w pc words 1 (.slice (some ra) l.length cap) c b1 b2 t14 d) w1 := hC
                  have z := hA.c2
                  exact Chn.upon_pure hC (fun F hF => by (go_simp <;> exact hF)), ?_⟩
                simp only [Act.put, List.setIfInBounds_toArray, List.set_cons_succ, List.set_cons_zero]
                refine ⟨fun j w1 hj hC => by exact Chn.upon_pure hC (fun F hF => by (go_simp <;> exact hF)), ?_⟩
                simp only [Act.put, List.setIfInBounds_toArray, List.set_cons_succ, List.set_cons_zero]
                refine ⟨fun j w1 hj hC => by
                  obtain rfl : j = 0 := Nat.le_zero.1 hj
                  have hA : (KpW w pc words 1 (.slice (some ra) l.length cap) c b1 b2 t14 d) w1 := hC
                  have z := hA.c2
                  exact Chn.upon_pure hC (fun F hF => by (go_simp <;> exact hF)), ?_⟩
                simp only [Act.put, List.setIfInBounds_toArray, List.set_cons_succ, List.set_cons_zero]
                refine ⟨fun j w1 hj hC => by exact Chn.upon_pure hC (fun F hF => by (go_simp <;> exact hF)), ?_⟩
                simp only [Act.put, List.setIfInBounds_toArray, List.set_cons_succ, List.set_cons_zero]
                refine ⟨fun j w1 hj hC => by exact Chn.upon_pure hC (fun F hF => by (go_simp <;> exact hF)), ?_⟩
                simp only [Act.put, List.setIfInBounds_toArray, List.set_cons_succ, List.set_cons_zero]
                refine ⟨fun j w1 hj hC => by
                  obtain rfl : j = 0 := Nat.le_zero.1 hj
                  have hA : (KpW w pc words 1 (.slice (some ra) l.length cap) c b1 b2 t14 d) w1 := hC
                  have z := (hA.cc 32).trans (Cor.a32 c)
                  exact Chn.upon_pure hC (fun F hF => by (go_simp <;> exact hF)), ?_⟩
                simp only [Act.put, List.setIfInBounds_toArray, List.set_cons_succ, List.set_cons_zero]
                refine ⟨fun j w1 hj hC => by exact Chn.upon_pure hC (fun F hF => by (go_simp <;> exact hF)), ?_⟩
                simp only [Act.put, List.setIfInBounds_toArray, List.set_cons_succ, List.set_cons_zero]
                refine ⟨fun j w1 hj hC => by exact Chn.upon_pure hC (fun F hF => by (go_simp <;> exact hF)), ?_⟩
                simp only [Act.put, List.setIfInBounds_toArray, List.set_cons_succ, List.set_cons_zero]
                refine ⟨fun w1 hC => by
                  have hA : (KpW w pc words 1 (.slice (some ra) l.length cap) c b1 b2 t14 d) w1 := hC
                  exact chn_store 22 _ _ rfl t14 32 rfl _ rfl (run_cell _ 22 t14 32 _ _ inf22 rfl rfl ((hA.cd 32).trans (Cor.a32 d)) (hA.fz 32)) (hA.put (cset32 d _)), ?_⟩
                simp only [Act.put, List.setIfInBounds_toArray, List.set_cons_succ, List.set_cons_zero]
                intro w5 hC
                have hC : (KpW w pc words 1 (.slice (some ra) l.length cap) c b1 b2 t14 { d with sp1 := c.sp1 }) w5 := hC
                go_wp2
                go_roundw
                case rel => exact ⟨k + 1, _, by omega, by simp, hU, hpc2, hC⟩
                case measure => simp [intOf]; omega
            · by_cases h7 : (opAt l k).kind = 7
              · have hr7 := rng7 fk h7
                rw [h7] at zk
                have hrr : (opAt l k).r = 0 ∨ (opAt l k).r = 1 ∨ (opAt l k).r = 2 ∨ (opAt l k).r = 3 := by omega
                rcases hrr with hr | hr | hr | hr
                · rw [hr] at zr
                  have hU := U.set_n h7 hr
                  have y1 : wr.cell? ⟨b2, 34, none⟩ = some (.bool c.n) := (X.cc 34).trans (Cor.a34 c)
                  have y2 : wr.cell? ⟨t14, 34, none⟩ = some (.bool d.n) := (X.cd 34).trans (Cor.a34 d)
                  have y3 := X.fz 34
                  have hC := X.put (cset34 d c.n)
                  clear HA A
                  go_wp2
                  go_roundw
                  case rel => exact ⟨k + 1, _, by omega, by simp, hU, hpc2, hC⟩
                  case measure => simp [intOf]; omega
                · rw [hr] at zr
                  have hU := U.set_z h7 hr
                  have y1 : wr.cell? ⟨b2, 35, none⟩ = some (.bool c.z) := (X.cc 35).trans (Cor.a35 c)
                  have y2 : wr.cell? ⟨t14, 35, none⟩ = some (.bool d.z) := (X.cd 35).trans (Cor.a35 d)
                  have y3 := X.fz 35
                  have hC := X.put (cset35 d c.z)
                  clear HA A
                  go_wp2
                  go_roundw
                  case rel => exact ⟨k + 1, _, by omega, by simp, hU, hpc2, hC⟩
                  case measure => simp [intOf]; omega
                · rw [hr] at zr
                  have hU := U.set_c h7 hr
                  have y1 : wr.cell? ⟨b2, 36, none⟩ = some (.bool c.c) := (X.cc 36).trans (Cor.a36 c)
                  have y2 : wr.cell? ⟨t14, 36, none⟩ = some (.bool d.c) := (X.cd 36).trans (Cor.a36 d)
                  have y3 := X.fz 36
                  have hC := X.put (cset36 d c.c)
                  clear HA A
                  go_wp2
                  go_roundw
                  case rel => exact ⟨k + 1, _, by omega, by simp, hU, hpc2, hC⟩
                  case measure => simp [intOf]; omega
                · rw [hr] at zr
                  have hU := U.set_v h7 hr
                  have y1 : wr.cell? ⟨b2, 37, none⟩ = some (.bool c.v) := (X.cc 37).trans (Cor.a37 c)
                  have y2 : wr.cell? ⟨t14, 37, none⟩ = some (.bool d.v) := (X.cd 37).trans (Cor.a37 d)
                  have y3 := X.fz 37
                  have hC := X.put (cset37 d c.v)
                  clear HA A
                  go_wp2
                  go_roundw
                  case rel => exact ⟨k + 1, _, by omega, by simp, hU, hpc2, hC⟩
                  case measure => simp [intOf]; omega
              · have hU := U.no h3 h5 h7
                have hC := X
                go_wp2
                go_roundw
                case rel => exact ⟨k + 1, _, by omega, by simp, hU, hpc2, hC⟩
                case measure => simp [intOf]; omega
        · have hke : k = l.length := by omega
          have hdc : d = c := by rw [hke] at U; exact U.end_ hpc2
          subst hdc
          go_wp2_with (first | ((with_reducible refine wpList_load_if rfl 29 _ rfl _ rfl 29 _ (0, 0) _ X.d Tryd.underlying29 rfl (Cor.info _) ?_); simp only [Act.put, List.setIfInBounds_toArray, List.set_cons_succ, List.set_cons_zero]) | ((with_reducible refine wpList_load_if rfl 29 _ rfl _ rfl 29 _ (0, 0) _ X.r2 Tryd.underlying29 rfl (Cor.info _) ?_); simp only [Act.put, List.setIfInBounds_toArray, List.set_cons_succ, List.set_cons_zero]) | ((refine wpList_eql_core rfl _ _ rfl d d rfl rfl true (eqC_refl _) ?_); simp only [Act.put, List.setIfInBounds_toArray, List.set_cons_succ, List.set_cons_zero]))
          go_ret
          exact ⟨rfl, X.below⟩
end
end Go.Proofs.YtioeiogcejikbaaDoor
