/- Dq, Dk of the seat, joined. -/
import Derived.Test.YtejlmggfeejgpaaXp
import Derived.Test.YtejlmggfeejgpaaXf
import Derived.Test.YtejlmggfeejgpaaXk
import Derived.Test.YtejlmggfeejgpaaJc
/- The document's own Right and New. -/
namespace Go.Proofs.Ytejlmggfeejgpaa
open Go.RowKit
set_option linter.unusedVariables false
set_option linter.unusedSimpArgs false
set_option maxRecDepth 8000

def newD (n : Nat) (c : Cor) : Dn := ⟨c, 0, false, nilW, false, false, 0, false, List.replicate n 0⟩

theorem rightD_eq (pc words el : Int) (l : List Opr) : rightD pc words el l = rightB pc words el l := by
  unfold rightD rightB
  have e : (List.range l.length).all (okD l) = opsB l := by
    unfold opsB
    congr 1
    funext k
    exact okD_eq l k
  rw [e]
  cases h : opsB l with
  | false => simp
  | true =>
    rw [Bool.and_true, Bool.and_true]
    unfold headD headB
    by_cases hl : 1 ≤ l.length
    · have ho := ops_at h (show 0 < l.length by omega)
      unfold okAt at ho
      simp only [Bool.and_eq_true] at ho
      obtain ⟨⟨⟨hk, _⟩, hop⟩, _⟩ := ho
      have hE : ((opAt l 0).kind == 14 && (opAt l 0).imm == pc) = decide (opAt l 0 = ⟨14, 0, 0, 0, 0, pc⟩) := by
        generalize opAt l 0 = o at *
        obtain ⟨kind, r, a, b, order, imm⟩ := o
        by_cases h14 : kind = 14
        · subst h14
          unfold opB at hop
          simp [hp14_1, hp14_2, hp14_4, hp14_8, hp14_16] at hop
          obtain ⟨⟨⟨⟨q1, q2⟩, q3⟩, q4⟩, _⟩ := hop
          subst q1; subst q2; subst q3; subst q4
          rw [Bool.eq_iff_iff]
          simp
        · rw [Bool.eq_iff_iff]
          simp [h14]
      have hE2 : (decide (0 ≤ el) && decide (el ≤ 1)) = (el == 0 || el == 1) := by
        rw [Bool.eq_iff_iff]
        simp
        omega
      rw [← hE, ← hE2]
      simp only [Bool.and_assoc]
    · have : decide (1 ≤ l.length) = false := decide_eq_false hl
      rw [this]
      simp
theorem dRight_c {w : World} {v : Value} {l : List Opr} {pc words el : Int} (hpc : 0 ≤ pc) (O : Ops w v l) (himm : ∀ k, 0 ≤ (opAt l k).imm) (hcap : ∀ ao n cap, v = .slice ao n cap → n ≤ cap) : Calls Try.prog 8 #[blV pc words el v] w fun e w' => e = .returned (.bool (rightB pc words el l)) ∧ Below w.heap.size w w' := by
  rw [← rightD_eq]
  unfold rightD
  cases hH : headD pc words el l with
  | false => exact dRight_head hpc O hH
  | true =>
    rw [Bool.true_and]
    have h1 : 0 < l.length := by
      unfold headD at hH
      simp only [Bool.and_eq_true, decide_eq_true_eq] at hH
      have := hH.1.1.1.2
      omega
    obtain ⟨ra, cap, rfl, hops⟩ := O.cell h1
    exact dRight_loop hpc O (hcap _ _ _ rfl) himm hops hH
set_option maxHeartbeats 1000000 in
theorem dCore_c (c : Cor) (w : World) : Calls Try.prog 31 #[c.val] w fun e w' => e = .returned (.bool (rightC c)) ∧ Below w.heap.size w w' := by
  go_enter Try.func31, Try.ntmps31
  go_wp2
  all_goals (go_ret; refine ⟨ret_bool ?_, by repeat (first | exact Below.refl _ _ | apply below_more | apply below_drew | apply below_drewN)⟩; unfold rightC; first | (simp_all; done) | (simp_all; omega) | (rw [Bool.eq_iff_iff]; simp; omega))
theorem newD_ok {c : Cor} (hok : CorOk c) (n : Nat) : (newD n c).Ok := ⟨hok.x, hok.sp0, hok.sp1, fun v hv => by
  have := List.eq_of_mem_replicate (show v ∈ List.replicate n (0 : Int) from hv)
  rw [this]; exact ⟨by decide, by decide⟩⟩
set_option maxHeartbeats 4000000 in
theorem builtRun (pc words el : Int) (ao : Option Addr) (m cap vb n : Nat) (c : Cor) : Try.prog.built 54 [(0, blV pc words el (.slice ao m cap)), (1, c.val), (2, .slice (some ⟨vb, 0, none⟩) n n)] = some (dnA pc words el (.slice ao m cap) (.slice (some ⟨vb, 0, none⟩) n n) (newD n c)) := by
  obtain ⟨⟨⟨l⟩, hl⟩, c0, c1, c2, c3, c4, c5, c6, c7, c8, c9, c10, c11, c12, c13, c14, c15, c16, c17⟩ := c
  rcases l with _ | ⟨x0, l⟩
  · exact absurd hl (by simp)
  rcases l with _ | ⟨x1, l⟩
  · exact absurd hl (by simp)
  rcases l with _ | ⟨x2, l⟩
  · exact absurd hl (by simp)
  rcases l with _ | ⟨x3, l⟩
  · exact absurd hl (by simp)
  rcases l with _ | ⟨x4, l⟩
  · exact absurd hl (by simp)
  rcases l with _ | ⟨x5, l⟩
  · exact absurd hl (by simp)
  rcases l with _ | ⟨x6, l⟩
  · exact absurd hl (by simp)
  rcases l with _ | ⟨x7, l⟩
  · exact absurd hl (by simp)
  rcases l with _ | ⟨x8, l⟩
  · exact absurd hl (by simp)
  rcases l with _ | ⟨x9, l⟩
  · exact absurd hl (by simp)
  rcases l with _ | ⟨x10, l⟩
  · exact absurd hl (by simp)
  rcases l with _ | ⟨x11, l⟩
  · exact absurd hl (by simp)
  rcases l with _ | ⟨x12, l⟩
  · exact absurd hl (by simp)
  rcases l with _ | ⟨x13, l⟩
  · exact absurd hl (by simp)
  rcases l with _ | ⟨x14, l⟩
  · exact absurd hl (by simp)
  rcases l with _ | ⟨x15, l⟩
  · exact absurd hl (by simp)
  rcases l with _ | ⟨x16, l⟩
  · exact absurd hl (by simp)
  rcases l with _ | ⟨x17, l⟩
  · exact absurd hl (by simp)
  rcases l with _ | ⟨x18, l⟩
  · exact absurd hl (by simp)
  rcases l with _ | ⟨x19, l⟩
  · exact absurd hl (by simp)
  rcases l with _ | ⟨x20, l⟩
  · exact absurd hl (by simp)
  rcases l with _ | ⟨x21, l⟩
  · exact absurd hl (by simp)
  rcases l with _ | ⟨x22, l⟩
  · exact absurd hl (by simp)
  rcases l with _ | ⟨x23, l⟩
  · exact absurd hl (by simp)
  rcases l with _ | ⟨x24, l⟩
  · exact absurd hl (by simp)
  rcases l with _ | ⟨x25, l⟩
  · exact absurd hl (by simp)
  rcases l with _ | ⟨x26, l⟩
  · exact absurd hl (by simp)
  rcases l with _ | ⟨x27, l⟩
  · exact absurd hl (by simp)
  rcases l with _ | ⟨x28, l⟩
  · exact absurd hl (by simp)
  rcases l with _ | ⟨x29, l⟩
  · exact absurd hl (by simp)
  rcases l with _ | ⟨x30, l⟩
  · exact absurd hl (by simp)
  rcases l with _ | ⟨y, l⟩
  · kernel_rfl
  · exact absurd hl (by simp)
section
variable {w w' : World} {v : Value} {l : List Opr} {pc words el : Int} {c : Cor} {b1 b2 : Nat}
/-- A run of the document's, newly made, its blocks from B on. -/
def FreshD (pc words el : Int) (v : Value) (l : List Opr) (D : Dn) (B : Nat) (u : Value) (x : World) : Prop := ∃ g vb, u = ptr g 0 ∧ DocAt pc words el v l g vb D x ∧ B ≤ g ∧ B ≤ vb
theorem FreshD.grow {D : Dn} {B : Nat} {u : Value} {x y : World} (h : FreshD pc words el v l D B u x) (hb : Below x.heap.size x y) : FreshD pc words el v l D B u y := by
  obtain ⟨g, vb, e, H, r⟩ := h
  exact ⟨g, vb, e, H.grow hb, r⟩
theorem rel_mkD {E : List PanicEntry → World → Prop} {F : Value → World → Prop} {o : Oper} {a : Act} {x : Operand} {n : Nat} (hn : n ≤ 512) (hF : F (.slice (some ⟨w.heap.size, 0, none⟩) n n) (w.alloc (.cells ((List.replicate n (0 : Int)).map vU).toArray 22))) (ho : o.op = .makeSlice 52 x x := by rfl) (hx : a.eval x = vI n := by rfl) : RelQ.relUpon Try.prog RelQ.Grows E F w ((execOp a.eval o).run Try.prog w) := by
  unfold execOp
  simp only [ho, hx, Sem.run_bind, run_mk w n hn, Result.andThen_ok, Sem.run_pure]
  exact ⟨below_alloc _ _, hF⟩
theorem rel_loadBb {E : List PanicEntry → World → Prop} {o : Oper} {a : Act} {x : Operand} {b : Nat} (hr : w.heap[b]? = some (.cells (blA pc words el v) 25)) (ho : o.op = .load 25 x := by rfl) (hx : a.eval x = ptr b 0 := by rfl) : RelQ.relUpon Try.prog RelQ.Grows E (fun u _ => u = blV pc words el v) w ((execOp a.eval o).run Try.prog w) := by
  have h := run_loadVar_row w b 25 25 (blA pc words el v) (0, 0) _ hr Try.underlying25 rfl (bl_inf _ _ _ _)
  unfold execOp
  simp only [ho, hx, Instr.loadAt, Instr.sureAddr, Sem.run_bind, Sem.run_pure, Result.andThen_ok, h]
  exact ⟨RelQ.grows_refl _, rfl⟩
theorem rel_newD {E : List PanicEntry → World → Prop} {o : Oper} {a : Act} {x y z : Operand} {B : Nat} {u5 : Value} {ao : Option Addr} {m cap : Nat} (h6 : ∃ vb, u5 = .slice (some ⟨vb, 0, none⟩) l.length l.length ∧ w.heap[vb]? = some (.cells (((List.replicate l.length (0 : Int)).map vU).toArray) 22) ∧ B ≤ vb)
    (ho : o.op = .build 54 #[(0, x), (1, y), (2, z)] := by rfl) (hx : a.eval x = blV pc words el (.slice ao m cap) := by rfl) (hy : a.eval y = c.val := by rfl) (hz : a.eval z = u5 := by rfl) : RelQ.relUpon Try.prog RelQ.Grows E (fun u x => ∃ vb, u = .agg (dnA pc words el (.slice ao m cap) (.slice (some ⟨vb, 0, none⟩) l.length l.length) (newD l.length c)) ∧ x.heap[vb]? = some (.cells (((List.replicate l.length (0 : Int)).map vU).toArray) 22) ∧ B ≤ vb) w ((execOp a.eval o).run Try.prog w) := by
  obtain ⟨vb, rfl, h1, h3⟩ := h6
  have hb := run_build (P := Try.prog) w 54 #[(0, blV pc words el (.slice ao m cap)), (1, c.val), (2, .slice (some ⟨vb, 0, none⟩) l.length l.length)] _ (builtRun pc words el ao m cap vb l.length c)
  unfold execOp
  simp only [ho, List.map_toArray, List.map_cons, List.map_nil, hx, hy, hz, Sem.run_bind, hb, Result.andThen_ok, Sem.run_pure]
  exact ⟨RelQ.grows_refl _, vb, rfl, h1, h3⟩
theorem rel_boxD {E : List PanicEntry → World → Prop} {o : Oper} {a : Act} {x : Operand} {B : Nat} {u6 : Value} {ao : Option Addr} {m cap : Nat} (hok : CorOk c) (O : Ops w (.slice ao m cap) l) (hB : B ≤ w.heap.size) (hlt : ∀ ra n cp, Value.slice ao m cap = .slice (some ra) n cp → ra.block < B) (h6 : ∃ vb, u6 = .agg (dnA pc words el (.slice ao m cap) (.slice (some ⟨vb, 0, none⟩) l.length l.length) (newD l.length c)) ∧ w.heap[vb]? = some (.cells (((List.replicate l.length (0 : Int)).map vU).toArray) 22) ∧ B ≤ vb) (h0 : 0 < l.length) (hl : l.length ≤ 512)
    (ho : o.op = .box 54 x := by rfl) (hx : a.eval x = u6 := by rfl) : RelQ.relUpon Try.prog RelQ.Grows E (fun u x => FreshD pc words el (.slice ao m cap) l (newD l.length c) B u x) w ((execOp a.eval o).run Try.prog w) := by
  obtain ⟨vb, rfl, h2, h3⟩ := h6
  have hr : ((execOp a.eval o).run Try.prog w) = .ok (.value (ptr w.heap.size 0)) (w.alloc (.cells (dnA pc words el (.slice ao m cap) (.slice (some ⟨vb, 0, none⟩) l.length l.length) (newD l.length c)) 54)) := by
    unfold execOp
    simp only [ho, hx]
    go_simp
  rw [hr]
  have hb := below_alloc w (.cells (dnA pc words el (.slice ao m cap) (.slice (some ⟨vb, 0, none⟩) l.length l.length) (newD l.length c)) 54)
  refine ⟨hb, w.heap.size, vb, rfl, ⟨heap_alloc_new _ _, ?_, O.grow hb, fun ra n cp e => ?_, ?_, h0, hl, newD_ok hok _⟩, hB, h3⟩
  · rw [hb.block _ (lt_of_some h2)]; exact h2
  · have := hlt ra n cp e
    exact ⟨by omega, by omega⟩
  · simp [newD]
def NewRD (w : World) (pc words el : Int) (v : Value) (l : List Opr) (c : Cor) (e : Ending) (w' : World) : Prop :=
  Below w.heap.size w w' ∧ ((newE pc words el l c ≠ 0 ∧ e = .returned (.tuple #[.pointer none, vI (newE pc words el l c)])) ∨ (newE pc words el l c = 0 ∧ ∃ u, e = .returned (.tuple #[u, vI 0]) ∧ FreshD pc words el v l (newD l.length c) w.heap.size u w'))
set_option maxHeartbeats 8000000 in
theorem dNew_c {ao : Option Addr} {m cap : Nat} (hpc : 0 ≤ pc) (O : Ops w (.slice ao m cap) l) (himm : ∀ k, 0 ≤ (opAt l k).imm) (hcap : ∀ ao' n cap', Value.slice ao m cap = .slice ao' n cap' → n ≤ cap') (hc : CorOk c) : Calls Try.prog 15 #[blV pc words el (.slice ao m cap), c.val] w (NewRD w pc words el (.slice ao m cap) l c) := by
  have N0 : NwC w pc words el (.slice ao m cap) l c w.heap.size (w.heap.size + 1) ((w.alloc (.cells (blA pc words el (.slice ao m cap)) 25)).alloc (.cells c.cells 43)) := by
    have hb := below_alloc w (.cells (blA pc words el (.slice ao m cap)) 25)
    have hb2 := below_alloc (w.alloc (.cells (blA pc words el (.slice ao m cap)) 25)) (.cells c.cells 43)
    refine ⟨?_, ?_, (O.grow hb).grow hb2, below_then hb (Nat.le_refl _) hb2⟩
    · rw [hb2.block _ (by simp)]; exact heap_alloc_new _ _
    · have := heap_alloc_new (w.alloc (.cells (blA pc words el (.slice ao m cap)) 25)) (.cells c.cells 43)
      rw [World.size_alloc] at this; exact this
  go_enter Try.func15, Try.ntmps15
  go_upto_region 1 with fail
  generalize (w.alloc (.cells (blA pc words el (.slice ao m cap)) 25)).alloc (.cells c.cells 43) = w2 at *
  generalize w.heap.size + 1 = b2 at *
  generalize hbb : w.heap.size = b1 at N0 ⊢
  clear hbb
  have k1 := dRight_c (words := words) (el := el) hpc N0.ops himm hcap
  cases hR : rightB pc words el l with
  | false =>
    rw [hR] at k1
    go_wp2_with (first | ((with_reducible refine wpList_load_if rfl 25 _ rfl _ rfl 25 _ (0, 0) _ N0.r1 Try.underlying25 rfl (bl_inf _ _ _ _) ?_); simp only [Act.put, List.setIfInBounds_toArray, List.set_cons_succ, List.set_cons_zero]) | (go_at_call 8; (with_reducible refine k1.mono ?_); clear k1; rintro e w3 ⟨rfl, B⟩; dsimp only))
    go_ret2
    have e4 : newE pc words el l c = 4 := by unfold newE; rw [hR]; rfl
    refine ⟨below_then N0.below (Nat.le_refl _) B, .inl ⟨by rw [e4]; decide, by rw [e4]; rfl⟩⟩
  | true =>
    rw [hR] at k1
    have hH : headB pc words el l = true := by unfold rightB at hR; rw [Bool.and_eq_true] at hR; exact hR.1
    obtain ⟨h0, hl⟩ := headB_len hH
    have hlt := O.lt h0
    have k2 := fun x => dCore_c c x
    by_cases hgo : rightC c = true ∧ c.el = el
    · have e0 : newE pc words el l c = 0 := by unfold newE; rw [hR]; simp [hgo]
      obtain ⟨hg1, hg2⟩ := hgo
      go_upto_region 7 with (first | ((with_reducible refine wpList_load_if rfl 25 _ rfl _ rfl 25 _ (0, 0) _ N0.r1 Try.underlying25 rfl (bl_inf _ _ _ _) ?_); simp only [Act.put, List.setIfInBounds_toArray, List.set_cons_succ, List.set_cons_zero]) | (go_at_call 8; (with_reducible refine k1.mono ?_); clear k1; rintro e w3 ⟨rfl, B⟩; dsimp only; have N3 := N0.grow B; clear N0) | ((with_reducible refine wpList_load_if rfl 43 _ rfl _ rfl 43 _ (0, 0) _ N3.r2 Try.underlying43 rfl (Cor.info _) ?_); simp only [Act.put, List.setIfInBounds_toArray, List.set_cons_succ, List.set_cons_zero]) | (go_at_call 31; (with_reducible refine (k2 _).mono ?_); rintro e w4 ⟨rfl, B4⟩; rw [hg1]; dsimp only; have N4 := N3.grow B4; have z1 := N4.ce; have z2 := N4.c2; rw [hg2] at z1))
      obtain ⟨ao', cap', ev⟩ := O.len
      cases ev
      refine RelQ.wp_region_rel RelQ.Grows (fun _ _ => False) (fun _ _ _ h _ => h.elim) (NwC w pc words el (.slice ao l.length cap) l c b1 b2) [.inl (blV pc words el (.slice ao l.length cap)), .inl (c.val), .inl (ptr b1 3), .inl (.slice ao l.length cap), .inl (vI (l.length : Int)), .inr (fun u x => ∃ vb, u = .slice (some ⟨vb, 0, none⟩) l.length l.length ∧ x.heap[vb]? = some (.cells (((List.replicate l.length (0 : Int)).map vU).toArray) 22) ∧ w.heap.size ≤ vb), .inr (fun u x => ∃ vb, u = .agg (dnA pc words el (.slice ao l.length cap) (.slice (some ⟨vb, 0, none⟩) l.length l.length) (newD l.length c)) ∧ x.heap[vb]? = some (.cells (((List.replicate l.length (0 : Int)).map vU).toArray) 22) ∧ w.heap.size ≤ vb), .inr (fun u x => FreshD pc words el (.slice ao l.length cap) l (newD l.length c) w.heap.size u x), .inr (fun u x => FreshD pc words el (.slice ao l.length cap) l (newD l.length c) w.heap.size u x), .inl (vI 0)] (by kernel_rfl) (by kernel_rfl) RelQ.grows_refl (fun _ _ h hb => h.grow hb) (N4.grow (below_dr _)) (by intro k hk; simp only [List.mem_cons, List.not_mem_nil, or_false] at hk; rcases hk with rfl | rfl | rfl | rfl | rfl | rfl | rfl | rfl | rfl | rfl <;> first | exact trivial | exact (fun v x y h hb => FreshD.grow h hb) | exact (fun v x y h hb => by obtain ⟨vb, e, h1, h2⟩ := h; exact ⟨vb, e, by rw [hb.block _ (lt_of_some h1)]; exact h1, h2⟩)) ?_
      refine ⟨fun w3 hC hf => RelQ.uponG_yes rfl (by exact rel_loadBb hC.r1), ?_⟩
      simp only [Act.put, List.setIfInBounds_toArray, List.set_cons_succ, List.set_cons_zero]
      refine ⟨fun w3 hC hf => RelQ.uponG_yes rfl (by exact rel_load29 hC.r2), ?_⟩
      simp only [Act.put, List.setIfInBounds_toArray, List.set_cons_succ, List.set_cons_zero]
      refine ⟨fun w3 hC _ => RelQ.uponG_yes rfl ((by go_simp; first | exact RelQ.grows_refl _ | exact ⟨RelQ.grows_refl _, rfl⟩)), ?_⟩
      simp only [Act.put, List.setIfInBounds_toArray, List.set_cons_succ, List.set_cons_zero]
      refine ⟨fun w3 hC _ => RelQ.uponG_yes rfl ((by have z := hC.c3; go_simp; first | exact RelQ.grows_refl _ | exact ⟨RelQ.grows_refl _, rfl⟩)), ?_⟩
      simp only [Act.put, List.setIfInBounds_toArray, List.set_cons_succ, List.set_cons_zero]
      refine ⟨fun w3 hC _ => RelQ.uponG_yes rfl ((by go_simp; first | exact RelQ.grows_refl _ | exact ⟨RelQ.grows_refl _, rfl⟩)), ?_⟩
      simp only [Act.put, List.setIfInBounds_toArray, List.set_cons_succ, List.set_cons_zero]
      refine ⟨fun w3 hC hf => RelQ.uponG_yes rfl ((by exact rel_mkD hl ⟨_, rfl, heap_alloc_new _ _, hC.below.size⟩)), ?_⟩
      intro u5
      simp only [Act.put, List.setIfInBounds_toArray, List.set_cons_succ, List.set_cons_zero]
      refine ⟨fun w3 hC hf => RelQ.uponG_yes rfl ((by exact rel_newD ((hf 5 (by kernel_rfl)).1 rfl))), ?_⟩
      intro u6
      simp only [Act.put, List.setIfInBounds_toArray, List.set_cons_succ, List.set_cons_zero]
      refine ⟨fun w3 hC hf => RelQ.uponG_yes rfl ((by exact rel_boxD hc hC.ops hC.below.size hlt ((hf 6 (by kernel_rfl)).1 rfl) h0 hl)), ?_⟩
      intro u7
      simp only [Act.put, List.setIfInBounds_toArray, List.set_cons_succ, List.set_cons_zero]
      refine ⟨fun w3 hC hf => RelQ.uponG_yes rfl ((by have q := (hf 7 (by kernel_rfl)).1 rfl; go_simp; first | exact RelQ.grows_refl _ | exact ⟨RelQ.grows_refl _, q⟩)), ?_⟩
      intro u8
      simp only [Act.put, List.setIfInBounds_toArray, List.set_cons_succ, List.set_cons_zero]
      refine ⟨fun w3 hC _ => RelQ.uponG_yes rfl ((by go_simp; first | exact RelQ.grows_refl _ | exact ⟨RelQ.grows_refl _, rfl⟩)), ?_⟩
      simp only [Act.put, List.setIfInBounds_toArray, List.set_cons_succ, List.set_cons_zero]
      intro w9 hN hf
      have F := (hf 8).1 rfl
      clear hf
      go_wp2
      go_ret2
      exact ⟨hN.below, .inr ⟨e0, u8, rfl, F⟩⟩
    · have e1 : newE pc words el l c = 1 := by unfold newE; rw [hR]; simp [hgo]
      cases hg1 : rightC c with
      | false =>
        go_wp2_with (first | ((with_reducible refine wpList_load_if rfl 25 _ rfl _ rfl 25 _ (0, 0) _ N0.r1 Try.underlying25 rfl (bl_inf _ _ _ _) ?_); simp only [Act.put, List.setIfInBounds_toArray, List.set_cons_succ, List.set_cons_zero]) | (go_at_call 8; (with_reducible refine k1.mono ?_); clear k1; rintro e w3 ⟨rfl, B⟩; dsimp only; have N3 := N0.grow B; clear N0) | ((with_reducible refine wpList_load_if rfl 43 _ rfl _ rfl 43 _ (0, 0) _ N3.r2 Try.underlying43 rfl (Cor.info _) ?_); simp only [Act.put, List.setIfInBounds_toArray, List.set_cons_succ, List.set_cons_zero]) | (go_at_call 31; (with_reducible refine (k2 _).mono ?_); rintro e w4 ⟨rfl, B4⟩; rw [hg1]; dsimp only; have N4 := N3.grow B4; have z1 := N4.ce; have z2 := N4.c2))
        go_ret2
        exact ⟨N4.below, .inl ⟨by rw [e1]; decide, by rw [e1]; rfl⟩⟩
      | true =>
        have hg2 : ¬ c.el = el := fun h => hgo ⟨hg1, h⟩
        have hg3 : (c.el != el) = true := by simp [hg2]
        go_wp2_with (first | ((with_reducible refine wpList_load_if rfl 25 _ rfl _ rfl 25 _ (0, 0) _ N0.r1 Try.underlying25 rfl (bl_inf _ _ _ _) ?_); simp only [Act.put, List.setIfInBounds_toArray, List.set_cons_succ, List.set_cons_zero]) | (go_at_call 8; (with_reducible refine k1.mono ?_); clear k1; rintro e w3 ⟨rfl, B⟩; dsimp only; have N3 := N0.grow B; clear N0) | ((with_reducible refine wpList_load_if rfl 43 _ rfl _ rfl 43 _ (0, 0) _ N3.r2 Try.underlying43 rfl (Cor.info _) ?_); simp only [Act.put, List.setIfInBounds_toArray, List.set_cons_succ, List.set_cons_zero]) | (go_at_call 31; (with_reducible refine (k2 _).mono ?_); rintro e w4 ⟨rfl, B4⟩; rw [hg1]; dsimp only; have N4 := N3.grow B4; have z1 := N4.ce; have z2 := N4.c2))
        go_ret2
        exact ⟨N4.below, .inl ⟨by rw [e1]; decide, by rw [e1]; rfl⟩⟩
end
end Go.Proofs.Ytejlmggfeejgpaa
/- The document's run: Next. -/
namespace Go.Proofs.Ytejlmggfeejgpaa
open Go.RowKit
set_option linter.unusedVariables false
set_option linter.unusedSimpArgs false
set_option maxRecDepth 8000

theorem wn_zero : (wnA nilW) = #[vI 0, vU 0, vU 0, vI 0, .bool false, vI 0, .bool false, vI 0, vI 0, vI 0] := rfl
section
variable {pc words el : Int} {v : Value} {l : List Opr} {g vb : Nat} {D : Dn} {w w' : World}

set_option maxHeartbeats 16000000 in
theorem dNext_c (H : DocAt pc words el v l g vb D w) (hel : el = 0 ∨ el = 1) (fits : ∀ k, k < l.length → OpFits l (opAt l k)) (last : ∀ k, k < l.length → isK (opAt l k).kind = true ∧ (hasP (opAt l k).kind 128 = true ↔ k + 1 = l.length)) (hin : DIn l D) : Calls Try.prog 16 #[ptr g 0] w fun e w' => e = .returned (.tuple #[wnV (outW (dNext el l D)), .bool (dNext el l D).waits]) ∧ DT pc words el v l g vb (dNext el l D) w w' := by
  have hb := below_alloc w (.cells (wnA nilW) 49)
  have R0 : DT pc words el v l g vb D w (w.alloc (.cells (wnA nilW) 49)) := DT.from hb (H.grow hb).here
  have hr0 : (w.alloc (.cells (wnA nilW) 49)).heap[w.heap.size]? = some (.cells (wnA nilW) 49) := heap_alloc_new _ _
  have hgs := H.lt
  have hvs := H.ltv
  obtain ⟨ra, cap, ev, _⟩ := H.opsI
  have hm := H.max
  have hmm : (l.length : Int) ≤ 512 := by omega
  subst ev
  generalize hF : dNext el l D = F
  unfold dNext at hF
  go_enter Try.func16, Try.ntmps16
  go_upto_region 1 with fail
  rw [← wn_zero]
  generalize w.alloc (.cells (wnA nilW) 49) = w0 at *
  generalize hrb : w.heap.size = rb at *
  go_loopw [] (fun wr => ∃ (E : Dn) (f : Nat), DT pc words el (.slice (some ra) l.length cap) l g vb E w wr ∧ wr.heap[rb]? = some (.cells (wnA nilW) 49) ∧ DIn l E ∧ (E.left = false → l.length ≤ f + E.at_) ∧ dRun el l f E = F) (fun wr => l.length - (intOf ((wr.cell? ⟨g, 54, none⟩).getD undef)).toNat)
  case atStart => exact ⟨D, l.length, R0, hr0, hin, fun _ => by omega, hF⟩
  case round =>
    clear R0 hr0
    obtain ⟨E, f, R, hr, hI, hf, hF⟩ := hrel
    have z66 := R.1.c66
    have z55 := R.1.c55
    have z3 := R.1.c3
    have z54 := R.1.c54
    have h1 := R.1
    by_cases hc : E.left = false ∧ E.waits = false
    · obtain ⟨c1, c2⟩ := hc
      have hk := hI c1
      have hki : (E.at_ : Int) < l.length := by omega
      have ho := opAt_some hk
      rw [c1] at z66
      rw [c2] at z55
      obtain ⟨ra', cap', ev', hops⟩ := R.1.opsI
      cases ev'
      have A := hops _ _ ho
      clear hops
      obtain ⟨f', rfl⟩ : ∃ f', f = f' + 1 := ⟨f - 1, by have := hf c1; omega⟩
      have hS : dRun el l f' (dStep el l E) = F := by
        rw [← hF]
        show _ = if E.left = false ∧ E.waits = false then _ else _
        rw [if_pos ⟨c1, c2⟩]
      have k1 := fun x (Hx : DocAt pc words el (.slice (some ra) l.length cap) l g vb E x) => dOne_c Hx hel (opAt l E.at_) (fits _ hk) hk
      go_upto_region 2 with fail
      refine wp_region_still_tail 12 (by kernel_rfl) (by kernel_rfl) ?_
      have R5 := R.grow (below_dr wr)
      have r5 := R.1.dr.kept hr (by omega) (by omega)
      replace A := A.grow (below_dr wr)
      generalize ({ wr with drawn := wr.drawn + 1 } : World) = w5 at *
      have zm := R.1.c54
      clear z66 z55 z3 z54
      have z3 := R5.1.c3
      have z54 := R5.1.c54
      have y0 := A.c0
      have y1 := A.c1
      have y2 := A.c2
      have y3 := A.c3
      have y4 := A.c4
      have y5 := A.c5
      simp only [List.take_succ_cons, List.take_zero, List.drop_succ_cons, List.drop_zero]
      iterate 12 still_step
      refine wpStill_nil ?_
      have H5 := R5.1
      go_wp2_with (go_at_call 32; (with_reducible refine (k1 _ H5).mono ?_); rintro e w6 ⟨rfl, R6⟩; dsimp only)
      have h6 := R6.1.c54
      have r6 := R6.kept r5 (by omega) (by omega)
      go_roundw
      case rel => exact ⟨dStep el l E, f', R5.then R6, r6, dStep_in last hI c1, fun _ => by rw [dStep_at]; have := hf c1; omega, hS⟩
      case measure => rw [zm, h6, dOne_at]; simp [intOf]; omega
    · have hFE : E = F := by rw [dRun_stop hc] at hF; exact hF
      subst hFE
      have hlt := H.ops.lt H.pos
      cases hl : E.left with
      | false =>
        cases hw : E.waits with
        | false => exact absurd ⟨hl, hw⟩ hc
        | true =>
          rw [hl] at z66
          rw [hw] at z55
          have hW : outW E = E.w := by unfold outW; rw [if_pos hw]
          go_wp2_with (first | ((with_reducible refine wpList_load_wD rfl _ rfl rfl h1 ?_); try simp only [Act.put, List.setIfInBounds_toArray, List.set_cons_succ, List.set_cons_zero]) | ((with_reducible refine wpList_store_row rfl 49 _ _ rfl _ _ rfl rfl 49 _ hr (wn_inf _) (by kernel_rfl) (wn_one _) ?_); try simp only [Act.put]))
          (try simp only [Exit.inBlock, Exit.then])
          refine bodyPost_ret (back_nextD rfl (setRow_heap _ _ _ _ _ _ hr)) rfl ?_
          exact ⟨by rw [hW, hw]; rfl, R.row (by omega) (by omega) (by omega) (fun ra n cap e => by have := hlt ra n cap e; omega) _⟩
      | true =>
        cases hw : E.waits with
        | false =>
          rw [hl] at z66
          rw [hw] at z55
          have hW : outW E = nilW := by unfold outW; rw [if_neg (by rw [hw]; decide)]
          go_wp2_with (first | ((with_reducible refine wpList_built rfl _ _ rfl (wnA nilW) (by kernel_rfl) ?_); try simp only [Act.put]) | ((with_reducible refine wpList_store_row rfl 49 _ _ rfl _ _ rfl rfl 49 _ hr (wn_inf _) (by kernel_rfl) (wn_one _) ?_); try simp only [Act.put]))
          (try simp only [Exit.inBlock, Exit.then])
          refine bodyPost_ret (back_nextD rfl (setRow_heap _ _ _ _ _ _ hr)) rfl ?_
          exact ⟨by rw [hW, hw]; rfl, R.row (by omega) (by omega) (by omega) (fun ra n cap e => by have := hlt ra n cap e; omega) _⟩
        | true =>
          rw [hl] at z66
          rw [hw] at z55
          have hW : outW E = E.w := by unfold outW; rw [if_pos hw]
          go_wp2_with (first | ((with_reducible refine wpList_load_wD rfl _ rfl rfl h1 ?_); try simp only [Act.put, List.setIfInBounds_toArray, List.set_cons_succ, List.set_cons_zero]) | ((with_reducible refine wpList_store_row rfl 49 _ _ rfl _ _ rfl rfl 49 _ hr (wn_inf _) (by kernel_rfl) (wn_one _) ?_); try simp only [Act.put]))
          (try simp only [Exit.inBlock, Exit.then])
          refine bodyPost_ret (back_nextD rfl (setRow_heap _ _ _ _ _ _ hr)) rfl ?_
          exact ⟨by rw [hW, hw]; rfl, R.row (by omega) (by omega) (by omega) (fun ra n cap e => by have := hlt ra n cap e; omega) _⟩
end
end Go.Proofs.Ytejlmggfeejgpaa
