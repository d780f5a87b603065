/- The document's own timer: New. -/
import Derived.Test.YtebkpmplhpebbaaDa
import Derived.Test.YtebkpmplhpebbaaQy
import Derived.Test.YtebkpmplhpebbaaRelJ
namespace Go.RelJ
open Go Go.RowKit Go.Rel Go.Chn
/-- A region that draws, by an invariant over what is done. -/
theorem wp_region_J {P : Program} {id : Nat} {Q : Exit → Act → World → Prop} {a : Act} {w : World} {l : List Oper} (J : (Nat → Bool) → (Nat → Value) → World → Prop) (hm : P.follows .mixedOrders = true) (hok : okB l.toArray = true)
    (hw : J (fun _ => false) (fun _ => undef) { w with drawn := w.drawn + 1 })
    (hstep : ∀ i o, l[i]? = some o → ∀ (m : Nat → Bool) (vals : Nat → Value) (w : World), m i = false → (∀ k, waits l.toArray i k = true → m k = true) → (∀ j k, waits l.toArray j k = true → m j = true → m k = true) → J m vals w →
      upon P (fun u w' => J (fun k => k == i || m k) (fun k => if k = i then u else vals k) w') w ((execOp (fill l.toArray vals (fun _ => true) a i).eval o).run P w))
    (hend : ∀ (m : Nat → Bool) (vals : Nat → Value) (w : World), (∀ k, k < l.length → m k = true) → J m vals w → Q .normal (fill l.toArray vals (fun _ => true) a l.length) w) : (Code.region id l.toArray true).wp P Q a w := by
  refine wp_region_any hm ?_
  have main := wpAny_J (P := P) (ops := l.toArray) (J := J) (a0 := a) (Q := Q) hok
    (fun i o ho m vals w hmi hwi hclo hJ => hstep i o (by simpa using ho) m vals w hmi hwi hclo hJ)
    (fun m vals w hall hJ => by simpa using hend m vals w (fun k hk => hall k (by simpa using hk)) hJ)
    l.toArray.size (Array.replicate l.toArray.size false) (fun _ => undef) { w with drawn := w.drawn + 1 }
    ⟨by simp, (fun j oj _ hl => by rw [getD_replicate_false] at hl; exact absurd hl (by simp)), by
      have e : (fun k => (Array.replicate l.toArray.size false).getD k false) = fun _ => false := by funext k; exact getD_replicate_false _ _
      rw [e]; exact hw⟩
    (cnt_replicate _ _)
  have e : fill l.toArray (fun _ => undef) (fun k => (Array.replicate l.toArray.size false).getD k false) a l.toArray.size = a := by
    have : ∀ n, fill l.toArray (fun _ => undef) (fun k => (Array.replicate l.toArray.size false).getD k false) a n = a := by
      intro n
      induction n with
      | zero => rfl
      | succ n ih => unfold fill; rw [getD_replicate_false]; simpa using ih
    exact this _
  rwa [e] at main
end Go.RelJ
namespace Go.Proofs.Ytebkpmplhpebbaa
open Go.RowKit
open Tim
set_option linter.unusedVariables false
set_option linter.unusedSimpArgs false
set_option maxRecDepth 8000

theorem infU : ∃ i, Try.prog.info? 30 = some i ∧ i.zero = some (vU 0) ∧ i.size = 1 ∧ i.bytes = 8 := by
  have h : (Try.prog.info? 30).map (fun i => (i.zero, i.size, i.bytes)) = some (some (vU 0), 1, 8) := by kernel_rfl
  cases hq : Try.prog.info? 30 with
  | none => rw [hq] at h; cases h
  | some i =>
    rw [hq] at h
    simp only [Option.map_some, Option.some.injEq, Prod.mk.injEq] at h
    exact ⟨i, rfl, h.1, h.2.1, h.2.2⟩
/-- A row of noughts made since w0. -/
def ZR (w0 : World) (n : Nat) (v : Value) (w : World) : Prop := ∃ b, v = .slice (some ⟨b, 0, none⟩) n n ∧ w0.heap.size ≤ b ∧ w.heap[b]? = some (.cells (madeCells #[vU 0] n) 30)
theorem ZR.grow {w0 : World} {n : Nat} {v : Value} {w w' : World} (H : ZR w0 n v w) (hb : Below w.heap.size w w') : ZR w0 n v w' := by
  obtain ⟨b, h1, h2, h3⟩ := H
  exact ⟨b, h1, h2, by rw [hb.block _ (lt_of_some h3)]; exact h3⟩
structure NJ (w0 : World) (n : Nat) (m : Nat → Bool) (x : Nat → Value) (w : World) : Prop where
  b : Below w0.heap.size w0 w
  m0 : m 0 = true → x 0 = vI n
  m1 : m 1 = true → ZR w0 n (x 1) w
  m2 : m 2 = true → x 2 = vI n
  m3 : m 3 = true → ZR w0 n (x 3) w
  ne : m 1 = true → m 3 = true → x 1 ≠ x 3
  m4 : m 4 = true → x 4 = .agg #[vU 0, x 1, x 3]
  m5 : m 5 = true → ∃ r, x 5 = ptr r 0 ∧ w0.heap.size ≤ r ∧ w.heap[r]? = some (.cells #[vU 0, x 1, x 3] 42)
  m6 : m 6 = true → x 6 = x 5
theorem run_mk (w : World) (n : Nat) (hn : n ≤ 8) : (Instr.makeSlice 40 (vI n) (vI n)).run Try.prog w = .ok (.slice (some ⟨w.heap.size, 0, none⟩) n n) (w.alloc (.cells (madeCells #[vU 0] n) 30)) := by
  obtain ⟨i, h1, h2, h3, h4⟩ := infU
  have hr := run_makeSlice (P := Try.prog) w 40 30 i (vU 0) Try.underlying40 h1 h2 .i64 .i64 n n (by omega) (by omega) (by rw [h3, Int.toNat_natCast]; omega) (by rw [h4]; omega) (by omega)
  rw [Int.toNat_natCast, h3, Nat.mul_one] at hr
  exact hr
section
variable {w0 : World} {n : Nat} {m : Nat → Bool} {x : Nat → Value} {w : World}
theorem NJ.grow {w' : World} (H : NJ w0 n m x w) (hb : Below w.heap.size w w') : NJ w0 n m x w' :=
  ⟨below_then H.b (Nat.le_refl _) hb, H.m0, fun h => (H.m1 h).grow hb, H.m2, fun h => (H.m3 h).grow hb, H.ne, H.m4, fun h => by
    obtain ⟨r, h1, h2, h3⟩ := H.m5 h
    exact ⟨r, h1, h2, by rw [hb.block _ (lt_of_some h3)]; exact h3⟩, H.m6⟩
theorem NJ.s0 (H : NJ w0 n m x w) : NJ w0 n (fun k => k == 0 || m k) (fun k => if k = 0 then vI n else x k) w := ⟨H.b, fun _ => rfl, H.m1, H.m2, H.m3, H.ne, H.m4, H.m5, H.m6⟩
theorem NJ.s2 (H : NJ w0 n m x w) : NJ w0 n (fun k => k == 2 || m k) (fun k => if k = 2 then vI n else x k) w := ⟨H.b, H.m0, H.m1, fun _ => rfl, H.m3, H.ne, H.m4, H.m5, H.m6⟩
theorem NJ.s1 (H : NJ w0 n m x w) (h4 : m 4 = false) (h5 : m 5 = false) : NJ w0 n (fun k => k == 1 || m k) (fun k => if k = 1 then .slice (some ⟨w.heap.size, 0, none⟩) n n else x k) (w.alloc (.cells (madeCells #[vU 0] n) 30)) := by
  have G := H.grow (below_alloc w (.cells (madeCells #[vU 0] n) 30))
  refine ⟨G.b, G.m0, fun _ => ⟨w.heap.size, rfl, H.b.size, heap_alloc_new _ _⟩, G.m2, G.m3, fun _ h3 e => ?_, fun h => ?_, fun h => ?_, G.m6⟩
  · obtain ⟨b, e1, _, e2⟩ := H.m3 h3
    have e' : Value.slice (some ⟨w.heap.size, 0, none⟩) n n = x 3 := e
    rw [e1] at e'
    cases e'
    have := lt_of_some e2
    omega
  · have h' : m 4 = true := h
    rw [h4] at h'; cases h'
  · have h' : m 5 = true := h
    rw [h5] at h'; cases h'
theorem NJ.s3 (H : NJ w0 n m x w) (h4 : m 4 = false) (h5 : m 5 = false) : NJ w0 n (fun k => k == 3 || m k) (fun k => if k = 3 then .slice (some ⟨w.heap.size, 0, none⟩) n n else x k) (w.alloc (.cells (madeCells #[vU 0] n) 30)) := by
  have G := H.grow (below_alloc w (.cells (madeCells #[vU 0] n) 30))
  refine ⟨G.b, G.m0, G.m1, G.m2, fun _ => ⟨w.heap.size, rfl, H.b.size, heap_alloc_new _ _⟩, fun h1 _ e => ?_, fun h => ?_, fun h => ?_, G.m6⟩
  · obtain ⟨b, e1, _, e2⟩ := H.m1 h1
    have e' : x 1 = Value.slice (some ⟨w.heap.size, 0, none⟩) n n := e
    rw [e1] at e'
    cases e'
    have := lt_of_some e2
    omega
  · have h' : m 4 = true := h
    rw [h4] at h'; cases h'
  · have h' : m 5 = true := h
    rw [h5] at h'; cases h'
theorem NJ.s4 (H : NJ w0 n m x w) : NJ w0 n (fun k => k == 4 || m k) (fun k => if k = 4 then .agg #[vU 0, x 1, x 3] else x k) w := ⟨H.b, H.m0, H.m1, H.m2, H.m3, H.ne, fun _ => rfl, H.m5, H.m6⟩
theorem NJ.s5 (H : NJ w0 n m x w) (h6 : m 6 = false) : NJ w0 n (fun k => k == 5 || m k) (fun k => if k = 5 then ptr w.heap.size 0 else x k) (w.alloc (.cells #[vU 0, x 1, x 3] 42)) := by
  have G := H.grow (below_alloc w (.cells #[vU 0, x 1, x 3] 42))
  refine ⟨G.b, G.m0, G.m1, G.m2, G.m3, G.ne, G.m4, fun _ => ⟨w.heap.size, rfl, H.b.size, heap_alloc_new _ _⟩, fun h => ?_⟩
  have h' : m 6 = true := h
  rw [h6] at h'; cases h'
theorem NJ.s6 (H : NJ w0 n m x w) : NJ w0 n (fun k => k == 6 || m k) (fun k => if k = 6 then x 5 else x k) w := ⟨H.b, H.m0, H.m1, H.m2, H.m3, H.ne, H.m4, H.m5, fun _ => rfl⟩
end
theorem up_make {o : Oper} {a : Act} {w : World} {F : Value → World → Prop} {n : Nat} (hn : n ≤ 8) (x : Operand) (ho : o.op = .makeSlice 40 x x) (hx : a.eval x = vI n) (hF : F (.slice (some ⟨w.heap.size, 0, none⟩) n n) (w.alloc (.cells (madeCells #[vU 0] n) 30))) : Chn.upon Try.prog F w ((execOp a.eval o).run Try.prog w) := by
  unfold execOp
  simp only [ho, hx, Sem.run_bind, run_mk w n hn, Result.andThen_ok]
  exact hF
theorem up_build {o : Oper} {a : Act} {w : World} {F : Value → World → Prop} {n b c : Nat} (x y : Operand) (ho : o.op = .build 42 #[(1, x), (2, y)]) (hx : a.eval x = .slice (some ⟨b, 0, none⟩) n n) (hy : a.eval y = .slice (some ⟨c, 0, none⟩) n n) (hF : F (.agg #[vU 0, .slice (some ⟨b, 0, none⟩) n n, .slice (some ⟨c, 0, none⟩) n n]) w) : Chn.upon Try.prog F w ((execOp a.eval o).run Try.prog w) := by
  have hr := run_build (P := Try.prog) w 42 #[(1, .slice (some ⟨b, 0, none⟩) n n), (2, .slice (some ⟨c, 0, none⟩) n n)] #[vU 0, .slice (some ⟨b, 0, none⟩) n n, .slice (some ⟨c, 0, none⟩) n n] (by kernel_rfl)
  unfold execOp
  simp only [ho, Sem.run_bind, List.map_toArray, List.map_cons, List.map_nil, hx, hy, hr, Result.andThen_ok]
  exact hF
theorem up_box {o : Oper} {a : Act} {w : World} {F : Value → World → Prop} {C : Array Value} (x : Operand) (ho : o.op = .box 42 x) (hx : a.eval x = .agg C) (hF : F (ptr w.heap.size 0) (w.alloc (.cells C 42))) : Chn.upon Try.prog F w ((execOp a.eval o).run Try.prog w) := by
  unfold execOp
  simp only [ho, hx, Instr.box, newVar, newRow, Sem.run_bind, Sem.run_pure, Result.andThen_ok, Value.cells]
  exact hF
theorem up_move {o : Oper} {a : Act} {w : World} {F : Value → World → Prop} {v : Value} (x : Operand) (ho : o.op = .move x ∨ o.op = .assign x) (hx : a.eval x = v) (hF : F v w) : Chn.upon Try.prog F w ((execOp a.eval o).run Try.prog w) := by
  unfold execOp
  rcases ho with ho | ho <;> (simp only [ho, hx, Sem.run_pure]; exact hF)
theorem falls {m : Nat → Bool} {j k : Nat} (h : m j = true → m k = true) (hk : m k = false) : m j = false := by
  cases e : m j with
  | false => rfl
  | true => rw [h e] at hk; cases hk
set_option maxHeartbeats 1000000 in
theorem rnew_c (n : Nat) (h0 : 0 < n) (h8 : n ≤ 8) (w : World) : Calls Try.prog 9 #[vI n] w fun e w' => ∃ r, e = .returned (ptr r 0) ∧ ∃ cb cv, RefAt r cb cv n zeroT w' ∧ Below w.heap.size w w' ∧ (∀ k, RFoot r cb cv k → w.heap.size ≤ k) := by
  go_enter Try.func9, Try.ntmps9
  go_upto_region 1 with fail
  refine RelJ.wp_region_J (NJ w n) (by kernel_rfl) (by kernel_rfl) ⟨Rel.below_draws (n := 1) (Below.refl _ _), fun h => (by cases h), fun h => (by cases h), fun h => (by cases h), fun h => (by cases h), fun h => (by cases h), fun h => (by cases h), fun h => (by cases h), fun h => (by cases h)⟩ ?_ ?_
  · intro i o ho m x w1 hmi hwi hcl H
    have w41 := hcl 4 1 (by kernel_rfl)
    have w43 := hcl 4 3 (by kernel_rfl)
    have w54 := hcl 5 4 (by kernel_rfl)
    have w65 := hcl 6 5 (by kernel_rfl)
    match i, ho with
    | 0, ho =>
      cases ho
      exact up_move _ (.inl rfl) rfl H.s0
    | 1, ho =>
      have q := hwi 0 (by kernel_rfl)
      have h4 := falls w41 hmi
      have h5 := falls w54 h4
      cases ho
      exact up_make h8 _ rfl (H.m0 q) (H.s1 h4 h5)
    | 2, ho =>
      cases ho
      exact up_move _ (.inl rfl) rfl H.s2
    | 3, ho =>
      have q := hwi 2 (by kernel_rfl)
      have h4 := falls w43 hmi
      have h5 := falls w54 h4
      cases ho
      exact up_make h8 _ rfl (H.m2 q) (H.s3 h4 h5)
    | 4, ho =>
      obtain ⟨b, e1, _⟩ := H.m1 (hwi 1 (by kernel_rfl))
      obtain ⟨c, e3, _⟩ := H.m3 (hwi 3 (by kernel_rfl))
      have s := H.s4
      rw [e1, e3] at s
      cases ho
      exact up_build _ _ rfl e1 e3 s
    | 5, ho =>
      have q := H.m4 (hwi 4 (by kernel_rfl))
      have h6 := falls w65 hmi
      cases ho
      exact up_box _ rfl q (H.s5 h6)
    | 6, ho =>
      cases ho
      exact up_move _ (.inr rfl) rfl H.s6
    | i + 7, ho => cases ho
  · intro m x w1 hall H
    obtain ⟨b, e1, b1, b2⟩ := H.m1 (hall 1 (by decide))
    obtain ⟨c, e3, c1, c2⟩ := H.m3 (hall 3 (by decide))
    obtain ⟨r, e5, r1, r2⟩ := H.m5 (hall 5 (by decide))
    have e6 := H.m6 (hall 6 (by decide))
    have hne := H.ne (hall 1 (by decide)) (hall 3 (by decide))
    rw [e1, e3] at hne r2
    have hbc : b ≠ c := fun e => hne (by rw [e])
    generalize hA : Rel.fill _ _ _ _ _ = A
    have hA2 : A = ⟨#[vI n, undef, x 6, x 0, x 1, x 2, x 3, x 4, x 5], []⟩ := by rw [← hA]; rfl
    rw [hA2, e6, e5]
    clear hA hA2 e6 e5 e1 e3 hne
    have hB := H.b
    clear H hall
    go_wp2
    go_ret
    refine ⟨r, rfl, b, c, ⟨h0, h8, zeroT_ok, r2, ⟨_, b2, size_madeCells _ _, fun j hj => ?_⟩, ⟨_, c2, size_madeCells _ _, fun j hj => ?_⟩, hbc⟩, hB, ?_⟩
    · rw [made_get (s := 1) rfl (by decide) hj, Nat.mod_one]; rfl
    · rw [made_get (s := 1) rfl (by decide) hj, Nat.mod_one]; rfl
    · rintro k (rfl | rfl | rfl) <;> assumption
end Go.Proofs.Ytebkpmplhpebbaa
