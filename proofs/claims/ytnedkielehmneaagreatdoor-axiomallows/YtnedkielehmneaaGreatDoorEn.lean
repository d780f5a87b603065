/- Own laws: a region that draws, by an invariant over what is done; appending events; operations in no order. -/
import Derived.Test.YtnedkielehmneaaGreatDoorEm
import Derived.Test.YtnedkielehmneaaGreatDoorRelJ
import Derived.Test.YtnedkielehmneaaGreatDoorChg
namespace Go.RelJ
open Go Go.RowKit Go.Rel Go.Chn
/-- A region that draws, by an invariant over what is done. -/
theorem wp_region_J {P : Program} {id : Nat} {Q : Exit → Act → World → Prop} {a : Act} {w : World} {l : List Oper} (J : (Nat → Bool) → (Nat → Value) → World → Prop) (hm : P.follows .mixedOrders = true) (hok : okB l.toArray = true)
    (hw : J (fun _ => false) (fun _ => undef) { w with drawn := w.drawn + 1 })
    (hstep : ∀ i o, l[i]? = some o → ∀ (m : Nat → Bool) (vals : Nat → Value) (w : World), m i = false → (∀ k, waits l.toArray i k = true → m k = true) → (∀ j k, waits l.toArray j k = true → m j = true → m k = true) → J m vals w →
      upon P (fun u w' => J (fun k => k == i || m k) (fun k => if k = i then u else vals k) w') w ((execOp (fill l.toArray vals (fun _ => true) a i).eval o).run P w))
    (hend : ∀ (m : Nat → Bool) (vals : Nat → Value) (w : World), (∀ k, k < l.length → m k = true) → J m vals w → Q .normal (fill l.toArray vals (fun _ => true) a l.length) w) : (Code.region id l.toArray true).wp P Q a w := by
  refine wp_region_any hm ?_
  have main := wpAny_J (P := P) (ops := l.toArray) (J := J) (a0 := a) (Q := Q) hok
    (fun i o ho m vals w hmi hwi hclo hJ => hstep i o (by simpa using ho) m vals w hmi hwi hclo hJ)
    (fun m vals w hall hJ => by simpa using hend m vals w (fun k hk => hall k (by simpa using hk)) hJ)
    l.toArray.size (Array.replicate l.toArray.size false) (fun _ => undef) { w with drawn := w.drawn + 1 }
    ⟨by simp, (fun j oj _ hl => by rw [getD_replicate_false] at hl; exact absurd hl (by simp)), by
      have e : (fun k => (Array.replicate l.toArray.size false).getD k false) = fun _ => false := by funext k; exact getD_replicate_false _ _
      rw [e]; exact hw⟩
    (cnt_replicate _ _)
  have e : fill l.toArray (fun _ => undef) (fun k => (Array.replicate l.toArray.size false).getD k false) a l.toArray.size = a := by
    have : ∀ n, fill l.toArray (fun _ => undef) (fun k => (Array.replicate l.toArray.size false).getD k false) a n = a := by
      intro n
      induction n with
      | zero => rfl
      | succ n ih => unfold fill; rw [getD_replicate_false]; simpa using ih
    exact this _
  rwa [e] at main
def okAt (ops : Array Oper) (n k d : Nat) : Bool := decide (k < n) && decide (dstOf ops k = some d) && (List.range n).all fun j => decide (j ≤ k) || decide (dstOf ops j ≠ some d)
theorem eval_put_same {A : Act} {d : Nat} {v : Value} (hd : d < A.tmps.size) : (A.put (some d) v).eval (.tmp d) = v := by
  simp [Act.put, Act.eval, hd]
theorem eval_put_other {A : Act} {e : Option Tmp} {d : Nat} {v : Value} (h : e ≠ some d) : (A.put e v).eval (.tmp d) = A.eval (.tmp d) := by
  cases e with
  | none => rfl
  | some e =>
    have : e ≠ d := fun k => h (by rw [k])
    simp [Act.put, Act.eval, this]
theorem fill_at {ops : Array Oper} {vals : Nat → Value} {a0 : Act} {k d : Nat} : ∀ n, okAt ops n k d = true → d < a0.tmps.size → (fill ops vals (fun _ => true) a0 n).eval (.tmp d) = vals k
  | 0, h, _ => by simp [okAt] at h
  | n + 1, h, hd => by
    simp only [okAt, Bool.and_eq_true, decide_eq_true_eq, List.all_eq_true, List.mem_range, Bool.or_eq_true] at h
    obtain ⟨⟨h1, h2⟩, h3⟩ := h
    have e : fill ops vals (fun _ => true) a0 (n + 1) = (fill ops vals (fun _ => true) a0 n).put (dstOf ops n) (vals n) := rfl
    rw [e]
    by_cases hk : k = n
    · subst hk
      rw [h2]
      exact eval_put_same (by rw [fill_size]; exact hd)
    · rw [eval_put_other (by rcases h3 n (by omega) with h | h; omega; exact h)]
      refine fill_at n ?_ hd
      simp only [okAt, Bool.and_eq_true, decide_eq_true_eq, List.all_eq_true, List.mem_range, Bool.or_eq_true]
      exact ⟨⟨by omega, h2⟩, fun j hj => h3 j (by omega)⟩
def noAt (ops : Array Oper) (n d : Nat) : Bool := (List.range n).all fun j => decide (dstOf ops j ≠ some d)
theorem fill_old {ops : Array Oper} {vals : Nat → Value} {a0 : Act} {d : Nat} : ∀ n, noAt ops n d = true → (fill ops vals (fun _ => true) a0 n).eval (.tmp d) = a0.eval (.tmp d)
  | 0, _ => rfl
  | n + 1, h => by
    simp only [noAt, decide_eq_true_eq, List.all_eq_true, List.mem_range] at h
    have e : fill ops vals (fun _ => true) a0 (n + 1) = (fill ops vals (fun _ => true) a0 n).put (dstOf ops n) (vals n) := rfl
    rw [e, eval_put_other (h n (by omega))]
    refine fill_old n ?_
    simp only [noAt, decide_eq_true_eq, List.all_eq_true, List.mem_range]
    exact fun j hj => h j (by omega)
end Go.RelJ
namespace Go.Proofs.YtnedkielehmneaaGreatDoor
open Go.RowKit
open Go.Shelf
set_option linter.unusedVariables false
set_option linter.unusedSimpArgs false
set_option maxRecDepth 8000

open Axm
def pickV (c : Int) (n : Nat) : Nat := (if c < 0 then -(c + 1) else c).toNat % n
theorem pick_lt {c : Int} {n : Nat} (h : 0 < n) : pickV c n < n := Nat.mod_lt _ h
def I64 (x : Int) : Prop := -9223372036854775808 ≤ x ∧ x < 9223372036854775808
theorem pick_c (c : Int) (n : Nat) (h0 : 0 < n) (hn : n < 9223372036854775807) (hc : I64 c) (w : World) : Calls Tryz.prog 22 #[vI c, vI n] w fun e w' => e = .returned (vI (pickV c n)) ∧ w' = w := by
  obtain ⟨hc1, hc2⟩ := hc
  have hn0 : ¬ ((n : Int) = 0) := by omega
  by_cases h : c < 0
  · have e : ((pickV c n : Nat) : Int) = -((c + 1).tmod (n : Int)) := by
      rw [pickV, if_pos h, Int.natCast_emod, Int.toNat_of_nonneg (by omega), ← Int.neg_tmod, Int.tmod_eq_emod_of_nonneg (by omega)]
    rw [e]
    go_enter Tryz.func22, Tryz.ntmps22
    go_wp2
    go_ret
    exact ⟨rfl, rfl⟩
  · have e : ((pickV c n : Nat) : Int) = c % (n : Int) := by
      rw [pickV, if_neg h, Int.natCast_emod, Int.toNat_of_nonneg (by omega)]
    rw [e]
    go_enter Tryz.func22, Tryz.ntmps22
    go_wp2
    go_ret
    exact ⟨rfl, rfl⟩
/-- Appending events. -/
theorem info36 : (Tryz.prog.info? 36).map (fun i => (i.zero, i.size, i.bytes)) = some (some (.agg zA), 13, 144) := by kernel_rfl
theorem EvO.cells {w : World} {base g n cap : Nat} {es : List EvX} (h : EvO w base (.slice (some ⟨g, 0, none⟩) n cap) es) (j : Nat) (u : Value) (hu : (evF es)[j]? = some u) : w.cell? ((⟨g, 0, none⟩ : Addr).add j) = some u := h.row.cells (g := g) rfl j u hu
theorem app_full {w : World} {base base' g h n m : Nat} {es fs : List EvX} (A : EvO w base (.slice (some ⟨g, 0, none⟩) n n) es) (B : EvO w base' (.slice (some ⟨h, 0, none⟩) m m) fs) (hn : es.length = n) (hm : fs.length = m) (h0 : 0 < m) (hl : (n + m) * 144 ≤ 140737488355328) (ty : TypeId) :
    ∃ v' w', (Builtin.append_ #[22, 22] ty #[.slice (some ⟨g, 0, none⟩) n n, .slice (some ⟨h, 0, none⟩) m m]).run Tryz.prog w = .ok v' w' ∧ EvO w' w.heap.size v' (es ++ fs) ∧ Below w.heap.size w w' := by
  obtain ⟨i, hi, hz, hs, hby⟩ := info_parts info36
  have hr := run_append_grow (P := Tryz.prog) w 22 ty 36 i (.agg zA) Tryz.underlying22 hi hz ⟨g, 0, none⟩ n n (evF es) (by rw [evF_len, hs, hn]) A.cells ⟨h, 0, none⟩ m m (evF fs) (by rw [evF_len, hs, hm]) B.cells (by omega) (by omega) (growslice_fits (by omega) (by rw [hby]; exact hl))
  have hB : Below w.heap.size w (w.drew.alloc (.cells ((evF es).toArray ++ (evF fs).toArray ++ Builtin.zeroCells (Value.agg zA).cells (grownCap w (n + m) n 36 - (n + m))) 36)) := (Rel.below_draws (n := 1) (Below.refl _ _)).trans ((below_alloc w.drew _).mono (Nat.le_refl _))
  refine ⟨_, _, hr, ⟨⟨evF_len _, .inr ⟨w.heap.size, _, _, by rw [List.length_append, hn, hm], Nat.le_refl _, heap_alloc_new w.drew _, ?_, grownCap_le_maxLen w _ _ _ (by simp only [maxLen]; omega), ?_, ?_⟩⟩, (A.deps.append B.deps).grow hB⟩, hB⟩
  · rw [List.length_append, hn, hm]; exact grownCap_ge w _ _ _
  · have := grownCap_ge w (n + m) n 36
    have h13 : (Value.agg zA).cells.size = 13 := rfl
    simp only [Array.size_append, List.size_toArray, size_zeroCells, evF_len, hn, hm, h13]
    omega
  · simp only [Array.toList_append, List.append_assoc, evF_append]
    rw [← List.append_assoc, List.length_append, Nat.add_mul, ← evF_len, ← evF_len, ← List.length_append]
    exact List.take_left
theorem wpList_app_full {ops : Array Oper} {rest : List Oper} {o : Oper} {a : Act} {w : World} {Q : Exit → Act → World → Prop} (hg : o.guard = none) (s x : Operand) (ho : o.op = .call { callee := .builtin .append, args := #[s, x], argTypes := #[22, 22] }) {base base' g h n m : Nat} {es fs : List EvX} (hs : a.eval s = .slice (some ⟨g, 0, none⟩) n n) (hx : a.eval x = .slice (some ⟨h, 0, none⟩) m m) (A : EvO w base (.slice (some ⟨g, 0, none⟩) n n) es) (B : EvO w base' (.slice (some ⟨h, 0, none⟩) m m) fs) (hn : es.length = n) (hm : fs.length = m) (h0 : 0 < m) (hl : (n + m) * 144 ≤ 140737488355328)
    (h : ∀ v' w', EvO w' w.heap.size v' (es ++ fs) → Below w.heap.size w w' → wpList Tryz.prog ops Q rest (a.put o.dst v') w') : wpList Tryz.prog ops Q (o :: rest) a w :=
  wpList_plain hg fun _ hK => by
    obtain ⟨v', w', hr, h1, h2⟩ := app_full A B hn hm h0 hl o.type
    unfold Oper.wp execOp
    simp only [ho, resolve, invoke, builtin, Sem.run_bind, Sem.run_pure, Result.andThen_ok, List.map_toArray, List.map_cons, List.map_nil, hs, hx, hr]
    exact hK _ _ (h v' w' h1 h2)
section
variable {o : Oper} {a : Act} {w : World} {F : Value → World → Prop}
theorem up_move {v : Value} (x : Operand) (ho : o.op = .move x ∨ o.op = .assign x) (hx : a.eval x = v) (hF : F v w) : Chn.upon Tryz.prog F w ((execOp a.eval o).run Tryz.prog w) := by
  unfold execOp
  rcases ho with ho | ho <;> (simp only [ho, hx, Sem.run_pure]; exact hF)
theorem up_load {t : Nat} {e : Ev} {s0 s1 s2 : Value} (x : Operand) (ho : o.op = .load 36 x) (hx : a.eval x = ptr t 0) (H : LocE t (evA e s0 s1 s2) w) (hF : F (.agg (evA e s0 s1 s2)) w) : Chn.upon Tryz.prog F w ((execOp a.eval o).run Tryz.prog w) := by
  unfold execOp
  have hr : (loadVar 36 ⟨t, 0, none⟩).run Tryz.prog w = .ok (.agg (evA e s0 s1 s2)) w := run_loadVar_mid w t 0 36 (evA e s0 s1 s2).toList _ (fun j v hv => by rw [Nat.zero_add, H.cell]; simpa using hv) Tryz.underlying36 rfl (by show _ = some 13; kernel_rfl)
  have hx' : a.eval x = .pointer (some ⟨t, 0, none⟩) := hx
  simp only [ho, hx', Instr.loadAt, Instr.sureAddr, Sem.run_bind, Sem.run_pure, Result.andThen_ok, hr]
  exact hF
theorem up_extract {vs : Array Value} {v : Value} (x : Operand) (k : Nat) (ho : o.op = .extract x k) (hx : a.eval x = .tuple vs) (hr : (Instr.extract (.tuple vs) k).run Tryz.prog w = .ok v w) (hF : F v w) : Chn.upon Tryz.prog F w ((execOp a.eval o).run Tryz.prog w) := by
  unfold execOp
  simp only [ho, hx, Sem.run_bind, hr, Result.andThen_ok]
  exact hF
theorem up_new27 (ho : o.op = .alloc 27) (hF : F (ptr w.heap.size 0) (w.alloc (.cells (verV false false false) 27))) : Chn.upon Tryz.prog F w ((execOp a.eval o).run Tryz.prog w) := by
  unfold execOp
  have hz : (Tryz.prog.info? 27).map (·.zero) = some (some (.agg (verV false false false))) := by kernel_rfl
  cases hq : Tryz.prog.info? 27 with
  | none => rw [hq] at hz; cases hz
  | some i =>
    rw [hq] at hz
    have h1 : i.zero = some (.agg (verV false false false)) := by simpa using hz
    have hr : (Instr.alloc 27 true (.tuple #[])).run Tryz.prog w = .ok (ptr w.heap.size 0) (w.alloc (.cells (verV false false false) 27)) := by
      simp [Instr.alloc, zeroValue, typeInfo, hq, h1, newVar, newRow, run_newObj_alloc, Value.cells]
    simp only [ho, Sem.run_bind, hr, Result.andThen_ok]
    exact hF
end
end Go.Proofs.YtnedkielehmneaaGreatDoor
