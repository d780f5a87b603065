/- Marks held against each other; without. -/
import Derived.Test.YtgloemlbkkjcaaaMb
import Derived.Laws.StructEq
import Derived.ChangeKeysEq
import Derived.Deep.AppendLies
namespace Go.Proofs.Ytgloemlbkkjcaaa
open Go.RowKit
set_option linter.unusedVariables false
set_option linter.unusedSimpArgs false

def eqM (c d : Mk) : Bool := c.1 == d.1 && c.2 == d.2
theorem eqM_iff {c d : Mk} : eqM c d = true ↔ c = d := by
  obtain ⟨a, b⟩ := c
  obtain ⟨e, f⟩ := d
  simp [eqM]
theorem stood55 : Try.prog.stoodInHeld 55 = false := by kernel_rfl
theorem guard55 : Try.prog.eqGuardType Try.prog.depth 55 = false := by kernel_rfl
theorem fields55 : Try.prog.underlying 55 = some (.struct (Try.prog.fieldsOf 55)) := by rw [Program.fieldsOf, Try.underlying55]
theorem eqField {d : Nat} {xs ys : Array Value} {f : Field} {fs : List Field} {r s : Bool} (w : World) (hn : f.name ≠ "_")
    (h : ((part f.type xs f.offset).run Try.prog w).andThen (fun a w1 => ((part f.type ys f.offset).run Try.prog w1).andThen fun b w2 => (Op.equalIn d f.type a b).run Try.prog w2) = .ok r w)
    (hs : (Op.eqFields d xs ys fs).run Try.prog w = .ok s w) : (Op.eqFields d xs ys (f :: fs)).run Try.prog w = .ok (r && s) w := by
  simp only [Op.eqFields, if_pos hn, Sem.run_bind]
  generalize (part f.type xs f.offset).run Try.prog w = r1 at h ⊢
  cases r1 with
  | ok a w1 =>
    simp only [Result.andThen_ok] at h ⊢
    generalize (part f.type ys f.offset).run Try.prog w1 = r2 at h ⊢
    cases r2 with
    | ok b w2 =>
      simp only [Result.andThen_ok] at h ⊢
      rw [h]
      cases r
      · simp
      · simpa using hs
    | halt x w2 => simp [Result.andThen] at h
  | halt x w1 => simp [Result.andThen] at h
theorem part_u (xs : Array Value) (k : Nat) (v : Value) (w : World) (h : xs[k]? = some v) : (part 30 xs k).run Try.prog w = .ok v w := by
  simp [part, isAgg, run_underlying Try.underlying30, h]
theorem part_b (xs : Array Value) (k : Nat) (v : Value) (w : World) (h : xs[k]? = some v) : (part 4 xs k).run Try.prog w = .ok v w := by
  simp [part, isAgg, run_underlying Try.underlying4, h]
theorem mk_eq (c d : Mk) (w : World) : (Op.equalIn 10000 55 c.val d.val).run Try.prog w = .ok (eqM c d) w := by
  rw [run_equalIn_agg w 9999 55 _ _ fields55 stood55]
  rw [show (Try.prog.fieldsOf 55).toList = [⟨"there", 4, 0, false, "", "understudy/monitor", 0⟩, ⟨"line", 30, 1, false, "", "understudy/monitor", 8⟩] by kernel_rfl]
  have e : eqM c d = (c.1 == d.1 && (c.2 == d.2 && true)) := by simp [eqM]
  rw [e]
  refine eqField (r := c.1 == d.1) w (by decide) ?_ (eqField (r := c.2 == d.2) w (by decide) ?_ ?_)
  · simp only [part_b #[.bool c.1, vU c.2] 0 (.bool c.1) _ rfl, part_b #[.bool d.1, vU d.2] 0 (.bool d.1) _ rfl, Result.andThen_ok, run_equalIn_bool' w 9998 4 _ _ Try.underlying4]
  · simp only [part_u #[.bool c.1, vU c.2] 1 (vU c.2) _ rfl, part_u #[.bool d.1, vU d.2] 1 (vU d.2) _ rfl, Result.andThen_ok, run_equalIn_int w 9998 30 .u64 .u64 _ _ Try.underlying30]
  · simp [Op.eqFields]
theorem wpList_eqlM {ops : Array Oper} {rest : List Oper} {o : Oper} {a : Act} {w : World} {Q : Exit → Act → World → Prop} (hw : Region.wanted o (yielded ops a.tmps) = true) (x y : Operand) (ho : o.op = .binOp .eql 55 x y 55)
    (s t : Mk) (hx : a.eval x = s.val) (hy : a.eval y = t.val) (h : wpList Try.prog ops Q rest (a.put o.dst (.bool (eqM s t))) w) : wpList Try.prog ops Q (o :: rest) a w := by
  refine BigFrame.wpList_want hw fun K hK => ?_
  have he := mk_eq s t w
  unfold Oper.wp execOp
  simp only [ho, hx, hy, Sem.run_bind, run_eqGuard_agg w _ _ _ _ _ _ guard55, Result.andThen_ok, run_eql_struct, he]
  exact hK _ _ h
theorem ne_of_type {w : World} {a b : Nat} {X Y : Array Value} {t u : TypeId} {f f' : Nat × Nat} (h : w.heap[a]? = some (.cells X t f)) (k : w.heap[b]? = some (.cells Y u f')) (hn : t ≠ u) : a ≠ b := by
  rintro rfl
  rw [h] at k
  cases k
  exact hn rfl
theorem own_ne {w : World} {b base n size : Nat} {X : Array Value} {t e : TypeId} {f : Nat × Nat} {v : Value} {xs : List Value} (h : w.heap[b]? = some (.cells X t f)) (k : w.ownsRow base e size v n xs) (hn : t ≠ e) : v.ownBlock ≠ some b := by
  intro hb
  rcases k.2 with ⟨rfl, _⟩ | ⟨g, cap, cur, rfl, _, hg, _⟩
  · cases hb
  · obtain rfl : g = b := by simpa [Value.ownBlock] using hb
    exact ne_of_type h hg hn rfl
theorem inf3 : ∃ i, Try.prog.info? 3 = some i ∧ i.zero = some (vI 0) ∧ i.size = 1 ∧ i.bytes = 8 := by
  have h : (Try.prog.info? 3).map (fun i => (i.zero, i.size, i.bytes)) = some (some (vI 0), 1, 8) := by kernel_rfl
  cases hq : Try.prog.info? 3 with
  | none => rw [hq] at h; cases h
  | some i =>
    rw [hq] at h
    simp only [Option.map_some, Option.some.injEq, Prod.mk.injEq] at h
    exact ⟨i, rfl, h.1, h.2.1, h.2.2⟩
theorem add_zero_addr (b k : Nat) (j : Nat) : (⟨b, k, none⟩ : Addr).add j = ⟨b, k + j, none⟩ := by unfold Addr.add; split <;> simp_all
theorem own_of_block {w w' : World} {base size n : Nat} {e : TypeId} {v : Value} {xs : List Value} (h : w.ownsRow base e size v n xs) (hb : ∀ k, v.ownBlock = some k → w'.heap[k]? = w.heap[k]?) : w'.ownsRow base e size v n xs := by
  refine ⟨h.1, ?_⟩
  rcases h.2 with hn | ⟨g, cap, cur, rfl, h1, h2, rest⟩
  · exact .inl hn
  · exact .inr ⟨g, cap, cur, rfl, h1, by rw [hb g rfl]; exact h2, rest⟩
theorem goes_grown {F : Nat → Prop} {w w' : World} {row : Option Nat} (h : w.grownBy w' row) (hr : ∀ k, row = some k → F k) : Goes F w w' :=
  ⟨h.os, h.tape, h.output, h.size, fun k hk hn => h.block k hk fun e => hn (hr k e.symm)⟩
/-- A slice that is owned, by its length alone. -/
theorem own_len {w : World} {base size n : Nat} {e : TypeId} {v : Value} {xs : List Value} (h : w.ownsRow base e size v n xs) : ∃ ao cap, v = .slice ao n cap ∧ n ≤ cap ∧ cap ≤ maxLen := by
  rcases h.2 with ⟨rfl, rfl⟩ | ⟨g, cap, cur, rfl, _, _, h1, h2, _⟩
  · exact ⟨none, 0, rfl, Nat.le_refl _, Nat.zero_le _⟩
  · exact ⟨_, cap, rfl, h1, h2⟩
/-- A number appended to a row of a call's own. -/
theorem wpList_app_intb {ops : Array Oper} {rest : List Oper} {o : Oper} {a : Act} {w : World} {Q : Exit → Act → World → Prop} (hgd : o.guard = none) (s x : Operand)
    (ho : o.op = .call { callee := .builtin .append, args := #[s, x], argTypes := #[40, 40] }) (base : Nat) (v : Value) (l : List Int) (hs : a.eval s = v) (hown : w.ownsRow base 3 1 v l.length (l.map vI)) (hbase : base ≤ w.heap.size)
    (b k c : Nat) (n : Int) (hx : a.eval x = .slice (some ⟨b, k, none⟩) 1 c) (hc : w.cell? ⟨b, k, none⟩ = some (vI n)) (hl : l.length < 1000000000)
    (h : ∀ g cap w', w'.ownsRow base 3 1 (.slice (some ⟨g, 0, none⟩) (l.length + 1) cap) (l ++ [n]).length ((l ++ [n]).map vI) → w.grownBy w' v.ownBlock → (v.ownBlock = some g ∨ g = w.heap.size) → g < w'.heap.size →
      wpList Try.prog ops Q rest (a.put o.dst (.slice (some ⟨g, 0, none⟩) (l.length + 1) cap)) w') : wpList Try.prog ops Q (o :: rest) a w := by
  obtain ⟨i, h1, h2, h3, h4⟩ := inf3
  refine wpList_append_lies w hgd s x 40 ho base 3 i (vI 0) 1 8 Try.underlying40 h1 h2 h3 h4 rfl (by decide) v l.length (l.map vI) hs hown ⟨b, k, none⟩ 1 c [vI n] hx rfl ?_ ?_ (by decide) (by simp only [maxLen]; omega) (by omega) hbase w.heap.size rfl ?_
  · intro j u hj
    match j with
    | 0 => simp at hj; subst hj; rw [add_zero_addr]; exact hc
    | j + 1 => simp at hj
  · intro u hu; simp at hu; subst hu; rfl
  · intro g cap w' q1 q2 q3 q4
    refine h g cap w' ?_ q2 q3 q4
    rw [List.length_append, List.map_append]
    exact q1
/-- What is under way: a row of numbers beside. -/
structure Tks (w0 : World) (v : Value) (l : List Int) (w : World) : Prop where
  row : w.ownsRow w0.heap.size 3 1 v l.length (l.map vI)
  below : Below w0.heap.size w0 w
theorem Tks.grow {w0 w w' : World} {v : Value} {l : List Int} (h : Tks w0 v l w) (hb : Below w.heap.size w w') : Tks w0 v l w' :=
  ⟨own_of_block h.row fun b hk => hb.block b (h.row.lt b hk).2, below_then h.below (Nat.le_refl _) hb⟩
theorem Tks.app {w0 w w1 w2 : World} {v : Value} {l : List Int} (h : Tks w0 v l w) (hB : Below w.heap.size w w1) {b n cap : Nat} {a : Int} (q1 : w2.ownsRow w0.heap.size 3 1 (.slice (some ⟨b, 0, none⟩) n cap) (l ++ [a]).length ((l ++ [a]).map vI)) (q2 : w1.grownBy w2 v.ownBlock) : Tks w0 (.slice (some ⟨b, 0, none⟩) n cap) (l ++ [a]) w2 :=
  ⟨q1, (below_then h.below (Nat.le_refl _) hB).trans ((goes_grown (F := fun k => v.ownBlock = some k) q2 fun k hk => hk).below (Nat.le_trans h.below.size hB.size) fun k hk => (h.row.lt k hk).1)⟩
/-- What is left of marks behind j cores, and who has lost his. -/
def hitM (ms : List Mk) (c : Int) (s : Mk) (j : Nat) : Bool := decide ((j : Int) ≠ c) && decide (ms[j]? = some s)
def wip (ms : List Mk) (c : Int) (s : Mk) : Nat → List Mk
  | 0 => ms
  | j + 1 => if hitM ms c s j then (wip ms c s j).set j (false, 0) else wip ms c s j
def lst (ms : List Mk) (c : Int) (s : Mk) : Nat → List Int
  | 0 => []
  | j + 1 => if hitM ms c s j then lst ms c s j ++ [(j : Int)] else lst ms c s j
theorem wip_len (ms : List Mk) (c : Int) (s : Mk) (j : Nat) : (wip ms c s j).length = ms.length := by
  induction j with
  | zero => rfl
  | succ j ih => rw [wip]; split <;> simp [ih]
theorem lst_len (ms : List Mk) (c : Int) (s : Mk) (j : Nat) : (lst ms c s j).length ≤ j := by
  induction j with
  | zero => exact Nat.le_refl _
  | succ j ih =>
    rw [lst]
    split
    · rw [List.length_append, List.length_singleton]; omega
    · omega
/-- A world in which the copy and the row of numbers lie. -/
structure Wo (w0 : World) (b : Nat) (ms : List Mk) (s : Mk) (v : Value) (l : List Int) (w : World) : Prop where
  three : Three w0 b ms s w
  row : w.ownsRow w0.heap.size 3 1 v l.length (l.map vI)
theorem Wo.grow {w0 w w' : World} {b : Nat} {ms : List Mk} {s : Mk} {v : Value} {l : List Int} (h : Wo w0 b ms s v l w) (hb : Below w.heap.size w w') : Wo w0 b ms s v l w' := by
  obtain ⟨zs, hz1, hz2⟩ := h.three.z
  refine ⟨⟨below_then h.three.below (Nat.le_refl _) (hb.mono h.three.below.size |> fun _ => hb), h.three.low, ?_, ?_, ⟨zs, hz1, ?_⟩, h.three.len⟩, own_of_block h.row fun k hk => hb.block k (h.row.lt k hk).2⟩
  · rw [hb.block _ (lt_of_some h.three.a)]; exact h.three.a
  · rw [hb.block _ (lt_of_some h.three.k)]; exact h.three.k
  · rw [hb.block _ (lt_of_some hz2)]; exact hz2
theorem Wo.put {w0 w : World} {b : Nat} {ms : List Mk} {s : Mk} {v : Value} {l : List Int} (h : Wo w0 b ms s v l w) (k : Nat) (t : Mk) : Wo w0 b (ms.set k t) s v l (w.setRow b (seg (flatM ms) (k * 2) t.row).toArray) :=
  ⟨h.three.put k t, own_of_block h.row fun j hj => setRow_other _ _ _ _ (fun e => own_ne h.three.a h.row (by decide) (e ▸ hj))⟩
theorem Wo.app {w0 w w1 w2 : World} {b' : Nat} {ms : List Mk} {s : Mk} {v : Value} {l : List Int} (h : Wo w0 b' ms s v l w) (hB : Below w.heap.size w w1) {b n cap : Nat} {a : Int} (q1 : w2.ownsRow w0.heap.size 3 1 (.slice (some ⟨b, 0, none⟩) n cap) (l ++ [a]).length ((l ++ [a]).map vI)) (q2 : w1.grownBy w2 v.ownBlock) : Wo w0 b' ms s (.slice (some ⟨b, 0, none⟩) n cap) (l ++ [a]) w2 := by
  have h1 := h.grow hB
  obtain ⟨zs, hz1, hz2⟩ := h1.three.z
  refine ⟨⟨h1.three.below.trans ((goes_grown (F := fun k => v.ownBlock = some k) q2 fun k hk => hk).below h1.three.below.size fun k hk => (h1.row.lt k hk).1), h1.three.low, ?_, ?_, ⟨zs, hz1, ?_⟩, h1.three.len⟩, q1⟩
  · rw [q2.block _ (lt_of_some h1.three.a) (fun e => own_ne h1.three.a h1.row (by decide) e.symm)]; exact h1.three.a
  · rw [q2.block _ (lt_of_some h1.three.k) (fun e => own_ne h1.three.k h1.row (by decide) e.symm)]; exact h1.three.k
  · rw [q2.block _ (lt_of_some hz2) (fun e => own_ne hz2 h1.row (by decide) e.symm)]; exact hz2
theorem back_mi {fn : Func} {p u : Tmp} (h : fn.results = #[.cell p 57, .tmp u]) (tmps : Array Value) (w : World) (g : Nat) (ms : List Mk) (hp : tmps.getD p undef = ptr g 0) (hl : ms.length = 8) (hg : w.heap[g]? = some (.cells (flatM ms).toArray 57)) :
    (results fn tmps).run Try.prog w = .ok (.tuple #[.agg (flatM ms).toArray, tmps.getD u undef]) w := by
  have hp' : tmps[p]?.getD undef = .pointer (some ⟨g, 0, none⟩) := by simpa using hp
  have hl2 := run_loadVar_row (P := Try.prog) w g 57 57 _ (0, 0) _ hg Try.underlying57 rfl (by rw [List.size_toArray]; exact size57 hl)
  simp [results, h, hp', asAddr, hl2]
theorem flatM_cut {ms : List Mk} {k : Nat} {s : Mk} (h : ms[k]? = some s) : (flatM ms).toArray.extract (k * 2) (k * 2 + 2) = s.row.toArray := by
  have h1 := flatM_get h
  have hk : k < ms.length := (List.getElem?_eq_some_iff.1 h).1
  have hn := len_flatM ms
  apply Array.ext_getElem?
  intro j
  rw [Array.getElem?_extract]
  by_cases hj : j < 2
  · rcases (by omega : j = 0 ∨ j = 1) with rfl | rfl
    · rw [if_pos (by simp; omega)]; simpa [Mk.row] using h1.1
    · rw [if_pos (by simp; omega)]; simpa [Mk.row] using h1.2
  · rw [if_neg (by simp; omega)]
    simp [Mk.row]; omega
theorem run_indexM (ms : List Mk) (k : Nat) (s : Mk) (w : World) (h : ms[k]? = some s) (hk : k < 8) : (Instr.index 57 (.agg (flatM ms).toArray) (vI k)).run Try.prog w = .ok s.val w := by
  have hn : (0 : Int) ≤ k ∧ (k : Int) < ((8 : Nat) : Int) := by omega
  have hi : ∃ i, Try.prog.info? 55 = some i ∧ i.size = 2 := by
    have := inf55
    cases hq : Try.prog.info? 55 with
    | none => rw [hq] at this; cases this
    | some i => exact ⟨i, rfl, by simpa [hq] using this⟩
  obtain ⟨i, h1, h2⟩ := hi
  have hc := flatM_cut h
  have hsz : ∀ w, (sizeOf 55).run Try.prog w = .ok 2 w := fun w => by simp [sizeOf, typeInfo, h1, h2]
  simp only [Instr.index, asIntOf, Sem.run_bind, Sem.run_pure, Result.andThen_ok, run_underlying Try.underlying57, if_pos hn, part, isAgg, run_underlying Try.underlying55, hsz, Int.toNat_natCast, if_true, hc]
  rfl
theorem wpList_indexM {ops : Array Oper} {rest : List Oper} {o : Oper} {a : Act} {w : World} {Q : Exit → Act → World → Prop} (hgd : o.guard = none) (x y : Operand) (ho : o.op = .index 57 x y) (ms : List Mk) (hx : a.eval x = .agg (flatM ms).toArray) (k : Nat) (hy : a.eval y = vI k) (s : Mk) (hs : ms[k]? = some s) (hk : k < 8)
    (h : wpList Try.prog ops Q rest (a.put o.dst s.val) w) : wpList Try.prog ops Q (o :: rest) a w :=
  wpList_plain hgd fun _ hK => by
    unfold Oper.wp execOp
    simp only [ho, hx, hy, Sem.run_bind, run_indexM ms k s w hs hk, Result.andThen_ok]
    exact hK _ _ h
set_option maxRecDepth 8000 in
set_option maxHeartbeats 2000000 in
theorem without_c (ms : List Mk) (c : Int) (s : Mk) (w : World) (hl : ms.length = 8) : Calls Try.prog 22 #[.agg (flatM ms).toArray, vI c, s.val] w fun e w' => ∃ ha hc, e = .returned (.tuple #[.agg (flatM (wip ms c s 8)).toArray, .slice ha (lst ms c s 8).length hc]) ∧ Tks w (.slice ha (lst ms c s 8).length hc) (lst ms c s 8) w' := by
  go_enter Try.func22, Try.ntmps22
  go_upto_region 2 with fail
  have T : Three w w.heap.size ms s (((w.alloc (.cells (flatM ms).toArray 57)).alloc (.cells s.row.toArray 55)).alloc (.cells (flatM nilM).toArray 57)) := three_new w ms s hl
  generalize hy : (World.alloc (World.alloc (World.alloc w _) _) _) = y
  replace T : Wo w w.heap.size ms s (.slice none 0 0) [] y := by rw [← hy]; exact ⟨T, World.ownsRow_nil _ _ _ _⟩
  clear hy
  generalize hb0 : w.heap.size = b at T ⊢
  have hr : y.rangeAt b 0 (flatM ms) := range_of T.three.a (fun j v h => by simpa using h)
  go_wp2_with (first | ((with_reducible refine wpList_loadMs rfl _ rfl _ _ rfl ms hr hl ?_); simp only [Act.put, List.setIfInBounds_toArray, List.set_cons_succ, List.set_cons_zero]))
  clear hr
  go_loopw [8, 12] (fun s8 s12 wr => ∃ i : Nat, i ≤ 8 ∧ s12 = .int .i64 i ∧ ∃ ha n hc, s8 = .slice ha n hc ∧ Hid ((lst ms c s i).length = n) ∧ Hid (Wo w b (wip ms c s i) s (.slice ha n hc) (lst ms c s i) wr)) (fun _ s12 _ => 8 - (intOf s12).toNat)
  case atStart => exact ⟨0, Nat.zero_le _, rfl, none, 0, 0, rfl, rfl, T⟩
  case round =>
    obtain ⟨i, hi, rfl, ha, n, hc, rfl, hn, hH⟩ := hrel
    have P := hH.out
    clear hH T
    by_cases hlt : (i : Int) < 8
    · have hi8 : i < 8 := by omega
      have hx : ms[i]? = some ms[i] := List.getElem?_eq_getElem (by omega)
      generalize ms[i] = m at hx
      have hi0 : (0 : Int) ≤ i := by omega
      go_upto_region 5 with (first | ((with_reducible refine wpList_indexM rfl _ _ rfl ms rfl i rfl m hx hi8 ?_); simp only [Act.put, List.setIfInBounds_toArray, List.set_cons_succ, List.set_cons_zero]))
      have P1 : Wo w b (wip ms c s i) s (.slice ha n hc) (lst ms c s i) (wr.alloc (.cells #[.bool m.1, .int .u64 m.2] 55)) := P.grow (below_alloc _ _)
      have hm : (wr.alloc (.cells #[.bool m.1, .int .u64 m.2] 55)).heap[wr.heap.size]? = some (.cells m.row.toArray 55) := heap_alloc_new _ _
      generalize wr.heap.size = q at hm ⊢
      generalize World.alloc wr _ = y1 at P1 hm ⊢
      clear P
      have r1 : y1.rangeAt q 0 m.row := range_of hm (fun j v h => by simpa using h)
      have r2 : y1.rangeAt (b + 1) 0 s.row := range_of P1.three.k (fun j v h => by simpa using h)
      have hwl := wip_len ms c s i
      have hll := lst_len ms c s i
      by_cases hic : (i : Int) = c
      · have hhit : hitM ms c s i = false := by simp [hitM, hic]
        have e1 : lst ms c s (i + 1) = lst ms c s i := by rw [lst, hhit]; rfl
        have e2 : wip ms c s (i + 1) = wip ms c s i := by rw [wip, hhit]; rfl
        have hic' : ((i : Int) != c) = false := by simpa using hic
        go_wp2
        go_roundw
        case rel => exact ⟨i + 1, by omega, by go_num, ha, n, hc, rfl, by rw [e1]; exact hn, by rw [e1, e2]; exact P1⟩
        case measure => simp [intOf]; omega
      · have hic' : ((i : Int) != c) = true := by simpa using hic
        cases hq : eqM m s
        · have hhit : hitM ms c s i = false := by
            simp only [hitM, hx, Bool.and_eq_false_iff, decide_eq_false_iff_not, Option.some.injEq]
            exact .inr fun e => by rw [eqM_iff.2 e] at hq; cases hq
          have e1 : lst ms c s (i + 1) = lst ms c s i := by rw [lst, hhit]; rfl
          have e2 : wip ms c s (i + 1) = wip ms c s i := by rw [wip, hhit]; rfl
          go_wp2_with (first | ((with_reducible refine wpList_loadMk rfl _ rfl q 0 rfl m r1 ?_); simp only [Act.put, List.setIfInBounds_toArray, List.set_cons_succ, List.set_cons_zero]) | ((with_reducible refine wpList_loadMk rfl _ rfl (b + 1) 0 rfl s r2 ?_); simp only [Act.put, List.setIfInBounds_toArray, List.set_cons_succ, List.set_cons_zero]) | ((with_reducible refine wpList_eqlM rfl _ _ rfl m s rfl rfl ?_); simp only [Act.put, List.setIfInBounds_toArray, List.set_cons_succ, List.set_cons_zero]; rw [hq]))
          go_roundw
          case rel => exact ⟨i + 1, by omega, by go_num, ha, n, hc, rfl, by rw [e1]; exact hn, by rw [e1, e2]; exact P1⟩
          case measure => simp [intOf]; omega
        · have hhit : hitM ms c s i = true := by simp [hitM, hx, hic, eqM_iff.1 hq]
          have e1 : lst ms c s (i + 1) = lst ms c s i ++ [(i : Int)] := by rw [lst, hhit]; rfl
          have e2 : wip ms c s (i + 1) = (wip ms c s i).set i (false, 0) := by rw [wip, hhit]; rfl
          have hcc : i * 2 + 2 ≤ (flatM (wip ms c s i)).length := by rw [len_flatM, hwl, hl]; omega
          go_upto_region 7 with (first | ((with_reducible refine wpList_loadMk rfl _ rfl q 0 rfl m r1 ?_); simp only [Act.put, List.setIfInBounds_toArray, List.set_cons_succ, List.set_cons_zero]) | ((with_reducible refine wpList_loadMk rfl _ rfl (b + 1) 0 rfl s r2 ?_); simp only [Act.put, List.setIfInBounds_toArray, List.set_cons_succ, List.set_cons_zero]) | ((with_reducible refine wpList_eqlM rfl _ _ rfl m s rfl rfl ?_); simp only [Act.put, List.setIfInBounds_toArray, List.set_cons_succ, List.set_cons_zero]; rw [hq]) | ((with_reducible refine wpList_storeMk rfl _ _ rfl b (i * 2) rfl (false, 0) rfl (flatM (wip ms c s i)) 57 P1.three.a hcc ?_); simp only [Act.put, List.setIfInBounds_toArray, List.set_cons_succ, List.set_cons_zero]))
          have P2 := P1.put i (false, 0)
          rw [← e2] at P2
          generalize World.setRow y1 b _ = y2 at P2 ⊢
          clear r1 r2 hm P1
          have hbase : w.heap.size ≤ y2.heap.size := P2.three.below.size
          generalize hL : lst ms c s i = L at P2 hn hll e1
          have hn' := hn.out
          subst hn'
          go_wp2_with (at_builtin; refine wpList_app_intb (by rfl) _ _ (by rfl) w.heap.size (.slice ha L.length hc) L (by rfl) (P2.grow (below_alloc _ _)).row (Nat.le_trans hbase (below_alloc _ _).size) y2.heap.size 0 1 (i : Int) (by rfl) (by rw [World.cell?_alloc_new]; rfl) (by omega) ?_; intro b2 acap y3 q1 q2 q3 q4; simp only [Act.put, List.setIfInBounds_toArray, List.set_cons_succ, List.set_cons_zero])
          have P3 := P2.app (below_alloc _ _) q1 q2
          go_roundw
          case rel => exact ⟨i + 1, by omega, by go_num, _, _, _, rfl, by rw [e1]; show _ = _; simp, by rw [e1]; exact P3⟩
          case measure => simp [intOf]; omega
    · obtain rfl : i = 8 := by omega
      have hl2 : (wip ms c s 8).length = 8 := by rw [wip_len, hl]
      generalize hns : wip ms c s 8 = ns at P hl2
      generalize hls : lst ms c s 8 = L at P hn
      have hn' := hn.out
      subst hn'
      obtain ⟨zs, hz1, hz2⟩ := P.three.z
      have hr : wr.rangeAt b 0 (flatM ns) := range_of P.three.a (fun j v h => by simpa using h)
      have hcc : 0 + 16 ≤ (flatM zs).length := by rw [len_flatM, hz1]; decide
      go_wp2_with (first | ((with_reducible refine wpList_loadMs rfl _ rfl _ _ rfl ns hr hl2 ?_); simp only [Act.put, List.setIfInBounds_toArray, List.set_cons_succ, List.set_cons_zero]) | ((with_reducible refine wpList_storeMs rfl _ _ rfl (b + 1 + 1) 0 rfl ns rfl hl2 (flatM zs) 57 hz2 hcc ?_); simp only [Act.put, List.setIfInBounds_toArray, List.set_cons_succ, List.set_cons_zero]))
      refine bodyPost_ret (back_mi rfl _ _ (b + 1 + 1) ns rfl hl2 ?_) rfl ⟨ha, hc, rfl, ?_, ?_⟩
      · rw [seg_marks (by rw [hl2, hz1])]; exact setRow_heap _ _ _ _ _ _ hz2
      · exact own_of_block P.row fun j hj => setRow_other _ _ _ _ (fun e => own_ne hz2 P.row (by decide) (e ▸ hj))
      · exact P.three.below.trans ((goes_setRow (F := fun k => k = b + 1 + 1) wr rfl _).below P.three.below.size (fun k e => by have := P.three.low; omega))
end Go.Proofs.Ytgloemlbkkjcaaa
