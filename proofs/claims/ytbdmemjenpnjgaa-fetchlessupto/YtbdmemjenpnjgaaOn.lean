/- once. -/
import Derived.Test.YtbdmemjenpnjgaaTj
namespace Go.Proofs.Ytbdmemjenpnjgaa
open Go.RowKit
set_option linter.unusedVariables false
set_option linter.unusedSimpArgs false
set_option maxRecDepth 8000

open Go.Shelf Go.Maps
abbrev wrdV (l : List Nat) : List Value := l.map fun (x : Nat) => v32 (x : Int)
theorem wrdV_append (l m : List Nat) : wrdV (l ++ m) = wrdV l ++ wrdV m := by simp [wrdV]
/-- A slice of words, to be read. -/
structure Wds (w : World) (v : Value) (l : List Nat) : Prop where
  len : ∃ ao cap, v = .slice ao l.length cap
  max : l.length ≤ 4398046511105
  cell : 0 < l.length → ∃ g off cap, v = .slice (some ⟨g, off, none⟩) l.length cap ∧ g < w.heap.size ∧ ∀ (i x : Nat), l[i]? = some x → w.cell? ⟨g, off + i, none⟩ = some (v32 x)
theorem Wds.grow {w w' : World} {v : Value} {l : List Nat} (h : Wds w v l) (hb : Below w.heap.size w w') : Wds w' v l :=
  ⟨h.len, h.max, fun h0 => by
    obtain ⟨g, off, cap, e, hg, hc⟩ := h.cell h0
    exact ⟨g, off, cap, e, Nat.lt_of_lt_of_le hg hb.size, fun i x hx => by rw [hb.cell (p := ⟨g, off + i, none⟩) hg]; exact hc i x hx⟩⟩
theorem wds_of_own {w : World} {base : Nat} {v : Value} {l : List Nat} (h : w.ownsRow base 24 1 v l.length (wrdV l)) (hm : l.length ≤ 4398046511105) : Wds w v l := by
  obtain ⟨ao, cap, rfl, h1, h2⟩ := own_len h
  refine ⟨⟨ao, cap, rfl⟩, hm, fun h0 => ?_⟩
  obtain ⟨g, cap', e', h3, h4, h5, h6, h7⟩ := own_addr h h0
  refine ⟨g, 0, cap', e', h5, fun i x hx => ?_⟩
  have hi : i < l.length := (List.getElem?_eq_some_iff.1 hx).1
  rw [Nat.zero_add, h6 i (by omega)]
  simp [hx]
theorem info24 : (Try.prog.info? 24).map (fun i => (i.zero, i.size, i.bytes)) = some (some (v32 0), 1, 4) := by kernel_rfl
theorem wpList_put {ops : Array Oper} {rest : List Oper} {o : Oper} {a : Act} {w : World} {Q : Exit → Act → World → Prop} (hg : o.guard = none) (t : TypeId) (m x v : Operand) (ho : o.op = .mapUpdate t m x v) {mv xv vv : Value} (hm : a.eval m = mv) (hx : a.eval x = xv) (hv : a.eval v = vv) {C : World → Prop} (hrun : ∃ w', (Instr.mapUpdate t mv xv vv).run Try.prog w = .ok () w' ∧ C w')
    (h : ∀ w', C w' → wpList Try.prog ops Q rest (a.put o.dst undef) w') : wpList Try.prog ops Q (o :: rest) a w :=
  wpList_plain hg fun _ hK => by
    obtain ⟨w', hr, hC⟩ := hrun
    unfold Oper.wp execOp
    simp only [ho, hm, hx, hv, Sem.run_bind, Sem.run_pure, Result.andThen_ok, hr]
    exact hK _ _ (h w' hC)
def Seen (b M : Nat) (l : List Nat) (w : World) : Prop := ∃ f, MapF Try.prog 24 b M f w ∧ ∀ x : Nat, x < 4294967296 → (f (v32 x)).getD (.agg #[]) = .agg #[] ∧ (f (v32 x)).isSome = l.contains x
theorem Seen.keep {b M : Nat} {l : List Nat} {w w' : World} (h : Seen b M l w) (hb : w'.heap[b]? = w.heap[b]?) : Seen b M l w' := by obtain ⟨f, h1, h2⟩ := h; exact ⟨f, h1.keep hb, h2⟩
theorem Seen.lt {b M : Nat} {l : List Nat} {w : World} (h : Seen b M l w) : b < w.heap.size := by obtain ⟨f, h1, h2⟩ := h; exact h1.lt
theorem Seen.is {b M : Nat} {l : List Nat} {w : World} (h : Seen b M l w) : ∃ es c, w.heap[b]? = some (.map es c) := by obtain ⟨f, h1, h2⟩ := h; exact h1.isMap
theorem Seen.mono {b M N : Nat} {l : List Nat} {w : World} (h : Seen b M l w) (hN : M ≤ N) : Seen b N l w := by obtain ⟨f, h1, h2⟩ := h; exact ⟨f, h1.mono hN, h2⟩
theorem Seen.look {b M : Nat} {l : List Nat} {w : World} (h : Seen b M l w) {x : Nat} (hx : x < 4294967296) : (Instr.lookup 74 (.map (some b)) (v32 x) true).run Try.prog w = .ok (.tuple #[.agg #[], .bool (l.contains x)]) w := by
  obtain ⟨f, h1, h2⟩ := h
  have := h1.look law24 Try.underlying74 (zero75 w) (key32 hx) true
  rw [(h2 x hx).1, (h2 x hx).2] at this
  exact this
theorem Seen.put {b M : Nat} {l : List Nat} {w : World} (h : Seen b M l w) {x : Nat} (hx : x < 4294967296) (hM : M < 100000000000000) : ∃ w', (Instr.mapUpdate 74 (.map (some b)) (v32 x) (.agg #[])).run Try.prog w = .ok () w' ∧ Seen b (M + 1) (l ++ [x]) w' ∧ w.grownBy w' (some b) := by
  obtain ⟨f, h1, h2⟩ := h
  obtain ⟨w2, q1, q2, q3, q4⟩ := h1.put law24 Try.underlying74 (by simp only [maxLen]; omega) (key32 hx) (val := .agg #[])
  refine ⟨w2, q1, ⟨_, q2, fun y hy => ?_⟩, q3⟩
  by_cases e : y = x
  · subst e
    rw [putF_same]
    exact ⟨rfl, by simp⟩
  · rw [putF_other _ _ (by intro q; apply e; simp at q; omega)]
    refine ⟨(h2 y hy).1, ?_⟩
    rw [(h2 y hy).2]
    simp [e]
structure OnI (w : World) (l : List Nat) (k : Nat) (b : Nat) (u : Value) (W : World) : Prop where
  row : W.ownsRow w.heap.size 24 1 u (onceL (l.take k)).length (wrdV (onceL (l.take k)))
  seen : Seen b k (onceL (l.take k)) W
  hb : w.heap.size ≤ b
  low : Below w.heap.size w W
theorem OnI.grow {w W W' : World} {l : List Nat} {k b : Nat} {u : Value} (h : OnI w l k b u W) (hB : Below W.heap.size W W') : OnI w l k b u W' :=
  ⟨own_of_block h.row fun k hk => hB.block k (h.row.lt k hk).2, h.seen.keep (hB.block _ h.seen.lt), h.hb, h.low.trans (hB.mono h.low.size)⟩
set_option maxHeartbeats 1000000 in
theorem once_c {w : World} {v : Value} {l : List Nat} (H : Wds w v l) (hl : ∀ x ∈ l, x < 4294967296) : Calls Try.prog 30 #[v] w fun e w' => ∃ u, e = .returned u ∧ w'.ownsRow w.heap.size 24 1 u (onceL l).length (wrdV (onceL l)) ∧ Below w.heap.size w w' := by
  obtain ⟨ao, cap, ev⟩ := H.len
  subst ev
  have hmax := H.max
  have hmm := @run_makeMap Try.prog
  obtain ⟨i0, hi, hz0, hz1, hz2⟩ := info_parts info24
  go_enter Try.func30, Try.ntmps30
  go_wp2
  have hI0 : OnI w l 0 w.heap.size (.slice none 0 0) (w.alloc (Obj.map #[] 0)) := ⟨World.ownsRow_nil _ _ _ _, ⟨_, MapF.made w _ _, fun x _ => ⟨rfl, rfl⟩⟩, Nat.le_refl _, below_alloc _ _⟩
  clear hmm
  go_loopw [3, 12] (fun s3 s12 wr => ∃ k : Nat, k ≤ l.length ∧ s12 = vI k ∧ OnI w l k w.heap.size s3 wr) (fun _ s12 _ => ((l.length : Int) - intOf s12).toNat)
  case atStart => exact ⟨0, Nat.zero_le _, rfl, hI0⟩
  case round =>
    obtain ⟨k, hk, rfl, hI⟩ := hrel
    clear hI0
    by_cases hlt : (k : Int) < l.length
    · have hkl : k < l.length := by omega
      obtain ⟨x, hx⟩ : ∃ x, l[k]? = some x := ⟨l[k], List.getElem?_eq_getElem hkl⟩
      have hx32 := hl x (List.mem_of_getElem? hx)
      obtain ⟨g, off, cap', ev', hg, hc⟩ := (H.grow (below_then (Below.refl _ w) (Nat.le_refl _) (Below.refl _ _))).cell (by omega)
      cases ev'
      have hcx : wr.cell? ⟨g, off + k, none⟩ = some (v32 x) := by rw [hI.low.cell (p := ⟨g, off + k, none⟩) hg]; exact hc k x hx
      have hst : onceL (l.take (k + 1)) = if (onceL (l.take k)).contains x then onceL (l.take k) else onceL (l.take k) ++ [x] := by
        rw [List.take_add_one, hx, ← onceL_snoc]; rfl
      have lk := hI.seen.look hx32
      clear hc H
      go_upto_region 6 with fail
      cases hcn : (onceL (l.take k)).contains x with
      | true =>
        rw [hcn] at lk hst
        rw [if_pos rfl] at hst
        go_wp2
        go_roundw
        case rel =>
          have h2 := hI.grow (below_alloc wr (Obj.cells #[] 75))
          exact ⟨k + 1, by omega, by simp, ⟨by rw [hst]; exact h2.row, by rw [hst]; exact h2.seen.mono (by omega), h2.hb, h2.low⟩⟩
        case measure => simp [intOf]; omega
      | false =>
        rw [hcn] at lk hst
        rw [if_neg (by simp)] at hst
        go_upto_region 8 with fail
        have hI2 := hI.grow (below_alloc wr (Obj.cells #[] 75))
        clear hI lk hcx
        generalize wr.alloc (Obj.cells #[] 75) = w2 at *
        have hput := hI2.seen.put hx32 (by omega)
        go_upto_region 9 with (first | (at_mapUpdate; refine wpList_put rfl 74 _ _ _ rfl rfl rfl rfl hput ?_; clear hput; rintro w3 ⟨hS3, hg3⟩; simp only [Act.put, List.setIfInBounds_toArray, List.set_cons_succ, List.set_cons_zero]))
        have hne : u3.ownBlock ≠ some w.heap.size := not_row_of_map hI2.row hI2.seen.is
        have hrow3 := hI2.row.kept hg3 (.inr hne)
        have hlow3 : Below w.heap.size w w3 := hI2.low.trans ((goes_grown (F := fun k => k = w.heap.size) hg3 (fun k hk => by cases hk; rfl)).below hI2.low.size (fun k hk => by omega))
        clear hI2 hg3 hne
        have hlen : (onceL (l.take k)).length ≤ k := Nat.le_trans (onceL_len _) (by rw [List.length_take]; omega)
        have hs3 := hlow3.size
        go_wp2_with (at_builtin; refine wpList_append_own_at _ rfl _ _ 26 rfl w.heap.size 24 i0 (v32 0) 1 4 Try.underlying26 hi hz0 hz1 hz2 rfl (by decide) u3 _ _ rfl (hrow3.alloc _) ⟨w3.heap.size, 0, none⟩ 1 1 [v32 x] rfl rfl (cell_one_new _ _ _) (by simp [Value.oneCell']) (by simp only [maxLen]; omega) (by omega) (by simp; omega) ?_; intro v' w4 hown' hgrow _ hat)
        have hg5 : w3.grownBy w4 u3.ownBlock := (World.grownBy_alloc _ _ _).trans hgrow
        have hne3 : u3.ownBlock ≠ some w.heap.size := not_row_of_map hrow3 hS3.is
        go_roundw
        case rel =>
          refine ⟨k + 1, by omega, by simp, ⟨?_, ?_, Nat.le_refl _, ?_⟩⟩
          · rw [hst, List.length_append, wrdV_append]; exact hown'
          · rw [hst]; exact hS3.keep (hg5.block _ hS3.lt (fun e => hne3 e.symm))
          · exact hlow3.trans ((goes_grown (F := fun k => u3.ownBlock = some k) hg5 (fun k hk => hk)).below hlow3.size (fun k hk => (hrow3.lt k hk).1))
        case measure => simp [intOf]; omega
    · have e : k = l.length := by omega
      subst e
      have hrow := hI.row
      rw [List.take_length] at hrow
      have hlow := hI.low
      clear hI
      go_wp2
      go_ret
      exact ⟨_, rfl, hrow, hlow⟩
end Go.Proofs.Ytbdmemjenpnjgaa
