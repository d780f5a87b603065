/- The document's own Peek, Held, Load. -/
import Derived.Test.YtjkjbcnafpljoaaUa
namespace Go.Proofs.Ytjkjbcnafpljoaa
open Go.RowKit
set_option linter.unusedVariables false
set_option linter.unusedSimpArgs false

def R4.row (s : R4) : List Value := [vI s.c, vU s.a, vU s.v, vI s.s]
theorem inf102 : ∃ i, Try.prog.info? 102 = some i ∧ i.size = 4 := by
  have h : (Try.prog.info? 102).map (·.size) = some 4 := by kernel_rfl
  cases hq : Try.prog.info? 102 with
  | none => rw [hq] at h; cases h
  | some i => exact ⟨i, rfl, by simpa [hq] using h⟩
theorem run_load102 (w : World) (a : Addr) (s : R4) (h : ∀ (j : Nat) x, s.row[j]? = some x → w.cell? (a.add j) = some x) : (loadVar 102 a).run Try.prog w = .ok (.agg #[vI s.c, vU s.a, vU s.v, vI s.s]) w := by
  obtain ⟨i, h1, h3⟩ := inf102
  have hl := run_loadCells_list (P := Try.prog) w a s.row h
  have e : s.row.length = 4 := rfl
  rw [e] at hl
  simp [loadVar, isAgg, run_underlying Try.underlying102, sizeOf, typeInfo, h1, h3, hl]
  rfl
theorem wpList_load102 {ops : Array Oper} {rest : List Oper} {o : Oper} {a : Act} {w : World} {Q : Exit → Act → World → Prop} (hw : Region.wanted o (yielded ops a.tmps) = true) (x : Operand) (ho : o.op = .load 102 x) (ad : Addr) (hx : a.eval x = .pointer (some ad)) (s : R4) (hs : ∀ (j : Nat) x, s.row[j]? = some x → w.cell? (ad.add j) = some x)
    (h : wpList Try.prog ops Q rest (a.put o.dst (.agg #[vI s.c, vU s.a, vU s.v, vI s.s])) w) : wpList Try.prog ops Q (o :: rest) a w := by
  refine BigFrame.wpList_want hw fun K hK => ?_
  unfold Oper.wp execOp
  simp only [ho, hx, Instr.loadAt, Instr.sureAddr, Sem.run_bind, Sem.run_pure, Result.andThen_ok, run_load102 w ad s hs]
  exact hK _ _ h
theorem DocAt.row {h : Nat} {X : Doc} {L : DocLay} {w : World} (H : DocAt h X L w) {k : Nat} {s : R4} (hs : X.all[k]? = some s) : ∃ b cap, L.av = .slice (some ⟨b, 0, none⟩) X.all.length cap ∧ ∀ (j : Nat) x, s.row[j]? = some x → w.cell? ⟨b, k * 4 + j, none⟩ = some x := by
  have hk : k < X.all.length := (List.getElem?_eq_some_iff.1 hs).1
  obtain ⟨b, cap, e, _, _, _, hl, _⟩ := own_addr H.all (by omega)
  obtain ⟨y0, y1, y2, y3⟩ := flatR_get hs
  refine ⟨b, cap, e, fun j x hx => ?_⟩
  have hj : j < 4 := (List.getElem?_eq_some_iff.1 hx).1
  rw [hl (k * 4 + j) (by omega)]
  rcases (by omega : j = 0 ∨ j = 1 ∨ j = 2 ∨ j = 3) with rfl | rfl | rfl | rfl
  · rw [Nat.add_zero, y0]; exact hx
  · rw [y1]; exact hx
  · rw [y2]; exact hx
  · rw [y3]; exact hx
/-- Value, ticket and stamp of the newest that reached a word. -/
def pkF (a : Int) : List R4 → Nat → (Int × Int × Int) → (Int × Int × Int)
  | [], _, p => p
  | s :: l, i, p => pkF a l (i + 1) (if s.a = a ∧ p.2.2 < s.s then (s.v, (i : Int) + 1, s.s) else p)
theorem pkF_snoc (a : Int) (l : List R4) (s : R4) (i : Nat) (p : Int × Int × Int) : pkF a (l ++ [s]) i p = if s.a = a ∧ (pkF a l i p).2.2 < s.s then (s.v, ((i + l.length : Nat) : Int) + 1, s.s) else pkF a l i p := by
  induction l generalizing i p with
  | nil =>
    rw [List.nil_append, pkF, pkF, pkF, List.length_nil, Nat.add_zero]
  | cons x l ih =>
    rw [List.cons_append, pkF, pkF, ih]
    have e : i + 1 + l.length = i + (x :: l).length := by simp; omega
    rw [e]
theorem take_snoc {α : Type} {l : List α} {k : Nat} {x : α} (h : l[k]? = some x) : l.take (k + 1) = l.take k ++ [x] := by
  rw [List.take_add_one, h]; rfl
def pkD (X : Doc) (a : Int) : Int × Int × Int := pkF a X.all 0 (X.first.getD (a / 8).toNat 0, 0, 0)
def heldF (c : Int) : List R4 → Nat → List Int
  | [], _ => []
  | s :: l, i => if s.c = c ∧ s.s = 0 then ((i : Int) + 1) :: heldF c l (i + 1) else heldF c l (i + 1)
theorem heldF_snoc (c : Int) (l : List R4) (s : R4) (i : Nat) : heldF c (l ++ [s]) i = heldF c l i ++ (if s.c = c ∧ s.s = 0 then [((i + l.length : Nat) : Int) + 1] else []) := by
  induction l generalizing i with
  | nil => simp only [List.nil_append, heldF, List.length_nil, Nat.add_zero]
  | cons x l ih =>
    rw [List.cons_append, heldF, heldF, ih]
    have e : i + 1 + l.length = i + (x :: l).length := by simp; omega
    rw [e]
    split <;> simp
def heldD (X : Doc) (c : Int) : List Int := heldF c X.all 0
theorem heldF_len (c : Int) (l : List R4) (i : Nat) : (heldF c l i).length ≤ l.length := by
  induction l generalizing i with
  | nil => exact Nat.le_refl _
  | cons x l ih =>
    have := ih (i + 1)
    rw [heldF]
    split <;> simp <;> omega
set_option maxRecDepth 4000 in
theorem peekD_c (h : Nat) (X : Doc) (L : DocLay) (addr : Int) (w : World) (H : DocAt h X L w) (hA : U64 addr) (hw : addr / 8 < X.first.length) (hn : X.all.length < 1000000) : Calls Try.prog 46 #[ptr h 0, vU addr] w fun e w' => e = .returned (.tuple #[vU (pkD X addr).1, vI (pkD X addr).2.1]) ∧ Below w.heap.size w w' := by
  have a1 := hA.1
  have a2 := hA.2
  have c0 := H.c0
  have t2 : addr.tdiv 8 = addr / 8 := Int.tdiv_eq_ediv_of_nonneg a1
  have w2 : IntKind.u64.wrap (addr / 8) = addr / 8 := by rw [IntKind.wrap_u64]; omega
  have hd0 : 0 ≤ addr / 8 := by omega
  have hk : (addr / 8).toNat < X.first.length := by omega
  have hx : X.first[(addr / 8).toNat]? = some X.first[(addr / 8).toNat] := List.getElem?_eq_getElem hk
  have z := H.first.cellAt (addr / 8).toNat (by omega)
  rw [List.getElem?_map, hx] at z
  have hg : X.first.getD (addr / 8).toNat 0 = X.first[(addr / 8).toNat] := by simp [List.getD, hx]
  have hpk : pkD X addr = pkF addr X.all 0 (X.first[(addr / 8).toNat], 0, 0) := by rw [pkD, hg]
  rw [hpk]
  generalize X.first[(addr / 8).toNat] = f0 at z hx hg
  replace z : w.cell? ⟨L.fb, (addr / 8).toNat, none⟩ = some (vU f0) := z
  clear hx hg hpk
  obtain ⟨aa, ac, ea, _, _⟩ := own_len H.all
  have c3 := H.c3
  rw [ea] at c3
  go_enter Try.func46, Try.ntmps46
  go_upto_region 5 with fail
  clear c0 z
  go_loopw [6, 7, 8, 9] (fun s6 s7 s8 s9 wr => ∃ i : Nat, i ≤ X.all.length ∧ s9 = .int .i64 i ∧ s6 = vU (pkF addr (X.all.take i) 0 (f0, 0, 0)).1 ∧ s7 = vI (pkF addr (X.all.take i) 0 (f0, 0, 0)).2.1 ∧ s8 = vI (pkF addr (X.all.take i) 0 (f0, 0, 0)).2.2 ∧ Hid (Below w.heap.size w wr)) (fun _ _ _ s9 _ => X.all.length - (intOf s9).toNat)
  case atStart => exact ⟨0, Nat.zero_le _, rfl, rfl, rfl, rfl, Below.refl _ _⟩
  case round =>
    obtain ⟨i, hi, rfl, rfl, rfl, rfl, hH⟩ := hrel
    have B := hH.out
    clear hH
    have H2 := H.grow B
    clear c3
    have c3 := H2.c3
    rw [ea] at c3
    by_cases hlt : (i : Int) < X.all.length
    · have hx : X.all[i]? = some X.all[i] := List.getElem?_eq_getElem (by omega)
      generalize X.all[i] = s at hx
      obtain ⟨b, cap, e2, hrow⟩ := H2.row hx
      have hst := pkF_snoc addr (X.all.take i) s 0 (f0, 0, 0)
      rw [← take_snoc hx, show 0 + (X.all.take i).length = i by simp; omega] at hst
      generalize pkF addr (X.all.take i) 0 (f0, 0, 0) = p at hst ⊢
      rw [ea] at e2
      simp only [Value.slice.injEq] at e2
      obtain ⟨rfl, -, rfl⟩ := e2
      have hi0 : (0 : Int) ≤ i := by omega
      have hr : ∀ (j : Nat) x, s.row[j]? = some x → wr.cell? ((⟨b, i * 4, none⟩ : Addr).add j) = some x := fun j x hx => by rw [add_zero_addr]; exact hrow j x hx
      clear hrow H2 H
      go_upto_region 8 with ((with_reducible refine wpList_load102 rfl _ rfl _ rfl s hr ?_); simp only [Act.put, List.setIfInBounds_toArray, List.set_cons_succ, List.set_cons_zero])
      have hbx : (wr.alloc (.cells #[vI s.c, vU s.a, vU s.v, vI s.s] 102)).heap[wr.heap.size]? = some (.cells #[vI s.c, vU s.a, vU s.v, vI s.s] 102) := heap_alloc_new _ _
      have hB2 := below_then B (Nat.le_refl _) (below_alloc wr (.cells #[vI s.c, vU s.a, vU s.v, vI s.s] 102))
      have q1 : (wr.alloc (.cells #[vI s.c, vU s.a, vU s.v, vI s.s] 102)).cell? ⟨wr.heap.size, 1, none⟩ = some (vU s.a) := by rw [cell_of_row _ _ _ _ _ _ hbx]; rfl
      have q2 : (wr.alloc (.cells #[vI s.c, vU s.a, vU s.v, vI s.s] 102)).cell? ⟨wr.heap.size, 2, none⟩ = some (vU s.v) := by rw [cell_of_row _ _ _ _ _ _ hbx]; rfl
      have q3 : (wr.alloc (.cells #[vI s.c, vU s.a, vU s.v, vI s.s] 102)).cell? ⟨wr.heap.size, 3, none⟩ = some (vI s.s) := by rw [cell_of_row _ _ _ _ _ _ hbx]; rfl
      clear hbx hr c3
      generalize wr.heap.size = ob at q1 q2 q3 ⊢
      generalize h4 : World.alloc wr _ = y1
      have h5 : wr.alloc (.cells #[vI s.c, vU s.a, vU s.v, vI s.s] 102) = y1 := h4
      rw [h5] at q1 q2 q3 hB2
      clear h4 h5
      have hw1 : IntKind.i64.wrap ((i : Int) + 1) = (i : Int) + 1 := by rw [IntKind.wrap_i64]; omega
      by_cases e1 : s.a = addr
      · rw [e1] at q1
        by_cases e3 : p.2.2 < s.s
        · rw [if_pos ⟨e1, e3⟩] at hst
          go_wp2
          go_roundw
          case rel => exact ⟨i + 1, by omega, by go_num, by rw [hst], by rw [hst], by rw [hst], hB2⟩
          case measure => simp [intOf]; omega
        · rw [if_neg (fun h => e3 h.2)] at hst
          go_wp2
          go_roundw
          case rel => exact ⟨i + 1, by omega, by go_num, by rw [hst], by rw [hst], by rw [hst], hB2⟩
          case measure => simp [intOf]; omega
      · rw [if_neg (fun h => e1 h.1)] at hst
        have e1' : (s.a == addr) = false := by simpa using e1
        go_wp2
        go_roundw
        case rel => exact ⟨i + 1, by omega, by go_num, by rw [hst], by rw [hst], by rw [hst], hB2⟩
        case measure => simp [intOf]; omega
    · obtain rfl : i = X.all.length := by omega
      rw [List.take_length]
      go_wp2
      go_ret2
      exact ⟨rfl, B⟩
end Go.Proofs.Ytjkjbcnafpljoaa
