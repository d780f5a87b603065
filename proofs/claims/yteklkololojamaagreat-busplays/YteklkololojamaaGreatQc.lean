/- The program's controller: look, waits, running, and the getters. -/
import Derived.Test.YteklkololojamaaGreatQb
namespace Go.Proofs.YteklkololojamaaGreat
open Go.RowKit
set_option linter.unusedVariables false
set_option linter.unusedSimpArgs false

def nilS : Src := ⟨false, false, false, false, 0, 0⟩
def nilT : Trn := ⟨0, 0⟩
def lookV (n : Nat) (P : Pg) (core id : Int) : Src := if badB n core id then nilS else P.src (pr n core id) (pk id)
theorem inf61 : (Tryz.prog.info? 115).map (·.size) = some 6 := by kernel_rfl
theorem inf84 : (Tryz.prog.info? 106).map (·.size) = some 2 := by kernel_rfl
theorem ones61 (s : Src) : (#[Value.bool s.e, .bool s.l, .bool s.h, .bool s.a, vI s.rank, vI s.goes] : Array Value).all (·.oneCell') = true := by simp [Value.oneCell']
theorem wpList_ldS {ops : Array Oper} {rest : List Oper} {o : Oper} {a : Act} {w : World} {Q : Exit → Act → World → Prop} (hgd : o.guard = none) (x : Operand) (ho : o.op = .load 115 x) (b k : Nat) (hx : a.eval x = ptr b k) (s : Src) (hr : ∀ (j : Nat), j < 6 → w.cell? ⟨b, k + j, none⟩ = s.row[j]?)
    (h : wpList Tryz.prog ops Q rest (a.put o.dst s.val) w) : wpList Tryz.prog ops Q (o :: rest) a w :=
  wpList_load_mid hgd 115 x ho b k hx s.row _ (fun j y hy => by rw [hr j (List.getElem?_eq_some_iff.1 hy).1]; exact hy) Tryz.underlying115 rfl inf61 h
theorem wpList_stS {ops : Array Oper} {rest : List Oper} {o : Oper} {a : Act} {w : World} {Q : Exit → Act → World → Prop} (hgd : o.guard = none) (x y : Operand) (ho : o.op = .store 115 x y) (b : Nat) (hx : a.eval x = ptr b 0) (s s0 : Src) (hy : a.eval y = s.val) (hg : w.heap[b]? = some (.cells s0.row.toArray 115))
    (h : wpList Tryz.prog ops Q rest (a.put o.dst undef) (w.setRow b s.row.toArray)) : wpList Tryz.prog ops Q (o :: rest) a w :=
  wpList_store_row hgd 115 x y ho b s.row.toArray hx hy 115 _ hg inf61 rfl (ones61 s) h
theorem wpList_ldT {ops : Array Oper} {rest : List Oper} {o : Oper} {a : Act} {w : World} {Q : Exit → Act → World → Prop} (hgd : o.guard = none) (x : Operand) (ho : o.op = .load 106 x) (b k : Nat) (hx : a.eval x = ptr b k) (s : Trn) (hr : ∀ (j : Nat), j < 2 → w.cell? ⟨b, k + j, none⟩ = s.row[j]?)
    (h : wpList Tryz.prog ops Q rest (a.put o.dst s.val) w) : wpList Tryz.prog ops Q (o :: rest) a w :=
  wpList_load_mid hgd 106 x ho b k hx s.row _ (fun j y hy => by rw [hr j (List.getElem?_eq_some_iff.1 hy).1]; exact hy) Tryz.underlying106 rfl inf84 h
theorem wpList_stT {ops : Array Oper} {rest : List Oper} {o : Oper} {a : Act} {w : World} {Q : Exit → Act → World → Prop} (hgd : o.guard = none) (x y : Operand) (ho : o.op = .store 106 x y) (b : Nat) (hx : a.eval x = ptr b 0) (s s0 : Trn) (hy : a.eval y = s.val) (hg : w.heap[b]? = some (.cells s0.row.toArray 106))
    (h : wpList Tryz.prog ops Q rest (a.put o.dst undef) (w.setRow b s.row.toArray)) : wpList Tryz.prog ops Q (o :: rest) a w :=
  wpList_store_row hgd 106 x y ho b s.row.toArray hx hy 106 _ hg inf84 rfl (by simp [Value.oneCell', Trn.row]) h
theorem load61 (w : World) (g : Nat) (s : Src) (hg : w.heap[g]? = some (.cells s.row.toArray 115)) : (loadVar 115 ⟨g, 0, none⟩).run Tryz.prog w = .ok s.val w :=
  run_loadVar_row w g 115 115 s.row.toArray (0, 0) _ hg Tryz.underlying115 rfl inf61
theorem load84 (w : World) (g : Nat) (s : Trn) (hg : w.heap[g]? = some (.cells s.row.toArray 106)) : (loadVar 106 ⟨g, 0, none⟩).run Tryz.prog w = .ok s.val w :=
  run_loadVar_row w g 106 106 s.row.toArray (0, 0) _ hg Tryz.underlying106 rfl inf84
theorem back_s {fn : Func} {p : Tmp} (h : fn.results = #[.cell p 115]) (tmps : Array Value) (w : World) (g : Nat) (s : Src) (hp : tmps.getD p undef = ptr g 0) (hg : w.heap[g]? = some (.cells s.row.toArray 115)) : (results fn tmps).run Tryz.prog w = .ok s.val w := by
  have hp' : tmps[p]?.getD undef = .pointer (some ⟨g, 0, none⟩) := by simpa using hp
  simp [results, h, hp', asAddr, load61 w g s hg]
theorem back_t {fn : Func} {p u : Tmp} (h : fn.results = #[.cell p 106, .tmp u]) (tmps : Array Value) (w : World) (g : Nat) (s : Trn) (hp : tmps.getD p undef = ptr g 0) (hg : w.heap[g]? = some (.cells s.row.toArray 106)) :
    (results fn tmps).run Tryz.prog w = .ok (.tuple #[s.val, tmps.getD u undef]) w := by
  have hp' : tmps[p]?.getD undef = .pointer (some ⟨g, 0, none⟩) := by simpa using hp
  simp [results, h, hp', asAddr, load84 w g s hg]
theorem below_setRow {w0 w : World} {b : Nat} {cs : Array Value} (B : Below w0.heap.size w0 w) (hb : w0.heap.size ≤ b) : Below w0.heap.size w0 (w.setRow b cs) :=
  B.trans ((goes_setRow w (F := fun k => k = b) rfl cs).below B.size fun k hk => by subst hk; exact hb)
section
variable {g n : Nat} {P : Pg} {L : GLay} {w : World}
set_option maxRecDepth 4000 in
theorem look_c (H : GicAt g n P L w) (core id : Int) : Calls Tryz.prog 69 #[ptr g 0, vI core, vI id] w fun e w' => e = .returned (lookV n P core id).val ∧ Below w.heap.size w w' := by
  unfold lookV
  cases hb : badB n core id with
  | true =>
    rw [if_pos rfl]
    go_enter Tryz.func69, Tryz.ntmps69
    go_upto_region 1 with fail
    generalize h1 : World.alloc _ _ = w1
    have B : Below w.heap.size w w1 := by rw [← h1]; exact below_alloc _ _
    have hd : w1.heap[w.heap.size]? = some (.cells nilS.row.toArray 115) := by rw [← h1]; exact heap_alloc_new _ _
    have H1 := H.grow B
    clear h1
    go_wp2_with (first | (go_at_call 80; refine (find_no H1 core id hb).mono ?_; rintro e w' ⟨rfl, rfl⟩; dsimp only) | (refine wpList_stS rfl _ _ rfl w.heap.size rfl nilS nilS rfl hd ?_; simp only [Act.put]))
    exact bodyPost_ret (back_s rfl _ _ w.heap.size nilS rfl (setRow_heap _ _ _ _ _ _ hd)) rfl ⟨rfl, below_setRow B (Nat.le_refl _)⟩
  | false =>
    rw [if_neg (by decide)]
    go_enter Tryz.func69, Tryz.ntmps69
    go_upto_region 1 with fail
    generalize h1 : World.alloc _ _ = w1
    have B : Below w.heap.size w w1 := by rw [← h1]; exact below_alloc _ _
    have hd : w1.heap[w.heap.size]? = some (.cells nilS.row.toArray 115) := by rw [← h1]; exact heap_alloc_new _ _
    have H1 := H.grow B
    have a0 := fun j hj => H1.at (pr_le hb) (pk_lt hb) j hj
    clear h1
    go_wp2_with (first | (go_at_call 80; refine (find_c H1 core id hb).mono ?_; rintro e w' ⟨rfl, rfl⟩; dsimp only) | (refine wpList_ldS rfl _ rfl _ _ rfl _ a0 ?_; simp only [Act.put]) | (refine wpList_stS rfl _ _ rfl w.heap.size rfl (P.src (pr n core id) (pk id)) nilS rfl hd ?_; simp only [Act.put]))
    exact bodyPost_ret (back_s rfl _ _ w.heap.size _ rfl (setRow_heap _ _ _ _ _ _ hd)) rfl ⟨rfl, below_setRow B (Nat.le_refl _)⟩
theorem waits_c (s : Src) (w : World) : Calls Tryz.prog 107 #[s.val] w fun e w' => e = .returned (.bool (s.e && (s.l || s.h) && !s.a)) ∧ Below w.heap.size w w' := by
  obtain ⟨e, l, h, a, r, k⟩ := s
  cases e
  · go_enter Tryz.func107, Tryz.ntmps107
    go_wp2
    go_ret
    exact ⟨rfl, below_alloc _ _⟩
  · cases hp : (l || h)
    · go_enter Tryz.func107, Tryz.ntmps107
      go_wp2_with (go_at_call 70; refine (spend_c ⟨true, l, h, a, r, k⟩ _).mono ?_; rintro e w' ⟨rfl, hB⟩; dsimp only; rw [hp])
      go_ret
      exact ⟨rfl, below_then (below_alloc _ _) (Nat.le_refl _) hB⟩
    · go_enter Tryz.func107, Tryz.ntmps107
      go_wp2_with (go_at_call 70; refine (spend_c ⟨true, l, h, a, r, k⟩ _).mono ?_; rintro e w' ⟨rfl, hB⟩; dsimp only; rw [hp]; have hB' : Hid _ := hB; have c3 : w'.cell? ⟨w.heap.size, 3, none⟩ = some (.bool a) := (by rw [cell_of_row _ _ _ _ _ _ ((hB.block _ (lt_of_some (heap_alloc_new _ _))).trans (heap_alloc_new _ _))]; rfl); clear hB)
      go_ret
      exact ⟨rfl, below_then (below_alloc _ _) (Nat.le_refl _) hB'.out⟩
end
end Go.Proofs.YteklkololojamaaGreat
