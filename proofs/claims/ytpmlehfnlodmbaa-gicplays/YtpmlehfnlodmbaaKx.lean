/- A row of numbers of the law's own beside a controller. -/
import Derived.Test.YtpmlehfnlodmbaaLa
import Derived.Test.YtpmlehfnlodmbaaFr
namespace Go.Proofs.Ytpmlehfnlodmbaa
open Go.RowKit
set_option linter.unusedVariables false
set_option linter.unusedSimpArgs false
set_option maxRecDepth 8000

theorem bst_one {n : Nat} {P : Pg} {c j : Nat} (h : ∀ k, k < 64 → k ≠ j → candB n P c k = false) : ∀ i, i ≤ 64 → bstF n P c i = if j < i ∧ candB n P c j = true then some ⟨(lookV n P c j).rank, j⟩ else none
  | 0, _ => by rw [if_neg (fun h => by omega)]; rfl
  | i + 1, hi => by
    have ih := bst_one h i (by omega)
    by_cases e : i = j
    · subst e
      rw [if_neg (fun h => by omega)] at ih
      rw [bstF, ih]
      cases hc : candB n P c i with
      | true => rw [if_pos rfl, if_pos ⟨by omega, rfl⟩]
      | false => rw [if_neg (by decide), if_neg (fun h => by cases h.2)]
    · rw [bstF, h i (by omega) e, if_neg (by decide), ih]
      by_cases e2 : j < i ∧ candB n P c j = true
      · rw [if_pos e2, if_pos ⟨by omega, e2.2⟩]
      · rw [if_neg e2, if_neg (fun h => e2 ⟨by omega, h.2⟩)]
theorem GicAt.notFoot {g n : Nat} {P : Pg} {L : GLay} {w : World} (H : GicAt g n P L w) {b : Nat} {C : Array Value} {t : TypeId} {f : Nat × Nat} (h : w.heap[b]? = some (.cells C t f)) (h1 : t ≠ 64) (h2 : t ≠ 67) (h3 : t ≠ 84) : ¬ GFoot g n L b := by
  rintro (rfl | rfl | ⟨c, hc, e⟩)
  · obtain ⟨D, hD, _⟩ := H.top
    exact ne_of_type h hD h1 rfl
  · obtain ⟨D, hD, _⟩ := H.cor
    exact ne_of_type h hD h2 rfl
  · obtain ⟨D, _, hD⟩ := own_kind (H.wks c hc) e
    exact ne_of_type h hD h3 rfl
theorem infI3 : ∃ i, Try.prog.info? 3 = some i ∧ i.zero = some (vI 0) ∧ i.size = 1 ∧ i.bytes = 8 := by
  have h : (Try.prog.info? 3).map (fun i => (i.zero, i.size, i.bytes)) = some (some (vI 0), 1, 8) := by kernel_rfl
  cases hq : Try.prog.info? 3 with
  | none => rw [hq] at h; cases h
  | some i =>
    rw [hq] at h
    simp only [Option.map_some, Option.some.injEq, Prod.mk.injEq] at h
    exact ⟨i, rfl, h.1, h.2.1, h.2.2⟩
theorem wpList_app_int {ops : Array Oper} {rest : List Oper} {o : Oper} {a : Act} {w : World} {Q : Exit → Act → World → Prop} (hgd : o.guard = none) (s x : Operand)
    (ho : o.op = .call { callee := .builtin .append, args := #[s, x], argTypes := #[45, 45] }) (base : Nat) (v : Value) (l : List Int) (hs : a.eval s = v) (hown : w.ownsRow base 3 1 v l.length (l.map vI)) (hbase : base ≤ w.heap.size)
    (b k c : Nat) (n : Int) (hx : a.eval x = .slice (some ⟨b, k, none⟩) 1 c) (hc : w.cell? ⟨b, k, none⟩ = some (vI n)) (hl : l.length < 1000000000)
    (h : ∀ g cap w', w'.ownsRow base 3 1 (.slice (some ⟨g, 0, none⟩) (l.length + 1) cap) (l ++ [n]).length ((l ++ [n]).map vI) → w.grownBy w' v.ownBlock → (v.ownBlock = some g ∨ g = w.heap.size) → g < w'.heap.size →
      wpList Try.prog ops Q rest (a.put o.dst (.slice (some ⟨g, 0, none⟩) (l.length + 1) cap)) w') : wpList Try.prog ops Q (o :: rest) a w := by
  obtain ⟨i, h1, h2, h3, h4⟩ := infI3
  refine wpList_append_lies w hgd s x 45 ho base 3 i (vI 0) 1 8 Try.underlying45 h1 h2 h3 h4 rfl (by decide) v l.length (l.map vI) hs hown ⟨b, k, none⟩ 1 c [vI n] hx rfl ?_ ?_ (by decide) (by simp only [maxLen]; omega) (by omega) hbase w.heap.size rfl ?_
  · intro j u hj
    match j with
    | 0 => simp at hj; subst hj; rw [Addr.add_mid]; exact hc
    | j + 1 => simp at hj
  · intro u hu; simp at hu; subst hu; rfl
  · intro g cap w' q1 q2 q3 q4
    refine h g cap w' ?_ q2 q3 q4
    rw [List.length_append, List.map_append]
    exact q1
/-- A controller, and a row of numbers. -/
structure KA (B : Nat) (w0 : World) (g n : Nat) (P : Pg) (L : GLay) (v : Value) (xs : List Int) (w : World) : Prop where
  kw : KW B w0 g n P L w
  row : w.ownsRow B 3 1 v xs.length (xs.map vI)
section
variable {B : Nat} {w0 : World} {g n : Nat} {P Q : Pg} {L : GLay} {v : Value} {xs : List Int} {w w' : World}
theorem KA.nf (H : KA B w0 g n P L v xs w) {b : Nat} (hb : v.ownBlock = some b) : ¬ GFoot g n L b := by
  obtain ⟨C, _, hC⟩ := own_kind H.row hb
  exact H.kw.at_.notFoot hC (by decide) (by decide) (by decide)
theorem KA.grow (H : KA B w0 g n P L v xs w) (hb : Below w.heap.size w w') : KA B w0 g n P L v xs w' := ⟨H.kw.grow hb, own_of_block H.row fun k hk => hb.block k (H.row.lt k hk).2⟩
theorem KA.gt (H : KA B w0 g n P L v xs w) (h : GT g n L Q w w') : KA B w0 g n Q L v xs w' := ⟨H.kw.gt h, own_of_block H.row fun k hk => h.2.block k (H.row.lt k hk).2 (H.nf hk)⟩
theorem KA.gtl (H : KA B w0 g n P L v xs w) (h : GTL g n L Q w w') : ∃ L', KA B w0 g n Q L' v xs w' := by
  obtain ⟨L', K'⟩ := H.kw.gtl h
  obtain ⟨_, _, h2, _⟩ := h
  exact ⟨L', K', own_of_block H.row fun k hk => h2.block k (H.row.lt k hk).2 (H.nf hk)⟩
theorem KA.app (H : KA B w0 g n P L v xs w) {u : Value} {ys : List Int} (hr : w'.ownsRow B 3 1 u ys.length (ys.map vI)) (hg : w.grownBy w' v.ownBlock) : KA B w0 g n P L u ys w' := by
  have G := goes_grown (F := fun k => v.ownBlock = some k) hg fun k hk => hk
  exact ⟨⟨H.kw.at_.keep fun k hk => G.block k (H.kw.at_.lt hk) fun e => H.nf e hk, H.kw.foot, H.kw.below.trans (G.below (Nat.le_trans H.kw.le H.kw.below.size) fun k hk => (H.row.lt k hk).1), H.kw.le⟩, hr⟩
theorem KA.cell (H : KA B w0 g n P L v xs w) {j : Nat} {x : Int} (hj : xs[j]? = some x) : ∃ b cap, v = .slice (some ⟨b, 0, none⟩) xs.length cap ∧ w.cell? ⟨b, j, none⟩ = some (vI x) := by
  have hlt := (List.getElem?_eq_some_iff.1 hj).1
  obtain ⟨b, cap, ev, _, _, _, hc, _⟩ := own_addr H.row (by omega)
  refine ⟨b, cap, ev, ?_⟩
  rw [hc j (by omega), List.getElem?_map, hj]; rfl
end
end Go.Proofs.Ytpmlehfnlodmbaa
