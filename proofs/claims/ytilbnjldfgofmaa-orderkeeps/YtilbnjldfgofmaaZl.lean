/- A list in memory; what is to be done. -/
import Derived.Test.YtilbnjldfgofmaaZi
import Derived.Test.YtilbnjldfgofmaaZk
namespace Go.Proofs.Ytilbnjldfgofmaa
open Go.RowKit
set_option linter.unusedVariables false
set_option linter.unusedSimpArgs false
set_option maxRecDepth 8000

theorem map_at {ids p : List Nat} {j i : Nat} (h : p[j]? = some i) : idAt (p.map (idAt ids)) j = idAt ids i := by
  conv => lhs; unfold idAt
  rw [List.getD_eq_getElem?_getD, List.getElem?_map, h]; rfl
theorem map_nd {ids p : List Nat} (hn : ids.Nodup) (hp : p.Nodup) (hl : ∀ i ∈ p, i < ids.length) : (p.map (idAt ids)).Nodup := by
  rw [List.nodup_iff_pairwise_ne, List.pairwise_map]
  exact (List.nodup_iff_pairwise_ne.1 hp).imp_of_mem (fun ha hb hne e => hne (idAt_inj hn (hl _ ha) (hl _ hb) e))
/-- A row of places picked, in memory. -/
theorem Gr.pick {pc words el : Int} {l : List Opr} {ids p : List Nat} {w : World} (h : rightB pc words el l = true) (G : Gr ids l w) (t : Topo l p) : Gr (p.map (idAt ids)) (pickL l p) w := by
  refine ⟨by rw [pick_len, List.length_map], map_nd G.nd t.nd (fun i hi => by have := t.lt i hi; have := G.len; omega), fun j hj => ?_⟩
  rw [pick_len] at hj
  obtain ⟨i, hi⟩ : ∃ i, p[j]? = some i := ⟨_, List.getElem?_eq_getElem hj⟩
  have hil := t.lt i (List.mem_of_getElem? hi)
  obtain ⟨d, nd, f⟩ := G.node i hil
  have ok := right_at h hil
  have U := t.uses j i hi
  have h0 := idx0 t
  refine ⟨d, by rw [map_at hi]; exact nd, ?_⟩
  rw [pick_at hi]
  have key : ∀ u : Int, (u = 0 ∨ u ∈ usesL (opAt l i)) → idAt (p.map (idAt ids)) (p.idxOf u.toNat) = idAt ids u.toNat := fun u hu => by
    have hm : u.toNat ∈ p := by
      rcases hu with rfl | hu
      · exact List.mem_of_getElem? t.first
      · exact (U u hu).1
    rw [map_at (at_idx hm)]
  refine ⟨f.kind, f.r, f.order, f.imm, ?_, ?_⟩
  · rw [f.a]
    show _ = idAt _ ((p.idxOf (opAt l i).a.toNat : Nat) : Int).toNat
    rw [Int.toNat_natCast, key]
    cases hA : hasP (opAt l i).kind 2
    · exact .inl (noA ok hA)
    · exact .inr (uses_a hA)
  · rw [f.b]
    show _ = idAt _ ((p.idxOf (opAt l i).b.toNat : Nat) : Int).toNat
    rw [Int.toNat_natCast, key]
    cases hB : hasP (opAt l i).kind 4
    · exact .inl (noB ok hB)
    · exact .inr (uses_b hB)
theorem map_erase {ids p : List Nat} (hn : ids.Nodup) (hp : p.Nodup) (hl : ∀ i ∈ p, i < ids.length) {k : Nat} (hk : k < ids.length) : (p.map (idAt ids)).erase (idAt ids k) = (p.filter (fun i => i != k)).map (idAt ids) := by
  rw [(map_nd hn hp hl).erase_eq_filter, List.filter_map]
  congr 1
  apply List.filter_congr
  intro i hi
  show (idAt ids i != idAt ids k) = (i != k)
  by_cases e : i = k
  · subst e; simp
  · have : idAt ids i ≠ idAt ids k := fun q => e (idAt_inj hn (hl i hi) hk q)
    rw [bne_iff_ne.2 e, bne_iff_ne.2 this]
theorem ids_map (ids : List Nat) : (List.range ids.length).map (idAt ids) = ids := by
  have := ids_take (ids := ids) (Nat.le_refl _)
  rw [List.take_length] at this
  exact this.symm
theorem ids_erase {ids : List Nat} (hn : ids.Nodup) {k : Nat} (hk : k < ids.length) : ids.erase (idAt ids k) = (dropP ids.length k).map (idAt ids) := by
  have := map_erase (p := List.range ids.length) hn List.nodup_range (fun i hi => List.mem_range.1 hi) hk
  rw [ids_map] at this
  exact this
/-- What calls of a list turn. -/
abbrev OwnL (p g : Nat) (ids : List Nat) : Nat → Prop := fun b => b = p ∨ b = g ∨ b ∈ ids
/-- A list in memory. -/
structure LG (w : World) (p g cap : Nat) (ids : List Nat) (l : List Opr) : Prop where
  ls : Ls w p g cap ids
  gr : Gr ids l w
theorem LG.grow {w w' : World} {p g cap : Nat} {ids : List Nat} {l : List Opr} (H : LG w p g cap ids l) (hb : Below w.heap.size w w') : LG w' p g cap ids l := ⟨H.ls.grow hb, H.gr.grow hb⟩
theorem LG.drew {w : World} {p g cap : Nat} {ids : List Nat} {l : List Opr} (H : LG w p g cap ids l) (n : Nat) : LG (w.drewN n) p g cap ids l := H.grow (below_drewN (Below.refl _ w))
/-- The nodes of a row stay where the box and the row alone are turned. -/
theorem Gr.goesPG {w w' : World} {p g cap : Nat} {ids I : List Nat} {l : List Opr} (G : Gr I l w) (L : Ls w p g cap ids) (h : Goes (fun b => b = p ∨ b = g) w w') : Gr I l w' := by
  refine ⟨G.len, G.nd, fun k hk => ?_⟩
  obtain ⟨d, nd, f⟩ := G.node k hk
  obtain ⟨R, hR, -⟩ := L.row
  refine ⟨d, ?_, f⟩
  unfold NdAt
  rw [h.block _ nd.lt (fun e => by
    rcases e with e | e
    · rw [e] at nd; exact ne_of_type nd L.box (by decide) rfl
    · rw [e] at nd; exact ne_of_type nd hR (by decide) rfl)]
  exact nd
theorem LG.is {w : World} {p g cap : Nat} {ids : List Nat} {l : List Opr} (H : LG w p g cap ids l) : ∀ y ∈ ids, Is w y := fun y hy => by
  obtain ⟨k, hk⟩ := List.getElem?_of_mem hy
  have hkl : k < ids.length := (List.getElem?_eq_some_iff.1 hk).1
  have e : idAt ids k = y := by rw [idAt_some hkl] at hk; exact Option.some.inj hk
  obtain ⟨d, nd, -⟩ := H.gr.node k (by have := H.gr.len; omega)
  rw [e] at nd
  exact ⟨d, nd⟩
/-- Done what is to be done. -/
def Done (w : World) (p g cap : Nat) (ids : List Nat) (l' : List Opr) (e : Ending) (w' : World) : Prop := (∃ u, e = .returned u) ∧ ∃ ids', LG w' p g cap ids' l' ∧ (∀ i ∈ ids', i ∈ ids) ∧ Goes (OwnL p g ids) w w'
/-- A function that is entered as it is called. -/
def Ent (f : Nat) : Prop := ∀ (args : Array Value) (w : World), (callFunc f args).run Try.prog w = .ok (.enter f args) w
def DeedAt (w : World) (p g cap : Nat) (ids : List Nat) (l' : List Opr) (v : Value) : Prop := ∃ f cs, v = .func (.func f) #[] cs ∧ Ent f ∧ Calls Try.prog f cs w (Done w p g cap ids l')
/-- What a rule tells of a place. -/
def Told (R : RuleL) (w : World) (p g cap : Nat) (ids : List Nat) (l : List Opr) (k : Nat) (e : Ending) (w' : World) : Prop :=
  Below w.heap.size w w' ∧ ∃ v, e = .returned v ∧ ((R l k = none ∧ v = .nilFunc) ∨ ∃ l', R l k = some l' ∧ DeedAt w' p g cap ids l' v)
section
variable {pc words el : Int} {l : List Opr} {ids : List Nat} {w : World} {p g cap : Nat}
/-- One item that nobody uses goes. -/
theorem taken_c (h : rightB pc words el l = true) (H : LG w p g cap ids l) {k : Nat} (hk : k < l.length) (t : Topo l (dropP l.length k)) :
    Calls Try.prog 45 #[ptr p 0, ptr (idAt ids k) 0] w fun e w' => (∃ u, e = .returned u) ∧ LG w' p g cap ((dropP l.length k).map (idAt ids)) (pickL l (dropP l.length k)) ∧ Goes (fun b => b = p ∨ b = g) w w' := by
  have hl := H.gr.len
  refine (take_c (ids0 := ids) (l := l) H.ls H.is (idAt_mem (by omega)) H.gr.nd).mono ?_
  rintro e w' ⟨hu, hL, hG⟩
  rw [ids_erase H.gr.nd (by omega), hl] at hL
  exact ⟨hu, ⟨hL, (H.gr.goesPG H.ls hG).pick h t⟩, hG⟩
theorem drop_sub {n k : Nat} (hn : n = ids.length) : ∀ i ∈ (dropP n k).map (idAt ids), i ∈ ids := fun i hi => by
  obtain ⟨j, hj, rfl⟩ := List.mem_map.1 hi
  exact idAt_mem (by have := (mem_drop.1 hj).1; omega)
end
end Go.Proofs.Ytilbnjldfgofmaa
