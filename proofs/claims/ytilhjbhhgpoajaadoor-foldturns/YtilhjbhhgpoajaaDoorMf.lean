/- A map, as a function of its keys. No program is named. -/
import Derived.Test.YtilhjbhhgpoajaaDoorHg
import Derived.Maps.OwnSet
import Derived.Maps.Range
import Derived.DeepKeys4
namespace Go.Proofs.YtilhjbhhgpoajaaDoor
open Go.RowKit
set_option linter.unusedVariables false
set_option linter.unusedSimpArgs false
set_option maxRecDepth 8000

open Go.ChangeMaps Go.MapKept
open Go.WideElems (Fit rd rg pl rd_val rd_key rg_of rd_mk)
open Go.Maps (Keyed)
/-- How an element is read: as itself. -/
def heldE (v : Value) : Option (DataW Value × List MemPlace) := some (.held v, [])
/-- Block b is a map of at most n entries; what stands at a key. -/
def MapF (P : Program) (k : TypeId) (b n : Nat) (f : Value → Option Value) (w : World) : Prop :=
  ∃ es clock, w.heap[b]? = some (.map es clock) ∧ Fit P k heldE es clock ∧ es.size ≤ n ∧
    ∀ key kl, keyOf P k key = some kl → (f key = none ∧ ∀ x ∈ es.toList, x.key ≠ key) ∨ ∃ x ∈ es.toList, x.key = key ∧ f key = some x.val
section
variable {P : Program} {k : TypeId} {b n : Nat} {f : Value → Option Value} {w w' : World}
theorem MapF.lt (h : MapF P k b n f w) : b < w.heap.size := by obtain ⟨es, c, hb, _⟩ := h; exact lt_of_some hb
theorem MapF.keep (h : MapF P k b n f w) (hb : w'.heap[b]? = w.heap[b]?) : MapF P k b n f w' := by
  obtain ⟨es, c, h1, h2⟩ := h
  exact ⟨es, c, hb.trans h1, h2⟩
theorem MapF.mono (h : MapF P k b n f w) {m : Nat} (hm : n ≤ m) : MapF P k b m f w := by
  obtain ⟨es, c, h1, h2, h3, h4⟩ := h
  exact ⟨es, c, h1, h2, Nat.le_trans h3 hm, h4⟩
theorem MapF.isMap (h : MapF P k b n f w) : ∃ es c, w.heap[b]? = some (.map es c) := by obtain ⟨es, c, hb, _⟩ := h; exact ⟨es, c, hb⟩
theorem MapF.made (w : World) (P : Program) (k : TypeId) : MapF P k w.heap.size 0 (fun _ => none) (w.alloc (.map #[] 0)) :=
  ⟨#[], 0, (MapKept.heap_alloc w _).1, ⟨by simp, stamped_empty 0, by simp⟩, Nat.le_refl _, fun _ _ _ => .inl ⟨rfl, by simp⟩⟩
theorem MapF.look {t e : TypeId} (h : MapF P k b n f w) (K : Keyed P k) (ht : P.underlying t = some (.map k e)) {z : Value} (hz : (zeroValue e).run P w = .ok z w) {key : Value} {kl : Lit} (hkey : keyOf P k key = some kl) (c : Bool) :
    (Instr.lookup t (.map (some b)) key c).run P w = .ok (if c then .tuple #[(f key).getD z, .bool (f key).isSome] else (f key).getD z) w := by
  obtain ⟨es, clock, hb, F, _, hf⟩ := h
  rcases Maps.fit_look c K ht hz hb F hkey with ⟨hrun, hno, _⟩ | ⟨e0, y, hm, h3, hrun, _⟩
  · rcases hf key kl hkey with ⟨h1, _⟩ | ⟨x, hx, hk, _⟩
    · rw [h1]; exact hrun
    · exact absurd hk (hno x hx)
  · rcases hf key kl hkey with ⟨_, h1⟩ | ⟨x, hx, hk, h1⟩
    · exact absurd h3 (h1 e0 hm)
    · have hv : x.val = e0.val := by
        have hp := ((stamped_iff es clock).1 F.stamped).2.2
        have : x = e0 := by
          rcases List.mem_iff_getElem?.1 hx with ⟨i, hi⟩
          rcases List.mem_iff_getElem?.1 hm with ⟨j, hj⟩
          have ei := List.getElem?_eq_some_iff.1 hi
          have ej := List.getElem?_eq_some_iff.1 hj
          by_cases e : i = j
          · subst e; rw [hi] at hj; exact Option.some.inj hj
          · rcases Nat.lt_or_gt_of_ne e with hlt | hlt
            · have := List.pairwise_iff_getElem.1 hp i j ei.1 ej.1 hlt
              rw [ei.2, ej.2] at this
              exact absurd (hk.trans h3.symm) this
            · have := List.pairwise_iff_getElem.1 hp j i ej.1 ei.1 hlt
              rw [ei.2, ej.2] at this
              exact absurd (h3.trans hk.symm) this
        rw [this]
      rw [h1, hv]
      exact hrun
open Classical in
noncomputable def putF (f : Value → Option Value) (key val : Value) : Value → Option Value := fun u => if u = key then some val else f u
theorem putF_same (f : Value → Option Value) (key val : Value) : putF f key val key = some val := if_pos rfl
theorem putF_other (f : Value → Option Value) {key u : Value} (val : Value) (h : u ≠ key) : putF f key val u = f u := if_neg h
theorem MapF.put {t e : TypeId} (h : MapF P k b n f w) (K : Keyed P k) (ht : P.underlying t = some (.map k e)) (hn : n < maxLen) {key val : Value} {kl : Lit} (hkey : keyOf P k key = some kl) :
    ∃ w', (Instr.mapUpdate t (.map (some b)) key val).run P w = .ok () w' ∧ MapF P k b (n + 1) (putF f key val) w' ∧ w.grownBy w' (some b) ∧ w'.heap.size = w.heap.size := by
  obtain ⟨es, clock, hb, F, hs, hf⟩ := h
  obtain ⟨es', clock', hrun, F', hput, _, _, hwho⟩ := Maps.fit_store (R' := heldE) (val := val) K ht hb F (Nat.lt_of_le_of_lt hs hn) (fun _ _ _ _ hz => hz) hkey rfl
  have mem' : ∀ p, p ∈ es'.toList.map (rg P k heldE) ↔ p = (kl, DataW.held val) ∨ (p ∈ es.toList.map (rg P k heldE) ∧ notKey kl p = true) := fun p => by
    rw [← (WideShapes.sorted_perm (es'.toList.map (rg P k heldE))).mem_iff, hput]
    unfold putKey
    rw [mem_insert_iff, List.mem_filter, (WideShapes.sorted_perm (es.toList.map (rg P k heldE))).mem_iff]
  have read : ∀ {ar : Array MapEntry} {c : Nat} (G : Fit P k heldE ar c) {x : MapEntry}, x ∈ ar.toList → ∃ l, keyOf P k x.key = some l ∧ rg P k heldE x = (l, .held x.val) := fun {ar c} G {x} hx => by
    obtain ⟨y, hy⟩ := G.reads x hx
    obtain ⟨z, hz, he⟩ := rd_val hy
    refine ⟨y.1, rd_key hy, ?_⟩
    rw [rg_of hy]
    cases hz
    obtain ⟨y1, y2⟩ := y
    dsimp only at he ⊢
    rw [he]
  refine ⟨_, hrun, ⟨es', clock', heap_setBlock_same hb _, F', ?_, ?_⟩, ⟨rfl, rfl, rfl, by simp [setBlock], fun i _ hi => heap_setBlock_other hb _ (fun e => hi (by rw [e]))⟩, by simp [setBlock]⟩
  · have e1 : es'.size = ((es'.toList.map (rg P k heldE)).foldr DataW.insert []).length := by rw [length_sorted]; simp
    rw [e1, hput]
    unfold putKey
    rw [length_insert]
    have e2 := List.length_filter_le (notKey kl) ((es.toList.map (rg P k heldE)).foldr DataW.insert [])
    rw [length_sorted] at e2
    simp at e2
    omega
  · intro key' kl' hk'
    by_cases e : key' = key
    · subst e
      right
      have : (kl, DataW.held val) ∈ es'.toList.map (rg P k heldE) := (mem' _).2 (.inl rfl)
      obtain ⟨x, hx, hxe⟩ := List.mem_map.1 this
      obtain ⟨l, h1, h2⟩ := read F' hx
      rw [h2] at hxe
      cases hxe
      exact ⟨x, hx, K.inj h1 hkey, putF_same _ _ _⟩
    · rw [putF_other _ _ e]
      rcases hf key' kl' hk' with ⟨h1, h2⟩ | ⟨x, hx, h1, h2⟩
      · left
        refine ⟨h1, fun x hx he => ?_⟩
        rcases hwho x hx with ⟨h3, _⟩ | ⟨h3, _⟩
        · exact h2 x h3 he
        · exact e (he.symm.trans h3)
      · right
        obtain ⟨l, h3, h4⟩ := read F hx
        have hne : l ≠ kl := fun el => e (by rw [← h1]; exact K.inj h3 (el ▸ hkey))
        have : rg P k heldE x ∈ es'.toList.map (rg P k heldE) := (mem' _).2 (.inr ⟨List.mem_map.2 ⟨x, hx, rfl⟩, (Maps.notKey_iff (K.key hkey)).2 (by rw [h4]; exact hne)⟩)
        obtain ⟨x', hx', he⟩ := List.mem_map.1 this
        obtain ⟨l', h5, h6⟩ := read F' hx'
        rw [h6, h4] at he
        simp only [Prod.mk.injEq, DataW.held.injEq] at he
        exact ⟨x', hx', by rw [← h1]; exact K.inj h5 (he.1 ▸ h3), by rw [h2, he.2]⟩
open Classical in
noncomputable def delF (f : Value → Option Value) (key : Value) : Value → Option Value := fun u => if u = key then none else f u
theorem delF_same (f : Value → Option Value) (key : Value) : delF f key key = none := if_pos rfl
theorem delF_other (f : Value → Option Value) {key u : Value} (h : u ≠ key) : delF f key u = f u := if_neg h
theorem MapF.del {t e ty : TypeId} (h : MapF P k b n f w) (K : Keyed P k) (ht : P.underlying t = some (.map k e)) {key : Value} {kl : Lit} (hkey : keyOf P k key = some kl) :
    ∃ w', (Builtin.delete_ #[t, k] ty #[.map (some b), key]).run P w = .ok (.tuple #[]) w' ∧ MapF P k b n (delF f key) w' ∧ w.grownBy w' (some b) ∧ w'.heap.size = w.heap.size := by
  obtain ⟨es, clock, hb, F, hs, hf⟩ := h
  obtain ⟨es', hrun, F', hle, _, _, hwho⟩ := Go.fit_drop_who (ty := ty) K ht hb F hkey
  refine ⟨_, hrun, ⟨es', clock, heap_setBlock_same hb _, F', Nat.le_trans hle hs, ?_⟩, ⟨rfl, rfl, rfl, by simp [setBlock], fun i _ hi => heap_setBlock_other hb _ (fun e => hi (by rw [e]))⟩, by simp [setBlock]⟩
  intro key' kl' hk'
  by_cases e : key' = key
  · subst e
    left
    exact ⟨delF_same _ _, fun x hx => ((hwho x).1 hx).2⟩
  · rw [delF_other _ e]
    rcases hf key' kl' hk' with ⟨h1, h2⟩ | ⟨x, hx, h1, h2⟩
    · exact .inl ⟨h1, fun x hx => h2 x ((hwho x).1 hx).1⟩
    · exact .inr ⟨x, (hwho x).2 ⟨hx, by rw [h1]; exact e⟩, h1, h2⟩
end
end Go.Proofs.YtilhjbhhgpoajaaDoor
