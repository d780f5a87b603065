/- A run, plainly, and as the machine holds it. -/
import Derived.Test.YtccmncecpmemaaaGreatDoorIg
namespace Go.Proofs.YtccmncecpmemaaaGreatDoor
open Go.RowKit
set_option linter.unusedVariables false
set_option linter.unusedSimpArgs false
set_option maxRecDepth 8000

structure Wnt where
  kind : Int
  addr : Int
  value : Int
  acq : Int
  rel : Bool
  fence : Int
  dsb : Bool
  sys : Int
  cls : Int
  iss : Int
deriving DecidableEq
abbrev wnA (k : Wnt) : Array Value := #[vI k.kind, vU k.addr, vU k.value, vI k.acq, .bool k.rel, vI k.fence, .bool k.dsb, vI k.sys, vI k.cls, vI k.iss]
abbrev wnV (k : Wnt) : Value := .agg (wnA k)
def nilW : Wnt := ⟨0, 0, 0, 0, false, 0, false, 0, 0, 0⟩
theorem wn_size (k : Wnt) : (wnA k).size = 10 := rfl
theorem wn_one (k : Wnt) : (wnA k).all (·.oneCell') = true := by simp [Value.oneCell']
theorem wn_inf (k : Wnt) : (Tryz.prog.info? 56).map (·.size) = some (wnA k).size := by
  show (Tryz.prog.info? 56).map (·.size) = some 10
  kernel_rfl
structure Gt where
  value : Int
  ok : Bool
  fault : Int
abbrev gtA (k : Gt) : Array Value := #[vU k.value, .bool k.ok, vI k.fault]
abbrev gtV (k : Gt) : Value := .agg (gtA k)
/-- A run, plainly. -/
structure Rn where
  next : Nat
  c : Cor
  w : Wnt
  go : Nat
  word : Int
  guest : Bool
  flt : Bool
  vs : List Int
def goV (g : Nat) : Nat → Value
  | 0 => .nilFunc
  | 1 => .func (.func 79) #[ptr g 0] #[]
  | 2 => .func (.func 80) #[ptr g 0] #[]
  | 3 => .func (.func 81) #[ptr g 0] #[]
  | _ => .func (.func 64) #[ptr g 0] #[]
def rnT (g : Nat) (S : Rn) : Array Value := #[goV g S.go, .int .u32 S.word, .bool S.guest, .bool S.flt]
def rnA (so sv : Value) (g : Nat) (S : Rn) : Array Value := #[so, sv, vI (S.next : Int)] ++ (S.c.cells ++ (wnA S.w ++ rnT g S))
theorem rn_size (so sv : Value) (g : Nat) (S : Rn) : (rnA so sv g S).size = 66 := by simp [rnA, Cor.size, rnT]
theorem rn_0 (so sv : Value) (g : Nat) (S : Rn) : (rnA so sv g S)[0]? = some so := by unfold rnA; rw [Array.getElem?_append_left (by simp)]; rfl
theorem rn_1 (so sv : Value) (g : Nat) (S : Rn) : (rnA so sv g S)[1]? = some sv := by unfold rnA; rw [Array.getElem?_append_left (by simp)]; rfl
theorem rn_2 (so sv : Value) (g : Nat) (S : Rn) : (rnA so sv g S)[2]? = some (vI (S.next : Int)) := by unfold rnA; rw [Array.getElem?_append_left (by simp)]; rfl
theorem rn_c (so sv : Value) (g : Nat) (S : Rn) (k : Nat) (h : k < 49) : (rnA so sv g S)[3 + k]? = S.c.cells[k]? := by
  unfold rnA
  rw [Array.getElem?_append_right (by simp), Array.getElem?_append_left (by simp [Cor.size]; omega)]
  simp
theorem rn_w (so sv : Value) (g : Nat) (S : Rn) (k : Nat) (h : k < 10) : (rnA so sv g S)[52 + k]? = (wnA S.w)[k]? := by
  unfold rnA
  rw [Array.getElem?_append_right (by simp; omega), Array.getElem?_append_right (by simp [Cor.size]; omega), Array.getElem?_append_left (by simp [Cor.size]; omega)]
  simp only [List.size_toArray, List.length_cons, List.length_nil, Cor.size]
  rw [show 52 + k - (0 + 1 + 1 + 1) - 49 = k by omega]
theorem rn_t (so sv : Value) (g : Nat) (S : Rn) (k : Nat) (h : k < 4) : (rnA so sv g S)[62 + k]? = (rnT g S)[k]? := by
  unfold rnA
  rw [Array.getElem?_append_right (by simp; omega), Array.getElem?_append_right (by simp [Cor.size]; omega), Array.getElem?_append_right (by simp [Cor.size]; omega)]
  simp only [List.size_toArray, List.length_cons, List.length_nil, Cor.size]
  rw [show 62 + k - (0 + 1 + 1 + 1) - 49 - (0 + 1 + 1 + 1 + 1 + 1 + 1 + 1 + 1 + 1 + 1) = k by omega]
theorem rn_set2 (so sv : Value) (g : Nat) (S : Rn) (n : Nat) : (rnA so sv g S).setIfInBounds 2 (vI (n : Int)) = rnA so sv g { S with next := n } := by
  unfold rnA
  rw [Array.setIfInBounds_append_left (by simp)]; rfl
theorem rn_setc (so sv : Value) (g : Nat) (S : Rn) (k : Nat) (h : k < 49) (u : Value) (d : Cor) (hd : S.c.cells.setIfInBounds k u = d.cells) : (rnA so sv g S).setIfInBounds (3 + k) u = rnA so sv g { S with c := d } := by
  unfold rnA
  rw [Array.setIfInBounds_append_right (by simp), Array.setIfInBounds_append_left (by simp [Cor.size]; omega)]
  simp only [List.size_toArray, List.length_cons, List.length_nil]
  rw [show 3 + k - (0 + 1 + 1 + 1) = k by omega, hd]
  rfl
theorem rn_sett (so sv : Value) (g : Nat) (S S' : Rn) (k : Nat) (h : k < 4) (u : Value) (h1 : S'.next = S.next) (h2 : S'.c = S.c) (h3 : S'.w = S.w) (hd : (rnT g S).setIfInBounds k u = rnT g S') : (rnA so sv g S).setIfInBounds (62 + k) u = rnA so sv g S' := by
  unfold rnA
  rw [Array.setIfInBounds_append_right (by simp; omega), Array.setIfInBounds_append_right (by simp [Cor.size]; omega), Array.setIfInBounds_append_right (by simp [Cor.size]; omega)]
  simp only [List.size_toArray, List.length_cons, List.length_nil, Cor.size]
  rw [show 62 + k - (0 + 1 + 1 + 1) - 49 - (0 + 1 + 1 + 1 + 1 + 1 + 1 + 1 + 1 + 1 + 1) = k by omega, hd, h1, h2, h3]
theorem rn_setw (so sv : Value) (g : Nat) (S : Rn) (d : Wnt) : ((rnA so sv g S).toList.take 52 ++ (wnA d).toList ++ (rnA so sv g S).toList.drop 62).toArray = rnA so sv g { S with w := d } := by
  have e2 : S.c.cells.toList.length = 49 := by rw [Array.length_toList, Cor.size]
  have h1 : (rnA so sv g S).toList.take 52 = [so, sv, vI (S.next : Int)] ++ S.c.cells.toList := by
    unfold rnA
    rw [Array.toList_append, Array.toList_append, ← List.append_assoc, List.take_append_of_le_length (by simp [Cor.size]), List.take_of_length_le (by simp [Cor.size])]
  have h2 : (rnA so sv g S).toList.drop 62 = (rnT g S).toList := by
    unfold rnA
    rw [Array.toList_append, Array.toList_append, Array.toList_append, ← List.append_assoc, ← List.append_assoc, List.drop_append_of_le_length (by simp [Cor.size]), List.drop_of_length_le (by simp [Cor.size])]
    rfl
  rw [h1, h2]
  unfold rnA
  simp only [rnT]
  simp
theorem rn_one (so sv : Value) (g : Nat) (S : Rn) (h0 : so.oneCell' = true) (h1 : sv.oneCell' = true) : (rnA so sv g S).all (·.oneCell') = true := by
  unfold rnA
  rw [Array.all_append, Array.all_append, Array.all_append, Cor.one]
  have : (goV g S.go).oneCell' = true := by unfold goV; split <;> rfl
  have hi : ∀ k n, (Value.int k n).oneCell' = true := fun _ _ => rfl
  have hbb : ∀ n, (Value.bool n).oneCell' = true := fun _ => rfl
  simp [rnT, h0, h1, this, hi, hbb]
/-- The numbers of a run are of their kinds. -/
structure Rn.Ok (S : Rn) : Prop where
  x : ∀ i (h : i < 31), U64 S.c.x[i]
  sp0 : U64 S.c.sp0
  sp1 : U64 S.c.sp1
  el : S.c.el = 0 ∨ S.c.el = 1
  vs : ∀ v ∈ S.vs, U64 v
/-- A run in memory: its own block, the block of its operations, the block of its values. -/
structure RunAt (l : List Opr) (g vb : Nat) (so : Value) (S : Rn) (w : World) : Prop where
  top : w.heap[g]? = some (.cells (rnA so (.slice (some ⟨vb, 0, none⟩) l.length l.length) g S) 95)
  own : w.ownsRow 0 27 6 so l.length (l.flatMap fun o => (opA o).toList)
  vals : w.heap[vb]? = some (.cells (S.vs.map vU).toArray 22)
  len : S.vs.length = l.length
  pos : 0 < l.length
  max : l.length ≤ 512
  ok : S.Ok
def RF (g vb : Nat) (k : Nat) : Prop := k = g ∨ k = vb
section
variable {l : List Opr} {g vb : Nat} {so : Value} {S : Rn} {w w' : World}
theorem RunAt.lt (H : RunAt l g vb so S w) : g < w.heap.size := lt_of_some H.top
theorem RunAt.ltv (H : RunAt l g vb so S w) : vb < w.heap.size := lt_of_some H.vals
theorem RunAt.ne (H : RunAt l g vb so S w) : g ≠ vb := ne_of_type H.top H.vals (by decide)
theorem RunAt.keep (H : RunAt l g vb so S w) (hg : w'.heap[g]? = w.heap[g]?) (hv : w'.heap[vb]? = w.heap[vb]?) (ho : ∀ k, so.ownBlock = some k → w'.heap[k]? = w.heap[k]?) : RunAt l g vb so S w' :=
  ⟨by rw [hg]; exact H.top, own_of_block H.own ho, by rw [hv]; exact H.vals, H.len, H.pos, H.max, H.ok⟩
theorem RunAt.ob (H : RunAt l g vb so S w) {k : Nat} (hk : so.ownBlock = some k) : k < w.heap.size ∧ k ≠ g ∧ k ≠ vb := by
  refine ⟨(H.own.lt k hk).2, fun e => ?_, fun e => ?_⟩
  · exact own_ne H.top H.own (by decide) (e ▸ hk)
  · exact own_ne H.vals H.own (by decide) (e ▸ hk)
theorem RunAt.grow (H : RunAt l g vb so S w) (hb : Below w.heap.size w w') : RunAt l g vb so S w' := H.keep (hb.block _ H.lt) (hb.block _ H.ltv) (fun k hk => hb.block _ (H.ob hk).1)
/-- What a call does to a run. -/
def RT (l : List Opr) (g vb : Nat) (so : Value) (S : Rn) (w w' : World) : Prop := RunAt l g vb so S w' ∧ Goes (RF g vb) w w'
theorem RT.grow (h : RT l g vb so S w w') {w2 : World} (hb : Below w'.heap.size w' w2) : RT l g vb so S w w2 := ⟨h.1.grow hb, h.2.grow hb⟩
theorem RunAt.c0 (H : RunAt l g vb so S w) : w.cell? ⟨g, 0, none⟩ = some so := by rw [cell_of_row _ _ _ _ _ _ H.top, rn_0]
theorem RunAt.c1 (H : RunAt l g vb so S w) : w.cell? ⟨g, 1, none⟩ = some (.slice (some ⟨vb, 0, none⟩) l.length l.length) := by rw [cell_of_row _ _ _ _ _ _ H.top, rn_1]
theorem RunAt.c2 (H : RunAt l g vb so S w) : w.cell? ⟨g, 2, none⟩ = some (vI (S.next : Int)) := by rw [cell_of_row _ _ _ _ _ _ H.top, rn_2]
theorem RunAt.cc (H : RunAt l g vb so S w) (k : Nat) (h : k < 49) : w.cell? ⟨g, 3 + k, none⟩ = S.c.cells[k]? := by rw [cell_of_row _ _ _ _ _ _ H.top, rn_c _ _ _ _ k h]
theorem RunAt.cx (H : RunAt l g vb so S w) (k : Nat) (h : k < 31) : w.cell? ⟨g, 3 + k, none⟩ = some (vU S.c.x[k]) := by rw [H.cc k (by omega), Cor.atX _ _ h]
theorem RunAt.cpc (H : RunAt l g vb so S w) : w.cell? ⟨g, 36, none⟩ = some (vU S.c.pc) := (H.cc 33 (by decide)).trans (Cor.a33 _)
theorem RunAt.c62 (H : RunAt l g vb so S w) : w.cell? ⟨g, 62, none⟩ = some (goV g S.go) := by rw [cell_of_row _ _ _ _ _ _ H.top, rn_t _ _ _ _ 0 (by decide)]; rfl
theorem RunAt.c63 (H : RunAt l g vb so S w) : w.cell? ⟨g, 63, none⟩ = some (.int .u32 S.word) := by rw [cell_of_row _ _ _ _ _ _ H.top, rn_t _ _ _ _ 1 (by decide)]; rfl
theorem RunAt.c64 (H : RunAt l g vb so S w) : w.cell? ⟨g, 64, none⟩ = some (.bool S.guest) := by rw [cell_of_row _ _ _ _ _ _ H.top, rn_t _ _ _ _ 2 (by decide)]; rfl
theorem RunAt.c65 (H : RunAt l g vb so S w) : w.cell? ⟨g, 65, none⟩ = some (.bool S.flt) := by rw [cell_of_row _ _ _ _ _ _ H.top, rn_t _ _ _ _ 3 (by decide)]; rfl
theorem RunAt.fz (H : RunAt l g vb so S w) (k : Nat) : w.frozen? ⟨g, k, none⟩ = false := frozen_of_row _ _ _ _ _ H.top
theorem RunAt.fv (H : RunAt l g vb so S w) (k : Nat) : w.frozen? ⟨vb, k, none⟩ = false := frozen_of_row _ _ _ _ _ H.vals
theorem RunAt.cv (H : RunAt l g vb so S w) {k : Nat} {v : Int} (h : S.vs[k]? = some v) : w.cell? ⟨vb, k, none⟩ = some (vU v) := by
  rw [cell_of_row _ _ _ _ _ _ H.vals]; simp [h]
/-- The run's own block laid anew, in one cell. -/
theorem RunAt.put (H : RunAt l g vb so S w) {S' : Rn} {k : Nat} {u : Value} (he : (rnA so (.slice (some ⟨vb, 0, none⟩) l.length l.length) g S).setIfInBounds k u = rnA so (.slice (some ⟨vb, 0, none⟩) l.length l.length) g S') (hv : S'.vs = S.vs) (ok : S'.Ok) : RT l g vb so S' w (w.setCell ⟨g, k, none⟩ u) := by
  refine ⟨⟨?_, own_of_block H.own (fun j hj => Below.heap_setCell _ _ _ _ (H.ob hj).2.1), ?_, by rw [hv]; exact H.len, H.pos, H.max, ok⟩, goes_setCell w (F := RF g vb) (.inl rfl) _ _⟩
  · rw [heap_setCell_same w g k _ 95 _ H.top, he]
  · rw [Below.heap_setCell _ _ _ _ (Ne.symm H.ne), hv]; exact H.vals
theorem RunAt.val (H : RunAt l g vb so S w) {k : Nat} {v : Int} (hv : U64 v) : RT l g vb so { S with vs := S.vs.set k v } w (w.setCell ⟨vb, k, none⟩ (vU v)) := by
  refine ⟨⟨?_, own_of_block H.own (fun j hj => Below.heap_setCell _ _ _ _ (H.ob hj).2.2), ?_, by simp [H.len], H.pos, H.max, ⟨H.ok.x, H.ok.sp0, H.ok.sp1, H.ok.el, fun u hu => ?_⟩⟩, goes_setCell w (F := RF g vb) (.inr rfl) _ _⟩
  · rw [Below.heap_setCell _ _ _ _ H.ne]; exact H.top
  · rw [heap_setCell_same w vb k _ 22 _ H.vals]; simp
  · rcases List.mem_or_eq_of_mem_set hu with h | h
    · exact H.ok.vs u h
    · exact h ▸ hv
end
end Go.Proofs.YtccmncecpmemaaaGreatDoor
