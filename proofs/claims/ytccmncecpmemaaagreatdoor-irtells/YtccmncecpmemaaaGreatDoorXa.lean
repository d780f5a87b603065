/- Da, Db of the seat, joined. -/
import Derived.Test.YtccmncecpmemaaaGreatDoorJb
/- The document's run, plainly, and as the machine holds it. -/
namespace Go.Proofs.YtccmncecpmemaaaGreatDoor
open Go.RowKit
set_option linter.unusedVariables false
set_option linter.unusedSimpArgs false
set_option maxRecDepth 8000

theorem app_r (A B : Array Value) (n k : Nat) (h : A.size = n) : (A ++ B)[n + k]? = B[k]? := by rw [Array.getElem?_append_right (by omega), h]; congr 1; omega
theorem app_l (A B : Array Value) (k : Nat) (h : k < A.size) : (A ++ B)[k]? = A[k]? := Array.getElem?_append_left h
theorem set_r (A B : Array Value) (n k : Nat) (u : Value) (h : A.size = n) : (A ++ B).setIfInBounds (n + k) u = A ++ B.setIfInBounds k u := by
  rw [Array.setIfInBounds_append_right (by omega), h]; congr 2; omega
theorem set_l (A B : Array Value) (k : Nat) (u : Value) (h : k < A.size) : (A ++ B).setIfInBounds k u = A.setIfInBounds k u ++ B := Array.setIfInBounds_append_left h
/-- The document's run, plainly. -/
structure Dn where
  c : Cor
  at_ : Nat
  waits : Bool
  w : Wnt
  left : Bool
  flt : Bool
  word : Int
  guest : Bool
  vs : List Int
def dnH (pc words el : Int) (v : Value) : Array Value := #[vU pc, vI words, vI el, v]
def dnM (sv : Value) (D : Dn) : Array Value := #[sv, vI (D.at_ : Int), .bool D.waits]
def dnT (D : Dn) : Array Value := #[.bool D.left, .bool D.flt, vU D.word, .bool D.guest]
def dnA (pc words el : Int) (v sv : Value) (D : Dn) : Array Value := dnH pc words el v ++ (D.c.cells ++ (dnM sv D ++ (wnA D.w ++ dnT D)))
section
variable (pc words el : Int) (v sv : Value) (D : Dn)
theorem dn_size : (dnA pc words el v sv D).size = 70 := by simp [dnA, dnH, dnM, dnT, Cor.size]
theorem dn_h (k : Nat) (h : k < 4) : (dnA pc words el v sv D)[k]? = (dnH pc words el v)[k]? := app_l _ _ _ h
theorem dn_c (k : Nat) (h : k < 49) : (dnA pc words el v sv D)[4 + k]? = D.c.cells[k]? := by
  unfold dnA; rw [app_r _ _ 4 _ rfl, app_l _ _ _ (by rw [Cor.size]; exact h)]
theorem dn_m (k : Nat) (h : k < 3) : (dnA pc words el v sv D)[53 + k]? = (dnM sv D)[k]? := by
  unfold dnA; rw [show 53 + k = 4 + (49 + k) by omega, app_r _ _ 4 _ rfl, app_r _ _ 49 _ (Cor.size _), app_l _ _ _ h]
theorem dn_w (k : Nat) (h : k < 10) : (dnA pc words el v sv D)[56 + k]? = (wnA D.w)[k]? := by
  unfold dnA; rw [show 56 + k = 4 + (49 + (3 + k)) by omega, app_r _ _ 4 _ rfl, app_r _ _ 49 _ (Cor.size _), app_r _ _ 3 _ rfl, app_l _ _ _ h]
theorem dn_t (k : Nat) (h : k < 4) : (dnA pc words el v sv D)[66 + k]? = (dnT D)[k]? := by
  unfold dnA; rw [show 66 + k = 4 + (49 + (3 + (10 + k))) by omega, app_r _ _ 4 _ rfl, app_r _ _ 49 _ (Cor.size _), app_r _ _ 3 _ rfl, app_r _ _ 10 _ rfl]
theorem dn_setc (k : Nat) (h : k < 49) (u : Value) (d : Cor) (hd : D.c.cells.setIfInBounds k u = d.cells) : (dnA pc words el v sv D).setIfInBounds (4 + k) u = dnA pc words el v sv { D with c := d } := by
  unfold dnA; rw [set_r _ _ 4 _ _ rfl, set_l _ _ _ _ (by rw [Cor.size]; exact h), hd]; rfl
theorem dn_setm (k : Nat) (h : k < 3) (u : Value) (D' : Dn) (h1 : D'.c = D.c) (h2 : D'.w = D.w) (h3 : dnT D' = dnT D) (hd : (dnM sv D).setIfInBounds k u = dnM sv D') : (dnA pc words el v sv D).setIfInBounds (53 + k) u = dnA pc words el v sv D' := by
  unfold dnA; rw [show 53 + k = 4 + (49 + k) by omega, set_r _ _ 4 _ _ rfl, set_r _ _ 49 _ _ (Cor.size _), set_l _ _ _ _ h, hd, h1, h2, h3]
theorem dn_sett (k : Nat) (h : k < 4) (u : Value) (D' : Dn) (h1 : D'.c = D.c) (h2 : D'.w = D.w) (h3 : dnM sv D' = dnM sv D) (hd : (dnT D).setIfInBounds k u = dnT D') : (dnA pc words el v sv D).setIfInBounds (66 + k) u = dnA pc words el v sv D' := by
  unfold dnA; rw [show 66 + k = 4 + (49 + (3 + (10 + k))) by omega, set_r _ _ 4 _ _ rfl, set_r _ _ 49 _ _ (Cor.size _), set_r _ _ 3 _ _ rfl, set_r _ _ 10 _ _ rfl, hd, h1, h2, h3]
theorem dn_setw (d : Wnt) : ((dnA pc words el v sv D).toList.take 56 ++ (wnA d).toList ++ (dnA pc words el v sv D).toList.drop 66).toArray = dnA pc words el v sv { D with w := d } := by
  have h0 : (dnH pc words el v ++ (D.c.cells ++ dnM sv D)).toList.length = 56 := by simp [dnH, dnM, Cor.size]
  have e : (dnA pc words el v sv D).toList = (dnH pc words el v ++ (D.c.cells ++ dnM sv D)).toList ++ ((wnA D.w).toList ++ (dnT D).toList) := by unfold dnA; simp
  have h1 : (dnA pc words el v sv D).toList.take 56 = (dnH pc words el v ++ (D.c.cells ++ dnM sv D)).toList := by
    rw [e, List.take_append_of_le_length (by omega), List.take_of_length_le (by omega)]
  have h2 : (dnA pc words el v sv D).toList.drop 66 = (dnT D).toList := by
    rw [e, ← List.append_assoc, List.drop_append_of_le_length (by simp [dnH, dnM, Cor.size]), List.drop_of_length_le (by simp [dnH, dnM, Cor.size])]
    rfl
  rw [h1, h2]
  unfold dnA
  simp [dnM, dnT]
theorem dn_one (h0 : v.oneCell' = true) (h1 : sv.oneCell' = true) : (dnA pc words el v sv D).all (·.oneCell') = true := by
  have hi : ∀ k n, (Value.int k n).oneCell' = true := fun _ _ => rfl
  have hbb : ∀ n, (Value.bool n).oneCell' = true := fun _ => rfl
  unfold dnA dnH dnM dnT
  rw [Array.all_append, Array.all_append, Array.all_append, Array.all_append, Cor.one]
  simp [h0, h1, hi, hbb]
end
structure Dn.Ok (D : Dn) : Prop where
  x : ∀ i (h : i < 31), U64 D.c.x[i]
  sp0 : U64 D.c.sp0
  sp1 : U64 D.c.sp1
  vs : ∀ v ∈ D.vs, U64 v
/-- The document's run in memory. -/
structure DocAt (pc words el : Int) (v : Value) (l : List Opr) (g vb : Nat) (D : Dn) (w : World) : Prop where
  top : w.heap[g]? = some (.cells (dnA pc words el v (.slice (some ⟨vb, 0, none⟩) l.length l.length) D) 64)
  vals : w.heap[vb]? = some (.cells (D.vs.map vU).toArray 22)
  ops : Ops w v l
  far : ∀ ra n cap, v = .slice (some ra) n cap → ra.block ≠ g ∧ ra.block ≠ vb
  len : D.vs.length = l.length
  pos : 0 < l.length
  max : l.length ≤ 512
  ok : D.Ok
def DT (pc words el : Int) (v : Value) (l : List Opr) (g vb : Nat) (D : Dn) (w w' : World) : Prop := DocAt pc words el v l g vb D w' ∧ Goes (RF g vb) w w'
section
variable {pc words el : Int} {v : Value} {l : List Opr} {g vb : Nat} {D : Dn} {w w' : World}
theorem Ops.keepB (h : Ops w v l) (hs : ∀ k, k < w.heap.size → k < w'.heap.size) (hb : ∀ ra n cap, v = .slice (some ra) n cap → ra.block < w.heap.size → w'.heap[ra.block]? = w.heap[ra.block]?) : Ops w' v l :=
  ⟨h.len, h.max, fun h0 => by
    obtain ⟨ra, cap, e, hc⟩ := h.cell h0
    refine ⟨ra, cap, e, fun i o ho => ?_⟩
    have A := hc i o ho
    have eb : (ra.add (i * 6)).block = ra.block := by unfold Addr.add; split <;> rfl
    have lt := A.lt
    exact A.keep (hs _ lt) (by rw [eb] at lt ⊢; exact hb ra _ cap e lt)⟩
theorem DocAt.lt (H : DocAt pc words el v l g vb D w) : g < w.heap.size := lt_of_some H.top
theorem DocAt.ltv (H : DocAt pc words el v l g vb D w) : vb < w.heap.size := lt_of_some H.vals
theorem DocAt.ne (H : DocAt pc words el v l g vb D w) : g ≠ vb := ne_of_type H.top H.vals (by decide)
theorem DocAt.keep (H : DocAt pc words el v l g vb D w) (hs : w.heap.size ≤ w'.heap.size) (hg : w'.heap[g]? = w.heap[g]?) (hv : w'.heap[vb]? = w.heap[vb]?) (ho : ∀ ra n cap, v = .slice (some ra) n cap → ra.block < w.heap.size → w'.heap[ra.block]? = w.heap[ra.block]?) : DocAt pc words el v l g vb D w' :=
  ⟨by rw [hg]; exact H.top, by rw [hv]; exact H.vals, H.ops.keepB (fun k hk => Nat.lt_of_lt_of_le hk hs) ho, H.far, H.len, H.pos, H.max, H.ok⟩
theorem DocAt.grow (H : DocAt pc words el v l g vb D w) (hb : Below w.heap.size w w') : DocAt pc words el v l g vb D w' := H.keep hb.size (hb.block _ H.lt) (hb.block _ H.ltv) (fun ra n cap _ hk => hb.block _ hk)
theorem DT.grow (h : DT pc words el v l g vb D w w') {w2 : World} (hb : Below w'.heap.size w' w2) : DT pc words el v l g vb D w w2 := ⟨h.1.grow hb, h.2.grow hb⟩
theorem DT.then {D' : Dn} {w1 w2 : World} (h : DT pc words el v l g vb D w w1) (k : DT pc words el v l g vb D' w1 w2) : DT pc words el v l g vb D' w w2 := ⟨k.1, h.2.trans k.2 (fun _ _ h => h)⟩
theorem DT.from {w1 w2 : World} (hb : Below w.heap.size w w1) (k : DT pc words el v l g vb D w1 w2) : DT pc words el v l g vb D w w2 := ⟨k.1, (goes_of_below hb).trans k.2 (fun _ _ h => h)⟩
theorem DocAt.here (H : DocAt pc words el v l g vb D w) : DT pc words el v l g vb D w w := ⟨H, Goes.refl _ _⟩
theorem DocAt.dr (H : DocAt pc words el v l g vb D w) : DT pc words el v l g vb D w { w with drawn := w.drawn + 1 } := ⟨H.grow (below_dr w), goes_of_below (below_dr w)⟩
theorem DT.kept {D' : Dn} {x y : World} (R : DT pc words el v l g vb D' x y) {t : Nat} {Z : Array Value} {ty : TypeId} (h : x.heap[t]? = some (.cells Z ty)) (h1 : t ≠ g) (h2 : t ≠ vb) : y.heap[t]? = some (.cells Z ty) := by
  rw [R.2.block t (lt_of_some h) (fun e => e.elim h1 h2)]; exact h
theorem DocAt.cell (H : DocAt pc words el v l g vb D w) (k : Nat) : w.cell? ⟨g, k, none⟩ = (dnA pc words el v (.slice (some ⟨vb, 0, none⟩) l.length l.length) D)[k]? := cell_of_row _ _ _ _ _ _ H.top
theorem DocAt.c0 (H : DocAt pc words el v l g vb D w) : w.cell? ⟨g, 0, none⟩ = some (vU pc) := by rw [H.cell, dn_h _ _ _ _ _ _ 0 (by decide)]; rfl
theorem DocAt.c2 (H : DocAt pc words el v l g vb D w) : w.cell? ⟨g, 2, none⟩ = some (vI el) := by rw [H.cell, dn_h _ _ _ _ _ _ 2 (by decide)]; rfl
theorem DocAt.c3 (H : DocAt pc words el v l g vb D w) : w.cell? ⟨g, 3, none⟩ = some v := by rw [H.cell, dn_h _ _ _ _ _ _ 3 (by decide)]; rfl
theorem DocAt.cc (H : DocAt pc words el v l g vb D w) (k : Nat) (h : k < 49) : w.cell? ⟨g, 4 + k, none⟩ = D.c.cells[k]? := by rw [H.cell, dn_c _ _ _ _ _ _ k h]
theorem DocAt.cx (H : DocAt pc words el v l g vb D w) (k : Nat) (h : k < 31) : w.cell? ⟨g, 4 + k, none⟩ = some (vU D.c.x[k]) := by rw [H.cc k (by omega), Cor.atX _ _ h]
theorem DocAt.c53 (H : DocAt pc words el v l g vb D w) : w.cell? ⟨g, 53, none⟩ = some (.slice (some ⟨vb, 0, none⟩) l.length l.length) := by rw [H.cell, dn_m _ _ _ _ _ _ 0 (by decide)]; rfl
theorem DocAt.c54 (H : DocAt pc words el v l g vb D w) : w.cell? ⟨g, 54, none⟩ = some (vI (D.at_ : Int)) := by rw [H.cell, dn_m _ _ _ _ _ _ 1 (by decide)]; rfl
theorem DocAt.c55 (H : DocAt pc words el v l g vb D w) : w.cell? ⟨g, 55, none⟩ = some (.bool D.waits) := by rw [H.cell, dn_m _ _ _ _ _ _ 2 (by decide)]; rfl
theorem DocAt.c66 (H : DocAt pc words el v l g vb D w) : w.cell? ⟨g, 66, none⟩ = some (.bool D.left) := by rw [H.cell, dn_t _ _ _ _ _ _ 0 (by decide)]; rfl
theorem DocAt.c67 (H : DocAt pc words el v l g vb D w) : w.cell? ⟨g, 67, none⟩ = some (.bool D.flt) := by rw [H.cell, dn_t _ _ _ _ _ _ 1 (by decide)]; rfl
theorem DocAt.c68 (H : DocAt pc words el v l g vb D w) : w.cell? ⟨g, 68, none⟩ = some (vU D.word) := by rw [H.cell, dn_t _ _ _ _ _ _ 2 (by decide)]; rfl
theorem DocAt.c69 (H : DocAt pc words el v l g vb D w) : w.cell? ⟨g, 69, none⟩ = some (.bool D.guest) := by rw [H.cell, dn_t _ _ _ _ _ _ 3 (by decide)]; rfl
theorem DocAt.fz (H : DocAt pc words el v l g vb D w) (k : Nat) : w.frozen? ⟨g, k, none⟩ = false := frozen_of_row _ _ _ _ _ H.top
theorem DocAt.fv (H : DocAt pc words el v l g vb D w) (k : Nat) : w.frozen? ⟨vb, k, none⟩ = false := frozen_of_row _ _ _ _ _ H.vals
/-- The run's own block laid anew, in one cell. -/
theorem DocAt.put (H : DocAt pc words el v l g vb D w) {D' : Dn} {k : Nat} {u : Value} (he : (dnA pc words el v (.slice (some ⟨vb, 0, none⟩) l.length l.length) D).setIfInBounds k u = dnA pc words el v (.slice (some ⟨vb, 0, none⟩) l.length l.length) D') (hv : D'.vs = D.vs) (ok : D'.Ok) : DT pc words el v l g vb D' w (w.setCell ⟨g, k, none⟩ u) := by
  refine ⟨⟨?_, ?_, H.ops.keepB (fun k hk => by simpa [World.setCell] using hk) (fun ra n cap e _ => Below.heap_setCell _ _ _ _ (H.far ra n cap e).1), H.far, by rw [hv]; exact H.len, H.pos, H.max, ok⟩, goes_setCell w (F := RF g vb) (.inl rfl) _ _⟩
  · rw [heap_setCell_same w g k _ 64 _ H.top, he]
  · rw [Below.heap_setCell _ _ _ _ (Ne.symm H.ne), hv]; exact H.vals
theorem DocAt.val (H : DocAt pc words el v l g vb D w) {k : Nat} {u : Int} (hu : U64 u) : DT pc words el v l g vb { D with vs := D.vs.set k u } w (w.setCell ⟨vb, k, none⟩ (vU u)) := by
  refine ⟨⟨?_, ?_, H.ops.keepB (fun k hk => by simpa [World.setCell] using hk) (fun ra n cap e _ => Below.heap_setCell _ _ _ _ (H.far ra n cap e).2), H.far, by simp [H.len], H.pos, H.max, ⟨H.ok.x, H.ok.sp0, H.ok.sp1, fun z hz => ?_⟩⟩, goes_setCell w (F := RF g vb) (.inr rfl) _ _⟩
  · rw [Below.heap_setCell _ _ _ _ H.ne]; exact H.top
  · rw [heap_setCell_same w vb k _ 22 _ H.vals]; simp
  · rcases List.mem_or_eq_of_mem_set hz with h | h
    · exact H.ok.vs z h
    · exact h ▸ hu
def Dn.val (D : Dn) (a : Int) : Int := D.vs.getD a.toNat 0
theorem DocAt.valc (H : DocAt pc words el v l g vb D w) {a : Nat} (ha : a < l.length) : w.cell? ⟨vb, a, none⟩ = some (vU (D.val a)) := by
  have hl : a < D.vs.length := by rw [H.len]; exact ha
  rw [cell_of_row _ _ _ _ _ _ H.vals]
  unfold Dn.val
  rw [Int.toNat_natCast, List.getD_eq_getElem?_getD, List.getElem?_eq_getElem hl]
  simp [hl]
theorem DocAt.valu (H : DocAt pc words el v l g vb D w) (a : Int) : U64 (D.val a) := by
  unfold Dn.val
  rw [List.getD_eq_getElem?_getD]
  cases h : D.vs[a.toNat]? with
  | none => exact ⟨by decide, by decide⟩
  | some u => exact H.ok.vs u (List.mem_of_getElem? h)
theorem DocAt.setM (H : DocAt pc words el v l g vb D w) (k : Nat) (h : k < 3) (u : Value) (D' : Dn) (h1 : D'.c = D.c) (h2 : D'.w = D.w) (h3 : dnT D' = dnT D) (h4 : D'.vs = D.vs) (hd : (dnM (.slice (some ⟨vb, 0, none⟩) l.length l.length) D).setIfInBounds k u = dnM (.slice (some ⟨vb, 0, none⟩) l.length l.length) D') : DT pc words el v l g vb D' w (w.setCell ⟨g, 53 + k, none⟩ u) :=
  H.put (dn_setm _ _ _ _ _ _ k h u D' h1 h2 h3 hd) h4 ⟨by rw [h1]; exact H.ok.x, by rw [h1]; exact H.ok.sp0, by rw [h1]; exact H.ok.sp1, by rw [h4]; exact H.ok.vs⟩
theorem DocAt.setT (H : DocAt pc words el v l g vb D w) (k : Nat) (h : k < 4) (u : Value) (D' : Dn) (h1 : D'.c = D.c) (h2 : D'.w = D.w) (h3 : D'.at_ = D.at_) (h5 : D'.waits = D.waits) (h4 : D'.vs = D.vs) (hd : (dnT D).setIfInBounds k u = dnT D') : DT pc words el v l g vb D' w (w.setCell ⟨g, 66 + k, none⟩ u) :=
  H.put (dn_sett _ _ _ _ _ _ k h u D' h1 h2 (by unfold dnM; rw [h3, h5]) hd) h4 ⟨by rw [h1]; exact H.ok.x, by rw [h1]; exact H.ok.sp0, by rw [h1]; exact H.ok.sp1, by rw [h4]; exact H.ok.vs⟩
end
end Go.Proofs.YtccmncecpmemaaaGreatDoor
/- Small answers of the document: Access, Defines, shape. -/
namespace Go.Proofs.YtccmncecpmemaaaGreatDoor
open Go.RowKit
set_option linter.unusedVariables false
set_option linter.unusedSimpArgs false
set_option maxRecDepth 8000

def accB (k : Int) : Bool := k == 9 || k == 10 || k == 11 || k == 12
def defsB (k : Int) : Bool := k == 1 || k == 2 || k == 4 || k == 6 || k == 8 || k == 9 || k == 11 || k == 12
def leavB (k : Int) : Bool := accB k || (decide (15 ≤ k) && decide (k ≤ 18))
def shpV (k : Int) : Int := if k = 3 ∨ k = 5 ∨ k = 7 ∨ k = 9 ∨ k = 11 ∨ k = 15 ∨ k = 17 then 1 else if k = 8 ∨ k = 10 ∨ k = 12 then 2 else 0
theorem dIn_c (n a b : Int) (w : World) : Calls Tryz.prog 27 #[vI n, vI a, vI b] w fun e w' => e = .returned (.bool (decide (a ≤ n) && decide (n ≤ b))) ∧ w' = w := by
  go_enter Tryz.func27, Tryz.ntmps27
  by_cases h1 : a ≤ n <;> by_cases h2 : n ≤ b <;> (go_wp2; go_ret; refine ⟨ret_bool ?_, rfl⟩; simp [h1, h2] <;> omega)
set_option maxHeartbeats 1000000 in
theorem dAcc_c (o : Opr) (w : World) : Calls Tryz.prog 34 #[opV o] w fun e w' => e = .returned (.bool (accB o.kind)) ∧ Below w.heap.size w w' := by
  go_enter Tryz.func34, Tryz.ntmps34
  go_wp2
  all_goals (go_ret; refine ⟨ret_bool ?_, by repeat (first | exact Below.refl _ _ | apply below_more | apply below_drew | apply below_drewN)⟩; unfold accB; simp_all)
set_option maxHeartbeats 2000000 in
theorem dDefs_c (o : Opr) (w : World) : Calls Tryz.prog 9 #[opV o] w fun e w' => e = .returned (.bool (defsB o.kind)) ∧ Below w.heap.size w w' := by
  go_enter Tryz.func9, Tryz.ntmps9
  go_wp2
  all_goals (go_ret; refine ⟨ret_bool ?_, by repeat (first | exact Below.refl _ _ | apply below_more | apply below_drew | apply below_drewN)⟩; unfold defsB; simp_all)
set_option maxHeartbeats 1000000 in
theorem dShape_c (k : Int) (w : World) : Calls Tryz.prog 38 #[vI k] w fun e w' => e = .returned (vI (shpV k)) ∧ w' = w := by
  rcases (by omega : k = 3 ∨ k = 5 ∨ k = 7 ∨ k = 9 ∨ k = 11 ∨ k = 15 ∨ k = 17 ∨ k = 8 ∨ k = 10 ∨ k = 12 ∨ (k ≠ 3 ∧ k ≠ 5 ∧ k ≠ 7 ∧ k ≠ 9 ∧ k ≠ 11 ∧ k ≠ 15 ∧ k ≠ 17 ∧ k ≠ 8 ∧ k ≠ 10 ∧ k ≠ 12)) with rfl | rfl | rfl | rfl | rfl | rfl | rfl | rfl | rfl | rfl | ⟨h3, h5, h7, h9, h11, h15, h17, h8, h10, h12⟩
  · go_enter Tryz.func38, Tryz.ntmps38
    go_wp2
    go_ret
    exact ⟨rfl, rfl⟩
  · go_enter Tryz.func38, Tryz.ntmps38
    go_wp2
    go_ret
    exact ⟨rfl, rfl⟩
  · go_enter Tryz.func38, Tryz.ntmps38
    go_wp2
    go_ret
    exact ⟨rfl, rfl⟩
  · go_enter Tryz.func38, Tryz.ntmps38
    go_wp2
    go_ret
    exact ⟨rfl, rfl⟩
  · go_enter Tryz.func38, Tryz.ntmps38
    go_wp2
    go_ret
    exact ⟨rfl, rfl⟩
  · go_enter Tryz.func38, Tryz.ntmps38
    go_wp2
    go_ret
    exact ⟨rfl, rfl⟩
  · go_enter Tryz.func38, Tryz.ntmps38
    go_wp2
    go_ret
    exact ⟨rfl, rfl⟩
  · go_enter Tryz.func38, Tryz.ntmps38
    go_wp2
    go_ret
    exact ⟨rfl, rfl⟩
  · go_enter Tryz.func38, Tryz.ntmps38
    go_wp2
    go_ret
    exact ⟨rfl, rfl⟩
  · go_enter Tryz.func38, Tryz.ntmps38
    go_wp2
    go_ret
    exact ⟨rfl, rfl⟩
  · have hv : shpV k = 0 := by unfold shpV; rw [if_neg (by omega), if_neg (by omega)]
    rw [hv]
    have e3 : (k == 3) = false := by simp [h3]
    have e5 : (k == 5) = false := by simp [h5]
    have e7 : (k == 7) = false := by simp [h7]
    have e9 : (k == 9) = false := by simp [h9]
    have e11 : (k == 11) = false := by simp [h11]
    have e15 : (k == 15) = false := by simp [h15]
    have e17 : (k == 17) = false := by simp [h17]
    have e8 : (k == 8) = false := by simp [h8]
    have e10 : (k == 10) = false := by simp [h10]
    have e12 : (k == 12) = false := by simp [h12]
    clear hv h3 h5 h7 h9 h11 h15 h17 h8 h10 h12
    go_enter Tryz.func38, Tryz.ntmps38
    go_wp2
    go_ret
    exact ⟨rfl, rfl⟩
end Go.Proofs.YtccmncecpmemaaaGreatDoor
