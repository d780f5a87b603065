/- Da, Db, Dc, Dd of the seat, joined. -/
import Derived.Test.YtejlmggfeejgpaaJb
/- The document's run, plainly, and as the machine holds it. -/
namespace Go.Proofs.Ytejlmggfeejgpaa
open Go.RowKit
set_option linter.unusedVariables false
set_option linter.unusedSimpArgs false
set_option maxRecDepth 8000

theorem app_r (A B : Array Value) (n k : Nat) (h : A.size = n) : (A ++ B)[n + k]? = B[k]? := by rw [Array.getElem?_append_right (by omega), h]; congr 1; omega
theorem app_l (A B : Array Value) (k : Nat) (h : k < A.size) : (A ++ B)[k]? = A[k]? := Array.getElem?_append_left h
theorem set_r (A B : Array Value) (n k : Nat) (u : Value) (h : A.size = n) : (A ++ B).setIfInBounds (n + k) u = A ++ B.setIfInBounds k u := by
  rw [Array.setIfInBounds_append_right (by omega), h]; congr 2; omega
theorem set_l (A B : Array Value) (k : Nat) (u : Value) (h : k < A.size) : (A ++ B).setIfInBounds k u = A.setIfInBounds k u ++ B := Array.setIfInBounds_append_left h
/-- The document's run, plainly. -/
structure Dn where
  c : Cor
  at_ : Nat
  waits : Bool
  w : Wnt
  left : Bool
  flt : Bool
  word : Int
  guest : Bool
  vs : List Int
def dnH (pc words el : Int) (v : Value) : Array Value := #[vU pc, vI words, vI el, v]
def dnM (sv : Value) (D : Dn) : Array Value := #[sv, vI (D.at_ : Int), .bool D.waits]
def dnT (D : Dn) : Array Value := #[.bool D.left, .bool D.flt, vU D.word, .bool D.guest]
def dnA (pc words el : Int) (v sv : Value) (D : Dn) : Array Value := dnH pc words el v ++ (D.c.cells ++ (dnM sv D ++ (wnA D.w ++ dnT D)))
section
variable (pc words el : Int) (v sv : Value) (D : Dn)
theorem dn_size : (dnA pc words el v sv D).size = 70 := by simp [dnA, dnH, dnM, dnT, Cor.size]
theorem dn_h (k : Nat) (h : k < 4) : (dnA pc words el v sv D)[k]? = (dnH pc words el v)[k]? := app_l _ _ _ h
theorem dn_c (k : Nat) (h : k < 49) : (dnA pc words el v sv D)[4 + k]? = D.c.cells[k]? := by
  unfold dnA; rw [app_r _ _ 4 _ rfl, app_l _ _ _ (by rw [Cor.size]; exact h)]
theorem dn_m (k : Nat) (h : k < 3) : (dnA pc words el v sv D)[53 + k]? = (dnM sv D)[k]? := by
  unfold dnA; rw [show 53 + k = 4 + (49 + k) by omega, app_r _ _ 4 _ rfl, app_r _ _ 49 _ (Cor.size _), app_l _ _ _ h]
theorem dn_w (k : Nat) (h : k < 10) : (dnA pc words el v sv D)[56 + k]? = (wnA D.w)[k]? := by
  unfold dnA; rw [show 56 + k = 4 + (49 + (3 + k)) by omega, app_r _ _ 4 _ rfl, app_r _ _ 49 _ (Cor.size _), app_r _ _ 3 _ rfl, app_l _ _ _ h]
theorem dn_t (k : Nat) (h : k < 4) : (dnA pc words el v sv D)[66 + k]? = (dnT D)[k]? := by
  unfold dnA; rw [show 66 + k = 4 + (49 + (3 + (10 + k))) by omega, app_r _ _ 4 _ rfl, app_r _ _ 49 _ (Cor.size _), app_r _ _ 3 _ rfl, app_r _ _ 10 _ rfl]
theorem dn_setc (k : Nat) (h : k < 49) (u : Value) (d : Cor) (hd : D.c.cells.setIfInBounds k u = d.cells) : (dnA pc words el v sv D).setIfInBounds (4 + k) u = dnA pc words el v sv { D with c := d } := by
  unfold dnA; rw [set_r _ _ 4 _ _ rfl, set_l _ _ _ _ (by rw [Cor.size]; exact h), hd]; rfl
theorem dn_setm (k : Nat) (h : k < 3) (u : Value) (D' : Dn) (h1 : D'.c = D.c) (h2 : D'.w = D.w) (h3 : dnT D' = dnT D) (hd : (dnM sv D).setIfInBounds k u = dnM sv D') : (dnA pc words el v sv D).setIfInBounds (53 + k) u = dnA pc words el v sv D' := by
  unfold dnA; rw [show 53 + k = 4 + (49 + k) by omega, set_r _ _ 4 _ _ rfl, set_r _ _ 49 _ _ (Cor.size _), set_l _ _ _ _ h, hd, h1, h2, h3]
theorem dn_sett (k : Nat) (h : k < 4) (u : Value) (D' : Dn) (h1 : D'.c = D.c) (h2 : D'.w = D.w) (h3 : dnM sv D' = dnM sv D) (hd : (dnT D).setIfInBounds k u = dnT D') : (dnA pc words el v sv D).setIfInBounds (66 + k) u = dnA pc words el v sv D' := by
  unfold dnA; rw [show 66 + k = 4 + (49 + (3 + (10 + k))) by omega, set_r _ _ 4 _ _ rfl, set_r _ _ 49 _ _ (Cor.size _), set_r _ _ 3 _ _ rfl, set_r _ _ 10 _ _ rfl, hd, h1, h2, h3]
theorem dn_setw (d : Wnt) : ((dnA pc words el v sv D).toList.take 56 ++ (wnA d).toList ++ (dnA pc words el v sv D).toList.drop 66).toArray = dnA pc words el v sv { D with w := d } := by
  have h0 : (dnH pc words el v ++ (D.c.cells ++ dnM sv D)).toList.length = 56 := by simp [dnH, dnM, Cor.size]
  have e : (dnA pc words el v sv D).toList = (dnH pc words el v ++ (D.c.cells ++ dnM sv D)).toList ++ ((wnA D.w).toList ++ (dnT D).toList) := by unfold dnA; simp
  have h1 : (dnA pc words el v sv D).toList.take 56 = (dnH pc words el v ++ (D.c.cells ++ dnM sv D)).toList := by
    rw [e, List.take_append_of_le_length (by omega), List.take_of_length_le (by omega)]
  have h2 : (dnA pc words el v sv D).toList.drop 66 = (dnT D).toList := by
    rw [e, ← List.append_assoc, List.drop_append_of_le_length (by simp [dnH, dnM, Cor.size]), List.drop_of_length_le (by simp [dnH, dnM, Cor.size])]
    rfl
  rw [h1, h2]
  unfold dnA
  simp [dnM, dnT]
theorem dn_one (h0 : v.oneCell' = true) (h1 : sv.oneCell' = true) : (dnA pc words el v sv D).all (·.oneCell') = true := by
  have hi : ∀ k n, (Value.int k n).oneCell' = true := fun _ _ => rfl
  have hbb : ∀ n, (Value.bool n).oneCell' = true := fun _ => rfl
  unfold dnA dnH dnM dnT
  rw [Array.all_append, Array.all_append, Array.all_append, Array.all_append, Cor.one]
  simp [h0, h1, hi, hbb]
end
structure Dn.Ok (D : Dn) : Prop where
  x : ∀ i (h : i < 31), U64 D.c.x[i]
  sp0 : U64 D.c.sp0
  sp1 : U64 D.c.sp1
  vs : ∀ v ∈ D.vs, U64 v
/-- The document's run in memory. -/
structure DocAt (pc words el : Int) (v : Value) (l : List Opr) (g vb : Nat) (D : Dn) (w : World) : Prop where
  top : w.heap[g]? = some (.cells (dnA pc words el v (.slice (some ⟨vb, 0, none⟩) l.length l.length) D) 54)
  vals : w.heap[vb]? = some (.cells (D.vs.map vU).toArray 22)
  ops : Ops w v l
  far : ∀ ra n cap, v = .slice (some ra) n cap → ra.block ≠ g ∧ ra.block ≠ vb
  len : D.vs.length = l.length
  pos : 0 < l.length
  max : l.length ≤ 512
  ok : D.Ok
def DT (pc words el : Int) (v : Value) (l : List Opr) (g vb : Nat) (D : Dn) (w w' : World) : Prop := DocAt pc words el v l g vb D w' ∧ Goes (RF g vb) w w'
section
variable {pc words el : Int} {v : Value} {l : List Opr} {g vb : Nat} {D : Dn} {w w' : World}
theorem Ops.keepB (h : Ops w v l) (hs : ∀ k, k < w.heap.size → k < w'.heap.size) (hb : ∀ ra n cap, v = .slice (some ra) n cap → ra.block < w.heap.size → w'.heap[ra.block]? = w.heap[ra.block]?) : Ops w' v l :=
  ⟨h.len, h.max, fun h0 => by
    obtain ⟨ra, cap, e, hc⟩ := h.cell h0
    refine ⟨ra, cap, e, fun i o ho => ?_⟩
    have A := hc i o ho
    have eb : (ra.add (i * 6)).block = ra.block := by unfold Addr.add; split <;> rfl
    have lt := A.lt
    exact A.keep (hs _ lt) (by rw [eb] at lt ⊢; exact hb ra _ cap e lt)⟩
theorem DocAt.lt (H : DocAt pc words el v l g vb D w) : g < w.heap.size := lt_of_some H.top
theorem DocAt.ltv (H : DocAt pc words el v l g vb D w) : vb < w.heap.size := lt_of_some H.vals
theorem DocAt.ne (H : DocAt pc words el v l g vb D w) : g ≠ vb := ne_of_type H.top H.vals (by decide)
theorem DocAt.keep (H : DocAt pc words el v l g vb D w) (hs : w.heap.size ≤ w'.heap.size) (hg : w'.heap[g]? = w.heap[g]?) (hv : w'.heap[vb]? = w.heap[vb]?) (ho : ∀ ra n cap, v = .slice (some ra) n cap → ra.block < w.heap.size → w'.heap[ra.block]? = w.heap[ra.block]?) : DocAt pc words el v l g vb D w' :=
  ⟨by rw [hg]; exact H.top, by rw [hv]; exact H.vals, H.ops.keepB (fun k hk => Nat.lt_of_lt_of_le hk hs) ho, H.far, H.len, H.pos, H.max, H.ok⟩
theorem DocAt.grow (H : DocAt pc words el v l g vb D w) (hb : Below w.heap.size w w') : DocAt pc words el v l g vb D w' := H.keep hb.size (hb.block _ H.lt) (hb.block _ H.ltv) (fun ra n cap _ hk => hb.block _ hk)
theorem DT.grow (h : DT pc words el v l g vb D w w') {w2 : World} (hb : Below w'.heap.size w' w2) : DT pc words el v l g vb D w w2 := ⟨h.1.grow hb, h.2.grow hb⟩
theorem DT.then {D' : Dn} {w1 w2 : World} (h : DT pc words el v l g vb D w w1) (k : DT pc words el v l g vb D' w1 w2) : DT pc words el v l g vb D' w w2 := ⟨k.1, h.2.trans k.2 (fun _ _ h => h)⟩
theorem DT.from {w1 w2 : World} (hb : Below w.heap.size w w1) (k : DT pc words el v l g vb D w1 w2) : DT pc words el v l g vb D w w2 := ⟨k.1, (goes_of_below hb).trans k.2 (fun _ _ h => h)⟩
theorem DocAt.here (H : DocAt pc words el v l g vb D w) : DT pc words el v l g vb D w w := ⟨H, Goes.refl _ _⟩
theorem DocAt.dr (H : DocAt pc words el v l g vb D w) : DT pc words el v l g vb D w { w with drawn := w.drawn + 1 } := ⟨H.grow (below_dr w), goes_of_below (below_dr w)⟩
theorem DT.kept {D' : Dn} {x y : World} (R : DT pc words el v l g vb D' x y) {t : Nat} {Z : Array Value} {ty : TypeId} (h : x.heap[t]? = some (.cells Z ty)) (h1 : t ≠ g) (h2 : t ≠ vb) : y.heap[t]? = some (.cells Z ty) := by
  rw [R.2.block t (lt_of_some h) (fun e => e.elim h1 h2)]; exact h
theorem DocAt.cell (H : DocAt pc words el v l g vb D w) (k : Nat) : w.cell? ⟨g, k, none⟩ = (dnA pc words el v (.slice (some ⟨vb, 0, none⟩) l.length l.length) D)[k]? := cell_of_row _ _ _ _ _ _ H.top
theorem DocAt.c0 (H : DocAt pc words el v l g vb D w) : w.cell? ⟨g, 0, none⟩ = some (vU pc) := by rw [H.cell, dn_h _ _ _ _ _ _ 0 (by decide)]; rfl
theorem DocAt.c2 (H : DocAt pc words el v l g vb D w) : w.cell? ⟨g, 2, none⟩ = some (vI el) := by rw [H.cell, dn_h _ _ _ _ _ _ 2 (by decide)]; rfl
theorem DocAt.c3 (H : DocAt pc words el v l g vb D w) : w.cell? ⟨g, 3, none⟩ = some v := by rw [H.cell, dn_h _ _ _ _ _ _ 3 (by decide)]; rfl
theorem DocAt.cc (H : DocAt pc words el v l g vb D w) (k : Nat) (h : k < 49) : w.cell? ⟨g, 4 + k, none⟩ = D.c.cells[k]? := by rw [H.cell, dn_c _ _ _ _ _ _ k h]
theorem DocAt.cx (H : DocAt pc words el v l g vb D w) (k : Nat) (h : k < 31) : w.cell? ⟨g, 4 + k, none⟩ = some (vU D.c.x[k]) := by rw [H.cc k (by omega), Cor.atX _ _ h]
theorem DocAt.c53 (H : DocAt pc words el v l g vb D w) : w.cell? ⟨g, 53, none⟩ = some (.slice (some ⟨vb, 0, none⟩) l.length l.length) := by rw [H.cell, dn_m _ _ _ _ _ _ 0 (by decide)]; rfl
theorem DocAt.c54 (H : DocAt pc words el v l g vb D w) : w.cell? ⟨g, 54, none⟩ = some (vI (D.at_ : Int)) := by rw [H.cell, dn_m _ _ _ _ _ _ 1 (by decide)]; rfl
theorem DocAt.c55 (H : DocAt pc words el v l g vb D w) : w.cell? ⟨g, 55, none⟩ = some (.bool D.waits) := by rw [H.cell, dn_m _ _ _ _ _ _ 2 (by decide)]; rfl
theorem DocAt.c66 (H : DocAt pc words el v l g vb D w) : w.cell? ⟨g, 66, none⟩ = some (.bool D.left) := by rw [H.cell, dn_t _ _ _ _ _ _ 0 (by decide)]; rfl
theorem DocAt.c67 (H : DocAt pc words el v l g vb D w) : w.cell? ⟨g, 67, none⟩ = some (.bool D.flt) := by rw [H.cell, dn_t _ _ _ _ _ _ 1 (by decide)]; rfl
theorem DocAt.c68 (H : DocAt pc words el v l g vb D w) : w.cell? ⟨g, 68, none⟩ = some (vU D.word) := by rw [H.cell, dn_t _ _ _ _ _ _ 2 (by decide)]; rfl
theorem DocAt.c69 (H : DocAt pc words el v l g vb D w) : w.cell? ⟨g, 69, none⟩ = some (.bool D.guest) := by rw [H.cell, dn_t _ _ _ _ _ _ 3 (by decide)]; rfl
theorem DocAt.fz (H : DocAt pc words el v l g vb D w) (k : Nat) : w.frozen? ⟨g, k, none⟩ = false := frozen_of_row _ _ _ _ _ H.top
theorem DocAt.fv (H : DocAt pc words el v l g vb D w) (k : Nat) : w.frozen? ⟨vb, k, none⟩ = false := frozen_of_row _ _ _ _ _ H.vals
/-- The run's own block laid anew, in one cell. -/
theorem DocAt.put (H : DocAt pc words el v l g vb D w) {D' : Dn} {k : Nat} {u : Value} (he : (dnA pc words el v (.slice (some ⟨vb, 0, none⟩) l.length l.length) D).setIfInBounds k u = dnA pc words el v (.slice (some ⟨vb, 0, none⟩) l.length l.length) D') (hv : D'.vs = D.vs) (ok : D'.Ok) : DT pc words el v l g vb D' w (w.setCell ⟨g, k, none⟩ u) := by
  refine ⟨⟨?_, ?_, H.ops.keepB (fun k hk => by simpa [World.setCell] using hk) (fun ra n cap e _ => Below.heap_setCell _ _ _ _ (H.far ra n cap e).1), H.far, by rw [hv]; exact H.len, H.pos, H.max, ok⟩, goes_setCell w (F := RF g vb) (.inl rfl) _ _⟩
  · rw [heap_setCell_same w g k _ 54 _ H.top, he]
  · rw [Below.heap_setCell _ _ _ _ (Ne.symm H.ne), hv]; exact H.vals
theorem DocAt.val (H : DocAt pc words el v l g vb D w) {k : Nat} {u : Int} (hu : U64 u) : DT pc words el v l g vb { D with vs := D.vs.set k u } w (w.setCell ⟨vb, k, none⟩ (vU u)) := by
  refine ⟨⟨?_, ?_, H.ops.keepB (fun k hk => by simpa [World.setCell] using hk) (fun ra n cap e _ => Below.heap_setCell _ _ _ _ (H.far ra n cap e).2), H.far, by simp [H.len], H.pos, H.max, ⟨H.ok.x, H.ok.sp0, H.ok.sp1, fun z hz => ?_⟩⟩, goes_setCell w (F := RF g vb) (.inr rfl) _ _⟩
  · rw [Below.heap_setCell _ _ _ _ H.ne]; exact H.top
  · rw [heap_setCell_same w vb k _ 22 _ H.vals]; simp
  · rcases List.mem_or_eq_of_mem_set hz with h | h
    · exact H.ok.vs z h
    · exact h ▸ hu
def Dn.val (D : Dn) (a : Int) : Int := D.vs.getD a.toNat 0
theorem DocAt.valc (H : DocAt pc words el v l g vb D w) {a : Nat} (ha : a < l.length) : w.cell? ⟨vb, a, none⟩ = some (vU (D.val a)) := by
  have hl : a < D.vs.length := by rw [H.len]; exact ha
  rw [cell_of_row _ _ _ _ _ _ H.vals]
  unfold Dn.val
  rw [Int.toNat_natCast, List.getD_eq_getElem?_getD, List.getElem?_eq_getElem hl]
  simp [hl]
theorem DocAt.valu (H : DocAt pc words el v l g vb D w) (a : Int) : U64 (D.val a) := by
  unfold Dn.val
  rw [List.getD_eq_getElem?_getD]
  cases h : D.vs[a.toNat]? with
  | none => exact ⟨by decide, by decide⟩
  | some u => exact H.ok.vs u (List.mem_of_getElem? h)
theorem DocAt.setM (H : DocAt pc words el v l g vb D w) (k : Nat) (h : k < 3) (u : Value) (D' : Dn) (h1 : D'.c = D.c) (h2 : D'.w = D.w) (h3 : dnT D' = dnT D) (h4 : D'.vs = D.vs) (hd : (dnM (.slice (some ⟨vb, 0, none⟩) l.length l.length) D).setIfInBounds k u = dnM (.slice (some ⟨vb, 0, none⟩) l.length l.length) D') : DT pc words el v l g vb D' w (w.setCell ⟨g, 53 + k, none⟩ u) :=
  H.put (dn_setm _ _ _ _ _ _ k h u D' h1 h2 h3 hd) h4 ⟨by rw [h1]; exact H.ok.x, by rw [h1]; exact H.ok.sp0, by rw [h1]; exact H.ok.sp1, by rw [h4]; exact H.ok.vs⟩
theorem DocAt.setT (H : DocAt pc words el v l g vb D w) (k : Nat) (h : k < 4) (u : Value) (D' : Dn) (h1 : D'.c = D.c) (h2 : D'.w = D.w) (h3 : D'.at_ = D.at_) (h5 : D'.waits = D.waits) (h4 : D'.vs = D.vs) (hd : (dnT D).setIfInBounds k u = dnT D') : DT pc words el v l g vb D' w (w.setCell ⟨g, 66 + k, none⟩ u) :=
  H.put (dn_sett _ _ _ _ _ _ k h u D' h1 h2 (by unfold dnM; rw [h3, h5]) hd) h4 ⟨by rw [h1]; exact H.ok.x, by rw [h1]; exact H.ok.sp0, by rw [h1]; exact H.ok.sp1, by rw [h4]; exact H.ok.vs⟩
end
end Go.Proofs.Ytejlmggfeejgpaa
/- Small answers of the document: Access, Defines, shape. -/
namespace Go.Proofs.Ytejlmggfeejgpaa
open Go.RowKit
set_option linter.unusedVariables false
set_option linter.unusedSimpArgs false
set_option maxRecDepth 8000

def accB (k : Int) : Bool := k == 9 || k == 10 || k == 11 || k == 12
def defsB (k : Int) : Bool := k == 1 || k == 2 || k == 4 || k == 6 || k == 8 || k == 9 || k == 11 || k == 12
def leavB (k : Int) : Bool := accB k || (decide (15 ≤ k) && decide (k ≤ 18))
def shpV (k : Int) : Int := if k = 3 ∨ k = 5 ∨ k = 7 ∨ k = 9 ∨ k = 11 ∨ k = 15 ∨ k = 17 then 1 else if k = 8 ∨ k = 10 ∨ k = 12 then 2 else 0
theorem dIn_c (n a b : Int) (w : World) : Calls Try.prog 21 #[vI n, vI a, vI b] w fun e w' => e = .returned (.bool (decide (a ≤ n) && decide (n ≤ b))) ∧ w' = w := by
  go_enter Try.func21, Try.ntmps21
  by_cases h1 : a ≤ n <;> by_cases h2 : n ≤ b <;> (go_wp2; go_ret; refine ⟨ret_bool ?_, rfl⟩; simp [h1, h2] <;> omega)
set_option maxHeartbeats 1000000 in
theorem dAcc_c (o : Opr) (w : World) : Calls Try.prog 28 #[opV o] w fun e w' => e = .returned (.bool (accB o.kind)) ∧ Below w.heap.size w w' := by
  go_enter Try.func28, Try.ntmps28
  go_wp2
  all_goals (go_ret; refine ⟨ret_bool ?_, by repeat (first | exact Below.refl _ _ | apply below_more | apply below_drew | apply below_drewN)⟩; unfold accB; simp_all)
set_option maxHeartbeats 2000000 in
theorem dDefs_c (o : Opr) (w : World) : Calls Try.prog 24 #[opV o] w fun e w' => e = .returned (.bool (defsB o.kind)) ∧ Below w.heap.size w w' := by
  go_enter Try.func24, Try.ntmps24
  go_wp2
  all_goals (go_ret; refine ⟨ret_bool ?_, by repeat (first | exact Below.refl _ _ | apply below_more | apply below_drew | apply below_drewN)⟩; unfold defsB; simp_all)
set_option maxHeartbeats 1000000 in
theorem dShape_c (k : Int) (w : World) : Calls Try.prog 40 #[vI k] w fun e w' => e = .returned (vI (shpV k)) ∧ w' = w := by
  rcases (by omega : k = 3 ∨ k = 5 ∨ k = 7 ∨ k = 9 ∨ k = 11 ∨ k = 15 ∨ k = 17 ∨ k = 8 ∨ k = 10 ∨ k = 12 ∨ (k ≠ 3 ∧ k ≠ 5 ∧ k ≠ 7 ∧ k ≠ 9 ∧ k ≠ 11 ∧ k ≠ 15 ∧ k ≠ 17 ∧ k ≠ 8 ∧ k ≠ 10 ∧ k ≠ 12)) with rfl | rfl | rfl | rfl | rfl | rfl | rfl | rfl | rfl | rfl | ⟨h3, h5, h7, h9, h11, h15, h17, h8, h10, h12⟩
  · go_enter Try.func40, Try.ntmps40
    go_wp2
    go_ret
    exact ⟨rfl, rfl⟩
  · go_enter Try.func40, Try.ntmps40
    go_wp2
    go_ret
    exact ⟨rfl, rfl⟩
  · go_enter Try.func40, Try.ntmps40
    go_wp2
    go_ret
    exact ⟨rfl, rfl⟩
  · go_enter Try.func40, Try.ntmps40
    go_wp2
    go_ret
    exact ⟨rfl, rfl⟩
  · go_enter Try.func40, Try.ntmps40
    go_wp2
    go_ret
    exact ⟨rfl, rfl⟩
  · go_enter Try.func40, Try.ntmps40
    go_wp2
    go_ret
    exact ⟨rfl, rfl⟩
  · go_enter Try.func40, Try.ntmps40
    go_wp2
    go_ret
    exact ⟨rfl, rfl⟩
  · go_enter Try.func40, Try.ntmps40
    go_wp2
    go_ret
    exact ⟨rfl, rfl⟩
  · go_enter Try.func40, Try.ntmps40
    go_wp2
    go_ret
    exact ⟨rfl, rfl⟩
  · go_enter Try.func40, Try.ntmps40
    go_wp2
    go_ret
    exact ⟨rfl, rfl⟩
  · have hv : shpV k = 0 := by unfold shpV; rw [if_neg (by omega), if_neg (by omega)]
    rw [hv]
    have e3 : (k == 3) = false := by simp [h3]
    have e5 : (k == 5) = false := by simp [h5]
    have e7 : (k == 7) = false := by simp [h7]
    have e9 : (k == 9) = false := by simp [h9]
    have e11 : (k == 11) = false := by simp [h11]
    have e15 : (k == 15) = false := by simp [h15]
    have e17 : (k == 17) = false := by simp [h17]
    have e8 : (k == 8) = false := by simp [h8]
    have e10 : (k == 10) = false := by simp [h10]
    have e12 : (k == 12) = false := by simp [h12]
    clear hv h3 h5 h7 h9 h11 h15 h17 h8 h10 h12
    go_enter Try.func40, Try.ntmps40
    go_wp2
    go_ret
    exact ⟨rfl, rfl⟩
end Go.Proofs.Ytejlmggfeejgpaa
/- Small steps of the document's run. -/
namespace Go.Proofs.Ytejlmggfeejgpaa
open Go.RowKit
set_option linter.unusedVariables false
set_option linter.unusedSimpArgs false
set_option maxRecDepth 8000

def Dn.x (D : Dn) (r : Int) : Int := D.c.x.toArray.getD r.toNat 0
def Dn.setX (D : Dn) (r : Int) (u : Int) : Dn := { D with c := { D.c with x := D.c.x.setIfInBounds r.toNat u } }
def Dn.sp (D : Dn) (el : Int) : Int := if el = 0 then D.c.sp0 else D.c.sp1
def Dn.setSP (D : Dn) (el : Int) (u : Int) : Dn := if el = 0 then { D with c := { D.c with sp0 := u } } else { D with c := { D.c with sp1 := u } }
def Dn.flag (D : Dn) (r : Int) : Bool := if r = 0 then D.c.n else if r = 1 then D.c.z else if r = 2 then D.c.c else D.c.v
def Dn.setF (D : Dn) (r : Int) (b : Bool) : Dn := if r = 0 then { D with c := { D.c with n := b } } else if r = 1 then { D with c := { D.c with z := b } } else if r = 2 then { D with c := { D.c with c := b } } else { D with c := { D.c with v := b } }
def Dn.define (D : Dn) (u : Int) : Dn := { D with vs := D.vs.set (D.at_ - 1) u }
def Dn.pc (D : Dn) (u : Int) : Dn := { D with c := { D.c with pc := u } }
def Dn.out (D : Dn) : Dn := { D with left := true }
def Dn.fault (D : Dn) : Dn := { D with left := true, flt := true }
def Dn.wait (D : Dn) (d : Wnt) : Dn := { D with waits := true, w := d }
def wantD (o : Opr) (a b : Int) : Wnt :=
  if o.kind = 9 then { nilW with kind := 1, addr := a, acq := o.order }
  else if o.kind = 11 then { nilW with kind := 3, addr := a, acq := o.order }
  else if o.kind = 10 then { nilW with kind := 2, addr := a, value := b, rel := o.order == 4 }
  else { nilW with kind := 4, addr := a, value := b, rel := o.order == 4 }
def Dn.acc (D : Dn) (o : Opr) (a b : Int) : Dn := if a % 8 = 0 then D.wait (wantD o a b) else D.fault
section
variable {pc words el : Int} {v : Value} {l : List Opr} {g vb : Nat} {D : Dn} {w w' : World}
theorem DocAt.xc (H : DocAt pc words el v l g vb D w) {r : Nat} (hr : r < 31) : w.cell? ⟨g, 4 + r, none⟩ = some (vU (D.x r)) := by
  rw [H.cx r hr]
  unfold Dn.x
  rw [Int.toNat_natCast]
  simp [hr]
theorem DocAt.xu (H : DocAt pc words el v l g vb D w) {r : Nat} (hr : r < 31) : U64 (D.x r) := by
  have := H.ok.x r hr
  unfold Dn.x
  rw [Int.toNat_natCast]
  simpa [hr] using this
theorem DocAt.setX_ (H : DocAt pc words el v l g vb D w) {r : Nat} (hr : r < 31) {u : Int} (hu : U64 u) : DT pc words el v l g vb (D.setX r u) w (w.setCell ⟨g, 4 + r, none⟩ (vU u)) := by
  refine H.put (D' := D.setX r u) (dn_setc _ _ _ _ _ _ r (by omega) _ _ ?_) rfl ⟨fun i hi => ?_, H.ok.sp0, H.ok.sp1, H.ok.vs⟩
  · rw [Cor.setX _ _ _ hr]
    have : D.c.x.set r u hr = D.c.x.setIfInBounds (r : Int).toNat u := by
      rw [Int.toNat_natCast]
      apply Vector.ext
      intro i hi
      simp [Vector.getElem_set, Vector.getElem_setIfInBounds]
    rw [this]
  · show U64 ((D.c.x.setIfInBounds (r : Int).toNat u)[i])
    rw [Vector.getElem_setIfInBounds]
    split
    · exact hu
    · exact H.ok.x i hi
theorem DocAt.sp0c (H : DocAt pc words el v l g vb D w) : w.cell? ⟨g, 35, none⟩ = some (vU D.c.sp0) := (H.cc 31 (by decide)).trans (Cor.a31 _)
theorem DocAt.sp1c (H : DocAt pc words el v l g vb D w) : w.cell? ⟨g, 36, none⟩ = some (vU D.c.sp1) := (H.cc 32 (by decide)).trans (Cor.a32 _)
theorem DocAt.pcc (H : DocAt pc words el v l g vb D w) : w.cell? ⟨g, 37, none⟩ = some (vU D.c.pc) := (H.cc 33 (by decide)).trans (Cor.a33 _)
theorem DocAt.setSP0 (H : DocAt pc words el v l g vb D w) {u : Int} (hu : U64 u) : DT pc words el v l g vb { D with c := { D.c with sp0 := u } } w (w.setCell ⟨g, 35, none⟩ (vU u)) := H.put (D' := { D with c := { D.c with sp0 := u } }) (dn_setc _ _ _ _ _ _ 31 (by decide) _ _ (Cor.s31 _ _)) rfl ⟨H.ok.x, hu, H.ok.sp1, H.ok.vs⟩
theorem DocAt.setSP1 (H : DocAt pc words el v l g vb D w) {u : Int} (hu : U64 u) : DT pc words el v l g vb { D with c := { D.c with sp1 := u } } w (w.setCell ⟨g, 36, none⟩ (vU u)) := H.put (D' := { D with c := { D.c with sp1 := u } }) (dn_setc _ _ _ _ _ _ 32 (by decide) _ _ (Cor.s32 _ _)) rfl ⟨H.ok.x, H.ok.sp0, hu, H.ok.vs⟩
theorem DocAt.pc_ (H : DocAt pc words el v l g vb D w) (u : Int) : DT pc words el v l g vb (D.pc u) w (w.setCell ⟨g, 37, none⟩ (vU u)) := H.put (D' := D.pc u) (dn_setc _ _ _ _ _ _ 33 (by decide) _ _ (Cor.s33 _ _)) rfl ⟨H.ok.x, H.ok.sp0, H.ok.sp1, H.ok.vs⟩
theorem DocAt.out_ (H : DocAt pc words el v l g vb D w) : DT pc words el v l g vb D.out w (w.setCell ⟨g, 66, none⟩ (.bool true)) := H.setT 0 (by decide) _ _ rfl rfl rfl rfl rfl rfl
theorem DocAt.flt_ (H : DocAt pc words el v l g vb D w) : DT pc words el v l g vb { D with flt := true } w (w.setCell ⟨g, 67, none⟩ (.bool true)) := H.setT 1 (by decide) _ _ rfl rfl rfl rfl rfl rfl
theorem DocAt.word_ (H : DocAt pc words el v l g vb D w) (u : Int) : DT pc words el v l g vb { D with word := u } w (w.setCell ⟨g, 68, none⟩ (vU u)) := H.setT 2 (by decide) _ _ rfl rfl rfl rfl rfl rfl
theorem DocAt.guest_ (H : DocAt pc words el v l g vb D w) : DT pc words el v l g vb { D with guest := true } w (w.setCell ⟨g, 69, none⟩ (.bool true)) := H.setT 3 (by decide) _ _ rfl rfl rfl rfl rfl rfl
theorem DocAt.at__ (H : DocAt pc words el v l g vb D w) (n : Nat) : DT pc words el v l g vb { D with at_ := n } w (w.setCell ⟨g, 54, none⟩ (vI (n : Int))) := H.setM 1 (by decide) _ _ rfl rfl rfl rfl rfl
theorem DocAt.waits_ (H : DocAt pc words el v l g vb D w) (b : Bool) : DT pc words el v l g vb { D with waits := b } w (w.setCell ⟨g, 55, none⟩ (.bool b)) := H.setM 2 (by decide) _ _ rfl rfl rfl rfl rfl
theorem DocAt.fc (H : DocAt pc words el v l g vb D w) {r : Nat} (hr : r < 4) : w.cell? ⟨g, 38 + r, none⟩ = some (.bool (D.flag r)) := by
  rcases (by omega : r = 0 ∨ r = 1 ∨ r = 2 ∨ r = 3) with rfl | rfl | rfl | rfl
  · exact (H.cc 34 (by decide)).trans (Cor.a34 _)
  · exact (H.cc 35 (by decide)).trans (Cor.a35 _)
  · exact (H.cc 36 (by decide)).trans (Cor.a36 _)
  · exact (H.cc 37 (by decide)).trans (Cor.a37 _)
theorem DocAt.setF_ (H : DocAt pc words el v l g vb D w) {r : Nat} (hr : r < 4) (b : Bool) : DT pc words el v l g vb (D.setF r b) w (w.setCell ⟨g, 38 + r, none⟩ (.bool b)) := by
  have ok := fun d : Cor => fun (h1 : d.x = D.c.x) (h2 : d.sp0 = D.c.sp0) (h3 : d.sp1 = D.c.sp1) => (⟨fun i hi => by show U64 d.x[i]; rw [h1]; exact H.ok.x i hi, by show U64 d.sp0; rw [h2]; exact H.ok.sp0, by show U64 d.sp1; rw [h3]; exact H.ok.sp1, H.ok.vs⟩ : Dn.Ok { D with c := d })
  rcases (by omega : r = 0 ∨ r = 1 ∨ r = 2 ∨ r = 3) with rfl | rfl | rfl | rfl
  · exact H.put (D' := { D with c := { D.c with n := b } }) (dn_setc _ _ _ _ _ _ 34 (by decide) _ _ (Cor.s34 _ _)) rfl (ok _ rfl rfl rfl)
  · exact H.put (D' := { D with c := { D.c with z := b } }) (dn_setc _ _ _ _ _ _ 35 (by decide) _ _ (Cor.s35 _ _)) rfl (ok _ rfl rfl rfl)
  · exact H.put (D' := { D with c := { D.c with c := b } }) (dn_setc _ _ _ _ _ _ 36 (by decide) _ _ (Cor.s36 _ _)) rfl (ok _ rfl rfl rfl)
  · exact H.put (D' := { D with c := { D.c with v := b } }) (dn_setc _ _ _ _ _ _ 37 (by decide) _ _ (Cor.s37 _ _)) rfl (ok _ rfl rfl rfl)
set_option maxHeartbeats 1000000 in
theorem dSetF_c (H : DocAt pc words el v l g vb D w) {r : Nat} (hr : r < 4) (b : Bool) : Calls Try.prog 52 #[ptr g 0, vI r, .bool b] w fun e w' => e = .returned (.tuple #[]) ∧ DT pc words el v l g vb (D.setF r b) w w' := by
  have z := H.fc hr
  have f9 := H.fz (38 + r)
  have R := H.setF_ hr b
  rcases (by omega : r = 0 ∨ r = 1 ∨ r = 2 ∨ r = 3) with rfl | rfl | rfl | rfl
  all_goals
    go_enter Try.func52, Try.ntmps52
    go_wp2_with ((with_reducible refine wpList_storeC rfl 4 _ _ rfl g _ rfl (.bool b) rfl inf4 rfl rfl z f9 ?_); try simp only [Act.put])
    go_end0
    exact ⟨rfl, R⟩
theorem run_wantD (H : DocAt pc words el v l g vb D w) (d : Wnt) : (storeVar 49 ⟨g, 56, none⟩ (wnV d)).run Try.prog w = .ok () (w.setRow g (dnA pc words el v (.slice (some ⟨vb, 0, none⟩) l.length l.length) { D with w := d })) := by
  have := run_storeCells_at (P := Try.prog) g 56 54 (wnA d).toList 0 _ w H.top (by rw [dn_size]; show 56 + 0 + 10 ≤ 70; decide) (fun v hv => by
    have := Array.all_eq_true_iff_forall_mem.1 (wn_one d) v (by simpa using hv); exact this)
  have e10 : (wnA d).toList.length = 10 := rfl
  rw [e10] at this
  simp only [Nat.add_zero, Nat.reduceAdd] at this
  rw [dn_setw] at this
  have hi := wn_inf d
  cases hq : Try.prog.info? 49 with
  | none => simp [hq] at hi
  | some inf =>
    have hs : inf.size = 10 := by simpa [hq] using hi
    simp [storeVar, sizeOf, typeInfo, hq, Value.cells, hs, this]
theorem DocAt.want_ (H : DocAt pc words el v l g vb D w) (d : Wnt) : DT pc words el v l g vb { D with w := d } w (w.setRow g (dnA pc words el v (.slice (some ⟨vb, 0, none⟩) l.length l.length) { D with w := d })) := by
  refine ⟨⟨setRow_heap _ _ _ _ _ _ H.top, ?_, H.ops.keepB (fun k hk => by simpa using hk) (fun ra n cap e _ => setRow_other _ _ _ _ (H.far ra n cap e).1), H.far, H.len, H.pos, H.max, ⟨H.ok.x, H.ok.sp0, H.ok.sp1, H.ok.vs⟩⟩, goes_setRow w (F := RF g vb) (.inl rfl) _⟩
  rw [setRow_other _ _ _ _ (Ne.symm H.ne)]; exact H.vals
theorem wpList_storeWD {ops : Array Oper} {rest : List Oper} {o : Oper} {a : Act} {Q : Exit → Act → World → Prop} (hgd : o.guard = none) (x y : Operand) (ho : o.op = .store 49 x y) (hx : a.eval x = ptr g 56) (d : Wnt) (hy : a.eval y = wnV d) (H : DocAt pc words el v l g vb D w)
    (h : ∀ w2 : World, DT pc words el v l g vb { D with w := d } w w2 → wpList Try.prog ops Q rest (a.put o.dst undef) w2) : wpList Try.prog ops Q (o :: rest) a w := by
  refine wpList_plain hgd fun K hK => ?_
  unfold Oper.wp execOp
  simp only [ho, hx, hy, Instr.storeAt, Instr.sureAddr, Sem.run_bind, Sem.run_pure, Result.andThen_ok, run_wantD H d]
  exact hK _ _ (h _ (H.want_ d))
set_option maxHeartbeats 1000000 in
theorem dWait_c (H : DocAt pc words el v l g vb D w) (d : Wnt) : Calls Try.prog 54 #[ptr g 0, wnV d] w fun e w' => e = .returned (.tuple #[]) ∧ DT pc words el v l g vb (D.wait d) w w' := by
  have hb := below_alloc w (.cells (wnA d) 49)
  have H1 := H.grow hb
  have hrow : (w.alloc (.cells (wnA d) 49)).heap[w.heap.size]? = some (.cells (wnA d) 49) := heap_alloc_new _ _
  go_enter Try.func54, Try.ntmps54
  go_upto_region 1 with fail
  generalize hw1 : w.alloc (.cells (wnA d) 49) = w1 at *
  have z := H1.c55
  have f9 := H1.fz 55
  have R := H1.waits_ true
  have hrow2 := R.kept hrow (ne_of_type hrow H1.top (by decide)) (ne_of_type hrow H1.vals (by decide))
  go_upto_region 2 with ((with_reducible refine wpList_storeC rfl 4 _ _ rfl g 55 rfl (.bool true) rfl inf4 rfl rfl z f9 ?_); try simp only [Act.put])
  generalize w1.setCell ⟨g, 55, none⟩ (.bool true) = w2 at *
  have H2 := R.1
  go_wp2_with (first | ((with_reducible refine wpList_load_if rfl 49 _ rfl _ rfl 49 _ (0, 0) _ hrow2 Try.underlying49 rfl (wn_inf _) ?_); simp only [Act.put, List.setIfInBounds_toArray, List.set_cons_succ, List.set_cons_zero]) | ((with_reducible refine wpList_storeWD rfl _ _ rfl rfl d rfl H2 ?_); intro w3 R3; try simp only [Act.put]))
  go_end0
  exact ⟨rfl, DT.from hb (R.then R3)⟩
end
/-- One cell of the block that was laid last. -/
theorem Has.cell {w0 w : World} {L : List (Nat × Array Value × TypeId)} {b k : Nat} {t : TypeId} {Z : Array Value} {u : Value} (h : Has w0 ((b, Z, t) :: L) w) (hL : ∀ p ∈ L, p.1 ≠ b) : Has w0 ((b, Z.setIfInBounds k u, t) :: L) (w.setCell ⟨b, k, none⟩ u) := by
  obtain ⟨h1, h2⟩ := h.box (b, Z, t) List.mem_cons_self
  refine ⟨h.below.trans ⟨rfl, rfl, rfl, by simp [World.setCell], fun j hj => Below.heap_setCell _ _ _ _ (fun e => by have e : j = b := e; have h1 : w0.heap.size ≤ b := h1; omega)⟩, fun p hp => ?_⟩
  rcases List.mem_cons.1 hp with rfl | hp
  · exact ⟨h1, heap_setCell_same w b k _ t _ h2⟩
  · obtain ⟨h3, h4⟩ := h.box p (List.mem_cons_of_mem _ hp)
    exact ⟨h3, by rw [Below.heap_setCell _ _ _ _ (hL p hp)]; exact h4⟩
theorem wpList_store_part {w0 : World} {L : List (Nat × Array Value × TypeId)} {ops : Array Oper} {rest : List Oper} {o : Oper} {a : Act} {w : World} {b : Nat} {Z : Array Value} {t : TypeId} {Q : Exit → Act → World → Prop} (H : Has w0 ((b, Z, t) :: L) w) (hgd : o.guard = none) (ty : TypeId) (x y : Operand) (ho : o.op = .store ty x y)
    (k : Nat) (hx : a.eval x = ptr b k) (u : Value) (hy : a.eval y = u) (hi : (Try.prog.info? ty).map (·.size) = some 1) (h1 : u.oneCell' = true) (h2 : u.cells = #[u]) {old : Value} (hz : Z[k]? = some old) (hL : ∀ p ∈ L, p.1 ≠ b)
    (h : ∀ w2, Has w0 ((b, Z.setIfInBounds k u, t) :: L) w2 → wpList Try.prog ops Q rest (a.put o.dst undef) w2) : wpList Try.prog ops Q (o :: rest) a w := by
  have hr := H.get List.mem_cons_self
  exact wpList_storeC hgd ty x y ho b k hx u hy hi h1 h2 (by rw [cell_of_row _ _ _ _ _ _ hr]; exact hz) (frozen_of_row _ _ _ _ _ hr) (h _ (H.cell hL))
end Go.Proofs.Ytejlmggfeejgpaa
/- The document's run: an access. -/
namespace Go.Proofs.Ytejlmggfeejgpaa
open Go.RowKit
set_option linter.unusedVariables false
set_option linter.unusedSimpArgs false
set_option maxRecDepth 8000

section
variable {pc words el : Int} {v : Value} {l : List Opr} {g vb : Nat} {D : Dn} {w w' : World} {r a' b' order imm a b : Int}
theorem keepD {t : Nat} {o : Opr} {D' : Dn} {x y : World} (L : LocO t o x) (H : DocAt pc words el v l g vb D x) (R : DT pc words el v l g vb D' x y) : LocO t o y :=
  R.kept L (ne_of_type L H.top (by decide)) (ne_of_type L H.vals (by decide))
set_option maxHeartbeats 2000000 in
theorem dAccF (H : DocAt pc words el v l g vb D w) (o : Opr) (h8 : a % 8 ≠ 0) (hp : 0 ≤ a) : Calls Try.prog 55 #[ptr g 0, opV o, vU a, vU b] w fun e w' => e = .returned (.tuple #[]) ∧ DT pc words el v l g vb D.fault w w' := by
  have h8t : ¬ a.tmod 8 = 0 := by rw [Int.tmod_eq_emod_of_nonneg hp]; exact h8
  have hb := below_alloc w (.cells (opA o) 39)
  have R1 : DT pc words el v l g vb D w (w.alloc (.cells (opA o) 39)) := DT.from hb (H.grow hb).here
  go_enter Try.func55, Try.ntmps55
  go_upto_region 2 with fail
  generalize w.alloc (.cells (opA o) 39) = w1 at *
  have z := R1.1.c66
  have f9 := R1.1.fz 66
  have R2 := R1.1.out_
  go_upto_region 3 with ((with_reducible refine wpList_storeC rfl 4 _ _ rfl g 66 rfl (.bool true) rfl inf4 rfl rfl z f9 ?_); try simp only [Act.put])
  generalize w1.setCell ⟨g, 66, none⟩ (.bool true) = w2 at *
  have z2 := R2.1.c67
  have f2 := R2.1.fz 67
  have R3 := R2.1.flt_
  go_wp2_with ((with_reducible refine wpList_storeC rfl 4 _ _ rfl g 67 rfl (.bool true) rfl inf4 rfl rfl z2 f2 ?_); try simp only [Act.put])
  (try simp only [Exit.inBlock, Exit.then])
  refine bodyPost_ret (results_none rfl _ _ _) rfl ?_
  exact ⟨rfl, R1.then (R2.then R3)⟩
set_option maxHeartbeats 2000000 in
theorem dAcc_9 (H0 : DocAt pc words el v l g vb D w) (h8 : a % 8 = 0) (hp : 0 ≤ a) : Calls Try.prog 55 #[ptr g 0, opV ⟨9, r, a', b', order, imm⟩, vU a, vU b] w fun e w' => e = .returned (.tuple #[]) ∧ DT pc words el v l g vb (D.wait (wantD ⟨9, r, a', b', order, imm⟩ a b)) w w' := by
  have h8t : a.tmod 8 = 0 := by rw [Int.tmod_eq_emod_of_nonneg hp]; exact h8
  have hb := below_alloc w (.cells (opA ⟨9, r, a', b', order, imm⟩) 39)
  have R1 : DT pc words el v l g vb D w (w.alloc (.cells (opA ⟨9, r, a', b', order, imm⟩) 39)) := DT.from hb (H0.grow hb).here
  have L1 : LocO w.heap.size ⟨9, r, a', b', order, imm⟩ (w.alloc (.cells (opA ⟨9, r, a', b', order, imm⟩) 39)) := LocO.new w _
  go_enter Try.func55, Try.ntmps55
  go_upto_region 4 with fail
  generalize w.alloc (.cells (opA ⟨9, r, a', b', order, imm⟩) 39) = w1 at *
  generalize w.heap.size = t at *
  have H1 := R1.1
  have H := has_none w1
  go_upto_region 5 with (first | ((with_reducible refine wpList_built rfl _ _ rfl (wnA { nilW with addr := a }) (by kernel_rfl) ?_); try simp only [Act.put]) | ((with_reducible refine wpList_store_new H rfl 49 _ _ rfl (wnA { nilW with addr := a }) rfl rfl (wn_inf _) (by kernel_rfl) (wn_one _) ?_); clear H; intro w2 H; try simp only [Act.put]))
  generalize w1.heap.size = t8 at *
  have z0 := (L1.grow H.below).c0
  have z4 := (L1.grow H.below).c4
  go_upto_region 11 with ((with_reducible refine wpList_store_part H rfl 3 _ _ rfl 0 rfl (vI 1) rfl inf3 rfl rfl rfl (fun _ h => absurd h List.not_mem_nil) ?_); clear H; intro w2 H; try simp only [Act.put])
  have z4 := (L1.grow H.below).c4
  go_upto_region 19 with ((with_reducible refine wpList_store_part H rfl 3 _ _ rfl 3 rfl (vI order) rfl inf3 rfl rfl rfl (fun _ h => absurd h List.not_mem_nil) ?_); clear H; intro w2 H; try simp only [Act.put])
  have z4 := (L1.grow H.below).c4
  have hrow : w2.heap[t8]? = some (.cells (wnA (wantD ⟨9, r, a', b', order, imm⟩ a b)) 49) := H.get List.mem_cons_self
  have H2 := H1.grow H.below
  have hbb := H.below
  clear H
  go_wp2_with (first | ((with_reducible refine wpList_load_if rfl 49 _ rfl _ rfl 49 _ (0, 0) _ hrow Try.underlying49 rfl (wn_inf _) ?_); simp only [Act.put, List.setIfInBounds_toArray, List.set_cons_succ, List.set_cons_zero]) | (go_at_call 54; (with_reducible refine (dWait_c H2 _).mono ?_); rintro e w3 ⟨rfl, R3⟩; dsimp only))
  go_end0
  exact ⟨rfl, R1.then (DT.from hbb R3)⟩
set_option maxHeartbeats 2000000 in
theorem dAcc_11 (H0 : DocAt pc words el v l g vb D w) (h8 : a % 8 = 0) (hp : 0 ≤ a) : Calls Try.prog 55 #[ptr g 0, opV ⟨11, r, a', b', order, imm⟩, vU a, vU b] w fun e w' => e = .returned (.tuple #[]) ∧ DT pc words el v l g vb (D.wait (wantD ⟨11, r, a', b', order, imm⟩ a b)) w w' := by
  have h8t : a.tmod 8 = 0 := by rw [Int.tmod_eq_emod_of_nonneg hp]; exact h8
  have hb := below_alloc w (.cells (opA ⟨11, r, a', b', order, imm⟩) 39)
  have R1 : DT pc words el v l g vb D w (w.alloc (.cells (opA ⟨11, r, a', b', order, imm⟩) 39)) := DT.from hb (H0.grow hb).here
  have L1 : LocO w.heap.size ⟨11, r, a', b', order, imm⟩ (w.alloc (.cells (opA ⟨11, r, a', b', order, imm⟩) 39)) := LocO.new w _
  go_enter Try.func55, Try.ntmps55
  go_upto_region 4 with fail
  generalize w.alloc (.cells (opA ⟨11, r, a', b', order, imm⟩) 39) = w1 at *
  generalize w.heap.size = t at *
  have H1 := R1.1
  have H := has_none w1
  go_upto_region 5 with (first | ((with_reducible refine wpList_built rfl _ _ rfl (wnA { nilW with addr := a }) (by kernel_rfl) ?_); try simp only [Act.put]) | ((with_reducible refine wpList_store_new H rfl 49 _ _ rfl (wnA { nilW with addr := a }) rfl rfl (wn_inf _) (by kernel_rfl) (wn_one _) ?_); clear H; intro w2 H; try simp only [Act.put]))
  generalize w1.heap.size = t8 at *
  have z0 := (L1.grow H.below).c0
  have z4 := (L1.grow H.below).c4
  go_upto_region 14 with ((with_reducible refine wpList_store_part H rfl 3 _ _ rfl 0 rfl (vI 3) rfl inf3 rfl rfl rfl (fun _ h => absurd h List.not_mem_nil) ?_); clear H; intro w2 H; try simp only [Act.put])
  have z4 := (L1.grow H.below).c4
  go_upto_region 19 with ((with_reducible refine wpList_store_part H rfl 3 _ _ rfl 3 rfl (vI order) rfl inf3 rfl rfl rfl (fun _ h => absurd h List.not_mem_nil) ?_); clear H; intro w2 H; try simp only [Act.put])
  have z4 := (L1.grow H.below).c4
  have hrow : w2.heap[t8]? = some (.cells (wnA (wantD ⟨11, r, a', b', order, imm⟩ a b)) 49) := H.get List.mem_cons_self
  have H2 := H1.grow H.below
  have hbb := H.below
  clear H
  go_wp2_with (first | ((with_reducible refine wpList_load_if rfl 49 _ rfl _ rfl 49 _ (0, 0) _ hrow Try.underlying49 rfl (wn_inf _) ?_); simp only [Act.put, List.setIfInBounds_toArray, List.set_cons_succ, List.set_cons_zero]) | (go_at_call 54; (with_reducible refine (dWait_c H2 _).mono ?_); rintro e w3 ⟨rfl, R3⟩; dsimp only))
  go_end0
  exact ⟨rfl, R1.then (DT.from hbb R3)⟩
set_option maxHeartbeats 2000000 in
theorem dAcc_10 (H0 : DocAt pc words el v l g vb D w) (h8 : a % 8 = 0) (hp : 0 ≤ a) : Calls Try.prog 55 #[ptr g 0, opV ⟨10, r, a', b', order, imm⟩, vU a, vU b] w fun e w' => e = .returned (.tuple #[]) ∧ DT pc words el v l g vb (D.wait (wantD ⟨10, r, a', b', order, imm⟩ a b)) w w' := by
  have h8t : a.tmod 8 = 0 := by rw [Int.tmod_eq_emod_of_nonneg hp]; exact h8
  have hb := below_alloc w (.cells (opA ⟨10, r, a', b', order, imm⟩) 39)
  have R1 : DT pc words el v l g vb D w (w.alloc (.cells (opA ⟨10, r, a', b', order, imm⟩) 39)) := DT.from hb (H0.grow hb).here
  have L1 : LocO w.heap.size ⟨10, r, a', b', order, imm⟩ (w.alloc (.cells (opA ⟨10, r, a', b', order, imm⟩) 39)) := LocO.new w _
  go_enter Try.func55, Try.ntmps55
  go_upto_region 4 with fail
  generalize w.alloc (.cells (opA ⟨10, r, a', b', order, imm⟩) 39) = w1 at *
  generalize w.heap.size = t at *
  have H1 := R1.1
  have H := has_none w1
  go_upto_region 5 with (first | ((with_reducible refine wpList_built rfl _ _ rfl (wnA { nilW with addr := a }) (by kernel_rfl) ?_); try simp only [Act.put]) | ((with_reducible refine wpList_store_new H rfl 49 _ _ rfl (wnA { nilW with addr := a }) rfl rfl (wn_inf _) (by kernel_rfl) (wn_one _) ?_); clear H; intro w2 H; try simp only [Act.put]))
  generalize w1.heap.size = t8 at *
  have z0 := (L1.grow H.below).c0
  have z4 := (L1.grow H.below).c4
  go_upto_region 17 with ((with_reducible refine wpList_store_part H rfl 3 _ _ rfl 0 rfl (vI 2) rfl inf3 rfl rfl rfl (fun _ h => absurd h List.not_mem_nil) ?_); clear H; intro w2 H; try simp only [Act.put])
  have z4 := (L1.grow H.below).c4
  go_upto_region 18 with ((with_reducible refine wpList_store_part H rfl 22 _ _ rfl 2 rfl (vU b) rfl inf22 rfl rfl rfl (fun _ h => absurd h List.not_mem_nil) ?_); clear H; intro w2 H; try simp only [Act.put])
  have z4 := (L1.grow H.below).c4
  go_upto_region 19 with ((with_reducible refine wpList_store_part H rfl 4 _ _ rfl 4 rfl (.bool (order == 4)) rfl inf4 rfl rfl rfl (fun _ h => absurd h List.not_mem_nil) ?_); clear H; intro w2 H; try simp only [Act.put])
  have z4 := (L1.grow H.below).c4
  have hrow : w2.heap[t8]? = some (.cells (wnA (wantD ⟨10, r, a', b', order, imm⟩ a b)) 49) := H.get List.mem_cons_self
  have H2 := H1.grow H.below
  have hbb := H.below
  clear H
  go_wp2_with (first | ((with_reducible refine wpList_load_if rfl 49 _ rfl _ rfl 49 _ (0, 0) _ hrow Try.underlying49 rfl (wn_inf _) ?_); simp only [Act.put, List.setIfInBounds_toArray, List.set_cons_succ, List.set_cons_zero]) | (go_at_call 54; (with_reducible refine (dWait_c H2 _).mono ?_); rintro e w3 ⟨rfl, R3⟩; dsimp only))
  go_end0
  exact ⟨rfl, R1.then (DT.from hbb R3)⟩
set_option maxHeartbeats 2000000 in
theorem dAcc_12 (H0 : DocAt pc words el v l g vb D w) (h8 : a % 8 = 0) (hp : 0 ≤ a) : Calls Try.prog 55 #[ptr g 0, opV ⟨12, r, a', b', order, imm⟩, vU a, vU b] w fun e w' => e = .returned (.tuple #[]) ∧ DT pc words el v l g vb (D.wait (wantD ⟨12, r, a', b', order, imm⟩ a b)) w w' := by
  have h8t : a.tmod 8 = 0 := by rw [Int.tmod_eq_emod_of_nonneg hp]; exact h8
  have hb := below_alloc w (.cells (opA ⟨12, r, a', b', order, imm⟩) 39)
  have R1 : DT pc words el v l g vb D w (w.alloc (.cells (opA ⟨12, r, a', b', order, imm⟩) 39)) := DT.from hb (H0.grow hb).here
  have L1 : LocO w.heap.size ⟨12, r, a', b', order, imm⟩ (w.alloc (.cells (opA ⟨12, r, a', b', order, imm⟩) 39)) := LocO.new w _
  go_enter Try.func55, Try.ntmps55
  go_upto_region 4 with fail
  generalize w.alloc (.cells (opA ⟨12, r, a', b', order, imm⟩) 39) = w1 at *
  generalize w.heap.size = t at *
  have H1 := R1.1
  have H := has_none w1
  go_upto_region 5 with (first | ((with_reducible refine wpList_built rfl _ _ rfl (wnA { nilW with addr := a }) (by kernel_rfl) ?_); try simp only [Act.put]) | ((with_reducible refine wpList_store_new H rfl 49 _ _ rfl (wnA { nilW with addr := a }) rfl rfl (wn_inf _) (by kernel_rfl) (wn_one _) ?_); clear H; intro w2 H; try simp only [Act.put]))
  generalize w1.heap.size = t8 at *
  have z0 := (L1.grow H.below).c0
  have z4 := (L1.grow H.below).c4
  go_upto_region 7 with ((with_reducible refine wpList_store_part H rfl 3 _ _ rfl 0 rfl (vI 4) rfl inf3 rfl rfl rfl (fun _ h => absurd h List.not_mem_nil) ?_); clear H; intro w2 H; try simp only [Act.put])
  have z4 := (L1.grow H.below).c4
  go_upto_region 8 with ((with_reducible refine wpList_store_part H rfl 22 _ _ rfl 2 rfl (vU b) rfl inf22 rfl rfl rfl (fun _ h => absurd h List.not_mem_nil) ?_); clear H; intro w2 H; try simp only [Act.put])
  have z4 := (L1.grow H.below).c4
  go_upto_region 19 with ((with_reducible refine wpList_store_part H rfl 4 _ _ rfl 4 rfl (.bool (order == 4)) rfl inf4 rfl rfl rfl (fun _ h => absurd h List.not_mem_nil) ?_); clear H; intro w2 H; try simp only [Act.put])
  have z4 := (L1.grow H.below).c4
  have hrow : w2.heap[t8]? = some (.cells (wnA (wantD ⟨12, r, a', b', order, imm⟩ a b)) 49) := H.get List.mem_cons_self
  have H2 := H1.grow H.below
  have hbb := H.below
  clear H
  go_wp2_with (first | ((with_reducible refine wpList_load_if rfl 49 _ rfl _ rfl 49 _ (0, 0) _ hrow Try.underlying49 rfl (wn_inf _) ?_); simp only [Act.put, List.setIfInBounds_toArray, List.set_cons_succ, List.set_cons_zero]) | (go_at_call 54; (with_reducible refine (dWait_c H2 _).mono ?_); rintro e w3 ⟨rfl, R3⟩; dsimp only))
  go_end0
  exact ⟨rfl, R1.then (DT.from hbb R3)⟩
theorem dAccess_c (H : DocAt pc words el v l g vb D w) (o : Opr) (hk : o.kind = 9 ∨ o.kind = 10 ∨ o.kind = 11 ∨ o.kind = 12) (hp : 0 ≤ a) : Calls Try.prog 55 #[ptr g 0, opV o, vU a, vU b] w fun e w' => e = .returned (.tuple #[]) ∧ DT pc words el v l g vb (D.acc o a b) w w' := by
  unfold Dn.acc
  by_cases h8 : a % 8 = 0
  · rw [if_pos h8]
    obtain ⟨k, r, a', b', order, imm⟩ := o
    rcases hk with hk | hk | hk | hk <;> (dsimp only at hk; subst hk)
    · exact dAcc_9 H h8 hp
    · exact dAcc_10 H h8 hp
    · exact dAcc_11 H h8 hp
    · exact dAcc_12 H h8 hp
  · rw [if_neg h8]
    exact dAccF H o h8 hp
end
end Go.Proofs.Ytejlmggfeejgpaa
