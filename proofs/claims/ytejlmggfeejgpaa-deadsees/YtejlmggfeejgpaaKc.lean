/- One step of a block and of it without what nobody sees: plain. -/
import Derived.Test.YtejlmggfeejgpaaKb
import Derived.Test.YtejlmggfeejgpaaXf
namespace Go.Proofs.Ytejlmggfeejgpaa
open Go.RowKit
set_option linter.unusedVariables false
set_option linter.unusedSimpArgs false
set_option maxRecDepth 8000

/-- What lies where something is set, by numbers. -/
def regN (el : Int) (c : Cor) (n : Nat) : Int :=
  if n < 31 then c.x.toArray.getD n 0 else if n = 31 then (if el = 0 then c.sp0 else c.sp1) else if n = 32 then oneV c.n else if n = 33 then oneV c.z else if n = 34 then oneV c.c else if n = 35 then oneV c.v else c.pc
/-- All else of a core. -/
def blank (el : Int) (c : Cor) : Cor := { c with x := Vector.replicate 31 0, sp0 := if el = 0 then 0 else c.sp0, sp1 := if el = 0 then c.sp1 else 0, pc := 0, n := false, z := false, c := false, v := false }
theorem oneV_inj {a b : Bool} (h : oneV a = oneV b) : a = b := by cases a <;> cases b <;> first | rfl | (exact absurd h (by decide))
theorem cor_all {el : Int} {c d : Cor} (hb : blank el c = blank el d) (h : ∀ n, n ≤ 36 → regN el c n = regN el d n) : c = d := by
  obtain ⟨x, sp0, sp1, pc, n, z, cc, v, e, mask, spsr, elr, esr, far, vbar, tpidr, id, wait, event⟩ := c
  obtain ⟨x', sp0', sp1', pc', n', z', cc', v', e', mask', spsr', elr', esr', far', vbar', tpidr', id', wait', event'⟩ := d
  unfold blank at hb
  simp only [Cor.mk.injEq, true_and, and_true] at hb
  obtain ⟨b0, b1, rfl, rfl, rfl, rfl, rfl, rfl, rfl, rfl, rfl, rfl, rfl⟩ := hb
  have hx : x = x' := by
    apply Vector.ext
    intro i hi
    have := h i (by omega)
    unfold regN at this
    rw [if_pos hi, if_pos hi] at this
    simpa [hi] using this
  subst hx
  have h31 := h 31 (by omega)
  have h32 := h 32 (by omega)
  have h33 := h 33 (by omega)
  have h34 := h 34 (by omega)
  have h35 := h 35 (by omega)
  have h36 := h 36 (by omega)
  unfold regN at h31 h32 h33 h34 h35 h36
  simp at h31 h32 h33 h34 h35 h36
  obtain rfl := oneV_inj h32
  obtain rfl := oneV_inj h33
  obtain rfl := oneV_inj h34
  obtain rfl := oneV_inj h35
  obtain rfl := h36
  by_cases q : el = 0
  · rw [if_pos q, if_pos q] at h31 b1
    obtain rfl := h31
    obtain rfl := b1
    rfl
  · rw [if_neg q, if_neg q] at h31 b0
    obtain rfl := h31
    obtain rfl := b0
    rfl
/-- Two cores that differ in nothing but what is set anew. -/
structure Lk (el : Int) (t : List Opr) (c d : Cor) : Prop where
  reg : ∀ n, n ≤ 36 → anew n t = false → regN el c n = regN el d n
  rest : blank el c = blank el d
theorem Lk.refl (el : Int) (t : List Opr) (c : Cor) : Lk el t c c := ⟨fun _ _ _ => rfl, rfl⟩
theorem anew_lv {o : Opr} {t : List Opr} (h : lvB o = true) (n : Nat) : anew n (o :: t) = false := by
  show (if getN o = some n ∨ lvB o = true then _ else _) = _
  rw [if_pos (.inr h)]
theorem anew_get {o : Opr} {t : List Opr} {n : Nat} (h : getN o = some n) : anew n (o :: t) = false := by
  show (if getN o = some n ∨ lvB o = true then _ else _) = _
  rw [if_pos (.inl h)]
theorem anew_none {o : Opr} {t : List Opr} {n : Nat} (hs : setN o = none) (h : anew n t = false) : anew n (o :: t) = false := by
  show (if getN o = some n ∨ lvB o = true then _ else if setN o = some n then true else anew n t) = _
  split
  · rfl
  · rw [hs, if_neg (by simp), h]
theorem anew_set {o : Opr} {t : List Opr} {n m : Nat} (hs : setN o = some n) (hm : m ≠ n) (h : anew m t = false) : anew m (o :: t) = false := by
  show (if getN o = some m ∨ lvB o = true then _ else if setN o = some m then true else anew m t) = _
  split
  · rfl
  · rw [hs, if_neg (by simpa using Ne.symm hm), h]
theorem Lk.eq {el : Int} {o : Opr} {t : List Opr} {c d : Cor} (L : Lk el (o :: t) c d) (h : lvB o = true) : c = d := cor_all L.rest (fun n hn => L.reg n hn (anew_lv h n))
theorem Lk.got {el : Int} {o : Opr} {t : List Opr} {c d : Cor} (L : Lk el (o :: t) c d) {n : Nat} (hn : n ≤ 36) (h : getN o = some n) : regN el c n = regN el d n := L.reg n hn (anew_get h)
theorem Lk.next {el : Int} {o : Opr} {t : List Opr} {c d : Cor} (L : Lk el (o :: t) c d) (hs : setN o = none) : Lk el t c d := ⟨fun n hn h => L.reg n hn (anew_none hs h), L.rest⟩
/-- A core in which one thing has been set. -/
structure SetC (el : Int) (n : Nat) (u : Int) (c c' : Cor) : Prop where
  same : regN el c' n = u
  other : ∀ m, m ≤ 36 → m ≠ n → regN el c' m = regN el c m
  rest : blank el c' = blank el c
theorem Lk.setB {el : Int} {o : Opr} {t : List Opr} {c d c' d' : Cor} {n : Nat} {u : Int} (L : Lk el (o :: t) c d) (hs : setN o = some n) (hc : SetC el n u c c') (hd : SetC el n u d d') : Lk el t c' d' :=
  ⟨fun m hm h => by
    by_cases e : m = n
    · rw [e, hc.same, hd.same]
    · rw [hc.other m hm e, hd.other m hm e]; exact L.reg m hm (anew_set hs e h), by rw [hc.rest, hd.rest]; exact L.rest⟩
theorem Lk.setD {el : Int} {o : Opr} {t : List Opr} {c d c' : Cor} {n : Nat} {u : Int} (L : Lk el (o :: t) c d) (hs : setN o = some n) (ha : anew n t = true) (hc : SetC el n u c c') : Lk el t c' d :=
  ⟨fun m hm h => by
    by_cases e : m = n
    · rw [e, ha] at h; cases h
    · rw [hc.other m hm e]; exact L.reg m hm (anew_set hs e h), by rw [hc.rest]; exact L.rest⟩
theorem setC_x {el : Int} (c : Cor) {n : Nat} (h : n < 31) (u : Int) : SetC el n u c { c with x := c.x.setIfInBounds n u } := by
  refine ⟨?_, fun m hm hn => ?_, rfl⟩
  · unfold regN; rw [if_pos h]; simp [h]
  · unfold regN
    by_cases q : m < 31
    · rw [if_pos q, if_pos q]
      simp only [Vector.toArray_setIfInBounds, Array.getD_eq_getD_getElem?, Array.getElem?_setIfInBounds]
      rw [if_neg (Ne.symm hn)]
    · rw [if_neg q, if_neg q]
theorem setC_sp {el : Int} (E : Dn) (u : Int) : SetC el 31 u E.c (E.setSP el u).c := by
  unfold Dn.setSP
  by_cases q : el = 0
  · rw [if_pos q]
    refine ⟨by simp [regN, q], fun m hm hn => ?_, by simp [blank, q]⟩
    simp only [regN, if_neg hn]
  · rw [if_neg q]
    refine ⟨by simp [regN, q], fun m hm hn => ?_, by simp [blank, q]⟩
    simp only [regN, if_neg hn]
theorem setC_f {el : Int} (E : Dn) {r : Int} (h0 : 0 ≤ r) (h3 : r ≤ 3) (b : Bool) : SetC el (32 + r.toNat) (oneV b) E.c (E.setF r b).c := by
  have hr : r = 0 ∨ r = 1 ∨ r = 2 ∨ r = 3 := by omega
  rcases hr with rfl | rfl | rfl | rfl
  · refine ⟨by simp [regN, Dn.setF], fun m hm hn => ?_, rfl⟩
    have hn : ¬ m = 32 := hn
    simp only [regN, Dn.setF, if_neg hn, if_true]
  · refine ⟨by simp [regN, Dn.setF], fun m hm hn => ?_, rfl⟩
    have hn : ¬ m = 33 := hn
    simp [regN, Dn.setF, if_neg hn]
  · refine ⟨by simp [regN, Dn.setF], fun m hm hn => ?_, rfl⟩
    have hn : ¬ m = 34 := hn
    simp [regN, Dn.setF, if_neg hn]
  · refine ⟨by simp [regN, Dn.setF], fun m hm hn => ?_, rfl⟩
    have hn : ¬ m = 35 := hn
    simp [regN, Dn.setF, if_neg hn]
theorem setC_pc {el : Int} (c : Cor) (u : Int) : SetC el 36 u c { c with pc := u } := by
  refine ⟨by simp [regN], fun m hm hn => ?_, rfl⟩
  unfold regN
  split; rfl
  split; rfl
  split; rfl
  split; rfl
  split; rfl
  split; rfl
  omega
theorem reg_x {el : Int} (E : Dn) {r : Int} (h0 : 0 ≤ r) (h : r ≤ 30) : E.x r = regN el E.c r.toNat := by
  unfold Dn.x regN; rw [if_pos (by omega)]
theorem reg_sp {el : Int} (E : Dn) : E.sp el = regN el E.c 31 := by simp [Dn.sp, regN]
theorem reg_f {el : Int} (E : Dn) {r : Int} (h0 : 0 ≤ r) (h3 : r ≤ 3) : oneV (E.flag r) = regN el E.c (32 + r.toNat) := by
  have hr : r = 0 ∨ r = 1 ∨ r = 2 ∨ r = 3 := by omega
  rcases hr with rfl | rfl | rfl | rfl <;> simp [Dn.flag, regN]
/-- Where both runs go on. -/
structure Gp (el : Int) (l : List Opr) (k : Nat) (D E : Dn) : Prop where
  atD : D.at_ = k
  atE : E.at_ = cntS (seenAt l) k
  lk : Lk el (l.drop k) D.c E.c
  wD : D.waits = false
  wE : E.waits = false
  lD : D.left = false
  lE : E.left = false
  flt : E.flt = D.flt
  word : E.word = D.word
  guest : E.guest = D.guest
  nD : D.vs.length = l.length
  nE : E.vs.length = (onlyL l).length
  vals : ∀ i, i < k → seenAt l i = true → hasP (opAt l i).kind 32 = true → D.vs.getD i 0 = E.vs.getD (cntS (seenAt l) i) 0
  lt : k < l.length
/-- Where both have left. -/
structure Ou (D E : Dn) : Prop where
  c : E.c = D.c
  wD : D.waits = false
  wE : E.waits = false
  lD : D.left = true
  lE : E.left = true
  flt : E.flt = D.flt
  word : E.word = D.word
  guest : E.guest = D.guest
/-- Where both wait for the same. -/
structure Pe (el : Int) (l : List Opr) (k : Nat) (D E : Dn) : Prop where
  atD : D.at_ = k + 1
  atE : E.at_ = cntS (seenAt l) k + 1
  seen : seenAt l k = true
  lk : Lk el (l.drop (k + 1)) D.c E.c
  c : (opAt l k).kind ≠ 13 → E.c = D.c
  w13 : (opAt l k).kind = 13 → D.w.kind = 6
  wD : D.waits = true
  wE : E.waits = true
  w : E.w = D.w
  lD : D.left = false
  lE : E.left = false
  flt : E.flt = D.flt
  word : E.word = D.word
  guest : E.guest = D.guest
  nD : D.vs.length = l.length
  nE : E.vs.length = (onlyL l).length
  vals : ∀ i, i < k → seenAt l i = true → hasP (opAt l i).kind 32 = true → D.vs.getD i 0 = E.vs.getD (cntS (seenAt l) i) 0
  which : (opAt l k).kind = 9 ∨ (opAt l k).kind = 10 ∨ (opAt l k).kind = 11 ∨ (opAt l k).kind = 12 ∨ (opAt l k).kind = 13
  lt : k + 1 < l.length
theorem getD_set_eq {vs : List Int} {k : Nat} (h : k < vs.length) (u : Int) : (vs.set k u).getD k 0 = u := by
  rw [List.getD_eq_getElem?_getD]; simp [h]
theorem getD_set_off {vs : List Int} {k i : Nat} (h : i ≠ k) (u : Int) : (vs.set k u).getD i 0 = vs.getD i 0 := by
  rw [List.getD_eq_getElem?_getD, List.getD_eq_getElem?_getD, List.getElem?_set_ne (Ne.symm h)]
theorem drop_at {l : List Opr} {k : Nat} (h : k < l.length) : l.drop k = opAt l k :: l.drop (k + 1) := by
  rw [List.drop_eq_getElem_cons h]
  unfold opAt
  rw [List.getElem?_eq_getElem h]; rfl
section
variable {pc words el : Int} {l : List Opr} {k : Nat} {D E : Dn}
theorem vals_set (hn : ∀ i, i < k → seenAt l i = true → hasP (opAt l i).kind 32 = true → D.vs.getD i 0 = E.vs.getD (cntS (seenAt l) i) 0) (hs : seenAt l k = true) (h1 : k < D.vs.length) (h2 : cntS (seenAt l) k < E.vs.length) (u : Int) :
    ∀ i, i < k + 1 → seenAt l i = true → hasP (opAt l i).kind 32 = true → (D.vs.set k u).getD i 0 = (E.vs.set (cntS (seenAt l) k) u).getD (cntS (seenAt l) i) 0 := by
  intro i hi hsi h32
  rcases Nat.lt_or_ge i k with q | q
  · have := cnt_lt hsi q
    rw [getD_set_off (by omega), getD_set_off (by omega)]
    exact hn i q hsi h32
  · obtain rfl : i = k := by omega
    rw [getD_set_eq h1, getD_set_eq h2]
theorem vals_next (hn : ∀ i, i < k → seenAt l i = true → hasP (opAt l i).kind 32 = true → D.vs.getD i 0 = E.vs.getD (cntS (seenAt l) i) 0) (hs : hasP (opAt l k).kind 32 = false) :
    ∀ i, i < k + 1 → seenAt l i = true → hasP (opAt l i).kind 32 = true → D.vs.getD i 0 = E.vs.getD (cntS (seenAt l) i) 0 := by
  intro i hi hsi h32
  rcases Nat.lt_or_ge i k with q | q
  · exact hn i q hsi h32
  · obtain rfl : i = k := by omega
    rw [hs] at h32; cases h32
theorem rng_x (h : okAt l k = true) (hk : (opAt l k).kind = 2 ∨ (opAt l k).kind = 3) : 0 ≤ (opAt l k).r ∧ (opAt l k).r ≤ 30 := by
  unfold okAt opB rangeB at h
  simp only [Bool.and_eq_true] at h
  have := h.1.2.2
  rw [if_pos hk] at this
  simpa using this
theorem rng_f (h : okAt l k = true) (hk : (opAt l k).kind = 6 ∨ (opAt l k).kind = 7) : 0 ≤ (opAt l k).r ∧ (opAt l k).r ≤ 3 := by
  unfold okAt opB rangeB at h
  simp only [Bool.and_eq_true] at h
  have := h.1.2.2
  rw [if_neg (by omega), if_pos hk] at this
  simpa using this
theorem kind_ok (h : okAt l k = true) : isK (opAt l k).kind = true := by
  unfold okAt at h
  simp only [Bool.and_eq_true] at h
  exact h.1.1.1
theorem not_last (h : okAt l k = true) (hk : k < l.length) (h128 : hasP (opAt l k).kind 128 = false) : k + 1 < l.length := by
  unfold okAt at h
  simp only [Bool.and_eq_true, beq_iff_eq] at h
  have := h.1.1.2
  rw [h128] at this
  have := of_decide_eq_false this.symm
  omega
/-- A step over what nobody sees. -/
theorem step_un (h : rightB pc words el l = true) (G : Gp el l k D E) (hs : seenAt l k = false) : Gp el l (k + 1) (dStep el l D) E := by
  have hok := right_at h G.lt
  obtain ⟨hk0, hn⟩ := seen_not h G.lt hs
  have hlk := G.lk
  rw [drop_at G.lt] at hlk
  have hat := G.atD
  have hv := G.vals
  have hE := G.atE
  have hc := cnt_off hs
  have hl1 : k + 1 < l.length := by
    have := G.lt
    rcases Nat.lt_or_ge (k + 1) l.length with q | q
    · exact q
    · have := last_seen h (k := k) (by omega); rw [hs] at this; cases this
  have st : dStep el l D = dOne el { D with at_ := D.at_ + 1 } (opAt l k) := by unfold dStep; rw [hat]
  have hvn : ∀ D' : Dn, (∀ i, i < k → D'.vs.getD i 0 = D.vs.getD i 0) → ∀ i, i < k + 1 → seenAt l i = true → hasP (opAt l i).kind 32 = true → D'.vs.getD i 0 = E.vs.getD (cntS (seenAt l) i) 0 := by
    intro D' hD i hi hsi h32
    rcases Nat.lt_or_ge i k with q | q
    · rw [hD i q]; exact hv i q hsi h32
    · obtain rfl : i = k := by omega
      rw [hs] at hsi; cases hsi
  rw [st]
  have def_ : ∀ u, setN (opAt l k) = none → Gp el l (k + 1) (Dn.define { D with at_ := D.at_ + 1 } u) E := fun u hsn =>
    ⟨by show D.at_ + 1 = _; omega, by omega, hlk.next hsn, G.wD, G.wE, G.lD, G.lE, G.flt, G.word, G.guest, (List.length_set ..).trans G.nD, G.nE, hvn _ (fun i hi => getD_set_off (by show i ≠ D.at_ + 1 - 1; omega) u), hl1⟩
  have set_ : ∀ (D' : Dn) n u, setN (opAt l k) = some n → D'.at_ = D.at_ + 1 → D'.waits = D.waits → D'.left = D.left → D'.flt = D.flt → D'.word = D.word → D'.guest = D.guest → D'.vs = D.vs → SetC el n u D.c D'.c → Gp el l (k + 1) D' E := by
    intro D' n u hsn e1 e2 e3 e4 e5 e6 e7 hset
    have ha : anew n (l.drop (k + 1)) = true := by
      unfold seesB at hn
      rw [hsn] at hn
      simpa using hn
    exact ⟨by omega, by omega, hlk.setD hsn ha hset, e2.trans G.wD, G.wE, e3.trans G.lD, G.lE, G.flt.trans e4.symm, G.word.trans e5.symm, G.guest.trans e6.symm, by rw [e7]; exact G.nD, G.nE, hvn _ (fun i _ => by rw [e7]), hl1⟩
  have lv_ : lvB (opAt l k) = true ∨ (opAt l k).kind = 13 → False := fun q => by
    have := seen_leaves h G.lt q
    rw [hs] at this; cases this
  have rx := rng_x hok
  have rf := rng_f hok
  have hK := kind_ok hok
  generalize opAt l k = o at *
  obtain ⟨kind, r, a, b, order, imm⟩ := o
  rcases isK_cases hK with e | e | e | e | e | e | e | e | e | e | e | e | e | e | e | e | e | e
  all_goals
    have e : kind = _ := e
    subst e
  · exact def_ _ rfl
  · exact def_ _ rfl
  · have := rx (.inr rfl)
    have this : 0 ≤ r ∧ r ≤ 30 := this
    exact set_ _ _ _ rfl rfl rfl rfl rfl rfl rfl rfl (setC_x _ (by show r.toNat < 31; omega) _)
  · exact def_ _ rfl
  · exact set_ _ 31 _ rfl (by show (Dn.setSP _ _ _).at_ = _; unfold Dn.setSP; split <;> rfl) (by show (Dn.setSP _ _ _).waits = _; unfold Dn.setSP; split <;> rfl) (by show (Dn.setSP _ _ _).left = _; unfold Dn.setSP; split <;> rfl) (by show (Dn.setSP _ _ _).flt = _; unfold Dn.setSP; split <;> rfl) (by show (Dn.setSP _ _ _).word = _; unfold Dn.setSP; split <;> rfl) (by show (Dn.setSP _ _ _).guest = _; unfold Dn.setSP; split <;> rfl) (by show (Dn.setSP _ _ _).vs = _; unfold Dn.setSP; split <;> rfl) (setC_sp { D with at_ := D.at_ + 1 } _)
  · exact def_ _ rfl
  · have := rf (.inr rfl)
    have this : 0 ≤ r ∧ r ≤ 3 := this
    have F : ∀ (X : Dn) (z : Bool), (X.setF r z).at_ = X.at_ ∧ (X.setF r z).waits = X.waits ∧ (X.setF r z).left = X.left ∧ (X.setF r z).flt = X.flt ∧ (X.setF r z).word = X.word ∧ (X.setF r z).guest = X.guest ∧ (X.setF r z).vs = X.vs := by
      intro X z; unfold Dn.setF; split; exact ⟨rfl, rfl, rfl, rfl, rfl, rfl, rfl⟩; split; exact ⟨rfl, rfl, rfl, rfl, rfl, rfl, rfl⟩; split <;> exact ⟨rfl, rfl, rfl, rfl, rfl, rfl, rfl⟩
    obtain ⟨f1, f2, f3, f4, f5, f6, f7⟩ := F { D with at_ := D.at_ + 1 } (Dn.val { D with at_ := D.at_ + 1 } a != 0)
    exact set_ _ _ _ rfl f1 f2 f3 f4 f5 f6 f7 (setC_f { D with at_ := D.at_ + 1 } this.1 this.2 _)
  · exact def_ _ rfl
  · exact (lv_ (.inl (by show hasP 9 64 = true; decide +kernel))).elim
  · exact (lv_ (.inl (by show hasP 10 64 = true; decide +kernel))).elim
  · exact (lv_ (.inl (by show hasP 11 64 = true; decide +kernel))).elim
  · exact (lv_ (.inl (by show hasP 12 64 = true; decide +kernel))).elim
  · exact (lv_ (.inr rfl)).elim
  · exact set_ _ 36 _ rfl rfl rfl rfl rfl rfl rfl rfl (setC_pc _ _)
  · exact (lv_ (.inl (by show hasP 15 64 = true; decide +kernel))).elim
  · exact (lv_ (.inl (by show hasP 16 64 = true; decide +kernel))).elim
  · exact (lv_ (.inl (by show hasP 17 64 = true; decide +kernel))).elim
  · exact (lv_ (.inl (by show hasP 18 64 = true; decide +kernel))).elim
end
end Go.Proofs.Ytejlmggfeejgpaa
