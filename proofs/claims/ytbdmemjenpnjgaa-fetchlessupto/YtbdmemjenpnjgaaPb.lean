/- Plain: what the notes so far tell, as the program keeps it. No program is named. -/
import Derived.Test.YtbdmemjenpnjgaaPa
namespace Go.Proofs.Ytbdmemjenpnjgaa
set_option linter.unusedVariables false
set_option linter.unusedSimpArgs false

inductive Sl where
  | wr (a : Nat)
  | ln (a : Nat)
  | al
  deriving DecidableEq
structure Pst where
  now : Nat
  ms : Sl → List Nat
  isb : Nat → Nat
  new : Nat → Nat → Nat
def Pst.init : Pst := ⟨0, fun _ => [], fun _ => 0, fun _ _ => 0⟩
def Pst.note (p : Pst) (s : Sl) : Sl → List Nat := fun t => if t = s then p.ms s ++ [p.now] else p.ms t
def Pst.add (p : Pst) (n : Nt) : Pst :=
  { now := p.now + 1
    ms := if n.kind == 1 then p.note (.wr n.addr) else if n.kind == 2 then p.note (.ln (lineN n.addr)) else if n.kind == 3 then p.note .al else p.ms
    isb := if n.kind == 4 then (fun c => if (c : Int) = n.core then p.now else p.isb c) else p.isb
    new := if n.kind == 1 then (fun a w => if a = n.addr ∧ w = n.word then (p.ms (.wr n.addr)).length + 1 else p.new a w) else p.new }
def pst (tr : List Nt) : Pst := tr.foldl Pst.add Pst.init
theorem pst_snoc (tr : List Nt) (n : Nt) : pst (tr ++ [n]) = (pst tr).add n := by simp [pst]
theorem pst_now (tr : List Nt) : (pst tr).now = tr.length := by
  induction tr using snoc_ind with
  | h0 => rfl
  | h1 l x ih => rw [pst_snoc]; simp [Pst.add, ih]
/-- Rising, below a bound. -/
structure Ris (b : Nat) (l : List Nat) : Prop where
  up : l.Pairwise (· < ·)
  lt : ∀ x ∈ l, x < b
theorem Ris.mono {b c : Nat} {l : List Nat} (h : Ris b l) (hc : b ≤ c) : Ris c l := ⟨h.up, fun x hx => Nat.lt_of_lt_of_le (h.lt x hx) hc⟩
theorem Ris.snoc {b : Nat} {l : List Nat} (h : Ris b l) : Ris (b + 1) (l ++ [b]) := by
  refine ⟨List.pairwise_append.2 ⟨h.up, List.pairwise_singleton _ _, fun x hx y hy => ?_⟩, fun x hx => ?_⟩
  · rw [List.mem_singleton.1 hy]; exact h.lt x hx
  · rcases List.mem_append.1 hx with hx | hx
    · have := h.lt x hx; omega
    · rw [List.mem_singleton.1 hx]; omega
theorem pst_ris (tr : List Nt) (s : Sl) : Ris (pst tr).now ((pst tr).ms s) := by
  induction tr using snoc_ind with
  | h0 => exact ⟨List.Pairwise.nil, fun x hx => by cases hx⟩
  | h1 l x ih =>
    rw [pst_snoc]
    have key : ∀ t, Ris ((pst l).now + 1) ((pst l).note t s) := fun t => by
      unfold Pst.note
      split
      · rename_i h; subst h; exact ih.snoc
      · exact ih.mono (by omega)
    unfold Pst.add
    dsimp only
    split
    · exact key _
    · split
      · exact key _
      · split
        · exact key _
        · exact ih.mono (by omega)
theorem pst_isb (tr : List Nt) (c : Nat) : (pst tr).isb c ≤ (pst tr).now := by
  induction tr using snoc_ind with
  | h0 => exact Nat.le_refl _
  | h1 l x ih =>
    rw [pst_snoc]
    unfold Pst.add
    dsimp only
    split
    · show (if (c : Int) = x.core then _ else _) ≤ _
      split <;> omega
    · omega
/-- How many are ahead of one. -/
def cntN (l : List Nat) (e : Int) : Nat := (l.filter fun (x : Nat) => decide ((x : Int) < e)).length
def lastN (l : List Nat) (e : Int) : Int := if cntN l e = 0 then -1 else (l.getD (cntN l e - 1) 0 : Nat)
theorem cntN_nil (e : Int) : cntN [] e = 0 := rfl
theorem cntN_all {l : List Nat} {e : Int} (h : ∀ x ∈ l, (x : Int) < e) : cntN l e = l.length := by
  unfold cntN
  rw [List.filter_eq_self.2 fun x hx => by simpa using h x hx]
theorem cntN_snoc (l : List Nat) (b : Nat) (e : Int) : cntN (l ++ [b]) e = cntN l e + if (b : Int) < e then 1 else 0 := by
  unfold cntN
  rw [List.filter_append, List.length_append]
  by_cases h : (b : Int) < e <;> simp [h]
theorem cntN_le (l : List Nat) (e : Int) : cntN l e ≤ l.length := List.length_filter_le _ _
theorem getD_snoc_lt {l : List Nat} {b k : Nat} (h : k < l.length) : (l ++ [b]).getD k 0 = l.getD k 0 := by
  simp [List.getD, List.getElem?_append, h]
theorem lastN_same {l : List Nat} {b : Nat} {e : Int} (h : ¬ (b : Int) < e) : lastN (l ++ [b]) e = lastN l e := by
  unfold lastN
  rw [cntN_snoc, if_neg h, Nat.add_zero]
  split
  · rfl
  · have := cntN_le l e
    rw [getD_snoc_lt (by omega)]
theorem lastN_new {l : List Nat} {b : Nat} {e : Int} (hl : ∀ x ∈ l, x < b) (h : (b : Int) < e) : lastN (l ++ [b]) e = b := by
  have ha : cntN (l ++ [b]) e = l.length + 1 := by
    rw [cntN_snoc, if_pos h, cntN_all fun x hx => by have := hl x hx; omega]
  unfold lastN
  rw [ha, if_neg (by omega)]
  simp [List.getD]
theorem lastN_all {l : List Nat} {b : Nat} {e f : Int} (hl : ∀ x ∈ l, x < b) (he : (b : Int) ≤ e) (hf : (b : Int) ≤ f) : lastN l e = lastN l f := by
  unfold lastN
  rw [cntN_all (fun x hx => by have := hl x hx; omega), cntN_all (fun x hx => by have := hl x hx; omega)]
theorem getD_mem {l : List Nat} {k : Nat} (h : k < l.length) : l.getD k 0 ∈ l := by
  simp [List.getD, List.getElem?_eq_getElem h]
theorem lastN_lt {l : List Nat} {b : Nat} (e : Int) (hl : ∀ x ∈ l, x < b) : lastN l e < b := by
  unfold lastN
  split
  · omega
  · have := cntN_le l e
    have := hl _ (getD_mem (l := l) (k := cntN l e - 1) (by omega))
    omega
def Pst.noted (p : Pst) (c a : Nat) : Int := max (lastN (p.ms (.ln (lineN a))) (p.isb c)) (lastN (p.ms .al) (p.isb c))
def Pst.lost (p : Pst) (c a : Nat) : Nat := cntN (p.ms (.wr a)) (p.noted c a)
def Pst.top (p : Pst) (a : Nat) : Int := max (lastN (p.ms (.ln (lineN a))) p.now) (lastN (p.ms .al) p.now)
/-- What the program keeps is what is told. -/
structure Fits (tr : List Nt) (c a : Nat) : Prop where
  nw : ((pst tr).ms (.wr a)).length = (au tr c a).nw
  told : cntN ((pst tr).ms (.wr a)) ((pst tr).top a) = (au tr c a).told
  lost : (pst tr).lost c a = (au tr c a).lost
theorem noted_lt (tr : List Nt) (c a : Nat) : (pst tr).noted c a < (pst tr).now := by
  have h1 := lastN_lt ((pst tr).isb c : Int) (pst_ris tr (.ln (lineN a))).lt
  have h2 := lastN_lt ((pst tr).isb c : Int) (pst_ris tr .al).lt
  unfold Pst.noted
  omega
theorem top_lt (tr : List Nt) (a : Nat) : (pst tr).top a < (pst tr).now := by
  have h1 := lastN_lt ((pst tr).now : Int) (pst_ris tr (.ln (lineN a))).lt
  have h2 := lastN_lt ((pst tr).now : Int) (pst_ris tr .al).lt
  unfold Pst.top
  omega
theorem fits (tr : List Nt) (c a : Nat) : Fits tr c a := by
  induction tr using snoc_ind with
  | h0 => exact ⟨rfl, rfl, rfl⟩
  | h1 l x ih =>
    have hL := (pst_ris l (.ln (lineN a)))
    have hA := (pst_ris l .al)
    have hW := (pst_ris l (.wr a))
    have hI := pst_isb l c
    have hn := noted_lt l c a
    have ht := top_lt l a
    have i1 := ih.nw
    have i2 := ih.told
    have i3 := ih.lost
    have e1 : lastN ((pst l).ms (.ln (lineN a))) (((pst l).now + 1 : Nat) : Int) = lastN ((pst l).ms (.ln (lineN a))) (pst l).now := lastN_all hL.lt (by omega) (by omega)
    have e2 : lastN ((pst l).ms .al) (((pst l).now + 1 : Nat) : Int) = lastN ((pst l).ms .al) (pst l).now := lastN_all hA.lt (by omega) (by omega)
    unfold Pst.lost Pst.noted at i3
    unfold Pst.noted at hn
    unfold Pst.top at i2 ht
    have cw : ∀ e : Int, e < (pst l).now → cntN ((pst l).ms (.wr a) ++ [(pst l).now]) e = cntN ((pst l).ms (.wr a)) e := fun e he => by
      rw [cntN_snoc, if_neg (by omega), Nat.add_zero]
    by_cases k1 : x.kind = 1
    · have s : isT a x = false ∧ isI c x = false := by simp [isT, isI, k1]
      by_cases ka : x.addr = a
      · have s1 : isW a x = true := by simp [isW, k1, ka]
        have m : (pst (l ++ [x])).ms (.wr a) = (pst l).ms (.wr a) ++ [(pst l).now] := by rw [pst_snoc]; simp [Pst.add, k1, Pst.note, ka]
        have m1 : (pst (l ++ [x])).ms (.ln (lineN a)) = (pst l).ms (.ln (lineN a)) := by rw [pst_snoc]; simp [Pst.add, k1, Pst.note]
        have m2 : (pst (l ++ [x])).ms .al = (pst l).ms .al := by rw [pst_snoc]; simp [Pst.add, k1, Pst.note]
        have m3 : (pst (l ++ [x])).isb c = (pst l).isb c := by rw [pst_snoc]; simp [Pst.add, k1]
        have m4 : (pst (l ++ [x])).now = (pst l).now + 1 := by rw [pst_snoc]; rfl
        refine ⟨?_, ?_, ?_⟩
        · rw [m, au_snoc]; simp [Au.step, s1, i1]
        · unfold Pst.top; rw [m, m1, m2, m4, e1, e2, cw _ ht, au_snoc]; simp [Au.step, s1, i2]
        · unfold Pst.lost Pst.noted; rw [m, m1, m2, m3, cw _ hn, au_snoc]; simp [Au.step, s1, i3]
      · have s1 : isW a x = false := by simp [isW, k1, ka]
        have m : (pst (l ++ [x])).ms (.wr a) = (pst l).ms (.wr a) := by rw [pst_snoc]; simp [Pst.add, k1, Pst.note, Ne.symm ka]
        have m1 : (pst (l ++ [x])).ms (.ln (lineN a)) = (pst l).ms (.ln (lineN a)) := by rw [pst_snoc]; simp [Pst.add, k1, Pst.note]
        have m2 : (pst (l ++ [x])).ms .al = (pst l).ms .al := by rw [pst_snoc]; simp [Pst.add, k1, Pst.note]
        have m3 : (pst (l ++ [x])).isb c = (pst l).isb c := by rw [pst_snoc]; simp [Pst.add, k1]
        have m4 : (pst (l ++ [x])).now = (pst l).now + 1 := by rw [pst_snoc]; rfl
        refine ⟨?_, ?_, ?_⟩
        · rw [m, au_snoc]; simp [Au.step, s1, s, i1]
        · unfold Pst.top; rw [m, m1, m2, m4, e1, e2, au_snoc]; simp [Au.step, s1, s, i2]
        · unfold Pst.lost Pst.noted; rw [m, m1, m2, m3, au_snoc]; simp [Au.step, s1, s, i3]
    · have s1 : isW a x = false := by simp [isW, k1]
      have m : (pst (l ++ [x])).ms (.wr a) = (pst l).ms (.wr a) := by
        rw [pst_snoc]
        by_cases k2 : x.kind = 2 <;> by_cases k3 : x.kind = 3 <;> simp [Pst.add, k1, k2, k3, Pst.note]
      have m4 : (pst (l ++ [x])).now = (pst l).now + 1 := by rw [pst_snoc]; rfl
      by_cases kT : isT a x = true
      · have m3 : (pst (l ++ [x])).isb c = (pst l).isb c := by
          rw [pst_snoc]
          have : x.kind ≠ 4 := by intro h; simp [isT, h] at kT
          simp [Pst.add, this]
        have key : (pst (l ++ [x])).top a = (pst l).now ∧ (pst (l ++ [x])).noted c a = (pst l).noted c a := by
          unfold Pst.top Pst.noted
          rw [m3, m4]
          by_cases k3 : x.kind = 3
          · have m1 : (pst (l ++ [x])).ms (.ln (lineN a)) = (pst l).ms (.ln (lineN a)) := by rw [pst_snoc]; simp [Pst.add, k3, Pst.note]
            have m2 : (pst (l ++ [x])).ms .al = (pst l).ms .al ++ [(pst l).now] := by rw [pst_snoc]; simp [Pst.add, k3, Pst.note]
            rw [m1, m2, lastN_new hA.lt (by omega), e1, lastN_same (e := ((pst l).isb c : Int)) (by omega)]
            have := lastN_lt ((pst l).now : Int) hL.lt
            exact ⟨by omega, rfl⟩
          · have hk : x.kind = 2 ∧ x.addr / 64 = a / 64 := by simpa [isT, k3] using kT
            have hl : lineN x.addr = lineN a := by unfold lineN; rw [hk.2]
            have m1 : (pst (l ++ [x])).ms (.ln (lineN a)) = (pst l).ms (.ln (lineN a)) ++ [(pst l).now] := by rw [pst_snoc]; simp [Pst.add, hk.1, Pst.note, hl]
            have m2 : (pst (l ++ [x])).ms .al = (pst l).ms .al := by rw [pst_snoc]; simp [Pst.add, hk.1, Pst.note]
            rw [m1, m2, lastN_new hL.lt (by omega), e2, lastN_same (e := ((pst l).isb c : Int)) (by omega)]
            have := lastN_lt ((pst l).now : Int) hA.lt
            exact ⟨by omega, rfl⟩
        refine ⟨?_, ?_, ?_⟩
        · rw [m, au_snoc]; simp [Au.step, s1, kT, i1]
        · rw [m, key.1, au_snoc, cntN_all fun y hy => by have := hW.lt y hy; omega]; simp [Au.step, s1, kT, i1]
        · unfold Pst.lost; rw [m, key.2, au_snoc]; simp only [Au.step, s1, kT]; simpa [Pst.noted] using i3
      · have m1 : (pst (l ++ [x])).ms (.ln (lineN a)) = (pst l).ms (.ln (lineN a)) ∧ (pst (l ++ [x])).ms .al = (pst l).ms .al := by
          have k3 : x.kind ≠ 3 := by intro h; simp [isT, h] at kT
          rw [pst_snoc]
          by_cases k2 : x.kind = 2
          · have hl : lineN a ≠ lineN x.addr := by
              intro h
              have : x.addr / 64 ≠ a / 64 := by intro e; simp [isT, k2, e] at kT
              unfold lineN at h
              omega
            simp [Pst.add, k2, Pst.note, hl]
          · simp [Pst.add, k1, k2, k3]
        obtain ⟨m1, m2⟩ := m1
        by_cases kI : isI c x = true
        · have hk : x.kind = 4 ∧ x.core = c := by simpa [isI] using kI
          have m3 : (pst (l ++ [x])).isb c = (pst l).now := by rw [pst_snoc]; simp [Pst.add, hk.1, hk.2]
          refine ⟨?_, ?_, ?_⟩
          · rw [m, au_snoc]; simp [Au.step, s1, kT, kI, i1]
          · unfold Pst.top; rw [m, m1, m2, m4, e1, e2, au_snoc]; simp [Au.step, s1, kT, kI, i2]
          · unfold Pst.lost Pst.noted; rw [m, m1, m2, m3, au_snoc]; simp [Au.step, s1, kT, kI, i2]
        · have m3 : (pst (l ++ [x])).isb c = (pst l).isb c := by
            rw [pst_snoc]
            by_cases k4 : x.kind = 4
            · have hc : ¬ (c : Int) = x.core := by intro e; simp [isI, k4, ← e] at kI
              simp [Pst.add, k4, hc]
            · simp [Pst.add, k4]
          refine ⟨?_, ?_, ?_⟩
          · rw [m, au_snoc]; simp [Au.step, s1, kT, kI, i1]
          · unfold Pst.top; rw [m, m1, m2, m4, e1, e2, au_snoc]; simp [Au.step, s1, kT, kI, i2]
          · unfold Pst.lost Pst.noted; rw [m, m1, m2, m3, au_snoc]; simp [Au.step, s1, kT, kI, i3]
/-- The newest version with a word. -/
theorem new_spec (tr : List Nt) (a w : Nat) : (∀ k, (pst tr).new a w < k → (wordsW tr a)[k - 1]? ≠ some w) ∧ (0 < (pst tr).new a w → (wordsW tr a)[(pst tr).new a w - 1]? = some w) := by
  induction tr using snoc_ind with
  | h0 => exact ⟨fun k _ => by simp [wordsW], fun h => absurd h (Nat.lt_irrefl 0)⟩
  | h1 l x ih =>
    have hlen : ((pst l).ms (.wr a)).length = (wordsW l a).length := by rw [(fits l 0 a).nw, wordsW_len l 0 a]; rfl
    rw [wordsW_snoc]
    by_cases h : isW a x = true
    · have hk : x.kind = 1 ∧ x.addr = a := by simpa [isW] using h
      rw [if_pos h]
      have m : (pst (l ++ [x])).new a w = if w = x.word then (wordsW l a).length + 1 else (pst l).new a w := by
        rw [pst_snoc, ← hlen]
        simp [Pst.add, hk.1, hk.2]
      rw [m]
      by_cases hw : w = x.word
      · rw [if_pos hw]
        refine ⟨fun k hk => ?_, fun _ => by simp [hw]⟩
        rw [List.getElem?_eq_none (by simp; omega)]; simp
      · rw [if_neg hw]
        refine ⟨fun k hk => ?_, fun h0 => ?_⟩
        · by_cases e : k - 1 < (wordsW l a).length
          · rw [List.getElem?_append_left e]; exact ih.1 k hk
          · by_cases e2 : k - 1 = (wordsW l a).length
            · rw [e2]; simp [Ne.symm hw]
            · rw [List.getElem?_eq_none (by simp; omega)]; simp
        · have := ih.2 h0
          rw [List.getElem?_append_left (List.getElem?_eq_some_iff.1 this).1]
          exact this
    · rw [if_neg h, List.append_nil]
      have m : (pst (l ++ [x])).new a w = (pst l).new a w := by
        rw [pst_snoc]
        by_cases k1 : x.kind = 1
        · have hne : ¬ a = x.addr := by intro e; exact h (by simp [isW, k1, e])
          simp [Pst.add, k1, hne]
        · simp [Pst.add, k1]
      rw [m]
      exact ih
def mayB (tr : List Nt) (c a w f : Nat) : Bool := ((pst tr).lost c a == 0 && w == f) || (decide (0 < (pst tr).new a w) && decide ((pst tr).lost c a ≤ (pst tr).new a w))
theorem mayB_iff (tr : List Nt) (c a w f : Nat) : mayB tr c a w f = ((vers tr a f).drop (au tr c a).lost).contains w := by
  rw [← (fits tr c a).lost]
  obtain ⟨h1, h2⟩ := new_spec tr a w
  unfold mayB
  generalize (pst tr).lost c a = m
  rw [Bool.eq_iff_iff]
  simp only [Bool.or_eq_true, Bool.and_eq_true, beq_iff_eq, decide_eq_true_eq, List.contains_eq_mem]
  constructor
  · rintro (⟨h, rfl⟩ | ⟨h, h3⟩)
    · have : m = 0 := h
      subst this
      simp [vers]
    · have := h2 h
      rw [List.mem_iff_getElem?]
      refine ⟨(pst tr).new a w - m, ?_⟩
      rw [List.getElem?_drop, show m + ((pst tr).new a w - m) = ((pst tr).new a w - 1) + 1 by omega]
      exact this
  · intro h
    rw [List.mem_iff_getElem?] at h
    obtain ⟨i, hi⟩ := h
    rw [List.getElem?_drop] at hi
    by_cases e : m + i = 0
    · left
      rw [e] at hi
      refine ⟨by omega, ?_⟩
      have : f = w := by simpa [vers] using hi
      exact this.symm
    · right
      have hi' : (wordsW tr a)[m + i - 1]? = some w := by
        rw [show m + i = (m + i - 1) + 1 by omega] at hi
        exact hi
      have : ¬ (pst tr).new a w < m + i := fun hlt => h1 _ hlt hi'
      omega
end Go.Proofs.Ytbdmemjenpnjgaa
