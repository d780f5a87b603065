/- As RelK: one call whose value is free; ahead of it a chain of operations with phases. No program is named. -/
import Derived.Test.YtbdmemjenpnjgaaRelK
namespace Go.RelJ
open Go Go.RowKit Go.Rel Go.Chn
def place (pre : List Nat) (i : Nat) : Nat := (pre.takeWhile (· != i)).length
theorem place_at {p1 p2 : List Nat} {i : Nat} (h : i ∉ p1) : place (p1 ++ i :: p2) i = p1.length := by
  unfold place
  rw [List.takeWhile_append_of_pos (fun k hk => by simpa using fun e : k = i => h (e ▸ hk))]
  simp
/-- What one operation yields. -/
def opP (P : Program) (pre : List Nat) (c : Nat) (Cs : Nat → World → Prop) (F : Value → World → Prop) (v : Value) (i : Nat) (x : Value) (run : World → Result Next) : Prop :=
  if i = c then ∀ w : World, Cs pre.length w → upon P F w (run w)
  else if i < c then
    if pre.contains i then ∀ w : World, Cs (place pre i) w → upon P (fun u w' => u = x ∧ Cs (place pre i + 1) w') w (run w)
    else ∀ w : World, ((∃ j, Cs j w) ∨ ∃ u, F u w) → upon P (fun u w' => u = x ∧ w' = w) w (run w)
  else ∀ w : World, F v w → upon P (fun u w' => u = x ∧ w' = w) w (run w)
/-- THE WALK, in the order of the text; v: what the call gives. -/
def wpCallP (P : Program) (pre : List Nat) (c : Nat) (Cs : Nat → World → Prop) (F : Value → World → Prop) (v : Value) (Q : Exit → Act → World → Prop) : Nat → List Oper → List Value → Act → Prop
  | i, o :: rest, x :: xs, a => opP P pre c Cs F v i x (fun w => (execOp a.eval o).run P w) ∧ wpCallP P pre c Cs F v Q (i + 1) rest xs (a.put o.dst x)
  | _, [], [], a => ∀ w : World, F v w → Q .normal a w
  | _, _, _, _ => False
section
variable {P : Program} {ops : Array Oper} {a0 : Act} {Q : Exit → Act → World → Prop}
theorem wpCallP_use {pre : List Nat} {c : Nat} {Cs : Nat → World → Prop} {F : Value → World → Prop} {v : Value} (vals : Nat → Value) : ∀ (l : List Oper) (cs : List Value) (i : Nat) (a : Act),
    (∀ j, j < l.length → l[j]? = ops[i + j]?) → (∀ j, j < cs.length → cs[j]? = some (vals (i + j))) → a = fill ops vals (fun _ => true) a0 i → wpCallP P pre c Cs F v Q i l cs a →
    (∀ j o, i ≤ j → j < i + l.length → ops[j]? = some o → opP P pre c Cs F v j (vals j) (fun w => (execOp (fill ops vals (fun _ => true) a0 j).eval o).run P w)) ∧
    (∀ w, F v w → Q .normal (fill ops vals (fun _ => true) a0 (i + l.length)) w)
  | [], [], i, a, hl, hk, ha, h => by
    refine ⟨fun j o hij hlt => absurd hlt (by simp; omega), fun w hC => ?_⟩
    simp only [List.length_nil, Nat.add_zero]
    rw [← ha]
    exact h w hC
  | [], _ :: _, _, _, _, _, _, h => by simp [wpCallP] at h
  | _ :: _, [], _, _, _, _, _, h => by simp [wpCallP] at h
  | o :: rest, x :: cs, i, a, hl, hk, ha, h => by
    have ho : ops[i]? = some o := by simpa using (hl 0 (by simp)).symm
    have hc : x = vals i := by simpa using hk 0 (by simp)
    have hl' : ∀ j, j < rest.length → rest[j]? = ops[i + 1 + j]? := fun j hj => by have := hl (j + 1) (by simp; omega); simpa [Nat.add_assoc, Nat.add_comm 1 j] using this
    have hk' : ∀ j, j < cs.length → cs[j]? = some (vals (i + 1 + j)) := fun j hj => by have := hk (j + 1) (by simp; omega); simpa [Nat.add_assoc, Nat.add_comm 1 j] using this
    have hput : a.put o.dst (vals i) = fill ops vals (fun _ => true) a0 (i + 1) := by
      rw [ha]; show _ = if true = true then _ else _
      rw [if_pos rfl]; simp [dstOf, ho]
    obtain ⟨h1, h2⟩ := h
    rw [hc, hput] at h2
    obtain ⟨r1, r2⟩ := wpCallP_use vals rest cs (i + 1) _ hl' hk' rfl h2
    have hN : i + (o :: rest).length = i + 1 + rest.length := by simp; omega
    rw [hN]
    refine ⟨fun j o' hij hjN ho' => ?_, r2⟩
    by_cases e : i = j
    · subst e
      obtain rfl : o = o' := Option.some.inj (ho.symm.trans ho')
      rw [← ha, ← hc]
      exact h1
    · exact r1 j o' (by omega) hjN ho'
/-- What stands at each place. -/
def CJP (pre : List Nat) (c n : Nat) (cs : Value → List Value) (Cs : Nat → World → Prop) (F : Value → World → Prop) (m : Nat → Bool) (vals : Nat → Value) (w : World) : Prop :=
  (∀ k, k < n → m k = true → k ≠ c → vals k = (cs (vals c)).getD k undef) ∧ ((m c = false ∧ Cs (phase pre m) w ∧ ∀ k, k < n → c < k → m k = false) ∨ (m c = true ∧ F (vals c) w))
end
theorem wp_region_callP {P : Program} {id : Nat} {Q : Exit → Act → World → Prop} {a : Act} {w : World} {l : List Oper} (pre : List Nat) (c : Nat) (Cs : Nat → World → Prop) (F : Value → World → Prop) (cs : Value → List Value) (hm : P.follows .mixedOrders = true) (hok : okB l.toArray = true) (hco : callOk l.toArray c = true) (hlk : Chn.linked l.toArray (pre ++ [c]) = true) (hcl : c < l.length)
    (hcs : ∀ v k, k < c → (cs v).getD k undef = (cs undef).getD k undef) (hcq : ∀ v, (cs v).getD c undef = v) (hln : ∀ v, (cs v).length = l.length)
    (hw : Cs 0 { w with drawn := w.drawn + 1 }) (h : ∀ v, wpCallP P pre c Cs F v Q 0 l (cs v) a) : (Code.region id l.toArray true).wp P Q a w := by
  refine wp_region_any hm ?_
  have use := fun (vals : Nat → Value) (hv : ∀ k, k < l.length → vals k = (cs (vals c)).getD k undef) => wpCallP_use (P := P) (ops := l.toArray) (pre := pre) (c := c) (Cs := Cs) (F := F) (v := vals c) (Q := Q) (a0 := a) vals l (cs (vals c)) 0 a (fun j _ => by simp) (fun j hj => by
    rw [Nat.zero_add, hv j (by rw [← hln (vals c)]; exact hj), List.getD_eq_getElem?_getD, List.getElem?_eq_getElem hj]; rfl) rfl (h (vals c))
  have hphase0 : phase pre (fun k => (Array.replicate l.toArray.size false).getD k false) = 0 := by
    cases pre with
    | nil => rfl
    | cons c r =>
      unfold phase
      rw [List.takeWhile_cons, getD_replicate_false]
      rfl
  have main := wpAny_J (P := P) (ops := l.toArray) (J := CJP pre c l.length cs Cs F) (a0 := a) (Q := Q) hok
    (fun i o ho m vals w hmi hwi hclo hJ => by
      have hlt : i < l.length := by simpa using (Array.getElem?_eq_some_iff.1 ho).1
      obtain ⟨hv, hs⟩ := hJ
      have hsz : l.toArray.size = l.length := by simp
      obtain ⟨v, hvd⟩ : ∃ v, v = vals c := ⟨_, rfl⟩
      have hvs : ∀ k, k < l.length → (fun k => (cs v).getD k undef) k = (cs ((fun k => (cs v).getD k undef) c)).getD k undef := fun k _ => by
        show (cs v).getD k undef = (cs ((cs v).getD c undef)).getD k undef
        rw [hcq]
      obtain ⟨u1, _⟩ := use (fun k => (cs v).getD k undef) hvs
      have hu := u1 i o (Nat.zero_le _) (by omega) ho
      rw [hcq v] at hu
      have hex : execOp (fill l.toArray vals (fun _ => true) a i).eval o = execOp (fill l.toArray (fun k => (cs v).getD k undef) (fun _ => true) a i).eval o := exec_vals hok ho fun k hk => by
        have hmk := hwi k hk
        have hki : k < i := waits_back hok hk
        by_cases e : k = c
        · rw [e]; show vals c = (cs v).getD c undef; rw [hcq, hvd]
        · have := hv k (by omega) hmk e
          rw [this, hvd]
      rw [hex]
      have hval : ∀ u k, k < c → (cs u).getD k undef = (cs v).getD k undef := fun u k hk => by rw [hcs u k hk, hcs v k hk]
      have keepv : ∀ (x : Value), i ≠ c → x = (cs v).getD i undef → ∀ k, k < l.length → (k == i || m k) = true → k ≠ c → (if k = i then x else vals k) = (cs (if c = i then x else vals c)).getD k undef := fun x hic hx k hk hmk hkc => by
        rw [if_neg (fun e : c = i => hic e.symm)]
        by_cases e : k = i
        · rw [if_pos e, hx, e, hvd]
        · rw [if_neg e]
          have : m k = true := by simpa [e] using hmk
          exact hv k hk this hkc
      unfold opP at hu
      by_cases h2 : i = c
      · subst h2
        rw [if_pos rfl] at hu
        rcases hs with ⟨a1, a2, a3⟩ | ⟨a1, _⟩
        · have hpre := linked_pre hok hlk m hwi hclo
          rw [phase_all (fun k hk => (hpre k hk).1)] at a2
          refine upon_mono (hu w a2) fun x w' hx => ⟨fun k hk hmk hkc => ?_, .inr ⟨by simp, by show F (if i = i then x else vals i) w'; rw [if_pos rfl]; exact hx⟩⟩
          have hmk' : m k = true := by simpa [hkc] using hmk
          have hlt2 : k < i := by
            rcases Nat.lt_or_ge i k with e | e
            · rw [a3 k hk e] at hmk'; cases hmk'
            · omega
          show (if k = i then x else vals k) = (cs (if i = i then x else vals i)).getD k undef
          rw [if_neg hkc, if_pos rfl, hv k hk hmk' hkc, ← hvd, hval x k hlt2]
        · rw [hmi] at a1; cases a1
      · rw [if_neg h2] at hu
        have emc : (c == i || m c) = m c := by simp [show (c == i) = false by simpa using fun e => h2 e.symm]
        by_cases h1 : i < c
        · rw [if_pos h1] at hu
          by_cases hp : pre.contains i = true
          · rw [if_pos hp] at hu
            have hi : i ∈ pre := by simpa using hp
            have hmc : m c = false := by
              cases e : m c with
              | false => rfl
              | true =>
                have := (linked_pre hok hlk m (fun k hk => hclo c k hk e) hclo i hi).1
                rw [hmi] at this; cases this
            rcases hs with ⟨a1, a2, a3⟩ | ⟨a1, _⟩
            · obtain ⟨p1, p2, hpe⟩ := List.append_of_mem hi
              subst hpe
              have hlk' : Chn.linked l.toArray (p1 ++ i :: (p2 ++ [c])) = true := by simpa using hlk
              have hpre := linked_pre hok hlk' m hwi hclo
              have hnp : i ∉ p1 := fun hh => absurd (hpre i hh).2 (Nat.lt_irrefl _)
              have e1 : phase (p1 ++ i :: p2) m = p1.length := phase_at (fun k hk => (hpre k hk).1) hmi
              have e2 : phase (p1 ++ i :: p2) (fun k => k == i || m k) = p1.length + 1 := phase_next (fun k hk => (hpre k hk).1) hnp (fun k hk => by
                have hk' := linked_post hlk' k (by cases p2 with | nil => simp at hk | cons d r => simpa using hk)
                refine ⟨?_, fun e => by have := waits_back hok hk'; omega⟩
                cases e : m k with
                | false => rfl
                | true => have := hclo k i hk' e; rw [hmi] at this; cases this)
              rw [e1] at a2
              rw [place_at hnp] at hu
              refine upon_mono (hu w a2) fun x w' ⟨hx, hC⟩ => ⟨keepv x h2 hx, .inl ⟨by show (c == i || m c) = false; rw [emc]; exact a1, by rw [e2]; exact hC, fun k hk hck => ?_⟩⟩
              show (k == i || m k) = false
              rw [a3 k hk hck]; simpa using fun e : k = i => absurd h1 (by omega)
            · rw [hmc] at a1; cases a1
          · rw [if_neg hp] at hu
            have hi : i ∉ pre := by simpa using hp
            have hcw : (∃ j, Cs j w) ∨ ∃ u, F u w := hs.imp (fun h => ⟨_, h.2.1⟩) fun h => ⟨_, h.2⟩
            refine upon_mono (hu w hcw) fun x w' ⟨hx, hw'⟩ => ⟨keepv x h2 hx, ?_⟩
            subst hw'
            rcases hs with ⟨a1, a2, a3⟩ | ⟨a1, a2⟩
            · refine .inl ⟨by show (c == i || m c) = false; rw [emc]; exact a1, by rw [phase_other hi]; exact a2, fun k hk hck => ?_⟩
              show (k == i || m k) = false
              rw [a3 k hk hck]; simpa using fun e : k = i => absurd h1 (by omega)
            · refine .inr ⟨by show (c == i || m c) = true; rw [emc]; exact a1, ?_⟩
              show F (if c = i then x else vals c) w'
              rw [if_neg (fun e : c = i => h2 e.symm)]; exact a2
        · rw [if_neg h1] at hu
          have hmc : m c = true := call_done hco hclo (i + 1) i (by omega) (by omega) (by omega) hwi
          rcases hs with ⟨a1, _⟩ | ⟨_, hF⟩
          · rw [hmc] at a1; cases a1
          · have hF' := hF
            rw [← hvd] at hF
            refine upon_mono (hu w hF) fun x w' ⟨hx, hw'⟩ => ⟨keepv x h2 hx, .inr ⟨by show (c == i || m c) = true; rw [emc]; exact hmc, ?_⟩⟩
            subst hw'
            show F (if c = i then x else vals c) w'
            rw [if_neg (fun e : c = i => h2 e.symm)]; exact hF')
    (fun m vals w hall hJ => by
      obtain ⟨hv, hs⟩ := hJ
      have hmc : m c = true := hall c (by simpa using hcl)
      rcases hs with ⟨e, _⟩ | ⟨_, hF⟩
      · rw [hmc] at e; cases e
      · have hv' : ∀ k, k < l.length → vals k = (cs (vals c)).getD k undef := fun k hk => by
          by_cases e : k = c
          · rw [e, hcq]
          · exact hv k hk (hall k (by simpa using hk)) e
        have := (use vals hv').2 w hF
        simpa using this)
    l.toArray.size (Array.replicate l.toArray.size false) (fun _ => undef) { w with drawn := w.drawn + 1 }
    ⟨by simp, (fun j oj _ hl => by rw [getD_replicate_false] at hl; exact absurd hl (by simp)), (fun k _ hk _ => by have hk : (Array.replicate l.toArray.size false).getD k false = true := hk; rw [getD_replicate_false] at hk; cases hk), .inl ⟨getD_replicate_false _ _, by rw [hphase0]; exact hw, fun k _ _ => getD_replicate_false _ _⟩⟩
    (cnt_replicate _ _)
  have e : fill l.toArray (fun _ => undef) (fun k => (Array.replicate l.toArray.size false).getD k false) a l.toArray.size = a := by
    have : ∀ n, fill l.toArray (fun _ => undef) (fun k => (Array.replicate l.toArray.size false).getD k false) a n = a := by
      intro n
      induction n with
      | zero => rfl
      | succ n ih => unfold fill; rw [getD_replicate_false]; simpa using ih
    exact this _
  rwa [e] at main
end Go.RelJ
