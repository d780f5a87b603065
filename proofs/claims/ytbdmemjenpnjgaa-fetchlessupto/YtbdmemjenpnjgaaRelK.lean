/- As RelJ's law of one call: the operations ahead of it, and behind it, may turn memory as long as what is known of it stays. No program is named. -/
import Derived.Test.YtbdmemjenpnjgaaRelJ
namespace Go.RelJ
open Go Go.RowKit Go.Rel Go.Chn
def Kp (C0 : World → Prop) (F : Value → World → Prop) (w w' : World) : Prop := (C0 w → C0 w') ∧ ∀ u, F u w → F u w'
theorem Kp.refl {C0 : World → Prop} {F : Value → World → Prop} (w : World) : Kp C0 F w w := ⟨id, fun _ => id⟩
/-- THE WALK: what each operation yields, in the order of the text; v: what the call gives. -/
def wpCallK (P : Program) (c : Nat) (C0 : World → Prop) (F : Value → World → Prop) (v : Value) (Q : Exit → Act → World → Prop) : Nat → List Oper → List Value → Act → Prop
  | i, o :: rest, x :: xs, a =>
    (if i < c then ∀ w : World, (C0 w ∨ ∃ u, F u w) → upon P (fun u w' => u = x ∧ Kp C0 F w w') w ((execOp a.eval o).run P w)
     else if i = c then ∀ w : World, C0 w → upon P F w ((execOp a.eval o).run P w)
     else ∀ w : World, F v w → upon P (fun u w' => u = x ∧ Kp C0 F w w') w ((execOp a.eval o).run P w)) ∧ wpCallK P c C0 F v Q (i + 1) rest xs (a.put o.dst x)
  | _, [], [], a => ∀ w : World, F v w → Q .normal a w
  | _, _, _, _ => False
section
variable {P : Program} {ops : Array Oper} {a0 : Act} {Q : Exit → Act → World → Prop}
theorem wpCallK_use {c : Nat} {C0 : World → Prop} {F : Value → World → Prop} {v : Value} (vals : Nat → Value) : ∀ (l : List Oper) (cs : List Value) (i : Nat) (a : Act),
    (∀ j, j < l.length → l[j]? = ops[i + j]?) → (∀ j, j < cs.length → cs[j]? = some (vals (i + j))) → a = fill ops vals (fun _ => true) a0 i → wpCallK P c C0 F v Q i l cs a →
    (∀ j o, i ≤ j → j < i + l.length → ops[j]? = some o → if j < c then ∀ w : World, (C0 w ∨ ∃ u, F u w) → upon P (fun u w' => u = vals j ∧ Kp C0 F w w') w ((execOp (fill ops vals (fun _ => true) a0 j).eval o).run P w)
      else if j = c then ∀ w : World, C0 w → upon P F w ((execOp (fill ops vals (fun _ => true) a0 j).eval o).run P w)
      else ∀ w : World, F v w → upon P (fun u w' => u = vals j ∧ Kp C0 F w w') w ((execOp (fill ops vals (fun _ => true) a0 j).eval o).run P w)) ∧
    (∀ w, F v w → Q .normal (fill ops vals (fun _ => true) a0 (i + l.length)) w)
  | [], [], i, a, hl, hk, ha, h => by
    refine ⟨fun j o hij hlt => absurd hlt (by simp; omega), fun w hC => ?_⟩
    simp only [List.length_nil, Nat.add_zero]
    rw [← ha]
    exact h w hC
  | [], _ :: _, _, _, _, _, _, h => by simp [wpCallK] at h
  | _ :: _, [], _, _, _, _, _, h => by simp [wpCallK] at h
  | o :: rest, x :: cs, i, a, hl, hk, ha, h => by
    have ho : ops[i]? = some o := by simpa using (hl 0 (by simp)).symm
    have hc : x = vals i := by simpa using hk 0 (by simp)
    have hl' : ∀ j, j < rest.length → rest[j]? = ops[i + 1 + j]? := fun j hj => by have := hl (j + 1) (by simp; omega); simpa [Nat.add_assoc, Nat.add_comm 1 j] using this
    have hk' : ∀ j, j < cs.length → cs[j]? = some (vals (i + 1 + j)) := fun j hj => by have := hk (j + 1) (by simp; omega); simpa [Nat.add_assoc, Nat.add_comm 1 j] using this
    have hput : a.put o.dst (vals i) = fill ops vals (fun _ => true) a0 (i + 1) := by
      rw [ha]; show _ = if true = true then _ else _
      rw [if_pos rfl]; simp [dstOf, ho]
    obtain ⟨h1, h2⟩ := h
    rw [hc, hput] at h2
    obtain ⟨r1, r2⟩ := wpCallK_use vals rest cs (i + 1) _ hl' hk' rfl h2
    have hN : i + (o :: rest).length = i + 1 + rest.length := by simp; omega
    rw [hN]
    refine ⟨fun j o' hij hjN ho' => ?_, r2⟩
    by_cases e : i = j
    · subst e
      obtain rfl : o = o' := Option.some.inj (ho.symm.trans ho')
      rw [← ha, ← hc]
      exact h1
    · exact r1 j o' (by omega) hjN ho'
end
section
/-- What stands at each place: ahead of the call known values, at its place whatever it gave, behind it what hangs on that. -/
def CJK (c n : Nat) (cs : Value → List Value) (C0 : World → Prop) (F : Value → World → Prop) (m : Nat → Bool) (vals : Nat → Value) (w : World) : Prop :=
  (∀ k, k < n → m k = true → k ≠ c → vals k = (cs (vals c)).getD k undef) ∧ ((m c = false ∧ C0 w ∧ ∀ k, k < n → c < k → m k = false) ∨ (m c = true ∧ F (vals c) w))
end
theorem wp_region_callK {P : Program} {id : Nat} {Q : Exit → Act → World → Prop} {a : Act} {w : World} {l : List Oper} (c : Nat) (C0 : World → Prop) (F : Value → World → Prop) (cs : Value → List Value) (hm : P.follows .mixedOrders = true) (hok : okB l.toArray = true) (hco : callOk l.toArray c = true) (hcl : c < l.length)
    (hcs : ∀ v k, k < c → (cs v).getD k undef = (cs undef).getD k undef) (hcq : ∀ v, (cs v).getD c undef = v) (hln : ∀ v, (cs v).length = l.length)
    (hw : C0 { w with drawn := w.drawn + 1 }) (h : ∀ v, wpCallK P c C0 F v Q 0 l (cs v) a) : (Code.region id l.toArray true).wp P Q a w := by
  refine wp_region_any hm ?_
  have use := fun (vals : Nat → Value) (hv : ∀ k, k < l.length → vals k = (cs (vals c)).getD k undef) => wpCallK_use (P := P) (ops := l.toArray) (c := c) (C0 := C0) (F := F) (v := vals c) (Q := Q) (a0 := a) vals l (cs (vals c)) 0 a (fun j _ => by simp) (fun j hj => by
    rw [Nat.zero_add, hv j (by rw [← hln (vals c)]; exact hj), List.getD_eq_getElem?_getD, List.getElem?_eq_getElem hj]; rfl) rfl (h (vals c))
  have main := wpAny_J (P := P) (ops := l.toArray) (J := CJK c l.length cs C0 F) (a0 := a) (Q := Q) hok
    (fun i o ho m vals w hmi hwi hclo hJ => by
      have hlt : i < l.length := by simpa using (Array.getElem?_eq_some_iff.1 ho).1
      obtain ⟨hv, hs⟩ := hJ
      have hsz : l.toArray.size = l.length := by simp
      obtain ⟨v, hvd⟩ : ∃ v, v = vals c := ⟨_, rfl⟩
      -- the values as the text has them, with what the call gave
      have hvs : ∀ k, k < l.length → (fun k => (cs v).getD k undef) k = (cs ((fun k => (cs v).getD k undef) c)).getD k undef := fun k _ => by
        show (cs v).getD k undef = (cs ((cs v).getD c undef)).getD k undef
        rw [hcq]
      obtain ⟨u1, _⟩ := use (fun k => (cs v).getD k undef) hvs
      have hu := u1 i o (Nat.zero_le _) (by omega) ho
      rw [hcq v] at hu
      have hex : execOp (fill l.toArray vals (fun _ => true) a i).eval o = execOp (fill l.toArray (fun k => (cs v).getD k undef) (fun _ => true) a i).eval o := exec_vals hok ho fun k hk => by
        have hmk := hwi k hk
        have hki : k < i := waits_back hok hk
        by_cases e : k = c
        · rw [e]; show vals c = (cs v).getD c undef; rw [hcq, hvd]
        · have := hv k (by omega) hmk e
          rw [this, hvd]
      rw [hex]
      -- the same, if the call gives another value: ahead of the call nothing hangs on it
      have hval : ∀ u k, k < c → (cs u).getD k undef = (cs v).getD k undef := fun u k hk => by rw [hcs u k hk, hcs v k hk]
      have step : ∀ (x : Value) (w' : World), i ≠ c → x = (cs v).getD i undef → Kp C0 F w w' → CJK c l.length cs C0 F (fun k => k == i || m k) (fun k => if k = i then x else vals k) w' := fun x w' hic hx hw' => by
        have e1 : (if c = i then x else vals c) = vals c := if_neg (fun e => hic e.symm)
        refine ⟨fun k hk hmk hkc => ?_, ?_⟩
        · show (if k = i then x else vals k) = (cs (if c = i then x else vals c)).getD k undef
          rw [e1]
          by_cases e : k = i
          · rw [if_pos e, hx, e, hvd]
          · rw [if_neg e]
            have : m k = true := by simpa [e] using hmk
            exact hv k hk this hkc
        · have emc : (c == i || m c) = m c := by simp [show (c == i) = false by simpa using fun e => hic e.symm]
          show ((c == i || m c) = false ∧ C0 w' ∧ _) ∨ ((c == i || m c) = true ∧ F (if c = i then x else vals c) w')
          rw [e1, emc]
          rcases hs with ⟨a1, a2, a3⟩ | a
          · refine .inl ⟨a1, hw'.1 a2, fun k hk hck => ?_⟩
            have hki : k ≠ i := fun e => by
              subst e
              have := call_done hco hclo (k + 1) k (by omega) (by omega) hck hwi
              rw [a1] at this; cases this
            show (k == i || m k) = false
            rw [a3 k hk hck]; simpa using hki
          · exact .inr ⟨a.1, hw'.2 _ a.2⟩
      by_cases h1 : i < c
      · rw [if_pos h1] at hu
        have hcw : C0 w ∨ ∃ u, F u w := hs.imp (fun h => h.2.1) fun h => ⟨_, h.2⟩
        refine upon_mono (hu w hcw) fun x w' ⟨hx, hw'⟩ => step x w' (by omega) hx hw'
      · by_cases h2 : i = c
        · subst h2
          rw [if_neg h1, if_pos rfl] at hu
          rcases hs with ⟨a1, a2, a3⟩ | ⟨a1, _⟩
          · refine upon_mono (hu w a2) fun x w' hx => ⟨fun k hk hmk hkc => ?_, .inr ⟨by simp, by show F (if i = i then x else vals i) w'; rw [if_pos rfl]; exact hx⟩⟩
            have hmk' : m k = true := by simpa [hkc] using hmk
            have hlt2 : k < i := by
              rcases Nat.lt_or_ge i k with e | e
              · rw [a3 k hk e] at hmk'; cases hmk'
              · omega
            show (if k = i then x else vals k) = (cs (if i = i then x else vals i)).getD k undef
            rw [if_neg hkc, if_pos rfl, hv k hk hmk' hkc, ← hvd, hval x k hlt2]
          · rw [hmi] at a1; cases a1
        · rw [if_neg h1, if_neg h2] at hu
          have hmc : m c = true := call_done hco hclo (i + 1) i (by omega) (by omega) (by omega) hwi
          rcases hs with ⟨a1, _⟩ | ⟨_, hF⟩
          · rw [hmc] at a1; cases a1
          · rw [← hvd] at hF
            exact upon_mono (hu w hF) fun x w' ⟨hx, hw'⟩ => step x w' h2 hx hw')
    (fun m vals w hall hJ => by
      obtain ⟨hv, hs⟩ := hJ
      have hmc : m c = true := hall c (by simpa using hcl)
      rcases hs with ⟨e, _⟩ | ⟨_, hF⟩
      · rw [hmc] at e; cases e
      · have hv' : ∀ k, k < l.length → vals k = (cs (vals c)).getD k undef := fun k hk => by
          by_cases e : k = c
          · rw [e, hcq]
          · exact hv k hk (hall k (by simpa using hk)) e
        have := (use vals hv').2 w hF
        simpa using this)
    l.toArray.size (Array.replicate l.toArray.size false) (fun _ => undef) { w with drawn := w.drawn + 1 }
    ⟨by simp, (fun j oj _ hl => by rw [getD_replicate_false] at hl; exact absurd hl (by simp)), (fun k _ hk _ => by have hk : (Array.replicate l.toArray.size false).getD k false = true := hk; rw [getD_replicate_false] at hk; cases hk), .inl ⟨getD_replicate_false _ _, hw, fun k _ _ => getD_replicate_false _ _⟩⟩
    (cnt_replicate _ _)
  have e : fill l.toArray (fun _ => undef) (fun k => (Array.replicate l.toArray.size false).getD k false) a l.toArray.size = a := by
    have : ∀ n, fill l.toArray (fun _ => undef) (fun k => (Array.replicate l.toArray.size false).getD k false) a n = a := by
      intro n
      induction n with
      | zero => rfl
      | succ n ih => unfold fill; rw [getD_replicate_false]; simpa using ih
    exact this _
  rwa [e] at main
end Go.RelJ
