/- The first thing that is to be done; all of it. -/
import Derived.Test.YtilbnjldfgofmaaZq
import Derived.WalkMore
namespace Go.Proofs.Ytilbnjldfgofmaa
open Go.RowKit
set_option linter.unusedVariables false
set_option linter.unusedSimpArgs false
set_option maxRecDepth 8000

theorem eqIn_func (d : Nat) {t : TypeId} {a b : Array TypeId} {c : Bool} (hu : Try.prog.underlying t = some (.func a b c)) (fn : Fn) (first cap : Array Value) (w : World) : (Op.equalIn (d + 1) t (.func fn first cap) .nilFunc).run Try.prog w = .ok false w := by
  rw [Op.equalIn]
  simp [Sem.run_bind, run_underlying hu]
theorem eqIn_nil (d : Nat) {t : TypeId} {a b : Array TypeId} {c : Bool} (hu : Try.prog.underlying t = some (.func a b c)) (w : World) : (Op.equalIn (d + 1) t .nilFunc .nilFunc).run Try.prog w = .ok true w := by
  rw [Op.equalIn]
  simp [Sem.run_bind, run_underlying hu]
theorem eql_func {t : TypeId} {a b : Array TypeId} {c : Bool} (hu : Try.prog.underlying t = some (.func a b c)) (fn : Fn) (first cap : Array Value) (w : World) : (binOp .eql t (.func fn first cap) .nilFunc).run Try.prog w = .ok (.bool false) w := by
  have e := eqIn_func 9999 hu fn first cap w
  simp only [binOp]
  simp [Op.equal, Op.maxDepth, e]
theorem eql_nil {t : TypeId} {a b : Array TypeId} {c : Bool} (hu : Try.prog.underlying t = some (.func a b c)) (w : World) : (binOp .eql t .nilFunc .nilFunc).run Try.prog w = .ok (.bool true) w := by
  have e := eqIn_nil 9999 hu w
  simp only [binOp]
  simp [Op.equal, Op.maxDepth, e]
theorem neq_func {t : TypeId} {a b : Array TypeId} {c : Bool} (hu : Try.prog.underlying t = some (.func a b c)) (fn : Fn) (first cap : Array Value) (w : World) : (binOp .neq t (.func fn first cap) .nilFunc).run Try.prog w = .ok (.bool true) w := by
  simp only [binOp]
  simp [Op.equal, Op.maxDepth, eqIn_func 9999 hu]
theorem neq_nil {t : TypeId} {a b : Array TypeId} {c : Bool} (hu : Try.prog.underlying t = some (.func a b c)) (w : World) : (binOp .neq t .nilFunc .nilFunc).run Try.prog w = .ok (.bool false) w := by
  simp only [binOp]
  simp [Op.equal, Op.maxDepth, eqIn_nil 9999 hu]
def Tells (pc words el : Int) (f : Nat) (R : RuleL) : Prop := Ent f ∧ ∀ (w : World) (p g cap : Nat) (ids : List Nat) (l : List Opr) (k : Nat), rightB pc words el l = true → LG w p g cap ids l → k < l.length → Calls Try.prog f #[ptr p 0, vI k] w (Told R w p g cap ids l k)
def allR (rs : List (Nat × RuleL)) : RuleL := fun l k => rs.findSome? fun (r : Nat × RuleL) => r.2 l k
/-- A row of rules. -/
def Rls (w : World) (rg : Nat) (rs : List (Nat × RuleL)) : Prop := w.heap[rg]? = some (.cells (rs.map fun r => Value.func (.func r.1) #[] #[]).toArray 92)
theorem Rls.grow {w w' : World} {rg : Nat} {rs : List (Nat × RuleL)} (h : Rls w rg rs) (hb : Below w.heap.size w w') : Rls w' rg rs := by unfold Rls; rw [hb.block _ (lt_of_some h)]; exact h
theorem Rls.cell {w : World} {rg : Nat} {rs : List (Nat × RuleL)} (h : Rls w rg rs) {i : Nat} {r : Nat × RuleL} (hi : rs[i]? = some r) : w.cell? ⟨rg, i, none⟩ = some (.func (.func r.1) #[] #[]) := by
  rw [cell_of_row _ _ _ _ _ _ h]
  simp [hi]
theorem stepL_none {R : RuleL} {l : List Opr} (h : ∀ k, k < l.length → R l k = none) : stepL R l = none := by
  unfold stepL
  rw [List.findSome?_eq_none_iff]
  intro k hk
  exact h k (List.mem_range.1 hk)
theorem findSome_at {β : Type} {f : Nat → Option β} : ∀ {xs : List Nat} {k : Nat} {x : Nat} {v : β}, xs[k]? = some x → f x = some v → (∀ i y, i < k → xs[i]? = some y → f y = none) → xs.findSome? f = some v
  | [], k, x, v, h, _, _ => by cases h
  | y :: t, 0, x, v, h, hv, _ => by cases h; rw [List.findSome?_cons, hv]
  | y :: t, k + 1, x, v, h, hv, hn => by
    rw [List.findSome?_cons, hn 0 y (by omega) rfl]
    exact findSome_at (xs := t) (k := k) h hv (fun i z hi hz => hn (i + 1) z (by omega) hz)
theorem stepL_some {R : RuleL} {l l' : List Opr} {k : Nat} (hk : k < l.length) (h : R l k = some l') (hn : ∀ i, i < k → R l i = none) : stepL R l = some l' := by
  unfold stepL
  refine findSome_at (k := k) (x := k) (List.getElem?_range hk) h (fun i y hi hy => ?_)
  rw [List.getElem?_range (by omega)] at hy
  cases hy
  exact hn i hi
theorem allR_none {rs : List (Nat × RuleL)} {l : List Opr} {k : Nat} (h : ∀ (i : Nat) (r : Nat × RuleL), rs[i]? = some r → r.2 l k = none) : allR rs l k = none := by
  unfold allR
  rw [List.findSome?_eq_none_iff]
  intro r hr
  obtain ⟨i, hi⟩ := List.getElem?_of_mem hr
  exact h i r hi
theorem findSome_at2 {α β : Type} {f : α → Option β} : ∀ {xs : List α} {k : Nat} {x : α} {v : β}, xs[k]? = some x → f x = some v → (∀ i y, i < k → xs[i]? = some y → f y = none) → xs.findSome? f = some v
  | [], k, x, v, h, _, _ => by cases h
  | y :: t, 0, x, v, h, hv, _ => by cases h; rw [List.findSome?_cons, hv]
  | y :: t, k + 1, x, v, h, hv, hn => by
    rw [List.findSome?_cons, hn 0 y (by omega) rfl]
    exact findSome_at2 (xs := t) (k := k) h hv (fun i z hi hz => hn (i + 1) z (by omega) hz)
theorem allR_some {rs : List (Nat × RuleL)} {l l' : List Opr} {k i : Nat} {r : Nat × RuleL} (hi : rs[i]? = some r) (h : r.2 l k = some l') (hn : ∀ (j : Nat) (q : Nat × RuleL), j < i → rs[j]? = some q → q.2 l k = none) : allR rs l k = some l' := findSome_at2 hi h hn
section
variable {pc words el : Int} {l : List Opr} {ids : List Nat} {w : World} {p g cap rg : Nat} {rs : List (Nat × RuleL)}
set_option maxHeartbeats 4000000 in
theorem first_c (h : rightB pc words el l = true) (H : LG w p g cap ids l) (hr : Rls w rg rs) (hrs : ∀ r ∈ rs, Tells pc words el r.1 r.2) (hrl : rs.length ≤ 2) :
    Calls Try.prog 67 #[ptr p 0, .slice (some ⟨rg, 0, none⟩) rs.length rs.length] w fun e w' => Below w.heap.size w w' ∧ ∃ v, e = .returned v ∧ ((stepL (allR rs) l = none ∧ v = .nilFunc) ∨ ∃ l', stepL (allR rs) l = some l' ∧ DeedAt w' p g cap ids l' v) := by
  have hlen : Hid (ids.length = l.length) := H.gr.len
  have h512 := (right_lens h).2.1
  have z1 := H.ls.boxc
  have hf := fun (fn : Fn) (a b : Array Value) w => neq_func Try.underlying1 fn a b w
  have hn := fun w => neq_nil Try.underlying1 w
  go_enter Try.func67, Try.ntmps67
  go_wp2
  go_step3
  go_wp2
  go_step3
  go_upto_region 2 with fail
  simp only [hlen.out]
  go_loopw [4, 13] (fun s4 s13 wr => s4 = .nilFunc ∧ ∃ k : Nat, s13 = vI k ∧ k ≤ l.length ∧ (∀ i, i < k → allR rs l i = none) ∧ Below w.heap.size w wr) (fun _ s13 _ => ((l.length : Int) - intOf s13).toNat)
  case atStart => exact ⟨rfl, 0, rfl, Nat.zero_le _, fun i hi => absurd hi (by omega), Below.refl _ _⟩
  case round =>
    obtain ⟨rfl, k, rfl, hk, hno, B⟩ := hrel
    by_cases hlt : (k : Int) < l.length
    · have hkl : k < l.length := by omega
      go_upto_region 5 with fail
      go_loopw [4, 18] (fun s4 s18 wr => s4 = .nilFunc ∧ ∃ m : Nat, s18 = vI m ∧ m ≤ rs.length ∧ (∀ (i : Nat) (r : Nat × RuleL), i < m → rs[i]? = some r → r.2 l k = none) ∧ Below w.heap.size w wr) (fun _ s18 _ => ((rs.length : Int) - intOf s18).toNat)
      case atStart => exact ⟨rfl, 0, rfl, Nat.zero_le _, fun i _ hi => absurd hi (by omega), B⟩
      case round =>
        clear B
        obtain ⟨rfl, m, rfl, hm, hno2, B⟩ := hrel
        by_cases hlt2 : (m : Int) < rs.length
        · have hml : m < rs.length := by omega
          obtain ⟨r, hrm⟩ : ∃ r, rs[m]? = some r := ⟨_, List.getElem?_eq_getElem hml⟩
          replace hrm : Hid (rs[m]? = some r) := hrm
          have zc := (hr.grow B).cell hrm.out
          have hent := (hrs r (List.mem_of_getElem? hrm.out)).1
          have kt := (hrs r (List.mem_of_getElem? hrm.out)).2 _ _ _ _ _ _ k h (H.grow B) hkl
          unfold Ent at hent
          unfold Told at kt
          cases hR : r.2 l k with
          | none =>
            rw [hR] at kt
            go_wp2_with (first | ((refine kt.mono ?_); clear kt; rintro e w5 ⟨B5, v, rfl, hv⟩; (obtain rfl : v = .nilFunc := by rcases hv with hv | ⟨l', hv, _⟩; exact hv.2; cases hv); dsimp only))
            go_roundw
            case rel => exact ⟨rfl, m + 1, by go_num, by omega, fun i q hi hq => by
              rcases Nat.lt_or_ge i m with c | c
              · exact hno2 i q c hq
              · obtain rfl : i = m := by omega
                rw [hrm.out] at hq
                cases hq
                exact hR, below_then B (Nat.le_refl _) B5⟩
            case measure => simp [intOf]; omega
          | some l' =>
            rw [hR] at kt
            have hall : allR rs l k = some l' := allR_some hrm.out hR (fun j q hj hq => hno2 j q hj hq)
            have hst := stepL_some hkl hall hno
            go_wp2_with (first | ((refine kt.mono ?_); clear kt; rintro e w5 ⟨B5, v, rfl, hv⟩; (obtain ⟨f', cs', rfl, he, hd⟩ : DeedAt w5 p g cap ids l' v := by rcases hv with hv | ⟨l2, hv, hd⟩; cases hv.1; cases hv; exact hd); dsimp only))
            rw [Exit.noGoto_ret]
            go_ret
            exact ⟨below_then B (Nat.le_refl _) B5, _, rfl, .inr ⟨l', hst, f', cs', rfl, he, hd⟩⟩
        · obtain rfl : m = rs.length := by omega
          have hz : allR rs l k = none := allR_none fun i r hi => hno2 i r (List.getElem?_eq_some_iff.1 hi).1 hi
          go_wp2
          go_roundw
          case rel => exact ⟨rfl, k + 1, by go_num, by omega, fun i hi => by
            rcases Nat.lt_or_ge i k with c | c
            · exact hno i c
            · obtain rfl : i = k := by omega
              exact hz, B⟩
          case measure => simp [intOf]; omega
    · obtain rfl : k = l.length := by omega
      have hst := stepL_none hno
      go_wp2
      go_ret
      exact ⟨B, _, rfl, .inl ⟨hst, rfl⟩⟩
end
end Go.Proofs.Ytilbnjldfgofmaa
