/- Items as operations again: rows. -/
import Derived.Test.YtilbnjldfgofmaaZt
import Derived.Test.YtilbnjldfgofmaaJo
namespace Go.Proofs.Ytilbnjldfgofmaa
open Go.RowKit
set_option linter.unusedVariables false
set_option linter.unusedSimpArgs false
set_option maxRecDepth 8000

theorem opF_app (A B : List Opr) : opF (A ++ B) = opF A ++ opF B := by unfold opF; exact List.flatMap_append
theorem opF_one (o : Opr) : opF [o] = (opA o).toList := by unfold opF; simp only [List.flatMap_cons, List.flatMap_nil, List.append_nil]
theorem opF_set {L : List Opr} {k : Nat} (h : k < L.length) (o : Opr) : layC (opF L).toArray k o = (opF (L.set k o)).toArray := by
  unfold layC
  congr 1
  have e : L = L.take k ++ [L[k]] ++ L.drop (k + 1) := by simp
  have e2 : L.set k o = L.take k ++ [o] ++ L.drop (k + 1) := by
    rw [List.set_eq_take_append_cons_drop, if_pos h]; simp
  have l1 : (opF (L.take k)).length = k * 6 := by rw [opF_len, List.length_take, Nat.min_eq_left (by omega)]
  have eF : opF L = opF (L.take k) ++ ((opA L[k]).toList ++ opF (L.drop (k + 1))) := by
    rw [← opF_one, ← opF_app, ← opF_app, ← List.append_assoc]
    exact congrArg opF e
  have eG : opF (L.set k o) = opF (L.take k) ++ ((opA o).toList ++ opF (L.drop (k + 1))) := by
    rw [← opF_one, ← opF_app, ← opF_app, ← List.append_assoc]
    exact congrArg opF e2
  rw [eG]
  show (opF L).take (k * 6) ++ _ ++ (opF L).drop (k * 6 + 6) = _
  rw [eF, List.take_append_of_le_length (by omega), List.take_of_length_le (by omega), List.drop_append, List.drop_of_length_le (by omega), show k * 6 + 6 - (opF (L.take k)).length = 6 by omega, List.nil_append, List.drop_append_of_le_length (by show 6 ≤ 6; omega), List.append_assoc]
  rfl
theorem opF_setA {L : List Opr} {k : Nat} (h : k < L.length) (x : Int) : (opF L).toArray.setIfInBounds (k * 6 + 2) (vI x) = (opF (L.set k { opAt L k with a := x })).toArray := by
  have := opF_set h { opAt L k with a := x }
  rw [← this]
  unfold layC
  apply Array.ext_getElem?
  intro i
  have hl : (opF L).length = L.length * 6 := opF_len L
  have hk := fun j hj => opF_get (opAt_some h) j hj
  rw [Array.getElem?_setIfInBounds, List.getElem?_toArray, List.getElem?_toArray, List.append_assoc, List.size_toArray, hl]
  have ht : ((opF L).toArray.toList.take (k * 6)).length = k * 6 := by rw [List.length_take]; show min _ (opF L).length = _; omega
  by_cases q1 : i < k * 6
  · rw [if_neg (by omega), List.getElem?_append_left (by omega), List.getElem?_take, if_pos q1]
  · rw [List.getElem?_append_right (by omega), ht]
    by_cases q2 : i < k * 6 + 6
    · obtain ⟨j, rfl⟩ : ∃ j, i = k * 6 + j := ⟨i - k * 6, by omega⟩
      have hj : j < 6 := by omega
      rw [show k * 6 + j - k * 6 = j by omega, List.getElem?_append_left (by show j < 6; omega), hk j hj]
      match j, hj with
      | 0, _ => rw [if_neg (by omega)]; rfl
      | 1, _ => rw [if_neg (by omega)]; rfl
      | 2, _ => rw [if_pos rfl, if_pos (by omega)]; rfl
      | 3, _ => rw [if_neg (by omega)]; rfl
      | 4, _ => rw [if_neg (by omega)]; rfl
      | 5, _ => rw [if_neg (by omega)]; rfl
    · rw [if_neg (by omega), List.getElem?_append_right (by show 6 ≤ _; omega), List.getElem?_drop]
      congr 1
      show i = k * 6 + 6 + (i - k * 6 - 6)
      omega
theorem opF_setB {L : List Opr} {k : Nat} (h : k < L.length) (x : Int) : (opF L).toArray.setIfInBounds (k * 6 + 3) (vI x) = (opF (L.set k { opAt L k with b := x })).toArray := by
  have := opF_set h { opAt L k with b := x }
  rw [← this]
  unfold layC
  apply Array.ext_getElem?
  intro i
  have hl : (opF L).length = L.length * 6 := opF_len L
  have hk := fun j hj => opF_get (opAt_some h) j hj
  rw [Array.getElem?_setIfInBounds, List.getElem?_toArray, List.getElem?_toArray, List.append_assoc, List.size_toArray, hl]
  have ht : ((opF L).toArray.toList.take (k * 6)).length = k * 6 := by rw [List.length_take]; show min _ (opF L).length = _; omega
  by_cases q1 : i < k * 6
  · rw [if_neg (by omega), List.getElem?_append_left (by omega), List.getElem?_take, if_pos q1]
  · rw [List.getElem?_append_right (by omega), ht]
    by_cases q2 : i < k * 6 + 6
    · obtain ⟨j, rfl⟩ : ∃ j, i = k * 6 + j := ⟨i - k * 6, by omega⟩
      have hj : j < 6 := by omega
      rw [show k * 6 + j - k * 6 = j by omega, List.getElem?_append_left (by show j < 6; omega), hk j hj]
      match j, hj with
      | 0, _ => rw [if_neg (by omega)]; rfl
      | 1, _ => rw [if_neg (by omega)]; rfl
      | 2, _ => rw [if_neg (by omega)]; rfl
      | 3, _ => rw [if_pos rfl, if_pos (by omega)]; rfl
      | 4, _ => rw [if_neg (by omega)]; rfl
      | 5, _ => rw [if_neg (by omega)]; rfl
    · rw [if_neg (by omega), List.getElem?_append_right (by show 6 ≤ _; omega), List.getElem?_drop]
      congr 1
      show i = k * 6 + 6 + (i - k * 6 - 6)
      omega
theorem opF_at {L : List Opr} {k : Nat} (h : k < L.length) {j : Nat} (hj : j < 6) : (opF L).toArray[k * 6 + j]? = (opA (opAt L k))[j]? := by
  rw [List.getElem?_toArray]
  exact opF_get (opAt_some h) j hj
theorem made_get (z : Array Value) (n i : Nat) (h : i < (madeCells z n).size) : (madeCells z n)[i] = z[i % z.size]! := by simp [madeCells]
theorem made_O (n : Nat) : madeCells (opA nilO) (n * 6) = (opF (List.replicate n nilO)).toArray := by
  have hl : (opF (List.replicate n nilO)).length = n * 6 := by rw [opF_len, List.length_replicate]
  apply Array.ext
  · rw [size_madeCells, List.size_toArray, hl]
  · intro i h1 h2
    rw [size_madeCells] at h1
    obtain ⟨k, j, hj, rfl⟩ : ∃ k j, j < 6 ∧ i = k * 6 + j := ⟨i / 6, i % 6, Nat.mod_lt _ (by decide), by omega⟩
    have hk : k < (List.replicate n nilO).length := by rw [List.length_replicate]; omega
    have e : opAt (List.replicate n nilO) k = nilO := opAt_of (by rw [List.getElem?_replicate, if_pos (by omega)])
    have hg := opF_get (opAt_some hk) j hj
    rw [e] at hg
    have h3 : (opF (List.replicate n nilO))[k * 6 + j]'(by omega) = (opA nilO)[j]'(by show j < 6; omega) := by
      rw [List.getElem?_eq_getElem (by omega), Array.getElem?_eq_getElem (by show j < 6; omega)] at hg
      exact Option.some.inj hg
    have hm : (k * 6 + j) % (opA nilO).size = j := by show (k * 6 + j) % 6 = j; omega
    rw [made_get, List.getElem_toArray, h3, hm]
    clear hm h3 hg
    match j, hj with
    | 0, _ => rfl
    | 1, _ => rfl
    | 2, _ => rfl
    | 3, _ => rfl
    | 4, _ => rfl
    | 5, _ => rfl
theorem run_mkO (w : World) (n : Nat) (hn : n ≤ 512) : (Instr.makeSlice 23 (vI n) (vI n)).run Try.prog w = .ok (.slice (some ⟨w.heap.size, 0, none⟩) n n) (w.alloc (.cells (opF (List.replicate n nilO)).toArray 40)) := by
  obtain ⟨i, h1, h2, h3, h4⟩ := info_parts info42
  have hr := run_makeSlice (P := Try.prog) w 23 40 i (opV nilO) Try.underlying23 h1 h2 .i64 .i64 n n (by omega) (by omega) (by rw [h3, Int.toNat_natCast]; omega) (by rw [h4]; omega) (by omega)
  rw [Int.toNat_natCast, h3] at hr
  rw [← made_O]
  exact hr
theorem wpList_mkO {ops : Array Oper} {rest : List Oper} {o : Oper} {a : Act} {w : World} {Q : Exit → Act → World → Prop} (hg : o.guard = none) (x : Operand) (ho : o.op = .makeSlice 23 x x) {n : Nat} (hn : n ≤ 512) (hx : a.eval x = vI n)
    (h : wpList Try.prog ops Q rest (a.put o.dst (.slice (some ⟨w.heap.size, 0, none⟩) n n)) (w.alloc (.cells (opF (List.replicate n nilO)).toArray 40))) : wpList Try.prog ops Q (o :: rest) a w :=
  wpList_plain hg fun _ hK => by
    unfold Oper.wp execOp
    simp only [ho, hx, Sem.run_bind, Sem.run_pure, run_mkO w n hn, Result.andThen_ok]
    exact hK _ _ h
end Go.Proofs.Ytilbnjldfgofmaa
