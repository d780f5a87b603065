/- A core's state that came in: its fields. -/
import Derived.Test.YtdlnmjlgfjlmkaaFlat
import Derived.Test.YtdlnmjlgfjlmkaaExs
namespace Go.Proofs.Ytdlnmjlgfjlmkaa
open Go.ChangeShapes Go.WideShapes Go.ChangeAt Go.RowKit

theorem own : ownKnob Try.prog.godebug = none := by kernel_rfl
theorem cells26 : Try.prog.cellsOf 26 = 49 := by kernel_rfl
theorem cells23 : Try.prog.cellsOf 23 = 31 := by kernel_rfl
theorem cells24 : Try.prog.cellsOf 24 = 2 := by kernel_rfl
theorem cells3 : Try.prog.cellsOf 3 = 1 := by kernel_rfl
theorem cells4 : Try.prog.cellsOf 4 = 1 := by kernel_rfl
theorem flat22 (n : Nat) : flatT Try.prog n 22 = true := by cases n <;> simp [flatT, Try.underlying22]
theorem flat3 (n : Nat) : flatT Try.prog n 3 = true := by cases n <;> simp [flatT, Try.underlying3]
theorem flat4 (n : Nat) : flatT Try.prog n 4 = true := by cases n <;> simp [flatT, Try.underlying4]
theorem flat23 (n : Nat) : flatT Try.prog n 23 = true := by cases n <;> simp [flatT, Try.underlying23, flat22]
theorem flat24 (n : Nat) : flatT Try.prog n 24 = true := by cases n <;> simp [flatT, Try.underlying24, flat22]
theorem flat26 (n : Nat) : flatT Try.prog n 26 = true := by cases n <;> simp [flatT, Try.underlying26, flat22, flat3, flat4, flat23, flat24]
theorem u64_of {a : Int} (h : (Lit.int .u64 a).wf = true) : Hid (U64 a) := by
  have := bounds_u64 h
  exact ⟨this.1, by omega⟩
theorem take_one {α : Type} {l : List α} {k : Nat} {v : α} (h : (l.drop k).take 1 = [v]) : l[k]? = some v := by
  have := congrArg (fun l => l[0]?) h
  simpa [List.getElem?_take, List.getElem?_drop] using this
structure Cor.WF (c : Cor) : Prop where
  vbar : U64 c.vbar
  elr : U64 c.elr
  spsr : U64 c.spsr
  esr : U64 c.esr
  far : U64 c.far
  sp0 : U64 c.sp0
  tpidr : U64 c.tpidr
section
variable {H : Type} {enc : TypeId × Value → H} {W : World} {b0 : Nat} {spare : Nat → Bool} {held : Bool}
theorem arr_cells {n : Nat} {t : TypeId} (ht : Try.prog.underlying t = some (.array n 22)) {fuel : Nat} {cs : List Value} {x : DataW H × List MemPlace} (h : DataW.trod enc Try.prog W b0 spare held fuel t cs = some x) (i : Nat) (hi : i < n) :
    ∃ z, cs[i]? = some (vU z) ∧ U64 z := by
  obtain ⟨xs, m, -, -, -, hl, hq⟩ := DataW.trod_array ht h
  have q := hq i hi
  rw [List.getElem?_eq_getElem (by omega)] at q
  obtain ⟨z, e, -, wz⟩ := DataW.trod_int Try.underlying22 q
  rw [cells22, Nat.mul_one] at e
  exact ⟨z, take_one e, u64_of wz⟩
set_option maxHeartbeats 1000000 in
theorem open_core {r : Reach} {base : Nat} {v : Value} {d : DataW H} {p : List MemPlace} (hv : Value.okWide Try.prog W r base 26 v) (h : DataW.Trod enc Try.prog W b0 spare held 26 v d p) : ∃ c : Cor, v = c.val ∧ c.WF := by
  obtain ⟨cs, rfl, hsz⟩ := okWide_struct Try.underlying26 hv
  rw [cells26] at hsz
  obtain ⟨fuel, hf⟩ := h
  obtain ⟨xs, n, -, hx, -, hlen, hq⟩ := DataW.trod_struct Try.underlying26 hf
  have hlen : xs.length = 18 := hlen
  clear hf hv hx
  simp only [Value.cells] at hq
  have U : ∀ k z, cs.toList[k]? = some z → cs[k]? = some z := fun k z h => by rwa [Array.getElem?_toList] at h
  have q0 : DataW.trod enc Try.prog W b0 spare held n 23 ((cs.toList.drop 0).take 31) = some (xs[0]'(by omega)) := by
    rw [← List.getElem?_eq_getElem, ← cells23]; exact hq 0 _ rfl
  have q1 : DataW.trod enc Try.prog W b0 spare held n 24 ((cs.toList.drop 31).take 2) = some (xs[1]'(by omega)) := by
    rw [← List.getElem?_eq_getElem, ← cells24]; exact hq 1 _ rfl
  have q2 : DataW.trod enc Try.prog W b0 spare held n 22 ((cs.toList.drop 33).take 1) = some (xs[2]'(by omega)) := by
    rw [← List.getElem?_eq_getElem, ← cells22]; exact hq 2 _ rfl
  have q3 : DataW.trod enc Try.prog W b0 spare held n 4 ((cs.toList.drop 34).take 1) = some (xs[3]'(by omega)) := by
    rw [← List.getElem?_eq_getElem, ← cells4]; exact hq 3 _ rfl
  have q4 : DataW.trod enc Try.prog W b0 spare held n 4 ((cs.toList.drop 35).take 1) = some (xs[4]'(by omega)) := by
    rw [← List.getElem?_eq_getElem, ← cells4]; exact hq 4 _ rfl
  have q5 : DataW.trod enc Try.prog W b0 spare held n 4 ((cs.toList.drop 36).take 1) = some (xs[5]'(by omega)) := by
    rw [← List.getElem?_eq_getElem, ← cells4]; exact hq 5 _ rfl
  have q6 : DataW.trod enc Try.prog W b0 spare held n 4 ((cs.toList.drop 37).take 1) = some (xs[6]'(by omega)) := by
    rw [← List.getElem?_eq_getElem, ← cells4]; exact hq 6 _ rfl
  have q7 : DataW.trod enc Try.prog W b0 spare held n 3 ((cs.toList.drop 38).take 1) = some (xs[7]'(by omega)) := by
    rw [← List.getElem?_eq_getElem, ← cells3]; exact hq 7 _ rfl
  have q8 : DataW.trod enc Try.prog W b0 spare held n 4 ((cs.toList.drop 39).take 1) = some (xs[8]'(by omega)) := by
    rw [← List.getElem?_eq_getElem, ← cells4]; exact hq 8 _ rfl
  have q9 : DataW.trod enc Try.prog W b0 spare held n 22 ((cs.toList.drop 40).take 1) = some (xs[9]'(by omega)) := by
    rw [← List.getElem?_eq_getElem, ← cells22]; exact hq 9 _ rfl
  have q10 : DataW.trod enc Try.prog W b0 spare held n 22 ((cs.toList.drop 41).take 1) = some (xs[10]'(by omega)) := by
    rw [← List.getElem?_eq_getElem, ← cells22]; exact hq 10 _ rfl
  have q11 : DataW.trod enc Try.prog W b0 spare held n 22 ((cs.toList.drop 42).take 1) = some (xs[11]'(by omega)) := by
    rw [← List.getElem?_eq_getElem, ← cells22]; exact hq 11 _ rfl
  have q12 : DataW.trod enc Try.prog W b0 spare held n 22 ((cs.toList.drop 43).take 1) = some (xs[12]'(by omega)) := by
    rw [← List.getElem?_eq_getElem, ← cells22]; exact hq 12 _ rfl
  have q13 : DataW.trod enc Try.prog W b0 spare held n 22 ((cs.toList.drop 44).take 1) = some (xs[13]'(by omega)) := by
    rw [← List.getElem?_eq_getElem, ← cells22]; exact hq 13 _ rfl
  have q14 : DataW.trod enc Try.prog W b0 spare held n 22 ((cs.toList.drop 45).take 1) = some (xs[14]'(by omega)) := by
    rw [← List.getElem?_eq_getElem, ← cells22]; exact hq 14 _ rfl
  have q15 : DataW.trod enc Try.prog W b0 spare held n 3 ((cs.toList.drop 46).take 1) = some (xs[15]'(by omega)) := by
    rw [← List.getElem?_eq_getElem, ← cells3]; exact hq 15 _ rfl
  have q16 : DataW.trod enc Try.prog W b0 spare held n 3 ((cs.toList.drop 47).take 1) = some (xs[16]'(by omega)) := by
    rw [← List.getElem?_eq_getElem, ← cells3]; exact hq 16 _ rfl
  have q17 : DataW.trod enc Try.prog W b0 spare held n 4 ((cs.toList.drop 48).take 1) = some (xs[17]'(by omega)) := by
    rw [← List.getElem?_eq_getElem, ← cells4]; exact hq 17 _ rfl
  clear hq
  have X : ∀ i, i < 31 → ∃ z, cs[i]? = some (vU z) := fun i hi => by
    obtain ⟨z, e, -⟩ := arr_cells Try.underlying23 q0 i hi
    exact ⟨z, U _ _ (by simpa [List.getElem?_take, hi] using e)⟩
  obtain ⟨sp0, e31, wsp0⟩ : ∃ z, cs[31]? = some (vU z) ∧ U64 z := by
    obtain ⟨z, e, wz⟩ := arr_cells Try.underlying24 q1 0 (by decide)
    exact ⟨z, U _ _ (by simpa [List.getElem?_take, List.getElem?_drop] using e), wz⟩
  obtain ⟨sp1, e32⟩ : ∃ z, cs[32]? = some (vU z) := by
    obtain ⟨z, e, -⟩ := arr_cells Try.underlying24 q1 1 (by decide)
    exact ⟨z, U _ _ (by simpa [List.getElem?_take, List.getElem?_drop] using e)⟩
  obtain ⟨a2, e33, -, -⟩ := DataW.trod_int Try.underlying22 q2
  replace e33 := U _ _ (take_one e33)
  obtain ⟨a3, e34, -⟩ := DataW.trod_bool Try.underlying4 q3
  replace e34 := U _ _ (take_one e34)
  obtain ⟨a4, e35, -⟩ := DataW.trod_bool Try.underlying4 q4
  replace e35 := U _ _ (take_one e35)
  obtain ⟨a5, e36, -⟩ := DataW.trod_bool Try.underlying4 q5
  replace e36 := U _ _ (take_one e36)
  obtain ⟨a6, e37, -⟩ := DataW.trod_bool Try.underlying4 q6
  replace e37 := U _ _ (take_one e37)
  obtain ⟨a7, e38, -, -⟩ := DataW.trod_int Try.underlying3 q7
  replace e38 := U _ _ (take_one e38)
  obtain ⟨a8, e39, -⟩ := DataW.trod_bool Try.underlying4 q8
  replace e39 := U _ _ (take_one e39)
  obtain ⟨a9, e40, -, ww9⟩ := DataW.trod_int Try.underlying22 q9
  replace e40 := U _ _ (take_one e40)
  obtain ⟨a10, e41, -, ww10⟩ := DataW.trod_int Try.underlying22 q10
  replace e41 := U _ _ (take_one e41)
  obtain ⟨a11, e42, -, ww11⟩ := DataW.trod_int Try.underlying22 q11
  replace e42 := U _ _ (take_one e42)
  obtain ⟨a12, e43, -, ww12⟩ := DataW.trod_int Try.underlying22 q12
  replace e43 := U _ _ (take_one e43)
  obtain ⟨a13, e44, -, ww13⟩ := DataW.trod_int Try.underlying22 q13
  replace e44 := U _ _ (take_one e44)
  obtain ⟨a14, e45, -, ww14⟩ := DataW.trod_int Try.underlying22 q14
  replace e45 := U _ _ (take_one e45)
  obtain ⟨a15, e46, -, -⟩ := DataW.trod_int Try.underlying3 q15
  replace e46 := U _ _ (take_one e46)
  obtain ⟨a16, e47, -, -⟩ := DataW.trod_int Try.underlying3 q16
  replace e47 := U _ _ (take_one e47)
  obtain ⟨a17, e48, -⟩ := DataW.trod_bool Try.underlying4 q17
  replace e48 := U _ _ (take_one e48)
  clear q0 q1
  have X' : ∀ i : Nat, ∃ z, i < 31 → cs[i]? = some (vU z) := fun i => by
    by_cases hi : i < 31
    · obtain ⟨z, e⟩ := X i hi; exact ⟨z, fun _ => e⟩
    · exact ⟨0, fun h => absurd h hi⟩
  obtain ⟨f, hf⟩ := Classical.skolem.1 X'
  refine ⟨⟨Vector.ofFn (fun i => f i), sp0, sp1, a2, a3, a4, a5, a6, a7, a8, a9, a10, a11, a12, a13, a14, a15, a16, a17⟩, ?_, ⟨u64_of ww13, u64_of ww10, u64_of ww9, u64_of ww11, u64_of ww12, wsp0, u64_of ww14⟩⟩
  show Value.agg cs = Value.agg _
  congr 1
  apply Array.ext_getElem?
  intro k
  by_cases hk : k < 31
  · rw [hf k hk, Cor.atX _ k hk]; simp
  · by_cases h2 : k < 49
    · have : k = 31 ∨ k = 32 ∨ k = 33 ∨ k = 34 ∨ k = 35 ∨ k = 36 ∨ k = 37 ∨ k = 38 ∨ k = 39 ∨ k = 40 ∨ k = 41 ∨ k = 42 ∨ k = 43 ∨ k = 44 ∨ k = 45 ∨ k = 46 ∨ k = 47 ∨ k = 48 := by omega
      rcases this with rfl | rfl | rfl | rfl | rfl | rfl | rfl | rfl | rfl | rfl | rfl | rfl | rfl | rfl | rfl | rfl | rfl | rfl
      · rw [e31, Cor.a31]
      · rw [e32, Cor.a32]
      · rw [e33, Cor.a33]
      · rw [e34, Cor.a34]
      · rw [e35, Cor.a35]
      · rw [e36, Cor.a36]
      · rw [e37, Cor.a37]
      · rw [e38, Cor.a38]
      · rw [e39, Cor.a39]
      · rw [e40, Cor.a40]
      · rw [e41, Cor.a41]
      · rw [e42, Cor.a42]
      · rw [e43, Cor.a43]
      · rw [e44, Cor.a44]
      · rw [e45, Cor.a45]
      · rw [e46, Cor.a46]
      · rw [e47, Cor.a47]
      · rw [e48, Cor.a48]
    · rw [Array.getElem?_eq_none (by omega), Array.getElem?_eq_none (by rw [Cor.size]; omega)]
end
end Go.Proofs.Ytdlnmjlgfjlmkaa
