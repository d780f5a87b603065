/- Every form of the table is a good one; where it lies; what Decode and Encode answer: plain. -/
import Derived.Test.YtcmilajlngnibaaForms
import Derived.Test.YtcmilajlngnibaaRight
namespace Go.Proofs.Ytcmilajlngnibaa
open Go.RowKit

structure Good (F : Fm) : Prop where
  fc : FC F.f F.t
  ok : OkT F.t
  enters : ∀ (args : Array Value) (w : World), (callFunc F.f args).run Try.prog w = .ok (.enter F.f args) w
  op : I64 F.op
  sub : I64 F.sub
  mask : W32 F.mask
  base : W32 F.base
theorem good0 : Good fm0 := ⟨addImm_c, addImm_ok, fun _ _ => rfl, ⟨by decide, by decide⟩, ⟨by decide, by decide⟩, ⟨by decide, by decide⟩, ⟨by decide, by decide⟩⟩
theorem good1 : Good fm1 := ⟨addReg_c, addReg_ok, fun _ _ => rfl, ⟨by decide, by decide⟩, ⟨by decide, by decide⟩, ⟨by decide, by decide⟩, ⟨by decide, by decide⟩⟩
theorem good2 : Good fm2 := ⟨logReg_c, logReg_ok, fun _ _ => rfl, ⟨by decide, by decide⟩, ⟨by decide, by decide⟩, ⟨by decide, by decide⟩, ⟨by decide, by decide⟩⟩
theorem good3 : Good fm3 := ⟨logImm_c, logImm_ok, fun _ _ => rfl, ⟨by decide, by decide⟩, ⟨by decide, by decide⟩, ⟨by decide, by decide⟩, ⟨by decide, by decide⟩⟩
theorem good4 : Good fm4 := ⟨movWide_c, movWide_ok, fun _ _ => rfl, ⟨by decide, by decide⟩, ⟨by decide, by decide⟩, ⟨by decide, by decide⟩, ⟨by decide, by decide⟩⟩
theorem good5 : Good fm5 := ⟨bitfield_c, bitfield_ok, fun _ _ => rfl, ⟨by decide, by decide⟩, ⟨by decide, by decide⟩, ⟨by decide, by decide⟩, ⟨by decide, by decide⟩⟩
theorem good6 : Good fm6 := ⟨shiftReg_c, shiftReg_ok, fun _ _ => rfl, ⟨by decide, by decide⟩, ⟨by decide, by decide⟩, ⟨by decide, by decide⟩, ⟨by decide, by decide⟩⟩
theorem good7 : Good fm7 := ⟨mul_c, mul_ok, fun _ _ => rfl, ⟨by decide, by decide⟩, ⟨by decide, by decide⟩, ⟨by decide, by decide⟩, ⟨by decide, by decide⟩⟩
theorem good8 : Good fm8 := ⟨div_c, div_ok, fun _ _ => rfl, ⟨by decide, by decide⟩, ⟨by decide, by decide⟩, ⟨by decide, by decide⟩, ⟨by decide, by decide⟩⟩
theorem good9 : Good fm9 := ⟨sel_c, sel_ok, fun _ _ => rfl, ⟨by decide, by decide⟩, ⟨by decide, by decide⟩, ⟨by decide, by decide⟩, ⟨by decide, by decide⟩⟩
theorem good10 : Good fm10 := ⟨adr_c, adr_ok, fun _ _ => rfl, ⟨by decide, by decide⟩, ⟨by decide, by decide⟩, ⟨by decide, by decide⟩, ⟨by decide, by decide⟩⟩
theorem good11 : Good fm11 := ⟨b_c, b_ok, fun _ _ => rfl, ⟨by decide, by decide⟩, ⟨by decide, by decide⟩, ⟨by decide, by decide⟩, ⟨by decide, by decide⟩⟩
theorem good12 : Good fm12 := ⟨bCond_c, bCond_ok, fun _ _ => rfl, ⟨by decide, by decide⟩, ⟨by decide, by decide⟩, ⟨by decide, by decide⟩, ⟨by decide, by decide⟩⟩
theorem good13 : Good fm13 := ⟨cbz_c, cbz_ok, fun _ _ => rfl, ⟨by decide, by decide⟩, ⟨by decide, by decide⟩, ⟨by decide, by decide⟩, ⟨by decide, by decide⟩⟩
theorem good14 : Good fm14 := ⟨tbz_c, tbz_ok, fun _ _ => rfl, ⟨by decide, by decide⟩, ⟨by decide, by decide⟩, ⟨by decide, by decide⟩, ⟨by decide, by decide⟩⟩
theorem good15 : Good fm15 := ⟨br_c, br_ok, fun _ _ => rfl, ⟨by decide, by decide⟩, ⟨by decide, by decide⟩, ⟨by decide, by decide⟩, ⟨by decide, by decide⟩⟩
theorem good16 : Good fm16 := ⟨atImm_c, atImm_ok, fun _ _ => rfl, ⟨by decide, by decide⟩, ⟨by decide, by decide⟩, ⟨by decide, by decide⟩, ⟨by decide, by decide⟩⟩
theorem good17 : Good fm17 := ⟨atImm_c, atImm_ok, fun _ _ => rfl, ⟨by decide, by decide⟩, ⟨by decide, by decide⟩, ⟨by decide, by decide⟩, ⟨by decide, by decide⟩⟩
theorem good18 : Good fm18 := ⟨atReg_c, atReg_ok, fun _ _ => rfl, ⟨by decide, by decide⟩, ⟨by decide, by decide⟩, ⟨by decide, by decide⟩, ⟨by decide, by decide⟩⟩
theorem good19 : Good fm19 := ⟨atReg_c, atReg_ok, fun _ _ => rfl, ⟨by decide, by decide⟩, ⟨by decide, by decide⟩, ⟨by decide, by decide⟩, ⟨by decide, by decide⟩⟩
theorem good20 : Good fm20 := ⟨rdRn_c, rdRn_ok, fun _ _ => rfl, ⟨by decide, by decide⟩, ⟨by decide, by decide⟩, ⟨by decide, by decide⟩, ⟨by decide, by decide⟩⟩
theorem good21 : Good fm21 := ⟨rdRn_c, rdRn_ok, fun _ _ => rfl, ⟨by decide, by decide⟩, ⟨by decide, by decide⟩, ⟨by decide, by decide⟩, ⟨by decide, by decide⟩⟩
theorem good22 : Good fm22 := ⟨rdRn_c, rdRn_ok, fun _ _ => rfl, ⟨by decide, by decide⟩, ⟨by decide, by decide⟩, ⟨by decide, by decide⟩, ⟨by decide, by decide⟩⟩
theorem good23 : Good fm23 := ⟨ldxr_c, ldxr_ok, fun _ _ => rfl, ⟨by decide, by decide⟩, ⟨by decide, by decide⟩, ⟨by decide, by decide⟩, ⟨by decide, by decide⟩⟩
theorem good24 : Good fm24 := ⟨stxr_c, stxr_ok, fun _ _ => rfl, ⟨by decide, by decide⟩, ⟨by decide, by decide⟩, ⟨by decide, by decide⟩, ⟨by decide, by decide⟩⟩
theorem good25 : Good fm25 := ⟨nothing_c, nothing_ok, fun _ _ => rfl, ⟨by decide, by decide⟩, ⟨by decide, by decide⟩, ⟨by decide, by decide⟩, ⟨by decide, by decide⟩⟩
theorem good26 : Good fm26 := ⟨dmb_c, dmb_ok, fun _ _ => rfl, ⟨by decide, by decide⟩, ⟨by decide, by decide⟩, ⟨by decide, by decide⟩, ⟨by decide, by decide⟩⟩
theorem good27 : Good fm27 := ⟨dmb_c, dmb_ok, fun _ _ => rfl, ⟨by decide, by decide⟩, ⟨by decide, by decide⟩, ⟨by decide, by decide⟩, ⟨by decide, by decide⟩⟩
theorem good28 : Good fm28 := ⟨nothing_c, nothing_ok, fun _ _ => rfl, ⟨by decide, by decide⟩, ⟨by decide, by decide⟩, ⟨by decide, by decide⟩, ⟨by decide, by decide⟩⟩
theorem good29 : Good fm29 := ⟨rd_c, rd_ok, fun _ _ => rfl, ⟨by decide, by decide⟩, ⟨by decide, by decide⟩, ⟨by decide, by decide⟩, ⟨by decide, by decide⟩⟩
theorem good30 : Good fm30 := ⟨rd_c, rd_ok, fun _ _ => rfl, ⟨by decide, by decide⟩, ⟨by decide, by decide⟩, ⟨by decide, by decide⟩, ⟨by decide, by decide⟩⟩
theorem good31 : Good fm31 := ⟨nothing_c, nothing_ok, fun _ _ => rfl, ⟨by decide, by decide⟩, ⟨by decide, by decide⟩, ⟨by decide, by decide⟩, ⟨by decide, by decide⟩⟩
theorem good32 : Good fm32 := ⟨system_c, system_ok, fun _ _ => rfl, ⟨by decide, by decide⟩, ⟨by decide, by decide⟩, ⟨by decide, by decide⟩, ⟨by decide, by decide⟩⟩
theorem good33 : Good fm33 := ⟨system_c, system_ok, fun _ _ => rfl, ⟨by decide, by decide⟩, ⟨by decide, by decide⟩, ⟨by decide, by decide⟩, ⟨by decide, by decide⟩⟩
theorem good34 : Good fm34 := ⟨msrMask_c, msrMask_ok, fun _ _ => rfl, ⟨by decide, by decide⟩, ⟨by decide, by decide⟩, ⟨by decide, by decide⟩, ⟨by decide, by decide⟩⟩
theorem good35 : Good fm35 := ⟨msrMask_c, msrMask_ok, fun _ _ => rfl, ⟨by decide, by decide⟩, ⟨by decide, by decide⟩, ⟨by decide, by decide⟩, ⟨by decide, by decide⟩⟩
theorem good36 : Good fm36 := ⟨call_c, call_ok, fun _ _ => rfl, ⟨by decide, by decide⟩, ⟨by decide, by decide⟩, ⟨by decide, by decide⟩, ⟨by decide, by decide⟩⟩
theorem good37 : Good fm37 := ⟨call_c, call_ok, fun _ _ => rfl, ⟨by decide, by decide⟩, ⟨by decide, by decide⟩, ⟨by decide, by decide⟩, ⟨by decide, by decide⟩⟩
theorem good38 : Good fm38 := ⟨nothing_c, nothing_ok, fun _ _ => rfl, ⟨by decide, by decide⟩, ⟨by decide, by decide⟩, ⟨by decide, by decide⟩, ⟨by decide, by decide⟩⟩
theorem good39 : Good fm39 := ⟨hint_c, hint_ok, fun _ _ => rfl, ⟨by decide, by decide⟩, ⟨by decide, by decide⟩, ⟨by decide, by decide⟩, ⟨by decide, by decide⟩⟩
theorem good_all : ∀ F ∈ forms, Good F := by
  intro F h
  simp only [forms, formsA, formsB, List.cons_append, List.nil_append, List.mem_cons, List.not_mem_nil, or_false] at h
  rcases h with rfl | rfl | rfl | rfl | rfl | rfl | rfl | rfl | rfl | rfl | rfl | rfl | rfl | rfl | rfl | rfl | rfl | rfl | rfl | rfl | rfl | rfl | rfl | rfl | rfl | rfl | rfl | rfl | rfl | rfl | rfl | rfl | rfl | rfl | rfl | rfl | rfl | rfl | rfl | rfl
  · exact good0
  · exact good1
  · exact good2
  · exact good3
  · exact good4
  · exact good5
  · exact good6
  · exact good7
  · exact good8
  · exact good9
  · exact good10
  · exact good11
  · exact good12
  · exact good13
  · exact good14
  · exact good15
  · exact good16
  · exact good17
  · exact good18
  · exact good19
  · exact good20
  · exact good21
  · exact good22
  · exact good23
  · exact good24
  · exact good25
  · exact good26
  · exact good27
  · exact good28
  · exact good29
  · exact good30
  · exact good31
  · exact good32
  · exact good33
  · exact good34
  · exact good35
  · exact good36
  · exact good37
  · exact good38
  · exact good39
theorem flat_at : ∀ (l : List Fm) (k j : Nat) (F : Fm), l[k]? = some F → j < 5 → (l.flatMap Fm.cells)[5 * k + j]? = F.cells[j]?
  | [], _, _, _, h, _ => by simp at h
  | G :: l, 0, j, F, h, hj => by
    obtain rfl : G = F := by simpa using h
    rw [List.flatMap_cons, Nat.mul_zero, Nat.zero_add, List.getElem?_append_left (show j < G.cells.length from hj)]
  | G :: l, k + 1, j, F, h, hj => by
    have e : 5 * (k + 1) + j = G.cells.length + (5 * k + j) := by show _ = 5 + _; omega
    rw [List.flatMap_cons, e, List.getElem?_append_right (by omega), Nat.add_sub_cancel_left]
    exact flat_at l k j F (by simpa using h) hj
theorem fm_at {g : Nat} {w : World} {k : Nat} {F : Fm} (h : w.heap[g]? = some (.cells formCells.toArray 40)) (hk : forms[k]? = some F) : FmAt F g (k * 5) w := by
  rw [Nat.mul_comm]
  have e : ∀ j v, j < 5 → F.cells[j]? = some v → w.cell? ⟨g, 5 * k + j, none⟩ = some v := fun j v hj hv => by
    rw [cell_of_row _ _ _ _ _ _ h, List.getElem?_toArray]
    exact (flat_at forms k j F hk hj).trans hv
  exact ⟨e 0 _ (by decide) rfl, e 1 _ (by decide) rfl, e 2 _ (by decide) rfl, e 3 _ (by decide) rfl, e 4 _ (by decide) rfl⟩
theorem forms_count : forms.length = 40 := rfl
/-- What Decode answers, from a rest of the table. -/
def decL (word : Int) : List Fm → Ins
  | [] => nilI
  | F :: l => if bits .and .u32 word F.mask = F.base ∧ rightB (F.t false (word, startI F)).2 = true then (F.t false (word, startI F)).2 else decL word l
def decV (word : Int) : Ins := decL word forms
/-- What Encode answers, from a rest of the table: the word and the error. -/
def encL (i : Ins) : List Fm → Int × Int
  | [] => (0, 3)
  | F :: l => if isForm F i = true then ((F.t true (F.base, i)).1, 0) else encL i l
def encV (i : Ins) : Int × Int := if rightB i = true then encL i forms else (0, 3)
theorem drop_at {k : Nat} (hk : k < 40) : ∃ F, forms[k]? = some F ∧ Good F ∧ forms.drop k = F :: forms.drop (k + 1) := by
  have h : k < forms.length := hk
  exact ⟨forms[k], List.getElem?_eq_getElem h, good_all _ (List.getElem_mem h), List.drop_eq_getElem_cons h⟩
end Go.Proofs.Ytcmilajlngnibaa
