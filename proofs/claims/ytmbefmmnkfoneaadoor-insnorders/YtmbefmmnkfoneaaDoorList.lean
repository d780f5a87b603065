/- What is listed of a set of registers: each of its bits, rising, once: a contract. -/
import Derived.Test.YtmbefmmnkfoneaaDoorSets
namespace Go.Proofs.YtmbefmmnkfoneaaDoor
open Go.RowKit Go.Rel

def listL (s : Nat) (k : Nat) : List Nat := (List.range k).filter fun j => s.testBit j
theorem listL_succ (s k : Nat) : listL s (k + 1) = if s.testBit k then listL s k ++ [k] else listL s k := by
  unfold listL
  rw [List.range_succ, List.filter_append]
  cases h : s.testBit k <;> simp [h]
def listV (s k : Nat) : List Value := (listL s k).map fun (j : Nat) => vI (j : Int)
theorem listV_yes {s k : Nat} (h : s.testBit k = true) : listV s (k + 1) = listV s k ++ [vI (k : Int)] := by unfold listV; rw [listL_succ, if_pos h, List.map_append]; rfl
theorem listV_no {s k : Nat} (h : s.testBit k = false) : listV s (k + 1) = listV s k := by unfold listV; rw [listL_succ, if_neg (by simp [h])]

theorem listL_le (s k : Nat) : (listL s k).length ≤ k := by
  have := List.length_filter_le (fun j => s.testBit j) (List.range k)
  simpa [listL] using this
theorem bit32 (s k : Nat) (hs : s < 4294967296) : (bits .and .u32 ((s : Int) / 2 ^ k) 1 == 1) = s.testBit k := by
  have h1 : ((s : Int) / 2 ^ k) = ((s / 2 ^ k : Nat) : Int) := by simp
  have h2 : s / 2 ^ k < 4294967296 := Nat.lt_of_le_of_lt (Nat.div_le_self _ _) hs
  rw [h1, show (1 : Int) = ((1 : Nat) : Int) from rfl, and32 _ _ h2 (by decide), Nat.testBit_eq_decide_div_mod_eq, and_one]
  by_cases h : s / 2 ^ k % 2 = 1
  · simp [h]
  · have : s / 2 ^ k % 2 = 0 := by omega
    simp [this]

theorem int_info : ∃ i0, Tryd.prog.info? 3 = some i0 ∧ i0.zero = some (.int .i64 0) ∧ i0.size = 1 ∧ i0.bytes = 8 := by
  have h : (Tryd.prog.info? 3).map (fun i => (i.zero, i.size, i.bytes)) = some (some (.int .i64 0), 1, 8) := by kernel_rfl
  cases hq : Tryd.prog.info? 3 with
  | none => rw [hq] at h; cases h
  | some i =>
    rw [hq] at h
    simp only [Option.map_some, Option.some.injEq, Prod.mk.injEq] at h
    exact ⟨i, rfl, h.1, h.2.1, h.2.2⟩

set_option maxRecDepth 4000 in
set_option maxHeartbeats 2000000 in
theorem list_c (s : Nat) (hs : s < 4294967296) (w : World) :
    Calls Tryd.prog 15 #[.int .u32 (s : Int)] w fun e w' => ∃ v, e = .returned v ∧ w'.ownsRow w.heap.size 3 1 v (listL s 32).length (listV s 32) ∧ Below w.heap.size w w' := by
  have hB : Hid (∀ k : Nat, (bits .and .u32 ((s : Int) / 2 ^ k) 1 == 1) = s.testBit k) := fun k => bit32 s k hs
  clear hs
  obtain ⟨i0, hi, hz0, hz1, hz2⟩ : ∃ i0, Tryd.prog.info? 3 = some i0 ∧ i0.zero = some (.int .i64 0) ∧ i0.size = 1 ∧ i0.bytes = 8 := int_info
  go_enter Tryd.func15, Tryd.ntmps15
  go_wp2
  go_loopw [3, 5] (fun v i wr => ∃ k : Nat, k ≤ 32 ∧ i = .int .i64 k ∧ wr.ownsRow w.heap.size 3 1 v (listL s k).length (listV s k) ∧ Below w.heap.size w wr) (fun _ i _ => 32 - (intOf i).toNat)
  case atStart => exact ⟨0, Nat.zero_le _, rfl, World.ownsRow_nil _ _ _ _, Below.refl _ _⟩
  case round =>
    obtain ⟨k, hk, rfl, hown, hnx⟩ := hrel
    by_cases hlt : (k : Int) < 32
    · have hb := hB.out k
      have hle := listL_le s k
      cases ht : s.testBit k
      · rw [ht] at hb
        have HT : Hid (s.testBit k = false) := ht
        clear ht
        go_wp2
        refine ⟨⟨k + 1, by omega, by go_num, ?_, hnx⟩, by simp [intOf]; omega⟩
        rw [listV_no HT.out, listL_succ, if_neg (by rw [HT.out]; decide)]
        exact hown
      · rw [ht] at hb
        have HT : Hid (s.testBit k = true) := ht
        clear ht
        go_wp2_with (at_builtin; refine wpList_append_own _ rfl _ _ 25 rfl w.heap.size 3 i0 (.int .i64 0) 1 8 Tryd.underlying25 hi hz0 hz1 hz2 rfl (by decide) _ _ _ rfl (hown.alloc _) ⟨wr.heap.size, 0, none⟩ 1 1 [.int .i64 k] rfl rfl ?c1 ?c2 ?c3 ?c4 ?c5 ?_)
        case c1 =>
          intro j u hj
          match j, hj with
          | 0, hj => simp at hj; subst hj; simp [Addr.add]
        case c2 => intro u hu; simp at hu; subst hu; rfl
        case c3 => unfold maxLen; omega
        case c4 => omega
        case c5 => have := hnx.size; simp; omega
        · intro v' w1 hown' hgrow _
          have HG : Below w.heap.size w w1 := (hnx.alloc hnx.size _).grown hgrow (Nat.le_trans hnx.size (by simp)) (fun b hb => (World.ownsRow.lt hown b hb).1)
          clear hgrow
          go_wp2
          refine ⟨⟨k + 1, by omega, by go_num, ?_, HG⟩, by simp [intOf]; omega⟩
          rw [listV_yes HT.out, listL_succ, if_pos HT.out, List.length_append]
          exact hown'
    · obtain rfl : k = 32 := by omega
      go_wp2
      go_ret
      exact ⟨_, rfl, hown, hnx⟩
end Go.Proofs.YtmbefmmnkfoneaaDoor
