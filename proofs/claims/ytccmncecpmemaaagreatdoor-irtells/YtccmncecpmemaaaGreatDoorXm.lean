/- Na, Nb of the seat, joined. -/
import Derived.Test.YtccmncecpmemaaaGreatDoorShl
import Derived.Test.YtccmncecpmemaaaGreatDoorRel
import Derived.Test.YtccmncecpmemaaaGreatDoorHg
import Derived.Lib.AppendIntMem
import Derived.Lib.ItoaLen
import Derived.Lib.ItoaNum
import Derived.Test.YtccmncecpmemaaaGreatDoorXj
import Derived.Laws.IdiomStrings
import Derived.Great.BuildSlice
import Derived.WalkKit
import Derived.WalkSpells
import Derived.WalkLawsBesides
/- What strconv.Itoa and strconv.FormatUint at base 10 give back: the numeral: contracts. -/
namespace Go.Proofs.YtccmncecpmemaaaGreatDoor
open Go.RowKit Go.Rel Go.Sort

abbrev strV (x : List UInt8) : Value := .string ⟨x.toArray⟩
/-- The table of powers of ten, as it is laid. -/
def Tab (w : World) : Prop := Lib.TabIs Tryz.prog w "internal/strconv.uint64pow10" .u64 Lib.pow10Tab
theorem Tab.grow {w w' : World} (h : Tab w) (hb : Below w.heap.size w w') : Tab w' := Lib.tabBelow_of_tabIs h w' hb

theorem below_grow (w : World) (k : Nat) (os : Array Obj) : Below w.heap.size w (Go.Sort.grow (w.drewN k) os) := by
  refine ⟨rfl, rfl, rfl, ?_, fun j hj => ?_⟩
  · simp [Go.Sort.grow]
  · exact Array.getElem?_append_left hj

theorem itoa_c (n : Int) (h0 : -9223372036854775808 ≤ n) (h1 : n ≤ 9223372036854775807) (w : World) (ht : Tab w) :
    Calls Tryz.prog 30 #[.int .i64 n] w fun e w' => e = .returned (strV (Lib.itoa n)) ∧ Below w.heap.size w w' := by
  refine (Tryz.strconv_Itoa n h0 h1 w ht).mono ?_
  rintro e w' ⟨rfl, k, os, rfl⟩
  exact ⟨rfl, below_grow w k os⟩

theorem fin_pos0 (w : World) (o : Obj) (dk : Array UInt8) (k : Nat) : ∃ os, (putRow (fun (b : UInt8) => Value.int .u8 (b.toNat : Int)) (w.alloc o) w.heap.size 0 dk).drewN k = Go.Sort.grow (w.drewN k) os := by
  rw [alloc_eq_grow]
  obtain ⟨os', _, e⟩ := putRow_grow_new (fun (b : UInt8) => Value.int .u8 (b.toNat : Int)) w #[o] w.heap.size 0 dk (Nat.le_refl _)
  exact ⟨os', by rw [e]; rfl⟩

set_option maxHeartbeats 6400000 in
set_option maxRecDepth 100000 in
theorem uint_in (u : Nat) (hu64 : u < 18446744073709551616) (w : World) (htab : Tab w) :
    Calls Tryz.prog 74 #[.int .u64 (u : Int), .int .i64 10] w fun e w' => e = .returned (strV (Lib.decDigits u)) ∧ Below w.heap.size w w' := by
  by_cases hs : u < 100
  · have hw : IntKind.i64.wrap (u : Int) = (u : Int) := by rw [IntKind.wrap_i64]; omega
    go_enter Tryz.func74, Tryz.ntmps74
    go_wp2_with (go_at_call 90; refine (Tryz.internal_strconv_small u hs _).mono ?_; rintro e w' ⟨rfl, rfl⟩)
    go_ret
    exact ⟨rfl, Below.refl _ _⟩
  · have hu1 : 1 ≤ u := by omega
    have hnd20 : Lib.nDigits u ≤ 20 := by have := Lib.numDigits_eq u hu1 hu64; split at this <;> omega
    have hal : Tryz.prog.arrayLen 129 = 24 := by simp [Program.arrayLen, Tryz.underlying129]
    have hsl2 : ∀ W, (Instr.sliceAt 129 (.pointer (some ⟨w.heap.size, 0, none⟩)) none (some (.int .i64 (Lib.nDigits u : Int))) none).run Tryz.prog W = .ok (.slice (some ⟨w.heap.size, 0, none⟩) (Lib.nDigits u) 24) W := fun W => by
      rw [run_sliceAt_array_h W 129 ⟨w.heap.size, 0, none⟩ (by simp [Program.arrayLen, Program.elem, Tryz.underlying129]) .i64 (Lib.nDigits u : Int) (by omega) (by rw [hal]; omega)]
      go_simp
    have hH0 := Lib.holds_zero0 w 129 (Lib.nDigits u) (by omega)
    have hfmt := Tryz.internal_strconv_formatBase10 w.heap.size 0 24 u (Array.replicate (Lib.nDigits u) 0) (w.alloc (.cells Lib.zeros24 129)) hH0 (by rw [Array.size_replicate]; exact Lib.lt_pow_nDigits u) hu64 (by rw [Array.size_replicate]; omega)
    rw [Array.size_replicate] at hfmt
    have HH0 := Lib.hid hH0
    clear hH0 hal
    go_enter Tryz.func74, Tryz.ntmps74
    go_wp2_with (go_at_call 91; refine (Tryz.internal_strconv_numDigits u hu1 hu64 _ (Lib.tabIs_alloc htab _)).mono ?_; rintro e w' ⟨rfl, rfl⟩)
    go_at_call 92
    refine hfmt.mono ?_
    rintro e w' ⟨rfl, k, v', dk, rfl, hF⟩
    have hcv : (convert 70 9 (.slice (some ⟨w.heap.size, 0, none⟩) (Lib.nDigits u) 24)).run Tryz.prog ((putRow (fun (b : UInt8) => Value.int .u8 (b.toNat : Int)) (w.alloc (.cells Lib.zeros24 129)) w.heap.size 0 dk).drewN k) = .ok (strV (Lib.decDigits u)) ((putRow (fun (b : UInt8) => Value.int .u8 (b.toNat : Int)) (w.alloc (.cells Lib.zeros24 129)) w.heap.size 0 dk).drewN k) := by
      have h := run_convert_bytes_back (P := Tryz.prog) ((putRow (fun (b : UInt8) => Value.int .u8 (b.toNat : Int)) (w.alloc (.cells Lib.zeros24 129)) w.heap.size 0 dk).drewN k) 70 9 5 ⟨w.heap.size, 0, none⟩ 24 (Lib.decDigits u) Tryz.underlying70 Tryz.underlying5 Tryz.underlying9 (fun j hj => by
        rw [Lib.row_is_numeral hF j hj, Lib.add_plain, World.cell?_drewN]
        exact cell?_putRow (fun (b : UInt8) => Value.int .u8 (b.toNat : Int)) _ w.heap.size 0 _ dk HH0.out (by rw [hF.size, Array.size_replicate]) j (by rw [hF.size]; rw [Lib.decDigits_length] at hj; exact hj))
      rw [Lib.decDigits_length] at h
      exact h
    go_wp2
    go_ret
    obtain ⟨os, eo⟩ := fin_pos0 w (.cells Lib.zeros24 129) dk k
    refine ⟨rfl, ?_⟩
    rw [eo]
    exact below_grow w k os

set_option maxRecDepth 100000 in
theorem uint_c (u : Nat) (hu64 : u < 18446744073709551616) (w : World) (htab : Tab w) :
    Calls Tryz.prog 55 #[.int .u64 (u : Int), .int .i64 10] w fun e w' => e = .returned (strV (Lib.decDigits u)) ∧ Below w.heap.size w w' := by
  go_enter Tryz.func55, Tryz.ntmps55
  go_wp2_with (go_at_call 74; refine (uint_in u hu64 _ htab).mono ?_; rintro e w' ⟨rfl, hb⟩)
  go_ret
  exact ⟨rfl, hb⟩
end Go.Proofs.YtccmncecpmemaaaGreatDoor
/- Numbers and registers' names, as the document's own answer writes them: contracts, for every number. -/
namespace Go.Proofs.YtccmncecpmemaaaGreatDoor
open Go.RowKit Go.Rel

abbrev Tx := List UInt8
theorem str_cat (x y : Tx) : (⟨x.toArray⟩ : ByteArray) ++ ⟨y.toArray⟩ = ⟨(x ++ y).toArray⟩ := by
  apply ByteArray.ext
  simp
def digB (d : Nat) : UInt8 := UInt8.ofNat (48 + d)
theorem dig_step {n : Nat} (h : ¬ n < 10) : Lib.decDigits n = Lib.decDigits (n / 10) ++ [digB (n % 10)] := by
  rw [Lib.decDigits, dif_neg h]; rfl
theorem byte_val {d : Nat} (h : d < 10) : ((digB d).toNat : Int) = 48 + (d : Int) := by
  unfold digB
  rw [UInt8.toNat_ofNat']
  omega
theorem one_byte (w : World) (g c d : Nat) (h : d < 10) (hc : w.cell? ⟨g, 0, none⟩ = some (.int .u8 (48 + (d : Int)))) :
    (convert 70 9 (.slice (some ⟨g, 0, none⟩) 1 c)).run Tryz.prog w = .ok (strV [digB d]) w := by
  have := run_convert_bytes_back (P := Tryz.prog) w 70 9 5 ⟨g, 0, none⟩ c [digB d] Tryz.underlying70 Tryz.underlying5 Tryz.underlying9 (fun j hj => by
    obtain rfl : j = 0 := by simpa using hj
    rw [show (⟨g, 0, none⟩ : Addr).add 0 = ⟨g, 0, none⟩ from rfl, hc]
    simp only [List.getElem_cons_zero]
    rw [byte_val h])
  simpa using this
theorem cell_new (w : World) (v : Value) (t : TypeId) : (w.alloc (.cells #[v] t)).cell? ⟨w.heap.size, 0, none⟩ = some v := by
  rw [cell_of_row _ _ _ _ _ _ (heap_alloc_new _ _)]; rfl
set_option maxRecDepth 100000 in
set_option maxHeartbeats 1000000 in
theorem whole_small (n : Nat) (hn : n < 10) (w : World) :
    Calls Tryz.prog 33 #[.int .u64 (n : Int)] w fun e w' => e = .returned (strV (Lib.decDigits n)) ∧ Below w.heap.size w w' := by
  have h : (n : Int) < 10 := by omega
  have hE : Hid (Lib.decDigits n = [digB n]) := Lib.decDigits_one hn
  have hB := one_byte (w.alloc (.cells #[.int .u8 (48 + (n : Int))] 5)) w.heap.size 1 n hn (cell_new _ _ _)
  go_enter Tryz.func33, Tryz.ntmps33
  go_wp2_with (simp only [hB])
  go_ret
  rw [hE.out]
  exact ⟨rfl, below_alloc _ _⟩
/-- One byte that was laid in a block of its own. -/
def OneB (d : Nat) (v : Value) (w : World) : Prop := ∃ g, v = .slice (some ⟨g, 0, none⟩) 1 1 ∧ w.heap[g]? = some (.cells #[.int .u8 (48 + (d : Int))] 5)
theorem oneB_up (d : Nat) (v : Value) : Up Grows (OneB d v) := fun _ _ ⟨g, e, h⟩ hb => ⟨g, e, by rw [hb.block g (Array.getElem?_eq_some_iff.1 h).1]; exact h⟩
set_option maxRecDepth 100000 in
set_option maxHeartbeats 2000000 in
theorem whole_c (n : Nat) : n < 18446744073709551616 → ∀ w : World,
    Calls Tryz.prog 33 #[.int .u64 (n : Int)] w fun e w' => e = .returned (strV (Lib.decDigits n)) ∧ Below w.heap.size w w' := by
  induction n using Nat.strongRecOn with
  | ind n ih =>
    intro hn w
    by_cases hs : n < 10
    · exact whole_small n hs w
    have h10 : 10 ≤ (n : Int) := by omega
    have hlen : (Lib.decDigits (n / 10)).length ≤ 20 := by
      rw [Lib.decDigits_length]
      have := Lib.numDigits_eq (n / 10) (by omega) (by omega)
      split at this <;> omega
    have hE : Hid (Lib.decDigits n = Lib.decDigits (n / 10) ++ [digB (n % 10)]) := dig_step hs
    have hR := ih (n / 10) (by omega) (by omega)
    have hm : Hid (((n % 10 : Nat) : Int) = (n : Int) % 10) := by show _ = _; simp
    have hd : n % 10 < 10 := by omega
    clear ih hs
    go_enter Tryz.func33, Tryz.ntmps33
    go_wp2
    rw [show ((n / 10 : Nat) : Int) = (n : Int) / 10 by simp] at hR
    refine wp_region_rel Grows (fun x => Below w.heap.size w x) [.inl (.int .u64 (n : Int)), .inl (.int .u64 ((n : Int) / 10)), .inl (strV (Lib.decDigits (n / 10))), .inl (.int .u64 (n : Int)), .inl (.int .u64 ((n : Int) % 10)), .inl (.int .u64 (48 + (n : Int) % 10)), .inl (.int .u8 (48 + (n : Int) % 10)), .inr (OneB (n % 10)), .inl (strV [digB (n % 10)]), .inl (strV (Lib.decDigits n)), .inl (strV (Lib.decDigits n))] (by kernel_rfl) (by kernel_rfl) (up_below w) (Below.refl _ _).drew (by simp only [List.mem_cons, List.not_mem_nil, or_false]; rintro k hk; rcases hk with rfl | rfl | rfl | rfl | rfl | rfl | rfl | rfl | rfl | rfl | rfl <;> first | trivial | exact fun v => oneB_up _ v) ?_
    refine ⟨fun w1 hC hF => ?_, ?_⟩
    · go_simp
      first | exact ⟨Below.refl _ _, rfl⟩ | exact Below.refl _ _ | exact ⟨Below.refl _ _, by rw [IntKind.wrap_u64]; omega⟩ | exact ⟨Below.refl _ _, by rw [IntKind.wrap_u8]; omega⟩
    simp only [Act.put, List.setIfInBounds_toArray, List.set_cons_succ, List.set_cons_zero]
    refine ⟨fun w1 hC hF => ?_, ?_⟩
    · go_simp
      first | exact ⟨Below.refl _ _, rfl⟩ | exact Below.refl _ _ | exact ⟨Below.refl _ _, by rw [IntKind.wrap_u64]; omega⟩ | exact ⟨Below.refl _ _, by rw [IntKind.wrap_u8]; omega⟩
    simp only [Act.put, List.setIfInBounds_toArray, List.set_cons_succ, List.set_cons_zero]
    refine ⟨fun w1 hC hF => ?_, ?_⟩
    · go_simp
      refine (hR w1).mono ?_
      rintro e w2 ⟨rfl, hb⟩
      exact ⟨rfl, hb⟩
    simp only [Act.put, List.setIfInBounds_toArray, List.set_cons_succ, List.set_cons_zero]
    refine ⟨fun w1 hC hF => ?_, ?_⟩
    · go_simp
      first | exact ⟨Below.refl _ _, rfl⟩ | exact Below.refl _ _ | exact ⟨Below.refl _ _, by rw [IntKind.wrap_u64]; omega⟩ | exact ⟨Below.refl _ _, by rw [IntKind.wrap_u8]; omega⟩
    simp only [Act.put, List.setIfInBounds_toArray, List.set_cons_succ, List.set_cons_zero]
    refine ⟨fun w1 hC hF => ?_, ?_⟩
    · go_simp
      first | exact ⟨Below.refl _ _, rfl⟩ | exact Below.refl _ _ | exact ⟨Below.refl _ _, by rw [IntKind.wrap_u64]; omega⟩ | exact ⟨Below.refl _ _, by rw [IntKind.wrap_u8]; omega⟩
    simp only [Act.put, List.setIfInBounds_toArray, List.set_cons_succ, List.set_cons_zero]
    refine ⟨fun w1 hC hF => ?_, ?_⟩
    · go_simp
      first | exact ⟨Below.refl _ _, rfl⟩ | exact Below.refl _ _ | exact ⟨Below.refl _ _, by rw [IntKind.wrap_u64]; omega⟩ | exact ⟨Below.refl _ _, by rw [IntKind.wrap_u8]; omega⟩
    simp only [Act.put, List.setIfInBounds_toArray, List.set_cons_succ, List.set_cons_zero]
    refine ⟨fun w1 hC hF => ?_, ?_⟩
    · go_simp
      first | exact ⟨Below.refl _ _, rfl⟩ | exact Below.refl _ _ | exact ⟨Below.refl _ _, by rw [IntKind.wrap_u64]; omega⟩ | exact ⟨Below.refl _ _, by rw [IntKind.wrap_u8]; omega⟩
    simp only [Act.put, List.setIfInBounds_toArray, List.set_cons_succ, List.set_cons_zero]
    refine ⟨fun w1 hC hF => ?_, fun v7 => ?_⟩
    · go_simp
      refine ⟨below_alloc _ _, _, rfl, ?_⟩
      rw [hm.out]
      exact heap_alloc_new _ _
    simp only [Act.put, List.setIfInBounds_toArray, List.set_cons_succ, List.set_cons_zero]
    refine ⟨fun w1 hC hF => ?_, ?_⟩
    · obtain ⟨g, rfl, hg⟩ := (hF 7 (by kernel_rfl)).1 rfl
      have hB := one_byte w1 g 1 (n % 10) hd (by rw [cell_of_row _ _ _ _ _ _ hg]; rfl)
      go_simp
      first | exact ⟨Below.refl _ _, rfl⟩ | exact Below.refl _ _ | exact ⟨Below.refl _ _, by rw [IntKind.wrap_u64]; omega⟩ | exact ⟨Below.refl _ _, by rw [IntKind.wrap_u8]; omega⟩
    simp only [Act.put, List.setIfInBounds_toArray, List.set_cons_succ, List.set_cons_zero]
    refine ⟨fun w1 hC hF => ?_, ?_⟩
    · go_simp
      rw [if_neg (by omega)]
      exact ⟨Below.refl _ _, by rw [hE.out]; exact congrArg Value.string (str_cat _ _)⟩
    simp only [Act.put, List.setIfInBounds_toArray, List.set_cons_succ, List.set_cons_zero]
    refine ⟨fun w1 hC hF => ?_, ?_⟩
    · go_simp
      first | exact ⟨Below.refl _ _, rfl⟩ | exact Below.refl _ _ | exact ⟨Below.refl _ _, by rw [IntKind.wrap_u64]; omega⟩ | exact ⟨Below.refl _ _, by rw [IntKind.wrap_u8]; omega⟩
    simp only [Act.put, List.setIfInBounds_toArray, List.set_cons_succ, List.set_cons_zero]
    intro w1 hC hF
    refine then_normal ?_
    go_wp2
    go_ret
    exact ⟨rfl, hC⟩
end Go.Proofs.YtccmncecpmemaaaGreatDoor
