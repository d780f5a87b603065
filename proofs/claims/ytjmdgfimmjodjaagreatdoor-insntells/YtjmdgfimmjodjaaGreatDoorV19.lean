/- Numbers and registers' names, as the document's own answer writes them: contracts, for every number. -/
import Derived.Test.YtjmdgfimmjodjaaGreatDoorV17
import Derived.Test.YtjmdgfimmjodjaaGreatDoorV15
import Derived.Laws.IdiomStrings
import Derived.Great.BuildSlice
import Derived.WalkKit
import Derived.WalkSpells
import Derived.WalkLawsBesides
namespace Go.Proofs.YtjmdgfimmjodjaaGreatDoor
open Go.RowKit Go.Rel

theorem str_cat (x y : Tx) : (⟨x.toArray⟩ : ByteArray) ++ ⟨y.toArray⟩ = ⟨(x ++ y).toArray⟩ := by
  apply ByteArray.ext
  simp
def digB (d : Nat) : UInt8 := UInt8.ofNat (48 + d)
theorem dig_step {n : Nat} (h : ¬ n < 10) : Lib.decDigits n = Lib.decDigits (n / 10) ++ [digB (n % 10)] := by
  rw [Lib.decDigits, dif_neg h]; rfl
theorem byte_val {d : Nat} (h : d < 10) : ((digB d).toNat : Int) = 48 + (d : Int) := by
  unfold digB
  rw [UInt8.toNat_ofNat']
  omega
theorem one_byte (w : World) (g c d : Nat) (h : d < 10) (hc : w.cell? ⟨g, 0, none⟩ = some (.int .u8 (48 + (d : Int)))) :
    (convert 69 9 (.slice (some ⟨g, 0, none⟩) 1 c)).run Tryz.prog w = .ok (strV [digB d]) w := by
  have := run_convert_bytes_back (P := Tryz.prog) w 69 9 5 ⟨g, 0, none⟩ c [digB d] Tryz.underlying69 Tryz.underlying5 Tryz.underlying9 (fun j hj => by
    obtain rfl : j = 0 := by simpa using hj
    rw [show (⟨g, 0, none⟩ : Addr).add 0 = ⟨g, 0, none⟩ from rfl, hc]
    simp only [List.getElem_cons_zero]
    rw [byte_val h])
  simpa using this
theorem cell_new (w : World) (v : Value) (t : TypeId) : (w.alloc (.cells #[v] t)).cell? ⟨w.heap.size, 0, none⟩ = some v := by
  rw [cell_of_row _ _ _ _ _ _ (heap_alloc_new _ _)]; rfl
set_option maxRecDepth 100000 in
set_option maxHeartbeats 1000000 in
theorem whole_small (n : Nat) (hn : n < 10) (w : World) :
    Calls Tryz.prog 33 #[.int .u64 (n : Int)] w fun e w' => e = .returned (strV (Lib.decDigits n)) ∧ Below w.heap.size w w' := by
  have h : (n : Int) < 10 := by omega
  have hE : Hid (Lib.decDigits n = [digB n]) := Lib.decDigits_one hn
  have hB := one_byte (w.alloc (.cells #[.int .u8 (48 + (n : Int))] 5)) w.heap.size 1 n hn (cell_new _ _ _)
  go_enter Tryz.func33, Tryz.ntmps33
  go_wp2_with (simp only [hB])
  go_ret
  rw [hE.out]
  exact ⟨rfl, below_alloc _ _⟩
/-- One byte that was laid in a block of its own. -/
def OneB (d : Nat) (v : Value) (w : World) : Prop := ∃ g, v = .slice (some ⟨g, 0, none⟩) 1 1 ∧ w.heap[g]? = some (.cells #[.int .u8 (48 + (d : Int))] 5)
theorem oneB_up (d : Nat) (v : Value) : Up Grows (OneB d v) := fun _ _ ⟨g, e, h⟩ hb => ⟨g, e, by rw [hb.block g (Array.getElem?_eq_some_iff.1 h).1]; exact h⟩
set_option maxRecDepth 100000 in
set_option maxHeartbeats 2000000 in
theorem whole_c (n : Nat) : n < 18446744073709551616 → ∀ w : World,
    Calls Tryz.prog 33 #[.int .u64 (n : Int)] w fun e w' => e = .returned (strV (Lib.decDigits n)) ∧ Below w.heap.size w w' := by
  induction n using Nat.strongRecOn with
  | ind n ih =>
    intro hn w
    by_cases hs : n < 10
    · exact whole_small n hs w
    have h10 : 10 ≤ (n : Int) := by omega
    have hlen : (Lib.decDigits (n / 10)).length ≤ 20 := by
      rw [Lib.decDigits_length]
      have := Lib.numDigits_eq (n / 10) (by omega) (by omega)
      split at this <;> omega
    have hE : Hid (Lib.decDigits n = Lib.decDigits (n / 10) ++ [digB (n % 10)]) := dig_step hs
    have hR := ih (n / 10) (by omega) (by omega)
    have hm : Hid (((n % 10 : Nat) : Int) = (n : Int) % 10) := by show _ = _; simp
    have hd : n % 10 < 10 := by omega
    clear ih hs
    go_enter Tryz.func33, Tryz.ntmps33
    go_wp2
    rw [show ((n / 10 : Nat) : Int) = (n : Int) / 10 by simp] at hR
    refine wp_region_rel Grows (fun x => Below w.heap.size w x) [.inl (.int .u64 (n : Int)), .inl (.int .u64 ((n : Int) / 10)), .inl (strV (Lib.decDigits (n / 10))), .inl (.int .u64 (n : Int)), .inl (.int .u64 ((n : Int) % 10)), .inl (.int .u64 (48 + (n : Int) % 10)), .inl (.int .u8 (48 + (n : Int) % 10)), .inr (OneB (n % 10)), .inl (strV [digB (n % 10)]), .inl (strV (Lib.decDigits n)), .inl (strV (Lib.decDigits n))] (by kernel_rfl) (by kernel_rfl) (up_below w) (Below.refl _ _).drew (by simp only [List.mem_cons, List.not_mem_nil, or_false]; rintro k hk; rcases hk with rfl | rfl | rfl | rfl | rfl | rfl | rfl | rfl | rfl | rfl | rfl <;> first | trivial | exact fun v => oneB_up _ v) ?_
    refine ⟨fun w1 hC hF => ?_, ?_⟩
    · go_simp
      first | exact ⟨Below.refl _ _, rfl⟩ | exact Below.refl _ _ | exact ⟨Below.refl _ _, by rw [IntKind.wrap_u64]; omega⟩ | exact ⟨Below.refl _ _, by rw [IntKind.wrap_u8]; omega⟩
    simp only [Act.put, List.setIfInBounds_toArray, List.set_cons_succ, List.set_cons_zero]
    refine ⟨fun w1 hC hF => ?_, ?_⟩
    · go_simp
      first | exact ⟨Below.refl _ _, rfl⟩ | exact Below.refl _ _ | exact ⟨Below.refl _ _, by rw [IntKind.wrap_u64]; omega⟩ | exact ⟨Below.refl _ _, by rw [IntKind.wrap_u8]; omega⟩
    simp only [Act.put, List.setIfInBounds_toArray, List.set_cons_succ, List.set_cons_zero]
    refine ⟨fun w1 hC hF => ?_, ?_⟩
    · go_simp
      refine (hR w1).mono ?_
      rintro e w2 ⟨rfl, hb⟩
      exact ⟨rfl, hb⟩
    simp only [Act.put, List.setIfInBounds_toArray, List.set_cons_succ, List.set_cons_zero]
    refine ⟨fun w1 hC hF => ?_, ?_⟩
    · go_simp
      first | exact ⟨Below.refl _ _, rfl⟩ | exact Below.refl _ _ | exact ⟨Below.refl _ _, by rw [IntKind.wrap_u64]; omega⟩ | exact ⟨Below.refl _ _, by rw [IntKind.wrap_u8]; omega⟩
    simp only [Act.put, List.setIfInBounds_toArray, List.set_cons_succ, List.set_cons_zero]
    refine ⟨fun w1 hC hF => ?_, ?_⟩
    · go_simp
      first | exact ⟨Below.refl _ _, rfl⟩ | exact Below.refl _ _ | exact ⟨Below.refl _ _, by rw [IntKind.wrap_u64]; omega⟩ | exact ⟨Below.refl _ _, by rw [IntKind.wrap_u8]; omega⟩
    simp only [Act.put, List.setIfInBounds_toArray, List.set_cons_succ, List.set_cons_zero]
    refine ⟨fun w1 hC hF => ?_, ?_⟩
    · go_simp
      first | exact ⟨Below.refl _ _, rfl⟩ | exact Below.refl _ _ | exact ⟨Below.refl _ _, by rw [IntKind.wrap_u64]; omega⟩ | exact ⟨Below.refl _ _, by rw [IntKind.wrap_u8]; omega⟩
    simp only [Act.put, List.setIfInBounds_toArray, List.set_cons_succ, List.set_cons_zero]
    refine ⟨fun w1 hC hF => ?_, ?_⟩
    · go_simp
      first | exact ⟨Below.refl _ _, rfl⟩ | exact Below.refl _ _ | exact ⟨Below.refl _ _, by rw [IntKind.wrap_u64]; omega⟩ | exact ⟨Below.refl _ _, by rw [IntKind.wrap_u8]; omega⟩
    simp only [Act.put, List.setIfInBounds_toArray, List.set_cons_succ, List.set_cons_zero]
    refine ⟨fun w1 hC hF => ?_, fun v7 => ?_⟩
    · go_simp
      refine ⟨below_alloc _ _, _, rfl, ?_⟩
      rw [hm.out]
      exact heap_alloc_new _ _
    simp only [Act.put, List.setIfInBounds_toArray, List.set_cons_succ, List.set_cons_zero]
    refine ⟨fun w1 hC hF => ?_, ?_⟩
    · obtain ⟨g, rfl, hg⟩ := (hF 7 (by kernel_rfl)).1 rfl
      have hB := one_byte w1 g 1 (n % 10) hd (by rw [cell_of_row _ _ _ _ _ _ hg]; rfl)
      go_simp
      first | exact ⟨Below.refl _ _, rfl⟩ | exact Below.refl _ _ | exact ⟨Below.refl _ _, by rw [IntKind.wrap_u64]; omega⟩ | exact ⟨Below.refl _ _, by rw [IntKind.wrap_u8]; omega⟩
    simp only [Act.put, List.setIfInBounds_toArray, List.set_cons_succ, List.set_cons_zero]
    refine ⟨fun w1 hC hF => ?_, ?_⟩
    · go_simp
      rw [if_neg (by omega)]
      exact ⟨Below.refl _ _, by rw [hE.out]; exact congrArg Value.string (str_cat _ _)⟩
    simp only [Act.put, List.setIfInBounds_toArray, List.set_cons_succ, List.set_cons_zero]
    refine ⟨fun w1 hC hF => ?_, ?_⟩
    · go_simp
      first | exact ⟨Below.refl _ _, rfl⟩ | exact Below.refl _ _ | exact ⟨Below.refl _ _, by rw [IntKind.wrap_u64]; omega⟩ | exact ⟨Below.refl _ _, by rw [IntKind.wrap_u8]; omega⟩
    simp only [Act.put, List.setIfInBounds_toArray, List.set_cons_succ, List.set_cons_zero]
    intro w1 hC hF
    refine then_normal ?_
    go_wp2
    go_ret
    exact ⟨rfl, hC⟩
end Go.Proofs.YtjmdgfimmjodjaaGreatDoor
/- Numbers with signs, registers and conditions, as the document's own answer writes them; where 31 is the stack pointer: contracts. -/
namespace Go.Proofs.YtjmdgfimmjodjaaGreatDoor
open Go.RowKit Go.Rel

theorem dec_le {u : Nat} (hu : u < 18446744073709551616) : (Lib.decDigits u).length ≤ 20 := by
  rw [Lib.decDigits_length]
  by_cases h1 : 1 ≤ u
  · have := Lib.numDigits_eq u h1 hu
    split at this <;> omega
  · rw [Lib.nDigits_small (by omega)]; omega
set_option maxRecDepth 8000 in
set_option maxHeartbeats 1000000 in
theorem digits_c (n : Int) (h0 : -9223372036854775808 ≤ n) (h1 : n ≤ 9223372036854775807) (w : World) :
    Calls Tryz.prog 32 #[vI n] w fun e w' => e = .returned (strV (Lib.itoa n)) ∧ Below w.heap.size w w' := by
  by_cases hn : n < 0
  · have hE : Hid (Lib.itoa n = 45 :: Lib.decDigits n.natAbs) := by show _ = _; unfold Lib.itoa; rw [if_pos hn]
    have hl := dec_le (u := n.natAbs) (by omega)
    have hW := whole_c n.natAbs (by omega)
    have hC : ∀ (u : Int) (w : World), u = (n.natAbs : Int) → Calls Tryz.prog 33 #[.int .u64 u] w fun e w' => e = .returned (strV (Lib.decDigits n.natAbs)) ∧ Below w.heap.size w w' := fun u w h => by rw [h]; exact hW w
    clear hW
    go_enter Tryz.func32, Tryz.ntmps32
    go_wp2_with (go_at_call 33; refine (hC _ _ ?hu).mono ?_; rotate_left; rintro e w' ⟨rfl, hb⟩)
    · go_ret
      rw [hE.out]
      exact ⟨congrArg Ending.returned (congrArg Value.string (str_cat [45] _)), hb⟩
    case hu => omega
  · obtain ⟨N, rfl⟩ := Int.eq_ofNat_of_zero_le (show 0 ≤ n by omega)
    have hE : Hid (Lib.itoa (N : Int) = Lib.decDigits N) := by show _ = _; unfold Lib.itoa; rw [if_neg hn]; rfl
    have hW := whole_c N (by omega)
    go_enter Tryz.func32, Tryz.ntmps32
    go_wp2_with (go_at_call 33; refine (hW _).mono ?_; rintro e w' ⟨rfl, hb⟩)
    go_ret
    rw [hE.out]
    exact ⟨rfl, hb⟩
set_option maxHeartbeats 400000 in
theorem rspD_c (i : Ins) (w : World) : Calls Tryz.prog 30 #[i.val] w fun e w' => e = .returned (.bool (spD i)) ∧ Below w.heap.size w w' := by
  obtain ⟨op, sub, rd, rn, rm, ra, imm, imm2, amount, shift, cond, sys, flags, minus, not, link⟩ := i
  cases h1 : (op == 1) <;> cases h4 : (op == 4) <;> cases flags
  all_goals
    go_enter Tryz.func30, Tryz.ntmps30
    go_wp2
    go_ret
    exact ⟨ret_bool (by simp only [spD, h1, h4]; rfl), below_alloc _ _⟩
set_option maxHeartbeats 400000 in
theorem rspN_c (i : Ins) (w : World) : Calls Tryz.prog 31 #[i.val] w fun e w' => e = .returned (.bool (spN i)) ∧ Below w.heap.size w w' := by
  obtain ⟨op, sub, rd, rn, rm, ra, imm, imm2, amount, shift, cond, sys, flags, minus, not, link⟩ := i
  cases h1 : (op == 1)
  · by_cases h2 : 17 ≤ op
    · by_cases h3 : op ≤ 24
      all_goals
        go_enter Tryz.func31, Tryz.ntmps31
        go_wp2
        go_ret
        refine ⟨ret_bool ?_, below_alloc _ _⟩
        simp [spN, accB, h1, h2, h3]
    · go_enter Tryz.func31, Tryz.ntmps31
      go_wp2
      go_ret
      refine ⟨ret_bool ?_, below_alloc _ _⟩
      simp [spN, accB, h1]; omega
  · go_enter Tryz.func31, Tryz.ntmps31
    go_wp2
    go_ret
    refine ⟨ret_bool ?_, below_alloc _ _⟩
    simp [spN, h1]
set_option maxRecDepth 8000 in
set_option maxHeartbeats 400000 in
theorem rname_c (n : Int) (sp : Bool) (h0 : 0 ≤ n) (h1 : n ≤ 31) (w : World) :
    Calls Tryz.prog 29 #[vI n, .bool sp] w fun e w' => e = .returned (strV (regT n sp)) ∧ Below w.heap.size w w' := by
  by_cases h31 : n < 31
  · have hR : Hid (regT n sp = 120 :: Lib.itoa n) := by
      show _ = _
      unfold regT
      rw [show (n == 31) = false by simp; omega]
      rfl
    have hl : (Lib.itoa n).length ≤ 20 := by
      unfold Lib.itoa
      rw [if_neg (by omega)]
      exact dec_le (by omega)
    have hD := digits_c n (by omega) (by omega)
    go_enter Tryz.func29, Tryz.ntmps29
    go_wp2_with (go_at_call 32; refine (hD _).mono ?_; rintro e w' ⟨rfl, hb⟩)
    go_ret
    rw [hR.out]
    exact ⟨congrArg Ending.returned (congrArg Value.string (str_cat [120] _)), hb⟩
  · obtain rfl : n = 31 := by omega
    cases sp
    all_goals
      go_enter Tryz.func29, Tryz.ntmps29
      go_wp2
      go_ret
      exact ⟨rfl, Below.refl _ _⟩
set_option maxRecDepth 8000 in
set_option maxHeartbeats 1000000 in
theorem rcond_c (k : Int) (h0 : 0 ≤ k) (h1 : k ≤ 15) (w : World) :
    Calls Tryz.prog 34 #[vI k] w fun e w' => e = .returned (strV (condT k)) ∧ w' = w := by
  rcases (by omega : k = 0 ∨ k = 1 ∨ k = 2 ∨ k = 3 ∨ k = 4 ∨ k = 5 ∨ k = 6 ∨ k = 7 ∨ k = 8 ∨ k = 9 ∨ k = 10 ∨ k = 11 ∨ k = 12 ∨ k = 13 ∨ k = 14 ∨ k = 15) with rfl | rfl | rfl | rfl | rfl | rfl | rfl | rfl | rfl | rfl | rfl | rfl | rfl | rfl | rfl | rfl
  all_goals
    go_enter Tryz.func34, Tryz.ntmps34
    go_wp2
    go_ret
    exact ⟨rfl, rfl⟩
end Go.Proofs.YtjmdgfimmjodjaaGreatDoor
