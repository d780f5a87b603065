/- The table of forms, and what allForms makes: a contract. -/
import Derived.Test.YtbjcdpmhmebjnaaGreatB06
import Derived.Laws.Tables
import Derived.Test.YtbjcdpmhmebjnaaGreatB05
import Derived.Test.YtbjcdpmhmebjnaaGreatB01
import Derived.Test.YtbjcdpmhmebjnaaGreatB02
import Derived.RegionTactic
import Derived.BigRegion
import Derived.Deep.RegionWith
import Derived.Deep.CutRange
import Derived.Test.YtbjcdpmhmebjnaaGreatB03
import Derived.Laws.CopyRow
import Derived.Laws.Rows
namespace Go.Proofs.YtbjcdpmhmebjnaaGreat
open Go.RowKit

def fm0 : Fm := ⟨1, 0, 2675965952, 2432696320, 64, addImmT⟩
def fm1 : Fm := ⟨2, 0, 2669674496, 2332033024, 65, addRegT⟩
def fm2 : Fm := ⟨3, (-1), 2667577344, 2315255808, 66, logRegT⟩
def fm3 : Fm := ⟨4, (-1), 2675965952, 2449473536, 67, logImmT⟩
def fm4 : Fm := ⟨5, (-1), 2675965952, 2457862144, 68, movWideT⟩
def fm5 : Fm := ⟨6, (-1), 2680160256, 2470445056, 69, bitfieldT⟩
def fm6 : Fm := ⟨7, (-1), 4292931584, 2596282368, 70, shiftRegT⟩
def fm7 : Fm := ⟨8, 0, 4292870144, 2600468480, 71, mulT⟩
def fm8 : Fm := ⟨9, (-1), 4292933632, 2596276224, 72, divT⟩
def fm9 : Fm := ⟨10, (-1), 3219130368, 2592079872, 73, selT⟩
def fm10 : Fm := ⟨11, (-1), 520093696, 268435456, 74, adrT⟩
def fm11 : Fm := ⟨12, 0, 2080374784, 335544320, 75, bT⟩
def fm12 : Fm := ⟨13, 0, 4278190096, 1409286144, 76, bCondT⟩
def fm13 : Fm := ⟨14, 0, 4261412864, 3019898880, 77, cbzT⟩
def fm14 : Fm := ⟨15, 0, 2113929216, 905969664, 78, tbzT⟩
def fm15 : Fm := ⟨16, (-1), 4288674847, 3592355840, 79, brT⟩
def fm16 : Fm := ⟨17, 0, 4290772992, 4181721088, 80, atImmT⟩
def fm17 : Fm := ⟨18, 0, 4290772992, 4177526784, 80, atImmT⟩
def fm18 : Fm := ⟨19, 0, 4292930560, 4167067648, 81, atRegT⟩
def fm19 : Fm := ⟨20, 0, 4292930560, 4162873344, 81, atRegT⟩
def fm20 : Fm := ⟨21, 0, 4294966272, 3370122240, 82, rdRnT⟩
def fm21 : Fm := ⟨21, 1, 4294966272, 4173316096, 82, rdRnT⟩
def fm22 : Fm := ⟨22, 0, 4294966272, 3365927936, 82, rdRnT⟩
def fm23 : Fm := ⟨23, (-1), 4294933504, 3361700864, 83, ldxrT⟩
def fm24 : Fm := ⟨24, (-1), 4292901888, 3355474944, 84, stxrT⟩
def fm25 : Fm := ⟨25, 0, 4294967295, 3573759839, 85, nothingT⟩
def fm26 : Fm := ⟨26, 0, 4294966527, 3573759167, 86, dmbT⟩
def fm27 : Fm := ⟨26, 1, 4294966527, 3573759135, 86, dmbT⟩
def fm28 : Fm := ⟨27, 0, 4294967295, 3573759967, 85, nothingT⟩
def fm29 : Fm := ⟨28, 0, 4294967264, 3574297888, 87, rdT⟩
def fm30 : Fm := ⟨30, 0, 4294967264, 3574299424, 87, rdT⟩
def fm31 : Fm := ⟨29, 0, 4294967295, 3574101279, 85, nothingT⟩
def fm32 : Fm := ⟨31, 0, 4293918720, 3576692736, 88, systemT⟩
def fm33 : Fm := ⟨32, 0, 4293918720, 3574595584, 88, systemT⟩
def fm34 : Fm := ⟨33, 0, 4294963455, 3573760223, 89, msrMaskT⟩
def fm35 : Fm := ⟨33, 1, 4294963455, 3573760255, 89, msrMaskT⟩
def fm36 : Fm := ⟨34, 0, 4292870175, 3556769793, 90, callT⟩
def fm37 : Fm := ⟨35, 0, 4292870175, 3558866944, 90, callT⟩
def fm38 : Fm := ⟨36, 0, 4294967295, 3600745440, 85, nothingT⟩
def fm39 : Fm := ⟨37, 0, 4294967071, 3573751839, 91, hintT⟩
def formsA : List Fm := [fm0, fm1, fm2, fm3, fm4, fm5, fm6, fm7, fm8, fm9, fm10, fm11, fm12, fm13, fm14, fm15, fm16, fm17, fm18, fm19]
def formsB : List Fm := [fm20, fm21, fm22, fm23, fm24, fm25, fm26, fm27, fm28, fm29, fm30, fm31, fm32, fm33, fm34, fm35, fm36, fm37, fm38, fm39]
def forms : List Fm := formsA ++ formsB
def formCells : List Value := forms.flatMap Fm.cells
theorem wpList_built {P : Program} {ops : Array Oper} {rest : List Oper} {o : Oper} {a : Act} {w : World} {Q : Exit → Act → World → Prop} (hg : o.guard = none) (t : TypeId) (parts : Array (Nat × Operand)) (ho : o.op = .build t parts)
    (cs : Array Value) (hf : P.built t (parts.map fun (i, x) => (i, a.eval x)).toList = some cs)
    (h : wpList P ops Q rest (a.put o.dst (.agg cs)) w) : wpList P ops Q (o :: rest) a w :=
  wpList_build hg t parts ho (by rw [hf]; rfl) (by rw [hf]; exact h)
theorem info40 : (Tryz.prog.info? 76).map (·.size) = some formCells.toArray.size := by kernel_rfl
theorem forms_len : formCells.toArray.size = 200 := by kernel_rfl
theorem forms_one : formCells.toArray.all (·.oneCell') = true := by kernel_rfl

set_option maxRecDepth 10000 in
set_option maxHeartbeats 4000000 in
theorem allForms_c (w : World) :
    Calls Tryz.prog 35 #[] w fun e w' => e = .returned (.agg formCells.toArray) ∧ Below w.heap.size w w' := by
  go_enter Tryz.func35, Tryz.ntmps35
  go_upto_region 1 with fail
  have hrow := heap_alloc_new w (.cells Tryz.zeroCells76 76)
  have HB := Go.Proofs.YtbjcdpmhmebjnaaGreat.below_alloc w (.cells Tryz.zeroCells76 76)
  generalize w.alloc (.cells Tryz.zeroCells76 76) = w1 at hrow HB ⊢
  refine wp_region_lit ?_

  with_reducible refine wpList_built rfl 75 _ rfl fm0.cells.toArray (by kernel_rfl) ?_
  simp only [Act.put, List.setIfInBounds_toArray, List.set_cons_succ, List.set_cons_zero]
  with_reducible refine wpList_built rfl 75 _ rfl fm1.cells.toArray (by kernel_rfl) ?_
  simp only [Act.put, List.setIfInBounds_toArray, List.set_cons_succ, List.set_cons_zero]
  with_reducible refine wpList_built rfl 75 _ rfl fm2.cells.toArray (by kernel_rfl) ?_
  simp only [Act.put, List.setIfInBounds_toArray, List.set_cons_succ, List.set_cons_zero]
  with_reducible refine wpList_built rfl 75 _ rfl fm3.cells.toArray (by kernel_rfl) ?_
  simp only [Act.put, List.setIfInBounds_toArray, List.set_cons_succ, List.set_cons_zero]
  with_reducible refine wpList_built rfl 75 _ rfl fm4.cells.toArray (by kernel_rfl) ?_
  simp only [Act.put, List.setIfInBounds_toArray, List.set_cons_succ, List.set_cons_zero]
  with_reducible refine wpList_built rfl 75 _ rfl fm5.cells.toArray (by kernel_rfl) ?_
  simp only [Act.put, List.setIfInBounds_toArray, List.set_cons_succ, List.set_cons_zero]
  with_reducible refine wpList_built rfl 75 _ rfl fm6.cells.toArray (by kernel_rfl) ?_
  simp only [Act.put, List.setIfInBounds_toArray, List.set_cons_succ, List.set_cons_zero]
  with_reducible refine wpList_built rfl 75 _ rfl fm7.cells.toArray (by kernel_rfl) ?_
  simp only [Act.put, List.setIfInBounds_toArray, List.set_cons_succ, List.set_cons_zero]
  with_reducible refine wpList_built rfl 75 _ rfl fm8.cells.toArray (by kernel_rfl) ?_
  simp only [Act.put, List.setIfInBounds_toArray, List.set_cons_succ, List.set_cons_zero]
  with_reducible refine wpList_built rfl 75 _ rfl fm9.cells.toArray (by kernel_rfl) ?_
  simp only [Act.put, List.setIfInBounds_toArray, List.set_cons_succ, List.set_cons_zero]
  with_reducible refine wpList_built rfl 75 _ rfl fm10.cells.toArray (by kernel_rfl) ?_
  simp only [Act.put, List.setIfInBounds_toArray, List.set_cons_succ, List.set_cons_zero]
  with_reducible refine wpList_built rfl 75 _ rfl fm11.cells.toArray (by kernel_rfl) ?_
  simp only [Act.put, List.setIfInBounds_toArray, List.set_cons_succ, List.set_cons_zero]
  with_reducible refine wpList_built rfl 75 _ rfl fm12.cells.toArray (by kernel_rfl) ?_
  simp only [Act.put, List.setIfInBounds_toArray, List.set_cons_succ, List.set_cons_zero]
  with_reducible refine wpList_built rfl 75 _ rfl fm13.cells.toArray (by kernel_rfl) ?_
  simp only [Act.put, List.setIfInBounds_toArray, List.set_cons_succ, List.set_cons_zero]
  with_reducible refine wpList_built rfl 75 _ rfl fm14.cells.toArray (by kernel_rfl) ?_
  simp only [Act.put, List.setIfInBounds_toArray, List.set_cons_succ, List.set_cons_zero]
  with_reducible refine wpList_built rfl 75 _ rfl fm15.cells.toArray (by kernel_rfl) ?_
  simp only [Act.put, List.setIfInBounds_toArray, List.set_cons_succ, List.set_cons_zero]
  with_reducible refine wpList_built rfl 75 _ rfl fm16.cells.toArray (by kernel_rfl) ?_
  simp only [Act.put, List.setIfInBounds_toArray, List.set_cons_succ, List.set_cons_zero]
  with_reducible refine wpList_built rfl 75 _ rfl fm17.cells.toArray (by kernel_rfl) ?_
  simp only [Act.put, List.setIfInBounds_toArray, List.set_cons_succ, List.set_cons_zero]
  with_reducible refine wpList_built rfl 75 _ rfl fm18.cells.toArray (by kernel_rfl) ?_
  simp only [Act.put, List.setIfInBounds_toArray, List.set_cons_succ, List.set_cons_zero]
  with_reducible refine wpList_built rfl 75 _ rfl fm19.cells.toArray (by kernel_rfl) ?_
  simp only [Act.put, List.setIfInBounds_toArray, List.set_cons_succ, List.set_cons_zero]
  with_reducible refine wpList_built rfl 75 _ rfl fm20.cells.toArray (by kernel_rfl) ?_
  simp only [Act.put, List.setIfInBounds_toArray, List.set_cons_succ, List.set_cons_zero]
  with_reducible refine wpList_built rfl 75 _ rfl fm21.cells.toArray (by kernel_rfl) ?_
  simp only [Act.put, List.setIfInBounds_toArray, List.set_cons_succ, List.set_cons_zero]
  with_reducible refine wpList_built rfl 75 _ rfl fm22.cells.toArray (by kernel_rfl) ?_
  simp only [Act.put, List.setIfInBounds_toArray, List.set_cons_succ, List.set_cons_zero]
  with_reducible refine wpList_built rfl 75 _ rfl fm23.cells.toArray (by kernel_rfl) ?_
  simp only [Act.put, List.setIfInBounds_toArray, List.set_cons_succ, List.set_cons_zero]
  with_reducible refine wpList_built rfl 75 _ rfl fm24.cells.toArray (by kernel_rfl) ?_
  simp only [Act.put, List.setIfInBounds_toArray, List.set_cons_succ, List.set_cons_zero]
  with_reducible refine wpList_built rfl 75 _ rfl fm25.cells.toArray (by kernel_rfl) ?_
  simp only [Act.put, List.setIfInBounds_toArray, List.set_cons_succ, List.set_cons_zero]
  with_reducible refine wpList_built rfl 75 _ rfl fm26.cells.toArray (by kernel_rfl) ?_
  simp only [Act.put, List.setIfInBounds_toArray, List.set_cons_succ, List.set_cons_zero]
  with_reducible refine wpList_built rfl 75 _ rfl fm27.cells.toArray (by kernel_rfl) ?_
  simp only [Act.put, List.setIfInBounds_toArray, List.set_cons_succ, List.set_cons_zero]
  with_reducible refine wpList_built rfl 75 _ rfl fm28.cells.toArray (by kernel_rfl) ?_
  simp only [Act.put, List.setIfInBounds_toArray, List.set_cons_succ, List.set_cons_zero]
  with_reducible refine wpList_built rfl 75 _ rfl fm29.cells.toArray (by kernel_rfl) ?_
  simp only [Act.put, List.setIfInBounds_toArray, List.set_cons_succ, List.set_cons_zero]
  with_reducible refine wpList_built rfl 75 _ rfl fm30.cells.toArray (by kernel_rfl) ?_
  simp only [Act.put, List.setIfInBounds_toArray, List.set_cons_succ, List.set_cons_zero]
  with_reducible refine wpList_built rfl 75 _ rfl fm31.cells.toArray (by kernel_rfl) ?_
  simp only [Act.put, List.setIfInBounds_toArray, List.set_cons_succ, List.set_cons_zero]
  with_reducible refine wpList_built rfl 75 _ rfl fm32.cells.toArray (by kernel_rfl) ?_
  simp only [Act.put, List.setIfInBounds_toArray, List.set_cons_succ, List.set_cons_zero]
  with_reducible refine wpList_built rfl 75 _ rfl fm33.cells.toArray (by kernel_rfl) ?_
  simp only [Act.put, List.setIfInBounds_toArray, List.set_cons_succ, List.set_cons_zero]
  with_reducible refine wpList_built rfl 75 _ rfl fm34.cells.toArray (by kernel_rfl) ?_
  simp only [Act.put, List.setIfInBounds_toArray, List.set_cons_succ, List.set_cons_zero]
  with_reducible refine wpList_built rfl 75 _ rfl fm35.cells.toArray (by kernel_rfl) ?_
  simp only [Act.put, List.setIfInBounds_toArray, List.set_cons_succ, List.set_cons_zero]
  with_reducible refine wpList_built rfl 75 _ rfl fm36.cells.toArray (by kernel_rfl) ?_
  simp only [Act.put, List.setIfInBounds_toArray, List.set_cons_succ, List.set_cons_zero]
  with_reducible refine wpList_built rfl 75 _ rfl fm37.cells.toArray (by kernel_rfl) ?_
  simp only [Act.put, List.setIfInBounds_toArray, List.set_cons_succ, List.set_cons_zero]
  with_reducible refine wpList_built rfl 75 _ rfl fm38.cells.toArray (by kernel_rfl) ?_
  simp only [Act.put, List.setIfInBounds_toArray, List.set_cons_succ, List.set_cons_zero]
  with_reducible refine wpList_built rfl 75 _ rfl fm39.cells.toArray (by kernel_rfl) ?_
  simp only [Act.put, List.setIfInBounds_toArray, List.set_cons_succ, List.set_cons_zero]
  with_reducible refine wpList_built rfl 76 _ rfl formCells.toArray (by kernel_rfl) ?_
  simp only [Act.put, List.setIfInBounds_toArray, List.set_cons_succ, List.set_cons_zero]
  with_reducible refine wpList_store_row rfl 76 _ _ rfl w.heap.size formCells.toArray rfl rfl 76 _ hrow info40 (by kernel_rfl) forms_one ?_
  go_wp2
  refine bodyPost_ret (results_cell_row rfl _ _ _ 76 _ (0, 0) _ rfl (setRow_heap _ _ _ _ _ _ hrow) Tryz.underlying76 rfl info40) rfl ?_
  exact ⟨rfl, below_setRow HB (Nat.le_refl _)⟩
end Go.Proofs.YtbjcdpmhmebjnaaGreat
/- What Signed and Ror of package bits, and of the document's own answer, give back, for all numbers: contracts. -/
namespace Go.Proofs.YtbjcdpmhmebjnaaGreat
open Go.RowKit

set_option maxHeartbeats 400000 in
theorem turn_c (v b m : Int) (hv : Hid (0 ≤ v ∧ v < 18446744073709551616)) (hb : 0 ≤ b) (hm : 1 ≤ m) (hm2 : m ≤ 64) (w : World) :
    Calls Tryz.prog 235 #[.int .u64 v, .int .i64 b, .int .i64 m] w fun e w' => e = .returned (.int .u64 (turnF v b m)) ∧ ∃ n, w' = w.drewN n := by
  have hE := turn_walk v b m hv hb hm hm2
  replace hE := show Hid _ from hE
  have r1 : 0 ≤ b % m := Int.emod_nonneg _ (by omega)
  have r2 : b % m < m := Int.emod_lt_of_pos _ (by omega)
  go_enter Tryz.func235, Tryz.ntmps235
  go_wp2
  go_quiet ((go_at_call 233; exact Calls.quiet_of_same (low_c _ (by omega) _)))
  go_wp2
  go_ret
  exact ⟨ret_int hE.out, _, rfl⟩

theorem ror_place {k : Nat} {b m : Int} (h0 : 0 ≤ b) (h1 : 1 ≤ m) : (((k : Int) + b) % m).toNat = (k + b.toNat % m.toNat) % m.toNat := by
  obtain ⟨B, rfl⟩ := Int.eq_ofNat_of_zero_le h0
  obtain ⟨M, rfl⟩ := Int.eq_ofNat_of_zero_le (show 0 ≤ m by omega)
  have e : (((k : Int) + (B : Int)) % (M : Int)) = (((k + B % M) % M : Nat) : Int) := by simp
  rw [e]
  simp only [Int.toNat_natCast]

end Go.Proofs.YtbjcdpmhmebjnaaGreat
/- Plain facts on masks: the size, the ones, how they are turned and laid again and again: no Go text is named here. -/
namespace Go.Proofs.YtbjcdpmhmebjnaaGreat
open Go.RowKit

/-- The size that imms tells. -/
def sizeI (n s : Int) : Int :=
  if n = 1 then 64 else if s ≤ 31 then 32 else if s ≤ 47 then 16 else if s ≤ 55 then 8 else if s ≤ 59 then 4 else if s ≤ 61 then 2 else if s ≤ 62 then 1 else 0

def isSize (m : Int) : Prop := m = 2 ∨ m = 4 ∨ m = 8 ∨ m = 16 ∨ m = 32 ∨ m = 64

theorem sizeI_cases (n s : Int) : (sizeI n s < 2 ∨ isSize (sizeI n s)) ∧ sizeI n s ≤ 64 ∧ 0 ≤ sizeI n s := by
  unfold sizeI isSize
  split
  · omega
  · split
    · omega
    · split
      · omega
      · split
        · omega
        · split
          · omega
          · split
            · omega
            · split <;> omega

/-- What stands at the size loop's head. -/
def sizeHead (s z : Int) : Prop := z = 32 ∨ ((z = 16 ∨ z = 8 ∨ z = 4 ∨ z = 2 ∨ z = 1) ∧ 63 - s < 2 * z) ∨ (z = 0 ∧ s = 63)

theorem sizeHead_next {s z : Int} (hs : 0 ≤ s) (hs2 : s ≤ 63) (h : sizeHead s z) (hlt : 63 - s < z) : sizeHead s (z / 2) ∧ 0 < z ∧ z ≤ 32 := by
  unfold sizeHead at *
  omega

theorem sizeHead_end {n s z : Int} (hn : n ≠ 1) (hs2 : s ≤ 63) (h : sizeHead s z) (hge : z ≤ 63 - s) : z = sizeI n s := by
  unfold sizeHead at h
  unfold sizeI
  rw [if_neg hn]
  split
  · omega
  · split
    · omega
    · split
      · omega
      · split
        · omega
        · split
          · omega
          · split <;> omega

theorem sizeHead_bounds {s z : Int} (h : sizeHead s z) : 0 ≤ z ∧ z ≤ 32 := by
  unfold sizeHead at h
  omega

/-! ### The piece, laid again and again -/
def repBit (p m : Int) (i : Nat) : Bool := p.toNat.testBit (i % m.toNat)
def repF (p m : Int) : Int := ((orBits (repBit p m) 64 : Nat) : Int)

theorem rep_start (p m : Int) (h0 : 0 ≤ p) (hp : p.toNat < 2 ^ m.toNat) : p = ((orBits (repBit p m) m.toNat : Nat) : Int) := by
  have e : p.toNat = orBits (repBit p m) m.toNat := by
    apply eq_orBits
    intro i
    unfold repBit
    by_cases h : i < m.toNat
    · rw [Nat.mod_eq_of_lt h]; simp [h]
    · have : p.toNat.testBit i = false := Nat.testBit_lt_two_pow (Nat.lt_of_lt_of_le hp (Nat.pow_le_pow_right (by decide) (by omega)))
      simp [h, this]
  omega

theorem rep_step (p m : Int) (s : Nat) (hd : m.toNat ∣ s) (hs : s + s ≤ 64) :
    bits .or .u64 ((orBits (repBit p m) s : Nat) : Int) (IntKind.u64.wrap (((orBits (repBit p m) s : Nat) : Int) * 2 ^ s)) = ((orBits (repBit p m) (s + s) : Nat) : Int) := by
  have h1 := orBits_lt (repBit p m) s
  have h2 : orBits (repBit p m) s * 2 ^ s < 18446744073709551616 := by
    have a : orBits (repBit p m) s * 2 ^ s < 2 ^ s * 2 ^ s := Nat.mul_lt_mul_of_pos_right h1 (Nat.two_pow_pos _)
    rw [← Nat.pow_add] at a
    exact Nat.lt_of_lt_of_le a (pow_le64 hs)
  have e : IntKind.u64.wrap (((orBits (repBit p m) s : Nat) : Int) * 2 ^ s) = ((orBits (repBit p m) s * 2 ^ s : Nat) : Int) := by
    rw [IntKind.wrap_u64]
    have : ((orBits (repBit p m) s : Nat) : Int) * 2 ^ s = ((orBits (repBit p m) s * 2 ^ s : Nat) : Int) := by simp
    rw [this]
    omega
  rw [e, bits_or_u64_nat _ _ (orBits_lt64 _ s (by omega)) h2]
  congr 1
  apply eq_orBits
  intro i
  rw [Nat.testBit_or, Nat.testBit_mul_two_pow, testBit_orBits, testBit_orBits]
  by_cases c1 : i < s
  · have c2 : i < s + s := by omega
    have c3 : ¬ s ≤ i := by omega
    simp [c1, c2, c3]
  · by_cases c2 : i < s + s
    · have c3 : s ≤ i := by omega
      have c4 : i - s < s := by omega
      have c5 : repBit p m (i - s) = repBit p m i := by
        unfold repBit
        congr 1
        obtain ⟨c, hc⟩ := hd
        have : i = (i - s) + m.toNat * c := by omega
        conv => rhs; rw [this]
        rw [Nat.add_mul_mod_self_left]
      simp [c1, c2, c3, c4, c5]
    · have c4 : ¬ i - s < s := by omega
      simp [c1, c2, c4]

/-! ### The mask of a size, a number of ones and a turn -/
def maskN (z s r : Nat) : Nat := orBits (fun i => (turnN (2 ^ (s + 1) - 1) r z).testBit (i % z)) 64

def argB (n r s : Int) : Bool := decide ((0 ≤ n ∧ n ≤ 1) ∧ (0 ≤ r ∧ r ≤ 63) ∧ (0 ≤ s ∧ s ≤ 63))
def badB (n s : Int) : Bool := decide (sizeI n s < 2 ∨ s % sizeI n s = sizeI n s - 1)
def maskV (n r s : Int) : Int := if (argB n r s && !badB n s) = true then ((maskN (sizeI n s).toNat (s % sizeI n s).toNat (r % sizeI n s).toNat : Nat) : Int) else 0
def maskE (n r s : Int) : Int := if argB n r s = true then (if badB n s = true then 2 else 0) else 1

theorem arg_of {n r s : Int} (h : argB n r s = true) : (0 ≤ n ∧ n ≤ 1) ∧ (0 ≤ r ∧ r ≤ 63) ∧ (0 ≤ s ∧ s ≤ 63) := by
  unfold argB at h
  rwa [decide_eq_true_eq] at h

theorem notarg_of {n r s : Int} (h : argB n r s = false) : ¬ ((0 ≤ n ∧ n ≤ 1) ∧ (0 ≤ r ∧ r ≤ 63) ∧ (0 ≤ s ∧ s ≤ 63)) := by
  unfold argB at h
  rwa [decide_eq_false_iff_not] at h

theorem mask_arg {n r s : Int} (h : argB n r s = false) : maskV n r s = 0 ∧ maskE n r s = 1 := by
  unfold maskV maskE
  rw [h]
  exact ⟨rfl, rfl⟩

theorem mask_bad {n r s : Int} (h : argB n r s = true) (hb : badB n s = true) : maskV n r s = 0 ∧ maskE n r s = 2 := by
  unfold maskV maskE
  rw [h, hb]
  exact ⟨rfl, rfl⟩

theorem mask_yes {n r s : Int} (h : argB n r s = true) (hb : badB n s = false) : maskV n r s = ((maskN (sizeI n s).toNat (s % sizeI n s).toNat (r % sizeI n s).toNat : Nat) : Int) ∧ maskE n r s = 0 := by
  unfold maskV maskE
  rw [h, hb]
  exact ⟨rfl, rfl⟩

theorem size_pos {m : Int} (h : isSize m) : 2 ≤ m ∧ m ≤ 64 := by unfold isSize at h; omega

theorem lowF_bounds (k : Int) : 0 ≤ lowF k ∧ lowF k < 18446744073709551616 := by
  unfold lowF
  have := pow_le64 (m := min k.toNat 64) (by omega)
  have := Nat.two_pow_pos (min k.toNat 64)
  omega

theorem turnF_bounds (v b m : Int) (hm : m ≤ 64) : 0 ≤ turnF v b m ∧ turnF v b m < 18446744073709551616 := by
  unfold turnF
  have := turnN_lt v.toNat b.toNat m.toNat
  have := pow_le64 (m := m.toNat) (by omega)
  omega

theorem turnF_fits (v b m : Int) : (turnF v b m).toNat < 2 ^ m.toNat := by
  unfold turnF
  rw [Int.toNat_natCast]
  exact turnN_lt _ _ _

/-- What package bits makes of them is the mask. -/
theorem mask_code {z s r : Int} (hz : 2 ≤ z) (hz2 : z ≤ 64) : repF (turnF (lowF (s % z + 1)) (r % z) z) z = ((maskN z.toNat (s % z).toNat (r % z).toNat : Nat) : Int) := by
  have q1 : 0 ≤ s % z := Int.emod_nonneg _ (by omega)
  have q2 : s % z < z := Int.emod_lt_of_pos _ (by omega)
  have e : (s % z + 1).toNat = (s % z).toNat + 1 := by omega
  have e2 : min ((s % z).toNat + 1) 64 = (s % z).toNat + 1 := by omega
  unfold repF maskN repBit turnF lowF
  rw [e, e2]
  simp only [Int.toNat_natCast]

theorem ones_low (k : Nat) (hk : k ≤ 64) : ((orBits (fun _ => true) k : Nat) : Int) = lowF (k : Int) := by
  unfold lowF
  have : 2 ^ k - 1 = orBits (fun _ => true) k := by
    apply eq_orBits
    intro i
    rw [Nat.testBit_two_pow_sub_one]
    simp
  rw [Int.toNat_natCast, show min k 64 = k by omega, this]

theorem one_step (k : Nat) (hk : k < 64) : bits .or .u64 ((orBits (fun _ => true) k : Nat) : Int) (IntKind.u64.wrap (2 ^ k)) = ((orBits (fun _ => true) (k + 1) : Nat) : Int) := by
  have := or_step (fun _ => true) k hk 1 rfl
  rwa [Int.one_mul] at this

theorem low_fits {k z : Int} (h1 : k ≤ z) (hz : z ≤ 64) : fits64 (lowF k) z = true := by
  unfold fits64 lowF
  rw [decide_eq_true_eq, Int.toNat_natCast]
  have : 2 ^ min k.toNat 64 ≤ 2 ^ z.toNat := Nat.pow_le_pow_right (by decide) (by omega)
  have := Nat.two_pow_pos (min k.toNat 64)
  omega

end Go.Proofs.YtbjcdpmhmebjnaaGreat
/- What Mask of package bits, and of the document's own answer, gives back, for all numbers: contracts. -/
namespace Go.Proofs.YtbjcdpmhmebjnaaGreat
open Go.RowKit

set_option maxHeartbeats 400000 in
theorem sizeOf_c (n s : Int) (hs : 0 ≤ s) (hs2 : s ≤ 63) (w : World) :
    Calls Tryz.prog 232 #[.int .i64 n, .int .i64 s] w fun e w' => e = .returned (.int .i64 (sizeI n s)) ∧ w' = w := by
  by_cases hn : n = 1
  · have hE : Hid (sizeI n s = 64) := by show _ = _; unfold sizeI; rw [if_pos hn]
    have hn : (n == 1) = true := by simpa using hn
    go_enter Tryz.func232, Tryz.ntmps232
    go_wp2
    go_ret
    exact ⟨ret_int hE.out.symm, rfl⟩
  · have hN : Hid (n ≠ 1) := hn
    have hn : (n == 1) = false := by simpa using hn
    go_enter Tryz.func232, Tryz.ntmps232
    go_wp2
    go_loop [5] (fun z => ∃ k : Int, Hid (sizeHead s k) ∧ z = .int .i64 k) (fun z => (intOf z).toNat)
    case atStart => exact ⟨32, Or.inl rfl, rfl⟩
    case round =>
      obtain ⟨k, hk, rfl⟩ := hrel
      obtain ⟨b1, b2⟩ := sizeHead_bounds hk.out
      by_cases hlt : 63 - s < k
      · obtain ⟨g1, g2, g3⟩ := sizeHead_next hs hs2 hk.out hlt
        have G : Hid (sizeHead s (k / 2)) := g1
        clear g1
        go_wp2
        go_round
        case rel => exact ⟨k / 2, G, rfl⟩
        case measure => simp [intOf]; omega
      · go_wp2
        go_ret
        exact ⟨ret_int (sizeHead_end hN.out hs2 hk.out (by omega)), rfl⟩

set_option maxHeartbeats 400000 in
theorem again_c (p m : Int) (hp : Hid (0 ≤ p ∧ p.toNat < 2 ^ m.toNat)) (hm : Hid (isSize m)) (w : World) :
    Calls Tryz.prog 234 #[.int .u64 p, .int .i64 m] w fun e w' => e = .returned (.int .u64 (repF p m)) ∧ w' = w := by
  obtain ⟨h1, h2⟩ := size_pos hm.out
  go_enter Tryz.func234, Tryz.ntmps234
  go_wp2
  go_loop [0, 1] (fun q z => ∃ k : Nat, Hid (isSize k) ∧ Hid (m.toNat ∣ k) ∧ z = .int .i64 k ∧ q = .int .u64 ((orBits (repBit p m) k : Nat) : Int)) (fun _ z => 64 - (intOf z).toNat)
  case atStart =>
    refine ⟨m.toNat, ?_, Nat.dvd_refl _, ?_, ?_⟩
    · rw [Int.toNat_of_nonneg (by omega)]; exact hm
    · rw [Int.toNat_of_nonneg (by omega)]
    · rw [← rep_start p m hp.out.1 hp.out.2]
  case round =>
    obtain ⟨k, hk, hd, rfl, rfl⟩ := hrel
    obtain ⟨b1, b2⟩ := size_pos hk.out
    by_cases hlt : (k : Int) < 64
    · have hk2 : Hid (isSize ((k + k : Nat) : Int)) ∧ k + k ≤ 64 := by
        have := hk.out; unfold isSize at this; refine ⟨?_, by omega⟩; show isSize _; unfold isSize; omega
      obtain ⟨hk2, hk3⟩ := hk2
      go_wp2
      go_round
      case rel =>
        refine ⟨k + k, hk2, Nat.dvd_add hd.out hd.out, ?_, ?_⟩
        · rw [show ((k + k : Nat) : Int) = (k : Int) * 2 by omega]
        · rw [rep_step p m k hd.out hk3]
      case measure => simp [intOf]; omega
    · obtain rfl : k = 64 := by omega
      go_wp2
      go_ret
      exact ⟨ret_int rfl, rfl⟩

set_option maxHeartbeats 800000 in
theorem mask_c (n r s : Int) (w : World) :
    Calls Tryz.prog 199 #[.int .i64 n, .int .i64 r, .int .i64 s] w fun e w' => e = .returned (.tuple #[.int .u64 (maskV n r s), .int .i64 (maskE n r s)]) ∧ ∃ m, w' = w.drewN m := by
  by_cases ha : argB n r s = true
  · obtain ⟨⟨a1, a2⟩, ⟨a3, a4⟩, a5, a6⟩ := arg_of ha
    have s1 : sixB r = true := by unfold sixB; rw [decide_eq_true_eq]; omega
    have s2 : sixB s = true := by unfold sixB; rw [decide_eq_true_eq]; omega
    obtain ⟨z1, z2, z3⟩ := sizeI_cases n s
    by_cases hb : badB n s = true
    · have hE := mask_bad ha hb
      replace hE := show Hid _ from hE
      have hb' : Hid (sizeI n s < 2 ∨ s % sizeI n s = sizeI n s - 1) := by unfold badB at hb; rwa [decide_eq_true_eq] at hb
      clear z1 ha hb
      generalize hZ : sizeI n s = z at *
      replace hZ := show Hid _ from hZ
      by_cases hz : z < 2
      · go_enter Tryz.func199, Tryz.ntmps199
        go_wp2_with (first | (go_at_call 231; refine (six_c _ _).mono ?_; rintro e w' ⟨rfl, rfl⟩) | (go_at_call 232; refine (sizeOf_c _ _ (by omega) (by omega) _).mono ?_; rw [hZ.out]; rintro e w' ⟨rfl, rfl⟩))
        go_ret2
        exact ⟨ret_two hE.out.1.symm hE.out.2.symm, 0, rfl⟩
      · have hz2 : (s % z == z - 1) = true := by have := hb'.out; rw [beq_iff_eq]; omega
        go_enter Tryz.func199, Tryz.ntmps199
        go_wp2_with (first | (go_at_call 231; refine (six_c _ _).mono ?_; rintro e w' ⟨rfl, rfl⟩) | (go_at_call 232; refine (sizeOf_c _ _ (by omega) (by omega) _).mono ?_; rw [hZ.out]; rintro e w' ⟨rfl, rfl⟩))
        go_ret2
        exact ⟨ret_two hE.out.1.symm hE.out.2.symm, 0, rfl⟩
    · have hbf : badB n s = false := by simpa using hb
      have hE := mask_yes ha hbf
      replace hE := show Hid _ from hE
      have hb' : Hid (¬ (sizeI n s < 2 ∨ s % sizeI n s = sizeI n s - 1)) := by unfold badB at hbf; rwa [decide_eq_false_iff_not] at hbf
      clear ha hb hbf
      generalize hZ : sizeI n s = z at *
      replace hZ := show Hid _ from hZ
      have hz : 2 ≤ z := by have := hb'.out; omega
      have hZs : Hid (isSize z) := by rcases z1 with h | h; exact absurd h (by omega); exact h
      clear z1
      have hz2 : (s % z == z - 1) = false := by have := hb'.out; rw [beq_eq_false_iff_ne]; omega
      have q1 : 0 ≤ s % z := Int.emod_nonneg _ (by omega)
      have q2 : s % z < z := Int.emod_lt_of_pos _ (by omega)
      have q3 : 0 ≤ r % z := Int.emod_nonneg _ (by omega)
      have q4 : r % z < z := Int.emod_lt_of_pos _ (by omega)
      have hM := mask_code (s := s) (r := r) hz z2
      replace hM := show Hid _ from hM
      go_enter Tryz.func199, Tryz.ntmps199
      go_wp2_with (first | (go_at_call 231; refine (six_c _ _).mono ?_; rintro e w' ⟨rfl, rfl⟩) | (go_at_call 232; refine (sizeOf_c _ _ (by omega) (by omega) _).mono ?_; rw [hZ.out]; rintro e w' ⟨rfl, rfl⟩) | (go_at_call 233; refine (low_c _ (by omega) _).mono ?_; rintro e w' ⟨rfl, rfl⟩) | (go_at_call 235; refine (turn_c _ _ _ (lowF_bounds _) (by omega) (by omega) (by omega) _).mono ?_; rintro e w' ⟨rfl, nn, rfl⟩) | (go_at_call 234; refine (again_c _ _ ⟨(turnF_bounds _ _ _ (by omega)).1, turnF_fits _ _ _⟩ hZs _).mono ?_; rintro e w' ⟨rfl, rfl⟩))
      go_ret2
      exact ⟨ret_two (by rw [hE.out.1]; exact hM.out) hE.out.2.symm, _, rfl⟩
  · have ha : argB n r s = false := by simpa using ha
    have hE := mask_arg ha
    replace hE := show Hid _ from hE
    have hn : Hid (¬ ((0 ≤ n ∧ n ≤ 1) ∧ (0 ≤ r ∧ r ≤ 63) ∧ (0 ≤ s ∧ s ≤ 63))) := notarg_of ha
    clear ha
    by_cases g1 : n < 0
    · go_enter Tryz.func199, Tryz.ntmps199
      go_wp2_with (go_at_call 231; refine (six_c _ _).mono ?_; rintro e w' ⟨rfl, rfl⟩)
      go_ret2
      exact ⟨ret_two hE.out.1.symm hE.out.2.symm, 0, rfl⟩
    · by_cases g2 : 1 < n
      · go_enter Tryz.func199, Tryz.ntmps199
        go_wp2_with (go_at_call 231; refine (six_c _ _).mono ?_; rintro e w' ⟨rfl, rfl⟩)
        go_ret2
        exact ⟨ret_two hE.out.1.symm hE.out.2.symm, 0, rfl⟩
      · by_cases g3 : sixB r = true
        · have g4 : sixB s = false := by
            unfold sixB at *
            rw [decide_eq_true_eq] at g3
            rw [decide_eq_false_iff_not]
            have := hn.out
            omega
          go_enter Tryz.func199, Tryz.ntmps199
          go_wp2_with (go_at_call 231; refine (six_c _ _).mono ?_; rintro e w' ⟨rfl, rfl⟩)
          go_ret2
          exact ⟨ret_two hE.out.1.symm hE.out.2.symm, 0, rfl⟩
        · have g3 : sixB r = false := by simpa using g3
          go_enter Tryz.func199, Tryz.ntmps199
          go_wp2_with (go_at_call 231; refine (six_c _ _).mono ?_; rintro e w' ⟨rfl, rfl⟩)
          go_ret2
          exact ⟨ret_two hE.out.1.symm hE.out.2.symm, 0, rfl⟩

theorem mod_place {k : Nat} {z : Int} (hz : 0 ≤ z) : ((k : Int) % z).toNat = k % z.toNat := by
  obtain ⟨Z, rfl⟩ := Int.eq_ofNat_of_zero_le hz
  have e : ((k : Int) % (Z : Int)) = ((k % Z : Nat) : Int) := by simp
  rw [e]
  simp only [Int.toNat_natCast]

end Go.Proofs.YtbjcdpmhmebjnaaGreat
/- What an Op leaves to its fields: what the functions of package insn's file room give back, each for all that it is called with: contracts. -/
namespace Go.Proofs.YtbjcdpmhmebjnaaGreat
open Go.RowKit Go.Rel

set_option maxHeartbeats 400000 in
theorem upTo_c (n : Int) (w : World) :
    Calls Tryz.prog 176 #[vI n] w fun e w' => e = .returned (.agg #[vI 0, vI n, vI 1]) ∧ w' = w.alloc (.cells #[vI 0, vI n, vI 1] 105) := by
  go_enter Tryz.func176, Tryz.ntmps176
  go_wp2
  exact bodyPost_ret (v := .agg #[vI 0, vI n, vI 1]) (by simp [results, Tryz.results176, go_sem]) rfl ⟨rfl, rfl⟩

set_option maxHeartbeats 400000 in
theorem branch_c (m : Int) (hm : m = 26 ∨ m = 19 ∨ m = 14) (w : World) :
    Calls Tryz.prog 217 #[vI m] w fun e w' => e = .returned (.agg #[vI (brS m).lo, vI (brS m).hi, vI (brS m).st]) ∧ w' = (w.alloc (.cells #[vI (brS m).lo, vI (brS m).hi, vI (brS m).st] 105)).drew := by
  rcases hm with rfl | rfl | rfl
  all_goals
    go_enter Tryz.func217, Tryz.ntmps217
    go_wp2
    go_region
    go_wp2
  · exact bodyPost_ret (v := (brS 26).val) (by simp [results, Tryz.results217, go_sem, brS]) rfl ⟨rfl, rfl⟩
  · exact bodyPost_ret (v := (brS 19).val) (by simp [results, Tryz.results217, go_sem, brS]) rfl ⟨rfl, rfl⟩
  · exact bodyPost_ret (v := (brS 14).val) (by simp [results, Tryz.results217, go_sem, brS]) rfl ⟨rfl, rfl⟩

set_option maxHeartbeats 4000000 in
theorem setRegisters_c (op : Int) (w : World) :
    Calls Tryz.prog 172 #[.pointer (some ⟨w.heap.size, 0, none⟩), vI op] (w.alloc (.cells #[vI 0, vI 0, vI 0, vI 0, vI 0, vI 0, vI 0, vI 0, vI 0, vI 0, vI 0, vI 0, vI 0, vI 0, vI 0, vI 0, vI 0, vI 0, vI 0, vI 0, vI 0, vI 0, vI 0, vI 0, vI 0, vI 0, vI 0, vI 0, vI 0, vI 0, .bool false, .bool false, .bool false, .bool false] 107)) fun e w' => e = .returned (.tuple #[]) ∧
      w' = ((w.alloc (.cells #[vI 0, vI (h31 (hasRd op)), vI (h1 (hasRd op)), vI 0, vI (h31 (hasRn op)), vI (h1 (hasRn op)), vI 0, vI (h31 (hasRm op)), vI (h1 (hasRm op)), vI 0, vI (h31 (hasRa op)), vI (h1 (hasRa op)), vI 0, vI 0, vI 0, vI 0, vI 0, vI 0, vI 0, vI 0, vI 0, vI 0, vI 0, vI 0, vI 0, vI 0, vI 0, vI 0, vI 0, vI 0, .bool false, .bool false, .bool false, .bool false] 107)).alloc (.cells #[vI 0, vI 31, vI 1] 105)).alloc (.cells #[vI 0, vI 31, vI 1] 105) := by
  go_enter Tryz.func172, Tryz.ntmps172
  repeat' (first | with_reducible refine then_exit ?_ | with_reducible refine then_normal ?_ | with_reducible refine inBlock_eq ?_ | with_reducible refine inBlock_ne rfl ?_ | with_reducible refine inBlock_normal ?_ | (go_at_call 176; refine (upTo_c _ _).mono ?_; rintro e w' ⟨rfl, rfl⟩; dsimp only) | go_step)
  all_goals (go_end0; refine ⟨rfl, ?_⟩; rename_i h; first | (obtain rfl := eq_of_beq h; rfl) | (simp only [hasRd, hasRn, hasRn2, hasRm, hasRa, h31, h1, cond_false, Bool.or_false, *]))
end Go.Proofs.YtbjcdpmhmebjnaaGreat
/- The same contracts of immOf and amountOf, with the world behind the call written out. -/
namespace Go.Proofs.YtbjcdpmhmebjnaaGreat
open Go.RowKit Go.Rel

abbrev w2 (w : World) (i : Ins) (s : Span) : World := (w.alloc (.cells i.cells 47)).alloc (.cells s.cells 105)
abbrev w3 (w : World) (i : Ins) (s : Span) : World := (w2 w i s).alloc (.cells s.cells 105)

def immW (i : Ins) (w : World) : World :=
  bif i.op == 1 || i.op == 4 || i.op == 6 || i.op == 5 || i.op == 34 || i.op == 35 || i.op == 33 || i.op == 37 then w3 w i (immS i.op i.sub)
  else bif i.op == 12 || i.op == 13 || i.op == 14 || i.op == 15 then (w3 w i (immS i.op i.sub)).drew else w2 w i (immS i.op i.sub)
def amountW (op : Int) (w : World) : World :=
  bif op == 2 || op == 3 || op == 15 || op == 4 then (w.alloc (.cells (amountS op).cells 105)).alloc (.cells (amountS op).cells 105) else w.alloc (.cells (amountS op).cells 105)

set_option maxRecDepth 4000 in
set_option maxHeartbeats 4000000 in
theorem immOf_x (i : Ins) (w : World) :
    Calls Tryz.prog 174 #[i.val] w fun e w' => e = .returned (immS i.op i.sub).val ∧ w' = immW i w := by
  obtain ⟨op, sub, rd, rn, rm, ra, imm, imm2, amount, shift, cond, sys, flags, minus, not, link⟩ := i
  go_enter Tryz.func174, Tryz.ntmps174
  repeat' (first | with_reducible refine then_exit ?_ | with_reducible refine then_normal ?_ | with_reducible refine inBlock_eq ?_ | with_reducible refine inBlock_ne rfl ?_ | with_reducible refine inBlock_normal ?_ | (go_at_call 176; refine (upTo_c _ _).mono ?_; rintro e w' ⟨rfl, rfl⟩; dsimp only) | (go_at_call 217; refine (branch_c _ (by decide) _).mono ?_; rintro e w' ⟨rfl, rfl⟩; dsimp only) | go_step)
  all_goals first
    | (rename_i h; obtain rfl := eq_of_beq h; exact bodyPost_ret (v := (immS _ sub).val) (by simp [results, Tryz.results174, go_sem, immS, upToS, zeroS, brS]) rfl ⟨rfl, rfl⟩)
    | (rename_i h' _ _ h; obtain rfl := eq_of_beq h'; obtain rfl := eq_of_beq h; exact bodyPost_ret (v := (immS 11 1).val) (by simp [results, Tryz.results174, go_sem, immS, upToS, zeroS, brS]) rfl ⟨rfl, rfl⟩)
    | (rename_i h' h; obtain rfl := eq_of_beq h'; exact bodyPost_ret (v := (immS 11 sub).val) (by simp only [immS, h, cond_false]; simp [results, Tryz.results174, go_sem]) rfl ⟨rfl, by simp only [immW, immS, h, cond_false]; rfl⟩)
    | (exact bodyPost_ret (v := (immS op sub).val) (by simp only [immS, zeroS, cond_false, Bool.or_false, *]; simp [results, Tryz.results174, go_sem]) rfl ⟨rfl, by simp only [immW, immS, zeroS, cond_false, Bool.or_false, *]⟩)

set_option maxHeartbeats 4000000 in
theorem amountOf_x (op : Int) (w : World) :
    Calls Tryz.prog 175 #[vI op] w fun e w' => e = .returned (amountS op).val ∧ w' = amountW op w := by
  go_enter Tryz.func175, Tryz.ntmps175
  repeat' (first | with_reducible refine then_exit ?_ | with_reducible refine then_normal ?_ | with_reducible refine inBlock_eq ?_ | with_reducible refine inBlock_ne rfl ?_ | with_reducible refine inBlock_normal ?_ | (go_at_call 176; refine (upTo_c _ _).mono ?_; rintro e w' ⟨rfl, rfl⟩; dsimp only) | go_step)
  all_goals first
    | (rename_i h; obtain rfl := eq_of_beq h; exact bodyPost_ret (v := (amountS _).val) (by simp [results, Tryz.results175, go_sem, amountS, upToS, zeroS]) rfl ⟨rfl, rfl⟩)
    | (exact bodyPost_ret (v := (amountS op).val) (by simp only [amountS, zeroS, cond_false, Bool.or_false, *]; simp [results, Tryz.results175, go_sem]) rfl ⟨rfl, by simp only [amountW, amountS, zeroS, cond_false, Bool.or_false, *]⟩)
end Go.Proofs.YtbjcdpmhmebjnaaGreat
/- What an Op leaves to the fields that tell its words apart: what setForm of package insn writes, whatever the instruction: a contract. -/
namespace Go.Proofs.YtbjcdpmhmebjnaaGreat
open Go.RowKit Go.Rel

/-- The blocks that setForm lays behind the room, the instruction's own box first. -/
def formW (op : Int) (W : World) : World :=
  bif op == 2 || op == 16 then W.alloc (.cells #[vI 0, vI 2, vI 1] 105)
  else bif op == 3 then ((W.alloc (.cells #[vI 0, vI 3, vI 1] 105)).alloc (.cells #[vI 0, vI 2, vI 1] 105)).drew
  else bif op == 4 then (W.alloc (.cells #[vI 0, vI 2, vI 1] 105)).drew
  else bif op == 10 then (W.alloc (.cells #[vI 0, vI 15, vI 1] 105)).alloc (.cells #[vI 0, vI 3, vI 1] 105)
  else bif op == 7 || op == 5 then W.alloc (.cells #[vI 0, vI 3, vI 1] 105)
  else bif op == 9 || op == 11 || op == 21 || op == 23 || op == 24 || op == 26 || op == 33 then W.alloc (.cells #[vI 0, vI 1, vI 1] 105)
  else bif op == 13 then W.alloc (.cells #[vI 0, vI 15, vI 1] 105) else W

set_option maxRecDepth 4000 in
set_option maxHeartbeats 8000000 in
theorem setForm_c (i : Ins) (r1 r2 r4 r5 r7 r8 r10 r11 : Int) (o1 o2 : Obj) (w : World) :
    Calls Tryz.prog 173 #[.pointer (some ⟨w.heap.size, 0, none⟩), i.val] (((w.alloc (.cells #[vI 0, vI r1, vI r2, vI 0, vI r4, vI r5, vI 0, vI r7, vI r8, vI 0, vI r10, vI r11, vI 0, vI 0, vI 0, vI 0, vI 0, vI 0, vI 0, vI 0, vI 0, vI 0, vI 0, vI 0, vI 0, vI 0, vI 0, vI 0, vI 0, vI 0, .bool false, .bool false, .bool false, .bool false] 107)).alloc o1).alloc o2) fun e w' => e = .returned (.tuple #[]) ∧
      w' = formW i.op ((((w.alloc (.cells #[vI 0, vI r1, vI r2, vI 0, vI r4, vI r5, vI 0, vI r7, vI r8, vI 0, vI r10, vI r11, vI (subS i.op).lo, vI (subS i.op).hi, vI (subS i.op).st, vI 0, vI 0, vI 0, vI 0, vI 0, vI 0, vI 0, vI 0, vI 0, vI (shiftS i.op).lo, vI (shiftS i.op).hi, vI (shiftS i.op).st, vI (condS i.op).lo, vI (condS i.op).hi, vI (condS i.op).st, .bool (flagsR i.op i.sub), .bool (minusR i.op), .bool (notR i.op), .bool (linkR i.op)] 107)).alloc o1).alloc o2).alloc (.cells i.cells 47)) := by
  obtain ⟨op, sub, rd, rn, rm, ra, imm, imm2, amount, shift, cond, sys, flags, minus, not, link⟩ := i
  go_enter Tryz.func173, Tryz.ntmps173
  repeat' (first | with_reducible refine then_exit ?_ | with_reducible refine then_normal ?_ | with_reducible refine inBlock_eq ?_ | with_reducible refine inBlock_ne rfl ?_ | with_reducible refine inBlock_normal ?_ | (go_at_call 176; refine (upTo_c _ _).mono ?_; rintro e w' ⟨rfl, rfl⟩; dsimp only) | go_step)
  all_goals try (go_region_with (go_at_call 176; refine (upTo_c _ _).mono ?_; rintro e w' ⟨rfl, rfl⟩))
  all_goals repeat' (first | with_reducible refine then_exit ?_ | with_reducible refine then_normal ?_ | with_reducible refine inBlock_eq ?_ | with_reducible refine inBlock_ne rfl ?_ | with_reducible refine inBlock_normal ?_ | go_step)
  all_goals (go_end0; refine ⟨rfl, ?_⟩; rename_i h; first | (obtain rfl := eq_of_beq h; rfl) | (simp only [formW, subS, shiftS, condS, flagsR, minusR, notR, linkR, upToS, zeroS, cond_false, Bool.or_false, Bool.false_and, *]))

theorem setRegisters_b (op : Int) (w : World) (b : Nat) (hb : b = w.heap.size) :
    Calls Tryz.prog 172 #[.pointer (some ⟨b, 0, none⟩), vI op] (w.alloc (.cells #[vI 0, vI 0, vI 0, vI 0, vI 0, vI 0, vI 0, vI 0, vI 0, vI 0, vI 0, vI 0, vI 0, vI 0, vI 0, vI 0, vI 0, vI 0, vI 0, vI 0, vI 0, vI 0, vI 0, vI 0, vI 0, vI 0, vI 0, vI 0, vI 0, vI 0, .bool false, .bool false, .bool false, .bool false] 107)) fun e w' => e = .returned (.tuple #[]) ∧
      w' = ((w.alloc (.cells #[vI 0, vI (h31 (hasRd op)), vI (h1 (hasRd op)), vI 0, vI (h31 (hasRn op)), vI (h1 (hasRn op)), vI 0, vI (h31 (hasRm op)), vI (h1 (hasRm op)), vI 0, vI (h31 (hasRa op)), vI (h1 (hasRa op)), vI 0, vI 0, vI 0, vI 0, vI 0, vI 0, vI 0, vI 0, vI 0, vI 0, vI 0, vI 0, vI 0, vI 0, vI 0, vI 0, vI 0, vI 0, .bool false, .bool false, .bool false, .bool false] 107)).alloc (.cells #[vI 0, vI 31, vI 1] 105)).alloc (.cells #[vI 0, vI 31, vI 1] 105) := by
  subst hb; exact setRegisters_c op w

theorem setForm_b (i : Ins) (r1 r2 r4 r5 r7 r8 r10 r11 : Int) (o1 o2 : Obj) (w : World) (b : Nat) (hb : b = w.heap.size) :
    Calls Tryz.prog 173 #[.pointer (some ⟨b, 0, none⟩), i.val] (((w.alloc (.cells #[vI 0, vI r1, vI r2, vI 0, vI r4, vI r5, vI 0, vI r7, vI r8, vI 0, vI r10, vI r11, vI 0, vI 0, vI 0, vI 0, vI 0, vI 0, vI 0, vI 0, vI 0, vI 0, vI 0, vI 0, vI 0, vI 0, vI 0, vI 0, vI 0, vI 0, .bool false, .bool false, .bool false, .bool false] 107)).alloc o1).alloc o2) fun e w' => e = .returned (.tuple #[]) ∧
      w' = formW i.op ((((w.alloc (.cells #[vI 0, vI r1, vI r2, vI 0, vI r4, vI r5, vI 0, vI r7, vI r8, vI 0, vI r10, vI r11, vI (subS i.op).lo, vI (subS i.op).hi, vI (subS i.op).st, vI 0, vI 0, vI 0, vI 0, vI 0, vI 0, vI 0, vI 0, vI 0, vI (shiftS i.op).lo, vI (shiftS i.op).hi, vI (shiftS i.op).st, vI (condS i.op).lo, vI (condS i.op).hi, vI (condS i.op).st, .bool (flagsR i.op i.sub), .bool (minusR i.op), .bool (notR i.op), .bool (linkR i.op)] 107)).alloc o1).alloc o2).alloc (.cells i.cells 47)) := by
  subst hb; exact setForm_c i r1 r2 r4 r5 r7 r8 r10 r11 o1 o2 w
end Go.Proofs.YtbjcdpmhmebjnaaGreat
/- The room that an instruction leaves to its fields, as roomOf gives it back: a contract, for every instruction. -/
namespace Go.Proofs.YtbjcdpmhmebjnaaGreat
open Go.RowKit Go.Rel

theorem immW_below (i : Ins) (w : World) : Below w.heap.size w (immW i w) := by
  unfold immW
  cases (i.op == 1 || i.op == 4 || i.op == 6 || i.op == 5 || i.op == 34 || i.op == 35 || i.op == 33 || i.op == 37)
  · cases (i.op == 12 || i.op == 13 || i.op == 14 || i.op == 15)
    · exact below_alloc2 _ _ _
    · exact (below_alloc3 _ _ _ _).drew
  · exact below_alloc3 _ _ _ _
theorem amountW_below (op : Int) (w : World) : Below w.heap.size w (amountW op w) := by
  unfold amountW
  cases (op == 2 || op == 3 || op == 15 || op == 4)
  · exact below_alloc _ _
  · exact below_alloc2 _ _ _
theorem formW_below (op : Int) (w : World) : Below w.heap.size w (formW op w) := by
  unfold formW
  cases (op == 2 || op == 16)
  · cases (op == 3)
    · cases (op == 4)
      · cases (op == 10)
        · cases (op == 7 || op == 5)
          · cases (op == 9 || op == 11 || op == 21 || op == 23 || op == 24 || op == 26 || op == 33)
            · cases (op == 13)
              · exact Below.refl _ _
              · exact below_alloc _ _
            · exact below_alloc _ _
          · exact below_alloc _ _
        · exact below_alloc2 _ _ _
      · exact (below_alloc _ _).drew
    · exact (below_alloc2 _ _ _).drew
  · exact below_alloc _ _

theorem immOf_c (i : Ins) (w : World) : Calls Tryz.prog 174 #[i.val] w fun e w' => e = .returned (immS i.op i.sub).val ∧ Below w.heap.size w w' :=
  (immOf_x i w).mono fun _ _ ⟨h, hw⟩ => ⟨h, hw ▸ immW_below i w⟩
theorem amountOf_c (op : Int) (w : World) : Calls Tryz.prog 175 #[vI op] w fun e w' => e = .returned (amountS op).val ∧ Below w.heap.size w w' :=
  (amountOf_x op w).mono fun _ _ ⟨h, hw⟩ => ⟨h, hw ▸ amountW_below op w⟩

/-- The room's cells: x the Imm's, y the Amount's, z the Imm2's. -/
def cellsR (i : Ins) (x y z : Span) : Array Value := #[vI 0, vI (h31 (hasRd i.op)), vI (h1 (hasRd i.op)), vI 0, vI (h31 (hasRn i.op)), vI (h1 (hasRn i.op)), vI 0, vI (h31 (hasRm i.op)), vI (h1 (hasRm i.op)), vI 0, vI (h31 (hasRa i.op)), vI (h1 (hasRa i.op)), vI (subS i.op).lo, vI (subS i.op).hi, vI (subS i.op).st, vI x.lo, vI x.hi, vI x.st, vI z.lo, vI z.hi, vI z.st, vI y.lo, vI y.hi, vI y.st, vI (shiftS i.op).lo, vI (shiftS i.op).hi, vI (shiftS i.op).st, vI (condS i.op).lo, vI (condS i.op).hi, vI (condS i.op).st, .bool (flagsR i.op i.sub), .bool (minusR i.op), .bool (notR i.op), .bool (linkR i.op)]

theorem cells_one (i : Ins) (x y z : Span) : (cellsR i x y z).all (·.oneCell') = true := by simp [cellsR, Value.oneCell']
theorem imm2_4 {op : Int} (h : (op == 4) = true) : imm2S op = upToS 63 := by unfold imm2S; rw [h]; rfl
theorem imm2_6 {op : Int} (h : (op == 6) = true) : imm2S op = upToS 63 := by unfold imm2S; rw [h, Bool.or_true]; rfl
theorem imm2_no {op : Int} (h : (op == 4) = false) (h' : (op == 6) = false) : imm2S op = zeroS := by unfold imm2S; rw [h, h']; rfl

/-- Three blocks of the call's own: the instruction's box, the result, the room. -/
structure Room3 (i : Ins) (w0 : World) (Z R : Array Value) (w : World) : Prop where
  below : Below w0.heap.size w0 w
  box : w.heap[w0.heap.size]? = some (.cells i.cells 47)
  res : w.heap[w0.heap.size + 1]? = some (.cells Z 107)
  room : w.heap[w0.heap.size + 1 + 1]? = some (.cells R 107)

theorem Room3.lt {i : Ins} {w0 w : World} {Z R : Array Value} (h : Room3 i w0 Z R w) : w0.heap.size + 1 + 1 < w.heap.size := (Array.getElem?_eq_some_iff.1 h.room).1
theorem Room3.grow {i : Ins} {w0 w w' : World} {Z R : Array Value} (h : Room3 i w0 Z R w) (hb : Below w.heap.size w w') : Room3 i w0 Z R w' := by
  have := h.lt
  refine ⟨below_then h.below hb, ?_, ?_, ?_⟩
  · rw [hb.block _ (by omega)]; exact h.box
  · rw [hb.block _ (by omega)]; exact h.res
  · rw [hb.block _ (by omega)]; exact h.room

theorem setRow_other (w : World) (g k : Nat) (cs : Array Value) (h : k ≠ g) : (w.setRow g cs).heap[k]? = w.heap[k]? := by
  simp only [World.setRow, Array.getElem?_modify]
  rw [if_neg (fun e => h e.symm)]
theorem setRow_size (w : World) (g : Nat) (cs : Array Value) : (w.setRow g cs).heap.size = w.heap.size := by simp [World.setRow]

theorem Room3.setRoom {i : Ins} {w0 w : World} {Z R : Array Value} (h : Room3 i w0 Z R w) (R' : Array Value) : Room3 i w0 Z R' (w.setRow (w0.heap.size + 1 + 1) R') := by
  refine ⟨h.below.trans ⟨rfl, rfl, rfl, by rw [setRow_size]; exact Nat.le_refl _, fun k hk => setRow_other _ _ _ _ (by omega)⟩, ?_, ?_, ?_⟩
  · rw [setRow_other _ _ _ _ (by omega)]; exact h.box
  · rw [setRow_other _ _ _ _ (by omega)]; exact h.res
  · exact setRow_heap _ _ _ _ _ _ h.room
theorem Room3.setRes {i : Ins} {w0 w : World} {Z R : Array Value} (h : Room3 i w0 Z R w) (Z' : Array Value) : Room3 i w0 Z' R (w.setRow (w0.heap.size + 1) Z') := by
  refine ⟨h.below.trans ⟨rfl, rfl, rfl, by rw [setRow_size]; exact Nat.le_refl _, fun k hk => setRow_other _ _ _ _ (by omega)⟩, ?_, ?_, ?_⟩
  · rw [setRow_other _ _ _ _ (by omega)]; exact h.box
  · exact setRow_heap _ _ _ _ _ _ h.res
  · rw [setRow_other _ _ _ _ (by omega)]; exact h.room

/-- A value of some cells stored into the middle of a row. -/
theorem wpList_store_into {P : Program} {ops : Array Oper} {rest : List Oper} {o : Oper} {a : Act} {w : World} {Q : Exit → Act → World → Prop} (hgd : o.guard = none) (ty : TypeId) (x y : Operand) (ho : o.op = .store ty x y)
    (g k : Nat) (vs : List Value) (hx : a.eval x = .pointer (some ⟨g, k, none⟩)) (hy : a.eval y = .agg vs.toArray)
    (t : TypeId) (old : Array Value) (hg : w.heap[g]? = some (.cells old t (0, 0))) (hi : (P.info? ty).map (·.size) = some vs.length)
    (hlen : k + 0 + vs.length ≤ old.size) (h1 : ∀ v ∈ vs, v.oneCell' = true) (new : Array Value) (hnew : new = (old.toList.take (k + 0) ++ vs ++ old.toList.drop (k + 0 + vs.length)).toArray)
    (h : wpList P ops Q rest (a.put o.dst undef) (w.setRow g new)) : wpList P ops Q (o :: rest) a w := by
  refine wpList_plain hgd fun K hK => ?_
  have hst : (storeVar ty ⟨g, k, none⟩ (.agg vs.toArray)).run P w = .ok () (w.setRow g new) := by
    have := run_storeCells_at (P := P) g k t vs 0 old w hg hlen h1
    rw [← hnew] at this
    cases hq : P.info? ty with
    | none => simp [hq] at hi
    | some inf =>
      have hs : vs.length = inf.size := by simp [hq] at hi; omega
      simp [storeVar, sizeOf, typeInfo, hq, Value.cells, hs, this]
  unfold Oper.wp execOp
  simp only [ho, hx, hy, Instr.storeAt, Instr.sureAddr, Sem.run_bind, Sem.run_pure, Result.andThen_ok, hst]
  exact hK _ _ h

theorem rel_load_row {P : Program} {o : Oper} {a : Act} {w : World} (ty : TypeId) (x : Operand) (ho : o.op = .load ty x)
    (g : Nat) (hx : a.eval x = .pointer (some ⟨g, 0, none⟩)) (t : TypeId) (cs : Array Value) (fr : Nat × Nat) (d : TypeDesc) (hg : w.heap[g]? = some (.cells cs t fr))
    (hu : P.underlying ty = some d) (hd : (match d with | .struct _ | .array _ _ => true | _ => false) = true) (hi : (P.info? ty).map (·.size) = some cs.size) :
    relUpon P Grows (fun v _ => v = .agg cs) w ((execOp a.eval o).run P w) := by
  unfold execOp
  simp only [ho, hx, Instr.loadAt, Instr.sureAddr, Sem.run_bind, Sem.run_pure, Result.andThen_ok, run_loadVar_row w g t ty cs fr d hg hu hd hi]
  exact ⟨Below.refl _ _, rfl⟩

theorem room3_start {i : Ins} {w w' : World} {Z R : Array Value} (h : Below (((w.alloc (.cells i.cells 47)).alloc (.cells Z 107)).alloc (.cells R 107)).heap.size (((w.alloc (.cells i.cells 47)).alloc (.cells Z 107)).alloc (.cells R 107)) w') : Room3 i w Z R w' := by
  refine Room3.grow (w := ((w.alloc (.cells i.cells 47)).alloc (.cells Z 107)).alloc (.cells R 107)) ?_ h
  have e1 : (w.alloc (.cells i.cells 47)).heap.size = w.heap.size + 1 := Array.size_push ..
  have e2 : ((w.alloc (.cells i.cells 47)).alloc (.cells Z 107)).heap.size = w.heap.size + 1 + 1 := by rw [← e1]; exact Array.size_push ..
  refine ⟨below_alloc3 _ _ _ _, ?_, ?_, ?_⟩
  · rw [Below.heap_alloc _ _ _ (by omega), Below.heap_alloc _ _ _ (by omega), heap_alloc_new]
  · rw [Below.heap_alloc _ _ _ (by omega), ← e1, heap_alloc_new]
  · rw [← e2, heap_alloc_new]

theorem setForm_r (i : Ins) (o1 o2 : Obj) (w : World) (b : Nat) (hb : b = w.heap.size) :
    Calls Tryz.prog 173 #[.pointer (some ⟨b, 0, none⟩), i.val] (((w.alloc (.cells #[vI 0, vI (h31 (hasRd i.op)), vI (h1 (hasRd i.op)), vI 0, vI (h31 (hasRn i.op)), vI (h1 (hasRn i.op)), vI 0, vI (h31 (hasRm i.op)), vI (h1 (hasRm i.op)), vI 0, vI (h31 (hasRa i.op)), vI (h1 (hasRa i.op)), vI 0, vI 0, vI 0, vI 0, vI 0, vI 0, vI 0, vI 0, vI 0, vI 0, vI 0, vI 0, vI 0, vI 0, vI 0, vI 0, vI 0, vI 0, .bool false, .bool false, .bool false, .bool false] 107)).alloc o1).alloc o2) fun e w' => e = .returned (.tuple #[]) ∧
      Below (w.alloc (.cells (cellsR i zeroS zeroS zeroS) 107)).heap.size (w.alloc (.cells (cellsR i zeroS zeroS zeroS) 107)) w' := by
  refine (setForm_b i _ _ _ _ _ _ _ _ o1 o2 w b hb).mono ?_
  rintro e w' ⟨h, hw⟩
  refine ⟨h, ?_⟩
  rw [hw]
  exact below_then (below_alloc3 _ _ _ _) (formW_below _ _)

theorem Room3.op {i : Ins} {w0 w : World} {Z R : Array Value} (h : Room3 i w0 Z R w) : w.cell? ⟨w0.heap.size, 0, none⟩ = some (vI i.op) := by
  simp [World.cell?, h.box]

set_option maxRecDepth 8000 in
set_option maxHeartbeats 8000000 in
theorem roomOf_c (i : Ins) (w : World) :
    Calls Tryz.prog 92 #[i.val] w fun e w' => e = .returned (.agg (cellsR i (immS i.op i.sub) (amountS i.op) (imm2S i.op))) ∧ Below w.heap.size w w' := by
  go_enter Tryz.func92, Tryz.ntmps92
  repeat' (first | with_reducible refine then_exit ?_ | with_reducible refine then_normal ?_ | with_reducible refine inBlock_eq ?_ | with_reducible refine inBlock_ne rfl ?_ | with_reducible refine inBlock_normal ?_ | (go_at_call 172; refine (setRegisters_b _ _ _ (by simp)).mono ?_; rintro e w' ⟨rfl, rfl⟩; dsimp only) | (go_at_call 173; refine (setForm_r i _ _ _ _ (by simp)).mono ?_; rintro e w' ⟨rfl, hw'⟩; dsimp only) | go_step)
  obtain ⟨Z, hZ, H3⟩ : ∃ Z : Array Value, Z.size = 34 ∧ Room3 i w Z (cellsR i zeroS zeroS zeroS) w' := ⟨_, by rfl, room3_start hw'⟩
  clear hw'
  refine wp_region_tail 5 Grows (fun x => Below w'.heap.size w' x) [.inl i.val, .inl (immS i.op i.sub).val, .inl (.pointer (some ⟨w.heap.size, 0, none⟩)), .inl (vI i.op), .inl (amountS i.op).val] (by kernel_rfl) (by kernel_rfl) (up_below w') ⟨rfl, rfl, rfl, Nat.le_refl _, fun _ _ => rfl⟩ (by simp [upK]) ?_
  refine ⟨fun w1 hC _ => rel_load_row 47 _ rfl w.heap.size rfl 47 i.cells (0, 0) _ (H3.grow hC).box Tryz.underlying47 rfl (by kernel_rfl), ?_⟩
  refine ⟨fun w1 hC _ => ?_, ?_⟩
  · go_simp
    refine (immOf_c i w1).mono ?_
    rintro e w2 ⟨rfl, hb⟩
    exact ⟨rfl, hb⟩
  refine ⟨fun w1 hC _ => ?_, ?_⟩
  · go_simp
    exact Below.refl _ _
  refine ⟨fun w1 hC _ => ?_, ?_⟩
  · have hop := (H3.grow hC).op
    go_simp
    exact Below.refl _ _
  refine ⟨fun w1 hC _ => ?_, ?_⟩
  · go_simp
    refine (amountOf_c i.op w1).mono ?_
    rintro e w2 ⟨rfl, hb⟩
    exact ⟨rfl, hb⟩
  intro w1 hC _
  replace H3 := H3.grow hC
  clear hC
  simp only [List.drop_succ_cons, List.drop_zero, Act.put, List.setIfInBounds_toArray, List.set_cons_succ, List.set_cons_zero]
  iterate 3 go_step
  refine wpList_store_into rfl 105 _ _ rfl (w.heap.size + 1 + 1) 15 [vI (immS i.op i.sub).lo, vI (immS i.op i.sub).hi, vI (immS i.op i.sub).st] rfl rfl 107 _ H3.room (by kernel_rfl) (by simp [cellsR]) (by simp [Value.oneCell']) (cellsR i (immS i.op i.sub) zeroS zeroS) rfl ?_
  replace H3 := H3.setRoom (cellsR i (immS i.op i.sub) zeroS zeroS)
  revert H3
  generalize w1.setRow _ _ = w2
  intro H3
  simp only [Act.put]
  iterate 3 go_step
  refine wpList_store_into rfl 105 _ _ rfl (w.heap.size + 1 + 1) 21 [vI (amountS i.op).lo, vI (amountS i.op).hi, vI (amountS i.op).st] rfl rfl 107 _ H3.room (by kernel_rfl) (by simp [cellsR]) (by simp [Value.oneCell']) (cellsR i (immS i.op i.sub) (amountS i.op) zeroS) rfl ?_
  replace H3 := H3.setRoom (cellsR i (immS i.op i.sub) (amountS i.op) zeroS)
  revert H3
  generalize w2.setRow _ _ = w3
  intro H3
  simp only [Act.put]
  have hop := H3.op
  by_cases h4 : (i.op == 4) = true
  · go_upto_region 6 with fail
    iterate 3 go_step
    refine (upTo_c _ _).mono ?_
    rintro e w4 ⟨rfl, rfl⟩
    dsimp only
    replace H3 := H3.grow (below_alloc w3 (.cells #[vI 0, vI 63, vI 1] 105))
    revert H3
    generalize w3.alloc _ = w5
    intro H3
    clear hop
    iterate 4 go_step
    refine wpList_store_into rfl 105 _ _ rfl (w.heap.size + 1 + 1) 18 [vI 0, vI 63, vI 1] rfl rfl 107 _ H3.room (by kernel_rfl) (by simp [cellsR]) (by simp [Value.oneCell']) (cellsR i (immS i.op i.sub) (amountS i.op) (upToS 63)) rfl ?_
    replace H3 := H3.setRoom (cellsR i (immS i.op i.sub) (amountS i.op) (upToS 63))
    revert H3
    generalize w5.setRow _ _ = w6
    intro H3
    simp only [Act.put]
    go_upto_region 7 with fail
    go_step
    refine wpList_load_row rfl 107 _ rfl (w.heap.size + 1 + 1) rfl 107 _ (0, 0) _ H3.room Tryz.underlying107 rfl (by kernel_rfl) ?_
    simp only [Act.put, List.setIfInBounds_toArray, List.set_cons_succ, List.set_cons_zero]
    refine wpList_store_row rfl 107 _ _ rfl (w.heap.size + 1) _ rfl rfl 107 Z H3.res (by kernel_rfl) (by rw [hZ]; rfl) (cells_one _ _ _ _) ?_
    replace H3 := H3.setRes (cellsR i (immS i.op i.sub) (amountS i.op) (upToS 63))
    revert H3
    generalize w6.setRow _ _ = w7
    intro H3
    simp only [Act.put]
    iterate 4 go_step
    refine bodyPost_ret (v := .agg (cellsR i (immS i.op i.sub) (amountS i.op) (upToS 63))) (results_cell_row rfl _ _ (w.heap.size + 1) 107 _ (0, 0) _ rfl H3.res Tryz.underlying107 rfl (by kernel_rfl)) rfl ⟨?_, H3.below⟩
    rw [imm2_4 h4]
  · have h4 : (i.op == 4) = false := by simpa using h4
    by_cases h6 : (i.op == 6) = true
    · go_upto_region 6 with fail
      iterate 3 go_step
      refine (upTo_c _ _).mono ?_
      rintro e w4 ⟨rfl, rfl⟩
      dsimp only
      replace H3 := H3.grow (below_alloc w3 (.cells #[vI 0, vI 63, vI 1] 105))
      revert H3
      generalize w3.alloc _ = w5
      intro H3
      clear hop
      iterate 4 go_step
      refine wpList_store_into rfl 105 _ _ rfl (w.heap.size + 1 + 1) 18 [vI 0, vI 63, vI 1] rfl rfl 107 _ H3.room (by kernel_rfl) (by simp [cellsR]) (by simp [Value.oneCell']) (cellsR i (immS i.op i.sub) (amountS i.op) (upToS 63)) rfl ?_
      replace H3 := H3.setRoom (cellsR i (immS i.op i.sub) (amountS i.op) (upToS 63))
      revert H3
      generalize w5.setRow _ _ = w6
      intro H3
      simp only [Act.put]
      go_upto_region 7 with fail
      go_step
      refine wpList_load_row rfl 107 _ rfl (w.heap.size + 1 + 1) rfl 107 _ (0, 0) _ H3.room Tryz.underlying107 rfl (by kernel_rfl) ?_
      simp only [Act.put, List.setIfInBounds_toArray, List.set_cons_succ, List.set_cons_zero]
      refine wpList_store_row rfl 107 _ _ rfl (w.heap.size + 1) _ rfl rfl 107 Z H3.res (by kernel_rfl) (by rw [hZ]; rfl) (cells_one _ _ _ _) ?_
      replace H3 := H3.setRes (cellsR i (immS i.op i.sub) (amountS i.op) (upToS 63))
      revert H3
      generalize w6.setRow _ _ = w7
      intro H3
      simp only [Act.put]
      iterate 4 go_step
      refine bodyPost_ret (v := .agg (cellsR i (immS i.op i.sub) (amountS i.op) (upToS 63))) (results_cell_row rfl _ _ (w.heap.size + 1) 107 _ (0, 0) _ rfl H3.res Tryz.underlying107 rfl (by kernel_rfl)) rfl ⟨?_, H3.below⟩
      rw [imm2_6 h6]
    · have h6 : (i.op == 6) = false := by simpa using h6
      go_upto_region 7 with fail
      go_step
      refine wpList_load_row rfl 107 _ rfl (w.heap.size + 1 + 1) rfl 107 _ (0, 0) _ H3.room Tryz.underlying107 rfl (by kernel_rfl) ?_
      simp only [Act.put, List.setIfInBounds_toArray, List.set_cons_succ, List.set_cons_zero]
      refine wpList_store_row rfl 107 _ _ rfl (w.heap.size + 1) _ rfl rfl 107 Z H3.res (by kernel_rfl) (by rw [hZ]; rfl) (cells_one _ _ _ _) ?_
      replace H3 := H3.setRes (cellsR i (immS i.op i.sub) (amountS i.op) zeroS)
      revert H3
      generalize w3.setRow _ _ = w7
      intro H3
      simp only [Act.put]
      iterate 4 go_step
      refine bodyPost_ret (v := .agg (cellsR i (immS i.op i.sub) (amountS i.op) zeroS)) (results_cell_row rfl _ _ (w.heap.size + 1) 107 _ (0, 0) _ rfl H3.res Tryz.underlying107 rfl (by kernel_rfl)) rfl ⟨?_, H3.below⟩
      rw [imm2_no h4 h6]
end Go.Proofs.YtbjcdpmhmebjnaaGreat
