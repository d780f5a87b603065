/- Cf, Cg, Ch, Ci of the seat, joined. -/
import Derived.Test.YteklkololojamaaGreatXd
import Derived.Test.YteklkololojamaaGreatBk
import Derived.Test.YteklkololojamaaGreatXc
import Derived.Test.YteklkololojamaaGreatBl
/- The document's bus: Write. -/
namespace Go.Proofs.YteklkololojamaaGreat
open Go.RowKit
set_option linter.unusedVariables false
set_option linter.unusedSimpArgs false
set_option maxRecDepth 8000

def dspF (n : Nat) (X : Doc.Ref) (what : Int) (c : Nat) (on : Bool) (v : Nat) : Nat → Doc.Ref
  | 0 => X
  | i + 1 => if v.testBit i = true then Doc.setR (dspF n X what c on v i) n what c i on 0 else dspF n X what c on v i
/-- What is made of the document's bus by a register of a range. -/
def ddS (n : Nat) (S : Ds) (c k p v : Nat) : Ds := match k with
  | 0 => { S with X := dspF n S.X 0 c true v 64 }
  | 1 => { S with X := dspF n S.X 0 c false v 64 }
  | 2 => { S with X := dspF n S.X 1 c true v 64 }
  | 3 => { S with X := dspF n S.X 1 c false v 64 }
  | 4 => S
  | 5 => { S with X := Doc.setR S.X n 3 c p false (v % 256 : Nat) }
  | 6 => if v < n then { S with X := Doc.routeR S.X n ((p : Int) + 32) v } else S
  | _ => if S.O.length < 10000 then { S with O := S.O ++ [((v % 256 : Nat) : Int)] } else S
def ddwS (n : Nat) (S : Ds) (core a : Int) (v : Nat) : Ds := match findK a with
  | none => S
  | some k => if hasB n core then ddS n S core.toNat k (plcK k a) v else S
def OuC (d h r n : Nat) (Z : DLay) (S : Ds) (x : Int) (w : World) : Nat → World → Prop
  | 0, w' => w' = { w with drawn := w.drawn + 1 }
  | 1, w' => w' = ({ w with drawn := w.drawn + 1 } : World).alloc (.cells #[vB x] 5)
  | 2, w' => w' = ({ w with drawn := w.drawn + 1 } : World).alloc (.cells #[vB x] 5)
  | 3, w' => DT d h r n Z { S with O := S.O ++ [x] } w w'
  | _, _ => False
theorem oc_conv {d h r n : Nat} {S : Ds} {Z : DLay} {x : Int} {w w1 : World} (hC : OuC d h r n Z S x w 1 w1) : (convert 60 9 (.slice (some ⟨w.heap.size, 0, none⟩) 1 1)).run Tryz.prog w1 = .ok (.string (strOfNums [x])) w1 := by
  have hC2 : w1 = ({ w with drawn := w.drawn + 1 } : World).alloc (.cells #[vB x] 5) := hC
  rw [hC2]
  refine run_convert_bytes_arg _ 60 5 Tryz.underlying60 Tryz.underlying5 _ 0 1 1 [x] rfl (fun i hi => ?_) 9 Tryz.underlying9
  have : i = 0 := by omega
  subst this
  exact (cell_of_row _ _ _ _ _ _ (heap_alloc_new ({ w with drawn := w.drawn + 1 } : World) (.cells #[vB x] 5))).trans rfl
section
variable {d h r n : Nat} {S S' : Ds} {Z : DLay} {w w' w1 w2 : World}
theorem ouC_below {x : Int} {j : Nat} (hj : j ≤ 2) (k : OuC d h r n Z S x w j w') : Below w.heap.size w w' := by
  have b0 : Below w.heap.size w { w with drawn := w.drawn + 1 } := Rel.below_draws (n := 1) (Below.refl _ _)
  match j, hj with
  | 0, _ => rw [k]; exact b0
  | 1, _ => rw [k]; exact below_then b0 (Nat.le_refl _) (below_alloc _ _)
  | 2, _ => rw [k]; exact below_then b0 (Nat.le_refl _) (below_alloc _ _)
theorem oc_c3 {x : Int} {j : Nat} (H : DocAt d h r n S Z w) (hj : j ≤ 2) (k : OuC d h r n Z S x w j w') : w'.cell? ⟨d, 3, none⟩ = some (.string (strOfNums S.O)) := (H.grow (ouC_below hj k)).c3
theorem str_cat2 (p q : List Int) : strOfNums p ++ strOfNums q = strOfNums (p ++ q) := by
  apply ByteArray.ext
  simp [strOfNums]

set_option maxHeartbeats 4000000 in
theorem dwrite_c (H : DocAt d h r n S Z w) (core a : Int) (hu : U64 a) (v : Nat) (hv : v < 2 ^ 64) : Calls Tryz.prog 15 #[ptr d 0, vI core, vU a, vU v] w fun e w' => e = .returned (vI (brdE n core a)) ∧ DT d h r n Z (ddwS n S core a v) w w' := by
  have hth := there_c a hu w
  have c0 := H.c0
  have hno : findK a = none → brdE n core a = 1 ∧ ddwS n S core a v = S := fun h => by unfold ddwS brdE; rw [h]; exact ⟨rfl, rfl⟩
  have hyes : ∀ k, findK a = some k → hasB n core = true → brdE n core a = 0 ∧ ddwS n S core a v = ddS n S core.toNat k (plcK k a) v := fun k h e => by unfold ddwS brdE; rw [h]; dsimp only; rw [e, if_pos rfl, if_pos rfl]; exact ⟨rfl, rfl⟩
  have hnot : ∀ k, findK a = some k → hasB n core = false → brdE n core a = 1 ∧ ddwS n S core a v = S := fun k h e => by unfold ddwS brdE; rw [h]; dsimp only; rw [e, if_neg (by decide), if_neg (by decide)]; exact ⟨rfl, rfl⟩
  cases hf : findK a with
  | none =>
    have t1 : thK a = 0 := by unfold thK; rw [hf]
    have t2 : thI a = 0 := by unfold thI; rw [hf]
    rw [hf, t1, t2] at hth
    replace hth : Calls Tryz.prog 44 #[vU a] w fun e w' => e = .returned (.tuple #[vI 0, vI 0, .bool false]) ∧ w' = w := hth
    have hans := show Hid _ from hno hf
    clear t1 t2 hno hyes hnot hf
    go_enter Tryz.func15, Tryz.ntmps15
    go_wp2_with (first | (go_at_call 44; refine hth.mono ?_; rintro e w' ⟨rfl, rfl⟩; dsimp only))
    go_ret
    exact ⟨by rw [hans.out.1]; rfl, by rw [hans.out.2]; exact H.refl⟩
  | some k =>
    obtain ⟨hk, hhit⟩ := findF_lt hf
    have t1 : thK a = k := by unfold thK; rw [hf]
    have hN := fun e => show Hid _ from hnot k hf e
    have hY := fun e => show Hid _ from hyes k hf e
    have hpl : (k = 6 → plcK k a < 32) ∧ (k = 5 → plcK k a < 64) := by
      simp only [hitK, Bool.and_eq_true, decide_eq_true_eq] at hhit
      have h0 : 0 ≤ offK k a := by unfold offK; omega
      refine ⟨fun e => ?_, fun e => ?_⟩
      · subst e
        have h1 : offK 6 a < 32 * 8 := hhit.1
        unfold plcK; omega
      · subst e
        have h1 : offK 5 a < 64 * 8 := hhit.1
        unfold plcK; omega
    have t2 : thI a = if k = 5 then (plcK k a : Int) else if k = 6 then (plcK k a : Int) + 32 else 0 := by
      unfold thI; rw [hf]
      rcases (by omega : k = 0 ∨ k = 1 ∨ k = 2 ∨ k = 3 ∨ k = 4 ∨ k = 5 ∨ k = 6 ∨ k = 7) with rfl | rfl | rfl | rfl | rfl | rfl | rfl | rfl <;> rfl
    rw [hf, t1] at hth
    replace hth : Calls Tryz.prog 44 #[vU a] w fun e w' => e = .returned (.tuple #[vI k, vI (thI a), .bool true]) ∧ w' = w := hth
    generalize plcK k a = p at *
    generalize hiI : thI a = iI at *
    clear hhit hno hyes hnot t1 hf
    by_cases h1 : core < 0
    · have hans := hN (by unfold hasB; rw [decide_eq_false (by omega)]; rfl)
      clear hN hY hpl t2
      go_enter Tryz.func15, Tryz.ntmps15
      go_wp2_with (first | (go_at_call 44; refine hth.mono ?_; rintro e w' ⟨rfl, rfl⟩; dsimp only))
      go_ret
      exact ⟨by rw [hans.out.1]; rfl, by rw [hans.out.2]; exact H.refl⟩
    by_cases h2 : (n : Int) ≤ core
    · have hans := hN (by unfold hasB; rw [decide_eq_false (show ¬ core < (n : Int) by omega)]; simp)
      clear hN hY hpl t2
      go_enter Tryz.func15, Tryz.ntmps15
      go_wp2_with (first | (go_at_call 44; refine hth.mono ?_; rintro e w' ⟨rfl, rfl⟩; dsimp only))
      go_ret
      exact ⟨by rw [hans.out.1]; rfl, by rw [hans.out.2]; exact H.refl⟩
    obtain ⟨c, rfl⟩ : ∃ c : Nat, core = c := ⟨core.toNat, by omega⟩
    have hc : c < n := by omega
    have hans := hY (has_nat hc)
    obtain ⟨hd1, hd2⟩ := hans.out
    rw [Int.toNat_natCast] at hd2
    clear hans
    have hans : Hid (_ ∧ _) := ⟨hd1, hd2⟩
    clear hd1 hd2
    clear hN hY
    rcases (by omega : k = 0 ∨ k = 1 ∨ k = 2 ∨ k = 3 ∨ k = 4 ∨ k = 5 ∨ k = 6 ∨ k = 7) with rfl | rfl | rfl | rfl | rfl | rfl | rfl | rfl
    · replace hth : Calls Tryz.prog 44 #[vU a] w fun e w' => e = .returned (.tuple #[vI 0, vI iI, .bool true]) ∧ w' = w := hth
      clear hpl t2 hiI
      go_enter Tryz.func15, Tryz.ntmps15
      go_upto_region 9 with (first | (go_at_call 44; refine hth.mono ?_; rintro e w' ⟨rfl, rfl⟩; dsimp only))
      rename World => w
      go_wp2
      go_loopw [12] (fun s12 wr => ∃ i : Nat, i ≤ 64 ∧ s12 = .int .i64 i ∧ Hid (DT d h r n Z { S with X := dspF n S.X 0 c true v i } w wr)) (fun s12 _ => 64 - (intOf s12).toNat)
      case atStart => exact ⟨0, Nat.zero_le _, rfl, H.refl⟩
      case round =>
        obtain ⟨i, hi, rfl, hT⟩ := hrel
        by_cases hlt : (i : Int) < 64
        · have hbt := bit_at v i hv
          cases hfi : v.testBit i with
          | true =>
            have e1 : dspF n S.X 0 c true v (i + 1) = Doc.setR (dspF n S.X 0 c true v i) n 0 c i true 0 := if_pos hfi
            rw [hfi] at hbt
            obtain ⟨H1, G1⟩ := hT.out
            clear hT
            have c1 := H1.c1
            have hcall := Doc.set_0 H1.gic c i 0 true
            generalize Doc.setE n 0 c i 0 = E at hcall
            replace e1 := show Hid _ from e1
            go_wp2_with (first | (go_at_call 47; refine hcall.mono ?_; rintro e w1 ⟨rfl, hC⟩; dsimp only))
            go_roundw
            case rel => exact ⟨i + 1, by omega, by go_num, by rw [e1.out]; have := H1.gicT hC; exact ⟨this.1, G1.trans this.2 fun _ _ e => e⟩⟩
            case measure => simp [intOf]; omega
          | false =>
            have e1 : dspF n S.X 0 c true v (i + 1) = dspF n S.X 0 c true v i := if_neg (by rw [hfi]; decide)
            rw [hfi] at hbt
            replace e1 := show Hid _ from e1
            go_wp2
            go_roundw
            case rel => exact ⟨i + 1, by omega, by go_num, by rw [e1.out]; exact hT⟩
            case measure => simp [intOf]; omega
        · obtain rfl : i = 64 := by omega
          go_wp2
          go_ret
          exact ⟨by rw [hans.out.1]; rfl, by rw [hans.out.2]; exact hT.out⟩
    · replace hth : Calls Tryz.prog 44 #[vU a] w fun e w' => e = .returned (.tuple #[vI 1, vI iI, .bool true]) ∧ w' = w := hth
      clear hpl t2 hiI
      go_enter Tryz.func15, Tryz.ntmps15
      go_upto_region 9 with (first | (go_at_call 44; refine hth.mono ?_; rintro e w' ⟨rfl, rfl⟩; dsimp only))
      rename World => w
      go_wp2
      go_loopw [12] (fun s12 wr => ∃ i : Nat, i ≤ 64 ∧ s12 = .int .i64 i ∧ Hid (DT d h r n Z { S with X := dspF n S.X 0 c false v i } w wr)) (fun s12 _ => 64 - (intOf s12).toNat)
      case atStart => exact ⟨0, Nat.zero_le _, rfl, H.refl⟩
      case round =>
        obtain ⟨i, hi, rfl, hT⟩ := hrel
        by_cases hlt : (i : Int) < 64
        · have hbt := bit_at v i hv
          cases hfi : v.testBit i with
          | true =>
            have e1 : dspF n S.X 0 c false v (i + 1) = Doc.setR (dspF n S.X 0 c false v i) n 0 c i false 0 := if_pos hfi
            rw [hfi] at hbt
            obtain ⟨H1, G1⟩ := hT.out
            clear hT
            have c1 := H1.c1
            have hcall := Doc.set_0 H1.gic c i 0 false
            generalize Doc.setE n 0 c i 0 = E at hcall
            replace e1 := show Hid _ from e1
            go_wp2_with (first | (go_at_call 47; refine hcall.mono ?_; rintro e w1 ⟨rfl, hC⟩; dsimp only))
            go_roundw
            case rel => exact ⟨i + 1, by omega, by go_num, by rw [e1.out]; have := H1.gicT hC; exact ⟨this.1, G1.trans this.2 fun _ _ e => e⟩⟩
            case measure => simp [intOf]; omega
          | false =>
            have e1 : dspF n S.X 0 c false v (i + 1) = dspF n S.X 0 c false v i := if_neg (by rw [hfi]; decide)
            rw [hfi] at hbt
            replace e1 := show Hid _ from e1
            go_wp2
            go_roundw
            case rel => exact ⟨i + 1, by omega, by go_num, by rw [e1.out]; exact hT⟩
            case measure => simp [intOf]; omega
        · obtain rfl : i = 64 := by omega
          go_wp2
          go_ret
          exact ⟨by rw [hans.out.1]; rfl, by rw [hans.out.2]; exact hT.out⟩
    · replace hth : Calls Tryz.prog 44 #[vU a] w fun e w' => e = .returned (.tuple #[vI 2, vI iI, .bool true]) ∧ w' = w := hth
      clear hpl t2 hiI
      go_enter Tryz.func15, Tryz.ntmps15
      go_upto_region 9 with (first | (go_at_call 44; refine hth.mono ?_; rintro e w' ⟨rfl, rfl⟩; dsimp only))
      rename World => w
      go_wp2
      go_loopw [12] (fun s12 wr => ∃ i : Nat, i ≤ 64 ∧ s12 = .int .i64 i ∧ Hid (DT d h r n Z { S with X := dspF n S.X 1 c true v i } w wr)) (fun s12 _ => 64 - (intOf s12).toNat)
      case atStart => exact ⟨0, Nat.zero_le _, rfl, H.refl⟩
      case round =>
        obtain ⟨i, hi, rfl, hT⟩ := hrel
        by_cases hlt : (i : Int) < 64
        · have hbt := bit_at v i hv
          cases hfi : v.testBit i with
          | true =>
            have e1 : dspF n S.X 1 c true v (i + 1) = Doc.setR (dspF n S.X 1 c true v i) n 1 c i true 0 := if_pos hfi
            rw [hfi] at hbt
            obtain ⟨H1, G1⟩ := hT.out
            clear hT
            have c1 := H1.c1
            have hcall := Doc.set_1 H1.gic c i 0 true
            generalize Doc.setE n 1 c i 0 = E at hcall
            replace e1 := show Hid _ from e1
            go_wp2_with (first | (go_at_call 47; refine hcall.mono ?_; rintro e w1 ⟨rfl, hC⟩; dsimp only))
            go_roundw
            case rel => exact ⟨i + 1, by omega, by go_num, by rw [e1.out]; have := H1.gicT hC; exact ⟨this.1, G1.trans this.2 fun _ _ e => e⟩⟩
            case measure => simp [intOf]; omega
          | false =>
            have e1 : dspF n S.X 1 c true v (i + 1) = dspF n S.X 1 c true v i := if_neg (by rw [hfi]; decide)
            rw [hfi] at hbt
            replace e1 := show Hid _ from e1
            go_wp2
            go_roundw
            case rel => exact ⟨i + 1, by omega, by go_num, by rw [e1.out]; exact hT⟩
            case measure => simp [intOf]; omega
        · obtain rfl : i = 64 := by omega
          go_wp2
          go_ret
          exact ⟨by rw [hans.out.1]; rfl, by rw [hans.out.2]; exact hT.out⟩
    · replace hth : Calls Tryz.prog 44 #[vU a] w fun e w' => e = .returned (.tuple #[vI 3, vI iI, .bool true]) ∧ w' = w := hth
      clear hpl t2 hiI
      go_enter Tryz.func15, Tryz.ntmps15
      go_upto_region 9 with (first | (go_at_call 44; refine hth.mono ?_; rintro e w' ⟨rfl, rfl⟩; dsimp only))
      rename World => w
      go_wp2
      go_loopw [12] (fun s12 wr => ∃ i : Nat, i ≤ 64 ∧ s12 = .int .i64 i ∧ Hid (DT d h r n Z { S with X := dspF n S.X 1 c false v i } w wr)) (fun s12 _ => 64 - (intOf s12).toNat)
      case atStart => exact ⟨0, Nat.zero_le _, rfl, H.refl⟩
      case round =>
        obtain ⟨i, hi, rfl, hT⟩ := hrel
        by_cases hlt : (i : Int) < 64
        · have hbt := bit_at v i hv
          cases hfi : v.testBit i with
          | true =>
            have e1 : dspF n S.X 1 c false v (i + 1) = Doc.setR (dspF n S.X 1 c false v i) n 1 c i false 0 := if_pos hfi
            rw [hfi] at hbt
            obtain ⟨H1, G1⟩ := hT.out
            clear hT
            have c1 := H1.c1
            have hcall := Doc.set_1 H1.gic c i 0 false
            generalize Doc.setE n 1 c i 0 = E at hcall
            replace e1 := show Hid _ from e1
            go_wp2_with (first | (go_at_call 47; refine hcall.mono ?_; rintro e w1 ⟨rfl, hC⟩; dsimp only))
            go_roundw
            case rel => exact ⟨i + 1, by omega, by go_num, by rw [e1.out]; have := H1.gicT hC; exact ⟨this.1, G1.trans this.2 fun _ _ e => e⟩⟩
            case measure => simp [intOf]; omega
          | false =>
            have e1 : dspF n S.X 1 c false v (i + 1) = dspF n S.X 1 c false v i := if_neg (by rw [hfi]; decide)
            rw [hfi] at hbt
            replace e1 := show Hid _ from e1
            go_wp2
            go_roundw
            case rel => exact ⟨i + 1, by omega, by go_num, by rw [e1.out]; exact hT⟩
            case measure => simp [intOf]; omega
        · obtain rfl : i = 64 := by omega
          go_wp2
          go_ret
          exact ⟨by rw [hans.out.1]; rfl, by rw [hans.out.2]; exact hT.out⟩
    · replace hth : Calls Tryz.prog 44 #[vU a] w fun e w' => e = .returned (.tuple #[vI 4, vI iI, .bool true]) ∧ w' = w := hth
      clear hpl t2 hiI
      go_enter Tryz.func15, Tryz.ntmps15
      go_wp2_with (first | (go_at_call 44; refine hth.mono ?_; rintro e w' ⟨rfl, rfl⟩; dsimp only))
      go_ret
      exact ⟨by rw [hans.out.1]; rfl, by rw [hans.out.2]; exact H.refl⟩
    · replace hth : Calls Tryz.prog 44 #[vU a] w fun e w' => e = .returned (.tuple #[vI 5, vI iI, .bool true]) ∧ w' = w := hth
      have hI : iI = (p : Int) := t2
      clear t2
      subst hI
      have c1 := H.c1
      have e1 := and8 v hv
      have e2 := conv_i (v % 256) (by omega)
      have hcall := Doc.set_3 H.gic c p (v % 256 : Nat) false
      have hst : ddwS n S c a v = { S with X := Doc.setR S.X n 3 c p false (v % 256 : Nat) } := hans.out.2
      have he2 := show Hid _ from hans.out.1
      generalize ((v % 256 : Nat) : Int) = z at *
      generalize Doc.setE n 3 c p z = E at hcall
      replace hst := show Hid _ from hst
      clear hpl hiI hans
      generalize (v : Int) = x at *
      go_enter Tryz.func15, Tryz.ntmps15
      go_wp2_with (first | (go_at_call 44; refine hth.mono ?_; rintro e w' ⟨rfl, rfl⟩; dsimp only) | (go_at_call 47; refine hcall.mono ?_; rintro e w1 ⟨rfl, hC⟩; dsimp only))
      go_ret
      exact ⟨by rw [he2.out]; rfl, by rw [hst.out]; exact H.gicT hC⟩
    · replace hth : Calls Tryz.prog 44 #[vU a] w fun e w' => e = .returned (.tuple #[vI 6, vI iI, .bool true]) ∧ w' = w := hth
      have hI : iI = (p : Int) + 32 := t2
      clear t2
      have c1 := H.c1
      have hn := H.le8
      have e0 : IntKind.u64.wrap (n : Int) = n := by rw [IntKind.wrap_u64]; omega
      have hst : ddwS n S c a v = if v < n then { S with X := Doc.routeR S.X n ((p : Int) + 32) v } else S := hans.out.2
      have he2 := show Hid _ from hans.out.1
      rw [← hI] at hst
      clear hans
      by_cases hvn : v < n
      · rw [if_pos hvn] at hst
        have h' : (v : Int) < n := by omega
        have e1 : wrap64 (v : Int) = v := IntWalk.wrap64_in _ ⟨by omega, by omega⟩
        have hcall := Doc.route_c H.gic iI v
        generalize Doc.routeE n iI v = E at hcall
        replace hst := show Hid _ from hst
        clear hpl hiI hI hvn
        generalize (v : Int) = x at *
        go_enter Tryz.func15, Tryz.ntmps15
        go_wp2_with (first | (go_at_call 44; refine hth.mono ?_; rintro e w' ⟨rfl, rfl⟩; dsimp only) | (go_at_call 48; refine hcall.mono ?_; rintro e w1 ⟨rfl, hC⟩; dsimp only))
        go_ret
        exact ⟨by rw [he2.out]; rfl, by rw [hst.out]; exact H.gicT hC⟩
      · rw [if_neg hvn] at hst
        have h' : ¬ (v : Int) < n := by omega
        replace hst := show Hid _ from hst
        clear hpl hiI hI hvn
        generalize (v : Int) = x at *
        go_enter Tryz.func15, Tryz.ntmps15
        go_wp2_with (first | (go_at_call 44; refine hth.mono ?_; rintro e w' ⟨rfl, rfl⟩; dsimp only))
        go_ret
        exact ⟨by rw [he2.out]; rfl, by rw [hst.out]; exact H.refl⟩
    · replace hth : Calls Tryz.prog 44 #[vU a] w fun e w' => e = .returned (.tuple #[vI 7, vI iI, .bool true]) ∧ w' = w := hth
      have c3 := H.c3
      have hz := strOfNums_size S.O
      have hl := H.len
      have hst : ddwS n S c a v = if S.O.length < 10000 then { S with O := S.O ++ [((v % 256 : Nat) : Int)] } else S := hans.out.2
      have he2 := show Hid _ from hans.out.1
      clear hans hpl t2 hiI
      by_cases hlo : S.O.length < 10000
      · rw [if_pos hlo] at hst
        have h' : (S.O.length : Int) < 10000 := by omega
        have e1 : IntKind.u8.wrap (v : Int) = ((v % 256 : Nat) : Int) := by rw [IntKind.wrap_u8]; omega
        have hlx : (S.O ++ [((v % 256 : Nat) : Int)]).length ≤ 10000 := by simp only [List.length_append, List.length_cons, List.length_nil]; omega
        generalize ((v % 256 : Nat) : Int) = x at *
        generalize (v : Int) = v at *
        replace hst := show Hid _ from hst
        replace hlx := show Hid _ from hlx
        clear hlo hl
        go_enter Tryz.func15, Tryz.ntmps15
        go_upto_region 20 with (first | (go_at_call 44; refine hth.mono ?_; rintro e w' ⟨rfl, rfl⟩; dsimp only))
        rename World => w
        go_upto_region 21 with fail
        clear c3 hz
        replace hlx := hlx.out
        have hst : OuC d h r n Z S x w 0 { w with drawn := w.drawn + 1 } := rfl
        refine Chn.wp_region_chainL (OuC d h r n Z S x w) [7, 8, 12] [3, 3, 3, 3, 2, 3, 3, 3, 3, 3, 3, 3, 3] [ptr d 0, ptr d 0, ptr d 0, ptr d 3, .string (strOfNums S.O), vU v, vB x, .slice (some ⟨w.heap.size, 0, none⟩) 1 1, .string (strOfNums [x]), .string (strOfNums (S.O ++ [x])), ptr d 0, ptr d 3, undef] (by kernel_rfl) (by kernel_rfl) (by kernel_rfl) (by kernel_rfl) (by kernel_rfl) hst ?_
        clear hst
        refine ⟨fun j w1 hj hC => by exact Chn.upon_pure hC (fun F hF => by (go_simp <;> exact hF)), ?_⟩
        simp only [Act.put, List.setIfInBounds_toArray, List.set_cons_succ, List.set_cons_zero]
        refine ⟨fun j w1 hj hC => by exact Chn.upon_pure hC (fun F hF => by (go_simp <;> exact hF)), ?_⟩
        simp only [Act.put, List.setIfInBounds_toArray, List.set_cons_succ, List.set_cons_zero]
        refine ⟨fun j w1 hj hC => by exact Chn.upon_pure hC (fun F hF => by (go_simp <;> exact hF)), ?_⟩
        simp only [Act.put, List.setIfInBounds_toArray, List.set_cons_succ, List.set_cons_zero]
        refine ⟨fun j w1 hj hC => by exact Chn.upon_pure hC (fun F hF => by (go_simp <;> exact hF)), ?_⟩
        simp only [Act.put, List.setIfInBounds_toArray, List.set_cons_succ, List.set_cons_zero]
        refine ⟨fun j w1 hj hC => by
          have z := oc_c3 H hj hC
          exact Chn.upon_pure hC (fun F hF => by (go_simp <;> exact hF)), ?_⟩
        simp only [Act.put, List.setIfInBounds_toArray, List.set_cons_succ, List.set_cons_zero]
        refine ⟨fun j w1 hj hC => by exact Chn.upon_pure hC (fun F hF => by (go_simp <;> exact hF)), ?_⟩
        simp only [Act.put, List.setIfInBounds_toArray, List.set_cons_succ, List.set_cons_zero]
        refine ⟨fun j w1 hj hC => by exact Chn.upon_pure hC (fun F hF => by (go_simp <;> exact hF)), ?_⟩
        simp only [Act.put, List.setIfInBounds_toArray, List.set_cons_succ, List.set_cons_zero]
        refine ⟨fun w1 hC => by
          have hC2 : w1 = { w with drawn := w.drawn + 1 } := hC
          rw [hC2]
          have hn : OuC d h r n Z S x w 1 (({ w with drawn := w.drawn + 1 } : World).alloc (.cells #[vB x] 5)) := rfl
          generalize OuC d h r n Z S x w 1 = FF at *
          go_simp
          exact hn, ?_⟩
        simp only [Act.put, List.setIfInBounds_toArray, List.set_cons_succ, List.set_cons_zero]
        refine ⟨fun w1 hC => by
          have kc := oc_conv hC
          have hn : OuC d h r n Z S x w 2 w1 := hC
          generalize OuC d h r n Z S x w 2 = FF at *
          clear hC
          go_simp
          exact hn, ?_⟩
        simp only [Act.put, List.setIfInBounds_toArray, List.set_cons_succ, List.set_cons_zero]
        refine ⟨fun j w1 hj hC => by
          exact Chn.upon_pure hC (fun F hF => by (rw [← str_cat2] at hF; have q1 := strOfNums_size S.O; have q2 : (strOfNums [x]).size = 1 := rfl; have q3 : S.O.length + 1 ≤ 10000 := (by simpa using hlx); go_simp; rw [if_neg (by omega)]; exact hF)), ?_⟩
        simp only [Act.put, List.setIfInBounds_toArray, List.set_cons_succ, List.set_cons_zero]
        refine ⟨fun j w1 hj hC => by exact Chn.upon_pure hC (fun F hF => by (go_simp <;> exact hF)), ?_⟩
        simp only [Act.put, List.setIfInBounds_toArray, List.set_cons_succ, List.set_cons_zero]
        refine ⟨fun j w1 hj hC => by exact Chn.upon_pure hC (fun F hF => by (go_simp <;> exact hF)), ?_⟩
        simp only [Act.put, List.setIfInBounds_toArray, List.set_cons_succ, List.set_cons_zero]
        refine ⟨fun w1 hC => by
          have hB := ouC_below (j := 2) (Nat.le_refl _) hC
          have H2 := H.grow hB
          have z := H2.c3
          have fz := H2.f 3
          have hn := H2.outT (S.O ++ [x]) hlx
          have hn2 : OuC d h r n Z S x w 3 (w1.setCell ⟨d, 3, none⟩ (.string (strOfNums (S.O ++ [x])))) := DT.ahead hB hn
          generalize OuC d h r n Z S x w 3 = FF at *
          clear hC
          go_simp
          exact hn2, ?_⟩
        simp only [Act.put, List.setIfInBounds_toArray, List.set_cons_succ, List.set_cons_zero]
        intro w5 hC
        replace hC : DT d h r n Z { S with O := S.O ++ [x] } w w5 := hC
        go_wp2
        go_ret
        exact ⟨by rw [he2.out]; rfl, by rw [hst.out]; exact hC⟩
      · rw [if_neg hlo] at hst
        have h' : ¬ (S.O.length : Int) < 10000 := by omega
        replace hst := show Hid _ from hst
        clear hlo hl
        go_enter Tryz.func15, Tryz.ntmps15
        go_wp2_with (first | (go_at_call 44; refine hth.mono ?_; rintro e w' ⟨rfl, rfl⟩; dsimp only))
        go_ret
        exact ⟨by rw [he2.out]; rfl, by rw [hst.out]; exact H.refl⟩
end
end Go.Proofs.YteklkololojamaaGreat
/- The document's bus: Sys. -/
namespace Go.Proofs.YteklkololojamaaGreat
open Go.RowKit
set_option linter.unusedVariables false
set_option linter.unusedSimpArgs false
set_option maxRecDepth 8000

open Tim
theorem r_bad {el sys : Int} (h0 : ¬ el = 0) (h1 : ¬ el = 1) : reachK el sys = none := by
  have hh : ∀ k, hitR k el sys = false := fun k => by
    unfold hitR
    have hc : 0 ≤ (reg k).c := by
      rcases (by omega : k = 0 ∨ k = 1 ∨ k = 2 ∨ k = 3 ∨ k = 4 ∨ k = 5 ∨ k = 6 ∨ 7 ≤ k) with rfl | rfl | rfl | rfl | rfl | rfl | rfl | h <;> first | (show (0 : Int) ≤ 0; decide) | (show (0 : Int) ≤ 1; decide) | skip
      obtain ⟨m, rfl⟩ : ∃ m, k = m + 7 := ⟨k - 7, by omega⟩
      show (0 : Int) ≤ 0; decide
    by_cases e : el ≤ 1
    · rw [decide_eq_false (show ¬ (reg k).c ≤ el by omega)]; simp
    · rw [decide_eq_false e]; simp
  have : ∀ m, reachF el sys m = none := fun m => by
    induction m with
    | zero => rfl
    | succ m ih => show (match reachF el sys m with | some j => some j | none => _) = _; rw [ih]; dsimp only; rw [hh m]; rfl
  exact this 7
theorem reach_if (el sys : Int) : reachK el sys = if hitR 0 el sys then some 0 else if hitR 1 el sys then some 1 else if hitR 2 el sys then some 2 else if hitR 3 el sys then some 3 else if hitR 4 el sys then some 4 else if hitR 5 el sys then some 5 else if hitR 6 el sys then some 6 else none := by
  unfold reachK reachF reachF reachF reachF reachF reachF reachF reachF
  cases hitR 0 el sys <;> cases hitR 1 el sys <;> cases hitR 2 el sys <;> cases hitR 3 el sys <;> cases hitR 4 el sys <;> cases hitR 5 el sys <;> cases hitR 6 el sys <;> rfl
theorem hit_no {k : Nat} {el sys : Int} (h : ¬ (reg k).f = sys) : hitR k el sys = false := by unfold hitR; rw [decide_eq_false h]; rfl
theorem hit_lo {k : Nat} {sys : Int} (h : (reg k).c = 1) : hitR k 0 sys = false := by unfold hitR; rw [h]; simp
theorem r_lo {sys : Int} (h0 : ¬ sys = 24322) (h1 : ¬ sys = 24345) (h2 : ¬ sys = 24346) : reachK 0 sys = none := by
  rw [reach_if, hit_no (k := 0) (fun e => h0 e.symm), hit_no (k := 1) (fun e => h1 e.symm), hit_no (k := 2) (fun e => h2 e.symm), hit_lo (k := 3) rfl, hit_lo (k := 4) rfl, hit_lo (k := 5) rfl, hit_lo (k := 6) rfl]; rfl
theorem r_hi {sys : Int} (h0 : ¬ sys = 24322) (h1 : ¬ sys = 24345) (h2 : ¬ sys = 24346) (h3 : ¬ sys = 18016) (h4 : ¬ sys = 16944) (h5 : ¬ sys = 18017) (h6 : ¬ sys = 18013) : reachK 1 sys = none := by
  rw [reach_if, hit_no (k := 0) (fun e => h0 e.symm), hit_no (k := 1) (fun e => h1 e.symm), hit_no (k := 2) (fun e => h2 e.symm), hit_no (k := 3) (fun e => h3 e.symm), hit_no (k := 4) (fun e => h4 e.symm), hit_no (k := 5) (fun e => h5 e.symm), hit_no (k := 6) (fun e => h6 e.symm)]; rfl
theorem r_t0 {el : Int} (h : el = 0 ∨ el = 1) : reachK el 24322 = some 0 := by rcases h with rfl | rfl <;> kernel_rfl
theorem r_t1 {el : Int} (h : el = 0 ∨ el = 1) : reachK el 24345 = some 1 := by rcases h with rfl | rfl <;> kernel_rfl
theorem r_t2 {el : Int} (h : el = 0 ∨ el = 1) : reachK el 24346 = some 2 := by rcases h with rfl | rfl <;> kernel_rfl
theorem r_3 : reachK 1 18016 = some 3 := by kernel_rfl
theorem r_4 : reachK 1 16944 = some 4 := by kernel_rfl
theorem r_5 : reachK 1 18017 = some 5 := by kernel_rfl
theorem r_6 : reachK 1 18013 = some 6 := by kernel_rfl
/-- What a system register tells, and what that makes of the document's bus. -/
def dsrV (n : Nat) (S : Ds) (core : Int) (k : Nat) : Int := match k with
  | 0 => Tmr.readV n S.T core 24322
  | 1 => Tmr.readV n S.T core 24345
  | 2 => Tmr.readV n S.T core 24346
  | 3 => Doc.ackV S.X n core % 18446744073709551616
  | 4 => Doc.limOf S.X core % 18446744073709551616
  | _ => 0
def dsrS (n : Nat) (S : Ds) (core : Int) (k : Nat) : Ds := match k with
  | 3 => { S with X := Doc.ackR S.X n core }
  | _ => S
def dturnS (n : Nat) (S : Ds) (core sys : Int) (v : Nat) : Ds := { S with T := Tmr.writeT n S.T core sys v, X := dlnF n (Tmr.writeT n S.T core sys v) S.X n }
def dswS (n : Nat) (S : Ds) (core : Int) (k v : Nat) : Ds := match k with
  | 1 => dturnS n S core 24345 v
  | 2 => dturnS n S core 24346 v
  | 4 => { S with X := Doc.maskR S.X n core (v % 256 : Nat) }
  | 5 => { S with X := Doc.eoiR S.X n core (v % 16777216 : Nat) }
  | 6 => { S with X := Doc.sendR S.X n (sgiT n core v) (sgiI v) }
  | _ => S
def dsyV (n : Nat) (S : Ds) (core el sys : Int) : Int := match reachK el sys with
  | none => 0
  | some k => if (hasB n core && rdbl k) = true then dsrV n S core k else 0
def dsyS (n : Nat) (S : Ds) (core el sys : Int) : Ds := match reachK el sys with
  | none => S
  | some k => if (hasB n core && rdbl k) = true then dsrS n S core k else S
def dseS (n : Nat) (S : Ds) (core el sys : Int) (v : Nat) : Ds := match reachK el sys with
  | none => S
  | some k => if (hasB n core && wrbl k) = true then dswS n S core k v else S
section
variable {d h r n : Nat} {S S' : Ds} {Z : DLay} {w w' w1 w2 : World}
theorem dsy_none {core el sys : Int} (hr : reachK el sys = none) : dsyV n S core el sys = 0 ∧ bsysE n core el sys = 2 ∧ dsyS n S core el sys = S := by unfold dsyV bsysE dsyS; rw [hr]; exact ⟨rfl, rfl, rfl⟩
theorem dsy_no {core el sys : Int} (hh : hasB n core = false) : dsyV n S core el sys = 0 ∧ bsysE n core el sys = 2 ∧ dsyS n S core el sys = S := by
  unfold dsyV bsysE dsyS
  cases reachK el sys with
  | none => exact ⟨rfl, rfl, rfl⟩
  | some k => dsimp only; rw [hh, Bool.false_and, if_neg (by decide), if_neg (by decide), if_neg (by decide)]; exact ⟨rfl, rfl, rfl⟩
theorem dsy_nr {core el sys : Int} {k : Nat} (hr : reachK el sys = some k) (hk : rdbl k = false) : dsyV n S core el sys = 0 ∧ bsysE n core el sys = 2 ∧ dsyS n S core el sys = S := by
  unfold dsyV bsysE dsyS
  rw [hr]; dsimp only; rw [hk, Bool.and_false, if_neg (by decide), if_neg (by decide), if_neg (by decide)]; exact ⟨rfl, rfl, rfl⟩
theorem dsy_yes {el sys : Int} {c k : Nat} (hc : c < n) (hr : reachK el sys = some k) (hk : rdbl k = true) : dsyV n S c el sys = dsrV n S c k ∧ bsysE n c el sys = 0 ∧ dsyS n S c el sys = dsrS n S c k := by
  unfold dsyV bsysE dsyS
  rw [hr]; dsimp only; rw [has_nat hc, hk, Bool.and_self, if_pos rfl, if_pos rfl, if_pos rfl]; exact ⟨rfl, rfl, rfl⟩
theorem dse_none {core el sys : Int} {v : Nat} (hr : reachK el sys = none) : bsetE n core el sys = 2 ∧ dseS n S core el sys v = S := by unfold bsetE dseS; rw [hr]; exact ⟨rfl, rfl⟩
theorem dse_no {core el sys : Int} {v : Nat} (hh : hasB n core = false) : bsetE n core el sys = 2 ∧ dseS n S core el sys v = S := by
  unfold bsetE dseS
  cases reachK el sys with
  | none => exact ⟨rfl, rfl⟩
  | some k => dsimp only; rw [hh, Bool.false_and, if_neg (by decide), if_neg (by decide)]; exact ⟨rfl, rfl⟩
theorem dse_nr {core el sys : Int} {k v : Nat} (hr : reachK el sys = some k) (hk : wrbl k = false) : bsetE n core el sys = 2 ∧ dseS n S core el sys v = S := by
  unfold bsetE dseS
  rw [hr]; dsimp only; rw [hk, Bool.and_false, if_neg (by decide), if_neg (by decide)]; exact ⟨rfl, rfl⟩
theorem dse_yes {el sys : Int} {c k v : Nat} (hc : c < n) (hr : reachK el sys = some k) (hk : wrbl k = true) : bsetE n c el sys = 0 ∧ dseS n S c el sys v = dswS n S c k v := by
  unfold bsetE dseS
  rw [hr]; dsimp only; rw [has_nat hc, hk, Bool.and_self, if_pos rfl, if_pos rfl]; exact ⟨rfl, rfl⟩
theorem no_lo {core : Int} (h : core < 0) : hasB n core = false := by unfold hasB; rw [decide_eq_false (by omega)]; rfl
theorem no_hi {core : Int} (h : (n : Int) ≤ core) : hasB n core = false := by unfold hasB; rw [decide_eq_false (show ¬ core < (n : Int) by omega)]; simp
theorem hasT2 {n d : Nat} (h : d < n) : Tmr.hasB n (d : Int) = true := by simp [Tmr.hasB]; omega

set_option maxHeartbeats 2000000 in
theorem dsys_c (H : DocAt d h r n S Z w) (core el sys : Int) : Calls Tryz.prog 18 #[ptr d 0, vI core, vI el, vI sys] w fun e w' => e = .returned (.tuple #[vU (dsyV n S core el sys), vI (bsysE n core el sys)]) ∧ DT d h r n Z (dsyS n S core el sys) w w' := by
  have c0 := H.c0
  have c2 := H.c2
  by_cases h1 : core < 0
  · skip
    have hans := show Hid _ from (dsy_no (S := S) (el := el) (sys := sys) (no_lo (n := n) h1))
    go_enter Tryz.func18, Tryz.ntmps18
    go_wp2
    go_ret2
    exact ⟨by rw [hans.out.1, hans.out.2.1]; rfl, by rw [hans.out.2.2]; exact H.refl⟩
  by_cases h2 : (n : Int) ≤ core
  · skip
    have hans := show Hid _ from (dsy_no (S := S) (el := el) (sys := sys) (no_hi h2))
    go_enter Tryz.func18, Tryz.ntmps18
    go_wp2
    go_ret2
    exact ⟨by rw [hans.out.1, hans.out.2.1]; rfl, by rw [hans.out.2.2]; exact H.refl⟩
  obtain ⟨c, rfl⟩ : ∃ c : Nat, core = c := ⟨core.toNat, by omega⟩
  have hc : c < n := by omega
  by_cases hel : el = 0 ∨ el = 1
  · have hrd := Tmr.rread_c H.tim c sys
    by_cases hs : Tmr.regB sys = true
    · have hv : Tmr.readV n S.T c sys = dsyV n S c el sys ∧ Tmr.readE n c sys = 0 ∧ bsysE n c el sys = 0 ∧ dsyS n S c el sys = S := by
        have hE : Tmr.readE n c sys = 0 := by unfold Tmr.readE; rw [hasT2 hc, hs]; rfl
        have hs' : sys = 24322 ∨ sys = 24346 ∨ sys = 24345 := by
          unfold Tmr.regB at hs
          simp only [Bool.or_eq_true, decide_eq_true_eq] at hs
          rcases hs with (h | h) | h
          · exact .inl h
          · exact .inr (.inl h)
          · exact .inr (.inr h)
        rcases hs' with rfl | rfl | rfl
        · have := dsy_yes (S := S) hc (r_t0 hel) rfl
          exact ⟨this.1.symm, hE, this.2.1, this.2.2⟩
        · have := dsy_yes (S := S) hc (r_t2 hel) rfl
          exact ⟨this.1.symm, hE, this.2.1, this.2.2⟩
        · have := dsy_yes (S := S) hc (r_t1 hel) rfl
          exact ⟨this.1.symm, hE, this.2.1, this.2.2⟩
      rw [hv.1, hv.2.1] at hrd
      have hans := show Hid _ from hv.2.2
      clear hv hs
      generalize dsyV n S c el sys = vv at *
      rcases hel with rfl | rfl
      all_goals
        go_enter Tryz.func18, Tryz.ntmps18
        go_wp2_with (first | (go_at_call 50; refine hrd.mono ?_; rintro e w1 ⟨rfl, hB⟩; dsimp only))
        go_ret2
        exact ⟨by rw [hans.out.1]; rfl, by rw [hans.out.2]; exact H.same hB⟩
    · have hs' : ¬ sys = 24322 ∧ ¬ sys = 24346 ∧ ¬ sys = 24345 := by
        unfold Tmr.regB at hs
        simp only [Bool.or_eq_true, decide_eq_true_eq, not_or] at hs
        exact ⟨hs.1.1, hs.1.2, hs.2⟩
      have hE : Tmr.readE n c sys = 1 := by unfold Tmr.readE; rw [hasT2 hc, (by simpa using hs : Tmr.regB sys = false)]; rfl
      rw [hE] at hrd
      generalize Tmr.readV n S.T c sys = rv at hrd
      clear hs hE
      rcases hel with rfl | rfl
      · have hans := show Hid _ from (dsy_none (n := n) (S := S) (core := c) (r_lo hs'.1 hs'.2.2 hs'.2.1))
        clear hs'
        go_enter Tryz.func18, Tryz.ntmps18
        go_wp2_with (first | (go_at_call 50; refine hrd.mono ?_; rintro e w1 ⟨rfl, hB⟩; dsimp only))
        go_ret2
        exact ⟨by rw [hans.out.1, hans.out.2.1]; rfl, by rw [hans.out.2.2]; exact H.same hB⟩
      · by_cases k3 : sys = 18016
        · subst k3
          have hans := show Hid _ from (dsy_yes (S := S) hc r_3 rfl)
          clear hs'
          go_enter Tryz.func18, Tryz.ntmps18
          go_upto_region 10 with (first | (go_at_call 50; refine hrd.mono ?_; rintro e w1 ⟨rfl, hB⟩; dsimp only))
          have H1 := H.grow hB
          have c1 := H1.c1
          have hm := Doc.ack_c H1.gic c
          have hv2 : dsyV n S c 1 18016 = IntKind.u64.wrap (Doc.ackV S.X n c) := by rw [IntKind.wrap_u64]; exact hans.out.1
          have he2 := show Hid _ from hans.out.2
          replace hv2 := show Hid _ from hv2
          generalize Doc.ackV S.X n c = av at hm hv2
          clear hans hrd c0 c2
          go_wp2_with (first | (go_at_call 51; refine hm.mono ?_; rintro e w2 ⟨rfl, hT⟩; dsimp only))
          go_ret2
          exact ⟨by rw [hv2.out, he2.out.1]; rfl, by rw [he2.out.2]; exact DT.ahead hB (H1.gicT hT)⟩
        · have b3 : (sys == 18016) = false := by simpa using k3
          by_cases k4 : sys = 16944
          · subst k4
            have hans := show Hid _ from (dsy_yes (S := S) hc r_4 rfl)
            clear hs' k3
            go_enter Tryz.func18, Tryz.ntmps18
            go_upto_region 12 with (first | (go_at_call 50; refine hrd.mono ?_; rintro e w1 ⟨rfl, hB⟩; dsimp only))
            have H1 := H.grow hB
            have c1 := H1.c1
            obtain ⟨lb, lcap, v0, el1, el2, el3, _⟩ := Doc.RefAt.limAt H1.gic hc
            have ch : w1.cell? ⟨h, 3, none⟩ = some (.slice (some ⟨lb, 0, none⟩) n lcap) := by
              rw [cell_of_row _ _ _ _ _ _ H1.gic.top, ← el1]; rfl
            have hv2 : dsyV n S c 1 16944 = IntKind.u64.wrap v0 := by
              rw [IntKind.wrap_u64, hans.out.1]
              show Doc.limOf S.X c % 18446744073709551616 = _
              unfold Doc.limOf
              rw [Int.toNat_natCast, el2]; rfl
            have he2 := show Hid _ from hans.out.2
            replace hv2 := show Hid _ from hv2
            have hcl : (c : Int) < n := by omega
            clear hans hrd c0 c2 el1 el2
            go_wp2
            go_ret2
            exact ⟨by rw [hv2.out, he2.out.1]; rfl, by rw [he2.out.2]; exact H.same hB⟩
          · have b4 : (sys == 16944) = false := by simpa using k4
            have hans : Hid (dsyV n S c 1 sys = 0 ∧ bsysE n c 1 sys = 2 ∧ dsyS n S c 1 sys = S) := by
              show _ ∧ _
              by_cases k5 : sys = 18017
              · subst k5; exact dsy_nr r_5 rfl
              by_cases k6 : sys = 18013
              · subst k6; exact dsy_nr r_6 rfl
              exact dsy_none (r_hi hs'.1 hs'.2.2 hs'.2.1 k3 k4 k5 k6)
            clear hs' k3 k4
            go_enter Tryz.func18, Tryz.ntmps18
            go_wp2_with (first | (go_at_call 50; refine hrd.mono ?_; rintro e w1 ⟨rfl, hB⟩; dsimp only))
            go_ret2
            exact ⟨by rw [hans.out.1, hans.out.2.1]; rfl, by rw [hans.out.2.2]; exact H.same hB⟩
  · have e0 : ¬ el = 0 := fun e => hel (.inl e)
    have e1 : ¬ el = 1 := fun e => hel (.inr e)
    have b0 : (el != 0) = true := by simpa using e0
    have b1 : (el != 1) = true := by simpa using e1
    have hans := show Hid _ from (dsy_none (n := n) (S := S) (core := c) (r_bad (sys := sys) e0 e1))
    clear hel
    go_enter Tryz.func18, Tryz.ntmps18
    go_wp2
    go_ret2
    exact ⟨by rw [hans.out.1, hans.out.2.1]; rfl, by rw [hans.out.2.2]; exact H.refl⟩
end
end Go.Proofs.YteklkololojamaaGreat
/- The document's bus: SetSys. -/
namespace Go.Proofs.YteklkololojamaaGreat
open Go.RowKit
set_option linter.unusedVariables false
set_option linter.unusedSimpArgs false
set_option maxRecDepth 8000

theorem pow_diff {n c : Nat} (hn : n ≤ 8) (hc : c < n) : wrap64 (2 ^ n - 1 - 2 ^ c) = 2 ^ n - 1 - 2 ^ c := by
  have hpn : (2 : Int) ^ n ≤ 256 := gpow_le hn
  have hp0 : (0 : Int) < 2 ^ n := Int.pow_pos (by decide)
  have hpc : (2 : Int) ^ c ≤ 256 := gpow_le (by omega)
  have hp1 : (0 : Int) < 2 ^ c := Int.pow_pos (by decide)
  exact IntWalk.wrap64_in _ ⟨by omega, by omega⟩

open Tim
section
variable {d h r n : Nat} {S S' : Ds} {Z : DLay} {w w' w1 w2 : World}
theorem wr_no {T : Tm} {c : Nat} {sys : Int} {v : Int} (h : Tmr.wregB sys = false) : Tmr.writeT n T c sys v = T := by unfold Tmr.writeT; rw [h, Bool.and_false, if_neg (by decide)]
set_option maxHeartbeats 4000000 in
theorem dset_c (H : DocAt d h r n S Z w) (core el sys : Int) (v : Nat) (hv : v < 2 ^ 64) : Calls Tryz.prog 19 #[ptr d 0, vI core, vI el, vI sys, vU v] w fun e w' => e = .returned (vI (bsetE n core el sys)) ∧ DT d h r n Z (dseS n S core el sys v) w w' := by
  have c0 := H.c0
  have c2 := H.c2
  by_cases h1 : core < 0
  · skip
    have hans := show Hid _ from (dse_no (S := S) (el := el) (sys := sys) (v := v) (no_lo (n := n) h1))
    go_enter Tryz.func19, Tryz.ntmps19
    go_wp2
    go_ret
    exact ⟨by rw [hans.out.1]; rfl, by rw [hans.out.2]; exact H.refl⟩
  by_cases h2 : (n : Int) ≤ core
  · skip
    have hans := show Hid _ from (dse_no (S := S) (el := el) (sys := sys) (v := v) (no_hi h2))
    go_enter Tryz.func19, Tryz.ntmps19
    go_wp2
    go_ret
    exact ⟨by rw [hans.out.1]; rfl, by rw [hans.out.2]; exact H.refl⟩
  obtain ⟨c, rfl⟩ : ∃ c : Nat, core = c := ⟨core.toNat, by omega⟩
  have hc : c < n := by omega
  by_cases hel : el = 0 ∨ el = 1
  · have hrd := Tmr.rwrite_c H.tim c sys (u64_of hv)
    by_cases hs : Tmr.wregB sys = true
    · have hE : Tmr.writeE n c sys = 0 := by unfold Tmr.writeE; rw [hasT2 hc, hs]; rfl
      have hans : bsetE n c el sys = 0 ∧ dseS n S c el sys v = dturnS n S c sys v := by
        have hs' : sys = 24346 ∨ sys = 24345 := by
          unfold Tmr.wregB at hs
          simpa only [Bool.or_eq_true, decide_eq_true_eq] using hs
        rcases hs' with rfl | rfl
        · exact dse_yes (S := S) hc (r_t2 hel) rfl
        · exact dse_yes (S := S) hc (r_t1 hel) rfl
      rw [hE] at hrd
      have hT2 : ∀ (Q : Ds), Q = { S with T := Tmr.writeT n S.T c sys v } → ({ Q with X := dlnF n Q.T Q.X n } : Ds) = dseS n S c el sys v := fun Q hQ => by rw [hQ, hans.2]; rfl
      replace hans := show Hid _ from hans.1
      generalize Tmr.writeT n S.T c sys v = T' at hrd hT2
      replace hT2 := show Hid _ from hT2
      clear hs hE
      rcases hel with rfl | rfl
      all_goals
        go_enter Tryz.func19, Tryz.ntmps19
        go_upto_region 5 with (first | (go_at_call 52; refine hrd.mono ?_; rintro e w1 ⟨rfl, hT⟩; dsimp only))
        have hD := H.timT hT
        generalize hQ : ({ S with T := T' } : Ds) = Q at hD
        have hQ2 := hT2.out Q hQ.symm
        replace hQ2 := show Hid _ from hQ2
        clear hT hQ hrd hT2 c0 c2
        go_wp2_with (first | (go_at_call 53; refine (dlines_c hD.1).mono ?_; rintro e w2 ⟨rfl, hT⟩; dsimp only))
        go_ret
        exact ⟨by rw [hans.out]; rfl, by rw [← hQ2.out]; exact hD.then hT⟩
    · have hsf : Tmr.wregB sys = false := by simpa using hs
      have hE : Tmr.writeE n c sys = 1 := by unfold Tmr.writeE; rw [hasT2 hc, hsf]; rfl
      rw [hE, wr_no hsf] at hrd
      have hs' : ¬ sys = 24346 ∧ ¬ sys = 24345 := by
        unfold Tmr.wregB at hs
        simpa only [Bool.or_eq_true, decide_eq_true_eq, not_or] using hs
      clear hs hE hsf
      have hbk : ∀ w1, Tmr.RT r Z.cb Z.cv n S.T w w1 → DT d h r n Z S w w1 := fun w1 k => H.timT k
      replace hbk := show Hid _ from hbk
      rcases hel with rfl | rfl
      · have hans : Hid (bsetE n c 0 sys = 2 ∧ dseS n S c 0 sys v = S) := by
          show _ ∧ _
          by_cases k0 : sys = 24322
          · subst k0; exact dse_nr (r_t0 (.inl rfl)) rfl
          exact dse_none (r_lo k0 hs'.2 hs'.1)
        clear hs'
        go_enter Tryz.func19, Tryz.ntmps19
        go_wp2_with (first | (go_at_call 52; refine hrd.mono ?_; rintro e w1 ⟨rfl, hT⟩; dsimp only))
        go_ret
        exact ⟨by rw [hans.out.1]; rfl, by rw [hans.out.2]; exact hbk.out _ hT⟩
      · by_cases k4 : sys = 16944
        · subst k4
          have hans := show Hid _ from (dse_yes (S := S) (v := v) hc r_4 rfl)
          clear hs'
          have e1 := and8 v hv
          have e2 := conv_i (v % 256) (by omega)
          go_enter Tryz.func19, Tryz.ntmps19
          go_upto_region 12 with (first | (go_at_call 52; refine hrd.mono ?_; rintro e w1 ⟨rfl, hT⟩; dsimp only))
          have D1 := hbk.out _ hT
          have c1 := D1.1.c1
          have hm := Doc.mask_c D1.1.gic c (v % 256 : Nat)
          have hst : dseS n S c 1 16944 v = { S with X := Doc.maskR S.X n c (v % 256 : Nat) } := hans.out.2
          have he := show Hid _ from hans.out.1
          generalize ((v % 256 : Nat) : Int) = z at *
          generalize Doc.maskE n c z = E at hm
          replace hst := show Hid _ from hst
          clear hans hrd hT hbk c0 c2
          generalize (v : Int) = x at *
          go_wp2_with (first | (go_at_call 54; refine hm.mono ?_; rintro e w2 ⟨rfl, hT⟩; dsimp only))
          go_ret
          exact ⟨by rw [he.out]; rfl, by rw [hst.out]; exact D1.then (D1.1.gicT hT)⟩
        have b4 : (sys == 16944) = false := by simpa using k4
        by_cases k5 : sys = 18017
        · subst k5
          have hans := show Hid _ from (dse_yes (S := S) (v := v) hc r_5 rfl)
          clear hs' k4
          have e1 := and24 v hv
          have e2 := conv_i (v % 16777216) (by omega)
          go_enter Tryz.func19, Tryz.ntmps19
          go_upto_region 14 with (first | (go_at_call 52; refine hrd.mono ?_; rintro e w1 ⟨rfl, hT⟩; dsimp only))
          have D1 := hbk.out _ hT
          have c1 := D1.1.c1
          have hm := Doc.eoi_c D1.1.gic c (v % 16777216 : Nat)
          have hst : dseS n S c 1 18017 v = { S with X := Doc.eoiR S.X n c (v % 16777216 : Nat) } := hans.out.2
          have he := show Hid _ from hans.out.1
          generalize ((v % 16777216 : Nat) : Int) = z at *
          generalize Doc.eoiE n c z = E at hm
          generalize Doc.eoiB S.X n c z = B at hm
          replace hst := show Hid _ from hst
          clear hans hrd hT hbk c0 c2
          generalize (v : Int) = x at *
          go_wp2_with (first | (go_at_call 55; refine hm.mono ?_; rintro e w2 ⟨rfl, hT⟩; dsimp only))
          go_ret
          exact ⟨by rw [he.out]; rfl, by rw [hst.out]; exact D1.then (D1.1.gicT hT)⟩
        have b5 : (sys == 18017) = false := by simpa using k5
        by_cases k6 : sys = 18013
        · subst k6
          have hans := show Hid _ from (dse_yes (S := S) (v := v) hc r_6 rfl)
          clear hs' k4 k5
          have hn := H.le8
          obtain ⟨p1, p2, p3⟩ := pow_facts hn hc
          have p4 : wrap64 (2 ^ n - 1 - 2 ^ c) = 2 ^ n - 1 - 2 ^ c := pow_diff hn hc
          have a1 := and16 v hv
          have a2 := conv_i (v % 65536) (v16_lt v)
          have a3 := low_mask v hn
          have a5 := bit_at v 40 hv
          rw [show (2 : Int) ^ 40 = 1099511627776 from by decide] at a5
          have a6 := sgi_and v hv
          have a7 := conv_i (sgiI v) (sgiI_lt v)
          have hst : dseS n S c 1 18013 v = { S with X := Doc.sendR S.X n (sgiT n c v) (sgiI v) } := hans.out.2
          have he := show Hid _ from hans.out.1
          clear hans
          cases hb : v.testBit 40 with
          | true =>
            have e9 : sgiT n c v = 2 ^ n - 1 - 2 ^ c := by unfold sgiT; rw [if_pos hb, Int.toNat_natCast]
            rw [e9] at hst
            rw [hb] at a5
            generalize ((v % 65536 : Nat) : Int) = v16 at *
            generalize ((v % 2 ^ n : Nat) : Int) = vn at *
            generalize (sgiI v : Int) = si at *
            replace hst := show Hid _ from hst
            clear hb e9 hv
            generalize (v : Int) = x at *
            go_enter Tryz.func19, Tryz.ntmps19
            go_upto_region 16 with (first | (go_at_call 52; refine hrd.mono ?_; rintro e w1 ⟨rfl, hT⟩; dsimp only))
            have D1 := hbk.out _ hT
            have c1 := D1.1.c1
            have cc0 := D1.1.c0
            have hm := Doc.send_c D1.1.gic (2 ^ n - 1 - 2 ^ c) si hn
            generalize Doc.sendE n (2 ^ n - 1 - 2 ^ c) si = E at hm
            clear hrd hT hbk c0 c2
            go_wp2_with (first | (go_at_call 56; refine hm.mono ?_; rintro e w2 ⟨rfl, hT⟩; dsimp only))
            go_ret
            exact ⟨by rw [he.out]; rfl, by rw [hst.out]; exact D1.then (D1.1.gicT hT)⟩
          | false =>
            have e9 : sgiT n c v = ((v % 2 ^ n : Nat) : Int) := by unfold sgiT; rw [if_neg (by rw [hb]; decide)]
            rw [e9] at hst
            rw [hb] at a5
            generalize ((v % 65536 : Nat) : Int) = v16 at *
            generalize ((v % 2 ^ n : Nat) : Int) = vn at *
            generalize (sgiI v : Int) = si at *
            replace hst := show Hid _ from hst
            clear hb e9 hv
            generalize (v : Int) = x at *
            go_enter Tryz.func19, Tryz.ntmps19
            go_upto_region 16 with (first | (go_at_call 52; refine hrd.mono ?_; rintro e w1 ⟨rfl, hT⟩; dsimp only))
            have D1 := hbk.out _ hT
            have c1 := D1.1.c1
            have cc0 := D1.1.c0
            have hm := Doc.send_c D1.1.gic vn si hn
            generalize Doc.sendE n vn si = E at hm
            clear hrd hT hbk c0 c2
            go_wp2_with (first | (go_at_call 56; refine hm.mono ?_; rintro e w2 ⟨rfl, hT⟩; dsimp only))
            go_ret
            exact ⟨by rw [he.out]; rfl, by rw [hst.out]; exact D1.then (D1.1.gicT hT)⟩
        have b6 : (sys == 18013) = false := by simpa using k6
        have hans : Hid (bsetE n c 1 sys = 2 ∧ dseS n S c 1 sys v = S) := by
          show _ ∧ _
          by_cases k0 : sys = 24322
          · subst k0; exact dse_nr (r_t0 (.inr rfl)) rfl
          by_cases k3 : sys = 18016
          · subst k3; exact dse_nr r_3 rfl
          exact dse_none (r_hi k0 hs'.2 hs'.1 k3 k4 k5 k6)
        clear hs' k4 k5 k6
        go_enter Tryz.func19, Tryz.ntmps19
        go_wp2_with (first | (go_at_call 52; refine hrd.mono ?_; rintro e w1 ⟨rfl, hT⟩; dsimp only))
        go_ret
        exact ⟨by rw [hans.out.1]; rfl, by rw [hans.out.2]; exact hbk.out _ hT⟩
  · have e0 : ¬ el = 0 := fun e => hel (.inl e)
    have e1 : ¬ el = 1 := fun e => hel (.inr e)
    have b0 : (el != 0) = true := by simpa using e0
    have b1 : (el != 1) = true := by simpa using e1
    have hans := show Hid _ from (dse_none (n := n) (S := S) (core := c) (v := v) (r_bad (sys := sys) e0 e1))
    clear hel
    go_enter Tryz.func19, Tryz.ntmps19
    go_wp2
    go_ret
    exact ⟨by rw [hans.out.1]; rfl, by rw [hans.out.2]; exact H.refl⟩
end
end Go.Proofs.YteklkololojamaaGreat
/- Both buses alike: every call keeps it, both answers are equal. -/
namespace Go.Proofs.YteklkololojamaaGreat
open Go.RowKit
set_option linter.unusedVariables false
set_option linter.unusedSimpArgs false
set_option maxRecDepth 8000

open Tim
/-- Both buses are alike. -/
structure LkB (n : Nat) (S : Bs) (D : Ds) : Prop where
  g : Lk n S.P D.X
  t : S.T = D.T
  o : S.O = D.O
theorem k8 (k : Nat) : k = 0 ∨ k = 1 ∨ k = 2 ∨ k = 3 ∨ k = 4 ∨ k = 5 ∨ k = 6 ∨ ∃ m, k = m + 7 := by
  rcases (by omega : k = 0 ∨ k = 1 ∨ k = 2 ∨ k = 3 ∨ k = 4 ∨ k = 5 ∨ k = 6 ∨ 7 ≤ k) with h | h | h | h | h | h | h | h
  · exact .inl h
  · exact .inr (.inl h)
  · exact .inr (.inr (.inl h))
  · exact .inr (.inr (.inr (.inl h)))
  · exact .inr (.inr (.inr (.inr (.inl h))))
  · exact .inr (.inr (.inr (.inr (.inr (.inl h)))))
  · exact .inr (.inr (.inr (.inr (.inr (.inr (.inl h))))))
  · exact .inr (.inr (.inr (.inr (.inr (.inr (.inr ⟨k - 7, by omega⟩))))))
section
variable {n : Nat} {S : Bs} {D : Ds}
theorem of_nat_eq (X : Doc.Ref) (n c i : Nat) : X.of n (c : Int) (i : Int) = X.get (Doc.posR n c i) (Doc.posK i) := rfl
theorem LkB.rd (H : LkB n S D) {c k p : Nat} (hc : c < n) (h5 : k = 5 → p < 64) (h6 : k = 6 → p < 32) : rdV n S c k p = ddV n D c k p := by
  have ho := fun {i : Nat} (hi : i < 64) => H.g.of hc hi
  have e1 : enW n S c = Bit.orN (fun i => (D.X.of n c i).e) 64 := Bit.orN_congr 64 fun i hi => (ho hi).e
  have e2 : peW n S c = Bit.orN (fun i => ((D.X.of n c i).l || (D.X.of n c i).h)) 64 := Bit.orN_congr 64 fun i hi => by rw [(ho hi).l, (ho hi).h]
  have e3 : acW n S c = Bit.orN (fun i => (D.X.of n c i).a) 64 := Bit.orN_congr 64 fun i hi => (ho hi).a
  rcases k8 k with rfl | rfl | rfl | rfl | rfl | rfl | rfl | ⟨m, rfl⟩
  · show ((enW n S c : Nat) : Int) = _; rw [e1]; rfl
  · show ((enW n S c : Nat) : Int) = _; rw [e1]; rfl
  · show ((peW n S c : Nat) : Int) = _; rw [e2]; rfl
  · show ((peW n S c : Nat) : Int) = _; rw [e2]; rfl
  · show ((acW n S c : Nat) : Int) = _; rw [e3]; rfl
  · show (lookV n S.P c p).rank % 18446744073709551616 = _; rw [(ho (h5 rfl)).rank]; rfl
  · have hp := h6 rfl
    have e4 : (32 + (p : Int)) = ((p + 32 : Nat) : Int) := by omega
    have e5 : lookV n S.P 0 (32 + (p : Int)) = lookV n S.P c ((p + 32 : Nat) : Int) := by
      rw [e4]
      exact look_shared (c := 0) (by omega) hc (by omega) (by omega)
    show (lookV n S.P 0 (32 + (p : Int))).goes % 18446744073709551616 = _
    rw [e5, H.g.goes hc (by omega) (by omega)]; rfl
  · show (S.O.length : Int) = _; rw [H.o]; rfl
theorem hit_p {k : Nat} {a : Int} (h : findK a = some k) : (k = 5 → plcK k a < 64) ∧ (k = 6 → plcK k a < 32) := by
  obtain ⟨hk, hhit⟩ := findF_lt h
  simp only [hitK, Bool.and_eq_true, decide_eq_true_eq] at hhit
  have h0 : 0 ≤ offK k a := by unfold offK; omega
  refine ⟨fun e => ?_, fun e => ?_⟩
  · subst e
    have h1 : offK 5 a < 64 * 8 := hhit.1
    unfold plcK; omega
  · subst e
    have h1 : offK 6 a < 32 * 8 := hhit.1
    unfold plcK; omega
theorem has_ex {core : Int} (h : hasB n core = true) : ∃ c : Nat, core = c ∧ c < n := by
  obtain ⟨h4, h5⟩ := has_of h
  exact ⟨core.toNat, by omega, by omega⟩
theorem LkB.read (H : LkB n S D) (core a : Int) : brdV n S core a = ddrV n D core a := by
  unfold brdV ddrV
  cases hf : findK a with
  | none => rfl
  | some k =>
    dsimp only
    cases hh : hasB n core with
    | false => rfl
    | true =>
      obtain ⟨c, rfl, hc⟩ := has_ex hh
      rw [if_pos rfl, if_pos rfl, Int.toNat_natCast]
      exact H.rd hc (hit_p hf).1 (hit_p hf).2
theorem LkB.sprE (H : LkB n S D) (c : Nat) (on : Bool) (v : Nat) : ∀ m, Lk n (sprF (fun Q id => genableP n Q c id on) S.P v m) (dspF n D.X 0 c on v m)
  | 0 => H.g
  | m + 1 => by
    have ih := LkB.sprE H c on v m
    show Lk n (if v.testBit m = true then _ else _) (if v.testBit m = true then _ else _)
    by_cases hb : v.testBit m = true
    · rw [if_pos hb, if_pos hb]; exact ih.en c m 0 on
    · rw [if_neg hb, if_neg hb]; exact ih
theorem LkB.sprP (H : LkB n S D) (c : Nat) (on : Bool) (v : Nat) : ∀ m, Lk n (sprF (fun Q id => gpendP n Q c id on) S.P v m) (dspF n D.X 1 c on v m)
  | 0 => H.g
  | m + 1 => by
    have ih := LkB.sprP H c on v m
    show Lk n (if v.testBit m = true then _ else _) (if v.testBit m = true then _ else _)
    by_cases hb : v.testBit m = true
    · rw [if_pos hb, if_pos hb]; exact ih.pe c m 0 on
    · rw [if_neg hb, if_neg hb]; exact ih
theorem LkB.wr (H : LkB n S D) (c k p v : Nat) : LkB n (wrS n S c k p v) (ddS n D c k p v) := by
  rcases k8 k with rfl | rfl | rfl | rfl | rfl | rfl | rfl | ⟨m, rfl⟩
  · exact ⟨H.sprE c true v 64, H.t, H.o⟩
  · exact ⟨H.sprE c false v 64, H.t, H.o⟩
  · exact ⟨H.sprP c true v 64, H.t, H.o⟩
  · exact ⟨H.sprP c false v 64, H.t, H.o⟩
  · exact H
  · exact ⟨H.g.ra c p (v % 256 : Nat) false, H.t, H.o⟩
  · show LkB n (routeS n S p v) (if v < n then { D with X := Doc.routeR D.X n ((p : Int) + 32) v } else D)
    unfold routeS
    by_cases hv : v < n
    · rw [if_pos hv, if_pos hv]
      refine ⟨?_, H.t, H.o⟩
      show Lk n (grouteP n S.P (32 + (p : Int)) v) (Doc.routeR D.X n ((p : Int) + 32) v)
      rw [Int.add_comm (p : Int) 32]
      exact H.g.ro (32 + (p : Int)) v
    · rw [if_neg hv, if_neg hv]; exact H
  · show LkB n (sayS S v) (if D.O.length < 10000 then { D with O := D.O ++ [((v % 256 : Nat) : Int)] } else D)
    unfold sayS
    rw [← H.o]
    by_cases hl : S.O.length < 10000
    · rw [if_pos hl, if_pos hl]; exact ⟨H.g, H.t, rfl⟩
    · rw [if_neg hl, if_neg hl]; exact H
theorem LkB.write (H : LkB n S D) (core a : Int) (v : Nat) : LkB n (bwrS n S core a v) (ddwS n D core a v) := by
  unfold bwrS ddwS
  cases hf : findK a with
  | none => exact H
  | some k =>
    dsimp only
    cases hh : hasB n core with
    | false => exact H
    | true =>
      obtain ⟨c, rfl, hc⟩ := has_ex hh
      rw [if_pos rfl, if_pos rfl, Int.toNat_natCast]
      exact H.wr c k (plcK k a) v
theorem dline_eq {X : Doc.Ref} {T : Tm} {c : Nat} (hc : c < n) : dlineX n X T c = Doc.setR X n 2 c 27 (Tmr.highV n T c) 0 := by
  have hb : Doc.rbadB n c 27 = false := dbad (i := 27) hc (by decide)
  have hE : Doc.setE n 2 c 27 0 = 0 := by
    unfold Doc.setE
    rw [hb, if_neg]
    rintro (h | ⟨_, h⟩ | ⟨h, _⟩)
    · cases h
    · exact absurd h (by decide)
    · exact absurd h (by decide)
  unfold dlineX Doc.setR
  rw [hE, if_pos rfl]
  unfold Doc.posR Doc.posK
  rw [if_neg (by decide), if_neg (by decide), Int.toNat_natCast]
  rfl
theorem lines_lk {P : Pg} {X : Doc.Ref} (H : Lk n P X) (T : Tm) : ∀ m, m ≤ n → Lk n (jnF n T P m) (dlnF n T X m)
  | 0, _ => H
  | m + 1, hm => by
    have ih := lines_lk H T m (by omega)
    show Lk n (glineP n (jnF n T P m) m 27 (Tmr.highV n T m)) (dlineX n (dlnF n T X m) T m)
    rw [dline_eq (by omega)]
    exact ih.li m 27 0 (Tmr.highV n T m)
theorem LkB.tick (H : LkB n S D) (k : Int) : LkB n (tickS n S k) (dtickS n D k) := by
  refine ⟨?_, ?_, H.o⟩
  · show Lk n (jnF n (S.T.tick k) S.P n) (dlnF n (D.T.tick k) D.X n)
    rw [H.t]
    exact lines_lk H.g _ n (Nat.le_refl _)
  · show S.T.tick k = D.T.tick k
    rw [H.t]
theorem LkB.turn (H : LkB n S D) (core sys : Int) (v : Nat) : LkB n (turnS n S core sys v) (dturnS n D core sys v) := by
  refine ⟨?_, ?_, H.o⟩
  · show Lk n (jnF n (Tmr.writeT n S.T core sys v) S.P n) (dlnF n (Tmr.writeT n D.T core sys v) D.X n)
    rw [H.t]
    exact lines_lk H.g _ n (Nat.le_refl _)
  · show Tmr.writeT n S.T core sys v = Tmr.writeT n D.T core sys v
    rw [H.t]
theorem LkB.srv (H : LkB n S D) {c : Nat} (hc : c < n) (k : Nat) : srV n S c k = dsrV n D c k := by
  rcases k8 k with rfl | rfl | rfl | rfl | rfl | rfl | rfl | ⟨m, rfl⟩
  · show Tmr.readV n S.T c 24322 = Tmr.readV n D.T c 24322; rw [H.t]
  · show Tmr.readV n S.T c 24345 = Tmr.readV n D.T c 24345; rw [H.t]
  · show Tmr.readV n S.T c 24346 = Tmr.readV n D.T c 24346; rw [H.t]
  · show ackV n S.P c % 18446744073709551616 = Doc.ackV D.X n c % 18446744073709551616; rw [H.g.ackV]
  · show limV n S.P c % 18446744073709551616 = Doc.limOf D.X c % 18446744073709551616; rw [lim_nat hc, H.g.lim c hc]
  · rfl
  · rfl
  · rfl
theorem LkB.srs (H : LkB n S D) (core : Int) (k : Nat) : LkB n (srS n S core k) (dsrS n D core k) := by
  rcases k8 k with rfl | rfl | rfl | rfl | rfl | rfl | rfl | ⟨m, rfl⟩
  · exact H
  · exact H
  · exact H
  · exact ⟨H.g.ack core, H.t, H.o⟩
  · exact H
  · exact H
  · exact H
  · exact H
theorem LkB.sws (H : LkB n S D) (core : Int) (k v : Nat) : LkB n (swS n S core k v) (dswS n D core k v) := by
  rcases k8 k with rfl | rfl | rfl | rfl | rfl | rfl | rfl | ⟨m, rfl⟩
  · exact H
  · exact H.turn core 24345 v
  · exact H.turn core 24346 v
  · exact H
  · exact ⟨H.g.mskP core (v % 256 : Nat), H.t, H.o⟩
  · exact ⟨H.g.eoi core (v % 16777216 : Nat), H.t, H.o⟩
  · exact ⟨H.g.send (sgiT n core v) (sgiI v), H.t, H.o⟩
  · exact H
theorem LkB.sysV (H : LkB n S D) (core el sys : Int) : bsysV n S core el sys = dsyV n D core el sys := by
  unfold bsysV dsyV
  cases reachK el sys with
  | none => rfl
  | some k =>
    dsimp only
    cases hh : hasB n core with
    | false => rfl
    | true =>
      obtain ⟨c, rfl, hc⟩ := has_ex hh
      rw [H.srv hc]
theorem LkB.sysS (H : LkB n S D) (core el sys : Int) : LkB n (bsysS n S core el sys) (dsyS n D core el sys) := by
  unfold bsysS dsyS
  cases reachK el sys with
  | none => exact H
  | some k =>
    dsimp only
    by_cases hh : (hasB n core && rdbl k) = true
    · rw [if_pos hh, if_pos hh]; exact H.srs core k
    · rw [if_neg hh, if_neg hh]; exact H
theorem LkB.setS (H : LkB n S D) (core el sys : Int) (v : Nat) : LkB n (bsetS n S core el sys v) (dseS n D core el sys v) := by
  unfold bsetS dseS
  cases reachK el sys with
  | none => exact H
  | some k =>
    dsimp only
    by_cases hh : (hasB n core && wrbl k) = true
    · rw [if_pos hh, if_pos hh]; exact H.sws core k v
    · rw [if_neg hh, if_neg hh]; exact H
theorem new_lkB (n : Nat) : LkB n newS ⟨Doc.newR n, zeroT, []⟩ := ⟨new_lk n, rfl, rfl⟩
theorem is_eq {a : Int} (hu : U64 a) : busIs a = docIs a := by
  obtain ⟨h0, h1⟩ := hu
  unfold busIs docIs
  have e1 : decide ((a - 134217728) % 18446744073709551616 < 4096) = (decide (134217728 ≤ a) && decide (a < 134221824)) := by
    by_cases p : 134217728 ≤ a
    · by_cases q : a < 134221824
      · rw [decide_eq_true p, decide_eq_true q, decide_eq_true (by omega)]; rfl
      · rw [decide_eq_false q, decide_eq_false (by omega), Bool.and_false]
    · rw [decide_eq_false p, decide_eq_false (by omega), Bool.false_and]
  have e2 : decide ((a - 150994944) % 18446744073709551616 < 8) = (decide (150994944 ≤ a) && decide (a < 150994952)) := by
    by_cases p : 150994944 ≤ a
    · by_cases q : a < 150994952
      · rw [decide_eq_true p, decide_eq_true q, decide_eq_true (by omega)]; rfl
      · rw [decide_eq_false q, decide_eq_false (by omega), Bool.and_false]
    · rw [decide_eq_false p, decide_eq_false (by omega), Bool.false_and]
  rw [e1, e2]
/-- How many works a core has at most. -/
def WkLe (S : Bs) (m : Nat) : Prop := ∀ c, (S.P.wk c).length ≤ m
theorem put_wk (P : Pg) (r k : Nat) (s : Src) (c : Nat) : (P.put r k s).wk c = P.wk c := rfl
theorem en_wk (P : Pg) (core id : Int) (on : Bool) (c : Nat) : (genableP n P core id on).wk c = P.wk c := by unfold genableP; split <;> rfl
theorem pe_wk (P : Pg) (core id : Int) (on : Bool) (c : Nat) : (gpendP n P core id on).wk c = P.wk c := by unfold gpendP; split <;> rfl
theorem spr_wk {f : Pg → Int → Pg} (hf : ∀ P id c, (f P id).wk c = P.wk c) (P : Pg) (v c : Nat) : ∀ m, (sprF f P v m).wk c = P.wk c
  | 0 => rfl
  | m + 1 => by
    show (if v.testBit m = true then f (sprF f P v m) m else sprF f P v m).wk c = _
    split
    · rw [hf, spr_wk hf P v c m]
    · exact spr_wk hf P v c m
theorem jn_wk (T : Tm) (P : Pg) (c : Nat) : ∀ m, (jnF n T P m).wk c = P.wk c
  | 0 => rfl
  | m + 1 => by
    show (glineP n (jnF n T P m) m 27 (Tmr.highV n T m)).wk c = _
    unfold glineP
    split
    · exact jn_wk T P c m
    · rw [put_wk]; exact jn_wk T P c m
theorem send_wk (P : Pg) (t : Int) (id c : Nat) : ∀ m, (gsendF P t id m).wk c = P.wk c
  | 0 => rfl
  | m + 1 => by
    show (if t / 2 ^ m % 2 = 1 then (gsendF P t id m).put m id _ else gsendF P t id m).wk c = _
    split
    · rw [put_wk]; exact send_wk P t id c m
    · exact send_wk P t id c m
theorem WkLe.wr {m : Nat} (H : WkLe S m) (core : Int) (k p v : Nat) : WkLe (wrS n S core k p v) m := by
  intro c
  have h := H c
  unfold wrS
  split
  · rw [spr_wk (fun P id c => en_wk P core id true c)]; exact h
  · rw [spr_wk (fun P id c => en_wk P core id false c)]; exact h
  · rw [spr_wk (fun P id c => pe_wk P core id true c)]; exact h
  · rw [spr_wk (fun P id c => pe_wk P core id false c)]; exact h
  · exact h
  · show ((grankP n S.P core p (v % 256 : Nat)).wk c).length ≤ m
    unfold grankP
    split
    · exact h
    · exact h
  · unfold routeS
    split
    · show ((grouteP n S.P (32 + (p : Int)) v).wk c).length ≤ m
      unfold grouteP
      split
      · exact h
      · exact h
    · exact h
  · unfold sayS
    split
    · exact h
    · exact h
theorem WkLe.write {m : Nat} (H : WkLe S m) (core a : Int) (v : Nat) : WkLe (bwrS n S core a v) m := by
  unfold bwrS
  split
  · exact H
  · split
    · exact H.wr core _ _ v
    · exact H
theorem WkLe.join {m : Nat} (H : WkLe S m) : WkLe (joinS n S) m := fun c => by
  show ((jnF n S.T S.P n).wk c).length ≤ m
  rw [jn_wk]; exact H c
theorem WkLe.tick {m : Nat} (H : WkLe S m) (k : Int) : WkLe (tickS n S k) m := WkLe.join (S := { S with T := S.T.tick k }) H
theorem WkLe.sys {m : Nat} (H : WkLe S m) (core el sys : Int) : WkLe (bsysS n S core el sys) (m + 1) := by
  have h1 : WkLe S (m + 1) := fun c => Nat.le_succ_of_le (H c)
  unfold bsysS
  split
  · exact h1
  · split
    · unfold srS
      split
      · intro c
        show ((ackP n S.P core).wk c).length ≤ m + 1
        unfold ackP
        split
        · exact h1 c
        · show (if c = core.toNat then (S.P.wk core.toNat ++ _) else S.P.wk c).length ≤ m + 1
          split
          · simp only [List.length_append, List.length_cons, List.length_nil]
            have := H core.toNat
            omega
          · exact h1 c
      · exact h1
    · exact h1
theorem WkLe.set {m : Nat} (H : WkLe S m) (core el sys : Int) (v : Nat) : WkLe (bsetS n S core el sys v) m := by
  unfold bsetS
  split
  · exact H
  · split
    · unfold swS
      split
      · exact WkLe.join (S := { S with T := Tmr.writeT n S.T core 24345 v }) H
      · exact WkLe.join (S := { S with T := Tmr.writeT n S.T core 24346 v }) H
      · intro c
        show ((gmaskP n S.P core (v % 256 : Nat)).wk c).length ≤ m
        unfold gmaskP
        split
        · exact H c
        · exact H c
      · intro c
        show ((geoiP n S.P core (v % 16777216 : Nat)).wk c).length ≤ m
        unfold geoiP
        split
        · exact H c
        · split
          · exact H c
          · rw [put_wk]
            show (if c = core.toNat then (S.P.wk core.toNat).eraseIdx _ else S.P.wk c).length ≤ m
            split
            · exact Nat.le_trans (List.length_eraseIdx_le _ _) (H core.toNat)
            · exact H c
      · intro c
        show ((gsendP n S.P (sgiT n core v) (sgiI v)).wk c).length ≤ m
        unfold gsendP
        split
        · exact H c
        · rw [send_wk]; exact H c
      · exact H
    · exact H
end
end Go.Proofs.YteklkololojamaaGreat
