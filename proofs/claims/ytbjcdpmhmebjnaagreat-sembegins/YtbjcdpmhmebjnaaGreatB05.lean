/- Whether an instruction may not be at this level; what it wants; Begin: contracts. -/
import Derived.Test.YtbjcdpmhmebjnaaGreatB04
import Derived.Test.YtbjcdpmhmebjnaaGreatB01
import Derived.Laws.Bits64b
import Derived.Laws.BitsLemmas
import Derived.Below
import Derived.Test.YtbjcdpmhmebjnaaGreatRows
import Derived.WalkKit
import Derived.WalkSpells
import Derived.WalkLawsBesides
import Derived.Deep.QuietTactic
import Derived.BigQuiet
import Derived.Laws.Rows
import Derived.Deep.RegionWith
import Derived.Deep.CutRange
namespace Go.Proofs.YtbjcdpmhmebjnaaGreat
open Go.RowKit
set_option linter.unusedVariables false

theorem eqIn_func (d : Nat) {t : TypeId} {a b : Array TypeId} {c : Bool} (hu : Tryz.prog.underlying t = some (.func a b c)) (fn : Fn) (first cap : Array Value) (w : World) : (Op.equalIn (d + 1) t (.func fn first cap) .nilFunc).run Tryz.prog w = .ok false w := by
  rw [Op.equalIn]
  simp [Sem.run_bind, run_underlying hu]
theorem eqIn_nil (d : Nat) {t : TypeId} {a b : Array TypeId} {c : Bool} (hu : Tryz.prog.underlying t = some (.func a b c)) (w : World) : (Op.equalIn (d + 1) t .nilFunc .nilFunc).run Tryz.prog w = .ok true w := by
  rw [Op.equalIn]
  simp [Sem.run_bind, run_underlying hu]
theorem neq_func {t : TypeId} {a b : Array TypeId} {c : Bool} (hu : Tryz.prog.underlying t = some (.func a b c)) (fn : Fn) (first cap : Array Value) (w : World) : (binOp .neq t (.func fn first cap) .nilFunc).run Tryz.prog w = .ok (.bool true) w := by
  have e := eqIn_func 9999 hu fn first cap w
  simp only [binOp]
  simp [Op.equal, Op.maxDepth, e]
theorem neq_nil {t : TypeId} {a b : Array TypeId} {c : Bool} (hu : Tryz.prog.underlying t = some (.func a b c)) (w : World) : (binOp .neq t .nilFunc .nilFunc).run Tryz.prog w = .ok (.bool false) w := by
  have e := eqIn_nil 9999 hu w
  simp only [binOp]
  simp [Op.equal, Op.maxDepth, e]
@[go_sem] theorem neq_func54 (fn : Fn) (first cap : Array Value) (w : World) : (binOp .neq 59 (.func fn first cap) .nilFunc).run Tryz.prog w = .ok (.bool true) w := neq_func Tryz.underlying59 fn first cap w
@[go_sem] theorem neq_nil54 (w : World) : (binOp .neq 59 .nilFunc .nilFunc).run Tryz.prog w = .ok (.bool false) w := neq_nil Tryz.underlying59 w
@[go_sem] theorem neq_func1 (fn : Fn) (first cap : Array Value) (w : World) : (binOp .neq 1 (.func fn first cap) .nilFunc).run Tryz.prog w = .ok (.bool true) w := neq_func Tryz.underlying1 fn first cap w
@[go_sem] theorem neq_nil1 (w : World) : (binOp .neq 1 .nilFunc .nilFunc).run Tryz.prog w = .ok (.bool false) w := neq_nil Tryz.underlying1 w
def lowB (i : Ins) : Bool := i.op == 36 || i.op == 33 || i.op == 29 || (i.op == 31 && !allB i.sys) || (i.op == 32 && (!allB i.sys || roB i.sys))
set_option maxHeartbeats 4000000 in
theorem barredBelow_c (g : Nat) (s : Stp) (w : World) (h : w.heap[g]? = some (.cells s.cells 58)) : Calls Tryz.prog 100 #[.pointer (some ⟨g, 0, none⟩)] w fun e w' => e = .returned (.bool (lowB s.i)) ∧ w' = w := by
  have c0 := at_i h 0 (.int .i64 s.i.op) (by decide) rfl
  have c11 := at_i h 11 (.int .i64 s.i.sys) (by decide) rfl
  cases hA : allB s.i.sys <;> cases hR : roB s.i.sys
  all_goals
    go_enter Tryz.func100, Tryz.ntmps100
    go_wp2_with (first | (go_at_call 182; refine (isForAll_c _ _).mono ?_; rw [hA]; rintro e w1 ⟨rfl, rfl⟩; dsimp only) | (go_at_call 101; refine (isReadOnly_c _ _).mono ?_; rw [hR]; rintro e w1 ⟨rfl, rfl⟩; dsimp only))
    all_goals (go_ret; refine ⟨r_ret_bool ?_, rfl⟩; unfold lowB; simp_all)
set_option maxHeartbeats 4000000 in
theorem barred_c (g : Nat) (s : Stp) (w : World) (h : w.heap[g]? = some (.cells s.cells 58)) : Calls Tryz.prog 42 #[.pointer (some ⟨g, 0, none⟩)] w fun e w' => e = .returned (.bool (barB s.c s.i)) ∧ w' = w := by
  have c0 := at_i h 0 (.int .i64 s.i.op) (by decide) rfl
  have c11 := at_i h 11 (.int .i64 s.i.sys) (by decide) rfl
  have c54 := at_c h 38 (.int .i64 s.c.el) (by decide) s.c.a38
  by_cases h0 : s.c.el = 0
  · have eb : barB s.c s.i = lowB s.i := by unfold barB lowB; rw [h0]; rfl
    rw [h0] at c54
    rw [eb]
    go_enter Tryz.func42, Tryz.ntmps42
    go_wp2_with (go_at_call 100; refine (barredBelow_c g s _ h).mono ?_; rintro e w1 ⟨rfl, rfl⟩; dsimp only)
    go_ret
    exact ⟨rfl, rfl⟩
  · have hel : (s.c.el == 0) = false := by simp [h0]
    have eb : barB s.c s.i = ((s.i.op == 31 && (s.i.sys == 18017 || s.i.sys == 18013)) || (s.i.op == 32 && roB s.i.sys)) := by unfold barB; rw [hel]; rfl
    rw [eb]
    clear eb
    cases hR : roB s.i.sys
    all_goals
      go_enter Tryz.func42, Tryz.ntmps42
      go_wp2_with (go_at_call 101; refine (isReadOnly_c _ _).mono ?_; rw [hR]; rintro e w1 ⟨rfl, rfl⟩; dsimp only)
      all_goals (go_ret; refine ⟨r_ret_bool ?_, rfl⟩; simp_all)
def wishRow (g : Nat) : Array Value := #[.func (.func 43) #[.pointer (some ⟨g, 0, none⟩)] #[], .nilFunc, .nilFunc, .nilFunc, .nilFunc, .nilFunc, .nilFunc, .nilFunc, .nilFunc, .nilFunc, .nilFunc, .nilFunc, .nilFunc, .nilFunc, .nilFunc, .nilFunc, .nilFunc, .func (.func 102) #[.pointer (some ⟨g, 0, none⟩)] #[], .func (.func 105) #[.pointer (some ⟨g, 0, none⟩)] #[], .func (.func 102) #[.pointer (some ⟨g, 0, none⟩)] #[], .func (.func 105) #[.pointer (some ⟨g, 0, none⟩)] #[], .func (.func 103) #[.pointer (some ⟨g, 0, none⟩)] #[], .func (.func 106) #[.pointer (some ⟨g, 0, none⟩)] #[], .func (.func 104) #[.pointer (some ⟨g, 0, none⟩)] #[], .func (.func 107) #[.pointer (some ⟨g, 0, none⟩)] #[], .func (.func 108) #[.pointer (some ⟨g, 0, none⟩)] #[], .func (.func 109) #[.pointer (some ⟨g, 0, none⟩)] #[], .func (.func 110) #[.pointer (some ⟨g, 0, none⟩)] #[], .func (.func 111) #[.pointer (some ⟨g, 0, none⟩)] #[], .func (.func 112) #[.pointer (some ⟨g, 0, none⟩)] #[], .func (.func 113) #[.pointer (some ⟨g, 0, none⟩)] #[], .func (.func 114) #[.pointer (some ⟨g, 0, none⟩)] #[], .func (.func 115) #[.pointer (some ⟨g, 0, none⟩)] #[], .nilFunc, .func (.func 116) #[.pointer (some ⟨g, 0, none⟩)] #[], .func (.func 117) #[.pointer (some ⟨g, 0, none⟩)] #[], .nilFunc, .func (.func 118) #[.pointer (some ⟨g, 0, none⟩)] #[]]
theorem wishRow_size (g : Nat) : (wishRow g).size = 38 := rfl
theorem wishRow_one (g : Nat) : (wishRow g).all (·.oneCell') = true := by simp [wishRow, Value.oneCell']
theorem info93 (g : Nat) : (Tryz.prog.info? 110).map (·.size) = some (wishRow g).size := by rw [wishRow_size]; kernel_rfl
set_option maxRecDepth 4000 in
set_option maxHeartbeats 4000000 in
theorem wish_some (g : Nat) (s : Stp) (w : World) (h : w.heap[g]? = some (.cells s.cells 58)) (k : Nat) (hk : k < 38) (hop : s.i.op = (k : Int)) (f : Nat) (hrow : (wishRow g)[k]? = some (.func (.func f) #[.pointer (some ⟨g, 0, none⟩)] #[])) (V : Wnt)
    (hE : ∀ (args : Array Value) (w : World), (callFunc f args).run Tryz.prog w = .ok (.enter f args) w)
    (hc : ∀ w : World, w.heap[g]? = some (.cells s.cells 58) → Calls Tryz.prog f #[.pointer (some ⟨g, 0, none⟩)] w fun e w' => e = .returned V.val ∧ Below w.heap.size w w') :
    Calls Tryz.prog 44 #[.pointer (some ⟨g, 0, none⟩)] w fun e w' => e = .returned V.val ∧ Below w.heap.size w w' := by
  go_enter Tryz.func44, Tryz.ntmps44
  go_upto_region 1 with fail
  have H := (has_none w).new 30 #[.int .i64 0, .int .u64 0, .int .u64 0, .int .i64 0, .bool false, .int .i64 0, .bool false, .int .i64 0, .int .i64 0, .int .i64 0]
  have hs := keep_row h (r_below_alloc w (.cells #[.int .i64 0, .int .u64 0, .int .u64 0, .int .i64 0, .bool false, .int .i64 0, .bool false, .int .i64 0, .int .i64 0, .int .i64 0] 30))
  generalize hb : w.heap.size = b at H ⊢
  generalize w.alloc _ = w1 at H hs ⊢
  obtain ⟨Z, hZ, H⟩ : ∃ Z, Z.size = 10 ∧ Has w [(b, Z, 30)] w1 := ⟨_, rfl, H⟩
  have hlt : b < w1.heap.size := (Array.getElem?_eq_some_iff.1 (H.get List.mem_cons_self)).1
  go_upto_region 2 with (first | ((with_reducible refine wpList_builtG rfl 110 _ rfl (wishRow g) (by kernel_rfl) ?_); simp only [Act.put, List.setIfInBounds_toArray, List.set_cons_succ, List.set_cons_zero]) | ((with_reducible refine wpList_store_new H rfl 110 _ _ rfl (wishRow g) rfl rfl (info93 g) ?_ (wishRow_one g) ?_); (focus rfl); intro w2 H2; simp only [Act.put]))
  replace hs := keep_row h H2.below
  have c0 := at_i hs 0 (.int .i64 s.i.op) (by decide) rfl
  rw [hop] at c0
  have ck := H2.at List.mem_cons_self k _ hrow
  replace H := H2.swap
  have hne : ∀ p ∈ [(w1.heap.size, wishRow g, (110 : TypeId))], p.1 ≠ b := one_other (by omega)
  clear H2 hlt
  generalize w1.heap.size = z at ck H hne ⊢
  have hk1 : (k : Int) < 38 := by omega
  go_upto_region 4 with fail
  go_wp2_with (first | (refine (hc _ hs).mono ?_; rintro e w3 ⟨rfl, hB⟩; dsimp only; replace H := H.grow hB) | ((with_reducible refine wpList_store_w rfl _ _ rfl H hne hZ _ rfl rfl ?_); intro w9 H; simp only [Act.put]))
  exact bodyPost_ret (back_w rfl _ _ _ _ _ _ rfl (H.get List.mem_cons_self)) rfl ⟨rfl, by first | exact H.below | (rw [← hb]; exact H.below)⟩
end Go.Proofs.YtbjcdpmhmebjnaaGreat
/- A step built of an instruction, a state and what came: its cells. -/
namespace Go.Proofs.YtbjcdpmhmebjnaaGreat
open Go.RowKit

set_option maxHeartbeats 4000000 in
theorem built53 (i : Ins) (c : Cor) : Tryz.prog.built 58 [(0, i.val), (1, c.val)] = some (Stp.cells ⟨i, c, nilG, 0⟩) := by
  obtain ⟨⟨⟨l⟩, hl⟩, c0, c1, c2, c3, c4, c5, c6, c7, c8, c9, c10, c11, c12, c13, c14, c15, c16, c17⟩ := c
  rcases l with _ | ⟨x0, l⟩
  · exact absurd hl (by simp)
  rcases l with _ | ⟨x1, l⟩
  · exact absurd hl (by simp)
  rcases l with _ | ⟨x2, l⟩
  · exact absurd hl (by simp)
  rcases l with _ | ⟨x3, l⟩
  · exact absurd hl (by simp)
  rcases l with _ | ⟨x4, l⟩
  · exact absurd hl (by simp)
  rcases l with _ | ⟨x5, l⟩
  · exact absurd hl (by simp)
  rcases l with _ | ⟨x6, l⟩
  · exact absurd hl (by simp)
  rcases l with _ | ⟨x7, l⟩
  · exact absurd hl (by simp)
  rcases l with _ | ⟨x8, l⟩
  · exact absurd hl (by simp)
  rcases l with _ | ⟨x9, l⟩
  · exact absurd hl (by simp)
  rcases l with _ | ⟨x10, l⟩
  · exact absurd hl (by simp)
  rcases l with _ | ⟨x11, l⟩
  · exact absurd hl (by simp)
  rcases l with _ | ⟨x12, l⟩
  · exact absurd hl (by simp)
  rcases l with _ | ⟨x13, l⟩
  · exact absurd hl (by simp)
  rcases l with _ | ⟨x14, l⟩
  · exact absurd hl (by simp)
  rcases l with _ | ⟨x15, l⟩
  · exact absurd hl (by simp)
  rcases l with _ | ⟨x16, l⟩
  · exact absurd hl (by simp)
  rcases l with _ | ⟨x17, l⟩
  · exact absurd hl (by simp)
  rcases l with _ | ⟨x18, l⟩
  · exact absurd hl (by simp)
  rcases l with _ | ⟨x19, l⟩
  · exact absurd hl (by simp)
  rcases l with _ | ⟨x20, l⟩
  · exact absurd hl (by simp)
  rcases l with _ | ⟨x21, l⟩
  · exact absurd hl (by simp)
  rcases l with _ | ⟨x22, l⟩
  · exact absurd hl (by simp)
  rcases l with _ | ⟨x23, l⟩
  · exact absurd hl (by simp)
  rcases l with _ | ⟨x24, l⟩
  · exact absurd hl (by simp)
  rcases l with _ | ⟨x25, l⟩
  · exact absurd hl (by simp)
  rcases l with _ | ⟨x26, l⟩
  · exact absurd hl (by simp)
  rcases l with _ | ⟨x27, l⟩
  · exact absurd hl (by simp)
  rcases l with _ | ⟨x28, l⟩
  · exact absurd hl (by simp)
  rcases l with _ | ⟨x29, l⟩
  · exact absurd hl (by simp)
  rcases l with _ | ⟨x30, l⟩
  · exact absurd hl (by simp)
  rcases l with _ | ⟨x31, l⟩
  · kernel_rfl
  · exact absurd hl (by simp)
set_option maxHeartbeats 4000000 in
theorem built53g (i : Ins) (c : Cor) (k : Gt) : Tryz.prog.built 58 [(0, i.val), (1, c.val), (2, k.val)] = some (Stp.cells ⟨i, c, k, 0⟩) := by
  obtain ⟨⟨⟨l⟩, hl⟩, c0, c1, c2, c3, c4, c5, c6, c7, c8, c9, c10, c11, c12, c13, c14, c15, c16, c17⟩ := c
  rcases l with _ | ⟨x0, l⟩
  · exact absurd hl (by simp)
  rcases l with _ | ⟨x1, l⟩
  · exact absurd hl (by simp)
  rcases l with _ | ⟨x2, l⟩
  · exact absurd hl (by simp)
  rcases l with _ | ⟨x3, l⟩
  · exact absurd hl (by simp)
  rcases l with _ | ⟨x4, l⟩
  · exact absurd hl (by simp)
  rcases l with _ | ⟨x5, l⟩
  · exact absurd hl (by simp)
  rcases l with _ | ⟨x6, l⟩
  · exact absurd hl (by simp)
  rcases l with _ | ⟨x7, l⟩
  · exact absurd hl (by simp)
  rcases l with _ | ⟨x8, l⟩
  · exact absurd hl (by simp)
  rcases l with _ | ⟨x9, l⟩
  · exact absurd hl (by simp)
  rcases l with _ | ⟨x10, l⟩
  · exact absurd hl (by simp)
  rcases l with _ | ⟨x11, l⟩
  · exact absurd hl (by simp)
  rcases l with _ | ⟨x12, l⟩
  · exact absurd hl (by simp)
  rcases l with _ | ⟨x13, l⟩
  · exact absurd hl (by simp)
  rcases l with _ | ⟨x14, l⟩
  · exact absurd hl (by simp)
  rcases l with _ | ⟨x15, l⟩
  · exact absurd hl (by simp)
  rcases l with _ | ⟨x16, l⟩
  · exact absurd hl (by simp)
  rcases l with _ | ⟨x17, l⟩
  · exact absurd hl (by simp)
  rcases l with _ | ⟨x18, l⟩
  · exact absurd hl (by simp)
  rcases l with _ | ⟨x19, l⟩
  · exact absurd hl (by simp)
  rcases l with _ | ⟨x20, l⟩
  · exact absurd hl (by simp)
  rcases l with _ | ⟨x21, l⟩
  · exact absurd hl (by simp)
  rcases l with _ | ⟨x22, l⟩
  · exact absurd hl (by simp)
  rcases l with _ | ⟨x23, l⟩
  · exact absurd hl (by simp)
  rcases l with _ | ⟨x24, l⟩
  · exact absurd hl (by simp)
  rcases l with _ | ⟨x25, l⟩
  · exact absurd hl (by simp)
  rcases l with _ | ⟨x26, l⟩
  · exact absurd hl (by simp)
  rcases l with _ | ⟨x27, l⟩
  · exact absurd hl (by simp)
  rcases l with _ | ⟨x28, l⟩
  · exact absurd hl (by simp)
  rcases l with _ | ⟨x29, l⟩
  · exact absurd hl (by simp)
  rcases l with _ | ⟨x30, l⟩
  · exact absurd hl (by simp)
  rcases l with _ | ⟨x31, l⟩
  · kernel_rfl
  · exact absurd hl (by simp)
end Go.Proofs.YtbjcdpmhmebjnaaGreat
/- Plain facts on numbers and their bits, on which the proofs of this seat stand: no Go text is named here. -/
namespace Go.Proofs.YtbjcdpmhmebjnaaGreat
open Go.RowKit

/-- The number whose bits below k are those of f. -/
def orBits (f : Nat → Bool) : Nat → Nat
  | 0 => 0
  | k + 1 => orBits f k ||| (f k).toNat * 2 ^ k

theorem testBit_bool (b : Bool) (j : Nat) : b.toNat.testBit j = (decide (j = 0) && b) := by
  cases b
  · simp
  · cases j with
    | zero => decide
    | succ n => simp [Nat.testBit_succ]

theorem testBit_orBits (f : Nat → Bool) (k i : Nat) : (orBits f k).testBit i = (decide (i < k) && f i) := by
  induction k with
  | zero => simp [orBits]
  | succ k ih =>
    rw [orBits, Nat.testBit_or, ih, Nat.testBit_mul_two_pow, testBit_bool]
    by_cases h1 : i < k
    · have : ¬ k ≤ i := by omega
      have h2 : i < k + 1 := by omega
      simp [h1, this, h2]
    · by_cases h2 : i = k
      · subst h2; simp
      · have h3 : ¬ i < k + 1 := by omega
        have h4 : ¬ i - k = 0 := by omega
        simp [h1, h3, h4]

theorem orBits_lt (f : Nat → Bool) (k : Nat) : orBits f k < 2 ^ k := by
  apply Nat.lt_pow_two_of_testBit
  intro i hi
  rw [testBit_orBits]
  have : ¬ i < k := by omega
  simp [this]

theorem orBits_lt64 (f : Nat → Bool) (k : Nat) (hk : k ≤ 64) : orBits f k < 18446744073709551616 :=
  Nat.lt_of_lt_of_le (orBits_lt f k) (Nat.pow_le_pow_right (by decide) hk)

theorem eq_orBits {x k : Nat} {f : Nat → Bool} (h : ∀ i, x.testBit i = (decide (i < k) && f i)) : x = orBits f k := by
  apply Nat.eq_of_testBit_eq
  intro i
  rw [h, testBit_orBits]

theorem orBits_congr {f g : Nat → Bool} {k : Nat} (h : ∀ i, i < k → f i = g i) : orBits f k = orBits g k := by
  apply eq_orBits
  intro i
  rw [testBit_orBits]
  by_cases hi : i < k
  · simp [hi, h i hi]
  · simp [hi]

/-- One bit of a number, as the document's own 'bit' tells it. -/
def bitF (v n : Int) : Int := v / 2 ^ n.toNat % 2

theorem and_one (x : Nat) : x &&& 1 = x % 2 := by
  simp

theorem bitF_walk (v n : Int) : bits .and .u64 (v / 2 ^ n.toNat) 1 = bitF v n := by
  unfold bitF
  generalize v / 2 ^ n.toNat = x
  show IntKind.u64.wrap ((BitVec.ofInt 64 x &&& BitVec.ofInt 64 1).toNat : Int) = _
  rw [BitVec.toNat_and, show (BitVec.ofInt 64 1).toNat = 1 from rfl, and_one, BitVec.toNat_ofInt, IntKind.wrap_u64]
  omega

theorem bitF_nat (V M : Nat) : bitF (V : Int) (M : Int) = ((V.testBit M).toNat : Nat) := by
  unfold bitF
  rw [Nat.toNat_testBit]
  simp

theorem bitF_of {v n : Int} (hv : 0 ≤ v) (hn : 0 ≤ n) : bitF v n = ((v.toNat.testBit n.toNat).toNat : Nat) := by
  obtain ⟨V, rfl⟩ := Int.eq_ofNat_of_zero_le hv
  obtain ⟨M, rfl⟩ := Int.eq_ofNat_of_zero_le hn
  simp only [Int.toNat_natCast]
  exact bitF_nat V M

theorem wrap_u64_in {x : Int} (h0 : 0 ≤ x) (h1 : x < 18446744073709551616) : IntKind.u64.wrap x = x := by
  rw [IntKind.wrap_u64]; omega

/-- One bit more is laid, as the walk spells it. -/
theorem or_step (f : Nat → Bool) (k : Nat) (hk : k < 64) (b : Int) (hb : b = ((f k).toNat : Nat)) :
    bits .or .u64 ((orBits f k : Nat) : Int) (IntKind.u64.wrap (b * 2 ^ k)) = ((orBits f (k + 1) : Nat) : Int) := by
  subst hb
  have h1 : (f k).toNat * 2 ^ k < 18446744073709551616 := by
    have hp : 2 ^ k ≤ 2 ^ 63 := Nat.pow_le_pow_right (by decide) (by omega)
    have : (f k).toNat ≤ 1 := Bool.toNat_le _
    have h3 : (f k).toNat * 2 ^ k ≤ 1 * 2 ^ 63 := Nat.mul_le_mul this hp
    have : (2 : Nat) ^ 63 < 18446744073709551616 := by decide
    omega
  have e : IntKind.u64.wrap ((((f k).toNat : Nat) : Int) * 2 ^ k) = (((f k).toNat * 2 ^ k : Nat) : Int) := by
    rw [IntKind.wrap_u64]
    have : (((f k).toNat : Nat) : Int) * 2 ^ k = (((f k).toNat * 2 ^ k : Nat) : Int) := by simp
    rw [this]
    omega
  rw [e, bits_or_u64_nat _ _ (orBits_lt64 f k (by omega)) h1]
  rfl

/-! ### The numbers that the calls tell -/
def inWordB (a m : Int) : Bool := decide (0 ≤ a ∧ 1 ≤ m ∧ m ≤ 32 ∧ a ≤ 32 - m)
def inNumB (m : Int) : Bool := decide (1 ≤ m ∧ m ≤ 64)
def sixB (m : Int) : Bool := decide (0 ≤ m ∧ m ≤ 63)
def lowWordF (k : Int) : Int := ((2 ^ k.toNat - 1 : Nat) : Int)
def lowF (k : Int) : Int := ((2 ^ min k.toNat 64 - 1 : Nat) : Int)

theorem lowWord_walk (k : Int) (h2 : k ≤ 32) : ((2 : Int) ^ k.toNat % 4294967296 - 1) % 4294967296 = lowWordF k := by
  unfold lowWordF
  have hk : k.toNat ≤ 32 := by omega
  have e : ((2 : Int) ^ k.toNat) = ((2 ^ k.toNat : Nat) : Int) := by simp
  rw [e]
  have h3 : 2 ^ k.toNat ≤ 2 ^ 32 := Nat.pow_le_pow_right (by decide) hk
  have h4 : 1 ≤ 2 ^ k.toNat := Nat.one_le_two_pow
  have h5 : (2 : Nat) ^ 32 = 4294967296 := by decide
  omega

theorem low_walk (k : Int) : IntKind.u64.wrap (IntKind.u64.wrap ((2 : Int) ^ min k.toNat 64) - 1) = lowF k := by
  unfold lowF
  rw [IntKind.wrap_u64, IntKind.wrap_u64]
  have e : ((2 : Int) ^ min k.toNat 64) = ((2 ^ min k.toNat 64 : Nat) : Int) := by simp
  rw [e]
  have h3 : 2 ^ min k.toNat 64 ≤ 2 ^ 64 := Nat.pow_le_pow_right (by decide) (by omega)
  have h4 : 1 ≤ 2 ^ min k.toNat 64 := Nat.one_le_two_pow
  have h5 : (2 : Nat) ^ 64 = 18446744073709551616 := by decide
  omega

/-! ### Field, Put -/
def inE (b : Bool) : Int := if b = true then 0 else 1
def fieldV (word a m : Int) : Int := if inWordB a m = true then ((word.toNat / 2 ^ a.toNat % 2 ^ m.toNat : Nat) : Int) else 0
def putBit (word a m value : Int) (i : Nat) : Bool := if a.toNat ≤ i ∧ i < a.toNat + m.toNat then value.toNat.testBit (i - a.toNat) else word.toNat.testBit i
def fitsB (value m : Int) : Bool := decide (value.toNat < 2 ^ m.toNat)
def putV (word a m value : Int) : Int := if (inWordB a m && fitsB value m) = true then ((orBits (putBit word a m value) 32 : Nat) : Int) else 0
def putE (a m value : Int) : Int := if inWordB a m = true then (if fitsB value m = true then 0 else 2) else 1

theorem and32 (a b : Nat) (ha : a < 4294967296) (hb : b < 4294967296) : bits .and .u32 (a : Int) (b : Int) = ((a &&& b : Nat) : Int) := by
  have hx : a &&& b < 2 ^ 32 := Nat.and_lt_two_pow _ (by omega)
  have h1 : (BitVec.ofInt 32 (a : Int)).toNat = a := by
    rw [BitVec.ofInt_natCast, BitVec.toNat_ofNat]; exact Nat.mod_eq_of_lt (by omega)
  have h2 : (BitVec.ofInt 32 (b : Int)).toNat = b := by
    rw [BitVec.ofInt_natCast, BitVec.toNat_ofNat]; exact Nat.mod_eq_of_lt (by omega)
  show IntKind.u32.wrap ((BitVec.ofInt 32 (a : Int) &&& BitVec.ofInt 32 (b : Int)).toNat : Int) = _
  rw [BitVec.toNat_and, h1, h2, IntKind.wrap_u32]
  omega

theorem or32 (a b : Nat) (ha : a < 4294967296) (hb : b < 4294967296) : bits .or .u32 (a : Int) (b : Int) = ((a ||| b : Nat) : Int) := by
  have hx : a ||| b < 2 ^ 32 := Nat.or_lt_two_pow (by omega) (by omega)
  have h1 : (BitVec.ofInt 32 (a : Int)).toNat = a := by
    rw [BitVec.ofInt_natCast, BitVec.toNat_ofNat]; exact Nat.mod_eq_of_lt (by omega)
  have h2 : (BitVec.ofInt 32 (b : Int)).toNat = b := by
    rw [BitVec.ofInt_natCast, BitVec.toNat_ofNat]; exact Nat.mod_eq_of_lt (by omega)
  show IntKind.u32.wrap ((BitVec.ofInt 32 (a : Int) ||| BitVec.ofInt 32 (b : Int)).toNat : Int) = _
  rw [BitVec.toNat_or, h1, h2, IntKind.wrap_u32]
  omega

theorem andNot32 (a b : Nat) (ha : a < 4294967296) (hb : b < 4294967296) : bits .andNot .u32 (a : Int) (b : Int) = ((a &&& (4294967296 - (b + 1)) : Nat) : Int) := by
  have hx : a &&& (4294967296 - (b + 1)) < 2 ^ 32 := Nat.and_lt_two_pow _ (by omega)
  have h1 : (BitVec.ofInt 32 (a : Int)).toNat = a := by
    rw [BitVec.ofInt_natCast, BitVec.toNat_ofNat]; exact Nat.mod_eq_of_lt (by omega)
  have h2 : (BitVec.ofInt 32 (b : Int)).toNat = b := by
    rw [BitVec.ofInt_natCast, BitVec.toNat_ofNat]; exact Nat.mod_eq_of_lt (by omega)
  have h3 : (2 : Nat) ^ 32 - 1 - b = 4294967296 - (b + 1) := by omega
  show IntKind.u32.wrap ((BitVec.ofInt 32 (a : Int) &&& ~~~ BitVec.ofInt 32 (b : Int)).toNat : Int) = _
  rw [BitVec.toNat_and, BitVec.toNat_not, h1, h2, h3, IntKind.wrap_u32]
  omega

theorem lowW_lt (m : Int) (h : m ≤ 32) : 2 ^ m.toNat - 1 < 4294967296 := by
  have h3 : 2 ^ m.toNat ≤ 2 ^ 32 := Nat.pow_le_pow_right (by decide) (by omega)
  have h5 : (2 : Nat) ^ 32 = 4294967296 := by decide
  omega

theorem field_walk (word a m : Int) (h : Hid (0 ≤ word ∧ word < 4294967296)) (hb : inWordB a m = true) :
    bits .and .u32 (word / 2 ^ a.toNat) (lowWordF m) = fieldV word a m := by
  have hb' := hb
  unfold inWordB at hb'
  simp only [decide_eq_true_eq] at hb'
  unfold fieldV
  rw [if_pos hb]
  obtain ⟨W, rfl⟩ := Int.eq_ofNat_of_zero_le h.out.1
  have h2 := h.out.2
  have e : ((W : Int) / 2 ^ a.toNat) = ((W / 2 ^ a.toNat : Nat) : Int) := by simp
  unfold lowWordF
  rw [e, and32 _ _ (Nat.lt_of_le_of_lt (Nat.div_le_self _ _) (by omega)) (lowW_lt m (by omega)), Nat.and_two_pow_sub_one_eq_mod]
  simp

theorem field_ref (word a m : Int) (hb : inWordB a m = true) :
    ((orBits (fun j => word.toNat.testBit (a.toNat + j)) m.toNat : Nat) : Int) % 4294967296 = fieldV word a m := by
  have hb' := hb
  unfold inWordB at hb'
  simp only [decide_eq_true_eq] at hb'
  unfold fieldV
  rw [if_pos hb]
  have e : word.toNat / 2 ^ a.toNat % 2 ^ m.toNat = orBits (fun j => word.toNat.testBit (a.toNat + j)) m.toNat := by
    apply eq_orBits
    intro i
    rw [Nat.testBit_mod_two_pow, Nat.testBit_div_two_pow, Nat.add_comm]
  rw [e]
  have h1 := orBits_lt (fun j => word.toNat.testBit (a.toNat + j)) m.toNat
  have h3 : 2 ^ m.toNat ≤ 2 ^ 32 := Nat.pow_le_pow_right (by decide) (by omega)
  have h5 : (2 : Nat) ^ 32 = 4294967296 := by decide
  omega

theorem inWord_of {a m : Int} (hb : inWordB a m = true) : 0 ≤ a ∧ 1 ≤ m ∧ m ≤ 32 ∧ a ≤ 32 - m := by
  unfold inWordB at hb
  simpa only [decide_eq_true_eq] using hb

theorem fits_low {value m : Int} (h0 : 0 ≤ value) : fitsB value m = true ↔ value ≤ lowWordF m := by
  unfold fitsB lowWordF
  rw [decide_eq_true_eq]
  have : 1 ≤ 2 ^ m.toNat := Nat.one_le_two_pow
  omega

theorem put_walk (word a m value : Int) (h : Hid (0 ≤ word ∧ word < 4294967296)) (hv : Hid (0 ≤ value ∧ value < 4294967296)) (hb : inWordB a m = true) (hf : fitsB value m = true) :
    bits .or .u32 (bits .andNot .u32 word (lowWordF m * 2 ^ a.toNat % 4294967296)) (value * 2 ^ a.toNat % 4294967296) = putV word a m value := by
  have hb' := inWord_of hb
  unfold putV
  rw [hb, hf, if_pos (by rfl)]
  obtain ⟨W, rfl⟩ := Int.eq_ofNat_of_zero_le h.out.1
  obtain ⟨V, rfl⟩ := Int.eq_ofNat_of_zero_le hv.out.1
  obtain ⟨A, rfl⟩ := Int.eq_ofNat_of_zero_le hb'.1
  obtain ⟨M, rfl⟩ := Int.eq_ofNat_of_zero_le (show 0 ≤ m by omega)
  have h2 := h.out.2
  have h3 := hv.out.2
  unfold fitsB at hf
  rw [decide_eq_true_eq] at hf
  simp only [Int.toNat_natCast] at hf
  have hA : A ≤ 32 - M := by omega
  have hM : M ≤ 32 := by omega
  have p1 : 2 ^ M * 2 ^ A ≤ 2 ^ 32 := by
    rw [← Nat.pow_add]; exact Nat.pow_le_pow_right (by decide) (by omega)
  have p2 : (2 : Nat) ^ 32 = 4294967296 := by decide
  have p3 : 1 ≤ 2 ^ M := Nat.one_le_two_pow
  have p4 : 1 ≤ 2 ^ A := Nat.one_le_two_pow
  have q1 : (2 ^ M - 1) * 2 ^ A < 4294967296 := by
    rw [Nat.sub_mul]; omega
  have q2 : V * 2 ^ A < 4294967296 := by
    have : V * 2 ^ A < 2 ^ M * 2 ^ A := Nat.mul_lt_mul_of_pos_right hf (by omega)
    omega
  unfold lowWordF
  simp only [Int.toNat_natCast]
  have e1 : (((2 ^ M - 1 : Nat) : Int) * 2 ^ A) % 4294967296 = (((2 ^ M - 1) * 2 ^ A : Nat) : Int) := by
    have : (((2 ^ M - 1 : Nat) : Int) * 2 ^ A) = (((2 ^ M - 1) * 2 ^ A : Nat) : Int) := by simp
    rw [this]; omega
  have e2 : ((V : Int) * 2 ^ A) % 4294967296 = ((V * 2 ^ A : Nat) : Int) := by
    have : ((V : Int) * 2 ^ A) = ((V * 2 ^ A : Nat) : Int) := by simp
    rw [this]; omega
  have q3 : W &&& (4294967296 - ((2 ^ M - 1) * 2 ^ A + 1)) < 4294967296 :=
    Nat.and_lt_two_pow (n := 32) _ (by omega)
  rw [e1, e2, andNot32 _ _ (by omega) q1, or32 _ _ q3 q2]
  congr 1
  apply eq_orBits
  intro i
  unfold putBit
  simp only [Int.toNat_natCast]
  rw [Nat.testBit_or, Nat.testBit_and, ← p2, Nat.testBit_two_pow_sub_succ (by omega), Nat.testBit_mul_two_pow, Nat.testBit_mul_two_pow, Nat.testBit_two_pow_sub_one]
  by_cases h32 : i < 32
  · by_cases c1 : A ≤ i
    · by_cases c2 : i < A + M
      · have c3 : i - A < M := by omega
        simp [h32, c1, c2, c3]
      · have c3 : ¬ i - A < M := by omega
        have c4 : V.testBit (i - A) = false := Nat.testBit_lt_two_pow (Nat.lt_of_lt_of_le hf (Nat.pow_le_pow_right (by decide) (by omega)))
        simp [h32, c2, c3, c4]
    · simp [h32, c1]
  · have c4 : V.testBit (i - A) = false := Nat.testBit_lt_two_pow (Nat.lt_of_lt_of_le hf (Nat.pow_le_pow_right (by decide) (by omega)))
    simp [h32, c4]

theorem put_ref (word a m value : Int) (hb : inWordB a m = true) (hf : fitsB value m = true) :
    ((orBits (putBit word a m value) 32 : Nat) : Int) % 4294967296 = putV word a m value := by
  unfold putV
  rw [hb, hf, if_pos (by rfl)]
  have h1 := orBits_lt (putBit word a m value) 32
  have h5 : (2 : Nat) ^ 32 = 4294967296 := by decide
  omega

theorem fits_shr {value m : Int} (h : Hid (0 ≤ value ∧ value < 4294967296)) : (IntKind.u64.wrap value / 2 ^ m.toNat != 0) = !(fitsB value m) := by
  have h1 := h.out.1
  have h2 := h.out.2
  rw [wrap_u64_in h1 (by omega)]
  obtain ⟨V, rfl⟩ := Int.eq_ofNat_of_zero_le h1
  unfold fitsB
  have e : ((V : Int) / 2 ^ m.toNat) = ((V / 2 ^ m.toNat : Nat) : Int) := by simp
  rw [e]
  have p : 0 < 2 ^ m.toNat := Nat.two_pow_pos _
  by_cases c : V < 2 ^ m.toNat
  · rw [Nat.div_eq_of_lt c]; simp [c]
  · have : 0 < V / 2 ^ m.toNat := Nat.div_pos (by omega) p
    have c' : decide ((V : Int).toNat < 2 ^ m.toNat) = false := by simpa using c
    rw [c']
    simp
    omega

end Go.Proofs.YtbjcdpmhmebjnaaGreat
/- What the small functions of package bits and of the document's own answer give back, each for all numbers that it is called with: contracts, on which the statements' proofs stand. -/
namespace Go.Proofs.YtbjcdpmhmebjnaaGreat
open Go.RowKit

theorem ret_bool {a b : Bool} (h : a = b) : Ending.returned (.bool a) = .returned (.bool b) := by rw [h]
theorem ret_two {k l : IntKind} {a b c d : Int} (h : a = b) (h' : c = d) : Ending.returned (.tuple #[.int k a, .int l c]) = .returned (.tuple #[.int k b, .int l d]) := by rw [h, h']
theorem ret_int {k : IntKind} {a b : Int} (h : a = b) : Ending.returned (.int k a) = .returned (.int k b) := by rw [h]

set_option maxHeartbeats 400000 in
theorem six_c (m : Int) (w : World) :
    Calls Tryz.prog 231 #[.int .i64 m] w fun e w' => e = .returned (.bool (sixB m)) ∧ w' = w := by
  go_enter Tryz.func231, Tryz.ntmps231
  go_wp2
  all_goals (go_ret; refine ⟨ret_bool ?_, rfl⟩; unfold sixB; first | (rw [eq_comm, decide_eq_false_iff_not]; omega) | (rw [decide_eq_decide]; omega))

set_option maxHeartbeats 400000 in
theorem low_c (k : Int) (hk : 0 ≤ k) (w : World) :
    Calls Tryz.prog 233 #[.int .i64 k] w fun e w' => e = .returned (.int .u64 (lowF k)) ∧ w' = w := by
  go_enter Tryz.func233, Tryz.ntmps233
  go_wp2
  go_ret
  exact ⟨ret_int (low_walk k), rfl⟩

end Go.Proofs.YtbjcdpmhmebjnaaGreat
/- Whether places lie in a word: contracts. -/
namespace Go.Proofs.YtbjcdpmhmebjnaaGreat
open Go.RowKit

set_option maxHeartbeats 400000 in
theorem inWord_c (a m : Int) (w : World) :
    Calls Tryz.prog 244 #[.int .i64 a, .int .i64 m] w fun e w' => e = .returned (.bool (inWordB a m)) ∧ w' = w := by
  go_enter Tryz.func244, Tryz.ntmps244
  go_wp2
  all_goals (go_ret; refine ⟨ret_bool ?_, rfl⟩; unfold inWordB; first | (rw [eq_comm, decide_eq_false_iff_not]; omega) | (rw [decide_eq_decide]; omega))

set_option maxHeartbeats 400000 in
theorem inNum_c (m : Int) (w : World) :
    Calls Tryz.prog 246 #[.int .i64 m] w fun e w' => e = .returned (.bool (inNumB m)) ∧ w' = w := by
  go_enter Tryz.func246, Tryz.ntmps246
  go_wp2
  all_goals (go_ret; refine ⟨ret_bool ?_, rfl⟩; unfold inNumB; first | (rw [eq_comm, decide_eq_false_iff_not]; omega) | (rw [decide_eq_decide]; omega))

set_option maxHeartbeats 400000 in
theorem lowWord_c (k : Int) (hk : 0 ≤ k) (hk2 : k ≤ 32) (w : World) :
    Calls Tryz.prog 245 #[.int .i64 k] w fun e w' => e = .returned (.int .u32 (lowWordF k)) ∧ w' = w := by
  go_enter Tryz.func245, Tryz.ntmps245
  go_wp2
  go_ret
  exact ⟨ret_int (lowWord_walk k hk2), rfl⟩

end Go.Proofs.YtbjcdpmhmebjnaaGreat
/- What Field and Put of package bits, and of the document's own answer, give back, for all words and numbers: contracts. -/
namespace Go.Proofs.YtbjcdpmhmebjnaaGreat
open Go.RowKit

set_option maxHeartbeats 400000 in
theorem field_c (word a m : Int) (hw : Hid (0 ≤ word ∧ word < 4294967296)) (w : World) :
    Calls Tryz.prog 214 #[.int .u32 word, .int .i64 a, .int .i64 m] w fun e w' => e = .returned (.tuple #[.int .u32 (fieldV word a m), .int .i64 (inE (inWordB a m))]) ∧ ∃ n, w' = w.drewN n := by
  by_cases hb : inWordB a m = true
  · obtain ⟨h1, h2, h3, h4⟩ := inWord_of hb
    have hE : Hid (bits .and .u32 (word / 2 ^ a.toNat) (lowWordF m) = fieldV word a m) := field_walk word a m hw hb
    go_enter Tryz.func214, Tryz.ntmps214
    go_wp2_with (go_at_call 244; refine (inWord_c _ _ _).mono ?_; rintro e w' ⟨rfl, rfl⟩)
    go_quiet ((go_at_call 245; exact Calls.quiet_of_same (lowWord_c _ (by omega) (by omega) _)))
    go_wp2
    go_ret2
    exact ⟨ret_two hE.out (by rw [hb]; rfl), _, rfl⟩
  · have hb : inWordB a m = false := by simpa using hb
    go_enter Tryz.func214, Tryz.ntmps214
    go_wp2_with (go_at_call 244; refine (inWord_c _ _ _).mono ?_; rintro e w' ⟨rfl, rfl⟩)
    go_ret2
    exact ⟨ret_two (by simp [fieldV, hb]) (by rw [hb]; rfl), 0, rfl⟩

set_option maxHeartbeats 400000 in
theorem put_c (word a m value : Int) (hw : Hid (0 ≤ word ∧ word < 4294967296)) (hv : Hid (0 ≤ value ∧ value < 4294967296)) (w : World) :
    Calls Tryz.prog 215 #[.int .u32 word, .int .i64 a, .int .i64 m, .int .u32 value] w fun e w' => e = .returned (.tuple #[.int .u32 (putV word a m value), .int .i64 (putE a m value)]) ∧ ∃ n, w' = w.drewN n := by
  by_cases hb : inWordB a m = true
  · obtain ⟨h1, h2, h3, h4⟩ := inWord_of hb
    by_cases hf : fitsB value m = true
    · have hE : Hid (bits .or .u32 (bits .andNot .u32 word (lowWordF m * 2 ^ a.toNat % 4294967296)) (value * 2 ^ a.toNat % 4294967296) = putV word a m value) := put_walk word a m value hw hv hb hf
      have hl : value ≤ lowWordF m := (fits_low hv.out.1).1 hf
      go_enter Tryz.func215, Tryz.ntmps215
      go_wp2_with (first | (go_at_call 244; refine (inWord_c _ _ _).mono ?_; rintro e w' ⟨rfl, rfl⟩) | (go_at_call 245; refine (lowWord_c _ (by omega) (by omega) _).mono ?_; rintro e w' ⟨rfl, rfl⟩))
      go_quiet ((go_at_call 245; exact Calls.quiet_of_same (lowWord_c _ (by omega) (by omega) _)))
      go_wp2
      go_ret2
      exact ⟨ret_two hE.out (by simp [putE, hb, hf]), _, rfl⟩
    · have hl : lowWordF m < value := Int.not_le.mp fun h => hf ((fits_low hv.out.1).2 h)
      go_enter Tryz.func215, Tryz.ntmps215
      go_wp2_with (first | (go_at_call 244; refine (inWord_c _ _ _).mono ?_; rintro e w' ⟨rfl, rfl⟩) | (go_at_call 245; refine (lowWord_c _ (by omega) (by omega) _).mono ?_; rintro e w' ⟨rfl, rfl⟩))
      go_ret2
      exact ⟨ret_two (by simp [putV, hf]) (by simp [putE, hb, hf]), 0, rfl⟩
  · have hb : inWordB a m = false := by simpa using hb
    go_enter Tryz.func215, Tryz.ntmps215
    go_wp2_with (go_at_call 244; refine (inWord_c _ _ _).mono ?_; rintro e w' ⟨rfl, rfl⟩)
    go_ret2
    exact ⟨ret_two (by simp [putV, hb]) (by simp [putE, hb]), 0, rfl⟩

end Go.Proofs.YtbjcdpmhmebjnaaGreat
/- Plain facts on numbers that are read with a sign or turned: no Go text is named here. -/
namespace Go.Proofs.YtbjcdpmhmebjnaaGreat
open Go.RowKit

theorem inNum_of {m : Int} (hb : inNumB m = true) : 1 ≤ m ∧ m ≤ 64 := by
  unfold inNumB at hb
  simpa only [decide_eq_true_eq] using hb

/-! ### Signed -/
def signBit (value m : Int) (i : Nat) : Bool := value.toNat.testBit (min i (m.toNat - 1))
def signedV (value m : Int) : Int := if inNumB m = true then ((orBits (signBit value m) 64 : Nat) : Int) else 0

theorem signed_walk (value m : Int) (h : Hid (0 ≤ value ∧ value < 18446744073709551616)) (hb : inNumB m = true) :
    IntKind.u64.wrap (wrap64 (IntKind.u64.wrap (value * 2 ^ (64 - m).toNat)) / 2 ^ (64 - m).toNat) = signedV value m := by
  have hb' := inNum_of hb
  unfold signedV
  rw [if_pos hb]
  obtain ⟨V, rfl⟩ := Int.eq_ofNat_of_zero_le h.out.1
  obtain ⟨M, rfl⟩ := Int.eq_ofNat_of_zero_le (show 0 ≤ m by omega)
  have hv := h.out.2
  have hA : (64 - (M : Int)).toNat = 64 - M := by omega
  rw [hA]
  generalize hAA : 64 - M = A
  let X : BitVec 64 := BitVec.ofNat 64 V
  have hX : X.toNat = V := by
    show (BitVec.ofNat 64 V).toNat = V
    rw [BitVec.toNat_ofNat]; exact Nat.mod_eq_of_lt (by omega)
  have e1 : IntKind.u64.wrap ((V : Int) * 2 ^ A) = (((X <<< A).toNat : Nat) : Int) := by
    rw [IntKind.wrap_u64, BitVec.toNat_shiftLeft, hX, Nat.shiftLeft_eq]
    have : ((V : Int) * 2 ^ A) = ((V * 2 ^ A : Nat) : Int) := by simp
    rw [this]
    omega
  have e2 : ∀ Y : BitVec 64, wrap64 ((Y.toNat : Nat) : Int) = Y.toInt := by
    intro Y
    unfold wrap64
    rw [BitVec.toInt_eq_toNat_cond]
    have := Y.isLt
    split <;> omega
  have e3 : ∀ Y : BitVec 64, IntKind.u64.wrap Y.toInt = ((Y.toNat : Nat) : Int) := by
    intro Y
    rw [IntKind.wrap_u64, BitVec.toInt_eq_toNat_cond]
    have := Y.isLt
    split <;> omega
  have e4 : (X <<< A).toInt / 2 ^ A = ((X <<< A).sshiftRight A).toInt := by
    rw [BitVec.toInt_sshiftRight, Int.shiftRight_eq_div_pow]
    simp
  rw [e1, e2, e4, e3]
  congr 1
  apply eq_orBits
  intro i
  show ((X <<< A).sshiftRight A).getLsbD i = _
  rw [BitVec.getLsbD_sshiftRight]
  unfold signBit
  simp only [Int.toNat_natCast]
  by_cases hi : i < 64
  · have hi' : ¬ 64 ≤ i := by omega
    simp only [hi, hi', decide_true, decide_false, Bool.not_false, Bool.true_and]
    by_cases c : A + i < 64
    · rw [if_pos c, BitVec.getLsbD_shiftLeft]
      have c1 : ¬ A + i < A := by omega
      have c2 : A + i - A = i := by omega
      have c3 : min i (M - 1) = i := by omega
      simp only [c, c1, c2, c3, decide_true, decide_false, Bool.not_false, Bool.true_and]
      show X.toNat.testBit i = _
      rw [hX]
    · rw [if_neg c, BitVec.msb_eq_getLsbD_last, BitVec.getLsbD_shiftLeft]
      have c0 : 64 - 1 < 64 := by omega
      have c1 : ¬ 64 - 1 < A := by omega
      have c3 : min i (M - 1) = 64 - 1 - A := by omega
      simp only [c0, c1, c3, decide_true, decide_false, Bool.not_false, Bool.true_and]
      show X.toNat.testBit (64 - 1 - A) = _
      rw [hX]
  · have hi' : 64 ≤ i := by omega
    simp [hi, hi']

/-! ### Turning -/
def turnN (v b m : Nat) : Nat := (v / 2 ^ (b % m) ||| v * 2 ^ (m - b % m) % 2 ^ 64) &&& (2 ^ m - 1)
def turnF (v b m : Int) : Int := ((turnN v.toNat b.toNat m.toNat : Nat) : Int)
def rorBit (v b m : Nat) (i : Nat) : Bool := v.testBit ((i + b % m) % m)

theorem turnN_eq {v b m : Nat} (hm : 1 ≤ m) (hm2 : m ≤ 64) (hv : v < 2 ^ m) : turnN v b m = orBits (rorBit v b m) m := by
  apply eq_orBits
  intro i
  unfold turnN rorBit
  rw [Nat.testBit_and, Nat.testBit_or, Nat.testBit_div_two_pow, Nat.testBit_mod_two_pow, Nat.testBit_mul_two_pow, Nat.testBit_two_pow_sub_one]
  have hb : b % m < m := Nat.mod_lt _ (by omega)
  generalize b % m = c at *
  by_cases hi : i < m
  · have hi' : i < 64 := by omega
    by_cases h1 : i + c < m
    · have h2 : ¬ m - c ≤ i := by omega
      rw [Nat.mod_eq_of_lt h1]
      simp [hi, h2]
    · have h2 : m - c ≤ i := by omega
      have h3 : (i + c) % m = i - (m - c) := by
        rw [Nat.mod_eq_sub_mod (by omega), Nat.mod_eq_of_lt (by omega)]
        omega
      have h4 : v.testBit (i + c) = false := Nat.testBit_lt_two_pow (Nat.lt_of_lt_of_le hv (Nat.pow_le_pow_right (by decide) (by omega)))
      rw [h3, h4]
      simp [hi, hi', h2]
  · simp [hi]

theorem turnN_lt (v b m : Nat) : turnN v b m < 2 ^ m := by
  unfold turnN
  have : 2 ^ m - 1 < 2 ^ m := by have := Nat.two_pow_pos m; omega
  exact Nat.and_lt_two_pow _ this

theorem pow_le64 {m : Nat} (hm : m ≤ 64) : 2 ^ m ≤ 18446744073709551616 :=
  Nat.pow_le_pow_right (n := 2) (by decide) hm

theorem turn_walk (v b m : Int) (h : Hid (0 ≤ v ∧ v < 18446744073709551616)) (hb : 0 ≤ b) (hm : 1 ≤ m) (hm2 : m ≤ 64) :
    bits .and .u64 (bits .or .u64 (v / 2 ^ (b % m).toNat) (IntKind.u64.wrap (v * 2 ^ (m - b % m).toNat))) (lowF m) = turnF v b m := by
  obtain ⟨V, rfl⟩ := Int.eq_ofNat_of_zero_le h.out.1
  obtain ⟨B, rfl⟩ := Int.eq_ofNat_of_zero_le hb
  obtain ⟨M, rfl⟩ := Int.eq_ofNat_of_zero_le (show 0 ≤ m by omega)
  have hv := h.out.2
  have hlt : B % M < M := Nat.mod_lt _ (by omega)
  have r1 : ((B : Int) % (M : Int)) = ((B % M : Nat) : Int) := by simp
  have r2 : ((M : Int) - ((B % M : Nat) : Int)).toNat = M - B % M := by omega
  rw [r1, r2]
  unfold turnF turnN lowF
  simp only [Int.toNat_natCast]
  generalize B % M = C at *
  have e0 : ((V : Int) / 2 ^ C) = ((V / 2 ^ C : Nat) : Int) := by simp
  have e1 : IntKind.u64.wrap ((V : Int) * 2 ^ (M - C)) = ((V * 2 ^ (M - C) % 2 ^ 64 : Nat) : Int) := by
    rw [IntKind.wrap_u64]
    have : ((V : Int) * 2 ^ (M - C)) = ((V * 2 ^ (M - C) : Nat) : Int) := by simp
    rw [this]
    omega
  have q0 : V / 2 ^ C < 18446744073709551616 := Nat.lt_of_le_of_lt (Nat.div_le_self _ _) (by omega)
  have q1 : V * 2 ^ (M - C) % 2 ^ 64 < 18446744073709551616 := Nat.mod_lt _ (by decide)
  have q2 : V / 2 ^ C ||| V * 2 ^ (M - C) % 2 ^ 64 < 18446744073709551616 := Nat.or_lt_two_pow (n := 64) q0 q1
  have q3 : 2 ^ min M 64 - 1 < 18446744073709551616 := by
    have := pow_le64 (m := min M 64) (by omega)
    have := Nat.two_pow_pos (min M 64)
    omega
  rw [e0, e1, bits_or_u64_nat _ _ q0 q1, bits_and_u64_nat _ _ q2 q3, show min M 64 = M by omega]

/-! ### Ror -/
def fits64 (value m : Int) : Bool := decide (value.toNat < 2 ^ m.toNat)
def rorV (value b m : Int) : Int := if (inNumB m && decide (0 ≤ b) && fits64 value m) = true then ((orBits (rorBit value.toNat b.toNat m.toNat) m.toNat : Nat) : Int) else 0
def rorE (value b m : Int) : Int := if (inNumB m && decide (0 ≤ b)) = true then (if fits64 value m = true then 0 else 2) else 1

theorem fits64_low {value m : Int} (h0 : 0 ≤ value) (hm : m ≤ 64) : fits64 value m = true ↔ value ≤ lowF m := by
  unfold fits64 lowF
  rw [decide_eq_true_eq, show min m.toNat 64 = m.toNat by omega]
  have : 1 ≤ 2 ^ m.toNat := Nat.one_le_two_pow
  omega

theorem ror_walk {value b m : Int} (hb : inNumB m = true) (h0 : 0 ≤ b) (hf : fits64 value m = true) : turnF value b m = rorV value b m := by
  have h1 := inNum_of hb
  unfold turnF rorV
  rw [hb, hf, decide_eq_true h0, if_pos (by rfl)]
  unfold fits64 at hf
  rw [decide_eq_true_eq] at hf
  rw [turnN_eq (by omega) (by omega) hf]

theorem ror_yes {value b m : Int} (hb : inNumB m = true) (h0 : 0 ≤ b) (hf : fits64 value m = true) : ((orBits (rorBit value.toNat b.toNat m.toNat) m.toNat : Nat) : Int) = rorV value b m ∧ rorE value b m = 0 := by
  unfold rorV rorE
  rw [hb, hf, decide_eq_true h0, if_pos (by rfl), if_pos (by rfl), if_pos (by rfl)]
  exact ⟨rfl, rfl⟩

theorem ror_no {value b m : Int} (hb : inNumB m = true) (h0 : 0 ≤ b) (hf : fits64 value m = false) : rorV value b m = 0 ∧ rorE value b m = 2 := by
  unfold rorV rorE
  rw [hb, hf, decide_eq_true h0]
  exact ⟨rfl, rfl⟩

theorem ror_arg {value b m : Int} (h : ¬ (1 ≤ m ∧ m ≤ 64 ∧ 0 ≤ b)) : rorV value b m = 0 ∧ rorE value b m = 1 := by
  have : (inNumB m && decide (0 ≤ b)) = false := by
    unfold inNumB
    rw [← Bool.decide_and, decide_eq_false_iff_not]
    omega
  unfold rorV rorE
  rw [this]
  exact ⟨rfl, rfl⟩

theorem fits64_shr {value m : Int} (h : Hid (0 ≤ value ∧ value < 18446744073709551616)) : (value / 2 ^ m.toNat != 0) = !(fits64 value m) := by
  have h1 := h.out.1
  obtain ⟨V, rfl⟩ := Int.eq_ofNat_of_zero_le h1
  unfold fits64
  have e : ((V : Int) / 2 ^ m.toNat) = ((V / 2 ^ m.toNat : Nat) : Int) := by simp
  rw [e]
  have p : 0 < 2 ^ m.toNat := Nat.two_pow_pos _
  by_cases c : V < 2 ^ m.toNat
  · rw [Nat.div_eq_of_lt c]; simp [c]
  · have : 0 < V / 2 ^ m.toNat := Nat.div_pos (by omega) p
    have c' : decide ((V : Int).toNat < 2 ^ m.toNat) = false := by simpa using c
    rw [c']
    simp
    omega

theorem fits64_all {value : Int} (h : Hid (0 ≤ value ∧ value < 18446744073709551616)) : fits64 value 64 = true := by
  have h1 := h.out
  unfold fits64
  rw [decide_eq_true_eq]
  have : (2 : Nat) ^ (64 : Int).toNat = 18446744073709551616 := by decide
  omega

end Go.Proofs.YtbjcdpmhmebjnaaGreat
/- Numbers with a sign: the contract of Signed of package bits. -/
namespace Go.Proofs.YtbjcdpmhmebjnaaGreat
open Go.RowKit

set_option maxHeartbeats 400000 in
theorem signed_c (value m : Int) (hv : Hid (0 ≤ value ∧ value < 18446744073709551616)) (w : World) :
    Calls Tryz.prog 216 #[.int .u64 value, .int .i64 m] w fun e w' => e = .returned (.tuple #[.int .u64 (signedV value m), .int .i64 (inE (inNumB m))]) ∧ w' = w := by
  by_cases hb : inNumB m = true
  · obtain ⟨h1, h2⟩ := inNum_of hb
    have hE := signed_walk value m hv hb
    replace hE := show Hid _ from hE
    go_enter Tryz.func216, Tryz.ntmps216
    go_wp2_with (go_at_call 246; refine (inNum_c _ _).mono ?_; rintro e w' ⟨rfl, rfl⟩)
    go_ret2
    exact ⟨ret_two hE.out (by rw [hb]; rfl), rfl⟩
  · have hb : inNumB m = false := by simpa using hb
    go_enter Tryz.func216, Tryz.ntmps216
    go_wp2_with (go_at_call 246; refine (inNum_c _ _).mono ?_; rintro e w' ⟨rfl, rfl⟩)
    go_ret2
    exact ⟨ret_two (by simp [signedV, hb]) (by rw [hb]; rfl), rfl⟩

end Go.Proofs.YtbjcdpmhmebjnaaGreat
/- A word and its instruction, while fields go from the one to the other: what stands in the pair's block; the contract of 'cross'. -/
namespace Go.Proofs.YtbjcdpmhmebjnaaGreat
open Go.RowKit

/-- Of what was there nothing but block b has turned. -/
structure Keeps (w0 : World) (b : Nat) (w : World) : Prop where
  os : w.os = w0.os
  tape : w.tape = w0.tape
  output : w.output = w0.output
  size : w0.heap.size ≤ w.heap.size
  block : ∀ k, k ≠ b → k < w0.heap.size → w.heap[k]? = w0.heap[k]?
theorem Keeps.refl (w : World) (b : Nat) : Keeps w b w := ⟨rfl, rfl, rfl, Nat.le_refl _, fun _ _ _ => rfl⟩
theorem Keeps.trans {w0 w1 w2 : World} {b : Nat} (h : Keeps w0 b w1) (k : Keeps w1 b w2) : Keeps w0 b w2 :=
  ⟨k.os.trans h.os, k.tape.trans h.tape, k.output.trans h.output, Nat.le_trans h.size k.size, fun i hi hl => (k.block i hi (Nat.lt_of_lt_of_le hl h.size)).trans (h.block i hi hl)⟩
structure Pr (w0 : World) (b : Nat) (cs : Array Value) (w : World) : Prop where
  keep : Keeps w0 b w
  row : w.heap[b]? = some (.cells cs 103)
theorem pr_start {w : World} {b : Nat} {cs : Array Value} (h : w.heap[b]? = some (.cells cs 103)) : Pr w b cs w := ⟨Keeps.refl w b, h⟩
theorem Pr.then {w0 w w' : World} {b : Nat} {cs cs' : Array Value} (h : Pr w0 b cs w) (k : Pr w b cs' w') : Pr w0 b cs' w' := ⟨h.keep.trans k.keep, k.row⟩
theorem Pr.drew {w0 w : World} {b : Nat} {cs : Array Value} (h : Pr w0 b cs w) (n : Nat) : Pr w0 b cs (w.drewN n) := ⟨⟨h.keep.os, h.keep.tape, h.keep.output, h.keep.size, h.keep.block⟩, h.row⟩
theorem Pr.at {w0 w : World} {b : Nat} {cs : Array Value} (h : Pr w0 b cs w) {k : Nat} {v : Value} (hv : cs[k]? = some v) : w.cell? ⟨b, k, none⟩ = some v := by
  rw [cell_of_row _ _ _ _ _ _ h.row, hv]
theorem Pr.frozen {w0 w : World} {b : Nat} {cs : Array Value} (h : Pr w0 b cs w) (k : Nat) : w.frozen? ⟨b, k, none⟩ = false := frozen_of_row _ _ _ _ _ h.row
theorem Pr.set {w0 w : World} {b : Nat} {cs : Array Value} (h : Pr w0 b cs w) (k : Nat) (v : Value) : Pr w0 b (cs.setIfInBounds k v) (w.setCell ⟨b, k, none⟩ v) := by
  refine ⟨h.keep.trans ⟨rfl, rfl, rfl, by simp [World.setCell], fun j hj _ => heap_setCell_other _ _ _ _ hj⟩, heap_setCell_same _ _ _ _ _ _ h.row⟩

/-- A value read from a cell that is there. -/
theorem wpList_load_at {P : Program} {ops : Array Oper} {rest : List Oper} {o : Oper} {a : Act} {w : World} {Q : Exit → Act → World → Prop} (hw : Region.wanted o (yielded ops a.tmps) = true) (ty : TypeId) (x : Operand) (ho : o.op = .load ty x)
    (g j : Nat) (hx : a.eval x = .pointer (some ⟨g, j, none⟩)) (v : Value) (hc : w.cell? ⟨g, j, none⟩ = some v) (d : TypeDesc) (hu : P.underlying ty = some d) (hd : (match d with | .struct _ | .array _ _ => true | _ => false) = false)
    (h : wpList P ops Q rest (a.put o.dst v) w) : wpList P ops Q (o :: rest) a w := by
  refine BigFrame.wpList_want hw fun K hK => ?_
  unfold Oper.wp execOp
  have hl : (loadVar ty ⟨g, j, none⟩).run P w = .ok v w := by
    have ha : (isAgg ty).run P w = .ok false w := by
      unfold isAgg
      rw [Sem.run_bind, run_underlying hu w]
      cases d <;> simp_all
    go_simp
  simp only [ho, hx, Instr.loadAt, Instr.sureAddr, Sem.run_bind, Sem.run_pure, Result.andThen_ok, hl]
  exact hK _ _ h
/-- A value laid into a cell that is there. -/
theorem wpList_store_at {P : Program} {ops : Array Oper} {rest : List Oper} {o : Oper} {a : Act} {w : World} {Q : Exit → Act → World → Prop} (hgd : o.guard = none) (ty : TypeId) (x y : Operand) (ho : o.op = .store ty x y)
    (g j : Nat) (v : Value) (hx : a.eval x = .pointer (some ⟨g, j, none⟩)) (hy : a.eval y = v) (hv : v.cells = #[v]) (h1 : v.oneCell' = true) (old : Value) (hc : w.cell? ⟨g, j, none⟩ = some old) (hf : w.frozen? ⟨g, j, none⟩ = false) (hi : (P.info? ty).map (·.size) = some 1)
    (h : wpList P ops Q rest (a.put o.dst undef) (w.setCell ⟨g, j, none⟩ v)) : wpList P ops Q (o :: rest) a w := by
  refine wpList_plain hgd fun K hK => ?_
  unfold Oper.wp execOp
  have hs : (storeVar ty ⟨g, j, none⟩ v).run P w = .ok () (w.setCell ⟨g, j, none⟩ v) := by
    cases hq : P.info? ty with
    | none => simp [hq] at hi
    | some i =>
      have hs : i.size = 1 := by simpa [hq] using hi
      have hadd : (⟨g, j, none⟩ : Addr).add 0 = ⟨g, j, none⟩ := by unfold Addr.add; split <;> simp_all
      have hst : (store ⟨g, j, none⟩ v .plain).run P w = .ok () (w.setCell ⟨g, j, none⟩ v) := by
        rw [run_store P w _ _ _ h1, hc, hf]; rfl
      simp [storeVar, sizeOf, typeInfo, hq, hs, hv, storeCells, hadd, hst]
  simp only [ho, hx, hy, Instr.storeAt, Instr.sureAddr, Sem.run_bind, Sem.run_pure, Result.andThen_ok, hs]
  exact hK _ _ h

def lowV (n m : Int) : Int := fieldV (n % 4294967296) 0 m
def crossW (lay : Bool) (W n a m : Int) : Int := bif lay then putV W a m (lowV n m) else W
def crossG (lay : Bool) (W n a m : Int) : Int := fieldV (crossW lay W n a m) a m
def W32 (W : Int) : Prop := 0 ≤ W ∧ W < 4294967296
theorem put_lt (word a m value : Int) : W32 (putV word a m value) := by
  unfold putV W32
  split
  · have := orBits_lt (putBit word a m value) 32
    omega
  · omega
theorem field_lt {word a m : Int} (h : W32 word) : W32 (fieldV word a m) := by
  unfold fieldV W32
  split
  · have h1 := h.1; have h2 := h.2
    have : word.toNat / 2 ^ a.toNat % 2 ^ m.toNat ≤ word.toNat := Nat.le_trans (Nat.mod_le _ _) (Nat.div_le_self _ _)
    omega
  · omega
theorem low_lt (n m : Int) : W32 (lowV n m) := field_lt ⟨Int.emod_nonneg _ (by decide), Int.emod_lt_of_pos _ (by decide)⟩
theorem cross_lt {lay : Bool} {W n a m : Int} (h : W32 W) : W32 (crossW lay W n a m) := by
  cases lay
  · exact h
  · exact put_lt _ _ _ _
theorem got_lt {lay : Bool} {W n a m : Int} (h : W32 W) : W32 (crossG lay W n a m) := field_lt (cross_lt h)
theorem set_same' {cs : Array Value} {k : Nat} {v : Value} (h : cs[k]? = some v) : cs.setIfInBounds k v = cs := by
  apply Array.ext_getElem?
  intro j
  rw [Array.getElem?_setIfInBounds]
  split
  · rename_i e; subst e
    rw [if_pos (Array.getElem?_eq_some_iff.1 h).1, h]
  · rfl
theorem set_at {cs : Array Value} {k : Nat} {u v : Value} (h : cs[k]? = some u) : (cs.setIfInBounds k v)[k]? = some v := by
  rw [Array.getElem?_setIfInBounds_self, if_pos (Array.getElem?_eq_some_iff.1 h).1]
theorem set_ne' {cs : Array Value} {k j : Nat} {v : Value} (h : k ≠ j) : (cs.setIfInBounds k v)[j]? = cs[j]? := Array.getElem?_setIfInBounds_ne h
theorem i64_of_w32 {x : Int} (h : W32 x) : wrap64 x = x := by
  obtain ⟨h0, h1⟩ := h
  unfold wrap64; omega

set_option maxHeartbeats 1000000 in
theorem cross_c (b : Nat) (cs : Array Value) (W : Int) (lay : Bool) (n a m : Int) (h0 : cs[0]? = some (.int .u32 W)) (h17 : cs[17]? = some (.bool lay)) (hW : Hid (W32 W)) (w : World) (hp : w.heap[b]? = some (.cells cs 103)) :
    Calls Tryz.prog 169 #[.pointer (some ⟨b, 0, none⟩), .int .i64 n, .int .i64 a, .int .i64 m] w fun e w' => e = .returned (.int .i64 (crossG lay W n a m)) ∧ Pr w b (cs.setIfInBounds 0 (.int .u32 (crossW lay W n a m))) w' := by
  have H := pr_start hp
  have hG : Hid (wrap64 (crossG lay W n a m) = crossG lay W n a m) := i64_of_w32 (got_lt hW.out)
  have hL : Hid (W32 (crossW lay W n a m)) := cross_lt hW.out
  cases lay with
  | false =>
    have c17 := H.at h17
    have c0 := H.at h0
    go_enter Tryz.func169, Tryz.ntmps169
    go_wp2_with (go_at_call 214; refine (field_c _ _ _ hW _).mono ?_; rintro e w1 ⟨rfl, k1, rfl⟩)
    go_ret
    refine ⟨ret_int ?_, ?_⟩
    · exact hG.out
    show Pr w b (cs.setIfInBounds 0 (.int .u32 W)) _
    rw [set_same' h0]
    exact H.drew _
  | true =>
    have c17 := H.at h17
    have c0 := H.at h0
    have fz := H.frozen 0
    have hN : Hid (W32 (n % 4294967296)) := ⟨Int.emod_nonneg _ (by decide), Int.emod_lt_of_pos _ (by decide)⟩
    have hV : Hid (W32 (lowV n m)) := low_lt n m
    go_enter Tryz.func169, Tryz.ntmps169
    go_upto_region 4 with (first | (go_at_call 214; refine (field_c _ _ _ hN _).mono ?_; rintro e w1 ⟨rfl, k1, rfl⟩) | (go_at_call 215; refine (put_c _ _ _ _ hW hV _).mono ?_; rintro e w1 ⟨rfl, k2, rfl⟩))
    replace H := (H.drew (k1 + k2)).set 0 (.int .u32 (putV W a m (lowV n m)))
    generalize (w.drewN (k1 + k2)).setCell _ _ = w3 at H ⊢
    clear c0 c17 fz
    have c0 := H.at (set_at h0)
    have hL2 : Hid (W32 (putV W a m (lowV n m))) := put_lt _ _ _ _
    go_wp2_with (go_at_call 214; refine (field_c _ _ _ hL2 _).mono ?_; rintro e w1 ⟨rfl, k3, rfl⟩)
    go_ret
    refine ⟨ret_int ?_, H.drew _⟩
    exact hG.out
/-- One step of a walk over a pair: its number, laid or taken. -/
def numW (lay : Bool) (W n u a m : Int) : Int := crossW lay W (n.tdiv u) a m
def numG (lay : Bool) (W n u a m : Int) : Int := crossG lay W (n.tdiv u) a m * u
set_option maxHeartbeats 1000000 in
theorem number_c (b : Nat) (cs : Array Value) (W : Int) (lay : Bool) (k : Nat) (n u a m : Int) (hk : 0 ≠ k) (h0 : cs[0]? = some (.int .u32 W)) (h17 : cs[17]? = some (.bool lay)) (hn : cs[k]? = some (.int .i64 n)) (hW : Hid (W32 W))
    (hu : 1 ≤ u) (hu2 : u ≤ 4096) (hd : wrap64 (n.tdiv u) = n.tdiv u) (hq : wrap64 (crossG lay W (n.tdiv u) a m * u) = crossG lay W (n.tdiv u) a m * u) (w : World) (hp : w.heap[b]? = some (.cells cs 103)) :
    Calls Tryz.prog 162 #[.pointer (some ⟨b, 0, none⟩), .pointer (some ⟨b, k, none⟩), .int .i64 u, .int .i64 a, .int .i64 m] w fun e w' => e = .returned (.tuple #[]) ∧ Pr w b ((cs.setIfInBounds 0 (.int .u32 (numW lay W n u a m))).setIfInBounds k (.int .i64 (numG lay W n u a m))) w' := by
  have H := pr_start hp
  have ck := H.at hn
  go_enter Tryz.func162, Tryz.ntmps162
  go_wp2_with (go_at_call 169; refine (cross_c b cs W lay _ _ _ h0 h17 hW _ hp).mono ?_; rintro e w1 ⟨rfl, H1⟩; refine Hid.out ?_)
  unfold Hid
  have c2 := H1.at ((set_ne' hk).trans hn)
  have fz := H1.frozen k
  go_wp2
  go_end0
  exact ⟨rfl, H1.set k _⟩
set_option maxHeartbeats 1000000 in
theorem register_c (b : Nat) (cs : Array Value) (W : Int) (lay : Bool) (k : Nat) (n a : Int) (hk : 0 ≠ k) (h0 : cs[0]? = some (.int .u32 W)) (h17 : cs[17]? = some (.bool lay)) (hn : cs[k]? = some (.int .i64 n)) (hW : Hid (W32 W))
    (hd : wrap64 (n.tdiv 1) = n.tdiv 1) (hq : wrap64 (crossG lay W (n.tdiv 1) a 5 * 1) = crossG lay W (n.tdiv 1) a 5 * 1) (w : World) (hp : w.heap[b]? = some (.cells cs 103)) :
    Calls Tryz.prog 168 #[.pointer (some ⟨b, 0, none⟩), .pointer (some ⟨b, k, none⟩), .int .i64 a] w fun e w' => e = .returned (.tuple #[]) ∧ Pr w b ((cs.setIfInBounds 0 (.int .u32 (numW lay W n 1 a 5))).setIfInBounds k (.int .i64 (numG lay W n 1 a 5))) w' := by
  go_enter Tryz.func168, Tryz.ntmps168
  go_wp2_with (go_at_call 162; refine (number_c b cs W lay k n 1 a 5 hk h0 h17 hn hW (by decide) (by decide) hd hq _ hp).mono ?_; rintro e w1 ⟨rfl, H1⟩)
  go_end0
  exact ⟨rfl, H1⟩
def boolI (x : Bool) : Int := bif x then 1 else 0
set_option maxHeartbeats 1000000 in
theorem sign_c (b : Nat) (cs : Array Value) (W : Int) (lay : Bool) (k : Nat) (x : Bool) (a : Int) (hk : 0 ≠ k) (h0 : cs[0]? = some (.int .u32 W)) (h17 : cs[17]? = some (.bool lay)) (hn : cs[k]? = some (.bool x)) (hW : Hid (W32 W)) (w : World) (hp : w.heap[b]? = some (.cells cs 103)) :
    Calls Tryz.prog 165 #[.pointer (some ⟨b, 0, none⟩), .pointer (some ⟨b, k, none⟩), .int .i64 a] w fun e w' => e = .returned (.tuple #[]) ∧ Pr w b ((cs.setIfInBounds 0 (.int .u32 (crossW lay W (boolI x) a 1))).setIfInBounds k (.bool (crossG lay W (boolI x) a 1 == 1))) w' := by
  have H := pr_start hp
  have ck := H.at hn
  cases x
  all_goals
    go_enter Tryz.func165, Tryz.ntmps165
    go_wp2_with (go_at_call 169; refine (cross_c b cs W lay _ _ _ h0 h17 hW _ hp).mono ?_; rintro e w1 ⟨rfl, H1⟩; refine Hid.out ?_)
    unfold Hid
    have c2 := H1.at ((set_ne' hk).trans hn)
    have fz := H1.frozen k
    go_wp2
    go_end0
    exact ⟨rfl, H1.set k _⟩
end Go.Proofs.YtbjcdpmhmebjnaaGreat
