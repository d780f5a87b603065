/- Whether an instruction may not be at this level; what it wants; Begin: contracts. -/
import Derived.Test.YtbjcdpmhmebjnaaGreatD07
import Derived.Test.YtbjcdpmhmebjnaaGreatD04
import Derived.Test.YtbjcdpmhmebjnaaGreatD01
import Derived.Laws.Rows
import Derived.BigQuiet
import Derived.Deep.RegionWith
import Derived.Deep.CutRange
namespace Go.Proofs.YtbjcdpmhmebjnaaGreat
open Go.RowKit
set_option linter.unusedVariables false

theorem eqIn_func (d : Nat) {t : TypeId} {a b : Array TypeId} {c : Bool} (hu : Tryz.prog.underlying t = some (.func a b c)) (fn : Fn) (first cap : Array Value) (w : World) : (Op.equalIn (d + 1) t (.func fn first cap) .nilFunc).run Tryz.prog w = .ok false w := by
  rw [Op.equalIn]
  simp [Sem.run_bind, run_underlying hu]
theorem eqIn_nil (d : Nat) {t : TypeId} {a b : Array TypeId} {c : Bool} (hu : Tryz.prog.underlying t = some (.func a b c)) (w : World) : (Op.equalIn (d + 1) t .nilFunc .nilFunc).run Tryz.prog w = .ok true w := by
  rw [Op.equalIn]
  simp [Sem.run_bind, run_underlying hu]
theorem neq_func {t : TypeId} {a b : Array TypeId} {c : Bool} (hu : Tryz.prog.underlying t = some (.func a b c)) (fn : Fn) (first cap : Array Value) (w : World) : (binOp .neq t (.func fn first cap) .nilFunc).run Tryz.prog w = .ok (.bool true) w := by
  have e := eqIn_func 9999 hu fn first cap w
  simp only [binOp]
  simp [Op.equal, Op.maxDepth, e]
theorem neq_nil {t : TypeId} {a b : Array TypeId} {c : Bool} (hu : Tryz.prog.underlying t = some (.func a b c)) (w : World) : (binOp .neq t .nilFunc .nilFunc).run Tryz.prog w = .ok (.bool false) w := by
  have e := eqIn_nil 9999 hu w
  simp only [binOp]
  simp [Op.equal, Op.maxDepth, e]
@[go_sem] theorem neq_func54 (fn : Fn) (first cap : Array Value) (w : World) : (binOp .neq 59 (.func fn first cap) .nilFunc).run Tryz.prog w = .ok (.bool true) w := neq_func Tryz.underlying59 fn first cap w
@[go_sem] theorem neq_nil54 (w : World) : (binOp .neq 59 .nilFunc .nilFunc).run Tryz.prog w = .ok (.bool false) w := neq_nil Tryz.underlying59 w
@[go_sem] theorem neq_func1 (fn : Fn) (first cap : Array Value) (w : World) : (binOp .neq 1 (.func fn first cap) .nilFunc).run Tryz.prog w = .ok (.bool true) w := neq_func Tryz.underlying1 fn first cap w
@[go_sem] theorem neq_nil1 (w : World) : (binOp .neq 1 .nilFunc .nilFunc).run Tryz.prog w = .ok (.bool false) w := neq_nil Tryz.underlying1 w
def lowB (i : Ins) : Bool := i.op == 36 || i.op == 33 || i.op == 29 || (i.op == 31 && !allB i.sys) || (i.op == 32 && (!allB i.sys || roB i.sys))
set_option maxHeartbeats 4000000 in
theorem barredBelow_c (g : Nat) (s : Stp) (w : World) (h : w.heap[g]? = some (.cells s.cells 58)) : Calls Tryz.prog 100 #[.pointer (some ⟨g, 0, none⟩)] w fun e w' => e = .returned (.bool (lowB s.i)) ∧ w' = w := by
  have c0 := at_i h 0 (.int .i64 s.i.op) (by decide) rfl
  have c11 := at_i h 11 (.int .i64 s.i.sys) (by decide) rfl
  cases hA : allB s.i.sys <;> cases hR : roB s.i.sys
  all_goals
    go_enter Tryz.func100, Tryz.ntmps100
    go_wp2_with (first | (go_at_call 182; refine (isForAll_c _ _).mono ?_; rw [hA]; rintro e w1 ⟨rfl, rfl⟩; dsimp only) | (go_at_call 101; refine (isReadOnly_c _ _).mono ?_; rw [hR]; rintro e w1 ⟨rfl, rfl⟩; dsimp only))
    all_goals (go_ret; refine ⟨r_ret_bool ?_, rfl⟩; unfold lowB; simp_all)
set_option maxHeartbeats 4000000 in
theorem barred_c (g : Nat) (s : Stp) (w : World) (h : w.heap[g]? = some (.cells s.cells 58)) : Calls Tryz.prog 42 #[.pointer (some ⟨g, 0, none⟩)] w fun e w' => e = .returned (.bool (barB s.c s.i)) ∧ w' = w := by
  have c0 := at_i h 0 (.int .i64 s.i.op) (by decide) rfl
  have c11 := at_i h 11 (.int .i64 s.i.sys) (by decide) rfl
  have c54 := at_c h 38 (.int .i64 s.c.el) (by decide) s.c.a38
  by_cases h0 : s.c.el = 0
  · have eb : barB s.c s.i = lowB s.i := by unfold barB lowB; rw [h0]; rfl
    rw [h0] at c54
    rw [eb]
    go_enter Tryz.func42, Tryz.ntmps42
    go_wp2_with (go_at_call 100; refine (barredBelow_c g s _ h).mono ?_; rintro e w1 ⟨rfl, rfl⟩; dsimp only)
    go_ret
    exact ⟨rfl, rfl⟩
  · have hel : (s.c.el == 0) = false := by simp [h0]
    have eb : barB s.c s.i = ((s.i.op == 31 && (s.i.sys == 18017 || s.i.sys == 18013)) || (s.i.op == 32 && roB s.i.sys)) := by unfold barB; rw [hel]; rfl
    rw [eb]
    clear eb
    cases hR : roB s.i.sys
    all_goals
      go_enter Tryz.func42, Tryz.ntmps42
      go_wp2_with (go_at_call 101; refine (isReadOnly_c _ _).mono ?_; rw [hR]; rintro e w1 ⟨rfl, rfl⟩; dsimp only)
      all_goals (go_ret; refine ⟨r_ret_bool ?_, rfl⟩; simp_all)
def wishRow (g : Nat) : Array Value := #[.func (.func 43) #[.pointer (some ⟨g, 0, none⟩)] #[], .nilFunc, .nilFunc, .nilFunc, .nilFunc, .nilFunc, .nilFunc, .nilFunc, .nilFunc, .nilFunc, .nilFunc, .nilFunc, .nilFunc, .nilFunc, .nilFunc, .nilFunc, .nilFunc, .func (.func 102) #[.pointer (some ⟨g, 0, none⟩)] #[], .func (.func 105) #[.pointer (some ⟨g, 0, none⟩)] #[], .func (.func 102) #[.pointer (some ⟨g, 0, none⟩)] #[], .func (.func 105) #[.pointer (some ⟨g, 0, none⟩)] #[], .func (.func 103) #[.pointer (some ⟨g, 0, none⟩)] #[], .func (.func 106) #[.pointer (some ⟨g, 0, none⟩)] #[], .func (.func 104) #[.pointer (some ⟨g, 0, none⟩)] #[], .func (.func 107) #[.pointer (some ⟨g, 0, none⟩)] #[], .func (.func 108) #[.pointer (some ⟨g, 0, none⟩)] #[], .func (.func 109) #[.pointer (some ⟨g, 0, none⟩)] #[], .func (.func 110) #[.pointer (some ⟨g, 0, none⟩)] #[], .func (.func 111) #[.pointer (some ⟨g, 0, none⟩)] #[], .func (.func 112) #[.pointer (some ⟨g, 0, none⟩)] #[], .func (.func 113) #[.pointer (some ⟨g, 0, none⟩)] #[], .func (.func 114) #[.pointer (some ⟨g, 0, none⟩)] #[], .func (.func 115) #[.pointer (some ⟨g, 0, none⟩)] #[], .nilFunc, .func (.func 116) #[.pointer (some ⟨g, 0, none⟩)] #[], .func (.func 117) #[.pointer (some ⟨g, 0, none⟩)] #[], .nilFunc, .func (.func 118) #[.pointer (some ⟨g, 0, none⟩)] #[]]
theorem wishRow_size (g : Nat) : (wishRow g).size = 38 := rfl
theorem wishRow_one (g : Nat) : (wishRow g).all (·.oneCell') = true := by simp [wishRow, Value.oneCell']
theorem info93 (g : Nat) : (Tryz.prog.info? 110).map (·.size) = some (wishRow g).size := by rw [wishRow_size]; kernel_rfl
set_option maxRecDepth 4000 in
set_option maxHeartbeats 4000000 in
theorem wish_some (g : Nat) (s : Stp) (w : World) (h : w.heap[g]? = some (.cells s.cells 58)) (k : Nat) (hk : k < 38) (hop : s.i.op = (k : Int)) (f : Nat) (hrow : (wishRow g)[k]? = some (.func (.func f) #[.pointer (some ⟨g, 0, none⟩)] #[])) (V : Wnt)
    (hE : ∀ (args : Array Value) (w : World), (callFunc f args).run Tryz.prog w = .ok (.enter f args) w)
    (hc : ∀ w : World, w.heap[g]? = some (.cells s.cells 58) → Calls Tryz.prog f #[.pointer (some ⟨g, 0, none⟩)] w fun e w' => e = .returned V.val ∧ Below w.heap.size w w') :
    Calls Tryz.prog 44 #[.pointer (some ⟨g, 0, none⟩)] w fun e w' => e = .returned V.val ∧ Below w.heap.size w w' := by
  go_enter Tryz.func44, Tryz.ntmps44
  go_upto_region 1 with fail
  have H := (has_none w).new 30 #[.int .i64 0, .int .u64 0, .int .u64 0, .int .i64 0, .bool false, .int .i64 0, .bool false, .int .i64 0, .int .i64 0, .int .i64 0]
  have hs := keep_row h (r_below_alloc w (.cells #[.int .i64 0, .int .u64 0, .int .u64 0, .int .i64 0, .bool false, .int .i64 0, .bool false, .int .i64 0, .int .i64 0, .int .i64 0] 30))
  generalize hb : w.heap.size = b at H ⊢
  generalize w.alloc _ = w1 at H hs ⊢
  obtain ⟨Z, hZ, H⟩ : ∃ Z, Z.size = 10 ∧ Has w [(b, Z, 30)] w1 := ⟨_, rfl, H⟩
  have hlt : b < w1.heap.size := (Array.getElem?_eq_some_iff.1 (H.get List.mem_cons_self)).1
  go_upto_region 2 with (first | ((with_reducible refine wpList_builtG rfl 110 _ rfl (wishRow g) (by kernel_rfl) ?_); simp only [Act.put, List.setIfInBounds_toArray, List.set_cons_succ, List.set_cons_zero]) | ((with_reducible refine wpList_store_new H rfl 110 _ _ rfl (wishRow g) rfl rfl (info93 g) ?_ (wishRow_one g) ?_); (focus rfl); intro w2 H2; simp only [Act.put]))
  replace hs := keep_row h H2.below
  have c0 := at_i hs 0 (.int .i64 s.i.op) (by decide) rfl
  rw [hop] at c0
  have ck := H2.at List.mem_cons_self k _ hrow
  replace H := H2.swap
  have hne : ∀ p ∈ [(w1.heap.size, wishRow g, (110 : TypeId))], p.1 ≠ b := one_other (by omega)
  clear H2 hlt
  generalize w1.heap.size = z at ck H hne ⊢
  have hk1 : (k : Int) < 38 := by omega
  go_upto_region 4 with fail
  go_wp2_with (first | (refine (hc _ hs).mono ?_; rintro e w3 ⟨rfl, hB⟩; dsimp only; replace H := H.grow hB) | ((with_reducible refine wpList_store_w rfl _ _ rfl H hne hZ _ rfl rfl ?_); intro w9 H; simp only [Act.put]))
  exact bodyPost_ret (back_w rfl _ _ _ _ _ _ rfl (H.get List.mem_cons_self)) rfl ⟨rfl, by first | exact H.below | (rw [← hb]; exact H.below)⟩
end Go.Proofs.YtbjcdpmhmebjnaaGreat
/- A step built of an instruction, a state and what came: its cells. -/
namespace Go.Proofs.YtbjcdpmhmebjnaaGreat
open Go.RowKit

set_option maxHeartbeats 4000000 in
theorem built53 (i : Ins) (c : Cor) : Tryz.prog.built 58 [(0, i.val), (1, c.val)] = some (Stp.cells ⟨i, c, nilG, 0⟩) := by
  obtain ⟨⟨⟨l⟩, hl⟩, c0, c1, c2, c3, c4, c5, c6, c7, c8, c9, c10, c11, c12, c13, c14, c15, c16, c17⟩ := c
  rcases l with _ | ⟨x0, l⟩
  · exact absurd hl (by simp)
  rcases l with _ | ⟨x1, l⟩
  · exact absurd hl (by simp)
  rcases l with _ | ⟨x2, l⟩
  · exact absurd hl (by simp)
  rcases l with _ | ⟨x3, l⟩
  · exact absurd hl (by simp)
  rcases l with _ | ⟨x4, l⟩
  · exact absurd hl (by simp)
  rcases l with _ | ⟨x5, l⟩
  · exact absurd hl (by simp)
  rcases l with _ | ⟨x6, l⟩
  · exact absurd hl (by simp)
  rcases l with _ | ⟨x7, l⟩
  · exact absurd hl (by simp)
  rcases l with _ | ⟨x8, l⟩
  · exact absurd hl (by simp)
  rcases l with _ | ⟨x9, l⟩
  · exact absurd hl (by simp)
  rcases l with _ | ⟨x10, l⟩
  · exact absurd hl (by simp)
  rcases l with _ | ⟨x11, l⟩
  · exact absurd hl (by simp)
  rcases l with _ | ⟨x12, l⟩
  · exact absurd hl (by simp)
  rcases l with _ | ⟨x13, l⟩
  · exact absurd hl (by simp)
  rcases l with _ | ⟨x14, l⟩
  · exact absurd hl (by simp)
  rcases l with _ | ⟨x15, l⟩
  · exact absurd hl (by simp)
  rcases l with _ | ⟨x16, l⟩
  · exact absurd hl (by simp)
  rcases l with _ | ⟨x17, l⟩
  · exact absurd hl (by simp)
  rcases l with _ | ⟨x18, l⟩
  · exact absurd hl (by simp)
  rcases l with _ | ⟨x19, l⟩
  · exact absurd hl (by simp)
  rcases l with _ | ⟨x20, l⟩
  · exact absurd hl (by simp)
  rcases l with _ | ⟨x21, l⟩
  · exact absurd hl (by simp)
  rcases l with _ | ⟨x22, l⟩
  · exact absurd hl (by simp)
  rcases l with _ | ⟨x23, l⟩
  · exact absurd hl (by simp)
  rcases l with _ | ⟨x24, l⟩
  · exact absurd hl (by simp)
  rcases l with _ | ⟨x25, l⟩
  · exact absurd hl (by simp)
  rcases l with _ | ⟨x26, l⟩
  · exact absurd hl (by simp)
  rcases l with _ | ⟨x27, l⟩
  · exact absurd hl (by simp)
  rcases l with _ | ⟨x28, l⟩
  · exact absurd hl (by simp)
  rcases l with _ | ⟨x29, l⟩
  · exact absurd hl (by simp)
  rcases l with _ | ⟨x30, l⟩
  · exact absurd hl (by simp)
  rcases l with _ | ⟨x31, l⟩
  · kernel_rfl
  · exact absurd hl (by simp)
set_option maxHeartbeats 4000000 in
theorem built53g (i : Ins) (c : Cor) (k : Gt) : Tryz.prog.built 58 [(0, i.val), (1, c.val), (2, k.val)] = some (Stp.cells ⟨i, c, k, 0⟩) := by
  obtain ⟨⟨⟨l⟩, hl⟩, c0, c1, c2, c3, c4, c5, c6, c7, c8, c9, c10, c11, c12, c13, c14, c15, c16, c17⟩ := c
  rcases l with _ | ⟨x0, l⟩
  · exact absurd hl (by simp)
  rcases l with _ | ⟨x1, l⟩
  · exact absurd hl (by simp)
  rcases l with _ | ⟨x2, l⟩
  · exact absurd hl (by simp)
  rcases l with _ | ⟨x3, l⟩
  · exact absurd hl (by simp)
  rcases l with _ | ⟨x4, l⟩
  · exact absurd hl (by simp)
  rcases l with _ | ⟨x5, l⟩
  · exact absurd hl (by simp)
  rcases l with _ | ⟨x6, l⟩
  · exact absurd hl (by simp)
  rcases l with _ | ⟨x7, l⟩
  · exact absurd hl (by simp)
  rcases l with _ | ⟨x8, l⟩
  · exact absurd hl (by simp)
  rcases l with _ | ⟨x9, l⟩
  · exact absurd hl (by simp)
  rcases l with _ | ⟨x10, l⟩
  · exact absurd hl (by simp)
  rcases l with _ | ⟨x11, l⟩
  · exact absurd hl (by simp)
  rcases l with _ | ⟨x12, l⟩
  · exact absurd hl (by simp)
  rcases l with _ | ⟨x13, l⟩
  · exact absurd hl (by simp)
  rcases l with _ | ⟨x14, l⟩
  · exact absurd hl (by simp)
  rcases l with _ | ⟨x15, l⟩
  · exact absurd hl (by simp)
  rcases l with _ | ⟨x16, l⟩
  · exact absurd hl (by simp)
  rcases l with _ | ⟨x17, l⟩
  · exact absurd hl (by simp)
  rcases l with _ | ⟨x18, l⟩
  · exact absurd hl (by simp)
  rcases l with _ | ⟨x19, l⟩
  · exact absurd hl (by simp)
  rcases l with _ | ⟨x20, l⟩
  · exact absurd hl (by simp)
  rcases l with _ | ⟨x21, l⟩
  · exact absurd hl (by simp)
  rcases l with _ | ⟨x22, l⟩
  · exact absurd hl (by simp)
  rcases l with _ | ⟨x23, l⟩
  · exact absurd hl (by simp)
  rcases l with _ | ⟨x24, l⟩
  · exact absurd hl (by simp)
  rcases l with _ | ⟨x25, l⟩
  · exact absurd hl (by simp)
  rcases l with _ | ⟨x26, l⟩
  · exact absurd hl (by simp)
  rcases l with _ | ⟨x27, l⟩
  · exact absurd hl (by simp)
  rcases l with _ | ⟨x28, l⟩
  · exact absurd hl (by simp)
  rcases l with _ | ⟨x29, l⟩
  · exact absurd hl (by simp)
  rcases l with _ | ⟨x30, l⟩
  · exact absurd hl (by simp)
  rcases l with _ | ⟨x31, l⟩
  · kernel_rfl
  · exact absurd hl (by simp)
end Go.Proofs.YtbjcdpmhmebjnaaGreat
/- Whether places lie in a word: contracts. -/
namespace Go.Proofs.YtbjcdpmhmebjnaaGreat
open Go.RowKit

set_option maxHeartbeats 400000 in
theorem inWord_c (a m : Int) (w : World) :
    Calls Tryz.prog 244 #[.int .i64 a, .int .i64 m] w fun e w' => e = .returned (.bool (inWordB a m)) ∧ w' = w := by
  go_enter Tryz.func244, Tryz.ntmps244
  go_wp2
  all_goals (go_ret; refine ⟨ret_bool ?_, rfl⟩; unfold inWordB; first | (rw [eq_comm, decide_eq_false_iff_not]; omega) | (rw [decide_eq_decide]; omega))

set_option maxHeartbeats 400000 in
theorem inNum_c (m : Int) (w : World) :
    Calls Tryz.prog 246 #[.int .i64 m] w fun e w' => e = .returned (.bool (inNumB m)) ∧ w' = w := by
  go_enter Tryz.func246, Tryz.ntmps246
  go_wp2
  all_goals (go_ret; refine ⟨ret_bool ?_, rfl⟩; unfold inNumB; first | (rw [eq_comm, decide_eq_false_iff_not]; omega) | (rw [decide_eq_decide]; omega))

set_option maxHeartbeats 400000 in
theorem lowWord_c (k : Int) (hk : 0 ≤ k) (hk2 : k ≤ 32) (w : World) :
    Calls Tryz.prog 245 #[.int .i64 k] w fun e w' => e = .returned (.int .u32 (lowWordF k)) ∧ w' = w := by
  go_enter Tryz.func245, Tryz.ntmps245
  go_wp2
  go_ret
  exact ⟨ret_int (lowWord_walk k hk2), rfl⟩

end Go.Proofs.YtbjcdpmhmebjnaaGreat
/- What Field and Put of package bits, and of the document's own answer, give back, for all words and numbers: contracts. -/
namespace Go.Proofs.YtbjcdpmhmebjnaaGreat
open Go.RowKit

set_option maxHeartbeats 400000 in
theorem field_c (word a m : Int) (hw : Hid (0 ≤ word ∧ word < 4294967296)) (w : World) :
    Calls Tryz.prog 214 #[.int .u32 word, .int .i64 a, .int .i64 m] w fun e w' => e = .returned (.tuple #[.int .u32 (fieldV word a m), .int .i64 (inE (inWordB a m))]) ∧ ∃ n, w' = w.drewN n := by
  by_cases hb : inWordB a m = true
  · obtain ⟨h1, h2, h3, h4⟩ := inWord_of hb
    have hE : Hid (bits .and .u32 (word / 2 ^ a.toNat) (lowWordF m) = fieldV word a m) := field_walk word a m hw hb
    go_enter Tryz.func214, Tryz.ntmps214
    go_wp2_with (go_at_call 244; refine (inWord_c _ _ _).mono ?_; rintro e w' ⟨rfl, rfl⟩)
    go_quiet ((go_at_call 245; exact Calls.quiet_of_same (lowWord_c _ (by omega) (by omega) _)))
    go_wp2
    go_ret2
    exact ⟨ret_two hE.out (by rw [hb]; rfl), _, rfl⟩
  · have hb : inWordB a m = false := by simpa using hb
    go_enter Tryz.func214, Tryz.ntmps214
    go_wp2_with (go_at_call 244; refine (inWord_c _ _ _).mono ?_; rintro e w' ⟨rfl, rfl⟩)
    go_ret2
    exact ⟨ret_two (by simp [fieldV, hb]) (by rw [hb]; rfl), 0, rfl⟩

set_option maxHeartbeats 400000 in
theorem put_c (word a m value : Int) (hw : Hid (0 ≤ word ∧ word < 4294967296)) (hv : Hid (0 ≤ value ∧ value < 4294967296)) (w : World) :
    Calls Tryz.prog 215 #[.int .u32 word, .int .i64 a, .int .i64 m, .int .u32 value] w fun e w' => e = .returned (.tuple #[.int .u32 (putV word a m value), .int .i64 (putE a m value)]) ∧ ∃ n, w' = w.drewN n := by
  by_cases hb : inWordB a m = true
  · obtain ⟨h1, h2, h3, h4⟩ := inWord_of hb
    by_cases hf : fitsB value m = true
    · have hE : Hid (bits .or .u32 (bits .andNot .u32 word (lowWordF m * 2 ^ a.toNat % 4294967296)) (value * 2 ^ a.toNat % 4294967296) = putV word a m value) := put_walk word a m value hw hv hb hf
      have hl : value ≤ lowWordF m := (fits_low hv.out.1).1 hf
      go_enter Tryz.func215, Tryz.ntmps215
      go_wp2_with (first | (go_at_call 244; refine (inWord_c _ _ _).mono ?_; rintro e w' ⟨rfl, rfl⟩) | (go_at_call 245; refine (lowWord_c _ (by omega) (by omega) _).mono ?_; rintro e w' ⟨rfl, rfl⟩))
      go_quiet ((go_at_call 245; exact Calls.quiet_of_same (lowWord_c _ (by omega) (by omega) _)))
      go_wp2
      go_ret2
      exact ⟨ret_two hE.out (by simp [putE, hb, hf]), _, rfl⟩
    · have hl : lowWordF m < value := Int.not_le.mp fun h => hf ((fits_low hv.out.1).2 h)
      go_enter Tryz.func215, Tryz.ntmps215
      go_wp2_with (first | (go_at_call 244; refine (inWord_c _ _ _).mono ?_; rintro e w' ⟨rfl, rfl⟩) | (go_at_call 245; refine (lowWord_c _ (by omega) (by omega) _).mono ?_; rintro e w' ⟨rfl, rfl⟩))
      go_ret2
      exact ⟨ret_two (by simp [putV, hf]) (by simp [putE, hb, hf]), 0, rfl⟩
  · have hb : inWordB a m = false := by simpa using hb
    go_enter Tryz.func215, Tryz.ntmps215
    go_wp2_with (go_at_call 244; refine (inWord_c _ _ _).mono ?_; rintro e w' ⟨rfl, rfl⟩)
    go_ret2
    exact ⟨ret_two (by simp [putV, hb]) (by simp [putE, hb]), 0, rfl⟩

end Go.Proofs.YtbjcdpmhmebjnaaGreat
/- Numbers with a sign: the contract of Signed of package bits. -/
namespace Go.Proofs.YtbjcdpmhmebjnaaGreat
open Go.RowKit

set_option maxHeartbeats 400000 in
theorem signed_c (value m : Int) (hv : Hid (0 ≤ value ∧ value < 18446744073709551616)) (w : World) :
    Calls Tryz.prog 216 #[.int .u64 value, .int .i64 m] w fun e w' => e = .returned (.tuple #[.int .u64 (signedV value m), .int .i64 (inE (inNumB m))]) ∧ w' = w := by
  by_cases hb : inNumB m = true
  · obtain ⟨h1, h2⟩ := inNum_of hb
    have hE := signed_walk value m hv hb
    replace hE := show Hid _ from hE
    go_enter Tryz.func216, Tryz.ntmps216
    go_wp2_with (go_at_call 246; refine (inNum_c _ _).mono ?_; rintro e w' ⟨rfl, rfl⟩)
    go_ret2
    exact ⟨ret_two hE.out (by rw [hb]; rfl), rfl⟩
  · have hb : inNumB m = false := by simpa using hb
    go_enter Tryz.func216, Tryz.ntmps216
    go_wp2_with (go_at_call 246; refine (inNum_c _ _).mono ?_; rintro e w' ⟨rfl, rfl⟩)
    go_ret2
    exact ⟨ret_two (by simp [signedV, hb]) (by rw [hb]; rfl), rfl⟩

end Go.Proofs.YtbjcdpmhmebjnaaGreat
/- A word and its instruction, while fields go from the one to the other: what stands in the pair's block; the contract of 'cross'. -/
namespace Go.Proofs.YtbjcdpmhmebjnaaGreat
open Go.RowKit

/-- Of what was there nothing but block b has turned. -/
structure Keeps (w0 : World) (b : Nat) (w : World) : Prop where
  os : w.os = w0.os
  tape : w.tape = w0.tape
  output : w.output = w0.output
  size : w0.heap.size ≤ w.heap.size
  block : ∀ k, k ≠ b → k < w0.heap.size → w.heap[k]? = w0.heap[k]?
theorem Keeps.refl (w : World) (b : Nat) : Keeps w b w := ⟨rfl, rfl, rfl, Nat.le_refl _, fun _ _ _ => rfl⟩
theorem Keeps.trans {w0 w1 w2 : World} {b : Nat} (h : Keeps w0 b w1) (k : Keeps w1 b w2) : Keeps w0 b w2 :=
  ⟨k.os.trans h.os, k.tape.trans h.tape, k.output.trans h.output, Nat.le_trans h.size k.size, fun i hi hl => (k.block i hi (Nat.lt_of_lt_of_le hl h.size)).trans (h.block i hi hl)⟩
structure Pr (w0 : World) (b : Nat) (cs : Array Value) (w : World) : Prop where
  keep : Keeps w0 b w
  row : w.heap[b]? = some (.cells cs 103)
theorem pr_start {w : World} {b : Nat} {cs : Array Value} (h : w.heap[b]? = some (.cells cs 103)) : Pr w b cs w := ⟨Keeps.refl w b, h⟩
theorem Pr.then {w0 w w' : World} {b : Nat} {cs cs' : Array Value} (h : Pr w0 b cs w) (k : Pr w b cs' w') : Pr w0 b cs' w' := ⟨h.keep.trans k.keep, k.row⟩
theorem Pr.drew {w0 w : World} {b : Nat} {cs : Array Value} (h : Pr w0 b cs w) (n : Nat) : Pr w0 b cs (w.drewN n) := ⟨⟨h.keep.os, h.keep.tape, h.keep.output, h.keep.size, h.keep.block⟩, h.row⟩
theorem Pr.at {w0 w : World} {b : Nat} {cs : Array Value} (h : Pr w0 b cs w) {k : Nat} {v : Value} (hv : cs[k]? = some v) : w.cell? ⟨b, k, none⟩ = some v := by
  rw [cell_of_row _ _ _ _ _ _ h.row, hv]
theorem Pr.frozen {w0 w : World} {b : Nat} {cs : Array Value} (h : Pr w0 b cs w) (k : Nat) : w.frozen? ⟨b, k, none⟩ = false := frozen_of_row _ _ _ _ _ h.row
theorem Pr.set {w0 w : World} {b : Nat} {cs : Array Value} (h : Pr w0 b cs w) (k : Nat) (v : Value) : Pr w0 b (cs.setIfInBounds k v) (w.setCell ⟨b, k, none⟩ v) := by
  refine ⟨h.keep.trans ⟨rfl, rfl, rfl, by simp [World.setCell], fun j hj _ => heap_setCell_other _ _ _ _ hj⟩, heap_setCell_same _ _ _ _ _ _ h.row⟩

/-- A value read from a cell that is there. -/
theorem wpList_load_at {P : Program} {ops : Array Oper} {rest : List Oper} {o : Oper} {a : Act} {w : World} {Q : Exit → Act → World → Prop} (hw : Region.wanted o (yielded ops a.tmps) = true) (ty : TypeId) (x : Operand) (ho : o.op = .load ty x)
    (g j : Nat) (hx : a.eval x = .pointer (some ⟨g, j, none⟩)) (v : Value) (hc : w.cell? ⟨g, j, none⟩ = some v) (d : TypeDesc) (hu : P.underlying ty = some d) (hd : (match d with | .struct _ | .array _ _ => true | _ => false) = false)
    (h : wpList P ops Q rest (a.put o.dst v) w) : wpList P ops Q (o :: rest) a w := by
  refine BigFrame.wpList_want hw fun K hK => ?_
  unfold Oper.wp execOp
  have hl : (loadVar ty ⟨g, j, none⟩).run P w = .ok v w := by
    have ha : (isAgg ty).run P w = .ok false w := by
      unfold isAgg
      rw [Sem.run_bind, run_underlying hu w]
      cases d <;> simp_all
    go_simp
  simp only [ho, hx, Instr.loadAt, Instr.sureAddr, Sem.run_bind, Sem.run_pure, Result.andThen_ok, hl]
  exact hK _ _ h
/-- A value laid into a cell that is there. -/
theorem wpList_store_at {P : Program} {ops : Array Oper} {rest : List Oper} {o : Oper} {a : Act} {w : World} {Q : Exit → Act → World → Prop} (hgd : o.guard = none) (ty : TypeId) (x y : Operand) (ho : o.op = .store ty x y)
    (g j : Nat) (v : Value) (hx : a.eval x = .pointer (some ⟨g, j, none⟩)) (hy : a.eval y = v) (hv : v.cells = #[v]) (h1 : v.oneCell' = true) (old : Value) (hc : w.cell? ⟨g, j, none⟩ = some old) (hf : w.frozen? ⟨g, j, none⟩ = false) (hi : (P.info? ty).map (·.size) = some 1)
    (h : wpList P ops Q rest (a.put o.dst undef) (w.setCell ⟨g, j, none⟩ v)) : wpList P ops Q (o :: rest) a w := by
  refine wpList_plain hgd fun K hK => ?_
  unfold Oper.wp execOp
  have hs : (storeVar ty ⟨g, j, none⟩ v).run P w = .ok () (w.setCell ⟨g, j, none⟩ v) := by
    cases hq : P.info? ty with
    | none => simp [hq] at hi
    | some i =>
      have hs : i.size = 1 := by simpa [hq] using hi
      have hadd : (⟨g, j, none⟩ : Addr).add 0 = ⟨g, j, none⟩ := by unfold Addr.add; split <;> simp_all
      have hst : (store ⟨g, j, none⟩ v .plain).run P w = .ok () (w.setCell ⟨g, j, none⟩ v) := by
        rw [run_store P w _ _ _ h1, hc, hf]; rfl
      simp [storeVar, sizeOf, typeInfo, hq, hs, hv, storeCells, hadd, hst]
  simp only [ho, hx, hy, Instr.storeAt, Instr.sureAddr, Sem.run_bind, Sem.run_pure, Result.andThen_ok, hs]
  exact hK _ _ h

def lowV (n m : Int) : Int := fieldV (n % 4294967296) 0 m
def crossW (lay : Bool) (W n a m : Int) : Int := bif lay then putV W a m (lowV n m) else W
def crossG (lay : Bool) (W n a m : Int) : Int := fieldV (crossW lay W n a m) a m
def W32 (W : Int) : Prop := 0 ≤ W ∧ W < 4294967296
theorem put_lt (word a m value : Int) : W32 (putV word a m value) := by
  unfold putV W32
  split
  · have := orBits_lt (putBit word a m value) 32
    omega
  · omega
theorem field_lt {word a m : Int} (h : W32 word) : W32 (fieldV word a m) := by
  unfold fieldV W32
  split
  · have h1 := h.1; have h2 := h.2
    have : word.toNat / 2 ^ a.toNat % 2 ^ m.toNat ≤ word.toNat := Nat.le_trans (Nat.mod_le _ _) (Nat.div_le_self _ _)
    omega
  · omega
theorem low_lt (n m : Int) : W32 (lowV n m) := field_lt ⟨Int.emod_nonneg _ (by decide), Int.emod_lt_of_pos _ (by decide)⟩
theorem cross_lt {lay : Bool} {W n a m : Int} (h : W32 W) : W32 (crossW lay W n a m) := by
  cases lay
  · exact h
  · exact put_lt _ _ _ _
theorem got_lt {lay : Bool} {W n a m : Int} (h : W32 W) : W32 (crossG lay W n a m) := field_lt (cross_lt h)
theorem set_same' {cs : Array Value} {k : Nat} {v : Value} (h : cs[k]? = some v) : cs.setIfInBounds k v = cs := by
  apply Array.ext_getElem?
  intro j
  rw [Array.getElem?_setIfInBounds]
  split
  · rename_i e; subst e
    rw [if_pos (Array.getElem?_eq_some_iff.1 h).1, h]
  · rfl
theorem set_at {cs : Array Value} {k : Nat} {u v : Value} (h : cs[k]? = some u) : (cs.setIfInBounds k v)[k]? = some v := by
  rw [Array.getElem?_setIfInBounds_self, if_pos (Array.getElem?_eq_some_iff.1 h).1]
theorem set_ne' {cs : Array Value} {k j : Nat} {v : Value} (h : k ≠ j) : (cs.setIfInBounds k v)[j]? = cs[j]? := Array.getElem?_setIfInBounds_ne h
theorem i64_of_w32 {x : Int} (h : W32 x) : wrap64 x = x := by
  obtain ⟨h0, h1⟩ := h
  unfold wrap64; omega

set_option maxHeartbeats 1000000 in
theorem cross_c (b : Nat) (cs : Array Value) (W : Int) (lay : Bool) (n a m : Int) (h0 : cs[0]? = some (.int .u32 W)) (h17 : cs[17]? = some (.bool lay)) (hW : Hid (W32 W)) (w : World) (hp : w.heap[b]? = some (.cells cs 103)) :
    Calls Tryz.prog 169 #[.pointer (some ⟨b, 0, none⟩), .int .i64 n, .int .i64 a, .int .i64 m] w fun e w' => e = .returned (.int .i64 (crossG lay W n a m)) ∧ Pr w b (cs.setIfInBounds 0 (.int .u32 (crossW lay W n a m))) w' := by
  have H := pr_start hp
  have hG : Hid (wrap64 (crossG lay W n a m) = crossG lay W n a m) := i64_of_w32 (got_lt hW.out)
  have hL : Hid (W32 (crossW lay W n a m)) := cross_lt hW.out
  cases lay with
  | false =>
    have c17 := H.at h17
    have c0 := H.at h0
    go_enter Tryz.func169, Tryz.ntmps169
    go_wp2_with (go_at_call 214; refine (field_c _ _ _ hW _).mono ?_; rintro e w1 ⟨rfl, k1, rfl⟩)
    go_ret
    refine ⟨ret_int ?_, ?_⟩
    · exact hG.out
    show Pr w b (cs.setIfInBounds 0 (.int .u32 W)) _
    rw [set_same' h0]
    exact H.drew _
  | true =>
    have c17 := H.at h17
    have c0 := H.at h0
    have fz := H.frozen 0
    have hN : Hid (W32 (n % 4294967296)) := ⟨Int.emod_nonneg _ (by decide), Int.emod_lt_of_pos _ (by decide)⟩
    have hV : Hid (W32 (lowV n m)) := low_lt n m
    go_enter Tryz.func169, Tryz.ntmps169
    go_upto_region 4 with (first | (go_at_call 214; refine (field_c _ _ _ hN _).mono ?_; rintro e w1 ⟨rfl, k1, rfl⟩) | (go_at_call 215; refine (put_c _ _ _ _ hW hV _).mono ?_; rintro e w1 ⟨rfl, k2, rfl⟩))
    replace H := (H.drew (k1 + k2)).set 0 (.int .u32 (putV W a m (lowV n m)))
    generalize (w.drewN (k1 + k2)).setCell _ _ = w3 at H ⊢
    clear c0 c17 fz
    have c0 := H.at (set_at h0)
    have hL2 : Hid (W32 (putV W a m (lowV n m))) := put_lt _ _ _ _
    go_wp2_with (go_at_call 214; refine (field_c _ _ _ hL2 _).mono ?_; rintro e w1 ⟨rfl, k3, rfl⟩)
    go_ret
    refine ⟨ret_int ?_, H.drew _⟩
    exact hG.out
/-- One step of a walk over a pair: its number, laid or taken. -/
def numW (lay : Bool) (W n u a m : Int) : Int := crossW lay W (n.tdiv u) a m
def numG (lay : Bool) (W n u a m : Int) : Int := crossG lay W (n.tdiv u) a m * u
set_option maxHeartbeats 1000000 in
theorem number_c (b : Nat) (cs : Array Value) (W : Int) (lay : Bool) (k : Nat) (n u a m : Int) (hk : 0 ≠ k) (h0 : cs[0]? = some (.int .u32 W)) (h17 : cs[17]? = some (.bool lay)) (hn : cs[k]? = some (.int .i64 n)) (hW : Hid (W32 W))
    (hu : 1 ≤ u) (hu2 : u ≤ 4096) (hd : wrap64 (n.tdiv u) = n.tdiv u) (hq : wrap64 (crossG lay W (n.tdiv u) a m * u) = crossG lay W (n.tdiv u) a m * u) (w : World) (hp : w.heap[b]? = some (.cells cs 103)) :
    Calls Tryz.prog 162 #[.pointer (some ⟨b, 0, none⟩), .pointer (some ⟨b, k, none⟩), .int .i64 u, .int .i64 a, .int .i64 m] w fun e w' => e = .returned (.tuple #[]) ∧ Pr w b ((cs.setIfInBounds 0 (.int .u32 (numW lay W n u a m))).setIfInBounds k (.int .i64 (numG lay W n u a m))) w' := by
  have H := pr_start hp
  have ck := H.at hn
  go_enter Tryz.func162, Tryz.ntmps162
  go_wp2_with (go_at_call 169; refine (cross_c b cs W lay _ _ _ h0 h17 hW _ hp).mono ?_; rintro e w1 ⟨rfl, H1⟩; refine Hid.out ?_)
  unfold Hid
  have c2 := H1.at ((set_ne' hk).trans hn)
  have fz := H1.frozen k
  go_wp2
  go_end0
  exact ⟨rfl, H1.set k _⟩
set_option maxHeartbeats 1000000 in
theorem register_c (b : Nat) (cs : Array Value) (W : Int) (lay : Bool) (k : Nat) (n a : Int) (hk : 0 ≠ k) (h0 : cs[0]? = some (.int .u32 W)) (h17 : cs[17]? = some (.bool lay)) (hn : cs[k]? = some (.int .i64 n)) (hW : Hid (W32 W))
    (hd : wrap64 (n.tdiv 1) = n.tdiv 1) (hq : wrap64 (crossG lay W (n.tdiv 1) a 5 * 1) = crossG lay W (n.tdiv 1) a 5 * 1) (w : World) (hp : w.heap[b]? = some (.cells cs 103)) :
    Calls Tryz.prog 168 #[.pointer (some ⟨b, 0, none⟩), .pointer (some ⟨b, k, none⟩), .int .i64 a] w fun e w' => e = .returned (.tuple #[]) ∧ Pr w b ((cs.setIfInBounds 0 (.int .u32 (numW lay W n 1 a 5))).setIfInBounds k (.int .i64 (numG lay W n 1 a 5))) w' := by
  go_enter Tryz.func168, Tryz.ntmps168
  go_wp2_with (go_at_call 162; refine (number_c b cs W lay k n 1 a 5 hk h0 h17 hn hW (by decide) (by decide) hd hq _ hp).mono ?_; rintro e w1 ⟨rfl, H1⟩)
  go_end0
  exact ⟨rfl, H1⟩
def boolI (x : Bool) : Int := bif x then 1 else 0
set_option maxHeartbeats 1000000 in
theorem sign_c (b : Nat) (cs : Array Value) (W : Int) (lay : Bool) (k : Nat) (x : Bool) (a : Int) (hk : 0 ≠ k) (h0 : cs[0]? = some (.int .u32 W)) (h17 : cs[17]? = some (.bool lay)) (hn : cs[k]? = some (.bool x)) (hW : Hid (W32 W)) (w : World) (hp : w.heap[b]? = some (.cells cs 103)) :
    Calls Tryz.prog 165 #[.pointer (some ⟨b, 0, none⟩), .pointer (some ⟨b, k, none⟩), .int .i64 a] w fun e w' => e = .returned (.tuple #[]) ∧ Pr w b ((cs.setIfInBounds 0 (.int .u32 (crossW lay W (boolI x) a 1))).setIfInBounds k (.bool (crossG lay W (boolI x) a 1 == 1))) w' := by
  have H := pr_start hp
  have ck := H.at hn
  cases x
  all_goals
    go_enter Tryz.func165, Tryz.ntmps165
    go_wp2_with (go_at_call 169; refine (cross_c b cs W lay _ _ _ h0 h17 hW _ hp).mono ?_; rintro e w1 ⟨rfl, H1⟩; refine Hid.out ?_)
    unfold Hid
    have c2 := H1.at ((set_ne' hk).trans hn)
    have fz := H1.frozen k
    go_wp2
    go_end0
    exact ⟨rfl, H1.set k _⟩
end Go.Proofs.YtbjcdpmhmebjnaaGreat
/- The fields of a form, crossed one by one: states, and the contracts of the functions of package code that cross them. -/
namespace Go.Proofs.YtbjcdpmhmebjnaaGreat
open Go.RowKit

abbrev St := Int × Ins
inductive Fl | sub | rd | rn | rm | ra | imm | imm2 | amount | shift | cond | sys
inductive Bl | flags | minus | not | link
def Fl.get : Fl → Ins → Int
  | .sub, i => i.sub
  | .rd, i => i.rd
  | .rn, i => i.rn
  | .rm, i => i.rm
  | .ra, i => i.ra
  | .imm, i => i.imm
  | .imm2, i => i.imm2
  | .amount, i => i.amount
  | .shift, i => i.shift
  | .cond, i => i.cond
  | .sys, i => i.sys
def Fl.set : Fl → Int → Ins → Ins
  | .sub, n, i => { i with sub := n }
  | .rd, n, i => { i with rd := n }
  | .rn, n, i => { i with rn := n }
  | .rm, n, i => { i with rm := n }
  | .ra, n, i => { i with ra := n }
  | .imm, n, i => { i with imm := n }
  | .imm2, n, i => { i with imm2 := n }
  | .amount, n, i => { i with amount := n }
  | .shift, n, i => { i with shift := n }
  | .cond, n, i => { i with cond := n }
  | .sys, n, i => { i with sys := n }
def Fl.ix : Fl → Nat
  | .sub => 2
  | .rd => 3
  | .rn => 4
  | .rm => 5
  | .ra => 6
  | .imm => 7
  | .imm2 => 8
  | .amount => 9
  | .shift => 10
  | .cond => 11
  | .sys => 12
def Bl.get : Bl → Ins → Bool
  | .flags, i => i.flags
  | .minus, i => i.minus
  | .not, i => i.not
  | .link, i => i.link
def Bl.set : Bl → Bool → Ins → Ins
  | .flags, n, i => { i with flags := n }
  | .minus, n, i => { i with minus := n }
  | .not, n, i => { i with not := n }
  | .link, n, i => { i with link := n }
def Bl.ix : Bl → Nat
  | .flags => 13
  | .minus => 14
  | .not => 15
  | .link => 16
def pairS (s : St) (lay : Bool) : Array Value := #[.int .u32 s.1, .int .i64 s.2.op, .int .i64 s.2.sub, .int .i64 s.2.rd, .int .i64 s.2.rn, .int .i64 s.2.rm, .int .i64 s.2.ra, .int .i64 s.2.imm, .int .i64 s.2.imm2, .int .i64 s.2.amount, .int .i64 s.2.shift, .int .i64 s.2.cond, .int .i64 s.2.sys, .bool s.2.flags, .bool s.2.minus, .bool s.2.not, .bool s.2.link, .bool lay]
theorem pair_0 (s : St) (lay : Bool) : (pairS s lay)[0]? = some (.int .u32 s.1) := rfl
theorem pair_17 (s : St) (lay : Bool) : (pairS s lay)[17]? = some (.bool lay) := rfl
theorem pair_f (k : Fl) (s : St) (lay : Bool) : (pairS s lay)[k.ix]? = some (.int .i64 (k.get s.2)) := by cases k <;> rfl
theorem pair_b (k : Bl) (s : St) (lay : Bool) : (pairS s lay)[k.ix]? = some (.bool (k.get s.2)) := by cases k <;> rfl
theorem pair_s0 (s : St) (lay : Bool) (W : Int) : (pairS s lay).setIfInBounds 0 (.int .u32 W) = pairS (W, s.2) lay := rfl
theorem pair_sf (k : Fl) (s : St) (lay : Bool) (n : Int) : (pairS s lay).setIfInBounds k.ix (.int .i64 n) = pairS (s.1, k.set n s.2) lay := by cases k <;> rfl
theorem pair_sb (k : Bl) (s : St) (lay : Bool) (n : Bool) : (pairS s lay).setIfInBounds k.ix (.bool n) = pairS (s.1, k.set n s.2) lay := by cases k <;> rfl

def I64 (n : Int) : Prop := -9223372036854775808 ≤ n ∧ n < 9223372036854775808
structure Ok (s : St) : Prop where
  w : W32 s.1
  f : ∀ k : Fl, I64 (k.get s.2)
theorem ok_word {s : St} (h : Ok s) {W : Int} (hW : W32 W) : Ok (W, s.2) := ⟨hW, h.f⟩
theorem ok_set {s : St} (h : Ok s) (k : Fl) {n : Int} (hn : I64 n) : Ok (s.1, k.set n s.2) := by
  refine ⟨h.w, fun j => ?_⟩
  have hj := h.f j
  cases k <;> cases j <;> first | exact hn | exact hj
theorem ok_setB {s : St} (h : Ok s) (k : Bl) (n : Bool) : Ok (s.1, k.set n s.2) := by
  refine ⟨h.w, fun j => ?_⟩
  have hj := h.f j
  cases k <;> cases j <;> exact hj
theorem wrap_i64 {n : Int} (h : I64 n) : wrap64 n = n := by
  obtain ⟨h0, h1⟩ := h
  unfold wrap64; omega
theorem tdiv_in {n u : Int} (h : I64 n) (hu : 1 ≤ u) : I64 (n.tdiv u) := by
  obtain ⟨h0, h1⟩ := h
  have h2 := Int.natAbs_tdiv_le_natAbs n u
  by_cases hn : 0 ≤ n
  · have := Int.tdiv_nonneg hn (show 0 ≤ u by omega)
    exact ⟨by omega, by omega⟩
  · have h3 := Int.tdiv_nonneg (show 0 ≤ -n by omega) (show 0 ≤ u by omega)
    rw [Int.neg_tdiv] at h3
    exact ⟨by omega, by omega⟩
theorem mul_in {g u : Int} (h : W32 g) (h1 : 1 ≤ u) (h2 : u ≤ 4096) : I64 (g * u) := by
  obtain ⟨g0, g1⟩ := h
  have a := Int.mul_nonneg g0 (show 0 ≤ u by omega)
  have b := Int.mul_le_mul (show g ≤ 4294967296 by omega) h2 (by omega) (by omega)
  exact ⟨by omega, by omega⟩

abbrev Tr := Bool → St → St
def numT (k : Fl) (u a m : Int) : Tr := fun lay s => (numW lay s.1 (k.get s.2) u a m, k.set (numG lay s.1 (k.get s.2) u a m) s.2)
def sgnT (k : Bl) (a : Int) : Tr := fun lay s => (crossW lay s.1 (boolI (k.get s.2)) a 1, k.set (crossG lay s.1 (boolI (k.get s.2)) a 1 == 1) s.2)
def thenT (f g : Tr) : Tr := fun lay s => g lay (f lay s)
def OkT (f : Tr) : Prop := ∀ lay s, Ok s → Ok (f lay s)
theorem ok_then {f g : Tr} (hf : OkT f) (hg : OkT g) : OkT (thenT f g) := fun lay s h => hg lay _ (hf lay s h)
theorem ok_num (k : Fl) (u a m : Int) (h1 : 1 ≤ u) (h2 : u ≤ 4096) : OkT (numT k u a m) := fun _ _ h =>
  ok_set (ok_word h (cross_lt h.w)) k (mul_in (got_lt h.w) h1 h2)
theorem ok_sgn (k : Bl) (a : Int) : OkT (sgnT k a) := fun _ _ h => ok_setB (ok_word h (cross_lt h.w)) k _

theorem number_t (k : Fl) (u a m : Int) (h1 : 1 ≤ u) (h2 : u ≤ 4096) (b : Nat) (s : St) (lay : Bool) (h : Ok s) (w : World) (hp : w.heap[b]? = some (.cells (pairS s lay) 103)) :
    Calls Tryz.prog 162 #[.pointer (some ⟨b, 0, none⟩), .pointer (some ⟨b, k.ix, none⟩), .int .i64 u, .int .i64 a, .int .i64 m] w fun e w' => e = .returned (.tuple #[]) ∧ Pr w b (pairS (numT k u a m lay s) lay) w' := by
  have := number_c b (pairS s lay) s.1 lay k.ix (k.get s.2) u a m (by cases k <;> decide) (pair_0 s lay) (pair_17 s lay) (pair_f k s lay) h.w h1 h2 (wrap_i64 (tdiv_in (h.f k) h1)) (wrap_i64 (mul_in (got_lt h.w) h1 h2)) w hp
  rw [pair_s0, pair_sf k] at this
  exact this
theorem register_t (k : Fl) (a : Int) (b : Nat) (s : St) (lay : Bool) (h : Ok s) (w : World) (hp : w.heap[b]? = some (.cells (pairS s lay) 103)) :
    Calls Tryz.prog 168 #[.pointer (some ⟨b, 0, none⟩), .pointer (some ⟨b, k.ix, none⟩), .int .i64 a] w fun e w' => e = .returned (.tuple #[]) ∧ Pr w b (pairS (numT k 1 a 5 lay s) lay) w' := by
  have := register_c b (pairS s lay) s.1 lay k.ix (k.get s.2) a (by cases k <;> decide) (pair_0 s lay) (pair_17 s lay) (pair_f k s lay) h.w (wrap_i64 (tdiv_in (h.f k) (by decide))) (wrap_i64 (mul_in (got_lt h.w) (by decide) (by decide))) w hp
  rw [pair_s0, pair_sf k] at this
  exact this
theorem sign_t (k : Bl) (a : Int) (b : Nat) (s : St) (lay : Bool) (h : Ok s) (w : World) (hp : w.heap[b]? = some (.cells (pairS s lay) 103)) :
    Calls Tryz.prog 165 #[.pointer (some ⟨b, 0, none⟩), .pointer (some ⟨b, k.ix, none⟩), .int .i64 a] w fun e w' => e = .returned (.tuple #[]) ∧ Pr w b (pairS (sgnT k a lay s) lay) w' := by
  have := sign_c b (pairS s lay) s.1 lay k.ix (k.get s.2) a (by cases k <;> decide) (pair_0 s lay) (pair_17 s lay) (pair_b k s lay) h.w w hp
  rw [pair_s0, pair_sb k] at this
  exact this
/-- What a function makes of a pair. -/
def FC (f : Nat) (t : Tr) : Prop := ∀ (b : Nat) (s : St) (lay : Bool) (w : World), Ok s → w.heap[b]? = some (.cells (pairS s lay) 103) →
  Calls Tryz.prog f #[.pointer (some ⟨b, 0, none⟩)] w fun e w' => e = .returned (.tuple #[]) ∧ Pr w b (pairS (t lay s) lay) w'
def rdT : Tr := numT .rd 1 0 5
theorem rd_ok : OkT rdT := ok_num .rd 1 0 5 (by decide) (by decide)
set_option maxHeartbeats 1000000 in
theorem rd_c : FC 87 rdT := by
  intro b s lay w O hp
  have H := pr_start hp
  go_enter Tryz.func87, Tryz.ntmps87
  go_wp2_with (go_at_call 168; refine (register_t .rd 0 b _ lay O _ H.row).mono ?_; rintro e w1 ⟨rfl, H1⟩; replace H := H.then H1; replace O := (ok_num .rd 1 0 5 (by decide) (by decide)) lay _ O; clear H1; dsimp only)
  go_end0
  exact ⟨rfl, H⟩
def rdRnT : Tr := thenT (numT .rn 1 5 5) (rdT)
theorem rdRn_ok : OkT rdRnT := ok_then (ok_num .rn 1 5 5 (by decide) (by decide)) (rd_ok)
set_option maxHeartbeats 1000000 in
theorem rdRn_c : FC 82 rdRnT := by
  intro b s lay w O hp
  have H := pr_start hp
  go_enter Tryz.func82, Tryz.ntmps82
  go_upto_region 1 with (go_at_call 168; refine (register_t .rn 5 b _ lay O _ H.row).mono ?_; rintro e w1 ⟨rfl, H1⟩; replace H := H.then H1; replace O := (ok_num .rn 1 5 5 (by decide) (by decide)) lay _ O; clear H1; dsimp only)
  go_wp2_with (go_at_call 87; refine (rd_c b _ lay _ O H.row).mono ?_; rintro e w1 ⟨rfl, H1⟩; replace H := H.then H1; replace O := rd_ok lay _ O; clear H1; dsimp only)
  go_end0
  exact ⟨rfl, H⟩
def rdRnRmT : Tr := thenT (numT .rm 1 16 5) (rdRnT)
theorem rdRnRm_ok : OkT rdRnRmT := ok_then (ok_num .rm 1 16 5 (by decide) (by decide)) (rdRn_ok)
set_option maxHeartbeats 1000000 in
theorem rdRnRm_c : FC 167 rdRnRmT := by
  intro b s lay w O hp
  have H := pr_start hp
  go_enter Tryz.func167, Tryz.ntmps167
  go_upto_region 1 with (go_at_call 168; refine (register_t .rm 16 b _ lay O _ H.row).mono ?_; rintro e w1 ⟨rfl, H1⟩; replace H := H.then H1; replace O := (ok_num .rm 1 16 5 (by decide) (by decide)) lay _ O; clear H1; dsimp only)
  go_wp2_with (go_at_call 82; refine (rdRn_c b _ lay _ O H.row).mono ?_; rintro e w1 ⟨rfl, H1⟩; replace H := H.then H1; replace O := rdRn_ok lay _ O; clear H1; dsimp only)
  go_end0
  exact ⟨rfl, H⟩
def sumT : Tr := thenT (sgnT .minus 30) (sgnT .flags 29)
theorem sum_ok : OkT sumT := ok_then (ok_sgn .minus 30) (ok_sgn .flags 29)
set_option maxHeartbeats 1000000 in
theorem sum_c : FC 161 sumT := by
  intro b s lay w O hp
  have H := pr_start hp
  go_enter Tryz.func161, Tryz.ntmps161
  go_upto_region 1 with (go_at_call 165; refine (sign_t .minus 30 b _ lay O _ H.row).mono ?_; rintro e w1 ⟨rfl, H1⟩; replace H := H.then H1; replace O := (ok_sgn .minus 30) lay _ O; clear H1; dsimp only)
  go_wp2_with (go_at_call 165; refine (sign_t .flags 29 b _ lay O _ H.row).mono ?_; rintro e w1 ⟨rfl, H1⟩; replace H := H.then H1; replace O := (ok_sgn .flags 29) lay _ O; clear H1; dsimp only)
  go_end0
  exact ⟨rfl, H⟩
def shiftedT : Tr := thenT (numT .shift 1 22 2) (thenT (numT .amount 1 10 6) (rdRnRmT))
theorem shifted_ok : OkT shiftedT := ok_then (ok_num .shift 1 22 2 (by decide) (by decide)) (ok_then (ok_num .amount 1 10 6 (by decide) (by decide)) (rdRnRm_ok))
set_option maxHeartbeats 1000000 in
theorem shifted_c : FC 163 shiftedT := by
  intro b s lay w O hp
  have H := pr_start hp
  go_enter Tryz.func163, Tryz.ntmps163
  go_upto_region 1 with (go_at_call 162; refine (number_t .shift 1 22 2 (by decide) (by decide) b _ lay O _ H.row).mono ?_; rintro e w1 ⟨rfl, H1⟩; replace H := H.then H1; replace O := (ok_num .shift 1 22 2 (by decide) (by decide)) lay _ O; clear H1; dsimp only)
  go_upto_region 2 with (go_at_call 162; refine (number_t .amount 1 10 6 (by decide) (by decide) b _ lay O _ H.row).mono ?_; rintro e w1 ⟨rfl, H1⟩; replace H := H.then H1; replace O := (ok_num .amount 1 10 6 (by decide) (by decide)) lay _ O; clear H1; dsimp only)
  go_wp2_with (go_at_call 167; refine (rdRnRm_c b _ lay _ O H.row).mono ?_; rintro e w1 ⟨rfl, H1⟩; replace H := H.then H1; replace O := rdRnRm_ok lay _ O; clear H1; dsimp only)
  go_end0
  exact ⟨rfl, H⟩
def boundsT : Tr := thenT (numT .imm 1 16 6) (thenT (numT .imm2 1 10 6) (rdRnT))
theorem bounds_ok : OkT boundsT := ok_then (ok_num .imm 1 16 6 (by decide) (by decide)) (ok_then (ok_num .imm2 1 10 6 (by decide) (by decide)) (rdRn_ok))
set_option maxHeartbeats 1000000 in
theorem bounds_c : FC 166 boundsT := by
  intro b s lay w O hp
  have H := pr_start hp
  go_enter Tryz.func166, Tryz.ntmps166
  go_upto_region 1 with (go_at_call 162; refine (number_t .imm 1 16 6 (by decide) (by decide) b _ lay O _ H.row).mono ?_; rintro e w1 ⟨rfl, H1⟩; replace H := H.then H1; replace O := (ok_num .imm 1 16 6 (by decide) (by decide)) lay _ O; clear H1; dsimp only)
  go_upto_region 2 with (go_at_call 162; refine (number_t .imm2 1 10 6 (by decide) (by decide) b _ lay O _ H.row).mono ?_; rintro e w1 ⟨rfl, H1⟩; replace H := H.then H1; replace O := (ok_num .imm2 1 10 6 (by decide) (by decide)) lay _ O; clear H1; dsimp only)
  go_wp2_with (go_at_call 82; refine (rdRn_c b _ lay _ O H.row).mono ?_; rintro e w1 ⟨rfl, H1⟩; replace H := H.then H1; replace O := rdRn_ok lay _ O; clear H1; dsimp only)
  go_end0
  exact ⟨rfl, H⟩
def addImmT : Tr := thenT (sumT) (thenT (numT .amount 12 22 1) (thenT (numT .imm 1 10 12) (rdRnT)))
theorem addImm_ok : OkT addImmT := ok_then (sum_ok) (ok_then (ok_num .amount 12 22 1 (by decide) (by decide)) (ok_then (ok_num .imm 1 10 12 (by decide) (by decide)) (rdRn_ok)))
set_option maxHeartbeats 1000000 in
theorem addImm_c : FC 64 addImmT := by
  intro b s lay w O hp
  have H := pr_start hp
  go_enter Tryz.func64, Tryz.ntmps64
  go_upto_region 1 with (go_at_call 161; refine (sum_c b _ lay _ O H.row).mono ?_; rintro e w1 ⟨rfl, H1⟩; replace H := H.then H1; replace O := sum_ok lay _ O; clear H1; dsimp only)
  go_upto_region 2 with (go_at_call 162; refine (number_t .amount 12 22 1 (by decide) (by decide) b _ lay O _ H.row).mono ?_; rintro e w1 ⟨rfl, H1⟩; replace H := H.then H1; replace O := (ok_num .amount 12 22 1 (by decide) (by decide)) lay _ O; clear H1; dsimp only)
  go_upto_region 3 with (go_at_call 162; refine (number_t .imm 1 10 12 (by decide) (by decide) b _ lay O _ H.row).mono ?_; rintro e w1 ⟨rfl, H1⟩; replace H := H.then H1; replace O := (ok_num .imm 1 10 12 (by decide) (by decide)) lay _ O; clear H1; dsimp only)
  go_wp2_with (go_at_call 82; refine (rdRn_c b _ lay _ O H.row).mono ?_; rintro e w1 ⟨rfl, H1⟩; replace H := H.then H1; replace O := rdRn_ok lay _ O; clear H1; dsimp only)
  go_end0
  exact ⟨rfl, H⟩
def addRegT : Tr := thenT (sumT) (shiftedT)
theorem addReg_ok : OkT addRegT := ok_then (sum_ok) (shifted_ok)
set_option maxHeartbeats 1000000 in
theorem addReg_c : FC 65 addRegT := by
  intro b s lay w O hp
  have H := pr_start hp
  go_enter Tryz.func65, Tryz.ntmps65
  go_upto_region 1 with (go_at_call 161; refine (sum_c b _ lay _ O H.row).mono ?_; rintro e w1 ⟨rfl, H1⟩; replace H := H.then H1; replace O := sum_ok lay _ O; clear H1; dsimp only)
  go_wp2_with (go_at_call 163; refine (shifted_c b _ lay _ O H.row).mono ?_; rintro e w1 ⟨rfl, H1⟩; replace H := H.then H1; replace O := shifted_ok lay _ O; clear H1; dsimp only)
  go_end0
  exact ⟨rfl, H⟩
def movWideT : Tr := thenT (numT .sub 1 29 2) (thenT (numT .amount 16 21 2) (thenT (numT .imm 1 5 16) (rdT)))
theorem movWide_ok : OkT movWideT := ok_then (ok_num .sub 1 29 2 (by decide) (by decide)) (ok_then (ok_num .amount 16 21 2 (by decide) (by decide)) (ok_then (ok_num .imm 1 5 16 (by decide) (by decide)) (rd_ok)))
set_option maxHeartbeats 1000000 in
theorem movWide_c : FC 68 movWideT := by
  intro b s lay w O hp
  have H := pr_start hp
  go_enter Tryz.func68, Tryz.ntmps68
  go_upto_region 1 with (go_at_call 162; refine (number_t .sub 1 29 2 (by decide) (by decide) b _ lay O _ H.row).mono ?_; rintro e w1 ⟨rfl, H1⟩; replace H := H.then H1; replace O := (ok_num .sub 1 29 2 (by decide) (by decide)) lay _ O; clear H1; dsimp only)
  go_upto_region 2 with (go_at_call 162; refine (number_t .amount 16 21 2 (by decide) (by decide) b _ lay O _ H.row).mono ?_; rintro e w1 ⟨rfl, H1⟩; replace H := H.then H1; replace O := (ok_num .amount 16 21 2 (by decide) (by decide)) lay _ O; clear H1; dsimp only)
  go_upto_region 3 with (go_at_call 162; refine (number_t .imm 1 5 16 (by decide) (by decide) b _ lay O _ H.row).mono ?_; rintro e w1 ⟨rfl, H1⟩; replace H := H.then H1; replace O := (ok_num .imm 1 5 16 (by decide) (by decide)) lay _ O; clear H1; dsimp only)
  go_wp2_with (go_at_call 87; refine (rd_c b _ lay _ O H.row).mono ?_; rintro e w1 ⟨rfl, H1⟩; replace H := H.then H1; replace O := rd_ok lay _ O; clear H1; dsimp only)
  go_end0
  exact ⟨rfl, H⟩
def bitfieldT : Tr := thenT (numT .sub 1 29 2) (boundsT)
theorem bitfield_ok : OkT bitfieldT := ok_then (ok_num .sub 1 29 2 (by decide) (by decide)) (bounds_ok)
set_option maxHeartbeats 1000000 in
theorem bitfield_c : FC 69 bitfieldT := by
  intro b s lay w O hp
  have H := pr_start hp
  go_enter Tryz.func69, Tryz.ntmps69
  go_upto_region 1 with (go_at_call 162; refine (number_t .sub 1 29 2 (by decide) (by decide) b _ lay O _ H.row).mono ?_; rintro e w1 ⟨rfl, H1⟩; replace H := H.then H1; replace O := (ok_num .sub 1 29 2 (by decide) (by decide)) lay _ O; clear H1; dsimp only)
  go_wp2_with (go_at_call 166; refine (bounds_c b _ lay _ O H.row).mono ?_; rintro e w1 ⟨rfl, H1⟩; replace H := H.then H1; replace O := bounds_ok lay _ O; clear H1; dsimp only)
  go_end0
  exact ⟨rfl, H⟩
def shiftRegT : Tr := thenT (numT .sub 1 10 2) (rdRnRmT)
theorem shiftReg_ok : OkT shiftRegT := ok_then (ok_num .sub 1 10 2 (by decide) (by decide)) (rdRnRm_ok)
set_option maxHeartbeats 1000000 in
theorem shiftReg_c : FC 70 shiftRegT := by
  intro b s lay w O hp
  have H := pr_start hp
  go_enter Tryz.func70, Tryz.ntmps70
  go_upto_region 1 with (go_at_call 162; refine (number_t .sub 1 10 2 (by decide) (by decide) b _ lay O _ H.row).mono ?_; rintro e w1 ⟨rfl, H1⟩; replace H := H.then H1; replace O := (ok_num .sub 1 10 2 (by decide) (by decide)) lay _ O; clear H1; dsimp only)
  go_wp2_with (go_at_call 167; refine (rdRnRm_c b _ lay _ O H.row).mono ?_; rintro e w1 ⟨rfl, H1⟩; replace H := H.then H1; replace O := rdRnRm_ok lay _ O; clear H1; dsimp only)
  go_end0
  exact ⟨rfl, H⟩
def mulT : Tr := thenT (sgnT .minus 15) (thenT (numT .ra 1 10 5) (rdRnRmT))
theorem mul_ok : OkT mulT := ok_then (ok_sgn .minus 15) (ok_then (ok_num .ra 1 10 5 (by decide) (by decide)) (rdRnRm_ok))
set_option maxHeartbeats 1000000 in
theorem mul_c : FC 71 mulT := by
  intro b s lay w O hp
  have H := pr_start hp
  go_enter Tryz.func71, Tryz.ntmps71
  go_upto_region 1 with (go_at_call 165; refine (sign_t .minus 15 b _ lay O _ H.row).mono ?_; rintro e w1 ⟨rfl, H1⟩; replace H := H.then H1; replace O := (ok_sgn .minus 15) lay _ O; clear H1; dsimp only)
  go_upto_region 2 with (go_at_call 168; refine (register_t .ra 10 b _ lay O _ H.row).mono ?_; rintro e w1 ⟨rfl, H1⟩; replace H := H.then H1; replace O := (ok_num .ra 1 10 5 (by decide) (by decide)) lay _ O; clear H1; dsimp only)
  go_wp2_with (go_at_call 167; refine (rdRnRm_c b _ lay _ O H.row).mono ?_; rintro e w1 ⟨rfl, H1⟩; replace H := H.then H1; replace O := rdRnRm_ok lay _ O; clear H1; dsimp only)
  go_end0
  exact ⟨rfl, H⟩
def divT : Tr := thenT (numT .sub 1 10 1) (rdRnRmT)
theorem div_ok : OkT divT := ok_then (ok_num .sub 1 10 1 (by decide) (by decide)) (rdRnRm_ok)
set_option maxHeartbeats 1000000 in
theorem div_c : FC 72 divT := by
  intro b s lay w O hp
  have H := pr_start hp
  go_enter Tryz.func72, Tryz.ntmps72
  go_upto_region 1 with (go_at_call 162; refine (number_t .sub 1 10 1 (by decide) (by decide) b _ lay O _ H.row).mono ?_; rintro e w1 ⟨rfl, H1⟩; replace H := H.then H1; replace O := (ok_num .sub 1 10 1 (by decide) (by decide)) lay _ O; clear H1; dsimp only)
  go_wp2_with (go_at_call 167; refine (rdRnRm_c b _ lay _ O H.row).mono ?_; rintro e w1 ⟨rfl, H1⟩; replace H := H.then H1; replace O := rdRnRm_ok lay _ O; clear H1; dsimp only)
  go_end0
  exact ⟨rfl, H⟩
def brT : Tr := thenT (numT .sub 1 21 2) (numT .rn 1 5 5)
theorem br_ok : OkT brT := ok_then (ok_num .sub 1 21 2 (by decide) (by decide)) (ok_num .rn 1 5 5 (by decide) (by decide))
set_option maxHeartbeats 1000000 in
theorem br_c : FC 79 brT := by
  intro b s lay w O hp
  have H := pr_start hp
  go_enter Tryz.func79, Tryz.ntmps79
  go_upto_region 1 with (go_at_call 162; refine (number_t .sub 1 21 2 (by decide) (by decide) b _ lay O _ H.row).mono ?_; rintro e w1 ⟨rfl, H1⟩; replace H := H.then H1; replace O := (ok_num .sub 1 21 2 (by decide) (by decide)) lay _ O; clear H1; dsimp only)
  go_wp2_with (go_at_call 168; refine (register_t .rn 5 b _ lay O _ H.row).mono ?_; rintro e w1 ⟨rfl, H1⟩; replace H := H.then H1; replace O := (ok_num .rn 1 5 5 (by decide) (by decide)) lay _ O; clear H1; dsimp only)
  go_end0
  exact ⟨rfl, H⟩
def atImmT : Tr := thenT (numT .imm 8 10 12) (rdRnT)
theorem atImm_ok : OkT atImmT := ok_then (ok_num .imm 8 10 12 (by decide) (by decide)) (rdRn_ok)
set_option maxHeartbeats 1000000 in
theorem atImm_c : FC 80 atImmT := by
  intro b s lay w O hp
  have H := pr_start hp
  go_enter Tryz.func80, Tryz.ntmps80
  go_upto_region 1 with (go_at_call 162; refine (number_t .imm 8 10 12 (by decide) (by decide) b _ lay O _ H.row).mono ?_; rintro e w1 ⟨rfl, H1⟩; replace H := H.then H1; replace O := (ok_num .imm 8 10 12 (by decide) (by decide)) lay _ O; clear H1; dsimp only)
  go_wp2_with (go_at_call 82; refine (rdRn_c b _ lay _ O H.row).mono ?_; rintro e w1 ⟨rfl, H1⟩; replace H := H.then H1; replace O := rdRn_ok lay _ O; clear H1; dsimp only)
  go_end0
  exact ⟨rfl, H⟩
def atRegT : Tr := thenT (numT .amount 3 12 1) (rdRnRmT)
theorem atReg_ok : OkT atRegT := ok_then (ok_num .amount 3 12 1 (by decide) (by decide)) (rdRnRm_ok)
set_option maxHeartbeats 1000000 in
theorem atReg_c : FC 81 atRegT := by
  intro b s lay w O hp
  have H := pr_start hp
  go_enter Tryz.func81, Tryz.ntmps81
  go_upto_region 1 with (go_at_call 162; refine (number_t .amount 3 12 1 (by decide) (by decide) b _ lay O _ H.row).mono ?_; rintro e w1 ⟨rfl, H1⟩; replace H := H.then H1; replace O := (ok_num .amount 3 12 1 (by decide) (by decide)) lay _ O; clear H1; dsimp only)
  go_wp2_with (go_at_call 167; refine (rdRnRm_c b _ lay _ O H.row).mono ?_; rintro e w1 ⟨rfl, H1⟩; replace H := H.then H1; replace O := rdRnRm_ok lay _ O; clear H1; dsimp only)
  go_end0
  exact ⟨rfl, H⟩
def ldxrT : Tr := thenT (numT .sub 1 15 1) (rdRnT)
theorem ldxr_ok : OkT ldxrT := ok_then (ok_num .sub 1 15 1 (by decide) (by decide)) (rdRn_ok)
set_option maxHeartbeats 1000000 in
theorem ldxr_c : FC 83 ldxrT := by
  intro b s lay w O hp
  have H := pr_start hp
  go_enter Tryz.func83, Tryz.ntmps83
  go_upto_region 1 with (go_at_call 162; refine (number_t .sub 1 15 1 (by decide) (by decide) b _ lay O _ H.row).mono ?_; rintro e w1 ⟨rfl, H1⟩; replace H := H.then H1; replace O := (ok_num .sub 1 15 1 (by decide) (by decide)) lay _ O; clear H1; dsimp only)
  go_wp2_with (go_at_call 82; refine (rdRn_c b _ lay _ O H.row).mono ?_; rintro e w1 ⟨rfl, H1⟩; replace H := H.then H1; replace O := rdRn_ok lay _ O; clear H1; dsimp only)
  go_end0
  exact ⟨rfl, H⟩
def stxrT : Tr := thenT (numT .sub 1 15 1) (rdRnRmT)
theorem stxr_ok : OkT stxrT := ok_then (ok_num .sub 1 15 1 (by decide) (by decide)) (rdRnRm_ok)
set_option maxHeartbeats 1000000 in
theorem stxr_c : FC 84 stxrT := by
  intro b s lay w O hp
  have H := pr_start hp
  go_enter Tryz.func84, Tryz.ntmps84
  go_upto_region 1 with (go_at_call 162; refine (number_t .sub 1 15 1 (by decide) (by decide) b _ lay O _ H.row).mono ?_; rintro e w1 ⟨rfl, H1⟩; replace H := H.then H1; replace O := (ok_num .sub 1 15 1 (by decide) (by decide)) lay _ O; clear H1; dsimp only)
  go_wp2_with (go_at_call 167; refine (rdRnRm_c b _ lay _ O H.row).mono ?_; rintro e w1 ⟨rfl, H1⟩; replace H := H.then H1; replace O := rdRnRm_ok lay _ O; clear H1; dsimp only)
  go_end0
  exact ⟨rfl, H⟩
def dmbT : Tr := numT .imm 1 8 2
theorem dmb_ok : OkT dmbT := ok_num .imm 1 8 2 (by decide) (by decide)
set_option maxHeartbeats 1000000 in
theorem dmb_c : FC 86 dmbT := by
  intro b s lay w O hp
  have H := pr_start hp
  go_enter Tryz.func86, Tryz.ntmps86
  go_wp2_with (go_at_call 162; refine (number_t .imm 1 8 2 (by decide) (by decide) b _ lay O _ H.row).mono ?_; rintro e w1 ⟨rfl, H1⟩; replace H := H.then H1; replace O := (ok_num .imm 1 8 2 (by decide) (by decide)) lay _ O; clear H1; dsimp only)
  go_end0
  exact ⟨rfl, H⟩
def systemT : Tr := thenT (numT .sys 1 5 15) (rdT)
theorem system_ok : OkT systemT := ok_then (ok_num .sys 1 5 15 (by decide) (by decide)) (rd_ok)
set_option maxHeartbeats 1000000 in
theorem system_c : FC 88 systemT := by
  intro b s lay w O hp
  have H := pr_start hp
  go_enter Tryz.func88, Tryz.ntmps88
  go_upto_region 1 with (go_at_call 162; refine (number_t .sys 1 5 15 (by decide) (by decide) b _ lay O _ H.row).mono ?_; rintro e w1 ⟨rfl, H1⟩; replace H := H.then H1; replace O := (ok_num .sys 1 5 15 (by decide) (by decide)) lay _ O; clear H1; dsimp only)
  go_wp2_with (go_at_call 87; refine (rd_c b _ lay _ O H.row).mono ?_; rintro e w1 ⟨rfl, H1⟩; replace H := H.then H1; replace O := rd_ok lay _ O; clear H1; dsimp only)
  go_end0
  exact ⟨rfl, H⟩
def msrMaskT : Tr := numT .imm 1 8 4
theorem msrMask_ok : OkT msrMaskT := ok_num .imm 1 8 4 (by decide) (by decide)
set_option maxHeartbeats 1000000 in
theorem msrMask_c : FC 89 msrMaskT := by
  intro b s lay w O hp
  have H := pr_start hp
  go_enter Tryz.func89, Tryz.ntmps89
  go_wp2_with (go_at_call 162; refine (number_t .imm 1 8 4 (by decide) (by decide) b _ lay O _ H.row).mono ?_; rintro e w1 ⟨rfl, H1⟩; replace H := H.then H1; replace O := (ok_num .imm 1 8 4 (by decide) (by decide)) lay _ O; clear H1; dsimp only)
  go_end0
  exact ⟨rfl, H⟩
def callT : Tr := numT .imm 1 5 16
theorem call_ok : OkT callT := ok_num .imm 1 5 16 (by decide) (by decide)
set_option maxHeartbeats 1000000 in
theorem call_c : FC 90 callT := by
  intro b s lay w O hp
  have H := pr_start hp
  go_enter Tryz.func90, Tryz.ntmps90
  go_wp2_with (go_at_call 162; refine (number_t .imm 1 5 16 (by decide) (by decide) b _ lay O _ H.row).mono ?_; rintro e w1 ⟨rfl, H1⟩; replace H := H.then H1; replace O := (ok_num .imm 1 5 16 (by decide) (by decide)) lay _ O; clear H1; dsimp only)
  go_end0
  exact ⟨rfl, H⟩
def hintT : Tr := numT .imm 1 5 3
theorem hint_ok : OkT hintT := ok_num .imm 1 5 3 (by decide) (by decide)
set_option maxHeartbeats 1000000 in
theorem hint_c : FC 91 hintT := by
  intro b s lay w O hp
  have H := pr_start hp
  go_enter Tryz.func91, Tryz.ntmps91
  go_wp2_with (go_at_call 162; refine (number_t .imm 1 5 3 (by decide) (by decide) b _ lay O _ H.row).mono ?_; rintro e w1 ⟨rfl, H1⟩; replace H := H.then H1; replace O := (ok_num .imm 1 5 3 (by decide) (by decide)) lay _ O; clear H1; dsimp only)
  go_end0
  exact ⟨rfl, H⟩
end Go.Proofs.YtbjcdpmhmebjnaaGreat
