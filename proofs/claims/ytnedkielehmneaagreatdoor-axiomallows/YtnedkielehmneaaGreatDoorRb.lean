/- each, as an iterator: the things of a word, rising; a range over it. -/
import Derived.Test.YtnedkielehmneaaGreatDoorRa
namespace Go.Proofs.YtnedkielehmneaaGreatDoor
open Go.RowKit
set_option linter.unusedVariables false
set_option linter.unusedSimpArgs false
set_option maxRecDepth 8000

open Go.Shelf
attribute [local go_sem] Oper.semAt_some
theorem less_lt {u x : Nat} (h : u.testBit x = true) : Bit.less u (2 ^ x) < u := by
  have e : u &&& Bit.less u (2 ^ x) = Bit.less u (2 ^ x) := by
    apply Nat.eq_of_testBit_eq
    intro j
    rw [Nat.testBit_and, Bit.test_less]
    cases u.testBit j <;> simp
  have h1 : Bit.less u (2 ^ x) ≤ u := by rw [← e]; exact Nat.and_le_left
  refine Nat.lt_of_le_of_ne h1 fun e => ?_
  have := Bit.test_less u (2 ^ x) x
  rw [e, h, Nat.testBit_two_pow_self] at this
  simp at this
set_option maxHeartbeats 1000000 in
theorem each_in (v : Nat) (hv : v < 2 ^ 64) (l : Nat) (J : List Int → World → Prop) (W : World) (hJ : ∀ pre W1, J pre W1 → Tab W1)
    (hY : ∀ pre x W1, J pre W1 → pre ++ [x] <+: els v → YieldAt Fence.wide 7 Tryz.prog l #[.int .i64 x] W1 fun e W' => e = .returned (.bool true) ∧ J (pre ++ [x]) W') (h0 : J [] W) :
    CallsIn Fence.wide 8 Tryz.prog 85 (#[vU v] ++ #[.func (.yield l) #[] #[]]) W fun e W' => (∃ u, e = .returned u) ∧ J (els v) W' := by
  refine callsIn_of_wp Tryz.func85 rfl trivial ?_ rfl
  simp only [Tryz.ntmps85, List.size_toArray, List.length_cons, List.length_nil, Nat.reduceAdd, Nat.reduceSub, Array.replicate_succ, Array.replicate_zero, List.push_toArray, List.append_toArray, List.nil_append, List.cons_append]
  gi_wp2
  gi_loopw [4] (fun s4 wr => ∃ k : Nat, k ≤ 64 ∧ s4 = .int .u64 (hiW v k) ∧ J (elsTo v k) wr) (fun s4 _ => (intOf s4).toNat)
  case atStart => exact ⟨0, Nat.zero_le _, by rw [hi_zero hv], h0⟩
  case round =>
    obtain ⟨k, hk, rfl, hJk⟩ := hrel
    by_cases hz : hiW v k = 0
    · have e := els_end hv hk hz
      rw [e] at hJk
      rw [hz]
      gi_wp2
      go_end0
      exact ⟨⟨_, rfl⟩, hJk⟩
    · obtain ⟨n1, n2, n3, n4, n5⟩ := els_next hz
      have hlt := hi_lt v k
      have c1 := tz_c _ hz hlt wr (hJ _ _ hJk)
      have c2 := without_c _ _ hlt n1
      rw [n5] at c2
      have nb := (ctz_low hz hlt).2.1
      generalize Lib.ctz 64 (hiW v k) = x at *
      have hn : ((hiW v k : Int) == 0) = false := by simp; omega
      have hm : hiW v (x + 1) < hiW v k := by
        rw [← n5]
        exact less_lt nb
      generalize hiW v k = u at *
      obtain ⟨fn, tmps, assign, body, hy, hR⟩ := hY (elsTo v k) x wr hJk (by rw [← n4]; exact els_pre (by omega))
      rw [← n4] at hR
      clear hY
      gi_wp2_with (first | (refine ⟨trivial, ?_⟩; gi_at_call 124; refine (callsIn_wide.2 c1).mono ?_; rintro e w1 ⟨rfl, rfl⟩; dsimp only))
      refine hR.mono ?_
      rintro e W3 ⟨rfl, hJ3⟩
      clear hR c1 hJk hy
      gi_wp2_with (first | (refine ⟨trivial, ?_⟩; gi_at_call 125; refine (callsIn_wide.2 (c2 _)).mono ?_; rintro e w1 ⟨rfl, rfl⟩; dsimp only))
      go_roundw
      case rel => exact ⟨x + 1, by omega, rfl, hJ3⟩
      case measure => simp [intOf]; omega
/-- A range over the things of a word. -/
theorem wp_each {p : Tmp} {assign body : Code} {Q : Exit → Act → World → Prop} {a : Act} {w : World} {g : Operand} (v : Nat) (hv : v < 2 ^ 64) (hg : a.eval g = .func (.func 85) #[vU v] #[])
    (I : List Int → World → Prop) (hI : ∀ pre W W', I pre W → Rg.Turn w.heap.size W W' → I pre W') (hTb : ∀ pre W, I pre W → Tab W) (h0 : I [] w) (a₁ : Int → Act)
    (hassign : ∀ (l : Nat) (x : Int) (W : World) (K : Act → World → Prop), K (a₁ x) W → assign.wpIn (Fence.wide.inRound l) 7 Tryz.prog (Exit.then K (fun _ _ _ => False)) { tmps := ((#[p] : Array Tmp).zip (#[.int .i64 x] : Array Value)).foldl (fun t (p, v) => t.setIfInBounds p v) a.tmps, defers := [] } W)
    (hbody : ∀ (l : Nat) (pre : List Int) (x : Nat) (W : World), I pre W → x < 64 → v.testBit x = true → pre ++ [(x : Int)] <+: els v → body.wpIn (Fence.wide.inRound l) 7 Tryz.prog (Rg.onPost w.heap.size I (pre ++ [(x : Int)]) W) (a₁ x) W)
    (hdone : ∀ (D : Nat) (W : World), w.heap.size ≤ D → I (els v) W → W.heap[D]? = some (.deferred (some [])) → Q .normal { a with defers := Rg.mark D :: a.defers } W) :
    (Code.rangeFunc g #[p] assign body).wp Tryz.prog Q a w :=
  Rg.wp_range hg (enters_of Tryz.func85 (by kernel_rfl) rfl) (els v) Tab (each_in v hv) I hI hTb h0 a₁ hassign (fun l pre x W hi hp => by
    obtain ⟨k, rfl, h1, h2⟩ := els_mem hp
    exact hbody l pre k W hi h1 h2 hp) hdone
end Go.Proofs.YtnedkielehmneaaGreatDoor
