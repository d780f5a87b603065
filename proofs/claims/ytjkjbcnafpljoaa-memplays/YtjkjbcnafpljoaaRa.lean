/- What a memory tells of its sizes, and whether it has a core, a word. -/
import Derived.Test.YtjkjbcnafpljoaaHp
namespace Go.Proofs.Ytjkjbcnafpljoaa
open Go.RowKit
set_option linter.unusedVariables false

def hasCoreB (S : Sta) (core : Int) : Bool := decide (0 ≤ core) && decide (core < S.bufs.length)
def withinB (S : Sta) (addr : Int) : Bool := decide (addr < 8 * S.words.length)
def hasWordB (S : Sta) (addr : Int) : Bool := (addr % 8 == 0) && withinB S addr
theorem words_c (g : Nat) (S : Sta) (L : Lay) (w : World) (H : MemAt g S L w) : Calls Try.prog 13 #[ptr g 0] w fun e w' => e = .returned (vI S.words.length) ∧ w' = w := by
  have c := H.c0
  clear H
  go_enter Try.func13, Try.ntmps13
  go_wp2
  go_ret
  exact ⟨rfl, rfl⟩
theorem cores_c (g : Nat) (S : Sta) (L : Lay) (w : World) (H : MemAt g S L w) : Calls Try.prog 14 #[ptr g 0] w fun e w' => e = .returned (vI S.bufs.length) ∧ w' = w := by
  have c := H.c1
  clear H
  go_enter Try.func14, Try.ntmps14
  go_wp2
  go_ret
  exact ⟨rfl, rfl⟩
theorem tickets_c (g : Nat) (S : Sta) (L : Lay) (w : World) (H : MemAt g S L w) : Calls Try.prog 16 #[ptr g 0] w fun e w' => e = .returned (vI S.stamps.length) ∧ w' = w := by
  have c := H.c2
  obtain ⟨ao, cap, e, _⟩ := own_len H.stamps
  rw [e] at c
  clear H e
  go_enter Try.func16, Try.ntmps16
  go_wp2
  go_ret
  exact ⟨rfl, rfl⟩
theorem depth_c (g : Nat) (S : Sta) (L : Lay) (w : World) (H : MemAt g S L w) (hb : 0 < S.bufs.length) : Calls Try.prog 15 #[ptr g 0] w fun e w' => e = .returned (vI S.depth) ∧ w' = w := by
  have c := H.c1
  have c0 : w.cell? ⟨L.gb, 0, none⟩ = some (vI S.depth) := (H.cb (k := 0) (List.getElem?_eq_getElem (by rw [H.len]; exact hb))).1
  have h1 : (0 : Int) < S.bufs.length := by omega
  clear H
  go_enter Try.func15, Try.ntmps15
  go_wp2
  go_ret
  exact ⟨rfl, rfl⟩
theorem hasCore_c (g : Nat) (S : Sta) (L : Lay) (core : Int) (w : World) (H : MemAt g S L w) : Calls Try.prog 33 #[ptr g 0, vI core] w fun e w' => e = .returned (.bool (hasCoreB S core)) ∧ w' = w := by
  have c := H.c1
  clear H
  unfold hasCoreB
  generalize S.bufs.length = n at c ⊢
  by_cases h : 0 ≤ core
  · rw [decide_eq_true h, Bool.true_and]
    go_enter Try.func33, Try.ntmps33
    go_wp2
    go_ret
    exact ⟨rfl, rfl⟩
  · rw [decide_eq_false h, Bool.false_and]
    go_enter Try.func33, Try.ntmps33
    go_wp2
    go_ret
    exact ⟨rfl, rfl⟩
theorem within_c (g : Nat) (S : Sta) (L : Lay) (addr : Int) (w : World) (H : MemAt g S L w) (hn : S.words.length ≤ 8192) : Calls Try.prog 54 #[ptr g 0, vU addr] w fun e w' => e = .returned (.bool (withinB S addr)) ∧ w' = w := by
  have c := H.c0
  clear H
  unfold withinB
  generalize S.words.length = n at c hn ⊢
  have e1 : IntKind.u64.wrap (n : Int) = n := by rw [IntKind.wrap_u64]; omega
  have e2 : IntKind.u64.wrap (8 * (n : Int)) = 8 * n := by rw [IntKind.wrap_u64]; omega
  go_enter Try.func54, Try.ntmps54
  go_wp2
  go_ret
  exact ⟨rfl, rfl⟩
theorem hasWord_c (g : Nat) (S : Sta) (L : Lay) (addr : Int) (w : World) (H : MemAt g S L w) (hn : S.words.length ≤ 8192) (hA : U64 addr) : Calls Try.prog 34 #[ptr g 0, vU addr] w fun e w' => e = .returned (.bool (hasWordB S addr)) ∧ w' = w := by
  have h1 := hA.1
  have h2 := hA.2
  have hm : addr.tmod 8 = addr % 8 := Int.tmod_eq_emod_of_nonneg h1
  clear hA
  unfold hasWordB
  cases hz : addr % 8 == 0
  · rw [Bool.false_and]
    have hz' : ¬ addr % 8 = 0 := by simpa using hz
    go_enter Try.func34, Try.ntmps34
    go_wp2
    go_ret
    exact ⟨rfl, rfl⟩
  · rw [Bool.true_and]
    have hz' : addr % 8 = 0 := by simpa using hz
    go_enter Try.func34, Try.ntmps34
    go_wp2_with (go_at_call 54; refine (within_c g S L addr _ H hn).mono ?_; rintro e w' ⟨rfl, rfl⟩; dsimp only)
    go_ret
    exact ⟨rfl, rfl⟩
theorem upTo_c (n m : Int) (w : World) : Calls Try.prog 32 #[vI n, vI m] w fun e w' => e = .returned (.bool (decide (1 ≤ n) && decide (n ≤ m))) ∧ w' = w := by
  by_cases h : 1 ≤ n
  · rw [decide_eq_true h, Bool.true_and]
    go_enter Try.func32, Try.ntmps32
    go_wp2
    go_ret
    exact ⟨rfl, rfl⟩
  · rw [decide_eq_false h, Bool.false_and]
    go_enter Try.func32, Try.ntmps32
    go_wp2
    go_ret
    exact ⟨rfl, rfl⟩
end Go.Proofs.Ytjkjbcnafpljoaa
