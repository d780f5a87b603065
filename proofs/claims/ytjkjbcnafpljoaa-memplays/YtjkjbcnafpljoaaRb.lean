/- Words of memory that are read, and stamps. -/
import Derived.Test.YtjkjbcnafpljoaaRa
namespace Go.Proofs.Ytjkjbcnafpljoaa
open Go.RowKit
set_option linter.unusedVariables false

def peekV (S : Sta) (addr : Int) : Int := if hasWordB S addr then (S.words.getD (addr / 8).toNat (0, 0)).1 else 0
def peekT (S : Sta) (addr : Int) : Int := if hasWordB S addr then (S.words.getD (addr / 8).toNat (0, 0)).2 else 0
def argE (b : Bool) : Int := if b then 0 else 1
theorem word_at {S : Sta} {addr : Int} (hA : U64 addr) (h : hasWordB S addr = true) : ∃ k : Nat, ∃ s, addr = 8 * k ∧ S.words[k]? = some s ∧ k < S.words.length ∧ S.words.getD (addr / 8).toNat (0, 0) = s := by
  simp only [hasWordB, withinB, Bool.and_eq_true, beq_iff_eq, decide_eq_true_eq] at h
  have h1 := hA.1
  have hk : (addr / 8).toNat < S.words.length := by omega
  refine ⟨(addr / 8).toNat, S.words[(addr / 8).toNat], by omega, List.getElem?_eq_getElem hk, hk, ?_⟩
  simp [List.getD, List.getElem?_eq_getElem hk]
theorem results3 {fn : Func} {x y z : Tmp} (h : fn.results = #[.tmp x, .tmp y, .tmp z]) (tmps : Array Value) (w : World) : (results fn tmps).run Try.prog w = .ok (.tuple #[tmps.getD x undef, tmps.getD y undef, tmps.getD z undef]) w := by
  simp [results, h]
set_option maxRecDepth 4000 in
theorem peek_c (g : Nat) (S : Sta) (L : Lay) (addr : Int) (w : World) (H : MemAt g S L w) (hn : S.words.length ≤ 8192) (hA : U64 addr) : Calls Try.prog 26 #[ptr g 0, vU addr] w fun e w' => e = .returned (.tuple #[vU (peekV S addr), vI (peekT S addr), vI (argE (hasWordB S addr))]) ∧ Below w.heap.size w w' := by
  cases hB : hasWordB S addr
  · rw [peekV, peekT, hB]
    go_enter Try.func26, Try.ntmps26
    go_wp2_with (go_at_call 34; refine (hasWord_c g S L addr _ H hn hA).mono ?_; rintro e w' ⟨rfl, rfl⟩; dsimp only; rw [hB])
    exact bodyPost_ret (results3 rfl _ _) rfl ⟨rfl, Below.refl _ _⟩
  · obtain ⟨k, s, e, hs, hk, hd⟩ := word_at hA hB
    rw [peekV, peekT, hB]
    simp only [if_true, hd]
    clear hd
    subst e
    have hdiv : (8 * (k : Int)).tdiv 8 = k := by rw [Int.tdiv_eq_ediv_of_nonneg (by omega)]; omega
    have hk1 : (k : Int) < S.words.length := by omega
    have hk0 : (0 : Int) ≤ k := by omega
    obtain ⟨c1, c2⟩ := H.cw hs
    have c0 := H.c0
    go_enter Try.func26, Try.ntmps26
    go_wp2_with (go_at_call 34; refine (hasWord_c g S L _ _ H hn hA).mono ?_; rintro e w' ⟨rfl, rfl⟩; dsimp only; rw [hB])
    go_quiet (fail)
    go_wp2
    exact bodyPost_ret (results3 rfl _ _) rfl ⟨rfl, below_drewN (below_alloc _ _) _⟩
end Go.Proofs.Ytjkjbcnafpljoaa
