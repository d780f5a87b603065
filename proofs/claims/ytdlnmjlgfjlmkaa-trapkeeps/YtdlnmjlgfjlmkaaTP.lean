/- What chapter 7 makes of a state: plain functions. -/
import Derived.Test.YtdlnmjlgfjlmkaaOwn
namespace Go.Proofs.Ytdlnmjlgfjlmkaa
open Go.RowKit
set_option linter.unusedVariables false

def pstV (c : Cor) : Int := nzcvV c + (bif c.mask then 128 else 0) + (if c.el = 1 then 5 else 0)
def mayB (v : Int) : Bool := bits .andNot .u64 v 4026531999 == 0 && (v % 32 == 0 || v % 32 == 5)
def vecV (c : Cor) : Int := if c.el = 0 then (c.vbar + 1024) % 18446744073709551616 else (c.vbar + 512) % 18446744073709551616
def wayV (class_ : Int) : Int := if class_ = 32 ∨ class_ = 33 ∨ class_ = 34 ∨ class_ = 36 ∨ class_ = 37 then 0 else 1
/-- The state at a vector. -/
def inV (c : Cor) (pc : Int) : Cor := { c with spsr := pstV c, elr := c.pc, el := 1, mask := true, wait := 0, pc := pc }
def intoV (c : Cor) (way esr far : Int) : Cor := inV { c with far := if way = 0 then far else c.far, esr := if way = 2 then c.esr else esr } (vecV c)
def esrV (class_ iss : Int) : Int := class_ * 67108864 + 33554432 + iss
def entB (c : Cor) (class_ iss : Int) : Bool := rightC c && decide (0 ≤ class_) && decide (class_ ≤ 63) && decide (0 ≤ iss) && decide (iss ≤ 33554431)
def svcV (d : Cor) (class_ : Int) : Cor := { d with elr := if class_ = 21 then (d.elr + 4) % 18446744073709551616 else d.elr }
def entC (c : Cor) (class_ iss far : Int) : Cor := svcV (intoV c (wayV class_) (esrV class_ iss) far) class_
def enterV (c : Cor) (class_ iss far : Int) : Cor := bif entB c class_ iss then entC c class_ iss far else nilC
def irqC (c : Cor) : Cor := { intoV c 2 0 0 with pc := (vecV c + 128) % 18446744073709551616 }
def irqV (c : Cor) : Cor := bif rightC c then irqC c else nilC
def withV (c : Cor) (v : Int) : Cor := { setNzcvV c v with mask := bitB v 7, el := if v % 32 = 5 then 1 else 0 }
def backC (c : Cor) : Cor := let d := bif mayB c.spsr then withV c c.spsr else c; { d with pc := c.elr, event := true }
def backV (c : Cor) : Cor := bif rightC c then backC c else nilC
def errB (b : Bool) : Int := bif b then 0 else 1
theorem intoV_0 (c : Cor) (esr far : Int) : intoV c 0 esr far = inV { c with far := far, esr := esr } (vecV c) := rfl
theorem and_level {v : Int} (h : U64 v) : bits .and .u64 v 31 = v % 32 := by
  obtain ⟨V, rfl, hV⟩ := nat_of h
  have := and64 V 31 hV (by decide)
  rw [show ((31 : Nat) : Int) = 31 from rfl] at this
  rw [this, show (31 : Nat) = 2 ^ 5 - 1 from rfl, Nat.and_two_pow_sub_one_eq_mod]
  omega
theorem or_mask (c : Cor) : bits .or .u64 (nzcvV c) 128 = nzcvV c + 128 := by
  unfold nzcvV
  cases c.n <;> cases c.z <;> cases c.c <;> cases c.v <;> rfl
theorem or_level (c : Cor) : bits .or .u64 (nzcvV c) 5 = nzcvV c + 5 := by
  unfold nzcvV
  cases c.n <;> cases c.z <;> cases c.c <;> cases c.v <;> rfl
theorem or_both (c : Cor) : bits .or .u64 (nzcvV c + 128) 5 = nzcvV c + 128 + 5 := by
  unfold nzcvV
  cases c.n <;> cases c.z <;> cases c.c <;> cases c.v <;> rfl
theorem wr_mask (c : Cor) : IntKind.u64.wrap (nzcvV c + 128) = nzcvV c + 128 := by
  unfold nzcvV
  cases c.n <;> cases c.z <;> cases c.c <;> cases c.v <;> rfl
theorem wr_level (c : Cor) : IntKind.u64.wrap (nzcvV c + 5) = nzcvV c + 5 := by
  unfold nzcvV
  cases c.n <;> cases c.z <;> cases c.c <;> cases c.v <;> rfl
theorem wr_both (c : Cor) : IntKind.u64.wrap (nzcvV c + 128 + 5) = nzcvV c + 128 + 5 := by
  unfold nzcvV
  cases c.n <;> cases c.z <;> cases c.c <;> cases c.v <;> rfl
theorem pstV_u64 (c : Cor) : U64 (pstV c) := by
  unfold pstV nzcvV U64
  split <;> cases c.n <;> cases c.z <;> cases c.c <;> cases c.v <;> cases c.mask <;> decide +kernel
theorem or_low (a b : Nat) (k : Nat) (hb : b < 2 ^ k) (ha : a < 2 ^ 62) (hk : k ≤ 26) : bits .or .i64 ((a * 2 ^ k : Nat) : Int) (b : Int) = ((a * 2 ^ k + b : Nat) : Int) ∨ 2 ^ 62 ≤ a * 2 ^ k + b := by
  by_cases hbig : 2 ^ 62 ≤ a * 2 ^ k + b
  · exact .inr hbig
  left
  have h1 : a * 2 ^ k + b < 2 ^ 62 := by omega
  have h2 : a * 2 ^ k < 2 ^ 62 := by omega
  have h3 : b < 2 ^ 62 := by omega
  have e : ∀ n : Nat, n < 2 ^ 62 → (BitVec.ofInt 64 (n : Int)).toNat = n := fun n hn => bv64 n (by omega)
  show IntKind.i64.wrap ((BitVec.ofInt 64 ((a * 2 ^ k : Nat) : Int) ||| BitVec.ofInt 64 (b : Int)).toNat : Int) = _
  rw [BitVec.toNat_or, e _ h2, e _ h3, Nat.mul_comm a, ← Nat.two_pow_add_eq_or_of_lt hb]
  rw [Nat.mul_comm a] at h1
  rw [IntKind.wrap_i64]
  omega
theorem or_esr (class_ iss : Int) (h0 : 0 ≤ class_) (h1 : class_ ≤ 63) (h2 : 0 ≤ iss) (h3 : iss ≤ 33554431) : bits .or .i64 (bits .or .i64 (class_ * 67108864) 33554432) iss = esrV class_ iss := by
  obtain ⟨C, rfl⟩ := Int.eq_ofNat_of_zero_le h0
  obtain ⟨I, rfl⟩ := Int.eq_ofNat_of_zero_le h2
  have p26 : (2 : Nat) ^ 26 = 67108864 := by decide +kernel
  have p25 : (2 : Nat) ^ 25 = 33554432 := by decide +kernel
  have p62 : (2 : Nat) ^ 62 = 4611686018427387904 := by decide +kernel
  have a1 := or_low C 33554432 26 (by rw [p26]; decide +kernel) (by rw [p62]; omega) (by decide)
  have a2 := or_low (C * 2 + 1) I 25 (by rw [p25]; omega) (by rw [p62]; omega) (by decide)
  rw [p26, p62] at a1
  rw [p25, p62] at a2
  rcases a1 with a1 | a1
  · have e1 : ((C * 67108864 : Nat) : Int) = (C : Int) * 67108864 := by rw [Int.natCast_mul]; rfl
    have e3 : C * 67108864 + 33554432 = (C * 2 + 1) * 33554432 := by omega
    rw [e1] at a1
    rcases a2 with a2 | a2
    · have a1' : bits .or .i64 ((C : Int) * 67108864) 33554432 = (((C * 2 + 1) * 33554432 : Nat) : Int) := by rw [← e3]; exact a1
      show bits .or .i64 (bits .or .i64 ((C : Int) * 67108864) 33554432) (I : Int) = _
      rw [a1', a2]
      unfold esrV
      rw [← e3, Int.natCast_add, Int.natCast_add, e1]
      rfl
    · omega
  · omega
end Go.Proofs.Ytdlnmjlgfjlmkaa
