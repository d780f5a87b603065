/- A core takes an interrupt only if it may, and always takes one that it may: the walk. -/
import Derived.Test.YteklkololojamaaGreatQz
import Derived.Test.YteklkololojamaaGreatQv
import Derived.Test.YteklkololojamaaGreatQu
namespace Go.Proofs.YteklkololojamaaGreat
open Go.RowKit
set_option linter.unusedVariables false
set_option linter.unusedSimpArgs false
set_option maxRecDepth 8000

theorem has_nat {n c : Nat} (h : c < n) : hasB n (c : Int) = true := by simp [hasB]; omega
theorem bad_nat {n c : Nat} {i : Int} (h : c < n) (h0 : 0 ≤ i) (h1 : i < 64) : badB n (c : Int) i = false := by
  rw [badB, has_nat h]; simp; omega
theorem lim_nat {n c : Nat} {P : Pg} (h : c < n) : limV n P c = P.lim c := by rw [limV, has_nat h, if_pos rfl, Int.toNat_natCast]
theorem run_nat {n c : Nat} {P : Pg} (h : c < n) : runC n P c = runV (P.wk c) := by rw [runC, has_nat h, if_pos rfl, Int.toNat_natCast]
theorem next_nat {n c : Nat} {P : Pg} (h : c < n) : nextV n P c = bstF n P c 64 := by rw [nextV, has_nat h, if_pos rfl, Int.toNat_natCast]
theorem look_nat {n c : Nat} {P : Pg} {i : Int} (h : c < n) (h0 : 0 ≤ i) (h1 : i < 64) : lookV n P c i = P.src (pr n c i) (pk i) := by rw [lookV, bad_nat h h0 h1, if_neg (by decide)]
theorem look_shared {n c d : Nat} {P : Pg} {i : Int} (h : c < n) (hd : d < n) (h0 : 32 ≤ i) (h1 : i < 64) : lookV n P c i = lookV n P d i := by
  rw [look_nat h (by omega) h1, look_nat hd (by omega) h1, pr, pr, if_pos h0, if_pos h0]
def bestI (n : Nat) (P : Pg) (c i : Nat) : Int := match bstF n P c i with | none => -1 | some t => t.id
theorem best_skip {n : Nat} {P : Pg} {c i : Nat} (h : candB n P c i = false) : bestI n P c (i + 1) = bestI n P c i := by
  rw [bestI, bestI, bstF, h, if_neg (by decide)]
theorem cand_and {n : Nat} {P : Pg} {c i : Nat} {s : Src} (hs : lookV n P c i = s) : candB n P c i = (waitB s && !awayB c i s && decide (s.rank < minV (P.lim c) (runV (P.wk c)))) := by rw [candB, hs]
theorem min_lt {a b r : Int} : r < minV a b ↔ r < a ∧ r < b := by
  unfold minV; split <;> omega
/-- Behind Ack. -/
theorem ack_look {n : Nat} {P : Pg} {c k : Nat} {t : Trn} (hc : c < n) (hN : nextV n P c = some t) (hk : t.id = k) (h64 : k < 64) : lookV n (ackP n P c) c k = { lookV n P c k with l := false, a := true } := by
  have e : ackP n P c = (P.put (pr n c t.id) (pk t.id) { P.src (pr n c t.id) (pk t.id) with l := false, a := true }).setWk c (P.wk c ++ [t]) := by rw [ackP, hN]; rfl
  rw [e, look_nat hc (by omega) (by omega), look_nat hc (by omega) (by omega), hk]
  show (P.put _ _ _).src _ _ = _
  rw [put_src]
theorem ack_run {n : Nat} {P : Pg} {c : Nat} {t : Trn} (hN : nextV n P c = some t) : runV ((ackP n P c).wk c) = t.rank := by
  have e : ackP n P c = (P.put (pr n c t.id) (pk t.id) { P.src (pr n c t.id) (pk t.id) with l := false, a := true }).setWk c (P.wk c ++ [t]) := by rw [ackP, hN]; rfl
  rw [e]
  show runV (if c = c then P.wk c ++ [t] else _) = _
  rw [if_pos rfl, runV_app]
end Go.Proofs.YteklkololojamaaGreat
