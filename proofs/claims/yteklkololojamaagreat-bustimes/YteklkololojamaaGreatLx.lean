/- A timer that comes: the bus at each call, plain. -/
import Derived.Test.YteklkololojamaaGreatBo
import Derived.Test.YteklkololojamaaGreatBn
namespace Go.Proofs.YteklkololojamaaGreat
open Go.RowKit
set_option linter.unusedVariables false
set_option linter.unusedSimpArgs false
set_option maxRecDepth 8000

open Tim
def jnB (n : Nat) (hs : Nat → Bool) (P : Pg) : Nat → Pg
  | 0 => P
  | c + 1 => glineP n (jnB n hs P c) c 27 (hs c)
theorem jn_eq {n : Nat} {T : Tm} {P : Pg} {hs : Nat → Bool} : ∀ m : Nat, (∀ d : Nat, d < m → Tmr.highV n T (d : Int) = hs d) → jnF n T P m = jnB n hs P m
  | 0, _ => rfl
  | m + 1, h => by
    show glineP n (jnF n T P m) m 27 (Tmr.highV n T m) = glineP n (jnB n hs P m) m 27 (hs m)
    rw [jn_eq m fun d hd => h d (by omega), h m (by omega)]
def tw1 : Pg := jnB 3 (fun _ => false) newP 3
def tw2 (c : Nat) (a : Bool) : Pg := jnB 3 (fun d => decide (d = c) && a) tw1 3
def tw3 (c : Nat) (a : Bool) : Pg := sprF (fun Q id => genableP 3 Q c id true) (tw2 c a) 134217728 64
def tw4 (c : Nat) (a b : Bool) : Pg := jnB 3 (fun d => decide (d = c) && b) (tw3 c a) 3
def tw5 (c : Nat) (a b : Bool) : Pg := ackP 3 (tw4 c a b) c
def tw6 (c : Nat) (a b : Bool) : Pg := ackP 3 (tw5 c a b) ((c + 1) % 3 : Nat)
def tw7 (c : Nat) (a b : Bool) : Pg := ackP 3 (tw6 c a b) c
def tw8 (c : Nat) (a b : Bool) : Pg := geoiP 3 (tw7 c a b) c 27
def tw9 (c : Nat) (a b : Bool) : Pg := ackP 3 (tw8 c a b) c
def tw10 (c : Nat) (a b : Bool) : Pg := geoiP 3 (tw9 c a b) c 27
def tw11 (c : Nat) (a b : Bool) : Pg := jnB 3 (fun _ => false) (tw10 c a b) 3
def tw12 (c : Nat) (a b : Bool) : Pg := ackP 3 (tw11 c a b) c
theorem t4v : ∀ (c : Nat) (a b : Bool), c < 3 → ackV 3 (tw4 c a b) c % 18446744073709551616 = if b then 27 else 1023
  | 0, false, false, _ => by kernel_rfl
  | 0, false, true, _ => by kernel_rfl
  | 0, true, false, _ => by kernel_rfl
  | 0, true, true, _ => by kernel_rfl
  | 1, false, false, _ => by kernel_rfl
  | 1, false, true, _ => by kernel_rfl
  | 1, true, false, _ => by kernel_rfl
  | 1, true, true, _ => by kernel_rfl
  | 2, false, false, _ => by kernel_rfl
  | 2, false, true, _ => by kernel_rfl
  | 2, true, false, _ => by kernel_rfl
  | 2, true, true, _ => by kernel_rfl
  | _ + 3, _, _, h => absurd h (by omega)
theorem t5v : ∀ (c : Nat) (a b : Bool), c < 3 → ackV 3 (tw5 c a b) ((c + 1) % 3 : Nat) % 18446744073709551616 = 1023
  | 0, false, false, _ => by kernel_rfl
  | 0, false, true, _ => by kernel_rfl
  | 0, true, false, _ => by kernel_rfl
  | 0, true, true, _ => by kernel_rfl
  | 1, false, false, _ => by kernel_rfl
  | 1, false, true, _ => by kernel_rfl
  | 1, true, false, _ => by kernel_rfl
  | 1, true, true, _ => by kernel_rfl
  | 2, false, false, _ => by kernel_rfl
  | 2, false, true, _ => by kernel_rfl
  | 2, true, false, _ => by kernel_rfl
  | 2, true, true, _ => by kernel_rfl
  | _ + 3, _, _, h => absurd h (by omega)
theorem t6v : ∀ (c : Nat) (a b : Bool), c < 3 → ackV 3 (tw6 c a b) c % 18446744073709551616 = 1023
  | 0, false, false, _ => by kernel_rfl
  | 0, false, true, _ => by kernel_rfl
  | 0, true, false, _ => by kernel_rfl
  | 0, true, true, _ => by kernel_rfl
  | 1, false, false, _ => by kernel_rfl
  | 1, false, true, _ => by kernel_rfl
  | 1, true, false, _ => by kernel_rfl
  | 1, true, true, _ => by kernel_rfl
  | 2, false, false, _ => by kernel_rfl
  | 2, false, true, _ => by kernel_rfl
  | 2, true, false, _ => by kernel_rfl
  | 2, true, true, _ => by kernel_rfl
  | _ + 3, _, _, h => absurd h (by omega)
theorem t8v : ∀ (c : Nat) (a b : Bool), c < 3 → ackV 3 (tw8 c a b) c % 18446744073709551616 = if b then 27 else 1023
  | 0, false, false, _ => by kernel_rfl
  | 0, false, true, _ => by kernel_rfl
  | 0, true, false, _ => by kernel_rfl
  | 0, true, true, _ => by kernel_rfl
  | 1, false, false, _ => by kernel_rfl
  | 1, false, true, _ => by kernel_rfl
  | 1, true, false, _ => by kernel_rfl
  | 1, true, true, _ => by kernel_rfl
  | 2, false, false, _ => by kernel_rfl
  | 2, false, true, _ => by kernel_rfl
  | 2, true, false, _ => by kernel_rfl
  | 2, true, true, _ => by kernel_rfl
  | _ + 3, _, _, h => absurd h (by omega)
theorem t11v : ∀ (c : Nat) (a b : Bool), c < 3 → ackV 3 (tw11 c a b) c % 18446744073709551616 = 1023
  | 0, false, false, _ => by kernel_rfl
  | 0, false, true, _ => by kernel_rfl
  | 0, true, false, _ => by kernel_rfl
  | 0, true, true, _ => by kernel_rfl
  | 1, false, false, _ => by kernel_rfl
  | 1, false, true, _ => by kernel_rfl
  | 1, true, false, _ => by kernel_rfl
  | 1, true, true, _ => by kernel_rfl
  | 2, false, false, _ => by kernel_rfl
  | 2, false, true, _ => by kernel_rfl
  | 2, true, false, _ => by kernel_rfl
  | 2, true, true, _ => by kernel_rfl
  | _ + 3, _, _, h => absurd h (by omega)
theorem ltw4 : ∀ (c : Nat) (d : Nat) (a b : Bool), c < 3 → d < 3 → decide (((tw4 c a b).wk d).length + 1 < 1000000) = true
  | 0, 0, false, false, _, _ => by kernel_rfl
  | 0, 0, false, true, _, _ => by kernel_rfl
  | 0, 0, true, false, _, _ => by kernel_rfl
  | 0, 0, true, true, _, _ => by kernel_rfl
  | 0, 1, false, false, _, _ => by kernel_rfl
  | 0, 1, false, true, _, _ => by kernel_rfl
  | 0, 1, true, false, _, _ => by kernel_rfl
  | 0, 1, true, true, _, _ => by kernel_rfl
  | 0, 2, false, false, _, _ => by kernel_rfl
  | 0, 2, false, true, _, _ => by kernel_rfl
  | 0, 2, true, false, _, _ => by kernel_rfl
  | 0, 2, true, true, _, _ => by kernel_rfl
  | 1, 0, false, false, _, _ => by kernel_rfl
  | 1, 0, false, true, _, _ => by kernel_rfl
  | 1, 0, true, false, _, _ => by kernel_rfl
  | 1, 0, true, true, _, _ => by kernel_rfl
  | 1, 1, false, false, _, _ => by kernel_rfl
  | 1, 1, false, true, _, _ => by kernel_rfl
  | 1, 1, true, false, _, _ => by kernel_rfl
  | 1, 1, true, true, _, _ => by kernel_rfl
  | 1, 2, false, false, _, _ => by kernel_rfl
  | 1, 2, false, true, _, _ => by kernel_rfl
  | 1, 2, true, false, _, _ => by kernel_rfl
  | 1, 2, true, true, _, _ => by kernel_rfl
  | 2, 0, false, false, _, _ => by kernel_rfl
  | 2, 0, false, true, _, _ => by kernel_rfl
  | 2, 0, true, false, _, _ => by kernel_rfl
  | 2, 0, true, true, _, _ => by kernel_rfl
  | 2, 1, false, false, _, _ => by kernel_rfl
  | 2, 1, false, true, _, _ => by kernel_rfl
  | 2, 1, true, false, _, _ => by kernel_rfl
  | 2, 1, true, true, _, _ => by kernel_rfl
  | 2, 2, false, false, _, _ => by kernel_rfl
  | 2, 2, false, true, _, _ => by kernel_rfl
  | 2, 2, true, false, _, _ => by kernel_rfl
  | 2, 2, true, true, _, _ => by kernel_rfl
  | _ + 3, _, _, _, h, _ => absurd h (by omega)
  | 0, _ + 3, _, _, _, h => absurd h (by omega)
  | 1, _ + 3, _, _, _, h => absurd h (by omega)
  | 2, _ + 3, _, _, _, h => absurd h (by omega)
theorem ltw5 : ∀ (c : Nat) (d : Nat) (a b : Bool), c < 3 → d < 3 → decide (((tw5 c a b).wk d).length + 1 < 1000000) = true
  | 0, 0, false, false, _, _ => by kernel_rfl
  | 0, 0, false, true, _, _ => by kernel_rfl
  | 0, 0, true, false, _, _ => by kernel_rfl
  | 0, 0, true, true, _, _ => by kernel_rfl
  | 0, 1, false, false, _, _ => by kernel_rfl
  | 0, 1, false, true, _, _ => by kernel_rfl
  | 0, 1, true, false, _, _ => by kernel_rfl
  | 0, 1, true, true, _, _ => by kernel_rfl
  | 0, 2, false, false, _, _ => by kernel_rfl
  | 0, 2, false, true, _, _ => by kernel_rfl
  | 0, 2, true, false, _, _ => by kernel_rfl
  | 0, 2, true, true, _, _ => by kernel_rfl
  | 1, 0, false, false, _, _ => by kernel_rfl
  | 1, 0, false, true, _, _ => by kernel_rfl
  | 1, 0, true, false, _, _ => by kernel_rfl
  | 1, 0, true, true, _, _ => by kernel_rfl
  | 1, 1, false, false, _, _ => by kernel_rfl
  | 1, 1, false, true, _, _ => by kernel_rfl
  | 1, 1, true, false, _, _ => by kernel_rfl
  | 1, 1, true, true, _, _ => by kernel_rfl
  | 1, 2, false, false, _, _ => by kernel_rfl
  | 1, 2, false, true, _, _ => by kernel_rfl
  | 1, 2, true, false, _, _ => by kernel_rfl
  | 1, 2, true, true, _, _ => by kernel_rfl
  | 2, 0, false, false, _, _ => by kernel_rfl
  | 2, 0, false, true, _, _ => by kernel_rfl
  | 2, 0, true, false, _, _ => by kernel_rfl
  | 2, 0, true, true, _, _ => by kernel_rfl
  | 2, 1, false, false, _, _ => by kernel_rfl
  | 2, 1, false, true, _, _ => by kernel_rfl
  | 2, 1, true, false, _, _ => by kernel_rfl
  | 2, 1, true, true, _, _ => by kernel_rfl
  | 2, 2, false, false, _, _ => by kernel_rfl
  | 2, 2, false, true, _, _ => by kernel_rfl
  | 2, 2, true, false, _, _ => by kernel_rfl
  | 2, 2, true, true, _, _ => by kernel_rfl
  | _ + 3, _, _, _, h, _ => absurd h (by omega)
  | 0, _ + 3, _, _, _, h => absurd h (by omega)
  | 1, _ + 3, _, _, _, h => absurd h (by omega)
  | 2, _ + 3, _, _, _, h => absurd h (by omega)
theorem ltw6 : ∀ (c : Nat) (d : Nat) (a b : Bool), c < 3 → d < 3 → decide (((tw6 c a b).wk d).length + 1 < 1000000) = true
  | 0, 0, false, false, _, _ => by kernel_rfl
  | 0, 0, false, true, _, _ => by kernel_rfl
  | 0, 0, true, false, _, _ => by kernel_rfl
  | 0, 0, true, true, _, _ => by kernel_rfl
  | 0, 1, false, false, _, _ => by kernel_rfl
  | 0, 1, false, true, _, _ => by kernel_rfl
  | 0, 1, true, false, _, _ => by kernel_rfl
  | 0, 1, true, true, _, _ => by kernel_rfl
  | 0, 2, false, false, _, _ => by kernel_rfl
  | 0, 2, false, true, _, _ => by kernel_rfl
  | 0, 2, true, false, _, _ => by kernel_rfl
  | 0, 2, true, true, _, _ => by kernel_rfl
  | 1, 0, false, false, _, _ => by kernel_rfl
  | 1, 0, false, true, _, _ => by kernel_rfl
  | 1, 0, true, false, _, _ => by kernel_rfl
  | 1, 0, true, true, _, _ => by kernel_rfl
  | 1, 1, false, false, _, _ => by kernel_rfl
  | 1, 1, false, true, _, _ => by kernel_rfl
  | 1, 1, true, false, _, _ => by kernel_rfl
  | 1, 1, true, true, _, _ => by kernel_rfl
  | 1, 2, false, false, _, _ => by kernel_rfl
  | 1, 2, false, true, _, _ => by kernel_rfl
  | 1, 2, true, false, _, _ => by kernel_rfl
  | 1, 2, true, true, _, _ => by kernel_rfl
  | 2, 0, false, false, _, _ => by kernel_rfl
  | 2, 0, false, true, _, _ => by kernel_rfl
  | 2, 0, true, false, _, _ => by kernel_rfl
  | 2, 0, true, true, _, _ => by kernel_rfl
  | 2, 1, false, false, _, _ => by kernel_rfl
  | 2, 1, false, true, _, _ => by kernel_rfl
  | 2, 1, true, false, _, _ => by kernel_rfl
  | 2, 1, true, true, _, _ => by kernel_rfl
  | 2, 2, false, false, _, _ => by kernel_rfl
  | 2, 2, false, true, _, _ => by kernel_rfl
  | 2, 2, true, false, _, _ => by kernel_rfl
  | 2, 2, true, true, _, _ => by kernel_rfl
  | _ + 3, _, _, _, h, _ => absurd h (by omega)
  | 0, _ + 3, _, _, _, h => absurd h (by omega)
  | 1, _ + 3, _, _, _, h => absurd h (by omega)
  | 2, _ + 3, _, _, _, h => absurd h (by omega)
theorem ltw8 : ∀ (c : Nat) (d : Nat) (a b : Bool), c < 3 → d < 3 → decide (((tw8 c a b).wk d).length + 1 < 1000000) = true
  | 0, 0, false, false, _, _ => by kernel_rfl
  | 0, 0, false, true, _, _ => by kernel_rfl
  | 0, 0, true, false, _, _ => by kernel_rfl
  | 0, 0, true, true, _, _ => by kernel_rfl
  | 0, 1, false, false, _, _ => by kernel_rfl
  | 0, 1, false, true, _, _ => by kernel_rfl
  | 0, 1, true, false, _, _ => by kernel_rfl
  | 0, 1, true, true, _, _ => by kernel_rfl
  | 0, 2, false, false, _, _ => by kernel_rfl
  | 0, 2, false, true, _, _ => by kernel_rfl
  | 0, 2, true, false, _, _ => by kernel_rfl
  | 0, 2, true, true, _, _ => by kernel_rfl
  | 1, 0, false, false, _, _ => by kernel_rfl
  | 1, 0, false, true, _, _ => by kernel_rfl
  | 1, 0, true, false, _, _ => by kernel_rfl
  | 1, 0, true, true, _, _ => by kernel_rfl
  | 1, 1, false, false, _, _ => by kernel_rfl
  | 1, 1, false, true, _, _ => by kernel_rfl
  | 1, 1, true, false, _, _ => by kernel_rfl
  | 1, 1, true, true, _, _ => by kernel_rfl
  | 1, 2, false, false, _, _ => by kernel_rfl
  | 1, 2, false, true, _, _ => by kernel_rfl
  | 1, 2, true, false, _, _ => by kernel_rfl
  | 1, 2, true, true, _, _ => by kernel_rfl
  | 2, 0, false, false, _, _ => by kernel_rfl
  | 2, 0, false, true, _, _ => by kernel_rfl
  | 2, 0, true, false, _, _ => by kernel_rfl
  | 2, 0, true, true, _, _ => by kernel_rfl
  | 2, 1, false, false, _, _ => by kernel_rfl
  | 2, 1, false, true, _, _ => by kernel_rfl
  | 2, 1, true, false, _, _ => by kernel_rfl
  | 2, 1, true, true, _, _ => by kernel_rfl
  | 2, 2, false, false, _, _ => by kernel_rfl
  | 2, 2, false, true, _, _ => by kernel_rfl
  | 2, 2, true, false, _, _ => by kernel_rfl
  | 2, 2, true, true, _, _ => by kernel_rfl
  | _ + 3, _, _, _, h, _ => absurd h (by omega)
  | 0, _ + 3, _, _, _, h => absurd h (by omega)
  | 1, _ + 3, _, _, _, h => absurd h (by omega)
  | 2, _ + 3, _, _, _, h => absurd h (by omega)
theorem ltw11 : ∀ (c : Nat) (d : Nat) (a b : Bool), c < 3 → d < 3 → decide (((tw11 c a b).wk d).length + 1 < 1000000) = true
  | 0, 0, false, false, _, _ => by kernel_rfl
  | 0, 0, false, true, _, _ => by kernel_rfl
  | 0, 0, true, false, _, _ => by kernel_rfl
  | 0, 0, true, true, _, _ => by kernel_rfl
  | 0, 1, false, false, _, _ => by kernel_rfl
  | 0, 1, false, true, _, _ => by kernel_rfl
  | 0, 1, true, false, _, _ => by kernel_rfl
  | 0, 1, true, true, _, _ => by kernel_rfl
  | 0, 2, false, false, _, _ => by kernel_rfl
  | 0, 2, false, true, _, _ => by kernel_rfl
  | 0, 2, true, false, _, _ => by kernel_rfl
  | 0, 2, true, true, _, _ => by kernel_rfl
  | 1, 0, false, false, _, _ => by kernel_rfl
  | 1, 0, false, true, _, _ => by kernel_rfl
  | 1, 0, true, false, _, _ => by kernel_rfl
  | 1, 0, true, true, _, _ => by kernel_rfl
  | 1, 1, false, false, _, _ => by kernel_rfl
  | 1, 1, false, true, _, _ => by kernel_rfl
  | 1, 1, true, false, _, _ => by kernel_rfl
  | 1, 1, true, true, _, _ => by kernel_rfl
  | 1, 2, false, false, _, _ => by kernel_rfl
  | 1, 2, false, true, _, _ => by kernel_rfl
  | 1, 2, true, false, _, _ => by kernel_rfl
  | 1, 2, true, true, _, _ => by kernel_rfl
  | 2, 0, false, false, _, _ => by kernel_rfl
  | 2, 0, false, true, _, _ => by kernel_rfl
  | 2, 0, true, false, _, _ => by kernel_rfl
  | 2, 0, true, true, _, _ => by kernel_rfl
  | 2, 1, false, false, _, _ => by kernel_rfl
  | 2, 1, false, true, _, _ => by kernel_rfl
  | 2, 1, true, false, _, _ => by kernel_rfl
  | 2, 1, true, true, _, _ => by kernel_rfl
  | 2, 2, false, false, _, _ => by kernel_rfl
  | 2, 2, false, true, _, _ => by kernel_rfl
  | 2, 2, true, false, _, _ => by kernel_rfl
  | 2, 2, true, true, _, _ => by kernel_rfl
  | _ + 3, _, _, _, h, _ => absurd h (by omega)
  | 0, _ + 3, _, _, _, h => absurd h (by omega)
  | 1, _ + 3, _, _, _, h => absurd h (by omega)
  | 2, _ + 3, _, _, _, h => absurd h (by omega)

theorem high_zero (n : Nat) (T : Tm) (d : Nat) (h : T.ctl d ≠ 1) : Tmr.highV n T (d : Int) = false := by
  unfold Tmr.highV Tm.high
  rw [Int.toNat_natCast, decide_eq_false h]; simp
theorem hasT {n d : Nat} (h : d < n) : Tmr.hasB n (d : Int) = true := by simp [Tmr.hasB]; omega
section
variable {c cv tk : Nat}
def tT1 (c cv : Nat) : Tm := zeroT.setV c cv
def tT2 (c cv : Nat) : Tm := (tT1 c cv).setC c 1
def tT4 (c cv tk : Nat) : Tm := (tT2 c cv).tick tk
def tT11 (c cv tk : Nat) : Tm := (tT4 c cv tk).setC c 3
theorem reach2 : reachK 0 24346 = some 2 := by kernel_rfl
theorem reach1 : reachK 0 24345 = some 1 := by kernel_rfl
theorem reach3 : reachK 1 18016 = some 3 := by kernel_rfl
theorem reach5 : reachK 1 18017 = some 5 := by kernel_rfl
theorem set_at {n c k v : Nat} {el sys : Int} {S : Bs} (hc : c < n) (h : reachK el sys = some k) (hw : wrbl k = true) : bsetS n S c el sys v = swS n S c k v ∧ bsetE n c el sys = 0 := by
  unfold bsetS bsetE
  rw [h]
  dsimp only
  rw [has_nat hc, hw, Bool.and_self, if_pos rfl, if_pos rfl]
  exact ⟨rfl, rfl⟩
theorem sys_at {n c k : Nat} {el sys : Int} {S : Bs} (hc : c < n) (h : reachK el sys = some k) (hw : rdbl k = true) : bsysV n S c el sys = srV n S c k ∧ bsysE n c el sys = 0 ∧ bsysS n S c el sys = srS n S c k := by
  unfold bsysV bsysE bsysS
  rw [h]
  dsimp only
  rw [has_nat hc, hw, Bool.and_self, if_pos rfl, if_pos rfl, if_pos rfl]
  exact ⟨rfl, rfl, rfl⟩
theorem wrV {n c v : Nat} {T : Tm} (hc : c < n) : Tmr.writeT n T c 24346 v = T.setV c v := by
  unfold Tmr.writeT
  rw [hasT hc, show Tmr.wregB 24346 = true from rfl, Bool.and_self, if_pos rfl, if_pos rfl, Int.toNat_natCast]
theorem wrC {n c v : Nat} {T : Tm} (hc : c < n) : Tmr.writeT n T c 24345 v = T.setC c v := by
  unfold Tmr.writeT
  rw [hasT hc, show Tmr.wregB 24345 = true from rfl, Bool.and_self, if_pos rfl, if_neg (by decide), Int.toNat_natCast]
theorem st1 (hc : c < 3) : bsetS 3 newS c 0 24346 cv = ⟨tw1, tT1 c cv, []⟩ := by
  rw [(set_at hc reach2 rfl).1]
  show joinS 3 { newS with T := Tmr.writeT 3 zeroT c 24346 cv } = _
  rw [wrV hc]
  unfold joinS tw1
  rw [jn_eq (hs := fun _ => false) 3 fun d hd => high_zero 3 _ d (by show (0 : Int) ≠ 1; decide)]
  rfl
theorem high_at {n c d : Nat} {T : Tm} (hd : d < n) (ho : ∀ j, j ≠ c → T.ctl j ≠ 1) (h1 : T.ctl c = 1) : Tmr.highV n T (d : Int) = (decide (d = c) && decide (T.cval c ≤ T.cnt)) := by
  by_cases e : d = c
  · subst e
    unfold Tmr.highV Tm.high
    rw [hasT hd, Int.toNat_natCast, decide_eq_true h1, decide_eq_true (rfl : d = d)]; simp
  · rw [high_zero n T d (ho d e), decide_eq_false e]; rfl
theorem ctl2 (j : Nat) : (tT2 c cv).ctl j = if j = c then 1 else 0 := by
  show (if j = c then (1 : Int) % 4 else 0) = _
  rfl
theorem st2 (hc : c < 3) : bsetS 3 ⟨tw1, tT1 c cv, []⟩ c 0 24345 1 = ⟨tw2 c (decide ((cv : Int) ≤ 0)), tT2 c cv, []⟩ := by
  rw [(set_at hc reach1 rfl).1]
  show joinS 3 ⟨tw1, Tmr.writeT 3 (tT1 c cv) c 24345 (1 : Nat), []⟩ = _
  rw [wrC hc]
  show (⟨jnF 3 (tT2 c cv) tw1 3, tT2 c cv, []⟩ : Bs) = _
  rw [jn_eq (hs := fun d => decide (d = c) && decide ((cv : Int) ≤ 0)) 3 fun d hd => ?_]
  · rfl
  · rw [high_at (c := c) hd (fun j hj => by rw [ctl2, if_neg hj]; decide) (by rw [ctl2, if_pos rfl])]
    have e1 : (tT2 c cv).cval c = cv := by show (if c = c then (cv : Int) else 0) = cv; rw [if_pos rfl]
    have e2 : (tT2 c cv).cnt = 0 := rfl
    rw [e1, e2]
theorem st3 {a : Bool} (hc : c < 3) : bwrS 3 ⟨tw2 c a, tT2 c cv, []⟩ c 134217728 134217728 = ⟨tw3 c a, tT2 c cv, []⟩ := by
  rw [bwr_at hc find0]; rfl
theorem st4 {a : Bool} (hk : tk < 2 ^ 64) : tickS 3 ⟨tw3 c a, tT2 c cv, []⟩ tk = ⟨tw4 c a (decide ((cv : Int) ≤ tk)), tT4 c cv tk, []⟩ := by
  show (⟨jnF 3 (tT4 c cv tk) (tw3 c a) 3, tT4 c cv tk, []⟩ : Bs) = _
  rw [jn_eq (hs := fun d => decide (d = c) && decide ((cv : Int) ≤ tk)) 3 fun d hd => ?_]
  · rfl
  · rw [high_at (c := c) hd (fun j hj => by show (tT2 c cv).ctl j ≠ 1; rw [ctl2, if_neg hj]; decide) (by show (tT2 c cv).ctl c = 1; rw [ctl2, if_pos rfl])]
    have e1 : (tT4 c cv tk).cval c = cv := by show (if c = c then (cv : Int) else 0) = cv; rw [if_pos rfl]
    have e2 : (tT4 c cv tk).cnt = tk := by show ((0 : Int) + tk) % 18446744073709551616 = tk; omega
    rw [e1, e2]
theorem st11 {a b : Bool} (hc : c < 3) : bsetS 3 ⟨tw10 c a b, tT4 c cv tk, []⟩ c 0 24345 3 = ⟨tw11 c a b, tT11 c cv tk, []⟩ := by
  rw [(set_at hc reach1 rfl).1]
  show joinS 3 ⟨tw10 c a b, Tmr.writeT 3 (tT4 c cv tk) c 24345 (3 : Nat), []⟩ = _
  rw [wrC hc]
  show (⟨jnF 3 (tT11 c cv tk) (tw10 c a b) 3, tT11 c cv tk, []⟩ : Bs) = _
  rw [jn_eq (hs := fun _ => false) 3 fun d hd => high_zero 3 _ d ?_]
  · rfl
  · show (if d = c then (3 : Int) % 4 else (tT2 c cv).ctl d) ≠ 1
    rw [ctl2]
    by_cases e : d = c
    · rw [if_pos e]; decide
    · rw [if_neg e, if_neg e]; decide
end
end Go.Proofs.YteklkololojamaaGreat
