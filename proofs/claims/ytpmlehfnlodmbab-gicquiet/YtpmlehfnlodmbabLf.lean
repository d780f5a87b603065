/- A core with the limit 0, or whose interrupts are all not enabled, takes nothing: the walk. -/
import Derived.Test.YtpmlehfnlodmbabKd
import Derived.Test.YtpmlehfnlodmbabKn
namespace Go.Proofs.Ytpmlehfnlodmbab
open Go.RowKit
set_option linter.unusedVariables false
set_option linter.unusedSimpArgs false
set_option maxRecDepth 8000

def RkOk (P : Pg) : Prop := ∀ r k, 0 ≤ (P.src r k).rank
theorem rk_put {P : Pg} (h : RkOk P) {r k : Nat} {s : Src} (hs : 0 ≤ s.rank) : RkOk (P.put r k s) := fun i j => by
  show 0 ≤ (if i = r ∧ j = k then s else P.src i j).rank
  split
  · exact hs
  · exact h i j
theorem rk_send {P : Pg} (h : RkOk P) (t : Int) (id : Nat) : ∀ c, RkOk (gsendF P t id c)
  | 0 => h
  | c + 1 => by
    have ih := rk_send h t id c
    unfold gsendF
    split
    · exact rk_put ih (ih c id)
    · exact ih
theorem rk_only {n : Nat} {P : Pg} (h : RkOk P) (o : St5) : RkOk (onlyP n P o) := by
  unfold onlyP
  split
  · unfold genableP; split
    · exact h
    · exact rk_put h (h _ _)
  split
  · unfold gpendP; split
    · exact h
    · exact rk_put h (h _ _)
  split
  · unfold glineP; split
    · exact h
    · exact rk_put h (h _ _)
  split
  · unfold grankP; split
    · exact h
    · rename_i hE
      refine rk_put h ?_
      simp only [grankE, Bool.or_eq_true, Bool.not_eq_true', Bool.and_eq_false_iff, decide_eq_false_iff_not, not_or] at hE
      show 0 ≤ o.n
      omega
  split
  · unfold grouteP; split
    · exact h
    · exact rk_put h (h _ _)
  split
  · unfold gmaskP; split
    · exact h
    · exact h
  split
  · unfold gsendP; split
    · exact h
    · exact rk_send h _ _ _
  split
  · unfold ackP; split
    · exact h
    · exact rk_put h (h _ _)
  split
  · unfold geoiP; split
    · exact h
    · split
      · exact h
      · exact rk_put (P := P.setWk _ _) h (h _ _)
  · exact h
theorem rk_pl {n : Nat} (ss : List St5) : ∀ i, RkOk (plP n newP ss i)
  | 0 => fun r k => by show (0 : Int) ≤ 160; decide
  | i + 1 => by
    have ih := rk_pl (n := n) ss i
    unfold plP
    split
    · exact rk_only ih _
    · exact ih
theorem bst_all {n : Nat} {P : Pg} {c : Nat} : ∀ i, (∀ k, k < i → candB n P c k = false) → bstF n P c i = none
  | 0, _ => rfl
  | i + 1, h => by
    rw [bstF, h i (by omega), if_neg (by decide)]
    exact bst_all i fun k hk => h k (by omega)
theorem quiet_end {n : Nat} {P : Pg} {c : Nat} (hc : c < n) (h : ∀ k, k < 64 → candB n P c k = false) : nextV n P c = none := by
  rw [next_nat hc]; exact bst_all 64 h
theorem quiet_mask {P : Pg} (h : RkOk P) (c : Nat) (hc : c < 3) : ∀ k, k < 64 → candB 3 (P.setLim c 0) c k = false := fun k hk => by
  have hr : 0 ≤ (lookV 3 (P.setLim c 0) c k).rank := by
    rw [look_nat hc (by omega) (by omega)]
    exact h _ _
  unfold candB
  rw [decide_eq_false (fun hh => ?_), Bool.and_false]
  have := (min_lt.1 hh).1
  have e : (P.setLim c 0).lim c = 0 := if_pos rfl
  rw [e] at this
  omega
theorem look_put {P : Pg} {c i k : Nat} (hc : c < 3) (hi : i < 64) (hk : k < 64) (s : Src) : lookV 3 (P.put (pr 3 c i) (pk i) s) c k = if k = i then s else lookV 3 P c k := by
  rw [look_nat hc (by omega) (by omega), look_nat hc (by omega) (by omega)]
  show (if pr 3 c k = pr 3 c i ∧ pk k = pk i then s else _) = _
  by_cases e : k = i
  · subst e; rw [if_pos ⟨rfl, rfl⟩, if_pos rfl]
  · rw [if_neg e, if_neg]
    rintro ⟨h1, h2⟩
    apply e
    unfold pr at h1
    unfold pk at h2
    split at h1 <;> split at h1 <;> (try rw [Int.toNat_natCast] at h1) <;> simp_all <;> omega
set_option maxHeartbeats 4000000 in
theorem quiet_walk (v : Value) (ss : List St5) (core : Int) (how : Bool) (W : World) (R : Scr W v ss) (hI : I64 core) : Calls Try.prog 3 #[v, vI core, .bool how] W fun e w' => e = .returned (.bool true) ∧ Below W.heap.size W w' := by
  go_enter Try.func3, Try.ntmps3
  go_upto_region 2 with (first | (go_at_call 5; refine (known_c W).mono ?_; rintro e w1 ⟨rfl, hB1⟩; dsimp only))
  have hmade := made_c R hB1
  go_upto_region 5 with (first | (go_at_call 6; refine hmade.mono ?_; rintro e w2 ⟨g, rfl, L, K⟩; dsimp only))
  clear hmade
  have hlen : ∀ c, c < 3 → ((plP 3 newP ss (min ss.length 100)).wk c).length + 1 < 1000000 := fun c hc => by have := pl_len 3 newP ss c (min ss.length 100); have e : (newP.wk c).length = 0 := rfl; omega
  have hrk := rk_pl (n := 3) ss (min ss.length 100)
  generalize plP 3 newP ss (min ss.length 100) = P at K hlen hrk
  have hW1 := hB1.size
  replace K : KW W.heap.size W g 3 P L w2 := ⟨K.at_, fun k hk => Nat.le_trans hW1 (K.foot k hk), below_then hB1 (Nat.le_refl _) K.below, Nat.le_refl _⟩
  clear hB1 R hW1
  have hcp := pick_lt (c := core) (n := 3) (by decide)
  have hpick := gpick_c core 3 (by decide) (by decide) ⟨hI.1, by have := hI.2; omega⟩ w2
  generalize pickV core 3 = c at hcp hpick
  cases how with
  | true =>
    have hm := gmask_c K.at_ c 0
    have eE : gmaskE 3 c 0 = false := by rw [gmaskE, has_nat hcp]; rfl
    have eP : gmaskP 3 P c 0 = P.setLim c 0 := by rw [gmaskP, eE, if_neg (by decide), Int.toNat_natCast]
    rw [eE, eP] at hm
    have hq := quiet_mask hrk c hcp
    go_upto_region 8 with (first | (go_at_call 7; refine hpick.mono ?_; rintro e w' ⟨rfl, rfl⟩; dsimp only) | (go_at_call 8; refine hm.mono ?_; rintro e w3 ⟨rfl, hT⟩; dsimp only))
    replace K := K.gt hT
    have hlen2 : ∀ d, d < 3 → ((P.setLim c 0).wk d).length + 1 < 1000000 := hlen
    clear hT hm hpick eE eP hlen hrk
    generalize P.setLim c 0 = Q at K hq hlen2
    have hV := quiet_end hcp hq
    have e2 : nextT 3 Q c = nilT := by rw [nextT, hV]; rfl
    have e3 : ackV 3 Q c = 1023 := by rw [ackV, hV]
    have e4 : ackP 3 Q c = Q := by rw [ackP, hV]
    have hrun := grun_c K.at_ c
    go_wp2
    go_loopw [10] (fun s10 wr => s10 = .int .i64 0 ∧ Hid (KW W.heap.size W g 3 Q L wr)) (fun _ _ => 0)
    case atStart => exact ⟨rfl, K⟩
    case round =>
      obtain ⟨rfl, hK⟩ := hrel
      clear K hrun
      have K := hK.out
      have hrun := grun_c K.at_ c
      have hB := Below.refl wr.heap.size wr
      have hbest := fun w' (hb : Below wr.heap.size wr w') => gbest_c (K.at_.grow hb) c
      have hack := fun w' (hb : Below wr.heap.size wr w') => gack_c (K.at_.grow hb) c hlen2
      simp only [hV, e2] at hbest
      simp only [e3, e4] at hack
      replace hbest : ∀ w', Below wr.heap.size wr w' → Calls Try.prog 11 #[ptr g 0, vI c] w' fun e w'' => e = .returned (.tuple #[vI 0, .bool false]) ∧ Below w'.heap.size w' w'' := hbest
      clear hV e2 e3 e4
      go_upto_region 14 with (first | (go_at_call 10; refine hrun.mono ?_; rintro e w4 ⟨rfl, hb⟩; dsimp only; replace hB := below_then hB (Nat.le_refl _) hb; clear hb) | (go_at_call 11; refine (hbest _ hB).mono ?_; rintro e w5 ⟨rfl, hb⟩; dsimp only; replace hB := below_then hB (Nat.le_refl _) hb; clear hb))
      replace K := K.grow hB
      have hak := hack _ hB
      clear hrun hbest hack hB
      go_wp2_with (first | (go_at_call 12; refine hak.mono ?_; rintro e w6 ⟨rfl, hT⟩; dsimp only; obtain ⟨L6, K6⟩ := K.gtl hT; have hr6 := grun_c K6.at_ c; clear hak hT) | (go_at_call 10; refine hr6.mono ?_; rintro e w7 ⟨rfl, hb⟩; dsimp only))
      go_ret
      exact ⟨rfl, (K6.grow hb).below⟩
  | false =>
    go_upto_region 8 with (first | (go_at_call 7; refine hpick.mono ?_; rintro e w' ⟨rfl, rfl⟩; dsimp only))
    go_wp2
    go_loopw [10] (fun s10 wr => ∃ i : Nat, i ≤ 64 ∧ s10 = .int .i64 i ∧ Hid (∃ Q, (∀ d, Q.wk d = P.wk d) ∧ (∀ k, k < i → (lookV 3 Q c k).e = false) ∧ KW W.heap.size W g 3 Q L wr)) (fun s10 _ => 64 - (intOf s10).toNat)
    case atStart => exact ⟨0, Nat.zero_le _, rfl, P, fun _ => rfl, fun k hk => by omega, K⟩
    case round =>
      clear K hpick hrk
      obtain ⟨i, hi, rfl, hH⟩ := hrel
      obtain ⟨Q, hwk, he, K⟩ := hH.out
      clear hH
      by_cases hlt : (i : Int) < 64
      · have hen := genable_c K.at_ c i false
        have eE : genableE 3 c i false = false := bad_nat hcp (by omega) hlt
        have eP : genableP 3 Q c i false = Q.put (pr 3 c i) (pk i) { Q.src (pr 3 c i) (pk i) with e := false } := by rw [genableP, eE, if_neg (by decide)]
        rw [eE, eP] at hen
        go_wp2_with (first | (go_at_call 9; refine hen.mono ?_; rintro e w3 ⟨rfl, hT⟩; dsimp only))
        go_roundw
        case rel =>
          refine ⟨i + 1, by omega, by go_num, Q.put (pr 3 c i) (pk i) { Q.src (pr 3 c i) (pk i) with e := false }, hwk, fun k hk => ?_, K.gt hT⟩
          rw [look_put hcp (by omega) (by omega)]
          split
          · rfl
          · exact he k (by omega)
        case measure => simp [intOf]; omega
      · obtain rfl : i = 64 := by omega
        have hlen2 : ∀ d, d < 3 → (Q.wk d).length + 1 < 1000000 := fun d hd => by rw [hwk d]; exact hlen d hd
        have hq : ∀ k, k < 64 → candB 3 Q c k = false := fun k hk => by rw [candB, waitB, he k hk]; rfl
        clear hwk he hlen
        have hV := quiet_end hcp hq
        have e2 : nextT 3 Q c = nilT := by rw [nextT, hV]; rfl
        have e3 : ackV 3 Q c = 1023 := by rw [ackV, hV]
        have e4 : ackP 3 Q c = Q := by rw [ackP, hV]
        have hrun := grun_c K.at_ c
        have hB := Below.refl wr.heap.size wr
        have hbest := fun w' (hb : Below wr.heap.size wr w') => gbest_c (K.at_.grow hb) c
        have hack := fun w' (hb : Below wr.heap.size wr w') => gack_c (K.at_.grow hb) c hlen2
        simp only [hV, e2] at hbest
        simp only [e3, e4] at hack
        replace hbest : ∀ w', Below wr.heap.size wr w' → Calls Try.prog 11 #[ptr g 0, vI c] w' fun e w'' => e = .returned (.tuple #[vI 0, .bool false]) ∧ Below w'.heap.size w' w'' := hbest
        clear hV e2 e3 e4
        go_upto_region 14 with (first | (go_at_call 10; refine hrun.mono ?_; rintro e w4 ⟨rfl, hb⟩; dsimp only; replace hB := below_then hB (Nat.le_refl _) hb; clear hb) | (go_at_call 11; refine (hbest _ hB).mono ?_; rintro e w5 ⟨rfl, hb⟩; dsimp only; replace hB := below_then hB (Nat.le_refl _) hb; clear hb))
        replace K := K.grow hB
        have hak := hack _ hB
        clear hrun hbest hack hB
        go_wp2_with (first | (go_at_call 12; refine hak.mono ?_; rintro e w6 ⟨rfl, hT⟩; dsimp only; obtain ⟨L6, K6⟩ := K.gtl hT; have hr6 := grun_c K6.at_ c; clear hak hT) | (go_at_call 10; refine hr6.mono ?_; rintro e w7 ⟨rfl, hb⟩; dsimp only))
        go_ret
        exact ⟨rfl, (K6.grow hb).below⟩
end Go.Proofs.Ytpmlehfnlodmbab
