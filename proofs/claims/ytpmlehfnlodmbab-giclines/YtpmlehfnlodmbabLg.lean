/- An interrupt whose line stays high comes again as often as it is ended: the walk. -/
import Derived.Test.YtpmlehfnlodmbabKd
import Derived.Test.YtpmlehfnlodmbabKn
namespace Go.Proofs.Ytpmlehfnlodmbab
open Go.RowKit
set_option linter.unusedVariables false
set_option linter.unusedSimpArgs false
set_option maxRecDepth 8000

theorem bst_one {n : Nat} {P : Pg} {c j : Nat} (h : ∀ k, k < 64 → k ≠ j → candB n P c k = false) : ∀ i, i ≤ 64 → bstF n P c i = if j < i ∧ candB n P c j = true then some ⟨(lookV n P c j).rank, j⟩ else none
  | 0, _ => by rw [if_neg (fun h => by omega)]; rfl
  | i + 1, hi => by
    have ih := bst_one h i (by omega)
    by_cases e : i = j
    · subst e
      rw [if_neg (fun h => by omega)] at ih
      rw [bstF, ih]
      cases hc : candB n P c i with
      | true => rw [if_pos rfl, if_pos ⟨by omega, rfl⟩]
      | false => rw [if_neg (by decide), if_neg (fun h => by cases h.2)]
    · rw [bstF, h i (by omega) e, if_neg (by decide), ih]
      by_cases e2 : j < i ∧ candB n P c j = true
      · rw [if_pos e2, if_pos ⟨by omega, e2.2⟩]
      · rw [if_neg e2, if_neg (fun h => e2 ⟨by omega, h.2⟩)]
/-- One interrupt alone is touched, of the core 0. -/
structure IsL (m : Nat) (P : Pg) (s : Src) (l : List Trn) : Prop where
  at_ : P.src (pr 2 0 m) (pk m) = s
  rest : ∀ i j, ¬ (i = pr 2 0 m ∧ j = pk m) → P.src i j = s160
  lim : P.lim 0 = 255
  wk : P.wk 0 = l
  wk1 : P.wk 1 = []
theorem isL_put {m : Nat} {P : Pg} {s t : Src} {l : List Trn} (h : IsL m P s l) : IsL m (P.put (pr 2 0 m) (pk m) t) t l :=
  ⟨put_src _ _ _ _, fun i j hn => by show (if i = pr 2 0 m ∧ j = pk m then t else P.src i j) = _; rw [if_neg hn]; exact h.rest i j hn, h.lim, h.wk, h.wk1⟩
theorem isL_wk {m : Nat} {P : Pg} {s : Src} {l : List Trn} (h : IsL m P s l) (l' : List Trn) : IsL m (P.setWk 0 l') s l' := ⟨h.at_, h.rest, h.lim, by simp [Pg.setWk], h.wk1⟩
theorem isL_look {m : Nat} {P : Pg} {s : Src} {l : List Trn} (h : IsL m P s l) (hm : m < 64) {k : Nat} (hk : k < 64) : lookV 2 P 0 k = if k = m then s else s160 := by
  have e := look_nat (n := 2) (c := 0) (P := P) (i := (k : Int)) (by decide) (by omega) (by omega)
  rw [show ((0 : Nat) : Int) = 0 from rfl] at e
  rw [e]
  by_cases e2 : k = m
  · subst e2; rw [if_pos rfl]; exact h.at_
  · rw [if_neg e2]
    refine h.rest _ _ fun hh => e2 ?_
    obtain ⟨h1, h2⟩ := hh
    unfold pr at h1
    unfold pk at h2
    split at h1 <;> split at h1 <;> simp_all <;> omega
theorem isL_next {m : Nat} {P : Pg} {s : Src} {l : List Trn} (h : IsL m P s l) (hm : m < 64) (hg : s.goes = 0) (hr : s.rank < minV 255 (runV l)) : nextV 2 P 0 = if waitB s = true then some ⟨s.rank, m⟩ else none := by
  have hn : nextV 2 P 0 = bstF 2 P 0 64 := next_nat (n := 2) (c := 0) (by decide)
  have hlk := fun k hk => isL_look h hm (k := k) hk
  have hc : candB 2 P 0 m = waitB s := by
    rw [candB, show ((0 : Nat) : Int) = 0 from rfl, hlk m hm, if_pos rfl, h.lim, h.wk, decide_eq_true hr, awayB, hg]
    simp
  rw [hn, bst_one (j := m) (fun k hk hne => by
    rw [candB, show ((0 : Nat) : Int) = 0 from rfl, hlk k hk, if_neg hne]; rfl) 64 (Nat.le_refl _), hc]
  have hrk : (lookV 2 P ((0 : Nat) : Int) m).rank = s.rank := by rw [show ((0 : Nat) : Int) = 0 from rfl, hlk m hm, if_pos rfl]
  rw [hrk]
  cases waitB s with
  | true => rw [if_pos ⟨hm, rfl⟩, if_pos rfl]
  | false => rw [if_neg (fun h => by cases h.2), if_neg (by decide)]
theorem new_isL (m : Nat) : IsL m newP s160 [] := ⟨rfl, fun _ _ _ => rfl, rfl, rfl, rfl⟩
def sUp : Src := ⟨true, false, true, false, 160, 0⟩
def sAc : Src := ⟨true, false, true, true, 160, 0⟩
def sDn : Src := ⟨true, false, false, false, 160, 0⟩
theorem bad2 {m : Nat} (hm : m < 64) : badB 2 0 m = false := bad_nat (n := 2) (c := 0) (by decide) (by omega) (by omega)
theorem isL_none {m : Nat} {P : Pg} {s : Src} {l : List Trn} (h : IsL m P s l) (hm : m < 64) (hw : waitB s = false) : nextV 2 P 0 = none := by
  have hn : nextV 2 P 0 = bstF 2 P 0 64 := next_nat (n := 2) (c := 0) (by decide)
  have hlk := fun k hk => isL_look h hm (k := k) hk
  rw [hn, bst_one (j := m) (fun k hk hne => by
    rw [candB, show ((0 : Nat) : Int) = 0 from rfl, hlk k hk, if_neg hne]; rfl) 64 (Nat.le_refl _), if_neg]
  rintro ⟨_, h2⟩
  rw [candB, show ((0 : Nat) : Int) = 0 from rfl, hlk m hm, if_pos rfl, hw] at h2
  cases h2
section
variable {g m : Nat} {P : Pg} {L : GLay} {w : World} {B : Nat} {w0 : World} {l : List Trn}
theorem ln_line (K : KW B w0 g 2 P L w) (on : Bool) {s : Src} (hI : IsL m P s l) (h16 : 16 ≤ m) (h64 : m < 64) : Calls Try.prog 14 #[ptr g 0, vI 0, vI m, .bool on] w fun e w' => e = .returned (vI 0) ∧ ∃ Q, IsL m Q { s with h := on } l ∧ KW B w0 g 2 Q L w' := by
  have hE : glineE 2 0 m on = false := by rw [glineE, bad2 h64, decide_eq_false (by omega)]; rfl
  have h := gline_c K.at_ 0 m on
  rw [hE, glineP, hE, if_neg (by decide), if_neg (by decide), hI.at_] at h
  refine h.mono ?_
  rintro e w' ⟨rfl, hT⟩
  exact ⟨rfl, _, isL_put hI, K.gt hT⟩
theorem ln_enable (K : KW B w0 g 2 P L w) {s : Src} (hI : IsL m P s l) (h64 : m < 64) : Calls Try.prog 9 #[ptr g 0, vI 0, vI m, .bool true] w fun e w' => e = .returned (vI 0) ∧ ∃ Q, IsL m Q { s with e := true } l ∧ KW B w0 g 2 Q L w' := by
  have hE : genableE 2 0 m true = false := bad2 h64
  have h := genable_c K.at_ 0 m true
  rw [hE, genableP, hE, if_neg (by decide), if_neg (by decide), hI.at_] at h
  refine h.mono ?_
  rintro e w' ⟨rfl, hT⟩
  exact ⟨rfl, _, isL_put hI, K.gt hT⟩
theorem ln_ack (K : KW B w0 g 2 P L w) (hI : IsL m P sUp []) (h64 : m < 64) : Calls Try.prog 12 #[ptr g 0, vI 0] w fun e w' => e = .returned (vI m) ∧ ∃ Q L', IsL m Q sAc [⟨160, m⟩] ∧ KW B w0 g 2 Q L' w' := by
  have hN : nextV 2 P 0 = some ⟨160, m⟩ := by rw [isL_next hI h64 rfl (by decide)]; rfl
  have h := gack_c K.at_ 0 (fun c hc => by
    match c, hc with
    | 0, _ => rw [hI.wk]; decide
    | 1, _ => rw [hI.wk1]; decide)
  have e1 : ackV 2 P 0 = m := by rw [ackV, hN]
  have e2 : ackP 2 P 0 = (P.put (pr 2 0 m) (pk m) { P.src (pr 2 0 m) (pk m) with l := false, a := true }).setWk 0 (P.wk 0 ++ [⟨160, m⟩]) := by rw [ackP, hN]; rfl
  rw [e1, e2, hI.at_, hI.wk] at h
  refine h.mono ?_
  rintro e w' ⟨rfl, hT⟩
  obtain ⟨L', K'⟩ := K.gtl hT
  exact ⟨rfl, _, L', isL_wk (isL_put hI) _, K'⟩
theorem ln_none (K : KW B w0 g 2 P L w) {s : Src} (hI : IsL m P s l) (hl : l.length + 1 < 1000000) (h64 : m < 64) (hw : waitB s = false) : Calls Try.prog 12 #[ptr g 0, vI 0] w fun e w' => e = .returned (vI 1023) ∧ ∃ L', KW B w0 g 2 P L' w' := by
  have hN := isL_none hI h64 hw
  have h := gack_c K.at_ 0 (fun c hc => by
    match c, hc with
    | 0, _ => rw [hI.wk]; exact hl
    | 1, _ => rw [hI.wk1]; decide)
  have e1 : ackV 2 P 0 = 1023 := by rw [ackV, hN]
  have e2 : ackP 2 P 0 = P := by rw [ackP, hN]
  rw [e1, e2] at h
  refine h.mono ?_
  rintro e w' ⟨rfl, hT⟩
  exact ⟨rfl, K.gtl hT⟩
theorem ln_eoi (K : KW B w0 g 2 P L w) (hI : IsL m P sAc [⟨160, m⟩]) (h64 : m < 64) : Calls Try.prog 15 #[ptr g 0, vI 0, vI m] w fun e w' => e = .returned (.tuple #[.bool true, vI 0]) ∧ ∃ Q L', IsL m Q sUp [] ∧ KW B w0 g 2 Q L' w' := by
  have hx : idxF (P.wk 0) m = some 0 := by rw [hI.wk]; simp [idxF]
  have h := geoi_c K.at_ 0 m
  have e1 : eoiB 2 P 0 m = true := by
    show (!badB 2 0 m && (idxF (P.wk 0) m).isSome) = true
    rw [bad2 h64, hx]; rfl
  have e2 : geoiE 2 0 m = 0 := by rw [geoiE, bad2 h64]; rfl
  have e3 : geoiP 2 P 0 m = (P.setWk 0 []).put (pr 2 0 m) (pk m) { P.src (pr 2 0 m) (pk m) with a := false } := by
    show (if badB 2 0 m then P else match idxF (P.wk 0) m with | none => P | some k => (P.setWk 0 ((P.wk 0).eraseIdx k)).put (pr 2 0 m) (pk m) { P.src (pr 2 0 m) (pk m) with a := false }) = _
    rw [bad2 h64, hx, hI.wk]; rfl
  rw [e1, e2, e3, hI.at_] at h
  refine h.mono ?_
  rintro e w' ⟨rfl, hT⟩
  obtain ⟨L', K'⟩ := K.gtl hT
  exact ⟨rfl, _, L', isL_put (isL_wk hI []), K'⟩
theorem ln_pend (K : KW B w0 g 2 P L w) {s : Src} (hI : IsL m P s l) (h64 : m < 64) : Calls Try.prog 16 #[ptr g 0, vI 0, vI m] w fun e w' => e = .returned (.bool (s.l || s.h)) ∧ KW B w0 g 2 P L w' := by
  have h := pending_c K.at_ 0 m
  rw [isL_look hI h64 h64, if_pos rfl] at h
  refine h.mono ?_
  rintro e w' ⟨rfl, hb⟩
  exact ⟨rfl, K.grow hb⟩
theorem ln_act (K : KW B w0 g 2 P L w) {s : Src} (hI : IsL m P s l) (h64 : m < 64) : Calls Try.prog 17 #[ptr g 0, vI 0, vI m] w fun e w' => e = .returned (.bool s.a) ∧ KW B w0 g 2 P L w' := by
  have h := active_c K.at_ 0 m
  rw [isL_look hI h64 h64, if_pos rfl] at h
  refine h.mono ?_
  rintro e w' ⟨rfl, hb⟩
  exact ⟨rfl, K.grow hb⟩
end
/-- Ready to come. -/
def LnR (W : World) (g m : Nat) (w : World) : Prop := ∃ P L, IsL m P sUp [] ∧ KW W.heap.size W g 2 P L w
set_option maxHeartbeats 2000000 in
theorem lines_walk (id times : Int) (W : World) (hi : I64 id) (ht : I64 times) : Calls Try.prog 4 #[vI id, vI times] W fun e w' => e = .returned (.bool true) ∧ Below W.heap.size W w' := by
  go_enter Try.func4, Try.ntmps4
  go_upto_region 2 with (first | (go_at_call 5; refine (known_c W).mono ?_; rintro e w1 ⟨rfl, hB1⟩; dsimp only))
  have hnew := new_c 2 (by decide) (by decide) w1
  go_upto_region 5 with (first | (go_at_call 13; refine hnew.mono ?_; rintro e w2 ⟨g, rfl, hG, hB2, hg⟩; dsimp only))
  obtain ⟨L, K⟩ := newKW hG hB2
  have hW1 := hB1.size
  replace K : KW W.heap.size W g 2 newP L w2 := ⟨K.at_, fun k hk => Nat.le_trans hW1 (K.foot k hk), below_then hB1 (Nat.le_refl _) K.below, Nat.le_refl _⟩
  clear hnew hG hB2 hg hB1 hW1
  have hp48 := pick_lt (c := id) (n := 48) (by decide)
  have hpick := gpick_c id 48 (by decide) (by decide) ⟨hi.1, by have := hi.2; omega⟩ w2
  generalize pickV id 48 = q at hp48 hpick
  obtain ⟨m, hm⟩ : ∃ m : Nat, m = 16 + q := ⟨_, rfl⟩
  have h16 : 16 ≤ m := by omega
  have h64 : m < 64 := by omega
  have hmi : IntKind.i64.wrap (16 + (q : Int)) = m := by rw [IntKind.wrap_i64]; omega
  have hmi2 : (16 + (q : Int)) = m := by omega
  have hl := ln_line K true (new_isL m) h16 h64
  clear hm hmi
  go_upto_region 6 with (first | (go_at_call 7; refine hpick.mono ?_; rintro e w' ⟨rfl, rfl⟩; dsimp only))
  go_upto_region 8 with (first | (go_at_call 14; refine hl.mono ?_; rintro e w3 ⟨rfl, P1, I1, K1⟩; dsimp only) | (go_at_call 9; refine (ln_enable K1 I1 h64).mono ?_; rintro e w4 ⟨rfl, P2, I2, K2⟩; dsimp only))
  have hR : LnR W g m w4 := ⟨P2, L, I2, K2⟩
  clear hl K1 I1 I2 K2 K hpick
  have hp20 := fun w => gpick_c times 20 (by decide) (by decide) ⟨ht.1, by have := ht.2; omega⟩ w
  have ht20 := pick_lt (c := times) (n := 20) (by decide)
  generalize pickV times 20 = tt at hp20 ht20
  go_wp2
  go_loopw [9, 10, 11] (fun s9 _ _ wr => ∃ i : Nat, i ≤ tt ∧ s9 = .int .i64 i ∧ Hid (LnR W g m wr)) (fun s9 _ _ _ => tt - (intOf s9).toNat)
  case atStart => exact ⟨0, Nat.zero_le _, rfl, hR⟩
  case round =>
    clear hR
    obtain ⟨i, hit, rfl, hH⟩ := hrel
    obtain ⟨P, L, I, K⟩ := hH.out
    clear hH
    by_cases hlt : (i : Int) < tt
    · have hack := ln_ack K I h64
      go_upto_region 11 with (first | (go_at_call 7; refine (hp20 _).mono ?_; rintro e w' ⟨rfl, rfl⟩; dsimp only))
      go_upto_region 13 with (first | (go_at_call 12; first | (refine hack.mono ?_; rintro e w5 ⟨rfl, P1, L1, I1, K1⟩; dsimp only; have hack2 := ln_none K1 I1 (by simp) h64 rfl; clear hack) | (refine hack2.mono ?_; rintro e w6 ⟨rfl, L2, K2⟩; dsimp only; clear hack2)))
      have heoi := ln_eoi K2 I1 h64
      go_upto_region 14 with (first | (go_at_call 15; refine heoi.mono ?_; rintro e w7 ⟨rfl, P3, L3, I3, K3⟩; dsimp only))
      have hpe := ln_pend K3 I3 h64
      go_wp2_with (first | (go_at_call 16; refine hpe.mono ?_; rintro e w8 ⟨rfl, K4⟩; dsimp only [sUp]))
      go_roundw
      case rel => exact ⟨i + 1, by omega, by go_num, P3, L3, I3, K4⟩
      case measure => simp [intOf]; omega
    · have hln := ln_line K false I h16 h64
      go_upto_region 17 with (first | (go_at_call 7; refine (hp20 _).mono ?_; rintro e w' ⟨rfl, rfl⟩; dsimp only) | (go_at_call 14; refine hln.mono ?_; rintro e w5 ⟨rfl, P1, I1, K1⟩; dsimp only))
      have hack := ln_none K1 I1 (by decide) h64 rfl
      go_wp2_with (first | (go_at_call 12; refine hack.mono ?_; rintro e w6 ⟨rfl, L2, K2⟩; dsimp only; clear hack) | (go_at_call 16; refine (ln_pend K2 I1 h64).mono ?_; rintro e w7 ⟨rfl, K3⟩; dsimp only [sUp]) | (go_at_call 17; refine (ln_act K3 I1 h64).mono ?_; rintro e w8 ⟨rfl, K4⟩; dsimp only [sUp]))
      go_ret
      exact ⟨rfl, K4.below⟩
end Go.Proofs.Ytpmlehfnlodmbab
