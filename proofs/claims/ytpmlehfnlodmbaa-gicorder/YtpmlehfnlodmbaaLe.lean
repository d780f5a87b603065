/- Interrupts that wait come in the order of their ranks: plain, and the walk. -/
import Derived.Test.YtpmlehfnlodmbaaLd
namespace Go.Proofs.Ytpmlehfnlodmbaa
open Go.RowKit
set_option linter.unusedVariables false
set_option linter.unusedSimpArgs false
set_option maxRecDepth 8000

def updS (S : Nat → Bool) (q : Nat) (b : Bool) : Nat → Bool := fun k => if k = q then b else S k
def cntS (S : Nat → Bool) : Nat → Nat
  | 0 => 0
  | m + 1 => cntS S m + (if S m = true then 1 else 0)
theorem cnt_le (S : Nat → Bool) : ∀ m, cntS S m ≤ m
  | 0 => Nat.le_refl _
  | m + 1 => by have := cnt_le S m; unfold cntS; split <;> omega
theorem cnt_out (S : Nat → Bool) (q : Nat) (b : Bool) : ∀ m, m ≤ q → cntS (updS S q b) m = cntS S m
  | 0, _ => rfl
  | m + 1, h => by
    have e : updS S q b m = S m := if_neg (by omega)
    unfold cntS
    rw [cnt_out S q b m (by omega), e]
theorem cnt_upd (S : Nat → Bool) (q : Nat) (b : Bool) : ∀ m, q < m → cntS (updS S q b) m + (if S q = true then 1 else 0) = cntS S m + (if b = true then 1 else 0)
  | 0, h => by omega
  | m + 1, h => by
    by_cases e : q = m
    · subst e
      have e2 : updS S q b q = b := if_pos rfl
      unfold cntS
      rw [cnt_out S q b q (Nat.le_refl _), e2]
      omega
    · have ih := cnt_upd S q b m (by omega)
      have e2 : updS S q b m = S m := if_neg (fun h => e h.symm)
      unfold cntS
      rw [e2]
      omega
theorem cnt_pos (S : Nat → Bool) : ∀ m, 0 < cntS S m → ∃ k, k < m ∧ S k = true
  | 0, h => by simp [cntS] at h
  | m + 1, h => by
    unfold cntS at h
    by_cases e : S m = true
    · exact ⟨m, by omega, e⟩
    · rw [if_neg e] at h
      obtain ⟨k, h1, h2⟩ := cnt_pos S m (by omega)
      exact ⟨k, by omega, h2⟩
theorem cnt_zero' (S : Nat → Bool) : ∀ m, cntS S m = 0 → ∀ k, k < m → S k = false
  | 0, _, k, hk => by omega
  | m + 1, h, k, hk => by
    unfold cntS at h
    by_cases e : S m = true
    · rw [if_pos e] at h; omega
    · rw [if_neg e] at h
      rcases Nat.lt_or_ge k m with h1 | h1
      · exact cnt_zero' S m (by omega) k h1
      · obtain rfl : k = m := by omega
        simpa using e
/-- Of one core: what waits is S. -/
structure OS (P : Pg) (S : Nat → Bool) : Prop where
  own : ∀ k, (P.src 0 k).e = false
  a : ∀ k, k < 32 → (P.src 1 k).a = false
  h : ∀ k, k < 32 → (P.src 1 k).h = false
  go : ∀ k, k < 32 → (P.src 1 k).goes = 0
  yes : ∀ k, k < 32 → S k = true → (P.src 1 k).e = true ∧ (P.src 1 k).l = true ∧ 0 ≤ (P.src 1 k).rank ∧ (P.src 1 k).rank < 255
  no : ∀ k, k < 32 → S k = false → (P.src 1 k).l = false
  lim : P.lim 0 = 255
  wk : P.wk 0 = []
theorem new_os : OS newP (fun _ => false) := ⟨fun _ => rfl, fun _ _ => rfl, fun _ _ => rfl, fun _ _ => rfl, fun k _ h => (by cases h), fun _ _ _ => rfl, rfl, rfl⟩
theorem os_cand {P : Pg} {S : Nat → Bool} (H : OS P S) {k : Nat} (hk : k < 64) : candB 1 P 0 k = (decide (32 ≤ k) && S (k - 32)) := by
  rw [candB, show ((0 : Nat) : Int) = 0 from rfl, look1 hk]
  by_cases h32 : 32 ≤ k
  · rw [if_pos h32, decide_eq_true h32, Bool.true_and]
    have hk' : k - 32 < 32 := by omega
    have haw : awayB 0 k (P.src 1 (k - 32)) = false := by rw [awayB, H.go _ hk']; simp
    cases hS : S (k - 32) with
    | true =>
      obtain ⟨h1, h2, h3, h4⟩ := H.yes _ hk' hS
      rw [waitB, h1, h2, H.a _ hk', haw, H.lim, H.wk, decide_eq_true (min_lt.2 ⟨h4, by rw [runV_nil]; omega⟩)]
      rfl
    | false =>
      rw [waitB, H.no _ hk' hS, H.h _ hk']
      simp
  · rw [if_neg h32, decide_eq_false h32, Bool.false_and, waitB, H.own k]; rfl
theorem os_put {P : Pg} {S : Nat → Bool} (H : OS P S) {q : Nat} (hq : q < 32) {s : Src} {b : Bool} (h1 : s.a = false) (h2 : s.h = false) (h3 : s.goes = 0) (h4 : b = true → s.e = true ∧ s.l = true ∧ 0 ≤ s.rank ∧ s.rank < 255) (h5 : b = false → s.l = false) : OS (P.put 1 q s) (updS S q b) := by
  have e0 : ∀ k, (P.put 1 q s).src 0 k = P.src 0 k := fun k => by show (if 0 = 1 ∧ k = q then s else P.src 0 k) = _; rw [if_neg (fun h => by omega)]
  have e1 : ∀ k, k ≠ q → (P.put 1 q s).src 1 k = P.src 1 k := fun k hk => by show (if 1 = 1 ∧ k = q then s else P.src 1 k) = _; rw [if_neg (fun h => hk h.2)]
  have eS : ∀ k, k ≠ q → updS S q b k = S k := fun k hk => if_neg hk
  have eq1 : updS S q b q = b := if_pos rfl
  refine ⟨fun k => by rw [e0]; exact H.own k, fun k hk => ?_, fun k hk => ?_, fun k hk => ?_, fun k hk hS => ?_, fun k hk hS => ?_, H.lim, H.wk⟩
  all_goals (by_cases e : k = q)
  · subst e; rw [put_src]; exact h1
  · rw [e1 k e]; exact H.a k hk
  · subst e; rw [put_src]; exact h2
  · rw [e1 k e]; exact H.h k hk
  · subst e; rw [put_src]; exact h3
  · rw [e1 k e]; exact H.go k hk
  · subst e; rw [put_src]; exact h4 (by rw [← eq1]; exact hS)
  · rw [e1 k e]; exact H.yes k hk (by rw [← eS k e]; exact hS)
  · subst e; rw [put_src]; exact h5 (by rw [← eq1]; exact hS)
  · rw [e1 k e]; exact H.no k hk (by rw [← eS k e]; exact hS)
/-- The first that comes. -/
theorem os_next {P : Pg} {S : Nat → Bool} (H : OS P S) (hpos : 0 < cntS S 32) : ∃ q, q < 32 ∧ S q = true ∧ nextV 1 P 0 = some ⟨(P.src 1 q).rank, 32 + (q : Int)⟩ ∧ ∀ k, k < 32 → S k = true → ltT ⟨(P.src 1 k).rank, 32 + (k : Int)⟩ ⟨(P.src 1 q).rank, 32 + (q : Int)⟩ = false := by
  have hn : nextV 1 P 0 = bstF 1 P 0 64 := next_nat (n := 1) (c := 0) (by decide)
  have hlk : ∀ k, k < 32 → lookV 1 P ((0 : Nat) : Int) ((32 + k : Nat) : Int) = P.src 1 k := fun k hk => by
    rw [show ((0 : Nat) : Int) = 0 from rfl, look1 (by omega), if_pos (by omega), show 32 + k - 32 = k by omega]
  have hcd : ∀ k, k < 32 → S k = true → candB 1 P 0 (32 + k) = true := fun k hk hS => by
    rw [os_cand H (by omega), decide_eq_true (by omega), show 32 + k - 32 = k by omega, hS]; rfl
  cases hb : bstF 1 P 0 64 with
  | none =>
    obtain ⟨k, h1, h2⟩ := cnt_pos S 32 hpos
    have := bst_none 64 hb (32 + k) (by omega)
    rw [hcd k h1 h2] at this
    cases this
  | some t =>
    obtain ⟨⟨k0, g1, g2, g3⟩, g4⟩ := bst_some 64 t hb
    rw [os_cand H g1] at g2
    simp only [Bool.and_eq_true, decide_eq_true_eq] at g2
    obtain ⟨q, rfl⟩ : ∃ q, k0 = 32 + q := ⟨k0 - 32, by omega⟩
    rw [show 32 + q - 32 = q by omega] at g2
    have hq : q < 32 := by omega
    have et : t = ⟨(P.src 1 q).rank, 32 + (q : Int)⟩ := by rw [g3, hlk q hq]; simp
    refine ⟨q, hq, g2.2, by rw [hn, hb, et], fun k hk hS => ?_⟩
    have := g4 (32 + k) (by omega) (hcd k hk hS)
    rw [hlk k hk, et] at this
    simpa using this
theorem os_none {P : Pg} {S : Nat → Bool} (H : OS P S) (h0 : cntS S 32 = 0) : nextV 1 P 0 = none := by
  have hn : nextV 1 P 0 = bstF 1 P 0 64 := next_nat (n := 1) (c := 0) (by decide)
  cases hb : bstF 1 P 0 64 with
  | none => rw [hn, hb]
  | some t =>
    obtain ⟨⟨k0, g1, g2, g3⟩, _⟩ := bst_some 64 t hb
    rw [os_cand H g1] at g2
    simp only [Bool.and_eq_true, decide_eq_true_eq] at g2
    rw [cnt_zero' S 32 h0 (k0 - 32) (by omega)] at g2
    cases g2.2
/-- A controller, and the table of what waits. -/
structure KT (B : Nat) (w0 : World) (g : Nat) (P : Pg) (L : GLay) (d : Nat) (S : Nat → Bool) (w : World) : Prop where
  kw : KW B w0 g 1 P L w
  tab : ∃ C, w.heap[d]? = some (.cells C 51 (0, 0)) ∧ C.size = 64 ∧ ∀ k, k < 32 → C[32 + k]? = some (.bool (S k))
  dB : B ≤ d
section
variable {B : Nat} {w0 : World} {g : Nat} {P Q : Pg} {L : GLay} {d : Nat} {S : Nat → Bool} {w w' : World}
theorem KT.nf (H : KT B w0 g P L d S w) : d < w.heap.size ∧ ¬ GFoot g 1 L d := by
  obtain ⟨C, h, _⟩ := H.tab
  exact ⟨lt_of_some h, H.kw.at_.notFoot h (by decide) (by decide) (by decide)⟩
theorem KT.keep (H : KT B w0 g P L d S w) (h : w'.heap[d]? = w.heap[d]?) {Q : Pg} {L' : GLay} (K : KW B w0 g 1 Q L' w') : KT B w0 g Q L' d S w' := ⟨K, by rw [h]; exact H.tab, H.dB⟩
theorem KT.grow (H : KT B w0 g P L d S w) (hb : Below w.heap.size w w') : KT B w0 g P L d S w' := H.keep (hb.block d H.nf.1) (H.kw.grow hb)
theorem KT.gt (H : KT B w0 g P L d S w) (h : GT g 1 L Q w w') : KT B w0 g Q L d S w' := H.keep (h.2.block d H.nf.1 H.nf.2) (H.kw.gt h)
theorem KT.gtl (H : KT B w0 g P L d S w) (h : GTL g 1 L Q w w') : ∃ L', KT B w0 g Q L' d S w' := by
  obtain ⟨L', K'⟩ := H.kw.gtl h
  obtain ⟨_, _, h2, _⟩ := h
  exact ⟨L', H.keep (h2.block d H.nf.1 H.nf.2) K'⟩
theorem KT.get (H : KT B w0 g P L d S w) {q : Nat} (hq : q < 32) : w.cell? ⟨d, 32 + q, none⟩ = some (.bool (S q)) ∧ w.frozen? ⟨d, 32 + q, none⟩ = false := by
  obtain ⟨C, h1, _, h3⟩ := H.tab
  exact ⟨by rw [cell_of_row _ _ _ _ _ _ h1]; exact h3 q hq, frozen_of_row _ _ _ _ _ h1⟩
theorem KT.put (H : KT B w0 g P L d S w) {q : Nat} (hq : q < 32) (b : Bool) : KT B w0 g P L d (updS S q b) (w.setCell ⟨d, 32 + q, none⟩ (.bool b)) := by
  have hnf := H.nf
  obtain ⟨C, h1, h2, h3⟩ := H.tab
  have G := goes_setCell w (F := fun k => k = d) rfl (32 + q) (.bool b)
  refine ⟨⟨H.kw.at_.keep fun k hk => G.block k (H.kw.at_.lt hk) fun e => hnf.2 (e ▸ hk), H.kw.foot, H.kw.below.trans (G.below (Nat.le_trans H.kw.le H.kw.below.size) fun k hk => by rw [hk]; exact H.dB), H.kw.le⟩, ⟨_, heap_setCell_same w d _ C 51 _ h1, by simp [h2], fun k hk => ?_⟩, H.dB⟩
  by_cases e : k = q
  · subst e; rw [Array.getElem?_setIfInBounds_self_of_lt (by omega)]; simp [updS]
  · rw [Array.getElem?_setIfInBounds_ne (by omega), h3 k hk]; simp [updS, e]
theorem or_rank (K : KT B w0 g P L d S w) {i : Nat} (hi : i < 32) {r : Int} (h0 : 0 ≤ r) (h1 : r ≤ 255) : Calls Try.prog 25 #[ptr g 0, vI 0, vI (32 + (i : Int)), vI r] w fun e w' => e = .returned (vI 0) ∧ KT B w0 g (P.put 1 i { P.src 1 i with rank := r }) L d S w' := by
  have hE : grankE 1 0 (32 + (i : Int)) r = false := by rw [grankE, bad1 hi, decide_eq_true h0, decide_eq_true h1]; rfl
  have h := grank_c K.kw.at_ 0 (32 + (i : Int)) r
  rw [hE, grankP, hE, if_neg (by decide), if_neg (by decide), pr1, pk1] at h
  refine h.mono ?_
  rintro e w' ⟨rfl, hT⟩
  exact ⟨rfl, K.gt hT⟩
theorem or_enable (K : KT B w0 g P L d S w) {i : Nat} (hi : i < 32) : Calls Try.prog 26 #[ptr g 0, vI 0, vI (32 + (i : Int)), .bool true] w fun e w' => e = .returned (vI 0) ∧ KT B w0 g (P.put 1 i { P.src 1 i with e := true }) L d S w' := by
  have hE : genableE 1 0 (32 + (i : Int)) true = false := bad1 hi
  have h := genable_c K.kw.at_ 0 (32 + (i : Int)) true
  rw [hE, genableP, hE, if_neg (by decide), if_neg (by decide), pr1, pk1] at h
  refine h.mono ?_
  rintro e w' ⟨rfl, hT⟩
  exact ⟨rfl, K.gt hT⟩
theorem or_pend (K : KT B w0 g P L d S w) {i : Nat} (hi : i < 32) : Calls Try.prog 27 #[ptr g 0, vI 0, vI (32 + (i : Int)), .bool true] w fun e w' => e = .returned (vI 0) ∧ KT B w0 g (P.put 1 i { P.src 1 i with l := true }) L d S w' := by
  have hE : gpendE 1 0 (32 + (i : Int)) true = false := bad1 hi
  have h := gpend_c K.kw.at_ 0 (32 + (i : Int)) true
  rw [hE, gpendP, hE, if_neg (by decide), if_neg (by decide), pr1, pk1] at h
  refine h.mono ?_
  rintro e w' ⟨rfl, hT⟩
  exact ⟨rfl, K.gt hT⟩
theorem os_wk {P : Pg} {S : Nat → Bool} (H : OS P S) : OS (P.setWk 0 []) S := ⟨H.own, H.a, H.h, H.go, H.yes, H.no, H.lim, by simp [Pg.setWk]⟩
theorem or_eoi (K : KT B w0 g P L d S w) {q : Nat} (hq : q < 32) {r : Int} (hwk : P.wk 0 = [⟨r, 32 + (q : Int)⟩]) : Calls Try.prog 28 #[ptr g 0, vI 0, vI (32 + (q : Int))] w fun e w' => e = .returned (.tuple #[.bool true, vI 0]) ∧ ∃ L', KT B w0 g ((P.setWk 0 []).put 1 q { P.src 1 q with a := false }) L' d S w' := by
  have hx : idxF (P.wk 0) (32 + (q : Int)) = some 0 := by rw [hwk]; simp [idxF]
  have h := geoi_c K.kw.at_ 0 (32 + (q : Int))
  have e1 : eoiB 1 P 0 (32 + (q : Int)) = true := by
    show (!badB 1 0 (32 + (q : Int)) && (idxF (P.wk 0) (32 + (q : Int))).isSome) = true
    rw [bad1 hq, hx]; rfl
  have e2 : geoiE 1 0 (32 + (q : Int)) = 0 := by rw [geoiE, bad1 hq]; rfl
  have e3 : geoiP 1 P 0 (32 + (q : Int)) = (P.setWk 0 []).put 1 q { P.src 1 q with a := false } := by
    show (if badB 1 0 (32 + (q : Int)) then P else match idxF (P.wk 0) (32 + (q : Int)) with | none => P | some k => (P.setWk 0 ((P.wk 0).eraseIdx k)).put (pr 1 0 (32 + (q : Int))) (pk (32 + (q : Int))) { P.src (pr 1 0 (32 + (q : Int))) (pk (32 + (q : Int))) with a := false }) = _
    rw [bad1 hq, hx, hwk, pr1, pk1]; rfl
  rw [e1, e2, e3] at h
  refine h.mono ?_
  rintro e w' ⟨rfl, hT⟩
  exact ⟨rfl, K.gtl hT⟩
theorem or_rate (K : KT B w0 g P L d S w) {q : Nat} (hq : q < 32) : Calls Try.prog 18 #[ptr g 0, vI 0, vI (32 + (q : Int))] w fun e w' => e = .returned (vI (P.src 1 q).rank) ∧ KT B w0 g P L d S w' := by
  have h := rate_c K.kw.at_ 0 (32 + (q : Int))
  have e := look_nat (n := 1) (c := 0) (P := P) (i := 32 + (q : Int)) (by decide) (by omega) (by omega)
  rw [show ((0 : Nat) : Int) = 0 from rfl, pr1, pk1] at e
  rw [e] at h
  refine h.mono ?_
  rintro e w' ⟨rfl, hb⟩
  exact ⟨rfl, K.grow hb⟩
end
/-- Behind i of the numbers. -/
def OrW (W : World) (g d : Nat) (many : Nat) (w : World) : Prop := ∃ P L S, OS P S ∧ many = cntS S 32 ∧ KT W.heap.size W g P L d S w
/-- While they come. -/
def OrE (W : World) (g d many : Nat) (i : Nat) (last lr : Int) (w : World) : Prop := ∃ P L S, OS P S ∧ cntS S 32 + i = many ∧ (∀ k, k < 32 → S k = true → lr < (P.src 1 k).rank ∨ lr = (P.src 1 k).rank ∧ last < 32 + (k : Int)) ∧ KT W.heap.size W g P L d S w
set_option maxHeartbeats 4000000 in
theorem order_walk (v v' : Value) (zs rs : List Int) (W : World) (R : Raw W v zs) (R' : Raw W v' rs) : Calls Try.prog 7 #[v, v'] W fun e w' => e = .returned (.bool true) ∧ Below W.heap.size W w' := by
  obtain ⟨ao, cap, ev⟩ := R.len
  obtain ⟨ao', cap', ev'⟩ := R'.len
  go_enter Try.func7, Try.ntmps7
  go_upto_region 2 with (first | (go_at_call 9; refine (known_c W).mono ?_; rintro e w1 ⟨rfl, hB1⟩; dsimp only))
  have hnew := new_c 1 (by decide) (by decide) w1
  go_upto_region 5 with (first | (go_at_call 10; refine hnew.mono ?_; rintro e w2 ⟨g, rfl, hG, hB2, hg⟩; dsimp only))
  obtain ⟨L, K⟩ := newKW hG hB2
  have hW1 := hB1.size
  replace K : KW W.heap.size W g 1 newP L w2 := ⟨K.at_, fun k hk => Nat.le_trans hW1 (K.foot k hk), below_then hB1 (Nat.le_refl _) K.below, Nat.le_refl _⟩
  clear hnew hG hB2 hg hB1 hW1
  go_upto_region 6 with fail
  generalize hw3 : World.alloc _ _ = w3
  have hN : OrW W g w2.heap.size 0 w3 := by
    rw [← hw3]
    refine ⟨newP, L, fun _ => false, new_os, by rfl, K.grow (below_alloc _ _), ⟨_, heap_alloc_new _ _, by kernel_rfl, fun k hk => ?_⟩, K.below.size⟩
    have : k = 0 ∨ k = 1 ∨ k = 2 ∨ k = 3 ∨ k = 4 ∨ k = 5 ∨ k = 6 ∨ k = 7 ∨ k = 8 ∨ k = 9 ∨ k = 10 ∨ k = 11 ∨ k = 12 ∨ k = 13 ∨ k = 14 ∨ k = 15 ∨ k = 16 ∨ k = 17 ∨ k = 18 ∨ k = 19 ∨ k = 20 ∨ k = 21 ∨ k = 22 ∨ k = 23 ∨ k = 24 ∨ k = 25 ∨ k = 26 ∨ k = 27 ∨ k = 28 ∨ k = 29 ∨ k = 30 ∨ k = 31 := by omega
    rcases this with rfl | rfl | rfl | rfl | rfl | rfl | rfl | rfl | rfl | rfl | rfl | rfl | rfl | rfl | rfl | rfl | rfl | rfl | rfl | rfl | rfl | rfl | rfl | rfl | rfl | rfl | rfl | rfl | rfl | rfl | rfl | rfl <;> rfl
  clear hw3 K
  generalize w2.heap.size = d at hN ⊢
  rw [ev, ev']
  go_wp2
  go_loopw [9, 10, 11, 12] (fun s9 s10 _ _ wr => ∃ (i many : Nat), i ≤ 40 ∧ i ≤ zs.length ∧ s10 = .int .i64 i ∧ s9 = .int .i64 many ∧ Hid (OrW W g d many wr)) (fun _ s10 _ _ _ => 40 - (intOf s10).toNat)
  case atStart => exact ⟨0, 0, Nat.zero_le _, Nat.zero_le _, rfl, rfl, hN⟩
  case round =>
    clear hN
    obtain ⟨i, many, hi40, hiz, rfl, rfl, hH⟩ := hrel
    obtain ⟨P, L, S, hOS, hm, K⟩ := hH.out
    clear hH
    have hm32 : many ≤ 32 := by rw [hm]; exact cnt_le S 32
    replace hm := show Hid _ from hm
    by_cases h1 : (i : Int) < zs.length
    · by_cases h2 : (i : Int) < 40
      · have hs := List.getElem?_eq_getElem (l := zs) (i := i) (by omega)
        generalize zs[i] = x at hs
        obtain ⟨ra, cap2, ev2, hc⟩ := R.at K.kw.below hs
        rw [ev] at ev2
        cases ev2
        have hwf := R.wf x (List.mem_of_getElem? hs)
        have hp := gpick_c x 32 (by decide) (by decide) ⟨hwf.1, by have := hwf.2; omega⟩ wr
        have hq := pick_lt (c := x) (n := 32) (by decide)
        generalize pickV x 32 = q at hp hq
        go_upto_region 12 with (first | (go_at_call 15; refine hp.mono ?_; rintro e w' ⟨rfl, rfl⟩; dsimp only))
        clear hp hc
        by_cases h3 : (i : Int) < rs.length
        · have hs' := List.getElem?_eq_getElem (l := rs) (i := i) (by omega)
          generalize rs[i] = y at hs'
          obtain ⟨rb, cap3, ev3, hc'⟩ := R'.at K.kw.below hs'
          rw [ev'] at ev3
          cases ev3
          have hwf' := R'.wf y (List.mem_of_getElem? hs')
          have hp' := fun w => gpick_c y 6 (by decide) (by decide) ⟨hwf'.1, by have := hwf'.2; omega⟩ w
          have hr := pick_lt (c := y) (n := 6) (by decide)
          generalize pickV y 6 = rn at hp' hr
          obtain ⟨r, hrn⟩ : ∃ r : Int, r = rn := ⟨_, rfl⟩
          have hr0 : 0 ≤ r := by omega
          have hr1 : r ≤ 7 := by omega
          simp only [← hrn] at hp'
          clear hrn hr
          go_upto_region 14 with (first | (go_at_call 15; refine (hp' _).mono ?_; rintro e w' ⟨rfl, rfl⟩; dsimp only))
          clear hp' hc'
          have hrk := or_rank K hq hr0 (show r ≤ 255 by omega)
          go_upto_region 16 with (first | (go_at_call 25; refine hrk.mono ?_; rintro e w3 ⟨rfl, K1⟩; dsimp only; have hen := or_enable K1 hq; rw [put_put, put_src] at hen; clear hrk) | (go_at_call 26; refine hen.mono ?_; rintro e w4 ⟨rfl, K2⟩; dsimp only; have hpe := or_pend K2 hq; rw [put_put, put_src] at hpe; clear hen) | (go_at_call 27; refine hpe.mono ?_; rintro e w5 ⟨rfl, K3⟩; dsimp only; clear hpe))
          clear K1 K2 K
          have hOS2 := os_put hOS hq (s := { P.src 1 q with rank := r, e := true, l := true }) (b := true) (hOS.a q hq) (hOS.h q hq) (hOS.go q hq) (fun _ => ⟨rfl, rfl, hr0, show r < 255 by omega⟩) (fun h => by cases h)
          obtain ⟨z, fz⟩ := K3.get hq
          have hcu := cnt_upd S q true 32 hq
          cases hS : S q with
          | true =>
            rw [hS] at z hcu
            go_wp2
            go_roundw
            case rel =>
              refine ⟨i + 1, many, by omega, by omega, by go_num, rfl, _, L, S, ?_, hm.out, K3⟩
              have e : updS S q true = S := by
                funext k
                by_cases e : k = q
                · subst e; rw [hS]; exact if_pos rfl
                · exact if_neg e
              rw [e] at hOS2
              exact hOS2
            case measure => simp [intOf]; omega
          | false =>
            rw [hS] at z hcu
            have K4 := K3.put hq true
            go_upto_region 18 with fail
            generalize World.setCell _ _ _ = w6 at K4 ⊢
            clear z fz
            replace hcu : cntS (updS S q true) 32 + 0 = cntS S 32 + 1 := hcu
            have hm1 : many + 1 = cntS (updS S q true) 32 := by rw [hm.out]; omega
            replace hm1 := show Hid _ from hm1
            clear hcu
            go_wp2
            go_roundw
            case rel => exact ⟨i + 1, many + 1, by omega, by omega, by go_num, by go_num, _, L, _, hOS2, hm1.out, K4⟩
            case measure => simp [intOf]; omega
        · obtain ⟨r, hrn⟩ : ∃ r : Int, r = 7 := ⟨_, rfl⟩
          have hr0 : 0 ≤ r := by omega
          have hr1 : r ≤ 7 := by omega
          go_upto_region 14 with fail
          rw [show (Value.int IntKind.i64 7) = vI r by rw [hrn]]
          clear hrn
          have hrk := or_rank K hq hr0 (show r ≤ 255 by omega)
          go_upto_region 16 with (first | (go_at_call 25; refine hrk.mono ?_; rintro e w3 ⟨rfl, K1⟩; dsimp only; have hen := or_enable K1 hq; rw [put_put, put_src] at hen; clear hrk) | (go_at_call 26; refine hen.mono ?_; rintro e w4 ⟨rfl, K2⟩; dsimp only; have hpe := or_pend K2 hq; rw [put_put, put_src] at hpe; clear hen) | (go_at_call 27; refine hpe.mono ?_; rintro e w5 ⟨rfl, K3⟩; dsimp only; clear hpe))
          clear K1 K2 K
          have hOS2 := os_put hOS hq (s := { P.src 1 q with rank := r, e := true, l := true }) (b := true) (hOS.a q hq) (hOS.h q hq) (hOS.go q hq) (fun _ => ⟨rfl, rfl, hr0, show r < 255 by omega⟩) (fun h => by cases h)
          obtain ⟨z, fz⟩ := K3.get hq
          have hcu := cnt_upd S q true 32 hq
          cases hS : S q with
          | true =>
            rw [hS] at z hcu
            go_wp2
            go_roundw
            case rel =>
              refine ⟨i + 1, many, by omega, by omega, by go_num, rfl, _, L, S, ?_, hm.out, K3⟩
              have e : updS S q true = S := by
                funext k
                by_cases e : k = q
                · subst e; rw [hS]; exact if_pos rfl
                · exact if_neg e
              rw [e] at hOS2
              exact hOS2
            case measure => simp [intOf]; omega
          | false =>
            rw [hS] at z hcu
            have K4 := K3.put hq true
            go_upto_region 18 with fail
            generalize World.setCell _ _ _ = w6 at K4 ⊢
            clear z fz
            replace hcu : cntS (updS S q true) 32 + 0 = cntS S 32 + 1 := hcu
            have hm1 : many + 1 = cntS (updS S q true) 32 := by rw [hm.out]; omega
            replace hm1 := show Hid _ from hm1
            clear hcu
            go_wp2
            go_roundw
            case rel => exact ⟨i + 1, many + 1, by omega, by omega, by go_num, by go_num, _, L, _, hOS2, hm1.out, K4⟩
            case measure => simp [intOf]; omega
      · have hE : OrE W g d many 0 (-1) (-1) wr := ⟨P, L, S, hOS, by rw [hm.out]; rfl, fun k hk hS => .inl (by have := (hOS.yes k hk hS).2.2.1; omega), K⟩
        clear K hOS hm
        go_wp2
        go_loopw [13, 14, 15, 16, 17, 18, 19] (fun s13 s14 s15 _ _ _ _ wr => ∃ (j : Nat) (last lr : Int), j ≤ many ∧ s15 = .int .i64 j ∧ s13 = .int .i64 last ∧ s14 = .int .i64 lr ∧ Hid (OrE W g d many j last lr wr)) (fun _ _ s15 _ _ _ _ _ => many - (intOf s15).toNat)
        case atStart => exact ⟨0, -1, -1, Nat.zero_le _, rfl, rfl, rfl, hE⟩
        case round =>
          clear hE
          obtain ⟨j, last, lr, hj, rfl, rfl, rfl, hH⟩ := hrel
          obtain ⟨P, L, S, hOS, hcn, hlex, K⟩ := hH.out
          clear hH
          have hlen : ∀ c, c < 1 → (P.wk c).length + 1 < 1000000 := fun c hc => by
            obtain rfl : c = 0 := by omega
            rw [hOS.wk]; decide
          have hack := gack_c K.kw.at_ 0 hlen
          by_cases hjm : (j : Int) < many
          · obtain ⟨q, hq, hSq, hN, hmin⟩ := os_next hOS (by omega)
            obtain ⟨y1, y2, y3, y4⟩ := hOS.yes q hq hSq
            have hlq := hlex q hq hSq
            generalize hrk : (P.src 1 q).rank = r at hN hmin hlq y3 y4
            have e1 : ackV 1 P 0 = 32 + (q : Int) := by rw [ackV, hN]
            have e2 : ackP 1 P 0 = (P.put 1 q { P.src 1 q with l := false, a := true }).setWk 0 [⟨r, 32 + (q : Int)⟩] := by
              rw [ackP, hN]
              dsimp only
              rw [pr1, pk1, show (0 : Int).toNat = 0 from rfl, hOS.wk]
              rfl
            rw [e1, e2] at hack
            clear e1 e2 hN
            obtain ⟨z, fz⟩ := K.get hq
            rw [hSq] at z
            replace hrk := show Hid _ from hrk
            go_upto_region 25 with (first | (go_at_call 24; refine hack.mono ?_; rintro e w3 ⟨rfl, hT⟩; dsimp only))
            obtain ⟨L3, K3⟩ := K.gtl hT
            clear hT hack K z fz
            obtain ⟨z, fz⟩ := K3.get hq
            rw [hSq] at z
            have hq1 : ¬ (32 + (q : Int) < 32) := by omega
            have hq2 : ¬ (63 < 32 + (q : Int)) := by omega
            have hrate := or_rate K3 hq
            have hsr : (((P.put 1 q { P.src 1 q with l := false, a := true }).setWk 0 [⟨r, 32 + (q : Int)⟩]).src 1 q) = { P.src 1 q with l := false, a := true } := put_src _ _ _ _
            rw [hsr] at hrate
            replace hrate : Calls Try.prog 18 #[ptr g 0, vI 0, vI (32 + (q : Int))] w3 fun e w' => e = .returned (vI (P.src 1 q).rank) ∧ KT W.heap.size W g ((P.put 1 q { P.src 1 q with l := false, a := true }).setWk 0 [⟨r, 32 + (q : Int)⟩]) L3 d S w' := hrate
            rw [hrk.out] at hrate
            go_upto_region 28 with (first | (go_at_call 18; refine hrate.mono ?_; rintro e w4 ⟨rfl, K4⟩; dsimp only))
            clear hrate K3 z fz
            obtain ⟨z, fz⟩ := K4.get hq
            rw [hSq] at z
            have K5 := K4.put hq false
            have hlr : ¬ r < lr := by omega
            have hlt3 : (r == lr) = false ∨ ((r == lr) = true ∧ ¬ (32 + (q : Int) ≤ last)) := by
              rcases hlq with h | ⟨h, h'⟩
              · left; simp; omega
              · right; exact ⟨by simp; omega, by omega⟩
            replace hlq := show Hid _ from hlq
            rcases hlt3 with hl3 | ⟨hl3, hl4⟩
            all_goals
              go_upto_region 31 with fail
              generalize World.setCell _ _ _ = w5 at K5 ⊢
              clear z fz K4
              have heoi := or_eoi K5 hq (r := r) (show (if 0 = 0 then [(⟨r, 32 + (q : Int)⟩ : Trn)] else P.wk 0) = _ from if_pos rfl)
              rw [hsr] at heoi
              go_wp2_with (first | (go_at_call 28; refine heoi.mono ?_; rintro e w6 ⟨rfl, L6, K6⟩; dsimp only))
              go_roundw
              case rel =>
                refine ⟨j + 1, 32 + (q : Int), r, by omega, by go_num, rfl, rfl, _, L6, updS S q false, ?_, ?_, fun k hk hS => ?_, K6⟩
                · have hp := os_wk (os_put hOS hq (s := { P.src 1 q with l := false, a := false }) (b := false) rfl (hOS.h q hq) (hOS.go q hq) (fun h => by cases h) (fun _ => rfl))
                  have e : (((P.put 1 q { P.src 1 q with l := false, a := true }).setWk 0 [⟨r, 32 + (q : Int)⟩]).setWk 0 []).put 1 q { P.src 1 q with l := false, a := false } = (P.put 1 q { P.src 1 q with l := false, a := false }).setWk 0 [] := by
                    simp only [Pg.put, Pg.setWk, Pg.mk.injEq, true_and]
                    constructor
                    · funext i' j'
                      by_cases e : i' = 1 ∧ j' = q
                      · simp [e]
                      · simp [e]
                    · funext c'
                      by_cases e : c' = 0
                      · simp [e]
                      · simp [e]
                  rw [← e] at hp
                  exact hp
                · have hcu := cnt_upd S q false 32 hq
                  rw [hSq] at hcu
                  simp at hcu
                  omega
                · have hkq : k ≠ q := by rintro rfl; simp [updS] at hS
                  have hSk : S k = true := by simpa [updS, hkq] using hS
                  have hmk := hmin k hk hSk
                  rw [ltT_false] at hmk
                  dsimp only at hmk
                  have er : ((((P.put 1 q { P.src 1 q with l := false, a := true }).setWk 0 [⟨r, 32 + (q : Int)⟩]).setWk 0 []).put 1 q { P.src 1 q with l := false, a := false }).src 1 k = P.src 1 k := by
                    show (if 1 = 1 ∧ k = q then _ else (if 1 = 1 ∧ k = q then _ else P.src 1 k)) = _
                    rw [if_neg (fun h => hkq h.2), if_neg (fun h => hkq h.2)]
                  rw [er]
                  omega
              case measure => simp [intOf]; omega
          · have h0 : cntS S 32 = 0 := by omega
            have hN := os_none hOS h0
            have e1 : ackV 1 P 0 = 1023 := by rw [ackV, hN]
            rw [e1] at hack
            clear e1 hN h0
            go_wp2_with (first | (go_at_call 24; refine hack.mono ?_; rintro e w3 ⟨rfl, hT⟩; dsimp only))
            go_ret
            obtain ⟨L3, K3⟩ := K.gtl hT
            exact ⟨rfl, K3.kw.below⟩
    · have hE : OrE W g d many 0 (-1) (-1) wr := ⟨P, L, S, hOS, by rw [hm.out]; rfl, fun k hk hS => .inl (by have := (hOS.yes k hk hS).2.2.1; omega), K⟩
      clear K hOS hm
      go_wp2
      go_loopw [13, 14, 15, 16, 17, 18, 19] (fun s13 s14 s15 _ _ _ _ wr => ∃ (j : Nat) (last lr : Int), j ≤ many ∧ s15 = .int .i64 j ∧ s13 = .int .i64 last ∧ s14 = .int .i64 lr ∧ Hid (OrE W g d many j last lr wr)) (fun _ _ s15 _ _ _ _ _ => many - (intOf s15).toNat)
      case atStart => exact ⟨0, -1, -1, Nat.zero_le _, rfl, rfl, rfl, hE⟩
      case round =>
        clear hE
        obtain ⟨j, last, lr, hj, rfl, rfl, rfl, hH⟩ := hrel
        obtain ⟨P, L, S, hOS, hcn, hlex, K⟩ := hH.out
        clear hH
        have hlen : ∀ c, c < 1 → (P.wk c).length + 1 < 1000000 := fun c hc => by
          obtain rfl : c = 0 := by omega
          rw [hOS.wk]; decide
        have hack := gack_c K.kw.at_ 0 hlen
        by_cases hjm : (j : Int) < many
        · obtain ⟨q, hq, hSq, hN, hmin⟩ := os_next hOS (by omega)
          obtain ⟨y1, y2, y3, y4⟩ := hOS.yes q hq hSq
          have hlq := hlex q hq hSq
          generalize hrk : (P.src 1 q).rank = r at hN hmin hlq y3 y4
          have e1 : ackV 1 P 0 = 32 + (q : Int) := by rw [ackV, hN]
          have e2 : ackP 1 P 0 = (P.put 1 q { P.src 1 q with l := false, a := true }).setWk 0 [⟨r, 32 + (q : Int)⟩] := by
            rw [ackP, hN]
            dsimp only
            rw [pr1, pk1, show (0 : Int).toNat = 0 from rfl, hOS.wk]
            rfl
          rw [e1, e2] at hack
          clear e1 e2 hN
          obtain ⟨z, fz⟩ := K.get hq
          rw [hSq] at z
          replace hrk := show Hid _ from hrk
          go_upto_region 25 with (first | (go_at_call 24; refine hack.mono ?_; rintro e w3 ⟨rfl, hT⟩; dsimp only))
          obtain ⟨L3, K3⟩ := K.gtl hT
          clear hT hack K z fz
          obtain ⟨z, fz⟩ := K3.get hq
          rw [hSq] at z
          have hq1 : ¬ (32 + (q : Int) < 32) := by omega
          have hq2 : ¬ (63 < 32 + (q : Int)) := by omega
          have hrate := or_rate K3 hq
          have hsr : (((P.put 1 q { P.src 1 q with l := false, a := true }).setWk 0 [⟨r, 32 + (q : Int)⟩]).src 1 q) = { P.src 1 q with l := false, a := true } := put_src _ _ _ _
          rw [hsr] at hrate
          replace hrate : Calls Try.prog 18 #[ptr g 0, vI 0, vI (32 + (q : Int))] w3 fun e w' => e = .returned (vI (P.src 1 q).rank) ∧ KT W.heap.size W g ((P.put 1 q { P.src 1 q with l := false, a := true }).setWk 0 [⟨r, 32 + (q : Int)⟩]) L3 d S w' := hrate
          rw [hrk.out] at hrate
          go_upto_region 28 with (first | (go_at_call 18; refine hrate.mono ?_; rintro e w4 ⟨rfl, K4⟩; dsimp only))
          clear hrate K3 z fz
          obtain ⟨z, fz⟩ := K4.get hq
          rw [hSq] at z
          have K5 := K4.put hq false
          have hlr : ¬ r < lr := by omega
          have hlt3 : (r == lr) = false ∨ ((r == lr) = true ∧ ¬ (32 + (q : Int) ≤ last)) := by
            rcases hlq with h | ⟨h, h'⟩
            · left; simp; omega
            · right; exact ⟨by simp; omega, by omega⟩
          replace hlq := show Hid _ from hlq
          rcases hlt3 with hl3 | ⟨hl3, hl4⟩
          all_goals
            go_upto_region 31 with fail
            generalize World.setCell _ _ _ = w5 at K5 ⊢
            clear z fz K4
            have heoi := or_eoi K5 hq (r := r) (show (if 0 = 0 then [(⟨r, 32 + (q : Int)⟩ : Trn)] else P.wk 0) = _ from if_pos rfl)
            rw [hsr] at heoi
            go_wp2_with (first | (go_at_call 28; refine heoi.mono ?_; rintro e w6 ⟨rfl, L6, K6⟩; dsimp only))
            go_roundw
            case rel =>
              refine ⟨j + 1, 32 + (q : Int), r, by omega, by go_num, rfl, rfl, _, L6, updS S q false, ?_, ?_, fun k hk hS => ?_, K6⟩
              · have hp := os_wk (os_put hOS hq (s := { P.src 1 q with l := false, a := false }) (b := false) rfl (hOS.h q hq) (hOS.go q hq) (fun h => by cases h) (fun _ => rfl))
                have e : (((P.put 1 q { P.src 1 q with l := false, a := true }).setWk 0 [⟨r, 32 + (q : Int)⟩]).setWk 0 []).put 1 q { P.src 1 q with l := false, a := false } = (P.put 1 q { P.src 1 q with l := false, a := false }).setWk 0 [] := by
                  simp only [Pg.put, Pg.setWk, Pg.mk.injEq, true_and]
                  constructor
                  · funext i' j'
                    by_cases e : i' = 1 ∧ j' = q
                    · simp [e]
                    · simp [e]
                  · funext c'
                    by_cases e : c' = 0
                    · simp [e]
                    · simp [e]
                rw [← e] at hp
                exact hp
              · have hcu := cnt_upd S q false 32 hq
                rw [hSq] at hcu
                simp at hcu
                omega
              · have hkq : k ≠ q := by rintro rfl; simp [updS] at hS
                have hSk : S k = true := by simpa [updS, hkq] using hS
                have hmk := hmin k hk hSk
                rw [ltT_false] at hmk
                dsimp only at hmk
                have er : ((((P.put 1 q { P.src 1 q with l := false, a := true }).setWk 0 [⟨r, 32 + (q : Int)⟩]).setWk 0 []).put 1 q { P.src 1 q with l := false, a := false }).src 1 k = P.src 1 k := by
                  show (if 1 = 1 ∧ k = q then _ else (if 1 = 1 ∧ k = q then _ else P.src 1 k)) = _
                  rw [if_neg (fun h => hkq h.2), if_neg (fun h => hkq h.2)]
                rw [er]
                omega
            case measure => simp [intOf]; omega
        · have h0 : cntS S 32 = 0 := by omega
          have hN := os_none hOS h0
          have e1 : ackV 1 P 0 = 1023 := by rw [ackV, hN]
          rw [e1] at hack
          clear e1 hN h0
          go_wp2_with (first | (go_at_call 24; refine hack.mono ?_; rintro e w3 ⟨rfl, hT⟩; dsimp only))
          go_ret
          obtain ⟨L3, K3⟩ := K.gtl hT
          exact ⟨rfl, K3.kw.below⟩
end Go.Proofs.Ytpmlehfnlodmbaa
