/- pick, made, play. -/
import Derived.Test.YtjkjbcnafpljoaaKn
namespace Go.Proofs.Ytjkjbcnafpljoaa
open Go.RowKit
set_option linter.unusedVariables false
set_option linter.unusedSimpArgs false

def pickV (c n : Int) : Int := (if c < 0 then -(c + 1) else c) % n
def I64 (n : Int) : Prop := -9223372036854775808 ≤ n ∧ n ≤ 9223372036854775807
theorem pick_in (c : Int) {n : Int} (hn : 0 < n) : 0 ≤ pickV c n ∧ pickV c n < n := ⟨Int.emod_nonneg _ (by omega), Int.emod_lt_of_pos _ hn⟩
theorem pick_c (c n : Int) (w : World) (hc : I64 c) (hn : 0 < n) (hn2 : n < 1000000) : Calls Try.prog 18 #[vI c, vI n] w fun e w' => e = .returned (vI (pickV c n)) ∧ w' = w := by
  have h1 := hc.1
  have h2 := hc.2
  have hn0 : ¬ n = 0 := by omega
  unfold pickV
  by_cases h : c < 0
  · rw [if_pos h]
    have e1 : IntKind.i64.wrap (c + 1) = c + 1 := by rw [IntKind.wrap_i64]; omega
    have e2 : IntKind.i64.wrap (-(c + 1)) = -(c + 1) := by rw [IntKind.wrap_i64]; omega
    have hm : (-(c + 1)).tmod n = (-(c + 1)) % n := Int.tmod_eq_emod_of_nonneg (by omega)
    have e3 : IntKind.i64.wrap ((-(c + 1)) % n) = (-(c + 1)) % n := by
      have := Int.emod_nonneg (-(c + 1)) hn0
      have := Int.emod_lt_of_pos (-(c + 1)) hn
      rw [IntKind.wrap_i64]; omega
    have key : -((c + 1).tmod n) = (-(c + 1)) % n := by rw [← Int.neg_tmod]; exact hm
    clear hm e3
    go_enter Try.func18, Try.ntmps18
    go_wp2
    go_ret
    exact ⟨rfl, rfl⟩
  · rw [if_neg h]
    have hm : c.tmod n = c % n := Int.tmod_eq_emod_of_nonneg (by omega)
    have e3 : IntKind.i64.wrap (c % n) = c % n := by
      have := Int.emod_nonneg c hn0
      have := Int.emod_lt_of_pos c hn
      rw [IntKind.wrap_i64]; omega
    go_enter Try.func18, Try.ntmps18
    go_wp2
    go_ret
    exact ⟨rfl, rfl⟩
theorem made_c (d : Int) (w : World) (h1 : 1 ≤ d) (h2 : d ≤ 32) : Calls Try.prog 23 #[vI d] w fun e w' => ∃ g, e = .returned (ptr g 0) ∧ LR w g (newS 4 3 d) [] w' := by
  have hB : newB ((4 : Nat) : Int) ((3 : Nat) : Int) d = true := by simp only [newB, Bool.and_eq_true, decide_eq_true_eq]; omega
  go_enter Try.func23, Try.ntmps23
  go_wp2_with (go_at_call 10; refine (new_l 4 3 d _ hB).mono ?_; rintro e w1 ⟨g, rfl, H⟩; dsimp only)
  go_ret
  exact ⟨g, rfl, H⟩
/-- A slice of numbers that came in. -/
structure Raw (w0 : World) (v : Value) (zs : List Int) : Prop where
  len : ∃ ao cap, v = .slice ao zs.length cap
  max : zs.length ≤ maxLen
  cell : 0 < zs.length → ∃ (ra : Addr) (cap : Nat), v = .slice (some ra) zs.length cap ∧ ∀ i x, zs[i]? = some x → (ra.add i).block < w0.heap.size ∧ w0.cell? (ra.add i) = some (vI x)
  wf : ∀ x ∈ zs, I64 x
def plStep (S : Sta) (i : Nat) (x : Int) : Sta := if pickV x 36 / 3 % 4 = 3 then drainS S (pickV x 36 % 3) else storeS S (pickV x 36 % 3) (8 * (pickV x 36 / 12)) (i + 1)
def plS (S : Sta) (zs : List Int) : Nat → Sta
  | 0 => S
  | i + 1 => plStep (plS S zs i) i (zs.getD i 0)
/-- What is kept of the sizes. -/
structure Szs (S T : Sta) : Prop where
  b : T.bufs.length = S.bufs.length
  w : T.words.length = S.words.length
  d : T.depth = S.depth
theorem store_szs (S : Sta) (core addr value : Int) : Szs S (storeS S core addr value) ∧ (storeS S core addr value).stamps.length ≤ S.stamps.length + 1 := by
  unfold storeS
  split
  · exact ⟨⟨by simp, rfl, rfl⟩, by simp⟩
  · exact ⟨⟨rfl, rfl, rfl⟩, by omega⟩
theorem drain_szs (S : Sta) (core : Int) : Szs S (drainS S core) ∧ (drainS S core).stamps.length = S.stamps.length := by
  have := drain_len S core
  refine ⟨⟨this.1, this.2.2, ?_⟩, this.2.1⟩
  unfold drainS
  split <;> rfl
theorem Szs.trans {S T U : Sta} (h : Szs S T) (k : Szs T U) : Szs S U := ⟨k.b.trans h.b, k.w.trans h.w, k.d.trans h.d⟩
theorem pl_ok {S : Sta} (O : S.Ok) (zs : List Int) (i : Nat) : (plS S zs i).Ok ∧ Szs S (plS S zs i) ∧ (plS S zs i).stamps.length ≤ S.stamps.length + i := by
  induction i with
  | zero => exact ⟨O, ⟨rfl, rfl, rfl⟩, Nat.le_refl _⟩
  | succ i ih =>
    obtain ⟨h1, h2, h3⟩ := ih
    rw [plS, plStep]
    have hp := pick_in (zs.getD i 0) (n := 36) (by decide)
    split
    · obtain ⟨k1, k2⟩ := drain_szs (plS S zs i) (pickV (zs.getD i 0) 36 % 3)
      exact ⟨h1.drain _, h2.trans k1, by omega⟩
    · obtain ⟨k1, k2⟩ := store_szs (plS S zs i) (pickV (zs.getD i 0) 36 % 3) (8 * (pickV (zs.getD i 0) 36 / 12)) (i + 1)
      exact ⟨h1.store _ _ _ (by omega), h2.trans k1, by omega⟩
theorem LR.nil {w0 w : World} {g : Nat} {S : Sta} {R : List (Value × List Lt)} (h : LR w0 g S R w) : LR w0 g S [] w := h.less fun _ h => by cases h
set_option maxRecDepth 8000 in
set_option maxHeartbeats 2000000 in
theorem play_c {w0 w : World} {g : Nat} {S : Sta} (H : LR w0 g S [] w) (O : S.Ok) (hb : S.bufs.length = 3) (hw : S.words.length = 4) (hst : S.stamps.length = 0) (v : Value) (zs : List Int) (R : Raw w0 v zs) : Calls Try.prog 24 #[ptr g 0, v, vI S.depth] w fun e w' => e = .returned (.bool true) ∧ ∃ i, i ≤ 150 ∧ LR w0 g (plS S zs i) [] w' := by
  obtain ⟨ao, cap, ev⟩ := R.len
  have hmx := R.max
  simp only [maxLen] at hmx
  go_enter Try.func24, Try.ntmps24
  go_wp2
  go_loopw [7] (fun s7 wr => ∃ i : Nat, i ≤ zs.length ∧ i ≤ 150 ∧ s7 = .int .i64 i ∧ Hid (LR w0 g (plS S zs i) [] wr)) (fun s7 _ => 150 - (intOf s7).toNat)
  case atStart => exact ⟨0, Nat.zero_le _, Nat.zero_le _, rfl, H⟩
  case round =>
    obtain ⟨i, hi1, hi2, rfl, hH⟩ := hrel
    have P := hH.out
    clear hH H
    obtain ⟨Oi, Zi, Ti⟩ := pl_ok O zs i
    by_cases hlt : (i : Int) < zs.length
    · by_cases h150 : (i : Int) < 150
      · have hi3 : i < zs.length := by omega
        obtain ⟨ra, rc, e2, hrc⟩ := R.cell (by omega)
        have hx : zs[i]? = some zs[i] := List.getElem?_eq_getElem hi3
        have hg : zs.getD i 0 = zs[i] := by simp [List.getD, hx]
        have hwf := R.wf zs[i] (List.getElem_mem hi3)
        obtain ⟨hrb, z⟩ := hrc i _ hx
        have hnext : plS S zs (i + 1) = plStep (plS S zs i) i zs[i] := by rw [plS, hg]
        generalize zs[i] = x at hx hwf z hnext
        clear hg hrc
        rw [← P.below.cell (p := ra.add i) hrb] at z
        subst e2
        have hi0 : (0 : Int) ≤ i := by omega
        obtain ⟨p0, p1⟩ := pick_in x (n := 36) (by decide)
        rw [plStep] at hnext
        generalize hn : pickV x 36 = n at p0 p1 hnext
        generalize plS S zs i = T at P Oi Zi Ti hnext
        have hT3 : T.bufs.length = 3 := by rw [Zi.b, hb]
        have hT4 : T.words.length = 4 := by rw [Zi.w, hw]
        have hTd : T.depth = S.depth := Zi.d
        have hTs : T.stamps.length < 1000000 := by omega
        have t1 : n.tmod 3 = n % 3 := Int.tmod_eq_emod_of_nonneg p0
        have t2 : n.tdiv 3 = n / 3 := Int.tdiv_eq_ediv_of_nonneg p0
        have t3 : (n / 3).tmod 4 = n / 3 % 4 := Int.tmod_eq_emod_of_nonneg (by omega)
        have t4 : n.tdiv 12 = n / 12 := Int.tdiv_eq_ediv_of_nonneg p0
        obtain ⟨c, hc⟩ : ∃ c, c = n % 3 := ⟨_, rfl⟩
        obtain ⟨q, hq⟩ : ∃ q, q = n / 12 := ⟨_, rfl⟩
        obtain ⟨k, hk⟩ : ∃ k, k = n / 3 % 4 := ⟨_, rfl⟩
        have hc0 : 0 ≤ c := by omega
        have hc1 : c < 3 := by omega
        have hq0 : 0 ≤ q := by omega
        have hq1 : q < 3 := by omega
        have hk0 : 0 ≤ k := by omega
        have hk1 : k < 4 := by omega
        have hm0 : 0 ≤ n / 3 := by omega
        have hm1 : n / 3 < 12 := by omega
        rw [← hc] at t1 hnext
        rw [← hk] at t3 hnext
        rw [← hq] at t4 hnext
        have w1 : IntKind.i64.wrap c = c := by rw [IntKind.wrap_i64]; omega
        have w2 : IntKind.i64.wrap q = q := by rw [IntKind.wrap_i64]; omega
        have w3 : IntKind.i64.wrap k = k := by rw [IntKind.wrap_i64]; omega
        have w4 : IntKind.i64.wrap (n / 3) = n / 3 := by rw [IntKind.wrap_i64]; omega
        have w5 : IntKind.i64.wrap (8 * q) = 8 * q := by rw [IntKind.wrap_i64]; omega
        have w6 : IntKind.u64.wrap (8 * q) = 8 * q := by rw [IntKind.wrap_u64]; omega
        have w7 : IntKind.u64.wrap ((i : Int) + 1) = (i : Int) + 1 := by rw [IntKind.wrap_u64]; omega
        have hcb : hasCoreB T c = true := by simp only [hasCoreB, hT3, Bool.and_eq_true, decide_eq_true_eq]; omega
        have hwb : hasWordB T (8 * q) = true := by simp only [hasWordB, withinB, hT4, Bool.and_eq_true, beq_iff_eq, decide_eq_true_eq]; omega
        have hA : U64 (8 * q) := ⟨by omega, by omega⟩
        have hhl : heldL T c = bufOf T c := by rw [heldL, hcb]; rfl
        replace hn := show Hid _ from hn
        replace hc := show Hid _ from hc
        replace hq := show Hid _ from hq
        replace hk := show Hid _ from hk
        replace hx := show Hid _ from hx
        by_cases hk3 : k = 3
        · rw [if_pos hk3] at hnext
          go_wp2_with (first | (go_at_call 18; refine (pick_c x 36 _ hwf (by decide) (by decide)).mono ?_; rintro e w' ⟨rfl, rfl⟩; dsimp only; rw [hn.out]) | (go_at_call 28; refine (drain_l P Oi c hTs).mono ?_; rintro e w2 ⟨rfl, P2⟩; dsimp only))
          go_roundw
          case rel => exact ⟨i + 1, by omega, by omega, by go_num, by rw [hnext]; exact P2⟩
          case measure => simp [intOf]; omega
        · rw [if_neg hk3] at hnext
          by_cases hd : T.depth ≤ (bufOf T c).length
          · have hE : storeE T c (8 * q) = 30 := by rw [storeE, hwb, hcb, if_pos rfl, if_pos rfl, if_pos hd]
            have hd2 : ¬ ((bufOf T c).length : Int) < S.depth := by omega
            go_wp2_with (first | (go_at_call 18; refine (pick_c x 36 _ hwf (by decide) (by decide)).mono ?_; rintro e w' ⟨rfl, rfl⟩; dsimp only; rw [hn.out]) | (go_at_call 29; refine (held_l P Oi c).mono ?_; rintro e w2 ⟨hv, rfl, P2⟩; rw [hhl] at P2; obtain ⟨ha, hcap, rfl, _, _⟩ := own_len (P2.row List.mem_cons_self); replace P2 := P2.nil; dsimp only) | (go_at_call 27; refine (store_l P2 Oi c (8 * q) (i + 1) hA hTs).mono ?_; rintro e w3 ⟨rfl, P3⟩; dsimp only; rw [hE]))
            go_roundw
            case rel => exact ⟨i + 1, by omega, by omega, by go_num, by rw [hnext]; exact P3⟩
            case measure => simp [intOf]; omega
          · have hE : storeE T c (8 * q) = 0 := by rw [storeE, hwb, hcb, if_pos rfl, if_pos rfl, if_neg hd]
            have hd2 : ((bufOf T c).length : Int) < S.depth := by omega
            go_wp2_with (first | (go_at_call 18; refine (pick_c x 36 _ hwf (by decide) (by decide)).mono ?_; rintro e w' ⟨rfl, rfl⟩; dsimp only; rw [hn.out]) | (go_at_call 29; refine (held_l P Oi c).mono ?_; rintro e w2 ⟨hv, rfl, P2⟩; rw [hhl] at P2; obtain ⟨ha, hcap, rfl, _, _⟩ := own_len (P2.row List.mem_cons_self); replace P2 := P2.nil; dsimp only) | (go_at_call 27; refine (store_l P2 Oi c (8 * q) (i + 1) hA hTs).mono ?_; rintro e w3 ⟨rfl, P3⟩; dsimp only; rw [hE]))
            go_roundw
            case rel => exact ⟨i + 1, by omega, by omega, by go_num, by rw [hnext]; exact P3⟩
            case measure => simp [intOf]; omega
      · have hi4 : i = 150 := by omega
        go_wp2
        go_ret
        exact ⟨rfl, i, by omega, P⟩
    · go_wp2
      go_ret
      exact ⟨rfl, i, by omega, P⟩
end Go.Proofs.Ytjkjbcnafpljoaa
