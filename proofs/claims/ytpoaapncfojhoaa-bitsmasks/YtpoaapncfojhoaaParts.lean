/- What Parts of package bits, and of the document's own answer, gives back, for all numbers: contracts. -/
import Derived.Test.YtpoaapncfojhoaaMasks
import Derived.Test.YtpoaapncfojhoaaPlainD
import Derived.Deep.LoopGhost
namespace Go.Proofs.Ytpoaapncfojhoaa
open Go.RowKit

set_option maxHeartbeats 400000 in
theorem ones_c (x : Int) (w : World) :
    Calls Try.prog 31 #[.int .u64 x] w fun e w' => e = .returned (.int .i64 (onesF x)) ∧ w' = w := by
  go_enter Try.func31, Try.ntmps31
  go_wp2
  go_ret
  exact ⟨ret_int rfl, rfl⟩

def formI (z : Int) : Int := if z = 64 then 1 else 0
def formJ (z s : Int) : Int := if z = 64 then s else 64 - 2 * z + s

theorem ret_three {k l m : IntKind} {a b c d e f : Int} (h : a = b) (h' : c = d) (h'' : e = f) : Ending.returned (.tuple #[.int k a, .int l c, .int m e]) = .returned (.tuple #[.int k b, .int l d, .int m f]) := by rw [h, h', h'']

set_option maxHeartbeats 400000 in
theorem form_c (z r s : Int) (h1 : 0 ≤ z) (h2 : z ≤ 64) (h3 : 0 ≤ s) (h4 : s ≤ 1000) (w : World) :
    Calls Try.prog 32 #[.int .i64 z, .int .i64 r, .int .i64 s] w fun e w' => e = .returned (.tuple #[.int .i64 (formI z), .int .i64 r, .int .i64 (formJ z s)]) ∧ w' = w := by
  by_cases hz : z = 64
  · have hz2 : (z == 64) = true := by simpa using hz
    have hz := show Hid (z = 64) from hz
    go_enter Try.func32, Try.ntmps32
    go_wp2
    go_ret3
    exact ⟨ret_three (by unfold formI; rw [if_pos hz.out]) rfl (by unfold formJ; rw [if_pos hz.out]), rfl⟩
  · have hz2 : (z == 64) = false := by simpa using hz
    have hz := show Hid (z ≠ 64) from hz
    go_enter Try.func32, Try.ntmps32
    go_wp2
    go_ret3
    exact ⟨ret_three (by unfold formI; rw [if_neg hz.out]) rfl (by unfold formJ; rw [if_neg hz.out]), rfl⟩

theorem form_eq {z t : Nat} (hz : z = 2 ^ t) (h1 : 1 ≤ t) (h2 : t ≤ 6) (s : Nat) : formI (z : Int) = formA t ∧ formJ (z : Int) (s : Int) = formC t s := by
  subst hz
  unfold formI formA formJ formC
  rcases six_of t h1 h2 with rfl | rfl | rfl | rfl | rfl | rfl <;> simp

theorem mask_zero {z t : Nat} (hz : z = 2 ^ t) (h1 : 1 ≤ t) (h2 : t < 6) {s r : Nat} (hs : s + 1 < z) (hr : r < z) :
    maskE 0 (r : Int) (64 - 2 * (z : Int) + (s : Int)) = 0 ∧ maskV 0 (r : Int) (64 - 2 * (z : Int) + (s : Int)) = ((maskN z s r : Nat) : Int) := by
  have hZ : sizeI 0 (64 - 2 * (z : Int) + (s : Int)) = (z : Int) := by
    subst hz
    unfold sizeI
    rcases six_of t h1 (by omega) with rfl | rfl | rfl | rfl | rfl | rfl <;> simp <;> omega
  have hM : (64 - 2 * (z : Int) + (s : Int)) % (z : Int) = (s : Int) := by
    subst hz
    rcases six_of t h1 (by omega) with rfl | rfl | rfl | rfl | rfl | rfl <;> simp <;> omega
  have hR : (r : Int) % (z : Int) = (r : Int) := Int.emod_eq_of_lt (by omega) (by omega)
  have hz2 : z ≤ 32 := by
    subst hz
    rcases six_of t h1 (by omega) with rfl | rfl | rfl | rfl | rfl | rfl <;> omega
  have ha : argB 0 (r : Int) (64 - 2 * (z : Int) + (s : Int)) = true := by
    unfold argB; rw [decide_eq_true_eq]; omega
  have hb : badB 0 (64 - 2 * (z : Int) + (s : Int)) = false := by
    unfold badB; rw [decide_eq_false_iff_not, hZ, hM]; omega
  have h := mask_yes ha hb
  rw [hZ, hM, hR] at h
  simp only [Int.toNat_natCast] at h
  exact ⟨h.2, h.1⟩

theorem mask_one {s r : Nat} (hs : s + 1 < 64) (hr : r < 64) : maskE 1 (r : Int) (s : Int) = 0 ∧ maskV 1 (r : Int) (s : Int) = ((maskN 64 s r : Nat) : Int) := by
  have hZ : sizeI 1 (s : Int) = 64 := rfl
  have hM : (s : Int) % 64 = (s : Int) := Int.emod_eq_of_lt (by omega) (by omega)
  have hR : (r : Int) % 64 = (r : Int) := Int.emod_eq_of_lt (by omega) (by omega)
  have ha : argB 1 (r : Int) (s : Int) = true := by
    unfold argB; rw [decide_eq_true_eq]; omega
  have hb : badB 1 (s : Int) = false := by
    unfold badB; rw [decide_eq_false_iff_not, hZ, hM]; omega
  have h := mask_yes ha hb
  rw [hZ, hM, hR] at h
  simp only [Int.toNat_natCast] at h
  exact ⟨h.2, h.1⟩

def noneS (M t k : Nat) : Prop := ∀ s r, s < k → ¬ hit M t s r
def noneR (M t s k : Nat) : Prop := ∀ r, r < k → ¬ hit M t s r

theorem noneS_next {M t k : Nat} (h : noneS M t k) (hn : noneR M t k (2 ^ t)) : noneS M t (k + 1) := by
  intro s r hs hh
  rcases Nat.lt_or_eq_of_le (Nat.le_of_lt_succ hs) with c | c
  · exact h s r c hh
  · subst c; exact hn r hh.2.2.2.1 hh

theorem noneR_next {M t s k : Nat} (h : noneR M t s k) (hn : ¬ hit M t s k) : noneR M t s (k + 1) := by
  intro r hr hh
  rcases Nat.lt_or_eq_of_le (Nat.le_of_lt_succ hr) with c | c
  · exact h r c hh
  · subst c; exact hn hh

theorem noneT_next {M t : Nat} (h : noneBelow M t) (hn : noneS M t (2 ^ t - 1)) : noneBelow M (t + 1) :=
  none_next h fun s r hh => hn s r (by have := hh.2.2.1; omega) hh

theorem found_ref {M t s r : Nat} (hh : hit M t s r) (h1 : noneBelow M t) (h2 : noneS M t s) (h3 : noneR M t s r) : PartsAre M (formA t) (r : Int) (formC t s) 0 := by
  refine Or.inl ⟨t, s, r, ⟨hh, ?_⟩, rfl, rfl, rfl, rfl⟩
  intro t' s' r' hh'
  unfold before
  rcases Nat.lt_trichotomy t t' with c | c | c
  · exact Or.inl c
  · subst c
    refine Or.inr ⟨rfl, ?_⟩
    rcases Nat.lt_trichotomy s s' with c | c | c
    · exact Or.inl c
    · subst c
      refine Or.inr ⟨rfl, ?_⟩
      rcases Nat.lt_or_ge r' r with e | e
      · exact absurd hh' (h3 r' e)
      · exact e
    · exact absurd hh' (h2 _ _ c)
  · exact absurd hh' (h1 _ _ _ c)

theorem more_drawn {w wx : World} {m : Nat} (h : Hid (∃ n, wx = w.drewN n)) : Hid (∃ n, wx.drewN m = w.drewN n) := by
  obtain ⟨n, rfl⟩ := h.out
  exact ⟨n + m, by rw [World.drewN_drewN]⟩

set_option maxHeartbeats 1600000 in
theorem parts_c (mask : Int) (hv : Hid (0 ≤ mask ∧ mask < 18446744073709551616)) (w : World) :
    Calls Try.prog 20 #[.int .u64 mask] w fun e w' => (∃ a b c d : Int, e = .returned (.tuple #[.int .i64 a, .int .i64 b, .int .i64 c, .int .i64 d]) ∧ PartsAre mask.toNat a b c d) ∧ ∃ n, w' = w.drewN n := by
  go_enter Try.func20, Try.ntmps20
  go_wp2
  go_step3
  go_wp2
  go_step3
  go_wp2
  go_loopg [6, 7, 8, 9, 10] 6 (fun g s6 s7 s8 s9 s10 wx => ∃ z t : Nat, t + g = 7 ∧ 1 ≤ t ∧ 2 ≤ z ∧ z ≤ 128 ∧ Hid (z = 2 ^ t) ∧ s6 = .int .i64 0 ∧ s7 = .int .i64 0 ∧ s8 = .int .i64 0 ∧ s9 = .int .i64 2 ∧ s10 = .int .i64 z ∧ Hid (noneBelow mask.toNat t) ∧ Hid (∃ n, wx = w.drewN n))
  case atStart => exact ⟨2, 1, by omega, by omega, by omega, by omega, rfl, rfl, rfl, rfl, rfl, rfl, none_start _, 0, rfl⟩
  case round =>
    obtain ⟨z, t, hg, ht, hz2, hz128, hz, rfl, rfl, rfl, rfl, rfl, hnone, hwr⟩ := hrel
    obtain rfl : gk = 7 - t := by omega
    by_cases h6 : t ≤ 6
    · have hz64 : z ≤ 64 := by rw [hz.out]; exact pow_six h6
      have hsz : Hid (isSize (z : Int)) := by
        show isSize _
        have h := hz.out
        unfold isSize
        rcases six_of t ht h6 with rfl | rfl | rfl | rfl | rfl | rfl <;> omega
      have hP : bits .and .u64 mask (lowF (z : Int)) = pieceF mask (z : Int) := piece_walk mask _ hv (by omega)
      have hzn : Hid (z * 2 = 2 ^ (t + 1)) := by show _ = _; rw [hz.out, Nat.pow_succ]
      by_cases c1 : repF (pieceF mask (z : Int)) (z : Int) = mask
      · have d1 : (repF (pieceF mask (z : Int)) (z : Int) != mask) = false := by simpa using c1
        by_cases c2 : onesF (pieceF mask (z : Int)) = 0
        · have hend : Hid (noneBelow mask.toNat (t + 1)) := none_next hnone.out (skip_end hv (Or.inr (Or.inl (by unfold onesP; rw [← hz.out]; exact c2))))
          have d2 : (onesF (pieceF mask (z : Int)) == 0) = true := by simpa using c2
          clear c1 c2
          go_wp2_with (first | (go_at_call 26; refine (low_c _ (by omega) _).mono ?_; rintro e w' ⟨rfl, rfl⟩) | (go_at_call 31; refine (ones_c _ _).mono ?_; rintro e w' ⟨rfl, rfl⟩) | (go_at_call 30; refine (again_c _ _ (piece_fits _ _) hsz _).mono ?_; rintro e w' ⟨rfl, rfl⟩))
          go_roundg (6 - t)
          case measure => omega
          case rel => exact ⟨z * 2, t + 1, by omega, by omega, by omega, by omega, hzn, rfl, rfl, rfl, rfl, by go_num, hend, hwr⟩
        · have d2 : (onesF (pieceF mask (z : Int)) == 0) = false := by simpa using c2
          by_cases c3 : onesF (pieceF mask (z : Int)) = (z : Int)
          · have hend : Hid (noneBelow mask.toNat (t + 1)) := none_next hnone.out (skip_end hv (Or.inr (Or.inr (by unfold onesP; rw [← hz.out]; exact c3))))
            have d3 : (onesF (pieceF mask (z : Int)) == (z : Int)) = true := by simpa using c3
            clear c1 c2 c3
            go_wp2_with (first | (go_at_call 26; refine (low_c _ (by omega) _).mono ?_; rintro e w' ⟨rfl, rfl⟩) | (go_at_call 31; refine (ones_c _ _).mono ?_; rintro e w' ⟨rfl, rfl⟩) | (go_at_call 30; refine (again_c _ _ (piece_fits _ _) hsz _).mono ?_; rintro e w' ⟨rfl, rfl⟩))
            go_roundg (6 - t)
            case measure => omega
            case rel => exact ⟨z * 2, t + 1, by omega, by omega, by omega, by omega, hzn, rfl, rfl, rfl, rfl, by go_num, hend, hwr⟩
          · have d3 : (onesF (pieceF mask (z : Int)) == (z : Int)) = false := by simpa using c3
            have C : Hid (repF (pieceF mask (z : Int)) (z : Int) = mask ∧ onesF (pieceF mask (z : Int)) ≠ 0 ∧ onesF (pieceF mask (z : Int)) ≠ (z : Int)) := ⟨c1, c2, c3⟩
            have hob : 0 ≤ onesF (pieceF mask (z : Int)) ∧ onesF (pieceF mask (z : Int)) ≤ 127 := by have := onesP_bounds hv t; unfold onesP at this; rw [← hz.out] at this; exact this
            obtain ⟨ob1, ob2⟩ := hob
            have ob3 : 1 ≤ onesF (pieceF mask (z : Int)) := by omega
            clear c1 c2 c3
            go_wp2_with (first | (go_at_call 26; refine (low_c _ (by omega) _).mono ?_; rintro e w' ⟨rfl, rfl⟩) | (go_at_call 31; refine (ones_c _ _).mono ?_; rintro e w' ⟨rfl, rfl⟩) | (go_at_call 30; refine (again_c _ _ (piece_fits _ _) hsz _).mono ?_; rintro e w' ⟨rfl, rfl⟩))
            go_loopg [6, 7, 8, 9, 13, 39] z (fun g s6 s7 s8 s9 s13 s39 wx => ∃ k : Nat, k + g = z ∧ s6 = .int .i64 0 ∧ s7 = .int .i64 0 ∧ s8 = .int .i64 0 ∧ s9 = .int .i64 2 ∧ s39 = .int .i64 k ∧ Hid (notYet mask t k) ∧ Hid (∃ n, wx = w.drewN n))
            case atStart => exact ⟨0, by omega, rfl, rfl, rfl, rfl, rfl, fun r hr => absurd hr (by omega), hwr⟩
            case round =>
              obtain ⟨k, hkg, rfl, rfl, rfl, rfl, rfl, hyet, hwr2⟩ := hrel
              by_cases hlt : (k : Int) < (z : Int)
              · by_cases c4 : turnF (lowF (onesF (pieceF mask (z : Int)))) (k : Int) (z : Int) = pieceF mask (z : Int)
                · have d4 : (turnF (lowF (onesF (pieceF mask (z : Int)))) (k : Int) (z : Int) == pieceF mask (z : Int)) = true := by simpa using c4
                  have hF : ∃ s : Nat, PartsAre mask.toNat (formA t) (k : Int) (formC t s) 0 ∧ onesF (pieceF mask (z : Int)) = (s : Int) + 1 ∧ s < z := by
                    have e := hz.out
                    subst e
                    exact found_code hv ht h6 (by omega) hnone.out hyet.out C.out.1 C.out.2.1 C.out.2.2 c4
                  obtain ⟨s, hs1, hs2, hs3⟩ := hF
                  have HS : Hid (PartsAre mask.toNat (formA t) (k : Int) (formC t s) 0 ∧ onesF (pieceF mask (z : Int)) - 1 = (s : Int)) := ⟨hs1, by omega⟩
                  clear c4 hs1 hs2
                  go_wp2_with (first | (go_at_call 26; refine (low_c _ (by omega) _).mono ?_; rintro e w' ⟨rfl, rfl⟩) | (go_at_call 27; refine (turn_c _ _ _ (lowF_bounds _) (by omega) (by omega) (by omega) _).mono ?_; rintro e w' ⟨rfl, n2, rfl⟩) | (go_at_call 32; refine (form_c _ _ _ (by omega) (by omega) (by omega) (by omega) _).mono ?_; rintro e w' ⟨rfl, rfl⟩))
                  rw [Exit.noGoto_ret]
                  refine bodyPost_ret (v := .tuple #[.int .i64 (formI z), .int .i64 k, .int .i64 (formJ z (onesF (pieceF mask (z : Int)) - 1)), .int .i64 0]) (by simp [results, Try.results20, go_sem]) rfl ⟨⟨_, _, _, _, rfl, ?_⟩, ?_⟩
                  · rw [HS.out.2, (form_eq hz.out ht h6 s).1, (form_eq hz.out ht h6 s).2]; exact HS.out.1
                  · exact more_drawn hwr2
                · have hy2 : Hid (notYet mask t (k + 1)) := by
                    have e := hz.out
                    subst e
                    exact notYet_next hyet.out c4
                  have d4 : (turnF (lowF (onesF (pieceF mask (z : Int)))) (k : Int) (z : Int) == pieceF mask (z : Int)) = false := by simpa using c4
                  clear c4
                  go_wp2_with (first | (go_at_call 26; refine (low_c _ (by omega) _).mono ?_; rintro e w' ⟨rfl, rfl⟩) | (go_at_call 27; refine (turn_c _ _ _ (lowF_bounds _) (by omega) (by omega) (by omega) _).mono ?_; rintro e w' ⟨rfl, n2, rfl⟩) | (go_at_call 32; refine (form_c _ _ _ (by omega) (by omega) (by omega) (by omega) _).mono ?_; rintro e w' ⟨rfl, rfl⟩))
                  go_roundg (gk - 1)
                  case measure => omega
                  case rel => exact ⟨k + 1, by omega, rfl, rfl, rfl, rfl, by go_num, hy2, more_drawn hwr2⟩
              · have hkz : k = z := by omega
                subst hkz
                have hend : Hid (noneBelow mask.toNat (t + 1)) := none_next hnone.out (notYet_end hv (by rw [← hz.out]; exact hyet.out))
                go_wp2
                go_roundg (6 - t)
                case measure => omega
                case rel => exact ⟨k * 2, t + 1, by omega, by omega, by omega, by omega, hzn, rfl, rfl, rfl, rfl, by go_num, hend, hwr2⟩
      · have hend : Hid (noneBelow mask.toNat (t + 1)) := none_next hnone.out (skip_end hv (Or.inl (by rw [← hz.out]; exact c1)))
        have d1 : (repF (pieceF mask (z : Int)) (z : Int) != mask) = true := by simpa using c1
        clear c1
        go_wp2_with (first | (go_at_call 26; refine (low_c _ (by omega) _).mono ?_; rintro e w' ⟨rfl, rfl⟩) | (go_at_call 31; refine (ones_c _ _).mono ?_; rintro e w' ⟨rfl, rfl⟩) | (go_at_call 30; refine (again_c _ _ (piece_fits _ _) hsz _).mono ?_; rintro e w' ⟨rfl, rfl⟩))
        go_roundg (6 - t)
        case measure => omega
        case rel => exact ⟨z * 2, t + 1, by omega, by omega, by omega, by omega, hzn, rfl, rfl, rfl, rfl, by go_num, hend, hwr⟩
    · have h7 : t = 7 := by omega
      subst h7
      have hz7 : z = 128 := hz.out
      subst hz7
      go_wp2
      refine bodyPost_ret (v := .tuple #[.int .i64 0, .int .i64 0, .int .i64 0, .int .i64 2]) (by simp [results, Try.results20, go_sem]) rfl ⟨⟨0, 0, 0, 2, rfl, none_end hnone.out⟩, hwr⟩

set_option maxHeartbeats 1600000 in
theorem refParts_c (mask : Int) (hv : Hid (0 ≤ mask ∧ mask < 18446744073709551616)) (w : World) :
    Calls Try.prog 21 #[.int .u64 mask] w fun e w' => (∃ a b c d : Int, e = .returned (.tuple #[.int .i64 a, .int .i64 b, .int .i64 c, .int .i64 d]) ∧ PartsAre mask.toNat a b c d) ∧ w' = w := by
  go_enter Try.func21, Try.ntmps21
  go_wp2
  go_loopg [6] 6 (fun g s6 wx => ∃ z t : Nat, t + g = 7 ∧ 1 ≤ t ∧ 2 ≤ z ∧ z ≤ 128 ∧ Hid (z = 2 ^ t) ∧ s6 = .int .i64 z ∧ Hid (noneBelow mask.toNat t) ∧ Hid (wx = w))
  case atStart => exact ⟨2, 1, by omega, by omega, by omega, by omega, rfl, rfl, none_start _, rfl⟩
  case round =>
    obtain ⟨z, t, hg, ht, hz2, hz128, hz, rfl, hnone, hwr⟩ := hrel
    obtain rfl : gk = 7 - t := by omega
    by_cases h6 : t ≤ 6
    · have hz64 : z ≤ 64 := by rw [hz.out]; exact pow_six h6
      have hzd : (z : Int) ≤ 64 := by omega
      have hzn : Hid (2 * z = 2 ^ (t + 1)) := by show _ = _; rw [hz.out, Nat.pow_succ]; omega
      go_wp2
      go_loopg [7] z (fun g s7 wx => ∃ s : Nat, s + g = z ∧ s + 1 ≤ z ∧ s7 = .int .i64 s ∧ Hid (noneS mask.toNat t s) ∧ Hid (wx = w))
      case atStart => exact ⟨0, by omega, by omega, rfl, fun s r hs => absurd hs (by omega), hwr⟩
      case round =>
        obtain ⟨s, hsg, hs1, rfl, hnoneS, hwr2⟩ := hrel
        obtain rfl : gk = z - s := by omega
        by_cases hlt : (s : Int) < (z : Int) - 1
        · go_wp2
          go_loopg [8] z (fun g s8 wx => ∃ r : Nat, r + g = z ∧ s8 = .int .i64 r ∧ Hid (noneR mask.toNat t s r) ∧ Hid (wx = w))
          case atStart => exact ⟨0, by omega, rfl, fun r hr => absurd hr (by omega), hwr2⟩
          case round =>
            obtain ⟨r, hrg, rfl, hnoneR, hwr3⟩ := hrel
            by_cases hltr : (r : Int) < (z : Int)
            · by_cases h64 : z = 64
              · have hm := mask_one (s := s) (r := r) (by omega) (by omega)
                have hfm : Hid (formA t = 1 ∧ formC t s = (s : Int)) := by
                  have t6 : t = 6 := by have e := hz.out; rcases six_of t ht h6 with rfl | rfl | rfl | rfl | rfl | rfl <;> omega
                  subst t6
                  exact ⟨rfl, rfl⟩
                have hhit : Hid (hit mask.toNat t s r ↔ maskN 64 s r = mask.toNat) := by
                  show _ ↔ _
                  have e := hz.out
                  unfold hit
                  rw [← e, h64]
                  exact ⟨fun h => h.2.2.2.2, fun h => ⟨ht, h6, by omega, by omega, h⟩⟩
                have z64 : ((z : Int) == 64) = true := by rw [beq_iff_eq]; omega
                obtain ⟨hm1, hm2⟩ := hm
                clear h64
                by_cases c : maskN 64 s r = mask.toNat
                · have HP : Hid (PartsAre mask.toNat (formA t) (r : Int) (formC t s) 0) := found_ref (hhit.out.2 c) hnone.out hnoneS.out hnoneR.out
                  have d : (maskV 1 (r : Int) (s : Int) == mask) = true := by rw [beq_iff_eq, hm2, c]; have := hv.out; omega
                  clear c hm2
                  go_wp2_with (go_at_call 19; refine (refMask_c _ _ _ _).mono ?_; rintro e w' ⟨rfl, rfl⟩)
                  refine bodyPost_ret (v := .tuple #[.int .i64 1, .int .i64 r, .int .i64 (s : Int), .int .i64 0]) (by simp [results, Try.results21, go_sem]) rfl ⟨⟨_, _, _, _, rfl, ?_⟩, hwr3⟩
                  have HQ := HP.out
                  rw [hfm.out.1, hfm.out.2] at HQ
                  exact HQ
                · have hno : Hid (noneR mask.toNat t s (r + 1)) := noneR_next hnoneR.out (fun h => c (hhit.out.1 h))
                  have d : (maskV 1 (r : Int) (s : Int) == mask) = false := by rw [beq_eq_false_iff_ne, hm2]; have := hv.out; omega
                  clear c hm2
                  go_wp2_with (go_at_call 19; refine (refMask_c _ _ _ _).mono ?_; rintro e w' ⟨rfl, rfl⟩)
                  go_roundg (gk - 1)
                  case measure => omega
                  case rel => exact ⟨r + 1, by omega, by go_num, hno, hwr3⟩
              · have t5 : t < 6 := by
                  rcases Nat.lt_or_eq_of_le h6 with c | c
                  · exact c
                  · subst c; exact absurd hz.out h64
                have hm := mask_zero hz.out ht t5 (s := s) (r := r) (by omega) (by omega)
                have hfm : Hid (formA t = 0 ∧ formC t s = 64 - 2 * (z : Int) + (s : Int)) := by
                  have e := hz.out
                  show _ ∧ _
                  unfold formA formC
                  rw [if_neg (by omega), if_neg (by omega), ← e]
                  exact ⟨rfl, rfl⟩
                have hhit : Hid (hit mask.toNat t s r ↔ maskN z s r = mask.toNat) := by
                  show _ ↔ _
                  have e := hz.out
                  unfold hit
                  rw [← e]
                  exact ⟨fun h => h.2.2.2.2, fun h => ⟨ht, h6, by omega, by omega, h⟩⟩
                have z64 : ((z : Int) == 64) = false := by rw [beq_eq_false_iff_ne]; omega
                obtain ⟨hm1, hm2⟩ := hm
                clear h64
                by_cases c : maskN z s r = mask.toNat
                · have HP : Hid (PartsAre mask.toNat (formA t) (r : Int) (formC t s) 0) := found_ref (hhit.out.2 c) hnone.out hnoneS.out hnoneR.out
                  have d : (maskV 0 (r : Int) (64 - 2 * (z : Int) + (s : Int)) == mask) = true := by rw [beq_iff_eq, hm2, c]; have := hv.out; omega
                  clear c hm2
                  go_wp2_with (go_at_call 19; refine (refMask_c _ _ _ _).mono ?_; rintro e w' ⟨rfl, rfl⟩)
                  refine bodyPost_ret (v := .tuple #[.int .i64 0, .int .i64 r, .int .i64 (64 - 2 * (z : Int) + (s : Int)), .int .i64 0]) (by simp [results, Try.results21, go_sem]) rfl ⟨⟨_, _, _, _, rfl, ?_⟩, hwr3⟩
                  have HQ := HP.out
                  rw [hfm.out.1, hfm.out.2] at HQ
                  exact HQ
                · have hno : Hid (noneR mask.toNat t s (r + 1)) := noneR_next hnoneR.out (fun h => c (hhit.out.1 h))
                  have d : (maskV 0 (r : Int) (64 - 2 * (z : Int) + (s : Int)) == mask) = false := by rw [beq_eq_false_iff_ne, hm2]; have := hv.out; omega
                  clear c hm2
                  go_wp2_with (go_at_call 19; refine (refMask_c _ _ _ _).mono ?_; rintro e w' ⟨rfl, rfl⟩)
                  go_roundg (gk - 1)
                  case measure => omega
                  case rel => exact ⟨r + 1, by omega, by go_num, hno, hwr3⟩
            · have hrz : r = z := by omega
              subst hrz
              have hend : Hid (noneS mask.toNat t (s + 1)) := noneS_next hnoneS.out (by rw [← hz.out]; exact hnoneR.out)
              go_wp2
              go_roundg (r - s - 1)
              case measure => omega
              case rel => exact ⟨s + 1, by omega, by omega, by go_num, hend, hwr3⟩
        · have hsz : z = s + 1 := by omega
          have hend : Hid (noneBelow mask.toNat (t + 1)) := noneT_next hnone.out (by rw [← hz.out, hsz]; exact hnoneS.out)
          replace hsz : Hid (z = s + 1) := hsz
          go_wp2
          go_roundg (6 - t)
          case measure => omega
          case rel => exact ⟨2 * z, t + 1, by omega, by omega, by omega, by omega, hzn, by go_num, hend, hwr2⟩
    · have h7 : t = 7 := by omega
      subst h7
      have hz7 : z = 128 := hz.out
      subst hz7
      go_wp2
      refine bodyPost_ret (v := .tuple #[.int .i64 0, .int .i64 0, .int .i64 0, .int .i64 2]) (by simp [results, Try.results21, go_sem]) rfl ⟨⟨0, 0, 0, 2, rfl, none_end hnone.out⟩, hwr⟩

end Go.Proofs.Ytpoaapncfojhoaa
