/- A controller behind some calls, plain; made. -/
import Derived.Test.YtpmlehfnlodmbaaKc
namespace Go.Proofs.Ytpmlehfnlodmbaa
open Go.RowKit
set_option linter.unusedVariables false
set_option linter.unusedSimpArgs false
set_option maxRecDepth 8000

theorem wk_put (P : Pg) (r k : Nat) (s : Src) (c : Nat) : (P.put r k s).wk c = P.wk c := rfl
theorem gsendF_wk (P : Pg) (t : Int) (id : Nat) (d : Nat) : ∀ c, (gsendF P t id c).wk d = P.wk d
  | 0 => rfl
  | c + 1 => by
    unfold gsendF
    split
    · rw [wk_put, gsendF_wk P t id d c]
    · exact gsendF_wk P t id d c
theorem only_len (n : Nat) (P : Pg) (o : St5) (c : Nat) : ((onlyP n P o).wk c).length ≤ (P.wk c).length + 1 := by
  unfold onlyP
  split
  · unfold genableP; split
    · omega
    · rw [wk_put]; omega
  split
  · unfold gpendP; split
    · omega
    · rw [wk_put]; omega
  split
  · unfold glineP; split
    · omega
    · rw [wk_put]; omega
  split
  · unfold grankP; split
    · omega
    · rw [wk_put]; omega
  split
  · unfold grouteP; split
    · omega
    · rw [wk_put]; omega
  split
  · unfold gmaskP; split
    · omega
    · show (P.wk c).length ≤ _; omega
  split
  · unfold gsendP; split
    · omega
    · rw [gsendF_wk]; omega
  split
  · unfold ackP; split
    · omega
    · simp only [Pg.setWk]
      split
      · rename_i h; subst h; simp
      · show (P.wk c).length ≤ _; omega
  split
  · unfold geoiP; split
    · omega
    · split
      · omega
      · rw [wk_put]
        simp only [Pg.setWk]
        split
        · rename_i h; subst h
          rw [List.length_eraseIdx]
          split <;> omega
        · omega
  · omega
/-- The controller of n cores behind the first i calls. -/
def plP (n : Nat) (P : Pg) (ss : List St5) : Nat → Pg
  | 0 => P
  | i + 1 => match ss[i]? with | some o => onlyP n (plP n P ss i) o | none => plP n P ss i
theorem pl_len (n : Nat) (P : Pg) (ss : List St5) (c : Nat) : ∀ i, ((plP n P ss i).wk c).length ≤ (P.wk c).length + i
  | 0 => Nat.le_refl _
  | i + 1 => by
    have := pl_len n P ss c i
    unfold plP
    split
    · have := only_len n (plP n P ss i) ‹St5› c
      omega
    · omega
theorem pl_next {n : Nat} {P : Pg} {ss : List St5} {i : Nat} {o : St5} (h : ss[i]? = some o) : plP n P ss (i + 1) = onlyP n (plP n P ss i) o := by
  show (match ss[i]? with | some o => onlyP n (plP n P ss i) o | none => plP n P ss i) = _
  rw [h]
/-- A controller of the law's own, and the law's own World beside it. -/
structure MW (B : Nat) (w0 : World) (g n : Nat) (P : Pg) (L : GLay) (wb : Nat) (rv : Value) (w : World) : Prop where
  kw : KW B w0 g n P L w
  wb_ : w.heap[wb]? = some (.cells #[ptr g 0, rv] 32)
  nf : ¬ GFoot g n L wb
theorem MW.gtl {B : Nat} {w0 : World} {g n : Nat} {P Q : Pg} {L : GLay} {wb : Nat} {rv : Value} {w w' : World} (H : MW B w0 g n P L wb rv w) (h : GTL g n L Q w w') : ∃ L', MW B w0 g n Q L' wb rv w' := by
  have hw : w'.heap[wb]? = some (.cells #[ptr g 0, rv] 32) := by
    obtain ⟨L', h1, h2, h3⟩ := h
    rw [h2.block wb (lt_of_some H.wb_) H.nf]; exact H.wb_
  have h0 := h
  obtain ⟨L', h1, h2, h3⟩ := h
  refine ⟨L', ⟨h1, fun k hk => (h3 k hk).elim (H.kw.foot k) fun h => Nat.le_trans (Nat.le_trans H.kw.le H.kw.below.size) h, H.kw.below.trans (h2.below (Nat.le_trans H.kw.le H.kw.below.size) H.kw.foot), H.kw.le⟩, hw, fun h => ?_⟩
  rcases h3 wb h with h | h
  · exact H.nf h
  · have := lt_of_some H.wb_; omega
theorem MW.grow {B : Nat} {w0 : World} {g n : Nat} {P : Pg} {L : GLay} {wb : Nat} {rv : Value} {w w' : World} (H : MW B w0 g n P L wb rv w) (hb : Below w.heap.size w w') : MW B w0 g n P L wb rv w' := ⟨H.kw.grow hb, by rw [hb.block _ (lt_of_some H.wb_)]; exact H.wb_, H.nf⟩
theorem Scr.at {w0 w : World} {v : Value} {ss : List St5} (h : Scr w0 v ss) (hb : Below w0.heap.size w0 w) {i : Nat} {s : St5} (hs : ss[i]? = some s) : ∃ ra cap, v = .slice (some ra) ss.length cap ∧ ∀ (j : Nat) x, s.row[j]? = some x → w.cell? ((ra.add (i * 5)).add j) = some x := by
  have hi := (List.getElem?_eq_some_iff.1 hs).1
  obtain ⟨ra, cap, e, hc⟩ := h.cell (by omega)
  exact ⟨ra, cap, e, fun j x hx => by rw [hb.cell (hc i s hs j x hx).1]; exact (hc i s hs j x hx).2⟩
theorem made_c {W w : World} {v : Value} {ss : List St5} (R : Scr W v ss) (hB : Below W.heap.size W w) : Calls Try.prog 14 #[v] w fun e w' => ∃ g, e = .returned (ptr g 0) ∧ ∃ L, KW w.heap.size w g 3 (plP 3 newP ss (min ss.length 100)) L w' := by
  have hnew := new_c 3 (by decide) (by decide) w
  obtain ⟨ao, cap, ev⟩ := R.len
  go_enter Try.func14, Try.ntmps14
  go_upto_region 5 with (first | (go_at_call 10; refine hnew.mono ?_; rintro e w1 ⟨g, rfl, hG, hB1, hg⟩; dsimp only))
  obtain ⟨L, K⟩ := newKW hG hB1
  clear hnew hG hg
  generalize hw2 : World.alloc _ _ = w2
  have M : ∃ L, MW w.heap.size w g 3 newP L w1.heap.size (.pointer none) w2 := by
    rw [← hw2]
    exact ⟨L, K.grow (below_alloc _ _), heap_alloc_new _ _, fun h => by have := K.at_.lt h; omega⟩
  clear hw2 K
  generalize w1.heap.size = wb at M ⊢
  rw [ev]
  go_wp2
  go_loopw [6] (fun s6 wr => ∃ i : Nat, i ≤ min ss.length 100 ∧ s6 = .int .i64 i ∧ Hid (∃ L, MW w.heap.size w g 3 (plP 3 newP ss i) L wb (.pointer none) wr)) (fun s6 _ => 100 - (intOf s6).toNat)
  case atStart => exact ⟨0, Nat.zero_le _, rfl, M⟩
  case round =>
    clear M
    obtain ⟨i, hi, rfl, hM⟩ := hrel
    obtain ⟨L1, M⟩ := hM.out
    clear hM
    by_cases h1 : (i : Int) < ss.length
    · by_cases h2 : (i : Int) < 100
      · have hs := List.getElem?_eq_getElem (l := ss) (i := i) (by omega)
        generalize ss[i] = o at hs
        have B1 : Below W.heap.size W wr := below_then hB (Nat.le_refl _) (M.kw.below)
        obtain ⟨ra, cap', ev', hc⟩ := R.at B1 hs
        rw [ev] at ev'
        cases ev'
        have hon := only_c M.kw.at_ o M.wb_ (fun c hc => by have := pl_len 3 newP ss c i; have e : (newP.wk c).length = 0 := rfl; omega)
        go_wp2_with (first | (go_at_call 30; refine hon.mono ?_; rintro e w3 ⟨rfl, hT⟩; dsimp only) | (refine wpList_load35 rfl _ rfl _ rfl o hc ?_; simp only [Act.put]))
        go_roundw
        case rel => exact ⟨i + 1, by omega, by go_num, by rw [pl_next hs]; exact M.gtl hT⟩
        case measure => simp [intOf]; omega
      · have e : min ss.length 100 = i := by omega
        replace e := show Hid _ from e
        go_wp2
        go_ret
        exact ⟨g, rfl, L1, by rw [e.out]; exact M.kw⟩
    · have e : min ss.length 100 = i := by omega
      replace e := show Hid _ from e
      go_wp2
      go_ret
      exact ⟨g, rfl, L1, by rw [e.out]; exact M.kw⟩
end Go.Proofs.Ytpmlehfnlodmbaa
