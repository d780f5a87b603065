/- Decode of Encode is the instruction, Encode of Decode the word: plain. -/
import Derived.Test.YtcmilajlngnibaaFok
namespace Go.Proofs.Ytcmilajlngnibaa
open Go.RowKit
set_option linter.unusedVariables false

def keyL : List (Int × Int × Nat × Nat) := forms.map fun F => (F.op, F.sub, F.mask.toNat, F.base.toNat)
def keyB (x y : Int × Int × Nat × Nat) : Bool := (x.2.2.2 &&& y.2.2.1) != (y.2.2.2 &&& x.2.2.1)
def opB (x y : Int × Int × Nat × Nat) : Bool := x.1 != y.1 || (x.2.1 != y.2.1 && x.2.1 != -1 && y.2.1 != -1)
def partsB : List (Int × Int × Nat × Nat) → Bool
  | [] => true
  | x :: l => (l.all fun y => keyB x y && keyB y x && opB x y && opB y x) && partsB l
theorem keys_part : partsB keyL = true := by kernel_rfl
theorem part_of : ∀ (l : List Fm), partsB (l.map fun F => (F.op, F.sub, F.mask.toNat, F.base.toNat)) = true → ∀ F ∈ l, ∀ G ∈ l, F = G ∨ (keyB (F.op, F.sub, F.mask.toNat, F.base.toNat) (G.op, G.sub, G.mask.toNat, G.base.toNat) = true ∧ opB (F.op, F.sub, F.mask.toNat, F.base.toNat) (G.op, G.sub, G.mask.toNat, G.base.toNat) = true)
  | [], _, _, h, _, _ => by cases h
  | X :: l, h, F, hF, G, hG => by
    simp only [List.map_cons, partsB, Bool.and_eq_true, List.all_eq_true, List.mem_map, forall_exists_index, and_imp] at h
    obtain ⟨h1, h2⟩ := h
    rcases List.mem_cons.1 hF with rfl | hF'
    · rcases List.mem_cons.1 hG with rfl | hG'
      · exact .inl rfl
      · have := h1 _ G hG' rfl
        exact .inr ⟨this.1.1.1, this.1.2⟩
    · rcases List.mem_cons.1 hG with rfl | hG'
      · have := h1 _ F hF' rfl
        exact .inr ⟨this.1.1.2, this.2⟩
      · exact part_of l h2 F hF' G hG'
def fitsW (word : Int) (F : Fm) : Prop := bits .and .u32 word F.mask = F.base
theorem one_word {word : Int} (hW : W32 word) {F G : Fm} (hF : F ∈ forms) (hG : G ∈ forms) (mF : fitsW word F) (mG : fitsW word G) : F = G := by
  rcases part_of forms keys_part F hF G hG with h | ⟨h, _⟩
  · exact h
  · exfalso
    have gF := good_all F hF
    have gG := good_all G hG
    have e1 : word.toNat &&& F.mask.toNat = F.base.toNat := by rw [← show bits .and .u32 word F.mask = F.base from mF, bits_and hW gF.mask, Int.toNat_natCast]
    have e2 : word.toNat &&& G.mask.toNat = G.base.toNat := by rw [← show bits .and .u32 word G.mask = G.base from mG, bits_and hW gG.mask, Int.toNat_natCast]
    have : F.base.toNat &&& G.mask.toNat = G.base.toNat &&& F.mask.toNat := by
      rw [← e1, ← e2, Nat.and_assoc, Nat.and_assoc, Nat.and_comm F.mask.toNat]
    simp [keyB, this] at h
theorem one_form {i : Ins} {F G : Fm} (hF : F ∈ forms) (hG : G ∈ forms) (mF : isForm F i = true) (mG : isForm G i = true) : F = G := by
  rcases part_of forms keys_part F hF G hG with h | ⟨_, h⟩
  · exact h
  · exfalso
    obtain ⟨a1, a2⟩ := isForm_of mF
    obtain ⟨b1, b2⟩ := isForm_of mG
    simp only [opB, Bool.or_eq_true, Bool.and_eq_true, bne_iff_ne] at h
    rcases h with h | ⟨⟨h, h3⟩, h4⟩
    · exact h (a1.trans b1.symm)
    · exact h ((a2.resolve_right h3).trans (b2.resolve_right h4).symm)
theorem encL_of {i : Ins} {F : Fm} (hF : isForm F i = true) : ∀ l : List Fm, F ∈ l → (∀ G ∈ l, isForm G i = true → G = F) → encL i l = ((F.t true (F.base, i)).1, 0)
  | [], h, _ => by cases h
  | G :: l, h, hu => by
    unfold encL
    by_cases hG : isForm G i = true
    · rw [if_pos hG, hu G (by simp) hG]
    · rw [if_neg hG]
      rcases List.mem_cons.1 h with rfl | h
      · exact absurd hF hG
      · exact encL_of hF l h fun X hX => hu X (by simp [hX])
theorem encL_some {i : Ins} : ∀ l : List Fm, encL i l = (0, 3) ∨ ∃ F ∈ l, isForm F i = true ∧ encL i l = ((F.t true (F.base, i)).1, 0)
  | [] => .inl rfl
  | G :: l => by
    unfold encL
    by_cases hG : isForm G i = true
    · rw [if_pos hG]; exact .inr ⟨G, by simp, hG, rfl⟩
    · rw [if_neg hG]
      rcases encL_some (i := i) l with h | ⟨F, hF, h⟩
      · exact .inl h
      · exact .inr ⟨F, by simp [hF], h⟩
abbrev ofF (word : Int) (F : Fm) : Ins := (F.t false (word, startI F)).2
theorem decL_of {word : Int} {F : Fm} (hF : fitsW word F) (hR : rightB (ofF word F) = true) : ∀ l : List Fm, F ∈ l → (∀ G ∈ l, fitsW word G → G = F) → decL word l = ofF word F
  | [], h, _ => by cases h
  | G :: l, h, hu => by
    unfold decL
    by_cases hG : fitsW word G
    · obtain rfl := hu G (by simp) hG
      rw [if_pos ⟨hG, hR⟩]
    · rw [if_neg fun h => hG h.1]
      rcases List.mem_cons.1 h with rfl | h
      · exact absurd hF hG
      · exact decL_of hF hR l h fun X hX => hu X (by simp [hX])
theorem decL_some {word : Int} : ∀ l : List Fm, decL word l = nilI ∨ ∃ F ∈ l, fitsW word F ∧ rightB (ofF word F) = true ∧ decL word l = ofF word F
  | [] => .inl rfl
  | G :: l => by
    unfold decL
    by_cases hG : bits .and .u32 word G.mask = G.base ∧ rightB (G.t false (word, startI G)).2 = true
    · rw [if_pos hG]; exact .inr ⟨G, by simp, hG.1, hG.2, rfl⟩
    · rw [if_neg hG]
      rcases decL_some (word := word) l with h | ⟨F, hF, h⟩
      · exact .inl h
      · exact .inr ⟨F, by simp [hF], h⟩
/-- Decode answers nothing, or what Encode makes the word of. -/
theorem enc_dec {word : Int} (hW : W32 word) : decV word = nilI ∨ ((decV word).op ≠ 0 ∧ encV (decV word) = (word, 0)) := by
  rcases decL_some (word := word) forms with h | ⟨F, hF, hm, hR, h⟩
  · exact .inl h
  · right
    have h : decV word = ofF word F := h
    obtain ⟨b1, b2⟩ := (fok_all F hF).back word hW hm
    rw [h]
    constructor
    · have := hR
      simp only [rightB, Bool.and_eq_true, decide_eq_true_eq] at this
      omega
    · rw [encV, if_pos hR, encL_of b1 forms hF fun G hG hi => one_form hG hF hi b1, b2]
/-- Encode answers nothing, or the word that Decode takes the instruction from. -/
theorem dec_enc (i : Ins) : encV i = (0, 3) ∨ ((encV i).2 = 0 ∧ W32 (encV i).1 ∧ decV (encV i).1 = i) := by
  by_cases hR : rightB i = true
  · have e : encV i = encL i forms := by rw [encV, if_pos hR]
    rcases encL_some (i := i) forms with h | ⟨F, hF, hi, h⟩
    · exact .inl (e.trans h)
    · right
      obtain ⟨t1, t2, t3⟩ := (fok_all F hF).there i hR hi
      rw [e, h]
      refine ⟨rfl, t1, ?_⟩
      have := decL_of (word := (F.t true (F.base, i)).1) (F := F) t2 (by rw [ofF, t3]; exact hR) forms hF fun G hG hm => one_word t1 hG hF hm t2
      show decL _ forms = i
      rw [this]; exact t3
  · exact .inl (by rw [encV, if_neg hR])
theorem dec_in {word : Int} (hW : W32 word) (k : Fl) : I64 (k.get (decV word)) := by
  rcases decL_some (word := word) forms with h | ⟨F, hF, _, _, h⟩
  · rw [show decV word = nilI from h]; cases k <;> exact zero_in
  · have G := good_all F hF
    rw [show decV word = ofF word F from h]
    exact (G.ok false (word, startI F) ⟨hW, fun k => by cases k <;> first | exact G.sub | exact zero_in⟩).f k
theorem enc_w (i : Ins) : W32 (encV i).1 := by
  rcases dec_enc i with h | h
  · rw [h]; exact ⟨by decide, by decide⟩
  · exact h.2.1
theorem enc_apart {i j : Ins} (hi : (encV i).2 = 0) (hj : (encV j).2 = 0) : (encV i).1 = (encV j).1 ↔ i = j := by
  constructor
  · intro h
    have a := (dec_enc i).resolve_left fun e => by rw [e] at hi; cases hi
    have b := (dec_enc j).resolve_left fun e => by rw [e] at hj; cases hj
    rw [← a.2.2, ← b.2.2, h]
  · rintro rfl; rfl
theorem dec_apart {a b : Int} (ha : W32 a) (hb : W32 b) (hn : a ≠ b) : decV a ≠ decV b ∨ decV a = nilI := by
  rcases enc_dec ha with h | ⟨p, h⟩
  · exact .inr h
  · left
    intro e
    rcases enc_dec hb with h2 | ⟨_, h2⟩
    · rw [e, h2] at p; exact p rfl
    · rw [e, h2] at h
      exact hn (by have := congrArg Prod.fst h; exact this.symm)
end Go.Proofs.Ytcmilajlngnibaa
