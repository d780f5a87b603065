/- Decode of Encode is the instruction, Encode of Decode the word: plain. -/
import Derived.Test.YtbjcdpmhmebjnaaGreatD11
import Derived.Test.YtbjcdpmhmebjnaaGreatD08
import Derived.Test.YtbjcdpmhmebjnaaGreatD10
namespace Go.Proofs.YtbjcdpmhmebjnaaGreat
open Go.RowKit
set_option linter.unusedVariables false

def keyL : List (Int × Int × Nat × Nat) := forms.map fun F => (F.op, F.sub, F.mask.toNat, F.base.toNat)
def keyB (x y : Int × Int × Nat × Nat) : Bool := (x.2.2.2 &&& y.2.2.1) != (y.2.2.2 &&& x.2.2.1)
def opB (x y : Int × Int × Nat × Nat) : Bool := x.1 != y.1 || (x.2.1 != y.2.1 && x.2.1 != -1 && y.2.1 != -1)
def partsB : List (Int × Int × Nat × Nat) → Bool
  | [] => true
  | x :: l => (l.all fun y => keyB x y && keyB y x && opB x y && opB y x) && partsB l
theorem keys_part : partsB keyL = true := by kernel_rfl
theorem part_of : ∀ (l : List Fm), partsB (l.map fun F => (F.op, F.sub, F.mask.toNat, F.base.toNat)) = true → ∀ F ∈ l, ∀ G ∈ l, F = G ∨ (keyB (F.op, F.sub, F.mask.toNat, F.base.toNat) (G.op, G.sub, G.mask.toNat, G.base.toNat) = true ∧ opB (F.op, F.sub, F.mask.toNat, F.base.toNat) (G.op, G.sub, G.mask.toNat, G.base.toNat) = true)
  | [], _, _, h, _, _ => by cases h
  | X :: l, h, F, hF, G, hG => by
    simp only [List.map_cons, partsB, Bool.and_eq_true, List.all_eq_true, List.mem_map, forall_exists_index, and_imp] at h
    obtain ⟨h1, h2⟩ := h
    rcases List.mem_cons.1 hF with rfl | hF'
    · rcases List.mem_cons.1 hG with rfl | hG'
      · exact .inl rfl
      · have := h1 _ G hG' rfl
        exact .inr ⟨this.1.1.1, this.1.2⟩
    · rcases List.mem_cons.1 hG with rfl | hG'
      · have := h1 _ F hF' rfl
        exact .inr ⟨this.1.1.2, this.2⟩
      · exact part_of l h2 F hF' G hG'
def fitsW (word : Int) (F : Fm) : Prop := bits .and .u32 word F.mask = F.base
theorem one_word {word : Int} (hW : W32 word) {F G : Fm} (hF : F ∈ forms) (hG : G ∈ forms) (mF : fitsW word F) (mG : fitsW word G) : F = G := by
  rcases part_of forms keys_part F hF G hG with h | ⟨h, _⟩
  · exact h
  · exfalso
    have gF := good_all F hF
    have gG := good_all G hG
    have e1 : word.toNat &&& F.mask.toNat = F.base.toNat := by rw [← show bits .and .u32 word F.mask = F.base from mF, bits_and hW gF.mask, Int.toNat_natCast]
    have e2 : word.toNat &&& G.mask.toNat = G.base.toNat := by rw [← show bits .and .u32 word G.mask = G.base from mG, bits_and hW gG.mask, Int.toNat_natCast]
    have : F.base.toNat &&& G.mask.toNat = G.base.toNat &&& F.mask.toNat := by
      rw [← e1, ← e2, Nat.and_assoc, Nat.and_assoc, Nat.and_comm F.mask.toNat]
    simp [keyB, this] at h
theorem one_form {i : Ins} {F G : Fm} (hF : F ∈ forms) (hG : G ∈ forms) (mF : isForm F i = true) (mG : isForm G i = true) : F = G := by
  rcases part_of forms keys_part F hF G hG with h | ⟨_, h⟩
  · exact h
  · exfalso
    obtain ⟨a1, a2⟩ := isForm_of mF
    obtain ⟨b1, b2⟩ := isForm_of mG
    simp only [opB, Bool.or_eq_true, Bool.and_eq_true, bne_iff_ne] at h
    rcases h with h | ⟨⟨h, h3⟩, h4⟩
    · exact h (a1.trans b1.symm)
    · exact h ((a2.resolve_right h3).trans (b2.resolve_right h4).symm)
theorem encL_of {i : Ins} {F : Fm} (hF : isForm F i = true) : ∀ l : List Fm, F ∈ l → (∀ G ∈ l, isForm G i = true → G = F) → encL i l = ((F.t true (F.base, i)).1, 0)
  | [], h, _ => by cases h
  | G :: l, h, hu => by
    unfold encL
    by_cases hG : isForm G i = true
    · rw [if_pos hG, hu G (by simp) hG]
    · rw [if_neg hG]
      rcases List.mem_cons.1 h with rfl | h
      · exact absurd hF hG
      · exact encL_of hF l h fun X hX => hu X (by simp [hX])
theorem encL_some {i : Ins} : ∀ l : List Fm, encL i l = (0, 3) ∨ ∃ F ∈ l, isForm F i = true ∧ encL i l = ((F.t true (F.base, i)).1, 0)
  | [] => .inl rfl
  | G :: l => by
    unfold encL
    by_cases hG : isForm G i = true
    · rw [if_pos hG]; exact .inr ⟨G, by simp, hG, rfl⟩
    · rw [if_neg hG]
      rcases encL_some (i := i) l with h | ⟨F, hF, h⟩
      · exact .inl h
      · exact .inr ⟨F, by simp [hF], h⟩
abbrev ofF (word : Int) (F : Fm) : Ins := (F.t false (word, startI F)).2
theorem decL_of {word : Int} {F : Fm} (hF : fitsW word F) (hR : rightB (ofF word F) = true) : ∀ l : List Fm, F ∈ l → (∀ G ∈ l, fitsW word G → G = F) → decL word l = ofF word F
  | [], h, _ => by cases h
  | G :: l, h, hu => by
    unfold decL
    by_cases hG : fitsW word G
    · obtain rfl := hu G (by simp) hG
      rw [if_pos ⟨hG, hR⟩]
    · rw [if_neg fun h => hG h.1]
      rcases List.mem_cons.1 h with rfl | h
      · exact absurd hF hG
      · exact decL_of hF hR l h fun X hX => hu X (by simp [hX])
theorem decL_some {word : Int} : ∀ l : List Fm, decL word l = nilI ∨ ∃ F ∈ l, fitsW word F ∧ rightB (ofF word F) = true ∧ decL word l = ofF word F
  | [] => .inl rfl
  | G :: l => by
    unfold decL
    by_cases hG : bits .and .u32 word G.mask = G.base ∧ rightB (G.t false (word, startI G)).2 = true
    · rw [if_pos hG]; exact .inr ⟨G, by simp, hG.1, hG.2, rfl⟩
    · rw [if_neg hG]
      rcases decL_some (word := word) l with h | ⟨F, hF, h⟩
      · exact .inl h
      · exact .inr ⟨F, by simp [hF], h⟩
/-- Decode answers nothing, or what Encode makes the word of. -/
theorem enc_dec {word : Int} (hW : W32 word) : decV word = nilI ∨ ((decV word).op ≠ 0 ∧ encV (decV word) = (word, 0)) := by
  rcases decL_some (word := word) forms with h | ⟨F, hF, hm, hR, h⟩
  · exact .inl h
  · right
    have h : decV word = ofF word F := h
    obtain ⟨b1, b2⟩ := (fok_all F hF).back word hW hm
    rw [h]
    constructor
    · have := hR
      simp only [rightB, Bool.and_eq_true, decide_eq_true_eq] at this
      omega
    · rw [encV, if_pos hR, encL_of b1 forms hF fun G hG hi => one_form hG hF hi b1, b2]
/-- Encode answers nothing, or the word that Decode takes the instruction from. -/
theorem dec_enc (i : Ins) : encV i = (0, 3) ∨ ((encV i).2 = 0 ∧ W32 (encV i).1 ∧ decV (encV i).1 = i) := by
  by_cases hR : rightB i = true
  · have e : encV i = encL i forms := by rw [encV, if_pos hR]
    rcases encL_some (i := i) forms with h | ⟨F, hF, hi, h⟩
    · exact .inl (e.trans h)
    · right
      obtain ⟨t1, t2, t3⟩ := (fok_all F hF).there i hR hi
      rw [e, h]
      refine ⟨rfl, t1, ?_⟩
      have := decL_of (word := (F.t true (F.base, i)).1) (F := F) t2 (by rw [ofF, t3]; exact hR) forms hF fun G hG hm => one_word t1 hG hF hm t2
      show decL _ forms = i
      rw [this]; exact t3
  · exact .inl (by rw [encV, if_neg hR])
theorem dec_in {word : Int} (hW : W32 word) (k : Fl) : I64 (k.get (decV word)) := by
  rcases decL_some (word := word) forms with h | ⟨F, hF, _, _, h⟩
  · rw [show decV word = nilI from h]; cases k <;> exact zero_in
  · have G := good_all F hF
    rw [show decV word = ofF word F from h]
    exact (G.ok false (word, startI F) ⟨hW, fun k => by cases k <;> first | exact G.sub | exact zero_in⟩).f k
theorem enc_w (i : Ins) : W32 (encV i).1 := by
  rcases dec_enc i with h | h
  · rw [h]; exact ⟨by decide, by decide⟩
  · exact h.2.1
theorem enc_apart {i j : Ins} (hi : (encV i).2 = 0) (hj : (encV j).2 = 0) : (encV i).1 = (encV j).1 ↔ i = j := by
  constructor
  · intro h
    have a := (dec_enc i).resolve_left fun e => by rw [e] at hi; cases hi
    have b := (dec_enc j).resolve_left fun e => by rw [e] at hj; cases hj
    rw [← a.2.2, ← b.2.2, h]
  · rintro rfl; rfl
theorem dec_apart {a b : Int} (ha : W32 a) (hb : W32 b) (hn : a ≠ b) : decV a ≠ decV b ∨ decV a = nilI := by
  rcases enc_dec ha with h | ⟨p, h⟩
  · exact .inr h
  · left
    intro e
    rcases enc_dec hb with h2 | ⟨_, h2⟩
    · rw [e, h2] at p; exact p rfl
    · rw [e, h2] at h
      exact hn (by have := congrArg Prod.fst h; exact this.symm)
end Go.Proofs.YtbjcdpmhmebjnaaGreat
/- What an instruction wants, for every Op; Begin: contracts. -/
namespace Go.Proofs.YtbjcdpmhmebjnaaGreat
open Go.RowKit
set_option linter.unusedVariables false

set_option maxRecDepth 4000 in
set_option maxHeartbeats 4000000 in
theorem wish_none (g : Nat) (s : Stp) (w : World) (h : w.heap[g]? = some (.cells s.cells 58)) (k : Nat) (hk : k < 38) (hop : s.i.op = (k : Int)) (hrow : (wishRow g)[k]? = some .nilFunc) :
    Calls Tryz.prog 44 #[.pointer (some ⟨g, 0, none⟩)] w fun e w' => e = .returned nilW.val ∧ Below w.heap.size w w' := by
  go_enter Tryz.func44, Tryz.ntmps44
  go_upto_region 1 with fail
  have H := (has_none w).new 30 #[.int .i64 0, .int .u64 0, .int .u64 0, .int .i64 0, .bool false, .int .i64 0, .bool false, .int .i64 0, .int .i64 0, .int .i64 0]
  have hs := keep_row h (r_below_alloc w (.cells #[.int .i64 0, .int .u64 0, .int .u64 0, .int .i64 0, .bool false, .int .i64 0, .bool false, .int .i64 0, .int .i64 0, .int .i64 0] 30))
  generalize hb : w.heap.size = b at H ⊢
  generalize w.alloc _ = w1 at H hs ⊢
  obtain ⟨Z, hZ, H⟩ : ∃ Z, Z.size = 10 ∧ Has w [(b, Z, 30)] w1 := ⟨_, rfl, H⟩
  have hlt : b < w1.heap.size := (Array.getElem?_eq_some_iff.1 (H.get List.mem_cons_self)).1
  go_upto_region 2 with (first | ((with_reducible refine wpList_builtG rfl 110 _ rfl (wishRow g) (by kernel_rfl) ?_); simp only [Act.put, List.setIfInBounds_toArray, List.set_cons_succ, List.set_cons_zero]) | ((with_reducible refine wpList_store_new H rfl 110 _ _ rfl (wishRow g) rfl rfl (info93 g) ?_ (wishRow_one g) ?_); (focus rfl); intro w2 H2; simp only [Act.put]))
  replace hs := keep_row h H2.below
  have c0 := at_i hs 0 (.int .i64 s.i.op) (by decide) rfl
  rw [hop] at c0
  have ck := H2.at List.mem_cons_self k _ hrow
  replace H := H2.swap
  have hne : ∀ p ∈ [(w1.heap.size, wishRow g, (110 : TypeId))], p.1 ≠ b := one_other (by omega)
  clear H2 hlt
  generalize w1.heap.size = z at ck H hne ⊢
  have hk1 : (k : Int) < 38 := by omega
  go_wp2_with (first | ((with_reducible refine wpList_built_w rfl _ rfl nilW (by kernel_rfl) ?_); simp only [Act.put, List.setIfInBounds_toArray, List.set_cons_succ, List.set_cons_zero]) | ((with_reducible refine wpList_store_w rfl _ _ rfl H hne hZ _ rfl rfl ?_); intro w9 H; simp only [Act.put]))
  exact bodyPost_ret (back_w rfl _ _ _ _ _ _ rfl (H.get List.mem_cons_self)) rfl ⟨rfl, by first | exact H.below | (rw [← hb]; exact H.below)⟩
/-- What is known of an instruction that was decoded. -/
structure Fine (i : Ins) : Prop where
  op : 0 ≤ i.op ∧ i.op ≤ 37
  am : i.op = 19 ∨ i.op = 20 → i.amount = 0 ∨ i.amount = 3
  sub : i.op = 21 → i.sub = 0 ∨ i.sub = 1
  subx : i.op = 23 → i.sub = 0 ∨ i.sub = 1
  imm : i.op = 26 → 1 ≤ i.imm ∧ i.imm ≤ 3
theorem wish_0 (g : Nat) (s : Stp) (w : World) (h : w.heap[g]? = some (.cells s.cells 58)) (F : Fine s.i) (hel : 0 ≤ s.c.el ∧ s.c.el ≤ 1) (hop : s.i.op = 0) : Calls Tryz.prog 44 #[.pointer (some ⟨g, 0, none⟩)] w fun e w' => e = .returned (wishV s.c s.i).val ∧ Below w.heap.size w w' := by
  have e : wishV s.c s.i = unkV := by simp [wishV, hop]
  rw [e]
  exact wish_some g s w h 0 (by decide) hop 43 rfl _ (enters Tryz.func43 (by kernel_rfl) (by kernel_rfl)) (fun w h => unknown_c g s w h)
theorem wish_1 (g : Nat) (s : Stp) (w : World) (h : w.heap[g]? = some (.cells s.cells 58)) (F : Fine s.i) (hel : 0 ≤ s.c.el ∧ s.c.el ≤ 1) (hop : s.i.op = 1) : Calls Tryz.prog 44 #[.pointer (some ⟨g, 0, none⟩)] w fun e w' => e = .returned (wishV s.c s.i).val ∧ Below w.heap.size w w' := by
  have e : wishV s.c s.i = nilW := by simp [wishV, hop]
  rw [e]
  exact wish_none g s w h 1 (by decide) hop rfl
theorem wish_2 (g : Nat) (s : Stp) (w : World) (h : w.heap[g]? = some (.cells s.cells 58)) (F : Fine s.i) (hel : 0 ≤ s.c.el ∧ s.c.el ≤ 1) (hop : s.i.op = 2) : Calls Tryz.prog 44 #[.pointer (some ⟨g, 0, none⟩)] w fun e w' => e = .returned (wishV s.c s.i).val ∧ Below w.heap.size w w' := by
  have e : wishV s.c s.i = nilW := by simp [wishV, hop]
  rw [e]
  exact wish_none g s w h 2 (by decide) hop rfl
theorem wish_3 (g : Nat) (s : Stp) (w : World) (h : w.heap[g]? = some (.cells s.cells 58)) (F : Fine s.i) (hel : 0 ≤ s.c.el ∧ s.c.el ≤ 1) (hop : s.i.op = 3) : Calls Tryz.prog 44 #[.pointer (some ⟨g, 0, none⟩)] w fun e w' => e = .returned (wishV s.c s.i).val ∧ Below w.heap.size w w' := by
  have e : wishV s.c s.i = nilW := by simp [wishV, hop]
  rw [e]
  exact wish_none g s w h 3 (by decide) hop rfl
theorem wish_4 (g : Nat) (s : Stp) (w : World) (h : w.heap[g]? = some (.cells s.cells 58)) (F : Fine s.i) (hel : 0 ≤ s.c.el ∧ s.c.el ≤ 1) (hop : s.i.op = 4) : Calls Tryz.prog 44 #[.pointer (some ⟨g, 0, none⟩)] w fun e w' => e = .returned (wishV s.c s.i).val ∧ Below w.heap.size w w' := by
  have e : wishV s.c s.i = nilW := by simp [wishV, hop]
  rw [e]
  exact wish_none g s w h 4 (by decide) hop rfl
theorem wish_5 (g : Nat) (s : Stp) (w : World) (h : w.heap[g]? = some (.cells s.cells 58)) (F : Fine s.i) (hel : 0 ≤ s.c.el ∧ s.c.el ≤ 1) (hop : s.i.op = 5) : Calls Tryz.prog 44 #[.pointer (some ⟨g, 0, none⟩)] w fun e w' => e = .returned (wishV s.c s.i).val ∧ Below w.heap.size w w' := by
  have e : wishV s.c s.i = nilW := by simp [wishV, hop]
  rw [e]
  exact wish_none g s w h 5 (by decide) hop rfl
theorem wish_6 (g : Nat) (s : Stp) (w : World) (h : w.heap[g]? = some (.cells s.cells 58)) (F : Fine s.i) (hel : 0 ≤ s.c.el ∧ s.c.el ≤ 1) (hop : s.i.op = 6) : Calls Tryz.prog 44 #[.pointer (some ⟨g, 0, none⟩)] w fun e w' => e = .returned (wishV s.c s.i).val ∧ Below w.heap.size w w' := by
  have e : wishV s.c s.i = nilW := by simp [wishV, hop]
  rw [e]
  exact wish_none g s w h 6 (by decide) hop rfl
theorem wish_7 (g : Nat) (s : Stp) (w : World) (h : w.heap[g]? = some (.cells s.cells 58)) (F : Fine s.i) (hel : 0 ≤ s.c.el ∧ s.c.el ≤ 1) (hop : s.i.op = 7) : Calls Tryz.prog 44 #[.pointer (some ⟨g, 0, none⟩)] w fun e w' => e = .returned (wishV s.c s.i).val ∧ Below w.heap.size w w' := by
  have e : wishV s.c s.i = nilW := by simp [wishV, hop]
  rw [e]
  exact wish_none g s w h 7 (by decide) hop rfl
theorem wish_8 (g : Nat) (s : Stp) (w : World) (h : w.heap[g]? = some (.cells s.cells 58)) (F : Fine s.i) (hel : 0 ≤ s.c.el ∧ s.c.el ≤ 1) (hop : s.i.op = 8) : Calls Tryz.prog 44 #[.pointer (some ⟨g, 0, none⟩)] w fun e w' => e = .returned (wishV s.c s.i).val ∧ Below w.heap.size w w' := by
  have e : wishV s.c s.i = nilW := by simp [wishV, hop]
  rw [e]
  exact wish_none g s w h 8 (by decide) hop rfl
theorem wish_9 (g : Nat) (s : Stp) (w : World) (h : w.heap[g]? = some (.cells s.cells 58)) (F : Fine s.i) (hel : 0 ≤ s.c.el ∧ s.c.el ≤ 1) (hop : s.i.op = 9) : Calls Tryz.prog 44 #[.pointer (some ⟨g, 0, none⟩)] w fun e w' => e = .returned (wishV s.c s.i).val ∧ Below w.heap.size w w' := by
  have e : wishV s.c s.i = nilW := by simp [wishV, hop]
  rw [e]
  exact wish_none g s w h 9 (by decide) hop rfl
theorem wish_10 (g : Nat) (s : Stp) (w : World) (h : w.heap[g]? = some (.cells s.cells 58)) (F : Fine s.i) (hel : 0 ≤ s.c.el ∧ s.c.el ≤ 1) (hop : s.i.op = 10) : Calls Tryz.prog 44 #[.pointer (some ⟨g, 0, none⟩)] w fun e w' => e = .returned (wishV s.c s.i).val ∧ Below w.heap.size w w' := by
  have e : wishV s.c s.i = nilW := by simp [wishV, hop]
  rw [e]
  exact wish_none g s w h 10 (by decide) hop rfl
theorem wish_11 (g : Nat) (s : Stp) (w : World) (h : w.heap[g]? = some (.cells s.cells 58)) (F : Fine s.i) (hel : 0 ≤ s.c.el ∧ s.c.el ≤ 1) (hop : s.i.op = 11) : Calls Tryz.prog 44 #[.pointer (some ⟨g, 0, none⟩)] w fun e w' => e = .returned (wishV s.c s.i).val ∧ Below w.heap.size w w' := by
  have e : wishV s.c s.i = nilW := by simp [wishV, hop]
  rw [e]
  exact wish_none g s w h 11 (by decide) hop rfl
theorem wish_12 (g : Nat) (s : Stp) (w : World) (h : w.heap[g]? = some (.cells s.cells 58)) (F : Fine s.i) (hel : 0 ≤ s.c.el ∧ s.c.el ≤ 1) (hop : s.i.op = 12) : Calls Tryz.prog 44 #[.pointer (some ⟨g, 0, none⟩)] w fun e w' => e = .returned (wishV s.c s.i).val ∧ Below w.heap.size w w' := by
  have e : wishV s.c s.i = nilW := by simp [wishV, hop]
  rw [e]
  exact wish_none g s w h 12 (by decide) hop rfl
theorem wish_13 (g : Nat) (s : Stp) (w : World) (h : w.heap[g]? = some (.cells s.cells 58)) (F : Fine s.i) (hel : 0 ≤ s.c.el ∧ s.c.el ≤ 1) (hop : s.i.op = 13) : Calls Tryz.prog 44 #[.pointer (some ⟨g, 0, none⟩)] w fun e w' => e = .returned (wishV s.c s.i).val ∧ Below w.heap.size w w' := by
  have e : wishV s.c s.i = nilW := by simp [wishV, hop]
  rw [e]
  exact wish_none g s w h 13 (by decide) hop rfl
theorem wish_14 (g : Nat) (s : Stp) (w : World) (h : w.heap[g]? = some (.cells s.cells 58)) (F : Fine s.i) (hel : 0 ≤ s.c.el ∧ s.c.el ≤ 1) (hop : s.i.op = 14) : Calls Tryz.prog 44 #[.pointer (some ⟨g, 0, none⟩)] w fun e w' => e = .returned (wishV s.c s.i).val ∧ Below w.heap.size w w' := by
  have e : wishV s.c s.i = nilW := by simp [wishV, hop]
  rw [e]
  exact wish_none g s w h 14 (by decide) hop rfl
theorem wish_15 (g : Nat) (s : Stp) (w : World) (h : w.heap[g]? = some (.cells s.cells 58)) (F : Fine s.i) (hel : 0 ≤ s.c.el ∧ s.c.el ≤ 1) (hop : s.i.op = 15) : Calls Tryz.prog 44 #[.pointer (some ⟨g, 0, none⟩)] w fun e w' => e = .returned (wishV s.c s.i).val ∧ Below w.heap.size w w' := by
  have e : wishV s.c s.i = nilW := by simp [wishV, hop]
  rw [e]
  exact wish_none g s w h 15 (by decide) hop rfl
theorem wish_16 (g : Nat) (s : Stp) (w : World) (h : w.heap[g]? = some (.cells s.cells 58)) (F : Fine s.i) (hel : 0 ≤ s.c.el ∧ s.c.el ≤ 1) (hop : s.i.op = 16) : Calls Tryz.prog 44 #[.pointer (some ⟨g, 0, none⟩)] w fun e w' => e = .returned (wishV s.c s.i).val ∧ Below w.heap.size w w' := by
  have e : wishV s.c s.i = nilW := by simp [wishV, hop]
  rw [e]
  exact wish_none g s w h 16 (by decide) hop rfl
theorem wish_17 (g : Nat) (s : Stp) (w : World) (h : w.heap[g]? = some (.cells s.cells 58)) (F : Fine s.i) (hel : 0 ≤ s.c.el ∧ s.c.el ≤ 1) (hop : s.i.op = 17) : Calls Tryz.prog 44 #[.pointer (some ⟨g, 0, none⟩)] w fun e w' => e = .returned (wishV s.c s.i).val ∧ Below w.heap.size w w' := by
  have e : wishV s.c s.i = accV s.c s.i { nilW with kind := 1 } := by simp [wishV, hop]
  rw [e]
  exact wish_some g s w h 17 (by decide) hop 102 rfl _ (enters Tryz.func102 (by kernel_rfl) (by kernel_rfl)) (fun w h => plainLoad_c g s w h F.am hel)
theorem wish_18 (g : Nat) (s : Stp) (w : World) (h : w.heap[g]? = some (.cells s.cells 58)) (F : Fine s.i) (hel : 0 ≤ s.c.el ∧ s.c.el ≤ 1) (hop : s.i.op = 18) : Calls Tryz.prog 44 #[.pointer (some ⟨g, 0, none⟩)] w fun e w' => e = .returned (wishV s.c s.i).val ∧ Below w.heap.size w w' := by
  have e : wishV s.c s.i = accV s.c s.i { nilW with kind := 2, value := xV s.c s.i.rd } := by simp [wishV, hop]
  rw [e]
  exact wish_some g s w h 18 (by decide) hop 105 rfl _ (enters Tryz.func105 (by kernel_rfl) (by kernel_rfl)) (fun w h => plainStore_c g s w h F.am hel)
theorem wish_19 (g : Nat) (s : Stp) (w : World) (h : w.heap[g]? = some (.cells s.cells 58)) (F : Fine s.i) (hel : 0 ≤ s.c.el ∧ s.c.el ≤ 1) (hop : s.i.op = 19) : Calls Tryz.prog 44 #[.pointer (some ⟨g, 0, none⟩)] w fun e w' => e = .returned (wishV s.c s.i).val ∧ Below w.heap.size w w' := by
  have e : wishV s.c s.i = accV s.c s.i { nilW with kind := 1 } := by simp [wishV, hop]
  rw [e]
  exact wish_some g s w h 19 (by decide) hop 102 rfl _ (enters Tryz.func102 (by kernel_rfl) (by kernel_rfl)) (fun w h => plainLoad_c g s w h F.am hel)
theorem wish_20 (g : Nat) (s : Stp) (w : World) (h : w.heap[g]? = some (.cells s.cells 58)) (F : Fine s.i) (hel : 0 ≤ s.c.el ∧ s.c.el ≤ 1) (hop : s.i.op = 20) : Calls Tryz.prog 44 #[.pointer (some ⟨g, 0, none⟩)] w fun e w' => e = .returned (wishV s.c s.i).val ∧ Below w.heap.size w w' := by
  have e : wishV s.c s.i = accV s.c s.i { nilW with kind := 2, value := xV s.c s.i.rd } := by simp [wishV, hop]
  rw [e]
  exact wish_some g s w h 20 (by decide) hop 105 rfl _ (enters Tryz.func105 (by kernel_rfl) (by kernel_rfl)) (fun w h => plainStore_c g s w h F.am hel)
theorem wish_21 (g : Nat) (s : Stp) (w : World) (h : w.heap[g]? = some (.cells s.cells 58)) (F : Fine s.i) (hel : 0 ≤ s.c.el ∧ s.c.el ≤ 1) (hop : s.i.op = 21) : Calls Tryz.prog 44 #[.pointer (some ⟨g, 0, none⟩)] w fun e w' => e = .returned (wishV s.c s.i).val ∧ Below w.heap.size w w' := by
  have e : wishV s.c s.i = accV s.c s.i { nilW with kind := 1, acq := 2 - s.i.sub } := by simp [wishV, hop]
  rw [e]
  exact wish_some g s w h 21 (by decide) hop 103 rfl _ (enters Tryz.func103 (by kernel_rfl) (by kernel_rfl)) (fun w h => acquireLoad_c g s w h F.am hel (F.sub hop))
theorem wish_22 (g : Nat) (s : Stp) (w : World) (h : w.heap[g]? = some (.cells s.cells 58)) (F : Fine s.i) (hel : 0 ≤ s.c.el ∧ s.c.el ≤ 1) (hop : s.i.op = 22) : Calls Tryz.prog 44 #[.pointer (some ⟨g, 0, none⟩)] w fun e w' => e = .returned (wishV s.c s.i).val ∧ Below w.heap.size w w' := by
  have e : wishV s.c s.i = accV s.c s.i { nilW with kind := 2, value := xV s.c s.i.rd, rel := true } := by simp [wishV, hop]
  rw [e]
  exact wish_some g s w h 22 (by decide) hop 106 rfl _ (enters Tryz.func106 (by kernel_rfl) (by kernel_rfl)) (fun w h => releaseStore_c g s w h F.am hel)
theorem wish_23 (g : Nat) (s : Stp) (w : World) (h : w.heap[g]? = some (.cells s.cells 58)) (F : Fine s.i) (hel : 0 ≤ s.c.el ∧ s.c.el ≤ 1) (hop : s.i.op = 23) : Calls Tryz.prog 44 #[.pointer (some ⟨g, 0, none⟩)] w fun e w' => e = .returned (wishV s.c s.i).val ∧ Below w.heap.size w w' := by
  have e : wishV s.c s.i = accV s.c s.i { nilW with kind := 3, acq := 2 * s.i.sub } := by simp [wishV, hop]
  rw [e]
  exact wish_some g s w h 23 (by decide) hop 104 rfl _ (enters Tryz.func104 (by kernel_rfl) (by kernel_rfl)) (fun w h => exclusiveLoad_c g s w h F.am hel (F.subx hop))
theorem wish_24 (g : Nat) (s : Stp) (w : World) (h : w.heap[g]? = some (.cells s.cells 58)) (F : Fine s.i) (hel : 0 ≤ s.c.el ∧ s.c.el ≤ 1) (hop : s.i.op = 24) : Calls Tryz.prog 44 #[.pointer (some ⟨g, 0, none⟩)] w fun e w' => e = .returned (wishV s.c s.i).val ∧ Below w.heap.size w w' := by
  have e : wishV s.c s.i = accV s.c s.i { nilW with kind := 4, value := xV s.c s.i.rd, rel := s.i.sub == 1 } := by simp [wishV, hop]
  rw [e]
  exact wish_some g s w h 24 (by decide) hop 107 rfl _ (enters Tryz.func107 (by kernel_rfl) (by kernel_rfl)) (fun w h => exclusiveStore_c g s w h F.am hel)
theorem wish_25 (g : Nat) (s : Stp) (w : World) (h : w.heap[g]? = some (.cells s.cells 58)) (F : Fine s.i) (hel : 0 ≤ s.c.el ∧ s.c.el ≤ 1) (hop : s.i.op = 25) : Calls Tryz.prog 44 #[.pointer (some ⟨g, 0, none⟩)] w fun e w' => e = .returned (wishV s.c s.i).val ∧ Below w.heap.size w w' := by
  have e : wishV s.c s.i = { nilW with kind := 5 } := by simp [wishV, hop]
  rw [e]
  exact wish_some g s w h 25 (by decide) hop 108 rfl _ (enters Tryz.func108 (by kernel_rfl) (by kernel_rfl)) (fun w h => clear_c g s w h)
theorem wish_26 (g : Nat) (s : Stp) (w : World) (h : w.heap[g]? = some (.cells s.cells 58)) (F : Fine s.i) (hel : 0 ≤ s.c.el ∧ s.c.el ≤ 1) (hop : s.i.op = 26) : Calls Tryz.prog 44 #[.pointer (some ⟨g, 0, none⟩)] w fun e w' => e = .returned (wishV s.c s.i).val ∧ Below w.heap.size w w' := by
  have e : wishV s.c s.i = { nilW with kind := 6, fence := fenceV s.i.imm, dsb := s.i.sub == 1 } := by simp [wishV, hop]
  rw [e]
  exact wish_some g s w h 26 (by decide) hop 109 rfl _ (enters Tryz.func109 (by kernel_rfl) (by kernel_rfl)) (fun w h => fence_c g s w h (F.imm hop))
theorem wish_27 (g : Nat) (s : Stp) (w : World) (h : w.heap[g]? = some (.cells s.cells 58)) (F : Fine s.i) (hel : 0 ≤ s.c.el ∧ s.c.el ≤ 1) (hop : s.i.op = 27) : Calls Tryz.prog 44 #[.pointer (some ⟨g, 0, none⟩)] w fun e w' => e = .returned (wishV s.c s.i).val ∧ Below w.heap.size w w' := by
  have e : wishV s.c s.i = { nilW with kind := 7 } := by simp [wishV, hop]
  rw [e]
  exact wish_some g s w h 27 (by decide) hop 110 rfl _ (enters Tryz.func110 (by kernel_rfl) (by kernel_rfl)) (fun w h => refetch_c g s w h)
theorem wish_28 (g : Nat) (s : Stp) (w : World) (h : w.heap[g]? = some (.cells s.cells 58)) (F : Fine s.i) (hel : 0 ≤ s.c.el ∧ s.c.el ≤ 1) (hop : s.i.op = 28) : Calls Tryz.prog 44 #[.pointer (some ⟨g, 0, none⟩)] w fun e w' => e = .returned (wishV s.c s.i).val ∧ Below w.heap.size w w' := by
  have e : wishV s.c s.i = { nilW with kind := 8, addr := lineV s.c s.i } := by simp [wishV, hop]
  rw [e]
  exact wish_some g s w h 28 (by decide) hop 111 rfl _ (enters Tryz.func111 (by kernel_rfl) (by kernel_rfl)) (fun w h => dropLine_c g s w h)
theorem wish_29 (g : Nat) (s : Stp) (w : World) (h : w.heap[g]? = some (.cells s.cells 58)) (F : Fine s.i) (hel : 0 ≤ s.c.el ∧ s.c.el ≤ 1) (hop : s.i.op = 29) : Calls Tryz.prog 44 #[.pointer (some ⟨g, 0, none⟩)] w fun e w' => e = .returned (wishV s.c s.i).val ∧ Below w.heap.size w w' := by
  have e : wishV s.c s.i = { nilW with kind := 9 } := by simp [wishV, hop]
  rw [e]
  exact wish_some g s w h 29 (by decide) hop 112 rfl _ (enters Tryz.func112 (by kernel_rfl) (by kernel_rfl)) (fun w h => dropAll_c g s w h)
theorem wish_30 (g : Nat) (s : Stp) (w : World) (h : w.heap[g]? = some (.cells s.cells 58)) (F : Fine s.i) (hel : 0 ≤ s.c.el ∧ s.c.el ≤ 1) (hop : s.i.op = 30) : Calls Tryz.prog 44 #[.pointer (some ⟨g, 0, none⟩)] w fun e w' => e = .returned (wishV s.c s.i).val ∧ Below w.heap.size w w' := by
  have e : wishV s.c s.i = { nilW with kind := 10, addr := lineV s.c s.i } := by simp [wishV, hop]
  rw [e]
  exact wish_some g s w h 30 (by decide) hop 113 rfl _ (enters Tryz.func113 (by kernel_rfl) (by kernel_rfl)) (fun w h => cleanLine_c g s w h)
theorem wish_31 (g : Nat) (s : Stp) (w : World) (h : w.heap[g]? = some (.cells s.cells 58)) (F : Fine s.i) (hel : 0 ≤ s.c.el ∧ s.c.el ≤ 1) (hop : s.i.op = 31) : Calls Tryz.prog 44 #[.pointer (some ⟨g, 0, none⟩)] w fun e w' => e = .returned (wishV s.c s.i).val ∧ Below w.heap.size w w' := by
  cases ho : outB s.i.sys
  · have e : wishV s.c s.i = nilW := by simp [wishV, hop, ho]
    rw [e]
    exact wish_some g s w h 31 (by decide) hop 114 rfl _ (enters Tryz.func114 (by kernel_rfl) (by kernel_rfl)) (fun w h => sysReadN_c g s w h ho)
  · have e : wishV s.c s.i = { nilW with kind := 11, sys := s.i.sys } := by simp [wishV, hop, ho]
    rw [e]
    exact wish_some g s w h 31 (by decide) hop 114 rfl _ (enters Tryz.func114 (by kernel_rfl) (by kernel_rfl)) (fun w h => sysReadY_c g s w h ho)
theorem wish_32 (g : Nat) (s : Stp) (w : World) (h : w.heap[g]? = some (.cells s.cells 58)) (F : Fine s.i) (hel : 0 ≤ s.c.el ∧ s.c.el ≤ 1) (hop : s.i.op = 32) : Calls Tryz.prog 44 #[.pointer (some ⟨g, 0, none⟩)] w fun e w' => e = .returned (wishV s.c s.i).val ∧ Below w.heap.size w w' := by
  cases ho : outB s.i.sys
  · have e : wishV s.c s.i = nilW := by simp [wishV, hop, ho]
    rw [e]
    exact wish_some g s w h 32 (by decide) hop 115 rfl _ (enters Tryz.func115 (by kernel_rfl) (by kernel_rfl)) (fun w h => sysWriteN_c g s w h ho)
  · have e : wishV s.c s.i = { nilW with kind := 12, sys := s.i.sys, value := xV s.c s.i.rd } := by simp [wishV, hop, ho]
    rw [e]
    exact wish_some g s w h 32 (by decide) hop 115 rfl _ (enters Tryz.func115 (by kernel_rfl) (by kernel_rfl)) (fun w h => sysWriteY_c g s w h ho)
theorem wish_33 (g : Nat) (s : Stp) (w : World) (h : w.heap[g]? = some (.cells s.cells 58)) (F : Fine s.i) (hel : 0 ≤ s.c.el ∧ s.c.el ≤ 1) (hop : s.i.op = 33) : Calls Tryz.prog 44 #[.pointer (some ⟨g, 0, none⟩)] w fun e w' => e = .returned (wishV s.c s.i).val ∧ Below w.heap.size w w' := by
  have e : wishV s.c s.i = nilW := by simp [wishV, hop]
  rw [e]
  exact wish_none g s w h 33 (by decide) hop rfl
theorem wish_34 (g : Nat) (s : Stp) (w : World) (h : w.heap[g]? = some (.cells s.cells 58)) (F : Fine s.i) (hel : 0 ≤ s.c.el ∧ s.c.el ≤ 1) (hop : s.i.op = 34) : Calls Tryz.prog 44 #[.pointer (some ⟨g, 0, none⟩)] w fun e w' => e = .returned (wishV s.c s.i).val ∧ Below w.heap.size w w' := by
  have e : wishV s.c s.i = { nilW with kind := 15, cls := 21, iss := s.i.imm } := by simp [wishV, hop]
  rw [e]
  exact wish_some g s w h 34 (by decide) hop 116 rfl _ (enters Tryz.func116 (by kernel_rfl) (by kernel_rfl)) (fun w h => svc_c g s w h)
theorem wish_35 (g : Nat) (s : Stp) (w : World) (h : w.heap[g]? = some (.cells s.cells 58)) (F : Fine s.i) (hel : 0 ≤ s.c.el ∧ s.c.el ≤ 1) (hop : s.i.op = 35) : Calls Tryz.prog 44 #[.pointer (some ⟨g, 0, none⟩)] w fun e w' => e = .returned (wishV s.c s.i).val ∧ Below w.heap.size w w' := by
  have e : wishV s.c s.i = { nilW with kind := 15, cls := 60, iss := s.i.imm } := by simp [wishV, hop]
  rw [e]
  exact wish_some g s w h 35 (by decide) hop 117 rfl _ (enters Tryz.func117 (by kernel_rfl) (by kernel_rfl)) (fun w h => breakpoint_c g s w h)
theorem wish_36 (g : Nat) (s : Stp) (w : World) (h : w.heap[g]? = some (.cells s.cells 58)) (F : Fine s.i) (hel : 0 ≤ s.c.el ∧ s.c.el ≤ 1) (hop : s.i.op = 36) : Calls Tryz.prog 44 #[.pointer (some ⟨g, 0, none⟩)] w fun e w' => e = .returned (wishV s.c s.i).val ∧ Below w.heap.size w w' := by
  have e : wishV s.c s.i = nilW := by simp [wishV, hop]
  rw [e]
  exact wish_none g s w h 36 (by decide) hop rfl
theorem wish_37 (g : Nat) (s : Stp) (w : World) (h : w.heap[g]? = some (.cells s.cells 58)) (F : Fine s.i) (hel : 0 ≤ s.c.el ∧ s.c.el ≤ 1) (hop : s.i.op = 37) : Calls Tryz.prog 44 #[.pointer (some ⟨g, 0, none⟩)] w fun e w' => e = .returned (wishV s.c s.i).val ∧ Below w.heap.size w w' := by
  have e : wishV s.c s.i = hintV s.c s.i := by simp [wishV, hop]
  rw [e]
  exact wish_some g s w h 37 (by decide) hop 118 rfl _ (enters Tryz.func118 (by kernel_rfl) (by kernel_rfl)) (fun w h => hinted_c g s w h)
theorem wish_c (g : Nat) (s : Stp) (w : World) (h : w.heap[g]? = some (.cells s.cells 58)) (F : Fine s.i) (hel : 0 ≤ s.c.el ∧ s.c.el ≤ 1) : Calls Tryz.prog 44 #[.pointer (some ⟨g, 0, none⟩)] w fun e w' => e = .returned (wishV s.c s.i).val ∧ Below w.heap.size w w' := by
  have h0 := F.op
  rcases (by omega : s.i.op = 0 ∨ s.i.op = 1 ∨ s.i.op = 2 ∨ s.i.op = 3 ∨ s.i.op = 4 ∨ s.i.op = 5 ∨ s.i.op = 6 ∨ s.i.op = 7 ∨ s.i.op = 8 ∨ s.i.op = 9 ∨ s.i.op = 10 ∨ s.i.op = 11 ∨ s.i.op = 12 ∨ s.i.op = 13 ∨ s.i.op = 14 ∨ s.i.op = 15 ∨ s.i.op = 16 ∨ s.i.op = 17 ∨ s.i.op = 18 ∨ s.i.op = 19 ∨ s.i.op = 20 ∨ s.i.op = 21 ∨ s.i.op = 22 ∨ s.i.op = 23 ∨ s.i.op = 24 ∨ s.i.op = 25 ∨ s.i.op = 26 ∨ s.i.op = 27 ∨ s.i.op = 28 ∨ s.i.op = 29 ∨ s.i.op = 30 ∨ s.i.op = 31 ∨ s.i.op = 32 ∨ s.i.op = 33 ∨ s.i.op = 34 ∨ s.i.op = 35 ∨ s.i.op = 36 ∨ s.i.op = 37) with e | e | e | e | e | e | e | e | e | e | e | e | e | e | e | e | e | e | e | e | e | e | e | e | e | e | e | e | e | e | e | e | e | e | e | e | e | e
  · exact wish_0 g s w h F hel e
  · exact wish_1 g s w h F hel e
  · exact wish_2 g s w h F hel e
  · exact wish_3 g s w h F hel e
  · exact wish_4 g s w h F hel e
  · exact wish_5 g s w h F hel e
  · exact wish_6 g s w h F hel e
  · exact wish_7 g s w h F hel e
  · exact wish_8 g s w h F hel e
  · exact wish_9 g s w h F hel e
  · exact wish_10 g s w h F hel e
  · exact wish_11 g s w h F hel e
  · exact wish_12 g s w h F hel e
  · exact wish_13 g s w h F hel e
  · exact wish_14 g s w h F hel e
  · exact wish_15 g s w h F hel e
  · exact wish_16 g s w h F hel e
  · exact wish_17 g s w h F hel e
  · exact wish_18 g s w h F hel e
  · exact wish_19 g s w h F hel e
  · exact wish_20 g s w h F hel e
  · exact wish_21 g s w h F hel e
  · exact wish_22 g s w h F hel e
  · exact wish_23 g s w h F hel e
  · exact wish_24 g s w h F hel e
  · exact wish_25 g s w h F hel e
  · exact wish_26 g s w h F hel e
  · exact wish_27 g s w h F hel e
  · exact wish_28 g s w h F hel e
  · exact wish_29 g s w h F hel e
  · exact wish_30 g s w h F hel e
  · exact wish_31 g s w h F hel e
  · exact wish_32 g s w h F hel e
  · exact wish_33 g s w h F hel e
  · exact wish_34 g s w h F hel e
  · exact wish_35 g s w h F hel e
  · exact wish_36 g s w h F hel e
  · exact wish_37 g s w h F hel e
set_option maxHeartbeats 2000000 in
theorem want_c (g : Nat) (s : Stp) (w : World) (h : w.heap[g]? = some (.cells s.cells 58)) (F : Fine s.i) (hel : 0 ≤ s.c.el ∧ s.c.el ≤ 1) : Calls Tryz.prog 22 #[.pointer (some ⟨g, 0, none⟩)] w fun e w' => e = .returned (wantV s.c s.i).val ∧ Below w.heap.size w w' := by
  cases hbar : barB s.c s.i
  all_goals
    go_enter Tryz.func22, Tryz.ntmps22
    go_upto_region 1 with fail
    have H := (has_none w).new 30 #[.int .i64 0, .int .u64 0, .int .u64 0, .int .i64 0, .bool false, .int .i64 0, .bool false, .int .i64 0, .int .i64 0, .int .i64 0]
    have hs := keep_row h (r_below_alloc w (.cells #[.int .i64 0, .int .u64 0, .int .u64 0, .int .i64 0, .bool false, .int .i64 0, .bool false, .int .i64 0, .int .i64 0, .int .i64 0] 30))
    generalize hb : w.heap.size = b at H ⊢
    generalize w.alloc _ = w1 at H hs ⊢
    obtain ⟨Z, hZ, H⟩ : ∃ Z, Z.size = 10 ∧ Has w [(b, Z, 30)] w1 := ⟨_, rfl, H⟩
    go_wp2_with (first | (go_at_call 42; refine (barred_c g s _ hs).mono ?_; rw [hbar]; rintro e w2 ⟨rfl, rfl⟩; dsimp only) | (go_at_call 43; refine (unknown_c g s _ hs).mono ?_; rintro e w3 ⟨rfl, hB⟩; dsimp only; replace H := H.grow hB) | (go_at_call 44; refine (wish_c g s _ hs F hel).mono ?_; rintro e w3 ⟨rfl, hB⟩; dsimp only; replace H := H.grow hB) | ((with_reducible refine wpList_store_w rfl _ _ rfl H no_other hZ _ rfl rfl ?_); intro w9 H; simp only [Act.put]))
    exact bodyPost_ret (back_w rfl _ _ _ _ _ _ rfl (H.get List.mem_cons_self)) rfl ⟨by simp [wantV, hbar], by first | exact H.below | (rw [← hb]; exact H.below)⟩
end Go.Proofs.YtbjcdpmhmebjnaaGreat
/- An instruction that was decoded is fine; Begin and Fetch: contracts, for every state and word. -/
namespace Go.Proofs.YtbjcdpmhmebjnaaGreat
open Go.RowKit
set_option linter.unusedVariables false

theorem dec_right {word : Int} (hW : W32 word) : decV word = nilI ∨ rightB (decV word) = true := by
  rcases enc_dec hW with e | ⟨_, e⟩
  · exact .inl e
  · right
    cases hr : rightB (decV word)
    · unfold encV at e
      rw [hr, if_neg (by decide)] at e
      have e2 : (3 : Int) = 0 := congrArg Prod.snd e
      exact absurd e2 (by decide)
    · rfl
structure Rb (i : Ins) : Prop where
  op : 1 ≤ i.op ∧ i.op ≤ 37
  rd : holdsB (regS (hasRd i.op)) i.rd = true
  rn : holdsB (regS (hasRn i.op)) i.rn = true
  rm : holdsB (regS (hasRm i.op)) i.rm = true
  ra : holdsB (regS (hasRa i.op)) i.ra = true
  sub : holdsB (subS i.op) i.sub = true
  imm : holdsB (immS i.op i.sub) i.imm = true
  imm2 : holdsB (imm2S i.op) i.imm2 = true
  amount : holdsB (amountS i.op) i.amount = true
  shift : holdsB (shiftS i.op) i.shift = true
  cond : holdsB (condS i.op) i.cond = true
theorem right_rb {i : Ins} (h : rightB i = true) : Rb i := by
  simp only [rightB, numbersB, Bool.and_eq_true, decide_eq_true_eq] at h
  obtain ⟨h0, ⟨⟨⟨⟨⟨⟨⟨⟨⟨⟨⟨h1, h2⟩, h3⟩, h4⟩, h5⟩, h6⟩, h7⟩, h8⟩, h9⟩, h10⟩, _⟩, _⟩, _⟩ := h
  exact ⟨h0, h1, h2, h3, h4, h5, h6, h7, h8, h9, h10⟩
theorem rb_in {s : Span} {n : Int} (h : holdsB s n = true) : s.lo ≤ n ∧ n ≤ s.hi ∧ (n = 0 ∨ n.tmod s.st = 0) := by
  simp only [holdsB, Bool.and_eq_true, decide_eq_true_eq, Bool.or_eq_true, beq_iff_eq] at h
  exact ⟨h.1.1, h.1.2, h.2⟩
theorem right_fine {i : Ins} (h : rightB i = true) : Fine i := by
  have R := right_rb h
  refine ⟨⟨by have := R.op; omega, R.op.2⟩, fun e => ?_, fun e => ?_, fun e => ?_, fun e => ?_⟩
  · have e' : amountS i.op = ⟨0, 3, 3⟩ := by rcases e with e | e <;> rw [e] <;> rfl
    have := rb_in R.amount
    rw [e'] at this
    obtain ⟨h1, h2, h3⟩ := this
    rcases (by simp only at h1 h2; omega : i.amount = 0 ∨ i.amount = 1 ∨ i.amount = 2 ∨ i.amount = 3) with e | e | e | e
    · exact .inl e
    · rw [e] at h3; exact absurd h3 (by decide)
    · rw [e] at h3; exact absurd h3 (by decide)
    · exact .inr e
  · have := rb_in R.sub
    rw [e] at this
    obtain ⟨h1, h2, _⟩ := this
    have h1 : 0 ≤ i.sub := h1
    have h2 : i.sub ≤ 1 := h2
    omega
  · have := rb_in R.sub
    rw [e] at this
    obtain ⟨h1, h2, _⟩ := this
    have h1 : 0 ≤ i.sub := h1
    have h2 : i.sub ≤ 1 := h2
    omega
  · have := rb_in R.imm
    rw [e] at this
    obtain ⟨h1, h2, _⟩ := this
    have h1 : 1 ≤ i.imm := h1
    have h2 : i.imm ≤ 3 := h2
    omega
theorem nil_fine : Fine nilI := ⟨⟨by decide, by decide⟩, fun e => by rcases e with e | e <;> exact absurd e (by decide), fun e => absurd e (by decide), fun e => absurd e (by decide), fun e => absurd e (by decide)⟩
theorem dec_fine {word : Int} (hW : W32 word) : Fine (decV word) := by
  rcases dec_right hW with e | e
  · rw [e]; exact nil_fine
  · exact right_fine e
theorem right_el {c : Cor} (h : rightC c = true) : 0 ≤ c.el ∧ c.el ≤ 1 := by
  simp only [rightC, Bool.and_eq_true, Bool.or_eq_true, beq_iff_eq] at h
  rcases h.1.1.1.1 with e | e <;> omega
/-- A new variable of the step's type. -/
def FreshS (n : Nat) (v : Value) (w : World) : Prop := ∃ b Z, v = .pointer (some ⟨b, 0, none⟩) ∧ n < b ∧ w.heap[b]? = some (.cells Z 58) ∧ Z.size = 69
theorem freshS_up (n : Nat) (v : Value) : Rel.Up Rel.Grows (FreshS n v) := fun _ _ ⟨b, Z, e, hn, hh, hz⟩ hb => ⟨b, Z, e, hn, keep_row hh hb, hz⟩
theorem info53 : (Tryz.prog.info? 58).map (·.size) = some 69 := by kernel_rfl
theorem Stp.info (s : Stp) : (Tryz.prog.info? 58).map (·.size) = some s.cells.size := by rw [s.size]; exact info53
theorem rel_load_c {o : Oper} {a : Act} {w : World} {c : Cor} (x : Operand) (ho : o.op = .load 26 x) (g : Nat) (hx : a.eval x = .pointer (some ⟨g, 0, none⟩)) (hg : w.heap[g]? = some (.cells c.cells 26)) :
    Rel.relUpon Tryz.prog Rel.Grows (fun v _ => v = c.val) w ((execOp a.eval o).run Tryz.prog w) := by
  unfold execOp
  simp only [ho, hx, Instr.loadAt, Instr.sureAddr, Sem.run_bind, Sem.run_pure, Result.andThen_ok, run_loadVar_row w g 26 26 c.cells (0, 0) _ hg Tryz.underlying26 rfl c.info]
  exact ⟨Below.refl _ _, rfl⟩
theorem rel_built_s {o : Oper} {a : Act} {w : World} (parts : Array (Nat × Operand)) (ho : o.op = .build 58 parts) (s : Stp) (ps : List (Nat × Value)) (hp : (parts.map fun (i, x) => (i, a.eval x)).toList = ps) (hf : Tryz.prog.built 58 ps = some s.cells) :
    Rel.relUpon Tryz.prog Rel.Grows (fun v _ => v = .agg s.cells) w ((execOp a.eval o).run Tryz.prog w) := by
  rw [← hp] at hf
  unfold execOp
  simp only [ho, Sem.run_bind, run_build w 58 _ s.cells hf, Result.andThen_ok]
  exact ⟨Below.refl _ _, rfl⟩
def errC (c : Cor) : Int := bif rightC c then 0 else 1
set_option maxRecDepth 4000 in
set_option maxHeartbeats 4000000 in
theorem begin_no (c : Cor) (word : Int) (hr : rightC c = false) (w : World) :
    Calls Tryz.prog 9 #[c.val, .int .u32 word] w fun e w' => e = .returned (.tuple #[nilW.val, .int .i64 1]) ∧ Below w.heap.size w w' := by
  go_enter Tryz.func9, Tryz.ntmps9
  go_upto_region 1 with fail
  have H := stwo_start w c.cells #[.int .i64 0, .int .u64 0, .int .u64 0, .int .i64 0, .bool false, .int .i64 0, .bool false, .int .i64 0, .int .i64 0, .int .i64 0] 26 30
  generalize hb : w.heap.size = b at H ⊢
  generalize (w.alloc _).alloc _ = w1 at H ⊢
  obtain ⟨Z, hZ, H⟩ : ∃ Z, Z.size = 10 ∧ Has w [(b + 1, Z, 30), (b, c.cells, 26)] w1 := ⟨_, rfl, H⟩
  have hne : ∀ p ∈ [(b, c.cells, (26 : TypeId))], p.1 ≠ b + 1 := one_other (by omega)
  go_wp2_with (first | ((with_reducible refine wpList_load_ifA rfl 26 _ rfl b rfl 26 _ (0, 0) _ (H.get (List.mem_cons_of_mem _ List.mem_cons_self)) Tryz.underlying26 rfl (Cor.info _) ?_); simp only [Act.put, List.setIfInBounds_toArray, List.set_cons_succ, List.set_cons_zero]) | (go_at_call 21; refine (Right_c c _).mono ?_; rw [hr]; rintro e w2 ⟨rfl, hB⟩; dsimp only; replace H := H.grow hB) | ((with_reducible refine wpList_built_w rfl _ rfl nilW (by kernel_rfl) ?_); simp only [Act.put, List.setIfInBounds_toArray, List.set_cons_succ, List.set_cons_zero]) | ((with_reducible refine wpList_store_w rfl _ _ rfl H hne hZ _ rfl rfl ?_); intro w9 H; simp only [Act.put]))
  exact bodyPost_ret (back_wt rfl _ _ _ _ _ _ rfl (H.get List.mem_cons_self)) rfl ⟨rfl, by first | exact H.below | (rw [← hb]; exact H.below)⟩
set_option maxRecDepth 4000 in
set_option maxHeartbeats 4000000 in
theorem begin_i (c : Cor) (word : Int) (i : Ins) (hdec : ∀ w : World, Calls Tryz.prog 15 #[.int .u32 word] w fun e w' => e = .returned i.val ∧ Below w.heap.size w w') (F : Fine i) (hr : rightC c = true) (w : World) :
    Calls Tryz.prog 9 #[c.val, .int .u32 word] w fun e w' => e = .returned (.tuple #[(wantV c (i)).val, .int .i64 0]) ∧ Below w.heap.size w w' := by
  go_enter Tryz.func9, Tryz.ntmps9
  go_upto_region 1 with fail
  have H := stwo_start w c.cells #[.int .i64 0, .int .u64 0, .int .u64 0, .int .i64 0, .bool false, .int .i64 0, .bool false, .int .i64 0, .int .i64 0, .int .i64 0] 26 30
  generalize hb : w.heap.size = b at H ⊢
  generalize (w.alloc _).alloc _ = w1 at H ⊢
  obtain ⟨Z, hZ, H⟩ : ∃ Z, Z.size = 10 ∧ Has w [(b + 1, Z, 30), (b, c.cells, 26)] w1 := ⟨_, rfl, H⟩
  have hne : ∀ p ∈ [(b, c.cells, (26 : TypeId))], p.1 ≠ b + 1 := one_other (by omega)
  go_upto_region 3 with (first | ((with_reducible refine wpList_load_ifA rfl 26 _ rfl b rfl 26 _ (0, 0) _ (H.get (List.mem_cons_of_mem _ List.mem_cons_self)) Tryz.underlying26 rfl (Cor.info _) ?_); simp only [Act.put, List.setIfInBounds_toArray, List.set_cons_succ, List.set_cons_zero]) | (go_at_call 21; refine (Right_c c _).mono ?_; rw [hr]; rintro e w2 ⟨rfl, hB⟩; dsimp only; replace H := H.grow hB))
  refine Rel.wp_region_tail 5 Rel.Grows (fun x => Has w [(b + 1, Z, 30), (b, c.cells, 26)] x) [.inl (.int .u32 word), .inl (i).val, .inl c.val, .inl (.agg (Stp.cells ⟨i, c, nilG, 0⟩)), .inr (FreshS (b + 1))] (by kernel_rfl) (by kernel_rfl) (fun _ _ hh hb => hh.grow hb) (H.grow ⟨rfl, rfl, rfl, Nat.le_refl _, fun _ _ => rfl⟩) (by simp only [List.mem_cons, List.not_mem_nil, or_false]; rintro k hk; rcases hk with rfl | rfl | rfl | rfl | rfl <;> first | trivial | exact fun v => freshS_up _ v) ?_
  refine ⟨fun w1 hC _ => by go_simp; exact Below.refl _ _, ?_⟩
  simp only [Act.put, List.setIfInBounds_toArray, List.set_cons_succ, List.set_cons_zero]
  refine ⟨fun w1 hC _ => by go_simp; refine (hdec w1).mono ?_; rintro e w2 ⟨rfl, hb⟩; exact ⟨rfl, hb⟩, ?_⟩
  simp only [Act.put, List.setIfInBounds_toArray, List.set_cons_succ, List.set_cons_zero]
  refine ⟨fun w1 hC _ => rel_load_c _ rfl b rfl (hC.get (List.mem_cons_of_mem _ List.mem_cons_self)), ?_⟩
  simp only [Act.put, List.setIfInBounds_toArray, List.set_cons_succ, List.set_cons_zero]
  refine ⟨fun w1 hC _ => rel_built_s _ rfl ⟨i, c, nilG, 0⟩ [(0, i.val), (1, c.val)] (by simp only [Array.toList_map, List.map_cons, List.map_nil]; rfl) (built53 _ _), ?_⟩
  simp only [Act.put, List.setIfInBounds_toArray, List.set_cons_succ, List.set_cons_zero]
  refine ⟨fun w1 hC _ => ?_, fun vp => ?_⟩
  · go_simp
    exact ⟨r_below_alloc _ _, _, _, rfl, (Array.getElem?_eq_some_iff.1 (hC.get List.mem_cons_self)).1, heap_alloc_new _ _, rfl⟩
  simp only [Act.put, List.setIfInBounds_toArray, List.set_cons_succ, List.set_cons_zero]
  clear H
  intro w3 H hf
  obtain ⟨g, Zs, rfl, hg, hrow, hZs⟩ := (hf 4).1 rfl
  clear hf
  simp only [List.drop_succ_cons, List.drop_zero]
  with_reducible refine wpList_store_row rfl 58 _ _ rfl g _ rfl rfl 58 Zs hrow (Stp.info _) ?_ (Stp.one _) ?_
  focus (rw [hZs, Stp.size])
  have hs := setRow_heap w3 g Zs (Stp.cells ⟨i, c, nilG, 0⟩) 58 (0, 0) hrow
  have H2 : Has w [(b + 1, Z, 30), (b, c.cells, 26)] (w3.setRow g (Stp.cells ⟨i, c, nilG, 0⟩)) := ⟨r_below_setRow H.below (by omega), fun p hp => ⟨(H.box p hp).1, by
    rw [setRow_other _ _ _ _ (by simp at hp; rcases hp with rfl | rfl <;> simp <;> omega)]; exact (H.box p hp).2⟩⟩
  clear H hrow
  generalize w3.setRow g _ = w4 at hs H2 ⊢
  have H := H2
  go_wp2_with (first | (go_at_call 22; refine (want_c g ⟨i, c, nilG, 0⟩ _ hs F (right_el hr)).mono ?_; rintro e w5 ⟨rfl, hB⟩; dsimp only; replace H := H.grow hB) | ((with_reducible refine wpList_store_w rfl _ _ rfl H hne hZ _ rfl rfl ?_); intro w9 H; simp only [Act.put]))
  exact bodyPost_ret (back_wt rfl _ _ _ _ _ _ rfl (H.get List.mem_cons_self)) rfl ⟨rfl, by first | exact H.below | (rw [← hb]; exact H.below)⟩
theorem begin_yes (c : Cor) (word : Int) (hW : W32 word) (hr : rightC c = true) (w : World) :
    Calls Tryz.prog 9 #[c.val, .int .u32 word] w fun e w' => e = .returned (.tuple #[(wantV c (decV word)).val, .int .i64 0]) ∧ Below w.heap.size w w' :=
  begin_i c word (decV word) (decode_c word hW) (dec_fine hW) hr w
theorem begin_c (c : Cor) (word : Int) (hW : W32 word) (w : World) :
    Calls Tryz.prog 9 #[c.val, .int .u32 word] w fun e w' => e = .returned (.tuple #[(beginV c (decV word)).val, .int .i64 (errC c)]) ∧ Below w.heap.size w w' := by
  unfold beginV errC
  cases hr : rightC c
  · rw [if_neg (by decide)]; exact begin_no c word hr w
  · rw [if_pos rfl]; exact begin_yes c word hW hr w
end Go.Proofs.YtbjcdpmhmebjnaaGreat
