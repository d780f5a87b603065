/- Decode of Encode is the instruction, Encode of Decode the word: plain. -/
import Derived.Test.YtcmilajlngnibaaK13
import Derived.Test.YtcmilajlngnibaaK01
import Derived.Test.YtcmilajlngnibaaChecked
import Derived.Laws.StructEq
import Derived.WalkKit
import Derived.BigQuiet
namespace Go.Proofs.Ytcmilajlngnibaa
open Go.RowKit
set_option linter.unusedVariables false

def keyL : List (Int × Int × Nat × Nat) := forms.map fun F => (F.op, F.sub, F.mask.toNat, F.base.toNat)
def keyB (x y : Int × Int × Nat × Nat) : Bool := (x.2.2.2 &&& y.2.2.1) != (y.2.2.2 &&& x.2.2.1)
def opB (x y : Int × Int × Nat × Nat) : Bool := x.1 != y.1 || (x.2.1 != y.2.1 && x.2.1 != -1 && y.2.1 != -1)
def partsB : List (Int × Int × Nat × Nat) → Bool
  | [] => true
  | x :: l => (l.all fun y => keyB x y && keyB y x && opB x y && opB y x) && partsB l
theorem keys_part : partsB keyL = true := by kernel_rfl
theorem part_of : ∀ (l : List Fm), partsB (l.map fun F => (F.op, F.sub, F.mask.toNat, F.base.toNat)) = true → ∀ F ∈ l, ∀ G ∈ l, F = G ∨ (keyB (F.op, F.sub, F.mask.toNat, F.base.toNat) (G.op, G.sub, G.mask.toNat, G.base.toNat) = true ∧ opB (F.op, F.sub, F.mask.toNat, F.base.toNat) (G.op, G.sub, G.mask.toNat, G.base.toNat) = true)
  | [], _, _, h, _, _ => by cases h
  | X :: l, h, F, hF, G, hG => by
    simp only [List.map_cons, partsB, Bool.and_eq_true, List.all_eq_true, List.mem_map, forall_exists_index, and_imp] at h
    obtain ⟨h1, h2⟩ := h
    rcases List.mem_cons.1 hF with rfl | hF'
    · rcases List.mem_cons.1 hG with rfl | hG'
      · exact .inl rfl
      · have := h1 _ G hG' rfl
        exact .inr ⟨this.1.1.1, this.1.2⟩
    · rcases List.mem_cons.1 hG with rfl | hG'
      · have := h1 _ F hF' rfl
        exact .inr ⟨this.1.1.2, this.2⟩
      · exact part_of l h2 F hF' G hG'
def fitsW (word : Int) (F : Fm) : Prop := bits .and .u32 word F.mask = F.base
theorem one_word {word : Int} (hW : W32 word) {F G : Fm} (hF : F ∈ forms) (hG : G ∈ forms) (mF : fitsW word F) (mG : fitsW word G) : F = G := by
  rcases part_of forms keys_part F hF G hG with h | ⟨h, _⟩
  · exact h
  · exfalso
    have gF := good_all F hF
    have gG := good_all G hG
    have e1 : word.toNat &&& F.mask.toNat = F.base.toNat := by rw [← show bits .and .u32 word F.mask = F.base from mF, bits_and hW gF.mask, Int.toNat_natCast]
    have e2 : word.toNat &&& G.mask.toNat = G.base.toNat := by rw [← show bits .and .u32 word G.mask = G.base from mG, bits_and hW gG.mask, Int.toNat_natCast]
    have : F.base.toNat &&& G.mask.toNat = G.base.toNat &&& F.mask.toNat := by
      rw [← e1, ← e2, Nat.and_assoc, Nat.and_assoc, Nat.and_comm F.mask.toNat]
    simp [keyB, this] at h
theorem one_form {i : Ins} {F G : Fm} (hF : F ∈ forms) (hG : G ∈ forms) (mF : isForm F i = true) (mG : isForm G i = true) : F = G := by
  rcases part_of forms keys_part F hF G hG with h | ⟨_, h⟩
  · exact h
  · exfalso
    obtain ⟨a1, a2⟩ := isForm_of mF
    obtain ⟨b1, b2⟩ := isForm_of mG
    simp only [opB, Bool.or_eq_true, Bool.and_eq_true, bne_iff_ne] at h
    rcases h with h | ⟨⟨h, h3⟩, h4⟩
    · exact h (a1.trans b1.symm)
    · exact h ((a2.resolve_right h3).trans (b2.resolve_right h4).symm)
theorem encL_of {i : Ins} {F : Fm} (hF : isForm F i = true) : ∀ l : List Fm, F ∈ l → (∀ G ∈ l, isForm G i = true → G = F) → encL i l = ((F.t true (F.base, i)).1, 0)
  | [], h, _ => by cases h
  | G :: l, h, hu => by
    unfold encL
    by_cases hG : isForm G i = true
    · rw [if_pos hG, hu G (by simp) hG]
    · rw [if_neg hG]
      rcases List.mem_cons.1 h with rfl | h
      · exact absurd hF hG
      · exact encL_of hF l h fun X hX => hu X (by simp [hX])
theorem encL_some {i : Ins} : ∀ l : List Fm, encL i l = (0, 3) ∨ ∃ F ∈ l, isForm F i = true ∧ encL i l = ((F.t true (F.base, i)).1, 0)
  | [] => .inl rfl
  | G :: l => by
    unfold encL
    by_cases hG : isForm G i = true
    · rw [if_pos hG]; exact .inr ⟨G, by simp, hG, rfl⟩
    · rw [if_neg hG]
      rcases encL_some (i := i) l with h | ⟨F, hF, h⟩
      · exact .inl h
      · exact .inr ⟨F, by simp [hF], h⟩
abbrev ofF (word : Int) (F : Fm) : Ins := (F.t false (word, startI F)).2
theorem decL_of {word : Int} {F : Fm} (hF : fitsW word F) (hR : rightB (ofF word F) = true) : ∀ l : List Fm, F ∈ l → (∀ G ∈ l, fitsW word G → G = F) → decL word l = ofF word F
  | [], h, _ => by cases h
  | G :: l, h, hu => by
    unfold decL
    by_cases hG : fitsW word G
    · obtain rfl := hu G (by simp) hG
      rw [if_pos ⟨hG, hR⟩]
    · rw [if_neg fun h => hG h.1]
      rcases List.mem_cons.1 h with rfl | h
      · exact absurd hF hG
      · exact decL_of hF hR l h fun X hX => hu X (by simp [hX])
theorem decL_some {word : Int} : ∀ l : List Fm, decL word l = nilI ∨ ∃ F ∈ l, fitsW word F ∧ rightB (ofF word F) = true ∧ decL word l = ofF word F
  | [] => .inl rfl
  | G :: l => by
    unfold decL
    by_cases hG : bits .and .u32 word G.mask = G.base ∧ rightB (G.t false (word, startI G)).2 = true
    · rw [if_pos hG]; exact .inr ⟨G, by simp, hG.1, hG.2, rfl⟩
    · rw [if_neg hG]
      rcases decL_some (word := word) l with h | ⟨F, hF, h⟩
      · exact .inl h
      · exact .inr ⟨F, by simp [hF], h⟩
/-- Decode answers nothing, or what Encode makes the word of. -/
theorem enc_dec {word : Int} (hW : W32 word) : decV word = nilI ∨ ((decV word).op ≠ 0 ∧ encV (decV word) = (word, 0)) := by
  rcases decL_some (word := word) forms with h | ⟨F, hF, hm, hR, h⟩
  · exact .inl h
  · right
    have h : decV word = ofF word F := h
    obtain ⟨b1, b2⟩ := (fok_all F hF).back word hW hm
    rw [h]
    constructor
    · have := hR
      simp only [rightB, Bool.and_eq_true, decide_eq_true_eq] at this
      omega
    · rw [encV, if_pos hR, encL_of b1 forms hF fun G hG hi => one_form hG hF hi b1, b2]
/-- Encode answers nothing, or the word that Decode takes the instruction from. -/
theorem dec_enc (i : Ins) : encV i = (0, 3) ∨ ((encV i).2 = 0 ∧ W32 (encV i).1 ∧ decV (encV i).1 = i) := by
  by_cases hR : rightB i = true
  · have e : encV i = encL i forms := by rw [encV, if_pos hR]
    rcases encL_some (i := i) forms with h | ⟨F, hF, hi, h⟩
    · exact .inl (e.trans h)
    · right
      obtain ⟨t1, t2, t3⟩ := (fok_all F hF).there i hR hi
      rw [e, h]
      refine ⟨rfl, t1, ?_⟩
      have := decL_of (word := (F.t true (F.base, i)).1) (F := F) t2 (by rw [ofF, t3]; exact hR) forms hF fun G hG hm => one_word t1 hG hF hm t2
      show decL _ forms = i
      rw [this]; exact t3
  · exact .inl (by rw [encV, if_neg hR])
theorem dec_in {word : Int} (hW : W32 word) (k : Fl) : I64 (k.get (decV word)) := by
  rcases decL_some (word := word) forms with h | ⟨F, hF, _, _, h⟩
  · rw [show decV word = nilI from h]; cases k <;> exact zero_in
  · have G := good_all F hF
    rw [show decV word = ofF word F from h]
    exact (G.ok false (word, startI F) ⟨hW, fun k => by cases k <;> first | exact G.sub | exact zero_in⟩).f k
theorem enc_w (i : Ins) : W32 (encV i).1 := by
  rcases dec_enc i with h | h
  · rw [h]; exact ⟨by decide, by decide⟩
  · exact h.2.1
theorem enc_apart {i j : Ins} (hi : (encV i).2 = 0) (hj : (encV j).2 = 0) : (encV i).1 = (encV j).1 ↔ i = j := by
  constructor
  · intro h
    have a := (dec_enc i).resolve_left fun e => by rw [e] at hi; cases hi
    have b := (dec_enc j).resolve_left fun e => by rw [e] at hj; cases hj
    rw [← a.2.2, ← b.2.2, h]
  · rintro rfl; rfl
theorem dec_apart {a b : Int} (ha : W32 a) (hb : W32 b) (hn : a ≠ b) : decV a ≠ decV b ∨ decV a = nilI := by
  rcases enc_dec ha with h | ⟨p, h⟩
  · exact .inr h
  · left
    intro e
    rcases enc_dec hb with h2 | ⟨_, h2⟩
    · rw [e, h2] at p; exact p rfl
    · rw [e, h2] at h
      exact hn (by have := congrArg Prod.fst h; exact this.symm)
end Go.Proofs.Ytcmilajlngnibaa
/- Two instructions held against each other, as the machine does it. -/
namespace Go.Proofs.Ytcmilajlngnibaa
open Go.RowKit
set_option linter.unusedVariables false

def eqI (i j : Ins) : Bool := i.op == j.op && (i.sub == j.sub && (i.rd == j.rd && (i.rn == j.rn && (i.rm == j.rm && (i.ra == j.ra && (i.imm == j.imm && (i.imm2 == j.imm2 && (i.amount == j.amount && (i.shift == j.shift && (i.cond == j.cond && (i.sys == j.sys && (i.flags == j.flags && (i.minus == j.minus && (i.not == j.not && (i.link == j.link)))))))))))))))
theorem eqI_iff (i j : Ins) : eqI i j = true ↔ i = j := by
  obtain ⟨op, sub, rd, rn, rm, ra, imm, imm2, amount, shift, cond, sys, flags, minus, not, link⟩ := i
  obtain ⟨op', sub', rd', rn', rm', ra', imm', imm2', amount', shift', cond', sys', flags', minus', not', link'⟩ := j
  simp only [eqI, Bool.and_eq_true, beq_iff_eq, Ins.mk.injEq]
theorem stood25 : Try.prog.stoodInHeld 25 = false := by kernel_rfl
theorem fields25 : Try.prog.underlying 25 = some (.struct (Try.prog.fieldsOf 25)) := by rw [Program.fieldsOf, Try.underlying25]
theorem eqField {d : Nat} {xs ys : Array Value} {f : Field} {fs : List Field} {r s : Bool} (w : World) (hn : f.name ≠ "_")
    (h : ((part f.type xs f.offset).run Try.prog w).andThen (fun a w1 => ((part f.type ys f.offset).run Try.prog w1).andThen fun b w2 => (Op.equalIn d f.type a b).run Try.prog w2) = .ok r w)
    (hs : (Op.eqFields d xs ys fs).run Try.prog w = .ok s w) : (Op.eqFields d xs ys (f :: fs)).run Try.prog w = .ok (r && s) w := by
  simp only [Op.eqFields, if_pos hn, Sem.run_bind]
  generalize (part f.type xs f.offset).run Try.prog w = r1 at h ⊢
  cases r1 with
  | ok a w1 =>
    simp only [Result.andThen_ok] at h ⊢
    generalize (part f.type ys f.offset).run Try.prog w1 = r2 at h ⊢
    cases r2 with
    | ok b w2 =>
      simp only [Result.andThen_ok] at h ⊢
      rw [h]
      cases r
      · simp
      · simpa using hs
    | halt x w2 => simp [Result.andThen] at h
  | halt x w1 => simp [Result.andThen] at h
set_option maxRecDepth 4000 in
set_option maxHeartbeats 1000000 in
theorem insn_eq (i j : Ins) (w : World) : (Op.equalIn 10000 25 i.val j.val).run Try.prog w = .ok (eqI i j) w := by
  rw [run_equalIn_agg w 9999 25 _ _ fields25 stood25]
  rw [show (Try.prog.fieldsOf 25).toList = [⟨"Op", 3, 0, false, "", "", 0⟩, ⟨"Sub", 3, 1, false, "", "", 8⟩, ⟨"Rd", 3, 2, false, "", "", 16⟩, ⟨"Rn", 3, 3, false, "", "", 24⟩, ⟨"Rm", 3, 4, false, "", "", 32⟩, ⟨"Ra", 3, 5, false, "", "", 40⟩, ⟨"Imm", 3, 6, false, "", "", 48⟩, ⟨"Imm2", 3, 7, false, "", "", 56⟩, ⟨"Amount", 3, 8, false, "", "", 64⟩, ⟨"Shift", 3, 9, false, "", "", 72⟩, ⟨"Cond", 3, 10, false, "", "", 80⟩, ⟨"Sys", 3, 11, false, "", "", 88⟩, ⟨"Flags", 4, 12, false, "", "", 96⟩, ⟨"Minus", 4, 13, false, "", "", 97⟩, ⟨"Not", 4, 14, false, "", "", 98⟩, ⟨"Link", 4, 15, false, "", "", 99⟩] by rw [Program.fieldsOf, Try.underlying25]]
  refine (eqField (r := i.op == j.op) w (by decide) ?_ (eqField (r := i.sub == j.sub) w (by decide) ?_ (eqField (r := i.rd == j.rd) w (by decide) ?_ (eqField (r := i.rn == j.rn) w (by decide) ?_ (eqField (r := i.rm == j.rm) w (by decide) ?_ (eqField (r := i.ra == j.ra) w (by decide) ?_ (eqField (r := i.imm == j.imm) w (by decide) ?_ (eqField (r := i.imm2 == j.imm2) w (by decide) ?_ (eqField (r := i.amount == j.amount) w (by decide) ?_ (eqField (r := i.shift == j.shift) w (by decide) ?_ (eqField (r := i.cond == j.cond) w (by decide) ?_ (eqField (r := i.sys == j.sys) w (by decide) ?_ (eqField (r := i.flags == j.flags) w (by decide) ?_ (eqField (r := i.minus == j.minus) w (by decide) ?_ (eqField (r := i.not == j.not) w (by decide) ?_ (eqField (r := i.link == j.link) w (by decide) ?_ ((rfl : (Op.eqFields 9999 i.cells j.cells []).run Try.prog w = .ok true w)))))))))))))))))).trans ?_
  · go_simp
  · go_simp
  · go_simp
  · go_simp
  · go_simp
  · go_simp
  · go_simp
  · go_simp
  · go_simp
  · go_simp
  · go_simp
  · go_simp
  · go_simp
  · go_simp
  · go_simp
  · go_simp
  · simp only [eqI, Bool.and_true]

theorem guard25 : Try.prog.eqGuardType Try.prog.depth 25 = false := by kernel_rfl
theorem wpList_eql_insn {ops : Array Oper} {rest : List Oper} {o : Oper} {a : Act} {w : World} {Q : Exit → Act → World → Prop} (hw : Region.wanted o (yielded ops a.tmps) = true) (x y : Operand) (ho : o.op = .binOp .eql 25 x y 25)
    (i j : Ins) (hx : a.eval x = .agg i.cells) (hy : a.eval y = .agg j.cells) (b : Bool) (hb : eqI i j = b) (h : wpList Try.prog ops Q rest (a.put o.dst (.bool b)) w) : wpList Try.prog ops Q (o :: rest) a w := by
  refine BigFrame.wpList_want hw fun K hK => ?_
  have he := insn_eq i j w
  rw [hb] at he
  unfold Oper.wp execOp
  simp only [ho, hx, hy, Sem.run_bind, run_eqGuard_agg w _ _ _ _ _ _ guard25, Result.andThen_ok, run_eql_struct, he]
  exact hK _ _ h
theorem wpList_neq_insn {ops : Array Oper} {rest : List Oper} {o : Oper} {a : Act} {w : World} {Q : Exit → Act → World → Prop} (hw : Region.wanted o (yielded ops a.tmps) = true) (x y : Operand) (ho : o.op = .binOp .neq 25 x y 25)
    (i j : Ins) (hx : a.eval x = .agg i.cells) (hy : a.eval y = .agg j.cells) (b : Bool) (hb : eqI i j = b) (h : wpList Try.prog ops Q rest (a.put o.dst (.bool (!b))) w) : wpList Try.prog ops Q (o :: rest) a w := by
  refine BigFrame.wpList_want hw fun K hK => ?_
  have he := insn_eq i j w
  rw [hb] at he
  unfold Oper.wp execOp
  simp only [ho, hx, hy, Sem.run_bind, run_eqGuard_agg w _ _ _ _ _ _ guard25, Result.andThen_ok, run_neq_struct, he]
  exact hK _ _ h
end Go.Proofs.Ytcmilajlngnibaa
