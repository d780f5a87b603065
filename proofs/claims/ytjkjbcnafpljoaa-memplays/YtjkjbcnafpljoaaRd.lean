/- Set, the next ticket, and giving it. -/
import Derived.Test.YtjkjbcnafpljoaaRc
namespace Go.Proofs.Ytjkjbcnafpljoaa
open Go.RowKit
set_option linter.unusedVariables false

theorem flatW_set1 {l : List (Int × Int)} {k : Nat} {s : Int × Int} (h : l[k]? = some s) (v : Int) : (flatW l).set (k * 2) (vU v) = flatW (l.set k (v, s.2)) := by
  induction l generalizing k with
  | nil => simp at h
  | cons a l ih =>
    cases k with
    | zero => simp at h; subst h; rfl
    | succ k =>
      rw [show (k + 1) * 2 = k * 2 + 2 by omega]
      show vU a.1 :: vI a.2 :: (flatW l).set (k * 2) (vU v) = _
      rw [ih (by simpa using h)]; rfl
def setE (S : Sta) (addr : Int) : Int := if hasWordB S addr then (if 0 < S.stamps.length then 7 else 0) else 1
def setS (S : Sta) (addr value : Int) : Sta := if hasWordB S addr ∧ S.stamps.length = 0 then { S with words := S.words.set (addr / 8).toNat (value, (S.words.getD (addr / 8).toNat (0, 0)).2) } else S
set_option maxRecDepth 4000 in
theorem set_c (g : Nat) (S : Sta) (L : Lay) (addr value : Int) (w : World) (H : MemAt g S L w) (hn : S.words.length ≤ 8192) (hA : U64 addr) : Calls Try.prog 31 #[ptr g 0, vU addr, vU value] w fun e w' => e = .returned (vI (setE S addr)) ∧ Turn g L (setS S addr value) w w' := by
  cases hB : hasWordB S addr
  · rw [setE, setS, hB]
    go_enter Try.func31, Try.ntmps31
    go_wp2_with (go_at_call 34; refine (hasWord_c g S L addr _ H hn hA).mono ?_; rintro e w' ⟨rfl, rfl⟩; dsimp only; rw [hB])
    go_ret
    exact ⟨rfl, turn_refl H⟩
  · by_cases hT : 0 < S.stamps.length
    · rw [setE, setS, hB, if_pos rfl, if_pos hT, if_neg (by omega)]
      have hT1 : (0 : Int) < S.stamps.length := by omega
      go_enter Try.func31, Try.ntmps31
      go_wp2_with (first | (go_at_call 34; refine (hasWord_c g S L addr _ H hn hA).mono ?_; rintro e w' ⟨rfl, rfl⟩; dsimp only; rw [hB]) | (go_at_call 16; refine (tickets_c g S L _ H).mono ?_; rintro e w' ⟨rfl, rfl⟩; dsimp only))
      go_ret
      exact ⟨rfl, turn_refl H⟩
    · rw [setE, setS, hB, if_pos rfl, if_neg hT, if_pos ⟨rfl, by omega⟩]
      have hT1 : ((S.stamps.length : Nat) : Int) = 0 := by omega
      obtain ⟨k, s, e, hs, hk, hd⟩ := word_at hA hB
      have hk2 : (addr / 8).toNat = k := by omega
      rw [hd, hk2]
      clear hd hk2
      subst e
      have hdiv : (8 * (k : Int)).tdiv 8 = k := by rw [Int.tdiv_eq_ediv_of_nonneg (by omega)]; omega
      have hk1 : (k : Int) < S.words.length := by omega
      obtain ⟨c1, c2⟩ := H.cw hs
      have c0 := H.c0
      have fz := frozen_of_row w L.gw (k * 2) _ _ H.words
      go_enter Try.func31, Try.ntmps31
      go_wp2_with (first | (go_at_call 34; refine (hasWord_c g S L _ _ H hn hA).mono ?_; rintro e w' ⟨rfl, rfl⟩; dsimp only; rw [hB]) | (go_at_call 16; refine (tickets_c g S L _ H).mono ?_; rintro e w' ⟨rfl, rfl⟩; dsimp only; rw [hT1]))
      go_ret
      refine ⟨rfl, ?_⟩
      rw [setCell_eq_setRow _ _ _ _ _ _ _ H.words, List.setIfInBounds_toArray, flatW_set1 hs]
      exact H.turnW k _
theorem info59 (x y z : Value) : (Try.prog.info? 59).map (·.size) = some (#[x, y, z] : Array Value).size := by
  show (Try.prog.info? 59).map (·.size) = some 3
  kernel_rfl
theorem load59 (w : World) (g : Nat) (x y z : Value) (hg : w.heap[g]? = some (.cells #[x, y, z] 59)) : (loadVar 59 ⟨g, 0, none⟩).run Try.prog w = .ok (.agg #[x, y, z]) w :=
  run_loadVar_row w g 59 59 #[x, y, z] (0, 0) _ hg Try.underlying59 rfl (info59 _ _ _)
/-- What a function gives back whose result is a store, laid in a variable. -/
theorem back_l {fn : Func} {p : Tmp} (h : fn.results = #[.cell p 59]) (tmps : Array Value) (w : World) (g : Nat) (x y z : Value) (hp : tmps.getD p undef = ptr g 0) (hg : w.heap[g]? = some (.cells #[x, y, z] 59)) :
    (results fn tmps).run Try.prog w = .ok (.agg #[x, y, z]) w := by
  have hp' : tmps[p]?.getD undef = .pointer (some ⟨g, 0, none⟩) := by simpa using hp
  simp [results, h, hp', asAddr, load59 w g x y z hg]
theorem back_le {fn : Func} {p u : Tmp} (h : fn.results = #[.cell p 59, .tmp u]) (tmps : Array Value) (w : World) (g : Nat) (x y z : Value) (hp : tmps.getD p undef = ptr g 0) (hg : w.heap[g]? = some (.cells #[x, y, z] 59)) :
    (results fn tmps).run Try.prog w = .ok (.tuple #[.agg #[x, y, z], tmps.getD u undef]) w := by
  have hp' : tmps[p]?.getD undef = .pointer (some ⟨g, 0, none⟩) := by simpa using hp
  simp [results, h, hp', asAddr, load59 w g x y z hg]
set_option maxRecDepth 4000 in
theorem next_c (g : Nat) (S : Sta) (L : Lay) (addr value : Int) (w : World) (H : MemAt g S L w) (ht : S.stamps.length < 1000000000) : Calls Try.prog 50 #[ptr g 0, vU addr, vU value] w fun e w' => e = .returned (Lt.val ⟨addr, value, S.stamps.length + 1⟩) ∧ Below w.heap.size w w' := by
  go_enter Try.func50, Try.ntmps50
  go_wp2_with (go_at_call 16; refine (tickets_c g S L _ (H.grow (below_alloc _ _))).mono ?_; rintro e w' ⟨rfl, rfl⟩; dsimp only)
  exact bodyPost_ret (back_l rfl _ _ w.heap.size _ _ _ rfl (heap_alloc_new _ _)) rfl ⟨rfl, below_alloc _ _⟩
theorem inf3 : ∃ i, Try.prog.info? 3 = some i ∧ i.zero = some (vI 0) ∧ i.size = 1 ∧ i.bytes = 8 := by
  have h : (Try.prog.info? 3).map (fun i => (i.zero, i.size, i.bytes)) = some (some (vI 0), 1, 8) := by kernel_rfl
  cases hq : Try.prog.info? 3 with
  | none => rw [hq] at h; cases h
  | some i =>
    rw [hq] at h
    simp only [Option.map_some, Option.some.injEq, Prod.mk.injEq] at h
    exact ⟨i, rfl, h.1, h.2.1, h.2.2⟩
theorem inf59 : ∃ i, Try.prog.info? 59 = some i ∧ i.zero = some nilL.val ∧ i.size = 3 ∧ i.bytes = 24 := by
  have h : (Try.prog.info? 59).map (fun i => (i.zero, i.size, i.bytes)) = some (some nilL.val, 3, 24) := by kernel_rfl
  cases hq : Try.prog.info? 59 with
  | none => rw [hq] at h; cases h
  | some i =>
    rw [hq] at h
    simp only [Option.map_some, Option.some.injEq, Prod.mk.injEq] at h
    exact ⟨i, rfl, h.1, h.2.1, h.2.2⟩
theorem add_zero_addr (b k : Nat) (j : Nat) : (⟨b, k, none⟩ : Addr).add j = ⟨b, k + j, none⟩ := by unfold Addr.add; split <;> simp_all
theorem one_flatL (l : List Lt) : ∀ u ∈ flatL l, u.oneCell' = true := by
  intro u hu
  simp only [flatL, List.mem_flatMap, List.mem_cons, List.not_mem_nil, or_false] at hu
  obtain ⟨s, _, h | h | h⟩ := hu <;> subst h <;> rfl
/-- A number appended to a row of numbers. -/
theorem wpList_app_int {ops : Array Oper} {rest : List Oper} {o : Oper} {a : Act} {w : World} {Q : Exit → Act → World → Prop} (hgd : o.guard = none) (s x : Operand)
    (ho : o.op = .call { callee := .builtin .append, args := #[s, x], argTypes := #[32, 32] }) (v : Value) (l : List Int) (hs : a.eval s = v) (hown : w.ownsRow 0 3 1 v l.length (l.map vI))
    (b k c : Nat) (n : Int) (hx : a.eval x = .slice (some ⟨b, k, none⟩) 1 c) (hc : w.cell? ⟨b, k, none⟩ = some (vI n)) (hl : l.length < 1000000000)
    (h : ∀ g cap w', w'.ownsRow 0 3 1 (.slice (some ⟨g, 0, none⟩) (l.length + 1) cap) (l ++ [n]).length ((l ++ [n]).map vI) → w.grownBy w' v.ownBlock → (v.ownBlock = some g ∨ g = w.heap.size) → g < w'.heap.size →
      wpList Try.prog ops Q rest (a.put o.dst (.slice (some ⟨g, 0, none⟩) (l.length + 1) cap)) w') : wpList Try.prog ops Q (o :: rest) a w := by
  obtain ⟨i, h1, h2, h3, h4⟩ := inf3
  refine wpList_append_lies w hgd s x 32 ho 0 3 i (vI 0) 1 8 Try.underlying32 h1 h2 h3 h4 rfl (by decide) v l.length (l.map vI) hs hown ⟨b, k, none⟩ 1 c [vI n] hx rfl ?_ ?_ (by decide) (by simp only [maxLen]; omega) (by omega) (Nat.zero_le _) w.heap.size rfl ?_
  · intro j u hj
    match j with
    | 0 => simp at hj; subst hj; rw [add_zero_addr]; exact hc
    | j + 1 => simp at hj
  · intro u hu; simp at hu; subst hu; rfl
  · intro g cap w' q1 q2 q3 q4
    refine h g cap w' ?_ q2 q3 q4
    rw [List.length_append, List.map_append]
    exact q1
/-- Stores appended to a row of stores. -/
theorem wpList_app_lt {ops : Array Oper} {rest : List Oper} {o : Oper} {a : Act} {w : World} {Q : Exit → Act → World → Prop} (hgd : o.guard = none) (s x : Operand)
    (ho : o.op = .call { callee := .builtin .append, args := #[s, x], argTypes := #[52, 52] }) (v : Value) (l : List Lt) (hs : a.eval s = v) (hown : w.ownsRow 0 59 3 v l.length (flatL l))
    (b k c : Nat) (z : Lt) (hx : a.eval x = .slice (some ⟨b, k, none⟩) 1 c) (hc : w.cell? ⟨b, k, none⟩ = some (vU z.a) ∧ w.cell? ⟨b, k + 1, none⟩ = some (vU z.v) ∧ w.cell? ⟨b, k + 2, none⟩ = some (vI z.t)) (hl : l.length < 1000000000)
    (h : ∀ g cap w', w'.ownsRow 0 59 3 (.slice (some ⟨g, 0, none⟩) (l.length + 1) cap) (l ++ [z]).length (flatL (l ++ [z])) → w.grownBy w' v.ownBlock → (v.ownBlock = some g ∨ g = w.heap.size) → g < w'.heap.size →
      wpList Try.prog ops Q rest (a.put o.dst (.slice (some ⟨g, 0, none⟩) (l.length + 1) cap)) w') : wpList Try.prog ops Q (o :: rest) a w := by
  obtain ⟨i, h1, h2, h3, h4⟩ := inf59
  refine wpList_append_lies w hgd s x 52 ho 0 59 i nilL.val 3 24 Try.underlying52 h1 h2 h3 h4 rfl (by decide) v l.length (flatL l) hs hown ⟨b, k, none⟩ 1 c (flatL [z]) hx rfl ?_ (one_flatL _) (by decide) (by simp only [maxLen]; omega) (by omega) (Nat.zero_le _) w.heap.size rfl ?_
  · intro j u hj
    rw [add_zero_addr]
    match j with
    | 0 => simp [flatL] at hj; subst hj; exact hc.1
    | 1 => simp [flatL] at hj; subst hj; exact hc.2.1
    | 2 => simp [flatL] at hj; subst hj; exact hc.2.2
    | j + 3 => simp [flatL] at hj
  · intro g cap w' q1 q2 q3 q4
    refine h g cap w' ?_ q2 q3 q4
    rw [List.length_append, flatL_append]
    exact q1
/-- The stamps' own row turned elsewhere, then told to the memory. -/
theorem MemAt.giveS {g : Nat} {S : Sta} {L : Lay} {w w1 w2 : World} (H : MemAt g S L w) (hB : Below w.heap.size w w1) {b cap n : Nat} {l : List Int} (q1 : w2.ownsRow 0 3 1 (.slice (some ⟨b, 0, none⟩) n cap) l.length (l.map vI)) (q2 : w1.grownBy w2 L.sv.ownBlock) (q3 : L.sv.ownBlock = some b ∨ b = w1.heap.size) :
    Turn g L { S with stamps := l } w (w2.setCell ⟨g, 2, none⟩ (.slice (some ⟨b, 0, none⟩) n cap)) := by
  have hT : w2.heap[g]? = some (.cells (topV S L) 75) := by
    rw [q2.block g (Nat.lt_of_lt_of_le (lt_of_some H.top) hB.size) (fun e => own_ne H.top H.stamps (by decide) e.symm), hB.block g (lt_of_some H.top)]
    exact H.top
  have hne : b ≠ g := by
    rcases q1.2 with ⟨h0, _⟩ | ⟨q, cap', cur, h0, _, hq, _⟩
    · cases h0
    · cases h0
      exact ne_of_type hq hT (by decide)
  have hsz : w.heap.size ≤ w2.heap.size := Nat.le_trans hB.size q2.size
  have hall : ∀ k, k < w.heap.size → k ≠ g → L.sv.ownBlock ≠ some k → (w2.setRow g ((topV S L).setIfInBounds 2 (.slice (some ⟨b, 0, none⟩) n cap))).heap[k]? = w.heap[k]? := by
    intro k hk hkg hks
    rw [setRow_other _ _ _ _ hkg, q2.block k (Nat.lt_of_lt_of_le hk hB.size) (fun e => hks e.symm), hB.block k hk]
  rw [setCell_eq_setRow _ _ _ _ _ _ _ hT]
  refine ⟨{ L with sv := .slice (some ⟨b, 0, none⟩) n cap }, H.turnS hall (setRow_heap _ _ _ _ _ _ hT) (own_of_block q1 fun k hk => setRow_other _ _ _ _ ?_), ⟨?_, ?_, ?_, ?_, ?_⟩, ?_⟩
  · rintro rfl
    exact hne (by simpa [Value.ownBlock] using hk)
  · exact q2.os.trans hB.os
  · exact q2.tape.trans hB.tape
  · exact q2.output.trans hB.output
  · rw [size_setRow]; exact hsz
  · intro k hk hn
    exact hall k hk (fun e => hn (.inl e)) (fun e => hn (.inr (.inr (.inr (.inl e)))))
  · rintro k (e | e | e | e | e)
    · exact .inl (.inl e)
    · exact .inl (.inr (.inl e))
    · exact .inl (.inr (.inr (.inl e)))
    · obtain rfl : b = k := by simpa [Value.ownBlock] using e
      rcases q3 with q3 | q3
      · exact .inl (.inr (.inr (.inr (.inl q3))))
      · exact .inr (by rw [q3]; exact hB.size)
    · exact .inl (.inr (.inr (.inr (.inr e))))
set_option maxRecDepth 4000 in
theorem give_c (g : Nat) (S : Sta) (L : Lay) (w : World) (H : MemAt g S L w) (ht : S.stamps.length < 1000000000) : Calls Try.prog 51 #[ptr g 0] w fun e w' => e = .returned (.tuple #[]) ∧ Turn g L { S with stamps := S.stamps ++ [0] } w w' := by
  have c := H.c2
  go_enter Try.func51, Try.ntmps51
  go_wp2_with (at_builtin; refine wpList_app_int (by rfl) _ _ (by rfl) L.sv S.stamps (by rfl) (H.grow (below_alloc _ _)).stamps w.heap.size 0 1 0 (by rfl) (by rw [World.cell?_alloc_new]; rfl) ht ?_; intro b cap w2 q1 q2 q3 q4; have c2 : w2.cell? ⟨g, 2, none⟩ = some L.sv := q2.cell (H.grow (below_alloc _ _)).c2 (fun e => own_ne H.top H.stamps (by decide) e.symm); have fz : w2.frozen? ⟨g, 2, none⟩ = false := (World.frozen?_of_block (q2.block g (Nat.lt_of_lt_of_le (lt_of_some H.top) (below_alloc _ _).size) (fun e => own_ne H.top H.stamps (by decide) e.symm))).trans (frozen_of_row _ _ _ _ _ (H.grow (below_alloc _ _)).top); simp only [Act.put, List.setIfInBounds_toArray, List.set_cons_succ, List.set_cons_zero])
  go_end0
  exact ⟨rfl, H.giveS (below_alloc _ _) q1 q2 q3⟩
end Go.Proofs.Ytjkjbcnafpljoaa
