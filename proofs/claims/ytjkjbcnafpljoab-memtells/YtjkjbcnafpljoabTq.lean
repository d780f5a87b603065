/- The memory beside a row of addresses and a row of held stores. -/
import Derived.Test.YtjkjbcnafpljoabTp
namespace Go.Proofs.Ytjkjbcnafpljoab
open Go.RowKit
set_option linter.unusedVariables false
set_option linter.unusedSimpArgs false

theorem inf22 : ∃ i, Try.prog.info? 22 = some i ∧ i.zero = some (vU 0) ∧ i.size = 1 ∧ i.bytes = 8 := by
  have h : (Try.prog.info? 22).map (fun i => (i.zero, i.size, i.bytes)) = some (some (vU 0), 1, 8) := by kernel_rfl
  cases hq : Try.prog.info? 22 with
  | none => rw [hq] at h; cases h
  | some i =>
    rw [hq] at h
    simp only [Option.map_some, Option.some.injEq, Prod.mk.injEq] at h
    exact ⟨i, rfl, h.1, h.2.1, h.2.2⟩
/-- A word appended to a row of words. -/
theorem wpList_app_u64 {ops : Array Oper} {rest : List Oper} {o : Oper} {a : Act} {w : World} {Q : Exit → Act → World → Prop} (hgd : o.guard = none) (s x : Operand)
    (ho : o.op = .call { callee := .builtin .append, args := #[s, x], argTypes := #[40, 40] }) (base : Nat) (v : Value) (l : List Int) (hs : a.eval s = v) (hown : w.ownsRow base 22 1 v l.length (l.map vU)) (hbase : base ≤ w.heap.size)
    (b k c : Nat) (n : Int) (hx : a.eval x = .slice (some ⟨b, k, none⟩) 1 c) (hc : w.cell? ⟨b, k, none⟩ = some (vU n)) (hl : l.length < 1000000000)
    (h : ∀ g cap w', w'.ownsRow base 22 1 (.slice (some ⟨g, 0, none⟩) (l.length + 1) cap) (l ++ [n]).length ((l ++ [n]).map vU) → w.grownBy w' v.ownBlock → (v.ownBlock = some g ∨ g = w.heap.size) → g < w'.heap.size →
      wpList Try.prog ops Q rest (a.put o.dst (.slice (some ⟨g, 0, none⟩) (l.length + 1) cap)) w') : wpList Try.prog ops Q (o :: rest) a w := by
  obtain ⟨i, h1, h2, h3, h4⟩ := inf22
  refine wpList_append_lies w hgd s x 40 ho base 22 i (vU 0) 1 8 Try.underlying40 h1 h2 h3 h4 rfl (by decide) v l.length (l.map vU) hs hown ⟨b, k, none⟩ 1 c [vU n] hx rfl ?_ ?_ (by decide) (by simp only [maxLen]; omega) (by omega) hbase w.heap.size rfl ?_
  · intro j u hj
    match j with
    | 0 => simp at hj; subst hj; rw [add_zero_addr]; exact hc
    | j + 1 => simp at hj
  · intro u hu; simp at hu; subst hu; rfl
  · intro g cap w' q1 q2 q3 q4
    refine h g cap w' ?_ q2 q3 q4
    rw [List.length_append, List.map_append]
    exact q1
structure TL (x1 : World) (g : Nat) (S : Sta) (av : Value) (ad : List Int) (w : World) : Prop where
  mem : LX x1 g S (fun b => av.ownBlock = some b) w
  row : w.ownsRow x1.heap.size 22 1 av ad.length (ad.map vU)
structure TH (x1 : World) (g : Nat) (S : Sta) (av : Value) (ad : List Int) (hv : Value) (l : List Lt) (w : World) : Prop where
  mem : LX x1 g S (fun b => av.ownBlock = some b ∨ hv.ownBlock = some b) w
  row : w.ownsRow x1.heap.size 22 1 av ad.length (ad.map vU)
  hrow : w.ownsRow x1.heap.size 42 3 hv l.length (flatL l)
theorem LX.grow {w0 w w' : World} {g : Nat} {S : Sta} {K : Nat → Prop} (h : LX w0 g S K w) (hb : Below w.heap.size w w') : LX w0 g S K w' ∧ Kept K w w' := by
  obtain ⟨L, M, F, B, C⟩ := h
  exact lx_turn M F B C (turn_of_below M hb)
theorem TL.go {x1 w w' : World} {g : Nat} {S S' : Sta} {av : Value} {ad : List Int} (h : TL x1 g S av ad w) (k : LX x1 g S' (fun b => av.ownBlock = some b) w' ∧ Kept (fun b => av.ownBlock = some b) w w') : TL x1 g S' av ad w' :=
  ⟨k.1, own_of_block h.row fun b hb => k.2 b hb⟩
theorem TL.grow {x1 w w' : World} {g : Nat} {S : Sta} {av : Value} {ad : List Int} (h : TL x1 g S av ad w) (hb : Below w.heap.size w w') : TL x1 g S av ad w' := h.go (h.mem.grow hb)
theorem TH.grow {x1 w w' : World} {g : Nat} {S : Sta} {av hv : Value} {ad : List Int} {l : List Lt} (h : TH x1 g S av ad hv l w) (hb : Below w.heap.size w w') : TH x1 g S av ad hv l w' := by
  obtain ⟨k1, k2⟩ := h.mem.grow hb
  exact ⟨k1, own_of_block h.row fun b hb => k2 b (.inl hb), own_of_block h.hrow fun b hb => k2 b (.inr hb)⟩
theorem TH.tl {x1 w : World} {g : Nat} {S : Sta} {av hv : Value} {ad : List Int} {l : List Lt} (h : TH x1 g S av ad hv l w) : TL x1 g S av ad w := ⟨h.mem.less fun _ hb => .inl hb, h.row⟩
theorem TL.app {x1 w w1 w2 : World} {g : Nat} {S : Sta} {av : Value} {ad : List Int} (h : TL x1 g S av ad w) (hB : Below w.heap.size w w1) {b n cap : Nat} {a : Int} (q1 : w2.ownsRow x1.heap.size 22 1 (.slice (some ⟨b, 0, none⟩) n cap) (ad ++ [a]).length ((ad ++ [a]).map vU)) (q2 : w1.grownBy w2 av.ownBlock) (q3 : av.ownBlock = some b ∨ b = w1.heap.size) (q4 : b < w2.heap.size) : TL x1 g S (.slice (some ⟨b, 0, none⟩) n cap) (ad ++ [a]) w2 := by
  obtain ⟨L, M, F, B, C⟩ := h.mem
  refine ⟨⟨L, M.keep fun k hk => ?_, F, ?_, fun k hk => ?_⟩, q1⟩
  · rw [q2.block k (Nat.lt_of_lt_of_le (M.lt hk) hB.size) (fun e => (C k e.symm).2 hk), hB.block k (M.lt hk)]
  · refine (below_then B (Nat.le_refl _) hB).trans ((goes_grown (F := fun k => av.ownBlock = some k) q2 fun k hk => hk).below (Nat.le_trans B.size hB.size) fun k hk => (h.row.lt k hk).1)
  · obtain rfl : b = k := by simpa [Value.ownBlock] using hk
    refine ⟨q4, fun hf => ?_⟩
    rcases q3 with q3 | q3
    · exact (C b q3).2 hf
    · have := M.lt hf
      have := hB.size
      omega
theorem load_t {w0 w : World} {g : Nat} {S : Sta} {av : Value} {ad : List Int} (H : TL w0 g S av ad w) (O : S.Ok) (core addr : Int) (hA : U64 addr) : Calls Try.prog 9 #[ptr g 0, vI core, vU addr] w fun e w' => e = .returned (.tuple #[vU (loadP S core addr).1, vI (loadP S core addr).2, vI (argE (okB S core addr))]) ∧ TL w0 g S av ad w' :=
  (load_x H.mem O core addr hA).mono fun _ _ h => ⟨h.1, H.go h.2⟩
theorem store_t {w0 w : World} {g : Nat} {S : Sta} {av : Value} {ad : List Int} (H : TL w0 g S av ad w) (O : S.Ok) (core addr value : Int) (hA : U64 addr) (ht : S.stamps.length < 1000000) : Calls Try.prog 8 #[ptr g 0, vI core, vU addr, vU value] w fun e w' => e = .returned (.tuple #[vI (storeT S core addr), vI (storeE S core addr)]) ∧ TL w0 g (storeS S core addr value) av ad w' :=
  (store_x H.mem O core addr value hA ht).mono fun _ _ h => ⟨h.1, H.go h.2⟩
theorem drain_t {w0 w : World} {g : Nat} {S : Sta} {av : Value} {ad : List Int} (H : TL w0 g S av ad w) (O : S.Ok) (core : Int) (ht : S.stamps.length < 1000000) : Calls Try.prog 13 #[ptr g 0, vI core] w fun e w' => e = .returned (.tuple #[(drainL S core).val, vI (drainE S core)]) ∧ TL w0 g (drainS S core) av ad w' :=
  (drain_x H.mem O core ht).mono fun _ _ h => ⟨h.1, H.go h.2⟩
theorem heldt {w0 w : World} {g : Nat} {S : Sta} {av : Value} {ad : List Int} (H : TL w0 g S av ad w) (O : S.Ok) (core : Int) : Calls Try.prog 14 #[ptr g 0, vI core] w fun e w' => ∃ ha hc, e = .returned (.slice ha (heldL S core).length hc) ∧ TH w0 g S av ad (.slice ha (heldL S core).length hc) (heldL S core) w' := by
  obtain ⟨L, M, F, B, C⟩ := id H.mem
  refine (held_c g S L core w M O).mono ?_
  rintro e w' ⟨v, rfl, ho, hb⟩
  obtain ⟨ha, hc, rfl, _, _⟩ := own_len ho
  refine ⟨ha, hc, rfl, ⟨L, M.grow hb, F, below_then B (Nat.le_refl _) hb, fun b hk => ?_⟩, (H.grow hb).row, own_mono ho B.size⟩
  rcases hk with hk | hk
  · exact ⟨Nat.lt_of_lt_of_le (C b hk).1 hb.size, (C b hk).2⟩
  · refine ⟨(ho.lt b hk).2, fun hf => ?_⟩
    have := M.lt hf
    have := (ho.lt b hk).1
    omega
theorem order_t {w0 w : World} {g : Nat} {S : Sta} {av : Value} {ad : List Int} (H : TL w0 g S av ad w) (O : S.Ok) (ht : S.stamps.length < 1000000) : Calls Try.prog 16 #[ptr g 0] w fun e w' => ∃ oa oc, e = .returned (.slice oa (orderL S).length oc) ∧ TL w0 g S av ad w' := by
  obtain ⟨L, M, F, B, C⟩ := id H.mem
  refine (order_c g S L w M O ht).mono ?_
  rintro e w' ⟨v, rfl, ho, hb⟩
  obtain ⟨oa, oc, rfl, _, _⟩ := own_len ho
  exact ⟨oa, oc, rfl, H.grow hb⟩
structure TI (S : Sta) (ad : List Int) : Prop where
  all : All S
  tel : Tel S ad
  b : S.bufs.length = 3
  w : S.words.length = 4
theorem TI.core {S : Sta} {ad : List Int} (h : TI S ad) {c : Int} (h0 : 0 ≤ c) (h3 : c < 3) : hasCoreB S c = true := by simp only [hasCoreB, h.b, Bool.and_eq_true, decide_eq_true_eq]; omega
theorem TI.word {S : Sta} {ad : List Int} (h : TI S ad) {k : Int} (h0 : 0 ≤ k) (hk : k < 4) : hasWordB S (8 * k) = true := by simp only [hasWordB, withinB, h.w, Bool.and_eq_true, beq_iff_eq, decide_eq_true_eq]; omega
theorem TI.drain {S : Sta} {ad : List Int} (h : TI S ad) (c : Int) : TI (drainS S c) ad := by
  obtain ⟨k1, _⟩ := drain_szs S c
  exact ⟨h.all.drain c, tel_drain h.all h.tel c, by rw [k1.b, h.b], by rw [k1.w, h.w]⟩
theorem TI.store {S : Sta} {ad : List Int} (h : TI S ad) {c a : Int} (h0 : 0 ≤ a) (he : storeE S c a = 0) : TI (storeS S c a (1000 + ad.length + 1)) (ad ++ [a]) := by
  obtain ⟨k1, _⟩ := store_szs S c a (1000 + ad.length + 1)
  exact ⟨h.all.store c a _ h0, tel_store h.tel he, by rw [k1.b, h.b], by rw [k1.w, h.w]⟩
end Go.Proofs.Ytjkjbcnafpljoab
