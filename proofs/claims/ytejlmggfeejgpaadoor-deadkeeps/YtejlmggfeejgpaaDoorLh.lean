/- untilAllSeen. -/
import Derived.Test.YtejlmggfeejgpaaDoorXl
namespace Go.Proofs.YtejlmggfeejgpaaDoor
open Go.RowKit
set_option linter.unusedVariables false
set_option linter.unusedSimpArgs false
set_option maxRecDepth 8000

theorem seen_all (l : List Opr) : (seenL l).all id = allSeen l := by
  unfold allSeen
  rw [Bool.eq_iff_iff, List.all_eq_true, List.all_eq_true]
  have hl := seenL_len l
  constructor
  · intro h k hk
    rw [List.mem_range] at hk
    have : seenAt l k = (seenL l)[k]'(by omega) := by unfold seenAt; simp [List.getD, show k < (seenL l).length by omega]
    rw [this]
    exact h _ (List.getElem_mem _)
  · intro h b hb
    obtain ⟨k, hk, rfl⟩ := List.getElem_of_mem hb
    have := h k (List.mem_range.2 (by omega))
    unfold seenAt at this
    simpa [List.getD, hk] using this
/-- What is left in the end, told go by go. -/
theorem deadF_stable {pc words el : Int} : ∀ (f : Nat) (l : List Opr), rightB pc words el l = true → l.length ≤ f → ∀ g, l.length ≤ g → deadF f l = deadF g l
  | 0, l, h, hf, g, hg => by have := (right_lens h).1; omega
  | f + 1, l, h, hf, g, hg => by
    have h0 := (right_lens h).1
    obtain ⟨g, rfl⟩ : ∃ q, g = q + 1 := ⟨g - 1, by omega⟩
    show (if allSeen l = true then l else deadF f (onlyL l)) = (if allSeen l = true then l else deadF g (onlyL l))
    cases hs : allSeen l with
    | true => rfl
    | false =>
      rw [if_neg (by decide), if_neg (by decide)]
      have hl := only_less hs
      exact deadF_stable f (onlyL l) (only_right h) (by omega) g (by omega)
theorem dead_go {pc words el : Int} {l : List Opr} (h : rightB pc words el l = true) (hs : allSeen l = false) : deadL l = deadL (onlyL l) := by
  have h0 := (right_lens h).1
  have hl := only_less hs
  unfold deadL
  obtain ⟨n, hn⟩ : ∃ n, l.length = n + 1 := ⟨l.length - 1, by omega⟩
  rw [hn]
  show (if allSeen l = true then l else deadF n (onlyL l)) = _
  rw [hs, if_neg (by decide)]
  exact deadF_stable _ _ (only_right h) (by omega) _ (Nat.le_refl _)
def lenV : Value → Nat
  | .slice _ n _ => n
  | _ => 0
theorem boC_cut (L : List Bool) (R : List Value) (k : Nat) : boC L R = boC (L.take k) ((L.drop k).map Value.bool ++ R) := by
  unfold boC
  rw [← List.append_assoc, ← List.map_append, List.take_append_drop]
/-- untilAllSeen under way. -/
structure UaW (w : World) (pc words el : Int) (l m : List Opr) (g sb cap : Nat) (L : List Bool) (R : List Value) (C : Array Value) (x : World) : Prop where
  right : rightB pc words el m = true
  imm : ∀ k, U64 (opAt m k).imm
  dead : deadL m = deadL l
  row : x.heap[g]? = some (.cells C 33)
  sz : C.size = cap * 6
  hcap : m.length ≤ cap
  front : C.toList.take (m.length * 6) = opF m
  seen : x.heap[sb]? = some (.cells (boC L R) 4)
  len : L.length = m.length
  below : Below w.heap.size w x
  gw : w.heap.size ≤ g
  sw : w.heap.size ≤ sb
section
variable {w x y : World} {pc words el : Int} {l m : List Opr} {g sb cap : Nat} {L : List Bool} {R : List Value} {C : Array Value}
theorem UaW.ops (h : UaW w pc words el l m g sb cap L R C x) : Ops x (.slice (some ⟨g, 0, none⟩) m.length cap) m := by
  refine ⟨⟨_, _, rfl⟩, by have := (right_lens h.right).2.1; simp only [maxLen]; omega, fun _ => ⟨_, _, rfl, fun i o ho => ?_⟩⟩
  have hi := (List.getElem?_eq_some_iff.1 ho).1
  have A := op_row h.row hi (fun j _ h2 => by rw [← h.front, ← Array.getElem?_toList, List.getElem?_take, if_pos h2])
  rw [opAt_of ho] at A
  rw [Addr.add_mid, Nat.zero_add]
  exact A
theorem UaW.ne (h : UaW w pc words el l m g sb cap L R C x) : g ≠ sb := ne_of_type h.row h.seen (by decide)
theorem UaW.marked (h : UaW w pc words el l m g sb cap L R C x) (hs : y.heap[sb]? = some (.cells (boC (seenL m) R) 4)) (hg : Goes (fun b => b = sb) x y) : UaW w pc words el l m g sb cap (seenL m) R C y :=
  ⟨h.right, h.imm, h.dead, by rw [hg.block g (lt_of_some h.row) h.ne]; exact h.row, h.sz, h.hcap, h.front, hs, seenL_len m, h.below.trans (hg.below h.below.size (fun b hb => by rw [hb]; exact h.sw)), h.gw, h.sw⟩
theorem UaW.fewer (h : UaW w pc words el l m g sb cap (seenL m) R C x) (ha : allSeen m = false) {C' : Array Value} (hr : y.heap[g]? = some (.cells C' 33)) (hz : C'.size = cap * 6) (hf : C'.toList.take ((onlyL m).length * 6) = opF (onlyL m)) (hs : y.heap[sb]? = some (.cells (boC (seenL m) R) 4)) (hg : Goes (fun b => b = g) x y) : UaW w pc words el l (onlyL m) g sb cap ((seenL m).take (onlyL m).length) (((seenL m).drop (onlyL m).length).map Value.bool ++ R) C' y := by
  have hl := only_less ha
  have h1 := h.hcap
  have h2 := seenL_len m
  exact ⟨only_right h.right, only_imm h.imm, (dead_go h.right ha).symm.trans h.dead, hr, hz, by omega, hf, by rw [← boC_cut]; exact hs, by rw [List.length_take]; omega, h.below.trans (hg.below h.below.size (fun b hb => by rw [hb]; exact h.gw)), h.gw, h.sw⟩
theorem UaW.own (h : UaW w pc words el l m g sb cap L R C x) (hm : cap ≤ maxLen) : x.ownsRow w.heap.size 33 6 (.slice (some ⟨g, 0, none⟩) m.length cap) m.length (opF m) :=
  ⟨opF_len m, .inr ⟨g, cap, C, rfl, h.gw, h.row, h.hcap, hm, h.sz, h.front⟩⟩
end
set_option maxHeartbeats 8000000 in
theorem until_c {w : World} {v : Value} {l : List Opr} {pc words el : Int} (hR : rightB pc words el l = true) (hu : ∀ k, U64 (opAt l k).imm) (O : Ops w v l) : Calls Tryd.prog 12 #[v] w fun e w' => ∃ u, e = .returned u ∧ w'.ownsRow w.heap.size 33 6 u (deadL l).length (opF (deadL l)) ∧ Below w.heap.size w w' := by
  obtain ⟨h0, h512, -⟩ := right_lens hR
  have kc := clone_c O h0 h512
  obtain ⟨ao, cap0, rfl⟩ := O.len
  clear O
  go_enter Tryd.func12, Tryd.ntmps12
  go_upto_region 2 with (first | (go_at_call 23; (with_reducible refine kc.mono ?_); clear kc; rintro e w2 ⟨u, rfl, hown, B⟩; dsimp only; obtain ⟨g, cap, e2, hcap, hmax, -⟩ := own_addr hown h0; subst e2))
  obtain ⟨C, X⟩ : ∃ C, w2.heap[g]? = some (.cells C 33) ∧ w.heap.size ≤ g ∧ C.size = cap * 6 ∧ C.toList.take (l.length * 6) = opF l := by
    rcases hown.2 with ⟨e, _⟩ | ⟨g', cap', cur, e, hb, hg, h1, h2, h3, h4⟩
    · cases e
    · cases e; exact ⟨cur, hg, hb, h3, h4⟩
  obtain ⟨hg, hgw, hsz, hfr⟩ := X
  clear hown
  have hb2 := below_alloc w2 (.cells (boC (List.replicate l.length false) []) 4)
  have X0 : UaW w pc words el l l g w2.heap.size cap (List.replicate l.length false) [] C (w2.alloc (.cells (boC (List.replicate l.length false) []) 4)) :=
    ⟨hR, hu, rfl, keepRow hg hb2, hsz, hcap, hfr, heap_alloc_new _ _, List.length_replicate .., below_then B (Nat.le_refl _) hb2, hgw, B.size⟩
  clear hb2 hg hgw hsz hfr B hcap hR hu
  go_upto_region 3 with (first | ((with_reducible refine wpList_mkB rfl _ rfl h512 rfl ?_); simp only [Act.put, List.setIfInBounds_toArray, List.set_cons_succ, List.set_cons_zero]))
  generalize w2.alloc (.cells (boC (List.replicate l.length false) []) 4) = w3 at *
  generalize w2.heap.size = sb at *
  have km := mark_c (cap := l.length) X0.right X0.ops (fun ra n c e => by cases e; exact X0.ne) X0.seen X0.len
  go_upto_region 4 with (first | (go_at_call 18; (with_reducible refine km.mono ?_); clear km; rintro e w4 ⟨⟨u, rfl⟩, r4, G⟩; dsimp only))
  replace X0 := X0.marked r4 G
  clear r4 G
  go_loopw [0, 3] (fun s0 s3 wr => ∃ m C R cs, s0 = .slice (some ⟨g, 0, none⟩) (List.length m) cap ∧ s3 = .slice (some ⟨sb, 0, none⟩) (List.length m) cs ∧ m.length ≤ cs ∧ UaW w pc words el l m g sb cap (seenL m) R C wr) (fun s0 _ _ => lenV s0)
  case atStart => exact ⟨l, C, _, l.length, rfl, rfl, Nat.le_refl _, X0⟩
  case round =>
    clear X0
    obtain ⟨m, C, R, cs, rfl, rfl, hcs, X⟩ := hrel
    obtain ⟨m0, m512, -⟩ := right_lens X.right
    have kc := contains_c (cap := cs) X.seen (by rw [seenL_len]; omega)
    rw [seen_all, seenL_len] at kc
    cases ha : allSeen m with
    | true =>
      rw [ha] at kc
      go_wp2_with (first | (go_at_call 24; (with_reducible refine kc.mono ?_); clear kc; rintro e w5 ⟨rfl, rfl⟩; dsimp only))
      go_ret
      have hd := dead_same ha
      rw [X.dead] at hd
      rw [hd]
      exact ⟨_, rfl, X.own hmax, X.below⟩
    | false =>
      rw [ha] at kc
      have ko := only_c (cs := cs) X.right X.row X.sz X.hcap X.front X.seen
      have hless := only_less ha
      go_upto_region 7 with (first | (go_at_call 24; (with_reducible refine kc.mono ?_); clear kc; rintro e w5 ⟨rfl, rfl⟩; dsimp only) | (go_at_call 25; (with_reducible refine ko.mono ?_); clear ko; rintro e w6 ⟨rfl, ⟨C', q1, q2, q3⟩, q4, G⟩; dsimp only))
      replace X := X.fewer ha q1 q2 q3 q4 G
      clear q1 q2 q3 q4 G
      have km := mark_c (cap := cs) X.right X.ops (fun ra n c e => by cases e; exact X.ne) X.seen X.len
      have hle1 : ((onlyL m).length : Int) ≤ cs := by omega
      have hle2 : (0 : Int) ≤ (onlyL m).length := by omega
      go_wp2_with (first | (go_at_call 18; (with_reducible refine km.mono ?_); clear km; rintro e w8 ⟨⟨u, rfl⟩, r8, G⟩; dsimp only))
      replace X := X.marked r8 G
      clear r8 G
      go_roundw
      case rel => exact ⟨onlyL m, C', _, cs, rfl, by first | rfl | simp, by omega, X⟩
      case measure => simp [lenV]; omega
end Go.Proofs.YtejlmggfeejgpaaDoor
