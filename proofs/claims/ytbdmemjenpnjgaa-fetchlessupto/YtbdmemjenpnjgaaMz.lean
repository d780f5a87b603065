/- May. -/
import Derived.Test.YtbdmemjenpnjgaaMy
import Derived.Test.YtbdmemjenpnjgaaRelK
namespace Go.Proofs.Ytbdmemjenpnjgaa
open Go.RowKit
set_option linter.unusedVariables false
set_option linter.unusedSimpArgs false
set_option maxRecDepth 8000

open Go.Shelf Go.Maps
attribute [local go_sem] Oper.semAt_some
def MayR (w : World) (l : List Nat) (er : Int) (e : Ending) (w' : World) : Prop := ∃ u, e = .returned (.tuple #[u, vI er]) ∧ w'.ownsRow w.heap.size 24 1 u l.length (wrdV l) ∧ Below w.heap.size w w'
def mayOk (tr : List Nt) (c : Int) (a : Nat) : Bool := rightL tr && coreB c && ofWord a
theorem may_no {tr : List Nt} {v : Value} {c : Int} {a f : Nat} {w : World} (N : Nts w v tr) (ok : TrOk tr) (ha : a < 18446744073709551616) (h : mayOk tr c a = false) : Calls Try.prog 10 #[v, vI c, vU a, v32 f] w fun e w' => MayR w [] 1 e w' := by
  have k1 := right_c N ok
  have k2 := fun w => isCore_c c w
  have k3 := fun w => isOfWord_c a ha w
  obtain ⟨ao, cap, rfl⟩ := N.len
  unfold mayOk at h
  clear N
  cases h1 : rightL tr with
  | false =>
    rw [h1] at k1
    go_enter Try.func10, Try.ntmps10
    go_wp2_with (first | (go_at_call 23; (with_reducible refine k1.mono ?_); clear k1; rintro e w2 ⟨rfl, hB⟩; dsimp only))
    go_ret2
    exact ⟨_, rfl, World.ownsRow_nil _ _ _ _, hB⟩
  | true =>
    rw [h1] at k1 h
    cases h2 : coreB c with
    | false =>
      rw [h2] at k2
      go_enter Try.func10, Try.ntmps10
      go_wp2_with (first | (go_at_call 23; (with_reducible refine k1.mono ?_); clear k1; rintro e w2 ⟨rfl, hB⟩; dsimp only) | (go_at_call 24; (with_reducible refine (k2 _).mono ?_); clear k2; rintro e w3 ⟨rfl, rfl⟩; dsimp only))
      go_ret2
      exact ⟨_, rfl, World.ownsRow_nil _ _ _ _, hB⟩
    | true =>
      rw [h2] at k2 h
      have h3 : ofWord a = false := by simpa using h
      rw [h3] at k3
      go_enter Try.func10, Try.ntmps10
      go_wp2_with (first | (go_at_call 23; (with_reducible refine k1.mono ?_); clear k1; rintro e w2 ⟨rfl, hB⟩; dsimp only) | (go_at_call 24; (with_reducible refine (k2 _).mono ?_); clear k2; rintro e w3 ⟨rfl, rfl⟩; dsimp only) | (go_at_call 25; (with_reducible refine (k3 _).mono ?_); clear k3; rintro e w4 ⟨rfl, rfl⟩; dsimp only))
      go_ret2
      exact ⟨_, rfl, World.ownsRow_nil _ _ _ _, hB⟩
def flt (tr : List Nt) (c a k : Nat) : List Nt := (tr.take k).filter (bears c a)
theorem flt_yes {tr : List Nt} {c a k : Nat} {n : Nt} (hn : tr[k]? = some n) (h : bears c a n = true) : flt tr c a (k + 1) = flt tr c a k ++ [n] := by
  unfold flt
  rw [List.take_add_one, hn, List.filter_append]
  simp [h]
theorem flt_no {tr : List Nt} {c a k : Nat} {n : Nt} (hn : tr[k]? = some n) (h : bears c a n = false) : flt tr c a (k + 1) = flt tr c a k := by
  unfold flt
  rw [List.take_add_one, hn, List.filter_append]
  simp [h]
theorem vers_snoc (fl : List Nt) (n : Nt) (a f : Nat) : vers (fl ++ [n]) a f = vers fl a f ++ (if isW a n then [n.word] else []) := by
  unfold vers
  rw [wordsW_snoc]; rfl
theorem own_new (w : World) (base : Nat) (hb : base ≤ w.heap.size) (x : Value) (t : TypeId) : (w.alloc (.cells #[x] t)).ownsRow base t 1 (.slice (some ⟨w.heap.size, 0, none⟩) 1 1) 1 [x] :=
  ⟨rfl, .inr ⟨w.heap.size, 1, #[x], rfl, hb, World.alloc_heap_new _ _, Nat.le_refl _, by decide, rfl, rfl⟩⟩
theorem own_grow {W W' : World} {base size n : Nat} {e : TypeId} {v : Value} {xs : List Value} (h : W.ownsRow base e size v n xs) (t : Below W.heap.size W W') : W'.ownsRow base e size v n xs := own_of_block h fun k hk => t.block k (h.lt k hk).2
theorem keeps_foot {G : Gh} {S : Pst} {M B : Nat} {W W' : World} (P : PastAt G S M W) (h1 : G.bw < B) (h2 : G.bl < B) (h3 : G.bn < B) (g : Goes (Foot G) W W') : KeepsFrom B W W' :=
  ⟨g.size, fun k o hB hk ho => by
    rw [g.block k (lt_of_some hk) (fun hf => by
      rcases hf with rfl | rfl | rfl | rfl | ⟨s, hs⟩
      · rw [P.hd] at hk; cases hk; cases ho
      · omega
      · omega
      · omega
      · obtain ⟨C, _, hC⟩ := own_kind (P.row s) hs
        rw [hC] at hk; cases hk; cases ho)]
    exact hk⟩
/-- The versions with one more: all else lies as it lay. -/
theorem app_keep {W2 w1 : World} {tmp : Obj} {u v' : Value} {vb k : Nat} (hgrow : (W2.alloc tmp).grownBy w1 u.ownBlock) (hk : k < W2.heap.size) (h1 : k ≠ vb) (h2 : u.ownBlock ≠ some k) : (w1.setCell ⟨vb, 0, none⟩ v').heap[k]? = W2.heap[k]? := by
  rw [Below.heap_setCell _ _ _ _ h1, hgrow.block k (by rw [World.size_alloc]; omega) (fun e => h2 e.symm)]
  exact Below.heap_alloc _ _ _ hk
def MyD (W : World) (G : Gh) (S : Pst) (M pb vb : Nat) (u0 : Value) (w : World) (vs : List Nat) (W' : World) : Prop := PastAt G S M W' ∧ Boxed W' pb 54 (ptr G.p 0) ∧ Boxed W' vb 26 u0 ∧ W'.ownsRow w.heap.size 24 1 u0 vs.length (wrdV vs) ∧ Below W.heap.size W W'
theorem myD_grow {W W1 W2 : World} {G : Gh} {S : Pst} {M pb vb : Nat} {u0 : Value} {w : World} {vs : List Nat} (h : MyD W G S M pb vb u0 w vs W1) (t : Below W1.heap.size W1 W2) : MyD W G S M pb vb u0 w vs W2 := ⟨h.1.grow t, boxed_grow h.2.1 t, boxed_grow h.2.2.1 t, own_grow h.2.2.2.1 t, h.2.2.2.2.trans (t.mono h.2.2.2.2.size)⟩
theorem myD_kp {W W1 W2 : World} {G : Gh} {S : Pst} {M pb vb : Nat} {u0 : Value} {w : World} {vs l : List Nat} (t : Below W1.heap.size W1 W2) : RelJ.Kp (MyD W G S M pb vb u0 w vs) (fun u W' => MyD W G S M pb vb u0 w vs W' ∧ W'.ownsRow W.heap.size 24 1 u l.length (wrdV l)) W1 W2 :=
  ⟨fun h => myD_grow h t, fun u h => ⟨myD_grow h.1 t, own_grow h.2 t⟩⟩
theorem upon_of_call {P : Program} {w : World} {F : Value → World → Prop} {r : Result Next} {f : FuncId} {args : Array Value} {R : Ending → World → Prop} (hc : Calls P f args w R) (hR : ∀ e w', R e w' → ∃ v, e = .returned v ∧ F v w')
    (h : ∀ F : Value → World → Prop, Calls P f args w (fun e w'' => ∃ v, e = .returned v ∧ F v w'') → Chn.upon P F w r) : Chn.upon P F w r := h F (hc.mono hR)
set_option maxHeartbeats 2000000 in
theorem may_ok {tr : List Nt} {v : Value} {c a f : Nat} {w : World} (N : Nts w v tr) (ok : TrOk tr) (ha : a < 18446744073709551616) (hf : f < 4294967296) (h : mayOk tr c a = true) : Calls Try.prog 10 #[v, vI c, vU a, v32 f] w fun e w' => MayR w (mayL tr c a f) 0 e w' := by
  have k1 := right_c N ok
  have k2 := fun w => isCore_c c w
  have k3 := fun w => isOfWord_c a ha w
  obtain ⟨ao, cap, ev⟩ := N.len
  subst ev
  unfold mayOk at h
  simp only [Bool.and_eq_true] at h
  obtain ⟨⟨h1, h2⟩, h3⟩ := h
  rw [h1] at k1
  rw [h2] at k2
  rw [h3] at k3
  have hc8 : c < 8 := by simp [coreB] at h2; omega
  refine Rg.calls_marks Try.func10 rfl ?_
  simp only [Try.ntmps10, List.size_toArray, List.length_cons, List.length_nil, Nat.reduceAdd, Nat.reduceSub, Array.replicate_succ, Array.replicate_zero, List.push_toArray, List.append_toArray, List.nil_append, List.cons_append]
  go_upto_region 3 with (first | (go_at_call 23; (with_reducible refine k1.mono ?_); clear k1; rintro e w1 ⟨rfl, hB1⟩; dsimp only) | (go_at_call 24; (with_reducible refine (k2 _).mono ?_); clear k2; rintro e w3 ⟨rfl, rfl⟩; dsimp only) | (go_at_call 25; (with_reducible refine (k3 _).mono ?_); clear k3; rintro e w4 ⟨rfl, rfl⟩; dsimp only))
  have kn := newPast_c w4
  go_upto_region 4 with (first | (go_at_call 26; (with_reducible refine kn.mono ?_); clear kn; rintro e w5 ⟨G, rfl, hP, hB5, hF⟩; dsimp only))
  have r6 := own_new w5 w.heap.size (Nat.le_trans hB1.size hB5.size) (v32 f) 24
  have P6 := hP.grow (below_alloc w5 (.cells #[v32 f] 24))
  have B6 := below_then hB5 (Nat.le_refl _) (below_alloc w5 (.cells #[v32 f] 24))
  have s6 : (w5.alloc (.cells #[v32 f] 24)).heap.size = w5.heap.size + 1 := World.size_alloc _ _
  generalize w5.alloc (Obj.cells #[v32 f] 24) = w6 at *
  obtain ⟨gv, hgv⟩ : ∃ gv, gv = w5.heap.size := ⟨_, rfl⟩
  rw [← s6, ← hgv]
  rw [← hgv] at r6 s6
  clear s6 hgv hB5 hP
  have x7 := Boxed.new w6 54 (ptr G.p 0)
  have P7 := P6.grow (below_alloc w6 (.cells #[ptr G.p 0] 54))
  have B7 := below_then B6 (Nat.le_refl _) (below_alloc w6 (.cells #[ptr G.p 0] 54))
  have r7 := own_grow r6 (below_alloc w6 (.cells #[ptr G.p 0] 54))
  have s7 : (w6.alloc (.cells #[ptr G.p 0] 54)).heap.size = w6.heap.size + 1 := World.size_alloc _ _
  generalize w6.alloc (Obj.cells #[Value.pointer (some { block := G.p, off := 0 })] 54) = w7 at *
  rw [← s7]
  obtain ⟨pb, hpb⟩ : ∃ pb, pb = w6.heap.size := ⟨_, rfl⟩
  rw [← hpb] at x7 ⊢
  clear P6 B6 r6 s7 hpb
  have x8 := Boxed.new w7 26 (.slice (some ⟨gv, 0, none⟩) 1 1)
  have P8 := P7.grow (below_alloc w7 (.cells #[.slice (some ⟨gv, 0, none⟩) 1 1] 26))
  have B8 := below_then B7 (Nat.le_refl _) (below_alloc w7 (.cells #[.slice (some ⟨gv, 0, none⟩) 1 1] 26))
  have r8 := own_grow r7 (below_alloc w7 (.cells #[.slice (some ⟨gv, 0, none⟩) 1 1] 26))
  have y8 := boxed_grow x7 (below_alloc w7 (.cells #[.slice (some ⟨gv, 0, none⟩) 1 1] 26))
  have hvb : w.heap.size ≤ w7.heap.size := Nat.le_trans hB1.size B7.size
  generalize w7.alloc (Obj.cells #[Value.slice (some { block := gv, off := 0 }) 1 1] 26) = w8 at *
  obtain ⟨vb, hvb'⟩ : ∃ vb, vb = w7.heap.size := ⟨_, rfl⟩
  rw [← hvb'] at x8 hvb ⊢
  clear P7 B7 r7 x7 hvb'
  have B9 : Below w.heap.size w w8 := hB1.trans (B8.mono hB1.size)
  have hF9 : ∀ k, Foot G k → w.heap.size ≤ k := fun k hk => Nat.le_trans hB1.size (hF k hk)
  clear hB1 hF B8
  have kb := bearsOn_c c a w8
  go_wp2_with (first | (go_at_call 28; (with_reducible refine kb.mono ?_); clear kb; rintro e w10 ⟨rfl, x10, y10, B10⟩; dsimp only; have kt := those_c ao tr.length cap 36 #[ptr (w8.heap.size + 1) 0, ptr w8.heap.size 0] w10) | (go_at_call 27; (with_reducible refine kt.mono ?_); clear kt; rintro e w11 ⟨rfl, x11, y11, B11⟩; dsimp only))
  have hI0 : MyI w w11.heap.size ⟨pb, vb, w10.heap.size, w10.heap.size + 1, w8.heap.size + 1, w8.heap.size⟩ (.slice ao tr.length cap) c a f [] 0 w11 := by
    have P11 := (P8.grow B10).grow B11
    have hsz : w8.heap.size ≤ w10.heap.size := B10.size
    refine ⟨⟨G, P11, boxed_grow (boxed_grow y8 B10) B11, ?_, ?_, ?_, fun i hi => ⟨hF9 i hi, ?_⟩⟩, ⟨_, boxed_grow (boxed_grow x8 B10) B11, own_grow (own_grow r8 B10) B11⟩, x11, y11, boxed_grow y10 B11, boxed_grow x10 B11, ((B9.trans (B10.mono B9.size)).trans (B11.mono (Nat.le_trans B9.size hsz))), hvb, Nat.le_refl _⟩
    · exact P11.lt (.inr (.inl rfl))
    · exact P11.lt (.inr (.inr (.inl rfl)))
    · exact P11.lt (.inr (.inr (.inr (.inl rfl))))
    · have := P8.lt hi
      show i ≠ w8.heap.size
      omega
  have hww : w.heap.size ≤ w11.heap.size := hI0.low.size
  clear x11 y11 x10 y10 B10 B11 P8 r8 y8 x8 B9 hF9 hvb
  obtain ⟨hb, hhb⟩ : ∃ hb : Nat → Bool, hb = fun k => bears c a (tr.getD k ⟨0, 0, 0, 0⟩) := ⟨_, rfl⟩
  obtain ⟨F, hF⟩ : ∃ F : List Nt → Nat → World → Prop, F = fun fl k W => MyI w w11.heap.size ⟨pb, vb, w10.heap.size, w10.heap.size + 1, w8.heap.size + 1, w8.heap.size⟩ (.slice ao tr.length cap) c a f fl k W := ⟨_, rfl⟩
  have hFt : ∀ {fl k W W'}, F fl k W → Rg.Turn w11.heap.size W W' → F fl k W' := by rw [hF]; exact fun h t => h.turn hww t
  have hFg : ∀ {fl k W W'}, F fl k W → Below W.heap.size W W' → F fl k W' := by rw [hF]; exact fun h t => h.grow t
  refine Rg.wp_range2 (w := w11) rfl (enters_of Try.func35 (by kernel_rfl) rfl) (fun k => ntV (tr.getD k ⟨0, 0, 0, 0⟩))
    (fun k W => F (flt tr c a k) k W ∧ k ≤ tr.length) (fun k W => F (flt tr c a k) k W ∧ hb k = true ∧ k < tr.length)
    (fun k W => False) (fun k W => k = tr.length ∧ F (flt tr c a k) k W ∧ k ≤ tr.length)
    (fun k a' W => (F (flt tr c a k) k W ∧ hb k = true ∧ k < tr.length) ∧ ∃ t, LocN t (tr.getD k ⟨0, 0, 0, 0⟩) W ∧ a' = { tmps := #[Value.slice ao tr.length cap, vI c, vU a, v32 f, undef, undef, undef, undef, Value.slice none 0 0, Value.int IntKind.i64 0, ptr pb 0, ptr vb 0, undef, ptr t 0, Value.slice ao tr.length cap, Value.bool true, Value.bool false, Value.bool false, vI c, Value.bool true, Value.bool false, Value.bool false, Value.bool false, vU a, Value.bool true, Value.bool false, Value.bool false, ptr G.p 0, v32 f, Value.slice (some { block := gv, off := 0 }) 1 1, Value.slice ao tr.length cap, vI c, vU a, clo 36 #[ptr (w8.heap.size + 1) 0, ptr w8.heap.size 0], clo 35 #[ptr w10.heap.size 0, ptr (w10.heap.size + 1) 0], vI k, ntV (tr.getD k ⟨0, 0, 0, 0⟩), undef, undef, undef, undef, undef, undef, undef, undef, undef, undef, undef, undef, undef, undef, undef, undef, undef, undef], defers := [] })
    ?seq (fun k X Y h t => ⟨hFt h.1 t, h.2⟩) (fun k X Y h t => h) (fun k X Y h t => ⟨h.1, hFt h.2.1 t, h.2.2⟩) (fun k a X Y h t => ⟨⟨hFt h.1.1 t, h.1.2⟩, by obtain ⟨q, L, e⟩ := h.2; exact ⟨q, t.cells L, e⟩⟩) ⟨by rw [hF]; exact hI0, Nat.zero_le _⟩ ?assign ?body ?done (fun D k W _ h => h.elim)
  case seq =>
    intro l X Y W hX hY h0 hx
    refine those_in (fr := #[ptr (w8.heap.size + 1) 0, ptr w8.heap.size 0]) (tr := tr) (v := .slice ao tr.length cap) (b1 := w10.heap.size) (b2 := w10.heap.size + 1) (enters_of Try.func36 (by kernel_rfl) rfl) w11.heap.size (fun k W => F (flt tr c a k) k W ∧ k ≤ tr.length) (fun k W => F (flt tr c a k) k W ∧ hb k = true ∧ k < tr.length) (fun k W => False) hb (fun k W h => ?_) (fun k W W' h hB => ⟨hFg h.1 hB, h.2⟩) ?_ l X Y W hX hY h0 hx
    · rw [hF] at h
      exact ⟨h.1.x1, h.1.x2, N.low h.1.low.size fun b hb => h.1.low.block b hb⟩
    intro k n t W hn h L
    have hkl := (List.getElem?_eq_some_iff.1 hn).1
    have hg : tr.getD k ⟨0, 0, 0, 0⟩ = n := by simp [List.getD, hn]
    have hbk : hb k = bears c a n := by rw [hhb]; show bears c a (tr.getD k ⟨0, 0, 0, 0⟩) = _; rw [hg]
    have h' := h
    rw [hF] at h'
    have kq := bears_c (ok n (List.mem_of_getElem? hn)) ha h'.1.x3 h'.1.x4
    rw [hbk]
    try rw [hbk]
    refine kq.mono fun e W' ⟨q1, q2⟩ => ⟨q1, fun hb1 => ⟨hFg h.1 q2, hb1, hkl⟩, fun hb1 => ⟨?_, hkl⟩, L.grow q2, keeps_below q2⟩
    rw [flt_no hn hb1]
    have := hFg h.1 q2
    rw [hF] at this ⊢
    exact this.next
  case assign =>
    intro l k W K h hK
    obtain ⟨n, hn⟩ : ∃ n, tr.getD k ⟨0, 0, 0, 0⟩ = n := ⟨_, rfl⟩
    simp only [hn] at hK ⊢
    clear hn
    gi_wp2
    exact hK _ _ ((KeepsOthers.alloc W _).from _) ⟨⟨hFg h.1 (below_alloc _ _), h.2⟩, W.heap.size, LocN.new W n, rfl⟩
  case body =>
    rintro l k a' W ⟨⟨h, hk, hkl⟩, t, L, rfl⟩
    obtain ⟨n, hn⟩ : ∃ n, tr[k]? = some n := ⟨tr[k], List.getElem?_eq_getElem hkl⟩
    have hg : tr.getD k ⟨0, 0, 0, 0⟩ = n := by simp [List.getD, hn]
    have hbn : bears c a n = true := by rw [hhb] at hk; rw [← hg]; exact hk
    have hnr : wrongB n = false := by
      have := List.all_eq_true.1 h1 n (List.mem_of_getElem? hn)
      simpa using this
    have okn := ok n (List.mem_of_getElem? hn)
    have hfl := flt_yes hn hbn
    rw [hg] at L
    rw [hg]
    clear hg hn
    generalize flt tr c a k = fl at *
    rw [hF] at h
    have hmax := N.max
    obtain ⟨G1, P1, y1, e1, e2, e3, f1⟩ := h.past
    have hlen := h.len
    have ka := add_c P1 okn (by omega) (by rw [pst_now]; omega) (fun h4 => by
      have : coreB n.core = true := by
        unfold wrongB at hnr
        simp [h4] at hnr
        exact hnr.1.1
      simp [coreB] at this
      omega)
    have hadd := fun (e : Ending) (W' : World) (r : AddR G1 ((pst fl).add n) (2 * k + 2) W e W') => h.added P1 y1 e1 e2 e3 f1 r
    have d0 := L.c0
    have d1 := L.c1
    have d2 := L.c2
    have d3 := L.c3
    have dp := y1.cell
    have hLf := foot_loc P1 L
    obtain ⟨i0, hi, hz0, hz1, hz2⟩ := info_parts info24
    have hkf := fun W' => keeps_foot (W' := W') P1 e1 e2 e3
    by_cases hk1 : n.kind = 1
    · have hW : isW a n = true := by
        unfold bears at hbn
        simp [hk1] at hbn
        simp [isW, hk1, hbn]
      have hq : Hid (n.kind = 1) := hk1
      clear hk1
      gi_wp2_with (first | (refine ⟨trivial, ?_⟩; gi_at_call 29; refine (callsIn_wide.2 ka).mono ?_; rintro e W2 r; obtain ⟨rfl, past2, vs2, x21, x22, x23, x24, low2, go2⟩ := hadd e W2 r; clear ka hadd r d0 d1 d2 d3 dp; have L2 := L.goes go2 hLf; have d0 := L2.c0; rw [hq.out] at d0; have d3 := L2.c3; obtain ⟨u, vb2, r2⟩ := vs2; have dv := vb2.cell; have hsz := low2.size; have hvl : (vers fl a f).length ≤ k + 1 := (by rw [vers_len fl c a f, ← wordsW_len]; unfold wordsW; rw [List.length_map]; have := List.length_filter_le (isW a) fl; omega); dsimp only) | (gi_at_builtin; refine wpListIn_append_own _ rfl _ _ 26 rfl w.heap.size 24 i0 (v32 0) 1 4 Try.underlying26 hi hz0 hz1 hz2 rfl (by decide) u _ _ rfl (r2.alloc _) ⟨W2.heap.size, 0, none⟩ 1 1 [v32 n.word] rfl rfl (cell_one_new _ _ _) (by simp [Value.oneCell']) (by simp only [maxLen]; omega) (by omega) (by simp; omega) ?_; intro v' w1 hown' hgrow _; obtain ⟨g', cap', rfl⟩ := ownsRow_succ hown'; obtain ⟨hv1, hv2, hr2, hk2, hb2⟩ := vb2.appended (by decide) r2 hsz h.hv hown' hgrow; have hc1 := hv1.cell; have hf1 := hv1.frozen))
      have hv : vers (fl ++ [n]) a f = vers fl a f ++ [n.word] := by rw [vers_snoc, hW]; simp
      obtain ⟨G2, P2, y2, q1, q2, q3, q4⟩ := past2
      have nr : ∀ {b : Nat} {T : TypeId} {z : Value}, Boxed W2 b T z → T ≠ 24 → T ≠ 26 → (w1.setCell ⟨vb, 0, none⟩ (.slice (some ⟨g', 0, none⟩) ((vers fl a f).length + 1) cap')).heap[b]? = W2.heap[b]? := fun hx h24 h26 => app_keep hgrow hx.lt (fun e => by subst e; exact ne_of_type hx vb2 h26 rfl) (own_ne hx r2 h24)
      refine ⟨(hkf _ go2).trans (hk2.from _), ?_⟩
      dsimp only
      rw [hfl]
      try rw [hF]
      refine ⟨⟨⟨G2, P2.keep fun b hb => app_keep hgrow (P2.lt hb) (fun e => foot_cells P2 vb2 (by decide) (by decide) (e ▸ hb)) (fun e => foot_own P2 r2 (by decide) (by decide) e hb), boxed_keep y2 (nr y2 (by decide) (by decide)), q1, q2, q3, q4⟩, ⟨_, hv2, ?_⟩, boxed_keep x21 (nr x21 (by decide) (by decide)), boxed_keep x22 (nr x22 (by decide) (by decide)), boxed_keep x23 (nr x23 (by decide) (by decide)), boxed_keep x24 (nr x24 (by decide) (by decide)), low2.trans hb2, h.hv, by rw [List.length_append, List.length_singleton]; omega⟩, hkl⟩
      rw [hv, List.length_append, wrdV_append]
      exact hr2
    · have hW : isW a n = false := by simp [isW, hk1]
      have kk1 : (n.kind == 1) = false := beq_eq_false_iff_ne.2 hk1
      gi_wp2_with (first | (refine ⟨trivial, ?_⟩; gi_at_call 29; refine (callsIn_wide.2 ka).mono ?_; rintro e W2 r; obtain ⟨rfl, past2, vs2, x21, x22, x23, x24, low2, go2⟩ := hadd e W2 r; clear ka hadd r d0 d1 d2 d3 dp; have L2 := L.goes go2 hLf; have d0 := L2.c0; have d3 := L2.c3; dsimp only))
      have hv : vers (fl ++ [n]) a f = vers fl a f := by rw [vers_snoc, hW]; simp
      refine ⟨hkf _ go2, ?_⟩
      dsimp only
      rw [hfl]
      try rw [hF]
      exact ⟨⟨past2, by rw [hv]; exact vs2, x21, x22, x23, x24, low2, h.hv, by rw [List.length_append, List.length_singleton]; omega⟩, hkl⟩
  case done =>
    rintro D k w12 hD ⟨rfl, h, _⟩ hm
    rw [hF] at h
    have hfl : flt tr c a tr.length = tr.filter (bears c a) := by unfold flt; rw [List.take_length]
    rw [hfl] at h
    obtain ⟨G1, P1, y1, e1, e2, e3, f1⟩ := h.past
    obtain ⟨u0, vb2, r2⟩ := h.vs
    obtain ⟨g, cp, rfl, hcp, hcp2, hglt, _⟩ := own_addr r2 (by simp [vers])
    have hlow := h.low
    have hlo : (pst (tr.filter (bears c a))).lost c a = (au tr c a).lost := by rw [(fits _ c a).lost, au_bears]
    have hle : (au tr c a).lost < (vers (tr.filter (bears c a)) a f).length := by
      rw [vers_len _ c a f, au_bears]
      have := au_le tr c a
      omega
    have hlost : ∀ W1, PastAt G1 (pst (tr.filter (bears c a))) (2 * tr.length) W1 → Calls Try.prog 31 #[ptr G1.p 0, vI c, vU a] W1 fun e W' => e = .returned (vI (au tr c a).lost) ∧ Below W1.heap.size W1 W' := fun W1 P => by
      have := lost_c P (pst_ris _) hc8 ha
      rwa [hlo] at this
    have hvl : (vers (tr.filter (bears c a)) a f).length ≤ tr.length + 1 := by
      rw [vers_len _ c a f, ← wordsW_len]
      unfold wordsW
      rw [List.length_map]
      have h1 := List.length_filter_le (isW a) (tr.filter (bears c a))
      have h2 := List.length_filter_le (bears c a) tr
      omega
    have hmax := N.max
    have honce : ∀ W1, MyD w12 G1 (pst (tr.filter (bears c a))) (2 * tr.length) pb vb (.slice (some ⟨g, 0, none⟩) (vers (tr.filter (bears c a)) a f).length cp) w (vers (tr.filter (bears c a)) a f) W1 → Calls Try.prog 30 #[.slice (some ⟨g, (au tr c a).lost, none⟩) ((vers (tr.filter (bears c a)) a f).length - (au tr c a).lost) (cp - (au tr c a).lost)] W1 fun e W' => ∃ u, e = .returned u ∧ MyD w12 G1 (pst (tr.filter (bears c a))) (2 * tr.length) pb vb (.slice (some ⟨g, 0, none⟩) (vers (tr.filter (bears c a)) a f).length cp) w (vers (tr.filter (bears c a)) a f) W' ∧ W'.ownsRow w12.heap.size 24 1 u (mayL tr c a f).length (wrdV (mayL tr c a f)) := fun W1 D => by
      have hW : Wds W1 (.slice (some ⟨g, (au tr c a).lost, none⟩) ((vers (tr.filter (bears c a)) a f).length - (au tr c a).lost) (cp - (au tr c a).lost)) ((vers (tr.filter (bears c a)) a f).drop (au tr c a).lost) := by
        refine ⟨⟨_, _, by rw [List.length_drop]⟩, by rw [List.length_drop]; omega, fun _ => ⟨g, _, _, by rw [List.length_drop], ?_, fun i x hx => ?_⟩⟩
        · exact ((D.2.2.2.1).lt g rfl).2
        · rw [List.getElem?_drop] at hx
          have hlt := (List.getElem?_eq_some_iff.1 hx).1
          rw [D.2.2.2.1.cellAt _ (by omega)]
          simp [hx]
      refine (once_c hW (fun x hx => ?_)).mono fun e W' ⟨u, q1, q2, q3⟩ => ⟨u, q1, myD_grow D q3, own_mono ?_ D.2.2.2.2.size⟩
      · have hx := List.mem_of_mem_drop hx
        rcases List.mem_cons.1 hx with rfl | hx
        · exact hf
        · obtain ⟨n, hn, rfl⟩ := List.mem_map.1 hx
          exact (ok n (List.mem_filter.1 (List.mem_filter.1 hn).1).1).word
      · have : onceL ((vers (tr.filter (bears c a)) a f).drop (au tr c a).lost) = mayL tr c a f := by
          unfold mayL vers
          rw [wordsW_bears]
        rw [this] at q2
        exact q2
    have hle' : (au tr c a).lost ≤ (vers (tr.filter (bears c a)) a f).length := Nat.le_of_lt hle
    have hcpn : ¬ cp = (au tr c a).lost := by omega
    clear hI0 hFt hFg hF hhb hb F h hlo
    dsimp only
    go_upto_region 9 with fail
    have hst : (MyD w12 G1 (pst (tr.filter (bears c a))) (2 * tr.length) pb vb (.slice (some ⟨g, 0, none⟩) (vers (tr.filter (bears c a)) a f).length cp) w (vers (tr.filter (bears c a)) a f)) _ := ⟨P1.grow (Rel.below_draws (n := 1) (Below.refl _ _)), boxed_grow y1 (Rel.below_draws (n := 1) (Below.refl _ _)), boxed_grow vb2 (Rel.below_draws (n := 1) (Below.refl _ _)), own_grow r2 (Rel.below_draws (n := 1) (Below.refl _ _)), Rel.below_draws (n := 1) (Below.refl _ _)⟩
    refine RelJ.wp_region_callK 6 (MyD w12 G1 (pst (tr.filter (bears c a))) (2 * tr.length) pb vb (.slice (some ⟨g, 0, none⟩) (vers (tr.filter (bears c a)) a f).length cp) w (vers (tr.filter (bears c a)) a f)) (fun u W => (MyD w12 G1 (pst (tr.filter (bears c a))) (2 * tr.length) pb vb (.slice (some ⟨g, 0, none⟩) (vers (tr.filter (bears c a)) a f).length cp) w (vers (tr.filter (bears c a)) a f)) W ∧ W.ownsRow w12.heap.size 24 1 u (mayL tr c a f).length (wrdV (mayL tr c a f))) (fun u => [.slice (some ⟨g, 0, none⟩) (vers (tr.filter (bears c a)) a f).length cp, ptr G1.p 0, vI c, vU a, vI (au tr c a).lost, .slice (some ⟨g, (au tr c a).lost, none⟩) ((vers (tr.filter (bears c a)) a f).length - (au tr c a).lost) (cp - (au tr c a).lost), u, u, vI 0]) (by kernel_rfl) (by kernel_rfl) (by kernel_rfl) (by decide) (fun v q hq => by match q, hq with | 0, _ => rfl | 1, _ => rfl | 2, _ => rfl | 3, _ => rfl | 4, _ => rfl | 5, _ => rfl | n + 6, hq => exact absurd hq (by omega)) (fun v => rfl) (fun v => rfl) hst ?_
    clear hst
    intro u
    refine ⟨by
      rw [if_pos (by decide)]
      intro w1 hC
      have D1 := hC.elim id (fun ⟨_, h⟩ => h.1)
      have z := D1.2.2.1.cell
      exact Chn.upon_pure (C := fun y => RelJ.Kp _ _ w1 y) (RelJ.Kp.refl w1) (fun F hF => by (go_simp <;> exact hF)), ?_⟩
    simp only [Act.put, List.setIfInBounds_toArray, List.set_cons_succ, List.set_cons_zero]
    refine ⟨by
      rw [if_pos (by decide)]
      intro w1 hC
      have D1 := hC.elim id (fun ⟨_, h⟩ => h.1)
      have z := D1.2.1.cell
      exact Chn.upon_pure (C := fun y => RelJ.Kp _ _ w1 y) (RelJ.Kp.refl w1) (fun F hF => by (go_simp <;> exact hF)), ?_⟩
    simp only [Act.put, List.setIfInBounds_toArray, List.set_cons_succ, List.set_cons_zero]
    refine ⟨by
      rw [if_pos (by decide)]
      intro w1 hC
      have D1 := hC.elim id (fun ⟨_, h⟩ => h.1)
      exact Chn.upon_pure (C := fun y => RelJ.Kp _ _ w1 y) (RelJ.Kp.refl w1) (fun F hF => by (go_simp <;> exact hF)), ?_⟩
    simp only [Act.put, List.setIfInBounds_toArray, List.set_cons_succ, List.set_cons_zero]
    refine ⟨by
      rw [if_pos (by decide)]
      intro w1 hC
      have D1 := hC.elim id (fun ⟨_, h⟩ => h.1)
      exact Chn.upon_pure (C := fun y => RelJ.Kp _ _ w1 y) (RelJ.Kp.refl w1) (fun F hF => by (go_simp <;> exact hF)), ?_⟩
    simp only [Act.put, List.setIfInBounds_toArray, List.set_cons_succ, List.set_cons_zero]
    refine ⟨by
      rw [if_pos (by decide)]
      intro w1 hC
      have D1 := hC.elim id (fun ⟨_, h⟩ => h.1)
      exact Chn.upon_call (C := fun y => RelJ.Kp _ _ w1 y) (hlost w1 D1.1) (fun e2 w2 hh => ⟨hh.1, myD_kp hh.2⟩) (fun F hF => by (go_simp <;> exact hF)), ?_⟩
    simp only [Act.put, List.setIfInBounds_toArray, List.set_cons_succ, List.set_cons_zero]
    refine ⟨by
      rw [if_pos (by decide)]
      intro w1 hC
      have D1 := hC.elim id (fun ⟨_, h⟩ => h.1)
      exact Chn.upon_pure (C := fun y => RelJ.Kp _ _ w1 y) (RelJ.Kp.refl w1) (fun F hF => by (go_simp <;> exact hF)), ?_⟩
    simp only [Act.put, List.setIfInBounds_toArray, List.set_cons_succ, List.set_cons_zero]
    refine ⟨by
      rw [if_neg (by decide), if_pos rfl]
      intro w1 hC
      have ho := honce w1 hC
      exact upon_of_call ho (fun e2 w2 hh => hh) (fun F2 hF2 => by (go_simp <;> exact hF2)), ?_⟩
    simp only [Act.put, List.setIfInBounds_toArray, List.set_cons_succ, List.set_cons_zero]
    refine ⟨by
      rw [if_neg (by decide), if_neg (by decide)]
      intro w1 hC
      exact Chn.upon_pure (C := fun y => RelJ.Kp _ _ w1 y) (RelJ.Kp.refl w1) (fun F hF => by (go_simp <;> exact hF)), ?_⟩
    simp only [Act.put, List.setIfInBounds_toArray, List.set_cons_succ, List.set_cons_zero]
    refine ⟨by
      rw [if_neg (by decide), if_neg (by decide)]
      intro w1 hC
      exact Chn.upon_pure (C := fun y => RelJ.Kp _ _ w1 y) (RelJ.Kp.refl w1) (fun F hF => by (go_simp <;> exact hF)), ?_⟩
    simp only [Act.put, List.setIfInBounds_toArray, List.set_cons_succ, List.set_cons_zero]
    intro w5 hC

    obtain ⟨⟨_, _, _, _, B5⟩, hrow⟩ := hC
    have hm5 : w5.heap[D]? = some (.deferred (some [])) := by rw [B5.block D (lt_of_some hm)]; exact hm
    have hsz := hlow.size
    go_wp2
    refine Rg.ret_marks (Ds := [D]) w11.heap.size (Rg.Marks.nil w5 |>.cons hm5 (by simp)) (fun E hE => by obtain rfl := List.mem_singleton.1 hE; exact hD) (fun w' => results_tmp2 rfl _ _ _) fun w' ht => ⟨_, rfl, ht.own (own_mono hrow hsz), (hlow.trans (B5.mono hsz)).trans (ht.below hww (Nat.le_trans hsz B5.size))⟩
end Go.Proofs.Ytbdmemjenpnjgaa
