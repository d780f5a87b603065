/- Notes of one's own; what the laws call. -/
import Derived.Test.YtbdmemjenpnjgaaCl
namespace Go.Proofs.Ytbdmemjenpnjgaa
open Go.RowKit
set_option linter.unusedVariables false
set_option linter.unusedSimpArgs false
set_option maxRecDepth 8000

open Go.Shelf Go.Maps
def ntF (tr : List Nt) : List Value := tr.flatMap fun n => [vI n.kind, vI n.core, vU n.addr, v32 n.word]
theorem ntF_len (l : List Nt) : (ntF l).length = l.length * 4 := by
  induction l with
  | nil => rfl
  | cons p l ih => simp only [ntF, List.flatMap_cons, List.length_append, List.length_cons, List.length_nil] at *; omega
theorem ntF_append (l m : List Nt) : ntF (l ++ m) = ntF l ++ ntF m := by simp [ntF]
theorem ntF_get : ∀ {tr : List Nt} {i : Nat} {n : Nt}, tr[i]? = some n → (ntF tr)[i * 4]? = some (vI n.kind) ∧ (ntF tr)[i * 4 + 1]? = some (vI n.core) ∧ (ntF tr)[i * 4 + 2]? = some (vU n.addr) ∧ (ntF tr)[i * 4 + 3]? = some (v32 n.word)
  | [], _, _, h => by simp at h
  | q :: ps, 0, p, h => by
    obtain rfl : q = p := by simpa using h
    exact ⟨rfl, rfl, rfl, rfl⟩
  | q :: ps, i + 1, p, h => by
    have := ntF_get (tr := ps) (i := i) (n := p) (by simpa using h)
    have e : (i + 1) * 4 = i * 4 + 4 := by omega
    rw [e]
    exact this
theorem one_ntF (l : List Nt) : ∀ u ∈ ntF l, u.oneCell' = true := fun u hu => by
  obtain ⟨p, _, h⟩ := List.mem_flatMap.1 hu
  simp only [List.mem_cons, List.not_mem_nil, or_false] at h
  rcases h with rfl | rfl | rfl | rfl <;> rfl
theorem own_nts {base : Nat} {v : Value} {tr : List Nt} {w : World} (R : w.ownsRow base 34 4 v tr.length (ntF tr)) (hm : tr.length ≤ 4398046511104) : Nts w v tr := by
  obtain ⟨ao, cap, ev, h1, h2⟩ := own_len R
  refine ⟨⟨ao, cap, ev⟩, hm, fun h0 => ?_⟩
  obtain ⟨g, c, e, _, _, hg, hc, _⟩ := own_addr R h0
  refine ⟨⟨g, 0, none⟩, c, e, fun i p hp => ?_⟩
  have hi := (List.getElem?_eq_some_iff.1 hp).1
  obtain ⟨g1, g2, g3, g4⟩ := ntF_get hp
  have e0 : (⟨g, 0, none⟩ : Addr).add (i * 4) = ⟨g, i * 4, none⟩ := by rw [Addr.add_mid, Nat.zero_add]
  rw [e0]
  exact ⟨hg, by rw [hc _ (by omega)]; exact g1, by show w.cell? ⟨g, i * 4 + 1, none⟩ = _; rw [hc _ (by omega)]; exact g2, by show w.cell? ⟨g, i * 4 + 2, none⟩ = _; rw [hc _ (by omega)]; exact g3, by show w.cell? ⟨g, i * 4 + 3, none⟩ = _; rw [hc _ (by omega)]; exact g4⟩
theorem info34 : (Try.prog.info? 34).map (fun i => (i.zero, i.size, i.bytes)) = some (some (.agg #[vI 0, vI 0, vU 0, v32 0]), 4, 32) := by kernel_rfl
theorem inf34 : (Try.prog.info? 34).map (·.size) = some 4 := by kernel_rfl
theorem nts_news {w : World} {ra : Addr} {tr : List Nt} (hc : ∀ (i : Nat) n, tr[i]? = some n → NtAt w (ra.add (i * 4)) n) (j : Nat) (u : Value) (hj : (ntF tr)[j]? = some u) : w.cell? (ra.add j) = some u := by
  have hjl : j < tr.length * 4 := by have := (List.getElem?_eq_some_iff.1 hj).1; rwa [ntF_len] at this
  have hp : tr[j / 4]? = some (tr[j / 4]'(by omega)) := List.getElem?_eq_getElem _
  have A := hc _ _ hp
  obtain ⟨g1, g2, g3, g4⟩ := ntF_get hp
  have hd : ∀ k, k < 4 → j / 4 * 4 + k = j → ra.add j = (ra.add (j / 4 * 4)).add k := fun k _ e => by rw [Addr.add_add, e]
  rcases (by omega : j % 4 = 0 ∨ j % 4 = 1 ∨ j % 4 = 2 ∨ j % 4 = 3) with e | e | e | e
  · have ej : j / 4 * 4 = j := by omega
    have A0 := A.c0
    rw [ej] at A0 g1
    exact A0.trans (g1.symm.trans hj)
  · have ej : j / 4 * 4 + 1 = j := by omega
    rw [hd 1 (by omega) ej, ← hj]
    rw [ej] at g2
    rw [g2]
    exact A.c1
  · have ej : j / 4 * 4 + 2 = j := by omega
    rw [hd 2 (by omega) ej, ← hj]
    rw [ej] at g3
    rw [g3]
    exact A.c2
  · have ej : j / 4 * 4 + 3 = j := by omega
    rw [hd 3 (by omega) ej, ← hj]
    rw [ej] at g4
    rw [g4]
    exact A.c3
theorem run_copyN {w : World} {v : Value} {tr : List Nt} (hv : Nts w v tr) (ty : TypeId) : ∃ v' w', (Builtin.append_ #[22, 22] ty #[.slice none 0 0, v]).run Try.prog w = .ok v' w' ∧ w'.ownsRow w.heap.size 34 4 v' tr.length (ntF tr) ∧ Below w.heap.size w w' := by
  obtain ⟨i, h1, h2, h3, h4⟩ := info_parts info34
  have hown : w.ownsRow w.heap.size 34 4 (.slice none 0 0) 0 [] := ⟨rfl, .inl ⟨rfl, rfl⟩⟩
  obtain ⟨ao, cap, ev⟩ := hv.len
  have hmx := hv.max
  subst ev
  cases ao with
  | none =>
    obtain rfl : tr = [] := by
      cases tr with
      | nil => rfl
      | cons p l =>
        obtain ⟨ra, c2, e2, _⟩ := hv.cell (by simp)
        cases e2
    have hr : (Builtin.append_ #[22, 22] ty #[.slice none 0 0, .slice none 0 cap]).run Try.prog w = .ok (.slice none 0 0) w := by
      simp [Builtin.append_, run_underlying Try.underlying22, sizeOf, typeInfo, h1, Builtin.lenOf, Builtin.firstCells]
    exact ⟨_, w, hr, hown, Below.refl _ _⟩
  | some ra =>
    have hc : ∀ (i : Nat) p, tr[i]? = some p → NtAt w (ra.add (i * 4)) p := fun i p hp => by
      obtain ⟨ra2, c2, e2, hc2⟩ := hv.cell (Nat.lt_of_le_of_lt (Nat.zero_le _) (List.getElem?_eq_some_iff.1 hp).1)
      cases e2
      exact hc2 i p hp
    obtain ⟨v', w', hr, q1, q2, _, _⟩ := run_append_own_at (P := Try.prog) w w.heap.size 22 ty 34 i (.agg #[vI 0, vI 0, vU 0, v32 0]) 4 32 Try.underlying22 h1 h2 h3 h4 rfl (by decide) (.slice none 0 0) 0 [] hown ra tr.length cap (ntF tr) (ntF_len tr) (nts_news hc) (one_ntF tr) (by simp only [maxLen]; omega) (by omega) (Nat.le_refl _)
    rw [Nat.zero_add, List.nil_append] at q1
    exact ⟨v', w', hr, q1, (goes_grown (F := fun _ => False) q2 (fun k hk => by cases hk)).below (Nat.le_refl _) (fun _ h => h.elim)⟩
theorem run_appN {w : World} {v : Value} {base b m c : Nat} {tr ns : List Nt} (R : w.ownsRow base 34 4 v tr.length (ntF tr)) (hb : base ≤ w.heap.size) (hn : w.heap[b]? = some (.cells (ntF ns).toArray 34)) (hm : ns.length = m) (hl : tr.length + m ≤ 4398046511104) (ty : TypeId) : ∃ v' w', (Builtin.append_ #[22, 22] ty #[v, .slice (some ⟨b, 0, none⟩) m c]).run Try.prog w = .ok v' w' ∧ w'.ownsRow base 34 4 v' (tr ++ ns).length (ntF (tr ++ ns)) ∧ w.grownBy w' v.ownBlock ∧ (v'.ownBlock = v.ownBlock ∨ v'.ownBlock = some w.heap.size) := by
  obtain ⟨i, h1, h2, h3, h4⟩ := info_parts info34
  obtain ⟨v', w', hr, q1, q2, _, q4⟩ := run_append_own_at (P := Try.prog) w base 22 ty 34 i (.agg #[vI 0, vI 0, vU 0, v32 0]) 4 32 Try.underlying22 h1 h2 h3 h4 rfl (by decide) v tr.length (ntF tr) R ⟨b, 0, none⟩ m c (ntF ns) (by rw [ntF_len, hm]) (by
    intro j u hj
    have e : (⟨b, 0, none⟩ : Addr).add j = ⟨b, j, none⟩ := by rw [Addr.add_mid, Nat.zero_add]
    rw [e, cell_of_row _ _ _ _ _ _ hn]
    simpa using hj) (one_ntF ns) (by simp only [maxLen]; omega) (by omega) hb
  refine ⟨v', w', hr, ?_, q2, q4⟩
  rw [List.length_append, hm, ntF_append]
  exact q1
theorem back34 {fn : Func} {p : Tmp} (h : fn.results = #[.cell p 34]) (tmps : Array Value) (w : World) (g : Nat) {n : Nt} (hp : tmps.getD p undef = ptr g 0) (H : LocN g n w) : (results fn tmps).run Try.prog w = .ok (ntV n) w :=
  results_cell_row h tmps w g 34 (ntA n) (0, 0) _ hp H Try.underlying34 rfl (by exact inf34)
theorem write_c (a x : Nat) (w : World) : Calls Try.prog 16 #[vU a, v32 x] w fun e w' => e = .returned (ntV ⟨1, 0, a, x⟩) ∧ Below w.heap.size w w' := by
  go_enter Try.func16, Try.ntmps16
  go_wp2
  refine bodyPost_ret (v := ntV ⟨1, 0, a, x⟩) (back34 rfl _ _ w.heap.size rfl (LocN.new w ⟨1, 0, a, x⟩)) rfl ⟨rfl, below_alloc _ _⟩
theorem ic_c (a : Nat) (w : World) : Calls Try.prog 15 #[vU a] w fun e w' => e = .returned (ntV ⟨2, 0, a, 0⟩) ∧ Below w.heap.size w w' := by
  go_enter Try.func15, Try.ntmps15
  go_wp2
  refine bodyPost_ret (v := ntV ⟨2, 0, a, 0⟩) (back34 rfl _ _ w.heap.size rfl (LocN.new w ⟨2, 0, a, 0⟩)) rfl ⟨rfl, below_alloc _ _⟩
theorem isb_c (c : Int) (w : World) : Calls Try.prog 17 #[vI c] w fun e w' => e = .returned (ntV ⟨4, c, 0, 0⟩) ∧ Below w.heap.size w w' := by
  go_enter Try.func17, Try.ntmps17
  go_wp2
  refine bodyPost_ret (v := ntV ⟨4, c, 0, 0⟩) (back34 rfl _ _ w.heap.size rfl (LocN.new w ⟨4, c, 0, 0⟩)) rfl ⟨rfl, below_alloc _ _⟩
theorem in_c {w : World} {v : Value} {l : List Nat} (H : Wds w v l) (x : Nat) : Calls Try.prog 18 #[v, v32 x] w fun e w' => e = .returned (.bool (l.contains x)) ∧ w' = w := by
  obtain ⟨ao, cap, ev⟩ := H.len
  subst ev
  have hmax := H.max
  go_enter Try.func18, Try.ntmps18
  go_wp2
  go_loopw [5] (fun s5 wr => wr = w ∧ ∃ k : Nat, k ≤ l.length ∧ s5 = vI k ∧ (l.take k).contains x = false) (fun s5 _ => ((l.length : Int) - intOf s5).toNat)
  case atStart => exact ⟨rfl, 0, Nat.zero_le _, rfl, by simp⟩
  case round =>
    obtain ⟨rfl, k, hk, rfl, hno⟩ := hrel
    by_cases hlt : (k : Int) < l.length
    · have hkl : k < l.length := by omega
      obtain ⟨y, hy⟩ : ∃ y, l[k]? = some y := ⟨l[k], List.getElem?_eq_getElem hkl⟩
      obtain ⟨g, off, cap', ev', hg, hc⟩ := H.cell (by omega)
      cases ev'
      have hcy := hc k y hy
      clear hc H
      by_cases he : y = x
      · subst he
        have hin : l.contains y = true := by simpa using List.mem_of_getElem? hy
        go_wp2
        go_ret
        exact ⟨by rw [hin]; rfl, rfl⟩
      · have hne : ((y : Int) == (x : Int)) = false := beq_eq_false_iff_ne.2 (by omega)
        go_wp2
        go_roundw
        case rel =>
          refine ⟨trivial, k + 1, by omega, by simp, ?_⟩
          rw [List.take_add_one, hy]
          have h1 : x ∉ l.take k := by simpa using hno
          simp [h1, Ne.symm he]
        case measure => simp [intOf]; omega
    · have e : k = l.length := by omega
      subst e
      rw [List.take_length] at hno
      go_wp2
      go_ret
      exact ⟨by first | (rw [hno]; rfl) | (have hq : decide (x ∈ l) = false := (by simpa using hno); rw [hq]; rfl), rfl⟩

theorem same_c {w : World} {v u : Value} {l m : List Nat} (H : Wds w v l) (K : Wds w u m) : Calls Try.prog 11 #[v, u] w fun e w' => e = .returned (.bool (decide (l = m))) ∧ Below w.heap.size w w' := by
  obtain ⟨ao, cap, ev⟩ := H.len
  subst ev
  obtain ⟨bo, cbp, ev⟩ := K.len
  subst ev
  have hmax := H.max
  have hmax2 := K.max
  by_cases hlen : l.length = m.length
  · have hlen' : ((l.length : Int) != (m.length : Int)) = false := by simp [hlen]
    go_enter Try.func11, Try.ntmps11
    replace hlen : Hid (l.length = m.length) := hlen
    go_wp2
    go_loopw [5] (fun s5 wr => Below w.heap.size w wr ∧ ∃ k : Nat, k ≤ l.length ∧ s5 = vI k ∧ l.take k = m.take k) (fun s5 _ => ((l.length : Int) - intOf s5).toNat)
    case atStart => exact ⟨Below.refl _ _, 0, Nat.zero_le _, rfl, by simp⟩
    case round =>
      obtain ⟨hB, k, hk, rfl, hno⟩ := hrel
      by_cases hlt : (k : Int) < l.length
      · have hkl : k < l.length := by omega
        have hkm : k < m.length := by have := hlen.out; omega
        have hkm' : (k : Int) < m.length := by omega
        obtain ⟨y, hy⟩ : ∃ y, l[k]? = some y := ⟨l[k], List.getElem?_eq_getElem hkl⟩
        obtain ⟨z, hz⟩ : ∃ z, m[k]? = some z := ⟨m[k], List.getElem?_eq_getElem hkm⟩
        obtain ⟨g, off, cap', ev', hg, hc⟩ := H.cell (by omega)
        cases ev'
        obtain ⟨g2, off2, cap2, ev2, hg2, hc2⟩ := K.cell (by omega)
        cases ev2
        have hcy := hc k y hy
        have hcz := hc2 k z hz
        clear hc H hc2 K
        go_upto_region 6 with fail
        have hst : (fun (_ : Nat) (w2 : World) => Below w.heap.size w w2) 0 _ := hB.trans ((Rel.below_draws (n := 1) (Below.refl _ _)).mono hB.size)
        refine Chn.wp_region_chainL (fun (_ : Nat) (w2 : World) => Below w.heap.size w w2) [] [0, 0, 0, 0, 0, 0, 0, 0, 0] [.slice (some ⟨g, off, none⟩) l.length cap, vI k, ptr g (off + k), v32 y, .slice (some ⟨g2, off2, none⟩) m.length cbp, vI k, ptr g2 (off2 + k), v32 z, .bool ((y : Int) != (z : Int))] (by kernel_rfl) (by kernel_rfl) (by kernel_rfl) (by kernel_rfl) (by kernel_rfl) hst ?_
        clear hst
        refine ⟨fun j w1 hj hC => by exact Chn.upon_pure hC (fun F hF => by (go_simp <;> exact hF)), ?_⟩
        simp only [Act.put, List.setIfInBounds_toArray, List.set_cons_succ, List.set_cons_zero]
        refine ⟨fun j w1 hj hC => by exact Chn.upon_pure hC (fun F hF => by (go_simp <;> exact hF)), ?_⟩
        simp only [Act.put, List.setIfInBounds_toArray, List.set_cons_succ, List.set_cons_zero]
        refine ⟨fun j w1 hj hC => by exact Chn.upon_pure hC (fun F hF => by (go_simp <;> exact hF)), ?_⟩
        simp only [Act.put, List.setIfInBounds_toArray, List.set_cons_succ, List.set_cons_zero]
        refine ⟨fun j w1 hj hC => by
          have z := (hC.cell (p := ⟨g, off + k, none⟩) hg).trans hcy
          exact Chn.upon_pure hC (fun F hF => by (go_simp <;> exact hF)), ?_⟩
        simp only [Act.put, List.setIfInBounds_toArray, List.set_cons_succ, List.set_cons_zero]
        refine ⟨fun j w1 hj hC => by exact Chn.upon_pure hC (fun F hF => by (go_simp <;> exact hF)), ?_⟩
        simp only [Act.put, List.setIfInBounds_toArray, List.set_cons_succ, List.set_cons_zero]
        refine ⟨fun j w1 hj hC => by exact Chn.upon_pure hC (fun F hF => by (go_simp <;> exact hF)), ?_⟩
        simp only [Act.put, List.setIfInBounds_toArray, List.set_cons_succ, List.set_cons_zero]
        refine ⟨fun j w1 hj hC => by exact Chn.upon_pure hC (fun F hF => by (go_simp <;> exact hF)), ?_⟩
        simp only [Act.put, List.setIfInBounds_toArray, List.set_cons_succ, List.set_cons_zero]
        refine ⟨fun j w1 hj hC => by
          have z := (hC.cell (p := ⟨g2, off2 + k, none⟩) hg2).trans hcz
          exact Chn.upon_pure hC (fun F hF => by (go_simp <;> exact hF)), ?_⟩
        simp only [Act.put, List.setIfInBounds_toArray, List.set_cons_succ, List.set_cons_zero]
        refine ⟨fun j w1 hj hC => by exact Chn.upon_pure hC (fun F hF => by (go_simp <;> exact hF)), ?_⟩
        simp only [Act.put, List.setIfInBounds_toArray, List.set_cons_succ, List.set_cons_zero]
        intro w5 hC

        by_cases he : y = z
        · subst he
          go_wp2
          go_roundw
          case rel => exact ⟨hC, k + 1, by omega, by simp, by rw [List.take_add_one, List.take_add_one, hy, hz, hno]⟩
          case measure => simp [intOf]; omega
        · have hne : ((y : Int) != (z : Int)) = true := bne_iff_ne.2 (by omega)
          have hf : decide (l = m) = false := decide_eq_false (fun e => he (by rw [e, hz] at hy; exact (Option.some.inj hy).symm))
          go_wp2
          go_ret
          exact ⟨by rw [hf]; rfl, hC⟩
      · have e : k = l.length := by omega
        subst e
        have ht : decide (l = m) = true := by
          rw [List.take_length] at hno
          have := hlen.out
          rw [this, List.take_length] at hno
          exact decide_eq_true hno
        go_wp2
        go_ret
        exact ⟨by first | (rw [ht]; rfl) | rfl, hB⟩
  · have hf : decide (l = m) = false := decide_eq_false (fun e => hlen (by rw [e]))
    have hlen' : ((l.length : Int) != (m.length : Int)) = true := bne_iff_ne.2 (by omega)
    go_enter Try.func11, Try.ntmps11
    go_wp2
    go_ret
    exact ⟨by rw [hf]; rfl, Below.refl _ _⟩
theorem ex1_c (a : Nat) (w : World) : Calls Try.prog 20 #[vU a] w fun e w' => e = .returned (v32 7) ∧ w' = w := by
  go_enter Try.func20, Try.ntmps20
  go_wp2
  go_ret
  exact ⟨rfl, rfl⟩
end Go.Proofs.Ytbdmemjenpnjgaa
