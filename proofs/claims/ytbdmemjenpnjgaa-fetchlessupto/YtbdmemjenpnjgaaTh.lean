/- those: the closure that is ranged over. -/
import Derived.Test.YtbdmemjenpnjgaaPz
import Derived.Test.YtbdmemjenpnjgaaRh
namespace Go.Proofs.Ytbdmemjenpnjgaa
open Go.RowKit
set_option linter.unusedVariables false
set_option linter.unusedSimpArgs false
set_option maxRecDepth 8000

open Go.Shelf
attribute [local go_sem] Oper.semAt_some
/-- A note in memory. -/
structure NtAt (w : World) (p : Addr) (n : Nt) : Prop where
  lt : p.block < w.heap.size
  c0 : w.cell? p = some (vI n.kind)
  c1 : w.cell? ⟨p.block, p.off + 1, none⟩ = some (vI n.core)
  c2 : w.cell? ⟨p.block, p.off + 2, none⟩ = some (vU n.addr)
  c3 : w.cell? ⟨p.block, p.off + 3, none⟩ = some (v32 n.word)
theorem NtAt.keep {w w' : World} {p : Addr} {n : Nt} (h : NtAt w p n) (hs : w.heap.size ≤ w'.heap.size) (hb : w'.heap[p.block]? = w.heap[p.block]?) : NtAt w' p n := by
  have e : ∀ q : Addr, q.block = p.block → w'.cell? q = w.cell? q := fun q hq => by unfold World.cell?; rw [hq, hb]
  exact ⟨Nat.lt_of_lt_of_le h.lt hs, (e _ rfl).trans h.c0, (e ⟨p.block, p.off + 1, none⟩ rfl).trans h.c1, (e ⟨p.block, p.off + 2, none⟩ rfl).trans h.c2, (e ⟨p.block, p.off + 3, none⟩ rfl).trans h.c3⟩
/-- A slice of notes. -/
structure Nts (w : World) (v : Value) (tr : List Nt) : Prop where
  len : ∃ ao cap, v = .slice ao tr.length cap
  max : tr.length ≤ 4398046511104
  cell : 0 < tr.length → ∃ (ra : Addr) (cap : Nat), v = .slice (some ra) tr.length cap ∧ ∀ i n, tr[i]? = some n → NtAt w (ra.add (i * 4)) n
theorem Nts.keep {w w' : World} {v : Value} {tr : List Nt} (h : Nts w v tr) (hs : w.heap.size ≤ w'.heap.size) (hb : ∀ b, (∃ ra len cap i, v = .slice (some ra) len cap ∧ b = (ra.add i).block) → w'.heap[b]? = w.heap[b]?) : Nts w' v tr :=
  ⟨h.len, h.max, fun h0 => by
    obtain ⟨ra, cap, e, hc⟩ := h.cell h0
    exact ⟨ra, cap, e, fun i n hn => (hc i n hn).keep hs (hb _ ⟨ra, _, cap, i * 4, e, rfl⟩)⟩⟩
theorem Nts.low {w w' : World} {v : Value} {tr : List Nt} (h : Nts w v tr) (hs : w.heap.size ≤ w'.heap.size) (hb : ∀ b, b < w.heap.size → w'.heap[b]? = w.heap[b]?) : Nts w' v tr :=
  ⟨h.len, h.max, fun h0 => by
    obtain ⟨ra, cap, e, hc⟩ := h.cell h0
    exact ⟨ra, cap, e, fun i n hn => (hc i n hn).keep hs (hb _ (hc i n hn).lt)⟩⟩
theorem Nts.grow {w w' : World} {v : Value} {tr : List Nt} (h : Nts w v tr) (hb : Below w.heap.size w w') : Nts w' v tr := h.low hb.size fun b hb' => hb.block b hb'
theorem run_load34 {w : World} {p : Addr} {n : Nt} (A : NtAt w p n) : (loadVar 34 p).run Try.prog w = .ok (ntV n) w := by
  have h1 := run_loadCells_list (P := Try.prog) w p (ntA n).toList (fun j v hv => by
    match j, hv with
    | 0, hv => cases hv; exact A.c0
    | 1, hv => cases hv; exact A.c1
    | 2, hv => cases hv; exact A.c2
    | 3, hv => cases hv; exact A.c3
    | j + 4, hv => simp [ntA] at hv)
  have hi : (Try.prog.info? 34).map (·.size) = some 4 := by kernel_rfl
  have hagg : (isAgg 34).run Try.prog w = .ok true w := by
    unfold isAgg
    rw [Sem.run_bind, run_underlying Try.underlying34 w]
    rfl
  cases hq : Try.prog.info? 34 with
  | none => simp [hq] at hi
  | some i =>
    have hs : i.size = 4 := by simpa [hq] using hi
    have h1 : (loadCells p 4).run Try.prog w = _ := h1
    simp [loadVar, Sem.run_bind, hagg, sizeOf, typeInfo, hq, hs, h1]
theorem LocN.at_ {t : Nat} {n : Nt} {w : World} (h : LocN t n w) : NtAt w ⟨t, 0, none⟩ n := ⟨h.lt, h.c0, h.c1, h.c2, h.c3⟩
set_option maxHeartbeats 1000000 in
theorem those_in {tr : List Nt} {v : Value} {b1 b2 hf : Nat} {fr : Array Value} (eh : ∀ args w, (callFunc hf args).run Try.prog w = .ok (.enter hf args) w)
    (B : Nat) (I H Ix : Nat → World → Prop) (hb : Nat → Bool)
    (hT : ∀ k W, I k W → Boxed W b1 22 v ∧ Boxed W b2 59 (.func (.func hf) #[] fr) ∧ Nts W v tr)
    (hIg : ∀ k W W', I k W → Below W.heap.size W W' → I k W')
    (hH : ∀ k n t W, tr[k]? = some n → I k W → LocN t n W → Calls Try.prog hf (#[ntV n] ++ fr) W fun e W' => e = .returned (.bool (hb k)) ∧ (hb k = true → H k W') ∧ (hb k = false → I (k + 1) W') ∧ LocN t n W' ∧ KeepsFrom B W W')
    (l : Nat) (X Y : World → Prop) (W : World) (hX : ∀ W1 W2, X W1 → KeepsFrom B W1 W2 → X W2)
    (hY : ∀ k W1, H k W1 → X W1 → YieldAt Fence.wide 7 Try.prog l #[.int .i64 (k : Int), ntV (tr.getD k ⟨0, 0, 0, 0⟩)] W1 fun e W' => (e = .returned (.bool true) ∧ I (k + 1) W' ∧ X W') ∨ (e = .returned (.bool false) ∧ Ix k W' ∧ Y W')) (h0 : I 0 W) (hx : X W) :
    CallsIn Fence.wide 8 Try.prog 35 (#[.func (.yield l) #[] #[]] ++ #[ptr b1 0, ptr b2 0]) W fun e W' => (∃ v, e = .returned v) ∧ ((∃ k, (k = tr.length ∧ I k W') ∧ X W') ∨ ∃ k, Ix k W' ∧ Y W') := by
  obtain ⟨ao, cap, ev⟩ := (hT 0 W h0).2.2.len
  have hmax := (hT 0 W h0).2.2.max
  have z1 := (hT 0 W h0).1.cell
  refine callsIn_of_wp Try.func35 rfl trivial ?_ rfl
  simp only [Try.ntmps35, List.size_toArray, List.length_cons, List.length_nil, Nat.reduceAdd, Nat.reduceSub, Array.replicate_succ, Array.replicate_zero, List.push_toArray, List.append_toArray, List.nil_append, List.cons_append]
  rw [ev] at z1
  gi_wp2
  gi_loopw [8] (fun s8 wr => ∃ k : Nat, k ≤ tr.length ∧ s8 = vI k ∧ I k wr ∧ X wr) (fun s8 _ => ((tr.length : Int) - intOf s8).toNat)
  case atStart => exact ⟨0, Nat.zero_le _, rfl, h0, hx⟩
  case round =>
    obtain ⟨k, hk, rfl, hIk, hXk⟩ := hrel
    by_cases hlt : (k : Int) < tr.length
    · have hkl : k < tr.length := by omega
      obtain ⟨n, hn⟩ : ∃ n, tr[k]? = some n := ⟨tr[k], List.getElem?_eq_getElem hkl⟩
      obtain ⟨ra, cap', ev', hc⟩ := (hT k wr hIk).2.2.cell (by omega)
      rw [ev] at ev'
      cases ev'
      obtain ⟨_, c0, c1, c2, c3⟩ := hc k n hn
      clear hc
      clear z1 hx h0
      have z2 := ((hT k wr hIk).2.1.alloc (.cells (ntA n) 34)).cell
      gi_wp2
      refine ⟨trivial, ?_⟩
      have IK := hIg k wr _ hIk (below_alloc wr (.cells (ntA n) 34))
      have XK := hX wr _ hXk ((KeepsOthers.alloc wr (.cells (ntA n) 34)).from B)
      refine (callsIn_wide.2 (hH k n wr.heap.size _ hn IK (LocN.new wr n))).mono ?_
      rintro e W2 ⟨rfl, q1, q2, q3, q4⟩
      dsimp only
      replace XK := hX _ W2 XK q4
      clear hH z2 c0 c1 c2 c3 IK hIk hXk
      cases hbk : hb k with
      | false =>
        replace q2 := q2 hbk
        clear q1 hY
        gi_wp2
        refine ⟨fun _ _ => trivial, ?_⟩
        gi_wp2
        go_roundw
        case rel => exact ⟨k + 1, by omega, by simp, q2, XK⟩
        case measure => simp [intOf]; omega
      | true =>
        replace q1 := q1 hbk
        obtain ⟨fn, tmps, assign, body, hy, hR⟩ := hY k W2 q1 XK
        have hgd : tr.getD k ⟨0, 0, 0, 0⟩ = n := by simp [List.getD, hn]
        rw [hgd] at hy
        clear hgd
        have d0 := q3.c0
        have d1 := q3.c1
        have d2 := q3.c2
        have d3 := q3.c3
        clear hY q2
        gi_wp2
        refine hR.mono ?_
        rintro e W3 (⟨rfl, hI3, hX3⟩ | ⟨rfl, hI3, hY3⟩)
        · dsimp only
          clear hR XK q1 q3 hy d0 d1 d2 d3
          gi_wp2
          go_roundw
          case rel => exact ⟨k + 1, by omega, by simp, hI3, hX3⟩
          case measure => simp [intOf]; omega
        · dsimp only
          clear hR XK q1 q3 hy d0 d1 d2 d3
          gi_wp2
          exact bodyPost_ret (results_none rfl _ _ _) rfl ⟨⟨_, rfl⟩, .inr ⟨k, hI3, hY3⟩⟩
    · have e : k = tr.length := by omega
      subst e
      gi_wp2
      go_end0
      exact ⟨⟨_, rfl⟩, .inl ⟨hIk, hXk⟩⟩
end Go.Proofs.Ytbdmemjenpnjgaa
