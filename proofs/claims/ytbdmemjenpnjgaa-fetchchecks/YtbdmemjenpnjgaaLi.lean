/- FetchChecks: the walk. -/
import Derived.Test.YtbdmemjenpnjgaaRd
import Derived.Test.YtbdmemjenpnjgaaLd
namespace Go.Proofs.Ytbdmemjenpnjgaa
open Go.RowKit
set_option linter.unusedVariables false
set_option linter.unusedSimpArgs false
set_option maxRecDepth 8000

open Go.Shelf Go.Maps
def gN (a b x : Nat) : Nat := (a + b * (x / 4 % 4294967296) % 4294967296) % 4294967296
theorem gN_lt (a b x : Nat) : gN a b x < 4294967296 := Nat.mod_lt _ (by decide)
theorem first_c (b1 b2 a b : Nat) (w : World) (x1 : Boxed w b1 24 (v32 a)) (x2 : Boxed w b2 24 (v32 b)) : First w 12 #[ptr b1 0, ptr b2 0] (gN a b) :=
  ⟨enters_of Try.func12 (by kernel_rfl) rfl, fun W hW x hx => by
    have c1 := (boxed_grow x1 hW).cell
    have c2 := (boxed_grow x2 hW).cell
    go_enter Try.func12, Try.ntmps12
    go_wp2
    go_ret
    refine ⟨?_, Below.refl _ _⟩
    have e : ((gN a b x : Nat) : Int) = ((a : Int) + (b : Int) * ((x : Int) / 4 % 4294967296) % 4294967296) % 4294967296 := by
      unfold gN
      rw [Int.natCast_emod, Int.natCast_add, Int.natCast_emod, Int.natCast_mul, Int.natCast_emod, Int.natCast_ediv]
      rfl
    rw [e]
    rfl, gN_lt a b⟩
theorem frst_next {tr : List Nt} {g : Nat → Nat} {k : Nat} {n : Nt} (hn : tr[k]? = some n) : frst (tr.take (k + 1)) g = frst (tr.take k) g ++ [g n.addr] := by
  unfold frst
  rw [List.take_add_one, hn]
  simp
set_option maxHeartbeats 2000000 in
theorem checks_walk {tr : List Nt} {v0 : Value} {a b : Nat} {w : World} (N : Nts w v0 tr) (ok : TrOk tr) (hcap : ∀ ao n cap, v0 = .slice ao n cap → n ≤ cap) (ha : a < 4294967296) (hb : b < 4294967296) : Calls Try.prog 4 #[v0, v32 a, v32 b] w fun e w' => e = .returned (.bool true) ∧ Below w.heap.size w w' := by
  have hmf : ∀ (fn : Fn) (first cap : Array Value) (w : World), (Instr.makeFunc fn first cap).run Try.prog w = .ok (.func fn first cap) w := fun _ _ _ _ => rfl
  obtain ⟨i0, hi, hz0, hz1, hz2⟩ := info_parts info24
  have hmax := N.max
  obtain ⟨ao, cap, ev⟩ := N.len
  subst ev
  have B1 := below_alloc w (.cells #[v32 a] 24)
  have p1 := Boxed.new w 24 (v32 a)
  have B2 := below_then B1 (Nat.le_refl _) (below_alloc (w.alloc (.cells #[v32 a] 24)) (.cells #[v32 b] 24))
  have p2 := p1.alloc (.cells #[v32 b] 24)
  have q2 := Boxed.new (w.alloc (.cells #[v32 a] 24)) 24 (v32 b)
  rw [World.size_alloc] at q2
  go_enter Try.func4, Try.ntmps4
  go_upto_region 1 with fail
  generalize (w.alloc (Obj.cells #[Value.int IntKind.u32 a] 24)).alloc (Obj.cells #[Value.int IntKind.u32 b] 24) = w2 at *
  clear p1 B1
  have ke := examples_c w2
  go_upto_region 3 with (go_at_call 8; (with_reducible refine ke.mono ?_); clear ke; rintro e w3 ⟨rfl, B3⟩; dsimp only)
  have x3 := boxed_grow p2 B3
  have y3 := boxed_grow q2 B3
  have low3 := below_then B2 (Nat.le_refl _) B3
  have kc := check_c (first_c w.heap.size (w.heap.size + 1) a b w3 x3 y3) (N.grow low3) ok
  obtain ⟨R, hR⟩ : ∃ R, rightL tr = R := ⟨_, rfl⟩
  rw [hR] at kc
  replace hR : Hid (rightL tr = R) := hR
  obtain ⟨Z, hZ⟩ : ∃ Z : Int, (if R then checkL tr (gN a b) else 0) = Z := ⟨_, rfl⟩
  rw [hZ] at kc
  replace hZ : Hid ((if R then checkL tr (gN a b) else 0) = Z) := hZ
  obtain ⟨E, hE⟩ : ∃ E : Int, (if R then (0 : Int) else 1) = E := ⟨_, rfl⟩
  rw [hE] at kc
  replace hE : Hid ((if R then (0 : Int) else 1) = E) := hE
  go_upto_region 4 with (go_at_call 13; (with_reducible refine kc.mono ?_); clear kc; rintro e w4 ⟨rfl, B4⟩; dsimp only)
  have x4 := boxed_grow x3 B4
  have y4 := boxed_grow y3 B4
  have low4 := below_then low3 (Nat.le_refl _) B4
  clear x3 y3 low3 B4 B3 p2 q2 B2
  obtain ⟨b1, hb1⟩ : ∃ b1, b1 = w.heap.size := ⟨_, rfl⟩
  obtain ⟨b2, hb2⟩ : ∃ b2, b2 = w.heap.size + 1 := ⟨_, rfl⟩
  rw [← hb1] at x4
  rw [← hb2] at y4
  rw [← hb2, ← hb1]
  clear hb1 hb2
  go_wp2
  go_loopw [11, 12] (fun s11 s12 wr => ∃ k : Nat, k ≤ tr.length ∧ s12 = vI k ∧ wr.ownsRow w4.heap.size 24 1 s11 (frst (tr.take k) (gN a b)).length (wrdV (frst (tr.take k) (gN a b))) ∧ Below w4.heap.size w4 wr) (fun _ s12 _ => ((tr.length : Int) - intOf s12).toNat)
  case atStart => exact ⟨0, Nat.zero_le _, rfl, World.ownsRow_nil _ _ _ _, Below.refl _ _⟩
  case round =>
    obtain ⟨k, hk, rfl, hrow, hB⟩ := hrel
    have low5 : Below w.heap.size w wr := low4.trans (hB.mono low4.size)
    by_cases hlt : (k : Int) < tr.length
    · obtain ⟨n, hn⟩ : ∃ n, tr[k]? = some n := ⟨tr[k]'(by omega), List.getElem?_eq_getElem (by omega)⟩
      have okn := ok n (List.mem_of_getElem? hn)
      obtain ⟨ra, cap', ev', hc⟩ := (N.low low5.size fun b hb => low5.block b hb).cell (by omega)
      cases ev'
      obtain ⟨_, c0, c1, c2, c3⟩ := hc k n hn
      have hnx := frst_next (g := gN a b) hn
      have hl0 : (frst (tr.take k) (gN a b)).length ≤ k := by simp [frst]; omega
      have kf : Calls Try.prog 12 #[vU n.addr, ptr b1 0, ptr b2 0] wr fun e W' => e = .returned (v32 (gN a b n.addr)) ∧ Below wr.heap.size wr W' := (first_c b1 b2 a b w4 x4 y4).call wr (hB.mono (Nat.le_refl _)) n.addr okn.addr
      obtain ⟨gv, hgv⟩ : ∃ gv, gN a b n.addr = gv := ⟨_, rfl⟩
      rw [hgv] at kf hnx
      replace hnx : Hid (_ = _) := hnx
      have hsz := hB.size
      clear hc hgv
      go_wp2_with (first
        | (go_at_call 12; (with_reducible refine kf.mono ?_); clear kf; rintro e w5 ⟨rfl, B5⟩; dsimp only; have hs5 := B5.size)
        | (at_builtin; refine wpList_append_own_at _ rfl _ _ 26 rfl w4.heap.size 24 i0 (v32 0) 1 4 Try.underlying26 hi hz0 hz1 hz2 rfl (by decide) u11 _ _ rfl ((own_grow hrow B5).alloc _) ⟨w5.heap.size, 0, none⟩ 1 1 [v32 gv] rfl rfl (cell_one_new _ _ _) (by simp [Value.oneCell']) (by simp only [maxLen]; omega) (by omega) (by simp; omega) ?_; intro v6 w6 hown6 hgrow6 _ _))
      have hg6 : w5.grownBy w6 u11.ownBlock := (World.grownBy_alloc _ _ _).trans hgrow6
      go_roundw
      case rel =>
        refine ⟨k + 1, by omega, by simp, ?_, (hB.trans (B5.mono hB.size)).trans ((goes_grown (F := fun q => u11.ownBlock = some q) hg6 (fun q hq => hq)).below (Nat.le_trans hB.size B5.size) (fun q hq => (hrow.lt q hq).1))⟩
        rw [hnx.out, List.length_append, wrdV_append]; exact hown6
      case measure => simp [intOf]; omega
    · have e : k = tr.length := by omega
      rw [e, List.take_length] at hrow
      have kd := docCheck_c (N.low low5.size fun b hb => low5.block b hb) ok hcap (gN_lt a b) (wds_of_own hrow (by simp [frst]; omega))
      rw [hR.out, hZ.out] at kd
      obtain ⟨aF, cF, eF, _⟩ := own_len hrow
      subst eF
      clear hrow e N
      cases R with
      | true =>
        have hE := hE.out
        have hE2 : E = 0 := by simpa using hE.symm
        subst hE2
        clear hE hR hZ
        go_wp2_with (go_at_call 14; (with_reducible refine kd.mono ?_); clear kd; rintro e w7 ⟨rfl, B7⟩; dsimp only)
        go_ret
        exact ⟨by simp, below_then low5 (Nat.le_refl _) B7⟩
      | false =>
        have hE := hE.out
        have hE2 : E = 1 := by simpa using hE.symm
        subst hE2
        clear hE hR hZ
        go_wp2_with (go_at_call 14; (with_reducible refine kd.mono ?_); clear kd; rintro e w7 ⟨rfl, B7⟩; dsimp only)
        go_ret
        exact ⟨by simp, below_then low5 (Nat.le_refl _) B7⟩
end Go.Proofs.Ytbdmemjenpnjgaa
