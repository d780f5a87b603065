/- The bus: ranks, routes, the console. -/
import Derived.Test.YteklkololojamaaGreatBd
namespace Go.Proofs.YteklkololojamaaGreat
open Go.RowKit
set_option linter.unusedVariables false
set_option linter.unusedSimpArgs false
set_option maxRecDepth 8000

theorem and_mask (v k : Nat) (hv : v < 2 ^ 64) (hk : k ≤ 32) : bits BinOp.and IntKind.u64 (v : Int) ((2 ^ k - 1 : Nat) : Int) = ((v % 2 ^ k : Nat) : Int) := by
  have hp : 2 ^ k ≤ 2 ^ 32 := Nat.pow_le_pow_right (by decide) hk
  rw [Bit.and_bit hv (by omega), Nat.and_two_pow_sub_one_eq_mod]
theorem and8 (v : Nat) (hv : v < 2 ^ 64) : bits BinOp.and IntKind.u64 (v : Int) 255 = ((v % 256 : Nat) : Int) := and_mask v 8 hv (by decide)
theorem and24 (v : Nat) (hv : v < 2 ^ 64) : bits BinOp.and IntKind.u64 (v : Int) 16777215 = ((v % 16777216 : Nat) : Int) := and_mask v 24 hv (by decide)
theorem and16 (v : Nat) (hv : v < 2 ^ 64) : bits BinOp.and IntKind.u64 (v : Int) 65535 = ((v % 65536 : Nat) : Int) := and_mask v 16 hv (by decide)
theorem and15 (v : Nat) (hv : v < 2 ^ 64) : bits BinOp.and IntKind.u64 (v : Int) 15 = ((v % 16 : Nat) : Int) := and_mask v 4 hv (by decide)
theorem conv_i (m : Nat) (h : m < 2 ^ 62) : wrap64 (m : Int) = m := IntWalk.wrap64_in _ ⟨by omega, by omega⟩
theorem infB5 : ∃ i, Tryz.prog.info? 5 = some i ∧ i.zero = some (vB 0) ∧ i.size = 1 ∧ i.bytes = 1 := by
  have h : (Tryz.prog.info? 5).map (fun i => (i.zero, i.size, i.bytes)) = some (some (vB 0), 1, 1) := by kernel_rfl
  cases hq : Tryz.prog.info? 5 with
  | none => rw [hq] at h; cases h
  | some i =>
    rw [hq] at h
    simp only [Option.map_some, Option.some.injEq, Prod.mk.injEq] at h
    exact ⟨i, rfl, h.1, h.2.1, h.2.2⟩
theorem wpList_app_byte {ops : Array Oper} {rest : List Oper} {o : Oper} {a : Act} {w : World} {Q : Exit → Act → World → Prop} (hgd : o.guard = none) (s x : Operand)
    (ho : o.op = .call { callee := .builtin .append, args := #[s, x], argTypes := #[60, 60] }) (base : Nat) (v : Value) (l : List Int) (hs : a.eval s = v) (hown : w.ownsRow base 5 1 v l.length (l.map vB)) (hbase : base ≤ w.heap.size)
    (b k c : Nat) (n : Int) (hx : a.eval x = .slice (some ⟨b, k, none⟩) 1 c) (hc : w.cell? ⟨b, k, none⟩ = some (vB n)) (hl : l.length < 1000000000)
    (h : ∀ g cap w', w'.ownsRow base 5 1 (.slice (some ⟨g, 0, none⟩) (l.length + 1) cap) (l ++ [n]).length ((l ++ [n]).map vB) → w.grownBy w' v.ownBlock → (v.ownBlock = some g ∨ g = w.heap.size) → g < w'.heap.size →
      wpList Tryz.prog ops Q rest (a.put o.dst (.slice (some ⟨g, 0, none⟩) (l.length + 1) cap)) w') : wpList Tryz.prog ops Q (o :: rest) a w := by
  obtain ⟨i, h1, h2, h3, h4⟩ := infB5
  refine wpList_append_lies w hgd s x 60 ho base 5 i (vB 0) 1 1 Tryz.underlying60 h1 h2 h3 h4 rfl (by decide) v l.length (l.map vB) hs hown ⟨b, k, none⟩ 1 c [vB n] hx rfl ?_ ?_ (by decide) (by simp only [maxLen]; omega) (by omega) hbase w.heap.size rfl ?_
  · intro j u hj
    match j with
    | 0 => simp at hj; subst hj; rw [Addr.add_mid]; exact hc
    | j + 1 => simp at hj
  · intro u hu; simp at hu; subst hu; rfl
  · intro g cap w' q1 q2 q3 q4
    refine h g cap w' ?_ q2 q3 q4
    rw [List.length_append, List.map_append]
    exact q1
def sayS (S : Bs) (v : Nat) : Bs := if S.O.length < 10000 then { S with O := S.O ++ [((v % 256 : Nat) : Int)] } else S
section
variable {b g t n : Nat} {S S' : Bs} {Y Y' : BLay} {w w' w1 w2 : World}
theorem ignoreM (H : BusAt b g t n S Y w) (core p v : Int) : Calls Tryz.prog 88 #[ptr b 0, vI core, vI p, vU v] w fun e w' => e = .returned (.tuple #[]) ∧ BT b g t n Y S w w' := by
  go_enter Tryz.func88, Tryz.ntmps88
  go_wp2
  exact bodyPost_end (results_none rfl _ _ _) rfl ⟨rfl, H.refl⟩

theorem rankM (H : BusAt b g t n S Y w) (core p : Int) : Calls Tryz.prog 89 #[ptr b 0, vI core, vI p] w fun e w' => e = .returned (vU (((lookV n S.P core p).rank) % 18446744073709551616)) ∧ Below w.heap.size w w' := by
  have c1 := H.c1
  have hcall := rate_c H.gic core p
  generalize (lookV n S.P core p).rank = z at *
  have e1 : IntKind.u64.wrap z = z % 18446744073709551616 := by rw [IntKind.wrap_u64]
  rw [← e1]
  clear e1
  go_enter Tryz.func89, Tryz.ntmps89
  go_wp2_with (first | (go_at_call 36; refine hcall.mono ?_; rintro e w1 ⟨rfl, hB⟩; dsimp only))
  go_ret
  exact ⟨rfl, hB⟩

theorem goesM (H : BusAt b g t n S Y w) (core : Int) (p : Nat) (hp : p < 32) : Calls Tryz.prog 91 #[ptr b 0, vI core, vI p] w fun e w' => e = .returned (vU (((lookV n S.P 0 (32 + (p : Int))).goes) % 18446744073709551616)) ∧ Below w.heap.size w w' := by
  have c1 := H.c1
  have hcall := goes_c H.gic (32 + (p : Int))
  generalize (lookV n S.P 0 (32 + (p : Int))).goes = z at *
  have e1 : IntKind.u64.wrap z = z % 18446744073709551616 := by rw [IntKind.wrap_u64]
  rw [← e1]
  clear e1
  have e2 : wrap64 (32 + (p : Int)) = 32 + (p : Int) := IntWalk.wrap64_in _ ⟨by omega, by omega⟩
  go_enter Tryz.func91, Tryz.ntmps91
  go_wp2_with (first | (go_at_call 117; refine hcall.mono ?_; rintro e w1 ⟨rfl, hB⟩; dsimp only))
  go_ret
  exact ⟨rfl, hB⟩

theorem limitM (H : BusAt b g t n S Y w) (core : Int) : Calls Tryz.prog 101 #[ptr b 0, vI core] w fun e w' => e = .returned (vU ((limV n S.P core) % 18446744073709551616)) ∧ Below w.heap.size w w' := by
  have c1 := H.c1
  have hcall := limit_c H.gic core
  generalize limV n S.P core = z at *
  have e1 : IntKind.u64.wrap z = z % 18446744073709551616 := by rw [IntKind.wrap_u64]
  rw [← e1]
  clear e1
  go_enter Tryz.func101, Tryz.ntmps101
  go_wp2_with (first | (go_at_call 122; refine hcall.mono ?_; rintro e w1 ⟨rfl, hB⟩; dsimp only))
  go_ret
  exact ⟨rfl, hB⟩

theorem setRankM (H : BusAt b g t n S Y w) (core p : Int) (v : Nat) (hv : v < 2 ^ 64) : Calls Tryz.prog 90 #[ptr b 0, vI core, vI p, vU v] w fun e w' => e = .returned (.tuple #[]) ∧ BT b g t n Y { S with P := grankP n S.P core p (v % 256 : Nat) } w w' := by
  have c1 := H.c1
  have e1 := and8 v hv
  have e2 := conv_i (v % 256) (by omega)
  have hcall := grank_c H.gic core p (v % 256 : Nat)
  generalize ((v % 256 : Nat) : Int) = z at *
  generalize (v : Int) = x at *
  generalize (if grankE n core p z = true then (1 : Int) else 0) = E at hcall
  go_enter Tryz.func90, Tryz.ntmps90
  go_wp2_with (first | (go_at_call 116; refine hcall.mono ?_; rintro e w1 ⟨rfl, hT⟩; dsimp only))
  exact bodyPost_end (results_none rfl _ _ _) rfl ⟨rfl, H.gicT hT.gtl⟩
def routeS (n : Nat) (S : Bs) (p : Nat) (v : Nat) : Bs := if v < n then { S with P := grouteP n S.P (32 + (p : Int)) v } else S
theorem routeM (H : BusAt b g t n S Y w) (core : Int) (p : Nat) (hp : p < 32) (v : Nat) (hv : v < 2 ^ 64) : Calls Tryz.prog 92 #[ptr b 0, vI core, vI p, vU v] w fun e w' => e = .returned (.tuple #[]) ∧ BT b g t n Y (routeS n S p v) w w' := by
  have c0 := H.c0
  have c1 := H.c1
  have hn := H.gic.le8
  have e0 : IntKind.u64.wrap (n : Int) = n := by rw [IntKind.wrap_u64]; omega
  unfold routeS
  by_cases h : v < n
  · rw [if_pos h]
    have h' : (v : Int) < n := by omega
    have e1 : wrap64 (v : Int) = v := IntWalk.wrap64_in _ ⟨by omega, by omega⟩
    have e2 : wrap64 (32 + (p : Int)) = 32 + (p : Int) := IntWalk.wrap64_in _ ⟨by omega, by omega⟩
    have hcall := groute_c H.gic (32 + (p : Int)) v
    generalize (v : Int) = x at *
    generalize (if grouteE n (32 + (p : Int)) x = true then (1 : Int) else 0) = E at hcall
    go_enter Tryz.func92, Tryz.ntmps92
    go_wp2_with (first | (go_at_call 118; refine hcall.mono ?_; rintro e w1 ⟨rfl, hT⟩; dsimp only))
    exact bodyPost_end (results_none rfl _ _ _) rfl ⟨rfl, H.gicT hT.gtl⟩
  · rw [if_neg h]
    have h' : ¬ (v : Int) < n := by omega
    generalize (v : Int) = x at *
    go_enter Tryz.func92, Tryz.ntmps92
    go_wp2
    exact bodyPost_end (results_none rfl _ _ _) rfl ⟨rfl, H.refl⟩
theorem BusAt.told (H : BusAt b g t n S Y w) {ao : Option Addr} {cap : Nat} (ev : Y.ov = .slice ao S.O.length cap) {x : Int} (hx : 0 ≤ x ∧ x < 256) (hl : S.O.length < 10000) (o : Obj) (gb cp : Nat) (w8 : World) (q1 : w8.ownsRow 0 5 1 (.slice (some ⟨gb, 0, none⟩) (S.O.length + 1) cp) (S.O ++ [x]).length ((S.O ++ [x]).map vB))
    (q2 : (w.alloc o).grownBy w8 (Value.slice ao S.O.length cap).ownBlock) (q3 : (Value.slice ao S.O.length cap).ownBlock = some gb ∨ gb = (w.alloc o).heap.size) :
    w8.cell? ⟨b, 3, none⟩ = some Y.ov ∧ w8.frozen? ⟨b, 3, none⟩ = false ∧ BT b g t n Y { S with O := S.O ++ [x] } w (w8.setCell ⟨b, 3, none⟩ (.slice (some ⟨gb, 0, none⟩) (S.O.length + 1) cp)) := by
  have G : Goes (fun k => Y.ov.ownBlock = some k) w w8 := (goes_of_below (below_alloc w o)).trans (goes_grown q2 fun k hk => by rw [ev]; exact hk) fun _ _ e => e
  have t8 : w8.heap[b]? = some (.cells #[vI n, ptr g 0, ptr t 0, Y.ov] 74) := by
    rw [G.block b (lt_of_some H.top) fun h => ?_]
    · exact H.top
    · obtain ⟨D, hD⟩ := H.outBlock h
      exact ne_of_type hD H.top (by decide) rfl
  refine ⟨by rw [cell_of_row _ _ _ _ _ _ t8]; rfl, frozen_of_row _ _ _ _ _ t8, H.outT hx hl G q1 fun k hk => ?_⟩
  cases hk
  rcases q3 with h | h
  · exact .inl (by rw [ev]; exact h)
  · exact .inr (by rw [h]; exact (below_alloc w o).size)
theorem sayM (H : BusAt b g t n S Y w) (core p : Int) (v : Nat) (hv : v < 2 ^ 64) : Calls Tryz.prog 94 #[ptr b 0, vI core, vI p, vU v] w fun e w' => e = .returned (.tuple #[]) ∧ BT b g t n Y (sayS S v) w w' := by
  have c3 := H.c3
  have f3 := H.f 3
  have hl := H.len
  obtain ⟨ao, cap, ev⟩ := H.ovs
  have hout := H.out
  unfold sayS
  by_cases h : S.O.length < 10000
  · rw [if_pos h]
    have h' : (S.O.length : Int) < 10000 := by omega
    have e1 : IntKind.u8.wrap (v : Int) = ((v % 256 : Nat) : Int) := by rw [IntKind.wrap_u8]; omega
    have hx : (0 : Int) ≤ ((v % 256 : Nat) : Int) ∧ ((v % 256 : Nat) : Int) < 256 := by omega
    generalize ((v % 256 : Nat) : Int) = x at *
    generalize (v : Int) = y at *
    have hT := fun gb cp w8 => H.told ev hx h (.cells #[vB x] 5) gb cp w8
    rw [ev] at c3 hout
    have ho1 : (w.alloc (.cells #[vB x] 5)).ownsRow 0 5 1 (.slice ao S.O.length cap) S.O.length (S.O.map vB) := own_of_block hout fun k hk => (below_alloc w _).block k (hout.lt k hk).2
    have hc1 : (w.alloc (.cells #[vB x] 5)).cell? ⟨w.heap.size, 0, none⟩ = some (vB x) := by rw [cell_of_row _ _ _ _ _ _ (heap_alloc_new _ _)]; rfl
    have hlen : S.O.length < 1000000000 := by omega
    replace ho1 := show Hid _ from ho1
    replace hc1 := show Hid _ from hc1
    replace hT := show Hid _ from hT
    replace hlen := show Hid _ from hlen
    clear hl h hout ev hx
    go_enter Tryz.func94, Tryz.ntmps94
    go_upto_region 1 with fail
    go_wp2_with (first | (refine wpList_app_byte rfl _ _ rfl 0 (.slice ao S.O.length cap) S.O rfl ho1.out (Nat.zero_le _) w.heap.size 0 1 x rfl hc1.out hlen.out ?_; intro gb cp w8 q1 q2 q3 q4; obtain ⟨c8, f8, hT1⟩ := hT.out gb cp w8 q1 q2 q3; replace hT1 := show Hid _ from hT1; clear q1 q2 q3 q4 c3 f3 hT ho1; simp only [Act.put, List.setIfInBounds_toArray, List.set_cons_succ, List.set_cons_zero]))
    exact bodyPost_end (results_none rfl _ _ _) rfl ⟨rfl, hT1.out⟩
  · rw [if_neg h]
    have h' : ¬ (S.O.length : Int) < 10000 := by omega
    rw [ev] at c3
    go_enter Tryz.func94, Tryz.ntmps94
    go_wp2
    exact bodyPost_end (results_none rfl _ _ _) rfl ⟨rfl, H.refl⟩
end
end Go.Proofs.YteklkololojamaaGreat
