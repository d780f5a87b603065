/- New. -/
import Derived.Test.YteklkololojamaaGreatQw
import Derived.Laws.MakeOwn
namespace Go.Proofs.YteklkololojamaaGreat
open Go.RowKit
set_option linter.unusedVariables false
set_option linter.unusedSimpArgs false
set_option maxRecDepth 8000

def s160 : Src := ⟨false, false, false, false, 160, 0⟩
def newP : Pg := ⟨fun _ _ => s160, fun _ => 255, fun _ => []⟩
/-- Behind i cores. -/
def PN (i : Nat) : Pg := ⟨fun r _ => if r < i then s160 else nilS, fun c => if c < i then 255 else 0, fun _ => []⟩
def zsrc : List Value := (List.replicate 32 nilS.row).flatten
def zW : List Value := vI 0 :: (zsrc ++ [.slice none 0 0])
theorem zsrc_get : ∀ (m k j : Nat), k < m → j < 6 → ((List.replicate m nilS.row).flatten)[k * 6 + j]? = nilS.row[j]?
  | 0, k, j, hk, hj => by omega
  | m + 1, 0, j, hk, hj => by
    rw [List.replicate_succ, List.flatten_cons, Nat.zero_mul, Nat.zero_add, List.getElem?_append_left (by simpa [Src.row] using hj)]
  | m + 1, k + 1, j, hk, hj => by
    have e : nilS.row.length = 6 := rfl
    rw [List.replicate_succ, List.flatten_cons, List.getElem?_append_right (by rw [e]; omega), e, show (k + 1) * 6 + j - 6 = k * 6 + j by omega]
    exact zsrc_get m k j (by omega) hj
theorem zlen : zsrc.length = 192 := by simp [zsrc, Src.row]
theorem zW_len : zW.length = 194 := by simp [zW, zlen]
theorem zW_own {k j : Nat} (hk : k < 32) (hj : j < 6) : zW[1 + k * 6 + j]? = nilS.row[j]? := by
  rw [zW, show 1 + k * 6 + j = k * 6 + j + 1 by omega, List.getElem?_cons_succ, List.getElem?_append_left (by rw [zlen]; omega)]
  exact zsrc_get 32 k j hk hj
theorem zW_wv : zW[193]? = some (.slice none 0 0) := by
  rw [zW, List.getElem?_cons_succ, List.getElem?_append_right (by rw [zlen]; decide), zlen]
  rfl
theorem infW : ∃ i, Tryz.prog.info? 119 = some i ∧ i.zero = some (.agg zW.toArray) ∧ i.size = 194 ∧ i.bytes = 800 := by
  have h : (Tryz.prog.info? 119).map (fun i => (i.zero, i.size, i.bytes)) = some (some (.agg zW.toArray), 194, 800) := by kernel_rfl
  cases hq : Tryz.prog.info? 119 with
  | none => rw [hq] at h; cases h
  | some i =>
    rw [hq] at h
    simp only [Option.map_some, Option.some.injEq, Prod.mk.injEq] at h
    exact ⟨i, rfl, h.1, h.2.1, h.2.2⟩
theorem made_get {z : Array Value} {n j : Nat} (hz : z.size = 194) (hj : j < n) : (madeCells z n)[j]? = z[j % 194]? := by
  have hlt : j % 194 < z.size := by rw [hz]; exact Nat.mod_lt _ (by decide)
  rw [madeCells, Array.getElem?_map, Array.getElem?_range, if_pos hj, Option.map_some, hz, Array.getElem?_eq_getElem hlt, getElem!_pos z (j % 194) hlt]
theorem made_cor (n : Nat) : CorC n (PN 0) (fun _ => .slice none 0 0) (madeCells zW.toArray (n * 194)) := by
  have hz : zW.toArray.size = 194 := by simp [zW_len]
  refine ⟨size_madeCells _ _, fun c hc => ?_, fun c hc => ?_, fun c k j hc hk hj => ?_⟩
  · rw [made_get hz (by omega), show c * 194 % 194 = 0 by omega]
    rfl
  · rw [made_get hz (by omega), show (c * 194 + 193) % 194 = 193 by omega, List.getElem?_toArray]
    exact zW_wv
  · rw [made_get hz (by omega), show (c * 194 + 1 + k * 6 + j) % 194 = 1 + k * 6 + j by omega, List.getElem?_toArray, zW_own hk hj]
    rfl
theorem built64 (b n : Nat) : Tryz.prog.built 122 [(0, .slice (some ⟨b, 0, none⟩) n n)] = some (Value.slice (some ⟨b, 0, none⟩) n n :: zsrc).toArray := by kernel_rfl
theorem top64 (b n : Nat) (P : Nat → Src) (hP : ∀ k, k < 32 → P k = nilS) : TopC n b P (Value.slice (some ⟨b, 0, none⟩) n n :: zsrc).toArray := by
  refine ⟨by simp [zlen], rfl, fun k j hk hj => ?_⟩
  rw [List.getElem?_toArray, show 1 + k * 6 + j = k * 6 + j + 1 by omega, List.getElem?_cons_succ, hP k hk]
  exact zsrc_get 32 k j hk hj
theorem wpList_makeW {ops : Array Oper} {rest : List Oper} {o : Oper} {a : Act} {w : World} {Q : Exit → Act → World → Prop} (hgd : o.guard = none) (x : Operand) (ho : o.op = .makeSlice 120 x x) (n : Nat) (hx : a.eval x = vI n) (hn : n ≤ 8)
    (h : wpList Tryz.prog ops Q rest (a.put o.dst (.slice (some ⟨w.heap.size, 0, none⟩) n n)) (w.alloc (.cells (madeCells zW.toArray (n * 194)) 119))) : wpList Tryz.prog ops Q (o :: rest) a w := by
  obtain ⟨i, h1, h2, h3, h4⟩ := infW
  have hr := run_makeSlice (P := Tryz.prog) w 120 119 i (.agg zW.toArray) Tryz.underlying120 h1 h2 .i64 .i64 n n (by omega) (by omega) (by rw [h3, Int.toNat_natCast]; omega) (by rw [h4]; omega) (by omega)
  rw [Int.toNat_natCast, h3] at hr
  refine wpList_plain hgd fun K hK => ?_
  unfold Oper.wp execOp
  simp only [ho, hx, Sem.run_bind, Result.andThen_ok, hr]
  exact hK _ _ h
theorem wpList_build64 {ops : Array Oper} {rest : List Oper} {o : Oper} {a : Act} {w : World} {Q : Exit → Act → World → Prop} (hgd : o.guard = none) (x : Operand) (ho : o.op = .build 122 #[(0, x)]) (b n : Nat) (hx : a.eval x = .slice (some ⟨b, 0, none⟩) n n)
    (h : wpList Tryz.prog ops Q rest (a.put o.dst (.agg (Value.slice (some ⟨b, 0, none⟩) n n :: zsrc).toArray)) w) : wpList Tryz.prog ops Q (o :: rest) a w := by
  have hr := run_build (P := Tryz.prog) w 122 #[(0, .slice (some ⟨b, 0, none⟩) n n)] _ (built64 b n)
  refine wpList_plain hgd fun K hK => ?_
  unfold Oper.wp execOp
  simp only [ho, Sem.run_bind, List.map_toArray, List.map_cons, List.map_nil, hx, hr, Result.andThen_ok]
  exact hK _ _ h
theorem wpList_box64 {ops : Array Oper} {rest : List Oper} {o : Oper} {a : Act} {w : World} {Q : Exit → Act → World → Prop} (hgd : o.guard = none) (x : Operand) (ho : o.op = .box 122 x) (C : Array Value) (hx : a.eval x = .agg C)
    (h : wpList Tryz.prog ops Q rest (a.put o.dst (ptr w.heap.size 0)) (w.alloc (.cells C 122))) : wpList Tryz.prog ops Q (o :: rest) a w := by
  refine wpList_plain hgd fun K hK => ?_
  unfold Oper.wp execOp
  simp only [ho, hx, Instr.box, newVar, newRow, Sem.run_bind, Sem.run_pure, Result.andThen_ok, Value.cells]
  exact hK _ _ h
end Go.Proofs.YteklkololojamaaGreat
