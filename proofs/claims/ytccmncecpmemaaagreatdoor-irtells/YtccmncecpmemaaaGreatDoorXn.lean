/- Nc, Nd of the seat, joined. -/
import Derived.Test.YtccmncecpmemaaaGreatDoorXm
import Derived.Test.YtccmncecpmemaaaGreatDoorDn
import Derived.Lib.AppendStr
import Derived.Test.YtccmncecpmemaaaGreatDoorXj
import Derived.Test.YtccmncecpmemaaaGreatDoorXi
/- How the document writes a block: plain, and small laws. -/
namespace Go.Proofs.YtccmncecpmemaaaGreatDoor
open Go.RowKit
set_option linter.unusedVariables false
set_option linter.unusedSimpArgs false
set_option maxRecDepth 8000

def digS (n : Int) : ByteArray := if 0 ≤ n ∧ n < 18446744073709551616 then ⟨(Lib.decDigits n.toNat).toArray⟩ else ⟨#[]⟩
theorem digS_of {n : Int} (h0 : 0 ≤ n) (h1 : n < 18446744073709551616) : digS n = ⟨(Lib.decDigits n.toNat).toArray⟩ := by unfold digS; rw [if_pos ⟨h0, h1⟩]
theorem digS_size (n : Int) : (digS n).size ≤ 32 := by
  unfold digS
  split
  · rename_i h
    show (Lib.decDigits n.toNat).toArray.size ≤ 32
    rw [List.size_toArray, Lib.decDigits_length]
    by_cases h1 : n.toNat = 0
    · rw [h1, ← Lib.decDigits_length, Lib.decDigits_one (by decide)]; exact Nat.le_of_ble_eq_true rfl
    · have := Lib.numDigits_eq n.toNat (by omega) (by omega)
      split at this <;> omega
  · show (#[] : Array UInt8).size ≤ 32
    simp
theorem dig_c {n : Int} (h0 : 0 ≤ n) (h1 : n < 18446744073709551616) (w : World) : Calls Tryz.prog 33 #[.int .u64 n] w fun e w' => e = .returned (.string (digS n)) ∧ Below w.heap.size w w' := by
  rw [digS_of h0 h1]
  obtain ⟨m, rfl⟩ : ∃ m : Nat, n = m := ⟨n.toNat, by omega⟩
  exact whole_c m (by omega) w
theorem itoaS_c {n : Int} (h0 : 0 ≤ n) (h1 : n ≤ 9223372036854775807) {w : World} (ht : Tab w) : Calls Tryz.prog 30 #[vI n] w fun e w' => e = .returned (.string (digS n)) ∧ Below w.heap.size w w' := by
  rw [digS_of h0 (by omega)]
  have e : Lib.itoa n = Lib.decDigits n.toNat := by unfold Lib.itoa; rw [if_neg (by omega)]
  have := itoa_c n (by omega) h1 w ht
  rw [e] at this
  exact this
theorem uintS_c {n : Int} (h0 : 0 ≤ n) (h1 : n < 18446744073709551616) {w : World} (ht : Tab w) : Calls Tryz.prog 55 #[vU n, vI 10] w fun e w' => e = .returned (.string (digS n)) ∧ Below w.heap.size w w' := by
  rw [digS_of h0 h1]
  obtain ⟨m, rfl⟩ : ∃ m : Nat, n = m := ⟨n.toNat, by omega⟩
  exact uint_c m (by omega) w ht
/-- Values used, written behind a line. -/
def addU (s : ByteArray) : List Int → ByteArray
  | [] => s
  | u :: us => addU ((s ++ ⟨#[32]⟩) ++ digS u) us
theorem addU_snoc (s : ByteArray) (us : List Int) (u : Int) : addU s (us ++ [u]) = (addU s us ++ ⟨#[32]⟩) ++ digS u := by
  induction us generalizing s with
  | nil => rfl
  | cons x us ih => exact ih _
theorem addU_size (us : List Int) : ∀ s : ByteArray, (addU s us).size ≤ s.size + 33 * us.length := by
  induction us with
  | nil => intro s; exact Nat.le_refl _
  | cons x us ih =>
    intro s
    have h1 := ih ((s ++ ⟨#[32]⟩) ++ digS x)
    have h2 := digS_size x
    have h3 : (⟨#[32]⟩ : ByteArray).size = 1 := rfl
    rw [ByteArray.size_append, ByteArray.size_append, h3] at h1
    show (addU ((s ++ ⟨#[32]⟩) ++ digS x) us).size ≤ _
    rw [List.length_cons]
    omega
def ln0 (k : Nat) (o : Opr) : ByteArray := (digS (k : Int) ++ ⟨#[32]⟩) ++ nameV o.kind
def ln1 (k : Nat) (o : Opr) : ByteArray := if hasP o.kind 1 = true then (ln0 k o ++ ⟨#[32]⟩) ++ digS o.r else ln0 k o
def ln2 (k : Nat) (o : Opr) : ByteArray := addU (ln1 k o) (usesD o)
def ln3 (k : Nat) (o : Opr) : ByteArray := if hasP o.kind 8 = true then (ln2 k o ++ ⟨#[32]⟩) ++ digS o.order else ln2 k o
def ln4 (k : Nat) (o : Opr) : ByteArray := if hasP o.kind 16 = true then (ln3 k o ++ ⟨#[32]⟩) ++ digS o.imm else ln3 k o
def ln5 (k : Nat) (o : Opr) : ByteArray := ln4 k o ++ ⟨#[10]⟩
theorem ln0_size (k : Nat) (o : Opr) : (ln0 k o).size ≤ 40 := by
  have h1 := digS_size (k : Int)
  have h2 := name_size o.kind
  have h3 : (⟨#[32]⟩ : ByteArray).size = 1 := rfl
  unfold ln0
  rw [ByteArray.size_append, ByteArray.size_append, h3]
  omega
theorem ln1_size (k : Nat) (o : Opr) : (ln1 k o).size ≤ 73 := by
  have h1 := digS_size o.r
  have h2 := ln0_size k o
  have h3 : (⟨#[32]⟩ : ByteArray).size = 1 := rfl
  unfold ln1
  split
  · rw [ByteArray.size_append, ByteArray.size_append, h3]; omega
  · omega
theorem usesD_len (o : Opr) : (usesD o).length ≤ 2 := by
  unfold usesD
  split
  · exact Nat.le_succ 1
  · split
    · exact Nat.le_refl 2
    · exact Nat.zero_le 2
theorem ln2_size (k : Nat) (o : Opr) : (ln2 k o).size ≤ 139 := by
  have h1 := addU_size (usesD o) (ln1 k o)
  have h2 := ln1_size k o
  have h3 := usesD_len o
  unfold ln2
  omega
theorem ln3_size (k : Nat) (o : Opr) : (ln3 k o).size ≤ 172 := by
  have h1 := digS_size o.order
  have h2 := ln2_size k o
  have h3 : (⟨#[32]⟩ : ByteArray).size = 1 := rfl
  unfold ln3
  split
  · rw [ByteArray.size_append, ByteArray.size_append, h3]; omega
  · omega
theorem ln4_size (k : Nat) (o : Opr) : (ln4 k o).size ≤ 205 := by
  have h1 := digS_size o.imm
  have h2 := ln3_size k o
  have h3 : (⟨#[32]⟩ : ByteArray).size = 1 := rfl
  unfold ln4
  split
  · rw [ByteArray.size_append, ByteArray.size_append, h3]; omega
  · omega
/-- Both write the same line. -/
theorem line_eq (k : Nat) (o : Opr) (h : isK o.kind = true) : ln5 k o = rowS digS digS k o := by
  obtain ⟨kind, r, a, b, order, imm⟩ := o
  unfold ln5 ln4 ln3 ln2 ln1 ln0 rowS toldS lineS lineS lineS lineS lineS fld
  rcases isK_cases h with h | h | h | h | h | h | h | h | h | h | h | h | h | h | h | h | h | h <;> (dsimp only at h; subst h; simp [usesD, shpV, addU, go_sem, ByteArray.append_assoc])
def docLs (l : List Opr) : Nat → ByteArray
  | 0 => ⟨#[]⟩
  | k + 1 => docLs l k ++ ln5 k (opAt l k)
theorem docLs_eq {l : List Opr} (h : opsB l = true) : ∀ k, k ≤ l.length → docLs l k = linesS digS digS l k
  | 0, _ => rfl
  | k + 1, hk => by
    have ho := ops_at h (k := k) (by omega)
    unfold okAt at ho
    simp only [Bool.and_eq_true] at ho
    show docLs l k ++ ln5 k (opAt l k) = linesS digS digS l k ++ rowS digS digS k (opAt l k)
    rw [docLs_eq h k (by omega), line_eq _ _ ho.1.1.1]
theorem docLs_size (l : List Opr) : ∀ k, (docLs l k).size ≤ 206 * k
  | 0 => Nat.zero_le _
  | k + 1 => by
    have h1 := docLs_size l k
    have h2 := ln4_size k (opAt l k)
    have h3 : (⟨#[10]⟩ : ByteArray).size = 1 := rfl
    show (docLs l k ++ (ln4 k (opAt l k) ++ ⟨#[10]⟩)).size ≤ _
    rw [ByteArray.size_append, ByteArray.size_append, h3]
    omega
/-- The row of words. -/
def wordsA : Array Value := #[.string ⟨#[]⟩, .string ⟨#[99, 111, 110, 115, 116]⟩, .string ⟨#[103, 101, 116, 120]⟩, .string ⟨#[115, 101, 116, 120]⟩, .string ⟨#[103, 101, 116, 115, 112]⟩, .string ⟨#[115, 101, 116, 115, 112]⟩, .string ⟨#[103, 101, 116, 102]⟩, .string ⟨#[115, 101, 116, 102]⟩, .string ⟨#[97, 108, 117]⟩, .string ⟨#[108, 111, 97, 100]⟩, .string ⟨#[115, 116, 111, 114, 101]⟩, .string ⟨#[108, 111, 97, 100, 101, 120]⟩, .string ⟨#[115, 116, 111, 114, 101, 101, 120]⟩, .string ⟨#[102, 101, 110, 99, 101]⟩, .string ⟨#[97, 116]⟩, .string ⟨#[101, 120, 105, 116, 105, 102]⟩, .string ⟨#[101, 120, 105, 116]⟩, .string ⟨#[101, 120, 105, 116, 116, 111]⟩, .string ⟨#[103, 117, 101, 115, 116]⟩]
theorem info9 : (Tryz.prog.info? 9).map (fun i => (i.zero, i.size, i.bytes)) = some (some (.string ⟨#[]⟩), 1, 16) := by kernel_rfl
theorem run_words (w : World) : (Instr.buildSlice 80 19 #[(0, Value.string ⟨#[]⟩), (1, Value.string ⟨#[99, 111, 110, 115, 116]⟩), (2, Value.string ⟨#[103, 101, 116, 120]⟩), (3, Value.string ⟨#[115, 101, 116, 120]⟩), (4, Value.string ⟨#[103, 101, 116, 115, 112]⟩), (5, Value.string ⟨#[115, 101, 116, 115, 112]⟩), (6, Value.string ⟨#[103, 101, 116, 102]⟩), (7, Value.string ⟨#[115, 101, 116, 102]⟩), (8, Value.string ⟨#[97, 108, 117]⟩), (9, Value.string ⟨#[108, 111, 97, 100]⟩), (10, Value.string ⟨#[115, 116, 111, 114, 101]⟩), (11, Value.string ⟨#[108, 111, 97, 100, 101, 120]⟩), (12, Value.string ⟨#[115, 116, 111, 114, 101, 101, 120]⟩), (13, Value.string ⟨#[102, 101, 110, 99, 101]⟩), (14, Value.string ⟨#[97, 116]⟩), (15, Value.string ⟨#[101, 120, 105, 116, 105, 102]⟩), (16, Value.string ⟨#[101, 120, 105, 116]⟩), (17, Value.string ⟨#[101, 120, 105, 116, 116, 111]⟩), (18, Value.string ⟨#[103, 117, 101, 115, 116]⟩)]).run Tryz.prog w = .ok (.slice (some ⟨w.heap.size, 0, none⟩) 19 19) (w.alloc (.cells wordsA 9)) := by
  obtain ⟨i, hi, hz, hs, hby⟩ := info_parts info9
  exact run_buildSlice (P := Tryz.prog) w 80 9 19 _ _ i (.string ⟨#[]⟩) Tryz.underlying80 hi hz (by rw [hs]; decide) (by rw [hs]; decide) (by rw [hs]; kernel_rfl)
theorem wpList_words {ops : Array Oper} {rest : List Oper} {o : Oper} {a : Act} {w : World} {Q : Exit → Act → World → Prop} (hg : o.guard = none) (ho : o.op = .buildSlice 80 19 #[(0, Operand.const (Value.string ⟨#[]⟩)), (1, Operand.const (Value.string ⟨#[99, 111, 110, 115, 116]⟩)), (2, Operand.const (Value.string ⟨#[103, 101, 116, 120]⟩)), (3, Operand.const (Value.string ⟨#[115, 101, 116, 120]⟩)), (4, Operand.const (Value.string ⟨#[103, 101, 116, 115, 112]⟩)), (5, Operand.const (Value.string ⟨#[115, 101, 116, 115, 112]⟩)), (6, Operand.const (Value.string ⟨#[103, 101, 116, 102]⟩)), (7, Operand.const (Value.string ⟨#[115, 101, 116, 102]⟩)), (8, Operand.const (Value.string ⟨#[97, 108, 117]⟩)), (9, Operand.const (Value.string ⟨#[108, 111, 97, 100]⟩)), (10, Operand.const (Value.string ⟨#[115, 116, 111, 114, 101]⟩)), (11, Operand.const (Value.string ⟨#[108, 111, 97, 100, 101, 120]⟩)), (12, Operand.const (Value.string ⟨#[115, 116, 111, 114, 101, 101, 120]⟩)), (13, Operand.const (Value.string ⟨#[102, 101, 110, 99, 101]⟩)), (14, Operand.const (Value.string ⟨#[97, 116]⟩)), (15, Operand.const (Value.string ⟨#[101, 120, 105, 116, 105, 102]⟩)), (16, Operand.const (Value.string ⟨#[101, 120, 105, 116]⟩)), (17, Operand.const (Value.string ⟨#[101, 120, 105, 116, 116, 111]⟩)), (18, Operand.const (Value.string ⟨#[103, 117, 101, 115, 116]⟩))])
    (h : wpList Tryz.prog ops Q rest (a.put o.dst (.slice (some ⟨w.heap.size, 0, none⟩) 19 19)) (w.alloc (.cells wordsA 9))) : wpList Tryz.prog ops Q (o :: rest) a w :=
  wpList_plain hg fun _ hK => by
    unfold Oper.wp execOp
    simp only [ho, Sem.run_bind, List.map_toArray, List.map_cons, List.map_nil, Act.eval, run_words, Result.andThen_ok]
    exact hK _ _ h
theorem words_at : ∀ k : Nat, 1 ≤ k → k ≤ 18 → wordsA[k]? = some (.string (nameV (k : Int)))
  | 0, h, _ => absurd h (by decide)
  | 1, _, _ => by kernel_rfl
  | 2, _, _ => by kernel_rfl
  | 3, _, _ => by kernel_rfl
  | 4, _, _ => by kernel_rfl
  | 5, _, _ => by kernel_rfl
  | 6, _, _ => by kernel_rfl
  | 7, _, _ => by kernel_rfl
  | 8, _, _ => by kernel_rfl
  | 9, _, _ => by kernel_rfl
  | 10, _, _ => by kernel_rfl
  | 11, _, _ => by kernel_rfl
  | 12, _, _ => by kernel_rfl
  | 13, _, _ => by kernel_rfl
  | 14, _, _ => by kernel_rfl
  | 15, _, _ => by kernel_rfl
  | 16, _, _ => by kernel_rfl
  | 17, _, _ => by kernel_rfl
  | 18, _, _ => by kernel_rfl
  | k + 19, _, h => absurd h (by omega)
theorem info5 : (Tryz.prog.info? 5).map (fun i => (i.zero, i.size, i.bytes)) = some (some (.int .u8 0), 1, 1) := by kernel_rfl
/-- A string goes behind the bytes. -/
theorem wpList_appS {ops : Array Oper} {rest : List Oper} {o : Oper} {a : Act} {w : World} {Q : Exit → Act → World → Prop} (hg : o.guard = none) (s x : Operand) (ho : o.op = .call { callee := .builtin .append, args := #[s, x], argTypes := #[70, 9] }) {base : Nat} {v : Value} {p q : ByteArray} (hs : a.eval s = v) (hx : a.eval x = .string q) (O : w.ownsRow base 5 1 v p.size (Lib.strCells p)) (hl : p.size + q.size ≤ 1000000) (hbase : base ≤ w.heap.size)
    (h : ∀ v' w', w'.ownsRow base 5 1 v' (p ++ q).size (Lib.strCells (p ++ q)) → Below base w w' → (∀ b, b < w.heap.size → v.ownBlock ≠ some b → w'.heap[b]? = w.heap[b]?) → wpList Tryz.prog ops Q rest (a.put o.dst v') w') : wpList Tryz.prog ops Q (o :: rest) a w := by
  obtain ⟨i, hi, hz, hsz, hby⟩ := info_parts info5
  refine Lib.wpList_append_own_string _ hg s x 70 9 ho base 5 i Tryz.underlying70 Tryz.underlying9 hi hz hsz hby v p.size _ hs O q hx (by simp only [maxLen]; omega) (by omega) hbase ?_
  intro v' w' hR hgr _
  have hG : Goes (fun k => v.ownBlock = some k) w w' := goes_grown hgr (fun k hk => hk)
  rw [← strCells_append, ← ByteArray.size_append] at hR
  refine h v' w' hR ?_ (fun b hb hn => hG.block b hb hn)
  exact hG.below hbase (fun k hk => (O.lt k hk).1)
theorem conv_own {w : World} {base : Nat} {v : Value} {s : ByteArray} (h : w.ownsRow base 5 1 v s.size (Lib.strCells s)) : (convert 70 9 v).run Tryz.prog w = .ok (.string s) w := by
  rcases h.2 with ⟨h1, h2⟩ | ⟨g, cap, cur, h1, _, h3, h4, h5, h6, h7⟩
  · rw [h1, run_convert_bytes_nil w 70 5 Tryz.underlying70 Tryz.underlying5 0 0 9 Tryz.underlying9]
    have : s = ByteArray.empty := by
      apply ByteArray.ext
      have e : s.data.size = 0 := h2
      rw [Array.size_eq_zero_iff] at e
      rw [e]; rfl
    rw [this]
  · rw [h1]
    have hlen : s.size = s.data.toList.length := by rw [Array.length_toList]; rfl
    have hc := run_convert_bytes_back (P := Tryz.prog) w 70 9 5 ⟨g, 0, none⟩ cap s.data.toList Tryz.underlying70 Tryz.underlying5 Tryz.underlying9 (fun j hj => by
      rw [Addr.add_mid, Nat.zero_add, cell_of_row _ _ _ _ _ _ h3]
      have hu : (Lib.strCells s)[j]? = some (.int .u8 (s.data.toList[j].toNat : Int)) := by
        unfold Lib.strCells
        rw [List.getElem?_map, List.getElem?_eq_getElem hj]; rfl
      rw [← h7] at hu
      have hk := (List.getElem?_eq_some_iff.1 hu).1
      rw [List.length_take] at hk
      rw [List.getElem?_take, if_pos (by omega)] at hu
      simpa using hu)
    rw [hlen]
    have e2 : (⟨s.data.toList.toArray⟩ : ByteArray) = s := by
      apply ByteArray.ext
      simp
    rw [e2] at hc
    exact hc
end Go.Proofs.YtccmncecpmemaaaGreatDoor
/- The document's Text: what holds while it is walked. -/
namespace Go.Proofs.YtccmncecpmemaaaGreatDoor
open Go.RowKit
set_option linter.unusedVariables false
set_option linter.unusedSimpArgs false
set_option maxRecDepth 8000

structure DtI (w : World) (pc words el : Int) (v : Value) (l : List Opr) (b1 g B : Nat) (s : ByteArray) (vo : Value) (x : World) : Prop where
  r1 : x.heap[b1]? = some (.cells (blA pc words el v) 25)
  ops : Ops x v l
  wds : x.heap[g]? = some (.cells wordsA 9)
  own : x.ownsRow B 5 1 vo s.size (Lib.strCells s)
  below : Below w.heap.size w x
  hB : B ≤ x.heap.size
section
variable {w : World} {pc words el : Int} {v : Value} {l : List Opr} {b1 g B : Nat} {s : ByteArray} {vo : Value}
theorem own_up {x y : World} {base : Nat} {vo : Value} {n : Nat} {xs : List Value} (h : x.ownsRow base 5 1 vo n xs) (hb : Below x.heap.size x y) : y.ownsRow base 5 1 vo n xs :=
  own_of_block h (fun k hk => hb.block k (h.lt k hk).2)
theorem DtI.grow {x y : World} (h : DtI w pc words el v l b1 g B s vo x) (hb : Below x.heap.size x y) : DtI w pc words el v l b1 g B s vo y :=
  ⟨by rw [hb.block _ (lt_of_some h.r1)]; exact h.r1, h.ops.grow hb, by rw [hb.block _ (lt_of_some h.wds)]; exact h.wds, own_up h.own hb, below_then h.below (Nat.le_refl _) hb, Nat.le_trans h.hB hb.size⟩
theorem DtI.c3 {x : World} (h : DtI w pc words el v l b1 g B s vo x) : x.cell? ⟨b1, 3, none⟩ = some v := by rw [cell_of_row _ _ _ _ _ _ h.r1]; rfl
theorem DtI.word {x : World} (h : DtI w pc words el v l b1 g B s vo x) {k : Nat} (h1 : 1 ≤ k) (h2 : k ≤ 18) : x.cell? ⟨g, k, none⟩ = some (.string (nameV (k : Int))) := by rw [cell_of_row _ _ _ _ _ _ h.wds]; exact words_at k h1 h2
theorem DtI.app {x y : World} {s' : ByteArray} {vo' : Value} (h : DtI w pc words el v l b1 g B s vo x) (hl : OpsLow v B) (h1 : b1 < B) (hg : g < B) (hw : w.heap.size ≤ B) (hO : y.ownsRow B 5 1 vo' s'.size (Lib.strCells s')) (hB : Below B x y) : DtI w pc words el v l b1 g B s' vo' y := by
  refine ⟨by rw [hB.block _ h1]; exact h.r1, ?_, by rw [hB.block _ hg]; exact h.wds, hO, h.below.trans ⟨hB.os, hB.tape, hB.output, hB.size, fun k hk => hB.block k (by omega)⟩, Nat.le_trans h.hB hB.size⟩
  refine ⟨h.ops.len, h.ops.max, fun h0 => ?_⟩
  obtain ⟨ra, cap, e, hc⟩ := h.ops.cell h0
  have hlt := hl ra _ cap e h0
  refine ⟨ra, cap, e, fun i o ho => (hc i o ho).keep ?_ ?_⟩
  · exact Nat.lt_of_lt_of_le (hc i o ho).lt hB.size
  · have e1 : (ra.add (i * 6)).block = ra.block := by unfold Addr.add; split <;> rfl
    rw [e1]; exact hB.block _ hlt
end
theorem fld_ok {l : List Opr} {k : Nat} (h : okAt l k = true) : isK (opAt l k).kind = true ∧ (hasP (opAt l k).kind 1 = true → 0 ≤ (opAt l k).r ∧ (opAt l k).r ≤ 30) ∧ (hasP (opAt l k).kind 8 = true → 0 ≤ (opAt l k).order ∧ (opAt l k).order ≤ 4) ∧ ∀ p ∈ usesD (opAt l k), 0 ≤ p ∧ p < (k : Int) := by
  have hu : ∀ p ∈ usesD (opAt l k), 0 ≤ p ∧ p < (k : Int) := by
    have h' := h
    rw [← okD_eq] at h'
    unfold okD at h'
    simp only [Bool.and_eq_true] at h'
    intro p hp
    have hd := List.all_eq_true.1 h'.1.2 p hp
    unfold defD at hd
    simp only [Bool.and_eq_true, decide_eq_true_eq] at hd
    exact hd.1
  unfold okAt at h
  simp only [Bool.and_eq_true] at h
  refine ⟨h.1.1.1, ?_, ?_, hu⟩
  all_goals
    intro hp
    have hB := h.1.2
    have hK := h.1.1.1
    clear h hu
    unfold opB at hB
    simp only [Bool.and_eq_true] at hB
    replace hB := hB.2
    generalize opAt l k = o at *
    obtain ⟨kind, r, a, b, order, imm⟩ := o
    dsimp only at *
    unfold rangeB at hB
    dsimp only at hB
    rcases isK_cases hK with rfl | rfl | rfl | rfl | rfl | rfl | rfl | rfl | rfl | rfl | rfl | rfl | rfl | rfl | rfl | rfl | rfl | rfl <;> simp [go_sem] at hp hB <;> omega
theorem up_dt {w : World} {pc words el : Int} {v : Value} {l : List Opr} {b1 g B : Nat} {s : ByteArray} {vo : Value} {t : Nat} {o : Opr} : Rel.Up Rel.Grows (fun x => DtI w pc words el v l b1 g B s vo x ∧ LocO t o x) := fun _ _ h hb => ⟨h.1.grow hb, h.2.grow hb⟩
end Go.Proofs.YtccmncecpmemaaaGreatDoor
