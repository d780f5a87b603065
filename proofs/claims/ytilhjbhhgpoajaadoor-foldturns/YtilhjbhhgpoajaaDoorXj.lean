/- Ja, Jb, Jc, Ji, Jj of the seat, joined. -/
import Derived.Test.YtilhjbhhgpoajaaDoorIg
import Derived.Test.YtilhjbhhgpoajaaDoorXd
import Derived.Maps.AppendAt
import Derived.Laws.MakeOwn
/- A run, plainly, and as the machine holds it. -/
namespace Go.Proofs.YtilhjbhhgpoajaaDoor
open Go.RowKit
set_option linter.unusedVariables false
set_option linter.unusedSimpArgs false
set_option maxRecDepth 8000

structure Wnt where
  kind : Int
  addr : Int
  value : Int
  acq : Int
  rel : Bool
  fence : Int
  dsb : Bool
  sys : Int
  cls : Int
  iss : Int
deriving DecidableEq
abbrev wnA (k : Wnt) : Array Value := #[vI k.kind, vU k.addr, vU k.value, vI k.acq, .bool k.rel, vI k.fence, .bool k.dsb, vI k.sys, vI k.cls, vI k.iss]
abbrev wnV (k : Wnt) : Value := .agg (wnA k)
def nilW : Wnt := ⟨0, 0, 0, 0, false, 0, false, 0, 0, 0⟩
theorem wn_size (k : Wnt) : (wnA k).size = 10 := rfl
theorem wn_one (k : Wnt) : (wnA k).all (·.oneCell') = true := by simp [Value.oneCell']
structure Gt where
  value : Int
  ok : Bool
  fault : Int
abbrev gtA (k : Gt) : Array Value := #[vU k.value, .bool k.ok, vI k.fault]
abbrev gtV (k : Gt) : Value := .agg (gtA k)
/-- A run, plainly. -/
structure Rn where
  next : Nat
  c : Cor
  w : Wnt
  go : Nat
  word : Int
  guest : Bool
  flt : Bool
  vs : List Int
/-- The numbers of a run are of their kinds. -/
structure Rn.Ok (S : Rn) : Prop where
  x : ∀ i (h : i < 31), U64 S.c.x[i]
  sp0 : U64 S.c.sp0
  sp1 : U64 S.c.sp1
  el : S.c.el = 0 ∨ S.c.el = 1
  vs : ∀ v ∈ S.vs, U64 v
/-- A run in memory: its own block, the block of its operations, the block of its values. -/
def RF (g vb : Nat) (k : Nat) : Prop := k = g ∨ k = vb
section
variable {l : List Opr} {g vb : Nat} {so : Value} {S : Rn} {w w' : World}
end
end Go.Proofs.YtilhjbhhgpoajaaDoor
/- Small steps of a run. -/
namespace Go.Proofs.YtilhjbhhgpoajaaDoor
open Go.RowKit
set_option linter.unusedVariables false
set_option linter.unusedSimpArgs false
set_option maxRecDepth 8000

theorem chn_store {o : Oper} {a : Act} {w w2 : World} {C : World → Prop} (ty : TypeId) (x y : Operand) (ho : o.op = .store ty x y) (b k : Nat) (hx : a.eval x = .pointer (some ⟨b, k, none⟩)) (v : Value) (hy : a.eval y = v) (hrun : (storeVar ty ⟨b, k, none⟩ v).run Tryd.prog w = .ok () w2) (hC : C w2) :
    Chn.upon Tryd.prog (fun v w' => v = undef ∧ C w') w ((execOp a.eval o).run Tryd.prog w) := by
  unfold execOp
  simp only [ho, hx, hy, Instr.storeAt, Instr.sureAddr, Sem.run_bind, Sem.run_pure, Result.andThen_ok, hrun]
  exact ⟨rfl, hC⟩
theorem run_cell (w : World) (ty : TypeId) (b k : Nat) (v old : Value) (hi : (Tryd.prog.info? ty).map (·.size) = some 1) (hv : v.oneCell' = true) (hv2 : v.cells = #[v]) (hc : w.cell? ⟨b, k, none⟩ = some old) (hf : w.frozen? ⟨b, k, none⟩ = false) : (storeVar ty ⟨b, k, none⟩ v).run Tryd.prog w = .ok () (w.setCell ⟨b, k, none⟩ v) := by
  have hst : (store ⟨b, k, none⟩ v .plain).run Tryd.prog w = .ok () (w.setCell ⟨b, k, none⟩ v) := by
    rw [run_store Tryd.prog w _ _ _ hv, hc, hf]; rfl
  cases hq : Tryd.prog.info? ty with
  | none => simp [hq] at hi
  | some i =>
    have hs : i.size = 1 := by simpa [hq] using hi
    have hadd : (⟨b, k, none⟩ : Addr).add 0 = ⟨b, k, none⟩ := by unfold Addr.add; split <;> simp_all
    simp [storeVar, sizeOf, typeInfo, hq, hs, hv2, storeCells, hadd, hst]
theorem inf3 : (Tryd.prog.info? 3).map (·.size) = some 1 := by kernel_rfl
theorem inf4 : (Tryd.prog.info? 4).map (·.size) = some 1 := by kernel_rfl
theorem inf22 : (Tryd.prog.info? 22).map (·.size) = some 1 := by kernel_rfl
theorem inf49 : (Tryd.prog.info? 93).map (·.size) = some 1 := by kernel_rfl
section
variable {l : List Opr} {g vb : Nat} {so : Value} {S : Rn} {w w' : World}
theorem wpList_storeC {ops : Array Oper} {rest : List Oper} {o : Oper} {a : Act} {w : World} {Q : Exit → Act → World → Prop} (hgd : o.guard = none) (ty : TypeId) (x y : Operand) (ho : o.op = .store ty x y) (b k : Nat) (hx : a.eval x = ptr b k) (v : Value) (hy : a.eval y = v) (hi : (Tryd.prog.info? ty).map (·.size) = some 1) (h1 : v.oneCell' = true) (h2 : v.cells = #[v]) {old : Value} (hc : w.cell? ⟨b, k, none⟩ = some old) (hf : w.frozen? ⟨b, k, none⟩ = false)
    (h : wpList Tryd.prog ops Q rest (a.put o.dst undef) (w.setCell ⟨b, k, none⟩ v)) : wpList Tryd.prog ops Q (o :: rest) a w := by
  refine wpList_plain hgd fun K hK => ?_
  unfold Oper.wp execOp
  simp only [ho, hx, hy, Instr.storeAt, Instr.sureAddr, Sem.run_bind, Sem.run_pure, Result.andThen_ok, run_cell w ty b k v old hi h1 h2 hc hf]
  exact hK _ _ h
def Ph (A B : World → Prop) : Nat → World → Prop
  | 0 => A
  | _ + 1 => B
def Rn.define (S : Rn) (v : Int) : Rn := { S with vs := S.vs.set (S.next - 1) v }
def Rn.leave (S : Rn) (n : Nat) (pc : Int) : Rn := { S with c := { S.c with pc := pc }, next := n }
def Rn.fault (S : Rn) (n : Nat) : Rn := { S with flt := true, next := n }
def Rn.guestOut (S : Rn) (n : Nat) (word : Int) : Rn := { S with word := word, guest := true, next := n }
def Rn.wait (S : Rn) (k : Wnt) (f : Nat) : Rn := { S with w := k, go := f }
end
section
variable {l : List Opr} {g vb : Nat} {so : Value} {S : Rn} {w w' : World}
set_option maxHeartbeats 1000000 in
def oneV : Bool → Int
  | true => 1
  | false => 0
theorem oneV_u (b : Bool) : U64 (oneV b) := by cases b <;> exact ⟨by decide, by decide⟩
def acqV (n : Int) : Int := if n = 1 then 1 else if n = 2 then 2 else 0
def Rn.told (S : Rn) (n : Nat) (t : Gt) : Rn := if t.fault = 0 then S else S.fault n
end
end Go.Proofs.YtilhjbhhgpoajaaDoor
/- What an operation does, plainly. -/
namespace Go.Proofs.YtilhjbhhgpoajaaDoor
open Go.RowKit
set_option linter.unusedVariables false
set_option linter.unusedSimpArgs false
set_option maxRecDepth 8000

section
variable {l : List Opr} {g vb : Nat} {so : Value} {S : Rn} {w w' : World}
def Rn.val (S : Rn) (a : Int) : Int := S.vs.getD a.toNat 0
def Rn.x (S : Rn) (r : Int) : Int := S.c.x.toArray.getD r.toNat 0
def Rn.setX (S : Rn) (r : Int) (v : Int) : Rn := { S with c := { S.c with x := S.c.x.setIfInBounds r.toNat v } }
def Rn.sp (S : Rn) : Int := if S.c.el = 0 then S.c.sp0 else S.c.sp1
def Rn.setSP (S : Rn) (v : Int) : Rn := if S.c.el = 0 then { S with c := { S.c with sp0 := v } } else { S with c := { S.c with sp1 := v } }
def Rn.flag (S : Rn) (r : Int) : Bool := if r = 0 then S.c.n else if r = 1 then S.c.z else if r = 2 then S.c.c else S.c.v
def Rn.setF (S : Rn) (r : Int) (b : Bool) : Rn := if r = 0 then { S with c := { S.c with n := b } } else if r = 1 then { S with c := { S.c with z := b } } else if r = 2 then { S with c := { S.c with c := b } } else { S with c := { S.c with v := b } }
def Rn.acc (S : Rn) (n : Nat) (a : Int) (k : Wnt) (f : Nat) : Rn := if a % 8 = 0 then S.wait k f else S.fault n
def carryV (n : Nat) (S : Rn) (o : Opr) : Rn :=
  match o.kind.toNat with
  | 1 => S.define o.imm
  | 2 => S.define (S.x o.r)
  | 3 => S.setX o.r (S.val o.a)
  | 4 => S.define S.sp
  | 5 => S.setSP (S.val o.a)
  | 6 => S.define (oneV (S.flag o.r))
  | 7 => S.setF o.r (S.val o.a != 0)
  | 8 => S.define (Alu.reckonV o.r (S.val o.a) (S.val o.b))
  | 9 => S.acc n (S.val o.a) { nilW with kind := 1, addr := S.val o.a, acq := acqV o.order } 1
  | 10 => S.acc n (S.val o.a) { nilW with kind := 2, addr := S.val o.a, value := S.val o.b, rel := o.order == 4 } 2
  | 11 => S.acc n (S.val o.a) { nilW with kind := 3, addr := S.val o.a, acq := acqV o.order } 1
  | 12 => S.acc n (S.val o.a) { nilW with kind := 4, addr := S.val o.a, value := S.val o.b, rel := o.order == 4 } 3
  | 13 => S.wait { nilW with kind := 6, fence := o.r } 4
  | 14 => { S with c := { S.c with pc := o.imm } }
  | 15 => if (S.val o.a != 0) = true then S.leave n o.imm else S
  | 16 => S.leave n o.imm
  | 17 => S.leave n (S.val o.a)
  | 18 => S.guestOut n o.imm
  | _ => S
/-- What an operation of a right block is. -/
structure OpFit (l : List Opr) (o : Opr) : Prop where
  k : isK o.kind = true
  a : hasP o.kind 2 = true → 0 ≤ o.a ∧ o.a < l.length
  b : hasP o.kind 4 = true → 0 ≤ o.b ∧ o.b < l.length
  rng : rangeB o = true
  imm : U64 o.imm
end
end Go.Proofs.YtilhjbhhgpoajaaDoor
/- Take, Core, Guest, Faulted. -/
namespace Go.Proofs.YtilhjbhhgpoajaaDoor
open Go.RowKit
set_option linter.unusedVariables false
set_option linter.unusedSimpArgs false
set_option maxRecDepth 8000

section
variable {l : List Opr} {g vb : Nat} {so : Value} {S : Rn} {w w' : World}
/-- Where a run is behind Take. -/
def takeV (n : Nat) (S : Rn) (t : Gt) : Rn :=
  match S.go with
  | 0 => S
  | 1 => ((S.wait nilW 0).define t.value).told n t
  | 2 => (S.wait nilW 0).told n t
  | 3 => ((S.wait nilW 0).define (oneV (!t.ok))).told n t
  | _ => S.wait nilW 0
def takeE (S : Rn) : Int := if S.go = 0 then 1 else 0
end
end Go.Proofs.YtilhjbhhgpoajaaDoor
/- The state of a run; operations copied. -/
namespace Go.Proofs.YtilhjbhhgpoajaaDoor
open Go.RowKit
set_option linter.unusedVariables false
set_option linter.unusedSimpArgs false
set_option maxRecDepth 8000

section
variable {l : List Opr} {g vb : Nat} {so : Value} {S : Rn} {w w' : World}
theorem nilC_size (c : Cor) : nilC.cells.size = c.cells.size := by rw [Cor.size, Cor.size]
end
/-- The operations copied. -/
theorem info42 : (Tryd.prog.info? 37).map (fun i => (i.zero, i.size, i.bytes)) = some (some (opV nilO), 6, 48) := by kernel_rfl
def opF (l : List Opr) : List Value := l.flatMap fun o => (opA o).toList
theorem opF_len (l : List Opr) : (opF l).length = l.length * 6 := by
  induction l with
  | nil => rfl
  | cons a l ih => simp only [opF, List.flatMap_cons, List.length_append, List.length_cons] at ih ⊢; rw [ih]; simp; omega
theorem opF_get {l : List Opr} : ∀ {k : Nat} {o : Opr}, l[k]? = some o → ∀ j, j < 6 → (opF l)[k * 6 + j]? = (opA o)[j]? := by
  induction l with
  | nil => intro k o h; simp at h
  | cons a l ih =>
    intro k o h j hj
    have e : opF (a :: l) = (opA a).toList ++ opF l := rfl
    rw [e]
    cases k with
    | zero =>
      simp at h; subst h
      rw [List.getElem?_append_left (by simp; omega)]
      simp
    | succ k =>
      rw [List.getElem?_append_right (by simp; omega), ← ih (by simpa using h) j hj]
      congr 1
      simp
      omega
theorem one_opF (l : List Opr) : ∀ u ∈ opF l, u.oneCell' = true := by
  intro u hu
  simp only [opF, List.mem_flatMap] at hu
  obtain ⟨o, _, h⟩ := hu
  exact Array.all_eq_true_iff_forall_mem.1 (op_one o) u (by simpa using h)
theorem Ops.flat {w : World} {ra : Addr} {n cap : Nat} {l : List Opr} (h : Ops w (.slice (some ra) n cap) l) (h0 : 0 < l.length) (j : Nat) (u : Value) (hu : (opF l)[j]? = some u) : w.cell? (ra.add j) = some u := by
  obtain ⟨rb, c2, e, hc⟩ := h.cell h0
  cases e
  have hj : j < l.length * 6 := by have := (List.getElem?_eq_some_iff.1 hu).1; rwa [opF_len] at this
  have hk : j / 6 < l.length := by omega
  have A := hc (j / 6) _ (opAt_some hk)
  have e1 : j = j / 6 * 6 + j % 6 := by omega
  have hg := opF_get (opAt_some hk) (j % 6) (Nat.mod_lt _ (by decide))
  rw [← e1, hu] at hg
  have e2 : ra.add j = if j % 6 = 0 then ra.add (j / 6 * 6) else ⟨(ra.add (j / 6 * 6)).block, (ra.add (j / 6 * 6)).off + j % 6, none⟩ := by
    split
    · rename_i hz; congr 1; omega
    · rename_i hz
      unfold Addr.add
      rw [if_neg (by omega)]
      split
      · rename_i h6; have : j / 6 = 0 := by omega
        simp only [Addr.mk.injEq, true_and, and_true]; omega
      · simp only [Addr.mk.injEq, true_and, and_true]; omega
  rw [e2]
  have hm : j % 6 < 6 := Nat.mod_lt _ (by decide)
  generalize j % 6 = m at hg hm ⊢
  match m, hm with
  | 0, _ => rw [if_pos rfl, A.c0]; exact hg.symm
  | 1, _ => rw [if_neg (by decide), A.c1]; exact hg.symm
  | 2, _ => rw [if_neg (by decide), A.c2]; exact hg.symm
  | 3, _ => rw [if_neg (by decide), A.c3]; exact hg.symm
  | 4, _ => rw [if_neg (by decide), A.c4]; exact hg.symm
  | 5, _ => rw [if_neg (by decide), A.c5]; exact hg.symm
  | m + 6, h => exact absurd h (by omega)
theorem run_copyO {w : World} {v : Value} {l : List Opr} (hv : Ops w v l) (hl : l.length * 48 ≤ 140737488351232) (ty : TypeId) : ∃ v' w', (Builtin.append_ #[23, 23] ty #[.slice none 0 0, v]).run Tryd.prog w = .ok v' w' ∧ w'.ownsRow w.heap.size 37 6 v' l.length (opF l) ∧ Below w.heap.size w w' := by
  obtain ⟨i, h1, h2, h3, h4⟩ := info_parts info42
  have hown : w.ownsRow w.heap.size 37 6 (.slice none 0 0) 0 [] := ⟨rfl, .inl ⟨rfl, rfl⟩⟩
  obtain ⟨ao, cap, ev⟩ := hv.len
  have hmx := hv.max
  subst ev
  cases ao with
  | none =>
    obtain rfl : l = [] := by
      cases l with
      | nil => rfl
      | cons p l =>
        obtain ⟨ra, c2, e2, _⟩ := hv.cell (by simp)
        cases e2
    have hr : (Builtin.append_ #[23, 23] ty #[.slice none 0 0, .slice none 0 cap]).run Tryd.prog w = .ok (.slice none 0 0) w := by
      simp [Builtin.append_, run_underlying Tryd.underlying23, sizeOf, typeInfo, h1, Builtin.lenOf, Builtin.firstCells]
    exact ⟨_, w, hr, hown, Below.refl _ _⟩
  | some ra =>
    have hc : ∀ j u, (opF l)[j]? = some u → w.cell? (ra.add j) = some u := fun j u hu => by
      have h0 : 0 < l.length := by
        cases l with
        | nil => simp [opF] at hu
        | cons _ _ => simp
      exact hv.flat h0 j u hu
    obtain ⟨v', w', hr, q1, q2, _, _⟩ := run_append_own_at (P := Tryd.prog) w w.heap.size 23 ty 37 i (opV nilO) 6 48 Tryd.underlying23 h1 h2 h3 h4 rfl (by decide) (.slice none 0 0) 0 [] hown ra l.length cap (opF l) (opF_len l) hc (one_opF l) (by simp only [maxLen]; omega) (by omega) (Nat.le_refl _)
    rw [Nat.zero_add, List.nil_append] at q1
    exact ⟨v', w', hr, q1, (goes_grown (F := fun _ => False) q2 (fun k hk => by cases hk)).below (Nat.le_refl _) (fun _ h => h.elim)⟩
/-- The same onto a row of nothing. -/
theorem run_cloneO {w : World} {b : Nat} {v : Value} {l : List Opr} (hv : Ops w v l) (h0 : 0 < l.length) (hl : l.length ≤ 512) (hb : w.heap[b]? = some (.cells #[] 37)) (base : Nat) (hbase : base ≤ b) (ty : TypeId) : ∃ v' w', (Builtin.append_ #[23, 23] ty #[.slice (some ⟨b, 0, none⟩) 0 0, v]).run Tryd.prog w = .ok v' w' ∧ w'.ownsRow base 37 6 v' l.length (opF l) ∧ Goes (fun k => k = b) w w' := by
  obtain ⟨i, h1, h2, h3, h4⟩ := info_parts info42
  have hown : w.ownsRow base 37 6 (.slice (some ⟨b, 0, none⟩) 0 0) 0 [] := ⟨rfl, .inr ⟨b, 0, #[], rfl, hbase, hb, Nat.le_refl _, Nat.zero_le _, rfl, rfl⟩⟩
  obtain ⟨ra, cap, ev, _⟩ := hv.cell h0
  subst ev
  obtain ⟨v', w', hr, q1, q2, _, _⟩ := run_append_own_at (P := Tryd.prog) w base 23 ty 37 i (opV nilO) 6 48 Tryd.underlying23 h1 h2 h3 h4 rfl (by decide) (.slice (some ⟨b, 0, none⟩) 0 0) 0 [] hown ra l.length cap (opF l) (opF_len l) (fun j u hu => hv.flat h0 j u hu) (one_opF l) (by simp only [maxLen]; omega) (by omega) (by have := lt_of_some hb; omega)
  rw [Nat.zero_add, List.nil_append] at q1
  exact ⟨v', w', hr, q1, goes_grown q2 (fun k hk => by simpa [Value.ownBlock] using hk.symm)⟩
theorem run_none23 (w : World) : (Instr.buildSlice 23 0 #[]).run Tryd.prog w = .ok (.slice (some ⟨w.heap.size, 0, none⟩) 0 0) (w.alloc (.cells #[] 37)) := by
  obtain ⟨i, hi, hz, hs, hby⟩ := info_parts info42
  simp [Instr.buildSlice, run_underlying Tryd.underlying23, sizeOf, typeInfo, hi, hs, Instr.fill, newRow]
  congr 2
  apply Array.ext <;> simp
theorem wpList_none23 {ops : Array Oper} {rest : List Oper} {o : Oper} {a : Act} {w : World} {Q : Exit → Act → World → Prop} (hg : o.guard = none) (ho : o.op = .buildSlice 23 0 #[])
    (h : wpList Tryd.prog ops Q rest (a.put o.dst (.slice (some ⟨w.heap.size, 0, none⟩) 0 0)) (w.alloc (.cells #[] 37))) : wpList Tryd.prog ops Q (o :: rest) a w :=
  wpList_plain hg fun _ hK => by
    unfold Oper.wp execOp
    simp only [ho, Sem.run_bind, List.map_toArray, List.map_nil, run_none23, Result.andThen_ok]
    exact hK _ _ h
theorem wpList_clone {ops : Array Oper} {rest : List Oper} {o : Oper} {a : Act} {w : World} {Q : Exit → Act → World → Prop} (hgd : o.guard = none) (s x : Operand) (ho : o.op = .call { callee := .builtin .append, args := #[s, x], argTypes := #[23, 23] }) {v : Value} {b base : Nat} {l : List Opr} (hs : a.eval s = .slice (some ⟨b, 0, none⟩) 0 0) (hx : a.eval x = v) (O : Ops w v l) (h0 : 0 < l.length) (hl : l.length ≤ 512) (hb : w.heap[b]? = some (.cells #[] 37)) (hbase : base ≤ b)
    (h : ∀ v' w', w'.ownsRow base 37 6 v' l.length (opF l) → Goes (fun k => k = b) w w' → wpList Tryd.prog ops Q rest (a.put o.dst v') w') : wpList Tryd.prog ops Q (o :: rest) a w :=
  wpList_plain hgd fun _ hK => by
    obtain ⟨v', w', hr, q1, q2⟩ := run_cloneO O h0 hl hb base hbase o.type
    unfold Oper.wp execOp
    simp only [ho, resolve, invoke, builtin, Sem.run_bind, Sem.run_pure, Result.andThen_ok, List.map_toArray, List.map_cons, List.map_nil, hs, hx, hr]
    exact hK _ _ (h v' w' q1 q2)
set_option maxHeartbeats 2000000 in
theorem made_zero (n : Nat) : madeCells #[vU 0] n = ((List.replicate n (0 : Int)).map vU).toArray := by
  apply Array.ext
  · simp [madeCells]
  · intro i h1 h2
    simp [madeCells]
    rw [Nat.mod_one]
    rfl
theorem info22p : (Tryd.prog.info? 22).map (fun i => (i.zero, i.size, i.bytes)) = some (some (vU 0), 1, 8) := by kernel_rfl
end Go.Proofs.YtilhjbhhgpoajaaDoor
