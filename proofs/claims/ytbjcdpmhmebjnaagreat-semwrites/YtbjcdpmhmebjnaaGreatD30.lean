/- SemWrites returns true: its walk. -/
import Derived.Test.YtbjcdpmhmebjnaaGreatD23
import Derived.Test.YtbjcdpmhmebjnaaGreatD24
import Derived.Test.YtbjcdpmhmebjnaaGreatD25
import Derived.Test.YtbjcdpmhmebjnaaGreatD29
import Derived.Deep.LoopGhost
import Derived.BigQuiet
import Derived.Test.YtbjcdpmhmebjnaaGreatRows
import Derived.ProofKit
import Derived.OpenShut
import Derived.Test.YtbjcdpmhmebjnaaGreatD04
namespace Go.Proofs.YtbjcdpmhmebjnaaGreat.semWrites
open Go.RowKit
set_option linter.unusedVariables false

set_option maxRecDepth 8000 in
set_option maxHeartbeats 16000000 in
theorem walk_c (c d : Cor) (word : Int) (i : Ins) (k : Gt) (hend : ∀ w : World, Calls Tryz.prog 13 #[c.val, .int .u32 word, k.val] w fun e w' => e = .returned (.tuple #[d.val, .int .i64 0]) ∧ Below w.heap.size w w') (hdec : ∀ w : World, Calls Tryz.prog 15 #[.int .u32 word] w fun e w' => e = .returned i.val ∧ Below w.heap.size w w') (hx : Hid (∀ (r : Nat) (h : r < 31), (setOf i (writesV i)).testBit r = false → d.x[r] = c.x[r])) (hid : d.id = c.id) (hB2 : (rightB i && flag2 i) = false) (ho : (i.op != 36) = true) (hs : SameF c d) (hcl : Hid ((12 ≤ i.op ∧ i.op ≤ 16) ∨ i.op < 12 ∨ (16 < i.op ∧ (i.op == 36) = false))) (hpc : Hid (i.op < 12 → IntKind.u64.wrap (c.pc + 4) = d.pc ∨ IntKind.u64.wrap (c.vbar + 512) = d.pc ∨ IntKind.u64.wrap (c.vbar + 1024) = d.pc)) (hpc2 : Hid (16 < i.op → (i.op == 36) = false → IntKind.u64.wrap (c.pc + 4) = d.pc ∨ IntKind.u64.wrap (c.vbar + 512) = d.pc ∨ IntKind.u64.wrap (c.vbar + 1024) = d.pc)) (w : World) :
    Calls Tryz.prog 5 #[c.val, .int .u32 word, k.val] w fun e w' => e = .returned (.bool true) ∧ Below w.heap.size w w' := by
  go_enter Tryz.func5, Tryz.ntmps5
  go_upto_region 1 with fail
  have H := stwo_start w c.cells k.cells 26 40
  generalize hb : w.heap.size = b at H ⊢
  generalize (w.alloc _).alloc _ = w0 at H ⊢
  go_upto_region 2 with (go_at_call 8; refine (examples_c _).mono ?_; rintro e wa ⟨rfl, hB⟩; dsimp only; replace H := H.grow hB)
  go_upto_region 3 with (first | ((with_reducible refine wpList_load_ifA rfl 26 _ rfl b rfl 26 _ (0, 0) _ (H.get (List.mem_cons_of_mem _ List.mem_cons_self)) Tryz.underlying26 rfl (Cor.info _) ?_); simp only [Act.put, List.setIfInBounds_toArray, List.set_cons_succ, List.set_cons_zero]) | ((with_reducible refine wpList_load_ifA rfl 40 _ rfl (b + 1) rfl 40 _ (0, 0) _ (H.get List.mem_cons_self) Tryz.underlying40 rfl (Gt.info _) ?_); simp only [Act.put, List.setIfInBounds_toArray, List.set_cons_succ, List.set_cons_zero]) | (go_at_call 13; refine (hend _).mono ?_; rintro e wa ⟨rfl, hB⟩; dsimp only; replace H := H.grow hB) | ((with_reducible refine wpList_store_new H rfl 26 _ _ rfl d.cells rfl rfl (Cor.info _) ?_ (Cor.one _) ?_); (focus (rw [Cor.size]; rfl)); intro wb H; simp only [Act.put]))
  generalize wa.heap.size = t8 at H ⊢
  go_upto_region 6 with (first | (go_at_call 15; refine (hdec _).mono ?_; rintro e wa ⟨rfl, hB⟩; dsimp only; replace H := H.grow hB) | ((with_reducible refine wpList_store_new H rfl 47 _ _ rfl i.cells rfl rfl (Ins.infoC i) ?_ (Ins.oneC i) ?_); (focus rfl); intro wb H; simp only [Act.put]))
  generalize wa.heap.size = t10 at H ⊢
  go_upto_region 7 with (first | ((with_reducible refine wpList_load_ifA rfl 47 _ rfl t10 rfl 47 _ (0, 0) _ (H.get List.mem_cons_self) Tryz.underlying47 rfl (Ins.infoC i) ?_); simp only [Act.put, List.setIfInBounds_toArray, List.set_cons_succ, List.set_cons_zero]) | (go_at_call 16; refine (Writes_c i _).mono ?_; rintro e wa ⟨vv, rfl, hown, hB⟩; dsimp only; replace H := H.grow hB))
  have hown2 : wa.ownsRow wb.heap.size 3 1 vv (listL (setOf i (writesV i)) 32).length (listV (setOf i (writesV i)) 32) := hown
  have HH : Hid (Has w [(t10, i.cells, 47), (t8, d.cells, 26), (b + 1, k.cells, 40), (b, c.cells, 26)] wa ∧ wa.ownsRow wb.heap.size 3 1 vv (listL (setOf i (writesV i)) 32).length (listV (setOf i (writesV i)) 32)) := ⟨H, hown2⟩
  clear H hown hown2 hB
  go_wp2
  generalize wb.heap.size = B at HH ⊢
  go_loopg [12] 31 (fun gk s12 wx => ∃ kk : Nat, kk + gk = 31 ∧ s12 = .int .i64 kk ∧ Hid (Has w [(t10, i.cells, 47), (t8, d.cells, 26), (b + 1, k.cells, 40), (b, c.cells, 26)] wx ∧ wx.ownsRow B 3 1 vv (listL (setOf i (writesV i)) 32).length (listV (setOf i (writesV i)) 32)))
  case atStart => exact ⟨0, by omega, rfl, HH⟩
  case round =>
    obtain ⟨kk, hkg, rfl, hH⟩ := hrel
    obtain ⟨H, hown⟩ := hH.out
    by_cases hlt : (kk : Int) < 31
    · have e1 := H.at (b := t8) (t := 26) (c := d.cells) (List.mem_cons_of_mem _ List.mem_cons_self) kk (.int .u64 d.x[kk]) (d.atX kk (by omega))
      have e2 := H.at (b := b) (t := 26) (c := c.cells) (List.mem_cons_of_mem _ (List.mem_cons_of_mem _ (List.mem_cons_of_mem _ List.mem_cons_self))) kk (.int .u64 c.x[kk]) (c.atX kk (by omega))
      cases hw : (setOf i (writesV i)).testBit kk
      · have hxe := hx.out kk (by omega) hw
        rw [hxe] at e1
        generalize c.x[kk] = X at e1 e2
        go_wp2_with (go_at_call 17; refine (in_row hown kk (by omega)).mono ?_; rw [hw]; rintro e wz ⟨rfl, rfl⟩; dsimp only)
        go_quiet (fail)
        go_wp2
        go_roundg (gk - 1)
        case rel =>
          refine ⟨kk + 1, by omega, by go_num, ?_⟩
          exact ⟨H.grow ⟨rfl, rfl, rfl, Nat.le_refl _, fun _ _ => rfl⟩, hown⟩
        case measure => omega
      · by_cases hne : d.x[kk] = c.x[kk]
        · rw [hne] at e1
          generalize c.x[kk] = X at e1 e2
          go_wp2_with (go_at_call 17; refine (in_row hown kk (by omega)).mono ?_; rw [hw]; rintro e wz ⟨rfl, rfl⟩; dsimp only)
          go_quiet (fail)
          go_wp2
          go_roundg (gk - 1)
          case rel =>
            refine ⟨kk + 1, by omega, by go_num, ?_⟩
            exact ⟨H.grow ⟨rfl, rfl, rfl, Nat.le_refl _, fun _ _ => rfl⟩, hown⟩
          case measure => omega
        · have hne' : (d.x[kk] != c.x[kk]) = true := by simpa using hne
          generalize d.x[kk] = X at e1 hne hne'
          generalize c.x[kk] = Y at e2 hne hne'
          go_wp2_with (go_at_call 17; refine (in_row hown kk (by omega)).mono ?_; rw [hw]; rintro e wz ⟨rfl, rfl⟩; dsimp only)
          go_quiet (fail)
          go_wp2
          go_roundg (gk - 1)
          case rel =>
            refine ⟨kk + 1, by omega, by go_num, ?_⟩
            exact ⟨H.grow ⟨rfl, rfl, rfl, Nat.le_refl _, fun _ _ => rfl⟩, hown⟩
          case measure => omega
    · clear hx hH hown
      go_upto_region 14 with (first | ((with_reducible refine wpList_load_ifA rfl 47 _ rfl t10 rfl 47 _ (0, 0) _ (H.get List.mem_cons_self) Tryz.underlying47 rfl (Ins.infoC i) ?_); simp only [Act.put, List.setIfInBounds_toArray, List.set_cons_succ, List.set_cons_zero]) | (go_at_call 18; refine (Flags_c i _).mono ?_; rw [hB2]; rintro e wa ⟨rfl, hB⟩; dsimp only; replace H := H.grow hB))
      have o0 := H.at (b := t10) (t := 47) (c := i.cells) List.mem_cons_self 0 (.int .i64 i.op) rfl
      have di := H.at (b := t8) (t := 26) (c := d.cells) (List.mem_cons_of_mem _ List.mem_cons_self) 46 (.int .i64 d.id) d.a46
      rw [hid] at di
      have ci := H.at (b := b) (t := 26) (c := c.cells) (List.mem_cons_of_mem _ (List.mem_cons_of_mem _ (List.mem_cons_of_mem _ List.mem_cons_self))) 46 (.int .i64 c.id) c.a46
      have dn := H.at (b := t8) (t := 26) (c := d.cells) (List.mem_cons_of_mem _ List.mem_cons_self) 34 (.bool d.n) d.a34
      have dz := H.at (b := t8) (t := 26) (c := d.cells) (List.mem_cons_of_mem _ List.mem_cons_self) 35 (.bool d.z) d.a35
      have dc := H.at (b := t8) (t := 26) (c := d.cells) (List.mem_cons_of_mem _ List.mem_cons_self) 36 (.bool d.c) d.a36
      have dv := H.at (b := t8) (t := 26) (c := d.cells) (List.mem_cons_of_mem _ List.mem_cons_self) 37 (.bool d.v) d.a37
      have cn := H.at (b := b) (t := 26) (c := c.cells) (List.mem_cons_of_mem _ (List.mem_cons_of_mem _ (List.mem_cons_of_mem _ List.mem_cons_self))) 34 (.bool c.n) c.a34
      have cz := H.at (b := b) (t := 26) (c := c.cells) (List.mem_cons_of_mem _ (List.mem_cons_of_mem _ (List.mem_cons_of_mem _ List.mem_cons_self))) 35 (.bool c.z) c.a35
      have cc := H.at (b := b) (t := 26) (c := c.cells) (List.mem_cons_of_mem _ (List.mem_cons_of_mem _ (List.mem_cons_of_mem _ List.mem_cons_self))) 36 (.bool c.c) c.a36
      have cv := H.at (b := b) (t := 26) (c := c.cells) (List.mem_cons_of_mem _ (List.mem_cons_of_mem _ (List.mem_cons_of_mem _ List.mem_cons_self))) 37 (.bool c.v) c.a37
      have dp := H.at (b := t8) (t := 26) (c := d.cells) (List.mem_cons_of_mem _ List.mem_cons_self) 33 (.int .u64 d.pc) d.a33
      have cp := H.at (b := b) (t := 26) (c := c.cells) (List.mem_cons_of_mem _ (List.mem_cons_of_mem _ (List.mem_cons_of_mem _ List.mem_cons_self))) 33 (.int .u64 c.pc) c.a33
      have cb := H.at (b := b) (t := 26) (c := c.cells) (List.mem_cons_of_mem _ (List.mem_cons_of_mem _ (List.mem_cons_of_mem _ List.mem_cons_self))) 44 (.int .u64 c.vbar) c.a44
      clear hid
      generalize d.pc = P at dp hpc hpc2
      rw [hs.nn] at dn
      rw [hs.zz] at dz
      rw [hs.cc] at dc
      rw [hs.vv] at dv
      clear hs
      go_upto_region 16 with fail
      clear dn dz dc dv cn cz cc cv di ci
      rcases hcl.out with ⟨q1, q2⟩ | q1 | ⟨q1, q2⟩
      · clear hpc
        go_wp2
        all_goals (go_ret; exact ⟨rfl, by first | exact H.below | (rw [← hb]; exact H.below)⟩)
      · rcases hpc.out q1 with q | q | q
        all_goals (clear hpc; go_wp2)
        all_goals (go_ret; exact ⟨rfl, by first | exact H.below | (rw [← hb]; exact H.below)⟩)
      · rcases hpc2.out q1 q2 with q | q | q
        all_goals (clear hpc2; go_wp2)
        all_goals (go_ret; exact ⟨rfl, by first | exact H.below | (rw [← hb]; exact H.below)⟩)
end Go.Proofs.YtbjcdpmhmebjnaaGreat.semWrites
/- Values that lead to no memory (numbers, bools, strings, and structs and arrays of such): they read the same in every world. -/
namespace Go.Proofs.YtbjcdpmhmebjnaaGreat
open Go.ChangeShapes Go.WideShapes Go.ChangeAt Go.RowKit

def flatT (P : Program) : Nat → TypeId → Bool
  | 0, _ => true
  | n + 1, t => match P.underlying t with
    | some .bool | some (.int _) | some .string => true
    | some (.struct fs) => fs.toList.all fun f => flatT P n f.type
    | some (.array _ e) => flatT P n e
    | _ => false

theorem mapM_congr' {α β : Type} {f g : α → Option β} : ∀ {l : List α}, (∀ x ∈ l, f x = g x) → l.mapM f = l.mapM g
  | [], _ => rfl
  | x :: l, h => by rw [List.mapM_cons, List.mapM_cons, h x (by simp), mapM_congr' (fun y hy => h y (by simp [hy]))]

section
variable {H : Type} {enc : TypeId × Value → H} {P : Program}
theorem trod_flat {w w' : World} {b b' : Nat} {s s' : Nat → Bool} {h h' : Bool} : ∀ (fuel : Nat) (t : TypeId) (cs : List Value), flatT P fuel t = true →
    DataW.trod enc P w b s h fuel t cs = DataW.trod enc P w' b' s' h' fuel t cs
  | 0, _, _, _ => rfl
  | n + 1, t, cs, hf => by
    unfold flatT at hf
    unfold DataW.trod
    cases hu : P.underlying t with
    | none => rfl
    | some d =>
      rw [hu] at hf
      cases d with
      | bool => rcases cs with _ | ⟨v, _ | ⟨v2, rest⟩⟩ <;> (try cases v) <;> rfl
      | int k => rcases cs with _ | ⟨v, _ | ⟨v2, rest⟩⟩ <;> (try cases v) <;> rfl
      | string => rcases cs with _ | ⟨v, _ | ⟨v2, rest⟩⟩ <;> (try cases v) <;> rfl
      | struct fs =>
        simp only [List.all_eq_true] at hf
        dsimp only
        rw [mapM_congr' (fun f hm => trod_flat n f.type _ (hf f hm))]
      | array m e =>
        dsimp only at hf ⊢
        rw [mapM_congr' (fun i _ => trod_flat n e _ hf)]
      | _ => simp at hf
theorem trod_flat_nil {w : World} {b : Nat} {s : Nat → Bool} {h : Bool} : ∀ (fuel : Nat) (t : TypeId) (cs : List Value) (x : DataW H × List MemPlace), flatT P fuel t = true → DataW.trod enc P w b s h fuel t cs = some x → x.2 = []
  | 0, _, _, _, _, hx => by simp [DataW.trod] at hx
  | n + 1, t, cs, x, hf, hx => by
    unfold flatT at hf
    cases hu : P.underlying t with
    | none => unfold DataW.trod at hx; rw [hu] at hx; simp at hx
    | some d =>
      rw [hu] at hf
      cases d with
      | bool => obtain ⟨_, _, rfl⟩ := DataW.trod_bool hu hx; rfl
      | int k => obtain ⟨_, _, rfl, _⟩ := DataW.trod_int hu hx; rfl
      | string =>
        unfold DataW.trod at hx
        rw [hu] at hx
        split at hx <;> simp_all
        obtain ⟨_, rfl⟩ := hx; rfl
      | struct fs =>
        simp only [List.all_eq_true] at hf
        obtain ⟨xs, m, hm, rfl, -, hl, hq⟩ := DataW.trod_struct hu hx
        obtain rfl : n = m := by omega
        dsimp only
        rw [List.flatMap_eq_nil_iff]
        intro y hy
        obtain ⟨i, hi, rfl⟩ := List.mem_iff_getElem.1 hy
        have hi' : i < fs.size := by omega
        refine trod_flat_nil n fs[i].type _ _ (hf _ (by simp)) ((hq i fs[i] (by simp [hi'])).trans (by simp [hi]))
      | array m e =>
        obtain ⟨xs, k, hm, rfl, -, hl, hq⟩ := DataW.trod_array hu hx
        obtain rfl : n = k := by omega
        dsimp only at hf ⊢
        rw [List.flatMap_eq_nil_iff]
        intro y hy
        obtain ⟨i, hi, rfl⟩ := List.mem_iff_getElem.1 hy
        exact trod_flat_nil n e _ _ hf ((hq i (by omega)).trans (by simp [hi]))
      | _ => simp at hf
/-- What was read is read again, wherever. -/
theorem Trod_flat {w w' : World} {b b' : Nat} {s s' : Nat → Bool} {h h' : Bool} {t : TypeId} {v : Value} {d : DataW H} {p : List MemPlace} (hf : ∀ n, flatT P n t = true) (hx : DataW.Trod enc P w b s h t v d p) :
    p = [] ∧ DataW.Trod enc P w' b' s' h' t v d [] := by
  obtain ⟨fuel, hx⟩ := hx
  have := trod_flat_nil fuel t _ _ (hf fuel) hx
  simp only at this
  subst this
  exact ⟨rfl, fuel, (trod_flat fuel t _ (hf fuel)).symm.trans hx⟩
end

/-- What is left to show where no argument leads to memory: whatever blocks the call has laid, frozen or not, nothing that came in is met in them. -/
theorem post_flat {H : Type} {enc : TypeId × Value → H} {P : Program} {f : Func} {s : ChangeSpec} {apart fresh handsOn again : Bool} {W W' : World} {args : Array Value} {v : Value} {ds gs : List (DataW H)}
    (hW : DataW.Whole enc P f.params.toList s.vars apart W args.toList ds gs [])
    (hres : ∀ (b : Nat) (sp : Nat → Bool) (hd : Bool), DataW.TrodAll enc P W' b sp hd f.resultTypes.toList (v.resultList f.resultTypes.size) (s.fn H (ds ++ gs)).results [])
    (hargs : ∀ sp : Nat → Bool, DataW.TrodAll enc P W' 0 sp true f.params.toList args.toList (s.fn H (ds ++ gs)).args [])
    (hvars : ∀ sp : Nat → Bool, DataW.TrodVars enc P W' sp s.vars (s.fn H (ds ++ gs)).vars []) (hk : ∀ may, W.keptBut W' may)
    (hok : ∀ (j : Nat) (t : TypeId) (r : Value), f.resultTypes[j]? = some t → (v.resultList f.resultTypes.size)[j]? = some r → Value.okWide P W' .any 0 t r) :
    s.post enc P f apart fresh handsOn again W args v W' := by
  refine ⟨ds, gs, [], [], [], [], hW, hres _ _ _, hargs _, hvars _, hk _, fun _ => ?_⟩
  refine ⟨hok, _, _, ([] ++ []) ++ [], ⟨[] ++ [], [], trodAll_append (hargs _) (hres _ _ _), hvars _, rfl, ?_, ?_⟩, ?_⟩
  · intro b off hp; simp at hp
  · intro _; simp
  · intro p hp; simp at hp
end Go.Proofs.YtbjcdpmhmebjnaaGreat
/- A core's state that came in: its fields. -/
namespace Go.Proofs.YtbjcdpmhmebjnaaGreat
open Go.ChangeShapes Go.WideShapes Go.ChangeAt Go.RowKit

theorem own : ownKnob Tryz.prog.godebug = none := by kernel_rfl
theorem cells26 : Tryz.prog.cellsOf 26 = 49 := by kernel_rfl
theorem cells23 : Tryz.prog.cellsOf 23 = 31 := by kernel_rfl
theorem cells24 : Tryz.prog.cellsOf 24 = 2 := by kernel_rfl
theorem cells3 : Tryz.prog.cellsOf 3 = 1 := by kernel_rfl
theorem cells4 : Tryz.prog.cellsOf 4 = 1 := by kernel_rfl
theorem flat22 (n : Nat) : flatT Tryz.prog n 22 = true := by cases n <;> simp [flatT, Tryz.underlying22]
theorem flat3 (n : Nat) : flatT Tryz.prog n 3 = true := by cases n <;> simp [flatT, Tryz.underlying3]
theorem flat4 (n : Nat) : flatT Tryz.prog n 4 = true := by cases n <;> simp [flatT, Tryz.underlying4]
theorem flat23 (n : Nat) : flatT Tryz.prog n 23 = true := by cases n <;> simp [flatT, Tryz.underlying23, flat22]
theorem flat24 (n : Nat) : flatT Tryz.prog n 24 = true := by cases n <;> simp [flatT, Tryz.underlying24, flat22]
theorem flat26 (n : Nat) : flatT Tryz.prog n 26 = true := by cases n <;> simp [flatT, Tryz.underlying26, flat22, flat3, flat4, flat23, flat24]
theorem u64_of {a : Int} (h : (Lit.int .u64 a).wf = true) : Hid (U64 a) := by
  have := bounds_u64 h
  exact ⟨this.1, by omega⟩
theorem take_one {α : Type} {l : List α} {k : Nat} {v : α} (h : (l.drop k).take 1 = [v]) : l[k]? = some v := by
  have := congrArg (fun l => l[0]?) h
  simpa [List.getElem?_take, List.getElem?_drop] using this
structure Cor.WF (c : Cor) : Prop where
  vbar : U64 c.vbar
  elr : U64 c.elr
  spsr : U64 c.spsr
  esr : U64 c.esr
  far : U64 c.far
  sp0 : U64 c.sp0
  tpidr : U64 c.tpidr
  pc : U64 c.pc
  sp1 : U64 c.sp1
  x : ∀ (i : Nat) (h : i < 31), U64 c.x[i]
section
variable {H : Type} {enc : TypeId × Value → H} {W : World} {b0 : Nat} {spare : Nat → Bool} {held : Bool}
theorem arr_cells {n : Nat} {t : TypeId} (ht : Tryz.prog.underlying t = some (.array n 22)) {fuel : Nat} {cs : List Value} {x : DataW H × List MemPlace} (h : DataW.trod enc Tryz.prog W b0 spare held fuel t cs = some x) (i : Nat) (hi : i < n) :
    ∃ z, cs[i]? = some (vU z) ∧ U64 z := by
  obtain ⟨xs, m, -, -, -, hl, hq⟩ := DataW.trod_array ht h
  have q := hq i hi
  rw [List.getElem?_eq_getElem (by omega)] at q
  obtain ⟨z, e, -, wz⟩ := DataW.trod_int Tryz.underlying22 q
  rw [cells22, Nat.mul_one] at e
  exact ⟨z, take_one e, u64_of wz⟩
set_option maxRecDepth 100000 in
set_option maxHeartbeats 1000000 in
theorem open_core {r : Reach} {base : Nat} {v : Value} {d : DataW H} {p : List MemPlace} (hv : Value.okWide Tryz.prog W r base 26 v) (h : DataW.Trod enc Tryz.prog W b0 spare held 26 v d p) : ∃ c : Cor, v = c.val ∧ c.WF := by
  obtain ⟨cs, rfl, hsz⟩ := okWide_struct Tryz.underlying26 hv
  rw [cells26] at hsz
  obtain ⟨fuel, hf⟩ := h
  obtain ⟨xs, n, -, hx, -, hlen, hq⟩ := DataW.trod_struct Tryz.underlying26 hf
  have hlen : xs.length = 18 := hlen
  clear hf hv hx
  simp only [Value.cells] at hq
  have U : ∀ k z, cs.toList[k]? = some z → cs[k]? = some z := fun k z h => by rwa [Array.getElem?_toList] at h
  have q0 : DataW.trod enc Tryz.prog W b0 spare held n 23 ((cs.toList.drop 0).take 31) = some (xs[0]'(by omega)) := by
    rw [← List.getElem?_eq_getElem, ← cells23]; exact hq 0 _ rfl
  have q1 : DataW.trod enc Tryz.prog W b0 spare held n 24 ((cs.toList.drop 31).take 2) = some (xs[1]'(by omega)) := by
    rw [← List.getElem?_eq_getElem, ← cells24]; exact hq 1 _ rfl
  have q2 : DataW.trod enc Tryz.prog W b0 spare held n 22 ((cs.toList.drop 33).take 1) = some (xs[2]'(by omega)) := by
    rw [← List.getElem?_eq_getElem, ← cells22]; exact hq 2 _ rfl
  have q3 : DataW.trod enc Tryz.prog W b0 spare held n 4 ((cs.toList.drop 34).take 1) = some (xs[3]'(by omega)) := by
    rw [← List.getElem?_eq_getElem, ← cells4]; exact hq 3 _ rfl
  have q4 : DataW.trod enc Tryz.prog W b0 spare held n 4 ((cs.toList.drop 35).take 1) = some (xs[4]'(by omega)) := by
    rw [← List.getElem?_eq_getElem, ← cells4]; exact hq 4 _ rfl
  have q5 : DataW.trod enc Tryz.prog W b0 spare held n 4 ((cs.toList.drop 36).take 1) = some (xs[5]'(by omega)) := by
    rw [← List.getElem?_eq_getElem, ← cells4]; exact hq 5 _ rfl
  have q6 : DataW.trod enc Tryz.prog W b0 spare held n 4 ((cs.toList.drop 37).take 1) = some (xs[6]'(by omega)) := by
    rw [← List.getElem?_eq_getElem, ← cells4]; exact hq 6 _ rfl
  have q7 : DataW.trod enc Tryz.prog W b0 spare held n 3 ((cs.toList.drop 38).take 1) = some (xs[7]'(by omega)) := by
    rw [← List.getElem?_eq_getElem, ← cells3]; exact hq 7 _ rfl
  have q8 : DataW.trod enc Tryz.prog W b0 spare held n 4 ((cs.toList.drop 39).take 1) = some (xs[8]'(by omega)) := by
    rw [← List.getElem?_eq_getElem, ← cells4]; exact hq 8 _ rfl
  have q9 : DataW.trod enc Tryz.prog W b0 spare held n 22 ((cs.toList.drop 40).take 1) = some (xs[9]'(by omega)) := by
    rw [← List.getElem?_eq_getElem, ← cells22]; exact hq 9 _ rfl
  have q10 : DataW.trod enc Tryz.prog W b0 spare held n 22 ((cs.toList.drop 41).take 1) = some (xs[10]'(by omega)) := by
    rw [← List.getElem?_eq_getElem, ← cells22]; exact hq 10 _ rfl
  have q11 : DataW.trod enc Tryz.prog W b0 spare held n 22 ((cs.toList.drop 42).take 1) = some (xs[11]'(by omega)) := by
    rw [← List.getElem?_eq_getElem, ← cells22]; exact hq 11 _ rfl
  have q12 : DataW.trod enc Tryz.prog W b0 spare held n 22 ((cs.toList.drop 43).take 1) = some (xs[12]'(by omega)) := by
    rw [← List.getElem?_eq_getElem, ← cells22]; exact hq 12 _ rfl
  have q13 : DataW.trod enc Tryz.prog W b0 spare held n 22 ((cs.toList.drop 44).take 1) = some (xs[13]'(by omega)) := by
    rw [← List.getElem?_eq_getElem, ← cells22]; exact hq 13 _ rfl
  have q14 : DataW.trod enc Tryz.prog W b0 spare held n 22 ((cs.toList.drop 45).take 1) = some (xs[14]'(by omega)) := by
    rw [← List.getElem?_eq_getElem, ← cells22]; exact hq 14 _ rfl
  have q15 : DataW.trod enc Tryz.prog W b0 spare held n 3 ((cs.toList.drop 46).take 1) = some (xs[15]'(by omega)) := by
    rw [← List.getElem?_eq_getElem, ← cells3]; exact hq 15 _ rfl
  have q16 : DataW.trod enc Tryz.prog W b0 spare held n 3 ((cs.toList.drop 47).take 1) = some (xs[16]'(by omega)) := by
    rw [← List.getElem?_eq_getElem, ← cells3]; exact hq 16 _ rfl
  have q17 : DataW.trod enc Tryz.prog W b0 spare held n 4 ((cs.toList.drop 48).take 1) = some (xs[17]'(by omega)) := by
    rw [← List.getElem?_eq_getElem, ← cells4]; exact hq 17 _ rfl
  clear hq
  have X : ∀ i, i < 31 → ∃ z, cs[i]? = some (vU z) ∧ U64 z := fun i hi => by
    obtain ⟨z, e, wz⟩ := arr_cells Tryz.underlying23 q0 i hi
    exact ⟨z, U _ _ (by simpa [List.getElem?_take, hi] using e), wz⟩
  obtain ⟨sp0, e31, wsp0⟩ : ∃ z, cs[31]? = some (vU z) ∧ U64 z := by
    obtain ⟨z, e, wz⟩ := arr_cells Tryz.underlying24 q1 0 (by decide)
    exact ⟨z, U _ _ (by simpa [List.getElem?_take, List.getElem?_drop] using e), wz⟩
  obtain ⟨sp1, e32, wsp1⟩ : ∃ z, cs[32]? = some (vU z) ∧ U64 z := by
    obtain ⟨z, e, wz⟩ := arr_cells Tryz.underlying24 q1 1 (by decide)
    exact ⟨z, U _ _ (by simpa [List.getElem?_take, List.getElem?_drop] using e), wz⟩
  obtain ⟨a2, e33, -, ww2⟩ := DataW.trod_int Tryz.underlying22 q2
  replace e33 := U _ _ (take_one e33)
  obtain ⟨a3, e34, -⟩ := DataW.trod_bool Tryz.underlying4 q3
  replace e34 := U _ _ (take_one e34)
  obtain ⟨a4, e35, -⟩ := DataW.trod_bool Tryz.underlying4 q4
  replace e35 := U _ _ (take_one e35)
  obtain ⟨a5, e36, -⟩ := DataW.trod_bool Tryz.underlying4 q5
  replace e36 := U _ _ (take_one e36)
  obtain ⟨a6, e37, -⟩ := DataW.trod_bool Tryz.underlying4 q6
  replace e37 := U _ _ (take_one e37)
  obtain ⟨a7, e38, -, -⟩ := DataW.trod_int Tryz.underlying3 q7
  replace e38 := U _ _ (take_one e38)
  obtain ⟨a8, e39, -⟩ := DataW.trod_bool Tryz.underlying4 q8
  replace e39 := U _ _ (take_one e39)
  obtain ⟨a9, e40, -, ww9⟩ := DataW.trod_int Tryz.underlying22 q9
  replace e40 := U _ _ (take_one e40)
  obtain ⟨a10, e41, -, ww10⟩ := DataW.trod_int Tryz.underlying22 q10
  replace e41 := U _ _ (take_one e41)
  obtain ⟨a11, e42, -, ww11⟩ := DataW.trod_int Tryz.underlying22 q11
  replace e42 := U _ _ (take_one e42)
  obtain ⟨a12, e43, -, ww12⟩ := DataW.trod_int Tryz.underlying22 q12
  replace e43 := U _ _ (take_one e43)
  obtain ⟨a13, e44, -, ww13⟩ := DataW.trod_int Tryz.underlying22 q13
  replace e44 := U _ _ (take_one e44)
  obtain ⟨a14, e45, -, ww14⟩ := DataW.trod_int Tryz.underlying22 q14
  replace e45 := U _ _ (take_one e45)
  obtain ⟨a15, e46, -, -⟩ := DataW.trod_int Tryz.underlying3 q15
  replace e46 := U _ _ (take_one e46)
  obtain ⟨a16, e47, -, -⟩ := DataW.trod_int Tryz.underlying3 q16
  replace e47 := U _ _ (take_one e47)
  obtain ⟨a17, e48, -⟩ := DataW.trod_bool Tryz.underlying4 q17
  replace e48 := U _ _ (take_one e48)
  clear q0 q1
  have X' : ∀ i : Nat, ∃ z, i < 31 → cs[i]? = some (vU z) ∧ U64 z := fun i => by
    by_cases hi : i < 31
    · obtain ⟨z, e⟩ := X i hi; exact ⟨z, fun _ => e⟩
    · exact ⟨0, fun h => absurd h hi⟩
  obtain ⟨f, hf⟩ := Classical.skolem.1 X'
  refine ⟨⟨Vector.ofFn (fun i => f i), sp0, sp1, a2, a3, a4, a5, a6, a7, a8, a9, a10, a11, a12, a13, a14, a15, a16, a17⟩, ?_, ⟨u64_of ww13, u64_of ww10, u64_of ww9, u64_of ww11, u64_of ww12, wsp0, u64_of ww14, u64_of ww2, wsp1, fun i hi => by simpa using (hf i hi).2⟩⟩
  show Value.agg cs = Value.agg _
  congr 1
  apply Array.ext_getElem?
  intro k
  by_cases hk : k < 31
  · rw [(hf k hk).1, Cor.atX _ k hk]; simp
  · by_cases h2 : k < 49
    · have : k = 31 ∨ k = 32 ∨ k = 33 ∨ k = 34 ∨ k = 35 ∨ k = 36 ∨ k = 37 ∨ k = 38 ∨ k = 39 ∨ k = 40 ∨ k = 41 ∨ k = 42 ∨ k = 43 ∨ k = 44 ∨ k = 45 ∨ k = 46 ∨ k = 47 ∨ k = 48 := by omega
      rcases this with rfl | rfl | rfl | rfl | rfl | rfl | rfl | rfl | rfl | rfl | rfl | rfl | rfl | rfl | rfl | rfl | rfl | rfl
      · rw [e31, Cor.a31]
      · rw [e32, Cor.a32]
      · rw [e33, Cor.a33]
      · rw [e34, Cor.a34]
      · rw [e35, Cor.a35]
      · rw [e36, Cor.a36]
      · rw [e37, Cor.a37]
      · rw [e38, Cor.a38]
      · rw [e39, Cor.a39]
      · rw [e40, Cor.a40]
      · rw [e41, Cor.a41]
      · rw [e42, Cor.a42]
      · rw [e43, Cor.a43]
      · rw [e44, Cor.a44]
      · rw [e45, Cor.a45]
      · rw [e46, Cor.a46]
      · rw [e47, Cor.a47]
      · rw [e48, Cor.a48]
    · rw [Array.getElem?_eq_none (by omega), Array.getElem?_eq_none (by rw [Cor.size]; omega)]
end
end Go.Proofs.YtbjcdpmhmebjnaaGreat
/- What came of what was wanted, as it came in: its fields. -/
namespace Go.Proofs.YtbjcdpmhmebjnaaGreat
open Go.ChangeShapes Go.WideShapes Go.ChangeAt Go.RowKit

theorem cells40 : Tryz.prog.cellsOf 40 = 3 := by kernel_rfl
theorem flat40 (n : Nat) : flatT Tryz.prog n 40 = true := by cases n <;> simp [flatT, Tryz.underlying40, flat22, flat3, flat4]
section
variable {H : Type} {enc : TypeId × Value → H} {W : World} {b0 : Nat} {spare : Nat → Bool} {held : Bool}
set_option maxRecDepth 100000 in
set_option maxHeartbeats 1000000 in
theorem open_got {r : Reach} {base : Nat} {v : Value} {d : DataW H} {p : List MemPlace} (hv : Value.okWide Tryz.prog W r base 40 v) (h : DataW.Trod enc Tryz.prog W b0 spare held 40 v d p) : ∃ k : Gt, v = k.val ∧ U64 k.value := by
  obtain ⟨cs, rfl, hsz⟩ := okWide_struct Tryz.underlying40 hv
  rw [cells40] at hsz
  obtain ⟨fuel, hf⟩ := h
  obtain ⟨xs, n, -, hx, -, hlen, hq⟩ := DataW.trod_struct Tryz.underlying40 hf
  have hlen : xs.length = 3 := hlen
  clear hf hv hx
  simp only [Value.cells] at hq
  have U : ∀ k z, cs.toList[k]? = some z → cs[k]? = some z := fun k z h => by rwa [Array.getElem?_toList] at h
  have q0 : DataW.trod enc Tryz.prog W b0 spare held n 22 ((cs.toList.drop 0).take 1) = some (xs[0]'(by omega)) := by
    rw [← List.getElem?_eq_getElem, ← cells22]; exact hq 0 _ rfl
  have q1 : DataW.trod enc Tryz.prog W b0 spare held n 4 ((cs.toList.drop 1).take 1) = some (xs[1]'(by omega)) := by
    rw [← List.getElem?_eq_getElem, ← cells4]; exact hq 1 _ rfl
  have q2 : DataW.trod enc Tryz.prog W b0 spare held n 3 ((cs.toList.drop 2).take 1) = some (xs[2]'(by omega)) := by
    rw [← List.getElem?_eq_getElem, ← cells3]; exact hq 2 _ rfl
  obtain ⟨a0, e0, -, ww0⟩ := DataW.trod_int Tryz.underlying22 q0
  obtain ⟨a1, e1, -⟩ := DataW.trod_bool Tryz.underlying4 q1
  obtain ⟨a2, e2, -, ww2⟩ := DataW.trod_int Tryz.underlying3 q2
  have e0 := U _ _ (take_one e0)
  have e1 := U _ _ (take_one e1)
  have e2 := U _ _ (take_one e2)
  refine ⟨⟨a0, a1, a2⟩, ?_, u64_of ww0⟩
  show Value.agg cs = Value.agg _
  congr 1
  apply Array.ext_getElem?
  intro k
  by_cases h2 : k < 3
  · rcases (by omega : k = 0 ∨ k = 1 ∨ k = 2) with rfl | rfl | rfl
    · rw [e0]; rfl
    · rw [e1]; rfl
    · rw [e2]; rfl
  · rw [Array.getElem?_eq_none (by omega), Array.getElem?_eq_none (by simp [Gt.cells]; omega)]
end
end Go.Proofs.YtbjcdpmhmebjnaaGreat
