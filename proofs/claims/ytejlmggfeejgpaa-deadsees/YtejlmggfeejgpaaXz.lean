/- Nf, Ng, Nh, Ni, Nz of the seat, joined. -/
import Derived.Test.YtejlmggfeejgpaaXn
import Derived.Test.YtejlmggfeejgpaaXl
import Derived.Test.YtejlmggfeejgpaaXm
import Derived.Test.YtejlmggfeejgpaaLi
import Derived.Test.YtejlmggfeejgpaaXo
import Derived.Deep.AppendLies
import Derived.Test.YtejlmggfeejgpaaLh
import Derived.Test.YtejlmggfeejgpaaMw
import Derived.Test.YtejlmggfeejgpaaGa
import Derived.Test.YtejlmggfeejgpaaXi
/- The chapter's Seen in memory. -/
namespace Go.Proofs.Ytejlmggfeejgpaa
open Go.RowKit
set_option linter.unusedVariables false
set_option linter.unusedSimpArgs false
set_option maxRecDepth 8000

theorem RawI.setB {W : World} {uv : Value} {zs : List Int} (h : RawI W uv zs) {sb j : Nat} {S : List Bool} (hs : W.heap[sb]? = some (.cells (boC S []) 4)) (b : Bool) : RawI (W.setCell ⟨sb, j, none⟩ (.bool b)) uv zs :=
  ⟨h.len, h.max, fun h0 => by
    obtain ⟨ra, cap, e, hc⟩ := h.cell h0
    refine ⟨ra, cap, e, fun i x hx => ?_⟩
    obtain ⟨h1, h2⟩ := hc i x hx
    have hne : (ra.add i).block ≠ sb := fun q => by
      unfold World.cell? at h2
      rw [q, hs] at h2
      dsimp only at h2
      split at h2
      · cases h2
      · unfold boC at h2
        simp at h2
    refine ⟨by simpa [World.setCell] using h1, ?_⟩
    rw [← h2]
    unfold World.cell?
    rw [Below.heap_setCell _ _ _ _ hne]⟩
/-- What Seen holds. -/
structure SnW (w : World) (pc words el : Int) (v : Value) (l : List Opr) (b1 sb : Nat) (S : List Bool) (x : World) : Prop where
  row : x.heap[sb]? = some (.cells (boC S []) 4)
  r1 : x.heap[b1]? = some (.cells (blA pc words el v) 25)
  ops : Ops x v l
  below : Below w.heap.size w x
  sbw : w.heap.size ≤ sb
  far : ∀ ra n cap, v = .slice (some ra) n cap → ra.block < w.heap.size
section
variable {w x y : World} {pc words el : Int} {v : Value} {l : List Opr} {b1 sb : Nat} {S : List Bool}
theorem SnW.grow (h : SnW w pc words el v l b1 sb S x) (hb : Below x.heap.size x y) : SnW w pc words el v l b1 sb S y :=
  ⟨keepRow h.row hb, keepRow h.r1 hb, h.ops.grow hb, below_then h.below (Nat.le_refl _) hb, h.sbw, h.far⟩
theorem SnW.set (h : SnW w pc words el v l b1 sb S x) {j : Nat} (hj : j < S.length) (b : Bool) : SnW w pc words el v l b1 sb (S.set j b) (x.setCell ⟨sb, j, none⟩ (.bool b)) := by
  have ek : ∀ q, q ≠ sb → (x.setCell ⟨sb, j, none⟩ (.bool b)).heap[q]? = x.heap[q]? := fun q hq => Below.heap_setCell _ _ _ _ hq
  have es : (x.setCell ⟨sb, j, none⟩ (.bool b)).heap.size = x.heap.size := by simp [World.setCell]
  exact ⟨by rw [heap_setCell_same x sb j _ 4 _ h.row, boC_set hj], by rw [ek _ (ne_of_type h.r1 h.row (by decide))]; exact h.r1, h.ops.keepB (fun q hq => by rw [es]; exact hq) (fun ra n cap e hlt => ek _ (by have := h.far ra n cap e; have := h.sbw; omega)), below_cell h.below h.sbw, h.sbw, h.far⟩
theorem SnW.cell (h : SnW w pc words el v l b1 sb S x) {j : Nat} (hj : j < S.length) : x.cell? ⟨sb, j, none⟩ = some (.bool (S.getD j false)) := by
  rw [cell_of_row _ _ _ _ _ _ h.row]; exact boC_get hj
theorem SnW.frz (h : SnW w pc words el v l b1 sb S x) (j : Nat) : x.frozen? ⟨sb, j, none⟩ = false := frozen_of_row _ _ _ _ _ h.row
theorem SnW.get {j : Nat} {c : Bool} (h : SnW w pc words el v l b1 sb (S.set j c) x) (hj : j < S.length) (c' : Bool) (e : c' = c := by rfl) : x.cell? ⟨sb, j, none⟩ = some (.bool c') := by
  subst e
  rw [h.cell (by rw [List.length_set]; exact hj)]
  simp [List.getD, hj]
theorem SnW.z3 (h : SnW w pc words el v l b1 sb S x) : x.cell? ⟨b1, 3, none⟩ = some v := by rw [cell_of_row _ _ _ _ _ _ h.r1]; rfl
theorem SnW.bx (h : SnW w pc words el v l b1 sb S x) {t : Nat} {o : Opr} (r : x.heap[t]? = some (.cells (opA o) 39)) (j : Nat) (b : Bool) : (x.setCell ⟨sb, j, none⟩ (.bool b)).heap[t]? = some (.cells (opA o) 39) := by
  rw [Below.heap_setCell _ _ _ _ (ne_of_type r h.row (by decide))]; exact r
end
theorem docK_zero {l : List Opr} (h0 : 0 < l.length) : docK l 0 = List.replicate l.length false := by unfold docK; rw [if_neg (by omega)]; rfl
section
variable {w : World} {pc words el : Int} {v : Value} {l : List Opr}
set_option maxHeartbeats 16000000 in
theorem refSeen_c (hR : rightB pc words el l = true) (O : Ops w v l) : Calls Try.prog 13 #[blV pc words el v] w fun e w' => ∃ g, w.heap.size ≤ g ∧ e = .returned (.slice (some ⟨g, 0, none⟩) l.length l.length) ∧ w'.heap[g]? = some (.cells (boC (seenL l) []) 4) ∧ Below w.heap.size w w' := by
  obtain ⟨h0, h512, -⟩ := right_lens hR
  have hb := below_alloc w (.cells (blA pc words el v) 25)
  have r1 : (w.alloc (.cells (blA pc words el v) 25)).heap[w.heap.size]? = some (.cells (blA pc words el v) 25) := heap_alloc_new _ _
  have O1 := O.grow hb
  have far := ops_far O h0
  obtain ⟨ao, cap, rfl⟩ := O.len
  have z3 : (w.alloc (.cells (blA pc words el (.slice ao l.length cap)) 25)).cell? ⟨w.heap.size, 3, none⟩ = some (.slice ao l.length cap) := by rw [cell_of_row _ _ _ _ _ _ r1]; rfl
  clear O
  go_enter Try.func13, Try.ntmps13
  go_upto_region 1 with fail
  generalize w.alloc (.cells (blA pc words el (.slice ao l.length cap)) 25) = w1 at *
  go_upto_region 2 with (first | ((with_reducible refine wpList_mkB rfl _ rfl h512 rfl ?_); simp only [Act.put, List.setIfInBounds_toArray, List.set_cons_succ, List.set_cons_zero]))
  have hb2 := below_alloc w1 (.cells (boC (List.replicate l.length false) []) 4)
  have X : SnW w pc words el (.slice ao l.length cap) l w.heap.size w1.heap.size (docK l 0) (w1.alloc (.cells (boC (List.replicate l.length false) []) 4)) :=
    ⟨by rw [docK_zero h0]; exact heap_alloc_new _ _, keepRow r1 hb2, O1.grow hb2, below_then hb (Nat.le_refl _) hb2, hb.size, far⟩
  generalize w1.alloc (.cells (boC (List.replicate l.length false) []) 4) = w2 at *
  generalize w1.heap.size = sb at *
  generalize hbb : w.heap.size = b1 at X ⊢
  replace hbb := show Hid _ from hbb
  clear r1 O1 hb hb2 z3 far
  replace z3 := X.z3
  go_upto_region 3 with fail
  clear z3
  go_loopw [4] (fun s4 wr => ∃ (d : Nat) (z : Int), s4 = vI z ∧ z = (l.length : Int) - 1 - d ∧ d ≤ l.length ∧ SnW w pc words el (.slice ao l.length cap) l b1 sb (docK l d) wr) (fun s4 _ => (intOf s4 + 1).toNat)
  case atStart => exact ⟨0, (l.length : Int) - 1, by go_num, by omega, Nat.zero_le _, X⟩
  case round =>
    clear X
    obtain ⟨d, z, rfl, hz, hd, X⟩ := hrel
    by_cases hlt : d < l.length
    · obtain ⟨k, hk⟩ : ∃ k, d + k + 1 = l.length := ⟨l.length - (d + 1), by omega⟩
      obtain rfl : z = (k : Int) := by omega
      have hkl : k < l.length := by omega
      have hki : (k : Int) < l.length := by omega
      have hk0 : (0 : Int) ≤ (k : Int) := by omega
      have z3 := X.z3
      obtain ⟨ra, cap', e', hc⟩ := X.ops.cell (by omega)
      cases e'
      have A := hc k _ (opAt_some hkl)
      clear hc
      clear hz
      have ds := doc_step hR hk
      replace hk := show Hid _ from hk
      have hkS : k < (docK l d).length := by rw [docK_len]; exact hkl
      have hSl : (docK l d).length = l.length := docK_len l d
      have kd := dDefs_c (opAt l k)
      have ka := dAcc_c (opAt l k)
      have ko := fun x (H : Ops x (.slice (some ra) l.length cap) l) => over_c (pc := pc) (words := words) (el := el) H hkl
      have ku := dUses_c (opAt l k)
      have hus : usesD (opAt l k) = usesL (opAt l k) := uses_same (kind_ok (right_at hR hkl))
      have hul := usesL_len (opAt l k)
      have hin0 : ∀ u ∈ usesL (opAt l k), 0 ≤ u ∧ u.toNat < l.length := fun u hu => by have := use_lt hR hkl hu; exact ⟨this.1, by omega⟩
      have hcls : (defsB (opAt l k).kind = true ∧ accB (opAt l k).kind = false) ∨ (((opAt l k).kind = 14 ∨ (opAt l k).kind = 3 ∨ (opAt l k).kind = 5 ∨ (opAt l k).kind = 7) ∧ defsB (opAt l k).kind = false ∧ accB (opAt l k).kind = false) ∨ (setK (opAt l k).kind = false ∧ (defsB (opAt l k).kind = false ∨ defsB (opAt l k).kind = true ∧ accB (opAt l k).kind = true)) := by
        rcases isK_cases (kind_ok (right_at hR hkl)) with e | e | e | e | e | e | e | e | e | e | e | e | e | e | e | e | e | e <;> rw [e] <;> decide +kernel
      unfold docC at ds
      obtain ⟨T, hT⟩ : ∃ T, T = overT (opAt l k) (l.drop (k + 1)) := ⟨_, rfl⟩
      rw [← hT] at ds ko
      obtain ⟨S, hS⟩ : ∃ S, S = docK l d := ⟨_, rfl⟩
      rw [← hS] at X ds hkS hSl
      clear hS hT hd
      obtain ⟨o, ho⟩ : ∃ o, o = opAt l k := ⟨_, rfl⟩
      rw [← ho] at ds A kd ka ku hus hul hin0 hcls
      clear ho
      obtain ⟨c, hc⟩ : ∃ c, c = (if defsB o.kind = true ∧ accB o.kind = false then S.getD k false else if setK o.kind = true then !T || decide (k = 0) else true) := ⟨_, rfl⟩
      rw [← hc] at ds
      replace hc := show Hid _ from hc
      replace ds := show Hid _ from ds
      replace hcls := show Hid _ from hcls
      replace hus := show Hid _ from hus
      replace hin0 := show Hid _ from hin0
      replace hSl := show Hid _ from hSl
      replace ko := show Hid _ from ko
      have Hn := has_none wr
      go_upto_region 6 with (first | ((with_reducible refine wpList_load42 rfl _ rfl _ rfl _ A ?_); simp only [Act.put, List.setIfInBounds_toArray, List.set_cons_succ, List.set_cons_zero]) | ((with_reducible refine wpList_store_new Hn rfl 39 _ _ rfl (opA o) rfl rfl (op_inf _) (by kernel_rfl) (op_one _) ?_); clear Hn; intro x2 Hn; simp only [Act.put, List.setIfInBounds_toArray, List.set_cons_succ, List.set_cons_zero]))
      replace X := X.grow Hn.below
      have r5 : x2.heap[wr.heap.size]? = some (.cells (opA o) 39) := Hn.get List.mem_cons_self
      generalize wr.heap.size = t5 at *
      clear Hn A z3
      go_upto_region 7 with (first | ((with_reducible refine wpList_load_if rfl 39 _ rfl _ rfl 39 _ (0, 0) _ r5 Try.underlying39 rfl (op_inf _) ?_); simp only [Act.put, List.setIfInBounds_toArray, List.set_cons_succ, List.set_cons_zero]) | (go_at_call 24; (with_reducible refine (kd _).mono ?_); clear kd; rintro e x3 ⟨rfl, B⟩; dsimp only))
      replace X := X.grow B
      replace r5 := keepRow r5 B
      clear B
      go_upto_region 9 with (first | ((with_reducible refine wpList_load_if rfl 39 _ rfl _ rfl 39 _ (0, 0) _ r5 Try.underlying39 rfl (op_inf _) ?_); simp only [Act.put, List.setIfInBounds_toArray, List.set_cons_succ, List.set_cons_zero]) | (go_at_call 28; (with_reducible refine (ka _).mono ?_); clear ka; rintro e x4 ⟨rfl, B⟩; dsimp only))
      replace X := X.grow B
      replace r5 := keepRow r5 B
      clear B
      rcases hcls.out with ⟨q1, q2⟩ | ⟨q0, q1, q2⟩ | ⟨q0, q1⟩
      · clear hcls ko
        replace hc := hc.out
        rw [if_pos ⟨q1, q2⟩] at hc
        replace X : SnW w pc words el (.slice (some ra) l.length cap) l b1 sb (S.set k c) x4 := by rw [list_set_same hkS hc.symm]; exact X
        rw [q1, q2]
        clear q1 q2
        clear hc
        have hus := hus.out
        have hin0 := hin0.out
        replace ds := ds.out
        have zc := X.get hkS c
        go_upto_region 13 with fail
        cases c with
        | false =>
          rw [if_neg (by decide)] at ds
          rw [← ds] at X
          clear ds r5 ku
          go_wp2
          go_roundw
          case rel => exact ⟨d + 1, (k : Int) - 1, by go_num, by have := hk.out; omega, by omega, X⟩
          case measure => simp [intOf]; try omega
        | true =>
          rw [if_pos rfl] at ds
          go_upto_region 15 with (first | ((with_reducible refine wpList_load_if rfl 39 _ rfl _ rfl 39 _ (0, 0) _ r5 Try.underlying39 rfl (op_inf _) ?_); simp only [Act.put, List.setIfInBounds_toArray, List.set_cons_succ, List.set_cons_zero]) | (go_at_call 23; (with_reducible refine (ku _).mono ?_); clear ku; rintro e x9 ⟨uv, rfl, RI, B⟩; dsimp only; obtain ⟨uo, uc, e9⟩ := RI.len; subst e9))
          replace X := X.grow B
          clear zc r5 B
          obtain ⟨zs, hzs⟩ : ∃ zs, zs = usesD o := ⟨_, rfl⟩
          rw [← hzs] at RI hus ⊢
          rw [← hus] at ds hul
          have hin : ∀ u ∈ zs, 0 ≤ u ∧ u.toNat < l.length := fun u hu => by rw [hus] at hu; exact hin0 u hu
          replace hus := show Hid _ from hus
          replace hzs := show Hid _ from hzs
          replace ds := show Hid _ from ds
          go_upto_region 16 with fail
          go_loopw [10] (fun s10 wr => ∃ j : Nat, j ≤ zs.length ∧ s10 = vI j ∧ SnW w pc words el (.slice (some ra) l.length cap) l b1 sb (upAll (S.set k true) (zs.take j)) wr ∧ RawI wr (.slice uo zs.length uc) zs) (fun s10 _ => ((zs.length : Int) - intOf s10).toNat)
          case atStart => exact ⟨0, Nat.zero_le _, rfl, by rw [List.take_zero]; exact X, RI⟩
          case round =>
            clear X RI
            obtain ⟨j, hj, rfl, X, RI⟩ := hrel
            by_cases hlt : (j : Int) < zs.length
            · have hjl : j < zs.length := by omega
              obtain ⟨ra, uc', e', hc⟩ := RI.cell (by omega)
              cases e'
              obtain ⟨_, c1⟩ := hc j _ (List.getElem?_eq_getElem hjl)
              have hu := hin _ (List.getElem_mem hjl)
              obtain ⟨uu, huu⟩ : ∃ uu : Nat, zs[j] = uu := ⟨zs[j].toNat, by omega⟩
              have htk := upAll_take (S := S.set k true) (List.getElem?_eq_getElem hjl)
              rw [huu] at c1 hu htk
              rw [Int.toNat_natCast] at htk hu
              have huS : uu < (upAll (S.set k true) (zs.take j)).length := by rw [upAll_len, List.length_set]; have := hSl.out; omega
              have z1 := X.cell huS
              have z2 := X.frz uu
              have hlt2 : (uu : Int) < l.length := by omega
              have X2 := X.set huS true
              have RI2 := RI.setB X.row (j := uu) true
              rw [htk] at X2
              clear hc huu hu htk huS X RI
              go_wp2
              go_roundw
              case rel => exact ⟨j + 1, by omega, by go_num, X2, RI2⟩
              case measure => simp [intOf]; omega
            · have e : j = zs.length := by omega
              subst e
              rw [List.take_length, ← ds.out] at X
              clear RI ds
              go_wp2
              go_roundw
              case rel => exact ⟨d + 1, (k : Int) - 1, by go_num, by have := hk.out; omega, by omega, X⟩
              case measure => simp [intOf]; try omega

      · clear hcls
        have hcB : c = (!T || decide (k = 0)) := by
          have hc := hc.out
          rw [if_neg (by rw [q1]; rintro ⟨h, _⟩; cases h)] at hc
          rw [if_pos (by rcases q0 with e | e | e | e <;> rw [e] <;> rfl)] at hc
          exact hc
        rw [q1, q2]
        clear q1 q2 hc
        replace hcB := show Hid _ from hcB
        have y0 : x4.cell? ⟨t5, 0, none⟩ = some (vI o.kind) := by rw [cell_of_row _ _ _ _ _ _ r5]; rfl
        have hus := hus.out
        have hin0 := hin0.out
        have rb := X.r1
        have kov := ko.out _ X.ops
        clear ko
        rcases q0 with e | e | e | e
        all_goals
          rw [e] at y0
          clear e
          go_upto_region 12 with (first | ((with_reducible refine wpList_load_if rfl 25 _ rfl _ rfl 25 _ (0, 0) _ rb Try.underlying25 rfl (bl_inf _ _ _ _) ?_); simp only [Act.put, List.setIfInBounds_toArray, List.set_cons_succ, List.set_cons_zero]) | (go_at_call 29; (with_reducible refine kov.mono ?_); clear kov; rintro e x5 ⟨rfl, B⟩; dsimp only))
          replace X := X.grow B
          replace r5 := keepRow r5 B
          clear B y0 rb
          have z1 := X.cell hkS
          have z2 := X.frz k
          cases T with
          | false =>
            obtain rfl : c = true := hcB.out
            clear hcB
            go_upto_region 13 with fail
            replace r5 := X.bx r5 k true
            replace X := X.set hkS true
            generalize x5.setCell ⟨sb, k, none⟩ (.bool true) = x6 at *
            clear z1 z2
            replace ds := ds.out
            have zc := X.get hkS true
            go_upto_region 13 with fail
            rw [if_pos rfl] at ds
            go_upto_region 15 with (first | ((with_reducible refine wpList_load_if rfl 39 _ rfl _ rfl 39 _ (0, 0) _ r5 Try.underlying39 rfl (op_inf _) ?_); simp only [Act.put, List.setIfInBounds_toArray, List.set_cons_succ, List.set_cons_zero]) | (go_at_call 23; (with_reducible refine (ku _).mono ?_); clear ku; rintro e x9 ⟨uv, rfl, RI, B⟩; dsimp only; obtain ⟨uo, uc, e9⟩ := RI.len; subst e9))
            replace X := X.grow B
            clear zc r5 B
            obtain ⟨zs, hzs⟩ : ∃ zs, zs = usesD o := ⟨_, rfl⟩
            rw [← hzs] at RI hus ⊢
            rw [← hus] at ds hul
            have hin : ∀ u ∈ zs, 0 ≤ u ∧ u.toNat < l.length := fun u hu => by rw [hus] at hu; exact hin0 u hu
            replace hus := show Hid _ from hus
            replace hzs := show Hid _ from hzs
            replace ds := show Hid _ from ds
            go_upto_region 16 with fail
            go_loopw [10] (fun s10 wr => ∃ j : Nat, j ≤ zs.length ∧ s10 = vI j ∧ SnW w pc words el (.slice (some ra) l.length cap) l b1 sb (upAll (S.set k true) (zs.take j)) wr ∧ RawI wr (.slice uo zs.length uc) zs) (fun s10 _ => ((zs.length : Int) - intOf s10).toNat)
            case atStart => exact ⟨0, Nat.zero_le _, rfl, by rw [List.take_zero]; exact X, RI⟩
            case round =>
              clear X RI
              obtain ⟨j, hj, rfl, X, RI⟩ := hrel
              by_cases hlt : (j : Int) < zs.length
              · have hjl : j < zs.length := by omega
                obtain ⟨ra, uc', e', hc⟩ := RI.cell (by omega)
                cases e'
                obtain ⟨_, c1⟩ := hc j _ (List.getElem?_eq_getElem hjl)
                have hu := hin _ (List.getElem_mem hjl)
                obtain ⟨uu, huu⟩ : ∃ uu : Nat, zs[j] = uu := ⟨zs[j].toNat, by omega⟩
                have htk := upAll_take (S := S.set k true) (List.getElem?_eq_getElem hjl)
                rw [huu] at c1 hu htk
                rw [Int.toNat_natCast] at htk hu
                have huS : uu < (upAll (S.set k true) (zs.take j)).length := by rw [upAll_len, List.length_set]; have := hSl.out; omega
                have z1 := X.cell huS
                have z2 := X.frz uu
                have hlt2 : (uu : Int) < l.length := by omega
                have X2 := X.set huS true
                have RI2 := RI.setB X.row (j := uu) true
                rw [htk] at X2
                clear hc huu hu htk huS X RI
                go_wp2
                go_roundw
                case rel => exact ⟨j + 1, by omega, by go_num, X2, RI2⟩
                case measure => simp [intOf]; omega
              · have e : j = zs.length := by omega
                subst e
                rw [List.take_length, ← ds.out] at X
                clear RI ds
                go_wp2
                go_roundw
                case rel => exact ⟨d + 1, (k : Int) - 1, by go_num, by have := hk.out; omega, by omega, X⟩
                case measure => simp [intOf]; try omega

          | true =>
            have hk0b : ((k : Int) == 0) = c := by rw [hcB.out]; by_cases h : k = 0 <;> simp [h]
            clear hcB
            go_upto_region 13 with fail
            replace r5 := X.bx r5 k c
            replace X := X.set hkS c
            generalize x5.setCell ⟨sb, k, none⟩ (.bool c) = x6 at *
            clear z1 z2 hk0b
            replace ds := ds.out
            have zc := X.get hkS c
            go_upto_region 13 with fail
            cases c with
            | false =>
              rw [if_neg (by decide)] at ds
              rw [← ds] at X
              clear ds r5 ku
              go_wp2
              go_roundw
              case rel => exact ⟨d + 1, (k : Int) - 1, by go_num, by have := hk.out; omega, by omega, X⟩
              case measure => simp [intOf]; try omega
            | true =>
              rw [if_pos rfl] at ds
              go_upto_region 15 with (first | ((with_reducible refine wpList_load_if rfl 39 _ rfl _ rfl 39 _ (0, 0) _ r5 Try.underlying39 rfl (op_inf _) ?_); simp only [Act.put, List.setIfInBounds_toArray, List.set_cons_succ, List.set_cons_zero]) | (go_at_call 23; (with_reducible refine (ku _).mono ?_); clear ku; rintro e x9 ⟨uv, rfl, RI, B⟩; dsimp only; obtain ⟨uo, uc, e9⟩ := RI.len; subst e9))
              replace X := X.grow B
              clear zc r5 B
              obtain ⟨zs, hzs⟩ : ∃ zs, zs = usesD o := ⟨_, rfl⟩
              rw [← hzs] at RI hus ⊢
              rw [← hus] at ds hul
              have hin : ∀ u ∈ zs, 0 ≤ u ∧ u.toNat < l.length := fun u hu => by rw [hus] at hu; exact hin0 u hu
              replace hus := show Hid _ from hus
              replace hzs := show Hid _ from hzs
              replace ds := show Hid _ from ds
              go_upto_region 16 with fail
              go_loopw [10] (fun s10 wr => ∃ j : Nat, j ≤ zs.length ∧ s10 = vI j ∧ SnW w pc words el (.slice (some ra) l.length cap) l b1 sb (upAll (S.set k true) (zs.take j)) wr ∧ RawI wr (.slice uo zs.length uc) zs) (fun s10 _ => ((zs.length : Int) - intOf s10).toNat)
              case atStart => exact ⟨0, Nat.zero_le _, rfl, by rw [List.take_zero]; exact X, RI⟩
              case round =>
                clear X RI
                obtain ⟨j, hj, rfl, X, RI⟩ := hrel
                by_cases hlt : (j : Int) < zs.length
                · have hjl : j < zs.length := by omega
                  obtain ⟨ra, uc', e', hc⟩ := RI.cell (by omega)
                  cases e'
                  obtain ⟨_, c1⟩ := hc j _ (List.getElem?_eq_getElem hjl)
                  have hu := hin _ (List.getElem_mem hjl)
                  obtain ⟨uu, huu⟩ : ∃ uu : Nat, zs[j] = uu := ⟨zs[j].toNat, by omega⟩
                  have htk := upAll_take (S := S.set k true) (List.getElem?_eq_getElem hjl)
                  rw [huu] at c1 hu htk
                  rw [Int.toNat_natCast] at htk hu
                  have huS : uu < (upAll (S.set k true) (zs.take j)).length := by rw [upAll_len, List.length_set]; have := hSl.out; omega
                  have z1 := X.cell huS
                  have z2 := X.frz uu
                  have hlt2 : (uu : Int) < l.length := by omega
                  have X2 := X.set huS true
                  have RI2 := RI.setB X.row (j := uu) true
                  rw [htk] at X2
                  clear hc huu hu htk huS X RI
                  go_wp2
                  go_roundw
                  case rel => exact ⟨j + 1, by omega, by go_num, X2, RI2⟩
                  case measure => simp [intOf]; omega
                · have e : j = zs.length := by omega
                  subst e
                  rw [List.take_length, ← ds.out] at X
                  clear RI ds
                  go_wp2
                  go_roundw
                  case rel => exact ⟨d + 1, (k : Int) - 1, by go_num, by have := hk.out; omega, by omega, X⟩
                  case measure => simp [intOf]; try omega

      · clear hcls ko
        have hcC : c = true := by
          have hc := hc.out
          have gA : ¬ (defsB o.kind = true ∧ accB o.kind = false) := by
            rintro ⟨h, h2⟩
            rcases q1 with q | ⟨_, q⟩
            · rw [q] at h; cases h
            · rw [q] at h2; cases h2
          have g0 : ¬ (setK o.kind = true) := by rw [q0]; decide
          rw [if_neg gA, if_neg g0] at hc
          exact hc
        have g : (o.kind == 14) = false ∧ (o.kind == 3) = false ∧ (o.kind == 5) = false ∧ (o.kind == 7) = false := by
          have := q0
          unfold setK at this
          simp only [Bool.or_eq_false_iff] at this
          exact ⟨this.1.1.1, this.1.1.2, this.1.2, this.2⟩
        obtain ⟨g1, g2, g3, g4⟩ := g
        subst hcC
        clear hc q0
        have y0 : x4.cell? ⟨t5, 0, none⟩ = some (vI o.kind) := by rw [cell_of_row _ _ _ _ _ _ r5]; rfl
        have hus := hus.out
        have hin0 := hin0.out
        have z1 := X.cell hkS
        have z2 := X.frz k
        rcases q1 with q1 | ⟨q1, q2⟩
        all_goals
          first | rw [q1, q2] | rw [q1]
          go_upto_region 13 with fail
          replace r5 := X.bx r5 k true
          replace X := X.set hkS true
          generalize x4.setCell ⟨sb, k, none⟩ (.bool true) = x6 at *
          clear z1 z2 y0 g1 g2 g3 g4
          replace ds := ds.out
          have zc := X.get hkS true
          go_upto_region 13 with fail
          rw [if_pos rfl] at ds
          go_upto_region 15 with (first | ((with_reducible refine wpList_load_if rfl 39 _ rfl _ rfl 39 _ (0, 0) _ r5 Try.underlying39 rfl (op_inf _) ?_); simp only [Act.put, List.setIfInBounds_toArray, List.set_cons_succ, List.set_cons_zero]) | (go_at_call 23; (with_reducible refine (ku _).mono ?_); clear ku; rintro e x9 ⟨uv, rfl, RI, B⟩; dsimp only; obtain ⟨uo, uc, e9⟩ := RI.len; subst e9))
          replace X := X.grow B
          clear zc r5 B
          obtain ⟨zs, hzs⟩ : ∃ zs, zs = usesD o := ⟨_, rfl⟩
          rw [← hzs] at RI hus ⊢
          rw [← hus] at ds hul
          have hin : ∀ u ∈ zs, 0 ≤ u ∧ u.toNat < l.length := fun u hu => by rw [hus] at hu; exact hin0 u hu
          replace hus := show Hid _ from hus
          replace hzs := show Hid _ from hzs
          replace ds := show Hid _ from ds
          go_upto_region 16 with fail
          go_loopw [10] (fun s10 wr => ∃ j : Nat, j ≤ zs.length ∧ s10 = vI j ∧ SnW w pc words el (.slice (some ra) l.length cap) l b1 sb (upAll (S.set k true) (zs.take j)) wr ∧ RawI wr (.slice uo zs.length uc) zs) (fun s10 _ => ((zs.length : Int) - intOf s10).toNat)
          case atStart => exact ⟨0, Nat.zero_le _, rfl, by rw [List.take_zero]; exact X, RI⟩
          case round =>
            clear X RI
            obtain ⟨j, hj, rfl, X, RI⟩ := hrel
            by_cases hlt : (j : Int) < zs.length
            · have hjl : j < zs.length := by omega
              obtain ⟨ra, uc', e', hc⟩ := RI.cell (by omega)
              cases e'
              obtain ⟨_, c1⟩ := hc j _ (List.getElem?_eq_getElem hjl)
              have hu := hin _ (List.getElem_mem hjl)
              obtain ⟨uu, huu⟩ : ∃ uu : Nat, zs[j] = uu := ⟨zs[j].toNat, by omega⟩
              have htk := upAll_take (S := S.set k true) (List.getElem?_eq_getElem hjl)
              rw [huu] at c1 hu htk
              rw [Int.toNat_natCast] at htk hu
              have huS : uu < (upAll (S.set k true) (zs.take j)).length := by rw [upAll_len, List.length_set]; have := hSl.out; omega
              have z1 := X.cell huS
              have z2 := X.frz uu
              have hlt2 : (uu : Int) < l.length := by omega
              have X2 := X.set huS true
              have RI2 := RI.setB X.row (j := uu) true
              rw [htk] at X2
              clear hc huu hu htk huS X RI
              go_wp2
              go_roundw
              case rel => exact ⟨j + 1, by omega, by go_num, X2, RI2⟩
              case measure => simp [intOf]; omega
            · have e : j = zs.length := by omega
              subst e
              rw [List.take_length, ← ds.out] at X
              clear RI ds
              go_wp2
              go_roundw
              case rel => exact ⟨d + 1, (k : Int) - 1, by go_num, by have := hk.out; omega, by omega, X⟩
              case measure => simp [intOf]; try omega

    · obtain rfl : d = l.length := by omega
      obtain rfl : z = -1 := by omega
      have e : docK l l.length = seenL l := by unfold docK; rw [if_pos rfl]
      rw [e] at X
      clear e
      go_wp2
      go_ret
      exact ⟨sb, by have := X.sbw; exact this, rfl, X.row, X.below⟩
end
end Go.Proofs.Ytejlmggfeejgpaa
/- The chapter's Without. -/
namespace Go.Proofs.Ytejlmggfeejgpaa
open Go.RowKit
set_option linter.unusedVariables false
set_option linter.unusedSimpArgs false
set_option maxRecDepth 8000

theorem wpList_appO {ops : Array Oper} {rest : List Oper} {p : Oper} {a : Act} {w : World} {Q : Exit → Act → World → Prop} (hg : p.guard = none) (s x : Operand) (ho : p.op = .call { callee := .builtin .append, args := #[s, x], argTypes := #[23, 23] }) {base N n : Nat} {v : Value} {l : List Opr} {o : Opr} (hn : l.length = n) (hs : a.eval s = v) (hx : a.eval x = .slice (some ⟨N, 0, none⟩) 1 1) (hc : w.heap[N]? = some (.cells (opA o) 39)) (O : w.ownsRow base 39 6 v n (opF l)) (hl : n ≤ 100000) (hbase : base ≤ w.heap.size)
    (h : ∀ g cap w', w'.ownsRow base 39 6 (.slice (some ⟨g, 0, none⟩) (n + 1) cap) (n + 1) (opF (l ++ [o])) → Goes (fun k => v.ownBlock = some k) w w' → (v.ownBlock = some g ∨ g = w.heap.size) → wpList Try.prog ops Q rest (a.put p.dst (.slice (some ⟨g, 0, none⟩) (n + 1) cap)) w') : wpList Try.prog ops Q (p :: rest) a w := by
  subst hn
  exact wpList_plain hg fun _ hK => by
    obtain ⟨i, hi, hz, hsz, hby⟩ := info_parts info42
    obtain ⟨g, cap, w', hr, q1, q2, q3, _⟩ := run_append_lies (P := Try.prog) (w := w) 23 p.type base 39 i (opV nilO) 6 48 Try.underlying23 hi hz hsz hby rfl (by decide) v l.length (opF l) O ⟨N, 0, none⟩ 1 1 (opA o).toList rfl (fun j u hj => by
      rw [Addr.add_mid, Nat.zero_add, cell_of_row _ _ _ _ _ _ hc]
      rwa [Array.getElem?_toList] at hj) (by simp [Value.oneCell']) (by decide) (by simp only [maxLen]; omega) (by omega) hbase w.heap.size rfl
    unfold Oper.wp execOp
    simp only [ho, resolve, invoke, builtin, Sem.run_bind, Sem.run_pure, Result.andThen_ok, List.map_toArray, List.map_cons, List.map_nil, hs, hx, hr]
    exact hK _ _ (h g cap w' (by rw [opF_snoc]; exact q1) (goes_grown q2 (fun k hk => hk)) q3)
/-- The places as the chapter tells them: of each operation how many are kept ahead of it. -/
def plD (s : Nat → Bool) (k n : Nat) : Array Value := ((List.range n).map fun i => vI (if i < k then (cntS s i : Int) else 0)).toArray
theorem plD_get {s : Nat → Bool} {k n i : Nat} (h : i < n) : (plD s k n)[i]? = some (vI (if i < k then (cntS s i : Int) else 0)) := by
  unfold plD
  simp [h]
theorem plD_zero (s : Nat → Bool) (n : Nat) : plR s 0 n = plD s 0 n := by
  unfold plR plD
  simp
theorem plD_set {s : Nat → Bool} {k n : Nat} (hk : k < n) : (plD s k n).setIfInBounds k (vI (cntS s k : Nat)) = plD s (k + 1) n := by
  apply Array.ext_getElem?
  intro i
  rcases Nat.lt_or_ge i n with hi | hi
  · by_cases e : k = i
    · subst e
      rw [Array.getElem?_setIfInBounds_self_of_lt (by unfold plD; simpa using hk), plD_get hk, if_pos (by omega)]
    · rw [Array.getElem?_setIfInBounds_ne e, plD_get hi, plD_get hi]
      by_cases c : i < k
      · rw [if_pos c, if_pos (by omega)]
      · rw [if_neg c, if_neg (by omega)]
  · rw [Array.getElem?_eq_none (by unfold plD; simpa using hi), Array.getElem?_eq_none (by unfold plD; simpa using hi)]
section
variable {pc words el : Int} {l : List Opr}
/-- A kept operation, told anew, by what it uses. -/
theorem tell_cases (hR : rightB pc words el l = true) {k : Nat} (hk : k < l.length) (hs : seenAt l k = true) :
    (usesD (opAt l k) = [] ∧ tellO (opAt l k) (seenAt l) = opAt l k) ∨
    (∃ ia : Nat, usesD (opAt l k) = [(ia : Int)] ∧ (opAt l k).a = ia ∧ ia < k ∧ tellO (opAt l k) (seenAt l) = { opAt l k with a := (cntS (seenAt l) ia : Nat) }) ∨
    (∃ ia ib : Nat, usesD (opAt l k) = [(ia : Int), (ib : Int)] ∧ (opAt l k).a = ia ∧ (opAt l k).b = ib ∧ ia < k ∧ ib < k ∧ tellO (opAt l k) (seenAt l) = { opAt l k with a := (cntS (seenAt l) ia : Nat), b := (cntS (seenAt l) ib : Nat) }) := by
  have hok := right_at hR hk
  have hus := uses_same (kind_ok hok)
  have hin : ∀ u ∈ usesL (opAt l k), 0 ≤ u ∧ u.toNat < k ∧ seenAt l u.toNat = true := fun u hu => ⟨(use_lt hR hk hu).1, (use_lt hR hk hu).2.1, seen_uses hR hk hs hu⟩
  rw [hus]
  cases h2 : hasP (opAt l k).kind 2 with
  | false =>
    have h4 : hasP (opAt l k).kind 4 = false := by
      have h := kind_ok hok
      generalize (opAt l k).kind = kk at *
      rcases isK_cases h with rfl | rfl | rfl | rfl | rfl | rfl | rfl | rfl | rfl | rfl | rfl | rfl | rfl | rfl | rfl | rfl | rfl | rfl <;> revert h2 <;> decide +kernel
    left
    refine ⟨by unfold usesL; rw [h2, h4]; rfl, tell_first _ (noA hok h2) (noB hok h4)⟩
  | true =>
    obtain ⟨a0, ak, sa⟩ := hin _ (uses_a h2)
    have ea : (opAt l k).a = ((opAt l k).a.toNat : Nat) := by omega
    cases h4 : hasP (opAt l k).kind 4 with
    | false =>
      right; left
      refine ⟨(opAt l k).a.toNat, by unfold usesL; rw [h2, h4, ← ea]; rfl, ea, ak, ?_⟩
      unfold tellO
      rw [plS_on sa, noB hok h4, Int.toNat_zero, plS_zero]
      have := noB hok h4
      generalize opAt l k = o at *
      obtain ⟨_, _, _, _, _, _⟩ := o
      dsimp only at this ⊢
      subst this
      rfl
    | true =>
      obtain ⟨b0, bk, sb⟩ := hin _ (uses_b h4)
      have eb : (opAt l k).b = ((opAt l k).b.toNat : Nat) := by omega
      right; right
      refine ⟨(opAt l k).a.toNat, (opAt l k).b.toNat, by unfold usesL; rw [h2, h4, ← ea, ← eb]; rfl, ea, eb, ak, bk, ?_⟩
      unfold tellO
      rw [plS_on sa, plS_on sb]
end
/-- What Without holds. -/
structure WoW (w : World) (pc words el : Int) (v : Value) (l : List Opr) (b1 rb g pb B0 : Nat) (k kp : Nat) (uv : Value) (x : World) : Prop where
  r1 : x.heap[b1]? = some (.cells (blA pc words el v) 25)
  rs : x.heap[rb]? = some (.cells (blA 0 0 0 (.slice none 0 0)) 25)
  kept : x.heap[g]? = some (.cells (boC (seenL l) []) 4)
  pl : x.heap[pb]? = some (.cells (plD (seenAt l) kp l.length) 3)
  ops : Ops x v l
  own : x.ownsRow B0 39 6 uv (cntS (seenAt l) k) (opF (keepF l (seenAt l) k))
  below : Below w.heap.size w x
  lo : w.heap.size ≤ B0 ∧ w.heap.size ≤ pb ∧ B0 ≤ x.heap.size
  far : ∀ ra n cap, v = .slice (some ra) n cap → ra.block < w.heap.size
section
variable {w x y : World} {pc words el : Int} {v uv u' : Value} {l : List Opr} {b1 rb g pb B0 k kp : Nat}
theorem WoW.grow (h : WoW w pc words el v l b1 rb g pb B0 k kp uv x) (hb : Below x.heap.size x y) : WoW w pc words el v l b1 rb g pb B0 k kp uv y :=
  ⟨keepRow h.r1 hb, keepRow h.rs hb, keepRow h.kept hb, keepRow h.pl hb, h.ops.grow hb, own_grow6 h.own hb, below_then h.below (Nat.le_refl _) hb, ⟨h.lo.1, h.lo.2.1, Nat.le_trans h.lo.2.2 hb.size⟩, h.far⟩
theorem WoW.put (h : WoW w pc words el v l b1 rb g pb B0 k k uv x) (hk : k < l.length) : WoW w pc words el v l b1 rb g pb B0 k (k + 1) uv (x.setCell ⟨pb, k, none⟩ (vI (cntS (seenAt l) k : Nat))) := by
  have ek : ∀ q, q ≠ pb → (x.setCell ⟨pb, k, none⟩ (vI (cntS (seenAt l) k : Nat))).heap[q]? = x.heap[q]? := fun q hq => Below.heap_setCell _ _ _ _ hq
  have es : (x.setCell ⟨pb, k, none⟩ (vI (cntS (seenAt l) k : Nat))).heap.size = x.heap.size := by simp [World.setCell]
  exact ⟨by rw [ek _ (ne_of_type h.r1 h.pl (by decide))]; exact h.r1, by rw [ek _ (ne_of_type h.rs h.pl (by decide))]; exact h.rs, by rw [ek _ (ne_of_type h.kept h.pl (by decide))]; exact h.kept, by rw [heap_setCell_same x pb k _ 3 _ h.pl, plD_set hk],
    h.ops.keepB (fun q hq => by rw [es]; exact hq) (fun ra n cap e hlt => ek _ (by have := h.far ra n cap e; have := h.lo.2.1; omega)), own_of_block h.own (fun q hq => ek _ (fun e => own_ne h.pl h.own (by decide) (by rw [← e]; exact hq))),
    below_cell h.below h.lo.2.1, ⟨h.lo.1, h.lo.2.1, by rw [es]; exact h.lo.2.2⟩, h.far⟩
/-- A block of its own, apart from all that is held. -/
def Out8 (w : World) (b1 rb g pb : Nat) (uv : Value) (t8 : Nat) : Prop := t8 ≠ b1 ∧ t8 ≠ rb ∧ t8 ≠ g ∧ t8 ≠ pb ∧ uv.ownBlock ≠ some t8 ∧ w.heap.size ≤ t8
theorem WoW.out (h : WoW w pc words el v l b1 rb g pb B0 k kp uv x) : Out8 w b1 rb g pb uv x.heap.size :=
  ⟨fun e => by have := lt_of_some h.r1; omega, fun e => by have := lt_of_some h.rs; omega, fun e => by have := lt_of_some h.kept; omega, fun e => by have := lt_of_some h.pl; omega, fun e => by have := (h.own.lt _ e).2; omega, h.below.size⟩
theorem WoW.set8 (h : WoW w pc words el v l b1 rb g pb B0 k kp uv x) {t8 : Nat} (q : Out8 w b1 rb g pb uv t8) (j : Nat) (u : Value) : WoW w pc words el v l b1 rb g pb B0 k kp uv (x.setCell ⟨t8, j, none⟩ u) := by
  have ek : ∀ q, q ≠ t8 → (x.setCell ⟨t8, j, none⟩ u).heap[q]? = x.heap[q]? := fun q hq => Below.heap_setCell _ _ _ _ hq
  have es : (x.setCell ⟨t8, j, none⟩ u).heap.size = x.heap.size := by simp [World.setCell]
  obtain ⟨q1, q2, q3, q4, q5, q6⟩ := q
  exact ⟨by rw [ek _ (Ne.symm q1)]; exact h.r1, by rw [ek _ (Ne.symm q2)]; exact h.rs, by rw [ek _ (Ne.symm q3)]; exact h.kept, by rw [ek _ (Ne.symm q4)]; exact h.pl,
    h.ops.keepB (fun q hq => by rw [es]; exact hq) (fun ra n cap e hlt => ek _ (by have := h.far ra n cap e; omega)), own_of_block h.own (fun p hp => ek _ (fun e => q5 (by rw [← e]; exact hp))),
    below_cell h.below q6, ⟨h.lo.1, h.lo.2.1, by rw [es]; exact h.lo.2.2⟩, h.far⟩
theorem WoW.skip (h : WoW w pc words el v l b1 rb g pb B0 k (k + 1) uv x) (hs : seenAt l k = false) : WoW w pc words el v l b1 rb g pb B0 (k + 1) (k + 1) uv x :=
  ⟨h.r1, h.rs, h.kept, h.pl, h.ops, by rw [cnt_off hs, keep_off hs]; exact h.own, h.below, h.lo, h.far⟩
theorem WoW.app (h : WoW w pc words el v l b1 rb g pb B0 k (k + 1) uv x) (hs : seenAt l k = true) (q1 : y.ownsRow B0 39 6 u' (cntS (seenAt l) k + 1) (opF (keepF l (seenAt l) k ++ [tellO (opAt l k) (seenAt l)]))) (hg : Goes (fun q => uv.ownBlock = some q) x y) : WoW w pc words el v l b1 rb g pb B0 (k + 1) (k + 1) u' y := by
  have ek : ∀ {b : Nat} {C : Array Value} {t : TypeId}, x.heap[b]? = some (.cells C t) → t ≠ 39 → y.heap[b]? = some (.cells C t) := fun {b C t} hb ht => by
    rw [hg.block b (lt_of_some hb) (fun e => own_ne hb h.own ht e)]; exact hb
  refine ⟨ek h.r1 (by decide), ek h.rs (by decide), ek h.kept (by decide), ek h.pl (by decide), h.ops.keepB (fun q hq => Nat.lt_of_lt_of_le hq hg.size) (fun ra n cap e hlt => hg.block _ hlt (fun e2 => ?_)), by rw [cnt_succ hs, keep_on hs]; exact q1, h.below.trans (hg.below h.below.size (fun q hq => Nat.le_trans h.lo.1 (h.own.lt q hq).1)), ⟨h.lo.1, h.lo.2.1, Nat.le_trans h.lo.2.2 hg.size⟩, h.far⟩
  have := h.far ra n cap e; have := (h.own.lt _ e2).1; have := h.lo.1; omega
theorem WoW.z3 (h : WoW w pc words el v l b1 rb g pb B0 k kp uv x) : x.cell? ⟨b1, 3, none⟩ = some v := by rw [cell_of_row _ _ _ _ _ _ h.r1]; rfl
theorem WoW.zk (h : WoW w pc words el v l b1 rb g pb B0 k kp uv x) {j : Nat} (hj : j < l.length) : x.cell? ⟨g, j, none⟩ = some (.bool (seenAt l j)) := bo_cell h.kept (by rw [seenL_len]; exact hj)
theorem WoW.zp (h : WoW w pc words el v l b1 rb g pb B0 k kp uv x) {j : Nat} (hj : j < l.length) : x.cell? ⟨pb, j, none⟩ = some (vI (if j < kp then (cntS (seenAt l) j : Int) else 0)) := by
  rw [cell_of_row _ _ _ _ _ _ h.pl, plD_get hj]
end
section
variable {w : World} {pc words el : Int} {v : Value} {l : List Opr}
set_option maxHeartbeats 16000000 in
theorem without_c (hR : rightB pc words el l = true) (O : Ops w v l) {g : Nat} (hg : w.heap[g]? = some (.cells (boC (seenL l) []) 4)) : Calls Try.prog 30 #[blV pc words el v, .slice (some ⟨g, 0, none⟩) l.length l.length] w fun e w' => ∃ u, e = .returned (blV pc words el u) ∧ w'.ownsRow w.heap.size 39 6 u (onlyL l).length (opF (onlyL l)) ∧ Below w.heap.size w w' := by
  obtain ⟨h0, h512, -⟩ := right_lens hR
  have hb1 := below_alloc w (.cells (blA pc words el v) 25)
  have hb2 := below_alloc (w.alloc (.cells (blA pc words el v) 25)) (.cells #[vU 0, vI 0, vI 0, .slice none 0 0] 25)
  have hB := below_then hb1 (Nat.le_refl _) hb2
  have r1 : ((w.alloc (.cells (blA pc words el v) 25)).alloc (.cells #[vU 0, vI 0, vI 0, .slice none 0 0] 25)).heap[w.heap.size]? = some (.cells (blA pc words el v) 25) := keepRow (heap_alloc_new _ _) hb2
  have r2 : ((w.alloc (.cells (blA pc words el v) 25)).alloc (.cells #[vU 0, vI 0, vI 0, .slice none 0 0] 25)).heap[w.heap.size + 1]? = some (.cells (blA 0 0 0 (.slice none 0 0)) 25) := by
    have := heap_alloc_new (w.alloc (.cells (blA pc words el v) 25)) (.cells #[vU 0, vI 0, vI 0, .slice none 0 0] 25)
    rw [World.size_alloc] at this
    exact this
  have O1 := O.grow hB
  have hg1 := keepRow hg hB
  have far := ops_far O h0
  obtain ⟨ra, cap, rfl, -⟩ := O.cell h0
  clear hb1 hb2 O hg
  go_enter Try.func30, Try.ntmps30
  go_upto_region 1 with fail
  generalize (w.alloc (.cells (blA pc words el (.slice (some ra) l.length cap)) 25)).alloc (.cells #[vU 0, vI 0, vI 0, .slice none 0 0] 25) = w1 at *
  obtain ⟨b1, hw1⟩ : ∃ b1, b1 = w.heap.size := ⟨_, rfl⟩
  obtain ⟨rb, hw2⟩ : ∃ rb, rb = w.heap.size + 1 := ⟨_, rfl⟩
  rw [← hw2] at r2 ⊢
  rw [← hw1] at r1 ⊢
  have hn12 : rb ≠ b1 := by omega
  have hlo1 : w.heap.size ≤ b1 := by omega
  have hlo2 : w.heap.size ≤ rb := by omega
  clear hw1 hw2
  have z3 : w1.cell? ⟨b1, 3, none⟩ = some (.slice (some ra) l.length cap) := by rw [cell_of_row _ _ _ _ _ _ r1]; rfl
  go_upto_region 2 with (first | ((with_reducible refine wpList_mkI rfl _ rfl (seenAt l) h512 rfl ?_); simp only [Act.put, List.setIfInBounds_toArray, List.set_cons_succ, List.set_cons_zero]))
  have hb3 := below_alloc w1 (.cells (plR (seenAt l) 0 l.length) 3)
  have X : WoW w pc words el (.slice (some ra) l.length cap) l b1 rb g w1.heap.size (w1.alloc (.cells (plR (seenAt l) 0 l.length) 3)).heap.size 0 0 (.slice none 0 0) (w1.alloc (.cells (plR (seenAt l) 0 l.length) 3)) :=
    ⟨keepRow r1 hb3, keepRow r2 hb3, keepRow hg1 hb3, by rw [← plD_zero]; exact heap_alloc_new _ _, O1.grow hb3, ⟨rfl, .inl ⟨rfl, rfl⟩⟩, below_then hB (Nat.le_refl _) hb3, ⟨Nat.le_trans hB.size hb3.size, hB.size, Nat.le_refl _⟩, far⟩
  clear z3 r1 r2 O1 hg1 far hB hb3
  generalize (w1.alloc (.cells (plR (seenAt l) 0 l.length) 3)).heap.size = B0 at *
  generalize w1.alloc (.cells (plR (seenAt l) 0 l.length) 3) = w2 at *
  generalize w1.heap.size = pb at *
  go_upto_region 4 with fail
  replace hn12 := show Hid _ from hn12
  replace hlo1 := show Hid _ from hlo1
  replace hlo2 := show Hid _ from hlo2
  go_loopw [6, 7] (fun s6 s7 wr => ∃ (k : Nat) (uv : Value), k ≤ l.length ∧ s7 = vI k ∧ s6 = uv ∧ WoW w pc words el (.slice (some ra) l.length cap) l b1 rb g pb B0 k k uv wr) (fun _ s7 _ => ((l.length : Int) - intOf s7).toNat)
  case atStart => exact ⟨0, .slice none 0 0, Nat.zero_le _, rfl, rfl, X⟩
  case round =>
    clear X
    obtain ⟨k, uv, hk, rfl, rfl, X⟩ := hrel
    obtain ⟨uo, uc, rfl, -, -⟩ := own_len X.own
    have z3 := X.z3
    by_cases hlt : (k : Int) < l.length
    · have hkl : k < l.length := by omega
      have y1 := X.zp hkl
      have f1 : wr.frozen? ⟨pb, k, none⟩ = false := frozen_of_row _ _ _ _ _ X.pl
      go_upto_region 7 with fail
      clear y1 f1 z3
      replace X := X.put hkl
      generalize wr.setCell ⟨pb, k, none⟩ (vI (cntS (seenAt l) k : Nat)) = x1 at *
      have zk := X.zk hkl
      cases hs : seenAt l k with
      | false =>
        rw [hs] at zk
        replace X := X.skip hs
        go_wp2
        go_roundw
        case rel => exact ⟨k + 1, .slice uo (cntS (seenAt l) k) uc, by omega, by go_num, rfl, X⟩
        case measure => simp [intOf]; try omega
      | true =>
        rw [hs] at zk
        replace hs := show Hid _ from hs
        have z3 := X.z3
        obtain ⟨ra', cap', e', hc⟩ := X.ops.cell (by omega)
        cases e'
        have A := hc k _ (opAt_some hkl)
        clear hc
        have h8 := X.out
        have Hn := has_none x1
        go_upto_region 9 with (first | ((with_reducible refine wpList_load42 rfl _ rfl _ rfl _ A ?_); simp only [Act.put, List.setIfInBounds_toArray, List.set_cons_succ, List.set_cons_zero]) | ((with_reducible refine wpList_store_new Hn rfl 39 _ _ rfl (opA (opAt l k)) rfl rfl (op_inf _) (by kernel_rfl) (op_one _) ?_); clear Hn; intro x2 Hn; simp only [Act.put, List.setIfInBounds_toArray, List.set_cons_succ, List.set_cons_zero]))
        replace X := X.grow Hn.below
        have r8 : x2.heap[x1.heap.size]? = some (.cells (opA (opAt l k)) 39) := Hn.get List.mem_cons_self
        generalize x1.heap.size = t8 at *
        clear Hn A z3 zk
        have ku := dUses_c (opAt l k)
        go_upto_region 10 with (first | ((with_reducible refine wpList_load_if rfl 39 _ rfl _ rfl 39 _ (0, 0) _ r8 Try.underlying39 rfl (op_inf _) ?_); simp only [Act.put, List.setIfInBounds_toArray, List.set_cons_succ, List.set_cons_zero]) | (go_at_call 23; (with_reducible refine (ku _).mono ?_); clear ku; rintro e x3 ⟨zv, rfl, RI, B⟩; dsimp only; obtain ⟨zo, zc, e3⟩ := RI.len; subst e3))
        replace X := X.grow B
        replace r8 := keepRow r8 B
        clear B RI
        rcases tell_cases hR hkl hs.out with ⟨eu, htell⟩ | ⟨ia, eu, ea, ha, htell⟩ | ⟨ia, ib, eu, ea, eb, ha, hb, htell⟩
        · rw [eu]
          clear eu
          replace htell := show Hid _ from htell
          go_upto_region 14 with fail
          generalize hO2 : (opAt l k) = o2 at r8
          replace hO2 := show Hid _ from hO2
          have hNb := below_alloc x3 (.cells (opA o2) 39)
          have hN := heap_alloc_new x3 (.cells (opA o2) 39)
          have X2 := X.grow hNb
          have hown := X2.own
          have hB0 := X2.lo.2.2
          have hlen := keep_len l (seenAt l) k
          have hmx : cntS (seenAt l) k ≤ 100000 := by have := cnt_le (seenAt l) k; omega
          replace hlen := show Hid _ from hlen
          go_wp2_with (first | ((with_reducible refine wpList_load_if rfl 39 _ rfl _ rfl 39 _ (0, 0) _ r8 Try.underlying39 rfl (op_inf _) ?_); simp only [Act.put, List.setIfInBounds_toArray, List.set_cons_succ, List.set_cons_zero]) | ((with_reducible refine wpList_oneO rfl _ rfl o2 rfl ?_); simp only [Act.put, List.setIfInBounds_toArray, List.set_cons_succ, List.set_cons_zero]) | ((with_reducible refine wpList_appO rfl _ _ rfl hlen.out rfl rfl hN hown hmx hB0 ?_); intro g2 cap2 w9 q1 q2 q3; simp only [Act.put, List.setIfInBounds_toArray, List.set_cons_succ, List.set_cons_zero]))
          have X3 : WoW w pc words el (.slice (some ra) l.length cap) l b1 rb g pb B0 (k + 1) (k + 1) (.slice (some ⟨g2, 0, none⟩) (cntS (seenAt l) k + 1) cap2) w9 := X2.app hs.out (by rw [htell.out, hO2.out]; exact q1) q2
          go_roundw
          case rel => exact ⟨k + 1, .slice (some ⟨g2, 0, none⟩) (cntS (seenAt l) k + 1) cap2, by omega, by go_num, rfl, X3⟩
          case measure => simp [intOf]; try omega

        · rw [eu]
          clear eu
          have y2 : x3.cell? ⟨t8, 2, none⟩ = some (vI ia) := by rw [cell_of_row _ _ _ _ _ _ r8, ← ea]; rfl
          have f2 : x3.frozen? ⟨t8, 2, none⟩ = false := frozen_of_row _ _ _ _ _ r8
          have yp := X.zp (show ia < l.length by omega)
          rw [if_pos (by omega)] at yp
          have hia : (ia : Int) < l.length := by omega
          replace htell := show Hid _ from htell
          replace ea := show Hid _ from ea
          go_upto_region 12 with fail
          clear y2 f2 yp hia
          replace r8 := heap_setCell_same x3 t8 2 _ 39 (vI (cntS (seenAt l) ia : Nat)) r8
          replace X := X.set8 h8 2 (vI (cntS (seenAt l) ia : Nat))
          generalize x3.setCell ⟨t8, 2, none⟩ (vI (cntS (seenAt l) ia : Nat)) = x4 at *
          go_upto_region 14 with fail
          replace r8 : x4.heap[t8]? = some (.cells (opA { opAt l k with a := (cntS (seenAt l) ia : Nat) }) 39) := r8
          generalize hO2 : (({ opAt l k with a := (cntS (seenAt l) ia : Nat) } : Opr)) = o2 at r8
          replace hO2 := show Hid _ from hO2
          have hNb := below_alloc x4 (.cells (opA o2) 39)
          have hN := heap_alloc_new x4 (.cells (opA o2) 39)
          have X2 := X.grow hNb
          have hown := X2.own
          have hB0 := X2.lo.2.2
          have hlen := keep_len l (seenAt l) k
          have hmx : cntS (seenAt l) k ≤ 100000 := by have := cnt_le (seenAt l) k; omega
          replace hlen := show Hid _ from hlen
          go_wp2_with (first | ((with_reducible refine wpList_load_if rfl 39 _ rfl _ rfl 39 _ (0, 0) _ r8 Try.underlying39 rfl (op_inf _) ?_); simp only [Act.put, List.setIfInBounds_toArray, List.set_cons_succ, List.set_cons_zero]) | ((with_reducible refine wpList_oneO rfl _ rfl o2 rfl ?_); simp only [Act.put, List.setIfInBounds_toArray, List.set_cons_succ, List.set_cons_zero]) | ((with_reducible refine wpList_appO rfl _ _ rfl hlen.out rfl rfl hN hown hmx hB0 ?_); intro g2 cap2 w9 q1 q2 q3; simp only [Act.put, List.setIfInBounds_toArray, List.set_cons_succ, List.set_cons_zero]))
          have X3 : WoW w pc words el (.slice (some ra) l.length cap) l b1 rb g pb B0 (k + 1) (k + 1) (.slice (some ⟨g2, 0, none⟩) (cntS (seenAt l) k + 1) cap2) w9 := X2.app hs.out (by rw [htell.out, hO2.out]; exact q1) q2
          go_roundw
          case rel => exact ⟨k + 1, .slice (some ⟨g2, 0, none⟩) (cntS (seenAt l) k + 1) cap2, by omega, by go_num, rfl, X3⟩
          case measure => simp [intOf]; try omega

        · rw [eu]
          clear eu
          have y2 : x3.cell? ⟨t8, 2, none⟩ = some (vI ia) := by rw [cell_of_row _ _ _ _ _ _ r8, ← ea]; rfl
          have f2 : x3.frozen? ⟨t8, 2, none⟩ = false := frozen_of_row _ _ _ _ _ r8
          have yp := X.zp (show ia < l.length by omega)
          rw [if_pos (by omega)] at yp
          have hia : (ia : Int) < l.length := by omega
          have hib : (ib : Int) < l.length := by omega
          replace htell := show Hid _ from htell
          replace ea := show Hid _ from ea
          replace eb := show Hid _ from eb
          go_upto_region 12 with fail
          clear y2 f2 yp hia
          replace r8 := heap_setCell_same x3 t8 2 _ 39 (vI (cntS (seenAt l) ia : Nat)) r8
          replace X := X.set8 h8 2 (vI (cntS (seenAt l) ia : Nat))
          generalize x3.setCell ⟨t8, 2, none⟩ (vI (cntS (seenAt l) ia : Nat)) = x4 at *
          replace r8 : x4.heap[t8]? = some (.cells (opA { opAt l k with a := (cntS (seenAt l) ia : Nat) }) 39) := r8
          have y2 : x4.cell? ⟨t8, 3, none⟩ = some (vI ib) := by rw [cell_of_row _ _ _ _ _ _ r8, ← eb.out]; rfl
          have f2 : x4.frozen? ⟨t8, 3, none⟩ = false := frozen_of_row _ _ _ _ _ r8
          have yp := X.zp (show ib < l.length by omega)
          rw [if_pos (by omega)] at yp
          go_upto_region 14 with fail
          clear y2 f2 yp hib
          replace r8 := heap_setCell_same x4 t8 3 _ 39 (vI (cntS (seenAt l) ib : Nat)) r8
          replace X := X.set8 h8 3 (vI (cntS (seenAt l) ib : Nat))
          generalize x4.setCell ⟨t8, 3, none⟩ (vI (cntS (seenAt l) ib : Nat)) = x5 at *
          replace r8 : x5.heap[t8]? = some (.cells (opA { opAt l k with a := (cntS (seenAt l) ia : Nat), b := (cntS (seenAt l) ib : Nat) }) 39) := r8
          generalize hO2 : (({ opAt l k with a := (cntS (seenAt l) ia : Nat), b := (cntS (seenAt l) ib : Nat) } : Opr)) = o2 at r8
          replace hO2 := show Hid _ from hO2
          have hNb := below_alloc x5 (.cells (opA o2) 39)
          have hN := heap_alloc_new x5 (.cells (opA o2) 39)
          have X2 := X.grow hNb
          have hown := X2.own
          have hB0 := X2.lo.2.2
          have hlen := keep_len l (seenAt l) k
          have hmx : cntS (seenAt l) k ≤ 100000 := by have := cnt_le (seenAt l) k; omega
          replace hlen := show Hid _ from hlen
          go_wp2_with (first | ((with_reducible refine wpList_load_if rfl 39 _ rfl _ rfl 39 _ (0, 0) _ r8 Try.underlying39 rfl (op_inf _) ?_); simp only [Act.put, List.setIfInBounds_toArray, List.set_cons_succ, List.set_cons_zero]) | ((with_reducible refine wpList_oneO rfl _ rfl o2 rfl ?_); simp only [Act.put, List.setIfInBounds_toArray, List.set_cons_succ, List.set_cons_zero]) | ((with_reducible refine wpList_appO rfl _ _ rfl hlen.out rfl rfl hN hown hmx hB0 ?_); intro g2 cap2 w9 q1 q2 q3; simp only [Act.put, List.setIfInBounds_toArray, List.set_cons_succ, List.set_cons_zero]))
          have X3 : WoW w pc words el (.slice (some ra) l.length cap) l b1 rb g pb B0 (k + 1) (k + 1) (.slice (some ⟨g2, 0, none⟩) (cntS (seenAt l) k + 1) cap2) w9 := X2.app hs.out (by rw [htell.out, hO2.out]; exact q1) q2
          go_roundw
          case rel => exact ⟨k + 1, .slice (some ⟨g2, 0, none⟩) (cntS (seenAt l) k + 1) cap2, by omega, by go_num, rfl, X3⟩
          case measure => simp [intOf]; try omega

    · obtain rfl : k = l.length := by omega
      have hown : wr.ownsRow B0 39 6 (.slice uo (cntS (seenAt l) l.length) uc) (onlyL l).length (opF (onlyL l)) := by rw [only_len]; exact X.own
      have hone : (Value.slice uo (cntS (seenAt l) l.length) uc).oneCell' = true := (opsC_of hown (by rw [only_len]; have := cnt_le (seenAt l) l.length; simp only [maxLen]; omega)).one
      have f3 : wr.frozen? ⟨b1, 3, none⟩ = false := frozen_of_row _ _ _ _ _ X.r1
      have hlo := X.lo.1
      go_upto_region 16 with fail
      have q1 := heap_setCell_same wr b1 3 _ 25 (.slice uo (cntS (seenAt l) l.length) uc) X.r1
      replace q1 : (wr.setCell ⟨b1, 3, none⟩ (.slice uo (cntS (seenAt l) l.length) uc)).heap[b1]? = some (.cells (blA pc words el (.slice uo (cntS (seenAt l) l.length) uc)) 25) := q1
      have q2 : (wr.setCell ⟨b1, 3, none⟩ (.slice uo (cntS (seenAt l) l.length) uc)).heap[rb]? = some (.cells (blA 0 0 0 (.slice none 0 0)) 25) := by
        rw [Below.heap_setCell _ _ _ _ hn12.out]; exact X.rs
      have q3 : (wr.setCell ⟨b1, 3, none⟩ (.slice uo (cntS (seenAt l) l.length) uc)).ownsRow B0 39 6 (.slice uo (cntS (seenAt l) l.length) uc) (onlyL l).length (opF (onlyL l)) :=
        own_of_block hown (fun q hq => Below.heap_setCell _ _ _ _ (fun e => own_ne X.r1 hown (by decide) (by rw [hq]; exact congrArg some e)))
      have q4 := below_cell (k := 3) (u := .slice uo (cntS (seenAt l) l.length) uc) X.below hlo1.out
      generalize wr.setCell ⟨b1, 3, none⟩ (.slice uo (cntS (seenAt l) l.length) uc) = x1 at *
      clear X z3 f3 hown
      have p1 := setRow_heap x1 rb _ (blA pc words el (.slice uo (cntS (seenAt l) l.length) uc)) _ _ q2
      have p2 : (x1.setRow rb (blA pc words el (.slice uo (cntS (seenAt l) l.length) uc))).ownsRow w.heap.size 39 6 (.slice uo (cntS (seenAt l) l.length) uc) (onlyL l).length (opF (onlyL l)) :=
        own_mono (own_of_block q3 (fun q hq => setRow_other _ _ _ _ (fun e => own_ne q2 q3 (by decide) (by rw [hq, e])))) hlo
      have p3 := below_setRow (cs := blA pc words el (.slice uo (cntS (seenAt l) l.length) uc)) q4 hlo2.out
      go_wp2_with (first | ((with_reducible refine wpList_load_if rfl 25 _ rfl _ rfl 25 _ (0, 0) _ q1 Try.underlying25 rfl (bl_inf _ _ _ _) ?_); simp only [Act.put, List.setIfInBounds_toArray, List.set_cons_succ, List.set_cons_zero]) | ((with_reducible refine wpList_store_row rfl 25 _ _ rfl rb (blA pc words el (.slice uo (cntS (seenAt l) l.length) uc)) rfl rfl 25 _ q2 (bl_inf _ _ _ _) rfl (blk_one _ _ _ _ hone) ?_); simp only [Act.put, List.setIfInBounds_toArray, List.set_cons_succ, List.set_cons_zero]))
      refine bodyPost_ret (back25 rfl _ _ _ rfl p1) rfl ?_
      exact ⟨_, rfl, p2, p3⟩
end
end Go.Proofs.Ytejlmggfeejgpaa
/- The chapter's Block. -/
namespace Go.Proofs.Ytejlmggfeejgpaa
open Go.RowKit
set_option linter.unusedVariables false
set_option linter.unusedSimpArgs false
set_option maxRecDepth 8000

/-- What the chapter's Block holds ahead of a go. -/
structure BoW (w : World) (pc words el : Int) (l : List Opr) (b1 rb : Nat) (m : List Opr) (u : Value) (x : World) : Prop where
  right : rightB pc words el m = true
  imm : ∀ k, U64 (opAt m k).imm
  dead : deadL m = deadL l
  r1 : x.heap[b1]? = some (.cells (blA pc words el u) 25)
  rs : x.heap[rb]? = some (.cells (blA 0 0 0 (.slice none 0 0)) 25)
  ops : Ops x u m
  one : u.oneCell' = true
  below : Below w.heap.size w x
  lo : w.heap.size ≤ b1 ∧ w.heap.size ≤ rb ∧ rb ≠ b1
  far : ∀ ra n cap, u = .slice (some ra) n cap → ra.block ≠ rb
section
variable {w x y : World} {pc words el : Int} {l m : List Opr} {b1 rb : Nat} {u : Value}
theorem BoW.grow (h : BoW w pc words el l b1 rb m u x) (hb : Below x.heap.size x y) : BoW w pc words el l b1 rb m u y :=
  ⟨h.right, h.imm, h.dead, keepRow h.r1 hb, keepRow h.rs hb, h.ops.grow hb, h.one, below_then h.below (Nat.le_refl _) hb, h.lo, h.far⟩
theorem BoW.next (h : BoW w pc words el l b1 rb m u x) (ha : allSeen m = false) {u' : Value} {B : Nat} (own : x.ownsRow B 39 6 u' (onlyL m).length (opF (onlyL m))) : BoW w pc words el l b1 rb (onlyL m) u' (x.setRow b1 (blA pc words el u')) := by
  obtain ⟨m0, m512, -⟩ := right_lens h.right
  have hmx : (onlyL m).length ≤ maxLen := by have := only_less ha; simp only [maxLen]; omega
  have own' : (x.setRow b1 (blA pc words el u')).ownsRow B 39 6 u' (onlyL m).length (opF (onlyL m)) := own_of_block own (fun q hq => setRow_other _ _ _ _ (fun e => own_ne h.r1 own (by decide) (by rw [hq, e])))
  exact ⟨only_right h.right, only_imm h.imm, by rw [← dead_go h.right ha]; exact h.dead, setRow_heap _ _ _ _ _ _ h.r1, by rw [setRow_other _ _ _ _ h.lo.2.2]; exact h.rs, (opsC_of own' hmx).ops, (opsC_of own' hmx).one, below_setRow h.below h.lo.1, h.lo, fun ra n cap e => fun e2 => by
    have ho : 0 < (onlyL m).length := (right_lens (only_right h.right)).1
    obtain ⟨g, c, e3, -⟩ := own_addr own ho
    cases e.symm.trans e3
    exact own_ne h.rs own (by decide) (by rw [e3, ← e2]; rfl)⟩
theorem BoW.zc (h : BoW w pc words el l b1 rb m u x) : x.cell? ⟨b1, 3, none⟩ = some u := by rw [cell_of_row _ _ _ _ _ _ h.r1]; rfl
end
theorem ops_lenV {x : World} {u : Value} {m : List Opr} (O : Ops x u m) : lenV u = m.length := by obtain ⟨_, _, rfl⟩ := O.len; rfl
section
variable {w : World} {pc words el : Int} {v : Value} {l : List Opr}
set_option maxHeartbeats 16000000 in
theorem refBlock_c (hR : rightB pc words el l = true) (hu : ∀ k, U64 (opAt l k).imm) (O : Ops w v l) (h1 : v.oneCell' = true) : Calls Try.prog 14 #[blV pc words el v] w fun e w' => ∃ u, e = .returned (blV pc words el u) ∧ Ops w' u (deadL l) ∧ Below w.heap.size w w' := by
  have hb1 := below_alloc w (.cells (blA pc words el v) 25)
  have hb2 := below_alloc (w.alloc (.cells (blA pc words el v) 25)) (.cells #[vU 0, vI 0, vI 0, .slice none 0 0] 25)
  have hB := below_then hb1 (Nat.le_refl _) hb2
  have X : BoW w pc words el l w.heap.size (w.heap.size + 1) l v ((w.alloc (.cells (blA pc words el v) 25)).alloc (.cells #[vU 0, vI 0, vI 0, .slice none 0 0] 25)) :=
    ⟨hR, hu, rfl, keepRow (heap_alloc_new _ _) hb2, by
      have := heap_alloc_new (w.alloc (.cells (blA pc words el v) 25)) (.cells #[vU 0, vI 0, vI 0, .slice none 0 0] 25)
      rw [World.size_alloc] at this
      exact this, O.grow hB, h1, hB, ⟨Nat.le_refl _, by omega, by omega⟩, fun ra n cap e => by have := ops_far O (right_lens hR).1 ra n cap e; omega⟩
  clear hb1 hb2 hB O hR hu h1
  go_enter Try.func14, Try.ntmps14
  go_upto_region 1 with fail
  generalize (w.alloc (.cells (blA pc words el v) 25)).alloc (.cells #[vU 0, vI 0, vI 0, .slice none 0 0] 25) = w1 at *
  generalize w.heap.size + 1 = rb at *
  obtain ⟨b1, hb1⟩ : ∃ b1, b1 = w.heap.size := ⟨_, rfl⟩
  rw [← hb1] at X ⊢
  replace hb1 := show Hid _ from hb1
  go_loopw [] (fun wr => ∃ (m : List Opr) (u : Value), BoW w pc words el l b1 rb m u wr) (fun wr => lenV ((wr.cell? ⟨b1, 3, none⟩).getD undef))
  case atStart => exact ⟨l, v, X⟩
  case round =>
    clear X
    obtain ⟨m, u, X⟩ := hrel
    have hms : lenV ((wr.cell? ⟨b1, 3, none⟩).getD undef) = m.length := by rw [X.zc]; exact ops_lenV X.ops
    replace hms := show Hid _ from hms
    obtain ⟨m0, m512, -⟩ := right_lens X.right
    have r1 := X.r1
    have ks := refSeen_c X.right X.ops
    go_upto_region 2 with (first | ((with_reducible refine wpList_load_if rfl 25 _ rfl _ rfl 25 _ (0, 0) _ r1 Try.underlying25 rfl (bl_inf _ _ _ _) ?_); simp only [Act.put, List.setIfInBounds_toArray, List.set_cons_succ, List.set_cons_zero]) | (go_at_call 13; (with_reducible refine ks.mono ?_); clear ks; rintro e w4 ⟨g, hg, rfl, rg, B⟩; dsimp only))
    replace X := X.grow B
    clear r1 B hg
    go_upto_region 4 with fail
    go_loopw [4, 5] (fun s4 s5 wq => ∃ k : Nat, k ≤ m.length ∧ s4 = .bool ((List.range k).all (seenAt m)) ∧ s5 = vI k ∧ BoW w pc words el l b1 rb m u wq ∧ wq.heap[g]? = some (.cells (boC (seenL m) []) 4)) (fun _ s5 _ => ((m.length : Int) - intOf s5).toNat)
    case atStart => exact ⟨0, Nat.zero_le _, rfl, rfl, X, rg⟩
    case round =>
      clear X rg
      obtain ⟨k, hk, rfl, rfl, X, rg⟩ := hrel
      by_cases hlt : (k : Int) < m.length
      · have hkm : k < m.length := by omega
        have zk : wr.cell? ⟨g, k, none⟩ = some (.bool (seenAt m k)) := bo_cell rg (by rw [seenL_len]; exact hkm)
        have hall : (List.range (k + 1)).all (seenAt m) = ((List.range k).all (seenAt m) && seenAt m k) := by rw [List.range_succ, List.all_append]; simp
        replace hall := show Hid _ from hall
        cases hA : (List.range k).all (seenAt m)
        · have hn := show Hid _ from (show (List.range (k + 1)).all (seenAt m) = false by rw [hall.out, hA]; rfl)
          clear hall
          go_wp2
          go_roundw
          case rel => exact ⟨k + 1, by omega, by rw [hn.out], by go_num, X, rg⟩
          case measure => simp [intOf]; try omega
        · have hn := show Hid _ from (show (List.range (k + 1)).all (seenAt m) = seenAt m k by rw [hall.out, hA]; rfl)
          clear hall
          go_wp2
          go_roundw
          case rel => exact ⟨k + 1, by omega, by rw [hn.out], by go_num, X, rg⟩
          case measure => simp [intOf]; try omega
      · obtain rfl : k = m.length := by omega
        have hq : (List.range m.length).all (seenAt m) = allSeen m := rfl
        rw [hq]
        clear hq
        cases ha : allSeen m with
        | true =>
          have hd := dead_same ha
          rw [X.dead] at hd
          replace hd := show Hid _ from hd
          replace ha := show Hid _ from ha
          have r1 := X.r1
          have rs := X.rs
          have h1 := X.one
          have O := X.ops
          have hB := X.below
          have hlo := X.lo.2.1
          have hne := X.lo.2.2
          have O2 : Ops (wr.setRow rb (blA pc words el u)) u m := O.keepB (fun q hq => by rw [size_setRow]; exact hq) (fun ra n cap e hlt => setRow_other _ _ _ _ (X.far ra n cap e))
          clear X hms
          have p1 := setRow_heap wr rb _ (blA pc words el u) _ _ rs
          have p2 := below_setRow (cs := blA pc words el u) hB hlo
          clear O
          go_wp2_with (first | ((with_reducible refine wpList_load_if rfl 25 _ rfl _ rfl 25 _ (0, 0) _ r1 Try.underlying25 rfl (bl_inf _ _ _ _) ?_); simp only [Act.put, List.setIfInBounds_toArray, List.set_cons_succ, List.set_cons_zero]) | ((with_reducible refine wpList_store_row rfl 25 _ _ rfl rb (blA pc words el u) rfl rfl 25 _ rs (bl_inf _ _ _ _) rfl (blk_one _ _ _ _ h1) ?_); simp only [Act.put, List.setIfInBounds_toArray, List.set_cons_succ, List.set_cons_zero]))
          refine bodyPost_ret (back25 rfl _ _ _ rfl p1) rfl ?_
          exact ⟨u, rfl, by rw [hd.out]; exact O2, p2⟩
        | false =>
          replace ha := show Hid _ from ha
          have r1 := X.r1
          have kw := without_c X.right X.ops rg
          go_wp2_with (first | ((with_reducible refine wpList_load_if rfl 25 _ rfl _ rfl 25 _ (0, 0) _ r1 Try.underlying25 rfl (bl_inf _ _ _ _) ?_); simp only [Act.put, List.setIfInBounds_toArray, List.set_cons_succ, List.set_cons_zero]) | (go_at_call 30; (with_reducible refine kw.mono ?_); clear kw; rintro e w5 ⟨u', rfl, hown, B⟩; dsimp only; replace X := X.grow B; replace r1 := X.r1; have h1 : u'.oneCell' = true := (opsC_of hown (by have := only_less ha.out; simp only [maxLen]; omega)).one; have X9 := X.next ha.out hown) | ((with_reducible refine wpList_store_row rfl 25 _ _ rfl b1 (blA pc words el u') rfl rfl 25 _ r1 (bl_inf _ _ _ _) rfl (blk_one _ _ _ _ h1) ?_); simp only [Act.put, List.setIfInBounds_toArray, List.set_cons_succ, List.set_cons_zero]))
          go_roundw
          case rel => exact ⟨onlyL m, u', X9⟩
          case measure =>
            have := only_less ha.out
            rw [hms.out, X9.zc]
            show lenV u' < _
            rw [ops_lenV X9.ops]
            omega
end
end Go.Proofs.Ytejlmggfeejgpaa
/- Two blocks compared; a copy; one operation stored. -/
namespace Go.Proofs.Ytejlmggfeejgpaa
open Go.RowKit
set_option linter.unusedVariables false
set_option linter.unusedSimpArgs false
set_option maxRecDepth 8000

theorem wpList_neqO {ops : Array Oper} {rest : List Oper} {o : Oper} {a : Act} {w : World} {Q : Exit → Act → World → Prop} (hw : Region.wanted o (yielded ops a.tmps) = true) (x y : Operand) (ho : o.op = .binOp .neq 39 x y 39)
    (c d : Opr) (hx : a.eval x = opV c) (hy : a.eval y = opV d) (b : Bool) (hb : decide (c = d) = b) (h : wpList Try.prog ops Q rest (a.put o.dst (.bool (!b))) w) : wpList Try.prog ops Q (o :: rest) a w := by
  refine BigFrame.wpList_want hw fun K hK => ?_
  have he := op_eq c d w
  rw [hb] at he
  unfold Oper.wp execOp
  simp only [ho, hx, hy, Sem.run_bind, run_eqGuard_agg w _ _ _ _ _ _ guard42, Result.andThen_ok, run_neq_struct, he]
  exact hK _ _ h
theorem list_eq_of {l m : List Opr} (hl : l.length = m.length) (h : ∀ j, j < l.length → opAt l j = opAt m j) : l = m := by
  apply List.ext_getElem hl
  intro j h1 h2
  have := h j h1
  unfold opAt at this
  rw [List.getElem?_eq_getElem h1, List.getElem?_eq_getElem h2] at this
  exact this
theorem below_dr' {w x : World} (h : Below w.heap.size w x) : Below w.heap.size w { x with drawn := x.drawn + 1 } := h.trans ((below_dr x).mono h.size)
section
variable {l m : List Opr} {w : World} {v u : Value} {pc words el : Int}
/-- Same's two blocks. -/
structure SmW (w : World) (pc words el : Int) (v u : Value) (l m : List Opr) (b1 b2 : Nat) (x : World) : Prop where
  r1 : x.heap[b1]? = some (.cells (blA pc words el v) 25)
  r2 : x.heap[b2]? = some (.cells (blA pc words el u) 25)
  o1 : Ops x v l
  o2 : Ops x u m
  below : Below w.heap.size w x
theorem SmW.grow {b1 b2 : Nat} {x y : World} (h : SmW w pc words el v u l m b1 b2 x) (hb : Below x.heap.size x y) : SmW w pc words el v u l m b1 b2 y :=
  ⟨keepRow h.r1 hb, keepRow h.r2 hb, h.o1.grow hb, h.o2.grow hb, below_then h.below (Nat.le_refl _) hb⟩
theorem smW_first (O1 : Ops w v l) (O2 : Ops w u m) : SmW w pc words el v u l m w.heap.size (w.heap.size + 1) ((w.alloc (.cells (blA pc words el v) 25)).alloc (.cells (blA pc words el u) 25)) := by
  have hb1 := below_alloc w (.cells (blA pc words el v) 25)
  have hb2 := below_alloc (w.alloc (.cells (blA pc words el v) 25)) (.cells (blA pc words el u) 25)
  refine ⟨keepRow (heap_alloc_new _ _) hb2, ?_, (O1.grow hb1).grow hb2, (O2.grow hb1).grow hb2, below_then hb1 (Nat.le_refl _) hb2⟩
  have := heap_alloc_new (w.alloc (.cells (blA pc words el v) 25)) (.cells (blA pc words el u) 25)
  rw [World.size_alloc] at this; exact this
set_option maxHeartbeats 4000000 in
theorem same_c (O1 : Ops w v l) (O2 : Ops w u m) : Calls Try.prog 11 #[blV pc words el v, blV pc words el u] w fun e w' => e = .returned (.bool (decide (l = m))) ∧ Below w.heap.size w w' := by
  have S0 := smW_first (pc := pc) (words := words) (el := el) O1 O2
  have hm1 := O1.max
  have hm2 := O2.max
  simp only [maxLen] at hm1 hm2
  obtain ⟨a1, c1, rfl⟩ := O1.len
  obtain ⟨a2, c2, rfl⟩ := O2.len
  clear O1 O2
  go_enter Try.func11, Try.ntmps11
  go_upto_region 1 with fail
  generalize (w.alloc (.cells (blA pc words el (.slice a1 l.length c1)) 25)).alloc (.cells (blA pc words el (.slice a2 m.length c2)) 25) = x1 at *
  generalize w.heap.size + 1 = b2 at *
  generalize hb1 : w.heap.size = b1 at S0
  replace hb1 := show Hid _ from hb1
  have z10 : x1.cell? ⟨b1, 0, none⟩ = some (vU pc) := by rw [cell_of_row _ _ _ _ _ _ S0.r1]; rfl
  have z11 : x1.cell? ⟨b1, 1, none⟩ = some (vI words) := by rw [cell_of_row _ _ _ _ _ _ S0.r1]; rfl
  have z12 : x1.cell? ⟨b1, 2, none⟩ = some (vI el) := by rw [cell_of_row _ _ _ _ _ _ S0.r1]; rfl
  have z13 : x1.cell? ⟨b1, 3, none⟩ = some (.slice a1 l.length c1) := by rw [cell_of_row _ _ _ _ _ _ S0.r1]; rfl
  have z20 : x1.cell? ⟨b2, 0, none⟩ = some (vU pc) := by rw [cell_of_row _ _ _ _ _ _ S0.r2]; rfl
  have z21 : x1.cell? ⟨b2, 1, none⟩ = some (vI words) := by rw [cell_of_row _ _ _ _ _ _ S0.r2]; rfl
  have z22 : x1.cell? ⟨b2, 2, none⟩ = some (vI el) := by rw [cell_of_row _ _ _ _ _ _ S0.r2]; rfl
  have z23 : x1.cell? ⟨b2, 3, none⟩ = some (.slice a2 m.length c2) := by rw [cell_of_row _ _ _ _ _ _ S0.r2]; rfl
  by_cases hl : l.length = m.length
  · have hb : (((l.length : Nat) : Int) != (m.length : Int)) = false := by rw [hl]; simp
    replace hl := show Hid _ from hl
    go_upto_region 3 with fail
    clear z10 z11 z12 z13 z20 z21 z22 z23
    replace hl := hl.out
    have E0 : Hid (∀ j, j < 0 → opAt l j = opAt m j) := fun j h => absurd h (by omega)
    replace hl := show Hid _ from hl
    go_upto_region 4 with fail
    go_loopw [5] (fun s5 wr => ∃ i : Nat, s5 = .int .i64 i ∧ i ≤ l.length ∧ SmW w pc words el (.slice a1 l.length c1) (.slice a2 m.length c2) l m b1 b2 wr ∧ Hid (∀ j, j < i → opAt l j = opAt m j)) (fun s5 _ => l.length - (intOf s5).toNat)
    case atStart => exact ⟨0, rfl, Nat.zero_le _, S0, E0⟩
    case round =>
      clear S0
      obtain ⟨i, rfl, hi, S, hE⟩ := hrel
      clear E0
      have z13 : wr.cell? ⟨b1, 3, none⟩ = some (.slice a1 l.length c1) := by rw [cell_of_row _ _ _ _ _ _ S.r1]; rfl
      by_cases hlt : (i : Int) < l.length
      · have hil : i < l.length := by omega
        have hlt2 : (i : Int) < m.length := by have := hl.out; omega
        obtain ⟨ra, ca, e1, h1⟩ := S.o1.cell (by omega)
        cases e1
        obtain ⟨rb, cb, e2, h2⟩ := S.o2.cell (by omega)
        cases e2
        have A1 := h1 i _ (opAt_some hil)
        have A2 := h2 i _ (opAt_some (by omega))
        clear h1 h2
        go_upto_region 6 with fail
        clear z13
        refine wp_region_still_tail 10 (by kernel_rfl) (by kernel_rfl) ?_
        replace S := S.grow (below_dr wr)
        replace A1 := run_load42 (A1.grow (below_dr wr))
        replace A2 := run_load42 (A2.grow (below_dr wr))
        generalize ({ wr with drawn := wr.drawn + 1 } : World) = w2 at *
        have z13 : w2.cell? ⟨b1, 3, none⟩ = some (.slice (some ra) l.length c1) := by rw [cell_of_row _ _ _ _ _ _ S.r1]; rfl
        have z23 : w2.cell? ⟨b2, 3, none⟩ = some (.slice (some rb) m.length c2) := by rw [cell_of_row _ _ _ _ _ _ S.r2]; rfl
        simp only [List.take_succ_cons, List.take_zero, List.drop_succ_cons, List.drop_zero]
        repeat (first | still_step | ((with_reducible refine still_row rfl _ _ rfl rfl A1 ?_); simp only [Act.put, List.setIfInBounds_toArray, List.set_cons_succ, List.set_cons_zero]) | ((with_reducible refine still_row rfl _ _ rfl rfl A2 ?_); simp only [Act.put, List.setIfInBounds_toArray, List.set_cons_succ, List.set_cons_zero]))
        refine wpStill_nil ?_
        clear z13 z23 A1 A2
        cases hd : decide (opAt l i = opAt m i) with
        | true =>
          go_wp2_with ((with_reducible refine wpList_neqO rfl _ _ rfl _ _ rfl rfl _ hd ?_); simp only [Act.put, List.setIfInBounds_toArray, List.set_cons_succ, List.set_cons_zero])
          go_roundw
          case rel =>
            refine ⟨i + 1, by go_num, by omega, S, fun j hj => ?_⟩
            rcases Nat.lt_or_ge j i with h | h
            · exact hE.out j h
            · obtain rfl : j = i := by omega
              exact of_decide_eq_true hd
          case measure => simp [intOf]; omega
        | false =>
          have hno : decide (l = m) = false := by
            rw [decide_eq_false_iff_not]
            intro e
            subst e
            exact absurd rfl (of_decide_eq_false hd)
          go_wp2_with ((with_reducible refine wpList_neqO rfl _ _ rfl _ _ rfl rfl _ hd ?_); simp only [Act.put, List.setIfInBounds_toArray, List.set_cons_succ, List.set_cons_zero])
          go_ret
          exact ⟨by first | rfl | (rw [hno]; rfl), S.below⟩
      · have hyes : decide (l = m) = true := decide_eq_true (list_eq_of hl.out (fun j hj => hE.out j (by omega)))
        have B := S.below
        clear hE S
        go_wp2
        go_ret
        exact ⟨by first | rfl | (rw [hyes]; rfl), B⟩
  · have hb : (((l.length : Nat) : Int) != (m.length : Int)) = true := by simp; omega
    have hno : decide (l = m) = false := by
      rw [decide_eq_false_iff_not]
      exact fun e => hl (by rw [e])
    go_wp2
    go_ret
    exact ⟨by first | rfl | (rw [hno]; rfl), S0.below⟩
end

/-- A store of one operation into a row of them. -/
theorem run_stO {w : World} {g k : Nat} {C : Array Value} (o : Opr) (hg : w.heap[g]? = some (.cells C 39)) (hs : k * 6 + 6 ≤ C.size) : (storeVar 39 ⟨g, k * 6, none⟩ (opV o)).run Try.prog w = .ok () (w.setRow g (layC C k o)) := by
  have := run_storeCells_at (P := Try.prog) g (k * 6) 39 (opA o).toList 0 _ w hg (by simpa using hs) (fun v hv => by
    have := Array.all_eq_true_iff_forall_mem.1 (op_one o) v (by simpa using hv); exact this)
  have e6 : (opA o).toList.length = 6 := rfl
  rw [e6] at this
  simp only [Nat.add_zero] at this
  have hin := op_inf o
  unfold layC
  cases hq : Try.prog.info? 39 with
  | none => simp [hq] at hin
  | some inf =>
    have hs : inf.size = 6 := by simpa [hq] using hin
    simp [storeVar, sizeOf, typeInfo, hq, Value.cells, hs, this]
theorem wpList_stO {ops : Array Oper} {rest : List Oper} {p : Oper} {a : Act} {w : World} {Q : Exit → Act → World → Prop} (hgd : p.guard = none) (x y : Operand) (ho : p.op = .store 39 x y) {g k : Nat} {C : Array Value} (o : Opr) (hx : a.eval x = ptr g (k * 6)) (hy : a.eval y = opV o) (hg : w.heap[g]? = some (.cells C 39)) (hs : k * 6 + 6 ≤ C.size)
    (h : wpList Try.prog ops Q rest (a.put p.dst undef) (w.setRow g (layC C k o))) : wpList Try.prog ops Q (p :: rest) a w :=
  wpList_plain hgd fun K hK => by
    unfold Oper.wp execOp
    simp only [ho, hx, hy, Instr.storeAt, Instr.sureAddr, asAddr, Sem.run_bind, Sem.run_pure, Result.andThen_ok, run_stO o hg hs]
    exact hK _ _ h
section
variable {w : World} {pc words el : Int} {v : Value} {l : List Opr}
set_option maxHeartbeats 4000000 in
theorem copied_c (O : Ops w v l) (hl : l.length * 48 ≤ 140737488351232) : Calls Try.prog 7 #[blV pc words el v] w fun e w' => ∃ u, e = .returned (blV pc words el u) ∧ w'.ownsRow w.heap.size 39 6 u l.length (opF l) ∧ Below w.heap.size w w' := by
  have hb1 := below_alloc w (.cells (blA pc words el v) 25)
  have hb2 := below_alloc (w.alloc (.cells (blA pc words el v) 25)) (.cells #[vU 0, vI 0, vI 0, .slice none 0 0] 25)
  have hB := below_then hb1 (Nat.le_refl _) hb2
  have r1 : ((w.alloc (.cells (blA pc words el v) 25)).alloc (.cells #[vU 0, vI 0, vI 0, .slice none 0 0] 25)).heap[w.heap.size]? = some (.cells (blA pc words el v) 25) := keepRow (heap_alloc_new _ _) hb2
  have r2 : ((w.alloc (.cells (blA pc words el v) 25)).alloc (.cells #[vU 0, vI 0, vI 0, .slice none 0 0] 25)).heap[w.heap.size + 1]? = some (.cells (blA 0 0 0 (.slice none 0 0)) 25) := by
    have := heap_alloc_new (w.alloc (.cells (blA pc words el v) 25)) (.cells #[vU 0, vI 0, vI 0, .slice none 0 0] 25)
    rw [World.size_alloc] at this
    exact this
  have O1 := O.grow hB
  have hmx := O.max
  clear hb1 hb2 O
  go_enter Try.func7, Try.ntmps7
  go_upto_region 1 with fail
  generalize (w.alloc (.cells (blA pc words el v) 25)).alloc (.cells #[vU 0, vI 0, vI 0, .slice none 0 0] 25) = w1 at *
  obtain ⟨b1, hw1⟩ : ∃ b1, b1 = w.heap.size := ⟨_, rfl⟩
  obtain ⟨rb, hw2⟩ : ∃ rb, rb = w.heap.size + 1 := ⟨_, rfl⟩
  rw [← hw2] at r2 ⊢
  rw [← hw1] at r1 ⊢
  have hn12 := show Hid _ from (show rb ≠ b1 by omega)
  have hlo1 := show Hid _ from (show w.heap.size ≤ b1 by omega)
  have hlo2 := show Hid _ from (show w.heap.size ≤ rb by omega)
  clear hw1 hw2
  have z3 : w1.cell? ⟨b1, 3, none⟩ = some v := by rw [cell_of_row _ _ _ _ _ _ r1]; rfl
  go_upto_region 2 with (first | ((refine wpList_copy rfl _ _ rfl rfl rfl O1 hl ?_); intro u x hown B; obtain ⟨uo, uc, eu, -, -⟩ := own_len hown; subst eu; simp only [Act.put, List.setIfInBounds_toArray, List.set_cons_succ, List.set_cons_zero]; replace r1 := keepRow r1 B; replace r2 := keepRow r2 B; replace z3 : x.cell? ⟨b1, 3, none⟩ = some v := (by rw [cell_of_row _ _ _ _ _ _ r1]; rfl); have f3 : x.frozen? ⟨b1, 3, none⟩ = false := frozen_of_row _ _ _ _ _ r1))
  generalize Value.slice uo l.length uc = u at *
  have hone : u.oneCell' = true := (opsC_of hown hmx).one
  replace hB' := below_then hB (Nat.le_refl _) B
  have q1 := heap_setCell_same x b1 3 _ 25 u r1
  replace q1 : (x.setCell ⟨b1, 3, none⟩ u).heap[b1]? = some (.cells (blA pc words el u) 25) := q1
  have q2 : (x.setCell ⟨b1, 3, none⟩ u).heap[rb]? = some (.cells (blA 0 0 0 (.slice none 0 0)) 25) := by
    rw [Below.heap_setCell _ _ _ _ hn12.out]; exact r2
  have q3 : (x.setCell ⟨b1, 3, none⟩ u).ownsRow w1.heap.size 39 6 u l.length (opF l) :=
    own_of_block hown (fun q hq => Below.heap_setCell _ _ _ _ (fun e => own_ne r1 hown (by decide) (by rw [hq]; exact congrArg some e)))
  have q4 := below_cell (k := 3) (u := u) hB' hlo1.out
  generalize x.setCell ⟨b1, 3, none⟩ u = x1 at *
  have hsz := hB.size
  clear r1 r2 z3 f3 hown B hB hB' O1
  have p1 := setRow_heap x1 rb _ (blA pc words el u) _ _ q2
  have p2 : (x1.setRow rb (blA pc words el u)).ownsRow w.heap.size 39 6 u l.length (opF l) :=
    own_mono (own_of_block q3 (fun q hq => setRow_other _ _ _ _ (fun e => own_ne q2 q3 (by decide) (by rw [hq, e])))) hsz
  have p3 := below_setRow (cs := blA pc words el u) q4 hlo2.out
  go_wp2_with (first | ((with_reducible refine wpList_load_if rfl 25 _ rfl _ rfl 25 _ (0, 0) _ q1 Try.underlying25 rfl (bl_inf _ _ _ _) ?_); simp only [Act.put, List.setIfInBounds_toArray, List.set_cons_succ, List.set_cons_zero]) | ((with_reducible refine wpList_store_row rfl 25 _ _ rfl rb (blA pc words el u) rfl rfl 25 _ q2 (bl_inf _ _ _ _) rfl (blk_one _ _ _ _ hone) ?_); simp only [Act.put, List.setIfInBounds_toArray, List.set_cons_succ, List.set_cons_zero]))
  refine bodyPost_ret (back25 rfl _ _ _ rfl p1) rfl ?_
  exact ⟨u, rfl, p2, p3⟩
end
end Go.Proofs.Ytejlmggfeejgpaa
/- DeadSees: the walk. -/
namespace Go.Proofs.Ytejlmggfeejgpaa
open Go.RowKit
set_option linter.unusedVariables false
set_option linter.unusedSimpArgs false
set_option maxRecDepth 8000

theorem rel_loadB {E : List PanicEntry → World → Prop} {w : World} {b : Nat} {pc words el : Int} {v : Value} {o : Oper} {a : Act} {x : Operand} (H : w.heap[b]? = some (.cells (blA pc words el v) 25)) (ho : o.op = .load 25 x := by rfl) (hx : a.eval x = .pointer (some ⟨b, 0, none⟩) := by rfl) : RelQ.relUpon Try.prog RelQ.Grows E (fun u _ => u = blV pc words el v) w ((execOp a.eval o).run Try.prog w) := by
  unfold execOp
  simp only [ho, hx, Instr.loadAt, Instr.sureAddr, Sem.run_bind, Sem.run_pure, Result.andThen_ok, run_loadVar_row w b 25 25 (blA pc words el v) (0, 0) _ H Try.underlying25 rfl (bl_inf _ _ _ _)]
  exact ⟨RelQ.grows_refl _, rfl⟩
/-- What DeadSees holds: the block and its copy. -/
structure DsW (w : World) (pc words el : Int) (v xu : Value) (l : List Opr) (b1 xb : Nat) (x : World) : Prop where
  r1 : x.heap[b1]? = some (.cells (blA pc words el v) 25)
  rx : x.heap[xb]? = some (.cells (blA pc words el xu) 25)
  ops : Ops x v l
  opx : Ops x xu l
  below : Below w.heap.size w x
theorem DsW.grow {w x y : World} {pc words el : Int} {v xu : Value} {l : List Opr} {b1 xb : Nat} (h : DsW w pc words el v xu l b1 xb x) (hb : Below x.heap.size x y) : DsW w pc words el v xu l b1 xb y :=
  ⟨keepRow h.r1 hb, keepRow h.rx hb, h.ops.grow hb, h.opx.grow hb, below_then h.below (Nat.le_refl _) hb⟩
/-- What it holds besides, once the block without what nobody sees is there. -/
structure DtW (w : World) (pc words el : Int) (v xu : Value) (l : List Opr) (b1 xb ab B0 : Nat) (ua : Value) (x : World) : Prop where
  base : DsW w pc words el v xu l b1 xb x
  ra : x.heap[ab]? = some (.cells (blA pc words el ua) 25)
  own : x.ownsRow B0 39 6 ua (deadL l).length (opF (deadL l))
theorem DtW.grow {w x y : World} {pc words el : Int} {v xu ua : Value} {l : List Opr} {b1 xb ab B0 : Nat} (h : DtW w pc words el v xu l b1 xb ab B0 ua x) (hb : Below x.heap.size x y) : DtW w pc words el v xu l b1 xb ab B0 ua y :=
  ⟨h.base.grow hb, keepRow h.ra hb, own_grow6 h.own hb⟩
/-- While what it holds is spoilt. -/
structure LzW (w : World) (pc words el : Int) (v xu : Value) (l : List Opr) (b1 xb ab g m cap : Nat) (x : World) : Prop where
  base : DsW w pc words el v xu l b1 xb x
  ra : x.heap[ab]? = some (.cells (blA pc words el (.slice (some ⟨g, 0, none⟩) m cap)) 25)
  rg : ∃ C, x.heap[g]? = some (.cells C 39) ∧ C.size = cap * 6
  out : w.heap.size ≤ g ∧ (∀ ra n cap, v = .slice (some ra) n cap → ra.block < g) ∧ (∀ ra n cap, xu = .slice (some ra) n cap → ra.block < g)
theorem LzW.grow {w x y : World} {pc words el : Int} {v xu : Value} {l : List Opr} {b1 xb ab g m cap : Nat} (h : LzW w pc words el v xu l b1 xb ab g m cap x) (hb : Below x.heap.size x y) : LzW w pc words el v xu l b1 xb ab g m cap y :=
  ⟨h.base.grow hb, keepRow h.ra hb, by obtain ⟨C, h1, h2⟩ := h.rg; exact ⟨C, keepRow h1 hb, h2⟩, h.out⟩
theorem LzW.spoil {w x : World} {pc words el : Int} {v xu : Value} {l : List Opr} {b1 xb ab g m cap : Nat} (h : LzW w pc words el v xu l b1 xb ab g m cap x) {C : Array Value} (hg : x.heap[g]? = some (.cells C 39)) (hs : C.size = cap * 6) {k : Nat} (hk : k < cap) (o : Opr) : LzW w pc words el v xu l b1 xb ab g m cap (x.setRow g (layC C k o)) := by
  have ek : ∀ {b : Nat} {C' : Array Value}, x.heap[b]? = some (.cells C' 25) → (x.setRow g (layC C k o)).heap[b]? = some (.cells C' 25) := fun {b C'} hb => by
    rw [setRow_other _ _ _ _ (fun e => by subst e; exact ne_of_type hb hg (by decide) rfl)]; exact hb
  exact ⟨⟨ek h.base.r1, ek h.base.rx, h.base.ops.keepB (fun q hq => by rw [size_setRow]; exact hq) (fun ra n cap e hlt => setRow_other _ _ _ _ (by have := h.out.2.1 ra n cap e; omega)),
    h.base.opx.keepB (fun q hq => by rw [size_setRow]; exact hq) (fun ra n cap e hlt => setRow_other _ _ _ _ (by have := h.out.2.2 ra n cap e; omega)), below_setRow h.base.below h.out.1⟩,
    ek h.ra, ⟨_, setRow_heap _ _ _ _ _ _ hg, by rw [layC_size _ (by omega)]; exact hs⟩, h.out⟩
theorem LzW.za {w x : World} {pc words el : Int} {v xu : Value} {l : List Opr} {b1 xb ab g m cap : Nat} (h : LzW w pc words el v xu l b1 xb ab g m cap x) : x.cell? ⟨ab, 3, none⟩ = some (.slice (some ⟨g, 0, none⟩) m cap) := by rw [cell_of_row _ _ _ _ _ _ h.ra]; rfl
section
variable {w : World} {pc words el : Int} {v : Value} {l : List Opr}
set_option maxHeartbeats 16000000 in
theorem sees_walk (hpc : 0 ≤ pc) (O : Ops w v l) (hu : ∀ k, U64 (opAt l k).imm) (hcap : ∀ ao n cap, v = .slice ao n cap → n ≤ cap) (hl : l.length * 48 ≤ 140737488351232) : Calls Try.prog 3 #[blV pc words el v] w fun e w' => e = .returned (.bool true) ∧ Below w.heap.size w w' := by
  have himm : ∀ k, 0 ≤ (opAt l k).imm := fun k => (hu k).1
  have h1 : v.oneCell' = true := by obtain ⟨_, _, rfl⟩ := O.len; rfl
  have hmx := O.max
  have hb := below_alloc w (.cells (blA pc words el v) 25)
  have r1 : (w.alloc (.cells (blA pc words el v) 25)).heap[w.heap.size]? = some (.cells (blA pc words el v) 25) := heap_alloc_new _ _
  have O1 := O.grow hb
  clear O
  go_enter Try.func3, Try.ntmps3
  go_upto_region 1 with fail
  generalize w.alloc (.cells (blA pc words el v) 25) = w1 at *
  generalize hb1 : w.heap.size = b1 at r1 ⊢
  clear hb1
  go_upto_region 2 with (first | (go_at_call 6; (with_reducible refine (examples_c _).mono ?_); rintro e w2 ⟨rfl, B⟩; dsimp only))
  replace hb := below_then hb (Nat.le_refl _) B
  replace r1 := keepRow r1 B
  replace O1 := O1.grow B
  clear B
  have kc := copied_c (pc := pc) (words := words) (el := el) O1 hl
  go_upto_region 3 with (first | ((with_reducible refine wpList_load_if rfl 25 _ rfl _ rfl 25 _ (0, 0) _ r1 Try.underlying25 rfl (bl_inf _ _ _ _) ?_); simp only [Act.put, List.setIfInBounds_toArray, List.set_cons_succ, List.set_cons_zero]) | (go_at_call 7; (with_reducible refine kc.mono ?_); clear kc; rintro e w3 ⟨xu, rfl, hown, B⟩; dsimp only; have Hn := has_none w3; have C1 := opsC_of hown hmx) | ((with_reducible refine wpList_store_new Hn rfl 25 _ _ rfl (blA pc words el xu) rfl rfl (bl_inf _ _ _ _) (by kernel_rfl) (blk_one _ _ _ _ C1.one) ?_); clear Hn; intro w4 Hn; simp only [Act.put, List.setIfInBounds_toArray, List.set_cons_succ, List.set_cons_zero]))
  have X : DsW w pc words el v xu l b1 w3.heap.size w4 := ⟨keepRow (keepRow r1 B) Hn.below, Hn.get List.mem_cons_self, (O1.grow B).grow Hn.below, C1.ops.grow Hn.below, below_then (below_then hb (Nat.le_refl _) B) (Nat.le_refl _) Hn.below⟩
  have xcap := C1.cap
  generalize w3.heap.size = xb at *
  clear Hn B hb r1 O1 hown C1
  have r1 := X.r1
  have kr := dRight_c (words := words) (el := el) hpc X.ops himm hcap
  go_upto_region 4 with (first | ((with_reducible refine wpList_load_if rfl 25 _ rfl _ rfl 25 _ (0, 0) _ r1 Try.underlying25 rfl (bl_inf _ _ _ _) ?_); simp only [Act.put, List.setIfInBounds_toArray, List.set_cons_succ, List.set_cons_zero]) | (go_at_call 8; (with_reducible refine kr.mono ?_); clear kr; rintro e w5 ⟨rfl, B⟩; dsimp only))
  replace X := X.grow B
  clear r1 B
  have rx := X.rx
  have ks := seen_c (words := words) (el := el) hpc X.opx himm xcap
  cases hR : rightB pc words el l with
  | false =>
    replace hR := show Hid _ from hR
    go_upto_region 5 with (first | ((with_reducible refine wpList_load_if rfl 25 _ rfl _ rfl 25 _ (0, 0) _ rx Try.underlying25 rfl (bl_inf _ _ _ _) ?_); simp only [Act.put, List.setIfInBounds_toArray, List.set_cons_succ, List.set_cons_zero]) | (go_at_call 9; (with_reducible refine ks.mono ?_); clear ks; rintro e w6 ⟨B, ⟨hr, rfl⟩ | ⟨hr, _⟩⟩; rotate_left; (exfalso; rw [hR.out] at hr; cases hr); dsimp only; clear hr))
    replace X := X.grow B
    clear rx B
    have rx := X.rx
    have kb := block_c (words := words) (el := el) hpc X.opx hu xcap
    go_upto_region 6 with (first | ((with_reducible refine wpList_load_if rfl 25 _ rfl _ rfl 25 _ (0, 0) _ rx Try.underlying25 rfl (bl_inf _ _ _ _) ?_); simp only [Act.put, List.setIfInBounds_toArray, List.set_cons_succ, List.set_cons_zero]) | (go_at_call 10; (with_reducible refine kb.mono ?_); clear kb; rintro e w7 ⟨B, ⟨hr, rfl⟩ | ⟨hr, _⟩⟩; rotate_left; (exfalso; rw [hR.out] at hr; cases hr); dsimp only; clear hr; have Hn := has_none w7) | ((with_reducible refine wpList_store_new Hn rfl 25 _ _ rfl (blA 0 0 0 (.slice none 0 0)) rfl rfl (bl_inf _ _ _ _) (by kernel_rfl) (blk_one _ _ _ _ rfl) ?_); clear Hn; intro w8 Hn; simp only [Act.put, List.setIfInBounds_toArray, List.set_cons_succ, List.set_cons_zero]))
    replace X := (X.grow B).grow Hn.below
    have ra : w8.heap[w7.heap.size]? = some (.cells (blA 0 0 0 (.slice none 0 0)) 25) := Hn.get List.mem_cons_self
    generalize w7.heap.size = ab at *
    clear rx B Hn
    have rx := X.rx
    have r1 := X.r1
    have X0 := X.opx
    have X1 := X.ops
    go_upto_region 7 with (first | ((with_reducible refine wpList_load_if rfl 25 _ rfl _ rfl 25 _ (0, 0) _ rx Try.underlying25 rfl (bl_inf _ _ _ _) ?_); simp only [Act.put, List.setIfInBounds_toArray, List.set_cons_succ, List.set_cons_zero]) | ((with_reducible refine wpList_load_if rfl 25 _ rfl _ rfl 25 _ (0, 0) _ r1 Try.underlying25 rfl (bl_inf _ _ _ _) ?_); simp only [Act.put, List.setIfInBounds_toArray, List.set_cons_succ, List.set_cons_zero]) | (go_at_call 11; (with_reducible refine (same_c X0 X1).mono ?_); rintro e w9 ⟨rfl, B⟩; dsimp only; rw [show decide (l = l) = true by simp]))
    replace X := X.grow B
    replace ra := keepRow ra B
    clear rx r1 X0 X1 B
    have za : w9.cell? ⟨ab, 3, none⟩ = some (.slice none 0 0) := by rw [cell_of_row _ _ _ _ _ _ ra]; rfl
    have hB := X.below
    clear X ra
    go_wp2
    go_ret
    exact ⟨rfl, hB⟩
  | true =>
    obtain ⟨h0, h512, -⟩ := right_lens hR
    obtain ⟨rm, -, hml, -⟩ := dead_right hR hu
    obtain ⟨m0, m512, -⟩ := right_lens rm
    replace hR := show Hid _ from hR
    replace rm := show Hid _ from rm
    go_upto_region 5 with (first | ((with_reducible refine wpList_load_if rfl 25 _ rfl _ rfl 25 _ (0, 0) _ rx Try.underlying25 rfl (bl_inf _ _ _ _) ?_); simp only [Act.put, List.setIfInBounds_toArray, List.set_cons_succ, List.set_cons_zero]) | (go_at_call 9; (with_reducible refine ks.mono ?_); clear ks; rintro e w6 ⟨B, ⟨hr, _⟩ | ⟨hr, g, _, rfl, rg⟩⟩; (exfalso; rw [hR.out] at hr; cases hr); dsimp only; clear hr))
    replace X := X.grow B
    clear rx B
    have rx := X.rx
    have kb := block_c (words := words) (el := el) hpc X.opx hu xcap
    have far1 := ops_far X.ops h0
    have far2 := ops_far X.opx h0
    have hs6 := X.below.size
    go_upto_region 6 with (first | ((with_reducible refine wpList_load_if rfl 25 _ rfl _ rfl 25 _ (0, 0) _ rx Try.underlying25 rfl (bl_inf _ _ _ _) ?_); simp only [Act.put, List.setIfInBounds_toArray, List.set_cons_succ, List.set_cons_zero]) | (go_at_call 10; (with_reducible refine kb.mono ?_); clear kb; rintro e w7 ⟨B, ⟨hr, _⟩ | ⟨hr, ua, rfl, hown⟩⟩; (exfalso; rw [hR.out] at hr; cases hr); dsimp only; clear hr; have Hn := has_none w7; have hone : ua.oneCell' = true := (opsC_of hown (by simp only [maxLen]; omega)).one) | ((with_reducible refine wpList_store_new Hn rfl 25 _ _ rfl (blA pc words el ua) rfl rfl (bl_inf _ _ _ _) (by kernel_rfl) (blk_one _ _ _ _ hone) ?_); clear Hn; intro w8 Hn; simp only [Act.put, List.setIfInBounds_toArray, List.set_cons_succ, List.set_cons_zero]))
    have Y : DtW w pc words el v xu l b1 xb w7.heap.size w6.heap.size ua w8 := ⟨(X.grow B).grow Hn.below, Hn.get List.mem_cons_self, own_grow6 hown Hn.below⟩
    replace rg := keepRow (keepRow rg B) Hn.below
    generalize w7.heap.size = ab at *
    generalize w6.heap.size = B0 at *
    clear rx B Hn X hown hone
    have rx := Y.base.rx
    have r1 := Y.base.r1
    have X0 := Y.base.opx
    have X1 := Y.base.ops
    go_upto_region 7 with (first | ((with_reducible refine wpList_load_if rfl 25 _ rfl _ rfl 25 _ (0, 0) _ rx Try.underlying25 rfl (bl_inf _ _ _ _) ?_); simp only [Act.put, List.setIfInBounds_toArray, List.set_cons_succ, List.set_cons_zero]) | ((with_reducible refine wpList_load_if rfl 25 _ rfl _ rfl 25 _ (0, 0) _ r1 Try.underlying25 rfl (bl_inf _ _ _ _) ?_); simp only [Act.put, List.setIfInBounds_toArray, List.set_cons_succ, List.set_cons_zero]) | (go_at_call 11; (with_reducible refine (same_c X0 X1).mono ?_); rintro e w9 ⟨rfl, B⟩; dsimp only; rw [show decide (l = l) = true by simp]))
    replace Y := Y.grow B
    replace rg := keepRow rg B
    clear rx r1 X0 X1 B
    go_upto_region 9 with fail
    have r1 := Y.base.r1
    have k9 := refSeen_c hR.out Y.base.ops
    go_upto_region 10 with (first | ((with_reducible refine wpList_load_if rfl 25 _ rfl _ rfl 25 _ (0, 0) _ r1 Try.underlying25 rfl (bl_inf _ _ _ _) ?_); simp only [Act.put, List.setIfInBounds_toArray, List.set_cons_succ, List.set_cons_zero]) | (go_at_call 13; (with_reducible refine k9.mono ?_); clear k9; rintro e x2 ⟨g2, _, rfl, rg2, B⟩; dsimp only; have km := sameL_c (c1 := l.length) (c2 := l.length) (keepRow rg B) rg2 (by rw [seenL_len]; exact h512) (by rw [seenL_len]; exact h512); rw [seenL_len] at km; rw [show decide (seenL l = seenL l) = true by simp] at km; replace Y := Y.grow B; clear B) | (go_at_call 12; (with_reducible refine km.mono ?_); clear km; rintro e x3 ⟨rfl, B⟩; dsimp only))
    replace Y := Y.grow B
    clear rg rg2 B r1
    refine RelQ.wp_region_rel RelQ.Grows (fun _ _ => False) (fun _ _ _ h _ => h.elim) (DtW w pc words el v xu l b1 xb ab B0 ua) [.inl (blV pc words el ua), .inl (blV pc words el v), .inr (fun y x => ∃ u, y = blV pc words el u ∧ Ops x u (deadL l)), .inl (.bool true), .inl (.bool true)] (by kernel_rfl) (by kernel_rfl) RelQ.grows_refl (fun _ _ h hb => h.grow hb) (Y.grow (below_dr _)) (by intro q hq; simp only [List.mem_cons, List.not_mem_nil, or_false] at hq; rcases hq with rfl | rfl | rfl | rfl | rfl <;> first | exact trivial | exact (fun y x x2 h hb => by obtain ⟨u, e, O⟩ := h; exact ⟨u, e, O.grow hb⟩)) ?_
    refine ⟨fun w3 hC _ => RelQ.uponG_yes rfl (rel_loadB hC.ra), ?_⟩
    simp only [Act.put, List.setIfInBounds_toArray, List.set_cons_succ, List.set_cons_zero]
    refine ⟨fun w3 hC _ => RelQ.uponG_yes rfl (rel_loadB hC.base.r1), ?_⟩
    simp only [Act.put, List.setIfInBounds_toArray, List.set_cons_succ, List.set_cons_zero]
    refine ⟨fun w3 hC _ => RelQ.uponG_yes rfl (by go_simp; refine (refBlock_c hR.out hu hC.base.ops h1).mono ?_; rintro e w4 ⟨u, rfl, O, hb⟩; first | exact ⟨_, rfl, hb, u, rfl, O⟩ | exact .inl ⟨_, rfl, hb, u, rfl, O⟩ | exact .inl ⟨u, rfl, hb, rfl, O⟩), fun y => ?_⟩
    simp only [Act.put, List.setIfInBounds_toArray, List.set_cons_succ, List.set_cons_zero]
    refine ⟨fun w3 hC hf => RelQ.uponG_yes rfl (by obtain ⟨u, rfl, O⟩ := (hf 2 (by kernel_rfl)).1 rfl; go_simp; refine (same_c (opsC_of hC.own (by simp only [maxLen]; omega)).ops O).mono ?_; rintro e w4 ⟨rfl, hb⟩; rw [show decide (deadL l = deadL l) = true by simp]; first | exact ⟨rfl, hb⟩ | exact .inl ⟨_, rfl, hb, rfl⟩ | exact .inl ⟨rfl, hb⟩), ?_⟩
    simp only [Act.put, List.setIfInBounds_toArray, List.set_cons_succ, List.set_cons_zero]
    refine ⟨fun w3 hC _ => RelQ.uponG_yes rfl (by go_simp; first | exact RelQ.grows_refl _ | exact ⟨RelQ.grows_refl _, rfl⟩), ?_⟩
    simp only [Act.put, List.setIfInBounds_toArray, List.set_cons_succ, List.set_cons_zero]
    intro x4 Y4 _
    clear Y
    obtain ⟨g, cap, rfl, hcap2, hmax2, -⟩ := own_addr Y4.own m0
    obtain ⟨C, hg, hsz, hB0⟩ : ∃ C, x4.heap[g]? = some (.cells C 39) ∧ C.size = cap * 6 ∧ B0 ≤ g := by
      rcases Y4.own.2 with ⟨e, _⟩ | ⟨g', cap', cur, e, hb, hg, h1, h2, h3, h4⟩
      · cases e
      · cases e; exact ⟨cur, hg, h3, hb⟩
    have Z : LzW w pc words el v xu l b1 xb ab g (deadL l).length cap x4 := ⟨Y4.base, Y4.ra, ⟨C, hg, hsz⟩, Nat.le_trans hs6 hB0, fun ra n c e => Nat.lt_of_lt_of_le (far1 ra n c e) hB0, fun ra n c e => Nat.lt_of_lt_of_le (far2 ra n c e) hB0⟩
    clear Y4 hg hsz hB0 C far1 far2 hs6 hmax2
    generalize (deadL l).length = m at *
    go_upto_region 12 with fail
    go_loopw [13] (fun s13 wr => ∃ i : Nat, i ≤ m ∧ s13 = vI i ∧ LzW w pc words el v xu l b1 xb ab g m cap wr) (fun s13 _ => ((m : Int) - intOf s13).toNat)
    case atStart => exact ⟨0, Nat.zero_le _, rfl, Z⟩
    case round =>
      clear Z
      obtain ⟨i, hi, rfl, Z⟩ := hrel
      have za := Z.za
      by_cases hlt : (i : Int) < m
      · obtain ⟨C, hg, hsz⟩ := Z.rg
        have Z2 := Z.spoil hg hsz (show i < cap by omega) nilO
        have hfit : i * 6 + 6 ≤ C.size := by omega
        clear Z
        go_wp2_with (first | ((with_reducible refine wpList_built rfl 39 _ rfl (opA nilO) (by kernel_rfl) ?_); simp only [Act.put, List.setIfInBounds_toArray, List.set_cons_succ, List.set_cons_zero]) | ((with_reducible refine wpList_stO rfl _ _ rfl nilO rfl rfl hg hfit ?_); simp only [Act.put, List.setIfInBounds_toArray, List.set_cons_succ, List.set_cons_zero]))
        go_roundw
        case rel => exact ⟨i + 1, by omega, by go_num, Z2⟩
        case measure => simp [intOf]; try omega
      · have X := Z.base
        clear Z
        have rx := X.rx
        have r1 := X.r1
        have X0 := X.opx
        have X1 := X.ops
        go_upto_region 16 with (first | ((with_reducible refine wpList_load_if rfl 25 _ rfl _ rfl 25 _ (0, 0) _ rx Try.underlying25 rfl (bl_inf _ _ _ _) ?_); simp only [Act.put, List.setIfInBounds_toArray, List.set_cons_succ, List.set_cons_zero]) | ((with_reducible refine wpList_load_if rfl 25 _ rfl _ rfl 25 _ (0, 0) _ r1 Try.underlying25 rfl (bl_inf _ _ _ _) ?_); simp only [Act.put, List.setIfInBounds_toArray, List.set_cons_succ, List.set_cons_zero]) | (go_at_call 11; (with_reducible refine (same_c X0 X1).mono ?_); rintro e w9 ⟨rfl, B⟩; dsimp only; rw [show decide (l = l) = true by simp]))
        replace X := X.grow B
        have hB := X.below
        clear X rx r1 X0 X1 B za
        go_wp2
        go_ret
        exact ⟨rfl, hB⟩
end
end Go.Proofs.Ytejlmggfeejgpaa
