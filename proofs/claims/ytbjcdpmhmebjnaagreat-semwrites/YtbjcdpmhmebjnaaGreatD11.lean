/- Every form lays an instruction into a word and takes it out of it again, and the other way round: plain. -/
import Derived.Test.YtbjcdpmhmebjnaaGreatD10
namespace Go.Proofs.YtbjcdpmhmebjnaaGreat
open Go.RowKit
set_option linter.unusedVariables false

structure FormOk (F : Fm) : Prop where
  there : ∀ i, rightB i = true → isForm F i = true → W32 (F.t true (F.base, i)).1 ∧ bits .and .u32 (F.t true (F.base, i)).1 F.mask = F.base ∧ (F.t false ((F.t true (F.base, i)).1, startI F)).2 = i
  back : ∀ word, W32 word → bits .and .u32 word F.mask = F.base → isForm F (F.t false (word, startI F)).2 = true ∧ (F.t true (F.base, (F.t false (word, startI F)).2)).1 = word
theorem bits_and {a b : Int} (ha : W32 a) (hb : W32 b) : bits .and .u32 a b = ((a.toNat &&& b.toNat : Nat) : Int) := by
  have := and32 a.toNat b.toNat (w32_of ha).1 (w32_of hb).1
  rwa [(w32_of ha).2, (w32_of hb).2] at this
theorem form_ok (F : Fm) {cr : Ins → List Cr} {fits : Ins → Prop} {ag : Nat → Ins → Prop} {got : Nat → Ins → Ins} (C : Cd F.t cr fits ag got) (G : Good F) (ps : List (Nat × Nat)) (hps : ∀ i, placesL (cr i) = ps) (hap : apartL ps = true) (hcov : coversB F.mask.toNat ps = true) (hbm : F.base.toNat &&& F.mask.toNat = F.base.toNat)
    (r1 : ∀ i, rightB i = true → isForm F i = true → fits i) (r2 : ∀ i, rightB i = true → isForm F i = true → ∀ W, ag W i → got W (startI F) = i) (r3 : ∀ W, ag W (got W (startI F))) (r4 : ∀ W, isForm F (got W (startI F)) = true) : FormOk F where
  there i hR hF := by
    have hf := r1 i hR hF
    have hb := w32_of G.base
    have hl := lays_lt hb.1 (cr i) hb.1
    rw [C.lay _ i G.base hf]
    refine ⟨w32_nat hl, ?_, ?_⟩
    · rw [bits_and (w32_nat hl) G.mask, Int.toNat_natCast, lays_mask (by rw [hps]; exact hcov) hbm (w32_of G.mask).1, hb.2]
    · rw [C.take _ _ (w32_nat hl), Int.toNat_natCast]
      exact r2 i hR hF _ (C.fro _ _ hf fun c hc => fld_lays (by rw [hps]; exact hap) hc (C.small i c hc))
  back word hW hm := by
    rw [C.take _ _ hW]
    refine ⟨r4 _, ?_⟩
    obtain ⟨hf, hc⟩ := C.into _ _ (r3 word.toNat)
    rw [C.lay _ _ G.base hf]
    have hm' : word.toNat &&& F.mask.toNat = F.base.toNat := by rw [bits_and hW G.mask] at hm; rw [← hm, Int.toNat_natCast]
    have := lays_back (w := word.toNat) (by rw [hps]; exact hcov) (by rw [hps]; exact hap) (w32_of hW).1 (w32_of G.base).1 hm' hc
    show ((lays F.base.toNat _ : Nat) : Int) = word
    rw [this, (w32_of hW).2]
theorem isForm_of {F : Fm} {i : Ins} (h : isForm F i = true) : F.op = i.op ∧ (F.sub = i.sub ∨ F.sub = -1) := by
  simpa [isForm] using h
theorem isForm_each {F : Fm} {i : Ins} (h1 : F.op = i.op) (h2 : F.sub = -1) : isForm F i = true := by simp [isForm, h1, h2]
theorem isForm_one {F : Fm} {i : Ins} (h1 : F.op = i.op) (h2 : F.sub = i.sub) : isForm F i = true := by simp [isForm, h1, h2]
structure RightF (i : Ins) : Prop where
  rd : holdsB (regS (hasRd i.op)) i.rd = true
  rn : holdsB (regS (hasRn i.op)) i.rn = true
  rm : holdsB (regS (hasRm i.op)) i.rm = true
  ra : holdsB (regS (hasRa i.op)) i.ra = true
  sub : holdsB (subS i.op) i.sub = true
  imm : holdsB (immS i.op i.sub) i.imm = true
  imm2 : holdsB (imm2S i.op) i.imm2 = true
  amount : holdsB (amountS i.op) i.amount = true
  shift : holdsB (shiftS i.op) i.shift = true
  cond : holdsB (condS i.op) i.cond = true
  flags : (flagsR i.op i.sub || !i.flags) = true
  minus : (minusR i.op || !i.minus) = true
  not : (notR i.op || !i.not) = true
  link : (linkR i.op || !i.link) = true
  sys : rightSysB i.op i.sys = true
theorem rightF {i : Ins} (h : rightB i = true) : RightF i := by
  simp only [rightB, numbersB, signsB, Bool.and_eq_true] at h
  obtain ⟨_, ⟨⟨⟨n, s⟩, y⟩, _⟩⟩ := h
  obtain ⟨⟨⟨⟨⟨⟨⟨⟨⟨a1, a2⟩, a3⟩, a4⟩, a5⟩, a6⟩, a7⟩, a8⟩, a9⟩, a10⟩ := n
  obtain ⟨⟨⟨s1, s2⟩, s3⟩, s4⟩ := s
  exact ⟨a1, a2, a3, a4, a5, a6, a7, a8, a9, a10, s1, s2, s3, s4, y⟩
theorem RightF.rd_ {i : Ins} {n : Int} (R : RightF i) (h : i.op = n) : holdsB (regS (hasRd n)) i.rd = true := h ▸ R.rd
theorem RightF.rn_ {i : Ins} {n : Int} (R : RightF i) (h : i.op = n) : holdsB (regS (hasRn n)) i.rn = true := h ▸ R.rn
theorem RightF.rm_ {i : Ins} {n : Int} (R : RightF i) (h : i.op = n) : holdsB (regS (hasRm n)) i.rm = true := h ▸ R.rm
theorem RightF.ra_ {i : Ins} {n : Int} (R : RightF i) (h : i.op = n) : holdsB (regS (hasRa n)) i.ra = true := h ▸ R.ra
theorem RightF.sub_ {i : Ins} {n : Int} (R : RightF i) (h : i.op = n) : holdsB (subS n) i.sub = true := h ▸ R.sub
theorem RightF.imm_ {i : Ins} {n : Int} (R : RightF i) (h : i.op = n) : holdsB (immS n i.sub) i.imm = true := h ▸ R.imm
theorem RightF.imm2_ {i : Ins} {n : Int} (R : RightF i) (h : i.op = n) : holdsB (imm2S n) i.imm2 = true := h ▸ R.imm2
theorem RightF.amount_ {i : Ins} {n : Int} (R : RightF i) (h : i.op = n) : holdsB (amountS n) i.amount = true := h ▸ R.amount
theorem RightF.shift_ {i : Ins} {n : Int} (R : RightF i) (h : i.op = n) : holdsB (shiftS n) i.shift = true := h ▸ R.shift
theorem RightF.cond_ {i : Ins} {n : Int} (R : RightF i) (h : i.op = n) : holdsB (condS n) i.cond = true := h ▸ R.cond
theorem holds_of {lo hi st n : Int} (h : holdsB ⟨lo, hi, st⟩ n = true) : lo ≤ n ∧ n ≤ hi ∧ (n = 0 ∨ n.tmod st = 0) := by
  simp only [holdsB, Bool.and_eq_true, Bool.or_eq_true, decide_eq_true_eq, beq_iff_eq] at h
  exact ⟨h.1.1, h.1.2, h.2⟩
theorem zero_of {n : Int} (h : holdsB ⟨0, 0, 0⟩ n = true) : n = 0 := by obtain ⟨a, b, _⟩ := holds_of h; omega
theorem fit_one {lo hi st n : Int} {m : Nat} (h : holdsB ⟨lo, hi, st⟩ n = true) (hl : 0 ≤ lo) (hh : hi.toNat < 2 ^ m) : ∃ x : Nat, x < 2 ^ m ∧ n = x * 1 := by
  obtain ⟨a, b, _⟩ := holds_of h
  exact ⟨n.toNat, by omega, by omega⟩
theorem fit_two {lo hi st n : Int} {m : Nat} (h : holdsB ⟨lo, hi, st⟩ n = true) (hl : 0 ≤ lo) (hh : hi.toNat < 2 * 2 ^ m) : ∃ x : Nat, x < 2 * 2 ^ m ∧ n = x := by
  obtain ⟨a, b, _⟩ := holds_of h
  exact ⟨n.toNat, by omega, by omega⟩
theorem of_tmod {n u : Int} (h : n = 0 ∨ n.tmod u = 0) : ∃ c, n = c * u := by
  rcases h with rfl | h
  · exact ⟨0, by omega⟩
  · obtain ⟨c, hc⟩ := Int.dvd_of_tmod_eq_zero h
    exact ⟨c, by rw [hc, Int.mul_comm]⟩
theorem fit_num {lo hi u n : Int} {m : Nat} (h : holdsB ⟨lo, hi, u⟩ n = true) (hl : 0 ≤ lo) (hu : 1 ≤ u) (hh : hi < ((2 ^ m : Nat) : Int) * u) : ∃ x : Nat, x < 2 ^ m ∧ n = x * u := by
  obtain ⟨a, b, h⟩ := holds_of h
  obtain ⟨c, hc⟩ := of_tmod h
  have h0 : 0 ≤ c := by
    by_cases hn : 0 ≤ c
    · exact hn
    · have := Int.mul_le_mul_of_nonneg_right (show c ≤ -1 by omega) (show 0 ≤ u by omega); omega
  have h1 : c < ((2 ^ m : Nat) : Int) := Int.lt_of_mul_lt_mul_right (a := u) (by omega) (by omega)
  exact ⟨c.toNat, by omega, by rw [Int.toNat_of_nonneg h0]; exact hc⟩
theorem fit_words {lo hi n : Int} {m : Nat} (h : holdsB ⟨lo, hi, 4⟩ n = true) (hl : lo = -(((2 : Nat) ^ (m - 1) : Nat) : Int) * 4) (hh : hi < ((2 : Nat) ^ (m - 1) : Nat) * 4) : ∃ y : Int, -(((2 : Nat) ^ (m - 1) : Nat) : Int) ≤ y ∧ y < ((2 : Nat) ^ (m - 1) : Nat) ∧ n = y * 4 := by
  obtain ⟨a, b, h⟩ := holds_of h
  obtain ⟨c, hc⟩ := of_tmod h
  exact ⟨c, by omega, by omega, hc⟩
theorem off_of {x : Bool} (h : (false || !x) = true) : x = false := by cases x; rfl; cases h
theorem sys_of {n : Int} (h : sysB n = true) : ∃ x : Nat, x < 2 ^ 15 ∧ n = x * 1 := by
  simp only [sysB, Bool.or_eq_true, beq_iff_eq] at h
  exact ⟨n.toNat, by show _ < 32768; omega, by omega⟩
theorem Ins.ext16 {i j : Ins} (h0 : i.op = j.op) (h1 : i.sub = j.sub) (h2 : i.rd = j.rd) (h3 : i.rn = j.rn) (h4 : i.rm = j.rm) (h5 : i.ra = j.ra) (h6 : i.imm = j.imm) (h7 : i.imm2 = j.imm2) (h8 : i.amount = j.amount) (h9 : i.shift = j.shift) (h10 : i.cond = j.cond) (h11 : i.sys = j.sys) (h12 : i.flags = j.flags) (h13 : i.minus = j.minus) (h14 : i.not = j.not) (h15 : i.link = j.link) : i = j := by
  cases i; cases j; simp only at *; subst_vars; rfl
theorem logic_of {sub : Int} {fl : Bool} (h : (sub == 0 || !fl) = true) (hf : fl = true) : sub = 0 := by subst hf; simpa using h

theorem adrU_sub {i j : Ins} (h : i.sub = j.sub) : adrU i = adrU j := by unfold adrU; rw [h]
theorem fit_adr {i : Ins} (hop : i.op = 11) (hs : holdsB ⟨0, 1, 1⟩ i.sub = true) (h : holdsB (immS i.op i.sub) i.imm = true) : ∃ y : Int, -1048576 ≤ y ∧ y < 1048576 ∧ i.imm = y * adrU i := by
  obtain ⟨s0, s1, _⟩ := holds_of hs
  rw [hop] at h
  rcases (by omega : i.sub = 0 ∨ i.sub = 1) with e | e
  · rw [e] at h
    obtain ⟨a, b, _⟩ := holds_of (lo := -1048576) (hi := 1048575) (st := 1) h
    refine ⟨i.imm, a, by omega, ?_⟩
    unfold adrU; rw [e]; exact (Int.mul_one _).symm
  · rw [e] at h
    obtain ⟨a, b, h⟩ := holds_of (lo := -4294967296) (hi := 4294963200) (st := 4096) h
    obtain ⟨c, hc⟩ := of_tmod h
    refine ⟨c, by omega, by omega, ?_⟩
    unfold adrU; rw [e]; exact hc
set_option maxRecDepth 4000 in
theorem fok0 : FormOk fm0 := by
  have C := (cd_then (cd_then (cd_sgn .minus 30 (by decide)) (cd_sgn .flags 29 (by decide))) (cd_then (cd_num .amount 12 22 1 (by decide) (by decide) (by decide)) (cd_then (cd_num .imm 1 10 12 (by decide) (by decide) (by decide)) (cd_then (cd_num .rn 1 5 5 (by decide) (by decide) (by decide)) (cd_num .rd 1 0 5 (by decide) (by decide) (by decide))))))
  refine form_ok fm0 C good0 [(30, 1), (29, 1), (22, 1), (10, 12), (5, 5), (0, 5)] (fun _ => rfl) (by kernel_rfl) (by kernel_rfl) (by kernel_rfl) ?_ ?_ ?_ ?_
  · intro i hR hF
    have R := rightF hR
    obtain ⟨hop, hsub⟩ := isForm_of hF
    have hop : i.op = 1 := hop.symm
    have q_rd : holdsB ⟨0, 31, 1⟩ i.rd = true := R.rd_ hop
    have q_rn : holdsB ⟨0, 31, 1⟩ i.rn = true := R.rn_ hop
    have q_imm : holdsB ⟨0, 4095, 1⟩ i.imm = true := R.imm_ hop
    have q_amount : holdsB ⟨0, 12, 12⟩ i.amount = true := R.amount_ hop
    exact ⟨⟨trivial, trivial⟩, ⟨(fit_num q_amount (by decide) (by decide) (by decide)), ⟨(fit_one q_imm (by decide) (by decide)), ⟨(fit_one q_rn (by decide) (by decide)), (fit_one q_rd (by decide) (by decide))⟩⟩⟩⟩
  · intro i hR hF W hA
    have R := rightF hR
    obtain ⟨hop, hsub⟩ := isForm_of hF
    have hop : i.op = 1 := hop.symm
    have q_rm : holdsB ⟨0, 0, 0⟩ i.rm = true := R.rm_ hop
    have q_ra : holdsB ⟨0, 0, 0⟩ i.ra = true := R.ra_ hop
    have q_imm2 : holdsB ⟨0, 0, 0⟩ i.imm2 = true := R.imm2_ hop
    have q_shift : holdsB ⟨0, 0, 0⟩ i.shift = true := R.shift_ hop
    have q_cond : holdsB ⟨0, 0, 0⟩ i.cond = true := R.cond_ hop
    obtain ⟨⟨a_minus, a_flags⟩, ⟨a_amount, ⟨a_imm, ⟨a_rn, a_rd⟩⟩⟩⟩ := hA
    exact Ins.ext16 hop.symm (hsub.resolve_right (by decide)) a_rd.symm a_rn.symm (zero_of q_rm).symm (zero_of q_ra).symm a_imm.symm (zero_of q_imm2).symm a_amount.symm (zero_of q_shift).symm (zero_of q_cond).symm (show 0 = i.sys by have h := R.sys; rw [hop] at h; exact (beq_iff_eq.1 h).symm) a_flags.symm a_minus.symm (off_of (by have h := R.not; rw [hop] at h; exact h)).symm (off_of (by have h := R.link; rw [hop] at h; exact h)).symm
  · exact fun W => ⟨⟨rfl, rfl⟩, ⟨rfl, ⟨rfl, ⟨rfl, rfl⟩⟩⟩⟩
  · exact fun W => isForm_one rfl rfl
set_option maxRecDepth 4000 in
theorem fok1 : FormOk fm1 := by
  have C := (cd_then (cd_then (cd_sgn .minus 30 (by decide)) (cd_sgn .flags 29 (by decide))) (cd_then (cd_num .shift 1 22 2 (by decide) (by decide) (by decide)) (cd_then (cd_num .amount 1 10 6 (by decide) (by decide) (by decide)) (cd_then (cd_num .rm 1 16 5 (by decide) (by decide) (by decide)) (cd_then (cd_num .rn 1 5 5 (by decide) (by decide) (by decide)) (cd_num .rd 1 0 5 (by decide) (by decide) (by decide)))))))
  refine form_ok fm1 C good1 [(30, 1), (29, 1), (22, 2), (10, 6), (16, 5), (5, 5), (0, 5)] (fun _ => rfl) (by kernel_rfl) (by kernel_rfl) (by kernel_rfl) ?_ ?_ ?_ ?_
  · intro i hR hF
    have R := rightF hR
    obtain ⟨hop, hsub⟩ := isForm_of hF
    have hop : i.op = 2 := hop.symm
    have q_rd : holdsB ⟨0, 31, 1⟩ i.rd = true := R.rd_ hop
    have q_rn : holdsB ⟨0, 31, 1⟩ i.rn = true := R.rn_ hop
    have q_rm : holdsB ⟨0, 31, 1⟩ i.rm = true := R.rm_ hop
    have q_amount : holdsB ⟨0, 63, 1⟩ i.amount = true := R.amount_ hop
    have q_shift : holdsB ⟨0, 2, 1⟩ i.shift = true := R.shift_ hop
    exact ⟨⟨trivial, trivial⟩, ⟨(fit_one q_shift (by decide) (by decide)), ⟨(fit_one q_amount (by decide) (by decide)), ⟨(fit_one q_rm (by decide) (by decide)), ⟨(fit_one q_rn (by decide) (by decide)), (fit_one q_rd (by decide) (by decide))⟩⟩⟩⟩⟩
  · intro i hR hF W hA
    have R := rightF hR
    obtain ⟨hop, hsub⟩ := isForm_of hF
    have hop : i.op = 2 := hop.symm
    have q_ra : holdsB ⟨0, 0, 0⟩ i.ra = true := R.ra_ hop
    have q_imm : holdsB ⟨0, 0, 0⟩ i.imm = true := R.imm_ hop
    have q_imm2 : holdsB ⟨0, 0, 0⟩ i.imm2 = true := R.imm2_ hop
    have q_cond : holdsB ⟨0, 0, 0⟩ i.cond = true := R.cond_ hop
    obtain ⟨⟨a_minus, a_flags⟩, ⟨a_shift, ⟨a_amount, ⟨a_rm, ⟨a_rn, a_rd⟩⟩⟩⟩⟩ := hA
    exact Ins.ext16 hop.symm (hsub.resolve_right (by decide)) a_rd.symm a_rn.symm a_rm.symm (zero_of q_ra).symm (zero_of q_imm).symm (zero_of q_imm2).symm a_amount.symm a_shift.symm (zero_of q_cond).symm (show 0 = i.sys by have h := R.sys; rw [hop] at h; exact (beq_iff_eq.1 h).symm) a_flags.symm a_minus.symm (off_of (by have h := R.not; rw [hop] at h; exact h)).symm (off_of (by have h := R.link; rw [hop] at h; exact h)).symm
  · exact fun W => ⟨⟨rfl, rfl⟩, ⟨rfl, ⟨rfl, ⟨rfl, ⟨rfl, rfl⟩⟩⟩⟩⟩
  · exact fun W => isForm_one rfl rfl
set_option maxRecDepth 4000 in
theorem fok2 : FormOk fm2 := by
  have C := (cd_then cd_logic (cd_then (cd_sgn .not 21 (by decide)) (cd_then (cd_num .shift 1 22 2 (by decide) (by decide) (by decide)) (cd_then (cd_num .amount 1 10 6 (by decide) (by decide) (by decide)) (cd_then (cd_num .rm 1 16 5 (by decide) (by decide) (by decide)) (cd_then (cd_num .rn 1 5 5 (by decide) (by decide) (by decide)) (cd_num .rd 1 0 5 (by decide) (by decide) (by decide))))))))
  refine form_ok fm2 C good2 [(29, 2), (21, 1), (22, 2), (10, 6), (16, 5), (5, 5), (0, 5)] (fun _ => rfl) (by kernel_rfl) (by kernel_rfl) (by kernel_rfl) ?_ ?_ ?_ ?_
  · intro i hR hF
    have R := rightF hR
    obtain ⟨hop, hsub⟩ := isForm_of hF
    have hop : i.op = 3 := hop.symm
    have q_rd : holdsB ⟨0, 31, 1⟩ i.rd = true := R.rd_ hop
    have q_rn : holdsB ⟨0, 31, 1⟩ i.rn = true := R.rn_ hop
    have q_rm : holdsB ⟨0, 31, 1⟩ i.rm = true := R.rm_ hop
    have q_sub : holdsB ⟨0, 2, 1⟩ i.sub = true := R.sub_ hop
    have q_amount : holdsB ⟨0, 63, 1⟩ i.amount = true := R.amount_ hop
    have q_shift : holdsB ⟨0, 3, 1⟩ i.shift = true := R.shift_ hop
    exact ⟨⟨(holds_of q_sub).1, (holds_of q_sub).2.1, logic_of (by have h := R.flags; rw [hop] at h; exact h)⟩, ⟨trivial, ⟨(fit_one q_shift (by decide) (by decide)), ⟨(fit_one q_amount (by decide) (by decide)), ⟨(fit_one q_rm (by decide) (by decide)), ⟨(fit_one q_rn (by decide) (by decide)), (fit_one q_rd (by decide) (by decide))⟩⟩⟩⟩⟩⟩
  · intro i hR hF W hA
    have R := rightF hR
    obtain ⟨hop, hsub⟩ := isForm_of hF
    have hop : i.op = 3 := hop.symm
    have q_ra : holdsB ⟨0, 0, 0⟩ i.ra = true := R.ra_ hop
    have q_imm : holdsB ⟨0, 0, 0⟩ i.imm = true := R.imm_ hop
    have q_imm2 : holdsB ⟨0, 0, 0⟩ i.imm2 = true := R.imm2_ hop
    have q_cond : holdsB ⟨0, 0, 0⟩ i.cond = true := R.cond_ hop
    obtain ⟨⟨a_sub, a_flags⟩, ⟨a_not, ⟨a_shift, ⟨a_amount, ⟨a_rm, ⟨a_rn, a_rd⟩⟩⟩⟩⟩⟩ := hA
    exact Ins.ext16 hop.symm a_sub.symm a_rd.symm a_rn.symm a_rm.symm (zero_of q_ra).symm (zero_of q_imm).symm (zero_of q_imm2).symm a_amount.symm a_shift.symm (zero_of q_cond).symm (show 0 = i.sys by have h := R.sys; rw [hop] at h; exact (beq_iff_eq.1 h).symm) a_flags.symm (off_of (by have h := R.minus; rw [hop] at h; exact h)).symm a_not.symm (off_of (by have h := R.link; rw [hop] at h; exact h)).symm
  · exact fun W => ⟨⟨rfl, rfl⟩, ⟨rfl, ⟨rfl, ⟨rfl, ⟨rfl, ⟨rfl, rfl⟩⟩⟩⟩⟩⟩
  · exact fun W => isForm_each rfl rfl
set_option maxRecDepth 4000 in
theorem fok3 : FormOk fm3 := by
  have C := (cd_then cd_logic (cd_then (cd_num .amount 1 22 1 (by decide) (by decide) (by decide)) (cd_then (cd_num .imm 1 16 6 (by decide) (by decide) (by decide)) (cd_then (cd_num .imm2 1 10 6 (by decide) (by decide) (by decide)) (cd_then (cd_num .rn 1 5 5 (by decide) (by decide) (by decide)) (cd_num .rd 1 0 5 (by decide) (by decide) (by decide)))))))
  refine form_ok fm3 C good3 [(29, 2), (22, 1), (16, 6), (10, 6), (5, 5), (0, 5)] (fun _ => rfl) (by kernel_rfl) (by kernel_rfl) (by kernel_rfl) ?_ ?_ ?_ ?_
  · intro i hR hF
    have R := rightF hR
    obtain ⟨hop, hsub⟩ := isForm_of hF
    have hop : i.op = 4 := hop.symm
    have q_rd : holdsB ⟨0, 31, 1⟩ i.rd = true := R.rd_ hop
    have q_rn : holdsB ⟨0, 31, 1⟩ i.rn = true := R.rn_ hop
    have q_sub : holdsB ⟨0, 2, 1⟩ i.sub = true := R.sub_ hop
    have q_imm : holdsB ⟨0, 63, 1⟩ i.imm = true := R.imm_ hop
    have q_imm2 : holdsB ⟨0, 63, 1⟩ i.imm2 = true := R.imm2_ hop
    have q_amount : holdsB ⟨0, 1, 1⟩ i.amount = true := R.amount_ hop
    exact ⟨⟨(holds_of q_sub).1, (holds_of q_sub).2.1, logic_of (by have h := R.flags; rw [hop] at h; exact h)⟩, ⟨(fit_one q_amount (by decide) (by decide)), ⟨(fit_one q_imm (by decide) (by decide)), ⟨(fit_one q_imm2 (by decide) (by decide)), ⟨(fit_one q_rn (by decide) (by decide)), (fit_one q_rd (by decide) (by decide))⟩⟩⟩⟩⟩
  · intro i hR hF W hA
    have R := rightF hR
    obtain ⟨hop, hsub⟩ := isForm_of hF
    have hop : i.op = 4 := hop.symm
    have q_rm : holdsB ⟨0, 0, 0⟩ i.rm = true := R.rm_ hop
    have q_ra : holdsB ⟨0, 0, 0⟩ i.ra = true := R.ra_ hop
    have q_shift : holdsB ⟨0, 0, 0⟩ i.shift = true := R.shift_ hop
    have q_cond : holdsB ⟨0, 0, 0⟩ i.cond = true := R.cond_ hop
    obtain ⟨⟨a_sub, a_flags⟩, ⟨a_amount, ⟨a_imm, ⟨a_imm2, ⟨a_rn, a_rd⟩⟩⟩⟩⟩ := hA
    exact Ins.ext16 hop.symm a_sub.symm a_rd.symm a_rn.symm (zero_of q_rm).symm (zero_of q_ra).symm a_imm.symm a_imm2.symm a_amount.symm (zero_of q_shift).symm (zero_of q_cond).symm (show 0 = i.sys by have h := R.sys; rw [hop] at h; exact (beq_iff_eq.1 h).symm) a_flags.symm (off_of (by have h := R.minus; rw [hop] at h; exact h)).symm (off_of (by have h := R.not; rw [hop] at h; exact h)).symm (off_of (by have h := R.link; rw [hop] at h; exact h)).symm
  · exact fun W => ⟨⟨rfl, rfl⟩, ⟨rfl, ⟨rfl, ⟨rfl, ⟨rfl, rfl⟩⟩⟩⟩⟩
  · exact fun W => isForm_each rfl rfl
set_option maxRecDepth 4000 in
theorem fok4 : FormOk fm4 := by
  have C := (cd_then (cd_num .sub 1 29 2 (by decide) (by decide) (by decide)) (cd_then (cd_num .amount 16 21 2 (by decide) (by decide) (by decide)) (cd_then (cd_num .imm 1 5 16 (by decide) (by decide) (by decide)) (cd_num .rd 1 0 5 (by decide) (by decide) (by decide)))))
  refine form_ok fm4 C good4 [(29, 2), (21, 2), (5, 16), (0, 5)] (fun _ => rfl) (by kernel_rfl) (by kernel_rfl) (by kernel_rfl) ?_ ?_ ?_ ?_
  · intro i hR hF
    have R := rightF hR
    obtain ⟨hop, hsub⟩ := isForm_of hF
    have hop : i.op = 5 := hop.symm
    have q_rd : holdsB ⟨0, 31, 1⟩ i.rd = true := R.rd_ hop
    have q_sub : holdsB ⟨0, 3, 1⟩ i.sub = true := R.sub_ hop
    have q_imm : holdsB ⟨0, 65535, 1⟩ i.imm = true := R.imm_ hop
    have q_amount : holdsB ⟨0, 48, 16⟩ i.amount = true := R.amount_ hop
    exact ⟨(fit_one q_sub (by decide) (by decide)), ⟨(fit_num q_amount (by decide) (by decide) (by decide)), ⟨(fit_one q_imm (by decide) (by decide)), (fit_one q_rd (by decide) (by decide))⟩⟩⟩
  · intro i hR hF W hA
    have R := rightF hR
    obtain ⟨hop, hsub⟩ := isForm_of hF
    have hop : i.op = 5 := hop.symm
    have q_rn : holdsB ⟨0, 0, 0⟩ i.rn = true := R.rn_ hop
    have q_rm : holdsB ⟨0, 0, 0⟩ i.rm = true := R.rm_ hop
    have q_ra : holdsB ⟨0, 0, 0⟩ i.ra = true := R.ra_ hop
    have q_imm2 : holdsB ⟨0, 0, 0⟩ i.imm2 = true := R.imm2_ hop
    have q_shift : holdsB ⟨0, 0, 0⟩ i.shift = true := R.shift_ hop
    have q_cond : holdsB ⟨0, 0, 0⟩ i.cond = true := R.cond_ hop
    obtain ⟨a_sub, ⟨a_amount, ⟨a_imm, a_rd⟩⟩⟩ := hA
    exact Ins.ext16 hop.symm a_sub.symm a_rd.symm (zero_of q_rn).symm (zero_of q_rm).symm (zero_of q_ra).symm a_imm.symm (zero_of q_imm2).symm a_amount.symm (zero_of q_shift).symm (zero_of q_cond).symm (show 0 = i.sys by have h := R.sys; rw [hop] at h; exact (beq_iff_eq.1 h).symm) (off_of (by have h := R.flags; rw [hop] at h; exact h)).symm (off_of (by have h := R.minus; rw [hop] at h; exact h)).symm (off_of (by have h := R.not; rw [hop] at h; exact h)).symm (off_of (by have h := R.link; rw [hop] at h; exact h)).symm
  · exact fun W => ⟨rfl, ⟨rfl, ⟨rfl, rfl⟩⟩⟩
  · exact fun W => isForm_each rfl rfl
set_option maxRecDepth 4000 in
theorem fok5 : FormOk fm5 := by
  have C := (cd_then (cd_num .sub 1 29 2 (by decide) (by decide) (by decide)) (cd_then (cd_num .imm 1 16 6 (by decide) (by decide) (by decide)) (cd_then (cd_num .imm2 1 10 6 (by decide) (by decide) (by decide)) (cd_then (cd_num .rn 1 5 5 (by decide) (by decide) (by decide)) (cd_num .rd 1 0 5 (by decide) (by decide) (by decide))))))
  refine form_ok fm5 C good5 [(29, 2), (16, 6), (10, 6), (5, 5), (0, 5)] (fun _ => rfl) (by kernel_rfl) (by kernel_rfl) (by kernel_rfl) ?_ ?_ ?_ ?_
  · intro i hR hF
    have R := rightF hR
    obtain ⟨hop, hsub⟩ := isForm_of hF
    have hop : i.op = 6 := hop.symm
    have q_rd : holdsB ⟨0, 31, 1⟩ i.rd = true := R.rd_ hop
    have q_rn : holdsB ⟨0, 31, 1⟩ i.rn = true := R.rn_ hop
    have q_sub : holdsB ⟨0, 2, 2⟩ i.sub = true := R.sub_ hop
    have q_imm : holdsB ⟨0, 63, 1⟩ i.imm = true := R.imm_ hop
    have q_imm2 : holdsB ⟨0, 63, 1⟩ i.imm2 = true := R.imm2_ hop
    exact ⟨(fit_one q_sub (by decide) (by decide)), ⟨(fit_one q_imm (by decide) (by decide)), ⟨(fit_one q_imm2 (by decide) (by decide)), ⟨(fit_one q_rn (by decide) (by decide)), (fit_one q_rd (by decide) (by decide))⟩⟩⟩⟩
  · intro i hR hF W hA
    have R := rightF hR
    obtain ⟨hop, hsub⟩ := isForm_of hF
    have hop : i.op = 6 := hop.symm
    have q_rm : holdsB ⟨0, 0, 0⟩ i.rm = true := R.rm_ hop
    have q_ra : holdsB ⟨0, 0, 0⟩ i.ra = true := R.ra_ hop
    have q_amount : holdsB ⟨0, 0, 0⟩ i.amount = true := R.amount_ hop
    have q_shift : holdsB ⟨0, 0, 0⟩ i.shift = true := R.shift_ hop
    have q_cond : holdsB ⟨0, 0, 0⟩ i.cond = true := R.cond_ hop
    obtain ⟨a_sub, ⟨a_imm, ⟨a_imm2, ⟨a_rn, a_rd⟩⟩⟩⟩ := hA
    exact Ins.ext16 hop.symm a_sub.symm a_rd.symm a_rn.symm (zero_of q_rm).symm (zero_of q_ra).symm a_imm.symm a_imm2.symm (zero_of q_amount).symm (zero_of q_shift).symm (zero_of q_cond).symm (show 0 = i.sys by have h := R.sys; rw [hop] at h; exact (beq_iff_eq.1 h).symm) (off_of (by have h := R.flags; rw [hop] at h; exact h)).symm (off_of (by have h := R.minus; rw [hop] at h; exact h)).symm (off_of (by have h := R.not; rw [hop] at h; exact h)).symm (off_of (by have h := R.link; rw [hop] at h; exact h)).symm
  · exact fun W => ⟨rfl, ⟨rfl, ⟨rfl, ⟨rfl, rfl⟩⟩⟩⟩
  · exact fun W => isForm_each rfl rfl
set_option maxRecDepth 4000 in
theorem fok6 : FormOk fm6 := by
  have C := (cd_then (cd_num .sub 1 10 2 (by decide) (by decide) (by decide)) (cd_then (cd_num .rm 1 16 5 (by decide) (by decide) (by decide)) (cd_then (cd_num .rn 1 5 5 (by decide) (by decide) (by decide)) (cd_num .rd 1 0 5 (by decide) (by decide) (by decide)))))
  refine form_ok fm6 C good6 [(10, 2), (16, 5), (5, 5), (0, 5)] (fun _ => rfl) (by kernel_rfl) (by kernel_rfl) (by kernel_rfl) ?_ ?_ ?_ ?_
  · intro i hR hF
    have R := rightF hR
    obtain ⟨hop, hsub⟩ := isForm_of hF
    have hop : i.op = 7 := hop.symm
    have q_rd : holdsB ⟨0, 31, 1⟩ i.rd = true := R.rd_ hop
    have q_rn : holdsB ⟨0, 31, 1⟩ i.rn = true := R.rn_ hop
    have q_rm : holdsB ⟨0, 31, 1⟩ i.rm = true := R.rm_ hop
    have q_sub : holdsB ⟨0, 3, 1⟩ i.sub = true := R.sub_ hop
    exact ⟨(fit_one q_sub (by decide) (by decide)), ⟨(fit_one q_rm (by decide) (by decide)), ⟨(fit_one q_rn (by decide) (by decide)), (fit_one q_rd (by decide) (by decide))⟩⟩⟩
  · intro i hR hF W hA
    have R := rightF hR
    obtain ⟨hop, hsub⟩ := isForm_of hF
    have hop : i.op = 7 := hop.symm
    have q_ra : holdsB ⟨0, 0, 0⟩ i.ra = true := R.ra_ hop
    have q_imm : holdsB ⟨0, 0, 0⟩ i.imm = true := R.imm_ hop
    have q_imm2 : holdsB ⟨0, 0, 0⟩ i.imm2 = true := R.imm2_ hop
    have q_amount : holdsB ⟨0, 0, 0⟩ i.amount = true := R.amount_ hop
    have q_shift : holdsB ⟨0, 0, 0⟩ i.shift = true := R.shift_ hop
    have q_cond : holdsB ⟨0, 0, 0⟩ i.cond = true := R.cond_ hop
    obtain ⟨a_sub, ⟨a_rm, ⟨a_rn, a_rd⟩⟩⟩ := hA
    exact Ins.ext16 hop.symm a_sub.symm a_rd.symm a_rn.symm a_rm.symm (zero_of q_ra).symm (zero_of q_imm).symm (zero_of q_imm2).symm (zero_of q_amount).symm (zero_of q_shift).symm (zero_of q_cond).symm (show 0 = i.sys by have h := R.sys; rw [hop] at h; exact (beq_iff_eq.1 h).symm) (off_of (by have h := R.flags; rw [hop] at h; exact h)).symm (off_of (by have h := R.minus; rw [hop] at h; exact h)).symm (off_of (by have h := R.not; rw [hop] at h; exact h)).symm (off_of (by have h := R.link; rw [hop] at h; exact h)).symm
  · exact fun W => ⟨rfl, ⟨rfl, ⟨rfl, rfl⟩⟩⟩
  · exact fun W => isForm_each rfl rfl
set_option maxRecDepth 4000 in
theorem fok7 : FormOk fm7 := by
  have C := (cd_then (cd_sgn .minus 15 (by decide)) (cd_then (cd_num .ra 1 10 5 (by decide) (by decide) (by decide)) (cd_then (cd_num .rm 1 16 5 (by decide) (by decide) (by decide)) (cd_then (cd_num .rn 1 5 5 (by decide) (by decide) (by decide)) (cd_num .rd 1 0 5 (by decide) (by decide) (by decide))))))
  refine form_ok fm7 C good7 [(15, 1), (10, 5), (16, 5), (5, 5), (0, 5)] (fun _ => rfl) (by kernel_rfl) (by kernel_rfl) (by kernel_rfl) ?_ ?_ ?_ ?_
  · intro i hR hF
    have R := rightF hR
    obtain ⟨hop, hsub⟩ := isForm_of hF
    have hop : i.op = 8 := hop.symm
    have q_rd : holdsB ⟨0, 31, 1⟩ i.rd = true := R.rd_ hop
    have q_rn : holdsB ⟨0, 31, 1⟩ i.rn = true := R.rn_ hop
    have q_rm : holdsB ⟨0, 31, 1⟩ i.rm = true := R.rm_ hop
    have q_ra : holdsB ⟨0, 31, 1⟩ i.ra = true := R.ra_ hop
    exact ⟨trivial, ⟨(fit_one q_ra (by decide) (by decide)), ⟨(fit_one q_rm (by decide) (by decide)), ⟨(fit_one q_rn (by decide) (by decide)), (fit_one q_rd (by decide) (by decide))⟩⟩⟩⟩
  · intro i hR hF W hA
    have R := rightF hR
    obtain ⟨hop, hsub⟩ := isForm_of hF
    have hop : i.op = 8 := hop.symm
    have q_imm : holdsB ⟨0, 0, 0⟩ i.imm = true := R.imm_ hop
    have q_imm2 : holdsB ⟨0, 0, 0⟩ i.imm2 = true := R.imm2_ hop
    have q_amount : holdsB ⟨0, 0, 0⟩ i.amount = true := R.amount_ hop
    have q_shift : holdsB ⟨0, 0, 0⟩ i.shift = true := R.shift_ hop
    have q_cond : holdsB ⟨0, 0, 0⟩ i.cond = true := R.cond_ hop
    obtain ⟨a_minus, ⟨a_ra, ⟨a_rm, ⟨a_rn, a_rd⟩⟩⟩⟩ := hA
    exact Ins.ext16 hop.symm (hsub.resolve_right (by decide)) a_rd.symm a_rn.symm a_rm.symm a_ra.symm (zero_of q_imm).symm (zero_of q_imm2).symm (zero_of q_amount).symm (zero_of q_shift).symm (zero_of q_cond).symm (show 0 = i.sys by have h := R.sys; rw [hop] at h; exact (beq_iff_eq.1 h).symm) (off_of (by have h := R.flags; rw [hop] at h; exact h)).symm a_minus.symm (off_of (by have h := R.not; rw [hop] at h; exact h)).symm (off_of (by have h := R.link; rw [hop] at h; exact h)).symm
  · exact fun W => ⟨rfl, ⟨rfl, ⟨rfl, ⟨rfl, rfl⟩⟩⟩⟩
  · exact fun W => isForm_one rfl rfl
set_option maxRecDepth 4000 in
theorem fok8 : FormOk fm8 := by
  have C := (cd_then (cd_num .sub 1 10 1 (by decide) (by decide) (by decide)) (cd_then (cd_num .rm 1 16 5 (by decide) (by decide) (by decide)) (cd_then (cd_num .rn 1 5 5 (by decide) (by decide) (by decide)) (cd_num .rd 1 0 5 (by decide) (by decide) (by decide)))))
  refine form_ok fm8 C good8 [(10, 1), (16, 5), (5, 5), (0, 5)] (fun _ => rfl) (by kernel_rfl) (by kernel_rfl) (by kernel_rfl) ?_ ?_ ?_ ?_
  · intro i hR hF
    have R := rightF hR
    obtain ⟨hop, hsub⟩ := isForm_of hF
    have hop : i.op = 9 := hop.symm
    have q_rd : holdsB ⟨0, 31, 1⟩ i.rd = true := R.rd_ hop
    have q_rn : holdsB ⟨0, 31, 1⟩ i.rn = true := R.rn_ hop
    have q_rm : holdsB ⟨0, 31, 1⟩ i.rm = true := R.rm_ hop
    have q_sub : holdsB ⟨0, 1, 1⟩ i.sub = true := R.sub_ hop
    exact ⟨(fit_one q_sub (by decide) (by decide)), ⟨(fit_one q_rm (by decide) (by decide)), ⟨(fit_one q_rn (by decide) (by decide)), (fit_one q_rd (by decide) (by decide))⟩⟩⟩
  · intro i hR hF W hA
    have R := rightF hR
    obtain ⟨hop, hsub⟩ := isForm_of hF
    have hop : i.op = 9 := hop.symm
    have q_ra : holdsB ⟨0, 0, 0⟩ i.ra = true := R.ra_ hop
    have q_imm : holdsB ⟨0, 0, 0⟩ i.imm = true := R.imm_ hop
    have q_imm2 : holdsB ⟨0, 0, 0⟩ i.imm2 = true := R.imm2_ hop
    have q_amount : holdsB ⟨0, 0, 0⟩ i.amount = true := R.amount_ hop
    have q_shift : holdsB ⟨0, 0, 0⟩ i.shift = true := R.shift_ hop
    have q_cond : holdsB ⟨0, 0, 0⟩ i.cond = true := R.cond_ hop
    obtain ⟨a_sub, ⟨a_rm, ⟨a_rn, a_rd⟩⟩⟩ := hA
    exact Ins.ext16 hop.symm a_sub.symm a_rd.symm a_rn.symm a_rm.symm (zero_of q_ra).symm (zero_of q_imm).symm (zero_of q_imm2).symm (zero_of q_amount).symm (zero_of q_shift).symm (zero_of q_cond).symm (show 0 = i.sys by have h := R.sys; rw [hop] at h; exact (beq_iff_eq.1 h).symm) (off_of (by have h := R.flags; rw [hop] at h; exact h)).symm (off_of (by have h := R.minus; rw [hop] at h; exact h)).symm (off_of (by have h := R.not; rw [hop] at h; exact h)).symm (off_of (by have h := R.link; rw [hop] at h; exact h)).symm
  · exact fun W => ⟨rfl, ⟨rfl, ⟨rfl, rfl⟩⟩⟩
  · exact fun W => isForm_each rfl rfl
set_option maxRecDepth 4000 in
theorem fok9 : FormOk fm9 := by
  have C := (cd_then cd_sel0 (cd_then (cd_num .cond 1 12 4 (by decide) (by decide) (by decide)) (cd_then (cd_num .rm 1 16 5 (by decide) (by decide) (by decide)) (cd_then (cd_num .rn 1 5 5 (by decide) (by decide) (by decide)) (cd_num .rd 1 0 5 (by decide) (by decide) (by decide))))))
  refine form_ok fm9 C good9 [(30, 1), (10, 1), (12, 4), (16, 5), (5, 5), (0, 5)] (fun _ => rfl) (by kernel_rfl) (by kernel_rfl) (by kernel_rfl) ?_ ?_ ?_ ?_
  · intro i hR hF
    have R := rightF hR
    obtain ⟨hop, hsub⟩ := isForm_of hF
    have hop : i.op = 10 := hop.symm
    have q_rd : holdsB ⟨0, 31, 1⟩ i.rd = true := R.rd_ hop
    have q_rn : holdsB ⟨0, 31, 1⟩ i.rn = true := R.rn_ hop
    have q_rm : holdsB ⟨0, 31, 1⟩ i.rm = true := R.rm_ hop
    have q_sub : holdsB ⟨0, 3, 1⟩ i.sub = true := R.sub_ hop
    have q_cond : holdsB ⟨0, 15, 1⟩ i.cond = true := R.cond_ hop
    exact ⟨(fit_two q_sub (by decide) (by decide)), ⟨(fit_one q_cond (by decide) (by decide)), ⟨(fit_one q_rm (by decide) (by decide)), ⟨(fit_one q_rn (by decide) (by decide)), (fit_one q_rd (by decide) (by decide))⟩⟩⟩⟩
  · intro i hR hF W hA
    have R := rightF hR
    obtain ⟨hop, hsub⟩ := isForm_of hF
    have hop : i.op = 10 := hop.symm
    have q_ra : holdsB ⟨0, 0, 0⟩ i.ra = true := R.ra_ hop
    have q_imm : holdsB ⟨0, 0, 0⟩ i.imm = true := R.imm_ hop
    have q_imm2 : holdsB ⟨0, 0, 0⟩ i.imm2 = true := R.imm2_ hop
    have q_amount : holdsB ⟨0, 0, 0⟩ i.amount = true := R.amount_ hop
    have q_shift : holdsB ⟨0, 0, 0⟩ i.shift = true := R.shift_ hop
    obtain ⟨a_sub, ⟨a_cond, ⟨a_rm, ⟨a_rn, a_rd⟩⟩⟩⟩ := hA
    exact Ins.ext16 hop.symm a_sub.symm a_rd.symm a_rn.symm a_rm.symm (zero_of q_ra).symm (zero_of q_imm).symm (zero_of q_imm2).symm (zero_of q_amount).symm (zero_of q_shift).symm a_cond.symm (show 0 = i.sys by have h := R.sys; rw [hop] at h; exact (beq_iff_eq.1 h).symm) (off_of (by have h := R.flags; rw [hop] at h; exact h)).symm (off_of (by have h := R.minus; rw [hop] at h; exact h)).symm (off_of (by have h := R.not; rw [hop] at h; exact h)).symm (off_of (by have h := R.link; rw [hop] at h; exact h)).symm
  · exact fun W => ⟨rfl, ⟨rfl, ⟨rfl, ⟨rfl, rfl⟩⟩⟩⟩
  · exact fun W => isForm_each rfl rfl
set_option maxRecDepth 4000 in
theorem fok10 : FormOk fm10 := by
  have C := (cd_then (cd_num .sub 1 31 1 (by decide) (by decide) (by decide)) (cd_then cd_adr0 (cd_num .rd 1 0 5 (by decide) (by decide) (by decide))))
  refine form_ok fm10 C good10 [(31, 1), (29, 2), (5, 19), (0, 5)] (fun _ => rfl) (by kernel_rfl) (by kernel_rfl) (by kernel_rfl) ?_ ?_ ?_ ?_
  · intro i hR hF
    have R := rightF hR
    obtain ⟨hop, hsub⟩ := isForm_of hF
    have hop : i.op = 11 := hop.symm
    have q_rd : holdsB ⟨0, 31, 1⟩ i.rd = true := R.rd_ hop
    have q_sub : holdsB ⟨0, 1, 1⟩ i.sub = true := R.sub_ hop
    exact ⟨(fit_one q_sub (by decide) (by decide)), ⟨fit_adr hop q_sub R.imm, (fit_one q_rd (by decide) (by decide))⟩⟩
  · intro i hR hF W hA
    have R := rightF hR
    obtain ⟨hop, hsub⟩ := isForm_of hF
    have hop : i.op = 11 := hop.symm
    have q_rn : holdsB ⟨0, 0, 0⟩ i.rn = true := R.rn_ hop
    have q_rm : holdsB ⟨0, 0, 0⟩ i.rm = true := R.rm_ hop
    have q_ra : holdsB ⟨0, 0, 0⟩ i.ra = true := R.ra_ hop
    have q_imm2 : holdsB ⟨0, 0, 0⟩ i.imm2 = true := R.imm2_ hop
    have q_amount : holdsB ⟨0, 0, 0⟩ i.amount = true := R.amount_ hop
    have q_shift : holdsB ⟨0, 0, 0⟩ i.shift = true := R.shift_ hop
    have q_cond : holdsB ⟨0, 0, 0⟩ i.cond = true := R.cond_ hop
    obtain ⟨a_sub, ⟨a_imm, a_rd⟩⟩ := hA
    exact Ins.ext16 hop.symm a_sub.symm a_rd.symm (zero_of q_rn).symm (zero_of q_rm).symm (zero_of q_ra).symm (by rw [a_imm]; show _ * adrU _ = _ * adrU i; congr 1; exact adrU_sub a_sub.symm) (zero_of q_imm2).symm (zero_of q_amount).symm (zero_of q_shift).symm (zero_of q_cond).symm (show 0 = i.sys by have h := R.sys; rw [hop] at h; exact (beq_iff_eq.1 h).symm) (off_of (by have h := R.flags; rw [hop] at h; exact h)).symm (off_of (by have h := R.minus; rw [hop] at h; exact h)).symm (off_of (by have h := R.not; rw [hop] at h; exact h)).symm (off_of (by have h := R.link; rw [hop] at h; exact h)).symm
  · exact fun W => ⟨rfl, ⟨rfl, rfl⟩⟩
  · exact fun W => isForm_each rfl rfl
set_option maxRecDepth 4000 in
theorem fok11 : FormOk fm11 := by
  have C := (cd_then (cd_sgn .link 31 (by decide)) (cd_words 0 26 (by decide) (by decide)))
  refine form_ok fm11 C good11 [(31, 1), (0, 26)] (fun _ => rfl) (by kernel_rfl) (by kernel_rfl) (by kernel_rfl) ?_ ?_ ?_ ?_
  · intro i hR hF
    have R := rightF hR
    obtain ⟨hop, hsub⟩ := isForm_of hF
    have hop : i.op = 12 := hop.symm
    have q_imm : holdsB ⟨(-134217728), 134217724, 4⟩ i.imm = true := R.imm_ hop
    exact ⟨trivial, (fit_words q_imm (by decide) (by decide))⟩
  · intro i hR hF W hA
    have R := rightF hR
    obtain ⟨hop, hsub⟩ := isForm_of hF
    have hop : i.op = 12 := hop.symm
    have q_rd : holdsB ⟨0, 0, 0⟩ i.rd = true := R.rd_ hop
    have q_rn : holdsB ⟨0, 0, 0⟩ i.rn = true := R.rn_ hop
    have q_rm : holdsB ⟨0, 0, 0⟩ i.rm = true := R.rm_ hop
    have q_ra : holdsB ⟨0, 0, 0⟩ i.ra = true := R.ra_ hop
    have q_imm2 : holdsB ⟨0, 0, 0⟩ i.imm2 = true := R.imm2_ hop
    have q_amount : holdsB ⟨0, 0, 0⟩ i.amount = true := R.amount_ hop
    have q_shift : holdsB ⟨0, 0, 0⟩ i.shift = true := R.shift_ hop
    have q_cond : holdsB ⟨0, 0, 0⟩ i.cond = true := R.cond_ hop
    obtain ⟨a_link, a_imm⟩ := hA
    exact Ins.ext16 hop.symm (hsub.resolve_right (by decide)) (zero_of q_rd).symm (zero_of q_rn).symm (zero_of q_rm).symm (zero_of q_ra).symm a_imm.symm (zero_of q_imm2).symm (zero_of q_amount).symm (zero_of q_shift).symm (zero_of q_cond).symm (show 0 = i.sys by have h := R.sys; rw [hop] at h; exact (beq_iff_eq.1 h).symm) (off_of (by have h := R.flags; rw [hop] at h; exact h)).symm (off_of (by have h := R.minus; rw [hop] at h; exact h)).symm (off_of (by have h := R.not; rw [hop] at h; exact h)).symm a_link.symm
  · exact fun W => ⟨rfl, rfl⟩
  · exact fun W => isForm_one rfl rfl
set_option maxRecDepth 4000 in
theorem fok12 : FormOk fm12 := by
  have C := (cd_then (cd_words 5 19 (by decide) (by decide)) (cd_num .cond 1 0 4 (by decide) (by decide) (by decide)))
  refine form_ok fm12 C good12 [(5, 19), (0, 4)] (fun _ => rfl) (by kernel_rfl) (by kernel_rfl) (by kernel_rfl) ?_ ?_ ?_ ?_
  · intro i hR hF
    have R := rightF hR
    obtain ⟨hop, hsub⟩ := isForm_of hF
    have hop : i.op = 13 := hop.symm
    have q_imm : holdsB ⟨(-1048576), 1048572, 4⟩ i.imm = true := R.imm_ hop
    have q_cond : holdsB ⟨0, 15, 1⟩ i.cond = true := R.cond_ hop
    exact ⟨(fit_words q_imm (by decide) (by decide)), (fit_one q_cond (by decide) (by decide))⟩
  · intro i hR hF W hA
    have R := rightF hR
    obtain ⟨hop, hsub⟩ := isForm_of hF
    have hop : i.op = 13 := hop.symm
    have q_rd : holdsB ⟨0, 0, 0⟩ i.rd = true := R.rd_ hop
    have q_rn : holdsB ⟨0, 0, 0⟩ i.rn = true := R.rn_ hop
    have q_rm : holdsB ⟨0, 0, 0⟩ i.rm = true := R.rm_ hop
    have q_ra : holdsB ⟨0, 0, 0⟩ i.ra = true := R.ra_ hop
    have q_imm2 : holdsB ⟨0, 0, 0⟩ i.imm2 = true := R.imm2_ hop
    have q_amount : holdsB ⟨0, 0, 0⟩ i.amount = true := R.amount_ hop
    have q_shift : holdsB ⟨0, 0, 0⟩ i.shift = true := R.shift_ hop
    obtain ⟨a_imm, a_cond⟩ := hA
    exact Ins.ext16 hop.symm (hsub.resolve_right (by decide)) (zero_of q_rd).symm (zero_of q_rn).symm (zero_of q_rm).symm (zero_of q_ra).symm a_imm.symm (zero_of q_imm2).symm (zero_of q_amount).symm (zero_of q_shift).symm a_cond.symm (show 0 = i.sys by have h := R.sys; rw [hop] at h; exact (beq_iff_eq.1 h).symm) (off_of (by have h := R.flags; rw [hop] at h; exact h)).symm (off_of (by have h := R.minus; rw [hop] at h; exact h)).symm (off_of (by have h := R.not; rw [hop] at h; exact h)).symm (off_of (by have h := R.link; rw [hop] at h; exact h)).symm
  · exact fun W => ⟨rfl, rfl⟩
  · exact fun W => isForm_one rfl rfl
set_option maxRecDepth 4000 in
theorem fok13 : FormOk fm13 := by
  have C := (cd_then (cd_sgn .not 24 (by decide)) (cd_then (cd_words 5 19 (by decide) (by decide)) (cd_num .rd 1 0 5 (by decide) (by decide) (by decide))))
  refine form_ok fm13 C good13 [(24, 1), (5, 19), (0, 5)] (fun _ => rfl) (by kernel_rfl) (by kernel_rfl) (by kernel_rfl) ?_ ?_ ?_ ?_
  · intro i hR hF
    have R := rightF hR
    obtain ⟨hop, hsub⟩ := isForm_of hF
    have hop : i.op = 14 := hop.symm
    have q_rd : holdsB ⟨0, 31, 1⟩ i.rd = true := R.rd_ hop
    have q_imm : holdsB ⟨(-1048576), 1048572, 4⟩ i.imm = true := R.imm_ hop
    exact ⟨trivial, ⟨(fit_words q_imm (by decide) (by decide)), (fit_one q_rd (by decide) (by decide))⟩⟩
  · intro i hR hF W hA
    have R := rightF hR
    obtain ⟨hop, hsub⟩ := isForm_of hF
    have hop : i.op = 14 := hop.symm
    have q_rn : holdsB ⟨0, 0, 0⟩ i.rn = true := R.rn_ hop
    have q_rm : holdsB ⟨0, 0, 0⟩ i.rm = true := R.rm_ hop
    have q_ra : holdsB ⟨0, 0, 0⟩ i.ra = true := R.ra_ hop
    have q_imm2 : holdsB ⟨0, 0, 0⟩ i.imm2 = true := R.imm2_ hop
    have q_amount : holdsB ⟨0, 0, 0⟩ i.amount = true := R.amount_ hop
    have q_shift : holdsB ⟨0, 0, 0⟩ i.shift = true := R.shift_ hop
    have q_cond : holdsB ⟨0, 0, 0⟩ i.cond = true := R.cond_ hop
    obtain ⟨a_not, ⟨a_imm, a_rd⟩⟩ := hA
    exact Ins.ext16 hop.symm (hsub.resolve_right (by decide)) a_rd.symm (zero_of q_rn).symm (zero_of q_rm).symm (zero_of q_ra).symm a_imm.symm (zero_of q_imm2).symm (zero_of q_amount).symm (zero_of q_shift).symm (zero_of q_cond).symm (show 0 = i.sys by have h := R.sys; rw [hop] at h; exact (beq_iff_eq.1 h).symm) (off_of (by have h := R.flags; rw [hop] at h; exact h)).symm (off_of (by have h := R.minus; rw [hop] at h; exact h)).symm a_not.symm (off_of (by have h := R.link; rw [hop] at h; exact h)).symm
  · exact fun W => ⟨rfl, ⟨rfl, rfl⟩⟩
  · exact fun W => isForm_one rfl rfl
set_option maxRecDepth 4000 in
theorem fok14 : FormOk fm14 := by
  have C := (cd_then (cd_sgn .not 24 (by decide)) (cd_then cd_tbz0 (cd_then (cd_words 5 14 (by decide) (by decide)) (cd_num .rd 1 0 5 (by decide) (by decide) (by decide)))))
  refine form_ok fm14 C good14 [(24, 1), (31, 1), (19, 5), (5, 14), (0, 5)] (fun _ => rfl) (by kernel_rfl) (by kernel_rfl) (by kernel_rfl) ?_ ?_ ?_ ?_
  · intro i hR hF
    have R := rightF hR
    obtain ⟨hop, hsub⟩ := isForm_of hF
    have hop : i.op = 15 := hop.symm
    have q_rd : holdsB ⟨0, 31, 1⟩ i.rd = true := R.rd_ hop
    have q_imm : holdsB ⟨(-32768), 32764, 4⟩ i.imm = true := R.imm_ hop
    have q_amount : holdsB ⟨0, 63, 1⟩ i.amount = true := R.amount_ hop
    exact ⟨trivial, ⟨(fit_two q_amount (by decide) (by decide)), ⟨(fit_words q_imm (by decide) (by decide)), (fit_one q_rd (by decide) (by decide))⟩⟩⟩
  · intro i hR hF W hA
    have R := rightF hR
    obtain ⟨hop, hsub⟩ := isForm_of hF
    have hop : i.op = 15 := hop.symm
    have q_rn : holdsB ⟨0, 0, 0⟩ i.rn = true := R.rn_ hop
    have q_rm : holdsB ⟨0, 0, 0⟩ i.rm = true := R.rm_ hop
    have q_ra : holdsB ⟨0, 0, 0⟩ i.ra = true := R.ra_ hop
    have q_imm2 : holdsB ⟨0, 0, 0⟩ i.imm2 = true := R.imm2_ hop
    have q_shift : holdsB ⟨0, 0, 0⟩ i.shift = true := R.shift_ hop
    have q_cond : holdsB ⟨0, 0, 0⟩ i.cond = true := R.cond_ hop
    obtain ⟨a_not, ⟨a_amount, ⟨a_imm, a_rd⟩⟩⟩ := hA
    exact Ins.ext16 hop.symm (hsub.resolve_right (by decide)) a_rd.symm (zero_of q_rn).symm (zero_of q_rm).symm (zero_of q_ra).symm a_imm.symm (zero_of q_imm2).symm a_amount.symm (zero_of q_shift).symm (zero_of q_cond).symm (show 0 = i.sys by have h := R.sys; rw [hop] at h; exact (beq_iff_eq.1 h).symm) (off_of (by have h := R.flags; rw [hop] at h; exact h)).symm (off_of (by have h := R.minus; rw [hop] at h; exact h)).symm a_not.symm (off_of (by have h := R.link; rw [hop] at h; exact h)).symm
  · exact fun W => ⟨rfl, ⟨rfl, ⟨rfl, rfl⟩⟩⟩
  · exact fun W => isForm_one rfl rfl
set_option maxRecDepth 4000 in
theorem fok15 : FormOk fm15 := by
  have C := (cd_then (cd_num .sub 1 21 2 (by decide) (by decide) (by decide)) (cd_num .rn 1 5 5 (by decide) (by decide) (by decide)))
  refine form_ok fm15 C good15 [(21, 2), (5, 5)] (fun _ => rfl) (by kernel_rfl) (by kernel_rfl) (by kernel_rfl) ?_ ?_ ?_ ?_
  · intro i hR hF
    have R := rightF hR
    obtain ⟨hop, hsub⟩ := isForm_of hF
    have hop : i.op = 16 := hop.symm
    have q_rn : holdsB ⟨0, 31, 1⟩ i.rn = true := R.rn_ hop
    have q_sub : holdsB ⟨0, 2, 1⟩ i.sub = true := R.sub_ hop
    exact ⟨(fit_one q_sub (by decide) (by decide)), (fit_one q_rn (by decide) (by decide))⟩
  · intro i hR hF W hA
    have R := rightF hR
    obtain ⟨hop, hsub⟩ := isForm_of hF
    have hop : i.op = 16 := hop.symm
    have q_rd : holdsB ⟨0, 0, 0⟩ i.rd = true := R.rd_ hop
    have q_rm : holdsB ⟨0, 0, 0⟩ i.rm = true := R.rm_ hop
    have q_ra : holdsB ⟨0, 0, 0⟩ i.ra = true := R.ra_ hop
    have q_imm : holdsB ⟨0, 0, 0⟩ i.imm = true := R.imm_ hop
    have q_imm2 : holdsB ⟨0, 0, 0⟩ i.imm2 = true := R.imm2_ hop
    have q_amount : holdsB ⟨0, 0, 0⟩ i.amount = true := R.amount_ hop
    have q_shift : holdsB ⟨0, 0, 0⟩ i.shift = true := R.shift_ hop
    have q_cond : holdsB ⟨0, 0, 0⟩ i.cond = true := R.cond_ hop
    obtain ⟨a_sub, a_rn⟩ := hA
    exact Ins.ext16 hop.symm a_sub.symm (zero_of q_rd).symm a_rn.symm (zero_of q_rm).symm (zero_of q_ra).symm (zero_of q_imm).symm (zero_of q_imm2).symm (zero_of q_amount).symm (zero_of q_shift).symm (zero_of q_cond).symm (show 0 = i.sys by have h := R.sys; rw [hop] at h; exact (beq_iff_eq.1 h).symm) (off_of (by have h := R.flags; rw [hop] at h; exact h)).symm (off_of (by have h := R.minus; rw [hop] at h; exact h)).symm (off_of (by have h := R.not; rw [hop] at h; exact h)).symm (off_of (by have h := R.link; rw [hop] at h; exact h)).symm
  · exact fun W => ⟨rfl, rfl⟩
  · exact fun W => isForm_each rfl rfl
set_option maxRecDepth 4000 in
theorem fok16 : FormOk fm16 := by
  have C := (cd_then (cd_num .imm 8 10 12 (by decide) (by decide) (by decide)) (cd_then (cd_num .rn 1 5 5 (by decide) (by decide) (by decide)) (cd_num .rd 1 0 5 (by decide) (by decide) (by decide))))
  refine form_ok fm16 C good16 [(10, 12), (5, 5), (0, 5)] (fun _ => rfl) (by kernel_rfl) (by kernel_rfl) (by kernel_rfl) ?_ ?_ ?_ ?_
  · intro i hR hF
    have R := rightF hR
    obtain ⟨hop, hsub⟩ := isForm_of hF
    have hop : i.op = 17 := hop.symm
    have q_rd : holdsB ⟨0, 31, 1⟩ i.rd = true := R.rd_ hop
    have q_rn : holdsB ⟨0, 31, 1⟩ i.rn = true := R.rn_ hop
    have q_imm : holdsB ⟨0, 32760, 8⟩ i.imm = true := R.imm_ hop
    exact ⟨(fit_num q_imm (by decide) (by decide) (by decide)), ⟨(fit_one q_rn (by decide) (by decide)), (fit_one q_rd (by decide) (by decide))⟩⟩
  · intro i hR hF W hA
    have R := rightF hR
    obtain ⟨hop, hsub⟩ := isForm_of hF
    have hop : i.op = 17 := hop.symm
    have q_rm : holdsB ⟨0, 0, 0⟩ i.rm = true := R.rm_ hop
    have q_ra : holdsB ⟨0, 0, 0⟩ i.ra = true := R.ra_ hop
    have q_imm2 : holdsB ⟨0, 0, 0⟩ i.imm2 = true := R.imm2_ hop
    have q_amount : holdsB ⟨0, 0, 0⟩ i.amount = true := R.amount_ hop
    have q_shift : holdsB ⟨0, 0, 0⟩ i.shift = true := R.shift_ hop
    have q_cond : holdsB ⟨0, 0, 0⟩ i.cond = true := R.cond_ hop
    obtain ⟨a_imm, ⟨a_rn, a_rd⟩⟩ := hA
    exact Ins.ext16 hop.symm (hsub.resolve_right (by decide)) a_rd.symm a_rn.symm (zero_of q_rm).symm (zero_of q_ra).symm a_imm.symm (zero_of q_imm2).symm (zero_of q_amount).symm (zero_of q_shift).symm (zero_of q_cond).symm (show 0 = i.sys by have h := R.sys; rw [hop] at h; exact (beq_iff_eq.1 h).symm) (off_of (by have h := R.flags; rw [hop] at h; exact h)).symm (off_of (by have h := R.minus; rw [hop] at h; exact h)).symm (off_of (by have h := R.not; rw [hop] at h; exact h)).symm (off_of (by have h := R.link; rw [hop] at h; exact h)).symm
  · exact fun W => ⟨rfl, ⟨rfl, rfl⟩⟩
  · exact fun W => isForm_one rfl rfl
set_option maxRecDepth 4000 in
theorem fok17 : FormOk fm17 := by
  have C := (cd_then (cd_num .imm 8 10 12 (by decide) (by decide) (by decide)) (cd_then (cd_num .rn 1 5 5 (by decide) (by decide) (by decide)) (cd_num .rd 1 0 5 (by decide) (by decide) (by decide))))
  refine form_ok fm17 C good17 [(10, 12), (5, 5), (0, 5)] (fun _ => rfl) (by kernel_rfl) (by kernel_rfl) (by kernel_rfl) ?_ ?_ ?_ ?_
  · intro i hR hF
    have R := rightF hR
    obtain ⟨hop, hsub⟩ := isForm_of hF
    have hop : i.op = 18 := hop.symm
    have q_rd : holdsB ⟨0, 31, 1⟩ i.rd = true := R.rd_ hop
    have q_rn : holdsB ⟨0, 31, 1⟩ i.rn = true := R.rn_ hop
    have q_imm : holdsB ⟨0, 32760, 8⟩ i.imm = true := R.imm_ hop
    exact ⟨(fit_num q_imm (by decide) (by decide) (by decide)), ⟨(fit_one q_rn (by decide) (by decide)), (fit_one q_rd (by decide) (by decide))⟩⟩
  · intro i hR hF W hA
    have R := rightF hR
    obtain ⟨hop, hsub⟩ := isForm_of hF
    have hop : i.op = 18 := hop.symm
    have q_rm : holdsB ⟨0, 0, 0⟩ i.rm = true := R.rm_ hop
    have q_ra : holdsB ⟨0, 0, 0⟩ i.ra = true := R.ra_ hop
    have q_imm2 : holdsB ⟨0, 0, 0⟩ i.imm2 = true := R.imm2_ hop
    have q_amount : holdsB ⟨0, 0, 0⟩ i.amount = true := R.amount_ hop
    have q_shift : holdsB ⟨0, 0, 0⟩ i.shift = true := R.shift_ hop
    have q_cond : holdsB ⟨0, 0, 0⟩ i.cond = true := R.cond_ hop
    obtain ⟨a_imm, ⟨a_rn, a_rd⟩⟩ := hA
    exact Ins.ext16 hop.symm (hsub.resolve_right (by decide)) a_rd.symm a_rn.symm (zero_of q_rm).symm (zero_of q_ra).symm a_imm.symm (zero_of q_imm2).symm (zero_of q_amount).symm (zero_of q_shift).symm (zero_of q_cond).symm (show 0 = i.sys by have h := R.sys; rw [hop] at h; exact (beq_iff_eq.1 h).symm) (off_of (by have h := R.flags; rw [hop] at h; exact h)).symm (off_of (by have h := R.minus; rw [hop] at h; exact h)).symm (off_of (by have h := R.not; rw [hop] at h; exact h)).symm (off_of (by have h := R.link; rw [hop] at h; exact h)).symm
  · exact fun W => ⟨rfl, ⟨rfl, rfl⟩⟩
  · exact fun W => isForm_one rfl rfl
set_option maxRecDepth 4000 in
theorem fok18 : FormOk fm18 := by
  have C := (cd_then (cd_num .amount 3 12 1 (by decide) (by decide) (by decide)) (cd_then (cd_num .rm 1 16 5 (by decide) (by decide) (by decide)) (cd_then (cd_num .rn 1 5 5 (by decide) (by decide) (by decide)) (cd_num .rd 1 0 5 (by decide) (by decide) (by decide)))))
  refine form_ok fm18 C good18 [(12, 1), (16, 5), (5, 5), (0, 5)] (fun _ => rfl) (by kernel_rfl) (by kernel_rfl) (by kernel_rfl) ?_ ?_ ?_ ?_
  · intro i hR hF
    have R := rightF hR
    obtain ⟨hop, hsub⟩ := isForm_of hF
    have hop : i.op = 19 := hop.symm
    have q_rd : holdsB ⟨0, 31, 1⟩ i.rd = true := R.rd_ hop
    have q_rn : holdsB ⟨0, 31, 1⟩ i.rn = true := R.rn_ hop
    have q_rm : holdsB ⟨0, 31, 1⟩ i.rm = true := R.rm_ hop
    have q_amount : holdsB ⟨0, 3, 3⟩ i.amount = true := R.amount_ hop
    exact ⟨(fit_num q_amount (by decide) (by decide) (by decide)), ⟨(fit_one q_rm (by decide) (by decide)), ⟨(fit_one q_rn (by decide) (by decide)), (fit_one q_rd (by decide) (by decide))⟩⟩⟩
  · intro i hR hF W hA
    have R := rightF hR
    obtain ⟨hop, hsub⟩ := isForm_of hF
    have hop : i.op = 19 := hop.symm
    have q_ra : holdsB ⟨0, 0, 0⟩ i.ra = true := R.ra_ hop
    have q_imm : holdsB ⟨0, 0, 0⟩ i.imm = true := R.imm_ hop
    have q_imm2 : holdsB ⟨0, 0, 0⟩ i.imm2 = true := R.imm2_ hop
    have q_shift : holdsB ⟨0, 0, 0⟩ i.shift = true := R.shift_ hop
    have q_cond : holdsB ⟨0, 0, 0⟩ i.cond = true := R.cond_ hop
    obtain ⟨a_amount, ⟨a_rm, ⟨a_rn, a_rd⟩⟩⟩ := hA
    exact Ins.ext16 hop.symm (hsub.resolve_right (by decide)) a_rd.symm a_rn.symm a_rm.symm (zero_of q_ra).symm (zero_of q_imm).symm (zero_of q_imm2).symm a_amount.symm (zero_of q_shift).symm (zero_of q_cond).symm (show 0 = i.sys by have h := R.sys; rw [hop] at h; exact (beq_iff_eq.1 h).symm) (off_of (by have h := R.flags; rw [hop] at h; exact h)).symm (off_of (by have h := R.minus; rw [hop] at h; exact h)).symm (off_of (by have h := R.not; rw [hop] at h; exact h)).symm (off_of (by have h := R.link; rw [hop] at h; exact h)).symm
  · exact fun W => ⟨rfl, ⟨rfl, ⟨rfl, rfl⟩⟩⟩
  · exact fun W => isForm_one rfl rfl
set_option maxRecDepth 4000 in
theorem fok19 : FormOk fm19 := by
  have C := (cd_then (cd_num .amount 3 12 1 (by decide) (by decide) (by decide)) (cd_then (cd_num .rm 1 16 5 (by decide) (by decide) (by decide)) (cd_then (cd_num .rn 1 5 5 (by decide) (by decide) (by decide)) (cd_num .rd 1 0 5 (by decide) (by decide) (by decide)))))
  refine form_ok fm19 C good19 [(12, 1), (16, 5), (5, 5), (0, 5)] (fun _ => rfl) (by kernel_rfl) (by kernel_rfl) (by kernel_rfl) ?_ ?_ ?_ ?_
  · intro i hR hF
    have R := rightF hR
    obtain ⟨hop, hsub⟩ := isForm_of hF
    have hop : i.op = 20 := hop.symm
    have q_rd : holdsB ⟨0, 31, 1⟩ i.rd = true := R.rd_ hop
    have q_rn : holdsB ⟨0, 31, 1⟩ i.rn = true := R.rn_ hop
    have q_rm : holdsB ⟨0, 31, 1⟩ i.rm = true := R.rm_ hop
    have q_amount : holdsB ⟨0, 3, 3⟩ i.amount = true := R.amount_ hop
    exact ⟨(fit_num q_amount (by decide) (by decide) (by decide)), ⟨(fit_one q_rm (by decide) (by decide)), ⟨(fit_one q_rn (by decide) (by decide)), (fit_one q_rd (by decide) (by decide))⟩⟩⟩
  · intro i hR hF W hA
    have R := rightF hR
    obtain ⟨hop, hsub⟩ := isForm_of hF
    have hop : i.op = 20 := hop.symm
    have q_ra : holdsB ⟨0, 0, 0⟩ i.ra = true := R.ra_ hop
    have q_imm : holdsB ⟨0, 0, 0⟩ i.imm = true := R.imm_ hop
    have q_imm2 : holdsB ⟨0, 0, 0⟩ i.imm2 = true := R.imm2_ hop
    have q_shift : holdsB ⟨0, 0, 0⟩ i.shift = true := R.shift_ hop
    have q_cond : holdsB ⟨0, 0, 0⟩ i.cond = true := R.cond_ hop
    obtain ⟨a_amount, ⟨a_rm, ⟨a_rn, a_rd⟩⟩⟩ := hA
    exact Ins.ext16 hop.symm (hsub.resolve_right (by decide)) a_rd.symm a_rn.symm a_rm.symm (zero_of q_ra).symm (zero_of q_imm).symm (zero_of q_imm2).symm a_amount.symm (zero_of q_shift).symm (zero_of q_cond).symm (show 0 = i.sys by have h := R.sys; rw [hop] at h; exact (beq_iff_eq.1 h).symm) (off_of (by have h := R.flags; rw [hop] at h; exact h)).symm (off_of (by have h := R.minus; rw [hop] at h; exact h)).symm (off_of (by have h := R.not; rw [hop] at h; exact h)).symm (off_of (by have h := R.link; rw [hop] at h; exact h)).symm
  · exact fun W => ⟨rfl, ⟨rfl, ⟨rfl, rfl⟩⟩⟩
  · exact fun W => isForm_one rfl rfl
set_option maxRecDepth 4000 in
theorem fok20 : FormOk fm20 := by
  have C := (cd_then (cd_num .rn 1 5 5 (by decide) (by decide) (by decide)) (cd_num .rd 1 0 5 (by decide) (by decide) (by decide)))
  refine form_ok fm20 C good20 [(5, 5), (0, 5)] (fun _ => rfl) (by kernel_rfl) (by kernel_rfl) (by kernel_rfl) ?_ ?_ ?_ ?_
  · intro i hR hF
    have R := rightF hR
    obtain ⟨hop, hsub⟩ := isForm_of hF
    have hop : i.op = 21 := hop.symm
    have q_rd : holdsB ⟨0, 31, 1⟩ i.rd = true := R.rd_ hop
    have q_rn : holdsB ⟨0, 31, 1⟩ i.rn = true := R.rn_ hop
    exact ⟨(fit_one q_rn (by decide) (by decide)), (fit_one q_rd (by decide) (by decide))⟩
  · intro i hR hF W hA
    have R := rightF hR
    obtain ⟨hop, hsub⟩ := isForm_of hF
    have hop : i.op = 21 := hop.symm
    have q_rm : holdsB ⟨0, 0, 0⟩ i.rm = true := R.rm_ hop
    have q_ra : holdsB ⟨0, 0, 0⟩ i.ra = true := R.ra_ hop
    have q_imm : holdsB ⟨0, 0, 0⟩ i.imm = true := R.imm_ hop
    have q_imm2 : holdsB ⟨0, 0, 0⟩ i.imm2 = true := R.imm2_ hop
    have q_amount : holdsB ⟨0, 0, 0⟩ i.amount = true := R.amount_ hop
    have q_shift : holdsB ⟨0, 0, 0⟩ i.shift = true := R.shift_ hop
    have q_cond : holdsB ⟨0, 0, 0⟩ i.cond = true := R.cond_ hop
    obtain ⟨a_rn, a_rd⟩ := hA
    exact Ins.ext16 hop.symm (hsub.resolve_right (by decide)) a_rd.symm a_rn.symm (zero_of q_rm).symm (zero_of q_ra).symm (zero_of q_imm).symm (zero_of q_imm2).symm (zero_of q_amount).symm (zero_of q_shift).symm (zero_of q_cond).symm (show 0 = i.sys by have h := R.sys; rw [hop] at h; exact (beq_iff_eq.1 h).symm) (off_of (by have h := R.flags; rw [hop] at h; exact h)).symm (off_of (by have h := R.minus; rw [hop] at h; exact h)).symm (off_of (by have h := R.not; rw [hop] at h; exact h)).symm (off_of (by have h := R.link; rw [hop] at h; exact h)).symm
  · exact fun W => ⟨rfl, rfl⟩
  · exact fun W => isForm_one rfl rfl
set_option maxRecDepth 4000 in
theorem fok21 : FormOk fm21 := by
  have C := (cd_then (cd_num .rn 1 5 5 (by decide) (by decide) (by decide)) (cd_num .rd 1 0 5 (by decide) (by decide) (by decide)))
  refine form_ok fm21 C good21 [(5, 5), (0, 5)] (fun _ => rfl) (by kernel_rfl) (by kernel_rfl) (by kernel_rfl) ?_ ?_ ?_ ?_
  · intro i hR hF
    have R := rightF hR
    obtain ⟨hop, hsub⟩ := isForm_of hF
    have hop : i.op = 21 := hop.symm
    have q_rd : holdsB ⟨0, 31, 1⟩ i.rd = true := R.rd_ hop
    have q_rn : holdsB ⟨0, 31, 1⟩ i.rn = true := R.rn_ hop
    exact ⟨(fit_one q_rn (by decide) (by decide)), (fit_one q_rd (by decide) (by decide))⟩
  · intro i hR hF W hA
    have R := rightF hR
    obtain ⟨hop, hsub⟩ := isForm_of hF
    have hop : i.op = 21 := hop.symm
    have q_rm : holdsB ⟨0, 0, 0⟩ i.rm = true := R.rm_ hop
    have q_ra : holdsB ⟨0, 0, 0⟩ i.ra = true := R.ra_ hop
    have q_imm : holdsB ⟨0, 0, 0⟩ i.imm = true := R.imm_ hop
    have q_imm2 : holdsB ⟨0, 0, 0⟩ i.imm2 = true := R.imm2_ hop
    have q_amount : holdsB ⟨0, 0, 0⟩ i.amount = true := R.amount_ hop
    have q_shift : holdsB ⟨0, 0, 0⟩ i.shift = true := R.shift_ hop
    have q_cond : holdsB ⟨0, 0, 0⟩ i.cond = true := R.cond_ hop
    obtain ⟨a_rn, a_rd⟩ := hA
    exact Ins.ext16 hop.symm (hsub.resolve_right (by decide)) a_rd.symm a_rn.symm (zero_of q_rm).symm (zero_of q_ra).symm (zero_of q_imm).symm (zero_of q_imm2).symm (zero_of q_amount).symm (zero_of q_shift).symm (zero_of q_cond).symm (show 0 = i.sys by have h := R.sys; rw [hop] at h; exact (beq_iff_eq.1 h).symm) (off_of (by have h := R.flags; rw [hop] at h; exact h)).symm (off_of (by have h := R.minus; rw [hop] at h; exact h)).symm (off_of (by have h := R.not; rw [hop] at h; exact h)).symm (off_of (by have h := R.link; rw [hop] at h; exact h)).symm
  · exact fun W => ⟨rfl, rfl⟩
  · exact fun W => isForm_one rfl rfl
set_option maxRecDepth 4000 in
theorem fok22 : FormOk fm22 := by
  have C := (cd_then (cd_num .rn 1 5 5 (by decide) (by decide) (by decide)) (cd_num .rd 1 0 5 (by decide) (by decide) (by decide)))
  refine form_ok fm22 C good22 [(5, 5), (0, 5)] (fun _ => rfl) (by kernel_rfl) (by kernel_rfl) (by kernel_rfl) ?_ ?_ ?_ ?_
  · intro i hR hF
    have R := rightF hR
    obtain ⟨hop, hsub⟩ := isForm_of hF
    have hop : i.op = 22 := hop.symm
    have q_rd : holdsB ⟨0, 31, 1⟩ i.rd = true := R.rd_ hop
    have q_rn : holdsB ⟨0, 31, 1⟩ i.rn = true := R.rn_ hop
    exact ⟨(fit_one q_rn (by decide) (by decide)), (fit_one q_rd (by decide) (by decide))⟩
  · intro i hR hF W hA
    have R := rightF hR
    obtain ⟨hop, hsub⟩ := isForm_of hF
    have hop : i.op = 22 := hop.symm
    have q_rm : holdsB ⟨0, 0, 0⟩ i.rm = true := R.rm_ hop
    have q_ra : holdsB ⟨0, 0, 0⟩ i.ra = true := R.ra_ hop
    have q_imm : holdsB ⟨0, 0, 0⟩ i.imm = true := R.imm_ hop
    have q_imm2 : holdsB ⟨0, 0, 0⟩ i.imm2 = true := R.imm2_ hop
    have q_amount : holdsB ⟨0, 0, 0⟩ i.amount = true := R.amount_ hop
    have q_shift : holdsB ⟨0, 0, 0⟩ i.shift = true := R.shift_ hop
    have q_cond : holdsB ⟨0, 0, 0⟩ i.cond = true := R.cond_ hop
    obtain ⟨a_rn, a_rd⟩ := hA
    exact Ins.ext16 hop.symm (hsub.resolve_right (by decide)) a_rd.symm a_rn.symm (zero_of q_rm).symm (zero_of q_ra).symm (zero_of q_imm).symm (zero_of q_imm2).symm (zero_of q_amount).symm (zero_of q_shift).symm (zero_of q_cond).symm (show 0 = i.sys by have h := R.sys; rw [hop] at h; exact (beq_iff_eq.1 h).symm) (off_of (by have h := R.flags; rw [hop] at h; exact h)).symm (off_of (by have h := R.minus; rw [hop] at h; exact h)).symm (off_of (by have h := R.not; rw [hop] at h; exact h)).symm (off_of (by have h := R.link; rw [hop] at h; exact h)).symm
  · exact fun W => ⟨rfl, rfl⟩
  · exact fun W => isForm_one rfl rfl
set_option maxRecDepth 4000 in
theorem fok23 : FormOk fm23 := by
  have C := (cd_then (cd_num .sub 1 15 1 (by decide) (by decide) (by decide)) (cd_then (cd_num .rn 1 5 5 (by decide) (by decide) (by decide)) (cd_num .rd 1 0 5 (by decide) (by decide) (by decide))))
  refine form_ok fm23 C good23 [(15, 1), (5, 5), (0, 5)] (fun _ => rfl) (by kernel_rfl) (by kernel_rfl) (by kernel_rfl) ?_ ?_ ?_ ?_
  · intro i hR hF
    have R := rightF hR
    obtain ⟨hop, hsub⟩ := isForm_of hF
    have hop : i.op = 23 := hop.symm
    have q_rd : holdsB ⟨0, 31, 1⟩ i.rd = true := R.rd_ hop
    have q_rn : holdsB ⟨0, 31, 1⟩ i.rn = true := R.rn_ hop
    have q_sub : holdsB ⟨0, 1, 1⟩ i.sub = true := R.sub_ hop
    exact ⟨(fit_one q_sub (by decide) (by decide)), ⟨(fit_one q_rn (by decide) (by decide)), (fit_one q_rd (by decide) (by decide))⟩⟩
  · intro i hR hF W hA
    have R := rightF hR
    obtain ⟨hop, hsub⟩ := isForm_of hF
    have hop : i.op = 23 := hop.symm
    have q_rm : holdsB ⟨0, 0, 0⟩ i.rm = true := R.rm_ hop
    have q_ra : holdsB ⟨0, 0, 0⟩ i.ra = true := R.ra_ hop
    have q_imm : holdsB ⟨0, 0, 0⟩ i.imm = true := R.imm_ hop
    have q_imm2 : holdsB ⟨0, 0, 0⟩ i.imm2 = true := R.imm2_ hop
    have q_amount : holdsB ⟨0, 0, 0⟩ i.amount = true := R.amount_ hop
    have q_shift : holdsB ⟨0, 0, 0⟩ i.shift = true := R.shift_ hop
    have q_cond : holdsB ⟨0, 0, 0⟩ i.cond = true := R.cond_ hop
    obtain ⟨a_sub, ⟨a_rn, a_rd⟩⟩ := hA
    exact Ins.ext16 hop.symm a_sub.symm a_rd.symm a_rn.symm (zero_of q_rm).symm (zero_of q_ra).symm (zero_of q_imm).symm (zero_of q_imm2).symm (zero_of q_amount).symm (zero_of q_shift).symm (zero_of q_cond).symm (show 0 = i.sys by have h := R.sys; rw [hop] at h; exact (beq_iff_eq.1 h).symm) (off_of (by have h := R.flags; rw [hop] at h; exact h)).symm (off_of (by have h := R.minus; rw [hop] at h; exact h)).symm (off_of (by have h := R.not; rw [hop] at h; exact h)).symm (off_of (by have h := R.link; rw [hop] at h; exact h)).symm
  · exact fun W => ⟨rfl, ⟨rfl, rfl⟩⟩
  · exact fun W => isForm_each rfl rfl
set_option maxRecDepth 4000 in
theorem fok24 : FormOk fm24 := by
  have C := (cd_then (cd_num .sub 1 15 1 (by decide) (by decide) (by decide)) (cd_then (cd_num .rm 1 16 5 (by decide) (by decide) (by decide)) (cd_then (cd_num .rn 1 5 5 (by decide) (by decide) (by decide)) (cd_num .rd 1 0 5 (by decide) (by decide) (by decide)))))
  refine form_ok fm24 C good24 [(15, 1), (16, 5), (5, 5), (0, 5)] (fun _ => rfl) (by kernel_rfl) (by kernel_rfl) (by kernel_rfl) ?_ ?_ ?_ ?_
  · intro i hR hF
    have R := rightF hR
    obtain ⟨hop, hsub⟩ := isForm_of hF
    have hop : i.op = 24 := hop.symm
    have q_rd : holdsB ⟨0, 31, 1⟩ i.rd = true := R.rd_ hop
    have q_rn : holdsB ⟨0, 31, 1⟩ i.rn = true := R.rn_ hop
    have q_rm : holdsB ⟨0, 31, 1⟩ i.rm = true := R.rm_ hop
    have q_sub : holdsB ⟨0, 1, 1⟩ i.sub = true := R.sub_ hop
    exact ⟨(fit_one q_sub (by decide) (by decide)), ⟨(fit_one q_rm (by decide) (by decide)), ⟨(fit_one q_rn (by decide) (by decide)), (fit_one q_rd (by decide) (by decide))⟩⟩⟩
  · intro i hR hF W hA
    have R := rightF hR
    obtain ⟨hop, hsub⟩ := isForm_of hF
    have hop : i.op = 24 := hop.symm
    have q_ra : holdsB ⟨0, 0, 0⟩ i.ra = true := R.ra_ hop
    have q_imm : holdsB ⟨0, 0, 0⟩ i.imm = true := R.imm_ hop
    have q_imm2 : holdsB ⟨0, 0, 0⟩ i.imm2 = true := R.imm2_ hop
    have q_amount : holdsB ⟨0, 0, 0⟩ i.amount = true := R.amount_ hop
    have q_shift : holdsB ⟨0, 0, 0⟩ i.shift = true := R.shift_ hop
    have q_cond : holdsB ⟨0, 0, 0⟩ i.cond = true := R.cond_ hop
    obtain ⟨a_sub, ⟨a_rm, ⟨a_rn, a_rd⟩⟩⟩ := hA
    exact Ins.ext16 hop.symm a_sub.symm a_rd.symm a_rn.symm a_rm.symm (zero_of q_ra).symm (zero_of q_imm).symm (zero_of q_imm2).symm (zero_of q_amount).symm (zero_of q_shift).symm (zero_of q_cond).symm (show 0 = i.sys by have h := R.sys; rw [hop] at h; exact (beq_iff_eq.1 h).symm) (off_of (by have h := R.flags; rw [hop] at h; exact h)).symm (off_of (by have h := R.minus; rw [hop] at h; exact h)).symm (off_of (by have h := R.not; rw [hop] at h; exact h)).symm (off_of (by have h := R.link; rw [hop] at h; exact h)).symm
  · exact fun W => ⟨rfl, ⟨rfl, ⟨rfl, rfl⟩⟩⟩
  · exact fun W => isForm_each rfl rfl
set_option maxRecDepth 4000 in
theorem fok25 : FormOk fm25 := by
  have C := cd_nothing
  refine form_ok fm25 C good25 [] (fun _ => rfl) (by kernel_rfl) (by kernel_rfl) (by kernel_rfl) ?_ ?_ ?_ ?_
  · intro i hR hF
    have R := rightF hR
    obtain ⟨hop, hsub⟩ := isForm_of hF
    have hop : i.op = 25 := hop.symm
    exact trivial
  · intro i hR hF W hA
    have R := rightF hR
    obtain ⟨hop, hsub⟩ := isForm_of hF
    have hop : i.op = 25 := hop.symm
    have q_rd : holdsB ⟨0, 0, 0⟩ i.rd = true := R.rd_ hop
    have q_rn : holdsB ⟨0, 0, 0⟩ i.rn = true := R.rn_ hop
    have q_rm : holdsB ⟨0, 0, 0⟩ i.rm = true := R.rm_ hop
    have q_ra : holdsB ⟨0, 0, 0⟩ i.ra = true := R.ra_ hop
    have q_imm : holdsB ⟨0, 0, 0⟩ i.imm = true := R.imm_ hop
    have q_imm2 : holdsB ⟨0, 0, 0⟩ i.imm2 = true := R.imm2_ hop
    have q_amount : holdsB ⟨0, 0, 0⟩ i.amount = true := R.amount_ hop
    have q_shift : holdsB ⟨0, 0, 0⟩ i.shift = true := R.shift_ hop
    have q_cond : holdsB ⟨0, 0, 0⟩ i.cond = true := R.cond_ hop
    have _ := hA
    exact Ins.ext16 hop.symm (hsub.resolve_right (by decide)) (zero_of q_rd).symm (zero_of q_rn).symm (zero_of q_rm).symm (zero_of q_ra).symm (zero_of q_imm).symm (zero_of q_imm2).symm (zero_of q_amount).symm (zero_of q_shift).symm (zero_of q_cond).symm (show 0 = i.sys by have h := R.sys; rw [hop] at h; exact (beq_iff_eq.1 h).symm) (off_of (by have h := R.flags; rw [hop] at h; exact h)).symm (off_of (by have h := R.minus; rw [hop] at h; exact h)).symm (off_of (by have h := R.not; rw [hop] at h; exact h)).symm (off_of (by have h := R.link; rw [hop] at h; exact h)).symm
  · exact fun W => trivial
  · exact fun W => isForm_one rfl rfl
set_option maxRecDepth 4000 in
theorem fok26 : FormOk fm26 := by
  have C := (cd_num .imm 1 8 2 (by decide) (by decide) (by decide))
  refine form_ok fm26 C good26 [(8, 2)] (fun _ => rfl) (by kernel_rfl) (by kernel_rfl) (by kernel_rfl) ?_ ?_ ?_ ?_
  · intro i hR hF
    have R := rightF hR
    obtain ⟨hop, hsub⟩ := isForm_of hF
    have hop : i.op = 26 := hop.symm
    have q_imm : holdsB ⟨1, 3, 1⟩ i.imm = true := R.imm_ hop
    exact (fit_one q_imm (by decide) (by decide))
  · intro i hR hF W hA
    have R := rightF hR
    obtain ⟨hop, hsub⟩ := isForm_of hF
    have hop : i.op = 26 := hop.symm
    have q_rd : holdsB ⟨0, 0, 0⟩ i.rd = true := R.rd_ hop
    have q_rn : holdsB ⟨0, 0, 0⟩ i.rn = true := R.rn_ hop
    have q_rm : holdsB ⟨0, 0, 0⟩ i.rm = true := R.rm_ hop
    have q_ra : holdsB ⟨0, 0, 0⟩ i.ra = true := R.ra_ hop
    have q_imm2 : holdsB ⟨0, 0, 0⟩ i.imm2 = true := R.imm2_ hop
    have q_amount : holdsB ⟨0, 0, 0⟩ i.amount = true := R.amount_ hop
    have q_shift : holdsB ⟨0, 0, 0⟩ i.shift = true := R.shift_ hop
    have q_cond : holdsB ⟨0, 0, 0⟩ i.cond = true := R.cond_ hop
    have a_imm := hA
    exact Ins.ext16 hop.symm (hsub.resolve_right (by decide)) (zero_of q_rd).symm (zero_of q_rn).symm (zero_of q_rm).symm (zero_of q_ra).symm a_imm.symm (zero_of q_imm2).symm (zero_of q_amount).symm (zero_of q_shift).symm (zero_of q_cond).symm (show 0 = i.sys by have h := R.sys; rw [hop] at h; exact (beq_iff_eq.1 h).symm) (off_of (by have h := R.flags; rw [hop] at h; exact h)).symm (off_of (by have h := R.minus; rw [hop] at h; exact h)).symm (off_of (by have h := R.not; rw [hop] at h; exact h)).symm (off_of (by have h := R.link; rw [hop] at h; exact h)).symm
  · exact fun W => rfl
  · exact fun W => isForm_one rfl rfl
set_option maxRecDepth 4000 in
theorem fok27 : FormOk fm27 := by
  have C := (cd_num .imm 1 8 2 (by decide) (by decide) (by decide))
  refine form_ok fm27 C good27 [(8, 2)] (fun _ => rfl) (by kernel_rfl) (by kernel_rfl) (by kernel_rfl) ?_ ?_ ?_ ?_
  · intro i hR hF
    have R := rightF hR
    obtain ⟨hop, hsub⟩ := isForm_of hF
    have hop : i.op = 26 := hop.symm
    have q_imm : holdsB ⟨1, 3, 1⟩ i.imm = true := R.imm_ hop
    exact (fit_one q_imm (by decide) (by decide))
  · intro i hR hF W hA
    have R := rightF hR
    obtain ⟨hop, hsub⟩ := isForm_of hF
    have hop : i.op = 26 := hop.symm
    have q_rd : holdsB ⟨0, 0, 0⟩ i.rd = true := R.rd_ hop
    have q_rn : holdsB ⟨0, 0, 0⟩ i.rn = true := R.rn_ hop
    have q_rm : holdsB ⟨0, 0, 0⟩ i.rm = true := R.rm_ hop
    have q_ra : holdsB ⟨0, 0, 0⟩ i.ra = true := R.ra_ hop
    have q_imm2 : holdsB ⟨0, 0, 0⟩ i.imm2 = true := R.imm2_ hop
    have q_amount : holdsB ⟨0, 0, 0⟩ i.amount = true := R.amount_ hop
    have q_shift : holdsB ⟨0, 0, 0⟩ i.shift = true := R.shift_ hop
    have q_cond : holdsB ⟨0, 0, 0⟩ i.cond = true := R.cond_ hop
    have a_imm := hA
    exact Ins.ext16 hop.symm (hsub.resolve_right (by decide)) (zero_of q_rd).symm (zero_of q_rn).symm (zero_of q_rm).symm (zero_of q_ra).symm a_imm.symm (zero_of q_imm2).symm (zero_of q_amount).symm (zero_of q_shift).symm (zero_of q_cond).symm (show 0 = i.sys by have h := R.sys; rw [hop] at h; exact (beq_iff_eq.1 h).symm) (off_of (by have h := R.flags; rw [hop] at h; exact h)).symm (off_of (by have h := R.minus; rw [hop] at h; exact h)).symm (off_of (by have h := R.not; rw [hop] at h; exact h)).symm (off_of (by have h := R.link; rw [hop] at h; exact h)).symm
  · exact fun W => rfl
  · exact fun W => isForm_one rfl rfl
set_option maxRecDepth 4000 in
theorem fok28 : FormOk fm28 := by
  have C := cd_nothing
  refine form_ok fm28 C good28 [] (fun _ => rfl) (by kernel_rfl) (by kernel_rfl) (by kernel_rfl) ?_ ?_ ?_ ?_
  · intro i hR hF
    have R := rightF hR
    obtain ⟨hop, hsub⟩ := isForm_of hF
    have hop : i.op = 27 := hop.symm
    exact trivial
  · intro i hR hF W hA
    have R := rightF hR
    obtain ⟨hop, hsub⟩ := isForm_of hF
    have hop : i.op = 27 := hop.symm
    have q_rd : holdsB ⟨0, 0, 0⟩ i.rd = true := R.rd_ hop
    have q_rn : holdsB ⟨0, 0, 0⟩ i.rn = true := R.rn_ hop
    have q_rm : holdsB ⟨0, 0, 0⟩ i.rm = true := R.rm_ hop
    have q_ra : holdsB ⟨0, 0, 0⟩ i.ra = true := R.ra_ hop
    have q_imm : holdsB ⟨0, 0, 0⟩ i.imm = true := R.imm_ hop
    have q_imm2 : holdsB ⟨0, 0, 0⟩ i.imm2 = true := R.imm2_ hop
    have q_amount : holdsB ⟨0, 0, 0⟩ i.amount = true := R.amount_ hop
    have q_shift : holdsB ⟨0, 0, 0⟩ i.shift = true := R.shift_ hop
    have q_cond : holdsB ⟨0, 0, 0⟩ i.cond = true := R.cond_ hop
    have _ := hA
    exact Ins.ext16 hop.symm (hsub.resolve_right (by decide)) (zero_of q_rd).symm (zero_of q_rn).symm (zero_of q_rm).symm (zero_of q_ra).symm (zero_of q_imm).symm (zero_of q_imm2).symm (zero_of q_amount).symm (zero_of q_shift).symm (zero_of q_cond).symm (show 0 = i.sys by have h := R.sys; rw [hop] at h; exact (beq_iff_eq.1 h).symm) (off_of (by have h := R.flags; rw [hop] at h; exact h)).symm (off_of (by have h := R.minus; rw [hop] at h; exact h)).symm (off_of (by have h := R.not; rw [hop] at h; exact h)).symm (off_of (by have h := R.link; rw [hop] at h; exact h)).symm
  · exact fun W => trivial
  · exact fun W => isForm_one rfl rfl
set_option maxRecDepth 4000 in
theorem fok29 : FormOk fm29 := by
  have C := (cd_num .rd 1 0 5 (by decide) (by decide) (by decide))
  refine form_ok fm29 C good29 [(0, 5)] (fun _ => rfl) (by kernel_rfl) (by kernel_rfl) (by kernel_rfl) ?_ ?_ ?_ ?_
  · intro i hR hF
    have R := rightF hR
    obtain ⟨hop, hsub⟩ := isForm_of hF
    have hop : i.op = 28 := hop.symm
    have q_rd : holdsB ⟨0, 31, 1⟩ i.rd = true := R.rd_ hop
    exact (fit_one q_rd (by decide) (by decide))
  · intro i hR hF W hA
    have R := rightF hR
    obtain ⟨hop, hsub⟩ := isForm_of hF
    have hop : i.op = 28 := hop.symm
    have q_rn : holdsB ⟨0, 0, 0⟩ i.rn = true := R.rn_ hop
    have q_rm : holdsB ⟨0, 0, 0⟩ i.rm = true := R.rm_ hop
    have q_ra : holdsB ⟨0, 0, 0⟩ i.ra = true := R.ra_ hop
    have q_imm : holdsB ⟨0, 0, 0⟩ i.imm = true := R.imm_ hop
    have q_imm2 : holdsB ⟨0, 0, 0⟩ i.imm2 = true := R.imm2_ hop
    have q_amount : holdsB ⟨0, 0, 0⟩ i.amount = true := R.amount_ hop
    have q_shift : holdsB ⟨0, 0, 0⟩ i.shift = true := R.shift_ hop
    have q_cond : holdsB ⟨0, 0, 0⟩ i.cond = true := R.cond_ hop
    have a_rd := hA
    exact Ins.ext16 hop.symm (hsub.resolve_right (by decide)) a_rd.symm (zero_of q_rn).symm (zero_of q_rm).symm (zero_of q_ra).symm (zero_of q_imm).symm (zero_of q_imm2).symm (zero_of q_amount).symm (zero_of q_shift).symm (zero_of q_cond).symm (show 0 = i.sys by have h := R.sys; rw [hop] at h; exact (beq_iff_eq.1 h).symm) (off_of (by have h := R.flags; rw [hop] at h; exact h)).symm (off_of (by have h := R.minus; rw [hop] at h; exact h)).symm (off_of (by have h := R.not; rw [hop] at h; exact h)).symm (off_of (by have h := R.link; rw [hop] at h; exact h)).symm
  · exact fun W => rfl
  · exact fun W => isForm_one rfl rfl
set_option maxRecDepth 4000 in
theorem fok30 : FormOk fm30 := by
  have C := (cd_num .rd 1 0 5 (by decide) (by decide) (by decide))
  refine form_ok fm30 C good30 [(0, 5)] (fun _ => rfl) (by kernel_rfl) (by kernel_rfl) (by kernel_rfl) ?_ ?_ ?_ ?_
  · intro i hR hF
    have R := rightF hR
    obtain ⟨hop, hsub⟩ := isForm_of hF
    have hop : i.op = 30 := hop.symm
    have q_rd : holdsB ⟨0, 31, 1⟩ i.rd = true := R.rd_ hop
    exact (fit_one q_rd (by decide) (by decide))
  · intro i hR hF W hA
    have R := rightF hR
    obtain ⟨hop, hsub⟩ := isForm_of hF
    have hop : i.op = 30 := hop.symm
    have q_rn : holdsB ⟨0, 0, 0⟩ i.rn = true := R.rn_ hop
    have q_rm : holdsB ⟨0, 0, 0⟩ i.rm = true := R.rm_ hop
    have q_ra : holdsB ⟨0, 0, 0⟩ i.ra = true := R.ra_ hop
    have q_imm : holdsB ⟨0, 0, 0⟩ i.imm = true := R.imm_ hop
    have q_imm2 : holdsB ⟨0, 0, 0⟩ i.imm2 = true := R.imm2_ hop
    have q_amount : holdsB ⟨0, 0, 0⟩ i.amount = true := R.amount_ hop
    have q_shift : holdsB ⟨0, 0, 0⟩ i.shift = true := R.shift_ hop
    have q_cond : holdsB ⟨0, 0, 0⟩ i.cond = true := R.cond_ hop
    have a_rd := hA
    exact Ins.ext16 hop.symm (hsub.resolve_right (by decide)) a_rd.symm (zero_of q_rn).symm (zero_of q_rm).symm (zero_of q_ra).symm (zero_of q_imm).symm (zero_of q_imm2).symm (zero_of q_amount).symm (zero_of q_shift).symm (zero_of q_cond).symm (show 0 = i.sys by have h := R.sys; rw [hop] at h; exact (beq_iff_eq.1 h).symm) (off_of (by have h := R.flags; rw [hop] at h; exact h)).symm (off_of (by have h := R.minus; rw [hop] at h; exact h)).symm (off_of (by have h := R.not; rw [hop] at h; exact h)).symm (off_of (by have h := R.link; rw [hop] at h; exact h)).symm
  · exact fun W => rfl
  · exact fun W => isForm_one rfl rfl
set_option maxRecDepth 4000 in
theorem fok31 : FormOk fm31 := by
  have C := cd_nothing
  refine form_ok fm31 C good31 [] (fun _ => rfl) (by kernel_rfl) (by kernel_rfl) (by kernel_rfl) ?_ ?_ ?_ ?_
  · intro i hR hF
    have R := rightF hR
    obtain ⟨hop, hsub⟩ := isForm_of hF
    have hop : i.op = 29 := hop.symm
    exact trivial
  · intro i hR hF W hA
    have R := rightF hR
    obtain ⟨hop, hsub⟩ := isForm_of hF
    have hop : i.op = 29 := hop.symm
    have q_rd : holdsB ⟨0, 0, 0⟩ i.rd = true := R.rd_ hop
    have q_rn : holdsB ⟨0, 0, 0⟩ i.rn = true := R.rn_ hop
    have q_rm : holdsB ⟨0, 0, 0⟩ i.rm = true := R.rm_ hop
    have q_ra : holdsB ⟨0, 0, 0⟩ i.ra = true := R.ra_ hop
    have q_imm : holdsB ⟨0, 0, 0⟩ i.imm = true := R.imm_ hop
    have q_imm2 : holdsB ⟨0, 0, 0⟩ i.imm2 = true := R.imm2_ hop
    have q_amount : holdsB ⟨0, 0, 0⟩ i.amount = true := R.amount_ hop
    have q_shift : holdsB ⟨0, 0, 0⟩ i.shift = true := R.shift_ hop
    have q_cond : holdsB ⟨0, 0, 0⟩ i.cond = true := R.cond_ hop
    have _ := hA
    exact Ins.ext16 hop.symm (hsub.resolve_right (by decide)) (zero_of q_rd).symm (zero_of q_rn).symm (zero_of q_rm).symm (zero_of q_ra).symm (zero_of q_imm).symm (zero_of q_imm2).symm (zero_of q_amount).symm (zero_of q_shift).symm (zero_of q_cond).symm (show 0 = i.sys by have h := R.sys; rw [hop] at h; exact (beq_iff_eq.1 h).symm) (off_of (by have h := R.flags; rw [hop] at h; exact h)).symm (off_of (by have h := R.minus; rw [hop] at h; exact h)).symm (off_of (by have h := R.not; rw [hop] at h; exact h)).symm (off_of (by have h := R.link; rw [hop] at h; exact h)).symm
  · exact fun W => trivial
  · exact fun W => isForm_one rfl rfl
set_option maxRecDepth 4000 in
theorem fok32 : FormOk fm32 := by
  have C := (cd_then (cd_num .sys 1 5 15 (by decide) (by decide) (by decide)) (cd_num .rd 1 0 5 (by decide) (by decide) (by decide)))
  refine form_ok fm32 C good32 [(5, 15), (0, 5)] (fun _ => rfl) (by kernel_rfl) (by kernel_rfl) (by kernel_rfl) ?_ ?_ ?_ ?_
  · intro i hR hF
    have R := rightF hR
    obtain ⟨hop, hsub⟩ := isForm_of hF
    have hop : i.op = 31 := hop.symm
    have q_rd : holdsB ⟨0, 31, 1⟩ i.rd = true := R.rd_ hop
    exact ⟨(sys_of (by have h := R.sys; rw [hop] at h; exact h)), (fit_one q_rd (by decide) (by decide))⟩
  · intro i hR hF W hA
    have R := rightF hR
    obtain ⟨hop, hsub⟩ := isForm_of hF
    have hop : i.op = 31 := hop.symm
    have q_rn : holdsB ⟨0, 0, 0⟩ i.rn = true := R.rn_ hop
    have q_rm : holdsB ⟨0, 0, 0⟩ i.rm = true := R.rm_ hop
    have q_ra : holdsB ⟨0, 0, 0⟩ i.ra = true := R.ra_ hop
    have q_imm : holdsB ⟨0, 0, 0⟩ i.imm = true := R.imm_ hop
    have q_imm2 : holdsB ⟨0, 0, 0⟩ i.imm2 = true := R.imm2_ hop
    have q_amount : holdsB ⟨0, 0, 0⟩ i.amount = true := R.amount_ hop
    have q_shift : holdsB ⟨0, 0, 0⟩ i.shift = true := R.shift_ hop
    have q_cond : holdsB ⟨0, 0, 0⟩ i.cond = true := R.cond_ hop
    obtain ⟨a_sys, a_rd⟩ := hA
    exact Ins.ext16 hop.symm (hsub.resolve_right (by decide)) a_rd.symm (zero_of q_rn).symm (zero_of q_rm).symm (zero_of q_ra).symm (zero_of q_imm).symm (zero_of q_imm2).symm (zero_of q_amount).symm (zero_of q_shift).symm (zero_of q_cond).symm a_sys.symm (off_of (by have h := R.flags; rw [hop] at h; exact h)).symm (off_of (by have h := R.minus; rw [hop] at h; exact h)).symm (off_of (by have h := R.not; rw [hop] at h; exact h)).symm (off_of (by have h := R.link; rw [hop] at h; exact h)).symm
  · exact fun W => ⟨rfl, rfl⟩
  · exact fun W => isForm_one rfl rfl
set_option maxRecDepth 4000 in
theorem fok33 : FormOk fm33 := by
  have C := (cd_then (cd_num .sys 1 5 15 (by decide) (by decide) (by decide)) (cd_num .rd 1 0 5 (by decide) (by decide) (by decide)))
  refine form_ok fm33 C good33 [(5, 15), (0, 5)] (fun _ => rfl) (by kernel_rfl) (by kernel_rfl) (by kernel_rfl) ?_ ?_ ?_ ?_
  · intro i hR hF
    have R := rightF hR
    obtain ⟨hop, hsub⟩ := isForm_of hF
    have hop : i.op = 32 := hop.symm
    have q_rd : holdsB ⟨0, 31, 1⟩ i.rd = true := R.rd_ hop
    exact ⟨(sys_of (by have h := R.sys; rw [hop] at h; exact h)), (fit_one q_rd (by decide) (by decide))⟩
  · intro i hR hF W hA
    have R := rightF hR
    obtain ⟨hop, hsub⟩ := isForm_of hF
    have hop : i.op = 32 := hop.symm
    have q_rn : holdsB ⟨0, 0, 0⟩ i.rn = true := R.rn_ hop
    have q_rm : holdsB ⟨0, 0, 0⟩ i.rm = true := R.rm_ hop
    have q_ra : holdsB ⟨0, 0, 0⟩ i.ra = true := R.ra_ hop
    have q_imm : holdsB ⟨0, 0, 0⟩ i.imm = true := R.imm_ hop
    have q_imm2 : holdsB ⟨0, 0, 0⟩ i.imm2 = true := R.imm2_ hop
    have q_amount : holdsB ⟨0, 0, 0⟩ i.amount = true := R.amount_ hop
    have q_shift : holdsB ⟨0, 0, 0⟩ i.shift = true := R.shift_ hop
    have q_cond : holdsB ⟨0, 0, 0⟩ i.cond = true := R.cond_ hop
    obtain ⟨a_sys, a_rd⟩ := hA
    exact Ins.ext16 hop.symm (hsub.resolve_right (by decide)) a_rd.symm (zero_of q_rn).symm (zero_of q_rm).symm (zero_of q_ra).symm (zero_of q_imm).symm (zero_of q_imm2).symm (zero_of q_amount).symm (zero_of q_shift).symm (zero_of q_cond).symm a_sys.symm (off_of (by have h := R.flags; rw [hop] at h; exact h)).symm (off_of (by have h := R.minus; rw [hop] at h; exact h)).symm (off_of (by have h := R.not; rw [hop] at h; exact h)).symm (off_of (by have h := R.link; rw [hop] at h; exact h)).symm
  · exact fun W => ⟨rfl, rfl⟩
  · exact fun W => isForm_one rfl rfl
set_option maxRecDepth 4000 in
theorem fok34 : FormOk fm34 := by
  have C := (cd_num .imm 1 8 4 (by decide) (by decide) (by decide))
  refine form_ok fm34 C good34 [(8, 4)] (fun _ => rfl) (by kernel_rfl) (by kernel_rfl) (by kernel_rfl) ?_ ?_ ?_ ?_
  · intro i hR hF
    have R := rightF hR
    obtain ⟨hop, hsub⟩ := isForm_of hF
    have hop : i.op = 33 := hop.symm
    have q_imm : holdsB ⟨0, 15, 1⟩ i.imm = true := R.imm_ hop
    exact (fit_one q_imm (by decide) (by decide))
  · intro i hR hF W hA
    have R := rightF hR
    obtain ⟨hop, hsub⟩ := isForm_of hF
    have hop : i.op = 33 := hop.symm
    have q_rd : holdsB ⟨0, 0, 0⟩ i.rd = true := R.rd_ hop
    have q_rn : holdsB ⟨0, 0, 0⟩ i.rn = true := R.rn_ hop
    have q_rm : holdsB ⟨0, 0, 0⟩ i.rm = true := R.rm_ hop
    have q_ra : holdsB ⟨0, 0, 0⟩ i.ra = true := R.ra_ hop
    have q_imm2 : holdsB ⟨0, 0, 0⟩ i.imm2 = true := R.imm2_ hop
    have q_amount : holdsB ⟨0, 0, 0⟩ i.amount = true := R.amount_ hop
    have q_shift : holdsB ⟨0, 0, 0⟩ i.shift = true := R.shift_ hop
    have q_cond : holdsB ⟨0, 0, 0⟩ i.cond = true := R.cond_ hop
    have a_imm := hA
    exact Ins.ext16 hop.symm (hsub.resolve_right (by decide)) (zero_of q_rd).symm (zero_of q_rn).symm (zero_of q_rm).symm (zero_of q_ra).symm a_imm.symm (zero_of q_imm2).symm (zero_of q_amount).symm (zero_of q_shift).symm (zero_of q_cond).symm (show 0 = i.sys by have h := R.sys; rw [hop] at h; exact (beq_iff_eq.1 h).symm) (off_of (by have h := R.flags; rw [hop] at h; exact h)).symm (off_of (by have h := R.minus; rw [hop] at h; exact h)).symm (off_of (by have h := R.not; rw [hop] at h; exact h)).symm (off_of (by have h := R.link; rw [hop] at h; exact h)).symm
  · exact fun W => rfl
  · exact fun W => isForm_one rfl rfl
set_option maxRecDepth 4000 in
theorem fok35 : FormOk fm35 := by
  have C := (cd_num .imm 1 8 4 (by decide) (by decide) (by decide))
  refine form_ok fm35 C good35 [(8, 4)] (fun _ => rfl) (by kernel_rfl) (by kernel_rfl) (by kernel_rfl) ?_ ?_ ?_ ?_
  · intro i hR hF
    have R := rightF hR
    obtain ⟨hop, hsub⟩ := isForm_of hF
    have hop : i.op = 33 := hop.symm
    have q_imm : holdsB ⟨0, 15, 1⟩ i.imm = true := R.imm_ hop
    exact (fit_one q_imm (by decide) (by decide))
  · intro i hR hF W hA
    have R := rightF hR
    obtain ⟨hop, hsub⟩ := isForm_of hF
    have hop : i.op = 33 := hop.symm
    have q_rd : holdsB ⟨0, 0, 0⟩ i.rd = true := R.rd_ hop
    have q_rn : holdsB ⟨0, 0, 0⟩ i.rn = true := R.rn_ hop
    have q_rm : holdsB ⟨0, 0, 0⟩ i.rm = true := R.rm_ hop
    have q_ra : holdsB ⟨0, 0, 0⟩ i.ra = true := R.ra_ hop
    have q_imm2 : holdsB ⟨0, 0, 0⟩ i.imm2 = true := R.imm2_ hop
    have q_amount : holdsB ⟨0, 0, 0⟩ i.amount = true := R.amount_ hop
    have q_shift : holdsB ⟨0, 0, 0⟩ i.shift = true := R.shift_ hop
    have q_cond : holdsB ⟨0, 0, 0⟩ i.cond = true := R.cond_ hop
    have a_imm := hA
    exact Ins.ext16 hop.symm (hsub.resolve_right (by decide)) (zero_of q_rd).symm (zero_of q_rn).symm (zero_of q_rm).symm (zero_of q_ra).symm a_imm.symm (zero_of q_imm2).symm (zero_of q_amount).symm (zero_of q_shift).symm (zero_of q_cond).symm (show 0 = i.sys by have h := R.sys; rw [hop] at h; exact (beq_iff_eq.1 h).symm) (off_of (by have h := R.flags; rw [hop] at h; exact h)).symm (off_of (by have h := R.minus; rw [hop] at h; exact h)).symm (off_of (by have h := R.not; rw [hop] at h; exact h)).symm (off_of (by have h := R.link; rw [hop] at h; exact h)).symm
  · exact fun W => rfl
  · exact fun W => isForm_one rfl rfl
set_option maxRecDepth 4000 in
theorem fok36 : FormOk fm36 := by
  have C := (cd_num .imm 1 5 16 (by decide) (by decide) (by decide))
  refine form_ok fm36 C good36 [(5, 16)] (fun _ => rfl) (by kernel_rfl) (by kernel_rfl) (by kernel_rfl) ?_ ?_ ?_ ?_
  · intro i hR hF
    have R := rightF hR
    obtain ⟨hop, hsub⟩ := isForm_of hF
    have hop : i.op = 34 := hop.symm
    have q_imm : holdsB ⟨0, 65535, 1⟩ i.imm = true := R.imm_ hop
    exact (fit_one q_imm (by decide) (by decide))
  · intro i hR hF W hA
    have R := rightF hR
    obtain ⟨hop, hsub⟩ := isForm_of hF
    have hop : i.op = 34 := hop.symm
    have q_rd : holdsB ⟨0, 0, 0⟩ i.rd = true := R.rd_ hop
    have q_rn : holdsB ⟨0, 0, 0⟩ i.rn = true := R.rn_ hop
    have q_rm : holdsB ⟨0, 0, 0⟩ i.rm = true := R.rm_ hop
    have q_ra : holdsB ⟨0, 0, 0⟩ i.ra = true := R.ra_ hop
    have q_imm2 : holdsB ⟨0, 0, 0⟩ i.imm2 = true := R.imm2_ hop
    have q_amount : holdsB ⟨0, 0, 0⟩ i.amount = true := R.amount_ hop
    have q_shift : holdsB ⟨0, 0, 0⟩ i.shift = true := R.shift_ hop
    have q_cond : holdsB ⟨0, 0, 0⟩ i.cond = true := R.cond_ hop
    have a_imm := hA
    exact Ins.ext16 hop.symm (hsub.resolve_right (by decide)) (zero_of q_rd).symm (zero_of q_rn).symm (zero_of q_rm).symm (zero_of q_ra).symm a_imm.symm (zero_of q_imm2).symm (zero_of q_amount).symm (zero_of q_shift).symm (zero_of q_cond).symm (show 0 = i.sys by have h := R.sys; rw [hop] at h; exact (beq_iff_eq.1 h).symm) (off_of (by have h := R.flags; rw [hop] at h; exact h)).symm (off_of (by have h := R.minus; rw [hop] at h; exact h)).symm (off_of (by have h := R.not; rw [hop] at h; exact h)).symm (off_of (by have h := R.link; rw [hop] at h; exact h)).symm
  · exact fun W => rfl
  · exact fun W => isForm_one rfl rfl
set_option maxRecDepth 4000 in
theorem fok37 : FormOk fm37 := by
  have C := (cd_num .imm 1 5 16 (by decide) (by decide) (by decide))
  refine form_ok fm37 C good37 [(5, 16)] (fun _ => rfl) (by kernel_rfl) (by kernel_rfl) (by kernel_rfl) ?_ ?_ ?_ ?_
  · intro i hR hF
    have R := rightF hR
    obtain ⟨hop, hsub⟩ := isForm_of hF
    have hop : i.op = 35 := hop.symm
    have q_imm : holdsB ⟨0, 65535, 1⟩ i.imm = true := R.imm_ hop
    exact (fit_one q_imm (by decide) (by decide))
  · intro i hR hF W hA
    have R := rightF hR
    obtain ⟨hop, hsub⟩ := isForm_of hF
    have hop : i.op = 35 := hop.symm
    have q_rd : holdsB ⟨0, 0, 0⟩ i.rd = true := R.rd_ hop
    have q_rn : holdsB ⟨0, 0, 0⟩ i.rn = true := R.rn_ hop
    have q_rm : holdsB ⟨0, 0, 0⟩ i.rm = true := R.rm_ hop
    have q_ra : holdsB ⟨0, 0, 0⟩ i.ra = true := R.ra_ hop
    have q_imm2 : holdsB ⟨0, 0, 0⟩ i.imm2 = true := R.imm2_ hop
    have q_amount : holdsB ⟨0, 0, 0⟩ i.amount = true := R.amount_ hop
    have q_shift : holdsB ⟨0, 0, 0⟩ i.shift = true := R.shift_ hop
    have q_cond : holdsB ⟨0, 0, 0⟩ i.cond = true := R.cond_ hop
    have a_imm := hA
    exact Ins.ext16 hop.symm (hsub.resolve_right (by decide)) (zero_of q_rd).symm (zero_of q_rn).symm (zero_of q_rm).symm (zero_of q_ra).symm a_imm.symm (zero_of q_imm2).symm (zero_of q_amount).symm (zero_of q_shift).symm (zero_of q_cond).symm (show 0 = i.sys by have h := R.sys; rw [hop] at h; exact (beq_iff_eq.1 h).symm) (off_of (by have h := R.flags; rw [hop] at h; exact h)).symm (off_of (by have h := R.minus; rw [hop] at h; exact h)).symm (off_of (by have h := R.not; rw [hop] at h; exact h)).symm (off_of (by have h := R.link; rw [hop] at h; exact h)).symm
  · exact fun W => rfl
  · exact fun W => isForm_one rfl rfl
set_option maxRecDepth 4000 in
theorem fok38 : FormOk fm38 := by
  have C := cd_nothing
  refine form_ok fm38 C good38 [] (fun _ => rfl) (by kernel_rfl) (by kernel_rfl) (by kernel_rfl) ?_ ?_ ?_ ?_
  · intro i hR hF
    have R := rightF hR
    obtain ⟨hop, hsub⟩ := isForm_of hF
    have hop : i.op = 36 := hop.symm
    exact trivial
  · intro i hR hF W hA
    have R := rightF hR
    obtain ⟨hop, hsub⟩ := isForm_of hF
    have hop : i.op = 36 := hop.symm
    have q_rd : holdsB ⟨0, 0, 0⟩ i.rd = true := R.rd_ hop
    have q_rn : holdsB ⟨0, 0, 0⟩ i.rn = true := R.rn_ hop
    have q_rm : holdsB ⟨0, 0, 0⟩ i.rm = true := R.rm_ hop
    have q_ra : holdsB ⟨0, 0, 0⟩ i.ra = true := R.ra_ hop
    have q_imm : holdsB ⟨0, 0, 0⟩ i.imm = true := R.imm_ hop
    have q_imm2 : holdsB ⟨0, 0, 0⟩ i.imm2 = true := R.imm2_ hop
    have q_amount : holdsB ⟨0, 0, 0⟩ i.amount = true := R.amount_ hop
    have q_shift : holdsB ⟨0, 0, 0⟩ i.shift = true := R.shift_ hop
    have q_cond : holdsB ⟨0, 0, 0⟩ i.cond = true := R.cond_ hop
    have _ := hA
    exact Ins.ext16 hop.symm (hsub.resolve_right (by decide)) (zero_of q_rd).symm (zero_of q_rn).symm (zero_of q_rm).symm (zero_of q_ra).symm (zero_of q_imm).symm (zero_of q_imm2).symm (zero_of q_amount).symm (zero_of q_shift).symm (zero_of q_cond).symm (show 0 = i.sys by have h := R.sys; rw [hop] at h; exact (beq_iff_eq.1 h).symm) (off_of (by have h := R.flags; rw [hop] at h; exact h)).symm (off_of (by have h := R.minus; rw [hop] at h; exact h)).symm (off_of (by have h := R.not; rw [hop] at h; exact h)).symm (off_of (by have h := R.link; rw [hop] at h; exact h)).symm
  · exact fun W => trivial
  · exact fun W => isForm_one rfl rfl
set_option maxRecDepth 4000 in
theorem fok39 : FormOk fm39 := by
  have C := (cd_num .imm 1 5 3 (by decide) (by decide) (by decide))
  refine form_ok fm39 C good39 [(5, 3)] (fun _ => rfl) (by kernel_rfl) (by kernel_rfl) (by kernel_rfl) ?_ ?_ ?_ ?_
  · intro i hR hF
    have R := rightF hR
    obtain ⟨hop, hsub⟩ := isForm_of hF
    have hop : i.op = 37 := hop.symm
    have q_imm : holdsB ⟨0, 5, 1⟩ i.imm = true := R.imm_ hop
    exact (fit_one q_imm (by decide) (by decide))
  · intro i hR hF W hA
    have R := rightF hR
    obtain ⟨hop, hsub⟩ := isForm_of hF
    have hop : i.op = 37 := hop.symm
    have q_rd : holdsB ⟨0, 0, 0⟩ i.rd = true := R.rd_ hop
    have q_rn : holdsB ⟨0, 0, 0⟩ i.rn = true := R.rn_ hop
    have q_rm : holdsB ⟨0, 0, 0⟩ i.rm = true := R.rm_ hop
    have q_ra : holdsB ⟨0, 0, 0⟩ i.ra = true := R.ra_ hop
    have q_imm2 : holdsB ⟨0, 0, 0⟩ i.imm2 = true := R.imm2_ hop
    have q_amount : holdsB ⟨0, 0, 0⟩ i.amount = true := R.amount_ hop
    have q_shift : holdsB ⟨0, 0, 0⟩ i.shift = true := R.shift_ hop
    have q_cond : holdsB ⟨0, 0, 0⟩ i.cond = true := R.cond_ hop
    have a_imm := hA
    exact Ins.ext16 hop.symm (hsub.resolve_right (by decide)) (zero_of q_rd).symm (zero_of q_rn).symm (zero_of q_rm).symm (zero_of q_ra).symm a_imm.symm (zero_of q_imm2).symm (zero_of q_amount).symm (zero_of q_shift).symm (zero_of q_cond).symm (show 0 = i.sys by have h := R.sys; rw [hop] at h; exact (beq_iff_eq.1 h).symm) (off_of (by have h := R.flags; rw [hop] at h; exact h)).symm (off_of (by have h := R.minus; rw [hop] at h; exact h)).symm (off_of (by have h := R.not; rw [hop] at h; exact h)).symm (off_of (by have h := R.link; rw [hop] at h; exact h)).symm
  · exact fun W => rfl
  · exact fun W => isForm_one rfl rfl
theorem fok_all : ∀ F ∈ forms, FormOk F := by
  intro F h
  simp only [forms, formsA, formsB, List.cons_append, List.nil_append, List.mem_cons, List.not_mem_nil, or_false] at h
  rcases h with rfl | rfl | rfl | rfl | rfl | rfl | rfl | rfl | rfl | rfl | rfl | rfl | rfl | rfl | rfl | rfl | rfl | rfl | rfl | rfl | rfl | rfl | rfl | rfl | rfl | rfl | rfl | rfl | rfl | rfl | rfl | rfl | rfl | rfl | rfl | rfl | rfl | rfl | rfl | rfl
  · exact fok0
  · exact fok1
  · exact fok2
  · exact fok3
  · exact fok4
  · exact fok5
  · exact fok6
  · exact fok7
  · exact fok8
  · exact fok9
  · exact fok10
  · exact fok11
  · exact fok12
  · exact fok13
  · exact fok14
  · exact fok15
  · exact fok16
  · exact fok17
  · exact fok18
  · exact fok19
  · exact fok20
  · exact fok21
  · exact fok22
  · exact fok23
  · exact fok24
  · exact fok25
  · exact fok26
  · exact fok27
  · exact fok28
  · exact fok29
  · exact fok30
  · exact fok31
  · exact fok32
  · exact fok33
  · exact fok34
  · exact fok35
  · exact fok36
  · exact fok37
  · exact fok38
  · exact fok39
end Go.Proofs.YtbjcdpmhmebjnaaGreat
