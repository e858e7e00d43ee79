/- What both, eachReg, Save and Load of package thd answer and do, for all arguments; awake. -/
import Derived.Test.YtaajacmbnigadaaGreatDoorThdC
import Derived.Test.YtaajacmbnigadaaGreatDoorBunRegs
namespace Go.Proofs.YtaajacmbnigadaaGreatDoor.Pthd
open Go.Proofs.YtaajacmbnigadaaGreatDoor.Pbase Go.Proofs.YtaajacmbnigadaaGreatDoor.Pfield Go.Proofs.YtaajacmbnigadaaGreatDoor.Play Go.Proofs.YtaajacmbnigadaaGreatDoor.Pmem
open Go.RowKit M
set_option linter.unusedVariables false

theorem file_ne {w : World} {p b N r : Nat} {M : Nat → Nat → Int} {L : Nat → Int} (hM : MemIs w p b N M) (h1 : 1 ≤ N) (hr : Pregs.FileIs w r L) : r ≠ b ∧ r ≠ p := by
  constructor
  · rintro rfl
    unfold Pregs.FileIs at hr
    rw [hM.row] at hr
    simp only [Option.some.injEq, Obj.cells.injEq] at hr
    have := congrArg Array.size hr.1
    rw [cellsM_size, Pregs.cellsF_size] at this
    omega
  · rintro rfl
    unfold Pregs.FileIs at hr
    rw [hM.head] at hr
    simp only [Option.some.injEq, Obj.cells.injEq] at hr
    have := congrArg Array.size hr.1
    rw [Pregs.cellsF_size] at this
    simp at this
/-! ### both -/
set_option maxRecDepth 100000 in
theorem all_zero (p : Nat) (w : World) (hp : w.cell? ⟨p, 8, none⟩ = some (.bool false)) :
    Calls Tryz.prog 26 #[.pointer (some ⟨p, 0, none⟩)] w fun e w' => e = .returned (.slice none 0 0) ∧ w' = w := by
  go_enter Tryz.func26, Tryz.ntmps26
  go_wp2_with (go_at_call 53; refine (Pregs.made_cell p false _ hp).mono ?_; rintro e w' ⟨rfl, rfl⟩)
  go_ret
  exact ⟨rfl, rfl⟩
set_option maxRecDepth 100000 in
theorem both_zero (v : Value) (f : Int) (p : Nat) (w : World) (hp : w.cell? ⟨p, 8, none⟩ = some (.bool false)) :
    Calls Tryz.prog 42 #[v, .int .i64 f, .pointer (some ⟨p, 0, none⟩)] w fun e w' => e = .returned (.int .i64 13) ∧ w' = w := by
  go_enter Tryz.func42, Tryz.ntmps42
  go_wp2_with (first
    | (go_at_call 26; refine (all_zero p _ hp).mono ?_; rintro e w' ⟨rfl, rfl⟩)
    | fail)
  go_ret
  exact ⟨rfl, rfl⟩
set_option maxRecDepth 100000 in
theorem both_nil (v : Value) (f : Int) (w : World) :
    Calls Tryz.prog 42 #[v, .int .i64 f, .pointer none] w fun e w' => e = .returned (.int .i64 13) ∧ w' = w := by
  go_enter Tryz.func42, Tryz.ntmps42
  go_wp2_with (first
    | (go_at_call 26; refine (Pregs.all_nil _).mono ?_; rintro e w' ⟨rfl, rfl⟩)
    | fail)
  go_ret
  exact ⟨rfl, rfl⟩
set_option maxRecDepth 100000 in
theorem both_any (p b N r : Nat) (f : Int) (M : Nat → Nat → Int) (L : Nat → Int) (w : World) (hM : Mx w p b N M) (hR : Pregs.FileIs w r L) :
    Calls Tryz.prog 42 #[.pointer (some ⟨p, 0, none⟩), .int .i64 f, .pointer (some ⟨r, 0, none⟩)] w fun e w' => e = .returned (.int .i64 (svE N M f)) ∧ Below w.heap.size w w' := by
  have HA : Hid (Calls Tryz.prog 26 #[.pointer (some ⟨r, 0, none⟩)] w fun e w' => e = .returned (.slice (some ⟨w.heap.size, 0, none⟩) 8 8) ∧ Below w.heap.size w w') := (Pregs.all_any r L w hR).mono fun e w' ⟨h1, h2⟩ => ⟨h1, by rw [h2]; exact Pregs.allW_below w L⟩
  have HIs : Hid (∀ wc, Below w.heap.size w wc → Calls Tryz.prog 39 #[.pointer (some ⟨p, 0, none⟩), .int .i64 f] wc fun e w' => e = .returned (.bool (Phead.isE N M f 4 == 0)) ∧ Below wc.heap.size wc w') := fun wc h => isT_any p b N f M wc (hM.on h)
  clear hM hR
  have e : svE N M f = if (Phead.isE N M f 4 == 0) = true then 0 else 4 := by unfold svE; simp
  rw [e]
  generalize (Phead.isE N M f 4 == 0) = R at HIs
  cases R
  all_goals
    go_enter Tryz.func42, Tryz.ntmps42
    go_wp2_with (first
      | (go_at_call 26; refine HA.out.mono ?_; rintro e1 w1 ⟨rfl, hb⟩; have H1 := rhide hb; clear hb HA)
      | (go_at_call 39; refine (HIs.out _ H1.out).mono ?_; rintro e2 w2 ⟨rfl, hb⟩; have H2 : Hid (Below w.heap.size w w2) := H1.out.trans (hb.mono H1.out.size); clear hb HIs)
      | fail)
    go_ret
    exact ⟨rfl, H2.out⟩
/-! ### eachReg -/
set_option maxRecDepth 100000 in
set_option maxHeartbeats 1000000 in
theorem each_save (a b c : Value) (I : Nat → World → Prop) (w : World) (h0 : I 0 w)
    (hS : Hid (∀ (k : Nat) (W : World), k < 8 → I k W → Calls Tryz.prog 44 #[.int .i64 k, .int .i64 (9 + (k : Int)), a, b, c] W fun e w' => e = .returned (.int .i64 0) ∧ I (k + 1) w')) :
    Calls Tryz.prog 43 #[.func (.func 44) #[] #[a, b, c]] w fun e w' => e = .returned (.int .i64 0) ∧ I 8 w' := by
  have H0 := rhide h0
  clear h0
  go_enter Tryz.func43, Tryz.ntmps43
  go_wp2
  go_loopw [5] (fun i wr => ∃ k : Nat, k ≤ 8 ∧ i = .int .i64 k ∧ I k wr) (fun i _ => 8 - (intOf i).toNat)
  case atStart => exact ⟨0, by omega, rfl, H0.out⟩
  case round =>
    obtain ⟨k, hk, rfl, hI⟩ := hrel
    have HI := rhide hI
    clear hI H0
    by_cases h8 : k < 8
    · have h8' : (k : Int) < 8 := by omega
      go_wp2_with (first
        | (go_at_call 44; refine (hS.out k _ h8 HI.out).mono ?_; rintro e2 w2 ⟨rfl, hw⟩; have H2 := rhide hw; clear hw)
        | fail)
      go_roundw
      case rel => exact ⟨k + 1, by omega, by go_num, H2.out⟩
      case measure => simp [intOf]; omega
    · have h8' : ¬ (k : Int) < 8 := by omega
      obtain rfl : k = 8 := by omega
      go_wp2
      go_ret
      exact ⟨rfl, HI.out⟩
set_option maxRecDepth 100000 in
set_option maxHeartbeats 1000000 in
theorem each_load (a b c : Value) (I : Nat → World → Prop) (w : World) (h0 : I 0 w)
    (hS : Hid (∀ (k : Nat) (W : World), k < 8 → I k W → Calls Tryz.prog 46 #[.int .i64 k, .int .i64 (9 + (k : Int)), a, b, c] W fun e w' => e = .returned (.int .i64 0) ∧ I (k + 1) w')) :
    Calls Tryz.prog 43 #[.func (.func 46) #[] #[a, b, c]] w fun e w' => e = .returned (.int .i64 0) ∧ I 8 w' := by
  have H0 := rhide h0
  clear h0
  go_enter Tryz.func43, Tryz.ntmps43
  go_wp2
  go_loopw [5] (fun i wr => ∃ k : Nat, k ≤ 8 ∧ i = .int .i64 k ∧ I k wr) (fun i _ => 8 - (intOf i).toNat)
  case atStart => exact ⟨0, by omega, rfl, H0.out⟩
  case round =>
    obtain ⟨k, hk, rfl, hI⟩ := hrel
    have HI := rhide hI
    clear hI H0
    by_cases h8 : k < 8
    · have h8' : (k : Int) < 8 := by omega
      go_wp2_with (first
        | (go_at_call 46; refine (hS.out k _ h8 HI.out).mono ?_; rintro e2 w2 ⟨rfl, hw⟩; have H2 := rhide hw; clear hw)
        | fail)
      go_roundw
      case rel => exact ⟨k + 1, by omega, by go_num, H2.out⟩
      case measure => simp [intOf]; omega
    · have h8' : ¬ (k : Int) < 8 := by omega
      obtain rfl : k = 8 := by omega
      go_wp2
      go_ret
      exact ⟨rfl, HI.out⟩
/-! ### Save -/
/-- The three variables of Save or Load, a memory and a file; x: the block that is written. -/
structure SvI (w W : World) (x p b N r : Nat) (f : Int) (M : Nat → Nat → Int) (L : Nat → Int) : Prop where
  mem : MemIs W p b N M
  file : Pregs.FileIs W r L
  bm : Boxed W w.heap.size 26 (.pointer (some ⟨p, 0, none⟩))
  bf : Boxed W (w.heap.size + 1) 3 (.int .i64 f)
  br : Boxed W (w.heap.size + 1 + 1) 30 (.pointer (some ⟨r, 0, none⟩))
  but : But x w W
  lt : x < w.heap.size
theorem sv_new {w : World} {x p b N r : Nat} {f : Int} {M : Nat → Nat → Int} {L : Nat → Int} (h : MemIs w p b N M) (hr : Pregs.FileIs w r L) (hx : x < w.heap.size) : SvI w (((w.alloc (.cells #[.pointer (some ⟨p, 0, none⟩)] 26)).alloc (.cells #[.int .i64 f] 3)).alloc (.cells #[.pointer (some ⟨r, 0, none⟩)] 30)) x p b N r f M L := by
  have b0 := Boxed.new w 26 (.pointer (some ⟨p, 0, none⟩))
  have b1 := Boxed.new (w.alloc (.cells #[.pointer (some ⟨p, 0, none⟩)] 26)) 3 (.int .i64 f)
  have b2 := Boxed.new ((w.alloc (.cells #[.pointer (some ⟨p, 0, none⟩)] 26)).alloc (.cells #[.int .i64 f] 3)) 30 (.pointer (some ⟨r, 0, none⟩))
  simp only [World.size_alloc] at b1 b2
  have hb := bal (bal (bal (Below.refl w.heap.size w) (.cells #[.pointer (some ⟨p, 0, none⟩)] 26)) (.cells #[.int .i64 f] 3)) (.cells #[.pointer (some ⟨r, 0, none⟩)] 30)
  exact ⟨h.grown hb, hr.more hb, (b0.alloc _).alloc _, b1.alloc _, b2, But.of_below x hb, hx⟩
theorem SvI.on {w W W' : World} {x p b N r : Nat} {f : Int} {M : Nat → Nat → Int} {L : Nat → Int} (h : SvI w W x p b N r f M L) (hB : Below W.heap.size W W') : SvI w W' x p b N r f M L :=
  ⟨h.mem.grown hB, h.file.more hB, (hB.block _ h.bm.lt).trans h.bm, (hB.block _ h.bf.lt).trans h.bf, (hB.block _ h.br.lt).trans h.br, h.but.trans (But.of_below x hB), h.lt⟩
theorem SvI.turn {w W W' : World} {x p b N r : Nat} {f : Int} {M M' : Nat → Nat → Int} {L L' : Nat → Int} (h : SvI w W x p b N r f M L) (hm : MemIs W' p b N M') (hf : Pregs.FileIs W' r L') (hB : But x W W') : SvI w W' x p b N r f M' L' := by
  have := h.lt
  exact ⟨hm, hf, (hB.block _ h.bm.lt (by omega)).trans h.bm, (hB.block _ h.bf.lt (by omega)).trans h.bf, (hB.block _ h.br.lt (by omega)).trans h.br, h.but.trans hB, h.lt⟩
set_option maxRecDepth 100000 in
theorem save1_any {w : World} {p b N r : Nat} {f : Int} {M : Nat → Nat → Int} {L : Nat → Int} (n1 : 1 ≤ N) (n64 : N ≤ 64) (hf : okF N f = true) (k : Nat) (W : World) (hk : k < 8) (h : SvI w W b p b N r f (regF N M f L k) L) :
    Calls Tryz.prog 44 #[.int .i64 k, .int .i64 (9 + (k : Int)), .pointer (some ⟨w.heap.size + 1 + 1, 0, none⟩), .pointer (some ⟨w.heap.size, 0, none⟩), .pointer (some ⟨w.heap.size + 1, 0, none⟩)] W fun e w' => e = .returned (.int .i64 0) ∧ SvI w w' b p b N r f (regF N M f L (k + 1)) L := by
  have c0 := h.bm.cell
  have c1 := h.bf.cell
  have c2 := h.br.cell
  have ho : okW N f (9 + (k : Int)) = true := by unfold okW; rw [hf]; simp; omega
  have HG : Hid (Calls Tryz.prog 45 #[.pointer (some ⟨r, 0, none⟩), .int .i64 k] W fun e w' => e = .returned (.tuple #[.int .u64 (L k), .int .i64 0]) ∧ w' = W) := by
    have := Pregs.get_any r k L W h.file
    rwa [show Pregs.getR L k = L k by unfold Pregs.getR; rw [Pregs.okR_nat hk]; simp, show Pregs.errR k = 0 by unfold Pregs.errR; rw [Pregs.okR_nat hk]; rfl] at this
  have HS : Hid (Calls Tryz.prog 31 #[.pointer (some ⟨p, 0, none⟩), .int .i64 f, .int .i64 (9 + (k : Int)), .int .u64 (L k)] W fun e w' => e = .returned (.int .i64 0) ∧ SvI w w' b p b N r f (regF N M f L (k + 1)) L) := by
    have := store_any p b N f (9 + (k : Int)) (L k) (regF N M f L k) W n1 n64 h.mem
    rw [show errW N f (9 + (k : Int)) = 0 by unfold errW; rw [ho]; rfl, reg_step hk] at this
    refine this.mono ?_
    rintro e w' ⟨rfl, rfl⟩
    have hb : But b W (W.setRow b (cellsM N (regF N M f L (k + 1)))) := (But.refl b W).setRow _
    exact ⟨rfl, h.turn (h.mem.set _) (h.file.other (file_ne h.mem n1 h.file).1 _) hb⟩
  clear h ho
  generalize L k = l at HG HS
  go_enter Tryz.func44, Tryz.ntmps44
  go_wp2_with (first
    | (go_at_call 45; refine HG.out.mono ?_; rintro e1 w1 ⟨rfl, hw⟩; subst w1)
    | (go_at_call 31; refine HS.out.mono ?_; rintro e2 w2 ⟨rfl, hw⟩; have H2 := rhide hw; clear hw)
    | fail)
  go_ret
  exact ⟨rfl, H2.out⟩
set_option maxRecDepth 100000 in
theorem load1_any {w : World} {p b N r : Nat} {f : Int} {M : Nat → Nat → Int} {L : Nat → Int} (n1 : 1 ≤ N) (n64 : N ≤ 64) (hf : okF N f = true) (k : Nat) (W : World) (hk : k < 8) (h : SvI w W r p b N r f M (rgL M f L k)) :
    Calls Tryz.prog 46 #[.int .i64 k, .int .i64 (9 + (k : Int)), .pointer (some ⟨w.heap.size, 0, none⟩), .pointer (some ⟨w.heap.size + 1, 0, none⟩), .pointer (some ⟨w.heap.size + 1 + 1, 0, none⟩)] W fun e w' => e = .returned (.int .i64 0) ∧ SvI w w' r p b N r f M (rgL M f L (k + 1)) := by
  have c0 := h.bm.cell
  have c1 := h.bf.cell
  have c2 := h.br.cell
  have ho : okW N f (9 + (k : Int)) = true := by unfold okW; rw [hf]; simp; omega
  have e9 : (9 + (k : Int)).toNat = 9 + k := by omega
  have HG : Hid (Calls Tryz.prog 47 #[.pointer (some ⟨p, 0, none⟩), .int .i64 f, .int .i64 (9 + (k : Int))] W fun e w' => e = .returned (.tuple #[.int .u64 (M f.toNat (9 + k)), .int .i64 0]) ∧ w' = W) := by
    have := Pmem.load_any p b N f (9 + (k : Int)) M W n1 n64 h.mem
    rwa [show errW N f (9 + (k : Int)) = 0 by unfold errW; rw [ho]; rfl, show ldM N M f (9 + (k : Int)) = M f.toNat (9 + k) by unfold ldM; rw [ho, e9]; rfl] at this
  have HS : Hid (Calls Tryz.prog 13 #[.pointer (some ⟨r, 0, none⟩), .int .i64 k, .int .u64 (M f.toNat (9 + k))] W fun e w' => e = .returned (.int .i64 0) ∧ SvI w w' r p b N r f M (rgL M f L (k + 1))) := by
    have := Pregs.set_any r k (M f.toNat (9 + k)) (rgL M f L k) W h.file
    rw [show Pregs.errR k = 0 by unfold Pregs.errR; rw [Pregs.okR_nat hk]; rfl, show Pregs.setR (rgL M f L k) k (M f.toNat (9 + k)) = rgL M f L (k + 1) by unfold Pregs.setR; rw [Pregs.okR_nat hk]; simp only [if_true, Int.toNat_natCast]; exact rg_step M f L k] at this
    refine this.mono ?_
    rintro e w' ⟨rfl, rfl⟩
    have hb : But r W (W.setRow r (Pregs.cellsF (rgL M f L (k + 1)))) := (But.refl r W).setRow _
    have hn := file_ne h.mem n1 h.file
    exact ⟨rfl, h.turn (h.mem.on (setRow_other _ _ _ _ hn.2.symm) (setRow_other _ _ _ _ hn.1.symm)) (h.file.set _) hb⟩
  clear h ho e9
  generalize M f.toNat (9 + k) = l at HG HS
  go_enter Tryz.func46, Tryz.ntmps46
  go_wp2_with (first
    | (go_at_call 47; refine HG.out.mono ?_; rintro e1 w1 ⟨rfl, hw⟩; subst w1)
    | (go_at_call 13; refine HS.out.mono ?_; rintro e2 w2 ⟨rfl, hw⟩; have H2 := rhide hw; clear hw)
    | fail)
  go_ret
  exact ⟨rfl, H2.out⟩
/-- Words. -/
def Fl (L : Nat → Int) : Prop := ∀ j, j < 8 → 0 ≤ L j ∧ L j ≤ 18446744073709551615
theorem sv_is {N : Nat} {M : Nat → Nat → Int} {f : Int} (h : svE N M f = 0) : okF N f = true := by
  unfold svE at h
  split at h
  · rename_i hk
    exact isE_ok hk
  · exact absurd h (by decide)
theorem sv_no {N : Nat} {M : Nat → Nat → Int} {f : Int} (h : svE N M f ≠ 0) : svE N M f = 4 := by
  unfold svE at h ⊢
  split
  · rename_i hk
    rw [if_pos hk] at h
    exact absurd rfl h
  · rfl
set_option maxRecDepth 100000 in
set_option maxHeartbeats 1000000 in
theorem save_any (p b N r : Nat) (f : Int) (M : Nat → Nat → Int) (L : Nat → Int) (w : World) (hM : Mx w p b N M) (hR : Pregs.FileIs w r L) (hL : Fl L) :
    Calls Tryz.prog 15 #[.pointer (some ⟨p, 0, none⟩), .int .i64 f, .pointer (some ⟨r, 0, none⟩)] w fun e w' => e = .returned (.int .i64 (svE N M f)) ∧ Mx w' p b N (svM N M f L) ∧ Pregs.FileIs w' r L ∧ But b w w' := by
  have H0 := rhide (sv_new (f := f) hM.mem hR hM.mem.lt.2)
  have HB : Hid (∀ wc, SvI w wc b p b N r f M L → Calls Tryz.prog 42 #[.pointer (some ⟨p, 0, none⟩), .int .i64 f, .pointer (some ⟨r, 0, none⟩)] wc fun e w' => e = .returned (.int .i64 (svE N M f)) ∧ Below wc.heap.size wc w') := fun wc h => both_any p b N r f M L wc (hM.but h.mem hM.fit h.but) h.file
  by_cases hE : svE N M f = 0
  · have e1 : svM N M f L = regF N M f L 8 := by unfold svM; rw [if_pos hE]
    have hf := sv_is hE
    rw [hE] at HB ⊢
    rw [e1]
    have HS : Hid (∀ wc, SvI w wc b p b N r f M L → Calls Tryz.prog 43 #[.func (.func 44) #[] #[.pointer (some ⟨w.heap.size + 1 + 1, 0, none⟩), .pointer (some ⟨w.heap.size, 0, none⟩), .pointer (some ⟨w.heap.size + 1, 0, none⟩)]] wc fun e w' => e = .returned (.int .i64 0) ∧ SvI w w' b p b N r f (regF N M f L 8) L) := fun wc h =>
      each_save _ _ _ (fun k W => SvI w W b p b N r f (regF N M f L k) L) wc (by rw [reg_zero]; exact h) fun k W hk h => save1_any hM.n1 hM.n64 hf k W hk h
    have HE : Hid (∀ W, SvI w W b p b N r f (regF N M f L 8) L → Mx W p b N (regF N M f L 8) ∧ Pregs.FileIs W r L ∧ But b w W) := fun W h => ⟨hM.but h.mem (fit_reg hM.fit N f hL (Nat.le_refl _)) h.but, h.file, h.but⟩
    clear e1 hE hf hM hR hL
    generalize regF N M f L 8 = M8 at HS HE ⊢
    go_enter Tryz.func15, Tryz.ntmps15
    go_wp2_with (first
      | (go_at_call 42; refine (HB.out _ H0.out).mono ?_; rintro e1 w1 ⟨rfl, hb⟩; have H1 := rhide (H0.out.on hb); clear hb H0 HB)
      | (go_at_call 43; refine (HS.out _ H1.out).mono ?_; rintro e2 w2 ⟨rfl, hw⟩; have H2 := rhide (HE.out _ hw); clear hw H1 HS)
      | fail)
    go_ret
    exact ⟨rfl, H2.out⟩
  · have e1 : svM N M f L = M := by unfold svM; rw [if_neg hE]
    rw [e1]
    have e2 := sv_no hE
    rw [e2] at HB ⊢
    have HE : Hid (∀ W, SvI w W b p b N r f M L → Mx W p b N M ∧ Pregs.FileIs W r L ∧ But b w W) := fun W h => ⟨hM.but h.mem hM.fit h.but, h.file, h.but⟩
    clear e1 e2 hE hM hR hL
    go_enter Tryz.func15, Tryz.ntmps15
    go_wp2_with (first
      | (go_at_call 42; refine (HB.out _ H0.out).mono ?_; rintro e1 w1 ⟨rfl, hb⟩; have H1 := rhide (HE.out _ (H0.out.on hb)); clear hb H0 HB)
      | fail)
    go_ret
    exact ⟨rfl, H1.out⟩
set_option maxRecDepth 100000 in
set_option maxHeartbeats 1000000 in
theorem load_any (p b N r : Nat) (f : Int) (M : Nat → Nat → Int) (L : Nat → Int) (w : World) (hM : Mx w p b N M) (hR : Pregs.FileIs w r L) :
    Calls Tryz.prog 17 #[.pointer (some ⟨p, 0, none⟩), .int .i64 f, .pointer (some ⟨r, 0, none⟩)] w fun e w' => e = .returned (.int .i64 (svE N M f)) ∧ Mx w' p b N M ∧ Pregs.FileIs w' r (ldL N M f L) ∧ But r w w' := by
  have hb' := hM.mem.lt
  have H0 := rhide (sv_new (f := f) hM.mem hR hR.lt)
  have hn := file_ne hM.mem hM.n1 hR
  have htb : ∀ W, But r w W → Phead.TabW W := fun W h => hM.tb.but h (by
    intro e
    obtain ⟨t, fr, hr⟩ := hM.tb.row
    unfold Pregs.FileIs at hR
    rw [e, hR] at hr
    simp only [Option.some.injEq, Obj.cells.injEq] at hr
    have := congrArg Array.size hr.1
    rw [Pregs.cellsF_size] at this
    simp at this)
  have HX : Hid (∀ W L', SvI w W r p b N r f M L' → Mx W p b N M) := fun W L' h => ⟨h.mem, htb W h.but, hM.fit, hM.n1, hM.n64⟩
  have HB : Hid (∀ wc, SvI w wc r p b N r f M L → Calls Tryz.prog 42 #[.pointer (some ⟨p, 0, none⟩), .int .i64 f, .pointer (some ⟨r, 0, none⟩)] wc fun e w' => e = .returned (.int .i64 (svE N M f)) ∧ Below wc.heap.size wc w') := fun wc h => both_any p b N r f M L wc (HX.out _ _ h) h.file
  by_cases hE : svE N M f = 0
  · have e1 : ldL N M f L = rgL M f L 8 := by unfold ldL; rw [if_pos hE]
    have hf := sv_is hE
    rw [hE] at HB ⊢
    rw [e1]
    have HS : Hid (∀ wc, SvI w wc r p b N r f M L → Calls Tryz.prog 43 #[.func (.func 46) #[] #[.pointer (some ⟨w.heap.size, 0, none⟩), .pointer (some ⟨w.heap.size + 1, 0, none⟩), .pointer (some ⟨w.heap.size + 1 + 1, 0, none⟩)]] wc fun e w' => e = .returned (.int .i64 0) ∧ SvI w w' r p b N r f M (rgL M f L 8)) := fun wc h =>
      each_load _ _ _ (fun k W => SvI w W r p b N r f M (rgL M f L k)) wc (by rw [rg_zero]; exact h) fun k W hk h => load1_any hM.n1 hM.n64 hf k W hk h
    clear e1 hE hf hM hR hn htb hb'
    generalize rgL M f L 8 = L8 at HS ⊢
    go_enter Tryz.func17, Tryz.ntmps17
    go_wp2_with (first
      | (go_at_call 42; refine (HB.out _ H0.out).mono ?_; rintro e1 w1 ⟨rfl, hb⟩; have H1 := rhide (H0.out.on hb); clear hb H0 HB)
      | (go_at_call 43; refine (HS.out _ H1.out).mono ?_; rintro e2 w2 ⟨rfl, hw⟩; have H2 := rhide hw; clear hw H1 HS)
      | fail)
    go_ret
    exact ⟨rfl, HX.out _ _ H2.out, H2.out.file, H2.out.but⟩
  · have e1 : ldL N M f L = L := by unfold ldL; rw [if_neg hE]
    rw [e1]
    have e2 := sv_no hE
    rw [e2] at HB ⊢
    clear e1 e2 hE hM hR hn htb hb'
    go_enter Tryz.func17, Tryz.ntmps17
    go_wp2_with (first
      | (go_at_call 42; refine (HB.out _ H0.out).mono ?_; rintro e1 w1 ⟨rfl, hb⟩; have H1 := rhide (H0.out.on hb); clear hb H0 HB)
      | fail)
    go_ret
    exact ⟨rfl, HX.out _ _ H1.out, H1.out.file, H1.out.but⟩
/-! ### of registers that nobody made -/
set_option maxRecDepth 100000 in
theorem save_nil (p : Nat) (f : Int) (w : World) : Calls Tryz.prog 15 #[.pointer (some ⟨p, 0, none⟩), .int .i64 f, .pointer none] w fun e w' => e = .returned (.int .i64 13) ∧ Below w.heap.size w w' := by
  go_enter Tryz.func15, Tryz.ntmps15
  go_wp2_with (first
    | (go_at_call 42; refine (both_nil _ _ _).mono ?_; rintro e1 w1 ⟨rfl, hw⟩; subst w1)
    | fail)
  go_ret
  exact ⟨rfl, bal (bal (bal (Below.refl _ _) _) _) _⟩
set_option maxRecDepth 100000 in
theorem load_zero (p r : Nat) (f : Int) (w : World) (hr : w.cell? ⟨r, 8, none⟩ = some (.bool false)) : Calls Tryz.prog 17 #[.pointer (some ⟨p, 0, none⟩), .int .i64 f, .pointer (some ⟨r, 0, none⟩)] w fun e w' => e = .returned (.int .i64 13) ∧ Below w.heap.size w w' := by
  have HB := rhide (bal (bal (bal (Below.refl w.heap.size w) (.cells #[.pointer (some ⟨p, 0, none⟩)] 26)) (.cells #[.int .i64 f] 3)) (.cells #[.pointer (some ⟨r, 0, none⟩)] 30))
  have HR : Hid (w.cell? ⟨r, 8, none⟩ = some (.bool false)) := hr
  clear hr
  go_enter Tryz.func17, Tryz.ntmps17
  go_wp2_with (first
    | (go_at_call 42; refine (both_zero _ _ _ _ ((HB.out.cell (p := ⟨r, 8, none⟩) (World.block_lt_of_cell? w _ HR.out)).trans HR.out)).mono ?_; rintro e1 w1 ⟨rfl, hw⟩; subst w1)
    | fail)
  go_ret
  exact ⟨rfl, HB.out⟩
/-! ### awake -/
set_option maxRecDepth 100000 in
theorem awake_any (w : World) : Calls Tryz.prog 28 #[] w fun e w' => e = .returned (.bool true) ∧ Below w.heap.size w w' := by
  have H1 : Hid (∀ w1, Calls Tryz.prog 23 #[.agg #[.int .i64 4, .int .i64 0, .int .i64 0, .int .i64 0, .int .i64 0]] w1 fun e w' => e = .returned (.int .i64 1) ∧ Below w1.heap.size w1 w') := fun w1 => by
    have := check_any ⟨4, 0, 0, 0, 0⟩ (by unfold Fi In64; decide) w1
    rwa [show ckE ⟨4, 0, 0, 0, 0⟩ = 1 from rfl] at this
  have H0 : Hid (∀ w1, Calls Tryz.prog 23 #[.agg #[.int .i64 0, .int .i64 0, .int .i64 0, .int .i64 0, .int .i64 0]] w1 fun e w' => e = .returned (.int .i64 0) ∧ Below w1.heap.size w1 w') := fun w1 => by
    have := check_any th0 (by unfold Fi In64 th0; decide) w1
    rwa [show ckE th0 = 0 from rfl] at this
  go_enter Tryz.func28, Tryz.ntmps28
  go_wp2_with (first
    | (go_at_call 23; refine (H1.out _).mono ?_; rintro e1 w1 ⟨rfl, hb1⟩; have H2 : Hid (Below w.heap.size w w1) := hb1; clear hb1 H1)
    | (go_at_call 23; refine (H0.out _).mono ?_; rintro e2 w2 ⟨rfl, hb2⟩; have H3 : Hid (Below w.heap.size w w2) := H2.out.trans (hb2.mono H2.out.size); clear hb2)
    | fail)
  go_ret
  exact ⟨rfl, H3.out⟩
end Go.Proofs.YtaajacmbnigadaaGreatDoor.Pthd
