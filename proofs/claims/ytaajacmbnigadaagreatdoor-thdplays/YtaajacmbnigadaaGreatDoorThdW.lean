/- What the document's Save, Load and Reg of layer 18 answer and do: its memory and its registers side by side, both lists of words: apart by where they lie (Top, KeepX). -/
import Derived.Test.YtaajacmbnigadaaGreatDoorThdT
import Derived.Test.YtaajacmbnigadaaGreatDoorBunRegs
namespace Go.Proofs.YtaajacmbnigadaaGreatDoor.Pthd
open Go.Proofs.YtaajacmbnigadaaGreatDoor.Pbase Go.Proofs.YtaajacmbnigadaaGreatDoor.Play Go.Proofs.YtaajacmbnigadaaGreatDoor.Pmem
open Go.RowKit
set_option linter.unusedVariables false

/-- Eight words. -/
def FitL (L : Nat → Int) : Prop := ∀ j, j < 8 → 0 ≤ L j ∧ L j ≤ 18446744073709551615
/-- The document's memory below T, its registers from R on. -/
structure Rr (w : World) (base q N : Nat) (M : Nat → Nat → Int) (T R s : Nat) (L : Nat → Int) : Prop where
  rx : Rx w base q N M
  top : Top w q T
  le : T ≤ R
  rf : Pregs.RefIs w R s L
  fl : FitL L
section
variable {w w' : World} {base q N : Nat} {M M' : Nat → Nat → Int} {T R s : Nat} {L L' : Nat → Int}
theorem Rr.on (h : Rr w base q N M T R s L) (hB : Below w.heap.size w w') : Rr w' base q N M T R s L :=
  ⟨h.rx.grown hB, h.top.under (hB.mono h.top.1), h.le, h.rf.more hB, h.fl⟩
/-- The memory has turned. -/
theorem Rr.mem (h : Rr w base q N M T R s L) (hR : Rx w' base q N M') (hK : KeepX q w w') : Rr w' base q N M' T R s L :=
  ⟨hR, (hK.up T h.top).1, h.le, h.rf.on fun k h1 h2 => (hK.up T h.top).2 k (Nat.le_trans h.le h1) h2, h.fl⟩
/-- The registers have. -/
theorem Rr.reg (h : Rr w base q N M T R s L) (hR : Pregs.RefIs w' R s L') (hB : Below R w w') (hF : FitL L') : Rr w' base q N M T R s L' :=
  ⟨⟨h.rx.ref.under h.top (hB.mono h.le), h.rx.fit, h.rx.n1, h.rx.n64⟩, h.top.under (hB.mono h.le), h.le, hR, hF⟩
end
/-! ### Reg -/
set_option maxRecDepth 100000 in
set_option maxHeartbeats 1000000 in
theorem rreg_any (base q N : Nat) (f i v : Int) (M : Nat → Nat → Int) (w : World) (h : Rx w base q N M) (hv : 0 ≤ v ∧ v ≤ 18446744073709551615) :
    Calls Tryz.prog 20 #[.pointer (some ⟨q, 0, none⟩), .int .i64 f, .int .i64 i, .int .u64 v] w fun e w' => e = .returned (.int .i64 (rgE N M f i)) ∧ Rx w' base q N (rgM N M f i v) ∧ Below base w w' ∧ KeepX q w w' := by
  have HIs : Hid (Calls Tryz.prog 40 #[.pointer (some ⟨q, 0, none⟩), .int .i64 f, .int .i64 4] w fun e w' => e = .returned (.int .i64 (Phead.isE N M f 4)) ∧ Below w.heap.size w w') := Phead.hris_any base q N f 4 M w h.n1 h.n64 h.ref h.fit
  have H0 : Hid (Rh w w base q N M) := ⟨h, Below.refl _ _, KeepX.refl _ _⟩
  clear h
  by_cases hk : Phead.isE N M f 4 = 0
  · have hf := isE_ok hk
    rw [hk] at HIs
    by_cases hi : 0 ≤ i ∧ i < 8
    · have hg : okG i = true := (okG_iff i).2 hi
      have e1 : rgE N M f i = 0 := by unfold rgE; rw [if_pos hk, if_pos hg]
      have e2 : rgM N M f i v = stW N M f (9 + i) v := by unfold rgM; rw [if_pos e1]
      have e3 : errW N f (9 + i) = 0 := by unfold errW okW; rw [hf]; simp; omega
      rw [e1, e2]
      have t1 : ¬ i < 0 := by omega
      have t2 : ¬ 8 ≤ i := by omega
      have t3 : wrap64 (9 + i) = 9 + i := by unfold wrap64; omega
      have HV := rhide hv
      have E3 := rhide e3
      clear e1 e2 e3 hk hf hi hg hv
      go_enter Tryz.func20, Tryz.ntmps20
      go_wp2_with (first
        | (go_at_call 40; refine HIs.out.mono ?_; rintro e1 w1 ⟨rfl, hb⟩; have H1 := rhide (H0.out.on hb); clear hb HIs H0)
        | (go_at_call 32; refine (ystore_any base q N f (9 + i) v M _ H1.out.rx.n1 H1.out.rx.n64 H1.out.rx.ref).mono ?_; rintro e2 w2 ⟨rfl, hr, hb, hk⟩; rw [E3.out]; have H2 := rhide (And.intro (H1.out.rx.turn hr (H1.out.rx.fit.st N f _ v HV.out)) (And.intro (H1.out.below.trans hb) (H1.out.kp.trans hk))); clear hr hb hk H1)
        | fail)
      go_ret
      exact ⟨rfl, H2.out⟩
    · have hg : okG i = false := by cases hb : okG i; rfl; exact absurd ((okG_iff i).1 hb) hi
      have e1 : rgE N M f i = 1 := by unfold rgE; rw [if_pos hk, hg]; rfl
      have e2 : rgM N M f i v = M := by unfold rgM; rw [if_neg (by rw [e1]; decide)]
      rw [e1, e2]
      have hn : i < 0 ∨ (¬ i < 0 ∧ 8 ≤ i) := by omega
      clear e1 e2 hk hf hi hg hv
      rcases hn with t1 | ⟨t1, t2⟩
      all_goals
        go_enter Tryz.func20, Tryz.ntmps20
        go_wp2_with (first
          | (go_at_call 40; refine HIs.out.mono ?_; rintro e1 w1 ⟨rfl, hb⟩; have H1 := rhide (H0.out.on hb); clear hb HIs H0)
          | fail)
        go_ret
        exact ⟨rfl, H1.out.rx, H1.out.below, H1.out.kp⟩
  · have e1 : rgE N M f i = 4 := by unfold rgE; rw [if_neg hk]
    have e2 : rgM N M f i v = M := by unfold rgM; rw [if_neg (by rw [e1]; decide)]
    rw [e1, e2]
    generalize Phead.isE N M f 4 = E at HIs hk
    have hE : (E != 0) = true := by simp [hk]
    clear e1 e2 hk hv
    go_enter Tryz.func20, Tryz.ntmps20
    go_wp2_with (first
      | (go_at_call 40; refine HIs.out.mono ?_; rintro e1 w1 ⟨rfl, hb⟩; have H1 := rhide (H0.out.on hb); clear hb HIs H0)
      | fail)
    go_ret
    exact ⟨rfl, H1.out.rx, H1.out.below, H1.out.kp⟩
/-! ### Save -/
/-- Both, and what was laid since. -/
structure Rs (w W : World) (base q N : Nat) (M : Nat → Nat → Int) (T R s : Nat) (L : Nat → Int) : Prop where
  rr : Rr W base q N M T R s L
  below : Below base w W
  kp : KeepX q w W
theorem Rs.on {w W W' : World} {base q N : Nat} {M : Nat → Nat → Int} {T R s : Nat} {L : Nat → Int} (h : Rs w W base q N M T R s L) (hB : Below W.heap.size W W') : Rs w W' base q N M T R s L := ⟨h.rr.on hB, h.below.trans (hB.mono h.rr.rx.le), h.kp.trans (KeepX.below hB)⟩
/-- Both, where the registers alone turn. -/
structure Rl (w W : World) (base q N : Nat) (M : Nat → Nat → Int) (T R s : Nat) (L : Nat → Int) : Prop where
  rr : Rr W base q N M T R s L
  below : Below R w W
theorem Rr.size {w : World} {base q N : Nat} {M : Nat → Nat → Int} {T R s : Nat} {L : Nat → Int} (h : Rr w base q N M T R s L) : R ≤ w.heap.size := by
  obtain ⟨b, cap, hA⟩ := h.rf
  exact Nat.le_trans hA.ge (Nat.le_of_lt hA.lt)
theorem Rl.on {w W W' : World} {base q N : Nat} {M : Nat → Nat → Int} {T R s : Nat} {L : Nat → Int} (h : Rl w W base q N M T R s L) (hB : Below W.heap.size W W') : Rl w W' base q N M T R s L := ⟨h.rr.on hB, h.below.trans (hB.mono h.rr.size)⟩
set_option maxRecDepth 100000 in
set_option maxHeartbeats 1000000 in
theorem rsave_any (base q N : Nat) (f : Int) (M : Nat → Nat → Int) (T R s : Nat) (L : Nat → Int) (w : World) (h : Rr w base q N M T R s L) :
    Calls Tryz.prog 16 #[.pointer (some ⟨q, 0, none⟩), .int .i64 f, .pointer (some ⟨s, 0, none⟩)] w fun e w' => e = .returned (.int .i64 (svE N M f)) ∧ Rr w' base q N (svM N M f L) T R s L ∧ Below base w w' ∧ KeepX q w w' := by
  have HIs : Hid (Calls Tryz.prog 40 #[.pointer (some ⟨q, 0, none⟩), .int .i64 f, .int .i64 4] w fun e w' => e = .returned (.int .i64 (Phead.isE N M f 4)) ∧ Below w.heap.size w w') := Phead.hris_any base q N f 4 M w h.rx.n1 h.rx.n64 h.rx.ref h.rx.fit
  have H0 : Hid (Rs w w base q N M T R s L) := ⟨h, Below.refl _ _, KeepX.refl _ _⟩
  clear h
  by_cases hk : Phead.isE N M f 4 = 0
  · have e1 : svE N M f = 0 := by unfold svE; rw [if_pos hk]
    have e2 : svM N M f L = regF N M f L 8 := by unfold svM; rw [if_pos e1]
    rw [e1, e2]
    rw [hk] at HIs
    clear e1 e2 hk
    go_enter Tryz.func16, Tryz.ntmps16
    go_wp2_with (first
      | (go_at_call 40; refine HIs.out.mono ?_; rintro e1 w1 ⟨rfl, hb⟩; have H1 := rhide (H0.out.on hb); clear hb HIs H0)
      | fail)
    go_loopw [7] (fun i wr => ∃ k : Nat, k ≤ 8 ∧ i = .int .i64 k ∧ Rs w wr base q N (regF N M f L k) T R s L) (fun i _ => 8 - (intOf i).toNat)
    case atStart => exact ⟨0, by omega, rfl, by rw [reg_zero]; exact H1.out⟩
    case round =>
      obtain ⟨k, hk, rfl, hI⟩ := hrel
      clear H1
      by_cases hlt : k < 8
      · have hki : (k : Int) < 8 := by omega
        obtain ⟨b, cap, hA⟩ := hI.rr.rf
        have c1 := hA.cell
        have c2 := hA.list.cell hlt
        have t3 : wrap64 (9 + (k : Int)) = 9 + (k : Int) := by unfold wrap64; omega
        have HX : Hid (0 ≤ L k ∧ L k ≤ 18446744073709551615) := hI.rr.fl k hlt
        have HS := rhide (reg_step (N := N) (M := M) (f := f) (L := L) hlt)
        generalize L k = v at c2 HX HS
        have HI := rhide hI
        clear hI hA
        go_wp2_with (first
          | (go_at_call 32; refine (ystore_any base q N f (9 + (k : Int)) v _ _ HI.out.rr.rx.n1 HI.out.rr.rx.n64 HI.out.rr.rx.ref).mono ?_; rintro e2 w2 ⟨rfl, hr, hb, hk2⟩; have H2 : Hid (Rs w w2 base q N (stW N (regF N M f L k) f (9 + (k : Int)) v) T R s L) := ⟨HI.out.rr.mem (HI.out.rr.rx.turn hr (HI.out.rr.rx.fit.st N f _ v HX.out)) hk2, HI.out.below.trans hb, HI.out.kp.trans hk2⟩; clear hr hb hk2 HI)
          | fail)
        go_roundw
        case rel =>
          refine ⟨k + 1, by omega, by go_num, ?_⟩
          rw [← HS.out]
          exact H2.out
        case measure => simp [intOf]; omega
      · obtain rfl : k = 8 := by omega
        have HI := rhide hI
        clear hI
        go_wp2
        go_ret
        exact ⟨rfl, HI.out.rr, HI.out.below, HI.out.kp⟩
  · have e1 : svE N M f = 4 := by unfold svE; rw [if_neg hk]
    have e2 : svM N M f L = M := by unfold svM; rw [if_neg (by rw [e1]; decide)]
    rw [e1, e2]
    generalize Phead.isE N M f 4 = E at HIs hk
    have hE : (E != 0) = true := by simp [hk]
    clear e1 e2 hk
    go_enter Tryz.func16, Tryz.ntmps16
    go_wp2_with (first
      | (go_at_call 40; refine HIs.out.mono ?_; rintro e1 w1 ⟨rfl, hb⟩; have H1 := rhide (H0.out.on hb); clear hb HIs H0)
      | fail)
    go_ret
    exact ⟨rfl, H1.out.rr, H1.out.below, H1.out.kp⟩
/-! ### Load -/
theorem rg_set {M : Nat → Nat → Int} {f : Int} {L : Nat → Int} {k : Nat} (hk : k < 8) : Pregs.setR (rgL M f L k) k (M f.toNat (9 + k)) = rgL M f L (k + 1) := by
  rw [← rg_step]
  unfold Pregs.setR
  rw [if_pos (Pregs.okR_nat hk), Int.toNat_natCast]
theorem fit_set {L : Nat → Int} (h : FitL L) {k : Nat} {v : Int} (hv : 0 ≤ v ∧ v ≤ 18446744073709551615) : FitL (Pregs.setR L k v) := by
  intro j hj
  unfold Pregs.setR
  split
  · dsimp only
    split
    · exact hv
    · exact h j hj
  · exact h j hj
set_option maxRecDepth 100000 in
set_option maxHeartbeats 1000000 in
theorem rloadt_any (base q N : Nat) (f : Int) (M : Nat → Nat → Int) (T R s : Nat) (L : Nat → Int) (w : World) (h : Rr w base q N M T R s L) :
    Calls Tryz.prog 18 #[.pointer (some ⟨q, 0, none⟩), .int .i64 f, .pointer (some ⟨s, 0, none⟩)] w fun e w' => e = .returned (.int .i64 (svE N M f)) ∧ Rr w' base q N M T R s (ldL N M f L) ∧ Below R w w' := by
  have HIs : Hid (Calls Tryz.prog 40 #[.pointer (some ⟨q, 0, none⟩), .int .i64 f, .int .i64 4] w fun e w' => e = .returned (.int .i64 (Phead.isE N M f 4)) ∧ Below w.heap.size w w') := Phead.hris_any base q N f 4 M w h.rx.n1 h.rx.n64 h.rx.ref h.rx.fit
  have H0 : Hid (Rl w w base q N M T R s L) := ⟨h, Below.refl _ _⟩
  clear h
  by_cases hk : Phead.isE N M f 4 = 0
  · have hf := isE_ok hk
    have e1 : svE N M f = 0 := by unfold svE; rw [if_pos hk]
    have e2 : ldL N M f L = rgL M f L 8 := by unfold ldL; rw [if_pos e1]
    rw [e1, e2]
    rw [hk] at HIs
    have HF := rhide hf
    clear e1 e2 hk hf
    go_enter Tryz.func18, Tryz.ntmps18
    go_wp2_with (first
      | (go_at_call 40; refine HIs.out.mono ?_; rintro e1 w1 ⟨rfl, hb⟩; have H1 := rhide (H0.out.on hb); clear hb HIs H0)
      | fail)
    go_loopw [7] (fun i wr => ∃ k : Nat, k ≤ 8 ∧ i = .int .i64 k ∧ Rl w wr base q N M T R s (rgL M f L k)) (fun i _ => 8 - (intOf i).toNat)
    case atStart => exact ⟨0, by omega, rfl, by rw [rg_zero]; exact H1.out⟩
    case round =>
      obtain ⟨k, hk, rfl, hI⟩ := hrel
      clear H1
      by_cases hlt : k < 8
      · have hki : (k : Int) < 8 := by omega
        obtain ⟨b, cap, hA⟩ := hI.rr.rf
        have c1 := hA.cell
        have c2 := hA.list.cell hlt
        have z2 := hA.list.free k
        have t3 : wrap64 (9 + (k : Int)) = 9 + (k : Int) := by unfold wrap64; omega
        have e3 : ldM N M f (9 + (k : Int)) = M f.toNat (9 + k) := by
          have ho : okW N f (9 + (k : Int)) = true := by unfold okW; rw [HF.out]; simp; omega
          unfold ldM
          rw [if_pos ho]
          congr 1
        have HX : Hid (0 ≤ M f.toNat (9 + k) ∧ M f.toNat (9 + k) ≤ 18446744073709551615) := hI.rr.rx.fit _ _
        have HL : Hid (Calls Tryz.prog 48 #[.pointer (some ⟨q, 0, none⟩), .int .i64 f, .int .i64 (9 + (k : Int))] wr fun x w' => x = .returned (.tuple #[.int .u64 (M f.toNat (9 + k)), .int .i64 (errW N f (9 + (k : Int)))]) ∧ w' = wr) := by
          have := Pmem.rload_any base q N f (9 + (k : Int)) M wr hI.rr.rx.n1 hI.rr.rx.n64 hI.rr.rx.ref
          rwa [e3] at this
        have HS := rhide (rg_set (M := M) (f := f) (L := L) hlt)
        have HR : Hid (Rl w (wr.setCell ⟨b, k, none⟩ (.int .u64 (M f.toNat (9 + k)))) base q N M T R s (Pregs.setR (rgL M f L k) k (M f.toNat (9 + k)))) := by
          have hb := (Below.refl R wr).setCell (p := ⟨b, k, none⟩) hA.gb (.int .u64 (M f.toNat (9 + k)))
          exact ⟨hI.rr.reg ⟨b, cap, hA.ge, (Below.heap_setCell _ _ _ _ hA.ne).trans hA.head, hA.list.put hlt _, hA.gb⟩ hb (fit_set hI.rr.fl HX.out), hI.below.trans hb⟩
        rw [HS.out] at HR
        generalize M f.toNat (9 + k) = v at HL HR
        generalize rgL M f L k k = u at c2
        clear hI hA e3 HS HX
        go_wp2_with (first
          | (go_at_call 48; refine HL.out.mono ?_; rintro e2 w2 ⟨rfl, hw⟩; subst hw; clear HL)
          | fail)
        go_roundw
        case rel => exact ⟨k + 1, by omega, by go_num, HR.out⟩
        case measure => simp [intOf]; omega
      · obtain rfl : k = 8 := by omega
        have HI := rhide hI
        clear hI
        go_wp2
        go_ret
        exact ⟨rfl, HI.out.rr, HI.out.below⟩
  · have e1 : svE N M f = 4 := by unfold svE; rw [if_neg hk]
    have e2 : ldL N M f L = L := by unfold ldL; rw [if_neg (by rw [e1]; decide)]
    rw [e1, e2]
    generalize Phead.isE N M f 4 = E at HIs hk
    have hE : (E != 0) = true := by simp [hk]
    clear e1 e2 hk
    go_enter Tryz.func18, Tryz.ntmps18
    go_wp2_with (first
      | (go_at_call 40; refine HIs.out.mono ?_; rintro e1 w1 ⟨rfl, hb⟩; have H1 := rhide (H0.out.on hb); clear hb HIs H0)
      | fail)
    go_ret
    exact ⟨rfl, H1.out.rr, H1.out.below⟩
end Go.Proofs.YtaajacmbnigadaaGreatDoor.Pthd
