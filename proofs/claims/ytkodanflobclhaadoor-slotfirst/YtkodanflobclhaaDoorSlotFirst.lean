/- For every list of numbers, the first forty of them laid as capabilities into the slots of one frame: a slot has nothing just where nothing was ever put, First answers the least such slot (or ErrNone where there is none), and Used counts those that have something still. Conditions: none but that package cap's two tables start as the program's text lays them (tied). -/
import Derived.Test.YtkodanflobclhaaDoorRows
import Derived.Test.YtkodanflobclhaaDoorTie
import Derived.Test.YtkodanflobclhaaDoorCards
import Derived.Test.YtkodanflobclhaaDoorSltE
import Derived.Test.YtkodanflobclhaaDoorSltI
import Derived.Deep.CutBlock
import Derived.WalkKit
import Derived.ProofKit
import Derived.OpenShut
import Derived.ShutString
import Derived.ChangeOld
import Derived.Below
import Derived.LaidMore
import Derived.Stop.Joined
import Derived.SevenTiedAt
namespace Go.Proofs.YtkodanflobclhaaDoor.slotFirst
open Go.ChangeShapes Go.WideShapes Go.ChangeAt Go.RowKit Go.Proofs.YtkodanflobclhaaDoor.Pbase Go.Proofs.YtkodanflobclhaaDoor.Pcap Go.Proofs.YtkodanflobclhaaDoor.Pfield Go.Proofs.YtkodanflobclhaaDoor.Pmem Go.Proofs.YtkodanflobclhaaDoor.Pslot
set_option linter.unusedVariables false

theorem own : ownKnob Tryd.prog.godebug = none := by kernel_rfl
theorem laidOut : laidOutB Tryd.prog = true := by kernel_rfl

def onRow (on : Nat → Bool) : Array Value := (Array.range 16).map fun i => .bool (on i)
theorem onRow_get {on : Nat → Bool} {i : Nat} (hi : i < 16) : (onRow on)[i]? = some (.bool (on i)) := by simp [onRow, hi]
theorem onRow_set {on : Nat → Bool} {a : Nat} (ha : a < 16) : (onRow on).setIfInBounds a (.bool true) = onRow fun j => if j = a then true else on j := by
  apply Array.ext_getElem?
  intro i
  by_cases hi : i < 16
  · rw [onRow_get hi, Array.getElem?_setIfInBounds]
    by_cases e : a = i
    · subst e
      rw [if_pos rfl, if_pos (by simpa [onRow] using ha), if_pos rfl]
    · rw [if_neg e, onRow_get hi, if_neg (fun h => e h.symm)]
  · simp [onRow, hi]
/-- A memory of one frame, its slots as 'on' tells them, and 'on' itself in block D. -/
structure Fi (w0 w : World) (p b D : Nat) (M : Nat → Nat → Int) (on : Nat → Bool) : Prop where
  mt : Mt w p b 1 M
  below : Below w0.heap.size w0 w
  row : w.heap[D]? = some (.cells (onRow on) 53 (0, 0))
  slots : ∀ i : Nat, i < 16 → sE 1 M 0 (i : Nat) = 0 ∧ ((on i = false ∧ sC 1 M 0 (i : Nat) 0 = 0) ∨ (on i = true ∧ (sC 1 M 0 (i : Nat) 0 = 11 ∨ sC 1 M 0 (i : Nat) 0 = 1)))
  lo : w0.heap.size ≤ b
  ne : b < D
theorem Fi.to {w0 w w' : World} {p b D : Nat} {M : Nat → Nat → Int} {on : Nat → Bool} (h : Fi w0 w p b D M on) (hB : Below w.heap.size w w') : Fi w0 w' p b D M on :=
  ⟨h.mt.on hB, h.below.trans (hB.mono h.below.size), (hB.block D (Array.getElem?_eq_some_iff.1 h.row).1).trans h.row, h.slots, h.lo, h.ne⟩
theorem Fi.cell {w0 w : World} {p b D : Nat} {M : Nat → Nat → Int} {on : Nat → Bool} (h : Fi w0 w p b D M on) {i : Nat} (hi : i < 16) : w.cell? ⟨D, i, none⟩ = some (.bool (on i)) := by
  rw [cell_of_row _ _ _ _ _ _ h.row, onRow_get hi]
/-- One slot is put to. -/
theorem Fi.step {w0 w w' : World} {p b D : Nat} {M : Nat → Nat → Int} {on : Nat → Bool} (h : Fi w0 w p b D M on) {A : Nat} {k r t l e a : Int} (hA : A < 16) (hm : Mt w' p b 1 (pM 1 M 0 A k r t l e a)) (hb : But b w w') (hp : pE 1 0 A k r t l e a = 0) (hk : k = 11 ∨ k = 1) :
    Fi w0 (w'.setCell ⟨D, A, none⟩ (.bool true)) p b D (pM 1 M 0 A k r t l e a) (fun j => if j = A then true else on j) ∧ w'.cell? ⟨D, A, none⟩ = some (.bool (on A)) ∧ w'.frozen? ⟨D, A, none⟩ = false := by
  have hD := (Array.getElem?_eq_some_iff.1 h.row).1
  have hr : w'.heap[D]? = some (.cells (onRow on) 53 (0, 0)) := (hb.block D hD (Nat.ne_of_gt h.ne)).trans h.row
  have hB : Below w0.heap.size w0 w' := h.below.trans (hb.below h.lo h.below.size)
  have bD : But D w' (w'.setCell ⟨D, A, none⟩ (.bool true)) := ⟨rfl, rfl, rfl, by simp, fun i _ hne => heap_setCell_other _ _ _ _ hne⟩
  have hp1 : p ≠ D := by
    rintro rfl
    have := hm.mem.head.symm.trans hr
    have := congrArg (fun o : Option Obj => match o with | some (.cells cs _ _) => cs.size | _ => 0) this
    simp [onRow] at this
  refine ⟨⟨⟨hm.mem.on (bD.block p hm.mem.lt.1 hp1) (bD.block b hm.mem.lt.2 (Nat.ne_of_lt h.ne)), tabM_but hm.tab bD ?_, tabW_but hm.tabw bD ?_, hm.fit, hm.n1, hm.n64⟩, bst hB (Nat.le_of_lt (Nat.lt_of_le_of_lt h.lo h.ne)) _ _, ?_, ?_, h.lo, h.ne⟩, (cell_of_row _ _ _ _ _ _ hr).trans (onRow_get hA), frozen_of_row _ _ _ _ _ hr⟩
  · intro e
    have h1 := hm.tab.cell 0 0 (by omega) (by omega)
    rw [e, cell_of_row _ _ _ _ _ _ hr, onRow_get (by omega)] at h1
    simp at h1
  · intro e
    obtain ⟨t1, fr, h1⟩ := hm.tabw.row
    rw [e, hr] at h1
    have := congrArg (fun o : Option Obj => match o with | some (.cells cs _ _) => cs.size | _ => 0) h1
    simp [onRow] at this
  · rw [heap_setCell_same _ _ _ _ _ _ hr, onRow_set hA]
  · intro i hi
    obtain ⟨s1, s2⟩ := h.slots i hi
    by_cases e1 : i = A
    · subst e1
      obtain ⟨g, g0, _⟩ := put_got (M := M) hp
      refine ⟨g, .inr ⟨by simp, ?_⟩⟩
      rw [g0]
      exact hk
    · obtain ⟨g, g0⟩ := put_other (N := 1) (M := M) (f := 0) (i := A) (k := k) (r := r) (t := t) (l := l) (e := e) (a := a) (g := 0) hi (.inr (by omega))
      rw [g, g0 0]
      simp only [e1, if_false]
      exact ⟨s1, s2⟩
theorem pe_hw {A : Nat} (h : A < 16) : pE 1 0 A 11 1 0 0 0 0 = 0 := by
  unfold pE
  rw [okS_nat h, rtB_yes (show Rt 11 1 0 0 0 0 by unfold Rt; omega)]
  rfl
theorem pe_quiet {A : Nat} (h : A < 16) : pE 1 0 A 1 0 0 0 0 7 = 0 := by
  unfold pE
  rw [okS_nat h, rtB_yes (show Rt 1 0 0 0 0 7 by unfold Rt; omega)]
  rfl
/-- What has come out of the first k slots. -/
def Ft (on : Nat → Bool) (k : Nat) (x : Int) : Prop := (x = -1 ∧ ∀ i, i < k → on i = true) ∨ ∃ m : Nat, x = m ∧ m < k ∧ on m = false ∧ ∀ i, i < m → on i = true
/-- A slot more that was put to. -/
theorem ft_more {on : Nat → Bool} {k : Nat} {x : Int} (h : Ft on k x) (ho : on k = true) : Ft on (k + 1) x := by
  rcases h with ⟨h1, h2⟩ | ⟨m, h1, h2, h3, h4⟩
  · refine .inl ⟨h1, fun i hi => ?_⟩
    by_cases e : i = k
    · subst e; exact ho
    · exact h2 i (by omega)
  · exact .inr ⟨m, h1, by omega, h3, h4⟩
/-- What First answers then. -/
theorem ft_first {M : Nat → Nat → Int} {on : Nat → Bool} {x : Int} (hs : ∀ i : Nat, i < 16 → sE 1 M 0 (i : Nat) = 0 ∧ ((on i = false ∧ sC 1 M 0 (i : Nat) 0 = 0) ∨ (on i = true ∧ (sC 1 M 0 (i : Nat) 0 = 11 ∨ sC 1 M 0 (i : Nat) 0 = 1)))) (h : Ft on 16 x) :
    (x = -1 ∧ fN 1 M 0 = 0 ∧ fE 1 M 0 = 3) ∨ ∃ m : Nat, x = m ∧ m < 16 ∧ fN 1 M 0 = m ∧ fE 1 M 0 = 0 := by
  have hno : ∀ i : Nat, i < 16 → on i = true → sC 1 M 0 (i : Nat) 0 ≠ 0 := fun i hi ho => by
    rcases (hs i hi).2 with ⟨h1, _⟩ | ⟨_, h1 | h1⟩
    · rw [ho] at h1; cases h1
    · rw [h1]; decide
    · rw [h1]; decide
  have hyes : ∀ i : Nat, i < 16 → on i = false → sC 1 M 0 (i : Nat) 0 = 0 := fun i hi ho => by
    rcases (hs i hi).2 with ⟨_, h1⟩ | ⟨h1, _⟩
    · exact h1
    · rw [ho] at h1; cases h1
  rcases h with ⟨rfl, h⟩ | ⟨m, rfl, hm, h1, h2⟩
  · have := first_is (N := 1) (M := M) (f := 0) (m := 16) (fun i hi => (hs i hi).1) (Nat.le_refl _) (fun i hi => hno i hi (h i hi)) (fun h => by omega)
    exact .inl ⟨rfl, by simpa using this⟩
  · have := first_is (N := 1) (M := M) (f := 0) (m := m) (fun i hi => (hs i hi).1) (Nat.le_of_lt hm) (fun i hi => hno i (by omega) (h2 i hi)) (fun _ => hyes m hm h1)
    rw [if_pos hm, if_pos hm] at this
    exact .inr ⟨m, rfl, hm, this⟩
theorem used_is {M : Nat → Nat → Int} (hs : ∀ i : Nat, i < 16 → sE 1 M 0 (i : Nat) = 0) : uN 1 M 0 = cnt (fun i => sC 1 M 0 (i : Nat) 0) 16 ∧ aE 1 M 0 = 0 := by
  have ho : okA 1 M 0 = true := (okA_iff 1 M 0).2 hs
  simp [uN, aN, aE, ho]
theorem fi_new {w w1 : World} (hM : Mt w1 (w.heap.size + 1) w.heap.size 1 fun _ _ => 0) (hB : Below w.heap.size w w1) (hs : w1.heap.size = w.heap.size + 2) :
    Fi w (w1.alloc (.cells #[.bool false, .bool false, .bool false, .bool false, .bool false, .bool false, .bool false, .bool false, .bool false, .bool false, .bool false, .bool false, .bool false, .bool false, .bool false, .bool false] 53)) (w.heap.size + 1) w.heap.size w1.heap.size (fun _ _ => 0) (fun _ => false) :=
  ⟨hM.on (bal (Below.refl _ _) _), bal hB _, (heap_alloc_new w1 _).trans (by rw [show onRow (fun _ => false) = #[.bool false, .bool false, .bool false, .bool false, .bool false, .bool false, .bool false, .bool false, .bool false, .bool false, .bool false, .bool false, .bool false, .bool false, .bool false, .bool false] from by kernel_rfl]), fun i hi => ⟨(zero_slot hi okF1).1, .inl ⟨rfl, (zero_slot hi okF1).2 0 (by omega)⟩⟩, Nat.le_refl _, by omega⟩
/-- A number's half and its last bit. -/
theorem half_u8 {z : Int} (h : (Lit.int .u8 z).wf = true) : ∃ y A : Nat, z.tdiv 2 = y ∧ y ≤ 127 ∧ (y : Int).tmod 16 = A ∧ A < 16 := by
  have hz := bounds_u8 h
  have h1 := Int.tdiv_eq_ediv_of_nonneg (b := 2) hz.1
  refine ⟨(z / 2).toNat, (z / 2).toNat % 16, by rw [h1]; omega, by omega, ?_, by omega⟩
  rw [Int.tmod_eq_emod_of_nonneg (by omega)]
  omega
theorem bit_u8 {z : Int} (h : (Lit.int .u8 z).wf = true) : (z.tmod 2 == 1) = true ∨ (z.tmod 2 == 1) = false := by
  cases z.tmod 2 == 1 <;> simp

theorem walk (a0 : Option Addr) (len0 cap0 : Nat) (w : World) (w0 : Hid (Came .u8 w.heap.size w a0 len0)) (l0 : len0 ≤ 9223372036854775807) (hT : TabM w) (hW : TabW w) :
    Calls Tryd.prog 5 #[.slice a0 len0 cap0] w fun e w' => e = .returned (.bool true) ∧ Below w.heap.size w w' := by
  have HT : Hid (TabM w ∧ TabW w) := ⟨hT, hW⟩
  have H0 : Hid (Mt (newW w 1) (w.heap.size + 1) w.heap.size 1 (fun _ _ => 0) ∧ Below w.heap.size w (newW w 1) ∧ (newW w 1).heap.size = w.heap.size + 2) := ⟨mt_new hT hW (by omega) (by omega), newW_below w 1, newW_size w 1⟩
  clear hT hW
  go_enter Tryd.func5, Tryd.ntmps5
  go_upto_region 5 with (first
    | (go_at_call 19; refine (new_ok 1 _ (by omega) (by omega)).mono ?_; rintro e1 w1 ⟨rfl, hw1⟩; rw [← hw1] at H0; clear hw1)
    | fail)
  have hF0 := fi_new H0.out.1 H0.out.2.1 H0.out.2.2
  generalize w1.alloc _ = v1 at hF0 ⊢
  generalize w1.heap.size = D at hF0 H0 ⊢
  generalize w.heap.size + 1 = p at hF0 ⊢
  have HF0 : Hid (Fi w v1 p w.heap.size D (fun _ _ => 0) (fun _ => false)) := hF0
  clear hF0 H0
  have hC := w0
  clear w0
  go_upto_block 0 with fail
  go_cut [2, 7, 8, 9] from 24 to 55 (fun _ _ _ _ wc => ∃ M on, Fi w wc p w.heap.size D M on)
  case first =>
   go_wp2_with fail
   go_loopw [7] (fun i wr => ∃ k : Nat, k ≤ len0 ∧ i = .int .i64 k ∧ ∃ M on, Fi w wr p w.heap.size D M on) (fun i _ => len0 - (intOf i).toNat)
   case atStart => exact ⟨0, by omega, rfl, _, _, HF0.out⟩
   case round =>
     obtain ⟨k, hk, rfl, M, on, hI⟩ := hrel
     have HI : Hid (Fi w wr p w.heap.size D M on) := hI
     clear hI HF0
     by_cases hlt : k < len0 ∧ k < 40
     · obtain ⟨h1, h2⟩ := hlt
       have i1 : (k : Int) < (len0 : Int) := by omega
       have i2 : (k : Int) < 40 := by omega
       obtain ⟨bz, oz, z, rfl, HZ, G⟩ := hC.out.any h1
       have c1 := G.out wr HI.out.below
       obtain ⟨y, A, hy, hy2, hA, hA2⟩ := half_u8 HZ.out
       have HB2 := bal (Below.refl wr.heap.size wr) (.cells #[.int .i64 11, .int .i64 1, .int .i64 0, .int .i64 0, .int .i64 0, .int .i64 0] 32)
       have hx := box6_new wr 11 1 0 0 0 0 32
       rcases bit_u8 HZ.out with hb | hb
       · go_upto_region 11 with fail
         generalize wr.alloc _ = v2 at HB2 hx ⊢
         have H2 : Hid (Below wr.heap.size wr v2) := HB2
         clear c1 HB2
         have c1 := G.out v2 (HI.out.below.trans (H2.out.mono HI.out.below.size))
         have x0 := hx.c0
         have x1 := hx.c1
         have x2 := hx.c2
         have x3 := hx.c3
         have x4 := hx.c4
         have x5 := hx.c5
         have z0 := hx.fz 0
         have z1 := hx.fz 1
         have z2 := hx.fz 2
         have z3 := hx.fz 3
         have z4 := hx.fz 4
         have z5 := hx.fz 5
         clear hx
         have H3 : Hid (∀ v, v = (((((v2.setCell ⟨wr.heap.size, 0, none⟩ (.int .i64 1)).setCell ⟨wr.heap.size, 1, none⟩ (.int .i64 0)).setCell ⟨wr.heap.size, 2, none⟩ (.int .i64 0)).setCell ⟨wr.heap.size, 3, none⟩ (.int .i64 0)).setCell ⟨wr.heap.size, 4, none⟩ (.int .i64 0)).setCell ⟨wr.heap.size, 5, none⟩ (.int .i64 7) → Fi w v p w.heap.size D M on) := fun v e => by
           rw [e]
           exact HI.out.to (bst (bst (bst (bst (bst (bst H2.out (Nat.le_refl _) _ _) (Nat.le_refl _) _ _) (Nat.le_refl _) _ _) (Nat.le_refl _) _ _) (Nat.le_refl _) _ _) (Nat.le_refl _) _ _)
         generalize wr.heap.size = q at x0 x1 x2 x3 x4 x5 z0 z1 z2 z3 z4 z5 H3 ⊢
         go_wp2_with (first
           | (go_at_call 7; refine (sput_any p w.heap.size 1 0 (A : Int) 1 0 0 0 0 7 M _ (H3.out _ rfl).mt).mono ?_; rintro e3 w3 ⟨rfl, hm, hb3⟩; rw [pe_quiet hA2]; obtain ⟨hn, m1, m2⟩ := (H3.out _ rfl).step hA2 hm hb3 (pe_quiet hA2) (.inr rfl); have HN : Hid (Fi w (w3.setCell ⟨D, A, none⟩ (.bool true)) p w.heap.size D (pM 1 M 0 A 1 0 0 0 0 7) (fun j => if j = A then true else on j)) := hn; clear hn hm hb3 H3)
           | fail)
         go_roundw
         case rel => exact ⟨k + 1, by omega, by go_num, _, _, HN.out⟩
         case measure => simp [intOf]; omega
       · go_upto_region 11 with fail
         generalize wr.alloc _ = v2 at HB2 hx ⊢
         have H2 : Hid (Below wr.heap.size wr v2) := HB2
         clear c1 HB2
         have c1 := G.out v2 (HI.out.below.trans (H2.out.mono HI.out.below.size))
         have x0 := hx.c0
         have x1 := hx.c1
         have x2 := hx.c2
         have x3 := hx.c3
         have x4 := hx.c4
         have x5 := hx.c5
         clear hx
         have H3 : Hid (Fi w v2 p w.heap.size D M on) := HI.out.to H2.out
         generalize wr.heap.size = q at x0 x1 x2 x3 x4 x5 ⊢
         go_wp2_with (first
           | (go_at_call 7; refine (sput_any p w.heap.size 1 0 (A : Int) 11 1 0 0 0 0 M _ H3.out.mt).mono ?_; rintro e3 w3 ⟨rfl, hm, hb3⟩; rw [pe_hw hA2]; obtain ⟨hn, m1, m2⟩ := H3.out.step hA2 hm hb3 (pe_hw hA2) (.inl rfl); have HN : Hid (Fi w (w3.setCell ⟨D, A, none⟩ (.bool true)) p w.heap.size D (pM 1 M 0 A 11 1 0 0 0 0) (fun j => if j = A then true else on j)) := hn; clear hn hm hb3 H3)
           | fail)
         go_roundw
         case rel => exact ⟨k + 1, by omega, by go_num, _, _, HN.out⟩
         case measure => simp [intOf]; omega
     · have hin : ¬ k < len0 ∨ (k < len0 ∧ ¬ k < 40) := by omega
       clear hlt hC
       rcases hin with h1 | ⟨h1, h2⟩
       · have i1 : ¬ (k : Int) < (len0 : Int) := by omega
         go_wp2_with fail
         go_meet
         exact ⟨M, on, HI.out⟩
       · have i1 : (k : Int) < (len0 : Int) := by omega
         have i2 : ¬ (k : Int) < 40 := by omega
         go_wp2_with fail
         go_meet
         exact ⟨M, on, HI.out⟩
  case rest =>
   obtain ⟨M, on, hI⟩ := hcut
   have HI : Hid (Fi w wc p w.heap.size D M on) := hI
   clear hI HF0 hC
   have HS : Hid (∀ i : Nat, i < 16 → sE 1 M 0 (i : Nat) = 0 ∧ ((on i = false ∧ sC 1 M 0 (i : Nat) 0 = 0) ∨ (on i = true ∧ (sC 1 M 0 (i : Nat) 0 = 11 ∨ sC 1 M 0 (i : Nat) 0 = 1)))) := HI.out.slots
   go_wp2
   go_loopw [6, 10, 11] (fun n x i wr => ∃ k : Nat, k ≤ 16 ∧ i = .int .i64 k ∧ n = .int .i64 (cnt (fun i => sC 1 M 0 (i : Nat) 0) k) ∧ (∃ z, x = .int .i64 z ∧ Ft on k z) ∧ Fi w wr p w.heap.size D M on) (fun _ _ i _ => 16 - (intOf i).toNat)
   case atStart => exact ⟨0, by omega, rfl, rfl, ⟨-1, rfl, .inl ⟨rfl, fun i hi => by omega⟩⟩, HI.out⟩
   case round =>
    obtain ⟨k, hk, rfl, rfl, ⟨x, rfl, hx⟩, hJ⟩ := hrel
    have HJ : Hid (Fi w wr p w.heap.size D M on) := hJ
    have HX : Hid (Ft on k x) := hx
    clear hJ hx HI
    by_cases hlt : k < 16
    · have hki : (k : Int) < 16 := by omega
      have hle := cnt_le (fun i => sC 1 M 0 (i : Nat) 0) k
      have hsucc : cnt (fun i => sC 1 M 0 (i : Nat) 0) (k + 1) = cnt (fun i => sC 1 M 0 (i : Nat) 0) k + if 1 < sC 1 M 0 (k : Nat) 0 then 1 else 0 := rfl
      obtain ⟨s1, s2⟩ := HS.out k hlt
      have HG : Hid (∀ wc, Mt wc p w.heap.size 1 M → Calls Tryd.prog 9 #[.pointer (some ⟨p, 0, none⟩), .int .i64 0, .int .i64 k] wc fun y w' => y = .returned (.tuple #[.agg #[.int .i64 (sC 1 M 0 (k : Nat) 0), .int .i64 (sC 1 M 0 (k : Nat) 1), .int .i64 (sC 1 M 0 (k : Nat) 2), .int .i64 (sC 1 M 0 (k : Nat) 3), .int .i64 (sC 1 M 0 (k : Nat) 4), .int .i64 (sC 1 M 0 (k : Nat) 5)], .int .i64 0]) ∧ Below wc.heap.size wc w') := fun wc h => by
        have := sget_any p w.heap.size 1 0 (k : Nat) M wc h
        rwa [s1] at this
      generalize sC 1 M 0 (k : Nat) 0 = K at HG s2 hsucc
      generalize sC 1 M 0 (k : Nat) 1 = K1 at HG
      generalize sC 1 M 0 (k : Nat) 2 = K2 at HG
      generalize sC 1 M 0 (k : Nat) 3 = K3 at HG
      generalize sC 1 M 0 (k : Nat) 4 = K4 at HG
      generalize sC 1 M 0 (k : Nat) 5 = K5 at HG
      generalize cnt (fun i => sC 1 M 0 (i : Nat) 0) k = u at hle hsucc ⊢
      clear s1
      have hu : wrap64 ((u : Int) + 1) = (u : Int) + 1 := by unfold wrap64; omega
      go_upto_region 21 with (first
        | (go_at_call 9; refine (HG.out _ HJ.out.mt).mono ?_; rintro e2 w2 ⟨rfl, hb⟩; have H2 : Hid (Fi w w2 p w.heap.size D M on) := HJ.out.to hb; clear hb)
        | fail)
      have H3 := H2.out.to (bal (Below.refl w2.heap.size w2) (.cells #[.int .i64 K, .int .i64 K1, .int .i64 K2, .int .i64 K3, .int .i64 K4, .int .i64 K5] 32))
      have hx := box6_new w2 K K1 K2 K3 K4 K5 32
      generalize w2.alloc _ = v3 at H3 hx ⊢
      generalize w2.heap.size = q at hx ⊢
      have HV : Hid (Fi w v3 p w.heap.size D M on) := H3
      have x0 := hx.c0
      have y0 := H3.cell hlt
      have hon : on k = on k := rfl
      clear H3 hx H2 HJ HG
      obtain ⟨o, ho⟩ : ∃ o, o = on k := ⟨_, rfl⟩
      rw [← ho] at y0 s2
      have HO : Hid (o = on k) := ho
      clear ho hon
      have HSU : Hid (cnt (fun i => sC 1 M 0 (i : Nat) 0) (k + 1) = u + if 1 < K then 1 else 0) := hsucc
      clear hsucc
      rcases s2 with ⟨rfl, rfl⟩ | ⟨rfl, rfl | rfl⟩
      · go_quiet (fail)
        generalize hvd : v3.drewN _ = v4
        have H4 : Hid (Fi w v4 p w.heap.size D M on) := by rw [← hvd]; exact HV.out.to (below_drew' _ _ _)
        have x1 : v4.cell? ⟨q, 0, none⟩ = some (.int .i64 0) := by rw [← hvd]; exact x0
        have y1 : v4.cell? ⟨D, k, none⟩ = some (.bool false) := by rw [← hvd]; exact y0
        clear hvd x0 y0 HV
        rcases HX.out with ⟨hx1, hx2⟩ | ⟨m, hx1, hm, hx2, hx3⟩
        · have HF : Hid (Ft on (k + 1) (k : Int)) := .inr ⟨k, rfl, by omega, HO.out.symm, hx2⟩
          subst hx1
          clear hx2 HX
          go_wp2
          go_roundw
          case rel => exact ⟨k + 1, by omega, by go_num, by rw [HSU.out]; simp, ⟨_, rfl, HF.out⟩, H4.out⟩
          case measure => simp [intOf]; omega
        · have HF : Hid (Ft on (k + 1) (m : Int)) := .inr ⟨m, rfl, by omega, hx2, hx3⟩
          have hm0 : ¬ (m : Int) < 0 := by omega
          subst hx1
          clear hx2 hx3 HX
          go_wp2
          go_roundw
          case rel => exact ⟨k + 1, by omega, by go_num, by rw [HSU.out]; simp, ⟨_, rfl, HF.out⟩, H4.out⟩
          case measure => simp [intOf]; omega
      · go_quiet (fail)
        generalize hvd : v3.drewN _ = v4
        have H4 : Hid (Fi w v4 p w.heap.size D M on) := by rw [← hvd]; exact HV.out.to (below_drew' _ _ _)
        have x1 : v4.cell? ⟨q, 0, none⟩ = some (.int .i64 11) := by rw [← hvd]; exact x0
        have y1 : v4.cell? ⟨D, k, none⟩ = some (.bool true) := by rw [← hvd]; exact y0
        have HF : Hid (Ft on (k + 1) x) := ft_more HX.out HO.out.symm
        clear hvd x0 y0 HV HX
        go_wp2
        go_roundw
        case rel => exact ⟨k + 1, by omega, by go_num, by rw [HSU.out]; simp, ⟨_, rfl, HF.out⟩, H4.out⟩
        case measure => simp [intOf]; omega
      · go_quiet (fail)
        generalize hvd : v3.drewN _ = v4
        have H4 : Hid (Fi w v4 p w.heap.size D M on) := by rw [← hvd]; exact HV.out.to (below_drew' _ _ _)
        have x1 : v4.cell? ⟨q, 0, none⟩ = some (.int .i64 1) := by rw [← hvd]; exact x0
        have y1 : v4.cell? ⟨D, k, none⟩ = some (.bool true) := by rw [← hvd]; exact y0
        have HF : Hid (Ft on (k + 1) x) := ft_more HX.out HO.out.symm
        clear hvd x0 y0 HV HX
        go_wp2
        go_roundw
        case rel => exact ⟨k + 1, by omega, by go_num, by rw [HSU.out]; simp, ⟨_, rfl, HF.out⟩, H4.out⟩
        case measure => simp [intOf]; omega
    · obtain rfl : k = 16 := by omega
      obtain ⟨hu, he⟩ := used_is fun i hi => (HS.out i hi).1
      have hf := ft_first HS.out HX.out
      have HFC : Hid (∀ wc, Mt wc p w.heap.size 1 M → Calls Tryd.prog 13 #[.pointer (some ⟨p, 0, none⟩), .int .i64 0] wc fun e w' => e = .returned (.tuple #[.int .i64 (fN 1 M 0), .int .i64 (fE 1 M 0)]) ∧ Below wc.heap.size wc w') := fun wc h => sfirst_any p w.heap.size 1 0 M wc h
      have HUC : Hid (∀ wc, Mt wc p w.heap.size 1 M → Calls Tryd.prog 11 #[.pointer (some ⟨p, 0, none⟩), .int .i64 0] wc fun e w' => e = .returned (.tuple #[.int .i64 (cnt (fun i => sC 1 M 0 (i : Nat) 0) 16), .int .i64 0]) ∧ Below wc.heap.size wc w') := fun wc h => by
        have := sused_any p w.heap.size 1 0 M wc h
        rwa [hu, he] at this
      generalize cnt (fun i => sC 1 M 0 (i : Nat) 0) 16 = u at HUC ⊢
      clear hu he HX
      rcases hf with ⟨hx1, h1, h2⟩ | ⟨m, hx1, hm, h1, h2⟩
      · rw [h1, h2] at HFC
        subst hx1
        clear h1 h2
        go_wp2_with (first
          | (go_at_call 13; refine (HFC.out _ HJ.out.mt).mono ?_; rintro e2 w2 ⟨rfl, hb⟩; have H2 : Hid (Fi w w2 p w.heap.size D M on) := HJ.out.to hb; clear hb)
          | (go_at_call 11; refine (HUC.out _ H2.out.mt).mono ?_; rintro e3 w3 ⟨rfl, hb⟩; have H3 : Hid (Fi w w3 p w.heap.size D M on) := H2.out.to hb; clear hb)
          | (go_at_call 18; refine (awake_any _ H3.out.mt.tab H3.out.mt.tabw).mono ?_; rintro e4 w4 ⟨rfl, hb⟩; have H4 : Hid (Below w.heap.size w w4) := H3.out.below.trans (hb.mono H3.out.below.size); clear hb)
          | fail)
        go_ret
        exact ⟨rfl, H4.out⟩
      · rw [h1, h2] at HFC
        subst hx1
        have hm0 : ¬ (m : Int) < 0 := by omega
        have hm1 : (0 : Int) ≤ (m : Int) := by omega
        clear h1 h2
        go_wp2_with (first
          | (go_at_call 13; refine (HFC.out _ HJ.out.mt).mono ?_; rintro e2 w2 ⟨rfl, hb⟩; have H2 : Hid (Fi w w2 p w.heap.size D M on) := HJ.out.to hb; clear hb)
          | (go_at_call 11; refine (HUC.out _ H2.out.mt).mono ?_; rintro e3 w3 ⟨rfl, hb⟩; have H3 : Hid (Fi w w3 p w.heap.size D M on) := H2.out.to hb; clear hb)
          | (go_at_call 18; refine (awake_any _ H3.out.mt.tab H3.out.mt.tabw).mono ?_; rintro e4 w4 ⟨rfl, hb⟩; have H4 : Hid (Below w.heap.size w w4) := H3.out.below.trans (hb.mono H3.out.below.size); clear hb)
          | fail)
        go_ret
        exact ⟨rfl, H4.out⟩

/-! ### The statement's frame -/
/-- The heap that the program's own initialisers leave meets the condition. -/
theorem door_met (os : Os) (args : Array Value) : laidMetH Tryd.prog Rows.slotFirstRow.laid ((World.doorLaid Tryd.prog 400 os).forCall (fun _ _ => 0) ⟨#[], args, []⟩).memory :=
  laidMetH_of_parts3 (fuel := 8) (laidMet_of_run' 8 (by kernel_rfl) (by kernel_rfl)) (by kernel_rfl) (by kernel_rfl)
set_option maxRecDepth 100000 in
theorem lifted (os : Os) (started : os.Started) (H : Type) (enc : TypeId × Value → H) :
    ReturnsInHanded {} Tryd.checked os 5 .any (fun w args => (Rows.slotFirstSpec.pre enc Tryd.prog Tryd.f5 [] false w args ∧ laidMetH Tryd.prog Rows.slotFirstRow.laid w) ∧ sizedMet enc Tryd.prog Tryd.f5 (OpenSpec.ofChange Rows.slotFirstSpec) false w args) (Rows.slotFirstSpec.post enc Tryd.prog Tryd.f5 false true false false) := by
  refine returnsInHanded_of_change_and (C := Tryd.checked) (X := fun w _ => laidMetH Tryd.prog Rows.slotFirstRow.laid w) (fun _ _ _ hh h => h.of_heap hh) own started (by kernel_rfl) Tryd.func5
    (ChangeSpec.witness_shaped (enc := enc) (C := Tryd.checked) (os := os) (X := fun w _ => laidMetH Tryd.prog Rows.slotFirstRow.laid w) false (World.doorLaid Tryd.prog 400 os) #[.slice none 0 0] 8 rfl (World.shaped_of_RefB (by kernel_rfl) (by kernel_rfl)) (by kernel_rfl) (by kernel_rfl) (by kernel_rfl) (door_met os _)) ?_
  intro W base args ds gs before hval0 hW _ _ hL _
  have hval : ∀ (j : Nat) t v, Tryd.f5.params[j]? = some t → args[j]? = some v → Value.okWide Tryd.prog W .any base t v := hval0
  have hW' := hW
  obtain ⟨p, q, hA0, hV, rfl, hfz, hnd⟩ := hW
  have hA : DataW.TrodAll enc Tryd.prog W 0 (fun _ => true) true Tryd.f5.params.toList args.toList ds p := hA0
  rw [Tryd.params5] at hA hval
  obtain ⟨v0, vs0, d0, ds0, p0, q0, hargs, rfl, rfl, h0, r0⟩ := trodAll_cons hA
  obtain ⟨rfl, rfl, rfl⟩ := trodAll_nil r0
  obtain rfl : args = #[v0] := by cases args; simp_all
  obtain ⟨rfl, rfl⟩ := trodVars_none hV
  obtain ⟨a0, len0, cap0, rfl⟩ := okWide_slice Tryd.underlying52 (hval 0 52 v0 rfl rfl)
  have k0 := h0
  have lt0 : ∀ x ∈ p0, x.block < W.heap.size := by obtain ⟨m, hm⟩ := k0; exact DataW.trod_lt m _ _ _ hm
  have w0 : Came .u8 W.heap.size W a0 len0 ∧ len0 ≤ 9223372036854775807 := by
    obtain ⟨fuel, hf⟩ := h0
    rcases open_ints Tryd.underlying52 Tryd.underlying5 (by kernel_rfl) hf with ⟨hcs, _⟩ | ⟨x, l, c, zs, hcs, _, hl, hm, hz, _, hcell, hwz⟩
    · simp [Value.cells] at hcs
      obtain ⟨rfl, rfl, rfl⟩ := hcs
      exact came_of_row (zs := []) (.inl ⟨rfl, rfl, rfl, rfl⟩)
    · simp [Value.cells] at hcs
      obtain ⟨rfl, rfl, rfl⟩ := hcs
      exact came_of_row (.inr ⟨_, rfl, hl, hm, by simpa using hz, hcell, hwz⟩)
  clear hA0 hval0
  refine (walk a0 len0 cap0 W w0.1 w0.2 (of_laid hL).1 (of_laid hL).2).mono fun e W' ⟨he, bel⟩ => ?_
  subst he
  exact ⟨_, rfl, _, _, _, [], _, [], hW', trodAll_mk1 (shut_bool Tryd.underlying4 _), (trodAll_cons_mk (Below.trod laidOut (by kernel_rfl) (of_decide_eq_true (by kernel_rfl)) k0 bel lt0) trodAll_mk0), rfl, bel.frame _, fun h => by cases h⟩

theorem over : Rows.slotFirstRow.holds Tryd.pinned (OpenSpec.ofChange Rows.slotFirstSpec) :=
  OpenClaim.holds_of_wide 5 Tryd.f5 rfl rfl rfl rfl rfl rfl rfl ⟨rfl, rfl, rfl, rfl, rfl⟩ rfl rfl rfl rfl rfl (by kernel_rfl) Tryd.func5 (by kernel_rfl)
    (of_decide_eq_true (by kernel_rfl)) (by unfold Func.isWrapper; first | (rw [if_pos (by decide +kernel)]; kernel_rfl) | (rw [if_neg (by decide +kernel)]; exact ⟨rfl, rfl⟩))
    (fun os started H enc _ => lifted os started H enc)

theorem proved : Rows.SlotFirstCardSaid :=
  Claim7.holds_tied_plain_at .later [] [.data, .data] true (true, "7a05885a4eed03ea09005b5b7a2d0e0bb6a0481ae8bf86314714b423c23f920a") false
    over (fun _ h => by cases h) (by kernel_rfl) (fun _ h => by cases h) slotFirst_row_tie rfl ⟨rfl, rfl⟩ (by kernel_rfl) rfl
    (fun g fn hf hfn => by
      obtain rfl : g = 5 := Option.some.inj ((show Tryd.prog.funcNamed Rows.slotFirstRow.func = some 5 by kernel_rfl).symm.trans hf) |>.symm
      obtain rfl : fn = Tryd.f5 := (Option.some.inj (Tryd.func5.symm.trans hfn)).symm
      exact ⟨by kernel_rfl, fun j t ht => by
        rw [Tryd.params5] at ht
        have hm : t ∈ [52] := by simpa using Array.mem_of_getElem? ht
        have hall : ([52].all fun u => !Tryd.prog.wantsStandIn u) = true := by kernel_rfl
        exact (show Tryd.prog.wantsStandIn t = false by simpa using List.all_eq_true.1 hall t hm)⟩)
    (by kernel_rfl)
end Go.Proofs.YtkodanflobclhaaDoor.slotFirst
namespace Go.Proofs.YtkodanflobclhaaDoor
theorem slotFirst_holds : Rows.SlotFirstCardSaid := slotFirst.proved
#print axioms slotFirst_holds
end Go.Proofs.YtkodanflobclhaaDoor
