/- For every list of capabilities put into the slots of one frame, every slot's number and every capability: where Put takes it, All tells it in that slot and the others as they were; where Put refuses it, all as they were. Conditions: none but that package cap's two tables start as the program's text lays them (tied). -/
import Derived.Test.YtkodanflobclhaaDoorRows
import Derived.Test.YtkodanflobclhaaDoorTie
import Derived.Test.YtkodanflobclhaaDoorCards
import Derived.Test.YtkodanflobclhaaDoorSltK
import Derived.Deep.CutBlock
import Derived.WalkKit
import Derived.ProofKit
import Derived.OpenShut
import Derived.ShutString
import Derived.ChangeOld
import Derived.Below
import Derived.LaidMore
import Derived.Stop.Joined
import Derived.SevenTiedAt
namespace Go.Proofs.YtkodanflobclhaaDoor.slotOne
open Go.ChangeShapes Go.WideShapes Go.ChangeAt Go.RowKit Go.Proofs.YtkodanflobclhaaDoor.Pbase Go.Proofs.YtkodanflobclhaaDoor.Pcap Go.Proofs.YtkodanflobclhaaDoor.Pfield Go.Proofs.YtkodanflobclhaaDoor.Pmem Go.Proofs.YtkodanflobclhaaDoor.Pslot
set_option linter.unusedVariables false

theorem own : ownKnob Tryd.prog.godebug = none := by kernel_rfl
theorem laidOut : laidOutB Tryd.prog = true := by kernel_rfl

/-- A capability in the call's first block, a memory of one frame all of whose slots can be read. -/
structure So (w0 w : World) (p b : Nat) (M : Nat → Nat → Int) (k r t l e a : Int) : Prop where
  mt : Mt w p b 1 M
  below : Below w0.heap.size w0 w
  box : Box6 w w0.heap.size k r t l e a
  all : ∀ m : Nat, m < 16 → sE 1 M 0 (m : Nat) = 0
  lo : w0.heap.size < b
theorem So.on {w0 w w' : World} {p b : Nat} {M : Nat → Nat → Int} {k r t l e a : Int} (h : So w0 w p b M k r t l e a) (hB : Below w.heap.size w w') : So w0 w' p b M k r t l e a :=
  ⟨h.mt.on hB, h.below.trans (hB.mono h.below.size), h.box.on hB, h.all, h.lo⟩
theorem So.put {w0 w w' : World} {p b : Nat} {M : Nat → Nat → Int} {k r t l e a : Int} (h : So w0 w p b M k r t l e a) {i k' r' t' l' e' a' : Int} (hm : Mt w' p b 1 (pM 1 M 0 i k' r' t' l' e' a')) (hb : But b w w') : So w0 w' p b (pM 1 M 0 i k' r' t' l' e' a') k r t l e a :=
  ⟨hm, h.below.trans (hb.below (Nat.le_of_lt h.lo) h.below.size), box6_but h.box hb (Nat.ne_of_lt h.lo), all_put h.all, h.lo⟩
theorem so_new {w : World} (hT : TabM w) (hW : TabW w) (k r t l e a : Int) (ty : TypeId) : So w (newW (w.alloc (.cells #[.int .i64 k, .int .i64 r, .int .i64 t, .int .i64 l, .int .i64 e, .int .i64 a] ty)) 1) (w.heap.size + 1 + 1) (w.heap.size + 1) (fun _ _ => 0) k r t l e a :=
  ⟨by have := mt_new (hT.on (bal (Below.refl w.heap.size w) (.cells #[.int .i64 k, .int .i64 r, .int .i64 t, .int .i64 l, .int .i64 e, .int .i64 a] ty))) (hW.on (bal (Below.refl _ _) _)) (N := 1) (by omega) (by omega); rwa [World.size_alloc] at this, (bal (Below.refl _ _) _).trans ((newW_below _ 1).mono (by simp)), (box6_new w k r t l e a ty).on (newW_below _ 1), fun m hm => (zero_slot hm okF1).1, by simp⟩
/-- Two lists beside each other. -/
structure Duo (w0 w : World) (p b : Nat) (M : Nat → Nat → Int) (k r t l e a : Int) (bo bn : Nat) (C C2 : Nat → Nat → Int) : Prop where
  so : So w0 w p b M k r t l e a
  old : ∀ i, i < 16 → At6 w bo (i * 6) (C i 0, C i 1, C i 2, C i 3, C i 4, C i 5)
  now : ∀ i, i < 16 → At6 w bn (i * 6) (C2 i 0, C2 i 1, C2 i 2, C2 i 3, C2 i 4, C2 i 5)
theorem caps_at6 {w : World} {base : Nat} {v : Value} {C : Nat → Nat → Int} (h : Caps w base v 16 C) : ∃ b cap, v = .slice (some ⟨b, 0, none⟩) 16 cap ∧ base ≤ b ∧ b < w.heap.size ∧ ∀ i, i < 16 → At6 w b (i * 6) (C i 0, C i 1, C i 2, C i 3, C i 4, C i 5) := by
  obtain ⟨a, cap, rfl, h⟩ := h
  rcases h with h | ⟨b, rfl, h1, h2, h3⟩
  · cases h
  · exact ⟨b, cap, rfl, h1, h2, fun i hi => h3 i hi⟩
theorem at6_on {w w' : World} {b o : Nat} {q : C6} (h : At6 w b o q) (hB : Below w.heap.size w w') (hb : b < w.heap.size) : At6 w' b o q :=
  ⟨(hB.cell (p := ⟨b, _, none⟩) hb).trans h.1, (hB.cell (p := ⟨b, _, none⟩) hb).trans h.2.1, (hB.cell (p := ⟨b, _, none⟩) hb).trans h.2.2.1, (hB.cell (p := ⟨b, _, none⟩) hb).trans h.2.2.2.1, (hB.cell (p := ⟨b, _, none⟩) hb).trans h.2.2.2.2.1, (hB.cell (p := ⟨b, _, none⟩) hb).trans h.2.2.2.2.2⟩
theorem at6_but {w w' : World} {b o q : Nat} {c : C6} (h : At6 w b o c) (hB : But q w w') (hb : b < w.heap.size) (hn : b ≠ q) : At6 w' b o c :=
  ⟨(hB.cell hb hn).trans h.1, (hB.cell hb hn).trans h.2.1, (hB.cell hb hn).trans h.2.2.1, (hB.cell hb hn).trans h.2.2.2.1, (hB.cell hb hn).trans h.2.2.2.2.1, (hB.cell hb hn).trans h.2.2.2.2.2⟩
theorem Duo.drew {w0 w : World} {p b : Nat} {M : Nat → Nat → Int} {k r t l e a : Int} {bo bn : Nat} {C C2 : Nat → Nat → Int} (h : Duo w0 w p b M k r t l e a bo bn C C2) (n : Nat) : Duo w0 (w.drewN n) p b M k r t l e a bo bn C C2 :=
  ⟨h.so.on (below_drew' _ _ _), h.old, h.now⟩
/-- What is where behind a Put. -/
def Wh (F i k r t l e a : Int) (C C2 : Nat → Nat → Int) : Prop := ∀ m : Nat, m < 16 → (F = 0 ∧ (m : Int) = i → C2 m 0 = k ∧ C2 m 1 = r ∧ C2 m 2 = t ∧ C2 m 3 = l ∧ C2 m 4 = e ∧ C2 m 5 = a) ∧ (¬ (F = 0 ∧ (m : Int) = i) → ∀ j, C2 m j = C m j)
theorem wh_put (M : Nat → Nat → Int) (i k r t l e a : Int) : Wh (pE 1 0 i k r t l e a) i k r t l e a (fun m j => sC 1 M 0 (m : Nat) j) (fun m j => sC 1 (pM 1 M 0 i k r t l e a) 0 (m : Nat) j) := by
  intro m hm
  constructor
  · rintro ⟨h0, rfl⟩
    exact (put_got h0).2
  · intro h j
    refine (put_other hm ?_).2 j
    by_cases h0 : pE 1 0 i k r t l e a = 0
    · exact .inr fun e => h ⟨h0, e⟩
    · exact .inl h0
set_option maxRecDepth 100000 in
set_option maxHeartbeats 2000000 in

theorem walk (a0 : Option Addr) (len0 cap0 : Nat) (a1 : Int) (a2k a2r a2t a2l a2e a2c : Int) (w : World) (w0 : Hid (CameC w.heap.size w a0 len0)) (l0 : len0 ≤ 9223372036854775807) (w1 : (Lit.int .i64 a1).wf = true) (hT : TabM w) (hW : TabW w) :
    Calls Tryd.prog 4 #[.slice a0 len0 cap0, .int .i64 a1, .agg #[.int .i64 a2k, .int .i64 a2r, .int .i64 a2t, .int .i64 a2l, .int .i64 a2e, .int .i64 a2c]] w fun e w' => e = .returned (.bool true) ∧ Below w.heap.size w w' := by
  have HT : Hid (∀ ty, So w (newW (w.alloc (.cells #[.int .i64 a2k, .int .i64 a2r, .int .i64 a2t, .int .i64 a2l, .int .i64 a2e, .int .i64 a2c] ty)) 1) (w.heap.size + 1 + 1) (w.heap.size + 1) (fun _ _ => 0) a2k a2r a2t a2l a2e a2c) := fun ty => so_new hT hW a2k a2r a2t a2l a2e a2c ty
  have hC := w0
  clear hT hW w0 w1
  go_enter Tryd.func4, Tryd.ntmps4
  go_upto_block 0 with (first
    | (go_at_call 19; refine (new_ok 1 _ (by omega) (by omega)).mono ?_; rintro e1 v1 ⟨rfl, hv1⟩; have H0 := HT.out 32; rw [← hv1] at H0; clear hv1)
    | fail)
  try simp only [World.size_alloc]
  generalize w.heap.size + 1 + 1 = p at H0 ⊢
  have hb0 := H0.lo
  generalize hbe : w.heap.size + 1 = b at H0
  clear hbe hb0
  have HS0 : Hid (So w v1 p b (fun _ _ => 0) a2k a2r a2t a2l a2e a2c) := H0
  clear H0 HT
  go_cut [9] from 22 to 38 (fun _ wc => ∃ M, So w wc p b M a2k a2r a2t a2l a2e a2c)
  case first =>
   go_wp2_with fail
   go_loopw [9] (fun i wr => ∃ k : Nat, k ≤ len0 ∧ i = .int .i64 k ∧ ∃ M, So w wr p b M a2k a2r a2t a2l a2e a2c) (fun i _ => len0 - (intOf i).toNat)
   case atStart => exact ⟨0, by omega, rfl, _, HS0.out⟩
   case round =>
    obtain ⟨k, hk, rfl, M, hI⟩ := hrel
    have HI : Hid (So w wr p b M a2k a2r a2t a2l a2e a2c) := hI
    clear hI HS0
    by_cases hlt : k < len0 ∧ k < 16
    · obtain ⟨h1, h2⟩ := hlt
      have i1 : (k : Int) < (len0 : Int) := by omega
      have i2 : (k : Int) < 16 := by omega
      obtain ⟨bc, oc, ck, cr, ct, cl, ce, ca, rfl, G⟩ := hC.out.at h1
      obtain ⟨g0, g1, g2, g3, g4, g5⟩ := G.out wr HI.out.below
      go_wp2_with (first
        | (go_at_call 7; refine (sput_any p b 1 0 (k : Int) ck cr ct cl ce ca M _ HI.out.mt).mono ?_; rintro e3 w3 ⟨rfl, hm, hb3⟩; have HN : Hid (∃ M, So w w3 p b M a2k a2r a2t a2l a2e a2c) := ⟨_, HI.out.put hm hb3⟩; clear hm hb3)
        | fail)
      go_roundw
      case rel => exact ⟨k + 1, by omega, by go_num, HN.out⟩
      case measure => simp [intOf]; omega
    · have hin : ¬ k < len0 ∨ (k < len0 ∧ ¬ k < 16) := by omega
      clear hlt hC
      rcases hin with h1 | ⟨h1, h2⟩
      · have i1 : ¬ (k : Int) < (len0 : Int) := by omega
        go_wp2_with fail
        go_meet
        exact ⟨M, HI.out⟩
      · have i1 : (k : Int) < (len0 : Int) := by omega
        have i2 : ¬ (k : Int) < 16 := by omega
        go_wp2_with fail
        go_meet
        exact ⟨M, HI.out⟩
  case rest =>
   obtain ⟨M, hI⟩ := hcut
   have HI : Hid (So w wc p b M a2k a2r a2t a2l a2e a2c) := hI
   have hA1 := all_yes hI.all
   have hA2 := all_yes (all_put (i := a1) (k := a2k) (r := a2r) (t := a2t) (l := a2l) (e := a2e) (a := a2c) hI.all)
   have HW : Hid (Wh (pE 1 0 a1 a2k a2r a2t a2l a2e a2c) a1 a2k a2r a2t a2l a2e a2c (fun i j => sC 1 M 0 (i : Nat) j) (fun i j => sC 1 (pM 1 M 0 a1 a2k a2r a2t a2l a2e a2c) 0 (i : Nat) j)) := wh_put M a1 a2k a2r a2t a2l a2e a2c
   have HF := pE_cases 1 0 a1 a2k a2r a2t a2l a2e a2c
   have HP : Hid (∀ wx, Mt wx p b 1 M → Calls Tryd.prog 7 #[.pointer (some ⟨p, 0, none⟩), .int .i64 0, .int .i64 a1, .agg #[.int .i64 a2k, .int .i64 a2r, .int .i64 a2t, .int .i64 a2l, .int .i64 a2e, .int .i64 a2c]] wx fun x w' => x = .returned (.int .i64 (pE 1 0 a1 a2k a2r a2t a2l a2e a2c)) ∧ Mt w' p b 1 (pM 1 M 0 a1 a2k a2r a2t a2l a2e a2c) ∧ But b wx w') := fun wx h => sput_any p b 1 0 a1 a2k a2r a2t a2l a2e a2c M wx h
   have HQ : Hid (∀ wx wy, So w wx p b M a2k a2r a2t a2l a2e a2c → Mt wy p b 1 (pM 1 M 0 a1 a2k a2r a2t a2l a2e a2c) → But b wx wy → So w wy p b (pM 1 M 0 a1 a2k a2r a2t a2l a2e a2c) a2k a2r a2t a2l a2e a2c) := fun wx wy h1 h2 h3 => h1.put h2 h3
   clear hI hC HS0
   generalize pE 1 0 a1 a2k a2r a2t a2l a2e a2c = F at HW HF HP
   generalize pM 1 M 0 a1 a2k a2r a2t a2l a2e a2c = M2 at HW HP HQ hA2
   have HA1 : Hid (∀ wx, Mt wx p b 1 M → Calls Tryd.prog 15 #[.pointer (some ⟨p, 0, none⟩), .int .i64 0] wx fun e w' => ∃ v, e = .returned (.tuple #[v, .int .i64 0]) ∧ Caps w' wx.heap.size v 16 (fun i j => sC 1 M 0 (i : Nat) j) ∧ Below wx.heap.size wx w') := fun wx h => by
     have := sall_any p b 1 0 M wx h
     rwa [hA1.1, hA1.2] at this
   have HA2 : Hid (∀ wx, Mt wx p b 1 M2 → Calls Tryd.prog 15 #[.pointer (some ⟨p, 0, none⟩), .int .i64 0] wx fun e w' => ∃ v, e = .returned (.tuple #[v, .int .i64 0]) ∧ Caps w' wx.heap.size v 16 (fun i j => sC 1 M2 0 (i : Nat) j) ∧ Below wx.heap.size wx w') := fun wx h => by
     have := sall_any p b 1 0 M2 wx h
     rwa [hA2.1, hA2.2] at this
   clear hA1 hA2
   have t1 : True := trivial
   go_wp2_with (first
     | (go_at_call 15; clear t1; refine (HA1.out _ HI.out.mt).mono ?_; rintro e3 w3 ⟨v, rfl, hc, hb⟩; obtain ⟨bo, co, rfl, hbo1, hbo2, hco⟩ := caps_at6 hc; have H3 : Hid (So w w3 p b M a2k a2r a2t a2l a2e a2c) := HI.out.on hb; have HO3 : Hid (bo < w3.heap.size ∧ bo ≠ b ∧ ∀ i, i < 16 → At6 w3 bo (i * 6) (sC 1 M 0 (i : Nat) 0, sC 1 M 0 (i : Nat) 1, sC 1 M 0 (i : Nat) 2, sC 1 M 0 (i : Nat) 3, sC 1 M 0 (i : Nat) 4, sC 1 M 0 (i : Nat) 5)) := ⟨hbo2, Nat.ne_of_gt (Nat.lt_of_lt_of_le HI.out.mt.mem.lt.2 hbo1), hco⟩; clear hc hb hco hbo1 hbo2 HI; have x0 := H3.out.box.c0; have x1 := H3.out.box.c1; have x2 := H3.out.box.c2; have x3 := H3.out.box.c3; have x4 := H3.out.box.c4; have x5 := H3.out.box.c5)
     | (go_at_call 7; refine (HP.out _ H3.out.mt).mono ?_; rintro e4 w4 ⟨rfl, hm, hb⟩; have H4 : Hid (So w w4 p b M2 a2k a2r a2t a2l a2e a2c) := HQ.out _ _ H3.out hm hb; have HO4 : Hid (bo < w4.heap.size ∧ ∀ i, i < 16 → At6 w4 bo (i * 6) (sC 1 M 0 (i : Nat) 0, sC 1 M 0 (i : Nat) 1, sC 1 M 0 (i : Nat) 2, sC 1 M 0 (i : Nat) 3, sC 1 M 0 (i : Nat) 4, sC 1 M 0 (i : Nat) 5)) := ⟨Nat.lt_of_lt_of_le HO3.out.1 hb.size, fun i hi => at6_but (HO3.out.2.2 i hi) hb HO3.out.1 HO3.out.2.1⟩; clear hm hb x0 x1 x2 x3 x4 x5 H3 HO3)
     | (go_at_call 15; refine (HA2.out _ H4.out.mt).mono ?_; rintro e5 w5 ⟨v, rfl, hc, hb⟩; obtain ⟨bn, cn, rfl, hbn1, hbn2, hcn⟩ := caps_at6 hc; have H5 : Hid (Duo w w5 p b M2 a2k a2r a2t a2l a2e a2c bo bn (fun i j => sC 1 M 0 (i : Nat) j) (fun i j => sC 1 M2 0 (i : Nat) j)) := ⟨H4.out.on hb, fun i hi => at6_on (HO4.out.2 i hi) hb HO4.out.1, hcn⟩; clear hc hb hcn hbn1 hbn2 H4 HO4)
     | fail)
   go_loopw [15] (fun i wr => ∃ k : Nat, k ≤ 16 ∧ i = .int .i64 k ∧ Duo w wr p b M2 a2k a2r a2t a2l a2e a2c bo bn (fun i j => sC 1 M 0 (i : Nat) j) (fun i j => sC 1 M2 0 (i : Nat) j)) (fun i _ => 16 - (intOf i).toNat)
   case atStart => exact ⟨0, by omega, rfl, H5.out⟩
   case round =>
    obtain ⟨k, hk, rfl, hJ⟩ := hrel
    have HJ : Hid (Duo w wr p b M2 a2k a2r a2t a2l a2e a2c bo bn (fun i j => sC 1 M 0 (i : Nat) j) (fun i j => sC 1 M2 0 (i : Nat) j)) := hJ
    clear hJ H5 HA1 HA2 HP HQ
    by_cases hlt : k < 16
    · have hki : (k : Int) < 16 := by omega
      obtain ⟨g0, g1, g2, g3, g4, g5⟩ := HJ.out.now k hlt
      obtain ⟨h1, h2⟩ := HW.out k hlt
      by_cases hc : F = 0 ∧ (k : Int) = a1
      · obtain ⟨q0, q1, q2, q3, q4, q5⟩ := h1 hc
        obtain ⟨rfl, rfl⟩ := hc
        dsimp only at g0 g1 g2 g3 g4 g5 q0 q1 q2 q3 q4 q5
        rw [q0] at g0
        rw [q1] at g1
        rw [q2] at g2
        rw [q3] at g3
        rw [q4] at g4
        rw [q5] at g5
        clear q0 q1 q2 q3 q4 q5 h1 h2
        have x0 := HJ.out.so.box.c0
        have x1 := HJ.out.so.box.c1
        have x2 := HJ.out.so.box.c2
        have x3 := HJ.out.so.box.c3
        have x4 := HJ.out.so.box.c4
        have x5 := HJ.out.so.box.c5
        have hne := neqC a2k a2r a2t a2l a2e a2c
        go_wp2
        go_quiet (fail)
        go_wp2
        go_roundw
        case rel => exact ⟨k + 1, by omega, by go_num, HJ.out.drew _⟩
        case measure => simp [intOf]; omega
      · obtain ⟨m0, m1, m2, m3, m4, m5⟩ := HJ.out.old k hlt
        have q : ∀ j, sC 1 M2 0 (k : Nat) j = sC 1 M 0 (k : Nat) j := h2 hc
        dsimp only at g0 g1 g2 g3 g4 g5 m0 m1 m2 m3 m4 m5
        rw [q 0] at g0
        rw [q 1] at g1
        rw [q 2] at g2
        rw [q 3] at g3
        rw [q 4] at g4
        rw [q 5] at g5
        generalize sC 1 M 0 (k : Nat) 0 = K0 at g0 m0
        generalize sC 1 M 0 (k : Nat) 1 = K1 at g1 m1
        generalize sC 1 M 0 (k : Nat) 2 = K2 at g2 m2
        generalize sC 1 M 0 (k : Nat) 3 = K3 at g3 m3
        generalize sC 1 M 0 (k : Nat) 4 = K4 at g4 m4
        generalize sC 1 M 0 (k : Nat) 5 = K5 at g5 m5
        have hne := neqC K0 K1 K2 K3 K4 K5
        clear q h1 h2
        rcases HF with hF | hF
        · have hka : ((k : Int) == a1) = false := by simp; exact fun e => hc ⟨hF, e⟩
          subst hF
          clear hc
          go_wp2
          go_quiet (fail)
          go_wp2
          go_roundw
          case rel => exact ⟨k + 1, by omega, by go_num, HJ.out.drew _⟩
          case measure => simp [intOf]; omega
        · subst hF
          clear hc
          go_wp2
          go_quiet (fail)
          go_wp2
          go_roundw
          case rel => exact ⟨k + 1, by omega, by go_num, HJ.out.drew _⟩
          case measure => simp [intOf]; omega
    · obtain rfl : k = 16 := by omega
      go_wp2_with (first
        | (go_at_call 18; refine (awake_any _ HJ.out.so.mt.tab HJ.out.so.mt.tabw).mono ?_; rintro e6 w6 ⟨rfl, hb⟩; have H6 : Hid (Below w.heap.size w w6) := HJ.out.so.below.trans (hb.mono HJ.out.so.below.size); clear hb)
        | fail)
      go_ret
      exact ⟨rfl, H6.out⟩

/-! ### The statement's frame -/
/-- The heap that the program's own initialisers leave meets the condition. -/
theorem door_met (os : Os) (args : Array Value) : laidMetH Tryd.prog Rows.slotOneRow.laid ((World.doorLaid Tryd.prog 400 os).forCall (fun _ _ => 0) ⟨#[], args, []⟩).memory :=
  laidMetH_of_parts3 (fuel := 8) (laidMet_of_run' 8 (by kernel_rfl) (by kernel_rfl)) (by kernel_rfl) (by kernel_rfl)
set_option maxRecDepth 100000 in
theorem lifted (os : Os) (started : os.Started) (H : Type) (enc : TypeId × Value → H) :
    ReturnsInHanded {} Tryd.checked os 4 .any (fun w args => (Rows.slotOneSpec.pre enc Tryd.prog Tryd.f4 [] false w args ∧ laidMetH Tryd.prog Rows.slotOneRow.laid w) ∧ sizedMet enc Tryd.prog Tryd.f4 (OpenSpec.ofChange Rows.slotOneSpec) false w args) (Rows.slotOneSpec.post enc Tryd.prog Tryd.f4 false true false false) := by
  refine returnsInHanded_of_change_and (C := Tryd.checked) (X := fun w _ => laidMetH Tryd.prog Rows.slotOneRow.laid w) (fun _ _ _ hh h => h.of_heap hh) own started (by kernel_rfl) Tryd.func4
    (ChangeSpec.witness_shaped (enc := enc) (C := Tryd.checked) (os := os) (X := fun w _ => laidMetH Tryd.prog Rows.slotOneRow.laid w) false (World.doorLaid Tryd.prog 400 os) #[.slice none 0 0, .int .i64 0, .agg #[.int .i64 0, .int .i64 0, .int .i64 0, .int .i64 0, .int .i64 0, .int .i64 0]] 8 rfl (World.shaped_of_RefB (by kernel_rfl) (by kernel_rfl)) (by kernel_rfl) (by kernel_rfl) (by kernel_rfl) (door_met os _)) ?_
  intro W base args ds gs before hval0 hW _ _ hL _
  have hval : ∀ (j : Nat) t v, Tryd.f4.params[j]? = some t → args[j]? = some v → Value.okWide Tryd.prog W .any base t v := hval0
  have hW' := hW
  obtain ⟨p, q, hA0, hV, rfl, hfz, hnd⟩ := hW
  have hA : DataW.TrodAll enc Tryd.prog W 0 (fun _ => true) true Tryd.f4.params.toList args.toList ds p := hA0
  rw [Tryd.params4] at hA hval
  obtain ⟨v0, vs0, d0, ds0, p0, q0, hargs, rfl, rfl, h0, r0⟩ := trodAll_cons hA
  obtain ⟨v1, vs1, d1, ds1, p1, q1, rfl, rfl, rfl, h1, r1⟩ := trodAll_cons r0
  obtain ⟨v2, vs2, d2, ds2, p2, q2, rfl, rfl, rfl, h2, r2⟩ := trodAll_cons r1
  obtain ⟨rfl, rfl, rfl⟩ := trodAll_nil r2
  obtain rfl : args = #[v0, v1, v2] := by cases args; simp_all
  obtain ⟨rfl, rfl⟩ := trodVars_none hV
  obtain ⟨a0, len0, cap0, rfl⟩ := okWide_slice Tryd.underlying24 (hval 0 24 v0 rfl rfl)
  have k0 := h0
  have lt0 : ∀ x ∈ p0, x.block < W.heap.size := by obtain ⟨m, hm⟩ := k0; exact DataW.trod_lt m _ _ _ hm
  have w0 : CameC W.heap.size W a0 len0 ∧ len0 ≤ 9223372036854775807 := by
    obtain ⟨fuel, hf⟩ := h0
    exact cameC_of (by simpa [Value.cells] using hf)
  obtain ⟨a1, rfl, rfl, rfl, w1⟩ := open_int Tryd.underlying3 (hval 1 3 v1 rfl rfl) h1
  have k2 := h2
  have lt2 : ∀ x ∈ p2, x.block < W.heap.size := by obtain ⟨m, hm⟩ := k2; exact DataW.trod_lt m _ _ _ hm
  obtain ⟨a2k, a2r, a2t, a2l, a2e, a2c, rfl⟩ := cap_val (hval 2 32 v2 rfl rfl) h2
  clear hA0 hval0
  refine (walk a0 len0 cap0 a1 a2k a2r a2t a2l a2e a2c W w0.1 w0.2 w1 (of_laid hL).1 (of_laid hL).2).mono fun e W' ⟨he, bel⟩ => ?_
  subst he
  exact ⟨_, rfl, _, _, _, [], _, [], hW', trodAll_mk1 (shut_bool Tryd.underlying4 _), (trodAll_cons_mk (Below.trod laidOut (by kernel_rfl) (of_decide_eq_true (by kernel_rfl)) k0 bel lt0) (trodAll_cons_mk (shut_int Tryd.underlying3 w1) (trodAll_cons_mk (Below.trod laidOut (by kernel_rfl) (of_decide_eq_true (by kernel_rfl)) k2 bel lt2) trodAll_mk0))), rfl, bel.frame _, fun h => by cases h⟩

theorem over : Rows.slotOneRow.holds Tryd.pinned (OpenSpec.ofChange Rows.slotOneSpec) :=
  OpenClaim.holds_of_wide 4 Tryd.f4 rfl rfl rfl rfl rfl rfl rfl ⟨rfl, rfl, rfl, rfl, rfl⟩ rfl rfl rfl rfl rfl (by kernel_rfl) Tryd.func4 (by kernel_rfl)
    (of_decide_eq_true (by kernel_rfl)) (by unfold Func.isWrapper; first | (rw [if_pos (by decide +kernel)]; kernel_rfl) | (rw [if_neg (by decide +kernel)]; exact ⟨rfl, rfl⟩))
    (fun os started H enc _ => lifted os started H enc)

theorem proved : Rows.SlotOneCardSaid :=
  Claim7.holds_tied_plain_at .later [] [.data, .data] true (true, "7a05885a4eed03ea09005b5b7a2d0e0bb6a0481ae8bf86314714b423c23f920a") false
    over (fun _ h => by cases h) (by kernel_rfl) (fun _ h => by cases h) slotOne_row_tie rfl ⟨rfl, rfl⟩ (by kernel_rfl) rfl
    (fun g fn hf hfn => by
      obtain rfl : g = 4 := Option.some.inj ((show Tryd.prog.funcNamed Rows.slotOneRow.func = some 4 by kernel_rfl).symm.trans hf) |>.symm
      obtain rfl : fn = Tryd.f4 := (Option.some.inj (Tryd.func4.symm.trans hfn)).symm
      exact ⟨by kernel_rfl, fun j t ht => by
        rw [Tryd.params4] at ht
        have hm : t ∈ [24, 3, 32] := by simpa using Array.mem_of_getElem? ht
        have hall : ([24, 3, 32].all fun u => !Tryd.prog.wantsStandIn u) = true := by kernel_rfl
        exact (show Tryd.prog.wantsStandIn t = false by simpa using List.all_eq_true.1 hall t hm)⟩)
    (by kernel_rfl)
end Go.Proofs.YtkodanflobclhaaDoor.slotOne
namespace Go.Proofs.YtkodanflobclhaaDoor
theorem slotOne_holds : Rows.SlotOneCardSaid := slotOne.proved
#print axioms slotOne_holds
end Go.Proofs.YtkodanflobclhaaDoor
