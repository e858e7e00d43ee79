/- For every list of words laid into a memory of three frames and every list of capabilities put into any slots of any frames (the first forty): Put answers as the document's own; behind each, Get of that slot and Used, First and All of that frame do, and all words of the memory are the document's. Conditions: none but that package cap's two tables start as the program's text lays them (tied). -/
import Derived.Test.YtkodanflobclhaaDoorRows
import Derived.Test.YtkodanflobclhaaDoorTie
import Derived.Test.YtkodanflobclhaaDoorCards
import Derived.Test.YtkodanflobclhaaDoorSltQ
import Derived.Deep.CutBlock
import Derived.WalkKit
import Derived.ProofKit
import Derived.OpenShut
import Derived.ShutString
import Derived.ChangeOld
import Derived.Below
import Derived.LaidMore
import Derived.Stop.Joined
import Derived.SevenTiedAt
namespace Go.Proofs.YtkodanflobclhaaDoor.slotPlays
open Go.ChangeShapes Go.WideShapes Go.ChangeAt Go.RowKit Go.Proofs.YtkodanflobclhaaDoor.Pbase Go.Proofs.YtkodanflobclhaaDoor.Pcap Go.Proofs.YtkodanflobclhaaDoor.Pfield Go.Proofs.YtkodanflobclhaaDoor.Pmem Go.Proofs.YtkodanflobclhaaDoor.Pslot
set_option linter.unusedVariables false

theorem own : ownKnob Tryd.prog.godebug = none := by kernel_rfl
theorem laidOut : laidOutB Tryd.prog = true := by kernel_rfl

theorem sall {a b c d e f g h : Prop} (h1 : a) (h2 : b) (h3 : c ∧ d ∧ e ∧ f ∧ g ∧ h) : a ∧ b ∧ c ∧ d ∧ e ∧ f ∧ g ∧ h := ⟨h1, h2, h3⟩
set_option maxRecDepth 100000 in
set_option maxHeartbeats 16000000 in

theorem walk (a0 : Option Addr) (len0 cap0 : Nat) (a1 : Option Addr) (len1 cap1 : Nat) (a2 : Option Addr) (len2 cap2 : Nat) (a3 : Option Addr) (len3 cap3 : Nat) (w : World) (w0 : Hid (Came .u64 w.heap.size w a0 len0)) (l0 : len0 ≤ 9223372036854775807) (w1 : Hid (Came .i64 w.heap.size w a1 len1)) (l1 : len1 ≤ 9223372036854775807) (w2 : Hid (Came .i64 w.heap.size w a2 len2)) (l2 : len2 ≤ 9223372036854775807) (w3 : Hid (CameC w.heap.size w a3 len3)) (l3 : len3 ≤ 9223372036854775807) (hT : TabM w) (hW : TabW w) :
    Calls Tryd.prog 3 #[.slice a0 len0 cap0, .slice a1 len1 cap1, .slice a2 len2 cap2, .slice a3 len3 cap3] w fun e w' => e = .returned (.bool true) ∧ Below w.heap.size w w' := by
  have HT : Hid (TabM w ∧ TabW w) := ⟨hT, hW⟩
  have D1 := w1
  have D2 := w2
  have D3 := w3
  clear hT hW w1 w2 w3
  go_enter Tryd.func3, Tryd.ntmps3
  go_wp2_with (first
    | (go_at_call 6; refine (laid_any a0 len0 cap0 3 _ (by omega) (by omega) w0 l0).mono ?_; rintro e1 w1 ⟨rfl, M0, hF0, hB0⟩; have HI0 : Hid (∃ M, Fit M ∧ Both w w1 3 M) := ⟨M0, hF0, hB0⟩; clear hF0 hB0)
    | fail)
  generalize hp : w.heap.size + 1 = p
  generalize hq : w.heap.size + 2 = q
  have HPQ : Hid (w.heap.size + 1 = p ∧ w.heap.size + 2 = q) := ⟨hp, hq⟩
  clear hp hq w0 l0
  go_loopw [11] (fun i wr => ∃ k : Nat, k ≤ len1 ∧ i = .int .i64 k ∧ ∃ M, Fit M ∧ Both w wr 3 M) (fun i _ => len1 - (intOf i).toNat)
  case atStart => exact ⟨0, by omega, rfl, HI0.out⟩
  case round =>
    obtain ⟨k, hk0, rfl, M, hF, hI⟩ := hrel
    have HI : Hid (Both w wr 3 M) := hI
    have HF : Hid (Fit M) := hF
    clear hI hF HI0
    by_cases hin : k < len1 ∧ k < len2 ∧ k < len3 ∧ k < 40
    · obtain ⟨h1, h2, h3, h4⟩ := hin
      obtain ⟨b1, o1, zf, rfl, _, G1⟩ := D1.out.any h1
      obtain ⟨b2, o2, za, rfl, _, G2⟩ := D2.out.any h2
      obtain ⟨b3, o3, ck, cr, ct, cl, ce, ca, rfl, G3⟩ := D3.out.at h3
      have i1 : (k : Int) < (len1 : Int) := by omega
      have i2 : (k : Int) < (len2 : Int) := by omega
      have i3 : (k : Int) < (len3 : Int) := by omega
      have i4 : (k : Int) < 40 := by omega
      have c1 := G1.out wr HI.out.below
      have c2 := G2.out wr HI.out.below
      obtain ⟨g0, g1, g2, g3, g4, g5⟩ := G3.out wr HI.out.below
      obtain ⟨T, hT⟩ : ∃ T, T = pM 3 M zf za ck cr ct cl ce ca := ⟨_, rfl⟩
      obtain ⟨EP, hE⟩ : ∃ EP, EP = pE 3 zf za ck cr ct cl ce ca := ⟨_, rfl⟩
      have HFT : Hid (Fit T) := by rw [hT]; exact fit_pM HF.out 3 zf za ck cr ct cl ce ca
      have HP : Hid (∀ wc, Below wr.heap.size wr wc → Calls Tryd.prog 7 #[.pointer (some ⟨p, 0, none⟩), .int .i64 zf, .int .i64 za, .agg #[.int .i64 ck, .int .i64 cr, .int .i64 ct, .int .i64 cl, .int .i64 ce, .int .i64 ca]] wc fun e w' => e = .returned (.int .i64 EP) ∧ Half w w' 3 M T) := fun wc h => by
        have HG := HI.out.grown h
        have := sput_any (w.heap.size + 1) w.heap.size 3 zf za ck cr ct cl ce ca M wc (mt_both HG HT.out.1 HT.out.2 HF.out (by omega) (by omega))
        rw [HPQ.out.1, ← hE, ← hT] at this
        exact this.mono fun e w' ⟨h1, h2, h3⟩ => ⟨h1, HG.half (by rw [HPQ.out.1]; exact h2.mem) h3⟩
      have HQ : Hid (∀ wa wc, Half w wa 3 M T → Below wa.heap.size wa wc → Calls Tryd.prog 8 #[.pointer (some ⟨q, 0, none⟩), .int .i64 zf, .int .i64 za, .agg #[.int .i64 ck, .int .i64 cr, .int .i64 ct, .int .i64 cl, .int .i64 ce, .int .i64 ca]] wc fun e w' => e = .returned (.int .i64 EP) ∧ Both w w' 3 T) := fun wa wc ha h => by
        have HG := ha.grown h
        have := rsput_any (w.heap.size + 2) (w.heap.size + 2) 3 zf za ck cr ct cl ce ca M wc (by omega) (by omega) HG.ref
        rw [← hE, ← hT] at this
        rw [← HPQ.out.2]
        exact this.mono fun e w' ⟨h1, h2, h3⟩ => ⟨h1, HG.turn h2 h3⟩
      clear hT hE HF
      have bEP : (EP != EP) = false := by simp
      have HS0 : Hid (∀ w', Below wr.heap.size wr w' → w'.cell? ⟨b1, o1 + k, none⟩ = some (.int .i64 zf) ∧ w'.cell? ⟨b2, o2 + k, none⟩ = some (.int .i64 za) ∧ w'.cell? ⟨b3, o3 + k * 6, none⟩ = some (.int .i64 ck) ∧ w'.cell? ⟨b3, o3 + k * 6 + 1, none⟩ = some (.int .i64 cr) ∧ w'.cell? ⟨b3, o3 + k * 6 + 2, none⟩ = some (.int .i64 ct) ∧ w'.cell? ⟨b3, o3 + k * 6 + 3, none⟩ = some (.int .i64 cl) ∧ w'.cell? ⟨b3, o3 + k * 6 + 4, none⟩ = some (.int .i64 ce) ∧ w'.cell? ⟨b3, o3 + k * 6 + 5, none⟩ = some (.int .i64 ca)) := fun w' hb => sall (G1.out w' (HI.out.grown hb).below) (G2.out w' (HI.out.grown hb).below) (G3.out w' (HI.out.grown hb).below)
      have HS1 : Hid (∀ w', Half w w' 3 M T → w'.cell? ⟨b1, o1 + k, none⟩ = some (.int .i64 zf) ∧ w'.cell? ⟨b2, o2 + k, none⟩ = some (.int .i64 za) ∧ w'.cell? ⟨b3, o3 + k * 6, none⟩ = some (.int .i64 ck) ∧ w'.cell? ⟨b3, o3 + k * 6 + 1, none⟩ = some (.int .i64 cr) ∧ w'.cell? ⟨b3, o3 + k * 6 + 2, none⟩ = some (.int .i64 ct) ∧ w'.cell? ⟨b3, o3 + k * 6 + 3, none⟩ = some (.int .i64 cl) ∧ w'.cell? ⟨b3, o3 + k * 6 + 4, none⟩ = some (.int .i64 ce) ∧ w'.cell? ⟨b3, o3 + k * 6 + 5, none⟩ = some (.int .i64 ca)) := fun w' hb => sall (G1.out w' hb.below) (G2.out w' hb.below) (G3.out w' hb.below)
      have HS2 : Hid (∀ w', Both w w' 3 T → w'.cell? ⟨b1, o1 + k, none⟩ = some (.int .i64 zf) ∧ w'.cell? ⟨b2, o2 + k, none⟩ = some (.int .i64 za) ∧ w'.cell? ⟨b3, o3 + k * 6, none⟩ = some (.int .i64 ck) ∧ w'.cell? ⟨b3, o3 + k * 6 + 1, none⟩ = some (.int .i64 cr) ∧ w'.cell? ⟨b3, o3 + k * 6 + 2, none⟩ = some (.int .i64 ct) ∧ w'.cell? ⟨b3, o3 + k * 6 + 3, none⟩ = some (.int .i64 cl) ∧ w'.cell? ⟨b3, o3 + k * 6 + 4, none⟩ = some (.int .i64 ce) ∧ w'.cell? ⟨b3, o3 + k * 6 + 5, none⟩ = some (.int .i64 ca)) := fun w' hb => sall (G1.out w' hb.below) (G2.out w' hb.below) (G3.out w' hb.below)
      go_upto_region 7 with fail
      refine region7 p q k b1 o1 len1 cap1 b2 o2 len2 cap2 b3 o3 len3 cap3 zf za ck cr ct cl ce ca EP wr (Half w · 3 M T) (Both w · 3 T) _ _ _ _ _ _ _ _ _ _ _ _ _ _ _ _ _ _ _ _ _ _ _ _ _ _ _ _ _ _ _ _ _ _ _ _ _ _ _ _ _ _ _ _ _ _ _ _ _ _ _ _ _ _ _ _ _ _ _ _ _ _ _ _ _ _ _ _ _ _ _ _ _ _ _ _ _ _ _ _ _ _ _ _ _ _ _ _ _ _ _ _ _ _ _ _ _ _ _ _ _ _ _ _ _ _ _ _ _ _ _ _ _ _ _ _ _ _ _ _ _ _ _ _ _ _ _ _ _ _ _ _ _ _ _ _ _ _ _ _ _ _ _ _ _ _ _ _ _ _ _ _ _ _ _ _ _ _ _ _ _ _ _ _ _ _ _ _ _ _ _ _ _ _ _ _ _ _ _ _ _ _ _ _ _ _ _ _ _ _ _ _ _ _ _ _ _ _ _ _ _ _ _ _ _ _ _ _ _ _ _ _ _ _ _ _ _ _ _ _ _ _ _ _ i1 i2 i3 l1 l2 l3 HS0 HS1 HS2 HP HQ ?_
      unfold Hid
      intro v58 v59 v60 v61 v62 v63 v64 v65 v66 v67 v68 v69 v70 v71 v72 v73 v74 v75 v76 v77 v78 v79 v80 v81 v82 v83 v84 v85 wc hv
      have HV : Hid (Both w wc 3 T) := hv
      clear hv HI c1 c2 g0 g1 g2 g3 g4 g5 HP HQ bEP HS0 HS1 HS2
      have HM : Hid (∀ wx, Both w wx 3 T → Mt wx p w.heap.size 3 T) := fun wx h => by
        have := mt_both h HT.out.1 HT.out.2 HFT.out (by omega) (by omega)
        rwa [HPQ.out.1] at this
      have HR : Hid (∀ wx, Both w wx 3 T → RefIs wx q q 3 T) := fun wx h => by
        have := h.ref
        rwa [HPQ.out.2] at this
      have HG : Hid (∀ wx, Both w wx 3 T → Calls Tryd.prog 9 #[.pointer (some ⟨p, 0, none⟩), .int .i64 zf, .int .i64 za] wx fun x w' => x = .returned (.tuple #[.agg #[.int .i64 (sC 3 T zf za 0), .int .i64 (sC 3 T zf za 1), .int .i64 (sC 3 T zf za 2), .int .i64 (sC 3 T zf za 3), .int .i64 (sC 3 T zf za 4), .int .i64 (sC 3 T zf za 5)], .int .i64 (sE 3 T zf za)]) ∧ Below wx.heap.size wx w') := fun wx h => sget_any p w.heap.size 3 zf za T wx (HM.out _ h)
      have HH : Hid (∀ wx, Both w wx 3 T → Calls Tryd.prog 10 #[.pointer (some ⟨q, 0, none⟩), .int .i64 zf, .int .i64 za] wx fun x w' => x = .returned (.tuple #[.agg #[.int .i64 (sC 3 T zf za 0), .int .i64 (sC 3 T zf za 1), .int .i64 (sC 3 T zf za 2), .int .i64 (sC 3 T zf za 3), .int .i64 (sC 3 T zf za 4), .int .i64 (sC 3 T zf za 5)], .int .i64 (sE 3 T zf za)]) ∧ Below wx.heap.size wx w') := fun wx h => rsget_any q q 3 zf za T wx (by omega) (by omega) (HR.out _ h) HFT.out
      have HU : Hid (∀ wx, Both w wx 3 T → Calls Tryd.prog 11 #[.pointer (some ⟨p, 0, none⟩), .int .i64 zf] wx fun e w' => e = .returned (.tuple #[.int .i64 (uN 3 T zf), .int .i64 (aE 3 T zf)]) ∧ Below wx.heap.size wx w') := fun wx h => sused_any p w.heap.size 3 zf T wx (HM.out _ h)
      have HX : Hid (∀ wx, Both w wx 3 T → Calls Tryd.prog 12 #[.pointer (some ⟨q, 0, none⟩), .int .i64 zf] wx fun e w' => e = .returned (.tuple #[.int .i64 (uN 3 T zf), .int .i64 (aE 3 T zf)]) ∧ Below wx.heap.size wx w') := fun wx h => rsused_any q q 3 zf T wx (by omega) (by omega) (HR.out _ h) HFT.out
      have HFi : Hid (∀ wx, Both w wx 3 T → Calls Tryd.prog 13 #[.pointer (some ⟨p, 0, none⟩), .int .i64 zf] wx fun e w' => e = .returned (.tuple #[.int .i64 (fN 3 T zf), .int .i64 (fE 3 T zf)]) ∧ Below wx.heap.size wx w') := fun wx h => sfirst_any p w.heap.size 3 zf T wx (HM.out _ h)
      have HRi : Hid (∀ wx, Both w wx 3 T → Calls Tryd.prog 14 #[.pointer (some ⟨q, 0, none⟩), .int .i64 zf] wx fun e w' => e = .returned (.tuple #[.int .i64 (fN 3 T zf), .int .i64 (fE 3 T zf)]) ∧ Below wx.heap.size wx w') := fun wx h => rsfirst_any q q 3 zf T wx (by omega) (by omega) (HR.out _ h) HFT.out
      have HAl : Hid (∀ wx, Both w wx 3 T → Calls Tryd.prog 15 #[.pointer (some ⟨p, 0, none⟩), .int .i64 zf] wx fun e w' => ∃ v, e = .returned (.tuple #[v, .int .i64 (aE 3 T zf)]) ∧ Caps w' wx.heap.size v (aN 3 T zf) (fun i j => sC 3 T zf (i : Nat) j) ∧ Below wx.heap.size wx w') := fun wx h => sall_any p w.heap.size 3 zf T wx (HM.out _ h)
      have HRa : Hid (∀ wx, Both w wx 3 T → Calls Tryd.prog 16 #[.pointer (some ⟨q, 0, none⟩), .int .i64 zf] wx fun e w' => ∃ v, e = .returned (.tuple #[v, .int .i64 (aE 3 T zf)]) ∧ Caps w' wx.heap.size v (aN 3 T zf) (fun i j => sC 3 T zf (i : Nat) j) ∧ Below wx.heap.size wx w') := fun wx h => rsall_any q q 3 zf T wx (by omega) (by omega) (HR.out _ h) HFT.out
      have HLi : Hid (∀ wx, Both w wx 3 T → Calls Tryd.prog 17 #[.pointer (some ⟨p, 0, none⟩), .pointer (some ⟨q, 0, none⟩)] wx fun e w' => e = .returned (.bool true) ∧ Below wx.heap.size wx w') := fun wx h => by
        have := alike_any 3 T w wx (by omega) (by omega) h
        rwa [HPQ.out.1, HPQ.out.2] at this
      generalize sC 3 T zf za 0 = K0 at HG HH
      generalize sC 3 T zf za 1 = K1 at HG HH
      generalize sC 3 T zf za 2 = K2 at HG HH
      generalize sC 3 T zf za 3 = K3 at HG HH
      generalize sC 3 T zf za 4 = K4 at HG HH
      generalize sC 3 T zf za 5 = K5 at HG HH
      generalize sE 3 T zf za = E at HG HH
      have hn := aN_le 3 T zf
      generalize uN 3 T zf = U at HU HX
      generalize aE 3 T zf = EA at HU HX HAl HRa
      generalize fN 3 T zf = FN at HFi HRi
      generalize fE 3 T zf = FE at HFi HRi
      generalize aN 3 T zf = n at HAl HRa hn
      generalize (fun (i j : Nat) => sC 3 T zf (i : Nat) j) = CC at HAl HRa
      clear HM HR
      have A1 : Hid (∀ w', Below wc.heap.size wc w' → w'.cell? ⟨b1, o1 + k, none⟩ = some (.int .i64 zf)) := fun w' hb => G1.out w' (HV.out.grown hb).below
      have A2 : Hid (∀ w', Below wc.heap.size wc w' → w'.cell? ⟨b2, o2 + k, none⟩ = some (.int .i64 za)) := fun w' hb => G2.out w' (HV.out.grown hb).below
      have A3 : Hid (∀ wx, Below wc.heap.size wc wx → Calls Tryd.prog 9 #[.pointer (some ⟨p, 0, none⟩), .int .i64 zf, .int .i64 za] wx fun e w' => e = .returned (.tuple #[.agg #[.int .i64 K0, .int .i64 K1, .int .i64 K2, .int .i64 K3, .int .i64 K4, .int .i64 K5], .int .i64 E]) ∧ Below wx.heap.size wx w') := fun wx hb => HG.out _ (HV.out.grown hb)
      go_upto_region 9 with fail
      refine region9 p k b1 o1 len1 cap1 b2 o2 len2 cap2 zf za K0 K1 K2 K3 K4 K5 E wc _ _ _ _ _ _ _ _ _ _ _ _ _ _ _ _ _ _ _ _ _ _ _ _ _ _ _ _ _ _ _ _ _ _ _ _ _ _ _ _ _ _ _ _ _ _ _ _ _ _ _ _ _ _ _ _ _ _ _ _ _ _ _ _ _ _ _ _ _ _ _ _ _ _ _ _ _ _ _ _ _ _ _ _ _ _ _ _ _ _ _ _ _ _ _ _ _ _ _ _ _ _ _ _ _ _ _ _ _ _ _ _ _ _ _ _ _ _ _ _ _ _ _ _ _ _ _ _ _ _ _ _ _ _ _ _ _ _ _ _ _ _ _ _ _ _ _ _ _ _ _ _ _ _ _ _ _ _ _ _ _ _ _ _ _ _ _ _ _ _ _ _ _ _ _ _ _ _ _ _ _ _ _ _ _ _ _ _ _ _ _ _ _ _ _ _ _ _ _ _ _ _ _ _ _ _ _ _ _ _ _ _ _ _ _ _ _ _ _ _ _ _ _ _ _ _ i1 i2 l1 l2 A1 A2 A3 ?_
      unfold Hid
      intro v87 v88 v89 v90 v91 v92 v93 v94 v95 v96 v97 v98 v99 Da wd hb hxa
      have HW : Hid (Both w wd 3 T ∧ Box6 wd Da K0 K1 K2 K3 K4 K5) := ⟨HV.out.grown hb, hxa⟩
      clear hb hxa HG A1 A2 A3 HV
      have A1 : Hid (∀ w', Below wd.heap.size wd w' → w'.cell? ⟨b1, o1 + k, none⟩ = some (.int .i64 zf)) := fun w' hb => G1.out w' (HW.out.1.grown hb).below
      have A2 : Hid (∀ w', Below wd.heap.size wd w' → w'.cell? ⟨b2, o2 + k, none⟩ = some (.int .i64 za)) := fun w' hb => G2.out w' (HW.out.1.grown hb).below
      have A3 : Hid (∀ wx, Below wd.heap.size wd wx → Calls Tryd.prog 10 #[.pointer (some ⟨q, 0, none⟩), .int .i64 zf, .int .i64 za] wx fun e w' => e = .returned (.tuple #[.agg #[.int .i64 K0, .int .i64 K1, .int .i64 K2, .int .i64 K3, .int .i64 K4, .int .i64 K5], .int .i64 E]) ∧ Below wx.heap.size wx w') := fun wx hb => HH.out _ (HW.out.1.grown hb)
      go_upto_region 10 with fail
      refine region10 q k b1 o1 len1 cap1 b2 o2 len2 cap2 zf za K0 K1 K2 K3 K4 K5 E wd _ _ _ _ _ _ _ _ _ _ _ _ _ _ _ _ _ _ _ _ _ _ _ _ _ _ _ _ _ _ _ _ _ _ _ _ _ _ _ _ _ _ _ _ _ _ _ _ _ _ _ _ _ _ _ _ _ _ _ _ _ _ _ _ _ _ _ _ _ _ _ _ _ _ _ _ _ _ _ _ _ _ _ _ _ _ _ _ _ _ _ _ _ _ _ _ _ _ _ _ _ _ _ _ _ _ _ _ _ _ _ _ _ _ _ _ _ _ _ _ _ _ _ _ _ _ _ _ _ _ _ _ _ _ _ _ _ _ _ _ _ _ _ _ _ _ _ _ _ _ _ _ _ _ _ _ _ _ _ _ _ _ _ _ _ _ _ _ _ _ _ _ _ _ _ _ _ _ _ _ _ _ _ _ _ _ _ _ _ _ _ _ _ _ _ _ _ _ _ _ _ _ _ _ _ _ _ _ _ _ _ _ _ _ _ _ _ _ _ _ _ _ _ _ _ _ i1 i2 l1 l2 A1 A2 A3 ?_
      unfold Hid
      intro v100 v101 v102 v103 v104 v105 v106 v107 v108 v109 v110 v111 v112 Db wf hb hxb
      have HX0 : Hid (Both w wf 3 T ∧ Box6 wf Da K0 K1 K2 K3 K4 K5 ∧ Box6 wf Db K0 K1 K2 K3 K4 K5) := ⟨HW.out.1.grown hb, HW.out.2.on hb, hxb⟩
      clear hb hxb HH A1 A2 A3 HW
      have c1 := G1.out wf HX0.out.1.below
      go_upto_region 17 with (first
        | (go_at_call 11; refine (HU.out _ HX0.out.1).mono ?_; rintro e x1 ⟨rfl, hb⟩; have HX1 : Hid (Both w x1 3 T ∧ Box6 x1 Da K0 K1 K2 K3 K4 K5 ∧ Box6 x1 Db K0 K1 K2 K3 K4 K5) := ⟨HX0.out.1.grown hb, HX0.out.2.1.on hb, HX0.out.2.2.on hb⟩; clear hb c1; have c1 := G1.out x1 HX1.out.1.below)
        | (go_at_call 12; refine (HX.out _ HX1.out.1).mono ?_; rintro e x2 ⟨rfl, hb⟩; have HX2 : Hid (Both w x2 3 T ∧ Box6 x2 Da K0 K1 K2 K3 K4 K5 ∧ Box6 x2 Db K0 K1 K2 K3 K4 K5) := ⟨HX1.out.1.grown hb, HX1.out.2.1.on hb, HX1.out.2.2.on hb⟩; clear hb c1; have c1 := G1.out x2 HX2.out.1.below)
        | (go_at_call 13; refine (HFi.out _ HX2.out.1).mono ?_; rintro e x3 ⟨rfl, hb⟩; have HX3 : Hid (Both w x3 3 T ∧ Box6 x3 Da K0 K1 K2 K3 K4 K5 ∧ Box6 x3 Db K0 K1 K2 K3 K4 K5) := ⟨HX2.out.1.grown hb, HX2.out.2.1.on hb, HX2.out.2.2.on hb⟩; clear hb c1; have c1 := G1.out x3 HX3.out.1.below)
        | (go_at_call 14; refine (HRi.out _ HX3.out.1).mono ?_; rintro e x4 ⟨rfl, hb⟩; have HX4 : Hid (Both w x4 3 T ∧ Box6 x4 Da K0 K1 K2 K3 K4 K5 ∧ Box6 x4 Db K0 K1 K2 K3 K4 K5) := ⟨HX3.out.1.grown hb, HX3.out.2.1.on hb, HX3.out.2.2.on hb⟩; clear hb c1; have c1 := G1.out x4 HX4.out.1.below)
        | (go_at_call 15; refine (HAl.out _ HX4.out.1).mono ?_; rintro e x5 ⟨v, rfl, hc, hb⟩; obtain ⟨ay, cy, rfl⟩ := hc.slice; have HX5 : Hid (Both w x5 3 T ∧ Box6 x5 Da K0 K1 K2 K3 K4 K5 ∧ Box6 x5 Db K0 K1 K2 K3 K4 K5) := ⟨HX4.out.1.grown hb, HX4.out.2.1.on hb, HX4.out.2.2.on hb⟩; have HY5 : Hid (Caps x5 x4.heap.size (.slice ay n cy) n CC) := hc; clear hb hc c1; have c1 := G1.out x5 HX5.out.1.below)
        | (go_at_call 16; refine (HRa.out _ HX5.out.1).mono ?_; rintro e x6 ⟨v, rfl, hc, hb⟩; obtain ⟨au, cu, rfl⟩ := hc.slice; have HX6 : Hid (Both w x6 3 T ∧ Box6 x6 Da K0 K1 K2 K3 K4 K5 ∧ Box6 x6 Db K0 K1 K2 K3 K4 K5) := ⟨HX5.out.1.grown hb, HX5.out.2.1.on hb, HX5.out.2.2.on hb⟩; have HY6 : Hid (Caps x6 x4.heap.size (.slice ay n cy) n CC ∧ Caps x6 x5.heap.size (.slice au n cu) n CC) := ⟨HY5.out.on hb, hc⟩; clear hb hc c1 HY5)
        | fail)
      clear HX0 HX1 HX2 HX3 HX4 HX5 HU HX HFi HRi HAl HRa
      have hne := neqC K0 K1 K2 K3 K4 K5
      have bE : (E != E) = false := by simp
      have bU : ((U : Int) != (U : Int)) = false := by simp
      have bEA : (EA != EA) = false := by simp
      have bFN : ((FN : Int) != (FN : Int)) = false := by simp
      have bFE : (FE != FE) = false := by simp
      have bn : ((n : Int) != (n : Int)) = false := by simp
      have XA := HX6.out.2.1
      have XB := HX6.out.2.2
      have x0_ := XA.c0
      have x1_ := XA.c1
      have x2_ := XA.c2
      have x3_ := XA.c3
      have x4_ := XA.c4
      have x5_ := XA.c5
      have y0_ := XB.c0
      have y1_ := XB.c1
      have y2_ := XB.c2
      have y3_ := XB.c3
      have y4_ := XB.c4
      have y5_ := XB.c5
      clear XA XB
      go_wp2_with (first
        | (go_at_call 17; refine (HLi.out _ HX6.out.1).mono ?_; rintro e x7 ⟨rfl, hb⟩; have HX7 : Hid (Both w x7 3 T) := HX6.out.1.grown hb; have HY7 : Hid (Caps x7 x4.heap.size (.slice ay n cy) n CC ∧ Caps x7 x5.heap.size (.slice au n cu) n CC) := ⟨HY6.out.1.on hb, HY6.out.2.on hb⟩; clear hb x0_ x1_ x2_ x3_ x4_ x5_ y0_ y1_ y2_ y3_ y4_ y5_ HX6 HY6 HLi)
        | fail)
      clear hne bE bU bEA bFN bFE bn
      go_loopw [28] (fun i wr => ∃ m d : Nat, m ≤ n ∧ i = .int .i64 m ∧ wr = x7.drewN d) (fun i _ => n - (intOf i).toNat)
      case atStart => exact ⟨0, 0, by omega, rfl, rfl⟩
      case round =>
        obtain ⟨m, d, hm, rfl, hwr⟩ := hrel
        have HD : Hid (wr = x7.drewN d) := hwr
        by_cases hlt : m < n
        · have hmi : (m : Int) < (n : Int) := by omega
          obtain ⟨_, by_, rfl, _, _, hy⟩ := HY7.out.1.at hlt
          obtain ⟨_, bu_, rfl, _, _, hu⟩ := HY7.out.2.at hlt
          obtain ⟨m0, m1, m2, m3, m4, m5⟩ := hy wr (by rw [hwr]; exact below_drew' _ _ _)
          obtain ⟨n0, n1, n2, n3, n4, n5⟩ := hu wr (by rw [hwr]; exact below_drew' _ _ _)
          clear hy hu hwr
          generalize CC m 0 = J0 at m0 n0
          generalize CC m 1 = J1 at m1 n1
          generalize CC m 2 = J2 at m2 n2
          generalize CC m 3 = J3 at m3 n3
          generalize CC m 4 = J4 at m4 n4
          generalize CC m 5 = J5 at m5 n5
          have hne := neqC J0 J1 J2 J3 J4 J5
          go_wp2
          go_quiet (fail)
          go_wp2
          go_roundw
          case rel => exact ⟨m + 1, _, by omega, by go_num, by rw [HD.out]; exact World.drewN_drewN _ _ _⟩
          case measure => simp [intOf]; omega
        · have hmi : ¬ (m : Int) < (n : Int) := by omega
          have HE : Hid (Both w wr 3 T) := by rw [hwr]; exact HX7.out.grown (below_drew' _ _ _)
          clear hwr
          go_wp2
          go_roundw
          case rel => exact ⟨k + 1, by omega, by go_num, T, HFT.out, HE.out⟩
          case measure => simp [intOf]; omega
    · have hin' : ¬ k < len1 ∨ (k < len1 ∧ ¬ k < len2) ∨ (k < len1 ∧ k < len2 ∧ ¬ k < len3) ∨ (k < len1 ∧ k < len2 ∧ k < len3 ∧ ¬ k < 40) := by omega
      clear hin
      rcases hin' with h1 | ⟨h1, h2⟩ | ⟨h1, h2, h3⟩ | ⟨h1, h2, h3, h4⟩
      all_goals
        go_wp2_with (first
          | (go_at_call 18; refine (awake_any _ (HT.out.1.on HI.out.below) (HT.out.2.on HI.out.below)).mono ?_; rintro e w8 ⟨rfl, hB8⟩; have H8 : Hid (Below w.heap.size w w8) := HI.out.below.trans (hB8.mono HI.out.below.size); clear hB8)
          | fail)
        go_ret
        exact ⟨rfl, H8.out⟩

/-! ### The statement's frame -/
/-- The heap that the program's own initialisers leave meets the condition. -/
theorem door_met (os : Os) (args : Array Value) : laidMetH Tryd.prog Rows.slotPlaysRow.laid ((World.doorLaid Tryd.prog 400 os).forCall (fun _ _ => 0) ⟨#[], args, []⟩).memory :=
  laidMetH_of_parts3 (fuel := 8) (laidMet_of_run' 8 (by kernel_rfl) (by kernel_rfl)) (by kernel_rfl) (by kernel_rfl)
set_option maxRecDepth 100000 in
theorem lifted (os : Os) (started : os.Started) (H : Type) (enc : TypeId × Value → H) :
    ReturnsInHanded {} Tryd.checked os 3 .any (fun w args => (Rows.slotPlaysSpec.pre enc Tryd.prog Tryd.f3 [] false w args ∧ laidMetH Tryd.prog Rows.slotPlaysRow.laid w) ∧ sizedMet enc Tryd.prog Tryd.f3 (OpenSpec.ofChange Rows.slotPlaysSpec) false w args) (Rows.slotPlaysSpec.post enc Tryd.prog Tryd.f3 false true false false) := by
  refine returnsInHanded_of_change_and (C := Tryd.checked) (X := fun w _ => laidMetH Tryd.prog Rows.slotPlaysRow.laid w) (fun _ _ _ hh h => h.of_heap hh) own started (by kernel_rfl) Tryd.func3
    (ChangeSpec.witness_shaped (enc := enc) (C := Tryd.checked) (os := os) (X := fun w _ => laidMetH Tryd.prog Rows.slotPlaysRow.laid w) false (World.doorLaid Tryd.prog 400 os) #[.slice none 0 0, .slice none 0 0, .slice none 0 0, .slice none 0 0] 8 rfl (World.shaped_of_RefB (by kernel_rfl) (by kernel_rfl)) (by kernel_rfl) (by kernel_rfl) (by kernel_rfl) (door_met os _)) ?_
  intro W base args ds gs before hval0 hW _ _ hL _
  have hval : ∀ (j : Nat) t v, Tryd.f3.params[j]? = some t → args[j]? = some v → Value.okWide Tryd.prog W .any base t v := hval0
  have hW' := hW
  obtain ⟨p, q, hA0, hV, rfl, hfz, hnd⟩ := hW
  have hA : DataW.TrodAll enc Tryd.prog W 0 (fun _ => true) true Tryd.f3.params.toList args.toList ds p := hA0
  rw [Tryd.params3] at hA hval
  obtain ⟨v0, vs0, d0, ds0, p0, q0, hargs, rfl, rfl, h0, r0⟩ := trodAll_cons hA
  obtain ⟨v1, vs1, d1, ds1, p1, q1, rfl, rfl, rfl, h1, r1⟩ := trodAll_cons r0
  obtain ⟨v2, vs2, d2, ds2, p2, q2, rfl, rfl, rfl, h2, r2⟩ := trodAll_cons r1
  obtain ⟨v3, vs3, d3, ds3, p3, q3, rfl, rfl, rfl, h3, r3⟩ := trodAll_cons r2
  obtain ⟨rfl, rfl, rfl⟩ := trodAll_nil r3
  obtain rfl : args = #[v0, v1, v2, v3] := by cases args; simp_all
  obtain ⟨rfl, rfl⟩ := trodVars_none hV
  obtain ⟨a0, len0, cap0, rfl⟩ := okWide_slice Tryd.underlying22 (hval 0 22 v0 rfl rfl)
  have k0 := h0
  have lt0 : ∀ x ∈ p0, x.block < W.heap.size := by obtain ⟨m, hm⟩ := k0; exact DataW.trod_lt m _ _ _ hm
  have w0 : Came .u64 W.heap.size W a0 len0 ∧ len0 ≤ 9223372036854775807 := by
    obtain ⟨fuel, hf⟩ := h0
    rcases open_ints Tryd.underlying22 Tryd.underlying58 (by kernel_rfl) hf with ⟨hcs, _⟩ | ⟨x, l, c, zs, hcs, _, hl, hm, hz, _, hcell, hwz⟩
    · simp [Value.cells] at hcs
      obtain ⟨rfl, rfl, rfl⟩ := hcs
      exact came_of_row (zs := []) (.inl ⟨rfl, rfl, rfl, rfl⟩)
    · simp [Value.cells] at hcs
      obtain ⟨rfl, rfl, rfl⟩ := hcs
      exact came_of_row (.inr ⟨_, rfl, hl, hm, by simpa using hz, hcell, hwz⟩)
  obtain ⟨a1, len1, cap1, rfl⟩ := okWide_slice Tryd.underlying23 (hval 1 23 v1 rfl rfl)
  have k1 := h1
  have lt1 : ∀ x ∈ p1, x.block < W.heap.size := by obtain ⟨m, hm⟩ := k1; exact DataW.trod_lt m _ _ _ hm
  have w1 : Came .i64 W.heap.size W a1 len1 ∧ len1 ≤ 9223372036854775807 := by
    obtain ⟨fuel, hf⟩ := h1
    rcases open_ints Tryd.underlying23 Tryd.underlying3 (by kernel_rfl) hf with ⟨hcs, _⟩ | ⟨x, l, c, zs, hcs, _, hl, hm, hz, _, hcell, hwz⟩
    · simp [Value.cells] at hcs
      obtain ⟨rfl, rfl, rfl⟩ := hcs
      exact came_of_row (zs := []) (.inl ⟨rfl, rfl, rfl, rfl⟩)
    · simp [Value.cells] at hcs
      obtain ⟨rfl, rfl, rfl⟩ := hcs
      exact came_of_row (.inr ⟨_, rfl, hl, hm, by simpa using hz, hcell, hwz⟩)
  obtain ⟨a2, len2, cap2, rfl⟩ := okWide_slice Tryd.underlying23 (hval 2 23 v2 rfl rfl)
  have k2 := h2
  have lt2 : ∀ x ∈ p2, x.block < W.heap.size := by obtain ⟨m, hm⟩ := k2; exact DataW.trod_lt m _ _ _ hm
  have w2 : Came .i64 W.heap.size W a2 len2 ∧ len2 ≤ 9223372036854775807 := by
    obtain ⟨fuel, hf⟩ := h2
    rcases open_ints Tryd.underlying23 Tryd.underlying3 (by kernel_rfl) hf with ⟨hcs, _⟩ | ⟨x, l, c, zs, hcs, _, hl, hm, hz, _, hcell, hwz⟩
    · simp [Value.cells] at hcs
      obtain ⟨rfl, rfl, rfl⟩ := hcs
      exact came_of_row (zs := []) (.inl ⟨rfl, rfl, rfl, rfl⟩)
    · simp [Value.cells] at hcs
      obtain ⟨rfl, rfl, rfl⟩ := hcs
      exact came_of_row (.inr ⟨_, rfl, hl, hm, by simpa using hz, hcell, hwz⟩)
  obtain ⟨a3, len3, cap3, rfl⟩ := okWide_slice Tryd.underlying24 (hval 3 24 v3 rfl rfl)
  have k3 := h3
  have lt3 : ∀ x ∈ p3, x.block < W.heap.size := by obtain ⟨m, hm⟩ := k3; exact DataW.trod_lt m _ _ _ hm
  have w3 : CameC W.heap.size W a3 len3 ∧ len3 ≤ 9223372036854775807 := by
    obtain ⟨fuel, hf⟩ := h3
    exact cameC_of (by simpa [Value.cells] using hf)
  clear hA0 hval0
  refine (walk a0 len0 cap0 a1 len1 cap1 a2 len2 cap2 a3 len3 cap3 W w0.1 w0.2 w1.1 w1.2 w2.1 w2.2 w3.1 w3.2 (of_laid hL).1 (of_laid hL).2).mono fun e W' ⟨he, bel⟩ => ?_
  subst he
  exact ⟨_, rfl, _, _, _, [], _, [], hW', trodAll_mk1 (shut_bool Tryd.underlying4 _), (trodAll_cons_mk (Below.trod laidOut (by kernel_rfl) (of_decide_eq_true (by kernel_rfl)) k0 bel lt0) (trodAll_cons_mk (Below.trod laidOut (by kernel_rfl) (of_decide_eq_true (by kernel_rfl)) k1 bel lt1) (trodAll_cons_mk (Below.trod laidOut (by kernel_rfl) (of_decide_eq_true (by kernel_rfl)) k2 bel lt2) (trodAll_cons_mk (Below.trod laidOut (by kernel_rfl) (of_decide_eq_true (by kernel_rfl)) k3 bel lt3) trodAll_mk0)))), rfl, bel.frame _, fun h => by cases h⟩

theorem over : Rows.slotPlaysRow.holds Tryd.pinned (OpenSpec.ofChange Rows.slotPlaysSpec) :=
  OpenClaim.holds_of_wide 3 Tryd.f3 rfl rfl rfl rfl rfl rfl rfl ⟨rfl, rfl, rfl, rfl, rfl⟩ rfl rfl rfl rfl rfl (by kernel_rfl) Tryd.func3 (by kernel_rfl)
    (of_decide_eq_true (by kernel_rfl)) (by unfold Func.isWrapper; first | (rw [if_pos (by decide +kernel)]; kernel_rfl) | (rw [if_neg (by decide +kernel)]; exact ⟨rfl, rfl⟩))
    (fun os started H enc _ => lifted os started H enc)

theorem proved : Rows.SlotPlaysCardSaid :=
  Claim7.holds_tied_plain_at .later [] [.data, .data] true (true, "7a05885a4eed03ea09005b5b7a2d0e0bb6a0481ae8bf86314714b423c23f920a") false
    over (fun _ h => by cases h) (by kernel_rfl) (fun _ h => by cases h) slotPlays_row_tie rfl ⟨rfl, rfl⟩ (by kernel_rfl) rfl
    (fun g fn hf hfn => by
      obtain rfl : g = 3 := Option.some.inj ((show Tryd.prog.funcNamed Rows.slotPlaysRow.func = some 3 by kernel_rfl).symm.trans hf) |>.symm
      obtain rfl : fn = Tryd.f3 := (Option.some.inj (Tryd.func3.symm.trans hfn)).symm
      exact ⟨by kernel_rfl, fun j t ht => by
        rw [Tryd.params3] at ht
        have hm : t ∈ [22, 23, 23, 24] := by simpa using Array.mem_of_getElem? ht
        have hall : ([22, 23, 23, 24].all fun u => !Tryd.prog.wantsStandIn u) = true := by kernel_rfl
        exact (show Tryd.prog.wantsStandIn t = false by simpa using List.all_eq_true.1 hall t hm)⟩)
    (by kernel_rfl)
end Go.Proofs.YtkodanflobclhaaDoor.slotPlays
namespace Go.Proofs.YtkodanflobclhaaDoor
theorem slotPlays_holds : Rows.SlotPlaysCardSaid := slotPlays.proved
#print axioms slotPlays_holds
end Go.Proofs.YtkodanflobclhaaDoor
