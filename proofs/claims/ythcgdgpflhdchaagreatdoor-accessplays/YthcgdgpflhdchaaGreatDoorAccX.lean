/- The walk of AccessPlays. -/
import Derived.Test.YthcgdgpflhdchaaGreatDoorAccQ
import Derived.Test.YthcgdgpflhdchaaGreatDoorAccS
import Derived.Test.YthcgdgpflhdchaaGreatDoorAccL
import Derived.Deep.RegionHeld3
import Derived.Deep.CutBlock
namespace Go.Proofs.YthcgdgpflhdchaaGreatDoor.Paccess
open Go.Proofs.YthcgdgpflhdchaaGreatDoor.Pbase Go.Proofs.YthcgdgpflhdchaaGreatDoor.Pmem
open Go.RowKit
set_option linter.unusedVariables false

section
variable {w0 w w' w1 w2 w3 : World} {N : Nat} {M M' : Nat → Nat → Int} {pt bt qt R T : Nat} {S : List Ptlb.En}
theorem jo_new (h : Both w0 w1 N M) (hf : Fit M) (hx : Tx w0) (ht : Ptlb.TlbIs w2 (w1.heap.size + 1) w1.heap.size R []) (hb : Below w1.heap.size w1 w2) (hr : ∀ n₀, n₀ ≤ w2.heap.size → Ptlb.RefIs n₀ w3 w2.heap.size R none 0 []) (hb3 : Below w2.heap.size w2 w3) (hR : R ≤ 8) (h1 : 1 ≤ N) (h64 : N ≤ 64) : Jo w0 w3 N M M (w1.heap.size + 1) w1.heap.size w2.heap.size R 0 [] [] := by
  have hl := h.ref.lt
  have hs := hb.size
  have hB : Below w1.heap.size w1 w3 := hb.trans (hb3.mono hs)
  exact ⟨h.mem.grown hB, h.ref.grown hB, ht.more hb3, ⟨none, 0, hr _ (by omega)⟩, hf, hf, Ptlb.fine_nil R, Ptlb.fine_nil R, hx, h.below.trans (hB.mono h.below.size), h.below.size, hR, h1, h64⟩
theorem Jo.flushP (h : Jo w0 w N M M pt bt qt R T S S) (ht : Ptlb.TlbIs w' pt bt R []) (hB : But bt w w') : Jo w0 w' N M M pt bt qt R (T + 1) S [] :=
  h.prog (h.ax.tlb ht hB ((Ptlb.fine_nil R).mono (Nat.zero_le (T + 1)))) (Buts.two _ hB) (by omega)
theorem Jo.flushD (h : Jo w0 w N M M pt bt qt R T S []) (hr : Ptlb.RefIs (w0.heap.size + 2) w' qt R none 0 []) (hO : Ptlb.Other w w') (hB : Below (w0.heap.size + 2) w w') : Jo w0 w' N M M pt bt qt R T [] [] :=
  h.doc (h.rj.tlb ⟨none, 0, hr⟩ hO (by simp)) hB (Doc.of_other hO)
end
set_option maxRecDepth 100000 in
set_option maxHeartbeats 16000000 in
theorem plays_walk (a0 : Option Addr) (len0 cap0 : Nat) (zr : Int) (a2 : Option Addr) (len2 cap2 : Nat) (a3 : Option Addr) (len3 cap3 : Nat) (a4 : Option Addr) (len4 cap4 : Nat) (a5 : Option Addr) (len5 cap5 : Nat) (w : World) (w0 : Hid (Came .u64 w.heap.size w a0 len0)) (l0 : len0 ≤ 9223372036854775807) (hzr : (Lit.int .u8 zr).wf = true) (D2 : Hid (Came .u8 w.heap.size w a2 len2)) (l2 : len2 ≤ 9223372036854775807) (D3 : Hid (Came .i64 w.heap.size w a3 len3)) (l3 : len3 ≤ 9223372036854775807) (D4 : Hid (Came .i64 w.heap.size w a4 len4)) (l4 : len4 ≤ 9223372036854775807) (D5 : Hid (Came .u64 w.heap.size w a5 len5)) (l5 : len5 ≤ 9223372036854775807) (hT : Tx w) :
    Calls Tryz.prog 3 #[.slice a0 len0 cap0, .int .u8 zr, .slice a2 len2 cap2, .slice a3 len3 cap3, .slice a4 len4 cap4, .slice a5 len5 cap5] w fun e w' => e = .returned (.bool true) ∧ Below w.heap.size w w' := by
  have HT := ahide hT
  clear hT
  obtain ⟨R, hR0, hR9⟩ := rem_u8 hzr 9 (by omega)
  have hR : zr.tmod 9 = (R : Int) := hR0
  have HR8 : Hid (R ≤ 8) := (by omega : R ≤ 8)
  have v1 : IntKind.i64.wrap (R : Int) = (R : Int) := wrapi_small (by omega) (by omega)
  have v2 : wrap64 (R : Int) = (R : Int) := by unfold wrap64; omega
  clear hR0 hzr hR9
  go_enter Tryz.func3, Tryz.ntmps3
  go_wp2_with (first
    | (go_at_call 4; refine (laid_any a0 len0 cap0 5 _ (by omega) (by omega) w0 l0).mono ?_; rintro e1 w1 ⟨rfl, M0, hF0, hB0⟩; have HF0 := ahide hF0; have HB0 := ahide hB0; clear hF0 hB0)
    | (go_at_call 5; refine (Ptlb.new_ok (R : Int) _ (by omega) (by have := HR8.out; omega)).mono ?_; rintro e2 w2 ⟨rfl, ht, hb⟩; have HT2 := ahide ht; have HB2 := ahide hb; clear ht hb)
    | (go_at_call 6; refine (Ptlb.rnew_ok (R : Int) _ (by omega) (by have := HR8.out; omega)).mono ?_; rintro e3 w3 ⟨rfl, hr, hb⟩; have HI0 := ahide (jo_new HB0.out HF0.out HT.out HT2.out HB2.out hr hb HR8.out (by omega) (by omega)); clear hr hb HT2 HB2 HB0 HF0; generalize w1.heap.size + 1 = pt at HI0 ⊢; generalize w1.heap.size = bt at HI0 ⊢; generalize w2.heap.size = qt at HI0 ⊢)
    | fail)
  clear w0 l0 v1 v2 hR
  go_loopw [19] (fun i wr => ∃ k : Nat, k ≤ len2 ∧ k ≤ 60 ∧ i = .int .i64 k ∧ ∃ M S, Jo w wr 5 M M pt bt qt R k S S) (fun i _ => len2 - (intOf i).toNat)
  case atStart => exact ⟨0, by omega, by omega, rfl, _, _, HI0.out⟩
  case round =>
    obtain ⟨k, hk0, hk1, rfl, M, S, hI⟩ := hrel
    have HI := ahide hI
    clear hI HI0
    by_cases hin : k < len2 ∧ k < len3 ∧ k < len4 ∧ k < len5 ∧ k < 60
    case neg =>
      have hout : ¬ k < len2 ∨ (k < len2 ∧ ¬ k < len3) ∨ (k < len2 ∧ k < len3 ∧ ¬ k < len4) ∨ (k < len2 ∧ k < len3 ∧ k < len4 ∧ ¬ k < len5) ∨ (k < len2 ∧ k < len3 ∧ k < len4 ∧ k < len5 ∧ ¬ k < 60) := by omega
      clear hin
      rcases hout with h1 | ⟨h1, h2⟩ | ⟨h1, h2, h3⟩ | ⟨h1, h2, h3, h4⟩ | ⟨h1, h2, h3, h4, h5⟩
      all_goals
        go_wp2_with (first
          | (go_at_call 17; refine (aawake_any _ HI.out.ax.tx).mono ?_; rintro e9 w9 ⟨rfl, hb⟩; have H9 := ahide (HI.out.below.trans (hb.mono HI.out.below.size)); clear hb)
          | fail)
        go_ret
        exact ⟨rfl, H9.out⟩
    obtain ⟨h2, h3, h4, h5, h6⟩ := hin
    have i2 : (k : Int) < (len2 : Int) := by omega
    have i3 : (k : Int) < (len3 : Int) := by omega
    have i4 : (k : Int) < (len4 : Int) := by omega
    have i5 : (k : Int) < (len5 : Int) := by omega
    have i6 : (k : Int) < 60 := by omega
    obtain ⟨b2, o2, z2, rfl, f2, G2⟩ := D2.out.any h2
    obtain ⟨b3, o3, z3, rfl, _, G3⟩ := D3.out.any h3
    obtain ⟨b4, o4, z4, rfl, f4, G4⟩ := D4.out.any h4
    obtain ⟨b5, o5, z5, rfl, f5, G5⟩ := D5.out.any h5
    obtain ⟨K, hK, hK4⟩ := rem_u8 f2.out 4 (by omega)
    have hq' : z2.tmod 4 = 0 ∨ z2.tmod 4 = 1 ∨ z2.tmod 4 = 2 ∨ z2.tmod 4 = 3 := by
      have : z2.tmod 4 = (K : Int) := hK
      omega
    have HB4 := ahide (Pradix.bounds_i64 f4.out)
    have HB5 := ahide (bounds_u64 f5.out)
    have hw : wrap64 ((k : Int) + 1) = (k : Int) + 1 := by unfold wrap64; omega
    have HS : Hid (∀ w', Below w.heap.size w w' → w'.cell? ⟨b3, o3 + k, none⟩ = some (.int .i64 z3) ∧ w'.cell? ⟨b4, o4 + k, none⟩ = some (.int .i64 z4) ∧ w'.cell? ⟨b5, o5 + k, none⟩ = some (.int .u64 z5)) := fun w' hb => ⟨G3.out w' hb, G4.out w' hb, G5.out w' hb⟩
    have c2 := G2.out wr HI.out.below
    obtain ⟨c3, c4, c5⟩ := HS.out wr HI.out.below
    have HK9 : Hid (k ≤ 900) := (by omega : k ≤ 900)
    clear hK hK4 f2 f4 f5 G2 G3 G4 G5 D2 D3 D4 D5
    go_upto_block 2 with fail
    go_cut [20, 21, 22, 23, 24, 25, 26, 27, 28, 29] from 93 to 230 (fun _ _ _ _ _ _ _ _ _ _ wc => ∃ M S, Jo w wc 5 M M pt bt qt R (k + 1) S S)
    case first =>
      rcases hq' with hq | hq | hq | hq
      · generalize hE : soE 5 M S z3 z4 = E
        have HE := ahide hE
        clear hE
        have HS0 : Hid (∀ w', Below wr.heap.size wr w' → w'.cell? ⟨b3, o3 + k, none⟩ = some (.int .i64 z3) ∧ w'.cell? ⟨b4, o4 + k, none⟩ = some (.int .i64 z4) ∧ w'.cell? ⟨b5, o5 + k, none⟩ = some (.int .u64 z5)) := fun w' hb => HS.out w' (HI.out.on hb).below
        have HS1 : Hid (∀ w', Jo w w' 5 M (soM 5 M S z3 z4 z5) pt bt qt R (k + 1) S (acS R 5 M S z3 z4) → w'.cell? ⟨b3, o3 + k, none⟩ = some (.int .i64 z3) ∧ w'.cell? ⟨b4, o4 + k, none⟩ = some (.int .i64 z4) ∧ w'.cell? ⟨b5, o5 + k, none⟩ = some (.int .u64 z5)) := fun w' h => HS.out w' h.below
        have HS2 : Hid (∀ w', Jo w w' 5 (soM 5 M S z3 z4 z5) (soM 5 M S z3 z4 z5) pt bt qt R (k + 1) (acS R 5 M S z3 z4) (acS R 5 M S z3 z4) → w'.cell? ⟨b3, o3 + k, none⟩ = some (.int .i64 z3) ∧ w'.cell? ⟨b4, o4 + k, none⟩ = some (.int .i64 z4) ∧ w'.cell? ⟨b5, o5 + k, none⟩ = some (.int .u64 z5)) := fun w' h => HS.out w' h.below
        have HP : Hid (∀ wx, Below wr.heap.size wr wx → Calls Tryz.prog 7 #[.pointer (some ⟨w.heap.size + 1, 0, none⟩), .pointer (some ⟨pt, 0, none⟩), .int .i64 z3, .int .i64 z4, .int .u64 z5] wx fun e w' => e = .returned (.int .i64 E) ∧ Jo w w' 5 M (soM 5 M S z3 z4 z5) pt bt qt R (k + 1) S (acS R 5 M S z3 z4)) := fun wx hb => (astore_any _ _ 5 M pt bt R k S z3 z4 z5 wx (HI.out.on hb).ax HK9.out HB4.out HB5.out).mono fun e w' ⟨h1, hm, hB⟩ => ⟨by rw [h1, HE.out], (HI.out.on hb).prog hm hB (by omega)⟩
        have HQ : Hid (∀ wa wx, Jo w wa 5 M (soM 5 M S z3 z4 z5) pt bt qt R (k + 1) S (acS R 5 M S z3 z4) → Below wa.heap.size wa wx → Calls Tryz.prog 8 #[.pointer (some ⟨w.heap.size + 2, 0, none⟩), .pointer (some ⟨qt, 0, none⟩), .int .i64 z3, .int .i64 z4, .int .u64 z5] wx fun e w' => e = .returned (.int .i64 E) ∧ Jo w w' 5 (soM 5 M S z3 z4 z5) (soM 5 M S z3 z4 z5) pt bt qt R (k + 1) (acS R 5 M S z3 z4) (acS R 5 M S z3 z4)) := fun wa wx ha hb => (rstore_acc _ _ 5 M qt R S z3 z4 z5 wx (ha.on hb).rj HB5.out).mono fun e w' ⟨h1, hr, hB, hd⟩ => ⟨by rw [h1, HE.out], (ha.on hb).doc hr hB hd⟩
        go_upto_region 15 with fail
        refine region15 (w.heap.size + 1) pt (w.heap.size + 2) qt k b3 o3 len3 cap3 b4 o4 len4 cap4 b5 o5 len5 cap5 z3 z4 z5 E wr (fun wx => Jo w wx 5 M (soM 5 M S z3 z4 z5) pt bt qt R (k + 1) S (acS R 5 M S z3 z4)) (fun wx => Jo w wx 5 (soM 5 M S z3 z4 z5) (soM 5 M S z3 z4 z5) pt bt qt R (k + 1) (acS R 5 M S z3 z4) (acS R 5 M S z3 z4)) _ _ _ _ _ _ _ _ _ _ _ _ _ _ _ _ _ _ _ _ _ _ _ _ _ _ _ _ _ _ _ _ _ _ _ _ _ _ _ _ _ _ _ _ _ _ _ _ _ _ _ _ _ _ _ _ _ _ _ _ _ _ _ _ _ _ _ _ _ _ _ _ _ _ _ _ _ _ _ _ _ _ _ _ _ _ _ _ _ _ _ _ _ _ _ _ _ _ _ _ _ _ _ _ _ _ _ _ _ _ _ _ _ _ _ _ _ _ _ _ _ _ _ _ _ _ _ _ _ _ _ _ _ _ _ _ _ _ _ _ _ _ _ _ _ _ _ _ _ _ _ _ _ _ _ _ _ _ _ _ _ _ _ _ _ _ _ _ _ _ _ _ _ _ _ _ _ _ _ _ _ _ _ _ _ _ _ _ _ _ _ _ _ _ _ _ _ _ _ _ _ _ _ _ _ _ _ _ _ _ _ _ _ _ _ _ _ _ _ _ _ _ _ _ _ _ _ _ _ _ _ _ _ _ _ _ _ _ _ _ _ _ _ _ _ _ _ _ _ _ _ _ _ _ _ _ _ _ _ _ i3 i4 i5 l3 l4 l5 HS0 HS1 HS2 HP HQ ?_
        unfold Hid
        intro v155 v156 v157 v158 v159 v160 v161 v162 v163 v164 v165 v166 v167 v168 v169 v170 v171 v172 v173 v174 v175 v176 v177 v178 v179 v180 v181 v182 v183 v184 w4 h4
        have H4 := ahide h4
        clear h4 HP HQ HS0 HS1 HS2
        go_wp2_with fail
        go_meet
        exact ⟨_, _, H4.out⟩
      · generalize hE : loE 5 M S z3 z4 = E
        have HE := ahide hE
        generalize hW : loW 5 M S z3 z4 = W
        have HW := ahide hW
        have bE : (E != E) = false := by simp
        have bW : (W != W) = false := by simp
        clear hE hW
        have HS0 : Hid (∀ w', Below wr.heap.size wr w' → w'.cell? ⟨b3, o3 + k, none⟩ = some (.int .i64 z3) ∧ w'.cell? ⟨b4, o4 + k, none⟩ = some (.int .i64 z4) ∧ w'.cell? ⟨b5, o5 + k, none⟩ = some (.int .u64 z5)) := fun w' hb => HS.out w' (HI.out.on hb).below
        have HS1 : Hid (∀ w', Jo w w' 5 M M pt bt qt R (k + 1) S (acS R 5 M S z3 z4) → w'.cell? ⟨b3, o3 + k, none⟩ = some (.int .i64 z3) ∧ w'.cell? ⟨b4, o4 + k, none⟩ = some (.int .i64 z4) ∧ w'.cell? ⟨b5, o5 + k, none⟩ = some (.int .u64 z5)) := fun w' h => HS.out w' h.below
        have HS2 : Hid (∀ w', Jo w w' 5 M M pt bt qt R (k + 1) (acS R 5 M S z3 z4) (acS R 5 M S z3 z4) → w'.cell? ⟨b3, o3 + k, none⟩ = some (.int .i64 z3) ∧ w'.cell? ⟨b4, o4 + k, none⟩ = some (.int .i64 z4) ∧ w'.cell? ⟨b5, o5 + k, none⟩ = some (.int .u64 z5)) := fun w' h => HS.out w' h.below
        have HP : Hid (∀ wx, Below wr.heap.size wr wx → Calls Tryz.prog 9 #[.pointer (some ⟨w.heap.size + 1, 0, none⟩), .pointer (some ⟨pt, 0, none⟩), .int .i64 z3, .int .i64 z4] wx fun e w' => e = .returned (.tuple #[.int .u64 W, .int .i64 E]) ∧ Jo w w' 5 M M pt bt qt R (k + 1) S (acS R 5 M S z3 z4)) := fun wx hb => (aload_any _ _ 5 M pt bt R k S z3 z4 wx (HI.out.on hb).ax HK9.out HB4.out).mono fun e w' ⟨h1, hm, hB⟩ => ⟨by rw [h1, HE.out, HW.out], (HI.out.on hb).prog hm (Buts.two _ hB) (by omega)⟩
        go_upto_region 18 with fail
        refine region18 (w.heap.size + 1) pt k b3 o3 len3 cap3 b4 o4 len4 cap4 b5 o5 len5 cap5 z3 z4 z5 W E wr (fun wx => Jo w wx 5 M M pt bt qt R (k + 1) S (acS R 5 M S z3 z4)) _ _ _ _ _ _ _ _ _ _ _ _ _ _ _ _ _ _ _ _ _ _ _ _ _ _ _ _ _ _ _ _ _ _ _ _ _ _ _ _ _ _ _ _ _ _ _ _ _ _ _ _ _ _ _ _ _ _ _ _ _ _ _ _ _ _ _ _ _ _ _ _ _ _ _ _ _ _ _ _ _ _ _ _ _ _ _ _ _ _ _ _ _ _ _ _ _ _ _ _ _ _ _ _ _ _ _ _ _ _ _ _ _ _ _ _ _ _ _ _ _ _ _ _ _ _ _ _ _ _ _ _ _ _ _ _ _ _ _ _ _ _ _ _ _ _ _ _ _ _ _ _ _ _ _ _ _ _ _ _ _ _ _ _ _ _ _ _ _ _ _ _ _ _ _ _ _ _ _ _ _ _ _ _ _ _ _ _ _ _ _ _ _ _ _ _ _ _ _ _ _ _ _ _ _ _ _ _ _ _ _ _ _ _ _ _ _ _ _ _ _ _ _ _ _ _ _ _ _ _ _ _ _ _ _ _ _ _ _ _ _ _ _ _ _ _ _ _ _ _ _ _ _ _ _ _ _ _ _ _ _ _ i3 i4 i5 l3 l4 l5 HS0 HS1 HP ?_
        unfold Hid
        intro v188 v189 v190 v191 v192 v193 v194 v195 v196 v197 v198 v199 v200 v201 w3 h3
        have H3 := ahide h3
        clear h3 HP HS0 HS1 c2 c3 c4 c5
        have HS1b : Hid (∀ w', Below w3.heap.size w3 w' → w'.cell? ⟨b3, o3 + k, none⟩ = some (.int .i64 z3) ∧ w'.cell? ⟨b4, o4 + k, none⟩ = some (.int .i64 z4) ∧ w'.cell? ⟨b5, o5 + k, none⟩ = some (.int .u64 z5)) := fun w' hb => HS.out w' (H3.out.on hb).below
        have HQ : Hid (∀ wx, Below w3.heap.size w3 wx → Calls Tryz.prog 10 #[.pointer (some ⟨w.heap.size + 2, 0, none⟩), .pointer (some ⟨qt, 0, none⟩), .int .i64 z3, .int .i64 z4] wx fun e w' => e = .returned (.tuple #[.int .u64 W, .int .i64 E]) ∧ Jo w w' 5 M M pt bt qt R (k + 1) (acS R 5 M S z3 z4) (acS R 5 M S z3 z4)) := fun wx hb => (rload_acc _ _ 5 M qt R S z3 z4 wx (H3.out.on hb).rj).mono fun e w' ⟨h1, hr, hB, hd⟩ => ⟨by rw [h1, HE.out, HW.out], (H3.out.on hb).doc hr hB hd⟩
        go_upto_region 19 with fail
        refine region19 (w.heap.size + 2) qt k b3 o3 len3 cap3 b4 o4 len4 cap4 b5 o5 len5 cap5 z3 z4 z5 W E w3 (fun wx => Jo w wx 5 M M pt bt qt R (k + 1) (acS R 5 M S z3 z4) (acS R 5 M S z3 z4)) _ _ _ _ _ _ _ _ _ _ _ _ _ _ _ _ _ _ _ _ _ _ _ _ _ _ _ _ _ _ _ _ _ _ _ _ _ _ _ _ _ _ _ _ _ _ _ _ _ _ _ _ _ _ _ _ _ _ _ _ _ _ _ _ _ _ _ _ _ _ _ _ _ _ _ _ _ _ _ _ _ _ _ _ _ _ _ _ _ _ _ _ _ _ _ _ _ _ _ _ _ _ _ _ _ _ _ _ _ _ _ _ _ _ _ _ _ _ _ _ _ _ _ _ _ _ _ _ _ _ _ _ _ _ _ _ _ _ _ _ _ _ _ _ _ _ _ _ _ _ _ _ _ _ _ _ _ _ _ _ _ _ _ _ _ _ _ _ _ _ _ _ _ _ _ _ _ _ _ _ _ _ _ _ _ _ _ _ _ _ _ _ _ _ _ _ _ _ _ _ _ _ _ _ _ _ _ _ _ _ _ _ _ _ _ _ _ _ _ _ _ _ _ _ _ _ _ _ _ _ _ _ _ _ _ _ _ _ _ _ _ _ _ _ _ _ _ _ _ _ _ _ _ _ _ _ _ _ _ _ _ _ i3 i4 i5 l3 l4 l5 HS1b HS2 HQ ?_
        unfold Hid
        intro v202 v203 v204 v205 v206 v207 v208 v209 v210 v211 v212 v213 v214 v215 w4 h4
        have H4 := ahide h4
        clear h4 HQ HS1b HS2
        go_wp2_with fail
        go_meet
        exact ⟨_, _, H4.out⟩
      · obtain ⟨ao, cap, hr0⟩ := HI.out.rt
        have HL := ahide (rfl : S.length = S.length)
        have bL : ((S.length : Int) != (S.length : Int)) = false := by simp
        clear hr0
        go_wp2_with (first
          | (go_at_call 11; refine (aflush_any _ _ _ S _ HI.out.tl).mono ?_; rintro e3 w3 ⟨rfl, ht, hb⟩; have H3 := ahide (HI.out.flushP ht hb); clear ht hb; obtain ⟨ao3, cap3, hr3⟩ := H3.out.rt; have HR3 := ahide hr3; clear hr3)
          | (go_at_call 12; refine (Ptlb.rflush_any _ _ _ _ _ S _ HR3.out).mono ?_; rintro e4 w4 ⟨rfl, hr, hO, hb, _⟩; have H4 := ahide (H3.out.flushD hr hO (hb _ (Nat.le_refl _))); clear hr hO hb)
          | fail)
        go_meet
        exact ⟨_, _, H4.out⟩
      · obtain ⟨Q, hQ⟩ : ∃ Q, z5.tmod 4 = Q := ⟨_, rfl⟩
        have HQ : Hid (0 ≤ Q ∧ Q ≤ 3) := by
          have hz := HB5.out
          have e : z5.tmod 4 = z5 % 4 := Int.tmod_eq_emod_of_nonneg hz.1
          have : 0 ≤ Q ∧ Q ≤ 3 := by omega
          exact this
        have q1 : IntKind.i64.wrap Q = Q := wrapi_small HQ.out.1 (by have := HQ.out.2; omega)
        have q2 : wrap64 Q = Q := by have := HQ.out; unfold wrap64; omega
        have HQB : Hid (-9223372036854775808 ≤ Q ∧ Q ≤ 9223372036854775807) := by
          have := HQ.out
          have : -9223372036854775808 ≤ Q ∧ Q ≤ 9223372036854775807 := by omega
          exact this
        generalize hE : acE 5 M S z3 z4 Q = E
        have HE := ahide hE
        generalize hF : acF 5 M S z3 z4 Q = F
        have HF := ahide hF
        generalize hA : acA 5 M S z3 z4 Q = A
        have HA := ahide hA
        have bE : (E != E) = false := by simp
        have bF : (F != F) = false := by simp
        have bA : (A != A) = false := by simp
        clear hE hF hA HQ
        have HS0 : Hid (∀ w', Below wr.heap.size wr w' → w'.cell? ⟨b3, o3 + k, none⟩ = some (.int .i64 z3) ∧ w'.cell? ⟨b4, o4 + k, none⟩ = some (.int .i64 z4) ∧ w'.cell? ⟨b5, o5 + k, none⟩ = some (.int .u64 z5)) := fun w' hb => HS.out w' (HI.out.on hb).below
        have HS1 : Hid (∀ w', Jo w w' 5 M M pt bt qt R (k + 1) S (acS R 5 M S z3 z4) → w'.cell? ⟨b3, o3 + k, none⟩ = some (.int .i64 z3) ∧ w'.cell? ⟨b4, o4 + k, none⟩ = some (.int .i64 z4) ∧ w'.cell? ⟨b5, o5 + k, none⟩ = some (.int .u64 z5)) := fun w' h => HS.out w' h.below
        have HS2 : Hid (∀ w', Jo w w' 5 M M pt bt qt R (k + 1) (acS R 5 M S z3 z4) (acS R 5 M S z3 z4) → w'.cell? ⟨b3, o3 + k, none⟩ = some (.int .i64 z3) ∧ w'.cell? ⟨b4, o4 + k, none⟩ = some (.int .i64 z4) ∧ w'.cell? ⟨b5, o5 + k, none⟩ = some (.int .u64 z5)) := fun w' h => HS.out w' h.below
        have HP : Hid (∀ wx, Below wr.heap.size wr wx → Calls Tryz.prog 13 #[.pointer (some ⟨w.heap.size + 1, 0, none⟩), .pointer (some ⟨pt, 0, none⟩), .int .i64 z3, .int .i64 z4, .int .i64 Q] wx fun e w' => e = .returned (.tuple #[.int .i64 F, .int .i64 A, .int .i64 E]) ∧ Jo w w' 5 M M pt bt qt R (k + 1) S (acS R 5 M S z3 z4)) := fun wx hb => (afind_any _ _ 5 M pt bt R k S z3 z4 Q wx (HI.out.on hb).ax HK9.out HB4.out HQB.out).mono fun e w' ⟨h1, hm, hB⟩ => ⟨by rw [h1, HE.out, HF.out, HA.out], (HI.out.on hb).prog hm (Buts.two _ hB) (by omega)⟩
        go_upto_region 10 with fail
        refine region10 (w.heap.size + 1) pt k b3 o3 len3 cap3 b4 o4 len4 cap4 b5 o5 len5 cap5 z3 z4 z5 Q F A E wr (fun wx => Jo w wx 5 M M pt bt qt R (k + 1) S (acS R 5 M S z3 z4)) _ _ _ _ _ _ _ _ _ _ _ _ _ _ _ _ _ _ _ _ _ _ _ _ _ _ _ _ _ _ _ _ _ _ _ _ _ _ _ _ _ _ _ _ _ _ _ _ _ _ _ _ _ _ _ _ _ _ _ _ _ _ _ _ _ _ _ _ _ _ _ _ _ _ _ _ _ _ _ _ _ _ _ _ _ _ _ _ _ _ _ _ _ _ _ _ _ _ _ _ _ _ _ _ _ _ _ _ _ _ _ _ _ _ _ _ _ _ _ _ _ _ _ _ _ _ _ _ _ _ _ _ _ _ _ _ _ _ _ _ _ _ _ _ _ _ _ _ _ _ _ _ _ _ _ _ _ _ _ _ _ _ _ _ _ _ _ _ _ _ _ _ _ _ _ _ _ _ _ _ _ _ _ _ _ _ _ _ _ _ _ _ _ _ _ _ _ _ _ _ _ _ _ _ _ _ _ _ _ _ _ _ _ _ _ _ _ _ _ _ _ _ _ _ _ _ _ _ _ _ _ _ _ _ _ _ _ _ _ _ _ _ _ _ _ _ _ _ _ _ _ _ _ _ _ _ _ _ _ _ _ _ i3 i4 i5 l3 l4 l5 hQ q1 q2 HS0 HS1 HP ?_
        unfold Hid
        intro v98 v99 v100 v101 v102 v103 v104 v105 v106 v107 v108 v109 v110 v111 v112 v113 v114 v115 v116 v117 v118 w3 h3
        have H3 := ahide h3
        clear h3 HP HS0 HS1 c2 c3 c4 c5
        have HS1b : Hid (∀ w', Below w3.heap.size w3 w' → w'.cell? ⟨b3, o3 + k, none⟩ = some (.int .i64 z3) ∧ w'.cell? ⟨b4, o4 + k, none⟩ = some (.int .i64 z4) ∧ w'.cell? ⟨b5, o5 + k, none⟩ = some (.int .u64 z5)) := fun w' hb => HS.out w' (H3.out.on hb).below
        have HQ : Hid (∀ wx, Below w3.heap.size w3 wx → Calls Tryz.prog 14 #[.pointer (some ⟨w.heap.size + 2, 0, none⟩), .pointer (some ⟨qt, 0, none⟩), .int .i64 z3, .int .i64 z4, .int .i64 Q] wx fun e w' => e = .returned (.tuple #[.int .i64 F, .int .i64 A, .int .i64 E]) ∧ Jo w w' 5 M M pt bt qt R (k + 1) (acS R 5 M S z3 z4) (acS R 5 M S z3 z4)) := fun wx hb => (rfind_any _ _ 5 M qt R S z3 z4 Q wx (H3.out.on hb).rj).mono fun e w' ⟨h1, hr, hB, hd⟩ => ⟨by rw [h1, HE.out, HF.out, HA.out], (H3.out.on hb).doc hr hB hd⟩
        go_upto_region 11 with fail
        refine region11 (w.heap.size + 2) qt k b3 o3 len3 cap3 b4 o4 len4 cap4 b5 o5 len5 cap5 z3 z4 z5 Q F A E w3 (fun wx => Jo w wx 5 M M pt bt qt R (k + 1) (acS R 5 M S z3 z4) (acS R 5 M S z3 z4)) _ _ _ _ _ _ _ _ _ _ _ _ _ _ _ _ _ _ _ _ _ _ _ _ _ _ _ _ _ _ _ _ _ _ _ _ _ _ _ _ _ _ _ _ _ _ _ _ _ _ _ _ _ _ _ _ _ _ _ _ _ _ _ _ _ _ _ _ _ _ _ _ _ _ _ _ _ _ _ _ _ _ _ _ _ _ _ _ _ _ _ _ _ _ _ _ _ _ _ _ _ _ _ _ _ _ _ _ _ _ _ _ _ _ _ _ _ _ _ _ _ _ _ _ _ _ _ _ _ _ _ _ _ _ _ _ _ _ _ _ _ _ _ _ _ _ _ _ _ _ _ _ _ _ _ _ _ _ _ _ _ _ _ _ _ _ _ _ _ _ _ _ _ _ _ _ _ _ _ _ _ _ _ _ _ _ _ _ _ _ _ _ _ _ _ _ _ _ _ _ _ _ _ _ _ _ _ _ _ _ _ _ _ _ _ _ _ _ _ _ _ _ _ _ _ _ _ _ _ _ _ _ _ _ _ _ _ _ _ _ _ _ _ _ _ _ _ _ _ _ _ _ _ _ _ _ _ _ _ _ _ _ i3 i4 i5 l3 l4 l5 hQ q1 q2 HS1b HS2 HQ ?_
        unfold Hid
        intro v119 v120 v121 v122 v123 v124 v125 v126 v127 v128 v129 v130 v131 v132 v133 v134 v135 v136 v137 v138 v139 w4 h4
        have H4 := ahide h4
        clear h4 HQ HS1b HS2
        go_wp2_with fail
        go_meet
        exact ⟨_, _, H4.out⟩
    case rest =>
      obtain ⟨M', S', hJ⟩ := hcut
      have HJ := ahide hJ
      clear hJ HI HS c2 c3 c4 c5 HB4 HB5 hq' i2 i3 i4 i5 i6 h3 h4 h5 l3 l4 l5
      obtain ⟨N, hN⟩ : ∃ N, N = S'.length := ⟨_, rfl⟩
      have HN := ahide hN
      have hN8 : N ≤ 8 := by have := HJ.out.fine.len; have := HJ.out.r8; omega
      have KEYS := ahide (fun wx hx => Ptlb.keys_any pt bt R S' wx hx HJ.out.fine.ok (by rw [← hN]; omega))
      rw [← hN] at KEYS
      clear hN
      have bN : ((N : Int) != (N : Int)) = false := by simp
      go_upto_region 26 with (first
        | (go_at_call 15; refine (KEYS.out _ HJ.out.tl).mono ?_; rintro e5 w5 ⟨g, rfl, hg5, hc5, hb5⟩; have H5 := ahide (HJ.out.on hb5); have HC5 : Hid (∀ j x, S'[j]? = some x → w5.cell? ⟨g, j * 2, none⟩ = some (.int .i64 x.1.1) ∧ w5.cell? ⟨g, j * 2 + 1, none⟩ = some (.int .i64 x.1.2)) := hc5; clear hg5 hc5 hb5)
        | fail)
      clear HJ KEYS
      obtain ⟨ao5, cap5', hr5⟩ := H5.out.rt
      have v5 : w5.cell? ⟨qt, 0, none⟩ = some (.slice ao5 N cap5') := by rw [HN.out]; exact hr5.cell
      clear hr5
      go_wp2_with (first
        | (go_at_call 16; refine (alike_any 5 M' w _ (by omega) (by omega) H5.out.both).mono ?_; rintro e6 w6 ⟨rfl, hb6⟩; have H6 := ahide (H5.out.on hb6); have HC6 : Hid (∀ j x, S'[j]? = some x → w6.cell? ⟨g, j * 2, none⟩ = some (.int .i64 x.1.1) ∧ w6.cell? ⟨g, j * 2 + 1, none⟩ = some (.int .i64 x.1.2)) := (fun j x hx => ⟨Ptlb.keeps hb6 (HC5.out j x hx).1, Ptlb.keeps hb6 (HC5.out j x hx).2⟩); clear hb6)
        | fail)
      clear H5 HC5 v5
      go_loopw [31] (fun jj wi => ∃ l n : Nat, l ≤ N ∧ jj = .int .i64 l ∧ wi = w6.drewN n) (fun jj _ => N - (intOf jj).toNat)
      case atStart => exact ⟨0, 0, by omega, rfl, rfl⟩
      case round =>
        obtain ⟨l, n, hl, rfl, hwr0⟩ := hrel
        have hwr : Hid (wr = w6.drewN n) := hwr0
        obtain ⟨ao, cap, hr6⟩ := H6.out.rt
        have v0 : wr.cell? ⟨qt, 0, none⟩ = some (.slice ao N cap) := by rw [hwr0, HN.out]; exact hr6.cell
        by_cases hlN : l < N
        · have hli : (l : Int) < (N : Int) := by omega
          obtain ⟨x, hx⟩ : ∃ x, S'[l]? = some x := ⟨S'[l]'(by rw [← HN.out]; exact hlN), List.getElem?_eq_getElem _⟩
          obtain ⟨gr, off, rfl, _, _, _, hce, _⟩ := hr6.ent hx
          have e0 := hce 0 (by omega)
          have e1 := hce 1 (by omega)
          have m0 := (HC6.out l x hx).1
          have m1 := (HC6.out l x hx).2
          obtain ⟨⟨x1, x2⟩, ⟨y0, y1, y2, y3⟩, tx⟩ := x
          simp only [Ptlb.rc, List.getElem?_cons_zero, List.getElem?_cons_succ, Nat.add_zero] at e0 e1 m0 m1
          have u0 : wr.cell? ⟨g, l * 2, none⟩ = some (.int .i64 x1) := by rw [hwr0]; exact m0
          have u1 : wr.cell? ⟨g, l * 2 + 1, none⟩ = some (.int .i64 x2) := by rw [hwr0]; exact m1
          have u2 : wr.cell? ⟨gr, off + l * 6, none⟩ = some (.int .i64 x1) := by rw [hwr0]; exact e0
          have u3 : wr.cell? ⟨gr, off + l * 6 + 1, none⟩ = some (.int .i64 x2) := by rw [hwr0]; exact e1
          have hneq : ∀ wx, (binOp .neq 55 (.agg #[.int .i64 x1, .int .i64 x2]) (.agg #[.int .i64 x1, .int .i64 x2])).run Tryz.prog wx = .ok (.bool false) wx := fun wx => by
            have := Ptlb.neqK (x1, x2) (x1, x2) wx
            simpa using this
          have hw2 : wrap64 ((l : Int) + 1) = (l : Int) + 1 := by unfold wrap64; omega
          clear hwr0 hce e0 e1 m0 m1 hx hr6
          go_wp2
          go_quiet (fail)
          go_wp2
          go_roundw
          case rel => exact ⟨l + 1, _, by omega, by go_num, by rw [hwr.out]; exact World.drewN_drewN _ _ _⟩
          case measure => simp [intOf]; omega
        · have hli : ¬ (l : Int) < (N : Int) := by omega
          have H7 : Hid (Jo w wr 5 M' M' pt bt qt R (k + 1) S' S') := by rw [hwr0]; exact H6.out.on (below_drew' _ _ _)
          clear hwr0 hwr hr6 v0 H6 HC6
          go_wp2
          go_roundw
          case rel => exact ⟨k + 1, by omega, by omega, by go_num, _, _, H7.out⟩
          case measure => simp [intOf]; omega
end Go.Proofs.YthcgdgpflhdchaaGreatDoor.Paccess
