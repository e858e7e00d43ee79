/- What Used and First of package slot answer, for every frame, over a memory that New made; what 'awake' answers. -/
import Derived.Test.YtkodanflobclhaaDoorSltD
import Derived.Deep.CutBlock
namespace Go.Proofs.YtkodanflobclhaaDoor.Pslot
open Go.Proofs.YtkodanflobclhaaDoor.Pbase Go.Proofs.YtkodanflobclhaaDoor.Pcap Go.Proofs.YtkodanflobclhaaDoor.Pfield Go.Proofs.YtkodanflobclhaaDoor.Pmem
open Go.RowKit M
set_option linter.unusedVariables false

theorem Caps.at {w : World} {base : Nat} {a : Option Addr} {cap n m : Nat} {C : Nat → Nat → Int} (h : Caps w base (.slice a n cap) m C) {i : Nat} (hi : i < m) : n = m ∧ ∃ b, a = some ⟨b, 0, none⟩ ∧ base ≤ b ∧ b < w.heap.size ∧ ∀ w', Below w.heap.size w w' → w'.cell? ⟨b, i * 6, none⟩ = some (.int .i64 (C i 0)) ∧ w'.cell? ⟨b, i * 6 + 1, none⟩ = some (.int .i64 (C i 1)) ∧ w'.cell? ⟨b, i * 6 + 2, none⟩ = some (.int .i64 (C i 2)) ∧ w'.cell? ⟨b, i * 6 + 3, none⟩ = some (.int .i64 (C i 3)) ∧ w'.cell? ⟨b, i * 6 + 4, none⟩ = some (.int .i64 (C i 4)) ∧ w'.cell? ⟨b, i * 6 + 5, none⟩ = some (.int .i64 (C i 5)) := by
  obtain ⟨a', cap', e, h⟩ := h
  cases e
  rcases h with h | ⟨b, e1, h1, h2, h3⟩
  · omega
  · refine ⟨rfl, b, e1, h1, h2, fun w' hB => ?_⟩
    obtain ⟨c0, c1, c2, c3, c4, c5⟩ := h3 i hi
    exact ⟨(hB.cell (p := ⟨b, _, none⟩) h2).trans c0, (hB.cell (p := ⟨b, _, none⟩) h2).trans c1, (hB.cell (p := ⟨b, _, none⟩) h2).trans c2, (hB.cell (p := ⟨b, _, none⟩) h2).trans c3, (hB.cell (p := ⟨b, _, none⟩) h2).trans c4, (hB.cell (p := ⟨b, _, none⟩) h2).trans c5⟩
theorem Caps.slice {w : World} {base : Nat} {v : Value} {n : Nat} {C : Nat → Nat → Int} (h : Caps w base v n C) : ∃ a cap, v = .slice a n cap := by
  obtain ⟨a, cap, e, _⟩ := h
  exact ⟨a, cap, e⟩
theorem aN_le (N : Nat) (M : Nat → Nat → Int) (f : Int) : aN N M f ≤ 16 := by unfold aN; split <;> omega
set_option maxRecDepth 100000 in
set_option maxHeartbeats 1000000 in
theorem sused_any (p b N : Nat) (f : Int) (M : Nat → Nat → Int) (w : World) (hM : Mt w p b N M) :
    Calls Tryd.prog 11 #[.pointer (some ⟨p, 0, none⟩), .int .i64 f] w fun e w' => e = .returned (.tuple #[.int .i64 (uN N M f), .int .i64 (aE N M f)]) ∧ Below w.heap.size w w' := by
  have HA : Hid (Calls Tryd.prog 15 #[.pointer (some ⟨p, 0, none⟩), .int .i64 f] w fun e w' => ∃ v, e = .returned (.tuple #[v, .int .i64 (aE N M f)]) ∧ Caps w' w.heap.size v (aN N M f) (fun i j => sC N M f (i : Nat) j) ∧ Below w.heap.size w w') := sall_any p b N f M w hM
  have hn := aN_le N M f
  unfold uN
  generalize aE N M f = E at HA ⊢
  generalize aN N M f = n at HA hn ⊢
  obtain ⟨C, hC⟩ : ∃ C : Nat → Nat → Int, C = fun i j => sC N M f (i : Nat) j := ⟨_, rfl⟩
  have hC0 : (fun i : Nat => sC N M f (i : Nat) 0) = fun i => C i 0 := by rw [hC]
  rw [hC0]
  rw [← hC] at HA
  clear hC hC0 hM
  go_enter Tryd.func11, Tryd.ntmps11
  go_wp2_with (first
    | (go_at_call 15; refine HA.out.mono ?_; rintro e1 w1 ⟨v, rfl, hc, hb⟩; obtain ⟨av, cv, rfl⟩ := hc.slice; have HC : Hid (Caps w1 w.heap.size (.slice av n cv) n C) := hc; have HB : Hid (Below w.heap.size w w1) := hb; clear hc hb)
    | fail)
  go_loopw [19, 8] (fun i u wr => ∃ k : Nat, k ≤ n ∧ i = .int .i64 k ∧ u = .int .i64 (cnt (fun i => C i 0) k) ∧ Below w1.heap.size w1 wr) (fun i _ _ => n - (intOf i).toNat)
  case atStart => exact ⟨0, by omega, rfl, rfl, Below.refl _ _⟩
  case round =>
    obtain ⟨k, hk, rfl, rfl, hr⟩ := hrel
    have HR : Hid (Below w1.heap.size w1 wr) := hr
    clear hr
    have hle := cnt_le (fun i => C i 0) k
    have hsucc : cnt (fun i => C i 0) (k + 1) = cnt (fun i => C i 0) k + if 1 < C k 0 then 1 else 0 := rfl
    by_cases hlt : k < n
    · have hki : (k : Int) < (n : Int) := by omega
      obtain ⟨_, bl, rfl, _, _, hcell⟩ := HC.out.at hlt
      obtain ⟨c0, c1, c2, c3, c4, c5⟩ := hcell wr HR.out
      clear hcell
      have HR2 : Hid (∀ o, Below w1.heap.size w1 (wr.alloc o)) := fun o => HR.out.alloc HR.out.size o
      generalize C k 0 = K at c0 hsucc
      generalize C k 1 = K1 at c1
      generalize C k 2 = K2 at c2
      generalize C k 3 = K3 at c3
      generalize C k 4 = K4 at c4
      generalize C k 5 = K5 at c5
      by_cases h1 : 1 < K
      · rw [if_pos h1] at hsucc
        generalize cnt (fun i => C i 0) k = u at hle hsucc
        have hu : wrap64 ((u : Int) + 1) = (u : Int) + 1 := by unfold wrap64; omega
        have HS : Hid (cnt (fun i => C i 0) (k + 1) = u + 1) := hsucc
        clear hsucc
        go_wp2
        go_roundw
        case rel => exact ⟨k + 1, by omega, by go_num, by rw [HS.out]; simp, HR2.out _⟩
        case measure => simp [intOf]; omega
      · rw [if_neg h1] at hsucc
        generalize cnt (fun i => C i 0) k = u at hle hsucc
        have HS : Hid (cnt (fun i => C i 0) (k + 1) = u) := hsucc
        clear hsucc
        go_wp2
        go_roundw
        case rel => exact ⟨k + 1, by omega, by go_num, by rw [HS.out], HR2.out _⟩
        case measure => simp [intOf]; omega
    · obtain rfl : k = n := by omega
      go_wp2
      go_ret2
      exact ⟨rfl, HB.out.trans (HR.out.mono HB.out.size)⟩
theorem none_any (k r t l e a : Int) (w : World) : Calls Tryd.prog 31 #[.agg #[.int .i64 k, .int .i64 r, .int .i64 t, .int .i64 l, .int .i64 e, .int .i64 a]] w fun x w' => x = .returned (.bool (k == 0)) ∧ Below w.heap.size w w' := by
  go_enter Tryd.func31, Tryd.ntmps31
  go_wp2
  go_ret
  exact ⟨rfl, bal (Below.refl _ _) _⟩
/-- What IndexFunc answers. -/
def idx (C : Nat → Int) (n : Nat) : Int := if fst C n 0 < n then (fst C n 0 : Nat) else -1
set_option maxRecDepth 100000 in
set_option maxHeartbeats 1000000 in
theorem idx_any (a : Option Addr) (n cap base : Nat) (C : Nat → Nat → Int) (w : World) (hn : n ≤ 16) (hc : Caps w base (.slice a n cap) n C) :
    Calls Tryd.prog 30 #[.slice a n cap, .func (.func 31) #[] #[]] w fun e w' => e = .returned (.int .i64 (idx (fun i => C i 0) n)) ∧ Below w.heap.size w w' := by
  have HC : Hid (Caps w base (.slice a n cap) n C) := hc
  clear hc
  go_enter Tryd.func30, Tryd.ntmps30
  go_wp2
  go_loopw [8] (fun i wr => ∃ k : Nat, k ≤ n ∧ i = .int .i64 k ∧ (∀ i, i < k → C i 0 ≠ 0) ∧ Below w.heap.size w wr) (fun i _ => n - (intOf i).toNat)
  case atStart => exact ⟨0, by omega, rfl, fun i hi => by omega, Below.refl _ _⟩
  case round =>
    obtain ⟨k, hk, rfl, hno, hr⟩ := hrel
    have HR : Hid (Below w.heap.size w wr) := hr
    have HN : Hid (∀ i, i < k → C i 0 ≠ 0) := hno
    clear hr hno
    by_cases hlt : k < n
    · have hki : (k : Int) < (n : Int) := by omega
      obtain ⟨_, bl, rfl, _, _, hcell⟩ := HC.out.at hlt
      obtain ⟨c0, c1, c2, c3, c4, c5⟩ := hcell wr HR.out
      clear hcell
      obtain ⟨K, hK⟩ : ∃ K, K = C k 0 := ⟨_, rfl⟩
      rw [← hK] at c0
      have HK : Hid (K = C k 0) := hK
      clear hK
      by_cases h0 : K = 0
      · subst h0
        go_wp2_with (first
          | (go_at_call 31; refine (none_any _ _ _ _ _ _ _).mono ?_; rintro e1 w1 ⟨rfl, hb⟩; rw [show ((0 : Int) == 0) = true from rfl]; have H1 : Hid (Below w.heap.size w w1) := HR.out.trans (hb.mono HR.out.size); clear hb)
          | fail)
        go_ret
        refine ⟨?_, H1.out⟩
        have : fst (fun i => C i 0) n 0 = k := fst_is (by omega) HN.out (fun _ => HK.out.symm)
        simp [idx, this, hlt]
      · have hb0 : (K == 0) = false := by simp [h0]
        go_wp2_with (first
          | (go_at_call 31; refine (none_any _ _ _ _ _ _ _).mono ?_; rintro e1 w1 ⟨rfl, hb⟩; rw [hb0]; have H1 : Hid (Below w.heap.size w w1) := HR.out.trans (hb.mono HR.out.size); clear hb)
          | fail)
        go_roundw
        case rel =>
          refine ⟨k + 1, by omega, by go_num, fun i hi => ?_, H1.out⟩
          by_cases e : i = k
          · subst e; rw [← HK.out]; exact h0
          · exact HN.out i (by omega)
        case measure => simp [intOf]; omega
    · obtain rfl : k = n := by omega
      go_wp2
      go_ret
      refine ⟨?_, HR.out⟩
      have : fst (fun i => C i 0) k 0 = k := fst_is (Nat.le_refl _) HN.out (fun h => by omega)
      simp [idx, this]
set_option maxRecDepth 100000 in
set_option maxHeartbeats 1000000 in
theorem sfirst_any (p b N : Nat) (f : Int) (M : Nat → Nat → Int) (w : World) (hM : Mt w p b N M) :
    Calls Tryd.prog 13 #[.pointer (some ⟨p, 0, none⟩), .int .i64 f] w fun e w' => e = .returned (.tuple #[.int .i64 (fN N M f), .int .i64 (fE N M f)]) ∧ Below w.heap.size w w' := by
  have HA : Hid (Calls Tryd.prog 15 #[.pointer (some ⟨p, 0, none⟩), .int .i64 f] w fun e w' => ∃ v, e = .returned (.tuple #[v, .int .i64 (aE N M f)]) ∧ Caps w' w.heap.size v (aN N M f) (fun i j => sC N M f (i : Nat) j) ∧ Below w.heap.size w w') := sall_any p b N f M w hM
  clear hM
  cases hok : okA N M f
  · have h1 : fN N M f = 0 := by simp [fN, hok]
    have h2 : fE N M f = aE N M f := by simp [fE, hok]
    have h3 : aE N M f ≠ 0 := by unfold aE; rw [hok]; simp; split <;> simp
    rw [h1, h2]
    generalize aE N M f = E at HA h3 ⊢
    have hE : (E != 0) = true := by simp [h3]
    clear h1 h2 h3 hok
    go_enter Tryd.func13, Tryd.ntmps13
    go_wp2_with (first
      | (go_at_call 15; refine HA.out.mono ?_; rintro e1 w1 ⟨v, rfl, hc, hb⟩; obtain ⟨av, cv, rfl⟩ := hc.slice; have HB : Hid (Below w.heap.size w w1) := hb; clear hc hb)
      | fail)
    go_ret2
    exact ⟨rfl, HB.out⟩
  · have h0 : aE N M f = 0 := by simp [aE, hok]
    have hn : aN N M f = 16 := by simp [aN, hok]
    rw [h0, hn] at HA
    have HI : Hid (∀ wc a cap, Caps wc w.heap.size (.slice a 16 cap) 16 (fun i j => sC N M f (i : Nat) j) → Calls Tryd.prog 30 #[.slice a 16 cap, .func (.func 31) #[] #[]] wc fun e w' => e = .returned (.int .i64 (idx (fun i => sC N M f (i : Nat) 0) 16)) ∧ Below wc.heap.size wc w') := fun wc a cap hc => idx_any a 16 cap w.heap.size _ wc (by omega) hc
    by_cases hlt : fF N M f < 16
    · have h1 : fN N M f = fF N M f := by simp [fN, hok, hlt]
      have h2 : fE N M f = 0 := by simp [fE, hok, hlt]
      have h3 : idx (fun i => sC N M f (i : Nat) 0) 16 = (fF N M f : Nat) := by
        unfold idx
        rw [show fst (fun i => sC N M f (i : Nat) 0) 16 0 = fF N M f from rfl, if_pos hlt]
      rw [h1, h2]
      rw [h3] at HI
      generalize fF N M f = x at HI hlt ⊢
      clear h1 h2 h3 h0 hn hok
      go_enter Tryd.func13, Tryd.ntmps13
      go_wp2_with (first
        | (go_at_call 15; refine HA.out.mono ?_; rintro e1 w1 ⟨v, rfl, hc, hb⟩; obtain ⟨av, cv, rfl⟩ := hc.slice; have HC : Hid (Caps w1 w.heap.size (.slice av 16 cv) 16 (fun i j => sC N M f (i : Nat) j)) := hc; have HB : Hid (Below w.heap.size w w1) := hb; clear hc hb)
        | (go_at_call 30; refine (HI.out _ _ _ HC.out).mono ?_; rintro e2 w2 ⟨rfl, hb⟩; have HB2 : Hid (Below w.heap.size w w2) := HB.out.trans (hb.mono HB.out.size); clear hb)
        | fail)
      go_ret2
      exact ⟨rfl, HB2.out⟩
    · have h1 : fN N M f = 0 := by simp [fN, hlt]
      have h2 : fE N M f = 3 := by simp [fE, hok, hlt]
      have h3 : idx (fun i => sC N M f (i : Nat) 0) 16 = -1 := by
        unfold idx
        rw [show fst (fun i => sC N M f (i : Nat) 0) 16 0 = fF N M f from rfl, if_neg hlt]
      rw [h1, h2]
      rw [h3] at HI
      clear h1 h2 h3 h0 hn hok
      go_enter Tryd.func13, Tryd.ntmps13
      go_wp2_with (first
        | (go_at_call 15; refine HA.out.mono ?_; rintro e1 w1 ⟨v, rfl, hc, hb⟩; obtain ⟨av, cv, rfl⟩ := hc.slice; have HC : Hid (Caps w1 w.heap.size (.slice av 16 cv) 16 (fun i j => sC N M f (i : Nat) j)) := hc; have HB : Hid (Below w.heap.size w w1) := hb; clear hc hb)
        | (go_at_call 30; refine (HI.out _ _ _ HC.out).mono ?_; rintro e2 w2 ⟨rfl, hb⟩; have HB2 : Hid (Below w.heap.size w w2) := HB.out.trans (hb.mono HB.out.size); clear hb)
        | fail)
      go_ret2
      exact ⟨rfl, HB2.out⟩

/-! ### awake -/
theorem pack0 : packF ws [0, 0, 0, 0, 0] = 0 := by decide +kernel
theorem rt0 : Rt 0 0 0 0 0 0 := by unfold Rt; omega
theorem get0 : getE 0 0 = 0 ∧ ∀ j, j < 6 → getC 0 0 j = 0 := by
  obtain ⟨_, _, g, g0, g1, g2, g3, g4, g5⟩ := back_get rt0
  rw [pack0] at g g0 g1 g2 g3 g4 g5
  refine ⟨g, fun j hj => ?_⟩
  match j, hj with
  | 0, _ => exact g0
  | 1, _ => exact g1
  | 2, _ => exact g2
  | 3, _ => exact g3
  | 4, _ => exact g4
  | 5, _ => exact g5
/-- A frame of zeros has nothing in any slot. -/
theorem zero_slot {N i : Nat} {f : Int} (hi : i < 16) (hf : okF N f = true) : sE N (fun _ _ => 0) f (i : Nat) = 0 ∧ ∀ j, j < 6 → sC N (fun _ _ => 0) f (i : Nat) j = 0 := by
  simp only [sE, sC, okS_nat hi, hf, Bool.and_self, if_true, w1, w2]
  exact get0
theorem okF1 : okF 1 0 = true := by decide
/-- The first of all slots, told by which are none. -/
theorem first_is {N : Nat} {M : Nat → Nat → Int} {f : Int} {m : Nat} (hok : ∀ i : Nat, i < 16 → sE N M f i = 0) (hm : m ≤ 16) (h1 : ∀ i : Nat, i < m → sC N M f (i : Nat) 0 ≠ 0) (h2 : m < 16 → sC N M f (m : Nat) 0 = 0) : fN N M f = (if m < 16 then m else 0) ∧ fE N M f = (if m < 16 then 0 else 3) := by
  have ho : okA N M f = true := (okA_iff N M f).2 hok
  have hf : fF N M f = m := fst_is hm h1 h2
  simp only [fN, fE, ho, hf, true_and, if_true]
theorem first0 : fN 1 (fun _ _ => 0) 0 = 0 ∧ fE 1 (fun _ _ => 0) 0 = 0 := by
  have := first_is (N := 1) (M := fun _ _ => 0) (f := 0) (m := 0) (fun i hi => (zero_slot hi okF1).1) (by omega) (fun i hi => by omega) (fun _ => (zero_slot (by omega) okF1).2 0 (by omega))
  simpa using this
theorem rt11 : Rt 11 0 0 0 0 0 := by unfold Rt; omega
theorem pe11 : pE 1 0 0 11 0 0 0 0 0 = 0 := by unfold pE; rw [rtB_yes rt11]; rfl
theorem first1 : fN 1 (pM 1 (fun _ _ => 0) 0 0 11 0 0 0 0 0) 0 = 1 ∧ fE 1 (pM 1 (fun _ _ => 0) 0 0 11 0 0 0 0 0) 0 = 0 := by
  obtain ⟨e0, k0, _⟩ := put_got (M := fun _ _ => 0) pe11
  have other : ∀ i : Nat, i < 16 → i ≠ 0 → sE 1 (pM 1 (fun _ _ => 0) 0 0 11 0 0 0 0 0) 0 (i : Nat) = 0 ∧ sC 1 (pM 1 (fun _ _ => 0) 0 0 11 0 0 0 0 0) 0 (i : Nat) 0 = 0 := fun i hi hne => by
    obtain ⟨a, b⟩ := put_other (N := 1) (M := fun _ _ => 0) (f := 0) (i := 0) (k := 11) (r := 0) (t := 0) (l := 0) (e := 0) (a := 0) (g := 0) hi (.inr (by omega))
    obtain ⟨c, d⟩ := zero_slot (N := 1) (f := 0) hi okF1
    exact ⟨a.trans c, (b 0).trans (d 0 (by omega))⟩
  have := first_is (N := 1) (M := pM 1 (fun _ _ => 0) 0 0 11 0 0 0 0 0) (f := 0) (m := 1) (fun i hi => by
    by_cases h : i = 0
    · subst h; exact e0
    · exact (other i hi h).1) (by omega) (fun i hi => by
    obtain rfl : i = 0 := by omega
    rw [show ((0 : Nat) : Int) = 0 from rfl, k0]; decide) (fun _ => (other 1 (by omega) (by omega)).2)
  simpa using this
theorem second_any (p b : Nat) (M : Nat → Nat → Int) (w : World) (hM : Mt w p b 1 M) (h1 : fN 1 M 0 = 1) (h2 : fE 1 M 0 = 0) :
    Calls Tryd.prog 35 #[.pointer (some ⟨p, 0, none⟩)] w fun e w' => e = .returned (.bool true) ∧ Below w.heap.size w w' := by
  have HF : Hid (Calls Tryd.prog 13 #[.pointer (some ⟨p, 0, none⟩), .int .i64 0] w fun e w' => e = .returned (.tuple #[.int .i64 1, .int .i64 0]) ∧ Below w.heap.size w w') := by
    have := sfirst_any p b 1 0 M w hM
    rwa [h1, h2] at this
  clear hM h1 h2
  go_enter Tryd.func35, Tryd.ntmps35
  go_wp2_with (first
    | (go_at_call 13; refine HF.out.mono ?_; rintro e1 w1 ⟨rfl, hb⟩; have HB : Hid (Below w.heap.size w w1) := hb; clear hb)
    | fail)
  go_ret
  exact ⟨rfl, HB.out⟩
theorem mt_new {w : World} (hT : TabM w) (hW : TabW w) {N : Nat} (h1 : 1 ≤ N) (h2 : N ≤ 64) : Mt (newW w N) (w.heap.size + 1) w.heap.size N fun _ _ => 0 :=
  ⟨newW_is w N, hT.on (newW_below w N), hW.on (newW_below w N), Fit.zero, h1, h2⟩
set_option maxRecDepth 100000 in
set_option maxHeartbeats 1000000 in
theorem awake_any (w : World) (hT : TabM w) (hW : TabW w) : Calls Tryd.prog 18 #[] w fun e w' => e = .returned (.bool true) ∧ Below w.heap.size w w' := by
  have H0 : Hid (Mt (newW w 1) (w.heap.size + 1) w.heap.size 1 (fun _ _ => 0) ∧ Below w.heap.size w (newW w 1)) := ⟨mt_new hT hW (by omega) (by omega), newW_below w 1⟩
  have HF : Hid (∀ wc p b, Mt wc p b 1 (fun _ _ => 0) → Calls Tryd.prog 13 #[.pointer (some ⟨p, 0, none⟩), .int .i64 0] wc fun e w' => e = .returned (.tuple #[.int .i64 0, .int .i64 0]) ∧ Below wc.heap.size wc w') := fun wc p b h => by
    have := sfirst_any p b 1 0 _ wc h
    rwa [first0.1, first0.2] at this
  have HP : Hid (∀ wc p b, Mt wc p b 1 (fun _ _ => 0) → Calls Tryd.prog 7 #[.pointer (some ⟨p, 0, none⟩), .int .i64 0, .int .i64 0, .agg #[.int .i64 11, .int .i64 0, .int .i64 0, .int .i64 0, .int .i64 0, .int .i64 0]] wc fun x w' => x = .returned (.int .i64 0) ∧ Mt w' p b 1 (pM 1 (fun _ _ => 0) 0 0 11 0 0 0 0 0) ∧ But b wc w') := fun wc p b h => by
    have := sput_any p b 1 0 0 11 0 0 0 0 0 _ wc h
    rwa [pe11] at this
  have HS : Hid (∀ wc p b, Mt wc p b 1 (pM 1 (fun _ _ => 0) 0 0 11 0 0 0 0 0) → Calls Tryd.prog 35 #[.pointer (some ⟨p, 0, none⟩)] wc fun e w' => e = .returned (.bool true) ∧ Below wc.heap.size wc w') := fun wc p b h => second_any p b _ wc h first1.1 first1.2
  clear hT hW
  go_enter Tryd.func18, Tryd.ntmps18
  go_wp2_with (first
    | (go_at_call 19; refine (new_ok 1 _ (by omega) (by omega)).mono ?_; rintro e1 w1 ⟨rfl, hw1⟩; rw [← hw1] at H0; clear hw1)
    | (go_at_call 13; refine (HF.out _ _ _ H0.out.1).mono ?_; rintro e2 w2 ⟨rfl, hb⟩; have H2 : Hid (Mt w2 (w.heap.size + 1) w.heap.size 1 (fun _ _ => 0) ∧ Below w.heap.size w w2) := ⟨H0.out.1.on hb, H0.out.2.trans (hb.mono H0.out.2.size)⟩; clear hb H0)
    | (go_at_call 7; refine (HP.out _ _ _ H2.out.1).mono ?_; rintro e3 w3 ⟨rfl, hm, hb⟩; have H3 : Hid (Mt w3 (w.heap.size + 1) w.heap.size 1 (pM 1 (fun _ _ => 0) 0 0 11 0 0 0 0 0) ∧ Below w.heap.size w w3) := ⟨hm, H2.out.2.trans (hb.below (Nat.le_refl _) H2.out.2.size)⟩; clear hb hm H2)
    | (go_at_call 35; refine (HS.out _ _ _ H3.out.1).mono ?_; rintro e4 w4 ⟨rfl, hb⟩; have H4 : Hid (Below w.heap.size w w4) := H3.out.2.trans (hb.mono H3.out.2.size); clear hb H3)
    | fail)
  go_ret
  exact ⟨rfl, H4.out⟩
end Go.Proofs.YtkodanflobclhaaDoor.Pslot
