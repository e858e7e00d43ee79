/- What the document's All, Used and First of layer 11 answer, over its own memory. -/
import Derived.Test.YtkodanflobclhaaDoorSltR
import Derived.Maps.AppendAt
namespace Go.Proofs.YtkodanflobclhaaDoor.Pslot
open Go.Proofs.YtkodanflobclhaaDoor.Pbase Go.Proofs.YtkodanflobclhaaDoor.Pcap Go.Proofs.YtkodanflobclhaaDoor.Pfield Go.Proofs.YtkodanflobclhaaDoor.Pmem
open Go.RowKit M
set_option linter.unusedVariables false

theorem own_ge6 {w : World} {base : Nat} {e : TypeId} {v : Value} {n : Nat} {xs : List Value} (h : w.ownsRow base e 6 v n xs) : ∀ k, v.ownBlock = some k → base ≤ k := fun k hk => (h.lt k hk).1
/-- The document's memory, and the list that grows. -/
structure Ra (w0 w : World) (base q N : Nat) (M : Nat → Nat → Int) (f : Int) (v : Value) (k : Nat) : Prop where
  ref : RefIs w base q N M
  below : Below w0.heap.size w0 w
  row : w.ownsRow w0.heap.size 32 6 v k (capsOf N M f (upto 16 k))
theorem Ra.on {w0 w w' : World} {base q N : Nat} {M : Nat → Nat → Int} {f : Int} {v : Value} {k : Nat} (h : Ra w0 w base q N M f v k) (hB : Below w.heap.size w w') : Ra w0 w' base q N M f v k :=
  ⟨h.ref.grown hB, h.below.trans (hB.mono h.below.size), h.row.kept (grown_none hB) (by cases hv : v.ownBlock <;> simp)⟩
/-- One capability more. -/
theorem Ra.step {w0 w w1 : World} {base q N : Nat} {M : Nat → Nat → Int} {f : Int} {v v' : Value} {k : Nat} {o : Obj} (h0 : RefIs w0 base q N M) (h : Ra w0 w base q N M f v k) (hk : k < 16) (hown : w1.ownsRow w0.heap.size 32 6 v' (k + 1) (capsOf N M f (upto 16 k) ++ cells6 N M f ⟨k, hk⟩)) (hg : (w.alloc o).grownBy w1 v.ownBlock) : Ra w0 w1 base q N M f v' (k + 1) := by
  have hB : Below w0.heap.size w0 w1 := (bal h.below o).grown hg (by have := h.below.size; simp; omega) (own_ge6 h.row)
  exact ⟨h0.grown hB, hB, by rw [upto_succ hk, capsOf_snoc]; exact hown⟩
set_option maxRecDepth 100000 in
set_option maxHeartbeats 2000000 in
theorem rsall_in (base q N : Nat) (f : Int) (M : Nat → Nat → Int) (w : World) (hN1 : 1 ≤ N) (hN : N ≤ 64) (hR : RefIs w base q N M) (hF : Fit M) :
    Calls Tryd.prog 16 #[.pointer (some ⟨q, 0, none⟩), .int .i64 f] w fun e w' =>
      (((∀ j : Nat, j < 16 → sE N M f (j : Nat) = 0) ∧ ∃ v, e = .returned (.tuple #[v, .int .i64 0]) ∧ w'.ownsRow w.heap.size 32 6 v 16 (capsOf N M f (upto 16 16))) ∨
       (∃ x : Nat, x < 16 ∧ sE N M f (x : Nat) ≠ 0 ∧ e = .returned (.tuple #[.slice none 0 0, .int .i64 (sE N M f (x : Nat))]))) ∧ Below w.heap.size w w' := by
  obtain ⟨it, hi, hz0, hz1, hz2⟩ := info_parts infoCap
  have HR : Hid (RefIs w base q N M) := hR
  have HF : Hid (Fit M) := hF
  clear hR hF
  go_enter Tryd.func16, Tryd.ntmps16
  go_wp2
  go_loopw [6, 7] (fun v i wr => ∃ k : Nat, k ≤ 16 ∧ i = .int .i64 k ∧ (∀ j : Nat, j < k → sE N M f (j : Nat) = 0) ∧ Ra w wr base q N M f v k) (fun _ i _ => 16 - (intOf i).toNat)
  case atStart => exact ⟨0, by omega, rfl, fun j hj => by omega, HR.out, Below.refl _ _, World.ownsRow_nil _ _ _ _⟩
  case round =>
    obtain ⟨k, hk, rfl, hok, hI⟩ := hrel
    have HI : Hid (Ra w wr base q N M f u6 k) := hI
    have HO : Hid (∀ j : Nat, j < k → sE N M f (j : Nat) = 0) := hok
    obtain ⟨av, cv, rfl⟩ := ownsRow_slice hI.row
    clear hI hok
    by_cases hlt : k < 16
    · have hki : (k : Int) < 16 := by omega
      have HG : Hid (∀ wc, RefIs wc base q N M → Calls Tryd.prog 10 #[.pointer (some ⟨q, 0, none⟩), .int .i64 f, .int .i64 k] wc fun x w' => x = .returned (.tuple #[.agg #[.int .i64 (sC N M f (k : Nat) 0), .int .i64 (sC N M f (k : Nat) 1), .int .i64 (sC N M f (k : Nat) 2), .int .i64 (sC N M f (k : Nat) 3), .int .i64 (sC N M f (k : Nat) 4), .int .i64 (sC N M f (k : Nat) 5)], .int .i64 (sE N M f (k : Nat))]) ∧ Below wc.heap.size wc w') := fun wc h => rsget_any base q N f k M wc hN1 hN h HF.out
      obtain ⟨E, hE⟩ : ∃ E, E = sE N M f (k : Nat) := ⟨_, rfl⟩
      rw [← hE] at HG
      have HE : Hid (E = sE N M f (k : Nat)) := hE
      clear hE
      go_upto_region 6 with (first
        | (go_at_call 10; refine (HG.out _ HI.out.ref).mono ?_; rintro e1 w1 ⟨rfl, hb⟩; have H1 : Hid (Ra w w1 base q N M f (.slice av k cv) k) := HI.out.on hb; clear hb HG HI)
        | fail)
      have H2 := H1.out.on (bal (Below.refl w1.heap.size w1) (.cells #[.int .i64 (sC N M f (k : Nat) 0), .int .i64 (sC N M f (k : Nat) 1), .int .i64 (sC N M f (k : Nat) 2), .int .i64 (sC N M f (k : Nat) 3), .int .i64 (sC N M f (k : Nat) 4), .int .i64 (sC N M f (k : Nat) 5)] 32))
      have hx := box6_new w1 (sC N M f (k : Nat) 0) (sC N M f (k : Nat) 1) (sC N M f (k : Nat) 2) (sC N M f (k : Nat) 3) (sC N M f (k : Nat) 4) (sC N M f (k : Nat) 5) 32
      generalize w1.alloc _ = v1 at H2 hx ⊢
      generalize w1.heap.size = D at hx ⊢
      have H3 : Hid (Ra w v1 base q N M f (.slice av k cv) k) := H2
      clear H1 H2
      by_cases h0 : E = 0
      · subst h0
        have x0 := hx.c0
        have x1 := hx.c1
        have x2 := hx.c2
        have x3 := hx.c3
        have x4 := hx.c4
        have x5 := hx.c5
        have hsz : w.heap.size ≤ v1.heap.size := H3.out.below.size
        clear hx
        go_wp2_with (first
          | (at_builtin; refine wpList_append_own _ rfl _ _ 24 rfl w.heap.size 32 it (.agg #[.int .i64 0, .int .i64 0, .int .i64 0, .int .i64 0, .int .i64 0, .int .i64 0]) 6 48 Tryd.underlying24 hi hz0 hz1 hz2 rfl (by decide) _ _ _ rfl (H3.out.row.alloc _) ⟨v1.heap.size, 0, none⟩ 1 1 (cells6 N M f ⟨k, hlt⟩) rfl rfl (six_new v1 _ _ _ _ _ _ _) (six_one N M f ⟨k, hlt⟩) (by unfold maxLen; omega) (by omega) (by simp; omega) ?_; intro v' w4 hown hgrow _; have H4 : Hid (Ra w w4 base q N M f v' (k + 1)) := H3.out.step HR.out hlt hown hgrow; clear hown hgrow)
          | fail)
        go_roundw
        case rel =>
          refine ⟨k + 1, by omega, by go_num, fun j hj => ?_, H4.out⟩
          by_cases e : j = k
          · subst e; exact HE.out.symm
          · exact HO.out j (by omega)
        case measure => simp [intOf]; omega
      · have hne : (E != 0) = true := by simp [h0]
        clear hx
        go_wp2
        go_ret2
        exact ⟨.inr ⟨k, hlt, by rw [← HE.out]; exact h0, by rw [← HE.out]; rfl⟩, H3.out.below⟩
    · obtain rfl : k = 16 := by omega
      go_wp2
      go_ret2
      exact ⟨.inl ⟨HO.out, _, rfl, HI.out.row⟩, HI.out.below⟩
/-- The document's All, for every frame. -/
theorem rsall_any (base q N : Nat) (f : Int) (M : Nat → Nat → Int) (w : World) (hN1 : 1 ≤ N) (hN : N ≤ 64) (hR : RefIs w base q N M) (hF : Fit M) :
    Calls Tryd.prog 16 #[.pointer (some ⟨q, 0, none⟩), .int .i64 f] w fun e w' => ∃ v, e = .returned (.tuple #[v, .int .i64 (aE N M f)]) ∧ Caps w' w.heap.size v (aN N M f) (fun i j => sC N M f (i : Nat) j) ∧ Below w.heap.size w w' := by
  refine (rsall_in base q N f M w hN1 hN hR hF).mono ?_
  rintro e w' ⟨h, hB⟩
  rcases h with ⟨hok, v, rfl, hv⟩ | ⟨x, hx16, hx, rfl⟩
  · have h0 : okA N M f = true := (okA_iff N M f).2 hok
    refine ⟨v, by simp [aE, h0], ?_, hB⟩
    rw [show aN N M f = 16 by simp [aN, h0]]
    exact caps_of_own hv
  · obtain ⟨h0, h1⟩ := okA_no hx16 hx
    refine ⟨_, by rw [h1], ?_, hB⟩
    rw [show aN N M f = 0 by simp [aN, h0]]
    exact ⟨_, _, rfl, .inl rfl⟩
set_option maxRecDepth 100000 in
set_option maxHeartbeats 1000000 in
theorem rsused_any (base q N : Nat) (f : Int) (M : Nat → Nat → Int) (w : World) (hN1 : 1 ≤ N) (hN : N ≤ 64) (hR : RefIs w base q N M) (hF : Fit M) :
    Calls Tryd.prog 12 #[.pointer (some ⟨q, 0, none⟩), .int .i64 f] w fun e w' => e = .returned (.tuple #[.int .i64 (uN N M f), .int .i64 (aE N M f)]) ∧ Below w.heap.size w w' := by
  have HA : Hid (Calls Tryd.prog 16 #[.pointer (some ⟨q, 0, none⟩), .int .i64 f] w fun e w' => ∃ v, e = .returned (.tuple #[v, .int .i64 (aE N M f)]) ∧ Caps w' w.heap.size v (aN N M f) (fun i j => sC N M f (i : Nat) j) ∧ Below w.heap.size w w') := rsall_any base q N f M w hN1 hN hR hF
  have hn := aN_le N M f
  unfold uN
  generalize aE N M f = E at HA ⊢
  generalize aN N M f = n at HA hn ⊢
  obtain ⟨C, hC⟩ : ∃ C : Nat → Nat → Int, C = fun i j => sC N M f (i : Nat) j := ⟨_, rfl⟩
  have hC0 : (fun i : Nat => sC N M f (i : Nat) 0) = fun i => C i 0 := by rw [hC]
  rw [hC0]
  rw [← hC] at HA
  clear hC hC0 hR hF
  go_enter Tryd.func12, Tryd.ntmps12
  go_wp2_with (first
    | (go_at_call 16; refine HA.out.mono ?_; rintro e1 w1 ⟨v, rfl, hc, hb⟩; obtain ⟨av, cv, rfl⟩ := hc.slice; have HC : Hid (Caps w1 w.heap.size (.slice av n cv) n C) := hc; have HB : Hid (Below w.heap.size w w1) := hb; clear hc hb)
    | fail)
  go_loopw [8, 9] (fun u i wr => ∃ k : Nat, k ≤ n ∧ i = .int .i64 k ∧ u = .int .i64 (cnt (fun i => C i 0) k) ∧ wr = w1) (fun _ i _ => n - (intOf i).toNat)
  case atStart => exact ⟨0, by omega, rfl, rfl, rfl⟩
  case round =>
    obtain ⟨k, hk, rfl, rfl, hr⟩ := hrel
    subst wr
    have hle := cnt_le (fun i => C i 0) k
    have hsucc : cnt (fun i => C i 0) (k + 1) = cnt (fun i => C i 0) k + if 1 < C k 0 then 1 else 0 := rfl
    by_cases hlt : k < n
    · have hki : (k : Int) < (n : Int) := by omega
      obtain ⟨_, bl, rfl, _, _, hcell⟩ := HC.out.at hlt
      obtain ⟨c0, _⟩ := hcell w1 (Below.refl _ _)
      clear hcell
      generalize C k 0 = K at c0 hsucc
      by_cases h1 : 1 < K
      · rw [if_pos h1] at hsucc
        generalize cnt (fun i => C i 0) k = u at hle hsucc
        have hu : wrap64 ((u : Int) + 1) = (u : Int) + 1 := by unfold wrap64; omega
        have HS : Hid (cnt (fun i => C i 0) (k + 1) = u + 1) := hsucc
        clear hsucc
        go_wp2
        go_roundw
        case rel => exact ⟨k + 1, by omega, by go_num, by rw [HS.out]; simp, by first | rfl | trivial⟩
        case measure => simp [intOf]; omega
      · rw [if_neg h1] at hsucc
        generalize cnt (fun i => C i 0) k = u at hle hsucc
        have HS : Hid (cnt (fun i => C i 0) (k + 1) = u) := hsucc
        clear hsucc
        go_wp2
        go_roundw
        case rel => exact ⟨k + 1, by omega, by go_num, by rw [HS.out], by first | rfl | trivial⟩
        case measure => simp [intOf]; omega
    · obtain rfl : k = n := by omega
      go_wp2
      go_ret2
      exact ⟨rfl, HB.out⟩
set_option maxRecDepth 100000 in
set_option maxHeartbeats 1000000 in
theorem rsfirst_any (base q N : Nat) (f : Int) (M : Nat → Nat → Int) (w : World) (hN1 : 1 ≤ N) (hN : N ≤ 64) (hR : RefIs w base q N M) (hF : Fit M) :
    Calls Tryd.prog 14 #[.pointer (some ⟨q, 0, none⟩), .int .i64 f] w fun e w' => e = .returned (.tuple #[.int .i64 (fN N M f), .int .i64 (fE N M f)]) ∧ Below w.heap.size w w' := by
  have HA : Hid (Calls Tryd.prog 16 #[.pointer (some ⟨q, 0, none⟩), .int .i64 f] w fun e w' => ∃ v, e = .returned (.tuple #[v, .int .i64 (aE N M f)]) ∧ Caps w' w.heap.size v (aN N M f) (fun i j => sC N M f (i : Nat) j) ∧ Below w.heap.size w w') := rsall_any base q N f M w hN1 hN hR hF
  clear hR hF
  cases hok : okA N M f
  · have h1 : fN N M f = 0 := by simp [fN, hok]
    have h2 : fE N M f = aE N M f := by simp [fE, hok]
    have h3 : aE N M f ≠ 0 := by unfold aE; rw [hok]; simp; split <;> simp
    rw [h1, h2]
    generalize aE N M f = E at HA h3 ⊢
    have hE : (E != 0) = true := by simp [h3]
    clear h1 h2 h3 hok
    go_enter Tryd.func14, Tryd.ntmps14
    go_wp2_with (first
      | (go_at_call 16; refine HA.out.mono ?_; rintro e1 w1 ⟨v, rfl, hc, hb⟩; obtain ⟨av, cv, rfl⟩ := hc.slice; have HB : Hid (Below w.heap.size w w1) := hb; clear hc hb)
      | fail)
    go_ret2
    exact ⟨rfl, HB.out⟩
  · have h0 : aE N M f = 0 := by simp [aE, hok]
    have hn : aN N M f = 16 := by simp [aN, hok]
    rw [h0, hn] at HA
    have HO : Hid (okA N M f = true) := hok
    clear h0 hn hok
    go_enter Tryd.func14, Tryd.ntmps14
    go_wp2_with (first
      | (go_at_call 16; refine HA.out.mono ?_; rintro e1 w1 ⟨v, rfl, hc, hb⟩; obtain ⟨av, cv, rfl⟩ := hc.slice; have HC : Hid (Caps w1 w.heap.size (.slice av 16 cv) 16 (fun i j => sC N M f (i : Nat) j)) := hc; have HB : Hid (Below w.heap.size w w1) := hb; clear hc hb)
      | fail)
    go_loopw [8] (fun i wr => ∃ k : Nat, k ≤ 16 ∧ i = .int .i64 k ∧ (∀ j : Nat, j < k → sC N M f (j : Nat) 0 ≠ 0) ∧ wr = w1) (fun i _ => 16 - (intOf i).toNat)
    case atStart => exact ⟨0, by omega, rfl, fun j hj => by omega, rfl⟩
    case round =>
      obtain ⟨k, hk, rfl, hno, hr⟩ := hrel
      subst wr
      have HN : Hid (∀ j : Nat, j < k → sC N M f (j : Nat) 0 ≠ 0) := hno
      clear hno
      by_cases hlt : k < 16
      · have hki : (k : Int) < 16 := by omega
        obtain ⟨_, bl, rfl, _, _, hcell⟩ := HC.out.at hlt
        obtain ⟨c0, _⟩ := hcell w1 (Below.refl _ _)
        clear hcell
        obtain ⟨K, hK⟩ : ∃ K, K = sC N M f (k : Nat) 0 := ⟨_, rfl⟩
        rw [← hK] at c0
        have HK : Hid (K = sC N M f (k : Nat) 0) := hK
        clear hK
        by_cases h0 : K = 0
        · subst h0
          have hf : fF N M f = k := fst_is (by omega) HN.out (fun _ => HK.out.symm)
          have HE : Hid (fN N M f = k ∧ fE N M f = 0) := by
            have ho := HO.out
            constructor
            · simp [fN, ho, hf, hlt]
            · simp [fE, ho, hf, hlt]
          clear hf
          go_wp2
          go_ret2
          exact ⟨by rw [HE.out.1, HE.out.2]; rfl, HB.out⟩
        · have hb0 : (K == 0) = false := by simp [h0]
          go_wp2
          go_roundw
          case rel =>
            refine ⟨k + 1, by omega, by go_num, fun i hi => ?_, by first | rfl | trivial⟩
            by_cases e : i = k
            · subst e; rw [← HK.out]; exact h0
            · exact HN.out i (by omega)
          case measure => simp [intOf]; omega
      · obtain rfl : k = 16 := by omega
        have hf : fF N M f = 16 := fst_is (Nat.le_refl _) HN.out (fun h => by omega)
        have HE : Hid (fN N M f = 0 ∧ fE N M f = 3) := by
          have ho := HO.out
          constructor
          · simp [fN, hf]
          · simp [fE, ho, hf]
        clear hf
        go_wp2
        go_ret2
        exact ⟨by rw [HE.out.1, HE.out.2]; rfl, HB.out⟩
end Go.Proofs.YtkodanflobclhaaDoor.Pslot
