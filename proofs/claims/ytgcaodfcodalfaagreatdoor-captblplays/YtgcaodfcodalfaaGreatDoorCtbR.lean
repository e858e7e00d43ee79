/- The document's tables of capabilities: Make, Table, time, quiet, leaf, Room. -/
import Derived.Test.YtgcaodfcodalfaaGreatDoorCtbG
import Derived.Test.YtgcaodfcodalfaaGreatDoorBunSlot
import Derived.Test.YtgcaodfcodalfaaGreatDoorBunHead
import Derived.Test.YtgcaodfcodalfaaGreatDoorBunRadix
import Derived.BigQuiet
import Derived.BigRegion
import Derived.Deep.RegionHeld3
import Derived.Deep.CutBlock
namespace Go.Proofs.YtgcaodfcodalfaaGreatDoor.Pcaptbl
open Go.Proofs.YtgcaodfcodalfaaGreatDoor.Pbase Go.Proofs.YtgcaodfcodalfaaGreatDoor.Pmem Go.Proofs.YtgcaodfcodalfaaGreatDoor.Pradix Go.Proofs.YtgcaodfcodalfaaGreatDoor.Pslot
open Go.RowKit
set_option linter.unusedVariables false

theorem results4 {fn : Func} {t u v x : Tmp} (h : fn.results = #[.tmp t, .tmp u, .tmp v, .tmp x]) (tmps : Array Value) (P : Program) (w : World) :
    (results fn tmps).run P w = .ok (.tuple #[tmps.getD t undef, tmps.getD u undef, tmps.getD v undef, tmps.getD x undef]) w := by
  simp [results, h]
theorem rhide {p : Prop} (h : p) : Hid p := h
/-- The document's memory. -/
structure Rx (w : World) (base q N : Nat) (M : Nat → Nat → Int) : Prop where
  ref : RefIs w base q N M
  fit : Fit M
  n1 : 1 ≤ N
  n64 : N ≤ 64
theorem Rx.grown {w w' : World} {base q N : Nat} {M : Nat → Nat → Int} (h : Rx w base q N M) (hB : Below w.heap.size w w') : Rx w' base q N M := ⟨h.ref.grown hB, h.fit, h.n1, h.n64⟩
theorem Rx.turn {w w' : World} {base q N : Nat} {M M' : Nat → Nat → Int} (h : Rx w base q N M) (hR : RefIs w' base q N M') (hF : Fit M') : Rx w' base q N M' := ⟨hR, hF, h.n1, h.n64⟩
theorem below_base {w w' : World} {base q N : Nat} {M : Nat → Nat → Int} (h : RefIs w base q N M) (hB : Below w.heap.size w w') : Below base w w' := hB.mono (Nat.le_of_lt (Nat.lt_of_le_of_lt h.ge h.lt))
set_option maxRecDepth 100000 in
theorem rmake_any (base q N : Nat) (f l : Int) (M : Nat → Nat → Int) (w : World) (h : Rx w base q N M) : Calls Tryz.prog 13 #[.pointer (some ⟨q, 0, none⟩), .int .i64 f, .int .i64 l] w fun x w' => x = .returned (.int .i64 (Phead.errP N f 1 l false 0)) ∧ Rx w' base q N (Phead.mkM N M f 1 l false 0) ∧ Below base w w' := by
  have HM : Hid (Calls Tryz.prog 34 #[.pointer (some ⟨q, 0, none⟩), .int .i64 f, .agg #[.int .i64 1, .int .i64 l, .bool false, .int .i64 0]] w fun x w' => x = .returned (.int .i64 (Phead.errP N f 1 l false 0)) ∧ Rx w' base q N (Phead.mkM N M f 1 l false 0) ∧ Below base w w') := by
    refine (Phead.hrmake_any base q N f 1 l false 0 M w h.n1 h.n64 h.ref).mono ?_
    rintro x w' ⟨rfl, h1, h2⟩
    exact ⟨rfl, h.turn h1 (Phead.fit_mk h.fit N f 1 l false 0), h2⟩
  clear h
  go_enter Tryz.func13, Tryz.ntmps13
  go_wp2_with (first
    | (go_at_call 34; refine HM.out.mono ?_; rintro e1 w1 ⟨rfl, hb⟩; have H1 : Hid (Rx w1 base q N (Phead.mkM N M f 1 l false 0) ∧ Below base w w1) := hb; clear hb)
    | fail)
  go_ret
  exact ⟨rfl, H1.out⟩
theorem rt_laid {w w1 : World} (hb : Below w.heap.size w w1) (k l : Int) (z : Bool) (t : Int) : Below w.heap.size w (w1.alloc (.cells #[.int .i64 k, .int .i64 l, .bool z, .int .i64 t] 78)) ∧ Phead.Box4 (w1.alloc (.cells #[.int .i64 k, .int .i64 l, .bool z, .int .i64 t] 78)) w1.heap.size k l z t :=
  ⟨bal hb _, Phead.box4_new w1 k l z t 78⟩
set_option maxRecDepth 100000 in
set_option maxHeartbeats 1000000 in
theorem table_any (base q N : Nat) (f l : Int) (M : Nat → Nat → Int) (w : World) (h : Rx w base q N M) : Calls Tryz.prog 55 #[.pointer (some ⟨q, 0, none⟩), .int .i64 f, .int .i64 l] w fun x w' => x = .returned (.tuple #[.bool (tbB N M f l), .bool (Phead.ghZ N M f)]) ∧ Below w.heap.size w w' := by
  have HG : Hid (Calls Tryz.prog 58 #[.pointer (some ⟨q, 0, none⟩), .int .i64 f] w fun x w' => x = .returned (.tuple #[.agg #[.int .i64 (Phead.ghK N M f), .int .i64 (Phead.ghL N M f), .bool (Phead.ghZ N M f), .int .i64 (Phead.ghT N M f)], .int .i64 (Phead.ghE N M f)]) ∧ Below w.heap.size w w') := Phead.hrget_any base q N f M w h.n1 h.n64 h.ref h.fit
  clear h
  unfold tbB
  generalize Phead.ghK N M f = K at HG ⊢
  generalize Phead.ghL N M f = L at HG ⊢
  generalize Phead.ghZ N M f = Z at HG ⊢
  generalize Phead.ghT N M f = T at HG ⊢
  generalize Phead.ghE N M f = E at HG ⊢
  obtain ⟨R, hR⟩ : ∃ R, (decide (E = 0) && decide (K = 1) && decide (L = l)) = R := ⟨_, rfl⟩
  rw [hR]
  have HR := rhide hR
  clear hR
  go_enter Tryz.func55, Tryz.ntmps55
  go_upto_region 2 with (first
    | (go_at_call 58; refine HG.out.mono ?_; rintro e1 w1 ⟨rfl, hb⟩; have H1 : Hid (Below w.heap.size w w1) := hb; clear hb)
    | fail)
  have HL := rt_laid H1.out K L Z T
  generalize w1.alloc _ = w2 at HL ⊢
  generalize w1.heap.size = D at HL ⊢
  have H2 := rhide HL.1
  have x0 := HL.2.c0
  have x1 := HL.2.c1
  have x2 := HL.2.c2
  clear HL H1 HG
  by_cases hE : E = 0
  · subst hE
    by_cases hK : K = 1
    · subst hK
      by_cases hl : L = l
      · subst hl
        go_quiet (fail)
        go_wp2
        go_ret2
        have hr := HR.out
        simp at hr
        subst hr
        exact ⟨rfl, H2.out.trans (below_drew' _ _ _)⟩
      · have hl' : (L == l) = false := by simp [hl]
        go_quiet (fail)
        go_wp2
        go_ret2
        have hr := HR.out
        simp [hl] at hr
        subst hr
        exact ⟨rfl, H2.out.trans (below_drew' _ _ _)⟩
    · have hK' : (K == 1) = false := by simp [hK]
      go_quiet (fail)
      go_wp2
      go_ret2
      have hr := HR.out
      simp [hK] at hr
      subst hr
      exact ⟨rfl, H2.out.trans (below_drew' _ _ _)⟩
  · have hE' : (E == 0) = false := by simp [hE]
    go_quiet (fail)
    go_wp2
    go_ret2
    have hr := HR.out
    simp [hE] at hr
    subst hr
    exact ⟨rfl, H2.out.trans (below_drew' _ _ _)⟩
theorem rtime_any (now : Int) (w : World) : Calls Tryz.prog 49 #[.int .i64 now] w fun x w' => x = .returned (.bool (tiB now)) ∧ w' = w := by
  unfold tiB
  by_cases h1 : 1 ≤ now
  · by_cases h2 : now ≤ 1073741824
    · simp only [h1, h2, decide_true, Bool.and_self]
      go_enter Tryz.func49, Tryz.ntmps49
      go_wp2
      go_ret
      exact ⟨rfl, rfl⟩
    · simp only [h1, h2, decide_true, decide_false, Bool.and_false]
      go_enter Tryz.func49, Tryz.ntmps49
      go_wp2
      go_ret
      exact ⟨rfl, rfl⟩
  · simp only [h1, decide_false, Bool.false_and]
    go_enter Tryz.func49, Tryz.ntmps49
    go_wp2
    go_ret
    exact ⟨rfl, rfl⟩
theorem rquiet_any (k r t l e a floor : Int) (w : World) : Calls Tryz.prog 43 #[.agg #[.int .i64 k, .int .i64 r, .int .i64 t, .int .i64 l, .int .i64 e, .int .i64 a], .int .i64 floor] w fun x w' => x = .returned (.bool (quB k a floor)) ∧ Below w.heap.size w w' := by
  unfold quB
  by_cases h0 : k = 0
  · subst h0
    simp only [decide_true, Bool.true_or]
    go_enter Tryz.func43, Tryz.ntmps43
    go_wp2
    go_ret
    exact ⟨rfl, bal (Below.refl _ _) _⟩
  · have h0' : (k == 0) = false := by simp [h0]
    by_cases h1 : k = 1
    · subst h1
      by_cases h2 : a < floor
      · simp only [h2, decide_true, Bool.and_self, Bool.or_true]
        go_enter Tryz.func43, Tryz.ntmps43
        go_wp2
        go_ret
        exact ⟨rfl, bal (Below.refl _ _) _⟩
      · simp only [h2, h0, decide_true, decide_false, Bool.and_false, Bool.or_false]
        go_enter Tryz.func43, Tryz.ntmps43
        go_wp2
        go_ret
        exact ⟨rfl, bal (Below.refl _ _) _⟩
    · have h1' : (k == 1) = false := by simp [h1]
      simp only [h0, h1, decide_false, Bool.false_and, Bool.or_false]
      go_enter Tryz.func43, Tryz.ntmps43
      go_wp2
      go_ret
      exact ⟨rfl, bal (Below.refl _ _) _⟩
/-! ### the leaf of an address -/
set_option maxRecDepth 100000 in
set_option maxHeartbeats 1000000 in
theorem leaf_any (base q N : Nat) (root a : Int) (M : Nat → Nat → Int) (w : World) (h : Rx w base q N M) : Calls Tryz.prog 40 #[.pointer (some ⟨q, 0, none⟩), .int .i64 root, .int .i64 a] w fun x w' => x = .returned (.tuple #[.int .i64 (lfF N M root a), .int .i64 (lfI N M root a), .bool (lfZ N M root a), .int .i64 (lfE N M root a)]) ∧ Below w.heap.size w w' := by
  have HI := rhide h
  have t1 : True := trivial
  have t2 : True := trivial
  clear h
  have hno : lfE N M root a ≠ 0 → lfF N M root a = 0 ∧ lfI N M root a = 0 ∧ lfZ N M root a = false := fun h => by simp [lfF, lfI, lfZ, h]
  by_cases h1 : slE a = 0
  case neg =>
    have e0 : lfE N M root a = slE a := by simp [lfE, h1]
    obtain ⟨e1, e2, e3⟩ := hno (by rw [e0]; exact h1)
    rw [e0, e1, e2, e3]
    generalize hse : slE a = S at h1 ⊢
    have HS := rhide hse
    have h1' : (S != 0) = true := by simp [h1]
    clear hno e0 e1 e2 e3 hse
    go_enter Tryz.func40, Tryz.ntmps40
    go_wp2_with (first
      | (go_at_call 73; refine (rslot_any a _).mono ?_; rintro e1 w1 ⟨rfl, hw⟩; subst w1; rw [HS.out])
      | fail)
    (try simp only [Exit.inBlock, Exit.then]); refine bodyPost_ret (results4 rfl _ _ _) rfl ?_
    exact ⟨rfl, Below.refl _ _⟩
  have HS := rhide h1
  by_cases h2 : tbB N M root 0 = true
  case neg =>
    have h2' : tbB N M root 0 = false := by simpa using h2
    have e0 : lfE N M root a = 4 := by simp [lfE, h1, h2]
    obtain ⟨e1, e2, e3⟩ := hno (by rw [e0]; decide)
    rw [e0, e1, e2, e3]
    clear hno e0 e1 e2 e3 h2 h1
    go_enter Tryz.func40, Tryz.ntmps40
    go_wp2_with (first
      | (go_at_call 73; refine (rslot_any a _).mono ?_; rintro e1 w1 ⟨rfl, hw⟩; subst w1; rw [HS.out])
      | (go_at_call 55; clear t1; refine (table_any base q N root 0 M _ HI.out).mono ?_; rintro e2 w2 ⟨rfl, hb⟩; rw [h2']; have H2 : Hid (Rx w2 base q N M ∧ Below w.heap.size w w2) := ⟨HI.out.grown hb, hb⟩; clear hb)
      | fail)
    (try simp only [Exit.inBlock, Exit.then]); refine bodyPost_ret (results4 rfl _ _ _) rfl ?_
    exact ⟨rfl, H2.out.2⟩
  by_cases h3 : sE N M root (slH a) = 0
  case neg =>
    have e0 : lfE N M root a = 3 := by simp [lfE, h1, h2, h3]
    obtain ⟨e1, e2, e3⟩ := hno (by rw [e0]; decide)
    rw [e0, e1, e2, e3]
    obtain ⟨E, hE⟩ : ∃ E, sE N M root (slH a) = E := ⟨_, rfl⟩
    rw [hE] at h3
    have HE := rhide hE
    have h3' : (E != 0) = true := by simp [h3]
    clear hno e0 e1 e2 e3 h1 h3 hE
    go_enter Tryz.func40, Tryz.ntmps40
    go_wp2_with (first
      | (go_at_call 73; refine (rslot_any a _).mono ?_; rintro e1 w1 ⟨rfl, hw⟩; subst w1; rw [HS.out])
      | (go_at_call 55; clear t1; refine (table_any base q N root 0 M _ HI.out).mono ?_; rintro e2 w2 ⟨rfl, hb⟩; rw [h2]; have H2 : Hid (Rx w2 base q N M ∧ Below w.heap.size w w2) := ⟨HI.out.grown hb, hb⟩; clear hb)
      | (go_at_call 42; refine (rsget_any base q N root (slH a) M _ H2.out.1.n1 H2.out.1.n64 H2.out.1.ref H2.out.1.fit).mono ?_; rintro e3 w3 ⟨rfl, hb⟩; rw [HE.out]; have H3 : Hid (Rx w3 base q N M ∧ Below w.heap.size w w3) := ⟨H2.out.1.grown hb, H2.out.2.trans (hb.mono H2.out.2.size)⟩; clear hb)
      | fail)
    (try simp only [Exit.inBlock, Exit.then]); refine bodyPost_ret (results4 rfl _ _ _) rfl ?_
    exact ⟨rfl, bal H3.out.2 _⟩
  have HE := rhide h3
  by_cases h4 : sC N M root (slH a) 0 = 3
  case neg =>
    have e0 : lfE N M root a = 3 := by simp [lfE, h1, h2, h3, h4]
    obtain ⟨e1, e2, e3⟩ := hno (by rw [e0]; decide)
    rw [e0, e1, e2, e3]
    have h4' : (sC N M root (slH a) 0 != 3) = true := by simp [h4]
    clear hno e0 e1 e2 e3 h1 h3 h4
    go_enter Tryz.func40, Tryz.ntmps40
    go_wp2_with (first
      | (go_at_call 73; refine (rslot_any a _).mono ?_; rintro e1 w1 ⟨rfl, hw⟩; subst w1; rw [HS.out])
      | (go_at_call 55; clear t1; refine (table_any base q N root 0 M _ HI.out).mono ?_; rintro e2 w2 ⟨rfl, hb⟩; rw [h2]; have H2 : Hid (Rx w2 base q N M ∧ Below w.heap.size w w2) := ⟨HI.out.grown hb, hb⟩; clear hb)
      | (go_at_call 42; refine (rsget_any base q N root (slH a) M _ H2.out.1.n1 H2.out.1.n64 H2.out.1.ref H2.out.1.fit).mono ?_; rintro e3 w3 ⟨rfl, hb⟩; rw [HE.out]; have H3 : Hid (Rx w3 base q N M ∧ Below w.heap.size w w3) := ⟨H2.out.1.grown hb, H2.out.2.trans (hb.mono H2.out.2.size)⟩; clear hb)
      | fail)
    (try simp only [Exit.inBlock, Exit.then]); refine bodyPost_ret (results4 rfl _ _ _) rfl ?_
    exact ⟨rfl, bal H3.out.2 _⟩
  have HK := rhide h4
  by_cases h5 : tbB N M (sC N M root (slH a) 2) 1 = true
  case neg =>
    have h5' : tbB N M (sC N M root (slH a) 2) 1 = false := by simpa using h5
    have e0 : lfE N M root a = 4 := by simp [lfE, h1, h2, h3, h4, h5]
    obtain ⟨e1, e2, e3⟩ := hno (by rw [e0]; decide)
    rw [e0, e1, e2, e3]
    clear hno e0 e1 e2 e3 h1 h3 h4 h5
    go_enter Tryz.func40, Tryz.ntmps40
    go_wp2_with (first
      | (go_at_call 73; refine (rslot_any a _).mono ?_; rintro e1 w1 ⟨rfl, hw⟩; subst w1; rw [HS.out])
      | (go_at_call 55; clear t1; refine (table_any base q N root 0 M _ HI.out).mono ?_; rintro e2 w2 ⟨rfl, hb⟩; rw [h2]; have H2 : Hid (Rx w2 base q N M ∧ Below w.heap.size w w2) := ⟨HI.out.grown hb, hb⟩; clear hb)
      | (go_at_call 42; refine (rsget_any base q N root (slH a) M _ H2.out.1.n1 H2.out.1.n64 H2.out.1.ref H2.out.1.fit).mono ?_; rintro e3 w3 ⟨rfl, hb⟩; rw [HE.out, HK.out]; have H3 : Hid (Rx w3 base q N M ∧ Below w.heap.size w w3) := ⟨H2.out.1.grown hb, H2.out.2.trans (hb.mono H2.out.2.size)⟩; clear hb)
      | (go_at_call 55; clear t2; refine (table_any base q N (sC N M root (slH a) 2) 1 M _ (H3.out.1.grown (bal (Below.refl _ _) _))).mono ?_; rintro e4 w4 ⟨rfl, hb⟩; rw [h5']; have H4 : Hid (Below w.heap.size w w4) := (bal H3.out.2 _).trans (hb.mono (bal H3.out.2 _).size); clear hb)
      | fail)
    (try simp only [Exit.inBlock, Exit.then]); refine bodyPost_ret (results4 rfl _ _ _) rfl ?_
    exact ⟨rfl, H4.out⟩
  have e0 : lfE N M root a = 0 := by simp [lfE, h1, h2, h3, h4, h5]
  have e1 : lfF N M root a = sC N M root (slH a) 2 := by simp [lfF, e0]
  have e2 : lfI N M root a = slL a := by simp [lfI, e0]
  have e3 : lfZ N M root a = Phead.ghZ N M (sC N M root (slH a) 2) := by simp [lfZ, e0, e1]
  rw [e0, e1, e2, e3]
  clear hno e0 e1 e2 e3 h1 h3 h4
  go_enter Tryz.func40, Tryz.ntmps40
  go_upto_region 13 with (first
    | (go_at_call 73; refine (rslot_any a _).mono ?_; rintro e1 w1 ⟨rfl, hw⟩; subst w1; rw [HS.out])
    | (go_at_call 55; clear t1; refine (table_any base q N root 0 M _ HI.out).mono ?_; rintro e2 w2 ⟨rfl, hb⟩; rw [h2]; have H2 : Hid (Rx w2 base q N M ∧ Below w.heap.size w w2) := ⟨HI.out.grown hb, hb⟩; clear hb)
    | (go_at_call 42; refine (rsget_any base q N root (slH a) M _ H2.out.1.n1 H2.out.1.n64 H2.out.1.ref H2.out.1.fit).mono ?_; rintro e3 w3 ⟨rfl, hb⟩; rw [HE.out, HK.out]; have H3 : Hid (Rx w3 base q N M ∧ Below w.heap.size w w3) := ⟨H2.out.1.grown hb, H2.out.2.trans (hb.mono H2.out.2.size)⟩; clear hb)
    | (go_at_call 55; clear t2; refine (table_any base q N (sC N M root (slH a) 2) 1 M _ (H3.out.1.grown (bal (Below.refl _ _) _))).mono ?_; rintro e4 w4 ⟨rfl, hb⟩; rw [h5]; have H4 : Hid (Below w.heap.size w w4) := (bal H3.out.2 _).trans (hb.mono (bal H3.out.2 _).size); have x2 := ((Pcap.box6_new w3 _ _ _ _ _ _ 32).on hb).c2; clear hb)
    | fail)
  go_wp2
  (try simp only [Exit.inBlock, Exit.then]); refine bodyPost_ret (results4 rfl _ _ _) rfl ?_
  exact ⟨rfl, H4.out⟩
end Go.Proofs.YtgcaodfcodalfaaGreatDoor.Pcaptbl
