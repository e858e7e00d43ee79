/- The document's Decons and Drop. -/
import Derived.Test.YtgcaodfcodalfaaGreatDoorCtbX
namespace Go.Proofs.YtgcaodfcodalfaaGreatDoor.Pcaptbl
open Go.Proofs.YtgcaodfcodalfaaGreatDoor.Pbase Go.Proofs.YtgcaodfcodalfaaGreatDoor.Pmem Go.Proofs.YtgcaodfcodalfaaGreatDoor.Pradix Go.Proofs.YtgcaodfcodalfaaGreatDoor.Pslot
open Go.RowKit
set_option linter.unusedVariables false

/-! ### Decons -/
theorem drew1 {w : World} {p0 : Addr} {a : Option Value} (h0 : w.cell? p0 = a) : w.drew.cell? p0 = a := h0
/-- A head that was read lies behind a capability's block. -/
theorem rd_laid {w w3 w4 : World} {base q N : Nat} {M : Nat → Nat → Int} {D : Nat} {k r t l e c : Int} (h : Rb w w3 base q N M D k r t l e c) (hb : Below w3.heap.size w3 w4) (k' l' : Int) (z' : Bool) (t' : Int) : Rb w (w4.alloc (.cells #[.int .i64 k', .int .i64 l', .bool z', .int .i64 t'] 78)) base q N M D k r t l e c ∧ Phead.Box4 (w4.alloc (.cells #[.int .i64 k', .int .i64 l', .bool z', .int .i64 t'] 78)) w4.heap.size k' l' z' t' :=
  ⟨(h.on hb).on (bal (Below.refl _ _) _), Phead.box4_new w4 k' l' z' t' 78⟩
theorem rb_laid {w w3 : World} {base q N : Nat} {M : Nat → Nat → Int} (h : Rx w base q N M) (hb : Below w.heap.size w w3) (k r t l e c : Int) : Rb w (w3.alloc (.cells #[.int .i64 k, .int .i64 r, .int .i64 t, .int .i64 l, .int .i64 e, .int .i64 c] 32)) base q N M w3.heap.size k r t l e c :=
  ⟨h.grown (bal hb _), bal hb _, Pcap.box6_new w3 k r t l e c 32⟩
set_option maxRecDepth 100000 in
set_option maxHeartbeats 1000000 in
theorem rdecons_any (base q N : Nat) (root high now floor : Int) (M : Nat → Nat → Int) (w : World) (h : Rx w base q N M) : Calls Tryz.prog 23 #[.pointer (some ⟨q, 0, none⟩), .int .i64 root, .int .i64 high, .int .i64 now, .int .i64 floor] w fun x w' => x = .returned (.tuple #[.int .i64 (deF N M root high now floor), .int .i64 (deE N M root high now floor)]) ∧ Rx w' base q N (deM N M root high now floor) ∧ Below base w w' ∧ Keep w w' := by
  have HM := rhide h
  have f2 : deM N M root high now floor = if deE N M root high now floor = 0 then pM N M root high 1 0 0 0 0 now else M := rfl
  have f3 : deF N M root high now floor = if deE N M root high now floor = 0 then sC N M root high 2 else 0 := rfl
  rw [f2, f3]
  clear f2 f3
  cases hs : okS high
  case false =>
    have e1 : deE N M root high now floor = 1 := by simp [deE, hs]
    rw [e1, if_neg (by decide), if_neg (by decide)]
    clear h e1
    rcases okS_no hs with h1 | h1
    · clear hs
      go_enter Tryz.func23, Tryz.ntmps23
      go_wp2_with fail
      go_ret2
      exact ⟨rfl, rx_same HM.out (Below.refl _ _)⟩
    · clear hs
      have h2 : ¬ high < 0 := by omega
      go_enter Tryz.func23, Tryz.ntmps23
      go_wp2_with fail
      go_ret2
      exact ⟨rfl, rx_same HM.out (Below.refl _ _)⟩
  obtain ⟨s0, s1⟩ := okS_yes hs
  have s2 : ¬ high < 0 := by omega
  have s3 : ¬ 16 ≤ high := by omega
  cases ht : tiB now
  case false =>
    have e1 : deE N M root high now floor = 1 := by simp [deE, ht]
    rw [e1, if_neg (by decide), if_neg (by decide)]
    clear h e1 hs s0 s1
    go_enter Tryz.func23, Tryz.ntmps23
    go_wp2_with (first
      | (go_at_call 49; refine (rtime_any now _).mono ?_; rintro e0 w0 ⟨rfl, hw⟩; subst w0; rw [ht])
      | fail)
    go_ret2
    exact ⟨rfl, rx_same HM.out (Below.refl _ _)⟩
  rw [de_eq hs ht]
  have hput : dnE N M root high = 0 → pE N root high 1 0 0 0 0 now = 0 := fun hh => de_put ht hh
  have hdn : dnE N M root high = if tbB N M root 0 = true then if sE N M root high = 0 then if sC N M root high 0 = 3 then 0 else 3 else sE N M root high else 4 := rfl
  have HG : Hid (∀ wc, Below w.heap.size w wc → Calls Tryz.prog 42 #[.pointer (some ⟨q, 0, none⟩), .int .i64 root, .int .i64 high] wc fun x w' => x = .returned (.tuple #[.agg #[.int .i64 (sC N M root high 0), .int .i64 (sC N M root high 1), .int .i64 (sC N M root high 2), .int .i64 (sC N M root high 3), .int .i64 (sC N M root high 4), .int .i64 (sC N M root high 5)], .int .i64 (sE N M root high)]) ∧ Below wc.heap.size wc w') := fun wc hb => rsget_any base q N root high M wc h.n1 h.n64 (h.grown hb).ref h.fit
  have HT := rhide (table_any base q N root 0 M w h)
  have HH : Hid (∀ wc f, Below w.heap.size w wc → Calls Tryz.prog 58 #[.pointer (some ⟨q, 0, none⟩), .int .i64 f] wc fun x w' => x = .returned (.tuple #[.agg #[.int .i64 (Phead.ghK N M f), .int .i64 (Phead.ghL N M f), .bool (Phead.ghZ N M f), .int .i64 (Phead.ghT N M f)], .int .i64 (Phead.ghE N M f)]) ∧ Below wc.heap.size wc w') := fun wc f hb => Phead.hrget_any base q N f M wc h.n1 h.n64 (h.grown hb).ref h.fit
  clear h hs s0 s1
  generalize dnE N M root high = Dn at hput hdn ⊢
  generalize tbB N M root 0 = T1 at HT hdn
  generalize Phead.ghZ N M root = Z1 at HT
  generalize sE N M root high = S at HG hdn
  generalize sC N M root high 0 = C0 at HG hdn
  generalize sC N M root high 1 = C1 at HG
  generalize sC N M root high 2 = C2 at HG ⊢
  generalize sC N M root high 3 = C3 at HG
  generalize sC N M root high 4 = C4 at HG
  generalize sC N M root high 5 = C5 at HG
  cases T1
  case false =>
    rw [if_neg (by decide)] at hdn
    subst hdn
    clear hput
    have hh : (if (4 : Int) = 0 then seE N M C2 floor else 4) = 4 := by simp
    rw [hh, if_neg (by decide), if_neg (by decide)]
    clear hh
    go_enter Tryz.func23, Tryz.ntmps23
    go_wp2_with (first
      | (go_at_call 49; refine (rtime_any now _).mono ?_; rintro e0 w0 ⟨rfl, hw⟩; subst w0; rw [ht])
      | (go_at_call 55; refine HT.out.mono ?_; rintro e1 w1 ⟨rfl, hb⟩; have H1 := rhide hb; clear hb)
      | fail)
    go_ret2
    exact ⟨rfl, rx_same HM.out H1.out⟩
  rw [if_pos rfl] at hdn
  by_cases hS : S = 0
  case neg =>
    rw [if_neg hS] at hdn
    subst hdn
    clear hput
    simp only [if_neg hS]
    have hS' : (Dn != 0) = true := by simp [hS]
    go_enter Tryz.func23, Tryz.ntmps23
    go_wp2_with (first
      | (go_at_call 49; refine (rtime_any now _).mono ?_; rintro e0 w0 ⟨rfl, hw⟩; subst w0; rw [ht])
      | (go_at_call 55; refine HT.out.mono ?_; rintro e1 w1 ⟨rfl, hb⟩; have H1 := rhide hb; clear hb)
      | (go_at_call 42; refine (HG.out _ H1.out).mono ?_; rintro e3 w3 ⟨rfl, hb⟩; have H3 := rhide (H1.out.trans (hb.mono H1.out.size)); clear hb)
      | fail)
    go_ret2
    exact ⟨rfl, rx_same HM.out (bal H3.out _)⟩
  subst hS
  rw [if_pos rfl] at hdn
  by_cases hk : C0 = 3
  case neg =>
    rw [if_neg hk] at hdn
    subst hdn
    clear hput
    have hk' : (C0 != 3) = true := by simp [hk]
    have hh : (if (3 : Int) = 0 then seE N M C2 floor else 3) = 3 := by simp
    rw [hh, if_neg (by decide), if_neg (by decide)]
    clear hh
    go_enter Tryz.func23, Tryz.ntmps23
    go_wp2_with (first
      | (go_at_call 49; refine (rtime_any now _).mono ?_; rintro e0 w0 ⟨rfl, hw⟩; subst w0; rw [ht])
      | (go_at_call 55; refine HT.out.mono ?_; rintro e1 w1 ⟨rfl, hb⟩; have H1 := rhide hb; clear hb)
      | (go_at_call 42; refine (HG.out _ H1.out).mono ?_; rintro e3 w3 ⟨rfl, hb⟩; have H3 := rhide (H1.out.trans (hb.mono H1.out.size)); clear hb)
      | fail)
    go_ret2
    exact ⟨rfl, rx_same HM.out (bal H3.out _)⟩
  subst hk
  rw [if_pos rfl] at hdn
  subst hdn
  rw [if_pos rfl]
  have HP := rhide (hput rfl)
  clear hput
  have HK := HH.out w C2 (Below.refl _ _)
  clear HK
  have HH2 : Hid (∀ wc, Below w.heap.size w wc → Calls Tryz.prog 58 #[.pointer (some ⟨q, 0, none⟩), .int .i64 C2] wc fun x w' => x = .returned (.tuple #[.agg #[.int .i64 (Phead.ghK N M C2), .int .i64 (Phead.ghL N M C2), .bool (Phead.ghZ N M C2), .int .i64 (Phead.ghT N M C2)], .int .i64 (Phead.ghE N M C2)]) ∧ Below wc.heap.size wc w') := fun wc hb => HH.out wc C2 hb
  have hse : seE N M C2 floor = if Phead.ghE N M C2 = 0 ∧ Phead.ghK N M C2 = 1 ∧ Phead.ghZ N M C2 = true ∧ Phead.ghT N M C2 < floor then 0 else 6 := rfl
  rw [hse]
  clear hse HH
  generalize Phead.ghK N M C2 = K at HH2 ⊢
  generalize Phead.ghL N M C2 = L at HH2
  generalize Phead.ghZ N M C2 = Z at HH2 ⊢
  generalize Phead.ghT N M C2 = T at HH2 ⊢
  generalize Phead.ghE N M C2 = E at HH2 ⊢
  obtain ⟨R, hR⟩ : ∃ R : Int, (if E = 0 ∧ K = 1 ∧ Z = true ∧ T < floor then 0 else 6) = R := ⟨_, rfl⟩
  rw [hR]
  have HR := rhide hR
  obtain ⟨Fv, hF⟩ : ∃ Fv : Int, (if R = 0 then C2 else 0) = Fv := ⟨_, rfl⟩
  rw [hF]
  have HF := rhide hF
  obtain ⟨MM, hMM⟩ : ∃ MM, (if R = 0 then pM N M root high 1 0 0 0 0 now else M) = MM := ⟨_, rfl⟩
  rw [hMM]
  have HMM := rhide hMM
  clear hR hF hMM
  go_enter Tryz.func23, Tryz.ntmps23
  go_upto_region 7 with (first
    | (go_at_call 49; refine (rtime_any now _).mono ?_; rintro e0 w0 ⟨rfl, hw⟩; subst w0; rw [ht])
    | (go_at_call 55; refine HT.out.mono ?_; rintro e1 w1 ⟨rfl, hb⟩; have H1 := rhide hb; clear hb)
    | (go_at_call 42; refine (HG.out _ H1.out).mono ?_; rintro e3 w3 ⟨rfl, hb⟩; have H3 := rhide (H1.out.trans (hb.mono H1.out.size)); clear hb)
    | fail)
  have H4 := rb_laid HM.out H3.out 3 C1 C2 C3 C4 C5
  generalize w3.alloc _ = w4 at H4 ⊢
  generalize w3.heap.size = D at H4 ⊢
  have H5 := rhide H4
  clear H4
  have x0 := H5.out.box.c0
  have x1 := H5.out.box.c1
  have x2 := H5.out.box.c2
  have x3 := H5.out.box.c3
  have x4 := H5.out.box.c4
  have x5 := H5.out.box.c5
  go_upto_region 12 with (first
    | (go_at_call 58; refine (HH2.out _ H5.out.below).mono ?_; rintro e6 w6 ⟨rfl, hb⟩; have H6 := rhide hb; clear hb x0 x1 x2 x3 x4 x5)
    | fail)
  have H7 := rd_laid H5.out H6.out K L Z T
  clear H6 H5
  generalize w6.alloc _ = w7 at H7 ⊢
  generalize w6.heap.size = D2 at H7 ⊢
  have H8 := rhide H7.1
  have y0 := H7.2.c0
  have y1 := H7.2.c1
  have y2 := H7.2.c2
  have y3 := H7.2.c3
  clear H7
  have x0 := H8.out.box.c0
  have x1 := H8.out.box.c1
  have x2 := H8.out.box.c2
  have x3 := H8.out.box.c3
  have x4 := H8.out.box.c4
  have x5 := H8.out.box.c5
  by_cases hE : E = 0
  case neg =>
    have hE' : (E != 0) = true := by simp [hE]
    go_wp2
    go_ret2
    have hr := HR.out
    rw [if_neg (fun h => hE h.1)] at hr
    subst hr
    have hf := HF.out
    rw [if_neg (by decide)] at hf
    have hm := HMM.out
    rw [if_neg (by decide)] at hm
    subst hf hm
    exact ⟨rfl, rx_same HM.out H8.out.below⟩
  subst hE
  by_cases hK : K = 1
  case neg =>
    have hK' : (K != 1) = true := by simp [hK]
    go_wp2
    go_ret2
    have hr := HR.out
    rw [if_neg (fun h => hK h.2.1)] at hr
    subst hr
    have hf := HF.out
    rw [if_neg (by decide)] at hf
    have hm := HMM.out
    rw [if_neg (by decide)] at hm
    subst hf hm
    exact ⟨rfl, rx_same HM.out H8.out.below⟩
  subst hK
  cases Z
  case false =>
    go_wp2
    go_ret2
    have hr := HR.out
    rw [if_neg (by simp)] at hr
    subst hr
    have hf := HF.out
    rw [if_neg (by decide)] at hf
    have hm := HMM.out
    rw [if_neg (by decide)] at hm
    subst hf hm
    exact ⟨rfl, rx_same HM.out H8.out.below⟩
  by_cases hT : T < floor
  case neg =>
    go_wp2
    go_ret2
    have hr := HR.out
    rw [if_neg (fun h => by have := h.2.2.2; omega)] at hr
    subst hr
    have hf := HF.out
    rw [if_neg (by decide)] at hf
    have hm := HMM.out
    rw [if_neg (by decide)] at hm
    subst hf hm
    exact ⟨rfl, rx_same HM.out H8.out.below⟩
  have hT' : ¬ floor ≤ T := by omega
  go_upto_region 14 with fail
  go_region_held3 (fun w' => w'.cell? ⟨D, 2, none⟩ = some (.int .i64 C2)) (first | with_reducible exact (KP.out.box H8.out.box).c2 | with_reducible exact drew1 x2)
  (first
    | (go_at_call 41; refine (kput_any base q N root high 1 0 0 0 0 now M _ HM.out.n1 HM.out.n64 (by first | exact (H8.out.on (Below.refl _ _).drew).rx.ref | exact H8.out.rx.ref)).mono ?_; rintro e9 w9 ⟨rfl, hR9, hB9, hK9⟩; rw [HP.out]; have KP : Hid (Keep w7 w9) := (by first | exact hK9 | exact (Keep.of_below (Below.refl _ _).drew).trans hK9); have H9 := rhide (rx_put HM.out H8.out.below hR9 (fit_pM HM.out.fit N _ _ _ _ _ _ _ _) (by first | exact hB9 | exact ((Below.refl _ _).drew).trans hB9) KP.out); clear hR9 hB9 hK9)
    | fail)
  go_wp2
  go_ret2
  have hr := HR.out
  rw [if_pos (by first | exact ⟨rfl, rfl, rfl, by omega⟩ | exact ⟨trivial, trivial, trivial, by omega⟩)] at hr
  subst hr
  have hf := HF.out
  rw [if_pos rfl] at hf
  have hm := HMM.out
  rw [if_pos rfl] at hm
  subst hf hm
  exact ⟨rfl, H9.out⟩
end Go.Proofs.YtgcaodfcodalfaaGreatDoor.Pcaptbl
