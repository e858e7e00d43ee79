/- What Decons and Drop of package captbl answer and do, for every argument, over a memory that New made. -/
import Derived.Test.YtgcaodfcodalfaaGreatDoorCtbF
namespace Go.Proofs.YtgcaodfcodalfaaGreatDoor.Pcaptbl
open Go.Proofs.YtgcaodfcodalfaaGreatDoor.Pbase Go.Proofs.YtgcaodfcodalfaaGreatDoor.Pmem Go.Proofs.YtgcaodfcodalfaaGreatDoor.Pradix Go.Proofs.YtgcaodfcodalfaaGreatDoor.Pslot
open Go.RowKit
set_option linter.unusedVariables false

/-! ### Decons -/
/-- What is said up to the leaf: the error, and the leaf. -/
def dnE (N : Nat) (M : Nat → Nat → Int) (root high : Int) : Int := if tbB N M root 0 = true then if sE N M root high = 0 then if sC N M root high 0 = 3 then 0 else 3 else sE N M root high else 4
theorem take_run (N : Nat) (M : Nat → Nat → Int) (root high : Int) : (stTake N M (wk 0 0 root high)).2 = dnE N M root high ∧ (dnE N M root high = 0 → (stTake N M (wk 0 0 root high)).1.fr = root ∧ (stTake N M (wk 0 0 root high)).1.at_ = high ∧ (stTake N M (wk 0 0 root high)).1.t = sC N M root high 2) := by
  by_cases h1 : tbB N M root 0 = true
  case neg => simp [stTake, chain, stIn, wk, dnE, h1]
  by_cases h2 : sE N M root high = 0
  case neg => simp [stTake, chain, stIn, stRead, wk, dnE, h1, h2]
  by_cases h3 : sC N M root high 0 = 3
  · simp [stTake, chain, stIn, stRead, stSee, stLeaf, wk, dnE, h1, h2, h3]
  · simp [stTake, chain, stIn, stRead, stSee, stLeaf, wk, dnE, h1, h2, h3]
theorem hasLeaf_but {w0 w : World} {p b N : Nat} {M : Nat → Nat → Int} {B : Nat} {v : Wk} (h : Wi w0 w p b N M B v) : Calls Tryz.prog 56 #[.pointer (some ⟨B, 0, none⟩)] w fun x w' => x = .returned (.int .i64 (stLeaf v).2) ∧ Wi w0 w' p b N M B (stLeaf v).1 ∧ But B w w' := by
  refine (hasLeaf_any h).mono ?_
  rintro x w' ⟨rfl, h1, rfl⟩
  exact ⟨rfl, h1, But.refl _ _⟩
theorem take_laid {w : World} {p b N : Nat} {M : Nat → Nat → Int} (h : Mx w p b N M) (root high : Int) : ∃ u : Wk,
    (∀ ty, Calls Tryz.prog 45 #[.slice (some ⟨w.heap.size + 1, 0, none⟩) 3 3] ((w.alloc (.cells #[.pointer (some ⟨p, 0, none⟩), .int .i64 0, .int .i64 0, .int .i64 root, .int .i64 high, .int .i64 0, .int .i64 0, .int .i64 0, .bool false, .int .i64 0, .int .i64 0, .int .i64 0, .int .i64 0, .int .i64 0, .int .i64 0, .int .i64 0] 84)).alloc (.cells #[.func (.func 51) #[.pointer (some ⟨w.heap.size, 0, none⟩)] #[], .func (.func 53) #[.pointer (some ⟨w.heap.size, 0, none⟩)] #[], .func (.func 56) #[.pointer (some ⟨w.heap.size, 0, none⟩)] #[]] ty)) fun x w' => x = .returned (.int .i64 (dnE N M root high)) ∧ Wi w w' p b N M w.heap.size u) ∧
    (dnE N M root high = 0 → u.fr = root ∧ u.at_ = high ∧ u.t = sC N M root high 2) := by
  obtain ⟨he, hok⟩ := take_run N M root high
  refine ⟨(stTake N M (wk 0 0 root high)).1, fun ty => ?_, hok⟩
  have h1 : Wi w (w.alloc (.cells #[.pointer (some ⟨p, 0, none⟩), .int .i64 0, .int .i64 0, .int .i64 root, .int .i64 high, .int .i64 0, .int .i64 0, .int .i64 0, .bool false, .int .i64 0, .int .i64 0, .int .i64 0, .int .i64 0, .int .i64 0, .int .i64 0, .int .i64 0] 84)) p b N M w.heap.size (wk 0 0 root high) := wi_new h 0 0 root high (by omega)
  have hz : (w.alloc (.cells #[.pointer (some ⟨p, 0, none⟩), .int .i64 0, .int .i64 0, .int .i64 root, .int .i64 high, .int .i64 0, .int .i64 0, .int .i64 0, .bool false, .int .i64 0, .int .i64 0, .int .i64 0, .int .i64 0, .int .i64 0, .int .i64 0, .int .i64 0] 84)).heap.size = w.heap.size + 1 := by simp
  have := follow_gen (fun s w' => Wi w w' p b N M w.heap.size s ∧ But w.heap.size (w.alloc (.cells #[.pointer (some ⟨p, 0, none⟩), .int .i64 0, .int .i64 0, .int .i64 root, .int .i64 high, .int .i64 0, .int .i64 0, .int .i64 0, .bool false, .int .i64 0, .int .i64 0, .int .i64 0, .int .i64 0, .int .i64 0, .int .i64 0, .int .i64 0] 84)) w') (w.alloc (.cells #[.pointer (some ⟨p, 0, none⟩), .int .i64 0, .int .i64 0, .int .i64 root, .int .i64 high, .int .i64 0, .int .i64 0, .int .i64 0, .bool false, .int .i64 0, .int .i64 0, .int .i64 0, .int .i64 0, .int .i64 0, .int .i64 0, .int .i64 0] 84)) (wk 0 0 root high)
    [(51, .pointer (some ⟨w.heap.size, 0, none⟩), stIn N M 0), (53, .pointer (some ⟨w.heap.size, 0, none⟩), stRead N M), (56, .pointer (some ⟨w.heap.size, 0, none⟩), stLeaf)] 3 ty _ rfl (by decide) rfl
    (fun o => ⟨h1.on (bal (Below.refl _ _) o), But.of_below _ (bal (Below.refl _ _) o)⟩)
    ⟨good_one h1 (fun _ _ => by kernel_rfl) fun _ _ hw => inRoot_any hw, good_one h1 (fun _ _ => by kernel_rfl) fun _ _ hw => read_any hw, good_one h1 (fun _ _ => by kernel_rfl) fun _ _ hw => hasLeaf_but hw, trivial⟩
  rw [hz] at this
  refine this.mono ?_
  rintro x w' ⟨rfl, h4⟩
  exact ⟨by rw [← he]; rfl, h4.1⟩
theorem de_eq {N : Nat} {M : Nat → Nat → Int} {root high now floor : Int} (hs : okS high = true) (ht : tiB now = true) : deE N M root high now floor = if dnE N M root high = 0 then seE N M (sC N M root high 2) floor else dnE N M root high := by
  unfold deE dnE seE
  rw [if_pos ⟨hs, ht⟩]
  by_cases h1 : tbB N M root 0 = true
  · by_cases h2 : sE N M root high = 0
    · by_cases h3 : sC N M root high 0 = 3
      · simp [h1, h2, h3]
      · simp [h1, h2, h3]
    · simp [h1, h2]
  · simp [h1]
theorem de_put {N : Nat} {M : Nat → Nat → Int} {root high now : Int} (ht : tiB now = true) (h : dnE N M root high = 0) : pE N root high 1 0 0 0 0 now = 0 := by
  unfold dnE at h
  by_cases h1 : tbB N M root 0 = true
  · rw [if_pos h1] at h
    by_cases h2 : sE N M root high = 0
    · exact pE_yes (okF_of_sE h2).1 (rt_quiet ht) (okF_of_sE h2).2
    · rw [if_neg h2] at h; exact absurd h h2
  · rw [if_neg h1] at h; cases h
set_option maxRecDepth 100000 in
set_option maxHeartbeats 1000000 in
theorem decons_any (p b N : Nat) (root high now floor : Int) (M : Nat → Nat → Int) (w : World) (h : Mx w p b N M) : Calls Tryz.prog 22 #[.pointer (some ⟨p, 0, none⟩), .int .i64 root, .int .i64 high, .int .i64 now, .int .i64 floor] w fun x w' => x = .returned (.tuple #[.int .i64 (deF N M root high now floor), .int .i64 (deE N M root high now floor)]) ∧ Mx w' p b N (deM N M root high now floor) ∧ But b w w' := by
  have HM : Hid (Mx w p b N M) := h
  have hmf : ∀ (fn : Fn) (first cap : Array Value) (w : World), (Instr.makeFunc fn first cap).run Tryz.prog w = .ok (.func fn first cap) w := fun _ _ _ _ => rfl
  have f2 : deM N M root high now floor = if deE N M root high now floor = 0 then pM N M root high 1 0 0 0 0 now else M := rfl
  have f3 : deF N M root high now floor = if deE N M root high now floor = 0 then sC N M root high 2 else 0 := rfl
  rw [f2, f3]
  clear f2 f3
  cases hs : okS high
  case false =>
    have e1 : deE N M root high now floor = 1 := by simp [deE, hs]
    rw [e1, if_neg (by decide), if_neg (by decide)]
    clear h e1
    go_enter Tryz.func22, Tryz.ntmps22
    go_wp2_with (first
      | (go_at_call 50; refine (isSlot_any high _).mono ?_; rintro e1 w1 ⟨rfl, hw⟩; subst w1; rw [hs])
      | fail)
    go_ret2
    exact ⟨rfl, HM.out, But.refl _ _⟩
  cases ht : tiB now
  case false =>
    have e1 : deE N M root high now floor = 1 := by simp [deE, ht]
    rw [e1, if_neg (by decide), if_neg (by decide)]
    clear h e1
    go_enter Tryz.func22, Tryz.ntmps22
    go_wp2_with (first
      | (go_at_call 50; refine (isSlot_any high _).mono ?_; rintro e1 w1 ⟨rfl, hw⟩; subst w1; rw [hs])
      | (go_at_call 44; refine (isTime_any now _).mono ?_; rintro e1 w1 ⟨rfl, hw⟩; subst w1; rw [ht])
      | fail)
    go_ret2
    exact ⟨rfl, HM.out, But.refl _ _⟩
  rw [de_eq hs ht]
  obtain ⟨u, hL, hok⟩ := take_laid h root high
  have hput : dnE N M root high = 0 → pE N root high 1 0 0 0 0 now = 0 := fun hh => de_put ht hh
  clear h
  by_cases hE : dnE N M root high = 0
  case neg =>
    rw [if_neg hE]
    rw [if_neg hE, if_neg hE]
    have HL := hide hL
    clear hL hok hput
    generalize dnE N M root high = E at HL hE ⊢
    have hE' : (E != 0) = true := by simp [hE]
    go_enter Tryz.func22, Tryz.ntmps22
    go_wp2_with (first
      | (go_at_call 50; refine (isSlot_any high _).mono ?_; rintro e1 w1 ⟨rfl, hw⟩; subst w1; rw [hs])
      | (go_at_call 44; refine (isTime_any now _).mono ?_; rintro e1 w1 ⟨rfl, hw⟩; subst w1; rw [ht])
      | (go_at_call 45; refine (HL.out _).mono ?_; rintro e2 w2 ⟨rfl, hb⟩; have H2 : Hid (Wi w w2 p b N M w.heap.size u) := hb; clear hb HL)
      | fail)
    go_ret2
    exact ⟨rfl, H2.out.mx, But.of_below b H2.out.below⟩
  rw [if_pos hE]
  rw [hE] at hL
  have HL := hide hL
  have HU := hide (hok hE)
  have HP := hide (hput hE)
  have ut := (hok hE).2.2
  clear hL hok hput hE
  rw [← ut]
  clear ut
  by_cases hS : seE N M u.t floor = 0
  case neg =>
    rw [if_neg hS, if_neg hS]
    generalize hSE : seE N M u.t floor = E at hS ⊢
    have HSE := hide hSE
    have hE' : (E != 0) = true := by simp [hS]
    clear hSE HU HP
    go_enter Tryz.func22, Tryz.ntmps22
    go_wp2_with (first
      | (go_at_call 50; refine (isSlot_any high _).mono ?_; rintro e1 w1 ⟨rfl, hw⟩; subst w1; rw [hs])
      | (go_at_call 44; refine (isTime_any now _).mono ?_; rintro e1 w1 ⟨rfl, hw⟩; subst w1; rw [ht])
      | (go_at_call 45; refine (HL.out _).mono ?_; rintro e2 w2 ⟨rfl, hb⟩; have H2 : Hid (Wi w w2 p b N M w.heap.size u) := hb; clear hb HL; have c12 := H2.out.c12)
      | (go_at_call 57; refine (settled_any p b N u.t floor M _ H2.out.mx).mono ?_; rintro e3 w3 ⟨rfl, hb⟩; rw [HSE.out]; have H3 : Hid (Below w.heap.size w w3) := H2.out.below.trans (hb.mono H2.out.below.size); clear hb c12)
      | fail)
    go_ret2
    exact ⟨rfl, HM.out.on H3.out, But.of_below b H3.out⟩
  rw [if_pos hS, if_pos hS, hS]
  have HSE := hide hS
  clear hS
  go_enter Tryz.func22, Tryz.ntmps22
  go_wp2_with (first
    | (go_at_call 50; refine (isSlot_any high _).mono ?_; rintro e1 w1 ⟨rfl, hw⟩; subst w1; rw [hs])
    | (go_at_call 44; refine (isTime_any now _).mono ?_; rintro e1 w1 ⟨rfl, hw⟩; subst w1; rw [ht])
    | (go_at_call 45; refine (HL.out _).mono ?_; rintro e2 w2 ⟨rfl, hb⟩; have H2 : Hid (Wi w w2 p b N M w.heap.size u) := hb; clear hb HL; have c12 := H2.out.c12)
    | (go_at_call 57; refine (settled_any p b N u.t floor M _ H2.out.mx).mono ?_; rintro e3 w3 ⟨rfl, hb⟩; rw [HSE.out]; have H3 : Hid (Wi w w3 p b N M w.heap.size u) := H2.out.on hb; clear hb c12)
    | (go_at_call 48; refine (was_any now _).mono ?_; rintro e4 w4 ⟨rfl, hb⟩; have H4 : Hid (Wi w w4 p b N M w.heap.size u) := H3.out.on hb; clear hb)
    | (go_at_call 38; refine (wput_any 1 0 0 0 0 now H4.out).mono ?_; rintro e5 w5 ⟨rfl, hm, hb⟩; rw [HU.out.1, HU.out.2.1] at hm ⊢; rw [HP.out]; have H5 : Hid (Mx w5 p b N (pM N M root high 1 0 0 0 0 now) ∧ But b w4 w5) := ⟨hm, hb⟩; clear hm hb)
    | fail)
  go_ret2
  exact ⟨rfl, H5.out.1, (But.of_below b H4.out.below).trans H5.out.2⟩

/-! ### Drop -/
def dgE (N : Nat) (M : Nat → Nat → Int) (root a : Int) : Int := if lkE N M root a = 0 then if lfZ N M root a = true then 6 else 0 else lkE N M root a
theorem drop_laid {w : World} {p b N : Nat} {M : Nat → Nat → Int} {root a : Int} (h : Mx w p b N M) (ha : -9223372036854775808 ≤ a ∧ a ≤ 9223372036854775807) :
    ∃ u : Wk, (∀ ty, Calls Tryz.prog 45 #[.slice (some ⟨w.heap.size + 2, 0, none⟩) 2 2] (((w.alloc (.cells #[.int .i64 0, .int .i64 0, .int .i64 0, .int .i64 0, .int .i64 0, .int .i64 0] 32)).alloc (.cells #[.pointer (some ⟨p, 0, none⟩), .int .i64 a, .int .i64 0, .int .i64 root, .int .i64 0, .int .i64 0, .int .i64 0, .int .i64 0, .bool false, .int .i64 0, .int .i64 0, .int .i64 0, .int .i64 0, .int .i64 0, .int .i64 0, .int .i64 0] 84)).alloc (.cells #[.func (.func 46) #[.pointer (some ⟨w.heap.size + 1, 0, none⟩)] #[], .func (.func 47) #[.pointer (some ⟨w.heap.size + 1, 0, none⟩)] #[]] ty)) fun x w' => x = .returned (.int .i64 (dgE N M root a)) ∧ LkI w w' p b N M u) ∧
      (dgE N M root a = 0 → (u.k = lkC N M root a 0 ∧ u.r = lkC N M root a 1 ∧ u.t = lkC N M root a 2 ∧ u.l = lkC N M root a 3 ∧ u.e = lkC N M root a 4 ∧ u.x = lkC N M root a 5) ∧ u.fr = lfF N M root a ∧ u.at_ = lfI N M root a) := by
  obtain ⟨he, hok⟩ := look_run N M (wk a 0 root 0)
  have hrun : (chain [(0, undef, stLook N M), (0, undef, stThaw)] (wk a 0 root 0)).2 = dgE N M root a ∧ (dgE N M root a = 0 → lkE N M root a = 0 ∧ (chain [(0, undef, stLook N M), (0, undef, stThaw)] (wk a 0 root 0)).1 = (stLook N M (wk a 0 root 0)).1) := by
    have he' : (stLook N M (wk a 0 root 0)).2 = lkE N M root a := he
    unfold dgE
    by_cases h0 : lkE N M root a = 0
    · have hz : (stLook N M (wk a 0 root 0)).1.hz = lfZ N M root a := (hok h0).2.2.2
      rw [if_pos h0]
      simp only [chain]
      rw [he', h0]
      simp only [if_true, stThaw, hz]
      cases lfZ N M root a <;> simp
    · rw [if_neg h0]
      simp only [chain]
      rw [he', if_neg h0]
      exact ⟨he', fun h => absurd h h0⟩
  refine ⟨(chain [(0, undef, stLook N M), (0, undef, stThaw)] (wk a 0 root 0)).1, fun ty => ?_, fun hd => ?_⟩
  · have h1 := (lk_new h a 0 root 0 ha).wi
    have hz : ((w.alloc (.cells #[.int .i64 0, .int .i64 0, .int .i64 0, .int .i64 0, .int .i64 0, .int .i64 0] 32)).alloc (.cells #[.pointer (some ⟨p, 0, none⟩), .int .i64 a, .int .i64 0, .int .i64 root, .int .i64 0, .int .i64 0, .int .i64 0, .int .i64 0, .bool false, .int .i64 0, .int .i64 0, .int .i64 0, .int .i64 0, .int .i64 0, .int .i64 0, .int .i64 0] 84)).heap.size = w.heap.size + 2 := by simp
    have := follow_gen (fun s w' => Wi (w.alloc (.cells #[.int .i64 0, .int .i64 0, .int .i64 0, .int .i64 0, .int .i64 0, .int .i64 0] 32)) w' p b N M (w.heap.size + 1) s ∧ But (w.heap.size + 1) ((w.alloc (.cells #[.int .i64 0, .int .i64 0, .int .i64 0, .int .i64 0, .int .i64 0, .int .i64 0] 32)).alloc (.cells #[.pointer (some ⟨p, 0, none⟩), .int .i64 a, .int .i64 0, .int .i64 root, .int .i64 0, .int .i64 0, .int .i64 0, .int .i64 0, .bool false, .int .i64 0, .int .i64 0, .int .i64 0, .int .i64 0, .int .i64 0, .int .i64 0, .int .i64 0] 84)) w') ((w.alloc (.cells #[.int .i64 0, .int .i64 0, .int .i64 0, .int .i64 0, .int .i64 0, .int .i64 0] 32)).alloc (.cells #[.pointer (some ⟨p, 0, none⟩), .int .i64 a, .int .i64 0, .int .i64 root, .int .i64 0, .int .i64 0, .int .i64 0, .int .i64 0, .bool false, .int .i64 0, .int .i64 0, .int .i64 0, .int .i64 0, .int .i64 0, .int .i64 0, .int .i64 0] 84)) (wk a 0 root 0)
      [(46, .pointer (some ⟨w.heap.size + 1, 0, none⟩), stLook N M), (47, .pointer (some ⟨w.heap.size + 1, 0, none⟩), stThaw)] 2 ty _ rfl (by decide) rfl
      (fun o => ⟨h1.on (bal (Below.refl _ _) o), But.of_below _ (bal (Below.refl _ _) o)⟩)
      ⟨good_one h1 (fun _ _ => by kernel_rfl) fun _ _ hw => look_any hw, good_one h1 (fun _ _ => by kernel_rfl) fun _ _ hw => thawed_any hw, trivial⟩
    rw [hz] at this
    refine this.mono ?_
    rintro x w' ⟨rfl, h4⟩
    exact ⟨by rw [← hrun.1]; rfl, ⟨h4.1⟩⟩
  · obtain ⟨h0, h1⟩ := hrun.2 hd
    rw [h1]
    exact ⟨(hok h0).1, (hok h0).2.1, (hok h0).2.2.1⟩
end Go.Proofs.YtgcaodfcodalfaaGreatDoor.Pcaptbl
