/- What Decons of package pgtbl answers and does, for every argument. -/
import Derived.Test.YtfmkhjbahgcgiaaGreatDoorPgtD
namespace Go.Proofs.YtfmkhjbahgcgiaaGreatDoor.Ppgtbl
open Go.Proofs.YtfmkhjbahgcgiaaGreatDoor.Pbase Go.Proofs.YtfmkhjbahgcgiaaGreatDoor.Pmem Go.Proofs.YtfmkhjbahgcgiaaGreatDoor.Pradix
open Go.RowKit
set_option linter.unusedVariables false

set_option maxRecDepth 100000 in
set_option maxHeartbeats 2000000 in
theorem decons_any (p b N : Nat) (root high now : Int) (M : Nat → Nat → Int) (w : World) (h : Mx w p b N M) :
    Calls Tryz.prog 26 #[.pointer (some ⟨p, 0, none⟩), .int .i64 root, .int .i64 high, .int .i64 now] w fun x w' => x = .returned (.tuple #[.int .i64 (deF N M root high now), .int .i64 (deE N M root high now)]) ∧ Mx w' p b N (deM N M root high now) ∧ But b w w' := by
  have H0 := hide (gw_new h)
  have HPL := hide h.mem.lt
  clear h
  have HI := hide (fun wc => isEntry_any high wc)
  have HT := hide (fun wc => isTime_any now wc)
  have eM : deM N M root high now = if deE N M root high now = 0 then seM N M root high false 0 0 now else M := rfl
  have eF : deF N M root high now = if deE N M root high now = 0 then enF N M root high else 0 := rfl
  by_cases hi : okI high = true
  case neg =>
    have e0 : deE N M root high now = 1 := by unfold deE; rw [if_neg (fun k => hi k.1)]
    rw [eM, eF, e0, if_neg (by decide), if_neg (by decide)]
    rw [show okI high = false by simpa using hi] at HI
    clear eM eF e0 hi HT
    go_enter Tryz.func26, Tryz.ntmps26
    go_wp2_with (first
      | (go_at_call 48; refine (HI.out _).mono ?_; rintro e1 w1 ⟨rfl, hw⟩; subst w1)
      | fail)
    go_ret2
    exact ⟨rfl, H0.out.same⟩
  rw [hi] at HI
  by_cases ht : tiB now = true
  case neg =>
    have e0 : deE N M root high now = 1 := by unfold deE; rw [if_neg (fun k => ht k.2)]
    rw [eM, eF, e0, if_neg (by decide), if_neg (by decide)]
    rw [show tiB now = false by simpa using ht] at HT
    clear eM eF e0 hi ht
    go_enter Tryz.func26, Tryz.ntmps26
    go_wp2_with (first
      | (go_at_call 48; refine (HI.out _).mono ?_; rintro e1 w1 ⟨rfl, hw⟩; subst w1)
      | (go_at_call 46; refine (HT.out _).mono ?_; rintro e2 w2 ⟨rfl, hw⟩; subst w2)
      | fail)
    go_ret2
    exact ⟨rfl, H0.out.same⟩
  rw [ht] at HT
  have hI := (okI_iff high).1 hi
  have HU : Hid (∀ wc, Mx wc p b N M → Calls Tryz.prog 49 #[.pointer (some ⟨p, 0, none⟩), .int .i64 root, .int .i64 0] wc fun x w' => x = .returned (.bool (tbB N M root 0)) ∧ Below wc.heap.size wc w') := fun wc hc => isTable_any p b N root 0 M wc hc
  have HR : Hid (∀ wc, Mx wc p b N M → Calls Tryz.prog 50 #[.pointer (some ⟨p, 0, none⟩), .int .i64 root, .int .i64 high] wc fun x w' => x = .returned (.tuple #[.agg #[.pointer (some ⟨p, 0, none⟩), .int .i64 root, .int .i64 (4 + high), .bool (enO N M root high), .int .i64 (enF N M root high), .int .i64 (enR N M root high), .int .i64 (enT N M root high)], .int .i64 (enE N M root high)]) ∧ Below wc.heap.size wc w') := fun wc hc => read_any p b N root high M wc hc hI
  have HP : Hid (∀ wc, Mx wc p b N M → Calls Tryz.prog 47 #[.agg #[.pointer (some ⟨p, 0, none⟩), .int .i64 root, .int .i64 (4 + high), .bool (enO N M root high), .int .i64 (enF N M root high), .int .i64 (enR N M root high), .int .i64 (enT N M root high)], .agg #[.bool false, .int .i64 0, .int .i64 0, .int .i64 now]] wc fun x w' => x = .returned (.int .i64 (seE N root high false 0 0 now)) ∧ Mx w' p b N (seM N M root high false 0 0 now) ∧ But b wc w') := fun wc hc => put_any p b N root high _ _ _ _ false 0 0 now M wc hc
  clear hI
  by_cases h4 : tbB N M root 0 = true
  case neg =>
    have e0 : deE N M root high now = 4 := by unfold deE; rw [if_pos ⟨hi, ht⟩, if_neg h4]
    rw [eM, eF, e0, if_neg (by decide), if_neg (by decide)]
    rw [show tbB N M root 0 = false by simpa using h4] at HU
    clear eM eF e0 hi ht h4 HR HP
    go_enter Tryz.func26, Tryz.ntmps26
    go_wp2_with (first
      | (go_at_call 48; refine (HI.out _).mono ?_; rintro e1 w1 ⟨rfl, hw⟩; subst w1)
      | (go_at_call 46; refine (HT.out _).mono ?_; rintro e2 w2 ⟨rfl, hw⟩; subst w2)
      | (go_at_call 49; refine (HU.out _ H0.out.mx).mono ?_; rintro e3 w3 ⟨rfl, hb⟩; have H3 := hide (H0.out.on hb); clear hb)
      | fail)
    go_ret2
    exact ⟨rfl, H3.out.same⟩
  rw [h4] at HU
  have HZ : Hid (deE N M root high now = 0 → seE N root high false 0 0 now = 0) := fun k => (de_set k).2.2
  have e1 : deE N M root high now = if enE N M root high = 0 then if enO N M root high = true then 0 else 3 else enE N M root high := by unfold deE; rw [if_pos ⟨hi, ht⟩, if_pos h4]
  generalize hX : deE N M root high now = X at eM eF e1 HZ ⊢
  generalize hY : deM N M root high now = M' at eM ⊢
  generalize hF : deF N M root high now = Y at eF ⊢
  generalize enO N M root high = O at HR HP e1
  generalize enF N M root high = G at HR HP eF
  generalize enR N M root high = R at HR HP
  generalize enT N M root high = T at HR HP
  generalize enE N M root high = E at HR e1
  generalize 4 + high = A at HR HP
  have HXX : Hid ((E ≠ 0 → X = E ∧ M' = M ∧ Y = 0) ∧ (E = 0 → O = false → X = 3 ∧ M' = M ∧ Y = 0) ∧ (E = 0 → O = true → X = 0 ∧ M' = seM N M root high false 0 0 now ∧ Y = G ∧ seE N root high false 0 0 now = 0)) := by
    refine ⟨fun h => ?_, fun h h' => ?_, fun h h' => ?_⟩
    · rw [if_neg h] at e1; subst e1; exact ⟨rfl, by rw [eM, if_neg h], by rw [eF, if_neg h]⟩
    · subst h'; rw [if_pos h] at e1; simp at e1; subst e1; exact ⟨rfl, by rw [eM]; rfl, by rw [eF]; rfl⟩
    · rw [if_pos h, if_pos h'] at e1; subst e1; exact ⟨rfl, by rw [eM]; rfl, by rw [eF]; rfl, HZ.out rfl⟩
  have hc : (E ≠ 0 ∧ (E != 0) = true) ∨ (E = 0 ∧ O = false) ∨ (E = 0 ∧ O = true) := by
    by_cases hE : E = 0
    · cases O <;> simp [hE]
    · simp [hE]
  clear eM eF e1 HZ hX hY hF hi ht h4
  go_enter Tryz.func26, Tryz.ntmps26
  go_upto_region 6 with (first
    | (go_at_call 48; refine (HI.out _).mono ?_; rintro e1 w1 ⟨rfl, hw⟩; subst w1)
    | (go_at_call 46; refine (HT.out _).mono ?_; rintro e2 w2 ⟨rfl, hw⟩; subst w2)
    | (go_at_call 49; refine (HU.out _ H0.out.mx).mono ?_; rintro e3 w3 ⟨rfl, hb⟩; have H3 := hide (H0.out.on hb); clear hb H0)
    | (go_at_call 50; refine (HR.out _ H3.out.mx).mono ?_; rintro e4 w4 ⟨rfl, hb⟩; have H4 := en_new (H3.out.on hb).mx (H3.out.on hb).below (some ⟨p, 0, none⟩) root A O G R T; have HDb : Hid (w4.heap.size ≠ b) := Nat.ne_of_gt (Nat.lt_of_lt_of_le HPL.out.2 (H3.out.on hb).below.size); clear hb)
    | fail)
  generalize w4.alloc _ = w5 at H4 ⊢
  generalize w4.heap.size = D at H4 HDb ⊢
  clear HR H3
  rcases hc with ⟨hE, hE'⟩ | ⟨rfl, rfl⟩ | ⟨rfl, rfl⟩
  · have HV := hide (HXX.out.1 hE)
    have H5 := hide H4
    clear H4 hE HXX
    go_wp2
    go_ret2
    rw [HV.out.1, HV.out.2.1, HV.out.2.2]
    exact ⟨rfl, H5.out.mx, But.of_below b H5.out.below⟩
  · have HV := hide (HXX.out.2.1 rfl rfl)
    have H5 := hide H4
    clear H4 HXX
    have y3 := H5.out.ent.c3
    go_wp2
    go_ret2
    rw [HV.out.1, HV.out.2.1, HV.out.2.2]
    exact ⟨rfl, H5.out.mx, But.of_below b H5.out.below⟩
  · have HV := hide (HXX.out.2.2 rfl rfl)
    have H5 := hide H4
    rw [HV.out.2.2.2] at HP
    clear H4 HXX
    have y3 := H5.out.ent.c3
    go_upto_region 10 with fail
    go_region_held3 (fun w' => w'.cell? ⟨D, 0, none⟩ = some (.pointer (some ⟨p, 0, none⟩)) ∧ w'.cell? ⟨D, 1, none⟩ = some (.int .i64 root) ∧ w'.cell? ⟨D, 2, none⟩ = some (.int .i64 A) ∧ w'.cell? ⟨D, 3, none⟩ = some (.bool true) ∧ w'.cell? ⟨D, 4, none⟩ = some (.int .i64 G) ∧ w'.cell? ⟨D, 5, none⟩ = some (.int .i64 R) ∧ w'.cell? ⟨D, 6, none⟩ = some (.int .i64 T)) (first | with_reducible exact ent_but H5.out.ent HB9.out HDb.out | with_reducible exact ent_but H5.out.ent (But.of_below b (Below.refl _ _).drew) HDb.out)
    (first
      | (go_at_call 47; refine (HP.out _ (by first | exact (H5.out.on (Below.refl _ _).drew).mx | exact H5.out.mx)).mono ?_; rintro e9 w9 ⟨rfl, hm9, hb9⟩; have HB9 : Hid (But b w5 w9) := (by first | exact hb9 | exact (But.of_below b (Below.refl _ _).drew).trans hb9); have H9 := hide (And.intro hm9 ((But.of_below b H5.out.below).trans HB9.out)); clear hm9 hb9)
      | fail)
    go_wp2
    go_ret2
    rw [HV.out.1, HV.out.2.1, HV.out.2.2.1]
    exact ⟨rfl, H9.out⟩
end Go.Proofs.YtfmkhjbahgcgiaaGreatDoor.Ppgtbl
