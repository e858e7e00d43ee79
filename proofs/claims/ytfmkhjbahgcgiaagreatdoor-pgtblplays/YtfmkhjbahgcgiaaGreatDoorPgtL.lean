/- A memory made anew; a memory of the call's own, and mappings in blocks beside it; what 'awake' and 'walked' of the statements answer. -/
import Derived.Test.YtfmkhjbahgcgiaaGreatDoorPgtD
import Derived.Test.YtfmkhjbahgcgiaaGreatDoorPgtU
import Derived.Test.YtfmkhjbahgcgiaaGreatDoorPgtK
namespace Go.Proofs.YtfmkhjbahgcgiaaGreatDoor.Ppgtbl
open Go.Proofs.YtfmkhjbahgcgiaaGreatDoor.Pbase Go.Proofs.YtfmkhjbahgcgiaaGreatDoor.Pmem Go.Proofs.YtfmkhjbahgcgiaaGreatDoor.Pradix
open Go.RowKit
set_option linter.unusedVariables false

theorem mx_new {w : World} (h : Tb w) {N : Nat} (h1 : 1 ≤ N) (h2 : N ≤ 64) : Mx (newW w N) (w.heap.size + 1) w.heap.size N fun _ _ => 0 :=
  ⟨newW_is w N, h.on (newW_below w N), Fit.zero, h1, h2⟩
theorem two_eq (N : Nat) : Phead.mkM N (Phead.mkM N (fun _ _ => 0) 0 2 0 false 0) 1 2 1 false 0 = twoM N := rfl
/-- A memory of the call's own. -/
structure Own (w0 w : World) (p b N : Nat) (M : Nat → Nat → Int) : Prop where
  mx : Mx w p b N M
  below : Below w0.heap.size w0 w
  lo : w0.heap.size ≤ b
theorem Own.on {w0 w w' : World} {p b N : Nat} {M : Nat → Nat → Int} (h : Own w0 w p b N M) (hB : Below w.heap.size w w') : Own w0 w' p b N M := ⟨h.mx.on hB, h.below.trans (hB.mono h.below.size), h.lo⟩
theorem Own.but {w0 w w' : World} {p b N : Nat} {M M' : Nat → Nat → Int} (h : Own w0 w p b N M) (hm : Mx w' p b N M') (hB : But b w w') : Own w0 w' p b N M' := ⟨hm, h.below.trans (hB.below h.lo h.below.size), h.lo⟩
theorem own_new {w : World} (h : Tb w) {N : Nat} (h1 : 1 ≤ N) (h2 : N ≤ 64) : Own w (newW w N) (w.heap.size + 1) w.heap.size N fun _ _ => 0 := ⟨mx_new h h1 h2, newW_below w N, Nat.le_refl _⟩
/-! ### mappings in blocks -/
def P4 : Type := Bool × Int × Int × Int
def Bx (w : World) (D : Nat) (x : P4) : Prop := Ppte.BoxP w D x.1 x.2.1 x.2.2.1 x.2.2.2
theorem boxP_but {w w' : World} {B q : Nat} {o : Bool} {f r t : Int} (h : Ppte.BoxP w B o f r t) (hB : But q w w') (hn : B ≠ q) : Ppte.BoxP w' B o f r t :=
  ⟨Nat.lt_of_lt_of_le h.lt hB.size, (hB.cell h.lt hn).trans h.c0, (hB.cell h.lt hn).trans h.c1, (hB.cell h.lt hn).trans h.c2, (hB.cell h.lt hn).trans h.c3, fun j => (hB.frozen h.lt hn).trans (h.fz j)⟩
/-- A memory of the call's own, and mappings in blocks beside it. -/
structure Qs (w0 w : World) (p b N : Nat) (M : Nat → Nat → Int) (x : List (Nat × P4)) : Prop where
  own : Own w0 w p b N M
  bx : ∀ c ∈ x, Bx w c.1 c.2 ∧ c.1 ≠ b
section
variable {w0 w w' : World} {p b N : Nat} {M M' : Nat → Nat → Int} {x : List (Nat × P4)}
theorem qs_new (h : Own w0 w p b N M) : Qs w0 w p b N M [] := ⟨h, fun c hc => by cases hc⟩
theorem Qs.on (h : Qs w0 w p b N M x) (hB : Below w.heap.size w w') : Qs w0 w' p b N M x := ⟨h.own.on hB, fun c hc => ⟨(h.bx c hc).1.on hB, (h.bx c hc).2⟩⟩
theorem Qs.but (h : Qs w0 w p b N M x) (hm : Mx w' p b N M') (hB : But b w w') : Qs w0 w' p b N M' x := ⟨h.own.but hm hB, fun c hc => ⟨boxP_but (h.bx c hc).1 hB (h.bx c hc).2, (h.bx c hc).2⟩⟩
theorem Qs.more (h : Qs w0 w p b N M x) (o : Bool) (f r t : Int) (ty : TypeId) : Qs w0 (w.alloc (.cells #[.bool o, .int .i64 f, .int .i64 r, .int .i64 t] ty)) p b N M ((w.heap.size, (o, f, r, t)) :: x) := by
  refine ⟨h.own.on (bal (Below.refl _ _) _), fun c hc => ?_⟩
  rcases List.mem_cons.1 hc with rfl | hc
  · exact ⟨Ppte.boxP_new w o f r t ty, Nat.ne_of_gt h.own.mx.mem.lt.2⟩
  · exact ⟨(h.bx c hc).1.on (bal (Below.refl _ _) _), (h.bx c hc).2⟩
theorem Qs.first {D : Nat} {o : Bool} {f r t : Int} (h : Qs w0 w p b N M ((D, (o, f, r, t)) :: x)) : Ppte.BoxP w D o f r t := (h.bx _ (List.mem_cons_self ..)).1
theorem Qs.second {D : Nat} {c : Nat × P4} {o : Bool} {f r t : Int} (h : Qs w0 w p b N M (c :: (D, (o, f, r, t)) :: x)) : Ppte.BoxP w D o f r t := (h.bx _ (List.mem_cons_of_mem _ (List.mem_cons_self ..))).1
theorem Qs.third {D : Nat} {c c' : Nat × P4} {o : Bool} {f r t : Int} (h : Qs w0 w p b N M (c :: c' :: (D, (o, f, r, t)) :: x)) : Ppte.BoxP w D o f r t := (h.bx _ (List.mem_cons_of_mem _ (List.mem_cons_of_mem _ (List.mem_cons_self ..)))).1
end
/-! ### walked, awake -/
set_option maxRecDepth 100000 in
theorem walked_any (p b N : Nat) (M : Nat → Nat → Int) (w : World) (h : Mx w p b N M) (h1 : wkE N M 0 3 = 0) (h2 : wkF N M 0 3 = 7) : Calls Tryz.prog 30 #[.pointer (some ⟨p, 0, none⟩)] w fun x w' => x = .returned (.bool true) ∧ Below w.heap.size w w' := by
  have HL := hide (pwalk_any p b N 0 3 M w h)
  rw [h1, h2] at HL
  clear h h1 h2
  generalize wkO N M 0 3 = O at HL
  generalize wkR N M 0 3 = R at HL
  generalize wkT N M 0 3 = T at HL
  go_enter Tryz.func30, Tryz.ntmps30
  go_wp2_with (first
    | (go_at_call 12; refine HL.out.mono ?_; rintro e1 w1 ⟨rfl, hb⟩; have H1 : Hid (Below w.heap.size w w1) := hb; clear hb)
    | fail)
  go_ret
  exact ⟨rfl, bal H1.out _⟩
set_option maxRecDepth 100000 in
set_option maxHeartbeats 1000000 in
theorem awake_any (w : World) (h : Tb w) : Calls Tryz.prog 7 #[] w fun x w' => x = .returned (.bool true) ∧ Below w.heap.size w w' := by
  have H0 := hide (own_new h (N := 2) (by omega) (by omega))
  clear h
  have m0 : Phead.errP (2 : Nat) 0 2 0 false 0 = 0 := make_err (N := 2) (f := 0) (by omega) (.inl rfl)
  have m1 : Phead.errP (2 : Nat) 1 2 1 false 0 = 0 := make_err (N := 2) (f := 1) (by omega) (.inr rfl)
  obtain ⟨M3, h3⟩ : ∃ M3, M3 = coM 2 (twoM 2) 0 0 1 0 := ⟨_, rfl⟩
  obtain ⟨M4, h4⟩ : ∃ M4, M4 = maM 2 M3 0 3 7 1 0 := ⟨_, rfl⟩
  obtain ⟨e0, e1, e2, e3⟩ := awake_all h3 h4
  have E0 := hide e0
  have E1 := hide e1
  have E2 := hide e2
  have E3 := hide e3
  have E4 := hide h3
  have E5 := hide h4
  have E6 := hide m0
  have E7 := hide m1
  clear e0 e1 e2 e3 h3 h4 m0 m1
  go_enter Tryz.func7, Tryz.ntmps7
  go_wp2_with (first
    | (go_at_call 8; refine (new_ok 2 _ (by omega) (by omega)).mono ?_; rintro r1 w1 ⟨rfl, hw⟩; rw [← hw] at H0; clear hw; generalize w.heap.size + 1 = p at H0 ⊢; obtain ⟨b, hb⟩ : ∃ b, b = w.heap.size := ⟨_, rfl⟩; have H1 : Hid (Own w w1 p b 2 fun _ _ => 0) := (by rw [hb]; exact H0.out); clear H0 hb)
    | (go_at_call 18; refine (make_any p b 2 0 0 _ _ H1.out.mx).mono ?_; rintro r2 w2 ⟨rfl, hm, hb⟩; rw [E6.out]; have H2 := hide (H1.out.but hm hb); clear hm hb H1)
    | (go_at_call 18; refine (make_any p b 2 1 1 _ _ H2.out.mx).mono ?_; rintro r3 w3 ⟨rfl, hm, hb⟩; rw [E7.out]; rw [two_eq] at hm; have H3 := hide (H2.out.but hm hb); clear hm hb H2)
    | (go_at_call 24; refine (cons_any p b 2 0 0 1 0 _ _ H3.out.mx).mono ?_; rintro r4 w4 ⟨rfl, hm, hb⟩; rw [E0.out]; rw [← E4.out] at hm; have H4 := hide (H3.out.but hm hb); clear hm hb H3)
    | (go_at_call 20; refine (map_any p b 2 0 3 7 1 0 _ _ H4.out.mx).mono ?_; rintro r5 w5 ⟨rfl, hm, hb⟩; rw [E1.out]; rw [← E5.out] at hm; have H5 := hide (H4.out.but hm hb); clear hm hb H4)
    | (go_at_call 30; refine (walked_any p b 2 M4 _ H5.out.mx E2.out E3.out).mono ?_; rintro r6 w6 ⟨rfl, hb⟩; have H6 := hide (H5.out.on hb); clear hb)
    | fail)
  go_ret
  exact ⟨rfl, H6.out.below⟩
end Go.Proofs.YtfmkhjbahgcgiaaGreatDoor.Ppgtbl
