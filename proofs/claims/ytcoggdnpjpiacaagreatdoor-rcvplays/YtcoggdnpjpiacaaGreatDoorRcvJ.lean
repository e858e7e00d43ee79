/- One act of RcvPlays, over the program's contracts (written by mk_plays.py). -/
import Derived.Test.YtcoggdnpjpiacaaGreatDoorRcvP
import Derived.Test.YtcoggdnpjpiacaaGreatDoorRcvT
import Derived.Test.YtcoggdnpjpiacaaGreatDoorBunMem
import Derived.Deep.RegionHeld3
namespace Go.Proofs.YtcoggdnpjpiacaaGreatDoor.Prcv
open Go.Proofs.YtcoggdnpjpiacaaGreatDoor.Pbase Go.Proofs.YtcoggdnpjpiacaaGreatDoor.Pfield Go.Proofs.YtcoggdnpjpiacaaGreatDoor.Play Go.Proofs.YtcoggdnpjpiacaaGreatDoor.Pmem Go.Proofs.YtcoggdnpjpiacaaGreatDoor.Pring
open Go.RowKit M
set_option linter.unusedVariables false

/-- Both memories, the endpoint and the event that were handed in. -/
structure Ab (w W : World) (M : Nat → Nat → Int) (A B : Nat) (r : Rv) (e : Ev) : Prop where
  both : Both w W 2 M
  xr : RowW W A r
  xe : RowE W B e
  na : w.heap.size < A
  nb : w.heap.size < B
structure Ah (w W : World) (M M' : Nat → Nat → Int) (A B : Nat) (r : Rv) (e : Ev) : Prop where
  half : Half w W 2 M M'
  xr : RowW W A r
  xe : RowE W B e
  na : w.heap.size < A
  nb : w.heap.size < B
section
variable {w W W' : World} {M M' : Nat → Nat → Int} {A B : Nat} {r : Rv} {e : Ev}
theorem ab_new (h : Both w W 2 M) (r : Rv) (e : Ev) : Ab w ((W.alloc (.cells #[.int .i64 r.th, .int .i64 r.pa, .int .i64 r.co, .bool r.wa, .int .i64 r.lo] 33)).alloc (.cells #[.int .i64 e.k, .int .i64 e.t] 35)) M W.heap.size (W.heap.size + 1) r e := by
  have b1 := bal (Below.refl W.heap.size W) (.cells #[.int .i64 r.th, .int .i64 r.pa, .int .i64 r.co, .bool r.wa, .int .i64 r.lo] 33)
  have b2 := bal (Below.refl (W.alloc (.cells #[.int .i64 r.th, .int .i64 r.pa, .int .i64 r.co, .bool r.wa, .int .i64 r.lo] 33)).heap.size (W.alloc (.cells #[.int .i64 r.th, .int .i64 r.pa, .int .i64 r.co, .bool r.wa, .int .i64 r.lo] 33))) (.cells #[.int .i64 e.k, .int .i64 e.t] 35)
  have r2 := rowE_new (W.alloc (.cells #[.int .i64 r.th, .int .i64 r.pa, .int .i64 r.co, .bool r.wa, .int .i64 r.lo] 33)) e
  rw [World.size_alloc] at r2
  have hl : w.heap.size + 1 < W.heap.size := h.mem.lt.1
  exact ⟨(h.grown b1).grown b2, (rowW_new W r).on b2, r2, by omega, by omega⟩
theorem Ab.on (h : Ab w W M A B r e) (hB : Below W.heap.size W W') : Ab w W' M A B r e := ⟨h.both.grown hB, h.xr.on hB, h.xe.on hB, h.na, h.nb⟩
theorem Ah.on (h : Ah w W M M' A B r e) (hB : Below W.heap.size W W') : Ah w W' M M' A B r e := ⟨h.half.grown hB, h.xr.on hB, h.xe.on hB, h.na, h.nb⟩
theorem Ab.pm (h : Ab w W M A B r e) (hm : MemIs W' (w.heap.size + 1) w.heap.size 2 M') (hB : But w.heap.size W W') : Ah w W' M M' A B r e := ⟨h.both.half hm hB, h.xr.but hB (Nat.ne_of_gt h.na), h.xe.but hB (Nat.ne_of_gt h.nb), h.na, h.nb⟩
theorem Ah.dm (h : Ah w W M M' A B r e) (k : Dh W W' (w.heap.size + 2) (w.heap.size + 2) 2 M') : Ab w W' M' A B r e := ⟨h.half.turn k.rx.ref k.below, h.xr.keep k.kp.t, h.xe.keep k.kp.t, h.na, h.nb⟩
end
set_option maxRecDepth 100000 in
set_option maxHeartbeats 8000000 in
theorem act_make (w wc : World) (f : Int) (r : Rv) (e : Ev) (M : Nat → Nat → Int) (HP : Hid (Prg 2 w)) (HF : Hid (Fit M)) (hr : Fv r) (he : Fe e) (hB : Both w wc 2 M) (p q : Nat) (hp : w.heap.size + 1 = p) (hq : w.heap.size + 2 = q) :
    Calls Tryz.prog 5 #[.pointer (some ⟨p, 0, none⟩), .pointer (some ⟨q, 0, none⟩), .int .i64 0, .int .i64 f, .agg #[.int .i64 r.th, .int .i64 r.pa, .int .i64 r.co, .bool r.wa, .int .i64 r.lo], .agg #[.int .i64 e.k, .int .i64 e.t]] wc fun x w' => x = .returned (.bool true) ∧ ∃ M', Fit M' ∧ Both w w' 2 M' := by
  have H0 := rhide (ab_new hB r e)
  obtain ⟨M1, hT⟩ : ∃ M1, M1 = vmM 2 M f r := ⟨_, rfl⟩
  obtain ⟨E, hE⟩ : ∃ E, E = vmE 2 f r := ⟨_, rfl⟩
  have HFT : Hid (Fit M1) := by rw [hT]; exact fit_vm HF.out 2 f r
  have HA : Hid (∀ A B wx, Ab w wx M A B r e → Calls Tryz.prog 16 #[.pointer (some ⟨p, 0, none⟩), .int .i64 f, .agg #[.int .i64 r.th, .int .i64 r.pa, .int .i64 r.co, .bool r.wa, .int .i64 r.lo]] wx fun x w' => x = .returned (.int .i64 E) ∧ Ah w w' M M1 A B r e) := fun A B wx h => by
    have := HP.out.make wx M f r hr h.both.mem HF.out h.both.below
    rw [hp, ← hE, ← hT] at this
    exact this.mono fun x w' ⟨h1, h2, h3⟩ => ⟨h1, h.pm (by rw [hp]; exact h2) h3⟩
  have HB : Hid (∀ A B wx, Ah w wx M M1 A B r e → Calls Tryz.prog 17 #[.pointer (some ⟨q, 0, none⟩), .int .i64 f, .agg #[.int .i64 r.th, .int .i64 r.pa, .int .i64 r.co, .bool r.wa, .int .i64 r.lo]] wx fun x w' => x = .returned (.int .i64 E) ∧ Ab w w' M1 A B r e) := fun A B wx h => by
    have := vmake_any (w.heap.size + 2) (w.heap.size + 2) 2 f r M wx ⟨h.half.ref, HF.out, by omega, by omega⟩
    rw [← hE, ← hT] at this
    rw [← hq]
    exact this.mono fun x w' ⟨h1, h2⟩ => ⟨h1, h.dm h2⟩
  have bE : (E == E) = true := by simp
  clear hT hE hB hr he hp hq HP HF
  go_enter Tryz.func5, Tryz.ntmps5
  go_upto_region 1 with fail
  generalize (wc.alloc _).alloc _ = v0 at H0 ⊢
  generalize wc.heap.size + 1 = B at H0 ⊢
  generalize wc.heap.size = A at H0 ⊢
  have x0 := H0.out.xr.c0
  have x1 := H0.out.xr.c1
  have x2 := H0.out.xr.c2
  have x3 := H0.out.xr.c3
  have x4 := H0.out.xr.c4
  go_upto_region 3 with fail
  go_region_held3 (fun w' => w'.cell? ⟨A, 0, none⟩ = some (.int .i64 r.th) ∧ w'.cell? ⟨A, 1, none⟩ = some (.int .i64 r.pa) ∧ w'.cell? ⟨A, 2, none⟩ = some (.int .i64 r.co) ∧ w'.cell? ⟨A, 3, none⟩ = some (.bool r.wa) ∧ w'.cell? ⟨A, 4, none⟩ = some (.int .i64 r.lo)) (first | (refine ⟨?_, ?_, ?_, ?_, ?_⟩ <;> with_reducible assumption) | go_keep)
  (first
    | (go_at_call 16; refine (HA.out _ _ _ (by first | exact H0.out | exact H0.out.on (Below.refl _ _).drew)).mono ?_; rintro x3 w3 ⟨rfl, h3⟩; have H3 := rhide h3; clear h3 x0 x1 x2 x3 x4 HA H0; have x0 := H3.out.xr.c0; have x1 := H3.out.xr.c1; have x2 := H3.out.xr.c2; have x3 := H3.out.xr.c3; have x4 := H3.out.xr.c4)
    | (go_at_call 17; refine (HB.out _ _ _ (by first | exact H3.out | exact H3.out.on (Below.refl _ _).drew)).mono ?_; rintro x4 w4 ⟨rfl, h4⟩; have H4 := rhide h4; clear h4 x0 x1 x2 x3 x4 HB H3; have x0 := H4.out.xr.c0; have x1 := H4.out.xr.c1; have x2 := H4.out.xr.c2; have x3 := H4.out.xr.c3; have x4 := H4.out.xr.c4)
    | fail)
  all_goals
    go_wp2
    go_ret
    first | exact ⟨rfl, M1, HFT.out, H4.out.both⟩ | exact ⟨rfl, M1, HFT.out, H4.out.both.grown (Below.refl _ _).drew⟩
set_option maxRecDepth 100000 in
set_option maxHeartbeats 8000000 in
theorem act_put (w wc : World) (f : Int) (r : Rv) (e : Ev) (M : Nat → Nat → Int) (HP : Hid (Prg 2 w)) (HF : Hid (Fit M)) (hr : Fv r) (he : Fe e) (hB : Both w wc 2 M) (p q : Nat) (hp : w.heap.size + 1 = p) (hq : w.heap.size + 2 = q) :
    Calls Tryz.prog 5 #[.pointer (some ⟨p, 0, none⟩), .pointer (some ⟨q, 0, none⟩), .int .i64 1, .int .i64 f, .agg #[.int .i64 r.th, .int .i64 r.pa, .int .i64 r.co, .bool r.wa, .int .i64 r.lo], .agg #[.int .i64 e.k, .int .i64 e.t]] wc fun x w' => x = .returned (.bool true) ∧ ∃ M', Fit M' ∧ Both w w' 2 M' := by
  have H0 := rhide (ab_new hB r e)
  obtain ⟨M1, hT⟩ : ∃ M1, M1 = vpM 2 M f r := ⟨_, rfl⟩
  obtain ⟨E, hE⟩ : ∃ E, E = vpE 2 M f r := ⟨_, rfl⟩
  have HFT : Hid (Fit M1) := by rw [hT]; exact fit_vp HF.out 2 f r
  have HA : Hid (∀ A B wx, Ab w wx M A B r e → Calls Tryz.prog 18 #[.pointer (some ⟨p, 0, none⟩), .int .i64 f, .agg #[.int .i64 r.th, .int .i64 r.pa, .int .i64 r.co, .bool r.wa, .int .i64 r.lo]] wx fun x w' => x = .returned (.int .i64 E) ∧ Ah w w' M M1 A B r e) := fun A B wx h => by
    have := HP.out.put wx M f r hr h.both.mem HF.out h.both.below
    rw [hp, ← hE, ← hT] at this
    exact this.mono fun x w' ⟨h1, h2, h3⟩ => ⟨h1, h.pm (by rw [hp]; exact h2) h3⟩
  have HB : Hid (∀ A B wx, Ah w wx M M1 A B r e → Calls Tryz.prog 19 #[.pointer (some ⟨q, 0, none⟩), .int .i64 f, .agg #[.int .i64 r.th, .int .i64 r.pa, .int .i64 r.co, .bool r.wa, .int .i64 r.lo]] wx fun x w' => x = .returned (.int .i64 E) ∧ Ab w w' M1 A B r e) := fun A B wx h => by
    have := vput_any (w.heap.size + 2) (w.heap.size + 2) 2 f r M wx ⟨h.half.ref, HF.out, by omega, by omega⟩
    rw [← hE, ← hT] at this
    rw [← hq]
    exact this.mono fun x w' ⟨h1, h2⟩ => ⟨h1, h.dm h2⟩
  have bE : (E == E) = true := by simp
  clear hT hE hB hr he hp hq HP HF
  go_enter Tryz.func5, Tryz.ntmps5
  go_upto_region 1 with fail
  generalize (wc.alloc _).alloc _ = v0 at H0 ⊢
  generalize wc.heap.size + 1 = B at H0 ⊢
  generalize wc.heap.size = A at H0 ⊢
  have x0 := H0.out.xr.c0
  have x1 := H0.out.xr.c1
  have x2 := H0.out.xr.c2
  have x3 := H0.out.xr.c3
  have x4 := H0.out.xr.c4
  go_upto_region 5 with fail
  go_region_held3 (fun w' => w'.cell? ⟨A, 0, none⟩ = some (.int .i64 r.th) ∧ w'.cell? ⟨A, 1, none⟩ = some (.int .i64 r.pa) ∧ w'.cell? ⟨A, 2, none⟩ = some (.int .i64 r.co) ∧ w'.cell? ⟨A, 3, none⟩ = some (.bool r.wa) ∧ w'.cell? ⟨A, 4, none⟩ = some (.int .i64 r.lo)) (first | (refine ⟨?_, ?_, ?_, ?_, ?_⟩ <;> with_reducible assumption) | go_keep)
  (first
    | (go_at_call 18; refine (HA.out _ _ _ (by first | exact H0.out | exact H0.out.on (Below.refl _ _).drew)).mono ?_; rintro x3 w3 ⟨rfl, h3⟩; have H3 := rhide h3; clear h3 x0 x1 x2 x3 x4 HA H0; have x0 := H3.out.xr.c0; have x1 := H3.out.xr.c1; have x2 := H3.out.xr.c2; have x3 := H3.out.xr.c3; have x4 := H3.out.xr.c4)
    | (go_at_call 19; refine (HB.out _ _ _ (by first | exact H3.out | exact H3.out.on (Below.refl _ _).drew)).mono ?_; rintro x4 w4 ⟨rfl, h4⟩; have H4 := rhide h4; clear h4 x0 x1 x2 x3 x4 HB H3; have x0 := H4.out.xr.c0; have x1 := H4.out.xr.c1; have x2 := H4.out.xr.c2; have x3 := H4.out.xr.c3; have x4 := H4.out.xr.c4)
    | fail)
  all_goals
    go_wp2
    go_ret
    first | exact ⟨rfl, M1, HFT.out, H4.out.both⟩ | exact ⟨rfl, M1, HFT.out, H4.out.both.grown (Below.refl _ _).drew⟩
set_option maxRecDepth 100000 in
set_option maxHeartbeats 8000000 in
theorem act_tell (w wc : World) (f : Int) (r : Rv) (e : Ev) (M : Nat → Nat → Int) (HP : Hid (Prg 2 w)) (HF : Hid (Fit M)) (hr : Fv r) (he : Fe e) (hB : Both w wc 2 M) (p q : Nat) (hp : w.heap.size + 1 = p) (hq : w.heap.size + 2 = q) :
    Calls Tryz.prog 5 #[.pointer (some ⟨p, 0, none⟩), .pointer (some ⟨q, 0, none⟩), .int .i64 2, .int .i64 f, .agg #[.int .i64 r.th, .int .i64 r.pa, .int .i64 r.co, .bool r.wa, .int .i64 r.lo], .agg #[.int .i64 e.k, .int .i64 e.t]] wc fun x w' => x = .returned (.bool true) ∧ ∃ M', Fit M' ∧ Both w w' 2 M' := by
  have H0 := rhide (ab_new hB r e)
  obtain ⟨M1, hT⟩ : ∃ M1, M1 = tlM 2 M f e := ⟨_, rfl⟩
  obtain ⟨E, hE⟩ : ∃ E, E = tlE 2 M f e := ⟨_, rfl⟩
  have HFT : Hid (Fit M1) := by rw [hT]; exact fit_tl HF.out 2 f e
  have HA : Hid (∀ A B wx, Ab w wx M A B r e → Calls Tryz.prog 20 #[.pointer (some ⟨p, 0, none⟩), .int .i64 f, .agg #[.int .i64 e.k, .int .i64 e.t]] wx fun x w' => x = .returned (.int .i64 E) ∧ Ah w w' M M1 A B r e) := fun A B wx h => by
    have := HP.out.tell wx M f e he h.both.mem HF.out h.both.below
    rw [hp, ← hE, ← hT] at this
    exact this.mono fun x w' ⟨h1, h2, h3⟩ => ⟨h1, h.pm (by rw [hp]; exact h2) h3⟩
  have HB : Hid (∀ A B wx, Ah w wx M M1 A B r e → Calls Tryz.prog 21 #[.pointer (some ⟨q, 0, none⟩), .int .i64 f, .agg #[.int .i64 e.k, .int .i64 e.t]] wx fun x w' => x = .returned (.int .i64 E) ∧ Ab w w' M1 A B r e) := fun A B wx h => by
    have := vtell_any (w.heap.size + 2) (w.heap.size + 2) 2 f e M wx ⟨h.half.ref, HF.out, by omega, by omega⟩
    rw [← hE, ← hT] at this
    rw [← hq]
    exact this.mono fun x w' ⟨h1, h2⟩ => ⟨h1, h.dm h2⟩
  have bE : (E == E) = true := by simp
  clear hT hE hB hr he hp hq HP HF
  go_enter Tryz.func5, Tryz.ntmps5
  go_upto_region 1 with fail
  generalize (wc.alloc _).alloc _ = v0 at H0 ⊢
  generalize wc.heap.size + 1 = B at H0 ⊢
  generalize wc.heap.size = A at H0 ⊢
  have y0 := H0.out.xe.c0
  have y1 := H0.out.xe.c1
  go_upto_region 7 with fail
  go_region_held3 (fun w' => w'.cell? ⟨B, 0, none⟩ = some (.int .i64 e.k) ∧ w'.cell? ⟨B, 1, none⟩ = some (.int .i64 e.t)) (first | (refine ⟨?_, ?_⟩ <;> with_reducible assumption) | go_keep)
  (first
    | (go_at_call 20; refine (HA.out _ _ _ (by first | exact H0.out | exact H0.out.on (Below.refl _ _).drew)).mono ?_; rintro x3 w3 ⟨rfl, h3⟩; have H3 := rhide h3; clear h3 y0 y1 HA H0; have y0 := H3.out.xe.c0; have y1 := H3.out.xe.c1)
    | (go_at_call 21; refine (HB.out _ _ _ (by first | exact H3.out | exact H3.out.on (Below.refl _ _).drew)).mono ?_; rintro x4 w4 ⟨rfl, h4⟩; have H4 := rhide h4; clear h4 y0 y1 HB H3; have y0 := H4.out.xe.c0; have y1 := H4.out.xe.c1)
    | fail)
  all_goals
    go_wp2
    go_ret
    first | exact ⟨rfl, M1, HFT.out, H4.out.both⟩ | exact ⟨rfl, M1, HFT.out, H4.out.both.grown (Below.refl _ _).drew⟩
set_option maxRecDepth 100000 in
set_option maxHeartbeats 8000000 in
theorem act_wait (w wc : World) (f : Int) (r : Rv) (e : Ev) (M : Nat → Nat → Int) (HP : Hid (Prg 2 w)) (HF : Hid (Fit M)) (hr : Fv r) (he : Fe e) (hB : Both w wc 2 M) (p q : Nat) (hp : w.heap.size + 1 = p) (hq : w.heap.size + 2 = q) :
    Calls Tryz.prog 5 #[.pointer (some ⟨p, 0, none⟩), .pointer (some ⟨q, 0, none⟩), .int .i64 5, .int .i64 f, .agg #[.int .i64 r.th, .int .i64 r.pa, .int .i64 r.co, .bool r.wa, .int .i64 r.lo], .agg #[.int .i64 e.k, .int .i64 e.t]] wc fun x w' => x = .returned (.bool true) ∧ ∃ M', Fit M' ∧ Both w w' 2 M' := by
  have H0 := rhide (ab_new hB r e)
  obtain ⟨M1, hT⟩ : ∃ M1, M1 = waM 2 M f r.wa := ⟨_, rfl⟩
  obtain ⟨E, hE⟩ : ∃ E, E = vgE 2 M f := ⟨_, rfl⟩
  have HFT : Hid (Fit M1) := by rw [hT]; exact fit_wa HF.out 2 f r.wa
  have HA : Hid (∀ A B wx, Ab w wx M A B r e → Calls Tryz.prog 26 #[.pointer (some ⟨p, 0, none⟩), .int .i64 f, .bool r.wa] wx fun x w' => x = .returned (.int .i64 E) ∧ Ah w w' M M1 A B r e) := fun A B wx h => by
    have := HP.out.wait wx M f r.wa h.both.mem HF.out h.both.below
    rw [hp, ← hE, ← hT] at this
    exact this.mono fun x w' ⟨h1, h2, h3⟩ => ⟨h1, h.pm (by rw [hp]; exact h2) h3⟩
  have HB : Hid (∀ A B wx, Ah w wx M M1 A B r e → Calls Tryz.prog 27 #[.pointer (some ⟨q, 0, none⟩), .int .i64 f, .bool r.wa] wx fun x w' => x = .returned (.int .i64 E) ∧ Ab w w' M1 A B r e) := fun A B wx h => by
    have := vwait_any (w.heap.size + 2) (w.heap.size + 2) 2 f r.wa M wx ⟨h.half.ref, HF.out, by omega, by omega⟩
    rw [← hE, ← hT] at this
    rw [← hq]
    exact this.mono fun x w' ⟨h1, h2⟩ => ⟨h1, h.dm h2⟩
  have bE : (E == E) = true := by simp
  clear hT hE hB hr he hp hq HP HF
  go_enter Tryz.func5, Tryz.ntmps5
  go_upto_region 1 with fail
  generalize (wc.alloc _).alloc _ = v0 at H0 ⊢
  generalize wc.heap.size + 1 = B at H0 ⊢
  generalize wc.heap.size = A at H0 ⊢
  have x3 := H0.out.xr.c3
  go_upto_region 16 with fail
  go_region_held3 (fun w' => w'.cell? ⟨A, 3, none⟩ = some (.bool r.wa)) (first | with_reducible assumption | go_keep)
  (first
    | (go_at_call 26; refine (HA.out _ _ _ (by first | exact H0.out | exact H0.out.on (Below.refl _ _).drew)).mono ?_; rintro x3 w3 ⟨rfl, h3⟩; have H3 := rhide h3; clear h3 x3 HA H0; have x3 := H3.out.xr.c3)
    | (go_at_call 27; refine (HB.out _ _ _ (by first | exact H3.out | exact H3.out.on (Below.refl _ _).drew)).mono ?_; rintro x4 w4 ⟨rfl, h4⟩; have H4 := rhide h4; clear h4 x3 HB H3; have x3 := H4.out.xr.c3)
    | fail)
  all_goals
    go_wp2
    go_ret
    first | exact ⟨rfl, M1, HFT.out, H4.out.both⟩ | exact ⟨rfl, M1, HFT.out, H4.out.both.grown (Below.refl _ _).drew⟩
set_option maxRecDepth 100000 in
set_option maxHeartbeats 4000000 in
theorem act_more (w wc : World) (f : Int) (r : Rv) (e : Ev) (M : Nat → Nat → Int) (HP : Hid (Prg 2 w)) (HF : Hid (Fit M)) (hB : Both w wc 2 M) (p q : Nat) (hp : w.heap.size + 1 = p) (hq : w.heap.size + 2 = q) :
    Calls Tryz.prog 5 #[.pointer (some ⟨p, 0, none⟩), .pointer (some ⟨q, 0, none⟩), .int .i64 3, .int .i64 f, .agg #[.int .i64 r.th, .int .i64 r.pa, .int .i64 r.co, .bool r.wa, .int .i64 r.lo], .agg #[.int .i64 e.k, .int .i64 e.t]] wc fun x w' => x = .returned (.bool true) ∧ ∃ M', Fit M' ∧ Both w w' 2 M' := by
  have H0 := rhide (ab_new hB r e)
  obtain ⟨M1, hT⟩ : ∃ M1, M1 = moM 2 M f := ⟨_, rfl⟩
  obtain ⟨X, hX⟩ : ∃ X, X = moB 2 M f := ⟨_, rfl⟩
  obtain ⟨E, hE⟩ : ∃ E, E = vgE 2 M f := ⟨_, rfl⟩
  have HFT : Hid (Fit M1) := by rw [hT]; exact fit_mo HF.out 2 f
  have HA : Hid (∀ A B wx, Ab w wx M A B r e → Calls Tryz.prog 22 #[.pointer (some ⟨p, 0, none⟩), .int .i64 f] wx fun x w' => x = .returned (.tuple #[.bool X, .int .i64 E]) ∧ Ah w w' M M1 A B r e) := fun A B wx h => by
    have := HP.out.more wx M f h.both.mem HF.out h.both.below
    rw [hp, ← hE, ← hT, ← hX] at this
    exact this.mono fun x w' ⟨h1, h2, h3⟩ => ⟨h1, h.pm (by rw [hp]; exact h2) h3⟩
  have HB : Hid (∀ A B wx, Ah w wx M M1 A B r e → Calls Tryz.prog 23 #[.pointer (some ⟨q, 0, none⟩), .int .i64 f] wx fun x w' => x = .returned (.tuple #[.bool X, .int .i64 E]) ∧ Ab w w' M1 A B r e) := fun A B wx h => by
    have := vmore_any (w.heap.size + 2) (w.heap.size + 2) 2 f M wx ⟨h.half.ref, HF.out, by omega, by omega⟩
    rw [← hE, ← hT, ← hX] at this
    rw [← hq]
    exact this.mono fun x w' ⟨h1, h2⟩ => ⟨h1, h.dm h2⟩
  have bE : (E == E) = true := by simp
  have bX : (X == X) = true := by simp
  clear hT hE hX hB hp hq HP HF
  go_enter Tryz.func5, Tryz.ntmps5
  go_upto_region 1 with fail
  generalize (wc.alloc _).alloc _ = v0 at H0 ⊢
  generalize wc.heap.size + 1 = B at H0 ⊢
  generalize wc.heap.size = A at H0 ⊢
  go_wp2_with (first
    | (go_at_call 22; refine (HA.out _ _ _ H0.out).mono ?_; rintro x3 w3 ⟨rfl, h3⟩; have H3 := rhide h3; clear h3 HA H0)
    | (go_at_call 23; refine (HB.out _ _ _ H3.out).mono ?_; rintro x4 w4 ⟨rfl, h4⟩; have H4 := rhide h4; clear h4 HB H3)
    | fail)
  go_ret
  exact ⟨rfl, M1, HFT.out, H4.out.both⟩
set_option maxRecDepth 100000 in
set_option maxHeartbeats 4000000 in
theorem act_less (w wc : World) (f : Int) (r : Rv) (e : Ev) (M : Nat → Nat → Int) (HP : Hid (Prg 2 w)) (HF : Hid (Fit M)) (hB : Both w wc 2 M) (p q : Nat) (hp : w.heap.size + 1 = p) (hq : w.heap.size + 2 = q) :
    Calls Tryz.prog 5 #[.pointer (some ⟨p, 0, none⟩), .pointer (some ⟨q, 0, none⟩), .int .i64 4, .int .i64 f, .agg #[.int .i64 r.th, .int .i64 r.pa, .int .i64 r.co, .bool r.wa, .int .i64 r.lo], .agg #[.int .i64 e.k, .int .i64 e.t]] wc fun x w' => x = .returned (.bool true) ∧ ∃ M', Fit M' ∧ Both w w' 2 M' := by
  have H0 := rhide (ab_new hB r e)
  obtain ⟨M1, hT⟩ : ∃ M1, M1 = leM 2 M f := ⟨_, rfl⟩
  obtain ⟨X, hX⟩ : ∃ X, X = leB 2 M f := ⟨_, rfl⟩
  obtain ⟨E, hE⟩ : ∃ E, E = vgE 2 M f := ⟨_, rfl⟩
  have HFT : Hid (Fit M1) := by rw [hT]; exact fit_le HF.out 2 f
  have HA : Hid (∀ A B wx, Ab w wx M A B r e → Calls Tryz.prog 24 #[.pointer (some ⟨p, 0, none⟩), .int .i64 f] wx fun x w' => x = .returned (.tuple #[.bool X, .int .i64 E]) ∧ Ah w w' M M1 A B r e) := fun A B wx h => by
    have := HP.out.less wx M f h.both.mem HF.out h.both.below
    rw [hp, ← hE, ← hT, ← hX] at this
    exact this.mono fun x w' ⟨h1, h2, h3⟩ => ⟨h1, h.pm (by rw [hp]; exact h2) h3⟩
  have HB : Hid (∀ A B wx, Ah w wx M M1 A B r e → Calls Tryz.prog 25 #[.pointer (some ⟨q, 0, none⟩), .int .i64 f] wx fun x w' => x = .returned (.tuple #[.bool X, .int .i64 E]) ∧ Ab w w' M1 A B r e) := fun A B wx h => by
    have := vless_any (w.heap.size + 2) (w.heap.size + 2) 2 f M wx ⟨h.half.ref, HF.out, by omega, by omega⟩
    rw [← hE, ← hT, ← hX] at this
    rw [← hq]
    exact this.mono fun x w' ⟨h1, h2⟩ => ⟨h1, h.dm h2⟩
  have bE : (E == E) = true := by simp
  have bX : (X == X) = true := by simp
  clear hT hE hX hB hp hq HP HF
  go_enter Tryz.func5, Tryz.ntmps5
  go_upto_region 1 with fail
  generalize (wc.alloc _).alloc _ = v0 at H0 ⊢
  generalize wc.heap.size + 1 = B at H0 ⊢
  generalize wc.heap.size = A at H0 ⊢
  go_wp2_with (first
    | (go_at_call 24; refine (HA.out _ _ _ H0.out).mono ?_; rintro x3 w3 ⟨rfl, h3⟩; have H3 := rhide h3; clear h3 HA H0)
    | (go_at_call 25; refine (HB.out _ _ _ H3.out).mono ?_; rintro x4 w4 ⟨rfl, h4⟩; have H4 := rhide h4; clear h4 HB H3)
    | fail)
  go_ret
  exact ⟨rfl, M1, HFT.out, H4.out.both⟩
theorem act_any (w wc : World) (n f : Int) (hn : n = 0 ∨ n = 1 ∨ n = 2 ∨ n = 3 ∨ n = 4 ∨ n = 5) (r : Rv) (e : Ev) (M : Nat → Nat → Int) (HP : Hid (Prg 2 w)) (HF : Hid (Fit M)) (hr : Fv r) (he : Fe e) (hB : Both w wc 2 M) (p q : Nat) (hp : w.heap.size + 1 = p) (hq : w.heap.size + 2 = q) :
    Calls Tryz.prog 5 #[.pointer (some ⟨p, 0, none⟩), .pointer (some ⟨q, 0, none⟩), .int .i64 n, .int .i64 f, .agg #[.int .i64 r.th, .int .i64 r.pa, .int .i64 r.co, .bool r.wa, .int .i64 r.lo], .agg #[.int .i64 e.k, .int .i64 e.t]] wc fun x w' => x = .returned (.bool true) ∧ ∃ M', Fit M' ∧ Both w w' 2 M' := by
  rcases hn with rfl | rfl | rfl | rfl | rfl | rfl
  · exact act_make w wc f r e M HP HF hr he hB p q hp hq
  · exact act_put w wc f r e M HP HF hr he hB p q hp hq
  · exact act_tell w wc f r e M HP HF hr he hB p q hp hq
  · exact act_more w wc f r e M HP HF hB p q hp hq
  · exact act_less w wc f r e M HP HF hB p q hp hq
  · exact act_wait w wc f r e M HP HF hr he hB p q hp hq
end Go.Proofs.YtcoggdnpjpiacaaGreatDoor.Prcv
