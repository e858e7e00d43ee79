/- A memory of two frames and budgets in blocks; the walk of TcapTwice over the program's contracts. -/
import Derived.Test.YtlnckhebikiclaaDoorTcpH
import Derived.Test.YtlnckhebikiclaaDoorTcpF
import Derived.Test.YtlnckhebikiclaaDoorBunMem
import Derived.Test.YtlnckhebikiclaaDoorBunBase
import Derived.Test.YtlnckhebikiclaaDoorTcpI
import Derived.Deep.CutBlock
import Derived.Deep.RegionHeld3
namespace Go.Proofs.YtlnckhebikiclaaDoor.Ptcap
open Go.Proofs.YtlnckhebikiclaaDoor.Pbase Go.Proofs.YtlnckhebikiclaaDoor.Pfield Go.Proofs.YtlnckhebikiclaaDoor.Play Go.Proofs.YtlnckhebikiclaaDoor.Pmem
open Go.RowKit M
set_option linter.unusedVariables false

/-- What the walks of TcapSum and TcapTwice ask of the program. -/
structure Pr2 (w : World) : Prop where
  make : ∀ wc p b M (f : Int) (c : Bd), Fb c → MemIs wc p b 2 M → Fit M → Below w.heap.size w wc → Calls Tryd.prog 7 #[.pointer (some ⟨p, 0, none⟩), .int .i64 f, .agg #[.bool c.inf, .int .i64 c.lf, .int .i64 c.pr]] wc fun e w' => e = .returned (.int .i64 (mkE 2 f c)) ∧ MemIs w' p b 2 (mkM 2 M f c) ∧ But b wc w'
  give : ∀ wc p b M (f g n q : Int), In64 n → In64 q → MemIs wc p b 2 M → Fit M → Below w.heap.size w wc → Calls Tryd.prog 11 #[.pointer (some ⟨p, 0, none⟩), .int .i64 f, .int .i64 g, .int .i64 n, .int .i64 q] wc fun e w' => e = .returned (.int .i64 (gvE 2 M f g n q)) ∧ MemIs w' p b 2 (gvM 2 M f g n q) ∧ But b wc w'
  charge : ∀ wc p b M (f n : Int), In64 n → MemIs wc p b 2 M → Fit M → Below w.heap.size w wc → Calls Tryd.prog 13 #[.pointer (some ⟨p, 0, none⟩), .int .i64 f, .int .i64 n] wc fun e w' => e = .returned (.tuple #[.bool (chB 2 M f n), .int .i64 (chE 2 M f n)]) ∧ MemIs w' p b 2 (chM 2 M f n) ∧ But b wc w'
  get : ∀ wc p b M (f : Int), MemIs wc p b 2 M → Fit M → Below w.heap.size w wc → Calls Tryd.prog 15 #[.pointer (some ⟨p, 0, none⟩), .int .i64 f] wc fun e w' => e = .returned (.tuple #[.agg #[.bool (gtT 2 M f).inf, .int .i64 (gtT 2 M f).lf, .int .i64 (gtT 2 M f).pr], .int .i64 (gtE 2 M f)]) ∧ Below wc.heap.size wc w'
  can : ∀ wc p b M (f : Int), MemIs wc p b 2 M → Fit M → Below w.heap.size w wc → Calls Tryd.prog 17 #[.pointer (some ⟨p, 0, none⟩), .int .i64 f] wc fun e w' => e = .returned (.bool (cnB 2 M f)) ∧ Below wc.heap.size wc w'
  sum : ∀ wc p b M, MemIs wc p b 2 M → Fit M → Below w.heap.size w wc → Calls Tryd.prog 19 #[.pointer (some ⟨p, 0, none⟩)] wc fun e w' => e = .returned (.int .i64 (smK 2 M 2)) ∧ Below wc.heap.size wc w'
  check : ∀ wc (c : Bd), Fb c → Below w.heap.size w wc → Calls Tryd.prog 21 #[.agg #[.bool c.inf, .int .i64 c.lf, .int .i64 c.pr]] wc fun e w' => e = .returned (.int .i64 (ckE c)) ∧ Below wc.heap.size wc w'
  awake : ∀ wc, Below w.heap.size w wc → Calls Tryd.prog 24 #[] wc fun e w' => e = .returned (.bool true) ∧ Below wc.heap.size wc w'
theorem rowB_mem {w : World} {p b N B : Nat} {M : Nat → Nat → Int} {x : Bd} (hM : MemIs w p b N M) (h1 : 1 ≤ N) (h : RowB w B x) : B ≠ b := by
  rintro rfl
  have hr := h.row
  rw [hM.row] at hr
  simp only [Option.some.injEq, Obj.cells.injEq] at hr
  have := congrArg Array.size hr.1
  rw [cellsM_size] at this
  simp at this
  omega
/-- A memory of two frames of the call's own, budgets in blocks beside it. -/
structure Tq (w W : World) (p b : Nat) (M : Nat → Nat → Int) (x : List (Nat × Bd)) : Prop where
  mem : MemIs W p b 2 M
  fit : Fit M
  bx : ∀ c ∈ x, RowB W c.1 c.2
  lb : w.heap.size ≤ b
  below : Below w.heap.size w W
section
variable {w W W' : World} {p b : Nat} {M M' : Nat → Nat → Int} {x : List (Nat × Bd)}
theorem Tq.on (h : Tq w W p b M x) (hB : Below W.heap.size W W') : Tq w W' p b M x :=
  ⟨h.mem.grown hB, h.fit, fun c hc => (h.bx c hc).on hB, h.lb, h.below.trans (hB.mono h.below.size)⟩
theorem Tq.pm (h : Tq w W p b M x) (hm : MemIs W' p b 2 M') (hF : Fit M') (hB : But b W W') : Tq w W' p b M' x :=
  ⟨hm, hF, fun c hc => (h.bx c hc).but hB (rowB_mem h.mem (by omega) (h.bx c hc)), h.lb, h.below.trans (hB.below h.lb h.below.size)⟩
theorem Tq.more (h : Tq w W p b M x) (y : Bd) : Tq w (W.alloc (.cells #[.bool y.inf, .int .i64 y.lf, .int .i64 y.pr] 33)) p b M ((W.heap.size, y) :: x) := by
  have h1 := h.on (bal (Below.refl W.heap.size W) (.cells #[.bool y.inf, .int .i64 y.lf, .int .i64 y.pr] 33))
  refine ⟨h1.mem, h1.fit, fun c hc => ?_, h1.lb, h1.below⟩
  rcases List.mem_cons.1 hc with rfl | hc
  · exact rowB_new W y
  · exact h1.bx c hc
theorem Tq.first {D : Nat} {y : Bd} (h : Tq w W p b M ((D, y) :: x)) : RowB W D y := h.bx _ (List.mem_cons_self ..)
theorem Tq.second {D : Nat} {c : Nat × Bd} {y : Bd} (h : Tq w W p b M (c :: (D, y) :: x)) : RowB W D y := h.bx _ (List.mem_cons_of_mem _ (List.mem_cons_self ..))
theorem Tq.third {D : Nat} {c c' : Nat × Bd} {y : Bd} (h : Tq w W p b M (c :: c' :: (D, y) :: x)) : RowB W D y := h.bx _ (List.mem_cons_of_mem _ (List.mem_cons_of_mem _ (List.mem_cons_self ..)))
end
theorem tq_one (w : World) (t : Bd) : Tq w (newW (w.alloc (.cells #[.bool t.inf, .int .i64 t.lf, .int .i64 t.pr] 33)) 2) (w.heap.size + 1 + 1) (w.heap.size + 1) (fun _ _ => 0) [(w.heap.size, t)] := by
  have hb := bal (Below.refl w.heap.size w) (.cells #[.bool t.inf, .int .i64 t.lf, .int .i64 t.pr] 33)
  have hm := newW_is (w.alloc (.cells #[.bool t.inf, .int .i64 t.lf, .int .i64 t.pr] 33)) 2
  have hn := newW_below (w.alloc (.cells #[.bool t.inf, .int .i64 t.lf, .int .i64 t.pr] 33)) 2
  simp only [World.size_alloc] at hm
  refine ⟨hm, Fit.zero, fun c hc => ?_, by omega, hb.trans (hn.mono hb.size)⟩
  simp only [List.mem_cons, List.not_mem_nil, or_false] at hc
  subst hc
  exact (rowB_new w t).on hn
theorem tq_two (w : World) (s t : Bd) : Tq w (newW ((w.alloc (.cells #[.bool s.inf, .int .i64 s.lf, .int .i64 s.pr] 33)).alloc (.cells #[.bool t.inf, .int .i64 t.lf, .int .i64 t.pr] 33)) 2) (w.heap.size + 1 + 1 + 1) (w.heap.size + 1 + 1) (fun _ _ => 0) [(w.heap.size, s), (w.heap.size + 1, t)] := by
  have hb := bal (bal (Below.refl w.heap.size w) (.cells #[.bool s.inf, .int .i64 s.lf, .int .i64 s.pr] 33)) (.cells #[.bool t.inf, .int .i64 t.lf, .int .i64 t.pr] 33)
  have hm := newW_is ((w.alloc (.cells #[.bool s.inf, .int .i64 s.lf, .int .i64 s.pr] 33)).alloc (.cells #[.bool t.inf, .int .i64 t.lf, .int .i64 t.pr] 33)) 2
  have hn := newW_below ((w.alloc (.cells #[.bool s.inf, .int .i64 s.lf, .int .i64 s.pr] 33)).alloc (.cells #[.bool t.inf, .int .i64 t.lf, .int .i64 t.pr] 33)) 2
  have r1 := (rowB_new w s).on (bal (Below.refl _ _) (.cells #[.bool t.inf, .int .i64 t.lf, .int .i64 t.pr] 33))
  have r2 := rowB_new (w.alloc (.cells #[.bool s.inf, .int .i64 s.lf, .int .i64 s.pr] 33)) t
  simp only [World.size_alloc] at hm r2
  refine ⟨hm, Fit.zero, fun c hc => ?_, by omega, hb.trans (hn.mono hb.size)⟩
  simp only [List.mem_cons, List.not_mem_nil, or_false] at hc
  rcases hc with rfl | rfl
  · exact r1.on hn
  · exact r2.on hn
set_option maxRecDepth 100000 in
set_option maxHeartbeats 4000000 in
theorem twice_no (t : Bd) (a b : Int) (w : World) (ht : Fb t) (HP : Hid (Pr2 w)) (hno : ¬ Bo t) :
    Calls Tryd.prog 5 #[.agg #[.bool t.inf, .int .i64 t.lf, .int .i64 t.pr], .int .u16 a, .int .u16 b] w fun e w' => e = .returned (.bool true) ∧ Below w.heap.size w w' := by
  have H0 := rhide (tq_one w t)
  obtain ⟨e1, e2⟩ := made_no (N := 2) (f := 0) hno
  have HMk : Hid (∀ wc p b x, Tq w wc p b (fun _ _ => 0) x → Calls Tryd.prog 7 #[.pointer (some ⟨p, 0, none⟩), .int .i64 0, .agg #[.bool t.inf, .int .i64 t.lf, .int .i64 t.pr]] wc fun e w' => e = .returned (.int .i64 1) ∧ Tq w w' p b (mkM 2 (fun _ _ => 0) 0 t) x) := fun wc p b x h => by
    have := HP.out.make wc p b _ 0 t ht h.mem h.fit h.below
    rw [e1] at this
    exact this.mono fun e w' ⟨q1, q2, q3⟩ => ⟨q1, h.pm q2 (fit_mk h.fit 2 0 t) q3⟩
  have HCk : Hid (∀ wc, Below w.heap.size w wc → Calls Tryd.prog 21 #[.agg #[.bool t.inf, .int .i64 t.lf, .int .i64 t.pr]] wc fun e w' => e = .returned (.int .i64 1) ∧ Below wc.heap.size wc w') := fun wc h => by
    have := HP.out.check wc t ht h
    rwa [e2] at this
  clear e1 e2 hno ht
  generalize mkM 2 (fun _ _ => 0) 0 t = M1 at HMk
  go_enter Tryd.func5, Tryd.ntmps5
  go_wp2_with (first
    | (go_at_call 25; refine (new_ok 2 _ (by omega) (by omega)).mono ?_; rintro r1 w1 ⟨rfl, hw⟩; rw [← hw] at H0; clear hw; have H1 := H0; clear H0; have x0 := H1.out.first.c0; have x1 := H1.out.first.c1; have x2 := H1.out.first.c2)
    | (go_at_call 7; refine (HMk.out _ _ _ _ H1.out).mono ?_; rintro r2 w2 ⟨rfl, hm⟩; have H2 := rhide hm; clear hm H1 HMk x0 x1 x2; have x0 := H2.out.first.c0; have x1 := H2.out.first.c1; have x2 := H2.out.first.c2)
    | (go_at_call 21; refine (HCk.out _ H2.out.below).mono ?_; rintro r3 w3 ⟨rfl, hb⟩; have H3 := rhide (H2.out.on hb); clear hb HCk H2)
    | (go_at_call 24; refine (HP.out.awake _ H3.out.below).mono ?_; rintro r6 w6 ⟨rfl, hb⟩; have H4 := rhide (H3.out.on hb); clear hb H3)
    | fail)
  go_ret
  exact ⟨rfl, H4.out.below⟩
set_option maxRecDepth 100000 in
set_option maxHeartbeats 4000000 in
theorem twice_walk (t : Bd) (a b : Int) (w : World) (ht : Fb t) (ha : 0 ≤ a ∧ a ≤ 65535) (hb : 0 ≤ b ∧ b ≤ 65535) (HP : Hid (Pr2 w)) :
    Calls Tryd.prog 5 #[.agg #[.bool t.inf, .int .i64 t.lf, .int .i64 t.pr], .int .u16 a, .int .u16 b] w fun e w' => e = .returned (.bool true) ∧ Below w.heap.size w w' := by
  by_cases hbo : Bo t
  case neg => exact twice_no t a b w ht HP hbo
  have H0 := rhide (tq_one w t)
  obtain ⟨e1, e2, h2⟩ := two_made (M := fun _ _ => 0) hbo hbo
  obtain ⟨c1, c2, c3, cb, cs⟩ := twice_all h2 (alk_made hbo) ha hb
  obtain ⟨M1, hM1⟩ : ∃ M1, M1 = mkM 2 (fun _ _ => 0) 0 t := ⟨_, rfl⟩
  obtain ⟨M2, hM2⟩ : ∃ M2, M2 = mkM 2 M1 1 t := ⟨_, rfl⟩
  obtain ⟨M3, hM3⟩ : ∃ M3, M3 = chM 2 M2 0 a := ⟨_, rfl⟩
  obtain ⟨M4, hM4⟩ : ∃ M4, M4 = chM 2 M3 0 b := ⟨_, rfl⟩
  obtain ⟨M5, hM5⟩ : ∃ M5, M5 = chM 2 M4 1 (a + b) := ⟨_, rfl⟩
  rw [← hM1, ← hM2] at c1 c2 c3 cb cs
  rw [← hM3] at c2 c3 cb cs
  rw [← hM4] at c3 cb cs
  rw [← hM5] at cs
  have i64 : ∀ {z : Int}, 0 ≤ z ∧ z ≤ 131070 → In64 z := fun h => by unfold In64; omega
  have HM0 : Hid (∀ wc p b x, Tq w wc p b (fun _ _ => 0) x → Calls Tryd.prog 7 #[.pointer (some ⟨p, 0, none⟩), .int .i64 0, .agg #[.bool t.inf, .int .i64 t.lf, .int .i64 t.pr]] wc fun e w' => e = .returned (.int .i64 0) ∧ Tq w w' p b M1 x) := fun wc p b x h => by
    have := HP.out.make wc p b _ 0 t ht h.mem h.fit h.below
    rw [e1, ← hM1] at this
    exact this.mono fun e w' ⟨q1, q2, q3⟩ => ⟨q1, h.pm q2 (by rw [hM1]; exact fit_mk h.fit 2 0 t) q3⟩
  have HMa : Hid (∀ wc p b x, Tq w wc p b M1 x → Calls Tryd.prog 7 #[.pointer (some ⟨p, 0, none⟩), .int .i64 1, .agg #[.bool t.inf, .int .i64 t.lf, .int .i64 t.pr]] wc fun e w' => e = .returned (.int .i64 0) ∧ Tq w w' p b M2 x) := fun wc p b x h => by
    have := HP.out.make wc p b _ 1 t ht h.mem h.fit h.below
    rw [e2, ← hM2] at this
    exact this.mono fun e w' ⟨q1, q2, q3⟩ => ⟨q1, h.pm q2 (by rw [hM2]; exact fit_mk h.fit 2 1 t) q3⟩
  obtain ⟨X, hX⟩ : ∃ X, X = chB 2 M3 0 b := ⟨_, rfl⟩
  obtain ⟨Z, hZ⟩ : ∃ Z, Z = chB 2 M2 0 a := ⟨_, rfl⟩
  have HC0 : Hid (∀ wc p q x, Tq w wc p q M2 x → Calls Tryd.prog 13 #[.pointer (some ⟨p, 0, none⟩), .int .i64 0, .int .i64 a] wc fun e w' => e = .returned (.tuple #[.bool Z, .int .i64 0]) ∧ Tq w w' p q M3 x) := fun wc p q x h => by
    have := HP.out.charge wc p q _ 0 a (i64 (by omega)) h.mem h.fit h.below
    rw [c1, ← hM3, ← hZ] at this
    exact this.mono fun e w' ⟨q1, q2, q3⟩ => ⟨q1, h.pm q2 (by rw [hM3]; exact fit_ch h.fit 2 0 a) q3⟩
  have HC1 : Hid (∀ wc p q x, Tq w wc p q M3 x → Calls Tryd.prog 13 #[.pointer (some ⟨p, 0, none⟩), .int .i64 0, .int .i64 b] wc fun e w' => e = .returned (.tuple #[.bool X, .int .i64 0]) ∧ Tq w w' p q M4 x) := fun wc p q x h => by
    have := HP.out.charge wc p q _ 0 b (i64 (by omega)) h.mem h.fit h.below
    rw [c2, ← hM4, ← hX] at this
    exact this.mono fun e w' ⟨q1, q2, q3⟩ => ⟨q1, h.pm q2 (by rw [hM4]; exact fit_ch h.fit 2 0 b) q3⟩
  have HC2 : Hid (∀ wc p q x, Tq w wc p q M4 x → Calls Tryd.prog 13 #[.pointer (some ⟨p, 0, none⟩), .int .i64 1, .int .i64 (a + b)] wc fun e w' => e = .returned (.tuple #[.bool X, .int .i64 0]) ∧ Tq w w' p q M5 x) := fun wc p q x h => by
    have := HP.out.charge wc p q _ 1 (a + b) (i64 (by omega)) h.mem h.fit h.below
    rw [c3, ← hM5, ← cb, ← hX] at this
    exact this.mono fun e w' ⟨q1, q2, q3⟩ => ⟨q1, h.pm q2 (by rw [hM5]; exact fit_ch h.fit 2 1 (a + b)) q3⟩
  have HSm : Hid (∀ wc p q x, Tq w wc p q M5 x → Calls Tryd.prog 26 #[.pointer (some ⟨p, 0, none⟩), .int .i64 0, .int .i64 1] wc fun e w' => e = .returned (.bool true) ∧ Tq w w' p q M5 x) := fun wc p q x h => by
    have := same_any p q 2 0 1 M5 wc (by omega) (by omega) h.mem
    rw [cs] at this
    exact this.mono fun e w' ⟨q1, n, q2⟩ => ⟨q1, by rw [q2]; exact h.on (below_drewNM (Below.refl _ _) n)⟩
  have bX : (X == X) = true := by simp
  have wa : IntKind.i64.wrap a = a := wrapi_small ha.1 (by omega)
  have wb : IntKind.i64.wrap b = b := wrapi_small hb.1 (by omega)
  have wab : wrap64 (a + b) = a + b := by unfold wrap64; omega
  clear hX hZ hM1 hM2 hM3 hM4 hM5 c1 c2 c3 cb cs e1 e2 h2 hbo ht
  go_enter Tryd.func5, Tryd.ntmps5
  go_wp2_with (first
    | (go_at_call 25; refine (new_ok 2 _ (by omega) (by omega)).mono ?_; rintro r1 w1 ⟨rfl, hw⟩; rw [← hw] at H0; clear hw; have H1 := H0; clear H0; have x0 := H1.out.first.c0; have x1 := H1.out.first.c1; have x2 := H1.out.first.c2)
    | (go_at_call 7; refine (HM0.out _ _ _ _ H1.out).mono ?_; rintro r2 w2 ⟨rfl, hm⟩; have H2 := rhide hm; clear hm H1 HM0 x0 x1 x2; have x0 := H2.out.first.c0; have x1 := H2.out.first.c1; have x2 := H2.out.first.c2)
    | (go_at_call 7; refine (HMa.out _ _ _ _ H2.out).mono ?_; rintro r3 w3 ⟨rfl, hm⟩; have H3 := rhide hm; clear hm H2 HMa x0 x1 x2)
    | (go_at_call 13; refine (HC0.out _ _ _ _ H3.out).mono ?_; rintro r4 w4 ⟨rfl, hm⟩; have H4 := rhide hm; clear hm H3 HC0)
    | (go_at_call 13; refine (HC1.out _ _ _ _ H4.out).mono ?_; rintro r5 w5 ⟨rfl, hm⟩; have H5 := rhide hm; clear hm H4 HC1)
    | (go_at_call 13; refine (HC2.out _ _ _ _ H5.out).mono ?_; rintro r6 w6 ⟨rfl, hm⟩; have H6 := rhide hm; clear hm H5 HC2)
    | (go_at_call 26; refine (HSm.out _ _ _ _ H6.out).mono ?_; rintro r7 w7 ⟨rfl, hm⟩; have H7 := rhide hm; clear hm H6 HSm)
    | (go_at_call 24; refine (HP.out.awake _ H7.out.below).mono ?_; rintro r8 w8 ⟨rfl, hb⟩; have H8 := rhide (H7.out.on hb); clear hb H7)
    | fail)
  go_ret
  exact ⟨rfl, H8.out.below⟩
end Go.Proofs.YtlnckhebikiclaaDoor.Ptcap
