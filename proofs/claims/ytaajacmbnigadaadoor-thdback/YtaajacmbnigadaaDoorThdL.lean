/- The walk of ThdBack. -/
import Derived.Test.YtaajacmbnigadaaDoorThdK
import Derived.Test.YtaajacmbnigadaaDoorThdI
import Derived.Test.YtaajacmbnigadaaDoorBunRegs
import Derived.Test.YtaajacmbnigadaaDoorBunBase
namespace Go.Proofs.YtaajacmbnigadaaDoor.Pthd
open Go.Proofs.YtaajacmbnigadaaDoor.Pbase Go.Proofs.YtaajacmbnigadaaDoor.Pfield Go.Proofs.YtaajacmbnigadaaDoor.Play Go.Proofs.YtaajacmbnigadaaDoor.Pmem
open Go.RowKit M
set_option linter.unusedVariables false

theorem rowT_mem {w : World} {p b N B : Nat} {M : Nat → Nat → Int} {x : Th} (hM : MemIs w p b N M) (h1 : 1 ≤ N) (h : RowT w B x) : B ≠ b := by
  rintro rfl
  have hr := h.row
  rw [hM.row] at hr
  simp only [Option.some.injEq, Obj.cells.injEq] at hr
  have := congrArg Array.size hr.1
  rw [cellsM_size] at this
  simp at this
  omega
theorem rowT_file {w : World} {r B : Nat} {L : Nat → Int} {x : Th} (hr : Pregs.FileIs w r L) (h : RowT w B x) : B ≠ r := by
  rintro rfl
  have hr' := h.row
  unfold Pregs.FileIs at hr
  rw [hr] at hr'
  simp only [Option.some.injEq, Obj.cells.injEq] at hr'
  have := congrArg Array.size hr'.1
  rw [Pregs.cellsF_size] at this
  simp at this
theorem file_congr {w : World} {r : Nat} {L L' : Nat → Int} (h : Pregs.FileIs w r L) (he : ∀ j, j < 8 → L j = L' j) : Pregs.FileIs w r L' := by
  unfold Pregs.FileIs Pregs.cellsF at h ⊢
  rwa [Pregs.regL_congr he] at h
theorem file_tab {w w' : World} {r : Nat} {L : Nat → Int} (hT : Phead.TabW w) (hR : Pregs.FileIs w r L) (hB : But r w w') : Phead.TabW w' := hT.but hB (by
  intro e
  obtain ⟨t, fr, hr⟩ := hT.row
  unfold Pregs.FileIs at hR
  rw [e, hR] at hr
  simp only [Option.some.injEq, Obj.cells.injEq] at hr
  have := congrArg Array.size hr.1
  rw [Pregs.cellsF_size] at this
  simp at this)
/-- The memory, both files, threads in blocks. -/
structure Bk (w W : World) (p b r s : Nat) (M : Nat → Nat → Int) (R S : Nat → Int) (x : List (Nat × Th)) : Prop where
  mx : Mx W p b 1 M
  fr : Pregs.FileIs W r R
  fs : Pregs.FileIs W s S
  bx : ∀ c ∈ x, RowT W c.1 c.2
  ne : r ≠ s
  lb : w.heap.size ≤ b
  lr : w.heap.size ≤ r
  ls : w.heap.size ≤ s
  below : Below w.heap.size w W
section
variable {w W W' : World} {p b r s : Nat} {M M' : Nat → Nat → Int} {R S R' S' : Nat → Int} {x : List (Nat × Th)}
theorem Bk.on (h : Bk w W p b r s M R S x) (hB : Below W.heap.size W W') : Bk w W' p b r s M R S x :=
  ⟨h.mx.on hB, h.fr.more hB, h.fs.more hB, fun c hc => (h.bx c hc).on hB, h.ne, h.lb, h.lr, h.ls, h.below.trans (hB.mono h.below.size)⟩
theorem Bk.pm (h : Bk w W p b r s M R S x) (hm : Mx W' p b 1 M') (hB : But b W W') : Bk w W' p b r s M' R S x :=
  ⟨hm, h.fr.on (hB.block r h.fr.lt (file_ne h.mx.mem h.mx.n1 h.fr).1), h.fs.on (hB.block s h.fs.lt (file_ne h.mx.mem h.mx.n1 h.fs).1), fun c hc => (h.bx c hc).but hB (rowT_mem h.mx.mem h.mx.n1 (h.bx c hc)), h.ne, h.lb, h.lr, h.ls, h.below.trans (hB.below h.lb h.below.size)⟩
theorem Bk.pr (h : Bk w W p b r s M R S x) (hf : Pregs.FileIs W' r R') (hB : But r W W') : Bk w W' p b r s M R' S x := by
  have hn := file_ne h.mx.mem h.mx.n1 h.fr
  exact ⟨⟨h.mx.mem.on (hB.block p h.mx.mem.lt.1 hn.2.symm) (hB.block b h.mx.mem.lt.2 hn.1.symm), file_tab h.mx.tb h.fr hB, h.mx.fit, h.mx.n1, h.mx.n64⟩, hf, h.fs.on (hB.block s h.fs.lt h.ne.symm), fun c hc => (h.bx c hc).but hB (rowT_file h.fr (h.bx c hc)), h.ne, h.lb, h.lr, h.ls, h.below.trans (hB.below h.lr h.below.size)⟩
theorem Bk.ps (h : Bk w W p b r s M R S x) (hf : Pregs.FileIs W' s S') (hB : But s W W') : Bk w W' p b r s M R S' x := by
  have hn := file_ne h.mx.mem h.mx.n1 h.fs
  exact ⟨⟨h.mx.mem.on (hB.block p h.mx.mem.lt.1 hn.2.symm) (hB.block b h.mx.mem.lt.2 hn.1.symm), file_tab h.mx.tb h.fs hB, h.mx.fit, h.mx.n1, h.mx.n64⟩, h.fr.on (hB.block r h.fr.lt h.ne), hf, fun c hc => (h.bx c hc).but hB (rowT_file h.fs (h.bx c hc)), h.ne, h.lb, h.lr, h.ls, h.below.trans (hB.below h.ls h.below.size)⟩
theorem Bk.more (h : Bk w W p b r s M R S x) (y : Th) : Bk w (W.alloc (.cells #[.int .i64 y.st, .int .i64 y.co, .int .i64 y.tc, .int .i64 y.rc, .int .i64 y.de] 23)) p b r s M R S ((W.heap.size, y) :: x) := by
  have h1 := h.on (bal (Below.refl W.heap.size W) (.cells #[.int .i64 y.st, .int .i64 y.co, .int .i64 y.tc, .int .i64 y.rc, .int .i64 y.de] 23))
  refine ⟨h1.mx, h1.fr, h1.fs, fun c hc => ?_, h1.ne, h1.lb, h1.lr, h1.ls, h1.below⟩
  rcases List.mem_cons.1 hc with rfl | hc
  · exact rowT_new W y
  · exact h1.bx c hc
theorem Bk.first {D : Nat} {y : Th} (h : Bk w W p b r s M R S ((D, y) :: x)) : RowT W D y := h.bx _ (List.mem_cons_self ..)
theorem Bk.second {D : Nat} {c : Nat × Th} {y : Th} (h : Bk w W p b r s M R S (c :: (D, y) :: x)) : RowT W D y := h.bx _ (List.mem_cons_of_mem _ (List.mem_cons_self ..))
theorem Bk.third {D : Nat} {c c' : Nat × Th} {y : Th} (h : Bk w W p b r s M R S (c :: c' :: (D, y) :: x)) : RowT W D y := h.bx _ (List.mem_cons_of_mem _ (List.mem_cons_of_mem _ (List.mem_cons_self ..)))
theorem Bk.fourth {D : Nat} {c c' c'' : Nat × Th} {y : Th} (h : Bk w W p b r s M R S (c :: c' :: c'' :: (D, y) :: x)) : RowT W D y := h.bx _ (List.mem_cons_of_mem _ (List.mem_cons_of_mem _ (List.mem_cons_of_mem _ (List.mem_cons_self ..))))
end
/-- As ThdBack lays them: the two threads, the memory; then the files. -/
structure B0 (w W : World) (p b : Nat) (t u : Th) : Prop where
  mx : Mx W p b 1 fun _ _ => 0
  bt : RowT W w.heap.size t
  bu : RowT W (w.heap.size + 1) u
  lb : w.heap.size ≤ b
  below : Below w.heap.size w W
theorem b0_new {w : World} (h : Phead.TabW w) (t u : Th) : B0 w (newW ((w.alloc (.cells #[.int .i64 t.st, .int .i64 t.co, .int .i64 t.tc, .int .i64 t.rc, .int .i64 t.de] 23)).alloc (.cells #[.int .i64 u.st, .int .i64 u.co, .int .i64 u.tc, .int .i64 u.rc, .int .i64 u.de] 23)) 1) (w.heap.size + 1 + 1 + 1) (w.heap.size + 1 + 1) t u := by
  have hb := bal (bal (Below.refl w.heap.size w) (.cells #[.int .i64 t.st, .int .i64 t.co, .int .i64 t.tc, .int .i64 t.rc, .int .i64 t.de] 23)) (.cells #[.int .i64 u.st, .int .i64 u.co, .int .i64 u.tc, .int .i64 u.rc, .int .i64 u.de] 23)
  have hm := mx_new (h.on hb) (N := 1) (by omega) (by omega)
  have hn := newW_below ((w.alloc (.cells #[.int .i64 t.st, .int .i64 t.co, .int .i64 t.tc, .int .i64 t.rc, .int .i64 t.de] 23)).alloc (.cells #[.int .i64 u.st, .int .i64 u.co, .int .i64 u.tc, .int .i64 u.rc, .int .i64 u.de] 23)) 1
  have r1 := (rowT_new w t).on (bal (Below.refl _ _) (.cells #[.int .i64 u.st, .int .i64 u.co, .int .i64 u.tc, .int .i64 u.rc, .int .i64 u.de] 23))
  have r2 := rowT_new (w.alloc (.cells #[.int .i64 t.st, .int .i64 t.co, .int .i64 t.tc, .int .i64 t.rc, .int .i64 t.de] 23)) u
  simp only [World.size_alloc] at hm r2
  exact ⟨hm, r1.on hn, r2.on hn, by omega, hb.trans (hn.mono hb.size)⟩
theorem bk_new {w W W2 W3 : World} {p b : Nat} {t u : Th} (h : B0 w W p b t u) (e2 : W2 = Pregs.newW W) (e3 : W3 = Pregs.newW W2) : Bk w W3 p b W.heap.size W2.heap.size (fun _ _ => 0) (fun _ => 0) (fun _ => 0) [(w.heap.size, t), (w.heap.size + 1, u)] := by
  subst e3 e2
  have h1 := Pregs.newW_below W
  have h2 := Pregs.newW_below (Pregs.newW W)
  have hb : Below W.heap.size W (Pregs.newW (Pregs.newW W)) := h1.trans (h2.mono h1.size)
  have f2 := Pregs.newW_is (Pregs.newW W)
  have hz := Pregs.newW_size W
  have hs := h.below.size
  refine ⟨h.mx.on hb, (Pregs.newW_is W).more h2, f2, fun c hc => ?_, by omega, h.lb, hs, by omega, h.below.trans (hb.mono hs)⟩
  simp only [List.mem_cons, List.not_mem_nil, or_false] at hc
  rcases hc with rfl | rfl
  · exact h.bt.on hb
  · exact h.bu.on hb
theorem came_eight {n₀ : Nat} {W : World} {a : Option Addr} {len : Nat} (h : Came .u64 n₀ W a len) : ∃ A, Pregs.Eight n₀ W a len A ∧ Fl A := by
  have z : Fl fun _ => 0 := fun _ _ => ⟨Int.le_refl _, by show (0 : Int) ≤ _; decide⟩
  rcases h with h | ⟨b, off, e, hb, hc⟩
  · exact ⟨fun _ => 0, fun h' => by omega, z⟩
  · by_cases h8 : len = 8
    · subst h8
      refine ⟨fun j => if hj : j < 8 then (hc j hj).choose else 0, fun _ => ⟨b, off, e, hb, fun j hj => ?_⟩, fun j hj => ?_⟩
      · simp only [hj, dif_pos]
        exact (hc j hj).choose_spec.1
      · simp only [hj, dif_pos]
        have h' : (decide (IntKind.u64.min ≤ (hc j hj).choose) && decide ((hc j hj).choose ≤ IntKind.u64.max)) = true := (hc j hj).choose_spec.2
        have e1 : IntKind.u64.min = 0 := by decide
        have e2 : IntKind.u64.max = 18446744073709551615 := by decide
        rw [e1, e2] at h'
        simpa using h'
    · exact ⟨fun _ => 0, fun h' => absurd h' h8, z⟩
set_option maxRecDepth 100000 in
set_option maxHeartbeats 4000000 in
theorem back_no (t u : Th) (a : Option Addr) (n c : Nat) (w : World) (ht : Fi t) (hT : Phead.TabW w) (hno : ¬ To t) :
    Calls Tryd.prog 3 #[.agg #[.int .i64 t.st, .int .i64 t.co, .int .i64 t.tc, .int .i64 t.rc, .int .i64 t.de], .agg #[.int .i64 u.st, .int .i64 u.co, .int .i64 u.tc, .int .i64 u.rc, .int .i64 u.de], .slice a n c] w fun e w' => e = .returned (.bool true) ∧ Below w.heap.size w w' := by
  have H0 := rhide (b0_new hT t u)
  obtain ⟨e1, e2⟩ := made_no (N := 1) (f := 0) hno
  have HMk : Hid (∀ wc p b, Mx wc p b 1 (fun _ _ => 0) → Calls Tryd.prog 7 #[.pointer (some ⟨p, 0, none⟩), .int .i64 0, .agg #[.int .i64 t.st, .int .i64 t.co, .int .i64 t.tc, .int .i64 t.rc, .int .i64 t.de]] wc fun e w' => e = .returned (.int .i64 1) ∧ Mx w' p b 1 (mkM 1 (fun _ _ => 0) 0 t) ∧ But b wc w') := fun wc p b h => by
    have := make_any p b 1 0 t _ wc h ht
    rwa [e1] at this
  have HCk : Hid (∀ wc, Calls Tryd.prog 8 #[.agg #[.int .i64 t.st, .int .i64 t.co, .int .i64 t.tc, .int .i64 t.rc, .int .i64 t.de]] wc fun e w' => e = .returned (.int .i64 1) ∧ Below wc.heap.size wc w') := fun wc => by
    have := check_any t ht wc
    rwa [e2] at this
  clear e1 e2 hno hT ht
  generalize mkM 1 (fun _ _ => 0) 0 t = M1 at HMk
  have t1 : True := trivial
  go_enter Tryd.func3, Tryd.ntmps3
  go_wp2_with (first
    | (go_at_call 5; refine (new_ok 1 _ (by omega) (by omega)).mono ?_; rintro r1 w1 ⟨rfl, hw⟩; rw [← hw] at H0; clear hw)
    | (go_at_call 6; clear t1; refine (Pregs.new_any _).mono ?_; rintro r2 w2 ⟨rfl, hw⟩; have HW2 := rhide hw; clear hw)
    | (go_at_call 6; refine (Pregs.new_any _).mono ?_; rintro r3 w3 ⟨rfl, hw⟩; have H1 := rhide (bk_new H0.out HW2.out hw); clear hw HW2 H0; have x0 := H1.out.first.c0; have x1 := H1.out.first.c1; have x2 := H1.out.first.c2; have x3 := H1.out.first.c3; have x4 := H1.out.first.c4)
    | (go_at_call 7; refine (HMk.out _ _ _ H1.out.mx).mono ?_; rintro r4 w4 ⟨rfl, hm, hb⟩; have H2 := rhide (H1.out.pm hm hb); clear hm hb H1 HMk x0 x1 x2 x3 x4; have x0 := H2.out.first.c0; have x1 := H2.out.first.c1; have x2 := H2.out.first.c2; have x3 := H2.out.first.c3; have x4 := H2.out.first.c4)
    | (go_at_call 8; refine (HCk.out _).mono ?_; rintro r5 w5 ⟨rfl, hb⟩; have H3 := rhide (H2.out.on hb); clear hb HCk H2)
    | (go_at_call 9; refine (awake_any _).mono ?_; rintro r6 w6 ⟨rfl, hb⟩; have H4 := rhide (H3.out.on hb); clear hb H3)
    | fail)
  go_ret
  exact ⟨rfl, H4.out.below⟩
set_option maxRecDepth 100000 in
set_option maxHeartbeats 4000000 in
theorem back_yes (t u y : Th) (P E : Int) (R : Nat → Int) (M1 M2 M3 : Nat → Nat → Int) (a : Option Addr) (n c : Nat) (w : World) (hT : Phead.TabW w) (hP : P = 0 ∧ u = y ∨ P = 1 ∧ t = y)
    (HMk : Hid (∀ wc p b, Mx wc p b 1 (fun _ _ => 0) → Calls Tryd.prog 7 #[.pointer (some ⟨p, 0, none⟩), .int .i64 0, .agg #[.int .i64 t.st, .int .i64 t.co, .int .i64 t.tc, .int .i64 t.rc, .int .i64 t.de]] wc fun e w' => e = .returned (.int .i64 0) ∧ Mx w' p b 1 M1 ∧ But b wc w'))
    (HG1 : Hid (∀ wc p b, Mx wc p b 1 M1 → Calls Tryd.prog 10 #[.pointer (some ⟨p, 0, none⟩), .int .i64 0] wc fun e w' => e = .returned (.tuple #[.agg #[.int .i64 t.st, .int .i64 t.co, .int .i64 t.tc, .int .i64 t.rc, .int .i64 t.de], .int .i64 0]) ∧ Below wc.heap.size wc w'))
    (HRL : Hid (∀ wc r, Pregs.FileIs wc r (fun _ => 0) → Below w.heap.size w wc → Calls Tryd.prog 11 #[.pointer (some ⟨r, 0, none⟩), .slice a n c] wc fun e w' => e = .returned (.int .i64 E) ∧ Pregs.FileIs w' r R ∧ But r wc w'))
    (HSv : Hid (∀ wc p b r, Mx wc p b 1 M1 → Pregs.FileIs wc r R → Calls Tryd.prog 12 #[.pointer (some ⟨p, 0, none⟩), .int .i64 0, .pointer (some ⟨r, 0, none⟩)] wc fun e w' => e = .returned (.int .i64 0) ∧ Mx w' p b 1 M2 ∧ But b wc w'))
    (HPu : Hid (∀ wc p b, Mx wc p b 1 M2 → Calls Tryd.prog 13 #[.pointer (some ⟨p, 0, none⟩), .int .i64 0, .agg #[.int .i64 u.st, .int .i64 u.co, .int .i64 u.tc, .int .i64 u.rc, .int .i64 u.de]] wc fun e w' => e = .returned (.int .i64 P) ∧ Mx w' p b 1 M3 ∧ But b wc w'))
    (HLd : Hid (∀ wc p b s, Mx wc p b 1 M3 → Pregs.FileIs wc s (fun _ => 0) → Calls Tryd.prog 14 #[.pointer (some ⟨p, 0, none⟩), .int .i64 0, .pointer (some ⟨s, 0, none⟩)] wc fun e w' => e = .returned (.int .i64 0) ∧ Pregs.FileIs w' s R ∧ But s wc w'))
    (HG2 : Hid (∀ wc p b, Mx wc p b 1 M3 → Calls Tryd.prog 10 #[.pointer (some ⟨p, 0, none⟩), .int .i64 0] wc fun e w' => e = .returned (.tuple #[.agg #[.int .i64 y.st, .int .i64 y.co, .int .i64 y.tc, .int .i64 y.rc, .int .i64 y.de], .int .i64 0]) ∧ Below wc.heap.size wc w'))
    (HCk : Hid (∀ wc, Calls Tryd.prog 8 #[.agg #[.int .i64 u.st, .int .i64 u.co, .int .i64 u.tc, .int .i64 u.rc, .int .i64 u.de]] wc fun e w' => e = .returned (.int .i64 P) ∧ Below wc.heap.size wc w')) :
    Calls Tryd.prog 3 #[.agg #[.int .i64 t.st, .int .i64 t.co, .int .i64 t.tc, .int .i64 t.rc, .int .i64 t.de], .agg #[.int .i64 u.st, .int .i64 u.co, .int .i64 u.tc, .int .i64 u.rc, .int .i64 u.de], .slice a n c] w fun e w' => e = .returned (.bool true) ∧ Below w.heap.size w w' := by
  have H0 := rhide (b0_new hT t u)
  have HAl : Hid (∀ wc r, Pregs.FileIs wc r R → Calls Tryd.prog 16 #[.pointer (some ⟨r, 0, none⟩)] wc fun e w' => e = .returned (.slice (some ⟨wc.heap.size, 0, none⟩) 8 8) ∧ Pregs.ListIs w' wc.heap.size R ∧ Below wc.heap.size wc w') := fun wc r h => (Pregs.all_any r R wc h).mono fun e w' ⟨h1, h2⟩ => ⟨h1, by rw [h2]; exact Pregs.allW_is wc R, by rw [h2]; exact Pregs.allW_below wc R⟩
  have HWd : Hid (∀ wx x y, Pregs.ListIs wx x R → Pregs.ListIs wx y R → Calls Tryd.prog 15 #[.slice (some ⟨x, 0, none⟩) 8 8, .slice (some ⟨y, 0, none⟩) 8 8] wx fun e w' => e = .returned (.bool true) ∧ Below wx.heap.size wx w') := fun wx x y hx hy => (Pregs.words_same x 8 y 8 R wx hx hy).mono fun e w' ⟨h1, m, h2⟩ => ⟨h1, by rw [h2]; exact Pregs.below_drewN (Below.refl _ _) m⟩
  have het := eqlT t
  have t1 : True := trivial
  have t2 : True := trivial
  clear hT
  have hyu : P = 0 ∧ (∀ w, (binOp .eql 23 (.agg #[.int .i64 y.st, .int .i64 y.co, .int .i64 y.tc, .int .i64 y.rc, .int .i64 y.de]) (.agg #[.int .i64 u.st, .int .i64 u.co, .int .i64 u.tc, .int .i64 u.rc, .int .i64 u.de])).run Tryd.prog w = .ok (.bool true) w) ∨ P = 1 ∧ (∀ w, (binOp .eql 23 (.agg #[.int .i64 y.st, .int .i64 y.co, .int .i64 y.tc, .int .i64 y.rc, .int .i64 y.de]) (.agg #[.int .i64 t.st, .int .i64 t.co, .int .i64 t.tc, .int .i64 t.rc, .int .i64 t.de])).run Tryd.prog w = .ok (.bool true) w) := by
    rcases hP with ⟨h, rfl⟩ | ⟨h, rfl⟩
    · exact .inl ⟨h, eqlT _⟩
    · exact .inr ⟨h, eqlT _⟩
  clear hP
  rcases hyu with ⟨rfl, hyy⟩ | ⟨rfl, hyy⟩
  all_goals
    go_enter Tryd.func3, Tryd.ntmps3
    go_upto_region 6 with (first
      | (go_at_call 5; refine (new_ok 1 _ (by omega) (by omega)).mono ?_; rintro r1 w1 ⟨rfl, hw⟩; rw [← hw] at H0; clear hw)
      | (go_at_call 6; clear t1; refine (Pregs.new_any _).mono ?_; rintro r2 w2 ⟨rfl, hw⟩; have HW2 := rhide hw; clear hw)
      | (go_at_call 6; refine (Pregs.new_any _).mono ?_; rintro r3 w3 ⟨rfl, hw⟩; have H1 := rhide (bk_new H0.out HW2.out hw); clear hw HW2 H0; have x0 := H1.out.first.c0; have x1 := H1.out.first.c1; have x2 := H1.out.first.c2; have x3 := H1.out.first.c3; have x4 := H1.out.first.c4)
      | fail)
    go_upto_region 9 with (first
      | (go_at_call 7; refine (HMk.out _ _ _ H1.out.mx).mono ?_; rintro r4 w4 ⟨rfl, hm, hb⟩; have H2 := rhide (H1.out.pm hm hb); clear hm hb H1 HMk x0 x1 x2 x3 x4)
      | (go_at_call 10; refine (HG1.out _ _ _ H2.out.mx).mono ?_; rintro r5 w5 ⟨rfl, hb⟩; have H3 := rhide ((H2.out.on hb).more t); clear hb HG1 H2)
      | fail)
    go_upto_region 10 with (first
      | (go_at_call 11; refine (HRL.out _ _ H3.out.fr H3.out.below).mono ?_; rintro r6 w6 ⟨rfl, hf, hb⟩; have H4 := rhide (H3.out.pr hf hb); clear hf hb HRL H3)
      | fail)
    go_upto_region 11 with (first
      | (go_at_call 12; refine (HSv.out _ _ _ _ H4.out.mx H4.out.fr).mono ?_; rintro r7 w7 ⟨rfl, hm, hb⟩; have H5 := rhide (H4.out.pm hm hb); clear hm hb HSv H4; have x0 := H5.out.third.c0; have x1 := H5.out.third.c1; have x2 := H5.out.third.c2; have x3 := H5.out.third.c3; have x4 := H5.out.third.c4)
      | fail)
    go_upto_region 12 with (first
      | (go_at_call 13; refine (HPu.out _ _ _ H5.out.mx).mono ?_; rintro r8 w8 ⟨rfl, hm, hb⟩; have H6 := rhide (H5.out.pm hm hb); clear hm hb HPu H5 x0 x1 x2 x3 x4)
      | fail)
    go_upto_region 13 with (first
      | (go_at_call 14; refine (HLd.out _ _ _ _ H6.out.mx H6.out.fs).mono ?_; rintro r9 w9 ⟨rfl, hf, hb⟩; have H7 := rhide (H6.out.ps hf hb); clear hf hb HLd H6)
      | fail)
    go_upto_region 14 with (first
      | (go_at_call 10; refine (HG2.out _ _ _ H7.out.mx).mono ?_; rintro ra wa ⟨rfl, hb⟩; have H8 := rhide ((H7.out.on hb).more y); clear hb HG2 H7)
      | fail)
    generalize wa.alloc _ = v at H8 ⊢
    generalize wa.heap.size = Dy at H8 ⊢
    have x0 := H8.out.second.c0
    have x1 := H8.out.second.c1
    have x2 := H8.out.second.c2
    have x3 := H8.out.second.c3
    have x4 := H8.out.second.c4
    have y0 := H8.out.third.c0
    have y1 := H8.out.third.c1
    have y2 := H8.out.third.c2
    have y3 := H8.out.third.c3
    have y4 := H8.out.third.c4
    go_wp2_with (first
      | (go_at_call 16; clear t2; refine (HAl.out _ _ H8.out.fr).mono ?_; rintro rb wb ⟨rfl, hl, hb⟩; have H9 := rhide (H8.out.on hb); have HLa := rhide hl; clear hb hl H8 x0 x1 x2 x3 x4 y0 y1 y2 y3 y4)
      | (go_at_call 16; refine (HAl.out _ _ H9.out.fs).mono ?_; rintro rc wc ⟨rfl, hl, hb⟩; have HA := rhide (H9.out.on hb); have HLb := rhide hl; have HLc := rhide (HLa.out.more hb); clear hb hl H9 HLa HAl)
      | (go_at_call 15; refine (HWd.out _ _ _ HLc.out HLb.out).mono ?_; rintro rd wd ⟨rfl, hb⟩; have HB := rhide (HA.out.on hb); clear hb HA HLb HLc HWd; have x0 := HB.out.fourth.c0; have x1 := HB.out.fourth.c1; have x2 := HB.out.fourth.c2; have x3 := HB.out.fourth.c3; have x4 := HB.out.fourth.c4)
      | (go_at_call 8; refine (HCk.out _).mono ?_; rintro re we ⟨rfl, hb⟩; have HC := rhide (HB.out.on hb); clear hb HCk HB x0 x1 x2 x3 x4; have x0 := HC.out.first.c0; have x1 := HC.out.first.c1; have x2 := HC.out.first.c2; have x3 := HC.out.first.c3; have x4 := HC.out.first.c4; have y0 := HC.out.fourth.c0; have y1 := HC.out.fourth.c1; have y2 := HC.out.fourth.c2; have y3 := HC.out.fourth.c3; have y4 := HC.out.fourth.c4; have z0 := HC.out.third.c0; have z1 := HC.out.third.c1; have z2 := HC.out.third.c2; have z3 := HC.out.third.c3; have z4 := HC.out.third.c4)
      | (go_at_call 9; refine (awake_any _).mono ?_; rintro rf wf ⟨rfl, hb⟩; have HZ := rhide (HC.out.on hb); clear hb HC)
      | fail)
    go_ret
    exact ⟨rfl, HZ.out.below⟩
theorem back_walk (t u : Th) (a : Option Addr) (n c : Nat) (w : World) (ht : Fi t) (hu : Fi u) (hw : Hid (Came .u64 w.heap.size w a n)) (hn : n ≤ 9223372036854775807) (hT : Phead.TabW w) :
    Calls Tryd.prog 3 #[.agg #[.int .i64 t.st, .int .i64 t.co, .int .i64 t.tc, .int .i64 t.rc, .int .i64 t.de], .agg #[.int .i64 u.st, .int .i64 u.co, .int .i64 u.tc, .int .i64 u.rc, .int .i64 u.de], .slice a n c] w fun e w' => e = .returned (.bool true) ∧ Below w.heap.size w w' := by
  by_cases hto : To t
  case neg => exact back_no t u a n c w ht hT hto
  obtain ⟨A, hA, hF⟩ := came_eight hw.out
  obtain ⟨R, hR⟩ : ∃ R, R = Pregs.loadR (fun _ => 0) n A := ⟨_, rfl⟩
  have hFR : Fl R := by
    rw [hR]
    unfold Pregs.loadR
    split
    · exact hF
    · exact fun _ _ => ⟨Int.le_refl _, by show (0 : Int) ≤ _; decide⟩
  obtain ⟨M1, h1⟩ : ∃ M1, M1 = mkM 1 (fun _ _ => 0) 0 t := ⟨_, rfl⟩
  obtain ⟨M2, h2⟩ : ∃ M2, M2 = svM 1 M1 0 R := ⟨_, rfl⟩
  obtain ⟨M3, h3⟩ : ∃ M3, M3 = puM 1 M2 0 u := ⟨_, rfl⟩
  obtain ⟨b1, b2, b3, b4, b5, b6, b7, b8, b9⟩ := back_all (u := u) hto h1 h2 h3
  refine back_yes t u (if ckE u = 0 then u else t) (ckE u) (Pregs.errL n) R M1 M2 M3 a n c w hT ?_ (fun wc p b h => ?_) (fun wc p b h => ?_) (fun wc r h hB => ?_) (fun wc p b r h hr => ?_) (fun wc p b h => ?_) (fun wc p b s h hs => ?_) (fun wc p b h => ?_) (fun wc => check_any u hu wc)
  · by_cases h0 : ckE u = 0
    · exact .inl ⟨h0, by rw [if_pos h0]⟩
    · right
      rw [if_neg h0]
      refine ⟨?_, rfl⟩
      unfold ckE at h0 ⊢
      split at h0
      · exact absurd rfl h0
      · rename_i hn
        rw [if_neg hn]
  · have := make_any p b 1 0 t _ wc h ht
    rwa [b1, ← h1] at this
  · have := get_any p b 1 0 _ wc h
    rwa [b2, b3] at this
  · have := Pregs.load_any r a n c w.heap.size (fun _ => 0) A wc h hn (hA.below hB)
    rw [← hR] at this
    refine this.mono ?_
    rintro e w' ⟨rfl, rfl⟩
    exact ⟨rfl, h.set _, (But.refl r wc).setRow _⟩
  · have := save_any p b 1 r 0 _ R wc h hr hFR
    rw [b4, ← h2] at this
    exact this.mono fun e w' ⟨q1, q2, _, q3⟩ => ⟨q1, q2, q3⟩
  · have := put_any p b 1 0 u _ wc h hu
    rwa [b5, ← h3] at this
  · have := load_any p b 1 s 0 _ (fun _ => 0) wc h hs
    rw [b6] at this
    exact this.mono fun e w' ⟨q1, _, q2, q3⟩ => ⟨q1, file_congr q2 (b7 _), q3⟩
  · have := get_any p b 1 0 _ wc h
    rwa [b8, b9] at this
end Go.Proofs.YtaajacmbnigadaaDoor.Pthd
