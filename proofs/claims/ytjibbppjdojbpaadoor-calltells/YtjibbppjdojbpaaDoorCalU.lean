/- The walk of CallTells, over the program's contracts. -/
import Derived.Test.YtjibbppjdojbpaaDoorCalT
import Derived.Test.YtjibbppjdojbpaaDoorCalI
import Derived.Test.YtjibbppjdojbpaaDoorCalP
import Derived.Test.YtjibbppjdojbpaaDoorBunWalk
import Derived.Outline
import Derived.BigRegion
import Derived.Deep.CutBlock
import Derived.Deep.QuietTactic
import Derived.Deep.RegionHeld3
namespace Go.Proofs.YtjibbppjdojbpaaDoor.Pcall
open Go.Proofs.YtjibbppjdojbpaaDoor.Pbase Go.Proofs.YtjibbppjdojbpaaDoor.Pfield Go.Proofs.YtjibbppjdojbpaaDoor.Pwalk
open Go.RowKit M
set_option linter.unusedVariables false

/-- The call that was handed in, and two that were read. -/
structure Tl (w W : World) (c : Cl) : Prop where
  box : RowC W w.heap.size c
  below : Below w.heap.size w W
theorem tl_new (w : World) (c : Cl) : Tl w (w.alloc (.cells #[.int .i64 c.n, .int .i64 c.a, .int .i64 c.b, .int .i64 c.c, .int .i64 c.d, .int .i64 c.e] 24)) c := ⟨rowC_new w c, bal (Below.refl _ _) _⟩
theorem Tl.on {w W W' : World} {c : Cl} (h : Tl w W c) (hB : Below W.heap.size W W') : Tl w W' c := ⟨h.box.on hB, h.below.trans (hB.mono h.below.size)⟩
theorem Tl.drew {w W : World} {c : Cl} (h : Tl w W c) : Tl w W.drew c := ⟨h.box.drew, h.below.drew⟩
structure Tk (w W : World) (c x : Cl) (D E : Nat) : Prop where
  tl : Tl w W c
  one : RowC W D x
  two : RowC W E x
theorem Tk.on {w W W' : World} {c x : Cl} {D E : Nat} (h : Tk w W c x D E) (hB : Below W.heap.size W W') : Tk w W' c x D E := ⟨h.tl.on hB, h.one.on hB, h.two.on hB⟩
theorem Tk.drew {w W : World} {c x : Cl} {D E : Nat} (h : Tk w W c x D E) : Tk w W.drew c x D E := ⟨h.tl.drew, h.one.drew, h.two.drew⟩
set_option maxRecDepth 100000 in
set_option maxHeartbeats 4000000 in
theorem tells_walk (c : Cl) (z n : Int) (s : ByteArray) (hc : Fc c) (hz : 0 ≤ z ∧ z ≤ 18446744073709551615) (w : World) (HP : Pc w) :
    Calls Tryd.prog 3 #[.agg #[.int .i64 c.n, .int .i64 c.a, .int .i64 c.b, .int .i64 c.c, .int .i64 c.d, .int .i64 c.e], .int .u64 z, .int .i64 n, .string s] w fun e w' => e = .returned (.bool true) ∧ Below w.heap.size w w' := by
  have H0 := chide (tl_new w c)
  have P1 : Hid (∀ wc, Below w.heap.size w wc → Calls Tryd.prog 6 #[.agg #[.int .i64 c.n, .int .i64 c.a, .int .i64 c.b, .int .i64 c.c, .int .i64 c.d, .int .i64 c.e]] wc fun e w' => e = .returned (.tuple #[.int .u64 (putW c), .int .i64 (kcE c)]) ∧ Below wc.heap.size wc w') := fun wc hB => HP.put wc c hc hB
  have P2 : Hid (∀ wc, Calls Tryd.prog 7 #[.agg #[.int .i64 c.n, .int .i64 c.a, .int .i64 c.b, .int .i64 c.c, .int .i64 c.d, .int .i64 c.e]] wc fun e w' => e = .returned (.tuple #[.int .u64 (putW c), .int .i64 (kcE c)]) ∧ Below wc.heap.size wc w') := fun wc => rput_any c hc wc
  have P3 : Hid (∀ wc, Below w.heap.size w wc → Calls Tryd.prog 8 #[.int .u64 z] wc fun e w' => e = .returned (.tuple #[.agg #[.int .i64 (getC z).n, .int .i64 (getC z).a, .int .i64 (getC z).b, .int .i64 (getC z).c, .int .i64 (getC z).d, .int .i64 (getC z).e], .int .i64 (getE z)]) ∧ Below wc.heap.size wc w') := fun wc hB => HP.get wc z hz hB
  have P4 : Hid (∀ wc, Calls Tryd.prog 9 #[.int .u64 z] wc fun e w' => e = .returned (.tuple #[.agg #[.int .i64 (getC z).n, .int .i64 (getC z).a, .int .i64 (getC z).b, .int .i64 (getC z).c, .int .i64 (getC z).d, .int .i64 (getC z).e], .int .i64 (getE z)]) ∧ Below wc.heap.size wc w') := fun wc => rget_any z hz wc
  have P5 : Hid (∀ wc, Below w.heap.size w wc → Calls Tryd.prog 10 #[.string s] wc fun e w' => e = .returned (.tuple #[.int .i64 (nuI s), .bool (nuB s)]) ∧ Below wc.heap.size wc w') := fun wc hB => HP.number wc s hB
  have P6 : Hid (∀ wc, Calls Tryd.prog 11 #[.string s] wc fun e w' => e = .returned (.tuple #[.int .i64 (nuI s), .bool (nuB s)]) ∧ Below wc.heap.size wc w') := fun wc => rnumber_any s wc
  have P7 : Hid (∀ wc, Below w.heap.size w wc → Calls Tryd.prog 12 #[.agg #[.int .i64 c.n, .int .i64 c.a, .int .i64 c.b, .int .i64 c.c, .int .i64 c.d, .int .i64 c.e]] wc fun e w' => e = .returned (.int .i64 (kcE c)) ∧ Below wc.heap.size wc w') := fun wc hB => HP.check wc c hc hB
  have P8 : Hid (∀ wc, Calls Tryd.prog 13 #[.agg #[.int .i64 c.n, .int .i64 c.a, .int .i64 c.b, .int .i64 c.c, .int .i64 c.d, .int .i64 c.e]] wc fun e w' => e = .returned (.int .i64 (kcE c)) ∧ Below wc.heap.size wc w') := fun wc => rcheck_any c hc wc
  have P9 : Hid (∀ wc, Below w.heap.size w wc → Calls Tryd.prog 14 #[.int .i64 n] wc fun e w' => e = .returned (.int .i64 (ndI n)) ∧ Below wc.heap.size wc w') := fun wc hB => HP.needs wc n hB
  have Pa : Hid (∀ wc, Calls Tryd.prog 15 #[.int .i64 n] wc fun e w' => e = .returned (.int .i64 (ndI n)) ∧ Below wc.heap.size wc w') := fun wc => rneeds_any n wc
  have Pb : Hid (∀ wc, Below w.heap.size w wc → Calls Tryd.prog 16 #[.int .i64 n] wc fun e w' => e = .returned (.string (wdT n)) ∧ Below wc.heap.size wc w') := fun wc hB => HP.word wc n hB
  have Pd : Hid (∀ wc, Calls Tryd.prog 17 #[.int .i64 n] wc fun e w' => e = .returned (.string (wdT n)) ∧ Below wc.heap.size wc w') := fun wc => rword_any n wc
  have Pe : Hid (∀ wc, Below w.heap.size w wc → Calls Tryd.prog 18 #[] wc fun e w' => e = .returned (.bool true) ∧ Below wc.heap.size wc w') := fun wc hB => awake_any HP wc hB
  clear HP hc hz
  have g1 : (putW c == putW c) = true := by simp
  have g2 : (kcE c == kcE c) = true := by simp
  have g3 : ∀ W, (binOp .eql 24 (.agg #[.int .i64 (getC z).n, .int .i64 (getC z).a, .int .i64 (getC z).b, .int .i64 (getC z).c, .int .i64 (getC z).d, .int .i64 (getC z).e]) (.agg #[.int .i64 (getC z).n, .int .i64 (getC z).a, .int .i64 (getC z).b, .int .i64 (getC z).c, .int .i64 (getC z).d, .int .i64 (getC z).e])).run Tryd.prog W = .ok (.bool true) W := eqlC _
  have g4 : (getE z == getE z) = true := by simp
  have g5 : (nuI s == nuI s) = true := by simp
  have g6 : (nuB s == nuB s) = true := by simp
  have g7 : (ndI n == ndI n) = true := by simp
  have g8 : ((wdT n).toList == (wdT n).toList) = true := by simp
  generalize putW c = r1 at P1 P2 g1
  generalize kcE c = r2 at P1 P2 P7 P8 g2
  generalize getC z = r3 at P3 P4 g3
  generalize getE z = r4 at P3 P4 g4
  generalize nuI s = r5 at P5 P6 g5
  generalize nuB s = r6 at P5 P6 g6
  generalize ndI n = r7 at P9 Pa g7
  generalize wdT n = r8 at Pb Pd g8
  go_enter Tryd.func3, Tryd.ntmps3
  go_upto_region 1 with fail
  generalize w.alloc _ = w1 at H0 ⊢
  have q0 := H0.out.box.c0
  have q1 := H0.out.box.c1
  have q2 := H0.out.box.c2
  have q3 := H0.out.box.c3
  have q4 := H0.out.box.c4
  have q5 := H0.out.box.c5
  go_upto_region 2 with (first
    | (go_at_call 6; refine (P1.out _ H0.out.below).mono ?_; rintro e1 w2 ⟨rfl, hb⟩; have H1 := chide (H0.out.on hb); clear hb P1 H0)
    | fail)
  clear q0 q1 q2 q3 q4 q5
  have q0 := H1.out.box.c0
  have q1 := H1.out.box.c1
  have q2 := H1.out.box.c2
  have q3 := H1.out.box.c3
  have q4 := H1.out.box.c4
  have q5 := H1.out.box.c5
  go_upto_region 4 with (first
    | (go_at_call 7; refine (P2.out _).mono ?_; rintro e2 w3 ⟨rfl, hb⟩; have H2 := chide (H1.out.on hb); clear hb P2 H1 q0 q1 q2 q3 q4 q5)
    | (go_at_call 8; refine (P3.out _ H2.out.below).mono ?_; rintro e3 w4 ⟨rfl, hb⟩; have H3 := chide (H2.out.on hb); clear hb P3 H2)
    | fail)
  have H4 : Hid (Tl w (w4.alloc (.cells #[.int .i64 r3.n, .int .i64 r3.a, .int .i64 r3.b, .int .i64 r3.c, .int .i64 r3.d, .int .i64 r3.e] 24)) c ∧ RowC (w4.alloc (.cells #[.int .i64 r3.n, .int .i64 r3.a, .int .i64 r3.b, .int .i64 r3.c, .int .i64 r3.d, .int .i64 r3.e] 24)) w4.heap.size r3) := ⟨H3.out.on (bal (Below.refl _ _) _), rowC_new _ _⟩
  generalize w4.alloc _ = w5 at H4 ⊢
  generalize w4.heap.size = D at H4 ⊢
  clear H3
  go_upto_region 5 with (first
    | (go_at_call 9; refine (P4.out _).mono ?_; rintro e4 w6 ⟨rfl, hb⟩; have H5 : Hid (Tl w w6 c ∧ RowC w6 D r3) := ⟨H4.out.1.on hb, H4.out.2.on hb⟩; clear hb P4 H4)
    | fail)
  have H6 : Hid (Tk w (w6.alloc (.cells #[.int .i64 r3.n, .int .i64 r3.a, .int .i64 r3.b, .int .i64 r3.c, .int .i64 r3.d, .int .i64 r3.e] 24)) c r3 D w6.heap.size) := ⟨H5.out.1.on (bal (Below.refl _ _) _), H5.out.2.on (bal (Below.refl _ _) _), rowC_new _ _⟩
  generalize w6.alloc _ = w7 at H6 ⊢
  generalize w6.heap.size = E at H6 ⊢
  clear H5
  go_upto_region 7 with (first
    | (go_at_call 10; refine (P5.out _ H6.out.tl.below).mono ?_; rintro e5 w8 ⟨rfl, hb⟩; have H7 := chide (H6.out.on hb); clear hb P5 H6)
    | (go_at_call 11; refine (P6.out _).mono ?_; rintro e6 w9 ⟨rfl, hb⟩; have H8 := chide (H7.out.on hb); clear hb P6 H7)
    | fail)
  have hS0 : Tk w w9.drew c r3 D E := H8.out.drew
  refine wp_region_held_drew (S := fun W' => Tk w W' c r3 D E) (by kernel_rfl) hS0 (fun hHeld => ?_)
  clear hS0
  refine takeV (i := 0) (v := ?_) rfl (by kernel_rfl) (by kernel_rfl) (by kernel_rfl) (fun _ _ _ h => h) (by rfl) hHeld ?_ ?_
  rotate_left
  · (intro w0 hSw; (try dsimp only at hSw); clear hSw; go_simp; try (with_reducible rfl))
  try simp only [Act.put, List.setIfInBounds_toArray, List.set_cons_zero, List.set_cons_succ]
  refine takeV (i := 1) (v := ?_) rfl (by kernel_rfl) (by kernel_rfl) (by kernel_rfl) (fun _ _ _ h => h) (by rfl) hHeld ?_ ?_
  rotate_left
  · (intro w0 hSw; (try dsimp only at hSw); clear hSw; go_simp; try (with_reducible rfl))
  try simp only [Act.put, List.setIfInBounds_toArray, List.set_cons_zero, List.set_cons_succ]
  refine takeV (i := 2) (v := ?_) rfl (by kernel_rfl) (by kernel_rfl) (by kernel_rfl) (fun _ _ _ h => h) (by rfl) hHeld ?_ ?_
  rotate_left
  · (intro w0 hSw; (try dsimp only at hSw); clear hSw; go_simp; try (with_reducible rfl))
  try simp only [Act.put, List.setIfInBounds_toArray, List.set_cons_zero, List.set_cons_succ]
  refine takeV (i := 3) (v := ?_) rfl (by kernel_rfl) (by kernel_rfl) (by kernel_rfl) (fun _ _ _ h => h) (by rfl) hHeld ?_ ?_
  rotate_left
  · (intro w0 hSw; (try dsimp only at hSw); clear hSw; go_simp; try (with_reducible rfl))
  try simp only [Act.put, List.setIfInBounds_toArray, List.set_cons_zero, List.set_cons_succ]
  refine takeV (i := 4) (v := ?_) rfl (by kernel_rfl) (by kernel_rfl) (by kernel_rfl) (fun _ _ _ h => h) (by rfl) hHeld ?_ ?_
  rotate_left
  · (intro w0 hSw; (try dsimp only at hSw); clear hSw; go_simp; try (with_reducible rfl))
  try simp only [Act.put, List.setIfInBounds_toArray, List.set_cons_zero, List.set_cons_succ]
  refine takeV (i := 5) (v := ?_) rfl (by kernel_rfl) (by kernel_rfl) (by kernel_rfl) (fun _ _ _ h => h) (by rfl) hHeld ?_ ?_
  rotate_left
  · (intro w0 hSw; (try dsimp only at hSw); clear hSw; go_simp; try (with_reducible rfl))
  try simp only [Act.put, List.setIfInBounds_toArray, List.set_cons_zero, List.set_cons_succ]
  refine takeV (i := 6) (v := ?_) rfl (by kernel_rfl) (by kernel_rfl) (by kernel_rfl) (fun _ _ _ h => h) (by rfl) hHeld ?_ ?_
  rotate_left
  · (intro w0 hSw; (try dsimp only at hSw); clear hSw; go_simp; try (with_reducible rfl))
  try simp only [Act.put, List.setIfInBounds_toArray, List.set_cons_zero, List.set_cons_succ]
  refine takeV (i := 7) (v := ?_) rfl (by kernel_rfl) (by kernel_rfl) (by kernel_rfl) (fun _ _ _ h => h) (by rfl) hHeld ?_ ?_
  rotate_left
  · (intro w0 hSw; (try dsimp only at hSw); clear hSw; go_simp; try (with_reducible rfl))
  try simp only [Act.put, List.setIfInBounds_toArray, List.set_cons_zero, List.set_cons_succ]
  refine takeV (i := 8) (v := ?_) rfl (by kernel_rfl) (by kernel_rfl) (by kernel_rfl) (fun _ _ _ h => h) (by rfl) hHeld ?_ ?_
  rotate_left
  · (intro w0 hSw; (try dsimp only at hSw); clear hSw; go_simp; try (with_reducible rfl))
  try simp only [Act.put, List.setIfInBounds_toArray, List.set_cons_zero, List.set_cons_succ]
  refine takeV (i := 9) (v := ?_) rfl (by kernel_rfl) (by kernel_rfl) (by kernel_rfl) (fun _ _ _ h => h) (by rfl) hHeld ?_ ?_
  rotate_left
  · (intro w0 hSw; (try dsimp only at hSw); have q0 := hSw.one.c0; have q1 := hSw.one.c1; have q2 := hSw.one.c2; have q3 := hSw.one.c3; have q4 := hSw.one.c4; have q5 := hSw.one.c5; clear hSw; go_simp; try (with_reducible rfl))
  try simp only [Act.put, List.setIfInBounds_toArray, List.set_cons_zero, List.set_cons_succ]
  refine takeV (i := 10) (v := ?_) rfl (by kernel_rfl) (by kernel_rfl) (by kernel_rfl) (fun _ _ _ h => h) (by rfl) hHeld ?_ ?_
  rotate_left
  · (intro w0 hSw; (try dsimp only at hSw); have q0 := hSw.two.c0; have q1 := hSw.two.c1; have q2 := hSw.two.c2; have q3 := hSw.two.c3; have q4 := hSw.two.c4; have q5 := hSw.two.c5; clear hSw; go_simp; try (with_reducible rfl))
  try simp only [Act.put, List.setIfInBounds_toArray, List.set_cons_zero, List.set_cons_succ]
  refine takeV (i := 11) (v := ?_) rfl (by kernel_rfl) (by kernel_rfl) (by kernel_rfl) (fun _ _ _ h => h) (by rfl) hHeld ?_ ?_
  rotate_left
  · (intro w0 hSw; (try dsimp only at hSw); clear hSw; go_simp; try (with_reducible rfl))
  try simp only [Act.put, List.setIfInBounds_toArray, List.set_cons_zero, List.set_cons_succ]
  refine takeV (i := 12) (v := ?_) rfl (by kernel_rfl) (by kernel_rfl) (by kernel_rfl) (fun _ _ _ h => h) (by rfl) hHeld ?_ ?_
  rotate_left
  · (intro w0 hSw; (try dsimp only at hSw); clear hSw; go_simp; try (with_reducible rfl))
  try simp only [Act.put, List.setIfInBounds_toArray, List.set_cons_zero, List.set_cons_succ]
  refine takeV (i := 13) (v := ?_) rfl (by kernel_rfl) (by kernel_rfl) (by kernel_rfl) (fun _ _ _ h => h) (by rfl) hHeld ?_ ?_
  rotate_left
  · (intro w0 hSw; (try dsimp only at hSw); clear hSw; go_simp; try (with_reducible rfl))
  try simp only [Act.put, List.setIfInBounds_toArray, List.set_cons_zero, List.set_cons_succ]
  refine takeV (i := 14) (v := ?_) rfl (by kernel_rfl) (by kernel_rfl) (by kernel_rfl) (fun _ _ _ h => h) (by rfl) hHeld ?_ ?_
  rotate_left
  · (intro w0 hSw; (try dsimp only at hSw); clear hSw; go_simp; try (with_reducible rfl))
  try simp only [Act.put, List.setIfInBounds_toArray, List.set_cons_zero, List.set_cons_succ]
  refine takeV (i := 15) (v := ?_) rfl (by kernel_rfl) (by kernel_rfl) (by kernel_rfl) (fun _ _ _ h => h) (by rfl) hHeld ?_ ?_
  rotate_left
  · (intro w0 hSw; (try dsimp only at hSw); clear hSw; go_simp; try (with_reducible rfl))
  try simp only [Act.put, List.setIfInBounds_toArray, List.set_cons_zero, List.set_cons_succ]
  refine takeV (i := 16) (v := ?_) rfl (by kernel_rfl) (by kernel_rfl) (by kernel_rfl) (fun _ _ _ h => h) (by rfl) hHeld ?_ ?_
  rotate_left
  · (intro w0 hSw; (try dsimp only at hSw); clear hSw; go_simp; try (with_reducible rfl))
  try simp only [Act.put, List.setIfInBounds_toArray, List.set_cons_zero, List.set_cons_succ]
  refine takeV (i := 17) (v := ?_) rfl (by kernel_rfl) (by kernel_rfl) (by kernel_rfl) (fun _ _ _ h => h) (by rfl) hHeld ?_ ?_
  rotate_left
  · (intro w0 hSw; (try dsimp only at hSw); clear hSw; go_simp; try (with_reducible rfl))
  try simp only [Act.put, List.setIfInBounds_toArray, List.set_cons_zero, List.set_cons_succ]
  refine takeV (i := 18) (v := ?_) rfl (by kernel_rfl) (by kernel_rfl) (by kernel_rfl) (fun _ _ _ h => h) (by rfl) hHeld ?_ ?_
  rotate_left
  · (intro w0 hSw; (try dsimp only at hSw); clear hSw; go_simp; try (with_reducible rfl))
  try simp only [Act.put, List.setIfInBounds_toArray, List.set_cons_zero, List.set_cons_succ]
  refine takeV (i := 19) (v := ?_) rfl (by kernel_rfl) (by kernel_rfl) (by kernel_rfl) (fun _ _ _ h => h) (by rfl) hHeld ?_ ?_
  rotate_left
  · (intro w0 hSw; (try dsimp only at hSw); clear hSw; go_simp; try (with_reducible rfl))
  try simp only [Act.put, List.setIfInBounds_toArray, List.set_cons_zero, List.set_cons_succ]
  refine takeV (i := 20) (v := ?_) rfl (by kernel_rfl) (by kernel_rfl) (by kernel_rfl) (fun _ _ _ h => h) (by rfl) hHeld ?_ ?_
  rotate_left
  · (intro w0 hSw; (try dsimp only at hSw); clear hSw; go_simp; try (with_reducible rfl))
  try simp only [Act.put, List.setIfInBounds_toArray, List.set_cons_zero, List.set_cons_succ]
  refine takeV (i := 21) (v := ?_) rfl (by kernel_rfl) (by kernel_rfl) (by kernel_rfl) (fun _ _ _ h => h) (by rfl) hHeld ?_ ?_
  rotate_left
  · (intro w0 hSw; (try dsimp only at hSw); clear hSw; go_simp; try (with_reducible rfl))
  try simp only [Act.put, List.setIfInBounds_toArray, List.set_cons_zero, List.set_cons_succ]
  refine takeV (i := 22) (v := ?_) rfl (by kernel_rfl) (by kernel_rfl) (by kernel_rfl) (fun _ _ _ h => h) (by rfl) hHeld ?_ ?_
  rotate_left
  · (intro w0 hSw; (try dsimp only at hSw); clear hSw; go_simp; try (with_reducible rfl))
  try simp only [Act.put, List.setIfInBounds_toArray, List.set_cons_zero, List.set_cons_succ]
  refine takeV (i := 23) (v := ?_) rfl (by kernel_rfl) (by kernel_rfl) (by kernel_rfl) (fun _ _ _ h => h) (by rfl) hHeld ?_ ?_
  rotate_left
  · (intro w0 hSw; (try dsimp only at hSw); clear hSw; go_simp; try (with_reducible rfl))
  try simp only [Act.put, List.setIfInBounds_toArray, List.set_cons_zero, List.set_cons_succ]
  refine takeV (i := 24) (v := ?_) rfl (by kernel_rfl) (by kernel_rfl) (by kernel_rfl) (fun _ _ _ h => h) (by rfl) hHeld ?_ ?_
  rotate_left
  · (intro w0 hSw; (try dsimp only at hSw); clear hSw; go_simp; try (with_reducible rfl))
  try simp only [Act.put, List.setIfInBounds_toArray, List.set_cons_zero, List.set_cons_succ]
  refine takeV (i := 25) (v := ?_) rfl (by kernel_rfl) (by kernel_rfl) (by kernel_rfl) (fun _ _ _ h => h) (by rfl) hHeld ?_ ?_
  rotate_left
  · (intro w0 hSw; (try dsimp only at hSw); clear hSw; go_simp; try (with_reducible rfl))
  try simp only [Act.put, List.setIfInBounds_toArray, List.set_cons_zero, List.set_cons_succ]
  refine takeV (i := 26) (v := ?_) rfl (by kernel_rfl) (by kernel_rfl) (by kernel_rfl) (fun _ _ _ h => h) (by rfl) hHeld ?_ ?_
  rotate_left
  · (intro w0 hSw; (try dsimp only at hSw); clear hSw; go_simp; try (with_reducible rfl))
  try simp only [Act.put, List.setIfInBounds_toArray, List.set_cons_zero, List.set_cons_succ]
  refine takeV (i := 27) (v := ?_) rfl (by kernel_rfl) (by kernel_rfl) (by kernel_rfl) (fun _ _ _ h => h) (by rfl) hHeld ?_ ?_
  rotate_left
  · (intro w0 hSw; (try dsimp only at hSw); clear hSw; go_simp; try (with_reducible rfl))
  try simp only [Act.put, List.setIfInBounds_toArray, List.set_cons_zero, List.set_cons_succ]
  refine takeV (i := 28) (v := ?_) rfl (by kernel_rfl) (by kernel_rfl) (by kernel_rfl) (fun _ _ _ h => h) (by rfl) hHeld ?_ ?_
  rotate_left
  · (intro w0 hSw; (try dsimp only at hSw); clear hSw; go_simp; try (with_reducible rfl))
  try simp only [Act.put, List.setIfInBounds_toArray, List.set_cons_zero, List.set_cons_succ]
  refine takeV (i := 29) (v := ?_) rfl (by kernel_rfl) (by kernel_rfl) (by kernel_rfl) (fun _ _ _ h => h) (by rfl) hHeld ?_ ?_
  rotate_left
  · (intro w0 hSw; (try dsimp only at hSw); have q0 := hSw.tl.box.c0; have q1 := hSw.tl.box.c1; have q2 := hSw.tl.box.c2; have q3 := hSw.tl.box.c3; have q4 := hSw.tl.box.c4; have q5 := hSw.tl.box.c5; clear hSw; go_simp; try (with_reducible rfl))
  try simp only [Act.put, List.setIfInBounds_toArray, List.set_cons_zero, List.set_cons_succ]
  refine takeV (i := 31) (v := ?_) rfl (by kernel_rfl) (by kernel_rfl) (by kernel_rfl) (fun _ _ _ h => h) (by rfl) hHeld ?_ ?_
  rotate_left
  · (intro w0 hSw; (try dsimp only at hSw); have q0 := hSw.tl.box.c0; have q1 := hSw.tl.box.c1; have q2 := hSw.tl.box.c2; have q3 := hSw.tl.box.c3; have q4 := hSw.tl.box.c4; have q5 := hSw.tl.box.c5; clear hSw; go_simp; try (with_reducible rfl))
  try simp only [Act.put, List.setIfInBounds_toArray, List.set_cons_zero, List.set_cons_succ]
  refine stepOne (i := 30) rfl (by kernel_rfl) (fun K hK => ?_)
  go_simp
  (go_at_call 12; refine (P7.out _ hHeld.tl.below).mono ?_; rintro e9 w9 ⟨rfl, hb9⟩)
  go_wp2_with fail
  refine hK.out _ _ (hHeld.on hb9) (fun hHeld => ?_)
  clear hK K
  try simp only [Act.put, List.setIfInBounds_toArray, List.set_cons_zero, List.set_cons_succ]
  refine stepOne (i := 32) rfl (by kernel_rfl) (fun K hK => ?_)
  go_simp
  (go_at_call 13; refine (P8.out _).mono ?_; rintro e9 w9 ⟨rfl, hb9⟩)
  go_wp2_with fail
  refine hK.out _ _ (hHeld.on hb9) (fun hHeld => ?_)
  clear hK K
  try simp only [Act.put, List.setIfInBounds_toArray, List.set_cons_zero, List.set_cons_succ]
  refine takeV (i := 33) (v := ?_) rfl (by kernel_rfl) (by kernel_rfl) (by kernel_rfl) (fun _ _ _ h => h) (by rfl) hHeld ?_ ?_
  rotate_left
  · (intro w0 hSw; (try dsimp only at hSw); clear hSw; go_simp; try (with_reducible rfl))
  try simp only [Act.put, List.setIfInBounds_toArray, List.set_cons_zero, List.set_cons_succ]
  refine takeV (i := 34) (v := ?_) rfl (by kernel_rfl) (by kernel_rfl) (by kernel_rfl) (fun _ _ _ h => h) (by rfl) hHeld ?_ ?_
  rotate_left
  · (intro w0 hSw; (try dsimp only at hSw); clear hSw; go_simp; try (with_reducible rfl))
  try simp only [Act.put, List.setIfInBounds_toArray, List.set_cons_zero, List.set_cons_succ]
  refine takeV (i := 35) (v := ?_) rfl (by kernel_rfl) (by kernel_rfl) (by kernel_rfl) (fun _ _ _ h => h) (by rfl) hHeld ?_ ?_
  rotate_left
  · (intro w0 hSw; (try dsimp only at hSw); clear hSw; go_simp; try (with_reducible rfl))
  try simp only [Act.put, List.setIfInBounds_toArray, List.set_cons_zero, List.set_cons_succ]
  refine takeV (i := 36) (v := ?_) rfl (by kernel_rfl) (by kernel_rfl) (by kernel_rfl) (fun _ _ _ h => h) (by rfl) hHeld ?_ ?_
  rotate_left
  · (intro w0 hSw; (try dsimp only at hSw); clear hSw; go_simp; try (with_reducible rfl))
  try simp only [Act.put, List.setIfInBounds_toArray, List.set_cons_zero, List.set_cons_succ]
  refine takeV (i := 38) (v := ?_) rfl (by kernel_rfl) (by kernel_rfl) (by kernel_rfl) (fun _ _ _ h => h) (by rfl) hHeld ?_ ?_
  rotate_left
  · (intro w0 hSw; (try dsimp only at hSw); clear hSw; go_simp; try (with_reducible rfl))
  try simp only [Act.put, List.setIfInBounds_toArray, List.set_cons_zero, List.set_cons_succ]
  refine stepOne (i := 37) rfl (by kernel_rfl) (fun K hK => ?_)
  go_simp
  (go_at_call 14; refine (P9.out _ hHeld.tl.below).mono ?_; rintro e9 w9 ⟨rfl, hb9⟩)
  go_wp2_with fail
  refine hK.out _ _ (hHeld.on hb9) (fun hHeld => ?_)
  clear hK K
  try simp only [Act.put, List.setIfInBounds_toArray, List.set_cons_zero, List.set_cons_succ]
  refine stepOne (i := 39) rfl (by kernel_rfl) (fun K hK => ?_)
  go_simp
  (go_at_call 15; refine (Pa.out _).mono ?_; rintro e9 w9 ⟨rfl, hb9⟩)
  go_wp2_with fail
  refine hK.out _ _ (hHeld.on hb9) (fun hHeld => ?_)
  clear hK K
  try simp only [Act.put, List.setIfInBounds_toArray, List.set_cons_zero, List.set_cons_succ]
  refine takeV (i := 40) (v := ?_) rfl (by kernel_rfl) (by kernel_rfl) (by kernel_rfl) (fun _ _ _ h => h) (by rfl) hHeld ?_ ?_
  rotate_left
  · (intro w0 hSw; (try dsimp only at hSw); clear hSw; go_simp; try (with_reducible rfl))
  try simp only [Act.put, List.setIfInBounds_toArray, List.set_cons_zero, List.set_cons_succ]
  refine takeV (i := 41) (v := ?_) rfl (by kernel_rfl) (by kernel_rfl) (by kernel_rfl) (fun _ _ _ h => h) (by rfl) hHeld ?_ ?_
  rotate_left
  · (intro w0 hSw; (try dsimp only at hSw); clear hSw; go_simp; try (with_reducible rfl))
  try simp only [Act.put, List.setIfInBounds_toArray, List.set_cons_zero, List.set_cons_succ]
  refine takeV (i := 42) (v := ?_) rfl (by kernel_rfl) (by kernel_rfl) (by kernel_rfl) (fun _ _ _ h => h) (by rfl) hHeld ?_ ?_
  rotate_left
  · (intro w0 hSw; (try dsimp only at hSw); clear hSw; go_simp; try (with_reducible rfl))
  try simp only [Act.put, List.setIfInBounds_toArray, List.set_cons_zero, List.set_cons_succ]
  refine takeV (i := 43) (v := ?_) rfl (by kernel_rfl) (by kernel_rfl) (by kernel_rfl) (fun _ _ _ h => h) (by rfl) hHeld ?_ ?_
  rotate_left
  · (intro w0 hSw; (try dsimp only at hSw); clear hSw; go_simp; try (with_reducible rfl))
  try simp only [Act.put, List.setIfInBounds_toArray, List.set_cons_zero, List.set_cons_succ]
  refine takeV (i := 45) (v := ?_) rfl (by kernel_rfl) (by kernel_rfl) (by kernel_rfl) (fun _ _ _ h => h) (by rfl) hHeld ?_ ?_
  rotate_left
  · (intro w0 hSw; (try dsimp only at hSw); clear hSw; go_simp; try (with_reducible rfl))
  try simp only [Act.put, List.setIfInBounds_toArray, List.set_cons_zero, List.set_cons_succ]
  refine stepOne (i := 44) rfl (by kernel_rfl) (fun K hK => ?_)
  go_simp
  (go_at_call 16; refine (Pb.out _ hHeld.tl.below).mono ?_; rintro e9 w9 ⟨rfl, hb9⟩)
  go_wp2_with fail
  refine hK.out _ _ (hHeld.on hb9) (fun hHeld => ?_)
  clear hK K
  try simp only [Act.put, List.setIfInBounds_toArray, List.set_cons_zero, List.set_cons_succ]
  refine stepOne (i := 46) rfl (by kernel_rfl) (fun K hK => ?_)
  go_simp
  (go_at_call 17; refine (Pd.out _).mono ?_; rintro e9 w9 ⟨rfl, hb9⟩)
  go_wp2_with fail
  refine hK.out _ _ (hHeld.on hb9) (fun hHeld => ?_)
  clear hK K
  try simp only [Act.put, List.setIfInBounds_toArray, List.set_cons_zero, List.set_cons_succ]
  refine takeV (i := 47) (v := ?_) rfl (by kernel_rfl) (by kernel_rfl) (by kernel_rfl) (fun _ _ _ h => h) (by rfl) hHeld ?_ ?_
  rotate_left
  · (intro w0 hSw; (try dsimp only at hSw); clear hSw; go_simp; try (with_reducible rfl))
  try simp only [Act.put, List.setIfInBounds_toArray, List.set_cons_zero, List.set_cons_succ]
  refine takeV (i := 48) (v := ?_) rfl (by kernel_rfl) (by kernel_rfl) (by kernel_rfl) (fun _ _ _ h => h) (by rfl) hHeld ?_ ?_
  rotate_left
  · (intro w0 hSw; (try dsimp only at hSw); clear hSw; go_simp; try (with_reducible rfl))
  try simp only [Act.put, List.setIfInBounds_toArray, List.set_cons_zero, List.set_cons_succ]
  refine takeV (i := 49) (v := ?_) rfl (by kernel_rfl) (by kernel_rfl) (by kernel_rfl) (fun _ _ _ h => h) (by rfl) hHeld ?_ ?_
  rotate_left
  · (intro w0 hSw; (try dsimp only at hSw); clear hSw; go_simp; try (with_reducible rfl))
  try simp only [Act.put, List.setIfInBounds_toArray, List.set_cons_zero, List.set_cons_succ]
  refine stepOne (i := 50) rfl (by kernel_rfl) (fun K hK => ?_)
  go_simp
  (go_at_call 18; refine (Pe.out _ hHeld.tl.below).mono ?_; rintro e9 w9 ⟨rfl, hb9⟩)
  go_wp2_with fail
  refine hK.out _ _ (hHeld.on hb9) (fun hHeld => ?_)
  clear hK K
  try simp only [Act.put, List.setIfInBounds_toArray, List.set_cons_zero, List.set_cons_succ]
  refine takeV (i := 51) (v := ?_) rfl (by kernel_rfl) (by kernel_rfl) (by kernel_rfl) (fun _ _ _ h => h) (by rfl) hHeld ?_ ?_
  rotate_left
  · (intro w0 hSw; (try dsimp only at hSw); clear hSw; go_simp; try (with_reducible rfl))
  try simp only [Act.put, List.setIfInBounds_toArray, List.set_cons_zero, List.set_cons_succ]
  refine takeV (i := 52) (v := ?_) rfl (by kernel_rfl) (by kernel_rfl) (by kernel_rfl) (fun _ _ _ h => h) (by rfl) hHeld ?_ ?_
  rotate_left
  · (intro w0 hSw; (try dsimp only at hSw); clear hSw; go_simp; try (with_reducible rfl))
  try simp only [Act.put, List.setIfInBounds_toArray, List.set_cons_zero, List.set_cons_succ]
  refine wpAnyH_done (by kernel_rfl) ?_ _
  go_wp2
  go_ret
  exact ⟨rfl, hHeld.tl.below⟩
end Go.Proofs.YtjibbppjdojbpaaDoor.Pcall
