/- What the document's Make, Get and Is of layer 10 answer and do, over its own memory. -/
import Derived.Test.YtlpnnpapeoahkaaDoorHdM
import Derived.Test.YtlpnnpapeoahkaaDoorHdF
namespace Go.Proofs.YtlpnnpapeoahkaaDoor
open Go.RowKit M
set_option linter.unusedVariables false

set_option maxRecDepth 100000 in
set_option maxHeartbeats 2000000 in
theorem hrmake_any (base q N : Nat) (f k l : Int) (z : Bool) (t : Int) (M : Nat → Nat → Int) (w : World) (hN1 : 1 ≤ N) (hN : N ≤ 64) (hR : RefIs w base q N M) :
    Calls Tryd.prog 10 #[.pointer (some ⟨q, 0, none⟩), .int .i64 f, .agg #[.int .i64 k, .int .i64 l, .bool z, .int .i64 t]] w fun e w' => e = .returned (.int .i64 (errP N f k l z t)) ∧ RefIs w' base q N (mkM N M f k l z t) ∧ Below base w w' := by
  have HI : Hid (Rf w (w.alloc (.cells #[.int .i64 k, .int .i64 l, .bool z, .int .i64 t] 33)) base q N M k l z t) := rf_new hR k l z t
  clear hR
  by_cases hp : Rt k l z t
  case neg =>
    rw [show errP N f k l z t = 1 by simp [errP, rtB_no hp], show mkM N M f k l z t = M by simp [mkM, rtB_no hp]]
    have hc : rtB k l z t = false := rtB_no hp
    clear hp
    go_enter Tryd.func10, Tryd.ntmps10
    go_wp2_with (first
      | (go_at_call 27; refine (right_any k l z t _).mono ?_; rintro e1 w1 ⟨rfl, hb1⟩; rw [hc]; have H1 : Hid (Rf w w1 base q N M k l z t) := HI.out.on hb1; clear hb1)
      | fail)
    go_ret
    exact ⟨rfl, H1.out.ref, H1.out.below⟩
  case pos =>
  have hc : rtB k l z t = true := rtB_yes hp
  have e1 : errP N f k l z t = errF N f := by simp [errP, hc]
  have e2 : mkM N M f k l z t = putM N (clM N M f) f k l z t := by simp [mkM, putM, hc]
  have e3 : putM N M f k l z t = st4 N M f (wd0 k l z) t 0 0 := by simp [putM, hc]
  clear hp
  cases hf : okF N f
  case false =>
    rw [e1, e2, clM_bad hf, e3, st4_bad hf, show errF N f = 1 by simp [errF, hf]]
    have he : errF N f = 1 := by simp [errF, hf]
    have hm : clM N M f = M := clM_bad hf M
    clear e1 e2 e3 hf
    go_enter Tryd.func10, Tryd.ntmps10
    go_wp2_with (first
      | (go_at_call 27; refine (right_any k l z t _).mono ?_; rintro e1 w1 ⟨rfl, hb1⟩; rw [hc]; have H1 : Hid (Rf w w1 base q N M k l z t) := HI.out.on hb1; clear hb1)
      | (go_at_call 31; refine (rclear_any base q N f M _ hN1 hN H1.out.ref).mono ?_; rintro e2 w2 ⟨rfl, hR2, hB2⟩; rw [he]; have H2 : Hid (RefIs w2 base q N M ∧ Below base w w2) := (by rw [hm] at hR2; exact ⟨hR2, H1.out.below.trans hB2⟩); clear hR2 hB2)
      | fail)
    go_ret
    exact ⟨rfl, H2.out.1, H2.out.2⟩
  case true =>
    have he : errF N f = 0 := by simp [errF, hf]
    rw [e2]
    obtain ⟨n, rfl, hn⟩ := okF_split hf
    rw [e1, he]
    have HF : Hid (n < N) := hn
    clear e2 e3 hf hn
    go_enter Tryd.func10, Tryd.ntmps10
    go_wp2_with (first
      | (go_at_call 27; refine (right_any k l z t _).mono ?_; rintro e1 w1 ⟨rfl, hb1⟩; rw [hc]; have H1 : Hid (Rf w w1 base q N M k l z t) := HI.out.on hb1; clear hb1)
      | (go_at_call 31; refine (rclear_keep base q N n M _ HF.out hN H1.out.ref).mono ?_; rintro e2 w2 ⟨rfl, hR2, hB2, hK2⟩; have H2 : Hid (Rf w w2 base q N (clM N M n) k l z t) := H1.out.turn hR2 hB2 hK2; clear hR2 hB2 hK2; have x0 := H2.out.box.is.c0; have x1 := H2.out.box.is.c1; have x2 := H2.out.box.is.c2; have x3 := H2.out.box.is.c3)
      | (go_at_call 8; refine (hrput_any base q N n k l z t (clM N M n) _ hN1 hN H2.out.ref).mono ?_; rintro e3 w3 ⟨rfl, hR3, hB3⟩; have H3 : Hid (RefIs w3 base q N (putM N (clM N M n) n k l z t) ∧ Below base w w3) := ⟨hR3, H2.out.below.trans hB3⟩; clear hR3 hB3)
      | fail)
    go_ret
    exact ⟨rfl, H3.out.1, H3.out.2⟩

/-! ### Get -/
/-- The first four words of a list, and the result's head. -/
structure RgI (w0 w : World) (b : Nat) (x y s r : Int) : Prop where
  below : Below w0.heap.size w0 w
  res : Box4 w w0.heap.size 0 0 false 0
  lt : b < w.heap.size
  c0 : w.cell? ⟨b, 0, none⟩ = some (.int .u64 x)
  c1 : w.cell? ⟨b, 1, none⟩ = some (.int .u64 y)
  c2 : w.cell? ⟨b, 2, none⟩ = some (.int .u64 s)
  c3 : w.cell? ⟨b, 3, none⟩ = some (.int .u64 r)
theorem RgI.on {w0 w w' : World} {b : Nat} {x y s r : Int} (h : RgI w0 w b x y s r) (hB : Below w.heap.size w w') : RgI w0 w' b x y s r :=
  ⟨h.below.trans (hB.mono h.below.size), h.res.on hB, Nat.lt_of_lt_of_le h.lt hB.size, (hB.cell (p := ⟨b, 0, none⟩) h.lt).trans h.c0, (hB.cell (p := ⟨b, 1, none⟩) h.lt).trans h.c1, (hB.cell (p := ⟨b, 2, none⟩) h.lt).trans h.c2, (hB.cell (p := ⟨b, 3, none⟩) h.lt).trans h.c3⟩
theorem rg_new {w w1 : World} {b f : Nat} {M : Nat → Nat → Int} {ty : TypeId} (hB : Below (w.alloc (.cells #[.int .i64 0, .int .i64 0, .bool false, .int .i64 0] ty)).heap.size (w.alloc (.cells #[.int .i64 0, .int .i64 0, .bool false, .int .i64 0] ty)) w1) (hc : ∀ j, j < 36 → w1.cell? ⟨b, 0 + j, none⟩ = some (.int .u64 (M f j))) : RgI w w1 b (M f 0) (M f 1) (M f 2) (M f 3) := by
  have h0 := hc 0 (by omega)
  have h1 := hc 1 (by omega)
  have h2 := hc 2 (by omega)
  have h3 := hc 3 (by omega)
  exact ⟨(bal (Below.refl _ _) _).trans (hB.mono (by simp)), (box4_new w 0 0 false 0 ty).on hB, World.block_lt_of_cell? w1 _ h0, h0, h1, h2, h3⟩
theorem ints_three (w : World) : Ints .i64 (w.alloc (.cells #[.int .i64 4, .int .i64 1, .int .i64 1] 3)).heap.size (w.alloc (.cells #[.int .i64 4, .int .i64 1, .int .i64 1] 3)) (.slice (some ⟨w.heap.size, 0, none⟩) ws.length 3) ws := by
  refine .inr ⟨w.heap.size, 0, 3, rfl, by simp, fun j hj => ?_⟩
  rw [Nat.zero_add, cell_of_row _ _ j _ _ _ (heap_alloc_new w _)]
  match j, hj with
  | 0, _ | 1, _ | 2, _ => rfl
theorem runpack_three (x : Int) (w : World) (hx : 0 ≤ x ∧ x ≤ 18446744073709551615) (hA : canU x ws) :
    Calls Tryd.prog 39 #[.slice (some ⟨w.heap.size, 0, none⟩) 3 3, .int .u64 x] (w.alloc (.cells #[.int .i64 4, .int .i64 1, .int .i64 1] 3)) fun e' W' => ∃ b o c, e' = .returned (.tuple #[.slice (some ⟨b, o, none⟩) 3 c, .int .i64 0]) ∧ Three W' b o x ∧ Below w.heap.size w W' :=
  (runpack_ok (some ⟨w.heap.size, 0, none⟩) 3 ws x _ (by decide) hx (ints_three w) hA).mono fun e' W' ⟨a, c, he, hi, hB⟩ => by
    obtain ⟨b, o, rfl, h5⟩ := three_of hi
    exact ⟨b, o, c, he, h5, (bal (Below.refl _ _) _).trans (hB.mono (by simp))⟩
theorem runpack_none (x : Int) (w : World) (hx : 0 ≤ x ∧ x ≤ 18446744073709551615) (hA : ¬ canU x ws) :
    Calls Tryd.prog 39 #[.slice (some ⟨w.heap.size, 0, none⟩) 3 3, .int .u64 x] (w.alloc (.cells #[.int .i64 4, .int .i64 1, .int .i64 1] 3)) fun e' W' => e' = .returned (.tuple #[.slice none 0 0, .int .i64 1]) ∧ Below w.heap.size w W' :=
  (runpack_bad (some ⟨w.heap.size, 0, none⟩) 3 ws x _ (by decide) hx (ints_three w) hA).mono fun e' W' ⟨he, hB⟩ => ⟨he, (bal (Below.refl _ _) _).trans (hB.mono (by simp))⟩
set_option maxRecDepth 100000 in
set_option maxHeartbeats 1000000 in
theorem hrget_out (base q N : Nat) (f : Int) (M : Nat → Nat → Int) (w : World) (hN1 : 1 ≤ N) (hN : N ≤ 64) (hR : RefIs w base q N M) (hf : okF N f = false) :
    Calls Tryd.prog 14 #[.pointer (some ⟨q, 0, none⟩), .int .i64 f] w fun e w' => e = .returned (.tuple #[.agg #[.int .i64 0, .int .i64 0, .bool false, .int .i64 0], .int .i64 1]) ∧ Below w.heap.size w w' := by
  have HB := box4_new w 0 0 false 0 33
  have HW : Hid (∀ o, RefIs (w.alloc o) base q N M) := fun o => hR.alloc o
  clear hR
  go_enter Tryd.func14, Tryd.ntmps14
  go_upto_region 1 with fail
  have HL := bal (Below.refl w.heap.size w) (.cells #[.int .i64 0, .int .i64 0, .bool false, .int .i64 0] 33)
  have HV := HW.out (.cells #[.int .i64 0, .int .i64 0, .bool false, .int .i64 0] 33)
  generalize w.alloc _ = w1 at HB HL HV ⊢
  have H1 : Hid (RefIs w1 base q N M) := HV
  have H2 : Hid (Below w.heap.size w w1) := HL
  have x0 := HB.c0
  have x1 := HB.c1
  have x2 := HB.c2
  have x3 := HB.c3
  have z0 := HB.fz 0
  have z1 := HB.fz 1
  have z2 := HB.fz 2
  have z3 := HB.fz 3
  clear HB HL HV HW
  go_wp2_with (first
    | (go_at_call 38; refine (rwords_bad base q N f M _ hf hN1 hN H1.out).mono ?_; rintro e2 w2 ⟨rfl, hw2⟩; subst hw2)
    | fail)
  refine bodyPost_ret (v := .tuple #[.agg #[.int .i64 0, .int .i64 0, .bool false, .int .i64 0], .int .i64 1]) (by simp [results, Tryd.results14, go_sem, x0, x1, x2, x3]) rfl ⟨rfl, ?_⟩
  exact bst (bst (bst (bst H2.out (Nat.le_refl _) _ _) (Nat.le_refl _) _ _) (Nat.le_refl _) _ _) (Nat.le_refl _) _ _
set_option maxRecDepth 100000 in
set_option maxHeartbeats 4000000 in
theorem hrget_in (base q N f : Nat) (M : Nat → Nat → Int) (x y s r : Int) (w : World) (hN : N ≤ 64) (hR : RefIs w base q N M) (hf : f < N) (EX : Hid (M f 0 = x)) (EY : Hid (M f 1 = y)) (ES : Hid (M f 2 = s)) (ER : Hid (M f 3 = r)) (hx : 0 ≤ x ∧ x ≤ 18446744073709551615) (hy : 0 ≤ y) :
    Calls Tryd.prog 14 #[.pointer (some ⟨q, 0, none⟩), .int .i64 f] w fun e w' => e = .returned (.tuple #[.agg #[.int .i64 (getK x y s r), .int .i64 (getL x y s r), .bool (getZ x y s r), .int .i64 (getT x y s r)], .int .i64 (getE x y s r)]) ∧ Below w.heap.size w w' := by
  have HV : Hid (RefIs w base q N M) := hR
  have HF : Hid (f < N) := hf
  have HX : Hid (0 ≤ x ∧ x ≤ 18446744073709551615) := hx
  clear hR hf hx
  by_cases hc : canU x ws
  case neg =>
    obtain ⟨r0, r1, r2, r3, r4⟩ := hget_no (x := x) (y := y) (u := s) (v := r) fun h => hc h.1
    rw [r0, r1, r2, r3, r4]
    have HC : Hid (¬ canU x ws) := hc
    clear r0 r1 r2 r3 r4 hc hy
    go_enter Tryd.func14, Tryd.ntmps14
    go_upto_region 4 with (first
      | (go_at_call 38; refine (rwords_ok base q N f M _ HF.out hN (HV.out.alloc _)).mono ?_; rintro e1 w1 ⟨b, cb, rfl, hc1, hb1⟩; have hI := rg_new hb1 hc1; rw [EX.out, EY.out, ES.out, ER.out] at hI; have H1 : Hid (RgI w w1 b x y s r) := hI; clear hc1 hb1 hI)
      | fail)
    have a0 := H1.out.c0
    have al := H1.out.lt
    go_upto_region 5 with (first
      | (go_at_call 39; refine (runpack_none x _ HX.out HC.out).mono ?_; rintro e2 w2 ⟨rfl, hb2⟩; have H2 : Hid (RgI w w2 b x y s r) := H1.out.on hb2; clear hb2 a0 al)
      | fail)
    have x0 := H2.out.res.c0
    have x1 := H2.out.res.c1
    have x2 := H2.out.res.c2
    have x3 := H2.out.res.c3
    have z0 := H2.out.res.fz 0
    have z1 := H2.out.res.fz 1
    have z2 := H2.out.res.fz 2
    have z3 := H2.out.res.fz 3
    go_wp2
    refine bodyPost_ret (v := .tuple #[.agg #[.int .i64 0, .int .i64 0, .bool false, .int .i64 0], .int .i64 12]) (by simp [results, Tryd.results14, go_sem, x0, x1, x2, x3]) rfl ⟨rfl, ?_⟩
    exact bst (bst (bst (bst H2.out.below (Nat.le_refl _) _ _) (Nat.le_refl _) _ _) (Nat.le_refl _) _ _) (Nat.le_refl _) _ _
  case pos =>
  have HC : Hid (canU x ws) := hc
  clear hc
  by_cases h1 : 1073741824 < y
  case pos =>
    obtain ⟨r0, r1, r2, r3, r4⟩ := hget_no (x := x) (y := y) (u := s) (v := r) fun h => by have := h.2.1; omega
    rw [r0, r1, r2, r3, r4]
    clear r0 r1 r2 r3 r4
    go_enter Tryd.func14, Tryd.ntmps14
    go_upto_region 4 with (first
      | (go_at_call 38; refine (rwords_ok base q N f M _ HF.out hN (HV.out.alloc _)).mono ?_; rintro e1 w1 ⟨b, cb, rfl, hc1, hb1⟩; have hI := rg_new hb1 hc1; rw [EX.out, EY.out, ES.out, ER.out] at hI; have H1 : Hid (RgI w w1 b x y s r) := hI; clear hc1 hb1 hI)
      | fail)
    have a0 := H1.out.c0
    have al := H1.out.lt
    go_upto_region 5 with (first
      | (go_at_call 39; refine (runpack_three x _ HX.out HC.out).mono ?_; rintro e2 w2 ⟨b2, o2, c2, rfl, h3, hb2⟩; have H2 : Hid (RgI w w2 b x y s r) := H1.out.on hb2; have H3 : Hid (Three w2 b2 o2 x) := h3; clear h3 hb2 a0 al)
      | fail)
    have a1 := H2.out.c1
    have a2 := H2.out.c2
    have a3 := H2.out.c3
    have x0 := H2.out.res.c0
    have x1 := H2.out.res.c1
    have x2 := H2.out.res.c2
    have x3 := H2.out.res.c3
    have z0 := H2.out.res.fz 0
    have z1 := H2.out.res.fz 1
    have z2 := H2.out.res.fz 2
    have z3 := H2.out.res.fz 3
    go_wp2
    refine bodyPost_ret (v := .tuple #[.agg #[.int .i64 0, .int .i64 0, .bool false, .int .i64 0], .int .i64 12]) (by simp [results, Tryd.results14, go_sem, x0, x1, x2, x3]) rfl ⟨rfl, ?_⟩
    exact bst (bst (bst (bst H2.out.below (Nat.le_refl _) _ _) (Nat.le_refl _) _ _) (Nat.le_refl _) _ _) (Nat.le_refl _) _ _
  case neg =>
  by_cases h2 : s = 0
  case neg =>
    obtain ⟨r0, r1, r2, r3, r4⟩ := hget_no (x := x) (y := y) (u := s) (v := r) fun h => h2 h.2.2.1
    rw [r0, r1, r2, r3, r4]
    clear r0 r1 r2 r3 r4
    have b2 : (s != 0) = true := by simp [h2]
    clear h2
    go_enter Tryd.func14, Tryd.ntmps14
    go_upto_region 4 with (first
      | (go_at_call 38; refine (rwords_ok base q N f M _ HF.out hN (HV.out.alloc _)).mono ?_; rintro e1 w1 ⟨b, cb, rfl, hc1, hb1⟩; have hI := rg_new hb1 hc1; rw [EX.out, EY.out, ES.out, ER.out] at hI; have H1 : Hid (RgI w w1 b x y s r) := hI; clear hc1 hb1 hI)
      | fail)
    have a0 := H1.out.c0
    have al := H1.out.lt
    go_upto_region 5 with (first
      | (go_at_call 39; refine (runpack_three x _ HX.out HC.out).mono ?_; rintro e2 w2 ⟨b2, o2, c2, rfl, h3, hb2⟩; have H2 : Hid (RgI w w2 b x y s r) := H1.out.on hb2; have H3 : Hid (Three w2 b2 o2 x) := h3; clear h3 hb2 a0 al)
      | fail)
    have a1 := H2.out.c1
    have a2 := H2.out.c2
    have a3 := H2.out.c3
    have x0 := H2.out.res.c0
    have x1 := H2.out.res.c1
    have x2 := H2.out.res.c2
    have x3 := H2.out.res.c3
    have z0 := H2.out.res.fz 0
    have z1 := H2.out.res.fz 1
    have z2 := H2.out.res.fz 2
    have z3 := H2.out.res.fz 3
    go_wp2
    refine bodyPost_ret (v := .tuple #[.agg #[.int .i64 0, .int .i64 0, .bool false, .int .i64 0], .int .i64 12]) (by simp [results, Tryd.results14, go_sem, x0, x1, x2, x3]) rfl ⟨rfl, ?_⟩
    exact bst (bst (bst (bst H2.out.below (Nat.le_refl _) _ _) (Nat.le_refl _) _ _) (Nat.le_refl _) _ _) (Nat.le_refl _) _ _
  case pos =>
  by_cases h3 : r = 0
  case neg =>
    obtain ⟨r0, r1, r2, r3, r4⟩ := hget_no (x := x) (y := y) (u := s) (v := r) fun h => h3 h.2.2.2.1
    rw [r0, r1, r2, r3, r4]
    clear r0 r1 r2 r3 r4
    have b3 : (r != 0) = true := by simp [h3]
    subst h2
    clear h3
    go_enter Tryd.func14, Tryd.ntmps14
    go_upto_region 4 with (first
      | (go_at_call 38; refine (rwords_ok base q N f M _ HF.out hN (HV.out.alloc _)).mono ?_; rintro e1 w1 ⟨b, cb, rfl, hc1, hb1⟩; have hI := rg_new hb1 hc1; rw [EX.out, EY.out, ES.out, ER.out] at hI; have H1 : Hid (RgI w w1 b x y 0 r) := hI; clear hc1 hb1 hI)
      | fail)
    have a0 := H1.out.c0
    have al := H1.out.lt
    go_upto_region 5 with (first
      | (go_at_call 39; refine (runpack_three x _ HX.out HC.out).mono ?_; rintro e2 w2 ⟨b2, o2, c2, rfl, h3, hb2⟩; have H2 : Hid (RgI w w2 b x y 0 r) := H1.out.on hb2; have H3 : Hid (Three w2 b2 o2 x) := h3; clear h3 hb2 a0 al)
      | fail)
    have a1 := H2.out.c1
    have a2 := H2.out.c2
    have a3 := H2.out.c3
    have x0 := H2.out.res.c0
    have x1 := H2.out.res.c1
    have x2 := H2.out.res.c2
    have x3 := H2.out.res.c3
    have z0 := H2.out.res.fz 0
    have z1 := H2.out.res.fz 1
    have z2 := H2.out.res.fz 2
    have z3 := H2.out.res.fz 3
    go_wp2
    refine bodyPost_ret (v := .tuple #[.agg #[.int .i64 0, .int .i64 0, .bool false, .int .i64 0], .int .i64 12]) (by simp [results, Tryd.results14, go_sem, x0, x1, x2, x3]) rfl ⟨rfl, ?_⟩
    exact bst (bst (bst (bst H2.out.below (Nat.le_refl _) _ _) (Nat.le_refl _) _ _) (Nat.le_refl _) _ _) (Nat.le_refl _) _ _
  case pos =>
  subst h2
  subst h3
  obtain ⟨⟨p0, q0⟩, ⟨p1, q1⟩, _⟩ := gN_bd HX.out HC.out
  have d0 : IntKind.i64.wrap (gN x 0) = gN x 0 := wrap_small p0 (by omega)
  have d1 : IntKind.i64.wrap (gN x 1) = gN x 1 := wrap_small p1 (by omega)
  have dv : IntKind.i64.wrap y = y := wrap_small hy (by omega)
  clear p0 q0 p1 q1
  by_cases hg : Rt (gN x 0) (gN x 1) (gN x 2 == 1) y
  case neg =>
    obtain ⟨r0, r1, r2, r3, r4⟩ := hget_no (x := x) (y := y) (u := 0) (v := 0) fun h => hg h.2.2.2.2
    rw [r0, r1, r2, r3, r4]
    clear r0 r1 r2 r3 r4
    have hr : rtB (gN x 0) (gN x 1) (gN x 2 == 1) y = false := rtB_no hg
    clear hg
    go_enter Tryd.func14, Tryd.ntmps14
    go_upto_region 4 with (first
      | (go_at_call 38; refine (rwords_ok base q N f M _ HF.out hN (HV.out.alloc _)).mono ?_; rintro e1 w1 ⟨b, cb, rfl, hc1, hb1⟩; have hI := rg_new hb1 hc1; rw [EX.out, EY.out, ES.out, ER.out] at hI; have H1 : Hid (RgI w w1 b x y 0 0) := hI; clear hc1 hb1 hI)
      | fail)
    have a0 := H1.out.c0
    have al := H1.out.lt
    go_upto_region 5 with (first
      | (go_at_call 39; refine (runpack_three x _ HX.out HC.out).mono ?_; rintro e2 w2 ⟨b2, o2, c2, rfl, h3, hb2⟩; have H2 : Hid (RgI w w2 b x y 0 0) := H1.out.on hb2; have H3 : Hid (Three w2 b2 o2 x) := h3; clear h3 hb2 a0 al)
      | fail)
    have a1 := H2.out.c1
    have a2 := H2.out.c2
    have a3 := H2.out.c3
    have f0 := H3.out.c0
    have f1 := H3.out.c1
    have f2 := H3.out.c2
    have fl := H3.out.lt
    have al := H2.out.lt
    go_wp2
    go_region_held3 (fun w' => w'.cell? ⟨b2, o2, none⟩ = some (.int .u64 (gN x 0)) ∧ w'.cell? ⟨b2, o2 + 1, none⟩ = some (.int .u64 (gN x 1)) ∧ w'.cell? ⟨b2, o2 + 2, none⟩ = some (.int .u64 (gN x 2)) ∧ w'.cell? ⟨b, 1, none⟩ = some (.int .u64 y)) (first | exact ⟨by assumption, by assumption, by assumption, by assumption⟩ | go_keep)
    (fail)
    try simp only [d0, d1, dv]
    have hbx := (box4_new w2 (gN x 0) (gN x 1) (gN x 2 == 1) y 33).on (Below.refl _ _).drew
    have hho := H2.out.on (bal (Below.refl _ _) (.cells #[.int .i64 (gN x 0), .int .i64 (gN x 1), .bool (gN x 2 == 1), .int .i64 y] 33)).drew
    have hne : w.heap.size < w2.heap.size := H2.out.res.lt
    clear f0 f1 f2 fl a1 a2 a3 al H3
    generalize (w2.alloc _).drew = w5 at hbx hho ⊢
    have H5 : Hid (RgI w w5 b x y 0 0) := hho
    have HP : Hid (Box4 w5 w2.heap.size (gN x 0) (gN x 1) (gN x 2 == 1) y) := hbx
    have y0 := hbx.c0
    have y1 := hbx.c1
    have y2 := hbx.c2
    have y3 := hbx.c3
    clear hbx hho
    generalize w2.heap.size = D at HP hne y0 y1 y2 y3 ⊢
    have HQ : Hid (w.heap.size < D) := hne
    clear hne
    go_wp2_with (first
      | (go_at_call 27; refine (right_any _ _ _ _ _).mono ?_; rintro e6 w6 ⟨rfl, hb⟩; rw [hr]; have H6 : Hid (RgI w w6 b x y 0 0) := H5.out.on hb; have HP6 := HP.out.on hb; clear y0 y1 y2 y3 hb; have y0 := HP6.c0; have y1 := HP6.c1; have y2 := HP6.c2; have y3 := HP6.c3; clear HP6; have x0 := H6.out.res.c0; have x1 := H6.out.res.c1; have x2 := H6.out.res.c2; have x3 := H6.out.res.c3; have z0 := H6.out.res.fz 0; have z1 := H6.out.res.fz 1; have z2 := H6.out.res.fz 2; have z3 := H6.out.res.fz 3; have ne1 : ¬ D = w.heap.size := Nat.ne_of_gt HQ.out; have ne2 : ¬ w.heap.size = D := Nat.ne_of_lt HQ.out)
      | fail)
    refine bodyPost_ret (v := .tuple #[.agg #[.int .i64 0, .int .i64 0, .bool false, .int .i64 0], .int .i64 12]) (by simp [results, Tryd.results14, go_sem, x0, x1, x2, x3]) rfl ⟨rfl, ?_⟩
    exact bst (bst (bst (bst H6.out.below (Nat.le_refl _) _ _) (Nat.le_refl _) _ _) (Nat.le_refl _) _ _) (Nat.le_refl _) _ _
  case pos =>
    obtain ⟨r0, r1, r2, r3, r4⟩ := hget_yes (x := x) (y := y) (u := 0) (v := 0) ⟨HC.out, by omega, rfl, rfl, hg⟩
    rw [r0, r1, r2, r3, r4]
    have hr : rtB (gN x 0) (gN x 1) (gN x 2 == 1) y = true := rtB_yes hg
    clear r0 r1 r2 r3 r4 hg
    go_enter Tryd.func14, Tryd.ntmps14
    go_upto_region 4 with (first
      | (go_at_call 38; refine (rwords_ok base q N f M _ HF.out hN (HV.out.alloc _)).mono ?_; rintro e1 w1 ⟨b, cb, rfl, hc1, hb1⟩; have hI := rg_new hb1 hc1; rw [EX.out, EY.out, ES.out, ER.out] at hI; have H1 : Hid (RgI w w1 b x y 0 0) := hI; clear hc1 hb1 hI)
      | fail)
    have a0 := H1.out.c0
    have al := H1.out.lt
    go_upto_region 5 with (first
      | (go_at_call 39; refine (runpack_three x _ HX.out HC.out).mono ?_; rintro e2 w2 ⟨b2, o2, c2, rfl, h3, hb2⟩; have H2 : Hid (RgI w w2 b x y 0 0) := H1.out.on hb2; have H3 : Hid (Three w2 b2 o2 x) := h3; clear h3 hb2 a0 al)
      | fail)
    have a1 := H2.out.c1
    have a2 := H2.out.c2
    have a3 := H2.out.c3
    have f0 := H3.out.c0
    have f1 := H3.out.c1
    have f2 := H3.out.c2
    have fl := H3.out.lt
    have al := H2.out.lt
    go_wp2
    go_region_held3 (fun w' => w'.cell? ⟨b2, o2, none⟩ = some (.int .u64 (gN x 0)) ∧ w'.cell? ⟨b2, o2 + 1, none⟩ = some (.int .u64 (gN x 1)) ∧ w'.cell? ⟨b2, o2 + 2, none⟩ = some (.int .u64 (gN x 2)) ∧ w'.cell? ⟨b, 1, none⟩ = some (.int .u64 y)) (first | exact ⟨by assumption, by assumption, by assumption, by assumption⟩ | go_keep)
    (fail)
    try simp only [d0, d1, dv]
    have hbx := (box4_new w2 (gN x 0) (gN x 1) (gN x 2 == 1) y 33).on (Below.refl _ _).drew
    have hho := H2.out.on (bal (Below.refl _ _) (.cells #[.int .i64 (gN x 0), .int .i64 (gN x 1), .bool (gN x 2 == 1), .int .i64 y] 33)).drew
    have hne : w.heap.size < w2.heap.size := H2.out.res.lt
    clear f0 f1 f2 fl a1 a2 a3 al H3
    generalize (w2.alloc _).drew = w5 at hbx hho ⊢
    have H5 : Hid (RgI w w5 b x y 0 0) := hho
    have HP : Hid (Box4 w5 w2.heap.size (gN x 0) (gN x 1) (gN x 2 == 1) y) := hbx
    have y0 := hbx.c0
    have y1 := hbx.c1
    have y2 := hbx.c2
    have y3 := hbx.c3
    clear hbx hho
    generalize w2.heap.size = D at HP hne y0 y1 y2 y3 ⊢
    have HQ : Hid (w.heap.size < D) := hne
    clear hne
    go_wp2_with (first
      | (go_at_call 27; refine (right_any _ _ _ _ _).mono ?_; rintro e6 w6 ⟨rfl, hb⟩; rw [hr]; have H6 : Hid (RgI w w6 b x y 0 0) := H5.out.on hb; have HP6 := HP.out.on hb; clear y0 y1 y2 y3 hb; have y0 := HP6.c0; have y1 := HP6.c1; have y2 := HP6.c2; have y3 := HP6.c3; clear HP6; have x0 := H6.out.res.c0; have x1 := H6.out.res.c1; have x2 := H6.out.res.c2; have x3 := H6.out.res.c3; have z0 := H6.out.res.fz 0; have z1 := H6.out.res.fz 1; have z2 := H6.out.res.fz 2; have z3 := H6.out.res.fz 3; have ne1 : ¬ D = w.heap.size := Nat.ne_of_gt HQ.out; have ne2 : ¬ w.heap.size = D := Nat.ne_of_lt HQ.out)
      | fail)
    refine bodyPost_ret (v := .tuple #[.agg #[.int .i64 (gN x 0), .int .i64 (gN x 1), .bool (gN x 2 == 1), .int .i64 y], .int .i64 0]) (by simp [results, Tryd.results14, go_sem, x0, x1, x2, x3]) rfl ⟨rfl, ?_⟩
    exact bst (bst (bst (bst H6.out.below (Nat.le_refl _) _ _) (Nat.le_refl _) _ _) (Nat.le_refl _) _ _) (Nat.le_refl _) _ _
theorem hrget_any (base q N : Nat) (f : Int) (M : Nat → Nat → Int) (w : World) (hN1 : 1 ≤ N) (hN : N ≤ 64) (hR : RefIs w base q N M) (hF : Fit M) :
    Calls Tryd.prog 14 #[.pointer (some ⟨q, 0, none⟩), .int .i64 f] w fun e w' => e = .returned (.tuple #[.agg #[.int .i64 (ghK N M f), .int .i64 (ghL N M f), .bool (ghZ N M f), .int .i64 (ghT N M f)], .int .i64 (ghE N M f)]) ∧ Below w.heap.size w w' := by
  cases hf : okF N f
  · simp only [ghK, ghL, ghZ, ghT, ghE, hf, Bool.false_and, Bool.false_eq_true, if_false]
    exact hrget_out base q N f M w hN1 hN hR hf
  · simp only [ghK, ghL, ghZ, ghT, ghE, hf, Bool.true_and, if_true]
    obtain ⟨n, rfl, hn⟩ := okF_split hf
    simp only [Int.toNat_natCast]
    exact hrget_in base q N n M _ _ _ _ w hN hR hn rfl rfl rfl rfl (hF n 0) (hF n 1).1
set_option maxRecDepth 100000 in
theorem hris_any (base q N : Nat) (f c : Int) (M : Nat → Nat → Int) (w : World) (hN1 : 1 ≤ N) (hN : N ≤ 64) (hR : RefIs w base q N M) (hF : Fit M) :
    Calls Tryd.prog 16 #[.pointer (some ⟨q, 0, none⟩), .int .i64 f, .int .i64 c] w fun e w' => e = .returned (.int .i64 (isE N M f c)) ∧ Below w.heap.size w w' := by
  have HG : Hid (Calls Tryd.prog 14 #[.pointer (some ⟨q, 0, none⟩), .int .i64 f] w fun e w' => e = .returned (.tuple #[.agg #[.int .i64 (ghK N M f), .int .i64 (ghL N M f), .bool (ghZ N M f), .int .i64 (ghT N M f)], .int .i64 (ghE N M f)]) ∧ Below w.heap.size w w') := hrget_any base q N f M w hN1 hN hR hF
  clear hR hF
  unfold isE
  generalize ghK N M f = K at HG ⊢
  generalize ghL N M f = L at HG
  generalize ghZ N M f = Z at HG
  generalize ghT N M f = T at HG
  generalize ghE N M f = E at HG ⊢
  by_cases hE : E = 0
  · subst hE
    simp only [if_true]
    by_cases hK : K = c
    · subst hK
      simp only [if_true]
      go_enter Tryd.func16, Tryd.ntmps16
      go_wp2_with (first
        | (go_at_call 14; refine HG.out.mono ?_; rintro e1 w1 ⟨rfl, hb⟩; have H1 : Hid (Below w.heap.size w w1) := hb; clear hb)
        | fail)
      go_ret
      exact ⟨rfl, bal H1.out _⟩
    · have hk : (K != c) = true := by simp [hK]
      simp only [hK, if_false]
      go_enter Tryd.func16, Tryd.ntmps16
      go_wp2_with (first
        | (go_at_call 14; refine HG.out.mono ?_; rintro e1 w1 ⟨rfl, hb⟩; have H1 : Hid (Below w.heap.size w w1) := hb; clear hb)
        | fail)
      go_ret
      exact ⟨rfl, bal H1.out _⟩
  · have he : (E != 0) = true := by simp [hE]
    simp only [hE, if_false]
    go_enter Tryd.func16, Tryd.ntmps16
    go_wp2_with (first
      | (go_at_call 14; refine HG.out.mono ?_; rintro e1 w1 ⟨rfl, hb⟩; have H1 : Hid (Below w.heap.size w w1) := hb; clear hb)
      | fail)
    go_ret
    exact ⟨rfl, bal H1.out _⟩
end Go.Proofs.YtlpnnpapeoahkaaDoor
