/- What the document's Put and Get of layer 24 answer, for every call and every word (written by mk_t.py). -/
import Derived.Test.YtjibbppjdojbpaaDoorCalS
import Derived.OwnWalk
namespace Go.Proofs.YtjibbppjdojbpaaDoor.Pcall
open Go.Proofs.YtjibbppjdojbpaaDoor.Pbase Go.Proofs.YtjibbppjdojbpaaDoor.Pfield
open Go.RowKit M
set_option linter.unusedVariables false

theorem CkI.up {w W W' : World} {x : Cl} (h : CkI w W x) (hB : Below (w.heap.size + 1) W W') : CkI w W' x :=
  ⟨⟨(hB.block w.heap.size (Nat.lt_succ_self _)).trans h.box.row⟩, h.below.trans (hB.mono (Nat.le_succ _))⟩
theorem ints_wl {w : World} {B : Nat} (h : RowX w B wlV) : Ints .i64 w.heap.size w (.slice (some ⟨B, 0, none⟩) 6 6) wl := by
  refine .inr ⟨B, 0, 6, rfl, h.lt, fun j hj => ?_⟩
  rw [Nat.zero_add, h.cell j]
  match j, hj with
  | 0, _ | 1, _ | 2, _ | 3, _ | 4, _ | 5, _ => rfl
theorem ints_up {q : IntKind} {w W : World} {sv : Value} {zs : List Int} (hB : Below w.heap.size w W) (h : Ints q w.heap.size w sv zs) : Ints q W.heap.size W sv zs := by
  rcases h.below hB with h | ⟨b, off, cap, e, hb, hc⟩
  · exact .inl h
  · exact .inr ⟨b, off, cap, e, Nat.lt_of_lt_of_le hb hB.size, hc⟩
/-! ### Put -/
def vsL (x : Cl) (m : Nat) : List Value := (x.l.take m).map fun z => .int .u64 z
theorem vsL_step (x : Cl) {k : Nat} (hk : k < 5) : vsL x (k + 1) ++ [.int .u64 (x.v k)] = vsL x (k + 1 + 1) := by
  rcases (show k = 0 ∨ k = 1 ∨ k = 2 ∨ k = 3 ∨ k = 4 by omega) with rfl | rfl | rfl | rfl | rfl <;> rfl
theorem one_row (w : World) (v : Int) : (w.alloc (.cells #[.int .u64 v] 25)).ownsRow w.heap.size 25 1 (.slice (some ⟨w.heap.size, 0, none⟩) 1 1) 1 [.int .u64 v] :=
  ⟨rfl, .inr ⟨w.heap.size, 1, #[.int .u64 v], rfl, Nat.le_refl _, heap_alloc_new w _, Nat.le_refl _, by decide, rfl, rfl⟩⟩
theorem v_bd {x : Cl} (h : rcB x = true) {k : Nat} (hk : k < 5) : 0 ≤ x.v k ∧ x.v k ≤ 65535 := by
  obtain ⟨h0, h1, h2, h3, h4, h5⟩ := rc_bd h
  rcases (show k = 0 ∨ k = 1 ∨ k = 2 ∨ k = 3 ∨ k = 4 by omega) with rfl | rfl | rfl | rfl | rfl <;> simp only [Cl.v] <;> omega
set_option maxRecDepth 100000 in
set_option maxHeartbeats 4000000 in
theorem rput_any (x : Cl) (hx : Fc x) (w : World) : Calls Tryd.prog 7 #[.agg #[.int .i64 x.n, .int .i64 x.a, .int .i64 x.b, .int .i64 x.c, .int .i64 x.d, .int .i64 x.e]] w fun e w' => e = .returned (.tuple #[.int .u64 (putW x), .int .i64 (kcE x)]) ∧ Below w.heap.size w w' := by
  have HC : Hid (∀ wc, CkI w wc x → Calls Tryd.prog 13 #[.agg #[.int .i64 x.n, .int .i64 x.a, .int .i64 x.b, .int .i64 x.c, .int .i64 x.d, .int .i64 x.e]] wc fun e w' => e = .returned (.int .i64 (kcE x)) ∧ CkI w w' x) := fun wc h => (rcheck_any x hx wc).mono fun e w' ⟨h1, h2⟩ => ⟨h1, h.on h2⟩
  have H0 := chide (ckI_new w x)
  clear hx
  by_cases hr : rcB x = true
  · rw [kc_yes hr] at HC ⊢
    rw [putW_yes hr]
    obtain ⟨⟨n0, n1⟩, _⟩ := rc_bd hr
    have u0 : IntKind.u64.wrap x.n = x.n := wrapu_small (by omega) (by omega)
    have HV := chide (fun k (hk : k < 5) => v_bd hr hk)
    have HP : Hid (∀ wc v, CkI w wc x → wc.ownsRow (w.heap.size + 1) 25 1 v 6 (vsL x 6) → ∀ W B, Below wc.heap.size wc W → RowX W B wlV → Calls Tryd.prog 20 #[.slice (some ⟨B, 0, none⟩) 6 6, v] W fun e w' => e = .returned (.tuple #[.int .u64 (wd x), .int .i64 0]) ∧ Below W.heap.size W w') := fun wc v hc ho W B hB hR => by
      obtain ⟨a, c, rfl, hi⟩ := ints_of_row ho (show x.l.length = 6 from rfl)
      exact rpack_ok _ _ 6 c wl x.l W (by decide) rfl (put_can hr).1 (ints_wl hR) (ints_up hB hi) (put_can hr).2
    clear hr n0 n1
    generalize wd x = r at HP ⊢
    obtain ⟨it, hi, hz0, hz1, hz2⟩ := info_parts infoWord
    go_enter Tryd.func7, Tryd.ntmps7
    go_upto_region 1 with fail
    generalize w.alloc _ = w1 at H0 ⊢
    have q0 := H0.out.box.c0
    have q1 := H0.out.box.c1
    have q2 := H0.out.box.c2
    have q3 := H0.out.box.c3
    have q4 := H0.out.box.c4
    have q5 := H0.out.box.c5
    go_upto_region 3 with (first
      | (go_at_call 13; refine (HC.out _ H0.out).mono ?_; rintro e1 w2 ⟨rfl, hb⟩; have H1 := chide hb; clear hb HC H0; have y0 := H1.out.box.c0)
      | fail)
    clear q0 q1 q2 q3 q4 q5
    go_wp2
    go_loopw [4, 5] (fun s i wr => ∃ (k : Nat) (v : Value), k ≤ 5 ∧ i = .int .i64 k ∧ s = v ∧ wr.ownsRow (w.heap.size + 1) 25 1 v (k + 1) (vsL x (k + 1)) ∧ CkI w wr x) (fun _ i _ => 5 - (intOf i).toNat)
    case atStart => exact ⟨0, _, by omega, rfl, rfl, ownsRow_from (one_row w2 x.n) (Nat.succ_le_of_lt H1.out.box.lt), H1.out.on (bal (Below.refl _ _) _)⟩
    case round =>
      obtain ⟨k, v, hk, rfl, hv, hrow, hI⟩ := hrel
      obtain ⟨av, cv, hvs⟩ := ownsRow_slice hrow
      subst hv
      subst hvs
      have HI := chide hI
      clear hI H1 y0
      by_cases hlt : k < 5
      · have h3 : (k : Int) < 5 := by omega
        have q1 := v_cell HI.out.box hlt
        obtain ⟨b0, b1⟩ := HV.out k hlt
        have u1 : IntKind.u64.wrap (x.v k) = x.v k := wrapu_small (by omega) (by omega)
        have HE := chide (vsL_step x hlt)
        generalize x.v k = z at q1 b0 b1 u1 HE
        have hsz : w.heap.size + 1 ≤ wr.heap.size := Nat.succ_le_of_lt HI.out.box.lt
        have HR : Hid (∀ g, (Value.slice av (k + 1) cv).ownBlock = some g → w.heap.size + 1 ≤ g) := fun g e => (hrow.lt g e).1
        go_wp2_with (first
          | (at_builtin; refine wpList_append_own _ rfl _ _ 50 rfl (w.heap.size + 1) 25 it (.int .u64 0) 1 8 Tryd.underlying50 hi hz0 hz1 hz2 rfl (by decide) _ _ _ rfl (hrow.alloc _) ⟨wr.heap.size, 0, none⟩ 1 1 [.int .u64 z] rfl rfl (cell_one_new wr _ _) (by simp [Value.oneCell']) (by unfold maxLen; omega) (by omega) (by simp; omega) ?_; intro v' w3 hown' hgrow _; obtain ⟨g', cap', rfl⟩ := ownsRow_succ hown'; have hb1 : Below (w.heap.size + 1) wr w3 := ((Below.refl _ _).alloc (by omega) _).grown hgrow (by simp; omega) (fun k e => HR.out k e))
          | fail)
        go_roundw
        case rel => exact ⟨k + 1, _, by omega, by go_num, rfl, by rw [← HE.out]; exact hown', HI.out.up hb1⟩
        case measure => simp [intOf]; omega
      · obtain rfl : k = 5 := by omega
        have HO := chide hrow
        clear hrow
        go_wp2_with (first
          | (go_at_call 21; refine (rwidths_any _).mono ?_; rintro e2 w3 ⟨rfl, hr, hb⟩; have H2 : Hid (RowX w3 _ wlV ∧ Below wr.heap.size wr w3) := ⟨hr, hb⟩; clear hr hb)
          | (go_at_call 20; refine (HP.out _ _ HI.out HO.out _ _ H2.out.2 H2.out.1).mono ?_; rintro e3 w4 ⟨rfl, hb⟩; have H3 : Hid (Below w.heap.size w w4) := HI.out.below.trans ((H2.out.2.trans (hb.mono H2.out.2.size)).mono HI.out.below.size); clear hb)
          | fail)
        go_ret2
        exact ⟨rfl, H3.out⟩
  · have hr' := Bool.eq_false_iff.2 hr
    rw [kc_no hr'] at HC ⊢
    rw [putW_no hr']
    clear hr hr'
    go_enter Tryd.func7, Tryd.ntmps7
    go_upto_region 1 with fail
    generalize w.alloc _ = w1 at H0 ⊢
    have q0 := H0.out.box.c0
    have q1 := H0.out.box.c1
    have q2 := H0.out.box.c2
    have q3 := H0.out.box.c3
    have q4 := H0.out.box.c4
    have q5 := H0.out.box.c5
    go_wp2_with (first
      | (go_at_call 13; refine (HC.out _ H0.out).mono ?_; rintro e1 w2 ⟨rfl, hb⟩; have H1 := chide hb.below; clear hb HC H0)
      | fail)
    go_ret2
    exact ⟨rfl, H1.out⟩
/-! ### Get -/
structure Six (w : World) (b o : Nat) (x : Int) : Prop where
  lt : b < w.heap.size
  c : ∀ j, j < 6 → w.cell? ⟨b, o + j, none⟩ = some (.int .u64 (gN x j))
theorem Six.on {w w' : World} {b o : Nat} {x : Int} (h : Six w b o x) (hB : Below w.heap.size w w') : Six w' b o x :=
  ⟨Nat.lt_of_lt_of_le h.lt hB.size, fun j hj => (hB.cell (p := ⟨b, o + j, none⟩) h.lt).trans (h.c j hj)⟩
theorem six_of {w : World} {a : Option Addr} {c : Nat} {x : Int} (h : Ints .u64 w.heap.size w (.slice a wl.length c) (getsI x wl)) : ∃ b o, a = some ⟨b, o, none⟩ ∧ Six w b o x := by
  have hl := getsI_length x wl
  rcases h with ⟨_, _, e1, e2⟩ | ⟨b, o, cap, e1, hb, hc⟩
  · rw [e2] at hl; cases hl
  · cases e1
    rw [hl] at hc
    exact ⟨b, o, rfl, hb, fun j hj => hc j hj⟩
/-- The call as far as it has been filled. -/
def cU (x : Int) : Nat → Cl
  | 0 => ⟨gN x 0, 0, 0, 0, 0, 0⟩
  | 1 => ⟨gN x 0, gN x 1, 0, 0, 0, 0⟩
  | 2 => ⟨gN x 0, gN x 1, gN x 2, 0, 0, 0⟩
  | 3 => ⟨gN x 0, gN x 1, gN x 2, gN x 3, 0, 0⟩
  | 4 => ⟨gN x 0, gN x 1, gN x 2, gN x 3, gN x 4, 0⟩
  | _ => gC x
structure RgI (w W : World) (D b o : Nat) (x : Int) (c : Cl) : Prop where
  res : RowC W w.heap.size cl0
  box : RowC W D c
  six : Six W b o x
  below : Below w.heap.size w W
  ne : w.heap.size < D
  nb : b < D
theorem RgI.on {w W W' : World} {D b o : Nat} {x : Int} {c : Cl} (h : RgI w W D b o x c) (hB : Below W.heap.size W W') : RgI w W' D b o x c := ⟨h.res.on hB, h.box.on hB, h.six.on hB, h.below.trans (hB.mono h.below.size), h.ne, h.nb⟩
theorem RgI.set {w W : World} {D b o : Nat} {x : Int} {c c' : Cl} (h : RgI w W D b o x c) {j : Nat} {v : Value} (hc : RowC (W.setCell ⟨D, j, none⟩ v) D c') : RgI w (W.setCell ⟨D, j, none⟩ v) D b o x c' :=
  ⟨h.res.other (Nat.ne_of_lt h.ne) _ _, hc, ⟨by rw [World.size_setCell]; exact h.six.lt, fun i hi => (World.cell?_of_block (heap_setCell_other _ _ _ _ (Nat.ne_of_lt h.nb))).trans (h.six.c i hi)⟩, bst h.below (Nat.le_of_lt h.ne) _ _, h.ne, h.nb⟩
set_option maxRecDepth 100000 in
set_option maxHeartbeats 4000000 in
theorem rget_any (x : Int) (hx : 0 ≤ x ∧ x ≤ 18446744073709551615) (w : World) : Calls Tryd.prog 9 #[.int .u64 x] w fun e w' => e = .returned (.tuple #[.agg #[.int .i64 (getC x).n, .int .i64 (getC x).a, .int .i64 (getC x).b, .int .i64 (getC x).c, .int .i64 (getC x).d, .int .i64 (getC x).e], .int .i64 (getE x)]) ∧ Below w.heap.size w w' := by
  have HU : Hid (∀ wc B, RowX wc B wlV → Calls Tryd.prog 23 #[.slice (some ⟨B, 0, none⟩) 6 6, .int .u64 x] wc fun e w' => ∃ b o c, e = .returned (.tuple #[.slice (some ⟨b, o, none⟩) 6 c, .int .i64 0]) ∧ Six w' b o x ∧ Below wc.heap.size wc w') := fun wc B hR =>
    (runpack_ok _ 6 wl x wc (by decide) hx (ints_wl hR) (all_can hx)).mono fun e w' ⟨a, c, he, hi, hB⟩ => by
      obtain ⟨b, o, rfl, h6⟩ := six_of hi
      exact ⟨b, o, c, he, h6, hB⟩
  have HC : Hid (∀ wc, Calls Tryd.prog 13 #[.agg #[.int .i64 (gC x).n, .int .i64 (gC x).a, .int .i64 (gC x).b, .int .i64 (gC x).c, .int .i64 (gC x).d, .int .i64 (gC x).e]] wc fun e w' => e = .returned (.int .i64 (kcE (gC x))) ∧ Below wc.heap.size wc w') := fun wc => rcheck_any _ (gC_fc hx) wc
  obtain ⟨⟨m0, n0⟩, ⟨m1, n1⟩, ⟨m2, n2⟩, ⟨m3, n3⟩, ⟨m4, n4⟩, ⟨m5, n5⟩⟩ := gN_bd hx
  have u0' : IntKind.i64.wrap (gN x 0) = gN x 0 := wrapi_small (by omega) (by omega)
  have u1' : IntKind.i64.wrap (gN x 1) = gN x 1 := wrapi_small (by omega) (by omega)
  have u2' : IntKind.i64.wrap (gN x 2) = gN x 2 := wrapi_small (by omega) (by omega)
  have u3' : IntKind.i64.wrap (gN x 3) = gN x 3 := wrapi_small (by omega) (by omega)
  have u4' : IntKind.i64.wrap (gN x 4) = gN x 4 := wrapi_small (by omega) (by omega)
  have u5' : IntKind.i64.wrap (gN x 5) = gN x 5 := wrapi_small (by omega) (by omega)
  clear m0 n0
  clear m1 n1
  clear m2 n2
  clear m3 n3
  clear m4 n4
  clear m5 n5
  have H0 : Hid (RowC (w.alloc (.cells #[.int .i64 0, .int .i64 0, .int .i64 0, .int .i64 0, .int .i64 0, .int .i64 0] 24)) w.heap.size cl0 ∧ Below w.heap.size w (w.alloc (.cells #[.int .i64 0, .int .i64 0, .int .i64 0, .int .i64 0, .int .i64 0, .int .i64 0] 24))) := ⟨rowC_new w cl0, bal (Below.refl _ _) _⟩
  clear hx
  have HE : Hid (getE x = if rcB (gC x) = true then 0 else 12) := rfl
  have HG : Hid (getC x = if rcB (gC x) = true then gC x else cl0) := rfl
  have HK : Hid (kcE (gC x) = if rcB (gC x) = true then 0 else 1) := rfl
  go_enter Tryd.func9, Tryd.ntmps9
  go_upto_region 2 with (first
    | (go_at_call 21; refine (rwidths_any _).mono ?_; rintro e1 w1 ⟨rfl, hr, hb⟩; simp only [World.size_alloc] at hr; have H1 : Hid (RowX w1 (w.heap.size + 1) wlV ∧ RowC w1 w.heap.size cl0 ∧ Below w.heap.size w w1) := ⟨hr, H0.out.1.on hb, H0.out.2.trans (hb.mono H0.out.2.size)⟩; clear hr hb H0)
    | (go_at_call 23; refine (HU.out _ _ H1.out.1).mono ?_; rintro e2 w2 ⟨b, o, c, rfl, h6, hb⟩; have H2 : Hid (Six w2 b o x ∧ RowC w2 w.heap.size cl0 ∧ Below w.heap.size w w2) := ⟨h6, H1.out.2.1.on hb, H1.out.2.2.trans (hb.mono H1.out.2.2.size)⟩; clear h6 hb H1 HU)
    | fail)
  have q0 : w2.cell? ⟨b, o, none⟩ = some (.int .u64 (gN x 0)) := H2.out.1.c 0 (by omega)
  go_upto_region 3 with fail
  have H3 : Hid (RgI w (w2.alloc (.cells #[.int .i64 (gN x 0), .int .i64 0, .int .i64 0, .int .i64 0, .int .i64 0, .int .i64 0] 24)) w2.heap.size b o x (cU x 0)) :=
    ⟨H2.out.2.1.on (bal (Below.refl _ _) _), rowC_new w2 (cU x 0), H2.out.1.on (bal (Below.refl _ _) _), bal H2.out.2.2 _, H2.out.2.1.lt, H2.out.1.lt⟩
  generalize w2.alloc _ = w3 at H3 ⊢
  generalize w2.heap.size = D at H3 ⊢
  clear H2 q0
  go_wp2
  go_loopw [7] (fun i wr => ∃ k : Nat, k ≤ 5 ∧ i = .int .i64 k ∧ RgI w wr D b o x (cU x k)) (fun i _ => 5 - (intOf i).toNat)
  case atStart => exact ⟨0, by omega, rfl, H3.out⟩
  case round =>
    obtain ⟨k, hk, rfl, hI⟩ := hrel
    have HI := chide hI
    clear hI H3
    rcases (show k = 0 ∨ k = 1 ∨ k = 2 ∨ k = 3 ∨ k = 4 ∨ k = 5 by omega) with rfl | rfl | rfl | rfl | rfl | rfl
    · have p : wr.cell? ⟨b, o + 1, none⟩ = some (.int .u64 (gN x 1)) := HI.out.six.c 1 (by omega)
      have t := HI.out.box.c1
      have z := HI.out.box.fz 1
      go_wp2
      go_roundw
      case rel => exact ⟨0 + 1, by omega, rfl, HI.out.set (HI.out.box.set1 _)⟩
      case measure => simp [intOf]
    · have p : wr.cell? ⟨b, o + 2, none⟩ = some (.int .u64 (gN x 2)) := HI.out.six.c 2 (by omega)
      have t := HI.out.box.c2
      have z := HI.out.box.fz 2
      go_wp2
      go_roundw
      case rel => exact ⟨1 + 1, by omega, rfl, HI.out.set (HI.out.box.set2 _)⟩
      case measure => simp [intOf]
    · have p : wr.cell? ⟨b, o + 3, none⟩ = some (.int .u64 (gN x 3)) := HI.out.six.c 3 (by omega)
      have t := HI.out.box.c3
      have z := HI.out.box.fz 3
      go_wp2
      go_roundw
      case rel => exact ⟨2 + 1, by omega, rfl, HI.out.set (HI.out.box.set3 _)⟩
      case measure => simp [intOf]
    · have p : wr.cell? ⟨b, o + 4, none⟩ = some (.int .u64 (gN x 4)) := HI.out.six.c 4 (by omega)
      have t := HI.out.box.c4
      have z := HI.out.box.fz 4
      go_wp2
      go_roundw
      case rel => exact ⟨3 + 1, by omega, rfl, HI.out.set (HI.out.box.set4 _)⟩
      case measure => simp [intOf]
    · have p : wr.cell? ⟨b, o + 5, none⟩ = some (.int .u64 (gN x 5)) := HI.out.six.c 5 (by omega)
      have t := HI.out.box.c5
      have z := HI.out.box.fz 5
      go_wp2
      go_roundw
      case rel => exact ⟨4 + 1, by omega, rfl, HI.out.set (HI.out.box.set5 _)⟩
      case measure => simp [intOf]
    · have hbx : RowC wr D (gC x) := HI.out.box
      have t0 := hbx.c0
      have t1 := hbx.c1
      have t2 := hbx.c2
      have t3 := hbx.c3
      have t4 := hbx.c4
      have t5 := hbx.c5
      clear hbx
      have x0 := HI.out.res.c0
      have x1 := HI.out.res.c1
      have x2 := HI.out.res.c2
      have x3 := HI.out.res.c3
      have x4 := HI.out.res.c4
      have x5 := HI.out.res.c5
      have z := HI.out.res.fz
      have HN : Hid (w.heap.size < D) := HI.out.ne
      have ne1 : ¬ D = w.heap.size := Nat.ne_of_gt HN.out
      have ne2 : ¬ w.heap.size = D := Nat.ne_of_lt HN.out
      by_cases hr : rcB (gC x) = true
      · have e0 : kcE (gC x) = 0 := kc_yes hr
        have HF := chide (get_yes hr)
        rw [e0] at HC
        clear e0 hr HE HG HK
        go_wp2_with (first
          | (go_at_call 13; refine (HC.out _).mono ?_; rintro e4 w4 ⟨rfl, hb⟩; have H4 := chide (HI.out.on hb); clear hb HC HI t0 t1 t2 t3 t4 t5 x0 x1 x2 x3 x4 x5 z; have hbx : RowC w4 D (gC x) := H4.out.box; have t0 := hbx.c0; have t1 := hbx.c1; have t2 := hbx.c2; have t3 := hbx.c3; have t4 := hbx.c4; have t5 := hbx.c5; clear hbx; have x0 := H4.out.res.c0; have x1 := H4.out.res.c1; have x2 := H4.out.res.c2; have x3 := H4.out.res.c3; have x4 := H4.out.res.c4; have x5 := H4.out.res.c5; have z := H4.out.res.fz)
          | fail)
        refine bodyPost_ret (v := .tuple #[.agg #[.int .i64 (gC x).n, .int .i64 (gC x).a, .int .i64 (gC x).b, .int .i64 (gC x).c, .int .i64 (gC x).d, .int .i64 (gC x).e], .int .i64 0]) (by simp [results, Tryd.results9, go_sem, x0, x1, x2, x3, x4, x5]) rfl ⟨by rw [HF.out.1, HF.out.2], ?_⟩
        exact bst (bst (bst (bst (bst (bst H4.out.below (Nat.le_refl _) _ _) (Nat.le_refl _) _ _) (Nat.le_refl _) _ _) (Nat.le_refl _) _ _) (Nat.le_refl _) _ _) (Nat.le_refl _) _ _
      · have hr' := Bool.eq_false_iff.2 hr
        have e0 : kcE (gC x) = 1 := kc_no hr'
        have HF := chide (get_no hr')
        rw [e0] at HC
        clear e0 hr hr' HE HG HK
        go_wp2_with (first
          | (go_at_call 13; refine (HC.out _).mono ?_; rintro e4 w4 ⟨rfl, hb⟩; have H4 := chide (HI.out.on hb); clear hb HC HI t0 t1 t2 t3 t4 t5 x0 x1 x2 x3 x4 x5 z; have hbx : RowC w4 D (gC x) := H4.out.box; have t0 := hbx.c0; have t1 := hbx.c1; have t2 := hbx.c2; have t3 := hbx.c3; have t4 := hbx.c4; have t5 := hbx.c5; clear hbx; have x0 := H4.out.res.c0; have x1 := H4.out.res.c1; have x2 := H4.out.res.c2; have x3 := H4.out.res.c3; have x4 := H4.out.res.c4; have x5 := H4.out.res.c5; have z := H4.out.res.fz)
          | fail)
        refine bodyPost_ret (v := .tuple #[.agg #[.int .i64 0, .int .i64 0, .int .i64 0, .int .i64 0, .int .i64 0, .int .i64 0], .int .i64 12]) (by simp [results, Tryd.results9, go_sem, x0, x1, x2, x3, x4, x5]) rfl ⟨by rw [HF.out.1, HF.out.2]; rfl, ?_⟩
        exact bst (bst (bst (bst (bst (bst H4.out.below (Nat.le_refl _) _ _) (Nat.le_refl _) _ _) (Nat.le_refl _) _ _) (Nat.le_refl _) _ _) (Nat.le_refl _) _ _) (Nat.le_refl _) _ _
end Go.Proofs.YtjibbppjdojbpaaDoor.Pcall
