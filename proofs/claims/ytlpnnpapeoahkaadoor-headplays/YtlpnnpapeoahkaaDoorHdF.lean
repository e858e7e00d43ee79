/- What headOf of package head answers, for every four words. -/
import Derived.Test.YtlpnnpapeoahkaaDoorHdE
import Derived.Deep.CutBlock
namespace Go.Proofs.YtlpnnpapeoahkaaDoor
open Go.RowKit M
set_option linter.unusedVariables false

theorem undWords : Tryd.prog.underlying 60 = some (.array 4 48) := by kernel_rfl
/-- Four words held against four. -/
theorem neq4 (a b c d a' b' c' d' : Int) (w : World) : (binOp .neq 60 (.agg #[.int .u64 a, .int .u64 b, .int .u64 c, .int .u64 d]) (.agg #[.int .u64 a', .int .u64 b', .int .u64 c', .int .u64 d'])).run Tryd.prog w = .ok (.bool (!(a == a' && b == b' && c == c' && d == d'))) w := by
  obtain ⟨i0, hi0⟩ := infoWordM'
  rw [run_neq_struct, show (10000 : Nat) = 9998 + 1 + 1 from rfl, run_equalIn_array w _ _ _ undWords hi0]
  have := run_eqItems_u64 (P := Tryd.prog) (w := w) 9998 Tryd.underlying48 (by kernel_rfl) [a, b, c, d] [a', b', c', d'] (List.range 4) (fun i hi => by simpa using hi)
  simp only [List.map_cons, List.map_nil] at this
  rw [this]
  simp [List.range, List.range.loop, Bool.and_assoc]
/-- The parts of a word, in a block. -/
structure Three (w : World) (b o : Nat) (x : Int) : Prop where
  lt : b < w.heap.size
  c0 : w.cell? ⟨b, o, none⟩ = some (.int .u64 (gN x 0))
  c1 : w.cell? ⟨b, o + 1, none⟩ = some (.int .u64 (gN x 1))
  c2 : w.cell? ⟨b, o + 2, none⟩ = some (.int .u64 (gN x 2))
theorem three_of {w : World} {a : Option Addr} {c : Nat} {x : Int} (h : Ints .u64 w.heap.size w (.slice a ws.length c) (getsI x ws)) : ∃ b o, a = some ⟨b, o, none⟩ ∧ Three w b o x := by
  have hl := getsI_length x ws
  rcases h with ⟨_, _, e1, e2⟩ | ⟨b, o, cap, e1, hb, hc⟩
  · rw [e2, ws_length] at hl; cases hl
  · cases e1
    rw [hl, ws_length] at hc
    exact ⟨b, o, rfl, hb, hc 0 (by omega), hc 1 (by omega), hc 2 (by omega)⟩
theorem Three.on {w w' : World} {b o : Nat} {x : Int} (h : Three w b o x) (hB : Below w.heap.size w w') : Three w' b o x :=
  ⟨Nat.lt_of_lt_of_le h.lt hB.size, (hB.cell (p := ⟨b, o, none⟩) h.lt).trans h.c0, (hB.cell (p := ⟨b, o + 1, none⟩) h.lt).trans h.c1, (hB.cell (p := ⟨b, o + 2, none⟩) h.lt).trans h.c2⟩
theorem unpack_three (a0 : Option Addr) (x : Int) (w : World) (hx : 0 ≤ x ∧ x ≤ 18446744073709551615) (hI : Ints .i64 w.heap.size w (.slice a0 3 3) ws) (hA : canU x ws) :
    Calls Tryd.prog 47 #[.slice a0 3 3, .int .u64 x] w fun e' W' => ∃ b o c, e' = .returned (.tuple #[.slice (some ⟨b, o, none⟩) 3 c, .int .i64 0]) ∧ Three W' b o x ∧ Below w.heap.size w W' :=
  (unpack_ok a0 3 ws x w (by decide) hx hI hA).mono fun e' W' ⟨a, c, he, hi, hB⟩ => by
    obtain ⟨b, o, rfl, h5⟩ := three_of hi
    exact ⟨b, o, c, he, h5, hB⟩
/-- What lies ready when headOf unpacks: the four words, the result, the widths. -/
structure HoI (w0 w : World) (x y s r : Int) : Prop where
  tab : TabW w
  below : Below w0.heap.size w0 w
  all : Row4 w w0.heap.size x y s r
  res : Box4 w (w0.heap.size + 1) 0 0 false 0
  wide : Ints .i64 w.heap.size w (.slice (some ⟨w0.heap.size + 2, 0, none⟩) 3 3) ws
theorem HoI.on {w0 w w' : World} {x y s r : Int} (h : HoI w0 w x y s r) (hB : Below w.heap.size w w') : HoI w0 w' x y s r :=
  ⟨h.tab.on hB, h.below.trans (hB.mono h.below.size), h.all.on hB, h.res.on hB, h.wide.on hB⟩
theorem hoI_new (w : World) (hW : TabW w) (x y s r : Int) (ty ty' ty'' : TypeId) :
    HoI w (((w.alloc (.cells #[.int .u64 x, .int .u64 y, .int .u64 s, .int .u64 r] ty)).alloc (.cells #[.int .i64 0, .int .i64 0, .bool false, .int .i64 0] ty')).alloc (.cells #[.int .i64 4, .int .i64 1, .int .i64 1] ty'')) x y s r := by
  have B1 := bal (Below.refl w.heap.size w) (.cells #[.int .u64 x, .int .u64 y, .int .u64 s, .int .u64 r] ty)
  have B2 := bal B1 (.cells #[.int .i64 0, .int .i64 0, .bool false, .int .i64 0] ty')
  have B3 := bal B2 (.cells #[.int .i64 4, .int .i64 1, .int .i64 1] ty'')
  have q := box4_new (w.alloc (.cells #[.int .u64 x, .int .u64 y, .int .u64 s, .int .u64 r] ty)) 0 0 false 0 ty'
  rw [World.size_alloc] at q
  have e := heap_alloc_new ((w.alloc (.cells #[.int .u64 x, .int .u64 y, .int .u64 s, .int .u64 r] ty)).alloc (.cells #[.int .i64 0, .int .i64 0, .bool false, .int .i64 0] ty')) (.cells #[.int .i64 4, .int .i64 1, .int .i64 1] ty'')
  rw [World.size_alloc, World.size_alloc] at e
  refine ⟨hW.on B3, B3, ((row4_new w x y s r ty).on (bal (Below.refl _ _) _)).on (bal (Below.refl _ _) _), q.on (bal (Below.refl _ _) _), .inr ⟨w.heap.size + 2, 0, 3, rfl, by simp, fun j hj => ?_⟩⟩
  rw [Nat.zero_add, cell_of_row _ _ j _ _ _ e]
  match j, hj with
  | 0, _ | 1, _ | 2, _ => rfl
theorem ho_laid {w0 w6 : World} {x y s r k l v : Int} {z : Bool} {D : Nat} (A B : Int) (h : HoI w0 w6 x y s r) (hb : Box4 w6 D k l z v) :
    HoI w0 (w6.alloc (.cells #[.int .u64 A, .int .u64 B, .int .u64 0, .int .u64 0] 60)) x y s r ∧ Box4 (w6.alloc (.cells #[.int .u64 A, .int .u64 B, .int .u64 0, .int .u64 0] 60)) D k l z v ∧ Row4 (w6.alloc (.cells #[.int .u64 A, .int .u64 B, .int .u64 0, .int .u64 0] 60)) w6.heap.size A B 0 0 :=
  ⟨h.on (bal (Below.refl _ _) _), hb.on (bal (Below.refl _ _) _), row4_new w6 A B 0 0 60⟩
theorem wrap_small {z : Int} (h0 : 0 ≤ z) (h1 : z ≤ 9223372036854775807) : IntKind.i64.wrap z = z := by
  unfold IntKind.wrap
  simp [IntKind.bits, IntKind.signed]
  omega
theorem wrap_back {y v : Int} (hy : 0 ≤ y ∧ y ≤ 18446744073709551615) (hv : v = IntKind.i64.wrap y) (h0 : 0 ≤ v) : v = y := by
  subst hv
  unfold IntKind.wrap at *
  simp [IntKind.bits, IntKind.signed] at *
  omega
set_option maxRecDepth 100000 in
set_option maxHeartbeats 2000000 in
theorem head_of (x y s r : Int) (w : World) (hx : 0 ≤ x ∧ x ≤ 18446744073709551615) (hy : 0 ≤ y ∧ y ≤ 18446744073709551615) (hW : TabW w) :
    Calls Tryd.prog 37 #[.agg #[.int .u64 x, .int .u64 y, .int .u64 s, .int .u64 r]] w fun e w' => e = .returned (.tuple #[.agg #[.int .i64 (getK x y s r), .int .i64 (getL x y s r), .bool (getZ x y s r), .int .i64 (getT x y s r)], .int .i64 (getE x y s r)]) ∧ Below w.heap.size w w' := by
  obtain ⟨t1, fr, hg⟩ := hW.row
  have g0 : w.cell? ⟨0, 0, none⟩ = some (.int .i64 4) := (cell_of_row _ _ 0 _ _ _ hg).trans rfl
  have g1 : w.cell? ⟨0, 1, none⟩ = some (.int .i64 1) := (cell_of_row _ _ 1 _ _ _ hg).trans rfl
  have g2 : w.cell? ⟨0, 2, none⟩ = some (.int .i64 1) := (cell_of_row _ _ 2 _ _ _ hg).trans rfl
  have gl := hW.lt
  have HN := hoI_new w hW x y s r 60 33 92
  clear hg hW
  have HX : Hid (0 ≤ x ∧ x ≤ 18446744073709551615) := hx
  clear hx
  by_cases hc : canU x ws
  case neg =>
    obtain ⟨r0, r1, r2, r3, r4⟩ := hget_no (x := x) (y := y) (u := s) (v := r) fun h => hc h.1
    rw [r0, r1, r2, r3, r4]
    clear r0 r1 r2 r3 r4 hy
    have HC : Hid (¬ canU x ws) := hc
    clear hc
    go_enter Tryd.func37, Tryd.ntmps37
    go_wp2
    generalize ((w.alloc _).alloc _).alloc _ = w3 at HN ⊢
    have H3 : Hid (HoI w w3 x y s r) := HN
    clear HN g0 g1 g2 gl
    have a0 := H3.out.all.c0
    go_region_held3 (fun w' => w'.cell? ⟨w.heap.size, 0, none⟩ = some (.int .u64 x)) (first | assumption | go_keep)
    (first
      | (go_at_call 47; refine (unpack_bad (some ⟨w.heap.size + 2, 0, none⟩) 3 ws x _ (by decide) HX.out (by first | exact H3.out.wide | exact (H3.out.on (Below.refl _ _).drew).wide) HC.out).mono ?_; rintro e1 w4 ⟨rfl, hb⟩; have H4 : Hid (HoI w w4 x y s r) := (by first | exact H3.out.on hb | exact H3.out.on ((Below.refl _ _).drew.trans hb)); clear hb a0; have a0 := H4.out.all.c0)
      | fail)
    have y0 := H4.out.res.c0
    have y1 := H4.out.res.c1
    have y2 := H4.out.res.c2
    have y3 := H4.out.res.c3
    have z0 := H4.out.res.fz 0
    have z1 := H4.out.res.fz 1
    have z2 := H4.out.res.fz 2
    have z3 := H4.out.res.fz 3
    go_wp2
    refine bodyPost_ret (v := .tuple #[.agg #[.int .i64 0, .int .i64 0, .bool false, .int .i64 0], .int .i64 12]) (by simp [results, Tryd.results37, go_sem, y0, y1, y2, y3]) rfl ⟨rfl, ?_⟩
    exact bst (bst (bst (bst H4.out.below (by omega) _ _) (by omega) _ _) (by omega) _ _) (by omega) _ _
  case pos =>
  have HC : Hid (canU x ws) := hc
  have hback := wd0_back HX.out hc
  clear hc
  obtain ⟨⟨p0, q0⟩, ⟨p1, q1⟩, _⟩ := gN_bd HX.out HC.out
  obtain ⟨v, hv⟩ : ∃ v, v = IntKind.i64.wrap y := ⟨_, rfl⟩
  have dv : IntKind.i64.wrap y = v := hv.symm
  have d0 : IntKind.i64.wrap (gN x 0) = gN x 0 := wrap_small p0 (by omega)
  have d1 : IntKind.i64.wrap (gN x 1) = gN x 1 := wrap_small p1 (by omega)
  clear p0 q0 p1 q1
  by_cases hr : Rt (gN x 0) (gN x 1) (gN x 2 == 1) v
  case neg =>
    have hG : ¬ Got x y s r := fun h => hr (by
      have hvy : v = y := by rw [hv]; exact wrap_small hy.1 (by have := h.2.1; omega)
      rw [hvy]; exact h.2.2.2.2)
    obtain ⟨r0, r1, r2, r3, r4⟩ := hget_no hG
    rw [r0, r1, r2, r3, r4]
    have hc : chk (gN x 0) (gN x 1) (gN x 2 == 1) v = 1 := chk_no hr
    clear r0 r1 r2 r3 r4 hG hr hv hy hback
    go_enter Tryd.func37, Tryd.ntmps37
    go_wp2
    generalize ((w.alloc _).alloc _).alloc _ = w3 at HN ⊢
    have H3 : Hid (HoI w w3 x y s r) := HN
    clear HN g0 g1 g2 gl
    have a0 := H3.out.all.c0
    go_region_held3 (fun w' => w'.cell? ⟨w.heap.size, 0, none⟩ = some (.int .u64 x)) (first | assumption | go_keep)
    (first
      | (go_at_call 47; refine (unpack_three (some ⟨w.heap.size + 2, 0, none⟩) x _ HX.out (by first | exact H3.out.wide | exact (H3.out.on (Below.refl _ _).drew).wide) HC.out).mono ?_; rintro e1 w4 ⟨b, o, c, rfl, h5, hb⟩; have H4 : Hid (HoI w w4 x y s r) := (by first | exact H3.out.on hb | exact H3.out.on ((Below.refl _ _).drew.trans hb)); have H5 : Hid (Three w4 b o x) := h5; clear hb h5 a0; have a0 := H4.out.all.c0)
      | fail)
    have f0 := H5.out.c0
    have f1 := H5.out.c1
    have f2 := H5.out.c2
    have fl := H5.out.lt
    have a1 := H4.out.all.c1
    have al := H4.out.all.lt
    clear a0
    go_wp2
    go_region_held3 (fun w' => w'.cell? ⟨b, o, none⟩ = some (.int .u64 (gN x 0)) ∧ w'.cell? ⟨b, o + 1, none⟩ = some (.int .u64 (gN x 1)) ∧ w'.cell? ⟨b, o + 2, none⟩ = some (.int .u64 (gN x 2)) ∧ w'.cell? ⟨w.heap.size, 1, none⟩ = some (.int .u64 y)) (first | exact ⟨by assumption, by assumption, by assumption, by assumption⟩ | go_keep)
    (fail)
    try simp only [d0, d1, dv]
    have hbx := (box4_new w4 (gN x 0) (gN x 1) (gN x 2 == 1) v 33).on (Below.refl _ _).drew
    have hho := H4.out.on (bal (Below.refl _ _) (.cells #[.int .i64 (gN x 0), .int .i64 (gN x 1), .bool (gN x 2 == 1), .int .i64 v] 33)).drew
    have hne : w.heap.size + 1 < w4.heap.size := H4.out.res.lt
    clear f0 f1 f2 fl a1 al H5
    generalize (w4.alloc _).drew = w5 at hbx hho ⊢
    have H5 : Hid (HoI w w5 x y s r) := hho
    have HP : Hid (Box4 w5 w4.heap.size (gN x 0) (gN x 1) (gN x 2 == 1) v) := hbx
    have y0 := hbx.c0
    have y1 := hbx.c1
    have y2 := hbx.c2
    have y3 := hbx.c3
    clear hbx hho
    generalize w4.heap.size = D at HP hne y0 y1 y2 y3 ⊢
    have HQ : Hid (w.heap.size + 1 < D) := hne
    clear hne
    go_upto_region 7 with (first
      | (go_at_call 24; refine (words_of _ _ _ _ _ H5.out.tab).mono ?_; rintro e2 w6 ⟨rfl, hb⟩; rw [hc]; have H6 : Hid (HoI w w6 x y s r) := H5.out.on hb; have HP6 : Hid (Box4 w6 D (gN x 0) (gN x 1) (gN x 2 == 1) v) := HP.out.on hb; clear y0 y1 y2 y3 hb)
      | fail)
    have hK := ho_laid (wA (gN x 0) (gN x 1) (gN x 2 == 1) v) (wB (gN x 0) (gN x 1) (gN x 2 == 1) v) H6.out HP6.out
    clear H6 HP6 H5 HP H4 H3
    generalize w6.alloc _ = w7 at hK ⊢
    generalize w6.heap.size = E at hK ⊢
    have H6 : Hid (HoI w w7 x y s r) := hK.1
    have y0 := hK.2.1.c0
    have y1 := hK.2.1.c1
    have y2 := hK.2.1.c2
    have y3 := hK.2.1.c3
    have b0 := hK.2.2.c0
    have b1 := hK.2.2.c1
    have b2 := hK.2.2.c2
    have b3 := hK.2.2.c3
    clear hK
    have a0 := H6.out.all.c0
    have a1 := H6.out.all.c1
    have a2 := H6.out.all.c2
    have a3 := H6.out.all.c3
    have x0 := H6.out.res.c0
    have x1 := H6.out.res.c1
    have x2 := H6.out.res.c2
    have x3 := H6.out.res.c3
    have z0 := H6.out.res.fz 0
    have z1 := H6.out.res.fz 1
    have z2 := H6.out.res.fz 2
    have z3 := H6.out.res.fz 3
    go_wp2
    refine bodyPost_ret (v := .tuple #[.agg #[.int .i64 0, .int .i64 0, .bool false, .int .i64 0], .int .i64 12]) (by simp [results, Tryd.results37, go_sem, x0, x1, x2, x3]) rfl ⟨rfl, ?_⟩
    exact bst (bst (bst (bst H6.out.below (by omega) _ _) (by omega) _ _) (by omega) _ _) (by omega) _ _
  case pos =>
  have hvy : v = y := wrap_back hy hv (by unfold Rt at hr; omega)
  have hc : chk (gN x 0) (gN x 1) (gN x 2 == 1) v = 0 := chk_yes hr
  have hA : wA (gN x 0) (gN x 1) (gN x 2 == 1) v = x := (wA_yes hr).trans hback
  have hB : wB (gN x 0) (gN x 1) (gN x 2 == 1) v = y := (wB_yes hr).trans hvy
  have hq := neq4 x y 0 0 x y s r
  by_cases hz : s = 0 ∧ r = 0
  case neg =>
    have hG : ¬ Got x y s r := fun h => hz ⟨h.2.2.1, h.2.2.2.1⟩
    obtain ⟨r0, r1, r2, r3, r4⟩ := hget_no hG
    rw [r0, r1, r2, r3, r4]
    have hqq : (!(x == x && y == y && (0 : Int) == s && (0 : Int) == r)) = true := by
      simp
      omega
    rw [hqq] at hq
    clear r0 r1 r2 r3 r4 hG hr hv hy hback hvy hz hqq
    go_enter Tryd.func37, Tryd.ntmps37
    go_wp2
    generalize ((w.alloc _).alloc _).alloc _ = w3 at HN ⊢
    have H3 : Hid (HoI w w3 x y s r) := HN
    clear HN g0 g1 g2 gl
    have a0 := H3.out.all.c0
    go_region_held3 (fun w' => w'.cell? ⟨w.heap.size, 0, none⟩ = some (.int .u64 x)) (first | assumption | go_keep)
    (first
      | (go_at_call 47; refine (unpack_three (some ⟨w.heap.size + 2, 0, none⟩) x _ HX.out (by first | exact H3.out.wide | exact (H3.out.on (Below.refl _ _).drew).wide) HC.out).mono ?_; rintro e1 w4 ⟨b, o, c, rfl, h5, hb⟩; have H4 : Hid (HoI w w4 x y s r) := (by first | exact H3.out.on hb | exact H3.out.on ((Below.refl _ _).drew.trans hb)); have H5 : Hid (Three w4 b o x) := h5; clear hb h5 a0; have a0 := H4.out.all.c0)
      | fail)
    have f0 := H5.out.c0
    have f1 := H5.out.c1
    have f2 := H5.out.c2
    have fl := H5.out.lt
    have a1 := H4.out.all.c1
    have al := H4.out.all.lt
    clear a0
    go_wp2
    go_region_held3 (fun w' => w'.cell? ⟨b, o, none⟩ = some (.int .u64 (gN x 0)) ∧ w'.cell? ⟨b, o + 1, none⟩ = some (.int .u64 (gN x 1)) ∧ w'.cell? ⟨b, o + 2, none⟩ = some (.int .u64 (gN x 2)) ∧ w'.cell? ⟨w.heap.size, 1, none⟩ = some (.int .u64 y)) (first | exact ⟨by assumption, by assumption, by assumption, by assumption⟩ | go_keep)
    (fail)
    try simp only [d0, d1, dv]
    have hbx := (box4_new w4 (gN x 0) (gN x 1) (gN x 2 == 1) v 33).on (Below.refl _ _).drew
    have hho := H4.out.on (bal (Below.refl _ _) (.cells #[.int .i64 (gN x 0), .int .i64 (gN x 1), .bool (gN x 2 == 1), .int .i64 v] 33)).drew
    have hne : w.heap.size + 1 < w4.heap.size := H4.out.res.lt
    clear f0 f1 f2 fl a1 al H5
    generalize (w4.alloc _).drew = w5 at hbx hho ⊢
    have H5 : Hid (HoI w w5 x y s r) := hho
    have HP : Hid (Box4 w5 w4.heap.size (gN x 0) (gN x 1) (gN x 2 == 1) v) := hbx
    have y0 := hbx.c0
    have y1 := hbx.c1
    have y2 := hbx.c2
    have y3 := hbx.c3
    clear hbx hho
    generalize w4.heap.size = D at HP hne y0 y1 y2 y3 ⊢
    have HQ : Hid (w.heap.size + 1 < D) := hne
    clear hne
    go_upto_region 7 with (first
      | (go_at_call 24; refine (words_of _ _ _ _ _ H5.out.tab).mono ?_; rintro e2 w6 ⟨rfl, hb⟩; rw [hc, hA, hB]; have H6 : Hid (HoI w w6 x y s r) := H5.out.on hb; have HP6 : Hid (Box4 w6 D (gN x 0) (gN x 1) (gN x 2 == 1) v) := HP.out.on hb; clear y0 y1 y2 y3 hb)
      | fail)
    have hK := ho_laid x y H6.out HP6.out
    clear H6 HP6 H5 HP H4 H3
    generalize w6.alloc _ = w7 at hK ⊢
    generalize w6.heap.size = E at hK ⊢
    have H6 : Hid (HoI w w7 x y s r) := hK.1
    have y0 := hK.2.1.c0
    have y1 := hK.2.1.c1
    have y2 := hK.2.1.c2
    have y3 := hK.2.1.c3
    have b0 := hK.2.2.c0
    have b1 := hK.2.2.c1
    have b2 := hK.2.2.c2
    have b3 := hK.2.2.c3
    clear hK
    have a0 := H6.out.all.c0
    have a1 := H6.out.all.c1
    have a2 := H6.out.all.c2
    have a3 := H6.out.all.c3
    have x0 := H6.out.res.c0
    have x1 := H6.out.res.c1
    have x2 := H6.out.res.c2
    have x3 := H6.out.res.c3
    have z0 := H6.out.res.fz 0
    have z1 := H6.out.res.fz 1
    have z2 := H6.out.res.fz 2
    have z3 := H6.out.res.fz 3
    go_wp2
    refine bodyPost_ret (v := .tuple #[.agg #[.int .i64 0, .int .i64 0, .bool false, .int .i64 0], .int .i64 12]) (by simp [results, Tryd.results37, go_sem, x0, x1, x2, x3]) rfl ⟨rfl, ?_⟩
    exact bst (bst (bst (bst H6.out.below (by omega) _ _) (by omega) _ _) (by omega) _ _) (by omega) _ _
  case pos =>
    obtain ⟨rfl, rfl⟩ := hz
    have hG : Got x y 0 0 := ⟨HC.out, by unfold Rt at hr; omega, rfl, rfl, by rw [← hvy]; exact hr⟩
    obtain ⟨r0, r1, r2, r3, r4⟩ := hget_yes hG
    rw [r0, r1, r2, r3.trans hvy.symm, r4]
    have hqq : (!(x == x && y == y && (0 : Int) == 0 && (0 : Int) == 0)) = false := by simp
    rw [hqq] at hq
    clear r0 r1 r2 r3 r4 hG hr hv hy hback hvy hqq
    go_enter Tryd.func37, Tryd.ntmps37
    go_wp2
    generalize ((w.alloc _).alloc _).alloc _ = w3 at HN ⊢
    have H3 : Hid (HoI w w3 x y 0 0) := HN
    clear HN g0 g1 g2 gl
    have a0 := H3.out.all.c0
    go_region_held3 (fun w' => w'.cell? ⟨w.heap.size, 0, none⟩ = some (.int .u64 x)) (first | assumption | go_keep)
    (first
      | (go_at_call 47; refine (unpack_three (some ⟨w.heap.size + 2, 0, none⟩) x _ HX.out (by first | exact H3.out.wide | exact (H3.out.on (Below.refl _ _).drew).wide) HC.out).mono ?_; rintro e1 w4 ⟨b, o, c, rfl, h5, hb⟩; have H4 : Hid (HoI w w4 x y 0 0) := (by first | exact H3.out.on hb | exact H3.out.on ((Below.refl _ _).drew.trans hb)); have H5 : Hid (Three w4 b o x) := h5; clear hb h5 a0; have a0 := H4.out.all.c0)
      | fail)
    have f0 := H5.out.c0
    have f1 := H5.out.c1
    have f2 := H5.out.c2
    have fl := H5.out.lt
    have a1 := H4.out.all.c1
    have al := H4.out.all.lt
    clear a0
    go_wp2
    go_region_held3 (fun w' => w'.cell? ⟨b, o, none⟩ = some (.int .u64 (gN x 0)) ∧ w'.cell? ⟨b, o + 1, none⟩ = some (.int .u64 (gN x 1)) ∧ w'.cell? ⟨b, o + 2, none⟩ = some (.int .u64 (gN x 2)) ∧ w'.cell? ⟨w.heap.size, 1, none⟩ = some (.int .u64 y)) (first | exact ⟨by assumption, by assumption, by assumption, by assumption⟩ | go_keep)
    (fail)
    try simp only [d0, d1, dv]
    have hbx := (box4_new w4 (gN x 0) (gN x 1) (gN x 2 == 1) v 33).on (Below.refl _ _).drew
    have hho := H4.out.on (bal (Below.refl _ _) (.cells #[.int .i64 (gN x 0), .int .i64 (gN x 1), .bool (gN x 2 == 1), .int .i64 v] 33)).drew
    have hne : w.heap.size + 1 < w4.heap.size := H4.out.res.lt
    clear f0 f1 f2 fl a1 al H5
    generalize (w4.alloc _).drew = w5 at hbx hho ⊢
    have H5 : Hid (HoI w w5 x y 0 0) := hho
    have HP : Hid (Box4 w5 w4.heap.size (gN x 0) (gN x 1) (gN x 2 == 1) v) := hbx
    have y0 := hbx.c0
    have y1 := hbx.c1
    have y2 := hbx.c2
    have y3 := hbx.c3
    clear hbx hho
    generalize w4.heap.size = D at HP hne y0 y1 y2 y3 ⊢
    have HQ : Hid (w.heap.size + 1 < D) := hne
    clear hne
    go_upto_region 7 with (first
      | (go_at_call 24; refine (words_of _ _ _ _ _ H5.out.tab).mono ?_; rintro e2 w6 ⟨rfl, hb⟩; rw [hc, hA, hB]; have H6 : Hid (HoI w w6 x y 0 0) := H5.out.on hb; have HP6 : Hid (Box4 w6 D (gN x 0) (gN x 1) (gN x 2 == 1) v) := HP.out.on hb; clear y0 y1 y2 y3 hb)
      | fail)
    have hK := ho_laid x y H6.out HP6.out
    clear H6 HP6 H5 HP H4 H3
    generalize w6.alloc _ = w7 at hK ⊢
    generalize w6.heap.size = E at hK ⊢
    have H6 : Hid (HoI w w7 x y 0 0) := hK.1
    have y0 := hK.2.1.c0
    have y1 := hK.2.1.c1
    have y2 := hK.2.1.c2
    have y3 := hK.2.1.c3
    have b0 := hK.2.2.c0
    have b1 := hK.2.2.c1
    have b2 := hK.2.2.c2
    have b3 := hK.2.2.c3
    clear hK
    have a0 := H6.out.all.c0
    have a1 := H6.out.all.c1
    have a2 := H6.out.all.c2
    have a3 := H6.out.all.c3
    have x0 := H6.out.res.c0
    have x1 := H6.out.res.c1
    have x2 := H6.out.res.c2
    have x3 := H6.out.res.c3
    have z0 := H6.out.res.fz 0
    have z1 := H6.out.res.fz 1
    have z2 := H6.out.res.fz 2
    have z3 := H6.out.res.fz 3
    go_wp2
    refine bodyPost_ret (v := .tuple #[.agg #[.int .i64 (gN x 0), .int .i64 (gN x 1), .bool (gN x 2 == 1), .int .i64 v], .int .i64 0]) (by simp [results, Tryd.results37, go_sem, x0, x1, x2, x3]) rfl ⟨rfl, ?_⟩
    exact bst (bst (bst (bst H6.out.below (by omega) _ _) (by omega) _ _) (by omega) _ _) (by omega) _ _
end Go.Proofs.YtlpnnpapeoahkaaDoor
