/- What wordsOf of package head answers, for every head. -/
import Derived.Test.YtlpnnpapeoahkaaDoorHdA
namespace Go.Proofs.YtlpnnpapeoahkaaDoor
open Go.RowKit M
set_option linter.unusedVariables false

/-- Four words in a block. -/
structure Row4 (w : World) (B : Nat) (a b c d : Int) : Prop where
  lt : B < w.heap.size
  c0 : w.cell? ⟨B, 0, none⟩ = some (.int .u64 a)
  c1 : w.cell? ⟨B, 1, none⟩ = some (.int .u64 b)
  c2 : w.cell? ⟨B, 2, none⟩ = some (.int .u64 c)
  c3 : w.cell? ⟨B, 3, none⟩ = some (.int .u64 d)
  fz : ∀ j, w.frozen? ⟨B, j, none⟩ = false
theorem Row4.on {w w' : World} {B : Nat} {a b c d : Int} (h : Row4 w B a b c d) (hB : Below w.heap.size w w') : Row4 w' B a b c d :=
  ⟨Nat.lt_of_lt_of_le h.lt hB.size, (hB.cell (p := ⟨B, 0, none⟩) h.lt).trans h.c0, (hB.cell (p := ⟨B, 1, none⟩) h.lt).trans h.c1, (hB.cell (p := ⟨B, 2, none⟩) h.lt).trans h.c2, (hB.cell (p := ⟨B, 3, none⟩) h.lt).trans h.c3, fun j => (hB.frozen (p := ⟨B, j, none⟩) h.lt).trans (h.fz j)⟩
theorem row4_new (w : World) (a b c d : Int) (ty : TypeId) : Row4 (w.alloc (.cells #[.int .u64 a, .int .u64 b, .int .u64 c, .int .u64 d] ty)) w.heap.size a b c d := by
  have h := heap_alloc_new w (.cells #[.int .u64 a, .int .u64 b, .int .u64 c, .int .u64 d] ty)
  refine ⟨by simp, ?_, ?_, ?_, ?_, fun j => frozen_of_row _ _ _ _ _ h⟩ <;> (rw [cell_of_row _ _ _ _ _ _ h]; rfl)
def wA (k l : Int) (z : Bool) (t : Int) : Int := if rtB k l z t = true then wd0 k l z else 0
def wB (k l : Int) (z : Bool) (t : Int) : Int := if rtB k l z t = true then t else 0
theorem wrapu_small {x : Int} (h0 : 0 ≤ x) (h1 : x ≤ 18446744073709551615) : IntKind.u64.wrap x = x := by
  rw [IntKind.wrap_u64]
  omega
/-- A head in a block, and behind it four words that are 0. -/
theorem two_new (w w1 : World) (k l : Int) (z : Bool) (t : Int) (ty ty' : TypeId) (h : Below ((w.alloc (.cells #[.int .i64 k, .int .i64 l, .bool z, .int .i64 t] ty)).alloc (.cells #[.int .u64 0, .int .u64 0, .int .u64 0, .int .u64 0] ty')).heap.size ((w.alloc (.cells #[.int .i64 k, .int .i64 l, .bool z, .int .i64 t] ty)).alloc (.cells #[.int .u64 0, .int .u64 0, .int .u64 0, .int .u64 0] ty')) w1) :
    Box4 w1 w.heap.size k l z t ∧ Row4 w1 (w.heap.size + 1) 0 0 0 0 ∧ Below w.heap.size w w1 := by
  have q := row4_new (w.alloc (.cells #[.int .i64 k, .int .i64 l, .bool z, .int .i64 t] ty)) 0 0 0 0 ty'
  rw [World.size_alloc] at q
  exact ⟨((box4_new w k l z t ty).on (bal (Below.refl _ _) _)).on h, q.on h, (bal (bal (Below.refl _ _) _) _).trans (h.mono (by simp; omega))⟩
/-- Packing, where the parts and the widths have just been laid. -/
theorem pack_three {k l t : Int} {z : Bool} (hp : Rt k l z t) (w1 w3 : World) (h : Below ((w1.alloc (.cells #[.int .u64 k, .int .u64 l, .int .u64 (bz z)] 91)).alloc (.cells #[.int .i64 4, .int .i64 1, .int .i64 1] 92)).heap.size ((w1.alloc (.cells #[.int .u64 k, .int .u64 l, .int .u64 (bz z)] 91)).alloc (.cells #[.int .i64 4, .int .i64 1, .int .i64 1] 92)) w3) :
    Calls Tryd.prog 43 #[.slice (some ⟨w1.heap.size + 1, 0, none⟩) 3 3, .slice (some ⟨w1.heap.size, 0, none⟩) 3 3] w3 fun e' W' => e' = .returned (.tuple #[.int .u64 (wd0 k l z), .int .i64 0]) ∧ Below w3.heap.size w3 W' := by
  refine pack_ok (some ⟨w1.heap.size + 1, 0, none⟩) (some ⟨w1.heap.size, 0, none⟩) 3 3 ws [k, l, bz z] w3 (by decide) rfl (put_can hp).1 (Ints.on ?_ h) (Ints.on ?_ h) (put_can hp).2
  · refine .inr ⟨w1.heap.size + 1, 0, 3, rfl, by simp, fun j hj => ?_⟩
    have e := heap_alloc_new (w1.alloc (.cells #[.int .u64 k, .int .u64 l, .int .u64 (bz z)] 91)) (.cells #[.int .i64 4, .int .i64 1, .int .i64 1] 92)
    rw [World.size_alloc] at e
    rw [Nat.zero_add, cell_of_row _ _ j _ _ _ e]
    match j, hj with
    | 0, _ | 1, _ | 2, _ => rfl
  · refine .inr ⟨w1.heap.size, 0, 3, rfl, by simp; omega, fun j hj => ?_⟩
    have e := (Below.heap_alloc (w1.alloc (.cells #[.int .u64 k, .int .u64 l, .int .u64 (bz z)] 91)) (.cells #[.int .i64 4, .int .i64 1, .int .i64 1] 92) w1.heap.size (by simp)).trans (heap_alloc_new w1 _)
    rw [Nat.zero_add, cell_of_row _ _ j _ _ _ e]
    match j, hj with
    | 0, _ | 1, _ | 2, _ => rfl
set_option maxRecDepth 100000 in
set_option maxHeartbeats 1000000 in
theorem words_of (k l : Int) (z : Bool) (t : Int) (w : World) (hW : TabW w) :
    Calls Tryd.prog 24 #[.agg #[.int .i64 k, .int .i64 l, .bool z, .int .i64 t]] w fun e w' => e = .returned (.tuple #[.agg #[.int .u64 (wA k l z t), .int .u64 (wB k l z t), .int .u64 0, .int .u64 0], .int .i64 (chk k l z t)]) ∧ Below w.heap.size w w' := by
  have HI := fun w1 => two_new w w1 k l z t 33 60
  have HH : Hid (∀ w1, _) := HI
  clear HI
  by_cases hp : Rt k l z t
  case neg =>
    rw [show wA k l z t = 0 by simp [wA, rtB_no hp], show wB k l z t = 0 by simp [wB, rtB_no hp]]
    have hc : chk k l z t = 1 := chk_no hp
    rw [hc]
    clear hp
    go_enter Tryd.func24, Tryd.ntmps24
    go_wp2_with (first
      | (go_at_call 11; refine (check_any k l z t _).mono ?_; rintro e1 w1 ⟨rfl, hb1⟩; rw [hc]; obtain ⟨X1, Y1, Z1⟩ := HH.out _ hb1; have H1 : Hid (Below w.heap.size w w1) := Z1; have y0 := Y1.c0; have y1 := Y1.c1; have y2 := Y1.c2; have y3 := Y1.c3; have z0 := Y1.fz 0; have z1 := Y1.fz 1; have z2 := Y1.fz 2; have z3 := Y1.fz 3; clear hb1 X1 Y1 Z1 HH)
      | fail)
    refine bodyPost_ret (v := .tuple #[.agg #[.int .u64 0, .int .u64 0, .int .u64 0, .int .u64 0], .int .i64 1]) (by simp [results, Tryd.results24, go_sem, y0, y1, y2, y3]) rfl ⟨rfl, ?_⟩
    exact bst (bst (bst (bst H1.out (by omega) _ _) (by omega) _ _) (by omega) _ _) (by omega) _ _
  case pos =>
  rw [show wA k l z t = wd0 k l z by simp [wA, rtB_yes hp], show wB k l z t = t by simp [wB, rtB_yes hp]]
  have hc : chk k l z t = 0 := chk_yes hp
  rw [hc]
  have HP : Hid (Rt k l z t) := hp
  unfold Rt at hp
  have d0 : IntKind.u64.wrap k = k := wrapu_small (by omega) (by omega)
  have d1 : IntKind.u64.wrap l = l := wrapu_small (by omega) (by omega)
  have d3 : IntKind.u64.wrap t = t := wrapu_small (by omega) (by omega)
  clear hp
  have HW : Hid (TabW w) := hW
  clear hW
  cases z
  case true =>
    go_enter Tryd.func24, Tryd.ntmps24
    go_wp2_with (first
      | (go_at_call 11; refine (check_any k l true t _).mono ?_; rintro e1 w1 ⟨rfl, hb1⟩; rw [hc]; obtain ⟨X1, Y1, Z1⟩ := HH.out _ hb1; have H1 : Hid (Below w.heap.size w w1) := Z1; obtain ⟨t1, fr, hg⟩ := (HW.out.on Z1).row; have g0 : w1.cell? ⟨0, 0, none⟩ = some (.int .i64 4) := (cell_of_row _ _ 0 _ _ _ hg).trans rfl; have g1 : w1.cell? ⟨0, 1, none⟩ = some (.int .i64 1) := (cell_of_row _ _ 1 _ _ _ hg).trans rfl; have g2 : w1.cell? ⟨0, 2, none⟩ = some (.int .i64 1) := (cell_of_row _ _ 2 _ _ _ hg).trans rfl; have gl := (HW.out.on Z1).lt; have x0 := X1.c0; have x1 := X1.c1; have x2 := X1.c2; have x3 := X1.c3; have xl := X1.lt; have HY : Hid (Row4 w1 (w.heap.size + 1) 0 0 0 0) := Y1; have HX : Hid (Box4 w1 w.heap.size k l true t) := X1; clear hb1 X1 Y1 Z1 HH hg)
      | fail)
    have HK : Hid (∀ w3, Below _ _ w3 → _) := fun w3 => pack_three HP.out w1 w3
    have HB2 := bal (bal H1.out (.cells #[.int .u64 k, .int .u64 l, .int .u64 (bz true)] 91)) (.cells #[.int .i64 4, .int .i64 1, .int .i64 1] 92)
    have HX2 := HX.out.on (bal (bal (Below.refl w1.heap.size w1) (.cells #[.int .u64 k, .int .u64 l, .int .u64 (bz true)] 91)) (.cells #[.int .i64 4, .int .i64 1, .int .i64 1] 92))
    have HY2 := HY.out.on (bal (bal (Below.refl w1.heap.size w1) (.cells #[.int .u64 k, .int .u64 l, .int .u64 (bz true)] 91)) (.cells #[.int .i64 4, .int .i64 1, .int .i64 1] 92))
    rw [show bz true = 1 from rfl] at HK HB2 HX2 HY2
    clear x0 x1 x2 x3 g0 g1 g2 gl xl HX HY H1
    generalize (w1.alloc _).alloc _ = w2 at HK HB2 HX2 HY2 ⊢
    generalize w1.heap.size = D at HK ⊢
    have H2 : Hid (Below w.heap.size w w2) := HB2
    have HX : Hid (Box4 w2 w.heap.size k l true t) := HX2
    have HY : Hid (Row4 w2 (w.heap.size + 1) 0 0 0 0) := HY2
    clear HB2 HX2 HY2
    obtain ⟨v, hv⟩ : ∃ v, v = wd0 k l true := ⟨_, rfl⟩
    rw [← hv] at HK
    have HV : Hid (v = wd0 k l true) := hv
    clear hv HP
    go_region_held3 (fun _ => True) (first | exact trivial | go_keep)
    (first
      | (go_at_call 43; refine (HK.out _ (by first | exact Below.refl _ _ | exact (Below.refl _ _).drew)).mono ?_; rintro e5 w5 ⟨rfl, hb5⟩; have H5 : Hid (Below w2.heap.size w2 w5) := (by first | exact hb5 | exact (Below.refl _ _).drew.trans hb5); clear hb5)
      | fail)
    have x3 := (HX.out.on H5.out).c3
    have hy := HY.out.on H5.out
    have y0 := hy.c0
    have y1 := hy.c1
    have y2 := hy.c2
    have y3 := hy.c3
    have z0 := hy.fz 0
    have z1 := hy.fz 1
    have z2 := hy.fz 2
    have z3 := hy.fz 3
    clear hy
    go_wp2
    refine bodyPost_ret (v := .tuple #[.agg #[.int .u64 v, .int .u64 t, .int .u64 0, .int .u64 0], .int .i64 0]) (by simp [results, Tryd.results24, go_sem, y0, y1, y2, y3]) rfl ⟨by rw [HV.out], ?_⟩
    exact bst (bst (bst (bst ((H2.out.trans (H5.out.mono H2.out.size))) (by omega) _ _) (by omega) _ _) (by omega) _ _) (by omega) _ _
  case false =>
    go_enter Tryd.func24, Tryd.ntmps24
    go_wp2_with (first
      | (go_at_call 11; refine (check_any k l false t _).mono ?_; rintro e1 w1 ⟨rfl, hb1⟩; rw [hc]; obtain ⟨X1, Y1, Z1⟩ := HH.out _ hb1; have H1 : Hid (Below w.heap.size w w1) := Z1; obtain ⟨t1, fr, hg⟩ := (HW.out.on Z1).row; have g0 : w1.cell? ⟨0, 0, none⟩ = some (.int .i64 4) := (cell_of_row _ _ 0 _ _ _ hg).trans rfl; have g1 : w1.cell? ⟨0, 1, none⟩ = some (.int .i64 1) := (cell_of_row _ _ 1 _ _ _ hg).trans rfl; have g2 : w1.cell? ⟨0, 2, none⟩ = some (.int .i64 1) := (cell_of_row _ _ 2 _ _ _ hg).trans rfl; have gl := (HW.out.on Z1).lt; have x0 := X1.c0; have x1 := X1.c1; have x2 := X1.c2; have x3 := X1.c3; have xl := X1.lt; have HY : Hid (Row4 w1 (w.heap.size + 1) 0 0 0 0) := Y1; have HX : Hid (Box4 w1 w.heap.size k l false t) := X1; clear hb1 X1 Y1 Z1 HH hg)
      | fail)
    have HK : Hid (∀ w3, Below _ _ w3 → _) := fun w3 => pack_three HP.out w1 w3
    have HB2 := bal (bal H1.out (.cells #[.int .u64 k, .int .u64 l, .int .u64 (bz false)] 91)) (.cells #[.int .i64 4, .int .i64 1, .int .i64 1] 92)
    have HX2 := HX.out.on (bal (bal (Below.refl w1.heap.size w1) (.cells #[.int .u64 k, .int .u64 l, .int .u64 (bz false)] 91)) (.cells #[.int .i64 4, .int .i64 1, .int .i64 1] 92))
    have HY2 := HY.out.on (bal (bal (Below.refl w1.heap.size w1) (.cells #[.int .u64 k, .int .u64 l, .int .u64 (bz false)] 91)) (.cells #[.int .i64 4, .int .i64 1, .int .i64 1] 92))
    rw [show bz false = 0 from rfl] at HK HB2 HX2 HY2
    clear x0 x1 x2 x3 g0 g1 g2 gl xl HX HY H1
    generalize (w1.alloc _).alloc _ = w2 at HK HB2 HX2 HY2 ⊢
    generalize w1.heap.size = D at HK ⊢
    have H2 : Hid (Below w.heap.size w w2) := HB2
    have HX : Hid (Box4 w2 w.heap.size k l false t) := HX2
    have HY : Hid (Row4 w2 (w.heap.size + 1) 0 0 0 0) := HY2
    clear HB2 HX2 HY2
    obtain ⟨v, hv⟩ : ∃ v, v = wd0 k l false := ⟨_, rfl⟩
    rw [← hv] at HK
    have HV : Hid (v = wd0 k l false) := hv
    clear hv HP
    go_region_held3 (fun _ => True) (first | exact trivial | go_keep)
    (first
      | (go_at_call 43; refine (HK.out _ (by first | exact Below.refl _ _ | exact (Below.refl _ _).drew)).mono ?_; rintro e5 w5 ⟨rfl, hb5⟩; have H5 : Hid (Below w2.heap.size w2 w5) := (by first | exact hb5 | exact (Below.refl _ _).drew.trans hb5); clear hb5)
      | fail)
    have x3 := (HX.out.on H5.out).c3
    have hy := HY.out.on H5.out
    have y0 := hy.c0
    have y1 := hy.c1
    have y2 := hy.c2
    have y3 := hy.c3
    have z0 := hy.fz 0
    have z1 := hy.fz 1
    have z2 := hy.fz 2
    have z3 := hy.fz 3
    clear hy
    go_wp2
    refine bodyPost_ret (v := .tuple #[.agg #[.int .u64 v, .int .u64 t, .int .u64 0, .int .u64 0], .int .i64 0]) (by simp [results, Tryd.results24, go_sem, y0, y1, y2, y3]) rfl ⟨by rw [HV.out], ?_⟩
    exact bst (bst (bst (bst ((H2.out.trans (H5.out.mono H2.out.size))) (by omega) _ _) (by omega) _ _) (by omega) _ _) (by omega) _ _
end Go.Proofs.YtlpnnpapeoahkaaDoor
