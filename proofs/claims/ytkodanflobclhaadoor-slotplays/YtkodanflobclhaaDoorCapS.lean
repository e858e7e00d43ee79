/- What the document's Check, Put, Get and Under answer. -/
import Derived.Test.YtkodanflobclhaaDoorCapR
namespace Go.Proofs.YtkodanflobclhaaDoor.Pcap
open Go.Proofs.YtkodanflobclhaaDoor.Pbase Go.Proofs.YtkodanflobclhaaDoor.Pfield
open Go.RowKit M
set_option linter.unusedVariables false

theorem rwidths_any (w : World) :
    Calls Tryd.prog 43 #[] w fun x w' => ∃ b, x = .returned (.slice (some ⟨b, 0, none⟩) 5 5) ∧ Ints .i64 w'.heap.size w' (.slice (some ⟨b, 0, none⟩) 5 5) ws ∧ Below w.heap.size w w' := by
  go_enter Tryd.func43, Tryd.ntmps43
  go_wp2
  go_ret
  exact ⟨_, rfl, ints_wide w _, bal (Below.refl _ _) _⟩
theorem ints_built (w : World) (k r t l e : Int) (ty : TypeId) :
    Ints .u64 (w.alloc (.cells #[.int .u64 k, .int .u64 r, .int .u64 t, .int .u64 l, .int .u64 e] ty)).heap.size (w.alloc (.cells #[.int .u64 k, .int .u64 r, .int .u64 t, .int .u64 l, .int .u64 e] ty)) (.slice (some ⟨w.heap.size, 0, none⟩) 5 5) [k, r, t, l, e] := by
  refine .inr ⟨w.heap.size, 0, 5, rfl, by simp, fun j hj => ?_⟩
  rw [Nat.zero_add, cell_of_row _ _ j _ _ _ (heap_alloc_new w _)]
  match j, hj with
  | 0, _ | 1, _ | 2, _ | 3, _ | 4, _ => rfl
/-- Packing behind the building of the parts. -/
theorem rpack_five {k r t l e a : Int} (h : Rt k r t l e a) (b : Nat) (w : World) (hi : Ints .i64 w.heap.size w (.slice (some ⟨b, 0, none⟩) 5 5) ws) :
    Calls Tryd.prog 42 #[.slice (some ⟨b, 0, none⟩) 5 5, .slice (some ⟨w.heap.size, 0, none⟩) 5 5] (w.alloc (.cells #[.int .u64 k, .int .u64 r, .int .u64 t, .int .u64 l, .int .u64 e] 58)) fun x w' => x = .returned (.tuple #[.int .u64 (packF ws [k, r, t, l, e]), .int .i64 0]) ∧ Below w.heap.size w w' :=
  (rpack_ok (some ⟨b, 0, none⟩) (some ⟨w.heap.size, 0, none⟩) 5 5 ws [k, r, t, l, e] (w.alloc (.cells #[.int .u64 k, .int .u64 r, .int .u64 t, .int .u64 l, .int .u64 e] 58)) (by decide) rfl (put_can h).1 (hi.on (bal (Below.refl _ _) _)) (ints_built w k r t l e 58) (put_can h).2).mono fun x w' ⟨hx, hb⟩ => ⟨hx, (bal (Below.refl _ _) _).trans (hb.mono (by simp))⟩
/-- A block laid, marked: so that a walk can tell a world behind it from another. -/
def laidB (w : World) (o : Obj) : World := w.alloc o
theorem laidB_eq (w : World) (o : Obj) : w.alloc o = laidB w o := rfl
/-- The widths behind the building of the parts. -/
theorem rwidths_built (k r t l e : Int) (w : World) :
    Calls Tryd.prog 43 #[] (laidB w (.cells #[.int .u64 k, .int .u64 r, .int .u64 t, .int .u64 l, .int .u64 e] 58)).drew fun x w' => ∃ b, x = .returned (.slice (some ⟨b, 0, none⟩) 5 5) ∧ Ints .i64 w'.heap.size w' (.slice (some ⟨b, 0, none⟩) 5 5) ws ∧ Ints .u64 w'.heap.size w' (.slice (some ⟨w.heap.size, 0, none⟩) 5 5) [k, r, t, l, e] ∧ Below w.heap.size w w' :=
  (rwidths_any (w.alloc (.cells #[.int .u64 k, .int .u64 r, .int .u64 t, .int .u64 l, .int .u64 e] 58)).drew).mono fun x w' ⟨b, hx, hi, hb⟩ => ⟨b, hx, hi, (ints_built w k r t l e 58).on ((Below.refl _ _).drew.trans hb), (bal (Below.refl _ _) (.cells #[.int .u64 k, .int .u64 r, .int .u64 t, .int .u64 l, .int .u64 e] 58)).drew.trans (hb.mono (by show _ ≤ (w.alloc (.cells #[.int .u64 k, .int .u64 r, .int .u64 t, .int .u64 l, .int .u64 e] 58)).heap.size; simp))⟩
theorem rpack_on {k r t l e a : Int} (h : Rt k r t l e a) (b c : Nat) (w : World) (hi : Ints .i64 w.heap.size w (.slice (some ⟨b, 0, none⟩) 5 5) ws) (hj : Ints .u64 w.heap.size w (.slice (some ⟨c, 0, none⟩) 5 5) [k, r, t, l, e]) :
    Calls Tryd.prog 42 #[.slice (some ⟨b, 0, none⟩) 5 5, .slice (some ⟨c, 0, none⟩) 5 5] w fun x w' => x = .returned (.tuple #[.int .u64 (packF ws [k, r, t, l, e]), .int .i64 0]) ∧ Below w.heap.size w w' :=
  rpack_ok (some ⟨b, 0, none⟩) (some ⟨c, 0, none⟩) 5 5 ws [k, r, t, l, e] w (by decide) rfl (put_can h).1 hi hj (put_can h).2
set_option maxRecDepth 100000 in
theorem rput_any (k r t l e a : Int) (w : World) :
    Calls Tryd.prog 25 #[.agg #[.int .i64 k, .int .i64 r, .int .i64 t, .int .i64 l, .int .i64 e, .int .i64 a]] w fun x w' => x = .returned (.tuple #[.int .u64 (putW k r t l e a), .int .u64 (putA k r t l e a), .int .i64 (chk k r t l e a)]) ∧ Below w.heap.size w w' := by
  have HI : Hid (∀ ty, Box6 (w.alloc (.cells #[.int .i64 k, .int .i64 r, .int .i64 t, .int .i64 l, .int .i64 e, .int .i64 a] ty)) w.heap.size k r t l e a) := fun ty => box6_new w _ _ _ _ _ _ ty
  by_cases hp : Rt k r t l e a
  case neg =>
    rw [putW_no hp, putA_no hp, chk_no hp]
    have hc : rtB k r t l e a = false := rtB_no hp
    clear hp
    go_enter Tryd.func25, Tryd.ntmps25
    go_wp2_with (first
      | (go_at_call 41; refine (right_any _ _ _ _ _ _ _).mono ?_; rintro e1 w1 ⟨rfl, hb1⟩; rw [hc]; have H1 : Hid (Below w.heap.size w w1) := (bal (Below.refl _ _) _).trans (hb1.mono (by simp)); clear hb1)
      | fail)
    go_ret3
    exact ⟨rfl, H1.out⟩
  case pos =>
  rw [putW_yes hp, putA_yes hp, chk_yes hp]
  obtain ⟨z, hz⟩ : ∃ z, z = packF ws [k, r, t, l, e] := ⟨_, rfl⟩
  rw [← hz]
  have HZ : Hid (z = packF ws [k, r, t, l, e]) := hz
  clear hz
  have hc : rtB k r t l e a = true := rtB_yes hp
  have HP : Hid (Rt k r t l e a) := hp
  unfold Rt at hp
  have d0 : IntKind.u64.wrap k = k := wrapu_small (by omega) (by omega)
  have d1 : IntKind.u64.wrap r = r := wrapu_small (by omega) (by omega)
  have d2 : IntKind.u64.wrap t = t := wrapu_small (by omega) (by omega)
  have d3 : IntKind.u64.wrap l = l := wrapu_small (by omega) (by omega)
  have d4 : IntKind.u64.wrap e = e := wrapu_small (by omega) (by omega)
  have d5 : IntKind.u64.wrap a = a := wrapu_small (by omega) (by omega)
  clear hp
  go_enter Tryd.func25, Tryd.ntmps25
  go_wp2_with (first
    | (go_at_call 41; refine (right_any _ _ _ _ _ _ _).mono ?_; rintro e1 w1 ⟨rfl, hb1⟩; rw [hc]; have H1 : Hid (Below w.heap.size w w1) := (bal (Below.refl _ _) _).trans (hb1.mono (by simp)); have HX : Hid (Box6 w1 w.heap.size k r t l e a) := (HI.out _).on hb1; clear hb1 HI; have x0 := HX.out.c0; have x1 := HX.out.c1; have x2 := HX.out.c2; have x3 := HX.out.c3; have x4 := HX.out.c4; have x5 := HX.out.c5; have xl := HX.out.lt)
    | fail)
  go_region_held3 (fun w' => w'.cell? ⟨w.heap.size, 0, none⟩ = some (.int .i64 k) ∧ w'.cell? ⟨w.heap.size, 1, none⟩ = some (.int .i64 r) ∧ w'.cell? ⟨w.heap.size, 2, none⟩ = some (.int .i64 t) ∧ w'.cell? ⟨w.heap.size, 3, none⟩ = some (.int .i64 l) ∧ w'.cell? ⟨w.heap.size, 4, none⟩ = some (.int .i64 e)) (first | exact ⟨by assumption, by assumption, by assumption, by assumption, by assumption⟩ | go_keep)
  (first
    | (go_at_call 43; rw [laidB_eq]; refine (rwidths_built k r t l e _).mono ?_; rintro e2 w2 ⟨b, rfl, hi, hj, hb2⟩; have hm : Below w1.heap.size w1 w2 := (by first | exact hb2 | exact (Below.refl _ _).drew.trans hb2); have HX2 : Hid (Box6 w2 w.heap.size k r t l e a) := HX.out.on hm; have H2 : Hid (Below w.heap.size w w2) := H1.out.trans (hm.mono H1.out.size); have HI2 : Hid True := trivial; have HK : Hid (Calls Tryd.prog 42 #[.slice (some ⟨b, 0, none⟩) 5 5, .slice (some ⟨w1.heap.size, 0, none⟩) 5 5] w2 fun x w' => x = .returned (.tuple #[.int .u64 z, .int .i64 0]) ∧ Below w2.heap.size w2 w') := (by rw [HZ.out]; exact rpack_on HP.out b w1.heap.size w2 hi hj); clear hj; clear hm hb2 hi x0 x1 x2 x3 x4 x5 xl HX H1; have x0 := HX2.out.c0; have x1 := HX2.out.c1; have x2 := HX2.out.c2; have x3 := HX2.out.c3; have x4 := HX2.out.c4; have x5 := HX2.out.c5; have xl := HX2.out.lt)
    | (go_at_call 43; refine (rwidths_any _).mono ?_; rintro e2 w2 ⟨b, rfl, hi, hb2⟩; have hm : Below w1.heap.size w1 w2 := (by first | exact hb2 | exact (Below.refl _ _).drew.trans hb2 | exact (bal (Below.refl _ _) _).trans (hb2.mono (by simp)) | exact (bal (Below.refl _ _).drew _).trans (hb2.mono (by simp)) | exact (bal (Below.refl _ _) _).drew.trans (hb2.mono (by simp))); have HX2 : Hid (Box6 w2 w.heap.size k r t l e a) := HX.out.on hm; have H2 : Hid (Below w.heap.size w w2) := H1.out.trans (hm.mono H1.out.size); have HI2 : Hid (Ints .i64 w2.heap.size w2 (.slice (some ⟨b, 0, none⟩) 5 5) ws) := hi; have HK : Hid (Calls Tryd.prog 42 #[.slice (some ⟨b, 0, none⟩) 5 5, .slice (some ⟨w2.heap.size, 0, none⟩) 5 5] (w2.alloc (.cells #[.int .u64 k, .int .u64 r, .int .u64 t, .int .u64 l, .int .u64 e] 58)) fun x w' => x = .returned (.tuple #[.int .u64 z, .int .i64 0]) ∧ Below w2.heap.size w2 w') := (by rw [HZ.out]; exact rpack_five HP.out b w2 hi); clear hm hb2 hi x0 x1 x2 x3 x4 x5 xl HX H1; have x0 := HX2.out.c0; have x1 := HX2.out.c1; have x2 := HX2.out.c2; have x3 := HX2.out.c3; have x4 := HX2.out.c4; have x5 := HX2.out.c5; have xl := HX2.out.lt)
    | (go_at_call 42; refine HK.out.mono ?_; rintro e3 w3 ⟨rfl, hm⟩; have HX3 : Hid (Box6 w3 w.heap.size k r t l e a) := HX2.out.on hm; have H3 : Hid (Below w.heap.size w w3) := H2.out.trans (hm.mono H2.out.size); clear hm x0 x1 x2 x3 x4 x5 xl HX2 H2 HI2 HK; have x0 := HX3.out.c0; have x1 := HX3.out.c1; have x2 := HX3.out.c2; have x3 := HX3.out.c3; have x4 := HX3.out.c4; have x5 := HX3.out.c5; dsimp only)
    | fail)
  all_goals
    go_wp2
    go_quiet (fail)
    go_wp2
    go_ret3
    exact ⟨rfl, H3.out.trans (below_drew' _ _ _)⟩
end Go.Proofs.YtkodanflobclhaaDoor.Pcap
