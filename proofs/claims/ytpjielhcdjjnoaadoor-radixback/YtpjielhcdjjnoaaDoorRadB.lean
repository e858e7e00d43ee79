/- Slot, SlotOf, Page, PageOf and Number of package radix: for every number, what they answer. -/
import Derived.Test.YtpjielhcdjjnoaaDoorRadA
import Derived.Deep.RegionWith
import Derived.BigQuiet
namespace Go.Proofs.YtpjielhcdjjnoaaDoor.Pradix
open Go.Proofs.YtpjielhcdjjnoaaDoor.Pbase Go.Proofs.YtpjielhcdjjnoaaDoor.Pfield
open Go.RowKit M
set_option linter.unusedVariables false

/-- The two tables of widths. -/
structure Wd (w : World) : Prop where
  ls : 0 < w.heap.size
  lp : 1 < w.heap.size
  s : ∃ t fr, w.heap[(0 : Nat)]? = some (.cells #[.int .i64 4, .int .i64 4] t fr)
  p : ∃ t fr, w.heap[(1 : Nat)]? = some (.cells #[.int .i64 5, .int .i64 5, .int .i64 5] t fr)
theorem Wd.on {w w' : World} (h : Wd w) (hB : Below w.heap.size w w') : Wd w' :=
  ⟨Nat.lt_of_lt_of_le h.ls hB.size, Nat.lt_of_lt_of_le h.lp hB.size, by obtain ⟨t, fr, hr⟩ := h.s; exact ⟨t, fr, (hB.block 0 h.ls).trans hr⟩, by obtain ⟨t, fr, hr⟩ := h.p; exact ⟨t, fr, (hB.block 1 h.lp).trans hr⟩⟩
theorem Wd.s0 {w : World} (h : Wd w) : w.cell? ⟨0, 0, none⟩ = some (.int .i64 4) ∧ w.cell? ⟨0, 1, none⟩ = some (.int .i64 4) := by
  obtain ⟨t, fr, hr⟩ := h.s
  exact ⟨(cell_of_row _ _ 0 _ _ _ hr).trans rfl, (cell_of_row _ _ 1 _ _ _ hr).trans rfl⟩
theorem Wd.p0 {w : World} (h : Wd w) : w.cell? ⟨1, 0, none⟩ = some (.int .i64 5) ∧ w.cell? ⟨1, 1, none⟩ = some (.int .i64 5) ∧ w.cell? ⟨1, 2, none⟩ = some (.int .i64 5) := by
  obtain ⟨t, fr, hr⟩ := h.p
  exact ⟨(cell_of_row _ _ 0 _ _ _ hr).trans rfl, (cell_of_row _ _ 1 _ _ _ hr).trans rfl, (cell_of_row _ _ 2 _ _ _ hr).trans rfl⟩
theorem ints_s2 (w : World) (ty : TypeId) : Ints .i64 (w.alloc (.cells #[.int .i64 4, .int .i64 4] ty)).heap.size (w.alloc (.cells #[.int .i64 4, .int .i64 4] ty)) (.slice (some ⟨w.heap.size, 0, none⟩) 2 2) s2 := by
  refine .inr ⟨w.heap.size, 0, 2, rfl, by simp, fun j hj => ?_⟩
  rw [Nat.zero_add, cell_of_row _ _ j _ _ _ (heap_alloc_new w _)]
  match j, hj with
  | 0, _ | 1, _ => rfl
theorem ints_two (w : World) (x y : Int) (ty : TypeId) : Ints .i64 (w.alloc (.cells #[.int .i64 x, .int .i64 y] ty)).heap.size (w.alloc (.cells #[.int .i64 x, .int .i64 y] ty)) (.slice (some ⟨w.heap.size, 0, none⟩) 2 2) [x, y] := by
  refine .inr ⟨w.heap.size, 0, 2, rfl, by simp, fun j hj => ?_⟩
  rw [Nat.zero_add, cell_of_row _ _ j _ _ _ (heap_alloc_new w _)]
  match j, hj with
  | 0, _ | 1, _ => rfl
theorem ints_p3 (w : World) (ty : TypeId) : Ints .i64 (w.alloc (.cells #[.int .i64 5, .int .i64 5, .int .i64 5] ty)).heap.size (w.alloc (.cells #[.int .i64 5, .int .i64 5, .int .i64 5] ty)) (.slice (some ⟨w.heap.size, 0, none⟩) 3 3) p3 := by
  refine .inr ⟨w.heap.size, 0, 3, rfl, by simp, fun j hj => ?_⟩
  rw [Nat.zero_add, cell_of_row _ _ j _ _ _ (heap_alloc_new w _)]
  match j, hj with
  | 0, _ | 1, _ | 2, _ => rfl
theorem ints_three (w : World) (x y z : Int) (ty : TypeId) : Ints .i64 (w.alloc (.cells #[.int .i64 x, .int .i64 y, .int .i64 z] ty)).heap.size (w.alloc (.cells #[.int .i64 x, .int .i64 y, .int .i64 z] ty)) (.slice (some ⟨w.heap.size, 0, none⟩) 3 3) [x, y, z] := by
  refine .inr ⟨w.heap.size, 0, 3, rfl, by simp, fun j hj => ?_⟩
  rw [Nat.zero_add, cell_of_row _ _ j _ _ _ (heap_alloc_new w _)]
  match j, hj with
  | 0, _ | 1, _ | 2, _ => rfl
/-- All numbers but the first. -/
theorem ints_tail {q : IntKind} {n₀ : Nat} {W : World} {b o n c : Nat} {z : Int} {zs : List Int} (h : Ints q n₀ W (.slice (some ⟨b, o, none⟩) (n + 1) c) (z :: zs)) (hn : zs.length = n) (c' : Nat) : Ints q n₀ W (.slice (some ⟨b, o + 1, none⟩) n c') zs := by
  subst hn
  rcases h with ⟨_, _, _, e⟩ | ⟨b', o', cap, e, hb, hc⟩
  · cases e
  · cases e
    refine .inr ⟨b, o + 1, c', rfl, hb, fun j hj => ?_⟩
    have := hc (j + 1) (by simp; omega)
    rw [show o + 1 + j = o + (j + 1) by omega, this]
    simp
theorem cut_s2 (a0 : Option Addr) (c0 : Nat) (a : Int) (w : World) (hI : Ints .i64 w.heap.size w (.slice a0 2 c0) s2) (ha : 0 ≤ a ∧ a ≤ 255) :
    Calls Tryd.prog 17 #[.slice a0 2 c0, .int .i64 a] w fun e w' => ∃ b o c, e = .returned (.tuple #[.slice (some ⟨b, o, none⟩) 2 c, .int .i64 0]) ∧ w'.cell? ⟨b, o, none⟩ = some (.int .i64 (a % 16)) ∧ w'.cell? ⟨b, o + 1, none⟩ = some (.int .i64 (a / 16)) ∧ Below w.heap.size w w' := by
  have hw : IntKind.u64.wrap a = a := wrapu_small ha.1 (by omega)
  have hg : toI (getsI a s2) = [a % 16, a / 16] := by
    rw [gets2 a ha.1]
    simp only [toI, List.map_cons, List.map_nil, List.cons.injEq, and_true, wrap64]
    omega
  refine (cut_ok a0 c0 s2 a w (by decide) hI (by rw [hw]; exact s2_can.2 ha.2)).mono ?_
  rintro e w' ⟨a', c', he, _, hi, hB⟩
  rw [hw, hg] at hi
  rcases hi with ⟨_, _, _, e2⟩ | ⟨b, o, cap, e2, hb, hc⟩
  · cases e2
  · cases e2
    exact ⟨b, o, _, he, hc 0 (by simp), hc 1 (by simp), hB⟩
theorem cut_s2_no (a0 : Option Addr) (c0 : Nat) (a : Int) (w : World) (hI : Ints .i64 w.heap.size w (.slice a0 2 c0) s2) (hb : -9223372036854775808 ≤ a ∧ a ≤ 9223372036854775807) (ha : ¬ (0 ≤ a ∧ a ≤ 255)) :
    Calls Tryd.prog 17 #[.slice a0 2 c0, .int .i64 a] w fun e w' => ∃ a' c', e = .returned (.tuple #[.slice a' 0 c', .int .i64 1]) ∧ Below w.heap.size w w' :=
  cut_bad a0 c0 s2 a w (by decide) hI (fun h => ha ((wrapu_le hb (by omega)).1 (s2_can.1 h)))
theorem cut_p3 (a0 : Option Addr) (c0 : Nat) (a : Int) (w : World) (hI : Ints .i64 w.heap.size w (.slice a0 3 c0) p3) (ha : 0 ≤ a ∧ a ≤ 32767) :
    Calls Tryd.prog 17 #[.slice a0 3 c0, .int .i64 a] w fun e w' => ∃ b o c, e = .returned (.tuple #[.slice (some ⟨b, o, none⟩) 3 c, .int .i64 0]) ∧ 3 ≤ c ∧ Ints .i64 w'.heap.size w' (.slice (some ⟨b, o, none⟩) 3 c) [a % 32, a / 32 % 32, a / 1024] ∧ w'.cell? ⟨b, o, none⟩ = some (.int .i64 (a % 32)) ∧ w'.cell? ⟨b, o + 1, none⟩ = some (.int .i64 (a / 32 % 32)) ∧ w'.cell? ⟨b, o + 2, none⟩ = some (.int .i64 (a / 1024)) ∧ Below w.heap.size w w' := by
  have hw : IntKind.u64.wrap a = a := wrapu_small ha.1 (by omega)
  have hg : toI (getsI a p3) = [a % 32, a / 32 % 32, a / 1024] := by
    rw [gets3 a ha.1]
    simp only [toI, List.map_cons, List.map_nil, List.cons.injEq, and_true, wrap64]
    omega
  refine (cut_ok a0 c0 p3 a w (by decide) hI (by rw [hw]; exact p3_can.2 ha.2)).mono ?_
  rintro e w' ⟨a', c', he, hc', hi, hB⟩
  rw [hw, hg] at hi
  have hi2 := hi
  rcases hi with ⟨_, _, _, e2⟩ | ⟨b, o, cap, e2, hb, hc⟩
  · cases e2
  · cases e2
    exact ⟨b, o, _, he, hc', hi2, hc 0 (by simp), hc 1 (by simp), hc 2 (by simp), hB⟩
theorem cut_p3_no (a0 : Option Addr) (c0 : Nat) (a : Int) (w : World) (hI : Ints .i64 w.heap.size w (.slice a0 3 c0) p3) (hb : -9223372036854775808 ≤ a ∧ a ≤ 9223372036854775807) (ha : ¬ (0 ≤ a ∧ a ≤ 32767)) :
    Calls Tryd.prog 17 #[.slice a0 3 c0, .int .i64 a] w fun e w' => ∃ a' c', e = .returned (.tuple #[.slice a' 0 c', .int .i64 1]) ∧ Below w.heap.size w w' :=
  cut_bad a0 c0 p3 a w (by decide) hI (fun h => ha ((wrapu_le hb (by omega)).1 (p3_can.1 h)))
theorem join_s2 (a0 a1 : Option Addr) (c0 c1 : Nat) (l h : Int) (w : World) (hl : -9223372036854775808 ≤ l ∧ l ≤ 9223372036854775807) (hh : -9223372036854775808 ≤ h ∧ h ≤ 9223372036854775807) (hI : Ints .i64 w.heap.size w (.slice a0 2 c0) s2) (hJ : Ints .i64 w.heap.size w (.slice a1 2 c1) [l, h]) :
    Calls Tryd.prog 18 #[.slice a0 2 c0, .slice a1 2 c1] w fun e w' => e = .returned (.tuple #[.int .i64 (soA h l), .int .i64 (soE h l)]) ∧ Below w.heap.size w w' := by
  have hk : (∀ j, j < s2.length → okP s2 (toU [l, h]) j = true) ↔ (0 ≤ h ∧ h ≤ 15) ∧ 0 ≤ l ∧ l ≤ 15 := by
    show (∀ j, j < s2.length → okP s2 [IntKind.u64.wrap l, IntKind.u64.wrap h] j = true) ↔ _
    rw [s2_ok, wrapu_le hl (by omega), wrapu_le hh (by omega), and_comm]
  by_cases hc : (0 ≤ h ∧ h ≤ 15) ∧ 0 ≤ l ∧ l ≤ 15
  · refine (join_ok a0 a1 c0 c1 s2 [l, h] w (by decide) rfl hI hJ (hk.2 hc)).mono ?_
    rintro e w' ⟨he, hB⟩
    refine ⟨he.trans ?_, hB⟩
    rw [(so_yes hc).1, (so_yes hc).2, show toU [l, h] = [l, h] by simp only [toU, List.map_cons, List.map_nil, wrapu_small hc.2.1 (show l ≤ 18446744073709551615 by omega), wrapu_small hc.1.1 (show h ≤ 18446744073709551615 by omega)], pack_s2 hc.2 hc.1, IntWalk.wrap64_in _ (by omega)]
  · refine (join_bad a0 a1 c0 c1 s2 [l, h] w (by decide) rfl hI hJ (fun k => hc (hk.1 k))).mono ?_
    rintro e w' ⟨he, hB⟩
    rw [(so_no hc).1, (so_no hc).2]
    exact ⟨he, hB⟩
theorem join_p3 (a0 a1 : Option Addr) (c0 c1 : Nat) (t l h : Int) (w : World) (ht : -9223372036854775808 ≤ t ∧ t ≤ 9223372036854775807) (hl : -9223372036854775808 ≤ l ∧ l ≤ 9223372036854775807) (hh : -9223372036854775808 ≤ h ∧ h ≤ 9223372036854775807) (hI : Ints .i64 w.heap.size w (.slice a0 3 c0) p3) (hJ : Ints .i64 w.heap.size w (.slice a1 3 c1) [t, l, h]) :
    Calls Tryd.prog 18 #[.slice a0 3 c0, .slice a1 3 c1] w fun e w' => e = .returned (.tuple #[.int .i64 (poA h l t), .int .i64 (poE h l t)]) ∧ Below w.heap.size w w' := by
  have hk : (∀ j, j < p3.length → okP p3 (toU [t, l, h]) j = true) ↔ ((0 ≤ h ∧ h ≤ 31) ∧ 0 ≤ l ∧ l ≤ 31) ∧ 0 ≤ t ∧ t ≤ 31 := by
    show (∀ j, j < p3.length → okP p3 [IntKind.u64.wrap t, IntKind.u64.wrap l, IntKind.u64.wrap h] j = true) ↔ _
    rw [p3_ok, wrapu_le ht (by omega), wrapu_le hl (by omega), wrapu_le hh (by omega)]
    omega
  by_cases hc : ((0 ≤ h ∧ h ≤ 31) ∧ 0 ≤ l ∧ l ≤ 31) ∧ 0 ≤ t ∧ t ≤ 31
  · refine (join_ok a0 a1 c0 c1 p3 [t, l, h] w (by decide) rfl hI hJ (hk.2 hc)).mono ?_
    rintro e w' ⟨he, hB⟩
    refine ⟨he.trans ?_, hB⟩
    rw [(po_yes hc).1, (po_yes hc).2, show toU [t, l, h] = [t, l, h] by simp only [toU, List.map_cons, List.map_nil, wrapu_small hc.2.1 (show t ≤ 18446744073709551615 by omega), wrapu_small hc.1.2.1 (show l ≤ 18446744073709551615 by omega), wrapu_small hc.1.1.1 (show h ≤ 18446744073709551615 by omega)], pack_p3 hc.2 hc.1.2 hc.1.1, IntWalk.wrap64_in _ (by omega)]
  · refine (join_bad a0 a1 c0 c1 p3 [t, l, h] w (by decide) rfl hI hJ (fun k => hc (hk.1 k))).mono ?_
    rintro e w' ⟨he, hB⟩
    rw [(po_no hc).1, (po_no hc).2]
    exact ⟨he, hB⟩
theorem join_p2 (a0 a1 : Option Addr) (c0 c1 : Nat) (l h : Int) (w : World) (hl : 0 ≤ l ∧ l ≤ 31) (hh : 0 ≤ h ∧ h ≤ 31) (hI : Ints .i64 w.heap.size w (.slice a0 2 c0) p2) (hJ : Ints .i64 w.heap.size w (.slice a1 2 c1) [l, h]) :
    Calls Tryd.prog 18 #[.slice a0 2 c0, .slice a1 2 c1] w fun e w' => e = .returned (.tuple #[.int .i64 (h * 32 + l), .int .i64 0]) ∧ Below w.heap.size w w' := by
  have hu : toU [l, h] = [l, h] := by simp only [toU, List.map_cons, List.map_nil, wrapu_small hl.1 (show l ≤ 18446744073709551615 by omega), wrapu_small hh.1 (show h ≤ 18446744073709551615 by omega)]
  refine (join_ok a0 a1 c0 c1 p2 [l, h] w (by decide) rfl hI hJ (by rw [hu]; exact p2_ok.2 ⟨hl.2, hh.2⟩)).mono ?_
  rintro e w' ⟨he, hB⟩
  refine ⟨he.trans ?_, hB⟩
  rw [hu, pack_p2 hl hh, IntWalk.wrap64_in _ (by omega)]

/-! ### Slot, SlotOf -/
set_option maxRecDepth 100000 in
theorem slot_any (a : Int) (w : World) (hb : -9223372036854775808 ≤ a ∧ a ≤ 9223372036854775807) (hW : Wd w) :
    Calls Tryd.prog 6 #[.int .i64 a] w fun e w' => e = .returned (.tuple #[.int .i64 (slH a), .int .i64 (slL a), .int .i64 (slE a)]) ∧ Below w.heap.size w w' := by
  obtain ⟨g0, g1⟩ := hW.s0
  have gl := hW.ls
  have HI : Hid (∀ ty, Ints .i64 (w.alloc (.cells #[.int .i64 4, .int .i64 4] ty)).heap.size (w.alloc (.cells #[.int .i64 4, .int .i64 4] ty)) (.slice (some ⟨w.heap.size, 0, none⟩) 2 2) s2 ∧ Below w.heap.size w (w.alloc (.cells #[.int .i64 4, .int .i64 4] ty))) := fun ty => ⟨ints_s2 w ty, bal (Below.refl _ _) _⟩
  have HR : Hid (-9223372036854775808 ≤ a ∧ a ≤ 9223372036854775807) := hb
  clear hW hb
  by_cases hc : 0 ≤ a ∧ a ≤ 255
  · rw [(sl_yes hc).1, (sl_yes hc).2.1, (sl_yes hc).2.2]
    have HC : Hid (0 ≤ a ∧ a ≤ 255) := hc
    clear hc
    generalize hx : a / 16 = x
    generalize hy : a % 16 = y
    have HX : Hid (a / 16 = x) := hx
    have HY : Hid (a % 16 = y) := hy
    clear hx hy
    go_enter Tryd.func6, Tryd.ntmps6
    go_wp2_with (first
      | (go_at_call 17; refine (cut_s2 _ _ a _ (HI.out _).1 HC.out).mono ?_; rintro e1 w1 ⟨b, o, c, rfl, q0, q1, hb1⟩; rw [HX.out] at q1; rw [HY.out] at q0; have H1 : Hid (Below w.heap.size w w1) := (HI.out _).2.trans (hb1.mono (HI.out _).2.size); clear hb1)
      | fail)
    go_quiet (fail)
    go_wp2
    go_ret3
    exact ⟨rfl, H1.out.trans (below_drew' _ _ _)⟩
  · rw [(sl_no hc).1, (sl_no hc).2.1, (sl_no hc).2.2]
    have HC : Hid (¬ (0 ≤ a ∧ a ≤ 255)) := hc
    clear hc
    go_enter Tryd.func6, Tryd.ntmps6
    go_wp2_with (first
      | (go_at_call 17; refine (cut_s2_no _ _ a _ (HI.out _).1 HR.out HC.out).mono ?_; rintro e1 w1 ⟨a1, c1, rfl, hb1⟩; have H1 : Hid (Below w.heap.size w w1) := (HI.out _).2.trans (hb1.mono (HI.out _).2.size); clear hb1)
      | fail)
    go_ret3
    exact ⟨rfl, H1.out⟩
set_option maxRecDepth 100000 in
theorem slotOf_any (h l : Int) (w : World) (hh : -9223372036854775808 ≤ h ∧ h ≤ 9223372036854775807) (hl : -9223372036854775808 ≤ l ∧ l ≤ 9223372036854775807) (hW : Wd w) :
    Calls Tryd.prog 8 #[.int .i64 h, .int .i64 l] w fun e w' => e = .returned (.tuple #[.int .i64 (soA h l), .int .i64 (soE h l)]) ∧ Below w.heap.size w w' := by
  obtain ⟨g0, g1⟩ := hW.s0
  have gl := hW.ls
  have HI : Hid (∀ ty ty', Ints .i64 ((w.alloc (.cells #[.int .i64 4, .int .i64 4] ty)).alloc (.cells #[.int .i64 l, .int .i64 h] ty')).heap.size ((w.alloc (.cells #[.int .i64 4, .int .i64 4] ty)).alloc (.cells #[.int .i64 l, .int .i64 h] ty')) (.slice (some ⟨w.heap.size, 0, none⟩) 2 2) s2 ∧ Ints .i64 ((w.alloc (.cells #[.int .i64 4, .int .i64 4] ty)).alloc (.cells #[.int .i64 l, .int .i64 h] ty')).heap.size ((w.alloc (.cells #[.int .i64 4, .int .i64 4] ty)).alloc (.cells #[.int .i64 l, .int .i64 h] ty')) (.slice (some ⟨w.heap.size + 1, 0, none⟩) 2 2) [l, h] ∧ Below w.heap.size w ((w.alloc (.cells #[.int .i64 4, .int .i64 4] ty)).alloc (.cells #[.int .i64 l, .int .i64 h] ty'))) := fun ty ty' => ⟨(ints_s2 w ty).on (bal (Below.refl _ _) _), by have := ints_two (w.alloc (.cells #[.int .i64 4, .int .i64 4] ty)) l h ty'; rwa [show (w.alloc (.cells #[.int .i64 4, .int .i64 4] ty)).heap.size = w.heap.size + 1 by simp] at this, bal (bal (Below.refl _ _) _) _⟩
  have HH : Hid (-9223372036854775808 ≤ h ∧ h ≤ 9223372036854775807) := hh
  have HL : Hid (-9223372036854775808 ≤ l ∧ l ≤ 9223372036854775807) := hl
  clear hW hh hl
  go_enter Tryd.func8, Tryd.ntmps8
  go_wp2
  go_region_with (go_at_call 18; refine (join_s2 _ _ _ _ l h _ HL.out HH.out ((HI.out _ _).1.on (Below.refl _ _).drew) ((HI.out _ _).2.1.on (Below.refl _ _).drew)).mono ?_; rintro e1 w1 ⟨rfl, hb1⟩; have H1 : Hid (Below w.heap.size w w1) := ((HI.out _ _).2.2.drew).trans (hb1.mono (HI.out _ _).2.2.drew.size); clear hb1)
  all_goals
    go_wp2
    go_ret2
    exact ⟨rfl, H1.out⟩

/-! ### Page, PageOf, Number -/
set_option maxRecDepth 100000 in
theorem page_any (a : Int) (w : World) (hb : -9223372036854775808 ≤ a ∧ a ≤ 9223372036854775807) (hW : Wd w) :
    Calls Tryd.prog 10 #[.int .i64 a] w fun e w' => e = .returned (.tuple #[.int .i64 (pgH a), .int .i64 (pgL a), .int .i64 (pgA a), .int .i64 (pgE a)]) ∧ Below w.heap.size w w' := by
  obtain ⟨g0, g1, g2⟩ := hW.p0
  have gl := hW.lp
  have HI : Hid (∀ ty, Ints .i64 (w.alloc (.cells #[.int .i64 5, .int .i64 5, .int .i64 5] ty)).heap.size (w.alloc (.cells #[.int .i64 5, .int .i64 5, .int .i64 5] ty)) (.slice (some ⟨w.heap.size, 0, none⟩) 3 3) p3 ∧ Below w.heap.size w (w.alloc (.cells #[.int .i64 5, .int .i64 5, .int .i64 5] ty))) := fun ty => ⟨ints_p3 w ty, bal (Below.refl _ _) _⟩
  have HR : Hid (-9223372036854775808 ≤ a ∧ a ≤ 9223372036854775807) := hb
  clear hW hb
  by_cases hc : 0 ≤ a ∧ a ≤ 32767
  · rw [(pg_yes hc).1, (pg_yes hc).2.1, (pg_yes hc).2.2.1, (pg_yes hc).2.2.2.1]
    have HC : Hid (0 ≤ a ∧ a ≤ 32767) := hc
    clear hc
    generalize hx : a / 1024 = x
    generalize hy : a / 32 % 32 = y
    generalize hz : a % 32 = z
    have HX : Hid (a / 1024 = x) := hx
    have HY : Hid (a / 32 % 32 = y) := hy
    have HZ : Hid (a % 32 = z) := hz
    clear hx hy hz
    go_enter Tryd.func10, Tryd.ntmps10
    go_wp2_with (first
      | (go_at_call 17; refine (cut_p3 _ _ a _ (HI.out _).1 HC.out).mono ?_; rintro e1 w1 ⟨b, o, c, rfl, _, _, q0, q1, q2, hb1⟩; rw [HX.out] at q2; rw [HY.out] at q1; rw [HZ.out] at q0; have H1 : Hid (Below w.heap.size w w1) := (HI.out _).2.trans (hb1.mono (HI.out _).2.size); clear hb1)
      | fail)
    go_quiet (fail)
    go_wp2
    refine bodyPost_ret (v := .tuple #[.int .i64 x, .int .i64 y, .int .i64 z, .int .i64 0]) (by simp [results, Tryd.results10, go_sem]) rfl ⟨rfl, ?_⟩
    exact H1.out.trans (below_drew' _ _ _)
  · rw [(pg_no hc).1, (pg_no hc).2.1, (pg_no hc).2.2.1, (pg_no hc).2.2.2.1]
    have HC : Hid (¬ (0 ≤ a ∧ a ≤ 32767)) := hc
    clear hc
    go_enter Tryd.func10, Tryd.ntmps10
    go_wp2_with (first
      | (go_at_call 17; refine (cut_p3_no _ _ a _ (HI.out _).1 HR.out HC.out).mono ?_; rintro e1 w1 ⟨a1, c1, rfl, hb1⟩; have H1 : Hid (Below w.heap.size w w1) := (HI.out _).2.trans (hb1.mono (HI.out _).2.size); clear hb1)
      | fail)
    refine bodyPost_ret (v := .tuple #[.int .i64 0, .int .i64 0, .int .i64 0, .int .i64 1]) (by simp [results, Tryd.results10, go_sem]) rfl ⟨rfl, ?_⟩
    exact H1.out
set_option maxRecDepth 100000 in
theorem pageOf_any (h l t : Int) (w : World) (hh : -9223372036854775808 ≤ h ∧ h ≤ 9223372036854775807) (hl : -9223372036854775808 ≤ l ∧ l ≤ 9223372036854775807) (ht : -9223372036854775808 ≤ t ∧ t ≤ 9223372036854775807) (hW : Wd w) :
    Calls Tryd.prog 12 #[.int .i64 h, .int .i64 l, .int .i64 t] w fun e w' => e = .returned (.tuple #[.int .i64 (poA h l t), .int .i64 (poE h l t)]) ∧ Below w.heap.size w w' := by
  obtain ⟨g0, g1, g2⟩ := hW.p0
  have gl := hW.lp
  have HI : Hid (∀ ty ty', Ints .i64 ((w.alloc (.cells #[.int .i64 5, .int .i64 5, .int .i64 5] ty)).alloc (.cells #[.int .i64 t, .int .i64 l, .int .i64 h] ty')).heap.size ((w.alloc (.cells #[.int .i64 5, .int .i64 5, .int .i64 5] ty)).alloc (.cells #[.int .i64 t, .int .i64 l, .int .i64 h] ty')) (.slice (some ⟨w.heap.size, 0, none⟩) 3 3) p3 ∧ Ints .i64 ((w.alloc (.cells #[.int .i64 5, .int .i64 5, .int .i64 5] ty)).alloc (.cells #[.int .i64 t, .int .i64 l, .int .i64 h] ty')).heap.size ((w.alloc (.cells #[.int .i64 5, .int .i64 5, .int .i64 5] ty)).alloc (.cells #[.int .i64 t, .int .i64 l, .int .i64 h] ty')) (.slice (some ⟨w.heap.size + 1, 0, none⟩) 3 3) [t, l, h] ∧ Below w.heap.size w ((w.alloc (.cells #[.int .i64 5, .int .i64 5, .int .i64 5] ty)).alloc (.cells #[.int .i64 t, .int .i64 l, .int .i64 h] ty'))) := fun ty ty' => ⟨(ints_p3 w ty).on (bal (Below.refl _ _) _), by have := ints_three (w.alloc (.cells #[.int .i64 5, .int .i64 5, .int .i64 5] ty)) t l h ty'; rwa [show (w.alloc (.cells #[.int .i64 5, .int .i64 5, .int .i64 5] ty)).heap.size = w.heap.size + 1 by simp] at this, bal (bal (Below.refl _ _) _) _⟩
  have HH : Hid (-9223372036854775808 ≤ h ∧ h ≤ 9223372036854775807) := hh
  have HL : Hid (-9223372036854775808 ≤ l ∧ l ≤ 9223372036854775807) := hl
  have HT : Hid (-9223372036854775808 ≤ t ∧ t ≤ 9223372036854775807) := ht
  clear hW hh hl ht
  go_enter Tryd.func12, Tryd.ntmps12
  go_wp2
  go_region_with (go_at_call 18; refine (join_p3 _ _ _ _ t l h _ HT.out HL.out HH.out ((HI.out _ _).1.on (Below.refl _ _).drew) ((HI.out _ _).2.1.on (Below.refl _ _).drew)).mono ?_; rintro e1 w1 ⟨rfl, hb1⟩; have H1 : Hid (Below w.heap.size w w1) := ((HI.out _ _).2.2.drew).trans (hb1.mono (HI.out _ _).2.2.drew.size); clear hb1)
  all_goals
    go_wp2
    go_ret2
    exact ⟨rfl, H1.out⟩
set_option maxRecDepth 100000 in
theorem number_any (a : Int) (w : World) (hb : -9223372036854775808 ≤ a ∧ a ≤ 9223372036854775807) (hW : Wd w) :
    Calls Tryd.prog 14 #[.int .i64 a] w fun e w' => e = .returned (.tuple #[.int .i64 (nuA a), .int .i64 (pgE a)]) ∧ Below w.heap.size w w' := by
  obtain ⟨g0, g1, g2⟩ := hW.p0
  have gl := hW.lp
  have HI : Hid (∀ ty, Ints .i64 (w.alloc (.cells #[.int .i64 5, .int .i64 5, .int .i64 5] ty)).heap.size (w.alloc (.cells #[.int .i64 5, .int .i64 5, .int .i64 5] ty)) (.slice (some ⟨w.heap.size, 0, none⟩) 3 3) p3 ∧ Below w.heap.size w (w.alloc (.cells #[.int .i64 5, .int .i64 5, .int .i64 5] ty))) := fun ty => ⟨ints_p3 w ty, bal (Below.refl _ _) _⟩
  have HR : Hid (-9223372036854775808 ≤ a ∧ a ≤ 9223372036854775807) := hb
  clear hW hb
  by_cases hc : 0 ≤ a ∧ a ≤ 32767
  · have hm : a / 1024 * 32 + a / 32 % 32 = a / 32 := by omega
    rw [(pg_yes hc).1, (pg_yes hc).2.2.2.2, ← hm]
    have HC : Hid (0 ≤ a ∧ a ≤ 32767) := hc
    have HX : Hid (0 ≤ a / 1024 ∧ a / 1024 ≤ 31) := by constructor <;> omega
    have HY : Hid (0 ≤ a / 32 % 32 ∧ a / 32 % 32 ≤ 31) := by constructor <;> omega
    clear hc hm
    have HK : Hid (∀ (a0 : Option Addr) (c0 : Nat) (w : World), Ints .i64 w.heap.size w (.slice a0 3 c0) p3 → Calls Tryd.prog 17 #[.slice a0 3 c0, .int .i64 a] w fun e w' => ∃ b o c, e = .returned (.tuple #[.slice (some ⟨b, o, none⟩) 3 c, .int .i64 0]) ∧ 3 ≤ c ∧ Ints .i64 w'.heap.size w' (.slice (some ⟨b, o + 1, none⟩) 2 (c - 1)) [a / 32 % 32, a / 1024] ∧ Below w.heap.size w w') := fun a0 c0 w hi => (cut_p3 a0 c0 a w hi HC.out).mono fun e w' ⟨b, o, c, h1, h2, h3, _, _, _, h4⟩ => ⟨b, o, c, h1, h2, ints_tail h3 rfl _, h4⟩
    generalize a / 1024 = x at HX HK ⊢
    generalize a / 32 % 32 = y at HY HK ⊢
    go_enter Tryd.func14, Tryd.ntmps14
    go_wp2_with (first
      | (go_at_call 17; refine (HK.out _ _ _ (HI.out _).1).mono ?_; rintro e1 w1 ⟨b, o, c, rfl, c3, hi1, hb1⟩; have cn : ¬ c = 1 := (by omega); have HS : Hid (Ints .i64 w1.heap.size w1 (.slice (some ⟨w.heap.size, 1, none⟩) 2 2) p2) := ints_tail (o := 0) (((HI.out _).1).on hb1) rfl 2; have HJ : Hid (Ints .i64 w1.heap.size w1 (.slice (some ⟨b, o + 1, none⟩) 2 (c - 1)) [y, x]) := hi1; have H1 : Hid (Below w.heap.size w w1) := (HI.out _).2.trans (hb1.mono (HI.out _).2.size); clear hb1 hi1)
      | fail)
    go_region_with (go_at_call 18; refine (join_p2 _ _ _ _ y x _ HY.out HX.out (HS.out.on (Below.refl _ _).drew) (HJ.out.on (Below.refl _ _).drew)).mono ?_; rintro e2 w2 ⟨rfl, hb2⟩; have H2 : Hid (Below w.heap.size w w2) := H1.out.drew.trans (hb2.mono H1.out.drew.size); clear hb2)
    all_goals
      go_wp2
      go_ret2
      exact ⟨rfl, H2.out⟩
  · rw [(pg_no hc).1, (pg_no hc).2.2.2.2]
    have HC : Hid (¬ (0 ≤ a ∧ a ≤ 32767)) := hc
    clear hc
    go_enter Tryd.func14, Tryd.ntmps14
    go_wp2_with (first
      | (go_at_call 17; refine (cut_p3_no _ _ a _ (HI.out _).1 HR.out HC.out).mono ?_; rintro e1 w1 ⟨a1, c1, rfl, hb1⟩; have H1 : Hid (Below w.heap.size w w1) := (HI.out _).2.trans (hb1.mono (HI.out _).2.size); clear hb1)
      | fail)
    go_ret2
    exact ⟨rfl, H1.out⟩
end Go.Proofs.YtpjielhcdjjnoaaDoor.Pradix
