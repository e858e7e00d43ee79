/- bit, pack, Put, Get of package pte: for every mapping and every word, what they answer. -/
import Derived.Test.YthmbipcfmciolaaDoorPteG
import Derived.Test.YthmbipcfmciolaaDoorPteA
import Derived.Maps.AppendAt
import Derived.OwnWalk
import Derived.Deep.RegionHeld3
import Derived.Deep.RegionWith
import Derived.Deep.CutBlock
import Derived.BigRegion
import Derived.BigQuiet
namespace Go.Proofs.YthmbipcfmciolaaDoor.Ppte
open Go.Proofs.YthmbipcfmciolaaDoor.Pbase Go.Proofs.YthmbipcfmciolaaDoor.Pfield
open Go.RowKit M
set_option linter.unusedVariables false

/-- The table of widths. -/
structure TabW (w : World) : Prop where
  lt : 0 < w.heap.size
  row : ∃ t fr, w.heap[(0 : Nat)]? = some (.cells #[.int .i64 1, .int .i64 6, .int .i64 2, .int .i64 31] t fr)
theorem TabW.on {w w' : World} (h : TabW w) (hB : Below w.heap.size w w') : TabW w' :=
  ⟨Nat.lt_of_lt_of_le h.lt hB.size, by obtain ⟨t, fr, hr⟩ := h.row; exact ⟨t, fr, (hB.block 0 h.lt).trans hr⟩⟩
theorem TabW.cells {w : World} (h : TabW w) : w.cell? ⟨0, 0, none⟩ = some (.int .i64 1) ∧ w.cell? ⟨0, 1, none⟩ = some (.int .i64 6) ∧ w.cell? ⟨0, 2, none⟩ = some (.int .i64 2) ∧ w.cell? ⟨0, 3, none⟩ = some (.int .i64 31) := by
  obtain ⟨t, fr, hr⟩ := h.row
  exact ⟨(cell_of_row _ _ 0 _ _ _ hr).trans rfl, (cell_of_row _ _ 1 _ _ _ hr).trans rfl, (cell_of_row _ _ 2 _ _ _ hr).trans rfl, (cell_of_row _ _ 3 _ _ _ hr).trans rfl⟩
theorem ints_ws (w : World) (ty : TypeId) : Ints .i64 (w.alloc (.cells #[.int .i64 1, .int .i64 6, .int .i64 2, .int .i64 31] ty)).heap.size (w.alloc (.cells #[.int .i64 1, .int .i64 6, .int .i64 2, .int .i64 31] ty)) (.slice (some ⟨w.heap.size, 0, none⟩) 4 4) ws := by
  refine .inr ⟨w.heap.size, 0, 4, rfl, by simp, fun j hj => ?_⟩
  rw [Nat.zero_add, cell_of_row _ _ j _ _ _ (heap_alloc_new w _)]
  match j, hj with
  | 0, _ | 1, _ | 2, _ | 3, _ => rfl
theorem ints_four (q : IntKind) (w : World) (x y z v : Int) (ty : TypeId) : Ints q (w.alloc (.cells #[.int q x, .int q y, .int q z, .int q v] ty)).heap.size (w.alloc (.cells #[.int q x, .int q y, .int q z, .int q v] ty)) (.slice (some ⟨w.heap.size, 0, none⟩) 4 4) [x, y, z, v] := by
  refine .inr ⟨w.heap.size, 0, 4, rfl, by simp, fun j hj => ?_⟩
  rw [Nat.zero_add, cell_of_row _ _ j _ _ _ (heap_alloc_new w _)]
  match j, hj with
  | 0, _ | 1, _ | 2, _ | 3, _ => rfl
theorem bit_any (o : Bool) (w : World) : Calls Tryd.prog 19 #[.bool o] w fun e w' => e = .returned (.int .i64 (bz o)) ∧ w' = w := by
  cases o
  · go_enter Tryd.func19, Tryd.ntmps19
    go_wp2
    go_ret
    exact ⟨rfl, rfl⟩
  · go_enter Tryd.func19, Tryd.ntmps19
    go_wp2
    go_ret
    exact ⟨rfl, rfl⟩

/-! ### pack -/
theorem infoU : (Tryd.prog.info? 24).map (fun i => (i.zero, i.size, i.bytes)) = some (some (.int .u64 0), 1, 8) := by kernel_rfl
theorem one_cell (w : World) (v : Value) (t : TypeId) : ∀ j u, ([v] : List Value)[j]? = some u → (w.alloc (.cells #[v] t)).cell? ((⟨w.heap.size, 0, none⟩ : Addr).add j) = some u := by
  intro j u hj
  match j, hj with
  | 0, hj => simp at hj; subst hj; simp [Addr.add]
theorem own_ge' {w : World} {base : Nat} {e : TypeId} {v : Value} {n : Nat} {xs : List Value} (h : w.ownsRow base e 1 v n xs) : ∀ k, v.ownBlock = some k → base ≤ k := fun k hk => (h.lt k hk).1
/-- A row of the call's own is a slice of numbers. -/
theorem ints_own {q : IntKind} {W : World} {base : Nat} {t : TypeId} {v : Value} {n : Nat} {xs : List Int} (h : W.ownsRow base t 1 v n (xs.map (Value.int q))) (hn : xs.length = n) : ∃ a c, v = .slice a n c ∧ n ≤ c ∧ Ints q W.heap.size W (.slice a n c) xs := by
  subst hn
  rcases h.2 with ⟨rfl, h0⟩ | ⟨g, cap, cur, rfl, hg, hb, h1, h2, h3, h4⟩
  · refine ⟨none, 0, by rw [h0], by omega, .inl ⟨none, 0, by rw [h0], by simpa using h0⟩⟩
  · refine ⟨_, _, rfl, h1, .inr ⟨g, 0, cap, rfl, (Array.getElem?_eq_some_iff.1 hb).1, fun j hj => ?_⟩⟩
    have hc := h.cellAt (g := g) j (by simpa using hj)
    rw [Nat.zero_add, hc]
    simp [hj]
theorem take_snoc (p : IntKind) (zs : List Int) {k : Nat} (h : k < zs.length) : ((zs.take (k + 1)).map (Value.int p)) = (zs.take k).map (Value.int p) ++ [.int p (zs[k]?.getD 0)] := by
  rw [List.take_succ_eq_append_getElem h, List.map_append, List.map_cons, List.map_nil, List.getElem?_eq_getElem h, Option.getD_some]
/-- Numbers that are no less than 0 go over into words as they are. -/
theorem small_at {zs : List Int} (h : ∀ j : Nat, 0 ≤ zs[j]?.getD 0 ∧ zs[j]?.getD 0 ≤ 18446744073709551615) (k : Nat) : IntKind.u64.wrap (zs[k]?.getD 0) = zs[k]?.getD 0 := wrapu_small (h k).1 (h k).2
set_option maxRecDepth 100000 in
set_option maxHeartbeats 1000000 in
theorem packP_ok (a : Option Addr) (cap : Nat) (zs : List Int) (w : World) (hl : zs.length = 4) (hI : Ints .i64 w.heap.size w (.slice a 4 cap) zs) (hs : ∀ j : Nat, 0 ≤ zs[j]?.getD 0 ∧ zs[j]?.getD 0 ≤ 18446744073709551615) (hW : TabW w) (hA : ∀ j, j < ws.length → okP ws zs j = true) :
    Calls Tryd.prog 18 #[.slice a 4 cap] w fun e w' => e = .returned (.tuple #[.int .u64 (packF ws zs), .int .i64 0]) ∧ Below w.heap.size w w' := by
  obtain ⟨it, hi, hz0, hz1, hz2⟩ := info_parts infoU
  have HI : Hid (Ints .i64 w.heap.size w (.slice a 4 cap) zs) := hI
  have HL : Hid (zs.length = 4) := hl
  have HS : Hid (∀ j : Nat, 0 ≤ zs[j]?.getD 0 ∧ zs[j]?.getD 0 ≤ 18446744073709551615) := hs
  have HW : Hid (TabW w) := hW
  have HA : Hid (∀ j, j < ws.length → okP ws zs j = true) := hA
  clear hI hl hs hW hA
  obtain ⟨y, hy⟩ : ∃ y, y = packF ws zs := ⟨_, rfl⟩
  rw [← hy]
  have HY : Hid (y = packF ws zs) := hy
  clear hy
  go_enter Tryd.func18, Tryd.ntmps18
  go_wp2_with (first
    | (at_make; refine wpList_make_own _ rfl _ _ 47 rfl w.heap.size 24 it (.int .u64 0) 1 Tryd.underlying47 hi hz0 hz1 _ _ _ 4 rfl rfl (by omega) (by rw [hz2]; omega) (by unfold maxLen; omega) (Nat.le_refl _) ?_; intro w0 hown0 hgrow0; have HO0 : Hid (w0.ownsRow w.heap.size 24 1 (.slice (some ⟨w.heap.size, 0, none⟩) 0 4) 0 ((zs.take 0).map (Value.int .u64))) := hown0; have HB0 : Hid (Below w.heap.size w w0) := (Below.refl _ _).grown hgrow0 (Nat.le_refl _) (fun k h => by cases h); clear hown0 hgrow0)
    | fail)
  go_loopw [4, 13] (fun l i wr => ∃ k : Nat, k ≤ 4 ∧ i = .int .i64 k ∧ wr.ownsRow w.heap.size 24 1 l k ((zs.take k).map (Value.int .u64)) ∧ Below w.heap.size w wr) (fun _ i _ => 4 - (intOf i).toNat)
  case atStart => exact ⟨0, by omega, rfl, HO0.out, HB0.out⟩
  case round =>
    obtain ⟨k, hk, rfl, hO, hB⟩ := hrel
    obtain ⟨av, cv, rfl⟩ := ownsRow_slice hO
    have HO : Hid (wr.ownsRow w.heap.size 24 1 (.slice av k cv) k ((zs.take k).map (Value.int .u64))) := hO
    have HB : Hid (Below w.heap.size w wr) := hB
    clear hO hB HO0 HB0
    by_cases hlt : k < 4
    · have hki : (k : Int) < 4 := by omega
      obtain ⟨bz, oz, z, ha, hz, HZ⟩ := ints_at' (HI.out.below HB.out) (show k < zs.length by rw [HL.out]; exact hlt)
      subst ha
      go_wp2_with (first
        | (at_builtin; refine wpList_append_own_at _ rfl _ _ 47 rfl w.heap.size 24 it (.int .u64 0) 1 8 Tryd.underlying47 hi hz0 hz1 hz2 rfl (by decide) _ _ _ rfl (HO.out.alloc _) _ 1 1 [.int .u64 (IntKind.u64.wrap z)] rfl rfl (one_cell wr _ _) (by simp [Value.oneCell']) (by unfold maxLen; omega) (by omega) (by have := HB.out.size; simp; omega) ?_; intro v1 w3 hown hgrow _ hat; have HO3 : Hid (w3.ownsRow w.heap.size 24 1 v1 (k + 1) ((zs.take (k + 1)).map (Value.int .u64))) := (by rw [take_snoc .u64 zs (by rw [HL.out]; exact hlt), ← small_at HS.out k, HZ.out]; exact hown); have H3 : Hid (Below w.heap.size w w3) := (HB.out.alloc HB.out.size _).grown hgrow (by have := HB.out.size; simp; omega) (own_ge' HO.out); clear hown hgrow hat)
        | fail)
      go_roundw
      case rel => exact ⟨k + 1, by omega, by go_num, HO3.out, H3.out⟩
      case measure => simp [intOf]; omega
    · obtain rfl : k = 4 := by omega
      have ho := HO.out
      rw [List.take_of_length_le (by rw [HL.out]; omega)] at ho
      obtain ⟨a', c', e, hc', hi'⟩ := ints_own ho HL.out
      cases e
      have HJ : Hid (Ints .u64 wr.heap.size wr (.slice av 4 cv) zs) := hi'
      clear ho hi' HO hc'
      have HT : Hid (TabW wr) := HW.out.on HB.out
      obtain ⟨g0, g1, g2, g3⟩ := HT.out.cells
      have gl := HT.out.lt
      have HK : Hid (∀ ty, Calls Tryd.prog 26 #[.slice (some ⟨wr.heap.size, 0, none⟩) 4 4, .slice av 4 cv] (wr.alloc (.cells #[.int .i64 1, .int .i64 6, .int .i64 2, .int .i64 31] ty)) fun e w' => e = .returned (.tuple #[.int .u64 y, .int .i64 0]) ∧ Below w.heap.size w w') := fun ty =>
        (pack_ok (some ⟨wr.heap.size, 0, none⟩) av 4 cv ws zs _ (by decide) HL.out.symm HS.out (ints_ws wr ty) (HJ.out.on (bal (Below.refl _ _) _)) HA.out).mono fun e w' ⟨he, hb⟩ => ⟨by rw [HY.out]; exact he, HB.out.trans (((bal (Below.refl _ _) _).trans (hb.mono (by simp))).mono HB.out.size)⟩
      go_wp2_with (first
        | (go_at_call 26; refine (HK.out _).mono ?_; rintro e2 w2 ⟨rfl, hb2⟩; have H2 : Hid (Below w.heap.size w w2) := hb2; clear hb2)
        | fail)
      go_ret2
      exact ⟨rfl, H2.out⟩

/-! ### Put -/
set_option maxRecDepth 100000 in
set_option maxHeartbeats 1000000 in
theorem put_any (o : Bool) (f r t : Int) (w : World) (hW : TabW w) :
    Calls Tryd.prog 5 #[.agg #[.bool o, .int .i64 f, .int .i64 r, .int .i64 t]] w fun e w' => e = .returned (.tuple #[.int .u64 (putW o f r t), .int .i64 (chk o f r t)]) ∧ Below w.heap.size w w' := by
  have HX : Hid (∀ ty, BoxP (w.alloc (.cells #[.bool o, .int .i64 f, .int .i64 r, .int .i64 t] ty)) w.heap.size o f r t) := fun ty => boxP_new w o f r t ty
  have HC : Hid (∀ w1, Calls Tryd.prog 11 #[.agg #[.bool o, .int .i64 f, .int .i64 r, .int .i64 t]] w1 fun e w' => e = .returned (.int .i64 (chk o f r t)) ∧ Below w1.heap.size w1 w') := fun w1 => check_any o f r t w1
  by_cases hp : Rt o f r t
  case neg =>
    rw [putW_no hp]
    rw [chk_no hp] at HC ⊢
    clear hp hW
    go_enter Tryd.func5, Tryd.ntmps5
    go_wp2_with (first
      | (go_at_call 11; refine (HC.out _).mono ?_; rintro e1 w1 ⟨rfl, hb1⟩; have H1 : Hid (Below w.heap.size w w1) := (bal (Below.refl _ _) _).trans (hb1.mono (by simp)); clear hb1)
      | fail)
    go_ret2
    exact ⟨rfl, H1.out⟩
  case pos =>
  rw [putW_yes hp]
  rw [chk_yes hp] at HC ⊢
  obtain ⟨y, hy⟩ : ∃ y, y = wd o f r t := ⟨_, rfl⟩
  rw [← hy]
  have HK : Hid (∀ v v', Below w.heap.size w v → Below (v.alloc (.cells #[.int .i64 (bz o), .int .i64 f, .int .i64 r, .int .i64 t] 3)).heap.size (v.alloc (.cells #[.int .i64 (bz o), .int .i64 f, .int .i64 r, .int .i64 t] 3)) v' → Calls Tryd.prog 18 #[.slice (some ⟨v.heap.size, 0, none⟩) 4 4] v' fun e w' => e = .returned (.tuple #[.int .u64 y, .int .i64 0]) ∧ Below v.heap.size v w') := fun v v' hv hv' =>
    (packP_ok (some ⟨v.heap.size, 0, none⟩) 4 [bz o, f, r, t] _ rfl ((ints_four .i64 v _ _ _ _ _).on hv') (put_can hp).1 (((hW.on hv).on (bal (Below.refl _ _) _)).on hv') (put_can hp).2).mono fun e w' ⟨he, hb⟩ => ⟨by rw [hy]; exact he, ((bal (Below.refl v.heap.size v) _).trans (hv'.mono (by simp))).trans (hb.mono (by have := hv'.size; simp at this; omega))⟩
  clear hp hW hy
  go_enter Tryd.func5, Tryd.ntmps5
  go_upto_region 4 with (first
    | (go_at_call 11; refine (HC.out _).mono ?_; rintro e1 w1 ⟨rfl, hb1⟩; have H1 : Hid (Below w.heap.size w w1) := (bal (Below.refl _ _) _).trans (hb1.mono (by simp)); have HX1 : Hid (BoxP w1 w.heap.size o f r t) := (HX.out _).on hb1; clear hb1 HX; have x0 := HX1.out.c0; have x1 := HX1.out.c1; have x2 := HX1.out.c2; have x3 := HX1.out.c3; have xl := HX1.out.lt)
    | fail)
  go_region_held3 (fun w' => w'.cell? ⟨w.heap.size, 0, none⟩ = some (.bool o) ∧ w'.cell? ⟨w.heap.size, 1, none⟩ = some (.int .i64 f) ∧ w'.cell? ⟨w.heap.size, 2, none⟩ = some (.int .i64 r) ∧ w'.cell? ⟨w.heap.size, 3, none⟩ = some (.int .i64 t)) (first | exact ⟨by assumption, by assumption, by assumption, by assumption⟩ | go_keep)
  (first
    | (go_at_call 19; refine (bit_any o _).mono ?_; rintro e2 w2 ⟨rfl, hw2⟩; subst w2)
    | (go_at_call 18; (first | refine (HK.out w1 _ H1.out (by first | exact Below.refl _ _ | exact (Below.refl _ _).drew)).mono ?_ | refine (HK.out w1.drew _ H1.out.drew (by first | exact Below.refl _ _ | exact (Below.refl _ _).drew)).mono ?_); rintro e3 w3 ⟨rfl, hb3⟩; have hm : Below w1.heap.size w1 w3 := (by first | exact hb3 | exact (Below.refl _ _).drew.trans hb3); have H3 : Hid (Below w.heap.size w w3) := H1.out.trans (hm.mono H1.out.size); have X3 := HX1.out.on hm; clear hb3 hm x0 x1 x2 x3 xl HX1; have x0 := X3.c0; have x1 := X3.c1; have x2 := X3.c2; have x3 := X3.c3; clear X3; dsimp only)
    | fail)
  all_goals
    go_wp2
    go_ret2
    exact ⟨rfl, H3.out⟩
end Go.Proofs.YthmbipcfmciolaaDoor.Ppte
