/- as, cut and join of package radix: for every list of widths and every numbers, what they answer. -/
import Derived.Test.YtpjielhcdjjnoaaDoorRadG
import Derived.Maps.AppendAt
import Derived.OwnWalk
namespace Go.Proofs.YtpjielhcdjjnoaaDoor.Pradix
open Go.Proofs.YtpjielhcdjjnoaaDoor.Pbase Go.Proofs.YtpjielhcdjjnoaaDoor.Pfield
open Go.RowKit M
set_option linter.unusedVariables false

theorem infoI : (Tryd.prog.info? 3).map (fun i => (i.zero, i.size, i.bytes)) = some (some (.int .i64 0), 1, 8) := by kernel_rfl
theorem infoU : (Tryd.prog.info? 51).map (fun i => (i.zero, i.size, i.bytes)) = some (some (.int .u64 0), 1, 8) := by kernel_rfl
theorem one_cell (w : World) (v : Value) (t : TypeId) : ∀ j u, ([v] : List Value)[j]? = some u → (w.alloc (.cells #[v] t)).cell? ((⟨w.heap.size, 0, none⟩ : Addr).add j) = some u := by
  intro j u hj
  match j, hj with
  | 0, hj => simp at hj; subst hj; simp [Addr.add]
theorem own_ge' {w : World} {base : Nat} {e : TypeId} {v : Value} {n : Nat} {xs : List Value} (h : w.ownsRow base e 1 v n xs) : ∀ k, v.ownBlock = some k → base ≤ k := fun k hk => (h.lt k hk).1
/-- A row of the call's own is a slice of numbers. -/
theorem ints_own {q : IntKind} {W : World} {base : Nat} {t : TypeId} {v : Value} {n : Nat} {xs : List Int} (h : W.ownsRow base t 1 v n (xs.map (Value.int q))) (hn : xs.length = n) : ∃ a c, v = .slice a n c ∧ n ≤ c ∧ Ints q W.heap.size W (.slice a n c) xs := by
  subst hn
  rcases h.2 with ⟨rfl, h0⟩ | ⟨g, cap, cur, rfl, hg, hb, h1, h2, h3, h4⟩
  · refine ⟨none, 0, by rw [h0], by omega, .inl ⟨none, 0, by rw [h0], by simpa using h0⟩⟩
  · refine ⟨_, _, rfl, h1, .inr ⟨g, 0, cap, rfl, (Array.getElem?_eq_some_iff.1 hb).1, fun j hj => ?_⟩⟩
    have hc := h.cellAt (g := g) j (by simpa using hj)
    rw [Nat.zero_add, hc]
    simp [hj]
theorem take_snoc (f : Int → Int) (p : IntKind) (zs : List Int) {k : Nat} (h : k < zs.length) : (((zs.map f).take (k + 1)).map (Value.int p)) = ((zs.map f).take k).map (Value.int p) ++ [.int p (f (zs[k]?.getD 0))] := by
  rw [List.take_succ_eq_append_getElem (by simpa using h)]
  simp [h]

set_option maxRecDepth 100000 in
theorem asI_any (a : Option Addr) (cap n : Nat) (zs : List Int) (w : World) (hn : n ≤ 100) (hl : zs.length = n) (hI : Ints .u64 w.heap.size w (.slice a n cap) zs) :
    Calls Tryd.prog 20 #[.slice a n cap] w fun e w' => ∃ a' c', e = .returned (.slice a' n c') ∧ n ≤ c' ∧ Ints .i64 w'.heap.size w' (.slice a' n c') (toI zs) ∧ Below w.heap.size w w' := by
  obtain ⟨it, hi, hz0, hz1, hz2⟩ := info_parts infoI
  have HI : Hid (Ints .u64 w.heap.size w (.slice a n cap) zs) := hI
  have HL : Hid (zs.length = n) := hl
  clear hI hl
  go_enter Tryd.func20, Tryd.ntmps20
  go_wp2_with (first
    | (at_make; refine wpList_make_own _ rfl _ _ 43 rfl w.heap.size 3 it (.int .i64 0) 1 Tryd.underlying43 hi hz0 hz1 _ _ _ n rfl rfl (by omega) (by rw [hz2]; omega) (by unfold maxLen; omega) (Nat.le_refl _) ?_; intro w0 hown0 hgrow0; have HO0 : Hid (w0.ownsRow w.heap.size 3 1 (.slice (some ⟨w.heap.size, 0, none⟩) 0 n) 0 (((toI zs).take 0).map (Value.int .i64))) := hown0; have HB0 : Hid (Below w.heap.size w w0) := (Below.refl _ _).grown hgrow0 (Nat.le_refl _) (fun k h => by cases h); clear hown0 hgrow0)
    | fail)
  go_loopw [3, 11] (fun l i wr => ∃ k : Nat, k ≤ n ∧ i = .int .i64 k ∧ wr.ownsRow w.heap.size 3 1 l k (((toI zs).take k).map (Value.int .i64)) ∧ Below w.heap.size w wr) (fun _ i _ => n - (intOf i).toNat)
  case atStart => exact ⟨0, by omega, rfl, HO0.out, HB0.out⟩
  case round =>
    obtain ⟨k, hk, rfl, hO, hB⟩ := hrel
    obtain ⟨av, cv, rfl⟩ := ownsRow_slice hO
    have HO : Hid (wr.ownsRow w.heap.size 3 1 (.slice av k cv) k (((toI zs).take k).map (Value.int .i64))) := hO
    have HB : Hid (Below w.heap.size w wr) := hB
    clear hO hB HO0 HB0
    by_cases hlt : k < n
    · have hki : (k : Int) < (n : Int) := by omega
      obtain ⟨bz, oz, z, ha, hz, HZ⟩ := ints_at' (HI.out.below HB.out) (show k < zs.length by rw [HL.out]; exact hlt)
      subst ha
      go_wp2_with (first
        | (at_builtin; refine wpList_append_own_at _ rfl _ _ 43 rfl w.heap.size 3 it (.int .i64 0) 1 8 Tryd.underlying43 hi hz0 hz1 hz2 rfl (by decide) _ _ _ rfl (HO.out.alloc _) _ 1 1 [.int .i64 (wrap64 z)] rfl rfl (one_cell wr _ _) (by simp [Value.oneCell']) (by unfold maxLen; omega) (by omega) (by have := HB.out.size; simp; omega) ?_; intro v1 w3 hown hgrow _ hat; have HO3 : Hid (w3.ownsRow w.heap.size 3 1 v1 (k + 1) (((toI zs).take (k + 1)).map (Value.int .i64))) := (by unfold toI; rw [take_snoc wrap64 .i64 zs (by rw [HL.out]; exact hlt), HZ.out]; exact hown); have H3 : Hid (Below w.heap.size w w3) := (HB.out.alloc HB.out.size _).grown hgrow (by have := HB.out.size; simp; omega) (own_ge' HO.out); clear hown hgrow hat)
        | fail)
      go_roundw
      case rel => exact ⟨k + 1, by omega, by go_num, HO3.out, H3.out⟩
      case measure => simp [intOf]; omega
    · obtain rfl : k = n := by omega
      go_wp2
      go_ret
      have ho := HO.out
      rw [List.take_of_length_le (by rw [toI, List.length_map, HL.out]; omega)] at ho
      obtain ⟨a', c', e, hc', hi'⟩ := ints_own ho (by rw [toI, List.length_map, HL.out])
      cases e
      exact ⟨_, _, rfl, hc', hi', HB.out⟩
set_option maxRecDepth 100000 in
theorem asU_any (a : Option Addr) (cap n : Nat) (zs : List Int) (w : World) (hn : n ≤ 100) (hl : zs.length = n) (hI : Ints .i64 w.heap.size w (.slice a n cap) zs) :
    Calls Tryd.prog 22 #[.slice a n cap] w fun e w' => ∃ a' c', e = .returned (.slice a' n c') ∧ n ≤ c' ∧ Ints .u64 w'.heap.size w' (.slice a' n c') (toU zs) ∧ Below w.heap.size w w' := by
  obtain ⟨it, hi, hz0, hz1, hz2⟩ := info_parts infoU
  have HI : Hid (Ints .i64 w.heap.size w (.slice a n cap) zs) := hI
  have HL : Hid (zs.length = n) := hl
  clear hI hl
  go_enter Tryd.func22, Tryd.ntmps22
  go_wp2_with (first
    | (at_make; refine wpList_make_own _ rfl _ _ 48 rfl w.heap.size 51 it (.int .u64 0) 1 Tryd.underlying48 hi hz0 hz1 _ _ _ n rfl rfl (by omega) (by rw [hz2]; omega) (by unfold maxLen; omega) (Nat.le_refl _) ?_; intro w0 hown0 hgrow0; have HO0 : Hid (w0.ownsRow w.heap.size 51 1 (.slice (some ⟨w.heap.size, 0, none⟩) 0 n) 0 (((toU zs).take 0).map (Value.int .u64))) := hown0; have HB0 : Hid (Below w.heap.size w w0) := (Below.refl _ _).grown hgrow0 (Nat.le_refl _) (fun k h => by cases h); clear hown0 hgrow0)
    | fail)
  go_loopw [3, 11] (fun l i wr => ∃ k : Nat, k ≤ n ∧ i = .int .i64 k ∧ wr.ownsRow w.heap.size 51 1 l k (((toU zs).take k).map (Value.int .u64)) ∧ Below w.heap.size w wr) (fun _ i _ => n - (intOf i).toNat)
  case atStart => exact ⟨0, by omega, rfl, HO0.out, HB0.out⟩
  case round =>
    obtain ⟨k, hk, rfl, hO, hB⟩ := hrel
    obtain ⟨av, cv, rfl⟩ := ownsRow_slice hO
    have HO : Hid (wr.ownsRow w.heap.size 51 1 (.slice av k cv) k (((toU zs).take k).map (Value.int .u64))) := hO
    have HB : Hid (Below w.heap.size w wr) := hB
    clear hO hB HO0 HB0
    by_cases hlt : k < n
    · have hki : (k : Int) < (n : Int) := by omega
      obtain ⟨bz, oz, z, ha, hz, HZ⟩ := ints_at' (HI.out.below HB.out) (show k < zs.length by rw [HL.out]; exact hlt)
      subst ha
      go_wp2_with (first
        | (at_builtin; refine wpList_append_own_at _ rfl _ _ 48 rfl w.heap.size 51 it (.int .u64 0) 1 8 Tryd.underlying48 hi hz0 hz1 hz2 rfl (by decide) _ _ _ rfl (HO.out.alloc _) _ 1 1 [.int .u64 (IntKind.u64.wrap z)] rfl rfl (one_cell wr _ _) (by simp [Value.oneCell']) (by unfold maxLen; omega) (by omega) (by have := HB.out.size; simp; omega) ?_; intro v1 w3 hown hgrow _ hat; have HO3 : Hid (w3.ownsRow w.heap.size 51 1 v1 (k + 1) (((toU zs).take (k + 1)).map (Value.int .u64))) := (by unfold toU; rw [take_snoc IntKind.u64.wrap .u64 zs (by rw [HL.out]; exact hlt), HZ.out]; exact hown); have H3 : Hid (Below w.heap.size w w3) := (HB.out.alloc HB.out.size _).grown hgrow (by have := HB.out.size; simp; omega) (own_ge' HO.out); clear hown hgrow hat)
        | fail)
      go_roundw
      case rel => exact ⟨k + 1, by omega, by go_num, HO3.out, H3.out⟩
      case measure => simp [intOf]; omega
    · obtain rfl : k = n := by omega
      go_wp2
      go_ret
      have ho := HO.out
      rw [List.take_of_length_le (by rw [toU, List.length_map, HL.out]; omega)] at ho
      obtain ⟨a', c', e, hc', hi'⟩ := ints_own ho (by rw [toU, List.length_map, HL.out])
      cases e
      exact ⟨_, _, rfl, hc', hi', HB.out⟩

/-! ### cut -/
set_option maxRecDepth 100000 in
theorem cut_ok (a0 : Option Addr) (cap0 : Nat) (zs : List Int) (a : Int) (w : World) (hl : zs.length ≤ 100) (hI : Ints .i64 w.heap.size w (.slice a0 zs.length cap0) zs) (hA : canU (IntKind.u64.wrap a) zs) :
    Calls Tryd.prog 17 #[.slice a0 zs.length cap0, .int .i64 a] w fun e w' => ∃ a' c', e = .returned (.tuple #[.slice a' zs.length c', .int .i64 0]) ∧ zs.length ≤ c' ∧ Ints .i64 w'.heap.size w' (.slice a' zs.length c') (toI (getsI (IntKind.u64.wrap a) zs)) ∧ Below w.heap.size w w' := by
  have hb := wrapu_bd a
  have HI : Hid (Ints .i64 w.heap.size w (.slice a0 zs.length cap0) zs) := hI
  have HA : Hid (canU (IntKind.u64.wrap a) zs) := hA
  have HL : Hid (zs.length ≤ 100) := hl
  obtain ⟨x, hx⟩ : ∃ x, IntKind.u64.wrap a = x := ⟨_, rfl⟩
  rw [hx] at HA hb ⊢
  have HX : Hid (0 ≤ x ∧ x ≤ 18446744073709551615) := hb
  clear hI hA hl hb
  go_enter Tryd.func17, Tryd.ntmps17
  go_wp2_with (first
    | (go_at_call 19; refine (unpack_ok a0 cap0 zs x _ HL.out HX.out HI.out HA.out).mono ?_; rintro e1 w1 ⟨a1, c1, rfl, hi1, hb1⟩; have H1 : Hid (Below w.heap.size w w1) := hb1; have HI1 : Hid (Ints .u64 w1.heap.size w1 (.slice a1 zs.length c1) (getsI x zs)) := hi1; clear hb1 hi1)
    | (go_at_call 20; refine (asI_any a1 c1 zs.length (getsI x zs) _ HL.out (getsI_length x zs) HI1.out).mono ?_; rintro e2 w2 ⟨a2, c2, rfl, hc2, hi2, hb2⟩; have HC2 : Hid (zs.length ≤ c2) := hc2; clear hc2; have H2 : Hid (Below w.heap.size w w2) := H1.out.trans (hb2.mono H1.out.size); have HI2 : Hid (Ints .i64 w2.heap.size w2 (.slice a2 zs.length c2) (toI (getsI x zs))) := hi2; clear hb2 hi2)
    | fail)
  go_ret2
  exact ⟨_, _, rfl, HC2.out, HI2.out, H2.out⟩
set_option maxRecDepth 100000 in
theorem cut_bad (a0 : Option Addr) (cap0 : Nat) (zs : List Int) (a : Int) (w : World) (hl : zs.length ≤ 100) (hI : Ints .i64 w.heap.size w (.slice a0 zs.length cap0) zs) (hA : ¬ canU (IntKind.u64.wrap a) zs) :
    Calls Tryd.prog 17 #[.slice a0 zs.length cap0, .int .i64 a] w fun e w' => ∃ a' c', e = .returned (.tuple #[.slice a' 0 c', .int .i64 1]) ∧ Below w.heap.size w w' := by
  have hb := wrapu_bd a
  have HI : Hid (Ints .i64 w.heap.size w (.slice a0 zs.length cap0) zs) := hI
  have HA : Hid (¬ canU (IntKind.u64.wrap a) zs) := hA
  have HL : Hid (zs.length ≤ 100) := hl
  obtain ⟨x, hx⟩ : ∃ x, IntKind.u64.wrap a = x := ⟨_, rfl⟩
  rw [hx] at HA hb
  have HX : Hid (0 ≤ x ∧ x ≤ 18446744073709551615) := hb
  clear hI hA hl hb
  go_enter Tryd.func17, Tryd.ntmps17
  go_wp2_with (first
    | (go_at_call 19; refine (unpack_bad a0 cap0 zs x _ HL.out HX.out HI.out HA.out).mono ?_; rintro e1 w1 ⟨rfl, hb1⟩; have H1 : Hid (Below w.heap.size w w1) := hb1; clear hb1)
    | (go_at_call 20; refine (asI_any none 0 0 [] _ (by omega) rfl (.inl ⟨none, 0, rfl, rfl⟩)).mono ?_; rintro e2 w2 ⟨a2, c2, rfl, _, hi2, hb2⟩; have H2 : Hid (Below w.heap.size w w2) := H1.out.trans (hb2.mono H1.out.size); clear hb2 hi2)
    | fail)
  go_ret2
  exact ⟨_, _, rfl, H2.out⟩

/-! ### join -/
set_option maxRecDepth 100000 in
theorem join_ok (a0 a1 : Option Addr) (cap0 cap1 : Nat) (zs ps : List Int) (w : World) (hl : zs.length ≤ 100) (hp : ps.length = zs.length) (hI : Ints .i64 w.heap.size w (.slice a0 zs.length cap0) zs) (hJ : Ints .i64 w.heap.size w (.slice a1 zs.length cap1) ps) (hA : ∀ j, j < zs.length → okP zs (toU ps) j = true) :
    Calls Tryd.prog 18 #[.slice a0 zs.length cap0, .slice a1 zs.length cap1] w fun e w' => e = .returned (.tuple #[.int .i64 (wrap64 (packF zs (toU ps))), .int .i64 0]) ∧ Below w.heap.size w w' := by
  have HI : Hid (Ints .i64 w.heap.size w (.slice a0 zs.length cap0) zs) := hI
  have HJ : Hid (Ints .i64 w.heap.size w (.slice a1 zs.length cap1) ps) := hJ
  have HA : Hid (∀ j, j < zs.length → okP zs (toU ps) j = true) := hA
  have HL : Hid (zs.length ≤ 100) := hl
  have HP : Hid (ps.length = zs.length) := hp
  obtain ⟨y, hy⟩ : ∃ y, y = wrap64 (packF zs (toU ps)) := ⟨_, rfl⟩
  rw [← hy]
  have HY : Hid (wrap64 (packF zs (toU ps)) = y) := hy.symm
  clear hI hJ hA hl hp hy
  go_enter Tryd.func18, Tryd.ntmps18
  go_wp2_with (first
    | (go_at_call 22; refine (asU_any a1 cap1 zs.length ps _ HL.out HP.out HJ.out).mono ?_; rintro e1 w1 ⟨a2, c2, rfl, _, hi1, hb1⟩; have H1 : Hid (Below w.heap.size w w1) := hb1; have HI1 : Hid (Ints .u64 w1.heap.size w1 (.slice a2 zs.length c2) (toU ps)) := hi1; clear hb1 hi1)
    | (go_at_call 21; refine (pack_ok a0 a2 cap0 c2 zs (toU ps) _ HL.out (by rw [toU, List.length_map, HP.out]) (toU_bd ps) (HI.out.on H1.out) HI1.out HA.out).mono ?_; rintro e2 w2 ⟨rfl, hb2⟩; have H2 : Hid (Below w.heap.size w w2) := H1.out.trans (hb2.mono H1.out.size); clear hb2)
    | fail)
  try rw [HY.out]
  go_ret2
  exact ⟨rfl, H2.out⟩
set_option maxRecDepth 100000 in
theorem join_bad (a0 a1 : Option Addr) (cap0 cap1 : Nat) (zs ps : List Int) (w : World) (hl : zs.length ≤ 100) (hp : ps.length = zs.length) (hI : Ints .i64 w.heap.size w (.slice a0 zs.length cap0) zs) (hJ : Ints .i64 w.heap.size w (.slice a1 zs.length cap1) ps) (hA : ¬ ∀ j, j < zs.length → okP zs (toU ps) j = true) :
    Calls Tryd.prog 18 #[.slice a0 zs.length cap0, .slice a1 zs.length cap1] w fun e w' => e = .returned (.tuple #[.int .i64 0, .int .i64 1]) ∧ Below w.heap.size w w' := by
  have HI : Hid (Ints .i64 w.heap.size w (.slice a0 zs.length cap0) zs) := hI
  have HJ : Hid (Ints .i64 w.heap.size w (.slice a1 zs.length cap1) ps) := hJ
  have HA : Hid (¬ ∀ j, j < zs.length → okP zs (toU ps) j = true) := hA
  have HL : Hid (zs.length ≤ 100) := hl
  have HP : Hid (ps.length = zs.length) := hp
  clear hI hJ hA hl hp
  go_enter Tryd.func18, Tryd.ntmps18
  go_wp2_with (first
    | (go_at_call 22; refine (asU_any a1 cap1 zs.length ps _ HL.out HP.out HJ.out).mono ?_; rintro e1 w1 ⟨a2, c2, rfl, _, hi1, hb1⟩; have H1 : Hid (Below w.heap.size w w1) := hb1; have HI1 : Hid (Ints .u64 w1.heap.size w1 (.slice a2 zs.length c2) (toU ps)) := hi1; clear hb1 hi1)
    | (go_at_call 21; refine (pack_bad a0 a2 cap0 c2 zs (toU ps) _ HL.out (by rw [toU, List.length_map, HP.out]) (toU_bd ps) (HI.out.on H1.out) HI1.out HA.out).mono ?_; rintro e2 w2 ⟨rfl, hb2⟩; have H2 : Hid (Below w.heap.size w w2) := H1.out.trans (hb2.mono H1.out.size); clear hb2)
    | fail)
  go_ret2
  exact ⟨rfl, H2.out⟩
end Go.Proofs.YtpjielhcdjjnoaaDoor.Pradix
