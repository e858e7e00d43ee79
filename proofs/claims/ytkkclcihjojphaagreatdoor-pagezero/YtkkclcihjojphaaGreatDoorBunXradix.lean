import Derived.Test.YtkkclcihjojphaaGreatDoorBunField
import Derived.Test.YtkkclcihjojphaaGreatDoorPkA
set_option linter.unusedVariables false
set_option linter.unusedSimpArgs false
set_option maxRecDepth 100000
set_option maxHeartbeats 20000000
namespace Go.Proofs.YtkkclcihjojphaaGreatDoor
namespace Pradix
open Pbase Pfield Go.RowKit M
def pgB (a : Int) : Bool := decide (0 <= a) && decide (a <= 32767)
def pgE (a : Int) : Int := if pgB a = true then 0 else 1
def pgH (a : Int) : Int := if pgB a = true then a / 1024 else 0
def pgL (a : Int) : Int := if pgB a = true then a / 32 % 32 else 0
def pgA (a : Int) : Int := if pgB a = true then a % 32 else 0
def nuA (a : Int) : Int := if pgB a = true then a / 32 else 0
theorem pgB_iff (a : Int) : pgB a = true ↔ 0 <= a /\ a <= 32767 := by simp [pgB]
theorem pg_yes {a : Int} (h : 0 <= a /\ a <= 32767) : pgE a = 0 /\ pgH a = a / 1024 /\ pgL a = a / 32 % 32 /\ pgA a = a % 32 /\ nuA a = a / 32 := by simp [pgE, pgH, pgL, pgA, nuA, (pgB_iff a).2 h]
theorem pg_no {a : Int} (h : ¬ (0 <= a /\ a <= 32767)) : pgE a = 1 /\ pgH a = 0 /\ pgL a = 0 /\ pgA a = 0 /\ nuA a = 0 := by simp [pgE, pgH, pgL, pgA, nuA, mt (pgB_iff a).1 h]
theorem wrapu_bd (x : Int) : 0 <= IntKind.u64.wrap x /\ IntKind.u64.wrap x <= 18446744073709551615 := by
 rw [IntKind.wrap_u64]; omega
theorem wrapu_le {x b : Int} (hx : -9223372036854775808 <= x /\ x <= 9223372036854775807) (hb : b <= 9223372036854775807) : IntKind.u64.wrap x <= b ↔ 0 <= x /\ x <= b := by
 rw [IntKind.wrap_u64]; omega
def toI (zs : List Int) : List Int := zs.map wrap64
def p3 : List Int := [5, 5, 5]
theorem p3_sum : sumTo p3 0 = 0 /\ sumTo p3 1 = 5 /\ sumTo p3 2 = 10 /\ sumTo p3 3 = 15 := by simp [sumTo, p3, wrap64]
theorem mask15 : maskF 15 = 32767 := by decide
theorem getF_nat (x : Int) (s n : Nat) (hx : 0 <= x) : getF x (s : Int) (n : Int) = x / (2 ^ s : Nat) % (2 ^ n : Nat) := by
 obtain ⟨k, rfl⟩ := Int.eq_ofNat_of_zero_le hx
 simp only [getF, getN, Int.toNat_natCast, Int.natCast_emod, Int.natCast_ediv]
theorem p3_can {x : Int} : canU x p3 ↔ x <= 32767 := by
 constructor
 · rintro ⟨_, h⟩
   rw [show sumTo p3 p3.length = 15 from p3_sum.2.2.2, fitsB, mask15, decide_eq_true_eq] at h
   exact h
 · intro h
   refine ⟨fun j hj => ?_, ?_⟩
   · match j, hj with
     | 0, _ | 1, _ | 2, _ => simp [okU, inB, sumTo, p3, wrap64]
   · rw [show sumTo p3 p3.length = 15 from p3_sum.2.2.2, fitsB, mask15, decide_eq_true_eq]
     exact h
theorem gets3 (x : Int) (hx : 0 <= x) : getsI x p3 = [x % 32, x / 32 % 32, x / 1024 % 32] := by
 have h : getsI x p3 = [getF x ((0 : Nat) : Int) ((5 : Nat) : Int), getF x ((5 : Nat) : Int) ((5 : Nat) : Int), getF x ((10 : Nat) : Int) ((5 : Nat) : Int)] := by
  show [getF x (sumTo p3 0) 5, getF x (sumTo p3 1) 5, getF x (sumTo p3 2) 5] = _
  rw [p3_sum.1, p3_sum.2.1, p3_sum.2.2.1]
  rfl
 rw [h, getF_nat _ _ _ hx, getF_nat _ _ _ hx, getF_nat _ _ _ hx]
 simp
theorem infoI : (Tryz.prog.info? 3).map (fun i => (i.zero, i.size, i.bytes)) = some (some (.int .i64 0), 1, 8) := by kernel_rfl
theorem one_cell (w : World) (v : Value) (t : TypeId) : ∀ j u, ([v] : List Value)[j]? = some u -> (w.alloc (.cells #[v] t)).cell? ((⟨w.heap.size, 0, none⟩ : Addr).add j) = some u := by
 intro j u hj
 match j, hj with
 | 0, hj => simp at hj; subst hj; simp [Addr.add]
theorem own_ge' {w : World} {base : Nat} {e : TypeId} {v : Value} {n : Nat} {xs : List Value} (h : w.ownsRow base e 1 v n xs) : ∀ k, v.ownBlock = some k -> base <= k := fun k hk => (h.lt k hk).1
theorem ints_own {q : IntKind} {W : World} {base : Nat} {t : TypeId} {v : Value} {n : Nat} {xs : List Int} (h : W.ownsRow base t 1 v n (xs.map (Value.int q))) (hn : xs.length = n) : ∃ a c, v = .slice a n c /\ n <= c /\ Ints q W.heap.size W (.slice a n c) xs := by
 subst hn
 rcases h.2 with ⟨rfl, h0⟩ | ⟨g, cap, cur, rfl, hg, hb, h1, h2, h3, h4⟩
 · refine ⟨none, 0, by rw [h0], by omega, .inl ⟨none, 0, by rw [h0], by simpa using h0⟩⟩
 · refine ⟨_, _, rfl, h1, .inr ⟨g, 0, cap, rfl, (Array.getElem?_eq_some_iff.1 hb).1, fun j hj => ?_⟩⟩
   have hc := h.cellAt (g := g) j (by simpa using hj)
   rw [Nat.zero_add, hc]
   simp [hj]
theorem take_snoc (f : Int -> Int) (p : IntKind) (zs : List Int) {k : Nat} (h : k < zs.length) : (((zs.map f).take (k + 1)).map (Value.int p)) = ((zs.map f).take k).map (Value.int p) ++ [.int p (f (zs[k]?.getD 0))] := by
 rw [List.take_succ_eq_append_getElem (by simpa using h)]
 simp [h]
theorem asI_any (a : Option Addr) (cap n : Nat) (zs : List Int) (w : World) (hn : n <= 100) (hl : zs.length = n) (hI : Ints .u64 w.heap.size w (.slice a n cap) zs) :
 Calls Tryz.prog 265 #[.slice a n cap] w fun e w' => ∃ a' c', e = .returned (.slice a' n c') /\ n <= c' /\ Ints .i64 w'.heap.size w' (.slice a' n c') (toI zs) /\ Below w.heap.size w w' := by
 obtain ⟨it, hi, hz0, hz1, hz2⟩ := info_parts infoI
 have HI : Hid (Ints .u64 w.heap.size w (.slice a n cap) zs) := hI
 have HL : Hid (zs.length = n) := hl
 clear hI hl
 go_enter Tryz.func265, Tryz.ntmps265
 go_wp2_with (first
  | (at_make; refine wpList_make_own _ rfl _ _ 147 rfl w.heap.size 3 it (.int .i64 0) 1 Tryz.underlying147 hi hz0 hz1 _ _ _ n rfl rfl (by omega) (by rw [hz2]; omega) (by unfold maxLen; omega) (Nat.le_refl _) ?_; intro w0 hown0 hgrow0; have HO0 : Hid (w0.ownsRow w.heap.size 3 1 (.slice (some ⟨w.heap.size, 0, none⟩) 0 n) 0 (((toI zs).take 0).map (Value.int .i64))) := hown0; have HB0 : Hid (Below w.heap.size w w0) := (Below.refl _ _).grown hgrow0 (Nat.le_refl _) (fun k h => by cases h); clear hown0 hgrow0)
  | fail)
 go_loopw [3, 11] (fun l i wr => ∃ k : Nat, k <= n /\ i = .int .i64 k /\ wr.ownsRow w.heap.size 3 1 l k (((toI zs).take k).map (Value.int .i64)) /\ Below w.heap.size w wr) (fun _ i _ => n - (intOf i).toNat)
 case atStart => exact ⟨0, by omega, rfl, HO0.out, HB0.out⟩
 case round =>
  obtain ⟨k, hk, rfl, hO, hB⟩ := hrel
  obtain ⟨av, cv, rfl⟩ := ownsRow_slice hO
  have HO : Hid (wr.ownsRow w.heap.size 3 1 (.slice av k cv) k (((toI zs).take k).map (Value.int .i64))) := hO
  have HB : Hid (Below w.heap.size w wr) := hB
  clear hO hB HO0 HB0
  by_cases hlt : k < n
  · have hki : (k : Int) < (n : Int) := by omega
    obtain ⟨bz, oz, z, ha, hz, HZ⟩ := ints_at' (HI.out.below HB.out) (show k < zs.length by rw [HL.out]; exact hlt)
    subst ha
    go_wp2_with (first
     | (at_builtin; refine wpList_append_own_at _ rfl _ _ 147 rfl w.heap.size 3 it (.int .i64 0) 1 8 Tryz.underlying147 hi hz0 hz1 hz2 rfl (by decide) _ _ _ rfl (HO.out.alloc _) _ 1 1 [.int .i64 (wrap64 z)] rfl rfl (one_cell wr _ _) (by simp [Value.oneCell']) (by unfold maxLen; omega) (by omega) (by have := HB.out.size; simp; omega) ?_; intro v1 w3 hown hgrow _ hat; have HO3 : Hid (w3.ownsRow w.heap.size 3 1 v1 (k + 1) (((toI zs).take (k + 1)).map (Value.int .i64))) := (by unfold toI; rw [take_snoc wrap64 .i64 zs (by rw [HL.out]; exact hlt), HZ.out]; exact hown); have H3 : Hid (Below w.heap.size w w3) := (HB.out.alloc HB.out.size _).grown hgrow (by have := HB.out.size; simp; omega) (own_ge' HO.out); clear hown hgrow hat)
     | fail)
    go_roundw
    case rel => exact ⟨k + 1, by omega, by go_num, HO3.out, H3.out⟩
    case measure => simp [intOf]; omega
  · obtain rfl : k = n := by omega
    go_wp2
    go_ret
    have ho := HO.out
    rw [List.take_of_length_le (by rw [toI, List.length_map, HL.out]; omega)] at ho
    obtain ⟨a', c', e, hc', hi'⟩ := ints_own ho (by rw [toI, List.length_map, HL.out])
    cases e
    exact ⟨_, _, rfl, hc', hi', HB.out⟩
theorem cut_ok (a0 : Option Addr) (cap0 : Nat) (zs : List Int) (a : Int) (w : World) (hl : zs.length <= 100) (hI : Ints .i64 w.heap.size w (.slice a0 zs.length cap0) zs) (hA : canU (IntKind.u64.wrap a) zs) :
 Calls Tryz.prog 226 #[.slice a0 zs.length cap0, .int .i64 a] w fun e w' => ∃ a' c', e = .returned (.tuple #[.slice a' zs.length c', .int .i64 0]) /\ zs.length <= c' /\ Ints .i64 w'.heap.size w' (.slice a' zs.length c') (toI (getsI (IntKind.u64.wrap a) zs)) /\ Below w.heap.size w w' := by
 have hb := wrapu_bd a
 have HI : Hid (Ints .i64 w.heap.size w (.slice a0 zs.length cap0) zs) := hI
 have HA : Hid (canU (IntKind.u64.wrap a) zs) := hA
 have HL : Hid (zs.length <= 100) := hl
 obtain ⟨x, hx⟩ : ∃ x, IntKind.u64.wrap a = x := ⟨_, rfl⟩
 rw [hx] at HA hb ⊢
 have HX : Hid (0 <= x /\ x <= 18446744073709551615) := hb
 clear hI hA hl hb
 go_enter Tryz.func226, Tryz.ntmps226
 go_wp2_with (first
  | (go_at_call 140; refine (unpack_ok a0 cap0 zs x _ HL.out HX.out HI.out HA.out).mono ?_; rintro e1 w1 ⟨a1, c1, rfl, hi1, hb1⟩; have H1 : Hid (Below w.heap.size w w1) := hb1; have HI1 : Hid (Ints .u64 w1.heap.size w1 (.slice a1 zs.length c1) (getsI x zs)) := hi1; clear hb1 hi1)
  | (go_at_call 265; refine (asI_any a1 c1 zs.length (getsI x zs) _ HL.out (getsI_length x zs) HI1.out).mono ?_; rintro e2 w2 ⟨a2, c2, rfl, hc2, hi2, hb2⟩; have HC2 : Hid (zs.length <= c2) := hc2; clear hc2; have H2 : Hid (Below w.heap.size w w2) := H1.out.trans (hb2.mono H1.out.size); have HI2 : Hid (Ints .i64 w2.heap.size w2 (.slice a2 zs.length c2) (toI (getsI x zs))) := hi2; clear hb2 hi2)
  | fail)
 go_ret2
 exact ⟨_, _, rfl, HC2.out, HI2.out, H2.out⟩
theorem cut_bad (a0 : Option Addr) (cap0 : Nat) (zs : List Int) (a : Int) (w : World) (hl : zs.length <= 100) (hI : Ints .i64 w.heap.size w (.slice a0 zs.length cap0) zs) (hA : ¬ canU (IntKind.u64.wrap a) zs) :
 Calls Tryz.prog 226 #[.slice a0 zs.length cap0, .int .i64 a] w fun e w' => ∃ a' c', e = .returned (.tuple #[.slice a' 0 c', .int .i64 1]) /\ Below w.heap.size w w' := by
 have hb := wrapu_bd a
 have HI : Hid (Ints .i64 w.heap.size w (.slice a0 zs.length cap0) zs) := hI
 have HA : Hid (¬ canU (IntKind.u64.wrap a) zs) := hA
 have HL : Hid (zs.length <= 100) := hl
 obtain ⟨x, hx⟩ : ∃ x, IntKind.u64.wrap a = x := ⟨_, rfl⟩
 rw [hx] at HA hb
 have HX : Hid (0 <= x /\ x <= 18446744073709551615) := hb
 clear hI hA hl hb
 go_enter Tryz.func226, Tryz.ntmps226
 go_wp2_with (first
  | (go_at_call 140; refine (unpack_bad a0 cap0 zs x _ HL.out HX.out HI.out HA.out).mono ?_; rintro e1 w1 ⟨rfl, hb1⟩; have H1 : Hid (Below w.heap.size w w1) := hb1; clear hb1)
  | (go_at_call 265; refine (asI_any none 0 0 [] _ (by omega) rfl (.inl ⟨none, 0, rfl, rfl⟩)).mono ?_; rintro e2 w2 ⟨a2, c2, rfl, _, hi2, hb2⟩; have H2 : Hid (Below w.heap.size w w2) := H1.out.trans (hb2.mono H1.out.size); clear hb2 hi2)
  | fail)
 go_ret2
 exact ⟨_, _, rfl, H2.out⟩
structure Wp (w : World) : Prop where
 lp : 2 < w.heap.size
 p : ∃ t fr, w.heap[(2 : Nat)]? = some (.cells #[.int .i64 5, .int .i64 5, .int .i64 5] t fr)
theorem Wp.on {w w' : World} (h : Wp w) (hB : Below w.heap.size w w') : Wp w' :=
 ⟨Nat.lt_of_lt_of_le h.lp hB.size, by obtain ⟨t, fr, hr⟩ := h.p; exact ⟨t, fr, (hB.block 2 h.lp).trans hr⟩⟩
theorem Wp.p0 {w : World} (h : Wp w) : w.cell? ⟨2, 0, none⟩ = some (.int .i64 5) /\ w.cell? ⟨2, 1, none⟩ = some (.int .i64 5) /\ w.cell? ⟨2, 2, none⟩ = some (.int .i64 5) := by
 obtain ⟨t, fr, hr⟩ := h.p
 exact ⟨(cell_of_row _ _ 0 _ _ _ hr).trans rfl, (cell_of_row _ _ 1 _ _ _ hr).trans rfl, (cell_of_row _ _ 2 _ _ _ hr).trans rfl⟩
theorem ints_p3 (w : World) (ty : TypeId) : Ints .i64 (w.alloc (.cells #[.int .i64 5, .int .i64 5, .int .i64 5] ty)).heap.size (w.alloc (.cells #[.int .i64 5, .int .i64 5, .int .i64 5] ty)) (.slice (some ⟨w.heap.size, 0, none⟩) 3 3) p3 := by
 refine .inr ⟨w.heap.size, 0, 3, rfl, by simp, fun j hj => ?_⟩
 rw [Nat.zero_add, cell_of_row _ _ j _ _ _ (heap_alloc_new w _)]
 match j, hj with
 | 0, _ | 1, _ | 2, _ => rfl
theorem cut_p3 (a0 : Option Addr) (c0 : Nat) (a : Int) (w : World) (hI : Ints .i64 w.heap.size w (.slice a0 3 c0) p3) (ha : 0 <= a /\ a <= 32767) :
 Calls Tryz.prog 226 #[.slice a0 3 c0, .int .i64 a] w fun e w' => ∃ b o c, e = .returned (.tuple #[.slice (some ⟨b, o, none⟩) 3 c, .int .i64 0]) /\ 3 <= c /\ Ints .i64 w'.heap.size w' (.slice (some ⟨b, o, none⟩) 3 c) [a % 32, a / 32 % 32, a / 1024] /\ w'.cell? ⟨b, o, none⟩ = some (.int .i64 (a % 32)) /\ w'.cell? ⟨b, o + 1, none⟩ = some (.int .i64 (a / 32 % 32)) /\ w'.cell? ⟨b, o + 2, none⟩ = some (.int .i64 (a / 1024)) /\ Below w.heap.size w w' := by
 have hw : IntKind.u64.wrap a = a := wrapu_small ha.1 (by omega)
 have hg : toI (getsI a p3) = [a % 32, a / 32 % 32, a / 1024] := by
  rw [gets3 a ha.1]
  simp only [toI, List.map_cons, List.map_nil, List.cons.injEq, and_true, wrap64]
  omega
 refine (cut_ok a0 c0 p3 a w (by decide) hI (by rw [hw]; exact p3_can.2 ha.2)).mono ?_
 rintro e w' ⟨a', c', he, hc', hi, hB⟩
 rw [hw, hg] at hi
 have hi2 := hi
 rcases hi with ⟨_, _, _, e2⟩ | ⟨b, o, cap, e2, hb, hc⟩
 · cases e2
 · cases e2
   exact ⟨b, o, _, he, hc', hi2, hc 0 (by simp), hc 1 (by simp), hc 2 (by simp), hB⟩
theorem cut_p3_no (a0 : Option Addr) (c0 : Nat) (a : Int) (w : World) (hI : Ints .i64 w.heap.size w (.slice a0 3 c0) p3) (hb : -9223372036854775808 <= a /\ a <= 9223372036854775807) (ha : ¬ (0 <= a /\ a <= 32767)) :
 Calls Tryz.prog 226 #[.slice a0 3 c0, .int .i64 a] w fun e w' => ∃ a' c', e = .returned (.tuple #[.slice a' 0 c', .int .i64 1]) /\ Below w.heap.size w w' :=
 cut_bad a0 c0 p3 a w (by decide) hI (fun h => ha ((wrapu_le hb (by omega)).1 (p3_can.1 h)))
theorem page_wp (a : Int) (w : World) (hb : -9223372036854775808 <= a /\ a <= 9223372036854775807) (hW : Wp w) :
 Calls Tryz.prog 141 #[.int .i64 a] w fun e w' => e = .returned (.tuple #[.int .i64 (pgH a), .int .i64 (pgL a), .int .i64 (pgA a), .int .i64 (pgE a)]) /\ Below w.heap.size w w' := by
 obtain ⟨g0, g1, g2⟩ := hW.p0
 have gl := hW.lp
 have HI : Hid (∀ ty, Ints .i64 (w.alloc (.cells #[.int .i64 5, .int .i64 5, .int .i64 5] ty)).heap.size (w.alloc (.cells #[.int .i64 5, .int .i64 5, .int .i64 5] ty)) (.slice (some ⟨w.heap.size, 0, none⟩) 3 3) p3 /\ Below w.heap.size w (w.alloc (.cells #[.int .i64 5, .int .i64 5, .int .i64 5] ty))) := fun ty => ⟨ints_p3 w ty, bal (Below.refl _ _) _⟩
 have HR : Hid (-9223372036854775808 <= a /\ a <= 9223372036854775807) := hb
 clear hW hb
 by_cases hc : 0 <= a /\ a <= 32767
 · rw [(pg_yes hc).1, (pg_yes hc).2.1, (pg_yes hc).2.2.1, (pg_yes hc).2.2.2.1]
   have HC : Hid (0 <= a /\ a <= 32767) := hc
   clear hc
   generalize hx : a / 1024 = x
   generalize hy : a / 32 % 32 = y
   generalize hz : a % 32 = z
   have HX : Hid (a / 1024 = x) := hx
   have HY : Hid (a / 32 % 32 = y) := hy
   have HZ : Hid (a % 32 = z) := hz
   clear hx hy hz
   go_enter Tryz.func141, Tryz.ntmps141
   go_wp2_with (first
    | (go_at_call 226; refine (cut_p3 _ _ a _ (HI.out _).1 HC.out).mono ?_; rintro e1 w1 ⟨b, o, c, rfl, _, _, q0, q1, q2, hb1⟩; rw [HX.out] at q2; rw [HY.out] at q1; rw [HZ.out] at q0; have H1 : Hid (Below w.heap.size w w1) := (HI.out _).2.trans (hb1.mono (HI.out _).2.size); clear hb1)
    | fail)
   go_quiet (fail)
   go_wp2
   refine bodyPost_ret (v := .tuple #[.int .i64 x, .int .i64 y, .int .i64 z, .int .i64 0]) (by simp [results, Tryz.results141, go_sem]) rfl ⟨rfl, ?_⟩
   exact H1.out.trans (below_drew' _ _ _)
 · rw [(pg_no hc).1, (pg_no hc).2.1, (pg_no hc).2.2.1, (pg_no hc).2.2.2.1]
   have HC : Hid (¬ (0 <= a /\ a <= 32767)) := hc
   clear hc
   go_enter Tryz.func141, Tryz.ntmps141
   go_wp2_with (first
    | (go_at_call 226; refine (cut_p3_no _ _ a _ (HI.out _).1 HR.out HC.out).mono ?_; rintro e1 w1 ⟨a1, c1, rfl, hb1⟩; have H1 : Hid (Below w.heap.size w w1) := (HI.out _).2.trans (hb1.mono (HI.out _).2.size); clear hb1)
    | fail)
   refine bodyPost_ret (v := .tuple #[.int .i64 0, .int .i64 0, .int .i64 0, .int .i64 1]) (by simp [results, Tryz.results141, go_sem]) rfl ⟨rfl, ?_⟩
   exact H1.out
end Pradix
namespace Pradix
open Pbase Pfield Go.RowKit Go.ChangeShapes Go.WideShapes
theorem gTp : (Tryz.prog.globals[(2 : Nat)]?).map (·.type) = some 321 := by kernel_rfl
theorem cellsThree : Tryz.prog.cellsOf 321 = 3 := by kernel_rfl
theorem p_datum :  (Rows.laid_palanquin_radix_pageWidths : DataW Unit) = .agg (p3.map fun z => .lit (.int .i64 z)) := rfl
theorem tabP_of {W : World} {g : Nat} {t : TypeId} {cs : Array Value} {fuel : Nat} {p : List MemPlace} {n : String} (hn : Tryz.prog.globalNamed n = some 2) (hg : Tryz.prog.globalNamed n = some g) (ht : (Tryz.prog.globals[g]?).map (·.type) = some t) (hv : W.var? Tryz.prog n = some cs)
 (hd : DataW.trod (fun _ => ()) Tryz.prog W 0 (fun _ => true) false fuel t cs.toList = some (Rows.laid_palanquin_radix_pageWidths, p)) : 2 < W.heap.size /\ ∃ t fr, W.heap[(2 : Nat)]? = some (.cells #[.int .i64 5, .int .i64 5, .int .i64 5] t fr) := by
 obtain rfl := Option.some.inj (hn.symm.trans hg)
 obtain rfl := Option.some.inj (gTp.symm.trans ht)
 obtain ⟨t1, fr, hb⟩ := var_block hg hv
 refine ⟨block_lt hb, t1, fr, ?_⟩
 rw [p_datum] at hd
 obtain ⟨_, hl, hc⟩ := array_ints Tryz.underlying321 cellsThree hd
 obtain ⟨cl⟩ := cs
 simp only at hl hc hb
 match cl, hl with
 | [v0, v1, v2], _ =>
   have g0 := hc 0 (by omega)
   have g1 := hc 1 (by omega)
   have g2 := hc 2 (by omega)
   simp [p3] at g0 g1 g2
   rw [hb, g0, g1, g2]
end Pradix
end Go.Proofs.YtkkclcihjojphaaGreatDoor
