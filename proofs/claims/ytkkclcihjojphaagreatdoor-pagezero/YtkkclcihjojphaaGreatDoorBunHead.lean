import Derived.Test.YtkkclcihjojphaaGreatDoorBunField
import Derived.Test.YtkkclcihjojphaaGreatDoorBunMem
import Derived.Deep.CutBlock
import Derived.Deep.SlicePairs
set_option linter.unusedVariables false
set_option linter.unusedSimpArgs false
set_option maxRecDepth 100000
set_option maxHeartbeats 20000000
namespace Go.Proofs.YtkkclcihjojphaaGreatDoor
namespace Phead
open Pbase Pfield Pmem Go.RowKit M
def Rt (k l : Int) (z : Bool) (t : Int) : Prop :=
 0 <= k /\ k <= 6 /\ 0 <= l /\ l <= 1 /\ (l = 1 -> k = 1 \/ k = 2) /\ (z = true -> k = 1) /\ 0 <= t /\ t <= 1073741824 /\ (z = false -> t = 0)
def rtB (k l : Int) (z : Bool) (t : Int) : Bool :=
 decide (0 <= k) && decide (k <= 6) && decide (0 <= l) && decide (l <= 1) && (decide (l ≠ 1) || decide (k = 1 \/ k = 2)) && (!z || decide (k = 1)) && decide (0 <= t) && decide (t <= 1073741824) && (z || decide (t = 0))
theorem rtB_iff (k l : Int) (z : Bool) (t : Int) : rtB k l z t = true ↔ Rt k l z t := by
 unfold rtB Rt
 cases z
 · simp
   omega
 · simp
   omega
theorem rtB_yes {k l t : Int} {z : Bool} (h : Rt k l z t) : rtB k l z t = true := (rtB_iff k l z t).2 h
theorem rtB_no {k l t : Int} {z : Bool} (h : ¬ Rt k l z t) : rtB k l z t = false := Bool.eq_false_iff.2 fun e => h ((rtB_iff k l z t).1 e)
def chk (k l : Int) (z : Bool) (t : Int) : Int := if rtB k l z t = true then 0 else 1
theorem chk_yes {k l t : Int} {z : Bool} (h : Rt k l z t) : chk k l z t = 0 := by unfold chk; rw [if_pos (rtB_yes h)]
theorem chk_no {k l t : Int} {z : Bool} (h : ¬ Rt k l z t) : chk k l z t = 1 := by unfold chk; rw [rtB_no h]; rfl
def ws : List Int := [4, 1, 1]
theorem ws_length : ws.length = 3 := rfl
def bz : Bool -> Int
 | true => 1
 | false => 0
def wd0 (k l : Int) (z : Bool) : Int := packF ws [k, l, bz z]
theorem mask4 : maskF 4 = 15 := by decide
theorem mask1 : maskF 1 = 1 := by decide
theorem put_can {k l t : Int} {z : Bool} (h : Rt k l z t) : (∀ j : Nat, 0 <= [k, l, bz z][j]?.getD 0 /\ [k, l, bz z][j]?.getD 0 <= 18446744073709551615) /\ ∀ j, j < ws.length -> okP ws [k, l, bz z] j = true := by
 have hz : 0 <= bz z /\ bz z <= 1 := by cases z <;> simp [bz]
 generalize bz z = b at hz
 unfold Rt at h
 constructor
 · intro j
   match j with
   | 0 | 1 | 2 => simp; omega
   | j + 3 => simp
 · intro j hj
   match j, hj with
   | 0, _ | 1, _ | 2, _ =>
     simp [okP, inB, fitsB, mask4, mask1, sumTo, ws, wrap64]
     omega
def gN (x : Int) (j : Nat) : Int := (getsI x ws)[j]?.getD 0
theorem gN_bd {x : Int} (hx : 0 <= x /\ x <= 18446744073709551615) (h : canU x ws) : (0 <= gN x 0 /\ gN x 0 <= 15) /\ (0 <= gN x 1 /\ gN x 1 <= 1) /\ (0 <= gN x 2 /\ gN x 2 <= 1) := by
 obtain ⟨h1, h2, _⟩ := unpack_pack hx h
 have m0 := (ok_parts (h2 0 (by decide))).2
 have m1 := (ok_parts (h2 1 (by decide))).2
 have m2 := (ok_parts (h2 2 (by decide))).2
 rw [show ws[0]?.getD 0 = 4 from rfl, fitsB, mask4, decide_eq_true_eq] at m0
 rw [show ws[1]?.getD 0 = 1 from rfl, fitsB, mask1, decide_eq_true_eq] at m1
 rw [show ws[2]?.getD 0 = 1 from rfl, fitsB, mask1, decide_eq_true_eq] at m2
 exact ⟨⟨(h1 0).1, m0⟩, ⟨(h1 1).1, m1⟩, ⟨(h1 2).1, m2⟩⟩
theorem bz_back {n : Int} (h : 0 <= n /\ n <= 1) : bz (n == 1) = n := by
 rcases (show n = 0 \/ n = 1 by omega) with rfl | rfl <;> rfl
theorem wd0_back {x : Int} (hx : 0 <= x /\ x <= 18446744073709551615) (h : canU x ws) : wd0 (gN x 0) (gN x 1) (gN x 2 == 1) = x := by
 unfold wd0
 rw [bz_back (gN_bd hx h).2.2]
 have hl := getsI_length x ws
 have he : getsI x ws = [gN x 0, gN x 1, gN x 2] := by
  unfold gN
  generalize getsI x ws = l at hl
  match l, hl with
  | [v0, v1, v2], _ => rfl
 have := (unpack_pack hx h).2.2
 rwa [he] at this
theorem wd0_bd {k l t : Int} {z : Bool} (h : Rt k l z t) : 0 <= wd0 k l z /\ wd0 k l z <= 18446744073709551615 :=
 (pack_unpack (zs := ws) (vs := [k, l, bz z]) rfl (put_can h).1 (put_can h).2).1
def Got (x y u v : Int) : Prop := canU x ws /\ y <= 1073741824 /\ u = 0 /\ v = 0 /\ Rt (gN x 0) (gN x 1) (gN x 2 == 1) y
def gotB (x y u v : Int) : Bool := (List.range ws.length).all (okU ws) && fitsB x (sumTo ws ws.length) && decide (y <= 1073741824) && decide (u = 0) && decide (v = 0) && rtB (gN x 0) (gN x 1) (gN x 2 == 1) y
theorem gotB_iff (x y u v : Int) : gotB x y u v = true ↔ Got x y u v := by
 unfold gotB Got canU
 simp only [Bool.and_eq_true, decide_eq_true_eq, rtB_iff, List.all_eq_true, List.mem_range, and_assoc]
theorem gotB_yes {x y u v : Int} (h : Got x y u v) : gotB x y u v = true := (gotB_iff x y u v).2 h
theorem gotB_no {x y u v : Int} (h : ¬ Got x y u v) : gotB x y u v = false := Bool.eq_false_iff.2 fun e => h ((gotB_iff x y u v).1 e)
def getK (x y u v : Int) : Int := if gotB x y u v = true then gN x 0 else 0
def getL (x y u v : Int) : Int := if gotB x y u v = true then gN x 1 else 0
def getZ (x y u v : Int) : Bool := gotB x y u v && (gN x 2 == 1)
def getT (x y u v : Int) : Int := if gotB x y u v = true then y else 0
def getE (x y u v : Int) : Int := if gotB x y u v = true then 0 else 12
theorem hget_no {x y u v : Int} (h : ¬ Got x y u v) : getK x y u v = 0 /\ getL x y u v = 0 /\ getZ x y u v = false /\ getT x y u v = 0 /\ getE x y u v = 12 := by simp [getK, getL, getZ, getT, getE, gotB_no h]
theorem hget_yes {x y u v : Int} (h : Got x y u v) : getK x y u v = gN x 0 /\ getL x y u v = gN x 1 /\ getZ x y u v = (gN x 2 == 1) /\ getT x y u v = y /\ getE x y u v = 0 := by simp [getK, getL, getZ, getT, getE, gotB_yes h]
def ghK (N : Nat) (M : Nat -> Nat -> Int) (f : Int) : Int := if okF N f = true then getK (M f.toNat 0) (M f.toNat 1) (M f.toNat 2) (M f.toNat 3) else 0
def ghL (N : Nat) (M : Nat -> Nat -> Int) (f : Int) : Int := if okF N f = true then getL (M f.toNat 0) (M f.toNat 1) (M f.toNat 2) (M f.toNat 3) else 0
def ghZ (N : Nat) (M : Nat -> Nat -> Int) (f : Int) : Bool := okF N f && getZ (M f.toNat 0) (M f.toNat 1) (M f.toNat 2) (M f.toNat 3)
def ghT (N : Nat) (M : Nat -> Nat -> Int) (f : Int) : Int := if okF N f = true then getT (M f.toNat 0) (M f.toNat 1) (M f.toNat 2) (M f.toNat 3) else 0
def ghE (N : Nat) (M : Nat -> Nat -> Int) (f : Int) : Int := if okF N f = true then getE (M f.toNat 0) (M f.toNat 1) (M f.toNat 2) (M f.toNat 3) else 1
def isE (N : Nat) (M : Nat -> Nat -> Int) (f q : Int) : Int := if ghE N M f = 0 then (if ghK N M f = q then 0 else 4) else ghE N M f
def st4 (N : Nat) (M : Nat -> Nat -> Int) (f a b c d : Int) : Nat -> Nat -> Int := stW N (stW N (stW N (stW N M f 0 a) f 1 b) f 2 c) f 3 d
def putM (N : Nat) (M : Nat -> Nat -> Int) (f k l : Int) (z : Bool) (t : Int) : Nat -> Nat -> Int := if rtB k l z t = true then st4 N M f (wd0 k l z) t 0 0 else M
def mkM (N : Nat) (M : Nat -> Nat -> Int) (f k l : Int) (z : Bool) (t : Int) : Nat -> Nat -> Int := if rtB k l z t = true then st4 N (clM N M f) f (wd0 k l z) t 0 0 else M
def errP (N : Nat) (f k l : Int) (z : Bool) (t : Int) : Int := if rtB k l z t = true then errF N f else 1
theorem fit_st4 {M : Nat -> Nat -> Int} (h : Fit M) (N : Nat) (f k l : Int) (z : Bool) (t : Int) (hr : Rt k l z t) : Fit (st4 N M f (wd0 k l z) t 0 0) :=
 (((h.st N f 0 _ (wd0_bd hr)).st N f 1 t (by unfold Rt at hr; omega)).st N f 2 0 (by omega)).st N f 3 0 (by omega)
theorem fit_mk {M : Nat -> Nat -> Int} (h : Fit M) (N : Nat) (f k l : Int) (z : Bool) (t : Int) : Fit (mkM N M f k l z t) := by
 unfold mkM
 split
 · rename_i hr
   exact fit_st4 (h.cl N f) N f k l z t ((rtB_iff k l z t).1 hr)
 · exact h
structure TabW (w : World) : Prop where
 lt : 1 < w.heap.size
 row : ∃ t fr, w.heap[(1 : Nat)]? = some (.cells #[.int .i64 4, .int .i64 1, .int .i64 1] t fr)
theorem TabW.on {w w' : World} (h : TabW w) (hB : Below w.heap.size w w') : TabW w' :=
 ⟨Nat.lt_of_lt_of_le h.lt hB.size, by obtain ⟨t, fr, hr⟩ := h.row; exact ⟨t, fr, (hB.block 1 h.lt).trans hr⟩⟩
structure Box4 (w : World) (B : Nat) (k l : Int) (z : Bool) (t : Int) : Prop where
 lt : B < w.heap.size
 c0 : w.cell? ⟨B, 0, none⟩ = some (.int .i64 k)
 c1 : w.cell? ⟨B, 1, none⟩ = some (.int .i64 l)
 c2 : w.cell? ⟨B, 2, none⟩ = some (.bool z)
 c3 : w.cell? ⟨B, 3, none⟩ = some (.int .i64 t)
 fz : ∀ j, w.frozen? ⟨B, j, none⟩ = false
theorem Box4.on {w w' : World} {B : Nat} {k l t : Int} {z : Bool} (h : Box4 w B k l z t) (hB : Below w.heap.size w w') : Box4 w' B k l z t :=
 ⟨Nat.lt_of_lt_of_le h.lt hB.size, (hB.cell (p := ⟨B, 0, none⟩) h.lt).trans h.c0, (hB.cell (p := ⟨B, 1, none⟩) h.lt).trans h.c1, (hB.cell (p := ⟨B, 2, none⟩) h.lt).trans h.c2, (hB.cell (p := ⟨B, 3, none⟩) h.lt).trans h.c3, fun j => (hB.frozen (p := ⟨B, j, none⟩) h.lt).trans (h.fz j)⟩
theorem box4_new (w : World) (k l : Int) (z : Bool) (t : Int) (ty : TypeId) : Box4 (w.alloc (.cells #[.int .i64 k, .int .i64 l, .bool z, .int .i64 t] ty)) w.heap.size k l z t := by
 have h := heap_alloc_new w (.cells #[.int .i64 k, .int .i64 l, .bool z, .int .i64 t] ty)
 refine ⟨by simp, ?_, ?_, ?_, ?_, fun j => frozen_of_row _ _ _ _ _ h⟩ <;> (rw [cell_of_row _ _ _ _ _ _ h]; rfl)
def lvl (k : Int) : Int := if k = 1 \/ k = 2 then 1 else 0
theorem level_any (k : Int) (w : World) : Calls Tryz.prog 269 #[.int .i64 k] w fun e w' => e = .returned (.int .i64 (lvl k)) /\ w' = w := by
 by_cases h1 : k = 1
 · subst h1
   go_enter Tryz.func269, Tryz.ntmps269
   go_wp2
   go_ret
   exact ⟨rfl, rfl⟩
 by_cases h2 : k = 2
 · subst h2
   go_enter Tryz.func269, Tryz.ntmps269
   go_wp2
   go_ret
   exact ⟨rfl, rfl⟩
 have b1 : (k == 1) = false := by simp [h1]
 have b2 : (k == 2) = false := by simp [h2]
 rw [show lvl k = 0 by simp [lvl, h1, h2]]
 go_enter Tryz.func269, Tryz.ntmps269
 go_wp2
 go_ret
 exact ⟨rfl, rfl⟩
def tim : Bool -> Int
 | true => 1073741824
 | false => 0
theorem time_any (z : Bool) (w : World) : Calls Tryz.prog 270 #[.bool z] w fun e w' => e = .returned (.int .i64 (tim z)) /\ w' = w := by
 cases z
 · go_enter Tryz.func270, Tryz.ntmps270
   go_wp2
   go_ret
   exact ⟨rfl, rfl⟩
 · go_enter Tryz.func270, Tryz.ntmps270
   go_wp2
   go_ret
   exact ⟨rfl, rfl⟩
theorem rt_of {k l t : Int} {z : Bool} (h0 : 0 <= k) (h1 : k <= 6) (h2 : 0 <= l) (h3 : l <= lvl k) (h4 : z = true -> k = 1) (h5 : 0 <= t) (h6 : t <= tim z) : Rt k l z t := by
 unfold Rt
 cases z
 · simp only [tim] at h6
   unfold lvl at h3
   split at h3 <;> simp <;> omega
 · simp only [tim] at h6
   unfold lvl at h3
   have := h4 rfl
   split at h3 <;> simp <;> omega
theorem rt_parts {k l t : Int} {z : Bool} (h : Rt k l z t) : 0 <= k /\ k <= 6 /\ 0 <= l /\ l <= lvl k /\ (z = true -> k = 1) /\ 0 <= t /\ t <= tim z := by
 unfold Rt at h
 obtain ⟨h1, h2, h3, h4, h5, h6, h7, h8, h9⟩ := h
 refine ⟨h1, h2, h3, ?_, h6, h7, ?_⟩
 · unfold lvl
   split <;> omega
 · cases z
   · exact Int.le_of_eq (h9 rfl)
   · exact h8
theorem box4_drew (w : World) (k l : Int) (z : Bool) (t : Int) (ty : TypeId) (n : Nat) : Box4 ((w.alloc (.cells #[.int .i64 k, .int .i64 l, .bool z, .int .i64 t] ty)).drewN n) w.heap.size k l z t /\ Below w.heap.size w ((w.alloc (.cells #[.int .i64 k, .int .i64 l, .bool z, .int .i64 t] ty)).drewN n) :=
 ⟨(box4_new w k l z t ty).on (below_drew' _ _ _), (bal (Below.refl _ _) _).trans (below_drew' _ _ _)⟩
theorem check_any (k l : Int) (z : Bool) (t : Int) (w : World) :
 Calls Tryz.prog 230 #[.agg #[.int .i64 k, .int .i64 l, .bool z, .int .i64 t]] w fun e w' => e = .returned (.int .i64 (chk k l z t)) /\ Below w.heap.size w w' := by
 have HI : Hid (∀ ty n, Box4 ((w.alloc (.cells #[.int .i64 k, .int .i64 l, .bool z, .int .i64 t] ty)).drewN n) w.heap.size k l z t /\ Below w.heap.size w ((w.alloc (.cells #[.int .i64 k, .int .i64 l, .bool z, .int .i64 t] ty)).drewN n)) := fun ty n => box4_drew w k l z t ty n
 by_cases h0 : k < 0
 · rw [chk_no fun h => by have := rt_parts h; omega]
   go_enter Tryz.func230, Tryz.ntmps230
   go_wp2
   go_ret
   exact ⟨rfl, bal (Below.refl _ _) _⟩
 by_cases h1 : 6 < k
 · rw [chk_no fun h => by have := rt_parts h; omega]
   go_enter Tryz.func230, Tryz.ntmps230
   go_wp2
   go_ret
   exact ⟨rfl, bal (Below.refl _ _) _⟩
 by_cases h2 : l < 0
 · rw [chk_no fun h => by have := rt_parts h; omega]
   go_enter Tryz.func230, Tryz.ntmps230
   go_wp2
   go_quiet (fail)
   go_wp2
   go_ret
   exact ⟨rfl, (bal (Below.refl _ _) _).trans (below_drew' _ _ _)⟩
 have d2 : decide (l < 0) = false := decide_eq_false h2
 obtain ⟨L, hL⟩ : ∃ L, L = lvl k := ⟨_, rfl⟩
 have HL : Hid (∀ w1, Calls Tryz.prog 269 #[.int .i64 k] w1 fun e w' => e = .returned (.int .i64 L) /\ w' = w1) := fun w1 => by rw [hL]; exact level_any k w1
 by_cases h3 : L < l
 · rw [chk_no fun h => by have := rt_parts h; omega]
   clear hL
   go_enter Tryz.func230, Tryz.ntmps230
   go_wp2
   go_quiet ((go_at_call 269; exact Calls.quiet_of_same (HL.out _)))
   go_wp2
   go_ret
   exact ⟨rfl, (bal (Below.refl _ _) _).trans (below_drew' _ _ _)⟩
 have d3 : decide (L < l) = false := decide_eq_false h3
 by_cases h4 : z = true /\ k ≠ 1
 · obtain ⟨rfl, h5⟩ := h4
   rw [chk_no fun h => h5 ((rt_parts h).2.2.2.2.1 rfl)]
   have b5 : (k != 1) = true := by simp [h5]
   clear hL
   go_enter Tryz.func230, Tryz.ntmps230
   go_wp2
   go_quiet ((go_at_call 269; exact Calls.quiet_of_same (HL.out _)))
   go_wp2
   go_ret
   exact ⟨rfl, (bal (Below.refl _ _) _).trans (below_drew' _ _ _)⟩
 by_cases h6 : t < 0
 · rw [chk_no fun h => by have := rt_parts h; omega]
   clear hL
   cases z
   · clear h4
     go_enter Tryz.func230, Tryz.ntmps230
     go_wp2
     go_quiet ((go_at_call 269; exact Calls.quiet_of_same (HL.out _)))
     have X := HI.out 114 nq
     generalize World.drewN _ nq = wq at X ⊢
     have HX : Hid (Below w.heap.size w wq) := X.2
     have x0 := X.1.c0
     have x1 := X.1.c1
     have x2 := X.1.c2
     have x3 := X.1.c3
     clear X HI
     go_wp2
     go_quiet (fail)
     go_wp2
     go_ret
     exact ⟨rfl, HX.out.trans (below_drew' _ _ _)⟩
   · have h5 : k = 1 := by simpa using h4
     clear h4
     subst h5
     go_enter Tryz.func230, Tryz.ntmps230
     go_wp2
     go_quiet ((go_at_call 269; exact Calls.quiet_of_same (HL.out _)))
     have X := HI.out 114 nq
     generalize World.drewN _ nq = wq at X ⊢
     have HX : Hid (Below w.heap.size w wq) := X.2
     have x0 := X.1.c0
     have x1 := X.1.c1
     have x2 := X.1.c2
     have x3 := X.1.c3
     clear X HI
     go_wp2
     go_quiet (fail)
     go_wp2
     go_ret
     exact ⟨rfl, HX.out.trans (below_drew' _ _ _)⟩
 have d6 : decide (t < 0) = false := decide_eq_false h6
 obtain ⟨T, hT⟩ : ∃ T, T = tim z := ⟨_, rfl⟩
 have HT : Hid (∀ w1, Calls Tryz.prog 270 #[.bool z] w1 fun e w' => e = .returned (.int .i64 T) /\ w' = w1) := fun w1 => by rw [hT]; exact time_any z w1
 by_cases h7 : T < t
 · rw [chk_no fun h => by have := rt_parts h; omega]
   clear hL hT
   cases z
   · clear h4
     go_enter Tryz.func230, Tryz.ntmps230
     go_wp2
     go_quiet ((go_at_call 269; exact Calls.quiet_of_same (HL.out _)))
     have X := HI.out 114 nq
     generalize World.drewN _ nq = wq at X ⊢
     have HX : Hid (Below w.heap.size w wq) := X.2
     have x0 := X.1.c0
     have x1 := X.1.c1
     have x2 := X.1.c2
     have x3 := X.1.c3
     clear X HI
     go_wp2
     go_quiet ((go_at_call 270; exact Calls.quiet_of_same (HT.out _)))
     go_wp2
     go_ret
     exact ⟨rfl, HX.out.trans (below_drew' _ _ _)⟩
   · have h5 : k = 1 := by simpa using h4
     clear h4
     subst h5
     go_enter Tryz.func230, Tryz.ntmps230
     go_wp2
     go_quiet ((go_at_call 269; exact Calls.quiet_of_same (HL.out _)))
     have X := HI.out 114 nq
     generalize World.drewN _ nq = wq at X ⊢
     have HX : Hid (Below w.heap.size w wq) := X.2
     have x0 := X.1.c0
     have x1 := X.1.c1
     have x2 := X.1.c2
     have x3 := X.1.c3
     clear X HI
     go_wp2
     go_quiet ((go_at_call 270; exact Calls.quiet_of_same (HT.out _)))
     go_wp2
     go_ret
     exact ⟨rfl, HX.out.trans (below_drew' _ _ _)⟩
 have d7 : decide (T < t) = false := decide_eq_false h7
 rw [chk_yes (rt_of (by omega) (by omega) (by omega) (by omega) (fun e => by simpa [e] using h4) (by omega) (by omega))]
 clear hL hT
 cases z
 · clear h4
   go_enter Tryz.func230, Tryz.ntmps230
   go_wp2
   go_quiet ((go_at_call 269; exact Calls.quiet_of_same (HL.out _)))
   have X := HI.out 114 nq
   generalize World.drewN _ nq = wq at X ⊢
   have HX : Hid (Below w.heap.size w wq) := X.2
   have x0 := X.1.c0
   have x1 := X.1.c1
   have x2 := X.1.c2
   have x3 := X.1.c3
   clear X HI
   go_wp2
   go_quiet ((go_at_call 270; exact Calls.quiet_of_same (HT.out _)))
   go_wp2
   go_ret
   exact ⟨rfl, HX.out.trans (below_drew' _ _ _)⟩
 · have h5 : k = 1 := by simpa using h4
   clear h4
   subst h5
   go_enter Tryz.func230, Tryz.ntmps230
   go_wp2
   go_quiet ((go_at_call 269; exact Calls.quiet_of_same (HL.out _)))
   have X := HI.out 114 nq
   generalize World.drewN _ nq = wq at X ⊢
   have HX : Hid (Below w.heap.size w wq) := X.2
   have x0 := X.1.c0
   have x1 := X.1.c1
   have x2 := X.1.c2
   have x3 := X.1.c3
   clear X HI
   go_wp2
   go_quiet ((go_at_call 270; exact Calls.quiet_of_same (HT.out _)))
   go_wp2
   go_ret
   exact ⟨rfl, HX.out.trans (below_drew' _ _ _)⟩
structure Row4 (w : World) (B : Nat) (a b c d : Int) : Prop where
 lt : B < w.heap.size
 c0 : w.cell? ⟨B, 0, none⟩ = some (.int .u64 a)
 c1 : w.cell? ⟨B, 1, none⟩ = some (.int .u64 b)
 c2 : w.cell? ⟨B, 2, none⟩ = some (.int .u64 c)
 c3 : w.cell? ⟨B, 3, none⟩ = some (.int .u64 d)
 fz : ∀ j, w.frozen? ⟨B, j, none⟩ = false
theorem Row4.on {w w' : World} {B : Nat} {a b c d : Int} (h : Row4 w B a b c d) (hB : Below w.heap.size w w') : Row4 w' B a b c d :=
 ⟨Nat.lt_of_lt_of_le h.lt hB.size, (hB.cell (p := ⟨B, 0, none⟩) h.lt).trans h.c0, (hB.cell (p := ⟨B, 1, none⟩) h.lt).trans h.c1, (hB.cell (p := ⟨B, 2, none⟩) h.lt).trans h.c2, (hB.cell (p := ⟨B, 3, none⟩) h.lt).trans h.c3, fun j => (hB.frozen (p := ⟨B, j, none⟩) h.lt).trans (h.fz j)⟩
theorem row4_new (w : World) (a b c d : Int) (ty : TypeId) : Row4 (w.alloc (.cells #[.int .u64 a, .int .u64 b, .int .u64 c, .int .u64 d] ty)) w.heap.size a b c d := by
 have h := heap_alloc_new w (.cells #[.int .u64 a, .int .u64 b, .int .u64 c, .int .u64 d] ty)
 refine ⟨by simp, ?_, ?_, ?_, ?_, fun j => frozen_of_row _ _ _ _ _ h⟩ <;> (rw [cell_of_row _ _ _ _ _ _ h]; rfl)
def wA (k l : Int) (z : Bool) (t : Int) : Int := if rtB k l z t = true then wd0 k l z else 0
def wB (k l : Int) (z : Bool) (t : Int) : Int := if rtB k l z t = true then t else 0
theorem two_new (w w1 : World) (k l : Int) (z : Bool) (t : Int) (ty ty' : TypeId) (h : Below ((w.alloc (.cells #[.int .i64 k, .int .i64 l, .bool z, .int .i64 t] ty)).alloc (.cells #[.int .u64 0, .int .u64 0, .int .u64 0, .int .u64 0] ty')).heap.size ((w.alloc (.cells #[.int .i64 k, .int .i64 l, .bool z, .int .i64 t] ty)).alloc (.cells #[.int .u64 0, .int .u64 0, .int .u64 0, .int .u64 0] ty')) w1) :
 Box4 w1 w.heap.size k l z t /\ Row4 w1 (w.heap.size + 1) 0 0 0 0 /\ Below w.heap.size w w1 := by
 have q := row4_new (w.alloc (.cells #[.int .i64 k, .int .i64 l, .bool z, .int .i64 t] ty)) 0 0 0 0 ty'
 rw [World.size_alloc] at q
 exact ⟨((box4_new w k l z t ty).on (bal (Below.refl _ _) _)).on h, q.on h, (bal (bal (Below.refl _ _) _) _).trans (h.mono (by simp; omega))⟩
theorem pack_three {k l t : Int} {z : Bool} (hp : Rt k l z t) (w1 w3 : World) (h : Below ((w1.alloc (.cells #[.int .u64 k, .int .u64 l, .int .u64 (bz z)] 367)).alloc (.cells #[.int .i64 4, .int .i64 1, .int .i64 1] 321)).heap.size ((w1.alloc (.cells #[.int .u64 k, .int .u64 l, .int .u64 (bz z)] 367)).alloc (.cells #[.int .i64 4, .int .i64 1, .int .i64 1] 321)) w3) :
 Calls Tryz.prog 220 #[.slice (some ⟨w1.heap.size + 1, 0, none⟩) 3 3, .slice (some ⟨w1.heap.size, 0, none⟩) 3 3] w3 fun e' W' => e' = .returned (.tuple #[.int .u64 (wd0 k l z), .int .i64 0]) /\ Below w3.heap.size w3 W' := by
 refine pack_ok (some ⟨w1.heap.size + 1, 0, none⟩) (some ⟨w1.heap.size, 0, none⟩) 3 3 ws [k, l, bz z] w3 (by decide) rfl (put_can hp).1 (Ints.on ?_ h) (Ints.on ?_ h) (put_can hp).2
 · refine .inr ⟨w1.heap.size + 1, 0, 3, rfl, by simp, fun j hj => ?_⟩
   have e := heap_alloc_new (w1.alloc (.cells #[.int .u64 k, .int .u64 l, .int .u64 (bz z)] 367)) (.cells #[.int .i64 4, .int .i64 1, .int .i64 1] 321)
   rw [World.size_alloc] at e
   rw [Nat.zero_add, cell_of_row _ _ j _ _ _ e]
   match j, hj with
   | 0, _ | 1, _ | 2, _ => rfl
 · refine .inr ⟨w1.heap.size, 0, 3, rfl, by simp; omega, fun j hj => ?_⟩
   have e := (Below.heap_alloc (w1.alloc (.cells #[.int .u64 k, .int .u64 l, .int .u64 (bz z)] 367)) (.cells #[.int .i64 4, .int .i64 1, .int .i64 1] 321) w1.heap.size (by simp)).trans (heap_alloc_new w1 _)
   rw [Nat.zero_add, cell_of_row _ _ j _ _ _ e]
   match j, hj with
   | 0, _ | 1, _ | 2, _ => rfl
theorem words_of (k l : Int) (z : Bool) (t : Int) (w : World) (hW : TabW w) :
 Calls Tryz.prog 222 #[.agg #[.int .i64 k, .int .i64 l, .bool z, .int .i64 t]] w fun e w' => e = .returned (.tuple #[.agg #[.int .u64 (wA k l z t), .int .u64 (wB k l z t), .int .u64 0, .int .u64 0], .int .i64 (chk k l z t)]) /\ Below w.heap.size w w' := by
 have HI := fun w1 => two_new w w1 k l z t 114 204
 have HH : Hid (∀ w1, _) := HI
 clear HI
 by_cases hp : Rt k l z t
 case neg =>
  rw [show wA k l z t = 0 by simp [wA, rtB_no hp], show wB k l z t = 0 by simp [wB, rtB_no hp]]
  have hc : chk k l z t = 1 := chk_no hp
  rw [hc]
  clear hp
  go_enter Tryz.func222, Tryz.ntmps222
  go_wp2_with (first
   | (go_at_call 230; refine (check_any k l z t _).mono ?_; rintro e1 w1 ⟨rfl, hb1⟩; rw [hc]; obtain ⟨X1, Y1, Z1⟩ := HH.out _ hb1; have H1 : Hid (Below w.heap.size w w1) := Z1; have y0 := Y1.c0; have y1 := Y1.c1; have y2 := Y1.c2; have y3 := Y1.c3; have z0 := Y1.fz 0; have z1 := Y1.fz 1; have z2 := Y1.fz 2; have z3 := Y1.fz 3; clear hb1 X1 Y1 Z1 HH)
   | fail)
  refine bodyPost_ret (v := .tuple #[.agg #[.int .u64 0, .int .u64 0, .int .u64 0, .int .u64 0], .int .i64 1]) (by simp [results, Tryz.results222, go_sem, y0, y1, y2, y3]) rfl ⟨rfl, ?_⟩
  exact bst (bst (bst (bst H1.out (by omega) _ _) (by omega) _ _) (by omega) _ _) (by omega) _ _
 case pos =>
 rw [show wA k l z t = wd0 k l z by simp [wA, rtB_yes hp], show wB k l z t = t by simp [wB, rtB_yes hp]]
 have hc : chk k l z t = 0 := chk_yes hp
 rw [hc]
 have HP : Hid (Rt k l z t) := hp
 unfold Rt at hp
 have d0 : IntKind.u64.wrap k = k := wrapu_small (by omega) (by omega)
 have d1 : IntKind.u64.wrap l = l := wrapu_small (by omega) (by omega)
 have d3 : IntKind.u64.wrap t = t := wrapu_small (by omega) (by omega)
 clear hp
 have HW : Hid (TabW w) := hW
 clear hW
 cases z
 case true =>
  go_enter Tryz.func222, Tryz.ntmps222
  go_wp2_with (first
   | (go_at_call 230; refine (check_any k l true t _).mono ?_; rintro e1 w1 ⟨rfl, hb1⟩; rw [hc]; obtain ⟨X1, Y1, Z1⟩ := HH.out _ hb1; have H1 : Hid (Below w.heap.size w w1) := Z1; obtain ⟨t1, fr, hg⟩ := (HW.out.on Z1).row; have g0 : w1.cell? ⟨1, 0, none⟩ = some (.int .i64 4) := (cell_of_row _ _ 0 _ _ _ hg).trans rfl; have g1 : w1.cell? ⟨1, 1, none⟩ = some (.int .i64 1) := (cell_of_row _ _ 1 _ _ _ hg).trans rfl; have g2 : w1.cell? ⟨1, 2, none⟩ = some (.int .i64 1) := (cell_of_row _ _ 2 _ _ _ hg).trans rfl; have gl := (HW.out.on Z1).lt; have x0 := X1.c0; have x1 := X1.c1; have x2 := X1.c2; have x3 := X1.c3; have xl := X1.lt; have HY : Hid (Row4 w1 (w.heap.size + 1) 0 0 0 0) := Y1; have HX : Hid (Box4 w1 w.heap.size k l true t) := X1; clear hb1 X1 Y1 Z1 HH hg)
   | fail)
  have HK : Hid (∀ w3, Below _ _ w3 -> _) := fun w3 => pack_three HP.out w1 w3
  have HB2 := bal (bal H1.out (.cells #[.int .u64 k, .int .u64 l, .int .u64 (bz true)] 367)) (.cells #[.int .i64 4, .int .i64 1, .int .i64 1] 321)
  have HX2 := HX.out.on (bal (bal (Below.refl w1.heap.size w1) (.cells #[.int .u64 k, .int .u64 l, .int .u64 (bz true)] 367)) (.cells #[.int .i64 4, .int .i64 1, .int .i64 1] 321))
  have HY2 := HY.out.on (bal (bal (Below.refl w1.heap.size w1) (.cells #[.int .u64 k, .int .u64 l, .int .u64 (bz true)] 367)) (.cells #[.int .i64 4, .int .i64 1, .int .i64 1] 321))
  rw [show bz true = 1 from rfl] at HK HB2 HX2 HY2
  clear x0 x1 x2 x3 g0 g1 g2 gl xl HX HY H1
  generalize (w1.alloc _).alloc _ = w2 at HK HB2 HX2 HY2 ⊢
  generalize w1.heap.size = D at HK ⊢
  have H2 : Hid (Below w.heap.size w w2) := HB2
  have HX : Hid (Box4 w2 w.heap.size k l true t) := HX2
  have HY : Hid (Row4 w2 (w.heap.size + 1) 0 0 0 0) := HY2
  clear HB2 HX2 HY2
  obtain ⟨v, hv⟩ : ∃ v, v = wd0 k l true := ⟨_, rfl⟩
  rw [<- hv] at HK
  have HV : Hid (v = wd0 k l true) := hv
  clear hv HP
  go_region_held3 (fun _ => True) (first | exact trivial | go_keep)
  (first
    | (go_at_call 220; refine (HK.out _ (by first | exact Below.refl _ _ | exact (Below.refl _ _).drew)).mono ?_; rintro e5 w5 ⟨rfl, hb5⟩; have H5 : Hid (Below w2.heap.size w2 w5) := (by first | exact hb5 | exact (Below.refl _ _).drew.trans hb5); clear hb5)
    | fail)
  have x3 := (HX.out.on H5.out).c3
  have hy := HY.out.on H5.out
  have y0 := hy.c0
  have y1 := hy.c1
  have y2 := hy.c2
  have y3 := hy.c3
  have z0 := hy.fz 0
  have z1 := hy.fz 1
  have z2 := hy.fz 2
  have z3 := hy.fz 3
  clear hy
  go_wp2
  refine bodyPost_ret (v := .tuple #[.agg #[.int .u64 v, .int .u64 t, .int .u64 0, .int .u64 0], .int .i64 0]) (by simp [results, Tryz.results222, go_sem, y0, y1, y2, y3]) rfl ⟨by rw [HV.out], ?_⟩
  exact bst (bst (bst (bst ((H2.out.trans (H5.out.mono H2.out.size))) (by omega) _ _) (by omega) _ _) (by omega) _ _) (by omega) _ _
 case false =>
  go_enter Tryz.func222, Tryz.ntmps222
  go_wp2_with (first
   | (go_at_call 230; refine (check_any k l false t _).mono ?_; rintro e1 w1 ⟨rfl, hb1⟩; rw [hc]; obtain ⟨X1, Y1, Z1⟩ := HH.out _ hb1; have H1 : Hid (Below w.heap.size w w1) := Z1; obtain ⟨t1, fr, hg⟩ := (HW.out.on Z1).row; have g0 : w1.cell? ⟨1, 0, none⟩ = some (.int .i64 4) := (cell_of_row _ _ 0 _ _ _ hg).trans rfl; have g1 : w1.cell? ⟨1, 1, none⟩ = some (.int .i64 1) := (cell_of_row _ _ 1 _ _ _ hg).trans rfl; have g2 : w1.cell? ⟨1, 2, none⟩ = some (.int .i64 1) := (cell_of_row _ _ 2 _ _ _ hg).trans rfl; have gl := (HW.out.on Z1).lt; have x0 := X1.c0; have x1 := X1.c1; have x2 := X1.c2; have x3 := X1.c3; have xl := X1.lt; have HY : Hid (Row4 w1 (w.heap.size + 1) 0 0 0 0) := Y1; have HX : Hid (Box4 w1 w.heap.size k l false t) := X1; clear hb1 X1 Y1 Z1 HH hg)
   | fail)
  have HK : Hid (∀ w3, Below _ _ w3 -> _) := fun w3 => pack_three HP.out w1 w3
  have HB2 := bal (bal H1.out (.cells #[.int .u64 k, .int .u64 l, .int .u64 (bz false)] 367)) (.cells #[.int .i64 4, .int .i64 1, .int .i64 1] 321)
  have HX2 := HX.out.on (bal (bal (Below.refl w1.heap.size w1) (.cells #[.int .u64 k, .int .u64 l, .int .u64 (bz false)] 367)) (.cells #[.int .i64 4, .int .i64 1, .int .i64 1] 321))
  have HY2 := HY.out.on (bal (bal (Below.refl w1.heap.size w1) (.cells #[.int .u64 k, .int .u64 l, .int .u64 (bz false)] 367)) (.cells #[.int .i64 4, .int .i64 1, .int .i64 1] 321))
  rw [show bz false = 0 from rfl] at HK HB2 HX2 HY2
  clear x0 x1 x2 x3 g0 g1 g2 gl xl HX HY H1
  generalize (w1.alloc _).alloc _ = w2 at HK HB2 HX2 HY2 ⊢
  generalize w1.heap.size = D at HK ⊢
  have H2 : Hid (Below w.heap.size w w2) := HB2
  have HX : Hid (Box4 w2 w.heap.size k l false t) := HX2
  have HY : Hid (Row4 w2 (w.heap.size + 1) 0 0 0 0) := HY2
  clear HB2 HX2 HY2
  obtain ⟨v, hv⟩ : ∃ v, v = wd0 k l false := ⟨_, rfl⟩
  rw [<- hv] at HK
  have HV : Hid (v = wd0 k l false) := hv
  clear hv HP
  go_region_held3 (fun _ => True) (first | exact trivial | go_keep)
  (first
    | (go_at_call 220; refine (HK.out _ (by first | exact Below.refl _ _ | exact (Below.refl _ _).drew)).mono ?_; rintro e5 w5 ⟨rfl, hb5⟩; have H5 : Hid (Below w2.heap.size w2 w5) := (by first | exact hb5 | exact (Below.refl _ _).drew.trans hb5); clear hb5)
    | fail)
  have x3 := (HX.out.on H5.out).c3
  have hy := HY.out.on H5.out
  have y0 := hy.c0
  have y1 := hy.c1
  have y2 := hy.c2
  have y3 := hy.c3
  have z0 := hy.fz 0
  have z1 := hy.fz 1
  have z2 := hy.fz 2
  have z3 := hy.fz 3
  clear hy
  go_wp2
  refine bodyPost_ret (v := .tuple #[.agg #[.int .u64 v, .int .u64 t, .int .u64 0, .int .u64 0], .int .i64 0]) (by simp [results, Tryz.results222, go_sem, y0, y1, y2, y3]) rfl ⟨by rw [HV.out], ?_⟩
  exact bst (bst (bst (bst ((H2.out.trans (H5.out.mono H2.out.size))) (by omega) _ _) (by omega) _ _) (by omega) _ _) (by omega) _ _
structure BoxF (w : World) (B : Nat) (f : Int) (v : Value) : Prop where
 lt : B + 1 < w.heap.size
 c0 : w.cell? ⟨B, 0, none⟩ = some (.int .i64 f)
 c1 : w.cell? ⟨B + 1, 0, none⟩ = some v
theorem BoxF.on {w w' : World} {B : Nat} {f : Int} {v : Value} (h : BoxF w B f v) (hB : Below w.heap.size w w') : BoxF w' B f v := by
 have := h.lt
 exact ⟨Nat.lt_of_lt_of_le h.lt hB.size, (hB.cell (p := ⟨B, 0, none⟩) (by show B < _; omega)).trans h.c0, (hB.cell (p := ⟨B + 1, 0, none⟩) h.lt).trans h.c1⟩
theorem BoxF.but {w w' : World} {B b : Nat} {f : Int} {v : Value} (h : BoxF w B f v) (hB : But b w w') (h0 : B ≠ b) (h1 : B + 1 ≠ b) : BoxF w' B f v := by
 have := h.lt
 exact ⟨Nat.lt_of_lt_of_le h.lt hB.size, (hB.cell (by omega) h0).trans h.c0, (hB.cell h.lt h1).trans h.c1⟩
theorem boxF_new (w : World) (f : Int) (v : Value) (ty ty' : TypeId) : BoxF ((w.alloc (.cells #[.int .i64 f] ty)).alloc (.cells #[v] ty')) w.heap.size f v /\ Below w.heap.size w ((w.alloc (.cells #[.int .i64 f] ty)).alloc (.cells #[v] ty')) := by
 refine ⟨⟨by simp, ?_, ?_⟩, bal (bal (Below.refl _ _) _) _⟩
 · rw [cell_of_row _ _ _ _ _ _ (heap_alloc2_old _ _ _)]; rfl
 · rw [cell_of_row _ _ _ _ _ _ (heap_alloc2_new _ _ _)]; rfl
def storeV (p : Nat) : Value := .func (.func 57) #[.pointer (some ⟨p, 0, none⟩)] #[]
def loadV (p : Nat) : Value := .func (.func 55) #[.pointer (some ⟨p, 0, none⟩)] #[]
theorem into_any (f : Int) (p : Nat) (w : World) :
 Calls Tryz.prog 272 #[.int .i64 f, .func (.func 57) #[.pointer (some ⟨p, 0, none⟩)] #[]] w fun e w' => e = .returned (.func (.func 285) #[] #[.pointer (some ⟨w.heap.size + 1, 0, none⟩), .pointer (some ⟨w.heap.size, 0, none⟩)]) /\ BoxF w' w.heap.size f (storeV p) /\ Below w.heap.size w w' := by
 go_enter Tryz.func272, Tryz.ntmps272
 go_wp2
 go_ret
 exact ⟨rfl, boxF_new w f _ _ _⟩
theorem out_any (f : Int) (p : Nat) (w : World) :
 Calls Tryz.prog 138 #[.int .i64 f, .func (.func 55) #[.pointer (some ⟨p, 0, none⟩)] #[]] w fun e w' => e = .returned (.func (.func 221) #[] #[.pointer (some ⟨w.heap.size + 1, 0, none⟩), .pointer (some ⟨w.heap.size, 0, none⟩)]) /\ BoxF w' w.heap.size f (loadV p) /\ Below w.heap.size w w' := by
 go_enter Tryz.func138, Tryz.ntmps138
 go_wp2
 go_ret
 exact ⟨rfl, boxF_new w f _ _ _⟩
theorem into1_any (B p b N : Nat) (f at' x : Int) (M : Nat -> Nat -> Int) (w : World) (hN1 : 1 <= N) (hN : N <= 64) (hM : MemIs w p b N M) (hb : BoxF w B f (storeV p)) :
 Calls Tryz.prog 285 #[.int .i64 at', .int .u64 x, .pointer (some ⟨B + 1, 0, none⟩), .pointer (some ⟨B, 0, none⟩)] w fun e w' => e = .returned (.int .i64 (errW N f at')) /\ w' = w.setRow b (cellsM N (stW N M f at' x)) := by
 have c0 := hb.c0
 have c1 : w.cell? ⟨B + 1, 0, none⟩ = some (.func (.func 57) #[.pointer (some ⟨p, 0, none⟩)] #[]) := hb.c1
 have HM : Hid (MemIs w p b N M) := hM
 clear hM hb
 go_enter Tryz.func285, Tryz.ntmps285
 go_wp2_with (first
  | (go_at_call 57; refine (store_any p b N f at' x M _ hN1 hN HM.out).mono ?_; rintro e w' ⟨rfl, rfl⟩)
  | fail)
 go_ret
 exact ⟨rfl, rfl⟩
theorem out1_any (B p b N : Nat) (f at' : Int) (M : Nat -> Nat -> Int) (w : World) (hN1 : 1 <= N) (hN : N <= 64) (hM : MemIs w p b N M) (hb : BoxF w B f (loadV p)) :
 Calls Tryz.prog 221 #[.int .i64 at', .pointer (some ⟨B + 1, 0, none⟩), .pointer (some ⟨B, 0, none⟩)] w fun e w' => e = .returned (.tuple #[.int .u64 (ldM N M f at'), .int .i64 (errW N f at')]) /\ w' = w := by
 have c0 := hb.c0
 have c1 : w.cell? ⟨B + 1, 0, none⟩ = some (.func (.func 55) #[.pointer (some ⟨p, 0, none⟩)] #[]) := hb.c1
 have HM : Hid (MemIs w p b N M) := hM
 clear hM hb
 go_enter Tryz.func221, Tryz.ntmps221
 go_wp2_with (first
  | (go_at_call 55; refine (load_any p b N f at' M _ hN1 hN HM.out).mono ?_; rintro e w' ⟨rfl, rfl⟩)
  | fail)
 go_ret2
 exact ⟨rfl, rfl⟩
theorem idx4 (x0 x1 x2 x3 : Int) : (∀ w : World, (Instr.index 204 (.agg #[.int .u64 x0, .int .u64 x1, .int .u64 x2, .int .u64 x3]) (.int .i64 0)).run Tryz.prog w = .ok (.int .u64 x0) w) /\ (∀ w : World, (Instr.index 204 (.agg #[.int .u64 x0, .int .u64 x1, .int .u64 x2, .int .u64 x3]) (.int .i64 1)).run Tryz.prog w = .ok (.int .u64 x1) w) /\
 (∀ w : World, (Instr.index 204 (.agg #[.int .u64 x0, .int .u64 x1, .int .u64 x2, .int .u64 x3]) (.int .i64 2)).run Tryz.prog w = .ok (.int .u64 x2) w) /\ (∀ w : World, (Instr.index 204 (.agg #[.int .u64 x0, .int .u64 x1, .int .u64 x2, .int .u64 x3]) (.int .i64 3)).run Tryz.prog w = .ok (.int .u64 x3) w) :=
 ⟨fun _ => by kernel_rfl, fun _ => by kernel_rfl, fun _ => by kernel_rfl, fun _ => by kernel_rfl⟩
theorem st4_bad {N : Nat} {f : Int} (h : okF N f = false) (M : Nat -> Nat -> Int) (a b c d : Int) : st4 N M f a b c d = M := by
 simp [st4, stW, okW, h]
def stN (N : Nat) (M : Nat -> Nat -> Int) (f a b c d : Int) : Nat -> Nat -> Nat -> Int
 | 0 => M
 | 1 => stW N M f 0 a
 | 2 => stW N (stW N M f 0 a) f 1 b
 | 3 => stW N (stW N (stW N M f 0 a) f 1 b) f 2 c
 | _ => st4 N M f a b c d
theorem write_new {w : World} {B p b N : Nat} {f x0 x1 x2 x3 : Int} {M : Nat -> Nat -> Int} (hM : MemIs w p b N M) (hb : BoxF w B f (storeV p)) (ty : TypeId) :
 MemIs (w.alloc (.cells #[.int .u64 x0, .int .u64 x1, .int .u64 x2, .int .u64 x3] ty)) p b N M /\ BoxF (w.alloc (.cells #[.int .u64 x0, .int .u64 x1, .int .u64 x2, .int .u64 x3] ty)) B f (storeV p) /\ Below w.heap.size w (w.alloc (.cells #[.int .u64 x0, .int .u64 x1, .int .u64 x2, .int .u64 x3] ty)) :=
 ⟨hM.below (bal (Below.refl _ _) _) hM.lt.1 hM.lt.2, hb.on (bal (Below.refl _ _) _), bal (Below.refl _ _) _⟩
theorem write_bad (B p b N : Nat) (f x0 x1 x2 x3 : Int) (M : Nat -> Nat -> Int) (w : World) (hN1 : 1 <= N) (hN : N <= 64) (hM : MemIs w p b N M) (hb : BoxF w B f (storeV p)) (hf : okF N f = false) :
 Calls Tryz.prog 271 #[.agg #[.int .u64 x0, .int .u64 x1, .int .u64 x2, .int .u64 x3], .func (.func 285) #[] #[.pointer (some ⟨B + 1, 0, none⟩), .pointer (some ⟨B, 0, none⟩)]] w fun e w' => e = .returned (.int .i64 1) /\ Below w.heap.size w w' := by
 have hs : stW N M f 0 x0 = M := by simp [stW, okW, hf]
 have he : errW N f 0 = 1 := by simp [errW, okW, hf]
 have HM := write_new (x0 := x0) (x1 := x1) (x2 := x2) (x3 := x3) hM hb 204
 clear hM hb hf
 obtain ⟨i0, i1, i2, i3⟩ := idx4 x0 x1 x2 x3
 go_enter Tryz.func271, Tryz.ntmps271
 go_wp2
 generalize w.alloc _ = wa at HM ⊢
 have HH : Hid (MemIs wa p b N M /\ BoxF wa B f (storeV p) /\ Below w.heap.size w wa) := HM
 clear HM
 go_loopw [9] (fun i wr => i = .int .i64 0 /\ wr = wa) (fun _ _ => 0)
 case atStart => exact ⟨rfl, rfl⟩
 case round =>
  obtain ⟨rfl, rfl⟩ := hrel
  go_wp2_with (first
   | (go_at_call 285; refine (into1_any B p b N f 0 x0 M _ hN1 hN HH.out.1 HH.out.2.1).mono ?_; rintro e w' ⟨rfl, h'⟩; rw [hs, HH.out.1.self] at h'; subst h'; rw [he])
   | fail)
  go_ret
  exact ⟨rfl, HH.out.2.2⟩
structure WrI (w0 wr : World) (B p b N : Nat) (f : Int) (M : Nat -> Nat -> Int) : Prop where
 mem : MemIs wr p b N M
 box : BoxF wr B f (storeV p)
 but : But b w0 wr
theorem WrI.turn {w0 wr : World} {B p b N : Nat} {f : Int} {M : Nat -> Nat -> Int} (h : WrI w0 wr B p b N f M) (h0 : B ≠ b) (h1 : B + 1 ≠ b) (M' : Nat -> Nat -> Int) : WrI w0 (wr.setRow b (cellsM N M')) B p b N f M' :=
 ⟨h.mem.set M', h.box.but ((But.refl b wr).setRow _) h0 h1, h.but.setRow _⟩
theorem write_ok (B p b N : Nat) (f x0 x1 x2 x3 : Int) (M : Nat -> Nat -> Int) (w : World) (hN1 : 1 <= N) (hN : N <= 64) (hM : MemIs w p b N M) (hb : BoxF w B f (storeV p)) (h0 : B ≠ b) (h1 : B + 1 ≠ b) (hf : okF N f = true) :
 Calls Tryz.prog 271 #[.agg #[.int .u64 x0, .int .u64 x1, .int .u64 x2, .int .u64 x3], .func (.func 285) #[] #[.pointer (some ⟨B + 1, 0, none⟩), .pointer (some ⟨B, 0, none⟩)]] w fun e w' => e = .returned (.int .i64 0) /\ MemIs w' p b N (st4 N M f x0 x1 x2 x3) /\ But b w w' := by
 have e0 : errW N f 0 = 0 := by simp [errW, okW, hf]
 have e1 : errW N f 1 = 0 := by simp [errW, okW, hf]
 have e2 : errW N f 2 = 0 := by simp [errW, okW, hf]
 have e3 : errW N f 3 = 0 := by simp [errW, okW, hf]
 have HM := write_new (x0 := x0) (x1 := x1) (x2 := x2) (x3 := x3) hM hb 204
 clear hM hb hf
 obtain ⟨i0, i1, i2, i3⟩ := idx4 x0 x1 x2 x3
 go_enter Tryz.func271, Tryz.ntmps271
 go_wp2
 generalize w.alloc _ = wa at HM ⊢
 have HH : Hid (WrI w wa B p b N f M) := ⟨HM.1, HM.2.1, But.of_below b HM.2.2⟩
 clear HM
 go_loopw [9] (fun i wr => ∃ n : Nat, n <= 4 /\ i = .int .i64 n /\ WrI w wr B p b N f (stN N M f x0 x1 x2 x3 n)) (fun i _ => 4 - (intOf i).toNat)
 case atStart => exact ⟨0, by omega, rfl, HH.out⟩
 case round =>
  obtain ⟨n, hn, rfl, hI⟩ := hrel
  have HI : Hid (WrI w wr B p b N f (stN N M f x0 x1 x2 x3 n)) := hI
  clear hI HH
  rcases (show n = 0 \/ n = 1 \/ n = 2 \/ n = 3 \/ n = 4 by omega) with rfl | rfl | rfl | rfl | rfl
  · go_wp2_with (first
     | (go_at_call 285; refine (into1_any B p b N f 0 x0 (stN N M f x0 x1 x2 x3 0) _ hN1 hN HI.out.mem HI.out.box).mono ?_; rintro e w' ⟨rfl, h'⟩; rw [e0]; have HJ : Hid (WrI w w' B p b N f (stN N M f x0 x1 x2 x3 1)) := (by rw [h']; exact HI.out.turn h0 h1 _); clear h')
     | fail)
    go_roundw
    case rel => exact ⟨1, by omega, rfl, HJ.out⟩
    case measure => simp [intOf]
  · go_wp2_with (first
     | (go_at_call 285; refine (into1_any B p b N f 1 x1 (stN N M f x0 x1 x2 x3 1) _ hN1 hN HI.out.mem HI.out.box).mono ?_; rintro e w' ⟨rfl, h'⟩; rw [e1]; have HJ : Hid (WrI w w' B p b N f (stN N M f x0 x1 x2 x3 2)) := (by rw [h']; exact HI.out.turn h0 h1 _); clear h')
     | fail)
    go_roundw
    case rel => exact ⟨2, by omega, rfl, HJ.out⟩
    case measure => simp [intOf]
  · go_wp2_with (first
     | (go_at_call 285; refine (into1_any B p b N f 2 x2 (stN N M f x0 x1 x2 x3 2) _ hN1 hN HI.out.mem HI.out.box).mono ?_; rintro e w' ⟨rfl, h'⟩; rw [e2]; have HJ : Hid (WrI w w' B p b N f (stN N M f x0 x1 x2 x3 3)) := (by rw [h']; exact HI.out.turn h0 h1 _); clear h')
     | fail)
    go_roundw
    case rel => exact ⟨3, by omega, rfl, HJ.out⟩
    case measure => simp [intOf]
  · go_wp2_with (first
     | (go_at_call 285; refine (into1_any B p b N f 3 x3 (stN N M f x0 x1 x2 x3 3) _ hN1 hN HI.out.mem HI.out.box).mono ?_; rintro e w' ⟨rfl, h'⟩; rw [e3]; have HJ : Hid (WrI w w' B p b N f (stN N M f x0 x1 x2 x3 4)) := (by rw [h']; exact HI.out.turn h0 h1 _); clear h')
     | fail)
    go_roundw
    case rel => exact ⟨4, by omega, rfl, HJ.out⟩
    case measure => simp [intOf]
  · go_wp2
    go_ret
    exact ⟨rfl, HI.out.mem, HI.out.but⟩
theorem write_any (B p b N : Nat) (f x0 x1 x2 x3 : Int) (M : Nat -> Nat -> Int) (w : World) (hN1 : 1 <= N) (hN : N <= 64) (hM : MemIs w p b N M) (hb : BoxF w B f (storeV p)) (h0 : B ≠ b) (h1 : B + 1 ≠ b) :
 Calls Tryz.prog 271 #[.agg #[.int .u64 x0, .int .u64 x1, .int .u64 x2, .int .u64 x3], .func (.func 285) #[] #[.pointer (some ⟨B + 1, 0, none⟩), .pointer (some ⟨B, 0, none⟩)]] w fun e w' => e = .returned (.int .i64 (errF N f)) /\ MemIs w' p b N (st4 N M f x0 x1 x2 x3) /\ But b w w' := by
 cases hf : okF N f
 · rw [st4_bad hf, show errF N f = 1 by simp [errF, hf]]
   exact (write_bad B p b N f x0 x1 x2 x3 M w hN1 hN hM hb hf).mono fun e w' ⟨h2, h3⟩ => ⟨h2, hM.below h3 hM.lt.1 hM.lt.2, But.of_below b h3⟩
 · rw [show errF N f = 0 by simp [errF, hf]]
   exact write_ok B p b N f x0 x1 x2 x3 M w hN1 hN hM hb h0 h1 hf
theorem Row4.but {w w' : World} {B q : Nat} {a b c d : Int} (h : Row4 w B a b c d) (hB : But q w w') (hn : B ≠ q) : Row4 w' B a b c d :=
 ⟨Nat.lt_of_lt_of_le h.lt hB.size, (hB.cell h.lt hn).trans h.c0, (hB.cell h.lt hn).trans h.c1, (hB.cell h.lt hn).trans h.c2, (hB.cell h.lt hn).trans h.c3, fun j => (hB.frozen h.lt hn).trans (h.fz j)⟩
theorem Box4.but {w w' : World} {B q : Nat} {k l t : Int} {z : Bool} (h : Box4 w B k l z t) (hB : But q w w') (hn : B ≠ q) : Box4 w' B k l z t :=
 ⟨Nat.lt_of_lt_of_le h.lt hB.size, (hB.cell h.lt hn).trans h.c0, (hB.cell h.lt hn).trans h.c1, (hB.cell h.lt hn).trans h.c2, (hB.cell h.lt hn).trans h.c3, fun j => (hB.frozen h.lt hn).trans (h.fz j)⟩
theorem wA_yes {k l t : Int} {z : Bool} (h : Rt k l z t) : wA k l z t = wd0 k l z := by simp [wA, rtB_yes h]
theorem wB_yes {k l t : Int} {z : Bool} (h : Rt k l z t) : wB k l z t = t := by simp [wB, rtB_yes h]
theorem put_laid {w w1 : World} {p b N : Nat} {M : Nat -> Nat -> Int} (x y : Int) (hM : MemIs w p b N M) (h1 : Below w.heap.size w w1) :
 MemIs (w1.alloc (.cells #[.int .u64 x, .int .u64 y, .int .u64 0, .int .u64 0] 204)) p b N M /\ Row4 (w1.alloc (.cells #[.int .u64 x, .int .u64 y, .int .u64 0, .int .u64 0] 204)) w1.heap.size x y 0 0 /\ Below w.heap.size w (w1.alloc (.cells #[.int .u64 x, .int .u64 y, .int .u64 0, .int .u64 0] 204)) :=
 ⟨hM.grown (bal h1 _), row4_new w1 x y 0 0 204, bal h1 _⟩
theorem hput_any (p b N : Nat) (f k l : Int) (z : Bool) (t : Int) (M : Nat -> Nat -> Int) (w : World) (hN1 : 1 <= N) (hN : N <= 64) (hM : MemIs w p b N M) (hW : TabW w) :
 Calls Tryz.prog 231 #[.pointer (some ⟨p, 0, none⟩), .int .i64 f, .agg #[.int .i64 k, .int .i64 l, .bool z, .int .i64 t]] w fun e w' => e = .returned (.int .i64 (errP N f k l z t)) /\ MemIs w' p b N (putM N M f k l z t) /\ But b w w' := by
 have HW : Hid (∀ o, TabW (w.alloc o)) := fun o => hW.on (bal (Below.refl _ _) _)
 have HM : Hid (MemIs w p b N M) := hM
 clear hW hM
 by_cases hp : Rt k l z t
 case neg =>
  rw [show errP N f k l z t = 1 by simp [errP, rtB_no hp], show putM N M f k l z t = M by simp [putM, rtB_no hp]]
  have hc : chk k l z t = 1 := chk_no hp
  clear hp
  go_enter Tryz.func231, Tryz.ntmps231
  go_wp2_with (first
   | (go_at_call 222; refine (words_of k l z t _ (HW.out _)).mono ?_; rintro e1 w1 ⟨rfl, hb1⟩; rw [hc]; have H1 : Hid (Below w.heap.size w w1) := (bal (Below.refl _ _) _).trans (hb1.mono (by simp)); clear hb1)
   | fail)
  go_ret
  exact ⟨rfl, HM.out.grown (bal H1.out _), But.of_below b (bal H1.out _)⟩
 case pos =>
 rw [show errP N f k l z t = errF N f by simp [errP, rtB_yes hp], show putM N M f k l z t = st4 N M f (wd0 k l z) t 0 0 by simp [putM, rtB_yes hp]]
 have hc : chk k l z t = 0 := chk_yes hp
 have ha := wA_yes hp
 have hb := wB_yes hp
 obtain ⟨x, hx⟩ : ∃ x, x = wd0 k l z := ⟨_, rfl⟩
 rw [<- hx] at ha ⊢
 clear hp hx
 have hmf : ∀ (fn : Fn) (first cap : Array Value) (w : World), (Instr.makeFunc fn first cap).run Tryz.prog w = .ok (.func fn first cap) w := fun _ _ _ _ => rfl
 go_enter Tryz.func231, Tryz.ntmps231
 go_wp2_with (first
  | (go_at_call 222; refine (words_of k l z t _ (HW.out _)).mono ?_; rintro e1 w1 ⟨rfl, hb1⟩; rw [hc, ha, hb]; have H1 : Hid (Below w.heap.size w w1) := (bal (Below.refl _ _) _).trans (hb1.mono (by simp)); clear hb1 HW)
  | fail)
 have HL := put_laid x t HM.out H1.out
 have hne : w1.heap.size ≠ b := Nat.ne_of_gt (Nat.lt_of_lt_of_le HM.out.lt.2 H1.out.size)
 generalize w1.alloc _ = w2 at HL ⊢
 generalize w1.heap.size = D at HL hne ⊢
 have HN : Hid (D ≠ b) := hne
 clear hne
 have HM2 : Hid (MemIs w2 p b N M) := HL.1
 have HR2 : Hid (Row4 w2 D x t 0 0) := HL.2.1
 have H2 : Hid (Below w.heap.size w w2) := HL.2.2
 clear HL H1 HM
 have x0 := HR2.out.c0
 have x1 := HR2.out.c1
 have x2 := HR2.out.c2
 have x3 := HR2.out.c3
 go_region_held3 (fun w' => w'.cell? ⟨D, 0, none⟩ = some (.int .u64 x) /\ w'.cell? ⟨D, 1, none⟩ = some (.int .u64 t) /\ w'.cell? ⟨D, 2, none⟩ = some (.int .u64 0) /\ w'.cell? ⟨D, 3, none⟩ = some (.int .u64 0)) (first | exact ⟨by assumption, by assumption, by assumption, by assumption⟩ | go_keep)
 (first
   | (go_at_call 272; refine (into_any f p _).mono ?_; rintro e3 w3 ⟨rfl, hF, hB⟩; have H3 : Hid (Below w2.heap.size w2 w3) := (by first | exact hB | exact (Below.refl _ _).drew.trans hB); have HF : Hid (BoxF w3 w2.heap.size f (storeV p)) := hF; clear hF hB x0 x1 x2 x3; have HR3 := HR2.out.on H3.out; have x0 := HR3.c0; have x1 := HR3.c1; have x2 := HR3.c2; have x3 := HR3.c3; have HR : Hid (Row4 w3 D x t 0 0) := HR3; clear HR3; have HK : Hid (∀ wc, Below w3.heap.size w3 wc -> Calls Tryz.prog 271 #[.agg #[.int .u64 x, .int .u64 t, .int .u64 0, .int .u64 0], .func (.func 285) #[] #[.pointer (some ⟨w2.heap.size + 1, 0, none⟩), .pointer (some ⟨w2.heap.size, 0, none⟩)]] wc fun e w' => e = .returned (.int .i64 (errF N f)) /\ MemIs w' p b N (st4 N M f x t 0 0) /\ But b wc w') := (fun wc hc => write_any w2.heap.size p b N f x t 0 0 M wc hN1 hN (HM2.out.grown (H3.out.trans (hc.mono H3.out.size))) (HF.out.on hc) (Nat.ne_of_gt HM2.out.lt.2) (Nat.ne_of_gt (Nat.lt_succ_of_lt HM2.out.lt.2))))
   | (go_at_call 271; refine (HK.out _ (by first | exact Below.refl _ _ | exact (Below.refl _ _).drew)).mono ?_; rintro e4 w4 ⟨rfl, hM4, hB4⟩; have HM4 : Hid (MemIs w4 p b N (st4 N M f x t 0 0)) := hM4; have H4 : Hid (But b w w4) := (((But.of_below b H2.out).trans (But.of_below b H3.out)).trans (by first | exact hB4 | exact (But.of_below b (Below.refl _ _).drew).trans hB4)); clear x0 x1 x2 x3 HK; have HR4 : Row4 w4 D x t 0 0 := (by first | exact HR.out.but hB4 HN.out | exact (HR.out.on (Below.refl _ _).drew).but hB4 HN.out); have x0 := HR4.c0; have x1 := HR4.c1; have x2 := HR4.c2; have x3 := HR4.c3; clear hM4 hB4 HR4)
   | fail)
 go_wp2
 go_ret
 exact ⟨rfl, HM4.out, H4.out⟩
theorem tab_ne {w : World} {p b N : Nat} {M : Nat -> Nat -> Int} (hM : MemIs w p b N M) (hW : TabW w) : 1 ≠ b := by
 intro e
 obtain ⟨t, fr, hr⟩ := hW.row
 rw [e, hM.row] at hr
 simp only [Option.some.injEq, Obj.cells.injEq] at hr
 have := congrArg Array.size hr.1
 rw [cellsM_size] at this
 simp at this
 omega
theorem TabW.but {w w' : World} {b : Nat} (h : TabW w) (hB : But b w w') (hn : 1 ≠ b) : TabW w' :=
 ⟨Nat.lt_of_lt_of_le h.lt hB.size, by obtain ⟨t, fr, hr⟩ := h.row; exact ⟨t, fr, (hB.block 1 h.lt hn).trans hr⟩⟩
theorem clM_bad {N : Nat} {f : Int} (h : okF N f = false) (M : Nat -> Nat -> Int) : clM N M f = M := by simp [clM, h]
theorem hmake_any (p b N : Nat) (f k l : Int) (z : Bool) (t : Int) (M : Nat -> Nat -> Int) (w : World) (hN1 : 1 <= N) (hN : N <= 64) (hM : MemIs w p b N M) (hW : TabW w) :
 Calls Tryz.prog 177 #[.pointer (some ⟨p, 0, none⟩), .int .i64 f, .agg #[.int .i64 k, .int .i64 l, .bool z, .int .i64 t]] w fun e w' => e = .returned (.int .i64 (errP N f k l z t)) /\ MemIs w' p b N (mkM N M f k l z t) /\ But b w w' := by
 have HW : Hid (TabW w) := hW
 have HM : Hid (MemIs w p b N M) := hM
 have HG : Hid (1 ≠ b) := tab_ne hM hW
 have HI : Hid (∀ ty w1, Below (w.alloc (.cells #[.int .i64 k, .int .i64 l, .bool z, .int .i64 t] ty)).heap.size (w.alloc (.cells #[.int .i64 k, .int .i64 l, .bool z, .int .i64 t] ty)) w1 -> Box4 w1 w.heap.size k l z t /\ Below w.heap.size w w1) := fun ty w1 h => ⟨(box4_new w k l z t ty).on h, (bal (Below.refl _ _) _).trans (h.mono (by simp))⟩
 clear hW hM
 by_cases hp : Rt k l z t
 case neg =>
  rw [show errP N f k l z t = 1 by simp [errP, rtB_no hp], show mkM N M f k l z t = M by simp [mkM, rtB_no hp]]
  have hc : chk k l z t = 1 := chk_no hp
  clear hp
  go_enter Tryz.func177, Tryz.ntmps177
  go_wp2_with (first
   | (go_at_call 230; refine (check_any k l z t _).mono ?_; rintro e1 w1 ⟨rfl, hb1⟩; rw [hc]; have H1 : Hid (Below w.heap.size w w1) := (HI.out _ _ hb1).2; clear hb1 HI)
   | fail)
  go_ret
  exact ⟨rfl, HM.out.grown H1.out, But.of_below b H1.out⟩
 case pos =>
 have e1 : errP N f k l z t = errF N f := by simp [errP, rtB_yes hp]
 have e2 : mkM N M f k l z t = putM N (clM N M f) f k l z t := by simp [mkM, putM, rtB_yes hp]
 have e3 : putM N M f k l z t = st4 N M f (wd0 k l z) t 0 0 := by simp [putM, rtB_yes hp]
 have hc : chk k l z t = 0 := chk_yes hp
 clear hp
 cases hf : okF N f
 case false =>
  rw [e1, e2, clM_bad hf, e3, st4_bad hf, show errF N f = 1 by simp [errF, hf]]
  have he : errF N f = 1 := by simp [errF, hf]
  have hm : clM N M f = M := clM_bad hf M
  clear e1 e2 e3 hf
  go_enter Tryz.func177, Tryz.ntmps177
  go_wp2_with (first
   | (go_at_call 230; refine (check_any k l z t _).mono ?_; rintro e1 w1 ⟨rfl, hb1⟩; rw [hc]; have H1 : Hid (Below w.heap.size w w1) := (HI.out _ _ hb1).2; clear hb1 HI)
   | (go_at_call 94; refine (clear_any p b N f M _ hN1 hN (HM.out.grown H1.out)).mono ?_; rintro e2 w2 ⟨rfl, h2⟩; rw [hm, (HM.out.grown H1.out).self] at h2; subst h2; rw [he])
   | fail)
  go_ret
  exact ⟨rfl, HM.out.grown H1.out, But.of_below b H1.out⟩
 case true =>
  have he : errF N f = 0 := by simp [errF, hf]
  rw [e2, e1, he]
  clear e2 e3 hf
  go_enter Tryz.func177, Tryz.ntmps177
  go_wp2_with (first
   | (go_at_call 230; refine (check_any k l z t _).mono ?_; rintro e1 w1 ⟨rfl, hb1⟩; rw [hc]; have H1 : Hid (Below w.heap.size w w1) := (HI.out _ _ hb1).2; have HX : Hid (Box4 w1 w.heap.size k l z t) := (HI.out _ _ hb1).1; clear hb1 HI; have x0 := HX.out.c0; have x1 := HX.out.c1; have x2 := HX.out.c2; have x3 := HX.out.c3)
   | (go_at_call 94; refine (clear_any p b N f M _ hN1 hN (HM.out.grown H1.out)).mono ?_; rintro e2 w2 ⟨rfl, h2⟩; rw [he]; have HB : But b w1 w2 := (by rw [h2]; exact (But.refl b w1).setRow _); have H2 : Hid (But b w w2) := (But.of_below b H1.out).trans HB; have HM2 : Hid (MemIs w2 p b N (clM N M f)) := (by rw [h2]; exact (HM.out.grown H1.out).set _); have HW2 : Hid (TabW w2) := (HW.out.on H1.out).but HB HG.out; have HX2 := HX.out.but HB (Nat.ne_of_gt HM.out.lt.2); clear x0 x1 x2 x3 h2 HB; have x0 := HX2.c0; have x1 := HX2.c1; have x2 := HX2.c2; have x3 := HX2.c3; clear HX2)
   | (go_at_call 231; refine (hput_any p b N f k l z t (clM N M f) _ hN1 hN HM2.out HW2.out).mono ?_; rintro e3 w3 ⟨rfl, hM3, hB3⟩; have HM3 : Hid (MemIs w3 p b N (putM N (clM N M f) f k l z t)) := hM3; have H3 : Hid (But b w w3) := H2.out.trans hB3; clear hM3 hB3)
   | fail)
  go_ret
  exact ⟨rfl, HM3.out, H3.out⟩
structure Own4 (w : World) (B : Nat) (a b c d : Int) : Prop where
 row : w.heap[B]? = some (.cells #[.int .u64 a, .int .u64 b, .int .u64 c, .int .u64 d] 204 (0, 0))
theorem Own4.is {w : World} {B : Nat} {a b c d : Int} (h : Own4 w B a b c d) : Row4 w B a b c d :=
 ⟨(Array.getElem?_eq_some_iff.1 h.row).1, (cell_of_row _ _ _ _ _ _ h.row).trans rfl, (cell_of_row _ _ _ _ _ _ h.row).trans rfl, (cell_of_row _ _ _ _ _ _ h.row).trans rfl, (cell_of_row _ _ _ _ _ _ h.row).trans rfl, fun j => frozen_of_row _ _ _ _ _ h.row⟩
theorem Own4.on {w w' : World} {B : Nat} {a b c d : Int} (h : Own4 w B a b c d) (hB : Below w.heap.size w w') : Own4 w' B a b c d := ⟨(hB.block B h.is.lt).trans h.row⟩
theorem Own4.other {w : World} {B q j : Nat} {a b c d : Int} (h : Own4 w B a b c d) (hn : B ≠ q) (v : Value) : Own4 (w.setCell ⟨q, j, none⟩ v) B a b c d := ⟨(Below.heap_setCell _ _ _ _ hn).trans h.row⟩
theorem own4_new (w : World) (a b c d : Int) : Own4 (w.alloc (.cells #[.int .u64 a, .int .u64 b, .int .u64 c, .int .u64 d] 204)) w.heap.size a b c d := ⟨heap_alloc_new w _⟩
theorem Own4.set0 {w : World} {B : Nat} {a b c d : Int} (h : Own4 w B a b c d) (v : Int) : Own4 (w.setCell ⟨B, 0, none⟩ (.int .u64 v)) B v b c d := ⟨by rw [heap_setCell_same _ _ _ _ _ _ h.row]; rfl⟩
theorem Own4.set1 {w : World} {B : Nat} {a b c d : Int} (h : Own4 w B a b c d) (v : Int) : Own4 (w.setCell ⟨B, 1, none⟩ (.int .u64 v)) B a v c d := ⟨by rw [heap_setCell_same _ _ _ _ _ _ h.row]; rfl⟩
theorem Own4.set2 {w : World} {B : Nat} {a b c d : Int} (h : Own4 w B a b c d) (v : Int) : Own4 (w.setCell ⟨B, 2, none⟩ (.int .u64 v)) B a b v d := ⟨by rw [heap_setCell_same _ _ _ _ _ _ h.row]; rfl⟩
theorem Own4.set3 {w : World} {B : Nat} {a b c d : Int} (h : Own4 w B a b c d) (v : Int) : Own4 (w.setCell ⟨B, 3, none⟩ (.int .u64 v)) B a b c v := ⟨by rw [heap_setCell_same _ _ _ _ _ _ h.row]; rfl⟩
theorem ldM_at {N : Nat} {f : Int} (h : okF N f = true) (M : Nat -> Nat -> Int) : ldM N M f 0 = M f.toNat 0 /\ ldM N M f 1 = M f.toNat 1 /\ ldM N M f 2 = M f.toNat 2 /\ ldM N M f 3 = M f.toNat 3 := by
 simp [ldM, okW, h]
structure RdI (w0 wr : World) (B p b N : Nat) (f : Int) (M : Nat -> Nat -> Int) (a0 a1 a2 a3 : Int) : Prop where
 mem : MemIs wr p b N M
 box : BoxF wr B f (loadV p)
 below : Below w0.heap.size w0 wr
 res : Own4 wr w0.heap.size 0 0 0 0
 all : Own4 wr (w0.heap.size + 1) a0 a1 a2 a3
theorem rdI_new {w : World} {B p b N : Nat} {f : Int} {M : Nat -> Nat -> Int} (hM : MemIs w p b N M) (hb : BoxF w B f (loadV p)) :
 RdI w ((w.alloc (.cells #[.int .u64 0, .int .u64 0, .int .u64 0, .int .u64 0] 204)).alloc (.cells #[.int .u64 0, .int .u64 0, .int .u64 0, .int .u64 0] 204)) B p b N f M 0 0 0 0 := by
 have B2 := bal (bal (Below.refl w.heap.size w) (.cells #[.int .u64 0, .int .u64 0, .int .u64 0, .int .u64 0] 204)) (.cells #[.int .u64 0, .int .u64 0, .int .u64 0, .int .u64 0] 204)
 have q := own4_new (w.alloc (.cells #[.int .u64 0, .int .u64 0, .int .u64 0, .int .u64 0] 204)) 0 0 0 0
 rw [World.size_alloc] at q
 exact ⟨hM.grown B2, hb.on B2, B2, (own4_new w 0 0 0 0).on (bal (Below.refl _ _) _), q⟩
theorem RdI.step {w0 wr : World} {B p b N j : Nat} {f : Int} {M : Nat -> Nat -> Int} {a0 a1 a2 a3 b0 b1 b2 b3 : Int} {v : Value} (h : RdI w0 wr B p b N f M a0 a1 a2 a3) (hM0 : MemIs w0 p b N M) (hb : BoxF w0 B f (loadV p)) (hn : Own4 (wr.setCell ⟨w0.heap.size + 1, j, none⟩ v) (w0.heap.size + 1) b0 b1 b2 b3) : RdI w0 (wr.setCell ⟨w0.heap.size + 1, j, none⟩ v) B p b N f M b0 b1 b2 b3 := by
 have hB := bst h.below (b := w0.heap.size + 1) (by omega) j v
 exact ⟨hM0.grown hB, hb.on hB, hB, h.res.other (by omega) _, hn⟩
theorem read_bad (B p b N : Nat) (f : Int) (M : Nat -> Nat -> Int) (w : World) (hN1 : 1 <= N) (hN : N <= 64) (hM : MemIs w p b N M) (hb : BoxF w B f (loadV p)) (hf : okF N f = false) :
 Calls Tryz.prog 137 #[.func (.func 221) #[] #[.pointer (some ⟨B + 1, 0, none⟩), .pointer (some ⟨B, 0, none⟩)]] w fun e w' => e = .returned (.tuple #[.agg #[.int .u64 0, .int .u64 0, .int .u64 0, .int .u64 0], .int .i64 1]) /\ Below w.heap.size w w' := by
 have hs : ldM N M f 0 = 0 := by simp [ldM, okW, hf]
 have he : errW N f 0 = 1 := by simp [errW, okW, hf]
 have HN := rdI_new hM hb
 clear hM hb hf
 go_enter Tryz.func137, Tryz.ntmps137
 go_wp2
 generalize (w.alloc _).alloc _ = wa at HN ⊢
 have HH : Hid (RdI w wa B p b N f M 0 0 0 0) := HN
 clear HN
 go_loopw [8] (fun i wr => i = .int .i64 0 /\ wr = wa) (fun _ _ => 0)
 case atStart => exact ⟨rfl, rfl⟩
 case round =>
  obtain ⟨rfl, rfl⟩ := hrel
  have y0 := HH.out.res.is.c0
  have y1 := HH.out.res.is.c1
  have y2 := HH.out.res.is.c2
  have y3 := HH.out.res.is.c3
  have z0 := HH.out.res.is.fz 0
  have z1 := HH.out.res.is.fz 1
  have z2 := HH.out.res.is.fz 2
  have z3 := HH.out.res.is.fz 3
  go_wp2_with (first
   | (go_at_call 221; refine (out1_any B p b N f 0 M _ hN1 hN HH.out.mem HH.out.box).mono ?_; rintro e w' ⟨rfl, rfl⟩; rw [hs, he])
   | fail)
  refine bodyPost_ret (v := .tuple #[.agg #[.int .u64 0, .int .u64 0, .int .u64 0, .int .u64 0], .int .i64 1]) (by simp [results, Tryz.results137, go_sem, y0, y1, y2, y3]) rfl ⟨rfl, ?_⟩
  exact bst (bst (bst (bst HH.out.below (by omega) _ _) (by omega) _ _) (by omega) _ _) (by omega) _ _
def rdN (x0 x1 x2 x3 : Int) : Nat -> Int × Int × Int × Int
 | 0 => (0, 0, 0, 0)
 | 1 => (x0, 0, 0, 0)
 | 2 => (x0, x1, 0, 0)
 | 3 => (x0, x1, x2, 0)
 | _ => (x0, x1, x2, x3)
theorem read_ok (B p b N : Nat) (f : Int) (M : Nat -> Nat -> Int) (w : World) (hN1 : 1 <= N) (hN : N <= 64) (hM : MemIs w p b N M) (hb : BoxF w B f (loadV p)) (hf : okF N f = true) :
 Calls Tryz.prog 137 #[.func (.func 221) #[] #[.pointer (some ⟨B + 1, 0, none⟩), .pointer (some ⟨B, 0, none⟩)]] w fun e w' => e = .returned (.tuple #[.agg #[.int .u64 (M f.toNat 0), .int .u64 (M f.toNat 1), .int .u64 (M f.toNat 2), .int .u64 (M f.toNat 3)], .int .i64 0]) /\ Below w.heap.size w w' := by
 have e0 : errW N f 0 = 0 := by simp [errW, okW, hf]
 have e1 : errW N f 1 = 0 := by simp [errW, okW, hf]
 have e2 : errW N f 2 = 0 := by simp [errW, okW, hf]
 have e3 : errW N f 3 = 0 := by simp [errW, okW, hf]
 obtain ⟨l0, l1, l2, l3⟩ := ldM_at hf M
 generalize M f.toNat 0 = x0 at l0 ⊢
 generalize M f.toNat 1 = x1 at l1 ⊢
 generalize M f.toNat 2 = x2 at l2 ⊢
 generalize M f.toNat 3 = x3 at l3 ⊢
 have HN := rdI_new hM hb
 have HM : Hid (MemIs w p b N M) := hM
 have HB : Hid (BoxF w B f (loadV p)) := hb
 clear hM hb hf
 go_enter Tryz.func137, Tryz.ntmps137
 go_wp2
 generalize (w.alloc _).alloc _ = wa at HN ⊢
 have HH : Hid (RdI w wa B p b N f M 0 0 0 0) := HN
 clear HN
 go_loopw [8] (fun i wr => ∃ n : Nat, n <= 4 /\ i = .int .i64 n /\ RdI w wr B p b N f M (rdN x0 x1 x2 x3 n).1 (rdN x0 x1 x2 x3 n).2.1 (rdN x0 x1 x2 x3 n).2.2.1 (rdN x0 x1 x2 x3 n).2.2.2) (fun i _ => 4 - (intOf i).toNat)
 case atStart => exact ⟨0, by omega, rfl, HH.out⟩
 case round =>
  obtain ⟨n, hn, rfl, hI⟩ := hrel
  clear HH
  rcases (show n = 0 \/ n = 1 \/ n = 2 \/ n = 3 \/ n = 4 by omega) with rfl | rfl | rfl | rfl | rfl
  · have HI : Hid (RdI w wr B p b N f M 0 0 0 0) := hI
    clear hI
    have y := HI.out.all.is.c0
    have z := HI.out.all.is.fz 0
    have HJ : Hid (RdI w (wr.setCell ⟨w.heap.size + 1, 0, none⟩ (.int .u64 x0)) B p b N f M x0 0 0 0) := HI.out.step HM.out HB.out (HI.out.all.set0 x0)
    go_wp2_with (first
     | (go_at_call 221; refine (out1_any B p b N f 0 M _ hN1 hN HI.out.mem HI.out.box).mono ?_; rintro e w' ⟨rfl, hw⟩; subst hw; rw [l0, e0])
     | fail)
    go_roundw
    case rel => exact ⟨1, by omega, rfl, HJ.out⟩
    case measure => simp [intOf]
  · have HI : Hid (RdI w wr B p b N f M x0 0 0 0) := hI
    clear hI
    have y := HI.out.all.is.c1
    have z := HI.out.all.is.fz 1
    have HJ : Hid (RdI w (wr.setCell ⟨w.heap.size + 1, 1, none⟩ (.int .u64 x1)) B p b N f M x0 x1 0 0) := HI.out.step HM.out HB.out (HI.out.all.set1 x1)
    go_wp2_with (first
     | (go_at_call 221; refine (out1_any B p b N f 1 M _ hN1 hN HI.out.mem HI.out.box).mono ?_; rintro e w' ⟨rfl, hw⟩; subst hw; rw [l1, e1])
     | fail)
    go_roundw
    case rel => exact ⟨2, by omega, rfl, HJ.out⟩
    case measure => simp [intOf]
  · have HI : Hid (RdI w wr B p b N f M x0 x1 0 0) := hI
    clear hI
    have y := HI.out.all.is.c2
    have z := HI.out.all.is.fz 2
    have HJ : Hid (RdI w (wr.setCell ⟨w.heap.size + 1, 2, none⟩ (.int .u64 x2)) B p b N f M x0 x1 x2 0) := HI.out.step HM.out HB.out (HI.out.all.set2 x2)
    go_wp2_with (first
     | (go_at_call 221; refine (out1_any B p b N f 2 M _ hN1 hN HI.out.mem HI.out.box).mono ?_; rintro e w' ⟨rfl, hw⟩; subst hw; rw [l2, e2])
     | fail)
    go_roundw
    case rel => exact ⟨3, by omega, rfl, HJ.out⟩
    case measure => simp [intOf]
  · have HI : Hid (RdI w wr B p b N f M x0 x1 x2 0) := hI
    clear hI
    have y := HI.out.all.is.c3
    have z := HI.out.all.is.fz 3
    have HJ : Hid (RdI w (wr.setCell ⟨w.heap.size + 1, 3, none⟩ (.int .u64 x3)) B p b N f M x0 x1 x2 x3) := HI.out.step HM.out HB.out (HI.out.all.set3 x3)
    go_wp2_with (first
     | (go_at_call 221; refine (out1_any B p b N f 3 M _ hN1 hN HI.out.mem HI.out.box).mono ?_; rintro e w' ⟨rfl, hw⟩; subst hw; rw [l3, e3])
     | fail)
    go_roundw
    case rel => exact ⟨4, by omega, rfl, HJ.out⟩
    case measure => simp [intOf]
  · have HI : Hid (RdI w wr B p b N f M x0 x1 x2 x3) := hI
    clear hI
    have y0 := HI.out.res.is.c0
    have y1 := HI.out.res.is.c1
    have y2 := HI.out.res.is.c2
    have y3 := HI.out.res.is.c3
    have z0 := HI.out.res.is.fz 0
    have z1 := HI.out.res.is.fz 1
    have z2 := HI.out.res.is.fz 2
    have z3 := HI.out.res.is.fz 3
    have u0 := HI.out.all.is.c0
    have u1 := HI.out.all.is.c1
    have u2 := HI.out.all.is.c2
    have u3 := HI.out.all.is.c3
    go_wp2
    refine bodyPost_ret (v := .tuple #[.agg #[.int .u64 x0, .int .u64 x1, .int .u64 x2, .int .u64 x3], .int .i64 0]) (by simp [results, Tryz.results137, go_sem, y0, y1, y2, y3]) rfl ⟨rfl, ?_⟩
    exact bst (bst (bst (bst HI.out.below (by omega) _ _) (by omega) _ _) (by omega) _ _) (by omega) _ _
def rdM (N : Nat) (M : Nat -> Nat -> Int) (f : Int) (j : Nat) : Int := if okF N f = true then M f.toNat j else 0
theorem read_any (B p b N : Nat) (f : Int) (M : Nat -> Nat -> Int) (w : World) (hN1 : 1 <= N) (hN : N <= 64) (hM : MemIs w p b N M) (hb : BoxF w B f (loadV p)) :
 Calls Tryz.prog 137 #[.func (.func 221) #[] #[.pointer (some ⟨B + 1, 0, none⟩), .pointer (some ⟨B, 0, none⟩)]] w fun e w' => e = .returned (.tuple #[.agg #[.int .u64 (rdM N M f 0), .int .u64 (rdM N M f 1), .int .u64 (rdM N M f 2), .int .u64 (rdM N M f 3)], .int .i64 (errF N f)]) /\ Below w.heap.size w w' := by
 cases hf : okF N f
 · simp only [rdM, errF, hf, Bool.false_eq_true, if_false]
   exact read_bad B p b N f M w hN1 hN hM hb hf
 · simp only [rdM, errF, hf, if_true]
   exact read_ok B p b N f M w hN1 hN hM hb hf
theorem undWords : Tryz.prog.underlying 204 = some (.array 4 83) := by kernel_rfl
theorem neq4 (a b c d a' b' c' d' : Int) (w : World) : (binOp .neq 204 (.agg #[.int .u64 a, .int .u64 b, .int .u64 c, .int .u64 d]) (.agg #[.int .u64 a', .int .u64 b', .int .u64 c', .int .u64 d'])).run Tryz.prog w = .ok (.bool (!(a == a' && b == b' && c == c' && d == d'))) w := by
 obtain ⟨i0, hi0⟩ := infoWordM'
 rw [run_neq_struct, show (10000 : Nat) = 9998 + 1 + 1 from rfl, run_equalIn_array w _ _ _ undWords hi0]
 have := run_eqItems_u64 (P := Tryz.prog) (w := w) 9998 Tryz.underlying83 (by kernel_rfl) [a, b, c, d] [a', b', c', d'] (List.range 4) (fun i hi => by simpa using hi)
 simp only [List.map_cons, List.map_nil] at this
 rw [this]
 simp [List.range, List.range.loop, Bool.and_assoc]
structure Three (w : World) (b o : Nat) (x : Int) : Prop where
 lt : b < w.heap.size
 c0 : w.cell? ⟨b, o, none⟩ = some (.int .u64 (gN x 0))
 c1 : w.cell? ⟨b, o + 1, none⟩ = some (.int .u64 (gN x 1))
 c2 : w.cell? ⟨b, o + 2, none⟩ = some (.int .u64 (gN x 2))
theorem three_of {w : World} {a : Option Addr} {c : Nat} {x : Int} (h : Ints .u64 w.heap.size w (.slice a ws.length c) (getsI x ws)) : ∃ b o, a = some ⟨b, o, none⟩ /\ Three w b o x := by
 have hl := getsI_length x ws
 rcases h with ⟨_, _, e1, e2⟩ | ⟨b, o, cap, e1, hb, hc⟩
 · rw [e2, ws_length] at hl; cases hl
 · cases e1
   rw [hl, ws_length] at hc
   exact ⟨b, o, rfl, hb, hc 0 (by omega), hc 1 (by omega), hc 2 (by omega)⟩
theorem unpack_three (a0 : Option Addr) (x : Int) (w : World) (hx : 0 <= x /\ x <= 18446744073709551615) (hI : Ints .i64 w.heap.size w (.slice a0 3 3) ws) (hA : canU x ws) :
 Calls Tryz.prog 140 #[.slice a0 3 3, .int .u64 x] w fun e' W' => ∃ b o c, e' = .returned (.tuple #[.slice (some ⟨b, o, none⟩) 3 c, .int .i64 0]) /\ Three W' b o x /\ Below w.heap.size w W' :=
 (unpack_ok a0 3 ws x w (by decide) hx hI hA).mono fun e' W' ⟨a, c, he, hi, hB⟩ => by
   obtain ⟨b, o, rfl, h5⟩ := three_of hi
   exact ⟨b, o, c, he, h5, hB⟩
structure HoI (w0 w : World) (x y s r : Int) : Prop where
 tab : TabW w
 below : Below w0.heap.size w0 w
 all : Row4 w w0.heap.size x y s r
 res : Box4 w (w0.heap.size + 1) 0 0 false 0
 wide : Ints .i64 w.heap.size w (.slice (some ⟨w0.heap.size + 2, 0, none⟩) 3 3) ws
theorem HoI.on {w0 w w' : World} {x y s r : Int} (h : HoI w0 w x y s r) (hB : Below w.heap.size w w') : HoI w0 w' x y s r :=
 ⟨h.tab.on hB, h.below.trans (hB.mono h.below.size), h.all.on hB, h.res.on hB, h.wide.on hB⟩
theorem hoI_new (w : World) (hW : TabW w) (x y s r : Int) (ty ty' ty'' : TypeId) :
 HoI w (((w.alloc (.cells #[.int .u64 x, .int .u64 y, .int .u64 s, .int .u64 r] ty)).alloc (.cells #[.int .i64 0, .int .i64 0, .bool false, .int .i64 0] ty')).alloc (.cells #[.int .i64 4, .int .i64 1, .int .i64 1] ty'')) x y s r := by
 have B1 := bal (Below.refl w.heap.size w) (.cells #[.int .u64 x, .int .u64 y, .int .u64 s, .int .u64 r] ty)
 have B2 := bal B1 (.cells #[.int .i64 0, .int .i64 0, .bool false, .int .i64 0] ty')
 have B3 := bal B2 (.cells #[.int .i64 4, .int .i64 1, .int .i64 1] ty'')
 have q := box4_new (w.alloc (.cells #[.int .u64 x, .int .u64 y, .int .u64 s, .int .u64 r] ty)) 0 0 false 0 ty'
 rw [World.size_alloc] at q
 have e := heap_alloc_new ((w.alloc (.cells #[.int .u64 x, .int .u64 y, .int .u64 s, .int .u64 r] ty)).alloc (.cells #[.int .i64 0, .int .i64 0, .bool false, .int .i64 0] ty')) (.cells #[.int .i64 4, .int .i64 1, .int .i64 1] ty'')
 rw [World.size_alloc, World.size_alloc] at e
 refine ⟨hW.on B3, B3, ((row4_new w x y s r ty).on (bal (Below.refl _ _) _)).on (bal (Below.refl _ _) _), q.on (bal (Below.refl _ _) _), .inr ⟨w.heap.size + 2, 0, 3, rfl, by simp, fun j hj => ?_⟩⟩
 rw [Nat.zero_add, cell_of_row _ _ j _ _ _ e]
 match j, hj with
 | 0, _ | 1, _ | 2, _ => rfl
theorem ho_laid {w0 w6 : World} {x y s r k l v : Int} {z : Bool} {D : Nat} (A B : Int) (h : HoI w0 w6 x y s r) (hb : Box4 w6 D k l z v) :
 HoI w0 (w6.alloc (.cells #[.int .u64 A, .int .u64 B, .int .u64 0, .int .u64 0] 204)) x y s r /\ Box4 (w6.alloc (.cells #[.int .u64 A, .int .u64 B, .int .u64 0, .int .u64 0] 204)) D k l z v /\ Row4 (w6.alloc (.cells #[.int .u64 A, .int .u64 B, .int .u64 0, .int .u64 0] 204)) w6.heap.size A B 0 0 :=
 ⟨h.on (bal (Below.refl _ _) _), hb.on (bal (Below.refl _ _) _), row4_new w6 A B 0 0 204⟩
theorem head_of (x y s r : Int) (w : World) (hx : 0 <= x /\ x <= 18446744073709551615) (hy : 0 <= y /\ y <= 18446744073709551615) (hW : TabW w) :
 Calls Tryz.prog 139 #[.agg #[.int .u64 x, .int .u64 y, .int .u64 s, .int .u64 r]] w fun e w' => e = .returned (.tuple #[.agg #[.int .i64 (getK x y s r), .int .i64 (getL x y s r), .bool (getZ x y s r), .int .i64 (getT x y s r)], .int .i64 (getE x y s r)]) /\ Below w.heap.size w w' := by
 obtain ⟨t1, fr, hg⟩ := hW.row
 have hb2 : Below w.heap.size w ((w.alloc (.cells #[.int .u64 x, .int .u64 y, .int .u64 s, .int .u64 r] 204)).alloc (.cells #[.int .i64 0, .int .i64 0, .bool false, .int .i64 0] 114)) := bal (bal (Below.refl _ _) _) _
 have g0 : ((w.alloc (.cells #[.int .u64 x, .int .u64 y, .int .u64 s, .int .u64 r] 204)).alloc (.cells #[.int .i64 0, .int .i64 0, .bool false, .int .i64 0] 114)).cell? ⟨1, 0, none⟩ = some (.int .i64 4) := (hb2.cell (p := ⟨1, 0, none⟩) hW.lt).trans ((cell_of_row _ _ 0 _ _ _ hg).trans rfl)
 have g1 : ((w.alloc (.cells #[.int .u64 x, .int .u64 y, .int .u64 s, .int .u64 r] 204)).alloc (.cells #[.int .i64 0, .int .i64 0, .bool false, .int .i64 0] 114)).cell? ⟨1, 1, none⟩ = some (.int .i64 1) := (hb2.cell (p := ⟨1, 1, none⟩) hW.lt).trans ((cell_of_row _ _ 1 _ _ _ hg).trans rfl)
 have g2 : ((w.alloc (.cells #[.int .u64 x, .int .u64 y, .int .u64 s, .int .u64 r] 204)).alloc (.cells #[.int .i64 0, .int .i64 0, .bool false, .int .i64 0] 114)).cell? ⟨1, 2, none⟩ = some (.int .i64 1) := (hb2.cell (p := ⟨1, 2, none⟩) hW.lt).trans ((cell_of_row _ _ 2 _ _ _ hg).trans rfl)
 have gl := hW.lt
 have HN := hoI_new w hW x y s r 204 114 321
 clear hg hW hb2
 have HX : Hid (0 <= x /\ x <= 18446744073709551615) := hx
 clear hx
 by_cases hc : canU x ws
 case neg =>
  obtain ⟨r0, r1, r2, r3, r4⟩ := hget_no (x := x) (y := y) (u := s) (v := r) fun h => hc h.1
  rw [r0, r1, r2, r3, r4]
  clear r0 r1 r2 r3 r4 hy
  have HC : Hid (¬ canU x ws) := hc
  clear hc
  go_enter Tryz.func139, Tryz.ntmps139
  go_wp2
  generalize ((w.alloc _).alloc _).alloc _ = w3 at HN ⊢
  have H3 : Hid (HoI w w3 x y s r) := HN
  clear HN g0 g1 g2 gl
  have a0 := H3.out.all.c0
  go_region_held3 (fun w' => w'.cell? ⟨w.heap.size, 0, none⟩ = some (.int .u64 x)) (first | assumption | go_keep)
  (first
    | (go_at_call 140; refine (unpack_bad (some ⟨w.heap.size + 2, 0, none⟩) 3 ws x _ (by decide) HX.out (by first | exact H3.out.wide | exact (H3.out.on (Below.refl _ _).drew).wide) HC.out).mono ?_; rintro e1 w4 ⟨rfl, hb⟩; have H4 : Hid (HoI w w4 x y s r) := (by first | exact H3.out.on hb | exact H3.out.on ((Below.refl _ _).drew.trans hb)); clear hb a0; have a0 := H4.out.all.c0)
    | fail)
  have y0 := H4.out.res.c0
  have y1 := H4.out.res.c1
  have y2 := H4.out.res.c2
  have y3 := H4.out.res.c3
  have z0 := H4.out.res.fz 0
  have z1 := H4.out.res.fz 1
  have z2 := H4.out.res.fz 2
  have z3 := H4.out.res.fz 3
  go_wp2
  refine bodyPost_ret (v := .tuple #[.agg #[.int .i64 0, .int .i64 0, .bool false, .int .i64 0], .int .i64 12]) (by simp [results, Tryz.results139, go_sem, y0, y1, y2, y3]) rfl ⟨rfl, ?_⟩
  exact bst (bst (bst (bst H4.out.below (by omega) _ _) (by omega) _ _) (by omega) _ _) (by omega) _ _
 case pos =>
 have HC : Hid (canU x ws) := hc
 have hback := wd0_back HX.out hc
 clear hc
 obtain ⟨⟨p0, q0⟩, ⟨p1, q1⟩, _⟩ := gN_bd HX.out HC.out
 obtain ⟨v, hv⟩ : ∃ v, v = IntKind.i64.wrap y := ⟨_, rfl⟩
 have dv : IntKind.i64.wrap y = v := hv.symm
 have d0 : IntKind.i64.wrap (gN x 0) = gN x 0 := wrapi_small p0 (by omega)
 have d1 : IntKind.i64.wrap (gN x 1) = gN x 1 := wrapi_small p1 (by omega)
 clear p0 q0 p1 q1
 by_cases hr : Rt (gN x 0) (gN x 1) (gN x 2 == 1) v
 case neg =>
  have hG : ¬ Got x y s r := fun h => hr (by
   have hvy : v = y := by rw [hv]; exact wrapi_small hy.1 (by have := h.2.1; omega)
   rw [hvy]; exact h.2.2.2.2)
  obtain ⟨r0, r1, r2, r3, r4⟩ := hget_no hG
  rw [r0, r1, r2, r3, r4]
  have hc : chk (gN x 0) (gN x 1) (gN x 2 == 1) v = 1 := chk_no hr
  clear r0 r1 r2 r3 r4 hG hr hv hy hback
  go_enter Tryz.func139, Tryz.ntmps139
  go_wp2
  generalize ((w.alloc _).alloc _).alloc _ = w3 at HN ⊢
  have H3 : Hid (HoI w w3 x y s r) := HN
  clear HN g0 g1 g2 gl
  have a0 := H3.out.all.c0
  go_region_held3 (fun w' => w'.cell? ⟨w.heap.size, 0, none⟩ = some (.int .u64 x)) (first | assumption | go_keep)
  (first
    | (go_at_call 140; refine (unpack_three (some ⟨w.heap.size + 2, 0, none⟩) x _ HX.out (by first | exact H3.out.wide | exact (H3.out.on (Below.refl _ _).drew).wide) HC.out).mono ?_; rintro e1 w4 ⟨b, o, c, rfl, h5, hb⟩; have H4 : Hid (HoI w w4 x y s r) := (by first | exact H3.out.on hb | exact H3.out.on ((Below.refl _ _).drew.trans hb)); have H5 : Hid (Three w4 b o x) := h5; clear hb h5 a0; have a0 := H4.out.all.c0)
    | fail)
  have f0 := H5.out.c0
  have f1 := H5.out.c1
  have f2 := H5.out.c2
  have fl := H5.out.lt
  have a1 := H4.out.all.c1
  have al := H4.out.all.lt
  clear a0
  go_wp2
  go_region_held3 (fun w' => w'.cell? ⟨b, o, none⟩ = some (.int .u64 (gN x 0)) /\ w'.cell? ⟨b, o + 1, none⟩ = some (.int .u64 (gN x 1)) /\ w'.cell? ⟨b, o + 2, none⟩ = some (.int .u64 (gN x 2)) /\ w'.cell? ⟨w.heap.size, 1, none⟩ = some (.int .u64 y)) (first | exact ⟨by assumption, by assumption, by assumption, by assumption⟩ | go_keep)
  (fail)
  try simp only [d0, d1, dv]
  have hbx := (box4_new w4 (gN x 0) (gN x 1) (gN x 2 == 1) v 114).on (Below.refl _ _).drew
  have hho := H4.out.on (bal (Below.refl _ _) (.cells #[.int .i64 (gN x 0), .int .i64 (gN x 1), .bool (gN x 2 == 1), .int .i64 v] 114)).drew
  have hne : w.heap.size + 1 < w4.heap.size := H4.out.res.lt
  clear f0 f1 f2 fl a1 al H5
  generalize (w4.alloc _).drew = w5 at hbx hho ⊢
  have H5 : Hid (HoI w w5 x y s r) := hho
  have HP : Hid (Box4 w5 w4.heap.size (gN x 0) (gN x 1) (gN x 2 == 1) v) := hbx
  have y0 := hbx.c0
  have y1 := hbx.c1
  have y2 := hbx.c2
  have y3 := hbx.c3
  clear hbx hho
  generalize w4.heap.size = D at HP hne y0 y1 y2 y3 ⊢
  have HQ : Hid (w.heap.size + 1 < D) := hne
  clear hne
  go_upto_region 7 with (first
   | (go_at_call 222; refine (words_of _ _ _ _ _ H5.out.tab).mono ?_; rintro e2 w6 ⟨rfl, hb⟩; rw [hc]; have H6 : Hid (HoI w w6 x y s r) := H5.out.on hb; have HP6 : Hid (Box4 w6 D (gN x 0) (gN x 1) (gN x 2 == 1) v) := HP.out.on hb; clear y0 y1 y2 y3 hb)
   | fail)
  have hK := ho_laid (wA (gN x 0) (gN x 1) (gN x 2 == 1) v) (wB (gN x 0) (gN x 1) (gN x 2 == 1) v) H6.out HP6.out
  clear H6 HP6 H5 HP H4 H3
  generalize w6.alloc _ = w7 at hK ⊢
  generalize w6.heap.size = E at hK ⊢
  have H6 : Hid (HoI w w7 x y s r) := hK.1
  have y0 := hK.2.1.c0
  have y1 := hK.2.1.c1
  have y2 := hK.2.1.c2
  have y3 := hK.2.1.c3
  have b0 := hK.2.2.c0
  have b1 := hK.2.2.c1
  have b2 := hK.2.2.c2
  have b3 := hK.2.2.c3
  clear hK
  have a0 := H6.out.all.c0
  have a1 := H6.out.all.c1
  have a2 := H6.out.all.c2
  have a3 := H6.out.all.c3
  have x0 := H6.out.res.c0
  have x1 := H6.out.res.c1
  have x2 := H6.out.res.c2
  have x3 := H6.out.res.c3
  have z0 := H6.out.res.fz 0
  have z1 := H6.out.res.fz 1
  have z2 := H6.out.res.fz 2
  have z3 := H6.out.res.fz 3
  go_wp2
  refine bodyPost_ret (v := .tuple #[.agg #[.int .i64 0, .int .i64 0, .bool false, .int .i64 0], .int .i64 12]) (by simp [results, Tryz.results139, go_sem, x0, x1, x2, x3]) rfl ⟨rfl, ?_⟩
  exact bst (bst (bst (bst H6.out.below (by omega) _ _) (by omega) _ _) (by omega) _ _) (by omega) _ _
 case pos =>
 have hvy : v = y := wrapi_back hy hv (by unfold Rt at hr; omega)
 have hc : chk (gN x 0) (gN x 1) (gN x 2 == 1) v = 0 := chk_yes hr
 have hA : wA (gN x 0) (gN x 1) (gN x 2 == 1) v = x := (wA_yes hr).trans hback
 have hB : wB (gN x 0) (gN x 1) (gN x 2 == 1) v = y := (wB_yes hr).trans hvy
 have hq := neq4 x y 0 0 x y s r
 by_cases hz : s = 0 /\ r = 0
 case neg =>
  have hG : ¬ Got x y s r := fun h => hz ⟨h.2.2.1, h.2.2.2.1⟩
  obtain ⟨r0, r1, r2, r3, r4⟩ := hget_no hG
  rw [r0, r1, r2, r3, r4]
  have hqq : (!(x == x && y == y && (0 : Int) == s && (0 : Int) == r)) = true := by
   simp
   omega
  rw [hqq] at hq
  clear r0 r1 r2 r3 r4 hG hr hv hy hback hvy hz hqq
  go_enter Tryz.func139, Tryz.ntmps139
  go_wp2
  generalize ((w.alloc _).alloc _).alloc _ = w3 at HN ⊢
  have H3 : Hid (HoI w w3 x y s r) := HN
  clear HN g0 g1 g2 gl
  have a0 := H3.out.all.c0
  go_region_held3 (fun w' => w'.cell? ⟨w.heap.size, 0, none⟩ = some (.int .u64 x)) (first | assumption | go_keep)
  (first
    | (go_at_call 140; refine (unpack_three (some ⟨w.heap.size + 2, 0, none⟩) x _ HX.out (by first | exact H3.out.wide | exact (H3.out.on (Below.refl _ _).drew).wide) HC.out).mono ?_; rintro e1 w4 ⟨b, o, c, rfl, h5, hb⟩; have H4 : Hid (HoI w w4 x y s r) := (by first | exact H3.out.on hb | exact H3.out.on ((Below.refl _ _).drew.trans hb)); have H5 : Hid (Three w4 b o x) := h5; clear hb h5 a0; have a0 := H4.out.all.c0)
    | fail)
  have f0 := H5.out.c0
  have f1 := H5.out.c1
  have f2 := H5.out.c2
  have fl := H5.out.lt
  have a1 := H4.out.all.c1
  have al := H4.out.all.lt
  clear a0
  go_wp2
  go_region_held3 (fun w' => w'.cell? ⟨b, o, none⟩ = some (.int .u64 (gN x 0)) /\ w'.cell? ⟨b, o + 1, none⟩ = some (.int .u64 (gN x 1)) /\ w'.cell? ⟨b, o + 2, none⟩ = some (.int .u64 (gN x 2)) /\ w'.cell? ⟨w.heap.size, 1, none⟩ = some (.int .u64 y)) (first | exact ⟨by assumption, by assumption, by assumption, by assumption⟩ | go_keep)
  (fail)
  try simp only [d0, d1, dv]
  have hbx := (box4_new w4 (gN x 0) (gN x 1) (gN x 2 == 1) v 114).on (Below.refl _ _).drew
  have hho := H4.out.on (bal (Below.refl _ _) (.cells #[.int .i64 (gN x 0), .int .i64 (gN x 1), .bool (gN x 2 == 1), .int .i64 v] 114)).drew
  have hne : w.heap.size + 1 < w4.heap.size := H4.out.res.lt
  clear f0 f1 f2 fl a1 al H5
  generalize (w4.alloc _).drew = w5 at hbx hho ⊢
  have H5 : Hid (HoI w w5 x y s r) := hho
  have HP : Hid (Box4 w5 w4.heap.size (gN x 0) (gN x 1) (gN x 2 == 1) v) := hbx
  have y0 := hbx.c0
  have y1 := hbx.c1
  have y2 := hbx.c2
  have y3 := hbx.c3
  clear hbx hho
  generalize w4.heap.size = D at HP hne y0 y1 y2 y3 ⊢
  have HQ : Hid (w.heap.size + 1 < D) := hne
  clear hne
  go_upto_region 7 with (first
   | (go_at_call 222; refine (words_of _ _ _ _ _ H5.out.tab).mono ?_; rintro e2 w6 ⟨rfl, hb⟩; rw [hc, hA, hB]; have H6 : Hid (HoI w w6 x y s r) := H5.out.on hb; have HP6 : Hid (Box4 w6 D (gN x 0) (gN x 1) (gN x 2 == 1) v) := HP.out.on hb; clear y0 y1 y2 y3 hb)
   | fail)
  have hK := ho_laid x y H6.out HP6.out
  clear H6 HP6 H5 HP H4 H3
  generalize w6.alloc _ = w7 at hK ⊢
  generalize w6.heap.size = E at hK ⊢
  have H6 : Hid (HoI w w7 x y s r) := hK.1
  have y0 := hK.2.1.c0
  have y1 := hK.2.1.c1
  have y2 := hK.2.1.c2
  have y3 := hK.2.1.c3
  have b0 := hK.2.2.c0
  have b1 := hK.2.2.c1
  have b2 := hK.2.2.c2
  have b3 := hK.2.2.c3
  clear hK
  have a0 := H6.out.all.c0
  have a1 := H6.out.all.c1
  have a2 := H6.out.all.c2
  have a3 := H6.out.all.c3
  have x0 := H6.out.res.c0
  have x1 := H6.out.res.c1
  have x2 := H6.out.res.c2
  have x3 := H6.out.res.c3
  have z0 := H6.out.res.fz 0
  have z1 := H6.out.res.fz 1
  have z2 := H6.out.res.fz 2
  have z3 := H6.out.res.fz 3
  go_wp2
  refine bodyPost_ret (v := .tuple #[.agg #[.int .i64 0, .int .i64 0, .bool false, .int .i64 0], .int .i64 12]) (by simp [results, Tryz.results139, go_sem, x0, x1, x2, x3]) rfl ⟨rfl, ?_⟩
  exact bst (bst (bst (bst H6.out.below (by omega) _ _) (by omega) _ _) (by omega) _ _) (by omega) _ _
 case pos =>
  obtain ⟨rfl, rfl⟩ := hz
  have hG : Got x y 0 0 := ⟨HC.out, by unfold Rt at hr; omega, rfl, rfl, by rw [<- hvy]; exact hr⟩
  obtain ⟨r0, r1, r2, r3, r4⟩ := hget_yes hG
  rw [r0, r1, r2, r3.trans hvy.symm, r4]
  have hqq : (!(x == x && y == y && (0 : Int) == 0 && (0 : Int) == 0)) = false := by simp
  rw [hqq] at hq
  clear r0 r1 r2 r3 r4 hG hr hv hy hback hvy hqq
  go_enter Tryz.func139, Tryz.ntmps139
  go_wp2
  generalize ((w.alloc _).alloc _).alloc _ = w3 at HN ⊢
  have H3 : Hid (HoI w w3 x y 0 0) := HN
  clear HN g0 g1 g2 gl
  have a0 := H3.out.all.c0
  go_region_held3 (fun w' => w'.cell? ⟨w.heap.size, 0, none⟩ = some (.int .u64 x)) (first | assumption | go_keep)
  (first
    | (go_at_call 140; refine (unpack_three (some ⟨w.heap.size + 2, 0, none⟩) x _ HX.out (by first | exact H3.out.wide | exact (H3.out.on (Below.refl _ _).drew).wide) HC.out).mono ?_; rintro e1 w4 ⟨b, o, c, rfl, h5, hb⟩; have H4 : Hid (HoI w w4 x y 0 0) := (by first | exact H3.out.on hb | exact H3.out.on ((Below.refl _ _).drew.trans hb)); have H5 : Hid (Three w4 b o x) := h5; clear hb h5 a0; have a0 := H4.out.all.c0)
    | fail)
  have f0 := H5.out.c0
  have f1 := H5.out.c1
  have f2 := H5.out.c2
  have fl := H5.out.lt
  have a1 := H4.out.all.c1
  have al := H4.out.all.lt
  clear a0
  go_wp2
  go_region_held3 (fun w' => w'.cell? ⟨b, o, none⟩ = some (.int .u64 (gN x 0)) /\ w'.cell? ⟨b, o + 1, none⟩ = some (.int .u64 (gN x 1)) /\ w'.cell? ⟨b, o + 2, none⟩ = some (.int .u64 (gN x 2)) /\ w'.cell? ⟨w.heap.size, 1, none⟩ = some (.int .u64 y)) (first | exact ⟨by assumption, by assumption, by assumption, by assumption⟩ | go_keep)
  (fail)
  try simp only [d0, d1, dv]
  have hbx := (box4_new w4 (gN x 0) (gN x 1) (gN x 2 == 1) v 114).on (Below.refl _ _).drew
  have hho := H4.out.on (bal (Below.refl _ _) (.cells #[.int .i64 (gN x 0), .int .i64 (gN x 1), .bool (gN x 2 == 1), .int .i64 v] 114)).drew
  have hne : w.heap.size + 1 < w4.heap.size := H4.out.res.lt
  clear f0 f1 f2 fl a1 al H5
  generalize (w4.alloc _).drew = w5 at hbx hho ⊢
  have H5 : Hid (HoI w w5 x y 0 0) := hho
  have HP : Hid (Box4 w5 w4.heap.size (gN x 0) (gN x 1) (gN x 2 == 1) v) := hbx
  have y0 := hbx.c0
  have y1 := hbx.c1
  have y2 := hbx.c2
  have y3 := hbx.c3
  clear hbx hho
  generalize w4.heap.size = D at HP hne y0 y1 y2 y3 ⊢
  have HQ : Hid (w.heap.size + 1 < D) := hne
  clear hne
  go_upto_region 7 with (first
   | (go_at_call 222; refine (words_of _ _ _ _ _ H5.out.tab).mono ?_; rintro e2 w6 ⟨rfl, hb⟩; rw [hc, hA, hB]; have H6 : Hid (HoI w w6 x y 0 0) := H5.out.on hb; have HP6 : Hid (Box4 w6 D (gN x 0) (gN x 1) (gN x 2 == 1) v) := HP.out.on hb; clear y0 y1 y2 y3 hb)
   | fail)
  have hK := ho_laid x y H6.out HP6.out
  clear H6 HP6 H5 HP H4 H3
  generalize w6.alloc _ = w7 at hK ⊢
  generalize w6.heap.size = E at hK ⊢
  have H6 : Hid (HoI w w7 x y 0 0) := hK.1
  have y0 := hK.2.1.c0
  have y1 := hK.2.1.c1
  have y2 := hK.2.1.c2
  have y3 := hK.2.1.c3
  have b0 := hK.2.2.c0
  have b1 := hK.2.2.c1
  have b2 := hK.2.2.c2
  have b3 := hK.2.2.c3
  clear hK
  have a0 := H6.out.all.c0
  have a1 := H6.out.all.c1
  have a2 := H6.out.all.c2
  have a3 := H6.out.all.c3
  have x0 := H6.out.res.c0
  have x1 := H6.out.res.c1
  have x2 := H6.out.res.c2
  have x3 := H6.out.res.c3
  have z0 := H6.out.res.fz 0
  have z1 := H6.out.res.fz 1
  have z2 := H6.out.res.fz 2
  have z3 := H6.out.res.fz 3
  go_wp2
  refine bodyPost_ret (v := .tuple #[.agg #[.int .i64 (gN x 0), .int .i64 (gN x 1), .bool (gN x 2 == 1), .int .i64 v], .int .i64 0]) (by simp [results, Tryz.results139, go_sem, x0, x1, x2, x3]) rfl ⟨rfl, ?_⟩
  exact bst (bst (bst (bst H6.out.below (by omega) _ _) (by omega) _ _) (by omega) _ _) (by omega) _ _
structure GtI (w0 w : World) (p b N : Nat) (M : Nat -> Nat -> Int) : Prop where
 mem : MemIs w p b N M
 tab : TabW w
 below : Below w0.heap.size w0 w
 res : Box4 w w0.heap.size 0 0 false 0
theorem GtI.on {w0 w w' : World} {p b N : Nat} {M : Nat -> Nat -> Int} (h : GtI w0 w p b N M) (hB : Below w.heap.size w w') : GtI w0 w' p b N M :=
 ⟨h.mem.grown hB, h.tab.on hB, h.below.trans (hB.mono h.below.size), h.res.on hB⟩
theorem gtI_new {w : World} {p b N : Nat} {M : Nat -> Nat -> Int} (hM : MemIs w p b N M) (hW : TabW w) (ty : TypeId) : GtI w (w.alloc (.cells #[.int .i64 0, .int .i64 0, .bool false, .int .i64 0] ty)) p b N M :=
 ⟨hM.grown (bal (Below.refl _ _) _), hW.on (bal (Below.refl _ _) _), bal (Below.refl _ _) _, box4_new w 0 0 false 0 ty⟩
theorem gt_laid {w0 w : World} {p b N : Nat} {M : Nat -> Nat -> Int} (h : GtI w0 w p b N M) (x y s r : Int) : GtI w0 (w.alloc (.cells #[.int .u64 x, .int .u64 y, .int .u64 s, .int .u64 r] 204)) p b N M /\ Row4 (w.alloc (.cells #[.int .u64 x, .int .u64 y, .int .u64 s, .int .u64 r] 204)) w.heap.size x y s r :=
 ⟨h.on (bal (Below.refl _ _) _), row4_new w x y s r 204⟩
theorem hget_any (p b N : Nat) (f : Int) (M : Nat -> Nat -> Int) (w : World) (hN1 : 1 <= N) (hN : N <= 64) (hM : MemIs w p b N M) (hW : TabW w) (hF : Fit M) :
 Calls Tryz.prog 78 #[.pointer (some ⟨p, 0, none⟩), .int .i64 f] w fun e w' => e = .returned (.tuple #[.agg #[.int .i64 (ghK N M f), .int .i64 (ghL N M f), .bool (ghZ N M f), .int .i64 (ghT N M f)], .int .i64 (ghE N M f)]) /\ Below w.heap.size w w' := by
 have HI : Hid (∀ ty, GtI w (w.alloc (.cells #[.int .i64 0, .int .i64 0, .bool false, .int .i64 0] ty)) p b N M) := fun ty => gtI_new hM hW ty
 clear hM hW
 have hmf : ∀ (fn : Fn) (first cap : Array Value) (w : World), (Instr.makeFunc fn first cap).run Tryz.prog w = .ok (.func fn first cap) w := fun _ _ _ _ => rfl
 cases hf : okF N f
 case false =>
  simp only [ghK, ghL, ghZ, ghT, ghE, hf, Bool.false_and, Bool.false_eq_true, if_false]
  have he : errF N f = 1 := by simp [errF, hf]
  have r0 : ∀ j, rdM N M f j = 0 := fun j => by simp [rdM, hf]
  clear hf
  go_enter Tryz.func78, Tryz.ntmps78
  go_upto_region 2 with (first
   | (go_at_call 138; refine (out_any f p _).mono ?_; rintro e1 w1 ⟨rfl, hF1, hb⟩; have H1 : Hid (GtI w w1 p b N M) := (HI.out _).on hb; have HF1 : Hid (BoxF w1 (w.heap.size + 1) f (loadV p)) := (by rw [World.size_alloc] at hF1; exact hF1); clear hb hF1 HI)
   | (go_at_call 137; refine (read_any (w.heap.size + 1) p b N f M _ hN1 hN H1.out.mem HF1.out).mono ?_; rintro e2 w2 ⟨rfl, hb⟩; rw [he, r0, r0, r0, r0]; have H2 : Hid (GtI w w2 p b N M) := H1.out.on hb; clear hb)
   | fail)
  have hK := gt_laid H2.out 0 0 0 0
  generalize w2.alloc _ = w3 at hK ⊢
  generalize w2.heap.size = E at hK ⊢
  have H3 : Hid (GtI w w3 p b N M) := hK.1
  clear hK H1 H2 HF1
  have x0 := H3.out.res.c0
  have x1 := H3.out.res.c1
  have x2 := H3.out.res.c2
  have x3 := H3.out.res.c3
  have z0 := H3.out.res.fz 0
  have z1 := H3.out.res.fz 1
  have z2 := H3.out.res.fz 2
  have z3 := H3.out.res.fz 3
  go_wp2
  refine bodyPost_ret (v := .tuple #[.agg #[.int .i64 0, .int .i64 0, .bool false, .int .i64 0], .int .i64 1]) (by simp [results, Tryz.results78, go_sem, x0, x1, x2, x3]) rfl ⟨rfl, ?_⟩
  exact bst (bst (bst (bst H3.out.below (Nat.le_refl _) _ _) (Nat.le_refl _) _ _) (Nat.le_refl _) _ _) (Nat.le_refl _) _ _
 case true =>
  simp only [ghK, ghL, ghZ, ghT, ghE, hf, Bool.true_and, if_true]
  have he : errF N f = 0 := by simp [errF, hf]
  have r0 : ∀ j, rdM N M f j = M f.toNat j := fun j => by simp [rdM, hf]
  clear hf
  have hx := hF f.toNat 0
  have hy := hF f.toNat 1
  have R0 := r0 0
  have R1 := r0 1
  have R2 := r0 2
  have R3 := r0 3
  clear r0
  generalize M f.toNat 0 = x at hx R0 ⊢
  generalize M f.toNat 1 = y at hy R1 ⊢
  generalize M f.toNat 2 = s at R2 ⊢
  generalize M f.toNat 3 = r at R3 ⊢
  have HX : Hid (∀ wc, TabW wc -> Calls Tryz.prog 139 #[.agg #[.int .u64 x, .int .u64 y, .int .u64 s, .int .u64 r]] wc fun e w' => e = .returned (.tuple #[.agg #[.int .i64 (getK x y s r), .int .i64 (getL x y s r), .bool (getZ x y s r), .int .i64 (getT x y s r)], .int .i64 (getE x y s r)]) /\ Below wc.heap.size wc w') := fun wc h => head_of x y s r wc hx hy h
  clear hx hy
  generalize getK x y s r = K at HX ⊢
  generalize getL x y s r = L at HX ⊢
  generalize getZ x y s r = Z at HX ⊢
  generalize getT x y s r = T at HX ⊢
  generalize getE x y s r = E at HX ⊢
  go_enter Tryz.func78, Tryz.ntmps78
  go_upto_region 2 with (first
   | (go_at_call 138; refine (out_any f p _).mono ?_; rintro e1 w1 ⟨rfl, hF1, hb⟩; have H1 : Hid (GtI w w1 p b N M) := (HI.out _).on hb; have HF1 : Hid (BoxF w1 (w.heap.size + 1) f (loadV p)) := (by rw [World.size_alloc] at hF1; exact hF1); clear hb hF1 HI)
   | (go_at_call 137; refine (read_any (w.heap.size + 1) p b N f M _ hN1 hN H1.out.mem HF1.out).mono ?_; rintro e2 w2 ⟨rfl, hb⟩; rw [he, R0, R1, R2, R3]; have H2 : Hid (GtI w w2 p b N M) := H1.out.on hb; clear hb)
   | fail)
  have hK := gt_laid H2.out x y s r
  generalize w2.alloc _ = w3 at hK ⊢
  generalize w2.heap.size = D at hK ⊢
  have H3 : Hid (GtI w w3 p b N M) := hK.1
  have b0 := hK.2.c0
  have b1 := hK.2.c1
  have b2 := hK.2.c2
  have b3 := hK.2.c3
  clear hK H1 H2 HF1
  go_wp2_with (first
   | (go_at_call 139; refine (HX.out _ H3.out.tab).mono ?_; rintro e4 w4 ⟨rfl, hb⟩; have H4 : Hid (GtI w w4 p b N M) := H3.out.on hb; clear hb b0 b1 b2 b3; have x0 := H4.out.res.c0; have x1 := H4.out.res.c1; have x2 := H4.out.res.c2; have x3 := H4.out.res.c3; have z0 := H4.out.res.fz 0; have z1 := H4.out.res.fz 1; have z2 := H4.out.res.fz 2; have z3 := H4.out.res.fz 3)
   | fail)
  refine bodyPost_ret (v := .tuple #[.agg #[.int .i64 K, .int .i64 L, .bool Z, .int .i64 T], .int .i64 E]) (by simp [results, Tryz.results78, go_sem, x0, x1, x2, x3]) rfl ⟨rfl, ?_⟩
  exact bst (bst (bst (bst H4.out.below (Nat.le_refl _) _ _) (Nat.le_refl _) _ _) (Nat.le_refl _) _ _) (Nat.le_refl _) _ _
theorem his_any (p b N : Nat) (f q : Int) (M : Nat -> Nat -> Int) (w : World) (hN1 : 1 <= N) (hN : N <= 64) (hM : MemIs w p b N M) (hW : TabW w) (hF : Fit M) :
 Calls Tryz.prog 176 #[.pointer (some ⟨p, 0, none⟩), .int .i64 f, .int .i64 q] w fun e w' => e = .returned (.int .i64 (isE N M f q)) /\ Below w.heap.size w w' := by
 have HG : Hid (Calls Tryz.prog 78 #[.pointer (some ⟨p, 0, none⟩), .int .i64 f] w fun e w' => e = .returned (.tuple #[.agg #[.int .i64 (ghK N M f), .int .i64 (ghL N M f), .bool (ghZ N M f), .int .i64 (ghT N M f)], .int .i64 (ghE N M f)]) /\ Below w.heap.size w w') := hget_any p b N f M w hN1 hN hM hW hF
 clear hM hW hF
 unfold isE
 generalize ghK N M f = K at HG ⊢
 generalize ghL N M f = L at HG
 generalize ghZ N M f = Z at HG
 generalize ghT N M f = T at HG
 generalize ghE N M f = E at HG ⊢
 by_cases hE : E = 0
 · subst hE
   simp only [if_true]
   by_cases hK : K = q
   · subst hK
     simp only [if_true]
     go_enter Tryz.func176, Tryz.ntmps176
     go_wp2_with (first
      | (go_at_call 78; refine HG.out.mono ?_; rintro e1 w1 ⟨rfl, hb⟩; have H1 : Hid (Below w.heap.size w w1) := hb; clear hb)
      | fail)
     go_ret
     exact ⟨rfl, bal H1.out _⟩
   · have hk : (K != q) = true := by simp [hK]
     simp only [hK, if_false]
     go_enter Tryz.func176, Tryz.ntmps176
     go_wp2_with (first
      | (go_at_call 78; refine HG.out.mono ?_; rintro e1 w1 ⟨rfl, hb⟩; have H1 : Hid (Below w.heap.size w w1) := hb; clear hb)
      | fail)
     go_ret
     exact ⟨rfl, bal H1.out _⟩
 · have he : (E != 0) = true := by simp [hE]
   simp only [hE, if_false]
   go_enter Tryz.func176, Tryz.ntmps176
   go_wp2_with (first
    | (go_at_call 78; refine HG.out.mono ?_; rintro e1 w1 ⟨rfl, hb⟩; have H1 : Hid (Below w.heap.size w w1) := hb; clear hb)
    | fail)
   go_ret
   exact ⟨rfl, bal H1.out _⟩
end Phead
namespace Phead
open Pbase Pfield Pmem Go.RowKit Go.ChangeShapes Go.WideShapes Go.Deep
section
variable {H : Type} {enc : TypeId × Value -> H} {w : World} {base : Nat} {spare : Nat -> Bool} {held : Bool}
end
theorem gTwid : (Tryz.prog.globals[(1 : Nat)]?).map (·.type) = some 321 := by kernel_rfl
theorem cellsWide : Tryz.prog.cellsOf 321 = 3 := by kernel_rfl
theorem wid_datum : (Rows.laid_palanquin_head_widths : DataW Unit) = .agg (ws.map fun z => .lit (.int .i64 z)) := rfl
theorem tabW_of {W : World} {g : Nat} {t : TypeId} {cs : Array Value} {fuel : Nat} {p : List MemPlace} {n : String} (hn : Tryz.prog.globalNamed n = some 1) (hg : Tryz.prog.globalNamed n = some g) (ht : (Tryz.prog.globals[g]?).map (·.type) = some t) (hv : W.var? Tryz.prog n = some cs)
 (hd : DataW.trod (fun _ => ()) Tryz.prog W 0 (fun _ => true) false fuel t cs.toList = some (Rows.laid_palanquin_head_widths, p)) : TabW W := by
 obtain rfl := Option.some.inj (hn.symm.trans hg)
 obtain rfl := Option.some.inj (gTwid.symm.trans ht)
 obtain ⟨t1, fr, hb⟩ := var_block hg hv
 refine ⟨block_lt hb, t1, fr, ?_⟩
 rw [wid_datum] at hd
 obtain ⟨_, hl, hc⟩ := array_ints Tryz.underlying321 cellsWide hd
 obtain ⟨cl⟩ := cs
 simp only at hl hc hb
 match cl, hl with
 | [v0, v1, v2], _ =>
   have g0 := hc 0 (by omega)
   have g1 := hc 1 (by omega)
   have g2 := hc 2 (by omega)
   simp [ws] at g0 g1 g2
   rw [hb, g0, g1, g2]
end Phead
namespace Phead
open Pbase Pfield Pmem Go.RowKit M
theorem right_any (k l : Int) (z : Bool) (t : Int) (w : World) :
 Calls Tryz.prog 234 #[.agg #[.int .i64 k, .int .i64 l, .bool z, .int .i64 t]] w fun e w' => e = .returned (.bool (rtB k l z t)) /\ Below w.heap.size w w' := by
 by_cases h0 : k < 0
 · rw [rtB_no fun h => by unfold Rt at h; omega]
   go_enter Tryz.func234, Tryz.ntmps234
   go_wp2
   go_ret
   exact ⟨rfl, bal (Below.refl _ _) _⟩
 by_cases h1 : 6 < k
 · rw [rtB_no fun h => by unfold Rt at h; omega]
   go_enter Tryz.func234, Tryz.ntmps234
   go_wp2
   go_ret
   exact ⟨rfl, bal (Below.refl _ _) _⟩
 by_cases h2 : l < 0
 · rw [rtB_no fun h => by unfold Rt at h; omega]
   go_enter Tryz.func234, Tryz.ntmps234
   go_wp2
   go_ret
   exact ⟨rfl, bal (Below.refl _ _) _⟩
 by_cases h3 : 1 < l
 · rw [rtB_no fun h => by unfold Rt at h; omega]
   go_enter Tryz.func234, Tryz.ntmps234
   go_wp2
   go_ret
   exact ⟨rfl, bal (Below.refl _ _) _⟩
 by_cases h4 : t < 0
 · rw [rtB_no fun h => by unfold Rt at h; omega]
   go_enter Tryz.func234, Tryz.ntmps234
   go_wp2
   go_ret
   exact ⟨rfl, bal (Below.refl _ _) _⟩
 by_cases h5 : 1073741824 < t
 · rw [rtB_no fun h => by unfold Rt at h; omega]
   go_enter Tryz.func234, Tryz.ntmps234
   go_wp2
   go_ret
   exact ⟨rfl, bal (Below.refl _ _) _⟩
 rcases (show l = 0 \/ l = 1 by omega) with rfl | rfl
 · cases z
   case true =>
    by_cases hk : k = 1
    · subst hk
      rw [rtB_yes (k := 1) (l := 0) (z := true) (t := t) (by unfold Rt; simp <;> omega)]
      go_enter Tryz.func234, Tryz.ntmps234
      go_wp2
      go_ret
      exact ⟨rfl, bal (Below.refl _ _) _⟩
    · have bk : (k != 1) = true := by simp [hk]
      rw [rtB_no (k := k) (l := 0) (z := true) (t := t) fun h => by unfold Rt at h; simp at h <;> omega]
      go_enter Tryz.func234, Tryz.ntmps234
      go_wp2
      go_ret
      exact ⟨rfl, bal (Below.refl _ _) _⟩
   case false =>
    by_cases ht : t = 0
    · subst ht
      rw [rtB_yes (k := k) (l := 0) (z := false) (t := 0) (by unfold Rt; simp <;> omega)]
      go_enter Tryz.func234, Tryz.ntmps234
      go_wp2
      go_ret
      exact ⟨rfl, bal (Below.refl _ _) _⟩
    · have bt : (t == 0) = false := by simp [ht]
      rw [rtB_no (k := k) (l := 0) (z := false) (t := t) fun h => by unfold Rt at h; simp at h <;> omega]
      go_enter Tryz.func234, Tryz.ntmps234
      go_wp2
      go_ret
      exact ⟨rfl, bal (Below.refl _ _) _⟩
 · by_cases hk : k = 1
   · subst hk
     cases z
     case true =>
      rw [rtB_yes (k := 1) (l := 1) (z := true) (t := t) (by unfold Rt; simp <;> omega)]
      go_enter Tryz.func234, Tryz.ntmps234
      go_wp2
      go_ret
      exact ⟨rfl, bal (Below.refl _ _) _⟩
     case false =>
      by_cases ht : t = 0
      · subst ht
        rw [rtB_yes (k := 1) (l := 1) (z := false) (t := 0) (by unfold Rt; simp <;> omega)]
        go_enter Tryz.func234, Tryz.ntmps234
        go_wp2
        go_ret
        exact ⟨rfl, bal (Below.refl _ _) _⟩
      · have bt : (t == 0) = false := by simp [ht]
        rw [rtB_no (k := 1) (l := 1) (z := false) (t := t) fun h => by unfold Rt at h; simp at h <;> omega]
        go_enter Tryz.func234, Tryz.ntmps234
        go_wp2
        go_ret
        exact ⟨rfl, bal (Below.refl _ _) _⟩
   by_cases hk2 : k = 2
   · subst hk2
     cases z
     case true =>
      rw [rtB_no (k := 2) (l := 1) (z := true) (t := t) fun h => by unfold Rt at h; simp at h <;> omega]
      go_enter Tryz.func234, Tryz.ntmps234
      go_wp2
      go_ret
      exact ⟨rfl, bal (Below.refl _ _) _⟩
     case false =>
      by_cases ht : t = 0
      · subst ht
        rw [rtB_yes (k := 2) (l := 1) (z := false) (t := 0) (by unfold Rt; simp <;> omega)]
        go_enter Tryz.func234, Tryz.ntmps234
        go_wp2
        go_ret
        exact ⟨rfl, bal (Below.refl _ _) _⟩
      · have bt : (t == 0) = false := by simp [ht]
        rw [rtB_no (k := 2) (l := 1) (z := false) (t := t) fun h => by unfold Rt at h; simp at h <;> omega]
        go_enter Tryz.func234, Tryz.ntmps234
        go_wp2
        go_ret
        exact ⟨rfl, bal (Below.refl _ _) _⟩
   have bk : (k != 1) = true := by simp [hk]
   have bk2 : (k != 2) = true := by simp [hk2]
   rw [rtB_no (k := k) (l := 1) (z := z) (t := t) fun h => by unfold Rt at h; simp at h <;> omega]
   go_enter Tryz.func234, Tryz.ntmps234
   go_wp2
   go_ret
   exact ⟨rfl, bal (Below.refl _ _) _⟩
structure OwnH (w : World) (B : Nat) (k l : Int) (z : Bool) (t : Int) : Prop where
 row : w.heap[B]? = some (.cells #[.int .i64 k, .int .i64 l, .bool z, .int .i64 t] 114 (0, 0))
theorem OwnH.is {w : World} {B : Nat} {k l t : Int} {z : Bool} (h : OwnH w B k l z t) : Box4 w B k l z t :=
 ⟨(Array.getElem?_eq_some_iff.1 h.row).1, (cell_of_row _ _ _ _ _ _ h.row).trans rfl, (cell_of_row _ _ _ _ _ _ h.row).trans rfl, (cell_of_row _ _ _ _ _ _ h.row).trans rfl, (cell_of_row _ _ _ _ _ _ h.row).trans rfl, fun j => frozen_of_row _ _ _ _ _ h.row⟩
theorem OwnH.keep {w w' : World} {B : Nat} {k l t : Int} {z : Bool} (h : OwnH w B k l z t) (hk : KeepT w w') : OwnH w' B k l z t := ⟨hk _ _ _ (by decide) h.row⟩
structure Rf (w0 w : World) (base q N : Nat) (M : Nat -> Nat -> Int) (k l : Int) (z : Bool) (t : Int) : Prop where
 ref : RefIs w base q N M
 below : Below base w0 w
 box : OwnH w w0.heap.size k l z t
 kp : KeepX q w0 w
theorem Rf.on {w0 w w' : World} {base q N : Nat} {M : Nat -> Nat -> Int} {k l t : Int} {z : Bool} (h : Rf w0 w base q N M k l z t) (hB : Below w.heap.size w w') : Rf w0 w' base q N M k l z t :=
 ⟨h.ref.grown hB, h.below.trans (hB.mono (Nat.le_trans h.ref.ge (Nat.le_of_lt h.ref.lt))), h.box.keep (KeepT.below hB), h.kp.trans (KeepX.below hB)⟩
theorem Rf.turn {w0 w w' : World} {base q N : Nat} {M M' : Nat -> Nat -> Int} {k l t : Int} {z : Bool} (h : Rf w0 w base q N M k l z t) (hR : RefIs w' base q N M') (hB : Below base w w') (hk : KeepX q w w') : Rf w0 w' base q N M' k l z t :=
 ⟨hR, h.below.trans hB, h.box.keep hk.t, h.kp.trans hk⟩
theorem rf_new {w : World} {base q N : Nat} {M : Nat -> Nat -> Int} (h : RefIs w base q N M) (k l : Int) (z : Bool) (t : Int) : Rf w (w.alloc (.cells #[.int .i64 k, .int .i64 l, .bool z, .int .i64 t] 114)) base q N M k l z t :=
 ⟨h.alloc _, (Below.refl _ _).alloc (Nat.le_trans h.ge (Nat.le_of_lt h.lt)) _, ⟨heap_alloc_new w _⟩, KeepX.below (bal (Below.refl _ _) _)⟩
theorem rpack_three {k l t : Int} {z : Bool} (hp : Rt k l z t) (w1 : World) :
 Calls Tryz.prog 255 #[.slice (some ⟨w1.heap.size, 0, none⟩) 3 3, .slice (some ⟨w1.heap.size + 1, 0, none⟩) 3 3] ((w1.alloc (.cells #[.int .i64 4, .int .i64 1, .int .i64 1] 3)).alloc (.cells #[.int .u64 k, .int .u64 l, .int .u64 (bz z)] 83)) fun e' W' => e' = .returned (.tuple #[.int .u64 (wd0 k l z), .int .i64 0]) /\ Below w1.heap.size w1 W' := by
 refine (rpack_ok (some ⟨w1.heap.size, 0, none⟩) (some ⟨w1.heap.size + 1, 0, none⟩) 3 3 ws [k, l, bz z] _ (by decide) rfl (put_can hp).1 ?_ ?_ (put_can hp).2).mono fun e' W' ⟨h1, h2⟩ => ⟨h1, (bal (bal (Below.refl _ _) _) _).trans (h2.mono (by simp; omega))⟩
 · refine .inr ⟨w1.heap.size, 0, 3, rfl, by simp; omega, fun j hj => ?_⟩
   have e := (Below.heap_alloc (w1.alloc (.cells #[.int .i64 4, .int .i64 1, .int .i64 1] 3)) (.cells #[.int .u64 k, .int .u64 l, .int .u64 (bz z)] 83) w1.heap.size (by simp)).trans (heap_alloc_new w1 _)
   rw [Nat.zero_add, cell_of_row _ _ j _ _ _ e]
   match j, hj with
   | 0, _ | 1, _ | 2, _ => rfl
 · refine .inr ⟨w1.heap.size + 1, 0, 3, rfl, by simp, fun j hj => ?_⟩
   have e := heap_alloc_new (w1.alloc (.cells #[.int .i64 4, .int .i64 1, .int .i64 1] 3)) (.cells #[.int .u64 k, .int .u64 l, .int .u64 (bz z)] 83)
   rw [World.size_alloc] at e
   rw [Nat.zero_add, cell_of_row _ _ j _ _ _ e]
   match j, hj with
   | 0, _ | 1, _ | 2, _ => rfl
theorem Rf.cell {w0 w : World} {base q N : Nat} {M : Nat -> Nat -> Int} {k l t : Int} {z : Bool} (h : Rf w0 w base q N M k l z t) (hN : 1 <= N) : ∃ g cap, w.cell? ⟨q, 0, none⟩ = some (.slice (some ⟨g, 0, none⟩) N cap) := by
 obtain ⟨g, cap, _, _, hp, _⟩ := h.ref.rows hN
 exact ⟨g, cap, hp⟩
theorem hrput_bad (base q N : Nat) (f k l : Int) (z : Bool) (t : Int) (M : Nat -> Nat -> Int) (w : World) (hN1 : 1 <= N) (hN : N <= 64) (hR : RefIs w base q N M) (hb : ¬ (Rt k l z t /\ okF N f = true)) :
 Calls Tryz.prog 235 #[.pointer (some ⟨q, 0, none⟩), .int .i64 f, .agg #[.int .i64 k, .int .i64 l, .bool z, .int .i64 t]] w fun e w' => e = .returned (.int .i64 1) /\ RefIs w' base q N M /\ Below base w w' /\ KeepX q w w' := by
 have HI : Hid (Rf w (w.alloc (.cells #[.int .i64 k, .int .i64 l, .bool z, .int .i64 t] 114)) base q N M k l z t) := rf_new hR k l z t
 have hr : rtB k l z t = false \/ (rtB k l z t = true /\ okF N f = false) := by
  by_cases hp : Rt k l z t
  · exact .inr ⟨rtB_yes hp, by simpa [hp] using hb⟩
  · exact .inl (rtB_no hp)
 have HR : Hid (∀ w1, Calls Tryz.prog 234 #[.agg #[.int .i64 k, .int .i64 l, .bool z, .int .i64 t]] w1 fun e w' => e = .returned (.bool (rtB k l z t)) /\ Below w1.heap.size w1 w') := fun w1 => right_any k l z t w1
 generalize rtB k l z t = r at HR hr
 clear hR hb
 rcases hr with rfl | ⟨rfl, hok⟩
 · go_enter Tryz.func235, Tryz.ntmps235
   go_wp2_with (first
    | (go_at_call 234; refine (HR.out _).mono ?_; rintro e1 w1 ⟨rfl, hb1⟩; have H1 : Hid (Rf w w1 base q N M k l z t) := HI.out.on hb1; clear hb1)
    | fail)
   go_ret
   exact ⟨rfl, H1.out.ref, H1.out.below, H1.out.kp⟩
 · go_enter Tryz.func235, Tryz.ntmps235
   go_wp2_with (first
    | (go_at_call 234; refine (HR.out _).mono ?_; rintro e1 w1 ⟨rfl, hb1⟩; have H1 : Hid (Rf w w1 base q N M k l z t) := HI.out.on hb1; clear hb1; obtain ⟨g, cap, hq⟩ := H1.out.cell hN1)
    | (go_at_call 170; refine (is_any q g cap N f _ hN hq).mono ?_; rintro e2 w2 ⟨rfl, hw2⟩; subst hw2; rw [hok])
    | fail)
   go_ret
   exact ⟨rfl, H1.out.ref, H1.out.below, H1.out.kp⟩
theorem hrput_ok (base q N f : Nat) (k l : Int) (z : Bool) (t : Int) (M : Nat -> Nat -> Int) (w : World) (hN : N <= 64) (hR : RefIs w base q N M) (hp : Rt k l z t) (hf : f < N) :
 Calls Tryz.prog 235 #[.pointer (some ⟨q, 0, none⟩), .int .i64 f, .agg #[.int .i64 k, .int .i64 l, .bool z, .int .i64 t]] w fun e w' => e = .returned (.int .i64 0) /\ RefIs w' base q N (st4 N M f (wd0 k l z) t 0 0) /\ Below base w w' /\ KeepX q w w' := by
 have HI : Hid (Rf w (w.alloc (.cells #[.int .i64 k, .int .i64 l, .bool z, .int .i64 t] 114)) base q N M k l z t) := rf_new hR k l z t
 have hc : rtB k l z t = true := rtB_yes hp
 have hok := okF_nat hf
 have HP : Hid (Rt k l z t) := hp
 have HF : Hid (f < N) := hf
 have HN : Hid (1 <= N) := by show 1 <= N; omega
 unfold Rt at hp
 have d0 : IntKind.u64.wrap k = k := wrapu_small (by omega) (by omega)
 have d1 : IntKind.u64.wrap l = l := wrapu_small (by omega) (by omega)
 have d3 : IntKind.u64.wrap t = t := wrapu_small (by omega) (by omega)
 clear hp hR hf
 cases z
 · have HK : Hid (∀ w1, _) := fun w1 => rpack_three HP.out w1
   rw [show bz false = 0 from rfl] at HK
   generalize wd0 k l false = x at HK ⊢
   go_enter Tryz.func235, Tryz.ntmps235
   go_wp2_with (first
    | (go_at_call 234; refine (right_any k l false t _).mono ?_; rintro e1 w1 ⟨rfl, hb1⟩; rw [hc]; have H1 : Hid (Rf w w1 base q N M k l false t) := HI.out.on hb1; clear hb1 HI; obtain ⟨g, cap, hq⟩ := H1.out.cell HN.out; have x0 := H1.out.box.is.c0; have x1 := H1.out.box.is.c1; have x2 := H1.out.box.is.c2; have x3 := H1.out.box.is.c3; have xl := H1.out.box.is.lt)
    | (go_at_call 170; refine (is_any q g cap N f _ hN hq).mono ?_; rintro e2 w2 ⟨rfl, hw2⟩; rw [hok]; subst hw2; clear hq)
    | (go_at_call 255; refine (HK.out _).mono ?_; rintro e3 w3 ⟨rfl, hb3⟩; have H3 : Hid (Rf w w3 base q N M k l false t) := H1.out.on hb3; clear hb3 HK x0 x1 x2 x3 xl)
    | (go_at_call 241; refine (rstore_x base q N f 0 x M _ HF.out (by omega) hN H3.out.ref).mono ?_; rintro e4 w4 ⟨rfl, hR4, hB4, hK4⟩; have H4 : Hid (Rf w w4 base q N (stW N M f 0 x) k l false t) := H3.out.turn hR4 hB4 hK4; clear hR4 hB4 hK4 H3; have x3 := H4.out.box.is.c3)
    | (go_at_call 241; refine (rstore_x base q N f 1 t _ _ HF.out (by omega) hN H4.out.ref).mono ?_; rintro e5 w5 ⟨rfl, hR5, hB5, hK5⟩; have H5 : Hid (Rf w w5 base q N (stW N (stW N M f 0 x) f 1 t) k l false t) := H4.out.turn hR5 hB5 hK5; clear hR5 hB5 hK5 H4 x3)
    | (go_at_call 241; refine (rstore_x base q N f 2 0 _ _ HF.out (by omega) hN H5.out.ref).mono ?_; rintro e6 w6 ⟨rfl, hR6, hB6, hK6⟩; have H6 : Hid (Rf w w6 base q N (stW N (stW N (stW N M f 0 x) f 1 t) f 2 0) k l false t) := H5.out.turn hR6 hB6 hK6; clear hR6 hB6 hK6 H5)
    | (go_at_call 241; refine (rstore_x base q N f 3 0 _ _ HF.out (by omega) hN H6.out.ref).mono ?_; rintro e7 w7 ⟨rfl, hR7, hB7, hK7⟩; have H7 : Hid (Rf w w7 base q N (st4 N M f x t 0 0) k l false t) := H6.out.turn hR7 hB7 hK7; clear hR7 hB7 hK7 H6)
    | fail)
   go_ret
   exact ⟨rfl, H7.out.ref, H7.out.below, H7.out.kp⟩
 · have HK : Hid (∀ w1, _) := fun w1 => rpack_three HP.out w1
   rw [show bz true = 1 from rfl] at HK
   generalize wd0 k l true = x at HK ⊢
   go_enter Tryz.func235, Tryz.ntmps235
   go_wp2_with (first
    | (go_at_call 234; refine (right_any k l true t _).mono ?_; rintro e1 w1 ⟨rfl, hb1⟩; rw [hc]; have H1 : Hid (Rf w w1 base q N M k l true t) := HI.out.on hb1; clear hb1 HI; obtain ⟨g, cap, hq⟩ := H1.out.cell HN.out; have x0 := H1.out.box.is.c0; have x1 := H1.out.box.is.c1; have x2 := H1.out.box.is.c2; have x3 := H1.out.box.is.c3; have xl := H1.out.box.is.lt)
    | (go_at_call 170; refine (is_any q g cap N f _ hN hq).mono ?_; rintro e2 w2 ⟨rfl, hw2⟩; rw [hok]; subst hw2; clear hq)
    | (go_at_call 255; refine (HK.out _).mono ?_; rintro e3 w3 ⟨rfl, hb3⟩; have H3 : Hid (Rf w w3 base q N M k l true t) := H1.out.on hb3; clear hb3 HK x0 x1 x2 x3 xl)
    | (go_at_call 241; refine (rstore_x base q N f 0 x M _ HF.out (by omega) hN H3.out.ref).mono ?_; rintro e4 w4 ⟨rfl, hR4, hB4, hK4⟩; have H4 : Hid (Rf w w4 base q N (stW N M f 0 x) k l true t) := H3.out.turn hR4 hB4 hK4; clear hR4 hB4 hK4 H3; have x3 := H4.out.box.is.c3)
    | (go_at_call 241; refine (rstore_x base q N f 1 t _ _ HF.out (by omega) hN H4.out.ref).mono ?_; rintro e5 w5 ⟨rfl, hR5, hB5, hK5⟩; have H5 : Hid (Rf w w5 base q N (stW N (stW N M f 0 x) f 1 t) k l true t) := H4.out.turn hR5 hB5 hK5; clear hR5 hB5 hK5 H4 x3)
    | (go_at_call 241; refine (rstore_x base q N f 2 0 _ _ HF.out (by omega) hN H5.out.ref).mono ?_; rintro e6 w6 ⟨rfl, hR6, hB6, hK6⟩; have H6 : Hid (Rf w w6 base q N (stW N (stW N (stW N M f 0 x) f 1 t) f 2 0) k l true t) := H5.out.turn hR6 hB6 hK6; clear hR6 hB6 hK6 H5)
    | (go_at_call 241; refine (rstore_x base q N f 3 0 _ _ HF.out (by omega) hN H6.out.ref).mono ?_; rintro e7 w7 ⟨rfl, hR7, hB7, hK7⟩; have H7 : Hid (Rf w w7 base q N (st4 N M f x t 0 0) k l true t) := H6.out.turn hR7 hB7 hK7; clear hR7 hB7 hK7 H6)
    | fail)
   go_ret
   exact ⟨rfl, H7.out.ref, H7.out.below, H7.out.kp⟩
theorem hrput_k (base q N : Nat) (f k l : Int) (z : Bool) (t : Int) (M : Nat -> Nat -> Int) (w : World) (hN1 : 1 <= N) (hN : N <= 64) (hR : RefIs w base q N M) :
 Calls Tryz.prog 235 #[.pointer (some ⟨q, 0, none⟩), .int .i64 f, .agg #[.int .i64 k, .int .i64 l, .bool z, .int .i64 t]] w fun e w' => e = .returned (.int .i64 (errP N f k l z t)) /\ RefIs w' base q N (putM N M f k l z t) /\ Below base w w' /\ KeepX q w w' := by
 by_cases hp : Rt k l z t
 · cases hf : okF N f
   · rw [show errP N f k l z t = 1 by simp [errP, rtB_yes hp, errF, hf], show putM N M f k l z t = M by simp [putM, rtB_yes hp, st4_bad hf]]
     exact hrput_bad base q N f k l z t M w hN1 hN hR (by simp [hf])
   · obtain ⟨g, rfl, hg⟩ := okF_split hf
     rw [show errP N g k l z t = 0 by simp [errP, rtB_yes hp, errF, hf], show putM N M g k l z t = st4 N M g (wd0 k l z) t 0 0 by simp [putM, rtB_yes hp]]
     exact hrput_ok base q N g k l z t M w hN hR hp hg
 · rw [show errP N f k l z t = 1 by simp [errP, rtB_no hp], show putM N M f k l z t = M by simp [putM, rtB_no hp]]
   exact hrput_bad base q N f k l z t M w hN1 hN hR (fun h => hp h.1)
theorem hrmake_k (base q N : Nat) (f k l : Int) (z : Bool) (t : Int) (M : Nat -> Nat -> Int) (w : World) (hN1 : 1 <= N) (hN : N <= 64) (hR : RefIs w base q N M) :
 Calls Tryz.prog 179 #[.pointer (some ⟨q, 0, none⟩), .int .i64 f, .agg #[.int .i64 k, .int .i64 l, .bool z, .int .i64 t]] w fun e w' => e = .returned (.int .i64 (errP N f k l z t)) /\ RefIs w' base q N (mkM N M f k l z t) /\ Below base w w' /\ KeepX q w w' := by
 have HI : Hid (Rf w (w.alloc (.cells #[.int .i64 k, .int .i64 l, .bool z, .int .i64 t] 114)) base q N M k l z t) := rf_new hR k l z t
 clear hR
 by_cases hp : Rt k l z t
 case neg =>
  rw [show errP N f k l z t = 1 by simp [errP, rtB_no hp], show mkM N M f k l z t = M by simp [mkM, rtB_no hp]]
  have hc : rtB k l z t = false := rtB_no hp
  clear hp
  go_enter Tryz.func179, Tryz.ntmps179
  go_wp2_with (first
   | (go_at_call 234; refine (right_any k l z t _).mono ?_; rintro e1 w1 ⟨rfl, hb1⟩; rw [hc]; have H1 : Hid (Rf w w1 base q N M k l z t) := HI.out.on hb1; clear hb1)
   | fail)
  go_ret
  exact ⟨rfl, H1.out.ref, H1.out.below, H1.out.kp⟩
 case pos =>
 have hc : rtB k l z t = true := rtB_yes hp
 have e1 : errP N f k l z t = errF N f := by simp [errP, hc]
 have e2 : mkM N M f k l z t = putM N (clM N M f) f k l z t := by simp [mkM, putM, hc]
 have e3 : putM N M f k l z t = st4 N M f (wd0 k l z) t 0 0 := by simp [putM, hc]
 clear hp
 cases hf : okF N f
 case false =>
  rw [e1, e2, clM_bad hf, e3, st4_bad hf, show errF N f = 1 by simp [errF, hf]]
  have he : errF N f = 1 := by simp [errF, hf]
  have HF : Hid (okF N f = false) := hf
  clear e1 e2 e3 hf he
  go_enter Tryz.func179, Tryz.ntmps179
  go_wp2_with (first
   | (go_at_call 234; refine (right_any k l z t _).mono ?_; rintro e1 w1 ⟨rfl, hb1⟩; rw [hc]; have H1 : Hid (Rf w w1 base q N M k l z t) := HI.out.on hb1; clear hb1)
   | (go_at_call 98; refine (rclear_bad base q N f M _ HF.out hN1 hN H1.out.ref).mono ?_; rintro e2 w2 ⟨rfl, rfl⟩)
   | fail)
  go_ret
  exact ⟨rfl, H1.out.ref, H1.out.below, H1.out.kp⟩
 case true =>
  have he : errF N f = 0 := by simp [errF, hf]
  rw [e2]
  obtain ⟨n, rfl, hn⟩ := okF_split hf
  rw [e1, he]
  have HF : Hid (n < N) := hn
  clear e2 e3 hf hn
  go_enter Tryz.func179, Tryz.ntmps179
  go_wp2_with (first
   | (go_at_call 234; refine (right_any k l z t _).mono ?_; rintro e1 w1 ⟨rfl, hb1⟩; rw [hc]; have H1 : Hid (Rf w w1 base q N M k l z t) := HI.out.on hb1; clear hb1)
   | (go_at_call 98; refine (rclear_x base q N n M _ HF.out hN H1.out.ref).mono ?_; rintro e2 w2 ⟨rfl, hR2, hB2, hK2⟩; have H2 : Hid (Rf w w2 base q N (clM N M n) k l z t) := H1.out.turn hR2 hB2 hK2; clear hR2 hB2 hK2; have x0 := H2.out.box.is.c0; have x1 := H2.out.box.is.c1; have x2 := H2.out.box.is.c2; have x3 := H2.out.box.is.c3)
   | (go_at_call 235; refine (hrput_k base q N n k l z t (clM N M n) _ hN1 hN H2.out.ref).mono ?_; rintro e3 w3 ⟨rfl, hR3, hB3, hK3⟩; have H3 : Hid (RefIs w3 base q N (putM N (clM N M n) n k l z t) /\ Below base w w3 /\ KeepX q w w3) := ⟨hR3, H2.out.below.trans hB3, H2.out.kp.trans hK3⟩; clear hR3 hB3 hK3)
   | fail)
  go_ret
  exact ⟨rfl, H3.out⟩
structure RgI (w0 w : World) (b : Nat) (x y s r : Int) : Prop where
 below : Below w0.heap.size w0 w
 res : Box4 w w0.heap.size 0 0 false 0
 lt : b < w.heap.size
 c0 : w.cell? ⟨b, 0, none⟩ = some (.int .u64 x)
 c1 : w.cell? ⟨b, 1, none⟩ = some (.int .u64 y)
 c2 : w.cell? ⟨b, 2, none⟩ = some (.int .u64 s)
 c3 : w.cell? ⟨b, 3, none⟩ = some (.int .u64 r)
theorem RgI.on {w0 w w' : World} {b : Nat} {x y s r : Int} (h : RgI w0 w b x y s r) (hB : Below w.heap.size w w') : RgI w0 w' b x y s r :=
 ⟨h.below.trans (hB.mono h.below.size), h.res.on hB, Nat.lt_of_lt_of_le h.lt hB.size, (hB.cell (p := ⟨b, 0, none⟩) h.lt).trans h.c0, (hB.cell (p := ⟨b, 1, none⟩) h.lt).trans h.c1, (hB.cell (p := ⟨b, 2, none⟩) h.lt).trans h.c2, (hB.cell (p := ⟨b, 3, none⟩) h.lt).trans h.c3⟩
theorem rg_new {w w1 : World} {b f : Nat} {M : Nat -> Nat -> Int} {ty : TypeId} (hB : Below (w.alloc (.cells #[.int .i64 0, .int .i64 0, .bool false, .int .i64 0] ty)).heap.size (w.alloc (.cells #[.int .i64 0, .int .i64 0, .bool false, .int .i64 0] ty)) w1) (hc : ∀ j, j < 36 -> w1.cell? ⟨b, 0 + j, none⟩ = some (.int .u64 (M f j))) : RgI w w1 b (M f 0) (M f 1) (M f 2) (M f 3) := by
 have h0 := hc 0 (by omega)
 have h1 := hc 1 (by omega)
 have h2 := hc 2 (by omega)
 have h3 := hc 3 (by omega)
 exact ⟨(bal (Below.refl _ _) _).trans (hB.mono (by simp)), (box4_new w 0 0 false 0 ty).on hB, World.block_lt_of_cell? w1 _ h0, h0, h1, h2, h3⟩
theorem ints_three (w : World) : Ints .i64 (w.alloc (.cells #[.int .i64 4, .int .i64 1, .int .i64 1] 3)).heap.size (w.alloc (.cells #[.int .i64 4, .int .i64 1, .int .i64 1] 3)) (.slice (some ⟨w.heap.size, 0, none⟩) ws.length 3) ws := by
 refine .inr ⟨w.heap.size, 0, 3, rfl, by simp, fun j hj => ?_⟩
 rw [Nat.zero_add, cell_of_row _ _ j _ _ _ (heap_alloc_new w _)]
 match j, hj with
 | 0, _ | 1, _ | 2, _ => rfl
theorem runpack_three (x : Int) (w : World) (hx : 0 <= x /\ x <= 18446744073709551615) (hA : canU x ws) :
 Calls Tryz.prog 233 #[.slice (some ⟨w.heap.size, 0, none⟩) 3 3, .int .u64 x] (w.alloc (.cells #[.int .i64 4, .int .i64 1, .int .i64 1] 3)) fun e' W' => ∃ b o c, e' = .returned (.tuple #[.slice (some ⟨b, o, none⟩) 3 c, .int .i64 0]) /\ Three W' b o x /\ Below w.heap.size w W' :=
 (runpack_ok (some ⟨w.heap.size, 0, none⟩) 3 ws x _ (by decide) hx (ints_three w) hA).mono fun e' W' ⟨a, c, he, hi, hB⟩ => by
   obtain ⟨b, o, rfl, h5⟩ := three_of hi
   exact ⟨b, o, c, he, h5, (bal (Below.refl _ _) _).trans (hB.mono (by simp))⟩
theorem runpack_none (x : Int) (w : World) (hx : 0 <= x /\ x <= 18446744073709551615) (hA : ¬ canU x ws) :
 Calls Tryz.prog 233 #[.slice (some ⟨w.heap.size, 0, none⟩) 3 3, .int .u64 x] (w.alloc (.cells #[.int .i64 4, .int .i64 1, .int .i64 1] 3)) fun e' W' => e' = .returned (.tuple #[.slice none 0 0, .int .i64 1]) /\ Below w.heap.size w W' :=
 (runpack_bad (some ⟨w.heap.size, 0, none⟩) 3 ws x _ (by decide) hx (ints_three w) hA).mono fun e' W' ⟨he, hB⟩ => ⟨he, (bal (Below.refl _ _) _).trans (hB.mono (by simp))⟩
theorem hrget_out (base q N : Nat) (f : Int) (M : Nat -> Nat -> Int) (w : World) (hN1 : 1 <= N) (hN : N <= 64) (hR : RefIs w base q N M) (hf : okF N f = false) :
 Calls Tryz.prog 178 #[.pointer (some ⟨q, 0, none⟩), .int .i64 f] w fun e w' => e = .returned (.tuple #[.agg #[.int .i64 0, .int .i64 0, .bool false, .int .i64 0], .int .i64 1]) /\ Below w.heap.size w w' := by
 have HB := box4_new w 0 0 false 0 114
 have HW : Hid (∀ o, RefIs (w.alloc o) base q N M) := fun o => hR.alloc o
 clear hR
 go_enter Tryz.func178, Tryz.ntmps178
 go_upto_region 1 with fail
 have HL := bal (Below.refl w.heap.size w) (.cells #[.int .i64 0, .int .i64 0, .bool false, .int .i64 0] 114)
 have HV := HW.out (.cells #[.int .i64 0, .int .i64 0, .bool false, .int .i64 0] 114)
 generalize w.alloc _ = w1 at HB HL HV ⊢
 have H1 : Hid (RefIs w1 base q N M) := HV
 have H2 : Hid (Below w.heap.size w w1) := HL
 have x0 := HB.c0
 have x1 := HB.c1
 have x2 := HB.c2
 have x3 := HB.c3
 have z0 := HB.fz 0
 have z1 := HB.fz 1
 have z2 := HB.fz 2
 have z3 := HB.fz 3
 clear HB HL HV HW
 go_wp2_with (first
  | (go_at_call 232; refine (rwords_bad base q N f M _ hf hN1 hN H1.out).mono ?_; rintro e2 w2 ⟨rfl, hw2⟩; subst hw2)
  | fail)
 refine bodyPost_ret (v := .tuple #[.agg #[.int .i64 0, .int .i64 0, .bool false, .int .i64 0], .int .i64 1]) (by simp [results, Tryz.results178, go_sem, x0, x1, x2, x3]) rfl ⟨rfl, ?_⟩
 exact bst (bst (bst (bst H2.out (Nat.le_refl _) _ _) (Nat.le_refl _) _ _) (Nat.le_refl _) _ _) (Nat.le_refl _) _ _
theorem hrget_in (base q N f : Nat) (M : Nat -> Nat -> Int) (x y s r : Int) (w : World) (hN : N <= 64) (hR : RefIs w base q N M) (hf : f < N) (EX : Hid (M f 0 = x)) (EY : Hid (M f 1 = y)) (ES : Hid (M f 2 = s)) (ER : Hid (M f 3 = r)) (hx : 0 <= x /\ x <= 18446744073709551615) (hy : 0 <= y) :
 Calls Tryz.prog 178 #[.pointer (some ⟨q, 0, none⟩), .int .i64 f] w fun e w' => e = .returned (.tuple #[.agg #[.int .i64 (getK x y s r), .int .i64 (getL x y s r), .bool (getZ x y s r), .int .i64 (getT x y s r)], .int .i64 (getE x y s r)]) /\ Below w.heap.size w w' := by
 have HV : Hid (RefIs w base q N M) := hR
 have HF : Hid (f < N) := hf
 have HX : Hid (0 <= x /\ x <= 18446744073709551615) := hx
 clear hR hf hx
 by_cases hc : canU x ws
 case neg =>
  obtain ⟨r0, r1, r2, r3, r4⟩ := hget_no (x := x) (y := y) (u := s) (v := r) fun h => hc h.1
  rw [r0, r1, r2, r3, r4]
  have HC : Hid (¬ canU x ws) := hc
  clear r0 r1 r2 r3 r4 hc hy
  go_enter Tryz.func178, Tryz.ntmps178
  go_upto_region 4 with (first
   | (go_at_call 232; refine (rwords_ok base q N f M _ HF.out hN (HV.out.alloc _)).mono ?_; rintro e1 w1 ⟨b, cb, rfl, hc1, hb1⟩; have hI := rg_new hb1 hc1; rw [EX.out, EY.out, ES.out, ER.out] at hI; have H1 : Hid (RgI w w1 b x y s r) := hI; clear hc1 hb1 hI)
   | fail)
  have a0 := H1.out.c0
  have al := H1.out.lt
  go_upto_region 5 with (first
   | (go_at_call 233; refine (runpack_none x _ HX.out HC.out).mono ?_; rintro e2 w2 ⟨rfl, hb2⟩; have H2 : Hid (RgI w w2 b x y s r) := H1.out.on hb2; clear hb2 a0 al)
   | fail)
  have x0 := H2.out.res.c0
  have x1 := H2.out.res.c1
  have x2 := H2.out.res.c2
  have x3 := H2.out.res.c3
  have z0 := H2.out.res.fz 0
  have z1 := H2.out.res.fz 1
  have z2 := H2.out.res.fz 2
  have z3 := H2.out.res.fz 3
  go_wp2
  refine bodyPost_ret (v := .tuple #[.agg #[.int .i64 0, .int .i64 0, .bool false, .int .i64 0], .int .i64 12]) (by simp [results, Tryz.results178, go_sem, x0, x1, x2, x3]) rfl ⟨rfl, ?_⟩
  exact bst (bst (bst (bst H2.out.below (Nat.le_refl _) _ _) (Nat.le_refl _) _ _) (Nat.le_refl _) _ _) (Nat.le_refl _) _ _
 case pos =>
 have HC : Hid (canU x ws) := hc
 clear hc
 by_cases h1 : 1073741824 < y
 case pos =>
  obtain ⟨r0, r1, r2, r3, r4⟩ := hget_no (x := x) (y := y) (u := s) (v := r) fun h => by have := h.2.1; omega
  rw [r0, r1, r2, r3, r4]
  clear r0 r1 r2 r3 r4
  go_enter Tryz.func178, Tryz.ntmps178
  go_upto_region 4 with (first
   | (go_at_call 232; refine (rwords_ok base q N f M _ HF.out hN (HV.out.alloc _)).mono ?_; rintro e1 w1 ⟨b, cb, rfl, hc1, hb1⟩; have hI := rg_new hb1 hc1; rw [EX.out, EY.out, ES.out, ER.out] at hI; have H1 : Hid (RgI w w1 b x y s r) := hI; clear hc1 hb1 hI)
   | fail)
  have a0 := H1.out.c0
  have al := H1.out.lt
  go_upto_region 5 with (first
   | (go_at_call 233; refine (runpack_three x _ HX.out HC.out).mono ?_; rintro e2 w2 ⟨b2, o2, c2, rfl, h3, hb2⟩; have H2 : Hid (RgI w w2 b x y s r) := H1.out.on hb2; have H3 : Hid (Three w2 b2 o2 x) := h3; clear h3 hb2 a0 al)
   | fail)
  have a1 := H2.out.c1
  have a2 := H2.out.c2
  have a3 := H2.out.c3
  have x0 := H2.out.res.c0
  have x1 := H2.out.res.c1
  have x2 := H2.out.res.c2
  have x3 := H2.out.res.c3
  have z0 := H2.out.res.fz 0
  have z1 := H2.out.res.fz 1
  have z2 := H2.out.res.fz 2
  have z3 := H2.out.res.fz 3
  go_wp2
  refine bodyPost_ret (v := .tuple #[.agg #[.int .i64 0, .int .i64 0, .bool false, .int .i64 0], .int .i64 12]) (by simp [results, Tryz.results178, go_sem, x0, x1, x2, x3]) rfl ⟨rfl, ?_⟩
  exact bst (bst (bst (bst H2.out.below (Nat.le_refl _) _ _) (Nat.le_refl _) _ _) (Nat.le_refl _) _ _) (Nat.le_refl _) _ _
 case neg =>
 by_cases h2 : s = 0
 case neg =>
  obtain ⟨r0, r1, r2, r3, r4⟩ := hget_no (x := x) (y := y) (u := s) (v := r) fun h => h2 h.2.2.1
  rw [r0, r1, r2, r3, r4]
  clear r0 r1 r2 r3 r4
  have b2 : (s != 0) = true := by simp [h2]
  clear h2
  go_enter Tryz.func178, Tryz.ntmps178
  go_upto_region 4 with (first
   | (go_at_call 232; refine (rwords_ok base q N f M _ HF.out hN (HV.out.alloc _)).mono ?_; rintro e1 w1 ⟨b, cb, rfl, hc1, hb1⟩; have hI := rg_new hb1 hc1; rw [EX.out, EY.out, ES.out, ER.out] at hI; have H1 : Hid (RgI w w1 b x y s r) := hI; clear hc1 hb1 hI)
   | fail)
  have a0 := H1.out.c0
  have al := H1.out.lt
  go_upto_region 5 with (first
   | (go_at_call 233; refine (runpack_three x _ HX.out HC.out).mono ?_; rintro e2 w2 ⟨b2, o2, c2, rfl, h3, hb2⟩; have H2 : Hid (RgI w w2 b x y s r) := H1.out.on hb2; have H3 : Hid (Three w2 b2 o2 x) := h3; clear h3 hb2 a0 al)
   | fail)
  have a1 := H2.out.c1
  have a2 := H2.out.c2
  have a3 := H2.out.c3
  have x0 := H2.out.res.c0
  have x1 := H2.out.res.c1
  have x2 := H2.out.res.c2
  have x3 := H2.out.res.c3
  have z0 := H2.out.res.fz 0
  have z1 := H2.out.res.fz 1
  have z2 := H2.out.res.fz 2
  have z3 := H2.out.res.fz 3
  go_wp2
  refine bodyPost_ret (v := .tuple #[.agg #[.int .i64 0, .int .i64 0, .bool false, .int .i64 0], .int .i64 12]) (by simp [results, Tryz.results178, go_sem, x0, x1, x2, x3]) rfl ⟨rfl, ?_⟩
  exact bst (bst (bst (bst H2.out.below (Nat.le_refl _) _ _) (Nat.le_refl _) _ _) (Nat.le_refl _) _ _) (Nat.le_refl _) _ _
 case pos =>
 by_cases h3 : r = 0
 case neg =>
  obtain ⟨r0, r1, r2, r3, r4⟩ := hget_no (x := x) (y := y) (u := s) (v := r) fun h => h3 h.2.2.2.1
  rw [r0, r1, r2, r3, r4]
  clear r0 r1 r2 r3 r4
  have b3 : (r != 0) = true := by simp [h3]
  subst h2
  clear h3
  go_enter Tryz.func178, Tryz.ntmps178
  go_upto_region 4 with (first
   | (go_at_call 232; refine (rwords_ok base q N f M _ HF.out hN (HV.out.alloc _)).mono ?_; rintro e1 w1 ⟨b, cb, rfl, hc1, hb1⟩; have hI := rg_new hb1 hc1; rw [EX.out, EY.out, ES.out, ER.out] at hI; have H1 : Hid (RgI w w1 b x y 0 r) := hI; clear hc1 hb1 hI)
   | fail)
  have a0 := H1.out.c0
  have al := H1.out.lt
  go_upto_region 5 with (first
   | (go_at_call 233; refine (runpack_three x _ HX.out HC.out).mono ?_; rintro e2 w2 ⟨b2, o2, c2, rfl, h3, hb2⟩; have H2 : Hid (RgI w w2 b x y 0 r) := H1.out.on hb2; have H3 : Hid (Three w2 b2 o2 x) := h3; clear h3 hb2 a0 al)
   | fail)
  have a1 := H2.out.c1
  have a2 := H2.out.c2
  have a3 := H2.out.c3
  have x0 := H2.out.res.c0
  have x1 := H2.out.res.c1
  have x2 := H2.out.res.c2
  have x3 := H2.out.res.c3
  have z0 := H2.out.res.fz 0
  have z1 := H2.out.res.fz 1
  have z2 := H2.out.res.fz 2
  have z3 := H2.out.res.fz 3
  go_wp2
  refine bodyPost_ret (v := .tuple #[.agg #[.int .i64 0, .int .i64 0, .bool false, .int .i64 0], .int .i64 12]) (by simp [results, Tryz.results178, go_sem, x0, x1, x2, x3]) rfl ⟨rfl, ?_⟩
  exact bst (bst (bst (bst H2.out.below (Nat.le_refl _) _ _) (Nat.le_refl _) _ _) (Nat.le_refl _) _ _) (Nat.le_refl _) _ _
 case pos =>
 subst h2
 subst h3
 obtain ⟨⟨p0, q0⟩, ⟨p1, q1⟩, _⟩ := gN_bd HX.out HC.out
 have d0 : IntKind.i64.wrap (gN x 0) = gN x 0 := wrapi_small p0 (by omega)
 have d1 : IntKind.i64.wrap (gN x 1) = gN x 1 := wrapi_small p1 (by omega)
 have dv : IntKind.i64.wrap y = y := wrapi_small hy (by omega)
 clear p0 q0 p1 q1
 by_cases hg : Rt (gN x 0) (gN x 1) (gN x 2 == 1) y
 case neg =>
  obtain ⟨r0, r1, r2, r3, r4⟩ := hget_no (x := x) (y := y) (u := 0) (v := 0) fun h => hg h.2.2.2.2
  rw [r0, r1, r2, r3, r4]
  clear r0 r1 r2 r3 r4
  have hr : rtB (gN x 0) (gN x 1) (gN x 2 == 1) y = false := rtB_no hg
  clear hg
  go_enter Tryz.func178, Tryz.ntmps178
  go_upto_region 4 with (first
   | (go_at_call 232; refine (rwords_ok base q N f M _ HF.out hN (HV.out.alloc _)).mono ?_; rintro e1 w1 ⟨b, cb, rfl, hc1, hb1⟩; have hI := rg_new hb1 hc1; rw [EX.out, EY.out, ES.out, ER.out] at hI; have H1 : Hid (RgI w w1 b x y 0 0) := hI; clear hc1 hb1 hI)
   | fail)
  have a0 := H1.out.c0
  have al := H1.out.lt
  go_upto_region 5 with (first
   | (go_at_call 233; refine (runpack_three x _ HX.out HC.out).mono ?_; rintro e2 w2 ⟨b2, o2, c2, rfl, h3, hb2⟩; have H2 : Hid (RgI w w2 b x y 0 0) := H1.out.on hb2; have H3 : Hid (Three w2 b2 o2 x) := h3; clear h3 hb2 a0 al)
   | fail)
  have a1 := H2.out.c1
  have a2 := H2.out.c2
  have a3 := H2.out.c3
  have f0 := H3.out.c0
  have f1 := H3.out.c1
  have f2 := H3.out.c2
  have fl := H3.out.lt
  have al := H2.out.lt
  go_wp2
  go_region_held3 (fun w' => w'.cell? ⟨b2, o2, none⟩ = some (.int .u64 (gN x 0)) /\ w'.cell? ⟨b2, o2 + 1, none⟩ = some (.int .u64 (gN x 1)) /\ w'.cell? ⟨b2, o2 + 2, none⟩ = some (.int .u64 (gN x 2)) /\ w'.cell? ⟨b, 1, none⟩ = some (.int .u64 y)) (first | exact ⟨by assumption, by assumption, by assumption, by assumption⟩ | go_keep)
  (fail)
  try simp only [d0, d1, dv]
  have hbx := (box4_new w2 (gN x 0) (gN x 1) (gN x 2 == 1) y 114).on (Below.refl _ _).drew
  have hho := H2.out.on (bal (Below.refl _ _) (.cells #[.int .i64 (gN x 0), .int .i64 (gN x 1), .bool (gN x 2 == 1), .int .i64 y] 114)).drew
  have hne : w.heap.size < w2.heap.size := H2.out.res.lt
  clear f0 f1 f2 fl a1 a2 a3 al H3
  generalize (w2.alloc _).drew = w5 at hbx hho ⊢
  have H5 : Hid (RgI w w5 b x y 0 0) := hho
  have HP : Hid (Box4 w5 w2.heap.size (gN x 0) (gN x 1) (gN x 2 == 1) y) := hbx
  have y0 := hbx.c0
  have y1 := hbx.c1
  have y2 := hbx.c2
  have y3 := hbx.c3
  clear hbx hho
  generalize w2.heap.size = D at HP hne y0 y1 y2 y3 ⊢
  have HQ : Hid (w.heap.size < D) := hne
  clear hne
  go_wp2_with (first
   | (go_at_call 234; refine (right_any _ _ _ _ _).mono ?_; rintro e6 w6 ⟨rfl, hb⟩; rw [hr]; have H6 : Hid (RgI w w6 b x y 0 0) := H5.out.on hb; have HP6 := HP.out.on hb; clear y0 y1 y2 y3 hb; have y0 := HP6.c0; have y1 := HP6.c1; have y2 := HP6.c2; have y3 := HP6.c3; clear HP6; have x0 := H6.out.res.c0; have x1 := H6.out.res.c1; have x2 := H6.out.res.c2; have x3 := H6.out.res.c3; have z0 := H6.out.res.fz 0; have z1 := H6.out.res.fz 1; have z2 := H6.out.res.fz 2; have z3 := H6.out.res.fz 3; have ne1 : ¬ D = w.heap.size := Nat.ne_of_gt HQ.out; have ne2 : ¬ w.heap.size = D := Nat.ne_of_lt HQ.out)
   | fail)
  refine bodyPost_ret (v := .tuple #[.agg #[.int .i64 0, .int .i64 0, .bool false, .int .i64 0], .int .i64 12]) (by simp [results, Tryz.results178, go_sem, x0, x1, x2, x3]) rfl ⟨rfl, ?_⟩
  exact bst (bst (bst (bst H6.out.below (Nat.le_refl _) _ _) (Nat.le_refl _) _ _) (Nat.le_refl _) _ _) (Nat.le_refl _) _ _
 case pos =>
  obtain ⟨r0, r1, r2, r3, r4⟩ := hget_yes (x := x) (y := y) (u := 0) (v := 0) ⟨HC.out, by omega, rfl, rfl, hg⟩
  rw [r0, r1, r2, r3, r4]
  have hr : rtB (gN x 0) (gN x 1) (gN x 2 == 1) y = true := rtB_yes hg
  clear r0 r1 r2 r3 r4 hg
  go_enter Tryz.func178, Tryz.ntmps178
  go_upto_region 4 with (first
   | (go_at_call 232; refine (rwords_ok base q N f M _ HF.out hN (HV.out.alloc _)).mono ?_; rintro e1 w1 ⟨b, cb, rfl, hc1, hb1⟩; have hI := rg_new hb1 hc1; rw [EX.out, EY.out, ES.out, ER.out] at hI; have H1 : Hid (RgI w w1 b x y 0 0) := hI; clear hc1 hb1 hI)
   | fail)
  have a0 := H1.out.c0
  have al := H1.out.lt
  go_upto_region 5 with (first
   | (go_at_call 233; refine (runpack_three x _ HX.out HC.out).mono ?_; rintro e2 w2 ⟨b2, o2, c2, rfl, h3, hb2⟩; have H2 : Hid (RgI w w2 b x y 0 0) := H1.out.on hb2; have H3 : Hid (Three w2 b2 o2 x) := h3; clear h3 hb2 a0 al)
   | fail)
  have a1 := H2.out.c1
  have a2 := H2.out.c2
  have a3 := H2.out.c3
  have f0 := H3.out.c0
  have f1 := H3.out.c1
  have f2 := H3.out.c2
  have fl := H3.out.lt
  have al := H2.out.lt
  go_wp2
  go_region_held3 (fun w' => w'.cell? ⟨b2, o2, none⟩ = some (.int .u64 (gN x 0)) /\ w'.cell? ⟨b2, o2 + 1, none⟩ = some (.int .u64 (gN x 1)) /\ w'.cell? ⟨b2, o2 + 2, none⟩ = some (.int .u64 (gN x 2)) /\ w'.cell? ⟨b, 1, none⟩ = some (.int .u64 y)) (first | exact ⟨by assumption, by assumption, by assumption, by assumption⟩ | go_keep)
  (fail)
  try simp only [d0, d1, dv]
  have hbx := (box4_new w2 (gN x 0) (gN x 1) (gN x 2 == 1) y 114).on (Below.refl _ _).drew
  have hho := H2.out.on (bal (Below.refl _ _) (.cells #[.int .i64 (gN x 0), .int .i64 (gN x 1), .bool (gN x 2 == 1), .int .i64 y] 114)).drew
  have hne : w.heap.size < w2.heap.size := H2.out.res.lt
  clear f0 f1 f2 fl a1 a2 a3 al H3
  generalize (w2.alloc _).drew = w5 at hbx hho ⊢
  have H5 : Hid (RgI w w5 b x y 0 0) := hho
  have HP : Hid (Box4 w5 w2.heap.size (gN x 0) (gN x 1) (gN x 2 == 1) y) := hbx
  have y0 := hbx.c0
  have y1 := hbx.c1
  have y2 := hbx.c2
  have y3 := hbx.c3
  clear hbx hho
  generalize w2.heap.size = D at HP hne y0 y1 y2 y3 ⊢
  have HQ : Hid (w.heap.size < D) := hne
  clear hne
  go_wp2_with (first
   | (go_at_call 234; refine (right_any _ _ _ _ _).mono ?_; rintro e6 w6 ⟨rfl, hb⟩; rw [hr]; have H6 : Hid (RgI w w6 b x y 0 0) := H5.out.on hb; have HP6 := HP.out.on hb; clear y0 y1 y2 y3 hb; have y0 := HP6.c0; have y1 := HP6.c1; have y2 := HP6.c2; have y3 := HP6.c3; clear HP6; have x0 := H6.out.res.c0; have x1 := H6.out.res.c1; have x2 := H6.out.res.c2; have x3 := H6.out.res.c3; have z0 := H6.out.res.fz 0; have z1 := H6.out.res.fz 1; have z2 := H6.out.res.fz 2; have z3 := H6.out.res.fz 3; have ne1 : ¬ D = w.heap.size := Nat.ne_of_gt HQ.out; have ne2 : ¬ w.heap.size = D := Nat.ne_of_lt HQ.out)
   | fail)
  refine bodyPost_ret (v := .tuple #[.agg #[.int .i64 (gN x 0), .int .i64 (gN x 1), .bool (gN x 2 == 1), .int .i64 y], .int .i64 0]) (by simp [results, Tryz.results178, go_sem, x0, x1, x2, x3]) rfl ⟨rfl, ?_⟩
  exact bst (bst (bst (bst H6.out.below (Nat.le_refl _) _ _) (Nat.le_refl _) _ _) (Nat.le_refl _) _ _) (Nat.le_refl _) _ _
theorem hrget_any (base q N : Nat) (f : Int) (M : Nat -> Nat -> Int) (w : World) (hN1 : 1 <= N) (hN : N <= 64) (hR : RefIs w base q N M) (hF : Fit M) :
 Calls Tryz.prog 178 #[.pointer (some ⟨q, 0, none⟩), .int .i64 f] w fun e w' => e = .returned (.tuple #[.agg #[.int .i64 (ghK N M f), .int .i64 (ghL N M f), .bool (ghZ N M f), .int .i64 (ghT N M f)], .int .i64 (ghE N M f)]) /\ Below w.heap.size w w' := by
 cases hf : okF N f
 · simp only [ghK, ghL, ghZ, ghT, ghE, hf, Bool.false_and, Bool.false_eq_true, if_false]
   exact hrget_out base q N f M w hN1 hN hR hf
 · simp only [ghK, ghL, ghZ, ghT, ghE, hf, Bool.true_and, if_true]
   obtain ⟨n, rfl, hn⟩ := okF_split hf
   simp only [Int.toNat_natCast]
   exact hrget_in base q N n M _ _ _ _ w hN hR hn rfl rfl rfl rfl (hF n 0) (hF n 1).1
theorem hris_any (base q N : Nat) (f c : Int) (M : Nat -> Nat -> Int) (w : World) (hN1 : 1 <= N) (hN : N <= 64) (hR : RefIs w base q N M) (hF : Fit M) :
 Calls Tryz.prog 208 #[.pointer (some ⟨q, 0, none⟩), .int .i64 f, .int .i64 c] w fun e w' => e = .returned (.int .i64 (isE N M f c)) /\ Below w.heap.size w w' := by
 have HG : Hid (Calls Tryz.prog 178 #[.pointer (some ⟨q, 0, none⟩), .int .i64 f] w fun e w' => e = .returned (.tuple #[.agg #[.int .i64 (ghK N M f), .int .i64 (ghL N M f), .bool (ghZ N M f), .int .i64 (ghT N M f)], .int .i64 (ghE N M f)]) /\ Below w.heap.size w w') := hrget_any base q N f M w hN1 hN hR hF
 clear hR hF
 unfold isE
 generalize ghK N M f = K at HG ⊢
 generalize ghL N M f = L at HG
 generalize ghZ N M f = Z at HG
 generalize ghT N M f = T at HG
 generalize ghE N M f = E at HG ⊢
 by_cases hE : E = 0
 · subst hE
   simp only [if_true]
   by_cases hK : K = c
   · subst hK
     simp only [if_true]
     go_enter Tryz.func208, Tryz.ntmps208
     go_wp2_with (first
      | (go_at_call 178; refine HG.out.mono ?_; rintro e1 w1 ⟨rfl, hb⟩; have H1 : Hid (Below w.heap.size w w1) := hb; clear hb)
      | fail)
     go_ret
     exact ⟨rfl, bal H1.out _⟩
   · have hk : (K != c) = true := by simp [hK]
     simp only [hK, if_false]
     go_enter Tryz.func208, Tryz.ntmps208
     go_wp2_with (first
      | (go_at_call 178; refine HG.out.mono ?_; rintro e1 w1 ⟨rfl, hb⟩; have H1 : Hid (Below w.heap.size w w1) := hb; clear hb)
      | fail)
     go_ret
     exact ⟨rfl, bal H1.out _⟩
 · have he : (E != 0) = true := by simp [hE]
   simp only [hE, if_false]
   go_enter Tryz.func208, Tryz.ntmps208
   go_wp2_with (first
    | (go_at_call 178; refine HG.out.mono ?_; rintro e1 w1 ⟨rfl, hb⟩; have H1 : Hid (Below w.heap.size w w1) := hb; clear hb)
    | fail)
   go_ret
   exact ⟨rfl, bal H1.out _⟩
end Phead
end Go.Proofs.YtkkclcihjojphaaGreatDoor
