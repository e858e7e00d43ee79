/- What upTo, Check and the calls of a place (word, load, store, end, cover, uncover) of package stack answer and do. -/
import Derived.Test.YtoipfcmjphlmfaaDoorStkF
import Derived.BigRegion
import Derived.BigQuiet
import Derived.Deep.RegionHeld3
namespace Go.Proofs.YtoipfcmjphlmfaaDoor.Pstack
open Go.Proofs.YtoipfcmjphlmfaaDoor.Pbase Go.Proofs.YtoipfcmjphlmfaaDoor.Pfield Go.Proofs.YtoipfcmjphlmfaaDoor.Play Go.Proofs.YtoipfcmjphlmfaaDoor.Pmem Go.Proofs.YtoipfcmjphlmfaaDoor.Pthd
open Go.RowKit M
set_option linter.unusedVariables false

/-! ### upTo, Check -/
def upB (m v : Int) : Bool := decide (0 ≤ v) && decide (v ≤ m)
theorem upto_any (m v : Int) (w : World) : Calls Tryd.prog 19 #[.int .i64 m, .int .i64 v] w fun e w' => e = .returned (.bool (upB m v)) ∧ w' = w := by
  unfold upB
  by_cases h : 0 ≤ v
  · go_enter Tryd.func19, Tryd.ntmps19
    go_wp2
    go_ret
    exact ⟨by simp [h], rfl⟩
  · go_enter Tryd.func19, Tryd.ntmps19
    go_wp2
    go_ret
    refine ⟨?_, rfl⟩
    have h' : decide (0 ≤ v) = false := by simp; omega
    rw [h']
    rfl
theorem roB_up (c : Rc) : roB c = (upB 63 c.co && upB 63 c.tb && upB 63 c.pg && upB 63 c.l && upB 65535 c.e && upB 1073741824 c.ip) := rfl
set_option maxRecDepth 100000 in
set_option maxHeartbeats 2000000 in
theorem check_any (c : Rc) (w : World) : Calls Tryd.prog 8 #[.agg #[.int .i64 c.co, .int .i64 c.tb, .int .i64 c.pg, .int .i64 c.l, .int .i64 c.e, .int .i64 c.ip]] w fun e w' => e = .returned (.int .i64 (rkE c)) ∧ Below w.heap.size w w' := by
  have I0 : Hid (∀ wc, Calls Tryd.prog 19 #[.int .i64 63, .int .i64 c.co] wc fun e w' => e = .returned (.bool (upB 63 c.co)) ∧ w' = wc) := fun wc => upto_any 63 c.co wc
  have I1 : Hid (∀ wc, Calls Tryd.prog 19 #[.int .i64 63, .int .i64 c.tb] wc fun e w' => e = .returned (.bool (upB 63 c.tb)) ∧ w' = wc) := fun wc => upto_any 63 c.tb wc
  have I2 : Hid (∀ wc, Calls Tryd.prog 19 #[.int .i64 63, .int .i64 c.pg] wc fun e w' => e = .returned (.bool (upB 63 c.pg)) ∧ w' = wc) := fun wc => upto_any 63 c.pg wc
  have I3 : Hid (∀ wc, Calls Tryd.prog 19 #[.int .i64 63, .int .i64 c.l] wc fun e w' => e = .returned (.bool (upB 63 c.l)) ∧ w' = wc) := fun wc => upto_any 63 c.l wc
  have I4 : Hid (∀ wc, Calls Tryd.prog 19 #[.int .i64 65535, .int .i64 c.e] wc fun e w' => e = .returned (.bool (upB 65535 c.e)) ∧ w' = wc) := fun wc => upto_any 65535 c.e wc
  have I5 : Hid (∀ wc, Calls Tryd.prog 19 #[.int .i64 1073741824, .int .i64 c.ip] wc fun e w' => e = .returned (.bool (upB 1073741824 c.ip)) ∧ w' = wc) := fun wc => upto_any 1073741824 c.ip wc
  unfold rkE
  rw [roB_up]
  generalize upB 63 c.co = R0 at I0 ⊢
  generalize upB 63 c.tb = R1 at I1 ⊢
  generalize upB 63 c.pg = R2 at I2 ⊢
  generalize upB 63 c.l = R3 at I3 ⊢
  generalize upB 65535 c.e = R4 at I4 ⊢
  generalize upB 1073741824 c.ip = R5 at I5 ⊢
  cases R0
  · show Calls Tryd.prog 8 _ w fun e w' => e = .returned (.int .i64 1) ∧ Below w.heap.size w w'
    go_enter Tryd.func8, Tryd.ntmps8
    go_wp2_with (first
      | (go_at_call 19; refine (I0.out _).mono ?_; rintro e0 w0 ⟨rfl, hw⟩; subst hw; clear I0)
      | (go_at_call 19; refine (I1.out _).mono ?_; rintro e1 w1 ⟨rfl, hw⟩; subst hw; clear I1)
      | (go_at_call 19; refine (I2.out _).mono ?_; rintro e2 w2 ⟨rfl, hw⟩; subst hw; clear I2)
      | (go_at_call 19; refine (I3.out _).mono ?_; rintro e3 w3 ⟨rfl, hw⟩; subst hw; clear I3)
      | (go_at_call 19; refine (I4.out _).mono ?_; rintro e4 w4 ⟨rfl, hw⟩; subst hw; clear I4)
      | (go_at_call 19; refine (I5.out _).mono ?_; rintro e5 w5 ⟨rfl, hw⟩; subst hw; clear I5)
      | fail)
    go_ret
    exact ⟨rfl, bal (Below.refl _ _) _⟩
  cases R1
  · show Calls Tryd.prog 8 _ w fun e w' => e = .returned (.int .i64 1) ∧ Below w.heap.size w w'
    go_enter Tryd.func8, Tryd.ntmps8
    go_wp2_with (first
      | (go_at_call 19; refine (I0.out _).mono ?_; rintro e0 w0 ⟨rfl, hw⟩; subst hw; clear I0)
      | (go_at_call 19; refine (I1.out _).mono ?_; rintro e1 w1 ⟨rfl, hw⟩; subst hw; clear I1)
      | (go_at_call 19; refine (I2.out _).mono ?_; rintro e2 w2 ⟨rfl, hw⟩; subst hw; clear I2)
      | (go_at_call 19; refine (I3.out _).mono ?_; rintro e3 w3 ⟨rfl, hw⟩; subst hw; clear I3)
      | (go_at_call 19; refine (I4.out _).mono ?_; rintro e4 w4 ⟨rfl, hw⟩; subst hw; clear I4)
      | (go_at_call 19; refine (I5.out _).mono ?_; rintro e5 w5 ⟨rfl, hw⟩; subst hw; clear I5)
      | fail)
    go_ret
    exact ⟨rfl, bal (Below.refl _ _) _⟩
  cases R2
  · show Calls Tryd.prog 8 _ w fun e w' => e = .returned (.int .i64 1) ∧ Below w.heap.size w w'
    go_enter Tryd.func8, Tryd.ntmps8
    go_wp2_with (first
      | (go_at_call 19; refine (I0.out _).mono ?_; rintro e0 w0 ⟨rfl, hw⟩; subst hw; clear I0)
      | (go_at_call 19; refine (I1.out _).mono ?_; rintro e1 w1 ⟨rfl, hw⟩; subst hw; clear I1)
      | (go_at_call 19; refine (I2.out _).mono ?_; rintro e2 w2 ⟨rfl, hw⟩; subst hw; clear I2)
      | (go_at_call 19; refine (I3.out _).mono ?_; rintro e3 w3 ⟨rfl, hw⟩; subst hw; clear I3)
      | (go_at_call 19; refine (I4.out _).mono ?_; rintro e4 w4 ⟨rfl, hw⟩; subst hw; clear I4)
      | (go_at_call 19; refine (I5.out _).mono ?_; rintro e5 w5 ⟨rfl, hw⟩; subst hw; clear I5)
      | fail)
    go_ret
    exact ⟨rfl, bal (Below.refl _ _) _⟩
  cases R3
  · show Calls Tryd.prog 8 _ w fun e w' => e = .returned (.int .i64 1) ∧ Below w.heap.size w w'
    go_enter Tryd.func8, Tryd.ntmps8
    go_wp2_with (first
      | (go_at_call 19; refine (I0.out _).mono ?_; rintro e0 w0 ⟨rfl, hw⟩; subst hw; clear I0)
      | (go_at_call 19; refine (I1.out _).mono ?_; rintro e1 w1 ⟨rfl, hw⟩; subst hw; clear I1)
      | (go_at_call 19; refine (I2.out _).mono ?_; rintro e2 w2 ⟨rfl, hw⟩; subst hw; clear I2)
      | (go_at_call 19; refine (I3.out _).mono ?_; rintro e3 w3 ⟨rfl, hw⟩; subst hw; clear I3)
      | (go_at_call 19; refine (I4.out _).mono ?_; rintro e4 w4 ⟨rfl, hw⟩; subst hw; clear I4)
      | (go_at_call 19; refine (I5.out _).mono ?_; rintro e5 w5 ⟨rfl, hw⟩; subst hw; clear I5)
      | fail)
    go_ret
    exact ⟨rfl, bal (Below.refl _ _) _⟩
  cases R4
  · show Calls Tryd.prog 8 _ w fun e w' => e = .returned (.int .i64 1) ∧ Below w.heap.size w w'
    go_enter Tryd.func8, Tryd.ntmps8
    go_wp2_with (first
      | (go_at_call 19; refine (I0.out _).mono ?_; rintro e0 w0 ⟨rfl, hw⟩; subst hw; clear I0)
      | (go_at_call 19; refine (I1.out _).mono ?_; rintro e1 w1 ⟨rfl, hw⟩; subst hw; clear I1)
      | (go_at_call 19; refine (I2.out _).mono ?_; rintro e2 w2 ⟨rfl, hw⟩; subst hw; clear I2)
      | (go_at_call 19; refine (I3.out _).mono ?_; rintro e3 w3 ⟨rfl, hw⟩; subst hw; clear I3)
      | (go_at_call 19; refine (I4.out _).mono ?_; rintro e4 w4 ⟨rfl, hw⟩; subst hw; clear I4)
      | (go_at_call 19; refine (I5.out _).mono ?_; rintro e5 w5 ⟨rfl, hw⟩; subst hw; clear I5)
      | fail)
    go_ret
    exact ⟨rfl, bal (Below.refl _ _) _⟩
  cases R5
  · show Calls Tryd.prog 8 _ w fun e w' => e = .returned (.int .i64 1) ∧ Below w.heap.size w w'
    go_enter Tryd.func8, Tryd.ntmps8
    go_wp2_with (first
      | (go_at_call 19; refine (I0.out _).mono ?_; rintro e0 w0 ⟨rfl, hw⟩; subst hw; clear I0)
      | (go_at_call 19; refine (I1.out _).mono ?_; rintro e1 w1 ⟨rfl, hw⟩; subst hw; clear I1)
      | (go_at_call 19; refine (I2.out _).mono ?_; rintro e2 w2 ⟨rfl, hw⟩; subst hw; clear I2)
      | (go_at_call 19; refine (I3.out _).mono ?_; rintro e3 w3 ⟨rfl, hw⟩; subst hw; clear I3)
      | (go_at_call 19; refine (I4.out _).mono ?_; rintro e4 w4 ⟨rfl, hw⟩; subst hw; clear I4)
      | (go_at_call 19; refine (I5.out _).mono ?_; rintro e5 w5 ⟨rfl, hw⟩; subst hw; clear I5)
      | fail)
    go_ret
    exact ⟨rfl, bal (Below.refl _ _) _⟩
  · show Calls Tryd.prog 8 _ w fun e w' => e = .returned (.int .i64 0) ∧ Below w.heap.size w w'
    go_enter Tryd.func8, Tryd.ntmps8
    go_wp2_with (first
      | (go_at_call 19; refine (I0.out _).mono ?_; rintro e0 w0 ⟨rfl, hw⟩; subst hw; clear I0)
      | (go_at_call 19; refine (I1.out _).mono ?_; rintro e1 w1 ⟨rfl, hw⟩; subst hw; clear I1)
      | (go_at_call 19; refine (I2.out _).mono ?_; rintro e2 w2 ⟨rfl, hw⟩; subst hw; clear I2)
      | (go_at_call 19; refine (I3.out _).mono ?_; rintro e3 w3 ⟨rfl, hw⟩; subst hw; clear I3)
      | (go_at_call 19; refine (I4.out _).mono ?_; rintro e4 w4 ⟨rfl, hw⟩; subst hw; clear I4)
      | (go_at_call 19; refine (I5.out _).mono ?_; rintro e5 w5 ⟨rfl, hw⟩; subst hw; clear I5)
      | fail)
    go_ret
    exact ⟨rfl, bal (Below.refl _ _) _⟩
/-! ### a place: word, load, store -/
set_option maxRecDepth 100000 in
theorem word_any (p : Nat) (f : Int) (i n : Nat) (hi : i < 6) (hn : n < 2) (w : World) : Calls Tryd.prog 37 #[.agg #[.pointer (some ⟨p, 0, none⟩), .int .i64 f, .int .i64 (i : Int)], .int .i64 (n : Int)] w fun e w' => e = .returned (.int .i64 (17 + 2 * (i : Int) + (n : Int))) ∧ Below w.heap.size w w' := by
  have h1 : wrap64 (2 * (i : Int)) = 2 * (i : Int) := by unfold wrap64; omega
  have h2 : wrap64 (17 + 2 * (i : Int)) = 17 + 2 * (i : Int) := by unfold wrap64; omega
  have h3 : wrap64 (17 + 2 * (i : Int) + (n : Int)) = 17 + 2 * (i : Int) + (n : Int) := by unfold wrap64; omega
  go_enter Tryd.func37, Tryd.ntmps37
  go_wp2
  go_ret
  exact ⟨rfl, bal (Below.refl _ _) _⟩
/-- A memory, and the place that was handed in. -/
structure Pw (w W : World) (p b N : Nat) (f i : Int) (M : Nat → Nat → Int) : Prop where
  sx : Sx W p b N M
  row : RowL W w.heap.size p f i
  below : Below w.heap.size w W
theorem pw_new {w : World} {p b N : Nat} {M : Nat → Nat → Int} (h : Sx w p b N M) (f i : Int) : Pw w (w.alloc (.cells #[.pointer (some ⟨p, 0, none⟩), .int .i64 f, .int .i64 i] 53)) p b N f i M := ⟨h.on (bal (Below.refl _ _) _), rowL_new w p f i, bal (Below.refl _ _) _⟩
theorem Pw.on {w W W' : World} {p b N : Nat} {f i : Int} {M : Nat → Nat → Int} (h : Pw w W p b N f i M) (hB : Below W.heap.size W W') : Pw w W' p b N f i M := ⟨h.sx.on hB, h.row.on hB, h.below.trans (hB.mono h.below.size)⟩
theorem ok_at {N : Nat} {f : Int} (hf : okF N f = true) {i n : Nat} (hi : i < 6) (hn : n < 2) : okW N f (17 + 2 * (i : Int) + (n : Int)) = true := by
  unfold okW
  rw [hf]
  simp
  omega
set_option maxRecDepth 100000 in
set_option maxHeartbeats 1000000 in
theorem pload_any (p b N : Nat) (f : Int) (i n : Nat) (M : Nat → Nat → Int) (w : World) (hM : Sx w p b N M) (hf : okF N f = true) (hi : i < 6) (hn : n < 2) :
    Calls Tryd.prog 51 #[.agg #[.pointer (some ⟨p, 0, none⟩), .int .i64 f, .int .i64 (i : Int)], .int .i64 (n : Int)] w fun e w' => e = .returned (.tuple #[.int .u64 (M f.toNat (17 + 2 * i + n)), .int .i64 0]) ∧ Below w.heap.size w w' := by
  have HL : Hid (∀ wc, Pw w wc p b N f (i : Int) M → Calls Tryd.prog 47 #[.pointer (some ⟨p, 0, none⟩), .int .i64 f, .int .i64 (17 + 2 * (i : Int) + (n : Int))] wc fun e w' => e = .returned (.tuple #[.int .u64 (M f.toNat (17 + 2 * i + n)), .int .i64 0]) ∧ w' = wc) := fun wc h => by
    have := Pmem.load_any p b N f (17 + 2 * (i : Int) + (n : Int)) M wc hM.mx.n1 hM.mx.n64 h.sx.mx.mem
    have ho := ok_at hf hi hn
    rwa [show errW N f (17 + 2 * (i : Int) + (n : Int)) = 0 by unfold errW; rw [ho]; rfl, show ldM N M f (17 + 2 * (i : Int) + (n : Int)) = M f.toNat (17 + 2 * i + n) by unfold ldM; rw [ho, if_pos rfl]; congr 1] at this
  have HW : Hid (∀ wc, Calls Tryd.prog 37 #[.agg #[.pointer (some ⟨p, 0, none⟩), .int .i64 f, .int .i64 (i : Int)], .int .i64 (n : Int)] wc fun e w' => e = .returned (.int .i64 (17 + 2 * (i : Int) + (n : Int))) ∧ Below wc.heap.size wc w') := fun wc => word_any p f i n hi hn wc
  have H0 := rhide (pw_new hM f (i : Int))
  clear hM hf
  generalize M f.toNat (17 + 2 * i + n) = X at HL ⊢
  generalize 17 + 2 * (i : Int) + (n : Int) = a at HL HW
  generalize (n : Int) = n' at HW ⊢
  generalize (i : Int) = i' at H0 HL HW ⊢
  go_enter Tryd.func51, Tryd.ntmps51
  go_wp2
  generalize w.alloc _ = w1 at H0 ⊢
  have x0 := H0.out.row.c0
  have x1 := H0.out.row.c1
  have x2 := H0.out.row.c2
  go_region_held3 (fun w' => w'.cell? ⟨w.heap.size, 0, none⟩ = some (.pointer (some ⟨p, 0, none⟩)) ∧ w'.cell? ⟨w.heap.size, 1, none⟩ = some (.int .i64 f) ∧ w'.cell? ⟨w.heap.size, 2, none⟩ = some (.int .i64 i')) (first | exact ⟨by assumption, by assumption, by assumption⟩ | go_keep)
  (first
    | (go_at_call 37; refine (HW.out _).mono ?_; rintro e2 w2 ⟨rfl, hb⟩; have H1 := rhide (H0.out.on (by first | exact hb | exact (Below.refl _ _).drew.trans hb)); clear hb x0 x1 x2 H0; have x0 := H1.out.row.c0; have x1 := H1.out.row.c1; have x2 := H1.out.row.c2)
    | (go_at_call 47; refine (HL.out _ (by first | exact H1.out | exact H1.out.on (Below.refl _ _).drew)).mono ?_; rintro e3 w3 ⟨rfl, hw⟩; subst w3)
    | fail)
  all_goals
    go_wp2
    go_ret2
    first
      | exact ⟨rfl, H1.out.below⟩
      | exact ⟨rfl, (H1.out.on (Below.refl _ _).drew).below⟩
set_option maxRecDepth 100000 in
set_option maxHeartbeats 1000000 in
theorem pstore_any (p b N : Nat) (f v : Int) (i n : Nat) (M : Nat → Nat → Int) (w : World) (hM : Sx w p b N M) (hf : okF N f = true) (hi : i < 6) (hn : n < 2) (hv : 0 ≤ v ∧ v ≤ 18446744073709551615) :
    Calls Tryd.prog 24 #[.agg #[.pointer (some ⟨p, 0, none⟩), .int .i64 f, .int .i64 (i : Int)], .int .i64 (n : Int), .int .u64 v] w fun e w' => e = .returned (.int .i64 0) ∧ Sx w' p b N (stW N M f (17 + 2 * (i : Int) + (n : Int)) v) ∧ But b w w' := by
  have hlb := hM.ltb
  have HS : Hid (∀ wc, Pw w wc p b N f (i : Int) M → Calls Tryd.prog 30 #[.pointer (some ⟨p, 0, none⟩), .int .i64 f, .int .i64 (17 + 2 * (i : Int) + (n : Int)), .int .u64 v] wc fun e w' => e = .returned (.int .i64 0) ∧ Sx w' p b N (stW N M f (17 + 2 * (i : Int) + (n : Int)) v) ∧ But b w w' ∧ RowL w' w.heap.size p f (i : Int)) := fun wc h => by
    have := Pmem.store_any p b N f (17 + 2 * (i : Int) + (n : Int)) v M wc hM.mx.n1 hM.mx.n64 h.sx.mx.mem
    have ho := ok_at hf hi hn
    rw [show errW N f (17 + 2 * (i : Int) + (n : Int)) = 0 by unfold errW; rw [ho]; rfl] at this
    refine this.mono ?_
    rintro e w' ⟨rfl, rfl⟩
    have hb : But b wc (wc.setRow b (cellsM N (stW N M f (17 + 2 * (i : Int) + (n : Int)) v))) := (But.refl b wc).setRow _
    exact ⟨rfl, h.sx.but (h.sx.mx.but (h.sx.mx.mem.set _) (hM.mx.fit.st N f _ v hv) hb) hb, (But.of_below b h.below).trans hb, h.row.but hb (by omega)⟩
  have HW : Hid (∀ wc, Calls Tryd.prog 37 #[.agg #[.pointer (some ⟨p, 0, none⟩), .int .i64 f, .int .i64 (i : Int)], .int .i64 (n : Int)] wc fun e w' => e = .returned (.int .i64 (17 + 2 * (i : Int) + (n : Int))) ∧ Below wc.heap.size wc w') := fun wc => word_any p f i n hi hn wc
  have H0 := rhide (pw_new hM f (i : Int))
  clear hM hf hv hlb
  generalize stW N M f (17 + 2 * (i : Int) + (n : Int)) v = M1 at HS ⊢
  generalize 17 + 2 * (i : Int) + (n : Int) = a at HS HW
  generalize (n : Int) = n' at HW ⊢
  generalize (i : Int) = i' at H0 HS HW ⊢
  go_enter Tryd.func24, Tryd.ntmps24
  go_wp2
  generalize w.alloc _ = w1 at H0 ⊢
  have x0 := H0.out.row.c0
  have x1 := H0.out.row.c1
  have x2 := H0.out.row.c2
  go_region_held3 (fun w' => w'.cell? ⟨w.heap.size, 0, none⟩ = some (.pointer (some ⟨p, 0, none⟩)) ∧ w'.cell? ⟨w.heap.size, 1, none⟩ = some (.int .i64 f) ∧ w'.cell? ⟨w.heap.size, 2, none⟩ = some (.int .i64 i')) (first | exact ⟨by assumption, by assumption, by assumption⟩ | go_keep)
  (first
    | (go_at_call 37; refine (HW.out _).mono ?_; rintro e2 w2 ⟨rfl, hb⟩; have H1 := rhide (H0.out.on (by first | exact hb | exact (Below.refl _ _).drew.trans hb)); clear hb x0 x1 x2 H0; have x0 := H1.out.row.c0; have x1 := H1.out.row.c1; have x2 := H1.out.row.c2)
    | (go_at_call 30; refine (HS.out _ (by first | exact H1.out | exact H1.out.on (Below.refl _ _).drew)).mono ?_; rintro e3 w3 ⟨rfl, hw⟩; have H2 := rhide hw; clear hw HS H1 x0 x1 x2; have x0 := H2.out.2.2.c0; have x1 := H2.out.2.2.c1; have x2 := H2.out.2.2.c2)
    | fail)
  all_goals
    go_wp2
    go_ret
    first
      | exact ⟨rfl, H2.out.1, H2.out.2.1⟩
      | exact ⟨rfl, H2.out.1.on (Below.refl _ _).drew, H2.out.2.1.drew⟩
/-! ### end, cover, uncover -/
set_option maxRecDepth 100000 in
set_option maxHeartbeats 1000000 in
theorem end_any (p b N : Nat) (f i : Int) (d : Nat) (M : Nat → Nat → Int) (w : World) (hM : Sx w p b N M) (hg : gtE N M f = 0) (hd : d ≤ 6) :
    Calls Tryd.prog 34 #[.agg #[.pointer (some ⟨p, 0, none⟩), .int .i64 f, .int .i64 i], .int .i64 (d : Int)] w fun e w' => e = .returned (.int .i64 0) ∧ Sx w' p b N (stW N M f 8 (d : Int)) ∧ But b w w' := by
  obtain ⟨e1, e2, e3⟩ := dp_put hg hd
  have HG : Hid (∀ wc, Pw w wc p b N f i M → Calls Tryd.prog 16 #[.pointer (some ⟨p, 0, none⟩), .int .i64 f] wc fun e w' => e = .returned (.tuple #[.agg #[.int .i64 (thOf M f).st, .int .i64 (thOf M f).co, .int .i64 (thOf M f).tc, .int .i64 (thOf M f).rc, .int .i64 (thOf M f).de], .int .i64 0]) ∧ Below wc.heap.size wc w') := fun wc h => by
    have := Pthd.get_any p b N f M wc h.sx.mx
    rwa [hg, (gt_yes hg).2.2] at this
  have HP : Hid (∀ wc, Pw w wc p b N f i M → Calls Tryd.prog 50 #[.pointer (some ⟨p, 0, none⟩), .int .i64 f, .agg #[.int .i64 (thOf M f).st, .int .i64 (thOf M f).co, .int .i64 (thOf M f).tc, .int .i64 (thOf M f).rc, .int .i64 (d : Int)]] wc fun e w' => e = .returned (.int .i64 0) ∧ Sx w' p b N (stW N M f 8 (d : Int)) ∧ But b w w') := fun wc h => by
    have := Pthd.put_any p b N f (dpX (thOf M f) (d : Int)) M wc h.sx.mx e3.fi
    rw [e1, e2] at this
    exact this.mono fun e w' ⟨q1, q2, q3⟩ => ⟨q1, h.sx.but q2 q3, (But.of_below b h.below).trans q3⟩
  have H0 := rhide (pw_new hM f i)
  clear hM e1 e2 e3 hg hd
  generalize stW N M f 8 (d : Int) = M1 at HP ⊢
  generalize thOf M f = y at HG HP
  generalize (d : Int) = d' at HP ⊢
  go_enter Tryd.func34, Tryd.ntmps34
  go_wp2_with (first
    | (go_at_call 16; refine (HG.out _ H0.out).mono ?_; rintro e1 w1 ⟨rfl, hb⟩; have H1 := rhide (H0.out.on hb); clear hb HG H0; have x0 := H1.out.row.c0; have x1 := H1.out.row.c1; have xl := H1.out.row.lt)
    | (go_at_call 50; refine (HP.out _ (H1.out.on (bal (Below.refl _ _) _))).mono ?_; rintro e2 w2 ⟨rfl, hw⟩; have H2 := rhide hw; clear hw HP H1)
    | fail)
  go_ret
  exact ⟨rfl, H2.out⟩
set_option maxRecDepth 100000 in
theorem cover_any (p b N : Nat) (f : Int) (i : Nat) (M : Nat → Nat → Int) (w : World) (hM : Sx w p b N M) (hg : gtE N M f = 0) (hi : i < 6) :
    Calls Tryd.prog 18 #[.agg #[.pointer (some ⟨p, 0, none⟩), .int .i64 f, .int .i64 (i : Int)]] w fun e w' => e = .returned (.int .i64 0) ∧ Sx w' p b N (stW N M f 8 ((i + 1 : Nat) : Int)) ∧ But b w w' := by
  have HE : Hid (∀ wc, Pw w wc p b N f (i : Int) M → Calls Tryd.prog 34 #[.agg #[.pointer (some ⟨p, 0, none⟩), .int .i64 f, .int .i64 (i : Int)], .int .i64 ((i : Int) + 1)] wc fun e w' => e = .returned (.int .i64 0) ∧ Sx w' p b N (stW N M f 8 ((i + 1 : Nat) : Int)) ∧ But b w w') := fun wc h =>
    (end_any p b N f (i : Int) (i + 1) M wc h.sx hg (by omega)).mono fun e w' ⟨q1, q2, q3⟩ => ⟨q1, q2, (But.of_below b h.below).trans q3⟩
  have H0 := rhide (pw_new hM f (i : Int))
  have hw : wrap64 ((i : Int) + 1) = (i : Int) + 1 := by unfold wrap64; omega
  clear hM hg
  generalize stW N M f 8 ((i + 1 : Nat) : Int) = M1 at HE ⊢
  go_enter Tryd.func18, Tryd.ntmps18
  go_wp2_with (first
    | (go_at_call 34; refine (HE.out _ H0.out).mono ?_; rintro e2 w2 ⟨rfl, hw⟩; have H2 := rhide hw; clear hw HE H0)
    | fail)
  go_ret
  exact ⟨rfl, H2.out⟩
set_option maxRecDepth 100000 in
theorem uncover_any (p b N : Nat) (f : Int) (i : Nat) (M : Nat → Nat → Int) (w : World) (hM : Sx w p b N M) (hg : gtE N M f = 0) (hi : i ≤ 6) :
    Calls Tryd.prog 22 #[.agg #[.pointer (some ⟨p, 0, none⟩), .int .i64 f, .int .i64 (i : Int)]] w fun e w' => e = .returned (.int .i64 0) ∧ Sx w' p b N (stW N M f 8 (i : Int)) ∧ But b w w' := by
  have HE : Hid (∀ wc, Pw w wc p b N f (i : Int) M → Calls Tryd.prog 34 #[.agg #[.pointer (some ⟨p, 0, none⟩), .int .i64 f, .int .i64 (i : Int)], .int .i64 (i : Int)] wc fun e w' => e = .returned (.int .i64 0) ∧ Sx w' p b N (stW N M f 8 (i : Int)) ∧ But b w w') := fun wc h =>
    (end_any p b N f (i : Int) i M wc h.sx hg hi).mono fun e w' ⟨q1, q2, q3⟩ => ⟨q1, q2, (But.of_below b h.below).trans q3⟩
  have H0 := rhide (pw_new hM f (i : Int))
  clear hM hg hi
  generalize stW N M f 8 (i : Int) = M1 at HE ⊢
  generalize (i : Int) = i' at H0 HE ⊢
  go_enter Tryd.func22, Tryd.ntmps22
  go_wp2_with (first
    | (go_at_call 34; refine (HE.out _ H0.out).mono ?_; rintro e2 w2 ⟨rfl, hw⟩; have H2 := rhide hw; clear hw HE H0)
    | fail)
  go_ret
  exact ⟨rfl, H2.out⟩
end Go.Proofs.YtoipfcmjphlmfaaDoor.Pstack
