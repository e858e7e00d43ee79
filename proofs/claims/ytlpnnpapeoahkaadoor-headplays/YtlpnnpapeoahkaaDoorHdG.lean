/- Plain words on heads: which are right, their words, what Get reads of four words, what Put and Make leave in a memory. No program is named here. -/
import Derived.Test.YtlpnnpapeoahkaaDoorFldV
import Derived.Test.YtlpnnpapeoahkaaDoorMemW
namespace Go.Proofs.YtlpnnpapeoahkaaDoor
open Go.RowKit M
set_option linter.unusedVariables false

/-- When a head of kind k, of level l, frozen or not, of time t is right. -/
def Rt (k l : Int) (z : Bool) (t : Int) : Prop :=
  0 ≤ k ∧ k ≤ 6 ∧ 0 ≤ l ∧ l ≤ 1 ∧ (l = 1 → k = 1 ∨ k = 2) ∧ (z = true → k = 1) ∧ 0 ≤ t ∧ t ≤ 1073741824 ∧ (z = false → t = 0)
/-- Is it right? -/
def rtB (k l : Int) (z : Bool) (t : Int) : Bool :=
  decide (0 ≤ k) && decide (k ≤ 6) && decide (0 ≤ l) && decide (l ≤ 1) && (decide (l ≠ 1) || decide (k = 1 ∨ k = 2)) && (!z || decide (k = 1)) && decide (0 ≤ t) && decide (t ≤ 1073741824) && (z || decide (t = 0))
theorem rtB_iff (k l : Int) (z : Bool) (t : Int) : rtB k l z t = true ↔ Rt k l z t := by
  unfold rtB Rt
  cases z
  · simp
    omega
  · simp
    omega
theorem rtB_yes {k l t : Int} {z : Bool} (h : Rt k l z t) : rtB k l z t = true := (rtB_iff k l z t).2 h
theorem rtB_no {k l t : Int} {z : Bool} (h : ¬ Rt k l z t) : rtB k l z t = false := Bool.eq_false_iff.2 fun e => h ((rtB_iff k l z t).1 e)
/-- What Check answers. -/
def chk (k l : Int) (z : Bool) (t : Int) : Int := if rtB k l z t = true then 0 else 1
theorem chk_yes {k l t : Int} {z : Bool} (h : Rt k l z t) : chk k l z t = 0 := by unfold chk; rw [if_pos (rtB_yes h)]
theorem chk_no {k l t : Int} {z : Bool} (h : ¬ Rt k l z t) : chk k l z t = 1 := by unfold chk; rw [rtB_no h]; rfl

/-! ### words -/
/-- The widths of the first word's parts. -/
def ws : List Int := [4, 1, 1]
theorem ws_length : ws.length = 3 := rfl
def bz : Bool → Int
  | true => 1
  | false => 0
/-- The first word of one. -/
def wd0 (k l : Int) (z : Bool) : Int := packF ws [k, l, bz z]
theorem mask4 : maskF 4 = 15 := by decide
theorem mask1 : maskF 1 = 1 := by decide
theorem put_can {k l t : Int} {z : Bool} (h : Rt k l z t) : (∀ j : Nat, 0 ≤ [k, l, bz z][j]?.getD 0 ∧ [k, l, bz z][j]?.getD 0 ≤ 18446744073709551615) ∧ ∀ j, j < ws.length → okP ws [k, l, bz z] j = true := by
  have hz : 0 ≤ bz z ∧ bz z ≤ 1 := by cases z <;> simp [bz]
  generalize bz z = b at hz
  unfold Rt at h
  constructor
  · intro j
    match j with
    | 0 | 1 | 2 => simp; omega
    | j + 3 => simp
  · intro j hj
    match j, hj with
    | 0, _ | 1, _ | 2, _ =>
      simp [okP, inB, fitsB, mask4, mask1, sumTo, ws, wrap64]
      omega
/-- The j-th part of a word. -/
def gN (x : Int) (j : Nat) : Int := (getsI x ws)[j]?.getD 0
theorem gN_bd {x : Int} (hx : 0 ≤ x ∧ x ≤ 18446744073709551615) (h : canU x ws) : (0 ≤ gN x 0 ∧ gN x 0 ≤ 15) ∧ (0 ≤ gN x 1 ∧ gN x 1 ≤ 1) ∧ (0 ≤ gN x 2 ∧ gN x 2 ≤ 1) := by
  obtain ⟨h1, h2, _⟩ := unpack_pack hx h
  have m0 := (ok_parts (h2 0 (by decide))).2
  have m1 := (ok_parts (h2 1 (by decide))).2
  have m2 := (ok_parts (h2 2 (by decide))).2
  rw [show ws[0]?.getD 0 = 4 from rfl, fitsB, mask4, decide_eq_true_eq] at m0
  rw [show ws[1]?.getD 0 = 1 from rfl, fitsB, mask1, decide_eq_true_eq] at m1
  rw [show ws[2]?.getD 0 = 1 from rfl, fitsB, mask1, decide_eq_true_eq] at m2
  exact ⟨⟨(h1 0).1, m0⟩, ⟨(h1 1).1, m1⟩, ⟨(h1 2).1, m2⟩⟩
theorem bz_back {n : Int} (h : 0 ≤ n ∧ n ≤ 1) : bz (n == 1) = n := by
  rcases (show n = 0 ∨ n = 1 by omega) with rfl | rfl <;> rfl
/-- The parts of a word make just that word. -/
theorem wd0_back {x : Int} (hx : 0 ≤ x ∧ x ≤ 18446744073709551615) (h : canU x ws) : wd0 (gN x 0) (gN x 1) (gN x 2 == 1) = x := by
  unfold wd0
  rw [bz_back (gN_bd hx h).2.2]
  have hl := getsI_length x ws
  have he : getsI x ws = [gN x 0, gN x 1, gN x 2] := by
    unfold gN
    generalize getsI x ws = l at hl
    match l, hl with
    | [v0, v1, v2], _ => rfl
  have := (unpack_pack hx h).2.2
  rwa [he] at this
theorem wd0_bd {k l t : Int} {z : Bool} (h : Rt k l z t) : 0 ≤ wd0 k l z ∧ wd0 k l z ≤ 18446744073709551615 :=
  (pack_unpack (zs := ws) (vs := [k, l, bz z]) rfl (put_can h).1 (put_can h).2).1

/-! ### what four words say -/
/-- The four words are some right head's. -/
def Got (x y u v : Int) : Prop := canU x ws ∧ y ≤ 1073741824 ∧ u = 0 ∧ v = 0 ∧ Rt (gN x 0) (gN x 1) (gN x 2 == 1) y
def gotB (x y u v : Int) : Bool := (List.range ws.length).all (okU ws) && fitsB x (sumTo ws ws.length) && decide (y ≤ 1073741824) && decide (u = 0) && decide (v = 0) && rtB (gN x 0) (gN x 1) (gN x 2 == 1) y
theorem gotB_iff (x y u v : Int) : gotB x y u v = true ↔ Got x y u v := by
  unfold gotB Got canU
  simp only [Bool.and_eq_true, decide_eq_true_eq, rtB_iff, List.all_eq_true, List.mem_range, and_assoc]
theorem gotB_yes {x y u v : Int} (h : Got x y u v) : gotB x y u v = true := (gotB_iff x y u v).2 h
theorem gotB_no {x y u v : Int} (h : ¬ Got x y u v) : gotB x y u v = false := Bool.eq_false_iff.2 fun e => h ((gotB_iff x y u v).1 e)
def getK (x y u v : Int) : Int := if gotB x y u v = true then gN x 0 else 0
def getL (x y u v : Int) : Int := if gotB x y u v = true then gN x 1 else 0
def getZ (x y u v : Int) : Bool := gotB x y u v && (gN x 2 == 1)
def getT (x y u v : Int) : Int := if gotB x y u v = true then y else 0
def getE (x y u v : Int) : Int := if gotB x y u v = true then 0 else 12
theorem hget_no {x y u v : Int} (h : ¬ Got x y u v) : getK x y u v = 0 ∧ getL x y u v = 0 ∧ getZ x y u v = false ∧ getT x y u v = 0 ∧ getE x y u v = 12 := by simp [getK, getL, getZ, getT, getE, gotB_no h]
theorem hget_yes {x y u v : Int} (h : Got x y u v) : getK x y u v = gN x 0 ∧ getL x y u v = gN x 1 ∧ getZ x y u v = (gN x 2 == 1) ∧ getT x y u v = y ∧ getE x y u v = 0 := by simp [getK, getL, getZ, getT, getE, gotB_yes h]
/-- What is put is got. -/
theorem got_back {k l t : Int} {z : Bool} (h : Rt k l z t) : getK (wd0 k l z) t 0 0 = k ∧ getL (wd0 k l z) t 0 0 = l ∧ getZ (wd0 k l z) t 0 0 = z ∧ getT (wd0 k l z) t 0 0 = t ∧ getE (wd0 k l z) t 0 0 = 0 := by
  obtain ⟨hb, hc, hg⟩ := pack_unpack (zs := ws) (vs := [k, l, bz z]) rfl (put_can h).1 (put_can h).2
  change canU (wd0 k l z) ws at hc
  change getsI (wd0 k l z) ws = _ at hg
  generalize wd0 k l z = x at hc hg
  have g0 : gN x 0 = k := by unfold gN; rw [hg]; rfl
  have g1 : gN x 1 = l := by unfold gN; rw [hg]; rfl
  have g2 : (gN x 2 == 1) = z := by unfold gN; rw [hg]; cases z <;> rfl
  have hG : Got x t 0 0 := ⟨hc, by unfold Rt at h; omega, rfl, rfl, by rw [g0, g1, g2]; exact h⟩
  obtain ⟨e0, e1, e2, e3, e4⟩ := hget_yes hG
  exact ⟨e0.trans g0, e1.trans g1, e2.trans g2, e3, e4⟩

/-! ### in a memory -/
/-- What Get answers of frame f. -/
def ghK (N : Nat) (M : Nat → Nat → Int) (f : Int) : Int := if okF N f = true then getK (M f.toNat 0) (M f.toNat 1) (M f.toNat 2) (M f.toNat 3) else 0
def ghL (N : Nat) (M : Nat → Nat → Int) (f : Int) : Int := if okF N f = true then getL (M f.toNat 0) (M f.toNat 1) (M f.toNat 2) (M f.toNat 3) else 0
def ghZ (N : Nat) (M : Nat → Nat → Int) (f : Int) : Bool := okF N f && getZ (M f.toNat 0) (M f.toNat 1) (M f.toNat 2) (M f.toNat 3)
def ghT (N : Nat) (M : Nat → Nat → Int) (f : Int) : Int := if okF N f = true then getT (M f.toNat 0) (M f.toNat 1) (M f.toNat 2) (M f.toNat 3) else 0
def ghE (N : Nat) (M : Nat → Nat → Int) (f : Int) : Int := if okF N f = true then getE (M f.toNat 0) (M f.toNat 1) (M f.toNat 2) (M f.toNat 3) else 1
/-- What Is answers. -/
def isE (N : Nat) (M : Nat → Nat → Int) (f q : Int) : Int := if ghE N M f = 0 then (if ghK N M f = q then 0 else 4) else ghE N M f
/-- Four words stored. -/
def st4 (N : Nat) (M : Nat → Nat → Int) (f a b c d : Int) : Nat → Nat → Int := stM N (stM N (stM N (stM N M f 0 a) f 1 b) f 2 c) f 3 d
/-- The words behind Put, behind Make; their error. -/
def putM (N : Nat) (M : Nat → Nat → Int) (f k l : Int) (z : Bool) (t : Int) : Nat → Nat → Int := if rtB k l z t = true then st4 N M f (wd0 k l z) t 0 0 else M
def mkM (N : Nat) (M : Nat → Nat → Int) (f k l : Int) (z : Bool) (t : Int) : Nat → Nat → Int := if rtB k l z t = true then st4 N (clM N M f) f (wd0 k l z) t 0 0 else M
def errP (N : Nat) (f k l : Int) (z : Bool) (t : Int) : Int := if rtB k l z t = true then errF N f else 1
theorem errW_low {N : Nat} {f : Int} {a : Int} (h0 : 0 ≤ a) (h1 : a < 36) : errW N f a = errF N f := by
  have : okW N f a = okF N f := by simp [okW, h0, h1]
  simp [errW, errF, this]
/-- All words are words. -/
def Fit (M : Nat → Nat → Int) : Prop := ∀ f a, 0 ≤ M f a ∧ M f a ≤ 18446744073709551615
theorem Fit.zero : Fit fun _ _ => 0 := fun _ _ => ⟨Int.le_refl _, by show (0 : Int) ≤ _; decide⟩
theorem Fit.st {M : Nat → Nat → Int} (h : Fit M) (N : Nat) (f a v : Int) (hv : 0 ≤ v ∧ v ≤ 18446744073709551615) : Fit (stM N M f a v) := by
  intro g b
  unfold stM
  split
  · dsimp only
    split
    · exact hv
    · exact h g b
  · exact h g b
theorem Fit.cl {M : Nat → Nat → Int} (h : Fit M) (N : Nat) (f : Int) : Fit (clM N M f) := by
  intro g b
  unfold clM
  split
  · dsimp only
    split
    · omega
    · exact h g b
  · exact h g b
theorem Fit.st4 {M : Nat → Nat → Int} (h : Fit M) (N : Nat) (f k l : Int) (z : Bool) (t : Int) (hr : Rt k l z t) : Fit (st4 N M f (wd0 k l z) t 0 0) :=
  (((h.st N f 0 _ (wd0_bd hr)).st N f 1 t (by unfold Rt at hr; omega)).st N f 2 0 (by omega)).st N f 3 0 (by omega)
theorem Fit.put {M : Nat → Nat → Int} (h : Fit M) (N : Nat) (f k l : Int) (z : Bool) (t : Int) : Fit (putM N M f k l z t) := by
  unfold putM
  split
  · rename_i hr
    exact h.st4 N f k l z t ((rtB_iff k l z t).1 hr)
  · exact h
theorem Fit.mk {M : Nat → Nat → Int} (h : Fit M) (N : Nat) (f k l : Int) (z : Bool) (t : Int) : Fit (mkM N M f k l z t) := by
  unfold mkM
  split
  · rename_i hr
    exact (h.cl N f).st4 N f k l z t ((rtB_iff k l z t).1 hr)
  · exact h
/-- The words of a frame behind four stores. -/
theorem st4_own {N : Nat} {M : Nat → Nat → Int} {f : Nat} (hf : f < N) (a b c d : Int) (j : Nat) : st4 N M f a b c d f j = if j = 0 then a else if j = 1 then b else if j = 2 then c else if j = 3 then d else M f j := by
  have h0 : okW N (f : Int) 0 = true := by simp [okW, okF]; omega
  have h1 : okW N (f : Int) 1 = true := by simp [okW, okF]; omega
  have h2 : okW N (f : Int) 2 = true := by simp [okW, okF]; omega
  have h3 : okW N (f : Int) 3 = true := by simp [okW, okF]; omega
  simp only [st4, stM, h0, h1, h2, h3, if_true, Int.toNat_natCast, true_and]
  simp only [show (0 : Int).toNat = 0 from rfl, show (1 : Int).toNat = 1 from rfl, show (2 : Int).toNat = 2 from rfl, show (3 : Int).toNat = 3 from rfl]
  match j with
  | 0 | 1 | 2 | 3 => simp
  | j + 4 => simp
theorem st4_other {N : Nat} {M : Nat → Nat → Int} {f : Int} {g j : Nat} (h : (g : Int) ≠ f ∨ 4 ≤ j) (a b c d : Int) : st4 N M f a b c d g j = M g j := by
  have one : ∀ (M : Nat → Nat → Int) (i v : Int), 0 ≤ i → i < 4 → stM N M f i v g j = M g j := by
    intro M i v hi0 hi
    unfold stM
    split
    · rename_i hok
      have : 0 ≤ f := by simp [okW, okF] at hok; omega
      dsimp only
      rw [if_neg]
      rintro ⟨e1, e2⟩
      rcases h with h | h <;> omega
    · rfl
  unfold st4
  rw [one _ 3 d (by omega) (by omega), one _ 2 c (by omega) (by omega), one _ 1 b (by omega) (by omega), one _ 0 a (by omega) (by omega)]
end Go.Proofs.YtlpnnpapeoahkaaDoor
