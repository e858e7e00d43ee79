/- Plain words on mappings' words: what is put, what a word says. No program is named here. -/
import Derived.Test.YthmbipcfmciolaaDoorPteF
import Derived.Test.YthmbipcfmciolaaDoorBunField
namespace Go.Proofs.YthmbipcfmciolaaDoor.Ppte
open Go.Proofs.YthmbipcfmciolaaDoor.Pbase Go.Proofs.YthmbipcfmciolaaDoor.Pfield
open Go.RowKit M
set_option linter.unusedVariables false

/-! ### words -/
def ws : List Int := [1, 6, 2, 31]
theorem ws_length : ws.length = 4 := rfl
def bz : Bool → Int
  | true => 1
  | false => 0
theorem mask1 : maskF 1 = 1 := by decide
theorem mask6 : maskF 6 = 63 := by decide
theorem mask2 : maskF 2 = 3 := by decide
theorem mask31 : maskF 31 = 2147483647 := by decide
/-- The word of one. -/
def wd (o : Bool) (f r t : Int) : Int := packF ws [bz o, f, r, t]
theorem put_can {o : Bool} {f r t : Int} (h : Rt o f r t) : (∀ j : Nat, 0 ≤ [bz o, f, r, t][j]?.getD 0 ∧ [bz o, f, r, t][j]?.getD 0 ≤ 18446744073709551615) ∧ ∀ j, j < ws.length → okP ws [bz o, f, r, t] j = true := by
  have hz : 0 ≤ bz o ∧ bz o ≤ 1 := by cases o <;> simp [bz]
  have hb := rt_bd h
  generalize bz o = b at hz
  constructor
  · intro j
    match j with
    | 0 | 1 | 2 | 3 => simp; omega
    | j + 4 => simp
  · intro j hj
    match j, hj with
    | 0, _ | 1, _ | 2, _ | 3, _ =>
      simp [okP, inB, fitsB, mask1, mask6, mask2, mask31, sumTo, ws, wrap64]
      omega
/-- The j-th part of a word. -/
def gN (x : Int) (j : Nat) : Int := (getsI x ws)[j]?.getD 0
theorem gN_bd {x : Int} (hx : 0 ≤ x ∧ x ≤ 18446744073709551615) (h : canU x ws) : (0 ≤ gN x 0 ∧ gN x 0 ≤ 1) ∧ (0 ≤ gN x 1 ∧ gN x 1 ≤ 63) ∧ (0 ≤ gN x 2 ∧ gN x 2 ≤ 3) ∧ (0 ≤ gN x 3 ∧ gN x 3 ≤ 2147483647) := by
  obtain ⟨h1, h2, _⟩ := unpack_pack hx h
  have m0 := (ok_parts (h2 0 (by decide))).2
  have m1 := (ok_parts (h2 1 (by decide))).2
  have m2 := (ok_parts (h2 2 (by decide))).2
  have m3 := (ok_parts (h2 3 (by decide))).2
  rw [show ws[0]?.getD 0 = 1 from rfl, fitsB, mask1, decide_eq_true_eq] at m0
  rw [show ws[1]?.getD 0 = 6 from rfl, fitsB, mask6, decide_eq_true_eq] at m1
  rw [show ws[2]?.getD 0 = 2 from rfl, fitsB, mask2, decide_eq_true_eq] at m2
  rw [show ws[3]?.getD 0 = 31 from rfl, fitsB, mask31, decide_eq_true_eq] at m3
  exact ⟨⟨(h1 0).1, m0⟩, ⟨(h1 1).1, m1⟩, ⟨(h1 2).1, m2⟩, ⟨(h1 3).1, m3⟩⟩
theorem bz_back {n : Int} (h : 0 ≤ n ∧ n ≤ 1) : bz (n == 1) = n := by
  rcases (show n = 0 ∨ n = 1 by omega) with rfl | rfl <;> rfl
/-- The parts of a word make just that word. -/
theorem wd_back {x : Int} (hx : 0 ≤ x ∧ x ≤ 18446744073709551615) (h : canU x ws) : wd (gN x 0 == 1) (gN x 1) (gN x 2) (gN x 3) = x := by
  unfold wd
  rw [bz_back (gN_bd hx h).1]
  have hl := getsI_length x ws
  have he : getsI x ws = [gN x 0, gN x 1, gN x 2, gN x 3] := by
    unfold gN
    generalize getsI x ws = l at hl
    match l, hl with
    | [v0, v1, v2, v3], _ => rfl
  have := (unpack_pack hx h).2.2
  rwa [he] at this
theorem wd_bd {o : Bool} {f r t : Int} (h : Rt o f r t) : 0 ≤ wd o f r t ∧ wd o f r t ≤ 18446744073709551615 :=
  (pack_unpack (zs := ws) (vs := [bz o, f, r, t]) rfl (put_can h).1 (put_can h).2).1
/-- What Put answers. -/
def putW (o : Bool) (f r t : Int) : Int := if rtB o f r t = true then wd o f r t else 0
theorem putW_yes {o : Bool} {f r t : Int} (h : Rt o f r t) : putW o f r t = wd o f r t := by unfold putW; rw [if_pos (rtB_yes h)]
theorem putW_no {o : Bool} {f r t : Int} (h : ¬ Rt o f r t) : putW o f r t = 0 := by unfold putW; rw [rtB_no h]; rfl

/-! ### what a word says -/
def Got (x : Int) : Prop := canU x ws ∧ Rt (gN x 0 == 1) (gN x 1) (gN x 2) (gN x 3)
def gotB (x : Int) : Bool := (List.range ws.length).all (okU ws) && fitsB x (sumTo ws ws.length) && rtB (gN x 0 == 1) (gN x 1) (gN x 2) (gN x 3)
theorem gotB_iff (x : Int) : gotB x = true ↔ Got x := by
  unfold gotB Got canU
  simp only [Bool.and_eq_true, rtB_iff, List.all_eq_true, List.mem_range]
theorem gotB_yes {x : Int} (h : Got x) : gotB x = true := (gotB_iff x).2 h
theorem gotB_no {x : Int} (h : ¬ Got x) : gotB x = false := Bool.eq_false_iff.2 fun e => h ((gotB_iff x).1 e)
def getO (x : Int) : Bool := gotB x && (gN x 0 == 1)
def getF (x : Int) : Int := if gotB x = true then gN x 1 else 0
def getR (x : Int) : Int := if gotB x = true then gN x 2 else 0
def getT (x : Int) : Int := if gotB x = true then gN x 3 else 0
def getE (x : Int) : Int := if gotB x = true then 0 else 12
theorem get_no {x : Int} (h : ¬ Got x) : getO x = false ∧ getF x = 0 ∧ getR x = 0 ∧ getT x = 0 ∧ getE x = 12 := by simp [getO, getF, getR, getT, getE, gotB_no h]
theorem get_yes {x : Int} (h : Got x) : getO x = (gN x 0 == 1) ∧ getF x = gN x 1 ∧ getR x = gN x 2 ∧ getT x = gN x 3 ∧ getE x = 0 := by simp [getO, getF, getR, getT, getE, gotB_yes h]
/-- What is put is got. -/
theorem got_back {o : Bool} {f r t : Int} (h : Rt o f r t) : getO (wd o f r t) = o ∧ getF (wd o f r t) = f ∧ getR (wd o f r t) = r ∧ getT (wd o f r t) = t ∧ getE (wd o f r t) = 0 := by
  obtain ⟨hb, hc, hg⟩ := pack_unpack (zs := ws) (vs := [bz o, f, r, t]) rfl (put_can h).1 (put_can h).2
  change canU (wd o f r t) ws at hc
  change getsI (wd o f r t) ws = _ at hg
  generalize wd o f r t = x at hc hg
  have g0 : (gN x 0 == 1) = o := by unfold gN; rw [hg]; cases o <;> rfl
  have g1 : gN x 1 = f := by unfold gN; rw [hg]; rfl
  have g2 : gN x 2 = r := by unfold gN; rw [hg]; rfl
  have g3 : gN x 3 = t := by unfold gN; rw [hg]; rfl
  have hG : Got x := ⟨hc, by rw [g0, g1, g2, g3]; exact h⟩
  obtain ⟨e0, e1, e2, e3, e4⟩ := get_yes hG
  exact ⟨e0.trans g0, e1.trans g1, e2.trans g2, e3.trans g3, e4⟩
/-- What is got is put. -/
theorem put_back {x : Int} (hx : 0 ≤ x ∧ x ≤ 18446744073709551615) (h : getE x = 0) : Rt (getO x) (getF x) (getR x) (getT x) ∧ putW (getO x) (getF x) (getR x) (getT x) = x ∧ chk (getO x) (getF x) (getR x) (getT x) = 0 := by
  by_cases hG : Got x
  · obtain ⟨e0, e1, e2, e3, e4⟩ := get_yes hG
    rw [e0, e1, e2, e3]
    exact ⟨hG.2, by rw [putW_yes hG.2]; exact wd_back hx hG.1, chk_yes hG.2⟩
  · rw [(get_no hG).2.2.2.2] at h
    cases h
end Go.Proofs.YthmbipcfmciolaaDoor.Ppte
