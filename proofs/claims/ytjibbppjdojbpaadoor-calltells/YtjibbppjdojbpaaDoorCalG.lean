/- Plain words on calls: what they need, which are right, their words, their texts (written by mk_g.py). No program is named here. -/
import Derived.Test.YtjibbppjdojbpaaDoorBunBase
import Derived.Test.YtjibbppjdojbpaaDoorBunField
import Derived.Laws.Strings
namespace Go.Proofs.YtjibbppjdojbpaaDoor.Pcall
open Go.Proofs.YtjibbppjdojbpaaDoor.Pbase Go.Proofs.YtjibbppjdojbpaaDoor.Pfield
open Go.RowKit M
set_option linter.unusedVariables false

/-! ### what is needed -/
def ndL : List Int := [0, 3, 2, 3, 3, 5, 5, 3, 4, 3, 2, 1, 4, 2, 3, 2, 1, 3, 2, 4, 2, 5, 1, 0, 1, 4, 1, 1, 3, 3]
def ndI (n : Int) : Int := if 0 ≤ n ∧ n ≤ 29 then ndL[n.toNat]?.getD 0 else 0
theorem ndI_no {n : Int} (h : ¬ (0 ≤ n ∧ n ≤ 29)) : ndI n = 0 := by unfold ndI; rw [if_neg h]
theorem ndI_at {k : Nat} (h : k ≤ 29) : ndI (k : Int) = ndL[k]?.getD 0 := by
  unfold ndI
  rw [if_pos (by omega), Int.toNat_natCast]
theorem ndL_bd : ∀ k, k ≤ 29 → 0 ≤ ndL[k]?.getD 0 ∧ ndL[k]?.getD 0 ≤ 5 := by decide
theorem nd_bd (n : Int) : 0 ≤ ndI n ∧ ndI n ≤ 5 := by
  unfold ndI
  split
  · rename_i h
    exact ndL_bd n.toNat (by omega)
  · omega
/-! ### texts -/
def wsL : List ByteArray := [⟨#[110, 117, 108, 108]⟩, ⟨#[116, 121, 112, 101]⟩, ⟨#[117, 110, 116, 121, 112, 101]⟩, ⟨#[116, 98, 108]⟩, ⟨#[112, 103, 116]⟩, ⟨#[99, 111, 109, 112]⟩, ⟨#[116, 104, 100]⟩, ⟨#[116, 99, 97, 112]⟩, ⟨#[114, 99, 118]⟩, ⟨#[99, 111, 110, 115]⟩, ⟨#[100, 101, 99, 111, 110, 115]⟩, ⟨#[102, 114, 101, 101, 122, 101]⟩, ⟨#[99, 111, 112, 121]⟩, ⟨#[100, 114, 111, 112]⟩, ⟨#[105, 110, 118]⟩, ⟨#[115, 110, 100]⟩, ⟨#[107, 105, 108, 108]⟩, ⟨#[112, 99, 111, 110, 115]⟩, ⟨#[112, 100, 101, 99, 111, 110]⟩, ⟨#[109, 97, 112]⟩, ⟨#[117, 110, 109, 97, 112]⟩, ⟨#[112, 99, 111, 112, 121]⟩, ⟨#[99, 97, 108, 108]⟩, ⟨#[114, 101, 116]⟩, ⟨#[115, 119, 105, 116, 99, 104]⟩, ⟨#[103, 105, 118, 101]⟩, ⟨#[115, 101, 110, 100]⟩, ⟨#[114, 101, 99, 118]⟩, ⟨#[108, 105, 110, 101]⟩, ⟨#[104, 97, 110, 100]⟩]
def noT : ByteArray := ⟨#[]⟩
def wdT (n : Int) : ByteArray := if 0 ≤ n ∧ n ≤ 29 then wsL[n.toNat]?.getD noT else noT
theorem wdT_no {n : Int} (h : ¬ (0 ≤ n ∧ n ≤ 29)) : wdT n = noT := by unfold wdT; rw [if_neg h]
theorem wdT_at {k : Nat} (h : k ≤ 29) : wdT (k : Int) = wsL[k]?.getD noT := by
  unfold wdT
  rw [if_pos (by omega), Int.toNat_natCast]
theorem same_text (x : ByteArray) : (x.toList == x.toList) = true := by simp
def nuN (s : ByteArray) : Nat := wsL.findIdx fun t => t.toList == s.toList
def nuB (s : ByteArray) : Bool := decide (nuN s < 30)
def nuI (s : ByteArray) : Int := if nuB s = true then nuN s else 0
theorem wsL_len : wsL.length = 30 := rfl
theorem nu_hit {s : ByteArray} {k : Nat} (hk : k < 30) (h : ((wsL[k]?.getD noT).toList == s.toList) = true) (hb : ∀ j, j < k → ((wsL[j]?.getD noT).toList == s.toList) = false) : nuB s = true ∧ nuI s = k := by
  have hk' : k < wsL.length := by rw [wsL_len]; exact hk
  have e : nuN s = k := by
    refine (List.findIdx_eq hk').2 ⟨?_, fun j hj => ?_⟩
    · rw [List.getElem?_eq_getElem hk', Option.getD_some] at h
      exact h
    · have := hb j hj
      rw [List.getElem?_eq_getElem (by omega), Option.getD_some] at this
      exact this
  have e1 : nuB s = true := by unfold nuB; rw [e]; exact decide_eq_true hk
  exact ⟨e1, by unfold nuI; rw [if_pos e1, e]⟩
theorem nu_miss {s : ByteArray} (hb : ∀ j, j < 30 → ((wsL[j]?.getD noT).toList == s.toList) = false) : nuB s = false ∧ nuI s = 0 := by
  have e : nuN s = wsL.length := by
    refine List.findIdx_eq_length.2 fun x hx => ?_
    obtain ⟨j, hj, rfl⟩ := List.getElem_of_mem hx
    have := hb j (by rw [wsL_len] at hj; exact hj)
    rw [List.getElem?_eq_getElem hj, Option.getD_some] at this
    exact this
  have e1 : nuB s = false := by unfold nuB; rw [e, wsL_len]; rfl
  exact ⟨e1, by unfold nuI; rw [e1]; rfl⟩
set_option maxRecDepth 100000 in
theorem apart_data : ∀ k, k < 30 → ∀ j, j < k → ((wsL[j]?.getD noT).data.toList == (wsL[k]?.getD noT).data.toList) = false := by decide
theorem apart_texts (k : Nat) (hk : k < 30) (j : Nat) (hj : j < k) : ((wsL[j]?.getD noT).toList == (wsL[k]?.getD noT).toList) = false := by
  rw [ByteArray.toList_eq, ByteArray.toList_eq]
  exact apart_data k hk j hj
/-- Each call has its own text. -/
theorem nu_wd {n : Int} (h : 0 ≤ n ∧ n ≤ 29) : nuB (wdT n) = true ∧ nuI (wdT n) = n := by
  obtain ⟨k, rfl⟩ : ∃ k : Nat, n = k := ⟨n.toNat, by omega⟩
  have hk : k < 30 := by omega
  rw [wdT_at (by omega)]
  exact nu_hit hk (same_text _) fun j hj => apart_texts k hk j hj
/-! ### calls -/
structure Cl where
  n : Int
  a : Int
  b : Int
  c : Int
  d : Int
  e : Int
def cl0 : Cl := ⟨0, 0, 0, 0, 0, 0⟩
def Cl.v (x : Cl) : Nat → Int
  | 0 => x.a
  | 1 => x.b
  | 2 => x.c
  | 3 => x.d
  | 4 => x.e
  | _ => 0
def I64 (x : Int) : Prop := -9223372036854775808 ≤ x ∧ x ≤ 9223372036854775807
def Fc (x : Cl) : Prop := I64 x.n ∧ I64 x.a ∧ I64 x.b ∧ I64 x.c ∧ I64 x.d ∧ I64 x.e
def mxI : Nat → Int
  | 0 => 255
  | 1 => 65535
  | 2 => 65535
  | 3 => 255
  | 4 => 255
  | _ => 0
def okB (x : Cl) (i : Nat) : Bool := (decide (0 ≤ x.v i) && decide (x.v i ≤ mxI i)) && (decide ((i : Int) < ndI x.n) || decide (x.v i = 0))
theorem okB_iff (x : Cl) (i : Nat) : okB x i = true ↔ (0 ≤ x.v i ∧ x.v i ≤ mxI i) ∧ ((i : Int) < ndI x.n ∨ x.v i = 0) := by
  unfold okB
  simp only [Bool.and_eq_true, Bool.or_eq_true, decide_eq_true_eq]
def rnB (x : Cl) : Bool := decide (0 ≤ x.n) && decide (x.n ≤ 29)
theorem rnB_iff (x : Cl) : rnB x = true ↔ 0 ≤ x.n ∧ x.n ≤ 29 := by
  unfold rnB
  simp only [Bool.and_eq_true, decide_eq_true_eq]
def rcB (x : Cl) : Bool := rnB x && (okB x 0 && okB x 1 && okB x 2 && okB x 3 && okB x 4)
theorem rcB_iff (x : Cl) : rcB x = true ↔ (0 ≤ x.n ∧ x.n ≤ 29) ∧ ∀ i, i < 5 → okB x i = true := by
  unfold rcB
  rw [Bool.and_eq_true, rnB_iff]
  simp only [Bool.and_eq_true]
  constructor
  · rintro ⟨h, ⟨⟨⟨h0, h1⟩, h2⟩, h3⟩, h4⟩
    refine ⟨h, fun i hi => ?_⟩
    rcases (show i = 0 ∨ i = 1 ∨ i = 2 ∨ i = 3 ∨ i = 4 by omega) with rfl | rfl | rfl | rfl | rfl <;> assumption
  · rintro ⟨h, h'⟩
    exact ⟨h, ⟨⟨⟨h' 0 (by omega), h' 1 (by omega)⟩, h' 2 (by omega)⟩, h' 3 (by omega)⟩, h' 4 (by omega)⟩
theorem rcB_n {x : Cl} (h : ¬ (0 ≤ x.n ∧ x.n ≤ 29)) : rcB x = false := Bool.eq_false_iff.2 fun e => h ((rcB_iff x).1 e).1
theorem rcB_i {x : Cl} {i : Nat} (hi : i < 5) (h : okB x i = false) : rcB x = false := Bool.eq_false_iff.2 fun e => by rw [((rcB_iff x).1 e).2 i hi] at h; cases h
/-- The parts of a right one. -/
theorem rc_bd {x : Cl} (h : rcB x = true) : (0 ≤ x.n ∧ x.n ≤ 29) ∧ (0 ≤ x.a ∧ x.a ≤ 255) ∧ (0 ≤ x.b ∧ x.b ≤ 65535) ∧ (0 ≤ x.c ∧ x.c ≤ 65535) ∧ (0 ≤ x.d ∧ x.d ≤ 255) ∧ (0 ≤ x.e ∧ x.e ≤ 255) := by
  obtain ⟨h0, h1⟩ := (rcB_iff x).1 h
  exact ⟨h0, ((okB_iff x 0).1 (h1 0 (by omega))).1, ((okB_iff x 1).1 (h1 1 (by omega))).1, ((okB_iff x 2).1 (h1 2 (by omega))).1, ((okB_iff x 3).1 (h1 3 (by omega))).1, ((okB_iff x 4).1 (h1 4 (by omega))).1⟩
def kcE (x : Cl) : Int := if rcB x = true then 0 else 1
theorem kc_yes {x : Cl} (h : rcB x = true) : kcE x = 0 := by unfold kcE; rw [if_pos h]
theorem kc_no {x : Cl} (h : rcB x = false) : kcE x = 1 := by unfold kcE; rw [h]; rfl
/-! ### words -/
def wl : List Int := [8, 8, 16, 16, 8, 8]
def Cl.l (x : Cl) : List Int := [x.n, x.a, x.b, x.c, x.d, x.e]
def wd (x : Cl) : Int := packF wl x.l
theorem mask8 : maskF 8 = 255 := by decide
theorem mask16 : maskF 16 = 65535 := by decide
theorem mask64 : maskF 64 = 18446744073709551615 := by decide
theorem put_can {x : Cl} (h : rcB x = true) : (∀ j : Nat, 0 ≤ x.l[j]?.getD 0 ∧ x.l[j]?.getD 0 ≤ 18446744073709551615) ∧ ∀ j, j < wl.length → okP wl x.l j = true := by
  obtain ⟨h0, h1, h2, h3, h4, h5⟩ := rc_bd h
  constructor
  · intro j
    match j with
    | 0 | 1 | 2 | 3 | 4 | 5 => simp [Cl.l]; omega
    | j + 6 => simp [Cl.l]
  · intro j hj
    match j, hj with
    | 0, _ | 1, _ | 2, _ | 3, _ | 4, _ | 5, _ =>
      simp [okP, inB, fitsB, mask8, mask16, sumTo, wl, Cl.l, wrap64]
      omega
theorem all_can {w : Int} (hw : 0 ≤ w ∧ w ≤ 18446744073709551615) : canU w wl := by
  refine ⟨fun j hj => ?_, ?_⟩
  · match j, hj with
    | 0, _ | 1, _ | 2, _ | 3, _ | 4, _ | 5, _ => simp [okU, inB, sumTo, wl, wrap64]
  have : sumTo wl wl.length = 64 := by simp [sumTo, wl, wrap64]
  rw [this, fitsB, mask64]
  exact decide_eq_true hw.2
def gN (w : Int) (j : Nat) : Int := (getsI w wl)[j]?.getD 0
def gC (w : Int) : Cl := ⟨gN w 0, gN w 1, gN w 2, gN w 3, gN w 4, gN w 5⟩
theorem gC_l (w : Int) : getsI w wl = (gC w).l := by
  have hl := getsI_length w wl
  unfold Cl.l gC gN
  generalize getsI w wl = l at hl
  match l, hl with
  | [v0, v1, v2, v3, v4, v5], _ => rfl
theorem gN_bd {w : Int} (hw : 0 ≤ w ∧ w ≤ 18446744073709551615) : (0 ≤ gN w 0 ∧ gN w 0 ≤ 255) ∧ (0 ≤ gN w 1 ∧ gN w 1 ≤ 255) ∧ (0 ≤ gN w 2 ∧ gN w 2 ≤ 65535) ∧ (0 ≤ gN w 3 ∧ gN w 3 ≤ 65535) ∧ (0 ≤ gN w 4 ∧ gN w 4 ≤ 255) ∧ (0 ≤ gN w 5 ∧ gN w 5 ≤ 255) := by
  obtain ⟨h1, h2, _⟩ := unpack_pack hw (all_can hw)
  have m0 := (ok_parts (h2 0 (by decide))).2
  rw [show wl[0]?.getD 0 = 8 from rfl, fitsB, mask8, decide_eq_true_eq] at m0
  have m1 := (ok_parts (h2 1 (by decide))).2
  rw [show wl[1]?.getD 0 = 8 from rfl, fitsB, mask8, decide_eq_true_eq] at m1
  have m2 := (ok_parts (h2 2 (by decide))).2
  rw [show wl[2]?.getD 0 = 16 from rfl, fitsB, mask16, decide_eq_true_eq] at m2
  have m3 := (ok_parts (h2 3 (by decide))).2
  rw [show wl[3]?.getD 0 = 16 from rfl, fitsB, mask16, decide_eq_true_eq] at m3
  have m4 := (ok_parts (h2 4 (by decide))).2
  rw [show wl[4]?.getD 0 = 8 from rfl, fitsB, mask8, decide_eq_true_eq] at m4
  have m5 := (ok_parts (h2 5 (by decide))).2
  rw [show wl[5]?.getD 0 = 8 from rfl, fitsB, mask8, decide_eq_true_eq] at m5
  exact ⟨⟨(h1 0).1, m0⟩, ⟨(h1 1).1, m1⟩, ⟨(h1 2).1, m2⟩, ⟨(h1 3).1, m3⟩, ⟨(h1 4).1, m4⟩, ⟨(h1 5).1, m5⟩⟩
theorem wd_back {w : Int} (hw : 0 ≤ w ∧ w ≤ 18446744073709551615) : wd (gC w) = w := by
  unfold wd
  rw [← gC_l]
  exact (unpack_pack hw (all_can hw)).2.2
theorem wd_bd {x : Cl} (h : rcB x = true) : 0 ≤ wd x ∧ wd x ≤ 18446744073709551615 := (pack_unpack (zs := wl) (vs := x.l) rfl (put_can h).1 (put_can h).2).1
theorem gC_wd {x : Cl} (h : rcB x = true) : gC (wd x) = x := by
  have := (pack_unpack (zs := wl) (vs := x.l) rfl (put_can h).1 (put_can h).2).2.2
  change getsI (wd x) wl = x.l at this
  unfold gC gN
  rw [this]
  rfl
def putW (x : Cl) : Int := if rcB x = true then wd x else 0
theorem putW_yes {x : Cl} (h : rcB x = true) : putW x = wd x := by unfold putW; rw [if_pos h]
theorem putW_no {x : Cl} (h : rcB x = false) : putW x = 0 := by unfold putW; rw [h]; rfl
theorem putW_bd (x : Cl) : 0 ≤ putW x ∧ putW x ≤ 18446744073709551615 := by
  unfold putW
  split
  · rename_i h
    exact wd_bd h
  · omega
def getE (w : Int) : Int := if rcB (gC w) = true then 0 else 12
def getC (w : Int) : Cl := if rcB (gC w) = true then gC w else cl0
theorem get_yes {w : Int} (h : rcB (gC w) = true) : getE w = 0 ∧ getC w = gC w := by unfold getE getC; rw [if_pos h, if_pos h]; exact ⟨rfl, rfl⟩
theorem get_no {w : Int} (h : rcB (gC w) = false) : getE w = 12 ∧ getC w = cl0 := by unfold getE getC; rw [h]; exact ⟨rfl, rfl⟩
/-- What is put is got. -/
theorem got_back {x : Cl} (h : rcB x = true) : getE (putW x) = 0 ∧ getC (putW x) = x := by
  rw [putW_yes h]
  have := get_yes (w := wd x) (by rw [gC_wd h]; exact h)
  rw [gC_wd h] at this
  exact this
/-- What is got is put. -/
theorem put_back {w : Int} (hw : 0 ≤ w ∧ w ≤ 18446744073709551615) (h : getE w = 0) : kcE (getC w) = 0 ∧ putW (getC w) = w := by
  by_cases hr : rcB (gC w) = true
  · rw [(get_yes hr).2]
    exact ⟨kc_yes hr, by rw [putW_yes hr, wd_back hw]⟩
  · rw [(get_no (Bool.eq_false_iff.2 hr)).1] at h
    cases h
theorem gC_fc {w : Int} (hw : 0 ≤ w ∧ w ≤ 18446744073709551615) : Fc (gC w) := by
  obtain ⟨h0, h1, h2, h3, h4, h5⟩ := gN_bd hw
  unfold Fc I64 gC
  dsimp only
  omega
theorem getC_fc {w : Int} (hw : 0 ≤ w ∧ w ≤ 18446744073709551615) : Fc (getC w) := by
  unfold getC
  split
  · exact gC_fc hw
  · unfold Fc I64 cl0
    dsimp only
    omega
end Go.Proofs.YtjibbppjdojbpaaDoor.Pcall
