/- A stack told by the list of its records: what pushes, pops, new ips and looks make of it. Plain words; no program is named here. -/
import Derived.Test.YtoipfcmjphlmfaaDoorStkG
namespace Go.Proofs.YtoipfcmjphlmfaaDoor.Pstack
open Go.Proofs.YtoipfcmjphlmfaaDoor.Pbase Go.Proofs.YtoipfcmjphlmfaaDoor.Pfield Go.Proofs.YtoipfcmjphlmfaaDoor.Play Go.Proofs.YtoipfcmjphlmfaaDoor.Pmem Go.Proofs.YtoipfcmjphlmfaaDoor.Pthd
open Go.RowKit M
set_option linter.unusedVariables false

/-- Frame 0 of a memory of one frame is a thread whose records are those of L. -/
structure Stk (M : Nat → Nat → Int) (L : List Rc) : Prop where
  is : Phead.isE 1 M 0 4 = 0
  th : To (thOf M 0)
  dp : M 0 8 = (L.length : Int)
  wd : ∀ i x, L[i]? = some x → M 0 (17 + 2 * i) = rwd x ∧ M 0 (18 + 2 * i) = x.ip ∧ Ro x
theorem ok0 : okF 1 0 = true := by decide
section
variable {M : Nat → Nat → Int} {L : List Rc}
theorem Stk.gt (h : Stk M L) : gtE 1 M 0 = 0 := by
  unfold gtE
  rw [if_pos h.is, if_pos (toB_yes h.th)]
theorem Stk.dpN (h : Stk M L) : dpN M 0 = L.length := by
  unfold Pstack.dpN
  rw [show (0 : Int).toNat = 0 from rfl, h.dp]
  simp
theorem Stk.le (h : Stk M L) : L.length ≤ 6 := by
  have := (gt_dp h.gt).2.2
  rwa [h.dpN] at this
theorem Stk.rc (h : Stk M L) {i : Nat} {x : Rc} (hi : L[i]? = some x) : rcE M 0 i = 0 ∧ rcX M 0 i = x := by
  obtain ⟨h1, h2, h3⟩ := h.wd i x hi
  obtain ⟨b1, b2⟩ := rd_back h3
  unfold rcE rcX rdE rdX
  rw [show (0 : Int).toNat = 0 from rfl, h1, h2, if_pos b1, if_pos b1]
  exact ⟨rfl, b2⟩
/-- A word of a frame's that another store leaves. -/
theorem keep_is {M' : Nat → Nat → Int} (h : Stk M L) (hk : ∀ b, b < 8 → M' 0 b = M 0 b) (hd : 0 ≤ M' 0 8 ∧ M' 0 8 ≤ 6) : Phead.isE 1 M' 0 4 = 0 ∧ To (thOf M' 0) := by
  constructor
  · rw [is_words (M := M) (fun j hj => hk j (by omega)) 4]
    exact h.is
  · have ht := h.th
    unfold To thOf at ht ⊢
    rw [show (0 : Int).toNat = 0 from rfl] at ht ⊢
    dsimp only at ht ⊢
    rw [hk 4 (by omega), hk 5 (by omega), hk 6 (by omega), hk 7 (by omega)]
    omega
/-! ### All, Top -/
theorem Stk.all (h : Stk M L) : alE 1 M 0 = 0 ∧ alL 1 M 0 = L := by
  have hb : alB M 0 L.length = true := by
    unfold alB
    simp only [List.all_eq_true, List.mem_range, beq_iff_eq]
    intro i hi
    exact (h.rc (List.getElem?_eq_getElem hi)).1
  have e : alE 1 M 0 = 0 := by
    unfold alE
    rw [if_pos h.gt, h.dpN, if_pos hb]
  refine ⟨e, ?_⟩
  unfold alL
  rw [if_pos e, h.dpN]
  apply List.ext_getElem?
  intro i
  by_cases hi : i < L.length
  · rw [List.getElem?_map, List.getElem?_range hi, List.getElem?_eq_getElem hi, Option.map_some, (h.rc (List.getElem?_eq_getElem hi)).2]
  · rw [List.getElem?_eq_none (by simp; omega), List.getElem?_eq_none (by omega)]
theorem Stk.top_nil (h : Stk M []) : tpE 1 M 0 = 8 := by
  unfold tpE
  rw [if_pos h.gt, h.dpN]
  rfl
theorem Stk.top {x : Rc} (h : Stk M (L ++ [x])) : tpE 1 M 0 = 0 ∧ tpX 1 M 0 = x := by
  have hr := h.rc (i := L.length) (x := x) (by simp)
  have e : tpE 1 M 0 = 0 := by
    unfold tpE
    rw [if_pos h.gt, h.dpN, if_neg (by simp), show (L ++ [x]).length - 1 = L.length by simp]
    exact hr.1
  refine ⟨e, ?_⟩
  unfold tpX
  rw [if_pos e, h.dpN, show (L ++ [x]).length - 1 = L.length by simp]
  exact hr.2
/-! ### Push -/
theorem ps_no (N : Nat) (f : Int) {x : Rc} (hx : ¬ Ro x) : psE N M f x = 1 ∧ psM N M f x = M ∧ rkE x = 1 := by
  have e : psE N M f x = 1 := by unfold psE; rw [roB_no hx]; rfl
  refine ⟨e, ?_, ?_⟩
  · unfold psM
    rw [if_neg (by rw [e]; decide)]
  · unfold rkE
    rw [roB_no hx]
    rfl
theorem Stk.full (h : Stk M L) {x : Rc} (hx : Ro x) (hl : L.length = 6) : psE 1 M 0 x = 8 ∧ psM 1 M 0 x = M := by
  have e : psE 1 M 0 x = 8 := by
    unfold psE
    rw [if_pos (roB_yes hx), if_pos h.gt, h.dpN, if_pos hl]
  refine ⟨e, ?_⟩
  unfold psM
  rw [if_neg (by rw [e]; decide)]
theorem Stk.push (h : Stk M L) {x : Rc} (hx : Ro x) (hl : L.length < 6) : psE 1 M 0 x = 0 ∧ Stk (psM 1 M 0 x) (L ++ [x]) := by
  have e : psE 1 M 0 x = 0 := by
    unfold psE
    rw [if_pos (roB_yes hx), if_pos h.gt, h.dpN, if_neg (by omega)]
  refine ⟨e, ?_⟩
  have em : psM 1 M 0 x = stW 1 (lyR 1 M 0 L.length x) 0 8 (L.length + 1 : Nat) := by
    unfold psM
    rw [if_pos e, h.dpN]
  have hw : ∀ b, psM 1 M 0 x 0 b = if b = 8 then ((L.length + 1 : Nat) : Int) else if b = 18 + 2 * L.length then x.ip else if b = 17 + 2 * L.length then rwd x else M 0 b := by
    intro b
    rw [em, st_at ok0 (by omega)]
    unfold lyR
    rw [st_at ok0 (by omega), st_at ok0 (by omega)]
    have e1 : (18 + 2 * (L.length : Int)).toNat = 18 + 2 * L.length := by omega
    have e2 : (17 + 2 * (L.length : Int)).toNat = 17 + 2 * L.length := by omega
    rw [e1, e2]
    simp
  have d8 : psM 1 M 0 x 0 8 = ((L.length + 1 : Nat) : Int) := by rw [hw, if_pos rfl]
  obtain ⟨k1, k2⟩ := keep_is h (M' := psM 1 M 0 x) (fun b hb => by rw [hw, if_neg (by omega), if_neg (by omega), if_neg (by omega)]) (by rw [d8]; omega)
  refine ⟨k1, k2, by rw [d8]; simp, fun i y hi => ?_⟩
  by_cases hil : i < L.length
  · rw [List.getElem?_append_left hil] at hi
    obtain ⟨a1, a2, a3⟩ := h.wd i y hi
    rw [hw, hw, if_neg (by omega), if_neg (by omega), if_neg (by omega), if_neg (by omega), if_neg (by omega), if_neg (by omega)]
    exact ⟨a1, a2, a3⟩
  · have hil' : i = L.length := by
      have := (List.getElem?_eq_some_iff.1 hi).1
      simp at this
      omega
    subst hil'
    have hy : y = x := by simpa using hi.symm
    subst hy
    rw [hw, hw, if_neg (by omega), if_neg (by omega), if_pos rfl, if_neg (by omega), if_pos rfl]
    exact ⟨rfl, rfl, hx⟩
/-! ### Pop -/
theorem Stk.pop {x : Rc} (h : Stk M (L ++ [x])) : Stk (ppM 1 M 0) L := by
  have em : ppM 1 M 0 = stW 1 M 0 8 (L.length : Nat) := by
    unfold ppM
    rw [if_pos h.top.1, h.dpN, show (L ++ [x]).length - 1 = L.length by simp]
  have hw : ∀ b, ppM 1 M 0 0 b = if b = 8 then (L.length : Int) else M 0 b := by
    intro b
    rw [em, st_at ok0 (by omega)]
    simp
  have hle := h.le
  simp at hle
  have d8 : ppM 1 M 0 0 8 = (L.length : Int) := by rw [hw, if_pos rfl]
  obtain ⟨k1, k2⟩ := keep_is h (M' := ppM 1 M 0) (fun b hb => by rw [hw, if_neg (by omega)]) (by rw [d8]; omega)
  refine ⟨k1, k2, d8, fun i y hi => ?_⟩
  have hil := (List.getElem?_eq_some_iff.1 hi).1
  obtain ⟨a1, a2, a3⟩ := h.wd i y (by rw [List.getElem?_append_left hil]; exact hi)
  rw [hw, hw, if_neg (by omega), if_neg (by omega)]
  exact ⟨a1, a2, a3⟩
theorem Stk.pop_nil (h : Stk M []) : ppM 1 M 0 = M := by
  unfold ppM
  rw [if_neg (by rw [h.top_nil]; decide)]
/-! ### Ip -/
theorem Stk.ip {x : Rc} (h : Stk M (L ++ [x])) {p : Int} (hp : 0 ≤ p ∧ p ≤ 1073741824) : ipE 1 M 0 p = 0 ∧ Stk (ipM 1 M 0 p) (L ++ [ipX x p]) := by
  have e : ipE 1 M 0 p = 0 := by
    unfold ipE
    rw [if_pos h.top.1, if_pos ((ipB_iff p).2 hp)]
  refine ⟨e, ?_⟩
  have em : ipM 1 M 0 p = stW 1 M 0 (18 + 2 * (L.length : Int)) p := by
    unfold ipM
    rw [if_pos e, h.dpN, show (L ++ [x]).length - 1 = L.length by simp]
  have hle := h.le
  simp at hle
  have hw : ∀ b, ipM 1 M 0 p 0 b = if b = 18 + 2 * L.length then p else M 0 b := by
    intro b
    rw [em, st_at ok0 (by omega), show (18 + 2 * (L.length : Int)).toNat = 18 + 2 * L.length by omega]
    simp
  have d8 : ipM 1 M 0 p 0 8 = (L.length + 1 : Nat) := by
    rw [hw, if_neg (by omega), h.dp]
    simp
  obtain ⟨k1, k2⟩ := keep_is h (M' := ipM 1 M 0 p) (fun b hb => by rw [hw, if_neg (by omega)]) (by rw [d8]; omega)
  refine ⟨k1, k2, by rw [d8]; simp, fun i y hi => ?_⟩
  by_cases hil : i < L.length
  · rw [List.getElem?_append_left hil] at hi
    obtain ⟨a1, a2, a3⟩ := h.wd i y (by rw [List.getElem?_append_left hil]; exact hi)
    rw [hw, hw, if_neg (by omega), if_neg (by omega)]
    exact ⟨a1, a2, a3⟩
  · have hil' : i = L.length := by
      have := (List.getElem?_eq_some_iff.1 hi).1
      simp at this
      omega
    subst hil'
    have hy : y = ipX x p := by simpa using hi.symm
    subst hy
    obtain ⟨a1, a2, a3⟩ := h.wd L.length x (by simp)
    rw [hw, hw, if_neg (by omega), if_pos rfl]
    refine ⟨a1, rfl, ?_⟩
    unfold Ro at a3 ⊢
    unfold ipX
    dsimp only
    omega
theorem ip_no {p : Int} (h : ¬ (tpE 1 M 0 = 0 ∧ 0 ≤ p ∧ p ≤ 1073741824)) : ipM 1 M 0 p = M := by
  unfold ipM
  rw [if_neg]
  intro e
  apply h
  unfold ipE at e
  split at e
  · rename_i ht
    split at e
    · rename_i hp
      exact ⟨ht, (ipB_iff p).1 hp⟩
    · exact absurd e (by decide)
  · rename_i ht
    exact absurd e ht
end
/-! ### a thread made -/
theorem stk_made : mkE 1 0 th0 = 0 ∧ Stk (mkM 1 (fun _ _ => 0) 0 th0) [] := by
  have ht : To th0 := by unfold To th0; decide
  obtain ⟨a1, a2, a3, a4⟩ := gt_made (N := 1) (f := 0) (M := fun _ _ => 0) (by omega) ht
  rw [show ((0 : Nat) : Int) = 0 from rfl] at a1 a2 a3 a4
  obtain ⟨_, b2, b3⟩ := gt_yes a2
  refine ⟨a1, a4, b2, ?_, fun i x hi => by simp at hi⟩
  have : (thOf (mkM 1 (fun _ _ => 0) 0 th0) 0).de = 0 := by rw [← b3, a3]; rfl
  exact this
/-! ### below the last one -/
/-- What an act makes of the list: all below the last one stays. -/
def Keeps (L L' : List Rc) : Prop := ∀ k, k + 1 < L.length → k < L'.length → L[k]? = L'[k]?
theorem keeps_same (L : List Rc) : Keeps L L := fun _ _ _ => rfl
theorem keeps_push (L : List Rc) (x : Rc) : Keeps L (L ++ [x]) := fun k h _ => (List.getElem?_append_left (by omega)).symm
theorem keeps_pop (L : List Rc) (x : Rc) : Keeps (L ++ [x]) L := fun k h _ => by
  simp at h
  exact List.getElem?_append_left (by omega)
theorem keeps_last (L : List Rc) (x y : Rc) : Keeps (L ++ [x]) (L ++ [y]) := fun k h _ => by
  simp at h
  rw [List.getElem?_append_left (by omega), List.getElem?_append_left (by omega)]
end Go.Proofs.YtoipfcmjphlmfaaDoor.Pstack
