/- A memory of one frame that has an endpoint, told by itself and its events: what each call of the program makes of it. -/
import Derived.Test.YtcoggdnpjpiacaaDoorRcvP
import Derived.Test.YtcoggdnpjpiacaaDoorRcvH
namespace Go.Proofs.YtcoggdnpjpiacaaDoor.Prcv
open Go.Proofs.YtcoggdnpjpiacaaDoor.Pbase Go.Proofs.YtcoggdnpjpiacaaDoor.Pfield Go.Proofs.YtcoggdnpjpiacaaDoor.Play Go.Proofs.YtcoggdnpjpiacaaDoor.Pmem Go.Proofs.YtcoggdnpjpiacaaDoor.Pring
open Go.RowKit M
set_option linter.unusedVariables false

structure Ek (w W : World) (r : Rv) (L : List Ev) : Prop where
  ex : ∃ M, MemIs W (w.heap.size + 1) w.heap.size 1 M ∧ Ep 1 M 0 r L
  below : Below w.heap.size w W
section
variable {w W W' wc : World} {L : List Ev} {r s : Rv} {e : Ev}
theorem Ek.on (h : Ek w W r L) (hB : Below W.heap.size W W') : Ek w W' r L := by
  obtain ⟨M, h1, h2⟩ := h.ex
  exact ⟨⟨M, h1.grown hB, h2⟩, h.below.trans (hB.mono h.below.size)⟩
theorem Ek.turn (h : Ek w W r L) {M' : Nat → Nat → Int} (hm : MemIs W' (w.heap.size + 1) w.heap.size 1 M') (he : Ep 1 M' 0 s L) (hB : But w.heap.size W W') : Ek w W' s L := ⟨⟨M', hm, he⟩, h.below.trans (hB.below (Nat.le_refl _) h.below.size)⟩
theorem Ek.vo (h : Ek w W r L) : Vo r := by
  obtain ⟨M, h1, h2⟩ := h.ex
  exact h2.vo
theorem vo_fv (h : Vo r) : Fv r := by
  unfold Vo at h
  unfold Fv In64
  omega
theorem ek_make (HP : Prd 1 w) (hr : Vo r) : Calls Tryd.prog 6 #[.pointer (some ⟨w.heap.size + 1, 0, none⟩), .int .i64 0, .agg #[.int .i64 r.th, .int .i64 r.pa, .int .i64 r.co, .bool r.wa, .int .i64 r.lo]] (newW w 1) fun e w' => e = .returned (.int .i64 0) ∧ Ek w w' r [] := by
  have hb := newW_below w 1
  have h := HP.make (newW w 1) _ 0 r (vo_fv hr) (newW_is w 1) Fit.zero hb
  obtain ⟨e1, e2⟩ := ep_made (N := 1) (f := 0) (by omega) Fit.zero hr
  have e1' : vmE 1 0 r = 0 := e1
  rw [e1'] at h
  exact h.mono fun e w' ⟨q1, q2, q3⟩ => ⟨q1, ⟨_, q2, e2⟩, hb.trans (q3.below (Nat.le_refl _) hb.size)⟩
theorem ek_make_no (HP : Prd 1 w) (hf : Fv r) (hr : ¬ Vo r) : Calls Tryd.prog 6 #[.pointer (some ⟨w.heap.size + 1, 0, none⟩), .int .i64 0, .agg #[.int .i64 r.th, .int .i64 r.pa, .int .i64 r.co, .bool r.wa, .int .i64 r.lo]] (newW w 1) fun e w' => e = .returned (.int .i64 1) ∧ Below w.heap.size w w' := by
  have hb := newW_below w 1
  have h := HP.make (newW w 1) _ 0 r hf (newW_is w 1) Fit.zero hb
  obtain ⟨e1, e2⟩ := vm_arg 1 (fun _ _ => 0) 0 hr
  rw [e1] at h
  exact h.mono fun e w' ⟨q1, q2, q3⟩ => ⟨q1, hb.trans (q3.below (Nat.le_refl _) hb.size)⟩
theorem ek_tell (HP : Prd 1 w) (h : Ek w wc r L) (hf : Fe e) (he : Eo e) (hl : L.length < 8) : Calls Tryd.prog 7 #[.pointer (some ⟨w.heap.size + 1, 0, none⟩), .int .i64 0, .agg #[.int .i64 e.k, .int .i64 e.t]] wc fun x w' => x = .returned (.int .i64 0) ∧ Ek w w' r (L ++ [e]) := by
  obtain ⟨M, h1, h2⟩ := h.ex
  have hc := HP.tell wc M 0 e hf h1 h2.rg.fit h.below
  obtain ⟨e1, e2⟩ := ep_tell h2 he hl
  rw [e1] at hc
  exact hc.mono fun x w' ⟨q1, q2, q3⟩ => ⟨q1, ⟨_, q2, e2⟩, h.below.trans (q3.below (Nat.le_refl _) h.below.size)⟩
theorem ek_lost (HP : Prd 1 w) (h : Ek w wc r L) (hf : Fe e) (he : Eo e) (hl : L.length = 8) : Calls Tryd.prog 7 #[.pointer (some ⟨w.heap.size + 1, 0, none⟩), .int .i64 0, .agg #[.int .i64 e.k, .int .i64 e.t]] wc fun x w' => x = .returned (.int .i64 0) ∧ Ek w w' (lostX r) L := by
  obtain ⟨M, h1, h2⟩ := h.ex
  have hc := HP.tell wc M 0 e hf h1 h2.rg.fit h.below
  obtain ⟨e1, e2⟩ := ep_lost h2 he hl
  rw [e1] at hc
  exact hc.mono fun x w' ⟨q1, q2, q3⟩ => ⟨q1, h.turn q2 e2 q3⟩
theorem ek_tell_no (HP : Prd 1 w) (h : Ek w wc r L) (hf : Fe e) (he : ¬ Eo e) : Calls Tryd.prog 7 #[.pointer (some ⟨w.heap.size + 1, 0, none⟩), .int .i64 0, .agg #[.int .i64 e.k, .int .i64 e.t]] wc fun x w' => x = .returned (.int .i64 1) ∧ Ek w w' r L := by
  obtain ⟨M, h1, h2⟩ := h.ex
  have hc := HP.tell wc M 0 e hf h1 h2.rg.fit h.below
  obtain ⟨e1, e2⟩ := tl_arg 1 M 0 he
  rw [e1, e2] at hc
  exact hc.mono fun x w' ⟨q1, q2, q3⟩ => ⟨q1, h.turn q2 h2 q3⟩
theorem ek_more (HP : Prd 1 w) (h : Ek w wc r L) : Calls Tryd.prog 12 #[.pointer (some ⟨w.heap.size + 1, 0, none⟩), .int .i64 0] wc fun x w' => x = .returned (.tuple #[.bool r.wa, .int .i64 0]) ∧ Ek w w' (moreX r) L := by
  obtain ⟨M, h1, h2⟩ := h.ex
  have hc := HP.more wc M 0 h1 h2.rg.fit h.below
  obtain ⟨e1, e2⟩ := ep_more h2
  rw [e1, h2.gt] at hc
  exact hc.mono fun x w' ⟨q1, q2, q3⟩ => ⟨q1, h.turn q2 e2 q3⟩
theorem ek_less (HP : Prd 1 w) (h : Ek w wc r L) (h0 : r.co ≠ 0) : Calls Tryd.prog 13 #[.pointer (some ⟨w.heap.size + 1, 0, none⟩), .int .i64 0] wc fun x w' => x = .returned (.tuple #[.bool true, .int .i64 0]) ∧ Ek w w' (lessX r) L := by
  obtain ⟨M, h1, h2⟩ := h.ex
  have hc := HP.less wc M 0 h1 h2.rg.fit h.below
  obtain ⟨e1, e2⟩ := ep_less h2 h0
  rw [e1, h2.gt] at hc
  exact hc.mono fun x w' ⟨q1, q2, q3⟩ => ⟨q1, h.turn q2 e2 q3⟩
theorem ek_none (HP : Prd 1 w) (h : Ek w wc r L) (h0 : r.co = 0) : Calls Tryd.prog 13 #[.pointer (some ⟨w.heap.size + 1, 0, none⟩), .int .i64 0] wc fun x w' => x = .returned (.tuple #[.bool false, .int .i64 0]) ∧ Ek w w' r L := by
  obtain ⟨M, h1, h2⟩ := h.ex
  have hc := HP.less wc M 0 h1 h2.rg.fit h.below
  obtain ⟨e1, e2⟩ := ep_none h2 h0
  rw [e1, e2, h2.gt] at hc
  exact hc.mono fun x w' ⟨q1, q2, q3⟩ => ⟨q1, h.turn q2 h2 q3⟩
theorem ek_get (HP : Prd 1 w) (h : Ek w wc r L) : Calls Tryd.prog 10 #[.pointer (some ⟨w.heap.size + 1, 0, none⟩), .int .i64 0] wc fun x w' => x = .returned (.tuple #[.agg #[.int .i64 r.th, .int .i64 r.pa, .int .i64 r.co, .bool r.wa, .int .i64 r.lo], .int .i64 0]) ∧ Below wc.heap.size wc w' := by
  obtain ⟨M, h1, h2⟩ := h.ex
  have hc := HP.get wc M 0 h1 h2.rg.fit h.below
  rw [h2.get, h2.gt] at hc
  exact hc
theorem ek_put (HP : Prd 1 w) (h : Ek w wc r L) (hs : Vo s) : Calls Tryd.prog 15 #[.pointer (some ⟨w.heap.size + 1, 0, none⟩), .int .i64 0, .agg #[.int .i64 s.th, .int .i64 s.pa, .int .i64 s.co, .bool s.wa, .int .i64 s.lo]] wc fun x w' => x = .returned (.int .i64 0) ∧ Ek w w' s L := by
  obtain ⟨M, h1, h2⟩ := h.ex
  have hc := HP.put wc M 0 s (vo_fv hs) h1 h2.rg.fit h.below
  obtain ⟨e1, e2⟩ := ep_put h2 hs
  rw [e1] at hc
  exact hc.mono fun x w' ⟨q1, q2, q3⟩ => ⟨q1, h.turn q2 e2 q3⟩
theorem ek_put_no (HP : Prd 1 w) (h : Ek w wc r L) (hf : Fv s) (hs : ¬ Vo s) : Calls Tryd.prog 15 #[.pointer (some ⟨w.heap.size + 1, 0, none⟩), .int .i64 0, .agg #[.int .i64 s.th, .int .i64 s.pa, .int .i64 s.co, .bool s.wa, .int .i64 s.lo]] wc fun x w' => x = .returned (.int .i64 1) ∧ Ek w w' r L := by
  obtain ⟨M, h1, h2⟩ := h.ex
  have hc := HP.put wc M 0 s hf h1 h2.rg.fit h.below
  obtain ⟨e1, e2⟩ := vp_arg 1 M 0 hs
  rw [e1, e2] at hc
  exact hc.mono fun x w' ⟨q1, q2, q3⟩ => ⟨q1, h.turn q2 h2 q3⟩
theorem ek_all (hT : Ts w) (h : Ek w wc r L) : Calls Tryd.prog 9 #[.pointer (some ⟨w.heap.size + 1, 0, none⟩), .int .i64 0] wc fun x w' => ∃ a cap, x = .returned (.tuple #[.slice a L.length cap, .int .i64 0]) ∧ Evs w' 0 (.slice a L.length cap) L ∧ Below wc.heap.size wc w' := by
  obtain ⟨M, ho, h2⟩ := h.ex
  have hp := Pring.all_any (w.heap.size + 1) w.heap.size 1 0 M wc (mx_of hT h.below ho h2.rg.fit (by omega) (by omega))
  obtain ⟨e1, e2⟩ := rg_all h2.rg
  rw [e1, e2] at hp
  refine hp.mono ?_
  rintro x w' ⟨v, rfl, r1, r2⟩
  obtain ⟨a, cp, rfl⟩ := r1.slice
  exact ⟨a, cp, rfl, r1.downTo (Nat.zero_le _), r2⟩
end
/-! ### an endpoint that was told of one event so many times -/
def toldX (j : Nat) : Rv := ⟨0, 0, 0, false, ((min (j - 8) 255 : Nat) : Int)⟩
def toldL (e : Ev) (j : Nat) : List Ev := List.replicate (min j 8) e
theorem toldL_len (e : Ev) (j : Nat) : (toldL e j).length = min j 8 := by simp [toldL]
theorem toldL_more (e : Ev) {j : Nat} (h : j < 8) : toldL e j ++ [e] = toldL e (j + 1) := by
  unfold toldL
  rw [show min j 8 = j by omega, show min (j + 1) 8 = j + 1 by omega, List.replicate_succ']
theorem toldL_full (e : Ev) {j : Nat} (h : 8 ≤ j) : toldL e j = toldL e (j + 1) := by
  unfold toldL
  rw [show min j 8 = 8 by omega, show min (j + 1) 8 = 8 by omega]
theorem toldX_more {j : Nat} (h : j < 8) : toldX j = toldX (j + 1) := by
  unfold toldX
  rw [show min (j - 8) 255 = 0 by omega, show min (j + 1 - 8) 255 = 0 by omega]
theorem toldX_lost {j : Nat} (h : 8 ≤ j) : lostX (toldX j) = toldX (j + 1) := by
  unfold lostX toldX satI
  congr 1
  simp only
  split <;> omega
theorem ek_told {w wc : World} {e : Ev} {j : Nat} (HP : Prd 1 w) (h : Ek w wc (toldX j) (toldL e j)) (hf : Fe e) (he : Eo e) : Calls Tryd.prog 7 #[.pointer (some ⟨w.heap.size + 1, 0, none⟩), .int .i64 0, .agg #[.int .i64 e.k, .int .i64 e.t]] wc fun x w' => x = .returned (.int .i64 0) ∧ Ek w w' (toldX (j + 1)) (toldL e (j + 1)) := by
  by_cases hj : j < 8
  · have := ek_tell HP h hf he (by rw [toldL_len]; omega)
    rwa [toldL_more e hj, toldX_more hj] at this
  · have := ek_lost HP h hf he (by rw [toldL_len]; omega)
    rwa [toldX_lost (by omega), toldL_full e (by omega)] at this
/-- And counted so many times. -/
def cntX (c : Nat) (l : Int) : Rv := ⟨0, 0, ((min c 255 : Nat) : Int), false, l⟩
theorem cntX_more (c : Nat) (l : Int) : moreX (cntX c l) = cntX (c + 1) l := by
  unfold moreX cntX satI
  congr 1
  simp only
  split <;> omega
theorem cntX_less {c : Nat} (l : Int) (h : c < 255) : lessX (cntX (c + 1) l) = cntX c l := by
  unfold lessX cntX
  congr 1
  simp only
  omega
end Go.Proofs.YtcoggdnpjpiacaaDoor.Prcv
