/- Plain words on records: which are right, their two words, what is answered and done of a thread's stack. No program is named here. -/
import Derived.Test.YtoipfcmjphlmfaaDoorBunThd
import Derived.Test.YtoipfcmjphlmfaaDoorBunField
namespace Go.Proofs.YtoipfcmjphlmfaaDoor.Pstack
open Go.Proofs.YtoipfcmjphlmfaaDoor.Pbase Go.Proofs.YtoipfcmjphlmfaaDoor.Pfield Go.Proofs.YtoipfcmjphlmfaaDoor.Play Go.Proofs.YtoipfcmjphlmfaaDoor.Pmem Go.Proofs.YtoipfcmjphlmfaaDoor.Pthd
open Go.RowKit M
set_option linter.unusedVariables false

/-! ### records -/
structure Rc where
  co : Int
  tb : Int
  pg : Int
  l : Int
  e : Int
  ip : Int
def rc0 : Rc := ⟨0, 0, 0, 0, 0, 0⟩
def Ro (x : Rc) : Prop := (0 ≤ x.co ∧ x.co ≤ 63) ∧ (0 ≤ x.tb ∧ x.tb ≤ 63) ∧ (0 ≤ x.pg ∧ x.pg ≤ 63) ∧ (0 ≤ x.l ∧ x.l ≤ 63) ∧ (0 ≤ x.e ∧ x.e ≤ 65535) ∧ (0 ≤ x.ip ∧ x.ip ≤ 1073741824)
def roB (x : Rc) : Bool := (decide (0 ≤ x.co) && decide (x.co ≤ 63)) && (decide (0 ≤ x.tb) && decide (x.tb ≤ 63)) && (decide (0 ≤ x.pg) && decide (x.pg ≤ 63)) && (decide (0 ≤ x.l) && decide (x.l ≤ 63)) && (decide (0 ≤ x.e) && decide (x.e ≤ 65535)) && (decide (0 ≤ x.ip) && decide (x.ip ≤ 1073741824))
theorem roB_iff (x : Rc) : roB x = true ↔ Ro x := by
  unfold roB Ro
  simp
  omega
theorem roB_yes {x : Rc} (h : Ro x) : roB x = true := (roB_iff x).2 h
theorem roB_no {x : Rc} (h : ¬ Ro x) : roB x = false := Bool.eq_false_iff.2 fun e => h ((roB_iff x).1 e)
def Fr (x : Rc) : Prop := In64 x.co ∧ In64 x.tb ∧ In64 x.pg ∧ In64 x.l ∧ In64 x.e ∧ In64 x.ip
theorem Ro.fr {x : Rc} (h : Ro x) : Fr x := by
  unfold Ro at h
  unfold Fr In64
  omega
/-- What Check answers. -/
def rkE (x : Rc) : Int := if roB x = true then 0 else 1
/-! ### words -/
def rws : List Int := [6, 6, 6, 6, 16]
theorem rws_length : rws.length = 5 := rfl
theorem mask6 : maskF 6 = 63 := by decide
theorem mask16 : maskF 16 = 65535 := by decide
def Rc.vs (x : Rc) : List Int := [x.co, x.tb, x.pg, x.l, x.e]
/-- The first word of one. -/
def rwd (x : Rc) : Int := packF rws x.vs
theorem rput_can {x : Rc} (h : Ro x) : (∀ j : Nat, 0 ≤ x.vs[j]?.getD 0 ∧ x.vs[j]?.getD 0 ≤ 18446744073709551615) ∧ ∀ j, j < rws.length → okP rws x.vs j = true := by
  unfold Ro at h
  constructor
  · intro j
    match j with
    | 0 | 1 | 2 | 3 | 4 => simp [Rc.vs]; omega
    | j + 5 => simp [Rc.vs]
  · intro j hj
    match j, hj with
    | 0, _ | 1, _ | 2, _ | 3, _ | 4, _ =>
      simp [okP, Pfield.M.inB, fitsB, mask6, mask16, sumTo, rws, Rc.vs, wrap64]
      omega
/-- The j-th part of a word. -/
def rgN (x : Int) (j : Nat) : Int := (getsI x rws)[j]?.getD 0
theorem rgN_bd {x : Int} (hx : 0 ≤ x ∧ x ≤ 18446744073709551615) (h : canU x rws) : (0 ≤ rgN x 0 ∧ rgN x 0 ≤ 63) ∧ (0 ≤ rgN x 1 ∧ rgN x 1 ≤ 63) ∧ (0 ≤ rgN x 2 ∧ rgN x 2 ≤ 63) ∧ (0 ≤ rgN x 3 ∧ rgN x 3 ≤ 63) ∧ (0 ≤ rgN x 4 ∧ rgN x 4 ≤ 65535) := by
  obtain ⟨h1, h2, _⟩ := unpack_pack hx h
  have m0 := (ok_parts (h2 0 (by decide))).2
  have m1 := (ok_parts (h2 1 (by decide))).2
  have m2 := (ok_parts (h2 2 (by decide))).2
  have m3 := (ok_parts (h2 3 (by decide))).2
  have m4 := (ok_parts (h2 4 (by decide))).2
  rw [show rws[0]?.getD 0 = 6 from rfl, fitsB, mask6, decide_eq_true_eq] at m0
  rw [show rws[1]?.getD 0 = 6 from rfl, fitsB, mask6, decide_eq_true_eq] at m1
  rw [show rws[2]?.getD 0 = 6 from rfl, fitsB, mask6, decide_eq_true_eq] at m2
  rw [show rws[3]?.getD 0 = 6 from rfl, fitsB, mask6, decide_eq_true_eq] at m3
  rw [show rws[4]?.getD 0 = 16 from rfl, fitsB, mask16, decide_eq_true_eq] at m4
  exact ⟨⟨(h1 0).1, m0⟩, ⟨(h1 1).1, m1⟩, ⟨(h1 2).1, m2⟩, ⟨(h1 3).1, m3⟩, ⟨(h1 4).1, m4⟩⟩
theorem rwd_bd {x : Rc} (h : Ro x) : 0 ≤ rwd x ∧ rwd x ≤ 18446744073709551615 := (pack_unpack (zs := rws) (vs := x.vs) rfl (rput_can h).1 (rput_can h).2).1
/-- The record that two words are. -/
def rdB (a b : Int) : Bool := (List.range rws.length).all (okU rws) && fitsB a (sumTo rws rws.length) && decide (b ≤ 1073741824)
theorem rdB_iff (a b : Int) : rdB a b = true ↔ canU a rws ∧ b ≤ 1073741824 := by
  unfold rdB canU
  simp only [Bool.and_eq_true, List.all_eq_true, List.mem_range, decide_eq_true_eq]
def rdR (a b : Int) : Rc := ⟨rgN a 0, rgN a 1, rgN a 2, rgN a 3, rgN a 4, b⟩
def rdX (a b : Int) : Rc := if rdB a b = true then rdR a b else rc0
def rdE (a b : Int) : Int := if rdB a b = true then 0 else 12
theorem rd_ro {a b : Int} (ha : 0 ≤ a ∧ a ≤ 18446744073709551615) (hb : 0 ≤ b) (h : rdB a b = true) : Ro (rdR a b) := by
  obtain ⟨h1, h2⟩ := (rdB_iff a b).1 h
  have := rgN_bd ha h1
  unfold Ro rdR
  dsimp only
  omega
/-- The parts of a word make just that word. -/
theorem rwd_back {a b : Int} (ha : 0 ≤ a ∧ a ≤ 18446744073709551615) (h : rdB a b = true) : rwd (rdR a b) = a := by
  have hc := ((rdB_iff a b).1 h).1
  have hl := getsI_length a rws
  have he : getsI a rws = [rgN a 0, rgN a 1, rgN a 2, rgN a 3, rgN a 4] := by
    unfold rgN
    generalize getsI a rws = l at hl
    match l, hl with
    | [v0, v1, v2, v3, v4], _ => rfl
  have := (unpack_pack ha hc).2.2
  rw [he] at this
  exact this
/-- What is laid is read. -/
theorem rd_back {x : Rc} (h : Ro x) : rdB (rwd x) x.ip = true ∧ rdR (rwd x) x.ip = x := by
  obtain ⟨hb, hc, hg⟩ := pack_unpack (zs := rws) (vs := x.vs) rfl (rput_can h).1 (rput_can h).2
  change canU (rwd x) rws at hc
  change getsI (rwd x) rws = _ at hg
  refine ⟨(rdB_iff _ _).2 ⟨hc, h.2.2.2.2.2.2⟩, ?_⟩
  unfold rdR rgN
  rw [hg]
  rfl
/-! ### a thread's stack -/
/-- How deep; the i-th record. -/
def dpN (M : Nat → Nat → Int) (f : Int) : Nat := (M f.toNat 8).toNat
def rcE (M : Nat → Nat → Int) (f : Int) (i : Nat) : Int := rdE (M f.toNat (17 + 2 * i)) (M f.toNat (18 + 2 * i))
def rcX (M : Nat → Nat → Int) (f : Int) (i : Nat) : Rc := rdX (M f.toNat (17 + 2 * i)) (M f.toNat (18 + 2 * i))
/-- The i-th record laid. -/
def lyR (N : Nat) (M : Nat → Nat → Int) (f : Int) (i : Nat) (x : Rc) : Nat → Nat → Int := stW N (stW N M f (17 + 2 * (i : Int)) (rwd x)) f (18 + 2 * (i : Int)) x.ip
/-- Push. -/
def psE (N : Nat) (M : Nat → Nat → Int) (f : Int) (x : Rc) : Int := if roB x = true then if gtE N M f = 0 then if dpN M f = 6 then 8 else 0 else gtE N M f else 1
def psM (N : Nat) (M : Nat → Nat → Int) (f : Int) (x : Rc) : Nat → Nat → Int := if psE N M f x = 0 then stW N (lyR N M f (dpN M f) x) f 8 (dpN M f + 1 : Nat) else M
/-- Top. -/
def tpE (N : Nat) (M : Nat → Nat → Int) (f : Int) : Int := if gtE N M f = 0 then if dpN M f = 0 then 8 else rcE M f (dpN M f - 1) else gtE N M f
def tpX (N : Nat) (M : Nat → Nat → Int) (f : Int) : Rc := if tpE N M f = 0 then rcX M f (dpN M f - 1) else rc0
/-- Pop. -/
def ppM (N : Nat) (M : Nat → Nat → Int) (f : Int) : Nat → Nat → Int := if tpE N M f = 0 then stW N M f 8 (dpN M f - 1 : Nat) else M
/-- All. -/
def alB (M : Nat → Nat → Int) (f : Int) (n : Nat) : Bool := (List.range n).all fun i => rcE M f i == 0
def alE (N : Nat) (M : Nat → Nat → Int) (f : Int) : Int := if gtE N M f = 0 then if alB M f (dpN M f) = true then 0 else 12 else gtE N M f
def alL (N : Nat) (M : Nat → Nat → Int) (f : Int) : List Rc := if alE N M f = 0 then (List.range (dpN M f)).map (rcX M f) else []
/-- Ip. -/
def ipB (p : Int) : Bool := decide (0 ≤ p) && decide (p ≤ 1073741824)
theorem ipB_iff (p : Int) : ipB p = true ↔ 0 ≤ p ∧ p ≤ 1073741824 := by
  unfold ipB
  simp
def ipE (N : Nat) (M : Nat → Nat → Int) (f p : Int) : Int := if tpE N M f = 0 then if ipB p = true then 0 else 1 else tpE N M f
def ipM (N : Nat) (M : Nat → Nat → Int) (f p : Int) : Nat → Nat → Int := if ipE N M f p = 0 then stW N M f (18 + 2 * ((dpN M f - 1 : Nat) : Int)) p else M
/-! ### small facts -/
theorem rcE_or (M : Nat → Nat → Int) (f : Int) (i : Nat) : rcE M f i = 0 ∨ rcE M f i = 12 := by
  unfold rcE rdE
  split
  · exact .inl rfl
  · exact .inr rfl
theorem gt_dp {N : Nat} {M : Nat → Nat → Int} {f : Int} (h : gtE N M f = 0) : okF N f = true ∧ (thOf M f).de = (dpN M f : Nat) ∧ dpN M f ≤ 6 := by
  obtain ⟨h1, h2, _⟩ := gt_yes h
  have h3 := h2.2.2.2.2
  have e : (thOf M f).de = M f.toNat 8 := rfl
  rw [e] at h3
  refine ⟨isE_ok h1, ?_, ?_⟩
  · rw [e]
    unfold dpN
    omega
  · unfold dpN
    omega
/-- One word, as a store leaves it. -/
theorem st_at {N : Nat} {M : Nat → Nat → Int} {f a v : Int} (hf : okF N f = true) (ha : 0 ≤ a ∧ a < 36) (g b : Nat) : stW N M f a v g b = if g = f.toNat ∧ b = a.toNat then v else M g b := by
  have ho : okW N f a = true := by unfold okW; rw [hf]; simp; omega
  unfold stW
  rw [if_pos ho]
theorem st_bad {N : Nat} {M : Nat → Nat → Int} {f a v : Int} (hf : okF N f = false) : stW N M f a v = M := by
  unfold stW okW
  rw [hf]
  rfl
/-- A word stored once more stays. -/
theorem st_same {N : Nat} {M : Nat → Nat → Int} {f a v : Int} (hf : okF N f = true) (ha : 0 ≤ a ∧ a < 36) (h : M f.toNat a.toNat = v) : stW N M f a v = M := by
  funext g b
  rw [st_at hf ha]
  split
  · rename_i hc
    rw [hc.1, hc.2, h]
  · rfl
/-- The depth put: a thread's words laid with another depth. -/
def dpX (x : Th) (d : Int) : Th := ⟨x.st, x.co, x.tc, x.rc, d⟩
theorem lay_dp {N : Nat} {M : Nat → Nat → Int} {f : Int} (hf : okF N f = true) (d : Int) : layF N M f (dpX (thOf M f) d).ws = stW N M f 8 d := by
  funext g b
  rw [st_at hf (by omega)]
  unfold layF
  rw [if_pos hf]
  show (if g = f.toNat ∧ 4 ≤ b ∧ b < 4 + 5 then ((dpX (thOf M f) d).ws)[b - 4]?.getD 0 else M g b) = _
  by_cases hg : g = f.toNat
  · subst hg
    by_cases hb : 4 ≤ b ∧ b < 9
    · rw [if_pos ⟨rfl, hb⟩]
      rcases (show b = 4 ∨ b = 5 ∨ b = 6 ∨ b = 7 ∨ b = 8 by omega) with rfl | rfl | rfl | rfl | rfl <;> simp [dpX, Th.ws, thOf]
    · rw [if_neg (fun h => hb h.2), if_neg (fun h => by have := h.2; omega)]
  · rw [if_neg (fun h => hg h.1), if_neg (fun h => hg h.1)]
/-- Laid records leave the thread's five words, the head and the depth. -/
theorem ly_low {N : Nat} {M : Nat → Nat → Int} {f : Int} {i : Nat} {x : Rc} {g b : Nat} (hf : okF N f = true) (hi : i < 6) (hb : b < 17) : lyR N M f i x g b = M g b := by
  unfold lyR
  rw [st_at hf (by omega), if_neg (fun h => by have := h.2; omega), st_at hf (by omega), if_neg (fun h => by have := h.2; omega)]
theorem ly_th {N : Nat} {M : Nat → Nat → Int} {f : Int} {i : Nat} {x : Rc} (hf : okF N f = true) (hi : i < 6) : thOf (lyR N M f i x) f = thOf M f := by
  unfold thOf
  rw [ly_low hf hi (by omega), ly_low hf hi (by omega), ly_low hf hi (by omega), ly_low hf hi (by omega), ly_low hf hi (by omega)]
theorem ly_is {N : Nat} {M : Nat → Nat → Int} {f : Int} {i : Nat} {x : Rc} (hf : okF N f = true) (hi : i < 6) (q : Int) : Phead.isE N (lyR N M f i x) f q = Phead.isE N M f q := is_words (fun j hj => ly_low hf hi (by omega)) q
/-- Push, told by thd's Put. -/
theorem ps_put {N : Nat} {M : Nat → Nat → Int} {f : Int} {x : Rc} (h : psE N M f x = 0) : Pthd.puE N (lyR N M f (dpN M f) x) f (dpX (thOf M f) ((dpN M f + 1 : Nat) : Int)) = 0 ∧ Pthd.puM N (lyR N M f (dpN M f) x) f (dpX (thOf M f) ((dpN M f + 1 : Nat) : Int)) = psM N M f x := by
  have h' := h
  unfold psE at h'
  split at h'
  · split at h'
    · rename_i hg
      split at h'
      · exact absurd h' (by decide)
      · rename_i hd
        obtain ⟨hf, hde, h6⟩ := gt_dp hg
        obtain ⟨h1, h2, _⟩ := gt_yes hg
        have hto : To (dpX (thOf M f) ((dpN M f + 1 : Nat) : Int)) := by
          unfold To at h2 ⊢
          unfold dpX
          dsimp only
          omega
        have e1 : Pthd.puE N (lyR N M f (dpN M f) x) f (dpX (thOf M f) ((dpN M f + 1 : Nat) : Int)) = 0 := by
          unfold Pthd.puE
          rw [if_pos (toB_yes hto), ly_is hf (by omega), if_pos h1]
        refine ⟨e1, ?_⟩
        unfold Pthd.puM psM
        rw [if_pos e1, if_pos h, ← ly_th (N := N) (i := dpN M f) (x := x) hf (by omega)]
        exact lay_dp hf _
    · rename_i hg
      exact absurd h' hg
  · exact absurd h' (by decide)
theorem tp_yes {N : Nat} {M : Nat → Nat → Int} {f : Int} (h : tpE N M f = 0) : gtE N M f = 0 ∧ 1 ≤ dpN M f ∧ rcE M f (dpN M f - 1) = 0 := by
  unfold tpE at h
  split at h
  · rename_i hg
    split at h
    · exact absurd h (by decide)
    · exact ⟨hg, by omega, h⟩
  · rename_i hg
    exact absurd h hg
/-- Pop, told by thd's Put. -/
theorem pp_put {N : Nat} {M : Nat → Nat → Int} {f : Int} (h : tpE N M f = 0) : Pthd.puE N M f (dpX (thOf M f) ((dpN M f - 1 : Nat) : Int)) = 0 ∧ Pthd.puM N M f (dpX (thOf M f) ((dpN M f - 1 : Nat) : Int)) = ppM N M f := by
  obtain ⟨hg, hd, _⟩ := tp_yes h
  obtain ⟨hf, hde, h6⟩ := gt_dp hg
  obtain ⟨h1, h2, _⟩ := gt_yes hg
  have hto : To (dpX (thOf M f) ((dpN M f - 1 : Nat) : Int)) := by
    unfold To at h2 ⊢
    unfold dpX
    dsimp only
    omega
  have e1 : Pthd.puE N M f (dpX (thOf M f) ((dpN M f - 1 : Nat) : Int)) = 0 := by
    unfold Pthd.puE
    rw [if_pos (toB_yes hto), if_pos h1]
  refine ⟨e1, ?_⟩
  unfold Pthd.puM ppM
  rw [if_pos e1, if_pos h]
  exact lay_dp hf _
/-- Ip, told by a record laid. -/
def ipX (x : Rc) (p : Int) : Rc := ⟨x.co, x.tb, x.pg, x.l, x.e, p⟩
theorem ip_lay {N : Nat} {M : Nat → Nat → Int} {f p : Int} (hF : Fit M) (h : ipE N M f p = 0) : lyR N M f (dpN M f - 1) (ipX (tpX N M f) p) = ipM N M f p := by
  have h' := h
  unfold ipE at h'
  split at h'
  · rename_i ht
    obtain ⟨hg, hd, hr⟩ := tp_yes ht
    obtain ⟨hf, hde, h6⟩ := gt_dp hg
    unfold ipM
    rw [if_pos h]
    unfold lyR
    have e : rwd (ipX (tpX N M f) p) = M f.toNat (17 + 2 * (dpN M f - 1)) := by
      have e1 : tpX N M f = rcX M f (dpN M f - 1) := by unfold tpX; rw [if_pos ht]
      have hb : rdB (M f.toNat (17 + 2 * (dpN M f - 1))) (M f.toNat (18 + 2 * (dpN M f - 1))) = true := by
        unfold rcE rdE at hr
        split at hr
        · assumption
        · exact absurd hr (by decide)
      rw [e1]
      unfold rcX rdX
      rw [if_pos hb]
      have hh := rwd_back (hF _ _) hb
      exact hh
    rw [st_same (a := 17 + 2 * ((dpN M f - 1 : Nat) : Int)) hf (by omega) (by rw [e]; congr 1)]
    rfl
  · rename_i ht
    exact absurd h' ht
theorem fit_st1 {M : Nat → Nat → Int} (h : Fit M) (N : Nat) (f a v : Int) (hv : 0 ≤ v ∧ v ≤ 18446744073709551615) : Fit (stW N M f a v) := h.st N f a v hv
theorem fit_ly {M : Nat → Nat → Int} (h : Fit M) (N : Nat) (f : Int) (i : Nat) {x : Rc} (hx : Ro x) : Fit (lyR N M f i x) := by
  have := hx.2.2.2.2.2
  exact (h.st N f _ _ (rwd_bd hx)).st N f _ _ (by omega)
theorem fit_ps {M : Nat → Nat → Int} (h : Fit M) (N : Nat) (f : Int) (x : Rc) : Fit (psM N M f x) := by
  unfold psM
  split
  · rename_i he
    have he' := he
    unfold psE at he'
    split at he'
    · rename_i hx
      split at he'
      · rename_i hg
        have := (gt_dp hg).2.2
        exact (fit_ly h N f _ ((roB_iff x).1 hx)).st N f _ _ (by omega)
      · rename_i hg
        exact absurd he' hg
    · exact absurd he' (by decide)
  · exact h
theorem fit_pp {M : Nat → Nat → Int} (h : Fit M) (N : Nat) (f : Int) : Fit (ppM N M f) := by
  unfold ppM
  split
  · rename_i he
    have := (gt_dp (tp_yes he).1).2.2
    exact h.st N f _ _ (by omega)
  · exact h
theorem fit_ip {M : Nat → Nat → Int} (h : Fit M) (N : Nat) (f p : Int) : Fit (ipM N M f p) := by
  unfold ipM
  split
  · rename_i he
    have he' := he
    unfold ipE at he'
    split at he'
    · split at he'
      · rename_i hp
        have := (ipB_iff p).1 hp
        exact h.st N f _ _ (by omega)
      · exact absurd he' (by decide)
    · rename_i ht
      exact absurd he' ht
  · exact h
end Go.Proofs.YtoipfcmjphlmfaaDoor.Pstack
