/- What Charge, Give and awake answer and do, for all arguments. -/
import Derived.Test.YtlnckhebikiclaaDoorTcpD
namespace Go.Proofs.YtlnckhebikiclaaDoor.Ptcap
open Go.Proofs.YtlnckhebikiclaaDoor.Pbase Go.Proofs.YtlnckhebikiclaaDoor.Pfield Go.Proofs.YtlnckhebikiclaaDoor.Play Go.Proofs.YtlnckhebikiclaaDoor.Pmem
open Go.RowKit M
set_option linter.unusedVariables false

/-! ### plain -/
theorem ch_bo' {x : Bd} {n : Int} (h : Bo x) (hn : 0 ≤ n) : Bo (chX x n) := by
  cases hi : x.inf
  · exact ch_bo h hn hi
  · unfold Bo at h ⊢
    have hl := h.2.2 hi
    unfold chX chN
    dsimp only
    refine ⟨by split <;> omega, h.2.1, fun _ => by split <;> omega⟩
theorem chX_inf {x : Bd} {n : Int} (h : Bo x) (hn : 0 ≤ n) (hi : x.inf = true) : chX x n = x := by
  have hl := h.2.2 hi
  unfold chX chN
  rw [hl]
  have e : (if 0 - n < 0 then (0 : Int) else 0 - n) = 0 := by split <;> omega
  rw [e, ← hl]
/-- A budget's own words laid over it. -/
theorem lay_self {N : Nat} {M : Nat → Nat → Int} {f : Int} (hF : Fit M) (hg : gtE N M f = 0) : layF N M f (bdOf M f).ws = M := by
  obtain ⟨h1, h2, _, _⟩ := gt_yes hg
  have h0 := (hF f.toNat 4).1
  unfold layF
  rw [if_pos (isE_ok h1)]
  funext g b
  by_cases hb : g = f.toNat ∧ 4 ≤ b ∧ b < 4 + (bdOf M f).ws.length
  · rw [if_pos hb]
    obtain ⟨rfl, hb1, hb2⟩ := hb
    rw [ws_len] at hb2
    rcases (show b = 4 ∨ b = 5 ∨ b = 6 by omega) with rfl | rfl | rfl
    · show bz (decide (M f.toNat 4 = 1)) = M f.toNat 4
      rcases (show M f.toNat 4 = 0 ∨ M f.toNat 4 = 1 by omega) with e | e <;> rw [e] <;> rfl
    · rfl
    · rfl
  · rw [if_neg hb]
theorem ch_lay {N : Nat} {M : Nat → Nat → Int} {f n : Int} (hF : Fit M) (h : chE N M f n = 0) : chM N M f n = layF N M f (chX (bdOf M f) n).ws := by
  obtain ⟨hn, hg⟩ := ch_yes h
  unfold chM
  cases hi : (bdOf M f).inf
  · rw [if_pos ⟨h, rfl⟩]
  · rw [if_neg (by rintro ⟨_, h2⟩; cases h2), chX_inf (gt_yes hg).2.2.1 hn.1 hi, lay_self hF hg]
theorem gv_chX {N : Nat} {M : Nat → Nat → Int} {f g n p : Int} (h : gvE N M f g n p = 0) : chX (bdOf M f) n = gvX (bdOf M f) n := by
  obtain ⟨⟨a1, a2, a3⟩, h2, h3, h4, h5, h6⟩ := gv_yes h
  have bf := (gt_yes h2).2.2.1
  unfold gvX
  split
  · rename_i hi
    exact chX_inf bf (by omega) hi
  · rename_i hi
    have hi' : (bdOf M f).inf = false := by simpa using hi
    have : ¬ (bdOf M f).lf < n := fun hh => h5 ⟨hi', hh⟩
    unfold chX chN
    rw [if_neg (by omega)]
/-! ### Charge -/
/-- A memory behind some calls. -/
def Kx (w W : World) (p b N : Nat) (M : Nat → Nat → Int) : Prop := Mx W p b N M ∧ But b w W
theorem Kx.on {w W W' : World} {p b N : Nat} {M : Nat → Nat → Int} (h : Kx w W p b N M) (hB : Below W.heap.size W W') : Kx w W' p b N M := ⟨h.1.on hB, h.2.trans (But.of_below b hB)⟩
theorem Kx.turn {w W W' : World} {p b N : Nat} {M M' : Nat → Nat → Int} (h : Kx w W p b N M) (hm : Mx W' p b N M') (hB : But b W W') : Kx w W' p b N M' := ⟨hm, h.2.trans hB⟩
theorem cell_alloc (w : World) (v : Value) (t : TypeId) : (w.alloc (.cells #[v] t)).cell? ⟨w.heap.size, 0, none⟩ = some v := by rw [World.cell?_alloc_new]; rfl
set_option maxRecDepth 100000 in
set_option maxHeartbeats 2000000 in
theorem charge_any (p b N : Nat) (f n : Int) (M : Nat → Nat → Int) (w : World) (hM : Mx w p b N M) (hn : In64 n) :
    Calls Tryd.prog 13 #[.pointer (some ⟨p, 0, none⟩), .int .i64 f, .int .i64 n] w fun e w' => e = .returned (.tuple #[.bool (chB N M f n), .int .i64 (chE N M f n)]) ∧ Mx w' p b N (chM N M f n) ∧ But b w w' := by
  have H0 : Hid (Kx w w p b N M) := ⟨hM, But.refl _ _⟩
  by_cases ha : chA n = true
  case neg =>
    have e1 : chE N M f n = 1 := by unfold chE; rw [if_neg ha]
    have e2 : chB N M f n = false := by unfold chB; rw [e1, if_neg (by decide)]
    have e3 : chM N M f n = M := by unfold chM; rw [e1, if_neg (by rintro ⟨h, _⟩; exact absurd h (by decide))]
    rw [e1, e2, e3]
    have g : n < 0 ∨ (¬ n < 0 ∧ 1048576 < n) := by
      rw [chA_iff] at ha
      omega
    clear e1 e2 e3 ha hM hn
    rcases g with g1 | ⟨g1, g2⟩
    all_goals
      go_enter Tryd.func13, Tryd.ntmps13
      go_wp2
      go_ret2
      exact ⟨rfl, H0.out.1, H0.out.2⟩
  have hn' := (chA_iff n).1 ha
  have e1 : chE N M f n = gtE N M f := by unfold chE; rw [if_pos ha]
  have HL : Hid (Calls Tryd.prog 40 #[.int .i64 n] w fun e w' => e = .returned (.func (.func 61) #[] #[.pointer (some ⟨w.heap.size, 0, none⟩)]) ∧ Kx w w' p b N M ∧ w'.cell? ⟨w.heap.size, 0, none⟩ = some (.int .i64 n)) := (less_any n w).mono fun e w' ⟨h1, h2⟩ => ⟨h1, by rw [h2]; exact ⟨H0.out.on (bal (Below.refl _ _) _), cell_alloc w _ _⟩⟩
  have g1 : ¬ n < 0 := by omega
  have g2 : ¬ 1048576 < n := by omega
  by_cases hg : gtE N M f = 0
  case neg =>
    have e2 : chB N M f n = false := by unfold chB; rw [e1, if_neg hg]
    have e3 : chM N M f n = M := by unfold chM; rw [e1, if_neg (fun h => hg h.1)]
    rw [e1, e2, e3]
    have HC : Hid (∀ wc v, Kx w wc p b N M → Calls Tryd.prog 39 #[.pointer (some ⟨p, 0, none⟩), .int .i64 f, v] wc fun e w' => e = .returned (.tuple #[.agg #[.bool false, .int .i64 0, .int .i64 0], .int .i64 (gtE N M f)]) ∧ Below wc.heap.size wc w') := fun wc v h => change_no p b N f v M wc h.1 hg
    generalize gtE N M f = E at HC hg ⊢
    have hE : (E == 0) = false := by simp [hg]
    clear e1 e2 e3 ha hM hn hn' hg H0
    go_enter Tryd.func13, Tryd.ntmps13
    go_wp2_with (first
      | (go_at_call 40; refine HL.out.mono ?_; rintro r1 w1 ⟨rfl, hk, _⟩; have H1 := rhide hk; clear hk HL)
      | (go_at_call 39; refine (HC.out _ _ H1.out).mono ?_; rintro r2 w2 ⟨rfl, hb⟩; have H2 := rhide ((H1.out.on hb).on (bal (Below.refl _ _) (.cells #[.bool false, .int .i64 0, .int .i64 0] 33))); clear hb HC H1)
      | fail)
    go_ret2
    exact ⟨rfl, H2.out.1, H2.out.2⟩
  have e2 : chE N M f n = 0 := e1.trans hg
  have e3 : chB N M f n = (!(chX (bdOf M f) n).inf && decide ((chX (bdOf M f) n).lf = 0)) := by unfold chB; rw [if_pos e2]; rfl
  rw [e2, e3, ch_lay hM.fit e2]
  have hnew := ch_bo' (gt_yes hg).2.2.1 hn'.1
  have HC : Hid (∀ wc, Kx w wc p b N M → wc.cell? ⟨w.heap.size, 0, none⟩ = some (.int .i64 n) → Calls Tryd.prog 39 #[.pointer (some ⟨p, 0, none⟩), .int .i64 f, .func (.func 61) #[] #[.pointer (some ⟨w.heap.size, 0, none⟩)]] wc fun e w' => e = .returned (.tuple #[.agg #[.bool (chX (bdOf M f) n).inf, .int .i64 (chX (bdOf M f) n).lf, .int .i64 (chX (bdOf M f) n).pr], .int .i64 0]) ∧ Kx w w' p b N (layF N M f (chX (bdOf M f) n).ws)) := fun wc h hc => (change_less p b N f n w.heap.size M wc h.1 hg hn' hc hnew).mono fun e w' ⟨q1, q2, q3⟩ => ⟨q1, h.turn q2 q3⟩
  have HS : Hid (∀ wc, Calls Tryd.prog 43 #[.agg #[.bool (chX (bdOf M f) n).inf, .int .i64 (chX (bdOf M f) n).lf, .int .i64 (chX (bdOf M f) n).pr]] wc fun e w' => e = .returned (.bool (!(chX (bdOf M f) n).inf && decide ((chX (bdOf M f) n).lf = 0))) ∧ Below wc.heap.size wc w') := fun wc => spent_any _ wc
  clear e1 e2 e3 ha hM hn hn' hg H0 hnew
  generalize layF N M f (chX (bdOf M f) n).ws = M1 at HC ⊢
  generalize (!(chX (bdOf M f) n).inf && decide ((chX (bdOf M f) n).lf = 0)) = R at HS ⊢
  generalize chX (bdOf M f) n = y at HC HS
  go_enter Tryd.func13, Tryd.ntmps13
  go_wp2_with (first
    | (go_at_call 40; refine HL.out.mono ?_; rintro r1 w1 ⟨rfl, hk⟩; have H1 := rhide hk; clear hk HL)
    | (go_at_call 39; refine (HC.out _ H1.out.1 H1.out.2).mono ?_; rintro r2 w2 ⟨rfl, hb⟩; have H2 := rhide (hb.on (bal (Below.refl _ _) (.cells #[.bool y.inf, .int .i64 y.lf, .int .i64 y.pr] 33))); clear hb HC H1)
    | (go_at_call 43; refine (HS.out _).mono ?_; rintro r3 w3 ⟨rfl, hb⟩; have H3 := rhide (H2.out.on hb); clear hb HS H2)
    | fail)
  go_ret2
  exact ⟨rfl, H3.out.1, H3.out.2⟩
/-! ### Give -/
/-- A memory and two budgets in blocks. -/
structure Gv (w W : World) (p b N : Nat) (M : Nat → Nat → Int) (A : Nat) (x : Bd) (B : Nat) (y : Bd) : Prop where
  k : Kx w W p b N M
  ra : RowB W A x
  rb : RowB W B y
set_option maxRecDepth 100000 in
set_option maxHeartbeats 2000000 in
theorem give_no (p b N : Nat) (f g n k : Int) (M : Nat → Nat → Int) (w : World) (hM : Mx w p b N M) (ha : ¬ gvA f g n k = true) :
    Calls Tryd.prog 11 #[.pointer (some ⟨p, 0, none⟩), .int .i64 f, .int .i64 g, .int .i64 n, .int .i64 k] w fun e w' => e = .returned (.int .i64 1) ∧ Mx w' p b N M ∧ But b w w' := by
  have H0 : Hid (Kx w w p b N M) := ⟨hM, But.refl _ _⟩
  have h : n < 1 ∨ (¬ n < 1 ∧ 1048576 < n) ∨ (¬ n < 1 ∧ ¬ 1048576 < n ∧ k < 0) ∨ (¬ n < 1 ∧ ¬ 1048576 < n ∧ ¬ k < 0 ∧ 255 < k) ∨ (¬ n < 1 ∧ ¬ 1048576 < n ∧ ¬ k < 0 ∧ ¬ 255 < k ∧ f = g) := by
    rw [gvA_iff] at ha
    omega
  clear ha hM
  rcases h with g1 | ⟨g1, g2⟩ | ⟨g1, g2, g3⟩ | ⟨g1, g2, g3, g4⟩ | ⟨g1, g2, g3, g4, rfl⟩
  all_goals
    go_enter Tryd.func11, Tryd.ntmps11
    go_wp2
    go_ret
    exact ⟨rfl, H0.out.1, H0.out.2⟩
theorem gv_one {w W : World} {p b N : Nat} {M : Nat → Nat → Int} (x : Bd) (h : Kx w W p b N M) : Kx w (W.alloc (.cells #[.bool x.inf, .int .i64 x.lf, .int .i64 x.pr] 33)) p b N M ∧ RowB (W.alloc (.cells #[.bool x.inf, .int .i64 x.lf, .int .i64 x.pr] 33)) W.heap.size x :=
  ⟨h.on (bal (Below.refl _ _) _), rowB_new W x⟩
theorem gv_two {w W V : World} {p b N A : Nat} {M : Nat → Nat → Int} {x : Bd} (y : Bd) (h : Kx w W p b N M ∧ RowB W A x) (hB : Below W.heap.size W V) : Gv w (V.alloc (.cells #[.bool y.inf, .int .i64 y.lf, .int .i64 y.pr] 33)) p b N M A x V.heap.size y :=
  ⟨(h.1.on hB).on (bal (Below.refl _ _) _), (h.2.on hB).on (bal (Below.refl _ _) _), rowB_new V y⟩
set_option maxRecDepth 100000 in
set_option maxHeartbeats 1000000 in
theorem give_f (p b N : Nat) (f g n k : Int) (M : Nat → Nat → Int) (w : World) (hM : Mx w p b N M) (a1 : 1 ≤ n ∧ n ≤ 1048576) (a2 : 0 ≤ k ∧ k ≤ 255) (a3 : f ≠ g) (hf : gtE N M f ≠ 0) :
    Calls Tryd.prog 11 #[.pointer (some ⟨p, 0, none⟩), .int .i64 f, .int .i64 g, .int .i64 n, .int .i64 k] w fun e w' => e = .returned (.int .i64 (gtE N M f)) ∧ Mx w' p b N M ∧ But b w w' := by
  have H0 : Hid (Kx w w p b N M) := ⟨hM, But.refl _ _⟩
  have g1 : ¬ n < 1 := by omega
  have g2 : ¬ 1048576 < n := by omega
  have g3 : ¬ k < 0 := by omega
  have g4 : ¬ 255 < k := by omega
  have g5 : (f == g) = false := by simp [a3]
  have HG : Hid (∀ wc, Kx w wc p b N M → Calls Tryd.prog 15 #[.pointer (some ⟨p, 0, none⟩), .int .i64 f] wc fun e w' => e = .returned (.tuple #[.agg #[.bool (gtT N M f).inf, .int .i64 (gtT N M f).lf, .int .i64 (gtT N M f).pr], .int .i64 (gtE N M f)]) ∧ Below wc.heap.size wc w') := fun wc h => get_any p b N f M wc h.1
  generalize gtE N M f = E at HG hf ⊢
  generalize gtT N M f = x at HG
  have hE : (E != 0) = true := by simp [hf]
  clear a1 a2 a3 hM hf
  go_enter Tryd.func11, Tryd.ntmps11
  go_wp2_with (first
    | (go_at_call 15; refine (HG.out _ H0.out).mono ?_; rintro r1 w1 ⟨rfl, hb⟩; have H1 := rhide ((H0.out.on hb).on (bal (Below.refl _ _) (.cells #[.bool x.inf, .int .i64 x.lf, .int .i64 x.pr] 33))); clear hb HG H0)
    | fail)
  go_ret
  exact ⟨rfl, H1.out.1, H1.out.2⟩
set_option maxRecDepth 100000 in
set_option maxHeartbeats 1000000 in
theorem give_g (p b N : Nat) (f g n k : Int) (M : Nat → Nat → Int) (w : World) (hM : Mx w p b N M) (a1 : 1 ≤ n ∧ n ≤ 1048576) (a2 : 0 ≤ k ∧ k ≤ 255) (a3 : f ≠ g) (hf : gtE N M f = 0) (hg : gtE N M g ≠ 0) :
    Calls Tryd.prog 11 #[.pointer (some ⟨p, 0, none⟩), .int .i64 f, .int .i64 g, .int .i64 n, .int .i64 k] w fun e w' => e = .returned (.int .i64 (gtE N M g)) ∧ Mx w' p b N M ∧ But b w w' := by
  have H0 : Hid (Kx w w p b N M) := ⟨hM, But.refl _ _⟩
  have g1 : ¬ n < 1 := by omega
  have g2 : ¬ 1048576 < n := by omega
  have g3 : ¬ k < 0 := by omega
  have g4 : ¬ 255 < k := by omega
  have g5 : (f == g) = false := by simp [a3]
  have HG : Hid (∀ wc, Kx w wc p b N M → Calls Tryd.prog 15 #[.pointer (some ⟨p, 0, none⟩), .int .i64 f] wc fun e w' => e = .returned (.tuple #[.agg #[.bool (gtT N M f).inf, .int .i64 (gtT N M f).lf, .int .i64 (gtT N M f).pr], .int .i64 (gtE N M f)]) ∧ Below wc.heap.size wc w') := fun wc h => get_any p b N f M wc h.1
  have HH : Hid (∀ wc, Kx w wc p b N M → Calls Tryd.prog 15 #[.pointer (some ⟨p, 0, none⟩), .int .i64 g] wc fun e w' => e = .returned (.tuple #[.agg #[.bool (gtT N M g).inf, .int .i64 (gtT N M g).lf, .int .i64 (gtT N M g).pr], .int .i64 (gtE N M g)]) ∧ Below wc.heap.size wc w') := fun wc h => get_any p b N g M wc h.1
  rw [hf, (gt_yes hf).2.2.2] at HG
  generalize gtE N M g = E at HH hg ⊢
  generalize gtT N M g = y at HH
  generalize bdOf M f = x at HG
  have hE : (E != 0) = true := by simp [hg]
  clear a1 a2 a3 hM hf hg
  go_enter Tryd.func11, Tryd.ntmps11
  go_wp2_with (first
    | (go_at_call 15; refine (HG.out _ H0.out).mono ?_; rintro r1 w1 ⟨rfl, hb⟩; have H1 := rhide ((H0.out.on hb).on (bal (Below.refl _ _) (.cells #[.bool x.inf, .int .i64 x.lf, .int .i64 x.pr] 33))); clear hb HG H0)
    | (go_at_call 15; refine (HH.out _ H1.out).mono ?_; rintro r2 w2 ⟨rfl, hb⟩; have H2 := rhide ((H1.out.on hb).on (bal (Below.refl _ _) (.cells #[.bool y.inf, .int .i64 y.lf, .int .i64 y.pr] 33))); clear hb HH H1)
    | fail)
  go_ret
  exact ⟨rfl, H2.out.1, H2.out.2⟩
set_option maxRecDepth 100000 in
set_option maxHeartbeats 1000000 in
theorem give_t (p b N : Nat) (f g n k : Int) (M : Nat → Nat → Int) (w : World) (hM : Mx w p b N M) (a1 : 1 ≤ n ∧ n ≤ 1048576) (a2 : 0 ≤ k ∧ k ≤ 255) (a3 : f ≠ g) (hf : gtE N M f = 0) (hg : gtE N M g = 0) (ht : gvT (bdOf M f) (bdOf M g) n ≠ 0) :
    Calls Tryd.prog 11 #[.pointer (some ⟨p, 0, none⟩), .int .i64 f, .int .i64 g, .int .i64 n, .int .i64 k] w fun e w' => e = .returned (.int .i64 (gvT (bdOf M f) (bdOf M g) n)) ∧ Mx w' p b N M ∧ But b w w' := by
  have H0 : Hid (Kx w w p b N M) := ⟨hM, But.refl _ _⟩
  have g1 : ¬ n < 1 := by omega
  have g2 : ¬ 1048576 < n := by omega
  have g3 : ¬ k < 0 := by omega
  have g4 : ¬ 255 < k := by omega
  have g5 : (f == g) = false := by simp [a3]
  have HG : Hid (∀ wc, Kx w wc p b N M → Calls Tryd.prog 15 #[.pointer (some ⟨p, 0, none⟩), .int .i64 f] wc fun e w' => e = .returned (.tuple #[.agg #[.bool (gtT N M f).inf, .int .i64 (gtT N M f).lf, .int .i64 (gtT N M f).pr], .int .i64 (gtE N M f)]) ∧ Below wc.heap.size wc w') := fun wc h => get_any p b N f M wc h.1
  have HH : Hid (∀ wc, Kx w wc p b N M → Calls Tryd.prog 15 #[.pointer (some ⟨p, 0, none⟩), .int .i64 g] wc fun e w' => e = .returned (.tuple #[.agg #[.bool (gtT N M g).inf, .int .i64 (gtT N M g).lf, .int .i64 (gtT N M g).pr], .int .i64 (gtE N M g)]) ∧ Below wc.heap.size wc w') := fun wc h => get_any p b N g M wc h.1
  have HR : Hid (∀ wc, Calls Tryd.prog 38 #[.agg #[.bool (bdOf M f).inf, .int .i64 (bdOf M f).lf, .int .i64 (bdOf M f).pr], .agg #[.bool (bdOf M g).inf, .int .i64 (bdOf M g).lf, .int .i64 (bdOf M g).pr], .int .i64 n] wc fun e w' => e = .returned (.int .i64 (gvT (bdOf M f) (bdOf M g) n)) ∧ Below wc.heap.size wc w') := fun wc => refusal_any _ _ n a1 wc
  rw [hf, (gt_yes hf).2.2.2] at HG
  rw [hg, (gt_yes hg).2.2.2] at HH
  generalize gvT (bdOf M f) (bdOf M g) n = E at HR ht ⊢
  generalize bdOf M f = x at HG HR
  generalize bdOf M g = y at HH HR
  have hE : (E != 0) = true := by simp [ht]
  clear a1 a2 a3 hM hf hg ht
  go_enter Tryd.func11, Tryd.ntmps11
  go_upto_region 6 with (first
    | (go_at_call 15; refine (HG.out _ H0.out).mono ?_; rintro r1 w1 ⟨rfl, hb⟩; have H1 := gv_one x (H0.out.on hb); clear hb HG H0)
    | fail)
  generalize w1.alloc _ = v1 at H1 ⊢
  generalize w1.heap.size = A at H1 ⊢
  have H2 := rhide H1
  clear H1
  go_upto_region 9 with (first
    | (go_at_call 15; refine (HH.out _ H2.out.1).mono ?_; rintro r2 w2 ⟨rfl, hb⟩; have H3 := gv_two y H2.out hb; clear hb HH H2)
    | fail)
  generalize w2.alloc _ = v at H3 ⊢
  generalize w2.heap.size = B at H3 ⊢
  have H4 := rhide H3
  clear H3
  have x0 := H4.out.ra.c0
  have x1 := H4.out.ra.c1
  have x2 := H4.out.ra.c2
  have y0 := H4.out.rb.c0
  have y1 := H4.out.rb.c1
  have y2 := H4.out.rb.c2
  go_wp2_with (first
    | (go_at_call 38; refine (HR.out _).mono ?_; rintro r3 w3 ⟨rfl, hb⟩; have H5 := rhide (H4.out.k.on hb); clear hb HR H4)
    | fail)
  go_ret
  exact ⟨rfl, H5.out.1, H5.out.2⟩
set_option maxRecDepth 100000 in
set_option maxHeartbeats 2000000 in
theorem give_ok (p b N : Nat) (f g n k : Int) (M : Nat → Nat → Int) (w : World) (hM : Mx w p b N M) (a1 : 1 ≤ n ∧ n ≤ 1048576) (a2 : 0 ≤ k ∧ k ≤ 255) (a3 : f ≠ g) (hf : gtE N M f = 0) (hg : gtE N M g = 0) (e1 : gvE N M f g n k = 0) :
    Calls Tryd.prog 11 #[.pointer (some ⟨p, 0, none⟩), .int .i64 f, .int .i64 g, .int .i64 n, .int .i64 k] w fun e w' => e = .returned (.int .i64 0) ∧ Mx w' p b N (gvM N M f g n k) ∧ But b w w' := by
  have H0 : Hid (Kx w w p b N M) := ⟨hM, But.refl _ _⟩
  have g1 : ¬ n < 1 := by omega
  have g2 : ¬ 1048576 < n := by omega
  have g3 : ¬ k < 0 := by omega
  have g4 : ¬ 255 < k := by omega
  have g5 : (f == g) = false := by simp [a3]
  have HG : Hid (∀ wc, Kx w wc p b N M → Calls Tryd.prog 15 #[.pointer (some ⟨p, 0, none⟩), .int .i64 f] wc fun e w' => e = .returned (.tuple #[.agg #[.bool (gtT N M f).inf, .int .i64 (gtT N M f).lf, .int .i64 (gtT N M f).pr], .int .i64 (gtE N M f)]) ∧ Below wc.heap.size wc w') := fun wc h => get_any p b N f M wc h.1
  have HH : Hid (∀ wc, Kx w wc p b N M → Calls Tryd.prog 15 #[.pointer (some ⟨p, 0, none⟩), .int .i64 g] wc fun e w' => e = .returned (.tuple #[.agg #[.bool (gtT N M g).inf, .int .i64 (gtT N M g).lf, .int .i64 (gtT N M g).pr], .int .i64 (gtE N M g)]) ∧ Below wc.heap.size wc w') := fun wc h => get_any p b N g M wc h.1
  have HR : Hid (∀ wc, Calls Tryd.prog 38 #[.agg #[.bool (bdOf M f).inf, .int .i64 (bdOf M f).lf, .int .i64 (bdOf M f).pr], .agg #[.bool (bdOf M g).inf, .int .i64 (bdOf M g).lf, .int .i64 (bdOf M g).pr], .int .i64 n] wc fun e w' => e = .returned (.int .i64 (gvT (bdOf M f) (bdOf M g) n)) ∧ Below wc.heap.size wc w') := fun wc => refusal_any _ _ n a1 wc
  rw [hf, (gt_yes hf).2.2.2] at HG
  rw [hg, (gt_yes hg).2.2.2] at HH
  have ht : gvT (bdOf M f) (bdOf M g) n = 0 := by unfold gvE at e1; rwa [if_pos ((gvA_iff f g n k).2 ⟨a1, a2, a3⟩), if_pos hf, if_pos hg] at e1
  obtain ⟨b1, b2⟩ := gv_bo e1
  have hx := gv_chX e1
  have hg0 : 0 ≤ g := (okF_yes (isE_ok (gt_yes hg).1)).1
  obtain ⟨o1, _, o3⟩ := gt_other (N := N) (M := M) (f := f) (g := g) (l := (gvX (bdOf M f) n).ws) hg0 (fun h => a3 h.symm)
  have e2 : gvM N M f g n k = layF N (layF N M f (gvX (bdOf M f) n).ws) g (gvY (bdOf M g) n k).ws := by unfold gvM; rw [if_pos e1]
  rw [ht] at HR
  rw [e2]
  have HC1 : Hid (∀ wc D, Kx w wc p b N M → wc.cell? ⟨D, 0, none⟩ = some (.int .i64 n) → Calls Tryd.prog 39 #[.pointer (some ⟨p, 0, none⟩), .int .i64 f, .func (.func 61) #[] #[.pointer (some ⟨D, 0, none⟩)]] wc fun e w' => e = .returned (.tuple #[.agg #[.bool (gvX (bdOf M f) n).inf, .int .i64 (gvX (bdOf M f) n).lf, .int .i64 (gvX (bdOf M f) n).pr], .int .i64 0]) ∧ Kx w w' p b N (layF N M f (gvX (bdOf M f) n).ws)) := fun wc D h hc => by
    have := change_less p b N f n D M wc h.1 hf (by omega) hc (by rw [hx]; exact b1)
    rw [hx] at this
    exact this.mono fun e w' ⟨q1, q2, q3⟩ => ⟨q1, h.turn q2 q3⟩
  have HC2 : Hid (∀ wc D E, Kx w wc p b N (layF N M f (gvX (bdOf M f) n).ws) → wc.cell? ⟨D, 0, none⟩ = some (.int .i64 n) → wc.cell? ⟨E, 0, none⟩ = some (.int .i64 k) → Calls Tryd.prog 39 #[.pointer (some ⟨p, 0, none⟩), .int .i64 g, .func (.func 62) #[] #[.pointer (some ⟨D, 0, none⟩), .pointer (some ⟨E, 0, none⟩)]] wc fun e w' => e = .returned (.tuple #[.agg #[.bool (gvY (bdOf M g) n k).inf, .int .i64 (gvY (bdOf M g) n k).lf, .int .i64 (gvY (bdOf M g) n k).pr], .int .i64 0]) ∧ Kx w w' p b N (layF N (layF N M f (gvX (bdOf M f) n).ws) g (gvY (bdOf M g) n k).ws)) := fun wc D E h hc hd => by
    have := change_more p b N g n k D E _ wc h.1 (o1.trans hg) (by omega) hc hd (by rw [o3]; exact b2)
    rw [o3] at this
    exact this.mono fun e w' ⟨q1, q2, q3⟩ => ⟨q1, h.turn q2 q3⟩
  have HL : Hid (∀ wc, Kx w wc p b N M → Calls Tryd.prog 40 #[.int .i64 n] wc fun e w' => e = .returned (.func (.func 61) #[] #[.pointer (some ⟨wc.heap.size, 0, none⟩)]) ∧ Kx w w' p b N M ∧ w'.cell? ⟨wc.heap.size, 0, none⟩ = some (.int .i64 n)) := fun wc h => (less_any n wc).mono fun e w' ⟨h1, h2⟩ => ⟨h1, by rw [h2]; exact ⟨h.on (bal (Below.refl _ _) _), cell_alloc wc _ _⟩⟩
  have HMo : Hid (∀ wc M1, Kx w wc p b N M1 → Calls Tryd.prog 41 #[.int .i64 n, .int .i64 k] wc fun e w' => e = .returned (.func (.func 62) #[] #[.pointer (some ⟨wc.heap.size, 0, none⟩), .pointer (some ⟨wc.heap.size + 1, 0, none⟩)]) ∧ Kx w w' p b N M1 ∧ w'.cell? ⟨wc.heap.size, 0, none⟩ = some (.int .i64 n) ∧ w'.cell? ⟨wc.heap.size + 1, 0, none⟩ = some (.int .i64 k)) := fun wc M1 h => (more_any n k wc).mono fun e w' ⟨h1, h2⟩ => ⟨h1, by
    rw [h2]
    have c2 := cell_alloc (wc.alloc (.cells #[.int .i64 n] 3)) (.int .i64 k) 3
    rw [World.size_alloc] at c2
    exact ⟨h.on (bal (bal (Below.refl _ _) _) _), kept (bal (Below.refl _ _) _) (cell_alloc wc _ _), c2⟩⟩
  clear e1 e2 a1 a2 a3 hM hf hg ht b1 b2 hx hg0 o1 o3
  generalize layF N (layF N M f (gvX (bdOf M f) n).ws) g (gvY (bdOf M g) n k).ws = M2 at HC2 ⊢
  generalize layF N M f (gvX (bdOf M f) n).ws = M1 at HC1 HC2
  generalize gvX (bdOf M f) n = x' at HC1
  generalize gvY (bdOf M g) n k = y' at HC2
  generalize bdOf M f = x at HG HR
  generalize bdOf M g = y at HH HR
  go_enter Tryd.func11, Tryd.ntmps11
  go_upto_region 6 with (first
    | (go_at_call 15; refine (HG.out _ H0.out).mono ?_; rintro r1 w1 ⟨rfl, hb⟩; have H1 := gv_one x (H0.out.on hb); clear hb HG H0)
    | fail)
  generalize w1.alloc _ = v1 at H1 ⊢
  generalize w1.heap.size = A at H1 ⊢
  have H2 := rhide H1
  clear H1
  go_upto_region 9 with (first
    | (go_at_call 15; refine (HH.out _ H2.out.1).mono ?_; rintro r2 w2 ⟨rfl, hb⟩; have H3 := gv_two y H2.out hb; clear hb HH H2)
    | fail)
  generalize w2.alloc _ = v at H3 ⊢
  generalize w2.heap.size = B at H3 ⊢
  have H4 := rhide H3
  clear H3
  have x0 := H4.out.ra.c0
  have x1 := H4.out.ra.c1
  have x2 := H4.out.ra.c2
  have y0 := H4.out.rb.c0
  have y1 := H4.out.rb.c1
  have y2 := H4.out.rb.c2
  go_wp2_with (first
    | (go_at_call 38; refine (HR.out _).mono ?_; rintro r3 w3 ⟨rfl, hb⟩; have H5 := rhide (H4.out.k.on hb); clear hb HR H4 x0 x1 x2 y0 y1 y2)
    | (go_at_call 40; refine (HL.out _ H5.out).mono ?_; rintro r4 w4 ⟨rfl, hk⟩; have H6 := rhide hk; clear hk HL H5)
    | (go_at_call 39; refine (HC1.out _ _ H6.out.1 H6.out.2).mono ?_; rintro r5 w5 ⟨rfl, hk⟩; have H7 := rhide (hk.on (bal (Below.refl _ _) (.cells #[.bool x'.inf, .int .i64 x'.lf, .int .i64 x'.pr] 33))); clear hk HC1 H6)
    | (go_at_call 41; refine (HMo.out _ _ H7.out).mono ?_; rintro r6 w6 ⟨rfl, hk⟩; simp only [World.size_alloc] at hk; have H8 := rhide hk; clear hk HMo H7)
    | (go_at_call 39; refine (HC2.out _ _ _ H8.out.1 H8.out.2.1 H8.out.2.2).mono ?_; rintro r7 w7 ⟨rfl, hk⟩; have H9 := rhide hk; clear hk HC2 H8)
    | fail)
  go_ret
  exact ⟨rfl, H9.out.1, H9.out.2⟩
theorem give_any (p b N : Nat) (f g n k : Int) (M : Nat → Nat → Int) (w : World) (hM : Mx w p b N M) :
    Calls Tryd.prog 11 #[.pointer (some ⟨p, 0, none⟩), .int .i64 f, .int .i64 g, .int .i64 n, .int .i64 k] w fun e w' => e = .returned (.int .i64 (gvE N M f g n k)) ∧ Mx w' p b N (gvM N M f g n k) ∧ But b w w' := by
  by_cases ha : gvA f g n k = true
  case neg =>
    have e1 : gvE N M f g n k = 1 := by unfold gvE; rw [if_neg ha]
    have e2 : gvM N M f g n k = M := by unfold gvM; rw [e1, if_neg (by decide)]
    rw [e1, e2]
    exact give_no p b N f g n k M w hM ha
  obtain ⟨a1, a2, a3⟩ := (gvA_iff f g n k).1 ha
  by_cases hf : gtE N M f = 0
  case neg =>
    have e1 : gvE N M f g n k = gtE N M f := by unfold gvE; rw [if_pos ha, if_neg hf]
    have e2 : gvM N M f g n k = M := by unfold gvM; rw [e1, if_neg hf]
    rw [e1, e2]
    exact give_f p b N f g n k M w hM a1 a2 a3 hf
  by_cases hg : gtE N M g = 0
  case neg =>
    have e1 : gvE N M f g n k = gtE N M g := by unfold gvE; rw [if_pos ha, if_pos hf, if_neg hg]
    have e2 : gvM N M f g n k = M := by unfold gvM; rw [e1, if_neg hg]
    rw [e1, e2]
    exact give_g p b N f g n k M w hM a1 a2 a3 hf hg
  have e0 : gvE N M f g n k = gvT (bdOf M f) (bdOf M g) n := by unfold gvE; rw [if_pos ha, if_pos hf, if_pos hg]
  by_cases ht : gvT (bdOf M f) (bdOf M g) n = 0
  case neg =>
    have e2 : gvM N M f g n k = M := by unfold gvM; rw [e0, if_neg ht]
    rw [e0, e2]
    exact give_t p b N f g n k M w hM a1 a2 a3 hf hg ht
  rw [e0, ht]
  exact give_ok p b N f g n k M w hM a1 a2 a3 hf hg (e0.trans ht)
/-! ### awake -/
set_option maxRecDepth 100000 in
theorem awake_any (w : World) : Calls Tryd.prog 24 #[] w fun e w' => e = .returned (.bool true) ∧ Below w.heap.size w w' := by
  have HA : Hid (∀ wc, Calls Tryd.prog 21 #[.agg #[.bool true, .int .i64 1, .int .i64 0]] wc fun e w' => e = .returned (.int .i64 1) ∧ Below wc.heap.size wc w') := fun wc => check_any ⟨true, 1, 0⟩ (by unfold Fb In64; dsimp only; omega) wc
  have HZ : Hid (∀ wc, Calls Tryd.prog 21 #[.agg #[.bool false, .int .i64 0, .int .i64 0]] wc fun e w' => e = .returned (.int .i64 0) ∧ Below wc.heap.size wc w') := fun wc => check_any bd0 (by unfold Fb In64 bd0; dsimp only; omega) wc
  go_enter Tryd.func24, Tryd.ntmps24
  go_wp2_with (first
    | (go_at_call 21; refine (HA.out _).mono ?_; rintro r1 w1 ⟨rfl, hb⟩; have H1 := rhide hb; clear hb HA)
    | (go_at_call 21; refine (HZ.out _).mono ?_; rintro r2 w2 ⟨rfl, hb⟩; have H2 := rhide (H1.out.trans (hb.mono H1.out.size)); clear hb HZ H1)
    | fail)
  go_ret
  exact ⟨rfl, H2.out⟩
end Go.Proofs.YtlnckhebikiclaaDoor.Ptcap
