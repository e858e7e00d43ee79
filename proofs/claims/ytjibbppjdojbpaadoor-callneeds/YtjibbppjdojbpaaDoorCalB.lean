/- What Needs, Word, Number, width, Check, Put and Get of package call answer, for all arguments (written by mk_b.py). -/
import Derived.Test.YtjibbppjdojbpaaDoorCalA
import Derived.Test.YtjibbppjdojbpaaDoorCalT
import Derived.Deep.RegionWith
namespace Go.Proofs.YtjibbppjdojbpaaDoor.Pcall
open Go.Proofs.YtjibbppjdojbpaaDoor.Pbase Go.Proofs.YtjibbppjdojbpaaDoor.Pfield
open Go.RowKit M
set_option linter.unusedVariables false

/-! ### look, by number and by text -/
def rOf (n : Int) : Nat := if 0 ≤ n ∧ n ≤ 29 then n.toNat else 30
def nrB (n : Int) : Bool := decide (0 ≤ n ∧ n ≤ 29)
def nrI (n : Int) : Int := if 0 ≤ n ∧ n ≤ 29 then n else 0
theorem rOf_le (n : Int) : rOf n ≤ 30 := by unfold rOf; split <;> omega
theorem rOf_no (n : Int) (j : Nat) (h : j < rOf n) : ((j : Int) == n) = false := by
  unfold rOf at h
  split at h
  · exact beq_eq_false_iff_ne.2 (by omega)
  · exact beq_eq_false_iff_ne.2 (by omega)
theorem rOf_yes (n : Int) (h : rOf n < 30) : (((rOf n : Nat) : Int) == n) = true := by
  unfold rOf at h ⊢
  split at h
  · rename_i hn
    rw [if_pos hn]
    exact beq_iff_eq.2 (by omega)
  · omega
theorem rOf_all (n : Int) : lkI (rOf n) = nrI n ∧ lkT (rOf n) = wdT n ∧ lkN (rOf n) = ndI n ∧ decide (rOf n < 30) = nrB n := by
  unfold lkI lkT lkN rOf nrI nrB wdT ndI
  by_cases h : 0 ≤ n ∧ n ≤ 29
  · simp only [if_pos h]
    refine ⟨?_, trivial, trivial, ?_⟩
    · rw [if_pos (by omega)]; omega
    · rw [decide_eq_true h]; exact decide_eq_true (by omega)
  · simp only [if_neg h]
    exact ⟨if_neg (by omega), rfl, rfl, by rw [decide_eq_false h]; rfl⟩
theorem nuN_no (s : ByteArray) (j : Nat) (h : j < nuN s) : ((wsL[j]?.getD noT).toList == s.toList) = false := by
  have hl : j < wsL.length := Nat.lt_of_lt_of_le h List.findIdx_le_length
  have := List.not_of_lt_findIdx h
  rw [List.getElem?_eq_getElem hl, Option.getD_some]
  simpa using this
theorem nuN_yes (s : ByteArray) (h : nuN s < 30) : ((wsL[nuN s]?.getD noT).toList == s.toList) = true := by
  have hl : nuN s < wsL.length := h
  have := List.findIdx_getElem (w := hl)
  rw [List.getElem?_eq_getElem hl, Option.getD_some]
  exact this
theorem nuN_le (s : ByteArray) : nuN s ≤ 30 := List.findIdx_le_length
theorem nuN_all (s : ByteArray) : lkI (nuN s) = nuI s ∧ decide (nuN s < 30) = nuB s := by
  unfold lkI nuI nuB
  by_cases h : nuN s < 30
  · simp [h]
  · simp [h]
theorem lookn_any (B : Nat) (n : Int) (w : World) (hT : TabK w) (hc : w.cell? ⟨B, 0, none⟩ = some (.int .i64 n)) :
    Calls Tryd.prog 24 #[.func (.func 37) #[] #[.pointer (some ⟨B, 0, none⟩)]] w fun e w' => e = .returned (.tuple #[.int .i64 (nrI n), .agg #[.string (wdT n), .int .i64 (ndI n)], .bool (nrB n)]) ∧ Below w.heap.size w w' := by
  obtain ⟨e1, e2, e3, e4⟩ := rOf_all n
  rw [← e1, ← e2, ← e3, ← e4]
  exact look_num B n w hT hc (rOf n) (rOf_le n) (rOf_no n) (rOf_yes n)
theorem looks_any (B : Nat) (s : ByteArray) (w : World) (hT : TabK w) (hc : w.cell? ⟨B, 0, none⟩ = some (.string s)) :
    Calls Tryd.prog 24 #[.func (.func 25) #[] #[.pointer (some ⟨B, 0, none⟩)]] w fun e w' => e = .returned (.tuple #[.int .i64 (nuI s), .agg #[.string (lkT (nuN s)), .int .i64 (lkN (nuN s))], .bool (nuB s)]) ∧ Below w.heap.size w w' := by
  obtain ⟨e1, e4⟩ := nuN_all s
  rw [← e1, ← e4]
  exact look_str B s w hT hc (nuN s) (nuN_le s) (nuN_no s) (nuN_yes s)
theorem ndc_any (n : Int) (w : World) (hT : TabK w) : Calls Tryd.prog 27 #[.int .i64 n] w fun e w' => e = .returned (.func (.func 37) #[] #[.pointer (some ⟨w.heap.size, 0, none⟩)]) ∧ TabK w' ∧ w'.cell? ⟨w.heap.size, 0, none⟩ = some (.int .i64 n) ∧ Below w.heap.size w w' :=
  (nd_any n w).mono fun e w' ⟨h1, h2⟩ => by
    subst h2
    exact ⟨h1, hT.on (bal (Below.refl _ _) _), (cell_of_row _ _ 0 _ _ _ (heap_alloc_new w _)).trans rfl, bal (Below.refl _ _) _⟩
/-! ### Needs, Word, Number -/
set_option maxRecDepth 100000 in
theorem needs_any (n : Int) (w : World) (hT : TabK w) : Calls Tryd.prog 14 #[.int .i64 n] w fun e w' => e = .returned (.int .i64 (ndI n)) ∧ Below w.heap.size w w' := by
  have HT := chide hT
  clear hT
  go_enter Tryd.func14, Tryd.ntmps14
  go_wp2_with (first
    | (go_at_call 27; refine (ndc_any n _ HT.out).mono ?_; rintro e1 w1 ⟨rfl, hk, hc, hb⟩; have H1 : Hid (TabK w1 ∧ w1.cell? ⟨w.heap.size, 0, none⟩ = some (.int .i64 n) ∧ Below w.heap.size w w1) := ⟨hk, hc, hb⟩; clear hk hc hb)
    | (go_at_call 24; refine (lookn_any _ n _ H1.out.1 H1.out.2.1).mono ?_; rintro e2 w2 ⟨rfl, hb⟩; have H2 : Hid (Below w.heap.size w w2) := H1.out.2.2.trans (hb.mono H1.out.2.2.size); clear hb)
    | fail)
  go_ret
  exact ⟨rfl, bal H2.out _⟩
set_option maxRecDepth 100000 in
theorem word_any (n : Int) (w : World) (hT : TabK w) : Calls Tryd.prog 16 #[.int .i64 n] w fun e w' => e = .returned (.string (wdT n)) ∧ Below w.heap.size w w' := by
  have HT := chide hT
  clear hT
  go_enter Tryd.func16, Tryd.ntmps16
  go_wp2_with (first
    | (go_at_call 27; refine (ndc_any n _ HT.out).mono ?_; rintro e1 w1 ⟨rfl, hk, hc, hb⟩; have H1 : Hid (TabK w1 ∧ w1.cell? ⟨w.heap.size, 0, none⟩ = some (.int .i64 n) ∧ Below w.heap.size w w1) := ⟨hk, hc, hb⟩; clear hk hc hb)
    | (go_at_call 24; refine (lookn_any _ n _ H1.out.1 H1.out.2.1).mono ?_; rintro e2 w2 ⟨rfl, hb⟩; have H2 : Hid (Below w.heap.size w w2) := H1.out.2.2.trans (hb.mono H1.out.2.2.size); clear hb)
    | fail)
  go_ret
  exact ⟨rfl, bal H2.out _⟩
set_option maxRecDepth 100000 in
theorem number_any (s : ByteArray) (w : World) (hT : TabK w) : Calls Tryd.prog 10 #[.string s] w fun e w' => e = .returned (.tuple #[.int .i64 (nuI s), .bool (nuB s)]) ∧ Below w.heap.size w w' := by
  have H1 : Hid (TabK (w.alloc (.cells #[.string s] 9)) ∧ (w.alloc (.cells #[.string s] 9)).cell? ⟨w.heap.size, 0, none⟩ = some (.string s) ∧ Below w.heap.size w (w.alloc (.cells #[.string s] 9))) := ⟨hT.on (bal (Below.refl _ _) _), (cell_of_row _ _ 0 _ _ _ (heap_alloc_new w _)).trans rfl, bal (Below.refl _ _) _⟩
  clear hT
  go_enter Tryd.func10, Tryd.ntmps10
  go_upto_region 1 with fail
  generalize w.alloc _ = w1 at H1 ⊢
  go_wp2_with (first
    | (go_at_call 24; refine (looks_any _ s _ H1.out.1 H1.out.2.1).mono ?_; rintro e2 w2 ⟨rfl, hb⟩; have H2 : Hid (Below w.heap.size w w2) := H1.out.2.2.trans (hb.mono H1.out.2.2.size); clear hb)
    | fail)
  go_ret2
  exact ⟨rfl, bal H2.out _⟩
/-! ### width -/
def wiI (z : Int) (i : Nat) : Int := if z ≤ i then 0 else wl[i + 1]?.getD 0
set_option maxRecDepth 100000 in
theorem width_any (t : ByteArray) (z : Int) (i : Nat) (hi : i < 5) (w : World) (hW : TabW w) : Calls Tryd.prog 29 #[.agg #[.string t, .int .i64 z], .int .i64 (i : Nat)] w fun e w' => e = .returned (.int .i64 (wiI z i)) ∧ Below w.heap.size w w' := by
  have gl := hW.lt
  have g1 : w.cell? ⟨0, 1, none⟩ = some (.int .i64 8) := hW.cell 1
  have g2 : w.cell? ⟨0, 2, none⟩ = some (.int .i64 16) := hW.cell 2
  have g3 : w.cell? ⟨0, 3, none⟩ = some (.int .i64 16) := hW.cell 3
  have g4 : w.cell? ⟨0, 4, none⟩ = some (.int .i64 8) := hW.cell 4
  have g5 : w.cell? ⟨0, 5, none⟩ = some (.int .i64 8) := hW.cell 5
  clear hW
  unfold wiI
  rcases (show i = 0 ∨ i = 1 ∨ i = 2 ∨ i = 3 ∨ i = 4 by omega) with rfl | rfl | rfl | rfl | rfl
  · by_cases hz : z ≤ ((0 : Nat) : Int)
    · rw [if_pos hz]
      have hz' : z ≤ 0 := hz
      clear hz
      go_enter Tryd.func29, Tryd.ntmps29
      go_wp2
      go_ret
      exact ⟨rfl, bal (Below.refl _ _) _⟩
    · rw [if_neg hz]
      have hz' : ¬ z ≤ 0 := hz
      clear hz
      go_enter Tryd.func29, Tryd.ntmps29
      go_wp2
      go_ret
      exact ⟨rfl, bal (Below.refl _ _) _⟩
  · by_cases hz : z ≤ ((1 : Nat) : Int)
    · rw [if_pos hz]
      have hz' : z ≤ 1 := hz
      clear hz
      go_enter Tryd.func29, Tryd.ntmps29
      go_wp2
      go_ret
      exact ⟨rfl, bal (Below.refl _ _) _⟩
    · rw [if_neg hz]
      have hz' : ¬ z ≤ 1 := hz
      clear hz
      go_enter Tryd.func29, Tryd.ntmps29
      go_wp2
      go_ret
      exact ⟨rfl, bal (Below.refl _ _) _⟩
  · by_cases hz : z ≤ ((2 : Nat) : Int)
    · rw [if_pos hz]
      have hz' : z ≤ 2 := hz
      clear hz
      go_enter Tryd.func29, Tryd.ntmps29
      go_wp2
      go_ret
      exact ⟨rfl, bal (Below.refl _ _) _⟩
    · rw [if_neg hz]
      have hz' : ¬ z ≤ 2 := hz
      clear hz
      go_enter Tryd.func29, Tryd.ntmps29
      go_wp2
      go_ret
      exact ⟨rfl, bal (Below.refl _ _) _⟩
  · by_cases hz : z ≤ ((3 : Nat) : Int)
    · rw [if_pos hz]
      have hz' : z ≤ 3 := hz
      clear hz
      go_enter Tryd.func29, Tryd.ntmps29
      go_wp2
      go_ret
      exact ⟨rfl, bal (Below.refl _ _) _⟩
    · rw [if_neg hz]
      have hz' : ¬ z ≤ 3 := hz
      clear hz
      go_enter Tryd.func29, Tryd.ntmps29
      go_wp2
      go_ret
      exact ⟨rfl, bal (Below.refl _ _) _⟩
  · by_cases hz : z ≤ ((4 : Nat) : Int)
    · rw [if_pos hz]
      have hz' : z ≤ 4 := hz
      clear hz
      go_enter Tryd.func29, Tryd.ntmps29
      go_wp2
      go_ret
      exact ⟨rfl, bal (Below.refl _ _) _⟩
    · rw [if_neg hz]
      have hz' : ¬ z ≤ 4 := hz
      clear hz
      go_enter Tryd.func29, Tryd.ntmps29
      go_wp2
      go_ret
      exact ⟨rfl, bal (Below.refl _ _) _⟩
/-! ### Check -/
theorem fits_ok {x : Cl} (hx : Fc x) {i : Nat} (hi : i < 5) : fitsB (IntKind.u64.wrap (x.v i)) (wiI (ndI x.n) i) = okB x i := by
  have hv : I64 (x.v i) := by
    obtain ⟨_, h0, h1, h2, h3, h4⟩ := hx
    rcases (show i = 0 ∨ i = 1 ∨ i = 2 ∨ i = 3 ∨ i = 4 by omega) with rfl | rfl | rfl | rfl | rfl <;> assumption
  unfold I64 at hv
  have m0 : maskF 0 = 0 := by decide
  have hm : ndI x.n ≤ i → maskF (wiI (ndI x.n) i) = 0 := fun h => by unfold wiI; rw [if_pos h, m0]
  have hm' : ¬ ndI x.n ≤ i → maskF (wiI (ndI x.n) i) = mxI i := fun h => by
    unfold wiI
    rw [if_neg h]
    rcases (show i = 0 ∨ i = 1 ∨ i = 2 ∨ i = 3 ∨ i = 4 by omega) with rfl | rfl | rfl | rfl | rfl
    · exact mask8
    · exact mask16
    · exact mask16
    · exact mask8
    · exact mask8
  have hmx : 0 ≤ mxI i ∧ mxI i ≤ 65535 := by
    rcases (show i = 0 ∨ i = 1 ∨ i = 2 ∨ i = 3 ∨ i = 4 by omega) with rfl | rfl | rfl | rfl | rfl <;> simp [mxI]
  have hw : IntKind.u64.wrap (x.v i) = if 0 ≤ x.v i then x.v i else x.v i + 18446744073709551616 := by
    simp [IntKind.wrap, IntKind.bits, IntKind.signed] at *
    split <;> omega
  rw [Bool.eq_iff_iff, okB_iff, fitsB, decide_eq_true_eq]
  by_cases h : ndI x.n ≤ i
  · rw [hm h, hw]
    split <;> omega
  · rw [hm' h, hw]
    split <;> omega
set_option maxRecDepth 100000 in
theorem idx_arr (a b c d e : Int) (w : World) : (Instr.index 22 (.agg #[.int .i64 a, .int .i64 b, .int .i64 c, .int .i64 d, .int .i64 e]) (.int .i64 ((0 : Nat) : Int))).run Tryd.prog w = .ok (.int .i64 a) w ∧ (Instr.index 22 (.agg #[.int .i64 a, .int .i64 b, .int .i64 c, .int .i64 d, .int .i64 e]) (.int .i64 ((1 : Nat) : Int))).run Tryd.prog w = .ok (.int .i64 b) w ∧ (Instr.index 22 (.agg #[.int .i64 a, .int .i64 b, .int .i64 c, .int .i64 d, .int .i64 e]) (.int .i64 ((2 : Nat) : Int))).run Tryd.prog w = .ok (.int .i64 c) w ∧ (Instr.index 22 (.agg #[.int .i64 a, .int .i64 b, .int .i64 c, .int .i64 d, .int .i64 e]) (.int .i64 ((3 : Nat) : Int))).run Tryd.prog w = .ok (.int .i64 d) w ∧ (Instr.index 22 (.agg #[.int .i64 a, .int .i64 b, .int .i64 c, .int .i64 d, .int .i64 e]) (.int .i64 ((4 : Nat) : Int))).run Tryd.prog w = .ok (.int .i64 e) w :=
  ⟨by kernel_rfl, by kernel_rfl, by kernel_rfl, by kernel_rfl, by kernel_rfl⟩
theorem idx_v (x : Cl) {k : Nat} (hk : k < 5) (w : World) : (Instr.index 22 (.agg #[.int .i64 x.a, .int .i64 x.b, .int .i64 x.c, .int .i64 x.d, .int .i64 x.e]) (.int .i64 (k : Nat))).run Tryd.prog w = .ok (.int .i64 (x.v k)) w := by
  obtain ⟨h0, h1, h2, h3, h4⟩ := idx_arr x.a x.b x.c x.d x.e w
  rcases (show k = 0 ∨ k = 1 ∨ k = 2 ∨ k = 3 ∨ k = 4 by omega) with rfl | rfl | rfl | rfl | rfl <;> assumption
structure ChI (w W : World) (D : Nat) (t : ByteArray) (z : Int) : Prop where
  knd : RowX W D [.string t, .int .i64 z]
  tab : TabW W
  below : Below w.heap.size w W
theorem ChI.on {w W W' : World} {D : Nat} {t : ByteArray} {z : Int} (h : ChI w W D t z) (hB : Below W.heap.size W W') : ChI w W' D t z :=
  ⟨h.knd.on hB, h.tab.on hB, h.below.trans (hB.mono h.below.size)⟩
set_option maxRecDepth 100000 in
set_option maxHeartbeats 4000000 in
theorem check_any (x : Cl) (hx : Fc x) (w : World) (hT : Tz w) : Calls Tryd.prog 12 #[.agg #[.int .i64 x.n, .int .i64 x.a, .int .i64 x.b, .int .i64 x.c, .int .i64 x.d, .int .i64 x.e]] w fun e w' => e = .returned (.int .i64 (kcE x)) ∧ Below w.heap.size w w' := by
  have H0 : Hid (RowC (w.alloc (.cells #[.int .i64 x.n, .int .i64 x.a, .int .i64 x.b, .int .i64 x.c, .int .i64 x.d, .int .i64 x.e] 24)) w.heap.size x ∧ Tz (w.alloc (.cells #[.int .i64 x.n, .int .i64 x.a, .int .i64 x.b, .int .i64 x.c, .int .i64 x.d, .int .i64 x.e] 24)) ∧ Below w.heap.size w (w.alloc (.cells #[.int .i64 x.n, .int .i64 x.a, .int .i64 x.b, .int .i64 x.c, .int .i64 x.d, .int .i64 x.e] 24))) := ⟨rowC_new w x, hT.on (bal (Below.refl _ _) _), bal (Below.refl _ _) _⟩
  have HX := chide hx
  clear hx hT
  by_cases hn : 0 ≤ x.n ∧ x.n ≤ 29
  · have HR : Hid (nrB x.n = true) := decide_eq_true hn
    have HK : Hid (kcE x = if rcB x = true then 0 else 1) := rfl
    obtain ⟨z, hz⟩ : ∃ z, z = ndI x.n := ⟨_, rfl⟩
    obtain ⟨t, ht⟩ : ∃ t, t = wdT x.n := ⟨_, rfl⟩
    have HZ := chide hz
    have HC : Hid (∀ W B, TabK W → W.cell? ⟨B, 0, none⟩ = some (.int .i64 x.n) → Calls Tryd.prog 24 #[.func (.func 37) #[] #[.pointer (some ⟨B, 0, none⟩)]] W fun e w' => e = .returned (.tuple #[.int .i64 (nrI x.n), .agg #[.string t, .int .i64 z], .bool true]) ∧ Below W.heap.size W w') := fun W B h1 h2 => by
      rw [hz, ht, ← HR.out]; exact lookn_any B x.n W h1 h2
    have HO : Hid (rcB x = true ∨ rcB x = false) := by cases rcB x <;> simp [Hid]
    have HN := chide hn
    clear hn hz ht HR
    obtain ⟨E, hE⟩ : ∃ E, E = kcE x := ⟨_, rfl⟩
    rw [← hE]
    have HE := chide hE
    clear hE
    go_enter Tryd.func12, Tryd.ntmps12
    go_upto_region 1 with fail
    generalize w.alloc _ = w1 at H0 ⊢
    have q0 := H0.out.1.c0
    go_upto_region 4 with (first
      | (go_at_call 27; refine (ndc_any _ _ H0.out.2.1.k).mono ?_; rintro e2 w2 ⟨rfl, hk, hc, hb⟩; have H2 : Hid (RowC w2 w.heap.size x ∧ Tz w2 ∧ w2.cell? ⟨w1.heap.size, 0, none⟩ = some (.int .i64 x.n) ∧ Below w.heap.size w w2) := ⟨H0.out.1.on hb, H0.out.2.1.on hb, hc, H0.out.2.2.trans (hb.mono H0.out.2.2.size)⟩; clear hk hc hb H0)
      | (go_at_call 24; refine (HC.out _ _ H2.out.2.1.k H2.out.2.2.1).mono ?_; rintro e3 w3 ⟨rfl, hb⟩; have H3 : Hid (RowC w3 w.heap.size x ∧ Tz w3 ∧ Below w.heap.size w w3) := ⟨H2.out.1.on hb, H2.out.2.1.on hb, H2.out.2.2.2.trans (hb.mono H2.out.2.2.2.size)⟩; clear hb H2 HC)
      | fail)
    have H4 : Hid (RowC (w3.alloc (.cells #[.string t, .int .i64 z] 58)) w.heap.size x ∧ ChI w (w3.alloc (.cells #[.string t, .int .i64 z] 58)) w3.heap.size t z) := ⟨H3.out.1.on (bal (Below.refl _ _) _), rowX_new w3 [.string t, .int .i64 z] _, H3.out.2.1.d.on (bal (Below.refl _ _) _), bal H3.out.2.2 _⟩
    generalize w3.alloc _ = w4 at H4 ⊢
    generalize w3.heap.size = D at H4 ⊢
    clear H3 q0
    have q1 := H4.out.1.c1
    have q2 := H4.out.1.c2
    have q3 := H4.out.1.c3
    have q4 := H4.out.1.c4
    have q5 := H4.out.1.c5
    go_wp2
    have HI0 := chide (fun (k : Nat) (hk : k < 5) W => idx_v x hk W)
    go_loopw [20] (fun i wr => ∃ k : Nat, k ≤ 5 ∧ i = .int .i64 k ∧ (∀ j, j < k → okB x j = true) ∧ ChI w wr D t z) (fun i _ => 5 - (intOf i).toNat)
    case atStart => exact ⟨0, by omega, rfl, fun j hj => by omega, H4.out.2⟩
    case round =>
      obtain ⟨k, hk, rfl, hJ, hI⟩ := hrel
      have HJ := chide hJ
      have HI := chide hI
      clear hJ hI H4 q1 q2 q3 q4 q5
      by_cases hlt : k < 5
      · have h3 : (k : Int) < 5 := by omega
        have i1 := HI0.out k hlt
        have hf := fits_ok HX.out hlt
        rw [← HZ.out] at hf
        have HW : Hid (∀ W, ChI w W D t z → Calls Tryd.prog 29 #[.agg #[.string t, .int .i64 z], .int .i64 (k : Nat)] W fun e w' => e = .returned (.int .i64 (wiI z k)) ∧ ChI w w' D t z) := fun W h => (width_any t z k hlt W h.tab).mono fun e w' ⟨h1, h2⟩ => ⟨h1, h.on h2⟩
        have HF : Hid (∀ W, Calls Tryd.prog 28 #[.int .u64 (IntKind.u64.wrap (x.v k)), .int .i64 (wiI z k)] W fun e w' => e = .returned (.bool (okB x k)) ∧ w' = W) := fun W => by
          rw [← hf]
          exact fits_any _ _ W (by simp [IntKind.wrap, IntKind.bits, IntKind.signed]; omega) (by simp [IntKind.wrap, IntKind.bits, IntKind.signed]; omega)
        clear hf HI0
        have y0 : wr.cell? ⟨D, 0, none⟩ = some (.string t) := HI.out.knd.cell 0
        have y1 : wr.cell? ⟨D, 1, none⟩ = some (.int .i64 z) := HI.out.knd.cell 1
        cases ho : okB x k
        · rw [ho] at HF
          have HQ : Hid (E = 1) := HE.out.trans (kc_no (rcB_i hlt ho))
          clear ho
          generalize wiI z k = v at HW HF
          generalize x.v k = u at i1 HF
          go_wp2_with (first
            | (go_at_call 29; refine (HW.out _ HI.out).mono ?_; rintro e5 w5 ⟨rfl, hc⟩; have H5 := chide hc; clear hc HW HI y0 y1)
            | (go_at_call 28; refine (HF.out _).mono ?_; rintro e6 w6 ⟨rfl, hw⟩; subst w6; clear HF)
            | fail)
          go_ret
          exact ⟨by rw [HQ.out]; rfl, H5.out.below⟩
        · rw [ho] at HF
          have HQ := chide ho
          clear ho
          generalize wiI z k = v at HW HF
          have i2 : ∀ W : World, (Instr.index 22 (.agg #[.int .i64 x.a, .int .i64 x.b, .int .i64 x.c, .int .i64 x.d, .int .i64 x.e]) (.int .i64 (k : Nat))).run Tryd.prog W = .ok (.int .i64 (x.v k)) W := i1
          clear i1
          generalize x.v k = u at i2 HF
          go_wp2_with (first
            | (go_at_call 29; refine (HW.out _ HI.out).mono ?_; rintro e5 w5 ⟨rfl, hc⟩; have H5 := chide hc; clear hc HW HI y0 y1)
            | (go_at_call 28; refine (HF.out _).mono ?_; rintro e6 w6 ⟨rfl, hw⟩; subst w6; clear HF)
            | fail)
          go_roundw
          case rel => exact ⟨k + 1, by omega, by go_num, fun j hj => by
            rcases (show j < k ∨ j = k by omega) with h | rfl
            · exact HJ.out j h
            · exact HQ.out, H5.out⟩
          case measure => simp [intOf]; omega
      · obtain rfl : k = 5 := by omega
        have HQ : Hid (E = 0) := HE.out.trans (kc_yes ((rcB_iff x).2 ⟨HN.out, HJ.out⟩))
        go_wp2
        go_ret
        exact ⟨by rw [HQ.out]; rfl, HI.out.below⟩
  · have HR : Hid (nrB x.n = false) := decide_eq_false hn
    rw [kc_no (rcB_n hn)]
    have HC : Hid (∀ W B, TabK W → W.cell? ⟨B, 0, none⟩ = some (.int .i64 x.n) → Calls Tryd.prog 24 #[.func (.func 37) #[] #[.pointer (some ⟨B, 0, none⟩)]] W fun e w' => e = .returned (.tuple #[.int .i64 (nrI x.n), .agg #[.string (wdT x.n), .int .i64 (ndI x.n)], .bool false]) ∧ Below W.heap.size W w') := fun W B h1 h2 => by
      rw [← HR.out]; exact lookn_any B x.n W h1 h2
    clear hn HR
    go_enter Tryd.func12, Tryd.ntmps12
    go_upto_region 1 with fail
    generalize w.alloc _ = w1 at H0 ⊢
    have q0 := H0.out.1.c0
    go_wp2_with (first
      | (go_at_call 27; refine (ndc_any _ _ H0.out.2.1.k).mono ?_; rintro e2 w2 ⟨rfl, hk, hc, hb⟩; have H2 : Hid (TabK w2 ∧ w2.cell? ⟨w1.heap.size, 0, none⟩ = some (.int .i64 x.n) ∧ Below w.heap.size w w2) := ⟨hk, hc, H0.out.2.2.trans (hb.mono H0.out.2.2.size)⟩; clear hk hc hb H0)
      | (go_at_call 24; refine (HC.out _ _ H2.out.1 H2.out.2.1).mono ?_; rintro e3 w3 ⟨rfl, hb⟩; have H3 : Hid (Below w.heap.size w w3) := H2.out.2.2.trans (hb.mono H2.out.2.2.size); clear hb H2 HC)
      | fail)
    go_ret
    exact ⟨rfl, bal H3.out _⟩
/-! ### Put -/
theorem wd_cells {w : World} (h : TabW w) : w.cell? ⟨0, 0, none⟩ = some (.int .i64 8) ∧ w.cell? ⟨0, 1, none⟩ = some (.int .i64 8) ∧ w.cell? ⟨0, 2, none⟩ = some (.int .i64 16) ∧ w.cell? ⟨0, 3, none⟩ = some (.int .i64 16) ∧ w.cell? ⟨0, 4, none⟩ = some (.int .i64 8) ∧ w.cell? ⟨0, 5, none⟩ = some (.int .i64 8) :=
  ⟨h.cell 0, h.cell 1, h.cell 2, h.cell 3, h.cell 4, h.cell 5⟩
theorem rowX_set {w : World} {B j : Nat} {vs : List Value} (h : RowX w B vs) (v : Value) : RowX (w.setCell ⟨B, j, none⟩ v) B (vs.set j v) := by
  obtain ⟨t, h⟩ := h.row
  refine ⟨t, ?_⟩
  rw [heap_setCell_same _ _ _ _ _ _ h]
  simp
/-- The parts of the word as far as they have been filled. -/
def aP (x : Cl) : Nat → List Value
  | 0 => [.int .u64 x.n, .int .u64 0, .int .u64 0, .int .u64 0, .int .u64 0, .int .u64 0]
  | 1 => [.int .u64 x.n, .int .u64 x.a, .int .u64 0, .int .u64 0, .int .u64 0, .int .u64 0]
  | 2 => [.int .u64 x.n, .int .u64 x.a, .int .u64 x.b, .int .u64 0, .int .u64 0, .int .u64 0]
  | 3 => [.int .u64 x.n, .int .u64 x.a, .int .u64 x.b, .int .u64 x.c, .int .u64 0, .int .u64 0]
  | 4 => [.int .u64 x.n, .int .u64 x.a, .int .u64 x.b, .int .u64 x.c, .int .u64 x.d, .int .u64 0]
  | _ => [.int .u64 x.n, .int .u64 x.a, .int .u64 x.b, .int .u64 x.c, .int .u64 x.d, .int .u64 x.e]
theorem aP_step (x : Cl) {k : Nat} (hk : k < 5) : (aP x k).set (k + 1) (.int .u64 (x.v k)) = aP x (k + 1) := by
  rcases (show k = 0 ∨ k = 1 ∨ k = 2 ∨ k = 3 ∨ k = 4 by omega) with rfl | rfl | rfl | rfl | rfl <;> rfl
structure PuI (w W : World) (D : Nat) (vs : List Value) : Prop where
  row : RowX W D vs
  tab : TabW W
  below : Below w.heap.size w W
  le : w.heap.size ≤ D
  ng : 0 < w.heap.size
theorem PuI.on {w W W' : World} {D : Nat} {vs : List Value} (h : PuI w W D vs) (hB : Below W.heap.size W W') : PuI w W' D vs :=
  ⟨h.row.on hB, h.tab.on hB, h.below.trans (hB.mono h.below.size), h.le, h.ng⟩
theorem PuI.set {w W : World} {D j : Nat} {vs : List Value} (h : PuI w W D vs) (v : Value) : PuI w (W.setCell ⟨D, j, none⟩ v) D (vs.set j v) := by
  refine ⟨rowX_set h.row v, ⟨by rw [World.size_setCell]; exact h.tab.lt, ?_⟩, bst h.below h.le _ _, h.le, h.ng⟩
  obtain ⟨t, fr, hr⟩ := h.tab.row
  exact ⟨t, fr, (heap_setCell_other _ _ _ _ (Nat.ne_of_lt (Nat.lt_of_lt_of_le h.ng h.le))).trans hr⟩
theorem ints_six {w : World} {B : Nat} {x : Cl} (h : RowX w B (aP x 5)) : Ints .u64 w.heap.size w (.slice (some ⟨B, 0, none⟩) 6 6) x.l := by
  refine .inr ⟨B, 0, 6, rfl, h.lt, fun j hj => ?_⟩
  rw [Nat.zero_add, h.cell j]
  match j, hj with
  | 0, _ | 1, _ | 2, _ | 3, _ | 4, _ | 5, _ => rfl
set_option maxRecDepth 100000 in
set_option maxHeartbeats 4000000 in
theorem put_any (x : Cl) (hx : Fc x) (w : World) (hT : Tz w) : Calls Tryd.prog 6 #[.agg #[.int .i64 x.n, .int .i64 x.a, .int .i64 x.b, .int .i64 x.c, .int .i64 x.d, .int .i64 x.e]] w fun e w' => e = .returned (.tuple #[.int .u64 (putW x), .int .i64 (kcE x)]) ∧ Below w.heap.size w w' := by
  have HC : Hid (∀ wc, Tz wc → Calls Tryd.prog 12 #[.agg #[.int .i64 x.n, .int .i64 x.a, .int .i64 x.b, .int .i64 x.c, .int .i64 x.d, .int .i64 x.e]] wc fun e w' => e = .returned (.int .i64 (kcE x)) ∧ Below wc.heap.size wc w') := fun wc h => check_any x hx wc h
  have H0 : Hid (RowC (w.alloc (.cells #[.int .i64 x.n, .int .i64 x.a, .int .i64 x.b, .int .i64 x.c, .int .i64 x.d, .int .i64 x.e] 24)) w.heap.size x ∧ Tz (w.alloc (.cells #[.int .i64 x.n, .int .i64 x.a, .int .i64 x.b, .int .i64 x.c, .int .i64 x.d, .int .i64 x.e] 24)) ∧ Below w.heap.size w (w.alloc (.cells #[.int .i64 x.n, .int .i64 x.a, .int .i64 x.b, .int .i64 x.c, .int .i64 x.d, .int .i64 x.e] 24))) := ⟨rowC_new w x, hT.on (bal (Below.refl _ _) _), bal (Below.refl _ _) _⟩
  have HG : Hid (0 < w.heap.size) := hT.d.lt
  clear hx hT
  by_cases hr : rcB x = true
  · rw [kc_yes hr] at HC ⊢
    rw [putW_yes hr]
    obtain ⟨⟨n0, n1⟩, _⟩ := rc_bd hr
    have u0 : IntKind.u64.wrap x.n = x.n := wrapu_small (by omega) (by omega)
    have HV := chide (fun k (hk : k < 5) => v_bd hr hk)
    have HP : Hid (∀ wc B D, RowX wc B wlV → RowX wc D (aP x 5) → Calls Tryd.prog 19 #[.slice (some ⟨B, 0, none⟩) 6 6, .slice (some ⟨D, 0, none⟩) 6 6] wc fun e w' => e = .returned (.tuple #[.int .u64 (wd x), .int .i64 0]) ∧ Below wc.heap.size wc w') := fun wc B D hB hD =>
      pack_ok _ _ 6 6 wl x.l wc (by decide) rfl (put_can hr).1 (ints_wl hB) (ints_six hD) (put_can hr).2
    clear hr n0 n1
    generalize wd x = r at HP ⊢
    go_enter Tryd.func6, Tryd.ntmps6
    go_upto_region 1 with fail
    generalize w.alloc _ = w1 at H0 ⊢
    have q0 := H0.out.1.c0
    have q1 := H0.out.1.c1
    have q2 := H0.out.1.c2
    have q3 := H0.out.1.c3
    have q4 := H0.out.1.c4
    have q5 := H0.out.1.c5
    go_upto_region 4 with (first
      | (go_at_call 12; refine (HC.out _ H0.out.2.1).mono ?_; rintro e1 w2 ⟨rfl, hb⟩; have H1 : Hid (RowC w2 w.heap.size x ∧ Tz w2 ∧ Below w.heap.size w w2) := ⟨H0.out.1.on hb, H0.out.2.1.on hb, H0.out.2.2.trans (hb.mono H0.out.2.2.size)⟩; clear hb HC H0 q0 q1 q2 q3 q4 q5)
      | fail)
    have q0 := H1.out.1.c0
    go_upto_region 5 with fail
    have H2 : Hid (RowC (w2.alloc (.cells #[.int .u64 x.n, .int .u64 0, .int .u64 0, .int .u64 0, .int .u64 0, .int .u64 0] 46)) w.heap.size x ∧ PuI w (w2.alloc (.cells #[.int .u64 x.n, .int .u64 0, .int .u64 0, .int .u64 0, .int .u64 0, .int .u64 0] 46)) w2.heap.size (aP x 0)) := ⟨H1.out.1.on (bal (Below.refl _ _) _), rowX_new w2 (aP x 0) _, H1.out.2.1.d.on (bal (Below.refl _ _) _), bal H1.out.2.2 _, H1.out.2.2.size, HG.out⟩
    generalize w2.alloc _ = w3 at H2 ⊢
    generalize w2.heap.size = D at H2 ⊢
    clear H1 q0
    have q1 := H2.out.1.c1
    have q2 := H2.out.1.c2
    have q3 := H2.out.1.c3
    have q4 := H2.out.1.c4
    have q5 := H2.out.1.c5
    go_wp2
    have HI0 := chide (fun (k : Nat) (hk : k < 5) W => idx_v x hk W)
    go_loopw [20] (fun i wr => ∃ k : Nat, k ≤ 5 ∧ i = .int .i64 k ∧ PuI w wr D (aP x k)) (fun i _ => 5 - (intOf i).toNat)
    case atStart => exact ⟨0, by omega, rfl, H2.out.2⟩
    case round =>
      obtain ⟨k, hk, rfl, hI⟩ := hrel
      have HI := chide hI
      clear hI H2 q1 q2 q3 q4 q5
      by_cases hlt : k < 5
      · have i1 := HI0.out k hlt
        obtain ⟨b0, b1⟩ := HV.out k hlt
        have u1 : IntKind.u64.wrap (x.v k) = x.v k := wrapu_small (by omega) (by omega)
        have HS := chide (aP_step x hlt)
        have i2 : ∀ W : World, (Instr.index 22 (.agg #[.int .i64 x.a, .int .i64 x.b, .int .i64 x.c, .int .i64 x.d, .int .i64 x.e]) (.int .i64 (k : Nat))).run Tryd.prog W = .ok (.int .i64 (x.v k)) W := i1
        clear i1 HI0 b0 b1
        generalize x.v k = u at i2 u1 HS
        have h3 : (k : Int) < 5 := by omega
        go_upto_region 8 with fail
        clear i2
        rcases (show k = 0 ∨ k = 1 ∨ k = 2 ∨ k = 3 ∨ k = 4 by omega) with rfl | rfl | rfl | rfl | rfl
        · have y0 : wr.cell? ⟨D, 1, none⟩ = some (.int .u64 0) := HI.out.row.cell 1
          have z := HI.out.row.fz 1
          go_wp2
          go_roundw
          case rel => exact ⟨0 + 1, by omega, rfl, by rw [← HS.out]; exact HI.out.set _⟩
          case measure => simp [intOf]
        · have y0 : wr.cell? ⟨D, 2, none⟩ = some (.int .u64 0) := HI.out.row.cell 2
          have z := HI.out.row.fz 2
          go_wp2
          go_roundw
          case rel => exact ⟨1 + 1, by omega, rfl, by rw [← HS.out]; exact HI.out.set _⟩
          case measure => simp [intOf]
        · have y0 : wr.cell? ⟨D, 3, none⟩ = some (.int .u64 0) := HI.out.row.cell 3
          have z := HI.out.row.fz 3
          go_wp2
          go_roundw
          case rel => exact ⟨2 + 1, by omega, rfl, by rw [← HS.out]; exact HI.out.set _⟩
          case measure => simp [intOf]
        · have y0 : wr.cell? ⟨D, 4, none⟩ = some (.int .u64 0) := HI.out.row.cell 4
          have z := HI.out.row.fz 4
          go_wp2
          go_roundw
          case rel => exact ⟨3 + 1, by omega, rfl, by rw [← HS.out]; exact HI.out.set _⟩
          case measure => simp [intOf]
        · have y0 : wr.cell? ⟨D, 5, none⟩ = some (.int .u64 0) := HI.out.row.cell 5
          have z := HI.out.row.fz 5
          go_wp2
          go_roundw
          case rel => exact ⟨4 + 1, by omega, rfl, by rw [← HS.out]; exact HI.out.set _⟩
          case measure => simp [intOf]
      · obtain rfl : k = 5 := by omega
        obtain ⟨g0, g1, g2, g3, g4, g5⟩ := wd_cells HI.out.tab
        have gl := HI.out.tab.lt
        go_upto_region 11 with fail
        have H6 : Hid (RowX (wr.alloc (.cells #[.int .i64 8, .int .i64 8, .int .i64 16, .int .i64 16, .int .i64 8, .int .i64 8] 47)) wr.heap.size wlV ∧ PuI w (wr.alloc (.cells #[.int .i64 8, .int .i64 8, .int .i64 16, .int .i64 16, .int .i64 8, .int .i64 8] 47)) D (aP x 5)) := ⟨rowX_new wr wlV _, HI.out.on (bal (Below.refl _ _) _)⟩
        generalize wr.alloc _ = w6 at H6 ⊢
        generalize wr.heap.size = E at H6 ⊢
        clear g0 g1 g2 g3 g4 g5 gl HI
        go_region_with (go_at_call 19; refine (HP.out _ _ _ (H6.out.1.on (Below.refl _ _).drew) (H6.out.2.row.on (Below.refl _ _).drew)).mono ?_; rintro e7 w7 ⟨rfl, hb⟩; have H7 : Hid (Below w.heap.size w w7) := H6.out.2.below.drew.trans (hb.mono H6.out.2.below.drew.size); clear hb)
        all_goals
          go_wp2
          go_ret2
          exact ⟨rfl, H7.out⟩
  · have hr' := Bool.eq_false_iff.2 hr
    rw [kc_no hr'] at HC ⊢
    rw [putW_no hr']
    clear hr hr'
    go_enter Tryd.func6, Tryd.ntmps6
    go_upto_region 1 with fail
    generalize w.alloc _ = w1 at H0 ⊢
    have q0 := H0.out.1.c0
    have q1 := H0.out.1.c1
    have q2 := H0.out.1.c2
    have q3 := H0.out.1.c3
    have q4 := H0.out.1.c4
    have q5 := H0.out.1.c5
    go_wp2_with (first
      | (go_at_call 12; refine (HC.out _ H0.out.2.1).mono ?_; rintro e1 w2 ⟨rfl, hb⟩; have H1 : Hid (Below w.heap.size w w2) := H0.out.2.2.trans (hb.mono H0.out.2.2.size); clear hb HC H0)
      | fail)
    go_ret2
    exact ⟨rfl, H1.out⟩
/-! ### Get -/
set_option maxRecDepth 100000 in
set_option maxHeartbeats 4000000 in
theorem get_any (x : Int) (hx : 0 ≤ x ∧ x ≤ 18446744073709551615) (w : World) (hT : Tz w) : Calls Tryd.prog 8 #[.int .u64 x] w fun e w' => e = .returned (.tuple #[.agg #[.int .i64 (getC x).n, .int .i64 (getC x).a, .int .i64 (getC x).b, .int .i64 (getC x).c, .int .i64 (getC x).d, .int .i64 (getC x).e], .int .i64 (getE x)]) ∧ Below w.heap.size w w' := by
  have HU : Hid (∀ wc B, RowX wc B wlV → Calls Tryd.prog 22 #[.slice (some ⟨B, 0, none⟩) 6 6, .int .u64 x] wc fun e w' => ∃ b o c, e = .returned (.tuple #[.slice (some ⟨b, o, none⟩) 6 c, .int .i64 0]) ∧ Six w' b o x ∧ Below wc.heap.size wc w') := fun wc B hR =>
    (unpack_ok _ 6 wl x wc (by decide) hx (ints_wl hR) (all_can hx)).mono fun e w' ⟨a, c, he, hi, hB⟩ => by
      obtain ⟨b, o, rfl, h6⟩ := six_of hi
      exact ⟨b, o, c, he, h6, hB⟩
  have HC : Hid (∀ wc, Tz wc → Calls Tryd.prog 12 #[.agg #[.int .i64 (gC x).n, .int .i64 (gC x).a, .int .i64 (gC x).b, .int .i64 (gC x).c, .int .i64 (gC x).d, .int .i64 (gC x).e]] wc fun e w' => e = .returned (.int .i64 (kcE (gC x))) ∧ Below wc.heap.size wc w') := fun wc h => check_any _ (gC_fc hx) wc h
  obtain ⟨⟨m0, n0⟩, ⟨m1, n1⟩, ⟨m2, n2⟩, ⟨m3, n3⟩, ⟨m4, n4⟩, ⟨m5, n5⟩⟩ := gN_bd hx
  have u0' : IntKind.i64.wrap (gN x 0) = gN x 0 := wrapi_small (by omega) (by omega)
  have u1' : IntKind.i64.wrap (gN x 1) = gN x 1 := wrapi_small (by omega) (by omega)
  have u2' : IntKind.i64.wrap (gN x 2) = gN x 2 := wrapi_small (by omega) (by omega)
  have u3' : IntKind.i64.wrap (gN x 3) = gN x 3 := wrapi_small (by omega) (by omega)
  have u4' : IntKind.i64.wrap (gN x 4) = gN x 4 := wrapi_small (by omega) (by omega)
  have u5' : IntKind.i64.wrap (gN x 5) = gN x 5 := wrapi_small (by omega) (by omega)
  clear m0 n0
  clear m1 n1
  clear m2 n2
  clear m3 n3
  clear m4 n4
  clear m5 n5
  have H0 : Hid (RowC (w.alloc (.cells #[.int .i64 0, .int .i64 0, .int .i64 0, .int .i64 0, .int .i64 0, .int .i64 0] 24)) w.heap.size cl0 ∧ Below w.heap.size w (w.alloc (.cells #[.int .i64 0, .int .i64 0, .int .i64 0, .int .i64 0, .int .i64 0, .int .i64 0] 24))) := ⟨rowC_new w cl0, bal (Below.refl _ _) _⟩
  have HT := chide hT
  clear hx hT
  have HE : Hid (getE x = if rcB (gC x) = true then 0 else 12) := rfl
  have HG : Hid (getC x = if rcB (gC x) = true then gC x else cl0) := rfl
  have HK : Hid (kcE (gC x) = if rcB (gC x) = true then 0 else 1) := rfl
  go_enter Tryd.func8, Tryd.ntmps8
  go_upto_region 1 with fail
  generalize w.alloc _ = w1 at H0 ⊢
  obtain ⟨g0, g1, g2, g3, g4, g5⟩ := wd_cells (HT.out.d.on H0.out.2)
  have gl := (HT.out.d.on H0.out.2).lt
  go_upto_region 2 with fail
  have H1 : Hid (RowX (w1.alloc (.cells #[.int .i64 8, .int .i64 8, .int .i64 16, .int .i64 16, .int .i64 8, .int .i64 8] 47)) w1.heap.size wlV ∧ RowC (w1.alloc (.cells #[.int .i64 8, .int .i64 8, .int .i64 16, .int .i64 16, .int .i64 8, .int .i64 8] 47)) w.heap.size cl0 ∧ Below w.heap.size w (w1.alloc (.cells #[.int .i64 8, .int .i64 8, .int .i64 16, .int .i64 16, .int .i64 8, .int .i64 8] 47))) := ⟨rowX_new w1 wlV _, H0.out.1.on (bal (Below.refl _ _) _), bal H0.out.2 _⟩
  generalize w1.alloc _ = wA at H1 ⊢
  generalize w1.heap.size = E at H1 ⊢
  clear g0 g1 g2 g3 g4 g5 gl H0
  go_upto_region 5 with (first
    | (go_at_call 22; refine (HU.out _ _ H1.out.1).mono ?_; rintro e2 w2 ⟨b, o, c, rfl, h6, hb⟩; have H2 : Hid (Six w2 b o x ∧ RowC w2 w.heap.size cl0 ∧ Below w.heap.size w w2) := ⟨h6, H1.out.2.1.on hb, H1.out.2.2.trans (hb.mono H1.out.2.2.size)⟩; clear h6 hb H1 HU)
    | fail)
  have q0 : w2.cell? ⟨b, o, none⟩ = some (.int .u64 (gN x 0)) := H2.out.1.c 0 (by omega)
  go_upto_region 6 with fail
  have H3 : Hid (RgI w (w2.alloc (.cells #[.int .i64 (gN x 0), .int .i64 0, .int .i64 0, .int .i64 0, .int .i64 0, .int .i64 0] 24)) w2.heap.size b o x (cU x 0)) :=
    ⟨H2.out.2.1.on (bal (Below.refl _ _) _), rowC_new w2 (cU x 0), H2.out.1.on (bal (Below.refl _ _) _), bal H2.out.2.2 _, H2.out.2.1.lt, H2.out.1.lt⟩
  generalize w2.alloc _ = w3 at H3 ⊢
  generalize w2.heap.size = D at H3 ⊢
  clear H2 q0
  go_wp2
  go_loopw [24] (fun i wr => ∃ k : Nat, k ≤ 5 ∧ i = .int .i64 k ∧ RgI w wr D b o x (cU x k)) (fun i _ => 5 - (intOf i).toNat)
  case atStart => exact ⟨0, by omega, rfl, H3.out⟩
  case round =>
    obtain ⟨k, hk, rfl, hI⟩ := hrel
    have HI := chide hI
    clear hI H3
    rcases (show k = 0 ∨ k = 1 ∨ k = 2 ∨ k = 3 ∨ k = 4 ∨ k = 5 by omega) with rfl | rfl | rfl | rfl | rfl | rfl
    · have p : wr.cell? ⟨b, o + 1, none⟩ = some (.int .u64 (gN x 1)) := HI.out.six.c 1 (by omega)
      have t := HI.out.box.c1
      have z := HI.out.box.fz 1
      go_wp2
      go_roundw
      case rel => exact ⟨0 + 1, by omega, rfl, HI.out.set (HI.out.box.set1 _)⟩
      case measure => simp [intOf]
    · have p : wr.cell? ⟨b, o + 2, none⟩ = some (.int .u64 (gN x 2)) := HI.out.six.c 2 (by omega)
      have t := HI.out.box.c2
      have z := HI.out.box.fz 2
      go_wp2
      go_roundw
      case rel => exact ⟨1 + 1, by omega, rfl, HI.out.set (HI.out.box.set2 _)⟩
      case measure => simp [intOf]
    · have p : wr.cell? ⟨b, o + 3, none⟩ = some (.int .u64 (gN x 3)) := HI.out.six.c 3 (by omega)
      have t := HI.out.box.c3
      have z := HI.out.box.fz 3
      go_wp2
      go_roundw
      case rel => exact ⟨2 + 1, by omega, rfl, HI.out.set (HI.out.box.set3 _)⟩
      case measure => simp [intOf]
    · have p : wr.cell? ⟨b, o + 4, none⟩ = some (.int .u64 (gN x 4)) := HI.out.six.c 4 (by omega)
      have t := HI.out.box.c4
      have z := HI.out.box.fz 4
      go_wp2
      go_roundw
      case rel => exact ⟨3 + 1, by omega, rfl, HI.out.set (HI.out.box.set4 _)⟩
      case measure => simp [intOf]
    · have p : wr.cell? ⟨b, o + 5, none⟩ = some (.int .u64 (gN x 5)) := HI.out.six.c 5 (by omega)
      have t := HI.out.box.c5
      have z := HI.out.box.fz 5
      go_wp2
      go_roundw
      case rel => exact ⟨4 + 1, by omega, rfl, HI.out.set (HI.out.box.set5 _)⟩
      case measure => simp [intOf]
    · have hbx : RowC wr D (gC x) := HI.out.box
      have t0 := hbx.c0
      have t1 := hbx.c1
      have t2 := hbx.c2
      have t3 := hbx.c3
      have t4 := hbx.c4
      have t5 := hbx.c5
      clear hbx
      have x0 := HI.out.res.c0
      have x1 := HI.out.res.c1
      have x2 := HI.out.res.c2
      have x3 := HI.out.res.c3
      have x4 := HI.out.res.c4
      have x5 := HI.out.res.c5
      have z := HI.out.res.fz
      have HN : Hid (w.heap.size < D) := HI.out.ne
      have ne1 : ¬ D = w.heap.size := Nat.ne_of_gt HN.out
      have ne2 : ¬ w.heap.size = D := Nat.ne_of_lt HN.out
      by_cases hr : rcB (gC x) = true
      · have e0 : kcE (gC x) = 0 := kc_yes hr
        have HF := chide (get_yes hr)
        rw [e0] at HC
        clear e0 hr HE HG HK
        go_wp2_with (first
          | (go_at_call 12; refine (HC.out _ (HT.out.on HI.out.below)).mono ?_; rintro e4 w4 ⟨rfl, hb⟩; have H4 := chide (HI.out.on hb); clear hb HC HI t0 t1 t2 t3 t4 t5 x0 x1 x2 x3 x4 x5 z; have hbx : RowC w4 D (gC x) := H4.out.box; have t0 := hbx.c0; have t1 := hbx.c1; have t2 := hbx.c2; have t3 := hbx.c3; have t4 := hbx.c4; have t5 := hbx.c5; clear hbx; have x0 := H4.out.res.c0; have x1 := H4.out.res.c1; have x2 := H4.out.res.c2; have x3 := H4.out.res.c3; have x4 := H4.out.res.c4; have x5 := H4.out.res.c5; have z := H4.out.res.fz)
          | fail)
        refine bodyPost_ret (v := .tuple #[.agg #[.int .i64 (gC x).n, .int .i64 (gC x).a, .int .i64 (gC x).b, .int .i64 (gC x).c, .int .i64 (gC x).d, .int .i64 (gC x).e], .int .i64 0]) (by simp [results, Tryd.results8, go_sem, x0, x1, x2, x3, x4, x5]) rfl ⟨by rw [HF.out.1, HF.out.2], ?_⟩
        exact bst (bst (bst (bst (bst (bst H4.out.below (Nat.le_refl _) _ _) (Nat.le_refl _) _ _) (Nat.le_refl _) _ _) (Nat.le_refl _) _ _) (Nat.le_refl _) _ _) (Nat.le_refl _) _ _
      · have hr' := Bool.eq_false_iff.2 hr
        have e0 : kcE (gC x) = 1 := kc_no hr'
        have HF := chide (get_no hr')
        rw [e0] at HC
        clear e0 hr hr' HE HG HK
        go_wp2_with (first
          | (go_at_call 12; refine (HC.out _ (HT.out.on HI.out.below)).mono ?_; rintro e4 w4 ⟨rfl, hb⟩; have H4 := chide (HI.out.on hb); clear hb HC HI t0 t1 t2 t3 t4 t5 x0 x1 x2 x3 x4 x5 z; have hbx : RowC w4 D (gC x) := H4.out.box; have t0 := hbx.c0; have t1 := hbx.c1; have t2 := hbx.c2; have t3 := hbx.c3; have t4 := hbx.c4; have t5 := hbx.c5; clear hbx; have x0 := H4.out.res.c0; have x1 := H4.out.res.c1; have x2 := H4.out.res.c2; have x3 := H4.out.res.c3; have x4 := H4.out.res.c4; have x5 := H4.out.res.c5; have z := H4.out.res.fz)
          | fail)
        refine bodyPost_ret (v := .tuple #[.agg #[.int .i64 0, .int .i64 0, .int .i64 0, .int .i64 0, .int .i64 0, .int .i64 0], .int .i64 12]) (by simp [results, Tryd.results8, go_sem, x0, x1, x2, x3, x4, x5]) rfl ⟨by rw [HF.out.1, HF.out.2]; rfl, ?_⟩
        exact bst (bst (bst (bst (bst (bst H4.out.below (Nat.le_refl _) _ _) (Nat.le_refl _) _ _) (Nat.le_refl _) _ _) (Nat.le_refl _) _ _) (Nat.le_refl _) _ _) (Nat.le_refl _) _ _
end Go.Proofs.YtjibbppjdojbpaaDoor.Pcall
