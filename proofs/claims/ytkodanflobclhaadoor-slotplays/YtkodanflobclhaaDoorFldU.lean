/- field.Unpack: for every list of at most a thousand widths and every word, what it answers; the parts lie in memory of its own. -/
import Derived.Test.YtkodanflobclhaaDoorFldP
import Derived.Maps.AppendAt
namespace Go.Proofs.YtkodanflobclhaaDoor.Pfield
open Go.RowKit Go.Shelf M
attribute [local go_sem] Oper.semAt_some
set_option linter.unusedVariables false

def okU (zs : List Int) (j : Nat) : Bool := inB (sumTo zs j) (zs[j]?.getD 0)
def gets {len : Nat} (x : Int) (zs : List Int) (pre : List (Fin len)) : List Value := pre.map fun j => Value.int .u64 (getF x (sumTo zs j.1) (zs[j.1]?.getD 0))
theorem gets_snoc {len : Nat} (x : Int) (zs : List Int) (pre : List (Fin len)) (j : Fin len) : gets x zs (pre ++ [j]) = gets x zs pre ++ [Value.int .u64 (getF x (sumTo zs j.1) (zs[j.1]?.getD 0))] := by simp [gets]
def endOf {len : Nat} (zs : List Int) (pre : List (Fin len)) : Int := pre.foldl (fun _ j => sumTo zs (j.1 + 1)) 0
theorem endOf_snoc {len : Nat} (zs : List Int) (pre : List (Fin len)) (j : Fin len) : endOf zs (pre ++ [j]) = sumTo zs (j.1 + 1) := by simp [endOf]
theorem endOf_all (zs : List Int) : endOf zs (upto zs.length zs.length) = sumTo zs zs.length := by
  have key : ∀ len, zs.length = len → endOf (len := len) zs (upto len len) = sumTo zs len := by
    intro len _
    cases len with
    | zero => rfl
    | succ k => rw [upto_succ (Nat.lt_succ_self k), endOf_snoc]
  exact key _ rfl
theorem ints_at2 {q : IntKind} {n₀ : Nat} {W : World} {a : Option Addr} {len cap : Nat} {zs : List Int} (h : Ints q n₀ W (.slice a len cap) zs) {j : Nat} (hj : j < zs.length) :
    ∃ b off z, a = some ⟨b, off, none⟩ ∧ b < n₀ ∧ W.cell? ⟨b, off + j, none⟩ = some (.int q z) ∧ Hid (zs[j]?.getD 0 = z) := by
  rcases h with ⟨a', cap', e, rfl⟩ | ⟨b, off, cap', e, hb, hc⟩
  · simp at hj
  · simp at e
    exact ⟨b, off, _, e.1, hb, hc j hj, rfl⟩
theorem ownsRow_slice {w : World} {base : Nat} {e : TypeId} {size : Nat} {v : Value} {n : Nat} {xs : List Value} (h : w.ownsRow base e size v n xs) : ∃ a c, v = .slice a n c := by
  rcases h.2 with ⟨rfl, rfl⟩ | ⟨g, cap, _, rfl, _⟩
  · exact ⟨_, _, rfl⟩
  · exact ⟨_, _, rfl⟩
theorem ownsRow_from {w : World} {base base' : Nat} {e : TypeId} {size : Nat} {v : Value} {n : Nat} {xs : List Value} (h : w.ownsRow base e size v n xs) (hb : base' ≤ base) : w.ownsRow base' e size v n xs :=
  ⟨h.1, match h.2 with
    | .inl h => .inl h
    | .inr ⟨g, cap, cur, e, hg, r⟩ => .inr ⟨g, cap, cur, e, Nat.le_trans hb hg, r⟩⟩
/-- What the variables of Unpack hold between two rounds; N: where the loop began. -/
def UnI (B N : Nat) (sv0 : Value) (x : Int) (zs : List Int) (pre : List (Fin zs.length)) (W : World) : Prop :=
  (∀ j ∈ pre, okU zs j.1 = true) ∧ Boxed W B 23 sv0 ∧ Boxed W (B + 1) 58 (.int .u64 x) ∧ Boxed W (B + 1 + 1) 22 (.slice none 0 0) ∧ Boxed W (B + 1 + 1 + 1) 29 (.int .i64 0) ∧
  Boxed W (B + 1 + 1 + 1 + 1 + 1) 3 (.int .i64 (endOf zs pre)) ∧
  ∃ v, Boxed W (B + 1 + 1 + 1 + 1) 22 v ∧ W.ownsRow N 58 1 v pre.length (gets x zs pre) ∧ (v = .slice none 0 0 ↔ pre = [])
theorem unI_own (B N : Nat) (sv0 : Value) (x : Int) (zs : List Int) : Own (UnI B N sv0 x zs) := fun s A C row hs hg hr =>
  ⟨hs.1, boxed_own B 23 (fun _ : Unit => sv0) () A C row hs.2.1 hg hr, boxed_own _ 58 (fun _ : Unit => .int .u64 x) () A C row hs.2.2.1 hg hr, boxed_own _ 22 (fun _ : Unit => .slice none 0 0) () A C row hs.2.2.2.1 hg hr,
    boxed_own _ 29 (fun _ : Unit => .int .i64 0) () A C row hs.2.2.2.2.1 hg hr, boxed_own _ 3 (fun _ : Unit => .int .i64 (endOf zs s)) () A C row hs.2.2.2.2.2.1 hg hr,
    holdsRow_own N (B + 1 + 1 + 1 + 1) 22 58 1 (fun pre : List (Fin zs.length) => pre.length) (fun pre => gets x zs pre) (fun pre v => v = .slice none 0 0 ↔ pre = []) s A C row hs.2.2.2.2.2.2 hg hr⟩
def UnX (B : Nat) (zs : List Int) (c : Code) (pre : List (Fin zs.length)) (W : World) : Prop :=
  c = .ret ∧ (∃ j ∈ pre, okU zs j.1 = false) ∧ Boxed W (B + 1 + 1) 22 (.slice none 0 0) ∧ Boxed W (B + 1 + 1 + 1) 29 (.int .i64 1)
theorem unX_own (B : Nat) (zs : List Int) (c : Code) : Own (UnX B zs c) := fun s A C row hs hg hr =>
  ⟨hs.1, hs.2.1, boxed_own _ 22 (fun _ : Unit => .slice none 0 0) () A C row hs.2.2.1 hg hr, boxed_own _ 29 (fun _ : Unit => .int .i64 1) () A C row hs.2.2.2 hg hr⟩
theorem infoWord : (Tryd.prog.info? 58).map (fun i => (i.zero, i.size, i.bytes)) = some (some (.int .u64 0), 1, 8) := by kernel_rfl

set_option maxRecDepth 100000 in
set_option maxHeartbeats 2000000 in
theorem unpack_in (a0 : Option Addr) (cap0 : Nat) (zs : List Int) (x : Int) (w : World) (hl0 : zs.length ≤ 1000) (hx0 : 0 ≤ x ∧ x ≤ 18446744073709551615)
    (hI0 : Ints .i64 w.heap.size w (.slice a0 zs.length cap0) zs) :
    Calls Tryd.prog 44 #[.slice a0 zs.length cap0, .int .u64 x] w fun e W' =>
      (((∀ j, j < zs.length → okU zs j = true) ∧ fitsB x (sumTo zs zs.length) = true ∧ ∃ v, e = .returned (.tuple #[v, .int .i64 0]) ∧ W'.ownsRow w.heap.size 58 1 v zs.length (gets x zs (upto zs.length zs.length))) ∨
       (((∃ j, j < zs.length ∧ okU zs j = false) ∨ fitsB x (sumTo zs zs.length) = false) ∧ e = .returned (.tuple #[.slice none 0 0, .int .i64 1]))) ∧ Below w.heap.size w W' := by
  have H0 : Hid (Ints .i64 w.heap.size w (.slice a0 zs.length cap0) zs) := hI0
  clear hI0
  obtain ⟨it, hi, hz0, hz1, hz2⟩ := info_parts infoWord
  refine (callsIn_wide (n := 9)).1 ?_
  refine callsIn_of_wp_marks Tryd.func44 rfl trivial ?_ rfl
  simp only [Tryd.ntmps44, List.size_toArray, List.length_cons, List.length_nil, Nat.reduceAdd, Nat.reduceSub, Array.replicate_succ, Array.replicate_zero, List.push_toArray, List.append_toArray, List.nil_append, List.cons_append]
  gi_wp2_with (refine ⟨trivial, ?_⟩; gi_at_call 49; refine (starts_in _ _ _ _ _).mono ?_; rintro e w' ⟨rfl, rfl⟩)
  have b0 := Boxed.new w 23 (.slice a0 zs.length cap0)
  have b1 := Boxed.new (w.alloc (.cells #[.slice a0 zs.length cap0] 23)) 58 (.int .u64 x)
  have b2 := Boxed.new ((w.alloc (.cells #[.slice a0 zs.length cap0] 23)).alloc (.cells #[.int .u64 x] 58)) 22 (.slice none 0 0)
  have b3 := Boxed.new (((w.alloc (.cells #[.slice a0 zs.length cap0] 23)).alloc (.cells #[.int .u64 x] 58)).alloc (.cells #[.slice none 0 0] 22)) 29 (.int .i64 0)
  have b4 := Boxed.new ((((w.alloc (.cells #[.slice a0 zs.length cap0] 23)).alloc (.cells #[.int .u64 x] 58)).alloc (.cells #[.slice none 0 0] 22)).alloc (.cells #[.int .i64 0] 29)) 22 (.slice none 0 0)
  have b5 := Boxed.new (((((w.alloc (.cells #[.slice a0 zs.length cap0] 23)).alloc (.cells #[.int .u64 x] 58)).alloc (.cells #[.slice none 0 0] 22)).alloc (.cells #[.int .i64 0] 29)).alloc (.cells #[.slice none 0 0] 22)) 3 (.int .i64 0)
  have b6 := Boxed.new ((((((w.alloc (.cells #[.slice a0 zs.length cap0] 23)).alloc (.cells #[.int .u64 x] 58)).alloc (.cells #[.slice none 0 0] 22)).alloc (.cells #[.int .i64 0] 29)).alloc (.cells #[.slice none 0 0] 22)).alloc (.cells #[.int .i64 0] 3)) 23 (.slice a0 zs.length cap0)
  simp only [World.size_alloc] at b1 b2 b3 b4 b5 b6
  have hB0 : Below w.heap.size w (((((((w.alloc (.cells #[.slice a0 zs.length cap0] 23)).alloc (.cells #[.int .u64 x] 58)).alloc (.cells #[.slice none 0 0] 22)).alloc (.cells #[.int .i64 0] 29)).alloc (.cells #[.slice none 0 0] 22)).alloc (.cells #[.int .i64 0] 3)).alloc (.cells #[.slice a0 zs.length cap0] 23)) :=
    (((((((Below.refl _ w).alloc (Nat.le_refl _) _).alloc (by simp) _).alloc (by simp; omega) _).alloc (by simp; omega) _).alloc (by simp; omega) _).alloc (by simp; omega) _).alloc (by simp; omega) _
  refine wpIn_rangeFunc_ownG rfl (by omega) (gf := 57) (lb := #[.pointer (some ⟨w.heap.size + 1 + 1 + 1 + 1 + 1 + 1, 0, none⟩)]) rfl trivial (enters_of Tryd.func57 (by kernel_rfl) rfl)
    (starts_stops 8 (by omega) (w.heap.size + 1 + 1 + 1 + 1 + 1 + 1) w.heap.size _ zs (by omega) _ (by simp) (by simp; omega) b6.cell (H0.out.below hB0)) belowK_t (belowK_b (by simp; omega)) (Below.refl _ _) (fun _ => rfl)
    (fun pre W => (UnI w.heap.size (w.heap.size + 1 + 1 + 1 + 1 + 1 + 1 + 1) (.slice a0 zs.length cap0) x zs pre W ∧ Below w.heap.size w W) ∧ (w.heap.size + 1 + 1 + 1 + 1 + 1 + 1 + 1) ≤ W.heap.size)
    (fun c pre W => UnX w.heap.size zs c pre W ∧ Below w.heap.size w W)
    (OwnFrom.and (OwnFrom.and (Own.from (unI_own _ _ _ _ _) _) (ownFrom_below (Nat.le_refl _) (by simp; omega))) (fun s A C row hs hg hr => Nat.le_trans hs hg.size))
    (fun c => OwnFrom.and (Own.from (unX_own _ _ c) _) (ownFrom_below (Nat.le_refl _) (by simp; omega)))
    ⟨⟨⟨by simp, ((((((b0.alloc _).alloc _).alloc _).alloc _).alloc _).alloc _), (((((b1.alloc _).alloc _).alloc _).alloc _).alloc _), ((((b2.alloc _).alloc _).alloc _).alloc _), (((b3.alloc _).alloc _).alloc _), (b5.alloc _), ⟨_, ((b4.alloc _).alloc _), World.ownsRow_nil _ _ _ _, by simp⟩⟩, hB0⟩, by simp⟩
    (fun j => { tmps := #[.slice a0 zs.length cap0, .int .u64 x, .pointer (some ⟨w.heap.size, 0, none⟩), .pointer (some ⟨w.heap.size + 1, 0, none⟩), .pointer (some ⟨w.heap.size + 1 + 1, 0, none⟩), .pointer (some ⟨w.heap.size + 1 + 1 + 1, 0, none⟩), .pointer (some ⟨w.heap.size + 1 + 1 + 1 + 1, 0, none⟩), .pointer (some ⟨w.heap.size + 1 + 1 + 1 + 1 + 1, 0, none⟩), .int .i64 (j.1 : Int), .int .i64 (sumTo zs j.1), undef, undef, .slice a0 zs.length cap0, .func (.func 57) #[] #[.pointer (some ⟨w.heap.size + 1 + 1 + 1 + 1 + 1 + 1, 0, none⟩)], .int .i64 (j.1 : Int), .int .i64 (sumTo zs j.1), undef, undef, undef, undef, undef, undef, undef, undef, undef, undef, undef, undef, undef, undef, undef, undef, undef, undef, undef, undef, undef, undef, undef, undef, undef, undef, undef, undef], defers := [] }) ?assign ?body ?done ?stop
  case assign =>
    intro l j W K hK
    gi_wp2
    exact hK
  case body =>
    rintro l pre j W ⟨⟨⟨hok, c0, c1, c2, c3, c5, v, c4, hrow, hnil⟩, hB⟩, hsz⟩ hlt
    have hx := j.2
    have hxi : ((j.1 : Nat) : Int) < (zs.length : Int) := by omega
    have hs := sumTo_bd zs j.1
    obtain ⟨bz, oz, z, ha0, hbz, hz, HZ⟩ := ints_at2 (H0.out.below hB) hx
    have k0 := c0.cell
    have k1 := c1.cell
    have k2 := c2.cell
    have k3 := c3.cell
    have k4 := c4.cell
    have f2 := c2.frozen
    have f3 := c3.frozen
    have hwide : ∀ f, Fence.wide.fn f = True := fun _ => rfl
    by_cases hin : 0 ≤ sumTo zs j.1 ∧ 1 ≤ z ∧ z ≤ 64 - sumTo zs j.1
    · obtain ⟨i0, i1, i2⟩ := hin
      gi_wp2
      refine region_quiet_round (F := Fence.wide) rfl (by kernel_rfl) (by kernel_rfl) (by kernel_rfl) ?_
      repeat (gi_big_quiet_step ((gi_at_call 53; exact CallsIn.quiet_of_same (callsIn_wide.2 (get_yes _ _ _ _ (by omega) (by omega) (by omega) (by omega) (by omega))))))
      refine wpQuietIn_nil ?_
      intro _ hw'
      obtain ⟨nq, hw''⟩ := hw'
      subst hw''
      clear hwide
      have hrowq : (W.drewN nq).ownsRow (w.heap.size + 1 + 1 + 1 + 1 + 1 + 1 + 1) 58 1 v pre.length (gets x zs pre) := hrow
      have HR : Hid (∀ k, v.ownBlock = some k → (w.heap.size + 1 + 1 + 1 + 1 + 1 + 1 + 1) ≤ k) := fun k e => (hrow.lt k e).1
      clear hrow hnil
      gi_wp2_with (gi_at_builtin; refine wpListIn_append_own _ rfl _ _ 22 rfl (w.heap.size + 1 + 1 + 1 + 1 + 1 + 1 + 1) 58 it (.int .u64 0) 1 8 Tryd.underlying22 hi hz0 hz1 hz2 rfl (by decide) _ _ _ rfl (hrowq.alloc _) ⟨W.heap.size, 0, none⟩ 1 1 [.int .u64 (getF x (sumTo zs j.1) z)] rfl rfl (cell_one_new (W.drewN nq) _ _) (by simp [Value.oneCell']) (by unfold maxLen; omega) (by omega) (by simp; omega) ?_; intro v' w1 hown' hgrow _; obtain ⟨g', cap', rfl⟩ := ownsRow_succ hown'; obtain ⟨hv1, hv2, hr2, hk2, hb2⟩ := (boxed_drewN c4 nq).appended (by decide) (ownsRow_from hrowq (show w.heap.size ≤ (w.heap.size + 1 + 1 + 1 + 1 + 1 + 1 + 1) by omega)) (by simp; omega) (by omega) (ownsRow_from hown' (show w.heap.size ≤ (w.heap.size + 1 + 1 + 1 + 1 + 1 + 1 + 1) by omega)) hgrow; have d0 : Boxed w1 w.heap.size 23 (.slice a0 zs.length cap0) := ((boxed_drewN c0 nq).alloc _).kept hgrow (fun e => by have := HR.out _ e.symm; omega); have d5 : Boxed w1 (w.heap.size + 1 + 1 + 1 + 1 + 1) 3 (.int .i64 (endOf zs pre)) := ((boxed_drewN c5 nq).alloc _).kept hgrow (fun e => by have := HR.out _ e.symm; omega); have hb1 : Below w.heap.size (W.drewN nq) w1 := ((Below.refl _ _).alloc (by simp; omega) _).grown hgrow (by simp; omega) (fun k e => by have := HR.out k e; omega); have hzw : w1.cell? ⟨bz, oz + j.1, none⟩ = some (.int .i64 z) := (hb1.cell (p := ⟨bz, oz + j.1, none⟩) hbz).trans hz; have m0 := d0.cell; have m5 := d5.cell; have q5 := d5.frozen; have m4 := hv1.cell; have q4 := hv1.frozen)
      have d1 : Boxed w1 (w.heap.size + 1) 58 (.int .u64 x) := ((boxed_drewN c1 nq).alloc _).kept hgrow (fun e => by have := HR.out _ e.symm; omega)
      have d2 : Boxed w1 (w.heap.size + 1 + 1) 22 (.slice none 0 0) := ((boxed_drewN c2 nq).alloc _).kept hgrow (fun e => by have := HR.out _ e.symm; omega)
      have d3 : Boxed w1 (w.heap.size + 1 + 1 + 1) 29 (.int .i64 0) := ((boxed_drewN c3 nq).alloc _).kept hgrow (fun e => by have := HR.out _ e.symm; omega)
      have hsum : sumTo zs (j.1 + 1) = sumTo zs j.1 + z := by
        show wrap64 (sumTo zs j.1 + zs[j.1]?.getD 0) = _
        rw [HZ.out, IntWalk.wrap64_in _ (by omega)]
      have hokj : okU zs j.1 = true := by unfold okU; rw [HZ.out]; exact (inB_iff _ _).2 ⟨i0, i1, i2⟩
      have hbW := (below_drewN (Below.refl w.heap.size W) nq).trans hb2
      refine ⟨(((others_drewN W nq).trans hk2).trans (KeepsOthers.setCell _ _ _)).from _, hbW.setCell (p := ⟨w.heap.size + 1 + 1 + 1 + 1 + 1, 0, none⟩) (by simp; omega) _,
        ⟨⟨fun i hi => (List.mem_append.1 hi).elim (hok i) (fun e => by simp at e; subst e; exact hokj), ?_, ?_, ?_, ?_, ?_, ⟨_, hv2.other (by omega) _, ?_, by simp⟩⟩, (hB.trans hbW).setCell (p := ⟨w.heap.size + 1 + 1 + 1 + 1 + 1, 0, none⟩) (by simp; omega) _⟩, ?_⟩
      · exact (d0.other (by omega) _).other (by omega) _
      · exact (d1.other (by omega) _).other (by omega) _
      · exact (d2.other (by omega) _).other (by omega) _
      · exact (d3.other (by omega) _).other (by omega) _
      · rw [endOf_snoc, hsum]; exact (d5.other (by omega) _).set _
      · rw [gets_snoc, HZ.out, List.length_append, List.length_singleton]
        exact ownsRow_setCell_below (ownsRow_setCell_below hown' (show w.heap.size + 1 + 1 + 1 + 1 < (w.heap.size + 1 + 1 + 1 + 1 + 1 + 1 + 1) by omega) _) (show w.heap.size + 1 + 1 + 1 + 1 + 1 < (w.heap.size + 1 + 1 + 1 + 1 + 1 + 1 + 1) by omega) _
      · have := hgrow.size; simp at this ⊢; omega
    · have HN : Hid (¬ (0 ≤ sumTo zs j.1 ∧ 1 ≤ z ∧ z ≤ 64 - sumTo zs j.1)) := hin
      clear hin
      gi_wp2
      refine region_quiet_round (F := Fence.wide) rfl (by kernel_rfl) (by kernel_rfl) (by kernel_rfl) ?_
      repeat (gi_big_quiet_step ((gi_at_call 53; exact CallsIn.quiet_of_same (callsIn_wide.2 (get_no _ _ _ _ HN.out (by omega))))))
      refine wpQuietIn_nil ?_
      intro _ hw'
      obtain ⟨nq, hw''⟩ := hw'
      subst hw''
      clear hwide
      gi_wp2
      have hbad : okU zs j.1 = false := by
        unfold okU
        rw [HZ.out]
        cases hb : inB (sumTo zs j.1) z
        · rfl
        · exact absurd ((inB_iff _ _).1 hb) HN.out
      exact ⟨(((others_drewN W nq).trans (KeepsOthers.setCell _ _ _)).trans (KeepsOthers.setCell _ _ _)).from _,
        ⟨rfl, ⟨j, by simp, hbad⟩, ((boxed_drewN c2 nq).set _).other (by omega) _, ((boxed_drewN c3 nq).other (by omega) _).set _⟩,
        ((below_drewN hB nq).setCell (p := ⟨w.heap.size + 1 + 1, 0, none⟩) (by simp; omega) _).setCell (p := ⟨w.heap.size + 1 + 1 + 1, 0, none⟩) (by simp; omega) _⟩
  case done =>
    rintro D ys W hD rfl ⟨⟨⟨hok, c0, c1, c2, c3, c5, v, c4, hrow, hnil⟩, hB⟩, hsz⟩ hK
    rw [endOf_all] at c5
    rw [upto_length (Nat.le_refl _)] at hrow
    obtain ⟨av, cv, rfl⟩ := ownsRow_slice hrow
    clear hnil
    have k1 := c1.cell
    have k5 := c5.cell
    have k4 := c4.cell
    have k2 := c2.cell
    have f2 := c2.frozen
    have k3 := c3.cell
    have f3 := c3.frozen
    cases hf : fitsB x (sumTo zs zs.length)
    · gi_wp2_with (refine ⟨trivial, ?_⟩; gi_at_call 54; refine (callsIn_wide.2 (fits_any _ _ _ (by omega) (by omega))).mono ?_; rintro e w' ⟨rfl, rfl⟩)
      have hK1 := (KeepsOthers.setCell w' ⟨w.heap.size + 1 + 1, 0, none⟩ (.slice none 0 0)).same D _ hK rfl
      have hK2 := (KeepsOthers.setCell (w'.setCell ⟨w.heap.size + 1 + 1, 0, none⟩ (.slice none 0 0)) ⟨w.heap.size + 1 + 1 + 1, 0, none⟩ (.int .i64 1)).same D _ hK1 rfl
      refine ⟨by simp, .inl ⟨_, _, rfl, run_takeDeferred hK2, ?_⟩⟩
      have e2 := cell_kept ((c2.set (.slice none 0 0)).other (B' := w.heap.size + 1 + 1 + 1) (by omega) (.int .i64 1)).cell (grownBy_putObj' _ D (.deferred none)) (fun r e => by cases e; exact ⟨_, hK2, rfl⟩)
      have e3 := cell_kept ((c3.other (B' := w.heap.size + 1 + 1) (by omega) (.slice none 0 0)).set (.int .i64 1)).cell (grownBy_putObj' _ D (.deferred none)) (fun r e => by cases e; exact ⟨_, hK2, rfl⟩)
      refine ⟨.tuple #[.slice none 0 0, .int .i64 1], by simp [results, Tryd.f44, go_sem, e2, e3], .inr ⟨.inr hf, rfl⟩, ?_⟩
      exact ((hB.setCell (p := ⟨w.heap.size + 1 + 1, 0, none⟩) (by simp; omega) _).setCell (p := ⟨w.heap.size + 1 + 1 + 1, 0, none⟩) (by simp; omega) _).trans (belowK_b (w := w) (Nat.le_refl _) _ D _ _ (by simp at hD; omega) hK2 rfl rfl)
    · gi_wp2_with (refine ⟨trivial, ?_⟩; gi_at_call 54; refine (callsIn_wide.2 (fits_any _ _ _ (by omega) (by omega))).mono ?_; rintro e w' ⟨rfl, rfl⟩)
      have hK1 := (KeepsOthers.setCell w' ⟨w.heap.size + 1 + 1, 0, none⟩ (.slice av zs.length cv)).same D _ hK rfl
      have hK2 := (KeepsOthers.setCell (w'.setCell ⟨w.heap.size + 1 + 1, 0, none⟩ (.slice av zs.length cv)) ⟨w.heap.size + 1 + 1 + 1, 0, none⟩ (.int .i64 0)).same D _ hK1 rfl
      refine ⟨by simp, .inl ⟨_, _, rfl, run_takeDeferred hK2, ?_⟩⟩
      have e2 := cell_kept ((c2.set (.slice av zs.length cv)).other (B' := w.heap.size + 1 + 1 + 1) (by omega) (.int .i64 0)).cell (grownBy_putObj' _ D (.deferred none)) (fun r e => by cases e; exact ⟨_, hK2, rfl⟩)
      have e3 := cell_kept ((c3.other (B' := w.heap.size + 1 + 1) (by omega) (.slice av zs.length cv)).set (.int .i64 0)).cell (grownBy_putObj' _ D (.deferred none)) (fun r e => by cases e; exact ⟨_, hK2, rfl⟩)
      refine ⟨.tuple #[.slice av zs.length cv, .int .i64 0], by simp [results, Tryd.f44, go_sem, e2, e3], .inl ⟨fun j hj => hok ⟨j, hj⟩ (upto_mem hj), hf, _, rfl, ownsRow_putObj (ownsRow_setCell_below (ownsRow_setCell_below (ownsRow_from hrow (Nat.le_refl _)) (show w.heap.size + 1 + 1 < w.heap.size + 1 + 1 + 1 + 1 + 1 + 1 + 1 by omega) _) (show w.heap.size + 1 + 1 + 1 < w.heap.size + 1 + 1 + 1 + 1 + 1 + 1 + 1 by omega) _) _ hK2 rfl |> fun h => ownsRow_from h (by omega)⟩, ?_⟩
      exact ((hB.setCell (p := ⟨w.heap.size + 1 + 1, 0, none⟩) (by simp; omega) _).setCell (p := ⟨w.heap.size + 1 + 1 + 1, 0, none⟩) (by simp; omega) _).trans (belowK_b (w := w) (Nat.le_refl _) _ D _ _ (by simp at hD; omega) hK2 rfl rfl)
  case stop =>
    rintro D c pre W hD ⟨k, hk, rfl⟩ ⟨⟨rfl, ⟨j, hj, hbad⟩, c2, c3⟩, hB⟩ hK
    gi_wp2
    refine ⟨by simp, .inl ⟨_, _, rfl, run_takeDeferred hK, ?_⟩⟩
    have e2 := cell_kept c2.cell (grownBy_putObj' _ D (.deferred none)) (fun r e => by cases e; exact ⟨_, hK, rfl⟩)
    have e3 := cell_kept c3.cell (grownBy_putObj' _ D (.deferred none)) (fun r e => by cases e; exact ⟨_, hK, rfl⟩)
    refine ⟨.tuple #[.slice none 0 0, .int .i64 1], by simp [results, Tryd.f44, go_sem, e2, e3], .inr ⟨.inl ⟨j.1, j.2, hbad⟩, rfl⟩, ?_⟩
    exact hB.trans (belowK_b (w := w) (Nat.le_refl _) _ D _ _ (by simp at hD; omega) hK rfl rfl)
end Go.Proofs.YtkodanflobclhaaDoor.Pfield
