/- field.Pack: for every list of widths and every list of values, what it answers. -/
import Derived.Test.YtkodanflobclhaaDoorFldC
import Derived.Maps.AppendAt
import Derived.Outline
namespace Go.Proofs.YtkodanflobclhaaDoor.Pfield
open Go.RowKit Go.Shelf M
attribute [local go_sem] Oper.semAt_some
set_option linter.unusedVariables false

def okP (zs vs : List Int) (j : Nat) : Bool := inB (sumTo zs j) (zs[j]?.getD 0) && fitsB (vs[j]?.getD 0) (zs[j]?.getD 0)
def packs {len : Nat} (zs vs : List Int) (pre : List (Fin len)) : Int := pre.foldl (fun x j => putF x (sumTo zs j.1) (zs[j.1]?.getD 0) (vs[j.1]?.getD 0)) 0
theorem packs_snoc {len : Nat} (zs vs : List Int) (pre : List (Fin len)) (j : Fin len) : packs zs vs (pre ++ [j]) = putF (packs zs vs pre) (sumTo zs j.1) (zs[j.1]?.getD 0) (vs[j.1]?.getD 0) := by simp [packs]

theorem upto_mem {len j : Nat} (h : j < len) : (⟨j, h⟩ : Fin len) ∈ upto len len := by
  unfold upto
  rw [List.take_of_length_le (by simp)]
  exact List.mem_finRange _
theorem ints_at' {q : IntKind} {n₀ : Nat} {W : World} {a : Option Addr} {len cap : Nat} {zs : List Int} (h : Ints q n₀ W (.slice a len cap) zs) {j : Nat} (hj : j < zs.length) :
    ∃ b off z, a = some ⟨b, off, none⟩ ∧ W.cell? ⟨b, off + j, none⟩ = some (.int q z) ∧ Hid (zs[j]?.getD 0 = z) := by
  rcases h with ⟨a', cap', e, rfl⟩ | ⟨b, off, cap', e, hb, hc⟩
  · simp at hj
  · simp at e
    exact ⟨b, off, _, e.1, hc j hj, rfl⟩
theorem sumTo_bd (zs : List Int) (k : Nat) : -9223372036854775808 ≤ sumTo zs k ∧ sumTo zs k ≤ 9223372036854775807 := by
  cases k with
  | zero => simp [sumTo]
  | succ k => unfold sumTo wrap64; omega
theorem ok_parts {zs vs : List Int} {j : Nat} (h : okP zs vs j = true) : (0 ≤ sumTo zs j ∧ 1 ≤ zs[j]?.getD 0 ∧ zs[j]?.getD 0 ≤ 64 - sumTo zs j) ∧ fitsB (vs[j]?.getD 0) (zs[j]?.getD 0) = true := by
  unfold okP at h
  rw [Bool.and_eq_true, inB_iff] at h
  exact h
theorem packs_bd {len : Nat} (zs vs : List Int) (pre : List (Fin len)) (h : ∀ j ∈ pre, okP zs vs j.1 = true) : 0 ≤ packs zs vs pre ∧ packs zs vs pre ≤ 18446744073709551615 := by
  have key : ∀ (pre : List (Fin len)) (x : Int), (∀ j ∈ pre, okP zs vs j.1 = true) → 0 ≤ x ∧ x ≤ 18446744073709551615 →
      0 ≤ pre.foldl (fun x j => putF x (sumTo zs j.1) (zs[j.1]?.getD 0) (vs[j.1]?.getD 0)) x ∧ pre.foldl (fun x j => putF x (sumTo zs j.1) (zs[j.1]?.getD 0) (vs[j.1]?.getD 0)) x ≤ 18446744073709551615 := by
    intro pre
    induction pre with
    | nil => intro x _ hx; exact hx
    | cons j pre ih =>
      intro x hj hx
      obtain ⟨⟨h0, h1, h2⟩, hf⟩ := ok_parts (hj j (by simp))
      exact ih _ (fun i hi => hj i (by simp [hi])) (putF_bd _ _ _ _ h0 h1 h2 hx.2 hf)
  exact key pre 0 h (by omega)
theorem boxed_drewN {W : World} {B : Nat} {t : TypeId} {v : Value} (h : Boxed W B t v) (n : Nat) : Boxed (W.drewN n) B t v := h
theorem below_drewN {B : Nat} {a w : World} (h : Below B a w) (n : Nat) : Below B a (w.drewN n) := h.trans ⟨rfl, rfl, rfl, Nat.le_refl _, fun _ _ => rfl⟩
theorem others_drewN (W : World) (n : Nat) : KeepsOthers W (W.drewN n) := ⟨Nat.le_refl _, fun _ _ h _ => h⟩
/-- What the variables of Pack hold between two rounds. -/
def PackI (B : Nat) (sv0 sv1 : Value) (zs vs : List Int) (pre : List (Fin zs.length)) (W : World) : Prop :=
  (∀ j ∈ pre, okP zs vs j.1 = true) ∧ Boxed W B 23 sv0 ∧ Boxed W (B + 1) 22 sv1 ∧ Boxed W (B + 1 + 1) 58 (.int .u64 0) ∧ Boxed W (B + 1 + 1 + 1) 29 (.int .i64 0) ∧ Boxed W (B + 1 + 1 + 1 + 1) 58 (.int .u64 (packs zs vs pre))
theorem packI_own (B : Nat) (sv0 sv1 : Value) (zs vs : List Int) : Own (PackI B sv0 sv1 zs vs) := fun s A C row hs hg hr =>
  ⟨hs.1, boxed_own B 23 (fun _ : Unit => sv0) () A C row hs.2.1 hg hr, boxed_own _ 22 (fun _ : Unit => sv1) () A C row hs.2.2.1 hg hr, boxed_own _ 58 (fun _ : Unit => .int .u64 0) () A C row hs.2.2.2.1 hg hr,
    boxed_own _ 29 (fun _ : Unit => .int .i64 0) () A C row hs.2.2.2.2.1 hg hr, boxed_own _ 58 (fun _ : Unit => .int .u64 (packs zs vs s)) () A C row hs.2.2.2.2.2 hg hr⟩
/-- What they hold where a round has left by a return. -/
def PackX (B : Nat) (zs vs : List Int) (c : Code) (pre : List (Fin zs.length)) (W : World) : Prop :=
  c = .ret ∧ (∃ j ∈ pre, okP zs vs j.1 = false) ∧ Boxed W (B + 1 + 1) 58 (.int .u64 0) ∧ Boxed W (B + 1 + 1 + 1) 29 (.int .i64 1)
theorem packX_own (B : Nat) (zs vs : List Int) (c : Code) : Own (PackX B zs vs c) := fun s A C row hs hg hr =>
  ⟨hs.1, hs.2.1, boxed_own _ 58 (fun _ : Unit => .int .u64 0) () A C row hs.2.2.1 hg hr, boxed_own _ 29 (fun _ : Unit => .int .i64 1) () A C row hs.2.2.2 hg hr⟩

set_option maxRecDepth 100000 in
set_option maxHeartbeats 1000000 in
theorem pack_ne (a0 a1 : Option Addr) (cap0 cap1 : Nat) (len0 len1 : Nat) (w : World) (hl0 : len0 ≤ 9223372036854775807) (hl1 : len1 ≤ 9223372036854775807) (hne : ((len0 : Int) != (len1 : Int)) = true) :
    Calls Tryd.prog 40 #[.slice a0 len0 cap0, .slice a1 len1 cap1] w fun e W' =>
      e = .returned (.tuple #[.int .u64 0, .int .i64 1]) ∧ Below w.heap.size w W' := by
  refine (callsIn_wide (n := 9)).1 ?_
  refine callsIn_of_wp_marks Tryd.func40 rfl trivial ?_ rfl
  simp only [Tryd.ntmps40, List.size_toArray, List.length_cons, List.length_nil, Nat.reduceAdd, Nat.reduceSub, Array.replicate_succ, Array.replicate_zero, List.push_toArray, List.append_toArray, List.nil_append, List.cons_append]
  gi_wp2
  refine ⟨.tuple #[.int .u64 0, .int .i64 1], by simp [results, Tryd.f40, go_sem], rfl, ?_⟩
  exact ((((Below.refl _ w).alloc (Nat.le_refl _) _).alloc (by simp) _).alloc (by simp; omega) _).alloc (by simp; omega) _

set_option maxRecDepth 100000 in
set_option maxHeartbeats 2000000 in
theorem pack_in (a0 a1 : Option Addr) (cap0 cap1 : Nat) (zs vs : List Int) (w : World) (hl0 : zs.length ≤ 9223372036854775807) (hlv : zs.length = vs.length)
    (hv : ∀ j : Nat, 0 ≤ vs[j]?.getD 0 ∧ vs[j]?.getD 0 ≤ 18446744073709551615)
    (hI0 : Ints .i64 w.heap.size w (.slice a0 zs.length cap0) zs) (hI1 : Ints .u64 w.heap.size w (.slice a1 zs.length cap1) vs) :
    Calls Tryd.prog 40 #[.slice a0 zs.length cap0, .slice a1 zs.length cap1] w fun e W' =>
      ((∀ j, j < zs.length → okP zs vs j = true) ∧ e = .returned (.tuple #[.int .u64 (packs zs vs (upto zs.length zs.length)), .int .i64 0]) ∨
       (∃ j, j < zs.length ∧ okP zs vs j = false) ∧ e = .returned (.tuple #[.int .u64 0, .int .i64 1])) ∧ Below w.heap.size w W' := by
  have HL : Hid (zs.length = vs.length) := hlv
  have HV : Hid (∀ j : Nat, 0 ≤ vs[j]?.getD 0 ∧ vs[j]?.getD 0 ≤ 18446744073709551615) := hv
  have H0 : Hid (Ints .i64 w.heap.size w (.slice a0 zs.length cap0) zs) := hI0
  have H1 : Hid (Ints .u64 w.heap.size w (.slice a1 zs.length cap1) vs) := hI1
  clear hlv hv hI0 hI1
  refine (callsIn_wide (n := 9)).1 ?_
  refine callsIn_of_wp_marks Tryd.func40 rfl trivial ?_ rfl
  simp only [Tryd.ntmps40, List.size_toArray, List.length_cons, List.length_nil, Nat.reduceAdd, Nat.reduceSub, Array.replicate_succ, Array.replicate_zero, List.push_toArray, List.append_toArray, List.nil_append, List.cons_append]
  gi_wp2_with (refine ⟨trivial, ?_⟩; gi_at_call 49; refine (starts_in _ _ _ _ _).mono ?_; rintro e w' ⟨rfl, rfl⟩)
  have b0 := Boxed.new w 23 (.slice a0 zs.length cap0)
  have b1 := Boxed.new (w.alloc (.cells #[.slice a0 zs.length cap0] 23)) 22 (.slice a1 zs.length cap1)
  have b2 := Boxed.new ((w.alloc (.cells #[.slice a0 zs.length cap0] 23)).alloc (.cells #[.slice a1 zs.length cap1] 22)) 58 (.int .u64 0)
  have b3 := Boxed.new (((w.alloc (.cells #[.slice a0 zs.length cap0] 23)).alloc (.cells #[.slice a1 zs.length cap1] 22)).alloc (.cells #[.int .u64 0] 58)) 29 (.int .i64 0)
  have b4 := Boxed.new ((((w.alloc (.cells #[.slice a0 zs.length cap0] 23)).alloc (.cells #[.slice a1 zs.length cap1] 22)).alloc (.cells #[.int .u64 0] 58)).alloc (.cells #[.int .i64 0] 29)) 58 (.int .u64 0)
  have b5 := Boxed.new (((((w.alloc (.cells #[.slice a0 zs.length cap0] 23)).alloc (.cells #[.slice a1 zs.length cap1] 22)).alloc (.cells #[.int .u64 0] 58)).alloc (.cells #[.int .i64 0] 29)).alloc (.cells #[.int .u64 0] 58)) 23 (.slice a0 zs.length cap0)
  simp only [World.size_alloc] at b1 b2 b3 b4 b5
  have hB0 : Below w.heap.size w ((((((w.alloc (.cells #[.slice a0 zs.length cap0] 23)).alloc (.cells #[.slice a1 zs.length cap1] 22)).alloc (.cells #[.int .u64 0] 58)).alloc (.cells #[.int .i64 0] 29)).alloc (.cells #[.int .u64 0] 58)).alloc (.cells #[.slice a0 zs.length cap0] 23)) :=
    ((((((Below.refl _ w).alloc (Nat.le_refl _) _).alloc (by simp) _).alloc (by simp; omega) _).alloc (by simp; omega) _).alloc (by simp; omega) _).alloc (by simp; omega) _
  refine wpIn_rangeFunc_ownG rfl (by omega) (gf := 57) (lb := #[.pointer (some ⟨w.heap.size + 1 + 1 + 1 + 1 + 1, 0, none⟩)]) rfl trivial (enters_of Tryd.func57 (by kernel_rfl) rfl)
    (starts_stops 8 (by omega) (w.heap.size + 1 + 1 + 1 + 1 + 1) w.heap.size _ zs hl0 _ (by simp) (by simp; omega) b5.cell (H0.out.below hB0)) belowK_t (belowK_b (by simp; omega)) (Below.refl _ _) (fun _ => rfl)
    (fun pre W => PackI w.heap.size (.slice a0 zs.length cap0) (.slice a1 zs.length cap1) zs vs pre W ∧ Below w.heap.size w W)
    (fun c pre W => PackX w.heap.size zs vs c pre W ∧ Below w.heap.size w W)
    (OwnFrom.and (Own.from (packI_own _ _ _ _ _) _) (ownFrom_below (Nat.le_refl _) (by simp; omega)))
    (fun c => OwnFrom.and (Own.from (packX_own _ _ _ c) _) (ownFrom_below (Nat.le_refl _) (by simp; omega)))
    ⟨⟨by simp, ((((b0.alloc _).alloc _).alloc _).alloc _).alloc _, (((b1.alloc _).alloc _).alloc _).alloc _, ((b2.alloc _).alloc _).alloc _, (b3.alloc _).alloc _, b4.alloc _⟩, hB0⟩
    (fun x => { tmps := #[.slice a0 zs.length cap0, .slice a1 zs.length cap1, .pointer (some ⟨w.heap.size, 0, none⟩), .pointer (some ⟨w.heap.size + 1, 0, none⟩), .pointer (some ⟨w.heap.size + 1 + 1, 0, none⟩), .pointer (some ⟨w.heap.size + 1 + 1 + 1, 0, none⟩),
      .pointer (some ⟨w.heap.size + 1 + 1 + 1 + 1, 0, none⟩), .int .i64 (x.1 : Int), .int .i64 (sumTo zs x.1), undef, undef, .slice a0 zs.length cap0, .int .i64 zs.length, .slice a1 zs.length cap1, .int .i64 zs.length, .bool false, .slice a0 zs.length cap0,
      .func (.func 57) #[] #[.pointer (some ⟨w.heap.size + 1 + 1 + 1 + 1 + 1, 0, none⟩)], .int .i64 (x.1 : Int), .int .i64 (sumTo zs x.1), undef, undef, undef, undef, undef, undef, undef, undef, undef, undef, undef, undef, undef, undef, undef, undef, undef, undef, undef], defers := [] }) ?assign ?body ?done ?stop
  case assign =>
    intro l x W K hK
    gi_wp2
    exact hK
  case body =>
    rintro l pre x W ⟨⟨hok, c0, c1, c2, c3, c4⟩, hB⟩ hlt
    have hx := x.2
    have hxi : ((x.1 : Nat) : Int) < (zs.length : Int) := by omega
    have hp := packs_bd zs vs pre hok
    have hs := sumTo_bd zs x.1
    obtain ⟨bz, oz, z, ha0, hz, HZ⟩ := ints_at' (H0.out.below hB) hx
    obtain ⟨bv, ov, v, ha1, hvv, HW⟩ := ints_at' (H1.out.below hB) (show x.1 < vs.length by have := HL.out; omega)
    have hvx : 0 ≤ v ∧ v ≤ 18446744073709551615 := by rw [← HW.out]; exact HV.out x.1
    have k0 := c0.cell
    have k1 := c1.cell
    have k2 := c2.cell
    have k3 := c3.cell
    have k4 := c4.cell
    have f2 := c2.frozen
    have f3 := c3.frozen
    have f4 := c4.frozen
    have hwide : ∀ f, Fence.wide.fn f = True := fun _ => rfl
    cases hob : okP zs vs x.1
    · have HO : Hid (okP zs vs x.1 = false) := hob
      clear hob
      by_cases hin : 0 ≤ sumTo zs x.1 ∧ 1 ≤ z ∧ z ≤ 64 - sumTo zs x.1
      · obtain ⟨i0, i1, i2⟩ := hin
        have hf : fitsB v z = false := by
          have h := HO.out
          unfold okP at h
          rw [HZ.out, HW.out, (inB_iff _ _).2 ⟨i0, i1, i2⟩, Bool.true_and] at h
          exact h
        gi_wp2
        refine region_quiet_round (F := Fence.wide) rfl (by kernel_rfl) (by kernel_rfl) (by kernel_rfl) ?_
        repeat (gi_big_quiet_step ((gi_at_call 50; exact CallsIn.quiet_of_same (callsIn_wide.2 (put_unfit _ _ _ _ _ (by omega) (by omega) (by omega) (by omega) (by omega) hf)))))
        refine wpQuietIn_nil ?_
        intro _ hw'
        obtain ⟨nq, hw''⟩ := hw'
        subst hw''
        clear hwide
        gi_wp2
        exact ⟨(((others_drewN W nq).trans (KeepsOthers.setCell _ _ _)).trans (KeepsOthers.setCell _ _ _)).from _,
          ⟨rfl, ⟨x, by simp, HO.out⟩, ((boxed_drewN c2 nq).set _).other (by omega) _, ((boxed_drewN c3 nq).other (by omega) _).set _⟩,
          ((below_drewN hB nq).setCell (p := ⟨w.heap.size + 1 + 1, 0, none⟩) (by simp; omega) _).setCell (p := ⟨w.heap.size + 1 + 1 + 1, 0, none⟩) (by simp; omega) _⟩
      · have HN : Hid (¬ (0 ≤ sumTo zs x.1 ∧ 1 ≤ z ∧ z ≤ 64 - sumTo zs x.1)) := hin
        clear hin
        gi_wp2
        refine region_quiet_round (F := Fence.wide) rfl (by kernel_rfl) (by kernel_rfl) (by kernel_rfl) ?_
        repeat (gi_big_quiet_step ((gi_at_call 50; exact CallsIn.quiet_of_same (callsIn_wide.2 (put_out _ _ _ _ _ HN.out (by omega))))))
        refine wpQuietIn_nil ?_
        intro _ hw'
        obtain ⟨nq, hw''⟩ := hw'
        subst hw''
        clear hwide
        gi_wp2
        exact ⟨(((others_drewN W nq).trans (KeepsOthers.setCell _ _ _)).trans (KeepsOthers.setCell _ _ _)).from _,
          ⟨rfl, ⟨x, by simp, HO.out⟩, ((boxed_drewN c2 nq).set _).other (by omega) _, ((boxed_drewN c3 nq).other (by omega) _).set _⟩,
          ((below_drewN hB nq).setCell (p := ⟨w.heap.size + 1 + 1, 0, none⟩) (by simp; omega) _).setCell (p := ⟨w.heap.size + 1 + 1 + 1, 0, none⟩) (by simp; omega) _⟩
    · obtain ⟨⟨i0, i1, i2⟩, hf⟩ := ok_parts hob
      rw [HZ.out] at i1 i2 hf
      rw [HW.out] at hf
      have HO : Hid (okP zs vs x.1 = true) := hob
      clear hob
      gi_wp2
      refine region_quiet_round (F := Fence.wide) rfl (by kernel_rfl) (by kernel_rfl) (by kernel_rfl) ?_
      repeat (gi_big_quiet_step ((gi_at_call 50; exact CallsIn.quiet_of (callsIn_wide.2 (put_yes _ _ _ _ _ (by omega) (by omega) (by omega) (by omega) (by omega) (by omega) (by omega) hf)))))
      refine wpQuietIn_nil ?_
      intro _ hw'
      obtain ⟨nq, hw''⟩ := hw'
      subst hw''
      clear hwide
      gi_wp2
      have hpk : packs zs vs (pre ++ [x]) = putF (packs zs vs pre) (sumTo zs x.1) z v := by rw [packs_snoc, HZ.out, HW.out]
      refine ⟨((others_drewN W nq).trans (KeepsOthers.setCell _ _ _)).from _, (below_drewN (Below.refl w.heap.size W) nq).setCell (p := ⟨w.heap.size + 1 + 1 + 1 + 1, 0, none⟩) (by simp; omega) _,
        ⟨fun j hj => (List.mem_append.1 hj).elim (hok j) (fun e => by simp at e; subst e; exact HO.out), ?_, ?_, ?_, ?_, ?_⟩, (below_drewN hB nq).setCell (p := ⟨w.heap.size + 1 + 1 + 1 + 1, 0, none⟩) (by simp; omega) _⟩
      · exact (boxed_drewN c0 nq).other (by omega) _
      · exact (boxed_drewN c1 nq).other (by omega) _
      · exact (boxed_drewN c2 nq).other (by omega) _
      · exact (boxed_drewN c3 nq).other (by omega) _
      · rw [hpk]; exact (boxed_drewN c4 nq).set _
  case done =>
    rintro D ys W hD rfl ⟨⟨hok, c0, c1, c2, c3, c4⟩, hB⟩ hK
    have k4 := c4.cell
    have k2 := c2.cell
    have f2 := c2.frozen
    have k3 := c3.cell
    have f3 := c3.frozen
    gi_wp2
    have hK1 := (KeepsOthers.setCell W ⟨w.heap.size + 1 + 1, 0, none⟩ (.int .u64 (packs zs vs (upto zs.length zs.length)))).same D _ hK rfl
    have hK2 := (KeepsOthers.setCell (W.setCell ⟨w.heap.size + 1 + 1, 0, none⟩ (.int .u64 (packs zs vs (upto zs.length zs.length)))) ⟨w.heap.size + 1 + 1 + 1, 0, none⟩ (.int .i64 0)).same D _ hK1 rfl
    refine ⟨by simp, .inl ⟨_, _, rfl, run_takeDeferred hK2, ?_⟩⟩
    have e2 := cell_kept ((c2.set (.int .u64 (packs zs vs (upto zs.length zs.length)))).other (B' := w.heap.size + 1 + 1 + 1) (by omega) (.int .i64 0)).cell (grownBy_putObj' _ D (.deferred none)) (fun r e => by cases e; exact ⟨_, hK2, rfl⟩)
    have e3 := cell_kept ((c3.other (B' := w.heap.size + 1 + 1) (by omega) (.int .u64 (packs zs vs (upto zs.length zs.length)))).set (.int .i64 0)).cell (grownBy_putObj' _ D (.deferred none)) (fun r e => by cases e; exact ⟨_, hK2, rfl⟩)
    refine ⟨.tuple #[.int .u64 (packs zs vs (upto zs.length zs.length)), .int .i64 0], by simp [results, Tryd.f40, go_sem, e2, e3], .inl ⟨fun j hj => hok ⟨j, hj⟩ (upto_mem hj), rfl⟩, ?_⟩
    exact ((hB.setCell (p := ⟨w.heap.size + 1 + 1, 0, none⟩) (by simp; omega) _).setCell (p := ⟨w.heap.size + 1 + 1 + 1, 0, none⟩) (by simp; omega) _).trans (belowK_b (w := w) (Nat.le_refl _) _ D _ _ (by simp at hD; omega) hK2 rfl rfl)
  case stop =>
    rintro D c pre W hD ⟨k, hk, rfl⟩ ⟨⟨rfl, ⟨j, hj, hbad⟩, c2, c3⟩, hB⟩ hK
    gi_wp2
    refine ⟨by simp, .inl ⟨_, _, rfl, run_takeDeferred hK, ?_⟩⟩
    have e2 := cell_kept c2.cell (grownBy_putObj' _ D (.deferred none)) (fun r e => by cases e; exact ⟨_, hK, rfl⟩)
    have e3 := cell_kept c3.cell (grownBy_putObj' _ D (.deferred none)) (fun r e => by cases e; exact ⟨_, hK, rfl⟩)
    refine ⟨.tuple #[.int .u64 0, .int .i64 1], by simp [results, Tryd.f40, go_sem, e2, e3], .inr ⟨⟨j.1, j.2, hbad⟩, rfl⟩, ?_⟩
    exact hB.trans (belowK_b (w := w) (Nat.le_refl _) _ D _ _ (by simp at hD; omega) hK rfl rfl)
end Go.Proofs.YtkodanflobclhaaDoor.Pfield
