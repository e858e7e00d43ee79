/- Lines in a map: what each call of package hw answers and does -/
import Derived.Test.YtefoofcfbcmjcaaHwN
import Derived.Test.YtefoofcfbcmjcaaHwQ
import Derived.Test.YtefoofcfbcmjcaaHwP
import Derived.Deep.RegionHeld3
import Derived.Deep.DeepCutAuto
import Derived.BigRegion
namespace Go.Proofs.Ytefoofcfbcmjcaa.Phw
open Go.Proofs.Ytefoofcfbcmjcaa.Pbase
open Go.RowKit Go.ChangeMaps
set_option linter.unusedVariables false

structure LinesIs (w : World) (p b : Nat) (S : Nat → Int) : Prop where
  row : w.heap[p]? = some (.cells #[.map (some b)] 41 (0, 0))
  ex : ∃ L, MapIs w b L ∧ Rl L S
section
variable {w w' : World} {p b : Nat} {S S' : Nat → Int}
theorem LinesIs.c0 (h : LinesIs w p b S) : w.cell? ⟨p, 0, none⟩ = some (.map (some b)) := by
  rw [cell_of_row w p 0 _ _ _ h.row]; rfl
theorem LinesIs.lt (h : LinesIs w p b S) : p < w.heap.size ∧ b < w.heap.size := by
  obtain ⟨L, h1, _⟩ := h.ex
  exact ⟨(Array.getElem?_eq_some_iff.1 h.row).1, h1.lt⟩
theorem LinesIs.on (h : LinesIs w p b S) (hp : w'.heap[p]? = w.heap[p]?) (hb : w'.heap[b]? = w.heap[b]?) : LinesIs w' p b S := by
  obtain ⟨L, h1, h2⟩ := h.ex
  exact ⟨hp.trans h.row, L, h1.on hb, h2⟩
theorem LinesIs.ne (h : LinesIs w p b S) : p ≠ b := by
  rintro rfl
  obtain ⟨L, ⟨es, clock, h1, _⟩, _⟩ := h.ex
  rw [h.row] at h1
  cases h1
theorem LinesIs.turn (h : LinesIs w p b S) {o : Obj} {L : List En} (hm : MapIs (setBlock w b o) b L) (hr : Rl L S') : LinesIs (setBlock w b o) p b S' ∧ But b w (setBlock w b o) := by
  obtain ⟨L0, h1, _⟩ := h.ex
  refine ⟨⟨(setBlock_other h1 o h.ne).trans h.row, L, hm, hr⟩, rfl, rfl, rfl, Nat.le_of_eq (setBlock_size _ _ _).symm, fun i _ hi => setBlock_other h1 o hi⟩
end
theorem mapIs_new (w : World) : MapIs (w.alloc (.map #[] 0)) w.heap.size [] := ⟨#[], 0, (MapKept.heap_alloc w _).1, rfl, by simp, by simp⟩
set_option maxRecDepth 100000 in
theorem made_any (p b : Nat) (S : Nat → Int) (w : World) (h : LinesIs w p b S) : Calls Try.prog 19 #[.pointer (some ⟨p, 0, none⟩)] w fun e w' => e = .returned (.bool false) ∧ w' = w := by
  have c0 := h.c0
  have h1 : ∀ w, (binOp .eql 39 (.map (some b)) (.map none)).run Try.prog w = .ok (.bool false) w := fun _ => by kernel_rfl
  go_enter Try.func19, Try.ntmps19
  go_wp2
  go_ret
  exact ⟨rfl, rfl⟩
set_option maxRecDepth 100000 in
theorem check_ok (p b : Nat) (S : Nat → Int) (w : World) (h : LinesIs w p b S) (l : Int) (n1 : ¬ l < 0) (n2 : ¬ (8 : Int) ≤ l) : Calls Try.prog 18 #[.pointer (some ⟨p, 0, none⟩), .int .i64 l] w fun e w' => e = .returned (.int .i64 0) ∧ w' = w := by
  have HM := rhide (made_any p b S w h)
  clear h
  go_enter Try.func18, Try.ntmps18
  go_wp2_with (first
    | (go_at_call 19; refine HM.out.mono ?_; rintro e1 w1 ⟨rfl, hw⟩; subst hw; clear HM)
    | fail)
  go_ret
  exact ⟨rfl, rfl⟩
set_option maxRecDepth 100000 in
theorem check_arg (p b : Nat) (S : Nat → Int) (w : World) (h : LinesIs w p b S) (l : Int) (hl : l < 0 ∨ (¬ l < 0 ∧ (8 : Int) ≤ l)) : Calls Try.prog 18 #[.pointer (some ⟨p, 0, none⟩), .int .i64 l] w fun e w' => e = .returned (.int .i64 1) ∧ w' = w := by
  have HM := rhide (made_any p b S w h)
  clear h
  rcases hl with n1 | ⟨n1, n2⟩
  all_goals
    go_enter Try.func18, Try.ntmps18
    go_wp2_with (first
      | (go_at_call 19; refine HM.out.mono ?_; rintro e1 w1 ⟨rfl, hw⟩; subst hw; clear HM)
      | fail)
    go_ret
    exact ⟨rfl, rfl⟩
set_option maxRecDepth 100000 in
theorem new_any (w : World) : Calls Try.prog 7 #[] w fun e w' => ∃ p b, e = .returned (.pointer (some ⟨p, 0, none⟩)) ∧ LinesIs w' p b (fun _ => 0) ∧ (w.heap.size ≤ p ∧ w.heap.size ≤ b) ∧ Below w.heap.size w w' := by
  have hmm := @run_makeMap Try.prog
  go_enter Try.func7, Try.ntmps7
  go_wp2
  go_ret
  refine ⟨w.heap.size + 1, w.heap.size, rfl, ⟨?_, [], (mapIs_new w).on (Below.heap_alloc _ _ _ (by simp)), rl_nil⟩, ⟨by omega, by omega⟩, bal (bal (Below.refl _ _) _) _⟩
  have := heap_alloc_new (w.alloc (.map #[] 0)) (.cells #[.map (some w.heap.size)] 41)
  simpa using this
set_option maxRecDepth 100000 in
theorem of_any (w : World) (p b : Nat) (S : Nat → Int) (l : Int) (h : LinesIs w p b S) (hS : Gd S) : Calls Try.prog 13 #[.pointer (some ⟨p, 0, none⟩), .int .i64 l] w fun e w' => e = .returned (.tuple #[.int .i64 (ofX S l), .int .i64 (ofE S l)]) ∧ w' = w := by
  have HC := rhide (fun n1 n2 => check_ok p b S w h l n1 n2)
  have HA := rhide (fun hl => check_arg p b S w h l hl)
  have c0 := h.c0
  by_cases hl : okL l = true
  · obtain ⟨h1, h2⟩ := (okL_iff l).1 hl
    obtain ⟨k, rfl⟩ := Int.eq_ofNat_of_zero_le h1
    have hk : k < 8 := by omega
    have n1 : ¬ (k : Int) < 0 := by omega
    have n2 : ¬ (8 : Int) ≤ (k : Int) := by omega
    obtain ⟨L, hm, hr⟩ := h.ex
    have hlk := look_has hm (k : Int)
    rw [hr.has hS hk] at hlk
    simp only [kv, ev] at hlk
    by_cases h0 : S k = 0
    · obtain ⟨e1, e2, _⟩ := of_none hl (by simpa using h0)
      rw [e1, e2]
      rw [show decide (S k ≠ 0) = false by simp [h0]] at hlk
      generalize vlK L k = v at hlk
      clear e1 e2 hS hl h h0 hm hr
      go_enter Try.func13, Try.ntmps13
      go_wp2_with (first
        | (go_at_call 18; refine (HC.out n1 n2).mono ?_; rintro e1 w1 ⟨rfl, hw⟩; subst hw; clear HC)
        | fail)
      go_ret2
      exact ⟨rfl, rfl⟩
    · obtain ⟨e1, e2, _⟩ := of_ok hl (S := S) (by simpa using h0)
      rw [e1, e2, Int.toNat_natCast]
      rw [show decide (S k ≠ 0) = true by simp [h0], hr.val hS hk h0] at hlk
      generalize S k - 1 = v at hlk ⊢
      clear e1 e2 hS hl h h0 hm hr
      go_enter Try.func13, Try.ntmps13
      go_wp2_with (first
        | (go_at_call 18; refine (HC.out n1 n2).mono ?_; rintro e1 w1 ⟨rfl, hw⟩; subst hw; clear HC)
        | fail)
      go_ret2
      exact ⟨rfl, rfl⟩
  · obtain ⟨e1, e2, _⟩ := of_arg (S := S) hl
    rw [e1, e2]
    have hl' : l < 0 ∨ (¬ l < 0 ∧ (8 : Int) ≤ l) := by
      rw [okL_iff] at hl
      omega
    clear e1 e2 hl h hS
    go_enter Try.func13, Try.ntmps13
    go_wp2_with (first
      | (go_at_call 18; refine (HA.out hl').mono ?_; rintro e1 w1 ⟨rfl, hw⟩; subst hw; clear HA)
      | fail)
    go_ret2
    exact ⟨rfl, rfl⟩
set_option maxRecDepth 100000 in
theorem attach_any (w : World) (p b : Nat) (S : Nat → Int) (l f : Int) (h : LinesIs w p b S) (hS : Gd S) : Calls Try.prog 11 #[.pointer (some ⟨p, 0, none⟩), .int .i64 l, .int .i64 f] w fun e w' => e = .returned (.int .i64 (atE S l f)) ∧ LinesIs w' p b (atS S l f) ∧ But b w w' := by
  have HC := rhide (fun n1 n2 => check_ok p b S w h l n1 n2)
  have HA := rhide (fun hl => check_arg p b S w h l hl)
  have c0 := h.c0
  by_cases ha : (okL l && okG f) = true
  · have hlf : okL l = true ∧ okG f = true := by simpa using ha
    obtain ⟨h1, h2⟩ := (okL_iff l).1 hlf.1
    obtain ⟨h3, h4⟩ := (okG_iff f).1 hlf.2
    obtain ⟨k, rfl⟩ := Int.eq_ofNat_of_zero_le h1
    have hk : k < 8 := by omega
    have n1 : ¬ (k : Int) < 0 := by omega
    have n2 : ¬ (8 : Int) ≤ (k : Int) := by omega
    have n3 : ¬ f < 0 := by omega
    have n4 : ¬ (64 : Int) ≤ f := by omega
    obtain ⟨L, hm, hr⟩ := h.ex
    have hlk := look_has hm (k : Int)
    rw [hr.has hS hk] at hlk
    simp only [kv, ev] at hlk
    by_cases h0 : S k = 0
    · obtain ⟨e1, e2⟩ := at_ok ha (S := S) (by simpa using h0)
      rw [e1, e2, Int.toNat_natCast]
      rw [show decide (S k ≠ 0) = false by simp [h0]] at hlk
      generalize vlK L k = v at hlk
      obtain ⟨o, hup, hm3⟩ := store_map hm (k : Int) f
      simp only [kv, ev] at hup
      have HQ := rhide (h.turn hm3 (hr.put hk h0 h3))
      clear e1 e2 hS hlf ha h h0 hm hr hm3
      go_enter Try.func11, Try.ntmps11
      go_wp2_with (first
        | (go_at_call 18; refine (HC.out n1 n2).mono ?_; rintro e1 w1 ⟨rfl, hw⟩; subst hw; clear HC)
        | fail)
      go_ret
      exact ⟨rfl, HQ.out⟩
    · obtain ⟨e1, e2⟩ := at_used ha (S := S) (by simpa using h0)
      rw [e1, e2]
      rw [show decide (S k ≠ 0) = true by simp [h0]] at hlk
      generalize vlK L k = v at hlk
      have HQ := rhide h
      clear e1 e2 hS hlf ha h h0 hm hr
      go_enter Try.func11, Try.ntmps11
      go_wp2_with (first
        | (go_at_call 18; refine (HC.out n1 n2).mono ?_; rintro e1 w1 ⟨rfl, hw⟩; subst hw; clear HC)
        | fail)
      go_ret
      exact ⟨rfl, HQ.out, But.refl _ _⟩
  · obtain ⟨e1, e2⟩ := at_arg (S := S) ha
    rw [e1, e2]
    have HQ := rhide h
    have hlf : l < 0 ∨ (¬ l < 0 ∧ (8 : Int) ≤ l) ∨ (¬ l < 0 ∧ ¬ (8 : Int) ≤ l ∧ f < 0) ∨ (¬ l < 0 ∧ ¬ (8 : Int) ≤ l ∧ ¬ f < 0 ∧ (64 : Int) ≤ f) := by
      have h1 := okL_iff l
      have h2 := okG_iff f
      simp only [Bool.and_eq_true] at ha
      rw [h1, h2] at ha
      omega
    clear e1 e2 ha hS h c0
    have hlf' : (l < 0 ∨ (¬ l < 0 ∧ (8 : Int) ≤ l)) ∨ (¬ l < 0 ∧ ¬ (8 : Int) ≤ l ∧ f < 0) ∨ (¬ l < 0 ∧ ¬ (8 : Int) ≤ l ∧ ¬ f < 0 ∧ (64 : Int) ≤ f) := by omega
    clear hlf
    rcases hlf' with hl' | ⟨n1, n2, n3⟩ | ⟨n1, n2, n3, n4⟩
    · go_enter Try.func11, Try.ntmps11
      go_wp2_with (first
        | (go_at_call 18; refine (HA.out hl').mono ?_; rintro e1 w1 ⟨rfl, hw⟩; subst hw; clear HA)
        | fail)
      go_ret
      exact ⟨rfl, HQ.out, But.refl _ _⟩
    all_goals
      go_enter Try.func11, Try.ntmps11
      go_wp2_with (first
        | (go_at_call 18; refine (HC.out n1 n2).mono ?_; rintro e1 w1 ⟨rfl, hw⟩; subst hw; clear HC)
        | fail)
      go_ret
      exact ⟨rfl, HQ.out, But.refl _ _⟩
end Go.Proofs.Ytefoofcfbcmjcaa.Phw
