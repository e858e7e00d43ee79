/- Detach and Has of package hw; all contracts together. -/
import Derived.Test.YtefoofcfbcmjcaaHwA
namespace Go.Proofs.Ytefoofcfbcmjcaa.Phw
open Go.Proofs.Ytefoofcfbcmjcaa.Pbase
open Go.RowKit Go.ChangeMaps
set_option linter.unusedVariables false

set_option maxRecDepth 100000 in
theorem detach_any (w : World) (p b : Nat) (S : Nat → Int) (l : Int) (h : LinesIs w p b S) (hS : Gd S) : Calls Try.prog 9 #[.pointer (some ⟨p, 0, none⟩), .int .i64 l] w fun e w' => e = .returned (.tuple #[.int .i64 (ofX S l), .int .i64 (ofE S l)]) ∧ LinesIs w' p b (deS S l) ∧ But b w w' := by
  have HO := rhide (of_any w p b S l h hS)
  have c0 := h.c0
  by_cases he : ofE S l = 0
  · have hl : okL l = true := by
      by_cases hl : okL l = true
      · exact hl
      · rw [(of_arg hl).1] at he
        exact absurd he (by decide)
    have h0 : S l.toNat ≠ 0 := fun h0 => by
      rw [(of_none hl h0).1] at he
      exact absurd he (by decide)
    obtain ⟨e1, e2, e3⟩ := of_ok hl h0
    rw [e1, e3]
    rw [e1] at HO
    obtain ⟨h1, h2⟩ := (okL_iff l).1 hl
    obtain ⟨k, rfl⟩ := Int.eq_ofNat_of_zero_le h1
    rw [Int.toNat_natCast] at h0 ⊢
    obtain ⟨L, hm, hr⟩ := h.ex
    obtain ⟨o, hdl, hm3⟩ := delete_map hm (k : Int) (by rw [hr.has hS (by omega)]; simp [h0])
    simp only [kv] at hdl
    have HQ := rhide (h.turn hm3 hr.del)
    generalize ofX S (k : Int) = x at HO ⊢
    clear e1 e2 e3 he hl h0 hS h hm hr hm3
    go_enter Try.func9, Try.ntmps9
    go_wp2_with (first
      | (go_at_call 13; refine HO.out.mono ?_; rintro e1 w1 ⟨rfl, hw⟩; subst hw; clear HO)
      | fail)
    go_ret2
    exact ⟨rfl, HQ.out⟩
  · have e2 : ofX S l = 0 := by unfold ofX; rw [if_neg he]
    have e3 : deS S l = S := by unfold deS; rw [if_neg he]
    rw [e2, e3]
    rw [e2] at HO
    have hb : (ofE S l != 0) = true := by simp [he]
    have HQ := rhide h
    generalize ofE S l = E at HO hb ⊢
    clear e2 e3 he hS h c0
    go_enter Try.func9, Try.ntmps9
    go_wp2_with (first
      | (go_at_call 13; refine HO.out.mono ?_; rintro e1 w1 ⟨rfl, hw⟩; subst hw; clear HO)
      | fail)
    go_ret2
    exact ⟨rfl, HQ.out, But.refl _ _⟩
theorem cnt_le (L : List En) (f : Int) : cntL L f ≤ L.length := List.length_filter_le _ _
theorem cnt_app (L R : List En) (f : Int) : cntL L f ≤ cntL (L ++ R) f := by simp [cntL]
set_option maxRecDepth 100000 in
set_option maxHeartbeats 2000000 in
theorem has_any (w : World) (p b : Nat) (S : Nat → Int) (f : Int) (h : LinesIs w p b S) (hS : Gd S) : Calls Try.prog 15 #[.pointer (some ⟨p, 0, none⟩), .int .i64 f] w fun e w' => e = .returned (.int .i64 (hsN S f)) ∧ Below w.heap.size w w' := by
  have HM := rhide (made_any p b S w h)
  have c0 := h.c0
  obtain ⟨L, hm, hr⟩ := h.ex
  have hc := hr.cnt hS f
  have h8 := hsK_le S f 8
  rw [← hc] at h8
  have H := rhide hm
  have HC : Hid (hsN S f = (cntL L f : Nat)) := by
    show hsN S f = (cntL L f : Nat)
    unfold hsN
    rw [hc]
  have H8 := rhide h8
  clear h8
  clear hm hr hc hS h
  go_enter Try.func15, Try.ntmps15
  go_wp2_with (first
    | (go_at_call 19; refine HM.out.mono ?_; rintro e1 w1 ⟨rfl, hw⟩; subst w1; clear HM)
    | (at_range; refine wpList_range_map _ rfl _ rfl b L rfl H.out ?_; intro w3 hrg hbl hsz; have HR := rhide hrg; have HB3 := rhide hbl; clear hrg hbl hsz)
    | fail)
  go_frame
  go_loopw [5] (fun n wr => ∃ D, n = .int .i64 (cntL D f : Nat) ∧ RngIs wr b w.heap.size L D ∧ Below w.heap.size w wr ∧ ∃ R, L.Perm (D ++ R)) (fun _ wr => wr.rangeLeft b w.heap.size)
  case atStart => exact ⟨[], rfl, HR.out, HB3.out, L, List.Perm.refl _⟩
  case round =>
    obtain ⟨D, rfl, hR, hB, hP⟩ := hrel
    have HR4 := rhide hR
    have HB4 := rhide hB
    have HP := rhide hP
    have hn : cntL D f ≤ 8 := by
      obtain ⟨R, hR⟩ := HP.out
      have h1 := cnt_app D R f
      rw [← cnt_perm hR f] at h1
      exact Nat.le_trans h1 H8.out
    clear hR hB hP HR HB3
    have d1 : wrap64 ((cntL D f : Nat) + 1 : Int) = (cntL D f : Nat) + 1 := by unfold wrap64; omega
    go_wp2_with (first
      | (at_next; refine wpList_next_map _ rfl _ rfl b w.heap.size L D rfl HR4.out (fun hD => ?_) (fun k v w4 HN hen => ?_))
      | fail)
    · go_ret
      exact ⟨by rw [HC.out, cnt_perm hD]; rfl, HB4.out⟩
    · rename_i hv
      have hv' : v = f := by simpa using hv
      subst hv'
      obtain ⟨⟨R, hR⟩, g1, g2, g3, g4, g5⟩ := HN.out
      exact ⟨⟨D ++ [(k, v)], by rw [cnt_yes D]; rfl, g1, HB4.out.trans (g5 _ (Nat.le_refl _)), R, by simpa using hR⟩, g2⟩
    · rename_i hv
      have hv' : v ≠ f := by simpa using hv
      obtain ⟨⟨R, hR⟩, g1, g2, g3, g4, g5⟩ := HN.out
      exact ⟨⟨D ++ [(k, v)], by rw [cnt_no D hv'], g1, HB4.out.trans (g5 _ (Nat.le_refl _)), R, by simpa using hR⟩, g2⟩
theorem pg : Pg LinesIs where
  new := new_any
  lt := fun _ _ _ _ h => h.lt
  on := fun _ _ _ _ _ h h1 h2 => h.on h1 h2
  attach := fun w p b S l f h hS _ _ => attach_any w p b S l f h hS
  of := fun w p b S l h hS _ => (of_any w p b S l h hS).mono fun e w' ⟨h1, h2⟩ => ⟨h1, by rw [h2]; exact Below.refl _ _⟩
  detach := fun w p b S l h hS _ => detach_any w p b S l h hS
  has := fun w p b S f h hS _ => has_any w p b S f h hS
end Go.Proofs.Ytefoofcfbcmjcaa.Phw
