/- The document's Slot, SlotOf, Page, PageOf and Number: the same answers. -/
import Derived.Test.YtpjielhcdjjnoaaDoorRadG
import Derived.OwnWalk
namespace Go.Proofs.YtpjielhcdjjnoaaDoor.Pradix
open Go.Proofs.YtpjielhcdjjnoaaDoor.Pbase Go.Proofs.YtpjielhcdjjnoaaDoor.Pfield
open Go.RowKit M
set_option linter.unusedVariables false

set_option maxRecDepth 100000 in
theorem rslot_any (a : Int) (w : World) :
    Calls Tryd.prog 7 #[.int .i64 a] w fun e w' => e = .returned (.tuple #[.int .i64 (slH a), .int .i64 (slL a), .int .i64 (slE a)]) ∧ w' = w := by
  by_cases hc : 0 ≤ a ∧ a ≤ 255
  · rw [(sl_yes hc).1, (sl_yes hc).2.1, (sl_yes hc).2.2]
    have h0 : ¬ a < 0 := by omega
    have h1 : ¬ 256 ≤ a := by omega
    go_enter Tryd.func7, Tryd.ntmps7
    go_wp2
    go_ret3
    exact ⟨rfl, rfl⟩
  · rw [(sl_no hc).1, (sl_no hc).2.1, (sl_no hc).2.2]
    have hk : a < 0 ∨ ¬ a < 0 ∧ 256 ≤ a := by omega
    clear hc
    rcases hk with h0 | ⟨h0, h1⟩
    all_goals
      go_enter Tryd.func7, Tryd.ntmps7
      go_wp2
      go_ret3
      exact ⟨rfl, rfl⟩
set_option maxRecDepth 100000 in
theorem rslotOf_any (h l : Int) (w : World) :
    Calls Tryd.prog 9 #[.int .i64 h, .int .i64 l] w fun e w' => e = .returned (.tuple #[.int .i64 (soA h l), .int .i64 (soE h l)]) ∧ w' = w := by
  by_cases hc : (0 ≤ h ∧ h ≤ 15) ∧ 0 ≤ l ∧ l ≤ 15
  · rw [(so_yes hc).1, (so_yes hc).2]
    have h0 : ¬ h < 0 := by omega
    have h1 : ¬ 16 ≤ h := by omega
    have h2 : ¬ l < 0 := by omega
    have h3 : ¬ 16 ≤ l := by omega
    clear hc
    go_enter Tryd.func9, Tryd.ntmps9
    go_wp2
    go_ret2
    exact ⟨rfl, rfl⟩
  · rw [(so_no hc).1, (so_no hc).2]
    have hk : h < 0 ∨ (¬ h < 0 ∧ 16 ≤ h) ∨ (¬ h < 0 ∧ ¬ 16 ≤ h ∧ l < 0) ∨ ¬ h < 0 ∧ ¬ 16 ≤ h ∧ ¬ l < 0 ∧ 16 ≤ l := by omega
    clear hc
    rcases hk with h0 | ⟨h0, h1⟩ | ⟨h0, h1, h2⟩ | ⟨h0, h1, h2, h3⟩
    all_goals
      go_enter Tryd.func9, Tryd.ntmps9
      go_wp2
      go_ret2
      exact ⟨rfl, rfl⟩
set_option maxRecDepth 100000 in
theorem rpage_any (a : Int) (w : World) :
    Calls Tryd.prog 11 #[.int .i64 a] w fun e w' => e = .returned (.tuple #[.int .i64 (pgH a), .int .i64 (pgL a), .int .i64 (pgA a), .int .i64 (pgE a)]) ∧ w' = w := by
  by_cases hc : 0 ≤ a ∧ a ≤ 32767
  · rw [(pg_yes hc).1, (pg_yes hc).2.1, (pg_yes hc).2.2.1, (pg_yes hc).2.2.2.1, show a / 1024 = a / 32 / 32 by omega]
    have h0 : ¬ a < 0 := by omega
    have h1 : ¬ 32768 ≤ a := by omega
    have h2 : 0 ≤ a / 32 := by omega
    have h3 : a / 32 ≤ 1023 := by omega
    clear hc
    go_enter Tryd.func11, Tryd.ntmps11
    go_wp2
    refine bodyPost_ret (v := .tuple #[.int .i64 (a / 32 / 32), .int .i64 (a / 32 % 32), .int .i64 (a % 32), .int .i64 0]) (by simp [results, Tryd.results11, go_sem]) rfl ⟨rfl, rfl⟩
  · rw [(pg_no hc).1, (pg_no hc).2.1, (pg_no hc).2.2.1, (pg_no hc).2.2.2.1]
    have hk : a < 0 ∨ ¬ a < 0 ∧ 32768 ≤ a := by omega
    clear hc
    rcases hk with h0 | ⟨h0, h1⟩
    all_goals
      go_enter Tryd.func11, Tryd.ntmps11
      go_wp2
      refine bodyPost_ret (v := .tuple #[.int .i64 0, .int .i64 0, .int .i64 0, .int .i64 1]) (by simp [results, Tryd.results11, go_sem]) rfl ⟨rfl, rfl⟩
set_option maxRecDepth 100000 in
theorem rpageOf_any (h l t : Int) (w : World) :
    Calls Tryd.prog 13 #[.int .i64 h, .int .i64 l, .int .i64 t] w fun e w' => e = .returned (.tuple #[.int .i64 (poA h l t), .int .i64 (poE h l t)]) ∧ w' = w := by
  by_cases hc : ((0 ≤ h ∧ h ≤ 31) ∧ 0 ≤ l ∧ l ≤ 31) ∧ 0 ≤ t ∧ t ≤ 31
  · rw [(po_yes hc).1, (po_yes hc).2]
    have h0 : ¬ h < 0 := by omega
    have h1 : ¬ 32 ≤ h := by omega
    have h2 : ¬ l < 0 := by omega
    have h3 : ¬ 32 ≤ l := by omega
    have h4 : ¬ t < 0 := by omega
    have h5 : ¬ 32 ≤ t := by omega
    clear hc
    go_enter Tryd.func13, Tryd.ntmps13
    go_wp2
    go_ret2
    exact ⟨rfl, rfl⟩
  · rw [(po_no hc).1, (po_no hc).2]
    have hk : h < 0 ∨ (¬ h < 0 ∧ 32 ≤ h) ∨ (¬ h < 0 ∧ ¬ 32 ≤ h ∧ l < 0) ∨ (¬ h < 0 ∧ ¬ 32 ≤ h ∧ ¬ l < 0 ∧ 32 ≤ l) ∨ (¬ h < 0 ∧ ¬ 32 ≤ h ∧ ¬ l < 0 ∧ ¬ 32 ≤ l ∧ t < 0) ∨ ¬ h < 0 ∧ ¬ 32 ≤ h ∧ ¬ l < 0 ∧ ¬ 32 ≤ l ∧ ¬ t < 0 ∧ 32 ≤ t := by omega
    clear hc
    rcases hk with h0 | ⟨h0, h1⟩ | ⟨h0, h1, h2⟩ | ⟨h0, h1, h2, h3⟩ | ⟨h0, h1, h2, h3, h4⟩ | ⟨h0, h1, h2, h3, h4, h5⟩
    all_goals
      go_enter Tryd.func13, Tryd.ntmps13
      go_wp2
      go_ret2
      exact ⟨rfl, rfl⟩
set_option maxRecDepth 100000 in
theorem rnumber_any (a : Int) (w : World) :
    Calls Tryd.prog 15 #[.int .i64 a] w fun e w' => e = .returned (.tuple #[.int .i64 (nuA a), .int .i64 (pgE a)]) ∧ w' = w := by
  have HP : Hid (Calls Tryd.prog 11 #[.int .i64 a] w fun e w' => e = .returned (.tuple #[.int .i64 (pgH a), .int .i64 (pgL a), .int .i64 (pgA a), .int .i64 (pgE a)]) ∧ w' = w) := rpage_any a w
  by_cases hc : 0 ≤ a ∧ a ≤ 32767
  · rw [(pg_yes hc).1] at HP ⊢
    rw [(pg_yes hc).2.2.2.2]
    obtain ⟨h0, h1⟩ := hc
    go_enter Tryd.func15, Tryd.ntmps15
    go_wp2_with (first
      | (go_at_call 11; refine HP.out.mono ?_; rintro e1 w1 ⟨rfl, hw1⟩; subst w1)
      | fail)
    go_ret2
    exact ⟨rfl, rfl⟩
  · rw [(pg_no hc).1] at HP ⊢
    rw [(pg_no hc).2.2.2.2]
    clear hc
    go_enter Tryd.func15, Tryd.ntmps15
    go_wp2_with (first
      | (go_at_call 11; refine HP.out.mono ?_; rintro e1 w1 ⟨rfl, hw1⟩; subst w1)
      | fail)
    go_ret2
    exact ⟨rfl, rfl⟩
end Go.Proofs.YtpjielhcdjjnoaaDoor.Pradix
