/- Any act; the four tables out of the condition of the row of CaptblPlays. -/
import Derived.Test.YtgcaodfcodalfaaGreatDoorCtcB
import Derived.Test.YtgcaodfcodalfaaGreatDoorBunCap
import Derived.Test.YtgcaodfcodalfaaGreatDoorBunHead
import Derived.Test.YtgcaodfcodalfaaGreatDoorBunRadix
namespace Go.Proofs.YtgcaodfcodalfaaGreatDoor.Pcaptbl
open Go.Proofs.YtgcaodfcodalfaaGreatDoor.Pbase Go.Proofs.YtgcaodfcodalfaaGreatDoor.Pmem Go.Proofs.YtgcaodfcodalfaaGreatDoor.Pradix Go.Proofs.YtgcaodfcodalfaaGreatDoor.Pslot
open Go.RowKit Go.ChangeShapes Go.WideShapes
set_option linter.unusedVariables false

theorem act_any {w0 w : World} {M : Nat → Nat → Int} (K : Nat) (hK : K < 7) (a b c k r t l e x : Int) (hb : -9223372036854775808 ≤ b ∧ b ≤ 9223372036854775807) (h : Pl w0 w M) :
    Calls Tryz.prog 5 #[.pointer (some ⟨w0.heap.size + 1, 0, none⟩), .pointer (some ⟨w0.heap.size + 2, 0, none⟩), .int .i64 (K : Int), .int .i64 a, .int .i64 b, .int .i64 c, .agg #[.int .i64 k, .int .i64 r, .int .i64 t, .int .i64 l, .int .i64 e, .int .i64 x]] w fun y w' => y = .returned (.bool true) ∧ ∃ M', Pl w0 w' M' := by
  match K, hK with
  | 0, _ => exact act_make a b c k r t l e x h
  | 1, _ => exact act_put1 a b c k r t l e x hb h
  | 2, _ => exact act_put2 a b c k r t l e x hb h
  | 3, _ => exact act_drop a b c k r t l e x hb h
  | 4, _ => exact act_cons a b c k r t l e x _ rfl h
  | 5, _ => exact act_decons a b c k r t l e x _ rfl h
  | 6, _ => exact act_look a b c k r t l e x hb h
/-- What the condition on the tables gives the walks. -/
theorem of_laid {W : World} (h : laidMetH Tryz.prog Rows.captblPlaysRow.laid W) : Tb W := by
  rw [MakeChecks.laidMetH_plain _ _ _ (by kernel_rfl)] at h
  obtain ⟨ps, ⟨g0, t0, cs0, f0, p0, q0, hg0, ht0, hv0, hd0, ⟨g1, t1, cs1, f1, p1, q1, hg1, ht1, hv1, hd1, ⟨g2, t2, cs2, f2, p2, q2, hg2, ht2, hv2, hd2, ⟨g3, t3, cs3, f3, p3, q3, hg3, ht3, hv3, hd3, _, _⟩, _⟩, _⟩, _⟩, _, _⟩ := h
  obtain ⟨s1, s2⟩ := tabS_of (by kernel_rfl) hg3 ht3 hv3 hd3
  exact ⟨Pcap.tabM_of (by kernel_rfl) hg1 ht1 hv1 hd1, Pcap.tabW_of (by kernel_rfl) hg0 ht0 hv0 hd0, Phead.tabW_of (by kernel_rfl) hg2 ht2 hv2 hd2, ⟨s1, s2⟩⟩
end Go.Proofs.YtgcaodfcodalfaaGreatDoor.Pcaptbl
