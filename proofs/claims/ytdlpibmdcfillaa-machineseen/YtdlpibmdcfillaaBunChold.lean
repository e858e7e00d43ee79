/- Texts on finished packages, joined. -/
import Derived.Test.YtdlpibmdcfillaaBunBase
import Derived.WalkKit
import Derived.Below
import Derived.OwnWalk
import Derived.Laws.Rows

/- The frame that a capability needs: the program's Holds and the document's (out of cap's texts). -/
namespace Go.Proofs.Ytdlpibmdcfillaa.Pchold
open Go.Proofs.Ytdlpibmdcfillaa.Pbase
open Go.RowKit
set_option linter.unusedVariables false

def holB (k : Int) : Bool := decide (3 ≤ k) && decide (k ≤ 10)
def holI (k t : Int) : Int := if holB k = true then t else 0
theorem holds_any (k r t l e a : Int) (w : World) :
    Calls Try.prog 70 #[.agg #[.int .i64 k, .int .i64 r, .int .i64 t, .int .i64 l, .int .i64 e, .int .i64 a]] w fun x w' => x = .returned (.tuple #[.int .i64 (holI k t), .bool (holB k)]) ∧ Below w.heap.size w w' := by
  by_cases h3 : k < 3
  · have hb : holB k = false := by simp [holB]; omega
    have hi : holI k t = 0 := by simp [holI, hb]
    rw [hb, hi]
    clear hb hi
    go_enter Try.func70, Try.ntmps70
    go_wp2
    go_ret2
    exact ⟨rfl, bal (Below.refl _ _) _⟩
  by_cases h10 : 10 < k
  · have hb : holB k = false := by simp [holB]; omega
    have hi : holI k t = 0 := by simp [holI, hb]
    rw [hb, hi]
    clear hb hi
    go_enter Try.func70, Try.ntmps70
    go_wp2
    go_ret2
    exact ⟨rfl, bal (Below.refl _ _) _⟩
  have hb : holB k = true := by simp [holB]; omega
  have hi : holI k t = t := by simp [holI, hb]
  rw [hb, hi]
  clear hb hi
  go_enter Try.func70, Try.ntmps70
  go_wp2
  go_ret2
  exact ⟨rfl, bal (Below.refl _ _) _⟩
end Go.Proofs.Ytdlpibmdcfillaa.Pchold
