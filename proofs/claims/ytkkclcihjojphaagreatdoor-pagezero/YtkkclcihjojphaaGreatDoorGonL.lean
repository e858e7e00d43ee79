import Derived.Test.YtkkclcihjojphaaGreatDoorGonB
import Derived.Test.YtkkclcihjojphaaGreatDoorGonF
set_option linter.unusedVariables false
set_option linter.unusedSimpArgs false
set_option maxRecDepth 100000
set_option maxHeartbeats 20000000
namespace Go.Proofs.YtkkclcihjojphaaGreatDoor
namespace Pbpag
open Pbase Pchold Pfind Play Pmem Pmst Ppmach Ptint Go.RowKit Go.Shelf
attribute [local go_sem] Oper.semAt_some
section
variable {w0 w : World} {p : Nat} {o : Nat -> Nat} {P : Pq} {s : St} {A : Nat}
theorem rightC (c : Pcomp.Cp) (h : Fx w0 w p o P s) (hR : RowB w A 156 #[.int .i64 c.tb, .int .i64 c.pg, .int .i64 c.l, .int .i64 c.e, .int .i64 c.fa, .int .i64 c.wh]) (hg : ∀ x ∈ ndC c, hdG s x) : Calls Tryz.prog 106 #[.pointer (some ⟨p, 0, none⟩), .func (.func 180) #[] #[.pointer (some ⟨A, 0, none⟩)]] w fun e W' => e = .returned (.int .i64 0) /\ Below w.heap.size w W' :=
 right_ok (Kp := KpB A 156 #[.int .i64 c.tb, .int .i64 c.pg, .int .i64 c.l, .int .i64 c.e, .int .i64 c.fa, .int .i64 c.wh]) h _ _ (ndC c) (enters_of Tryz.func180 (by kernel_rfl) rfl) (fun h k => kpB_trans h k) (fun h => kpB_below h) (fun W l o o' _ ho hc _ => kpB_obj W l o o' ho hc) (fun V hV => ofC_stops 8 (by omega) A #[.int .i64 c.tb, .int .i64 c.pg, .int .i64 c.l, .int .i64 c.e, .int .i64 c.fa, .int .i64 c.wh] c.tb c.pg rfl (hg _ (by simp [ndC])) (hg _ (by simp [ndC])) rfl V (hR.on hV))
theorem rightT (c : Pthd.Th) (h : Fx w0 w p o P s) (hR : RowB w A 178 #[.int .i64 c.st, .int .i64 c.co, .int .i64 c.tc, .int .i64 c.rc, .int .i64 c.de]) (hg : ∀ x ∈ ndT c, hdG s x) : Calls Tryz.prog 106 #[.pointer (some ⟨p, 0, none⟩), .func (.func 199) #[] #[.pointer (some ⟨A, 0, none⟩)]] w fun e W' => e = .returned (.int .i64 0) /\ Below w.heap.size w W' :=
 right_ok (Kp := KpB A 178 #[.int .i64 c.st, .int .i64 c.co, .int .i64 c.tc, .int .i64 c.rc, .int .i64 c.de]) h _ _ (ndT c) (enters_of Tryz.func199 (by kernel_rfl) rfl) (fun h k => kpB_trans h k) (fun h => kpB_below h) (fun W l o o' _ ho hc _ => kpB_obj W l o o' ho hc) (fun V hV => ofT_stops 8 (by omega) A #[.int .i64 c.st, .int .i64 c.co, .int .i64 c.tc, .int .i64 c.rc, .int .i64 c.de] c.tc c.rc rfl (mem_more hg).1 (mem_more hg).2 rfl V (hR.on hV))
theorem rightR (c : Pqrcv.Rv) (h : Fx w0 w p o P s) (hR : RowB w A 193 #[.int .i64 c.th, .int .i64 c.pa, .int .i64 c.co, .bool c.wa, .int .i64 c.lo]) (hg : ∀ x ∈ ndR c, hdG s x) : Calls Tryz.prog 106 #[.pointer (some ⟨p, 0, none⟩), .func (.func 215) #[] #[.pointer (some ⟨A, 0, none⟩)]] w fun e W' => e = .returned (.int .i64 0) /\ Below w.heap.size w W' :=
 right_ok (Kp := KpB A 193 #[.int .i64 c.th, .int .i64 c.pa, .int .i64 c.co, .bool c.wa, .int .i64 c.lo]) h _ _ (ndR c) (enters_of Tryz.func215 (by kernel_rfl) rfl) (fun h k => kpB_trans h k) (fun h => kpB_below h) (fun W l o o' _ ho hc _ => kpB_obj W l o o' ho hc) (fun V hV => ofR_stops 8 (by omega) A #[.int .i64 c.th, .int .i64 c.pa, .int .i64 c.co, .bool c.wa, .int .i64 c.lo] c.th c.pa rfl (mem_more hg).1 (mem_more hg).2 rfl V (hR.on hV))
end
end Pbpag
end Go.Proofs.YtkkclcihjojphaaGreatDoor
