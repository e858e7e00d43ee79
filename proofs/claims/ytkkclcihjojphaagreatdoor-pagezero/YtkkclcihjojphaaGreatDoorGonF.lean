import Derived.Test.YtkkclcihjojphaaGreatDoorGonD
import Derived.Test.YtkkclcihjojphaaGreatDoorGonE
set_option linter.unusedVariables false
set_option linter.unusedSimpArgs false
set_option maxRecDepth 100000
set_option maxHeartbeats 20000000
namespace Go.Proofs.YtkkclcihjojphaaGreatDoor
namespace Pbpag
open Pbase Pchold Pfind Play Pmem Pmst Ppmach Ptint Go.RowKit Go.Shelf
attribute [local go_sem] Oper.semAt_some
theorem or_zero {w : World} {n R0 : Nat} (hn : n <= 4) (hv : ∀ j, j < n -> w.cell? ⟨R0, j, none⟩ = some (.int .i64 0)) : Calls Tryz.prog 105 #[.slice (some ⟨R0, 0, none⟩) n n] w fun x w' => x = .returned (.int .i64 0) /\ w' = w := by
 have HV := ghide hv
 clear hv
 go_enter Tryz.func105, Tryz.ntmps105
 go_wp2
 go_loopw [5, 8] (fun v i wr => ∃ j : Nat, j <= n /\ i = .int .i64 j /\ wr = w) (fun _ i _ => n - (intOf i).toNat)
 case atStart => exact ⟨0, by omega, rfl, rfl⟩
 case round =>
  obtain ⟨j, hj, rfl, hw⟩ := hrel
  subst hw
  by_cases hlt : j < n
  · have i0 : (j : Int) < (n : Int) := by omega
    have c0 := HV.out j hlt
    go_wp2
    go_roundw
    case rel => exact ⟨j + 1, by omega, by go_num, by first | rfl | trivial⟩
    case measure =>
     have hw : wrap64 ((j : Int) + 1) = (j : Int) + 1 := by unfold wrap64; omega
     simp only [intOf, hw]
     omega
  · have i0 : ¬ (j : Int) < (n : Int) := by omega
    go_wp2
    go_ret
    exact ⟨rfl, rfl⟩
theorem ofC_any (c : Pcomp.Cp) (w : World) : Calls Tryz.prog 107 #[.agg #[.int .i64 c.tb, .int .i64 c.pg, .int .i64 c.l, .int .i64 c.e, .int .i64 c.fa, .int .i64 c.wh]] w fun x w' =>
 x = .returned (.func (.func 180) #[] #[.pointer (some ⟨w.heap.size, 0, none⟩)]) /\ RowB w' w.heap.size 156 #[.int .i64 c.tb, .int .i64 c.pg, .int .i64 c.l, .int .i64 c.e, .int .i64 c.fa, .int .i64 c.wh] /\ Below w.heap.size w w' := by
 go_enter Tryz.func107, Tryz.ntmps107
 go_wp2
 go_ret
 exact ⟨rfl, heap_alloc_new w _, bal (Below.refl _ _) _⟩
theorem ofT_any (c : Pthd.Th) (w : World) : Calls Tryz.prog 123 #[.agg #[.int .i64 c.st, .int .i64 c.co, .int .i64 c.tc, .int .i64 c.rc, .int .i64 c.de]] w fun x w' =>
 x = .returned (.func (.func 199) #[] #[.pointer (some ⟨w.heap.size, 0, none⟩)]) /\ RowB w' w.heap.size 178 #[.int .i64 c.st, .int .i64 c.co, .int .i64 c.tc, .int .i64 c.rc, .int .i64 c.de] /\ Below w.heap.size w w' := by
 go_enter Tryz.func123, Tryz.ntmps123
 go_wp2
 go_ret
 exact ⟨rfl, heap_alloc_new w _, bal (Below.refl _ _) _⟩
theorem ofR_any (c : Pqrcv.Rv) (w : World) : Calls Tryz.prog 131 #[.agg #[.int .i64 c.th, .int .i64 c.pa, .int .i64 c.co, .bool c.wa, .int .i64 c.lo]] w fun x w' =>
 x = .returned (.func (.func 215) #[] #[.pointer (some ⟨w.heap.size, 0, none⟩)]) /\ RowB w' w.heap.size 193 #[.int .i64 c.th, .int .i64 c.pa, .int .i64 c.co, .bool c.wa, .int .i64 c.lo] /\ Below w.heap.size w w' := by
 go_enter Tryz.func131, Tryz.ntmps131
 go_wp2
 go_ret
 exact ⟨rfl, heap_alloc_new w _, bal (Below.refl _ _) _⟩
def ndC (c : Pcomp.Cp) : List (Int × Int) := [(c.tb, 1), (c.pg, 2)]
def ndT (c : Pthd.Th) : List (Int × Int) := (c.tc, 5) :: more c.rc 6
def ndR (c : Pqrcv.Rv) : List (Int × Int) := (c.th, 4) :: more c.pa 6
theorem kpB_tint {o : Nat -> Nat} {A : Nat} {t : TypeId} {cs : Array Value} (hn : ¬ PMine o A) {X Y : World} (h : Tint (PMine o) X Y) : KpB A t cs X Y := fun x => (h.block A x.lt hn).trans x
theorem mem_more {b k : Int} {G : Int × Int -> Prop} {x : Int × Int} (h : ∀ y ∈ x :: more b k, G y) : G x /\ (b ≠ 0 -> G (wrap64 (b - 1), k)) :=
 ⟨h _ (by simp), fun hb => h _ (by simp [more, hb])⟩
section
variable {w0 w : World} {p : Nat} {o : Nat -> Nat} {P : Pq} {s : St} {A : Nat}
theorem roomC (c : Pcomp.Cp) (h : Fx w0 w p o P s) (hR : RowB w A 156 #[.int .i64 c.tb, .int .i64 c.pg, .int .i64 c.l, .int .i64 c.e, .int .i64 c.fa, .int .i64 c.wh]) (hg : ∀ x ∈ ndC c, rmG s x) : Calls Tryz.prog 108 #[.pointer (some ⟨p, 0, none⟩), .func (.func 180) #[] #[.pointer (some ⟨A, 0, none⟩)]] w fun e W' => e = .returned (.int .i64 0) /\ Below w.heap.size w W' :=
 room_ok (Kp := KpB A 156 #[.int .i64 c.tb, .int .i64 c.pg, .int .i64 c.l, .int .i64 c.e, .int .i64 c.fa, .int .i64 c.wh]) h _ _ (ndC c) (enters_of Tryz.func180 (by kernel_rfl) rfl) (fun h k => kpB_trans h k) (fun h => kpB_below h) (fun W l o o' _ ho hc _ => kpB_obj W l o o' ho hc) (fun V hV => ofC_stops 8 (by omega) A #[.int .i64 c.tb, .int .i64 c.pg, .int .i64 c.l, .int .i64 c.e, .int .i64 c.fa, .int .i64 c.wh] c.tb c.pg rfl (hg _ (by simp [ndC])) (hg _ (by simp [ndC])) rfl V (hR.on hV))
theorem takeC (c : Pcomp.Cp) (h : Fx w0 w p o P s) (hn : ¬ PMine o A) (hR : RowB w A 156 #[.int .i64 c.tb, .int .i64 c.pg, .int .i64 c.l, .int .i64 c.e, .int .i64 c.fa, .int .i64 c.wh]) : Calls Tryz.prog 111 #[.pointer (some ⟨p, 0, none⟩), .func (.func 180) #[] #[.pointer (some ⟨A, 0, none⟩)]] w fun e W' => (∃ v, e = .returned v) /\ Lv w0 w W' p o P { s with T := refL s.N s.T (ndC c) } :=
 take_any (Kp := KpB A 156 #[.int .i64 c.tb, .int .i64 c.pg, .int .i64 c.l, .int .i64 c.e, .int .i64 c.fa, .int .i64 c.wh]) h _ _ (ndC c) (enters_of Tryz.func180 (by kernel_rfl) rfl) (fun h k => kpB_trans h k) (fun h => kpB_tint hn h) (fun W l o o' _ ho hc _ => kpB_obj W l o o' ho hc) (fun V hV => ofC_stops 8 (by omega) A #[.int .i64 c.tb, .int .i64 c.pg, .int .i64 c.l, .int .i64 c.e, .int .i64 c.fa, .int .i64 c.wh] c.tb c.pg rfl trivial trivial rfl V (hR.on hV))
theorem roomT (c : Pthd.Th) (h : Fx w0 w p o P s) (hR : RowB w A 178 #[.int .i64 c.st, .int .i64 c.co, .int .i64 c.tc, .int .i64 c.rc, .int .i64 c.de]) (hg : ∀ x ∈ ndT c, rmG s x) : Calls Tryz.prog 108 #[.pointer (some ⟨p, 0, none⟩), .func (.func 199) #[] #[.pointer (some ⟨A, 0, none⟩)]] w fun e W' => e = .returned (.int .i64 0) /\ Below w.heap.size w W' :=
 room_ok (Kp := KpB A 178 #[.int .i64 c.st, .int .i64 c.co, .int .i64 c.tc, .int .i64 c.rc, .int .i64 c.de]) h _ _ (ndT c) (enters_of Tryz.func199 (by kernel_rfl) rfl) (fun h k => kpB_trans h k) (fun h => kpB_below h) (fun W l o o' _ ho hc _ => kpB_obj W l o o' ho hc) (fun V hV => ofT_stops 8 (by omega) A #[.int .i64 c.st, .int .i64 c.co, .int .i64 c.tc, .int .i64 c.rc, .int .i64 c.de] c.tc c.rc rfl (mem_more hg).1 (mem_more hg).2 rfl V (hR.on hV))
theorem takeT (c : Pthd.Th) (h : Fx w0 w p o P s) (hn : ¬ PMine o A) (hR : RowB w A 178 #[.int .i64 c.st, .int .i64 c.co, .int .i64 c.tc, .int .i64 c.rc, .int .i64 c.de]) : Calls Tryz.prog 111 #[.pointer (some ⟨p, 0, none⟩), .func (.func 199) #[] #[.pointer (some ⟨A, 0, none⟩)]] w fun e W' => (∃ v, e = .returned v) /\ Lv w0 w W' p o P { s with T := refL s.N s.T (ndT c) } :=
 take_any (Kp := KpB A 178 #[.int .i64 c.st, .int .i64 c.co, .int .i64 c.tc, .int .i64 c.rc, .int .i64 c.de]) h _ _ (ndT c) (enters_of Tryz.func199 (by kernel_rfl) rfl) (fun h k => kpB_trans h k) (fun h => kpB_tint hn h) (fun W l o o' _ ho hc _ => kpB_obj W l o o' ho hc) (fun V hV => ofT_stops 8 (by omega) A #[.int .i64 c.st, .int .i64 c.co, .int .i64 c.tc, .int .i64 c.rc, .int .i64 c.de] c.tc c.rc rfl trivial (fun _ => trivial) rfl V (hR.on hV))
theorem roomR (c : Pqrcv.Rv) (h : Fx w0 w p o P s) (hR : RowB w A 193 #[.int .i64 c.th, .int .i64 c.pa, .int .i64 c.co, .bool c.wa, .int .i64 c.lo]) (hg : ∀ x ∈ ndR c, rmG s x) : Calls Tryz.prog 108 #[.pointer (some ⟨p, 0, none⟩), .func (.func 215) #[] #[.pointer (some ⟨A, 0, none⟩)]] w fun e W' => e = .returned (.int .i64 0) /\ Below w.heap.size w W' :=
 room_ok (Kp := KpB A 193 #[.int .i64 c.th, .int .i64 c.pa, .int .i64 c.co, .bool c.wa, .int .i64 c.lo]) h _ _ (ndR c) (enters_of Tryz.func215 (by kernel_rfl) rfl) (fun h k => kpB_trans h k) (fun h => kpB_below h) (fun W l o o' _ ho hc _ => kpB_obj W l o o' ho hc) (fun V hV => ofR_stops 8 (by omega) A #[.int .i64 c.th, .int .i64 c.pa, .int .i64 c.co, .bool c.wa, .int .i64 c.lo] c.th c.pa rfl (mem_more hg).1 (mem_more hg).2 rfl V (hR.on hV))
theorem takeR (c : Pqrcv.Rv) (h : Fx w0 w p o P s) (hn : ¬ PMine o A) (hR : RowB w A 193 #[.int .i64 c.th, .int .i64 c.pa, .int .i64 c.co, .bool c.wa, .int .i64 c.lo]) : Calls Tryz.prog 111 #[.pointer (some ⟨p, 0, none⟩), .func (.func 215) #[] #[.pointer (some ⟨A, 0, none⟩)]] w fun e W' => (∃ v, e = .returned v) /\ Lv w0 w W' p o P { s with T := refL s.N s.T (ndR c) } :=
 take_any (Kp := KpB A 193 #[.int .i64 c.th, .int .i64 c.pa, .int .i64 c.co, .bool c.wa, .int .i64 c.lo]) h _ _ (ndR c) (enters_of Tryz.func215 (by kernel_rfl) rfl) (fun h k => kpB_trans h k) (fun h => kpB_tint hn h) (fun W l o o' _ ho hc _ => kpB_obj W l o o' ho hc) (fun V hV => ofR_stops 8 (by omega) A #[.int .i64 c.th, .int .i64 c.pa, .int .i64 c.co, .bool c.wa, .int .i64 c.lo] c.th c.pa rfl trivial (fun _ => trivial) rfl V (hR.on hV))
end
end Pbpag
end Go.Proofs.YtkkclcihjojphaaGreatDoor
