/- What needs are made of (ofComp, ofThd, ofRcv); right and room over them in a machine without parts; the first error of a row (cmp.Or). -/
import Derived.Test.YtiapfapmgjngpaaGreatDoorBldB
import Derived.Test.YtiapfapmgjngpaaGreatDoorBldC
namespace Go.Proofs.YtiapfapmgjngpaaGreatDoor.Pbuild
open Go.Proofs.YtiapfapmgjngpaaGreatDoor.Pbase
open Go.RowKit Go.Shelf
set_option linter.unusedVariables false
set_option linter.unusedSimpArgs false

theorem RowB.from {W W' : World} {A : Nat} {t : TypeId} {cs : Array Value} (h : RowB W A t cs) (hB : Below W.heap.size W W') : RowB W' A t cs := h.on hB
set_option maxRecDepth 100000 in
theorem ofC_any (tb pg l e fa wh : Int) (w : World) : Calls Tryz.prog 68 #[.agg #[.int .i64 tb, .int .i64 pg, .int .i64 l, .int .i64 e, .int .i64 fa, .int .i64 wh]] w fun x w' =>
    x = .returned (.func (.func 165) #[] #[.pointer (some ⟨w.heap.size, 0, none⟩)]) ∧ RowB w' w.heap.size 128 #[.int .i64 tb, .int .i64 pg, .int .i64 l, .int .i64 e, .int .i64 fa, .int .i64 wh] ∧ Below w.heap.size w w' := by
  go_enter Tryz.func68, Tryz.ntmps68
  go_wp2
  go_ret
  exact ⟨rfl, heap_alloc_new w _, bal (Below.refl _ _) _⟩
set_option maxRecDepth 100000 in
theorem ofT_any (s c tc rc d : Int) (w : World) : Calls Tryz.prog 75 #[.agg #[.int .i64 s, .int .i64 c, .int .i64 tc, .int .i64 rc, .int .i64 d]] w fun x w' =>
    x = .returned (.func (.func 177) #[] #[.pointer (some ⟨w.heap.size, 0, none⟩)]) ∧ RowB w' w.heap.size 142 #[.int .i64 s, .int .i64 c, .int .i64 tc, .int .i64 rc, .int .i64 d] ∧ Below w.heap.size w w' := by
  go_enter Tryz.func75, Tryz.ntmps75
  go_wp2
  go_ret
  exact ⟨rfl, heap_alloc_new w _, bal (Below.refl _ _) _⟩
set_option maxRecDepth 100000 in
theorem ofR_any (t p n : Int) (b : Bool) (l : Int) (w : World) : Calls Tryz.prog 78 #[.agg #[.int .i64 t, .int .i64 p, .int .i64 n, .bool b, .int .i64 l]] w fun x w' =>
    x = .returned (.func (.func 183) #[] #[.pointer (some ⟨w.heap.size, 0, none⟩)]) ∧ RowB w' w.heap.size 47 #[.int .i64 t, .int .i64 p, .int .i64 n, .bool b, .int .i64 l] ∧ Below w.heap.size w w' := by
  go_enter Tryz.func78, Tryz.ntmps78
  go_wp2
  go_ret
  exact ⟨rfl, heap_alloc_new w _, bal (Below.refl _ _) _⟩

/-- A machine that has no memory and no table of frames, behind any calls that make memory; head's Get over no memory, typ's Type of no table. -/
structure NoB (w : World) (q0 : Option Addr) : Prop where
  mem : ∀ wx, Below w.heap.size w wx → Calls Tryz.prog 21 #[.pointer q0] wx fun e w' => e = .returned (.pointer none) ∧ Below wx.heap.size wx w'
  get : ∀ wx (f : Int), Calls Tryz.prog 82 #[.pointer none, .int .i64 f] wx fun e w' => e = .returned (.tuple #[.agg #[.int .i64 0, .int .i64 0, .bool false, .int .i64 0], .int .i64 13]) ∧ Below wx.heap.size wx w'
  typ : ∀ wx, Below w.heap.size w wx → Calls Tryz.prog 25 #[.pointer q0] wx fun e w' => e = .returned (.pointer none) ∧ Below wx.heap.size wx w'
  type : ∀ wx (f : Int), Calls Tryz.prog 53 #[.pointer none, .int .i64 f] wx fun e w' => e = .returned (.int .i64 0) ∧ Below wx.heap.size wx w'
theorem NoB.on {w w' : World} {q0 : Option Addr} (h : NoB w q0) (hB : Below w.heap.size w w') : NoB w' q0 := ⟨fun wx hx => h.mem wx (hB.trans (hx.mono hB.size)), h.get, fun wx hx => h.typ wx (hB.trans (hx.mono hB.size)), h.type⟩
theorem rightC_no {w : World} {q0 : Option Addr} (h : NoB w q0) {A : Nat} {cs : Array Value} {a b : Int} (ha : cs[0]? = some (.int .i64 a)) (hb : cs[1]? = some (.int .i64 b)) (hR : RowB w A 128 cs) :
    Calls Tryz.prog 67 #[.pointer q0, .func (.func 165) #[] #[.pointer (some ⟨A, 0, none⟩)]] w fun e W' => e = .returned (.int .i64 4) ∧ Below w.heap.size w W' :=
  right_no (Kp := KpB A 128 cs) _ _ [(a, 1), (b, 2)] (by simp) (enters_of Tryz.func165 (by kernel_rfl) rfl) (fun h k => kpB_trans h k) (fun h => kpB_below h) (fun W l o o' _ ho hc _ => kpB_obj W l o o' ho hc) (fun V hV => ofC_stops 8 (by omega) A cs a b ha hb V (hR.on hV)) h.mem h.get
theorem roomC_no {w : World} {q0 : Option Addr} (h : NoB w q0) {A : Nat} {cs : Array Value} {a b : Int} (ha : cs[0]? = some (.int .i64 a)) (hb : cs[1]? = some (.int .i64 b)) (hR : RowB w A 128 cs) :
    Calls Tryz.prog 69 #[.pointer q0, .func (.func 165) #[] #[.pointer (some ⟨A, 0, none⟩)]] w fun e W' => e = .returned (.int .i64 2) ∧ Below w.heap.size w W' :=
  room_no (Kp := KpB A 128 cs) _ _ [(a, 1), (b, 2)] (by simp) (enters_of Tryz.func165 (by kernel_rfl) rfl) (fun h k => kpB_trans h k) (fun h => kpB_below h) (fun W l o o' _ ho hc _ => kpB_obj W l o o' ho hc) (fun V hV => ofC_stops 8 (by omega) A cs a b ha hb V (hR.on hV)) h.typ h.type
theorem rightT_no {w : World} {q0 : Option Addr} (h : NoB w q0) {A : Nat} {cs : Array Value} {a b : Int} (ha : cs[2]? = some (.int .i64 a)) (hb : cs[3]? = some (.int .i64 b)) (hR : RowB w A 142 cs) :
    Calls Tryz.prog 67 #[.pointer q0, .func (.func 177) #[] #[.pointer (some ⟨A, 0, none⟩)]] w fun e W' => e = .returned (.int .i64 4) ∧ Below w.heap.size w W' :=
  right_no (Kp := KpB A 142 cs) _ _ ((a, 5) :: more b 6) (by simp) (enters_of Tryz.func177 (by kernel_rfl) rfl) (fun h k => kpB_trans h k) (fun h => kpB_below h) (fun W l o o' _ ho hc _ => kpB_obj W l o o' ho hc) (fun V hV => ofT_stops 8 (by omega) A cs a b ha hb V (hR.on hV)) h.mem h.get
theorem roomT_no {w : World} {q0 : Option Addr} (h : NoB w q0) {A : Nat} {cs : Array Value} {a b : Int} (ha : cs[2]? = some (.int .i64 a)) (hb : cs[3]? = some (.int .i64 b)) (hR : RowB w A 142 cs) :
    Calls Tryz.prog 69 #[.pointer q0, .func (.func 177) #[] #[.pointer (some ⟨A, 0, none⟩)]] w fun e W' => e = .returned (.int .i64 2) ∧ Below w.heap.size w W' :=
  room_no (Kp := KpB A 142 cs) _ _ ((a, 5) :: more b 6) (by simp) (enters_of Tryz.func177 (by kernel_rfl) rfl) (fun h k => kpB_trans h k) (fun h => kpB_below h) (fun W l o o' _ ho hc _ => kpB_obj W l o o' ho hc) (fun V hV => ofT_stops 8 (by omega) A cs a b ha hb V (hR.on hV)) h.typ h.type
theorem rightR_no {w : World} {q0 : Option Addr} (h : NoB w q0) {A : Nat} {cs : Array Value} {a b : Int} (ha : cs[0]? = some (.int .i64 a)) (hb : cs[1]? = some (.int .i64 b)) (hR : RowB w A 47 cs) :
    Calls Tryz.prog 67 #[.pointer q0, .func (.func 183) #[] #[.pointer (some ⟨A, 0, none⟩)]] w fun e W' => e = .returned (.int .i64 4) ∧ Below w.heap.size w W' :=
  right_no (Kp := KpB A 47 cs) _ _ ((a, 4) :: more b 6) (by simp) (enters_of Tryz.func183 (by kernel_rfl) rfl) (fun h k => kpB_trans h k) (fun h => kpB_below h) (fun W l o o' _ ho hc _ => kpB_obj W l o o' ho hc) (fun V hV => ofR_stops 8 (by omega) A cs a b ha hb V (hR.on hV)) h.mem h.get
theorem roomR_no {w : World} {q0 : Option Addr} (h : NoB w q0) {A : Nat} {cs : Array Value} {a b : Int} (ha : cs[0]? = some (.int .i64 a)) (hb : cs[1]? = some (.int .i64 b)) (hR : RowB w A 47 cs) :
    Calls Tryz.prog 69 #[.pointer q0, .func (.func 183) #[] #[.pointer (some ⟨A, 0, none⟩)]] w fun e W' => e = .returned (.int .i64 2) ∧ Below w.heap.size w W' :=
  room_no (Kp := KpB A 47 cs) _ _ ((a, 4) :: more b 6) (by simp) (enters_of Tryz.func183 (by kernel_rfl) rfl) (fun h k => kpB_trans h k) (fun h => kpB_below h) (fun W l o o' _ ho hc _ => kpB_obj W l o o' ho hc) (fun V hV => ofR_stops 8 (by omega) A cs a b ha hb V (hR.on hV)) h.typ h.type

/-! ### the first error of a row -/
set_option maxRecDepth 100000 in
set_option maxHeartbeats 1000000 in
theorem or_first {w : World} {n R0 : Nat} {e : Int} (hn : 1 ≤ n) (he : e ≠ 0) (hv : w.cell? ⟨R0, 0, none⟩ = some (.int .i64 e)) : Calls Tryz.prog 66 #[.slice (some ⟨R0, 0, none⟩) n n] w fun x w' => x = .returned (.int .i64 e) ∧ w' = w := by
  have n1 : (0 : Int) < n := by omega
  have n2 : 0 < n := by omega
  have n3 : (e == 0) = false := by simp [he]
  go_enter Tryz.func66, Tryz.ntmps66
  go_wp2
  go_loopw [5, 8] (fun v i wr => i = .int .i64 (0 : Nat) ∧ wr = w) (fun _ _ _ => 0)
  case atStart => exact ⟨rfl, rfl⟩
  case round =>
    obtain ⟨rfl, hw⟩ := hrel
    subst hw
    go_wp2
    go_ret
    exact ⟨rfl, rfl⟩
end Go.Proofs.YtiapfapmgjngpaaGreatDoor.Pbuild
