/- What find answers in a machine that has no cores (a nil one, and one that no call made). -/
import Derived.Test.YtiapfapmgjngpaaGreatDoorFndA
import Derived.Test.YtiapfapmgjngpaaGreatDoorBunPlive
namespace Go.Proofs.YtiapfapmgjngpaaGreatDoor.Pfind
open Go.Proofs.YtiapfapmgjngpaaGreatDoor.Pbase
open Go.RowKit
set_option linter.unusedVariables false
set_option linter.unusedSimpArgs false

set_option maxRecDepth 100000 in
theorem fcores_nil (w : World) : Calls Tryz.prog 47 #[.pointer none] w fun e w' => e = .returned (.int .i64 0) ∧ w' = w := by
  go_enter Tryz.func47, Tryz.ntmps47
  go_wp2
  go_ret
  exact ⟨rfl, rfl⟩
set_option maxRecDepth 100000 in
theorem fcores_zero (z : Nat) (w : World) (c5 : w.cell? ⟨z, 5, none⟩ = some (.slice none 0 0)) : Calls Tryz.prog 47 #[.pointer (some ⟨z, 0, none⟩)] w fun e w' => e = .returned (.int .i64 0) ∧ w' = w := by
  go_enter Tryz.func47, Tryz.ntmps47
  go_wp2
  go_ret
  exact ⟨rfl, rfl⟩
/-- A machine without cores, behind any calls that make memory. -/
def NoM (w : World) (mv : Value) : Prop := ∀ wx, Below w.heap.size w wx → Calls Tryz.prog 47 #[mv] wx fun e w' => e = .returned (.int .i64 0) ∧ w' = wx
theorem NoM.on {w w' : World} {mv : Value} (h : NoM w mv) (hB : Below w.heap.size w w') : NoM w' mv := fun wx hx => h wx (hB.trans (hx.mono hB.size))
theorem noM_nil (w : World) : NoM w (.pointer none) := fun wx _ => fcores_nil wx
theorem noM_zero {w : World} {z : Nat} (c5 : w.cell? ⟨z, 5, none⟩ = some (.slice none 0 0)) : NoM w (.pointer (some ⟨z, 0, none⟩)) := fun wx hB => fcores_zero z wx ((hB.cell (p := ⟨z, 5, none⟩) (World.block_lt_of_cell? _ ⟨z, 5, none⟩ c5)).trans c5)
theorem cell_at_size {w : World} {n : Nat} {cs : Array Value} {t : TypeId} {v : Value} (hn : w.heap.size = n) (h0 : cs[0]? = some v) : ((w.alloc (.cells cs t)).cell? ⟨n, 0, none⟩).isSome = true := by
  subst hn
  rw [World.cell?_alloc_new, h0]
  rfl
set_option maxRecDepth 100000 in
set_option maxHeartbeats 1000000 in
theorem ask_no {w : World} {mv : Value} {n R0 : Nat} (hn : 1 ≤ n) (h : NoM w mv) (hv0 : (w.cell? ⟨R0, 0, none⟩).isSome = true) : Calls Tryz.prog 158 #[mv, .slice (some ⟨R0, 0, none⟩) n n] w fun e w' => e = .returned (.int .i64 13) ∧ w' = w := by
  obtain ⟨v, hv⟩ := Option.isSome_iff_exists.1 hv0
  clear hv0
  have HC := fhide (h w (Below.refl _ _))
  have n1 : (0 : Int) < n := by omega
  have n2 : 0 < n := by omega
  clear h
  go_enter Tryz.func158, Tryz.ntmps158
  go_wp2
  go_step3
  go_wp2_with (first
    | (go_at_call 47; refine HC.out.mono ?_; rintro e w1 ⟨rfl, hw⟩; subst w1; clear HC)
    | (go_at_call 160; refine (unless_any false 13 _).mono ?_; rintro e w1 ⟨rfl, hw⟩; subst w1; rw [show unI false 13 = 13 from rfl])
    | fail)
  go_step3
  go_wp2
  go_loopw [5, 14] (fun e i wr => e = .int .i64 13 ∧ i = .int .i64 (0 : Nat) ∧ wr = w) (fun _ _ _ => 0)
  case atStart => exact ⟨rfl, rfl, rfl⟩
  case round =>
    obtain ⟨rfl, rfl, hw⟩ := hrel
    subst hw
    go_wp2_with fail
    rw [Exit.noGoto_ret]
    go_ret
    exact ⟨rfl, rfl⟩
set_option maxRecDepth 100000 in
theorem fresh_no (f : Int) {w : World} {q : Option Addr} (h : NoM w (.pointer q)) : Calls Tryz.prog 63 #[.pointer q, .int .i64 f] w fun e w' => e = .returned (.int .i64 13) ∧ Below w.heap.size w w' := by
  have HA : Hid (∀ wx R0 n, 1 ≤ n → Below w.heap.size w wx → (wx.cell? ⟨R0, 0, none⟩).isSome = true → Calls Tryz.prog 158 #[.pointer q, .slice (some ⟨R0, 0, none⟩) n n] wx fun e w' => e = .returned (.int .i64 13) ∧ w' = wx) := fun wx R0 n hn hB hv => ask_no hn (h.on hB) hv
  clear h
  go_enter Tryz.func63, Tryz.ntmps63
  go_wp2_with (first
    | (go_at_call 158; refine (HA.out _ _ _ ?h1 ?hb ?hv).mono ?_; (case h1 => decide); (case hb => (repeat (first | exact Below.refl _ _ | refine bal ?_ _))); (case hv => exact cell_at_size (by simp) rfl); rintro e w1 ⟨rfl, hw⟩; subst w1)
    | fail)
  go_ret
  exact ⟨rfl, by repeat (first | exact Below.refl _ _ | refine bal ?_ _ | refine bst ?_ (by simp) _ _)⟩
set_option maxRecDepth 100000 in
theorem comp_no (f : Int) {w : World} {q : Option Addr} (h : NoM w (.pointer q)) : Calls Tryz.prog 74 #[.pointer q, .int .i64 f] w fun e w' => e = .returned (.tuple #[.agg #[.int .i64 0, .int .i64 0, .int .i64 0, .int .i64 0, .int .i64 0, .int .i64 0], .int .i64 13]) ∧ Below w.heap.size w w' := by
  have HA : Hid (∀ wx R0 n, 1 ≤ n → Below w.heap.size w wx → (wx.cell? ⟨R0, 0, none⟩).isSome = true → Calls Tryz.prog 158 #[.pointer q, .slice (some ⟨R0, 0, none⟩) n n] wx fun e w' => e = .returned (.int .i64 13) ∧ w' = wx) := fun wx R0 n hn hB hv => ask_no hn (h.on hB) hv
  clear h
  go_enter Tryz.func74, Tryz.ntmps74
  go_wp2_with (first
    | (go_at_call 158; refine (HA.out _ _ _ ?h1 ?hb ?hv).mono ?_; (case h1 => decide); (case hb => (repeat (first | exact Below.refl _ _ | refine bal ?_ _))); (case hv => exact cell_at_size (by simp) rfl); rintro e w1 ⟨rfl, hw⟩; subst w1)
    | fail)
  refine bodyPost_ret (v := .tuple #[.agg #[.int .i64 0, .int .i64 0, .int .i64 0, .int .i64 0, .int .i64 0, .int .i64 0], .int .i64 13]) (by simp [results, Tryz.results74, go_sem]) rfl ⟨rfl, ?_⟩
  repeat (first | exact Below.refl _ _ | refine bal ?_ _ | refine bst ?_ (by simp) _ _)
set_option maxRecDepth 100000 in
theorem live_nil (w : World) : Calls Tryz.prog 48 #[.pointer none] w fun x w' => x = .returned (.pointer none) ∧ Below w.heap.size w w' := by
  have HS : Hid (Calls Tryz.prog 88 #[.pointer none] w fun e w' => e = .returned (.agg #[.pointer none, .pointer none, .pointer none, .pointer none, .pointer none]) ∧ Below w.heap.size w w') := by
    go_enter Tryz.func88, Tryz.ntmps88
    go_wp2
    refine bodyPost_ret (v := .agg #[.pointer none, .pointer none, .pointer none, .pointer none, .pointer none]) (by simp [results, Tryz.results88, go_sem]) rfl ⟨rfl, ?_⟩
    repeat (first | exact Below.refl _ _ | refine bal ?_ _ | refine bst ?_ (by simp) _ _)
  have q : ∀ w, (Instr.field 56 (.agg #[.pointer none, .pointer none, .pointer none, .pointer none, .pointer none]) 3).run Tryz.prog w = .ok (.pointer none) w := fun _ => by kernel_rfl
  go_enter Tryz.func48, Tryz.ntmps48
  go_wp2_with (first
    | (go_at_call 88; refine HS.out.mono ?_; rintro e w1 ⟨rfl, hm⟩)
    | fail)
  go_ret
  exact ⟨rfl, hm⟩
set_option maxRecDepth 100000 in
theorem lives_nil (id ep : Int) (w : World) : Calls Tryz.prog 176 #[.pointer none, .int .i64 id, .int .i64 ep] w fun x w' => x = .returned (.bool false) ∧ Below w.heap.size w w' := by
  go_enter Tryz.func176, Tryz.ntmps176
  go_wp2_with (first
    | (go_at_call 48; refine (live_nil _).mono ?_; rintro e1 w1 ⟨rfl, hb⟩; have H1 := fhide hb; clear hb)
    | (go_at_call 250; refine (Plive.valid_nil id ep _).mono ?_; rintro e1 w2 ⟨rfl, hw⟩; subst w2)
    | fail)
  go_ret
  exact ⟨rfl, H1.out⟩
end Go.Proofs.YtiapfapmgjngpaaGreatDoor.Pfind
