/- What find answers in a machine that has no cores (a nil one, and one that no call made). -/
import Derived.Test.YtggggfhgfnbjnaaGreatDoorFndA
import Derived.Test.YtggggfhgfnbjnaaGreatDoorBunPlive
namespace Go.Proofs.YtggggfhgfnbjnaaGreatDoor.Pfind
open Go.Proofs.YtggggfhgfnbjnaaGreatDoor.Pbase
open Go.RowKit
set_option linter.unusedVariables false
set_option linter.unusedSimpArgs false

set_option maxRecDepth 100000 in
theorem fcores_nil (w : World) : Calls Tryz.prog 107 #[.pointer none] w fun e w' => e = .returned (.int .i64 0) ∧ w' = w := by
  go_enter Tryz.func107, Tryz.ntmps107
  go_wp2
  go_ret
  exact ⟨rfl, rfl⟩
set_option maxRecDepth 100000 in
theorem fcores_zero (z : Nat) (w : World) (c5 : w.cell? ⟨z, 5, none⟩ = some (.slice none 0 0)) : Calls Tryz.prog 107 #[.pointer (some ⟨z, 0, none⟩)] w fun e w' => e = .returned (.int .i64 0) ∧ w' = w := by
  go_enter Tryz.func107, Tryz.ntmps107
  go_wp2
  go_ret
  exact ⟨rfl, rfl⟩
/-- A machine without cores, behind any calls that make memory. -/
def NoM (w : World) (mv : Value) : Prop := ∀ wx, Below w.heap.size w wx → Calls Tryz.prog 107 #[mv] wx fun e w' => e = .returned (.int .i64 0) ∧ w' = wx
theorem NoM.on {w w' : World} {mv : Value} (h : NoM w mv) (hB : Below w.heap.size w w') : NoM w' mv := fun wx hx => h wx (hB.trans (hx.mono hB.size))
theorem noM_nil (w : World) : NoM w (.pointer none) := fun wx _ => fcores_nil wx
theorem noM_zero {w : World} {z : Nat} (c5 : w.cell? ⟨z, 5, none⟩ = some (.slice none 0 0)) : NoM w (.pointer (some ⟨z, 0, none⟩)) := fun wx hB => fcores_zero z wx ((hB.cell (p := ⟨z, 5, none⟩) (World.block_lt_of_cell? _ ⟨z, 5, none⟩ c5)).trans c5)
theorem cell_at_size {w : World} {n : Nat} {cs : Array Value} {t : TypeId} {v : Value} (hn : w.heap.size = n) (h0 : cs[0]? = some v) : ((w.alloc (.cells cs t)).cell? ⟨n, 0, none⟩).isSome = true := by
  subst hn
  rw [World.cell?_alloc_new, h0]
  rfl
set_option maxRecDepth 100000 in
set_option maxHeartbeats 1000000 in
theorem ask_no {w : World} {mv : Value} {n R0 : Nat} (hn : 1 ≤ n) (h : NoM w mv) (hv0 : (w.cell? ⟨R0, 0, none⟩).isSome = true) : Calls Tryz.prog 81 #[mv, .slice (some ⟨R0, 0, none⟩) n n] w fun e w' => e = .returned (.int .i64 13) ∧ w' = w := by
  obtain ⟨v, hv⟩ := Option.isSome_iff_exists.1 hv0
  clear hv0
  have HC := fhide (h w (Below.refl _ _))
  have n1 : (0 : Int) < n := by omega
  have n2 : 0 < n := by omega
  clear h
  go_enter Tryz.func81, Tryz.ntmps81
  go_wp2
  go_step3
  go_wp2_with (first
    | (go_at_call 107; refine HC.out.mono ?_; rintro e w1 ⟨rfl, hw⟩; subst w1; clear HC)
    | (go_at_call 85; refine (unless_any false 13 _).mono ?_; rintro e w1 ⟨rfl, hw⟩; subst w1; rw [show unI false 13 = 13 from rfl])
    | fail)
  go_step3
  go_wp2
  go_loopw [5, 14] (fun e i wr => e = .int .i64 13 ∧ i = .int .i64 (0 : Nat) ∧ wr = w) (fun _ _ _ => 0)
  case atStart => exact ⟨rfl, rfl, rfl⟩
  case round =>
    obtain ⟨rfl, rfl, hw⟩ := hrel
    subst hw
    go_wp2_with fail
    rw [Exit.noGoto_ret]
    go_ret
    exact ⟨rfl, rfl⟩
set_option maxRecDepth 100000 in
theorem fresh_no (f : Int) {w : World} {q : Option Addr} (h : NoM w (.pointer q)) : Calls Tryz.prog 30 #[.pointer q, .int .i64 f] w fun e w' => e = .returned (.int .i64 13) ∧ Below w.heap.size w w' := by
  have HA : Hid (∀ wx R0 n, 1 ≤ n → Below w.heap.size w wx → (wx.cell? ⟨R0, 0, none⟩).isSome = true → Calls Tryz.prog 81 #[.pointer q, .slice (some ⟨R0, 0, none⟩) n n] wx fun e w' => e = .returned (.int .i64 13) ∧ w' = wx) := fun wx R0 n hn hB hv => ask_no hn (h.on hB) hv
  clear h
  go_enter Tryz.func30, Tryz.ntmps30
  go_wp2_with (first
    | (go_at_call 81; refine (HA.out _ _ _ ?h1 ?hb ?hv).mono ?_; (case h1 => decide); (case hb => (repeat (first | exact Below.refl _ _ | refine bal ?_ _))); (case hv => exact cell_at_size (by simp) rfl); rintro e w1 ⟨rfl, hw⟩; subst w1)
    | fail)
  go_ret
  exact ⟨rfl, by repeat (first | exact Below.refl _ _ | refine bal ?_ _ | refine bst ?_ (by simp) _ _)⟩
set_option maxRecDepth 100000 in
theorem mem_no (r a t f : Int) {w : World} {q : Option Addr} (h : NoM w (.pointer q)) : Calls Tryz.prog 28 #[.pointer q, .int .i64 r, .int .i64 a, .int .i64 t, .int .i64 f] w fun e w' => e = .returned (.int .i64 13) ∧ Below w.heap.size w w' := by
  have HA : Hid (∀ wx R0 n, 1 ≤ n → Below w.heap.size w wx → (wx.cell? ⟨R0, 0, none⟩).isSome = true → Calls Tryz.prog 81 #[.pointer q, .slice (some ⟨R0, 0, none⟩) n n] wx fun e w' => e = .returned (.int .i64 13) ∧ w' = wx) := fun wx R0 n hn hB hv => ask_no hn (h.on hB) hv
  clear h
  go_enter Tryz.func28, Tryz.ntmps28
  go_wp2_with (first
    | (go_at_call 81; refine (HA.out _ _ _ ?h1 ?hb ?hv).mono ?_; (case h1 => decide); (case hb => (repeat (first | exact Below.refl _ _ | refine bal ?_ _))); (case hv => exact cell_at_size (by simp) rfl); rintro e w1 ⟨rfl, hw⟩; subst w1)
    | fail)
  go_ret
  exact ⟨rfl, by repeat (first | exact Below.refl _ _ | refine bal ?_ _ | refine bst ?_ (by simp) _ _)⟩
set_option maxRecDepth 100000 in
theorem cap_no (r a k t : Int) {w : World} {q : Option Addr} (h : NoM w (.pointer q)) : Calls Tryz.prog 24 #[.pointer q, .int .i64 r, .int .i64 a, .int .i64 k, .int .i64 t] w fun e w' => e = .returned (.tuple #[.agg #[.int .i64 0, .int .i64 0, .int .i64 0, .int .i64 0, .int .i64 0, .int .i64 0], .int .i64 13]) ∧ Below w.heap.size w w' := by
  have HA : Hid (∀ wx R0 n, 1 ≤ n → Below w.heap.size w wx → (wx.cell? ⟨R0, 0, none⟩).isSome = true → Calls Tryz.prog 81 #[.pointer q, .slice (some ⟨R0, 0, none⟩) n n] wx fun e w' => e = .returned (.int .i64 13) ∧ w' = wx) := fun wx R0 n hn hB hv => ask_no hn (h.on hB) hv
  clear h
  go_enter Tryz.func24, Tryz.ntmps24
  go_wp2_with (first
    | (go_at_call 81; refine (HA.out _ _ _ ?h1 ?hb ?hv).mono ?_; (case h1 => decide); (case hb => (repeat (first | exact Below.refl _ _ | refine bal ?_ _))); (case hv => exact cell_at_size (by simp) rfl); rintro e w1 ⟨rfl, hw⟩; subst w1)
    | fail)
  refine bodyPost_ret (v := .tuple #[.agg #[.int .i64 0, .int .i64 0, .int .i64 0, .int .i64 0, .int .i64 0, .int .i64 0], .int .i64 13]) (by simp [results, Tryz.results24, go_sem]) rfl ⟨rfl, ?_⟩
  repeat (first | exact Below.refl _ _ | refine bal ?_ _ | refine bst ?_ (by simp) _ _)
set_option maxRecDepth 100000 in
theorem comp_no (f : Int) {w : World} {q : Option Addr} (h : NoM w (.pointer q)) : Calls Tryz.prog 26 #[.pointer q, .int .i64 f] w fun e w' => e = .returned (.tuple #[.agg #[.int .i64 0, .int .i64 0, .int .i64 0, .int .i64 0, .int .i64 0, .int .i64 0], .int .i64 13]) ∧ Below w.heap.size w w' := by
  have HA : Hid (∀ wx R0 n, 1 ≤ n → Below w.heap.size w wx → (wx.cell? ⟨R0, 0, none⟩).isSome = true → Calls Tryz.prog 81 #[.pointer q, .slice (some ⟨R0, 0, none⟩) n n] wx fun e w' => e = .returned (.int .i64 13) ∧ w' = wx) := fun wx R0 n hn hB hv => ask_no hn (h.on hB) hv
  clear h
  go_enter Tryz.func26, Tryz.ntmps26
  go_wp2_with (first
    | (go_at_call 81; refine (HA.out _ _ _ ?h1 ?hb ?hv).mono ?_; (case h1 => decide); (case hb => (repeat (first | exact Below.refl _ _ | refine bal ?_ _))); (case hv => exact cell_at_size (by simp) rfl); rintro e w1 ⟨rfl, hw⟩; subst w1)
    | fail)
  refine bodyPost_ret (v := .tuple #[.agg #[.int .i64 0, .int .i64 0, .int .i64 0, .int .i64 0, .int .i64 0, .int .i64 0], .int .i64 13]) (by simp [results, Tryz.results26, go_sem]) rfl ⟨rfl, ?_⟩
  repeat (first | exact Below.refl _ _ | refine bal ?_ _ | refine bst ?_ (by simp) _ _)
set_option maxRecDepth 100000 in
theorem live_nil (w : World) : Calls Tryz.prog 10 #[.pointer none] w fun x w' => x = .returned (.pointer none) ∧ Below w.heap.size w w' := by
  have HS : Hid (Calls Tryz.prog 49 #[.pointer none] w fun e w' => e = .returned (.agg #[.pointer none, .pointer none, .pointer none, .pointer none, .pointer none]) ∧ Below w.heap.size w w') := by
    go_enter Tryz.func49, Tryz.ntmps49
    go_wp2
    refine bodyPost_ret (v := .agg #[.pointer none, .pointer none, .pointer none, .pointer none, .pointer none]) (by simp [results, Tryz.results49, go_sem]) rfl ⟨rfl, ?_⟩
    repeat (first | exact Below.refl _ _ | refine bal ?_ _ | refine bst ?_ (by simp) _ _)
  have q : ∀ w, (Instr.field 87 (.agg #[.pointer none, .pointer none, .pointer none, .pointer none, .pointer none]) 3).run Tryz.prog w = .ok (.pointer none) w := fun _ => by kernel_rfl
  go_enter Tryz.func10, Tryz.ntmps10
  go_wp2_with (first
    | (go_at_call 49; refine HS.out.mono ?_; rintro e w1 ⟨rfl, hm⟩)
    | fail)
  go_ret
  exact ⟨rfl, hm⟩
set_option maxRecDepth 100000 in
theorem lives_nil (id ep : Int) (w : World) : Calls Tryz.prog 89 #[.pointer none, .int .i64 id, .int .i64 ep] w fun x w' => x = .returned (.bool false) ∧ Below w.heap.size w w' := by
  go_enter Tryz.func89, Tryz.ntmps89
  go_wp2_with (first
    | (go_at_call 10; refine (live_nil _).mono ?_; rintro e1 w1 ⟨rfl, hb⟩; have H1 := fhide hb; clear hb)
    | (go_at_call 171; refine (Plive.valid_nil id ep _).mono ?_; rintro e1 w2 ⟨rfl, hw⟩; subst w2)
    | fail)
  go_ret
  exact ⟨rfl, H1.out⟩
set_option maxRecDepth 100000 in
theorem alive_nil (a b c d e f : Int) (w : World) : Calls Tryz.prog 32 #[.pointer none, .agg #[.int .i64 a, .int .i64 b, .int .i64 c, .int .i64 d, .int .i64 e, .int .i64 f]] w fun x w' => x = .returned (.bool false) ∧ Below w.heap.size w w' := by
  have HB : Hid (∀ o, Below w.heap.size w (w.alloc o)) := fun o => bal (Below.refl _ _) o
  go_enter Tryz.func32, Tryz.ntmps32
  go_wp2_with (first
    | (go_at_call 89; refine (lives_nil d e _).mono ?_; rintro e1 w1 ⟨rfl, hb⟩; have H1 := fhide ((HB.out _).trans (hb.mono (HB.out _).size)); clear hb)
    | fail)
  go_ret
  exact ⟨rfl, H1.out⟩
end Go.Proofs.YtggggfhgfnbjnaaGreatDoor.Pfind
