/- What Find, Load and Store of package access answer without a memory, or what a core remembers, that a call made. -/
import Derived.Test.YthcgdgpflhdchaaDoorAccC
namespace Go.Proofs.YthcgdgpflhdchaaDoor.Paccess
open Go.Proofs.YthcgdgpflhdchaaDoor.Pbase Go.Proofs.YthcgdgpflhdchaaDoor.Pmem
open Go.RowKit
set_option linter.unusedVariables false

/-! ### Find -/
set_option maxRecDepth 100000 in
theorem find_nil (qt : Option Addr) (sp a r : Int) (w : World) : Calls Tryd.prog 16 #[.pointer none, .pointer qt, .int .i64 sp, .int .i64 a, .int .i64 r] w fun x w' => x = .returned (.tuple #[.int .i64 0, .int .i64 0, .int .i64 13]) ∧ Below w.heap.size w w' := by
  have HL : Hid (Calls Tryd.prog 29 #[.pointer none] w fun e w' => e = .returned (.int .i64 0) ∧ w' = w) := len_nil w
  go_enter Tryd.func16, Tryd.ntmps16
  go_wp2_with (first
    | (go_at_call 29; refine HL.out.mono ?_; rintro e1 w1 ⟨rfl, hw⟩; subst w1)
    | fail)
  go_ret3
  exact ⟨rfl, Below.refl _ _⟩
set_option maxRecDepth 100000 in
theorem find_none (p b N : Nat) (sp a r : Int) (w : World) (hN1 : 1 ≤ N) (hN : N ≤ 64) (hp : w.cell? ⟨p, 0, none⟩ = some (.slice (some ⟨b, 0, none⟩) N N)) : Calls Tryd.prog 16 #[.pointer (some ⟨p, 0, none⟩), .pointer none, .int .i64 sp, .int .i64 a, .int .i64 r] w fun x w' => x = .returned (.tuple #[.int .i64 0, .int .i64 0, .int .i64 13]) ∧ Below w.heap.size w w' := by
  have HL : Hid (Calls Tryd.prog 29 #[.pointer (some ⟨p, 0, none⟩)] w fun e w' => e = .returned (.int .i64 N) ∧ w' = w) := len_some p b N w hN hp
  have nN : ((N : Int) == 0) = false := by simp; omega
  clear hp
  go_enter Tryd.func16, Tryd.ntmps16
  go_wp2_with (first
    | (go_at_call 29; refine HL.out.mono ?_; rintro e1 w1 ⟨rfl, hw⟩; subst w1)
    | (go_at_call 30; refine (Ptlb.made_nil _).mono ?_; rintro e2 w2 ⟨rfl, hw⟩; subst w2)
    | fail)
  go_ret3
  exact ⟨rfl, Below.refl _ _⟩
set_option maxRecDepth 100000 in
theorem find_zero (p b N q : Nat) (sp a r : Int) (w : World) (hN1 : 1 ≤ N) (hN : N ≤ 64) (hp : w.cell? ⟨p, 0, none⟩ = some (.slice (some ⟨b, 0, none⟩) N N)) (hq : w.cell? ⟨q, 1, none⟩ = some (.map none)) : Calls Tryd.prog 16 #[.pointer (some ⟨p, 0, none⟩), .pointer (some ⟨q, 0, none⟩), .int .i64 sp, .int .i64 a, .int .i64 r] w fun x w' => x = .returned (.tuple #[.int .i64 0, .int .i64 0, .int .i64 13]) ∧ Below w.heap.size w w' := by
  have HL : Hid (Calls Tryd.prog 29 #[.pointer (some ⟨p, 0, none⟩)] w fun e w' => e = .returned (.int .i64 N) ∧ w' = w) := len_some p b N w hN hp
  have HD : Hid (Calls Tryd.prog 30 #[.pointer (some ⟨q, 0, none⟩)] w fun e w' => e = .returned (.bool false) ∧ w' = w) := Ptlb.made_zero q w hq
  have nN : ((N : Int) == 0) = false := by simp; omega
  clear hp hq
  go_enter Tryd.func16, Tryd.ntmps16
  go_wp2_with (first
    | (go_at_call 29; refine HL.out.mono ?_; rintro e1 w1 ⟨rfl, hw⟩; subst w1)
    | (go_at_call 30; refine HD.out.mono ?_; rintro e2 w2 ⟨rfl, hw⟩; subst w2)
    | fail)
  go_ret3
  exact ⟨rfl, Below.refl _ _⟩
/-! ### the closure, Load, Store -/
theorem cz_five0 {w w' : World} {B : Nat} {qm qt : Option Addr} {sp a : Int} (h : Cz w B qm qt sp a) (hN : Nd w) (hB : Below w.heap.size w w') :
    w'.cell? ⟨B, 0, none⟩ = some (.pointer qm) ∧ w'.cell? ⟨B + 1, 0, none⟩ = some (.pointer qt) ∧ w'.cell? ⟨B + 2, 0, none⟩ = some (.int .i64 sp) ∧ w'.cell? ⟨B + 3, 0, none⟩ = some (.int .i64 a) ∧ w'.cell? ⟨0, 0, none⟩ = some (.int .i64 1) ∧ w'.cell? ⟨0, 1, none⟩ = some (.int .i64 2) :=
  ⟨(h.on hB).m, (h.on hB).t, (h.on hB).s, (h.on hB).a, (hN.on hB).c0.1, (hN.on hB).c0.2⟩
set_option maxRecDepth 100000 in
set_option maxHeartbeats 2000000 in
theorem do_zero (k : Nat) (hk : k = 0 ∨ k = 1) (v : Int) (qm qt : Option Addr) (sp a : Int) (B : Nat) (w : World) (hc : Cz w B qm qt sp a) (hn : Nd w)
    (hF : ∀ r wc, Below w.heap.size w wc → Calls Tryd.prog 16 #[.pointer qm, .pointer qt, .int .i64 sp, .int .i64 a, .int .i64 r] wc fun x w' => x = .returned (.tuple #[.int .i64 0, .int .i64 0, .int .i64 13]) ∧ Below wc.heap.size wc w') :
    Calls Tryd.prog 44 #[.int .i64 k, .int .u64 v, .pointer (some ⟨B, 0, none⟩), .pointer (some ⟨B + 1, 0, none⟩), .pointer (some ⟨B + 2, 0, none⟩), .pointer (some ⟨B + 3, 0, none⟩)] w fun x w' => x = .returned (.tuple #[.int .u64 0, .int .i64 13]) ∧ Below w.heap.size w w' := by
  have HF := ahide hF
  have HC := ahide hc
  have HN := ahide hn
  obtain ⟨c0, c1, c2, c3, c4, c5⟩ := cz_five0 hc hn (Below.refl _ _)
  clear hc hn hF
  rcases hk with rfl | rfl
  all_goals
    go_enter Tryd.func44, Tryd.ntmps44
    go_upto_region 1 with fail
    go_region_held3 (fun w' => w'.cell? ⟨B, 0, none⟩ = some (.pointer qm) ∧ w'.cell? ⟨B + 1, 0, none⟩ = some (.pointer qt) ∧ w'.cell? ⟨B + 2, 0, none⟩ = some (.int .i64 sp) ∧ w'.cell? ⟨B + 3, 0, none⟩ = some (.int .i64 a) ∧ w'.cell? ⟨0, 0, none⟩ = some (.int .i64 1) ∧ w'.cell? ⟨0, 1, none⟩ = some (.int .i64 2)) (first | with_reducible exact cz_five0 HC.out HN.out HB1.out | with_reducible exact cz_five0 HC.out HN.out (Below.refl _ _).drew)
    (first
      | (go_at_call 16; refine (HF.out _ _ (by first | exact (Below.refl _ _).drew | exact Below.refl _ _)).mono ?_; rintro e1 w1 ⟨rfl, hb⟩; have HB1 : Hid (Below w.heap.size w w1) := (by first | exact hb | exact ((Below.refl _ _).drew).trans hb); clear hb)
      | fail)
    go_wp2
    go_ret2
    exact ⟨rfl, HB1.out⟩
set_option maxRecDepth 100000 in
theorem load_zero' (qm qt : Option Addr) (sp a : Int) (w : World) (hn : Nd w)
    (hF : ∀ r wc, Below w.heap.size w wc → Calls Tryd.prog 16 #[.pointer qm, .pointer qt, .int .i64 sp, .int .i64 a, .int .i64 r] wc fun x w' => x = .returned (.tuple #[.int .i64 0, .int .i64 0, .int .i64 13]) ∧ Below wc.heap.size wc w') :
    Calls Tryd.prog 13 #[.pointer qm, .pointer qt, .int .i64 sp, .int .i64 a] w fun x w' => x = .returned (.tuple #[.int .u64 0, .int .i64 13]) ∧ Below w.heap.size w w' := by
  have HX := ahide (cz_new w qm qt sp a)
  have HW := ahide (czW_below w qm qt sp a)
  have HF := ahide hF
  have HN := ahide hn
  clear hF hn
  go_enter Tryd.func13, Tryd.ntmps13
  go_wp2_with (first
    | (go_at_call 24; refine (accessTo_any qm qt sp a _).mono ?_; rintro e1 w1 ⟨rfl, hw⟩; rw [← hw] at HX HW; clear hw)
    | (go_at_call 44; refine (do_zero 0 (.inl rfl) 0 qm qt sp a _ _ HX.out (HN.out.on HW.out) (fun r wc hb => HF.out r wc (HW.out.trans (hb.mono HW.out.size)))).mono ?_; rintro e2 w2 ⟨rfl, hb⟩; have HB2 := ahide (HW.out.trans (hb.mono HW.out.size)); clear hb)
    | fail)
  go_ret2
  exact ⟨rfl, HB2.out⟩
set_option maxRecDepth 100000 in
theorem store_zero' (qm qt : Option Addr) (sp a v : Int) (w : World) (hn : Nd w)
    (hF : ∀ r wc, Below w.heap.size w wc → Calls Tryd.prog 16 #[.pointer qm, .pointer qt, .int .i64 sp, .int .i64 a, .int .i64 r] wc fun x w' => x = .returned (.tuple #[.int .i64 0, .int .i64 0, .int .i64 13]) ∧ Below wc.heap.size wc w') :
    Calls Tryd.prog 12 #[.pointer qm, .pointer qt, .int .i64 sp, .int .i64 a, .int .u64 v] w fun x w' => x = .returned (.int .i64 13) ∧ Below w.heap.size w w' := by
  have HX := ahide (cz_new w qm qt sp a)
  have HW := ahide (czW_below w qm qt sp a)
  have HF := ahide hF
  have HN := ahide hn
  clear hF hn
  go_enter Tryd.func12, Tryd.ntmps12
  go_wp2_with (first
    | (go_at_call 24; refine (accessTo_any qm qt sp a _).mono ?_; rintro e1 w1 ⟨rfl, hw⟩; rw [← hw] at HX HW; clear hw)
    | (go_at_call 44; refine (do_zero 1 (.inr rfl) v qm qt sp a _ _ HX.out (HN.out.on HW.out) (fun r wc hb => HF.out r wc (HW.out.trans (hb.mono HW.out.size)))).mono ?_; rintro e2 w2 ⟨rfl, hb⟩; have HB2 := ahide (HW.out.trans (hb.mono HW.out.size)); clear hb)
    | fail)
  go_ret
  exact ⟨rfl, HB2.out⟩
end Go.Proofs.YthcgdgpflhdchaaDoor.Paccess
