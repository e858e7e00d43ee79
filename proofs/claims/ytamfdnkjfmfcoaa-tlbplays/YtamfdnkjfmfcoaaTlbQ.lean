/- What calls of package tlb answer of one that is nil and of one that no call made; that the program computes at all. -/
import Derived.Test.YtamfdnkjfmfcoaaTlbP
namespace Go.Proofs.Ytamfdnkjfmfcoaa
open Go.RowKit Go.ChangeMaps
set_option linter.unusedVariables false

theorem cell_more2 {w : World} {b j : Nat} {v : Value} (hc : w.cell? ⟨b, j, none⟩ = some v) (o o' : Obj) : ((w.alloc o).alloc o').cell? ⟨b, j, none⟩ = some v := keeps (bal (bal (Below.refl _ _) _) _) hc
theorem cell_more1 {w : World} {b j : Nat} {v : Value} (hc : w.cell? ⟨b, j, none⟩ = some v) (o : Obj) : (w.alloc o).cell? ⟨b, j, none⟩ = some v := keeps (bal (Below.refl _ _) _) hc
theorem put_nil (k : Ky) (pt : Pt) (w : World) :
    Calls Try.prog 12 #[.pointer none, .agg #[.int .i64 k.1, .int .i64 k.2], .agg #[.bool pt.1, .int .i64 pt.2.1, .int .i64 pt.2.2.1, .int .i64 pt.2.2.2]] w fun e w' => e = .returned (.int .i64 13) ∧ Below w.heap.size w w' := by
  go_enter Try.func12, Try.ntmps12
  go_wp2_with (go_at_call 16; refine (made_nil _).mono ?_; rintro e w1 ⟨rfl, rfl⟩)
  go_ret
  exact ⟨rfl, bal (bal (Below.refl _ _) _) _⟩
theorem put_zero (p : Nat) (k : Ky) (pt : Pt) (w : World) (hp : w.cell? ⟨p, 1, none⟩ = some (.map none)) :
    Calls Try.prog 12 #[.pointer (some ⟨p, 0, none⟩), .agg #[.int .i64 k.1, .int .i64 k.2], .agg #[.bool pt.1, .int .i64 pt.2.1, .int .i64 pt.2.2.1, .int .i64 pt.2.2.2]] w fun e w' => e = .returned (.int .i64 13) ∧ Below w.heap.size w w' := by
  go_enter Try.func12, Try.ntmps12
  go_wp2_with (go_at_call 16; refine (made_zero p _ (cell_more2 hp _ _)).mono ?_; rintro e w1 ⟨rfl, rfl⟩)
  go_ret
  exact ⟨rfl, bal (bal (Below.refl _ _) _) _⟩
theorem keys_zero (p : Nat) (w : World) (hp : w.cell? ⟨p, 1, none⟩ = some (.map none)) :
    Calls Try.prog 14 #[.pointer (some ⟨p, 0, none⟩)] w fun e w' => e = .returned (.slice none 0 0) ∧ Below w.heap.size w w' := by
  go_enter Try.func14, Try.ntmps14
  go_wp2_with (go_at_call 16; refine (made_zero p _ (cell_more1 hp _)).mono ?_; rintro e w1 ⟨rfl, rfl⟩)
  go_ret
  exact ⟨rfl, bal (Below.refl _ _) _⟩
theorem okS_nil : OkS [] := ⟨List.Pairwise.nil, List.Pairwise.nil⟩
theorem awake_any (w : World) : Calls Try.prog 9 #[] w fun e w' => e = .returned (.bool true) ∧ Below w.heap.size w w' := by
  go_enter Try.func9, Try.ntmps9
  go_wp2_with (first
    | (go_at_call 7; refine (new_ok 1 _ (by omega) (by omega)).mono ?_; rintro e w1 ⟨rfl, ht1, hb1⟩; have HT1 : Hid (TlbIs w1 (w.heap.size + 1) w.heap.size ((1 : Nat) : Int) []) := ht1; have HB1 : Hid (Below w.heap.size w w1) := hb1; clear ht1 hb1)
    | (go_at_call 12; refine (put_some' (w.heap.size + 1) w.heap.size 1 [] (0, 0) pt0 _ HT1.out okS_nil (by decide) (by simp) (by omega)).mono ?_; rintro e w2 ⟨rfl, ht2, hb2⟩; have HT2 : Hid (TlbIs w2 (w.heap.size + 1) w.heap.size ((1 : Nat) : Int) (putS 1 [] (0, 0) pt0)) := ht2; have HB2 : Hid (Below w.heap.size w w2) := HB1.out.trans (hb2.below (Nat.le_refl _) HB1.out.size); clear ht2 hb2)
    | (go_at_call 15; refine (len_some _ _ _ _ _ HT2.out).mono ?_; rintro e w3 ⟨he, hw3⟩; subst w3; have he' : e = .returned (.int .i64 1) := he; clear he; subst he'))
  go_ret
  exact ⟨rfl, HB2.out⟩
end Go.Proofs.Ytamfdnkjfmfcoaa
