/- What the walks ask of the program of layer 23 (Pg), and lines that it made; awake. -/
import Derived.Test.YtefoofcfbcmjcaaHwG
import Derived.Test.YtefoofcfbcmjcaaRows
import Derived.Below
import Derived.RowKit3
import Derived.WalkKit
import Derived.ProofKit
namespace Go.Proofs.Ytefoofcfbcmjcaa.Phw
open Go.Proofs.Ytefoofcfbcmjcaa.Pbase
open Go.RowKit
set_option linter.unusedVariables false

def I64 (z : Int) : Prop := -9223372036854775808 ≤ z ∧ z ≤ 9223372036854775807
/-- LI w p b S: the lines behind the pointer to block p, whose map is block b, lead where S says. -/
structure Pg (LI : World → Nat → Nat → (Nat → Int) → Prop) : Prop where
  new : ∀ w, Calls Try.prog 7 #[] w fun e w' => ∃ p b, e = .returned (.pointer (some ⟨p, 0, none⟩)) ∧ LI w' p b (fun _ => 0) ∧ (w.heap.size ≤ p ∧ w.heap.size ≤ b) ∧ Below w.heap.size w w'
  lt : ∀ w p b S, LI w p b S → p < w.heap.size ∧ b < w.heap.size
  on : ∀ w w' p b S, LI w p b S → w'.heap[p]? = w.heap[p]? → w'.heap[b]? = w.heap[b]? → LI w' p b S
  attach : ∀ w p b S l f, LI w p b S → Gd S → I64 l → I64 f → Calls Try.prog 11 #[.pointer (some ⟨p, 0, none⟩), .int .i64 l, .int .i64 f] w fun e w' => e = .returned (.int .i64 (atE S l f)) ∧ LI w' p b (atS S l f) ∧ But b w w'
  of : ∀ w p b S l, LI w p b S → Gd S → I64 l → Calls Try.prog 13 #[.pointer (some ⟨p, 0, none⟩), .int .i64 l] w fun e w' => e = .returned (.tuple #[.int .i64 (ofX S l), .int .i64 (ofE S l)]) ∧ Below w.heap.size w w'
  detach : ∀ w p b S l, LI w p b S → Gd S → I64 l → Calls Try.prog 9 #[.pointer (some ⟨p, 0, none⟩), .int .i64 l] w fun e w' => e = .returned (.tuple #[.int .i64 (ofX S l), .int .i64 (ofE S l)]) ∧ LI w' p b (deS S l) ∧ But b w w'
  has : ∀ w p b S f, LI w p b S → Gd S → I64 f → Calls Try.prog 15 #[.pointer (some ⟨p, 0, none⟩), .int .i64 f] w fun e w' => e = .returned (.int .i64 (hsN S f)) ∧ Below w.heap.size w w'
/-- Lines that were made since the world w. -/
structure Hp (LI : World → Nat → Nat → (Nat → Int) → Prop) (w W : World) (p b : Nat) (S : Nat → Int) : Prop where
  li : LI W p b S
  gd : Gd S
  ge : w.heap.size ≤ p ∧ w.heap.size ≤ b
  below : Below w.heap.size w W
section
variable {LI : World → Nat → Nat → (Nat → Int) → Prop} {w W W' : World} {p b : Nat} {S S' : Nat → Int}
theorem Hp.on (h : Hp LI w W p b S) (HP : Pg LI) (hB : Below W.heap.size W W') : Hp LI w W' p b S := by
  obtain ⟨h1, h2⟩ := HP.lt _ _ _ _ h.li
  exact ⟨HP.on _ _ _ _ _ h.li (hB.block p h1) (hB.block b h2), h.gd, h.ge, h.below.trans (hB.mono h.below.size)⟩
theorem Hp.turn (h : Hp LI w W p b S) (hl : LI W' p b S') (hg : Gd S') (hB : But b W W') : Hp LI w W' p b S' := ⟨hl, hg, h.ge, h.below.trans (hB.below h.ge.2 h.below.size)⟩
theorem hp_new (HP : Pg LI) (w : World) : Calls Try.prog 7 #[] w fun e w' => ∃ p b, e = .returned (.pointer (some ⟨p, 0, none⟩)) ∧ Hp LI w w' p b (fun _ => 0) := (HP.new w).mono fun e w' ⟨p, b, h1, h2, h3, h4⟩ => ⟨p, b, h1, h2, gd_zero, h3, h4⟩
theorem hp_attach (HP : Pg LI) (h : Hp LI w W p b S) {l f : Int} (hl : I64 l) (hf : I64 f) : Calls Try.prog 11 #[.pointer (some ⟨p, 0, none⟩), .int .i64 l, .int .i64 f] W fun e w' => e = .returned (.int .i64 (atE S l f)) ∧ Hp LI w w' p b (atS S l f) ∧ But b W w' := (HP.attach W p b S l f h.li h.gd hl hf).mono fun e w' ⟨h1, h2, h3⟩ => ⟨h1, h.turn h2 (h.gd.at l f) h3, h3⟩
theorem hp_detach (HP : Pg LI) (h : Hp LI w W p b S) {l : Int} (hl : I64 l) : Calls Try.prog 9 #[.pointer (some ⟨p, 0, none⟩), .int .i64 l] W fun e w' => e = .returned (.tuple #[.int .i64 (ofX S l), .int .i64 (ofE S l)]) ∧ Hp LI w w' p b (deS S l) ∧ But b W w' := (HP.detach W p b S l h.li h.gd hl).mono fun e w' ⟨h1, h2, h3⟩ => ⟨h1, h.turn h2 (h.gd.de l) h3, h3⟩
theorem hp_of (HP : Pg LI) (h : Hp LI w W p b S) {l : Int} (hl : I64 l) : Calls Try.prog 13 #[.pointer (some ⟨p, 0, none⟩), .int .i64 l] W fun e w' => e = .returned (.tuple #[.int .i64 (ofX S l), .int .i64 (ofE S l)]) ∧ Hp LI w w' p b S ∧ Below W.heap.size W w' := (HP.of W p b S l h.li h.gd hl).mono fun e w' ⟨h1, h2⟩ => ⟨h1, h.on HP h2, h2⟩
theorem hp_has (HP : Pg LI) (h : Hp LI w W p b S) {f : Int} (hf : I64 f) : Calls Try.prog 15 #[.pointer (some ⟨p, 0, none⟩), .int .i64 f] W fun e w' => e = .returned (.int .i64 (hsN S f)) ∧ Hp LI w w' p b S ∧ Below W.heap.size W w' := (HP.has W p b S f h.li h.gd hf).mono fun e w' ⟨h1, h2⟩ => ⟨h1, h.on HP h2, h2⟩
end
set_option maxRecDepth 100000 in
theorem awake_any {LI : World → Nat → Nat → (Nat → Int) → Prop} (HP : Hid (Pg LI)) (w : World) : Calls Try.prog 17 #[] w fun e w' => e = .returned (.bool true) ∧ Below w.heap.size w w' := by
  have HA : Hid (∀ wc p b, Hp LI w wc p b (fun _ => 0) → Calls Try.prog 11 #[.pointer (some ⟨p, 0, none⟩), .int .i64 0, .int .i64 5] wc fun e w' => e = .returned (.int .i64 0) ∧ Hp LI w w' p b (upL (fun _ => 0) 0 6)) := fun wc p b h => (hp_attach HP.out h (by unfold I64; omega) (by unfold I64; omega)).mono fun e w' ⟨h1, h2, _⟩ => ⟨h1, h2⟩
  have HO : Hid (∀ wc p b, Hp LI w wc p b (upL (fun _ => 0) 0 6) → Calls Try.prog 13 #[.pointer (some ⟨p, 0, none⟩), .int .i64 0] wc fun e w' => e = .returned (.tuple #[.int .i64 5, .int .i64 0]) ∧ Hp LI w w' p b (upL (fun _ => 0) 0 6)) := fun wc p b h => (hp_of HP.out h (by unfold I64; omega)).mono fun e w' ⟨h1, h2, _⟩ => ⟨h1, h2⟩
  go_enter Try.func17, Try.ntmps17
  go_wp2_with (first
    | (go_at_call 7; refine (hp_new HP.out _).mono ?_; rintro e1 w1 ⟨p, b, rfl, h⟩; have H1 := rhide h; clear h)
    | (go_at_call 11; refine (HA.out _ _ _ H1.out).mono ?_; rintro e2 w2 ⟨rfl, h⟩; have H2 := rhide h; clear h HA H1)
    | (go_at_call 13; refine (HO.out _ _ _ H2.out).mono ?_; rintro e3 w3 ⟨rfl, h⟩; have H3 := rhide h; clear h HO H2)
    | fail)
  go_ret
  exact ⟨rfl, H3.out.below⟩
end Go.Proofs.Ytefoofcfbcmjcaa.Phw
