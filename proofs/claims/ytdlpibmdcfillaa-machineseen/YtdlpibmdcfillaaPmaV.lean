/- What calls of the parts do in a machine: Step, Enter, Store, Load, Untype; a machine that New made; awake of stage 25. -/
import Derived.Test.YtdlpibmdcfillaaBunPmach
import Derived.Test.YtdlpibmdcfillaaBunPtyp
namespace Go.Proofs.Ytdlpibmdcfillaa.Ppmach
open Go.Proofs.Ytdlpibmdcfillaa.Pbase Go.Proofs.Ytdlpibmdcfillaa.Pchold Go.Proofs.Ytdlpibmdcfillaa.Pmst Go.Proofs.Ytdlpibmdcfillaa.Ptint
open Go.RowKit
set_option linter.unusedVariables false

section
variable {w : World} {p : Nat} {o : Nat → Nat} {P : Pq} {s : St}
theorem pstep_any (c : Int) {wc : World} (hs : Ws s) (h : Px w wc p o P s) : Calls Try.prog 7 #[.pointer (some ⟨P.pc, 0, none⟩), .int .i64 c] wc fun x w' => x = .returned (.int .i64 (Pclock.errS s.n s.C c)) ∧ Px w w' p o P { s with C := Pclock.stepS s.n s.C c } := by
  refine (Pclock.step_any _ _ c s.C wc hs.c1 hs.c4 h.v.clock).mono ?_
  rintro x w' ⟨h1, rfl⟩
  have k := tint_row (w := wc) h.v.ok (Pclock.cellsC s.n (Pclock.stepS s.n s.C c))
  exact ⟨h1, (h.v.left k).turnC (h.v.clock.set _ (Pclock.ok_step h.v.clock.ok _ _)), h.k.trans (pwide 23 (by omega) (by omega) k)⟩
theorem penter_any (c : Int) {wc : World} (hs : Ws s) (h : Px w wc p o P s) : Calls Try.prog 14 #[.pointer (some ⟨P.pc, 0, none⟩), .int .i64 c] wc fun x w' => x = .returned (.int .i64 (Pclock.errF s.n c)) ∧ Px w w' p o P { s with C := Pclock.enterS s.n s.C c } := by
  refine (Pclock.enter_any _ _ c s.C wc hs.c1 hs.c4 h.v.clock).mono ?_
  rintro x w' ⟨h1, rfl⟩
  have k := tint_row (w := wc) h.v.ok (Pclock.cellsC s.n (Pclock.enterS s.n s.C c))
  exact ⟨h1, (h.v.left k).turnC (h.v.clock.set _ (Pclock.ok_enter h.v.clock.ok _ _)), h.k.trans (pwide 23 (by omega) (by omega) k)⟩
theorem pstore_any (f a v : Int) {wc : World} (hs : Ws s) (h : Px w wc p o P s) : Calls Try.prog 10 #[.pointer (some ⟨P.pm, 0, none⟩), .int .i64 f, .int .i64 a, .int .u64 v] wc fun x w' => x = .returned (.int .i64 (Pmem.errW s.N f a)) ∧ Px w w' p o P { s with M := Pmem.stW s.N s.M f a v } := by
  refine (Pmem.store_any _ _ _ f a v s.M wc hs.n1 hs.n64 h.v.mem).mono ?_
  rintro x w' ⟨h1, rfl⟩
  have k := tint_row (w := wc) h.v.om.2 (Pmem.cellsM s.N (Pmem.stW s.N s.M f a v))
  exact ⟨h1, (h.v.left k).turnM (h.v.mem.set _), h.k.trans (pwide 22 (by omega) (by omega) k)⟩
theorem pload_any (f a : Int) {wc : World} (hs : Ws s) (h : Px w wc p o P s) : Calls Try.prog 16 #[.pointer (some ⟨P.pm, 0, none⟩), .int .i64 f, .int .i64 a] wc fun x w' => x = .returned (.tuple #[.int .u64 (Pmem.ldM s.N s.M f a), .int .i64 (Pmem.errW s.N f a)]) ∧ w' = wc := Pmem.load_any _ _ _ f a s.M wc hs.n1 hs.n64 h.v.mem
theorem puntype_any (f now : Int) (pg : Bool) {wc : World} (hs : Ws s) (h : Px w wc p o P s) : Calls Try.prog 12 #[.pointer (some ⟨P.pt, 0, none⟩), .int .i64 f, .int .i64 now, .bool pg] wc fun x w' => x = .returned (.int .i64 (Ptyp.errA s.N s.T f Ptyp.hUt)) ∧ Px w w' p o P { s with T := Ptyp.mapA s.N s.T f (Ptyp.gUt now pg) } := by
  refine (Ptyp.untype_any _ _ _ f now pg s.T wc hs.n1 hs.n64 h.v.typ).mono ?_
  rintro x w' ⟨h1, rfl⟩
  have k := tint_row (w := wc) h.v.ot.2 (Ptyp.cellsT s.N (Ptyp.mapA s.N s.T f (Ptyp.gUt now pg)))
  exact ⟨h1, (h.v.left k).turnT (h.v.typ.set (Ptyp.ok_map h.v.typ.ok _ f (Ptyp.ok_ut now pg))), h.k.trans (pwide 24 (by omega) (by omega) k)⟩
end
/-- A machine of the call's own. -/
theorem pnew_px (N n : Nat) (Q room : Int) (w : World) (hb : ckB N n Q room = true) : Calls Try.prog 5 #[.agg #[.int .i64 N, .int .i64 n, .int .i64 Q, .int .i64 room]] w fun e w' => ∃ p o P, e = .returned (.tuple #[.pointer (some ⟨p, 0, none⟩), .int .i64 0]) ∧ Px w w' p o P (nwS N n room) ∧ (∀ i, i < w.heap.size → o i = 99) := by
  refine (pnew_ok N n Q room w hb).mono ?_
  rintro e w' ⟨p, h1, o, P, h2, h3, _, h5⟩
  exact ⟨p, o, P, h1, ⟨h2, Tint.of_below _ h5⟩, h3⟩
set_option maxRecDepth 100000 in
set_option maxHeartbeats 1000000 in
theorem pawake_any (w : World) : Calls Try.prog 17 #[] w fun e w' => e = .returned (.bool true) ∧ Below w.heap.size w w' := by
  have HN := vhide (pnew_ok 1 1 0 0 w (by decide))
  have HW : Hid (Ws (nwS 1 1 0)) := nwS_ws (by omega) (by omega) (by omega) (by omega)
  have HC : Hid (∀ wc p o P, PIs wc p o P (nwS 1 1 0) → Calls Try.prog 27 #[.pointer (some ⟨p, 0, none⟩)] wc fun e w' => e = .returned (.int .i64 1) ∧ w' = wc) := fun wc p o P h => pcores_any h HW.out
  have HU : Hid (∀ wc p o P, PIs wc p o P (nwS 1 1 0) → Calls Try.prog 26 #[.pointer (some ⟨p, 0, none⟩), .int .i64 0] wc fun e w' => e = .returned (.int .i64 (-1)) ∧ Below wc.heap.size wc w') := fun wc p o P h => pcur_any 0 h HW.out
  go_enter Try.func17, Try.ntmps17
  go_wp2_with (first
    | (go_at_call 5; refine HN.out.mono ?_; rintro e1 w1 ⟨p, rfl, o, P, hp, _, _, hb⟩; have HP := vhide hp; have HB := vhide hb; clear hp hb HN)
    | (go_at_call 27; refine (HC.out _ _ _ _ HP.out).mono ?_; rintro e1 w2 ⟨rfl, hw⟩; subst w2; clear HC)
    | (go_at_call 26; refine (HU.out _ _ _ _ HP.out).mono ?_; rintro e1 w2 ⟨rfl, hb⟩; have HB2 := vhide (HB.out.trans (hb.mono HB.out.size)); clear hb HU HB)
    | fail)
  go_ret
  exact ⟨rfl, HB2.out⟩
end Go.Proofs.Ytdlpibmdcfillaa.Ppmach
