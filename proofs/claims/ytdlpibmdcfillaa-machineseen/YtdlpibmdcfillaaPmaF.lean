/- The walk of MachineSeen. -/
import Derived.Test.YtdlpibmdcfillaaPmaV
import Derived.Test.YtdlpibmdcfillaaBunPmach
import Derived.Test.YtdlpibmdcfillaaPmaE
import Derived.Test.YtdlpibmdcfillaaBunBase
import Derived.Deep.CutBlock
import Derived.Deep.DeepCutAuto
namespace Go.Proofs.Ytdlpibmdcfillaa.Ppmach
open Go.Proofs.Ytdlpibmdcfillaa.Pbase Go.Proofs.Ytdlpibmdcfillaa.Pchold Go.Proofs.Ytdlpibmdcfillaa.Pmst Go.Proofs.Ytdlpibmdcfillaa.Ptint
open Go.RowKit
set_option linter.unusedVariables false

theorem PIs.skip {w : World} {p : Nat} {o : Nat → Nat} {P : Pq} {s : St} (h : PIs w p o P s) (c4 : s.n ≤ 4) {B j : Nat} (hB : ¬ PMine o B) (v : Value) : PIs (w.setCell ⟨B, j, none⟩ v) p o P s :=
  h.keep c4 (Nat.le_of_eq (World.size_setCell _ _ _).symm) fun i h1 h2 _ => heap_setCell_other _ _ _ _ fun e => hB (by rw [← (show i = B from e)]; exact ⟨h1, h2⟩)
theorem tint_new {F : Nat → Prop} {a w : World} (h : Tint F a w) {B j : Nat} (hB : a.heap.size ≤ B) (v : Value) : Tint F a (w.setCell ⟨B, j, none⟩ v) :=
  ⟨h.os, h.tape, h.output, by rw [World.size_setCell]; exact h.size, fun i hi hn => (heap_setCell_other _ _ _ _ (fun e => by have : i = B := e; omega)).trans (h.block i hi hn)⟩
def boL (E : Nat → Bool) (j : Nat) : Value := .bool (E j)
/-- The machine and two lists of four bools of the call's own. -/
structure Se (w wr : World) (p : Nat) (o : Nat → Nat) (P : Pq) (s : St) (n : Nat) (user pages : Bool) (v : Int) (E F A G : Nat → Bool) (B C : Nat) : Prop where
  x : Px w wr p o P s
  ws : Ws s
  sn : Sn s n user pages v E F
  a : Lst wr B 41 4 (boL A)
  b : Lst wr C 41 4 (boL G)
  na : ¬ PMine o B
  nb : ¬ PMine o C
  ne : B ≠ C
  ga : w.heap.size ≤ B
  gb : w.heap.size ≤ C
  old : ∀ i, i < w.heap.size → o i = 99
section
variable {w wr w' : World} {p : Nat} {o : Nat → Nat} {P : Pq} {s s' : St} {n : Nat} {user pages : Bool} {v : Int} {E F E' F' A G : Nat → Bool} {B C : Nat}
theorem Se.below (h : Se w wr p o P s n user pages v E F A G B C) : Below w.heap.size w wr := h.x.k.below (fun i hi ⟨g, g'⟩ => by have := h.old i hi; omega) (Nat.le_refl _)
theorem Se.on (h : Se w wr p o P s n user pages v E F A G B C) (hB : Below wr.heap.size wr w') : Se w w' p o P s n user pages v E F A G B C :=
  ⟨h.x.on h.ws.c4 hB, h.ws, h.sn, h.a.on (hB.block _ h.a.lt), h.b.on (hB.block _ h.b.lt), h.na, h.nb, h.ne, h.ga, h.gb, h.old⟩
theorem Se.turn (h : Se w wr p o P s n user pages v E F A G B C) (hx : Px wr w' p o P s') (hw : Ws s') (hs : Sn s' n user pages v E' F') : Se w w' p o P s' n user pages v E' F' A G B C :=
  ⟨⟨hx.v, h.x.k.trans hx.k⟩, hw, hs, h.a.on (hx.k.block _ h.a.lt h.na), h.b.on (hx.k.block _ h.b.lt h.nb), h.na, h.nb, h.ne, h.ga, h.gb, h.old⟩
theorem Se.putA (h : Se w wr p o P s n user pages v E F A G B C) {k : Nat} (hk : k < 4) : Se w (wr.setCell ⟨B, k, none⟩ (.bool true)) p o P s n user pages v E F (fun i => if i = k then true else A i) G B C :=
  ⟨⟨h.x.v.skip h.ws.c4 h.na _, tint_new h.x.k h.ga _⟩, h.ws, h.sn, (h.a.put hk (.bool true)).congr fun j _ => by unfold boL; by_cases e : j = k <;> simp [e], h.b.on (heap_setCell_other _ _ _ _ (Ne.symm h.ne)), h.na, h.nb, h.ne, h.ga, h.gb, h.old⟩
theorem Se.putB (h : Se w wr p o P s n user pages v E F A G B C) {k : Nat} (hk : k < 4) : Se w (wr.setCell ⟨C, k, none⟩ (.bool true)) p o P s n user pages v E F A (fun i => if i = k then true else G i) B C :=
  ⟨⟨h.x.v.skip h.ws.c4 h.nb _, tint_new h.x.k h.gb _⟩, h.ws, h.sn, h.a.on (heap_setCell_other _ _ _ _ h.ne), (h.b.put hk (.bool true)).congr fun j _ => by unfold boL; by_cases e : j = k <;> simp [e], h.na, h.nb, h.ne, h.ga, h.gb, h.old⟩
theorem se_clock (h : Se w wr p o P s n user pages v E F A G B C) : Calls Try.prog 6 #[.pointer (some ⟨p, 0, none⟩)] wr fun e w' => e = .returned (.pointer (some ⟨P.pc, 0, none⟩)) ∧ Se w w' p o P s n user pages v E F A G B C :=
  (pclock_any h.x.v h.ws).mono (by rintro e w' ⟨h1, h2⟩; exact ⟨h1, h.on h2⟩)
theorem se_enter (h : Se w wr p o P s n user pages v E F A G B C) {k : Nat} (hk : k < n) : Calls Try.prog 14 #[.pointer (some ⟨P.pc, 0, none⟩), .int .i64 k] wr fun e w' => e = .returned (.int .i64 0) ∧ ∃ s', Se w w' p o P s' n user pages v (fun i => if i = k then true else E i) F A G B C := by
  refine (penter_any (w := wr) k h.ws (px_refl h.x.v)).mono ?_
  rintro e w' ⟨h1, h2⟩
  refine ⟨?_, _, h.turn h2 ⟨h.ws.n1, h.ws.n64, h.ws.c1, h.ws.c4⟩ (sn_enter h.sn hk)⟩
  rw [h1]
  unfold Pclock.errF
  rw [h.sn.hn, Pclock.okF_nat hk]
  rfl
theorem se_flush (h : Se w wr p o P s n user pages v E F A G B C) {k : Nat} (hk : k < n) : Calls Try.prog 15 #[.pointer (some ⟨p, 0, none⟩), .int .i64 k] wr fun e w' => ∃ x y s', e = .returned (.tuple #[.int .i64 x, .int .i64 y]) ∧ Se w w' p o P s' n user pages v E (fun i => if i = k then true else F i) A G B C := by
  refine (pflush_any k h.x.v h.ws).mono ?_
  rintro e w' ⟨h1, h2⟩
  exact ⟨_, _, _, h1, h.turn h2 ⟨h.ws.n1, h.ws.n64, h.ws.c1, h.ws.c4⟩ (sn_flush h.sn hk)⟩
end
theorem se_new {w w1 : World} {p : Nat} {o : Nat → Nat} {P : Pq} {s : St} {n : Nat} {user pages : Bool} {v : Int} (hx : Px w w1 p o P s) (hw : Ws s) (hs : Sn s n user pages v (fun _ => false) (fun _ => false)) (ho : ∀ i, i < w.heap.size → o i = 99) :
    Se w ((w1.alloc (.cells #[.bool false, .bool false, .bool false, .bool false] 41)).alloc (.cells #[.bool false, .bool false, .bool false, .bool false] 41)) p o P s n user pages v (fun _ => false) (fun _ => false) (fun _ => false) (fun _ => false) w1.heap.size (w1.heap.size + 1) := by
  have l : ∀ w : World, Lst (w.alloc (.cells #[.bool false, .bool false, .bool false, .bool false] 41)) w.heap.size 41 4 (boL fun _ => false) := fun w => ⟨_, heap_alloc_new w _, fun j hj => by
    rcases (show j = 0 ∨ j = 1 ∨ j = 2 ∨ j = 3 by omega) with rfl | rfl | rfl | rfl <;> rfl⟩
  have b1 : Below w1.heap.size w1 (w1.alloc (.cells #[.bool false, .bool false, .bool false, .bool false] 41)) := bal (Below.refl _ _) _
  have l2 := l (w1.alloc (.cells #[.bool false, .bool false, .bool false, .bool false] 41))
  rw [World.size_alloc] at l2
  refine ⟨hx.on hw.c4 (bal b1 _), hw, hs, lst_on (l w1) (bal (Below.refl _ _) _), l2, fun ⟨a, b⟩ => ?_, fun ⟨a, b⟩ => ?_, by omega, hx.k.size, Nat.le_succ_of_le hx.k.size, ho⟩
  · have := hx.v.own _ a b; omega
  · have := hx.v.own _ a b; omega
set_option maxRecDepth 100000 in
set_option maxHeartbeats 4000000 in
theorem seen_walk (cores : Int) (user pages : Bool) (v : Int) (a0 : Option Addr) (len0 cap0 : Nat) (w : World) (n : Nat) (hn1 : 1 ≤ n) (hn4 : n ≤ 4) (hnc : cores.tmod 4 = (n : Int) - 1) (HC : Hid (Came .u8 w.heap.size w a0 len0)) (hl : len0 ≤ 9223372036854775807) :
    Calls Try.prog 3 #[.int .u8 cores, .bool user, .bool pages, .int .u64 v, .slice a0 len0 cap0] w fun e w' => e = .returned (.bool true) ∧ Below w.heap.size w w' := by
  obtain ⟨e1, e2, e3, e4, e5⟩ := se_err user pages v hn1
  have ck : ckB 1 n 0 0 = true := by unfold ckB; simp; omega
  have W0 : Ws (nwS 1 n 0) := nwS_ws (by omega) (by omega) hn1 hn4
  have WA : Ws (seA n) := ⟨show 1 ≤ 1 by omega, show 1 ≤ 64 by omega, hn1, hn4⟩
  have WB : Ws (seB n user) := ⟨show 1 ≤ 1 by omega, show 1 ≤ 64 by omega, hn1, hn4⟩
  have WC : Ws (seC n user v) := ⟨show 1 ≤ 1 by omega, show 1 ≤ 64 by omega, hn1, hn4⟩
  have WD : Ws (seD n user pages v) := ⟨show 1 ≤ 1 by omega, show 1 ≤ 64 by omega, hn1, hn4⟩
  have WE : Hid (Ws (seE n user pages v)) := ⟨show 1 ≤ 1 by omega, show 1 ≤ 64 by omega, hn1, hn4⟩
  have HS : Hid (Sn (seE n user pages v) n user pages v (fun _ => false) (fun _ => false)) := se_start user pages v hn1
  have HN : Hid (Calls Try.prog 5 #[.agg #[.int .i64 1, .int .i64 n, .int .i64 0, .int .i64 0]] w fun e w' => ∃ p o P, e = .returned (.tuple #[.pointer (some ⟨p, 0, none⟩), .int .i64 0]) ∧ Px w w' p o P (nwS 1 n 0) ∧ ∀ i, i < w.heap.size → o i = 99) := (pnew_px 1 n 0 0 w ck).mono (by rintro e w' ⟨p, o, P, h1, h2, h3⟩; exact ⟨p, o, P, h1, h2, h3⟩)
  have HC0 : Hid (∀ wc p o P, Px w wc p o P (nwS 1 n 0) → Calls Try.prog 6 #[.pointer (some ⟨p, 0, none⟩)] wc fun e w' => e = .returned (.pointer (some ⟨P.pc, 0, none⟩)) ∧ Px w w' p o P (nwS 1 n 0)) := fun wc p o P h => (pclock_any h.v W0).mono (by rintro e w' ⟨h1, h2⟩; exact ⟨h1, h.on W0.c4 h2⟩)
  have HS0 : Hid (∀ wc p o P, Px w wc p o P (nwS 1 n 0) → Calls Try.prog 7 #[.pointer (some ⟨P.pc, 0, none⟩), .int .i64 0] wc fun e w' => e = .returned (.int .i64 0) ∧ Px w w' p o P (seA n)) := fun wc p o P h => (pstep_any 0 W0 h).mono (by rintro e w' ⟨h1, h2⟩; exact ⟨by rw [h1]; exact congrArg (fun z => Ending.returned (.int .i64 z)) e1, h2⟩)
  have HR0 : Hid (∀ wc p o P, Px w wc p o P (seA n) → Calls Try.prog 8 #[.pointer (some ⟨p, 0, none⟩), .int .i64 0, .int .i64 (kdI user)] wc fun e w' => e = .returned (.int .i64 0) ∧ Px w w' p o P (seB n user)) := fun wc p o P h => (pretype_any 0 (kdI user) h.v WA).mono (by rintro e w' ⟨h1, h2⟩; exact ⟨by rw [h1, e2], h2.v, h.k.trans h2.k⟩)
  have HM0 : Hid (∀ wc p o P, Px w wc p o P (seB n user) → Calls Try.prog 9 #[.pointer (some ⟨p, 0, none⟩)] wc fun e w' => e = .returned (.pointer (some ⟨P.pm, 0, none⟩)) ∧ Px w w' p o P (seB n user)) := fun wc p o P h => (pmem_any h.v WB).mono (by rintro e w' ⟨h1, h2⟩; exact ⟨h1, h.on WB.c4 h2⟩)
  have HT0 : Hid (∀ wc p o P, Px w wc p o P (seB n user) → Calls Try.prog 10 #[.pointer (some ⟨P.pm, 0, none⟩), .int .i64 0, .int .i64 7, .int .u64 v] wc fun e w' => e = .returned (.int .i64 0) ∧ Px w w' p o P (seC n user v)) := fun wc p o P h => (pstore_any 0 7 v WB h).mono (by rintro e w' ⟨h1, h2⟩; exact ⟨h1, h2⟩)
  have HY0 : Hid (∀ wc p o P, Px w wc p o P (seC n user v) → Calls Try.prog 11 #[.pointer (some ⟨p, 0, none⟩)] wc fun e w' => e = .returned (.pointer (some ⟨P.pt, 0, none⟩)) ∧ Px w w' p o P (seC n user v)) := fun wc p o P h => (ptyp_any h.v WC).mono (by rintro e w' ⟨h1, h2⟩; exact ⟨h1, h.on WC.c4 h2⟩)
  have HW0 : Hid (∀ wc p o P, Px w wc p o P (seC n user v) → Calls Try.prog 13 #[.pointer (some ⟨p, 0, none⟩)] wc fun e w' => e = .returned (.int .i64 1) ∧ Px w w' p o P (seC n user v)) := fun wc p o P h => (pnow_any h.v WC).mono (by rintro e w' ⟨h1, h2⟩; exact ⟨by rw [h1, e4], h.on WC.c4 h2⟩)
  have HU0 : Hid (∀ wc p o P, Px w wc p o P (seC n user v) → Calls Try.prog 12 #[.pointer (some ⟨P.pt, 0, none⟩), .int .i64 0, .int .i64 1, .bool pages] wc fun e w' => e = .returned (.int .i64 0) ∧ Px w w' p o P (seD n user pages v)) := fun wc p o P h => (puntype_any 0 1 pages WC h).mono (by rintro e w' ⟨h1, h2⟩; exact ⟨by rw [h1]; exact congrArg (fun z => Ending.returned (.int .i64 z)) e3, h2⟩)
  have HC1 : Hid (∀ wc p o P, Px w wc p o P (seD n user pages v) → Calls Try.prog 6 #[.pointer (some ⟨p, 0, none⟩)] wc fun e w' => e = .returned (.pointer (some ⟨P.pc, 0, none⟩)) ∧ Px w w' p o P (seD n user pages v)) := fun wc p o P h => (pclock_any h.v WD).mono (by rintro e w' ⟨h1, h2⟩; exact ⟨h1, h.on WD.c4 h2⟩)
  have HS1 : Hid (∀ wc p o P, Px w wc p o P (seD n user pages v) → Calls Try.prog 7 #[.pointer (some ⟨P.pc, 0, none⟩), .int .i64 0] wc fun e w' => e = .returned (.int .i64 0) ∧ Px w w' p o P (seE n user pages v)) := fun wc p o P h => (pstep_any 0 WD h).mono (by rintro e w' ⟨h1, h2⟩; exact ⟨by rw [h1]; exact congrArg (fun z => Ending.returned (.int .i64 z)) e5, h2⟩)
  clear W0 WA WB WC WD ck e1 e2 e3 e4 e5
  generalize nwS 1 n 0 = s0 at HN HC0 HS0
  generalize seA n = sA at HS0 HR0
  generalize seB n user = sB at HR0 HM0 HT0
  generalize seC n user v = sC at HT0 HY0 HW0 HU0
  generalize seD n user pages v = sD at HU0 HC1 HS1
  generalize seE n user pages v = sE at HS1 HS WE
  generalize hkd : kdI user = kd at HR0
  have q1 : IntKind.i64.wrap (cores.tmod 4) = (n : Int) - 1 := by rw [hnc]; exact wrapi_small (by omega) (by omega)
  have q2 : IntKind.i64.wrap (1 + ((n : Int) - 1)) = n := by rw [wrapi_small (by omega) (by omega)]; omega
  obtain ⟨us, hus⟩ : ∃ us, us = user := ⟨_, rfl⟩
  rw [← hus] at HS
  have HK := vhide hkd
  rw [← hus] at HK
  have hkk : (user = true ∧ kd = 1) ∨ (user = false ∧ kd = 2) := by
    rw [← hkd]
    cases user
    · exact .inr ⟨rfl, rfl⟩
    · exact .inl ⟨rfl, rfl⟩
  clear hkd
  rcases hkk with ⟨rfl, rfl⟩ | ⟨rfl, rfl⟩
  all_goals
   go_enter Try.func3, Try.ntmps3
   go_upto_block 0 with (first
     | (go_at_call 5; refine HN.out.mono ?_; rintro e1 w1 ⟨p, o, P, rfl, hp, ho⟩; have H1 := vhide hp; have HO := vhide ho; clear hp ho HN)
     | (go_at_call 6; refine (HC0.out _ _ _ _ H1.out).mono ?_; rintro e1 w2 ⟨rfl, hp⟩; have H2 := vhide hp; clear hp HC0 H1)
     | (go_at_call 7; refine (HS0.out _ _ _ _ H2.out).mono ?_; rintro e1 w3 ⟨rfl, hp⟩; have H3 := vhide hp; clear hp HS0 H2)
     | (go_at_call 8; refine (HR0.out _ _ _ _ H3.out).mono ?_; rintro e1 w4 ⟨rfl, hp⟩; have H4 := vhide hp; clear hp HR0 H3)
     | (go_at_call 9; refine (HM0.out _ _ _ _ H4.out).mono ?_; rintro e1 w5 ⟨rfl, hp⟩; have H5 := vhide hp; clear hp HM0 H4)
     | (go_at_call 10; refine (HT0.out _ _ _ _ H5.out).mono ?_; rintro e1 w6 ⟨rfl, hp⟩; have H6 := vhide hp; clear hp HT0 H5)
     | (go_at_call 11; refine (HY0.out _ _ _ _ H6.out).mono ?_; rintro e1 w7 ⟨rfl, hp⟩; have H7 := vhide hp; clear hp HY0 H6)
     | (go_at_call 13; refine (HW0.out _ _ _ _ H7.out).mono ?_; rintro e1 w8 ⟨rfl, hp⟩; have H8 := vhide hp; clear hp HW0 H7)
     | (go_at_call 12; refine (HU0.out _ _ _ _ H8.out).mono ?_; rintro e1 w9 ⟨rfl, hp⟩; have H9 := vhide hp; clear hp HU0 H8)
     | (go_at_call 6; refine (HC1.out _ _ _ _ H9.out).mono ?_; rintro e1 w10 ⟨rfl, hp⟩; have H10 := vhide hp; clear hp HC1 H9)
     | (go_at_call 7; refine (HS1.out _ _ _ _ H10.out).mono ?_; rintro e1 w11 ⟨rfl, hp⟩; have H11 := vhide hp; clear hp HS1 H10)
     | fail)
   have HE := vhide (se_new H11.out WE.out HS.out HO.out)
   clear H11 WE HS HO
   generalize (w11.alloc _).alloc _ = w12 at HE ⊢
   generalize w11.heap.size = B at HE ⊢
   go_cut [17, 18] from 69 to 103 (fun _ _ wc => ∃ s E F, Se w wc p o P s n us pages v E F E F B (B + 1))
   case first =>
    go_wp2_with fail
    go_loopw [17] (fun i wr => ∃ m : Nat, m ≤ len0 ∧ m ≤ 20 ∧ i = .int .i64 m ∧ ∃ s E F, Se w wr p o P s n us pages v E F E F B (B + 1)) (fun i _ => len0 - (intOf i).toNat)
    case atStart => exact ⟨0, by omega, by omega, rfl, _, _, _, HE.out⟩
    case round =>
      obtain ⟨m, hm, hm20, rfl, s, E, F, hI⟩ := hrel
      have HI := vhide hI
      clear hI HE
      by_cases hin : m < len0 ∧ m < 20
      · obtain ⟨h0, h1⟩ := hin
        obtain ⟨b0, o0, z0, rfl, HZ0, C0⟩ := HC.out.any h0
        have c0 := C0.out _ HI.out.below
        have i0 : (m : Int) < (len0 : Int) := by omega
        have i1 : (m : Int) < 20 := by omega
        have hzb := bounds_u8 HZ0.out
        obtain ⟨h, hh⟩ : ∃ h : Nat, z0.tdiv 2 = (h : Int) := ⟨z0.toNat / 2, by rw [Int.tdiv_eq_ediv_of_nonneg hzb.1]; omega⟩
        have hh8 : (h : Int) ≤ 127 := by rw [← hh, Int.tdiv_eq_ediv_of_nonneg hzb.1]; omega
        have t2 : IntKind.u8.wrap (h : Int) = h := by show (h : Int) % 256 = h; omega
        have t2' : (h : Int) % 256 = h := by omega
        have t3 : IntKind.i64.wrap (h : Int) = h := wrapi_small (by omega) (by omega)
        obtain ⟨k, hk⟩ : ∃ k : Nat, k = h % n := ⟨_, rfl⟩
        have hkn : k < n := by rw [hk]; exact Nat.mod_lt _ (by omega)
        have hk4 : k < 4 := by omega
        have t4 : (h : Int).tmod n = (k : Int) := by rw [hk]; rfl
        have t4' : (h : Int) % (n : Int) = (k : Int) := by rw [hk]; rfl
        have t5 : IntKind.i64.wrap (k : Int) = k := wrapi_small (by omega) (by omega)
        have k4 : (k : Int) < 4 := by omega
        clear hk hh8
        have hpar : z0.tmod 2 = 0 ∨ z0.tmod 2 = 1 := by rw [Int.tmod_eq_emod_of_nonneg hzb.1]; omega
        clear hzb
        rcases hpar with q6 | q6
        · have HCl : Hid (∀ wx, Se w wx p o P s n us pages v E F E F B (B + 1) → Calls Try.prog 6 #[.pointer (some ⟨p, 0, none⟩)] wx fun e w' => e = .returned (.pointer (some ⟨P.pc, 0, none⟩)) ∧ Se w w' p o P s n us pages v E F E F B (B + 1)) := fun wx h => se_clock h
          have HEn : Hid (∀ wx, Se w wx p o P s n us pages v E F E F B (B + 1) → Calls Try.prog 14 #[.pointer (some ⟨P.pc, 0, none⟩), .int .i64 k] wx fun e w' => e = .returned (.int .i64 0) ∧ ∃ s', Se w w' p o P s' n us pages v (fun i => if i = k then true else E i) F E F B (B + 1)) := fun wx h => se_enter h hkn
          go_wp2_with (first
            | (go_at_call 6; refine (HCl.out _ HI.out).mono ?_; rintro e1 v2 ⟨rfl, hp⟩; have H2 := vhide hp; clear hp HCl HI c0)
            | (go_at_call 14; refine (HEn.out _ H2.out).mono ?_; rintro e1 v3 ⟨rfl, s', hp⟩; have H3 := vhide hp; have d1 : v3.cell? ⟨B, k, none⟩ = some (.bool (E k)) := hp.a.cell hk4; have z1 : v3.frozen? ⟨B, k, none⟩ = false := hp.a.free k; clear hp HEn H2)
            | fail)
          go_roundw
          case rel => exact ⟨m + 1, by omega, by omega, by go_num, s', _, _, H3.out.putA hk4⟩
          case measure => simp [intOf]; omega
        · have HFl : Hid (∀ wx, Se w wx p o P s n us pages v E F E F B (B + 1) → Calls Try.prog 15 #[.pointer (some ⟨p, 0, none⟩), .int .i64 k] wx fun e w' => ∃ x y s', e = .returned (.tuple #[.int .i64 x, .int .i64 y]) ∧ Se w w' p o P s' n us pages v E (fun i => if i = k then true else F i) E F B (B + 1)) := fun wx h => se_flush h hkn
          go_wp2_with (first
            | (go_at_call 15; refine (HFl.out _ HI.out).mono ?_; rintro e1 v3 ⟨x, y, s', rfl, hp⟩; have H3 := vhide hp; have d1 : v3.cell? ⟨B + 1, k, none⟩ = some (.bool (F k)) := hp.b.cell hk4; have z1 : v3.frozen? ⟨B + 1, k, none⟩ = false := hp.b.free k; clear hp HFl HI c0)
            | fail)
          go_roundw
          case rel => exact ⟨m + 1, by omega, by omega, by go_num, s', _, _, H3.out.putB hk4⟩
          case measure => simp [intOf]; omega
      · have hin' : ¬ (m : Int) < (len0 : Int) ∨ ((m : Int) < (len0 : Int) ∧ ¬ (m : Int) < 20) := by omega
        clear hin
        rcases hin' with n1 | ⟨n1, n2⟩
        all_goals
          go_wp2_with fail
          go_meet
          exact ⟨s, E, F, HI.out⟩
   case rest =>
    obtain ⟨s, E, F, hI⟩ := hcut
    have HI := vhide hI
    clear hI HE HC
    go_wp2_with fail
    go_loopw [19, 20, 21] (fun a e i wr => ∃ j : Nat, j ≤ n ∧ i = .int .i64 j ∧ a = .bool (allB E j) ∧ e = .bool (allB F j) ∧ Se w wr p o P s n us pages v E F E F B (B + 1)) (fun _ _ i _ => n - (intOf i).toNat)
    case atStart => exact ⟨0, by omega, rfl, rfl, rfl, HI.out⟩
    case round =>
      obtain ⟨j, hj, rfl, rfl, rfl, hJ⟩ := hrel
      have HJ := vhide hJ
      clear hJ HI
      by_cases hlt : j < n
      · have i0 : (j : Int) < (n : Int) := by omega
        have i4 : (j : Int) < 4 := by omega
        have d1 : wr.cell? ⟨B, j, none⟩ = some (.bool (E j)) := HJ.out.a.cell (by omega)
        have d2 : wr.cell? ⟨B + 1, j, none⟩ = some (.bool (F j)) := HJ.out.b.cell (by omega)
        have eA : allB E (j + 1) = (allB E j && E j) := rfl
        have eB : allB F (j + 1) = (allB F j && F j) := rfl
        generalize allB E j = x1 at eA ⊢
        generalize allB F j = x2 at eB ⊢
        generalize E j = x3 at eA d1
        generalize F j = x4 at eB d2
        have EA := vhide eA
        have EB := vhide eB
        clear eA eB
        cases x1 <;> cases x2 <;> cases x3 <;> cases x4
        all_goals
          go_wp2_with fail
          go_roundw
          case rel => exact ⟨j + 1, by omega, by go_num, by rw [EA.out]; rfl, by rw [EB.out]; rfl, HJ.out⟩
          case measure => simp [intOf]; omega
      · have hjn : j = n := by omega
        obtain ⟨r, y, hr1, hr2, hN⟩ : ∃ r y, rtE s 0 (kdI us) = r ∧ Pmem.ldM s.N (rtM s 0 (kdI us)) 0 7 = y ∧ ((needB us pages (allB E n) (allB F n) = true ∧ r = 0 ∧ y = 0) ∨ (needB us pages (allB E n) (allB F n) = false ∧ r = 6 ∧ y = v)) := by
          obtain ⟨g1, g2⟩ := sn_retype HJ.out.sn hn1
          refine ⟨_, _, rfl, rfl, ?_⟩
          rw [g1, g2]
          cases needB us pages (allB E n) (allB F n)
          · exact .inr ⟨rfl, rfl, rfl⟩
          · exact .inl ⟨rfl, rfl, rfl⟩
        have HR2 : ∀ wx, Se w wx p o P s n us pages v E F E F B (B + 1) → Calls Try.prog 8 #[.pointer (some ⟨p, 0, none⟩), .int .i64 0, .int .i64 (kdI us)] wx fun e w' => e = .returned (.int .i64 (rtE s 0 (kdI us))) ∧ Px w w' p o P { s with T := rtT s 0 (kdI us), M := rtM s 0 (kdI us) } := fun wx h => (pretype_any 0 (kdI us) h.x.v h.ws).mono (by rintro e w' ⟨h1, h2⟩; exact ⟨h1, h2.v, h.x.k.trans h2.k⟩)
        have WS : Ws { s with T := rtT s 0 (kdI us), M := rtM s 0 (kdI us) } := ⟨HJ.out.ws.n1, HJ.out.ws.n64, HJ.out.ws.c1, HJ.out.ws.c4⟩
        have HM2 : Hid (∀ wx, Px w wx p o P { s with T := rtT s 0 (kdI us), M := rtM s 0 (kdI us) } → Calls Try.prog 9 #[.pointer (some ⟨p, 0, none⟩)] wx fun e w' => e = .returned (.pointer (some ⟨P.pm, 0, none⟩)) ∧ Px w w' p o P { s with T := rtT s 0 (kdI us), M := rtM s 0 (kdI us) }) := fun wx h => (pmem_any h.v WS).mono (by rintro e w' ⟨h1, h2⟩; exact ⟨h1, h.on WS.c4 h2⟩)
        have HL2 : ∀ wx, Px w wx p o P { s with T := rtT s 0 (kdI us), M := rtM s 0 (kdI us) } → Calls Try.prog 16 #[.pointer (some ⟨P.pm, 0, none⟩), .int .i64 0, .int .i64 7] wx fun e w' => e = .returned (.tuple #[.int .u64 (Pmem.ldM s.N (rtM s 0 (kdI us)) 0 7), .int .i64 (Pmem.errW s.N 0 7)]) ∧ w' = wx := fun wx h => pload_any 0 7 WS h
        have HB2 : Hid (∀ wx, Px w wx p o P { s with T := rtT s 0 (kdI us), M := rtM s 0 (kdI us) } → Below w.heap.size w wx) := fun wx h => h.k.below (fun i hi ⟨g, g'⟩ => by have := HJ.out.old i hi; omega) (Nat.le_refl _)
        have HP := vhide HR2
        generalize { s with T := rtT s 0 (kdI us), M := rtM s 0 (kdI us) } = s2 at HP HM2 HL2 HB2
        clear HR2 WS
        rw [hr1] at HP
        rw [hr2] at HL2
        have HL3 := vhide HL2
        clear hr1 hr2 HL2
        rw [HK.out] at HP
        rw [hjn]
        generalize allB E n = A at hN ⊢
        generalize allB F n = G at hN ⊢
        generalize Pmem.errW s.N 0 7 = ew at HL3
        rw [hus] at hN
        have n1 : ¬ (n : Int) < n := by omega
        have bv : (v == v) = true := by simp
        rcases hN with ⟨hN, rfl, rfl⟩ | ⟨hN, rfl, rfl⟩
        all_goals
          cases A <;> cases G <;> cases pages
          all_goals
            first
            | (exact absurd hN (by decide))
            | (clear hN
               go_wp2_with (first
                 | (go_at_call 8; refine (HP.out _ HJ.out).mono ?_; rintro e1 v2 ⟨rfl, hp⟩; have H2 := vhide hp; clear hp HP HJ)
                 | (go_at_call 9; refine (HM2.out _ H2.out).mono ?_; rintro e1 v3 ⟨rfl, hp⟩; have H3 := vhide hp; clear hp HM2 H2)
                 | (go_at_call 16; refine (HL3.out _ H3.out).mono ?_; rintro e1 v4 ⟨rfl, hw⟩; subst v4; clear HL3)
                 | (go_at_call 17; refine (pawake_any _).mono ?_; rintro e8 v8 ⟨rfl, hB8⟩; have H8 : Hid (Below w.heap.size w v8) := (HB2.out _ H3.out).trans (hB8.mono (HB2.out _ H3.out).size); clear hB8)
                 | fail)
               go_ret
               exact ⟨rfl, H8.out⟩)
end Go.Proofs.Ytdlpibmdcfillaa.Ppmach
