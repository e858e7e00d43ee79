import Derived.Test.YtkkclcihjojphaaGreatDoorPkL
import Derived.Test.YtkkclcihjojphaaGreatDoorBunVtyp
import Derived.Test.YtkkclcihjojphaaGreatDoorPkD
import Derived.Deep.AppendLies
import Derived.Deep.RegionLaw
set_option linter.unusedVariables false
set_option linter.unusedSimpArgs false
set_option maxRecDepth 100000
set_option maxHeartbeats 20000000
namespace Go.Proofs.YtkkclcihjojphaaGreatDoor
namespace Pvmach
open Pbase Pchold Pmst Ptint Go.RowKit
structure Pl where
 pm : Nat
 bm : Nat
 tm : Nat
 pc : Nat
 pt : Nat
 pl : Nat
 ph : Nat
 tl : Nat
 ct : Nat
 rl : Nat
 cr : Nat
 ul : Nat
 cu : Nat
 a : Nat -> Nat
 b : Nat -> Nat
structure VIs (w : World) (q : Nat) (o : Nat -> Nat) (P : Pl) (s : St) : Prop where
 head : w.heap[q]? = some (.cells #[.pointer (some ⟨P.pm, 0, none⟩), .pointer (some ⟨P.pc, 0, none⟩), .slice (some ⟨P.tl, 0, none⟩) s.n P.ct, .slice (some ⟨P.rl, 0, none⟩) s.n P.cr, .pointer (some ⟨P.pt, 0, none⟩), .pointer (some ⟨P.pl, 0, none⟩), .pointer (some ⟨P.ph, 0, none⟩), .slice (some ⟨P.ul, 0, none⟩) s.n P.cu] 149 (0, 0))
 hq : o q = 0
 own : ∀ i, o i <= 17 -> i < w.heap.size
 mem : Pvmem.RefM w (fun i => o i = 1) P.pm s.N P.bm P.tm s.M
 clock : Pvclock.RefIs w (fun i => o i = 2) P.pc s.n s.C
 typ : Pvtyp.RefIs w (fun i => o i = 3) P.pt s.N s.T
 live : Pvlive.RefIs w (fun i => o i = 4) P.pl 64 s.L
 lines : Pvhw.RefL w (fun i => o i = 5) P.ph s.H
 cur : Lst w P.ul 3 s.n (fun j => .int .i64 (s.U j))
 ou : o P.ul = 6
 tls : Lst w P.tl 250 s.n (fun j => .pointer (some ⟨P.a j, 0, none⟩))
 ot : o P.tl = 7
 rls : Lst w P.rl 253 s.n (fun j => .pointer (some ⟨P.b j, 0, none⟩))
 or_ : o P.rl = 8
 tlb : ∀ j, j < s.n -> ∃ ao cap, Pvtlb.RefIs (fun i => o i = 9 + 2 * j) w (P.a j) s.room ao cap (s.K j)
 regs : ∀ j, j < s.n -> Pvregs.RefIs w (fun i => o i = 10 + 2 * j) (P.b j) (s.R j)
section
variable {w w' : World} {q : Nat} {o : Nat -> Nat} {P : Pl} {s : St}
theorem VIs.lt (h : VIs w q o P s) : q < w.heap.size := (Array.getElem?_eq_some_iff.1 h.head).1
theorem VIs.cells (h : VIs w q o P s) : w.cell? ⟨q, 0, none⟩ = some (.pointer (some ⟨P.pm, 0, none⟩)) /\ w.cell? ⟨q, 1, none⟩ = some (.pointer (some ⟨P.pc, 0, none⟩)) /\ w.cell? ⟨q, 2, none⟩ = some (.slice (some ⟨P.tl, 0, none⟩) s.n P.ct) /\ w.cell? ⟨q, 3, none⟩ = some (.slice (some ⟨P.rl, 0, none⟩) s.n P.cr) /\ w.cell? ⟨q, 4, none⟩ = some (.pointer (some ⟨P.pt, 0, none⟩)) /\ w.cell? ⟨q, 5, none⟩ = some (.pointer (some ⟨P.pl, 0, none⟩)) /\ w.cell? ⟨q, 6, none⟩ = some (.pointer (some ⟨P.ph, 0, none⟩)) /\ w.cell? ⟨q, 7, none⟩ = some (.slice (some ⟨P.ul, 0, none⟩) s.n P.cu) := by
 refine ⟨?_, ?_, ?_, ?_, ?_, ?_, ?_, ?_⟩ <;> rw [cell_of_row w q _ _ _ _ h.head] <;> rfl
theorem tlb_on {F : Nat -> Prop} {p cap : Nat} {room : Int} {ao : Option Addr} {S : List Ptlb.En} (h : Pvtlb.RefIs F w p room ao cap S) (hk : ∀ k, F k -> k < w.heap.size -> w'.heap[k]? = w.heap[k]?) : Pvtlb.RefIs F w' p room ao cap S := by
 refine ⟨(hk p h.ge h.lt).trans h.row, h.ge, h.capn, ?_⟩
 rcases h.held with h0 | ⟨g, off, cur, e, hb, hr, hc⟩
 · exact .inl h0
 · exact .inr ⟨g, off, cur, e, hb, (hk g hb (Array.getElem?_eq_some_iff.1 hr).1).trans hr, hc⟩
theorem lines_on {F : Nat -> Prop} {p : Nat} {S : Nat -> Int} (h : Pvhw.RefL w F p S) (hk : ∀ k, F k -> k < w.heap.size -> w'.heap[k]? = w.heap[k]?) : Pvhw.RefL w' F p S := by
 obtain ⟨r, cap, h⟩ := h
 exact ⟨r, cap, h.on (hk p h.ge h.lt) (hk r h.gr h.list.lt)⟩
theorem VIs.keep (h : VIs w q o P s) (hs : w.heap.size <= w'.heap.size) (hk : ∀ i, o i <= 17 -> i < w.heap.size -> w'.heap[i]? = w.heap[i]?) (c4 : s.n <= 4) : VIs w' q o P s where
 head := (hk q (by rw [h.hq]; omega) h.lt).trans h.head
 hq := h.hq
 own := fun i e => Nat.lt_of_lt_of_le (h.own i e) hs
 mem := h.mem.on hs fun i e => hk i (by rw [e]; omega)
 clock := h.clock.on fun i e => hk i (by rw [e]; omega)
 typ := h.typ.on fun i e => hk i (by rw [e]; omega)
 live := h.live.on fun i e => hk i (by rw [e]; omega)
 lines := lines_on h.lines fun i e => hk i (by rw [e]; omega)
 cur := h.cur.on (hk _ (by rw [h.ou]; omega) h.cur.lt)
 ou := h.ou
 tls := h.tls.on (hk _ (by rw [h.ot]; omega) h.tls.lt)
 ot := h.ot
 rls := h.rls.on (hk _ (by rw [h.or_]; omega) h.rls.lt)
 or_ := h.or_
 tlb := fun j hj => by
  obtain ⟨ao, cap, h1⟩ := h.tlb j hj
  exact ⟨ao, cap, tlb_on h1 fun i e => hk i (by rw [e]; omega)⟩
 regs := fun j hj => (h.regs j hj).on fun i e => hk i (by rw [e]; omega)
theorem VIs.grown (h : VIs w q o P s) (c4 : s.n <= 4) (hB : Below w.heap.size w w') : VIs w' q o P s := h.keep hB.size (fun i _ hi => hB.block i hi) c4
theorem VIs.drew (h : VIs w q o P s) (c4 : s.n <= 4) : VIs w.drew q o P s := h.keep (Nat.le_refl _) (fun _ _ _ => rfl) c4
theorem VIs.other {G : Nat -> Prop} (h : VIs w q o P s) (c4 : s.n <= 4) (hG : ∀ i, o i <= 17 -> ¬ G i) (k : Tint G w w') : VIs w' q o P s := h.keep k.size (fun i hi hl => k.block i hl (hG i hi)) c4
theorem tk {t : Nat} (k : Tint (fun i => o i = t) w w') {u : Nat} (hu : u ≠ t) : ∀ i, o i = u -> i < w.heap.size -> w'.heap[i]? = w.heap[i]? := fun i e hi => k.block i hi fun e2 => hu (e.symm.trans e2)
theorem VIs.turnM (h : VIs w q o P s) {M' : Nat -> Nat -> Int} (hX : Pvmem.RefM w' (fun i => o i = 1) P.pm s.N P.bm P.tm M') (k : Tint (fun i => o i = 1) w w') : VIs w' q o P { s with M := M' } where
 head := (tk k (by omega) q h.hq h.lt).trans h.head
 hq := h.hq
 own := fun i e => Nat.lt_of_lt_of_le (h.own i e) k.size
 mem := hX
 clock := h.clock.on (tk k (by omega))
 typ := h.typ.on (tk k (by omega))
 live := h.live.on (tk k (by omega))
 lines := lines_on h.lines (tk k (by omega))
 cur := h.cur.on (tk k (by omega) _ h.ou h.cur.lt)
 ou := h.ou
 tls := h.tls.on (tk k (by omega) _ h.ot h.tls.lt)
 ot := h.ot
 rls := h.rls.on (tk k (by omega) _ h.or_ h.rls.lt)
 or_ := h.or_
 tlb := fun j hj => by
  obtain ⟨ao, cap, h1⟩ := h.tlb j hj
  exact ⟨ao, cap, tlb_on h1 (tk k (by omega))⟩
 regs := fun j hj => (h.regs j hj).on (tk k (by omega))
theorem VIs.turnT (h : VIs w q o P s) {T' : Nat -> Ptyp.FS} (hX : Pvtyp.RefIs w' (fun i => o i = 3) P.pt s.N T') (k : Tint (fun i => o i = 3) w w') : VIs w' q o P { s with T := T' } where
 head := (tk k (by omega) q h.hq h.lt).trans h.head
 hq := h.hq
 own := fun i e => Nat.lt_of_lt_of_le (h.own i e) k.size
 mem := h.mem.on k.size (tk k (by omega))
 clock := h.clock.on (tk k (by omega))
 typ := hX
 live := h.live.on (tk k (by omega))
 lines := lines_on h.lines (tk k (by omega))
 cur := h.cur.on (tk k (by omega) _ h.ou h.cur.lt)
 ou := h.ou
 tls := h.tls.on (tk k (by omega) _ h.ot h.tls.lt)
 ot := h.ot
 rls := h.rls.on (tk k (by omega) _ h.or_ h.rls.lt)
 or_ := h.or_
 tlb := fun j hj => by
  obtain ⟨ao, cap, h1⟩ := h.tlb j hj
  exact ⟨ao, cap, tlb_on h1 (tk k (by omega))⟩
 regs := fun j hj => (h.regs j hj).on (tk k (by omega))
theorem VIs.turnL (h : VIs w q o P s) {L' : Nat -> Plive.LS} (hX : Pvlive.RefIs w' (fun i => o i = 4) P.pl 64 L') (k : Tint (fun i => o i = 4) w w') : VIs w' q o P { s with L := L' } where
 head := (tk k (by omega) q h.hq h.lt).trans h.head
 hq := h.hq
 own := fun i e => Nat.lt_of_lt_of_le (h.own i e) k.size
 mem := h.mem.on k.size (tk k (by omega))
 clock := h.clock.on (tk k (by omega))
 typ := h.typ.on (tk k (by omega))
 live := hX
 lines := lines_on h.lines (tk k (by omega))
 cur := h.cur.on (tk k (by omega) _ h.ou h.cur.lt)
 ou := h.ou
 tls := h.tls.on (tk k (by omega) _ h.ot h.tls.lt)
 ot := h.ot
 rls := h.rls.on (tk k (by omega) _ h.or_ h.rls.lt)
 or_ := h.or_
 tlb := fun j hj => by
  obtain ⟨ao, cap, h1⟩ := h.tlb j hj
  exact ⟨ao, cap, tlb_on h1 (tk k (by omega))⟩
 regs := fun j hj => (h.regs j hj).on (tk k (by omega))
end
def Mine (o : Nat -> Nat) : Nat -> Prop := fun i => o i <= 17
structure Vx (w0 w : World) (q : Nat) (o : Nat -> Nat) (P : Pl) (s : St) : Prop where
 v : VIs w q o P s
 k : Tint (Mine o) w0 w
section
variable {w0 w w' : World} {q : Nat} {o : Nat -> Nat} {P : Pl} {s : St}
theorem vx_refl (h : VIs w q o P s) : Vx w w q o P s := ⟨h, Tint.refl _ _⟩
theorem Vx.on (h : Vx w0 w q o P s) (hs : Ws s) (hB : Below w.heap.size w w') : Vx w0 w' q o P s := ⟨h.v.grown hs.c4 hB, h.k.on hB⟩
theorem Vx.drew (h : Vx w0 w q o P s) (hs : Ws s) : Vx w0 w.drew q o P s := ⟨h.v.drew hs.c4, h.k.drew⟩
theorem wide (t : Nat) (ht : t <= 17) (k : Tint (fun i => o i = t) w w') : Tint (Mine o) w w' := k.wide fun i e => by show o i <= 17; omega
end
end Pvmach
namespace Pvmach
open Pbase Pchold Pmst Ptint Pwalk Go.RowKit
section
variable {w w1 w' : World} {q B : Nat} {o : Nat -> Nat} {P : Pl} {s : St} {k r t l e a : Int}
end
def fcF (y : Ptyp.FS) : Nat -> Value
 | 0 => .int .i64 y.is
 | 1 => .int .i64 y.cnt
 | 2 => .int .i64 y.fr
 | _ => .int .i64 y.was
theorem rvretype_any {q : Nat} {o : Nat -> Nat} {P : Pl} {s : St} (f tt : Int) {w : World} (h : VIs w q o P s) (hs : Ws s) :
 Calls Tryz.prog 61 #[.pointer (some ⟨q, 0, none⟩), .int .i64 f, .int .i64 tt] w fun x w' => x = .returned (.int .i64 (rtE s f tt)) /\ Vx w w' q o P { s with T := rtT s f tt, M := rtM s f tt } := by
 have HS := vhide hs
 have H0 := vhide (vx_refl h)
 have c4 := h.cells.2.2.2.2.1
 have HO : Hid (Calls Tryz.prog 95 #[.pointer (some ⟨P.pt, 0, none⟩), .int .i64 f] w fun x w' => x = .returned (.agg #[.int .i64 (Ptyp.toldA s.N s.T f).is, .int .i64 (Ptyp.toldA s.N s.T f).cnt, .int .i64 (Ptyp.toldA s.N s.T f).fr, .int .i64 (Ptyp.toldA s.N s.T f).was]) /\ Below w.heap.size w w') := Pvtyp.rof_any _ _ _ _ _ w hs.n64 h.typ
 have HF : Hid (∀ wc, VIs wc q o P s -> Calls Tryz.prog 97 #[.pointer (some ⟨P.pc, 0, none⟩), .int .i64 (Ptyp.toldA s.N s.T f).was, .int .i64 (Ptyp.toldA s.N s.T f).fr] wc fun x w' => x = .returned (.bool (rtB s f)) /\ Below wc.heap.size wc w') := fun wc hv => Pvquiet.rfor_any _ _ _ s.C _ _ wc hs.c1 hs.c4 hv.clock
 have HR : Hid (∀ wc, Vx w wc q o P s -> Calls Tryz.prog 96 #[.pointer (some ⟨P.pt, 0, none⟩), .int .i64 f, .int .i64 tt, .bool (rtB s f)] wc fun x w' => x = .returned (.int .i64 (rtX s f tt)) /\ Vx w w' q o P { s with T := rtT s f tt } /\ Tint (fun i => o i = 3) wc w') := fun wc hv => by
  refine (Pvtyp.rretype_any _ _ _ f tt (rtB s f) s.T wc hs.n64 hv.v.typ).mono ?_
  rintro x w' ⟨h1, h2, h3⟩
  exact ⟨h1, ⟨hv.v.turnT h2 h3, hv.k.trans (wide 3 (by omega) h3)⟩, h3⟩
 have HC : Hid (∀ wc, rtX s f tt = 0 -> Vx w wc q o P { s with T := rtT s f tt } -> Calls Tryz.prog 98 #[.pointer (some ⟨P.pm, 0, none⟩), .int .i64 f] wc fun x w' => x = .returned (.int .i64 (rtE s f tt)) /\ Vx w w' q o P { s with T := rtT s f tt, M := rtM s f tt }) := fun wc hx hv => by
  have e1 : rtE s f tt = Pmem.errF s.N f := by unfold rtE; rw [if_pos hx]
  have e2 : rtM s f tt = Pmem.clM s.N s.M f := by unfold rtM; rw [if_pos hx]
  rw [e1, e2]
  refine (Pvmem.vclear_any f hs.n1 hs.n64 hv.v.mem).mono ?_
  rintro x w' ⟨h1, h2, h3⟩
  exact ⟨h1, hv.v.turnM h2 h3, hv.k.trans (wide 1 (by omega) h3)⟩
 have HN' : Hid (rtX s f tt ≠ 0 -> rtE s f tt = rtX s f tt /\ rtM s f tt = s.M) := fun hx => by unfold rtE rtM; rw [if_neg hx, if_neg hx]; exact ⟨rfl, rfl⟩
 clear h hs
 generalize rtE s f tt = E' at HC HN' ⊢
 generalize rtM s f tt = M' at HC HN' ⊢
 generalize rtT s f tt = T' at HC HR ⊢
 generalize rtX s f tt = X at HC HR HN'
 generalize rtB s f = bb at HF HR
 generalize Ptyp.toldA s.N s.T f = y at HO HF
 go_enter Tryz.func61, Tryz.ntmps61
 go_upto_region 2 with (first
  | (go_at_call 95; refine HO.out.mono ?_; rintro e1 w1 ⟨rfl, hb⟩; have H1 := vhide (H0.out.on HS.out hb); clear hb HO H0 c4)
  | fail)
 have HD : Hid (Lst (w1.alloc (.cells #[.int .i64 y.is, .int .i64 y.cnt, .int .i64 y.fr, .int .i64 y.was] 139)) w1.heap.size 139 4 (fcF y)) := ⟨_, heap_alloc_new w1 _, fun j hj => by
  rcases (show j = 0 \/ j = 1 \/ j = 2 \/ j = 3 by omega) with rfl | rfl | rfl | rfl <;> rfl⟩
 have HN : Hid (o w1.heap.size ≠ 3) := fun e => Nat.lt_irrefl _ (H1.out.v.own w1.heap.size (by omega))
 have H2 := vhide (H1.out.on HS.out (bal (Below.refl _ w1) (.cells #[.int .i64 y.is, .int .i64 y.cnt, .int .i64 y.fr, .int .i64 y.was] 139)))
 clear H1
 generalize w1.alloc _ = w2 at HD H2 ⊢
 generalize w1.heap.size = D at HD HN ⊢
 have HV := vhide (H2.out.drew HS.out)
 have HD : Hid (Lst w2.drew D 139 4 (fcF y)) := HD.out.on rfl
 clear H2
 have hS0 : w2.drew.cell? ⟨q, 1, none⟩ = some (.pointer (some ⟨P.pc, 0, none⟩)) /\ w2.drew.cell? ⟨q, 4, none⟩ = some (.pointer (some ⟨P.pt, 0, none⟩)) /\ w2.drew.cell? ⟨D, 2, none⟩ = some (.int .i64 y.fr) /\ w2.drew.cell? ⟨D, 3, none⟩ = some (.int .i64 y.was) := ⟨HV.out.v.cells.2.1, HV.out.v.cells.2.2.2.2.1, HD.out.cell (j := 2) (by omega), HD.out.cell (j := 3) (by omega)⟩
 refine wp_region_held_drew (S := fun W' => W'.cell? ⟨q, 1, none⟩ = some (.pointer (some ⟨P.pc, 0, none⟩)) /\ W'.cell? ⟨q, 4, none⟩ = some (.pointer (some ⟨P.pt, 0, none⟩)) /\ W'.cell? ⟨D, 2, none⟩ = some (.int .i64 y.fr) /\ W'.cell? ⟨D, 3, none⟩ = some (.int .i64 y.was)) (by kernel_rfl) hS0 (fun hHeld => ?_)
 clear hS0
 refine takeV (i := 0) (v := ?_) rfl (by kernel_rfl) (by kernel_rfl) (by kernel_rfl) (fun _ _ _ h => h) (by rfl) hHeld ?_ ?_
 rotate_left
 · (intro w0 hSw; (try dsimp only at hSw); obtain ⟨x1, x2, x3, x4⟩ := hSw; go_simp; try (with_reducible rfl))
 try simp only [Act.put, List.setIfInBounds_toArray, List.set_cons_zero, List.set_cons_succ]
 refine takeV (i := 1) (v := ?_) rfl (by kernel_rfl) (by kernel_rfl) (by kernel_rfl) (fun _ _ _ h => h) (by rfl) hHeld ?_ ?_
 rotate_left
 · (intro w0 hSw; (try dsimp only at hSw); obtain ⟨x1, x2, x3, x4⟩ := hSw; go_simp; try (with_reducible rfl))
 try simp only [Act.put, List.setIfInBounds_toArray, List.set_cons_zero, List.set_cons_succ]
 refine takeV (i := 2) (v := ?_) rfl (by kernel_rfl) (by kernel_rfl) (by kernel_rfl) (fun _ _ _ h => h) (by rfl) hHeld ?_ ?_
 rotate_left
 · (intro w0 hSw; (try dsimp only at hSw); obtain ⟨x1, x2, x3, x4⟩ := hSw; go_simp; try (with_reducible rfl))
 try simp only [Act.put, List.setIfInBounds_toArray, List.set_cons_zero, List.set_cons_succ]
 refine takeV (i := 3) (v := ?_) rfl (by kernel_rfl) (by kernel_rfl) (by kernel_rfl) (fun _ _ _ h => h) (by rfl) hHeld ?_ ?_
 rotate_left
 · (intro w0 hSw; (try dsimp only at hSw); obtain ⟨x1, x2, x3, x4⟩ := hSw; go_simp; try (with_reducible rfl))
 try simp only [Act.put, List.setIfInBounds_toArray, List.set_cons_zero, List.set_cons_succ]
 refine takeV (i := 4) (v := ?_) rfl (by kernel_rfl) (by kernel_rfl) (by kernel_rfl) (fun _ _ _ h => h) (by rfl) hHeld ?_ ?_
 rotate_left
 · (intro w0 hSw; (try dsimp only at hSw); obtain ⟨x1, x2, x3, x4⟩ := hSw; go_simp; try (with_reducible rfl))
 try simp only [Act.put, List.setIfInBounds_toArray, List.set_cons_zero, List.set_cons_succ]
 refine takeV (i := 5) (v := ?_) rfl (by kernel_rfl) (by kernel_rfl) (by kernel_rfl) (fun _ _ _ h => h) (by rfl) hHeld ?_ ?_
 rotate_left
 · (intro w0 hSw; (try dsimp only at hSw); obtain ⟨x1, x2, x3, x4⟩ := hSw; go_simp; try (with_reducible rfl))
 try simp only [Act.put, List.setIfInBounds_toArray, List.set_cons_zero, List.set_cons_succ]
 refine takeV (i := 6) (v := ?_) rfl (by kernel_rfl) (by kernel_rfl) (by kernel_rfl) (fun _ _ _ h => h) (by rfl) hHeld ?_ ?_
 rotate_left
 · (intro w0 hSw; (try dsimp only at hSw); obtain ⟨x1, x2, x3, x4⟩ := hSw; go_simp; try (with_reducible rfl))
 try simp only [Act.put, List.setIfInBounds_toArray, List.set_cons_zero, List.set_cons_succ]
 refine takeV (i := 7) (v := ?_) rfl (by kernel_rfl) (by kernel_rfl) (by kernel_rfl) (fun _ _ _ h => h) (by rfl) hHeld ?_ ?_
 rotate_left
 · (intro w0 hSw; (try dsimp only at hSw); obtain ⟨x1, x2, x3, x4⟩ := hSw; go_simp; try (with_reducible rfl))
 try simp only [Act.put, List.setIfInBounds_toArray, List.set_cons_zero, List.set_cons_succ]
 refine takeV (i := 8) (v := ?_) rfl (by kernel_rfl) (by kernel_rfl) (by kernel_rfl) (fun _ _ _ h => h) (by rfl) hHeld ?_ ?_
 rotate_left
 · (intro w0 hSw; (try dsimp only at hSw); obtain ⟨x1, x2, x3, x4⟩ := hSw; go_simp; try (with_reducible rfl))
 try simp only [Act.put, List.setIfInBounds_toArray, List.set_cons_zero, List.set_cons_succ]
 refine takeV (i := 9) (v := ?_) rfl (by kernel_rfl) (by kernel_rfl) (by kernel_rfl) (fun _ _ _ h => h) (by rfl) hHeld ?_ ?_
 rotate_left
 · (intro w0 hSw; (try dsimp only at hSw); obtain ⟨x1, x2, x3, x4⟩ := hSw; go_simp; try (with_reducible rfl))
 try simp only [Act.put, List.setIfInBounds_toArray, List.set_cons_zero, List.set_cons_succ]
 refine takeV (i := 10) (v := ?_) rfl (by kernel_rfl) (by kernel_rfl) (by kernel_rfl) (fun _ _ _ h => h) (by rfl) hHeld ?_ ?_
 rotate_left
 · (intro w0 hSw; (try dsimp only at hSw); obtain ⟨x1, x2, x3, x4⟩ := hSw; go_simp; try (with_reducible rfl))
 try simp only [Act.put, List.setIfInBounds_toArray, List.set_cons_zero, List.set_cons_succ]
 refine takeV (i := 11) (v := ?_) rfl (by kernel_rfl) (by kernel_rfl) (by kernel_rfl) (fun _ _ _ h => h) (by rfl) hHeld ?_ ?_
 rotate_left
 · (intro w0 hSw; (try dsimp only at hSw); obtain ⟨x1, x2, x3, x4⟩ := hSw; go_simp; try (with_reducible rfl))
 try simp only [Act.put, List.setIfInBounds_toArray, List.set_cons_zero, List.set_cons_succ]
 refine takeV (i := 12) (v := ?_) rfl (by kernel_rfl) (by kernel_rfl) (by kernel_rfl) (fun _ _ _ h => h) (by rfl) hHeld ?_ ?_
 rotate_left
 · (intro w0 hSw; (try dsimp only at hSw); obtain ⟨x1, x2, x3, x4⟩ := hSw; go_simp; try (with_reducible rfl))
 try simp only [Act.put, List.setIfInBounds_toArray, List.set_cons_zero, List.set_cons_succ]
 refine takeV (i := 13) (v := ?_) rfl (by kernel_rfl) (by kernel_rfl) (by kernel_rfl) (fun _ _ _ h => h) (by rfl) hHeld ?_ ?_
 rotate_left
 · (intro w0 hSw; (try dsimp only at hSw); obtain ⟨x1, x2, x3, x4⟩ := hSw; go_simp; try (with_reducible rfl))
 try simp only [Act.put, List.setIfInBounds_toArray, List.set_cons_zero, List.set_cons_succ]
 refine stepOne (i := 14) rfl (by kernel_rfl) (fun K hK => ?_)
 go_simp
 (go_at_call 97; refine (HF.out _ HV.out.v).mono ?_; rintro e9 w9 ⟨rfl, hb9⟩; have HV9 := vhide (HV.out.on HS.out hb9); have HD9 := HD.out.on (hb9.block _ HD.out.lt))
 go_wp2_with fail
 refine hK.out _ _ ⟨HV9.out.v.cells.2.1, HV9.out.v.cells.2.2.2.2.1, HD9.cell (j := 2) (by omega), HD9.cell (j := 3) (by omega)⟩ (fun hHeld => ?_)
 clear hK K
 try simp only [Act.put, List.setIfInBounds_toArray, List.set_cons_zero, List.set_cons_succ]
 refine stepOne (i := 15) rfl (by kernel_rfl) (fun K hK => ?_)
 go_simp
 (go_at_call 96; refine (HR.out _ HV9.out).mono ?_; rintro e8 w8 ⟨rfl, hv8, hk8⟩; have HV8 := vhide hv8; have HD8 := HD9.on (hk8.block _ HD9.lt (fun e => HN.out (by rw [<- e]))))
 go_wp2_with fail
 refine hK.out _ _ ⟨HV8.out.v.cells.2.1, HV8.out.v.cells.2.2.2.2.1, HD8.cell (j := 2) (by omega), HD8.cell (j := 3) (by omega)⟩ (fun hHeld => ?_)
 clear hK K
 try simp only [Act.put, List.setIfInBounds_toArray, List.set_cons_zero, List.set_cons_succ]
 refine takeV (i := 16) (v := ?_) rfl (by kernel_rfl) (by kernel_rfl) (by kernel_rfl) (fun _ _ _ h => h) (by rfl) hHeld ?_ ?_
 rotate_left
 · (intro w0 hSw; (try dsimp only at hSw); obtain ⟨x1, x2, x3, x4⟩ := hSw; go_simp; try (with_reducible rfl))
 try simp only [Act.put, List.setIfInBounds_toArray, List.set_cons_zero, List.set_cons_succ]
 refine wpAnyH_done (by kernel_rfl) ?_ _
 by_cases hX : X = 0
 · subst hX
   have c0 := HV8.out.v.cells.1
   clear HV HV9 HD HR HF HN' HD9 HD8 hHeld hk8 hv8 hb9
   go_wp2_with (first
    | (go_at_call 98; refine (HC.out _ rfl HV8.out).mono ?_; rintro e7 w7 ⟨rfl, hb⟩; have H7 := vhide hb; clear hb HC)
    | fail)
   go_ret
   exact ⟨rfl, H7.out⟩
 · have HM := vhide (HN'.out hX)
   have hX' : (X != 0) = true := by simp [hX]
   clear hX HC HR HF HN' HV HV9 HD
   go_wp2
   go_ret
   exact ⟨by rw [HM.out.1]; rfl, by rw [HM.out.2]; exact HV8.out⟩
end Pvmach
namespace Pvmach
open Pbase Pchold Pmst Ptint Go.RowKit
def gro (o : Nat -> Nat) (a b t : Nat) : Nat -> Nat := fun i => if a <= i /\ i < b then t else o i
theorem gro_old {o : Nat -> Nat} {a b t i : Nat} (h : i < a) : gro o a b t i = o i := by
 unfold gro
 rw [if_neg]
 omega
theorem gro_new {o : Nat -> Nat} {a b t i : Nat} (h : a <= i /\ i < b) : gro o a b t i = t := by
 unfold gro
 rw [if_pos h]
section
variable {w w' : World} {F G : Nat -> Prop}
theorem mono_clock {q N : Nat} {s : Pclock.CS} (h : Pvclock.RefIs w F q N s) (hF : ∀ i, F i -> i < w.heap.size -> G i) : Pvclock.RefIs w G q N s := by
 obtain ⟨r1, r2, r3, c1, c2, c3, h⟩ := h
 have e1 : r1 < w.heap.size := by
  obtain ⟨cur, e, _⟩ := h.l1
  exact (Array.getElem?_eq_some_iff.1 e).1
 have e2 : r2 < w.heap.size := by
  obtain ⟨cur, e, _⟩ := h.l2
  exact (Array.getElem?_eq_some_iff.1 e).1
 have e3 : r3 < w.heap.size := by
  obtain ⟨cur, e, _⟩ := h.l3
  exact (Array.getElem?_eq_some_iff.1 e).1
 exact ⟨r1, r2, r3, c1, c2, c3, hF q h.ge (Array.getElem?_eq_some_iff.1 h.head).1, h.head, h.l1, h.l2, h.l3, hF _ h.g1 e1, hF _ h.g2 e2, hF _ h.g3 e3, h.n12, h.n13, h.n23, h.ok⟩
theorem mono_typ {q N : Nat} {s : Nat -> Ptyp.FS} (h : Pvtyp.RefIs w F q N s) (hF : ∀ i, F i -> i < w.heap.size -> G i) : Pvtyp.RefIs w G q N s := by
 obtain ⟨r, c, h⟩ := h
 exact ⟨r, c, hF q h.ge h.lt, h.head, h.list, hF r h.ger h.list.lt, h.ok⟩
theorem mono_live {q N : Nat} {s : Nat -> Plive.LS} (h : Pvlive.RefIs w F q N s) (hF : ∀ i, F i -> i < w.heap.size -> G i) : Pvlive.RefIs w G q N s := by
 obtain ⟨r, c, h⟩ := h
 have e1 : r < w.heap.size := by
  obtain ⟨cur, e, _⟩ := h.list
  exact (Array.getElem?_eq_some_iff.1 e).1
 exact ⟨r, c, hF q h.ge h.lt, h.head, h.list, hF r h.ger e1, h.ok⟩
theorem mono_lines {q : Nat} {s : Nat -> Int} (h : Pvhw.RefL w F q s) (hF : ∀ i, F i -> i < w.heap.size -> G i) : Pvhw.RefL w G q s := by
 obtain ⟨r, c, h⟩ := h
 exact ⟨r, c, hF q h.ge h.lt, hF r h.gr h.list.lt, h.head, h.list⟩
theorem mono_regs {q : Nat} {s : Nat -> Int} (h : Pvregs.RefIs w F q s) (hF : ∀ i, F i -> i < w.heap.size -> G i) : Pvregs.RefIs w G q s := by
 obtain ⟨r, c, h⟩ := h
 exact ⟨r, c, hF q h.ge h.lt, h.head, h.list, hF r h.gb h.list.lt⟩
theorem mono_tlb {p cap : Nat} {room : Int} {ao : Option Addr} {S : List Ptlb.En} (h : Pvtlb.RefIs F w p room ao cap S) (hF : ∀ i, F i -> i < w.heap.size -> G i) : Pvtlb.RefIs G w p room ao cap S := by
 refine ⟨h.row, hF p h.ge h.lt, h.capn, ?_⟩
 rcases h.held with h0 | ⟨g, off, cur, e, hb, hr, hc⟩
 · exact .inl h0
 · exact .inr ⟨g, off, cur, e, hF g hb (Array.getElem?_eq_some_iff.1 hr).1, hr, hc⟩
theorem mono_mem {p N B T : Nat} {M : Nat -> Nat -> Int} (h : Pvmem.RefM w F p N B T M) (hF : ∀ i, F i -> i < w.heap.size -> G i) : Pvmem.RefM w G p N B T M :=
 ⟨h.ref, h.top, fun i h1 h2 => hF i (h.col i h1 h2) (Nat.lt_of_lt_of_le h2 h.top.1)⟩
end
theorem ownsRow_at {w w' : World} {base : Nat} {e : TypeId} {size : Nat} {v : Value} {n : Nat} {xs : List Value} (h : w.ownsRow base e size v n xs) (hk : ∀ b, v.ownBlock = some b -> b < w.heap.size -> w'.heap[b]? = w.heap[b]?) : w'.ownsRow base e size v n xs := by
 refine ⟨h.1, or_right h.2 ?_⟩
 rintro ⟨g, cap, cur, hv, hg, hh, r⟩
 exact ⟨g, cap, cur, hv, hg, (hk g (by rw [hv]; rfl) (Array.getElem?_eq_some_iff.1 hh).1).trans hh, r⟩
theorem ownsRow_succV {w : World} {base : Nat} {e : TypeId} {size : Nat} {v : Value} {n : Nat} {xs : List Value} (h : w.ownsRow base e size v (n + 1) xs) : ∃ g cap, v = .slice (some ⟨g, 0, none⟩) (n + 1) cap := by
 rcases h.2 with ⟨_, e⟩ | ⟨g, cap, _, e, _⟩
 · cases e
 · exact ⟨g, cap, e⟩
theorem cells_newV (w : World) (xs : List Value) (t : TypeId) : ∀ j u, xs[j]? = some u -> (w.alloc (.cells xs.toArray t)).cell? ((⟨w.heap.size, 0, none⟩ : Addr).add j) = some u := by
 intro j u hj
 rw [Addr.add_lit, Nat.zero_add, World.cell?_alloc_new, <- hj]
 simp
def DV (i : Nat) : Bool := i == 2 || i == 3 || i == 7
theorem DV_iff (i : Nat) : DV i = true -> i = 2 \/ i = 3 \/ i = 7 := by
 unfold DV
 simp only [Bool.or_eq_true, beq_iff_eq]
 omega
def etV (i : Nat) : TypeId := if i = 2 then 250 else if i = 3 then 253 else 3
def entV (P : Pl) (i j : Nat) : Value := if i = 2 then .pointer (some ⟨P.a j, 0, none⟩) else if i = 3 then .pointer (some ⟨P.b j, 0, none⟩) else .int .i64 (-1)
def colV (i : Nat) : Nat := if i = 2 then 7 else if i = 3 then 8 else 6
theorem colV_ne {i j : Nat} (hi : DV i = true) (hj : DV j = true) (h : j ≠ i) : colV j ≠ colV i := by
 rcases DV_iff i hi with rfl | rfl | rfl <;> rcases DV_iff j hj with rfl | rfl | rfl <;> simp_all [colV]
theorem colV_is (i : Nat) : colV i = 6 \/ colV i = 7 \/ colV i = 8 := by
 unfold colV
 split
 · omega
 · split <;> omega
structure Vg (w0 w : World) (q D : Nat) (o : Nat -> Nat) (P : Pl) (N n : Nat) (Q room : Int) (g : Nat) (cs : Nat -> Value) (k : Nat -> Nat) (mt mr : Nat) : Prop where
 head : ∃ cur : Array Value, w.heap[q]? = some (.cells cur 149 (0, 0)) /\ cur.size = 8 /\ ∀ j, j < 8 -> cur[j]? = some (cs j)
 hq : o q = 0
 box : w.heap[D]? = some (.cells #[.int .i64 N, .int .i64 n, .int .i64 Q, .int .i64 room] 131 (0, 0))
 hD : 17 < o D
 own : ∀ i, o i <= 17 -> i < w.heap.size /\ w0.heap.size <= i
 below : Below w0.heap.size w0 w
 live : Pvlive.RefIs w (fun i => o i = 4) P.pl 64 fun _ => Plive.noLS
 lines : Pvhw.RefL w (fun i => o i = 5) P.ph fun _ => 0
 mem : 1 <= g -> Pvmem.RefM w (fun i => o i = 1) P.pm N P.bm P.tm fun _ _ => 0
 clock : 2 <= g -> Pvclock.RefIs w (fun i => o i = 2) P.pc n (Pclock.newS n)
 typ : 3 <= g -> Pvtyp.RefIs w (fun i => o i = 3) P.pt N fun _ => Ptyp.noFS
 c5 : cs 5 = .pointer (some ⟨P.pl, 0, none⟩)
 c6 : cs 6 = .pointer (some ⟨P.ph, 0, none⟩)
 c0 : 4 <= g -> cs 0 = .pointer (some ⟨P.pm, 0, none⟩)
 c1 : 5 <= g -> cs 1 = .pointer (some ⟨P.pc, 0, none⟩)
 c4 : 6 <= g -> cs 4 = .pointer (some ⟨P.pt, 0, none⟩)
 owns : ∀ i, DV i = true -> w.ownsRow (q + 1) (etV i) 1 (cs i) (k i) ((List.range (k i)).map (entV P i))
 hue : ∀ i b, DV i = true -> (cs i).ownBlock = some b -> o b = colV i
 tlb : ∀ j, j < mt -> ∃ ao cap, Pvtlb.RefIs (fun i => o i = 9 + 2 * j) w (P.a j) room ao cap []
 regs : ∀ j, j < mr -> Pvregs.RefIs w (fun i => o i = 10 + 2 * j) (P.b j) fun _ => 0
 m4 : mt <= 4 /\ mr <= 4
section
variable {w0 w w' : World} {q D : Nat} {o : Nat -> Nat} {P : Pl} {N n : Nat} {Q room : Int} {g : Nat} {cs : Nat -> Value} {k : Nat -> Nat} {mt mr : Nat}
theorem Vg.lt (h : Vg w0 w q D o P N n Q room g cs k mt mr) : q < w.heap.size := (h.own q (by rw [h.hq]; omega)).1
theorem Vg.cell (h : Vg w0 w q D o P N n Q room g cs k mt mr) {j : Nat} (hj : j < 8) : w.cell? ⟨q, j, none⟩ = some (cs j) /\ w.frozen? ⟨q, j, none⟩ = false := by
 obtain ⟨cur, h1, _, h2⟩ := h.head
 exact ⟨by rw [cell_of_row w q j _ _ _ h1]; exact h2 j hj, frozen_of_row w q j _ _ h1⟩
theorem Vg.cfg (h : Vg w0 w q D o P N n Q room g cs k mt mr) : w.cell? ⟨D, 0, none⟩ = some (.int .i64 N) /\ w.cell? ⟨D, 1, none⟩ = some (.int .i64 n) /\ w.cell? ⟨D, 2, none⟩ = some (.int .i64 Q) /\ w.cell? ⟨D, 3, none⟩ = some (.int .i64 room) := by
 refine ⟨?_, ?_, ?_, ?_⟩ <;> rw [cell_of_row w D _ _ _ _ h.box] <;> rfl
theorem Vg.keep {o' : Nat -> Nat} (h : Vg w0 w q D o P N n Q room g cs k mt mr) (hs : w.heap.size <= w'.heap.size) (hB : Below w0.heap.size w0 w') (hk : ∀ i, i < w.heap.size -> w'.heap[i]? = w.heap[i]?)
 (ho : ∀ i, i < w.heap.size -> o' i = o i) (hn : ∀ i, w.heap.size <= i -> o' i <= 17 -> i < w'.heap.size) : Vg w0 w' q D o' P N n Q room g cs k mt mr where
 head := by
  obtain ⟨cur, h1, h2⟩ := h.head
  exact ⟨cur, (hk q h.lt).trans h1, h2⟩
 hq := (ho q h.lt).trans h.hq
 box := (hk D (Array.getElem?_eq_some_iff.1 h.box).1).trans h.box
 hD := by rw [ho D (Array.getElem?_eq_some_iff.1 h.box).1]; exact h.hD
 own := fun i hi => by
  by_cases e : i < w.heap.size
  · rw [ho i e] at hi
    exact ⟨Nat.lt_of_lt_of_le e hs, (h.own i hi).2⟩
  · exact ⟨hn i (by omega) hi, Nat.le_trans h.below.size (by omega)⟩
 below := hB
 live := mono_live (h.live.on fun i _ e => hk i e) fun i e _ => by
  by_cases hi : i < w.heap.size
  · exact (ho i hi).trans e
  · exact absurd (h.own i (by omega)).1 hi
 lines := mono_lines (lines_on h.lines fun i _ e => hk i e) fun i e _ => (ho i (h.own i (by omega)).1).trans e
 mem := fun e0 => mono_mem ((h.mem e0).on hs fun i _ e => hk i e) fun i e _ => (ho i (h.own i (by omega)).1).trans e
 clock := fun e0 => mono_clock ((h.clock e0).on fun i _ e => hk i e) fun i e _ => (ho i (h.own i (by omega)).1).trans e
 typ := fun e0 => mono_typ ((h.typ e0).on fun i _ e => hk i e) fun i e _ => (ho i (h.own i (by omega)).1).trans e
 c5 := h.c5
 c6 := h.c6
 c0 := h.c0
 c1 := h.c1
 c4 := h.c4
 owns := fun i hi => ownsRow_at (h.owns i hi) fun b _ e => hk b e
 hue := fun i b hi e => by
  have := h.hue i b hi e
  exact (ho b (((h.owns i hi).lt b e).2)).trans this
 tlb := fun j hj => by
  obtain ⟨ao, cap, h1⟩ := h.tlb j hj
  have := h.m4
  exact ⟨ao, cap, mono_tlb (tlb_on h1 fun i _ e => hk i e) fun i e _ => (ho i (h.own i (by omega)).1).trans e⟩
 regs := fun j hj => by
  have := h.m4
  exact mono_regs ((h.regs j hj).on fun i _ e => hk i e) fun i e _ => (ho i (h.own i (by omega)).1).trans e
 m4 := h.m4
theorem Vg.on (h : Vg w0 w q D o P N n Q room g cs k mt mr) (hB : Below w.heap.size w w') : Vg w0 w' q D o P N n Q room g cs k mt mr :=
 h.keep hB.size (h.below.trans (hB.mono h.below.size)) (fun i hi => hB.block i hi) (fun _ _ => rfl) fun i h1 h2 => absurd (h.own i h2).1 (by omega)
theorem Vg.grow (h : Vg w0 w q D o P N n Q room g cs k mt mr) (hB : Below w.heap.size w w') (t : Nat) : Vg w0 w' q D (gro o w.heap.size w'.heap.size t) P N n Q room g cs k mt mr :=
 h.keep hB.size (h.below.trans (hB.mono h.below.size)) (fun i hi => hB.block i hi) (fun i hi => gro_old hi) fun i h1 h2 => by
  by_cases e : i < w'.heap.size
  · exact e
  · exfalso
    have : gro o w.heap.size w'.heap.size t i = o i := by unfold gro; rw [if_neg]; omega
    rw [this] at h2
    have := (h.own i h2).1
    omega
theorem gro_in {a b t : Nat} : ∀ i, a <= i -> i < b -> gro o a b t i = t := fun i h1 h2 => gro_new ⟨h1, h2⟩
theorem Vg.putM (h : Vg w0 w q D o P N n Q room 0 cs k mt mr) (hN : 1 <= N) (hR : Pmem.RefIs w' w.heap.size w.heap.size N fun _ _ => 0) (hB : Below w.heap.size w w') :
 ∃ o' P', Vg w0 w' q D o' P' N n Q room 1 cs k mt mr /\ P'.pm = w.heap.size := by
 have k1 := h.grow hB 1
 refine ⟨_, { P with pm := w.heap.size, bm := w.heap.size, tm := w'.heap.size }, { k1 with mem := fun _ => Pvmem.RefM.made hR hN gro_in, clock := fun e => absurd e (by omega), typ := fun e => absurd e (by omega), c0 := fun e => absurd e (by omega), c1 := fun e => absurd e (by omega), c4 := fun e => absurd e (by omega) }, rfl⟩
theorem Vg.putC (h : Vg w0 w q D o P N n Q room 1 cs k mt mr) (hR : Pvclock.RefIs w' (fun i => w.heap.size <= i) w.heap.size n (Pclock.newS n)) (hB : Below w.heap.size w w') :
 ∃ o' P', Vg w0 w' q D o' P' N n Q room 2 cs k mt mr /\ P'.pm = P.pm /\ P'.pc = w.heap.size := by
 have k1 := h.grow hB 2
 refine ⟨_, { P with pc := w.heap.size }, { k1 with mem := fun _ => k1.mem (by omega), clock := fun _ => mono_clock hR gro_in, typ := fun e => absurd e (by omega), c0 := fun e => absurd e (by omega), c1 := fun e => absurd e (by omega), c4 := fun e => absurd e (by omega) }, rfl, rfl⟩
theorem Vg.putT (h : Vg w0 w q D o P N n Q room 2 cs k mt mr) (hR : Pvtyp.RefIs w' (fun i => w.heap.size <= i) w.heap.size N fun _ => Ptyp.noFS) (hB : Below w.heap.size w w') :
 ∃ o' P', Vg w0 w' q D o' P' N n Q room 3 cs k mt mr /\ P'.pm = P.pm /\ P'.pc = P.pc /\ P'.pt = w.heap.size := by
 have k1 := h.grow hB 3
 refine ⟨_, { P with pt := w.heap.size }, { k1 with mem := fun _ => k1.mem (by omega), clock := fun _ => k1.clock (by omega), typ := fun _ => mono_typ hR gro_in, c0 := fun e => absurd e (by omega), c1 := fun e => absurd e (by omega), c4 := fun e => absurd e (by omega) }, rfl, rfl, rfl⟩
theorem Vg.putK (h : Vg w0 w q D o P N n Q room g cs k mt mr) (h4 : mt < 4) (hk : k 2 <= mt) (hR : ∀ F : Nat -> Prop, F w.heap.size -> Pvtlb.RefIs F w' w.heap.size room none 0 []) (hB : Below w.heap.size w w') :
 ∃ o' P', Vg w0 w' q D o' P' N n Q room g cs k (mt + 1) mr /\ P'.a mt = w.heap.size := by
 have k1 := h.grow hB (9 + 2 * mt)
 have hs : w.heap.size < w'.heap.size := (hR (fun _ => True) trivial).lt
 refine ⟨_, { P with a := fun j => if j = mt then w.heap.size else P.a j }, { k1 with owns := fun i hi => ?_, tlb := fun j hj => ?_, m4 := ⟨by omega, h.m4.2⟩ }, by simp⟩
 · have e := k1.owns i hi
   rw [show (List.range (k i)).map (entV { P with a := fun j => if j = mt then w.heap.size else P.a j } i) = (List.range (k i)).map (entV P i) from List.map_congr_left fun j hj => ?_]
   · exact e
   · have hj' := List.mem_range.1 hj
     unfold entV
     by_cases e2 : i = 2
     · subst e2
       rw [if_pos rfl, if_pos rfl]
       dsimp only
       rw [if_neg (by omega)]
     · rw [if_neg e2, if_neg e2]
 · dsimp only
   by_cases e : j = mt
   · subst e
     rw [if_pos rfl]
     exact ⟨none, 0, hR _ (gro_new ⟨Nat.le_refl _, hs⟩)⟩
   · rw [if_neg e]
     exact k1.tlb j (by omega)
theorem Vg.putR (h : Vg w0 w q D o P N n Q room g cs k mt mr) (h4 : mr < 4) (hk : k 3 <= mr) (hR : Pvregs.RefIs w' (fun i => w.heap.size <= i) w.heap.size fun _ => 0) (hB : Below w.heap.size w w') :
 ∃ o' P', Vg w0 w' q D o' P' N n Q room g cs k mt (mr + 1) /\ P'.b mr = w.heap.size := by
 have k1 := h.grow hB (10 + 2 * mr)
 refine ⟨_, { P with b := fun j => if j = mr then w.heap.size else P.b j }, { k1 with owns := fun i hi => ?_, regs := fun j hj => ?_, m4 := ⟨h.m4.1, by omega⟩ }, by simp⟩
 · have e := k1.owns i hi
   rw [show (List.range (k i)).map (entV { P with b := fun j => if j = mr then w.heap.size else P.b j } i) = (List.range (k i)).map (entV P i) from List.map_congr_left fun j hj => ?_]
   · exact e
   · have hj' := List.mem_range.1 hj
     unfold entV
     by_cases e2 : i = 2
     · rw [if_pos e2, if_pos e2]
     · rw [if_neg e2, if_neg e2]
       by_cases e3 : i = 3
       · subst e3
         rw [if_pos rfl, if_pos rfl]
         dsimp only
         rw [if_neg (by omega)]
       · rw [if_neg e3, if_neg e3]
 · dsimp only
   by_cases e : j = mr
   · subst e
     rw [if_pos rfl]
     exact mono_regs hR gro_in
   · rw [if_neg e]
     exact k1.regs j (by omega)
theorem Vg.set (h : Vg w0 w q D o P N n Q room g cs k mt mr) {i : Nat} (hi : i < 8) (hd : DV i = false) (v : Value) {g' : Nat} (hg : 3 <= g) (e5 : i ≠ 5) (e6 : i ≠ 6)
 (d0 : 4 <= g' -> (if 0 = i then v else cs 0) = .pointer (some ⟨P.pm, 0, none⟩)) (d1 : 5 <= g' -> (if 1 = i then v else cs 1) = .pointer (some ⟨P.pc, 0, none⟩)) (d4 : 6 <= g' -> (if 4 = i then v else cs 4) = .pointer (some ⟨P.pt, 0, none⟩)) :
 Vg w0 (w.setCell ⟨q, i, none⟩ v) q D o P N n Q room g' (fun j => if j = i then v else cs j) k mt mr := by
 have key : ∀ t, t ≠ 0 -> ∀ b, o b = t -> b < w.heap.size -> (w.setCell ⟨q, i, none⟩ v).heap[b]? = w.heap[b]? := fun t ht b e _ => heap_setCell_other _ _ _ _ (by
  show b ≠ q
  rintro rfl
  exact ht (e.symm.trans h.hq))
 have hz : (w.setCell ⟨q, i, none⟩ v).heap.size = w.heap.size := World.size_setCell ..
 obtain ⟨cur, h1, h2, h3⟩ := h.head
 exact {
  head := ⟨cur.setIfInBounds i v, heap_setCell_same w q i _ _ v h1, by simpa using h2, fun j hj => by
   rw [Array.getElem?_setIfInBounds]
   by_cases e : i = j
   · subst e
     simp [h2, hi]
   · rw [if_neg e, h3 j hj]
     simp [Ne.symm e]⟩
  hq := h.hq
  box := (heap_setCell_other _ _ _ _ (by
   show D ≠ q
   rintro rfl
   have := h.hD
   rw [h.hq] at this
   omega)).trans h.box
  hD := h.hD
  own := fun b e => by rw [hz]; exact h.own b e
  below := h.below.setCell (h.own q (by rw [h.hq]; omega)).2 _
  live := h.live.on (key 4 (by omega))
  lines := lines_on h.lines (key 5 (by omega))
  mem := fun e => (h.mem (by omega)).on (Nat.le_of_eq hz.symm) (key 1 (by omega))
  clock := fun e => (h.clock (by omega)).on (key 2 (by omega))
  typ := fun e => (h.typ (by omega)).on (key 3 (by omega))
  c5 := by rw [if_neg (Ne.symm e5)]; exact h.c5
  c6 := by rw [if_neg (Ne.symm e6)]; exact h.c6
  c0 := d0
  c1 := d1
  c4 := d4
  owns := fun j hj => by
   have e : j ≠ i := fun e => by rw [e, hd] at hj; cases hj
   rw [if_neg e]
   exact ownsRow_at (h.owns j hj) fun b hb e2 => key (colV j) (by have := colV_is j; omega) b (h.hue j b hj hb) e2
  hue := fun j b hj hb => by
   have e : j ≠ i := fun e => by rw [e, hd] at hj; cases hj
   rw [if_neg e] at hb
   exact h.hue j b hj hb
  tlb := fun j hj => by
   obtain ⟨ao, cap, h1⟩ := h.tlb j hj
   exact ⟨ao, cap, tlb_on h1 (key _ (by omega))⟩
  regs := fun j hj => (h.regs j hj).on (key _ (by omega))
  m4 := h.m4 }
theorem Vg.step (h : Vg w0 w q D o P N n Q room g cs k mt mr) {i : Nat} (hi : DV i = true) {w1 : World} {ob : Obj} {v' e : Value} (he : entV P i (k i) = e)
 (hown : w1.ownsRow (q + 1) (etV i) 1 v' (k i + 1) ((List.range (k i)).map (entV P i) ++ [e])) (hg : (w.alloc ob).grownBy w1 (cs i).ownBlock) (hat : v'.ownBlock = (cs i).ownBlock \/ v'.ownBlock = some (w.alloc ob).heap.size) :
 w1.cell? ⟨q, i, none⟩ = some (cs i) /\ w1.frozen? ⟨q, i, none⟩ = false /\ ∃ o', Vg w0 (w1.setCell ⟨q, i, none⟩ v') q D o' P N n Q room g (fun j => if j = i then v' else cs j) (fun j => if j = i then k j + 1 else k j) mt mr := by
 obtain ⟨cur, h1, h2, h3⟩ := h.head
 have hc := colV_is i
 have hi8 : i < 8 := by rcases DV_iff i hi with rfl | rfl | rfl <;> omega
 have hz1 : w.heap.size < w1.heap.size := Nat.lt_of_lt_of_le (by simp) hg.size
 have hz : (w1.setCell ⟨q, i, none⟩ v').heap.size = w1.heap.size := World.size_setCell ..
 have k1 : ∀ b, o b ≠ colV i -> b < w.heap.size -> w1.heap[b]? = w.heap[b]? := fun b hb hl =>
  (hg.block b (by simp; omega) fun e2 => hb (h.hue i b hi e2.symm)).trans ((bal (Below.refl _ w) ob).block b hl)
 have hhead : w1.heap[q]? = some (.cells cur 149 (0, 0)) := (k1 q (by rw [h.hq]; omega) h.lt).trans h1
 have k2 : ∀ b, o b ≠ colV i -> o b ≠ 0 -> b < w.heap.size -> (w1.setCell ⟨q, i, none⟩ v').heap[b]? = w.heap[b]? := fun b hb h0 hl => (heap_setCell_other _ _ _ _ (by
  show b ≠ q
  rintro rfl
  exact h0 h.hq)).trans (k1 b hb hl)
 have key : ∀ t, t ≠ 0 -> t ≠ colV i -> ∀ b, o b = t -> b < w.heap.size -> (w1.setCell ⟨q, i, none⟩ v').heap[b]? = w.heap[b]? := fun t h0 ht b e hl => k2 b (by rw [e]; exact ht) (by rw [e]; exact h0) hl
 have up : ∀ t, t <= 17 -> ∀ b, o b = t -> b < (w1.setCell ⟨q, i, none⟩ v').heap.size -> gro o w.heap.size w1.heap.size (colV i) b = t := fun t ht b e _ => (gro_old (h.own b (by omega)).1).trans e
 have hDl : D < w.heap.size := (Array.getElem?_eq_some_iff.1 h.box).1
 have hb1 : Below w0.heap.size w w1 := ((Below.refl _ w).alloc h.below.size ob).grown hg (by have := h.below.size; simp; omega) fun b e => (h.own b (by rw [h.hue i b hi e]; omega)).2
 refine ⟨by rw [cell_of_row w1 q i _ _ _ hhead]; exact h3 i hi8, frozen_of_row w1 q i _ _ hhead, gro o w.heap.size w1.heap.size (colV i), {
  head := ⟨cur.setIfInBounds i v', heap_setCell_same w1 q i _ _ v' hhead, by simpa using h2, fun j hj => by
   rw [Array.getElem?_setIfInBounds]
   by_cases e : i = j
   · subst e
     simp [h2, hi8]
   · rw [if_neg e, h3 j hj]
     simp [Ne.symm e]⟩
  hq := (gro_old h.lt).trans h.hq
  box := (k2 D (by have := h.hD; omega) (by have := h.hD; omega) hDl).trans h.box
  hD := by rw [gro_old hDl]; exact h.hD
  own := fun b e => by
   rw [hz]
   by_cases hb : b < w.heap.size
   · rw [gro_old hb] at e
     exact ⟨by omega, (h.own b e).2⟩
   · by_cases hb2 : b < w1.heap.size
     · have := h.below.size
       exact ⟨hb2, by omega⟩
     · exfalso
       have : gro o w.heap.size w1.heap.size (colV i) b = o b := by unfold gro; rw [if_neg]; omega
       rw [this] at e
       exact hb (h.own b e).1
  below := (h.below.trans hb1).setCell (h.own q (by rw [h.hq]; omega)).2 _
  live := mono_live (h.live.on (key 4 (by omega) (by omega))) (up 4 (by omega))
  lines := mono_lines (lines_on h.lines (key 5 (by omega) (by omega))) (up 5 (by omega))
  mem := fun e => mono_mem ((h.mem e).on (by omega) (key 1 (by omega) (by omega))) (up 1 (by omega))
  clock := fun e => mono_clock ((h.clock e).on (key 2 (by omega) (by omega))) (up 2 (by omega))
  typ := fun e => mono_typ ((h.typ e).on (key 3 (by omega) (by omega))) (up 3 (by omega))
  c5 := by rw [if_neg (by rintro rfl; cases hi)]; exact h.c5
  c6 := by rw [if_neg (by rintro rfl; cases hi)]; exact h.c6
  c0 := by rw [if_neg (by rintro rfl; cases hi)]; exact h.c0
  c1 := by rw [if_neg (by rintro rfl; cases hi)]; exact h.c1
  c4 := by rw [if_neg (by rintro rfl; cases hi)]; exact h.c4
  owns := fun j hj => by
   by_cases e2 : j = i
   · subst e2
     rw [if_pos rfl, if_pos rfl, List.range_succ, List.map_append, List.map_singleton, he]
     exact ownsRow_at hown fun b hb _ => heap_setCell_other _ _ _ _ (by
      show b ≠ q
      have := (hown.lt b hb).1
      omega)
   · rw [if_neg e2, if_neg e2]
     have := colV_is j
     exact ownsRow_at (h.owns j hj) fun b hb e3 => key (colV j) (by omega) (colV_ne hi hj e2) b (h.hue j b hj hb) e3
  hue := fun j b hj hb => by
   by_cases e2 : j = i
   · subst e2
     rw [if_pos rfl] at hb
     rcases hat with e3 | e3
     · rw [e3] at hb
       have := ((h.owns j hj).lt b hb).2
       exact (gro_old this).trans (h.hue j b hj hb)
     · rw [e3] at hb
       have h4 := (hown.lt b (e3.trans hb)).2
       simp only [Option.some.injEq, World.size_alloc] at hb
       exact gro_new ⟨by omega, h4⟩
   · rw [if_neg e2] at hb
     exact (gro_old ((h.owns j hj).lt b hb).2).trans (h.hue j b hj hb)
  tlb := fun j hj => by
   obtain ⟨ao, cap, h1⟩ := h.tlb j hj
   have := h.m4
   exact ⟨ao, cap, mono_tlb (tlb_on h1 (key _ (by omega) (by omega))) (up _ (by omega))⟩
  regs := fun j hj => by
   have := h.m4
   exact mono_regs ((h.regs j hj).on (key _ (by omega) (by omega))) (up _ (by omega))
  m4 := h.m4 }⟩
theorem Vg.count {k' : Nat -> Nat} (h : Vg w0 w q D o P N n Q room g cs k mt mr) (e : ∀ i, DV i = true -> k i = k' i) : Vg w0 w q D o P N n Q room g cs k' mt mr :=
 { h with owns := fun i hi => by rw [<- e i hi]; exact h.owns i hi }
theorem owned_lst {w : World} {base n : Nat} {t : TypeId} {v : Value} {f : Nat -> Value} (h : w.ownsRow base t 1 v n ((List.range n).map f)) (hn : 1 <= n) : ∃ g cap, v = .slice (some ⟨g, 0, none⟩) n cap /\ Lst w g t n f := by
 rcases h.2 with ⟨_, e⟩ | ⟨g, cap, cur, e, hg, hh, _, _, _, ht⟩
 · omega
 · refine ⟨g, cap, e, cur, hh, fun j hj => ?_⟩
   have := congrArg (fun l => l[j]?) ht
   simp only [Nat.mul_one, List.getElem?_take, hj, if_true, Array.getElem?_toList, List.getElem?_map, List.getElem?_range hj, Option.map_some] at this
   exact this
theorem Vg.done (h : Vg w0 w q D o P N n Q room 6 cs (fun _ => n) n n) (hn : 1 <= n) : ∃ P', VIs w q o P' (nwS N n room) := by
 obtain ⟨t1, t2, t3, t4⟩ := owned_lst (h.owns 2 rfl) hn
 obtain ⟨r1, r2, r3, r4⟩ := owned_lst (h.owns 3 rfl) hn
 obtain ⟨u1, u2, u3, u4⟩ := owned_lst (h.owns 7 rfl) hn
 refine ⟨{ P with tl := t1, ct := t2, rl := r1, cr := r2, ul := u1, cu := u2 }, ?_, h.hq, fun i e => (h.own i e).1, h.mem (by omega), h.clock (by omega), h.typ (by omega), h.live, h.lines, u4, ?_, t4, ?_, r4, ?_, h.tlb, h.regs⟩
 · obtain ⟨cur, h1, h2, h3⟩ := h.head
   rw [h1]
   congr 2
   apply Array.ext
   · rw [h2]
     rfl
   · intro j hj _
     have e := h3 j (by omega)
     rw [Array.getElem?_eq_getElem hj] at e
     rw [Option.some.inj e]
     have c0 := h.c0 (by omega)
     have c1 := h.c1 (by omega)
     have c4 := h.c4 (by omega)
     rcases (show j = 0 \/ j = 1 \/ j = 2 \/ j = 3 \/ j = 4 \/ j = 5 \/ j = 6 \/ j = 7 by omega) with rfl | rfl | rfl | rfl | rfl | rfl | rfl | rfl
     · exact c0
     · exact c1
     · exact t3
     · exact r3
     · exact c4
     · exact h.c5
     · exact h.c6
     · exact u3
 · exact h.hue 7 u1 rfl (by rw [u3]; rfl)
 · exact h.hue 2 t1 rfl (by rw [t3]; rfl)
 · exact h.hue 3 r1 rfl (by rw [r3]; rfl)
end
theorem vg_new {w0 w2 w3 w4 : World} {D N n : Nat} {Q room : Int} (hD : w2.heap[D]? = some (.cells #[.int .i64 N, .int .i64 n, .int .i64 Q, .int .i64 room] 131 (0, 0))) (h0 : Below w0.heap.size w0 w2)
 (h3 : Below w2.heap.size w2 w3) (hl : Pvlive.RefIs w3 (fun i => w2.heap.size <= i) w2.heap.size 64 fun _ => Plive.noLS) (h4 : Below w3.heap.size w3 w4) (hh : Pvhw.RefL w4 (fun i => w3.heap.size <= i) w3.heap.size fun _ => 0) :
 ∃ o P cs, Vg w0 (w4.alloc (.cells #[.pointer none, .pointer none, .slice none 0 0, .slice none 0 0, .pointer none, .pointer (some ⟨w2.heap.size, 0, none⟩), .pointer (some ⟨w3.heap.size, 0, none⟩), .slice none 0 0] 149)) w4.heap.size D o P N n Q room 0 cs (fun _ => 0) 0 0 := by
 have hDl : D < w2.heap.size := (Array.getElem?_eq_some_iff.1 hD).1
 have s0 := h0.size
 have s3 := h3.size
 have s4 := h4.size
 have hb := bal (Below.refl w4.heap.size w4) (.cells #[.pointer none, .pointer none, .slice none 0 0, .slice none 0 0, .pointer none, .pointer (some ⟨w2.heap.size, 0, none⟩), .pointer (some ⟨w3.heap.size, 0, none⟩), .slice none 0 0] 149)
 refine ⟨fun i => if i = w4.heap.size then 0 else if i < w2.heap.size \/ w4.heap.size < i then 18 else if i < w3.heap.size then 4 else 5, ⟨0, 0, 0, 0, 0, w2.heap.size, w3.heap.size, 0, 0, 0, 0, 0, 0, fun _ => 0, fun _ => 0⟩, fun j => (#[.pointer none, .pointer none, .slice none 0 0, .slice none 0 0, .pointer none, .pointer (some ⟨w2.heap.size, 0, none⟩), .pointer (some ⟨w3.heap.size, 0, none⟩), .slice none 0 0] : Array Value)[j]?.getD (.pointer none), ?_⟩
 refine ⟨⟨_, heap_alloc_new _ _, rfl, fun j hj => ?_⟩, by simp, ?_, ?_, fun i hi => ?_, ?_, ?_, ?_, fun e => absurd e (by omega), fun e => absurd e (by omega), fun e => absurd e (by omega), rfl, rfl, fun e => absurd e (by omega), fun e => absurd e (by omega), fun e => absurd e (by omega), fun i hi => ?_, fun i b hi e => ?_, fun j hj => absurd hj (by omega), fun j hj => absurd hj (by omega), by omega⟩
 · rcases (show j = 0 \/ j = 1 \/ j = 2 \/ j = 3 \/ j = 4 \/ j = 5 \/ j = 6 \/ j = 7 by omega) with rfl | rfl | rfl | rfl | rfl | rfl | rfl | rfl <;> rfl
 · exact (hb.block D (by omega)).trans ((h4.block D (by omega)).trans ((h3.block D hDl).trans hD))
 · show 17 < (if D = w4.heap.size then 0 else if D < w2.heap.size \/ w4.heap.size < D then 18 else if D < w3.heap.size then 4 else 5)
   rw [if_neg (by omega), if_pos (by omega)]
   omega
 · try dsimp only at hi
   split at hi
   · simp
     omega
   · split at hi
     · omega
     · simp
       omega
 · exact ((h0.trans (h3.mono (by omega))).trans (h4.mono (by omega))).trans (hb.mono (by omega))
 · have := mono_live hl (G := fun i => w2.heap.size <= i /\ i < w3.heap.size) fun i e1 e2 => ⟨e1, e2⟩
   refine mono_live ((this.on fun i _ e => h4.block i e).on fun i e _ => hb.block i (by omega)) fun i e _ => ?_
   try dsimp only
   rw [if_neg (by omega), if_neg (by omega), if_pos e.2]
 · have := mono_lines hh (G := fun i => w3.heap.size <= i /\ i < w4.heap.size) fun i e1 e2 => ⟨e1, e2⟩
   refine mono_lines (lines_on this fun i e _ => hb.block i e.2) fun i e _ => ?_
   try dsimp only
   rw [if_neg (by omega), if_neg (by omega), if_neg (by omega)]
 · refine ⟨by simp, .inl ⟨?_, rfl⟩⟩
   rcases DV_iff i hi with rfl | rfl | rfl <;> rfl
 · exfalso
   rcases DV_iff i hi with rfl | rfl | rfl <;> simp [Value.ownBlock] at e
theorem vInfoTl : (Tryz.prog.info? 250).map (fun i => (i.zero, i.size, i.bytes)) = some (some (.pointer none), 1, 8) := by kernel_rfl
theorem vInfoFl : (Tryz.prog.info? 253).map (fun i => (i.zero, i.size, i.bytes)) = some (some (.pointer none), 1, 8) := by kernel_rfl
theorem vInfoInt : (Tryz.prog.info? 3).map (fun i => (i.zero, i.size, i.bytes)) = some (some (.int .i64 0), 1, 8) := by kernel_rfl
structure Cv (w w' : World) (D N n : Nat) (Q room : Int) : Prop where
 box : w'.heap[D]? = some (.cells #[.int .i64 N, .int .i64 n, .int .i64 Q, .int .i64 room] 131 (0, 0))
 below : Below w.heap.size w w'
section
variable {w w1 w' : World} {D N n : Nat} {Q room : Int}
theorem Cv.on (h : Cv w w1 D N n Q room) (hB : Below w1.heap.size w1 w') : Cv w w' D N n Q room := ⟨(hB.block D (Array.getElem?_eq_some_iff.1 h.box).1).trans h.box, h.below.trans (hB.mono h.below.size)⟩
theorem Cv.cells (h : Cv w w1 D N n Q room) : w1.cell? ⟨D, 0, none⟩ = some (.int .i64 N) /\ w1.cell? ⟨D, 1, none⟩ = some (.int .i64 n) /\ w1.cell? ⟨D, 2, none⟩ = some (.int .i64 Q) /\ w1.cell? ⟨D, 3, none⟩ = some (.int .i64 room) := by
 refine ⟨?_, ?_, ?_, ?_⟩ <;> rw [cell_of_row w1 D _ _ _ _ h.box] <;> rfl
theorem cv_new (w : World) (N n : Nat) (Q room : Int) : Cv w (w.alloc (.cells #[.int .i64 N, .int .i64 n, .int .i64 Q, .int .i64 room] 131)) w.heap.size N n Q room := ⟨heap_alloc_new _ _, bal (Below.refl _ _) _⟩
end
theorem rvcheck_ok (N n : Nat) (Q room : Int) (w : World) (hN1 : 1 <= N) (hN : N <= 64) (hn1 : 1 <= n) (hn : n <= 4) (hQ0 : 0 <= Q) (hQ : Q <= n) (hr0 : 0 <= room) (hr : room <= 8) : Calls Tryz.prog 157 #[.agg #[.int .i64 N, .int .i64 n, .int .i64 Q, .int .i64 room]] w fun e w' => e = .returned (.int .i64 0) /\ Below w.heap.size w w' := by
 have HF := vhide (cv_new w N n Q room)
 have f1 : ¬ (N : Int) < 1 := by omega
 have f2 : ¬ (64 : Int) < N := by omega
 have f3 : ¬ (n : Int) < 1 := by omega
 have f4 : ¬ (4 : Int) < n := by omega
 have f5 : ¬ Q < 0 := by omega
 have f6 : ¬ (n : Int) < Q := by omega
 have f7 : ¬ room < 0 := by omega
 have f8 : ¬ (8 : Int) < room := by omega
 clear hN1 hN hn1 hn hQ0 hQ hr0 hr
 go_enter Tryz.func157, Tryz.ntmps157
 go_upto_region 1 with fail
 obtain ⟨c0, c1, c2, c3⟩ := HF.out.cells
 generalize w.alloc _ = w1 at HF c0 c1 c2 c3 ⊢
 generalize w.heap.size = D at HF c0 c1 c2 c3 ⊢
 go_wp2
 go_ret
 exact ⟨rfl, HF.out.below⟩
def VNw (N n : Nat) (room : Int) (w : World) (e : Ending) (w' : World) : Prop := ∃ q o P, e = .returned (.tuple #[.pointer (some ⟨q, 0, none⟩), .int .i64 0]) /\ VIs w' q o P (nwS N n room) /\ Below w.heap.size w w' /\ ∀ i, o i <= 17 -> w.heap.size <= i
theorem rvnew_ok (N n : Nat) (Q room : Int) (w : World) (hN1 : 1 <= N) (hN : N <= 64) (hn1 : 1 <= n) (hn : n <= 4) (hQ0 : 0 <= Q) (hQ : Q <= n) (hr0 : 0 <= room) (hr : room <= 8) : Calls Tryz.prog 89 #[.agg #[.int .i64 N, .int .i64 n, .int .i64 Q, .int .i64 room]] w (VNw N n room w) := by
 obtain ⟨it, hi, hz0, hz1, hz2⟩ := info_parts vInfoInt
 obtain ⟨jt, hj, hy0, hy1, hy2⟩ := info_parts vInfoTl
 obtain ⟨kt, hkt, hx0, hx1, hx2⟩ := info_parts vInfoFl
 have HF := vhide (cv_new w N n Q room)
 have HK : Hid (∀ wc, Calls Tryz.prog 157 #[.agg #[.int .i64 N, .int .i64 n, .int .i64 Q, .int .i64 room]] wc fun e w' => e = .returned (.int .i64 0) /\ Below wc.heap.size wc w') := fun wc => rvcheck_ok N n Q room wc hN1 hN hn1 hn hQ0 hQ hr0 hr
 have HA : Hid (∀ wc, Calls Tryz.prog 160 #[.int .i64 N] wc fun e w' => e = .returned (.tuple #[.pointer (some ⟨wc.heap.size, 0, none⟩), .int .i64 0]) /\ Pmem.RefIs w' wc.heap.size wc.heap.size N (fun _ _ => 0) /\ Below wc.heap.size wc w') := fun wc => Pmem.rnew_ok N wc hN1 hN
 have HC : Hid (∀ wc, Calls Tryz.prog 161 #[.int .i64 n] wc fun e w' => e = .returned (.tuple #[.pointer (some ⟨wc.heap.size, 0, none⟩), .int .i64 0]) /\ Pvclock.RefIs w' (fun i => wc.heap.size <= i) wc.heap.size n (Pclock.newS n) /\ Below wc.heap.size wc w') := fun wc => Pvclock.rnew_ok n wc hn1 hn
 have HT : Hid (∀ wc, Calls Tryz.prog 162 #[.int .i64 N] wc fun e w' => e = .returned (.tuple #[.pointer (some ⟨wc.heap.size, 0, none⟩), .int .i64 0]) /\ Pvtyp.RefIs w' (fun i => wc.heap.size <= i) wc.heap.size N (fun _ => Ptyp.noFS) /\ Below wc.heap.size wc w') := fun wc => Pvtyp.rnew_ok N wc hN1 hN
 have HL : Hid (∀ wc, Calls Tryz.prog 163 #[.int .i64 room] wc fun e w' => e = .returned (.tuple #[.pointer (some ⟨wc.heap.size, 0, none⟩), .int .i64 0]) /\ (∀ F : Nat -> Prop, F wc.heap.size -> Pvtlb.RefIs F w' wc.heap.size room none 0 []) /\ Below wc.heap.size wc w') := fun wc => Pvtlb.rnew_ok room wc hr0 hr
 have HN1 := vhide hN1
 have Hn1 := vhide hn1
 clear hN1 hN hn1 hQ0 hQ hr0 hr
 go_enter Tryz.func89, Tryz.ntmps89
 go_upto_region 1 with fail
 obtain ⟨c0, c1, c2, c3⟩ := HF.out.cells
 generalize w.alloc _ = w1 at HF c0 c1 c2 c3 ⊢
 generalize w.heap.size = D at HF c0 c1 c2 c3 ⊢
 go_upto_region 4 with (first
  | (go_at_call 157; refine (HK.out _).mono ?_; rintro e1 w2 ⟨rfl, hb⟩; have H1 := vhide (HF.out.on hb); clear hb HK HF c0 c1 c2 c3)
  | (go_at_call 158; refine (Pvlive.rnew_any _).mono ?_; rintro e1 w3 ⟨rfl, hl, hb⟩; have HLi := vhide hl; have HB3 := vhide hb; clear hl hb)
  | (go_at_call 159; refine (Pvhw.rnew_any _).mono ?_; rintro e1 w4 ⟨rfl, hl, hb⟩; have HHw := vhide hl; have HB4 := vhide hb; clear hl hb)
  | fail)
 obtain ⟨o, P, cs, hG⟩ := vg_new H1.out.box H1.out.below HB3.out HLi.out HB4.out HHw.out
 have M0 := vhide hG
 clear hG H1 HB3 HLi HB4 HHw
 generalize w4.alloc _ = w5 at M0 ⊢
 generalize w4.heap.size = B at M0 ⊢
 obtain ⟨c0, c1, c2, c3⟩ := M0.out.cfg
 go_upto_region 5 with (first
  | (go_at_call 160; refine (HA.out _).mono ?_; rintro e1 w6 ⟨rfl, hr, hb⟩; obtain ⟨o1, P1, hG, hp⟩ := M0.out.putM HN1.out hr hb; have M1 := vhide hG; have p1 := vhide hp; clear hG hp hr hb HA M0 c0 c1 c2 c3)
  | fail)
 obtain ⟨c0, c1, c2, c3⟩ := M1.out.cfg
 go_upto_region 6 with (first
  | (go_at_call 161; refine (HC.out _).mono ?_; rintro e1 w7 ⟨rfl, hr, hb⟩; obtain ⟨o2, P2, hG, hp⟩ := M1.out.putC hr hb; have M2 := vhide hG; have p2 := vhide hp; clear hG hp hr hb HC M1 c0 c1 c2 c3)
  | fail)
 obtain ⟨c0, c1, c2, c3⟩ := M2.out.cfg
 go_upto_region 7 with (first
  | (go_at_call 162; refine (HT.out _).mono ?_; rintro e1 w8 ⟨rfl, hr, hb⟩; obtain ⟨o3, P3, hG, hp⟩ := M2.out.putT hr hb; have M3 := vhide hG; have p3 := vhide hp; clear hG hp hr hb HT M2 c0 c1 c2 c3)
  | fail)
 obtain ⟨d0, z0⟩ := M3.out.cell (j := 0) (by omega)
 go_upto_region 8 with fail
 have M4 := vhide (M3.out.set (i := 0) (by omega) rfl (.pointer (some ⟨w5.heap.size, 0, none⟩)) (g' := 4) (by omega) (by omega) (by omega) (fun _ => by rw [if_pos rfl, p3.out.1, p2.out.1, p1.out]) (fun e => absurd e (by omega)) (fun e => absurd e (by omega)))
 clear M3 d0 z0
 generalize w8.setCell _ _ = w9 at M4 ⊢
 obtain ⟨d0, z0⟩ := M4.out.cell (j := 1) (by omega)
 go_upto_region 9 with fail
 have M5 := vhide (M4.out.set (i := 1) (by omega) rfl (.pointer (some ⟨w6.heap.size, 0, none⟩)) (g' := 5) (by omega) (by omega) (by omega) (fun _ => by rw [if_neg (by omega)]; exact M4.out.c0 (by omega)) (fun _ => by rw [if_pos rfl, p3.out.2.1, p2.out.2]) (fun e => absurd e (by omega)))
 clear M4 d0 z0
 generalize w9.setCell _ _ = w10 at M5 ⊢
 obtain ⟨d0, z0⟩ := M5.out.cell (j := 4) (by omega)
 go_upto_region 10 with fail
 have M6 := vhide (M5.out.set (i := 4) (by omega) rfl (.pointer (some ⟨w7.heap.size, 0, none⟩)) (g' := 6) (by omega) (by omega) (by omega) (fun _ => by rw [if_neg (by omega)]; exact M5.out.c0 (by omega)) (fun _ => by rw [if_neg (by omega)]; exact M5.out.c1 (by omega)) (fun _ => by rw [if_pos rfl, p3.out.2.2]))
 clear M5 d0 z0 p1 p2 p3
 generalize w10.setCell _ _ = w11 at M6 ⊢
 go_wp2_with fail
 go_loopw [11] (fun i wr => ∃ k : Nat, k <= n /\ i = .int .i64 k /\ ∃ o P cs, Vg w wr B D o P N n Q room 6 cs (fun _ => k) k k) (fun i _ => n - (intOf i).toNat)
 case atStart => exact ⟨0, by omega, rfl, _, _, _, M6.out⟩
 case round =>
  clear M6
  obtain ⟨k, hk, rfl, oo, PP, css, hI⟩ := hrel
  have HI := vhide hI
  clear hI
  obtain ⟨c0, c1, c2, c3⟩ := HI.out.cfg
  by_cases hlt : k < n
  · have hki : (k : Int) < (n : Int) := by omega
    go_upto_region 14 with (first
     | (go_at_call 163; refine (HL.out _).mono ?_; rintro e1 v1 ⟨rfl, hr, hb⟩; obtain ⟨oa, Pa, hG, hp⟩ := HI.out.putK (by omega) (by omega) hr hb; have M1 := vhide hG; have q1 := vhide hp; clear hG hp hr hb HL HI c0 c1 c2 c3)
     | fail)
    have d1 := (M1.out.cell (j := 2) (by omega)).1
    have O : Hid (v1.ownsRow (B + 1) 250 1 (css 2) k ((List.range k).map (entV Pa 2))) := M1.out.owns 2 rfl
    have hs : B + 1 <= v1.heap.size := M1.out.lt
    go_upto_region 15 with (first
     | (at_builtin; refine wpList_append_own_at _ rfl _ _ 142 rfl (B + 1) 250 jt _ 1 8 Tryz.underlying142 hj hy0 hy1 hy2 rfl (by decide) _ _ _ rfl (O.out.alloc _) _ 1 1 [.pointer (some ⟨wr.heap.size, 0, none⟩)] rfl rfl (cells_newV v1 [.pointer (some ⟨wr.heap.size, 0, none⟩)] _) (by simp [Value.oneCell']) (by unfold maxLen; omega) (by omega) (by simp; omega) ?_; intro vv u1 hown hgrow _ hat; obtain ⟨g1, p1, rfl⟩ := ownsRow_succV hown; obtain ⟨s1, s2, ob, s3⟩ := M1.out.step (i := 2) rfl (by show entV Pa 2 k = _; unfold entV; rw [if_pos rfl, q1.out]) hown hgrow hat; clear d1; have d1 := s1; have z1 := s2; have M2 : Hid (∃ cs', Vg w (u1.setCell ⟨B, 2, none⟩ (.slice (some ⟨g1, 0, none⟩) (k + 1) p1)) B D ob Pa N n Q room 6 cs' (fun j => if j = 2 then k + 1 else k) (k + 1) k) := ⟨_, s3⟩; clear hown hgrow hat s1 s2 s3 O M1 q1)
     | fail)
    clear d1 z1 hs
    generalize u1.setCell _ _ = u2 at M2 ⊢
    obtain ⟨cs2, hG⟩ := M2.out
    clear M2
    have M2 := vhide hG
    clear hG
    have d1 := (M2.out.cell (j := 3) (by omega)).1
    have hs : B + 1 <= u2.heap.size := M2.out.lt
    go_region_law (first
     | (go_simp; go_at_call 164; refine (Pvregs.rnew_any _).mono ?_; rintro e1 u3 ⟨rfl, hr, hb⟩; obtain ⟨oc, Pc, hG, hp⟩ := (M2.out.on (Below.drew (Below.refl _ u2))).putR (by omega) (by show (if 3 = 2 then k + 1 else k) <= k; rw [if_neg (by decide)]; exact Nat.le_refl k) hr hb; have M3 := vhide hG; have q3 := vhide hp; have d2 : u3.cell? ⟨B, 3, none⟩ = some (cs2 3) := (hG.cell (by omega)).1; have d4 : ∀ ob, (u3.alloc ob).cell? ⟨B, 3, none⟩ = some (cs2 3) := (fun ob => ((M3.out.on (bal (Below.refl _ _) ob)).cell (by omega)).1); have hs3 : B + 1 <= u3.heap.size := M3.out.lt; have O : Hid (u3.ownsRow (B + 1) 253 1 (cs2 3) k ((List.range k).map (entV Pc 3))) := M3.out.owns 3 rfl; clear hb hr hG hp)
     | (refine step_append_lies _ rfl (.tmp 77)  (.tmp 79) 143 rfl (B + 1) 253 kt _ 1 8 Tryz.underlying143 hkt hx0 hx1 hx2 rfl (by decide) (cs2 3) k ((List.range k).map (entV Pc 3)) (by simp [Act.eval, Act.put]) (O.out.alloc _) ⟨u3.heap.size, 0, none⟩ 1 1 [.pointer (some ⟨u2.heap.size, 0, none⟩)] (by simp [Act.eval, Act.put]) rfl (cells_newV u3 [.pointer (some ⟨u2.heap.size, 0, none⟩)] _) (by simp [Value.oneCell']) (by omega) (by unfold maxLen; omega) (by omega) (by simp; omega) _ rfl ?_; intro g2 p2 u4 hown hgrow hat hlt2; obtain ⟨s1, s2, od, s3⟩ := M3.out.step (i := 3) rfl (by show entV Pc 3 k = _; unfold entV; rw [if_neg (by omega), if_pos rfl]; exact congrArg (fun b => Value.pointer (some ⟨b, 0, none⟩)) q3.out) hown hgrow (hat.elim (fun h => .inl (by rw [h]; rfl)) (fun h => .inr (by rw [h]; rfl))); clear d1 d2 d4; have d3 := s1; have z3 := s2; have M4 : Hid (∃ cs', Vg w (u4.setCell ⟨B, 3, none⟩ (.slice (some ⟨g2, 0, none⟩) (k + 1) p2)) B D od Pc N n Q room 6 cs' (fun j => if j = 3 then (if j = 2 then k + 1 else k) + 1 else (if j = 2 then k + 1 else k)) (k + 1) (k + 1)) := ⟨_, s3⟩; clear hown hgrow hat hlt2 s1 s2 s3 O M2 M3 q3)
     | fail)
    all_goals
     clear d3 z3 hs hs3
     generalize u4.setCell _ _ = u5 at M4 ⊢
     obtain ⟨cs3, hG⟩ := M4.out
     clear M4
     have M4 := vhide hG
     clear hG
     have d1 := (M4.out.cell (j := 7) (by omega)).1
     have hs : B + 1 <= u5.heap.size := M4.out.lt
     have O : Hid (u5.ownsRow (B + 1) 3 1 (cs3 7) k ((List.range k).map (entV Pc 7))) := M4.out.owns 7 rfl
     go_wp2_with (first
      | (at_builtin; refine wpList_append_own_at _ rfl _ _ 147 rfl (B + 1) 3 it _ 1 8 Tryz.underlying147 hi hz0 hz1 hz2 rfl (by decide) _ _ _ rfl (O.out.alloc _) _ 1 1 [.int .i64 (-1)] rfl rfl (cells_newV u5 [.int .i64 (-1)] _) (by simp [Value.oneCell']) (by unfold maxLen; omega) (by omega) (by simp; omega) ?_; intro vv u6 hown hgrow _ hat; obtain ⟨g3, p3, rfl⟩ := ownsRow_succV hown; obtain ⟨s1, s2, oe, s3⟩ := M4.out.step (i := 7) rfl (by rfl) hown hgrow hat; clear d1; have d1 := s1; have z1 := s2; have M5 : Hid (∃ o' P' cs', Vg w (u6.setCell ⟨B, 7, none⟩ (.slice (some ⟨g3, 0, none⟩) (k + 1) p3)) B D o' P' N n Q room 6 cs' (fun _ => k + 1) (k + 1) (k + 1)) := ⟨_, _, _, s3.count fun i hi => (by rcases DV_iff i hi with rfl | rfl | rfl <;> rfl)⟩; clear hown hgrow hat s1 s2 s3 O M4)
      | fail)
     go_roundw
     case rel => exact ⟨k + 1, by omega, by go_num, M5.out⟩
     case measure => simp [intOf]; omega
  · obtain rfl : k = n := by omega
    have n1 : ¬ (k : Int) < k := by omega
    go_wp2
    obtain ⟨P', hV⟩ := HI.out.done Hn1.out
    have HE : Hid (VNw N k room w (.returned (.tuple #[.pointer (some ⟨B, 0, none⟩), .int .i64 0])) wr) := ⟨B, oo, P', rfl, hV, HI.out.below, fun i e => (HI.out.own i e).2⟩
    clear hV
    go_ret2
    exact HE.out
end Pvmach
end Go.Proofs.YtkkclcihjojphaaGreatDoor
