import Derived.Test.YtkkclcihjojphaaGreatDoorPkC
import Derived.Test.YtkkclcihjojphaaGreatDoorBunPtyp
import Derived.Test.YtkkclcihjojphaaGreatDoorPkB
import Derived.Test.YtkkclcihjojphaaGreatDoorBunMem
set_option linter.unusedVariables false
set_option linter.unusedSimpArgs false
set_option maxRecDepth 100000
set_option maxHeartbeats 20000000
namespace Go.Proofs.YtkkclcihjojphaaGreatDoor
namespace Pmst
open Pbase Pchold Go.RowKit
theorem vhide {p : Prop} (h : p) : Hid p := h
structure St where
 N : Nat
 n : Nat
 room : Int
 M : Nat -> Nat -> Int
 C : Pclock.CS
 T : Nat -> Ptyp.FS
 L : Nat -> Plive.LS
 H : Nat -> Int
 U : Nat -> Int
 K : Nat -> List Ptlb.En
 R : Nat -> Nat -> Int
structure Ws (s : St) : Prop where
 n1 : 1 <= s.N
 n64 : s.N <= 64
 c1 : 1 <= s.n
 c4 : s.n <= 4
def Lst (w : World) (r : Nat) (t : TypeId) (n : Nat) (f : Nat -> Value) : Prop := ∃ cur, w.heap[r]? = some (.cells cur t (0, 0)) /\ ∀ j, j < n -> cur[j]? = some (f j)
section
variable {w w' : World} {r n : Nat} {t : TypeId} {f : Nat -> Value}
theorem Lst.lt (h : Lst w r t n f) : r < w.heap.size := by
 obtain ⟨cur, h1, _⟩ := h
 exact (Array.getElem?_eq_some_iff.1 h1).1
theorem Lst.on (h : Lst w r t n f) (hk : w'.heap[r]? = w.heap[r]?) : Lst w' r t n f := by
 obtain ⟨cur, h1, h2⟩ := h
 exact ⟨cur, hk.trans h1, h2⟩
theorem Lst.cell (h : Lst w r t n f) {j : Nat} (hj : j < n) : w.cell? ⟨r, j, none⟩ = some (f j) := by
 obtain ⟨cur, h1, h2⟩ := h
 rw [cell_of_row w r j _ _ _ h1]
 exact h2 j hj
theorem Lst.free (h : Lst w r t n f) (j : Nat) : w.frozen? ⟨r, j, none⟩ = false := by
 obtain ⟨cur, h1, _⟩ := h
 exact frozen_of_row w r j _ _ h1
theorem Lst.put (h : Lst w r t n f) {c : Nat} (hc : c < n) (v : Value) : Lst (w.setCell ⟨r, c, none⟩ v) r t n (fun j => if j = c then v else f j) := by
 obtain ⟨cur, h1, h2⟩ := h
 refine ⟨cur.setIfInBounds c v, heap_setCell_same w r c _ _ v h1, fun j hj => ?_⟩
 rw [Array.getElem?_setIfInBounds]
 by_cases e : c = j
 · subst e
   have hlt : c < cur.size := by
    rcases Nat.lt_or_ge c cur.size with h | h
    · exact h
    · have := h2 c hc; rw [Array.getElem?_eq_none h] at this; cases this
   simp [hlt]
 · rw [if_neg e, h2 j hj]
   simp [Ne.symm e]
theorem Lst.congr (h : Lst w r t n f) {g : Nat -> Value} (e : ∀ j, j < n -> f j = g j) : Lst w r t n g := by
 obtain ⟨cur, h1, h2⟩ := h
 exact ⟨cur, h1, fun j hj => by rw [h2 j hj, e j hj]⟩
end
def rtB (s : St) (f : Int) : Bool := Pquiet.quF s.n s.C (Ptyp.toldA s.N s.T f).was (Ptyp.toldA s.N s.T f).fr
def rtX (s : St) (f tt : Int) : Int := Ptyp.errA s.N s.T f (Ptyp.hRt tt (rtB s f))
def rtE (s : St) (f tt : Int) : Int := if rtX s f tt = 0 then Pmem.errF s.N f else rtX s f tt
def rtT (s : St) (f tt : Int) : Nat -> Ptyp.FS := Ptyp.mapA s.N s.T f (Ptyp.gRt tt (rtB s f))
def rtM (s : St) (f tt : Int) : Nat -> Nat -> Int := if rtX s f tt = 0 then Pmem.clM s.N s.M f else s.M
def chE (F C Q R : Int) : Int := if F < 1 \/ 64 < F \/ C < 1 \/ 4 < C \/ Q < 0 \/ C < Q \/ R < 0 \/ 8 < R then 1 else 0
def nwS (N n : Nat) (room : Int) : St := ⟨N, n, room, fun _ _ => 0, Pclock.newS n, fun _ => Ptyp.noFS, fun _ => Plive.noLS, fun _ => 0, fun _ => -1, fun _ => [], fun _ _ => 0⟩
theorem nwS_ws {N n : Nat} {room : Int} (h1 : 1 <= N) (h2 : N <= 64) (h3 : 1 <= n) (h4 : n <= 4) : Ws (nwS N n room) := ⟨h1, h2, h3, h4⟩
end Pmst
namespace Ppmach
open Pbase Pchold Pmst Ptint Go.RowKit
structure Pq where
 pm : Nat
 bm : Nat
 pc : Nat
 pt : Nat
 rt : Nat
 pl : Nat
 rl : Nat
 ph : Nat
 bh : Nat
 cb : Nat
 ta : Nat -> Nat
 tm : Nat -> Nat
 fb : Nat -> Nat
def noPq : Pq := ⟨0, 0, 0, 0, 0, 0, 0, 0, 0, 0, fun _ => 0, fun _ => 0, fun _ => 0⟩
def coC (P : Pq) (U : Nat -> Int) (i : Nat) : Value := if i % 3 = 0 then .pointer (some ⟨P.fb (i / 3), 0, none⟩) else if i % 3 = 1 then .pointer (some ⟨P.ta (i / 3), 0, none⟩) else .int .i64 (U (i / 3))
structure PIs (w : World) (p : Nat) (o : Nat -> Nat) (P : Pq) (s : St) : Prop where
 head : w.heap[p]? = some (.cells #[.pointer (some ⟨P.pm, 0, none⟩), .pointer (some ⟨P.pc, 0, none⟩), .pointer (some ⟨P.pt, 0, none⟩), .pointer (some ⟨P.pl, 0, none⟩), .pointer (some ⟨P.ph, 0, none⟩), .slice (some ⟨P.cb, 0, none⟩) s.n s.n] 31 (0, 0))
 op : o p = 20
 own : ∀ i, 20 <= o i -> o i <= 40 -> i < w.heap.size
 core : Lst w P.cb 237 (s.n * 3) (coC P s.U)
 oc : o P.cb = 21
 mem : Pmem.MemIs w P.pm P.bm s.N s.M
 om : o P.pm = 22 /\ o P.bm = 22
 clock : Pclock.ClockIs w P.pc s.n s.C
 ok : o P.pc = 23
 typ : Ptyp.TblIs w P.pt P.rt s.N s.T
 ot : o P.pt = 24 /\ o P.rt = 24
 live : Plive.TblIs w P.pl P.rl 64 s.L
 ol : o P.pl = 25 /\ o P.rl = 25
 lines : Phw.LinesIs w P.ph P.bh s.H
 oh : o P.ph = 26 /\ o P.bh = 26
 gd : Phw.Gd s.H
 tlb : ∀ j, j < s.n -> Ptlb.TlbIs w (P.ta j) (P.tm j) s.room (s.K j)
 oa : ∀ j, j < s.n -> o (P.ta j) = 27 + 2 * j /\ o (P.tm j) = 27 + 2 * j
 file : ∀ j, j < s.n -> Pregs.FileIs w (P.fb j) (s.R j)
 ob : ∀ j, j < s.n -> o (P.fb j) = 28 + 2 * j
structure Left (w' : World) (p : Nat) (o : Nat -> Nat) (P : Pq) (s : St) (t : Nat) : Prop where
 head : t ≠ 20 -> w'.heap[p]? = some (.cells #[.pointer (some ⟨P.pm, 0, none⟩), .pointer (some ⟨P.pc, 0, none⟩), .pointer (some ⟨P.pt, 0, none⟩), .pointer (some ⟨P.pl, 0, none⟩), .pointer (some ⟨P.ph, 0, none⟩), .slice (some ⟨P.cb, 0, none⟩) s.n s.n] 31 (0, 0))
 op : o p = 20
 own : ∀ i, 20 <= o i -> o i <= 40 -> i < w'.heap.size
 core : t ≠ 21 -> Lst w' P.cb 237 (s.n * 3) (coC P s.U)
 oc : o P.cb = 21
 mem : t ≠ 22 -> Pmem.MemIs w' P.pm P.bm s.N s.M
 om : o P.pm = 22 /\ o P.bm = 22
 clock : t ≠ 23 -> Pclock.ClockIs w' P.pc s.n s.C
 ok : o P.pc = 23
 typ : t ≠ 24 -> Ptyp.TblIs w' P.pt P.rt s.N s.T
 ot : o P.pt = 24 /\ o P.rt = 24
 live : t ≠ 25 -> Plive.TblIs w' P.pl P.rl 64 s.L
 ol : o P.pl = 25 /\ o P.rl = 25
 lines : t ≠ 26 -> Phw.LinesIs w' P.ph P.bh s.H
 oh : o P.ph = 26 /\ o P.bh = 26
 gd : Phw.Gd s.H
 tlb : ∀ j, j < s.n -> t ≠ 27 + 2 * j -> Ptlb.TlbIs w' (P.ta j) (P.tm j) s.room (s.K j)
 oa : ∀ j, j < s.n -> o (P.ta j) = 27 + 2 * j /\ o (P.tm j) = 27 + 2 * j
 file : ∀ j, j < s.n -> t ≠ 28 + 2 * j -> Pregs.FileIs w' (P.fb j) (s.R j)
 ob : ∀ j, j < s.n -> o (P.fb j) = 28 + 2 * j
theorem mem_lt {w : World} {p b N : Nat} {M : Nat -> Nat -> Int} (h : Pmem.MemIs w p b N M) : p < w.heap.size /\ b < w.heap.size := ⟨(Array.getElem?_eq_some_iff.1 h.head).1, (Array.getElem?_eq_some_iff.1 h.row).1⟩
theorem file_lt {w : World} {p : Nat} {L : Nat -> Int} (h : Pregs.FileIs w p L) : p < w.heap.size := (Array.getElem?_eq_some_iff.1 h).1
section
variable {w w' : World} {p : Nat} {o : Nat -> Nat} {P : Pq} {s : St} {t : Nat}
theorem PIs.lt (h : PIs w p o P s) : p < w.heap.size := (Array.getElem?_eq_some_iff.1 h.head).1
theorem PIs.cells (h : PIs w p o P s) : w.cell? ⟨p, 0, none⟩ = some (.pointer (some ⟨P.pm, 0, none⟩)) /\ w.cell? ⟨p, 1, none⟩ = some (.pointer (some ⟨P.pc, 0, none⟩)) /\ w.cell? ⟨p, 2, none⟩ = some (.pointer (some ⟨P.pt, 0, none⟩)) /\ w.cell? ⟨p, 3, none⟩ = some (.pointer (some ⟨P.pl, 0, none⟩)) /\ w.cell? ⟨p, 4, none⟩ = some (.pointer (some ⟨P.ph, 0, none⟩)) /\ w.cell? ⟨p, 5, none⟩ = some (.slice (some ⟨P.cb, 0, none⟩) s.n s.n) := by
 refine ⟨?_, ?_, ?_, ?_, ?_, ?_⟩ <;> rw [cell_of_row w p _ _ _ _ h.head] <;> rfl
theorem PIs.keep (h : PIs w p o P s) (c4 : s.n <= 4) (hs : w.heap.size <= w'.heap.size) (hk : ∀ i, 20 <= o i -> o i <= 40 -> i < w.heap.size -> w'.heap[i]? = w.heap[i]?) : PIs w' p o P s :=
 have k : ∀ {i c : Nat}, o i = c -> 20 <= c -> c <= 40 -> i < w.heap.size -> w'.heap[i]? = w.heap[i]? := fun e h1 h2 hl => hk _ (by omega) (by omega) hl
 { head := (k h.op (by omega) (by omega) h.lt).trans h.head
   op := h.op
   own := fun i e1 e2 => Nat.lt_of_lt_of_le (h.own i e1 e2) hs
   core := h.core.on (k h.oc (by omega) (by omega) h.core.lt)
   oc := h.oc
   mem := ⟨(k h.om.1 (by omega) (by omega) (mem_lt h.mem).1).trans h.mem.head, (k h.om.2 (by omega) (by omega) (mem_lt h.mem).2).trans h.mem.row⟩
   om := h.om
   clock := h.clock.on (k h.ok (by omega) (by omega) h.clock.lt)
   ok := h.ok
   typ := h.typ.on (k h.ot.1 (by omega) (by omega) h.typ.lt) (k h.ot.2 (by omega) (by omega) h.typ.ltr)
   ot := h.ot
   live := h.live.on (k h.ol.1 (by omega) (by omega) h.live.lt) (k h.ol.2 (by omega) (by omega) h.live.ltr)
   ol := h.ol
   lines := h.lines.on (k h.oh.1 (by omega) (by omega) h.lines.lt.1) (k h.oh.2 (by omega) (by omega) h.lines.lt.2)
   oh := h.oh
   gd := h.gd
   tlb := fun j hj => (h.tlb j hj).on (k (h.oa j hj).1 (by omega) (by omega) (h.tlb j hj).lt) (k (h.oa j hj).2 (by omega) (by omega) (h.tlb j hj).map.lt)
   oa := h.oa
   file := fun j hj => (k (h.ob j hj) (by omega) (by omega) (file_lt (h.file j hj))).trans (h.file j hj)
   ob := h.ob }
theorem PIs.left (h : PIs w p o P s) (k0 : Tint (fun i => o i = t) w w') : Left w' p o P s t :=
 have k : ∀ {i c : Nat}, o i = c -> t ≠ c -> i < w.heap.size -> w'.heap[i]? = w.heap[i]? := fun e hc hl => k0.block _ hl fun e2 => hc (e2.symm.trans e)
 { head := fun e => (k h.op e h.lt).trans h.head
   op := h.op
   own := fun i e1 e2 => Nat.lt_of_lt_of_le (h.own i e1 e2) k0.size
   core := fun e => h.core.on (k h.oc e h.core.lt)
   oc := h.oc
   mem := fun e => ⟨(k h.om.1 e (mem_lt h.mem).1).trans h.mem.head, (k h.om.2 e (mem_lt h.mem).2).trans h.mem.row⟩
   om := h.om
   clock := fun e => h.clock.on (k h.ok e h.clock.lt)
   ok := h.ok
   typ := fun e => h.typ.on (k h.ot.1 e h.typ.lt) (k h.ot.2 e h.typ.ltr)
   ot := h.ot
   live := fun e => h.live.on (k h.ol.1 e h.live.lt) (k h.ol.2 e h.live.ltr)
   ol := h.ol
   lines := fun e => h.lines.on (k h.oh.1 e h.lines.lt.1) (k h.oh.2 e h.lines.lt.2)
   oh := h.oh
   gd := h.gd
   tlb := fun j hj e => (h.tlb j hj).on (k (h.oa j hj).1 e (h.tlb j hj).lt) (k (h.oa j hj).2 e (h.tlb j hj).map.lt)
   oa := h.oa
   file := fun j hj e => (k (h.ob j hj) e (file_lt (h.file j hj))).trans (h.file j hj)
   ob := h.ob }
theorem PIs.grown (h : PIs w p o P s) (c4 : s.n <= 4) (hB : Below w.heap.size w w') : PIs w' p o P s := h.keep c4 hB.size (fun i _ _ hi => hB.block i hi)
theorem PIs.other {G : Nat -> Prop} (h : PIs w p o P s) (c4 : s.n <= 4) (hG : ∀ i, 20 <= o i -> o i <= 40 -> ¬ G i) (k : Tint G w w') : PIs w' p o P s := h.keep c4 k.size (fun i h1 h2 hl => k.block i hl (hG i h1 h2))
theorem Left.turnM (l : Left w' p o P s 22) {M' : Nat -> Nat -> Int} (hX : Pmem.MemIs w' P.pm P.bm s.N M') : PIs w' p o P { s with M := M' } :=
 ⟨l.head (by omega), l.op, l.own, l.core (by omega), l.oc, hX, l.om, l.clock (by omega), l.ok, l.typ (by omega), l.ot, l.live (by omega), l.ol, l.lines (by omega), l.oh, l.gd, fun j hj => l.tlb j hj (by omega), l.oa, fun j hj => l.file j hj (by omega), l.ob⟩
theorem Left.turnT (l : Left w' p o P s 24) {T' : Nat -> Ptyp.FS} (hX : Ptyp.TblIs w' P.pt P.rt s.N T') : PIs w' p o P { s with T := T' } :=
 ⟨l.head (by omega), l.op, l.own, l.core (by omega), l.oc, l.mem (by omega), l.om, l.clock (by omega), l.ok, hX, l.ot, l.live (by omega), l.ol, l.lines (by omega), l.oh, l.gd, fun j hj => l.tlb j hj (by omega), l.oa, fun j hj => l.file j hj (by omega), l.ob⟩
theorem Left.turnL (l : Left w' p o P s 25) {L' : Nat -> Plive.LS} (hX : Plive.TblIs w' P.pl P.rl 64 L') : PIs w' p o P { s with L := L' } :=
 ⟨l.head (by omega), l.op, l.own, l.core (by omega), l.oc, l.mem (by omega), l.om, l.clock (by omega), l.ok, l.typ (by omega), l.ot, hX, l.ol, l.lines (by omega), l.oh, l.gd, fun j hj => l.tlb j hj (by omega), l.oa, fun j hj => l.file j hj (by omega), l.ob⟩
def PMine (o : Nat -> Nat) : Nat -> Prop := fun i => 20 <= o i /\ o i <= 40
structure Px (w0 w : World) (p : Nat) (o : Nat -> Nat) (P : Pq) (s : St) : Prop where
 v : PIs w p o P s
 k : Tint (PMine o) w0 w
theorem px_refl (h : PIs w p o P s) : Px w w p o P s := ⟨h, Tint.refl _ _⟩
theorem Px.on {w0 : World} (h : Px w0 w p o P s) (c4 : s.n <= 4) (hB : Below w.heap.size w w') : Px w0 w' p o P s := ⟨h.v.grown c4 hB, h.k.on hB⟩
theorem pwide (t : Nat) (h1 : 20 <= t) (h2 : t <= 40) (k : Tint (fun i => o i = t) w w') : Tint (PMine o) w w' := k.wide fun i e => ⟨by omega, by omega⟩
theorem tint_but {b : Nat} (hb : o b = t) (k : But b w w') : Tint (fun i => o i = t) w w' := Tint.of_but (F := fun i => o i = t) hb k
theorem tint_row {b : Nat} (hb : o b = t) (cs : Array Value) : Tint (fun i => o i = t) w (w.setRow b cs) := tint_but hb ((But.refl b w).setRow cs)
end
section
variable {w : World} {p : Nat} {o : Nat -> Nat} {P : Pq} {s : St}
theorem pshared_any (h : PIs w p o P s) (hs : Ws s) : Calls Tryz.prog 38 #[.pointer (some ⟨p, 0, none⟩)] w fun e w' => e = .returned (.agg #[.pointer (some ⟨P.pm, 0, none⟩), .pointer (some ⟨P.pc, 0, none⟩), .pointer (some ⟨P.pt, 0, none⟩), .pointer (some ⟨P.pl, 0, none⟩), .pointer (some ⟨P.ph, 0, none⟩)]) /\ Below w.heap.size w w' := by
 have H1 := vhide (h.grown hs.c4 (bal (Below.refl _ w) (.cells #[.pointer none, .pointer none, .pointer none, .pointer none, .pointer none] 28)))
 obtain ⟨c0, c1, c2, c3, c4, c5⟩ := H1.out.cells
 clear h hs
 go_enter Tryz.func38, Tryz.ntmps38
 go_wp2
 refine bodyPost_ret (v := .agg #[.pointer (some ⟨P.pm, 0, none⟩), .pointer (some ⟨P.pc, 0, none⟩), .pointer (some ⟨P.pt, 0, none⟩), .pointer (some ⟨P.pl, 0, none⟩), .pointer (some ⟨P.ph, 0, none⟩)]) (by simp [results, Tryz.results38, go_sem]) rfl ⟨rfl, ?_⟩
 repeat (first | exact Below.refl _ _ | (refine Below.setCell ?_ (by simp) _) | (refine Below.alloc ?_ (by simp) _))
theorem pmem_any (h : PIs w p o P s) (hs : Ws s) : Calls Tryz.prog 14 #[.pointer (some ⟨p, 0, none⟩)] w fun e w' => e = .returned (.pointer (some ⟨P.pm, 0, none⟩)) /\ Below w.heap.size w w' := by
 have HS := vhide (pshared_any h hs)
 have q : ∀ w, (Instr.field 28 (.agg #[.pointer (some ⟨P.pm, 0, none⟩), .pointer (some ⟨P.pc, 0, none⟩), .pointer (some ⟨P.pt, 0, none⟩), .pointer (some ⟨P.pl, 0, none⟩), .pointer (some ⟨P.ph, 0, none⟩)]) 0).run Tryz.prog w = .ok (.pointer (some ⟨P.pm, 0, none⟩)) w := fun _ => by kernel_rfl
 clear h hs
 go_enter Tryz.func14, Tryz.ntmps14
 go_wp2_with (first
  | (go_at_call 38; refine HS.out.mono ?_; rintro e w1 ⟨rfl, hm⟩)
  | fail)
 go_ret
 exact ⟨rfl, hm⟩
theorem pclock_any (h : PIs w p o P s) (hs : Ws s) : Calls Tryz.prog 39 #[.pointer (some ⟨p, 0, none⟩)] w fun e w' => e = .returned (.pointer (some ⟨P.pc, 0, none⟩)) /\ Below w.heap.size w w' := by
 have HS := vhide (pshared_any h hs)
 have q : ∀ w, (Instr.field 28 (.agg #[.pointer (some ⟨P.pm, 0, none⟩), .pointer (some ⟨P.pc, 0, none⟩), .pointer (some ⟨P.pt, 0, none⟩), .pointer (some ⟨P.pl, 0, none⟩), .pointer (some ⟨P.ph, 0, none⟩)]) 1).run Tryz.prog w = .ok (.pointer (some ⟨P.pc, 0, none⟩)) w := fun _ => by kernel_rfl
 clear h hs
 go_enter Tryz.func39, Tryz.ntmps39
 go_wp2_with (first
  | (go_at_call 38; refine HS.out.mono ?_; rintro e w1 ⟨rfl, hm⟩)
  | fail)
 go_ret
 exact ⟨rfl, hm⟩
theorem ptyp_any (h : PIs w p o P s) (hs : Ws s) : Calls Tryz.prog 32 #[.pointer (some ⟨p, 0, none⟩)] w fun e w' => e = .returned (.pointer (some ⟨P.pt, 0, none⟩)) /\ Below w.heap.size w w' := by
 have HS := vhide (pshared_any h hs)
 have q : ∀ w, (Instr.field 28 (.agg #[.pointer (some ⟨P.pm, 0, none⟩), .pointer (some ⟨P.pc, 0, none⟩), .pointer (some ⟨P.pt, 0, none⟩), .pointer (some ⟨P.pl, 0, none⟩), .pointer (some ⟨P.ph, 0, none⟩)]) 2).run Tryz.prog w = .ok (.pointer (some ⟨P.pt, 0, none⟩)) w := fun _ => by kernel_rfl
 clear h hs
 go_enter Tryz.func32, Tryz.ntmps32
 go_wp2_with (first
  | (go_at_call 38; refine HS.out.mono ?_; rintro e w1 ⟨rfl, hm⟩)
  | fail)
 go_ret
 exact ⟨rfl, hm⟩
theorem plive_any (h : PIs w p o P s) (hs : Ws s) : Calls Tryz.prog 109 #[.pointer (some ⟨p, 0, none⟩)] w fun e w' => e = .returned (.pointer (some ⟨P.pl, 0, none⟩)) /\ Below w.heap.size w w' := by
 have HS := vhide (pshared_any h hs)
 have q : ∀ w, (Instr.field 28 (.agg #[.pointer (some ⟨P.pm, 0, none⟩), .pointer (some ⟨P.pc, 0, none⟩), .pointer (some ⟨P.pt, 0, none⟩), .pointer (some ⟨P.pl, 0, none⟩), .pointer (some ⟨P.ph, 0, none⟩)]) 3).run Tryz.prog w = .ok (.pointer (some ⟨P.pl, 0, none⟩)) w := fun _ => by kernel_rfl
 clear h hs
 go_enter Tryz.func109, Tryz.ntmps109
 go_wp2_with (first
  | (go_at_call 38; refine HS.out.mono ?_; rintro e w1 ⟨rfl, hm⟩)
  | fail)
 go_ret
 exact ⟨rfl, hm⟩
theorem pcores_any (h : PIs w p o P s) (hs : Ws s) : Calls Tryz.prog 34 #[.pointer (some ⟨p, 0, none⟩)] w fun e w' => e = .returned (.int .i64 s.n) /\ w' = w := by
 obtain ⟨c0, c1, c2, c3, c4, c5⟩ := h.cells
 clear h hs
 generalize s.n = n at c5 ⊢
 go_enter Tryz.func34, Tryz.ntmps34
 go_wp2
 go_ret
 exact ⟨rfl, rfl⟩
theorem pfloors_any (h : PIs w p o P s) (hs : Ws s) : Calls Tryz.prog 51 #[.pointer (some ⟨p, 0, none⟩)] w fun e w' => e = .returned (.tuple #[.int .i64 (Pclock.floE s.n s.C), .int .i64 (Pclock.floF s.n s.C)]) /\ Below w.heap.size w w' := by
 have HK := vhide (pclock_any h hs)
 have HN : Hid (∀ wc, Below w.heap.size w wc -> Calls Tryz.prog 85 #[.pointer (some ⟨P.pc, 0, none⟩)] wc fun e w' => e = .returned (.tuple #[.int .i64 (Pclock.floE s.n s.C), .int .i64 (Pclock.floF s.n s.C)]) /\ Below w.heap.size w w') := fun wc hb =>
  (Pclock.floor_any _ _ _ wc hs.c1 hs.c4 (h.grown hs.c4 hb).clock).mono (by rintro e w' ⟨h1, h2⟩; exact ⟨h1, hb.trans (h2.below.mono hb.size)⟩)
 clear h hs
 generalize Pclock.floE s.n s.C = A at HN ⊢
 generalize Pclock.floF s.n s.C = B at HN ⊢
 go_enter Tryz.func51, Tryz.ntmps51
 go_wp2_with (first
  | (go_at_call 39; refine HK.out.mono ?_; rintro e w1 ⟨rfl, hm⟩; have HM := vhide hm; clear hm HK)
  | (go_at_call 85; refine (HN.out _ HM.out).mono ?_; rintro e w2 ⟨rfl, hm⟩; have HM2 := vhide hm; clear hm HN HM)
  | fail)
 go_ret2
 exact ⟨rfl, HM2.out⟩
end
section
variable {w : World} {p : Nat} {o : Nat -> Nat} {P : Pq} {s : St}
section
variable {wc w' : World} {D : Nat} {k r t l e a : Int}
end
end
section
variable {w : World} {p : Nat} {o : Nat -> Nat} {P : Pq} {s : St}
theorem pclear_any (f : Int) {wc : World} (hs : Ws s) (h : Px w wc p o P s) : Calls Tryz.prog 94 #[.pointer (some ⟨P.pm, 0, none⟩), .int .i64 f] wc fun x w' => x = .returned (.int .i64 (Pmem.errF s.N f)) /\ Px w w' p o P { s with M := Pmem.clM s.N s.M f } := by
 refine (Pmem.clear_any _ _ _ f s.M wc hs.n1 hs.n64 h.v.mem).mono ?_
 rintro x w' ⟨h1, rfl⟩
 have k := tint_row (w := wc) h.v.om.2 (Pmem.cellsM s.N (Pmem.clM s.N s.M f))
 exact ⟨h1, (h.v.left k).turnM (h.v.mem.set _), h.k.trans (pwide 22 (by omega) (by omega) k)⟩
theorem ptretype_any (f tt : Int) (b : Bool) {wc : World} (hs : Ws s) (h : Px w wc p o P s) : Calls Tryz.prog 93 #[.pointer (some ⟨P.pt, 0, none⟩), .int .i64 f, .int .i64 tt, .bool b] wc fun x w' => x = .returned (.int .i64 (Ptyp.errA s.N s.T f (Ptyp.hRt tt b))) /\ Px w w' p o P { s with T := Ptyp.mapA s.N s.T f (Ptyp.gRt tt b) } := by
 refine (Ptyp.retype_any _ _ _ f tt b s.T wc hs.n1 hs.n64 h.v.typ).mono ?_
 rintro x w' ⟨h1, rfl⟩
 have k := tint_row (w := wc) h.v.ot.2 (Ptyp.cellsT s.N (Ptyp.mapA s.N s.T f (Ptyp.gRt tt b)))
 exact ⟨h1, (h.v.left k).turnT (h.v.typ.set (Ptyp.ok_map h.v.typ.ok _ f (Ptyp.ok_rt tt b))), h.k.trans (pwide 24 (by omega) (by omega) k)⟩
theorem ws_T (hs : Ws s) (T : Nat -> Ptyp.FS) : Ws { s with T := T } := ⟨hs.n1, hs.n64, hs.c1, hs.c4⟩
theorem pretype_any (f tt : Int) (h : PIs w p o P s) (hs : Ws s) :
 Calls Tryz.prog 60 #[.pointer (some ⟨p, 0, none⟩), .int .i64 f, .int .i64 tt] w fun x w' => x = .returned (.int .i64 (rtE s f tt)) /\ Px w w' p o P { s with T := rtT s f tt, M := rtM s f tt } := by
 have HS := vhide hs
 have H0 := vhide (px_refl h)
 have HT : Hid (∀ wd, Px w wd p o P s -> Calls Tryz.prog 32 #[.pointer (some ⟨p, 0, none⟩)] wd fun x w' => x = .returned (.pointer (some ⟨P.pt, 0, none⟩)) /\ Below wd.heap.size wd w') := fun wd hd => ptyp_any hd.v hs
 have HC : Hid (∀ wd, Px w wd p o P s -> Calls Tryz.prog 39 #[.pointer (some ⟨p, 0, none⟩)] wd fun x w' => x = .returned (.pointer (some ⟨P.pc, 0, none⟩)) /\ Below wd.heap.size wd w') := fun wd hd => pclock_any hd.v hs
 have HW : Hid (∀ wd, Px w wd p o P s -> Calls Tryz.prog 91 #[.pointer (some ⟨P.pt, 0, none⟩), .int .i64 f] wd fun x w' => x = .returned (.int .i64 (Ptyp.toldA s.N s.T f).was) /\ Below wd.heap.size wd w') := fun wd hd => Ptyp.was_any _ _ _ _ _ wd hs.n1 hs.n64 hd.v.typ
 have HF : Hid (∀ wd, Px w wd p o P s -> Calls Tryz.prog 92 #[.pointer (some ⟨P.pt, 0, none⟩), .int .i64 f] wd fun x w' => x = .returned (.int .i64 (Ptyp.toldA s.N s.T f).fr) /\ Below wd.heap.size wd w') := fun wd hd => Ptyp.freed_any _ _ _ _ _ wd hs.n1 hs.n64 hd.v.typ
 have HQ : Hid (∀ wd, Px w wd p o P s -> Calls Tryz.prog 90 #[.pointer (some ⟨P.pc, 0, none⟩), .int .i64 (Ptyp.toldA s.N s.T f).was, .int .i64 (Ptyp.toldA s.N s.T f).fr] wd fun x w' => x = .returned (.bool (rtB s f)) /\ Below wd.heap.size wd w') := fun wd hd => Pquiet.for_any _ _ _ _ _ wd hs.c1 hs.c4 hd.v.clock
 have HR : Hid (∀ wd, Px w wd p o P s -> Calls Tryz.prog 93 #[.pointer (some ⟨P.pt, 0, none⟩), .int .i64 f, .int .i64 tt, .bool (rtB s f)] wd fun x w' => x = .returned (.int .i64 (rtX s f tt)) /\ Px w w' p o P { s with T := rtT s f tt }) := fun wd hd => ptretype_any f tt (rtB s f) hs hd
 have HM : Hid (∀ wd, Px w wd p o P { s with T := rtT s f tt } -> Calls Tryz.prog 14 #[.pointer (some ⟨p, 0, none⟩)] wd fun x w' => x = .returned (.pointer (some ⟨P.pm, 0, none⟩)) /\ Below wd.heap.size wd w') := fun wd hd => pmem_any hd.v (ws_T hs _)
 have HL : Hid (∀ wd, rtX s f tt = 0 -> Px w wd p o P { s with T := rtT s f tt } -> Calls Tryz.prog 94 #[.pointer (some ⟨P.pm, 0, none⟩), .int .i64 f] wd fun x w' => x = .returned (.int .i64 (rtE s f tt)) /\ Px w w' p o P { s with T := rtT s f tt, M := rtM s f tt }) := fun wd hx hd => by
  have e1 : rtE s f tt = Pmem.errF s.N f := by unfold rtE; rw [if_pos hx]
  have e2 : rtM s f tt = Pmem.clM s.N s.M f := by unfold rtM; rw [if_pos hx]
  rw [e1, e2]
  exact pclear_any f (ws_T hs _) hd
 have HN : Hid (rtX s f tt ≠ 0 -> rtE s f tt = rtX s f tt /\ rtM s f tt = s.M) := fun hx => by unfold rtE rtM; rw [if_neg hx, if_neg hx]; exact ⟨rfl, rfl⟩
 clear h hs
 generalize rtE s f tt = E' at HL HN ⊢
 generalize rtM s f tt = M' at HL HN ⊢
 generalize rtT s f tt = T' at HL HM HR ⊢
 generalize rtX s f tt = X at HL HR HN
 generalize rtB s f = bb at HQ HR
 generalize (Ptyp.toldA s.N s.T f).was = y1 at HW HQ
 generalize (Ptyp.toldA s.N s.T f).fr = y2 at HF HQ
 go_enter Tryz.func60, Tryz.ntmps60
 go_upto_region 4 with (first
  | (go_at_call 32; refine (HT.out _ H0.out).mono ?_; rintro e1 w1 ⟨rfl, hb⟩; have H1 := vhide (H0.out.on HS.out.c4 hb); clear hb HT H0)
  | (go_at_call 39; refine (HC.out _ H1.out).mono ?_; rintro e1 w2 ⟨rfl, hb⟩; have H2 := vhide (H1.out.on HS.out.c4 hb); clear hb HC H1)
  | (go_at_call 91; refine (HW.out _ H2.out).mono ?_; rintro e1 w3 ⟨rfl, hb⟩; have H3 := vhide (H2.out.on HS.out.c4 hb); clear hb HW H2)
  | (go_at_call 92; refine (HF.out _ H3.out).mono ?_; rintro e1 w4 ⟨rfl, hb⟩; have H4 := vhide (H3.out.on HS.out.c4 hb); clear hb HF H3)
  | (go_at_call 90; refine (HQ.out _ H4.out).mono ?_; rintro e1 w5 ⟨rfl, hb⟩; have H5 := vhide (H4.out.on HS.out.c4 hb); clear hb HQ H4)
  | (go_at_call 93; refine (HR.out _ H5.out).mono ?_; rintro e1 w6 ⟨rfl, hb⟩; have H6 := vhide hb; clear hb HR H5)
  | fail)
 by_cases hX : X = 0
 · subst hX
   clear HN
   go_wp2_with (first
    | (go_at_call 14; refine (HM.out _ H6.out).mono ?_; rintro e1 w7 ⟨rfl, hb⟩; have H7 := vhide (H6.out.on HS.out.c4 hb); clear hb HM H6)
    | (go_at_call 94; refine (HL.out _ (by first | rfl | trivial) H7.out).mono ?_; rintro e1 w8 ⟨rfl, hb⟩; have H8 := vhide hb; clear hb HL H7)
    | fail)
   go_ret
   exact ⟨rfl, H8.out⟩
 · have HE := vhide (HN.out hX)
   have hX' : (X != 0) = true := by simp [hX]
   clear hX HN HL
   go_wp2
   go_ret
   exact ⟨by rw [HE.out.1]; rfl, by rw [HE.out.2]; exact H6.out⟩
end
def mkC (P : Pq) (k i : Nat) : Value := if i / 3 < k then coC P (fun _ => -1) i else if i % 3 = 2 then .int .i64 0 else .pointer none
def putP (P : Pq) (k f a m : Nat) : Pq := { P with fb := fun j => if j = k then f else P.fb j, ta := fun j => if j = k then a else P.ta j, tm := fun j => if j = k then m else P.tm j }
theorem mkC_put (P : Pq) (k f a m i : Nat) : (if i = k * 3 + 2 then Value.int .i64 (-1) else if i = k * 3 + 1 then .pointer (some ⟨a, 0, none⟩) else if i = k * 3 then .pointer (some ⟨f, 0, none⟩) else mkC P k i) = mkC (putP P k f a m) (k + 1) i := by
 unfold mkC coC putP
 by_cases h2 : i = k * 3 + 2
 · subst h2
   rw [if_pos rfl, if_pos (by omega), if_neg (by omega), if_neg (by omega)]
 · rw [if_neg h2]
   by_cases h1 : i = k * 3 + 1
   · subst h1
     have e : (k * 3 + 1) / 3 = k := by omega
     rw [if_pos rfl, if_pos (by omega), if_neg (by omega), if_pos (by omega)]
     simp [e]
   · rw [if_neg h1]
     by_cases h0 : i = k * 3
     · subst h0
       have e : k * 3 / 3 = k := by omega
       rw [if_pos rfl, if_pos (by omega), if_pos (by omega)]
       simp [e]
     · rw [if_neg h0]
       have hne : i / 3 ≠ k := by omega
       by_cases hl : i / 3 < k
       · rw [if_pos hl, if_pos (show i / 3 < k + 1 by omega)]
         simp [hne]
       · rw [if_neg hl, if_neg (show ¬ i / 3 < k + 1 by omega)]
structure Mk (w0 w : World) (cb n k : Nat) (c : Nat -> Nat) (P : Pq) (room : Int) : Prop where
 core : Lst w cb 237 (n * 3) (mkC P k)
 lt : cb < w0.heap.size
 tlb : ∀ j, j < k -> Ptlb.TlbIs w (P.ta j) (P.tm j) room []
 oa : ∀ j, j < k -> c (P.ta j) = 27 + 2 * j /\ c (P.tm j) = 27 + 2 * j
 file : ∀ j, j < k -> Pregs.FileIs w (P.fb j) (fun _ => 0)
 ob : ∀ j, j < k -> c (P.fb j) = 28 + 2 * j
 col : ∀ i, c i = 99 \/ (w0.heap.size <= i /\ i < w.heap.size /\ 27 <= c i /\ c i <= 26 + 2 * k)
 but : But cb w0 w
section
variable {w0 w w1 w2 : World} {cb n k : Nat} {c : Nat -> Nat} {P : Pq} {room : Int}
theorem Mk.old (h : Mk w0 w cb n k c P room) {i : Nat} (hi : c i ≠ 99) : w0.heap.size <= i /\ i < w.heap.size := by
 rcases h.col i with e | ⟨a, b, _⟩
 · exact absurd e hi
 · exact ⟨a, b⟩
theorem Mk.step (h : Mk w0 w cb n k c P room) (hk : k < n) (hn : n <= 4) (h1 : Below w.heap.size w w1) {f : Nat} (hf : Pregs.FileIs w1 f (fun _ => 0)) (gf : w.heap.size <= f) {a m : Nat}
 (h2 : Below w1.heap.size (w1.setCell ⟨cb, k * 3, none⟩ (.pointer (some ⟨f, 0, none⟩))) w2) (ht : Ptlb.TlbIs w2 a m room []) (ga : w1.heap.size <= a) (gm : w1.heap.size <= m) :
 ∃ c' P', Mk w0 ((w2.setCell ⟨cb, k * 3 + 1, none⟩ (.pointer (some ⟨a, 0, none⟩))).setCell ⟨cb, k * 3 + 2, none⟩ (.int .i64 (-1))) cb n (k + 1) c' P' room := by
 have hcw : cb < w.heap.size := h.core.lt
 have hc1 : cb < w1.heap.size := Nat.lt_of_lt_of_le hcw h1.size
 have hs1 : (w1.setCell ⟨cb, k * 3, none⟩ (.pointer (some ⟨f, 0, none⟩))).heap.size = w1.heap.size := World.size_setCell _ _ _
 have hfl : f < w1.heap.size := file_lt hf
 have hal : a < w2.heap.size := ht.lt
 have hml : m < w2.heap.size := ht.map.lt
 have hs2 : w1.heap.size <= w2.heap.size := by rw [<- hs1]; exact h2.size
 have L1 : Lst w1 cb 237 (n * 3) (mkC P k) := h.core.on (h1.block cb hcw)
 have L2 := L1.put (c := k * 3) (by omega) (.pointer (some ⟨f, 0, none⟩))
 have L3 := (L2.on (h2.block cb hc1)).put (c := k * 3 + 1) (by omega) (.pointer (some ⟨a, 0, none⟩))
 have L4 := L3.put (c := k * 3 + 2) (by omega) (.int .i64 (-1))
 have far : ∀ i, i ≠ cb -> ((w2.setCell ⟨cb, k * 3 + 1, none⟩ (.pointer (some ⟨a, 0, none⟩))).setCell ⟨cb, k * 3 + 2, none⟩ (.int .i64 (-1))).heap[i]? = w2.heap[i]? := fun i hi =>
  (heap_setCell_other _ _ _ _ hi).trans (heap_setCell_other _ _ _ _ hi)
 have mid : ∀ i, i ≠ cb -> i < w1.heap.size -> w2.heap[i]? = w1.heap[i]? := fun i hi hl => (h2.block i hl).trans (heap_setCell_other _ _ _ _ hi)
 have old : ∀ i, i ≠ cb -> i < w.heap.size -> ((w2.setCell ⟨cb, k * 3 + 1, none⟩ (.pointer (some ⟨a, 0, none⟩))).setCell ⟨cb, k * 3 + 2, none⟩ (.int .i64 (-1))).heap[i]? = w.heap[i]? := fun i hi hl =>
  (far i hi).trans ((mid i hi (Nat.lt_of_lt_of_le hl h1.size)).trans (h1.block i hl))
 have fresh : ∀ i, w.heap.size <= i -> c i = 99 := fun i hi => by
  rcases h.col i with e | ⟨_, e, _⟩
  · exact e
  · omega
 have nb : ∀ {i}, c i ≠ 99 -> i ≠ cb := fun {i} hi e => by
  have := (h.old hi).1
  have := h.lt
  omega
 refine ⟨fun i => if i = f then 28 + 2 * k else if i = a \/ i = m then 27 + 2 * k else c i, putP P k f a m, ?_⟩
 have hsz : ((w2.setCell ⟨cb, k * 3 + 1, none⟩ (.pointer (some ⟨a, 0, none⟩))).setCell ⟨cb, k * 3 + 2, none⟩ (.int .i64 (-1))).heap.size = w2.heap.size := by rw [World.size_setCell, World.size_setCell]
 refine ⟨L4.congr fun i _ => mkC_put P k f a m i, h.lt, fun j hj => ?_, fun j hj => ?_, fun j hj => ?_, fun j hj => ?_, fun i => ?_, ?_⟩
 · by_cases e : j = k
   · subst e
     have : Ptlb.TlbIs ((w2.setCell ⟨cb, j * 3 + 1, none⟩ (.pointer (some ⟨a, 0, none⟩))).setCell ⟨cb, j * 3 + 2, none⟩ (.int .i64 (-1))) a m room [] := ht.on (far a (by omega)) (far m (by omega))
     simpa [putP] using this
   · have hj' : j < k := by omega
     obtain ⟨o1, o2⟩ := h.oa j hj'
     have := (h.tlb j hj').on (old _ (nb (by omega)) (h.old (i := P.ta j) (by omega)).2) (old _ (nb (by omega)) (h.old (i := P.tm j) (by omega)).2)
     simpa [putP, e] using this
 · by_cases e : j = k
   · subst e
     simp only [putP, if_true]
     refine ⟨?_, ?_⟩
     · rw [if_neg (by omega), if_pos (by simp)]
     · rw [if_neg (by omega), if_pos (by simp)]
   · have hj' : j < k := by omega
     obtain ⟨o1, o2⟩ := h.oa j hj'
     have b1 := (h.old (i := P.ta j) (by omega)).2
     have b2 := (h.old (i := P.tm j) (by omega)).2
     have z := h1.size
     simp only [putP, if_neg e]
     refine ⟨?_, ?_⟩
     · rw [if_neg (by omega), if_neg (by omega), o1]
     · rw [if_neg (by omega), if_neg (by omega), o2]
 · by_cases e : j = k
   · subst e
     have : Pregs.FileIs ((w2.setCell ⟨cb, j * 3 + 1, none⟩ (.pointer (some ⟨a, 0, none⟩))).setCell ⟨cb, j * 3 + 2, none⟩ (.int .i64 (-1))) f (fun _ => 0) := ((far f (by omega)).trans (mid f (by omega) hfl)).trans hf
     simpa [putP] using this
   · have hj' : j < k := by omega
     have o1 := h.ob j hj'
     have : Pregs.FileIs ((w2.setCell ⟨cb, k * 3 + 1, none⟩ (.pointer (some ⟨a, 0, none⟩))).setCell ⟨cb, k * 3 + 2, none⟩ (.int .i64 (-1))) (P.fb j) (fun _ => 0) := (old _ (nb (by omega)) (h.old (i := P.fb j) (by omega)).2).trans (h.file j hj')
     simpa [putP, e] using this
 · by_cases e : j = k
   · subst e
     simp only [putP, if_true]
   · have hj' : j < k := by omega
     have o1 := h.ob j hj'
     have b1 := (h.old (i := P.fb j) (by omega)).2
     have z := h1.size
     simp only [putP, if_neg e]
     rw [if_neg (by omega), if_neg (by omega), o1]
 · rw [hsz]
   have z0 := h.but.size
   have z1 := h1.size
   by_cases e1 : i = f
   · rw [if_pos e1]
     right
     omega
   · rw [if_neg e1]
     by_cases e2 : i = a \/ i = m
     · rw [if_pos e2]
       right
       omega
     · rw [if_neg e2]
       rcases h.col i with e | ⟨g1, g2, g3, g4⟩
       · exact .inl e
       · right
         omega
 · have b1 : But cb w0 w1 := h.but.trans (But.of_below cb h1)
   have set : ∀ {a w : World} (_ : But cb a w) (j : Nat) (v : Value), But cb a (w.setCell ⟨cb, j, none⟩ v) := fun {a w} hb j v =>
    ⟨hb.os, hb.tape, hb.output, by rw [World.size_setCell]; exact hb.size, fun i hi hn => (heap_setCell_other _ _ _ _ hn).trans (hb.block i hi hn)⟩
   have b2 : But cb w0 w2 := (set b1 (k * 3) (.pointer (some ⟨f, 0, none⟩))).trans (But.of_below cb (by rw [hs1]; exact h2))
   exact set (set b2 _ _) _ _
theorem pnew1_any {D : Nat} (h : Mk w0 w cb n k c P room) (hk : k < n) (hn : n <= 4) (r0 : 0 <= room) (r8 : room <= 8) (hD : w.cell? ⟨D, 3, none⟩ = some (.int .i64 room)) (nD : D ≠ cb) :
 Calls Tryz.prog 154 #[.pointer (some ⟨cb, k * 3, none⟩), .pointer (some ⟨D, 0, none⟩)] w fun e w' => e = .returned (.tuple #[]) /\ ∃ c' P', Mk w0 w' cb n (k + 1) c' P' room := by
 have HM := vhide h
 have hDl : D < w.heap.size := World.block_lt_of_cell? w ⟨D, 3, none⟩ hD
 have HR : Hid (Calls Tryz.prog 155 #[] w fun e w1 => ∃ f, e = .returned (.pointer (some ⟨f, 0, none⟩)) /\ Below w.heap.size w w1 /\ Pregs.FileIs w1 f (fun _ => 0) /\ w.heap.size <= f) := by
  refine (Pregs.new_any w).mono ?_
  rintro e w1 ⟨h1, rfl⟩
  exact ⟨_, h1, Pregs.newW_below w, Pregs.newW_is w, Nat.le_refl _⟩
 have HK : Hid (∀ wc, Calls Tryz.prog 156 #[.int .i64 room] wc fun e w2 => ∃ a m, e = .returned (.tuple #[.pointer (some ⟨a, 0, none⟩), .int .i64 0]) /\ Below wc.heap.size wc w2 /\ Ptlb.TlbIs w2 a m room [] /\ wc.heap.size <= a /\ wc.heap.size <= m) := fun wc => by
  refine (Ptlb.new_ok room wc r0 r8).mono ?_
  rintro e w1 ⟨h1, h2, h3⟩
  exact ⟨_, _, h1, h3, h2, by omega, Nat.le_refl _⟩
 have HL := vhide (show Lst w cb 237 (n * 3) (mkC P k) from h.core)
 have hb : k * 3 + 2 < n * 3 := by omega
 clear h
 go_enter Tryz.func154, Tryz.ntmps154
 go_upto_region 1 with (first
  | (go_at_call 155; refine HR.out.mono ?_; rintro e1 w1 ⟨f, rfl, hb1, hf1, gf1⟩; have H1 := vhide (And.intro hb1 (And.intro hf1 gf1)); have HL1 := vhide (HL.out.on (hb1.block cb HL.out.lt)); have x0 := HL1.out.cell (j := k * 3) (by omega); have z0 := HL1.out.free (k * 3); have d0 : w1.cell? ⟨D, 3, none⟩ = some (.int .i64 room) := (hb1.cell (p := ⟨D, 3, none⟩) hDl).trans hD; clear hb1 hf1 gf1 HR HL)
  | fail)
 have HL2 := vhide (HL1.out.put (c := k * 3) (by omega) (.pointer (some ⟨f, 0, none⟩)))
 have HS2 : Hid ((w1.setCell ⟨cb, k * 3, none⟩ (.pointer (some ⟨f, 0, none⟩))).heap.size = w1.heap.size) := World.size_setCell _ _ _
 have d2 : (w1.setCell ⟨cb, k * 3, none⟩ (.pointer (some ⟨f, 0, none⟩))).cell? ⟨D, 3, none⟩ = some (.int .i64 room) := (World.cell?_setCell_far _ _ _ _ (by simpa using Ne.symm nD)).trans d0
 clear x0 z0 d0 HL1
 go_upto_region 2 with (first
  | (go_at_call 156; refine (HK.out _).mono ?_; rintro e1 w2 ⟨a, m, rfl, hb2, ht2, ga2, gm2⟩; rw [HS2.out] at hb2 ga2 gm2; have H2 := vhide (And.intro hb2 (And.intro ht2 (And.intro ga2 gm2))); have HL3 := vhide (HL2.out.on (hb2.block cb (by rw [<- HS2.out]; exact HL2.out.lt))); have x1 := HL3.out.cell (j := k * 3 + 1) (by omega); have z1 := HL3.out.free (k * 3 + 1); clear hb2 ht2 ga2 gm2 HK HL2 d2)
  | fail)
 have HL4 := vhide (HL3.out.put (c := k * 3 + 1) (by omega) (.pointer (some ⟨a, 0, none⟩)))
 have x2 := HL4.out.cell (j := k * 3 + 2) (by omega)
 have z2 := HL4.out.free (k * 3 + 2)
 clear x1 z1 HL3 HL4
 go_wp2
 refine ?_
 obtain ⟨b1, f1, g1⟩ := H1.out
 obtain ⟨b2, t2, a2, m2⟩ := H2.out
 go_end0
 exact ⟨rfl, HM.out.step hk hn b1 f1 g1 b2 t2 a2 m2⟩
end
theorem peach_any {w : World} {p cb n D : Nat} {P : Pq} {room : Int} (hn : n <= 4) (r0 : 0 <= room) (r8 : room <= 8) (hC : Lst w cb 237 (n * 3) (mkC P 0)) (hp : w.cell? ⟨p, 5, none⟩ = some (.slice (some ⟨cb, 0, none⟩) n n)) (np : p ≠ cb)
 (hD : w.cell? ⟨D, 3, none⟩ = some (.int .i64 room)) (nD : D ≠ cb) :
 Calls Tryz.prog 153 #[.pointer (some ⟨p, 0, none⟩), .func (.func 154) #[] #[.pointer (some ⟨D, 0, none⟩)]] w fun e w' => e = .returned (.tuple #[]) /\ ∃ c P', Mk w w' cb n n c P' room := by
 have hpl : p < w.heap.size := World.block_lt_of_cell? w ⟨p, 5, none⟩ hp
 have hDl : D < w.heap.size := World.block_lt_of_cell? w ⟨D, 3, none⟩ hD
 have H0 : Hid (Mk w w cb n 0 (fun _ => 99) P room) := ⟨hC, hC.lt, fun j hj => by omega, fun j hj => by omega, fun j hj => by omega, fun j hj => by omega, fun i => .inl rfl, But.refl _ _⟩
 have HP : Hid (∀ wr, But cb w wr -> wr.cell? ⟨p, 5, none⟩ = some (.slice (some ⟨cb, 0, none⟩) n n) /\ wr.cell? ⟨D, 3, none⟩ = some (.int .i64 room)) := fun wr hb => ⟨(hb.cell hpl np).trans hp, (hb.cell hDl nD).trans hD⟩
 have HN : Hid (∀ wr c P k, Mk w wr cb n k c P room -> k < n -> Calls Tryz.prog 154 #[.pointer (some ⟨cb, k * 3, none⟩), .pointer (some ⟨D, 0, none⟩)] wr fun e w' => e = .returned (.tuple #[]) /\ ∃ c' P', Mk w w' cb n (k + 1) c' P' room) := fun wr c P k h hk => pnew1_any h hk hn r0 r8 ((h.but.cell hDl nD).trans hD) nD
 clear hC hD hpl hDl np nD
 go_enter Tryz.func153, Tryz.ntmps153
 go_wp2
 go_loopw [10] (fun i wr => ∃ k : Nat, k <= n /\ i = .int .i64 k /\ ∃ c P', Mk w wr cb n k c P' room) (fun i _ => n - (intOf i).toNat)
 case atStart => exact ⟨0, by omega, rfl, _, _, H0.out⟩
 case round =>
  obtain ⟨k, hk, rfl, c, P', hI⟩ := hrel
  have HI := vhide hI
  clear hI H0
  by_cases hlt : k < n
  · have hki : (k : Int) < (n : Int) := by omega
    obtain ⟨p5, _⟩ := HP.out wr HI.out.but
    go_wp2_with (first
     | (go_at_call 154; refine (HN.out _ _ _ k HI.out hlt).mono ?_; rintro e1 w1 ⟨rfl, c', P'', hI'⟩; have HI' := vhide hI'; clear hI' HN HI)
     | fail)
    go_roundw
    case rel => exact ⟨k + 1, by omega, by go_num, _, _, HI'.out⟩
    case measure => simp [intOf]; omega
  · obtain rfl : k = n := by omega
    go_wp2
    go_end0
    exact ⟨rfl, _, _, HI.out⟩
def ckB (F C Q R : Int) : Bool := (decide (1 <= F) && decide (F <= 64)) && ((decide (1 <= C) && decide (C <= 4)) && ((decide (0 <= Q) && decide (Q <= C)) && (decide (0 <= R) && decide (R <= 8))))
theorem chE_ok {F C Q R : Int} (h : ckB F C Q R = true) : chE F C Q R = 0 /\ (1 <= F /\ F <= 64) /\ (1 <= C /\ C <= 4) /\ (0 <= Q /\ Q <= C) /\ 0 <= R /\ R <= 8 := by
 unfold ckB at h
 simp only [Bool.and_eq_true, decide_eq_true_eq] at h
 refine ⟨?_, h.1, h.2.1, h.2.2.1, h.2.2.2⟩
 unfold chE
 rw [if_neg (by omega)]
theorem chE_bad {F C Q R : Int} (h : ckB F C Q R = false) : chE F C Q R = 1 /\ (F < 1 \/ (¬ F < 1 /\ 64 < F) \/ (¬ F < 1 /\ ¬ 64 < F /\ C < 1) \/ (¬ F < 1 /\ ¬ 64 < F /\ ¬ C < 1 /\ 4 < C) \/ (¬ F < 1 /\ ¬ 64 < F /\ ¬ C < 1 /\ ¬ 4 < C /\ Q < 0) \/ (¬ F < 1 /\ ¬ 64 < F /\ ¬ C < 1 /\ ¬ 4 < C /\ ¬ Q < 0 /\ C < Q) \/ (¬ F < 1 /\ ¬ 64 < F /\ ¬ C < 1 /\ ¬ 4 < C /\ ¬ Q < 0 /\ ¬ C < Q /\ R < 0) \/ (¬ F < 1 /\ ¬ 64 < F /\ ¬ C < 1 /\ ¬ 4 < C /\ ¬ Q < 0 /\ ¬ C < Q /\ ¬ R < 0 /\ 8 < R)) := by
 unfold ckB at h
 have h' : ¬ ((1 <= F /\ F <= 64) /\ ((1 <= C /\ C <= 4) /\ ((0 <= Q /\ Q <= C) /\ (0 <= R /\ R <= 8)))) := fun e => by
  have : ckB F C Q R = true := by unfold ckB; simp only [Bool.and_eq_true, decide_eq_true_eq]; exact e
  unfold ckB at this
  rw [this] at h
  cases h
 refine ⟨?_, by omega⟩
 unfold chE
 rw [if_pos (by omega)]
theorem pcheck_any (F C Q R : Int) (w : World) : Calls Tryz.prog 147 #[.agg #[.int .i64 F, .int .i64 C, .int .i64 Q, .int .i64 R]] w fun e w' => e = .returned (.int .i64 (chE F C Q R)) /\ w' = w.alloc (.cells #[.int .i64 F, .int .i64 C, .int .i64 Q, .int .i64 R] 131) := by
 cases hb : ckB F C Q R
 · obtain ⟨e, h⟩ := chE_bad hb
   rw [e]
   clear e hb
   rcases h with f1 | ⟨f1, f2⟩ | ⟨f1, f2, f3⟩ | ⟨f1, f2, f3, f4⟩ | ⟨f1, f2, f3, f4, f5⟩ | ⟨f1, f2, f3, f4, f5, f6⟩ | ⟨f1, f2, f3, f4, f5, f6, f7⟩ | ⟨f1, f2, f3, f4, f5, f6, f7, f8⟩
   all_goals
    go_enter Tryz.func147, Tryz.ntmps147
    go_wp2
    go_ret
    exact ⟨rfl, rfl⟩
 · obtain ⟨e, ⟨g1, g2⟩, ⟨g3, g4⟩, ⟨g5, g6⟩, g7, g8⟩ := chE_ok hb
   rw [e]
   have f1 : ¬ F < 1 := by omega
   have f2 : ¬ 64 < F := by omega
   have f3 : ¬ C < 1 := by omega
   have f4 : ¬ 4 < C := by omega
   have f5 : ¬ Q < 0 := by omega
   have f6 : ¬ C < Q := by omega
   have f7 : ¬ R < 0 := by omega
   have f8 : ¬ 8 < R := by omega
   clear e hb g1 g2 g3 g4 g5 g6 g7 g8
   go_enter Tryz.func147, Tryz.ntmps147
   go_wp2
   go_ret
   exact ⟨rfl, rfl⟩
theorem keep1 {w w' : World} {D j : Nat} {v : Value} (hB : Below w.heap.size w w') (h : w.cell? ⟨D, j, none⟩ = some v) : w'.cell? ⟨D, j, none⟩ = some v := (hB.cell (p := ⟨D, j, none⟩) (World.block_lt_of_cell? _ ⟨D, j, none⟩ h)).trans h
structure N0 (w0 w : World) (D N n : Nat) (Q room : Int) : Prop where
 box : w.heap[D]? = some (.cells #[.int .i64 N, .int .i64 n, .int .i64 Q, .int .i64 room] 131 (0, 0))
 below : Below w0.heap.size w0 w
theorem N0.on {w0 w w' : World} {D N n : Nat} {Q room : Int} (h : N0 w0 w D N n Q room) (hB : Below w.heap.size w w') : N0 w0 w' D N n Q room := ⟨(hB.block D (Array.getElem?_eq_some_iff.1 h.box).1).trans h.box, h.below.trans (hB.mono h.below.size)⟩
theorem N0.cells {w0 w : World} {D N n : Nat} {Q room : Int} (h : N0 w0 w D N n Q room) : w.cell? ⟨D, 0, none⟩ = some (.int .i64 N) /\ w.cell? ⟨D, 1, none⟩ = some (.int .i64 n) /\ w.cell? ⟨D, 2, none⟩ = some (.int .i64 Q) /\ w.cell? ⟨D, 3, none⟩ = some (.int .i64 room) := by
 refine ⟨?_, ?_, ?_, ?_⟩ <;> rw [cell_of_row w D _ _ _ _ h.box] <;> rfl
structure N4 (w0 w : World) (D N n : Nat) (Q room : Int) (pm bm pc pt rt : Nat) : Prop where
 box : w.heap[D]? = some (.cells #[.int .i64 N, .int .i64 n, .int .i64 Q, .int .i64 room] 131 (0, 0))
 mem : Pmem.MemIs w pm bm N (fun _ _ => 0)
 clock : Pclock.ClockIs w pc n (Pclock.newS n)
 typ : Ptyp.TblIs w pt rt N (fun _ => Ptyp.noFS)
 ge : w0.heap.size <= pm /\ w0.heap.size <= bm /\ w0.heap.size <= pc /\ w0.heap.size <= pt /\ w0.heap.size <= rt
 below : Below w0.heap.size w0 w
structure N7 (w0 w : World) (D N n : Nat) (Q room : Int) (pm bm pc pt rt pl rl ph bh cb : Nat) : Prop where
 n4 : N4 w0 w D N n Q room pm bm pc pt rt
 live : Plive.TblIs w pl rl 64 (fun _ => Plive.noLS)
 lines : Phw.LinesIs w ph bh (fun _ => 0)
 core : Lst w cb 237 (n * 3) (mkC noPq 0)
 ge : w0.heap.size <= pl /\ w0.heap.size <= rl /\ w0.heap.size <= ph /\ w0.heap.size <= bh /\ w0.heap.size <= cb
section
variable {w0 w w' : World} {D N n : Nat} {Q room : Int} {pm bm pc pt rt pl rl ph bh cb : Nat}
theorem N4.on (h : N4 w0 w D N n Q room pm bm pc pt rt) (hB : Below w.heap.size w w') : N4 w0 w' D N n Q room pm bm pc pt rt :=
 ⟨(hB.block D (Array.getElem?_eq_some_iff.1 h.box).1).trans h.box, h.mem.on (hB.block _ h.mem.lt.1) (hB.block _ h.mem.lt.2), h.clock.on (hB.block _ h.clock.lt), h.typ.more hB, h.ge, h.below.trans (hB.mono h.below.size)⟩
theorem N4.cells (h : N4 w0 w D N n Q room pm bm pc pt rt) : w.cell? ⟨D, 0, none⟩ = some (.int .i64 N) /\ w.cell? ⟨D, 1, none⟩ = some (.int .i64 n) /\ w.cell? ⟨D, 2, none⟩ = some (.int .i64 Q) /\ w.cell? ⟨D, 3, none⟩ = some (.int .i64 room) := by
 refine ⟨?_, ?_, ?_, ?_⟩ <;> rw [cell_of_row w D _ _ _ _ h.box] <;> rfl
end
theorem lst_on {w w' : World} {r n : Nat} {t : TypeId} {f : Nat -> Value} (h : Lst w r t n f) (hB : Below w.heap.size w w') : Lst w' r t n f := h.on (hB.block _ h.lt)
theorem lines_more {w w' : World} {p b : Nat} {S : Nat -> Int} (h : Phw.LinesIs w p b S) (hB : Below w.heap.size w w') : Phw.LinesIs w' p b S := h.on (hB.block _ h.lt.1) (hB.block _ h.lt.2)
theorem infoCore : (Tryz.prog.info? 237).map (fun i => (i.zero, i.size, i.bytes)) = some (some (.agg #[.pointer none, .pointer none, .int .i64 0]), 3, 24) := by kernel_rfl
theorem make_cores (n : Nat) (hn : n <= 4) (w : World) :
 (Instr.makeSlice 29 (.int .i64 n) (.int .i64 n)).run Tryz.prog w = .ok (.slice (some ⟨w.heap.size, 0, none⟩) n n) (w.alloc (.cells (madeCells #[.pointer none, .pointer none, .int .i64 0] (n * 3)) 237)) := by
 obtain ⟨i0, hi, hz0, hz1, hz2⟩ := info_parts infoCore
 have := run_make (P := Tryz.prog) w 29 237 i0 _ Tryz.underlying29 hi hz0 .i64 .i64 n n (by omega) (by omega) (by rw [hz2]; omega) (by omega)
 rw [hz1] at this
 simpa [Value.cells] using this
theorem cores_new (w : World) (n : Nat) : Lst (w.alloc (.cells (madeCells #[.pointer none, .pointer none, .int .i64 0] (n * 3)) 237)) w.heap.size 237 (n * 3) (mkC noPq 0) := by
 refine ⟨_, heap_alloc_new w _, fun j hj => ?_⟩
 unfold mkC
 rw [if_neg (by omega)]
 rcases (show j % 3 = 0 \/ j % 3 = 1 \/ j % 3 = 2 by omega) with e | e | e <;> simp [madeCells, hj, e]
def coresO (n : Nat) : Obj := .cells (madeCells #[.pointer none, .pointer none, .int .i64 0] (n * 3)) 237
def machO (pm pc pt pl ph cb n : Nat) : Obj := .cells #[.pointer (some ⟨pm, 0, none⟩), .pointer (some ⟨pc, 0, none⟩), .pointer (some ⟨pt, 0, none⟩), .pointer (some ⟨pl, 0, none⟩), .pointer (some ⟨ph, 0, none⟩), .slice (some ⟨cb, 0, none⟩) n n] 31
structure N8 (w0 w : World) (D N n : Nat) (Q room : Int) (pm bm pc pt rt pl rl ph bh cb p : Nat) : Prop where
 n7 : N7 w0 w D N n Q room pm bm pc pt rt pl rl ph bh cb
 head : w.heap[p]? = some (machO pm pc pt pl ph cb n)
 ge : w0.heap.size <= p
section
variable {w0 w5 wl wn : World} {D N n : Nat} {Q room : Int} {pm bm pc pt rt pl rl ph bh : Nat}
theorem n8_c (h4 : N4 w0 w5 D N n Q room pm bm pc pt rt) (hl : Below w5.drew.heap.size w5.drew wl /\ Plive.TblIs wl pl rl 64 (fun _ => Plive.noLS) /\ w5.drew.heap.size <= pl /\ w5.drew.heap.size <= rl) (hn : Below wl.heap.size wl wn /\ Phw.LinesIs wn ph bh (fun _ => 0) /\ wl.heap.size <= ph /\ wl.heap.size <= bh) :
 N8 w0 ((wn.alloc (coresO n)).alloc (machO pm pc pt pl ph wn.heap.size n)) D N n Q room pm bm pc pt rt pl rl ph bh wn.heap.size (wn.heap.size + 1) := by
 obtain ⟨b1, l1, g1, g2⟩ := hl
 obtain ⟨b2, l2, g3, g4⟩ := hn
 have s1 : w5.heap.size <= wl.heap.size := b1.size
 have s0 := h4.below.size
 have b1' : Below w5.heap.size w5 wl := ⟨b1.os, b1.tape, b1.output, b1.size, b1.block⟩
 have e1 : Below wn.heap.size wn ((wn.alloc (coresO n)).alloc (machO pm pc pt pl ph wn.heap.size n)) := bal (bal (Below.refl _ _) _) _
 have s2 := b2.size
 have e2 := b2.trans (e1.mono s2)
 have e3 := b1'.trans (e2.mono s1)
 have g5 : w5.heap.size <= pl := g1
 have g6 : w5.heap.size <= rl := g2
 refine ⟨⟨h4.on e3, l1.more e2, lines_more l2 e1, lst_on (cores_new wn n) (bal (Below.refl _ _) _), ?_⟩, ?_, ?_⟩
 · omega
 · have := heap_alloc_new (wn.alloc (coresO n)) (machO pm pc pt pl ph wn.heap.size n)
   rw [World.size_alloc] at this
   exact this
 · omega
theorem n8_b (h4 : N4 w0 w5 D N n Q room pm bm pc pt rt) (hl : Below w5.drew.heap.size w5.drew wl /\ Plive.TblIs wl pl rl 64 (fun _ => Plive.noLS) /\ w5.drew.heap.size <= pl /\ w5.drew.heap.size <= rl) (hn : Below (wl.alloc (coresO n)).heap.size (wl.alloc (coresO n)) wn /\ Phw.LinesIs wn ph bh (fun _ => 0) /\ (wl.alloc (coresO n)).heap.size <= ph /\ (wl.alloc (coresO n)).heap.size <= bh) :
 N8 w0 (wn.alloc (machO pm pc pt pl ph wl.heap.size n)) D N n Q room pm bm pc pt rt pl rl ph bh wl.heap.size wn.heap.size := by
 obtain ⟨b1, l1, g1, g2⟩ := hl
 obtain ⟨b2, l2, g3, g4⟩ := hn
 have s1 : w5.heap.size <= wl.heap.size := b1.size
 have s0 := h4.below.size
 have b1' : Below w5.heap.size w5 wl := ⟨b1.os, b1.tape, b1.output, b1.size, b1.block⟩
 have e1 : Below wn.heap.size wn (wn.alloc (machO pm pc pt pl ph wl.heap.size n)) := bal (Below.refl _ _) _
 have s2 := b2.size
 have e2 := b2.trans (e1.mono s2)
 have e4 : Below wl.heap.size wl (wn.alloc (machO pm pc pt pl ph wl.heap.size n)) := (bal (Below.refl _ wl) (coresO n)).trans (e2.mono (by rw [World.size_alloc]; omega))
 have e3 := b1'.trans (e4.mono s1)
 have g5 : w5.heap.size <= pl := g1
 have g6 : w5.heap.size <= rl := g2
 rw [World.size_alloc] at g3 g4 s2
 refine ⟨⟨h4.on e3, l1.more e4, lines_more l2 e1, lst_on (cores_new wl n) e2, ?_⟩, heap_alloc_new wn _, ?_⟩
 · omega
 · omega
theorem n8_a (h4 : N4 w0 w5 D N n Q room pm bm pc pt rt) (hl : Below (w5.alloc (coresO n)).drew.heap.size (w5.alloc (coresO n)).drew wl /\ Plive.TblIs wl pl rl 64 (fun _ => Plive.noLS) /\ (w5.alloc (coresO n)).drew.heap.size <= pl /\ (w5.alloc (coresO n)).drew.heap.size <= rl) (hn : Below wl.heap.size wl wn /\ Phw.LinesIs wn ph bh (fun _ => 0) /\ wl.heap.size <= ph /\ wl.heap.size <= bh) :
 N8 w0 (wn.alloc (machO pm pc pt pl ph w5.heap.size n)) D N n Q room pm bm pc pt rt pl rl ph bh w5.heap.size wn.heap.size := by
 obtain ⟨b1, l1, g1, g2⟩ := hl
 obtain ⟨b2, l2, g3, g4⟩ := hn
 have hs : (w5.alloc (coresO n)).drew.heap.size = w5.heap.size + 1 := World.size_alloc _ _
 rw [hs] at g1 g2
 have s1 : w5.heap.size + 1 <= wl.heap.size := by rw [<- hs]; exact b1.size
 have s0 := h4.below.size
 have b1' : Below (w5.alloc (coresO n)).heap.size (w5.alloc (coresO n)) wl := ⟨b1.os, b1.tape, b1.output, b1.size, b1.block⟩
 have e1 : Below wn.heap.size wn (wn.alloc (machO pm pc pt pl ph w5.heap.size n)) := bal (Below.refl _ _) _
 have s2 := b2.size
 have e2 := b2.trans (e1.mono s2)
 have e4 := b1'.trans (e2.mono (by rw [World.size_alloc]; omega))
 have e3 : Below w5.heap.size w5 (wn.alloc (machO pm pc pt pl ph w5.heap.size n)) := (bal (Below.refl _ w5) (coresO n)).trans (e4.mono (by rw [World.size_alloc]; omega))
 refine ⟨⟨h4.on e3, l1.more e2, lines_more l2 e1, lst_on (cores_new w5 n) e4, ?_⟩, heap_alloc_new wn _, ?_⟩
 · omega
 · omega
end
def colO (w0 w : World) (bh : Nat) (c : Nat -> Nat) (i : Nat) : Nat :=
 if i < w0.heap.size then 99 else
 match w.heap[i]? with
 | some (.cells _ t _) => if t = 31 then 20 else if t = 237 then 21 else if t = 332 then 22 else if t = 257 then 22 else if t = 108 then 23 else if t = 202 then 24 else if t = 100 then 24 else if t = 281 then 25 else if t = 279 then 25 else if t = 336 then 26 else c i
 | some (.map _ _) => if i = bh then 26 else c i
 | _ => 99
section
variable {w0 w w' : World} {bh : Nat} {c : Nat -> Nat} {i : Nat}
theorem colO_cells {x : Array Value} {t : TypeId} {f : Nat × Nat} (h : w.heap[i]? = some (.cells x t f)) (hi : w0.heap.size <= i) :
 colO w0 w bh c i = if t = 31 then 20 else if t = 237 then 21 else if t = 332 then 22 else if t = 257 then 22 else if t = 108 then 23 else if t = 202 then 24 else if t = 100 then 24 else if t = 281 then 25 else if t = 279 then 25 else if t = 336 then 26 else c i := by
 unfold colO
 rw [if_neg (by omega), h]
theorem colO_map {es : Array MapEntry} {k : Nat} (h : w.heap[i]? = some (.map es k)) (hi : w0.heap.size <= i) : colO w0 w bh c i = if i = bh then 26 else c i := by
 unfold colO
 rw [if_neg (by omega), h]
theorem colO_old (hi : i < w0.heap.size) : colO w0 w bh c i = 99 := by
 unfold colO
 rw [if_pos hi]
theorem colO_rng (hc : ∀ i, c i = 99 \/ (27 <= c i /\ c i <= 34 /\ i < w.heap.size)) : colO w0 w bh c i = 99 \/ (20 <= colO w0 w bh c i /\ colO w0 w bh c i <= 40 /\ i < w.heap.size) := by
 by_cases h0 : i < w0.heap.size
 · exact .inl (colO_old h0)
 · cases hx : w.heap[i]? with
   | none =>
     left
     unfold colO
     rw [if_neg h0, hx]
   | some ob =>
     have hl : i < w.heap.size := (Array.getElem?_eq_some_iff.1 hx).1
     have hc' := hc i
     cases ob with
     | cells x t f =>
       rw [colO_cells hx (by omega)]
       (repeat' split) <;> omega
     | map es k =>
       rw [colO_map hx (by omega)]
       split <;> omega
     | _ =>
       left
       unfold colO
       rw [if_neg h0, hx]
end
theorem ne_t {w : World} {a b : Nat} {x y : Array Value} {t u : TypeId} {f g : Nat × Nat} (ha : w.heap[a]? = some (.cells x t f)) (hb : w.heap[b]? = some (.cells y u g)) (h : t ≠ u) : a ≠ b := fun e => by
 rw [e, hb] at ha
 injection ha with ha
 injection ha with _ h2 _
 exact h h2.symm
theorem pis_end {w0 w w' : World} {D N n : Nat} {Q room : Int} {pm bm pc pt rt pl rl ph bh cb p : Nat} {c : Nat -> Nat} {P : Pq} (h : N8 w0 w D N n Q room pm bm pc pt rt pl rl ph bh cb p) (hn : n <= 4) (k : Mk w w' cb n n c P room) :
 ∃ o P', PIs w' p o P' (nwS N n room) /\ (∀ i, i < w0.heap.size -> o i = 99) /\ (∀ i, o i = 99 \/ (20 <= o i /\ o i <= 40 /\ i < w'.heap.size)) /\ Below w0.heap.size w0 w' := by
 obtain ⟨⟨⟨hbox, hmem, hclock, htyp, ⟨g1, g2, g3, g4, g5⟩, hbel⟩, hlive, hlines, hcore, ⟨g6, g7, g8, g9, g10⟩⟩, hhead, g11⟩ := h
 obtain ⟨cur, hcur, _⟩ := hcore
 have s0 := hbel.size
 have K : ∀ {i : Nat} {x : Array Value} {t : TypeId} {f : Nat × Nat}, w.heap[i]? = some (Obj.cells x t f) -> t ≠ 237 -> w'.heap[i]? = some (Obj.cells x t f) := fun {i x t f} e ht => (k.but.block i (Array.getElem?_eq_some_iff.1 e).1 (ne_t e hcur ht)).trans e
 have hmem' : Pmem.MemIs w' pm bm N (fun _ _ => 0) := ⟨K hmem.head (by decide), K hmem.row (by decide)⟩
 have hclock' : Pclock.ClockIs w' pc n (Pclock.newS n) := ⟨K hclock.row (by decide), hclock.ok⟩
 have htyp' : Ptyp.TblIs w' pt rt N (fun _ => Ptyp.noFS) := ⟨K htyp.head (by decide), K htyp.row (by decide), htyp.ok⟩
 have hlive' : Plive.TblIs w' pl rl 64 (fun _ => Plive.noLS) := ⟨K hlive.head (by decide), K hlive.row (by decide), hlive.ok⟩
 have hhead' := K hhead (by decide)
 have hbl : bh < w.heap.size := hlines.lt.2
 obtain ⟨L, ⟨es, kk, hm, hE⟩, hRl⟩ := hlines.ex
 have nbh : bh ≠ cb := fun e => by
  rw [e, hcur] at hm
  cases hm
 have hm' : w'.heap[bh]? = some (.map es kk) := (k.but.block bh hbl nbh).trans hm
 have hrow' := K hlines.row (by decide)
 have hlines' : Phw.LinesIs w' ph bh (fun _ => 0) := ⟨hrow', L, ⟨es, kk, hm', hE⟩, hRl⟩
 obtain ⟨cur', hcur', _⟩ := k.core
 have hc : ∀ i, c i = 99 \/ (27 <= c i /\ c i <= 34 /\ i < w'.heap.size) := fun i => by
  rcases k.col i with e | ⟨a, b, d, e⟩
  · exact .inl e
  · right
    omega
 refine ⟨colO w0 w' bh c, { pm := pm, bm := bm, pc := pc, pt := pt, rt := rt, pl := pl, rl := rl, ph := ph, bh := bh, cb := cb, ta := P.ta, tm := P.tm, fb := P.fb }, ⟨hhead', ?_, ?_, ?_, ?_, hmem', ⟨?_, ?_⟩, hclock', ?_, htyp', ⟨?_, ?_⟩, hlive', ⟨?_, ?_⟩, hlines', ⟨?_, ?_⟩, ?_, k.tlb, ?_, k.file, ?_⟩, fun i hi => colO_old hi, fun i => colO_rng hc, ?_⟩
 · rw [colO_cells hhead' g11]; rfl
 · intro i h1 h2
   rcases colO_rng (w0 := w0) (w := w') (bh := bh) (i := i) hc with e | ⟨_, _, e⟩
   · omega
   · exact e
 · refine k.core.congr fun j hj => ?_
   unfold mkC coC
   rw [if_pos (by show j / 3 < n; have : j < n * 3 := hj; omega)]
   rfl
 · rw [colO_cells hcur' g10]; rfl
 · rw [colO_cells hmem'.head g1]; rfl
 · rw [colO_cells hmem'.row g2]; rfl
 · rw [colO_cells hclock'.row g3]; rfl
 · rw [colO_cells htyp'.head g4]; rfl
 · rw [colO_cells htyp'.row g5]; rfl
 · rw [colO_cells hlive'.head g6]; rfl
 · rw [colO_cells hlive'.row g7]; rfl
 · rw [colO_cells hrow' g8]; rfl
 · rw [colO_map hm' g9, if_pos rfl]
 · intro i
   exact ⟨Int.le_refl 0, show (0 : Int) <= 64 by decide⟩
 · intro j hj
   have hj' : j < n := hj
   obtain ⟨o1, o2⟩ := k.oa j hj'
   have b1 := (k.old (i := P.ta j) (by omega)).1
   have b2 := (k.old (i := P.tm j) (by omega)).1
   obtain ⟨es2, k2, hm2, _⟩ := (k.tlb j hj').map
   refine ⟨?_, ?_⟩
   · show colO w0 w' bh c (P.ta j) = 27 + 2 * j
     rw [colO_cells (k.tlb j hj').row (by omega), <- o1]; rfl
   · show colO w0 w' bh c (P.tm j) = 27 + 2 * j
     rw [colO_map hm2 (by omega), if_neg (by omega), o2]
 · intro j hj
   have hj' : j < n := hj
   have o1 := k.ob j hj'
   have b1 := (k.old (i := P.fb j) (by omega)).1
   show colO w0 w' bh c (P.fb j) = 28 + 2 * j
   rw [colO_cells (k.file j hj') (by omega), <- o1]; rfl
 · exact hbel.trans (k.but.below g10 s0)
theorem pnew_ok (N n : Nat) (Q room : Int) (w : World) (hb : ckB N n Q room = true) : Calls Tryz.prog 88 #[.agg #[.int .i64 N, .int .i64 n, .int .i64 Q, .int .i64 room]] w fun e w' => ∃ p, e = .returned (.tuple #[.pointer (some ⟨p, 0, none⟩), .int .i64 0]) /\ ∃ o P, PIs w' p o P (nwS N n room) /\ (∀ i, i < w.heap.size -> o i = 99) /\ (∀ i, o i = 99 \/ (20 <= o i /\ o i <= 40 /\ i < w'.heap.size)) /\ Below w.heap.size w w' := by
 obtain ⟨e0, ⟨n1, n64⟩, ⟨c1, c4⟩, _, r0, r8⟩ := chE_ok hb
 have HK : Hid (∀ wc, Calls Tryz.prog 147 #[.agg #[.int .i64 N, .int .i64 n, .int .i64 Q, .int .i64 room]] wc fun e w' => e = .returned (.int .i64 0) /\ Below wc.heap.size wc w') := fun wc => (pcheck_any N n Q room wc).mono (by rintro e w' ⟨h1, rfl⟩; exact ⟨by rw [h1, e0], bal (Below.refl _ _) _⟩)
 have HM : Hid (∀ wc, Calls Tryz.prog 148 #[.int .i64 N] wc fun e w' => ∃ pm bm, e = .returned (.tuple #[.pointer (some ⟨pm, 0, none⟩), .int .i64 0]) /\ Below wc.heap.size wc w' /\ Pmem.MemIs w' pm bm N (fun _ _ => 0) /\ wc.heap.size <= pm /\ wc.heap.size <= bm) := fun wc => (Pmem.new_ok N wc (by omega) (by omega)).mono (by rintro e w' ⟨h1, rfl⟩; exact ⟨_, _, h1, Pmem.newW_below wc N, Pmem.newW_is wc N, by omega, Nat.le_refl _⟩)
 have HC : Hid (∀ wc, Calls Tryz.prog 149 #[.int .i64 n] wc fun e w' => ∃ pc, e = .returned (.tuple #[.pointer (some ⟨pc, 0, none⟩), .int .i64 0]) /\ Below wc.heap.size wc w' /\ Pclock.ClockIs w' pc n (Pclock.newS n) /\ wc.heap.size <= pc) := fun wc => (Pclock.new_ok n wc (by omega) (by omega)).mono (by rintro e w' ⟨h1, h2, h3⟩; exact ⟨_, h1, h3, h2, Nat.le_refl _⟩)
 have HT : Hid (∀ wc, Calls Tryz.prog 150 #[.int .i64 N] wc fun e w' => ∃ pt rt, e = .returned (.tuple #[.pointer (some ⟨pt, 0, none⟩), .int .i64 0]) /\ Below wc.heap.size wc w' /\ Ptyp.TblIs w' pt rt N (fun _ => Ptyp.noFS) /\ wc.heap.size <= pt /\ wc.heap.size <= rt) := fun wc => (Ptyp.new_ok N wc (by omega) (by omega)).mono (by rintro e w' ⟨h1, h2, h3⟩; exact ⟨_, _, h1, h3, h2, by omega, Nat.le_refl _⟩)
 have HL : Hid (∀ wc, Calls Tryz.prog 151 #[] wc fun e w' => ∃ pl rl, e = .returned (.pointer (some ⟨pl, 0, none⟩)) /\ Below wc.heap.size wc w' /\ Plive.TblIs w' pl rl 64 (fun _ => Plive.noLS) /\ wc.heap.size <= pl /\ wc.heap.size <= rl) := fun wc => (Plive.new_any wc).mono (by rintro e w' ⟨h1, h2⟩; exact ⟨_, _, h1, h2.below, h2.tbl, by omega, Nat.le_refl _⟩)
 have HH : Hid (∀ wc, Calls Tryz.prog 152 #[] wc fun e w' => ∃ ph bh, e = .returned (.pointer (some ⟨ph, 0, none⟩)) /\ Below wc.heap.size wc w' /\ Phw.LinesIs w' ph bh (fun _ => 0) /\ wc.heap.size <= ph /\ wc.heap.size <= bh) := fun wc => (Phw.new_any wc).mono (by rintro e w' ⟨p, b, h1, h2, h3, h4⟩; exact ⟨_, _, h1, h4, h2, h3⟩)
 have hn4 : n <= 4 := by omega
 have HEa : Hid (∀ wc pm bm pc pt rt pl rl ph bh cb p D, N8 w wc D N n Q room pm bm pc pt rt pl rl ph bh cb p -> Calls Tryz.prog 153 #[.pointer (some ⟨p, 0, none⟩), .func (.func 154) #[] #[.pointer (some ⟨D, 0, none⟩)]] wc fun e w' => e = .returned (.tuple #[]) /\ ∃ o P, PIs w' p o P (nwS N n room) /\ (∀ i, i < w.heap.size -> o i = 99) /\ (∀ i, o i = 99 \/ (20 <= o i /\ o i <= 40 /\ i < w'.heap.size)) /\ Below w.heap.size w w') := fun wc pm bm pc pt rt pl rl ph bh cb p D h8 => by
  obtain ⟨cur, hcur, _⟩ := h8.n7.core
  have h5 : wc.cell? ⟨p, 5, none⟩ = some (.slice (some ⟨cb, 0, none⟩) n n) := by rw [cell_of_row wc p _ _ _ _ h8.head]; rfl
  refine (peach_any hn4 r0 r8 h8.n7.core h5 (ne_t h8.head hcur (by decide)) h8.n7.n4.cells.2.2.2 (ne_t h8.n7.n4.box hcur (by decide))).mono ?_
  rintro e w' ⟨h1, c, P', hk⟩
  exact ⟨h1, pis_end h8 hn4 hk⟩
 have hmk := make_cores n (by omega)
 have HB0 : Hid (Below w.heap.size w (w.alloc (.cells #[.int .i64 N, .int .i64 n, .int .i64 Q, .int .i64 room] 131))) := bal (Below.refl _ _) _
 have HX0 : Hid ((w.alloc (.cells #[.int .i64 N, .int .i64 n, .int .i64 Q, .int .i64 room] 131)).heap[w.heap.size]? = some (.cells #[.int .i64 N, .int .i64 n, .int .i64 Q, .int .i64 room] 131 (0, 0))) := heap_alloc_new w _
 clear hb e0
 go_enter Tryz.func88, Tryz.ntmps88
 go_upto_region 1 with fail
 have H0 : Hid (N0 w _ w.heap.size N n Q room) := ⟨HX0.out, HB0.out⟩
 clear HB0 HX0
 generalize w.alloc _ = w1 at H0 ⊢
 generalize hD : w.heap.size = D at H0 ⊢
 clear hD
 obtain ⟨c0, c1, c2, c3⟩ := H0.out.cells
 go_upto_region 4 with (first
  | (go_at_call 147; refine (HK.out _).mono ?_; rintro e1 w2 ⟨rfl, hb⟩; have H1 := vhide (H0.out.on hb); clear hb HK H0 c0 c1 c2 c3)
  | fail)
 obtain ⟨c0, c1, c2, c3⟩ := H1.out.cells
 go_upto_region 5 with (first
  | (go_at_call 148; refine (HM.out _).mono ?_; rintro e1 w3 ⟨pm, bm, rfl, hb, hm, g1, g2⟩; have H2 := vhide (H1.out.on hb); have HA := vhide (And.intro hm (And.intro (Nat.le_trans H1.out.below.size g1) (Nat.le_trans H1.out.below.size g2))); clear hb hm g1 g2 HM H1 c0 c1 c2 c3)
  | fail)
 obtain ⟨c0, c1, c2, c3⟩ := H2.out.cells
 go_upto_region 6 with (first
  | (go_at_call 149; refine (HC.out _).mono ?_; rintro e1 w4 ⟨pc, rfl, hb, hm, g1⟩; have H3 := vhide (H2.out.on hb); have HA2 := vhide (And.intro (HA.out.1.on (hb.block _ HA.out.1.lt.1) (hb.block _ HA.out.1.lt.2)) (And.intro HA.out.2 (And.intro hm (Nat.le_trans H2.out.below.size g1)))); clear hb hm g1 HC H2 HA c0 c1 c2 c3)
  | fail)
 obtain ⟨c0, c1, c2, c3⟩ := H3.out.cells
 go_upto_region 7 with (first
  | (go_at_call 150; refine (HT.out _).mono ?_; rintro e1 w5 ⟨pt, rt, rfl, hb, hm, g1, g2⟩; have H4 : Hid (N4 w w5 D N n Q room pm bm pc pt rt) := ⟨(H3.out.on hb).box, HA2.out.1.on (hb.block _ HA2.out.1.lt.1) (hb.block _ HA2.out.1.lt.2), HA2.out.2.2.1.on (hb.block _ HA2.out.2.2.1.lt), hm, ⟨HA2.out.2.1.1, HA2.out.2.1.2, HA2.out.2.2.2, Nat.le_trans H3.out.below.size g1, Nat.le_trans H3.out.below.size g2⟩, (H3.out.on hb).below⟩; clear hb hm g1 g2 HT H3 HA2 c0 c1 c2 c3)
  | fail)
 obtain ⟨c0, c1, c2, c3⟩ := H4.out.cells
 have hW : w5.drew.heap.size = w5.heap.size := rfl
 go_region_held3 (fun W => W.cell? ⟨D, 1, none⟩ = some (.int .i64 n)) (first | assumption | exact keepD2 | exact keepD1 | go_keep)
  (first
    | (go_at_call 151; refine (HL.out _).mono ?_; rintro e1 wl ⟨pl, rl, rfl, hb, hm, g1, g2⟩; have HLv := vhide (And.intro hb (And.intro hm (And.intro g1 g2))); have keepD1 : wl.cell? ⟨D, 1, none⟩ = some (.int .i64 n) := keep1 hb (by first | assumption | go_keep); clear hb hm g1 g2 HL)
    | (go_at_call 152; refine (HH.out _).mono ?_; rintro e1 wn ⟨ph, bh, rfl, hb, hm, g1, g2⟩; have HLn := vhide (And.intro hb (And.intro hm (And.intro g1 g2))); have keepD2 : wn.cell? ⟨D, 1, none⟩ = some (.int .i64 n) := keep1 hb (by first | assumption | go_keep); clear hb hm g1 g2 HH)
    | fail)
 all_goals
  first
   | (have H8 := vhide (n8_c H4.out HLv.out HLn.out))
   | (have H8 := vhide (n8_b H4.out HLv.out HLn.out))
   | (have H8 := vhide (n8_a H4.out HLv.out HLn.out))
  unfold coresO machO at H8
  clear H4 HLv HLn
  go_wp2_with (first
   | (go_at_call 153; refine (HEa.out _ _ _ _ _ _ _ _ _ _ _ _ _ H8.out).mono ?_; rintro e1 w9 ⟨rfl, hx⟩; have H9 := vhide hx; clear hx HEa H8)
   | fail)
  go_ret2
  exact ⟨_, rfl, H9.out⟩
section
variable {w : World} {p : Nat} {o : Nat -> Nat} {P : Pq} {s : St}
end
end Ppmach
end Go.Proofs.YtkkclcihjojphaaGreatDoor
