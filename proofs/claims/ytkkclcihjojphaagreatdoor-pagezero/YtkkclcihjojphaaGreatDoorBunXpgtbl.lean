import Derived.Test.YtkkclcihjojphaaGreatDoorBunHead
import Derived.Test.YtkkclcihjojphaaGreatDoorBunQpte
import Derived.Test.YtkkclcihjojphaaGreatDoorBunXradix
set_option linter.unusedVariables false
set_option linter.unusedSimpArgs false
set_option maxRecDepth 100000
set_option maxHeartbeats 20000000
namespace Go.Proofs.YtkkclcihjojphaaGreatDoor
namespace Ppgtbl
open Pbase Pmem Go.RowKit
def tbB (N : Nat) (M : Nat -> Nat -> Int) (f l : Int) : Bool := decide (Phead.ghE N M f = 0) && decide (Phead.ghK N M f = 2) && decide (Phead.ghL N M f = l)
def okI (i : Int) : Bool := decide (0 <= i) && decide (i < 32)
def okG (page : Int) : Bool := decide (0 <= page) && decide (page < 1024)
def enW (N : Nat) (M : Nat -> Nat -> Int) (f i : Int) : Int := ldM N M f (4 + i)
def enE (N : Nat) (M : Nat -> Nat -> Int) (f i : Int) : Int := if okW N f (4 + i) = true then Ppte.getE (enW N M f i) else 1
def enO (N : Nat) (M : Nat -> Nat -> Int) (f i : Int) : Bool := Ppte.getO (enW N M f i)
def enF (N : Nat) (M : Nat -> Nat -> Int) (f i : Int) : Int := Ppte.getF (enW N M f i)
def enR (N : Nat) (M : Nat -> Nat -> Int) (f i : Int) : Int := Ppte.getR (enW N M f i)
def enT (N : Nat) (M : Nat -> Nat -> Int) (f i : Int) : Int := Ppte.getT (enW N M f i)
def enQ (N : Nat) (M : Nat -> Nat -> Int) (f i floor : Int) : Bool := Ppte.quB (enO N M f i) (enF N M f i) (enR N M f i) (enT N M f i) floor
def seM (N : Nat) (M : Nat -> Nat -> Int) (f i : Int) (o : Bool) (g r t : Int) : Nat -> Nat -> Int := if Ppte.rtB o g r t = true then stW N M f (4 + i) (Ppte.wd o g r t) else M
def seE (N : Nat) (f i : Int) (o : Bool) (g r t : Int) : Int := if Ppte.rtB o g r t = true then errW N f (4 + i) else 1
def lfE (N : Nat) (M : Nat -> Nat -> Int) (root page : Int) : Int :=
 if okG page = true then if tbB N M root 0 = true then if enE N M root (page / 32) = 0 /\ enO N M root (page / 32) = true then if tbB N M (enF N M root (page / 32)) 1 = true then 0 else 4 else 9 else 4 else 1
def lfF (N : Nat) (M : Nat -> Nat -> Int) (root page : Int) : Int := if lfE N M root page = 0 then enF N M root (page / 32) else 0
def raE (N : Nat) (M : Nat -> Nat -> Int) (root page : Int) : Int := if lfE N M root page = 0 then enE N M (lfF N M root page) (page % 32) else lfE N M root page
def raO (N : Nat) (M : Nat -> Nat -> Int) (root page : Int) : Bool := decide (lfE N M root page = 0) && enO N M (lfF N M root page) (page % 32)
def raF (N : Nat) (M : Nat -> Nat -> Int) (root page : Int) : Int := if lfE N M root page = 0 then enF N M (lfF N M root page) (page % 32) else 0
def raR (N : Nat) (M : Nat -> Nat -> Int) (root page : Int) : Int := if lfE N M root page = 0 then enR N M (lfF N M root page) (page % 32) else 0
def raT (N : Nat) (M : Nat -> Nat -> Int) (root page : Int) : Int := if lfE N M root page = 0 then enT N M (lfF N M root page) (page % 32) else 0
def okA (f r : Int) : Bool := decide (0 <= f) && decide (f < 64) && decide (1 <= r) && decide (r <= 3)
def maE (N : Nat) (M : Nat -> Nat -> Int) (root page f r floor : Int) : Int :=
 if okA f r = true then if raE N M root page = 0 then if raO N M root page = true then 10 else if enQ N M (lfF N M root page) (page % 32) floor = true then 0 else 6 else raE N M root page else 1
def maM (N : Nat) (M : Nat -> Nat -> Int) (root page f r floor : Int) : Nat -> Nat -> Int := if maE N M root page f r floor = 0 then seM N M (lfF N M root page) (page % 32) true f r 0 else M
def coE (N : Nat) (M : Nat -> Nat -> Int) (root high f floor : Int) : Int :=
 if okI high = true then if tbB N M root 0 = true /\ tbB N M f 1 = true then if enE N M root high = 0 then if enO N M root high = true then 10 else if enQ N M root high floor = true then 0 else 6 else enE N M root high else 4 else 1
def coM (N : Nat) (M : Nat -> Nat -> Int) (root high f floor : Int) : Nat -> Nat -> Int := if coE N M root high f floor = 0 then seM N M root high true f 3 0 else M
theorem wd_zero : Ppte.wd false 0 0 0 = 0 := by decide +kernel
theorem okI_iff (i : Int) : okI i = true ↔ 0 <= i /\ i < 32 := by simp [okI]
theorem okG_iff (p : Int) : okG p = true ↔ 0 <= p /\ p < 1024 := by simp [okG]
theorem okA_iff (f r : Int) : okA f r = true ↔ 0 <= f /\ f < 64 /\ 1 <= r /\ r <= 3 := by simp [okA, and_assoc]
theorem rt_on {f r : Int} (h : okA f r = true) : Ppte.Rt true f r 0 := by
 have := (okA_iff f r).1 h
 exact ⟨fun _ => by omega, fun e => by cases e⟩
theorem rt_leaf {f : Int} (h0 : 0 <= f) (h1 : f < 64) : Ppte.Rt true f 3 0 := ⟨fun _ => by omega, fun e => by cases e⟩
theorem en_ok {N : Nat} {M : Nat -> Nat -> Int} {f i : Int} (h : enE N M f i = 0) : okW N f (4 + i) = true := by
 unfold enE at h
 by_cases k : okW N f (4 + i) = true
 · exact k
 · rw [if_neg k] at h; cases h
theorem tb_okF {N : Nat} {M : Nat -> Nat -> Int} {f l : Int} (h : tbB N M f l = true) : okF N f = true := by
 simp only [tbB, Bool.and_eq_true, decide_eq_true_eq] at h
 have h1 := h.1.1
 unfold Phead.ghE at h1
 by_cases k : okF N f = true
 · exact k
 · rw [if_neg k] at h1; cases h1
theorem seM_yes {N : Nat} {M : Nat -> Nat -> Int} {f i : Int} {o : Bool} {g r t : Int} (h : Ppte.Rt o g r t) : seM N M f i o g r t = stW N M f (4 + i) (Ppte.wd o g r t) := by unfold seM; rw [if_pos (Ppte.rtB_yes h)]
theorem seE_yes {N : Nat} {f i : Int} {o : Bool} {g r t : Int} (h : Ppte.Rt o g r t) (hk : okW N f (4 + i) = true) : seE N f i o g r t = 0 := by
 unfold seE errW
 rw [if_pos (Ppte.rtB_yes h), if_pos hk]
theorem en_none {N : Nat} {M : Nat -> Nat -> Int} {f i : Int} (h : enE N M f i ≠ 0) : enO N M f i = false /\ enF N M f i = 0 /\ enR N M f i = 0 /\ enT N M f i = 0 := by
 have key : ¬ Ppte.Got (enW N M f i) \/ enW N M f i = 0 := by
  by_cases k : okW N f (4 + i) = true
  · left
    intro hg
    unfold enE at h
    rw [if_pos k] at h
    exact h (Ppte.get_yes hg).2.2.2.2
  · right
    unfold enW ldM
    rw [if_neg k]
 rcases key with k | k
 · obtain ⟨e0, e1, e2, e3, _⟩ := Ppte.get_no k
   exact ⟨e0, e1, e2, e3⟩
 · unfold enO enF enR enT
   rw [k]
   have : Ppte.wd false 0 0 0 = 0 := wd_zero
   obtain ⟨e0, e1, e2, e3, _⟩ := Ppte.got_back (o := false) (f := 0) (r := 0) (t := 0) ⟨fun e => (by cases e), fun _ => by omega⟩
   rw [this] at e0 e1 e2 e3
   exact ⟨e0, e1, e2, e3⟩
end Ppgtbl
namespace Ppgtbl
open Pbase Pmem Pradix Go.RowKit
theorem hide {q : Prop} (h : q) : Hid q := h
theorem wp_ne {w : World} {p b N : Nat} {M : Nat -> Nat -> Int} (hM : MemIs w p b N M) (h : Wp w) : 2 ≠ b := by
 intro e
 obtain ⟨t, fr, hr⟩ := h.p
 rw [e, hM.row] at hr
 simp only [Option.some.injEq, Obj.cells.injEq] at hr
 have := congrArg Array.size hr.1
 rw [cellsM_size] at this
 simp at this
 omega
theorem wp_but {w w' : World} {b : Nat} (h : Wp w) (hB : But b w w') (hn : 2 ≠ b) : Wp w' :=
 ⟨Nat.lt_of_lt_of_le h.lp hB.size, by obtain ⟨t, fr, hr⟩ := h.p; exact ⟨t, fr, (hB.block 2 h.lp hn).trans hr⟩⟩
theorem pt_ne {w : World} {p b N : Nat} {M : Nat -> Nat -> Int} (hM : MemIs w p b N M) (h : Ppte.TabW w) : 0 ≠ b := by
 intro e
 obtain ⟨t, fr, hr⟩ := h.row
 rw [e, hM.row] at hr
 simp only [Option.some.injEq, Obj.cells.injEq] at hr
 have := congrArg Array.size hr.1
 rw [cellsM_size] at this
 simp at this
 omega
theorem pt_but {w w' : World} {b : Nat} (h : Ppte.TabW w) (hB : But b w w') (hn : 0 ≠ b) : Ppte.TabW w' :=
 ⟨Nat.lt_of_lt_of_le h.lt hB.size, by obtain ⟨t, fr, hr⟩ := h.row; exact ⟨t, fr, (hB.block 0 h.lt hn).trans hr⟩⟩
structure Tb (w : World) : Prop where
 th : Phead.TabW w
 tp : Ppte.TabW w
 tr : Wp w
theorem Tb.on {w w' : World} (h : Tb w) (hB : Below w.heap.size w w') : Tb w' := ⟨h.th.on hB, h.tp.on hB, h.tr.on hB⟩
structure Mx (w : World) (p b N : Nat) (M : Nat -> Nat -> Int) : Prop where
 mem : MemIs w p b N M
 tb : Tb w
 fit : Fit M
 n1 : 1 <= N
 n64 : N <= 64
theorem Mx.on {w w' : World} {p b N : Nat} {M : Nat -> Nat -> Int} (h : Mx w p b N M) (hB : Below w.heap.size w w') : Mx w' p b N M :=
 ⟨h.mem.grown hB, h.tb.on hB, h.fit, h.n1, h.n64⟩
theorem Mx.but {w w' : World} {p b N : Nat} {M M' : Nat -> Nat -> Int} (h : Mx w p b N M) (hM : MemIs w' p b N M') (hF : Fit M') (hB : But b w w') : Mx w' p b N M' :=
 ⟨hM, ⟨h.tb.th.but hB (Phead.tab_ne h.mem h.tb.th), pt_but h.tb.tp hB (pt_ne h.mem h.tb.tp), wp_but h.tb.tr hB (wp_ne h.mem h.tb.tr)⟩, hF, h.n1, h.n64⟩
theorem isEntry_any (i : Int) (w : World) : Calls Tryz.prog 43 #[.int .i64 i] w fun x w' => x = .returned (.bool (okI i)) /\ w' = w := by
 obtain ⟨R, hR⟩ : ∃ R, okI i = R := ⟨_, rfl⟩
 rw [hR]
 have HR := hide hR
 clear hR
 have hk : i < 0 \/ (¬ i < 0 /\ i < 32) \/ ¬ i < 0 /\ ¬ i < 32 := by omega
 rcases hk with h0 | ⟨h0, h1⟩ | ⟨h0, h1⟩
 all_goals
  go_enter Tryz.func43, Tryz.ntmps43
  go_wp2
  go_ret
  refine ⟨?_, rfl⟩
  rw [<- HR.out]
  simp [okI]
  try omega
theorem rt_laid {w w1 : World} (hb : Below w.heap.size w w1) (k l : Int) (z : Bool) (t : Int) : Below w.heap.size w (w1.alloc (.cells #[.int .i64 k, .int .i64 l, .bool z, .int .i64 t] 114)) /\ Phead.Box4 (w1.alloc (.cells #[.int .i64 k, .int .i64 l, .bool z, .int .i64 t] 114)) w1.heap.size k l z t :=
 ⟨bal hb _, Phead.box4_new w1 k l z t 114⟩
theorem isTable_any (p b N : Nat) (f l : Int) (M : Nat -> Nat -> Int) (w : World) (h : Mx w p b N M) : Calls Tryz.prog 44 #[.pointer (some ⟨p, 0, none⟩), .int .i64 f, .int .i64 l] w fun x w' => x = .returned (.bool (tbB N M f l)) /\ Below w.heap.size w w' := by
 have HG := hide (Phead.hget_any p b N f M w h.n1 h.n64 h.mem h.tb.th h.fit)
 clear h
 unfold tbB
 generalize Phead.ghK N M f = K at HG ⊢
 generalize Phead.ghL N M f = L at HG ⊢
 generalize Phead.ghZ N M f = Z at HG ⊢
 generalize Phead.ghT N M f = T at HG ⊢
 generalize Phead.ghE N M f = E at HG ⊢
 obtain ⟨R, hR⟩ : ∃ R, (decide (E = 0) && decide (K = 2) && decide (L = l)) = R := ⟨_, rfl⟩
 rw [hR]
 have HR := hide hR
 clear hR
 have hcase : ((E == 0) = true /\ (K == 2) = true /\ (L == l) = true) \/ ((E == 0) = true /\ (K == 2) = true /\ (L == l) = false) \/ ((E == 0) = true /\ (K == 2) = false) \/ (E == 0) = false := by
  simp only [beq_eq_false_iff_ne, ne_eq, beq_iff_eq]
  omega
 rcases hcase with ⟨h1, h2, h3⟩ | ⟨h1, h2, h3⟩ | ⟨h1, h2⟩ | h1
 all_goals
  go_enter Tryz.func44, Tryz.ntmps44
  go_upto_region 2 with (first
   | (go_at_call 78; refine HG.out.mono ?_; rintro e1 w1 ⟨rfl, hb⟩; have H1 : Hid (Below w.heap.size w w1) := hb; clear hb)
   | fail)
  have HL := rt_laid H1.out K L Z T
  generalize w1.alloc _ = w2 at HL ⊢
  generalize w1.heap.size = D at HL ⊢
  have H2 := hide HL.1
  have x0 := HL.2.c0
  have x1 := HL.2.c1
  have x2 := HL.2.c2
  clear HL H1 HG
  first
   | (go_quiet (fail)
      go_wp2
      go_ret
      have hr := HR.out
      simp_all
      exact H2.out.trans (below_drew' _ _ _))
   | (go_wp2
      go_ret
      have hr := HR.out
      simp_all
      exact H2.out)
theorem page_parts {page : Int} (h : okG page = true) : pgE (page * 32) = 0 /\ pgH (page * 32) = page / 32 /\ pgL (page * 32) = page % 32 := by
 have := (okG_iff page).1 h
 obtain ⟨e1, e2, e3, _⟩ := pg_yes (a := page * 32) (by omega)
 exact ⟨e1, by rw [e2]; omega, by rw [e3]; omega⟩
def cuH (page : Int) : Int := if okG page = true then page / 32 else 0
def cuL (page : Int) : Int := if okG page = true then page % 32 else 0
def cuE (page : Int) : Int := if okG page = true then 0 else 1
theorem cut_any (page : Int) (w : World) (hT : Tb w) : Calls Tryz.prog 83 #[.int .i64 page] w fun x w' => x = .returned (.tuple #[.int .i64 (cuH page), .int .i64 (cuL page), .int .i64 (cuE page)]) /\ Below w.heap.size w w' := by
 by_cases hg : okG page = true
 case neg =>
  have hk : page < 0 \/ ¬ page < 0 /\ 1024 <= page := by
   rw [okG_iff] at hg
   omega
  simp only [cuH, cuL, cuE, if_neg hg]
  clear hg hT
  rcases hk with h0 | ⟨h0, h1⟩
  all_goals
   go_enter Tryz.func83, Tryz.ntmps83
   go_wp2
   go_ret3
   exact ⟨rfl, Below.refl _ _⟩
 have hp := (okG_iff page).1 hg
 have h0 : ¬ page < 0 := by omega
 have h1 : ¬ 1024 <= page := by omega
 have hw : wrap64 (page * 32) = page * 32 := by unfold wrap64; omega
 simp only [cuH, cuL, cuE, if_pos hg]
 obtain ⟨e1, e2, e3⟩ := page_parts hg
 have HP := hide (page_wp (page * 32) w (by omega) hT.tr)
 rw [e1, e2, e3] at HP
 clear e1 e2 e3 hp hg hT
 go_enter Tryz.func83, Tryz.ntmps83
 go_wp2_with (first
  | (go_at_call 141; refine HP.out.mono ?_; rintro e1 w1 ⟨rfl, hb⟩; have H1 := hide hb; clear hb)
  | fail)
 go_ret3
 exact ⟨rfl, H1.out⟩
structure Box7 (w : World) (B : Nat) (q : Option Addr) (f a : Int) (o : Bool) (g r t : Int) : Prop where
 lt : B < w.heap.size
 c0 : w.cell? ⟨B, 0, none⟩ = some (.pointer q)
 c1 : w.cell? ⟨B, 1, none⟩ = some (.int .i64 f)
 c2 : w.cell? ⟨B, 2, none⟩ = some (.int .i64 a)
 c3 : w.cell? ⟨B, 3, none⟩ = some (.bool o)
 c4 : w.cell? ⟨B, 4, none⟩ = some (.int .i64 g)
 c5 : w.cell? ⟨B, 5, none⟩ = some (.int .i64 r)
 c6 : w.cell? ⟨B, 6, none⟩ = some (.int .i64 t)
 fz : ∀ j, w.frozen? ⟨B, j, none⟩ = false
theorem Box7.on {w w' : World} {B : Nat} {q : Option Addr} {f a : Int} {o : Bool} {g r t : Int} (h : Box7 w B q f a o g r t) (hB : Below w.heap.size w w') : Box7 w' B q f a o g r t :=
 ⟨Nat.lt_of_lt_of_le h.lt hB.size, (hB.cell (p := ⟨B, 0, none⟩) h.lt).trans h.c0, (hB.cell (p := ⟨B, 1, none⟩) h.lt).trans h.c1, (hB.cell (p := ⟨B, 2, none⟩) h.lt).trans h.c2, (hB.cell (p := ⟨B, 3, none⟩) h.lt).trans h.c3, (hB.cell (p := ⟨B, 4, none⟩) h.lt).trans h.c4, (hB.cell (p := ⟨B, 5, none⟩) h.lt).trans h.c5, (hB.cell (p := ⟨B, 6, none⟩) h.lt).trans h.c6, fun j => (hB.frozen (p := ⟨B, j, none⟩) h.lt).trans (h.fz j)⟩
theorem box7_new (w : World) (q : Option Addr) (f a : Int) (o : Bool) (g r t : Int) (ty : TypeId) : Box7 (w.alloc (.cells #[.pointer q, .int .i64 f, .int .i64 a, .bool o, .int .i64 g, .int .i64 r, .int .i64 t] ty)) w.heap.size q f a o g r t := by
 have h := heap_alloc_new w (.cells #[.pointer q, .int .i64 f, .int .i64 a, .bool o, .int .i64 g, .int .i64 r, .int .i64 t] ty)
 refine ⟨by simp, ?_, ?_, ?_, ?_, ?_, ?_, ?_, fun j => frozen_of_row _ _ _ _ _ h⟩ <;> (rw [cell_of_row _ _ _ _ _ _ h]; rfl)
structure Er (w0 w : World) (p b N : Nat) (M : Nat -> Nat -> Int) : Prop where
 mx : Mx w p b N M
 below : Below w0.heap.size w0 w
 res : Box7 w w0.heap.size none 0 0 false 0 0 0
theorem Er.on {w0 w w' : World} {p b N : Nat} {M : Nat -> Nat -> Int} (h : Er w0 w p b N M) (hB : Below w.heap.size w w') : Er w0 w' p b N M := ⟨h.mx.on hB, h.below.trans (hB.mono h.below.size), h.res.on hB⟩
theorem er_new {w : World} {p b N : Nat} {M : Nat -> Nat -> Int} (h : Mx w p b N M) : Er w (w.alloc (.cells #[.pointer none, .int .i64 0, .int .i64 0, .bool false, .int .i64 0, .int .i64 0, .int .i64 0] 71)) p b N M :=
 ⟨h.on (bal (Below.refl _ _) _), bal (Below.refl _ _) _, box7_new w none 0 0 false 0 0 0 71⟩
structure Ep (w0 w : World) (p b N : Nat) (M : Nat -> Nat -> Int) (D : Nat) (q : Option Addr) (f a : Int) (o : Bool) (g r t : Int) : Prop where
 er : Er w0 w p b N M
 box : Box7 w D q f a o g r t
 ne : w0.heap.size < D
theorem Ep.on {w0 w w' : World} {p b N : Nat} {M : Nat -> Nat -> Int} {D : Nat} {q : Option Addr} {f a : Int} {o : Bool} {g r t : Int} (h : Ep w0 w p b N M D q f a o g r t) (hB : Below w.heap.size w w') : Ep w0 w' p b N M D q f a o g r t := ⟨h.er.on hB, h.box.on hB, h.ne⟩
theorem Er.more {w0 w : World} {p b N : Nat} {M : Nat -> Nat -> Int} (h : Er w0 w p b N M) (q : Option Addr) (f a : Int) (o : Bool) (g r t : Int) : Ep w0 (w.alloc (.cells #[.pointer q, .int .i64 f, .int .i64 a, .bool o, .int .i64 g, .int .i64 r, .int .i64 t] 71)) p b N M w.heap.size q f a o g r t :=
 ⟨h.on (bal (Below.refl _ _) _), box7_new w q f a o g r t 71, h.res.lt⟩
theorem res7 {w0 w : World} (h : Below w0.heap.size w0 w) (a b c d e f g : Value) : Below w0.heap.size w0 (((((((w.setCell ⟨w0.heap.size, 0, none⟩ a).setCell ⟨w0.heap.size, 1, none⟩ b).setCell ⟨w0.heap.size, 2, none⟩ c).setCell ⟨w0.heap.size, 3, none⟩ d).setCell ⟨w0.heap.size, 4, none⟩ e).setCell ⟨w0.heap.size, 5, none⟩ f).setCell ⟨w0.heap.size, 6, none⟩ g) :=
 bst (bst (bst (bst (bst (bst (bst h (Nat.le_refl _) _ _) (Nat.le_refl _) _ _) (Nat.le_refl _) _ _) (Nat.le_refl _) _ _) (Nat.le_refl _) _ _) (Nat.le_refl _) _ _) (Nat.le_refl _) _ _
theorem mid4 {w0 w : World} (h : Below w0.heap.size w0 w) {D : Nat} (hD : w0.heap.size < D) (a b c d : Value) : Below w0.heap.size w0 ((((w.setCell ⟨D, 3, none⟩ a).setCell ⟨D, 4, none⟩ b).setCell ⟨D, 5, none⟩ c).setCell ⟨D, 6, none⟩ d) :=
 bst (bst (bst (bst h (Nat.le_of_lt hD) _ _) (Nat.le_of_lt hD) _ _) (Nat.le_of_lt hD) _ _) (Nat.le_of_lt hD) _ _
theorem ld_bd {N : Nat} {M : Nat -> Nat -> Int} (hF : Fit M) (f a : Int) : 0 <= ldM N M f a /\ ldM N M f a <= 18446744073709551615 := by
 unfold ldM
 split
 · exact hF _ _
 · omega
theorem read_any (p b N : Nat) (f i : Int) (M : Nat -> Nat -> Int) (w : World) (h : Mx w p b N M) (hi : 0 <= i /\ i < 32) :
 Calls Tryz.prog 45 #[.pointer (some ⟨p, 0, none⟩), .int .i64 f, .int .i64 i] w fun x w' => x = .returned (.tuple #[.agg #[.pointer (some ⟨p, 0, none⟩), .int .i64 f, .int .i64 (4 + i), .bool (enO N M f i), .int .i64 (enF N M f i), .int .i64 (enR N M f i), .int .i64 (enT N M f i)], .int .i64 (enE N M f i)]) /\ Below w.heap.size w w' := by
 obtain ⟨h0, h1⟩ := hi
 have hw : wrap64 (4 + i) = 4 + i := by unfold wrap64; omega
 have HL : Hid (∀ wc, Mx wc p b N M -> Calls Tryz.prog 55 #[.pointer (some ⟨p, 0, none⟩), .int .i64 f, .int .i64 (4 + i)] wc fun x w' => x = .returned (.tuple #[.int .u64 (ldM N M f (4 + i)), .int .i64 (errW N f (4 + i))]) /\ w' = wc) := fun wc hc => load_any p b N f (4 + i) M wc hc.n1 hc.n64 hc.mem
 have hbd := ld_bd (N := N) h.fit f (4 + i)
 have HE := (er_new h).more (some ⟨p, 0, none⟩) f (4 + i) false 0 0 0
 rw [World.size_alloc] at HE
 clear h
 by_cases hk : okW N f (4 + i) = true
 case neg =>
  have e0 : enE N M f i ≠ 0 := by unfold enE; rw [if_neg hk]; decide
  obtain ⟨e1, e2, e3, e4⟩ := en_none e0
  have e5 : enE N M f i = 1 := by unfold enE; rw [if_neg hk]
  rw [e1, e2, e3, e4, e5]
  have e6 : errW N f (4 + i) = 1 := by unfold errW; rw [if_neg hk]
  rw [e6] at HL
  clear e0 e1 e2 e3 e4 e5 e6 hk hbd
  go_enter Tryz.func45, Tryz.ntmps45
  go_upto_region 2 with fail
  generalize (w.alloc _).alloc _ = w1 at HE ⊢
  generalize w.heap.size + 1 = D at HE ⊢
  have H1 := hide HE
  clear HE
  have y0 := H1.out.box.c0
  have y1 := H1.out.box.c1
  have y2 := H1.out.box.c2
  have y3 := H1.out.box.c3
  have y4 := H1.out.box.c4
  have y5 := H1.out.box.c5
  have y6 := H1.out.box.c6
  have x0 := H1.out.er.res.c0
  have x1 := H1.out.er.res.c1
  have x2 := H1.out.er.res.c2
  have x3 := H1.out.er.res.c3
  have x4 := H1.out.er.res.c4
  have x5 := H1.out.er.res.c5
  have x6 := H1.out.er.res.c6
  have z0 := H1.out.er.res.fz
  have ne1 : ¬ D = w.heap.size := Nat.ne_of_gt H1.out.ne
  have ne2 : ¬ w.heap.size = D := Nat.ne_of_lt H1.out.ne
  go_wp2_with (first
   | (go_at_call 55; refine (HL.out _ H1.out.er.mx).mono ?_; rintro e1 w2 ⟨rfl, hw2⟩; subst hw2)
   | fail)
  refine bodyPost_ret (v := .tuple #[.agg #[.pointer (some ⟨p, 0, none⟩), .int .i64 f, .int .i64 (4 + i), .bool false, .int .i64 0, .int .i64 0, .int .i64 0], .int .i64 1]) (by simp [results, Tryz.results45, go_sem, x0, x1, x2, x3, x4, x5, x6]) rfl ⟨rfl, ?_⟩
  exact res7 H1.out.er.below _ _ _ _ _ _ _
 case pos =>
 have e5 : enE N M f i = Ppte.getE (enW N M f i) := by unfold enE; rw [if_pos hk]
 have e6 : errW N f (4 + i) = 0 := by unfold errW; rw [if_pos hk]
 rw [e5]
 rw [e6] at HL
 unfold enO enF enR enT enW
 generalize ldM N M f (4 + i) = x at HL hbd ⊢
 have HG : Hid (∀ wc, Mx wc p b N M -> Calls Tryz.prog 79 #[.int .u64 x] wc fun v w' => v = .returned (.tuple #[.agg #[.bool (Ppte.getO x), .int .i64 (Ppte.getF x), .int .i64 (Ppte.getR x), .int .i64 (Ppte.getT x)], .int .i64 (Ppte.getE x)]) /\ Below wc.heap.size wc w') := fun wc hc => Ppte.get_any x wc hbd hc.tb.tp
 clear e5 e6 hk hbd
 generalize Ppte.getO x = go at HG ⊢
 generalize Ppte.getF x = gf at HG ⊢
 generalize Ppte.getR x = gr at HG ⊢
 generalize Ppte.getT x = gt at HG ⊢
 generalize Ppte.getE x = ge at HG ⊢
 go_enter Tryz.func45, Tryz.ntmps45
 go_upto_region 2 with fail
 generalize (w.alloc _).alloc _ = w1 at HE ⊢
 generalize w.heap.size + 1 = D at HE ⊢
 have H1 := hide HE
 clear HE
 have y0 := H1.out.box.c0
 have y1 := H1.out.box.c1
 have y2 := H1.out.box.c2
 have ne1 : ¬ D = w.heap.size := Nat.ne_of_gt H1.out.ne
 have ne2 : ¬ w.heap.size = D := Nat.ne_of_lt H1.out.ne
 go_wp2_with (first
  | (go_at_call 55; refine (HL.out _ H1.out.er.mx).mono ?_; rintro e1 w2 ⟨rfl, hw2⟩; subst hw2)
  | (go_at_call 79; refine (HG.out _ H1.out.er.mx).mono ?_; rintro e2 w3 ⟨rfl, hb⟩; have H3 := hide (H1.out.on hb); clear hb H1 y0 y1 y2; have y0 := H3.out.box.c0; have y1 := H3.out.box.c1; have y2 := H3.out.box.c2; have y3 := H3.out.box.c3; have y4 := H3.out.box.c4; have y5 := H3.out.box.c5; have y6 := H3.out.box.c6; have x0 := H3.out.er.res.c0; have x1 := H3.out.er.res.c1; have x2 := H3.out.er.res.c2; have x3 := H3.out.er.res.c3; have x4 := H3.out.er.res.c4; have x5 := H3.out.er.res.c5; have x6 := H3.out.er.res.c6; have z0 := H3.out.er.res.fz; have z1 := H3.out.box.fz; have xl := H3.out.er.res.lt; have yl := H3.out.box.lt)
  | fail)
 refine bodyPost_ret (v := .tuple #[.agg #[.pointer (some ⟨p, 0, none⟩), .int .i64 f, .int .i64 (4 + i), .bool go, .int .i64 gf, .int .i64 gr, .int .i64 gt], .int .i64 ge]) (by simp [results, Tryz.results45, go_sem, x0, x1, x2, x3, x4, x5, x6]) rfl ⟨rfl, ?_⟩
 exact res7 (mid4 H3.out.er.below H3.out.ne _ _ _ _) _ _ _ _ _ _ _
def fiP (N : Nat) (M : Nat -> Nat -> Int) (root page : Int) (p : Nat) : Option Addr := if lfE N M root page = 0 then some ⟨p, 0, none⟩ else none
def fiA (N : Nat) (M : Nat -> Nat -> Int) (root page : Int) : Int := if lfE N M root page = 0 then 4 + page % 32 else 0
theorem find_any (p b N : Nat) (root page : Int) (M : Nat -> Nat -> Int) (w : World) (h : Mx w p b N M) :
 Calls Tryz.prog 49 #[.pointer (some ⟨p, 0, none⟩), .int .i64 root, .int .i64 page] w fun x w' => x = .returned (.tuple #[.agg #[.pointer (fiP N M root page p), .int .i64 (lfF N M root page), .int .i64 (fiA N M root page), .bool (raO N M root page), .int .i64 (raF N M root page), .int .i64 (raR N M root page), .int .i64 (raT N M root page)], .int .i64 (raE N M root page)]) /\ Below w.heap.size w w' := by
 have HE := hide (er_new h)
 have HC : Hid (∀ wc, Mx wc p b N M -> Calls Tryz.prog 83 #[.int .i64 page] wc fun x w' => x = .returned (.tuple #[.int .i64 (cuH page), .int .i64 (cuL page), .int .i64 (cuE page)]) /\ Below wc.heap.size wc w') := fun wc hc => cut_any page wc hc.tb
 have HT : Hid (∀ wc, Mx wc p b N M -> Calls Tryz.prog 44 #[.pointer (some ⟨p, 0, none⟩), .int .i64 root, .int .i64 0] wc fun x w' => x = .returned (.bool (tbB N M root 0)) /\ Below wc.heap.size wc w') := fun wc hc => isTable_any p b N root 0 M wc hc
 clear h
 have hno : ∀ E, lfE N M root page = E -> E ≠ 0 -> raE N M root page = E /\ raO N M root page = false /\ raF N M root page = 0 /\ raR N M root page = 0 /\ raT N M root page = 0 /\ fiP N M root page p = none /\ lfF N M root page = 0 /\ fiA N M root page = 0 := fun E e hE => by
  subst e
  simp [raE, raO, raF, raR, raT, fiP, lfF, fiA, hE]
 by_cases hg : okG page = true
 case neg =>
  have e0 : lfE N M root page = 1 := by simp [lfE, hg]
  obtain ⟨f0, f1, f2, f3, f4, f5, f6, f7⟩ := hno 1 e0 (by decide)
  rw [f0, f1, f2, f3, f4, f5, f6, f7]
  have c1 : cuH page = 0 := by simp [cuH, hg]
  have c2 : cuL page = 0 := by simp [cuL, hg]
  have c3 : cuE page = 1 := by simp [cuE, hg]
  rw [c1, c2, c3] at HC
  clear hno e0 f0 f1 f2 f3 f4 f5 f6 f7 c1 c2 c3 hg HT
  go_enter Tryz.func49, Tryz.ntmps49
  go_wp2_with (first
   | (go_at_call 83; refine (HC.out _ HE.out.mx).mono ?_; rintro e1 w1 ⟨rfl, hb⟩; have H1 := hide (HE.out.on hb); clear hb HE; have x0 := H1.out.res.c0; have x1 := H1.out.res.c1; have x2 := H1.out.res.c2; have x3 := H1.out.res.c3; have x4 := H1.out.res.c4; have x5 := H1.out.res.c5; have x6 := H1.out.res.c6; have z0 := H1.out.res.fz; have xl := H1.out.res.lt)
   | fail)
  refine bodyPost_ret (v := .tuple #[.agg #[.pointer none, .int .i64 0, .int .i64 0, .bool false, .int .i64 0, .int .i64 0, .int .i64 0], .int .i64 1]) (by simp [results, Tryz.results49, go_sem, x0, x1, x2, x3, x4, x5, x6]) rfl ⟨rfl, ?_⟩
  exact res7 H1.out.below _ _ _ _ _ _ _
 have hp := (okG_iff page).1 hg
 have c1 : cuH page = page / 32 := by simp [cuH, hg]
 have c2 : cuL page = page % 32 := by simp [cuL, hg]
 have c3 : cuE page = 0 := by simp [cuE, hg]
 rw [c1, c2, c3] at HC
 clear c1 c2 c3
 by_cases h2 : tbB N M root 0 = true
 case neg =>
  have e0 : lfE N M root page = 4 := by simp [lfE, hg, h2]
  obtain ⟨f0, f1, f2, f3, f4, f5, f6, f7⟩ := hno 4 e0 (by decide)
  rw [f0, f1, f2, f3, f4, f5, f6, f7]
  rw [show tbB N M root 0 = false by simpa using h2] at HT
  clear hno e0 f0 f1 f2 f3 f4 f5 f6 f7 hg h2 hp
  generalize page / 32 = X at HC
  generalize page % 32 = Y at HC
  go_enter Tryz.func49, Tryz.ntmps49
  go_wp2_with (first
   | (go_at_call 83; refine (HC.out _ HE.out.mx).mono ?_; rintro e1 w1 ⟨rfl, hb⟩; have H1 := hide (HE.out.on hb); clear hb HE)
   | (go_at_call 44; refine (HT.out _ H1.out.mx).mono ?_; rintro e2 w2 ⟨rfl, hb⟩; have H2 := hide (H1.out.on hb); clear hb H1; have x0 := H2.out.res.c0; have x1 := H2.out.res.c1; have x2 := H2.out.res.c2; have x3 := H2.out.res.c3; have x4 := H2.out.res.c4; have x5 := H2.out.res.c5; have x6 := H2.out.res.c6; have z0 := H2.out.res.fz; have xl := H2.out.res.lt)
   | fail)
  refine bodyPost_ret (v := .tuple #[.agg #[.pointer none, .int .i64 0, .int .i64 0, .bool false, .int .i64 0, .int .i64 0, .int .i64 0], .int .i64 4]) (by simp [results, Tryz.results49, go_sem, x0, x1, x2, x3, x4, x5, x6]) rfl ⟨rfl, ?_⟩
  exact res7 H2.out.below _ _ _ _ _ _ _
 have hx : 0 <= page / 32 /\ page / 32 < 32 := by omega
 have hy : 0 <= page % 32 /\ page % 32 < 32 := by omega
 have HR : Hid (∀ wc, Mx wc p b N M -> Calls Tryz.prog 45 #[.pointer (some ⟨p, 0, none⟩), .int .i64 root, .int .i64 (page / 32)] wc fun x w' => x = .returned (.tuple #[.agg #[.pointer (some ⟨p, 0, none⟩), .int .i64 root, .int .i64 (4 + page / 32), .bool (enO N M root (page / 32)), .int .i64 (enF N M root (page / 32)), .int .i64 (enR N M root (page / 32)), .int .i64 (enT N M root (page / 32))], .int .i64 (enE N M root (page / 32))]) /\ Below wc.heap.size wc w') := fun wc hc => read_any p b N root (page / 32) M wc hc hx
 rw [h2] at HT
 have eL : lfE N M root page = if enE N M root (page / 32) = 0 /\ enO N M root (page / 32) = true then if tbB N M (enF N M root (page / 32)) 1 = true then 0 else 4 else 9 := by simp only [lfE, hg, h2, if_true]
 by_cases h3 : enE N M root (page / 32) = 0 /\ enO N M root (page / 32) = true
 case neg =>
  have e0 : lfE N M root page = 9 := by rw [eL, if_neg h3]
  obtain ⟨f0, f1, f2, f3, f4, f5, f6, f7⟩ := hno 9 e0 (by decide)
  rw [f0, f1, f2, f3, f4, f5, f6, f7]
  clear hno e0 f0 f1 f2 f3 f4 f5 f6 f7 hg h2 hp hx hy eL
  generalize enO N M root (page / 32) = O at HR h3
  generalize enF N M root (page / 32) = F at HR
  generalize enR N M root (page / 32) = R at HR
  generalize enT N M root (page / 32) = T at HR
  generalize enE N M root (page / 32) = E at HR h3
  generalize page / 32 = X at HC HR
  generalize page % 32 = Y at HC
  have hc : (E != 0) = true \/ (E = 0 /\ O = false) := by
   by_cases hE : E = 0
   · exact .inr ⟨hE, by cases O; rfl; exact absurd ⟨hE, rfl⟩ h3⟩
   · exact .inl (by simp [hE])
  clear h3
  go_enter Tryz.func49, Tryz.ntmps49
  go_upto_region 7 with (first
   | (go_at_call 83; refine (HC.out _ HE.out.mx).mono ?_; rintro e1 w1 ⟨rfl, hb⟩; have H1 := hide (HE.out.on hb); clear hb HE)
   | (go_at_call 44; refine (HT.out _ H1.out.mx).mono ?_; rintro e2 w2 ⟨rfl, hb⟩; have H2 := hide (H1.out.on hb); clear hb H1)
   | (go_at_call 45; refine (HR.out _ H2.out.mx).mono ?_; rintro e3 w3 ⟨rfl, hb⟩; have H3 := (H2.out.on hb).more (some ⟨p, 0, none⟩) root (4 + X) O F R T; clear hb H2)
   | fail)
  generalize w3.alloc _ = w4 at H3 ⊢
  generalize w3.heap.size = D at H3 ⊢
  clear HR HC HT
  rcases hc with hE | ⟨rfl, rfl⟩
  all_goals
   have H4 := hide H3
   clear H3
   have x0 := H4.out.er.res.c0
   have x1 := H4.out.er.res.c1
   have x2 := H4.out.er.res.c2
   have x3 := H4.out.er.res.c3
   have x4 := H4.out.er.res.c4
   have x5 := H4.out.er.res.c5
   have x6 := H4.out.er.res.c6
   have z0 := H4.out.er.res.fz
   have xl := H4.out.er.res.lt
   have y3 := H4.out.box.c3
   have yl := H4.out.box.lt
   go_wp2
   refine bodyPost_ret (v := .tuple #[.agg #[.pointer none, .int .i64 0, .int .i64 0, .bool false, .int .i64 0, .int .i64 0, .int .i64 0], .int .i64 9]) (by simp [results, Tryz.results49, go_sem, x0, x1, x2, x3, x4, x5, x6]) rfl ⟨rfl, ?_⟩
   exact res7 H4.out.er.below _ _ _ _ _ _ _
 rw [if_pos h3] at eL
 have HU : Hid (∀ wc, Mx wc p b N M -> Calls Tryz.prog 44 #[.pointer (some ⟨p, 0, none⟩), .int .i64 (enF N M root (page / 32)), .int .i64 1] wc fun x w' => x = .returned (.bool (tbB N M (enF N M root (page / 32)) 1)) /\ Below wc.heap.size wc w') := fun wc hc => isTable_any p b N _ 1 M wc hc
 rw [h3.1, h3.2] at HR
 by_cases h4 : tbB N M (enF N M root (page / 32)) 1 = true
 case neg =>
  have e0 : lfE N M root page = 4 := by rw [eL, if_neg h4]
  obtain ⟨f0, f1, f2, f3, f4, f5, f6, f7⟩ := hno 4 e0 (by decide)
  rw [f0, f1, f2, f3, f4, f5, f6, f7]
  rw [show tbB N M (enF N M root (page / 32)) 1 = false by simpa using h4] at HU
  clear hno e0 f0 f1 f2 f3 f4 f5 f6 f7 hg h2 hp hx hy eL h3 h4
  generalize enF N M root (page / 32) = F at HR HU
  generalize enR N M root (page / 32) = R at HR
  generalize enT N M root (page / 32) = T at HR
  generalize page / 32 = X at HC HR
  generalize page % 32 = Y at HC
  have t1 : True := trivial
  go_enter Tryz.func49, Tryz.ntmps49
  go_upto_region 7 with (first
   | (go_at_call 83; refine (HC.out _ HE.out.mx).mono ?_; rintro e1 w1 ⟨rfl, hb⟩; have H1 := hide (HE.out.on hb); clear hb HE)
   | (go_at_call 44; clear t1; refine (HT.out _ H1.out.mx).mono ?_; rintro e2 w2 ⟨rfl, hb⟩; have H2 := hide (H1.out.on hb); clear hb H1)
   | (go_at_call 45; refine (HR.out _ H2.out.mx).mono ?_; rintro e3 w3 ⟨rfl, hb⟩; have H3 := (H2.out.on hb).more (some ⟨p, 0, none⟩) root (4 + X) true F R T; clear hb H2)
   | fail)
  generalize w3.alloc _ = w4 at H3 ⊢
  generalize w3.heap.size = D at H3 ⊢
  have H4 := hide H3
  clear H3 HT
  have y3 := H4.out.box.c3
  have y4 := H4.out.box.c4
  have yl := H4.out.box.lt
  go_wp2_with (first
   | (go_at_call 44; refine (HU.out _ H4.out.er.mx).mono ?_; rintro e5 w5 ⟨rfl, hb⟩; have H5 := hide (H4.out.on hb); clear hb H4 y3 y4 yl; have x0 := H5.out.er.res.c0; have x1 := H5.out.er.res.c1; have x2 := H5.out.er.res.c2; have x3 := H5.out.er.res.c3; have x4 := H5.out.er.res.c4; have x5 := H5.out.er.res.c5; have x6 := H5.out.er.res.c6; have z0 := H5.out.er.res.fz; have xl := H5.out.er.res.lt)
   | fail)
  refine bodyPost_ret (v := .tuple #[.agg #[.pointer none, .int .i64 0, .int .i64 0, .bool false, .int .i64 0, .int .i64 0, .int .i64 0], .int .i64 4]) (by simp [results, Tryz.results49, go_sem, x0, x1, x2, x3, x4, x5, x6]) rfl ⟨rfl, ?_⟩
  exact res7 H5.out.er.below _ _ _ _ _ _ _
 rw [if_pos h4] at eL
 rw [h4] at HU
 have eF : lfF N M root page = enF N M root (page / 32) := by simp [lfF, eL]
 have g0 : raE N M root page = enE N M (lfF N M root page) (page % 32) := by simp [raE, eL]
 have g1 : raO N M root page = enO N M (lfF N M root page) (page % 32) := by simp [raO, eL]
 have g2 : raF N M root page = enF N M (lfF N M root page) (page % 32) := by simp [raF, eL]
 have g3 : raR N M root page = enR N M (lfF N M root page) (page % 32) := by simp [raR, eL]
 have g4 : raT N M root page = enT N M (lfF N M root page) (page % 32) := by simp [raT, eL]
 have g5 : fiP N M root page p = some ⟨p, 0, none⟩ := by simp [fiP, eL]
 have g6 : fiA N M root page = 4 + page % 32 := by simp [fiA, eL]
 rw [g0, g1, g2, g3, g4, g5, g6, eF]
 clear g0 g1 g2 g3 g4 g5 g6 eF eL h4 h3 h2 hg hno hp hx
 generalize enF N M root (page / 32) = F at HR HU ⊢
 generalize enR N M root (page / 32) = R at HR
 generalize enT N M root (page / 32) = T at HR
 generalize page / 32 = X at HC HR
 generalize page % 32 = Y at HC hy ⊢
 have HV : Hid (∀ wc, Mx wc p b N M -> Calls Tryz.prog 45 #[.pointer (some ⟨p, 0, none⟩), .int .i64 F, .int .i64 Y] wc fun x w' => x = .returned (.tuple #[.agg #[.pointer (some ⟨p, 0, none⟩), .int .i64 F, .int .i64 (4 + Y), .bool (enO N M F Y), .int .i64 (enF N M F Y), .int .i64 (enR N M F Y), .int .i64 (enT N M F Y)], .int .i64 (enE N M F Y)]) /\ Below wc.heap.size wc w') := fun wc hc => read_any p b N F Y M wc hc hy
 clear hy
 generalize enO N M F Y = O2 at HV ⊢
 generalize enF N M F Y = F2 at HV ⊢
 generalize enR N M F Y = R2 at HV ⊢
 generalize enT N M F Y = T2 at HV ⊢
 generalize enE N M F Y = E2 at HV ⊢
 have t1 : True := trivial
 go_enter Tryz.func49, Tryz.ntmps49
 go_upto_region 7 with (first
  | (go_at_call 83; refine (HC.out _ HE.out.mx).mono ?_; rintro e1 w1 ⟨rfl, hb⟩; have H1 := hide (HE.out.on hb); clear hb HE)
  | (go_at_call 44; clear t1; refine (HT.out _ H1.out.mx).mono ?_; rintro e2 w2 ⟨rfl, hb⟩; have H2 := hide (H1.out.on hb); clear hb H1)
  | (go_at_call 45; refine (HR.out _ H2.out.mx).mono ?_; rintro e3 w3 ⟨rfl, hb⟩; have H3 := (H2.out.on hb).more (some ⟨p, 0, none⟩) root (4 + X) true F R T; clear hb H2)
  | fail)
 generalize w3.alloc _ = w4 at H3 ⊢
 generalize w3.heap.size = D at H3 ⊢
 have H4 := hide H3
 clear H3 HT HR
 have y3 := H4.out.box.c3
 have y4 := H4.out.box.c4
 have yl := H4.out.box.lt
 go_wp2_with (first
  | (go_at_call 44; refine (HU.out _ H4.out.er.mx).mono ?_; rintro e5 w5 ⟨rfl, hb⟩; have H5 := hide (H4.out.on hb); clear hb H4 y3 y4 yl; have y3 := H5.out.box.c3; have y4 := H5.out.box.c4; have yl := H5.out.box.lt)
  | (go_at_call 45; refine (HV.out _ H5.out.er.mx).mono ?_; rintro e6 w6 ⟨rfl, hb⟩; have H6 := hide (H5.out.on hb); clear hb H5 y3 y4 yl; have x0 := H6.out.er.res.c0; have x1 := H6.out.er.res.c1; have x2 := H6.out.er.res.c2; have x3 := H6.out.er.res.c3; have x4 := H6.out.er.res.c4; have x5 := H6.out.er.res.c5; have x6 := H6.out.er.res.c6; have z0 := H6.out.er.res.fz; have xl := H6.out.er.res.lt)
  | fail)
 refine bodyPost_ret (v := .tuple #[.agg #[.pointer (some ⟨p, 0, none⟩), .int .i64 F, .int .i64 (4 + Y), .bool O2, .int .i64 F2, .int .i64 R2, .int .i64 T2], .int .i64 E2]) (by simp [results, Tryz.results49, go_sem, x0, x1, x2, x3, x4, x5, x6]) rfl ⟨rfl, ?_⟩
 exact res7 H6.out.er.below _ _ _ _ _ _ _
structure Eb (w0 w : World) (p b N : Nat) (M : Nat -> Nat -> Int) (D D' : Nat) (q : Option Addr) (f a : Int) (o' : Bool) (g' r' t' : Int) (o : Bool) (g r t : Int) : Prop where
 mx : Mx w p b N M
 below : Below w0.heap.size w0 w
 ent : Box7 w D q f a o' g' r' t'
 pte : Ppte.BoxP w D' o g r t
section
variable {w0 w w' : World} {p b N : Nat} {M : Nat -> Nat -> Int} {D D' : Nat} {q : Option Addr} {f a : Int} {o' : Bool} {g' r' t' : Int} {o : Bool} {g r t : Int}
theorem Eb.on (h : Eb w0 w p b N M D D' q f a o' g' r' t' o g r t) (hB : Below w.heap.size w w') : Eb w0 w' p b N M D D' q f a o' g' r' t' o g r t :=
 ⟨h.mx.on hB, h.below.trans (hB.mono h.below.size), h.ent.on hB, h.pte.on hB⟩
theorem eb_new (h : Mx w p b N M) (q : Option Addr) (f a : Int) (o' : Bool) (g' r' t' : Int) (o : Bool) (g r t : Int) : Eb w ((w.alloc (.cells #[.pointer q, .int .i64 f, .int .i64 a, .bool o', .int .i64 g', .int .i64 r', .int .i64 t'] 71)).alloc (.cells #[.bool o, .int .i64 g, .int .i64 r, .int .i64 t] 44)) p b N M w.heap.size (w.heap.size + 1) q f a o' g' r' t' o g r t := by
 have h2 := Ppte.boxP_new (w.alloc (.cells #[.pointer q, .int .i64 f, .int .i64 a, .bool o', .int .i64 g', .int .i64 r', .int .i64 t'] 71)) o g r t 44
 rw [World.size_alloc] at h2
 exact ⟨(h.on (bal (Below.refl _ _) _)).on (bal (Below.refl _ _) _), bal (bal (Below.refl _ _) _) _, (box7_new w q f a o' g' r' t' 71).on (bal (Below.refl _ _) _), h2⟩
end
theorem put_any (p b N : Nat) (f i : Int) (o' : Bool) (g' r' t' : Int) (o : Bool) (g r t : Int) (M : Nat -> Nat -> Int) (w : World) (h : Mx w p b N M) :
 Calls Tryz.prog 37 #[.agg #[.pointer (some ⟨p, 0, none⟩), .int .i64 f, .int .i64 (4 + i), .bool o', .int .i64 g', .int .i64 r', .int .i64 t'], .agg #[.bool o, .int .i64 g, .int .i64 r, .int .i64 t]] w fun x w' => x = .returned (.int .i64 (seE N f i o g r t)) /\ Mx w' p b N (seM N M f i o g r t) /\ But b w w' := by
 have HE := eb_new h (some ⟨p, 0, none⟩) f (4 + i) o' g' r' t' o g r t
 have HM := hide h
 have HP : Hid (∀ wc, Mx wc p b N M -> Calls Tryz.prog 75 #[.agg #[.bool o, .int .i64 g, .int .i64 r, .int .i64 t]] wc fun e w' => e = .returned (.tuple #[.int .u64 (Ppte.putW o g r t), .int .i64 (Ppte.chk o g r t)]) /\ Below wc.heap.size wc w') := fun wc hc => Ppte.put_any o g r t wc hc.tb.tp
 clear h
 by_cases hp : Ppte.Rt o g r t
 case neg =>
  have e1 : seE N f i o g r t = 1 := by unfold seE; rw [Ppte.rtB_no hp]; rfl
  have e2 : seM N M f i o g r t = M := by unfold seM; rw [Ppte.rtB_no hp]; rfl
  rw [e1, e2]
  rw [Ppte.putW_no hp, Ppte.chk_no hp] at HP
  clear e1 e2 hp
  go_enter Tryz.func37, Tryz.ntmps37
  go_upto_region 1 with fail
  generalize (w.alloc _).alloc _ = w1 at HE ⊢
  have H1 := hide HE
  clear HE
  have y0 := H1.out.pte.c0
  have y1 := H1.out.pte.c1
  have y2 := H1.out.pte.c2
  have y3 := H1.out.pte.c3
  go_wp2_with (first
   | (go_at_call 75; refine (HP.out _ H1.out.mx).mono ?_; rintro e2 w2 ⟨rfl, hb⟩; have H2 := hide (H1.out.on hb); clear hb)
   | fail)
  go_ret
  exact ⟨rfl, H2.out.mx, But.of_below b H2.out.below⟩
 case pos =>
 have e1 : seE N f i o g r t = errW N f (4 + i) := by unfold seE; rw [if_pos (Ppte.rtB_yes hp)]
 rw [e1, seM_yes hp]
 rw [Ppte.putW_yes hp, Ppte.chk_yes hp] at HP
 have HF : Hid (Fit (stW N M f (4 + i) (Ppte.wd o g r t))) := HM.out.fit.st N f _ _ (Ppte.wd_bd hp)
 generalize Ppte.wd o g r t = x at HP HF ⊢
 have HS : Hid (∀ wc, Mx wc p b N M -> Calls Tryz.prog 57 #[.pointer (some ⟨p, 0, none⟩), .int .i64 f, .int .i64 (4 + i), .int .u64 x] wc fun e w' => e = .returned (.int .i64 (errW N f (4 + i))) /\ Mx w' p b N (stW N M f (4 + i) x) /\ But b wc w') := fun wc hc => by
  refine (store_any p b N f (4 + i) x M wc hc.n1 hc.n64 hc.mem).mono ?_
  rintro e w' ⟨rfl, rfl⟩
  have hB := (But.refl b wc).setRow (cellsM N (stW N M f (4 + i) x))
  exact ⟨rfl, hc.but (hc.mem.set _) HF.out hB, hB⟩
 generalize errW N f (4 + i) = E at HS ⊢
 generalize stW N M f (4 + i) x = M' at HS ⊢
 generalize 4 + i = A at HS HE ⊢
 clear e1 hp HF
 go_enter Tryz.func37, Tryz.ntmps37
 go_upto_region 1 with fail
 generalize (w.alloc _).alloc _ = w1 at HE ⊢
 have H1 := hide HE
 clear HE
 have y0 := H1.out.pte.c0
 have y1 := H1.out.pte.c1
 have y2 := H1.out.pte.c2
 have y3 := H1.out.pte.c3
 go_wp2_with (first
  | (go_at_call 75; refine (HP.out _ H1.out.mx).mono ?_; rintro e2 w2 ⟨rfl, hb⟩; have H2 := hide (H1.out.on hb); clear hb H1 y0 y1 y2 y3; have x0 := H2.out.ent.c0; have x1 := H2.out.ent.c1; have x2 := H2.out.ent.c2)
  | (go_at_call 57; refine (HS.out _ H2.out.mx).mono ?_; rintro e3 w3 ⟨rfl, hm, hb⟩; have H3 := hide (And.intro hm ((But.of_below b H2.out.below).trans hb)); clear hm hb)
  | fail)
 go_ret
 exact ⟨rfl, H3.out⟩
def flE (N : Nat) (f i : Int) (o' : Bool) (g' r' t' : Int) (o : Bool) (g r t floor : Int) : Int := if o' = true then 10 else if Ppte.quB o' g' r' t' floor = true then seE N f i o g r t else 6
def flM (N : Nat) (M : Nat -> Nat -> Int) (f i : Int) (o' : Bool) (g' r' t' : Int) (o : Bool) (g r t floor : Int) : Nat -> Nat -> Int := if o' = true then M else if Ppte.quB o' g' r' t' floor = true then seM N M f i o g r t else M
theorem fill_any (p b N : Nat) (f i : Int) (o' : Bool) (g' r' t' : Int) (o : Bool) (g r t floor : Int) (M : Nat -> Nat -> Int) (w : World) (h : Mx w p b N M) :
 Calls Tryz.prog 50 #[.agg #[.pointer (some ⟨p, 0, none⟩), .int .i64 f, .int .i64 (4 + i), .bool o', .int .i64 g', .int .i64 r', .int .i64 t'], .agg #[.bool o, .int .i64 g, .int .i64 r, .int .i64 t], .int .i64 floor] w fun x w' => x = .returned (.int .i64 (flE N f i o' g' r' t' o g r t floor)) /\ Mx w' p b N (flM N M f i o' g' r' t' o g r t floor) /\ But b w w' := by
 have HE := eb_new h (some ⟨p, 0, none⟩) f (4 + i) o' g' r' t' o g r t
 have HP : Hid (∀ wc, Mx wc p b N M -> Calls Tryz.prog 37 #[.agg #[.pointer (some ⟨p, 0, none⟩), .int .i64 f, .int .i64 (4 + i), .bool o', .int .i64 g', .int .i64 r', .int .i64 t'], .agg #[.bool o, .int .i64 g, .int .i64 r, .int .i64 t]] wc fun x w' => x = .returned (.int .i64 (seE N f i o g r t)) /\ Mx w' p b N (seM N M f i o g r t) /\ But b wc w') := fun wc hc => put_any p b N f i o' g' r' t' o g r t M wc hc
 have HQ : Hid (∀ wc, Calls Tryz.prog 84 #[.agg #[.bool o', .int .i64 g', .int .i64 r', .int .i64 t'], .int .i64 floor] wc fun e w' => e = .returned (.bool (Ppte.quB o' g' r' t' floor)) /\ Below wc.heap.size wc w') := fun wc => Ppte.quiet_any o' g' r' t' floor wc
 clear h
 unfold flE flM
 generalize Ppte.quB o' g' r' t' floor = U at HQ ⊢
 generalize seE N f i o g r t = E at HP ⊢
 generalize seM N M f i o g r t = M' at HP ⊢
 generalize 4 + i = A at HP HE ⊢
 have hc : o' = true \/ (o' = false /\ U = false) \/ (o' = false /\ U = true) := by cases o' <;> cases U <;> simp
 rcases hc with rfl | ⟨rfl, rfl⟩ | ⟨rfl, rfl⟩
 all_goals
  simp only [if_true, if_false, Bool.false_eq_true]
  go_enter Tryz.func50, Tryz.ntmps50
  go_upto_region 1 with fail
  generalize (w.alloc _).alloc _ = w1 at HE ⊢
  have H1 := hide HE
  clear HE
  have x3 := H1.out.ent.c3
  have x4 := H1.out.ent.c4
  have x5 := H1.out.ent.c5
  have x6 := H1.out.ent.c6
  go_wp2_with (first
   | (go_at_call 84; refine (HQ.out _).mono ?_; rintro e2 w2 ⟨rfl, hb⟩; have H2 := hide (H1.out.on hb); clear hb H1 x3 x4 x5 x6; have H1 := H2; clear H2; have x0 := H1.out.ent.c0; have x1 := H1.out.ent.c1; have x2 := H1.out.ent.c2; have x3 := H1.out.ent.c3; have x4 := H1.out.ent.c4; have x5 := H1.out.ent.c5; have x6 := H1.out.ent.c6; have y0 := H1.out.pte.c0; have y1 := H1.out.pte.c1; have y2 := H1.out.pte.c2; have y3 := H1.out.pte.c3)
   | (go_at_call 37; refine (HP.out _ H1.out.mx).mono ?_; rintro e3 w3 ⟨rfl, hm, hb⟩; have H3 := hide (And.intro hm ((But.of_below b H1.out.below).trans hb)); clear hm hb)
   | fail)
  go_ret
  first
   | exact ⟨rfl, H3.out⟩
   | exact ⟨rfl, H1.out.mx, But.of_below b H1.out.below⟩
theorem chk_on (f r : Int) : Ppte.chk true f r 0 = if okA f r = true then 0 else 1 := by
 by_cases h : okA f r = true
 · rw [if_pos h]; exact Ppte.chk_yes (rt_on h)
 · rw [if_neg h]
   refine Ppte.chk_no fun k => h ((okA_iff f r).2 ?_)
   have := k.1 rfl
   omega
theorem fl_map {N : Nat} {M : Nat -> Nat -> Int} {root page f r floor : Int} (ha : okA f r = true) (hE : raE N M root page = 0) :
 lfE N M root page = 0 /\ flE N (lfF N M root page) (page % 32) (raO N M root page) (raF N M root page) (raR N M root page) (raT N M root page) true f r 0 floor = maE N M root page f r floor /\ flM N M (lfF N M root page) (page % 32) (raO N M root page) (raF N M root page) (raR N M root page) (raT N M root page) true f r 0 floor = maM N M root page f r floor := by
 have hl : lfE N M root page = 0 := by
  unfold raE at hE
  by_cases k : lfE N M root page = 0
  · exact k
  · rw [if_neg k] at hE; exact hE
 have hk : okW N (lfF N M root page) (4 + page % 32) = true := by
  unfold raE at hE
  rw [if_pos hl] at hE
  exact en_ok hE
 have hq : Ppte.quB (raO N M root page) (raF N M root page) (raR N M root page) (raT N M root page) floor = enQ N M (lfF N M root page) (page % 32) floor := by
  unfold enQ raO raF raR raT
  rw [hl]
  simp
 have e1 : maE N M root page f r floor = if raO N M root page = true then 10 else if enQ N M (lfF N M root page) (page % 32) floor = true then 0 else 6 := by simp only [maE, ha, hE, if_true]
 refine ⟨hl, ?_, ?_⟩
 · unfold flE
   rw [e1, hq, seE_yes (rt_on ha) hk]
 · unfold flM maM
   rw [e1, hq]
   cases raO N M root page
   · cases enQ N M (lfF N M root page) (page % 32) floor <;> simp
   · simp
structure Mp (w0 w : World) (p b N : Nat) (M : Nat -> Nat -> Int) (D : Nat) (o : Bool) (g r t : Int) : Prop where
 mx : Mx w p b N M
 below : Below w0.heap.size w0 w
 pte : Ppte.BoxP w D o g r t
theorem Mp.on {w0 w w' : World} {p b N : Nat} {M : Nat -> Nat -> Int} {D : Nat} {o : Bool} {g r t : Int} (h : Mp w0 w p b N M D o g r t) (hB : Below w.heap.size w w') : Mp w0 w' p b N M D o g r t := ⟨h.mx.on hB, h.below.trans (hB.mono h.below.size), h.pte.on hB⟩
theorem mp_new {w : World} {p b N : Nat} {M : Nat -> Nat -> Int} (h : Mx w p b N M) (o : Bool) (g r t : Int) : Mp w (w.alloc (.cells #[.bool o, .int .i64 g, .int .i64 r, .int .i64 t] 44)) p b N M w.heap.size o g r t :=
 ⟨h.on (bal (Below.refl _ _) _), bal (Below.refl _ _) _, Ppte.boxP_new w o g r t 44⟩
theorem Mp.more {w0 w : World} {p b N : Nat} {M : Nat -> Nat -> Int} {D : Nat} {o : Bool} {g r t : Int} (h : Mp w0 w p b N M D o g r t) (q : Option Addr) (f a : Int) (o' : Bool) (g' r' t' : Int) : Eb w0 (w.alloc (.cells #[.pointer q, .int .i64 f, .int .i64 a, .bool o', .int .i64 g', .int .i64 r', .int .i64 t'] 71)) p b N M w.heap.size D q f a o' g' r' t' o g r t :=
 ⟨h.mx.on (bal (Below.refl _ _) _), bal h.below _, box7_new w q f a o' g' r' t' 71, h.pte.on (bal (Below.refl _ _) _)⟩
theorem map_any (p b N : Nat) (root page f r floor : Int) (M : Nat -> Nat -> Int) (w : World) (h : Mx w p b N M) :
 Calls Tryz.prog 21 #[.pointer (some ⟨p, 0, none⟩), .int .i64 root, .int .i64 page, .int .i64 f, .int .i64 r, .int .i64 floor] w fun x w' => x = .returned (.int .i64 (maE N M root page f r floor)) /\ Mx w' p b N (maM N M root page f r floor) /\ But b w w' := by
 have HE := mp_new h true f r 0
 have HC : Hid (∀ wc, Calls Tryz.prog 48 #[.agg #[.bool true, .int .i64 f, .int .i64 r, .int .i64 0]] wc fun e w' => e = .returned (.int .i64 (if okA f r = true then 0 else 1)) /\ Below wc.heap.size wc w') := fun wc => by
  have := Ppte.check_any true f r 0 wc
  rwa [chk_on] at this
 have HF : Hid (∀ wc, Mx wc p b N M -> Calls Tryz.prog 49 #[.pointer (some ⟨p, 0, none⟩), .int .i64 root, .int .i64 page] wc fun x w' => x = .returned (.tuple #[.agg #[.pointer (fiP N M root page p), .int .i64 (lfF N M root page), .int .i64 (fiA N M root page), .bool (raO N M root page), .int .i64 (raF N M root page), .int .i64 (raR N M root page), .int .i64 (raT N M root page)], .int .i64 (raE N M root page)]) /\ Below wc.heap.size wc w') := fun wc hc => find_any p b N root page M wc hc
 clear h
 have eM : maM N M root page f r floor = if maE N M root page f r floor = 0 then seM N M (lfF N M root page) (page % 32) true f r 0 else M := rfl
 by_cases ha : okA f r = true
 case neg =>
  have e0 : maE N M root page f r floor = 1 := by simp [maE, ha]
  rw [eM, e0, if_neg (by decide)]
  rw [if_neg ha] at HC
  clear eM e0 ha HF
  go_enter Tryz.func21, Tryz.ntmps21
  go_upto_region 2 with fail
  generalize w.alloc _ = w1 at HE ⊢
  have H1 := hide HE
  clear HE
  have y0 := H1.out.pte.c0
  have y1 := H1.out.pte.c1
  have y2 := H1.out.pte.c2
  have y3 := H1.out.pte.c3
  go_wp2_with (first
   | (go_at_call 48; refine (HC.out _).mono ?_; rintro e2 w2 ⟨rfl, hb⟩; have H2 := hide (H1.out.on hb); clear hb)
   | fail)
  go_ret
  exact ⟨rfl, H2.out.mx, But.of_below b H2.out.below⟩
 rw [if_pos ha] at HC
 by_cases hE : raE N M root page = 0
 case neg =>
  have e0 : maE N M root page f r floor = raE N M root page := by simp [maE, ha, hE]
  rw [eM, e0, if_neg hE]
  generalize raE N M root page = E at HF hE ⊢
  generalize raO N M root page = O at HF
  generalize raF N M root page = F at HF
  generalize raR N M root page = R at HF
  generalize raT N M root page = T at HF
  generalize lfF N M root page = L at HF
  generalize fiA N M root page = A at HF
  generalize fiP N M root page p = P at HF
  have hE' : (E != 0) = true := by simp [hE]
  clear eM e0 ha hE
  go_enter Tryz.func21, Tryz.ntmps21
  go_upto_region 2 with fail
  generalize w.alloc _ = w1 at HE ⊢
  have H1 := hide HE
  clear HE
  have y0 := H1.out.pte.c0
  have y1 := H1.out.pte.c1
  have y2 := H1.out.pte.c2
  have y3 := H1.out.pte.c3
  go_upto_region 5 with (first
   | (go_at_call 48; refine (HC.out _).mono ?_; rintro e2 w2 ⟨rfl, hb⟩; have H2 := hide (H1.out.on hb); clear hb)
   | (go_at_call 49; refine (HF.out _ H2.out.mx).mono ?_; rintro e3 w3 ⟨rfl, hb⟩; have H3 := (H2.out.on hb).more P L A O F R T; clear hb)
   | fail)
  generalize w3.alloc _ = w4 at H3 ⊢
  have H4 := hide H3
  clear H3
  go_wp2
  go_ret
  exact ⟨rfl, H4.out.mx, But.of_below b H4.out.below⟩
 obtain ⟨hl, q1, q2⟩ := fl_map (floor := floor) ha hE
 have g5 : fiP N M root page p = some ⟨p, 0, none⟩ := by simp [fiP, hl]
 have g6 : fiA N M root page = 4 + page % 32 := by simp [fiA, hl]
 rw [g5, g6, hE] at HF
 rw [<- q1, <- q2]
 clear eM q1 q2 g5 g6 hl hE ha
 have HP : Hid (∀ wc, Mx wc p b N M -> Calls Tryz.prog 50 #[.agg #[.pointer (some ⟨p, 0, none⟩), .int .i64 (lfF N M root page), .int .i64 (4 + page % 32), .bool (raO N M root page), .int .i64 (raF N M root page), .int .i64 (raR N M root page), .int .i64 (raT N M root page)], .agg #[.bool true, .int .i64 f, .int .i64 r, .int .i64 0], .int .i64 floor] wc fun x w' => x = .returned (.int .i64 (flE N (lfF N M root page) (page % 32) (raO N M root page) (raF N M root page) (raR N M root page) (raT N M root page) true f r 0 floor)) /\ Mx w' p b N (flM N M (lfF N M root page) (page % 32) (raO N M root page) (raF N M root page) (raR N M root page) (raT N M root page) true f r 0 floor) /\ But b wc w') := fun wc hc => fill_any p b N (lfF N M root page) (page % 32) (raO N M root page) (raF N M root page) (raR N M root page) (raT N M root page) true f r 0 floor M wc hc
 generalize flE N (lfF N M root page) (page % 32) (raO N M root page) (raF N M root page) (raR N M root page) (raT N M root page) true f r 0 floor = E at HP ⊢
 generalize flM N M (lfF N M root page) (page % 32) (raO N M root page) (raF N M root page) (raR N M root page) (raT N M root page) true f r 0 floor = M' at HP ⊢
 generalize raO N M root page = O at HF HP
 generalize raF N M root page = F at HF HP
 generalize raR N M root page = R at HF HP
 generalize raT N M root page = T at HF HP
 generalize lfF N M root page = L at HF HP
 generalize 4 + page % 32 = A at HF HP
 go_enter Tryz.func21, Tryz.ntmps21
 go_upto_region 2 with fail
 generalize w.alloc _ = w1 at HE ⊢
 generalize hDD : w.heap.size = DD at HE ⊢
 have HDD := hide hDD
 clear hDD
 have H1 := hide HE
 clear HE
 have y0 := H1.out.pte.c0
 have y1 := H1.out.pte.c1
 have y2 := H1.out.pte.c2
 have y3 := H1.out.pte.c3
 go_upto_region 5 with (first
  | (go_at_call 48; refine (HC.out _).mono ?_; rintro e2 w2 ⟨rfl, hb⟩; have H2 := hide (H1.out.on hb); clear hb H1 y0 y1 y2 y3)
  | (go_at_call 49; refine (HF.out _ H2.out.mx).mono ?_; rintro e3 w3 ⟨rfl, hb⟩; have H3 := (H2.out.on hb).more (some ⟨p, 0, none⟩) L A O F R T; clear hb H2)
  | fail)
 generalize w3.alloc _ = w4 at H3 ⊢
 generalize w3.heap.size = D at H3 ⊢
 have H4 := hide H3
 clear H3
 have x0 := H4.out.ent.c0
 have x1 := H4.out.ent.c1
 have x2 := H4.out.ent.c2
 have x3 := H4.out.ent.c3
 have x4 := H4.out.ent.c4
 have x5 := H4.out.ent.c5
 have x6 := H4.out.ent.c6
 have y0 := H4.out.pte.c0
 have y1 := H4.out.pte.c1
 have y2 := H4.out.pte.c2
 have y3 := H4.out.pte.c3
 go_wp2_with (first
  | (go_at_call 50; refine (HP.out _ H4.out.mx).mono ?_; rintro e5 w5 ⟨rfl, hm, hb⟩; have H5 := hide (And.intro hm ((But.of_below b H4.out.below).trans hb)); clear hm hb)
  | fail)
 go_ret
 exact ⟨rfl, H5.out⟩
theorem fl_cons {N : Nat} {M : Nat -> Nat -> Int} {root high f floor : Int} (hN : N <= 64) (hi : okI high = true) (h1 : tbB N M root 0 = true) (h2 : tbB N M f 1 = true) (hE : enE N M root high = 0) :
 flE N root high (enO N M root high) (enF N M root high) (enR N M root high) (enT N M root high) true f 3 0 floor = coE N M root high f floor /\ flM N M root high (enO N M root high) (enF N M root high) (enR N M root high) (enT N M root high) true f 3 0 floor = coM N M root high f floor := by
 have hf := okF_yes (tb_okF h2)
 have hr := rt_leaf hf.1 (show f < 64 by omega)
 have e1 : coE N M root high f floor = if enO N M root high = true then 10 else if enQ N M root high floor = true then 0 else 6 := by unfold coE; rw [if_pos hi, if_pos ⟨h1, h2⟩, if_pos hE]
 constructor
 · unfold flE
   rw [e1, seE_yes hr (en_ok hE)]
   rfl
 · unfold flM coM
   rw [e1]
   show (if enO N M root high = true then M else if enQ N M root high floor = true then seM N M root high true f 3 0 else M) = _
   cases enO N M root high
   · cases enQ N M root high floor <;> simp
   · simp
structure En (w0 w : World) (p b N : Nat) (M : Nat -> Nat -> Int) (D : Nat) (q : Option Addr) (f a : Int) (o : Bool) (g r t : Int) : Prop where
 mx : Mx w p b N M
 below : Below w0.heap.size w0 w
 ent : Box7 w D q f a o g r t
theorem en_new {w0 w : World} {p b N : Nat} {M : Nat -> Nat -> Int} (h : Mx w p b N M) (hb : Below w0.heap.size w0 w) (q : Option Addr) (f a : Int) (o : Bool) (g r t : Int) : En w0 (w.alloc (.cells #[.pointer q, .int .i64 f, .int .i64 a, .bool o, .int .i64 g, .int .i64 r, .int .i64 t] 71)) p b N M w.heap.size q f a o g r t :=
 ⟨h.on (bal (Below.refl _ _) _), bal hb _, box7_new w q f a o g r t 71⟩
structure Gw (w0 w : World) (p b N : Nat) (M : Nat -> Nat -> Int) : Prop where
 mx : Mx w p b N M
 below : Below w0.heap.size w0 w
theorem Gw.on {w0 w w' : World} {p b N : Nat} {M : Nat -> Nat -> Int} (h : Gw w0 w p b N M) (hB : Below w.heap.size w w') : Gw w0 w' p b N M := ⟨h.mx.on hB, h.below.trans (hB.mono h.below.size)⟩
theorem gw_new {w : World} {p b N : Nat} {M : Nat -> Nat -> Int} (h : Mx w p b N M) : Gw w w p b N M := ⟨h, Below.refl _ _⟩
theorem Gw.same {w0 w : World} {p b N : Nat} {M : Nat -> Nat -> Int} (h : Gw w0 w p b N M) : Mx w p b N M /\ But b w0 w := ⟨h.mx, But.of_below b h.below⟩
theorem cons_any (p b N : Nat) (root high f floor : Int) (M : Nat -> Nat -> Int) (w : World) (h : Mx w p b N M) :
 Calls Tryz.prog 29 #[.pointer (some ⟨p, 0, none⟩), .int .i64 root, .int .i64 high, .int .i64 f, .int .i64 floor] w fun x w' => x = .returned (.int .i64 (coE N M root high f floor)) /\ Mx w' p b N (coM N M root high f floor) /\ But b w w' := by
 have H0 := hide (gw_new h)
 have HN := hide h.n64
 clear h
 have HI := hide (fun wc => isEntry_any high wc)
 have eM : coM N M root high f floor = if coE N M root high f floor = 0 then seM N M root high true f 3 0 else M := rfl
 by_cases hi : okI high = true
 case neg =>
  have e0 : coE N M root high f floor = 1 := by simp [coE, hi]
  rw [eM, e0, if_neg (by decide)]
  rw [show okI high = false by simpa using hi] at HI
  clear eM e0 hi
  go_enter Tryz.func29, Tryz.ntmps29
  go_wp2_with (first
   | (go_at_call 43; refine (HI.out _).mono ?_; rintro e1 w1 ⟨rfl, hw⟩; subst hw)
   | fail)
  go_ret
  exact ⟨rfl, H0.out.same⟩
 have hI := (okI_iff high).1 hi
 rw [hi] at HI
 have HT : Hid (∀ wc, Mx wc p b N M -> Calls Tryz.prog 44 #[.pointer (some ⟨p, 0, none⟩), .int .i64 root, .int .i64 0] wc fun x w' => x = .returned (.bool (tbB N M root 0)) /\ Below wc.heap.size wc w') := fun wc hc => isTable_any p b N root 0 M wc hc
 have HU : Hid (∀ wc, Mx wc p b N M -> Calls Tryz.prog 44 #[.pointer (some ⟨p, 0, none⟩), .int .i64 f, .int .i64 1] wc fun x w' => x = .returned (.bool (tbB N M f 1)) /\ Below wc.heap.size wc w') := fun wc hc => isTable_any p b N f 1 M wc hc
 have HR : Hid (∀ wc, Mx wc p b N M -> Calls Tryz.prog 45 #[.pointer (some ⟨p, 0, none⟩), .int .i64 root, .int .i64 high] wc fun x w' => x = .returned (.tuple #[.agg #[.pointer (some ⟨p, 0, none⟩), .int .i64 root, .int .i64 (4 + high), .bool (enO N M root high), .int .i64 (enF N M root high), .int .i64 (enR N M root high), .int .i64 (enT N M root high)], .int .i64 (enE N M root high)]) /\ Below wc.heap.size wc w') := fun wc hc => read_any p b N root high M wc hc hI
 clear hI
 by_cases h1 : tbB N M root 0 = true
 case neg =>
  have e0 : coE N M root high f floor = 4 := by simp [coE, hi, h1]
  rw [eM, e0, if_neg (by decide)]
  rw [show tbB N M root 0 = false by simpa using h1] at HT
  clear eM e0 hi h1 HU HR
  go_enter Tryz.func29, Tryz.ntmps29
  go_wp2_with (first
   | (go_at_call 43; refine (HI.out _).mono ?_; rintro e1 w1 ⟨rfl, hw⟩; subst hw)
   | (go_at_call 44; refine (HT.out _ H0.out.mx).mono ?_; rintro e2 w2 ⟨rfl, hb⟩; have H2 := hide (H0.out.on hb); clear hb)
   | fail)
  go_ret
  exact ⟨rfl, H2.out.same⟩
 rw [h1] at HT
 by_cases h2 : tbB N M f 1 = true
 case neg =>
  have e0 : coE N M root high f floor = 4 := by simp [coE, hi, h2]
  rw [eM, e0, if_neg (by decide)]
  rw [show tbB N M f 1 = false by simpa using h2] at HU
  clear eM e0 hi h1 h2 HR
  go_enter Tryz.func29, Tryz.ntmps29
  go_wp2_with (first
   | (go_at_call 43; refine (HI.out _).mono ?_; rintro e1 w1 ⟨rfl, hw⟩; subst hw)
   | (go_at_call 44; with_reducible refine (HT.out _ H0.out.mx).mono ?_; rintro e2 w2 ⟨rfl, hb⟩; have H2 := hide (H0.out.on hb); clear hb H0)
   | (go_at_call 44; with_reducible refine (HU.out _ H2.out.mx).mono ?_; rintro e3 w3 ⟨rfl, hb⟩; have H3 := hide (H2.out.on hb); clear hb)
   | fail)
  go_ret
  exact ⟨rfl, H3.out.same⟩
 rw [h2] at HU
 by_cases hE : enE N M root high = 0
 case neg =>
  have e0 : coE N M root high f floor = enE N M root high := by simp [coE, hi, h1, h2, hE]
  rw [eM, e0, if_neg hE]
  generalize enE N M root high = E at HR hE ⊢
  generalize enO N M root high = O at HR
  generalize enF N M root high = F at HR
  generalize enR N M root high = R at HR
  generalize enT N M root high = T at HR
  generalize 4 + high = A at HR
  have hE' : (E != 0) = true := by simp [hE]
  clear eM e0 hi h1 h2 hE
  go_enter Tryz.func29, Tryz.ntmps29
  go_upto_region 6 with (first
   | (go_at_call 43; refine (HI.out _).mono ?_; rintro e1 w1 ⟨rfl, hw⟩; subst hw)
   | (go_at_call 44; with_reducible refine (HT.out _ H0.out.mx).mono ?_; rintro e2 w2 ⟨rfl, hb⟩; have H2 := hide (H0.out.on hb); clear hb H0)
   | (go_at_call 44; with_reducible refine (HU.out _ H2.out.mx).mono ?_; rintro e3 w3 ⟨rfl, hb⟩; have H3 := hide (H2.out.on hb); clear hb)
   | (go_at_call 45; refine (HR.out _ H3.out.mx).mono ?_; rintro e4 w4 ⟨rfl, hb⟩; have H4 := (H3.out.on hb).on (bal (Below.refl _ _) (.cells #[.pointer (some ⟨p, 0, none⟩), .int .i64 root, .int .i64 A, .bool O, .int .i64 F, .int .i64 R, .int .i64 T] 71)); clear hb)
   | fail)
  generalize w4.alloc _ = w5 at H4 ⊢
  have H5 := hide H4
  clear H4
  go_wp2
  go_ret
  exact ⟨rfl, H5.out.same⟩
 obtain ⟨q1, q2⟩ := fl_cons (floor := floor) HN.out hi h1 h2 hE
 rw [<- q1, <- q2]
 rw [hE] at HR
 clear eM q1 q2 hi h1 h2 hE
 have HP : Hid (∀ wc, Mx wc p b N M -> Calls Tryz.prog 50 #[.agg #[.pointer (some ⟨p, 0, none⟩), .int .i64 root, .int .i64 (4 + high), .bool (enO N M root high), .int .i64 (enF N M root high), .int .i64 (enR N M root high), .int .i64 (enT N M root high)], .agg #[.bool true, .int .i64 f, .int .i64 3, .int .i64 0], .int .i64 floor] wc fun x w' => x = .returned (.int .i64 (flE N root high (enO N M root high) (enF N M root high) (enR N M root high) (enT N M root high) true f 3 0 floor)) /\ Mx w' p b N (flM N M root high (enO N M root high) (enF N M root high) (enR N M root high) (enT N M root high) true f 3 0 floor) /\ But b wc w') := fun wc hc => fill_any p b N root high _ _ _ _ true f 3 0 floor M wc hc
 generalize flE N root high (enO N M root high) (enF N M root high) (enR N M root high) (enT N M root high) true f 3 0 floor = E at HP ⊢
 generalize flM N M root high (enO N M root high) (enF N M root high) (enR N M root high) (enT N M root high) true f 3 0 floor = M' at HP ⊢
 generalize enO N M root high = O at HR HP
 generalize enF N M root high = F at HR HP
 generalize enR N M root high = R at HR HP
 generalize enT N M root high = T at HR HP
 generalize 4 + high = A at HR HP
 go_enter Tryz.func29, Tryz.ntmps29
 go_upto_region 6 with (first
  | (go_at_call 43; refine (HI.out _).mono ?_; rintro e1 w1 ⟨rfl, hw⟩; subst hw)
  | (go_at_call 44; with_reducible refine (HT.out _ H0.out.mx).mono ?_; rintro e2 w2 ⟨rfl, hb⟩; have H2 := hide (H0.out.on hb); clear hb H0)
  | (go_at_call 44; with_reducible refine (HU.out _ H2.out.mx).mono ?_; rintro e3 w3 ⟨rfl, hb⟩; have H3 := hide (H2.out.on hb); clear hb)
  | (go_at_call 45; refine (HR.out _ H3.out.mx).mono ?_; rintro e4 w4 ⟨rfl, hb⟩; have H4 := en_new (H3.out.on hb).mx (H3.out.on hb).below (some ⟨p, 0, none⟩) root A O F R T; clear hb)
  | fail)
 generalize w4.alloc _ = w5 at H4 ⊢
 generalize w4.heap.size = D at H4 ⊢
 have H5 := hide H4
 clear H4
 have x0 := H5.out.ent.c0
 have x1 := H5.out.ent.c1
 have x2 := H5.out.ent.c2
 have x3 := H5.out.ent.c3
 have x4 := H5.out.ent.c4
 have x5 := H5.out.ent.c5
 have x6 := H5.out.ent.c6
 go_wp2_with (first
  | (go_at_call 50; refine (HP.out _ H5.out.mx).mono ?_; rintro e6 w6 ⟨rfl, hm, hb⟩; have H6 := hide (And.intro hm ((But.of_below b H5.out.below).trans hb)); clear hm hb)
  | fail)
 go_ret
 exact ⟨rfl, H6.out⟩
end Ppgtbl
end Go.Proofs.YtkkclcihjojphaaGreatDoor
