/- A memory and the three tables of widths; Make, isTable, isEntry, isTime and cut of package pgtbl, for every argument. -/
import Derived.Test.YtfmkhjbahgcgiaaGreatDoorPgtG
import Derived.Test.YtfmkhjbahgcgiaaGreatDoorBunHead
import Derived.Test.YtfmkhjbahgcgiaaGreatDoorBunRadix
import Derived.Test.YtfmkhjbahgcgiaaGreatDoorBunPte
import Derived.Test.YtfmkhjbahgcgiaaGreatDoorBunMem
import Derived.BigQuiet
import Derived.BigRegion
import Derived.Deep.RegionHeld3
import Derived.Deep.CutBlock
namespace Go.Proofs.YtfmkhjbahgcgiaaGreatDoor.Ppgtbl
open Go.Proofs.YtfmkhjbahgcgiaaGreatDoor.Pbase Go.Proofs.YtfmkhjbahgcgiaaGreatDoor.Pmem Go.Proofs.YtfmkhjbahgcgiaaGreatDoor.Pradix
open Go.RowKit
set_option linter.unusedVariables false

theorem hide {q : Prop} (h : q) : Hid q := h
/-! ### a memory and the three tables -/
theorem wp_ne {w : World} {p b N : Nat} {M : Nat → Nat → Int} (hM : MemIs w p b N M) (h : Wp w) : 1 ≠ b := by
  intro e
  obtain ⟨t, fr, hr⟩ := h.p
  rw [e, hM.row] at hr
  simp only [Option.some.injEq, Obj.cells.injEq] at hr
  have := congrArg Array.size hr.1
  rw [cellsM_size] at this
  simp at this
  omega
theorem wp_but {w w' : World} {b : Nat} (h : Wp w) (hB : But b w w') (hn : 1 ≠ b) : Wp w' :=
  ⟨Nat.lt_of_lt_of_le h.lp hB.size, by obtain ⟨t, fr, hr⟩ := h.p; exact ⟨t, fr, (hB.block 1 h.lp hn).trans hr⟩⟩
theorem pt_ne {w : World} {p b N : Nat} {M : Nat → Nat → Int} (hM : MemIs w p b N M) (h : Ppte.TabW w) : 0 ≠ b := by
  intro e
  obtain ⟨t, fr, hr⟩ := h.row
  rw [e, hM.row] at hr
  simp only [Option.some.injEq, Obj.cells.injEq] at hr
  have := congrArg Array.size hr.1
  rw [cellsM_size] at this
  simp at this
  omega
theorem pt_but {w w' : World} {b : Nat} (h : Ppte.TabW w) (hB : But b w w') (hn : 0 ≠ b) : Ppte.TabW w' :=
  ⟨Nat.lt_of_lt_of_le h.lt hB.size, by obtain ⟨t, fr, hr⟩ := h.row; exact ⟨t, fr, (hB.block 0 h.lt hn).trans hr⟩⟩
/-- The three tables. -/
structure Tb (w : World) : Prop where
  th : Phead.TabW w
  tp : Ppte.TabW w
  tr : Wp w
theorem Tb.on {w w' : World} (h : Tb w) (hB : Below w.heap.size w w') : Tb w' := ⟨h.th.on hB, h.tp.on hB, h.tr.on hB⟩
/-- A memory and the three tables. -/
structure Mx (w : World) (p b N : Nat) (M : Nat → Nat → Int) : Prop where
  mem : MemIs w p b N M
  tb : Tb w
  fit : Fit M
  n1 : 1 ≤ N
  n64 : N ≤ 64
theorem Mx.on {w w' : World} {p b N : Nat} {M : Nat → Nat → Int} (h : Mx w p b N M) (hB : Below w.heap.size w w') : Mx w' p b N M :=
  ⟨h.mem.grown hB, h.tb.on hB, h.fit, h.n1, h.n64⟩
theorem Mx.but {w w' : World} {p b N : Nat} {M M' : Nat → Nat → Int} (h : Mx w p b N M) (hM : MemIs w' p b N M') (hF : Fit M') (hB : But b w w') : Mx w' p b N M' :=
  ⟨hM, ⟨h.tb.th.but hB (Phead.tab_ne h.mem h.tb.th), pt_but h.tb.tp hB (pt_ne h.mem h.tb.tp), wp_but h.tb.tr hB (wp_ne h.mem h.tb.tr)⟩, hF, h.n1, h.n64⟩
theorem but_on {b : Nat} {a w w' : World} (h : But b a w) (hB : Below a.heap.size w w') : But b a w' :=
  ⟨hB.os.trans h.os, hB.tape.trans h.tape, hB.output.trans h.output, Nat.le_trans h.size hB.size, fun i hi hn => (hB.block i hi).trans (h.block i hi hn)⟩

/-! ### Make -/
set_option maxRecDepth 100000 in
theorem make_any (p b N : Nat) (f l : Int) (M : Nat → Nat → Int) (w : World) (h : Mx w p b N M) : Calls Tryz.prog 18 #[.pointer (some ⟨p, 0, none⟩), .int .i64 f, .int .i64 l] w fun x w' => x = .returned (.int .i64 (Phead.errP N f 2 l false 0)) ∧ Mx w' p b N (Phead.mkM N M f 2 l false 0) ∧ But b w w' := by
  have HM : Hid (Calls Tryz.prog 40 #[.pointer (some ⟨p, 0, none⟩), .int .i64 f, .agg #[.int .i64 2, .int .i64 l, .bool false, .int .i64 0]] w fun x w' => x = .returned (.int .i64 (Phead.errP N f 2 l false 0)) ∧ Mx w' p b N (Phead.mkM N M f 2 l false 0) ∧ But b w w') := by
    refine (Phead.hmake_any p b N f 2 l false 0 M w h.n1 h.n64 h.mem h.tb.th).mono ?_
    rintro x w' ⟨rfl, h1, h2⟩
    exact ⟨rfl, h.but h1 (Phead.fit_mk h.fit N f 2 l false 0) h2, h2⟩
  clear h
  go_enter Tryz.func18, Tryz.ntmps18
  go_wp2_with (first
    | (go_at_call 40; refine HM.out.mono ?_; rintro e1 w1 ⟨rfl, hb⟩; have H1 := hide hb; clear hb)
    | fail)
  go_ret
  exact ⟨rfl, H1.out⟩
/-! ### isEntry, isTime -/
set_option maxRecDepth 100000 in
theorem isEntry_any (i : Int) (w : World) : Calls Tryz.prog 48 #[.int .i64 i] w fun x w' => x = .returned (.bool (okI i)) ∧ w' = w := by
  obtain ⟨R, hR⟩ : ∃ R, okI i = R := ⟨_, rfl⟩
  rw [hR]
  have HR := hide hR
  clear hR
  have hk : i < 0 ∨ (¬ i < 0 ∧ i < 32) ∨ ¬ i < 0 ∧ ¬ i < 32 := by omega
  rcases hk with h0 | ⟨h0, h1⟩ | ⟨h0, h1⟩
  all_goals
    go_enter Tryz.func48, Tryz.ntmps48
    go_wp2
    go_ret
    refine ⟨?_, rfl⟩
    rw [← HR.out]
    simp [okI]
    try omega
set_option maxRecDepth 100000 in
theorem isTime_any (t : Int) (w : World) : Calls Tryz.prog 46 #[.int .i64 t] w fun x w' => x = .returned (.bool (tiB t)) ∧ w' = w := by
  obtain ⟨R, hR⟩ : ∃ R, tiB t = R := ⟨_, rfl⟩
  rw [hR]
  have HR := hide hR
  clear hR
  have hk : t < 1 ∨ (¬ t < 1 ∧ t ≤ 1073741824) ∨ ¬ t < 1 ∧ ¬ t ≤ 1073741824 := by omega
  rcases hk with h0 | ⟨h0, h1⟩ | ⟨h0, h1⟩
  all_goals
    go_enter Tryz.func46, Tryz.ntmps46
    go_wp2
    go_ret
    refine ⟨?_, rfl⟩
    rw [← HR.out]
    simp [tiB]
    try omega
/-! ### isTable -/
theorem rt_laid {w w1 : World} (hb : Below w.heap.size w w1) (k l : Int) (z : Bool) (t : Int) : Below w.heap.size w (w1.alloc (.cells #[.int .i64 k, .int .i64 l, .bool z, .int .i64 t] 85)) ∧ Phead.Box4 (w1.alloc (.cells #[.int .i64 k, .int .i64 l, .bool z, .int .i64 t] 85)) w1.heap.size k l z t :=
  ⟨bal hb _, Phead.box4_new w1 k l z t 85⟩
set_option maxRecDepth 100000 in
set_option maxHeartbeats 1000000 in
theorem isTable_any (p b N : Nat) (f l : Int) (M : Nat → Nat → Int) (w : World) (h : Mx w p b N M) : Calls Tryz.prog 49 #[.pointer (some ⟨p, 0, none⟩), .int .i64 f, .int .i64 l] w fun x w' => x = .returned (.bool (tbB N M f l)) ∧ Below w.heap.size w w' := by
  have HG := hide (Phead.hget_any p b N f M w h.n1 h.n64 h.mem h.tb.th h.fit)
  clear h
  unfold tbB
  generalize Phead.ghK N M f = K at HG ⊢
  generalize Phead.ghL N M f = L at HG ⊢
  generalize Phead.ghZ N M f = Z at HG ⊢
  generalize Phead.ghT N M f = T at HG ⊢
  generalize Phead.ghE N M f = E at HG ⊢
  obtain ⟨R, hR⟩ : ∃ R, (decide (E = 0) && decide (K = 2) && decide (L = l)) = R := ⟨_, rfl⟩
  rw [hR]
  have HR := hide hR
  clear hR
  have hcase : ((E == 0) = true ∧ (K == 2) = true ∧ (L == l) = true) ∨ ((E == 0) = true ∧ (K == 2) = true ∧ (L == l) = false) ∨ ((E == 0) = true ∧ (K == 2) = false) ∨ (E == 0) = false := by
    simp only [beq_eq_false_iff_ne, ne_eq, beq_iff_eq]
    omega
  rcases hcase with ⟨h1, h2, h3⟩ | ⟨h1, h2, h3⟩ | ⟨h1, h2⟩ | h1
  all_goals
    go_enter Tryz.func49, Tryz.ntmps49
    go_upto_region 2 with (first
      | (go_at_call 56; refine HG.out.mono ?_; rintro e1 w1 ⟨rfl, hb⟩; have H1 : Hid (Below w.heap.size w w1) := hb; clear hb)
      | fail)
    have HL := rt_laid H1.out K L Z T
    generalize w1.alloc _ = w2 at HL ⊢
    generalize w1.heap.size = D at HL ⊢
    have H2 := hide HL.1
    have x0 := HL.2.c0
    have x1 := HL.2.c1
    have x2 := HL.2.c2
    clear HL H1 HG
    first
      | (go_quiet (fail)
         go_wp2
         go_ret
         have hr := HR.out
         simp_all
         exact H2.out.trans (below_drew' _ _ _))
      | (go_wp2
         go_ret
         have hr := HR.out
         simp_all
         exact H2.out)
/-! ### cut -/
theorem page_parts {page : Int} (h : okG page = true) : pgE (page * 32) = 0 ∧ pgH (page * 32) = page / 32 ∧ pgL (page * 32) = page % 32 := by
  have := (okG_iff page).1 h
  obtain ⟨e1, e2, e3, _⟩ := pg_yes (a := page * 32) (by omega)
  exact ⟨e1, by rw [e2]; omega, by rw [e3]; omega⟩
def cuH (page : Int) : Int := if okG page = true then page / 32 else 0
def cuL (page : Int) : Int := if okG page = true then page % 32 else 0
def cuE (page : Int) : Int := if okG page = true then 0 else 1
set_option maxRecDepth 100000 in
theorem cut_any (page : Int) (w : World) (hT : Tb w) : Calls Tryz.prog 53 #[.int .i64 page] w fun x w' => x = .returned (.tuple #[.int .i64 (cuH page), .int .i64 (cuL page), .int .i64 (cuE page)]) ∧ Below w.heap.size w w' := by
  by_cases hg : okG page = true
  case neg =>
    have hk : page < 0 ∨ ¬ page < 0 ∧ 1024 ≤ page := by
      rw [okG_iff] at hg
      omega
    simp only [cuH, cuL, cuE, if_neg hg]
    clear hg hT
    rcases hk with h0 | ⟨h0, h1⟩
    all_goals
      go_enter Tryz.func53, Tryz.ntmps53
      go_wp2
      go_ret3
      exact ⟨rfl, Below.refl _ _⟩
  have hp := (okG_iff page).1 hg
  have h0 : ¬ page < 0 := by omega
  have h1 : ¬ 1024 ≤ page := by omega
  have hw : wrap64 (page * 32) = page * 32 := by unfold wrap64; omega
  simp only [cuH, cuL, cuE, if_pos hg]
  obtain ⟨e1, e2, e3⟩ := page_parts hg
  have HP := hide (page_wp (page * 32) w (by omega) hT.tr)
  rw [e1, e2, e3] at HP
  clear e1 e2 e3 hp hg hT
  go_enter Tryz.func53, Tryz.ntmps53
  go_wp2_with (first
    | (go_at_call 73; refine HP.out.mono ?_; rintro e1 w1 ⟨rfl, hb⟩; have H1 := hide hb; clear hb)
    | fail)
  go_ret3
  exact ⟨rfl, H1.out⟩
end Go.Proofs.YtfmkhjbahgcgiaaGreatDoor.Ppgtbl
