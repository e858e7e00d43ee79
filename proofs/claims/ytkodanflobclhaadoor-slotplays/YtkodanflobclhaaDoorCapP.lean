/- What Put of package cap answers, for every argument that its types allow. -/
import Derived.Test.YtkodanflobclhaaDoorCapU
namespace Go.Proofs.YtkodanflobclhaaDoor.Pcap
open Go.Proofs.YtkodanflobclhaaDoor.Pbase Go.Proofs.YtkodanflobclhaaDoor.Pfield
open Go.RowKit M
set_option linter.unusedVariables false

/-- The two words that Put answers. -/
def putW (k r t l e a : Int) : Int := if rtB k r t l e a = true then packF ws [k, r, t, l, e] else 0
def putA (k r t l e a : Int) : Int := if rtB k r t l e a = true then a else 0
theorem putW_yes {k r t l e a : Int} (h : Rt k r t l e a) : putW k r t l e a = packF ws [k, r, t, l, e] := by simp [putW, rtB_yes h]
theorem putW_no {k r t l e a : Int} (h : ¬ Rt k r t l e a) : putW k r t l e a = 0 := by simp [putW, rtB_no h]
theorem putA_yes {k r t l e a : Int} (h : Rt k r t l e a) : putA k r t l e a = a := by simp [putA, rtB_yes h]
theorem putA_no {k r t l e a : Int} (h : ¬ Rt k r t l e a) : putA k r t l e a = 0 := by simp [putA, rtB_no h]

/-- The numbers lie in a row, and the first n of them as words in another. -/
structure PS (w0 w : World) (P C n : Nat) (k r t l e a : Int) : Prop where
  tabw : TabW w
  below : Below w0.heap.size w0 w
  lo : w0.heap.size ≤ P
  ltP : P < w.heap.size
  ltC : C < w.heap.size
  ne : C ≠ P
  neW : 0 ≠ P
  row : ∃ cs : Array Value, cs.size = 5 ∧ w.heap[P]? = some (.cells cs 92 (0, 0))
  all : ∀ j, j < 6 → w.cell? ⟨C, j, none⟩ = some (.int .i64 (nth k r t l e a j))
  done : ∀ j, j < n → w.cell? ⟨P, j, none⟩ = some (.int .u64 (nth k r t l e a j))
theorem PS.has {w0 w : World} {P C n : Nat} {k r t l e a : Int} (h : PS w0 w P C n k r t l e a) {j : Nat} (hj : j < 5) : ∃ v, w.cell? ⟨P, j, none⟩ = some v := by
  obtain ⟨cs, hs, hr⟩ := h.row
  exact ⟨cs[j], by rw [cell_of_row _ _ j _ _ _ hr]; simp [hs, hj]⟩
theorem PS.free {w0 w : World} {P C n : Nat} {k r t l e a : Int} (h : PS w0 w P C n k r t l e a) (j : Nat) : w.frozen? ⟨P, j, none⟩ = false := by
  obtain ⟨cs, hs, hr⟩ := h.row
  exact frozen_of_row _ _ _ _ _ hr
theorem PS.step {w0 w : World} {P C n : Nat} {k r t l e a : Int} (h : PS w0 w P C n k r t l e a) (hn : n < 5) : PS w0 (w.setCell ⟨P, n, none⟩ (.int .u64 (nth k r t l e a n))) P C (n + 1) k r t l e a := by
  obtain ⟨cs, hs, hr⟩ := h.row
  obtain ⟨v, hv⟩ := h.has hn
  obtain ⟨t1, fr, hw⟩ := h.tabw.row
  refine ⟨⟨by simpa using h.tabw.lt, t1, fr, (heap_setCell_other _ _ _ _ h.neW).trans hw⟩, h.below.setCell (p := ⟨P, n, none⟩) h.lo _, h.lo, by simpa using h.ltP, by simpa using h.ltC, h.ne, h.neW, ⟨_, by simpa using hs, heap_setCell_same _ _ _ _ _ _ hr⟩, fun j hj => ?_, fun j hj => ?_⟩
  · have hne : (⟨P, n, none⟩ : Addr) ≠ ⟨C, j, none⟩ := by intro hh; cases hh; exact h.ne rfl
    exact (World.cell?_setCell_other w _ _ _ hne).trans (h.all j hj)
  · by_cases e1 : j = n
    · subst e1
      exact World.cell?_setCell_same w _ _ hv
    · have hne : (⟨P, n, none⟩ : Addr) ≠ ⟨P, j, none⟩ := by intro hh; cases hh; exact e1 rfl
      exact (World.cell?_setCell_other w _ _ _ hne).trans (h.done j (by omega))
theorem row_six' (k r t l e a : Int) (j : Nat) (hj : j < 6) : (#[Value.int .i64 k, .int .i64 r, .int .i64 t, .int .i64 l, .int .i64 e, .int .i64 a] : Array Value)[j]? = some (.int .i64 (nth k r t l e a j)) := by
  match j, hj with
  | 0, _ | 1, _ | 2, _ | 3, _ | 4, _ | 5, _ => rfl
theorem ps_new {w w1 w2 : World} {k r t l e a : Int} {cs : Array Value} {ty : TypeId} (hcs : cs.size = 5) (hW : TabW w) (h1 : Below w.heap.size w w1) (h2 : Below (w1.alloc (.cells cs 92)).heap.size (w1.alloc (.cells cs 92)) w2) :
    PS w (w2.alloc (.cells #[.int .i64 k, .int .i64 r, .int .i64 t, .int .i64 l, .int .i64 e, .int .i64 a] ty)) w1.heap.size w2.heap.size 0 k r t l e a := by
  have hs := h2.size
  have h1s := h1.size
  simp only [World.size_alloc] at hs
  have B2 : Below w.heap.size w w2 := (bal h1 _).trans (h2.mono (by simp; omega))
  have B3 := bal B2 (.cells #[.int .i64 k, .int .i64 r, .int .i64 t, .int .i64 l, .int .i64 e, .int .i64 a] ty)
  have hlt := hW.lt
  refine ⟨hW.on B3, B3, h1s, by simp; omega, by simp, by omega, by omega, ⟨cs, hcs, ?_⟩, fun j hj => ?_, fun j hj => by omega⟩
  · exact (Below.heap_alloc w2 _ _ (by omega)).trans ((h2.block w1.heap.size (by simp)).trans (heap_alloc_new w1 _))
  · rw [cell_of_row _ _ j _ _ _ (heap_alloc_new w2 _)]
    exact row_six' k r t l e a j hj
/-- The words of the widths, copied, and the parts. -/
theorem ints_parts {w0 w : World} {P C : Nat} {k r t l e a : Int} (h : PS w0 w P C 5 k r t l e a) (ty : TypeId) :
    Ints .i64 (w.alloc (.cells #[.int .i64 4, .int .i64 5, .int .i64 6, .int .i64 6, .int .i64 16] ty)).heap.size (w.alloc (.cells #[.int .i64 4, .int .i64 5, .int .i64 6, .int .i64 6, .int .i64 16] ty)) (.slice (some ⟨w.heap.size, 0, none⟩) ws.length 5) ws ∧
    Ints .u64 (w.alloc (.cells #[.int .i64 4, .int .i64 5, .int .i64 6, .int .i64 6, .int .i64 16] ty)).heap.size (w.alloc (.cells #[.int .i64 4, .int .i64 5, .int .i64 6, .int .i64 6, .int .i64 16] ty)) (.slice (some ⟨P, 0, none⟩) ws.length 5) [k, r, t, l, e] := by
  have hP := h.ltP
  constructor
  · refine .inr ⟨w.heap.size, 0, 5, rfl, by simp, fun j hj => ?_⟩
    rw [Nat.zero_add, cell_of_row _ _ j _ _ _ (heap_alloc_new w _)]
    match j, hj with
    | 0, _ | 1, _ | 2, _ | 3, _ | 4, _ => rfl
  · refine .inr ⟨P, 0, 5, rfl, by simp; omega, fun j hj => ?_⟩
    have hj' : j < 5 := by simpa using hj
    rw [Nat.zero_add, (bal (Below.refl w.heap.size w) _).cell (p := ⟨P, j, none⟩) hP, h.done j hj']
    match j, hj' with
    | 0, _ | 1, _ | 2, _ | 3, _ | 4, _ => rfl
set_option maxRecDepth 100000 in
theorem put_any (k r t l e a : Int) (w : World) (hT : TabM w) (hW : TabW w) :
    Calls Tryd.prog 24 #[.agg #[.int .i64 k, .int .i64 r, .int .i64 t, .int .i64 l, .int .i64 e, .int .i64 a]] w fun x w' => x = .returned (.tuple #[.int .u64 (putW k r t l e a), .int .u64 (putA k r t l e a), .int .i64 (chk k r t l e a)]) ∧ Below w.heap.size w w' := by
  have HT : Hid (∀ o, TabM (w.alloc o)) := fun o => hT.on (bal (Below.refl _ _) _)
  have HW : Hid (TabW w) := hW
  have HI : Hid (∀ ty, Box6 (w.alloc (.cells #[.int .i64 k, .int .i64 r, .int .i64 t, .int .i64 l, .int .i64 e, .int .i64 a] ty)) w.heap.size k r t l e a) := fun ty => box6_new w _ _ _ _ _ _ ty
  clear hT hW
  by_cases hp : Rt k r t l e a
  case neg =>
    rw [putW_no hp, putA_no hp]
    have hc : chk k r t l e a = 1 := chk_no hp
    rw [hc]
    clear hp
    go_enter Tryd.func24, Tryd.ntmps24
    go_wp2_with (first
      | (go_at_call 38; refine (check_any _ _ _ _ _ _ _ (HT.out _)).mono ?_; rintro e1 w1 ⟨rfl, hb1⟩; rw [hc]; have H1 : Hid (Below w.heap.size w w1) := (bal (Below.refl _ _) _).trans (hb1.mono (by simp)); clear hb1)
      | fail)
    go_ret3
    exact ⟨rfl, H1.out⟩
  case pos =>
  rw [putW_yes hp, putA_yes hp]
  have hc : chk k r t l e a = 0 := chk_yes hp
  rw [hc]
  have HP : Hid (Rt k r t l e a) := hp
  clear hp
  go_enter Tryd.func24, Tryd.ntmps24
  go_wp2_with (first
    | (go_at_call 38; refine (check_any _ _ _ _ _ _ _ (HT.out _)).mono ?_; rintro e1 w1 ⟨rfl, hb1⟩; rw [hc]; have H1 : Hid (Below w.heap.size w w1) := (bal (Below.refl _ _) _).trans (hb1.mono (by simp)); have X1 := (HI.out _).on hb1; clear hb1 HT; have x0 := X1.c0; have x1 := X1.c1; have x2 := X1.c2; have x3 := X1.c3; have x4 := X1.c4; have x5 := X1.c5; have xl := X1.lt; clear X1)
    | (go_at_call 39; refine (numbers_any _ _ _ _ _ _ _).mono ?_; rintro e2 w2 ⟨rfl, hb2⟩; have H2 := fun ty' => ps_new (k := k) (r := r) (t := t) (l := l) (e := e) (a := a) (ty := ty') (by rfl) HW.out H1.out hb2; clear hb2)
    | fail)
  replace H2 := H2 93
  generalize w2.alloc _ = w3 at H2 ⊢
  have HS : Hid (PS w w3 w1.heap.size w2.heap.size 0 k r t l e a) := H2
  clear H2 x0 x1 x2 x3 x4 x5 xl
  generalize w1.heap.size = P at HS ⊢
  generalize w2.heap.size = C at HS ⊢
  go_loopw [19, 8] (fun i n wr => ∃ N : Nat, N ≤ 5 ∧ i = .int .i64 N ∧ Hid (PS w wr P C N k r t l e a)) (fun i _ _ => 5 - (intOf i).toNat)
  case atStart => exact ⟨0, by omega, rfl, HS⟩
  case round =>
    obtain ⟨N, hN, rfl, HR⟩ := hrel
    by_cases hlt : N < 5
    · have c1 := HR.out.all N (by omega)
      obtain ⟨v, c2⟩ := HR.out.has hlt
      have c3 := HR.out.free N
      obtain ⟨x, hx⟩ : ∃ x, x = nth k r t l e a N := ⟨_, rfl⟩
      rw [← hx] at c1
      have hx0 : 0 ≤ x ∧ x ≤ 18446744073709551615 := by
        have hr := HP.out
        unfold Rt at hr
        rw [hx]
        match N, hlt with
        | 0, _ | 1, _ | 2, _ | 3, _ | 4, _ => simp [nth]; omega
      obtain ⟨hx1, hx2⟩ := hx0
      have HX : Hid (x = nth k r t l e a N) := hx
      clear hx
      go_wp2
      refine ⟨⟨N + 1, by omega, by go_num, ?_⟩, by simp [intOf]; omega⟩
      rw [HX.out]
      exact HR.out.step hlt
    · obtain rfl : N = 5 := by omega
      have c5 := HR.out.all 5 (by omega)
      rw [show nth k r t l e a 5 = a from rfl] at c5
      obtain ⟨t1, fr, hg⟩ := HR.out.tabw.row
      have HG : Hid (wr.heap[(0 : Nat)]? = some (.cells #[.int .i64 4, .int .i64 5, .int .i64 6, .int .i64 6, .int .i64 16] t1 fr)) := hg
      have g0 : wr.cell? ⟨0, 0, none⟩ = some (.int .i64 4) := (cell_of_row _ _ 0 _ _ _ hg).trans rfl
      have g1 : wr.cell? ⟨0, 1, none⟩ = some (.int .i64 5) := (cell_of_row _ _ 1 _ _ _ hg).trans rfl
      have g2 : wr.cell? ⟨0, 2, none⟩ = some (.int .i64 6) := (cell_of_row _ _ 2 _ _ _ hg).trans rfl
      have g3 : wr.cell? ⟨0, 3, none⟩ = some (.int .i64 6) := (cell_of_row _ _ 3 _ _ _ hg).trans rfl
      have g4 : wr.cell? ⟨0, 4, none⟩ = some (.int .i64 16) := (cell_of_row _ _ 4 _ _ _ hg).trans rfl
      clear hg
      have hr := HP.out
      unfold Rt at hr
      have ha0 : 0 ≤ a := hr.2.2.2.2.2.2.2.2.2.2.1
      have ha1 : a ≤ 1073741824 := hr.2.2.2.2.2.2.2.2.2.2.2.1
      clear hr
      have hints := ints_parts HR.out 95
      have hB4 := bal HR.out.below (.cells #[.int .i64 4, .int .i64 5, .int .i64 6, .int .i64 6, .int .i64 16] 95)
      have c6 := ((bal (Below.refl wr.heap.size wr) (.cells #[.int .i64 4, .int .i64 5, .int .i64 6, .int .i64 6, .int .i64 16] 95)).cell (p := ⟨C, 5, none⟩) HR.out.ltC).trans c5
      have ltC : C < (wr.alloc (.cells #[.int .i64 4, .int .i64 5, .int .i64 6, .int .i64 6, .int .i64 16] 95)).heap.size := by have := HR.out.ltC; simp; omega
      go_wp2
      generalize wr.alloc _ = w4 at hints hB4 c6 ltC ⊢
      generalize wr.heap.size = D at hints ⊢
      have H4 : Hid (Below w.heap.size w w4) := hB4
      have HC : Hid (w4.cell? ⟨C, 5, none⟩ = some (.int .i64 a)) := c6
      have HL : Hid (C < w4.heap.size) := ltC
      have HK : Hid (∀ w5, Below w4.heap.size w4 w5 → Calls Tryd.prog 40 #[.slice (some ⟨D, 0, none⟩) 5 5, .slice (some ⟨P, 0, none⟩) 5 5] w5 fun e' W' => e' = .returned (.tuple #[.int .u64 (packF ws [k, r, t, l, e]), .int .i64 0]) ∧ Below w5.heap.size w5 W') := fun w5 m => pack_ok (some ⟨D, 0, none⟩) (some ⟨P, 0, none⟩) 5 5 ws [k, r, t, l, e] w5 (by decide) rfl (put_can HP.out).1 (hints.1.on m) (hints.2.on m) (put_can HP.out).2
      clear hints hB4 c6 ltC c5 g0 g1 g2 g3 g4
      obtain ⟨z, hz⟩ : ∃ z, z = packF ws [k, r, t, l, e] := ⟨_, rfl⟩
      rw [← hz] at HK
      have HZ : Hid (z = packF ws [k, r, t, l, e]) := hz
      clear hz
      go_region_held3 (fun _ => True) (first | exact trivial | go_keep)
      (first
        | (go_at_call 40; refine (HK.out _ (by first | exact Below.refl _ _ | exact (Below.refl _ _).drew)).mono ?_; rintro e5 w5 ⟨rfl, hb5⟩; have H5 : Hid (Below w4.heap.size w4 w5) := (by first | exact hb5 | exact (Below.refl _ _).drew.trans hb5); clear hb5; have x5 := (H5.out.cell (p := ⟨C, 5, none⟩) HL.out).trans HC.out)
        | fail)
      go_wp2
      go_quiet (fail)
      go_wp2
      go_ret3
      exact ⟨by rw [HZ.out]; rfl, (H4.out.trans (H5.out.mono H4.out.size)).trans (below_drew' _ _ _)⟩
end Go.Proofs.YtkodanflobclhaaDoor.Pcap
