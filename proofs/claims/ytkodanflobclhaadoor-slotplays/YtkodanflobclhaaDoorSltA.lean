/- What Put and Get of package slot answer and do, for every argument, over a memory that New made. -/
import Derived.Test.YtkodanflobclhaaDoorSltG
import Derived.BigQuiet
import Derived.BigRegion
import Derived.Deep.RegionHeld3
import Derived.Deep.CutBlock
namespace Go.Proofs.YtkodanflobclhaaDoor.Pslot
open Go.Proofs.YtkodanflobclhaaDoor.Pbase Go.Proofs.YtkodanflobclhaaDoor.Pcap Go.Proofs.YtkodanflobclhaaDoor.Pfield Go.Proofs.YtkodanflobclhaaDoor.Pmem
open Go.RowKit M
set_option linter.unusedVariables false

theorem place_no (i : Int) (w : World) (h : okS i = false) : Calls Tryd.prog 23 #[.int .i64 i] w fun e w' => e = .returned (.tuple #[.int .i64 0, .int .i64 1]) ∧ w' = w := by
  rcases okS_no h with h1 | h1
  · clear h
    go_enter Tryd.func23, Tryd.ntmps23
    go_wp2
    go_ret2
    exact ⟨rfl, rfl⟩
  · clear h
    have h2 : ¬ i < 0 := by omega
    go_enter Tryd.func23, Tryd.ntmps23
    go_wp2
    go_ret2
    exact ⟨rfl, rfl⟩
theorem place_yes (n at_ : Nat) (w : World) (h : n < 16) (ha : at_ = 4 + 2 * n) : Calls Tryd.prog 23 #[.int .i64 n] w fun e w' => e = .returned (.tuple #[.int .i64 at_, .int .i64 0]) ∧ w' = w := by
  have h1 : ¬ (n : Int) < 0 := by omega
  have h2 : ¬ 16 ≤ (n : Int) := by omega
  have h2' : ¬ 16 ≤ n := by omega
  have e1 : wrap64 (2 * (n : Int)) = 2 * (n : Int) := by unfold wrap64; omega
  have e2 : wrap64 (4 + 2 * (n : Int)) = (at_ : Int) := by unfold wrap64; omega
  have HA : Hid (at_ = 4 + 2 * n) := ha
  clear ha
  go_enter Tryd.func23, Tryd.ntmps23
  go_wp2
  go_ret2
  exact ⟨by have := HA.out; simp; omega, rfl⟩
theorem box6_but {w w' : World} {B q : Nat} {k r t l e a : Int} (h : Box6 w B k r t l e a) (hB : But q w w') (hn : B ≠ q) : Box6 w' B k r t l e a :=
  ⟨Nat.lt_of_lt_of_le h.lt hB.size, (hB.cell h.lt hn).trans h.c0, (hB.cell h.lt hn).trans h.c1, (hB.cell h.lt hn).trans h.c2, (hB.cell h.lt hn).trans h.c3, (hB.cell h.lt hn).trans h.c4, (hB.cell h.lt hn).trans h.c5, fun j => (hB.frozen h.lt hn).trans (h.fz j)⟩
/-- A capability in the call's first block, a memory and the tables. -/
structure PtI (w0 w : World) (p b N : Nat) (M : Nat → Nat → Int) (k r t l e a : Int) : Prop where
  mt : Mt w p b N M
  below : Below w0.heap.size w0 w
  box : Box6 w w0.heap.size k r t l e a
theorem PtI.on {w0 w w' : World} {p b N : Nat} {M : Nat → Nat → Int} {k r t l e a : Int} (h : PtI w0 w p b N M k r t l e a) (hB : Below w.heap.size w w') : PtI w0 w' p b N M k r t l e a :=
  ⟨h.mt.on hB, h.below.trans (hB.mono h.below.size), h.box.on hB⟩
theorem ptI_new {w : World} {p b N : Nat} {M : Nat → Nat → Int} (h : Mt w p b N M) (k r t l e a : Int) (ty : TypeId) : PtI w (w.alloc (.cells #[.int .i64 k, .int .i64 r, .int .i64 t, .int .i64 l, .int .i64 e, .int .i64 a] ty)) p b N M k r t l e a :=
  ⟨h.on (bal (Below.refl _ _) _), bal (Below.refl _ _) _, box6_new w k r t l e a ty⟩
set_option maxRecDepth 100000 in
set_option maxHeartbeats 1000000 in
theorem sput_bad (p b N : Nat) (f i k r t l e a : Int) (M : Nat → Nat → Int) (w : World) (hM : Mt w p b N M) (hb : okS i = false ∨ ¬ Rt k r t l e a) :
    Calls Tryd.prog 7 #[.pointer (some ⟨p, 0, none⟩), .int .i64 f, .int .i64 i, .agg #[.int .i64 k, .int .i64 r, .int .i64 t, .int .i64 l, .int .i64 e, .int .i64 a]] w fun x w' => x = .returned (.int .i64 1) ∧ Below w.heap.size w w' := by
  have HI : Hid (∀ ty, PtI w (w.alloc (.cells #[.int .i64 k, .int .i64 r, .int .i64 t, .int .i64 l, .int .i64 e, .int .i64 a] ty)) p b N M k r t l e a) := fun ty => ptI_new hM k r t l e a ty
  clear hM
  cases hi : okS i
  · clear hb
    go_enter Tryd.func7, Tryd.ntmps7
    go_wp2_with (first
      | (go_at_call 23; refine (place_no i _ hi).mono ?_; rintro e1 w1 ⟨rfl, hw1⟩; subst w1)
      | fail)
    go_ret
    exact ⟨rfl, (HI.out _).below⟩
  · have hr : ¬ Rt k r t l e a := by rcases hb with h | h; · rw [hi] at h; cases h
                                     · exact h
    obtain ⟨n, rfl, hn⟩ := okS_split hi
    have hc : chk k r t l e a = 1 := chk_no hr
    obtain ⟨A, hA⟩ : ∃ A, A = 4 + 2 * n := ⟨_, rfl⟩
    have HA : Hid (A = 4 + 2 * n) := hA
    clear hb hi hr hA
    go_enter Tryd.func7, Tryd.ntmps7
    go_wp2_with (first
      | (go_at_call 23; refine (place_yes n A _ hn HA.out).mono ?_; rintro e1 w1 ⟨rfl, hw1⟩; subst w1; have H1 : Hid _ := HI.out 32; have x0 := H1.out.box.c0; have x1 := H1.out.box.c1; have x2 := H1.out.box.c2; have x3 := H1.out.box.c3; have x4 := H1.out.box.c4; have x5 := H1.out.box.c5)
      | (go_at_call 24; refine (Pcap.put_any _ _ _ _ _ _ _ H1.out.mt.tab H1.out.mt.tabw).mono ?_; rintro e2 w2 ⟨rfl, hb2⟩; rw [hc]; have H2 : Hid (Below w.heap.size w w2) := H1.out.below.trans (hb2.mono H1.out.below.size); clear hb2)
      | fail)
    go_ret
    exact ⟨rfl, H2.out⟩
set_option maxRecDepth 100000 in
set_option maxHeartbeats 1000000 in
theorem sput_ok (p b N n A A1 : Nat) (f k r t l e a : Int) (M : Nat → Nat → Int) (w : World) (hM : Mt w p b N M) (hn : n < 16) (hA : A = 4 + 2 * n) (hA1 : A1 = A + 1) (hr : Rt k r t l e a) :
    Calls Tryd.prog 7 #[.pointer (some ⟨p, 0, none⟩), .int .i64 f, .int .i64 n, .agg #[.int .i64 k, .int .i64 r, .int .i64 t, .int .i64 l, .int .i64 e, .int .i64 a]] w fun x w' => x = .returned (.int .i64 (errF N f)) ∧ MemIs w' p b N (stW N (stW N M f (A : Int) (putW k r t l e a)) f (A1 : Int) (putA k r t l e a)) ∧ But b w w' := by
  have HI : Hid (∀ ty, PtI w (w.alloc (.cells #[.int .i64 k, .int .i64 r, .int .i64 t, .int .i64 l, .int .i64 e, .int .i64 a] ty)) p b N M k r t l e a) := fun ty => ptI_new hM k r t l e a ty
  have hN1 := hM.n1
  have hN := hM.n64
  have HA : Hid (A = 4 + 2 * n) := hA
  have hc : chk k r t l e a = 0 := chk_yes hr
  have s1 : wrap64 ((A : Int) + 1) = (A1 : Int) := by unfold wrap64; omega
  have e1 : errW N f (A : Int) = errF N f := by
    have : decide ((0 : Int) ≤ (A : Int) ∧ (A : Int) < 36) = true := by simp; omega
    simp only [errW, okW, errF, this, Bool.and_true]
  have e2 : errW N f (A1 : Int) = errF N f := by
    have : decide ((0 : Int) ≤ (A1 : Int) ∧ (A1 : Int) < 36) = true := by simp; omega
    simp only [errW, okW, errF, this, Bool.and_true]
  have hz : errF N f = 0 ∨ (errF N f = 1 ∧ ∀ c v M', stW N M' f c v = M') := by
    cases hf : okF N f
    · exact .inr ⟨by simp [errF, hf], fun c v M' => by simp [stW, okW, hf]⟩
    · exact .inl (by simp [errF, hf])
  have HC : Hid (∀ wc, TabM wc → TabW wc → Calls Tryd.prog 24 #[.agg #[.int .i64 k, .int .i64 r, .int .i64 t, .int .i64 l, .int .i64 e, .int .i64 a]] wc fun x w' => x = .returned (.tuple #[.int .u64 (putW k r t l e a), .int .u64 (putA k r t l e a), .int .i64 0]) ∧ Below wc.heap.size wc w') := fun wc h1 h2 => by
    have := Pcap.put_any k r t l e a wc h1 h2
    rwa [hc] at this
  generalize putW k r t l e a = x at HC ⊢
  generalize putA k r t l e a = y at HC ⊢
  clear hM hc hr hA hA1
  have t1 : True := trivial
  rcases hz with hz | ⟨hz, hM⟩
  · rw [hz] at e1 e2 ⊢
    clear hz
    go_enter Tryd.func7, Tryd.ntmps7
    go_wp2_with (first
      | (go_at_call 23; refine (place_yes n A _ hn HA.out).mono ?_; rintro r1 w1 ⟨rfl, hw1⟩; subst w1; have H1 : Hid _ := HI.out 32; have x0 := H1.out.box.c0; have x1 := H1.out.box.c1; have x2 := H1.out.box.c2; have x3 := H1.out.box.c3; have x4 := H1.out.box.c4; have x5 := H1.out.box.c5)
      | (go_at_call 24; refine (HC.out _ H1.out.mt.tab H1.out.mt.tabw).mono ?_; rintro r2 w2 ⟨rfl, hb2⟩; have H2 : Hid (PtI w w2 p b N M k r t l e a) := H1.out.on hb2; clear hb2 x0 x1 x2 x3 x4 x5 H1 HI)
      | (go_at_call 21; clear t1; refine (store_any p b N f (A : Int) x M _ hN1 hN H2.out.mt.mem).mono ?_; rintro r3 w3 ⟨rfl, hw3⟩; rw [e1]; have H3 : Hid (MemIs w3 p b N (stW N M f (A : Int) x) ∧ But b w w3) := (by rw [hw3]; exact ⟨H2.out.mt.mem.set _, (But.of_below b H2.out.below).setRow _⟩); clear hw3 e1)
      | (go_at_call 21; rw [s1]; refine (store_any p b N f (A1 : Int) y _ _ hN1 hN H3.out.1).mono ?_; rintro r4 w4 ⟨rfl, hw4⟩; rw [e2]; have H4 : Hid (MemIs w4 p b N (stW N (stW N M f (A : Int) x) f (A1 : Int) y) ∧ But b w w4) := (by rw [hw4]; exact ⟨H3.out.1.set _, H3.out.2.setRow _⟩); clear hw4)
      | fail)
    go_ret
    exact ⟨rfl, H4.out⟩
  · rw [hM, hM, hz]
    rw [hz] at e1
    clear hz e2
    go_enter Tryd.func7, Tryd.ntmps7
    go_wp2_with (first
      | (go_at_call 23; refine (place_yes n A _ hn HA.out).mono ?_; rintro r1 w1 ⟨rfl, hw1⟩; subst w1; have H1 : Hid _ := HI.out 32; have x0 := H1.out.box.c0; have x1 := H1.out.box.c1; have x2 := H1.out.box.c2; have x3 := H1.out.box.c3; have x4 := H1.out.box.c4; have x5 := H1.out.box.c5)
      | (go_at_call 24; refine (HC.out _ H1.out.mt.tab H1.out.mt.tabw).mono ?_; rintro r2 w2 ⟨rfl, hb2⟩; have H2 : Hid (PtI w w2 p b N M k r t l e a) := H1.out.on hb2; clear hb2 x0 x1 x2 x3 x4 x5 H1 HI)
      | (go_at_call 21; clear t1; refine (store_any p b N f (A : Int) x M _ hN1 hN H2.out.mt.mem).mono ?_; rintro r3 w3 ⟨rfl, hw3⟩; rw [e1]; have H3 : Hid (MemIs w3 p b N M ∧ But b w w3) := (by rw [hw3, hM]; exact ⟨H2.out.mt.mem.set _, (But.of_below b H2.out.below).setRow _⟩); clear hw3 e1)
      | fail)
    go_ret
    exact ⟨rfl, H3.out⟩
/-- Put, for every argument. -/
theorem sput_any (p b N : Nat) (f i k r t l e a : Int) (M : Nat → Nat → Int) (w : World) (hM : Mt w p b N M) :
    Calls Tryd.prog 7 #[.pointer (some ⟨p, 0, none⟩), .int .i64 f, .int .i64 i, .agg #[.int .i64 k, .int .i64 r, .int .i64 t, .int .i64 l, .int .i64 e, .int .i64 a]] w fun x w' => x = .returned (.int .i64 (pE N f i k r t l e a)) ∧ Mt w' p b N (pM N M f i k r t l e a) ∧ But b w w' := by
  have hF := fit_pM hM.fit N f i k r t l e a
  by_cases h : okS i = true ∧ Rt k r t l e a
  · obtain ⟨hi, hr⟩ := h
    obtain ⟨n, rfl, hn⟩ := okS_split hi
    refine (sput_ok p b N n (4 + 2 * n) (4 + 2 * n + 1) f k r t l e a M w hM hn rfl rfl hr).mono ?_
    rintro x w' ⟨rfl, h1, h2⟩
    have e1 : pE N f n k r t l e a = errF N f := by simp [pE, hi, rtB_yes hr, errF]
    have e2 : pM N M f n k r t l e a = stW N (stW N M f ((4 + 2 * n : Nat) : Int) (putW k r t l e a)) f ((4 + 2 * n + 1 : Nat) : Int) (putA k r t l e a) := by
      have a1 : (4 + 2 * (n : Int)) = ((4 + 2 * n : Nat) : Int) := by omega
      have a2 : (4 + 2 * (n : Int) + 1) = ((4 + 2 * n + 1 : Nat) : Int) := by omega
      simp only [pM, hi, rtB_yes hr, Bool.and_self, if_true]
      rw [a2, a1]
    rw [e1]
    refine ⟨rfl, hM.but ?_ hF h2, h2⟩
    rw [e2]
    exact h1
  · have hb : okS i = false ∨ ¬ Rt k r t l e a := by
      cases hi : okS i
      · exact .inl rfl
      · exact .inr fun hr => h ⟨hi, hr⟩
    refine (sput_bad p b N f i k r t l e a M w hM hb).mono ?_
    rintro x w' ⟨rfl, h2⟩
    have hz : (okS i && rtB k r t l e a) = false := by
      rcases hb with hb | hb
      · simp [hb]
      · simp [rtB_no hb]
    have e1 : pE N f i k r t l e a = 1 := by simp [pE, hz]
    have e2 : pM N M f i k r t l e a = M := by simp [pM, hz]
    rw [e1, e2]
    exact ⟨rfl, hM.on h2, But.of_below b h2⟩

/-! ### Get -/
/-- The result in the call's first block, a memory and the tables. -/
theorem sget_i {w : World} {p b N : Nat} {M : Nat → Nat → Int} (h : Mt w p b N M) (ty : TypeId) : PtI w (w.alloc (.cells #[.int .i64 0, .int .i64 0, .int .i64 0, .int .i64 0, .int .i64 0, .int .i64 0] ty)) p b N M 0 0 0 0 0 0 := ptI_new h 0 0 0 0 0 0 ty
/-- Get on its way: the result's block, the two words' block D, a memory and the tables. -/
structure GtS (w0 w : World) (p b N : Nat) (M : Nat → Nat → Int) (D : Nat) (x y : Int) : Prop where
  mt0 : Mt w0 p b N M
  below : Below w0.heap.size w0 w
  res : w.heap[w0.heap.size]? = some (.cells #[.int .i64 0, .int .i64 0, .int .i64 0, .int .i64 0, .int .i64 0, .int .i64 0] 32 (0, 0))
  row : w.heap[D]? = some (.cells #[.int .u64 x, .int .u64 y] 65 (0, 0))
  lo : w0.heap.size < D
theorem GtS.mt {w0 w : World} {p b N : Nat} {M : Nat → Nat → Int} {D : Nat} {x y : Int} (h : GtS w0 w p b N M D x y) : Mt w p b N M := h.mt0.on h.below
theorem GtS.box {w0 w : World} {p b N : Nat} {M : Nat → Nat → Int} {D : Nat} {x y : Int} (h : GtS w0 w p b N M D x y) : Box6 w w0.heap.size 0 0 0 0 0 0 :=
  ⟨(Array.getElem?_eq_some_iff.1 h.res).1, (cell_of_row _ _ _ _ _ _ h.res).trans rfl, (cell_of_row _ _ _ _ _ _ h.res).trans rfl, (cell_of_row _ _ _ _ _ _ h.res).trans rfl, (cell_of_row _ _ _ _ _ _ h.res).trans rfl, (cell_of_row _ _ _ _ _ _ h.res).trans rfl, (cell_of_row _ _ _ _ _ _ h.res).trans rfl, fun j => frozen_of_row _ _ _ _ _ h.res⟩
theorem GtS.c0 {w0 w : World} {p b N : Nat} {M : Nat → Nat → Int} {D : Nat} {x y : Int} (h : GtS w0 w p b N M D x y) : w.cell? ⟨D, 0, none⟩ = some (.int .u64 x) := (cell_of_row _ _ _ _ _ _ h.row).trans rfl
theorem GtS.c1 {w0 w : World} {p b N : Nat} {M : Nat → Nat → Int} {D : Nat} {x y : Int} (h : GtS w0 w p b N M D x y) : w.cell? ⟨D, 1, none⟩ = some (.int .u64 y) := (cell_of_row _ _ _ _ _ _ h.row).trans rfl
theorem GtS.fz {w0 w : World} {p b N : Nat} {M : Nat → Nat → Int} {D : Nat} {x y : Int} (h : GtS w0 w p b N M D x y) (j : Nat) : w.frozen? ⟨D, j, none⟩ = false := frozen_of_row _ _ _ _ _ h.row
theorem GtS.set0 {w0 w : World} {p b N : Nat} {M : Nat → Nat → Int} {D : Nat} {x y : Int} (h : GtS w0 w p b N M D x y) (z : Int) : GtS w0 (w.setCell ⟨D, 0, none⟩ (.int .u64 z)) p b N M D z y :=
  ⟨h.mt0, bst h.below (Nat.le_of_lt h.lo) _ _, (heap_setCell_other _ _ _ _ (Nat.ne_of_lt h.lo)).trans h.res, (heap_setCell_same _ _ _ _ _ _ h.row).trans rfl, h.lo⟩
theorem GtS.set1 {w0 w : World} {p b N : Nat} {M : Nat → Nat → Int} {D : Nat} {x y : Int} (h : GtS w0 w p b N M D x y) (z : Int) : GtS w0 (w.setCell ⟨D, 1, none⟩ (.int .u64 z)) p b N M D x z :=
  ⟨h.mt0, bst h.below (Nat.le_of_lt h.lo) _ _, (heap_setCell_other _ _ _ _ (Nat.ne_of_lt h.lo)).trans h.res, (heap_setCell_same _ _ _ _ _ _ h.row).trans rfl, h.lo⟩
theorem gtS_new {w : World} {p b N : Nat} {M : Nat → Nat → Int} (h : Mt w p b N M) : GtS w ((w.alloc (.cells #[.int .i64 0, .int .i64 0, .int .i64 0, .int .i64 0, .int .i64 0, .int .i64 0] 32)).alloc (.cells #[.int .u64 0, .int .u64 0] 65)) p b N M (w.heap.size + 1) 0 0 :=
  ⟨h, bal (bal (Below.refl _ _) _) _, (Below.heap_alloc _ _ _ (by simp)).trans (heap_alloc_new w _), by have := heap_alloc_new (w.alloc (.cells #[.int .i64 0, .int .i64 0, .int .i64 0, .int .i64 0, .int .i64 0, .int .i64 0] 32)) (.cells #[.int .u64 0, .int .u64 0] 65); rwa [World.size_alloc] at this, by omega⟩
set_option maxRecDepth 100000 in
set_option maxHeartbeats 1000000 in
theorem sget_bad (p b N : Nat) (f i : Int) (M : Nat → Nat → Int) (w : World) (hM : Mt w p b N M) (hb : okS i = false ∨ okF N f = false) :
    Calls Tryd.prog 9 #[.pointer (some ⟨p, 0, none⟩), .int .i64 f, .int .i64 i] w fun x w' => x = .returned (.tuple #[.agg #[.int .i64 0, .int .i64 0, .int .i64 0, .int .i64 0, .int .i64 0, .int .i64 0], .int .i64 1]) ∧ Below w.heap.size w w' := by
  have HI : Hid (PtI w (w.alloc (.cells #[.int .i64 0, .int .i64 0, .int .i64 0, .int .i64 0, .int .i64 0, .int .i64 0] 32)) p b N M 0 0 0 0 0 0) := sget_i hM 32
  have HM : Hid (Mt w p b N M) := hM
  have hN1 := hM.n1
  have hN := hM.n64
  clear hM
  cases hi : okS i
  · clear hb
    go_enter Tryd.func9, Tryd.ntmps9
    go_upto_region 3 with (first
      | (go_at_call 23; refine (place_no i _ hi).mono ?_; rintro e1 w1 ⟨rfl, hw1⟩; subst w1)
      | fail)
    generalize w.alloc _ = v1 at HI ⊢
    have x0 := HI.out.box.c0
    have x1 := HI.out.box.c1
    have x2 := HI.out.box.c2
    have x3 := HI.out.box.c3
    have x4 := HI.out.box.c4
    have x5 := HI.out.box.c5
    have z0 := HI.out.box.fz 0
    have z1 := HI.out.box.fz 1
    have z2 := HI.out.box.fz 2
    have z3 := HI.out.box.fz 3
    have z4 := HI.out.box.fz 4
    have z5 := HI.out.box.fz 5
    go_wp2
    refine bodyPost_ret (v := .tuple #[.agg #[.int .i64 0, .int .i64 0, .int .i64 0, .int .i64 0, .int .i64 0, .int .i64 0], .int .i64 1]) (by simp [results, Tryd.results9, go_sem, x0, x1, x2, x3, x4, x5]) rfl ⟨rfl, ?_⟩
    exact bst (bst (bst (bst (bst (bst HI.out.below (Nat.le_refl _) _ _) (Nat.le_refl _) _ _) (Nat.le_refl _) _ _) (Nat.le_refl _) _ _) (Nat.le_refl _) _ _) (Nat.le_refl _) _ _
  · have hf : okF N f = false := by rcases hb with h | h; · rw [hi] at h; cases h
                                    · exact h
    obtain ⟨n, rfl, hn⟩ := okS_split hi
    obtain ⟨A, hA⟩ : ∃ A, A = 4 + 2 * n := ⟨_, rfl⟩
    have HA : Hid (A = 4 + 2 * n) := hA
    have l0 : ldM N M f (A : Int) = 0 := by simp [ldM, okW, hf]
    have e0 : errW N f (A : Int) = 1 := by simp [errW, okW, hf]
    have hAi : IntKind.i64.wrap (A : Int) = (A : Int) := wrapi_small (by omega) (by omega)
    clear hb hi hf hA HI
    go_enter Tryd.func9, Tryd.ntmps9
    go_upto_region 5 with (first
      | (go_at_call 23; refine (place_yes n A _ hn HA.out).mono ?_; rintro e1 w1 ⟨rfl, hw1⟩; subst w1)
      | fail)
    have HS : Hid (GtS w ((w.alloc (.cells #[.int .i64 0, .int .i64 0, .int .i64 0, .int .i64 0, .int .i64 0, .int .i64 0] 32)).alloc (.cells #[.int .u64 0, .int .u64 0] 65)) p b N M (w.heap.size + 1) 0 0) := gtS_new HM.out
    generalize (w.alloc _).alloc _ = v1 at HS ⊢
    generalize w.heap.size + 1 = D at HS ⊢
    go_wp2
    go_loopw [21] (fun i wr => i = .int .i64 0 ∧ wr = v1) (fun i _ => 0)
    case atStart => exact ⟨rfl, rfl⟩
    case round =>
      obtain ⟨rfl, hwr⟩ := hrel
      subst wr
      have y0 := HS.out.c0
      have q0 := HS.out.fz 0
      have x0 := HS.out.box.c0
      have x1 := HS.out.box.c1
      have x2 := HS.out.box.c2
      have x3 := HS.out.box.c3
      have x4 := HS.out.box.c4
      have x5 := HS.out.box.c5
      go_upto_region 9 with (first
        | (go_at_call 26; refine (load_any p b N f (A : Int) M _ hN1 hN HS.out.mt.mem).mono ?_; rintro e1 w1 ⟨rfl, hw1⟩; subst w1; rw [l0, e0])
        | fail)
      have HS2 : Hid (GtS w (v1.setCell ⟨D, 0, none⟩ (.int .u64 0)) p b N M D 0 0) := HS.out.set0 0
      generalize v1.setCell _ _ = v2 at HS2 ⊢
      clear x0 x1 x2 x3 x4 x5 y0 q0 HS
      have x0 := HS2.out.box.c0
      have x1 := HS2.out.box.c1
      have x2 := HS2.out.box.c2
      have x3 := HS2.out.box.c3
      have x4 := HS2.out.box.c4
      have x5 := HS2.out.box.c5
      have z0 := HS2.out.box.fz 0
      have z1 := HS2.out.box.fz 1
      have z2 := HS2.out.box.fz 2
      have z3 := HS2.out.box.fz 3
      have z4 := HS2.out.box.fz 4
      have z5 := HS2.out.box.fz 5
      go_wp2
      refine bodyPost_ret (v := .tuple #[.agg #[.int .i64 0, .int .i64 0, .int .i64 0, .int .i64 0, .int .i64 0, .int .i64 0], .int .i64 1]) (by simp [results, Tryd.results9, go_sem, x0, x1, x2, x3, x4, x5]) rfl ⟨rfl, ?_⟩
      exact bst (bst (bst (bst (bst (bst HS2.out.below (Nat.le_refl _) _ _) (Nat.le_refl _) _ _) (Nat.le_refl _) _ _) (Nat.le_refl _) _ _) (Nat.le_refl _) _ _) (Nat.le_refl _) _ _
set_option maxRecDepth 100000 in
set_option maxHeartbeats 1000000 in
theorem sget_ok (p b N n : Nat) (f : Int) (M : Nat → Nat → Int) (w : World) (hM : Mt w p b N M) (hn : n < 16) (hf : okF N f = true) :
    Calls Tryd.prog 9 #[.pointer (some ⟨p, 0, none⟩), .int .i64 f, .int .i64 n] w fun x w' => x = .returned (.tuple #[.agg #[.int .i64 (getC (w1 M f n) (w2 M f n) 0), .int .i64 (getC (w1 M f n) (w2 M f n) 1), .int .i64 (getC (w1 M f n) (w2 M f n) 2), .int .i64 (getC (w1 M f n) (w2 M f n) 3), .int .i64 (getC (w1 M f n) (w2 M f n) 4), .int .i64 (getC (w1 M f n) (w2 M f n) 5)], .int .i64 (getE (w1 M f n) (w2 M f n))]) ∧ Below w.heap.size w w' := by
  have HM : Hid (Mt w p b N M) := hM
  have hN1 := hM.n1
  have hN := hM.n64
  obtain ⟨A, hA⟩ : ∃ A, A = 4 + 2 * n := ⟨_, rfl⟩
  obtain ⟨A1, hA1⟩ : ∃ A1, A1 = A + 1 := ⟨_, rfl⟩
  have HA : Hid (A = 4 + 2 * n) := hA
  have o1 : okW N f (A : Int) = true := by simp [okW, hf]; omega
  have o2 : okW N f (A1 : Int) = true := by simp [okW, hf]; omega
  have l0 : ldM N M f (A : Int) = w1 M f n := by
    unfold ldM w1
    rw [if_pos o1, Int.toNat_natCast, Int.toNat_natCast, hA]
  have l1 : ldM N M f (A1 : Int) = w2 M f n := by
    unfold ldM w2
    rw [if_pos o2, Int.toNat_natCast, Int.toNat_natCast, hA1, hA]
  have e0 : errW N f (A : Int) = 0 := by simp [errW, o1]
  have e1 : errW N f (A1 : Int) = 0 := by simp [errW, o2]
  have s1 : wrap64 ((A : Int) + 1) = (A1 : Int) := by unfold wrap64; omega
  have hx : 0 ≤ w1 M f n ∧ w1 M f n ≤ 18446744073709551615 := hM.fit _ _
  have hy : 0 ≤ w2 M f n ∧ w2 M f n ≤ 18446744073709551615 := hM.fit _ _
  generalize w1 M f n = x at l0 hx ⊢
  generalize w2 M f n = y at l1 hy ⊢
  have hAi : IntKind.i64.wrap (A : Int) = (A : Int) := wrapi_small (by omega) (by omega)
  have HC : Hid (∀ wc, TabM wc → TabW wc → Calls Tryd.prog 27 #[.int .u64 x, .int .u64 y] wc fun v w' => v = .returned (.tuple #[.agg #[.int .i64 (getC x y 0), .int .i64 (getC x y 1), .int .i64 (getC x y 2), .int .i64 (getC x y 3), .int .i64 (getC x y 4), .int .i64 (getC x y 5)], .int .i64 (getE x y)]) ∧ Below wc.heap.size wc w') := fun wc h1 h2 => Pcap.get_any x y wc hx hy h1 h2
  generalize getC x y 0 = C0 at HC ⊢
  generalize getC x y 1 = C1 at HC ⊢
  generalize getC x y 2 = C2 at HC ⊢
  generalize getC x y 3 = C3 at HC ⊢
  generalize getC x y 4 = C4 at HC ⊢
  generalize getC x y 5 = C5 at HC ⊢
  generalize getE x y = E at HC ⊢
  clear hM hA hA1 o1 o2 hx hy hf
  go_enter Tryd.func9, Tryd.ntmps9
  go_upto_region 5 with (first
    | (go_at_call 23; refine (place_yes n A _ hn HA.out).mono ?_; rintro r1 w1 ⟨rfl, hw1⟩; subst w1)
    | fail)
  have HS0 : Hid (GtS w ((w.alloc (.cells #[.int .i64 0, .int .i64 0, .int .i64 0, .int .i64 0, .int .i64 0, .int .i64 0] 32)).alloc (.cells #[.int .u64 0, .int .u64 0] 65)) p b N M (w.heap.size + 1) 0 0) := gtS_new HM.out
  generalize (w.alloc _).alloc _ = v1 at HS0 ⊢
  generalize w.heap.size + 1 = D at HS0 ⊢
  go_wp2
  go_loopw [21] (fun i wr => (i = .int .i64 0 ∧ GtS w wr p b N M D 0 0) ∨ (i = .int .i64 1 ∧ GtS w wr p b N M D x 0) ∨ (i = .int .i64 2 ∧ GtS w wr p b N M D x y)) (fun i _ => 2 - (intOf i).toNat)
  case atStart => exact .inl ⟨rfl, HS0.out⟩
  case round =>
    rcases hrel with ⟨rfl, h⟩ | ⟨rfl, h⟩ | ⟨rfl, h⟩
    · have HS : Hid (GtS w wr p b N M D 0 0) := h
      have y0 := h.c0
      have q0 := h.fz 0
      clear h HS0
      go_wp2_with (first
        | (go_at_call 26; refine (load_any p b N f (A : Int) M _ hN1 hN HS.out.mt.mem).mono ?_; rintro r1 w1 ⟨rfl, hw1⟩; subst w1; rw [l0, e0])
        | fail)
      go_roundw
      case rel => exact .inr (.inl ⟨by go_num, HS.out.set0 x⟩)
      case measure => simp [intOf]
    · have HS : Hid (GtS w wr p b N M D x 0) := h
      have y0 := h.c1
      have q0 := h.fz 1
      clear h HS0
      go_wp2_with (first
        | (go_at_call 26; rw [s1]; refine (load_any p b N f (A1 : Int) M _ hN1 hN HS.out.mt.mem).mono ?_; rintro r1 w1 ⟨rfl, hw1⟩; subst w1; rw [l1, e1])
        | fail)
      go_roundw
      case rel => exact .inr (.inr ⟨by go_num, HS.out.set1 y⟩)
      case measure => simp [intOf]
    · have HS : Hid (GtS w wr p b N M D x y) := h
      have y0 := h.c0
      have y1 := h.c1
      clear h HS0
      go_wp2_with (first
        | (go_at_call 27; refine (HC.out _ HS.out.mt.tab HS.out.mt.tabw).mono ?_; rintro r2 w3 ⟨rfl, hb⟩; have H3 : Hid (Below w.heap.size w w3) := HS.out.below.trans (hb.mono HS.out.below.size); have X := HS.out.box.on hb; clear hb y0 y1; have x0 := X.c0; have x1 := X.c1; have x2 := X.c2; have x3 := X.c3; have x4 := X.c4; have x5 := X.c5; have z0 := X.fz 0; have z1 := X.fz 1; have z2 := X.fz 2; have z3 := X.fz 3; have z4 := X.fz 4; have z5 := X.fz 5; clear X)
        | fail)
      refine bodyPost_ret (v := .tuple #[.agg #[.int .i64 C0, .int .i64 C1, .int .i64 C2, .int .i64 C3, .int .i64 C4, .int .i64 C5], .int .i64 E]) (by simp [results, Tryd.results9, go_sem, x0, x1, x2, x3, x4, x5]) rfl ⟨rfl, ?_⟩
      exact bst (bst (bst (bst (bst (bst H3.out (Nat.le_refl _) _ _) (Nat.le_refl _) _ _) (Nat.le_refl _) _ _) (Nat.le_refl _) _ _) (Nat.le_refl _) _ _) (Nat.le_refl _) _ _
/-- Get, for every argument. -/
theorem sget_any (p b N : Nat) (f i : Int) (M : Nat → Nat → Int) (w : World) (hM : Mt w p b N M) :
    Calls Tryd.prog 9 #[.pointer (some ⟨p, 0, none⟩), .int .i64 f, .int .i64 i] w fun x w' => x = .returned (.tuple #[.agg #[.int .i64 (sC N M f i 0), .int .i64 (sC N M f i 1), .int .i64 (sC N M f i 2), .int .i64 (sC N M f i 3), .int .i64 (sC N M f i 4), .int .i64 (sC N M f i 5)], .int .i64 (sE N M f i)]) ∧ Below w.heap.size w w' := by
  cases hi : okS i
  · simp only [sC, sE, hi, Bool.false_and, Bool.false_eq_true, if_false]
    exact sget_bad p b N f i M w hM (.inl hi)
  · cases hf : okF N f
    · simp only [sC, sE, hf, Bool.and_false, Bool.false_eq_true, if_false]
      exact sget_bad p b N f i M w hM (.inr hf)
    · simp only [sC, sE, hi, hf, Bool.and_self, if_true]
      obtain ⟨n, rfl, hn⟩ := okS_split hi
      exact sget_ok p b N n f M w hM hn hf
end Go.Proofs.YtkodanflobclhaaDoor.Pslot
