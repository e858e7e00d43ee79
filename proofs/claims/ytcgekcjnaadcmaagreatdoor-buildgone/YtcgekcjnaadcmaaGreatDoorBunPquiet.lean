/- Texts on finished packages, joined. -/
import Derived.Test.YtcgekcjnaadcmaaGreatDoorBunBase
import Derived.Test.YtcgekcjnaadcmaaGreatDoorBunPclock
import Derived.Laws.OwnMore
import Derived.Maps.AppendAt
import Derived.OwnWalk
import Derived.Deep.RegionHeld3
import Derived.BigRegion

/- Who has seen it: plain definitions and lemmas over a clock's state; a list of the call's own, as a reader needs it. No program is named. -/
namespace Go.Proofs.YtcgekcjnaadcmaaGreatDoor.Pquiet
open Go.Proofs.YtcgekcjnaadcmaaGreatDoor.Pbase Go.Proofs.YtcgekcjnaadcmaaGreatDoor.Pclock
open Go.RowKit
set_option linter.unusedVariables false

/-- Has that core seen what must be seen of a frame that was that? -/
def seenC (N : Nat) (s : CS) (was t c : Int) : Bool :=
  if was = 0 then true
  else if was = 3 then decide (t < flS N s c) && decide (t < enS N s c)
  else if was = 2 then decide (t < enS N s c)
  else if was = 1 then decide (t < flS N s c)
  else false
/-- The numbers below n that f says no to, rising. -/
def leftU (f : Nat → Bool) : Nat → List Nat
  | 0 => []
  | n + 1 => if f n = true then leftU f n else leftU f n ++ [n]
theorem leftU_yes {f : Nat → Bool} {n : Nat} (h : f n = true) : leftU f (n + 1) = leftU f n := by simp [leftU, h]
theorem leftU_no {f : Nat → Bool} {n : Nat} (h : f n = false) : leftU f (n + 1) = leftU f n ++ [n] := by simp [leftU, h]
theorem mem_leftU {f : Nat → Bool} {i : Nat} : ∀ n : Nat, i ∈ leftU f n ↔ i < n ∧ f i = false
  | 0 => by simp [leftU]
  | n + 1 => by
    have ih := mem_leftU (f := f) (i := i) n
    cases h : f n
    · rw [leftU_no h, List.mem_append, ih, List.mem_singleton]
      constructor
      · rintro (⟨h1, h2⟩ | rfl)
        · exact ⟨by omega, h2⟩
        · exact ⟨by omega, h⟩
      · rintro ⟨h1, h2⟩
        by_cases e : i = n
        · exact .inr e
        · exact .inl ⟨by omega, h2⟩
    · rw [leftU_yes h, ih]
      constructor
      · rintro ⟨h1, h2⟩; exact ⟨by omega, h2⟩
      · rintro ⟨h1, h2⟩
        by_cases e : i = n
        · subst e; rw [h] at h2; cases h2
        · exact ⟨by omega, h2⟩
theorem len_leftU (f : Nat → Bool) : ∀ n : Nat, (leftU f n).length ≤ n
  | 0 => Nat.le_refl _
  | n + 1 => by
    have ih := len_leftU f n
    cases h : f n
    · rw [leftU_no h, List.length_append, List.length_singleton]; omega
    · rw [leftU_yes h]; omega
theorem leftU_nil {f : Nat → Bool} {n : Nat} : (leftU f n).length = 0 ↔ ∀ i, i < n → f i = true := by
  rw [List.length_eq_zero_iff]
  constructor
  · intro h i hi
    cases e : f i
    · have : i ∈ leftU f n := (mem_leftU n).2 ⟨hi, e⟩
      rw [h] at this; cases this
    · rfl
  · intro h
    cases e : leftU f n with
    | nil => rfl
    | cons a l =>
      have : a ∈ leftU f n := by rw [e]; simp
      have := (mem_leftU n).1 this
      rw [h a this.1] at this
      simp at this
/-- The cores that are missing. -/
def leftL (N : Nat) (s : CS) (was t : Int) : List Nat := leftU (fun i => seenC N s was t i) N
/-- Is it quiet? -/
def quF (N : Nat) (s : CS) (was t : Int) : Bool := ((leftL N s was t).length : Int) == 0
theorem quF_iff {N : Nat} {s : CS} {was t : Int} : quF N s was t = true ↔ ∀ i, i < N → seenC N s was t (i : Nat) = true := by
  unfold quF leftL
  rw [beq_iff_eq, Int.natCast_eq_zero, leftU_nil]
theorem quF_zero (N : Nat) (s : CS) (t : Int) : quF N s 0 t = true := quF_iff.2 fun i _ => by simp [seenC]
/-! ### A list of the call's own, as a reader needs it -/
def vals (l : List Nat) : List Value := l.map fun i : Nat => Value.int .i64 (i : Int)
/-- The value v is the slice of the numbers l, in a block from base on. -/
def Got (w : World) (base : Nat) (v : Value) (l : List Nat) : Prop :=
  ∃ a cap, v = .slice a l.length cap ∧ (l.length = 0 ∨ ∃ g, a = some ⟨g, 0, none⟩ ∧ base ≤ g ∧ g < w.heap.size ∧ ∀ j, j < l.length → w.cell? ⟨g, j, none⟩ = some (.int .i64 ((l.getD j 0 : Nat) : Int)))
theorem got_of_own {w : World} {base : Nat} {e : TypeId} {v : Value} {l : List Nat} (h : w.ownsRow base e 1 v l.length (vals l)) : Got w base v l := by
  have hcell := fun g (hg : v.ownBlock = some g) => h.cells hg
  rcases h.2 with ⟨rfl, e0⟩ | ⟨g, cap, cur, rfl, hg, hh, r⟩
  · exact ⟨none, 0, by rw [e0], .inl e0⟩
  · refine ⟨some ⟨g, 0, none⟩, cap, rfl, .inr ⟨g, rfl, hg, (Array.getElem?_eq_some_iff.1 hh).1, fun j hj => ?_⟩⟩
    have := hcell g rfl j (.int .i64 ((l.getD j 0 : Nat) : Int)) (by simp [vals, List.getElem?_eq_getElem hj])
    rwa [Addr.add_lit, Nat.zero_add] at this
theorem Got.mono {w : World} {base base' : Nat} {v : Value} {l : List Nat} (h : Got w base v l) (hle : base' ≤ base) : Got w base' v l := by
  obtain ⟨a, cap, e, h⟩ := h
  refine ⟨a, cap, e, or_right h ?_⟩
  rintro ⟨g, e, hg, hl, hc⟩
  exact ⟨g, e, by omega, hl, hc⟩
theorem own_ge' {w : World} {base : Nat} {e : TypeId} {v : Value} {n : Nat} {xs : List Value} (h : w.ownsRow base e 1 v n xs) : ∀ k, v.ownBlock = some k → base ≤ k := fun k hk => (h.lt k hk).1
theorem row_on {w w' : World} {base : Nat} {e : TypeId} {size : Nat} {v : Value} {n : Nat} {xs : List Value} (h : w.ownsRow base e size v n xs) (hk : ∀ k, base ≤ k → k < w.heap.size → w'.heap[k]? = w.heap[k]?) : w'.ownsRow base e size v n xs := by
  refine ⟨h.1, or_right h.2 ?_⟩
  rintro ⟨g, cap, cur, hv, hg, hh, r⟩
  exact ⟨g, cap, cur, hv, hg, by rw [hk g hg (Array.getElem?_eq_some_iff.1 hh).1]; exact hh, r⟩
theorem row_below {w w' : World} {base B : Nat} {e : TypeId} {size : Nat} {v : Value} {n : Nat} {xs : List Value} (h : w.ownsRow base e size v n xs) (hB : Below B w w') (hle : w.heap.size ≤ B) : w'.ownsRow base e size v n xs :=
  row_on h fun k _ hk => hB.block k (by omega)
theorem vals_snoc (l : List Nat) (n : Nat) : vals (l ++ [n]) = vals l ++ [.int .i64 (n : Int)] := by simp [vals]
theorem one_cell (w : World) (v : Value) (t : TypeId) : ∀ j u, ([v] : List Value)[j]? = some u → (w.alloc (.cells #[v] t)).cell? ((⟨w.heap.size, 0, none⟩ : Addr).add j) = some u := by
  intro j u hj
  match j, hj with
  | 0, hj => simp at hj; subst hj; simp [Addr.add]
end Go.Proofs.YtcgekcjnaadcmaaGreatDoor.Pquiet

/- What the calls of package quiet answer, for every argument that their types allow, over a clock that New made. -/
namespace Go.Proofs.YtcgekcjnaadcmaaGreatDoor.Pquiet
open Go.Proofs.YtcgekcjnaadcmaaGreatDoor.Pbase Go.Proofs.YtcgekcjnaadcmaaGreatDoor.Pclock
open Go.RowKit
set_option linter.unusedVariables false

/-! ### seenBy -/
set_option maxRecDepth 100000 in
theorem seen_any (p : Nat) (was t : Int) (w : World) :
    Calls Tryz.prog 134 #[.pointer (some ⟨p, 0, none⟩), .int .i64 was, .int .i64 t] w fun e w' => e = .returned (.func (.func 167) #[] #[.pointer (some ⟨w.heap.size + 1, 0, none⟩), .pointer (some ⟨w.heap.size, 0, none⟩), .pointer (some ⟨w.heap.size + 2, 0, none⟩)]) ∧ w' = ((w.alloc (.cells #[.pointer (some ⟨p, 0, none⟩)] 54)).alloc (.cells #[.int .i64 was] 3)).alloc (.cells #[.int .i64 t] 3) := by
  go_enter Tryz.func134, Tryz.ntmps134
  go_wp2
  go_ret
  exact ⟨rfl, rfl⟩
/-- The three variables that the closure took. -/
structure Box (w : World) (B : Nat) (p : Nat) (was t : Int) : Prop where
  c : w.cell? ⟨B, 0, none⟩ = some (.pointer (some ⟨p, 0, none⟩))
  was : w.cell? ⟨B + 1, 0, none⟩ = some (.int .i64 was)
  time : w.cell? ⟨B + 2, 0, none⟩ = some (.int .i64 t)
theorem Box.lt {w : World} {B p : Nat} {was t : Int} (h : Box w B p was t) : B + 2 < w.heap.size := World.block_lt_of_cell? w _ h.time
theorem Box.below {w w' : World} {B p A : Nat} {was t : Int} (h : Box w B p was t) (hB : Below A w w') (hA : B + 2 < A) : Box w' B p was t :=
  ⟨(hB.cell (p := ⟨B, 0, none⟩) (by show B < A; omega)).trans h.c, (hB.cell (p := ⟨B + 1, 0, none⟩) (by show B + 1 < A; omega)).trans h.was, (hB.cell (p := ⟨B + 2, 0, none⟩) hA).trans h.time⟩
set_option maxRecDepth 100000 in
theorem seen1_any (B p N c : Nat) (s : CS) (was t : Int) (w : World) (hN1 : 1 ≤ N) (hN : N ≤ 4) (h : ClockIs w p N s) (hb : Box w B p was t) :
    Calls Tryz.prog 167 #[.int .i64 c, .pointer (some ⟨B + 1, 0, none⟩), .pointer (some ⟨B, 0, none⟩), .pointer (some ⟨B + 2, 0, none⟩)] w fun e w' => e = .returned (.bool (seenC N s was t c)) ∧ Below w.heap.size w w' := by
  have x1 := hb.c
  have x2 := hb.was
  have x3 := hb.time
  have HI : Hid (ClockIs w p N s) := h
  have HB : Hid (Box w B p was t) := hb
  have HF : Hid (∀ w1 : World, More w w1 → Calls Tryz.prog 168 #[.pointer (some ⟨p, 0, none⟩), .int .i64 c] w1 fun e w' => e = .returned (.int .i64 (flS N s c)) ∧ More w1 w') := fun w1 m => flushed_any p N c s w1 hN1 hN (HI.out.more m)
  have HE : Hid (∀ w1 : World, More w w1 → Calls Tryz.prog 169 #[.pointer (some ⟨p, 0, none⟩), .int .i64 c] w1 fun e w' => e = .returned (.int .i64 (enS N s c)) ∧ More w1 w') := fun w1 m => entered_any p N c s w1 hN1 hN (HI.out.more m)
  clear h hb
  obtain ⟨y, hy⟩ : ∃ y, y = flS N s c := ⟨_, rfl⟩
  obtain ⟨z, hz⟩ : ∃ z, z = enS N s c := ⟨_, rfl⟩
  unfold seenC
  rw [← hy] at HF ⊢
  rw [← hz] at HE ⊢
  clear hy hz HI
  by_cases h0 : was = 0
  · subst h0
    simp only [if_true]
    go_enter Tryz.func167, Tryz.ntmps167
    go_wp2
    go_ret
    exact ⟨rfl, Below.refl _ _⟩
  have b0 : (was == 0) = false := by simp [h0]
  by_cases h3 : was = 3
  · subst h3
    simp only [if_true, if_false, h0]
    by_cases hy : y ≤ t
    · have hy' : ¬ t < y := by omega
      simp only [hy', decide_false, Bool.false_and]
      clear hy'
      go_enter Tryz.func167, Tryz.ntmps167
      go_wp2
      go_region_held3 (fun w' => w'.cell? ⟨B, 0, none⟩ = some (.pointer (some ⟨p, 0, none⟩)) ∧ w'.cell? ⟨B + 2, 0, none⟩ = some (.int .i64 t)) (first | exact ⟨by assumption, by assumption⟩ | go_keep)
      (first
        | (go_at_call 168; refine (HF.out _ (More.refl _).drew).mono ?_; rintro e w1 ⟨rfl, hm⟩; have HM : Hid (More w w1) := (More.refl w).drew.trans hm; clear hm x1 x2 x3; have x1 := (HB.out.below HM.out.below HB.out.lt).c; have x3 := (HB.out.below HM.out.below HB.out.lt).time)
        | fail)
      go_wp2
      go_ret
      exact ⟨rfl, HM.out.below⟩
    · have hy' : t < y := by omega
      simp only [hy', decide_true, Bool.true_and]
      clear hy'
      go_enter Tryz.func167, Tryz.ntmps167
      go_wp2
      go_region_held3 (fun w' => w'.cell? ⟨B, 0, none⟩ = some (.pointer (some ⟨p, 0, none⟩)) ∧ w'.cell? ⟨B + 2, 0, none⟩ = some (.int .i64 t)) (first | exact ⟨by assumption, by assumption⟩ | go_keep)
      (first
        | (go_at_call 168; refine (HF.out _ (More.refl _).drew).mono ?_; rintro e w1 ⟨rfl, hm⟩; have HM : Hid (More w w1) := (More.refl w).drew.trans hm; clear hm x1 x2 x3; have x1 := (HB.out.below HM.out.below HB.out.lt).c; have x3 := (HB.out.below HM.out.below HB.out.lt).time)
        | fail)
      go_wp2
      go_region_held3 (fun w' => w'.cell? ⟨B, 0, none⟩ = some (.pointer (some ⟨p, 0, none⟩)) ∧ w'.cell? ⟨B + 2, 0, none⟩ = some (.int .i64 t)) (first | exact ⟨by assumption, by assumption⟩ | go_keep)
      (first
        | (go_at_call 169; refine (HE.out _ HM.out.drew).mono ?_; rintro e w2 ⟨rfl, hm⟩; have HM2 : Hid (More w w2) := HM.out.drew.trans hm; clear hm x1 x3; have x1 := (HB.out.below HM2.out.below HB.out.lt).c; have x3 := (HB.out.below HM2.out.below HB.out.lt).time)
        | fail)
      go_wp2
      go_ret
      exact ⟨rfl, HM2.out.below⟩
  have b3 : (was == 3) = false := by simp [h3]
  by_cases h2 : was = 2
  · subst h2
    simp only [if_true, if_false, h0, h3]
    go_enter Tryz.func167, Tryz.ntmps167
    go_wp2
    go_region_held3 (fun w' => w'.cell? ⟨B, 0, none⟩ = some (.pointer (some ⟨p, 0, none⟩)) ∧ w'.cell? ⟨B + 2, 0, none⟩ = some (.int .i64 t)) (first | exact ⟨by assumption, by assumption⟩ | go_keep)
    (first
      | (go_at_call 169; refine (HE.out _ (More.refl _).drew).mono ?_; rintro e w2 ⟨rfl, hm⟩; have HM2 : Hid (More w w2) := (More.refl w).drew.trans hm; clear hm x1 x2 x3; have x1 := (HB.out.below HM2.out.below HB.out.lt).c; have x3 := (HB.out.below HM2.out.below HB.out.lt).time)
      | fail)
    go_wp2
    go_ret
    exact ⟨rfl, HM2.out.below⟩
  have b2 : (was == 2) = false := by simp [h2]
  by_cases h1 : was = 1
  · subst h1
    simp only [if_true, if_false, h0, h3, h2]
    go_enter Tryz.func167, Tryz.ntmps167
    go_wp2
    go_region_held3 (fun w' => w'.cell? ⟨B, 0, none⟩ = some (.pointer (some ⟨p, 0, none⟩)) ∧ w'.cell? ⟨B + 2, 0, none⟩ = some (.int .i64 t)) (first | exact ⟨by assumption, by assumption⟩ | go_keep)
    (first
      | (go_at_call 168; refine (HF.out _ (More.refl _).drew).mono ?_; rintro e w2 ⟨rfl, hm⟩; have HM2 : Hid (More w w2) := (More.refl w).drew.trans hm; clear hm x1 x2 x3; have x1 := (HB.out.below HM2.out.below HB.out.lt).c; have x3 := (HB.out.below HM2.out.below HB.out.lt).time)
      | fail)
    go_wp2
    go_ret
    exact ⟨rfl, HM2.out.below⟩
  have b1 : (was == 1) = false := by simp [h1]
  simp only [if_false, h0, h3, h2, h1]
  go_enter Tryz.func167, Tryz.ntmps167
  go_wp2
  go_ret
  exact ⟨rfl, Below.refl _ _⟩

/-! ### Left -/
theorem box_new (p : Nat) (was t : Int) (w : World) : Box (((w.alloc (.cells #[.pointer (some ⟨p, 0, none⟩)] 54)).alloc (.cells #[.int .i64 was] 3)).alloc (.cells #[.int .i64 t] 3)) w.heap.size p was t ∧ Below w.heap.size w (((w.alloc (.cells #[.pointer (some ⟨p, 0, none⟩)] 54)).alloc (.cells #[.int .i64 was] 3)).alloc (.cells #[.int .i64 t] 3)) := by
  obtain ⟨wa, ha⟩ : ∃ x, x = w.alloc (.cells #[.pointer (some ⟨p, 0, none⟩)] 54) := ⟨_, rfl⟩
  obtain ⟨wb, hb⟩ : ∃ x, x = wa.alloc (.cells #[.int .i64 was] 3) := ⟨_, rfl⟩
  have sa : wa.heap.size = w.heap.size + 1 := by rw [ha]; simp
  have sb : wb.heap.size = w.heap.size + 2 := by rw [hb]; simp [sa]
  have r1 : wa.heap[w.heap.size]? = some (.cells #[.pointer (some ⟨p, 0, none⟩)] 54 (0, 0)) := by rw [ha]; exact heap_alloc_new _ _
  have r2 : wb.heap[w.heap.size + 1]? = some (.cells #[.int .i64 was] 3 (0, 0)) := by rw [hb, ← sa]; exact heap_alloc_new _ _
  have r3 : (wb.alloc (.cells #[.int .i64 t] 3)).heap[w.heap.size + 2]? = some (.cells #[.int .i64 t] 3 (0, 0)) := by rw [← sb]; exact heap_alloc_new _ _
  rw [← ha, ← hb]
  refine ⟨⟨?_, ?_, ?_⟩, ?_⟩
  · rw [cell_of_row _ _ 0 _ _ _ ((Below.heap_alloc wb _ _ (by omega)).trans ((congrArg (fun x : World => x.heap[w.heap.size]?) hb).trans ((Below.heap_alloc wa _ _ (by omega)).trans r1)))]; rfl
  · rw [cell_of_row _ _ 0 _ _ _ ((Below.heap_alloc wb _ _ (by omega)).trans r2)]; rfl
  · rw [cell_of_row _ _ 0 _ _ _ r3]; rfl
  · rw [hb, ha]
    exact (((Below.refl _ w).alloc (Nat.le_refl _) _).alloc (by simp) _).alloc (by simp; omega) _
set_option maxRecDepth 100000 in
theorem infoI : (Tryz.prog.info? 3).map (fun i => (i.zero, i.size, i.bytes)) = some (some (.int .i64 0), 1, 8) := by kernel_rfl
set_option maxRecDepth 100000 in
theorem left_any (p N : Nat) (s : CS) (was t : Int) (w : World) (hN1 : 1 ≤ N) (hN : N ≤ 4) (h : ClockIs w p N s) :
    Calls Tryz.prog 79 #[.pointer (some ⟨p, 0, none⟩), .int .i64 was, .int .i64 t] w fun e w' => (∃ v, e = .returned v ∧ Got w' w.heap.size v (leftL N s was t)) ∧ Below w.heap.size w w' := by
  obtain ⟨it, hi, hz0, hz1, hz2⟩ := info_parts infoI
  have x1 := h.cell
  have HI : Hid (ClockIs w p N s) := h
  clear h
  unfold leftL
  obtain ⟨f, hf⟩ : ∃ f : Nat → Bool, f = fun (i : Nat) => seenC N s was t (i : Int) := ⟨_, rfl⟩
  rw [← hf]
  have HF : Hid (∀ i : Nat, seenC N s was t i = f i) := fun i => by rw [hf]
  clear hf
  go_enter Tryz.func79, Tryz.ntmps79
  go_wp2_with (first
    | (go_at_call 134; refine (seen_any p was t _).mono ?_; rintro e w1 ⟨rfl, hw1⟩; have HB1 : Hid (Box w1 w.heap.size p was t ∧ Below w.heap.size w w1) := (by rw [hw1]; exact box_new p was t w); clear hw1; have x1 := (HI.out.below HB1.out.2 HI.out.lt).cell)
    | (go_at_call 78; refine (cores_some p N _ x1).mono ?_; rintro e w2 ⟨rfl, hw2⟩; subst w2)
    | fail)
  clear x1
  go_loopw [7, 16] (fun l i wr => ∃ k : Nat, k ≤ N ∧ i = .int .i64 k ∧ wr.ownsRow (w.heap.size + 3) 3 1 l (leftU f k).length (vals (leftU f k)) ∧ Box wr w.heap.size p was t ∧ Below w.heap.size w wr) (fun _ i _ => N - (intOf i).toNat)
  case atStart => exact ⟨0, by omega, rfl, World.ownsRow_nil _ _ _ _, HB1.out⟩
  case round =>
    obtain ⟨k, hk, rfl, hO, hX, hB⟩ := hrel
    have HO : Hid (wr.ownsRow (w.heap.size + 3) 3 1 u7 (leftU f k).length (vals (leftU f k))) := hO
    have HX : Hid (Box wr w.heap.size p was t) := hX
    have HB : Hid (Below w.heap.size w wr) := hB
    clear hO hX hB HB1
    by_cases hlt : k < N
    · have hki : (k : Int) < (N : Int) := by omega
      have C1 := seen1_any w.heap.size p N k s was t wr hN1 hN (HI.out.below HB.out HI.out.lt) HX.out
      rw [HF.out k] at C1
      have HC1 : Hid (Calls Tryz.prog 167 #[.int .i64 k, .pointer (some ⟨w.heap.size + 1, 0, none⟩), .pointer (some ⟨w.heap.size, 0, none⟩), .pointer (some ⟨w.heap.size + 2, 0, none⟩)] wr fun e w' => e = .returned (.bool (f k)) ∧ Below wr.heap.size wr w') := C1
      clear C1
      have hl := len_leftU f k
      have hxs := HX.out.lt
      cases hb : f k
      · rw [hb] at HC1
        go_wp2_with (first
          | (go_at_call 167; refine HC1.out.mono ?_; rintro e w2 ⟨rfl, hw2⟩; have H2 : Hid (Below wr.heap.size wr w2) := hw2; clear hw2; have O2 : Hid (w2.ownsRow (w.heap.size + 3) 3 1 u7 (leftU f k).length (vals (leftU f k))) := row_below HO.out H2.out (Nat.le_refl _); have hs2 : w.heap.size + 3 ≤ w2.heap.size := Nat.le_trans hxs H2.out.size)
          | (at_builtin; refine wpList_append_own_at _ rfl _ _ 142 rfl (w.heap.size + 3) 3 it (.int .i64 0) 1 8 Tryz.underlying142 hi hz0 hz1 hz2 rfl (by decide) _ _ _ rfl (O2.out.alloc _) _ 1 1 [.int .i64 (k : Int)] rfl rfl (one_cell w2 _ _) (by simp [Value.oneCell']) (by unfold maxLen; omega) (by omega) (by simp; omega) ?_; intro v1 w3 hown hgrow _ hat; have HO3 : Hid (w3.ownsRow (w.heap.size + 3) 3 1 v1 (leftU f (k + 1)).length (vals (leftU f (k + 1)))) := (by rw [leftU_no hb, vals_snoc, List.length_append, List.length_singleton]; exact hown); have H3 : Hid (Below (w.heap.size + 3) wr w3) := ((H2.out.mono (by omega)).alloc (by omega) _).grown hgrow (by simp; omega) (own_ge' O2.out); clear hown hgrow hat)
          | fail)
        go_roundw
        case rel => exact ⟨k + 1, by omega, by go_num, HO3.out, HX.out.below H3.out (by omega), HB.out.trans (H3.out.mono (by omega))⟩
        case measure => simp [intOf]; omega
      · rw [hb] at HC1
        go_wp2_with (first
          | (go_at_call 167; refine HC1.out.mono ?_; rintro e w2 ⟨rfl, hw2⟩; have H2 : Hid (Below wr.heap.size wr w2) := hw2; clear hw2)
          | fail)
        go_roundw
        case rel =>
          refine ⟨k + 1, by omega, by go_num, ?_, HX.out.below H2.out hxs, HB.out.trans (H2.out.mono HB.out.size)⟩
          rw [leftU_yes hb]
          exact row_below HO.out H2.out (Nat.le_refl _)
        case measure => simp [intOf]; omega
    · obtain rfl : k = N := by omega
      go_wp2
      go_ret
      exact ⟨⟨_, rfl, (got_of_own HO.out).mono (Nat.le_add_right _ _)⟩, HB.out⟩

/-! ### For, Kernel, User -/
set_option maxRecDepth 100000 in
theorem for_any (p N : Nat) (s : CS) (was t : Int) (w : World) (hN1 : 1 ≤ N) (hN : N ≤ 4) (h : ClockIs w p N s) :
    Calls Tryz.prog 21 #[.pointer (some ⟨p, 0, none⟩), .int .i64 was, .int .i64 t] w fun e w' => e = .returned (.bool (quF N s was t)) ∧ Below w.heap.size w w' := by
  have x1 := h.cell
  have HI : Hid (ClockIs w p N s) := h
  clear h
  by_cases h0 : was = 0
  · subst h0
    rw [quF_zero]
    go_enter Tryz.func21, Tryz.ntmps21
    go_wp2
    go_ret
    exact ⟨rfl, Below.refl _ _⟩
  have b0 : (was == 0) = false := by simp [h0]
  have hNi : 0 < (N : Int) := by omega
  have hNn : 0 < N := by omega
  go_enter Tryz.func21, Tryz.ntmps21
  go_wp2_with (first
    | (go_at_call 78; refine (cores_some p N _ x1).mono ?_; rintro e w2 ⟨rfl, hw2⟩; subst w2)
    | (go_at_call 79; refine (left_any p N s was t _ hN1 hN HI.out).mono ?_; rintro e w2 ⟨⟨v, rfl, a, cap, rfl, -⟩, hw2⟩; have H2 : Hid (Below w.heap.size w w2) := hw2; clear hw2)
    | fail)
  go_ret
  exact ⟨rfl, H2.out⟩
end Go.Proofs.YtcgekcjnaadcmaaGreatDoor.Pquiet
