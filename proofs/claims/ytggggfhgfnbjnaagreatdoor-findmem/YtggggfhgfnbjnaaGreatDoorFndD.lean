/- What find's Mem and its two questions answer in a machine, for all arguments. -/
import Derived.Test.YtggggfhgfnbjnaaGreatDoorFndC
namespace Go.Proofs.YtggggfhgfnbjnaaGreatDoor.Pfind
open Go.Proofs.YtggggfhgfnbjnaaGreatDoor.Pbase Go.Proofs.YtggggfhgfnbjnaaGreatDoor.Pcaptbl Go.Proofs.YtggggfhgfnbjnaaGreatDoor.Pchold Go.Proofs.YtggggfhgfnbjnaaGreatDoor.Pmem Go.Proofs.YtggggfhgfnbjnaaGreatDoor.Pmst Go.Proofs.YtggggfhgfnbjnaaGreatDoor.Ppmach Go.Proofs.YtggggfhgfnbjnaaGreatDoor.Ptint
open Go.RowKit
set_option linter.unusedVariables false
set_option linter.unusedSimpArgs false

/-- Is the frame among a capability's own? -/
def inC (c : Nat → Int) (f : Int) : Bool := decide (c 2 ≤ f) && decide (f < IntKind.i64.wrap (c 2 + c 5))
def mmR (s : St) (root a r f : Int) : Nat → Int
  | 0 => capE s root a 2 r
  | _ => unI (inC (capC s root a 2 r) f) 1
def memE (s : St) (root a r f : Int) : Int := fstN (mmR s root a r f) 2
/-- What Mem binds, and the capability that it has found; in blocks from A on. -/
structure Mj (w0 w wx : World) (p : Nat) (o : Nat → Nat) (P : Pq) (s : St) (A : Nat) (root a r f : Int) (c : Nat → Int) : Prop where
  fx : Fx w0 wx p o P s
  b0 : wx.cell? ⟨A, 0, none⟩ = some (.pointer (some ⟨p, 0, none⟩))
  b1 : wx.cell? ⟨A + 1, 0, none⟩ = some (.int .i64 root)
  b2 : wx.cell? ⟨A + 2, 0, none⟩ = some (.int .i64 a)
  b3 : wx.cell? ⟨A + 3, 0, none⟩ = some (.int .i64 r)
  b4 : wx.cell? ⟨A + 4, 0, none⟩ = some (.int .i64 f)
  b5 : wx.heap[A + 5]? = some (.cells (capO c) 55 (0, 0))
  below : Below w.heap.size w wx
  ge : w.heap.size ≤ A
  lo : w0.heap.size ≤ A
  nm : ¬ PMine o (A + 5)
section
variable {w0 w wx w' : World} {p : Nat} {o : Nat → Nat} {P : Pq} {s : St} {A : Nat} {root a r f : Int} {c : Nat → Int}
theorem Mj.on (h : Mj w0 w wx p o P s A root a r f c) (hB : Below wx.heap.size wx w') : Mj w0 w w' p o P s A root a r f c :=
  ⟨h.fx.on hB, fkeep hB h.b0, fkeep hB h.b1, fkeep hB h.b2, fkeep hB h.b3, fkeep hB h.b4, (hB.block _ (Array.getElem?_eq_some_iff.1 h.b5).1).trans h.b5, h.below.trans (hB.mono h.below.size), h.ge, h.lo, h.nm⟩
theorem Mj.put (h : Mj w0 w wx p o P s A root a r f c) (d : Nat → Int) : Mj w0 w (six wx (A + 5) d) p o P s A root a r f d := by
  have hl := h.lo
  have hg := h.ge
  have hb : ∀ i j, i ≠ A + 5 → (six wx (A + 5) d).cell? ⟨i, j, none⟩ = wx.cell? ⟨i, j, none⟩ := fun i j e => World.cell?_of_block (w := wx) (six_other wx d e)
  refine ⟨?_, (hb _ _ (by omega)).trans h.b0, (hb _ _ (by omega)).trans h.b1, (hb _ _ (by omega)).trans h.b2, (hb _ _ (by omega)).trans h.b3, (hb _ _ (by omega)).trans h.b4, six_same d h.b5, ?_, hg, hl, h.nm⟩
  · unfold six
    exact (((((h.fx.skip h.nm (by omega) _).skip h.nm (by omega) _).skip h.nm (by omega) _).skip h.nm (by omega) _).skip h.nm (by omega) _).skip h.nm (by omega) _
  · unfold six
    have hq : w.heap.size ≤ A + 5 := by omega
    exact (((((h.below.setCell (p := ⟨A + 5, 0, none⟩) hq _).setCell (p := ⟨A + 5, 1, none⟩) hq _).setCell (p := ⟨A + 5, 2, none⟩) hq _).setCell (p := ⟨A + 5, 3, none⟩) hq _).setCell (p := ⟨A + 5, 4, none⟩) hq _).setCell (p := ⟨A + 5, 5, none⟩) hq _
set_option maxRecDepth 100000 in
set_option maxHeartbeats 1000000 in
theorem mm1_any (h : Mj w0 w wx p o P s A root a r f fun _ => 0) (ha : -9223372036854775808 ≤ a ∧ a ≤ 9223372036854775807) : Calls Tryz.prog 96 #[.pointer (some ⟨A, 0, none⟩), .pointer (some ⟨A + 1, 0, none⟩), .pointer (some ⟨A + 2, 0, none⟩), .pointer (some ⟨A + 3, 0, none⟩), .pointer (some ⟨A + 5, 0, none⟩)] wx fun e w' => e = .returned (.int .i64 (capE s root a 2 r)) ∧ Mj w0 w w' p o P s A root a r f (capC s root a 2 r) ∧ But (A + 5) wx w' := by
  have HC : Hid (Calls Tryz.prog 24 #[.pointer (some ⟨p, 0, none⟩), .int .i64 root, .int .i64 a, .int .i64 2, .int .i64 r] wx fun e w' => e = .returned (.tuple #[.agg #[.int .i64 (capC s root a 2 r 0), .int .i64 (capC s root a 2 r 1), .int .i64 (capC s root a 2 r 2), .int .i64 (capC s root a 2 r 3), .int .i64 (capC s root a 2 r 4), .int .i64 (capC s root a 2 r 5)], .int .i64 (capE s root a 2 r)]) ∧ Below wx.heap.size wx w') := fcap_any root a 2 r ha h.fx
  have HK : Hid (∀ wy, Below wx.heap.size wx wy → (wy.cell? ⟨A + 5, 0, none⟩ = some (.int .i64 0) ∧ wy.cell? ⟨A + 5, 1, none⟩ = some (.int .i64 0) ∧ wy.cell? ⟨A + 5, 2, none⟩ = some (.int .i64 0) ∧ wy.cell? ⟨A + 5, 3, none⟩ = some (.int .i64 0) ∧ wy.cell? ⟨A + 5, 4, none⟩ = some (.int .i64 0) ∧ wy.cell? ⟨A + 5, 5, none⟩ = some (.int .i64 0)) ∧ ∀ j, wy.frozen? ⟨A + 5, j, none⟩ = false) := fun wy hB =>
    ⟨capA_cells (d := fun _ => 0) (h.on hB).b5, fun j => frozen_of_row _ _ _ _ _ (h.on hB).b5⟩
  have HH := fhide h
  have d0 := h.b0
  have d1 := h.b1
  have d2 := h.b2
  have d3 := h.b3
  clear h
  generalize capE s root a 2 r = E at HC ⊢
  generalize capC s root a 2 r = c at HC ⊢
  go_enter Tryz.func96, Tryz.ntmps96
  go_wp2_with (first
    | (go_at_call 24; refine HC.out.mono ?_; rintro e1 w2 ⟨rfl, hb⟩; have HB2 := fhide hb; obtain ⟨⟨k0, k1, k2, k3, k4, k5⟩, kz⟩ := HK.out _ hb; clear hb HC)
    | fail)
  have H3 := fhide ((HH.out.on HB2.out).put c)
  have H4 := fhide (but_six (But.of_below (A + 5) HB2.out) c)
  unfold six at H3 H4
  go_ret
  exact ⟨rfl, H3.out, H4.out⟩
set_option maxRecDepth 100000 in
theorem mm2_any (h : Mj w0 w wx p o P s A root a r f c) : Calls Tryz.prog 97 #[.pointer (some ⟨A + 4, 0, none⟩), .pointer (some ⟨A + 5, 0, none⟩)] wx fun e w' => e = .returned (.int .i64 (unI (inC c f) 1)) ∧ w' = wx := by
  obtain ⟨c0, c1, c2, c3, c4, c5⟩ := capA_cells h.b5
  have d4 := h.b4
  clear h
  unfold inC
  generalize c 2 = x2 at c2 ⊢
  generalize c 5 = x5 at c5 ⊢
  by_cases hx : x2 ≤ f
  · have hb : decide (x2 ≤ f) = true := by simp [hx]
    rw [hb, Bool.true_and]
    clear hb
    generalize hs : IntKind.i64.wrap (x2 + x5) = S
    go_enter Tryz.func97, Tryz.ntmps97
    go_wp2_with (first
      | (go_at_call 85; refine (unless_any (decide (f < S)) 1 _).mono ?_; rintro e1 w3 ⟨rfl, hw⟩; subst w3)
      | fail)
    go_ret
    exact ⟨rfl, rfl⟩
  · have hb : decide (x2 ≤ f) = false := by simp [hx]
    rw [hb, Bool.false_and]
    clear hb
    go_enter Tryz.func97, Tryz.ntmps97
    go_wp2_with (first
      | (go_at_call 85; refine (unless_any false 1 _).mono ?_; rintro e1 w3 ⟨rfl, hw⟩; subst w3)
      | fail)
    go_ret
    exact ⟨rfl, rfl⟩
/-! ### Mem -/
theorem mem_ask (h : Mj w0 w wx p o P s A root a r f fun _ => 0) (ha : -9223372036854775808 ≤ a ∧ a ≤ 9223372036854775807) {R0 : Nat} {tF : TypeId} (hR : wx.heap[R0]? = some (.cells #[.func (.func 96) #[] #[.pointer (some ⟨A, 0, none⟩), .pointer (some ⟨A + 1, 0, none⟩), .pointer (some ⟨A + 2, 0, none⟩), .pointer (some ⟨A + 3, 0, none⟩), .pointer (some ⟨A + 5, 0, none⟩)], .func (.func 97) #[] #[.pointer (some ⟨A + 4, 0, none⟩), .pointer (some ⟨A + 5, 0, none⟩)]] tF (0, 0))) (hn : R0 ≠ A + 5) :
    Calls Tryz.prog 81 #[.pointer (some ⟨p, 0, none⟩), .slice (some ⟨R0, 0, none⟩) 2 2] wx fun e w' => e = .returned (.int .i64 (memE s root a r f)) ∧ Below w.heap.size w w' := by
  have hlt := (Array.getElem?_eq_some_iff.1 hR).1
  refine (askMem_any (N := s.n) (mmR s root a r f) (fun j wy => Mj w0 w wy p o P s A root a r f (if j = 0 then fun _ => 0 else capC s root a 2 r) ∧ wy.heap[R0]? = wx.heap[R0]? ∧ R0 < wy.heap.size) A (A + 1) (A + 2) (A + 3) (A + 5) (A + 4) (A + 5) h.fx.ws.c1 ⟨h, rfl, hlt⟩ (fun wy hy => pcores_any hy.1.fx.x.v hy.1.fx.ws) (fun j wy hy => ?_) (fun wy hy => ?_) (fun wy hy => ?_)).mono ?_
  · have := hy.2.1.trans hR
    refine ⟨?_, ?_⟩ <;> rw [cell_of_row _ _ _ _ _ _ this] <;> rfl
  · refine (mm1_any hy.1 ha).mono ?_
    rintro e w' ⟨h1, h2, h3⟩
    exact ⟨h1, h2, (h3.block R0 hy.2.2 hn).trans hy.2.1, Nat.lt_of_lt_of_le hy.2.2 h3.size⟩
  · refine (mm2_any hy.1).mono ?_
    rintro e w' ⟨h1, rfl⟩
    exact ⟨h1, hy⟩
  · rintro e w' ⟨h1, j, h2, h3, h4, h5, _⟩
    exact ⟨h1, h5.below⟩
/-- What Mem lays before it asks. -/
def bx6 (w : World) (p : Nat) (root a r f : Int) : World := (((((w.alloc (.cells #[.pointer (some ⟨p, 0, none⟩)] 25)).alloc (.cells #[.int .i64 root] 3)).alloc (.cells #[.int .i64 a] 3)).alloc (.cells #[.int .i64 r] 3)).alloc (.cells #[.int .i64 f] 3)).alloc (.cells #[.int .i64 0, .int .i64 0, .int .i64 0, .int .i64 0, .int .i64 0, .int .i64 0] 55)
theorem bx6_size (w : World) (p : Nat) (root a r f : Int) : (bx6 w p root a r f).heap.size = w.heap.size + 6 := by
  unfold bx6
  simp
theorem bx6_at (h : Fx w0 w p o P s) : Mj w0 w (bx6 w p root a r f) p o P s w.heap.size root a r f fun _ => 0 := by
  have hB : Below w.heap.size w (bx6 w p root a r f) := bal (bal (bal (bal (bal (bal (Below.refl _ _) _) _) _) _) _) _
  have n : ∀ (x : World) (ob : Obj) (i : Nat), x.heap.size = i → (x.alloc ob).heap[i]? = some ob := fun x ob i e => by subst e; exact heap_alloc_new x ob
  have l : ∀ (x : World) (ob ob2 : Obj) (i : Nat), i < x.heap.size → x.heap[i]? = some ob2 → (x.alloc ob).heap[i]? = some ob2 := fun x ob ob2 i e h => (Below.heap_alloc _ _ _ e).trans h
  have hs := h.below.size
  refine ⟨h.on hB, ?_, ?_, ?_, ?_, ?_, ?_, hB, Nat.le_refl _, hs, pmine_new h.x.v (by omega)⟩
  all_goals unfold bx6
  · rw [cell_of_row _ _ _ _ _ _ (l _ _ _ _ (by simp only [World.size_alloc]; omega) (l _ _ _ _ (by simp only [World.size_alloc]; omega) (l _ _ _ _ (by simp only [World.size_alloc]; omega) (l _ _ _ _ (by simp only [World.size_alloc]; omega) (l _ _ _ _ (by simp only [World.size_alloc]; omega) (n w _ w.heap.size rfl))))))]; rfl
  · rw [cell_of_row _ _ _ _ _ _ (l _ _ _ _ (by simp only [World.size_alloc]; omega) (l _ _ _ _ (by simp only [World.size_alloc]; omega) (l _ _ _ _ (by simp only [World.size_alloc]; omega) (l _ _ _ _ (by simp only [World.size_alloc]; omega) (n _ _ _ (by simp))))))]; rfl
  · rw [cell_of_row _ _ _ _ _ _ (l _ _ _ _ (by simp only [World.size_alloc]; omega) (l _ _ _ _ (by simp only [World.size_alloc]; omega) (l _ _ _ _ (by simp only [World.size_alloc]; omega) (n _ _ _ (by simp)))))]; rfl
  · rw [cell_of_row _ _ _ _ _ _ (l _ _ _ _ (by simp only [World.size_alloc]; omega) (l _ _ _ _ (by simp only [World.size_alloc]; omega) (n _ _ _ (by simp))))]; rfl
  · rw [cell_of_row _ _ _ _ _ _ (l _ _ _ _ (by simp only [World.size_alloc]; omega) (n _ _ _ (by simp)))]; rfl
  · exact n _ _ _ (by simp)
set_option maxRecDepth 100000 in
set_option maxHeartbeats 1000000 in
theorem fmem_any (root a r f : Int) (ha : -9223372036854775808 ≤ a ∧ a ≤ 9223372036854775807) (h : Fx w0 w p o P s) : Calls Tryz.prog 28 #[.pointer (some ⟨p, 0, none⟩), .int .i64 root, .int .i64 a, .int .i64 r, .int .i64 f] w fun e w' => e = .returned (.int .i64 (memE s root a r f)) ∧ Below w.heap.size w w' := by
  have HJ := fhide (bx6_at (root := root) (a := a) (r := r) (f := f) h)
  have hs6 := bx6_size w p root a r f
  have HA : Hid (∀ wx, Mj w0 w wx p o P s w.heap.size root a r f (fun _ => 0) → ∀ R0 tF, wx.heap[R0]? = some (.cells #[.func (.func 96) #[] #[.pointer (some ⟨w.heap.size, 0, none⟩), .pointer (some ⟨w.heap.size + 1, 0, none⟩), .pointer (some ⟨w.heap.size + 2, 0, none⟩), .pointer (some ⟨w.heap.size + 3, 0, none⟩), .pointer (some ⟨w.heap.size + 5, 0, none⟩)], .func (.func 97) #[] #[.pointer (some ⟨w.heap.size + 4, 0, none⟩), .pointer (some ⟨w.heap.size + 5, 0, none⟩)]] tF (0, 0)) → R0 ≠ w.heap.size + 5 →
      Calls Tryz.prog 81 #[.pointer (some ⟨p, 0, none⟩), .slice (some ⟨R0, 0, none⟩) 2 2] wx fun e w' => e = .returned (.int .i64 (memE s root a r f)) ∧ Below w.heap.size w w') := fun wx hx R0 tF hR hn => mem_ask hx ha hR hn
  clear h ha
  generalize memE s root a r f = E at HA ⊢
  obtain ⟨W6, hW6⟩ : ∃ x, x = bx6 w p root a r f := ⟨_, rfl⟩
  rw [← hW6] at HJ hs6
  unfold bx6 at hW6
  have HS := fhide hs6
  clear hs6
  go_enter Tryz.func28, Tryz.ntmps28
  go_upto_region 2 with fail
  rw [← hW6]
  clear hW6
  simp only [Nat.add_assoc, Nat.reduceAdd]
  generalize hA : w.heap.size = A at HJ HS ⊢
  rw [hA] at HA
  have d0 := HJ.out.b0
  go_wp2_with (first
    | (go_at_call 81; refine (HA.out _ ?hj _ ?tf ?hr ?hn).mono ?_; (case hj => exact HJ.out.on (bal (Below.refl _ _) _)); (case hr => exact heap_alloc_new _ _); (case hn => (rw [HS.out]; omega)); rintro e w2 ⟨rfl, hx⟩; rw [← hA] at hx; have H2 := fhide hx; clear hx d0 HA HJ)
    | fail)
  go_ret
  exact ⟨rfl, H2.out⟩
end
end Go.Proofs.YtggggfhgfnbjnaaGreatDoor.Pfind
