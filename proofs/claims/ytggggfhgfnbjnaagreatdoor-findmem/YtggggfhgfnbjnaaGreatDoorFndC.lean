/- What find's Cap and its four questions answer in a machine, for all arguments (written by mk_fc.py). -/
import Derived.Test.YtggggfhgfnbjnaaGreatDoorFndB
import Derived.Test.YtggggfhgfnbjnaaGreatDoorFndK
import Derived.Test.YtggggfhgfnbjnaaGreatDoorBunCaptbl
import Derived.Test.YtggggfhgfnbjnaaGreatDoorBunCap
import Derived.Deep.RegionHeld3
import Derived.Deep.CutBlock
import Derived.Deep.DeepCutAuto
namespace Go.Proofs.YtggggfhgfnbjnaaGreatDoor.Pfind
open Go.Proofs.YtggggfhgfnbjnaaGreatDoor.Pbase Go.Proofs.YtggggfhgfnbjnaaGreatDoor.Pcaptbl Go.Proofs.YtggggfhgfnbjnaaGreatDoor.Pchold Go.Proofs.YtggggfhgfnbjnaaGreatDoor.Pmem Go.Proofs.YtggggfhgfnbjnaaGreatDoor.Pmst Go.Proofs.YtggggfhgfnbjnaaGreatDoor.Ppmach Go.Proofs.YtggggfhgfnbjnaaGreatDoor.Ptint
open Go.RowKit
set_option linter.unusedVariables false
set_option linter.unusedSimpArgs false

def cpR (s : St) (root a k r : Int) : Nat → Int
  | 0 => Pcaptbl.lkE s.N s.M root a
  | 1 => unI (Pcaptbl.lkC s.N s.M root a 0 == k) 4
  | 2 => unI (bits .andNot .i64 r (Pcaptbl.lkC s.N s.M root a 1) == 0) 5
  | _ => unI (!Pcap.livB (Pcaptbl.lkC s.N s.M root a 0) || Plive.vaA 64 s.L (Pcaptbl.lkC s.N s.M root a 3) (Pcaptbl.lkC s.N s.M root a 4)) 7
def capE (s : St) (root a k r : Int) : Int := fstN (cpR s root a k r) 4
def capC (s : St) (root a k r : Int) (j : Nat) : Int := if capE s root a k r = 0 then Pcaptbl.lkC s.N s.M root a j else 0
/-- A capability in a block of its own. -/
def capO (c : Nat → Int) : Array Value := #[.int .i64 (c 0), .int .i64 (c 1), .int .i64 (c 2), .int .i64 (c 3), .int .i64 (c 4), .int .i64 (c 5)]
/-- What Cap binds, and the capability that it has seen; all of it in blocks from A on. -/
structure Cj (w0 w wx : World) (p : Nat) (o : Nat → Nat) (P : Pq) (s : St) (A : Nat) (root a k r : Int) (c : Nat → Int) : Prop where
  fx : Fx w0 wx p o P s
  b0 : wx.cell? ⟨A, 0, none⟩ = some (.pointer (some ⟨p, 0, none⟩))
  b1 : wx.cell? ⟨A + 1, 0, none⟩ = some (.int .i64 root)
  b2 : wx.cell? ⟨A + 2, 0, none⟩ = some (.int .i64 a)
  b3 : wx.cell? ⟨A + 3, 0, none⟩ = some (.int .i64 k)
  b4 : wx.cell? ⟨A + 4, 0, none⟩ = some (.int .i64 r)
  b5 : wx.heap[A + 5]? = some (.cells (capO fun _ => 0) 55 (0, 0))
  b6 : wx.heap[A + 6]? = some (.cells (capO c) 55 (0, 0))
  below : Below w.heap.size w wx
  ge : w.heap.size ≤ A
  lo : w0.heap.size ≤ A
  nm : ¬ PMine o (A + 6)
section
variable {w0 w wx w' : World} {p : Nat} {o : Nat → Nat} {P : Pq} {s : St} {A : Nat} {root a k r : Int} {c c' : Nat → Int}
theorem Cj.on (h : Cj w0 w wx p o P s A root a k r c) (hB : Below wx.heap.size wx w') : Cj w0 w w' p o P s A root a k r c :=
  ⟨h.fx.on hB, fkeep hB h.b0, fkeep hB h.b1, fkeep hB h.b2, fkeep hB h.b3, fkeep hB h.b4, (hB.block _ (Array.getElem?_eq_some_iff.1 h.b5).1).trans h.b5, (hB.block _ (Array.getElem?_eq_some_iff.1 h.b6).1).trans h.b6, h.below.trans (hB.mono h.below.size), h.ge, h.lo, h.nm⟩
theorem Cj.cell (h : Cj w0 w wx p o P s A root a k r c) : wx.cell? ⟨A + 6, 0, none⟩ = some (.int .i64 (c 0)) ∧ wx.cell? ⟨A + 6, 1, none⟩ = some (.int .i64 (c 1)) ∧ wx.cell? ⟨A + 6, 2, none⟩ = some (.int .i64 (c 2)) ∧ wx.cell? ⟨A + 6, 3, none⟩ = some (.int .i64 (c 3)) ∧ wx.cell? ⟨A + 6, 4, none⟩ = some (.int .i64 (c 4)) ∧ wx.cell? ⟨A + 6, 5, none⟩ = some (.int .i64 (c 5)) := by
  refine ⟨?_, ?_, ?_, ?_, ?_, ?_⟩ <;> rw [cell_of_row wx _ _ _ _ _ h.b6] <;> rfl
theorem Fx.skip (h : Fx w0 wx p o P s) {B j : Nat} (hB : ¬ PMine o B) (hl : w0.heap.size ≤ B) (v : Value) : Fx w0 (wx.setCell ⟨B, j, none⟩ v) p o P s :=
  ⟨⟨h.x.v.keep h.ws.c4 (Nat.le_of_eq (World.size_setCell _ _ _).symm) fun i h1 h2 _ => heap_setCell_other _ _ _ _ fun e => hB (by rw [← (show i = B from e)]; exact ⟨h1, h2⟩),
    ⟨h.x.k.os, h.x.k.tape, h.x.k.output, by rw [World.size_setCell]; exact h.x.k.size, fun i hi hn => (heap_setCell_other _ _ _ _ (fun e => by have : i = B := e; omega)).trans (h.x.k.block i hi hn)⟩⟩, h.ws, h.old, h.tb, h.fit⟩
/-- Six cells of one block are written. -/
def six (w : World) (B : Nat) (d : Nat → Int) : World := (((((w.setCell ⟨B, 0, none⟩ (.int .i64 (d 0))).setCell ⟨B, 1, none⟩ (.int .i64 (d 1))).setCell ⟨B, 2, none⟩ (.int .i64 (d 2))).setCell ⟨B, 3, none⟩ (.int .i64 (d 3))).setCell ⟨B, 4, none⟩ (.int .i64 (d 4))).setCell ⟨B, 5, none⟩ (.int .i64 (d 5))
theorem six_other (w : World) {B i : Nat} (d : Nat → Int) (h : i ≠ B) : (six w B d).heap[i]? = w.heap[i]? := by
  unfold six
  rw [heap_setCell_other _ _ _ _ h, heap_setCell_other _ _ _ _ h, heap_setCell_other _ _ _ _ h, heap_setCell_other _ _ _ _ h, heap_setCell_other _ _ _ _ h, heap_setCell_other _ _ _ _ h]
theorem six_same {w : World} {B : Nat} {c : Nat → Int} {t : TypeId} (d : Nat → Int) (h : w.heap[B]? = some (.cells (capO c) t (0, 0))) : (six w B d).heap[B]? = some (.cells (capO d) t (0, 0)) := by
  unfold six
  have e0 := heap_setCell_same w B 0 _ _ (.int .i64 (d 0)) h
  have e1 := heap_setCell_same _ B 1 _ _ (.int .i64 (d 1)) e0
  have e2 := heap_setCell_same _ B 2 _ _ (.int .i64 (d 2)) e1
  have e3 := heap_setCell_same _ B 3 _ _ (.int .i64 (d 3)) e2
  have e4 := heap_setCell_same _ B 4 _ _ (.int .i64 (d 4)) e3
  have e5 := heap_setCell_same _ B 5 _ _ (.int .i64 (d 5)) e4
  rw [e5]
  rfl
theorem but_six {b : Nat} {x : World} (h : But b x w) (d : Nat → Int) : But b x (six w b d) := by
  unfold six
  exact Pcaptbl.but_own (Pcaptbl.but_own (Pcaptbl.but_own (Pcaptbl.but_own (Pcaptbl.but_own (Pcaptbl.but_own h _ _) _ _) _ _) _ _) _ _) _ _
theorem Cj.put (h : Cj w0 w wx p o P s A root a k r c) (d : Nat → Int) : Cj w0 w (six wx (A + 6) d) p o P s A root a k r d := by
  have hl := h.lo
  have hg := h.ge
  have hb : ∀ i j, i ≠ A + 6 → (six wx (A + 6) d).cell? ⟨i, j, none⟩ = wx.cell? ⟨i, j, none⟩ := fun i j e => World.cell?_of_block (w := wx) (six_other wx d e)
  refine ⟨?_, (hb _ _ (by omega)).trans h.b0, (hb _ _ (by omega)).trans h.b1, (hb _ _ (by omega)).trans h.b2, (hb _ _ (by omega)).trans h.b3, (hb _ _ (by omega)).trans h.b4, (six_other wx d (by omega)).trans h.b5, six_same d h.b6, ?_, hg, hl, h.nm⟩
  · unfold six
    exact (((((h.fx.skip h.nm (by omega) _).skip h.nm (by omega) _).skip h.nm (by omega) _).skip h.nm (by omega) _).skip h.nm (by omega) _).skip h.nm (by omega) _
  · unfold six
    have hq : w.heap.size ≤ A + 6 := by omega
    exact (((((h.below.setCell (p := ⟨A + 6, 0, none⟩) hq _).setCell (p := ⟨A + 6, 1, none⟩) hq _).setCell (p := ⟨A + 6, 2, none⟩) hq _).setCell (p := ⟨A + 6, 3, none⟩) hq _).setCell (p := ⟨A + 6, 4, none⟩) hq _).setCell (p := ⟨A + 6, 5, none⟩) hq _
set_option maxRecDepth 100000 in
theorem cap2_any (h : Cj w0 w wx p o P s A root a k r c) : Calls Tryz.prog 84 #[.pointer (some ⟨A + 6, 0, none⟩), .pointer (some ⟨A + 3, 0, none⟩)] wx fun e w' => e = .returned (.int .i64 (unI (c 0 == k) 4)) ∧ w' = wx := by
  obtain ⟨c0, c1, c2, c3, c4, c5⟩ := h.cell
  have d3 := h.b3
  clear h
  go_enter Tryz.func84, Tryz.ntmps84
  go_wp2_with (first
    | (go_at_call 85; refine (unless_any _ 4 _).mono ?_; rintro e1 w3 ⟨rfl, hw⟩; subst w3)
    | fail)
  go_ret
  exact ⟨rfl, rfl⟩
set_option maxRecDepth 100000 in
theorem cap3_any (h : Cj w0 w wx p o P s A root a k r c) : Calls Tryz.prog 86 #[.pointer (some ⟨A + 4, 0, none⟩), .pointer (some ⟨A + 6, 0, none⟩)] wx fun e w' => e = .returned (.int .i64 (unI (bits .andNot .i64 r (c 1) == 0) 5)) ∧ w' = wx := by
  obtain ⟨c0, c1, c2, c3, c4, c5⟩ := h.cell
  have d4 := h.b4
  clear h
  go_enter Tryz.func86, Tryz.ntmps86
  go_wp2_with (first
    | (go_at_call 85; refine (unless_any _ 5 _).mono ?_; rintro e1 w3 ⟨rfl, hw⟩; subst w3)
    | fail)
  go_ret
  exact ⟨rfl, rfl⟩
set_option maxRecDepth 100000 in
set_option maxHeartbeats 1000000 in
theorem cap4_any (h : Cj w0 w wx p o P s A root a k r c) : Calls Tryz.prog 87 #[.pointer (some ⟨A + 6, 0, none⟩), .pointer (some ⟨A, 0, none⟩)] wx fun e w' => e = .returned (.int .i64 (unI (!Pcap.livB (c 0) || Plive.vaA 64 s.L (c 3) (c 4)) 7)) ∧ Below wx.heap.size wx w' := by
  obtain ⟨c0, c1, c2, c3, c4, c5⟩ := h.cell
  have d0 := h.b0
  have HV : Hid (∀ wy, Below wx.heap.size wx wy → Calls Tryz.prog 89 #[.pointer (some ⟨p, 0, none⟩), .int .i64 (c 3), .int .i64 (c 4)] wy fun e w' => e = .returned (.bool (Plive.vaA 64 s.L (c 3) (c 4))) ∧ Below wx.heap.size wx w') := fun wy hB => (lives_any (c 3) (c 4) (h.fx.on hB)).mono (by rintro e w' ⟨h1, h2⟩; exact ⟨h1, hB.trans (h2.mono hB.size)⟩)
  have HL : Hid (Calls Tryz.prog 88 #[.agg #[.int .i64 (c 0), .int .i64 (c 1), .int .i64 (c 2), .int .i64 (c 3), .int .i64 (c 4), .int .i64 (c 5)]] wx fun e w' => e = .returned (.bool (Pcap.livB (c 0))) ∧ Below wx.heap.size wx w') := Pcap.lives_any _ _ _ _ _ _ wx
  have HC : Hid (∀ wy, Below wx.heap.size wx wy → wy.cell? ⟨A, 0, none⟩ = some (.pointer (some ⟨p, 0, none⟩)) ∧ wy.cell? ⟨A + 6, 3, none⟩ = some (.int .i64 (c 3)) ∧ wy.cell? ⟨A + 6, 4, none⟩ = some (.int .i64 (c 4))) := fun wy hB => ⟨fkeep hB d0, fkeep hB c3, fkeep hB c4⟩
  clear h
  generalize Plive.vaA 64 s.L (c 3) (c 4) = V at HV ⊢
  generalize Pcap.livB (c 0) = B at HL ⊢
  generalize c 0 = x0 at c0 HL
  generalize c 1 = x1 at c1 HL
  generalize c 2 = x2 at c2 HL
  generalize c 3 = x3 at c3 HL HV HC
  generalize c 4 = x4 at c4 HL HV HC
  generalize c 5 = x5 at c5 HL
  cases B
  · go_enter Tryz.func87, Tryz.ntmps87
    go_wp2_with (first
      | (go_at_call 88; refine HL.out.mono ?_; rintro e1 w1 ⟨rfl, hb⟩; have H1 := fhide hb; clear hb HL)
      | (go_at_call 85; refine (unless_any _ 7 _).mono ?_; rintro e1 w3 ⟨rfl, hw⟩; subst w3)
      | fail)
    go_ret
    exact ⟨rfl, H1.out⟩
  · go_enter Tryz.func87, Tryz.ntmps87
    go_wp2_with (first
      | (go_at_call 88; refine HL.out.mono ?_; rintro e1 w1 ⟨rfl, hb⟩; have H1 := fhide hb; obtain ⟨k0, k3, k4⟩ := HC.out _ hb; clear hb HL)
      | (go_at_call 89; refine (HV.out _ H1.out).mono ?_; rintro e1 w2 ⟨rfl, hb⟩; have H2 := fhide hb; clear hb HV H1)
      | (go_at_call 85; refine (unless_any _ 7 _).mono ?_; rintro e1 w3 ⟨rfl, hw⟩; subst w3)
      | fail)
    go_ret
    exact ⟨rfl, H2.out⟩
set_option maxRecDepth 100000 in
set_option maxHeartbeats 2000000 in
theorem cap1_any (h : Cj w0 w wx p o P s A root a k r fun _ => 0) (ha : -9223372036854775808 ≤ a ∧ a ≤ 9223372036854775807) : Calls Tryz.prog 82 #[.pointer (some ⟨A, 0, none⟩), .pointer (some ⟨A + 1, 0, none⟩), .pointer (some ⟨A + 2, 0, none⟩), .pointer (some ⟨A + 6, 0, none⟩)] wx fun e w' => e = .returned (.int .i64 (Pcaptbl.lkE s.N s.M root a)) ∧ Cj w0 w w' p o P s A root a k r (Pcaptbl.lkC s.N s.M root a) ∧ But (A + 6) wx w' := by
  have HM : Hid (∀ wy, Below wx.heap.size wx wy → Calls Tryz.prog 14 #[.pointer (some ⟨p, 0, none⟩)] wy fun e w' => e = .returned (.pointer (some ⟨P.pm, 0, none⟩)) ∧ Below wx.heap.size wx w') := fun wy hB => (pmem_any (h.fx.on hB).x.v h.fx.ws).mono (by rintro e w' ⟨h1, h2⟩; exact ⟨h1, hB.trans (h2.mono hB.size)⟩)
  have HL : Hid (∀ wy, Below wx.heap.size wx wy → Calls Tryz.prog 83 #[.pointer (some ⟨P.pm, 0, none⟩), .int .i64 root, .int .i64 a] wy fun e w' => e = .returned (.tuple #[.agg #[.int .i64 (Pcaptbl.lkC s.N s.M root a 0), .int .i64 (Pcaptbl.lkC s.N s.M root a 1), .int .i64 (Pcaptbl.lkC s.N s.M root a 2), .int .i64 (Pcaptbl.lkC s.N s.M root a 3), .int .i64 (Pcaptbl.lkC s.N s.M root a 4), .int .i64 (Pcaptbl.lkC s.N s.M root a 5)], .int .i64 (Pcaptbl.lkE s.N s.M root a)]) ∧ Below wx.heap.size wx w') := fun wy hB => (Pcaptbl.clook_any _ _ _ root a _ wy (h.fx.on hB).mx ha).mono (by rintro e w' ⟨h1, h2⟩; exact ⟨h1, hB.trans (h2.mono hB.size)⟩)
  have HC : Hid (∀ wy, Below wx.heap.size wx wy → wy.cell? ⟨A, 0, none⟩ = some (.pointer (some ⟨p, 0, none⟩)) ∧ wy.cell? ⟨A + 1, 0, none⟩ = some (.int .i64 root) ∧ wy.cell? ⟨A + 2, 0, none⟩ = some (.int .i64 a)) := fun wy hB => ⟨fkeep hB h.b0, fkeep hB h.b1, fkeep hB h.b2⟩
  have HK : Hid (∀ wy, Below wx.heap.size wx wy → (∀ j, j < 6 → wy.cell? ⟨A + 6, j, none⟩ = some (.int .i64 0)) ∧ ∀ j, wy.frozen? ⟨A + 6, j, none⟩ = false) := fun wy hB => by
    have := (hB.block _ (Array.getElem?_eq_some_iff.1 h.b6).1).trans h.b6
    refine ⟨fun j hj => ?_, fun j => frozen_of_row _ _ _ _ _ this⟩
    rw [cell_of_row _ _ _ _ _ _ this]
    rcases (show j = 0 ∨ j = 1 ∨ j = 2 ∨ j = 3 ∨ j = 4 ∨ j = 5 by omega) with rfl | rfl | rfl | rfl | rfl | rfl <;> rfl
  have HH := fhide h
  have HB0 : Hid (Below wx.heap.size wx wx.drew) := (Below.refl _ _).drew
  have kS0 := HC.out _ HB0.out
  have n0 : A + 6 ≠ A := by omega
  have n1 : A + 6 ≠ A + 1 := by omega
  have n2 : A + 6 ≠ A + 2 := by omega
  clear h
  generalize Pcaptbl.lkE s.N s.M root a = E at HL ⊢
  generalize hcc : Pcaptbl.lkC s.N s.M root a = c at HL ⊢
  clear hcc
  go_enter Tryz.func82, Tryz.ntmps82
  go_upto_region 1 with fail
  go_region_held3 (fun W => W.cell? ⟨A, 0, none⟩ = some (.pointer (some ⟨p, 0, none⟩)) ∧ W.cell? ⟨A + 1, 0, none⟩ = some (.int .i64 root) ∧ W.cell? ⟨A + 2, 0, none⟩ = some (.int .i64 a)) (first | with_reducible assumption | with_reducible exact kS0 | with_reducible exact kS1 | with_reducible exact kS2 | go_keep)
    (first
      | (go_at_call 14; refine (HM.out _ HB0.out).mono ?_; rintro e1 w1 ⟨rfl, hb⟩; have HB1 := fhide hb; have kS1 := HC.out _ hb; clear hb HM)
      | (go_at_call 83; refine (HL.out _ HB1.out).mono ?_; rintro e1 w2 ⟨rfl, hb⟩; have HB2 := fhide hb; have kS2 := HC.out _ hb; obtain ⟨k6, kz⟩ := HK.out _ hb; have k60 := k6 0 (by omega); have k61 := k6 1 (by omega); have k62 := k6 2 (by omega); have k63 := k6 3 (by omega); have k64 := k6 4 (by omega); have k65 := k6 5 (by omega); clear k6 hb HL)
      | fail)
  all_goals
    have H3 := fhide ((HH.out.on HB2.out).put c)
    have H4 := fhide (but_six (But.of_below (A + 6) HB2.out) c)
    unfold six at H3 H4
    go_wp2
    go_ret
    exact ⟨rfl, H3.out, H4.out⟩
/-! ### Cap -/
theorem cap_ask (h : Cj w0 w wx p o P s A root a k r fun _ => 0) (ha : -9223372036854775808 ≤ a ∧ a ≤ 9223372036854775807) {R0 : Nat} {tF : TypeId} (hR : wx.heap[R0]? = some (.cells #[.func (.func 82) #[] #[.pointer (some ⟨A, 0, none⟩), .pointer (some ⟨A + 1, 0, none⟩), .pointer (some ⟨A + 2, 0, none⟩), .pointer (some ⟨A + 6, 0, none⟩)], .func (.func 84) #[] #[.pointer (some ⟨A + 6, 0, none⟩), .pointer (some ⟨A + 3, 0, none⟩)], .func (.func 86) #[] #[.pointer (some ⟨A + 4, 0, none⟩), .pointer (some ⟨A + 6, 0, none⟩)], .func (.func 87) #[] #[.pointer (some ⟨A + 6, 0, none⟩), .pointer (some ⟨A, 0, none⟩)]] tF (0, 0))) (hn : R0 ≠ A + 6) :
    Calls Tryz.prog 81 #[.pointer (some ⟨p, 0, none⟩), .slice (some ⟨R0, 0, none⟩) 4 4] wx fun e w' => e = .returned (.int .i64 (capE s root a k r)) ∧ Cj w0 w w' p o P s A root a k r (Pcaptbl.lkC s.N s.M root a) := by
  have hlt := (Array.getElem?_eq_some_iff.1 hR).1
  have keep : ∀ {wy w' : World}, R0 < wy.heap.size → wy.heap[R0]? = wx.heap[R0]? → Below wy.heap.size wy w' → w'.heap[R0]? = wx.heap[R0]? := fun h1 h2 h3 => (h3.block R0 h1).trans h2
  refine (askCap_any (N := s.n) (cpR s root a k r) (fun j wy => Cj w0 w wy p o P s A root a k r (if j = 0 then fun _ => 0 else Pcaptbl.lkC s.N s.M root a) ∧ wy.heap[R0]? = wx.heap[R0]? ∧ R0 < wy.heap.size) A (A + 1) (A + 2) (A + 6) (A + 6) (A + 3) (A + 4) (A + 6) (A + 6) A h.fx.ws.c1 ⟨h, rfl, hlt⟩ (fun wy hy => pcores_any hy.1.fx.x.v hy.1.fx.ws) (fun j wy hy => ?_) (fun wy hy => ?_) (fun wy hy => ?_) (fun wy hy => ?_) (fun wy hy => ?_)).mono ?_
  · have := hy.2.1.trans hR
    refine ⟨?_, ?_, ?_, ?_⟩ <;> rw [cell_of_row _ _ _ _ _ _ this] <;> rfl
  · refine (cap1_any hy.1 ha).mono ?_
    rintro e w' ⟨h1, h2, h3⟩
    exact ⟨h1, h2, (h3.block R0 hy.2.2 hn).trans hy.2.1, Nat.lt_of_lt_of_le hy.2.2 h3.size⟩
  · refine (cap2_any hy.1).mono ?_
    rintro e w' ⟨h1, rfl⟩
    exact ⟨h1, hy⟩
  · refine (cap3_any hy.1).mono ?_
    rintro e w' ⟨h1, rfl⟩
    exact ⟨h1, hy⟩
  · refine (cap4_any hy.1).mono ?_
    rintro e w' ⟨h1, h2⟩
    exact ⟨h1, hy.1.on h2, keep hy.2.2 hy.2.1 h2, Nat.lt_of_lt_of_le hy.2.2 h2.size⟩
  · rintro e w' ⟨h1, j, h2, h3, h4, h5, _⟩
    have hj : j ≠ 0 := by
      rintro rfl
      rcases h4 with h4 | h4
      · omega
      · exact h4 rfl
    rw [if_neg hj] at h5
    exact ⟨h1, h5⟩
/-- What Cap lays before it asks. -/
def bx7 (w : World) (p : Nat) (root a k r : Int) : World := ((((((w.alloc (.cells #[.pointer (some ⟨p, 0, none⟩)] 25)).alloc (.cells #[.int .i64 root] 3)).alloc (.cells #[.int .i64 a] 3)).alloc (.cells #[.int .i64 k] 3)).alloc (.cells #[.int .i64 r] 3)).alloc (.cells #[.int .i64 0, .int .i64 0, .int .i64 0, .int .i64 0, .int .i64 0, .int .i64 0] 55)).alloc (.cells #[.int .i64 0, .int .i64 0, .int .i64 0, .int .i64 0, .int .i64 0, .int .i64 0] 55)
theorem bx7_size (w : World) (p : Nat) (root a k r : Int) : (bx7 w p root a k r).heap.size = w.heap.size + 7 := by
  unfold bx7
  simp
theorem bx7_at (h : Fx w0 w p o P s) : Cj w0 w (bx7 w p root a k r) p o P s w.heap.size root a k r fun _ => 0 := by
  have b : ∀ (x : World) (ob : Obj), Below x.heap.size x (x.alloc ob) := fun x ob => bal (Below.refl _ _) ob
  have hB : Below w.heap.size w (bx7 w p root a k r) := bal (bal (bal (bal (bal (bal (bal (Below.refl _ _) _) _) _) _) _) _) _
  have n : ∀ (x : World) (ob : Obj) (i : Nat), x.heap.size = i → (x.alloc ob).heap[i]? = some ob := fun x ob i e => by subst e; exact heap_alloc_new x ob
  have l : ∀ (x : World) (ob ob2 : Obj) (i : Nat), i < x.heap.size → x.heap[i]? = some ob2 → (x.alloc ob).heap[i]? = some ob2 := fun x ob ob2 i e h => (Below.heap_alloc _ _ _ e).trans h
  have hs := h.below.size
  refine ⟨h.on hB, ?_, ?_, ?_, ?_, ?_, ?_, ?_, hB, Nat.le_refl _, hs, pmine_new h.x.v (by omega)⟩
  all_goals unfold bx7
  · rw [cell_of_row _ _ _ _ _ _ (l _ _ _ _ (by simp only [World.size_alloc]; omega) (l _ _ _ _ (by simp only [World.size_alloc]; omega) (l _ _ _ _ (by simp only [World.size_alloc]; omega) (l _ _ _ _ (by simp only [World.size_alloc]; omega) (l _ _ _ _ (by simp only [World.size_alloc]; omega) (l _ _ _ _ (by simp only [World.size_alloc]; omega) (n w _ w.heap.size rfl)))))))]; rfl
  · rw [cell_of_row _ _ _ _ _ _ (l _ _ _ _ (by simp only [World.size_alloc]; omega) (l _ _ _ _ (by simp only [World.size_alloc]; omega) (l _ _ _ _ (by simp only [World.size_alloc]; omega) (l _ _ _ _ (by simp only [World.size_alloc]; omega) (l _ _ _ _ (by simp only [World.size_alloc]; omega) (n _ _ _ (by simp)))))))]; rfl
  · rw [cell_of_row _ _ _ _ _ _ (l _ _ _ _ (by simp only [World.size_alloc]; omega) (l _ _ _ _ (by simp only [World.size_alloc]; omega) (l _ _ _ _ (by simp only [World.size_alloc]; omega) (l _ _ _ _ (by simp only [World.size_alloc]; omega) (n _ _ _ (by simp))))))]; rfl
  · rw [cell_of_row _ _ _ _ _ _ (l _ _ _ _ (by simp only [World.size_alloc]; omega) (l _ _ _ _ (by simp only [World.size_alloc]; omega) (l _ _ _ _ (by simp only [World.size_alloc]; omega) (n _ _ _ (by simp)))))]; rfl
  · rw [cell_of_row _ _ _ _ _ _ (l _ _ _ _ (by simp only [World.size_alloc]; omega) (l _ _ _ _ (by simp only [World.size_alloc]; omega) (n _ _ _ (by simp))))]; rfl
  · exact l _ _ _ _ (by simp only [World.size_alloc]; omega) (n _ _ _ (by simp))
  · exact n _ _ _ (by simp)
theorem capA_cells {W : World} {B : Nat} {d : Nat → Int} {t : TypeId} (h : W.heap[B]? = some (.cells (capO d) t (0, 0))) : W.cell? ⟨B, 0, none⟩ = some (.int .i64 (d 0)) ∧ W.cell? ⟨B, 1, none⟩ = some (.int .i64 (d 1)) ∧ W.cell? ⟨B, 2, none⟩ = some (.int .i64 (d 2)) ∧ W.cell? ⟨B, 3, none⟩ = some (.int .i64 (d 3)) ∧ W.cell? ⟨B, 4, none⟩ = some (.int .i64 (d 4)) ∧ W.cell? ⟨B, 5, none⟩ = some (.int .i64 (d 5)) := by
  refine ⟨?_, ?_, ?_, ?_, ?_, ?_⟩ <;> rw [cell_of_row W _ _ _ _ _ h] <;> rfl
set_option maxRecDepth 100000 in
set_option maxHeartbeats 2000000 in
theorem fcap_any (root a k r : Int) (ha : -9223372036854775808 ≤ a ∧ a ≤ 9223372036854775807) (h : Fx w0 w p o P s) : Calls Tryz.prog 24 #[.pointer (some ⟨p, 0, none⟩), .int .i64 root, .int .i64 a, .int .i64 k, .int .i64 r] w fun e w' => e = .returned (.tuple #[.agg #[.int .i64 (capC s root a k r 0), .int .i64 (capC s root a k r 1), .int .i64 (capC s root a k r 2), .int .i64 (capC s root a k r 3), .int .i64 (capC s root a k r 4), .int .i64 (capC s root a k r 5)], .int .i64 (capE s root a k r)]) ∧ Below w.heap.size w w' := by
  have HJ := fhide (bx7_at (root := root) (a := a) (k := k) (r := r) h)
  have hs7 := bx7_size w p root a k r
  have HA : Hid (∀ wx, Cj w0 w wx p o P s w.heap.size root a k r (fun _ => 0) → ∀ R0 tF, wx.heap[R0]? = some (.cells #[.func (.func 82) #[] #[.pointer (some ⟨w.heap.size, 0, none⟩), .pointer (some ⟨w.heap.size + 1, 0, none⟩), .pointer (some ⟨w.heap.size + 2, 0, none⟩), .pointer (some ⟨w.heap.size + 6, 0, none⟩)], .func (.func 84) #[] #[.pointer (some ⟨w.heap.size + 6, 0, none⟩), .pointer (some ⟨w.heap.size + 3, 0, none⟩)], .func (.func 86) #[] #[.pointer (some ⟨w.heap.size + 4, 0, none⟩), .pointer (some ⟨w.heap.size + 6, 0, none⟩)], .func (.func 87) #[] #[.pointer (some ⟨w.heap.size + 6, 0, none⟩), .pointer (some ⟨w.heap.size, 0, none⟩)]] tF (0, 0)) → R0 ≠ w.heap.size + 6 →
      Calls Tryz.prog 81 #[.pointer (some ⟨p, 0, none⟩), .slice (some ⟨R0, 0, none⟩) 4 4] wx fun e w' => e = .returned (.int .i64 (capE s root a k r)) ∧ Cj w0 w w' p o P s w.heap.size root a k r (Pcaptbl.lkC s.N s.M root a)) := fun wx hx R0 tF hR hn => cap_ask hx ha hR hn
  have HV : Hid ((capE s root a k r = 0 → ∀ j, capC s root a k r j = Pcaptbl.lkC s.N s.M root a j) ∧ (capE s root a k r ≠ 0 → ∀ j, capC s root a k r j = 0)) := by
    unfold capC
    exact ⟨fun e j => by rw [if_pos e], fun e j => by rw [if_neg e]⟩
  clear h ha
  generalize capE s root a k r = E at HA HV ⊢
  generalize capC s root a k r = C at HV ⊢
  generalize Pcaptbl.lkC s.N s.M root a = L at HA HV
  obtain ⟨W7, hW7⟩ : ∃ x, x = bx7 w p root a k r := ⟨_, rfl⟩
  rw [← hW7] at HJ hs7
  unfold bx7 at hW7
  have HS := fhide hs7
  clear hs7
  go_enter Tryz.func24, Tryz.ntmps24
  go_upto_region 2 with fail
  rw [← hW7]
  clear hW7
  simp only [Nat.add_assoc, Nat.reduceAdd]
  generalize w.heap.size = A at HJ HA HS ⊢
  have d0 := HJ.out.b0
  go_upto_region 3 with (first
    | (go_at_call 81; refine (HA.out _ ?hj _ ?tf ?hr ?hn).mono ?_; (case hj => exact HJ.out.on (bal (Below.refl _ _) _)); (case hr => exact heap_alloc_new _ _); (case hn => (rw [HS.out]; omega)); rintro e w2 ⟨rfl, hx⟩; have H2 := fhide hx; clear hx d0 HA HJ)
    | fail)
  obtain ⟨c0, c1, c2, c3, c4, c5⟩ := H2.out.cell
  obtain ⟨d0, d1, d2, d3, d4, d5⟩ := capA_cells H2.out.b5
  have dz : ∀ j, w2.frozen? ⟨A + 5, j, none⟩ = false := fun j => frozen_of_row _ _ _ _ _ H2.out.b5
  by_cases hE : E = 0
  · have HC := HV.out.1 hE
    subst hE
    obtain ⟨x0, x1, x2, x3, x4, x5⟩ := capA_cells (six_same L H2.out.b5)
    have HF : Hid (Below w.heap.size w (six w2 (A + 5) L)) := by
      have := H2.out.ge
      have hq : w.heap.size ≤ A + 5 := by omega
      unfold six
      exact (((((H2.out.below.setCell (p := ⟨A + 5, 0, none⟩) hq _).setCell (p := ⟨A + 5, 1, none⟩) hq _).setCell (p := ⟨A + 5, 2, none⟩) hq _).setCell (p := ⟨A + 5, 3, none⟩) hq _).setCell (p := ⟨A + 5, 4, none⟩) hq _).setCell (p := ⟨A + 5, 5, none⟩) hq _
    unfold six at x0 x1 x2 x3 x4 x5 HF
    go_wp2
    refine bodyPost_ret (v := .tuple #[.agg #[.int .i64 (L 0), .int .i64 (L 1), .int .i64 (L 2), .int .i64 (L 3), .int .i64 (L 4), .int .i64 (L 5)], .int .i64 0]) (by simp [results, Tryz.results24, go_sem, x0, x1, x2, x3, x4, x5]) rfl ⟨by simp only [HC], HF.out⟩
  · have HC := HV.out.2 hE
    have hE' : (E != 0) = true := by simp [hE]
    obtain ⟨x0, x1, x2, x3, x4, x5⟩ := capA_cells (six_same (fun _ => 0) H2.out.b5)
    have HF : Hid (Below w.heap.size w (six w2 (A + 5) fun _ => 0)) := by
      have := H2.out.ge
      have hq : w.heap.size ≤ A + 5 := by omega
      unfold six
      exact (((((H2.out.below.setCell (p := ⟨A + 5, 0, none⟩) hq _).setCell (p := ⟨A + 5, 1, none⟩) hq _).setCell (p := ⟨A + 5, 2, none⟩) hq _).setCell (p := ⟨A + 5, 3, none⟩) hq _).setCell (p := ⟨A + 5, 4, none⟩) hq _).setCell (p := ⟨A + 5, 5, none⟩) hq _
    unfold six at x0 x1 x2 x3 x4 x5 HF
    go_wp2
    refine bodyPost_ret (v := .tuple #[.agg #[.int .i64 0, .int .i64 0, .int .i64 0, .int .i64 0, .int .i64 0, .int .i64 0], .int .i64 E]) (by simp [results, Tryz.results24, go_sem, x0, x1, x2, x3, x4, x5]) rfl ⟨by simp only [HC], HF.out⟩
end
end Go.Proofs.YtggggfhgfnbjnaaGreatDoor.Pfind
