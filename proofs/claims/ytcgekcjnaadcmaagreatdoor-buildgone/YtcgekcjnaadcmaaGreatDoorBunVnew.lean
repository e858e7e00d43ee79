/- Texts on finished packages, joined. -/
import Derived.Test.YtcgekcjnaadcmaaGreatDoorBunBase
import Derived.Maps.AppendAt
import Derived.OwnWalk
import Derived.Deep.RegionWith
import Derived.Deep.CutBlock
import Derived.Deep.DeepCutAuto
import Derived.Deep.AppendLies
import Derived.Deep.RegionLaw

/- The document's parts, made anew: that nothing elder has changed is all that is said of them (written by mk_vn.py). -/
namespace Go.Proofs.YtcgekcjnaadcmaaGreatDoor.Pvnew
open Go.Proofs.YtcgekcjnaadcmaaGreatDoor.Pbase
open Go.RowKit
set_option linter.unusedVariables false

theorem nhide {p : Prop} (h : p) : Hid p := h
theorem own_geN {w : World} {base : Nat} {e : TypeId} {size : Nat} {v : Value} {n : Nat} {xs : List Value} (h : w.ownsRow base e size v n xs) : ∀ k, v.ownBlock = some k → base ≤ k := fun k hk => (h.lt k hk).1
theorem ownsRow_onN {w w' : World} {base : Nat} {e : TypeId} {size : Nat} {v : Value} {n : Nat} {xs : List Value} (h : w.ownsRow base e size v n xs) (hk : ∀ k, base ≤ k → k < w.heap.size → w'.heap[k]? = w.heap[k]?) : w'.ownsRow base e size v n xs := by
  refine ⟨h.1, or_right h.2 ?_⟩
  rintro ⟨g, cap, cur, hv, hg, hh, r⟩
  exact ⟨g, cap, cur, hv, hg, by rw [hk g hg (Array.getElem?_eq_some_iff.1 hh).1]; exact hh, r⟩
theorem ownsRow_succN {w : World} {base : Nat} {e : TypeId} {size : Nat} {v : Value} {n : Nat} {xs : List Value} (h : w.ownsRow base e size v (n + 1) xs) : ∃ g cap, v = .slice (some ⟨g, 0, none⟩) (n + 1) cap := by
  rcases h.2 with ⟨_, e⟩ | ⟨g, cap, _, e, _⟩
  · cases e
  · exact ⟨g, cap, e⟩
theorem cells_newN (w : World) (xs : List Value) (t : TypeId) : ∀ j u, xs[j]? = some u → (w.alloc (.cells xs.toArray t)).cell? ((⟨w.heap.size, 0, none⟩ : Addr).add j) = some u := by
  intro j u hj
  rw [Addr.add_lit, Nat.zero_add, World.cell?_alloc_new, ← hj]
  simp
/-- A struct in block B of n cells cs, those of D lists of k entries that grow, each in a block of its own. -/
structure NewL (D : Nat → Bool) (et : Nat → TypeId) (sz : Nat → Nat) (n B : Nat) (w wr : World) (cs : Nat → Value) (k : Nat → Nat) : Prop where
  head : ∃ cur t, wr.heap[B]? = some (.cells cur t (0, 0)) ∧ ∀ j, j < n → cur[j]? = some (cs j)
  owns : ∀ i, D i = true → ∃ xs, wr.ownsRow (B + 1) (et i) (sz i) (cs i) (k i) xs
  apart : ∀ i j b, D i = true → D j = true → i ≠ j → (cs i).ownBlock = some b → (cs j).ownBlock ≠ some b
  below : Below B w wr
  size : B + 1 ≤ wr.heap.size
section
variable {D : Nat → Bool} {et : Nat → TypeId} {sz : Nat → Nat} {n B : Nat} {w wr w1 w' : World} {cs cs' : Nat → Value} {k k' : Nat → Nat}
theorem NewL.cell (h : NewL D et sz n B w wr cs k) {j : Nat} (hj : j < n) : wr.cell? ⟨B, j, none⟩ = some (cs j) := by
  obtain ⟨cur, t, h1, h2⟩ := h.head
  rw [cell_of_row wr B j _ _ _ h1]
  exact h2 j hj
theorem NewL.free (h : NewL D et sz n B w wr cs k) (j : Nat) : wr.frozen? ⟨B, j, none⟩ = false := by
  obtain ⟨cur, t, h1, _⟩ := h.head
  exact frozen_of_row wr B j _ _ h1
theorem NewL.congr (h : NewL D et sz n B w wr cs k) (e1 : ∀ i, i < n → cs i = cs' i) (e2 : ∀ i, D i = true → i < n ∧ k i = k' i) : NewL D et sz n B w wr cs' k' := by
  obtain ⟨cur, t, h1, h2⟩ := h.head
  refine ⟨⟨cur, t, h1, fun j hj => by rw [h2 j hj, e1 j hj]⟩, fun i hi => ?_, fun i j b hi hj hne => ?_, h.below, h.size⟩
  · rw [← e1 i (e2 i hi).1, ← (e2 i hi).2]; exact h.owns i hi
  · rw [← e1 i (e2 i hi).1, ← e1 j (e2 j hj).1]; exact h.apart i j b hi hj hne
theorem NewL.on (h : NewL D et sz n B w wr cs k) (hB : Below wr.heap.size wr w') : NewL D et sz n B w w' cs k := by
  obtain ⟨cur, t, h1, h2⟩ := h.head
  have hs := h.size
  have hz := hB.size
  refine ⟨⟨cur, t, (hB.block B (by omega)).trans h1, h2⟩, fun i hi => ?_, h.apart, h.below.trans (hB.mono (by omega)), by omega⟩
  obtain ⟨xs, hx⟩ := h.owns i hi
  exact ⟨xs, ownsRow_onN hx fun j _ hj => hB.block j hj⟩
theorem NewL.start (w : World) (cur : Array Value) (t : TypeId) (hc : ∀ j, j < n → cur[j]? = some (cs j)) (h0 : ∀ i, D i = true → cs i = .slice none 0 0) : NewL D et sz n w.heap.size w (w.alloc (.cells cur t)) cs fun _ => 0 :=
  ⟨⟨cur, t, heap_alloc_new _ _, hc⟩, fun i hi => ⟨[], by simp, .inl ⟨h0 i hi, rfl⟩⟩, fun i j b hi _ _ e => by rw [h0 i hi] at e; simp [Value.ownBlock] at e, (Below.refl _ _).alloc (Nat.le_refl _) _, by simp⟩
/-- A cell that is no list is written. -/
theorem NewL.put (h : NewL D et sz n B w wr cs k) {i : Nat} (hi : D i = false) (v' : Value) : NewL D et sz n B w (wr.setCell ⟨B, i, none⟩ v') (fun j => if j = i then v' else cs j) k := by
  obtain ⟨cur, t, h1, h2⟩ := h.head
  have hs := h.size
  refine ⟨⟨cur.setIfInBounds i v', t, heap_setCell_same wr B i _ _ v' h1, fun j hj => ?_⟩, fun j hj => ?_, fun a b c ha hb hne => ?_, h.below.setCell (Nat.le_refl _) _, by rw [World.size_setCell]; exact hs⟩
  · rw [Array.getElem?_setIfInBounds]
    by_cases e : i = j
    · subst e
      have hlt : i < cur.size := by
        rcases Nat.lt_or_ge i cur.size with g | g
        · exact g
        · have := h2 i hj; rw [Array.getElem?_eq_none g] at this; cases this
      simp [hlt]
    · rw [if_neg e, h2 j hj]
      simp [Ne.symm e]
  · have e : j ≠ i := fun e => by rw [e, hi] at hj; cases hj
    obtain ⟨xs, hx⟩ := h.owns j hj
    refine ⟨xs, ?_⟩
    simp only [e, if_false]
    exact ownsRow_onN hx fun b hb _ => Below.heap_setCell _ _ _ _ (by show b ≠ B; omega)
  · have e1 : a ≠ i := fun e => by rw [e, hi] at ha; cases ha
    have e2 : b ≠ i := fun e => by rw [e, hi] at hb; cases hb
    simp only [e1, e2, if_false]
    exact h.apart a b c ha hb hne
/-- One list has got an entry. -/
theorem NewL.step {i : Nat} {v' : Value} {o : Obj} {xs : List Value} (h : NewL D et sz n B w wr cs k) (hi : D i = true)
    (hown : w1.ownsRow (B + 1) (et i) (sz i) v' (k i + 1) xs) (hg : (wr.alloc o).grownBy w1 (cs i).ownBlock) (hat : v'.ownBlock = (cs i).ownBlock ∨ v'.ownBlock = some (wr.alloc o).heap.size) :
    NewL D et sz n B w w1 cs (fun j => if D j = true ∧ j ≠ i then k j else 0) = NewL D et sz n B w w1 cs (fun j => if D j = true ∧ j ≠ i then k j else 0) ∧ (∀ j, j < n → w1.cell? ⟨B, j, none⟩ = some (cs j)) ∧ (∀ j, w1.frozen? ⟨B, j, none⟩ = false) ∧ NewL D et sz n B w (w1.setCell ⟨B, i, none⟩ v') (fun j => if j = i then v' else cs j) (fun j => if j = i then k j + 1 else k j) := by
  obtain ⟨cur, t, h1, h2⟩ := h.head
  have hs := h.size
  obtain ⟨ys, hy⟩ := h.owns i hi
  have hb1 : Below (B + 1) wr w1 := ((Below.refl _ _).alloc (by omega) o).grown hg (by simp; omega) (own_geN hy)
  have hhead : w1.heap[B]? = some (.cells cur t (0, 0)) := by rw [hb1.block B (by omega)]; exact h1
  have hz := hb1.size
  have hold : ∀ j b, D j = true → (cs j).ownBlock = some b → b < wr.heap.size := fun j b hj e => by
    obtain ⟨zs, hz⟩ := h.owns j hj
    exact (hz.lt b e).2
  have hset : ∀ {t : TypeId} {s : Nat} {vv : Value} {n : Nat} {xs : List Value}, w1.ownsRow (B + 1) t s vv n xs → (w1.setCell ⟨B, i, none⟩ v').ownsRow (B + 1) t s vv n xs := fun ho => ownsRow_onN ho fun j hj _ => Below.heap_setCell _ _ _ _ (by show j ≠ B; omega)
  refine ⟨rfl, fun j hj => by rw [cell_of_row w1 B j _ _ _ hhead]; exact h2 j hj, fun j => frozen_of_row w1 B j _ _ hhead, ?_, ?_, ?_, ?_, ?_⟩
  · refine ⟨cur.setIfInBounds i v', t, heap_setCell_same w1 B i _ _ v' hhead, fun j hj => ?_⟩
    rw [Array.getElem?_setIfInBounds]
    by_cases e : i = j
    · subst e
      have hlt : i < cur.size := by
        rcases Nat.lt_or_ge i cur.size with g | g
        · exact g
        · have := h2 i hj; rw [Array.getElem?_eq_none g] at this; cases this
      simp [hlt]
    · rw [if_neg e, h2 j hj]
      simp [Ne.symm e]
  · intro j hj
    by_cases e : j = i
    · subst e
      simp only [if_true]
      exact ⟨_, hset hown⟩
    · simp only [e, if_false]
      obtain ⟨zs, hz⟩ := h.owns j hj
      refine ⟨zs, hset ((hz.alloc o).kept hg ?_)⟩
      cases hb : (cs j).ownBlock with
      | none => exact .inl rfl
      | some b => exact .inr (fun hc => h.apart j i b hj hi e hb hc.symm)
  · intro a c b ha hc hne hab
    by_cases e1 : a = i
    · subst e1
      rw [if_pos rfl] at hab
      rw [if_neg (Ne.symm hne)]
      rcases hat with hat | hat
      · rw [hat] at hab
        exact h.apart a c b ha hc hne hab
      · intro hcb
        have := hold c b hc hcb
        rw [hat] at hab
        simp at hab
        omega
    · rw [if_neg e1] at hab
      by_cases e2 : c = i
      · subst e2
        rw [if_pos rfl]
        rcases hat with hat | hat
        · rw [hat]
          exact h.apart a c b ha hc hne hab
        · intro hcb
          have := hold a b ha hab
          rw [hat] at hcb
          simp at hcb
          omega
      · rw [if_neg e2]
        exact h.apart a c b ha hc hne hab
  · exact (h.below.trans (hb1.mono (by omega))).setCell (Nat.le_refl _) _
  · simp only [World.size_setCell]
    omega
end
/-- One list alone, in a struct of one cell. -/
abbrev New1 (t : TypeId) (s B : Nat) (w wr : World) (v : Value) (k : Nat) : Prop := NewL (fun i => i == 0) (fun _ => t) (fun _ => s) 1 B w wr (fun _ => v) (fun _ => k)
theorem New1.start (t : TypeId) (s : Nat) (w : World) (u : TypeId) : New1 t s w.heap.size w (w.alloc (.cells #[.slice none 0 0] u)) (.slice none 0 0) 0 :=
  NewL.start w _ u (fun j hj => by obtain rfl : j = 0 := (by omega); rfl) fun _ _ => rfl
theorem New1.step {t : TypeId} {s B : Nat} {w wr w1 : World} {v v' : Value} {k : Nat} {o : Obj} {xs : List Value} (h : New1 t s B w wr v k)
    (hown : w1.ownsRow (B + 1) t s v' (k + 1) xs) (hg : (wr.alloc o).grownBy w1 v.ownBlock) (hat : v'.ownBlock = v.ownBlock ∨ v'.ownBlock = some (wr.alloc o).heap.size) :
    w1.cell? ⟨B, 0, none⟩ = some v ∧ w1.frozen? ⟨B, 0, none⟩ = false ∧ New1 t s B w (w1.setCell ⟨B, 0, none⟩ v') v' (k + 1) := by
  obtain ⟨_, h1, h2, h3⟩ := NewL.step (i := 0) h rfl hown hg hat
  exact ⟨h1 0 (by omega), h2 0, h3.congr (fun i hi => by obtain rfl : i = 0 := (by omega); rfl) (fun i hi => by obtain rfl : i = 0 := (by simpa using hi); exact ⟨by omega, rfl⟩)⟩
set_option maxRecDepth 100000 in
theorem nInfoWord : (Tryz.prog.info? 104).map (fun i => (i.zero, i.size, i.bytes)) = some (some (.int .u64 0), 1, 8) := by kernel_rfl
set_option maxRecDepth 100000 in
theorem nInfoWords : (Tryz.prog.info? 249).map (fun i => (i.zero, i.size, i.bytes)) = some (some (.slice none 0 0), 1, 24) := by kernel_rfl
set_option maxRecDepth 100000 in
theorem nInfoInt : (Tryz.prog.info? 3).map (fun i => (i.zero, i.size, i.bytes)) = some (some (.int .i64 0), 1, 8) := by kernel_rfl
set_option maxRecDepth 100000 in
theorem nInfoRFrame : (Tryz.prog.info? 256).map (fun i => (i.zero, i.size, i.bytes)) = some (some (.agg #[.int .i64 0, .int .i64 0, .int .i64 0, .int .i64 0]), 4, 32) := by kernel_rfl
set_option maxRecDepth 100000 in
theorem nInfoId : (Tryz.prog.info? 243).map (fun i => (i.zero, i.size, i.bytes)) = some (some (.agg #[.bool false, .int .i64 0, .bool false, .int .i64 0]), 4, 32) := by kernel_rfl
set_option maxHeartbeats 2000000 in
set_option maxRecDepth 100000 in
theorem newRegs_below (w : World) : Calls Tryz.prog 77 #[] w fun e w' => e = .returned (.pointer (some ⟨w.heap.size, 0, none⟩)) ∧ Below w.heap.size w w' := by
  obtain ⟨it, hi, hz0, hz1, hz2⟩ := info_parts nInfoWord
  have H0 : Hid (New1 104 1 w.heap.size w (w.alloc (.cells #[.slice none 0 0] 261)) (.slice none 0 0) 0) := New1.start _ _ w _
  go_enter Tryz.func77, Tryz.ntmps77
  go_wp2
  go_loopw [2] (fun i wr => ∃ k : Nat, k ≤ 8 ∧ i = .int .i64 k ∧ ∃ v, New1 104 1 w.heap.size w wr v k) (fun i _ => 8 - (intOf i).toNat)
  case atStart => exact ⟨0, by omega, rfl, _, H0.out⟩
  case round =>
    obtain ⟨k, hk, rfl, v, hI⟩ := hrel
    have HI := nhide hI
    clear hI H0
    by_cases hlt : k < 8
    · have hki : (k : Int) < 8 := by omega
      have hk64 : (k : Int) < 64 := by omega
      have hs := HI.out.size
      have d0 : wr.cell? ⟨w.heap.size, 0, none⟩ = some v := HI.out.cell (by omega)
      obtain ⟨xs, hx⟩ := HI.out.owns 0 rfl
      have HO : Hid (wr.ownsRow (w.heap.size + 1) 104 1 v k xs) := hx
      clear hx
      go_wp2_with (first
        | (at_builtin; refine wpList_append_own_at _ rfl _ _ 249 rfl (w.heap.size + 1) 104 it _ 1 8 Tryz.underlying249 hi hz0 hz1 hz2 rfl (by decide) _ _ _ rfl (HO.out.alloc _) _ 1 1 [.int .u64 0] rfl rfl (cells_newN wr [.int .u64 0] _) (by simp [Value.oneCell']) (by unfold maxLen; omega) (by omega) (by simp; omega) ?_; intro v1 w1 hown hgrow _ hat; obtain ⟨g1, p1, rfl⟩ := ownsRow_succN hown; have S := New1.step HI.out hown hgrow hat; clear d0; have d1 := S.1; have z1 := S.2.1; have HS1 : Hid (∃ v, New1 104 1 w.heap.size w (w1.setCell ⟨w.heap.size, 0, none⟩ (.slice (some ⟨g1, 0, none⟩) (k + 1) p1)) v (k + 1)) := ⟨_, S.2.2⟩; clear hown hgrow hat S)
        | fail)
      go_roundw
      case rel => exact ⟨k + 1, by omega, by go_num, HS1.out⟩
      case measure => simp [intOf]; omega
    · obtain rfl : k = 8 := by omega
      go_wp2
      go_ret
      exact ⟨rfl, HI.out.below⟩
set_option maxHeartbeats 2000000 in
set_option maxRecDepth 100000 in
theorem newHw_below (w : World) : Calls Tryz.prog 72 #[] w fun e w' => e = .returned (.pointer (some ⟨w.heap.size, 0, none⟩)) ∧ Below w.heap.size w w' := by
  obtain ⟨it, hi, hz0, hz1, hz2⟩ := info_parts nInfoInt
  have H0 : Hid (New1 3 1 w.heap.size w (w.alloc (.cells #[.slice none 0 0] 245)) (.slice none 0 0) 0) := New1.start _ _ w _
  go_enter Tryz.func72, Tryz.ntmps72
  go_wp2
  go_loopw [2] (fun i wr => ∃ k : Nat, k ≤ 8 ∧ i = .int .i64 k ∧ ∃ v, New1 3 1 w.heap.size w wr v k) (fun i _ => 8 - (intOf i).toNat)
  case atStart => exact ⟨0, by omega, rfl, _, H0.out⟩
  case round =>
    obtain ⟨k, hk, rfl, v, hI⟩ := hrel
    have HI := nhide hI
    clear hI H0
    by_cases hlt : k < 8
    · have hki : (k : Int) < 8 := by omega
      have hk64 : (k : Int) < 64 := by omega
      have hs := HI.out.size
      have d0 : wr.cell? ⟨w.heap.size, 0, none⟩ = some v := HI.out.cell (by omega)
      obtain ⟨xs, hx⟩ := HI.out.owns 0 rfl
      have HO : Hid (wr.ownsRow (w.heap.size + 1) 3 1 v k xs) := hx
      clear hx
      go_wp2_with (first
        | (at_builtin; refine wpList_append_own_at _ rfl _ _ 142 rfl (w.heap.size + 1) 3 it _ 1 8 Tryz.underlying142 hi hz0 hz1 hz2 rfl (by decide) _ _ _ rfl (HO.out.alloc _) _ 1 1 [.int .i64 0] rfl rfl (cells_newN wr [.int .i64 0] _) (by simp [Value.oneCell']) (by unfold maxLen; omega) (by omega) (by simp; omega) ?_; intro v1 w1 hown hgrow _ hat; obtain ⟨g1, p1, rfl⟩ := ownsRow_succN hown; have S := New1.step HI.out hown hgrow hat; clear d0; have d1 := S.1; have z1 := S.2.1; have HS1 : Hid (∃ v, New1 3 1 w.heap.size w (w1.setCell ⟨w.heap.size, 0, none⟩ (.slice (some ⟨g1, 0, none⟩) (k + 1) p1)) v (k + 1)) := ⟨_, S.2.2⟩; clear hown hgrow hat S)
        | fail)
      go_roundw
      case rel => exact ⟨k + 1, by omega, by go_num, HS1.out⟩
      case measure => simp [intOf]; omega
    · obtain rfl : k = 8 := by omega
      go_wp2
      go_ret
      exact ⟨rfl, HI.out.below⟩
set_option maxHeartbeats 2000000 in
set_option maxRecDepth 100000 in
theorem newLive_below (w : World) : Calls Tryz.prog 71 #[] w fun e w' => e = .returned (.pointer (some ⟨w.heap.size, 0, none⟩)) ∧ Below w.heap.size w w' := by
  obtain ⟨it, hi, hz0, hz1, hz2⟩ := info_parts nInfoId
  have H0 : Hid (New1 243 4 w.heap.size w (w.alloc (.cells #[.slice none 0 0] 241)) (.slice none 0 0) 0) := New1.start _ _ w _
  go_enter Tryz.func71, Tryz.ntmps71
  go_wp2
  go_loopw [2] (fun i wr => ∃ k : Nat, k ≤ 64 ∧ i = .int .i64 k ∧ ∃ v, New1 243 4 w.heap.size w wr v k) (fun i _ => 64 - (intOf i).toNat)
  case atStart => exact ⟨0, by omega, rfl, _, H0.out⟩
  case round =>
    obtain ⟨k, hk, rfl, v, hI⟩ := hrel
    have HI := nhide hI
    clear hI H0
    by_cases hlt : k < 64
    · have hki : (k : Int) < 64 := by omega
      have hk64 : (k : Int) < 64 := by omega
      have hs := HI.out.size
      have d0 : wr.cell? ⟨w.heap.size, 0, none⟩ = some v := HI.out.cell (by omega)
      obtain ⟨xs, hx⟩ := HI.out.owns 0 rfl
      have HO : Hid (wr.ownsRow (w.heap.size + 1) 243 4 v k xs) := hx
      clear hx
      go_wp2_with (first
        | (at_builtin; refine wpList_append_own_at _ rfl _ _ 239 rfl (w.heap.size + 1) 243 it _ 4 32 Tryz.underlying239 hi hz0 hz1 hz2 rfl (by decide) _ _ _ rfl (HO.out.alloc _) _ 1 1 [.bool false, .int .i64 0, .bool false, .int .i64 0] rfl rfl (cells_newN wr [.bool false, .int .i64 0, .bool false, .int .i64 0] _) (by simp [Value.oneCell']) (by unfold maxLen; omega) (by omega) (by simp; omega) ?_; intro v1 w1 hown hgrow _ hat; obtain ⟨g1, p1, rfl⟩ := ownsRow_succN hown; have S := New1.step HI.out hown hgrow hat; clear d0; have d1 := S.1; have z1 := S.2.1; have HS1 : Hid (∃ v, New1 243 4 w.heap.size w (w1.setCell ⟨w.heap.size, 0, none⟩ (.slice (some ⟨g1, 0, none⟩) (k + 1) p1)) v (k + 1)) := ⟨_, S.2.2⟩; clear hown hgrow hat S)
        | fail)
      go_roundw
      case rel => exact ⟨k + 1, by omega, by go_num, HS1.out⟩
      case measure => simp [intOf]; omega
    · obtain rfl : k = 64 := by omega
      go_wp2
      go_ret
      exact ⟨rfl, HI.out.below⟩
set_option maxHeartbeats 2000000 in
set_option maxRecDepth 100000 in
theorem newTyp_below (N : Nat) (w : World) (hN1 : 1 ≤ N) (hN : N ≤ 64) : Calls Tryz.prog 75 #[.int .i64 N] w fun e w' => e = .returned (.tuple #[.pointer (some ⟨w.heap.size, 0, none⟩), .int .i64 0]) ∧ Below w.heap.size w w' := by
  obtain ⟨it, hi, hz0, hz1, hz2⟩ := info_parts nInfoRFrame
  have h1 : (1 : Int) ≤ N := by omega
  have h2 : (N : Int) ≤ 64 := by omega
  have H0 : Hid (New1 256 4 w.heap.size w (w.alloc (.cells #[.slice none 0 0] 254)) (.slice none 0 0) 0) := New1.start _ _ w _
  go_enter Tryz.func75, Tryz.ntmps75
  go_wp2
  go_loopw [5] (fun i wr => ∃ k : Nat, k ≤ N ∧ i = .int .i64 k ∧ ∃ v, New1 256 4 w.heap.size w wr v k) (fun i _ => N - (intOf i).toNat)
  case atStart => exact ⟨0, by omega, rfl, _, H0.out⟩
  case round =>
    obtain ⟨k, hk, rfl, v, hI⟩ := hrel
    have HI := nhide hI
    clear hI H0
    by_cases hlt : k < N
    · have hki : (k : Int) < (N : Int) := by omega
      have hk64 : (k : Int) < 64 := by omega
      have hs := HI.out.size
      have d0 : wr.cell? ⟨w.heap.size, 0, none⟩ = some v := HI.out.cell (by omega)
      obtain ⟨xs, hx⟩ := HI.out.owns 0 rfl
      have HO : Hid (wr.ownsRow (w.heap.size + 1) 256 4 v k xs) := hx
      clear hx
      go_wp2_with (first
        | (at_builtin; refine wpList_append_own_at _ rfl _ _ 252 rfl (w.heap.size + 1) 256 it _ 4 32 Tryz.underlying252 hi hz0 hz1 hz2 rfl (by decide) _ _ _ rfl (HO.out.alloc _) _ 1 1 [.int .i64 0, .int .i64 0, .int .i64 (-1), .int .i64 0] rfl rfl (cells_newN wr [.int .i64 0, .int .i64 0, .int .i64 (-1), .int .i64 0] _) (by simp [Value.oneCell']) (by unfold maxLen; omega) (by omega) (by simp; omega) ?_; intro v1 w1 hown hgrow _ hat; obtain ⟨g1, p1, rfl⟩ := ownsRow_succN hown; have S := New1.step HI.out hown hgrow hat; clear d0; have d1 := S.1; have z1 := S.2.1; have HS1 : Hid (∃ v, New1 256 4 w.heap.size w (w1.setCell ⟨w.heap.size, 0, none⟩ (.slice (some ⟨g1, 0, none⟩) (k + 1) p1)) v (k + 1)) := ⟨_, S.2.2⟩; clear hown hgrow hat S)
        | fail)
      go_roundw
      case rel => exact ⟨k + 1, by omega, by go_num, HS1.out⟩
      case measure => simp [intOf]; omega
    · obtain rfl : k = N := by omega
      go_wp2
      go_ret2
      exact ⟨rfl, HI.out.below⟩
set_option maxRecDepth 100000 in
theorem newTlb_below (r : Int) (w : World) (h0 : 0 ≤ r) (h1 : r ≤ 8) : Calls Tryz.prog 76 #[.int .i64 r] w fun e w' => e = .returned (.tuple #[.pointer (some ⟨w.heap.size, 0, none⟩), .int .i64 0]) ∧ Below w.heap.size w w' := by
  have n0 : ¬ r < 0 := by omega
  have n1 : ¬ 8 < r := by omega
  go_enter Tryz.func76, Tryz.ntmps76
  go_wp2
  go_ret2
  exact ⟨rfl, bal (Below.refl _ _) _⟩
set_option maxRecDepth 100000 in
set_option maxHeartbeats 2000000 in
theorem newMem_below (N : Nat) (w : World) (hN1 : 1 ≤ N) (hN : N ≤ 64) : Calls Tryz.prog 73 #[.int .i64 N] w fun e w' => e = .returned (.tuple #[.pointer (some ⟨w.heap.size, 0, none⟩), .int .i64 0]) ∧ Below w.heap.size w w' := by
  obtain ⟨it, hi, hz0, hz1, hz2⟩ := info_parts nInfoWord
  obtain ⟨jt, hj, hy0, hy1, hy2⟩ := info_parts nInfoWords
  have h1 : (1 : Int) ≤ N := by omega
  have h2 : (N : Int) ≤ 64 := by omega
  have H0 : Hid (New1 249 1 w.heap.size w (w.alloc (.cells #[.slice none 0 0] 248)) (.slice none 0 0) 0) := New1.start _ _ w _
  go_enter Tryz.func73, Tryz.ntmps73
  go_wp2
  go_loopw [5] (fun i wr => ∃ k : Nat, k ≤ N ∧ i = .int .i64 k ∧ ∃ v, New1 249 1 w.heap.size w wr v k) (fun i _ => N - (intOf i).toNat)
  case atStart => exact ⟨0, by omega, rfl, _, H0.out⟩
  case round =>
    obtain ⟨k, hk, rfl, v, hI⟩ := hrel
    have HI := nhide hI
    clear hI H0
    by_cases hlt : k < N
    · have hki : (k : Int) < (N : Int) := by omega
      obtain ⟨wo, hwo⟩ : ∃ wo, wo = wr := ⟨_, rfl⟩
      subst hwo
      go_wp2
      go_loopw [6, 7] (fun u i wi => ∃ j : Nat, j ≤ 36 ∧ i = .int .i64 j ∧ (∃ xs, wi.ownsRow wo.heap.size 104 1 u j xs) ∧ Below wo.heap.size wo wi) (fun _ i _ => 36 - (intOf i).toNat)
      case atStart => exact ⟨0, by omega, rfl, ⟨[], by simp, .inl ⟨rfl, rfl⟩⟩, Below.refl _ _⟩
      case round =>
        obtain ⟨j, hj36, rfl, ⟨xs, hO⟩, hB⟩ := hrel
        have HO := nhide hO
        have HB : Hid (Below wo.heap.size wo wr) := hB
        have hsz := hB.size
        clear hO hB
        by_cases hjl : j < 36
        · have hji : (j : Int) < 36 := by omega
          go_wp2_with (first
            | (at_builtin; refine wpList_append_own_at _ rfl _ _ 249 rfl wo.heap.size 104 it (.int .u64 0) 1 8 Tryz.underlying249 hi hz0 hz1 hz2 rfl (by decide) _ _ _ rfl (HO.out.alloc _) _ 1 1 [.int .u64 0] rfl rfl (cells_newN wr [.int .u64 0] _) (by simp [Value.oneCell']) (by unfold maxLen; omega) (by omega) (by simp; omega) ?_; intro v' w1 hown' hgrow _ _; have HO1 := nhide hown'; have HB1 : Hid (Below wo.heap.size wo w1) := (HB.out.alloc hsz _).grown hgrow (by simp; omega) (own_geN HO.out); clear hown' hgrow)
            | fail)
          go_roundw
          case rel => exact ⟨j + 1, by omega, by go_num, ⟨_, HO1.out⟩, HB1.out⟩
          case measure => simp [intOf]; omega
        · obtain rfl : j = 36 := by omega
          have HK := nhide (HI.out.on HB.out)
          have d0 : wr.cell? ⟨w.heap.size, 0, none⟩ = some v := HK.out.cell (by omega)
          obtain ⟨x, cx, rfl⟩ := ownsRow_succN HO.out
          obtain ⟨ys, hy⟩ := HK.out.owns 0 rfl
          have HY : Hid (wr.ownsRow (w.heap.size + 1) 249 1 v k ys) := hy
          have hs := HK.out.size
          clear hy HI HO
          go_wp2_with (first
            | (at_builtin; refine wpList_append_own_at _ rfl _ _ 246 rfl (w.heap.size + 1) 249 jt (.slice none 0 0) 1 24 Tryz.underlying246 hj hy0 hy1 hy2 rfl (by decide) _ _ _ rfl (HY.out.alloc _) _ 1 1 [.slice (some ⟨x, 0, none⟩) 36 cx] rfl rfl (cells_newN wr [.slice (some ⟨x, 0, none⟩) 36 cx] _) (by simp [Value.oneCell']) (by unfold maxLen; omega) (by omega) (by simp; omega) ?_; intro v1 w1 hown hgrow _ hat; obtain ⟨g1, p1, rfl⟩ := ownsRow_succN hown; have S := New1.step HK.out hown hgrow hat; clear d0; have d1 := S.1; have z1 := S.2.1; have HS1 : Hid (∃ v, New1 249 1 w.heap.size w (w1.setCell ⟨w.heap.size, 0, none⟩ (.slice (some ⟨g1, 0, none⟩) (k + 1) p1)) v (k + 1)) := ⟨_, S.2.2⟩; clear hown hgrow hat S)
            | fail)
          go_roundw
          case rel => exact ⟨k + 1, by omega, by go_num, HS1.out⟩
          case measure => simp [intOf]; omega
    · obtain rfl : k = N := by omega
      go_wp2
      go_ret2
      exact ⟨rfl, HI.out.below⟩
/-- Which cells of the clock are lists. -/
def DC (i : Nat) : Bool := i == 1 || i == 2 || i == 3
theorem DC_iff (i : Nat) : DC i = true → i = 1 ∨ i = 2 ∨ i = 3 := by
  unfold DC
  simp only [Bool.or_eq_true, beq_iff_eq]
  omega
abbrev NewC (B : Nat) (w wr : World) (cs : Nat → Value) (k : Nat → Nat) : Prop := NewL DC (fun _ => 3) (fun _ => 1) 4 B w wr cs k
set_option maxHeartbeats 2000000 in
set_option maxRecDepth 100000 in
theorem newClock_below (N : Nat) (w : World) (hN1 : 1 ≤ N) (hN : N ≤ 4) : Calls Tryz.prog 74 #[.int .i64 N] w fun e w' => e = .returned (.tuple #[.pointer (some ⟨w.heap.size, 0, none⟩), .int .i64 0]) ∧ Below w.heap.size w w' := by
  obtain ⟨it, hi, hz0, hz1, hz2⟩ := info_parts nInfoInt
  have h1 : (1 : Int) ≤ N := by omega
  have h2 : (N : Int) ≤ 4 := by omega
  have H0 : Hid (∃ cs, NewC w.heap.size w (w.alloc (.cells #[.int .i64 0, .slice none 0 0, .slice none 0 0, .slice none 0 0] 251)) cs fun _ => 0) := ⟨fun j => if j = 0 then .int .i64 0 else .slice none 0 0, NewL.start w _ _ (fun j hj => by rcases (show j = 0 ∨ j = 1 ∨ j = 2 ∨ j = 3 by omega) with rfl | rfl | rfl | rfl <;> rfl) (fun i hi => by rcases DC_iff i hi with rfl | rfl | rfl <;> rfl)⟩
  go_enter Tryz.func74, Tryz.ntmps74
  go_wp2
  go_loopw [5] (fun i wr => ∃ k : Nat, k ≤ N ∧ i = .int .i64 k ∧ ∃ cs, NewC w.heap.size w wr cs fun _ => k) (fun i _ => N - (intOf i).toNat)
  case atStart => exact ⟨0, by omega, rfl, H0.out⟩
  case round =>
    obtain ⟨k, hk, rfl, cs, hI⟩ := hrel
    have HI := nhide hI
    clear hI H0
    by_cases hlt : k < N
    · have hki : (k : Int) < (N : Int) := by omega
      have hs := HI.out.size
      have d1 : wr.cell? ⟨w.heap.size, 1, none⟩ = some (cs 1) := HI.out.cell (by omega)
      obtain ⟨xs, hx⟩ := HI.out.owns 1 rfl
      have O1 : Hid (wr.ownsRow (w.heap.size + 1) 3 1 (cs 1) k xs) := hx
      have t1 : True := trivial
      have t2 : 0 = 0 := rfl
      clear hx
      go_wp2_with (first
        | (at_builtin; clear t1; refine wpList_append_own_at _ rfl _ _ 142 rfl (w.heap.size + 1) 3 it (.int .i64 0) 1 8 Tryz.underlying142 hi hz0 hz1 hz2 rfl (by decide) _ _ _ rfl (O1.out.alloc _) _ 1 1 [.int .i64 0] rfl rfl (cells_newN wr [.int .i64 0] _) (by simp [Value.oneCell']) (by unfold maxLen; omega) (by omega) (by simp; omega) ?_; intro vv w1 hown hgrow _ hat; obtain ⟨g1, p1, rfl⟩ := ownsRow_succN hown; have S := NewL.step (i := 1) HI.out rfl hown hgrow hat; clear d1; have e1 : w1.cell? ⟨w.heap.size, 1, none⟩ = some (cs 1) := S.2.1 1 (by omega); have z1 : w1.frozen? ⟨w.heap.size, 1, none⟩ = false := S.2.2.1 1; have d2 : w1.cell? ⟨w.heap.size, 2, none⟩ = some (cs 2) := S.2.1 2 (by omega); have O2 : Hid (∃ xs, (w1.setCell ⟨w.heap.size, 1, none⟩ (.slice (some ⟨g1, 0, none⟩) (k + 1) p1)).ownsRow (w.heap.size + 1) 3 1 (cs 2) k xs) := S.2.2.2.owns 2 rfl; have HS1 : Hid (∃ cs', cs' 2 = cs 2 ∧ cs' 3 = cs 3 ∧ NewC w.heap.size w (w1.setCell ⟨w.heap.size, 1, none⟩ (.slice (some ⟨g1, 0, none⟩) (k + 1) p1)) cs' (fun j => if j = 1 then k + 1 else k)) := (by refine ⟨_, ?_, ?_, S.2.2.2⟩ <;> rfl); obtain ⟨ys, hy⟩ := O2.out; have O2 := nhide hy; clear hy; have hs1 : w.heap.size + 1 ≤ w1.heap.size := (by have := S.2.2.2.size; simpa using this); clear hown hgrow hat S)
        | (at_builtin; clear t2; refine wpList_append_own_at _ rfl _ _ 142 rfl (w.heap.size + 1) 3 it (.int .i64 0) 1 8 Tryz.underlying142 hi hz0 hz1 hz2 rfl (by decide) _ _ _ rfl (O2.out.alloc _) _ 1 1 [.int .i64 (-1)] rfl rfl (fun j u hj => (by have := cells_newN (w1.setCell ⟨w.heap.size, 1, none⟩ (.slice (some ⟨g1, 0, none⟩) (k + 1) p1)) [.int .i64 (-1)] 3 j u hj; simpa using this)) (by simp [Value.oneCell']) (by unfold maxLen; omega) (by omega) (by simp; omega) ?_; intro vv w2 hown hgrow _ hat; obtain ⟨g2, p2, rfl⟩ := ownsRow_succN hown; obtain ⟨cs2, q2, q3, hU⟩ := HS1.out; have S := NewL.step (i := 2) hU rfl hown (by rw [q2]; exact hgrow) (by rw [q2]; exact hat); clear d2 z1; have e2 : w2.cell? ⟨w.heap.size, 2, none⟩ = some (cs 2) := (S.2.1 2 (by omega)).trans (congrArg some q2); have z2 : w2.frozen? ⟨w.heap.size, 2, none⟩ = false := S.2.2.1 2; have d3 : w2.cell? ⟨w.heap.size, 3, none⟩ = some (cs 3) := (S.2.1 3 (by omega)).trans (congrArg some q3); have O3 : Hid (∃ xs, (w2.setCell ⟨w.heap.size, 2, none⟩ (.slice (some ⟨g2, 0, none⟩) (k + 1) p2)).ownsRow (w.heap.size + 1) 3 1 (cs2 3) k xs) := S.2.2.2.owns 3 rfl; rw [q3] at O3; have HS2 : Hid (∃ cs', cs' 3 = cs 3 ∧ NewC w.heap.size w (w2.setCell ⟨w.heap.size, 2, none⟩ (.slice (some ⟨g2, 0, none⟩) (k + 1) p2)) cs' (fun j => if j = 2 then (if j = 1 then k + 1 else k) + 1 else (if j = 1 then k + 1 else k))) := (by refine ⟨_, ?_, S.2.2.2⟩; exact q3); obtain ⟨ys, hy⟩ := O3.out; have O3 := nhide hy; clear hy; have hs2 : w.heap.size + 1 ≤ w2.heap.size := (by have := S.2.2.2.size; simpa using this); clear hown hgrow hat S hU)
        | (at_builtin; refine wpList_append_own_at _ rfl _ _ 142 rfl (w.heap.size + 1) 3 it (.int .i64 0) 1 8 Tryz.underlying142 hi hz0 hz1 hz2 rfl (by decide) _ _ _ rfl (O3.out.alloc _) _ 1 1 [.int .i64 (-1)] rfl rfl (fun j u hj => (by have := cells_newN (w2.setCell ⟨w.heap.size, 2, none⟩ (.slice (some ⟨g2, 0, none⟩) (k + 1) p2)) [.int .i64 (-1)] 3 j u hj; simpa using this)) (by simp [Value.oneCell']) (by unfold maxLen; omega) (by omega) (by simp; omega) ?_; intro vv w3 hown hgrow _ hat; obtain ⟨g3, p3, rfl⟩ := ownsRow_succN hown; obtain ⟨cs3, q3, hU⟩ := HS2.out; have S := NewL.step (i := 3) hU rfl hown (by rw [q3]; exact hgrow) (by rw [q3]; exact hat); clear d3 z2; have e3 : w3.cell? ⟨w.heap.size, 3, none⟩ = some (cs 3) := (S.2.1 3 (by omega)).trans (congrArg some q3); have z3 : w3.frozen? ⟨w.heap.size, 3, none⟩ = false := S.2.2.1 3; have HS3 : Hid (∃ cs', NewC w.heap.size w (w3.setCell ⟨w.heap.size, 3, none⟩ (.slice (some ⟨g3, 0, none⟩) (k + 1) p3)) cs' (fun _ => k + 1)) := ⟨_, S.2.2.2.congr (fun _ _ => rfl) (fun i hi => (by rcases DC_iff i hi with rfl | rfl | rfl <;> exact ⟨by omega, rfl⟩))⟩; clear hown hgrow hat S hU)
        | fail)
      go_roundw
      case rel => exact ⟨k + 1, by omega, by go_num, HS3.out⟩
      case measure => simp [intOf]; omega
    · obtain rfl : k = N := by omega
      go_wp2
      go_ret2
      exact ⟨rfl, HI.out.below⟩
end Go.Proofs.YtcgekcjnaadcmaaGreatDoor.Pvnew

/- The document's machine made anew: that nothing elder has changed is all that is said of it (written by mk_vb.py). -/
namespace Go.Proofs.YtcgekcjnaadcmaaGreatDoor.Pvnew
open Go.Proofs.YtcgekcjnaadcmaaGreatDoor.Pbase
open Go.RowKit
set_option linter.unusedVariables false

set_option maxRecDepth 100000 in
theorem nInfoTl : (Tryz.prog.info? 151).map (fun i => (i.zero, i.size, i.bytes)) = some (some (.pointer none), 1, 8) := by kernel_rfl
set_option maxRecDepth 100000 in
theorem nInfoFl : (Tryz.prog.info? 154).map (fun i => (i.zero, i.size, i.bytes)) = some (some (.pointer none), 1, 8) := by kernel_rfl
/-- A configuration that lies in block D, and what was made behind w. -/
structure Cf (w w' : World) (D N n : Nat) (Q room : Int) : Prop where
  box : w'.heap[D]? = some (.cells #[.int .i64 N, .int .i64 n, .int .i64 Q, .int .i64 room] 46 (0, 0))
  below : Below w.heap.size w w'
section
variable {w w1 w' : World} {D N n : Nat} {Q room : Int}
theorem Cf.on (h : Cf w w1 D N n Q room) (hB : Below w1.heap.size w1 w') : Cf w w' D N n Q room := ⟨(hB.block D (Array.getElem?_eq_some_iff.1 h.box).1).trans h.box, h.below.trans (hB.mono h.below.size)⟩
theorem Cf.cells (h : Cf w w1 D N n Q room) : w1.cell? ⟨D, 0, none⟩ = some (.int .i64 N) ∧ w1.cell? ⟨D, 1, none⟩ = some (.int .i64 n) ∧ w1.cell? ⟨D, 2, none⟩ = some (.int .i64 Q) ∧ w1.cell? ⟨D, 3, none⟩ = some (.int .i64 room) := by
  refine ⟨?_, ?_, ?_, ?_⟩ <;> rw [cell_of_row w1 D _ _ _ _ h.box] <;> rfl
theorem cf_new (w : World) (N n : Nat) (Q room : Int) : Cf w (w.alloc (.cells #[.int .i64 N, .int .i64 n, .int .i64 Q, .int .i64 room] 46)) w.heap.size N n Q room := ⟨heap_alloc_new _ _, bal (Below.refl _ _) _⟩
end
set_option maxRecDepth 100000 in
theorem rcheck_ok (N n : Nat) (Q room : Int) (w : World) (hN1 : 1 ≤ N) (hN : N ≤ 64) (hn1 : 1 ≤ n) (hn : n ≤ 4) (hQ0 : 0 ≤ Q) (hQ : Q ≤ n) (hr0 : 0 ≤ room) (hr : room ≤ 8) : Calls Tryz.prog 70 #[.agg #[.int .i64 N, .int .i64 n, .int .i64 Q, .int .i64 room]] w fun e w' => e = .returned (.int .i64 0) ∧ Below w.heap.size w w' := by
  have HF := nhide (cf_new w N n Q room)
  have f1 : ¬ (N : Int) < 1 := by omega
  have f2 : ¬ (64 : Int) < N := by omega
  have f3 : ¬ (n : Int) < 1 := by omega
  have f4 : ¬ (4 : Int) < n := by omega
  have f5 : ¬ Q < 0 := by omega
  have f6 : ¬ (n : Int) < Q := by omega
  have f7 : ¬ room < 0 := by omega
  have f8 : ¬ (8 : Int) < room := by omega
  clear hN1 hN hn1 hn hQ0 hQ hr0 hr
  go_enter Tryz.func70, Tryz.ntmps70
  go_upto_region 1 with fail
  obtain ⟨c0, c1, c2, c3⟩ := HF.out.cells
  generalize w.alloc _ = w1 at HF c0 c1 c2 c3 ⊢
  generalize w.heap.size = D at HF c0 c1 c2 c3 ⊢
  go_wp2
  go_ret
  exact ⟨rfl, HF.out.below⟩
/-- Which of the machine's cells are lists; of what. -/
def DM (i : Nat) : Bool := i == 2 || i == 3 || i == 7
def etM (i : Nat) : TypeId := if i = 2 then 151 else if i = 3 then 154 else 3
theorem DM_iff (i : Nat) : DM i = true → i = 2 ∨ i = 3 ∨ i = 7 := by
  unfold DM
  simp only [Bool.or_eq_true, beq_iff_eq]
  omega
abbrev NewM (B : Nat) (w wr : World) (cs : Nat → Value) (k : Nat → Nat) : Prop := NewL DM etM (fun _ => 1) 8 B w wr cs k
/-- The machine while it grows: its configuration, its lists. -/
structure Mw (w wr : World) (D N n : Nat) (Q room : Int) (B : Nat) (k : Nat → Nat) : Prop where
  cf : Cf w wr D N n Q room
  lt : D < B
  ge : w.heap.size ≤ B
  m : ∃ w1 cs, Below w.heap.size w w1 ∧ w1.heap.size = B ∧ NewM B w1 wr cs k
section
variable {w wr w' : World} {D N n : Nat} {Q room : Int} {B : Nat} {k : Nat → Nat}
theorem Mw.size (h : Mw w wr D N n Q room B k) : B + 1 ≤ wr.heap.size := by
  obtain ⟨w1, cs, h1, h2, h3⟩ := h.m
  exact h3.size
theorem Mw.on (h : Mw w wr D N n Q room B k) (hB : Below wr.heap.size wr w') : Mw w w' D N n Q room B k := by
  obtain ⟨w1, cs, h1, h2, h3⟩ := h.m
  exact ⟨h.cf.on hB, h.lt, h.ge, w1, cs, h1, h2, h3.on hB⟩
theorem mw_new {w1 : World} {a b : Value} (h : Cf w w1 D N n Q room) (hD : D < w1.heap.size) : Mw w (w1.alloc (.cells #[.pointer none, .pointer none, .slice none 0 0, .slice none 0 0, .pointer none, a, b, .slice none 0 0] 144)) D N n Q room w1.heap.size fun _ => 0 := by
  refine ⟨h.on (bal (Below.refl _ _) _), hD, h.below.size, w1, fun j => (#[.pointer none, .pointer none, .slice none 0 0, .slice none 0 0, .pointer none, a, b, .slice none 0 0] : Array Value)[j]?.getD (.pointer none), h.below, rfl, NewL.start w1 _ _ (fun j hj => ?_) fun i hi => ?_⟩
  · rcases (show j = 0 ∨ j = 1 ∨ j = 2 ∨ j = 3 ∨ j = 4 ∨ j = 5 ∨ j = 6 ∨ j = 7 by omega) with rfl | rfl | rfl | rfl | rfl | rfl | rfl | rfl <;> rfl
  · rcases DM_iff i hi with rfl | rfl | rfl <;> rfl
theorem Mw.put (h : Mw w wr D N n Q room B k) {i : Nat} (hi : DM i = false) (v : Value) : Mw w (wr.setCell ⟨B, i, none⟩ v) D N n Q room B k := by
  obtain ⟨w1, cs, h1, h2, h3⟩ := h.m
  have := h.lt
  exact ⟨⟨(heap_setCell_other _ _ _ _ (by show D ≠ B; omega)).trans h.cf.box, h.cf.below.setCell h.ge _⟩, h.lt, h.ge, w1, _, h1, h2, h3.put hi v⟩
theorem Mw.cell (h : Mw w wr D N n Q room B k) {j : Nat} (hj : j < 8) : (∃ v, wr.cell? ⟨B, j, none⟩ = some v) ∧ wr.frozen? ⟨B, j, none⟩ = false := by
  obtain ⟨w1, cs, h1, h2, h3⟩ := h.m
  exact ⟨⟨_, h3.cell hj⟩, h3.free j⟩
theorem DM_lt {i : Nat} (hi : DM i = true) : i < 8 := by
  have := DM_iff i hi
  omega
/-- A list of the machine, as an append asks it, whatever was made since. -/
theorem Mw.step (h : Mw w wr D N n Q room B k) {i : Nat} (hi : DM i = true) : ∃ v, wr.cell? ⟨B, i, none⟩ = some v ∧ ∃ xs, ∀ wx, Below wr.heap.size wr wx → wx.cell? ⟨B, i, none⟩ = some v ∧ wx.ownsRow (B + 1) (etM i) 1 v (k i) xs ∧
    ∀ o w1 v' ys, w1.ownsRow (B + 1) (etM i) 1 v' (k i + 1) ys → (wx.alloc o).grownBy w1 v.ownBlock → (v'.ownBlock = v.ownBlock ∨ v'.ownBlock = some (wx.alloc o).heap.size) →
      w1.cell? ⟨B, i, none⟩ = some v ∧ w1.frozen? ⟨B, i, none⟩ = false ∧ Mw w (w1.setCell ⟨B, i, none⟩ v') D N n Q room B (fun j => if j = i then k j + 1 else k j) := by
  obtain ⟨w0, cs, h1, h2, h3⟩ := h.m
  obtain ⟨xs, hx⟩ := h3.owns i hi
  have hlt := DM_lt hi
  have hz := h3.size
  refine ⟨cs i, h3.cell hlt, xs, fun wx hB => ?_⟩
  have g3 := h3.on hB
  have hzz := hB.size
  have gx : wx.ownsRow (B + 1) (etM i) 1 (cs i) (k i) xs := ownsRow_onN hx fun j _ hj => hB.block j hj
  refine ⟨g3.cell hlt, gx, fun o w1 v' ys hown hg hat => ?_⟩
  obtain ⟨_, s1, s2, s3⟩ := g3.step hi hown hg hat
  have hb1 : Below (B + 1) wx w1 := ((Below.refl _ _).alloc (by omega) o).grown hg (by simp; omega) (own_geN gx)
  have hDB := h.lt
  have hge := h.ge
  have hcf := h.cf.on hB
  exact ⟨s1 i hlt, s2 i, ⟨⟨(heap_setCell_other _ _ _ _ (by show D ≠ B; omega)).trans ((hb1.block D (by omega)).trans hcf.box), (hcf.below.trans (hb1.mono (by omega))).setCell (by show _ ≤ B; omega) _⟩, hDB, hge, w0, _, h1, h2, s3⟩⟩
theorem Mw.congr {k' : Nat → Nat} (h : Mw w wr D N n Q room B k) (e : ∀ i, DM i = true → k i = k' i) : Mw w wr D N n Q room B k' := by
  obtain ⟨w0, cs, h1, h2, h3⟩ := h.m
  exact ⟨h.cf, h.lt, h.ge, w0, cs, h1, h2, h3.congr (fun _ _ => rfl) fun i hi => ⟨DM_lt hi, e i hi⟩⟩
end
end Go.Proofs.YtcgekcjnaadcmaaGreatDoor.Pvnew

/- The document's machine made anew: its New, for all configurations that are right. -/
namespace Go.Proofs.YtcgekcjnaadcmaaGreatDoor.Pvnew
open Go.Proofs.YtcgekcjnaadcmaaGreatDoor.Pbase
open Go.RowKit
set_option linter.unusedVariables false
set_option linter.unusedSimpArgs false

set_option maxRecDepth 100000 in
set_option maxHeartbeats 4000000 in
theorem rnewM_ok (N n : Nat) (Q room : Int) (w : World) (hN1 : 1 ≤ N) (hN : N ≤ 64) (hn1 : 1 ≤ n) (hn : n ≤ 4) (hQ0 : 0 ≤ Q) (hQ : Q ≤ n) (hr0 : 0 ≤ room) (hr : room ≤ 8) : Calls Tryz.prog 19 #[.agg #[.int .i64 N, .int .i64 n, .int .i64 Q, .int .i64 room]] w fun e w' => ∃ q, e = .returned (.tuple #[.pointer (some ⟨q, 0, none⟩), .int .i64 0]) ∧ Below w.heap.size w w' := by
  obtain ⟨it, hi, hz0, hz1, hz2⟩ := info_parts nInfoInt
  obtain ⟨jt, hj, hy0, hy1, hy2⟩ := info_parts nInfoTl
  obtain ⟨kt, hkt, hx0, hx1, hx2⟩ := info_parts nInfoFl
  have HF := nhide (cf_new w N n Q room)
  have HK : Hid (∀ wc, Calls Tryz.prog 70 #[.agg #[.int .i64 N, .int .i64 n, .int .i64 Q, .int .i64 room]] wc fun e w' => e = .returned (.int .i64 0) ∧ Below wc.heap.size wc w') := fun wc => rcheck_ok N n Q room wc hN1 hN hn1 hn hQ0 hQ hr0 hr
  have HA : Hid (∀ wc, Calls Tryz.prog 73 #[.int .i64 N] wc fun e w' => e = .returned (.tuple #[.pointer (some ⟨wc.heap.size, 0, none⟩), .int .i64 0]) ∧ Below wc.heap.size wc w') := fun wc => newMem_below N wc hN1 hN
  have HC : Hid (∀ wc, Calls Tryz.prog 74 #[.int .i64 n] wc fun e w' => e = .returned (.tuple #[.pointer (some ⟨wc.heap.size, 0, none⟩), .int .i64 0]) ∧ Below wc.heap.size wc w') := fun wc => newClock_below n wc hn1 hn
  have HT : Hid (∀ wc, Calls Tryz.prog 75 #[.int .i64 N] wc fun e w' => e = .returned (.tuple #[.pointer (some ⟨wc.heap.size, 0, none⟩), .int .i64 0]) ∧ Below wc.heap.size wc w') := fun wc => newTyp_below N wc hN1 hN
  have HL : Hid (∀ wc, Calls Tryz.prog 76 #[.int .i64 room] wc fun e w' => e = .returned (.tuple #[.pointer (some ⟨wc.heap.size, 0, none⟩), .int .i64 0]) ∧ Below wc.heap.size wc w') := fun wc => newTlb_below room wc hr0 hr
  have hD : w.heap.size < (w.alloc (.cells #[.int .i64 N, .int .i64 n, .int .i64 Q, .int .i64 room] 46)).heap.size := by simp
  have HD := nhide hD
  clear hN1 hN hQ0 hQ hr0 hr hD
  go_enter Tryz.func19, Tryz.ntmps19
  go_upto_region 1 with fail
  obtain ⟨c0, c1, c2, c3⟩ := HF.out.cells
  generalize w.alloc _ = w1 at HF HD c0 c1 c2 c3 ⊢
  generalize hDD : w.heap.size = D at HF HD c0 c1 c2 c3 ⊢
  clear hDD
  go_upto_region 4 with (first
    | (go_at_call 70; refine (HK.out _).mono ?_; rintro e1 w2 ⟨rfl, hb⟩; have H1 := nhide (HF.out.on hb); have HD1 := nhide (Nat.lt_of_lt_of_le HD.out hb.size); clear hb HK HF HD c0 c1 c2 c3)
    | (go_at_call 71; refine (newLive_below _).mono ?_; rintro e1 w3 ⟨rfl, hb⟩; have H2 := nhide (H1.out.on hb); have HD2 := nhide (Nat.lt_of_lt_of_le HD1.out hb.size); clear hb H1 HD1)
    | (go_at_call 72; refine (newHw_below _).mono ?_; rintro e1 w4 ⟨rfl, hb⟩; have H3 := nhide (H2.out.on hb); have HD3 := nhide (Nat.lt_of_lt_of_le HD2.out hb.size); clear hb H2 HD2)
    | fail)
  have M0 := nhide (mw_new (a := .pointer (some ⟨w2.heap.size, 0, none⟩)) (b := .pointer (some ⟨w3.heap.size, 0, none⟩)) H3.out HD3.out)
  clear H3 HD3
  generalize w4.alloc _ = w5 at M0 ⊢
  generalize w4.heap.size = B at M0 ⊢
  obtain ⟨c0, c1, c2, c3⟩ := M0.out.cf.cells
  go_upto_region 5 with (first
    | (go_at_call 73; refine (HA.out _).mono ?_; rintro e1 w6 ⟨rfl, hb⟩; have M1 := nhide (M0.out.on hb); clear hb HA M0 c0 c1 c2 c3)
    | fail)
  obtain ⟨c0, c1, c2, c3⟩ := M1.out.cf.cells
  go_upto_region 6 with (first
    | (go_at_call 74; refine (HC.out _).mono ?_; rintro e1 w7 ⟨rfl, hb⟩; have M2 := nhide (M1.out.on hb); clear hb HC M1 c0 c1 c2 c3)
    | fail)
  obtain ⟨c0, c1, c2, c3⟩ := M2.out.cf.cells
  go_upto_region 7 with (first
    | (go_at_call 75; refine (HT.out _).mono ?_; rintro e1 w8 ⟨rfl, hb⟩; have M3 := nhide (M2.out.on hb); clear hb HT M2 c0 c1 c2 c3)
    | fail)
  obtain ⟨⟨v0, d0⟩, z0⟩ := M3.out.cell (j := 0) (by omega)
  go_upto_region 8 with fail
  have M4 := nhide (M3.out.put (i := 0) rfl (.pointer (some ⟨w5.heap.size, 0, none⟩)))
  clear M3 d0 z0
  generalize w8.setCell _ _ = w9 at M4 ⊢
  obtain ⟨⟨v1, d0⟩, z0⟩ := M4.out.cell (j := 1) (by omega)
  go_upto_region 9 with fail
  have M5 := nhide (M4.out.put (i := 1) rfl (.pointer (some ⟨w6.heap.size, 0, none⟩)))
  clear M4 d0 z0
  generalize w9.setCell _ _ = w10 at M5 ⊢
  obtain ⟨⟨v4, d0⟩, z0⟩ := M5.out.cell (j := 4) (by omega)
  go_upto_region 10 with fail
  have M6 := nhide (M5.out.put (i := 4) rfl (.pointer (some ⟨w7.heap.size, 0, none⟩)))
  clear M5 d0 z0
  generalize w10.setCell _ _ = w11 at M6 ⊢
  go_wp2_with fail
  go_loopw [11] (fun i wr => ∃ k : Nat, k ≤ n ∧ i = .int .i64 k ∧ Mw w wr D N n Q room B fun _ => k) (fun i _ => n - (intOf i).toNat)
  case atStart => exact ⟨0, by omega, rfl, M6.out⟩
  case round =>
    obtain ⟨k, hk, rfl, hI⟩ := hrel
    have HI := nhide hI
    clear hI M6
    obtain ⟨c0, c1, c2, c3⟩ := HI.out.cf.cells
    by_cases hlt : k < n
    · have hki : (k : Int) < (n : Int) := by omega
      go_upto_region 14 with (first
        | (go_at_call 76; refine (HL.out _).mono ?_; rintro e1 v1 ⟨rfl, hb⟩; have M1 := nhide (HI.out.on hb); clear hb HL HI c0 c1 c2 c3)
        | fail)
      obtain ⟨v, d1, xs, hS⟩ := M1.out.step (i := 2) rfl
      obtain ⟨_, hO, hT⟩ := hS _ (Below.refl _ _)
      have O := nhide hO
      have T : Hid (∀ o w1 v' ys, w1.ownsRow (B + 1) 151 1 v' (k + 1) ys → (v1.alloc o).grownBy w1 v.ownBlock → (v'.ownBlock = v.ownBlock ∨ v'.ownBlock = some (v1.alloc o).heap.size) → w1.cell? ⟨B, 2, none⟩ = some v ∧ w1.frozen? ⟨B, 2, none⟩ = false ∧ Mw w (w1.setCell ⟨B, 2, none⟩ v') D N n Q room B (fun j => if j = 2 then k + 1 else k)) := hT
      have hs := M1.out.size
      clear hS hO hT
      go_upto_region 15 with (first
        | (at_builtin; refine wpList_append_own_at _ rfl _ _ 139 rfl (B + 1) 151 jt _ 1 8 Tryz.underlying139 hj hy0 hy1 hy2 rfl (by decide) _ _ _ rfl (O.out.alloc _) _ 1 1 [.pointer (some ⟨wr.heap.size, 0, none⟩)] rfl rfl (cells_newN v1 [.pointer (some ⟨wr.heap.size, 0, none⟩)] _) (by simp [Value.oneCell']) (by unfold maxLen; omega) (by omega) (by simp; omega) ?_; intro vv u1 hown hgrow _ hat; obtain ⟨g1, p1, rfl⟩ := ownsRow_succN hown; have S := T.out _ _ _ _ hown hgrow hat; clear d1; have d1 := S.1; have z1 := S.2.1; have M2 := nhide S.2.2; clear hown hgrow hat S T O M1)
        | fail)
      clear d1 z1 hs
      generalize u1.setCell _ _ = u2 at M2 ⊢
      obtain ⟨v, d1, xs, hS⟩ := M2.out.step (i := 3) rfl
      have hs := M2.out.size
      have T : Hid (∀ wx, Below u2.heap.size u2 wx → wx.cell? ⟨B, 3, none⟩ = some v ∧ wx.ownsRow (B + 1) 154 1 v k xs ∧ ∀ o w1 v' ys, w1.ownsRow (B + 1) 154 1 v' (k + 1) ys → (wx.alloc o).grownBy w1 v.ownBlock → (v'.ownBlock = v.ownBlock ∨ v'.ownBlock = some (wx.alloc o).heap.size) → w1.cell? ⟨B, 3, none⟩ = some v ∧ w1.frozen? ⟨B, 3, none⟩ = false ∧ Mw w (w1.setCell ⟨B, 3, none⟩ v') D N n Q room B (fun j => if j = 3 then (if j = 2 then k + 1 else k) + 1 else (if j = 2 then k + 1 else k))) := hS
      clear hS
      go_region_law (first
        | (go_simp; go_at_call 77; refine (newRegs_below _).mono ?_; rintro e1 u3 ⟨rfl, hb⟩; have HB3 : Hid (Below u2.heap.size u2 u3) := (Below.refl _ _).drew.trans hb; have d2 : u3.cell? ⟨B, 3, none⟩ = some v := (T.out _ HB3.out).1; have d4 : ∀ o, (u3.alloc o).cell? ⟨B, 3, none⟩ = some v := (fun o => (T.out _ (bal HB3.out o)).1); have hs3 : B + 1 ≤ u3.heap.size := Nat.le_trans hs HB3.out.size; clear hb)
        | (refine step_append_lies _ rfl (.tmp 77)  (.tmp 79) 140 rfl (B + 1) 154 kt _ 1 8 Tryz.underlying140 hkt hx0 hx1 hx2 rfl (by decide) v k xs (by simp [Act.eval, Act.put]) ((T.out _ HB3.out).2.1.alloc _) ⟨u3.heap.size, 0, none⟩ 1 1 [.pointer (some ⟨u2.heap.size, 0, none⟩)] (by simp [Act.eval, Act.put]) rfl (cells_newN u3 [.pointer (some ⟨u2.heap.size, 0, none⟩)] _) (by simp [Value.oneCell']) (by omega) (by unfold maxLen; omega) (by omega) (by simp; omega) _ rfl ?_; intro g2 p2 u4 hown hgrow hat hlt2; have S := (T.out _ HB3.out).2.2 _ _ _ _ hown hgrow (hat.elim (fun h => .inl (by rw [h]; rfl)) (fun h => .inr (by rw [h]; rfl))); clear d1 d2 d4; have d3 := S.1; have z3 := S.2.1; have M3 := nhide S.2.2; clear hown hgrow hat hlt2 S T M2)
        | fail)
      all_goals
        clear d3 z3 hs hs3 HB3
        generalize u4.setCell _ _ = u5 at M3 ⊢
        obtain ⟨v, d1, xs, hS⟩ := M3.out.step (i := 7) rfl
        obtain ⟨_, hO, hT⟩ := hS _ (Below.refl _ _)
        have O : Hid (u5.ownsRow (B + 1) 3 1 v k xs) := hO
        have T : Hid (∀ o w1 v' ys, w1.ownsRow (B + 1) 3 1 v' (k + 1) ys → (u5.alloc o).grownBy w1 v.ownBlock → (v'.ownBlock = v.ownBlock ∨ v'.ownBlock = some (u5.alloc o).heap.size) → w1.cell? ⟨B, 7, none⟩ = some v ∧ w1.frozen? ⟨B, 7, none⟩ = false ∧ Mw w (w1.setCell ⟨B, 7, none⟩ v') D N n Q room B (fun _ => k + 1)) := fun o w1 v' ys h1 h2 h3 => by
          obtain ⟨q1, q2, q3⟩ := hT o w1 v' ys h1 h2 h3
          exact ⟨q1, q2, q3.congr fun i hi => by rcases DM_iff i hi with rfl | rfl | rfl <;> rfl⟩
        have hs := M3.out.size
        clear hS hO hT
        go_wp2_with (first
          | (at_builtin; refine wpList_append_own_at _ rfl _ _ 142 rfl (B + 1) 3 it _ 1 8 Tryz.underlying142 hi hz0 hz1 hz2 rfl (by decide) _ _ _ rfl (O.out.alloc _) _ 1 1 [.int .i64 (-1)] rfl rfl (cells_newN u5 [.int .i64 (-1)] _) (by simp [Value.oneCell']) (by unfold maxLen; omega) (by omega) (by simp; omega) ?_; intro vv u6 hown hgrow _ hat; obtain ⟨g3, p3, rfl⟩ := ownsRow_succN hown; have S := T.out _ _ _ _ hown hgrow hat; clear d1; have d1 := S.1; have z1 := S.2.1; have M4 := nhide S.2.2; clear hown hgrow hat S T O M3)
          | fail)
        go_roundw
        case rel => exact ⟨k + 1, by omega, by go_num, M4.out⟩
        case measure => simp [intOf]; omega
    · obtain rfl : k = n := by omega
      have n1 : ¬ (k : Int) < k := by omega
      go_wp2
      go_ret2
      first
        | exact ⟨_, rfl, HI.out.cf.below⟩
        | exact ⟨⟨_, rfl⟩, HI.out.cf.below⟩
end Go.Proofs.YtcgekcjnaadcmaaGreatDoor.Pvnew
