/- The document's Store and Put once more: blocks that hold numbers of a capability stay as they were. -/
import Derived.Test.YtgcaodfcodalfaaGreatDoorCtbR
namespace Go.Proofs.YtgcaodfcodalfaaGreatDoor.Pcaptbl
open Go.Proofs.YtgcaodfcodalfaaGreatDoor.Pbase Go.Proofs.YtgcaodfcodalfaaGreatDoor.Pmem Go.Proofs.YtgcaodfcodalfaaGreatDoor.Pradix Go.Proofs.YtgcaodfcodalfaaGreatDoor.Pslot
open Go.RowKit
set_option linter.unusedVariables false

/-- Blocks that begin with a number stay. -/
def Keep (w w' : World) : Prop := w.heap.size ≤ w'.heap.size ∧ ∀ (B : Nat) (z : Int), w.cell? ⟨B, 0, none⟩ = some (.int .i64 z) → w'.heap[B]? = w.heap[B]?
theorem Keep.refl (w : World) : Keep w w := ⟨Nat.le_refl _, fun _ _ _ => rfl⟩
theorem Keep.trans {a b c : World} (h : Keep a b) (k : Keep b c) : Keep a c := ⟨Nat.le_trans h.1 k.1, fun B z hB => (k.2 B z ((World.cell?_of_block (w := a) (h.2 B z hB)).trans hB)).trans (h.2 B z hB)⟩
theorem Keep.of_below {w w' : World} (h : Below w.heap.size w w') : Keep w w' := ⟨h.size, fun B z hB => h.block B (World.block_lt_of_cell? w _ hB)⟩
theorem Keep.cell {w w' : World} (h : Keep w w') {B : Nat} {z : Int} (hB : w.cell? ⟨B, 0, none⟩ = some (.int .i64 z)) (j : Nat) : w'.cell? ⟨B, j, none⟩ = w.cell? ⟨B, j, none⟩ := World.cell?_of_block (w := w) (h.2 B z hB)
theorem Keep.box {w w' : World} (h : Keep w w') {B : Nat} {k r t l e a : Int} (x : Pcap.Box6 w B k r t l e a) : Pcap.Box6 w' B k r t l e a :=
  ⟨Nat.lt_of_lt_of_le x.lt h.1, (h.cell x.c0 0).trans x.c0, (h.cell x.c0 1).trans x.c1, (h.cell x.c0 2).trans x.c2, (h.cell x.c0 3).trans x.c3, (h.cell x.c0 4).trans x.c4, (h.cell x.c0 5).trans x.c5, fun j => (World.frozen?_of_block (w := w) (h.2 B k x.c0)).trans (x.fz j)⟩
theorem keep_store {w : World} {x j : Nat} {m : Int} (hm : w.cell? ⟨x, 0, none⟩ = some (.int .u64 m)) (v : Value) : Keep w (w.setCell ⟨x, j, none⟩ v) :=
  ⟨by rw [World.size_setCell]; exact Nat.le_refl _, fun B z hB => heap_setCell_other _ _ _ _ fun e => by rw [e, hm] at hB; cases hB⟩
theorem kstore_ok (base p N f a : Nat) (v : Int) (M : Nat → Nat → Int) (w : World) (hf : f < N) (ha : a < 36) (hN : N ≤ 64) (hR : RefIs w base p N M) :
    Calls Tryz.prog 11 #[.pointer (some ⟨p, 0, none⟩), .int .i64 f, .int .i64 a, .int .u64 v] w fun e w' => e = .returned (.int .i64 0) ∧ RefIs w' base p N (fun h b => if h = f ∧ b = a then v else M h b) ∧ Below base w w' ∧ Keep w w' := by
  obtain ⟨g, cap, r, c, hp, hg0, hw0, _, _⟩ := hR.parts (by omega)
  have hg := hg0 f hf
  obtain ⟨hw, hz⟩ := hw0 f a hf ha
  have hok := okF_nat hf
  have hfi : (f : Int) < (N : Int) := by omega
  have hai : (a : Int) < 36 := by omega
  have S := hR.store hf ha hp hg v
  have HS : Hid (RefIs (w.setCell ⟨r f, a, none⟩ (.int .u64 v)) base p N (fun h b => if h = f ∧ b = a then v else M h b) ∧ Below base w (w.setCell ⟨r f, a, none⟩ (.int .u64 v)) ∧ Keep w (w.setCell ⟨r f, a, none⟩ (.int .u64 v))) := ⟨S.1, (Below.refl _ _).setCell S.2 _, keep_store (hw0 f 0 hf (by omega)).1 _⟩
  obtain ⟨x, hx⟩ : ∃ x, x = r f := ⟨_, rfl⟩
  obtain ⟨y, hy⟩ : ∃ y, y = c f := ⟨_, rfl⟩
  rw [← hx] at hg hw hz HS
  rw [← hy] at hg
  obtain ⟨m, hm⟩ : ∃ m, m = M f a := ⟨_, rfl⟩
  rw [← hm] at hw
  clear hg0 hw0 hR hm S hx hy
  go_enter Tryz.func11, Tryz.ntmps11
  go_wp2_with (go_at_call 32; refine (is_any p g cap N f _ hN hp).mono ?_; rintro e w' ⟨rfl, rfl⟩)
  go_ret
  exact ⟨rfl, HS.out⟩
theorem kstore_any (base p N : Nat) (f a v : Int) (M : Nat → Nat → Int) (w : World) (hN1 : 1 ≤ N) (hN : N ≤ 64) (hR : RefIs w base p N M) :
    Calls Tryz.prog 11 #[.pointer (some ⟨p, 0, none⟩), .int .i64 f, .int .i64 a, .int .u64 v] w fun e w' => e = .returned (.int .i64 (errW N f a)) ∧ RefIs w' base p N (stW N M f a v) ∧ Below base w w' ∧ Keep w w' := by
  cases h : okF N f
  · simp only [stW, errW, okW, h, Bool.false_and, Bool.false_eq_true, if_false]
    exact (rstore_badF base p N f a v M w h hN1 hN hR).mono fun _ _ ⟨h1, h2⟩ => ⟨h1, by rw [h2]; exact hR, by rw [h2]; exact ⟨Below.refl _ _, Keep.refl _⟩⟩
  · obtain ⟨c, rfl, hc⟩ := okF_split h
    by_cases ha : 0 ≤ a ∧ a < 36
    · obtain ⟨d, rfl⟩ := Int.eq_ofNat_of_zero_le ha.1
      have : okW N (c : Int) (d : Int) = true := by simp [okW, h]; omega
      simp only [stW, errW, this, if_true, Int.toNat_natCast]
      exact kstore_ok base p N c d v M w hc (by omega) hN hR
    · have : okW N (c : Int) a = false := by simp [okW, h]; omega
      simp only [stW, errW, this, Bool.false_eq_true, if_false]
      exact (rstore_badA base p N c a v M w hc ha hN hR).mono fun _ _ ⟨h1, h2⟩ => ⟨h1, by rw [h2]; exact hR, by rw [h2]; exact ⟨Below.refl _ _, Keep.refl _⟩⟩
set_option maxRecDepth 100000 in
set_option maxHeartbeats 1000000 in
theorem kput_ok (base q N n : Nat) (f k r t l e a : Int) (M : Nat → Nat → Int) (w : World) (hN1 : 1 ≤ N) (hN : N ≤ 64) (hR : RefIs w base q N M) (hn : n < 16) (hr : Pcap.Rt k r t l e a) :
    Calls Tryz.prog 41 #[.pointer (some ⟨q, 0, none⟩), .int .i64 f, .int .i64 n, .agg #[.int .i64 k, .int .i64 r, .int .i64 t, .int .i64 l, .int .i64 e, .int .i64 a]] w fun x w' => x = .returned (.int .i64 (errF N f)) ∧ RefIs w' base q N (stW N (stW N M f (4 + 2 * (n : Int)) (Pcap.putW k r t l e a)) f (4 + 2 * (n : Int) + 1) (Pcap.putA k r t l e a)) ∧ Below base w w' ∧ Keep w w' := by
  have HI : Hid (Rf w (w.alloc (.cells #[.int .i64 k, .int .i64 r, .int .i64 t, .int .i64 l, .int .i64 e, .int .i64 a] 32)) base q N M k r t l e a) := rf_new hR k r t l e a 32
  have hle := RefIs_le hR
  have hc : Pcap.chk k r t l e a = 0 := Pcap.chk_yes hr
  have e1 := err_lo (N := N) f hn
  have e2 := err_hi (N := N) f hn
  have h1 : ¬ (n : Int) < 0 := by omega
  have h2 : ¬ 16 ≤ (n : Int) := by omega
  have h2' : ¬ 16 ≤ n := by omega
  have hz : errF N f = 0 ∨ (errF N f = 1 ∧ ∀ c v M', stW N M' f c v = M') := by
    cases hf : okF N f
    · exact .inr ⟨by simp [errF, hf], fun c v M' => by simp [stW, okW, hf]⟩
    · exact .inl (by simp [errF, hf])
  have HC : Hid (∀ wc, Calls Tryz.prog 74 #[.agg #[.int .i64 k, .int .i64 r, .int .i64 t, .int .i64 l, .int .i64 e, .int .i64 a]] wc fun x w' => x = .returned (.tuple #[.int .u64 (Pcap.putW k r t l e a), .int .u64 (Pcap.putA k r t l e a), .int .i64 0]) ∧ Below wc.heap.size wc w') := fun wc => by
    have := Pcap.rput_any k r t l e a wc
    rwa [hc] at this
  generalize Pcap.putW k r t l e a = x at HC ⊢
  generalize Pcap.putA k r t l e a = y at HC ⊢
  clear hR hc hr
  have t1 : True := trivial
  have HL : Hid (base ≤ w.heap.size) := hle
  clear hle
  rcases hz with hz | ⟨hz, hM⟩
  · rw [hz] at e1 e2 ⊢
    clear hz
    go_enter Tryz.func41, Tryz.ntmps41
    go_upto_region 3 with fail
    generalize w.alloc _ = v1 at HI ⊢
    have x0 := HI.out.box.c0
    have x1 := HI.out.box.c1
    have x2 := HI.out.box.c2
    have x3 := HI.out.box.c3
    have x4 := HI.out.box.c4
    have x5 := HI.out.box.c5
    go_wp2_with (first
      | (go_at_call 74; refine (HC.out _).mono ?_; rintro r2 w2 ⟨rfl, hb2⟩; have H2 : Hid (Rf w w2 base q N M k r t l e a) := HI.out.on hb2; clear hb2 x0 x1 x2 x3 x4 x5 HI)
      | (go_at_call 11; clear t1; refine (kstore_any base q N f (4 + 2 * (n : Int)) x M _ hN1 hN H2.out.ref).mono ?_; rintro r3 w3 ⟨rfl, hR3, hB3, hK3⟩; rw [e1]; have H3 : Hid (RefIs w3 base q N (stW N M f (4 + 2 * (n : Int)) x) ∧ Below base w w3 ∧ Keep w w3) := ⟨hR3, (H2.out.below.mono HL.out).trans hB3, (Keep.of_below H2.out.below).trans hK3⟩; clear hR3 hB3 hK3 e1)
      | (go_at_call 11; refine (kstore_any base q N f (4 + 2 * (n : Int) + 1) y _ _ hN1 hN H3.out.1).mono ?_; rintro r4 w4 ⟨rfl, hR4, hB4, hK4⟩; rw [e2]; have H4 : Hid (RefIs w4 base q N (stW N (stW N M f (4 + 2 * (n : Int)) x) f (4 + 2 * (n : Int) + 1) y) ∧ Below base w w4 ∧ Keep w w4) := ⟨hR4, H3.out.2.1.trans hB4, H3.out.2.2.trans hK4⟩; clear hR4 hB4 hK4)
      | fail)
    go_ret
    exact ⟨rfl, H4.out⟩
  · rw [hM, hM, hz]
    rw [hz] at e1
    clear hz e2
    go_enter Tryz.func41, Tryz.ntmps41
    go_upto_region 3 with fail
    generalize w.alloc _ = v1 at HI ⊢
    have x0 := HI.out.box.c0
    have x1 := HI.out.box.c1
    have x2 := HI.out.box.c2
    have x3 := HI.out.box.c3
    have x4 := HI.out.box.c4
    have x5 := HI.out.box.c5
    go_wp2_with (first
      | (go_at_call 74; refine (HC.out _).mono ?_; rintro r2 w2 ⟨rfl, hb2⟩; have H2 : Hid (Rf w w2 base q N M k r t l e a) := HI.out.on hb2; clear hb2 x0 x1 x2 x3 x4 x5 HI)
      | (go_at_call 11; clear t1; refine (kstore_any base q N f (4 + 2 * (n : Int)) x M _ hN1 hN H2.out.ref).mono ?_; rintro r3 w3 ⟨rfl, hR3, hB3, hK3⟩; rw [e1]; rw [hM] at hR3; have H3 : Hid (RefIs w3 base q N M ∧ Below base w w3 ∧ Keep w w3) := ⟨hR3, (H2.out.below.mono HL.out).trans hB3, (Keep.of_below H2.out.below).trans hK3⟩; clear hR3 hB3 hK3 e1)
      | fail)
    go_ret
    exact ⟨rfl, H3.out⟩
theorem kput_any (base q N : Nat) (f i k r t l e a : Int) (M : Nat → Nat → Int) (w : World) (hN1 : 1 ≤ N) (hN : N ≤ 64) (hR : RefIs w base q N M) :
    Calls Tryz.prog 41 #[.pointer (some ⟨q, 0, none⟩), .int .i64 f, .int .i64 i, .agg #[.int .i64 k, .int .i64 r, .int .i64 t, .int .i64 l, .int .i64 e, .int .i64 a]] w fun x w' => x = .returned (.int .i64 (pE N f i k r t l e a)) ∧ RefIs w' base q N (pM N M f i k r t l e a) ∧ Below base w w' ∧ Keep w w' := by
  by_cases h : okS i = true ∧ Pcap.Rt k r t l e a
  · obtain ⟨hi, hr⟩ := h
    obtain ⟨n, rfl, hn⟩ := okS_split hi
    have e1 : pE N f n k r t l e a = errF N f := by simp [pE, hi, Pcap.rtB_yes hr, errF]
    have e2 : pM N M f n k r t l e a = stW N (stW N M f (4 + 2 * (n : Int)) (Pcap.putW k r t l e a)) f (4 + 2 * (n : Int) + 1) (Pcap.putA k r t l e a) := by
      simp only [pM, hi, Pcap.rtB_yes hr, Bool.and_self, if_true]
    rw [e1, e2]
    exact kput_ok base q N n f k r t l e a M w hN1 hN hR hn hr
  · have hb : okS i = false ∨ ¬ Pcap.Rt k r t l e a := by
      cases hi : okS i
      · exact .inl rfl
      · exact .inr fun hr => h ⟨hi, hr⟩
    have hz : (okS i && Pcap.rtB k r t l e a) = false := by
      rcases hb with hb | hb
      · simp [hb]
      · simp [Pcap.rtB_no hb]
    have e1 : pE N f i k r t l e a = 1 := by simp [pE, hz]
    have e2 : pM N M f i k r t l e a = M := by simp [pM, hz]
    rw [e1, e2]
    exact (rsput_bad base q N f i k r t l e a M w hR hb).mono fun x w' ⟨h1, h2⟩ => ⟨h1, hR.grown h2, h2.mono (RefIs_le hR), Keep.of_below h2⟩
end Go.Proofs.YtgcaodfcodalfaaGreatDoor.Pcaptbl
