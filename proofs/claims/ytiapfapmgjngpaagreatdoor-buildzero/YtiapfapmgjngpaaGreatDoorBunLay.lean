/- Texts on finished packages, joined. -/
import Derived.Test.YtiapfapmgjngpaaGreatDoorBunHead
import Derived.Test.YtiapfapmgjngpaaGreatDoorBunMem
import Derived.Test.YtiapfapmgjngpaaGreatDoorBunField
import Derived.OwnWalk
import Derived.BigRegion
import Derived.Deep.RegionHeld3
import Derived.Test.YtiapfapmgjngpaaGreatDoorBunBase

/- Plain words on numbers laid into a frame behind its head (stages 17 to 22), and on numbers as words. No program is named here. -/
namespace Go.Proofs.YtiapfapmgjngpaaGreatDoor.Play
open Go.Proofs.YtiapfapmgjngpaaGreatDoor.Pbase Go.Proofs.YtiapfapmgjngpaaGreatDoor.Pmem
open Go.RowKit
set_option linter.unusedVariables false

theorem rhide {p : Prop} (h : p) : Hid p := h
/-! ### numbers laid behind a head -/
/-- The words l from word 4 of frame f on. -/
def layF (N : Nat) (M : Nat → Nat → Int) (f : Int) (l : List Int) : Nat → Nat → Int := if okF N f = true then fun g b => if g = f.toNat ∧ 4 ≤ b ∧ b < 4 + l.length then l[b - 4]?.getD 0 else M g b else M
theorem lay_nil (N : Nat) (M : Nat → Nat → Int) (f : Int) : layF N M f [] = M := by
  unfold layF
  split
  · funext g b
    rw [if_neg (by rintro ⟨_, h1, h2⟩; simp at h2; omega)]
  · rfl
theorem lay_bad {N : Nat} {f : Int} (h : okF N f = false) (M : Nat → Nat → Int) (l : List Int) : layF N M f l = M := by
  unfold layF
  rw [if_neg (by rw [h]; decide)]
/-- One word more. -/
theorem lay_step {N : Nat} {M : Nat → Nat → Int} {f : Int} {l : List Int} (hl : l.length < 32) (x : Int) : stW N (layF N M f l) f (4 + (l.length : Int)) x = layF N M f (l ++ [x]) := by
  cases hf : okF N f
  · rw [lay_bad hf, lay_bad hf]
    unfold stW okW
    rw [hf]
    rfl
  · have hk : okW N f (4 + (l.length : Int)) = true := by unfold okW; rw [hf]; simp; omega
    unfold stW layF
    rw [if_pos hk, if_pos hf, if_pos hf]
    funext g b
    have e : (4 + (l.length : Int)).toNat = 4 + l.length := by omega
    rw [e, List.length_append, List.length_singleton]
    by_cases hg : g = f.toNat
    · by_cases hb : b = 4 + l.length
      · subst hb
        rw [if_pos ⟨hg, rfl⟩, if_pos ⟨hg, by omega, by omega⟩]
        simp
      · rw [if_neg (fun h => hb h.2)]
        by_cases hr : 4 ≤ b ∧ b < 4 + l.length
        · rw [if_pos ⟨hg, hr⟩, if_pos ⟨hg, by omega, by omega⟩, List.getElem?_append_left (by omega)]
        · rw [if_neg (fun h => hr h.2), if_neg (fun h => hr ⟨h.2.1, by omega⟩)]
    · rw [if_neg (fun h => hg h.1), if_neg (fun h => hg h.1), if_neg (fun h => hg h.1)]
theorem lay_own {N f : Nat} {M : Nat → Nat → Int} {l : List Int} (hf : f < N) {i : Nat} (hi : i < l.length) : layF N M f l f (4 + i) = l[i]?.getD 0 := by
  unfold layF
  rw [if_pos (okF_nat hf)]
  rw [if_pos ⟨by simp, by omega, by omega⟩, show 4 + i - 4 = i by omega]
theorem lay_out {N : Nat} {M : Nat → Nat → Int} {f : Int} {l : List Int} {g b : Nat} (h : (g : Int) ≠ f ∨ b < 4 ∨ 4 + l.length ≤ b) : layF N M f l g b = M g b := by
  unfold layF
  split
  · rename_i hf
    have hf' : 0 ≤ f := (okF_yes hf).1
    dsimp only
    rw [if_neg]
    rintro ⟨h1, h2, h3⟩
    rcases h with h | h | h <;> omega
  · rfl
theorem fit_lay {M : Nat → Nat → Int} (h : Fit M) (N : Nat) (f : Int) {l : List Int} (hl : ∀ x ∈ l, 0 ≤ x ∧ x ≤ 18446744073709551615) : Fit (layF N M f l) := by
  intro g b
  unfold layF
  split
  · dsimp only
    split
    · rename_i hb
      have hlt : b - 4 < l.length := by omega
      rw [List.getElem?_eq_getElem hlt]
      exact hl _ (List.getElem_mem hlt)
    · exact h g b
  · exact h g b
/-- Laid twice: the later words stay. -/
theorem lay_lay {N : Nat} {M : Nat → Nat → Int} {f : Int} {l m : List Int} (h : l.length = m.length) : layF N (layF N M f l) f m = layF N M f m := by
  unfold layF
  split
  · funext g b
    rw [h]
    by_cases hb : g = f.toNat ∧ 4 ≤ b ∧ b < 4 + m.length
    · rw [if_pos hb, if_pos hb]
    · rw [if_neg hb, if_neg hb]
      exact if_neg hb
  · rfl
/-- A head is read out of a frame's first four words. -/
theorem is_words {N : Nat} {M M' : Nat → Nat → Int} {f : Int} (h : ∀ j, j < 4 → M' f.toNat j = M f.toNat j) (q : Int) : Phead.isE N M' f q = Phead.isE N M f q := by
  unfold Phead.isE Phead.ghE Phead.ghK
  rw [h 0 (by omega), h 1 (by omega), h 2 (by omega), h 3 (by omega)]
theorem is_lay {N : Nat} {M : Nat → Nat → Int} {f g : Int} {l : List Int} (q : Int) : Phead.isE N (layF N M f l) g q = Phead.isE N M g q := is_words (fun j hj => lay_out (.inr (.inl hj))) q
theorem is_bad {N : Nat} {M : Nat → Nat → Int} {f : Int} (h : okF N f = false) (q : Int) : Phead.isE N M f q ≠ 0 := by
  have e : Phead.ghE N M f = 1 := by unfold Phead.ghE; rw [h]; rfl
  unfold Phead.isE
  rw [e, if_neg (by decide)]
  decide
/-- A frame made of a kind is of it. -/
theorem is_made {N f : Nat} {M : Nat → Nat → Int} {k : Int} (hf : f < N) (hk : 0 ≤ k ∧ k ≤ 6) : Phead.isE N (Phead.mkM N M f k 0 false 0) f k = 0 := by
  have hr : Phead.Rt k 0 false 0 := by unfold Phead.Rt; simp; omega
  have e : Phead.mkM N M f k 0 false 0 = Phead.st4 N (clM N M f) f (Phead.wd0 k 0 false) 0 0 0 := by unfold Phead.mkM; rw [if_pos (Phead.rtB_yes hr)]
  obtain ⟨g0, _, _, _, g4⟩ := Phead.put_got (M := clM N M f) hf hr
  rw [e]
  unfold Phead.isE
  rw [g4, if_pos rfl, g0, if_pos rfl]
theorem made_word {N f j : Nat} {M : Nat → Nat → Int} {k : Int} (hf : f < N) (hk : 0 ≤ k ∧ k ≤ 6) (hj : 4 ≤ j) : Phead.mkM N M f k 0 false 0 f j = 0 := by
  have hr : Phead.Rt k 0 false 0 := by unfold Phead.Rt; simp; omega
  have e : Phead.mkM N M f k 0 false 0 = Phead.st4 N (clM N M f) f (Phead.wd0 k 0 false) 0 0 0 := by unfold Phead.mkM; rw [if_pos (Phead.rtB_yes hr)]
  rw [e, Phead.made_zero hf hj]
theorem made_err {N : Nat} {f k : Int} (hk : 0 ≤ k ∧ k ≤ 6) : Phead.errP N f k 0 false 0 = errF N f := by
  have hr : Phead.Rt k 0 false 0 := by unfold Phead.Rt; simp; omega
  unfold Phead.errP
  rw [if_pos (Phead.rtB_yes hr)]
/-! ### numbers of the machine -/
def In64 (a : Int) : Prop := -9223372036854775808 ≤ a ∧ a ≤ 9223372036854775807
theorem in64_wf {a : Int} (h : (Lit.int .i64 a).wf = true) : In64 a := by
  have h' : (decide (IntKind.i64.min ≤ a) && decide (a ≤ IntKind.i64.max)) = true := h
  have e1 : IntKind.i64.min = -9223372036854775808 := by decide
  have e2 : IntKind.i64.max = 9223372036854775807 := by decide
  rw [e1, e2] at h'
  simpa [In64] using h'
/-- A number as a word. -/
def asW (a : Int) : Int := if 0 ≤ a then a else a + 18446744073709551616
theorem asW_eq {a : Int} (h : In64 a) : IntKind.u64.wrap a = asW a := by
  rw [IntKind.wrap_u64]
  unfold In64 at h
  unfold asW
  split <;> omega
theorem asW_fit {a : Int} (h : In64 a) : 0 ≤ asW a ∧ asW a ≤ 18446744073709551615 := by
  unfold In64 at h
  unfold asW
  split <;> omega
theorem asW_low {a c : Int} (h : In64 a) (hc : c ≤ 1073741824) (hl : asW a ≤ c) : asW a = a ∧ 0 ≤ a := by
  unfold In64 at h
  unfold asW at *
  split at hl
  · rename_i h0
    rw [if_pos h0]
    exact ⟨rfl, h0⟩
  · omega
end Go.Proofs.YtiapfapmgjngpaaGreatDoor.Play

/- The document's memory: its Store once more; its In, Lay and Read: numbers behind a frame's head (stages 17 to 22). -/
namespace Go.Proofs.YtiapfapmgjngpaaGreatDoor.Play
open Go.Proofs.YtiapfapmgjngpaaGreatDoor.Pbase Go.Proofs.YtiapfapmgjngpaaGreatDoor.Pfield Go.Proofs.YtiapfapmgjngpaaGreatDoor.Pmem
open Go.RowKit
set_option linter.unusedVariables false

/-! ### the document's memory -/
structure Rx (w : World) (base q N : Nat) (M : Nat → Nat → Int) : Prop where
  ref : RefIs w base q N M
  fit : Fit M
  n1 : 1 ≤ N
  n64 : N ≤ 64
theorem Rx.grown {w w' : World} {base q N : Nat} {M : Nat → Nat → Int} (h : Rx w base q N M) (hB : Below w.heap.size w w') : Rx w' base q N M := ⟨h.ref.grown hB, h.fit, h.n1, h.n64⟩
theorem Rx.turn {w w' : World} {base q N : Nat} {M M' : Nat → Nat → Int} (h : Rx w base q N M) (hR : RefIs w' base q N M') (hF : Fit M') : Rx w' base q N M' := ⟨hR, hF, h.n1, h.n64⟩
theorem Rx.le {w : World} {base q N : Nat} {M : Nat → Nat → Int} (h : Rx w base q N M) : base ≤ w.heap.size := Nat.le_trans h.ref.ge (Nat.le_of_lt h.ref.lt)
theorem ystore_any (base p N : Nat) (f a v : Int) (M : Nat → Nat → Int) (w : World) (hN1 : 1 ≤ N) (hN : N ≤ 64) (hR : RefIs w base p N M) :
    Calls Tryz.prog 273 #[.pointer (some ⟨p, 0, none⟩), .int .i64 f, .int .i64 a, .int .u64 v] w fun e w' => e = .returned (.int .i64 (errW N f a)) ∧ RefIs w' base p N (stW N M f a v) ∧ Below base w w' ∧ KeepX p w w' := by
  cases h : okF N f
  · simp only [stW, errW, okW, h, Bool.false_and, Bool.false_eq_true, if_false]
    exact (rstore_badF base p N f a v M w h hN1 hN hR).mono fun _ _ ⟨h1, h2⟩ => ⟨h1, by rw [h2]; exact hR, by rw [h2]; exact ⟨Below.refl _ _, KeepX.refl _ _⟩⟩
  · obtain ⟨c, rfl, hc⟩ := okF_split h
    by_cases ha : 0 ≤ a ∧ a < 36
    · obtain ⟨d, rfl⟩ := Int.eq_ofNat_of_zero_le ha.1
      have : okW N (c : Int) (d : Int) = true := by simp [okW, h]; omega
      simp only [errW, this, if_true]
      exact rstore_x base p N c d v M w hc (by omega) hN hR
    · have : okW N (c : Int) a = false := by simp [okW, h]; omega
      simp only [stW, errW, this, Bool.false_eq_true, if_false]
      exact (rstore_badA base p N c a v M w hc ha hN hR).mono fun _ _ ⟨h1, h2⟩ => ⟨h1, by rw [h2]; exact hR, by rw [h2]; exact ⟨Below.refl _ _, KeepX.refl _ _⟩⟩

/-! ### Lay -/
/-- These numbers lie in block D from its beginning on. -/
structure Nums (w : World) (D : Nat) (l : List Int) : Prop where
  row : ∃ cs : Array Value, w.heap[D]? = some (.cells cs 3 (0, 0)) ∧ ∀ j, j < l.length → cs[j]? = some (.int .i64 (l[j]?.getD 0))
theorem Nums.cell {w : World} {D : Nat} {l : List Int} (h : Nums w D l) {j : Nat} (hj : j < l.length) : w.cell? ⟨D, j, none⟩ = some (.int .i64 (l[j]?.getD 0)) := by
  obtain ⟨cs, h1, h2⟩ := h.row
  rw [cell_of_row _ _ _ _ _ _ h1]
  exact h2 j hj
theorem Nums.keep {w w' : World} {D : Nat} {l : List Int} (h : Nums w D l) (k : KeepT w w') : Nums w' D l := by
  obtain ⟨cs, h1, h2⟩ := h.row
  exact ⟨cs, k _ _ _ (by decide) h1, h2⟩
theorem Nums.on {w w' : World} {D : Nat} {l : List Int} (h : Nums w D l) (hB : Below w.heap.size w w') : Nums w' D l := h.keep (.below hB)
structure LyI (w wr : World) (base q N D : Nat) (M : Nat → Nat → Int) (l : List Int) : Prop where
  rx : Rx wr base q N M
  below : Below base w wr
  keep : KeepX q w wr
  lst : Nums wr D l
theorem LyI.turn {w wr w' : World} {base q N D : Nat} {M M' : Nat → Nat → Int} {l : List Int} (h : LyI w wr base q N D M l) (hR : RefIs w' base q N M') (hB : Below base wr w') (hS : KeepX q wr w') (hF : Fit M') : LyI w w' base q N D M' l :=
  ⟨h.rx.turn hR hF, h.below.trans hB, h.keep.trans hS, h.lst.keep hS.t⟩
theorem take_snoc {l : List Int} {k : Nat} (hk : k < l.length) : l.take (k + 1) = l.take k ++ [l[k]?.getD 0] := by
  rw [List.take_add_one, List.getElem?_eq_getElem hk]
  rfl
set_option maxRecDepth 100000 in
set_option maxHeartbeats 1000000 in
theorem rlay_any (base q N D cap : Nat) (f : Int) (l : List Int) (M : Nat → Nat → Int) (w : World) (h : Rx w base q N M) (hL : Nums w D l) (hl : l.length ≤ 32) (hv : ∀ x ∈ l, 0 ≤ x ∧ x ≤ 9223372036854775807) :
    Calls Tryz.prog 208 #[.pointer (some ⟨q, 0, none⟩), .int .i64 f, .slice (some ⟨D, 0, none⟩) l.length cap] w fun x w' => x = .returned (.tuple #[]) ∧ Rx w' base q N (layF N M f l) ∧ Below base w w' ∧ KeepX q w w' := by
  have HI0 : Hid (LyI w w base q N D M l) := ⟨h, Below.refl _ _, KeepX.refl _ _, hL⟩
  clear h hL
  go_enter Tryz.func208, Tryz.ntmps208
  go_wp2
  go_loopw [6] (fun i wr => ∃ k : Nat, k ≤ l.length ∧ i = .int .i64 k ∧ LyI w wr base q N D (layF N M f (l.take k)) l) (fun i _ => l.length - (intOf i).toNat)
  case atStart => exact ⟨0, by omega, rfl, by rw [List.take_zero, lay_nil]; exact HI0.out⟩
  case round =>
    obtain ⟨k, hk, rfl, hI⟩ := hrel
    clear HI0
    by_cases hlt : k < l.length
    · have hki : (k : Int) < (l.length : Int) := by omega
      have hc := hI.lst.cell hlt
      have hx := hv (l[k]?.getD 0) (by rw [List.getElem?_eq_getElem hlt]; exact List.getElem_mem hlt)
      have HS := rhide (take_snoc hlt)
      generalize l[k]?.getD 0 = x at hc hx HS
      have hu : IntKind.u64.wrap x = x := wrapu_small (by omega) (by omega)
      have hw : wrap64 (4 + (k : Int)) = 4 + (k : Int) := by simp only [wrap64]; omega
      have HX : Hid (0 ≤ x ∧ x ≤ 18446744073709551615) := (show 0 ≤ x ∧ x ≤ 18446744073709551615 by omega)
      have HI := rhide hI
      clear hI hx
      go_wp2_with (first
        | (go_at_call 273; refine (ystore_any base q N f (4 + (k : Int)) x _ _ HI.out.rx.n1 HI.out.rx.n64 HI.out.rx.ref).mono ?_; rintro e w1 ⟨rfl, hR, hB, hS⟩; have H1 := rhide (HI.out.turn hR hB hS (HI.out.rx.fit.st N f _ x HX.out)); clear hR hB hS HI)
        | fail)
      go_roundw
      case rel =>
        refine ⟨k + 1, by omega, by go_num, ?_⟩
        have e := lay_step (N := N) (M := M) (f := f) (l := l.take k) (by rw [List.length_take]; omega) x
        rw [List.length_take, Nat.min_eq_left (by omega)] at e
        rw [HS.out, ← e]
        exact H1.out
      case measure => simp [intOf]; omega
    · obtain rfl : k = l.length := by omega
      rw [List.take_length] at hI
      have HI := rhide hI
      clear hI
      go_wp2
      go_end0
      exact ⟨rfl, HI.out.rx, HI.out.below, HI.out.keep⟩
/-! ### Read -/
/-- The words read, and whether they all are numbers of a time. -/
def rdL (N : Nat) (M : Nat → Nat → Int) (f : Int) (k : Nat) : List Int := (List.range k).map fun i => ldM N M f (4 + (i : Nat))
def rdB (N : Nat) (M : Nat → Nat → Int) (f : Int) (k : Nat) : Bool := decide (∀ i, i < k → ldM N M f (4 + (i : Nat)) ≤ 1073741824)
theorem rdL_succ (N : Nat) (M : Nat → Nat → Int) (f : Int) (k : Nat) : rdL N M f (k + 1) = rdL N M f k ++ [ldM N M f (4 + (k : Nat))] := by simp [rdL, List.range_succ]
theorem rdL_len (N : Nat) (M : Nat → Nat → Int) (f : Int) (k : Nat) : (rdL N M f k).length = k := by simp [rdL]
theorem rdL_at (N : Nat) (M : Nat → Nat → Int) (f : Int) {k j : Nat} (h : j < k) : (rdL N M f k)[j]?.getD 0 = ldM N M f (4 + (j : Nat)) := by simp [rdL, h]
def rdV (N : Nat) (M : Nat → Nat → Int) (f : Int) (k : Nat) : List Value := (rdL N M f k).map (.int .i64)
theorem ld_fit {N : Nat} {M : Nat → Nat → Int} (h : Fit M) (f a : Int) : 0 ≤ ldM N M f a ∧ ldM N M f a ≤ 18446744073709551615 := by
  unfold ldM
  split
  · exact h _ _
  · omega
theorem infoIntC : (Tryz.prog.info? 3).map (fun i => (i.zero, i.size, i.bytes)) = some (some (.int .i64 0), 1, 8) := by kernel_rfl
structure RdI (w wr : World) (N : Nat) (M : Nat → Nat → Int) (f : Int) (k : Nat) (v : Value) : Prop where
  below : Below w.heap.size w wr
  row : wr.ownsRow w.heap.size 3 1 v k (rdV N M f k)
  ok : ∀ i, i < k → ldM N M f (4 + (i : Nat)) ≤ 1073741824
theorem owns_lst {w : World} {base : Nat} {v : Value} {l : List Int} (h : w.ownsRow base 3 1 v l.length (l.map (.int .i64))) (h0 : 0 < l.length) : ∃ g cap, v = .slice (some ⟨g, 0, none⟩) l.length cap ∧ base ≤ g ∧ g < w.heap.size ∧ Nums w g l := by
  rcases h.2 with ⟨e, _⟩ | ⟨g, cap, cur, e, hg, hh, _, _, _, ht⟩
  · omega
  · refine ⟨g, cap, e, hg, (Array.getElem?_eq_some_iff.1 hh).1, cur, hh, fun j hj => ?_⟩
    have := congrArg (fun l => l[j]?) ht
    simp only [Nat.mul_one, List.getElem?_take, hj, if_true, Array.getElem?_toList, List.getElem?_map, List.getElem?_eq_getElem hj, Option.map_some] at this
    rw [this, List.getElem?_eq_getElem hj]
    rfl
set_option maxRecDepth 100000 in
set_option maxHeartbeats 1000000 in
theorem rread_any (base q N k0 : Nat) (f : Int) (M : Nat → Nat → Int) (w : World) (h : Rx w base q N M) (h0 : 0 < k0) (h32 : k0 ≤ 32) :
    Calls Tryz.prog 274 #[.pointer (some ⟨q, 0, none⟩), .int .i64 f, .int .i64 k0] w fun x w' => ((rdB N M f k0 = false ∧ x = .returned (.tuple #[.slice none 0 0, .bool false])) ∨ (rdB N M f k0 = true ∧ ∃ g cap, x = .returned (.tuple #[.slice (some ⟨g, 0, none⟩) k0 cap, .bool true]) ∧ w.heap.size ≤ g ∧ g < w'.heap.size ∧ Nums w' g (rdL N M f k0))) ∧ Below w.heap.size w w' := by
  obtain ⟨it, hi, hz0, hz1, hz2⟩ := info_parts infoIntC
  have H0 := rhide h
  clear h
  go_enter Tryz.func274, Tryz.ntmps274
  go_wp2
  go_loopw [8, 9] (fun s i wr => ∃ (k : Nat) (v : Value), k ≤ k0 ∧ i = .int .i64 k ∧ s = v ∧ RdI w wr N M f k v) (fun _ i _ => k0 - (intOf i).toNat)
  case atStart => exact ⟨0, _, by omega, rfl, rfl, Below.refl _ _, World.ownsRow_nil _ _ _ _, fun i hi => by omega⟩
  case round =>
    obtain ⟨k, v, hk, rfl, hv, hI⟩ := hrel
    obtain ⟨av, cv, hvs⟩ := ownsRow_slice hI.row
    subst hv
    subst hvs
    by_cases hlt : k < k0
    · have hki : (k : Int) < (k0 : Int) := by omega
      have hw : wrap64 (4 + (k : Int)) = 4 + (k : Int) := by simp only [wrap64]; omega
      have hrx := H0.out.grown hI.below
      have hfit := ld_fit (N := N) hrx.fit f (4 + (k : Int))
      have HL : Hid (Calls Tryz.prog 313 #[.pointer (some ⟨q, 0, none⟩), .int .i64 f, .int .i64 (4 + (k : Int))] wr fun x w' => x = .returned (.tuple #[.int .u64 (ldM N M f (4 + (k : Int))), .int .i64 (errW N f (4 + (k : Int)))]) ∧ w' = wr) := rload_any base q N f _ M wr hrx.n1 hrx.n64 hrx.ref
      obtain ⟨x, hx⟩ : ∃ x, ldM N M f (4 + (k : Int)) = x := ⟨_, rfl⟩
      rw [hx] at HL hfit
      have HX := rhide hx
      have hrow := hI.row
      have hsz : w.heap.size ≤ wr.heap.size := hI.below.size
      have HI := rhide hI
      clear hx hI hrx
      by_cases hm : x ≤ 1073741824
      · have hu : IntKind.i64.wrap x = x := wrapi_small (by omega) (by omega)
        have hng : ¬ 1073741824 < x := by omega
        have HR : Hid (∀ g, (Value.slice av k cv).ownBlock = some g → w.heap.size ≤ g) := fun g e => (hrow.lt g e).1
        go_wp2_with (first
          | (go_at_call 313; refine HL.out.mono ?_; rintro e w' ⟨rfl, hw'⟩; subst w'; clear HL)
          | (at_builtin; refine wpList_append_own _ rfl _ _ 23 rfl w.heap.size 3 it (.int .i64 0) 1 8 Tryz.underlying23 hi hz0 hz1 hz2 rfl (by decide) _ _ _ rfl (hrow.alloc _) ⟨wr.heap.size, 0, none⟩ 1 1 [.int .i64 x] rfl rfl (cell_one_new wr _ _) (by simp [Value.oneCell']) (by unfold maxLen; omega) (by omega) (by simp; omega) ?_; intro v' w1 hown' hgrow _; obtain ⟨g', cap', rfl⟩ := ownsRow_succ hown'; have HB1 : Hid (Below w.heap.size wr w1) := ((Below.refl _ _).alloc (by omega) _).grown hgrow (by simp; omega) (fun k e => HR.out k e); have HG1 := rhide hgrow; have HO1 := rhide hown'; clear hgrow hown'))
        go_roundw
        case rel =>
          refine ⟨k + 1, _, by omega, by go_num, rfl, HI.out.below.trans HB1.out, ?_, fun j hj => ?_⟩
          · have e : rdV N M f (k + 1) = rdV N M f k ++ [.int .i64 x] := by unfold rdV; rw [rdL_succ, List.map_append, HX.out]; rfl
            rw [e]
            exact HO1.out
          · by_cases e : j = k
            · subst e; rw [HX.out]; exact hm
            · exact HI.out.ok j (by omega)
        case measure => simp [intOf]; omega
      · have hng : 1073741824 < x := by omega
        go_wp2_with (first
          | (go_at_call 313; refine HL.out.mono ?_; rintro e w' ⟨rfl, hw'⟩; subst w'; clear HL)
          | fail)
        go_ret2
        refine ⟨.inl ⟨?_, rfl⟩, HI.out.below⟩
        unfold rdB
        rw [decide_eq_false_iff_not]
        intro hall
        have := hall k hlt
        rw [HX.out] at this
        omega
    · obtain rfl : k = k0 := by omega
      have HI := rhide hI
      clear hI
      go_wp2
      go_ret2
      refine ⟨.inr ⟨by unfold rdB; rw [decide_eq_true_eq]; exact HI.out.ok, ?_⟩, HI.out.below⟩
      have e := owns_lst (l := rdL N M f k) (by rw [rdL_len]; exact HI.out.row) (by rw [rdL_len]; exact h0)
      rw [rdL_len] at e
      obtain ⟨g, cap, e1, e2, e3, e4⟩ := e
      exact ⟨g, cap, by rw [e1]; rfl, e2, e3, e4⟩
/-! ### In -/
def inB (n lo hi : Int) : Bool := decide (lo ≤ n) && decide (n ≤ hi)
set_option maxRecDepth 100000 in
theorem in_any (n lo hi : Int) (w : World) : Calls Tryz.prog 272 #[.int .i64 n, .int .i64 lo, .int .i64 hi] w fun e w' => e = .returned (.bool (inB n lo hi)) ∧ w' = w := by
  unfold inB
  by_cases h : lo ≤ n
  · go_enter Tryz.func272, Tryz.ntmps272
    go_wp2
    go_ret
    exact ⟨by simp [h], rfl⟩
  · go_enter Tryz.func272, Tryz.ntmps272
    go_wp2
    go_ret
    refine ⟨?_, rfl⟩
    have h' : decide (lo ≤ n) = false := by simp; omega
    rw [h']
    rfl
end Go.Proofs.YtiapfapmgjngpaaGreatDoor.Play

/- A block told by a list of values. -/
namespace Go.Proofs.YtiapfapmgjngpaaGreatDoor.Play
open Go.Proofs.YtiapfapmgjngpaaGreatDoor.Pbase Go.Proofs.YtiapfapmgjngpaaGreatDoor.Pmem
open Go.RowKit
set_option linter.unusedVariables false

/-! ### a block of values -/
structure RowV (w : World) (B : Nat) (vs : List Value) : Prop where
  row : ∃ t, w.heap[B]? = some (.cells vs.toArray t (0, 0))
section
variable {w w' : World} {B : Nat} {vs : List Value}
theorem RowV.lt (h : RowV w B vs) : B < w.heap.size := by
  obtain ⟨t, h⟩ := h.row
  exact (Array.getElem?_eq_some_iff.1 h).1
theorem RowV.cell (h : RowV w B vs) (j : Nat) : w.cell? ⟨B, j, none⟩ = vs[j]? := by
  obtain ⟨t, h⟩ := h.row
  rw [cell_of_row _ _ _ _ _ _ h]
  simp
theorem RowV.fz (h : RowV w B vs) (j : Nat) : w.frozen? ⟨B, j, none⟩ = false := by
  obtain ⟨t, h⟩ := h.row
  exact frozen_of_row _ _ _ _ _ h
theorem RowV.on (h : RowV w B vs) (hB : Below w.heap.size w w') : RowV w' B vs := by
  have hl := h.lt
  obtain ⟨t, h⟩ := h.row
  exact ⟨t, (hB.block B hl).trans h⟩
theorem RowV.but {b : Nat} (h : RowV w B vs) (hB : But b w w') (hn : B ≠ b) : RowV w' B vs := by
  have hl := h.lt
  obtain ⟨t, h⟩ := h.row
  exact ⟨t, (hB.block B hl hn).trans h⟩
theorem RowV.set (h : RowV w B vs) (j : Nat) (v : Value) : RowV (w.setCell ⟨B, j, none⟩ v) B (vs.set j v) := by
  obtain ⟨t, h⟩ := h.row
  refine ⟨t, ?_⟩
  rw [heap_setCell_same _ _ _ _ _ _ h]
  simp
theorem RowV.other (h : RowV w B vs) {q : Nat} (hq : B ≠ q) (j : Nat) (v : Value) : RowV (w.setCell ⟨q, j, none⟩ v) B vs := by
  obtain ⟨t, h⟩ := h.row
  exact ⟨t, (heap_setCell_other _ _ _ _ hq).trans h⟩
theorem rowV_new (w : World) (vs : List Value) (t : TypeId) : RowV (w.alloc (.cells vs.toArray t)) w.heap.size vs := ⟨t, heap_alloc_new w _⟩
end
end Go.Proofs.YtiapfapmgjngpaaGreatDoor.Play

/- The document's memory behind calls: what they leave of it and of all that was there; stores into a block that a call laid itself (stages 21, 22). -/
namespace Go.Proofs.YtiapfapmgjngpaaGreatDoor.Play
open Go.Proofs.YtiapfapmgjngpaaGreatDoor.Pbase Go.Proofs.YtiapfapmgjngpaaGreatDoor.Pfield Go.Proofs.YtiapfapmgjngpaaGreatDoor.Pmem
open Go.RowKit
set_option linter.unusedVariables false

/-- A store into a block of numbers that a call laid itself leaves the document's memory, and all that was there. -/
theorem ref_off {w w' : World} {base q N : Nat} {M : Nat → Nat → Int} {B : Nat} {z : Int} (h : RefIs w base q N M) (hN : 1 ≤ N) (hB : w.cell? ⟨B, 0, none⟩ = some (.int .i64 z)) (hk : ∀ k, k ≠ B → w'.heap[k]? = w.heap[k]?) : RefIs w' base q N M := by
  obtain ⟨hb, v0, hv, r, cc, h1, h2, h3⟩ := h
  rcases h1.2 with ⟨_, e⟩ | ⟨g, cap, cur, e, hg, hh, rest⟩
  · omega
  · refine ⟨hb, v0, ?_, r, cc, ⟨h1.1, .inr ⟨g, cap, cur, e, hg, ?_, rest⟩⟩, fun j hj => ?_, h3⟩
    · rw [hk q (by rintro rfl; rw [cell_of_row _ _ _ _ _ _ hv, e] at hB; simp at hB)]; exact hv
    · subst e
      rw [hk g (by rintro rfl; rw [h1.cellAt 0 (by omega)] at hB; simp at hB)]; exact hh
    · obtain ⟨hbj, cu, hc, hw⟩ := h2 j hj
      refine ⟨hbj, cu, ?_, hw⟩
      rw [hk (r j) (by intro e; rw [← e, cell_of_row _ _ _ _ _ _ hc, hw 0 (by omega)] at hB; simp at hB)]; exact hc
theorem keepX_off {q : Nat} {a w : World} (h : KeepX q a w) {D : Nat} (hD : a.heap.size ≤ D) (j : Nat) (v : Value) : KeepX q a (w.setCell ⟨D, j, none⟩ v) := by
  have eo : ∀ b k, b ≠ D → (w.setCell ⟨D, j, none⟩ v).cell? ⟨b, k, none⟩ = w.cell? ⟨b, k, none⟩ := fun b k hb => World.cell?_of_block (heap_setCell_other _ _ _ _ hb)
  refine ⟨fun B cs t ht e => ?_, by rw [World.size_setCell]; exact h.size, fun T hT => ?_⟩
  · have hl := (Array.getElem?_eq_some_iff.1 e).1
    rw [heap_setCell_other _ _ _ _ (by show B ≠ D; omega)]
    exact h.t B cs t ht e
  · have hTa := hT.1
    obtain ⟨⟨t0, tp, t1⟩, u1⟩ := h.up T hT
    refine ⟨⟨by rw [World.size_setCell]; exact t0, tp, fun g n cap e => ?_⟩, fun i h1 h2 => (heap_setCell_other _ _ _ _ (by show i ≠ D; omega)).trans (u1 i h1 h2)⟩
    rw [eo q 0 (by omega)] at e
    obtain ⟨a1, a2⟩ := t1 g n cap e
    refine ⟨a1, fun f x l c hf e2 => ?_⟩
    rw [eo g f (by omega)] at e2
    exact a2 f x l c hf e2
/-- The document's memory in W, and what is left of w. -/
structure Dh (w W : World) (base q N : Nat) (M : Nat → Nat → Int) : Prop where
  rx : Rx W base q N M
  below : Below base w W
  kp : KeepX q w W
theorem dh_self {w : World} {base q N : Nat} {M : Nat → Nat → Int} (h : Rx w base q N M) : Dh w w base q N M := ⟨h, Below.refl _ _, KeepX.refl _ _⟩
theorem Dh.on {w W W' : World} {base q N : Nat} {M : Nat → Nat → Int} (h : Dh w W base q N M) (hB : Below W.heap.size W W') : Dh w W' base q N M := ⟨h.rx.grown hB, h.below.trans (hB.mono h.rx.le), h.kp.trans (KeepX.below hB)⟩
theorem Dh.turn {w W W' : World} {base q N : Nat} {M M' : Nat → Nat → Int} (h : Dh w W base q N M) (hR : RefIs W' base q N M') (hF : Fit M') (hB : Below base W W') (hK : KeepX q W W') : Dh w W' base q N M' := ⟨h.rx.turn hR hF, h.below.trans hB, h.kp.trans hK⟩
theorem Dh.trans {w W W' : World} {base q N : Nat} {M M' : Nat → Nat → Int} (h : Dh w W base q N M) (k : Dh W W' base q N M') : Dh w W' base q N M' := ⟨k.rx, h.below.trans k.below, h.kp.trans k.kp⟩
theorem Dh.set {w W : World} {base q N : Nat} {M : Nat → Nat → Int} (h : Dh w W base q N M) {D : Nat} {z : Int} (hz : W.cell? ⟨D, 0, none⟩ = some (.int .i64 z)) (hD : w.heap.size ≤ D) (hb : base ≤ w.heap.size) (j : Nat) (v : Value) : Dh w (W.setCell ⟨D, j, none⟩ v) base q N M :=
  ⟨⟨ref_off h.rx.ref h.rx.n1 hz (fun k hk => heap_setCell_other _ _ _ _ hk), h.rx.fit, h.rx.n1, h.rx.n64⟩, h.below.setCell (p := ⟨D, j, none⟩) (by show base ≤ D; omega) v, keepX_off h.kp hD j v⟩
end Go.Proofs.YtiapfapmgjngpaaGreatDoor.Play
