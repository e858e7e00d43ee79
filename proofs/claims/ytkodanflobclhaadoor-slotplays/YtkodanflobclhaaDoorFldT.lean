/- The four contracts of packing and unpacking, each by the case that decides its answer. -/
import Derived.Test.YtkodanflobclhaaDoorFldS
namespace Go.Proofs.YtkodanflobclhaaDoor.Pfield
open Go.RowKit M
set_option linter.unusedVariables false

def packF (zs vs : List Int) : Int := packs zs vs (upto zs.length zs.length)
def getsI (x : Int) (zs : List Int) : List Int := (upto zs.length zs.length).map fun j => getF x (sumTo zs j.1) (zs[j.1]?.getD 0)
theorem getsI_length (x : Int) (zs : List Int) : (getsI x zs).length = zs.length := by simp [getsI, upto_length]
theorem getsI_gets (x : Int) (zs : List Int) : gets x zs (upto zs.length zs.length) = (getsI x zs).map (Value.int .u64) := by simp [gets, getsI]
theorem getsI_at (x : Int) (zs : List Int) {k : Nat} (hk : k < zs.length) : (getsI x zs)[k]?.getD 0 = getF x (sumTo zs k) (zs[k]?.getD 0) := by
  have hl : k < (getsI x zs).length := by rw [getsI_length]; exact hk
  rw [List.getElem?_eq_getElem hl, Option.getD_some]
  simp [getsI, upto, hk]
theorem Ints.up {q : IntKind} {n₀ n₁ : Nat} {W : World} {sv : Value} {zs : List Int} (h : Ints q n₀ W sv zs) (hn : n₀ ≤ n₁) : Ints q n₁ W sv zs :=
  match h with
  | .inl h => .inl h
  | .inr ⟨b, off, cap, e, hb, hc⟩ => .inr ⟨b, off, cap, e, by omega, hc⟩
theorem Ints.on {q : IntKind} {w W : World} {sv : Value} {zs : List Int} (h : Ints q w.heap.size w sv zs) (hB : Below w.heap.size w W) : Ints q W.heap.size W sv zs := (h.below hB).up hB.size
/-- A row of the call's own is a slice of numbers. -/
theorem ints_of_row {W : World} {base : Nat} {v : Value} {n : Nat} {xs : List Int} (h : W.ownsRow base 58 1 v n (xs.map (Value.int .u64))) (hn : xs.length = n) : ∃ a c, v = .slice a n c ∧ Ints .u64 W.heap.size W (.slice a n c) xs := by
  subst hn
  rcases h.2 with ⟨rfl, h0⟩ | ⟨g, cap, cur, rfl, hg, hb, h1, h2, h3, h4⟩
  · refine ⟨none, 0, by rw [h0], .inl ⟨none, 0, by rw [h0], by simpa using h0⟩⟩
  · refine ⟨_, _, rfl, .inr ⟨g, 0, cap, rfl, (Array.getElem?_eq_some_iff.1 hb).1, fun j hj => ?_⟩⟩
    have hc := h.cellAt (g := g) j (by simpa using hj)
    rw [Nat.zero_add, hc]
    simp [hj]
theorem pack_ok (a0 a1 : Option Addr) (cap0 cap1 : Nat) (zs vs : List Int) (w : World) (hl0 : zs.length ≤ 100) (hlv : zs.length = vs.length) (hv : ∀ j : Nat, 0 ≤ vs[j]?.getD 0 ∧ vs[j]?.getD 0 ≤ 18446744073709551615) (hI0 : Ints .i64 w.heap.size w (.slice a0 zs.length cap0) zs) (hI1 : Ints .u64 w.heap.size w (.slice a1 zs.length cap1) vs) (hA : ∀ j, j < zs.length → okP zs vs j = true) :
    Calls Tryd.prog 40 #[.slice a0 zs.length cap0, .slice a1 zs.length cap1] w fun e W' => e = .returned (.tuple #[.int .u64 (packF zs vs), .int .i64 0]) ∧ Below w.heap.size w W' :=
  (pack_in a0 a1 cap0 cap1 zs vs w (by omega) hlv hv hI0 hI1).mono fun e W' ⟨h, hB⟩ => by
    rcases h with ⟨_, he⟩ | ⟨⟨j, hj, hb⟩, _⟩
    · exact ⟨he, hB⟩
    · rw [hA j hj] at hb; cases hb
theorem pack_bad (a0 a1 : Option Addr) (cap0 cap1 : Nat) (zs vs : List Int) (w : World) (hl0 : zs.length ≤ 100) (hlv : zs.length = vs.length) (hv : ∀ j : Nat, 0 ≤ vs[j]?.getD 0 ∧ vs[j]?.getD 0 ≤ 18446744073709551615) (hI0 : Ints .i64 w.heap.size w (.slice a0 zs.length cap0) zs) (hI1 : Ints .u64 w.heap.size w (.slice a1 zs.length cap1) vs) (hA : ¬ ∀ j, j < zs.length → okP zs vs j = true) :
    Calls Tryd.prog 40 #[.slice a0 zs.length cap0, .slice a1 zs.length cap1] w fun e W' => e = .returned (.tuple #[.int .u64 0, .int .i64 1]) ∧ Below w.heap.size w W' :=
  (pack_in a0 a1 cap0 cap1 zs vs w (by omega) hlv hv hI0 hI1).mono fun e W' ⟨h, hB⟩ => by
    rcases h with ⟨h, _⟩ | ⟨_, he⟩
    · exact absurd h hA
    · exact ⟨he, hB⟩
theorem rpack_ok (a0 a1 : Option Addr) (cap0 cap1 : Nat) (zs vs : List Int) (w : World) (hl0 : zs.length ≤ 100) (hlv : zs.length = vs.length) (hv : ∀ j : Nat, 0 ≤ vs[j]?.getD 0 ∧ vs[j]?.getD 0 ≤ 18446744073709551615) (hI0 : Ints .i64 w.heap.size w (.slice a0 zs.length cap0) zs) (hI1 : Ints .u64 w.heap.size w (.slice a1 zs.length cap1) vs) (hA : ∀ j, j < zs.length → okP zs vs j = true) :
    Calls Tryd.prog 42 #[.slice a0 zs.length cap0, .slice a1 zs.length cap1] w fun e W' => e = .returned (.tuple #[.int .u64 (packF zs vs), .int .i64 0]) ∧ Below w.heap.size w W' :=
  (rpack_in a0 a1 cap0 cap1 zs vs w (by omega) hlv hv hI0 hI1).mono fun e W' ⟨h, m, hm⟩ => by
    subst hm
    rcases h with ⟨_, he⟩ | ⟨⟨j, hj, hb⟩, _⟩
    · exact ⟨he, below_drewN (Below.refl _ _) _⟩
    · rw [hA j hj] at hb; cases hb
theorem rpack_bad (a0 a1 : Option Addr) (cap0 cap1 : Nat) (zs vs : List Int) (w : World) (hl0 : zs.length ≤ 100) (hlv : zs.length = vs.length) (hv : ∀ j : Nat, 0 ≤ vs[j]?.getD 0 ∧ vs[j]?.getD 0 ≤ 18446744073709551615) (hI0 : Ints .i64 w.heap.size w (.slice a0 zs.length cap0) zs) (hI1 : Ints .u64 w.heap.size w (.slice a1 zs.length cap1) vs) (hA : ¬ ∀ j, j < zs.length → okP zs vs j = true) :
    Calls Tryd.prog 42 #[.slice a0 zs.length cap0, .slice a1 zs.length cap1] w fun e W' => e = .returned (.tuple #[.int .u64 0, .int .i64 1]) ∧ Below w.heap.size w W' :=
  (rpack_in a0 a1 cap0 cap1 zs vs w (by omega) hlv hv hI0 hI1).mono fun e W' ⟨h, m, hm⟩ => by
    subst hm
    rcases h with ⟨h, _⟩ | ⟨_, he⟩
    · exact absurd h hA
    · exact ⟨he, below_drewN (Below.refl _ _) _⟩
/-- The widths fill a word from its lowest bit on, and the word has no bit beyond them. -/
def canU (x : Int) (zs : List Int) : Prop := (∀ j, j < zs.length → okU zs j = true) ∧ fitsB x (sumTo zs zs.length) = true
theorem unpack_ok (a0 : Option Addr) (cap0 : Nat) (zs : List Int) (x : Int) (w : World) (hl0 : zs.length ≤ 100) (hx0 : 0 ≤ x ∧ x ≤ 18446744073709551615) (hI0 : Ints .i64 w.heap.size w (.slice a0 zs.length cap0) zs) (hA : canU x zs) :
    Calls Tryd.prog 44 #[.slice a0 zs.length cap0, .int .u64 x] w fun e W' => ∃ a c, e = .returned (.tuple #[.slice a zs.length c, .int .i64 0]) ∧ Ints .u64 W'.heap.size W' (.slice a zs.length c) (getsI x zs) ∧ Below w.heap.size w W' :=
  (unpack_in a0 cap0 zs x w (by omega) hx0 hI0).mono fun e W' ⟨h, hB⟩ => by
    rcases h with ⟨_, _, v, he, hr⟩ | ⟨h, _⟩
    · rw [getsI_gets] at hr
      obtain ⟨a, c, rfl, hi⟩ := ints_of_row hr (getsI_length x zs)
      exact ⟨a, c, he, hi, hB⟩
    · rcases h with ⟨j, hj, hb⟩ | hb
      · rw [hA.1 j hj] at hb; cases hb
      · rw [hA.2] at hb; cases hb
theorem runpack_ok (a0 : Option Addr) (cap0 : Nat) (zs : List Int) (x : Int) (w : World) (hl0 : zs.length ≤ 100) (hx0 : 0 ≤ x ∧ x ≤ 18446744073709551615) (hI0 : Ints .i64 w.heap.size w (.slice a0 zs.length cap0) zs) (hA : canU x zs) :
    Calls Tryd.prog 45 #[.slice a0 zs.length cap0, .int .u64 x] w fun e W' => ∃ a c, e = .returned (.tuple #[.slice a zs.length c, .int .i64 0]) ∧ Ints .u64 W'.heap.size W' (.slice a zs.length c) (getsI x zs) ∧ Below w.heap.size w W' :=
  (runpack_in a0 cap0 zs x w (by omega) hx0 hI0).mono fun e W' ⟨h, hB⟩ => by
    rcases h with ⟨_, _, v, he, hr⟩ | ⟨h, _⟩
    · rw [getsI_gets] at hr
      obtain ⟨a, c, rfl, hi⟩ := ints_of_row hr (getsI_length x zs)
      exact ⟨a, c, he, hi, hB⟩
    · rcases h with ⟨j, hj, hb⟩ | hb
      · rw [hA.1 j hj] at hb; cases hb
      · rw [hA.2] at hb; cases hb
theorem unpack_bad (a0 : Option Addr) (cap0 : Nat) (zs : List Int) (x : Int) (w : World) (hl0 : zs.length ≤ 100) (hx0 : 0 ≤ x ∧ x ≤ 18446744073709551615) (hI0 : Ints .i64 w.heap.size w (.slice a0 zs.length cap0) zs) (hA : ¬ canU x zs) :
    Calls Tryd.prog 44 #[.slice a0 zs.length cap0, .int .u64 x] w fun e W' => e = .returned (.tuple #[.slice none 0 0, .int .i64 1]) ∧ Below w.heap.size w W' :=
  (unpack_in a0 cap0 zs x w (by omega) hx0 hI0).mono fun e W' ⟨h, hB⟩ => by
    rcases h with ⟨h1, h2, _⟩ | ⟨_, he⟩
    · exact absurd ⟨h1, h2⟩ hA
    · exact ⟨he, hB⟩
theorem runpack_bad (a0 : Option Addr) (cap0 : Nat) (zs : List Int) (x : Int) (w : World) (hl0 : zs.length ≤ 100) (hx0 : 0 ≤ x ∧ x ≤ 18446744073709551615) (hI0 : Ints .i64 w.heap.size w (.slice a0 zs.length cap0) zs) (hA : ¬ canU x zs) :
    Calls Tryd.prog 45 #[.slice a0 zs.length cap0, .int .u64 x] w fun e W' => e = .returned (.tuple #[.slice none 0 0, .int .i64 1]) ∧ Below w.heap.size w W' :=
  (runpack_in a0 cap0 zs x w (by omega) hx0 hI0).mono fun e W' ⟨h, hB⟩ => by
    rcases h with ⟨h1, h2, _⟩ | ⟨_, he⟩
    · exact absurd ⟨h1, h2⟩ hA
    · exact ⟨he, hB⟩
end Go.Proofs.YtkodanflobclhaaDoor.Pfield
