/- What the document's own calls of layer 8 answer, for every argument that their types allow, over its clock. -/
import Derived.Test.YtjbchnnbphikhaaQuiA
import Derived.Test.YtjbchnnbphikhaaClkS
import Derived.Deep.CutBlock
namespace Go.Proofs.Ytjbchnnbphikhaa
open Go.RowKit
set_option linter.unusedVariables false

theorem RefIs.below {w w' : World} {base q N : Nat} {s : CS} (h : RefIs w base q N s) (m : Below w.heap.size w w') : RefIs w' base q N s := h.on fun k _ hk => m.block k hk
theorem rkernel_any (base q N : Nat) (s : CS) (t : Int) (w : World) (hN1 : 1 ≤ N) (hN : N ≤ 4) (hR : RefIs w base q N s) :
    Calls Try.prog 18 #[.pointer (some ⟨q, 0, none⟩), .int .i64 t] w fun e w' => e = .returned (.bool (quF N s 2 t)) ∧ Below w.heap.size w w' := by
  rw [quF_kernel s t hN1]
  have HR : Hid (RefIs w base q N s) := hR
  clear hR
  go_enter Try.func18, Try.ntmps18
  go_wp2_with (first
    | (go_at_call 29; refine (rfloor_any base q N s _ hN1 hN HR.out).mono ?_; rintro e w1 ⟨rfl, n, hw1⟩; have H1 : Hid (Below w.heap.size w w1) := (by rw [hw1]; exact below_drewN _ _ _); clear hw1)
    | fail)
  go_ret
  exact ⟨rfl, H1.out⟩
theorem ruser_any (base q N : Nat) (s : CS) (t : Int) (w : World) (hN1 : 1 ≤ N) (hN : N ≤ 4) (hR : RefIs w base q N s) :
    Calls Try.prog 20 #[.pointer (some ⟨q, 0, none⟩), .int .i64 t] w fun e w' => e = .returned (.bool (quF N s 1 t)) ∧ Below w.heap.size w w' := by
  rw [quF_user s t hN1]
  have HR : Hid (RefIs w base q N s) := hR
  clear hR
  go_enter Try.func20, Try.ntmps20
  go_wp2_with (first
    | (go_at_call 29; refine (rfloor_any base q N s _ hN1 hN HR.out).mono ?_; rintro e w1 ⟨rfl, n, hw1⟩; have H1 : Hid (Below w.heap.size w w1) := (by rw [hw1]; exact below_drewN _ _ _); clear hw1)
    | fail)
  go_ret
  exact ⟨rfl, H1.out⟩
theorem rfor_any (base q N : Nat) (s : CS) (was t : Int) (w : World) (hN1 : 1 ≤ N) (hN : N ≤ 4) (hR : RefIs w base q N s) :
    Calls Try.prog 22 #[.pointer (some ⟨q, 0, none⟩), .int .i64 was, .int .i64 t] w fun e w' => e = .returned (.bool (quF N s was t)) ∧ Below w.heap.size w w' := by
  have HU : Hid (Calls Try.prog 20 #[.pointer (some ⟨q, 0, none⟩), .int .i64 t] w fun e w' => e = .returned (.bool (quF N s 1 t)) ∧ Below w.heap.size w w') := ruser_any base q N s t w hN1 hN hR
  have HK : Hid (∀ w1, Below w.heap.size w w1 → Calls Try.prog 18 #[.pointer (some ⟨q, 0, none⟩), .int .i64 t] w1 fun e w' => e = .returned (.bool (quF N s 2 t)) ∧ Below w1.heap.size w1 w') := fun w1 h1 => rkernel_any base q N s t w1 hN1 hN (hR.below h1)
  clear hR
  by_cases h0 : was = 0
  · subst h0
    rw [quF_zero]
    go_enter Try.func22, Try.ntmps22
    go_wp2
    go_ret
    exact ⟨rfl, Below.refl _ _⟩
  have b0 : (was == 0) = false := by simp [h0]
  by_cases h1 : was = 1
  · subst h1
    obtain ⟨y, hy⟩ : ∃ y, y = quF N s 1 t := ⟨_, rfl⟩
    rw [← hy] at HU ⊢
    clear hy HK
    go_enter Try.func22, Try.ntmps22
    go_wp2_with (first
      | (go_at_call 20; refine HU.out.mono ?_; rintro e w1 ⟨rfl, hw1⟩; have H1 : Hid (Below w.heap.size w w1) := hw1; clear hw1)
      | fail)
    go_ret
    exact ⟨rfl, H1.out⟩
  have b1 : (was == 1) = false := by simp [h1]
  by_cases h2 : was = 2
  · subst h2
    obtain ⟨y, hy⟩ : ∃ y, y = quF N s 2 t := ⟨_, rfl⟩
    rw [← hy] at HK ⊢
    clear hy HU
    go_enter Try.func22, Try.ntmps22
    go_wp2_with (first
      | (go_at_call 18; refine (HK.out _ (Below.refl _ _)).mono ?_; rintro e w1 ⟨rfl, hw1⟩; have H1 : Hid (Below w.heap.size w w1) := hw1; clear hw1)
      | fail)
    go_ret
    exact ⟨rfl, H1.out⟩
  have b2 : (was == 2) = false := by simp [h2]
  by_cases h3 : was = 3
  · subst h3
    rw [quF_both]
    obtain ⟨y, hy⟩ : ∃ y, y = quF N s 1 t := ⟨_, rfl⟩
    obtain ⟨z, hz⟩ : ∃ y, y = quF N s 2 t := ⟨_, rfl⟩
    rw [← hy] at HU ⊢
    rw [← hz] at HK ⊢
    clear hy hz
    cases y
    · go_enter Try.func22, Try.ntmps22
      go_wp2_with (first
        | (go_at_call 20; refine HU.out.mono ?_; rintro e w1 ⟨rfl, hw1⟩; have H1 : Hid (Below w.heap.size w w1) := hw1; clear hw1)
        | fail)
      go_ret
      exact ⟨rfl, H1.out⟩
    · go_enter Try.func22, Try.ntmps22
      go_wp2_with (first
        | (go_at_call 20; refine HU.out.mono ?_; rintro e w1 ⟨rfl, hw1⟩; have H1 : Hid (Below w.heap.size w w1) := hw1; clear hw1)
        | (go_at_call 18; refine (HK.out _ H1.out).mono ?_; rintro e w2 ⟨rfl, hw2⟩; have H2 : Hid (Below w.heap.size w w2) := H1.out.trans (hw2.mono H1.out.size); clear hw2)
        | fail)
      go_ret
      exact ⟨rfl, H2.out⟩
  have b3 : (was == 3) = false := by simp [h3]
  by_cases hr : 0 ≤ was ∧ was ≤ 3
  · omega
  rw [quF_none hN1 (by omega)]
  clear hr
  go_enter Try.func22, Try.ntmps22
  go_wp2
  go_ret
  exact ⟨rfl, Below.refl _ _⟩

/-- How a core comes to be missing, or not: each way decides every test of the loop's round. -/
theorem ways (N : Nat) (s : CS) (was t y z : Int) (c : Nat) (hy : flS N s c = y) (hz : enS N s c = z) :
    (seenC N s was t c = true ∧ (was = 0 ∨ (was = 1 ∧ ¬ y ≤ t) ∨ (was = 2 ∧ ¬ z ≤ t) ∨ (was = 3 ∧ ¬ y ≤ t ∧ ¬ z ≤ t))) ∨
    (seenC N s was t c = false ∧ (was < 0 ∨ (3 < was ∧ ¬ was < 0) ∨ (was = 1 ∧ y ≤ t) ∨ (was = 2 ∧ z ≤ t) ∨ (was = 3 ∧ y ≤ t) ∨ (was = 3 ∧ ¬ y ≤ t ∧ z ≤ t))) := by
  unfold seenC
  rw [hy, hz]
  by_cases h0 : was = 0
  · left; simp [h0]
  by_cases h3 : was = 3
  · subst h3
    by_cases a : y ≤ t
    · right; simp [a]; omega
    · by_cases b : z ≤ t
      · right; simp [a, b]
      · left; simp [a, b]; omega
  by_cases h2 : was = 2
  · subst h2
    by_cases b : z ≤ t
    · right; simp [b]
    · left; simp [b]; omega
  by_cases h1 : was = 1
  · subst h1
    by_cases b : y ≤ t
    · right; simp [b]
    · left; simp [b]; omega
  right
  simp only [h0, h3, h2, h1, if_false, true_and, false_and, or_false]
  omega
set_option maxRecDepth 100000 in
set_option maxHeartbeats 2000000 in
theorem rleft_any (base q N : Nat) (s : CS) (was t : Int) (w : World) (hN1 : 1 ≤ N) (hN : N ≤ 4) (hR : RefIs w base q N s) :
    Calls Try.prog 16 #[.pointer (some ⟨q, 0, none⟩), .int .i64 was, .int .i64 t] w fun e w' => (∃ v, e = .returned v ∧ Got w' w.heap.size v (leftL N s was t)) ∧ Below w.heap.size w w' := by
  obtain ⟨it, hi, hz0, hz1, hz2⟩ := info_parts infoI
  obtain ⟨r1, r2, r3, c1, c2, c3, h⟩ := id hR
  have HR : Hid (RefAt w base q N s r1 r2 r3 c1 c2 c3) := h
  clear h hR
  unfold leftL
  obtain ⟨f, hf⟩ : ∃ f : Nat → Bool, f = fun (i : Nat) => seenC N s was t (i : Int) := ⟨_, rfl⟩
  rw [← hf]
  have HF : Hid (∀ i : Nat, seenC N s was t i = f i) := fun i => by rw [hf]
  clear hf
  go_enter Try.func16, Try.ntmps16
  go_wp2
  go_loopw [7, 8] (fun l i wr => ∃ k : Nat, k ≤ N ∧ i = .int .i64 k ∧ wr.ownsRow w.heap.size 3 1 l (leftU f k).length (vals (leftU f k)) ∧ Below w.heap.size w wr) (fun _ i _ => N - (intOf i).toNat)
  case atStart => exact ⟨0, by omega, rfl, World.ownsRow_nil _ _ _ _, Below.refl _ _⟩
  case round =>
    obtain ⟨k, hk, rfl, hO, hB⟩ := hrel
    have HO : Hid (wr.ownsRow w.heap.size 3 1 u7 (leftU f k).length (vals (leftU f k))) := hO
    have HB : Hid (Below w.heap.size w wr) := hB
    have R := HR.out.on (w' := wr) fun j _ hj => hB.block j hj
    have x1 := R.c1
    have x2 := R.c2
    have x3 := R.c3
    by_cases hlt : k < N
    · have hki : (k : Int) < (N : Int) := by omega
      have y2 := R.l2.cell hlt
      have y3 := R.l3.cell hlt
      have W := ways N s was t (s.fl k) (s.en k) k (flS_at hlt) (enS_at hlt)
      rw [HF.out k] at W
      obtain ⟨y, hy⟩ : ∃ y, y = s.fl k := ⟨_, rfl⟩
      obtain ⟨z, hz⟩ : ∃ z, z = s.en k := ⟨_, rfl⟩
      rw [← hy] at W y3
      rw [← hz] at W y2
      have hl := len_leftU f k
      have hsz := HB.out.size
      clear hO hB R hy hz
      rcases W with ⟨hb, W⟩ | ⟨hb, W⟩
      · have HB1 : Hid (f k = true) := hb
        clear hb
        rcases W with rfl | ⟨rfl, a⟩ | ⟨rfl, a⟩ | ⟨rfl, a, b⟩
        all_goals
          go_wp2
          go_roundw
          case rel =>
            refine ⟨k + 1, by omega, by go_num, ?_, HB.out⟩
            rw [leftU_yes HB1.out]
            exact HO.out
          case measure => simp [intOf]; omega
      · have HB1 : Hid (f k = false) := hb
        clear hb
        rcases W with a | ⟨a, b⟩ | ⟨rfl, a⟩ | ⟨rfl, a⟩ | ⟨rfl, a⟩ | ⟨rfl, a, b⟩
        all_goals
          go_wp2_with (first
            | (at_builtin; refine wpList_append_own_at _ rfl _ _ 23 rfl w.heap.size 3 it (.int .i64 0) 1 8 Try.underlying23 hi hz0 hz1 hz2 rfl (by decide) _ _ _ rfl (HO.out.alloc _) _ 1 1 [.int .i64 (k : Int)] rfl rfl (one_cell wr _ _) (by simp [Value.oneCell']) (by unfold maxLen; omega) (by omega) (by simp; omega) ?_; intro v1 w3 hown hgrow _ hat; have HO3 : Hid (w3.ownsRow w.heap.size 3 1 v1 (leftU f (k + 1)).length (vals (leftU f (k + 1)))) := (by rw [leftU_no HB1.out, vals_snoc, List.length_append, List.length_singleton]; exact hown); have H3 : Hid (Below w.heap.size w w3) := (HB.out.alloc hsz _).grown hgrow (by simp; omega) (own_ge' HO.out); clear hown hgrow hat)
            | fail)
          go_roundw
          case rel => exact ⟨k + 1, by omega, by go_num, HO3.out, H3.out⟩
          case measure => simp [intOf]; omega
    · obtain rfl : k = N := by omega
      clear hO hB R
      go_wp2
      go_ret
      exact ⟨⟨_, rfl, got_of_own HO.out⟩, HB.out⟩

end Go.Proofs.Ytjbchnnbphikhaa
