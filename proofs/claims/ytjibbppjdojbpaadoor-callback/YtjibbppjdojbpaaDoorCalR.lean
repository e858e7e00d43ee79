/- What the document's rows, Needs, Word and Number of layer 24 answer, for all arguments. -/
import Derived.Test.YtjibbppjdojbpaaDoorCalF
namespace Go.Proofs.YtjibbppjdojbpaaDoor.Pcall
open Go.Proofs.YtjibbppjdojbpaaDoor.Pbase Go.Proofs.YtjibbppjdojbpaaDoor.Pfield
open Go.RowKit M
set_option linter.unusedVariables false

/-! ### rows -/
set_option maxRecDepth 100000 in
theorem rwords_any (w : World) : Calls Tryd.prog 26 #[] w fun e w' => e = .returned (.slice (some ⟨w.heap.size, 0, none⟩) 30 30) ∧ RowX w' w.heap.size wsV ∧ Below w.heap.size w w' := by
  go_enter Tryd.func26, Tryd.ntmps26
  go_wp2
  go_ret
  exact ⟨rfl, rowX_new w wsV _, bal (Below.refl _ _) _⟩
set_option maxRecDepth 100000 in
theorem rnds_any (w : World) : Calls Tryd.prog 31 #[] w fun e w' => e = .returned (.slice (some ⟨w.heap.size, 0, none⟩) 30 30) ∧ RowX w' w.heap.size ndV ∧ Below w.heap.size w w' := by
  go_enter Tryd.func31, Tryd.ntmps31
  go_wp2
  go_ret
  exact ⟨rfl, rowX_new w ndV _, bal (Below.refl _ _) _⟩
def wlV : List Value := wl.map fun z => .int .i64 z
set_option maxRecDepth 100000 in
theorem rwidths_any (w : World) : Calls Tryd.prog 21 #[] w fun e w' => e = .returned (.slice (some ⟨w.heap.size, 0, none⟩) 6 6) ∧ RowX w' w.heap.size wlV ∧ Below w.heap.size w w' := by
  go_enter Tryd.func21, Tryd.ntmps21
  go_wp2
  go_ret
  exact ⟨rfl, rowX_new w wlV _, bal (Below.refl _ _) _⟩
/-! ### Needs, Word -/
set_option maxRecDepth 100000 in
theorem rneeds_any (n : Int) (w : World) : Calls Tryd.prog 15 #[.int .i64 n] w fun e w' => e = .returned (.int .i64 (ndI n)) ∧ Below w.heap.size w w' := by
  by_cases hn : 0 ≤ n ∧ n ≤ 29
  · obtain ⟨k, rfl⟩ : ∃ k : Nat, n = k := ⟨n.toNat, by omega⟩
    have hk : k ≤ 29 := by omega
    have hv := ndV_at hk
    generalize ndI k = z at hv ⊢
    have h1 : ¬ (k : Int) < 0 := by omega
    have h2 : ¬ 29 < (k : Int) := by omega
    have h3 : k < 30 := by omega
    have HV := chide hv
    clear hn hv
    go_enter Tryd.func15, Tryd.ntmps15
    go_wp2_with (first
      | (go_at_call 31; refine (rnds_any _).mono ?_; rintro e1 w1 ⟨rfl, hr, hb⟩; have H1 := chide hb; have x0 := (hr.cell k).trans HV.out; clear hr hb)
      | fail)
    go_ret
    exact ⟨rfl, H1.out⟩
  · rw [ndI_no hn]
    rcases (show n < 0 ∨ (¬ n < 0 ∧ 29 < n) by omega) with h1 | ⟨h1, h2⟩
    all_goals
      clear hn
      go_enter Tryd.func15, Tryd.ntmps15
      go_wp2
      go_ret
      exact ⟨rfl, Below.refl _ _⟩
set_option maxRecDepth 100000 in
theorem rword_any (n : Int) (w : World) : Calls Tryd.prog 17 #[.int .i64 n] w fun e w' => e = .returned (.string (wdT n)) ∧ Below w.heap.size w w' := by
  by_cases hn : 0 ≤ n ∧ n ≤ 29
  · obtain ⟨k, rfl⟩ : ∃ k : Nat, n = k := ⟨n.toNat, by omega⟩
    have hk : k ≤ 29 := by omega
    have hv := wsV_at hk
    rw [wdT_at hk]
    generalize wsL[k]?.getD noT = z at hv ⊢
    have h1 : ¬ (k : Int) < 0 := by omega
    have h2 : ¬ 29 < (k : Int) := by omega
    have h3 : k < 30 := by omega
    have HV := chide hv
    clear hn hv
    go_enter Tryd.func17, Tryd.ntmps17
    go_wp2_with (first
      | (go_at_call 26; refine (rwords_any _).mono ?_; rintro e1 w1 ⟨rfl, hr, hb⟩; have H1 := chide hb; have x0 := (hr.cell k).trans HV.out; clear hr hb)
      | fail)
    go_ret
    exact ⟨rfl, H1.out⟩
  · rw [wdT_no hn]
    rcases (show n < 0 ∨ (¬ n < 0 ∧ 29 < n) by omega) with h1 | ⟨h1, h2⟩
    all_goals
      clear hn
      go_enter Tryd.func17, Tryd.ntmps17
      go_wp2
      go_ret
      exact ⟨rfl, Below.refl _ _⟩
/-! ### Number -/
set_option maxRecDepth 100000 in
theorem rnumber_any (s : ByteArray) (w : World) : Calls Tryd.prog 11 #[.string s] w fun e w' => e = .returned (.tuple #[.int .i64 (nuI s), .bool (nuB s)]) ∧ Below w.heap.size w w' := by
  go_enter Tryd.func11, Tryd.ntmps11
  go_wp2_with (first
    | (go_at_call 26; refine (rwords_any _).mono ?_; rintro e1 w1 ⟨rfl, hr, hb⟩; have H1 : Hid (RowX w1 w.heap.size wsV ∧ Below w.heap.size w w1) := ⟨hr, hb⟩; clear hr hb)
    | fail)
  go_loopw [5] (fun i wr => ∃ k : Nat, k ≤ 30 ∧ i = .int .i64 k ∧ (∀ j, j < k → ((wsL[j]?.getD noT).toList == s.toList) = false) ∧ RowX wr w.heap.size wsV ∧ Below w.heap.size w wr) (fun i _ => 30 - (intOf i).toNat)
  case atStart => exact ⟨0, by omega, rfl, fun j hj => by omega, H1.out.1, H1.out.2⟩
  case round =>
    obtain ⟨k, hk, rfl, hJ, hR, hB⟩ := hrel
    have HJ := chide hJ
    have HR := chide hR
    have HB := chide hB
    clear hJ hR hB H1
    by_cases hlt : k < 30
    · have x0 := (HR.out.cell k).trans (wsV_at (show k ≤ 29 by omega))
      have h3 : (k : Int) < 30 := by omega
      by_cases he : ((wsL[k]?.getD noT).toList == s.toList) = true
      · have HE := chide (nu_hit hlt he HJ.out)
        clear HJ
        generalize wsL[k]?.getD noT = z at he x0
        go_wp2
        go_ret2
        exact ⟨by rw [HE.out.1, HE.out.2]; rfl, HB.out⟩
      · have he' : ((wsL[k]?.getD noT).toList == s.toList) = false := Bool.eq_false_iff.2 he
        have HE := chide he'
        clear he
        generalize wsL[k]?.getD noT = z at he' x0
        go_wp2
        go_roundw
        case rel => exact ⟨k + 1, by omega, by go_num, fun j hj => by
          rcases (show j < k ∨ j = k by omega) with h | rfl
          · exact HJ.out j h
          · exact HE.out, HR.out, HB.out⟩
        case measure => simp [intOf]; omega
    · obtain rfl : k = 30 := by omega
      have HE := chide (nu_miss HJ.out)
      clear HJ
      go_wp2
      go_ret2
      exact ⟨by rw [HE.out.1, HE.out.2]; rfl, HB.out⟩
end Go.Proofs.YtjibbppjdojbpaaDoor.Pcall
