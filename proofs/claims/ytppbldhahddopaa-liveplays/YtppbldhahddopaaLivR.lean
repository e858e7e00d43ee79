/- The document's own table (a list of structs): where it lies, and what its Valid and Count answer, for every argument. -/
import Derived.Test.YtppbldhahddopaaLivC
namespace Go.Proofs.Ytppbldhahddopaa
open Go.RowKit
set_option linter.unusedVariables false

/-- The fields in the document's order. -/
def fldR (s : LS) (k : Nat) : Value := if k = 0 then .bool s.on else if k = 1 then .int .i64 s.ep else if k = 2 then .bool (decide (0 < s.ep)) else .int .i64 s.tm
/-- Block r holds a list whose first N rows of four cells are F's. -/
def ListV (w : World) (r N : Nat) (F : Nat → Nat → Value) : Prop := ∃ cur, w.heap[r]? = some (.cells cur 50 (0, 0)) ∧ ∀ n k, n < N → k < 4 → cur[n * 4 + k]? = some (F n k)
theorem ListV.fld {w : World} {r N : Nat} {F : Nat → Nat → Value} (h : ListV w r N F) {n k : Nat} (hn : n < N) (hk : k < 4) : w.cell? ⟨r, n * 4 + k, none⟩ = some (F n k) := by
  obtain ⟨cur, h1, h2⟩ := h
  rw [cell_of_row w r _ _ _ _ h1, h2 n k hn hk]
theorem ListV.free {w : World} {r N : Nat} {F : Nat → Nat → Value} (h : ListV w r N F) (j : Nat) : w.frozen? ⟨r, j, none⟩ = false := by
  obtain ⟨cur, h1, _⟩ := h
  exact frozen_of_row w r j _ _ h1
theorem ListV.on {w w' : World} {r N : Nat} {F : Nat → Nat → Value} (h : ListV w r N F) (hk : w'.heap[r]? = w.heap[r]?) : ListV w' r N F := by
  obtain ⟨cur, h1, h2⟩ := h
  exact ⟨cur, hk.trans h1, h2⟩
theorem ListV.lt {w : World} {r N : Nat} {F : Nat → Nat → Value} (h : ListV w r N F) : r < w.heap.size := by
  obtain ⟨cur, h1, _⟩ := h
  exact (Array.getElem?_eq_some_iff.1 h1).1
def put2 (F : Nat → Nat → Value) (n k : Nat) (v : Value) : Nat → Nat → Value := fun m j => if m = n ∧ j = k then v else F m j
theorem ListV.put {w : World} {r N : Nat} {F : Nat → Nat → Value} (h : ListV w r N F) {n k : Nat} (hn : n < N) (hk : k < 4) (v : Value) : ListV (w.setCell ⟨r, n * 4 + k, none⟩ v) r N (put2 F n k v) := by
  obtain ⟨cur, h1, h2⟩ := h
  refine ⟨cur.setIfInBounds (n * 4 + k) v, heap_setCell_same _ _ _ _ _ _ h1, fun m j hm hj => ?_⟩
  rw [Array.getElem?_setIfInBounds]
  by_cases e : n * 4 + k = m * 4 + j
  · obtain rfl : n = m := by omega
    obtain rfl : k = j := by omega
    have hlt : n * 4 + k < cur.size := by
      rcases Nat.lt_or_ge (n * 4 + k) cur.size with h | h
      · exact h
      · have := h2 n k hn hk; rw [Array.getElem?_eq_none h] at this; cases this
    rw [if_pos rfl, if_pos hlt]
    simp [put2]
  · rw [if_neg e, h2 m j hm hj]
    have : ¬ (m = n ∧ j = k) := by omega
    simp [put2, this]
theorem ListV.put0 {w : World} {r N : Nat} {F : Nat → Nat → Value} (h : ListV w r N F) {n : Nat} (hn : n < N) (v : Value) : ListV (w.setCell ⟨r, n * 4, none⟩ v) r N (put2 F n 0 v) := h.put (k := 0) hn (by omega) v
theorem ListV.congr {w : World} {r N : Nat} {F G : Nat → Nat → Value} (h : ListV w r N F) (e : ∀ n k, n < N → k < 4 → F n k = G n k) : ListV w r N G := by
  obtain ⟨cur, h1, h2⟩ := h
  exact ⟨cur, h1, fun n k hn hk => by rw [← e n k hn hk]; exact h2 n k hn hk⟩
/-- Block r holds a list whose first N ids are S's. -/
def ListR (w : World) (r N : Nat) (S : Nat → LS) : Prop := ListV w r N fun n k => fldR (S n) k
theorem ListR.at {w : World} {r N : Nat} {S : Nat → LS} (h : ListR w r N S) {n : Nat} (hn : n < N) :
    w.cell? ⟨r, n * 4, none⟩ = some (.bool (S n).on) ∧ w.cell? ⟨r, n * 4 + 1, none⟩ = some (.int .i64 (S n).ep) ∧ w.cell? ⟨r, n * 4 + 2, none⟩ = some (.bool (decide (0 < (S n).ep))) ∧ w.cell? ⟨r, n * 4 + 3, none⟩ = some (.int .i64 (S n).tm) :=
  ⟨ListV.fld h (k := 0) hn (by omega), ListV.fld h hn (by omega), ListV.fld h hn (by omega), ListV.fld h hn (by omega)⟩
/-- It was taken. -/
theorem ListR.take {w : World} {r N : Nat} {S : Nat → LS} (h : ListR w r N S) {n : Nat} (hn : n < N) : ListR (w.setCell ⟨r, n * 4, none⟩ (.bool true)) r N (upd S n { S n with on := true }) :=
  (ListV.put0 h hn (.bool true)).congr fun m j hm hj => by
    simp only [put2]
    by_cases e : m = n
    · subst e
      rw [upd_same]
      match j, hj with
      | 0, _ => simp [fldR]
      | 1, _ => simp [fldR]
      | 2, _ => simp [fldR]
      | 3, _ => simp [fldR]
    · simp [e, upd_other]
/-- It was killed. -/
theorem ListR.kill {w : World} {r N : Nat} {S : Nat → LS} (h : ListR w r N S) {n : Nat} (hn : n < N) (e now : Int) (he : 0 ≤ e) :
    ListR ((((w.setCell ⟨r, n * 4, none⟩ (.bool false)).setCell ⟨r, n * 4 + 1, none⟩ (.int .i64 (e + 1))).setCell ⟨r, n * 4 + 2, none⟩ (.bool true)).setCell ⟨r, n * 4 + 3, none⟩ (.int .i64 now)) r N (upd S n ⟨false, e + 1, now⟩) :=
  ((((ListV.put0 h hn (.bool false)).put hn (k := 1) (by omega) _).put hn (k := 2) (by omega) _).put hn (k := 3) (by omega) _).congr fun m j hm hj => by
    simp only [put2]
    by_cases e : m = n
    · subst e
      rw [upd_same]
      match j, hj with
      | 0, _ => simp [fldR]
      | 1, _ => simp [fldR]
      | 2, _ => simp [fldR]; omega
      | 3, _ => simp [fldR]
    · simp [e, upd_other]
/-- The document's table lies behind the pointer to block q, its list in block r: both from base on. -/
structure RefAt (w : World) (base q N : Nat) (S : Nat → LS) (r c : Nat) : Prop where
  ge : base ≤ q
  head : w.heap[q]? = some (.cells #[.slice (some ⟨r, 0, none⟩) N c] 48 (0, 0))
  list : ListR w r N S
  ger : base ≤ r
  ok : okA S
def RefIs (w : World) (base q N : Nat) (S : Nat → LS) : Prop := ∃ r c, RefAt w base q N S r c
theorem RefAt.cell {w : World} {base q N : Nat} {S : Nat → LS} {r c : Nat} (h : RefAt w base q N S r c) : w.cell? ⟨q, 0, none⟩ = some (.slice (some ⟨r, 0, none⟩) N c) := by
  rw [cell_of_row w q 0 _ _ _ h.head]; rfl
theorem RefAt.ne {w : World} {base q N : Nat} {S : Nat → LS} {r c : Nat} (h : RefAt w base q N S r c) : q ≠ r := by
  rintro rfl
  obtain ⟨cur, h1, _⟩ := h.list
  have := h.head.symm.trans h1
  simp at this
theorem RefAt.lt {w : World} {base q N : Nat} {S : Nat → LS} {r c : Nat} (h : RefAt w base q N S r c) : q < w.heap.size := (Array.getElem?_eq_some_iff.1 h.head).1
theorem RefAt.on {w w' : World} {base q N : Nat} {S : Nat → LS} {r c : Nat} (h : RefAt w base q N S r c) (hk : ∀ k, base ≤ k → k < w.heap.size → w'.heap[k]? = w.heap[k]?) : RefAt w' base q N S r c :=
  ⟨h.ge, (hk q h.ge h.lt).trans h.head, ListV.on h.list (hk r h.ger (ListV.lt h.list)), h.ger, h.ok⟩
theorem RefAt.more {w w' : World} {base q N : Nat} {S : Nat → LS} {r c : Nat} (h : RefAt w base q N S r c) (m : Below w.heap.size w w') : RefAt w' base q N S r c := h.on fun k _ hk => m.block k hk
theorem RefIs.on {w w' : World} {base q N : Nat} {S : Nat → LS} (h : RefIs w base q N S) (hk : ∀ k, base ≤ k → k < w.heap.size → w'.heap[k]? = w.heap[k]?) : RefIs w' base q N S := by
  obtain ⟨r, c, h⟩ := h
  exact ⟨r, c, h.on hk⟩
theorem RefIs.more {w w' : World} {base q N : Nat} {S : Nat → LS} (h : RefIs w base q N S) (m : Below w.heap.size w w') : RefIs w' base q N S := h.on fun k _ hk => m.block k hk
theorem RefIs.drewN {w : World} {base q N : Nat} {S : Nat → LS} (h : RefIs w base q N S) (n : Nat) : RefIs (w.drewN n) base q N S := h.on fun _ _ _ => rfl
theorem RefIs.drew {w : World} {base q N : Nat} {S : Nat → LS} (h : RefIs w base q N S) : RefIs w.drew base q N S := h.on fun _ _ _ => rfl
/-- The list was written, and nothing else of the table. -/
theorem RefAt.wrote {w w' : World} {base q N : Nat} {S T : Nat → LS} {r c : Nat} (h : RefAt w base q N S r c) (hq : w'.heap[q]? = w.heap[q]?) (hl : ListR w' r N T) (hT : okA T) : RefAt w' base q N T r c := ⟨h.ge, hq.trans h.head, hl, h.ger, hT⟩

/-! ### Valid -/
theorem rvalid_at (q r c N : Nat) (S : Nat → LS) (id ep : Int) (w : World) (hN : N ≤ 64) (hp : w.cell? ⟨q, 0, none⟩ = some (.slice (some ⟨r, 0, none⟩) N c)) (hl : ListR w r N S) :
    Calls Try.prog 15 #[.pointer (some ⟨q, 0, none⟩), .int .i64 id, .int .i64 ep] w fun e w' => e = .returned (.bool (vaA N S id ep)) ∧ w' = w := by
  have HL : Hid (ListR w r N S) := hl
  clear hl
  rcases hk : okF N id with _ | _
  · have e1 : vaA N S id ep = false := by simp [vaA, hk]
    rw [e1]
    clear e1
    have hf := okF_no hk
    by_cases h0 : 0 ≤ id
    · have h1 : ¬ id < N := by omega
      clear hf hk
      go_enter Try.func15, Try.ntmps15
      go_wp2
      go_ret
      exact ⟨rfl, rfl⟩
    · clear hf hk
      go_enter Try.func15, Try.ntmps15
      go_wp2
      go_ret
      exact ⟨rfl, rfl⟩
  · obtain ⟨n, rfl, hn⟩ := okF_split hk
    have hni : (n : Int) < (N : Int) := by omega
    have e1 : vaA N S n ep = inE ep (S n) := by simp [vaA, hk]
    rw [e1, inE]
    obtain ⟨c0, c1, c2, c3⟩ := HL.out.at hn
    clear e1 c2 c3
    rcases ho : (S n).on with _ | _
    · rw [ho] at c0
      simp only [Bool.false_and]
      go_enter Try.func15, Try.ntmps15
      go_wp2
      go_ret
      exact ⟨rfl, rfl⟩
    · rw [ho] at c0
      simp only [Bool.true_and]
      go_enter Try.func15, Try.ntmps15
      go_wp2
      go_ret
      exact ⟨rfl, rfl⟩
theorem rvalid_any (base q N : Nat) (S : Nat → LS) (id ep : Int) (w : World) (hN : N ≤ 64) (hR : RefIs w base q N S) :
    Calls Try.prog 15 #[.pointer (some ⟨q, 0, none⟩), .int .i64 id, .int .i64 ep] w fun e w' => e = .returned (.bool (vaA N S id ep)) ∧ w' = w := by
  obtain ⟨r, c, h⟩ := hR
  exact rvalid_at q r c N S id ep w hN h.cell h.list

/-! ### Count -/
theorem rcount_any (base q N : Nat) (S : Nat → LS) (w : World) (hN : N ≤ 64) (hR : RefIs w base q N S) :
    Calls Try.prog 17 #[.pointer (some ⟨q, 0, none⟩)] w fun e w' => e = .returned (.int .i64 (cnt S N)) ∧ w' = w := by
  obtain ⟨r, c, h⟩ := hR
  have HL : Hid (ListR w r N S) := h.list
  have d0 := h.cell
  clear h
  go_enter Try.func17, Try.ntmps17
  go_wp2
  go_loopw [3, 4] (fun c i wr => ∃ k : Nat, k ≤ N ∧ c = .int .i64 (cnt S k) ∧ i = .int .i64 k ∧ wr = w) (fun c i _ => N - (intOf i).toNat)
  case atStart => exact ⟨0, by omega, rfl, rfl, rfl⟩
  case round =>
    obtain ⟨k, hk, rfl, rfl, hwr⟩ := hrel
    subst wr
    have hc0 := cnt_le S k
    by_cases hlt : k < N
    · have hki : (k : Int) < (N : Int) := by omega
      obtain ⟨c0, c1, c2, c3⟩ := HL.out.at hlt
      clear c1 c2 c3
      cases ho : (S k).on
      · have hs : cnt S (k + 1) = cnt S k := by simp [cnt, ho]
        rw [ho] at c0
        go_wp2
        go_roundw
        case rel => exact ⟨k + 1, by omega, by rw [hs], by go_num, by first | rfl | trivial⟩
        case measure => simp [intOf]; omega
      · have hs : cnt S (k + 1) = cnt S k + 1 := by simp [cnt, ho]
        rw [ho] at c0
        go_wp2
        go_roundw
        case rel => exact ⟨k + 1, by omega, by rw [hs]; go_num, by go_num, by first | rfl | trivial⟩
        case measure => simp [intOf]; omega
    · obtain rfl : k = N := by omega
      go_wp2
      go_ret
      exact ⟨rfl, rfl⟩

end Go.Proofs.Ytppbldhahddopaa
