/- The document's answer for what is remembered: where it lies; what its New, Flush, Get do. -/
import Derived.Test.YtamfdnkjfmfcoaaTlbK
import Derived.BigQuiet
namespace Go.Proofs.Ytamfdnkjfmfcoaa
open Go.RowKit Go.ChangeMaps
set_option linter.unusedVariables false

/-- The six cells of an entry. -/
def rc (x : En) : List Value := [.int .i64 x.1.1, .int .i64 x.1.2, .bool x.2.1.1, .int .i64 x.2.1.2.1, .int .i64 x.2.1.2.2.1, .int .i64 x.2.1.2.2.2]
def rcells (S : List En) : List Value := S.flatMap rc
theorem rcells_len (S : List En) : (rcells S).length = S.length * 6 := by
  induction S with
  | nil => rfl
  | cons x S ih =>
    have : rcells (x :: S) = rc x ++ rcells S := rfl
    rw [this, List.length_append, ih]
    simp [rc]; omega
theorem rcells_snoc (S : List En) (x : En) : rcells (S ++ [x]) = rcells S ++ rc x := by simp [rcells]
theorem rcells_get : ∀ (S : List En) (j c : Nat) (x : En), S[j]? = some x → c < 6 → (rcells S)[j * 6 + c]? = (rc x)[c]?
  | [], j, c, x, h, _ => by simp at h
  | y :: S, 0, c, x, h, hc => by
    simp at h
    subst h
    have e : rcells (y :: S) = rc y ++ rcells S := rfl
    rw [e, List.getElem?_append_left (by simp [rc]; omega)]
    simp
  | y :: S, j + 1, c, x, h, hc => by
    have := rcells_get S j c x (by simpa using h) hc
    have e : rcells (y :: S) = rc y ++ rcells S := rfl
    rw [e, List.getElem?_append_right (by simp [rc]; omega)]
    have e2 : (j + 1) * 6 + c - (rc y).length = j * 6 + c := by simp [rc]; omega
    rw [e2]
    exact this
/-- The document's Tlb lies behind the pointer to block q; its entries are S's, its list at ao; all in blocks from n₀ on. -/
structure RefIs (n₀ : Nat) (w : World) (q : Nat) (room : Int) (ao : Option Addr) (cap : Nat) (S : List En) : Prop where
  row : w.heap[q]? = some (.cells #[.slice ao S.length cap, .int .i64 room] 43 (0, 0))
  base : n₀ ≤ q
  capn : S.length ≤ cap
  held : (S = [] ∧ (ao = none ∨ ∃ a, ao = some a)) ∨ ∃ g off cur, ao = some ⟨g, off, none⟩ ∧ n₀ ≤ g ∧ w.heap[g]? = some (.cells cur 47 (0, 0)) ∧ ∀ t, t < S.length * 6 → cur[off + t]? = (rcells S)[t]?
theorem RefIs.cell {n₀ : Nat} {w : World} {q : Nat} {room : Int} {ao : Option Addr} {cap : Nat} {S : List En} (h : RefIs n₀ w q room ao cap S) : w.cell? ⟨q, 0, none⟩ = some (.slice ao S.length cap) := by
  rw [cell_of_row w q 0 _ _ _ h.row]; rfl
theorem RefIs.room {n₀ : Nat} {w : World} {q : Nat} {room : Int} {ao : Option Addr} {cap : Nat} {S : List En} (h : RefIs n₀ w q room ao cap S) : w.cell? ⟨q, 1, none⟩ = some (.int .i64 room) := by
  rw [cell_of_row w q 1 _ _ _ h.row]; rfl
theorem RefIs.free {n₀ : Nat} {w : World} {q : Nat} {room : Int} {ao : Option Addr} {cap : Nat} {S : List En} (h : RefIs n₀ w q room ao cap S) (j : Nat) : w.frozen? ⟨q, j, none⟩ = false := frozen_of_row w q j _ _ h.row
theorem RefIs.lt {n₀ : Nat} {w : World} {q : Nat} {room : Int} {ao : Option Addr} {cap : Nat} {S : List En} (h : RefIs n₀ w q room ao cap S) : q < w.heap.size := (Array.getElem?_eq_some_iff.1 h.row).1
/-- Entry j lies at ⟨g, off + j * 6⟩. -/
theorem RefIs.ent {n₀ : Nat} {w : World} {q : Nat} {room : Int} {ao : Option Addr} {cap : Nat} {S : List En} (h : RefIs n₀ w q room ao cap S) {j : Nat} {x : En} (hx : S[j]? = some x) :
    ∃ g off, ao = some ⟨g, off, none⟩ ∧ n₀ ≤ g ∧ g ≠ q ∧ g < w.heap.size ∧ (∀ c, c < 6 → w.cell? ⟨g, off + j * 6 + c, none⟩ = (rc x)[c]?) ∧ ∀ i, w.frozen? ⟨g, i, none⟩ = false := by
  have hj : j < S.length := (List.getElem?_eq_some_iff.1 hx).1
  rcases h.held with ⟨rfl, _⟩ | ⟨g, off, cur, e, hg, hr, hc⟩
  · simp at hj
  · refine ⟨g, off, e, hg, ?_, (Array.getElem?_eq_some_iff.1 hr).1, fun c hc6 => ?_, fun i => frozen_of_row w g i _ _ hr⟩
    · intro e2
      have := h.row
      rw [← e2, hr] at this
      cases this
    · rw [cell_of_row w g _ _ _ _ hr, Nat.add_assoc, hc (j * 6 + c) (by omega), rcells_get S j c x hx hc6]
/-- Blocks of the document's own alone were written, and blocks were made. -/
structure Other (w w' : World) : Prop where
  os : w'.os = w.os
  tape : w'.tape = w.tape
  output : w'.output = w.output
  size : w.heap.size ≤ w'.heap.size
  block : ∀ i, i < w.heap.size → (∀ c f, w.heap[i]? ≠ some (.cells c 43 f)) → (∀ c f, w.heap[i]? ≠ some (.cells c 47 f)) → w'.heap[i]? = w.heap[i]?
theorem Other.of_below {w w' : World} (h : Below w.heap.size w w') : Other w w' := ⟨h.os, h.tape, h.output, h.size, fun i hi _ _ => h.block i hi⟩
theorem TlbIs.other {w w' : World} {p b : Nat} {r : Int} {S : List En} (h : TlbIs w p b r S) (k : Other w w') : TlbIs w' p b r S := by
  refine h.on (k.block p h.lt (fun c f e => ?_) (fun c f e => ?_)) (k.block b h.map.lt (fun c f e => ?_) (fun c f e => ?_))
  · rw [h.row] at e; cases e
  · rw [h.row] at e; cases e
  · obtain ⟨es, clock, hb, _⟩ := h.map
    rw [hb] at e; cases e
  · obtain ⟨es, clock, hb, _⟩ := h.map
    rw [hb] at e; cases e
theorem RefIs.on {n₀ : Nat} {w w' : World} {q : Nat} {room : Int} {ao : Option Addr} {cap : Nat} {S : List En} (h : RefIs n₀ w q room ao cap S) (hq : w'.heap[q]? = w.heap[q]?) (hg : ∀ g off, ao = some ⟨g, off, none⟩ → ∀ c, w.heap[g]? = some (.cells c 47 (0, 0)) → w'.heap[g]? = w.heap[g]?) : RefIs n₀ w' q room ao cap S := by
  refine ⟨hq.trans h.row, h.base, h.capn, ?_⟩
  rcases h.held with h0 | ⟨g, off, cur, e, hb, hr, hc⟩
  · exact .inl h0
  · exact .inr ⟨g, off, cur, e, hb, (hg g off e cur hr).trans hr, hc⟩
theorem RefIs.more {n₀ : Nat} {w w' : World} {q : Nat} {room : Int} {ao : Option Addr} {cap : Nat} {S : List En} (h : RefIs n₀ w q room ao cap S) (k : Below w.heap.size w w') : RefIs n₀ w' q room ao cap S :=
  h.on (k.block q h.lt) (fun g off _ c hr => k.block g (Array.getElem?_eq_some_iff.1 hr).1)
theorem RefIs.but {n₀ : Nat} {w w' : World} {q b : Nat} {room : Int} {ao : Option Addr} {cap : Nat} {S S' : List En} (h : RefIs n₀ w q room ao cap S) (hM : MapIs w b S') (k : But b w w') : RefIs n₀ w' q room ao cap S := by
  obtain ⟨es, clock, hb, _⟩ := hM
  refine h.on (k.block q h.lt (fun e => ?_)) (fun g off _ c hr => k.block g (Array.getElem?_eq_some_iff.1 hr).1 (fun e => ?_))
  · have := h.row
    rw [e, hb] at this; cases this
  · rw [e, hb] at hr; cases hr
theorem RefIs.alloc {n₀ : Nat} {w : World} {q : Nat} {room : Int} {ao : Option Addr} {cap : Nat} {S : List En} (h : RefIs n₀ w q room ao cap S) (o : Obj) : RefIs n₀ (w.alloc o) q room ao cap S := h.more (bal (Below.refl _ _) _)
theorem RefIs.drew {n₀ : Nat} {w : World} {q : Nat} {room : Int} {ao : Option Addr} {cap : Nat} {S : List En} (h : RefIs n₀ w q room ao cap S) : RefIs n₀ w.drew q room ao cap S := h.on rfl (fun _ _ _ _ _ => rfl)
theorem RefIs.drewN {n₀ : Nat} {w : World} {q : Nat} {room : Int} {ao : Option Addr} {cap : Nat} {S : List En} (h : RefIs n₀ w q room ao cap S) (n : Nat) : RefIs n₀ (w.drewN n) q room ao cap S := h.on rfl (fun _ _ _ _ _ => rfl)

/-! ### New, Flush -/
theorem rnew_bad (r : Int) (w : World) (h : r < 0 ∨ 8 < r) :
    Calls Try.prog 8 #[.int .i64 r] w fun e w' => e = .returned (.tuple #[.pointer none, .int .i64 1]) ∧ w' = w := by
  rcases h with h | h
  · go_enter Try.func8, Try.ntmps8
    go_wp2
    go_ret2
    exact ⟨rfl, rfl⟩
  · have h0 : ¬ r < 0 := by omega
    go_enter Try.func8, Try.ntmps8
    go_wp2
    go_ret2
    exact ⟨rfl, rfl⟩
theorem rnew_ok (r : Int) (w : World) (h0 : 0 ≤ r) (h1 : r ≤ 8) :
    Calls Try.prog 8 #[.int .i64 r] w fun e w' => e = .returned (.tuple #[.pointer (some ⟨w.heap.size, 0, none⟩), .int .i64 0]) ∧ (∀ n₀, n₀ ≤ w.heap.size → RefIs n₀ w' w.heap.size r none 0 []) ∧ Below w.heap.size w w' := by
  have n0 : ¬ r < 0 := by omega
  have n1 : ¬ 8 < r := by omega
  go_enter Try.func8, Try.ntmps8
  go_wp2
  go_ret2
  exact ⟨rfl, fun n₀ hn => ⟨heap_alloc_new w _, hn, Nat.le_refl _, .inl ⟨rfl, .inl rfl⟩⟩, bal (Below.refl _ _) _⟩
theorem rflush_any (n₀ q cap : Nat) (room : Int) (ao : Option Addr) (S : List En) (w : World) (h : RefIs n₀ w q room ao cap S) :
    Calls Try.prog 11 #[.pointer (some ⟨q, 0, none⟩)] w fun e w' => e = .returned (.int .i64 S.length) ∧ RefIs n₀ w' q room none 0 [] ∧ Other w w' ∧ (∀ B, B ≤ n₀ → Below B w w') ∧ w'.heap.size = w.heap.size := by
  have c0 := h.cell
  have z0 := h.free 0
  have H : Hid (RefIs n₀ w q room ao cap S) := h
  clear h
  generalize S.length = N at c0 ⊢
  go_enter Try.func11, Try.ntmps11
  go_wp2
  go_ret
  have hw : w.setCell ⟨q, 0, none⟩ (.slice none 0 0) = w.setRow q #[.slice none 0 0, .int .i64 room] := by
    rw [setCell_eq_setRow w q _ _ _ _ _ H.out.row]; rfl
  refine ⟨rfl, ?_, ?_, ?_, by simp⟩
  · rw [hw]
    exact ⟨setRow_heap _ _ _ _ _ _ H.out.row, H.out.base, Nat.le_refl _, .inl ⟨rfl, .inl rfl⟩⟩
  · refine ⟨rfl, rfl, rfl, by simp, fun i hi h1 h2 => ?_⟩
    rw [hw]
    exact setRow_other w q i _ (fun e => h1 _ _ (e ▸ H.out.row))
  · intro B hB
    exact (Below.refl B w).setCell (p := ⟨q, 0, none⟩) (Nat.le_trans hB H.out.base) _
end Go.Proofs.Ytamfdnkjfmfcoaa
