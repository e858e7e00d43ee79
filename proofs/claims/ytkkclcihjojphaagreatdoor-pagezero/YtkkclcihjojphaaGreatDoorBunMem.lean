import Derived.Test.YtkkclcihjojphaaGreatDoorPkA
import Derived.Deep.LoopGhost
import Derived.BigRegion
set_option linter.unusedVariables false
set_option linter.unusedSimpArgs false
set_option maxRecDepth 100000
set_option maxHeartbeats 20000000
namespace Go.Proofs.YtkkclcihjojphaaGreatDoor
namespace Pmem
open Pbase Go.RowKit
def cellsM (N : Nat) (M : Nat -> Nat -> Int) : Array Value := (Array.range (N * 36)).map fun i => .int .u64 (M (i / 36) (i % 36))
theorem cellsM_size (N : Nat) (M : Nat -> Nat -> Int) : (cellsM N M).size = N * 36 := by simp [cellsM]
theorem cellsM_get {N : Nat} {M : Nat -> Nat -> Int} {i : Nat} (h : i < N * 36) : (cellsM N M)[i]? = some (.int .u64 (M (i / 36) (i % 36))) := by
 simp [cellsM, h]
theorem cellsM_at {N : Nat} {M : Nat -> Nat -> Int} {f a : Nat} (hf : f < N) (ha : a < 36) : (cellsM N M)[f * 36 + a]? = some (.int .u64 (M f a)) := by
 rw [cellsM_get (by omega), show (f * 36 + a) / 36 = f by omega, show (f * 36 + a) % 36 = a by omega]
def okF (N : Nat) (f : Int) : Bool := decide (0 <= f /\ f < N)
def okW (N : Nat) (f a : Int) : Bool := okF N f && decide (0 <= a /\ a < 36)
def errF (N : Nat) (f : Int) : Int := if okF N f then 0 else 1
def errW (N : Nat) (f a : Int) : Int := if okW N f a then 0 else 1
def ldM (N : Nat) (M : Nat -> Nat -> Int) (f a : Int) : Int := if okW N f a then M f.toNat a.toNat else 0
def stW (N : Nat) (M : Nat -> Nat -> Int) (f a : Int) (v : Int) : Nat -> Nat -> Int := if okW N f a then fun g b => if g = f.toNat /\ b = a.toNat then v else M g b else M
def clM (N : Nat) (M : Nat -> Nat -> Int) (f : Int) : Nat -> Nat -> Int := if okF N f then fun g b => if g = f.toNat then 0 else M g b else M
def wdM (M : Nat -> Nat -> Int) (f : Nat) : List Int := (List.range 36).map (M f)
theorem okF_yes {N : Nat} {f : Int} (h : okF N f = true) : 0 <= f /\ f < N := by simpa [okF] using h
theorem okF_no {N : Nat} {f : Int} (h : okF N f = false) : ¬ (0 <= f /\ f < N) := by simp [okF] at h; omega
theorem okF_nat {N f : Nat} (h : f < N) : okF N (f : Int) = true := by simp [okF]; omega
theorem wdM_get {M : Nat -> Nat -> Int} {f j : Nat} (h : j < 36) : (wdM M f)[j]? = some (M f j) := by simp [wdM, h]
structure MemIs (w : World) (p b N : Nat) (M : Nat -> Nat -> Int) : Prop where
 head : w.heap[p]? = some (.cells #[.slice (some ⟨b, 0, none⟩) N N] 332 (0, 0))
 row : w.heap[b]? = some (.cells (cellsM N M) 257 (0, 0))
theorem MemIs.cell {w : World} {p b N : Nat} {M : Nat -> Nat -> Int} (h : MemIs w p b N M) : w.cell? ⟨p, 0, none⟩ = some (.slice (some ⟨b, 0, none⟩) N N) := by
 rw [cell_of_row w p 0 _ _ _ h.head]; rfl
theorem MemIs.word {w : World} {p b N : Nat} {M : Nat -> Nat -> Int} (h : MemIs w p b N M) {f a : Nat} (hf : f < N) (ha : a < 36) : w.cell? ⟨b, f * 36 + a, none⟩ = some (.int .u64 (M f a)) := by
 rw [cell_of_row w b _ _ _ _ h.row, cellsM_at hf ha]
theorem MemIs.free {w : World} {p b N : Nat} {M : Nat -> Nat -> Int} (h : MemIs w p b N M) (j : Nat) : w.frozen? ⟨b, j, none⟩ = false := frozen_of_row w b j _ _ h.row
theorem MemIs.ne {w : World} {p b N : Nat} {M : Nat -> Nat -> Int} (h : MemIs w p b N M) : p ≠ b := by
 rintro rfl
 have := h.head.symm.trans h.row
 simp at this
theorem MemIs.set {w : World} {p b N : Nat} {M : Nat -> Nat -> Int} (h : MemIs w p b N M) (M' : Nat -> Nat -> Int) : MemIs (w.setRow b (cellsM N M')) p b N M' :=
 ⟨by rw [setRow_other _ _ _ _ h.ne]; exact h.head, setRow_heap _ _ _ _ _ _ h.row⟩
theorem MemIs.on {w w' : World} {p b N : Nat} {M : Nat -> Nat -> Int} (h : MemIs w p b N M) (hp : w'.heap[p]? = w.heap[p]?) (hb : w'.heap[b]? = w.heap[b]?) : MemIs w' p b N M :=
 ⟨hp.trans h.head, hb.trans h.row⟩
theorem MemIs.below {w w' : World} {B p b N : Nat} {M : Nat -> Nat -> Int} (h : MemIs w p b N M) (hB : Below B w w') (hp : p < B) (hb : b < B) : MemIs w' p b N M :=
 h.on (hB.block p hp) (hB.block b hb)
theorem MemIs.lt {w : World} {p b N : Nat} {M : Nat -> Nat -> Int} (h : MemIs w p b N M) : p < w.heap.size /\ b < w.heap.size :=
 ⟨(Array.getElem?_eq_some_iff.1 h.head).1, (Array.getElem?_eq_some_iff.1 h.row).1⟩
theorem MemIs.self {w : World} {p b N : Nat} {M : Nat -> Nat -> Int} (h : MemIs w p b N M) : w.setRow b (cellsM N M) = w := setRow_self _ _ _ _ _ h.row
theorem MemIs.store {w : World} {p b N : Nat} {M : Nat -> Nat -> Int} (h : MemIs w p b N M) {f a : Nat} (hf : f < N) (ha : a < 36) (v : Int) :
 w.setCell ⟨b, f * 36 + a, none⟩ (.int .u64 v) = w.setRow b (cellsM N (stW N M f a v)) := by
 rw [setCell_eq_setRow w b _ _ _ _ _ h.row]
 congr 1
 have hok : okW N (f : Int) (a : Int) = true := by simp [okW, okF]; omega
 apply Array.ext_getElem?
 intro i
 by_cases hi : i < N * 36
 · rw [cellsM_get hi, Array.getElem?_setIfInBounds]
   simp only [cellsM_size, cellsM_get hi, stW, hok, if_true, Int.toNat_natCast]
   by_cases e : f * 36 + a = i
   · subst e
     rw [if_pos rfl, if_pos hi, if_pos (by constructor <;> omega)]
   · rw [if_neg e, if_neg (by omega)]
 · simp [cellsM, hi]
def frameM (M : Nat -> Nat -> Int) (f : Nat) : List Value := (wdM M f).map (Value.int .u64)
theorem frameM_len (M : Nat -> Nat -> Int) (f : Nat) : (frameM M f).length = 36 := by simp [frameM, wdM]
theorem frameM_get {M : Nat -> Nat -> Int} {f j : Nat} (h : j < 36) : (frameM M f)[j]? = some (.int .u64 (M f j)) := by simp [frameM, wdM_get h]
theorem frameM_one (M : Nat -> Nat -> Int) (f : Nat) : ∀ v ∈ frameM M f, v.oneCell' = true := by
 intro v hv
 simp only [frameM, List.mem_map] at hv
 obtain ⟨x, _, rfl⟩ := hv
 rfl
theorem MemIs.put {P : Program} {w : World} {p b N : Nat} {M : Nat -> Nat -> Int} (h : MemIs w p b N M) {f : Nat} (hf : f < N) {ty : TypeId} (hi : (P.info? ty).map (·.size) = some 36) (V : Nat -> Nat -> Int) (g : Nat) :
 (storeVar ty ⟨b, f * 36, none⟩ (.agg (frameM V g).toArray)).run P w = .ok () (w.setRow b (cellsM N fun h a => if h = f then V g a else M h a)) := by
 have hl : (frameM V g).length = 36 := frameM_len V g
 have hst := run_storeCells_at P b (f * 36) 257 (frameM V g) 0 (cellsM N M) w h.row (by rw [cellsM_size]; omega) (frameM_one V g)
 have hc : ((cellsM N M).toList.take (f * 36 + 0) ++ frameM V g ++ (cellsM N M).toList.drop (f * 36 + 0 + (frameM V g).length)).toArray = cellsM N fun h a => if h = f then V g a else M h a := by
  apply Array.ext_getElem?
  intro i
  rw [List.getElem?_toArray]
  by_cases hi : i < N * 36
  · rw [cellsM_get hi]
    by_cases h1 : i < f * 36
    · rw [List.append_assoc, List.getElem?_append_left (by simp [cellsM_size]; omega), List.getElem?_take, if_pos (by omega)]
      simp only [Array.getElem?_toList, cellsM_get hi]
      rw [if_neg (by omega)]
    · by_cases h2 : i < f * 36 + 36
      · rw [List.append_assoc, List.getElem?_append_right (by simp [cellsM_size]; omega)]
        have e : i - ((cellsM N M).toList.take (f * 36 + 0)).length = i % 36 := by simp [cellsM_size]; omega
        rw [e, List.getElem?_append_left (by rw [hl]; omega), frameM_get (by omega), if_pos (by omega)]
      · rw [List.getElem?_append_right (by simp [cellsM_size, hl]; omega)]
        rw [List.getElem?_drop]
        have e : f * 36 + 0 + (frameM V g).length + (i - (List.take (f * 36 + 0) (cellsM N M).toList ++ frameM V g).length) = i := by simp [cellsM_size, hl]; omega
        rw [e]
        simp only [Array.getElem?_toList, cellsM_get hi]
        rw [if_neg (by omega)]
  · rw [List.getElem?_eq_none (by simp [cellsM_size, hl]; omega)]
    simp [cellsM, hi]
 cases hq : P.info? ty with
 | none => simp [hq] at hi
 | some i =>
   have hs : i.size = 36 := by simpa [hq] using hi
   rw [hc] at hst
   simp [storeVar, sizeOf, typeInfo, hq, Value.cells, hs, hl, hst]
theorem frame_zero (M : Nat -> Nat -> Int) (f : Nat) (h : ∀ a, M f a = 0) : frameM M f = List.replicate 36 (.int .u64 0) := by
 simp only [frameM, wdM, List.map_map]
 rw [List.eq_replicate_iff]
 exact ⟨by simp, fun v hv => by simp at hv; obtain ⟨a, _, rfl⟩ := hv; simp [h]⟩
theorem run_eqItems_u64 {P : Program} {w : World} (d : Nat) {e : TypeId} (he : P.underlying e = some (.int .u64)) (hc : P.cellsOf e = 1) (A B : List Int) : ∀ (is : List Nat), (∀ i ∈ is, i < A.length /\ i < B.length) ->
 (Op.eqItems (d + 1) e (P.cellsOf e) (A.map (Value.int .u64)).toArray (B.map (Value.int .u64)).toArray is).run P w = .ok (is.all fun i => A[i]?.getD 0 == B[i]?.getD 0) w
 | [], _ => by simp [Op.eqItems]
 | i :: is, h => by
   obtain ⟨h1, h2⟩ := h i (by simp)
   have ih := run_eqItems_u64 (w := w) d he hc A B is (fun j hj => h j (by simp [hj]))
   have hp : ∀ (L : List Int), i < L.length -> (part e (L.map (Value.int .u64)).toArray (i * P.cellsOf e)).run P w = .ok (.int .u64 (L[i]?.getD 0)) w := by
    intro L hL
    have hag : (isAgg e).run P w = .ok false w := by
     unfold isAgg
     rw [Sem.run_bind, run_underlying he w]
     simp
    simp [part, hag, hc, hL]
   simp only [Op.eqItems, Sem.run_bind, hp A h1, hp B h2, Result.andThen_ok, run_equalIn_int w d e .u64 .u64 _ _ he, List.all_cons]
   cases hx : (A[i]?.getD 0 == B[i]?.getD 0)
   · simp
   · simpa using ih
theorem MemIs.grown {w w' : World} {p b N : Nat} {M : Nat -> Nat -> Int} (h : MemIs w p b N M) (hB : Below w.heap.size w w') : MemIs w' p b N M := h.below hB h.lt.1 h.lt.2
theorem len_some (p b N : Nat) (w : World) (hN : N <= 64) (hp : w.cell? ⟨p, 0, none⟩ = some (.slice (some ⟨b, 0, none⟩) N N)) :
 Calls Tryz.prog 227 #[.pointer (some ⟨p, 0, none⟩)] w fun e w' => e = .returned (.int .i64 N) /\ w' = w := by
 go_enter Tryz.func227, Tryz.ntmps227
 go_wp2
 go_ret
 exact ⟨rfl, rfl⟩
theorem frame_ok (p b N f : Nat) (w : World) (hf : f < N) (hN : N <= 64) (hp : w.cell? ⟨p, 0, none⟩ = some (.slice (some ⟨b, 0, none⟩) N N)) :
 Calls Tryz.prog 146 #[.pointer (some ⟨p, 0, none⟩), .int .i64 f] w fun e w' => e = .returned (.tuple #[.pointer (some ⟨b, f * 36, none⟩), .int .i64 0]) /\ w' = w := by
 have hfi : (f : Int) < (N : Int) := by omega
 have h0 : ((N : Int) == 0) = false := by simp; omega
 go_enter Tryz.func146, Tryz.ntmps146
 go_wp2_with (go_at_call 227; refine (len_some p b N _ hN hp).mono ?_; rintro e w' ⟨rfl, rfl⟩)
 go_ret2
 exact ⟨rfl, rfl⟩
theorem frame_bad (p b N : Nat) (f : Int) (w : World) (hf : ¬ (0 <= f /\ f < N)) (hN1 : 1 <= N) (hN : N <= 64) (hp : w.cell? ⟨p, 0, none⟩ = some (.slice (some ⟨b, 0, none⟩) N N)) :
 Calls Tryz.prog 146 #[.pointer (some ⟨p, 0, none⟩), .int .i64 f] w fun e w' => e = .returned (.tuple #[.pointer none, .int .i64 1]) /\ w' = w := by
 have h0 : ((N : Int) == 0) = false := by simp; omega
 by_cases hn : f < 0
 · clear hf
   go_enter Tryz.func146, Tryz.ntmps146
   go_wp2_with (go_at_call 227; refine (len_some p b N _ hN hp).mono ?_; rintro e w' ⟨rfl, rfl⟩)
   go_ret2
   exact ⟨rfl, rfl⟩
 · have hge : (N : Int) <= f := by omega
   clear hf
   go_enter Tryz.func146, Tryz.ntmps146
   go_wp2_with (go_at_call 227; refine (len_some p b N _ hN hp).mono ?_; rintro e w' ⟨rfl, rfl⟩)
   go_ret2
   exact ⟨rfl, rfl⟩
theorem word_ok (p b N f a : Nat) (w : World) (hf : f < N) (ha : a < 36) (hN : N <= 64) (hp : w.cell? ⟨p, 0, none⟩ = some (.slice (some ⟨b, 0, none⟩) N N)) :
 Calls Tryz.prog 87 #[.pointer (some ⟨p, 0, none⟩), .int .i64 f, .int .i64 a] w fun e w' => e = .returned (.tuple #[.pointer (some ⟨b, f * 36 + a, none⟩), .int .i64 0]) /\ w' = w := by
 have hai : (a : Int) < 36 := by omega
 go_enter Tryz.func87, Tryz.ntmps87
 go_wp2_with (go_at_call 146; refine (frame_ok p b N f _ hf hN hp).mono ?_; rintro e w' ⟨rfl, rfl⟩)
 go_ret2
 exact ⟨rfl, rfl⟩
theorem word_badA (p b N f : Nat) (a : Int) (w : World) (hf : f < N) (ha : ¬ (0 <= a /\ a < 36)) (hN : N <= 64) (hp : w.cell? ⟨p, 0, none⟩ = some (.slice (some ⟨b, 0, none⟩) N N)) :
 Calls Tryz.prog 87 #[.pointer (some ⟨p, 0, none⟩), .int .i64 f, .int .i64 a] w fun e w' => e = .returned (.tuple #[.pointer none, .int .i64 1]) /\ w' = w := by
 by_cases hn : a < 0
 · clear ha
   go_enter Tryz.func87, Tryz.ntmps87
   go_wp2_with (go_at_call 146; refine (frame_ok p b N f _ hf hN hp).mono ?_; rintro e w' ⟨rfl, rfl⟩)
   go_ret2
   exact ⟨rfl, rfl⟩
 · have hge : 36 <= a := by omega
   clear ha
   go_enter Tryz.func87, Tryz.ntmps87
   go_wp2_with (go_at_call 146; refine (frame_ok p b N f _ hf hN hp).mono ?_; rintro e w' ⟨rfl, rfl⟩)
   go_ret2
   exact ⟨rfl, rfl⟩
theorem word_badF (p b N : Nat) (f a : Int) (w : World) (hf : ¬ (0 <= f /\ f < N)) (hN1 : 1 <= N) (hN : N <= 64) (hp : w.cell? ⟨p, 0, none⟩ = some (.slice (some ⟨b, 0, none⟩) N N)) :
 Calls Tryz.prog 87 #[.pointer (some ⟨p, 0, none⟩), .int .i64 f, .int .i64 a] w fun e w' => e = .returned (.tuple #[.pointer none, .int .i64 1]) /\ w' = w := by
 have HF : Hid (¬ (0 <= f /\ f < N)) := hf
 clear hf
 go_enter Tryz.func87, Tryz.ntmps87
 go_wp2_with (go_at_call 146; refine (frame_bad p b N f _ HF.out hN1 hN hp).mono ?_; rintro e w' ⟨rfl, rfl⟩)
 go_ret2
 exact ⟨rfl, rfl⟩
theorem word_bad (p b N : Nat) (f a : Int) (w : World) (hf : okW N f a = false) (hN1 : 1 <= N) (hN : N <= 64) (hp : w.cell? ⟨p, 0, none⟩ = some (.slice (some ⟨b, 0, none⟩) N N)) :
 Calls Tryz.prog 87 #[.pointer (some ⟨p, 0, none⟩), .int .i64 f, .int .i64 a] w fun e w' => e = .returned (.tuple #[.pointer none, .int .i64 1]) /\ w' = w := by
 by_cases h : 0 <= f /\ f < N
 · obtain ⟨n, rfl⟩ := Int.eq_ofNat_of_zero_le h.1
   exact word_badA p b N n a w (by omega) (by simp [okW, okF, h] at hf; omega) hN hp
 · exact word_badF p b N f a w h hN1 hN hp
theorem load_ok (p b N f a : Nat) (M : Nat -> Nat -> Int) (w : World) (hf : f < N) (ha : a < 36) (hN : N <= 64) (hM : MemIs w p b N M) :
 Calls Tryz.prog 55 #[.pointer (some ⟨p, 0, none⟩), .int .i64 f, .int .i64 a] w fun e w' => e = .returned (.tuple #[.int .u64 (M f a), .int .i64 0]) /\ w' = w := by
 have hp := hM.cell
 have hc := hM.word hf ha
 obtain ⟨m, hm⟩ : ∃ m, m = M f a := ⟨_, rfl⟩
 rw [<- hm] at hc ⊢
 clear hm hM
 go_enter Tryz.func55, Tryz.ntmps55
 go_wp2_with (go_at_call 87; refine (word_ok p b N f a _ hf ha hN hp).mono ?_; rintro e w' ⟨rfl, rfl⟩)
 go_ret2
 exact ⟨rfl, rfl⟩
theorem load_bad (p b N : Nat) (f a : Int) (w : World) (hf : okW N f a = false) (hN1 : 1 <= N) (hN : N <= 64) (hp : w.cell? ⟨p, 0, none⟩ = some (.slice (some ⟨b, 0, none⟩) N N)) :
 Calls Tryz.prog 55 #[.pointer (some ⟨p, 0, none⟩), .int .i64 f, .int .i64 a] w fun e w' => e = .returned (.tuple #[.int .u64 0, .int .i64 1]) /\ w' = w := by
 go_enter Tryz.func55, Tryz.ntmps55
 go_wp2_with (go_at_call 87; refine (word_bad p b N f a _ hf hN1 hN hp).mono ?_; rintro e w' ⟨rfl, rfl⟩)
 go_ret2
 exact ⟨rfl, rfl⟩
theorem store_ok (p b N f a : Nat) (v : Int) (M : Nat -> Nat -> Int) (w : World) (hf : f < N) (ha : a < 36) (hN : N <= 64) (hM : MemIs w p b N M) :
 Calls Tryz.prog 57 #[.pointer (some ⟨p, 0, none⟩), .int .i64 f, .int .i64 a, .int .u64 v] w fun e w' => e = .returned (.int .i64 0) /\ w' = w.setCell ⟨b, f * 36 + a, none⟩ (.int .u64 v) := by
 have hp := hM.cell
 have hc := hM.word hf ha
 have hz := hM.free (f * 36 + a)
 clear hM
 go_enter Tryz.func57, Tryz.ntmps57
 go_wp2_with (go_at_call 87; refine (word_ok p b N f a _ hf ha hN hp).mono ?_; rintro e w' ⟨rfl, rfl⟩)
 go_ret
 exact ⟨rfl, rfl⟩
theorem store_bad (p b N : Nat) (f a : Int) (v : Int) (w : World) (hf : okW N f a = false) (hN1 : 1 <= N) (hN : N <= 64) (hp : w.cell? ⟨p, 0, none⟩ = some (.slice (some ⟨b, 0, none⟩) N N)) :
 Calls Tryz.prog 57 #[.pointer (some ⟨p, 0, none⟩), .int .i64 f, .int .i64 a, .int .u64 v] w fun e w' => e = .returned (.int .i64 1) /\ w' = w := by
 go_enter Tryz.func57, Tryz.ntmps57
 go_wp2_with (go_at_call 87; refine (word_bad p b N f a _ hf hN1 hN hp).mono ?_; rintro e w' ⟨rfl, rfl⟩)
 go_ret
 exact ⟨rfl, rfl⟩
theorem okW_split {N : Nat} {f a : Int} (h : okW N f a = true) : ∃ g c : Nat, f = g /\ a = c /\ g < N /\ c < 36 := by
 simp [okW, okF] at h
 exact ⟨f.toNat, a.toNat, by omega, by omega, by omega, by omega⟩
theorem okF_split {N : Nat} {f : Int} (h : okF N f = true) : ∃ g : Nat, f = g /\ g < N := by
 simp [okF] at h
 exact ⟨f.toNat, by omega, by omega⟩
theorem load_any (p b N : Nat) (f a : Int) (M : Nat -> Nat -> Int) (w : World) (hN1 : 1 <= N) (hN : N <= 64) (hM : MemIs w p b N M) :
 Calls Tryz.prog 55 #[.pointer (some ⟨p, 0, none⟩), .int .i64 f, .int .i64 a] w fun e w' => e = .returned (.tuple #[.int .u64 (ldM N M f a), .int .i64 (errW N f a)]) /\ w' = w := by
 cases h : okW N f a
 · simp only [ldM, errW, h, Bool.false_eq_true, if_false]
   exact load_bad p b N f a w h hN1 hN hM.cell
 · simp only [ldM, errW, h, if_true]
   obtain ⟨g, c, rfl, rfl, hg, hc⟩ := okW_split h
   exact load_ok p b N g c M w hg hc hN hM
theorem store_any (p b N : Nat) (f a v : Int) (M : Nat -> Nat -> Int) (w : World) (hN1 : 1 <= N) (hN : N <= 64) (hM : MemIs w p b N M) :
 Calls Tryz.prog 57 #[.pointer (some ⟨p, 0, none⟩), .int .i64 f, .int .i64 a, .int .u64 v] w fun e w' => e = .returned (.int .i64 (errW N f a)) /\ w' = w.setRow b (cellsM N (stW N M f a v)) := by
 cases h : okW N f a
 · simp only [stW, errW, h, Bool.false_eq_true, if_false, hM.self]
   exact store_bad p b N f a v w h hN1 hN hM.cell
 · obtain ⟨g, c, rfl, rfl, hg, hc⟩ := okW_split h
   rw [<- hM.store hg hc]
   simp only [errW, h, if_true]
   exact store_ok p b N g c v M w hg hc hN hM
theorem infoFrame : (Tryz.prog.info? 257).map (fun i => (i.zero, i.size, i.bytes)) = some (some (.agg (Array.replicate 36 (.int .u64 0))), 36, 288) := by kernel_rfl
theorem infoWordM : (Tryz.prog.info? 83).map (fun i => (i.zero, i.size, i.bytes)) = some (some (.int .u64 0), 1, 8) := by kernel_rfl
theorem sizeFrame : (Tryz.prog.info? 257).map (·.size) = some 36 := by kernel_rfl
theorem builtFrame : Tryz.prog.built 257 [] = some (Array.replicate 36 (.int .u64 0)) := by kernel_rfl
theorem made_frames (N : Nat) : madeCells (Array.replicate 36 (.int .u64 0)) (N * 36) = cellsM N fun _ _ => 0 := by
 apply Array.ext_getElem?
 intro i
 by_cases hi : i < N * 36
 · rw [cellsM_get hi]
   have h36 : i % 36 < 36 := by omega
   simp [madeCells, hi, h36]
 · simp [madeCells, cellsM, hi]
theorem make_frames (N : Nat) (hN : N <= 64) (w : World) :
 (Instr.makeSlice 330 (.int .i64 N) (.int .i64 N)).run Tryz.prog w = .ok (.slice (some ⟨w.heap.size, 0, none⟩) N N) (w.alloc (.cells (cellsM N fun _ _ => 0) 257)) := by
 obtain ⟨i0, hi, hz0, hz1, hz2⟩ := info_parts infoFrame
 have := run_make (P := Tryz.prog) w 330 257 i0 _ Tryz.underlying330 hi hz0 .i64 .i64 N N (by omega) (by omega) (by rw [hz2]; omega) (by omega)
 rw [hz1] at this
 simpa [Value.cells, made_frames] using this
def newW (w : World) (N : Nat) : World := (w.alloc (.cells (cellsM N fun _ _ => 0) 257)).alloc (.cells #[.slice (some ⟨w.heap.size, 0, none⟩) N N] 332)
theorem newW_is (w : World) (N : Nat) : MemIs (newW w N) (w.heap.size + 1) w.heap.size N fun _ _ => 0 := ⟨heap_alloc2_new _ _ _, heap_alloc2_old _ _ _⟩
theorem newW_below (w : World) (N : Nat) : Below w.heap.size w (newW w N) := ((Below.refl _ w).alloc (Nat.le_refl _) _).alloc (by simp) _
theorem new_ok (N : Nat) (w : World) (hN1 : 1 <= N) (hN : N <= 64) :
 Calls Tryz.prog 148 #[.int .i64 N] w fun e w' => e = .returned (.tuple #[.pointer (some ⟨w.heap.size + 1, 0, none⟩), .int .i64 0]) /\ w' = newW w N := by
 have hmk := make_frames N hN
 have h1 : (1 : Int) <= N := by omega
 have h2 : (N : Int) <= 64 := by omega
 unfold newW
 go_enter Tryz.func148, Tryz.ntmps148
 go_wp2
 go_ret2
 exact ⟨rfl, rfl⟩
theorem wpList_build_cells {P : Program} {ops : Array Oper} {rest : List Oper} {o : Oper} {a : Act} {w : World} {Q : Exit -> Act -> World -> Prop} (hg : o.guard = none) (t : TypeId) (ho : o.op = .build t #[])
 (cells : Array Value) (hb : P.built t [] = some cells) (h : wpList P ops Q rest (a.put o.dst (.agg cells)) w) : wpList P ops Q (o :: rest) a w := by
 refine wpList_plain hg fun K hK => ?_
 unfold Oper.wp execOp
 simp only [ho, Sem.run_bind, List.map_toArray, List.map_nil, run_build w t #[] cells hb, Result.andThen_ok]
 exact hK _ _ h
theorem wpList_store_run {P : Program} {ops : Array Oper} {rest : List Oper} {o : Oper} {a : Act} {w : World} {Q : Exit -> Act -> World -> Prop} (hg : o.guard = none) (ty : TypeId) (x y : Operand) (ho : o.op = .store ty x y)
 (ad : Addr) (hx : a.eval x = .pointer (some ad)) (v : Value) (hy : a.eval y = v) (w' : World) (hrun : (storeVar ty ad v).run P w = .ok () w') (h : wpList P ops Q rest (a.put o.dst undef) w') : wpList P ops Q (o :: rest) a w := by
 refine wpList_plain hg fun K hK => ?_
 unfold Oper.wp execOp
 simp only [ho, hx, hy, Instr.storeAt, Instr.sureAddr, Sem.run_bind, Sem.run_pure, Result.andThen_ok, hrun]
 exact hK _ _ h
theorem zeroFrame : Tryz.prog.built 257 [] = some (frameM (fun _ _ => 0) 0).toArray := by rw [frame_zero _ _ (fun _ => rfl)]; exact builtFrame
theorem clear_ok (p b N f : Nat) (M : Nat -> Nat -> Int) (w : World) (hf : f < N) (hN : N <= 64) (hM : MemIs w p b N M) :
 Calls Tryz.prog 94 #[.pointer (some ⟨p, 0, none⟩), .int .i64 f] w fun e w' => e = .returned (.int .i64 0) /\ w' = w.setRow b (cellsM N fun h a => if h = f then 0 else M h a) := by
 have hp := hM.cell
 have hput := hM.put (P := Tryz.prog) hf (ty := 257) sizeFrame (fun _ _ => 0) 0
 obtain ⟨W, hW⟩ : ∃ W, W = w.setRow b (cellsM N fun h a => if h = f then 0 else M h a) := ⟨_, rfl⟩
 have hz := zeroFrame
 obtain ⟨Z, hZ⟩ : ∃ Z, Z = (frameM (fun _ _ => 0) 0).toArray := ⟨_, rfl⟩
 rw [<- hW] at hput ⊢
 rw [<- hZ] at hput hz
 clear hM hW hZ
 have HP : Hid ((storeVar 257 ⟨b, f * 36, none⟩ (.agg Z)).run Tryz.prog w = .ok () W) := hput
 have HZ : Hid (Tryz.prog.built 257 [] = some Z) := hz
 clear hput hz
 go_enter Tryz.func94, Tryz.ntmps94
 go_wp2_with (first
  | (go_at_call 146; refine (frame_ok p b N f _ hf hN hp).mono ?_; rintro e w' ⟨rfl, rfl⟩)
  | (refine wpList_build_cells rfl 257 rfl Z HZ.out ?_)
  | (refine wpList_store_run rfl 257 (.tmp 18) (.tmp 17) rfl ⟨b, f * 36, none⟩ rfl (.agg Z) rfl W HP.out ?_))
 go_ret
 exact ⟨rfl, rfl⟩
theorem clear_bad (p b N : Nat) (f : Int) (w : World) (hf : ¬ (0 <= f /\ f < N)) (hN1 : 1 <= N) (hN : N <= 64) (hp : w.cell? ⟨p, 0, none⟩ = some (.slice (some ⟨b, 0, none⟩) N N)) :
 Calls Tryz.prog 94 #[.pointer (some ⟨p, 0, none⟩), .int .i64 f] w fun e w' => e = .returned (.int .i64 1) /\ w' = w := by
 have HF : Hid (¬ (0 <= f /\ f < N)) := hf
 clear hf
 go_enter Tryz.func94, Tryz.ntmps94
 go_wp2_with (go_at_call 146; refine (frame_bad p b N f _ HF.out hN1 hN hp).mono ?_; rintro e w' ⟨rfl, rfl⟩)
 go_ret
 exact ⟨rfl, rfl⟩
theorem clear_any (p b N : Nat) (f : Int) (M : Nat -> Nat -> Int) (w : World) (hN1 : 1 <= N) (hN : N <= 64) (hM : MemIs w p b N M) :
 Calls Tryz.prog 94 #[.pointer (some ⟨p, 0, none⟩), .int .i64 f] w fun e w' => e = .returned (.int .i64 (errF N f)) /\ w' = w.setRow b (cellsM N (clM N M f)) := by
 cases h : okF N f
 · simp only [clM, errF, h, Bool.false_eq_true, if_false, hM.self]
   exact clear_bad p b N f w (okF_no h) hN1 hN hM.cell
 · obtain ⟨g, rfl, hg⟩ := okF_split h
   simp only [clM, errF, h, if_true, Int.toNat_natCast]
   exact clear_ok p b N g M w hg hN hM
theorem infoWordM' : ∃ i, Tryz.prog.info? 83 = some i := by
 obtain ⟨i, hi, _⟩ := info_parts infoWordM
 exact ⟨i, hi⟩
theorem infoWords : (Tryz.prog.info? 211).map (fun i => (i.zero, i.size, i.bytes)) = some (some (.slice none 0 0), 1, 24) := by kernel_rfl
theorem cell_one_new (w : World) (v : Value) (t : TypeId) : ∀ j u, ([v] : List Value)[j]? = some u -> (w.alloc (.cells #[v] t)).cell? ((⟨w.heap.size, 0, none⟩ : Addr).add j) = some u := by
 intro j u hj
 match j, hj with
 | 0, hj => simp at hj; subst hj; simp [Addr.add]
theorem own_ge {w : World} {base : Nat} {e : TypeId} {v : Value} {n : Nat} {xs : List Value} (h : w.ownsRow base e 1 v n xs) : ∀ k, v.ownBlock = some k -> base <= k := by
 intro k hk
 rcases h.2 with ⟨rfl, _⟩ | ⟨g, cap, cur, rfl, hg, _⟩
 · simp [Value.ownBlock] at hk
 · simp [Value.ownBlock] at hk; omega
def RowsIs (w : World) (base : Nat) (v : Value) (n : Nat) (M : Nat -> Nat -> Int) : Prop :=
 ∃ r c : Nat -> Nat, w.ownsRow base 211 1 v n ((List.range n).map fun j => .slice (some ⟨r j, 0, none⟩) 36 (c j)) /\
   (∀ j, j < n -> base <= r j /\ ∃ cur, w.heap[r j]? = some (.cells cur 83 (0, 0)) /\ ∀ a, a < 36 -> cur[a]? = some (.int .u64 (M j a))) /\ ∀ i j, i < n -> j < n -> r i = r j -> i = j
theorem RowsIs.nil (w : World) (base : Nat) (M : Nat -> Nat -> Int) : RowsIs w base (.slice none 0 0) 0 M :=
 ⟨fun _ => 0, fun _ => 0, ⟨rfl, .inl ⟨rfl, rfl⟩⟩, fun j hj => absurd hj (by omega), fun i j hi => absurd hi (by omega)⟩
theorem ownsRow_on {w w' : World} {base : Nat} {e : TypeId} {size : Nat} {v : Value} {n : Nat} {xs : List Value} (h : w.ownsRow base e size v n xs) (hk : ∀ k, base <= k -> k < w.heap.size -> w'.heap[k]? = w.heap[k]?) : w'.ownsRow base e size v n xs := by
 refine ⟨h.1, ?_⟩
 rcases h.2 with h2 | ⟨g, cap, cur, hv, hg, hh, r⟩
 · exact .inl h2
 · exact .inr ⟨g, cap, cur, hv, hg, by rw [hk g hg (Array.getElem?_eq_some_iff.1 hh).1]; exact hh, r⟩
theorem RowsIs.on {w w' : World} {base : Nat} {v : Value} {n : Nat} {M : Nat -> Nat -> Int} (h : RowsIs w base v n M) (hk : ∀ k, base <= k -> k < w.heap.size -> w'.heap[k]? = w.heap[k]?) : RowsIs w' base v n M := by
 obtain ⟨r, c, h1, h2, h3⟩ := h
 refine ⟨r, c, ownsRow_on h1 hk, fun j hj => ?_, h3⟩
 obtain ⟨hb, cur, hh, hc⟩ := h2 j hj
 exact ⟨hb, cur, by rw [hk _ hb (Array.getElem?_eq_some_iff.1 hh).1]; exact hh, hc⟩
theorem RowsIs.owns {w : World} {base : Nat} {v : Value} {n : Nat} {M : Nat -> Nat -> Int} (h : RowsIs w base v n M) : ∃ xs, w.ownsRow base 211 1 v n xs /\ ∀ j, j < n -> ∃ r c, xs[j]? = some (.slice (some ⟨r, 0, none⟩) 36 c) /\ base <= r /\ r < w.heap.size /\ ∀ a, a < 36 -> w.cell? ⟨r, a, none⟩ = some (.int .u64 (M j a)) := by
 obtain ⟨r, c, h1, h2, h3⟩ := h
 refine ⟨_, h1, fun j hj => ⟨r j, c j, by simp [hj], ?_⟩⟩
 obtain ⟨hb, cur, hh, hc⟩ := h2 j hj
 exact ⟨hb, (Array.getElem?_eq_some_iff.1 hh).1, fun a ha => by rw [cell_of_row w _ a _ _ _ hh]; exact hc a ha⟩
theorem RowsIs.push {w w' : World} {base : Nat} {v v' : Value} {n : Nat} {M : Nat -> Nat -> Int} {o : Obj} {xs : List Value} {x c : Nat} {cur : Array Value} {w₀ : World} (h0 : RowsIs w₀ base v n M) (hk0 : ∀ k, base <= k -> k < w₀.heap.size -> w.heap[k]? = w₀.heap[k]?) (hx0 : w₀.heap.size <= x)
 (hx : base <= x) (hc : w.heap[x]? = some (.cells cur 83 (0, 0))) (hM : ∀ a, a < 36 -> cur[a]? = some (.int .u64 (M n a)))
 (ho : w.ownsRow base 211 1 v n xs) (hown : w'.ownsRow base 211 1 v' (n + 1) (xs ++ [.slice (some ⟨x, 0, none⟩) 36 c])) (hg : (w.alloc o).grownBy w' v.ownBlock) : RowsIs w' base v' (n + 1) M := by
 obtain ⟨r, cc, g1, g2, h3⟩ := h0
 have h1 := ownsRow_on g1 hk0
 have h2 : ∀ j, j < n -> base <= r j /\ ∃ cur, w.heap[r j]? = some (.cells cur 83 (0, 0)) /\ ∀ a, a < 36 -> cur[a]? = some (.int .u64 (M j a)) := by
  intro j hj
  obtain ⟨hb, cur, hh, hc⟩ := g2 j hj
  exact ⟨hb, cur, by rw [hk0 _ hb (Array.getElem?_eq_some_iff.1 hh).1]; exact hh, hc⟩
 have hxs : xs = (List.range n).map fun j => .slice (some ⟨r j, 0, none⟩) 36 (cc j) := by
  rcases h1.2 with ⟨e1, e2⟩ | ⟨g, cap, cu, e1, _, hh, _, _, _, ht⟩
  · subst e2
    have := ho.1
    simp at this
    simpa using this
  · rcases ho.2 with ⟨e3, e4⟩ | ⟨g', cap', cu', e3, _, hh', _, _, _, ht'⟩
    · rw [e1] at e3; cases e3
    · rw [e1] at e3
      cases e3
      rw [hh] at hh'
      cases hh'
      exact ht'.symm.trans ht
 have hkeep : ∀ (k : Nat) (cu : Array Value), w.heap[k]? = some (.cells cu 83 (0, 0)) -> w'.heap[k]? = some (.cells cu 83 (0, 0)) := by
  intro k cu hk
  have hlt := (Array.getElem?_eq_some_iff.1 hk).1
  rw [hg.block k (by simp; omega) ?_, Below.heap_alloc w o k hlt]
  · exact hk
  · rcases h1.2 with ⟨e1, e2⟩ | ⟨g, cap, cu', e1, _, hh, _⟩
    · rw [e1]; simp [Value.ownBlock]
    · rw [e1]
      simp only [Value.ownBlock, ne_eq, Option.some.injEq]
      rintro rfl
      rw [hk] at hh
      simp at hh
 refine ⟨fun j => if j = n then x else r j, fun j => if j = n then c else cc j, ?_, ?_, ?_⟩
 · have e : (List.range (n + 1)).map (fun j => Value.slice (some ⟨if j = n then x else r j, 0, none⟩) 36 (if j = n then c else cc j)) = xs ++ [.slice (some ⟨x, 0, none⟩) 36 c] := by
    rw [List.range_succ, List.map_append, hxs]
    congr 1
    · apply List.map_congr_left
      intro j hj
      have : j ≠ n := by simp at hj; omega
      simp [this]
    · simp
   rw [e]
   exact hown
 · intro j hj
   by_cases e : j = n
   · subst e
     simp only [if_true]
     exact ⟨hx, cur, hkeep _ _ hc, hM⟩
   · simp only [e, if_false]
     obtain ⟨hb, cu, hh, hcu⟩ := h2 j (by omega)
     exact ⟨hb, cu, hkeep _ _ hh, hcu⟩
 · have hne : ∀ j, j < n -> r j ≠ x := fun j hj => by
    obtain ⟨_, _, hh, _⟩ := g2 j hj
    have := (Array.getElem?_eq_some_iff.1 hh).1
    omega
   intro i j hi hj e
   dsimp only at e
   by_cases ei : i = n
   · by_cases ej : j = n
     · omega
     · rw [if_pos ei, if_neg ej] at e
       exact absurd e.symm (hne j (by omega))
   · by_cases ej : j = n
     · rw [if_neg ei, if_pos ej] at e
       exact absurd e (hne i (by omega))
     · rw [if_neg ei, if_neg ej] at e
       exact h3 i j (by omega) (by omega) e
theorem rows_own {w : World} {v : Value} {k base : Nat} {M : Nat -> Nat -> Int} (h : RowsIs w base v k M) : ∃ xs, w.ownsRow base 211 1 v k xs := by
 obtain ⟨xs, h, _⟩ := h.owns
 exact ⟨xs, h⟩
structure RefIs (w : World) (base p N : Nat) (M : Nat -> Nat -> Int) : Prop where
 ge : base <= p
 is : ∃ v, w.heap[p]? = some (.cells #[v] 264 (0, 0)) /\ RowsIs w base v N M
theorem RefIs.parts {w : World} {base p N : Nat} {M : Nat -> Nat -> Int} (h : RefIs w base p N M) (hN : 1 <= N) : ∃ g cap, ∃ r c : Nat -> Nat, w.cell? ⟨p, 0, none⟩ = some (.slice (some ⟨g, 0, none⟩) N cap) /\
 (∀ f, f < N -> w.cell? ⟨g, f, none⟩ = some (.slice (some ⟨r f, 0, none⟩) 36 (c f))) /\ (∀ f a, f < N -> a < 36 -> w.cell? ⟨r f, a, none⟩ = some (.int .u64 (M f a)) /\ w.frozen? ⟨r f, a, none⟩ = false) /\ (∀ f, f < N -> base <= r f /\ r f ≠ p /\ r f ≠ g) /\ ∀ i j, i < N -> j < N -> r i = r j -> i = j := by
 obtain ⟨hp, v, hv, r, c, h1, h2, h3⟩ := h
 rcases h1.2 with ⟨_, e⟩ | ⟨g, cap, cur, rfl, hg, hh, _⟩
 · omega
 · refine ⟨g, cap, r, c, by rw [cell_of_row w p 0 _ _ _ hv]; rfl, fun f hf => ?_, fun f a hf ha => ?_, fun f hf => ?_, h3⟩
   · rw [h1.cellAt (g := g) f (by omega)]
     simp [hf]
   · obtain ⟨_, cu, hc, hw⟩ := h2 f hf
     exact ⟨by rw [cell_of_row w _ a _ _ _ hc]; exact hw a ha, frozen_of_row w _ a _ _ hc⟩
   · obtain ⟨hb, cu, hc, hw⟩ := h2 f hf
     refine ⟨hb, ?_, ?_⟩
     · intro e; rw [e, hv] at hc; simp at hc
     · intro e; rw [e, hh] at hc; simp at hc
theorem RefIs.on {w w' : World} {base p N : Nat} {M : Nat -> Nat -> Int} (h : RefIs w base p N M) (hk : ∀ k, base <= k -> k < w.heap.size -> w'.heap[k]? = w.heap[k]?) : RefIs w' base p N M := by
 obtain ⟨hp, v, hv, hr⟩ := h
 exact ⟨hp, v, by rw [hk p hp (Array.getElem?_eq_some_iff.1 hv).1]; exact hv, hr.on hk⟩
theorem RefIs.grown {w w' : World} {base p N : Nat} {M : Nat -> Nat -> Int} (h : RefIs w base p N M) (hB : Below w.heap.size w w') : RefIs w' base p N M := h.on fun k _ hk => hB.block k hk
theorem RefIs.lt {w : World} {base q N : Nat} {M : Nat -> Nat -> Int} (h : RefIs w base q N M) : q < w.heap.size := by
 obtain ⟨hq, v, hv, _⟩ := h
 exact (Array.getElem?_eq_some_iff.1 hv).1
theorem RefIs.rows {w : World} {base p N : Nat} {M : Nat -> Nat -> Int} (h : RefIs w base p N M) (hN : 1 <= N) : ∃ g cap, ∃ r c : Nat -> Nat, w.cell? ⟨p, 0, none⟩ = some (.slice (some ⟨g, 0, none⟩) N cap) /\
 (∀ f, f < N -> w.cell? ⟨g, f, none⟩ = some (.slice (some ⟨r f, 0, none⟩) 36 (c f))) /\ (∀ f a, f < N -> a < 36 -> w.cell? ⟨r f, a, none⟩ = some (.int .u64 (M f a)) /\ w.frozen? ⟨r f, a, none⟩ = false) /\ ∀ f, f < N -> ∃ cur, w.heap[r f]? = some (.cells cur 83 (0, 0)) := by
 obtain ⟨hp, v, hv, r, c, h1, h2, h3⟩ := h
 rcases h1.2 with ⟨_, e⟩ | ⟨g, cap, cur, rfl, hg, hh, _⟩
 · omega
 · refine ⟨g, cap, r, c, by rw [cell_of_row w p 0 _ _ _ hv]; rfl, fun f hf => ?_, fun f a hf ha => ?_, fun f hf => ?_⟩
   · rw [h1.cellAt (g := g) f (by omega)]
     simp [hf]
   · obtain ⟨_, cu, hc, hw⟩ := h2 f hf
     exact ⟨by rw [cell_of_row w _ a _ _ _ hc]; exact hw a ha, frozen_of_row w _ a _ _ hc⟩
   · obtain ⟨_, cu, hc, _⟩ := h2 f hf
     exact ⟨cu, hc⟩
theorem RefIs.alloc {w : World} {base p N : Nat} {M : Nat -> Nat -> Int} (h : RefIs w base p N M) (o : Obj) : RefIs (w.alloc o) base p N M := h.on fun k _ hk => Below.heap_alloc _ _ _ hk
theorem RefIs.congr {w : World} {base p N : Nat} {M M' : Nat -> Nat -> Int} (h : RefIs w base p N M) (e : ∀ f a, f < N -> a < 36 -> M f a = M' f a) : RefIs w base p N M' := by
 obtain ⟨hp, v, hv, r, c, h1, h2, h3⟩ := h
 refine ⟨hp, v, hv, r, c, h1, fun j hj => ?_, h3⟩
 obtain ⟨hb, cu, hc, hw⟩ := h2 j hj
 exact ⟨hb, cu, hc, fun a ha => by rw [hw a ha, e j a hj ha]⟩
theorem RefIs.store {w : World} {base p N : Nat} {M : Nat -> Nat -> Int} (h : RefIs w base p N M) {f a g cap x c : Nat} (hf : f < N) (ha : a < 36) (hp : w.cell? ⟨p, 0, none⟩ = some (.slice (some ⟨g, 0, none⟩) N cap)) (hg : w.cell? ⟨g, f, none⟩ = some (.slice (some ⟨x, 0, none⟩) 36 c)) (v : Int) :
 RefIs (w.setCell ⟨x, a, none⟩ (.int .u64 v)) base p N (fun h b => if h = f /\ b = a then v else M h b) /\ base <= x := by
 obtain ⟨hb, v0, hv, r, cc, h1, h2, h3⟩ := h
 have e0 : v0 = .slice (some ⟨g, 0, none⟩) N cap := by
  rw [cell_of_row w p 0 _ _ _ hv] at hp
  simpa using hp
 subst e0
 have ex : x = r f := by
  rw [h1.cellAt (g := g) f (by omega)] at hg
  simp [hf] at hg
  exact hg.1.symm
 subst ex
 obtain ⟨hbf, cuf, hcf, hwf⟩ := h2 f hf
 have hother : ∀ k, k ≠ r f -> (w.setCell ⟨r f, a, none⟩ (.int .u64 v)).heap[k]? = w.heap[k]? := fun k hk => Below.heap_setCell _ _ _ _ hk
 refine ⟨⟨hb, .slice (some ⟨g, 0, none⟩) N cap, ?_, r, cc, ?_, fun j hj => ?_, h3⟩, hbf⟩
 · rw [hother p (by rintro rfl; rw [hv] at hcf; simp at hcf)]; exact hv
 · rcases h1.2 with ⟨e, _⟩ | ⟨g', cap', cur, e, hg', hh, rest⟩
   · cases e
   · cases e
     exact ⟨h1.1, .inr ⟨g, cap, cur, rfl, hg', by rw [hother g (by rintro rfl; rw [hh] at hcf; simp at hcf)]; exact hh, rest⟩⟩
 · obtain ⟨hbj, cuj, hcj, hwj⟩ := h2 j hj
   by_cases e : j = f
   · subst e
     rw [hcf] at hcj
     cases hcj
     refine ⟨hbj, cuf.setIfInBounds a (.int .u64 v), heap_setCell_same _ _ _ _ _ _ hcf, fun i hi => ?_⟩
     rw [Array.getElem?_setIfInBounds]
     by_cases ei : a = i
     · subst ei
       have := hwf a ha
       have hlt : a < cuf.size := by
        rcases Nat.lt_or_ge a cuf.size with h | h
        · exact h
        · rw [Array.getElem?_eq_none h] at this; cases this
       simp [hlt]
     · rw [if_neg ei, hwf i hi]
       simp [Ne.symm ei]
   · refine ⟨hbj, cuj, by rw [hother _ (fun h => e (h3 j f hj hf h))]; exact hcj, fun i hi => ?_⟩
     rw [hwj i hi]
     simp [e]
theorem is_yes (p g cap N f : Nat) (w : World) (hf : f < N) (hN : N <= 64) (hp : w.cell? ⟨p, 0, none⟩ = some (.slice (some ⟨g, 0, none⟩) N cap)) :
 Calls Tryz.prog 170 #[.pointer (some ⟨p, 0, none⟩), .int .i64 f] w fun e w' => e = .returned (.bool true) /\ w' = w := by
 have hfi : (f : Int) < (N : Int) := by omega
 go_enter Tryz.func170, Tryz.ntmps170
 go_wp2
 go_ret
 exact ⟨rfl, rfl⟩
theorem is_no (p g cap N : Nat) (f : Int) (w : World) (hf : ¬ (0 <= f /\ f < N)) (hN : N <= 64) (hp : w.cell? ⟨p, 0, none⟩ = some (.slice (some ⟨g, 0, none⟩) N cap)) :
 Calls Tryz.prog 170 #[.pointer (some ⟨p, 0, none⟩), .int .i64 f] w fun e w' => e = .returned (.bool false) /\ w' = w := by
 by_cases h0 : 0 <= f
 · have h1 : ¬ f < N := by omega
   clear hf
   go_enter Tryz.func170, Tryz.ntmps170
   go_wp2
   go_ret
   exact ⟨by first | rfl | (simp; omega), rfl⟩
 · clear hf
   go_enter Tryz.func170, Tryz.ntmps170
   go_wp2
   go_ret
   exact ⟨rfl, rfl⟩
theorem is_any (p g cap N : Nat) (f : Int) (w : World) (hN : N <= 64) (hp : w.cell? ⟨p, 0, none⟩ = some (.slice (some ⟨g, 0, none⟩) N cap)) :
 Calls Tryz.prog 170 #[.pointer (some ⟨p, 0, none⟩), .int .i64 f] w fun e w' => e = .returned (.bool (okF N f)) /\ w' = w := by
 cases h : okF N f
 · exact is_no p g cap N f w (okF_no h) hN hp
 · obtain ⟨c, rfl, hc⟩ := okF_split h
   exact is_yes p g cap N c w hc hN hp
theorem rload_ok (base p N f a : Nat) (M : Nat -> Nat -> Int) (w : World) (hf : f < N) (ha : a < 36) (hN : N <= 64) (hR : RefIs w base p N M) :
 Calls Tryz.prog 282 #[.pointer (some ⟨p, 0, none⟩), .int .i64 f, .int .i64 a] w fun e w' => e = .returned (.tuple #[.int .u64 (M f a), .int .i64 0]) /\ w' = w := by
 obtain ⟨g, cap, r, c, hp, hg0, hw0, _, _⟩ := hR.parts (by omega)
 have hg := hg0 f hf
 have hw := (hw0 f a hf ha).1
 have hok := okF_nat hf
 have hfi : (f : Int) < (N : Int) := by omega
 have hai : (a : Int) < 36 := by omega
 obtain ⟨m, hm⟩ : ∃ m, m = M f a := ⟨_, rfl⟩
 rw [<- hm] at hw ⊢
 clear hg0 hw0 hR hm
 go_enter Tryz.func282, Tryz.ntmps282
 go_wp2_with (go_at_call 170; refine (is_any p g cap N f _ hN hp).mono ?_; rintro e w' ⟨rfl, rfl⟩)
 go_ret2
 exact ⟨rfl, rfl⟩
theorem rload_badA (base p N f : Nat) (a : Int) (M : Nat -> Nat -> Int) (w : World) (hf : f < N) (ha : ¬ (0 <= a /\ a < 36)) (hN : N <= 64) (hR : RefIs w base p N M) :
 Calls Tryz.prog 282 #[.pointer (some ⟨p, 0, none⟩), .int .i64 f, .int .i64 a] w fun e w' => e = .returned (.tuple #[.int .u64 0, .int .i64 1]) /\ w' = w := by
 obtain ⟨g, cap, r, c, hp, _, _, _, _⟩ := hR.parts (by omega)
 have hok := okF_nat hf
 clear hR
 by_cases hn : a < 0
 · clear ha
   go_enter Tryz.func282, Tryz.ntmps282
   go_wp2_with (go_at_call 170; refine (is_any p g cap N f _ hN hp).mono ?_; rintro e w' ⟨rfl, rfl⟩)
   go_ret2
   exact ⟨rfl, rfl⟩
 · have hge : 36 <= a := by omega
   clear ha
   go_enter Tryz.func282, Tryz.ntmps282
   go_wp2_with (go_at_call 170; refine (is_any p g cap N f _ hN hp).mono ?_; rintro e w' ⟨rfl, rfl⟩)
   go_ret2
   exact ⟨rfl, rfl⟩
theorem rload_badF (base p N : Nat) (f a : Int) (M : Nat -> Nat -> Int) (w : World) (hok : okF N f = false) (hN1 : 1 <= N) (hN : N <= 64) (hR : RefIs w base p N M) :
 Calls Tryz.prog 282 #[.pointer (some ⟨p, 0, none⟩), .int .i64 f, .int .i64 a] w fun e w' => e = .returned (.tuple #[.int .u64 0, .int .i64 1]) /\ w' = w := by
 obtain ⟨g, cap, r, c, hp, _, _, _, _⟩ := hR.parts hN1
 clear hR
 go_enter Tryz.func282, Tryz.ntmps282
 go_wp2_with (go_at_call 170; refine (is_any p g cap N f _ hN hp).mono ?_; rintro e w' ⟨rfl, rfl⟩)
 go_ret2
 exact ⟨rfl, rfl⟩
theorem rload_any (base p N : Nat) (f a : Int) (M : Nat -> Nat -> Int) (w : World) (hN1 : 1 <= N) (hN : N <= 64) (hR : RefIs w base p N M) :
 Calls Tryz.prog 282 #[.pointer (some ⟨p, 0, none⟩), .int .i64 f, .int .i64 a] w fun e w' => e = .returned (.tuple #[.int .u64 (ldM N M f a), .int .i64 (errW N f a)]) /\ w' = w := by
 cases h : okF N f
 · simp only [ldM, errW, okW, h, Bool.false_and, Bool.false_eq_true, if_false]
   exact rload_badF base p N f a M w h hN1 hN hR
 · obtain ⟨c, rfl, hc⟩ := okF_split h
   by_cases ha : 0 <= a /\ a < 36
   · obtain ⟨d, rfl⟩ := Int.eq_ofNat_of_zero_le ha.1
     have : okW N (c : Int) (d : Int) = true := by simp [okW, h]; omega
     simp only [ldM, errW, this, if_true, Int.toNat_natCast]
     exact rload_ok base p N c d M w hc (by omega) hN hR
   · have : okW N (c : Int) a = false := by simp [okW, h]; omega
     simp only [ldM, errW, this, Bool.false_eq_true, if_false]
     exact rload_badA base p N c a M w hc ha hN hR
theorem rstore_badA (base p N f : Nat) (a v : Int) (M : Nat -> Nat -> Int) (w : World) (hf : f < N) (ha : ¬ (0 <= a /\ a < 36)) (hN : N <= 64) (hR : RefIs w base p N M) :
 Calls Tryz.prog 241 #[.pointer (some ⟨p, 0, none⟩), .int .i64 f, .int .i64 a, .int .u64 v] w fun e w' => e = .returned (.int .i64 1) /\ w' = w := by
 obtain ⟨g, cap, r, c, hp, _, _, _, _⟩ := hR.parts (by omega)
 have hok := okF_nat hf
 clear hR
 by_cases hn : a < 0
 · clear ha
   go_enter Tryz.func241, Tryz.ntmps241
   go_wp2_with (go_at_call 170; refine (is_any p g cap N f _ hN hp).mono ?_; rintro e w' ⟨rfl, rfl⟩)
   go_ret
   exact ⟨rfl, rfl⟩
 · have hge : 36 <= a := by omega
   clear ha
   go_enter Tryz.func241, Tryz.ntmps241
   go_wp2_with (go_at_call 170; refine (is_any p g cap N f _ hN hp).mono ?_; rintro e w' ⟨rfl, rfl⟩)
   go_ret
   exact ⟨rfl, rfl⟩
theorem rstore_badF (base p N : Nat) (f a v : Int) (M : Nat -> Nat -> Int) (w : World) (hok : okF N f = false) (hN1 : 1 <= N) (hN : N <= 64) (hR : RefIs w base p N M) :
 Calls Tryz.prog 241 #[.pointer (some ⟨p, 0, none⟩), .int .i64 f, .int .i64 a, .int .u64 v] w fun e w' => e = .returned (.int .i64 1) /\ w' = w := by
 obtain ⟨g, cap, r, c, hp, _, _, _, _⟩ := hR.parts hN1
 clear hR
 go_enter Tryz.func241, Tryz.ntmps241
 go_wp2_with (go_at_call 170; refine (is_any p g cap N f _ hN hp).mono ?_; rintro e w' ⟨rfl, rfl⟩)
 go_ret
 exact ⟨rfl, rfl⟩
theorem rclear_bad (base p N : Nat) (f : Int) (M : Nat -> Nat -> Int) (w : World) (hok : okF N f = false) (hN1 : 1 <= N) (hN : N <= 64) (hR : RefIs w base p N M) :
 Calls Tryz.prog 98 #[.pointer (some ⟨p, 0, none⟩), .int .i64 f] w fun e w' => e = .returned (.int .i64 1) /\ w' = w := by
 obtain ⟨g, cap, r, c, hp, _, _, _, _⟩ := hR.parts hN1
 clear hR
 go_enter Tryz.func98, Tryz.ntmps98
 go_wp2_with (go_at_call 170; refine (is_any p g cap N f _ hN hp).mono ?_; rintro e w' ⟨rfl, rfl⟩)
 go_ret
 exact ⟨rfl, rfl⟩
theorem rwords_ok (base p N f : Nat) (M : Nat -> Nat -> Int) (w : World) (hf : f < N) (hN : N <= 64) (hR : RefIs w base p N M) :
 Calls Tryz.prog 232 #[.pointer (some ⟨p, 0, none⟩), .int .i64 f] w fun e w' => ∃ x c, e = .returned (.tuple #[.slice (some ⟨x, 0, none⟩) 36 c, .int .i64 0]) /\ (∀ j, j < 36 -> w'.cell? ⟨x, 0 + j, none⟩ = some (.int .u64 (M f j))) /\ Below w.heap.size w w' := by
 obtain ⟨l, cap, r, c, hp, hg0, hw0, _, _⟩ := hR.parts (by omega)
 have hcf := hg0 f hf
 have hok := okF_nat hf
 have hfi : (f : Int) < (N : Int) := by omega
 obtain ⟨it, hi, hz0, hz1, hz2⟩ := info_parts infoWordM
 have hbl := World.block_lt_of_cell? w _ (hw0 f 0 hf (by omega)).1
 have HR : Hid (∀ j v, (frameM M f)[j]? = some v -> (w.alloc (.cells #[] 83)).cell? ((⟨r f, 0, none⟩ : Addr).add j) = some v) := by
  intro j v hv
  have hj : j < 36 := by have := (List.getElem?_eq_some_iff.1 hv).1; rwa [frameM_len] at this
  rw [Addr.add_mid, World.cell?_alloc_lt _ _ _ (show (⟨r f, 0 + j, none⟩ : Addr).block < w.heap.size from hbl), Nat.zero_add, (hw0 f j hf hj).1, <- hv, frameM_get hj]
 have HO : Hid ((w.alloc (.cells #[] 83)).ownsRow w.heap.size 83 1 (.slice (some ⟨w.heap.size, 0, none⟩) 0 0) 0 []) :=
  ⟨rfl, .inr ⟨_, 0, #[], rfl, Nat.le_refl _, heap_alloc_new _ _, Nat.le_refl _, Nat.zero_le _, rfl, rfl⟩⟩
 have hpl := World.block_lt_of_cell? w _ hp
 have hll := World.block_lt_of_cell? w _ hcf
 have hp' : (w.alloc (.cells #[] 83)).cell? ⟨p, 0, none⟩ = some (.slice (some ⟨l, 0, none⟩) N cap) := by rw [World.cell?_alloc_lt _ _ _ hpl]; exact hp
 have hc' : (w.alloc (.cells #[] 83)).cell? ⟨l, f, none⟩ = some (.slice (some ⟨r f, 0, none⟩) 36 (c f)) := by rw [World.cell?_alloc_lt _ _ _ hll]; exact hcf
 have HL : Hid ((frameM M f).length = 36) := frameM_len M f
 have H1 : Hid (∀ v ∈ frameM M f, v.oneCell' = true) := frameM_one M f
 have HG : Hid (∀ j, j < 36 -> (frameM M f)[j]? = some (.int .u64 (M f j))) := fun j hj => frameM_get hj
 obtain ⟨x, hx⟩ : ∃ x, x = r f := ⟨_, rfl⟩
 obtain ⟨cx, hcx⟩ : ∃ x, x = c f := ⟨_, rfl⟩
 obtain ⟨C, hC⟩ : ∃ C, C = frameM M f := ⟨_, rfl⟩
 rw [<- hx] at hc' HR
 rw [<- hcx] at hc'
 rw [<- hC] at HR HL H1 HG
 clear hg0 hw0 hR hx hcx hC hcf hbl hpl hll
 go_enter Tryz.func232, Tryz.ntmps232
 go_wp2_with (first
  | (go_at_call 170; refine (is_any p l cap N f _ hN hp).mono ?_; rintro e w' ⟨rfl, hw'⟩; subst hw')
  | (at_builtin; refine wpList_append_own _ rfl _ _ 211 rfl w'.heap.size 83 it (.int .u64 0) 1 8 Tryz.underlying211 hi hz0 hz1 hz2 rfl (by decide) _ _ _ rfl HO.out ⟨x, 0, none⟩ 36 cx C rfl HL.out HR.out H1.out (by unfold maxLen; omega) (by omega) (by simp) ?_; intro v' w1 hown' hgrow _; have HW : Hid (w1.ownsRow w'.heap.size 83 1 v' 36 C) := hown'; have HGR : Hid ((w'.alloc (.cells #[] 83)).grownBy w1 (some w'.heap.size)) := hgrow; clear hown' hgrow))
 rcases HW.out.2 with ⟨_, e⟩ | ⟨x', cap', cur, rfl, _⟩
 · cases e
 · go_ret2
   refine ⟨x', cap', rfl, fun j hj => ?_, ((Below.refl _ _).alloc (Nat.le_refl _) _).grown HGR.out (by simp) (fun k e => by cases e; exact Nat.le_refl _)⟩
   rw [Nat.zero_add, HW.out.cellAt (g := x') j (by omega)]
   exact HG.out j hj
theorem rwords_bad (base p N : Nat) (f : Int) (M : Nat -> Nat -> Int) (w : World) (hok : okF N f = false) (hN1 : 1 <= N) (hN : N <= 64) (hR : RefIs w base p N M) :
 Calls Tryz.prog 232 #[.pointer (some ⟨p, 0, none⟩), .int .i64 f] w fun e w' => e = .returned (.tuple #[.slice none 0 0, .int .i64 1]) /\ w' = w := by
 obtain ⟨l, cap, r, c, hp, _, _, _, _⟩ := hR.parts hN1
 clear hR
 go_enter Tryz.func232, Tryz.ntmps232
 go_wp2_with (go_at_call 170; refine (is_any p l cap N f _ hN hp).mono ?_; rintro e w' ⟨rfl, rfl⟩)
 go_ret2
 exact ⟨rfl, rfl⟩
theorem ownsRow_succ {w : World} {base : Nat} {e : TypeId} {v : Value} {n : Nat} {xs : List Value} (h : w.ownsRow base e 1 v (n + 1) xs) : ∃ g cap, v = .slice (some ⟨g, 0, none⟩) (n + 1) cap := by
 rcases h.2 with ⟨_, e⟩ | ⟨g, cap, _, e, _⟩
 · cases e
 · exact ⟨g, cap, e⟩
structure NewI (B : Nat) (w wr : World) (v : Value) (k : Nat) : Prop where
 head : wr.heap[B]? = some (.cells #[v] 264 (0, 0))
 rows : RowsIs wr (B + 1) v k fun _ _ => 0
 below : Below B w wr
 size : B + 1 <= wr.heap.size
theorem NewI.step {B : Nat} {w wo wi w1 : World} {v v' : Value} {k x cx : Nat} {cur : Array Value} {o : Obj} {xs : List Value} (h : NewI B w wo v k) (hB : Below wo.heap.size wo wi) (hx : wo.heap.size <= x) (hh : wi.heap[x]? = some (.cells cur 83 (0, 0))) (hc : ∀ a, a < 36 -> cur[a]? = some (.int .u64 0))
 (ho : wi.ownsRow (B + 1) 211 1 v k xs) (hown : w1.ownsRow (B + 1) 211 1 v' (k + 1) (xs ++ [.slice (some ⟨x, 0, none⟩) 36 cx])) (hg : (wi.alloc o).grownBy w1 v.ownBlock) :
 w1.heap[B]? = some (.cells #[v] 264 (0, 0)) /\ NewI B w (w1.setCell ⟨B, 0, none⟩ v') v' (k + 1) := by
 have hs := h.size
 have hs2 := hB.size
 have hb1 : Below (B + 1) wi w1 := ((Below.refl _ _).alloc (by omega) o).grown hg (by simp; omega) (own_ge ho)
 have hhead : w1.heap[B]? = some (.cells #[v] 264 (0, 0)) := by rw [hb1.block B (by omega), hB.block B (by omega)]; exact h.head
 refine ⟨hhead, ?_, ?_, ?_, ?_⟩
 · rw [heap_setCell_same w1 B 0 _ _ v' hhead]; rfl
 · refine RowsIs.on (w := w1) ?_ (fun j hj _ => Below.heap_setCell _ _ _ _ (by show j ≠ B; omega))
   exact RowsIs.push h.rows (fun j _ hj => hB.block j hj) hx (by omega) hh hc ho hown hg
 · exact (h.below.trans ((hB.mono (by omega)).trans (hb1.mono (by omega)))).setCell (Nat.le_refl _) _
 · have := hb1.size
   simp only [World.size_setCell]
   omega
theorem rnew_ok (N : Nat) (w : World) (hN1 : 1 <= N) (hN : N <= 64) :
 Calls Tryz.prog 160 #[.int .i64 N] w fun e w' => e = .returned (.tuple #[.pointer (some ⟨w.heap.size, 0, none⟩), .int .i64 0]) /\ RefIs w' w.heap.size w.heap.size N (fun _ _ => 0) /\ Below w.heap.size w w' := by
 obtain ⟨it, hi, hz0, hz1, hz2⟩ := info_parts infoWordM
 obtain ⟨jt, hj, hy0, hy1, hy2⟩ := info_parts infoWords
 have h1 : (1 : Int) <= N := by omega
 have h2 : (N : Int) <= 64 := by omega
 have H0 : Hid (NewI w.heap.size w (w.alloc (.cells #[.slice none 0 0] 264)) (.slice none 0 0) 0) :=
  ⟨heap_alloc_new _ _, RowsIs.nil _ _ _, (Below.refl _ _).alloc (Nat.le_refl _) _, by simp⟩
 go_enter Tryz.func160, Tryz.ntmps160
 go_wp2
 go_loopw [5] (fun i wr => ∃ k : Nat, k <= N /\ i = .int .i64 k /\ ∃ v, NewI w.heap.size w wr v k) (fun i _ => N - (intOf i).toNat)
 case atStart => exact ⟨0, by omega, rfl, _, H0.out⟩
 case round =>
  obtain ⟨k, hk, rfl, v, hI⟩ := hrel
  have HI : Hid (NewI w.heap.size w wr v k) := hI
  clear hI H0
  by_cases hlt : k < N
  · have hki : (k : Int) < (N : Int) := by omega
    obtain ⟨wo, hwo⟩ : ∃ wo, wo = wr := ⟨_, rfl⟩
    subst hwo
    go_wp2
    go_loopw [6, 7] (fun u i wi => ∃ j : Nat, j <= 36 /\ i = .int .i64 j /\ wi.ownsRow wo.heap.size 83 1 u j (List.replicate j (.int .u64 0)) /\ Below wo.heap.size wo wi) (fun _ i _ => 36 - (intOf i).toNat)
    case atStart => exact ⟨0, by omega, rfl, ⟨rfl, .inl ⟨rfl, rfl⟩⟩, Below.refl _ _⟩
    case round =>
     obtain ⟨j, hj36, rfl, hO, hB⟩ := hrel
     have HO : Hid (wr.ownsRow wo.heap.size 83 1 u6 j (List.replicate j (.int .u64 0))) := hO
     have HB : Hid (Below wo.heap.size wo wr) := hB
     have hsz := hB.size
     clear hO hB
     by_cases hjl : j < 36
     · have hji : (j : Int) < 36 := by omega
       go_wp2_with (at_builtin; refine wpList_append_own _ rfl _ _ 211 rfl wo.heap.size 83 it (.int .u64 0) 1 8 Tryz.underlying211 hi hz0 hz1 hz2 rfl (by decide) _ _ _ rfl (HO.out.alloc _) ⟨wr.heap.size, 0, none⟩ 1 1 [.int .u64 0] rfl rfl (cell_one_new wr _ _) (by simp [Value.oneCell']) (by unfold maxLen; omega) (by omega) (by simp; omega) ?_; intro v' w1 hown' hgrow _; have HO1 : Hid (w1.ownsRow wo.heap.size 83 1 v' (j + 1) (List.replicate (j + 1) (.int .u64 0))) := (by rw [List.replicate_succ']; exact hown'); have HB1 : Hid (Below wo.heap.size wo w1) := (HB.out.alloc hsz _).grown hgrow (by simp; omega) (own_ge HO.out); clear hown' hgrow)
       go_roundw
       case rel => exact ⟨j + 1, by omega, by go_num, HO1.out, HB1.out⟩
       case measure => simp [intOf]; omega
     · obtain rfl : j = 36 := by omega
       obtain ⟨xs, hxs⟩ := rows_own HI.out.rows
       have HX : Hid (wr.ownsRow (w.heap.size + 1) 211 1 v k xs) := ownsRow_on hxs (fun i hi1 hi2 => HB.out.block i hi2)
       have hcell : wr.cell? ⟨w.heap.size, 0, none⟩ = some v := by
        rw [HB.out.cell (p := ⟨w.heap.size, 0, none⟩) (by have := HI.out.size; show w.heap.size < _; omega), cell_of_row wo _ 0 _ _ _ HI.out.head]; rfl
       rcases HO.out.2 with ⟨_, e⟩ | ⟨x, cx, cur, rfl, hxg, hxh, _, _, _, hxt⟩
       · cases e
       · have HC : Hid (∀ a, a < 36 -> cur[a]? = some (.int .u64 0)) := by
          intro a ha
          have := congrArg (fun l => l[a]?) hxt
          simp only [Nat.mul_one, List.getElem?_take, ha, if_true, List.getElem?_replicate, Array.getElem?_toList] at this
          exact this
         have HH : Hid (wr.heap[x]? = some (.cells cur 83 (0, 0))) := hxh
         have HG : Hid (wo.heap.size <= x) := hxg
         have hs1 := HI.out.size
         clear hxs hxt hxh hxg
         go_wp2_with (at_builtin; refine wpList_append_own _ rfl _ _ 262 rfl (w.heap.size + 1) 211 jt (.slice none 0 0) 1 24 Tryz.underlying262 hj hy0 hy1 hy2 rfl (by decide) _ _ _ rfl (HX.out.alloc _) ⟨wr.heap.size, 0, none⟩ 1 1 [.slice (some ⟨x, 0, none⟩) 36 cx] rfl rfl (cell_one_new wr _ _) (by simp [Value.oneCell']) (by unfold maxLen; omega) (by omega) (by simp; omega) ?_; intro v' w1 hown' hgrow _; obtain ⟨g', cap', rfl⟩ := ownsRow_succ hown'; have S := HI.out.step HB.out HG.out HH.out HC.out HX.out hown' hgrow; have hc1 : w1.cell? ⟨w.heap.size, 0, none⟩ = some v := (by rw [cell_of_row w1 _ 0 _ _ _ S.1]; rfl); have hz1' : w1.frozen? ⟨w.heap.size, 0, none⟩ = false := frozen_of_row w1 _ 0 _ _ S.1; have HS : Hid (∃ v, NewI w.heap.size w (w1.setCell ⟨w.heap.size, 0, none⟩ (.slice (some ⟨g', 0, none⟩) (k + 1) cap')) v (k + 1)) := ⟨_, S.2⟩; clear hown' hgrow S)
         go_roundw
         case rel => exact ⟨k + 1, by omega, by go_num, HS.out⟩
         case measure => simp [intOf]; omega
  · obtain rfl : k = N := by omega
    go_wp2
    go_ret2
    refine ⟨rfl, ⟨Nat.le_refl _, v, HI.out.head, ?_⟩, HI.out.below⟩
    obtain ⟨r, c, g1, g2, g3⟩ := HI.out.rows
    refine ⟨r, c, ⟨g1.1, ?_⟩, fun j hj => ?_, g3⟩
    · rcases g1.2 with g4 | ⟨g, cap, cur, e, hg, rest⟩
      · exact .inl g4
      · exact .inr ⟨g, cap, cur, e, by omega, rest⟩
    · obtain ⟨hb, rest⟩ := g2 j hj
      exact ⟨by omega, rest⟩
def KeepT (w w' : World) : Prop := ∀ (B : Nat) (cs : Array Value) (t : TypeId), t ≠ 83 -> w.heap[B]? = some (.cells cs t (0, 0)) -> w'.heap[B]? = some (.cells cs t (0, 0))
theorem KeepT.refl (w : World) : KeepT w w := fun _ _ _ _ h => h
theorem KeepT.trans {a b c : World} (h : KeepT a b) (k : KeepT b c) : KeepT a c := fun B cs t ht e => k B cs t ht (h B cs t ht e)
theorem KeepT.below {w w' : World} (h : Below w.heap.size w w') : KeepT w w' := fun B cs t _ e => (h.block B (Array.getElem?_eq_some_iff.1 e).1).trans e
theorem KeepT.set {a w : World} (h : KeepT a w) {x : Nat} {cur : Array Value} (hx : w.heap[x]? = some (.cells cur 83 (0, 0))) (j : Nat) (v : Value) : KeepT a (w.setCell ⟨x, j, none⟩ v) := by
 intro B cs t ht e
 have e' := h B cs t ht e
 have hne : B ≠ x := by
  rintro rfl
  rw [hx, Option.some.injEq, Obj.cells.injEq] at e'
  exact ht e'.2.1.symm
 exact (Below.heap_setCell _ _ _ _ hne).trans e'
def Top (w : World) (p T : Nat) : Prop := T <= w.heap.size /\ p < T /\ ∀ g n cap, w.cell? ⟨p, 0, none⟩ = some (.slice (some ⟨g, 0, none⟩) n cap) -> g < T /\ ∀ f x l c, f < n -> w.cell? ⟨g, f, none⟩ = some (.slice (some ⟨x, 0, none⟩) l c) -> x < T
theorem Top.under {w w' : World} {p T : Nat} (h : Top w p T) (hB : Below T w w') : Top w' p T :=
 ⟨Nat.le_trans h.1 hB.size, h.2.1, fun g n cap e => by
   rw [hB.cell (p := ⟨p, 0, none⟩) h.2.1] at e
   obtain ⟨hg, hx⟩ := h.2.2 g n cap e
   exact ⟨hg, fun f x l c hf e2 => by
    rw [hB.cell (p := ⟨g, f, none⟩) hg] at e2
    exact hx f x l c hf e2⟩⟩
structure KeepX (p : Nat) (w w' : World) : Prop where
 t : KeepT w w'
 size : w.heap.size <= w'.heap.size
 up : ∀ T, Top w p T -> Top w' p T /\ ∀ i, T <= i -> i < w.heap.size -> w'.heap[i]? = w.heap[i]?
theorem KeepX.refl (p : Nat) (w : World) : KeepX p w w := ⟨KeepT.refl w, Nat.le_refl _, fun _ h => ⟨h, fun _ _ _ => rfl⟩⟩
theorem KeepX.trans {p : Nat} {a b c : World} (h : KeepX p a b) (k : KeepX p b c) : KeepX p a c :=
 ⟨h.t.trans k.t, Nat.le_trans h.size k.size, fun T hT => by
   obtain ⟨t1, u1⟩ := h.up T hT
   obtain ⟨t2, u2⟩ := k.up T t1
   exact ⟨t2, fun i h1 h2 => (u2 i h1 (Nat.lt_of_lt_of_le h2 h.size)).trans (u1 i h1 h2)⟩⟩
theorem KeepX.below {p : Nat} {w w' : World} (h : Below w.heap.size w w') : KeepX p w w' :=
 ⟨KeepT.below h, h.size, fun T hT => ⟨hT.under (h.mono hT.1), fun i _ hi => h.block i hi⟩⟩
theorem RefIs.row_ne {w : World} {base p N : Nat} {M : Nat -> Nat -> Int} (h : RefIs w base p N M) {f g cap x c : Nat} (hf : f < N) (hp : w.cell? ⟨p, 0, none⟩ = some (.slice (some ⟨g, 0, none⟩) N cap)) (hg : w.cell? ⟨g, f, none⟩ = some (.slice (some ⟨x, 0, none⟩) 36 c)) : x ≠ p /\ x ≠ g := by
 obtain ⟨g1, cap1, r1, c1, hp1, hg1, _, hn, _⟩ := h.parts (by omega)
 rw [hp] at hp1
 simp only [Option.some.injEq, Value.slice.injEq, Addr.mk.injEq, and_true, true_and] at hp1
 obtain ⟨rfl, rfl⟩ := hp1
 have e := hg1 f hf
 rw [hg] at e
 simp only [Option.some.injEq, Value.slice.injEq, Addr.mk.injEq, and_true, true_and] at e
 obtain ⟨e1, _⟩ := e
 have := hn f hf
 rw [<- e1] at this
 exact ⟨this.2.1, this.2.2⟩
theorem KeepX.set {p : Nat} {a w : World} (h : KeepX p a w) {x g n f l c cap : Nat} {cur : Array Value} (hf : f < n) (hp : w.cell? ⟨p, 0, none⟩ = some (.slice (some ⟨g, 0, none⟩) n cap)) (hg : w.cell? ⟨g, f, none⟩ = some (.slice (some ⟨x, 0, none⟩) l c)) (hn : x ≠ p /\ x ≠ g) (hx : w.heap[x]? = some (.cells cur 83 (0, 0))) (j : Nat) (v : Value) : KeepX p a (w.setCell ⟨x, j, none⟩ v) := by
 refine ⟨h.t.set hx j v, by rw [World.size_setCell]; exact h.size, fun T hT => ?_⟩
 obtain ⟨⟨t0, tp, t1⟩, u1⟩ := h.up T hT
 have hxT := (t1 g n cap hp).2 f x l c hf hg
 have eo : ∀ b k, b ≠ x -> (w.setCell ⟨x, j, none⟩ v).cell? ⟨b, k, none⟩ = w.cell? ⟨b, k, none⟩ := fun b k hb => World.cell?_of_block (Below.heap_setCell _ _ _ _ hb)
 refine ⟨⟨by rw [World.size_setCell]; exact t0, tp, fun g' n' cap' e => ?_⟩, fun i h1 h2 => (Below.heap_setCell _ _ _ _ (by show i ≠ x; omega)).trans (u1 i h1 h2)⟩
 rw [eo p 0 (Ne.symm hn.1)] at e
 have e0 := e
 rw [hp] at e0
 simp only [Option.some.injEq, Value.slice.injEq, Addr.mk.injEq, and_true] at e0
 obtain ⟨hg1, hx1⟩ := t1 g' n' cap' e
 refine ⟨hg1, fun f' x' l' c' hf' e2 => ?_⟩
 rw [eo g' f' (by rw [<- e0.1]; exact Ne.symm hn.2)] at e2
 exact hx1 f' x' l' c' hf' e2
theorem RefIs.top {w : World} {base p N : Nat} {M : Nat -> Nat -> Int} (h : RefIs w base p N M) (hN : 1 <= N) : Top w p w.heap.size := by
 obtain ⟨g, cap, r, c, hp, hg, _, ht⟩ := h.rows hN
 refine ⟨Nat.le_refl _, h.lt, fun g' n' cap' e => ?_⟩
 rw [hp] at e
 simp only [Option.some.injEq, Value.slice.injEq, Addr.mk.injEq, and_true] at e
 obtain ⟨rfl, rfl, rfl⟩ := e
 refine ⟨World.block_lt_of_cell? w _ (hg 0 (by omega)), fun f x l c' hf e2 => ?_⟩
 rw [hg f hf] at e2
 simp only [Option.some.injEq, Value.slice.injEq, Addr.mk.injEq, and_true] at e2
 obtain ⟨cur, hcur⟩ := ht f hf
 rw [<- e2.1]
 exact (Array.getElem?_eq_some_iff.1 hcur).1
theorem rstore_x (base p N f a : Nat) (v : Int) (M : Nat -> Nat -> Int) (w : World) (hf : f < N) (ha : a < 36) (hN : N <= 64) (hR : RefIs w base p N M) :
 Calls Tryz.prog 241 #[.pointer (some ⟨p, 0, none⟩), .int .i64 f, .int .i64 a, .int .u64 v] w fun e w' => e = .returned (.int .i64 0) /\ RefIs w' base p N (stW N M f a v) /\ Below base w w' /\ KeepX p w w' := by
 obtain ⟨g, cap, r, c, hp, hg0, hw0, ht0⟩ := hR.rows (by omega)
 have hg := hg0 f hf
 obtain ⟨hw, hz⟩ := hw0 f a hf ha
 obtain ⟨cur, ht⟩ := ht0 f hf
 have hok := okF_nat hf
 have hfi : (f : Int) < (N : Int) := by omega
 have hai : (a : Int) < 36 := by omega
 have hst : stW N M f a v = fun h b => if h = f /\ b = a then v else M h b := by
  have : okW N (f : Int) (a : Int) = true := by simp [okW, hok]; omega
  simp only [stW, this, if_true, Int.toNat_natCast]
 have S := hR.store hf ha hp hg v
 have HS : Hid (RefIs (w.setCell ⟨r f, a, none⟩ (.int .u64 v)) base p N (stW N M f a v) /\ Below base w (w.setCell ⟨r f, a, none⟩ (.int .u64 v)) /\ KeepX p w (w.setCell ⟨r f, a, none⟩ (.int .u64 v))) := by
  rw [hst]
  exact ⟨S.1, (Below.refl _ _).setCell S.2 _, (KeepX.refl p w).set hf hp hg (hR.row_ne hf hp hg) ht _ _⟩
 generalize r f = x at hg hw hz HS
 generalize c f = y at hg
 generalize M f a = m at hw
 clear hg0 hw0 hR S ht0 ht hst
 go_enter Tryz.func241, Tryz.ntmps241
 go_wp2_with (go_at_call 170; refine (is_any p g cap N f _ hN hp).mono ?_; rintro e w' ⟨rfl, rfl⟩)
 go_ret
 exact ⟨rfl, HS.out⟩
theorem rclear_x (base p N f : Nat) (M : Nat -> Nat -> Int) (w : World) (hf : f < N) (hN : N <= 64) (hR : RefIs w base p N M) :
 Calls Tryz.prog 98 #[.pointer (some ⟨p, 0, none⟩), .int .i64 f] w fun e w' => e = .returned (.int .i64 0) /\ RefIs w' base p N (clM N M f) /\ Below base w w' /\ KeepX p w w' := by
 obtain ⟨g, cap, r, c, hp, _, _, _⟩ := hR.rows (by omega)
 have hok := okF_nat hf
 have hfi : (f : Int) < (N : Int) := by omega
 have hcl : clM N M f = fun h b => if h = f then 0 else M h b := by simp only [clM, hok, if_true, Int.toNat_natCast]
 have HR : Hid (RefIs w base p N M) := hR
 rw [hcl]
 clear hR hcl
 go_enter Tryz.func98, Tryz.ntmps98
 go_wp2_with (go_at_call 170; refine (is_any p g cap N f _ hN hp).mono ?_; rintro e w' ⟨rfl, hw'⟩; subst hw')
 go_loopw [5] (fun i wr => ∃ k : Nat, k <= 36 /\ i = .int .i64 k /\ RefIs wr base p N (fun h b => if h = f /\ b < k then 0 else M h b) /\ Below base w' wr /\ KeepX p w' wr) (fun i _ => 36 - (intOf i).toNat)
 case atStart => exact ⟨0, by omega, rfl, HR.out.congr (by intros; simp), Below.refl _ _, KeepX.refl _ _⟩
 case round =>
  obtain ⟨k, hk, rfl, hR, hB, hK⟩ := hrel
  clear hp HR
  have HB : Hid (Below base w' wr /\ KeepX p w' wr) := ⟨hB, hK⟩
  by_cases hlt : k < 36
  · obtain ⟨g1, cap1, r1, c1, hp, hg0, hw0, ht0⟩ := hR.rows (by omega)
    have hg := hg0 f hf
    obtain ⟨hw, hz⟩ := hw0 f k hf hlt
    obtain ⟨cur, ht⟩ := ht0 f hf
    have S := hR.store hf hlt hp hg 0
    have HS : Hid (RefIs (wr.setCell ⟨r1 f, k, none⟩ (.int .u64 0)) base p N (fun h b => if h = f /\ b < k + 1 then 0 else M h b) /\ Below base w' (wr.setCell ⟨r1 f, k, none⟩ (.int .u64 0)) /\ KeepX p w' (wr.setCell ⟨r1 f, k, none⟩ (.int .u64 0))) :=
     ⟨S.1.congr (fun h b _ _ => by by_cases e1 : h = f <;> by_cases e2 : b = k <;> by_cases e3 : b < k <;> simp [e1, e2, e3] <;> omega), hB.setCell S.2 _, hK.set hf hp hg (hR.row_ne hf hp hg) ht _ _⟩
    generalize r1 f = x at hg hw hz HS
    generalize c1 f = y at hg
    obtain ⟨m, hm⟩ : ∃ m, m = (if f = f /\ k < k then 0 else M f k) := ⟨_, rfl⟩
    rw [<- hm] at hw
    have hki : (k : Int) < 36 := by omega
    clear hg0 hw0 hR hm S hB hK ht0 ht
    go_wp2
    go_roundw
    case rel => exact ⟨k + 1, by omega, by go_num, HS.out.1, HS.out.2.1, HS.out.2.2⟩
    case measure => simp [intOf]; omega
  · obtain rfl : k = 36 := by omega
    have HE : Hid (RefIs wr base p N (fun h b => if h = f then 0 else M h b)) := hR.congr (fun h b _ hb => by by_cases e1 : h = f <;> simp [e1] <;> omega)
    clear hR hB hK
    go_wp2
    go_ret
    exact ⟨rfl, HE.out, HB.out.1, HB.out.2⟩
def Fit (M : Nat -> Nat -> Int) : Prop := ∀ f a, 0 <= M f a /\ M f a <= 18446744073709551615
theorem Fit.zero : Fit fun _ _ => 0 := fun _ _ => ⟨Int.le_refl _, by show (0 : Int) <= _; decide⟩
theorem Fit.st {M : Nat -> Nat -> Int} (h : Fit M) (N : Nat) (f a v : Int) (hv : 0 <= v /\ v <= 18446744073709551615) : Fit (stW N M f a v) := by
 intro g b
 unfold stW
 split
 · dsimp only
   split
   · exact hv
   · exact h g b
 · exact h g b
theorem Fit.cl {M : Nat -> Nat -> Int} (h : Fit M) (N : Nat) (f : Int) : Fit (clM N M f) := by
 intro g b
 unfold clM
 split
 · dsimp only
   split
   · omega
   · exact h g b
 · exact h g b
end Pmem
end Go.Proofs.YtkkclcihjojphaaGreatDoor
