/- A map from ints to ints in one block, told by a list of pairs: what look-up, store, delete, len make of it (written by mk_map.py out of tlb's TlbG). -/
import Derived.Test.YtefoofcfbcmjcaaHwG
import Derived.Test.YtefoofcfbcmjcaaRows
import Derived.Laws.CopyRow
import Derived.Below
import Derived.RowKit3
import Derived.WalkKit
import Derived.Maps.RangeRun
import Derived.Maps.OwnSet
namespace Go.Proofs.Ytefoofcfbcmjcaa.Phw
open Go.Proofs.Ytefoofcfbcmjcaa.Pbase
open Go.RowKit Go.ChangeMaps
set_option linter.unusedVariables false

/-- A key and its value. -/
abbrev En := Int × Int
def kv (k : Int) : Value := .int .i64 k
def ev (v : Int) : Value := .int .i64 v
/-! ### The list -/
def hasK (S : List En) (k : Int) : Bool := S.any fun x => decide (x.1 = k)
def vlK : List En → Int → Int
  | [], _ => 0
  | x :: r, k => if x.1 = k then x.2 else vlK r k
def findS : List En → Int → Nat → Option (Nat × Value)
  | [], _, _ => none
  | x :: r, k, i => if x.1 = k then some (i, ev x.2) else findS r k (i + 1)
def putM : List En → Int → Int → List En
  | [], k, v => [(k, v)]
  | x :: r, k, v => if x.1 = k then (k, v) :: r else x :: putM r k v
def delM : List En → Int → List En
  | [], _ => []
  | x :: r, k => if x.1 = k then r else x :: delM r k
theorem findS_none : ∀ (S : List En) (k : Int) (i : Nat), hasK S k = false → findS S k i = none ∧ vlK S k = 0
  | [], _, _, _ => ⟨rfl, rfl⟩
  | x :: r, k, i, h => by
    simp only [hasK, List.any_cons, Bool.or_eq_false_iff, decide_eq_false_iff_not] at h
    simp only [findS, vlK, if_neg h.1]
    exact findS_none r k (i + 1) h.2
theorem findS_some : ∀ (S : List En) (k : Int) (i : Nat), hasK S k = true → ∃ j, findS S k i = some (i + j, ev (vlK S k)) ∧ S[j]? = some (k, vlK S k)
  | [], _, _, h => by simp [hasK] at h
  | x :: r, k, i, h => by
    by_cases e : x.1 = k
    · refine ⟨0, by simp [findS, vlK, e], ?_⟩
      simp only [vlK, if_pos e, List.getElem?_cons_zero]
      rw [← e]
    · have h' : hasK r k = true := by simpa [hasK, e] using h
      obtain ⟨j, h1, h2⟩ := findS_some r k (i + 1) h'
      refine ⟨j + 1, ?_, ?_⟩
      · simp only [findS, vlK, if_neg e, h1]
        congr 2; omega
      · simpa [vlK, e] using h2

/-! ### The model's map -/
/-- The entries of the map in block b are S's, in S's order; their stamps rise. -/
structure Ents (es : Array MapEntry) (clock : Nat) (S : List En) : Prop where
  ents : es.toList.map (fun e => (e.key, e.val)) = S.map fun x => (kv x.1, ev x.2)
  rise : (es.toList.map (·.born)).Pairwise (· < ·)
  old : ∀ e ∈ es.toList, e.born < clock
def MapIs (w : World) (b : Nat) (S : List En) : Prop := ∃ es clock, w.heap[b]? = some (.map es clock) ∧ Ents es clock S
theorem MapIs.on {w w' : World} {b : Nat} {S : List En} (h : MapIs w b S) (hb : w'.heap[b]? = w.heap[b]?) : MapIs w' b S := by
  obtain ⟨es, clock, h1, h2⟩ := h
  exact ⟨es, clock, hb.trans h1, h2⟩
theorem MapIs.lt {w : World} {b : Nat} {S : List En} (h : MapIs w b S) : b < w.heap.size := by
  obtain ⟨es, clock, h1, h2⟩ := h
  exact (Array.getElem?_eq_some_iff.1 h1).1
theorem Ents.size {es : Array MapEntry} {clock : Nat} {S : List En} (h : Ents es clock S) : es.size = S.length := by
  have := congrArg List.length h.ents
  simpa using this

set_option maxRecDepth 100000 in
theorem run_checkK (em : Bool) (k : Int) (w : World) : (Instr.checkKey em 10000 3 (kv k)).run Try.prog w = .ok () w := by
  show (Instr.checkKey em 10000 3 (.int .i64 k)).run Try.prog w = .ok () w
  kernel_rfl
theorem findNowK (k : Int) : ∀ (S : List En) (es : List MapEntry) (i : Nat), es.map (fun e => (e.key, e.val)) = S.map (fun x => (kv x.1, ev x.2)) → Instr.findNow (.int .i64) (kv k) es i = some (findS S k i)
  | [], [], i, _ => rfl
  | [], e :: es, i, h => by simp at h
  | x :: S, [], i, h => by simp at h
  | x :: S, e :: es, i, h => by
    simp only [List.map_cons, List.cons.injEq, Prod.mk.injEq] at h
    obtain ⟨⟨h1, h2⟩, h3⟩ := h
    have hs : Instr.sameNow (.int .i64) (kv k) e.key = some (k == x.1) := by rw [h1]; simp [Instr.sameNow, kv]
    simp only [Instr.findNow, hs, findS]
    by_cases hk : k = x.1
    · simp [hk, h2]
    · have hk' : ¬ x.1 = k := fun e => hk e.symm
      have hb : (k == x.1) = false := by simp [hk]
      simp only [hb, if_neg hk']
      exact findNowK k S es (i + 1) h3
theorem run_findK (k : Int) (w : World) (S : List En) (es : List MapEntry) (h : es.map (fun e => (e.key, e.val)) = S.map (fun x => (kv x.1, ev x.2))) : (Instr.findKey 3 (kv k) es).run Try.prog w = .ok (findS S k 0) w := by
  simp [Instr.findKey, run_underlying Try.underlying3, findNowK k S es 0 h]
/-! ### The operations -/
theorem look_has {w : World} {b : Nat} {S : List En} (h : MapIs w b S) (k : Int) : (Instr.lookup 39 (.map (some b)) (kv k) true).run Try.prog w = .ok (.tuple #[ev (vlK S k), .bool (hasK S k)]) w := by
  obtain ⟨es, clock, hb, E⟩ := h
  simp only [Instr.lookup, Sem.run_bind, run_underlying Try.underlying39, Result.andThen_ok, MapKept.run_getObj_map hb, Sem.run_pure, run_checkK, run_findK k w S es.toList E.ents]
  cases hk : hasK S k
  · obtain ⟨h1, h2⟩ := findS_none S k 0 hk
    simp [h1, h2]
    rfl
  · obtain ⟨j, h1, h2⟩ := findS_some S k 0 hk
    simp [h1]
theorem look_at {w : World} {b : Nat} {S : List En} (h : MapIs w b S) (k : Int) : (Instr.lookup 39 (.map (some b)) (kv k) false).run Try.prog w = .ok (ev (vlK S k)) w := by
  obtain ⟨es, clock, hb, E⟩ := h
  simp only [Instr.lookup, Sem.run_bind, run_underlying Try.underlying39, Result.andThen_ok, MapKept.run_getObj_map hb, Sem.run_pure, run_checkK, run_findK k w S es.toList E.ents]
  cases hk : hasK S k
  · obtain ⟨h1, h2⟩ := findS_none S k 0 hk
    simp [h1, h2]
    rfl
  · obtain ⟨j, h1, h2⟩ := findS_some S k 0 hk
    simp [h1]
theorem len_map {w : World} {b : Nat} {S : List En} (h : MapIs w b S) (ty : TypeId) : (Builtin.len_ #[39] ty #[.map (some b)]).run Try.prog w = .ok (.int .i64 S.length) w := by
  obtain ⟨es, clock, hb, E⟩ := h
  simp [Builtin.len_, run_underlying Try.underlying39, MapKept.run_getObj_map hb, goInt, Result.andThen, E.size]

/-! ### Store, delete, clear -/
theorem map_modify_born (f : MapEntry → MapEntry) (hf : ∀ e, (f e).born = e.born) : ∀ (l : List MapEntry) (j : Nat), (l.modify j f).map (·.born) = l.map (·.born)
  | [], j => by simp
  | e :: l, 0 => by simp [hf]
  | e :: l, j + 1 => by simp [map_modify_born f hf l j]
theorem put_some (k : Int) (y : Int) : ∀ (S : List En) (es : List MapEntry) (i : Nat), es.map (fun e => (e.key, e.val)) = S.map (fun x => (kv x.1, ev x.2)) → hasK S k = true →
    ∃ j v, findS S k i = some (i + j, v) ∧ es[j]?.map (·.key) = some (kv k) ∧ (es.modify j fun e => { e with key := kv k, val := ev y }).map (fun e => (e.key, e.val)) = (putM S k y).map (fun x => (kv x.1, ev x.2))
  | [], _, _, _, h => by simp [hasK] at h
  | x :: S, [], _, h, _ => by simp at h
  | x :: S, e :: es, i, h, hk => by
    simp only [List.map_cons, List.cons.injEq, Prod.mk.injEq] at h
    obtain ⟨⟨h1, h2⟩, h3⟩ := h
    by_cases hx : x.1 = k
    · refine ⟨0, ev x.2, by simp [findS, hx], by simp [h1, hx], ?_⟩
      simp [putM, hx, h3]
    · have hk' : hasK S k = true := by simpa [hasK, hx] using hk
      obtain ⟨j, v, a1, a2, a3⟩ := put_some k y S es (i + 1) h3 hk'
      refine ⟨j + 1, v, by simp only [findS, if_neg hx, a1]; congr 2; omega, by simpa using a2, ?_⟩
      simp [putM, hx, h1, h2, a3]
theorem put_none (k : Int) (y : Int) : ∀ (S : List En), hasK S k = false → putM S k y = S ++ [(k, y)]
  | [], _ => rfl
  | x :: S, h => by
    simp only [hasK, List.any_cons, Bool.or_eq_false_iff, decide_eq_false_iff_not] at h
    simp only [putM, if_neg h.1, List.cons_append, put_none k y S h.2]
theorem del_some (k : Int) : ∀ (S : List En) (es : List MapEntry) (i : Nat), es.map (fun e => (e.key, e.val)) = S.map (fun x => (kv x.1, ev x.2)) → hasK S k = true →
    ∃ j v, findS S k i = some (i + j, v) ∧ j < es.length ∧ (es.eraseIdx j).map (fun e => (e.key, e.val)) = (delM S k).map (fun x => (kv x.1, ev x.2))
  | [], _, _, _, h => by simp [hasK] at h
  | x :: S, [], _, h, _ => by simp at h
  | x :: S, e :: es, i, h, hk => by
    simp only [List.map_cons, List.cons.injEq, Prod.mk.injEq] at h
    obtain ⟨⟨h1, h2⟩, h3⟩ := h
    by_cases hx : x.1 = k
    · refine ⟨0, ev x.2, by simp [findS, hx], by simp, ?_⟩
      simp [delM, hx, h3]
    · have hk' : hasK S k = true := by simpa [hasK, hx] using hk
      obtain ⟨j, v, a1, a2, a3⟩ := del_some k S es (i + 1) h3 hk'
      refine ⟨j + 1, v, by simp only [findS, if_neg hx, a1]; congr 2; omega, by simp; omega, ?_⟩
      simp [delM, hx, h1, h2, a3]
theorem same_kv (k : Int) : Instr.sameBits 10000 (kv k) (kv k) = true := by
  show Instr.sameBits (9999 + 1) (.int .i64 k) (.int .i64 k) = true
  simp [Instr.sameBits]
theorem store_map {w : World} {b : Nat} {S : List En} (h : MapIs w b S) (k : Int) (y : Int) :
    ∃ o, (Instr.mapUpdate 39 (.map (some b)) (kv k) (ev y)).run Try.prog w = .ok () (setBlock w b o) ∧ MapIs (setBlock w b o) b (putM S k y) := by
  obtain ⟨es, clock, hb, E⟩ := h
  cases hk : hasK S k
  · have hf := run_findK k w S es.toList E.ents
    rw [(findS_none S k 0 hk).1] at hf
    refine ⟨.map (es.push { key := kv k, val := ev y, born := clock }) (clock + 1), ?_, _, _, heap_setBlock_same hb _, ?_, ?_, ?_⟩
    · simp [Instr.mapUpdate, run_underlying Try.underlying39, MapKept.run_getObj_map hb, run_checkK, hf, MapKept.run_setObj_map _ hb, Result.andThen, setBlock]
    · rw [put_none k y S hk]
      simp [E.ents]
    · have h1 := E.rise
      have h2 := E.old
      simp only [Array.toList_push, List.map_append, List.map_cons, List.map_nil, List.pairwise_append, List.pairwise_cons, List.not_mem_nil, false_implies, implies_true, List.Pairwise.nil, and_self, true_and]
      refine ⟨h1, fun a ha c hc => ?_⟩
      obtain ⟨e, he, rfl⟩ := List.mem_map.1 ha
      simp only [List.mem_singleton] at hc
      rw [hc]; exact h2 e he
    · intro e he
      simp only [Array.toList_push, List.mem_append, List.mem_singleton] at he
      rcases he with he | he
      · have := E.old e he; omega
      · rw [he]; exact Nat.lt_succ_self _
  · have hf := run_findK k w S es.toList E.ents
    obtain ⟨j, v, a1, a2, a3⟩ := put_some k y S es.toList 0 E.ents hk
    rw [a1, Nat.zero_add] at hf
    have hkey : ((es[j]?).map (·.key)).getD (kv k) = kv k := by rw [← Array.getElem?_toList, a2]; rfl
    have hl : (es.modify j fun e => { e with key := kv k, val := ev y }).toList = es.toList.modify j fun e => { e with key := kv k, val := ev y } := by simp
    have hbn := map_modify_born (fun e : MapEntry => { e with key := kv k, val := ev y }) (fun _ => rfl) es.toList j
    refine ⟨.map (es.modify j fun e => { e with key := kv k, val := ev y }) clock, ?_, _, _, heap_setBlock_same hb _, ?_, ?_, ?_⟩
    · simp [Instr.mapUpdate, run_underlying Try.underlying39, MapKept.run_getObj_map hb, run_checkK, hf, MapKept.run_setObj_map _ hb, Result.andThen, setBlock, hkey, Instr.keyThatStays, same_kv]
    · rw [hl]; exact a3
    · rw [hl, hbn]; exact E.rise
    · intro e he
      have hm : e.born ∈ (es.modify j fun e => { e with key := kv k, val := ev y }).toList.map (·.born) := List.mem_map.2 ⟨e, he, rfl⟩
      rw [hl, hbn] at hm
      obtain ⟨e', he', hb'⟩ := List.mem_map.1 hm
      rw [← hb']; exact E.old e' he'
theorem delete_map {w : World} {b : Nat} {S : List En} (h : MapIs w b S) (k : Int) (hk : hasK S k = true) :
    ∃ o, (∀ ty, (Builtin.delete_ #[39, 3] ty #[.map (some b), kv k]).run Try.prog w = .ok (.tuple #[]) (setBlock w b o)) ∧ MapIs (setBlock w b o) b (delM S k) := by
  obtain ⟨es, clock, hb, E⟩ := h
  have hf := run_findK k w S es.toList E.ents
  obtain ⟨j, v, a1, a2, a3⟩ := del_some k S es.toList 0 E.ents hk
  rw [a1, Nat.zero_add] at hf
  have hjs : j < es.size := by simpa using a2
  have hl : (es.eraseIdxIfInBounds j).toList = es.toList.eraseIdx j := by
    unfold Array.eraseIdxIfInBounds
    rw [dif_pos hjs]
    simp
  refine ⟨.map (es.eraseIdxIfInBounds j) clock, ?_, _, _, heap_setBlock_same hb _, ?_, ?_, ?_⟩
  · intro ty
    simp [Builtin.delete_, run_underlying Try.underlying39, MapKept.run_getObj_map hb, run_checkK, hf, MapKept.run_setObj_map _ hb, Result.andThen, setBlock]
  · rw [hl]; exact a3
  · rw [hl]
    exact E.rise.sublist ((List.eraseIdx_sublist _ _).map _)
  · intro e he
    rw [hl] at he
    exact E.old e ((List.eraseIdx_sublist _ _).subset he)
theorem clear_map {w : World} {b : Nat} {S : List En} (h : MapIs w b S) :
    ∃ o, (∀ ty, (Builtin.clear_ #[39] ty #[.map (some b)]).run Try.prog w = .ok (.tuple #[]) (setBlock w b o)) ∧ MapIs (setBlock w b o) b [] := by
  obtain ⟨es, clock, hb, E⟩ := h
  refine ⟨.map #[] clock, ?_, _, _, heap_setBlock_same hb _, ?_, ?_, ?_⟩
  · intro ty
    simp [Builtin.clear_, run_underlying Try.underlying39, MapKept.run_getObj_map hb, MapKept.run_setObj_map _ hb, Result.andThen, setBlock]
  · rfl
  · simp
  · simp
/-- The block of a map that is written: nothing else changes. -/
theorem setBlock_other {w : World} {b : Nat} {S : List En} (h : MapIs w b S) (o : Obj) {i : Nat} (hi : i ≠ b) : (setBlock w b o).heap[i]? = w.heap[i]? := by
  obtain ⟨es, clock, hb, E⟩ := h
  exact heap_setBlock_other hb _ hi
theorem setBlock_size (w : World) (b : Nat) (o : Obj) : (setBlock w b o).heap.size = w.heap.size := by simp [setBlock]
theorem below_setBlock {B : Nat} {a w : World} {b : Nat} (h : Below B a w) (hb : B ≤ b) (o : Obj) : Below B a (setBlock w b o) :=
  ⟨h.os, h.tape, h.output, by rw [setBlock_size]; exact h.size, fun k hk => by
    have hne : b ≠ k := by omega
    have : (setBlock w b o).heap[k]? = w.heap[k]? := by simp [setBlock, hne]
    rw [this]; exact h.block k hk⟩
end Go.Proofs.Ytefoofcfbcmjcaa.Phw
