/- Texts on finished packages, joined. -/
import Derived.Test.YthcgdgpflhdchaaGreatDoorBunBase
import Derived.Test.YthcgdgpflhdchaaGreatDoorRows
import Derived.Laws.CopyRow
import Derived.Below
import Derived.RowKit3
import Derived.WalkKit
import Derived.Maps.RangeRun
import Derived.Laws.StructEq
import Derived.Maps.OwnSet
import Derived.ProofKit
import Derived.OpenShut
import Derived.Outline
import Derived.Deep.QuietTactic
import Derived.Deep.RegionHeld3
import Derived.Maps.RangeWalk
import Derived.Shelf.SlSortCmp.WholeK
import Derived.Shelf.SlicesG.Cmp
import Derived.BigQuiet
import Derived.Maps.AppendAt
import Derived.Carry
import Derived.Deep.RegionWith
import Derived.Deep.RegionLaw

/- What is remembered, as a list of entries, the oldest first; a map in one block that holds them; what look-up, store, delete, clear and len make of it. -/
namespace Go.Proofs.YthcgdgpflhdchaaGreatDoor.Ptlb
open Go.Proofs.YthcgdgpflhdchaaGreatDoor.Pbase
open Go.RowKit Go.ChangeMaps
set_option linter.unusedVariables false

/-- A key; a mapping; an entry: its key, its mapping, its turn. -/
abbrev Ky := Int × Int
abbrev Pt := Bool × Int × Int × Int
abbrev En := Ky × Pt × Int
def kv (k : Ky) : Value := .agg #[.int .i64 k.1, .int .i64 k.2]
def pv (p : Pt) : Value := .agg #[.bool p.1, .int .i64 p.2.1, .int .i64 p.2.2.1, .int .i64 p.2.2.2]
def ev (p : Pt) (t : Int) : Value := .agg #[.bool p.1, .int .i64 p.2.1, .int .i64 p.2.2.1, .int .i64 p.2.2.2, .int .i64 t]
def pt0 : Pt := (false, 0, 0, 0)

/-! ### The list -/
def hasK (S : List En) (k : Ky) : Bool := S.any fun x => decide (x.1 = k)
def ptK : List En → Ky → Pt
  | [], _ => pt0
  | x :: r, k => if x.1 = k then x.2.1 else ptK r k
def tnK : List En → Ky → Int
  | [], _ => 0
  | x :: r, k => if x.1 = k then x.2.2 else tnK r k
def findS : List En → Ky → Nat → Option (Nat × Value)
  | [], _, _ => none
  | x :: r, k, i => if x.1 = k then some (i, ev x.2.1 x.2.2) else findS r k (i + 1)
def putM : List En → Ky → Pt → Int → List En
  | [], k, p, t => [(k, p, t)]
  | x :: r, k, p, t => if x.1 = k then (k, p, t) :: r else x :: putM r k p t
def delM : List En → Ky → List En
  | [], _ => []
  | x :: r, k => if x.1 = k then r else x :: delM r k
theorem findS_none : ∀ (S : List En) (k : Ky) (i : Nat), hasK S k = false → findS S k i = none ∧ ptK S k = pt0 ∧ tnK S k = 0
  | [], _, _, _ => ⟨rfl, rfl, rfl⟩
  | x :: r, k, i, h => by
    simp only [hasK, List.any_cons, Bool.or_eq_false_iff, decide_eq_false_iff_not] at h
    simp only [findS, ptK, tnK, if_neg h.1]
    exact findS_none r k (i + 1) h.2
theorem findS_some : ∀ (S : List En) (k : Ky) (i : Nat), hasK S k = true → ∃ j, findS S k i = some (i + j, ev (ptK S k) (tnK S k)) ∧ S[j]? = some (k, ptK S k, tnK S k)
  | [], _, _, h => by simp [hasK] at h
  | x :: r, k, i, h => by
    by_cases e : x.1 = k
    · refine ⟨0, by simp [findS, ptK, tnK, e], ?_⟩
      simp only [ptK, tnK, if_pos e, List.getElem?_cons_zero]
      rw [← e]
    · have h' : hasK r k = true := by simpa [hasK, e] using h
      obtain ⟨j, h1, h2⟩ := findS_some r k (i + 1) h'
      refine ⟨j + 1, ?_, ?_⟩
      · simp only [findS, ptK, tnK, if_neg e, h1]
        congr 2; omega
      · simpa [ptK, tnK, e] using h2

/-! ### The model's map -/
/-- The entries of the map in block b are S's, in S's order; their stamps rise. -/
structure Ents (es : Array MapEntry) (clock : Nat) (S : List En) : Prop where
  ents : es.toList.map (fun e => (e.key, e.val)) = S.map fun x => (kv x.1, ev x.2.1 x.2.2)
  rise : (es.toList.map (·.born)).Pairwise (· < ·)
  old : ∀ e ∈ es.toList, e.born < clock
def MapIs (w : World) (b : Nat) (S : List En) : Prop := ∃ es clock, w.heap[b]? = some (.map es clock) ∧ Ents es clock S
theorem MapIs.on {w w' : World} {b : Nat} {S : List En} (h : MapIs w b S) (hb : w'.heap[b]? = w.heap[b]?) : MapIs w' b S := by
  obtain ⟨es, clock, h1, h2⟩ := h
  exact ⟨es, clock, hb.trans h1, h2⟩
theorem MapIs.lt {w : World} {b : Nat} {S : List En} (h : MapIs w b S) : b < w.heap.size := by
  obtain ⟨es, clock, h1, h2⟩ := h
  exact (Array.getElem?_eq_some_iff.1 h1).1
theorem Ents.size {es : Array MapEntry} {clock : Nat} {S : List En} (h : Ents es clock S) : es.size = S.length := by
  have := congrArg List.length h.ents
  simpa using this

set_option maxRecDepth 100000 in
theorem run_checkK (em : Bool) (k : Ky) (w : World) : (Instr.checkKey em 10000 55 (kv k)).run Tryz.prog w = .ok () w := by
  obtain ⟨a, b⟩ := k
  show (Instr.checkKey em 10000 55 (.agg #[.int .i64 a, .int .i64 b])).run Tryz.prog w = .ok () w
  kernel_rfl
set_option maxRecDepth 100000 in
theorem run_equalK (k l : Ky) (w : World) : (Op.equal 55 (kv k) (kv l)).run Tryz.prog w = .ok (decide (k = l)) w := by
  obtain ⟨a, b⟩ := k
  obtain ⟨c, d⟩ := l
  show (Op.equalIn (9998 + 1 + 1) 55 (.agg #[.int .i64 a, .int .i64 b]) (.agg #[.int .i64 c, .int .i64 d])).run _ _ = _
  rw [run_equalIn_agg (P := Tryz.prog) w _ _ _ _ (by kernel_rfl) (by kernel_rfl)]
  have hf : (Tryz.prog.fieldsOf 55).toList = [⟨ "Space", 3, 0, false, "", "", 0⟩, ⟨ "Page", 3, 1, false, "", "", 8⟩] := by kernel_rfl
  rw [hf]
  have p1 : ∀ (x y : Int) (w : World), (part 3 #[.int .i64 x, .int .i64 y] 0).run Tryz.prog w = .ok (.int .i64 x) w := fun _ _ _ => by kernel_rfl
  have p2 : ∀ (x y : Int) (w : World), (part 3 #[.int .i64 x, .int .i64 y] 1).run Tryz.prog w = .ok (.int .i64 y) w := fun _ _ _ => by kernel_rfl
  have q : ∀ (x y : Int) (w : World), (Op.equalIn (9998 + 1) 3 (.int .i64 x) (.int .i64 y)).run Tryz.prog w = .ok (x == y) w := fun x y w => run_equalIn_int w 9998 3 .i64 .i64 x y Tryz.underlying3
  simp only [Op.eqFields, Sem.run_bind, Sem.run_ite, p1, p2, q, Result.andThen_ok, Sem.run_pure]
  by_cases h1 : a = c <;> by_cases h2 : b = d <;> simp [h1, h2]
theorem run_findAsk (k : Ky) (w : World) : ∀ (S : List En) (es : List MapEntry) (i : Nat), es.map (fun e => (e.key, e.val)) = S.map (fun x => (kv x.1, ev x.2.1 x.2.2)) → (Instr.findAsking 55 (kv k) es i).run Tryz.prog w = .ok (findS S k i) w
  | [], [], i, _ => rfl
  | [], e :: es, i, h => by simp at h
  | x :: S, [], i, h => by simp at h
  | x :: S, e :: es, i, h => by
    simp only [List.map_cons, List.cons.injEq, Prod.mk.injEq] at h
    obtain ⟨⟨h1, h2⟩, h3⟩ := h
    simp only [Instr.findAsking, Sem.run_bind, h1, run_equalK, Result.andThen_ok, findS]
    by_cases hk : k = x.1
    · simp [hk, h2]
    · have hk' : ¬ x.1 = k := fun e => hk e.symm
      simp only [hk, hk', decide_false, Bool.false_eq_true, if_false]
      exact run_findAsk k w S es (i + 1) h3
theorem run_findK (k : Ky) (w : World) (S : List En) (es : List MapEntry) (h : es.map (fun e => (e.key, e.val)) = S.map (fun x => (kv x.1, ev x.2.1 x.2.2))) : (Instr.findKey 55 (kv k) es).run Tryz.prog w = .ok (findS S k 0) w := by
  have ha := run_findAsk k w S es 0 h
  cases es with
  | nil =>
    cases S with
    | nil => simp [Instr.findKey, Instr.findNow, run_underlying Tryz.underlying55, findS]
    | cons x S => simp at h
  | cons e es =>
    have hn : Instr.findNow (.struct #[⟨ "Space", 3, 0, false, "", "", 0⟩, ⟨ "Page", 3, 1, false, "", "", 8⟩]) (kv k) (e :: es) 0 = none := by
      simp [Instr.findNow, Instr.sameNow]
    simp only [Instr.findKey, Sem.run_bind, run_underlying Tryz.underlying55, Result.andThen_ok, hn]
    exact ha
set_option maxRecDepth 100000 in
theorem zeroEnt (w : World) : (zeroValue 89).run Tryz.prog w = .ok (ev pt0 0) w := by kernel_rfl

/-! ### The operations -/
theorem look_has {w : World} {b : Nat} {S : List En} (h : MapIs w b S) (k : Ky) : (Instr.lookup 68 (.map (some b)) (kv k) true).run Tryz.prog w = .ok (.tuple #[ev (ptK S k) (tnK S k), .bool (hasK S k)]) w := by
  obtain ⟨es, clock, hb, E⟩ := h
  simp only [Instr.lookup, Sem.run_bind, run_underlying Tryz.underlying68, Result.andThen_ok, MapKept.run_getObj_map hb, Sem.run_pure, run_checkK, run_findK k w S es.toList E.ents]
  cases hk : hasK S k
  · obtain ⟨h1, h2, h3⟩ := findS_none S k 0 hk
    simp [h1, h2, h3]
    rfl
  · obtain ⟨j, h1, h2⟩ := findS_some S k 0 hk
    simp [h1]
theorem look_at {w : World} {b : Nat} {S : List En} (h : MapIs w b S) (k : Ky) : (Instr.lookup 68 (.map (some b)) (kv k) false).run Tryz.prog w = .ok (ev (ptK S k) (tnK S k)) w := by
  obtain ⟨es, clock, hb, E⟩ := h
  simp only [Instr.lookup, Sem.run_bind, run_underlying Tryz.underlying68, Result.andThen_ok, MapKept.run_getObj_map hb, Sem.run_pure, run_checkK, run_findK k w S es.toList E.ents]
  cases hk : hasK S k
  · obtain ⟨h1, h2, h3⟩ := findS_none S k 0 hk
    simp [h1, h2, h3]
    rfl
  · obtain ⟨j, h1, h2⟩ := findS_some S k 0 hk
    simp [h1]
theorem len_map {w : World} {b : Nat} {S : List En} (h : MapIs w b S) (ty : TypeId) : (Builtin.len_ #[68] ty #[.map (some b)]).run Tryz.prog w = .ok (.int .i64 S.length) w := by
  obtain ⟨es, clock, hb, E⟩ := h
  simp [Builtin.len_, run_underlying Tryz.underlying68, MapKept.run_getObj_map hb, goInt, Result.andThen, E.size]

/-! ### Store, delete, clear -/
theorem map_modify_born (f : MapEntry → MapEntry) (hf : ∀ e, (f e).born = e.born) : ∀ (l : List MapEntry) (j : Nat), (l.modify j f).map (·.born) = l.map (·.born)
  | [], j => by simp
  | e :: l, 0 => by simp [hf]
  | e :: l, j + 1 => by simp [map_modify_born f hf l j]
theorem put_some (k : Ky) (p : Pt) (t : Int) : ∀ (S : List En) (es : List MapEntry) (i : Nat), es.map (fun e => (e.key, e.val)) = S.map (fun x => (kv x.1, ev x.2.1 x.2.2)) → hasK S k = true →
    ∃ j v, findS S k i = some (i + j, v) ∧ es[j]?.map (·.key) = some (kv k) ∧ (es.modify j fun e => { e with key := kv k, val := ev p t }).map (fun e => (e.key, e.val)) = (putM S k p t).map (fun x => (kv x.1, ev x.2.1 x.2.2))
  | [], _, _, _, h => by simp [hasK] at h
  | x :: S, [], _, h, _ => by simp at h
  | x :: S, e :: es, i, h, hk => by
    simp only [List.map_cons, List.cons.injEq, Prod.mk.injEq] at h
    obtain ⟨⟨h1, h2⟩, h3⟩ := h
    by_cases hx : x.1 = k
    · refine ⟨0, ev x.2.1 x.2.2, by simp [findS, hx], by simp [h1, hx], ?_⟩
      simp [putM, hx, h3]
    · have hk' : hasK S k = true := by simpa [hasK, hx] using hk
      obtain ⟨j, v, a1, a2, a3⟩ := put_some k p t S es (i + 1) h3 hk'
      refine ⟨j + 1, v, by simp only [findS, if_neg hx, a1]; congr 2; omega, by simpa using a2, ?_⟩
      simp [putM, hx, h1, h2, a3]
theorem put_none (k : Ky) (p : Pt) (t : Int) : ∀ (S : List En), hasK S k = false → putM S k p t = S ++ [(k, p, t)]
  | [], _ => rfl
  | x :: S, h => by
    simp only [hasK, List.any_cons, Bool.or_eq_false_iff, decide_eq_false_iff_not] at h
    simp only [putM, if_neg h.1, List.cons_append, put_none k p t S h.2]
theorem del_some (k : Ky) : ∀ (S : List En) (es : List MapEntry) (i : Nat), es.map (fun e => (e.key, e.val)) = S.map (fun x => (kv x.1, ev x.2.1 x.2.2)) → hasK S k = true →
    ∃ j v, findS S k i = some (i + j, v) ∧ j < es.length ∧ (es.eraseIdx j).map (fun e => (e.key, e.val)) = (delM S k).map (fun x => (kv x.1, ev x.2.1 x.2.2))
  | [], _, _, _, h => by simp [hasK] at h
  | x :: S, [], _, h, _ => by simp at h
  | x :: S, e :: es, i, h, hk => by
    simp only [List.map_cons, List.cons.injEq, Prod.mk.injEq] at h
    obtain ⟨⟨h1, h2⟩, h3⟩ := h
    by_cases hx : x.1 = k
    · refine ⟨0, ev x.2.1 x.2.2, by simp [findS, hx], by simp, ?_⟩
      simp [delM, hx, h3]
    · have hk' : hasK S k = true := by simpa [hasK, hx] using hk
      obtain ⟨j, v, a1, a2, a3⟩ := del_some k S es (i + 1) h3 hk'
      refine ⟨j + 1, v, by simp only [findS, if_neg hx, a1]; congr 2; omega, by simp; omega, ?_⟩
      simp [delM, hx, h1, h2, a3]
theorem same_kv (k : Ky) : Instr.sameBits 10000 (kv k) (kv k) = true := by
  obtain ⟨a, b⟩ := k
  show Instr.sameBits (9998 + 1 + 1) (.agg #[.int .i64 a, .int .i64 b]) (.agg #[.int .i64 a, .int .i64 b]) = true
  simp [Instr.sameBits]
theorem store_map {w : World} {b : Nat} {S : List En} (h : MapIs w b S) (k : Ky) (p : Pt) (t : Int) :
    ∃ o, (Instr.mapUpdate 68 (.map (some b)) (kv k) (ev p t)).run Tryz.prog w = .ok () (setBlock w b o) ∧ MapIs (setBlock w b o) b (putM S k p t) := by
  obtain ⟨es, clock, hb, E⟩ := h
  cases hk : hasK S k
  · have hf := run_findK k w S es.toList E.ents
    rw [(findS_none S k 0 hk).1] at hf
    refine ⟨.map (es.push { key := kv k, val := ev p t, born := clock }) (clock + 1), ?_, _, _, heap_setBlock_same hb _, ?_, ?_, ?_⟩
    · simp [Instr.mapUpdate, run_underlying Tryz.underlying68, MapKept.run_getObj_map hb, run_checkK, hf, MapKept.run_setObj_map _ hb, Result.andThen, setBlock]
    · rw [put_none k p t S hk]
      simp [E.ents]
    · have h1 := E.rise
      have h2 := E.old
      simp only [Array.toList_push, List.map_append, List.map_cons, List.map_nil, List.pairwise_append, List.pairwise_cons, List.not_mem_nil, false_implies, implies_true, List.Pairwise.nil, and_self, true_and]
      refine ⟨h1, fun a ha c hc => ?_⟩
      obtain ⟨e, he, rfl⟩ := List.mem_map.1 ha
      simp only [List.mem_singleton] at hc
      rw [hc]; exact h2 e he
    · intro e he
      simp only [Array.toList_push, List.mem_append, List.mem_singleton] at he
      rcases he with he | he
      · have := E.old e he; omega
      · rw [he]; exact Nat.lt_succ_self _
  · have hf := run_findK k w S es.toList E.ents
    obtain ⟨j, v, a1, a2, a3⟩ := put_some k p t S es.toList 0 E.ents hk
    rw [a1, Nat.zero_add] at hf
    have hkey : ((es[j]?).map (·.key)).getD (kv k) = kv k := by rw [← Array.getElem?_toList, a2]; rfl
    have hl : (es.modify j fun e => { e with key := kv k, val := ev p t }).toList = es.toList.modify j fun e => { e with key := kv k, val := ev p t } := by simp
    have hbn := map_modify_born (fun e : MapEntry => { e with key := kv k, val := ev p t }) (fun _ => rfl) es.toList j
    refine ⟨.map (es.modify j fun e => { e with key := kv k, val := ev p t }) clock, ?_, _, _, heap_setBlock_same hb _, ?_, ?_, ?_⟩
    · simp [Instr.mapUpdate, run_underlying Tryz.underlying68, MapKept.run_getObj_map hb, run_checkK, hf, MapKept.run_setObj_map _ hb, Result.andThen, setBlock, hkey, Instr.keyThatStays, same_kv]
    · rw [hl]; exact a3
    · rw [hl, hbn]; exact E.rise
    · intro e he
      have hm : e.born ∈ (es.modify j fun e => { e with key := kv k, val := ev p t }).toList.map (·.born) := List.mem_map.2 ⟨e, he, rfl⟩
      rw [hl, hbn] at hm
      obtain ⟨e', he', hb'⟩ := List.mem_map.1 hm
      rw [← hb']; exact E.old e' he'
theorem delete_map {w : World} {b : Nat} {S : List En} (h : MapIs w b S) (k : Ky) (hk : hasK S k = true) :
    ∃ o, (∀ ty, (Builtin.delete_ #[68, 55] ty #[.map (some b), kv k]).run Tryz.prog w = .ok (.tuple #[]) (setBlock w b o)) ∧ MapIs (setBlock w b o) b (delM S k) := by
  obtain ⟨es, clock, hb, E⟩ := h
  have hf := run_findK k w S es.toList E.ents
  obtain ⟨j, v, a1, a2, a3⟩ := del_some k S es.toList 0 E.ents hk
  rw [a1, Nat.zero_add] at hf
  have hjs : j < es.size := by simpa using a2
  have hl : (es.eraseIdxIfInBounds j).toList = es.toList.eraseIdx j := by
    unfold Array.eraseIdxIfInBounds
    rw [dif_pos hjs]
    simp
  refine ⟨.map (es.eraseIdxIfInBounds j) clock, ?_, _, _, heap_setBlock_same hb _, ?_, ?_, ?_⟩
  · intro ty
    simp [Builtin.delete_, run_underlying Tryz.underlying68, MapKept.run_getObj_map hb, run_checkK, hf, MapKept.run_setObj_map _ hb, Result.andThen, setBlock]
  · rw [hl]; exact a3
  · rw [hl]
    exact E.rise.sublist ((List.eraseIdx_sublist _ _).map _)
  · intro e he
    rw [hl] at he
    exact E.old e ((List.eraseIdx_sublist _ _).subset he)
theorem clear_map {w : World} {b : Nat} {S : List En} (h : MapIs w b S) :
    ∃ o, (∀ ty, (Builtin.clear_ #[68] ty #[.map (some b)]).run Tryz.prog w = .ok (.tuple #[]) (setBlock w b o)) ∧ MapIs (setBlock w b o) b [] := by
  obtain ⟨es, clock, hb, E⟩ := h
  refine ⟨.map #[] clock, ?_, _, _, heap_setBlock_same hb _, ?_, ?_, ?_⟩
  · intro ty
    simp [Builtin.clear_, run_underlying Tryz.underlying68, MapKept.run_getObj_map hb, MapKept.run_setObj_map _ hb, Result.andThen, setBlock]
  · rfl
  · simp
  · simp
/-- The block of a map that is written: nothing else changes. -/
theorem setBlock_other {w : World} {b : Nat} {S : List En} (h : MapIs w b S) (o : Obj) {i : Nat} (hi : i ≠ b) : (setBlock w b o).heap[i]? = w.heap[i]? := by
  obtain ⟨es, clock, hb, E⟩ := h
  exact heap_setBlock_other hb _ hi
theorem setBlock_size (w : World) (b : Nat) (o : Obj) : (setBlock w b o).heap.size = w.heap.size := by simp [setBlock]
theorem below_setBlock {B : Nat} {a w : World} {b : Nat} (h : Below B a w) (hb : B ≤ b) (o : Obj) : Below B a (setBlock w b o) :=
  ⟨h.os, h.tape, h.output, by rw [setBlock_size]; exact h.size, fun k hk => by
    have hne : b ≠ k := by omega
    have : (setBlock w b o).heap[k]? = w.heap[k]? := by simp [setBlock, hne]
    rw [this]; exact h.block k hk⟩
end Go.Proofs.YthcgdgpflhdchaaGreatDoor.Ptlb

/- What Made, Len, Get, Flush of package tlb answer, for every argument that their types allow. -/
namespace Go.Proofs.YthcgdgpflhdchaaGreatDoor.Ptlb
open Go.Proofs.YthcgdgpflhdchaaGreatDoor.Pbase
open Go.RowKit Go.ChangeMaps
set_option linter.unusedVariables false

/-- One that New made lies behind the pointer to block p; its map in block b. -/
structure TlbIs (w : World) (p b : Nat) (room : Int) (S : List En) : Prop where
  row : w.heap[p]? = some (.cells #[.int .i64 room, .map (some b)] 70 (0, 0))
  map : MapIs w b S
theorem TlbIs.room {w : World} {p b : Nat} {r : Int} {S : List En} (h : TlbIs w p b r S) : w.cell? ⟨p, 0, none⟩ = some (.int .i64 r) := by
  rw [cell_of_row w p 0 _ _ _ h.row]; rfl
theorem TlbIs.ents {w : World} {p b : Nat} {r : Int} {S : List En} (h : TlbIs w p b r S) : w.cell? ⟨p, 1, none⟩ = some (.map (some b)) := by
  rw [cell_of_row w p 1 _ _ _ h.row]; rfl
theorem TlbIs.lt {w : World} {p b : Nat} {r : Int} {S : List En} (h : TlbIs w p b r S) : p < w.heap.size := (Array.getElem?_eq_some_iff.1 h.row).1
theorem TlbIs.ne {w : World} {p b : Nat} {r : Int} {S : List En} (h : TlbIs w p b r S) : p ≠ b := by
  intro e
  obtain ⟨es, clock, hb, _⟩ := h.map
  rw [← e, h.row] at hb
  cases hb
theorem TlbIs.on {w w' : World} {p b : Nat} {r : Int} {S : List En} (h : TlbIs w p b r S) (hp : w'.heap[p]? = w.heap[p]?) (hb : w'.heap[b]? = w.heap[b]?) : TlbIs w' p b r S := ⟨hp.trans h.row, h.map.on hb⟩
theorem TlbIs.below {w w' : World} {B p b : Nat} {r : Int} {S : List En} (h : TlbIs w p b r S) (hB : Below B w w') (hp : p < B) (hb : b < B) : TlbIs w' p b r S := h.on (hB.block p hp) (hB.block b hb)
theorem TlbIs.more {w w' : World} {p b : Nat} {r : Int} {S : List En} (h : TlbIs w p b r S) (hB : Below w.heap.size w w') : TlbIs w' p b r S := h.below hB h.lt h.map.lt
theorem TlbIs.turned {w : World} {p b : Nat} {r : Int} {S S' : List En} (h : TlbIs w p b r S) {o : Obj} (h' : MapIs (setBlock w b o) b S') : TlbIs (setBlock w b o) p b r S' :=
  ⟨(setBlock_other h.map o h.ne).trans h.row, h'⟩

theorem TlbIs.alloc {w : World} {p b : Nat} {r : Int} {S : List En} (h : TlbIs w p b r S) (o : Obj) : TlbIs (w.alloc o) p b r S := h.more ((Below.refl _ _).alloc (Nat.le_refl _) _)
theorem TlbIs.drew {w : World} {p b : Nat} {r : Int} {S : List En} (h : TlbIs w p b r S) : TlbIs w.drew p b r S := h.on rfl rfl

theorem row_new2 (w : World) (o : Obj) (c : Array Value) (t : TypeId) : ((w.alloc o).alloc (.cells c t)).heap[w.heap.size + 1]? = some (.cells c t (0, 0)) := by
  have := heap_alloc_new (w.alloc o) (.cells c t)
  simpa using this
/-- What is written into new blocks alone leaves the old ones. -/
theorem below_size {B : Nat} {a w : World} (h : Below B a w) (hB : B ≤ a.heap.size) : B ≤ w.heap.size := Nat.le_trans hB h.size

/-! ### Made, Len -/
set_option maxRecDepth 100000 in
theorem made_some (p b : Nat) (w : World) (hp : w.cell? ⟨p, 1, none⟩ = some (.map (some b))) :
    Calls Tryz.prog 26 #[.pointer (some ⟨p, 0, none⟩)] w fun e w' => e = .returned (.bool true) ∧ w' = w := by
  have h1 : ∀ w, (binOp .neq 68 (.map (some b)) (.map none)).run Tryz.prog w = .ok (.bool true) w := fun _ => by kernel_rfl
  go_enter Tryz.func26, Tryz.ntmps26
  go_wp2
  go_ret
  exact ⟨rfl, rfl⟩
set_option maxRecDepth 100000 in
theorem made_nil (w : World) :
    Calls Tryz.prog 26 #[.pointer none] w fun e w' => e = .returned (.bool false) ∧ w' = w := by
  go_enter Tryz.func26, Tryz.ntmps26
  go_wp2
  go_ret
  exact ⟨rfl, rfl⟩
set_option maxRecDepth 100000 in
theorem made_zero (p : Nat) (w : World) (hp : w.cell? ⟨p, 1, none⟩ = some (.map none)) :
    Calls Tryz.prog 26 #[.pointer (some ⟨p, 0, none⟩)] w fun e w' => e = .returned (.bool false) ∧ w' = w := by
  have h1 : ∀ w, (binOp .neq 68 (.map none) (.map none)).run Tryz.prog w = .ok (.bool false) w := fun _ => by kernel_rfl
  go_enter Tryz.func26, Tryz.ntmps26
  go_wp2
  go_ret
  exact ⟨rfl, rfl⟩
set_option maxRecDepth 100000 in
theorem len_some (p b : Nat) (r : Int) (S : List En) (w : World) (h : TlbIs w p b r S) :
    Calls Tryz.prog 24 #[.pointer (some ⟨p, 0, none⟩)] w fun e w' => e = .returned (.int .i64 S.length) ∧ w' = w := by
  have hp := h.ents
  have hl := fun ty => len_map h.map ty
  go_enter Tryz.func24, Tryz.ntmps24
  go_wp2_with (go_at_call 26; refine (made_some p b _ hp).mono ?_; rintro e w' ⟨rfl, rfl⟩)
  go_ret
  exact ⟨rfl, rfl⟩
set_option maxRecDepth 100000 in
theorem len_nil (w : World) :
    Calls Tryz.prog 24 #[.pointer none] w fun e w' => e = .returned (.int .i64 0) ∧ w' = w := by
  go_enter Tryz.func24, Tryz.ntmps24
  go_wp2_with (go_at_call 26; refine (made_nil _).mono ?_; rintro e w' ⟨rfl, rfl⟩)
  go_ret
  exact ⟨rfl, rfl⟩
set_option maxRecDepth 100000 in
theorem len_zero (p : Nat) (w : World) (hp : w.cell? ⟨p, 1, none⟩ = some (.map none)) :
    Calls Tryz.prog 24 #[.pointer (some ⟨p, 0, none⟩)] w fun e w' => e = .returned (.int .i64 0) ∧ w' = w := by
  go_enter Tryz.func24, Tryz.ntmps24
  go_wp2_with (go_at_call 26; refine (made_zero p _ hp).mono ?_; rintro e w' ⟨rfl, rfl⟩)
  go_ret
  exact ⟨rfl, rfl⟩

/-! ### Get -/
set_option maxHeartbeats 1000000 in
set_option maxRecDepth 100000 in
theorem get_any (p b : Nat) (r : Int) (S : List En) (k : Ky) (w : World) (h : TlbIs w p b r S) :
    Calls Tryz.prog 48 #[.pointer (some ⟨p, 0, none⟩), .agg #[.int .i64 k.1, .int .i64 k.2]] w fun e w' => e = .returned (.tuple #[pv (ptK S k), .bool (hasK S k)]) ∧ Below w.heap.size w w' := by
  have hp := h.ents
  have hlt := h.lt
  have hl : Hid (∀ w', w'.heap[b]? = w.heap[b]? → (Instr.lookup 68 (.map (some b)) (kv k) true).run Tryz.prog w' = .ok (.tuple #[ev (ptK S k) (tnK S k), .bool (hasK S k)]) w') := fun w' e => look_has (h.map.on e) k
  have hb := h.map.lt
  have H : Hid (TlbIs w p b r S) := h
  obtain ⟨a, c⟩ := k
  obtain ⟨q, hq⟩ : ∃ q, q = ptK S (a, c) := ⟨_, rfl⟩
  obtain ⟨t, ht⟩ : ∃ q, q = tnK S (a, c) := ⟨_, rfl⟩
  obtain ⟨y, hy⟩ : ∃ q, q = hasK S (a, c) := ⟨_, rfl⟩
  rw [← hq, ← ht, ← hy] at hl
  rw [← hq, ← hy]
  clear hq ht hy h
  obtain ⟨q0, q1, q2, q3⟩ := q
  simp only [kv, ev] at hl
  simp only [pv]
  go_enter Tryz.func48, Tryz.ntmps48
  go_wp2_with (go_at_call 26; refine (made_some p b _ ((H.out.alloc _).alloc _).ents).mono ?_; rintro e w1 ⟨rfl, hw1⟩; have HW : Hid (w1 = _) := hw1; clear hw1)
  have c1 : w1.cell? ⟨p, 1, none⟩ = some (.map (some b)) := by rw [HW.out]; exact ((H.out.alloc _).alloc _).ents
  have c2 : w1.cell? ⟨w.heap.size, 0, none⟩ = some (.int .i64 a) := by rw [HW.out]; simp
  have c3 : w1.cell? ⟨w.heap.size, 1, none⟩ = some (.int .i64 c) := by rw [HW.out]; simp
  have d0 : w1.cell? ⟨w.heap.size + 1, 0, none⟩ = some (.bool false) := by rw [HW.out]; simp
  have d1 : w1.cell? ⟨w.heap.size + 1, 1, none⟩ = some (.int .i64 0) := by rw [HW.out]; simp
  have d2 : w1.cell? ⟨w.heap.size + 1, 2, none⟩ = some (.int .i64 0) := by rw [HW.out]; simp
  have d3 : w1.cell? ⟨w.heap.size + 1, 3, none⟩ = some (.int .i64 0) := by rw [HW.out]; simp
  have hrow : Hid (w1.heap[w.heap.size + 1]? = some (.cells #[.bool false, .int .i64 0, .int .i64 0, .int .i64 0] 57 (0, 0))) := by rw [HW.out]; exact row_new2 _ _ _ _
  have z0 := frozen_of_row w1 (w.heap.size + 1) 0 _ _ hrow.out
  have z1 := frozen_of_row w1 (w.heap.size + 1) 1 _ _ hrow.out
  have z2 := frozen_of_row w1 (w.heap.size + 1) 2 _ _ hrow.out
  have z3 := frozen_of_row w1 (w.heap.size + 1) 3 _ _ hrow.out
  have HB : Hid (Below w.heap.size w w1) := by rw [HW.out]; exact ((Below.refl w.heap.size w).alloc (Nat.le_refl _) _).alloc (by simp) _
  have HS : Hid (w1.heap.size = w.heap.size + 2) := by
    have : w1.heap.size = w.heap.size + 2 := by rw [HW.out]; simp
    exact this
  have s1 : w.heap.size + 1 < w1.heap.size := by rw [HS.out]; omega
  clear HW hrow
  have n1 := World.new_ne w1 _ c1
  have n2 := World.new_ne w1 _ c2
  have n3 := World.new_ne w1 _ d0
  have hl1 := hl.out w1.drew (HB.out.drew.block b hb)
  have hl2 := hl.out (w1.alloc (.cells #[.bool false, .int .i64 0, .int .i64 0, .int .i64 0, .int .i64 0] 89)).drew
    ((HB.out.alloc (by rw [HS.out]; omega) _).drew.block b hb)
  go_region_held3 (fun w' => w'.cell? ⟨p, 1, none⟩ = some (.map (some b)) ∧ w'.cell? ⟨w.heap.size, 0, none⟩ = some (.int .i64 a) ∧ w'.cell? ⟨w.heap.size, 1, none⟩ = some (.int .i64 c)) (go_keep) (fail)
  all_goals go_wp2
  all_goals
    exact bodyPost_ret (v := .tuple #[.agg #[.bool q0, .int .i64 q1, .int .i64 q2, .int .i64 q3], .bool y]) (by simp [results, Tryz.results48, go_sem, d0, d1, d2, d3, s1]) rfl
      ⟨rfl, (bal (bst (bst (bst (bst HB.out (by omega) _ _) (by omega) _ _) (by omega) _ _) (by omega) _ _) _).drew⟩
set_option maxRecDepth 100000 in
theorem get_nil (k : Ky) (w : World) :
    Calls Tryz.prog 48 #[.pointer none, .agg #[.int .i64 k.1, .int .i64 k.2]] w fun e w' => e = .returned (.tuple #[pv pt0, .bool false]) ∧ Below w.heap.size w w' := by
  simp only [pv, pt0]
  go_enter Tryz.func48, Tryz.ntmps48
  go_wp2_with (go_at_call 26; refine (made_nil _).mono ?_; rintro e w1 ⟨rfl, rfl⟩)
  exact bodyPost_ret (v := .tuple #[.agg #[.bool false, .int .i64 0, .int .i64 0, .int .i64 0], .bool false]) (by simp [results, Tryz.results48, go_sem]) rfl
      ⟨rfl, by first | exact bal (bal (Below.refl _ _) _) _ | exact (bst (bst (bst (bst (bal (bal (Below.refl _ _) _) _) (by omega) _ _) (by omega) _ _) (by omega) _ _) (by omega) _ _)⟩

/-! ### Flush -/
set_option maxRecDepth 100000 in
theorem flush_some (p b : Nat) (r : Int) (S : List En) (w : World) (h : TlbIs w p b r S) :
    Calls Tryz.prog 11 #[.pointer (some ⟨p, 0, none⟩)] w fun e w' => e = .returned (.int .i64 S.length) ∧ TlbIs w' p b r [] ∧ w'.heap.size = w.heap.size ∧ ∀ B, B ≤ b → Below B w w' := by
  have hp := h.ents
  obtain ⟨o, hc, hm⟩ := clear_map h.map
  have HM : Hid (MapIs (setBlock w b o) b []) := hm
  have H : Hid (TlbIs w p b r S) := h
  clear hm h
  have hl0 : (0 : Int) ≤ S.length := by omega
  by_cases h0 : S.length = 0
  · have HE : Hid (S = []) := List.eq_nil_of_length_eq_zero h0
    have h1 : ¬ (0 : Int) < S.length := by omega
    clear h0
    go_enter Tryz.func11, Tryz.ntmps11
    go_wp2_with (go_at_call 24; refine (len_some p b r S _ H.out).mono ?_; rintro e w' ⟨rfl, rfl⟩)
    go_ret
    exact ⟨rfl, HE.out ▸ H.out, rfl, fun B _ => Below.refl _ _⟩
  · have h1 : (0 : Int) < S.length := by omega
    clear h0
    go_enter Tryz.func11, Tryz.ntmps11
    go_wp2_with (go_at_call 24; refine (len_some p b r S _ H.out).mono ?_; rintro e w' ⟨rfl, rfl⟩)
    go_ret
    exact ⟨rfl, H.out.turned HM.out, setBlock_size _ _ _, fun B hB => below_setBlock (Below.refl _ _) hB _⟩
set_option maxRecDepth 100000 in
theorem flush_zero (p : Nat) (w : World) (hp : w.cell? ⟨p, 1, none⟩ = some (.map none)) :
    Calls Tryz.prog 11 #[.pointer (some ⟨p, 0, none⟩)] w fun e w' => e = .returned (.int .i64 0) ∧ w' = w := by
  go_enter Tryz.func11, Tryz.ntmps11
  go_wp2_with (go_at_call 24; refine (len_zero p _ hp).mono ?_; rintro e w' ⟨rfl, rfl⟩)
  go_ret
  exact ⟨rfl, rfl⟩
end Go.Proofs.YthcgdgpflhdchaaGreatDoor.Ptlb

/- A range over the map of what is remembered, in whatever order; the turn of a key: what turnOf of package tlb answers. -/
namespace Go.Proofs.YthcgdgpflhdchaaGreatDoor.Ptlb
open Go.Proofs.YthcgdgpflhdchaaGreatDoor.Pbase
open Go.RowKit Go.ChangeMaps
set_option linter.unusedVariables false

/-- What rises has no two alike. -/
theorem rise_ne : ∀ {l : List Nat}, l.Pairwise (· < ·) → l.Pairwise (· ≠ ·)
  | [], _ => List.Pairwise.nil
  | a :: l, h => List.pairwise_cons.2 ⟨fun b hb => Nat.ne_of_lt ((List.pairwise_cons.1 h).1 b hb), rise_ne (List.pairwise_cons.1 h).2⟩
/-! ### The range -/
/-- Block r is an iterator over the map in block b, which holds S; D: the entries that it has handed out, in that order. -/
def RngIs (w : World) (b r : Nat) (S D : List En) : Prop :=
  ∃ es clock since seen c0, w.heap[b]? = some (.map es clock) ∧ Ents es clock S ∧ w.heap[r]? = some (.mapIter (some b) since seen c0) ∧ (∀ x ∈ es.toList, x.born < since) ∧ since ≤ c0 ∧ since ≤ clock ∧
    ∃ Z A B : List (MapEntry × En), Z.map Prod.fst = es.toList ∧ Z.map Prod.snd = S ∧ (∀ z ∈ Z, z.1.key = kv z.2.1 ∧ z.1.val = ev z.2.2.1 z.2.2.2) ∧ Z.Perm (A ++ B) ∧ seen.toList = A.map (fun z => z.1.born) ∧ D = A.map Prod.snd
theorem zip_ents : ∀ (l : List MapEntry) (S : List En), l.map (fun e => (e.key, e.val)) = S.map (fun x => (kv x.1, ev x.2.1 x.2.2)) → ∃ Z : List (MapEntry × En), Z.map Prod.fst = l ∧ Z.map Prod.snd = S ∧ ∀ z ∈ Z, z.1.key = kv z.2.1 ∧ z.1.val = ev z.2.2.1 z.2.2.2
  | [], [], _ => ⟨[], rfl, rfl, by simp⟩
  | [], _ :: _, h => by simp at h
  | _ :: _, [], h => by simp at h
  | e :: l, x :: S, h => by
    simp only [List.map_cons, List.cons.injEq, Prod.mk.injEq] at h
    obtain ⟨Z, h1, h2, h3⟩ := zip_ents l S h.2
    refine ⟨(e, x) :: Z, by simp [h1], by simp [h2], ?_⟩
    intro z hz
    rcases List.mem_cons.1 hz with rfl | hz
    · exact h.1
    · exact h3 z hz
theorem RngIs.map {w : World} {b r : Nat} {S D : List En} (h : RngIs w b r S D) : MapIs w b S := by
  obtain ⟨es, clock, since, seen, c0, h1, h2, _⟩ := h
  exact ⟨es, clock, h1, h2⟩
theorem RngIs.lt {w : World} {b r : Nat} {S D : List En} (h : RngIs w b r S D) : r < w.heap.size := by
  obtain ⟨es, clock, since, seen, c0, h1, h2, h3, _⟩ := h
  exact (Array.getElem?_eq_some_iff.1 h3).1
theorem RngIs.ne {w : World} {b r : Nat} {S D : List En} (h : RngIs w b r S D) : b ≠ r := by
  obtain ⟨es, clock, since, seen, c0, h1, h2, h3, _⟩ := h
  intro e
  rw [e, h3] at h1
  cases h1
theorem RngIs.on {w w' : World} {b r : Nat} {S D : List En} (h : RngIs w b r S D) (hb : w'.heap[b]? = w.heap[b]?) (hr : w'.heap[r]? = w.heap[r]?) : RngIs w' b r S D := by
  obtain ⟨es, clock, since, seen, c0, h1, h2, h3, h4⟩ := h
  exact ⟨es, clock, since, seen, c0, hb.trans h1, h2, hr.trans h3, h4⟩
theorem rangeLeft_on {w w' : World} {b r : Nat} (hb : w'.heap[b]? = w.heap[b]?) (hr : w'.heap[r]? = w.heap[r]?) : w'.rangeLeft b r = w.rangeLeft b r := by
  simp only [World.rangeLeft, hb, hr]
theorem RngIs.alloc {w : World} {b r : Nat} {S D : List En} (h : RngIs w b r S D) (o : Obj) : RngIs (w.alloc o) b r S D := h.on (Below.heap_alloc w o b h.map.lt) (Below.heap_alloc w o r h.lt)
theorem RngIs.left_alloc {w : World} {b r : Nat} {S D : List En} (h : RngIs w b r S D) (o : Obj) : (w.alloc o).rangeLeft b r = w.rangeLeft b r := rangeLeft_on (Below.heap_alloc w o b h.map.lt) (Below.heap_alloc w o r h.lt)
theorem RngIs.start {w : World} {b : Nat} {S : List En} (h : MapIs w b S) :
    ∃ o, (Instr.range 68 (.map (some b))).run Tryz.prog w = .ok (.pointer (some ⟨w.heap.size, 0, none⟩)) (w.alloc o) ∧ RngIs (w.alloc o) b w.heap.size S [] := by
  have hlt := h.lt
  obtain ⟨es, clock, hb, E⟩ := h
  obtain ⟨Z, z1, z2, z3⟩ := zip_ents es.toList S E.ents
  refine ⟨_, run_range_map w 68 55 89 b es clock Tryz.underlying68 hb, es, clock, clock, #[], clock, (MapKept.heap_alloc w _).2 b hlt |>.trans hb, E, (MapKept.heap_alloc w _).1, E.old, Nat.le_refl _, Nat.le_refl _, Z, [], Z, z1, z2, z3, List.Perm.refl _, rfl, rfl⟩
/-- The step: all was handed out; or one more comes. -/
theorem RngIs.next {w : World} {b r : Nat} {S D : List En} (h : RngIs w b r S D) (ty : TypeId) :
    (S.Perm D ∧ (Instr.next (.pointer (some ⟨r, 0, none⟩)) false ty).run Tryz.prog w = .ok (.tuple #[.bool false]) w) ∨
    ∃ x w', x ∈ S ∧ (∃ R, S.Perm (D ++ x :: R)) ∧ (Instr.next (.pointer (some ⟨r, 0, none⟩)) false ty).run Tryz.prog w = .ok (.tuple #[.bool true, kv x.1, ev x.2.1 x.2.2]) w' ∧ RngIs w' b r S (D ++ [x]) ∧ w'.rangeLeft b r < w.rangeLeft b r ∧
      (Instr.entry (.pointer (some ⟨r, 0, none⟩))).run Tryz.prog w' = .ok (.tuple #[kv x.1, ev x.2.1 x.2.2]) w' ∧ w'.heap.size = w.heap.size ∧ (∀ i, i ≠ r → w'.heap[i]? = w.heap[i]?) ∧ ∀ B, B ≤ r → Below B w w' := by
  have hne := h.ne
  obtain ⟨es, clock, since, seen, c0, hb, E, hr, hold, hsc, hsk, Z, A, B, z1, z2, z3, z4, z5, z6⟩ := h
  have nd : (Z.map fun z => z.1.born).Nodup := by
    have e1 : (Z.map fun z => z.1.born) = es.toList.map (·.born) := by rw [← z1]; simp
    rw [e1]
    exact rise_ne E.rise
  have nd2 : (A.map (fun z => z.1.born) ++ B.map fun z => z.1.born).Nodup := by
    have := (z4.map fun z => z.1.born).nodup_iff.1 nd
    simpa using this
  have hB : ∀ z ∈ B, seen.contains z.1.born = false := fun z hz => by
    cases hc : seen.contains z.1.born
    · rfl
    · exfalso
      have h1 : z.1.born ∈ A.map fun z => z.1.born := by
        rw [← z5]
        simpa using hc
      exact (List.nodup_append.1 nd2).2.2 _ h1 _ (List.mem_map.2 ⟨z, hz, rfl⟩) rfl
  rcases run_next_at (P := Tryz.prog) w ty r b since c0 seen es clock hr hb hold hsc with ⟨h0, hrun⟩ | ⟨e, he, w1, hal, hrun⟩
  · refine Or.inl ⟨?_, hrun⟩
    have hBn : B = [] := by
      cases B with
      | nil => rfl
      | cons z B =>
        have hz : z ∈ Z := z4.mem_iff.2 (by simp)
        have : z.1 ∈ es.toList := by rw [← z1]; exact List.mem_map.2 ⟨z, hz, rfl⟩
        have h1 := all_seen es seen h0 z.1 this
        rw [hB z (by simp)] at h1
        cases h1
    subst hBn
    rw [← z2, z6]
    simpa using z4.map Prod.snd
  · obtain ⟨hem, hes⟩ := mem_left he
    obtain ⟨z, hz, rfl⟩ : ∃ z ∈ Z, z.1 = e := by rw [← z1] at hem; simpa using hem
    have hzB : z ∈ B := by
      rcases List.mem_append.1 (z4.mem_iff.1 hz) with hA | hB'
      · exfalso
        have h1 : z.1.born ∈ seen.toList := by rw [z5]; exact List.mem_map.2 ⟨z, hA, rfl⟩
        have h2 : seen.contains z.1.born = true := by simpa using h1
        rw [hes] at h2
        cases h2
      · exact hB'
    obtain ⟨B1, B2, rfl⟩ := List.append_of_mem hzB
    obtain ⟨k1, k2⟩ := z3 z hz
    have hr1 : w1.heap[r]? = some (.mapIter (some b) since seen c0) := by rcases hal with rfl | rfl <;> exact hr
    have hb1 : w1.heap[b]? = some (.map es clock) := by rcases hal with rfl | rfl <;> exact hb
    have hlt : r < w1.heap.size := (Array.getElem?_eq_some_iff.1 hr1).1
    have hset1 : (setBlock w1 r (.mapIter (some b) since (seen.push z.1.born) clock)).heap[r]? = some (.mapIter (some b) since (seen.push z.1.born) clock) := by simp [setBlock, hlt]
    have hset2 : ∀ i, i ≠ r → (setBlock w1 r (.mapIter (some b) since (seen.push z.1.born) clock)).heap[i]? = w1.heap[i]? := fun i hi => by simp [setBlock, Ne.symm hi]
    have hb' := (hset2 b hne).trans hb1
    have hall : ∀ i, i ≠ r → (setBlock w1 r (.mapIter (some b) since (seen.push z.1.born) clock)).heap[i]? = w.heap[i]? := fun i hi => (hset2 i hi).trans (by rcases hal with rfl | rfl <;> rfl)
    have hsz : (setBlock w1 r (.mapIter (some b) since (seen.push z.1.born) clock)).heap.size = w.heap.size := by rw [setBlock_size]; rcases hal with rfl | rfl <;> rfl
    have hperm : (B1 ++ z :: B2).Perm (z :: (B1 ++ B2)) := List.perm_middle
    rw [k1, k2] at hrun
    refine Or.inr ⟨z.2, _, by rw [← z2]; exact List.mem_map.2 ⟨z, hz, rfl⟩, ⟨(B1 ++ B2).map Prod.snd, ?_⟩, hrun, ⟨es, clock, since, seen.push z.1.born, clock, hb', E, hset1, hold, hsk, hsk, Z, A ++ [z], B1 ++ B2, z1, z2, z3, ?_, by simp [z5], by simp [z6]⟩, ?_, ?_, hsz, hall, ?_⟩
    · rw [← z2, z6]
      have := (z4.trans (List.Perm.append_left A hperm)).map Prod.snd
      simpa using this
    · have := z4.trans (List.Perm.append_left A hperm)
      simpa using this
    · simp only [World.rangeLeft, hb', hset1, hb, hr]
      exact left_shrinks es seen z.1 he
    · have := run_entry_at (P := Tryz.prog) _ r b since seen es clock z.1 hset1 hb' (by rw [← z1]; exact List.mem_map.2 ⟨z, hz, rfl⟩) (rise_ne E.rise)
      rw [k1, k2] at this
      exact this
    · intro N hN
      have hos : w1.os = w.os ∧ w1.tape = w.tape ∧ w1.output = w.output := by rcases hal with rfl | rfl <;> exact ⟨rfl, rfl, rfl⟩
      exact ⟨hos.1, hos.2.1, hos.2.2, Nat.le_of_eq hsz.symm, fun i hi => hall i (by omega)⟩
section
variable (w : World) {ops : Array Oper} {rest : List Oper} {o : Oper} {a : Act} {Q : Exit → Act → World → Prop}
theorem wpList_range_map (hg : o.guard = none) (m : Operand) (hop : o.op = Op.range 68 m) (b : Nat) (S : List En) (hm : a.eval m = .map (some b)) (h : MapIs w b S)
    (hK : ∀ w', RngIs w' b w.heap.size S [] → Below w.heap.size w w' → w'.heap.size = w.heap.size + 1 → wpList Tryz.prog ops Q rest (a.put o.dst (.pointer (some ⟨w.heap.size, 0, none⟩))) w') :
    wpList Tryz.prog ops Q (o :: rest) a w := by
  refine wpList_plain hg fun K' hK' => ?_
  obtain ⟨o', hrun, h1⟩ := RngIs.start h
  unfold Oper.wp
  simp [execOp, hop, hm, hrun, Result.andThen]
  exact hK' _ _ (hK _ h1 (bal (Below.refl _ _) _) (by simp))
theorem wpList_next_map (hg : o.guard = none) (it : Operand) (hop : o.op = Op.next it false) (b r : Nat) (S D : List En) (hit : a.eval it = .pointer (some ⟨r, 0, none⟩)) (h : RngIs w b r S D)
    (hDone : S.Perm D → wpList Tryz.prog ops Q rest (a.put o.dst (.tuple #[.bool false])) w)
    (hMore : ∀ (k1 k2 : Int) (p0 : Bool) (p1 p2 p3 t : Int) (w' : World), Hid ((∃ R, S.Perm (D ++ ((k1, k2), (p0, p1, p2, p3), t) :: R)) ∧ RngIs w' b r S (D ++ [((k1, k2), (p0, p1, p2, p3), t)]) ∧ w'.rangeLeft b r < w.rangeLeft b r ∧ w'.heap.size = w.heap.size ∧ (∀ i, i ≠ r → w'.heap[i]? = w.heap[i]?) ∧ ∀ B, B ≤ r → Below B w w') →
      (Instr.entry (.pointer (some ⟨r, 0, none⟩))).run Tryz.prog w' = .ok (.tuple #[.agg #[.int .i64 k1, .int .i64 k2], .agg #[.bool p0, .int .i64 p1, .int .i64 p2, .int .i64 p3, .int .i64 t]]) w' →
      wpList Tryz.prog ops Q rest (a.put o.dst (.tuple #[.bool true, .agg #[.int .i64 k1, .int .i64 k2], .agg #[.bool p0, .int .i64 p1, .int .i64 p2, .int .i64 p3, .int .i64 t]])) w') :
    wpList Tryz.prog ops Q (o :: rest) a w := by
  refine wpList_plain hg fun K' hK' => ?_
  unfold Oper.wp
  rcases h.next o.type with ⟨h0, hrun⟩ | ⟨x, w', hx, hR, hrun, h1, h2, h3, h4, h5, h6⟩
  · simp [execOp, hop, hit, hrun, Result.andThen]
    exact hK' _ _ (hDone h0)
  · obtain ⟨⟨k1, k2⟩, ⟨p0, p1, p2, p3⟩, t⟩ := x
    simp [execOp, hop, hit, hrun, Result.andThen]
    exact hK' _ _ (hMore k1 k2 p0 p1 p2 p3 t w' ⟨hR, h1, h2, h4, h5, h6⟩ h3)
end

/-! ### The greatest turn -/
def mxT (S : List En) : Int := S.foldl (fun m x => if x.2.2 > m then x.2.2 else m) 0
theorem mxT_snoc (S : List En) (x : En) : mxT (S ++ [x]) = if x.2.2 > mxT S then x.2.2 else mxT S := by simp [mxT, List.foldl_append]
theorem mxT_perm {S D : List En} (h : S.Perm D) : mxT S = mxT D := by
  unfold mxT
  refine h.foldl_eq' (fun x _ y _ z => ?_) 0
  by_cases a : x.2.2 > z <;> by_cases b : y.2.2 > z <;> simp only [a, b, if_true, if_false] <;> (repeat' split) <;> omega
theorem fold_ge (S : List En) : ∀ m : Int, m ≤ S.foldl (fun m x => if x.2.2 > m then x.2.2 else m) m ∧ (∀ x ∈ S, x.2.2 ≤ S.foldl (fun m x => if x.2.2 > m then x.2.2 else m) m) ∧ ∀ T, m ≤ T → (∀ x ∈ S, x.2.2 ≤ T) → S.foldl (fun m x => if x.2.2 > m then x.2.2 else m) m ≤ T := by
  induction S with
  | nil => intro m; simp
  | cons y S ih =>
    intro m
    obtain ⟨h1, h2, h3⟩ := ih (if y.2.2 > m then y.2.2 else m)
    simp only [List.foldl_cons]
    refine ⟨Int.le_trans (by split <;> omega) h1, fun x hx => ?_, fun T hm hT => h3 T ?_ (fun x hx => hT x (by simp [hx]))⟩
    · rcases List.mem_cons.1 hx with rfl | hx
      · exact Int.le_trans (by split <;> omega) h1
      · exact h2 x hx
    · have := hT y (by simp)
      split <;> omega
theorem mxT_ge (S : List En) {x : En} (h : x ∈ S) : x.2.2 ≤ mxT S := (fold_ge S 0).2.1 x h
theorem mxT_pos (S : List En) : 0 ≤ mxT S := (fold_ge S 0).1
theorem mxT_le (S : List En) {T : Int} (h0 : 0 ≤ T) (h : ∀ x ∈ S, x.2.2 ≤ T) : mxT S ≤ T := (fold_ge S 0).2.2 T h0 h
/-- The turn that turnOf answers. -/
def turnS (S : List En) (k : Ky) : Int := if hasK S k then tnK S k else mxT S + 1

end Go.Proofs.YthcgdgpflhdchaaGreatDoor.Ptlb

/- What turnOf of package tlb answers. -/
namespace Go.Proofs.YthcgdgpflhdchaaGreatDoor.Ptlb
open Go.Proofs.YthcgdgpflhdchaaGreatDoor.Pbase
open Go.RowKit Go.ChangeMaps
set_option linter.unusedVariables false

set_option maxHeartbeats 1000000 in
set_option maxRecDepth 100000 in
theorem turn_has (p b : Nat) (r : Int) (S : List En) (k : Ky) (w : World) (h : TlbIs w p b r S) (hk : hasK S k = true) :
    Calls Tryz.prog 69 #[.pointer (some ⟨p, 0, none⟩), .agg #[.int .i64 k.1, .int .i64 k.2]] w fun e w' => e = .returned (.int .i64 (tnK S k)) ∧ Below w.heap.size w w' := by
  have hp := h.ents
  have hlt := h.lt
  have hl : Hid (∀ w', w'.heap[b]? = w.heap[b]? → (Instr.lookup 68 (.map (some b)) (kv k) true).run Tryz.prog w' = .ok (.tuple #[ev (ptK S k) (tnK S k), .bool true]) w') := fun w' e => hk ▸ look_has (h.map.on e) k
  have hb := h.map.lt
  have H : Hid (TlbIs w p b r S) := h
  obtain ⟨a, c⟩ := k
  obtain ⟨q, hq⟩ : ∃ q, q = ptK S (a, c) := ⟨_, rfl⟩
  obtain ⟨t, ht⟩ : ∃ q, q = tnK S (a, c) := ⟨_, rfl⟩
  rw [← hq, ← ht] at hl
  rw [← ht]
  clear hq ht h hk
  obtain ⟨q0, q1, q2, q3⟩ := q
  simp only [kv, ev] at hl
  go_enter Tryz.func69, Tryz.ntmps69
  go_wp2
  obtain ⟨w1, hw1⟩ : ∃ w1, w1 = w.alloc (.cells #[.int .i64 a, .int .i64 c] 55) := ⟨_, rfl⟩
  rw [← hw1]
  have HW : Hid (w1 = w.alloc (.cells #[.int .i64 a, .int .i64 c] 55)) := hw1
  clear hw1
  have c1 : w1.cell? ⟨p, 1, none⟩ = some (.map (some b)) := by rw [HW.out]; exact (H.out.alloc _).ents
  have c2 : w1.cell? ⟨w.heap.size, 0, none⟩ = some (.int .i64 a) := by rw [HW.out]; simp
  have c3 : w1.cell? ⟨w.heap.size, 1, none⟩ = some (.int .i64 c) := by rw [HW.out]; simp
  have HB : Hid (Below w.heap.size w w1) := by rw [HW.out]; exact bal (Below.refl _ _) _
  clear HW
  have n1 := World.new_ne w1 _ c1
  have n2 := World.new_ne w1 _ c2
  have hl1 := hl.out w1.drew (HB.out.drew.block b hb)
  have hl2 := hl.out (w1.alloc (.cells #[.bool false, .int .i64 0, .int .i64 0, .int .i64 0, .int .i64 0] 89)).drew ((bal HB.out _).drew.block b hb)
  go_region_held3 (fun w' => w'.cell? ⟨p, 1, none⟩ = some (.map (some b)) ∧ w'.cell? ⟨w.heap.size, 0, none⟩ = some (.int .i64 a) ∧ w'.cell? ⟨w.heap.size, 1, none⟩ = some (.int .i64 c)) (go_keep) (fail)
  all_goals
    go_wp2
    go_ret
    exact ⟨rfl, (bal HB.out _).drew⟩

set_option maxHeartbeats 2000000 in
set_option maxRecDepth 100000 in
theorem turn_new (p b : Nat) (r : Int) (S : List En) (k : Ky) (w : World) (h : TlbIs w p b r S) (hk : hasK S k = false) (hT : mxT S < 4611686018427387904) :
    Calls Tryz.prog 69 #[.pointer (some ⟨p, 0, none⟩), .agg #[.int .i64 k.1, .int .i64 k.2]] w fun e w' => e = .returned (.int .i64 (mxT S + 1)) ∧ Below w.heap.size w w' := by
  have hp := h.ents
  have hlt := h.lt
  have hl : Hid (∀ w', w'.heap[b]? = w.heap[b]? → (Instr.lookup 68 (.map (some b)) (kv k) true).run Tryz.prog w' = .ok (.tuple #[ev (ptK S k) (tnK S k), .bool false]) w') := fun w' e => hk ▸ look_has (h.map.on e) k
  have hb := h.map.lt
  have H : Hid (TlbIs w p b r S) := h
  obtain ⟨a, c⟩ := k
  obtain ⟨q, hq⟩ : ∃ q, q = ptK S (a, c) := ⟨_, rfl⟩
  obtain ⟨t, ht⟩ : ∃ q, q = tnK S (a, c) := ⟨_, rfl⟩
  rw [← hq, ← ht] at hl
  clear hq ht h hk
  have HT : Hid (mxT S < 4611686018427387904) := hT
  clear hT
  obtain ⟨q0, q1, q2, q3⟩ := q
  simp only [kv, ev] at hl
  go_enter Tryz.func69, Tryz.ntmps69
  go_wp2
  obtain ⟨w1, hw1⟩ : ∃ w1, w1 = w.alloc (.cells #[.int .i64 a, .int .i64 c] 55) := ⟨_, rfl⟩
  rw [← hw1]
  have HW : Hid (w1 = w.alloc (.cells #[.int .i64 a, .int .i64 c] 55)) := hw1
  clear hw1
  have c1 : w1.cell? ⟨p, 1, none⟩ = some (.map (some b)) := by rw [HW.out]; exact (H.out.alloc _).ents
  have c2 : w1.cell? ⟨w.heap.size, 0, none⟩ = some (.int .i64 a) := by rw [HW.out]; simp
  have c3 : w1.cell? ⟨w.heap.size, 1, none⟩ = some (.int .i64 c) := by rw [HW.out]; simp
  have HB : Hid (Below w.heap.size w w1) := by rw [HW.out]; exact bal (Below.refl _ _) _
  clear HW
  have n1 := World.new_ne w1 _ c1
  have n2 := World.new_ne w1 _ c2
  have hl1 := hl.out w1.drew (HB.out.drew.block b hb)
  have hl2 := hl.out (w1.alloc (.cells #[.bool false, .int .i64 0, .int .i64 0, .int .i64 0, .int .i64 0] 89)).drew ((bal HB.out _).drew.block b hb)
  have hp1 : p < w1.heap.size := by have := HB.out.size; omega
  go_region_held3 (fun w' => w'.cell? ⟨p, 1, none⟩ = some (.map (some b)) ∧ w'.cell? ⟨w.heap.size, 0, none⟩ = some (.int .i64 a) ∧ w'.cell? ⟨w.heap.size, 1, none⟩ = some (.int .i64 c)) (go_keep) (fail)
  all_goals
    obtain ⟨w2, hw2⟩ : ∃ w2, w2 = (w1.alloc (.cells #[.bool q0, .int .i64 q1, .int .i64 q2, .int .i64 q3, .int .i64 t] 89)).drew := ⟨_, rfl⟩
    rw [← hw2]
    have HB2 : Hid (Below w.heap.size w w2) := by rw [hw2]; exact (bal HB.out _).drew
    have c4 : w2.cell? ⟨p, 1, none⟩ = some (.map (some b)) := (HB2.out.cell (p := ⟨p, 1, none⟩) hlt).trans hp
    clear hw2 hl1 hl2 hl c1 c2 c3 n1 n2 hp1
    go_wp2_with (at_range; refine wpList_range_map _ rfl _ rfl b S rfl (H.out.map.on (HB2.out.block b hb)) ?_; intro w3 hrg hbl hsz; have HR : Hid (RngIs w3 b w2.heap.size S []) := hrg; have HB3 : Hid (Below w.heap.size w w3) := HB2.out.trans (hbl.mono HB2.out.size); clear hrg hbl hsz)
    go_frame
    go_loopw [7] (fun m wr => ∃ D, m = .int .i64 (mxT D) ∧ RngIs wr b w2.heap.size S D ∧ Below w.heap.size w wr ∧ ∃ R, S.Perm (D ++ R)) (fun _ wr => wr.rangeLeft b w2.heap.size)
    case atStart => exact ⟨[], rfl, HR.out, HB3.out, S, List.Perm.refl _⟩
    case round =>
      obtain ⟨D, rfl, hR, hB, hP⟩ := hrel
      have HR4 : Hid (RngIs wr b w2.heap.size S D) := hR
      have HB4 : Hid (Below w.heap.size w wr) := hB
      have HP : Hid (∃ R, S.Perm (D ++ R)) := hP
      clear hR hB hP HR HB3
      have hm0 := mxT_pos D
      have hm1 : mxT D < 4611686018427387904 := by
        obtain ⟨R, hR⟩ := HP.out
        refine Int.lt_of_le_of_lt (mxT_le D (mxT_pos S) fun x hx => mxT_ge S (hR.mem_iff.2 (by simp [hx]))) HT.out
      go_wp2_with (at_next; refine wpList_next_map _ rfl _ rfl b w2.heap.size S D rfl HR4.out (fun hD => ?_) (fun k1 k2 p0 p1 p2 p3 t4 w4 HN hen => ?_))
      · go_ret
        exact ⟨by rw [mxT_perm hD]; rfl, HB4.out⟩
      · obtain ⟨⟨R, hR⟩, g1, g2, g3, g4, g5⟩ := HN.out
        refine ⟨⟨D ++ [((k1, k2), (p0, p1, p2, p3), t4)], by rw [mxT_snoc]; all_goals (refine congrArg (Value.int IntKind.i64) ?_; dsimp only; split <;> omega), g1.alloc _, ?_, R, by simpa using hR⟩, ?_⟩
        · exact (HB4.out.trans (g5 _ HB2.out.size)).alloc (by rw [g3]; exact HB4.out.size) _
        · rw [g1.left_alloc]
          exact g2

/-- One contract, whatever the key. -/
theorem turn_any (p b : Nat) (r : Int) (S : List En) (k : Ky) (w : World) (h : TlbIs w p b r S) (hT : mxT S < 4611686018427387904) :
    Calls Tryz.prog 69 #[.pointer (some ⟨p, 0, none⟩), .agg #[.int .i64 k.1, .int .i64 k.2]] w fun e w' => e = .returned (.int .i64 (turnS S k)) ∧ Below w.heap.size w w' := by
  cases hk : hasK S k
  · simp only [turnS, hk, Bool.false_eq_true, if_false]
    exact turn_new p b r S k w h hk hT
  · simp only [turnS, hk, if_true]
    exact turn_has p b r S k w h hk
end Go.Proofs.YthcgdgpflhdchaaGreatDoor.Ptlb

/- Contracts of Go's library that are proved once for all programs, laid at this program's functions: which of its functions and types are meant. -/
namespace Go.Proofs.YthcgdgpflhdchaaGreatDoor
open Go.Shelf

def sortKey_ren : Go.Shelf.Ren := ⟨fun | 6 => 35 | 15 => 56 | 14 => 55 | 28 => 80 | 29 => 81 | 20 => 72 | 21 => 73 | 22 => 74 | 23 => 75 | 24 => 76 | 25 => 77 | 26 => 78 | 27 => 79 | 46 => 97 | 47 => 98 | 48 => 99 | 49 => 100 | 50 => 101 | 57 => 117 | n => n, fun | 22 => 48 | 24 => 55 | 25 => 90 | 3 => 3 | 39 => 119 | 0 => 0 | 53 => 149 | 55 => 37 | 4 => 4 | 46 => 142 | 45 => 141 | 50 => 146 | 5 => 5 | 9 => 9 | 66 => 165 | 70 => 169 | 76 => 197 | 77 => 79 | n => n, fun | n => n⟩
theorem sortKey : Go.Proofs.SlLaysF0.n6 Tryz.prog sortKey_ren := {
  mixed := by kernel_rfl,
  f6 := ⟨Tryz.f35.name, by decide, Tryz.func35.trans (congrArg some (by kernel_rfl))⟩,
  f14 := ⟨Tryz.f55.name, by decide, Tryz.func55.trans (congrArg some (by kernel_rfl))⟩,
  f15 := Tryz.func56.trans (congrArg some (by kernel_rfl)),
  f20 := ⟨Tryz.f72.name, by decide, Tryz.func72.trans (congrArg some (by kernel_rfl))⟩,
  f21 := ⟨Tryz.f73.name, by decide, Tryz.func73.trans (congrArg some (by kernel_rfl))⟩,
  f22 := ⟨Tryz.f74.name, by decide, Tryz.func74.trans (congrArg some (by kernel_rfl))⟩,
  f23 := ⟨Tryz.f75.name, by decide, Tryz.func75.trans (congrArg some (by kernel_rfl))⟩,
  f24 := ⟨Tryz.f76.name, by decide, Tryz.func76.trans (congrArg some (by kernel_rfl))⟩,
  f25 := ⟨Tryz.f77.name, by decide, Tryz.func77.trans (congrArg some (by kernel_rfl))⟩,
  f26 := ⟨Tryz.f78.name, by decide, Tryz.func78.trans (congrArg some (by kernel_rfl))⟩,
  f27 := ⟨Tryz.f79.name, by decide, Tryz.func79.trans (congrArg some (by kernel_rfl))⟩,
  f28 := Tryz.func80.trans (congrArg some (by kernel_rfl)),
  f29 := Tryz.func81.trans (congrArg some (by kernel_rfl)),
  f46 := ⟨Tryz.f97.name, by decide, Tryz.func97.trans (congrArg some (by kernel_rfl))⟩,
  f47 := Tryz.func98.trans (congrArg some (by kernel_rfl)),
  f48 := Tryz.func99.trans (congrArg some (by kernel_rfl)),
  f49 := ⟨Tryz.f100.name, by decide, Tryz.func100.trans (congrArg some (by kernel_rfl))⟩,
  f50 := ⟨Tryz.f101.name, by decide, Tryz.func101.trans (congrArg some (by kernel_rfl))⟩,
  f57 := ⟨Tryz.f117.name, by decide, Tryz.func117.trans (congrArg some (by kernel_rfl))⟩,
  t0 := Tryz.underlying0,
  a0 := Tryz.isAgg0,
  z0 := Tryz.sizeOf0,
  v0 := Tryz.zeroValue0,
  t3 := Tryz.underlying3,
  a3 := Tryz.isAgg3,
  z3 := Tryz.sizeOf3,
  v3 := Tryz.zeroValue3,
  t4 := Tryz.underlying4,
  a4 := Tryz.isAgg4,
  z4 := Tryz.sizeOf4,
  v4 := Tryz.zeroValue4,
  t5 := Tryz.underlying5,
  a5 := Tryz.isAgg5,
  z5 := Tryz.sizeOf5,
  v5 := Tryz.zeroValue5,
  t9 := Tryz.underlying9,
  a9 := Tryz.isAgg9,
  z9 := Tryz.sizeOf9,
  v9 := Tryz.zeroValue9,
  t22 := Tryz.underlying48,
  a22 := Tryz.isAgg48,
  z22 := Tryz.sizeOf48,
  v22 := Tryz.zeroValue48,
  t25 := Tryz.underlying90,
  a25 := Tryz.isAgg90,
  z25 := Tryz.sizeOf90,
  v25 := Tryz.zeroValue90,
  t39 := Tryz.underlying119,
  a39 := Tryz.isAgg119,
  z39 := Tryz.sizeOf119,
  v39 := Tryz.zeroValue119,
  t45 := Tryz.underlying141,
  a45 := Tryz.isAgg141,
  z45 := Tryz.sizeOf141,
  v45 := Tryz.zeroValue141,
  t46 := Tryz.underlying142,
  a46 := Tryz.isAgg142,
  z46 := Tryz.sizeOf142,
  v46 := Tryz.zeroValue142,
  t50 := Tryz.underlying146,
  a50 := Tryz.isAgg146,
  z50 := Tryz.sizeOf146,
  v50 := Tryz.zeroValue146,
  t53 := Tryz.underlying149,
  a53 := Tryz.isAgg149,
  z53 := Tryz.sizeOf149,
  v53 := Tryz.zeroValue149,
  t55 := Tryz.underlying37,
  a55 := Tryz.isAgg37,
  z55 := Tryz.sizeOf37,
  v55 := Tryz.zeroValue37,
  t66 := Tryz.underlying165,
  a66 := Tryz.isAgg165,
  z66 := Tryz.sizeOf165,
  v66 := Tryz.zeroValue165,
  t70 := Tryz.underlying169,
  a70 := Tryz.isAgg169,
  z70 := Tryz.sizeOf169,
  v70 := Tryz.zeroValue169,
  t76 := Tryz.underlying197,
  a76 := Tryz.isAgg197,
  z76 := Tryz.sizeOf197,
  v76 := Tryz.zeroValue197,
  t77 := Tryz.underlying79,
  a77 := Tryz.isAgg79,
  z77 := Tryz.sizeOf79,
  v77 := Tryz.zeroValue79 }

def cmpInt_ren : Go.Shelf.Ren := ⟨fun | 5 => 37 | 7 => 57 | n => n, fun | 22 => 3 | 3 => 3 | 4 => 4 | n => n, fun | n => n⟩
theorem cmpInt : Go.Proofs.SlLaysC2.n5 Tryz.prog cmpInt_ren := {
  mixed := by kernel_rfl,
  f5 := ⟨Tryz.f37.name, by decide, Tryz.func37.trans (congrArg some (by kernel_rfl))⟩,
  f7 := ⟨Tryz.f57.name, by decide, Tryz.func57.trans (congrArg some (by kernel_rfl))⟩,
  t3 := Tryz.underlying3,
  a3 := Tryz.isAgg3,
  z3 := Tryz.sizeOf3,
  v3 := Tryz.zeroValue3,
  t4 := Tryz.underlying4,
  a4 := Tryz.isAgg4,
  z4 := Tryz.sizeOf4,
  v4 := Tryz.zeroValue4,
  t22 := Tryz.underlying3,
  a22 := Tryz.isAgg3,
  z22 := Tryz.sizeOf3,
  v22 := Tryz.zeroValue3 }

end Go.Proofs.YthcgdgpflhdchaaGreatDoor

/- How Keys of package tlb compares two keys. -/
namespace Go.Proofs.YthcgdgpflhdchaaGreatDoor.Ptlb
open Go.Proofs.YthcgdgpflhdchaaGreatDoor.Pbase
open Go.Shelf Go.RowKit Go.Lib Go.Sort Go.ChangeMaps
set_option linter.unusedVariables false

/-- The order of turns. -/
def cfT (S : List En) (x y : Ky) : Int := Lib.compareInt (tnK S x) (tnK S y)
theorem compare_any (x y : Int) (w : World) : Calls Tryz.prog 37 #[.int .i64 x, .int .i64 y] w fun e w' => e = .returned (.int .i64 (Lib.compareInt x y)) ∧ w' = w := AnyG.cmp_Compare_int cmpInt x y w
set_option maxHeartbeats 2000000 in
set_option maxRecDepth 100000 in
theorem closure_any (q p b : Nat) (S : List En) (x y : Ky) (W : World) (h0 : W.cell? ⟨q, 0, none⟩ = some (.pointer (some ⟨p, 0, none⟩))) (h1 : W.cell? ⟨p, 1, none⟩ = some (.map (some b))) (hM : MapIs W b S) :
    Calls Tryz.prog 36 #[.agg #[.int .i64 x.1, .int .i64 x.2], .agg #[.int .i64 y.1, .int .i64 y.2], .pointer (some ⟨q, 0, none⟩)] W fun e w' => e = .returned (.int .i64 (cfT S x y)) ∧ ∃ n os', w' = grow (W.drewN n) os' := by
  obtain ⟨a, c⟩ := x
  obtain ⟨d, f⟩ := y
  simp only [cfT]
  obtain ⟨W2, hW2⟩ : ∃ W2, W2 = (W.alloc (.cells #[.int .i64 a, .int .i64 c] 55)).alloc (.cells #[.int .i64 d, .int .i64 f] 55) := ⟨_, rfl⟩
  have hB : Below W.heap.size W W2 := by rw [hW2]; exact bal (bal (Below.refl _ _) _) _
  have hM2 : ∀ n, MapIs (W2.drewN n) b S := fun n => (hM.on (hB.block b hM.lt)).on rfl
  have k1 : ∀ n, (Instr.lookup 68 (.map (some b)) (kv (a, c)) false).run Tryz.prog (W2.drewN n) = .ok (ev (ptK S (a, c)) (tnK S (a, c))) (W2.drewN n) := fun n => look_at (hM2 n) (a, c)
  have k2 : ∀ n, (Instr.lookup 68 (.map (some b)) (kv (d, f)) false).run Tryz.prog (W2.drewN n) = .ok (ev (ptK S (d, f)) (tnK S (d, f))) (W2.drewN n) := fun n => look_at (hM2 n) (d, f)
  simp only [kv, ev] at k1 k2
  generalize tnK S (a, c) = t1 at k1 ⊢
  generalize tnK S (d, f) = t2 at k2 ⊢
  generalize ptK S (a, c) = q1 at k1
  generalize ptK S (d, f) = q2 at k2
  have e0 : W2.cell? ⟨q, 0, none⟩ = some (.pointer (some ⟨p, 0, none⟩)) := (hB.cell (p := ⟨q, 0, none⟩) (World.block_lt_of_cell? W _ h0)).trans h0
  have e1 : W2.cell? ⟨p, 1, none⟩ = some (.map (some b)) := (hB.cell (p := ⟨p, 1, none⟩) (World.block_lt_of_cell? W _ h1)).trans h1
  have e2 : W2.cell? ⟨W.heap.size, 0, none⟩ = some (.int .i64 a) := by rw [hW2]; simp
  have e3 : W2.cell? ⟨W.heap.size, 1, none⟩ = some (.int .i64 c) := by rw [hW2]; simp
  have e4 : W2.cell? ⟨W.heap.size + 1, 0, none⟩ = some (.int .i64 d) := by rw [hW2]; simp
  have e5 : W2.cell? ⟨W.heap.size + 1, 1, none⟩ = some (.int .i64 f) := by rw [hW2]; simp
  have HW : Hid (W2 = grow W #[.cells #[.int .i64 a, .int .i64 c] 55, .cells #[.int .i64 d, .int .i64 f] 55]) := by
    have : W2 = grow W #[.cells #[.int .i64 a, .int .i64 c] 55, .cells #[.int .i64 d, .int .i64 f] 55] := by rw [hW2, alloc_eq_grow, alloc_eq_grow, grow_grow]; rfl
    exact this
  clear h0 h1 hM hB hM2
  have hfd : ∀ (o : Bool) (u v t s : Int) (w : World), (Instr.field 89 (.agg #[.bool o, .int .i64 u, .int .i64 v, .int .i64 t, .int .i64 s]) 1).run Tryz.prog w = .ok (.int .i64 s) w := fun _ _ _ _ _ _ => by kernel_rfl
  go_enter Tryz.func36, Tryz.ntmps36
  go_wp2
  rw [← hW2]
  clear hW2
  go_quiet ((go_at_call 37; exact Calls.quiet_of_same (compare_any _ _ _)))
  go_wp2
  go_ret
  exact ⟨rfl, _, _, by rw [HW.out]; rfl⟩
end Go.Proofs.YthcgdgpflhdchaaGreatDoor.Ptlb

/- Keys are sorted by their turns: what the library's sort leaves, at the keys of what is remembered. -/
namespace Go.Proofs.YthcgdgpflhdchaaGreatDoor.Ptlb
open Go.Proofs.YthcgdgpflhdchaaGreatDoor.Pbase
open Go.Shelf Go.RowKit Go.Lib Go.Sort Go.ChangeMaps
set_option linter.unusedVariables false

/-! ### The list's order -/
/-- No key twice; turns rise from 1 on. -/
structure OkS (S : List En) : Prop where
  keys : S.Pairwise fun x y => x.1 ≠ y.1
  rise : S.Pairwise fun x y => x.2.2 < y.2.2
theorem tnK_mem : ∀ {S : List En}, S.Pairwise (fun x y => x.1 ≠ y.1) → ∀ {x : En}, x ∈ S → tnK S x.1 = x.2.2 ∧ ptK S x.1 = x.2.1 ∧ hasK S x.1 = true
  | [], _, _, h => by simp at h
  | y :: S, hp, x, h => by
    obtain ⟨h1, h2⟩ := List.pairwise_cons.1 hp
    rcases List.mem_cons.1 h with rfl | h
    · simp [tnK, ptK, hasK]
    · have hne := h1 x h
      have := tnK_mem h2 h
      simp only [tnK, ptK, hasK, if_neg hne, List.any_cons, decide_eq_true_eq, Bool.or_eq_true]
      exact ⟨this.1, this.2.1, Or.inr this.2.2⟩
theorem eq_of_rise {f : Ky → Int} : ∀ (s l : List Ky), s.Pairwise (fun x y => f x < f y) → l.Pairwise (fun x y => f x ≤ f y) → l.Perm s → l = s
  | [], l, _, _, h => List.Perm.eq_nil h
  | a :: s, [], _, _, h => by simpa using h.length_eq
  | a :: s, c :: l, h1, h2, h => by
    obtain ⟨g1, g2⟩ := List.pairwise_cons.1 h1
    obtain ⟨g3, g4⟩ := List.pairwise_cons.1 h2
    have e : c = a := by
      rcases List.mem_cons.1 (h.mem_iff.1 (List.mem_cons_self (a := c) (l := l))) with e | hc
      · exact e
      · rcases List.mem_cons.1 (h.mem_iff.2 (List.mem_cons_self (a := a) (l := s))) with e | ha
        · exact e.symm
        · have := g1 c hc
          have := g3 a ha
          omega
    subst e
    rw [eq_of_rise s l g2 g4 (List.perm_cons c |>.1 h)]
theorem rise_keys {S : List En} (h : OkS S) : (S.map (·.1)).Pairwise fun x y => tnK S x < tnK S y := by
  rw [List.pairwise_map]
  refine List.Pairwise.imp_of_mem (fun {x y} hx hy hlt => ?_) h.rise
  rw [(tnK_mem h.keys hx).1, (tnK_mem h.keys hy).1]
  exact hlt
theorem ltOf_cfT (S : List En) (x y : Ky) : ltOf (cfT S) x y = decide (tnK S x < tnK S y) := by
  unfold ltOf cfT Lib.compareInt
  by_cases h1 : tnK S x < tnK S y
  · simp [h1]
  · by_cases h2 : tnK S y < tnK S x <;> simp [h1, h2]
theorem swo_cfT (S : List En) : SWO (ltOf (cfT S)) where
  irrefl x := by rw [ltOf_cfT]; simp
  trans x y z h1 h2 := by rw [ltOf_cfT] at *; simp at *; omega
  ntrans x y z h1 h2 := by rw [ltOf_cfT] at *; simp at *; omega

/-! ### The sort's worlds -/
def encK (k : Ky) : List Value := [.int .i64 k.1, .int .i64 k.2]
theorem sort_block (w : World) (g m : Nat) (d : Array Ky) (os : Array Obj) {i : Nat} (hi : i < w.heap.size) (hne : i ≠ g) : (sortWorldK encK 2 w g 0 m d os).heap[i]? = w.heap[i]? := by
  unfold sortWorldK
  rw [heap_grow_old _ _ (by simpa [putRowK] using hi)]
  simp [putRowK, putRow, mapBlock, Array.getElem?_modify, Ne.symm hne]
theorem sort_below (w : World) (g m : Nat) (d : Array Ky) (os : Array Obj) {B : Nat} (hB : B ≤ w.heap.size) (hg : B ≤ g) : Below B w (sortWorldK encK 2 w g 0 m d os) :=
  ⟨rfl, rfl, rfl, by simp [sortWorldK, putRowK], fun i hi => sort_block w g m d os (by omega) (by omega)⟩
theorem sort_cells (w : World) (g m : Nat) (d d' : Array Ky) (os : Array Obj) (hH : HoldsK encK 2 w g 0 d) (hs : d'.size = d.size) (hg : g < w.heap.size) {j : Nat} (hj : j < d'.size) :
    (sortWorldK encK 2 w g 0 m d' os).cell? ⟨g, j * 2, none⟩ = some (.int .i64 (d'[j]!).1) ∧ (sortWorldK encK 2 w g 0 m d' os).cell? ⟨g, j * 2 + 1, none⟩ = some (.int .i64 (d'[j]!).2) := by
  have h1 : HoldsK encK 2 (sortWorldK encK 2 w g 0 m d' os) g 0 d' := by
    unfold sortWorldK
    exact holdsK_grow _ _ _ _ _ _ _ (by simpa [putRowK] using hg) (holdsK_putRowK _ _ _ _ _ d d' (holdsK_ahead _ _ _ _ _ _ _ hH) hs)
  have a := h1.cell (i := j) (c := 0) hj (by omega)
  have b := h1.cell (i := j) (c := 1) hj (by omega)
  simp only [Nat.zero_add, Nat.add_zero, encK, List.getElem!_cons_zero, List.getElem!_cons_succ] at a b
  exact ⟨a.1, b.1⟩
set_option maxHeartbeats 1000000 in
set_option maxRecDepth 100000 in
theorem sort_keys (q p b g cap : Nat) (S D : List En) (w : World) (hS : OkS S) (hP : S.Perm D) (h0 : w.cell? ⟨q, 0, none⟩ = some (.pointer (some ⟨p, 0, none⟩))) (h1 : w.cell? ⟨p, 1, none⟩ = some (.map (some b))) (hM : MapIs w b S)
    (hq : q ≠ g) (hp : p ≠ g) (hb : b ≠ g) (hg : g < w.heap.size) (hH : HoldsK encK 2 w g 0 (D.map (·.1)).toArray) (hl : D.length < 4611686018427387904) :
    Calls Tryz.prog 35 #[.slice (some ⟨g, 0, none⟩) D.length cap, .func (.func 36) #[] #[.pointer (some ⟨q, 0, none⟩)]] w fun e w' =>
      e = .returned (.tuple #[]) ∧ (∀ j x, S[j]? = some x → w'.cell? ⟨g, j * 2, none⟩ = some (.int .i64 x.1.1) ∧ w'.cell? ⟨g, j * 2 + 1, none⟩ = some (.int .i64 x.1.2)) ∧ ∀ B, B ≤ g → Below B w w' := by
  have eg : ∀ args w, (callFunc 36 args).run Tryz.prog w = .ok (.enter 36 args) w := enters_of Tryz.func36 (by kernel_rfl) rfl
  have hq' := World.block_lt_of_cell? w _ h0
  have hp' := World.block_lt_of_cell? w _ h1
  have hcmp : CmpLays Tryz.prog 36 #[.pointer (some ⟨q, 0, none⟩)] encK 2 (cfT S) g 0 (D.map (·.1)).toArray.size w := by
    intro m os dk hdk x y
    refine closure_any q p b S x y _ ?_ ?_ ?_
    · rw [World.cell?_of_block (w := w) (sort_block w g m dk os hq' hq)]; exact h0
    · rw [World.cell?_of_block (w := w) (sort_block w g m dk os hp' hp)]; exact h1
    · exact hM.on (sort_block w g m dk os hM.lt hb)
  have hcon := AnyQ.slices_SortFunc sortKey 2 Tryz.isAgg55 Tryz.sizeOf55 encK (fun _ => rfl) (fun x v hv => by simp [encK] at hv; rcases hv with rfl | rfl <;> rfl) (cfT S) (swo_cfT S) 36 #[.pointer (some ⟨q, 0, none⟩)] g 0 cap (D.map (·.1)).toArray w eg hcmp hH hg (by simpa using hl)
  have e1 : (D.map (·.1)).toArray.size = D.length := by simp
  rw [e1] at hcon
  change Calls Tryz.prog 35 _ _ _ at hcon
  refine hcon.mono ?_
  rintro e w' ⟨rfl, d', n, os, hperm, hsort, rfl⟩
  obtain ⟨s1, s2, s3⟩ := hperm
  have hsz : d'.size = D.length := by rw [s1, e1]
  have hd : d'.toList = S.map (·.1) := by
    refine eq_of_rise (f := tnK S) _ _ (rise_keys hS) ?_ ?_
    · rw [List.pairwise_iff_getElem]
      intro i j hi hj hij
      have := hsort i j (Nat.zero_le _) hij (by simpa [hsz] using hj)
      rw [ltOf_cfT] at this
      simp only [decide_eq_false_iff_not, Int.not_lt] at this
      have a1 : d'[i]! = d'.toList[i] := by rw [getElem!_pos d' i (by simpa using hi)]; simp
      have a2 : d'[j]! = d'.toList[j] := by rw [getElem!_pos d' j (by simpa using hj)]; simp
      rw [a1, a2] at this
      exact this
    · have x1 : (d'.extract 0 D.length) = d' := by rw [← hsz]; simp
      have x2 : ((D.map (·.1)).toArray.extract 0 D.length) = (D.map (·.1)).toArray := by
        have : D.length = (D.map (·.1)).toArray.size := by simp
        rw [this, Array.extract_size]
      rw [x1, x2] at s3
      exact s3.trans (hP.symm.map _)
  refine ⟨rfl, fun j x hx => ?_, fun B hB => sort_below w g n d' os (by omega) hB⟩
  have hj : j < S.length := (List.getElem?_eq_some_iff.1 hx).1
  have hj' : j < d'.size := by rw [hsz, ← hP.length_eq]; exact hj
  have hx' : d'[j]! = x.1 := by
    rw [getElem!_pos d' j hj', ← Array.getElem_toList]
    have : d'.toList[j]? = some x.1 := by rw [hd]; simp [hx]
    exact (List.getElem?_eq_some_iff.1 this).2
  have := sort_cells w g n (D.map (·.1)).toArray d' os hH (by rw [hsz, e1]) hg hj'
  rw [hx'] at this
  exact this
end Go.Proofs.YthcgdgpflhdchaaGreatDoor.Ptlb

/- What Keys of package tlb answers: the keys, the oldest first, in a slice of its own. -/
namespace Go.Proofs.YthcgdgpflhdchaaGreatDoor.Ptlb
open Go.Proofs.YthcgdgpflhdchaaGreatDoor.Pbase
open Go.Shelf Go.RowKit Go.Lib Go.Sort Go.ChangeMaps
set_option linter.unusedVariables false

/-! ### append where there is room -/
theorem run_append_roomy {P : Program} (w : World) (base : Nat) (t ty e : TypeId) (i : TypeInfo) (size : Nat) (ht : P.underlying t = some (.slice e)) (hi : P.info? e = some i) (hsize : i.size = size)
    (g n cap : Nat) (xs : List Value) (hown : w.ownsRow base e size (.slice (some ⟨g, 0, none⟩) n cap) n xs) (a : Addr) (m c : Nat) (news : List Value) (hl : news.length = m * size) (hnews : ∀ j u, news[j]? = some u → w.cell? (a.add j) = some u) (h1 : ∀ u ∈ news, u.oneCell' = true) (hroom : n + m ≤ cap) :
    ∃ w', (Builtin.append_ #[t, t] ty #[.slice (some ⟨g, 0, none⟩) n cap, .slice (some a) m c]).run P w = .ok (.slice (some ⟨g, 0, none⟩) (n + m) cap) w' ∧ w'.ownsRow base e size (.slice (some ⟨g, 0, none⟩) (n + m) cap) (n + m) (xs ++ news) ∧ w.grownBy w' (some g) := by
  subst hsize
  have hlen : (xs ++ news).length = (n + m) * i.size := by rw [List.length_append, hown.1, hl, Nat.add_mul]
  rcases hown.2 with ⟨e0, _⟩ | ⟨g', cap', cur, e0, hbg, hg, hnc, hcm, hcs, htake⟩
  · cases e0
  · cases e0
    have hfit : n * i.size + news.length ≤ cur.size := by rw [hl, hcs, ← Nat.add_mul]; exact Nat.mul_le_mul_right _ hroom
    have hr := run_append_room (P := P) w t ty e i ht hi g n cap cur hg a m c news hl hnews h1 hroom hfit
    refine ⟨_, hr, ⟨hlen, .inr ⟨g, cap, _, rfl, hbg, setRow_heap w g cur _ e _ hg, hroom, hcm, ?_, ?_⟩⟩, ⟨rfl, rfl, rfl, by simp, fun k _ hk => setRow_other w g k _ (fun e => hk (by rw [e]))⟩⟩
    · simp only [List.size_toArray, List.length_append, List.length_take, List.length_drop, Array.length_toList]
      omega
    · rw [htake, ← hlen]
      exact List.take_left
theorem wpList_append_roomy {P : Program} (w : World) {ops : Array Oper} {rest : List Oper} {o : Oper} {a : Act} {Q : Exit → Act → World → Prop} (hgd : o.guard = none) (s x : Operand) (t : TypeId)
    (ho : o.op = .call { callee := .builtin .append, args := #[s, x], argTypes := #[t, t] })
    (base : Nat) (e : TypeId) (i : TypeInfo) (size : Nat) (ht : P.underlying t = some (.slice e)) (hi : P.info? e = some i) (hsize : i.size = size)
    (g n cap : Nat) (xs : List Value) (hs : a.eval s = .slice (some ⟨g, 0, none⟩) n cap) (hown : w.ownsRow base e size (.slice (some ⟨g, 0, none⟩) n cap) n xs)
    (ad : Addr) (m c : Nat) (news : List Value) (hx : a.eval x = .slice (some ad) m c) (hl : news.length = m * size) (hnews : ∀ j u, news[j]? = some u → w.cell? (ad.add j) = some u) (h1 : ∀ u ∈ news, u.oneCell' = true) (hroom : n + m ≤ cap)
    (h : ∀ w', w'.ownsRow base e size (.slice (some ⟨g, 0, none⟩) (n + m) cap) (n + m) (xs ++ news) → w.grownBy w' (some g) → wpList P ops Q rest (a.put o.dst (.slice (some ⟨g, 0, none⟩) (n + m) cap)) w') :
    wpList P ops Q (o :: rest) a w := by
  refine wpList_plain hgd fun K hK => ?_
  obtain ⟨w', hr, h2, h3⟩ := run_append_roomy (P := P) w base t o.type e i size ht hi hsize g n cap xs hown ad m c news hl hnews h1 hroom
  unfold Oper.wp execOp
  simp only [ho, resolve, invoke, builtin, Sem.run_bind, Sem.run_pure, Result.andThen_ok, List.map_toArray, List.map_cons, List.map_nil, hs, hx, hr]
  exact hK _ _ (h w' h2 h3)
/-- The cells of the keys of D. -/
def keyCells (D : List En) : List Value := D.flatMap fun x => encK x.1
theorem keyCells_snoc (D : List En) (x : En) : keyCells (D ++ [x]) = keyCells D ++ [.int .i64 x.1.1, .int .i64 x.1.2] := by simp [keyCells, encK]
theorem keyCells_len (D : List En) : (keyCells D).length = D.length * 2 := by
  induction D with
  | nil => rfl
  | cons x D ih =>
    have : keyCells (x :: D) = encK x.1 ++ keyCells D := rfl
    rw [this, List.length_append, ih]
    simp [encK]; omega
theorem keyCells_get : ∀ (D : List En) (j : Nat) (x : En), D[j]? = some x → (keyCells D)[j * 2]? = some (.int .i64 x.1.1) ∧ (keyCells D)[j * 2 + 1]? = some (.int .i64 x.1.2)
  | [], j, x, h => by simp at h
  | y :: D, 0, x, h => by
    simp at h
    subst h
    exact ⟨rfl, rfl⟩
  | y :: D, j + 1, x, h => by
    have := keyCells_get D j x (by simpa using h)
    have e1 : (j + 1) * 2 = j * 2 + 1 + 1 := by omega
    have e2 : keyCells (y :: D) = .int .i64 y.1.1 :: .int .i64 y.1.2 :: keyCells D := rfl
    rw [e1, e2]
    simpa using this
/-- A row that owns the keys' cells holds the keys, as the sort asks it. -/
theorem holds_of_own {w : World} {base g n cap : Nat} {D : List En} (h : w.ownsRow base 55 2 (.slice (some ⟨g, 0, none⟩) n cap) D.length (keyCells D)) : HoldsK encK 2 w g 0 (D.map (·.1)).toArray := by
  rcases h.2 with ⟨e0, _⟩ | ⟨g', cap', cur, e0, hbg, hg, hnc, hcm, hcs, htake⟩
  · cases e0
  · cases e0
    intro j hj
    simp only [size_flatK, List.size_toArray, List.length_map] at hj
    rw [get_flatK _ _ _ _ (by simpa using hj), Nat.zero_add]
    have hx : j / 2 < D.length := by omega
    have hd : ((D.map (·.1)).toArray)[j / 2]! = (D[j / 2]).1 := by
      rw [getElem!_pos _ _ (by simpa using hx)]; simp
    refine ⟨?_, frozen_of_row w g j _ _ hg⟩
    rw [cell_of_row w g j _ _ _ hg]
    have hk := keyCells_get D (j / 2) D[j / 2] (List.getElem?_eq_getElem hx)
    have hcur : ∀ i, i < D.length * 2 → cur[i]? = (keyCells D)[i]? := fun i hi => by
      rw [← htake, List.getElem?_take, if_pos (by simpa using hi), Array.getElem?_toList]
    rw [hcur j hj, hd]
    rcases Nat.mod_two_eq_zero_or_one j with hm | hm
    · have : j = j / 2 * 2 := by omega
      rw [hm]
      conv => lhs; rw [this]
      rw [hk.1]; rfl
    · have : j = j / 2 * 2 + 1 := by omega
      rw [hm]
      conv => lhs; rw [this]
      rw [hk.2]; rfl
set_option maxRecDepth 100000 in
theorem infoKey : (Tryz.prog.info? 55).map (fun i => (i.zero, i.size, i.bytes)) = some (some (.agg #[.int .i64 0, .int .i64 0]), 2, 16) := by kernel_rfl
theorem cell_two_new (w : World) (x y : Value) (t : TypeId) : ∀ j u, [x, y][j]? = some u → (w.alloc (.cells #[x, y] t)).cell? ((⟨w.heap.size, 0, none⟩ : Addr).add j) = some u := by
  intro j u hj
  match j, hj with
  | 0, hj => simp at hj; subst hj; simp [Addr.add]
  | 1, hj => simp at hj; subst hj; simp [Addr.add]
  | j + 2, hj => simp at hj
end Go.Proofs.YthcgdgpflhdchaaGreatDoor.Ptlb

/- What Keys of package tlb answers: the keys, the oldest first, in a slice of its own. -/
namespace Go.Proofs.YthcgdgpflhdchaaGreatDoor.Ptlb
open Go.Proofs.YthcgdgpflhdchaaGreatDoor.Pbase
open Go.Shelf Go.RowKit Go.Lib Go.Sort Go.ChangeMaps
set_option linter.unusedVariables false

theorem own_on {w w' : World} {base g n m cap size : Nat} {e : TypeId} {xs : List Value} (h : w.ownsRow base e size (.slice (some ⟨g, 0, none⟩) m cap) n xs) (hg : w'.heap[g]? = w.heap[g]?) : w'.ownsRow base e size (.slice (some ⟨g, 0, none⟩) m cap) n xs := by
  refine ⟨h.1, ?_⟩
  rcases h.2 with ⟨e0, _⟩ | ⟨g', cap', cur, e0, hbg, hg', r⟩
  · cases e0
  · cases e0
    exact .inr ⟨g, cap, cur, rfl, hbg, hg.trans hg', r⟩
theorem own_lt {w : World} {base g n m cap size : Nat} {e : TypeId} {xs : List Value} (h : w.ownsRow base e size (.slice (some ⟨g, 0, none⟩) m cap) n xs) : base ≤ g ∧ g < w.heap.size := by
  rcases h.2 with ⟨e0, _⟩ | ⟨g', cap', cur, e0, hbg, hg', r⟩
  · cases e0
  · cases e0
    exact ⟨hbg, (Array.getElem?_eq_some_iff.1 hg').1⟩
theorem own_ne_iter {w : World} {base g n m cap size b r : Nat} {e : TypeId} {xs : List Value} {S D : List En} (h : w.ownsRow base e size (.slice (some ⟨g, 0, none⟩) m cap) n xs) (k : RngIs w b r S D) : g ≠ r ∧ g ≠ b := by
  obtain ⟨es, clock, since, seen, c0, h1, h2, h3, _⟩ := k
  rcases h.2 with ⟨e0, _⟩ | ⟨g', cap', cur, e0, hbg, hg', r⟩
  · cases e0
  · cases e0
    exact ⟨fun e => (by rw [← e, hg'] at h3; cases h3), fun e => (by rw [← e, hg'] at h1; cases h1)⟩
theorem room_left {N : Nat} {S D : List En} {x : En} (hN : N = S.length) (h : ∃ R, S.Perm (D ++ x :: R)) : D.length + 1 ≤ N := by
  obtain ⟨R, hR⟩ := h
  have := hR.length_eq
  simp at this
  omega
theorem len_left {N : Nat} {S D : List En} (hN : N = S.length) (h : S.Perm D) (hl : N ≤ 1000) : D.length < 4611686018427387904 := by
  rw [← h.length_eq]
  omega
set_option maxHeartbeats 4000000 in
set_option maxRecDepth 100000 in
theorem keys_any (p b : Nat) (r : Int) (S : List En) (w : World) (h : TlbIs w p b r S) (hS : OkS S) (hl : S.length ≤ 1000) :
    Calls Tryz.prog 15 #[.pointer (some ⟨p, 0, none⟩)] w fun e w' => ∃ g, e = .returned (.slice (some ⟨g, 0, none⟩) S.length S.length) ∧ w.heap.size ≤ g ∧ (∀ j x, S[j]? = some x → w'.cell? ⟨g, j * 2, none⟩ = some (.int .i64 x.1.1) ∧ w'.cell? ⟨g, j * 2 + 1, none⟩ = some (.int .i64 x.1.2)) ∧ Below w.heap.size w w' := by
  have hp := h.ents
  have hlt := h.lt
  have hb := h.map.lt
  have H : Hid (TlbIs w p b r S) := h
  have HS : Hid (OkS S) := hS
  obtain ⟨i0, hi, hz0, hz1, hz2⟩ := info_parts infoKey
  clear h hS
  have HI : Hid (Tryz.prog.info? 55 = some i0) := hi
  have HZ0 : Hid (i0.zero = some (.agg #[.int .i64 0, .int .i64 0])) := hz0
  have HZ1 : Hid (i0.size = 2) := hz1
  have HZ2 : Hid (i0.bytes = 16) := hz2
  clear hi hz0 hz1 hz2
  obtain ⟨N, hN⟩ : ∃ N, N = S.length := ⟨_, rfl⟩
  have HN : Hid (N = S.length) := hN
  have hlen : Hid (∀ w', w'.heap[b]? = w.heap[b]? → ∀ ty, (Builtin.len_ #[68] ty #[.map (some b)]).run Tryz.prog w' = .ok (.int .i64 N) w') := fun w' e ty => by rw [hN]; exact len_map (H.out.map.on e) ty
  rw [← hN] at hl ⊢
  clear hN
  go_enter Tryz.func15, Tryz.ntmps15
  go_wp2_with (first
    | (go_at_call 26; refine (made_some p b _ (H.out.alloc _).ents).mono ?_; rintro e w1 ⟨rfl, hw1⟩; have HW : Hid (w1 = _) := hw1; clear hw1; have c0 : w1.cell? ⟨w.heap.size, 0, none⟩ = some (.pointer (some ⟨p, 0, none⟩)) := (by rw [HW.out]; simp); have HB : Hid (Below w.heap.size w w1) := (by rw [HW.out]; exact bal (Below.refl _ _) _); have c1 : w1.cell? ⟨p, 1, none⟩ = some (.map (some b)) := (HB.out.cell (p := ⟨p, 1, none⟩) hlt).trans hp; have hl1 := hlen.out w1 (HB.out.block b hb); have s1 : w.heap.size < w1.heap.size := World.block_lt_of_cell? w1 _ c0; clear HW)
    | (at_make; refine wpList_make_own _ rfl _ _ 48 rfl w.heap.size 55 i0 _ 2 Tryz.underlying48 HI.out HZ0.out HZ1.out _ _ _ N rfl rfl rfl (by rw [HZ2.out]; omega) (by unfold maxLen; omega) HB.out.size ?_; intro w2 hown2 hgr2; have HO : Hid (w2.ownsRow w.heap.size 55 2 (.slice (some ⟨w1.heap.size, 0, none⟩) 0 N) 0 []) := hown2; have HB2 : Hid (Below w.heap.size w w2) := HB.out.grown hgr2 HB.out.size (fun k hk => by cases hk); have d0 : w2.cell? ⟨w.heap.size, 0, none⟩ = some (.pointer (some ⟨p, 0, none⟩)) := (World.cell?_of_block (w := w1) (hgr2.block _ s1 (by simp))).trans c0; have d1 : w2.cell? ⟨p, 1, none⟩ = some (.map (some b)) := (HB2.out.cell (p := ⟨p, 1, none⟩) hlt).trans hp; clear hown2 hgr2 hl1 c0 c1)
    | (at_range; refine wpList_range_map _ rfl _ rfl b S rfl (H.out.map.on (HB2.out.block b hb)) ?_; intro w3 hrg hbl hsz; have HR : Hid (RngIs w3 b w2.heap.size S []) := hrg; have HB3 : Hid (Below w.heap.size w w3) := HB2.out.trans (hbl.mono HB2.out.size); have HO3 : Hid (w3.ownsRow w.heap.size 55 2 (.slice (some ⟨w1.heap.size, 0, none⟩) 0 N) 0 []) := own_on HO.out (hbl.block _ (own_lt HO.out).2); have e0 : w3.cell? ⟨w.heap.size, 0, none⟩ = some (.pointer (some ⟨p, 0, none⟩)) := (hbl.cell (p := ⟨w.heap.size, 0, none⟩) (World.block_lt_of_cell? w2 _ d0)).trans d0; clear hrg hbl hsz d0 d1 HO HB))
  go_frame
  obtain ⟨g, hg⟩ : ∃ g, g = w1.heap.size := ⟨_, rfl⟩
  obtain ⟨rr, hrr⟩ : ∃ g, g = w2.heap.size := ⟨_, rfl⟩
  rw [← hg] at HO3 ⊢
  rw [← hrr] at HR ⊢
  have HRB : Hid (w.heap.size ≤ rr) := by rw [hrr]; exact HB2.out.size
  have HGQ : Hid (w.heap.size ≠ g) := by rw [hg]; exact Nat.ne_of_lt s1
  clear hg hrr s1
  go_loopw [3] (fun v wr => ∃ D, v = .slice (some ⟨g, 0, none⟩) D.length N ∧ RngIs wr b rr S D ∧ wr.ownsRow w.heap.size 55 2 (.slice (some ⟨g, 0, none⟩) D.length N) D.length (keyCells D) ∧ Below w.heap.size w wr ∧ wr.cell? ⟨w.heap.size, 0, none⟩ = some (.pointer (some ⟨p, 0, none⟩)) ∧ ∃ R, S.Perm (D ++ R)) (fun _ wr => wr.rangeLeft b rr)
  case atStart => exact ⟨[], rfl, HR.out, HO3.out, HB3.out, e0, S, List.Perm.refl _⟩
  case round =>
    obtain ⟨D, rfl, hR, hO, hB, hq, hP⟩ := hrel
    have HR4 : Hid (RngIs wr b rr S D) := hR
    have HO4 : Hid (wr.ownsRow w.heap.size 55 2 (.slice (some ⟨g, 0, none⟩) D.length N) D.length (keyCells D)) := hO
    have HB4 : Hid (Below w.heap.size w wr) := hB
    have HQ4 : Hid (wr.cell? ⟨w.heap.size, 0, none⟩ = some (.pointer (some ⟨p, 0, none⟩))) := hq
    have HP : Hid (∃ R, S.Perm (D ++ R)) := hP
    clear hR hO hB hq hP HR HO3 HB3 e0
    have HNE := own_ne_iter HO4.out HR4.out
    have HN1 : Hid (g ≠ rr) := HNE.1
    have HN2 : Hid (g ≠ b) := HNE.2
    clear HNE
    go_wp2_with (first
      | (at_next; refine wpList_next_map _ rfl _ rfl b rr S D rfl HR4.out (fun hD => ?_) (fun k1 k2 p0 p1 p2 p3 t4 w4 HX hen => ?_))
      | (at_builtin; refine wpList_append_roomy _ rfl _ _ 48 rfl w.heap.size 55 i0 2 Tryz.underlying48 HI.out HZ1.out g D.length N (keyCells D) rfl (((own_on HO4.out (HX.out.2.2.2.2.1 g HN1.out)).alloc _).alloc _) ⟨w4.heap.size + 1, 0, none⟩ 1 1 [.int .i64 k1, .int .i64 k2] rfl rfl (by simpa using cell_two_new (w4.alloc _) (.int .i64 k1) (.int .i64 k2) 55) (by simp [Value.oneCell']) (room_left HN.out HX.out.1) ?_; intro w5 ho5 hg5; have HO5 : Hid (w5.ownsRow w.heap.size 55 2 (.slice (some ⟨g, 0, none⟩) (D.length + 1) N) (D.length + 1) (keyCells D ++ [.int .i64 k1, .int .i64 k2])) := ho5; have HG5 : Hid (((w4.alloc (.cells #[.int .i64 k1, .int .i64 k2] 55)).alloc (.cells #[.int .i64 k1, .int .i64 k2] 55)).grownBy w5 (some g)) := hg5; clear ho5 hg5)
      | (go_at_call 35; refine (sort_keys w.heap.size p b g N S D wr HS.out hD HQ4.out ((HB4.out.cell (p := ⟨p, 1, none⟩) hlt).trans hp) HR4.out.map HGQ.out (Nat.ne_of_lt (Nat.lt_of_lt_of_le hlt (own_lt HO4.out).1)) (Ne.symm HN2.out) (own_lt HO4.out).2 (holds_of_own HO4.out) (len_left HN.out hD hl)).mono ?_; rintro e w5 ⟨rfl, hc5, hb5⟩; have HC5 : Hid (∀ j x, S[j]? = some x → w5.cell? ⟨g, j * 2, none⟩ = some (.int .i64 x.1.1) ∧ w5.cell? ⟨g, j * 2 + 1, none⟩ = some (.int .i64 x.1.2)) := hc5; have HB5 : Hid (RowKit.Below w.heap.size w w5) := HB4.out.trans (hb5 _ (own_lt HO4.out).1); clear hc5 hb5))
    · go_ret
      exact ⟨g, by rw [HN.out, hD.length_eq]; rfl, (own_lt HO4.out).1, HC5.out, HB5.out⟩
    · obtain ⟨⟨R, hR⟩, g1, g2, g3, g4, g5⟩ := HX.out
      have m1 : g < w4.heap.size := by rw [g3]; exact (own_lt HO4.out).2
      have m2 : rr < w4.heap.size := g1.lt
      have m3 : b < w4.heap.size := g1.map.lt
      have hblk : ∀ i, i < w4.heap.size → i ≠ g → w5.heap[i]? = w4.heap[i]? := fun i hi hne => by
        have a1 := HG5.out.block i (by simp; omega) (by simpa using hne)
        rw [a1, Below.heap_alloc _ _ _ (by simp; omega), Below.heap_alloc _ _ _ hi]
      have e1 : w5.heap[b]? = w4.heap[b]? := hblk b m3 (Ne.symm HN2.out)
      have e2 : w5.heap[rr]? = w4.heap[rr]? := hblk rr m2 (Ne.symm HN1.out)
      have hq4 : w4.heap[w.heap.size]? = wr.heap[w.heap.size]? := g4 _ (by
        intro e
        have := HR4.out
        obtain ⟨es, clock, since, seen, c0, _, _, h3, _⟩ := this
        have hq := HQ4.out
        rw [← e] at h3
        simp [World.cell?, h3] at hq)
      have hql : w.heap.size < wr.heap.size := World.block_lt_of_cell? wr _ HQ4.out
      refine ⟨⟨D ++ [((k1, k2), (p0, p1, p2, p3), t4)], by simp, g1.on e1 e2, ?_, ?_, ?_, R, by simpa using hR⟩, ?_⟩
      · rw [keyCells_snoc]
        simpa using HO5.out
      · refine Below.grown (bal (Below.alloc (HB4.out.trans (g5 _ HRB.out)) (by rw [g3]; exact HB4.out.size) _) _) HG5.out (by simp; rw [g3]; have := HB4.out.size; omega) (fun k hk => by cases hk; exact (own_lt HO4.out).1)
      · refine (World.cell?_of_block (w := wr) ((hblk _ (by rw [g3]; exact hql) HGQ.out).trans hq4)).trans HQ4.out
      · rw [rangeLeft_on e1 e2]
        exact g2
end Go.Proofs.YthcgdgpflhdchaaGreatDoor.Ptlb

/- What New, Put and Keys of package tlb do, for every argument that their types allow. -/
namespace Go.Proofs.YthcgdgpflhdchaaGreatDoor.Ptlb
open Go.Proofs.YthcgdgpflhdchaaGreatDoor.Pbase
open Go.RowKit Go.ChangeMaps
set_option linter.unusedVariables false

theorem but_setBlock {b : Nat} {a w : World} (h : But b a w) (o : Obj) : But b a (setBlock w b o) :=
  ⟨h.os, h.tape, h.output, by rw [setBlock_size]; exact h.size, fun i hi hne => by
    have : (ChangeMaps.setBlock w b o).heap[i]? = w.heap[i]? := by simp [ChangeMaps.setBlock, Ne.symm hne]
    rw [this]; exact h.block i hi hne⟩

theorem keeps {w w' : World} (h : Below w.heap.size w w') {b j : Nat} {v : Value} (hc : w.cell? ⟨b, j, none⟩ = some v) : w'.cell? ⟨b, j, none⟩ = some v := (h.cell (p := ⟨b, j, none⟩) (World.block_lt_of_cell? w _ hc)).trans hc

theorem turned_cell {w : World} {b : Nat} {S : List En} (h : MapIs w b S) (o : Obj) {i j : Nat} {v : Value} (hc : w.cell? ⟨i, j, none⟩ = some v) : (setBlock w b o).cell? ⟨i, j, none⟩ = some v := by
  have hne : i ≠ b := by
    intro e
    obtain ⟨es, clock, hb, _⟩ := h
    rw [e] at hc
    simp [World.cell?, hb] at hc
  exact (World.cell?_of_block (w := w) (setBlock_other h o hne)).trans hc

/-! ### New -/
set_option maxRecDepth 100000 in
theorem new_bad (r : Int) (w : World) (h : r < 0 ∨ 8 < r) :
    Calls Tryz.prog 5 #[.int .i64 r] w fun e w' => e = .returned (.tuple #[.pointer none, .int .i64 1]) ∧ w' = w := by
  rcases h with h | h
  · go_enter Tryz.func5, Tryz.ntmps5
    go_wp2
    go_ret2
    exact ⟨rfl, rfl⟩
  · have h0 : ¬ r < 0 := by omega
    go_enter Tryz.func5, Tryz.ntmps5
    go_wp2
    go_ret2
    exact ⟨rfl, rfl⟩
theorem mapIs_new (w : World) : MapIs (w.alloc (.map #[] 0)) w.heap.size [] := ⟨#[], 0, (MapKept.heap_alloc w _).1, rfl, by simp, by simp⟩
set_option maxRecDepth 100000 in
theorem new_ok (r : Int) (w : World) (h0 : 0 ≤ r) (h1 : r ≤ 8) :
    Calls Tryz.prog 5 #[.int .i64 r] w fun e w' => e = .returned (.tuple #[.pointer (some ⟨w.heap.size + 1, 0, none⟩), .int .i64 0]) ∧ TlbIs w' (w.heap.size + 1) w.heap.size r [] ∧ Below w.heap.size w w' := by
  have hmm := @run_makeMap Tryz.prog
  have n0 : ¬ r < 0 := by omega
  have n1 : ¬ 8 < r := by omega
  go_enter Tryz.func5, Tryz.ntmps5
  go_wp2
  go_ret2
  refine ⟨rfl, ⟨?_, ?_⟩, bal (bal (Below.refl _ _) _) _⟩
  · have := heap_alloc_new (w.alloc (.map #[] 0)) (.cells #[.int .i64 r, .map (some w.heap.size)] 70)
    simpa using this
  · exact (mapIs_new w).on (Below.heap_alloc _ _ _ (by simp))

/-! ### The list behind a Put -/
def putS (R : Nat) (S : List En) (k : Ky) (p : Pt) : List En := if R < (putM S k p (turnS S k)).length then (putM S k p (turnS S k)).tail else putM S k p (turnS S k)
theorem putM_len (S : List En) (k : Ky) (p : Pt) (t : Int) : (putM S k p t).length = if hasK S k then S.length else S.length + 1 := by
  induction S with
  | nil => rfl
  | cons x S ih =>
    by_cases hx : x.1 = k
    · simp [putM, hasK, hx]
    · have e1 : putM (x :: S) k p t = x :: putM S k p t := by simp only [putM, if_neg hx]
      have e2 : hasK (x :: S) k = hasK S k := by simp [hasK, hx]
      rw [e1, e2, List.length_cons, ih]
      split <;> rfl
theorem mem_putM (S : List En) (k : Ky) (p : Pt) (t : Int) : ∀ x ∈ putM S k p t, x = (k, p, t) ∨ x ∈ S := by
  induction S with
  | nil => intro x hx; simpa [putM] using hx
  | cons y S ih =>
    intro x hx
    by_cases hy : y.1 = k
    · simp only [putM, if_pos hy, List.mem_cons] at hx
      rcases hx with hx | hx
      · exact .inl hx
      · exact .inr (by simp [hx])
    · simp only [putM, if_neg hy, List.mem_cons] at hx
      rcases hx with hx | hx
      · exact .inr (by simp [hx])
      · rcases ih x hx with h | h
        · exact .inl h
        · exact .inr (by simp [h])
theorem okS_has : ∀ {S : List En}, OkS S → ∀ {k : Ky} (p : Pt), hasK S k = true → OkS (putM S k p (tnK S k))
  | [], _, k, p, h => by simp [hasK] at h
  | y :: S, hS, k, p, h => by
    obtain ⟨a1, a2⟩ := List.pairwise_cons.1 hS.keys
    obtain ⟨b1, b2⟩ := List.pairwise_cons.1 hS.rise
    by_cases hy : y.1 = k
    · simp only [putM, tnK, if_pos hy]
      exact ⟨List.pairwise_cons.2 ⟨fun x hx => by rw [← hy]; exact a1 x hx, a2⟩, List.pairwise_cons.2 ⟨b1, b2⟩⟩
    · have h' : hasK S k = true := by simpa [hasK, hy] using h
      have ih := okS_has ⟨a2, b2⟩ p h'
      obtain ⟨j, _, hj⟩ := findS_some S k 0 h'
      have hm : (k, ptK S k, tnK S k) ∈ S := List.mem_of_getElem? hj
      simp only [putM, tnK, if_neg hy]
      refine ⟨List.pairwise_cons.2 ⟨fun x hx => ?_, ih.keys⟩, List.pairwise_cons.2 ⟨fun x hx => ?_, ih.rise⟩⟩
      · rcases mem_putM S k p _ x hx with rfl | hx
        · exact hy
        · exact a1 x hx
      · rcases mem_putM S k p _ x hx with rfl | hx
        · exact b1 (k, ptK S k, tnK S k) hm
        · exact b1 x hx
theorem okS_put {S : List En} (hS : OkS S) (k : Ky) (p : Pt) : OkS (putM S k p (turnS S k)) := by
  cases hk : hasK S k
  · have ht : turnS S k = mxT S + 1 := by simp [turnS, hk]
    rw [ht, put_none k p _ S hk]
    have hne : ∀ x ∈ S, x.1 ≠ k := fun x hx e => by
      simp only [hasK, List.any_eq_false, decide_eq_true_eq] at hk
      exact hk x hx e
    refine ⟨List.pairwise_append.2 ⟨hS.keys, by simp, fun x hx y hy => ?_⟩, List.pairwise_append.2 ⟨hS.rise, by simp, fun x hx y hy => ?_⟩⟩
    · simp only [List.mem_singleton] at hy
      rw [hy]; exact hne x hx
    · simp only [List.mem_singleton] at hy
      rw [hy]
      have := mxT_ge S hx
      show x.2.2 < mxT S + 1
      omega
  · have ht : turnS S k = tnK S k := by simp [turnS, hk]
    rw [ht]
    exact okS_has hS p hk
theorem okS_tail {S : List En} (hS : OkS S) : OkS S.tail := by
  cases S with
  | nil => exact hS
  | cons x S => exact ⟨(List.pairwise_cons.1 hS.keys).2, (List.pairwise_cons.1 hS.rise).2⟩
theorem okS_putS {S : List En} (hS : OkS S) (R : Nat) (k : Ky) (p : Pt) : OkS (putS R S k p) := by
  unfold putS
  split
  · exact okS_tail (okS_put hS k p)
  · exact okS_put hS k p
theorem turns_put {S : List En} {T : Int} (h0 : 0 ≤ T) (h : ∀ x ∈ S, x.2.2 ≤ T) (k : Ky) (p : Pt) : ∀ x ∈ putM S k p (turnS S k), x.2.2 ≤ T + 1 := by
  intro x hx
  rcases mem_putM S k p _ x hx with rfl | hx
  · show turnS S k ≤ T + 1
    unfold turnS
    split
    · rename_i hk
      obtain ⟨j, _, hj⟩ := findS_some S k 0 hk
      have := h _ (List.mem_of_getElem? hj)
      simp only at this
      omega
    · have := mxT_le S h0 h
      omega
  · have := h x hx
    omega
theorem turns_putS {S : List En} {T : Int} (h0 : 0 ≤ T) (h : ∀ x ∈ S, x.2.2 ≤ T) (R : Nat) (k : Ky) (p : Pt) : ∀ x ∈ putS R S k p, x.2.2 ≤ T + 1 := by
  intro x hx
  unfold putS at hx
  split at hx
  · exact turns_put h0 h k p x (List.mem_of_mem_tail hx)
  · exact turns_put h0 h k p x hx
theorem len_putS {S : List En} {R : Nat} (h : S.length ≤ R) (k : Ky) (p : Pt) : (putS R S k p).length ≤ R := by
  unfold putS
  have := putM_len S k p (turnS S k)
  split
  · rw [List.length_tail, this]
    split <;> omega
  · omega

/-! ### Put -/
theorem del_head (x : En) (S : List En) : delM (x :: S) x.1 = S := by simp [delM]
set_option maxHeartbeats 4000000 in
set_option maxRecDepth 100000 in
theorem put_some' (p b R : Nat) (S : List En) (k : Ky) (pt : Pt) (w : World) (h : TlbIs w p b R S) (hS : OkS S) (hT : mxT S < 4611686018427387904) (hl : S.length ≤ R) (hR : R ≤ 8) :
    Calls Tryz.prog 50 #[.pointer (some ⟨p, 0, none⟩), .agg #[.int .i64 k.1, .int .i64 k.2], .agg #[.bool pt.1, .int .i64 pt.2.1, .int .i64 pt.2.2.1, .int .i64 pt.2.2.2]] w fun e w' =>
      e = .returned (.int .i64 0) ∧ TlbIs w' p b R (putS R S k pt) ∧ But b w w' := by
  have hp := h.ents
  have hp0 := h.room
  have hlt := h.lt
  have hb := h.map.lt
  have H : Hid (TlbIs w p b R S) := h
  have HT : Hid (mxT S < 4611686018427387904) := hT
  have HS1 : Hid (OkS (putM S k pt (turnS S k))) := okS_put hS k pt
  have HL : Hid ((putM S k pt (turnS S k)).length ≤ 9) := by
    have h1 := putM_len S k pt (turnS S k)
    have : (putM S k pt (turnS S k)).length ≤ 9 := by rw [h1]; split <;> omega
    exact this
  clear h hS hT
  have HP : Hid (putS R S k pt = if R < (putM S k pt (turnS S k)).length then (putM S k pt (turnS S k)).tail else putM S k pt (turnS S k)) := rfl
  obtain ⟨S1, hS1⟩ : ∃ S1, S1 = putM S k pt (turnS S k) := ⟨_, rfl⟩
  rw [← hS1] at HS1 HL HP
  have HS : Hid (S1 = putM S k pt (turnS S k)) := hS1
  clear hS1
  obtain ⟨PS, hPS⟩ : ∃ S1, S1 = putS R S k pt := ⟨_, rfl⟩
  rw [← hPS] at HP ⊢
  clear hPS
  obtain ⟨a, c⟩ := k
  obtain ⟨q0, q1, q2, q3⟩ := pt
  obtain ⟨tn, htn⟩ : ∃ tn, tn = turnS S (a, c) := ⟨_, rfl⟩
  have HTN : Hid (tn = turnS S (a, c)) := htn
  clear htn
  go_enter Tryz.func50, Tryz.ntmps50
  go_wp2_with (first
    | (go_at_call 26; refine (made_some p b _ ((H.out.alloc _).alloc _).ents).mono ?_; rintro e w1 ⟨rfl, hw1⟩; have HW : Hid (w1 = _) := hw1; clear hw1; have HB : Hid (Below w.heap.size w w1) := (by rw [HW.out]; exact bal (bal (Below.refl _ _) _) _); have k0 : w1.cell? ⟨w.heap.size, 0, none⟩ = some (.int .i64 a) := (by rw [HW.out]; simp); have k1 : w1.cell? ⟨w.heap.size, 1, none⟩ = some (.int .i64 c) := (by rw [HW.out]; simp); have k2 : w1.cell? ⟨w.heap.size + 1, 0, none⟩ = some (.bool q0) := (by rw [HW.out]; simp); have k3 : w1.cell? ⟨w.heap.size + 1, 1, none⟩ = some (.int .i64 q1) := (by rw [HW.out]; simp); have k4 : w1.cell? ⟨w.heap.size + 1, 2, none⟩ = some (.int .i64 q2) := (by rw [HW.out]; simp); have k5 : w1.cell? ⟨w.heap.size + 1, 3, none⟩ = some (.int .i64 q3) := (by rw [HW.out]; simp); clear HW)
    | (go_at_call 69; refine (turn_any p b R S (a, c) _ (H.out.more HB.out) HT.out).mono ?_; rintro e w2 ⟨he, hb2⟩; rw [← HTN.out] at he; subst he; have HB2 : Hid (Below w.heap.size w w2) := HB.out.trans (hb2.mono HB.out.size); have l0 : w2.cell? ⟨w.heap.size, 0, none⟩ = some (.int .i64 a) := keeps hb2 k0; have l1 : w2.cell? ⟨w.heap.size, 1, none⟩ = some (.int .i64 c) := keeps hb2 k1; have l2 : w2.cell? ⟨w.heap.size + 1, 0, none⟩ = some (.bool q0) := keeps hb2 k2; have l3 : w2.cell? ⟨w.heap.size + 1, 1, none⟩ = some (.int .i64 q1) := keeps hb2 k3; have l4 : w2.cell? ⟨w.heap.size + 1, 2, none⟩ = some (.int .i64 q2) := keeps hb2 k4; have l5 : w2.cell? ⟨w.heap.size + 1, 3, none⟩ = some (.int .i64 q3) := keeps hb2 k5; clear hb2 k0 k1 k2 k3 k4 k5))
  have l6 : w2.cell? ⟨p, 1, none⟩ = some (.map (some b)) := (HB2.out.cell (p := ⟨p, 1, none⟩) hlt).trans hp
  have hm2 : MapIs w2.drew b S := (H.out.map.on (HB2.out.block b hb)).on rfl
  obtain ⟨o, hup, hm3⟩ := store_map hm2 (a, c) (q0, q1, q2, q3) tn
  have HM3 : Hid (MapIs (setBlock w2.drew b o) b S1) := by rw [HS.out, ← HTN.out]; exact hm3
  have HB3 : Hid (But b w (setBlock w2.drew b o)) := but_setBlock (But.of_below b HB2.out).drew o
  have m0 : (setBlock w2.drew b o).cell? ⟨w.heap.size, 0, none⟩ = some (.int .i64 a) := turned_cell hm2 o l0
  have m1 : (setBlock w2.drew b o).cell? ⟨w.heap.size, 1, none⟩ = some (.int .i64 c) := turned_cell hm2 o l1
  have m2 : (setBlock w2.drew b o).cell? ⟨w.heap.size + 1, 0, none⟩ = some (.bool q0) := turned_cell hm2 o l2
  have m3 : (setBlock w2.drew b o).cell? ⟨w.heap.size + 1, 1, none⟩ = some (.int .i64 q1) := turned_cell hm2 o l3
  have m4 : (setBlock w2.drew b o).cell? ⟨w.heap.size + 1, 2, none⟩ = some (.int .i64 q2) := turned_cell hm2 o l4
  have m5 : (setBlock w2.drew b o).cell? ⟨w.heap.size + 1, 3, none⟩ = some (.int .i64 q3) := turned_cell hm2 o l5
  have m6 : (setBlock w2.drew b o).cell? ⟨p, 1, none⟩ = some (.map (some b)) := turned_cell hm2 o l6
  have m7 : (setBlock w2.drew b o).cell? ⟨p, 0, none⟩ = some (.int .i64 R) := turned_cell hm2 o ((HB2.out.cell (p := ⟨p, 0, none⟩) hlt).trans hp0)
  have HT3 : Hid (TlbIs (setBlock w2.drew b o) p b R S1) := by
    have : TlbIs w2.drew p b R S := (H.out.more HB2.out).drew
    exact this.turned HM3.out
  clear hm3 hm2
  simp only [kv, ev] at hup
  obtain ⟨w3, hw3⟩ : ∃ w3, w3 = setBlock w2.drew b o := ⟨_, rfl⟩
  rw [← hw3] at HM3 HB3 HT3 hup m0 m1 m2 m3 m4 m5 m6 m7
  clear hw3
  go_region_held3 (fun w' => w'.cell? ⟨p, 1, none⟩ = some (.map (some b)) ∧ w'.cell? ⟨w.heap.size, 0, none⟩ = some (.int .i64 a) ∧ w'.cell? ⟨w.heap.size, 1, none⟩ = some (.int .i64 c) ∧ w'.cell? ⟨w.heap.size + 1, 0, none⟩ = some (.bool q0) ∧ w'.cell? ⟨w.heap.size + 1, 1, none⟩ = some (.int .i64 q1) ∧ w'.cell? ⟨w.heap.size + 1, 2, none⟩ = some (.int .i64 q2) ∧ w'.cell? ⟨w.heap.size + 1, 3, none⟩ = some (.int .i64 q3)) (first | exact ⟨m6, m0, m1, m2, m3, m4, m5⟩ | go_keep) (fail)
  go_wp2
  clear hup m0 m1 m2 m3 m4 m5 l0 l1 l2 l3 l4 l5 l6
  obtain ⟨N, hN⟩ : ∃ N, N = S1.length := ⟨_, rfl⟩
  have hlen : ∀ n ty, (Builtin.len_ #[68] ty #[.map (some b)]).run Tryz.prog (w3.drewN n) = .ok (.int .i64 N) (w3.drewN n) := fun n ty => by rw [hN]; exact len_map (w := w3.drewN n) (HM3.out.on rfl) ty
  have HN : Hid (N = S1.length) := hN
  clear hN
  by_cases hgt : R < N
  · have hgt' : (R : Int) < (N : Int) := by omega
    go_quiet (fail)
    obtain ⟨w4, hw4⟩ : ∃ w4, w4 = w3.drewN nq := ⟨_, rfl⟩
    rw [← hw4]
    have HT4 : Hid (TlbIs w4 p b R S1) := by rw [hw4]; exact HT3.out.on rfl rfl
    have HB4 : Hid (But b w w4) := by rw [hw4]; exact HB3.out.drewN _
    have c4 : w4.cell? ⟨p, 1, none⟩ = some (.map (some b)) := HT4.out.ents
    clear hw4 hlen HM3 HB3 HT3 m6 m7
    have HPS : Hid (PS = S1.tail) := by
      have := HP.out
      rw [if_pos (by rw [← HN.out]; exact hgt)] at this
      exact this
    obtain ⟨x0, S2, e12⟩ : ∃ x0 S2, S1 = x0 :: S2 := by
      cases S1 with
      | nil => simp [Hid] at HN; omega
      | cons x S => exact ⟨x, S, rfl⟩
    have HE : Hid (S1 = x0 :: S2) := e12
    clear e12 HP
    have hN0 : (0 : Int) < (N : Int) := by omega
    have hN1 : N ≤ 1000 := by have := HL.out; have := HN.out; omega
    have hkey : Hid (hasK S1 x0.1 = true) := by rw [HE.out]; simp [hasK, Hid]
    obtain ⟨⟨k1, k2⟩, xp, xt⟩ := x0
    go_wp2
    go_region_with (
      (go_at_call 15; refine (keys_any p b R S1 _ HT4.out.drew HS1.out (by rw [← HN.out]; exact hN1)).mono ?_; rintro e w5 ⟨g, he, hg5, hc5, hb5⟩; rw [← HN.out] at he; subst he; have HB5 : Hid (But b w w5) := HB4.out.drew.trans (But.of_below b hb5); have HT5 : Hid (TlbIs w5 p b R S1) := HT4.out.drew.more hb5; have c5 : w5.cell? ⟨p, 1, none⟩ = some (.map (some b)) := HT5.out.ents; have g0 : w5.cell? ⟨g, 0, none⟩ = some (.int .i64 k1) := (hc5 0 ((k1, k2), xp, xt) (by rw [HE.out]; rfl)).1; have g1 : w5.cell? ⟨g, 1, none⟩ = some (.int .i64 k2) := (hc5 0 ((k1, k2), xp, xt) (by rw [HE.out]; rfl)).2; obtain ⟨o6, hd6, hm6⟩ := delete_map HT5.out.map (k1, k2) hkey.out; have HT6 : Hid (TlbIs (setBlock w5 b o6) p b R S2) := (by have := HT5.out.turned hm6; rwa [HE.out, del_head] at this); have HB6 : Hid (But b w (setBlock w5 b o6)) := but_setBlock HB5.out o6; have c6 : (setBlock w5 b o6).cell? ⟨p, 1, none⟩ = some (.map (some b)) := HT6.out.ents; simp only [kv] at hd6; clear hm6 hc5 hb5))
    all_goals
      go_wp2
      go_ret
      exact ⟨rfl, by rw [HPS.out, HE.out]; exact HT6.out, HB6.out⟩
  · have hgt' : ¬ (R : Int) < (N : Int) := by omega
    go_quiet (fail)
    have HPS : Hid (PS = S1) := by
      have := HP.out
      rw [if_neg (by rw [← HN.out]; exact hgt)] at this
      exact this
    go_wp2
    go_ret
    exact ⟨rfl, by rw [HPS.out]; exact HT3.out.on rfl rfl, HB3.out.drewN _⟩
end Go.Proofs.YthcgdgpflhdchaaGreatDoor.Ptlb

/- What calls of package tlb answer of one that is nil and of one that no call made; that the program computes at all. -/
namespace Go.Proofs.YthcgdgpflhdchaaGreatDoor.Ptlb
open Go.Proofs.YthcgdgpflhdchaaGreatDoor.Pbase
open Go.RowKit Go.ChangeMaps
set_option linter.unusedVariables false

theorem cell_more2 {w : World} {b j : Nat} {v : Value} (hc : w.cell? ⟨b, j, none⟩ = some v) (o o' : Obj) : ((w.alloc o).alloc o').cell? ⟨b, j, none⟩ = some v := keeps (bal (bal (Below.refl _ _) _) _) hc
theorem cell_more1 {w : World} {b j : Nat} {v : Value} (hc : w.cell? ⟨b, j, none⟩ = some v) (o : Obj) : (w.alloc o).cell? ⟨b, j, none⟩ = some v := keeps (bal (Below.refl _ _) _) hc
set_option maxRecDepth 100000 in
theorem put_nil (k : Ky) (pt : Pt) (w : World) :
    Calls Tryz.prog 50 #[.pointer none, .agg #[.int .i64 k.1, .int .i64 k.2], .agg #[.bool pt.1, .int .i64 pt.2.1, .int .i64 pt.2.2.1, .int .i64 pt.2.2.2]] w fun e w' => e = .returned (.int .i64 13) ∧ Below w.heap.size w w' := by
  go_enter Tryz.func50, Tryz.ntmps50
  go_wp2_with (go_at_call 26; refine (made_nil _).mono ?_; rintro e w1 ⟨rfl, rfl⟩)
  go_ret
  exact ⟨rfl, bal (bal (Below.refl _ _) _) _⟩
set_option maxRecDepth 100000 in
theorem put_zero (p : Nat) (k : Ky) (pt : Pt) (w : World) (hp : w.cell? ⟨p, 1, none⟩ = some (.map none)) :
    Calls Tryz.prog 50 #[.pointer (some ⟨p, 0, none⟩), .agg #[.int .i64 k.1, .int .i64 k.2], .agg #[.bool pt.1, .int .i64 pt.2.1, .int .i64 pt.2.2.1, .int .i64 pt.2.2.2]] w fun e w' => e = .returned (.int .i64 13) ∧ Below w.heap.size w w' := by
  go_enter Tryz.func50, Tryz.ntmps50
  go_wp2_with (go_at_call 26; refine (made_zero p _ (cell_more2 hp _ _)).mono ?_; rintro e w1 ⟨rfl, rfl⟩)
  go_ret
  exact ⟨rfl, bal (bal (Below.refl _ _) _) _⟩
set_option maxRecDepth 100000 in
theorem keys_zero (p : Nat) (w : World) (hp : w.cell? ⟨p, 1, none⟩ = some (.map none)) :
    Calls Tryz.prog 15 #[.pointer (some ⟨p, 0, none⟩)] w fun e w' => e = .returned (.slice none 0 0) ∧ Below w.heap.size w w' := by
  go_enter Tryz.func15, Tryz.ntmps15
  go_wp2_with (go_at_call 26; refine (made_zero p _ (cell_more1 hp _)).mono ?_; rintro e w1 ⟨rfl, rfl⟩)
  go_ret
  exact ⟨rfl, bal (Below.refl _ _) _⟩
theorem okS_nil : OkS [] := ⟨List.Pairwise.nil, List.Pairwise.nil⟩
end Go.Proofs.YthcgdgpflhdchaaGreatDoor.Ptlb

/- Of keys that are put one behind the other, each once: what is remembered. -/
namespace Go.Proofs.YthcgdgpflhdchaaGreatDoor.Ptlb
open Go.Proofs.YthcgdgpflhdchaaGreatDoor.Pbase
open Go.RowKit
set_option linter.unusedVariables false

theorem hasK_keys (S : List En) (k : Ky) : hasK S k = decide (k ∈ S.map (·.1)) := by
  rw [Bool.eq_iff_iff]
  simp [hasK]
/-- The keys that are remembered behind m keys (0, 0), (0, 1) ..: the last ones. -/
def lastK (R m : Nat) : List Ky := (List.range (min m R)).map fun j => (0, ((m - min m R + j : Nat) : Int))
theorem lastK_len (R m : Nat) : (lastK R m).length = min m R := by simp [lastK]
theorem lastK_mem (R m i : Nat) (hi : i < m) : (((0 : Int), (i : Int)) ∈ lastK R m) ↔ m - i ≤ R := by
  unfold lastK
  simp only [List.mem_map, List.mem_range, Prod.mk.injEq, true_and]
  constructor
  · rintro ⟨j, hj, e⟩
    omega
  · intro h
    exact ⟨i - (m - min m R), by omega, by omega⟩
theorem lastK_new (R m : Nat) : ((0 : Int), (m : Int)) ∉ lastK R m := by
  unfold lastK
  simp only [List.mem_map, List.mem_range, Prod.mk.injEq, true_and, not_exists, not_and]
  intro j hj e
  omega
theorem lastK_step (R m : Nat) : lastK R (m + 1) = if R < min m R + 1 then (lastK R m ++ [(0, (m : Int))]).tail else lastK R m ++ [(0, (m : Int))] := by
  have get : ∀ m j, (lastK R m)[j]? = if j < min m R then some (0, ((m - min m R + j : Nat) : Int)) else none := by
    intro m j
    unfold lastK
    by_cases h : j < min m R
    · rw [if_pos h]
      simp [h]
    · rw [if_neg h]
      simp [h]
  have app : ∀ j, (lastK R m ++ [((0 : Int), (m : Int))])[j]? = if j < min m R then some (0, ((m - min m R + j : Nat) : Int)) else if j = min m R then some (0, (m : Int)) else none := by
    intro j
    by_cases h : j < min m R
    · rw [List.getElem?_append_left (by rw [lastK_len]; exact h), get, if_pos h, if_pos h]
    · rw [List.getElem?_append_right (by rw [lastK_len]; omega), lastK_len, if_neg h]
      by_cases h2 : j = min m R
      · rw [if_pos h2, h2]
        simp
      · rw [if_neg h2]
        have : j - min m R ≠ 0 := by omega
        obtain ⟨n, hn⟩ : ∃ n, j - min m R = n + 1 := ⟨j - min m R - 1, by omega⟩
        rw [hn]
        rfl
  split
  · apply List.ext_getElem?
    intro j
    rw [List.getElem?_tail, app, get]
    have hm : min m R = R := by omega
    have hm2 : min (m + 1) R = R := by omega
    rw [hm, hm2]
    by_cases h1 : j + 1 < R
    · rw [if_pos (by omega), if_pos h1]
      congr 3
      omega
    · by_cases h2 : j + 1 = R
      · rw [if_pos (by omega), if_neg h1, if_pos h2]
        congr 3
        omega
      · rw [if_neg (by omega), if_neg h1, if_neg h2]
  · apply List.ext_getElem?
    intro j
    rw [app, get]
    have hm : min m R = m := by omega
    have hm2 : min (m + 1) R = m + 1 := by omega
    rw [hm, hm2]
    by_cases h1 : j < m
    · rw [if_pos (by omega), if_pos h1]
      congr 3
      omega
    · by_cases h2 : j = m
      · rw [if_pos (by omega), if_neg h1, if_pos h2]
        congr 3
        omega
      · rw [if_neg (by omega), if_neg h1, if_neg h2]
/-- Behind one more. -/
theorem putS_keys {R m : Nat} {S : List En} (h : S.map (·.1) = lastK R m) (p : Pt) : (putS R S (0, (m : Int)) p).map (·.1) = lastK R (m + 1) := by
  have hn : hasK S (0, (m : Int)) = false := by
    rw [hasK_keys, h]
    simpa using lastK_new R m
  have hlen : S.length = min m R := by rw [← lastK_len R m, ← h]; simp
  unfold putS
  rw [put_none _ _ _ S hn, lastK_step, ← h]
  simp only [List.length_append, List.length_cons, List.length_nil, Nat.zero_add, hlen]
  split
  · rw [List.map_tail]
    simp
  · simp

/-- A mapping lies in block b. -/
structure PteAt (w : World) (b : Nat) (q0 : Bool) (q1 q2 q3 : Int) : Prop where
  c0 : w.cell? ⟨b, 0, none⟩ = some (.bool q0)
  c1 : w.cell? ⟨b, 1, none⟩ = some (.int .i64 q1)
  c2 : w.cell? ⟨b, 2, none⟩ = some (.int .i64 q2)
  c3 : w.cell? ⟨b, 3, none⟩ = some (.int .i64 q3)
theorem PteAt.on {w w' : World} {b : Nat} {q0 : Bool} {q1 q2 q3 : Int} (h : PteAt w b q0 q1 q2 q3) (e : w'.heap[b]? = w.heap[b]?) : PteAt w' b q0 q1 q2 q3 :=
  ⟨(World.cell?_of_block (w := w) e).trans h.c0, (World.cell?_of_block (w := w) e).trans h.c1, (World.cell?_of_block (w := w) e).trans h.c2, (World.cell?_of_block (w := w) e).trans h.c3⟩
theorem PteAt.more {w w' : World} {b : Nat} {q0 : Bool} {q1 q2 q3 : Int} (h : PteAt w b q0 q1 q2 q3) (k : Below w.heap.size w w') : PteAt w' b q0 q1 q2 q3 := h.on (k.block b (World.block_lt_of_cell? w _ h.c0))
theorem PteAt.new (w : World) (q0 : Bool) (q1 q2 q3 : Int) (t : TypeId) : PteAt (w.alloc (.cells #[.bool q0, .int .i64 q1, .int .i64 q2, .int .i64 q3] t)) w.heap.size q0 q1 q2 q3 := ⟨by simp, by simp, by simp, by simp⟩
theorem belowt {a w w' : World} (h : Below a.heap.size a w) (k : Below w.heap.size w w') : Below a.heap.size a w' := h.trans (k.mono h.size)
/-- All that Put asks of a list, and keeps. -/
structure Fine (S : List En) (R T : Nat) : Prop where
  ok : OkS S
  len : S.length ≤ R
  turns : ∀ x ∈ S, x.2.2 ≤ (T : Int)
theorem fine_nil (R : Nat) : Fine [] R 0 := ⟨okS_nil, by simp, by simp⟩
theorem Fine.put {S : List En} {R T : Nat} (h : Fine S R T) (k : Ky) (p : Pt) : Fine (putS R S k p) R (T + 1) :=
  ⟨okS_putS h.ok R k p, len_putS h.len k p, fun x hx => by have := turns_putS (by omega) h.turns R k p x hx; omega⟩
theorem Fine.mono {S : List En} {R T T' : Nat} (h : Fine S R T) (hT : T ≤ T') : Fine S R T' := ⟨h.ok, h.len, fun x hx => by have := h.turns x hx; omega⟩
theorem Fine.mx {S : List En} {R T : Nat} (h : Fine S R T) (hT : T ≤ 1000) : mxT S < 4611686018427387904 := by
  have := mxT_le S (by omega) h.turns
  omega
theorem lastK_first {R m : Nat} {S : List En} (h : S.map (·.1) = lastK R m) (h0 : 0 < min m R) : ∃ x, S[0]? = some x ∧ x.1.2 = (m : Int) - (min m R : Nat) := by
  have e : (S.map (·.1))[0]? = some (0, ((m - min m R + 0 : Nat) : Int)) := by
    rw [h]
    unfold lastK
    simp [h0]
  rw [List.getElem?_map] at e
  cases hx : S[0]? with
  | none => rw [hx] at e; cases e
  | some x =>
    rw [hx] at e
    simp only [Option.map_some, Option.some.injEq] at e
    refine ⟨x, rfl, ?_⟩
    rw [e]
    simp only
    omega
end Go.Proofs.YthcgdgpflhdchaaGreatDoor.Ptlb

/- What was put last is got; two mappings compared. -/
namespace Go.Proofs.YthcgdgpflhdchaaGreatDoor.Ptlb
open Go.Proofs.YthcgdgpflhdchaaGreatDoor.Pbase
open Go.RowKit
set_option linter.unusedVariables false

theorem TlbIs.drewN {w : World} {p b : Nat} {r : Int} {S : List En} (h : TlbIs w p b r S) (n : Nat) : TlbIs (w.drewN n) p b r S := h.on rfl rfl
theorem below_drewN {a w : World} (h : Below a.heap.size a w) (n : Nat) : Below a.heap.size a (w.drewN n) := ⟨h.os, h.tape, h.output, h.size, h.block⟩
theorem putM_get (S : List En) (k : Ky) (p : Pt) (t : Int) : hasK (putM S k p t) k = true ∧ ptK (putM S k p t) k = p := by
  induction S with
  | nil => simp [putM, hasK, ptK]
  | cons x S ih =>
    by_cases hx : x.1 = k
    · simp [putM, hx, hasK, ptK]
    · have e1 : putM (x :: S) k p t = x :: putM S k p t := by simp only [putM, if_neg hx]
      rw [e1]
      have e2 : hasK (x :: putM S k p t) k = hasK (putM S k p t) k := by simp [hasK, hx]
      have e3 : ptK (x :: putM S k p t) k = ptK (putM S k p t) k := by simp only [ptK, if_neg hx]
      rw [e2, e3]
      exact ih
theorem snoc_get : ∀ (S : List En) (k : Ky) (p : Pt) (t : Int), hasK S k = false → hasK (S ++ [(k, p, t)]) k = true ∧ ptK (S ++ [(k, p, t)]) k = p := by
  intro S k p t h
  have := putM_get S k p t
  rwa [put_none k p t S h] at this
theorem putS_get {S : List En} {R : Nat} (h : S.length ≤ R) (k : Ky) (p : Pt) : hasK (putS R S k p) k = decide (0 < R) ∧ (0 < R → ptK (putS R S k p) k = p) := by
  have hl := putM_len S k p (turnS S k)
  unfold putS
  split
  · rename_i hR
    have hk : hasK S k = false := by
      cases hk : hasK S k
      · rfl
      · rw [hk, if_pos rfl] at hl
        omega
    rw [put_none k p _ S hk]
    cases S with
    | nil =>
      rw [hk] at hl
      simp at hl
      have : R = 0 := by omega
      subst this
      simp [hasK]
    | cons x S =>
      have hk' : hasK S k = false := by
        simp only [hasK, List.any_cons, Bool.or_eq_false_iff] at hk
        exact hk.2
      have := snoc_get S k p (turnS (x :: S) k) hk'
      simp only [List.cons_append, List.tail_cons]
      have h0 : 0 < R := by simp at h; omega
      exact ⟨by rw [this.1]; simp [h0], fun _ => this.2⟩
  · rename_i hR
    have h0 : 0 < R := by
      have : 1 ≤ (putM S k p (turnS S k)).length := by
        cases hp : putM S k p (turnS S k) with
        | nil =>
          have := (putM_get S k p (turnS S k)).1
          rw [hp] at this
          simp [hasK] at this
        | cons x r => simp
      omega
    have := putM_get S k p (turnS S k)
    exact ⟨by rw [this.1]; simp [h0], fun _ => this.2⟩
set_option maxRecDepth 100000 in
/-- Two mappings, compared. -/
theorem run_equalP (p q : Pt) (w : World) : (Op.equalIn 10000 57 (pv p) (pv q)).run Tryz.prog w = .ok (decide (p = q)) w := by
  obtain ⟨a, b, c, d⟩ := p
  obtain ⟨a', b', c', d'⟩ := q
  show (Op.equalIn (9998 + 1 + 1) 57 (.agg #[.bool a, .int .i64 b, .int .i64 c, .int .i64 d]) (.agg #[.bool a', .int .i64 b', .int .i64 c', .int .i64 d'])).run _ _ = _
  rw [run_equalIn_agg (P := Tryz.prog) w _ _ _ _ (by kernel_rfl) (by kernel_rfl)]
  have hf : (Tryz.prog.fieldsOf 57).toList = [⟨ "On", 4, 0, false, "", "", 0⟩, ⟨ "F", 3, 1, false, "", "", 8⟩, ⟨ "R", 3, 2, false, "", "", 16⟩, ⟨ "Time", 3, 3, false, "", "", 24⟩] := by kernel_rfl
  rw [hf]
  have p0 : ∀ (o : Bool) (x y z : Int) (w : World), (part 4 #[.bool o, .int .i64 x, .int .i64 y, .int .i64 z] 0).run Tryz.prog w = .ok (.bool o) w := fun _ _ _ _ _ => by kernel_rfl
  have p1 : ∀ (o : Bool) (x y z : Int) (w : World), (part 3 #[.bool o, .int .i64 x, .int .i64 y, .int .i64 z] 1).run Tryz.prog w = .ok (.int .i64 x) w := fun _ _ _ _ _ => by kernel_rfl
  have p2 : ∀ (o : Bool) (x y z : Int) (w : World), (part 3 #[.bool o, .int .i64 x, .int .i64 y, .int .i64 z] 2).run Tryz.prog w = .ok (.int .i64 y) w := fun _ _ _ _ _ => by kernel_rfl
  have p3 : ∀ (o : Bool) (x y z : Int) (w : World), (part 3 #[.bool o, .int .i64 x, .int .i64 y, .int .i64 z] 3).run Tryz.prog w = .ok (.int .i64 z) w := fun _ _ _ _ _ => by kernel_rfl
  have q0 : ∀ (x y : Bool) (w : World), (Op.equalIn (9998 + 1) 4 (.bool x) (.bool y)).run Tryz.prog w = .ok (x == y) w := fun x y w => run_equalIn_bool w 9998 4 x y Tryz.underlying4
  have q : ∀ (x y : Int) (w : World), (Op.equalIn (9998 + 1) 3 (.int .i64 x) (.int .i64 y)).run Tryz.prog w = .ok (x == y) w := fun x y w => run_equalIn_int w 9998 3 .i64 .i64 x y Tryz.underlying3
  simp only [Op.eqFields, Sem.run_bind, Sem.run_ite, p0, p1, p2, p3, q0, q, Result.andThen_ok, Sem.run_pure]
  by_cases h1 : a = a' <;> by_cases h2 : b = b' <;> by_cases h3 : c = c' <;> by_cases h4 : d = d' <;> simp [h1, h2, h3, h4]
theorem neqP (p q : Pt) (w : World) : (binOp .neq 57 (.agg #[.bool p.1, .int .i64 p.2.1, .int .i64 p.2.2.1, .int .i64 p.2.2.2]) (.agg #[.bool q.1, .int .i64 q.2.1, .int .i64 q.2.2.1, .int .i64 q.2.2.2])).run Tryz.prog w = .ok (.bool (!decide (p = q))) w := by
  rw [run_neq_struct]
  have := run_equalP p q w
  simp only [pv] at this
  rw [this]
  rfl
end Go.Proofs.YthcgdgpflhdchaaGreatDoor.Ptlb

/- The document's answer for what is remembered: where it lies; what its New, Flush, Get do. -/
namespace Go.Proofs.YthcgdgpflhdchaaGreatDoor.Ptlb
open Go.Proofs.YthcgdgpflhdchaaGreatDoor.Pbase
open Go.RowKit Go.ChangeMaps
set_option linter.unusedVariables false

/-- The six cells of an entry. -/
def rc (x : En) : List Value := [.int .i64 x.1.1, .int .i64 x.1.2, .bool x.2.1.1, .int .i64 x.2.1.2.1, .int .i64 x.2.1.2.2.1, .int .i64 x.2.1.2.2.2]
def rcells (S : List En) : List Value := S.flatMap rc
theorem rcells_len (S : List En) : (rcells S).length = S.length * 6 := by
  induction S with
  | nil => rfl
  | cons x S ih =>
    have : rcells (x :: S) = rc x ++ rcells S := rfl
    rw [this, List.length_append, ih]
    simp [rc]; omega
theorem rcells_snoc (S : List En) (x : En) : rcells (S ++ [x]) = rcells S ++ rc x := by simp [rcells]
theorem rcells_get : ∀ (S : List En) (j c : Nat) (x : En), S[j]? = some x → c < 6 → (rcells S)[j * 6 + c]? = (rc x)[c]?
  | [], j, c, x, h, _ => by simp at h
  | y :: S, 0, c, x, h, hc => by
    simp at h
    subst h
    have e : rcells (y :: S) = rc y ++ rcells S := rfl
    rw [e, List.getElem?_append_left (by simp [rc]; omega)]
    simp
  | y :: S, j + 1, c, x, h, hc => by
    have := rcells_get S j c x (by simpa using h) hc
    have e : rcells (y :: S) = rc y ++ rcells S := rfl
    rw [e, List.getElem?_append_right (by simp [rc]; omega)]
    have e2 : (j + 1) * 6 + c - (rc y).length = j * 6 + c := by simp [rc]; omega
    rw [e2]
    exact this
/-- The document's Tlb lies behind the pointer to block q; its entries are S's, its list at ao; all in blocks from n₀ on. -/
structure RefIs (n₀ : Nat) (w : World) (q : Nat) (room : Int) (ao : Option Addr) (cap : Nat) (S : List En) : Prop where
  row : w.heap[q]? = some (.cells #[.slice ao S.length cap, .int .i64 room] 52 (0, 0))
  base : n₀ ≤ q
  capn : S.length ≤ cap
  held : (S = [] ∧ (ao = none ∨ ∃ a, ao = some a)) ∨ ∃ g off cur, ao = some ⟨g, off, none⟩ ∧ n₀ ≤ g ∧ w.heap[g]? = some (.cells cur 59 (0, 0)) ∧ ∀ t, t < S.length * 6 → cur[off + t]? = (rcells S)[t]?
theorem RefIs.cell {n₀ : Nat} {w : World} {q : Nat} {room : Int} {ao : Option Addr} {cap : Nat} {S : List En} (h : RefIs n₀ w q room ao cap S) : w.cell? ⟨q, 0, none⟩ = some (.slice ao S.length cap) := by
  rw [cell_of_row w q 0 _ _ _ h.row]; rfl
theorem RefIs.room {n₀ : Nat} {w : World} {q : Nat} {room : Int} {ao : Option Addr} {cap : Nat} {S : List En} (h : RefIs n₀ w q room ao cap S) : w.cell? ⟨q, 1, none⟩ = some (.int .i64 room) := by
  rw [cell_of_row w q 1 _ _ _ h.row]; rfl
theorem RefIs.free {n₀ : Nat} {w : World} {q : Nat} {room : Int} {ao : Option Addr} {cap : Nat} {S : List En} (h : RefIs n₀ w q room ao cap S) (j : Nat) : w.frozen? ⟨q, j, none⟩ = false := frozen_of_row w q j _ _ h.row
theorem RefIs.lt {n₀ : Nat} {w : World} {q : Nat} {room : Int} {ao : Option Addr} {cap : Nat} {S : List En} (h : RefIs n₀ w q room ao cap S) : q < w.heap.size := (Array.getElem?_eq_some_iff.1 h.row).1
/-- Entry j lies at ⟨g, off + j * 6⟩. -/
theorem RefIs.ent {n₀ : Nat} {w : World} {q : Nat} {room : Int} {ao : Option Addr} {cap : Nat} {S : List En} (h : RefIs n₀ w q room ao cap S) {j : Nat} {x : En} (hx : S[j]? = some x) :
    ∃ g off, ao = some ⟨g, off, none⟩ ∧ n₀ ≤ g ∧ g ≠ q ∧ g < w.heap.size ∧ (∀ c, c < 6 → w.cell? ⟨g, off + j * 6 + c, none⟩ = (rc x)[c]?) ∧ ∀ i, w.frozen? ⟨g, i, none⟩ = false := by
  have hj : j < S.length := (List.getElem?_eq_some_iff.1 hx).1
  rcases h.held with ⟨rfl, _⟩ | ⟨g, off, cur, e, hg, hr, hc⟩
  · simp at hj
  · refine ⟨g, off, e, hg, ?_, (Array.getElem?_eq_some_iff.1 hr).1, fun c hc6 => ?_, fun i => frozen_of_row w g i _ _ hr⟩
    · intro e2
      have := h.row
      rw [← e2, hr] at this
      cases this
    · rw [cell_of_row w g _ _ _ _ hr, Nat.add_assoc, hc (j * 6 + c) (by omega), rcells_get S j c x hx hc6]
/-- Blocks of the document's own alone were written, and blocks were made. -/
structure Other (w w' : World) : Prop where
  os : w'.os = w.os
  tape : w'.tape = w.tape
  output : w'.output = w.output
  size : w.heap.size ≤ w'.heap.size
  block : ∀ i, i < w.heap.size → (∀ c f, w.heap[i]? ≠ some (.cells c 52 f)) → (∀ c f, w.heap[i]? ≠ some (.cells c 59 f)) → w'.heap[i]? = w.heap[i]?
theorem Other.of_below {w w' : World} (h : Below w.heap.size w w') : Other w w' := ⟨h.os, h.tape, h.output, h.size, fun i hi _ _ => h.block i hi⟩
theorem TlbIs.other {w w' : World} {p b : Nat} {r : Int} {S : List En} (h : TlbIs w p b r S) (k : Other w w') : TlbIs w' p b r S := by
  refine h.on (k.block p h.lt (fun c f e => ?_) (fun c f e => ?_)) (k.block b h.map.lt (fun c f e => ?_) (fun c f e => ?_))
  · rw [h.row] at e; cases e
  · rw [h.row] at e; cases e
  · obtain ⟨es, clock, hb, _⟩ := h.map
    rw [hb] at e; cases e
  · obtain ⟨es, clock, hb, _⟩ := h.map
    rw [hb] at e; cases e
theorem RefIs.on {n₀ : Nat} {w w' : World} {q : Nat} {room : Int} {ao : Option Addr} {cap : Nat} {S : List En} (h : RefIs n₀ w q room ao cap S) (hq : w'.heap[q]? = w.heap[q]?) (hg : ∀ g off, ao = some ⟨g, off, none⟩ → ∀ c, w.heap[g]? = some (.cells c 59 (0, 0)) → w'.heap[g]? = w.heap[g]?) : RefIs n₀ w' q room ao cap S := by
  refine ⟨hq.trans h.row, h.base, h.capn, ?_⟩
  rcases h.held with h0 | ⟨g, off, cur, e, hb, hr, hc⟩
  · exact .inl h0
  · exact .inr ⟨g, off, cur, e, hb, (hg g off e cur hr).trans hr, hc⟩
theorem RefIs.more {n₀ : Nat} {w w' : World} {q : Nat} {room : Int} {ao : Option Addr} {cap : Nat} {S : List En} (h : RefIs n₀ w q room ao cap S) (k : Below w.heap.size w w') : RefIs n₀ w' q room ao cap S :=
  h.on (k.block q h.lt) (fun g off _ c hr => k.block g (Array.getElem?_eq_some_iff.1 hr).1)
theorem RefIs.but {n₀ : Nat} {w w' : World} {q b : Nat} {room : Int} {ao : Option Addr} {cap : Nat} {S S' : List En} (h : RefIs n₀ w q room ao cap S) (hM : MapIs w b S') (k : But b w w') : RefIs n₀ w' q room ao cap S := by
  obtain ⟨es, clock, hb, _⟩ := hM
  refine h.on (k.block q h.lt (fun e => ?_)) (fun g off _ c hr => k.block g (Array.getElem?_eq_some_iff.1 hr).1 (fun e => ?_))
  · have := h.row
    rw [e, hb] at this; cases this
  · rw [e, hb] at hr; cases hr
theorem RefIs.alloc {n₀ : Nat} {w : World} {q : Nat} {room : Int} {ao : Option Addr} {cap : Nat} {S : List En} (h : RefIs n₀ w q room ao cap S) (o : Obj) : RefIs n₀ (w.alloc o) q room ao cap S := h.more (bal (Below.refl _ _) _)
theorem RefIs.drew {n₀ : Nat} {w : World} {q : Nat} {room : Int} {ao : Option Addr} {cap : Nat} {S : List En} (h : RefIs n₀ w q room ao cap S) : RefIs n₀ w.drew q room ao cap S := h.on rfl (fun _ _ _ _ _ => rfl)
theorem RefIs.drewN {n₀ : Nat} {w : World} {q : Nat} {room : Int} {ao : Option Addr} {cap : Nat} {S : List En} (h : RefIs n₀ w q room ao cap S) (n : Nat) : RefIs n₀ (w.drewN n) q room ao cap S := h.on rfl (fun _ _ _ _ _ => rfl)

/-! ### New, Flush -/
set_option maxRecDepth 100000 in
theorem rnew_bad (r : Int) (w : World) (h : r < 0 ∨ 8 < r) :
    Calls Tryz.prog 6 #[.int .i64 r] w fun e w' => e = .returned (.tuple #[.pointer none, .int .i64 1]) ∧ w' = w := by
  rcases h with h | h
  · go_enter Tryz.func6, Tryz.ntmps6
    go_wp2
    go_ret2
    exact ⟨rfl, rfl⟩
  · have h0 : ¬ r < 0 := by omega
    go_enter Tryz.func6, Tryz.ntmps6
    go_wp2
    go_ret2
    exact ⟨rfl, rfl⟩
set_option maxRecDepth 100000 in
theorem rnew_ok (r : Int) (w : World) (h0 : 0 ≤ r) (h1 : r ≤ 8) :
    Calls Tryz.prog 6 #[.int .i64 r] w fun e w' => e = .returned (.tuple #[.pointer (some ⟨w.heap.size, 0, none⟩), .int .i64 0]) ∧ (∀ n₀, n₀ ≤ w.heap.size → RefIs n₀ w' w.heap.size r none 0 []) ∧ Below w.heap.size w w' := by
  have n0 : ¬ r < 0 := by omega
  have n1 : ¬ 8 < r := by omega
  go_enter Tryz.func6, Tryz.ntmps6
  go_wp2
  go_ret2
  exact ⟨rfl, fun n₀ hn => ⟨heap_alloc_new w _, hn, Nat.le_refl _, .inl ⟨rfl, .inl rfl⟩⟩, bal (Below.refl _ _) _⟩
set_option maxRecDepth 100000 in
theorem rflush_any (n₀ q cap : Nat) (room : Int) (ao : Option Addr) (S : List En) (w : World) (h : RefIs n₀ w q room ao cap S) :
    Calls Tryz.prog 12 #[.pointer (some ⟨q, 0, none⟩)] w fun e w' => e = .returned (.int .i64 S.length) ∧ RefIs n₀ w' q room none 0 [] ∧ Other w w' ∧ (∀ B, B ≤ n₀ → Below B w w') ∧ w'.heap.size = w.heap.size := by
  have c0 := h.cell
  have z0 := h.free 0
  have H : Hid (RefIs n₀ w q room ao cap S) := h
  clear h
  generalize S.length = N at c0 ⊢
  go_enter Tryz.func12, Tryz.ntmps12
  go_wp2
  go_ret
  have hw : w.setCell ⟨q, 0, none⟩ (.slice none 0 0) = w.setRow q #[.slice none 0 0, .int .i64 room] := by
    rw [setCell_eq_setRow w q _ _ _ _ _ H.out.row]; rfl
  refine ⟨rfl, ?_, ?_, ?_, by simp⟩
  · rw [hw]
    exact ⟨setRow_heap _ _ _ _ _ _ H.out.row, H.out.base, Nat.le_refl _, .inl ⟨rfl, .inl rfl⟩⟩
  · refine ⟨rfl, rfl, rfl, by simp, fun i hi h1 h2 => ?_⟩
    rw [hw]
    exact setRow_other w q i _ (fun e => h1 _ _ (e ▸ H.out.row))
  · intro B hB
    exact (Below.refl B w).setCell (p := ⟨q, 0, none⟩) (Nat.le_trans hB H.out.base) _
end Go.Proofs.YthcgdgpflhdchaaGreatDoor.Ptlb

/- What Get of the document's answer answers. -/
namespace Go.Proofs.YthcgdgpflhdchaaGreatDoor.Ptlb
open Go.Proofs.YthcgdgpflhdchaaGreatDoor.Pbase
open Go.RowKit Go.ChangeMaps
set_option linter.unusedVariables false

theorem eqlK (k l : Ky) (w : World) : (binOp .eql 55 (.agg #[.int .i64 k.1, .int .i64 k.2]) (.agg #[.int .i64 l.1, .int .i64 l.2])).run Tryz.prog w = .ok (.bool (decide (k = l))) w := by
  rw [run_eql_struct]
  have := run_equalK k l w
  simp only [kv, Op.equal, Op.maxDepth] at this
  rw [this]
  rfl
theorem neqK (k l : Ky) (w : World) : (binOp .neq 55 (.agg #[.int .i64 k.1, .int .i64 k.2]) (.agg #[.int .i64 l.1, .int .i64 l.2])).run Tryz.prog w = .ok (.bool (!decide (k = l))) w := by
  rw [run_neq_struct]
  have := run_equalK k l w
  simp only [kv, Op.equal, Op.maxDepth] at this
  rw [this]
  rfl
theorem none_before {S : List En} {k : Ky} {j : Nat} (h : ∀ l x, l < j → S[l]? = some x → x.1 ≠ k) (hj : S.length ≤ j) : hasK S k = false := by
  simp only [hasK, List.any_eq_false, decide_eq_true_eq]
  intro x hx
  obtain ⟨l, hl⟩ := List.getElem?_of_mem hx
  exact h l x (Nat.lt_of_lt_of_le (List.getElem?_eq_some_iff.1 hl).1 hj) hl
theorem first_at : ∀ {S : List En} {k : Ky} {j : Nat} {x : En}, (∀ l y, l < j → S[l]? = some y → y.1 ≠ k) → S[j]? = some x → x.1 = k → hasK S k = true ∧ ptK S k = x.2.1
  | [], _, _, _, _, hx, _ => by simp at hx
  | y :: S, k, 0, x, h, hx, e => by
    simp at hx
    subst hx
    simp [hasK, ptK, e]
  | y :: S, k, j + 1, x, h, hx, e => by
    have hy : y.1 ≠ k := h 0 y (by omega) rfl
    have := first_at (S := S) (k := k) (j := j) (x := x) (fun l z hl hz => h (l + 1) z (by omega) (by simpa using hz)) (by simpa using hx) e
    simpa [hasK, ptK, hy] using this
set_option maxHeartbeats 4000000 in
set_option maxRecDepth 100000 in
theorem rget_any (n₀ q cap : Nat) (room : Int) (ao : Option Addr) (S : List En) (k : Ky) (w : World) (h : RefIs n₀ w q room ao cap S) (hl : S.length ≤ 1000) :
    Calls Tryz.prog 31 #[.pointer (some ⟨q, 0, none⟩), .agg #[.int .i64 k.1, .int .i64 k.2]] w fun e w' => e = .returned (.tuple #[pv (ptK S k), .bool (hasK S k)]) ∧ Below w.heap.size w w' := by
  have H : Hid (RefIs n₀ w q room ao cap S) := h
  clear h
  obtain ⟨a, c⟩ := k
  obtain ⟨N, hN⟩ : ∃ N, N = S.length := ⟨_, rfl⟩
  have HN : Hid (N = S.length) := hN
  rw [← hN] at hl
  clear hN
  obtain ⟨q0, hq0⟩ : ∃ v, v = pv (ptK S (a, c)) := ⟨_, rfl⟩
  have HQ0 : Hid (q0 = pv (ptK S (a, c))) := hq0
  rw [← hq0]
  clear hq0
  obtain ⟨y0, hy0⟩ : ∃ v, v = hasK S (a, c) := ⟨_, rfl⟩
  have HY0 : Hid (y0 = hasK S (a, c)) := hy0
  rw [← hy0]
  clear hy0
  go_enter Tryz.func31, Tryz.ntmps31
  go_wp2
  obtain ⟨w1, hw1⟩ : ∃ w1, w1 = (w.alloc (.cells #[.int .i64 a, .int .i64 c] 55)).alloc (.cells #[.bool false, .int .i64 0, .int .i64 0, .int .i64 0] 57) := ⟨_, rfl⟩
  rw [← hw1]
  have HR1 : Hid (RefIs n₀ w1 q room ao cap S) := by rw [hw1]; exact (H.out.alloc _).alloc _
  have HB1 : Hid (Below w.heap.size w w1) := by rw [hw1]; exact bal (bal (Below.refl _ _) _) _
  have HK1 : Hid (w1.heap[w.heap.size]? = some (.cells #[.int .i64 a, .int .i64 c] 55 (0, 0))) := by
    rw [hw1]
    exact (Below.heap_alloc _ _ _ (by simp)).trans (heap_alloc_new w _)
  have HP1 : Hid (w1.heap[w.heap.size + 1]? = some (.cells #[.bool false, .int .i64 0, .int .i64 0, .int .i64 0] 57 (0, 0))) := by rw [hw1]; exact row_new2 _ _ _ _
  clear hw1
  go_loopw [6] (fun i wr => ∃ j : Nat, j ≤ N ∧ i = .int .i64 j ∧ (∀ l x, l < j → S[l]? = some x → x.1 ≠ (a, c)) ∧ RefIs n₀ wr q room ao cap S ∧ Below w.heap.size w wr ∧ wr.heap[w.heap.size]? = some (.cells #[.int .i64 a, .int .i64 c] 55 (0, 0)) ∧ wr.heap[w.heap.size + 1]? = some (.cells #[.bool false, .int .i64 0, .int .i64 0, .int .i64 0] 57 (0, 0))) (fun i _ => N - (intOf i).toNat)
  case atStart => exact ⟨0, by omega, rfl, fun l x hl => by omega, HR1.out, HB1.out, HK1.out, HP1.out⟩
  case round =>
    obtain ⟨j, hj, rfl, hne, hR, hB, hK, hP⟩ := hrel
    have HNE : Hid (∀ l x, l < j → S[l]? = some x → x.1 ≠ (a, c)) := hne
    have HR : Hid (RefIs n₀ wr q room ao cap S) := hR
    have HB : Hid (Below w.heap.size w wr) := hB
    have HK : Hid (wr.heap[w.heap.size]? = some (.cells #[.int .i64 a, .int .i64 c] 55 (0, 0))) := hK
    have HP : Hid (wr.heap[w.heap.size + 1]? = some (.cells #[.bool false, .int .i64 0, .int .i64 0, .int .i64 0] 57 (0, 0))) := hP
    clear hne hR hB hK hP HR1 HB1 HK1 HP1
    have c0 : wr.cell? ⟨q, 0, none⟩ = some (.slice ao N cap) := by rw [HN.out]; exact HR.out.cell
    have e0 : wr.cell? ⟨w.heap.size, 0, none⟩ = some (.int .i64 a) := by rw [cell_of_row wr _ 0 _ _ _ HK.out]; rfl
    have e1 : wr.cell? ⟨w.heap.size, 1, none⟩ = some (.int .i64 c) := by rw [cell_of_row wr _ 1 _ _ _ HK.out]; rfl
    have p0 : wr.cell? ⟨w.heap.size + 1, 0, none⟩ = some (.bool false) := by rw [cell_of_row wr _ 0 _ _ _ HP.out]; rfl
    have p1 : wr.cell? ⟨w.heap.size + 1, 1, none⟩ = some (.int .i64 0) := by rw [cell_of_row wr _ 1 _ _ _ HP.out]; rfl
    have p2 : wr.cell? ⟨w.heap.size + 1, 2, none⟩ = some (.int .i64 0) := by rw [cell_of_row wr _ 2 _ _ _ HP.out]; rfl
    have p3 : wr.cell? ⟨w.heap.size + 1, 3, none⟩ = some (.int .i64 0) := by rw [cell_of_row wr _ 3 _ _ _ HP.out]; rfl
    have z0 := frozen_of_row wr (w.heap.size + 1) 0 _ _ HP.out
    have z1 := frozen_of_row wr (w.heap.size + 1) 1 _ _ HP.out
    have z2 := frozen_of_row wr (w.heap.size + 1) 2 _ _ HP.out
    have z3 := frozen_of_row wr (w.heap.size + 1) 3 _ _ HP.out
    by_cases hlt : j < N
    · have hji : (j : Int) < (N : Int) := by omega
      obtain ⟨x, hx⟩ : ∃ x, S[j]? = some x := ⟨S[j]'(by rw [← HN.out]; exact hlt), List.getElem?_eq_getElem _⟩
      obtain ⟨g, off, rfl, hg, hgq, hgl, hc, hz⟩ := HR.out.ent hx
      have HX : Hid (S[j]? = some x) := hx
      clear hx hz hgq hg
      obtain ⟨⟨k1, k2⟩, ⟨u0, u1, u2, u3⟩, tt⟩ := x
      have g0 : wr.cell? ⟨g, off + j * 6, none⟩ = some (.int .i64 k1) := hc 0 (by omega)
      have g1 : wr.cell? ⟨g, off + j * 6 + 1, none⟩ = some (.int .i64 k2) := hc 1 (by omega)
      have g2 : wr.cell? ⟨g, off + j * 6 + 2, none⟩ = some (.bool u0) := hc 2 (by omega)
      have g3 : wr.cell? ⟨g, off + j * 6 + 3, none⟩ = some (.int .i64 u1) := hc 3 (by omega)
      have g4 : wr.cell? ⟨g, off + j * 6 + 4, none⟩ = some (.int .i64 u2) := hc 4 (by omega)
      have g5 : wr.cell? ⟨g, off + j * 6 + 5, none⟩ = some (.int .i64 u3) := hc 5 (by omega)
      clear hc
      by_cases he : k1 = a ∧ k2 = c
      · obtain ⟨rfl, rfl⟩ := he
        have heq : ∀ w, (binOp .eql 55 (.agg #[.int .i64 k1, .int .i64 k2]) (.agg #[.int .i64 k1, .int .i64 k2])).run Tryz.prog w = .ok (.bool true) w := fun w => by have := eqlK (k1, k2) (k1, k2) w; simpa using this
        have HF := first_at HNE.out HX.out rfl
        have HF1 : Hid (hasK S (k1, k2) = true) := HF.1
        have HF2 : Hid (ptK S (k1, k2) = (u0, u1, u2, u3)) := HF.2
        clear HF
        go_wp2
        go_quiet (fail)
        go_wp2
        exact bodyPost_ret (v := .tuple #[.agg #[.bool u0, .int .i64 u1, .int .i64 u2, .int .i64 u3], .bool true]) (by simp [results, Tryz.results31, go_sem, p0, p1, p2, p3]) rfl
          ⟨by rw [HQ0.out, HY0.out, HF1.out, HF2.out]; rfl, bst (bst (bst (bst (below_drewN HB.out _) (by omega) _ _) (by omega) _ _) (by omega) _ _) (by omega) _ _⟩
      · have hde : decide ((k1, k2) = (a, c)) = false := by simpa using he
        have heq : ∀ w, (binOp .eql 55 (.agg #[.int .i64 k1, .int .i64 k2]) (.agg #[.int .i64 a, .int .i64 c])).run Tryz.prog w = .ok (.bool false) w := fun w => by have := eqlK (k1, k2) (a, c) w; rwa [hde] at this
        have HE : Hid (¬ (k1 = a ∧ k2 = c)) := he
        clear hde he
        go_wp2
        go_quiet (fail)
        obtain ⟨w5, hw5⟩ : ∃ w5, w5 = wr.drewN nq := ⟨_, rfl⟩
        rw [← hw5]
        have HR5 : Hid (RefIs n₀ w5 q room (some ⟨g, off, none⟩) cap S) := by rw [hw5]; exact HR.out.drewN _
        have HB5 : Hid (Below w.heap.size w w5) := by rw [hw5]; exact below_drewN HB.out _
        have HK5 : Hid (w5.heap[w.heap.size]? = some (.cells #[.int .i64 a, .int .i64 c] 55 (0, 0))) := by rw [hw5]; exact HK.out
        have HP5 : Hid (w5.heap[w.heap.size + 1]? = some (.cells #[.bool false, .int .i64 0, .int .i64 0, .int .i64 0] 57 (0, 0))) := by rw [hw5]; exact HP.out
        clear hw5
        go_wp2
        go_roundw
        case rel =>
          refine ⟨j + 1, by omega, by go_num, fun l x hlx hx => ?_, HR5.out, HB5.out, HK5.out, HP5.out⟩
          by_cases e : l = j
          · subst e
            have := HX.out
            rw [hx] at this
            cases this
            intro e2
            exact HE.out (by simpa using e2)
          · exact HNE.out l x (by omega) hx
        case measure => simp [intOf]; omega
    · obtain rfl : j = N := by omega
      have hji : ¬ (j : Int) < (j : Int) := by omega
      have HH : Hid (hasK S (a, c) = false) := none_before HNE.out (by rw [← HN.out]; exact Nat.le_refl _)
      have HPT : Hid (ptK S (a, c) = pt0) := (findS_none S (a, c) 0 HH.out).2.1
      go_wp2
      exact bodyPost_ret (v := .tuple #[.agg #[.bool false, .int .i64 0, .int .i64 0, .int .i64 0], .bool false]) (by simp [results, Tryz.results31, go_sem, p0, p1, p2, p3]) rfl
        ⟨by rw [HQ0.out, HY0.out, HH.out, HPT.out]; rfl, bst (bst (bst (bst HB.out (by omega) _ _) (by omega) _ _) (by omega) _ _) (by omega) _ _⟩
end Go.Proofs.YthcgdgpflhdchaaGreatDoor.Ptlb

/- Entries of the document's answer: one is written; a list of them is made anew: what lies in memory then. -/
namespace Go.Proofs.YthcgdgpflhdchaaGreatDoor.Ptlb
open Go.Proofs.YthcgdgpflhdchaaGreatDoor.Pbase
open Go.RowKit Go.ChangeMaps
set_option linter.unusedVariables false

theorem putM_at : ∀ {S : List En} {k : Ky} {j : Nat} {x : En} (p : Pt) (t : Int), (∀ l y, l < j → S[l]? = some y → y.1 ≠ k) → S[j]? = some x → x.1 = k → putM S k p t = S.set j (k, p, t)
  | [], _, _, _, _, _, _, hx, _ => by simp at hx
  | y :: S, k, 0, x, p, t, h, hx, e => by
    simp at hx
    subst hx
    simp [putM, e]
  | y :: S, k, j + 1, x, p, t, h, hx, e => by
    have hy : y.1 ≠ k := h 0 y (by omega) rfl
    have := putM_at (S := S) (k := k) (j := j) (x := x) p t (fun l z hl hz => h (l + 1) z (by omega) (by simpa using hz)) (by simpa using hx) e
    simp [putM, hy, this]
theorem putS_at {S : List En} {R : Nat} (hl : S.length ≤ R) {k : Ky} {j : Nat} {x : En} (p : Pt) (h : ∀ l y, l < j → S[l]? = some y → y.1 ≠ k) (hx : S[j]? = some x) (e : x.1 = k) : putS R S k p = S.set j (k, p, turnS S k) := by
  unfold putS
  rw [putM_at p _ h hx e, List.length_set, if_neg (by omega)]
theorem putS_none {S : List En} {R : Nat} {k : Ky} (p : Pt) (h : hasK S k = false) : putS R S k p = if R < S.length + 1 then (S ++ [(k, p, turnS S k)]).tail else S ++ [(k, p, turnS S k)] := by
  unfold putS
  rw [put_none k p _ S h]
  simp
theorem RefIs.set4 {n₀ : Nat} {w : World} {q g off cap : Nat} {room : Int} {S : List En} (h : RefIs n₀ w q room (some ⟨g, off, none⟩) cap S) {j : Nat} {x : En} (hx : S[j]? = some x) (p0 : Bool) (p1 p2 p3 t : Int) :
    RefIs n₀ ((((w.setCell ⟨g, off + j * 6 + 2, none⟩ (.bool p0)).setCell ⟨g, off + j * 6 + 3, none⟩ (.int .i64 p1)).setCell ⟨g, off + j * 6 + 4, none⟩ (.int .i64 p2)).setCell ⟨g, off + j * 6 + 5, none⟩ (.int .i64 p3)) q room (some ⟨g, off, none⟩) cap (S.set j (x.1, (p0, p1, p2, p3), t)) := by
  have hj : j < S.length := (List.getElem?_eq_some_iff.1 hx).1
  obtain ⟨g', off', e0, hg, hgq, hgl, hc6, hz⟩ := h.ent hx
  simp at e0
  obtain ⟨rfl, rfl⟩ := e0
  rcases h.held with ⟨rfl, _⟩ | ⟨g', off', cur, e1, hg1, hr, hc⟩
  · simp at hj
  · simp at e1
    obtain ⟨rfl, rfl⟩ := e1
    have hw := setCell_eq_setRow w g (off + j * 6 + 2) _ _ _ (.bool p0) hr
    have r1 := setRow_heap w g _ (cur.setIfInBounds (off + j * 6 + 2) (.bool p0)) _ _ hr
    rw [hw, setCell_eq_setRow _ g _ _ _ _ _ r1, setRow_setRow]
    have r2 := setRow_heap w g _ ((cur.setIfInBounds (off + j * 6 + 2) (.bool p0)).setIfInBounds (off + j * 6 + 3) (.int .i64 p1)) _ _ hr
    rw [setCell_eq_setRow _ g _ _ _ _ _ r2, setRow_setRow]
    have r3 := setRow_heap w g _ (((cur.setIfInBounds (off + j * 6 + 2) (.bool p0)).setIfInBounds (off + j * 6 + 3) (.int .i64 p1)).setIfInBounds (off + j * 6 + 4) (.int .i64 p2)) _ _ hr
    rw [setCell_eq_setRow _ g _ _ _ _ _ r3, setRow_setRow]
    have r4 := setRow_heap w g _ ((((cur.setIfInBounds (off + j * 6 + 2) (.bool p0)).setIfInBounds (off + j * 6 + 3) (.int .i64 p1)).setIfInBounds (off + j * 6 + 4) (.int .i64 p2)).setIfInBounds (off + j * 6 + 5) (.int .i64 p3)) _ _ hr
    have hsz : ∀ i, i < S.length * 6 → off + i < cur.size := fun i hi => by
      have h1 := hc i hi
      have h2 : (rcells S)[i]? ≠ none := by
        intro e
        have := List.getElem?_eq_none_iff.1 e
        rw [rcells_len] at this
        omega
      rw [← h1] at h2
      exact Nat.lt_of_not_le (fun hle => h2 (Array.getElem?_eq_none hle))
    refine ⟨?_, h.base, by simpa using h.capn, .inr ⟨g, off, _, rfl, hg1, r4, fun t' ht' => ?_⟩⟩
    · rw [setRow_other _ _ _ _ (Ne.symm hgq), h.row]
      simp
    · simp only [List.length_set] at ht'
      have hS : ∀ l y, S[l]? = some y → l ≠ j → (S.set j (x.1, (p0, p1, p2, p3), t))[l]? = some y := fun l y hl hne => by
        rw [List.getElem?_set_ne (Ne.symm hne)]; exact hl
      have hSj : (S.set j (x.1, (p0, p1, p2, p3), t))[j]? = some (x.1, (p0, p1, p2, p3), t) := by
        simp [hj]
      obtain ⟨l, c, rfl, hc⟩ : ∃ l c, t' = l * 6 + c ∧ c < 6 := ⟨t' / 6, t' % 6, by omega, by omega⟩
      have hl : l < S.length := by omega
      have b2 := hsz (j * 6 + 2) (by omega)
      have b3 := hsz (j * 6 + 3) (by omega)
      have b4 := hsz (j * 6 + 4) (by omega)
      have b5 := hsz (j * 6 + 5) (by omega)
      have hold : cur[off + (l * 6 + c)]? = (rc (S[l]))[c]? := by
        rw [‹∀ t, t < S.length * 6 → cur[off + t]? = (rcells S)[t]?› (l * 6 + c) (by omega), rcells_get S l c S[l] (List.getElem?_eq_getElem hl) hc]
      by_cases hlj : l = j
      · subst hlj
        rw [rcells_get _ l c _ hSj hc]
        have hxx : S[l] = x := (List.getElem?_eq_some_iff.1 hx).2
        rw [hxx] at hold
        match c, hc with
        | 0, _ =>
          simp only [Array.getElem?_setIfInBounds]
          rw [if_neg (by omega), if_neg (by omega), if_neg (by omega), if_neg (by omega), hold]; rfl
        | 1, _ =>
          simp only [Array.getElem?_setIfInBounds]
          rw [if_neg (by omega), if_neg (by omega), if_neg (by omega), if_neg (by omega), hold]; rfl
        | 2, _ =>
          simp only [Array.getElem?_setIfInBounds, Array.size_setIfInBounds]
          rw [if_neg (by omega), if_neg (by omega), if_neg (by omega), if_pos (by omega), if_pos (by omega)]; rfl
        | 3, _ =>
          simp only [Array.getElem?_setIfInBounds, Array.size_setIfInBounds]
          rw [if_neg (by omega), if_neg (by omega), if_pos (by omega), if_pos (by omega)]; rfl
        | 4, _ =>
          simp only [Array.getElem?_setIfInBounds, Array.size_setIfInBounds]
          rw [if_neg (by omega), if_pos (by omega), if_pos (by omega)]; rfl
        | 5, _ =>
          simp only [Array.getElem?_setIfInBounds, Array.size_setIfInBounds]
          rw [if_pos (by omega), if_pos (by omega)]; rfl
      · rw [rcells_get _ l c S[l] (hS l _ (List.getElem?_eq_getElem hl) hlj) hc]
        simp only [Array.getElem?_setIfInBounds]
        rw [if_neg (by omega), if_neg (by omega), if_neg (by omega), if_neg (by omega), hold]
/-- A list of entries of the call's own, laid into the document's Tlb. -/
theorem RefIs.lay {n₀ : Nat} {w w5 : World} {q cap : Nat} {room : Int} {ao : Option Addr} {S S' : List En} (h : RefIs n₀ w q room ao cap S) (hn : n₀ ≤ w.heap.size) (hq : w5.heap[q]? = w.heap[q]?) {g c5 : Nat} (ho : w5.ownsRow w.heap.size 59 6 (.slice (some ⟨g, 0, none⟩) S'.length c5) S'.length (rcells S')) :
    RefIs n₀ (w5.setCell ⟨q, 0, none⟩ (.slice (some ⟨g, 0, none⟩) S'.length c5)) q room (some ⟨g, 0, none⟩) c5 S' := by
  rcases ho.2 with ⟨e0, _⟩ | ⟨g', cap', cur, e0, hbg, hg, hnc, hcm, hcs, htake⟩
  · cases e0
  · cases e0
    have hr := hq.trans h.row
    have hlt := h.lt
    have hgq : g ≠ q := by omega
    rw [setCell_eq_setRow w5 q 0 _ _ _ _ hr]
    refine ⟨setRow_heap _ _ _ _ _ _ hr, h.base, hnc, .inr ⟨g, 0, cur, rfl, by omega, (setRow_other _ _ _ _ hgq).trans hg, fun t ht => ?_⟩⟩
    rw [Nat.zero_add, ← htake, List.getElem?_take, if_pos ht, Array.getElem?_toList]
/-- The first entry is left out. -/
theorem RefIs.tail {n₀ : Nat} {w : World} {q g off cap : Nat} {room : Int} {x : En} {S : List En} (h : RefIs n₀ w q room (some ⟨g, off, none⟩) cap (x :: S)) :
    RefIs n₀ (w.setCell ⟨q, 0, none⟩ (.slice (some ⟨g, off + 6, none⟩) S.length (cap - 1))) q room (some ⟨g, off + 6, none⟩) (cap - 1) S := by
  obtain ⟨g', off', e0, hg, hgq, hgl, hc6, hz⟩ := h.ent (j := 0) (x := x) rfl
  simp at e0
  obtain ⟨rfl, rfl⟩ := e0
  have hcap := h.capn
  rcases h.held with ⟨e, _⟩ | ⟨g', off', cur, e1, hg1, hr, hc⟩
  · cases e
  · simp at e1
    obtain ⟨rfl, rfl⟩ := e1
    rw [setCell_eq_setRow w q 0 _ _ _ _ h.row]
    refine ⟨setRow_heap _ _ _ _ _ _ h.row, h.base, by simp at hcap; omega, .inr ⟨g, off + 6, cur, rfl, hg1, (setRow_other _ _ _ _ hgq).trans hr, fun t ht => ?_⟩⟩
    have := hc (6 + t) (by simp; omega)
    rw [← Nat.add_assoc] at this
    rw [this]
    have e : rcells (x :: S) = rc x ++ rcells S := rfl
    rw [e, List.getElem?_append_right (by simp [rc])]
    congr 1
    simp [rc]
set_option maxRecDepth 100000 in
theorem infoEnt : (Tryz.prog.info? 59).map (fun i => (i.zero, i.size, i.bytes)) = some (some (.agg #[.int .i64 0, .int .i64 0, .bool false, .int .i64 0, .int .i64 0, .int .i64 0]), 6, 48) := by kernel_rfl
end Go.Proofs.YthcgdgpflhdchaaGreatDoor.Ptlb

/- What Put of the document's answer does. -/
namespace Go.Proofs.YthcgdgpflhdchaaGreatDoor.Ptlb
open Go.Proofs.YthcgdgpflhdchaaGreatDoor.Pbase
open Go.RowKit Go.ChangeMaps
set_option linter.unusedVariables false

theorem run_append_none {P : Program} (w : World) (t ty e : TypeId) (i : TypeInfo) (ht : P.underlying t = some (.slice e)) (hi : P.info? e = some i) (g n cap c : Nat) (hn : n ≤ cap) :
    (Builtin.append_ #[t, t] ty #[.slice (some ⟨g, 0, none⟩) n cap, .slice none 0 c]).run P w = .ok (.slice (some ⟨g, 0, none⟩) n cap) w := by
  simp [Builtin.append_, run_underlying ht, sizeOf, typeInfo, hi, Builtin.lenOf, Builtin.firstCells, loadCells, hn, storeCells]
theorem step_append_list {P : Program} {ops : Array Oper} {o : Oper} {a : Act} {w : World} {K : Act → World → Prop} {Q : Exit → Act → World → Prop} {E : Prop}
    (hg : o.guard = none) (s x : Operand) (t : TypeId) (hop : o.op = Op.call { callee := Callee.builtin Builtin.append, args := #[s, x], argTypes := #[t, t] })
    (base : Nat) (e : TypeId) (i : TypeInfo) (z : Value) (size bytes : Nat) (h1 : P.underlying t = some (.slice e)) (h2 : P.info? e = some i) (h3 : i.zero = some z) (h4 : i.size = size) (h5 : i.bytes = bytes) (h6 : z.cells.size = size) (h7 : 0 < size)
    (g n cap : Nat) (xs : List Value) (hs : a.eval s = .slice (some ⟨g, 0, none⟩) n cap) (hown : w.ownsRow base e size (.slice (some ⟨g, 0, none⟩) n cap) n xs)
    (ao : Option Addr) (m c : Nat) (news : List Value) (hx : a.eval x = .slice ao m c) (hn : news.length = m * size) (hc : ∀ b, ao = some b → ∀ j u, news[j]? = some u → w.cell? (b.add j) = some u) (hnone : ao = none → m = 0) (h1c : ∀ u ∈ news, u.oneCell' = true)
    (b1 : n + m ≤ maxLen) (b2 : (n + m) * bytes ≤ 140737488355328) (hbase : base ≤ w.heap.size)
    (hK : ∀ g' cap' w', w'.ownsRow base e size (.slice (some ⟨g', 0, none⟩) (n + m) cap') (n + m) (xs ++ news) → w.grownBy w' (some g) → K (a.put o.dst (.slice (some ⟨g', 0, none⟩) (n + m) cap')) w') :
    if Region.wanted o (yielded ops a.tmps) = true then Oper.wp P o a w K Q else E := by
  have hw : Region.wanted o (yielded ops a.tmps) = true := by simp [Region.wanted, hg]
  rw [if_pos hw]
  cases ao with
  | some b =>
    obtain ⟨v', w', hrun, r1, r2, r3⟩ := run_append_own (P := P) w base t o.type e i z size bytes h1 h2 h3 h4 h5 h6 h7 _ n xs hown b m c news hn (hc b rfl) h1c b1 b2 hbase
    have hv : ∃ g' cap', v' = .slice (some ⟨g', 0, none⟩) (n + m) cap' := by
      rcases r1.2 with ⟨e0, _⟩ | ⟨g', cap', cur, e0, _⟩
      · exact absurd (r3.1 e0).1 (by simp)
      · exact ⟨g', cap', e0⟩
    obtain ⟨g', cap', rfl⟩ := hv
    unfold Oper.wp
    simp [execOp, hop, resolve, invoke, builtin, hs, hx, hrun, Result.andThen]
    exact hK g' cap' w' r1 r2
  | none =>
    obtain rfl := hnone rfl
    obtain rfl : news = [] := List.eq_nil_of_length_eq_zero (by simpa using hn)
    have hcap : n ≤ cap := by
      rcases hown.2 with ⟨e0, _⟩ | ⟨g', cap', cur, e0, _, _, hle, _⟩
      · cases e0
      · cases e0
        exact hle
    have hrun := run_append_none (P := P) w t o.type e i h1 h2 g n cap c hcap
    have hk := hK g cap w (by simpa using hown) ⟨rfl, rfl, rfl, Nat.le_refl _, fun _ _ _ => rfl⟩
    unfold Oper.wp
    simp [execOp, hop, resolve, invoke, builtin, hs, hx, hrun, Result.andThen]
    simp only [Nat.add_zero] at hk
    exact hk

theorem other_set {w : World} {g : Nat} {c : Array Value} {t : TypeId} {f : Nat × Nat} (hr : w.heap[g]? = some (.cells c t f)) (ht : t = 52 ∨ t = 59) {w' : World} (h1 : w'.os = w.os) (h2 : w'.tape = w.tape) (h3 : w'.output = w.output) (h4 : w'.heap.size = w.heap.size) (h5 : ∀ i, i ≠ g → w'.heap[i]? = w.heap[i]?) : Other w w' :=
  ⟨h1, h2, h3, Nat.le_of_eq h4.symm, fun i hi a b => h5 i (fun e => by
    subst e
    rcases ht with rfl | rfl
    · exact a _ _ hr
    · exact b _ _ hr)⟩
theorem Other.trans {a b c : World} (h : Other a b) (k : Other b c) : Other a c :=
  ⟨k.os.trans h.os, k.tape.trans h.tape, k.output.trans h.output, Nat.le_trans h.size k.size, fun i hi x y => by
    have e := h.block i hi x y
    exact (k.block i (Nat.lt_of_lt_of_le hi h.size) (fun c f => by rw [e]; exact x c f) (fun c f => by rw [e]; exact y c f)).trans e⟩
end Go.Proofs.YthcgdgpflhdchaaGreatDoor.Ptlb

/- The document's Put, its new list: one statement whose order Go leaves open, in every order. -/
namespace Go.Proofs.YthcgdgpflhdchaaGreatDoor.Ptlb
open Go.Proofs.YthcgdgpflhdchaaGreatDoor.Pbase
open Go.RowKit Go.ChangeMaps
set_option linter.unusedVariables false

theorem at_of_drop {ops : Array Oper} {i : Nat} {oi : Oper} {tl : List Oper} (h : ops.toList.drop i = oi :: tl) : ops[i]? = some oi := by
  have h1 : (ops.toList.drop i)[0]? = some oi := by rw [h]; rfl
  rw [List.getElem?_drop] at h1
  simpa using h1
/-- Operation i yields its value in every world that meets S: it is taken first. -/
theorem takeV {P : Program} {ops : Array Oper} {Q : Exit → Act → World → Prop} {md : Region.Mode} {S : World → Prop} {i : Nat} {oi : Oper} {tl : List Oper} {v : Value} {fuel : Nat} {listed : Array Bool} {a : Act} {w : World}
    (hi : ops.toList.drop i = oi :: tl) (hs : Region.noSelect ops = true) (hf : Region.free md ops listed i = true) (hr : (Region.ready md ops listed).contains i = true)
    (hQ : ∀ c a w, Q (.panic c) (a.put oi.dst v) w → Q (.panic c) a w) (hw : Region.wanted oi (yielded ops a.tmps) = true) (hS : S w)
    (hy : ∀ w, S w → (execOp a.eval oi).run P w = .ok (.value v) w)
    (h : wpAnyH P md ops Q S fuel (listed.setIfInBounds i true) (a.put oi.dst v) w) : wpAnyH P md ops Q S (fuel + 1) listed a w :=
  wpAnyH_take (at_of_drop hi) hs hf hr hQ (Or.inl ⟨hw, hy⟩) hS h
/-- Operation i alone may come up. -/
theorem stepOne {P : Program} {ops : Array Oper} {Q : Exit → Act → World → Prop} {md : Region.Mode} {S : World → Prop} {i : Nat} {oi : Oper} {tl : List Oper} {fuel : Nat} {listed : Array Bool} {a : Act} {w : World}
    (hi : ops.toList.drop i = oi :: tl) (hr : Region.ready md ops listed = [i])
    (h : ∀ K' : Act → World → Prop, Shut (∀ a w, S w → (S w → wpAnyH P md ops Q S fuel (listed.setIfInBounds i true) a w) → K' a w) → if Region.wanted oi (yielded ops a.tmps) = true then Oper.wp P oi a w K' Q else K' (a.put oi.dst undef) w) :
    wpAnyH P md ops Q S (fuel + 1) listed a w :=
  wpAnyH_ready hr (by simp) (AllReadyH.cons (at_of_drop hi) h AllReadyH.nil)
/-- Operation i is one of those that may come up. -/
theorem consOne {P : Program} {ops : Array Oper} {Q : Exit → Act → World → Prop} {md : Region.Mode} {S : World → Prop} {i : Nat} {oi : Oper} {tl : List Oper} {fuel : Nat} {listed : Array Bool} {a : Act} {w : World} {rs : List Nat}
    (hi : ops.toList.drop i = oi :: tl)
    (h : ∀ K' : Act → World → Prop, Shut (∀ a w, S w → (S w → wpAnyH P md ops Q S fuel (listed.setIfInBounds i true) a w) → K' a w) → if Region.wanted oi (yielded ops a.tmps) = true then Oper.wp P oi a w K' Q else K' (a.put oi.dst undef) w)
    (hs : AllReadyH P md ops Q S fuel listed a w rs) : AllReadyH P md ops Q S fuel listed a w (i :: rs) := AllReadyH.cons (at_of_drop hi) h hs
theorem RefIs.src {n₀ : Nat} {w : World} {q : Nat} {room : Int} {ao : Option Addr} {cap : Nat} {S : List En} (h : RefIs n₀ w q room ao cap S) : ∀ b, ao = some b → ∀ j u, (rcells S)[j]? = some u → w.cell? (b.add j) = some u := by
  intro b hb j u hu
  rcases h.held with ⟨rfl, _⟩ | ⟨g, off, cur, e, hg, hr, hc⟩
  · simp [rcells] at hu
  · rw [e] at hb
    cases hb
    have hj : j < S.length * 6 := by
      rw [← rcells_len]
      exact (List.getElem?_eq_some_iff.1 hu).1
    rw [Addr.add_lit, cell_of_row w g _ _ _ _ hr, hc j hj]
    exact hu
theorem RefIs.nil {n₀ : Nat} {w : World} {q : Nat} {room : Int} {ao : Option Addr} {cap : Nat} {S : List En} (h : RefIs n₀ w q room ao cap S) (e : ao = none) : S.length = 0 := by
  rcases h.held with ⟨rfl, _⟩ | ⟨g, off, cur, e', _⟩
  · rfl
  · rw [e] at e'
    cases e'
/-- Region n of a text. -/
def regionOf (n : Nat) : Code → Option Code
  | .region id ops d => if id = n then some (.region id ops d) else none
  | .seq a b => match regionOf n a with
    | some c => some c
    | none => regionOf n b
  | .block _ c => regionOf n c
  | .loop c => regionOf n c
  | .cond _ a b => match regionOf n a with
    | some c => some c
    | none => regionOf n b
  | _ => none
theorem rcells_one (S : List En) : ∀ u ∈ rcells S, u.oneCell' = true := by
  intro u hu
  simp only [rcells, List.mem_flatMap] at hu
  obtain ⟨x, _, hx⟩ := hu
  simp [rc] at hx
  rcases hx with rfl | rfl | rfl | rfl | rfl | rfl <;> rfl
theorem own_empty (w : World) {base : Nat} (hb : base ≤ w.heap.size) : (w.alloc (.cells #[] 59)).ownsRow base 59 6 (.slice (some ⟨w.heap.size, 0, none⟩) 0 0) 0 [] :=
  World.ownsRow_made w #[] 0 hb (by decide) rfl
theorem six_cells {w : World} {b : Nat} {x0 x1 x2 x3 x4 x5 : Value} {t : TypeId} (h : w.heap[b]? = some (.cells #[x0, x1, x2, x3, x4, x5] t (0, 0))) : ∀ ad, some (⟨b, 0, none⟩ : Addr) = some ad → ∀ j u, [x0, x1, x2, x3, x4, x5][j]? = some u → w.cell? (ad.add j) = some u := by
  intro ad e j u hj
  cases e
  rw [Addr.add_lit, Nat.zero_add, cell_of_row w b j _ _ _ h]
  have : #[x0, x1, x2, x3, x4, x5][j]? = [x0, x1, x2, x3, x4, x5][j]? := by simp
  rw [this]
  exact hj
set_option maxRecDepth 1000000 in
set_option maxHeartbeats 16000000 in
theorem region6 (q kb pb N cap : Nat) (ao : Option Addr) (S : List En) (a c : Int) (q0 : Bool) (q1 q2 q3 : Int) (w : World) (Q : Exit → Act → World → Prop)
    (u1 u2 u3 u6 u7 u8 u9 u10 u11 u12 u13 u14 u15 u16 u17 u18 u19 u20 u21 u22 u23 u24 u25 u26 u27 u28 u29 u30 u31 u32 u33 u34 u35 u36 u37 u38 u39 u40 u41 u42 u43 u44 u45 u46 u47 u48 u49 u50 u51 u52 u53 u54 u55 u56 u57 u58 u59 u60 u61 u62 u63 u64 u65 : Value)
    (HN : Hid (N = S.length)) (hN8 : N ≤ 8) (hq : q < w.heap.size) (hqk : q ≠ kb) (hqp : q ≠ pb)
    (hc0 : Hid (w.cell? ⟨q, 0, none⟩ = some (.slice ao N cap))) (hz0 : Hid (w.frozen? ⟨q, 0, none⟩ = false))
    (hsB : Hid (∀ w', Below w.heap.size w w' → ∀ b, ao = some b → ∀ j u, (rcells S)[j]? = some u → w'.cell? (b.add j) = some u)) (hnone : Hid (ao = none → N = 0))
    (hkey : Hid (w.cell? ⟨kb, 0, none⟩ = some (.int .i64 a) ∧ w.cell? ⟨kb, 1, none⟩ = some (.int .i64 c) ∧ w.cell? ⟨pb, 0, none⟩ = some (.bool q0) ∧ w.cell? ⟨pb, 1, none⟩ = some (.int .i64 q1) ∧ w.cell? ⟨pb, 2, none⟩ = some (.int .i64 q2) ∧ w.cell? ⟨pb, 3, none⟩ = some (.int .i64 q3)))
    (hQ : Hid (∀ (v34 v35 v36 v37 v38 v39 v40 v41 v42 v43 v44 v45 v46 v47 : Value) (g6 c6 : Nat) (w6 : World), w6.ownsRow w.heap.size 59 6 (.slice (some ⟨g6, 0, none⟩) (N + 1) c6) (N + 1) (rcells S ++ [.int .i64 a, .int .i64 c, .bool q0, .int .i64 q1, .int .i64 q2, .int .i64 q3]) → Below w.heap.size w w6 →
      Q .normal ⟨#[.pointer (some ⟨q, 0, none⟩), u1, u2, u3, .pointer (some ⟨kb, 0, none⟩), .pointer (some ⟨pb, 0, none⟩), u6, u7, u8, u9, u10, u11, u12, u13, u14, u15, u16, u17, u18, u19, u20, u21, u22, u23, u24, u25, u26, u27, u28, u29, u30, u31, u32, u33, v34, v35, v36, v37, v38, v39, v40, v41, v42, v43, v44, v45, v46, v47, u48, u49, u50, u51, u52, u53, u54, u55, u56, u57, u58, u59, u60, u61, u62, u63, u64, u65], []⟩ (w6.setCell ⟨q, 0, none⟩ (.slice (some ⟨g6, 0, none⟩) (N + 1) c6))))
    (hpan : Hid (∀ c a (d : Option Tmp) (v : Value) w, Q (.panic c) (a.put d v) w → Q (.panic c) a w)) :
    Code.wp Tryz.prog ((Tryz.f33.body.bind (regionOf 6)).getD .skip) Q ⟨#[.pointer (some ⟨q, 0, none⟩), u1, u2, u3, .pointer (some ⟨kb, 0, none⟩), .pointer (some ⟨pb, 0, none⟩), u6, u7, u8, u9, u10, u11, u12, u13, u14, u15, u16, u17, u18, u19, u20, u21, u22, u23, u24, u25, u26, u27, u28, u29, u30, u31, u32, u33, u34, u35, u36, u37, u38, u39, u40, u41, u42, u43, u44, u45, u46, u47, u48, u49, u50, u51, u52, u53, u54, u55, u56, u57, u58, u59, u60, u61, u62, u63, u64, u65], []⟩ w := by
  obtain ⟨i0, hi, hz0', hz1, hz2⟩ := info_parts infoEnt
  have HI : Hid (Tryz.prog.info? 59 = some i0) := hi
  have HZ0 : Hid (i0.zero = some (.agg #[.int .i64 0, .int .i64 0, .bool false, .int .i64 0, .int .i64 0, .int .i64 0])) := hz0'
  have HZ1 : Hid (i0.size = 6) := hz1
  have HZ2 : Hid (i0.bytes = 48) := hz2
  clear hi hz0' hz1 hz2
  have hS : Hid (∀ w', Below w.heap.size w w' → w'.cell? ⟨kb, 0, none⟩ = some (.int .i64 a) ∧ w'.cell? ⟨kb, 1, none⟩ = some (.int .i64 c) ∧ w'.cell? ⟨pb, 0, none⟩ = some (.bool q0) ∧ w'.cell? ⟨pb, 1, none⟩ = some (.int .i64 q1) ∧ w'.cell? ⟨pb, 2, none⟩ = some (.int .i64 q2) ∧ w'.cell? ⟨pb, 3, none⟩ = some (.int .i64 q3)) := fun w' hB => ⟨keeps hB hkey.out.1, keeps hB hkey.out.2.1, keeps hB hkey.out.2.2.1, keeps hB hkey.out.2.2.2.1, keeps hB hkey.out.2.2.2.2.1, keeps hB hkey.out.2.2.2.2.2⟩
  have hcB : Hid (∀ w', Below w.heap.size w w' → w'.cell? ⟨q, 0, none⟩ = some (.slice ao N cap)) := fun w' hB => keeps hB hc0.out
  conv => arg 2; whnf
  refine wp_region_held_drew (S := fun w' => w'.cell? ⟨kb, 0, none⟩ = some (.int .i64 a) ∧ w'.cell? ⟨kb, 1, none⟩ = some (.int .i64 c) ∧ w'.cell? ⟨pb, 0, none⟩ = some (.bool q0) ∧ w'.cell? ⟨pb, 1, none⟩ = some (.int .i64 q1) ∧ w'.cell? ⟨pb, 2, none⟩ = some (.int .i64 q2) ∧ w'.cell? ⟨pb, 3, none⟩ = some (.int .i64 q3)) (by kernel_rfl) ?_ (fun hHeld => ?_)
  · exact hS.out _ (Below.refl _ w).drew
  obtain ⟨w0, hw0⟩ : ∃ x, x = w.drew := ⟨_, rfl⟩
  rw [← hw0] at hHeld ⊢
  have HB0 : Hid (Below w.heap.size w w0) := by rw [hw0]; exact (Below.refl _ w).drew
  clear hw0
  refine takeV (i := 0) (v := ?_) rfl (by kernel_rfl) (by kernel_rfl) (by kernel_rfl) (fun _ _ _ h => hpan.out _ _ _ _ _ h) (by rfl) (by assumption) ?_ ?_
  rotate_left
  · (intro w' hSw; (try dsimp only at hSw); go_simp; try (with_reducible rfl))
  try simp only [Act.put, List.setIfInBounds_toArray, List.set_cons_zero, List.set_cons_succ]
  refine takeV (i := 2) (v := ?_) rfl (by kernel_rfl) (by kernel_rfl) (by kernel_rfl) (fun _ _ _ h => hpan.out _ _ _ _ _ h) (by rfl) (by assumption) ?_ ?_
  rotate_left
  · (intro w' hSw; (try dsimp only at hSw); go_simp; try (with_reducible rfl))
  try simp only [Act.put, List.setIfInBounds_toArray, List.set_cons_zero, List.set_cons_succ]
  refine takeV (i := 3) (v := ?_) rfl (by kernel_rfl) (by kernel_rfl) (by kernel_rfl) (fun _ _ _ h => hpan.out _ _ _ _ _ h) (by rfl) (by assumption) ?_ ?_
  rotate_left
  · (intro w' hSw; (try dsimp only at hSw); go_simp; try (with_reducible rfl))
  try simp only [Act.put, List.setIfInBounds_toArray, List.set_cons_zero, List.set_cons_succ]
  refine takeV (i := 4) (v := ?_) rfl (by kernel_rfl) (by kernel_rfl) (by kernel_rfl) (fun _ _ _ h => hpan.out _ _ _ _ _ h) (by rfl) (by assumption) ?_ ?_
  rotate_left
  · (intro w' hSw; (try dsimp only at hSw); go_simp; try (with_reducible rfl))
  try simp only [Act.put, List.setIfInBounds_toArray, List.set_cons_zero, List.set_cons_succ]
  refine takeV (i := 7) (v := ?_) rfl (by kernel_rfl) (by kernel_rfl) (by kernel_rfl) (fun _ _ _ h => hpan.out _ _ _ _ _ h) (by rfl) (by assumption) ?_ ?_
  rotate_left
  · (intro w' hSw; (try dsimp only at hSw); go_simp; try (with_reducible rfl))
  try simp only [Act.put, List.setIfInBounds_toArray, List.set_cons_zero, List.set_cons_succ]
  refine takeV (i := 8) (v := ?_) rfl (by kernel_rfl) (by kernel_rfl) (by kernel_rfl) (fun _ _ _ h => hpan.out _ _ _ _ _ h) (by rfl) (by assumption) ?_ ?_
  rotate_left
  · (intro w' hSw; (try dsimp only at hSw); go_simp; try (with_reducible rfl))
  try simp only [Act.put, List.setIfInBounds_toArray, List.set_cons_zero, List.set_cons_succ]
  refine takeV (i := 9) (v := ?_) rfl (by kernel_rfl) (by kernel_rfl) (by kernel_rfl) (fun _ _ _ h => hpan.out _ _ _ _ _ h) (by rfl) (by assumption) ?_ ?_
  rotate_left
  · (intro w' hSw; (try dsimp only at hSw); go_simp; try (with_reducible rfl))
  try simp only [Act.put, List.setIfInBounds_toArray, List.set_cons_zero, List.set_cons_succ]
  refine wpAnyH_ready (rs := [1, 5, 10]) (by kernel_rfl) (by simp) ?_
  refine consOne (i := 1) rfl (fun K hK => ?_) ?_
  · go_simp
    obtain ⟨wA, hx⟩ : ∃ x, x = w0.alloc (.cells #[] 59) := ⟨_, rfl⟩
    rw [← hx]
    have HB1 : Hid (Below w.heap.size w wA) := by rw [hx]; exact bal HB0.out _
    have HOA : Hid (wA.ownsRow w.heap.size 59 6 (.slice (some ⟨w0.heap.size, 0, none⟩) 0 0) 0 []) := by rw [hx]; exact own_empty _ HB0.out.size
    have HAB : Hid (w.heap.size ≤ w0.heap.size) := HB0.out.size
    clear hx
    refine hK.out _ _ ?_ (fun hHeld => ?_)
    · exact hS.out _ HB1.out
    clear hK K
    try simp only [Act.put, List.setIfInBounds_toArray, List.set_cons_zero, List.set_cons_succ]
    refine wpAnyH_ready (rs := [5, 10]) (by kernel_rfl) (by simp) ?_
    refine consOne (i := 5) rfl (fun K hK => ?_) ?_
    · have hcx := hcB.out wA HB1.out
      go_simp
      clear hcx
      refine hK.out _ _ ?_ (fun hHeld => ?_)
      · exact hS.out _ HB1.out
      clear hK K
      try simp only [Act.put, List.setIfInBounds_toArray, List.set_cons_zero, List.set_cons_succ]
      refine wpAnyH_ready (rs := [6, 10]) (by kernel_rfl) (by simp) ?_
      refine consOne (i := 6) rfl (fun K hK => ?_) ?_
      · refine step_append_list rfl (.tmp 35) (.tmp 39) 50 rfl w.heap.size 59 i0 _ 6 48 Tryz.underlying50 HI.out HZ0.out HZ1.out HZ2.out rfl (by decide) w0.heap.size 0 0 [] rfl HOA.out ao N cap (rcells S) rfl (by rw [rcells_len, HN.out]) (hsB.out _ HB1.out) hnone.out (rcells_one S) (by unfold maxLen; omega) (by omega) HB1.out.size ?_
        intro gC cC wC hoC hgC
        rw [Nat.zero_add] at hoC ⊢
        rw [List.nil_append] at hoC
        have HB2 : Hid (Below w.heap.size w wC) := HB1.out.grown hgC HB1.out.size (fun k hk => by cases hk; exact HAB.out)
        have HOC : Hid (wC.ownsRow w.heap.size 59 6 (.slice (some ⟨gC, 0, none⟩) N cC) N (rcells S)) := hoC
        clear hoC hgC
        refine hK.out _ _ ?_ (fun hHeld => ?_)
        · exact hS.out _ HB2.out
        clear hK K
        try simp only [Act.put, List.setIfInBounds_toArray, List.set_cons_zero, List.set_cons_succ]
        refine stepOne (i := 10) rfl (by kernel_rfl) (fun K hK => ?_)
        go_simp
        obtain ⟨wF, hx⟩ : ∃ x, x = wC.alloc (.cells #[.int .i64 a, .int .i64 c, .bool q0, .int .i64 q1, .int .i64 q2, .int .i64 q3] 59) := ⟨_, rfl⟩
        rw [← hx]
        have HB3 : Hid (Below w.heap.size w wF) := by rw [hx]; exact bal HB2.out _
        have HF3 : Hid (wF.heap[wC.heap.size]? = some (.cells #[.int .i64 a, .int .i64 c, .bool q0, .int .i64 q1, .int .i64 q2, .int .i64 q3] 59 (0, 0))) := by rw [hx]; exact heap_alloc_new _ _
        have HOC3 : Hid (wF.ownsRow w.heap.size 59 6 (.slice (some ⟨gC, 0, none⟩) N cC) N (rcells S)) := by rw [hx]; exact HOC.out.alloc _
        clear hx
        refine hK.out _ _ ?_ (fun hHeld => ?_)
        · exact hS.out _ HB3.out
        clear hK K
        try simp only [Act.put, List.setIfInBounds_toArray, List.set_cons_zero, List.set_cons_succ]
        refine stepOne (i := 11) rfl (by kernel_rfl) (fun K hK => ?_)
        refine step_append_list rfl (.tmp 40) (.tmp 44) 50 rfl w.heap.size 59 i0 _ 6 48 Tryz.underlying50 HI.out HZ0.out HZ1.out HZ2.out rfl (by decide) gC N cC (rcells S) rfl HOC3.out (some ⟨wC.heap.size, 0, none⟩) 1 1 [.int .i64 a, .int .i64 c, .bool q0, .int .i64 q1, .int .i64 q2, .int .i64 q3] rfl rfl (six_cells HF3.out) (fun e => by cases e) (by simp [Value.oneCell']) (by unfold maxLen; omega) (by omega) HB3.out.size ?_
        intro g6 c6 w6 ho6 hg6
        have HB4 : Hid (Below w.heap.size w w6) := HB3.out.grown hg6 HB3.out.size (fun k hk => by cases hk; exact (own_lt HOC3.out).1)
        have HO6 : Hid (w6.ownsRow w.heap.size 59 6 (.slice (some ⟨g6, 0, none⟩) (N + 1) c6) (N + 1) (rcells S ++ [.int .i64 a, .int .i64 c, .bool q0, .int .i64 q1, .int .i64 q2, .int .i64 q3])) := ho6
        clear ho6 hg6
        refine hK.out _ _ ?_ (fun hHeld => ?_)
        · exact hS.out _ HB4.out
        clear hK K
        try simp only [Act.put, List.setIfInBounds_toArray, List.set_cons_zero, List.set_cons_succ]
        refine takeV (i := 12) (v := ?_) rfl (by kernel_rfl) (by kernel_rfl) (by kernel_rfl) (fun _ _ _ h => hpan.out _ _ _ _ _ h) (by rfl) (by assumption) ?_ ?_
        rotate_left
        · (intro w' hSw; (try dsimp only at hSw); go_simp; try (with_reducible rfl))
        try simp only [Act.put, List.setIfInBounds_toArray, List.set_cons_zero, List.set_cons_succ]
        refine takeV (i := 13) (v := ?_) rfl (by kernel_rfl) (by kernel_rfl) (by kernel_rfl) (fun _ _ _ h => hpan.out _ _ _ _ _ h) (by rfl) (by assumption) ?_ ?_
        rotate_left
        · (intro w' hSw; (try dsimp only at hSw); go_simp; try (with_reducible rfl))
        try simp only [Act.put, List.setIfInBounds_toArray, List.set_cons_zero, List.set_cons_succ]
        refine stepOne (i := 14) rfl (by kernel_rfl) (fun K hK => ?_)
        have hcx := hcB.out w6 HB4.out
        have hzx : w6.frozen? ⟨q, 0, none⟩ = false := (HB4.out.frozen (p := ⟨q, 0, none⟩) hq).trans hz0.out
        go_simp
        clear hcx hzx
        refine hK.out _ _ ?_ (fun hHeld => ?_)
        · have hs6 := hS.out _ HB4.out
          exact ⟨(World.cell?_setCell_far _ _ _ _ hqk).trans hs6.1, (World.cell?_setCell_far _ _ _ _ hqk).trans hs6.2.1, (World.cell?_setCell_far _ _ _ _ hqp).trans hs6.2.2.1, (World.cell?_setCell_far _ _ _ _ hqp).trans hs6.2.2.2.1, (World.cell?_setCell_far _ _ _ _ hqp).trans hs6.2.2.2.2.1, (World.cell?_setCell_far _ _ _ _ hqp).trans hs6.2.2.2.2.2⟩
        clear hK K
        try simp only [Act.put, List.setIfInBounds_toArray, List.set_cons_zero, List.set_cons_succ]
        refine wpAnyH_done (by kernel_rfl) ?_ _
        exact hQ.out _ _ _ _ _ _ _ _ _ _ _ _ _ _ g6 c6 w6 HO6.out HB4.out
      refine consOne (i := 10) rfl (fun K hK => ?_) ?_
      · go_simp
        obtain ⟨wF, hx⟩ : ∃ x, x = wA.alloc (.cells #[.int .i64 a, .int .i64 c, .bool q0, .int .i64 q1, .int .i64 q2, .int .i64 q3] 59) := ⟨_, rfl⟩
        rw [← hx]
        have HB2 : Hid (Below w.heap.size w wF) := by rw [hx]; exact bal HB1.out _
        have HF2 : Hid (wF.heap[wA.heap.size]? = some (.cells #[.int .i64 a, .int .i64 c, .bool q0, .int .i64 q1, .int .i64 q2, .int .i64 q3] 59 (0, 0))) := by rw [hx]; exact heap_alloc_new _ _
        have HOA2 : Hid (wF.ownsRow w.heap.size 59 6 (.slice (some ⟨w0.heap.size, 0, none⟩) 0 0) 0 []) := by rw [hx]; exact HOA.out.alloc _
        have HNE : Hid (wA.heap.size ≠ w0.heap.size) := fun e => by have := (own_lt HOA.out).2; omega
        clear hx
        refine hK.out _ _ ?_ (fun hHeld => ?_)
        · exact hS.out _ HB2.out
        clear hK K
        try simp only [Act.put, List.setIfInBounds_toArray, List.set_cons_zero, List.set_cons_succ]
        refine stepOne (i := 6) rfl (by kernel_rfl) (fun K hK => ?_)
        refine step_append_list rfl (.tmp 35) (.tmp 39) 50 rfl w.heap.size 59 i0 _ 6 48 Tryz.underlying50 HI.out HZ0.out HZ1.out HZ2.out rfl (by decide) w0.heap.size 0 0 [] rfl HOA2.out ao N cap (rcells S) rfl (by rw [rcells_len, HN.out]) (hsB.out _ HB2.out) hnone.out (rcells_one S) (by unfold maxLen; omega) (by omega) HB2.out.size ?_
        intro gC cC wC hoC hgC
        rw [Nat.zero_add] at hoC ⊢
        rw [List.nil_append] at hoC
        have HB3 : Hid (Below w.heap.size w wC) := HB2.out.grown hgC HB2.out.size (fun k hk => by cases hk; exact HAB.out)
        have HOC : Hid (wC.ownsRow w.heap.size 59 6 (.slice (some ⟨gC, 0, none⟩) N cC) N (rcells S)) := hoC
        have HF3 : Hid (wC.heap[wA.heap.size]? = some (.cells #[.int .i64 a, .int .i64 c, .bool q0, .int .i64 q1, .int .i64 q2, .int .i64 q3] 59 (0, 0))) := (hgC.block _ (Array.getElem?_eq_some_iff.1 HF2.out).1 (fun e => HNE.out (Option.some.inj e))).trans HF2.out
        clear hoC hgC
        refine hK.out _ _ ?_ (fun hHeld => ?_)
        · exact hS.out _ HB3.out
        clear hK K
        try simp only [Act.put, List.setIfInBounds_toArray, List.set_cons_zero, List.set_cons_succ]
        refine stepOne (i := 11) rfl (by kernel_rfl) (fun K hK => ?_)
        refine step_append_list rfl (.tmp 40) (.tmp 44) 50 rfl w.heap.size 59 i0 _ 6 48 Tryz.underlying50 HI.out HZ0.out HZ1.out HZ2.out rfl (by decide) gC N cC (rcells S) rfl HOC.out (some ⟨wA.heap.size, 0, none⟩) 1 1 [.int .i64 a, .int .i64 c, .bool q0, .int .i64 q1, .int .i64 q2, .int .i64 q3] rfl rfl (six_cells HF3.out) (fun e => by cases e) (by simp [Value.oneCell']) (by unfold maxLen; omega) (by omega) HB3.out.size ?_
        intro g6 c6 w6 ho6 hg6
        have HB4 : Hid (Below w.heap.size w w6) := HB3.out.grown hg6 HB3.out.size (fun k hk => by cases hk; exact (own_lt HOC.out).1)
        have HO6 : Hid (w6.ownsRow w.heap.size 59 6 (.slice (some ⟨g6, 0, none⟩) (N + 1) c6) (N + 1) (rcells S ++ [.int .i64 a, .int .i64 c, .bool q0, .int .i64 q1, .int .i64 q2, .int .i64 q3])) := ho6
        clear ho6 hg6
        refine hK.out _ _ ?_ (fun hHeld => ?_)
        · exact hS.out _ HB4.out
        clear hK K
        try simp only [Act.put, List.setIfInBounds_toArray, List.set_cons_zero, List.set_cons_succ]
        refine takeV (i := 12) (v := ?_) rfl (by kernel_rfl) (by kernel_rfl) (by kernel_rfl) (fun _ _ _ h => hpan.out _ _ _ _ _ h) (by rfl) (by assumption) ?_ ?_
        rotate_left
        · (intro w' hSw; (try dsimp only at hSw); go_simp; try (with_reducible rfl))
        try simp only [Act.put, List.setIfInBounds_toArray, List.set_cons_zero, List.set_cons_succ]
        refine takeV (i := 13) (v := ?_) rfl (by kernel_rfl) (by kernel_rfl) (by kernel_rfl) (fun _ _ _ h => hpan.out _ _ _ _ _ h) (by rfl) (by assumption) ?_ ?_
        rotate_left
        · (intro w' hSw; (try dsimp only at hSw); go_simp; try (with_reducible rfl))
        try simp only [Act.put, List.setIfInBounds_toArray, List.set_cons_zero, List.set_cons_succ]
        refine stepOne (i := 14) rfl (by kernel_rfl) (fun K hK => ?_)
        have hcx := hcB.out w6 HB4.out
        have hzx : w6.frozen? ⟨q, 0, none⟩ = false := (HB4.out.frozen (p := ⟨q, 0, none⟩) hq).trans hz0.out
        go_simp
        clear hcx hzx
        refine hK.out _ _ ?_ (fun hHeld => ?_)
        · have hs6 := hS.out _ HB4.out
          exact ⟨(World.cell?_setCell_far _ _ _ _ hqk).trans hs6.1, (World.cell?_setCell_far _ _ _ _ hqk).trans hs6.2.1, (World.cell?_setCell_far _ _ _ _ hqp).trans hs6.2.2.1, (World.cell?_setCell_far _ _ _ _ hqp).trans hs6.2.2.2.1, (World.cell?_setCell_far _ _ _ _ hqp).trans hs6.2.2.2.2.1, (World.cell?_setCell_far _ _ _ _ hqp).trans hs6.2.2.2.2.2⟩
        clear hK K
        try simp only [Act.put, List.setIfInBounds_toArray, List.set_cons_zero, List.set_cons_succ]
        refine wpAnyH_done (by kernel_rfl) ?_ _
        exact hQ.out _ _ _ _ _ _ _ _ _ _ _ _ _ _ g6 c6 w6 HO6.out HB4.out
      exact AllReadyH.nil
    refine consOne (i := 10) rfl (fun K hK => ?_) ?_
    · go_simp
      obtain ⟨wF, hx⟩ : ∃ x, x = wA.alloc (.cells #[.int .i64 a, .int .i64 c, .bool q0, .int .i64 q1, .int .i64 q2, .int .i64 q3] 59) := ⟨_, rfl⟩
      rw [← hx]
      have HB2 : Hid (Below w.heap.size w wF) := by rw [hx]; exact bal HB1.out _
      have HF2 : Hid (wF.heap[wA.heap.size]? = some (.cells #[.int .i64 a, .int .i64 c, .bool q0, .int .i64 q1, .int .i64 q2, .int .i64 q3] 59 (0, 0))) := by rw [hx]; exact heap_alloc_new _ _
      have HOA2 : Hid (wF.ownsRow w.heap.size 59 6 (.slice (some ⟨w0.heap.size, 0, none⟩) 0 0) 0 []) := by rw [hx]; exact HOA.out.alloc _
      have HNE : Hid (wA.heap.size ≠ w0.heap.size) := fun e => by have := (own_lt HOA.out).2; omega
      clear hx
      refine hK.out _ _ ?_ (fun hHeld => ?_)
      · exact hS.out _ HB2.out
      clear hK K
      try simp only [Act.put, List.setIfInBounds_toArray, List.set_cons_zero, List.set_cons_succ]
      refine stepOne (i := 5) rfl (by kernel_rfl) (fun K hK => ?_)
      have hcx := hcB.out wF HB2.out
      go_simp
      clear hcx
      refine hK.out _ _ ?_ (fun hHeld => ?_)
      · exact hS.out _ HB2.out
      clear hK K
      try simp only [Act.put, List.setIfInBounds_toArray, List.set_cons_zero, List.set_cons_succ]
      refine stepOne (i := 6) rfl (by kernel_rfl) (fun K hK => ?_)
      refine step_append_list rfl (.tmp 35) (.tmp 39) 50 rfl w.heap.size 59 i0 _ 6 48 Tryz.underlying50 HI.out HZ0.out HZ1.out HZ2.out rfl (by decide) w0.heap.size 0 0 [] rfl HOA2.out ao N cap (rcells S) rfl (by rw [rcells_len, HN.out]) (hsB.out _ HB2.out) hnone.out (rcells_one S) (by unfold maxLen; omega) (by omega) HB2.out.size ?_
      intro gC cC wC hoC hgC
      rw [Nat.zero_add] at hoC ⊢
      rw [List.nil_append] at hoC
      have HB3 : Hid (Below w.heap.size w wC) := HB2.out.grown hgC HB2.out.size (fun k hk => by cases hk; exact HAB.out)
      have HOC : Hid (wC.ownsRow w.heap.size 59 6 (.slice (some ⟨gC, 0, none⟩) N cC) N (rcells S)) := hoC
      have HF3 : Hid (wC.heap[wA.heap.size]? = some (.cells #[.int .i64 a, .int .i64 c, .bool q0, .int .i64 q1, .int .i64 q2, .int .i64 q3] 59 (0, 0))) := (hgC.block _ (Array.getElem?_eq_some_iff.1 HF2.out).1 (fun e => HNE.out (Option.some.inj e))).trans HF2.out
      clear hoC hgC
      refine hK.out _ _ ?_ (fun hHeld => ?_)
      · exact hS.out _ HB3.out
      clear hK K
      try simp only [Act.put, List.setIfInBounds_toArray, List.set_cons_zero, List.set_cons_succ]
      refine stepOne (i := 11) rfl (by kernel_rfl) (fun K hK => ?_)
      refine step_append_list rfl (.tmp 40) (.tmp 44) 50 rfl w.heap.size 59 i0 _ 6 48 Tryz.underlying50 HI.out HZ0.out HZ1.out HZ2.out rfl (by decide) gC N cC (rcells S) rfl HOC.out (some ⟨wA.heap.size, 0, none⟩) 1 1 [.int .i64 a, .int .i64 c, .bool q0, .int .i64 q1, .int .i64 q2, .int .i64 q3] rfl rfl (six_cells HF3.out) (fun e => by cases e) (by simp [Value.oneCell']) (by unfold maxLen; omega) (by omega) HB3.out.size ?_
      intro g6 c6 w6 ho6 hg6
      have HB4 : Hid (Below w.heap.size w w6) := HB3.out.grown hg6 HB3.out.size (fun k hk => by cases hk; exact (own_lt HOC.out).1)
      have HO6 : Hid (w6.ownsRow w.heap.size 59 6 (.slice (some ⟨g6, 0, none⟩) (N + 1) c6) (N + 1) (rcells S ++ [.int .i64 a, .int .i64 c, .bool q0, .int .i64 q1, .int .i64 q2, .int .i64 q3])) := ho6
      clear ho6 hg6
      refine hK.out _ _ ?_ (fun hHeld => ?_)
      · exact hS.out _ HB4.out
      clear hK K
      try simp only [Act.put, List.setIfInBounds_toArray, List.set_cons_zero, List.set_cons_succ]
      refine takeV (i := 12) (v := ?_) rfl (by kernel_rfl) (by kernel_rfl) (by kernel_rfl) (fun _ _ _ h => hpan.out _ _ _ _ _ h) (by rfl) (by assumption) ?_ ?_
      rotate_left
      · (intro w' hSw; (try dsimp only at hSw); go_simp; try (with_reducible rfl))
      try simp only [Act.put, List.setIfInBounds_toArray, List.set_cons_zero, List.set_cons_succ]
      refine takeV (i := 13) (v := ?_) rfl (by kernel_rfl) (by kernel_rfl) (by kernel_rfl) (fun _ _ _ h => hpan.out _ _ _ _ _ h) (by rfl) (by assumption) ?_ ?_
      rotate_left
      · (intro w' hSw; (try dsimp only at hSw); go_simp; try (with_reducible rfl))
      try simp only [Act.put, List.setIfInBounds_toArray, List.set_cons_zero, List.set_cons_succ]
      refine stepOne (i := 14) rfl (by kernel_rfl) (fun K hK => ?_)
      have hcx := hcB.out w6 HB4.out
      have hzx : w6.frozen? ⟨q, 0, none⟩ = false := (HB4.out.frozen (p := ⟨q, 0, none⟩) hq).trans hz0.out
      go_simp
      clear hcx hzx
      refine hK.out _ _ ?_ (fun hHeld => ?_)
      · have hs6 := hS.out _ HB4.out
        exact ⟨(World.cell?_setCell_far _ _ _ _ hqk).trans hs6.1, (World.cell?_setCell_far _ _ _ _ hqk).trans hs6.2.1, (World.cell?_setCell_far _ _ _ _ hqp).trans hs6.2.2.1, (World.cell?_setCell_far _ _ _ _ hqp).trans hs6.2.2.2.1, (World.cell?_setCell_far _ _ _ _ hqp).trans hs6.2.2.2.2.1, (World.cell?_setCell_far _ _ _ _ hqp).trans hs6.2.2.2.2.2⟩
      clear hK K
      try simp only [Act.put, List.setIfInBounds_toArray, List.set_cons_zero, List.set_cons_succ]
      refine wpAnyH_done (by kernel_rfl) ?_ _
      exact hQ.out _ _ _ _ _ _ _ _ _ _ _ _ _ _ g6 c6 w6 HO6.out HB4.out
    exact AllReadyH.nil
  refine consOne (i := 5) rfl (fun K hK => ?_) ?_
  · have hcx := hcB.out w0 HB0.out
    go_simp
    clear hcx
    refine hK.out _ _ ?_ (fun hHeld => ?_)
    · exact hS.out _ HB0.out
    clear hK K
    try simp only [Act.put, List.setIfInBounds_toArray, List.set_cons_zero, List.set_cons_succ]
    refine wpAnyH_ready (rs := [1, 10]) (by kernel_rfl) (by simp) ?_
    refine consOne (i := 1) rfl (fun K hK => ?_) ?_
    · go_simp
      obtain ⟨wA, hx⟩ : ∃ x, x = w0.alloc (.cells #[] 59) := ⟨_, rfl⟩
      rw [← hx]
      have HB1 : Hid (Below w.heap.size w wA) := by rw [hx]; exact bal HB0.out _
      have HOA : Hid (wA.ownsRow w.heap.size 59 6 (.slice (some ⟨w0.heap.size, 0, none⟩) 0 0) 0 []) := by rw [hx]; exact own_empty _ HB0.out.size
      have HAB : Hid (w.heap.size ≤ w0.heap.size) := HB0.out.size
      clear hx
      refine hK.out _ _ ?_ (fun hHeld => ?_)
      · exact hS.out _ HB1.out
      clear hK K
      try simp only [Act.put, List.setIfInBounds_toArray, List.set_cons_zero, List.set_cons_succ]
      refine wpAnyH_ready (rs := [6, 10]) (by kernel_rfl) (by simp) ?_
      refine consOne (i := 6) rfl (fun K hK => ?_) ?_
      · refine step_append_list rfl (.tmp 35) (.tmp 39) 50 rfl w.heap.size 59 i0 _ 6 48 Tryz.underlying50 HI.out HZ0.out HZ1.out HZ2.out rfl (by decide) w0.heap.size 0 0 [] rfl HOA.out ao N cap (rcells S) rfl (by rw [rcells_len, HN.out]) (hsB.out _ HB1.out) hnone.out (rcells_one S) (by unfold maxLen; omega) (by omega) HB1.out.size ?_
        intro gC cC wC hoC hgC
        rw [Nat.zero_add] at hoC ⊢
        rw [List.nil_append] at hoC
        have HB2 : Hid (Below w.heap.size w wC) := HB1.out.grown hgC HB1.out.size (fun k hk => by cases hk; exact HAB.out)
        have HOC : Hid (wC.ownsRow w.heap.size 59 6 (.slice (some ⟨gC, 0, none⟩) N cC) N (rcells S)) := hoC
        clear hoC hgC
        refine hK.out _ _ ?_ (fun hHeld => ?_)
        · exact hS.out _ HB2.out
        clear hK K
        try simp only [Act.put, List.setIfInBounds_toArray, List.set_cons_zero, List.set_cons_succ]
        refine stepOne (i := 10) rfl (by kernel_rfl) (fun K hK => ?_)
        go_simp
        obtain ⟨wF, hx⟩ : ∃ x, x = wC.alloc (.cells #[.int .i64 a, .int .i64 c, .bool q0, .int .i64 q1, .int .i64 q2, .int .i64 q3] 59) := ⟨_, rfl⟩
        rw [← hx]
        have HB3 : Hid (Below w.heap.size w wF) := by rw [hx]; exact bal HB2.out _
        have HF3 : Hid (wF.heap[wC.heap.size]? = some (.cells #[.int .i64 a, .int .i64 c, .bool q0, .int .i64 q1, .int .i64 q2, .int .i64 q3] 59 (0, 0))) := by rw [hx]; exact heap_alloc_new _ _
        have HOC3 : Hid (wF.ownsRow w.heap.size 59 6 (.slice (some ⟨gC, 0, none⟩) N cC) N (rcells S)) := by rw [hx]; exact HOC.out.alloc _
        clear hx
        refine hK.out _ _ ?_ (fun hHeld => ?_)
        · exact hS.out _ HB3.out
        clear hK K
        try simp only [Act.put, List.setIfInBounds_toArray, List.set_cons_zero, List.set_cons_succ]
        refine stepOne (i := 11) rfl (by kernel_rfl) (fun K hK => ?_)
        refine step_append_list rfl (.tmp 40) (.tmp 44) 50 rfl w.heap.size 59 i0 _ 6 48 Tryz.underlying50 HI.out HZ0.out HZ1.out HZ2.out rfl (by decide) gC N cC (rcells S) rfl HOC3.out (some ⟨wC.heap.size, 0, none⟩) 1 1 [.int .i64 a, .int .i64 c, .bool q0, .int .i64 q1, .int .i64 q2, .int .i64 q3] rfl rfl (six_cells HF3.out) (fun e => by cases e) (by simp [Value.oneCell']) (by unfold maxLen; omega) (by omega) HB3.out.size ?_
        intro g6 c6 w6 ho6 hg6
        have HB4 : Hid (Below w.heap.size w w6) := HB3.out.grown hg6 HB3.out.size (fun k hk => by cases hk; exact (own_lt HOC3.out).1)
        have HO6 : Hid (w6.ownsRow w.heap.size 59 6 (.slice (some ⟨g6, 0, none⟩) (N + 1) c6) (N + 1) (rcells S ++ [.int .i64 a, .int .i64 c, .bool q0, .int .i64 q1, .int .i64 q2, .int .i64 q3])) := ho6
        clear ho6 hg6
        refine hK.out _ _ ?_ (fun hHeld => ?_)
        · exact hS.out _ HB4.out
        clear hK K
        try simp only [Act.put, List.setIfInBounds_toArray, List.set_cons_zero, List.set_cons_succ]
        refine takeV (i := 12) (v := ?_) rfl (by kernel_rfl) (by kernel_rfl) (by kernel_rfl) (fun _ _ _ h => hpan.out _ _ _ _ _ h) (by rfl) (by assumption) ?_ ?_
        rotate_left
        · (intro w' hSw; (try dsimp only at hSw); go_simp; try (with_reducible rfl))
        try simp only [Act.put, List.setIfInBounds_toArray, List.set_cons_zero, List.set_cons_succ]
        refine takeV (i := 13) (v := ?_) rfl (by kernel_rfl) (by kernel_rfl) (by kernel_rfl) (fun _ _ _ h => hpan.out _ _ _ _ _ h) (by rfl) (by assumption) ?_ ?_
        rotate_left
        · (intro w' hSw; (try dsimp only at hSw); go_simp; try (with_reducible rfl))
        try simp only [Act.put, List.setIfInBounds_toArray, List.set_cons_zero, List.set_cons_succ]
        refine stepOne (i := 14) rfl (by kernel_rfl) (fun K hK => ?_)
        have hcx := hcB.out w6 HB4.out
        have hzx : w6.frozen? ⟨q, 0, none⟩ = false := (HB4.out.frozen (p := ⟨q, 0, none⟩) hq).trans hz0.out
        go_simp
        clear hcx hzx
        refine hK.out _ _ ?_ (fun hHeld => ?_)
        · have hs6 := hS.out _ HB4.out
          exact ⟨(World.cell?_setCell_far _ _ _ _ hqk).trans hs6.1, (World.cell?_setCell_far _ _ _ _ hqk).trans hs6.2.1, (World.cell?_setCell_far _ _ _ _ hqp).trans hs6.2.2.1, (World.cell?_setCell_far _ _ _ _ hqp).trans hs6.2.2.2.1, (World.cell?_setCell_far _ _ _ _ hqp).trans hs6.2.2.2.2.1, (World.cell?_setCell_far _ _ _ _ hqp).trans hs6.2.2.2.2.2⟩
        clear hK K
        try simp only [Act.put, List.setIfInBounds_toArray, List.set_cons_zero, List.set_cons_succ]
        refine wpAnyH_done (by kernel_rfl) ?_ _
        exact hQ.out _ _ _ _ _ _ _ _ _ _ _ _ _ _ g6 c6 w6 HO6.out HB4.out
      refine consOne (i := 10) rfl (fun K hK => ?_) ?_
      · go_simp
        obtain ⟨wF, hx⟩ : ∃ x, x = wA.alloc (.cells #[.int .i64 a, .int .i64 c, .bool q0, .int .i64 q1, .int .i64 q2, .int .i64 q3] 59) := ⟨_, rfl⟩
        rw [← hx]
        have HB2 : Hid (Below w.heap.size w wF) := by rw [hx]; exact bal HB1.out _
        have HF2 : Hid (wF.heap[wA.heap.size]? = some (.cells #[.int .i64 a, .int .i64 c, .bool q0, .int .i64 q1, .int .i64 q2, .int .i64 q3] 59 (0, 0))) := by rw [hx]; exact heap_alloc_new _ _
        have HOA2 : Hid (wF.ownsRow w.heap.size 59 6 (.slice (some ⟨w0.heap.size, 0, none⟩) 0 0) 0 []) := by rw [hx]; exact HOA.out.alloc _
        have HNE : Hid (wA.heap.size ≠ w0.heap.size) := fun e => by have := (own_lt HOA.out).2; omega
        clear hx
        refine hK.out _ _ ?_ (fun hHeld => ?_)
        · exact hS.out _ HB2.out
        clear hK K
        try simp only [Act.put, List.setIfInBounds_toArray, List.set_cons_zero, List.set_cons_succ]
        refine stepOne (i := 6) rfl (by kernel_rfl) (fun K hK => ?_)
        refine step_append_list rfl (.tmp 35) (.tmp 39) 50 rfl w.heap.size 59 i0 _ 6 48 Tryz.underlying50 HI.out HZ0.out HZ1.out HZ2.out rfl (by decide) w0.heap.size 0 0 [] rfl HOA2.out ao N cap (rcells S) rfl (by rw [rcells_len, HN.out]) (hsB.out _ HB2.out) hnone.out (rcells_one S) (by unfold maxLen; omega) (by omega) HB2.out.size ?_
        intro gC cC wC hoC hgC
        rw [Nat.zero_add] at hoC ⊢
        rw [List.nil_append] at hoC
        have HB3 : Hid (Below w.heap.size w wC) := HB2.out.grown hgC HB2.out.size (fun k hk => by cases hk; exact HAB.out)
        have HOC : Hid (wC.ownsRow w.heap.size 59 6 (.slice (some ⟨gC, 0, none⟩) N cC) N (rcells S)) := hoC
        have HF3 : Hid (wC.heap[wA.heap.size]? = some (.cells #[.int .i64 a, .int .i64 c, .bool q0, .int .i64 q1, .int .i64 q2, .int .i64 q3] 59 (0, 0))) := (hgC.block _ (Array.getElem?_eq_some_iff.1 HF2.out).1 (fun e => HNE.out (Option.some.inj e))).trans HF2.out
        clear hoC hgC
        refine hK.out _ _ ?_ (fun hHeld => ?_)
        · exact hS.out _ HB3.out
        clear hK K
        try simp only [Act.put, List.setIfInBounds_toArray, List.set_cons_zero, List.set_cons_succ]
        refine stepOne (i := 11) rfl (by kernel_rfl) (fun K hK => ?_)
        refine step_append_list rfl (.tmp 40) (.tmp 44) 50 rfl w.heap.size 59 i0 _ 6 48 Tryz.underlying50 HI.out HZ0.out HZ1.out HZ2.out rfl (by decide) gC N cC (rcells S) rfl HOC.out (some ⟨wA.heap.size, 0, none⟩) 1 1 [.int .i64 a, .int .i64 c, .bool q0, .int .i64 q1, .int .i64 q2, .int .i64 q3] rfl rfl (six_cells HF3.out) (fun e => by cases e) (by simp [Value.oneCell']) (by unfold maxLen; omega) (by omega) HB3.out.size ?_
        intro g6 c6 w6 ho6 hg6
        have HB4 : Hid (Below w.heap.size w w6) := HB3.out.grown hg6 HB3.out.size (fun k hk => by cases hk; exact (own_lt HOC.out).1)
        have HO6 : Hid (w6.ownsRow w.heap.size 59 6 (.slice (some ⟨g6, 0, none⟩) (N + 1) c6) (N + 1) (rcells S ++ [.int .i64 a, .int .i64 c, .bool q0, .int .i64 q1, .int .i64 q2, .int .i64 q3])) := ho6
        clear ho6 hg6
        refine hK.out _ _ ?_ (fun hHeld => ?_)
        · exact hS.out _ HB4.out
        clear hK K
        try simp only [Act.put, List.setIfInBounds_toArray, List.set_cons_zero, List.set_cons_succ]
        refine takeV (i := 12) (v := ?_) rfl (by kernel_rfl) (by kernel_rfl) (by kernel_rfl) (fun _ _ _ h => hpan.out _ _ _ _ _ h) (by rfl) (by assumption) ?_ ?_
        rotate_left
        · (intro w' hSw; (try dsimp only at hSw); go_simp; try (with_reducible rfl))
        try simp only [Act.put, List.setIfInBounds_toArray, List.set_cons_zero, List.set_cons_succ]
        refine takeV (i := 13) (v := ?_) rfl (by kernel_rfl) (by kernel_rfl) (by kernel_rfl) (fun _ _ _ h => hpan.out _ _ _ _ _ h) (by rfl) (by assumption) ?_ ?_
        rotate_left
        · (intro w' hSw; (try dsimp only at hSw); go_simp; try (with_reducible rfl))
        try simp only [Act.put, List.setIfInBounds_toArray, List.set_cons_zero, List.set_cons_succ]
        refine stepOne (i := 14) rfl (by kernel_rfl) (fun K hK => ?_)
        have hcx := hcB.out w6 HB4.out
        have hzx : w6.frozen? ⟨q, 0, none⟩ = false := (HB4.out.frozen (p := ⟨q, 0, none⟩) hq).trans hz0.out
        go_simp
        clear hcx hzx
        refine hK.out _ _ ?_ (fun hHeld => ?_)
        · have hs6 := hS.out _ HB4.out
          exact ⟨(World.cell?_setCell_far _ _ _ _ hqk).trans hs6.1, (World.cell?_setCell_far _ _ _ _ hqk).trans hs6.2.1, (World.cell?_setCell_far _ _ _ _ hqp).trans hs6.2.2.1, (World.cell?_setCell_far _ _ _ _ hqp).trans hs6.2.2.2.1, (World.cell?_setCell_far _ _ _ _ hqp).trans hs6.2.2.2.2.1, (World.cell?_setCell_far _ _ _ _ hqp).trans hs6.2.2.2.2.2⟩
        clear hK K
        try simp only [Act.put, List.setIfInBounds_toArray, List.set_cons_zero, List.set_cons_succ]
        refine wpAnyH_done (by kernel_rfl) ?_ _
        exact hQ.out _ _ _ _ _ _ _ _ _ _ _ _ _ _ g6 c6 w6 HO6.out HB4.out
      exact AllReadyH.nil
    refine consOne (i := 10) rfl (fun K hK => ?_) ?_
    · go_simp
      obtain ⟨wF, hx⟩ : ∃ x, x = w0.alloc (.cells #[.int .i64 a, .int .i64 c, .bool q0, .int .i64 q1, .int .i64 q2, .int .i64 q3] 59) := ⟨_, rfl⟩
      rw [← hx]
      have HB1 : Hid (Below w.heap.size w wF) := by rw [hx]; exact bal HB0.out _
      have HF1 : Hid (wF.heap[w0.heap.size]? = some (.cells #[.int .i64 a, .int .i64 c, .bool q0, .int .i64 q1, .int .i64 q2, .int .i64 q3] 59 (0, 0))) := by rw [hx]; exact heap_alloc_new _ _
      clear hx
      refine hK.out _ _ ?_ (fun hHeld => ?_)
      · exact hS.out _ HB1.out
      clear hK K
      try simp only [Act.put, List.setIfInBounds_toArray, List.set_cons_zero, List.set_cons_succ]
      refine stepOne (i := 1) rfl (by kernel_rfl) (fun K hK => ?_)
      go_simp
      obtain ⟨wA, hx⟩ : ∃ x, x = wF.alloc (.cells #[] 59) := ⟨_, rfl⟩
      rw [← hx]
      have HB2 : Hid (Below w.heap.size w wA) := by rw [hx]; exact bal HB1.out _
      have HOA : Hid (wA.ownsRow w.heap.size 59 6 (.slice (some ⟨wF.heap.size, 0, none⟩) 0 0) 0 []) := by rw [hx]; exact own_empty _ HB1.out.size
      have HF2 : Hid (wA.heap[w0.heap.size]? = some (.cells #[.int .i64 a, .int .i64 c, .bool q0, .int .i64 q1, .int .i64 q2, .int .i64 q3] 59 (0, 0))) := by rw [hx]; exact (Below.heap_alloc _ _ _ (Array.getElem?_eq_some_iff.1 HF1.out).1).trans HF1.out
      have HAB : Hid (w.heap.size ≤ wF.heap.size) := HB1.out.size
      have HNE : Hid (w0.heap.size ≠ wF.heap.size) := Nat.ne_of_lt (Array.getElem?_eq_some_iff.1 HF1.out).1
      clear hx
      refine hK.out _ _ ?_ (fun hHeld => ?_)
      · exact hS.out _ HB2.out
      clear hK K
      try simp only [Act.put, List.setIfInBounds_toArray, List.set_cons_zero, List.set_cons_succ]
      refine stepOne (i := 6) rfl (by kernel_rfl) (fun K hK => ?_)
      refine step_append_list rfl (.tmp 35) (.tmp 39) 50 rfl w.heap.size 59 i0 _ 6 48 Tryz.underlying50 HI.out HZ0.out HZ1.out HZ2.out rfl (by decide) wF.heap.size 0 0 [] rfl HOA.out ao N cap (rcells S) rfl (by rw [rcells_len, HN.out]) (hsB.out _ HB2.out) hnone.out (rcells_one S) (by unfold maxLen; omega) (by omega) HB2.out.size ?_
      intro gC cC wC hoC hgC
      rw [Nat.zero_add] at hoC ⊢
      rw [List.nil_append] at hoC
      have HB3 : Hid (Below w.heap.size w wC) := HB2.out.grown hgC HB2.out.size (fun k hk => by cases hk; exact HAB.out)
      have HOC : Hid (wC.ownsRow w.heap.size 59 6 (.slice (some ⟨gC, 0, none⟩) N cC) N (rcells S)) := hoC
      have HF3 : Hid (wC.heap[w0.heap.size]? = some (.cells #[.int .i64 a, .int .i64 c, .bool q0, .int .i64 q1, .int .i64 q2, .int .i64 q3] 59 (0, 0))) := (hgC.block _ (Array.getElem?_eq_some_iff.1 HF2.out).1 (fun e => HNE.out (Option.some.inj e))).trans HF2.out
      clear hoC hgC
      refine hK.out _ _ ?_ (fun hHeld => ?_)
      · exact hS.out _ HB3.out
      clear hK K
      try simp only [Act.put, List.setIfInBounds_toArray, List.set_cons_zero, List.set_cons_succ]
      refine stepOne (i := 11) rfl (by kernel_rfl) (fun K hK => ?_)
      refine step_append_list rfl (.tmp 40) (.tmp 44) 50 rfl w.heap.size 59 i0 _ 6 48 Tryz.underlying50 HI.out HZ0.out HZ1.out HZ2.out rfl (by decide) gC N cC (rcells S) rfl HOC.out (some ⟨w0.heap.size, 0, none⟩) 1 1 [.int .i64 a, .int .i64 c, .bool q0, .int .i64 q1, .int .i64 q2, .int .i64 q3] rfl rfl (six_cells HF3.out) (fun e => by cases e) (by simp [Value.oneCell']) (by unfold maxLen; omega) (by omega) HB3.out.size ?_
      intro g6 c6 w6 ho6 hg6
      have HB4 : Hid (Below w.heap.size w w6) := HB3.out.grown hg6 HB3.out.size (fun k hk => by cases hk; exact (own_lt HOC.out).1)
      have HO6 : Hid (w6.ownsRow w.heap.size 59 6 (.slice (some ⟨g6, 0, none⟩) (N + 1) c6) (N + 1) (rcells S ++ [.int .i64 a, .int .i64 c, .bool q0, .int .i64 q1, .int .i64 q2, .int .i64 q3])) := ho6
      clear ho6 hg6
      refine hK.out _ _ ?_ (fun hHeld => ?_)
      · exact hS.out _ HB4.out
      clear hK K
      try simp only [Act.put, List.setIfInBounds_toArray, List.set_cons_zero, List.set_cons_succ]
      refine takeV (i := 12) (v := ?_) rfl (by kernel_rfl) (by kernel_rfl) (by kernel_rfl) (fun _ _ _ h => hpan.out _ _ _ _ _ h) (by rfl) (by assumption) ?_ ?_
      rotate_left
      · (intro w' hSw; (try dsimp only at hSw); go_simp; try (with_reducible rfl))
      try simp only [Act.put, List.setIfInBounds_toArray, List.set_cons_zero, List.set_cons_succ]
      refine takeV (i := 13) (v := ?_) rfl (by kernel_rfl) (by kernel_rfl) (by kernel_rfl) (fun _ _ _ h => hpan.out _ _ _ _ _ h) (by rfl) (by assumption) ?_ ?_
      rotate_left
      · (intro w' hSw; (try dsimp only at hSw); go_simp; try (with_reducible rfl))
      try simp only [Act.put, List.setIfInBounds_toArray, List.set_cons_zero, List.set_cons_succ]
      refine stepOne (i := 14) rfl (by kernel_rfl) (fun K hK => ?_)
      have hcx := hcB.out w6 HB4.out
      have hzx : w6.frozen? ⟨q, 0, none⟩ = false := (HB4.out.frozen (p := ⟨q, 0, none⟩) hq).trans hz0.out
      go_simp
      clear hcx hzx
      refine hK.out _ _ ?_ (fun hHeld => ?_)
      · have hs6 := hS.out _ HB4.out
        exact ⟨(World.cell?_setCell_far _ _ _ _ hqk).trans hs6.1, (World.cell?_setCell_far _ _ _ _ hqk).trans hs6.2.1, (World.cell?_setCell_far _ _ _ _ hqp).trans hs6.2.2.1, (World.cell?_setCell_far _ _ _ _ hqp).trans hs6.2.2.2.1, (World.cell?_setCell_far _ _ _ _ hqp).trans hs6.2.2.2.2.1, (World.cell?_setCell_far _ _ _ _ hqp).trans hs6.2.2.2.2.2⟩
      clear hK K
      try simp only [Act.put, List.setIfInBounds_toArray, List.set_cons_zero, List.set_cons_succ]
      refine wpAnyH_done (by kernel_rfl) ?_ _
      exact hQ.out _ _ _ _ _ _ _ _ _ _ _ _ _ _ g6 c6 w6 HO6.out HB4.out
    exact AllReadyH.nil
  refine consOne (i := 10) rfl (fun K hK => ?_) ?_
  · go_simp
    obtain ⟨wF, hx⟩ : ∃ x, x = w0.alloc (.cells #[.int .i64 a, .int .i64 c, .bool q0, .int .i64 q1, .int .i64 q2, .int .i64 q3] 59) := ⟨_, rfl⟩
    rw [← hx]
    have HB1 : Hid (Below w.heap.size w wF) := by rw [hx]; exact bal HB0.out _
    have HF1 : Hid (wF.heap[w0.heap.size]? = some (.cells #[.int .i64 a, .int .i64 c, .bool q0, .int .i64 q1, .int .i64 q2, .int .i64 q3] 59 (0, 0))) := by rw [hx]; exact heap_alloc_new _ _
    clear hx
    refine hK.out _ _ ?_ (fun hHeld => ?_)
    · exact hS.out _ HB1.out
    clear hK K
    try simp only [Act.put, List.setIfInBounds_toArray, List.set_cons_zero, List.set_cons_succ]
    refine wpAnyH_ready (rs := [1, 5]) (by kernel_rfl) (by simp) ?_
    refine consOne (i := 1) rfl (fun K hK => ?_) ?_
    · go_simp
      obtain ⟨wA, hx⟩ : ∃ x, x = wF.alloc (.cells #[] 59) := ⟨_, rfl⟩
      rw [← hx]
      have HB2 : Hid (Below w.heap.size w wA) := by rw [hx]; exact bal HB1.out _
      have HOA : Hid (wA.ownsRow w.heap.size 59 6 (.slice (some ⟨wF.heap.size, 0, none⟩) 0 0) 0 []) := by rw [hx]; exact own_empty _ HB1.out.size
      have HF2 : Hid (wA.heap[w0.heap.size]? = some (.cells #[.int .i64 a, .int .i64 c, .bool q0, .int .i64 q1, .int .i64 q2, .int .i64 q3] 59 (0, 0))) := by rw [hx]; exact (Below.heap_alloc _ _ _ (Array.getElem?_eq_some_iff.1 HF1.out).1).trans HF1.out
      have HAB : Hid (w.heap.size ≤ wF.heap.size) := HB1.out.size
      have HNE : Hid (w0.heap.size ≠ wF.heap.size) := Nat.ne_of_lt (Array.getElem?_eq_some_iff.1 HF1.out).1
      clear hx
      refine hK.out _ _ ?_ (fun hHeld => ?_)
      · exact hS.out _ HB2.out
      clear hK K
      try simp only [Act.put, List.setIfInBounds_toArray, List.set_cons_zero, List.set_cons_succ]
      refine stepOne (i := 5) rfl (by kernel_rfl) (fun K hK => ?_)
      have hcx := hcB.out wA HB2.out
      go_simp
      clear hcx
      refine hK.out _ _ ?_ (fun hHeld => ?_)
      · exact hS.out _ HB2.out
      clear hK K
      try simp only [Act.put, List.setIfInBounds_toArray, List.set_cons_zero, List.set_cons_succ]
      refine stepOne (i := 6) rfl (by kernel_rfl) (fun K hK => ?_)
      refine step_append_list rfl (.tmp 35) (.tmp 39) 50 rfl w.heap.size 59 i0 _ 6 48 Tryz.underlying50 HI.out HZ0.out HZ1.out HZ2.out rfl (by decide) wF.heap.size 0 0 [] rfl HOA.out ao N cap (rcells S) rfl (by rw [rcells_len, HN.out]) (hsB.out _ HB2.out) hnone.out (rcells_one S) (by unfold maxLen; omega) (by omega) HB2.out.size ?_
      intro gC cC wC hoC hgC
      rw [Nat.zero_add] at hoC ⊢
      rw [List.nil_append] at hoC
      have HB3 : Hid (Below w.heap.size w wC) := HB2.out.grown hgC HB2.out.size (fun k hk => by cases hk; exact HAB.out)
      have HOC : Hid (wC.ownsRow w.heap.size 59 6 (.slice (some ⟨gC, 0, none⟩) N cC) N (rcells S)) := hoC
      have HF3 : Hid (wC.heap[w0.heap.size]? = some (.cells #[.int .i64 a, .int .i64 c, .bool q0, .int .i64 q1, .int .i64 q2, .int .i64 q3] 59 (0, 0))) := (hgC.block _ (Array.getElem?_eq_some_iff.1 HF2.out).1 (fun e => HNE.out (Option.some.inj e))).trans HF2.out
      clear hoC hgC
      refine hK.out _ _ ?_ (fun hHeld => ?_)
      · exact hS.out _ HB3.out
      clear hK K
      try simp only [Act.put, List.setIfInBounds_toArray, List.set_cons_zero, List.set_cons_succ]
      refine stepOne (i := 11) rfl (by kernel_rfl) (fun K hK => ?_)
      refine step_append_list rfl (.tmp 40) (.tmp 44) 50 rfl w.heap.size 59 i0 _ 6 48 Tryz.underlying50 HI.out HZ0.out HZ1.out HZ2.out rfl (by decide) gC N cC (rcells S) rfl HOC.out (some ⟨w0.heap.size, 0, none⟩) 1 1 [.int .i64 a, .int .i64 c, .bool q0, .int .i64 q1, .int .i64 q2, .int .i64 q3] rfl rfl (six_cells HF3.out) (fun e => by cases e) (by simp [Value.oneCell']) (by unfold maxLen; omega) (by omega) HB3.out.size ?_
      intro g6 c6 w6 ho6 hg6
      have HB4 : Hid (Below w.heap.size w w6) := HB3.out.grown hg6 HB3.out.size (fun k hk => by cases hk; exact (own_lt HOC.out).1)
      have HO6 : Hid (w6.ownsRow w.heap.size 59 6 (.slice (some ⟨g6, 0, none⟩) (N + 1) c6) (N + 1) (rcells S ++ [.int .i64 a, .int .i64 c, .bool q0, .int .i64 q1, .int .i64 q2, .int .i64 q3])) := ho6
      clear ho6 hg6
      refine hK.out _ _ ?_ (fun hHeld => ?_)
      · exact hS.out _ HB4.out
      clear hK K
      try simp only [Act.put, List.setIfInBounds_toArray, List.set_cons_zero, List.set_cons_succ]
      refine takeV (i := 12) (v := ?_) rfl (by kernel_rfl) (by kernel_rfl) (by kernel_rfl) (fun _ _ _ h => hpan.out _ _ _ _ _ h) (by rfl) (by assumption) ?_ ?_
      rotate_left
      · (intro w' hSw; (try dsimp only at hSw); go_simp; try (with_reducible rfl))
      try simp only [Act.put, List.setIfInBounds_toArray, List.set_cons_zero, List.set_cons_succ]
      refine takeV (i := 13) (v := ?_) rfl (by kernel_rfl) (by kernel_rfl) (by kernel_rfl) (fun _ _ _ h => hpan.out _ _ _ _ _ h) (by rfl) (by assumption) ?_ ?_
      rotate_left
      · (intro w' hSw; (try dsimp only at hSw); go_simp; try (with_reducible rfl))
      try simp only [Act.put, List.setIfInBounds_toArray, List.set_cons_zero, List.set_cons_succ]
      refine stepOne (i := 14) rfl (by kernel_rfl) (fun K hK => ?_)
      have hcx := hcB.out w6 HB4.out
      have hzx : w6.frozen? ⟨q, 0, none⟩ = false := (HB4.out.frozen (p := ⟨q, 0, none⟩) hq).trans hz0.out
      go_simp
      clear hcx hzx
      refine hK.out _ _ ?_ (fun hHeld => ?_)
      · have hs6 := hS.out _ HB4.out
        exact ⟨(World.cell?_setCell_far _ _ _ _ hqk).trans hs6.1, (World.cell?_setCell_far _ _ _ _ hqk).trans hs6.2.1, (World.cell?_setCell_far _ _ _ _ hqp).trans hs6.2.2.1, (World.cell?_setCell_far _ _ _ _ hqp).trans hs6.2.2.2.1, (World.cell?_setCell_far _ _ _ _ hqp).trans hs6.2.2.2.2.1, (World.cell?_setCell_far _ _ _ _ hqp).trans hs6.2.2.2.2.2⟩
      clear hK K
      try simp only [Act.put, List.setIfInBounds_toArray, List.set_cons_zero, List.set_cons_succ]
      refine wpAnyH_done (by kernel_rfl) ?_ _
      exact hQ.out _ _ _ _ _ _ _ _ _ _ _ _ _ _ g6 c6 w6 HO6.out HB4.out
    refine consOne (i := 5) rfl (fun K hK => ?_) ?_
    · have hcx := hcB.out wF HB1.out
      go_simp
      clear hcx
      refine hK.out _ _ ?_ (fun hHeld => ?_)
      · exact hS.out _ HB1.out
      clear hK K
      try simp only [Act.put, List.setIfInBounds_toArray, List.set_cons_zero, List.set_cons_succ]
      refine stepOne (i := 1) rfl (by kernel_rfl) (fun K hK => ?_)
      go_simp
      obtain ⟨wA, hx⟩ : ∃ x, x = wF.alloc (.cells #[] 59) := ⟨_, rfl⟩
      rw [← hx]
      have HB2 : Hid (Below w.heap.size w wA) := by rw [hx]; exact bal HB1.out _
      have HOA : Hid (wA.ownsRow w.heap.size 59 6 (.slice (some ⟨wF.heap.size, 0, none⟩) 0 0) 0 []) := by rw [hx]; exact own_empty _ HB1.out.size
      have HF2 : Hid (wA.heap[w0.heap.size]? = some (.cells #[.int .i64 a, .int .i64 c, .bool q0, .int .i64 q1, .int .i64 q2, .int .i64 q3] 59 (0, 0))) := by rw [hx]; exact (Below.heap_alloc _ _ _ (Array.getElem?_eq_some_iff.1 HF1.out).1).trans HF1.out
      have HAB : Hid (w.heap.size ≤ wF.heap.size) := HB1.out.size
      have HNE : Hid (w0.heap.size ≠ wF.heap.size) := Nat.ne_of_lt (Array.getElem?_eq_some_iff.1 HF1.out).1
      clear hx
      refine hK.out _ _ ?_ (fun hHeld => ?_)
      · exact hS.out _ HB2.out
      clear hK K
      try simp only [Act.put, List.setIfInBounds_toArray, List.set_cons_zero, List.set_cons_succ]
      refine stepOne (i := 6) rfl (by kernel_rfl) (fun K hK => ?_)
      refine step_append_list rfl (.tmp 35) (.tmp 39) 50 rfl w.heap.size 59 i0 _ 6 48 Tryz.underlying50 HI.out HZ0.out HZ1.out HZ2.out rfl (by decide) wF.heap.size 0 0 [] rfl HOA.out ao N cap (rcells S) rfl (by rw [rcells_len, HN.out]) (hsB.out _ HB2.out) hnone.out (rcells_one S) (by unfold maxLen; omega) (by omega) HB2.out.size ?_
      intro gC cC wC hoC hgC
      rw [Nat.zero_add] at hoC ⊢
      rw [List.nil_append] at hoC
      have HB3 : Hid (Below w.heap.size w wC) := HB2.out.grown hgC HB2.out.size (fun k hk => by cases hk; exact HAB.out)
      have HOC : Hid (wC.ownsRow w.heap.size 59 6 (.slice (some ⟨gC, 0, none⟩) N cC) N (rcells S)) := hoC
      have HF3 : Hid (wC.heap[w0.heap.size]? = some (.cells #[.int .i64 a, .int .i64 c, .bool q0, .int .i64 q1, .int .i64 q2, .int .i64 q3] 59 (0, 0))) := (hgC.block _ (Array.getElem?_eq_some_iff.1 HF2.out).1 (fun e => HNE.out (Option.some.inj e))).trans HF2.out
      clear hoC hgC
      refine hK.out _ _ ?_ (fun hHeld => ?_)
      · exact hS.out _ HB3.out
      clear hK K
      try simp only [Act.put, List.setIfInBounds_toArray, List.set_cons_zero, List.set_cons_succ]
      refine stepOne (i := 11) rfl (by kernel_rfl) (fun K hK => ?_)
      refine step_append_list rfl (.tmp 40) (.tmp 44) 50 rfl w.heap.size 59 i0 _ 6 48 Tryz.underlying50 HI.out HZ0.out HZ1.out HZ2.out rfl (by decide) gC N cC (rcells S) rfl HOC.out (some ⟨w0.heap.size, 0, none⟩) 1 1 [.int .i64 a, .int .i64 c, .bool q0, .int .i64 q1, .int .i64 q2, .int .i64 q3] rfl rfl (six_cells HF3.out) (fun e => by cases e) (by simp [Value.oneCell']) (by unfold maxLen; omega) (by omega) HB3.out.size ?_
      intro g6 c6 w6 ho6 hg6
      have HB4 : Hid (Below w.heap.size w w6) := HB3.out.grown hg6 HB3.out.size (fun k hk => by cases hk; exact (own_lt HOC.out).1)
      have HO6 : Hid (w6.ownsRow w.heap.size 59 6 (.slice (some ⟨g6, 0, none⟩) (N + 1) c6) (N + 1) (rcells S ++ [.int .i64 a, .int .i64 c, .bool q0, .int .i64 q1, .int .i64 q2, .int .i64 q3])) := ho6
      clear ho6 hg6
      refine hK.out _ _ ?_ (fun hHeld => ?_)
      · exact hS.out _ HB4.out
      clear hK K
      try simp only [Act.put, List.setIfInBounds_toArray, List.set_cons_zero, List.set_cons_succ]
      refine takeV (i := 12) (v := ?_) rfl (by kernel_rfl) (by kernel_rfl) (by kernel_rfl) (fun _ _ _ h => hpan.out _ _ _ _ _ h) (by rfl) (by assumption) ?_ ?_
      rotate_left
      · (intro w' hSw; (try dsimp only at hSw); go_simp; try (with_reducible rfl))
      try simp only [Act.put, List.setIfInBounds_toArray, List.set_cons_zero, List.set_cons_succ]
      refine takeV (i := 13) (v := ?_) rfl (by kernel_rfl) (by kernel_rfl) (by kernel_rfl) (fun _ _ _ h => hpan.out _ _ _ _ _ h) (by rfl) (by assumption) ?_ ?_
      rotate_left
      · (intro w' hSw; (try dsimp only at hSw); go_simp; try (with_reducible rfl))
      try simp only [Act.put, List.setIfInBounds_toArray, List.set_cons_zero, List.set_cons_succ]
      refine stepOne (i := 14) rfl (by kernel_rfl) (fun K hK => ?_)
      have hcx := hcB.out w6 HB4.out
      have hzx : w6.frozen? ⟨q, 0, none⟩ = false := (HB4.out.frozen (p := ⟨q, 0, none⟩) hq).trans hz0.out
      go_simp
      clear hcx hzx
      refine hK.out _ _ ?_ (fun hHeld => ?_)
      · have hs6 := hS.out _ HB4.out
        exact ⟨(World.cell?_setCell_far _ _ _ _ hqk).trans hs6.1, (World.cell?_setCell_far _ _ _ _ hqk).trans hs6.2.1, (World.cell?_setCell_far _ _ _ _ hqp).trans hs6.2.2.1, (World.cell?_setCell_far _ _ _ _ hqp).trans hs6.2.2.2.1, (World.cell?_setCell_far _ _ _ _ hqp).trans hs6.2.2.2.2.1, (World.cell?_setCell_far _ _ _ _ hqp).trans hs6.2.2.2.2.2⟩
      clear hK K
      try simp only [Act.put, List.setIfInBounds_toArray, List.set_cons_zero, List.set_cons_succ]
      refine wpAnyH_done (by kernel_rfl) ?_ _
      exact hQ.out _ _ _ _ _ _ _ _ _ _ _ _ _ _ g6 c6 w6 HO6.out HB4.out
    exact AllReadyH.nil
  exact AllReadyH.nil
end Go.Proofs.YthcgdgpflhdchaaGreatDoor.Ptlb

/- What Put of the document's answer does. -/
namespace Go.Proofs.YthcgdgpflhdchaaGreatDoor.Ptlb
open Go.Proofs.YthcgdgpflhdchaaGreatDoor.Pbase
open Go.RowKit Go.ChangeMaps
set_option linter.unusedVariables false

set_option maxHeartbeats 8000000 in
set_option maxRecDepth 100000 in
theorem rput_any (n₀ q cap R : Nat) (ao : Option Addr) (S : List En) (k : Ky) (pt : Pt) (w : World) (h : RefIs n₀ w q R ao cap S) (hn : n₀ ≤ w.heap.size) (hl : S.length ≤ R) (hR : R ≤ 8) :
    Calls Tryz.prog 33 #[.pointer (some ⟨q, 0, none⟩), .agg #[.int .i64 k.1, .int .i64 k.2], .agg #[.bool pt.1, .int .i64 pt.2.1, .int .i64 pt.2.2.1, .int .i64 pt.2.2.2]] w fun e w' =>
      e = .returned (.tuple #[]) ∧ (∃ ao' cap', RefIs n₀ w' q R ao' cap' (putS R S k pt)) ∧ Other w w' ∧ ∀ B, B ≤ n₀ → Below B w w' := by
  have H : Hid (RefIs n₀ w q R ao cap S) := h
  clear h
  obtain ⟨a, c⟩ := k
  obtain ⟨q0, q1, q2, q3⟩ := pt
  obtain ⟨N, hN⟩ : ∃ N, N = S.length := ⟨_, rfl⟩
  have HN : Hid (N = S.length) := hN
  rw [← hN] at hl
  clear hN
  go_enter Tryz.func33, Tryz.ntmps33
  go_wp2
  obtain ⟨w1, hw1⟩ : ∃ w1, w1 = (w.alloc (.cells #[.int .i64 a, .int .i64 c] 55)).alloc (.cells #[.bool q0, .int .i64 q1, .int .i64 q2, .int .i64 q3] 57) := ⟨_, rfl⟩
  rw [← hw1]
  have HR1 : Hid (RefIs n₀ w1 q R ao cap S) := by rw [hw1]; exact (H.out.alloc _).alloc _
  have HB1 : Hid (Below w.heap.size w w1) := by rw [hw1]; exact bal (bal (Below.refl _ _) _) _
  have HK1 : Hid (w1.heap[w.heap.size]? = some (.cells #[.int .i64 a, .int .i64 c] 55 (0, 0))) := by
    rw [hw1]
    exact (Below.heap_alloc _ _ _ (by simp)).trans (heap_alloc_new w _)
  have HP1 : Hid (w1.heap[w.heap.size + 1]? = some (.cells #[.bool q0, .int .i64 q1, .int .i64 q2, .int .i64 q3] 57 (0, 0))) := by rw [hw1]; exact row_new2 _ _ _ _
  clear hw1
  go_loopw [6] (fun i wr => ∃ j : Nat, j ≤ N ∧ i = .int .i64 j ∧ (∀ l x, l < j → S[l]? = some x → x.1 ≠ (a, c)) ∧ RefIs n₀ wr q R ao cap S ∧ Below w.heap.size w wr ∧ wr.heap[w.heap.size]? = some (.cells #[.int .i64 a, .int .i64 c] 55 (0, 0)) ∧ wr.heap[w.heap.size + 1]? = some (.cells #[.bool q0, .int .i64 q1, .int .i64 q2, .int .i64 q3] 57 (0, 0))) (fun i _ => N - (intOf i).toNat)
  case atStart => exact ⟨0, by omega, rfl, fun l x hl => by omega, HR1.out, HB1.out, HK1.out, HP1.out⟩
  case round =>
    obtain ⟨j, hj, rfl, hne, hR', hB, hK, hP⟩ := hrel
    have HNE : Hid (∀ l x, l < j → S[l]? = some x → x.1 ≠ (a, c)) := hne
    have HR : Hid (RefIs n₀ wr q R ao cap S) := hR'
    have HB : Hid (Below w.heap.size w wr) := hB
    have HK : Hid (wr.heap[w.heap.size]? = some (.cells #[.int .i64 a, .int .i64 c] 55 (0, 0))) := hK
    have HP : Hid (wr.heap[w.heap.size + 1]? = some (.cells #[.bool q0, .int .i64 q1, .int .i64 q2, .int .i64 q3] 57 (0, 0))) := hP
    clear hne hR' hB hK hP HR1 HB1 HK1 HP1
    have c0 : wr.cell? ⟨q, 0, none⟩ = some (.slice ao N cap) := by rw [HN.out]; exact HR.out.cell
    have e0 : wr.cell? ⟨w.heap.size, 0, none⟩ = some (.int .i64 a) := by rw [cell_of_row wr _ 0 _ _ _ HK.out]; rfl
    have e1 : wr.cell? ⟨w.heap.size, 1, none⟩ = some (.int .i64 c) := by rw [cell_of_row wr _ 1 _ _ _ HK.out]; rfl
    have p0 : wr.cell? ⟨w.heap.size + 1, 0, none⟩ = some (.bool q0) := by rw [cell_of_row wr _ 0 _ _ _ HP.out]; rfl
    have p1 : wr.cell? ⟨w.heap.size + 1, 1, none⟩ = some (.int .i64 q1) := by rw [cell_of_row wr _ 1 _ _ _ HP.out]; rfl
    have p2 : wr.cell? ⟨w.heap.size + 1, 2, none⟩ = some (.int .i64 q2) := by rw [cell_of_row wr _ 2 _ _ _ HP.out]; rfl
    have p3 : wr.cell? ⟨w.heap.size + 1, 3, none⟩ = some (.int .i64 q3) := by rw [cell_of_row wr _ 3 _ _ _ HP.out]; rfl
    by_cases hlt : j < N
    · have hji : (j : Int) < (N : Int) := by omega
      obtain ⟨x, hx⟩ : ∃ x, S[j]? = some x := ⟨S[j]'(by rw [← HN.out]; exact hlt), List.getElem?_eq_getElem _⟩
      obtain ⟨g, off, rfl, hg, hgq, hgl, hc, hz⟩ := HR.out.ent hx
      have HX : Hid (S[j]? = some x) := hx
      have HG : Hid (n₀ ≤ g) := hg
      clear hx hg
      obtain ⟨⟨k1, k2⟩, ⟨u0, u1, u2, u3⟩, tt⟩ := x
      have g0 : wr.cell? ⟨g, off + j * 6, none⟩ = some (.int .i64 k1) := hc 0 (by omega)
      have g1 : wr.cell? ⟨g, off + j * 6 + 1, none⟩ = some (.int .i64 k2) := hc 1 (by omega)
      have g2 : wr.cell? ⟨g, off + j * 6 + 2, none⟩ = some (.bool u0) := hc 2 (by omega)
      have g3 : wr.cell? ⟨g, off + j * 6 + 3, none⟩ = some (.int .i64 u1) := hc 3 (by omega)
      have g4 : wr.cell? ⟨g, off + j * 6 + 4, none⟩ = some (.int .i64 u2) := hc 4 (by omega)
      have g5 : wr.cell? ⟨g, off + j * 6 + 5, none⟩ = some (.int .i64 u3) := hc 5 (by omega)
      clear hc
      by_cases he : k1 = a ∧ k2 = c
      · obtain ⟨rfl, rfl⟩ := he
        have heq : ∀ w, (binOp .eql 55 (.agg #[.int .i64 k1, .int .i64 k2]) (.agg #[.int .i64 k1, .int .i64 k2])).run Tryz.prog w = .ok (.bool true) w := fun w => by have := eqlK (k1, k2) (k1, k2) w; simpa using this
        have z2 := hz (off + j * 6 + 2)
        have z3 := hz (off + j * 6 + 3)
        have z4 := hz (off + j * 6 + 4)
        have z5 := hz (off + j * 6 + 5)
        have hgk : g ≠ w.heap.size := by
          intro e
          have := HR.out.ent HX.out
          obtain ⟨g', off', e1, _, _, _, hcc, _⟩ := this
          simp at e1
          rcases HR.out.held with ⟨e2, _⟩ | ⟨g2, o2, cur, e2, _, hr, _⟩
          · have := HX.out; rw [e2] at this; simp at this
          · simp at e2
            rw [← e2.1, e] at hr
            rw [HK.out] at hr
            cases hr
        have hgp : g ≠ w.heap.size + 1 := by
          intro e
          rcases HR.out.held with ⟨e2, _⟩ | ⟨g2, o2, cur, e2, _, hr, _⟩
          · have := HX.out; rw [e2] at this; simp at this
          · simp at e2
            rw [← e2.1, e] at hr
            rw [HP.out] at hr
            cases hr
        clear hz
        go_wp2
        go_quiet (fail)
        obtain ⟨w5, hw5⟩ : ∃ w5, w5 = wr.drewN nq := ⟨_, rfl⟩
        have HR5 : Hid (RefIs n₀ w5 q R (some ⟨g, off, none⟩) cap S) := by rw [hw5]; exact HR.out.drewN _
        have HB5 : Hid (Below w.heap.size w w5) := by rw [hw5]; exact below_drewN HB.out _
        have HH5 : Hid (w5.heap = wr.heap) := by rw [hw5]; exact rfl
        have d0 : w5.cell? ⟨q, 0, none⟩ = some (.slice (some ⟨g, off, none⟩) N cap) := by rw [hw5]; exact c0
        have d1 : w5.cell? ⟨w.heap.size + 1, 0, none⟩ = some (.bool q0) := by rw [hw5]; exact p0
        have d2 : w5.cell? ⟨w.heap.size + 1, 1, none⟩ = some (.int .i64 q1) := by rw [hw5]; exact p1
        have d3 : w5.cell? ⟨w.heap.size + 1, 2, none⟩ = some (.int .i64 q2) := by rw [hw5]; exact p2
        have d4 : w5.cell? ⟨w.heap.size + 1, 3, none⟩ = some (.int .i64 q3) := by rw [hw5]; exact p3
        have f2 : w5.cell? ⟨g, off + j * 6 + 2, none⟩ = some (.bool u0) := by rw [hw5]; exact g2
        have f3 : w5.cell? ⟨g, off + j * 6 + 3, none⟩ = some (.int .i64 u1) := by rw [hw5]; exact g3
        have f4 : w5.cell? ⟨g, off + j * 6 + 4, none⟩ = some (.int .i64 u2) := by rw [hw5]; exact g4
        have f5 : w5.cell? ⟨g, off + j * 6 + 5, none⟩ = some (.int .i64 u3) := by rw [hw5]; exact g5
        have y2 : w5.frozen? ⟨g, off + j * 6 + 2, none⟩ = false := by rw [hw5]; exact z2
        have y3 : w5.frozen? ⟨g, off + j * 6 + 3, none⟩ = false := by rw [hw5]; exact z3
        have y4 : w5.frozen? ⟨g, off + j * 6 + 4, none⟩ = false := by rw [hw5]; exact z4
        have y5 : w5.frozen? ⟨g, off + j * 6 + 5, none⟩ = false := by rw [hw5]; exact z5
        rw [← hw5]
        clear hw5 c0 e0 e1 p0 p1 p2 p3 g0 g1 g2 g3 g4 g5 z2 z3 z4 z5
        go_wp2
        go_region_held3 (fun w' => w'.cell? ⟨q, 0, none⟩ = some (.slice (some ⟨g, off, none⟩) N cap) ∧ w'.cell? ⟨w.heap.size + 1, 0, none⟩ = some (.bool q0) ∧ w'.cell? ⟨w.heap.size + 1, 1, none⟩ = some (.int .i64 q1) ∧ w'.cell? ⟨w.heap.size + 1, 2, none⟩ = some (.int .i64 q2) ∧ w'.cell? ⟨w.heap.size + 1, 3, none⟩ = some (.int .i64 q3)) (go_keep) (fail)
        go_wp2

        have hrow : Hid (∃ cur, w5.heap[g]? = some (.cells cur 59 (0, 0))) := by
          rcases HR5.out.held with ⟨e2, _⟩ | ⟨g2, o2, cur, e2, _, hr, _⟩
          · have := HX.out; rw [e2] at this; simp at this
          · simp at e2
            rw [← e2.1] at hr
            exact ⟨cur, hr⟩
        refine bodyPost_ret (v := .tuple #[]) (by simp [results, Tryz.results33, go_sem]) rfl ⟨rfl, ⟨some ⟨g, off, none⟩, cap, ?_⟩, ?_, fun B hB => ?_⟩
        · rw [putS_at (by rw [← HN.out]; exact hl) (q0, q1, q2, q3) HNE.out HX.out rfl]
          exact (HR5.out.set4 HX.out q0 q1 q2 q3 _).drew
        · obtain ⟨cur, hr⟩ := hrow.out
          refine (Other.of_below HB5.out).trans (other_set hr (.inr rfl) rfl rfl rfl (by simp) (fun i hi => ?_))
          exact (Below.heap_setCell _ _ _ i hi).trans ((Below.heap_setCell _ _ _ i hi).trans ((Below.heap_setCell _ _ _ i hi).trans (Below.heap_setCell _ _ _ i hi)))
        · have hg := HG.out
          exact (((((HB5.out.mono (by omega)).setCell (p := ⟨g, _, none⟩) (by simp only; omega) _).setCell (p := ⟨g, _, none⟩) (by simp only; omega) _).setCell (p := ⟨g, _, none⟩) (by simp only; omega) _).setCell (p := ⟨g, _, none⟩) (by simp only; omega) _).drew
      · have hde : decide ((k1, k2) = (a, c)) = false := by simpa using he
        have heq : ∀ w, (binOp .eql 55 (.agg #[.int .i64 k1, .int .i64 k2]) (.agg #[.int .i64 a, .int .i64 c])).run Tryz.prog w = .ok (.bool false) w := fun w => by have := eqlK (k1, k2) (a, c) w; rwa [hde] at this
        have HE : Hid (¬ (k1 = a ∧ k2 = c)) := he
        clear hde he hz
        go_wp2
        go_quiet (fail)
        obtain ⟨w5, hw5⟩ : ∃ w5, w5 = wr.drewN nq := ⟨_, rfl⟩
        rw [← hw5]
        have HR5 : Hid (RefIs n₀ w5 q R (some ⟨g, off, none⟩) cap S) := by rw [hw5]; exact HR.out.drewN _
        have HB5 : Hid (Below w.heap.size w w5) := by rw [hw5]; exact below_drewN HB.out _
        have HK5 : Hid (w5.heap[w.heap.size]? = some (.cells #[.int .i64 a, .int .i64 c] 55 (0, 0))) := by rw [hw5]; exact HK.out
        have HP5 : Hid (w5.heap[w.heap.size + 1]? = some (.cells #[.bool q0, .int .i64 q1, .int .i64 q2, .int .i64 q3] 57 (0, 0))) := by rw [hw5]; exact HP.out
        clear hw5
        go_wp2
        go_roundw
        case rel =>
          refine ⟨j + 1, by omega, by go_num, fun l x hlx hx => ?_, HR5.out, HB5.out, HK5.out, HP5.out⟩
          by_cases e : l = j
          · subst e
            have := HX.out
            rw [hx] at this
            cases this
            intro e2
            exact HE.out (by simpa using e2)
          · exact HNE.out l x (by omega) hx
        case measure => simp [intOf]; omega
    · obtain rfl : j = N := by omega
      have hji : ¬ (j : Int) < (j : Int) := by omega
      have HH : Hid (hasK S (a, c) = false) := none_before HNE.out (by rw [← HN.out]; exact Nat.le_refl _)
      have z0 := HR.out.free 0
      have HQK : Hid (q ≠ w.heap.size) := by
        intro e
        have := HR.out.row
        rw [e, HK.out] at this
        cases this
      have HQP : Hid (q ≠ w.heap.size + 1) := by
        intro e
        have := HR.out.row
        rw [e, HP.out] at this
        cases this
      have HC0 : Hid (wr.cell? ⟨q, 0, none⟩ = some (.slice ao j cap)) := c0
      have HZ0 : Hid (wr.frozen? ⟨q, 0, none⟩ = false) := z0
      have HKEY : Hid (wr.cell? ⟨w.heap.size, 0, none⟩ = some (.int .i64 a) ∧ wr.cell? ⟨w.heap.size, 1, none⟩ = some (.int .i64 c) ∧ wr.cell? ⟨w.heap.size + 1, 0, none⟩ = some (.bool q0) ∧ wr.cell? ⟨w.heap.size + 1, 1, none⟩ = some (.int .i64 q1) ∧ wr.cell? ⟨w.heap.size + 1, 2, none⟩ = some (.int .i64 q2) ∧ wr.cell? ⟨w.heap.size + 1, 3, none⟩ = some (.int .i64 q3)) := ⟨e0, e1, p0, p1, p2, p3⟩
      have HSRC : Hid (∀ w', Below wr.heap.size wr w' → ∀ b, ao = some b → ∀ i u, (rcells S)[i]? = some u → w'.cell? (b.add i) = some u) := fun w' hB => (HR.out.more hB).src
      have HNONE : Hid (ao = none → j = 0) := fun e => by rw [HN.out]; exact HR.out.nil e
      clear z0 e0 e1 p0 p1 p2 p3
      go_wp2
      refine wp_region_noPanic ?_
      refine region6 q w.heap.size (w.heap.size + 1) j cap ao S a c q0 q1 q2 q3 wr _ _ _ _ _ _ _ _ _ _ _ _ _ _ _ _ _ _ _ _ _ _ _ _ _ _ _ _ _ _ _ _ _ _ _ _ _ _ _ _ _ _ _ _ _ _ _ _ _ _ _ _ _ _ _ _ _ _ _ _ _ _ _ _ HN (by omega) HR.out.lt HQK.out HQP.out HC0 HZ0 HSRC HNONE HKEY ?_ (fun _ _ _ _ _ h => h)
      unfold Hid
      intro v34 v35 v36 v37 v38 v39 v40 v41 v42 v43 v44 v45 v46 v47 g6 c6 w6 ho6 hb6
      have HO6 : Hid (w6.ownsRow wr.heap.size 59 6 (.slice (some ⟨g6, 0, none⟩) (j + 1) c6) (j + 1) (rcells S ++ [.int .i64 a, .int .i64 c, .bool q0, .int .i64 q1, .int .i64 q2, .int .i64 q3])) := ho6
      have HB6 : Hid (Below wr.heap.size wr w6) := hb6
      clear ho6 hb6
      obtain ⟨w7, hw7⟩ : ∃ x, x = w6.setCell ⟨q, 0, none⟩ (.slice (some ⟨g6, 0, none⟩) (j + 1) c6) := ⟨_, rfl⟩
      rw [← hw7]
      refine NoPanic.normal ?_
      have HPN := putS_none (R := R) (k := (a, c)) (q0, q1, q2, q3) HH.out
      obtain ⟨S7, hS7⟩ : ∃ x, x = S ++ [((a, c), (q0, q1, q2, q3), turnS S (a, c))] := ⟨_, rfl⟩
      rw [← hS7, ← HN.out] at HPN
      have HPS : Hid (putS R S (a, c) (q0, q1, q2, q3) = if R < j + 1 then S7.tail else S7) := HPN
      have HL7 : Hid (S7.length = j + 1) := by
        have : S7.length = j + 1 := by rw [hS7, HN.out]; simp
        exact this
      have HR7 : Hid (RefIs n₀ w7 q R (some ⟨g6, 0, none⟩) c6 S7) := by
        have ho : w6.ownsRow wr.heap.size 59 6 (.slice (some ⟨g6, 0, none⟩) S7.length c6) S7.length (rcells S7) := by
          rw [HL7.out, hS7, rcells_snoc]
          exact HO6.out
        have := HR.out.lay (Nat.le_trans hn HB.out.size) (HB6.out.block q HR.out.lt) ho
        rw [HL7.out, ← hw7] at this
        exact this
      have HO7 : Hid (Other w w7) := by
        refine (Other.of_below (belowt HB.out HB6.out)).trans (other_set ((HB6.out.block q HR.out.lt).trans HR.out.row) (.inl rfl) (by rw [hw7]; rfl) (by rw [hw7]; rfl) (by rw [hw7]; rfl) (by rw [hw7]; simp) (fun i hi => ?_))
        rw [hw7]
        exact Below.heap_setCell _ ⟨q, 0, none⟩ _ i hi
      have HB7 : Hid (∀ B, B ≤ n₀ → Below B w w7) := fun B hB => by
        rw [hw7]
        have hb := HR.out.base
        exact ((belowt HB.out HB6.out).mono (by omega)).setCell (p := ⟨q, 0, none⟩) (by simp only; omega) _
      have hc6 : j + 1 ≤ c6 := by have := HR7.out.capn; rw [HL7.out] at this; exact this
      have r0 : w7.cell? ⟨q, 0, none⟩ = some (.slice (some ⟨g6, 0, none⟩) (j + 1) c6) := by have := HR7.out.cell; rwa [HL7.out] at this
      have r1 := HR7.out.room
      have r2 := HR7.out.free 0
      clear hw7 HPN hS7 HC0 HZ0 HKEY HSRC HNONE HO6
      by_cases hgt : R < j + 1
      · have hgt' : (R : Int) < (j : Int) + 1 := by omega
        have hPE : Hid (putS R S (a, c) (q0, q1, q2, q3) = S7.tail) := by rw [HPS.out, if_pos hgt]; exact rfl
        obtain ⟨x7, S8, e7⟩ : ∃ x S8, S7 = x :: S8 := by
          cases S7 with
          | nil => have := HL7.out; simp at this
          | cons x S8 => exact ⟨x, S8, rfl⟩
        subst e7
        have HL8 : Hid (S8.length = j) := by
          have := HL7.out
          simp at this
          exact this
        go_wp2
        go_quiet (fail)
        obtain ⟨w8, hw8⟩ : ∃ x, x = w7.drewN nq := ⟨_, rfl⟩
        have s0 : w8.cell? ⟨q, 0, none⟩ = some (.slice (some ⟨g6, 0, none⟩) (j + 1) c6) := by rw [hw8]; exact r0
        have s2 : w8.frozen? ⟨q, 0, none⟩ = false := by rw [hw8]; exact r2
        have HR8 : Hid (RefIs n₀ w8 q R (some ⟨g6, 0, none⟩) c6 (x7 :: S8)) := by rw [hw8]; exact HR7.out.drewN _
        have HO8 : Hid (Other w w8) := by rw [hw8]; exact ⟨HO7.out.os, HO7.out.tape, HO7.out.output, HO7.out.size, HO7.out.block⟩
        have HB8 : Hid (∀ B, B ≤ n₀ → Below B w w8) := fun B hB => by rw [hw8]; exact ⟨(HB7.out B hB).os, (HB7.out B hB).tape, (HB7.out B hB).output, (HB7.out B hB).size, (HB7.out B hB).block⟩
        rw [← hw8]
        clear hw8 r0 r1 r2
        have hci : (j : Int) + 1 ≤ (c6 : Int) := by omega
        have h1j : (1 : Int) ≤ (j : Int) + 1 := by omega
        go_wp2
        · go_end0
          have hj0 : j = 0 := by omega
          have hS8 : S8 = [] := List.eq_nil_of_length_eq_zero (by rw [HL8.out]; exact hj0)
          refine ⟨rfl, ⟨some ⟨g6, 0, none⟩, 0, ?_⟩, ?_, fun B hB => ?_⟩
          · rw [hPE.out, List.tail_cons, hS8, hj0]
            rw [setCell_eq_setRow w8 q 0 _ _ _ _ HR8.out.row]
            exact ⟨setRow_heap _ _ _ _ _ _ HR8.out.row, HR8.out.base, Nat.le_refl _, .inl ⟨rfl, .inr ⟨_, rfl⟩⟩⟩
          · exact HO8.out.trans (other_set HR8.out.row (.inl rfl) rfl rfl rfl (by simp) (fun i hi => Below.heap_setCell _ ⟨q, 0, none⟩ _ i hi))
          · have hb := HR8.out.base
            exact (HB8.out B hB).setCell (p := ⟨q, 0, none⟩) (by simp only; omega) _
        · go_end0
          refine ⟨rfl, ⟨some ⟨g6, 6, none⟩, c6 - 1, ?_⟩, ?_, fun B hB => ?_⟩
          · have := HR8.out.tail
            rw [HL8.out, Nat.zero_add] at this
            rw [hPE.out, List.tail_cons]
            exact this
          · exact HO8.out.trans (other_set HR8.out.row (.inl rfl) rfl rfl rfl (by simp) (fun i hi => Below.heap_setCell _ ⟨q, 0, none⟩ _ i hi))
          · have hb := HR8.out.base
            exact (HB8.out B hB).setCell (p := ⟨q, 0, none⟩) (by simp only; omega) _
      · have hgt' : ¬ (R : Int) < (j : Int) + 1 := by omega
        have hPE : Hid (putS R S (a, c) (q0, q1, q2, q3) = S7) := by rw [HPS.out, if_neg hgt]; exact rfl
        go_wp2
        go_quiet (fail)
        go_wp2
        go_end0
        refine ⟨rfl, ⟨_, _, by rw [hPE.out]; exact HR7.out.drewN _⟩, ⟨HO7.out.os, HO7.out.tape, HO7.out.output, HO7.out.size, HO7.out.block⟩, fun B hB => ⟨(HB7.out B hB).os, (HB7.out B hB).tape, (HB7.out B hB).output, (HB7.out B hB).size, (HB7.out B hB).block⟩⟩
end Go.Proofs.YthcgdgpflhdchaaGreatDoor.Ptlb
