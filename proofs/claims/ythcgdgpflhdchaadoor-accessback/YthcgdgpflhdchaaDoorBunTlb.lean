/- Texts on finished packages, joined. -/
import Derived.Test.YthcgdgpflhdchaaDoorBunBase
import Derived.Test.YthcgdgpflhdchaaDoorRows
import Derived.Laws.CopyRow
import Derived.Below
import Derived.RowKit3
import Derived.WalkKit
import Derived.Maps.RangeRun
import Derived.Laws.StructEq
import Derived.Maps.OwnSet
import Derived.ProofKit
import Derived.OpenShut
import Derived.Outline
import Derived.Deep.QuietTactic
import Derived.Deep.RegionHeld3
import Derived.Maps.RangeWalk
import Derived.Shelf.SlSortCmp.WholeK
import Derived.Shelf.SlicesG.Cmp
import Derived.BigQuiet
import Derived.Maps.AppendAt
import Derived.Carry
import Derived.Deep.RegionWith
import Derived.Deep.RegionLaw

/- What is remembered, as a list of entries, the oldest first; a map in one block that holds them; what look-up, store, delete, clear and len make of it. -/
namespace Go.Proofs.YthcgdgpflhdchaaDoor.Ptlb
open Go.Proofs.YthcgdgpflhdchaaDoor.Pbase
open Go.RowKit Go.ChangeMaps
set_option linter.unusedVariables false

/-- A key; a mapping; an entry: its key, its mapping, its turn. -/
abbrev Ky := Int × Int
abbrev Pt := Bool × Int × Int × Int
abbrev En := Ky × Pt × Int
def kv (k : Ky) : Value := .agg #[.int .i64 k.1, .int .i64 k.2]
def pv (p : Pt) : Value := .agg #[.bool p.1, .int .i64 p.2.1, .int .i64 p.2.2.1, .int .i64 p.2.2.2]
def ev (p : Pt) (t : Int) : Value := .agg #[.bool p.1, .int .i64 p.2.1, .int .i64 p.2.2.1, .int .i64 p.2.2.2, .int .i64 t]
def pt0 : Pt := (false, 0, 0, 0)

/-! ### The list -/
def hasK (S : List En) (k : Ky) : Bool := S.any fun x => decide (x.1 = k)
def ptK : List En → Ky → Pt
  | [], _ => pt0
  | x :: r, k => if x.1 = k then x.2.1 else ptK r k
def tnK : List En → Ky → Int
  | [], _ => 0
  | x :: r, k => if x.1 = k then x.2.2 else tnK r k
def findS : List En → Ky → Nat → Option (Nat × Value)
  | [], _, _ => none
  | x :: r, k, i => if x.1 = k then some (i, ev x.2.1 x.2.2) else findS r k (i + 1)
def putM : List En → Ky → Pt → Int → List En
  | [], k, p, t => [(k, p, t)]
  | x :: r, k, p, t => if x.1 = k then (k, p, t) :: r else x :: putM r k p t
def delM : List En → Ky → List En
  | [], _ => []
  | x :: r, k => if x.1 = k then r else x :: delM r k
theorem findS_none : ∀ (S : List En) (k : Ky) (i : Nat), hasK S k = false → findS S k i = none ∧ ptK S k = pt0 ∧ tnK S k = 0
  | [], _, _, _ => ⟨rfl, rfl, rfl⟩
  | x :: r, k, i, h => by
    simp only [hasK, List.any_cons, Bool.or_eq_false_iff, decide_eq_false_iff_not] at h
    simp only [findS, ptK, tnK, if_neg h.1]
    exact findS_none r k (i + 1) h.2
theorem findS_some : ∀ (S : List En) (k : Ky) (i : Nat), hasK S k = true → ∃ j, findS S k i = some (i + j, ev (ptK S k) (tnK S k)) ∧ S[j]? = some (k, ptK S k, tnK S k)
  | [], _, _, h => by simp [hasK] at h
  | x :: r, k, i, h => by
    by_cases e : x.1 = k
    · refine ⟨0, by simp [findS, ptK, tnK, e], ?_⟩
      simp only [ptK, tnK, if_pos e, List.getElem?_cons_zero]
      rw [← e]
    · have h' : hasK r k = true := by simpa [hasK, e] using h
      obtain ⟨j, h1, h2⟩ := findS_some r k (i + 1) h'
      refine ⟨j + 1, ?_, ?_⟩
      · simp only [findS, ptK, tnK, if_neg e, h1]
        congr 2; omega
      · simpa [ptK, tnK, e] using h2

/-! ### The model's map -/
/-- The entries of the map in block b are S's, in S's order; their stamps rise. -/
structure Ents (es : Array MapEntry) (clock : Nat) (S : List En) : Prop where
  ents : es.toList.map (fun e => (e.key, e.val)) = S.map fun x => (kv x.1, ev x.2.1 x.2.2)
  rise : (es.toList.map (·.born)).Pairwise (· < ·)
  old : ∀ e ∈ es.toList, e.born < clock
def MapIs (w : World) (b : Nat) (S : List En) : Prop := ∃ es clock, w.heap[b]? = some (.map es clock) ∧ Ents es clock S
theorem MapIs.on {w w' : World} {b : Nat} {S : List En} (h : MapIs w b S) (hb : w'.heap[b]? = w.heap[b]?) : MapIs w' b S := by
  obtain ⟨es, clock, h1, h2⟩ := h
  exact ⟨es, clock, hb.trans h1, h2⟩
theorem MapIs.lt {w : World} {b : Nat} {S : List En} (h : MapIs w b S) : b < w.heap.size := by
  obtain ⟨es, clock, h1, h2⟩ := h
  exact (Array.getElem?_eq_some_iff.1 h1).1
theorem Ents.size {es : Array MapEntry} {clock : Nat} {S : List En} (h : Ents es clock S) : es.size = S.length := by
  have := congrArg List.length h.ents
  simpa using this

set_option maxRecDepth 100000 in
theorem run_checkK (em : Bool) (k : Ky) (w : World) : (Instr.checkKey em 10000 70 (kv k)).run Tryd.prog w = .ok () w := by
  obtain ⟨a, b⟩ := k
  show (Instr.checkKey em 10000 70 (.agg #[.int .i64 a, .int .i64 b])).run Tryd.prog w = .ok () w
  kernel_rfl
set_option maxRecDepth 100000 in
theorem run_equalK (k l : Ky) (w : World) : (Op.equal 70 (kv k) (kv l)).run Tryd.prog w = .ok (decide (k = l)) w := by
  obtain ⟨a, b⟩ := k
  obtain ⟨c, d⟩ := l
  show (Op.equalIn (9998 + 1 + 1) 70 (.agg #[.int .i64 a, .int .i64 b]) (.agg #[.int .i64 c, .int .i64 d])).run _ _ = _
  rw [run_equalIn_agg (P := Tryd.prog) w _ _ _ _ (by kernel_rfl) (by kernel_rfl)]
  have hf : (Tryd.prog.fieldsOf 70).toList = [⟨ "Space", 3, 0, false, "", "", 0⟩, ⟨ "Page", 3, 1, false, "", "", 8⟩] := by kernel_rfl
  rw [hf]
  have p1 : ∀ (x y : Int) (w : World), (part 3 #[.int .i64 x, .int .i64 y] 0).run Tryd.prog w = .ok (.int .i64 x) w := fun _ _ _ => by kernel_rfl
  have p2 : ∀ (x y : Int) (w : World), (part 3 #[.int .i64 x, .int .i64 y] 1).run Tryd.prog w = .ok (.int .i64 y) w := fun _ _ _ => by kernel_rfl
  have q : ∀ (x y : Int) (w : World), (Op.equalIn (9998 + 1) 3 (.int .i64 x) (.int .i64 y)).run Tryd.prog w = .ok (x == y) w := fun x y w => run_equalIn_int w 9998 3 .i64 .i64 x y Tryd.underlying3
  simp only [Op.eqFields, Sem.run_bind, Sem.run_ite, p1, p2, q, Result.andThen_ok, Sem.run_pure]
  by_cases h1 : a = c <;> by_cases h2 : b = d <;> simp [h1, h2]
theorem run_findAsk (k : Ky) (w : World) : ∀ (S : List En) (es : List MapEntry) (i : Nat), es.map (fun e => (e.key, e.val)) = S.map (fun x => (kv x.1, ev x.2.1 x.2.2)) → (Instr.findAsking 70 (kv k) es i).run Tryd.prog w = .ok (findS S k i) w
  | [], [], i, _ => rfl
  | [], e :: es, i, h => by simp at h
  | x :: S, [], i, h => by simp at h
  | x :: S, e :: es, i, h => by
    simp only [List.map_cons, List.cons.injEq, Prod.mk.injEq] at h
    obtain ⟨⟨h1, h2⟩, h3⟩ := h
    simp only [Instr.findAsking, Sem.run_bind, h1, run_equalK, Result.andThen_ok, findS]
    by_cases hk : k = x.1
    · simp [hk, h2]
    · have hk' : ¬ x.1 = k := fun e => hk e.symm
      simp only [hk, hk', decide_false, Bool.false_eq_true, if_false]
      exact run_findAsk k w S es (i + 1) h3
theorem run_findK (k : Ky) (w : World) (S : List En) (es : List MapEntry) (h : es.map (fun e => (e.key, e.val)) = S.map (fun x => (kv x.1, ev x.2.1 x.2.2))) : (Instr.findKey 70 (kv k) es).run Tryd.prog w = .ok (findS S k 0) w := by
  have ha := run_findAsk k w S es 0 h
  cases es with
  | nil =>
    cases S with
    | nil => simp [Instr.findKey, Instr.findNow, run_underlying Tryd.underlying70, findS]
    | cons x S => simp at h
  | cons e es =>
    have hn : Instr.findNow (.struct #[⟨ "Space", 3, 0, false, "", "", 0⟩, ⟨ "Page", 3, 1, false, "", "", 8⟩]) (kv k) (e :: es) 0 = none := by
      simp [Instr.findNow, Instr.sameNow]
    simp only [Instr.findKey, Sem.run_bind, run_underlying Tryd.underlying70, Result.andThen_ok, hn]
    exact ha
set_option maxRecDepth 100000 in
theorem zeroEnt (w : World) : (zeroValue 124).run Tryd.prog w = .ok (ev pt0 0) w := by kernel_rfl

/-! ### The operations -/
theorem look_has {w : World} {b : Nat} {S : List En} (h : MapIs w b S) (k : Ky) : (Instr.lookup 44 (.map (some b)) (kv k) true).run Tryd.prog w = .ok (.tuple #[ev (ptK S k) (tnK S k), .bool (hasK S k)]) w := by
  obtain ⟨es, clock, hb, E⟩ := h
  simp only [Instr.lookup, Sem.run_bind, run_underlying Tryd.underlying44, Result.andThen_ok, MapKept.run_getObj_map hb, Sem.run_pure, run_checkK, run_findK k w S es.toList E.ents]
  cases hk : hasK S k
  · obtain ⟨h1, h2, h3⟩ := findS_none S k 0 hk
    simp [h1, h2, h3]
    rfl
  · obtain ⟨j, h1, h2⟩ := findS_some S k 0 hk
    simp [h1]
theorem look_at {w : World} {b : Nat} {S : List En} (h : MapIs w b S) (k : Ky) : (Instr.lookup 44 (.map (some b)) (kv k) false).run Tryd.prog w = .ok (ev (ptK S k) (tnK S k)) w := by
  obtain ⟨es, clock, hb, E⟩ := h
  simp only [Instr.lookup, Sem.run_bind, run_underlying Tryd.underlying44, Result.andThen_ok, MapKept.run_getObj_map hb, Sem.run_pure, run_checkK, run_findK k w S es.toList E.ents]
  cases hk : hasK S k
  · obtain ⟨h1, h2, h3⟩ := findS_none S k 0 hk
    simp [h1, h2, h3]
    rfl
  · obtain ⟨j, h1, h2⟩ := findS_some S k 0 hk
    simp [h1]
theorem len_map {w : World} {b : Nat} {S : List En} (h : MapIs w b S) (ty : TypeId) : (Builtin.len_ #[44] ty #[.map (some b)]).run Tryd.prog w = .ok (.int .i64 S.length) w := by
  obtain ⟨es, clock, hb, E⟩ := h
  simp [Builtin.len_, run_underlying Tryd.underlying44, MapKept.run_getObj_map hb, goInt, Result.andThen, E.size]

/-! ### Store, delete, clear -/
theorem map_modify_born (f : MapEntry → MapEntry) (hf : ∀ e, (f e).born = e.born) : ∀ (l : List MapEntry) (j : Nat), (l.modify j f).map (·.born) = l.map (·.born)
  | [], j => by simp
  | e :: l, 0 => by simp [hf]
  | e :: l, j + 1 => by simp [map_modify_born f hf l j]
theorem put_some (k : Ky) (p : Pt) (t : Int) : ∀ (S : List En) (es : List MapEntry) (i : Nat), es.map (fun e => (e.key, e.val)) = S.map (fun x => (kv x.1, ev x.2.1 x.2.2)) → hasK S k = true →
    ∃ j v, findS S k i = some (i + j, v) ∧ es[j]?.map (·.key) = some (kv k) ∧ (es.modify j fun e => { e with key := kv k, val := ev p t }).map (fun e => (e.key, e.val)) = (putM S k p t).map (fun x => (kv x.1, ev x.2.1 x.2.2))
  | [], _, _, _, h => by simp [hasK] at h
  | x :: S, [], _, h, _ => by simp at h
  | x :: S, e :: es, i, h, hk => by
    simp only [List.map_cons, List.cons.injEq, Prod.mk.injEq] at h
    obtain ⟨⟨h1, h2⟩, h3⟩ := h
    by_cases hx : x.1 = k
    · refine ⟨0, ev x.2.1 x.2.2, by simp [findS, hx], by simp [h1, hx], ?_⟩
      simp [putM, hx, h3]
    · have hk' : hasK S k = true := by simpa [hasK, hx] using hk
      obtain ⟨j, v, a1, a2, a3⟩ := put_some k p t S es (i + 1) h3 hk'
      refine ⟨j + 1, v, by simp only [findS, if_neg hx, a1]; congr 2; omega, by simpa using a2, ?_⟩
      simp [putM, hx, h1, h2, a3]
theorem put_none (k : Ky) (p : Pt) (t : Int) : ∀ (S : List En), hasK S k = false → putM S k p t = S ++ [(k, p, t)]
  | [], _ => rfl
  | x :: S, h => by
    simp only [hasK, List.any_cons, Bool.or_eq_false_iff, decide_eq_false_iff_not] at h
    simp only [putM, if_neg h.1, List.cons_append, put_none k p t S h.2]
theorem del_some (k : Ky) : ∀ (S : List En) (es : List MapEntry) (i : Nat), es.map (fun e => (e.key, e.val)) = S.map (fun x => (kv x.1, ev x.2.1 x.2.2)) → hasK S k = true →
    ∃ j v, findS S k i = some (i + j, v) ∧ j < es.length ∧ (es.eraseIdx j).map (fun e => (e.key, e.val)) = (delM S k).map (fun x => (kv x.1, ev x.2.1 x.2.2))
  | [], _, _, _, h => by simp [hasK] at h
  | x :: S, [], _, h, _ => by simp at h
  | x :: S, e :: es, i, h, hk => by
    simp only [List.map_cons, List.cons.injEq, Prod.mk.injEq] at h
    obtain ⟨⟨h1, h2⟩, h3⟩ := h
    by_cases hx : x.1 = k
    · refine ⟨0, ev x.2.1 x.2.2, by simp [findS, hx], by simp, ?_⟩
      simp [delM, hx, h3]
    · have hk' : hasK S k = true := by simpa [hasK, hx] using hk
      obtain ⟨j, v, a1, a2, a3⟩ := del_some k S es (i + 1) h3 hk'
      refine ⟨j + 1, v, by simp only [findS, if_neg hx, a1]; congr 2; omega, by simp; omega, ?_⟩
      simp [delM, hx, h1, h2, a3]
theorem same_kv (k : Ky) : Instr.sameBits 10000 (kv k) (kv k) = true := by
  obtain ⟨a, b⟩ := k
  show Instr.sameBits (9998 + 1 + 1) (.agg #[.int .i64 a, .int .i64 b]) (.agg #[.int .i64 a, .int .i64 b]) = true
  simp [Instr.sameBits]
theorem store_map {w : World} {b : Nat} {S : List En} (h : MapIs w b S) (k : Ky) (p : Pt) (t : Int) :
    ∃ o, (Instr.mapUpdate 44 (.map (some b)) (kv k) (ev p t)).run Tryd.prog w = .ok () (setBlock w b o) ∧ MapIs (setBlock w b o) b (putM S k p t) := by
  obtain ⟨es, clock, hb, E⟩ := h
  cases hk : hasK S k
  · have hf := run_findK k w S es.toList E.ents
    rw [(findS_none S k 0 hk).1] at hf
    refine ⟨.map (es.push { key := kv k, val := ev p t, born := clock }) (clock + 1), ?_, _, _, heap_setBlock_same hb _, ?_, ?_, ?_⟩
    · simp [Instr.mapUpdate, run_underlying Tryd.underlying44, MapKept.run_getObj_map hb, run_checkK, hf, MapKept.run_setObj_map _ hb, Result.andThen, setBlock]
    · rw [put_none k p t S hk]
      simp [E.ents]
    · have h1 := E.rise
      have h2 := E.old
      simp only [Array.toList_push, List.map_append, List.map_cons, List.map_nil, List.pairwise_append, List.pairwise_cons, List.not_mem_nil, false_implies, implies_true, List.Pairwise.nil, and_self, true_and]
      refine ⟨h1, fun a ha c hc => ?_⟩
      obtain ⟨e, he, rfl⟩ := List.mem_map.1 ha
      simp only [List.mem_singleton] at hc
      rw [hc]; exact h2 e he
    · intro e he
      simp only [Array.toList_push, List.mem_append, List.mem_singleton] at he
      rcases he with he | he
      · have := E.old e he; omega
      · rw [he]; exact Nat.lt_succ_self _
  · have hf := run_findK k w S es.toList E.ents
    obtain ⟨j, v, a1, a2, a3⟩ := put_some k p t S es.toList 0 E.ents hk
    rw [a1, Nat.zero_add] at hf
    have hkey : ((es[j]?).map (·.key)).getD (kv k) = kv k := by rw [← Array.getElem?_toList, a2]; rfl
    have hl : (es.modify j fun e => { e with key := kv k, val := ev p t }).toList = es.toList.modify j fun e => { e with key := kv k, val := ev p t } := by simp
    have hbn := map_modify_born (fun e : MapEntry => { e with key := kv k, val := ev p t }) (fun _ => rfl) es.toList j
    refine ⟨.map (es.modify j fun e => { e with key := kv k, val := ev p t }) clock, ?_, _, _, heap_setBlock_same hb _, ?_, ?_, ?_⟩
    · simp [Instr.mapUpdate, run_underlying Tryd.underlying44, MapKept.run_getObj_map hb, run_checkK, hf, MapKept.run_setObj_map _ hb, Result.andThen, setBlock, hkey, Instr.keyThatStays, same_kv]
    · rw [hl]; exact a3
    · rw [hl, hbn]; exact E.rise
    · intro e he
      have hm : e.born ∈ (es.modify j fun e => { e with key := kv k, val := ev p t }).toList.map (·.born) := List.mem_map.2 ⟨e, he, rfl⟩
      rw [hl, hbn] at hm
      obtain ⟨e', he', hb'⟩ := List.mem_map.1 hm
      rw [← hb']; exact E.old e' he'
theorem delete_map {w : World} {b : Nat} {S : List En} (h : MapIs w b S) (k : Ky) (hk : hasK S k = true) :
    ∃ o, (∀ ty, (Builtin.delete_ #[44, 70] ty #[.map (some b), kv k]).run Tryd.prog w = .ok (.tuple #[]) (setBlock w b o)) ∧ MapIs (setBlock w b o) b (delM S k) := by
  obtain ⟨es, clock, hb, E⟩ := h
  have hf := run_findK k w S es.toList E.ents
  obtain ⟨j, v, a1, a2, a3⟩ := del_some k S es.toList 0 E.ents hk
  rw [a1, Nat.zero_add] at hf
  have hjs : j < es.size := by simpa using a2
  have hl : (es.eraseIdxIfInBounds j).toList = es.toList.eraseIdx j := by
    unfold Array.eraseIdxIfInBounds
    rw [dif_pos hjs]
    simp
  refine ⟨.map (es.eraseIdxIfInBounds j) clock, ?_, _, _, heap_setBlock_same hb _, ?_, ?_, ?_⟩
  · intro ty
    simp [Builtin.delete_, run_underlying Tryd.underlying44, MapKept.run_getObj_map hb, run_checkK, hf, MapKept.run_setObj_map _ hb, Result.andThen, setBlock]
  · rw [hl]; exact a3
  · rw [hl]
    exact E.rise.sublist ((List.eraseIdx_sublist _ _).map _)
  · intro e he
    rw [hl] at he
    exact E.old e ((List.eraseIdx_sublist _ _).subset he)
theorem clear_map {w : World} {b : Nat} {S : List En} (h : MapIs w b S) :
    ∃ o, (∀ ty, (Builtin.clear_ #[44] ty #[.map (some b)]).run Tryd.prog w = .ok (.tuple #[]) (setBlock w b o)) ∧ MapIs (setBlock w b o) b [] := by
  obtain ⟨es, clock, hb, E⟩ := h
  refine ⟨.map #[] clock, ?_, _, _, heap_setBlock_same hb _, ?_, ?_, ?_⟩
  · intro ty
    simp [Builtin.clear_, run_underlying Tryd.underlying44, MapKept.run_getObj_map hb, MapKept.run_setObj_map _ hb, Result.andThen, setBlock]
  · rfl
  · simp
  · simp
/-- The block of a map that is written: nothing else changes. -/
theorem setBlock_other {w : World} {b : Nat} {S : List En} (h : MapIs w b S) (o : Obj) {i : Nat} (hi : i ≠ b) : (setBlock w b o).heap[i]? = w.heap[i]? := by
  obtain ⟨es, clock, hb, E⟩ := h
  exact heap_setBlock_other hb _ hi
theorem setBlock_size (w : World) (b : Nat) (o : Obj) : (setBlock w b o).heap.size = w.heap.size := by simp [setBlock]
theorem below_setBlock {B : Nat} {a w : World} {b : Nat} (h : Below B a w) (hb : B ≤ b) (o : Obj) : Below B a (setBlock w b o) :=
  ⟨h.os, h.tape, h.output, by rw [setBlock_size]; exact h.size, fun k hk => by
    have hne : b ≠ k := by omega
    have : (setBlock w b o).heap[k]? = w.heap[k]? := by simp [setBlock, hne]
    rw [this]; exact h.block k hk⟩
end Go.Proofs.YthcgdgpflhdchaaDoor.Ptlb

/- What Made, Len, Get, Flush of package tlb answer, for every argument that their types allow. -/
namespace Go.Proofs.YthcgdgpflhdchaaDoor.Ptlb
open Go.Proofs.YthcgdgpflhdchaaDoor.Pbase
open Go.RowKit Go.ChangeMaps
set_option linter.unusedVariables false

/-- One that New made lies behind the pointer to block p; its map in block b. -/
structure TlbIs (w : World) (p b : Nat) (room : Int) (S : List En) : Prop where
  row : w.heap[p]? = some (.cells #[.int .i64 room, .map (some b)] 46 (0, 0))
  map : MapIs w b S
theorem TlbIs.room {w : World} {p b : Nat} {r : Int} {S : List En} (h : TlbIs w p b r S) : w.cell? ⟨p, 0, none⟩ = some (.int .i64 r) := by
  rw [cell_of_row w p 0 _ _ _ h.row]; rfl
theorem TlbIs.ents {w : World} {p b : Nat} {r : Int} {S : List En} (h : TlbIs w p b r S) : w.cell? ⟨p, 1, none⟩ = some (.map (some b)) := by
  rw [cell_of_row w p 1 _ _ _ h.row]; rfl
theorem TlbIs.lt {w : World} {p b : Nat} {r : Int} {S : List En} (h : TlbIs w p b r S) : p < w.heap.size := (Array.getElem?_eq_some_iff.1 h.row).1
theorem TlbIs.ne {w : World} {p b : Nat} {r : Int} {S : List En} (h : TlbIs w p b r S) : p ≠ b := by
  intro e
  obtain ⟨es, clock, hb, _⟩ := h.map
  rw [← e, h.row] at hb
  cases hb
theorem TlbIs.on {w w' : World} {p b : Nat} {r : Int} {S : List En} (h : TlbIs w p b r S) (hp : w'.heap[p]? = w.heap[p]?) (hb : w'.heap[b]? = w.heap[b]?) : TlbIs w' p b r S := ⟨hp.trans h.row, h.map.on hb⟩
theorem TlbIs.below {w w' : World} {B p b : Nat} {r : Int} {S : List En} (h : TlbIs w p b r S) (hB : Below B w w') (hp : p < B) (hb : b < B) : TlbIs w' p b r S := h.on (hB.block p hp) (hB.block b hb)
theorem TlbIs.more {w w' : World} {p b : Nat} {r : Int} {S : List En} (h : TlbIs w p b r S) (hB : Below w.heap.size w w') : TlbIs w' p b r S := h.below hB h.lt h.map.lt
theorem TlbIs.turned {w : World} {p b : Nat} {r : Int} {S S' : List En} (h : TlbIs w p b r S) {o : Obj} (h' : MapIs (setBlock w b o) b S') : TlbIs (setBlock w b o) p b r S' :=
  ⟨(setBlock_other h.map o h.ne).trans h.row, h'⟩

theorem TlbIs.alloc {w : World} {p b : Nat} {r : Int} {S : List En} (h : TlbIs w p b r S) (o : Obj) : TlbIs (w.alloc o) p b r S := h.more ((Below.refl _ _).alloc (Nat.le_refl _) _)
theorem TlbIs.drew {w : World} {p b : Nat} {r : Int} {S : List En} (h : TlbIs w p b r S) : TlbIs w.drew p b r S := h.on rfl rfl

theorem row_new2 (w : World) (o : Obj) (c : Array Value) (t : TypeId) : ((w.alloc o).alloc (.cells c t)).heap[w.heap.size + 1]? = some (.cells c t (0, 0)) := by
  have := heap_alloc_new (w.alloc o) (.cells c t)
  simpa using this
/-- What is written into new blocks alone leaves the old ones. -/
theorem below_size {B : Nat} {a w : World} (h : Below B a w) (hB : B ≤ a.heap.size) : B ≤ w.heap.size := Nat.le_trans hB h.size

/-! ### Made, Len -/
set_option maxRecDepth 100000 in
theorem made_some (p b : Nat) (w : World) (hp : w.cell? ⟨p, 1, none⟩ = some (.map (some b))) :
    Calls Tryd.prog 30 #[.pointer (some ⟨p, 0, none⟩)] w fun e w' => e = .returned (.bool true) ∧ w' = w := by
  have h1 : ∀ w, (binOp .neq 44 (.map (some b)) (.map none)).run Tryd.prog w = .ok (.bool true) w := fun _ => by kernel_rfl
  go_enter Tryd.func30, Tryd.ntmps30
  go_wp2
  go_ret
  exact ⟨rfl, rfl⟩
set_option maxRecDepth 100000 in
theorem made_nil (w : World) :
    Calls Tryd.prog 30 #[.pointer none] w fun e w' => e = .returned (.bool false) ∧ w' = w := by
  go_enter Tryd.func30, Tryd.ntmps30
  go_wp2
  go_ret
  exact ⟨rfl, rfl⟩
set_option maxRecDepth 100000 in
theorem made_zero (p : Nat) (w : World) (hp : w.cell? ⟨p, 1, none⟩ = some (.map none)) :
    Calls Tryd.prog 30 #[.pointer (some ⟨p, 0, none⟩)] w fun e w' => e = .returned (.bool false) ∧ w' = w := by
  have h1 : ∀ w, (binOp .neq 44 (.map none) (.map none)).run Tryd.prog w = .ok (.bool false) w := fun _ => by kernel_rfl
  go_enter Tryd.func30, Tryd.ntmps30
  go_wp2
  go_ret
  exact ⟨rfl, rfl⟩
set_option maxRecDepth 100000 in
theorem len_some (p b : Nat) (r : Int) (S : List En) (w : World) (h : TlbIs w p b r S) :
    Calls Tryd.prog 28 #[.pointer (some ⟨p, 0, none⟩)] w fun e w' => e = .returned (.int .i64 S.length) ∧ w' = w := by
  have hp := h.ents
  have hl := fun ty => len_map h.map ty
  go_enter Tryd.func28, Tryd.ntmps28
  go_wp2_with (go_at_call 30; refine (made_some p b _ hp).mono ?_; rintro e w' ⟨rfl, rfl⟩)
  go_ret
  exact ⟨rfl, rfl⟩
set_option maxRecDepth 100000 in
theorem len_nil (w : World) :
    Calls Tryd.prog 28 #[.pointer none] w fun e w' => e = .returned (.int .i64 0) ∧ w' = w := by
  go_enter Tryd.func28, Tryd.ntmps28
  go_wp2_with (go_at_call 30; refine (made_nil _).mono ?_; rintro e w' ⟨rfl, rfl⟩)
  go_ret
  exact ⟨rfl, rfl⟩
set_option maxRecDepth 100000 in
theorem len_zero (p : Nat) (w : World) (hp : w.cell? ⟨p, 1, none⟩ = some (.map none)) :
    Calls Tryd.prog 28 #[.pointer (some ⟨p, 0, none⟩)] w fun e w' => e = .returned (.int .i64 0) ∧ w' = w := by
  go_enter Tryd.func28, Tryd.ntmps28
  go_wp2_with (go_at_call 30; refine (made_zero p _ hp).mono ?_; rintro e w' ⟨rfl, rfl⟩)
  go_ret
  exact ⟨rfl, rfl⟩

/-! ### Get -/
set_option maxHeartbeats 1000000 in
set_option maxRecDepth 100000 in
theorem get_any (p b : Nat) (r : Int) (S : List En) (k : Ky) (w : World) (h : TlbIs w p b r S) :
    Calls Tryd.prog 49 #[.pointer (some ⟨p, 0, none⟩), .agg #[.int .i64 k.1, .int .i64 k.2]] w fun e w' => e = .returned (.tuple #[pv (ptK S k), .bool (hasK S k)]) ∧ Below w.heap.size w w' := by
  have hp := h.ents
  have hlt := h.lt
  have hl : Hid (∀ w', w'.heap[b]? = w.heap[b]? → (Instr.lookup 44 (.map (some b)) (kv k) true).run Tryd.prog w' = .ok (.tuple #[ev (ptK S k) (tnK S k), .bool (hasK S k)]) w') := fun w' e => look_has (h.map.on e) k
  have hb := h.map.lt
  have H : Hid (TlbIs w p b r S) := h
  obtain ⟨a, c⟩ := k
  obtain ⟨q, hq⟩ : ∃ q, q = ptK S (a, c) := ⟨_, rfl⟩
  obtain ⟨t, ht⟩ : ∃ q, q = tnK S (a, c) := ⟨_, rfl⟩
  obtain ⟨y, hy⟩ : ∃ q, q = hasK S (a, c) := ⟨_, rfl⟩
  rw [← hq, ← ht, ← hy] at hl
  rw [← hq, ← hy]
  clear hq ht hy h
  obtain ⟨q0, q1, q2, q3⟩ := q
  simp only [kv, ev] at hl
  simp only [pv]
  go_enter Tryd.func49, Tryd.ntmps49
  go_wp2_with (go_at_call 30; refine (made_some p b _ ((H.out.alloc _).alloc _).ents).mono ?_; rintro e w1 ⟨rfl, hw1⟩; have HW : Hid (w1 = _) := hw1; clear hw1)
  have c1 : w1.cell? ⟨p, 1, none⟩ = some (.map (some b)) := by rw [HW.out]; exact ((H.out.alloc _).alloc _).ents
  have c2 : w1.cell? ⟨w.heap.size, 0, none⟩ = some (.int .i64 a) := by rw [HW.out]; simp
  have c3 : w1.cell? ⟨w.heap.size, 1, none⟩ = some (.int .i64 c) := by rw [HW.out]; simp
  have d0 : w1.cell? ⟨w.heap.size + 1, 0, none⟩ = some (.bool false) := by rw [HW.out]; simp
  have d1 : w1.cell? ⟨w.heap.size + 1, 1, none⟩ = some (.int .i64 0) := by rw [HW.out]; simp
  have d2 : w1.cell? ⟨w.heap.size + 1, 2, none⟩ = some (.int .i64 0) := by rw [HW.out]; simp
  have d3 : w1.cell? ⟨w.heap.size + 1, 3, none⟩ = some (.int .i64 0) := by rw [HW.out]; simp
  have hrow : Hid (w1.heap[w.heap.size + 1]? = some (.cells #[.bool false, .int .i64 0, .int .i64 0, .int .i64 0] 39 (0, 0))) := by rw [HW.out]; exact row_new2 _ _ _ _
  have z0 := frozen_of_row w1 (w.heap.size + 1) 0 _ _ hrow.out
  have z1 := frozen_of_row w1 (w.heap.size + 1) 1 _ _ hrow.out
  have z2 := frozen_of_row w1 (w.heap.size + 1) 2 _ _ hrow.out
  have z3 := frozen_of_row w1 (w.heap.size + 1) 3 _ _ hrow.out
  have HB : Hid (Below w.heap.size w w1) := by rw [HW.out]; exact ((Below.refl w.heap.size w).alloc (Nat.le_refl _) _).alloc (by simp) _
  have HS : Hid (w1.heap.size = w.heap.size + 2) := by
    have : w1.heap.size = w.heap.size + 2 := by rw [HW.out]; simp
    exact this
  have s1 : w.heap.size + 1 < w1.heap.size := by rw [HS.out]; omega
  clear HW hrow
  have n1 := World.new_ne w1 _ c1
  have n2 := World.new_ne w1 _ c2
  have n3 := World.new_ne w1 _ d0
  have hl1 := hl.out w1.drew (HB.out.drew.block b hb)
  have hl2 := hl.out (w1.alloc (.cells #[.bool false, .int .i64 0, .int .i64 0, .int .i64 0, .int .i64 0] 124)).drew
    ((HB.out.alloc (by rw [HS.out]; omega) _).drew.block b hb)
  go_region_held3 (fun w' => w'.cell? ⟨p, 1, none⟩ = some (.map (some b)) ∧ w'.cell? ⟨w.heap.size, 0, none⟩ = some (.int .i64 a) ∧ w'.cell? ⟨w.heap.size, 1, none⟩ = some (.int .i64 c)) (go_keep) (fail)
  all_goals go_wp2
  all_goals
    exact bodyPost_ret (v := .tuple #[.agg #[.bool q0, .int .i64 q1, .int .i64 q2, .int .i64 q3], .bool y]) (by simp [results, Tryd.results49, go_sem, d0, d1, d2, d3, s1]) rfl
      ⟨rfl, (bal (bst (bst (bst (bst HB.out (by omega) _ _) (by omega) _ _) (by omega) _ _) (by omega) _ _) _).drew⟩
set_option maxRecDepth 100000 in
theorem get_nil (k : Ky) (w : World) :
    Calls Tryd.prog 49 #[.pointer none, .agg #[.int .i64 k.1, .int .i64 k.2]] w fun e w' => e = .returned (.tuple #[pv pt0, .bool false]) ∧ Below w.heap.size w w' := by
  simp only [pv, pt0]
  go_enter Tryd.func49, Tryd.ntmps49
  go_wp2_with (go_at_call 30; refine (made_nil _).mono ?_; rintro e w1 ⟨rfl, rfl⟩)
  exact bodyPost_ret (v := .tuple #[.agg #[.bool false, .int .i64 0, .int .i64 0, .int .i64 0], .bool false]) (by simp [results, Tryd.results49, go_sem]) rfl
      ⟨rfl, by first | exact bal (bal (Below.refl _ _) _) _ | exact (bst (bst (bst (bst (bal (bal (Below.refl _ _) _) _) (by omega) _ _) (by omega) _ _) (by omega) _ _) (by omega) _ _)⟩

/-! ### Flush -/
set_option maxRecDepth 100000 in
theorem flush_some (p b : Nat) (r : Int) (S : List En) (w : World) (h : TlbIs w p b r S) :
    Calls Tryd.prog 15 #[.pointer (some ⟨p, 0, none⟩)] w fun e w' => e = .returned (.int .i64 S.length) ∧ TlbIs w' p b r [] ∧ w'.heap.size = w.heap.size ∧ ∀ B, B ≤ b → Below B w w' := by
  have hp := h.ents
  obtain ⟨o, hc, hm⟩ := clear_map h.map
  have HM : Hid (MapIs (setBlock w b o) b []) := hm
  have H : Hid (TlbIs w p b r S) := h
  clear hm h
  have hl0 : (0 : Int) ≤ S.length := by omega
  by_cases h0 : S.length = 0
  · have HE : Hid (S = []) := List.eq_nil_of_length_eq_zero h0
    have h1 : ¬ (0 : Int) < S.length := by omega
    clear h0
    go_enter Tryd.func15, Tryd.ntmps15
    go_wp2_with (go_at_call 28; refine (len_some p b r S _ H.out).mono ?_; rintro e w' ⟨rfl, rfl⟩)
    go_ret
    exact ⟨rfl, HE.out ▸ H.out, rfl, fun B _ => Below.refl _ _⟩
  · have h1 : (0 : Int) < S.length := by omega
    clear h0
    go_enter Tryd.func15, Tryd.ntmps15
    go_wp2_with (go_at_call 28; refine (len_some p b r S _ H.out).mono ?_; rintro e w' ⟨rfl, rfl⟩)
    go_ret
    exact ⟨rfl, H.out.turned HM.out, setBlock_size _ _ _, fun B hB => below_setBlock (Below.refl _ _) hB _⟩
set_option maxRecDepth 100000 in
theorem flush_zero (p : Nat) (w : World) (hp : w.cell? ⟨p, 1, none⟩ = some (.map none)) :
    Calls Tryd.prog 15 #[.pointer (some ⟨p, 0, none⟩)] w fun e w' => e = .returned (.int .i64 0) ∧ w' = w := by
  go_enter Tryd.func15, Tryd.ntmps15
  go_wp2_with (go_at_call 28; refine (len_zero p _ hp).mono ?_; rintro e w' ⟨rfl, rfl⟩)
  go_ret
  exact ⟨rfl, rfl⟩
end Go.Proofs.YthcgdgpflhdchaaDoor.Ptlb

/- A range over the map of what is remembered, in whatever order; the turn of a key: what turnOf of package tlb answers. -/
namespace Go.Proofs.YthcgdgpflhdchaaDoor.Ptlb
open Go.Proofs.YthcgdgpflhdchaaDoor.Pbase
open Go.RowKit Go.ChangeMaps
set_option linter.unusedVariables false

/-- What rises has no two alike. -/
theorem rise_ne : ∀ {l : List Nat}, l.Pairwise (· < ·) → l.Pairwise (· ≠ ·)
  | [], _ => List.Pairwise.nil
  | a :: l, h => List.pairwise_cons.2 ⟨fun b hb => Nat.ne_of_lt ((List.pairwise_cons.1 h).1 b hb), rise_ne (List.pairwise_cons.1 h).2⟩
/-! ### The range -/
/-- Block r is an iterator over the map in block b, which holds S; D: the entries that it has handed out, in that order. -/
def RngIs (w : World) (b r : Nat) (S D : List En) : Prop :=
  ∃ es clock since seen c0, w.heap[b]? = some (.map es clock) ∧ Ents es clock S ∧ w.heap[r]? = some (.mapIter (some b) since seen c0) ∧ (∀ x ∈ es.toList, x.born < since) ∧ since ≤ c0 ∧ since ≤ clock ∧
    ∃ Z A B : List (MapEntry × En), Z.map Prod.fst = es.toList ∧ Z.map Prod.snd = S ∧ (∀ z ∈ Z, z.1.key = kv z.2.1 ∧ z.1.val = ev z.2.2.1 z.2.2.2) ∧ Z.Perm (A ++ B) ∧ seen.toList = A.map (fun z => z.1.born) ∧ D = A.map Prod.snd
theorem zip_ents : ∀ (l : List MapEntry) (S : List En), l.map (fun e => (e.key, e.val)) = S.map (fun x => (kv x.1, ev x.2.1 x.2.2)) → ∃ Z : List (MapEntry × En), Z.map Prod.fst = l ∧ Z.map Prod.snd = S ∧ ∀ z ∈ Z, z.1.key = kv z.2.1 ∧ z.1.val = ev z.2.2.1 z.2.2.2
  | [], [], _ => ⟨[], rfl, rfl, by simp⟩
  | [], _ :: _, h => by simp at h
  | _ :: _, [], h => by simp at h
  | e :: l, x :: S, h => by
    simp only [List.map_cons, List.cons.injEq, Prod.mk.injEq] at h
    obtain ⟨Z, h1, h2, h3⟩ := zip_ents l S h.2
    refine ⟨(e, x) :: Z, by simp [h1], by simp [h2], ?_⟩
    intro z hz
    rcases List.mem_cons.1 hz with rfl | hz
    · exact h.1
    · exact h3 z hz
theorem RngIs.map {w : World} {b r : Nat} {S D : List En} (h : RngIs w b r S D) : MapIs w b S := by
  obtain ⟨es, clock, since, seen, c0, h1, h2, _⟩ := h
  exact ⟨es, clock, h1, h2⟩
theorem RngIs.lt {w : World} {b r : Nat} {S D : List En} (h : RngIs w b r S D) : r < w.heap.size := by
  obtain ⟨es, clock, since, seen, c0, h1, h2, h3, _⟩ := h
  exact (Array.getElem?_eq_some_iff.1 h3).1
theorem RngIs.ne {w : World} {b r : Nat} {S D : List En} (h : RngIs w b r S D) : b ≠ r := by
  obtain ⟨es, clock, since, seen, c0, h1, h2, h3, _⟩ := h
  intro e
  rw [e, h3] at h1
  cases h1
theorem RngIs.on {w w' : World} {b r : Nat} {S D : List En} (h : RngIs w b r S D) (hb : w'.heap[b]? = w.heap[b]?) (hr : w'.heap[r]? = w.heap[r]?) : RngIs w' b r S D := by
  obtain ⟨es, clock, since, seen, c0, h1, h2, h3, h4⟩ := h
  exact ⟨es, clock, since, seen, c0, hb.trans h1, h2, hr.trans h3, h4⟩
theorem rangeLeft_on {w w' : World} {b r : Nat} (hb : w'.heap[b]? = w.heap[b]?) (hr : w'.heap[r]? = w.heap[r]?) : w'.rangeLeft b r = w.rangeLeft b r := by
  simp only [World.rangeLeft, hb, hr]
theorem RngIs.alloc {w : World} {b r : Nat} {S D : List En} (h : RngIs w b r S D) (o : Obj) : RngIs (w.alloc o) b r S D := h.on (Below.heap_alloc w o b h.map.lt) (Below.heap_alloc w o r h.lt)
theorem RngIs.left_alloc {w : World} {b r : Nat} {S D : List En} (h : RngIs w b r S D) (o : Obj) : (w.alloc o).rangeLeft b r = w.rangeLeft b r := rangeLeft_on (Below.heap_alloc w o b h.map.lt) (Below.heap_alloc w o r h.lt)
theorem RngIs.start {w : World} {b : Nat} {S : List En} (h : MapIs w b S) :
    ∃ o, (Instr.range 44 (.map (some b))).run Tryd.prog w = .ok (.pointer (some ⟨w.heap.size, 0, none⟩)) (w.alloc o) ∧ RngIs (w.alloc o) b w.heap.size S [] := by
  have hlt := h.lt
  obtain ⟨es, clock, hb, E⟩ := h
  obtain ⟨Z, z1, z2, z3⟩ := zip_ents es.toList S E.ents
  refine ⟨_, run_range_map w 44 70 124 b es clock Tryd.underlying44 hb, es, clock, clock, #[], clock, (MapKept.heap_alloc w _).2 b hlt |>.trans hb, E, (MapKept.heap_alloc w _).1, E.old, Nat.le_refl _, Nat.le_refl _, Z, [], Z, z1, z2, z3, List.Perm.refl _, rfl, rfl⟩
/-- The step: all was handed out; or one more comes. -/
theorem RngIs.next {w : World} {b r : Nat} {S D : List En} (h : RngIs w b r S D) (ty : TypeId) :
    (S.Perm D ∧ (Instr.next (.pointer (some ⟨r, 0, none⟩)) false ty).run Tryd.prog w = .ok (.tuple #[.bool false]) w) ∨
    ∃ x w', x ∈ S ∧ (∃ R, S.Perm (D ++ x :: R)) ∧ (Instr.next (.pointer (some ⟨r, 0, none⟩)) false ty).run Tryd.prog w = .ok (.tuple #[.bool true, kv x.1, ev x.2.1 x.2.2]) w' ∧ RngIs w' b r S (D ++ [x]) ∧ w'.rangeLeft b r < w.rangeLeft b r ∧
      (Instr.entry (.pointer (some ⟨r, 0, none⟩))).run Tryd.prog w' = .ok (.tuple #[kv x.1, ev x.2.1 x.2.2]) w' ∧ w'.heap.size = w.heap.size ∧ (∀ i, i ≠ r → w'.heap[i]? = w.heap[i]?) ∧ ∀ B, B ≤ r → Below B w w' := by
  have hne := h.ne
  obtain ⟨es, clock, since, seen, c0, hb, E, hr, hold, hsc, hsk, Z, A, B, z1, z2, z3, z4, z5, z6⟩ := h
  have nd : (Z.map fun z => z.1.born).Nodup := by
    have e1 : (Z.map fun z => z.1.born) = es.toList.map (·.born) := by rw [← z1]; simp
    rw [e1]
    exact rise_ne E.rise
  have nd2 : (A.map (fun z => z.1.born) ++ B.map fun z => z.1.born).Nodup := by
    have := (z4.map fun z => z.1.born).nodup_iff.1 nd
    simpa using this
  have hB : ∀ z ∈ B, seen.contains z.1.born = false := fun z hz => by
    cases hc : seen.contains z.1.born
    · rfl
    · exfalso
      have h1 : z.1.born ∈ A.map fun z => z.1.born := by
        rw [← z5]
        simpa using hc
      exact (List.nodup_append.1 nd2).2.2 _ h1 _ (List.mem_map.2 ⟨z, hz, rfl⟩) rfl
  rcases run_next_at (P := Tryd.prog) w ty r b since c0 seen es clock hr hb hold hsc with ⟨h0, hrun⟩ | ⟨e, he, w1, hal, hrun⟩
  · refine Or.inl ⟨?_, hrun⟩
    have hBn : B = [] := by
      cases B with
      | nil => rfl
      | cons z B =>
        have hz : z ∈ Z := z4.mem_iff.2 (by simp)
        have : z.1 ∈ es.toList := by rw [← z1]; exact List.mem_map.2 ⟨z, hz, rfl⟩
        have h1 := all_seen es seen h0 z.1 this
        rw [hB z (by simp)] at h1
        cases h1
    subst hBn
    rw [← z2, z6]
    simpa using z4.map Prod.snd
  · obtain ⟨hem, hes⟩ := mem_left he
    obtain ⟨z, hz, rfl⟩ : ∃ z ∈ Z, z.1 = e := by rw [← z1] at hem; simpa using hem
    have hzB : z ∈ B := by
      rcases List.mem_append.1 (z4.mem_iff.1 hz) with hA | hB'
      · exfalso
        have h1 : z.1.born ∈ seen.toList := by rw [z5]; exact List.mem_map.2 ⟨z, hA, rfl⟩
        have h2 : seen.contains z.1.born = true := by simpa using h1
        rw [hes] at h2
        cases h2
      · exact hB'
    obtain ⟨B1, B2, rfl⟩ := List.append_of_mem hzB
    obtain ⟨k1, k2⟩ := z3 z hz
    have hr1 : w1.heap[r]? = some (.mapIter (some b) since seen c0) := by rcases hal with rfl | rfl <;> exact hr
    have hb1 : w1.heap[b]? = some (.map es clock) := by rcases hal with rfl | rfl <;> exact hb
    have hlt : r < w1.heap.size := (Array.getElem?_eq_some_iff.1 hr1).1
    have hset1 : (setBlock w1 r (.mapIter (some b) since (seen.push z.1.born) clock)).heap[r]? = some (.mapIter (some b) since (seen.push z.1.born) clock) := by simp [setBlock, hlt]
    have hset2 : ∀ i, i ≠ r → (setBlock w1 r (.mapIter (some b) since (seen.push z.1.born) clock)).heap[i]? = w1.heap[i]? := fun i hi => by simp [setBlock, Ne.symm hi]
    have hb' := (hset2 b hne).trans hb1
    have hall : ∀ i, i ≠ r → (setBlock w1 r (.mapIter (some b) since (seen.push z.1.born) clock)).heap[i]? = w.heap[i]? := fun i hi => (hset2 i hi).trans (by rcases hal with rfl | rfl <;> rfl)
    have hsz : (setBlock w1 r (.mapIter (some b) since (seen.push z.1.born) clock)).heap.size = w.heap.size := by rw [setBlock_size]; rcases hal with rfl | rfl <;> rfl
    have hperm : (B1 ++ z :: B2).Perm (z :: (B1 ++ B2)) := List.perm_middle
    rw [k1, k2] at hrun
    refine Or.inr ⟨z.2, _, by rw [← z2]; exact List.mem_map.2 ⟨z, hz, rfl⟩, ⟨(B1 ++ B2).map Prod.snd, ?_⟩, hrun, ⟨es, clock, since, seen.push z.1.born, clock, hb', E, hset1, hold, hsk, hsk, Z, A ++ [z], B1 ++ B2, z1, z2, z3, ?_, by simp [z5], by simp [z6]⟩, ?_, ?_, hsz, hall, ?_⟩
    · rw [← z2, z6]
      have := (z4.trans (List.Perm.append_left A hperm)).map Prod.snd
      simpa using this
    · have := z4.trans (List.Perm.append_left A hperm)
      simpa using this
    · simp only [World.rangeLeft, hb', hset1, hb, hr]
      exact left_shrinks es seen z.1 he
    · have := run_entry_at (P := Tryd.prog) _ r b since seen es clock z.1 hset1 hb' (by rw [← z1]; exact List.mem_map.2 ⟨z, hz, rfl⟩) (rise_ne E.rise)
      rw [k1, k2] at this
      exact this
    · intro N hN
      have hos : w1.os = w.os ∧ w1.tape = w.tape ∧ w1.output = w.output := by rcases hal with rfl | rfl <;> exact ⟨rfl, rfl, rfl⟩
      exact ⟨hos.1, hos.2.1, hos.2.2, Nat.le_of_eq hsz.symm, fun i hi => hall i (by omega)⟩
section
variable (w : World) {ops : Array Oper} {rest : List Oper} {o : Oper} {a : Act} {Q : Exit → Act → World → Prop}
theorem wpList_range_map (hg : o.guard = none) (m : Operand) (hop : o.op = Op.range 44 m) (b : Nat) (S : List En) (hm : a.eval m = .map (some b)) (h : MapIs w b S)
    (hK : ∀ w', RngIs w' b w.heap.size S [] → Below w.heap.size w w' → w'.heap.size = w.heap.size + 1 → wpList Tryd.prog ops Q rest (a.put o.dst (.pointer (some ⟨w.heap.size, 0, none⟩))) w') :
    wpList Tryd.prog ops Q (o :: rest) a w := by
  refine wpList_plain hg fun K' hK' => ?_
  obtain ⟨o', hrun, h1⟩ := RngIs.start h
  unfold Oper.wp
  simp [execOp, hop, hm, hrun, Result.andThen]
  exact hK' _ _ (hK _ h1 (bal (Below.refl _ _) _) (by simp))
theorem wpList_next_map (hg : o.guard = none) (it : Operand) (hop : o.op = Op.next it false) (b r : Nat) (S D : List En) (hit : a.eval it = .pointer (some ⟨r, 0, none⟩)) (h : RngIs w b r S D)
    (hDone : S.Perm D → wpList Tryd.prog ops Q rest (a.put o.dst (.tuple #[.bool false])) w)
    (hMore : ∀ (k1 k2 : Int) (p0 : Bool) (p1 p2 p3 t : Int) (w' : World), Hid ((∃ R, S.Perm (D ++ ((k1, k2), (p0, p1, p2, p3), t) :: R)) ∧ RngIs w' b r S (D ++ [((k1, k2), (p0, p1, p2, p3), t)]) ∧ w'.rangeLeft b r < w.rangeLeft b r ∧ w'.heap.size = w.heap.size ∧ (∀ i, i ≠ r → w'.heap[i]? = w.heap[i]?) ∧ ∀ B, B ≤ r → Below B w w') →
      (Instr.entry (.pointer (some ⟨r, 0, none⟩))).run Tryd.prog w' = .ok (.tuple #[.agg #[.int .i64 k1, .int .i64 k2], .agg #[.bool p0, .int .i64 p1, .int .i64 p2, .int .i64 p3, .int .i64 t]]) w' →
      wpList Tryd.prog ops Q rest (a.put o.dst (.tuple #[.bool true, .agg #[.int .i64 k1, .int .i64 k2], .agg #[.bool p0, .int .i64 p1, .int .i64 p2, .int .i64 p3, .int .i64 t]])) w') :
    wpList Tryd.prog ops Q (o :: rest) a w := by
  refine wpList_plain hg fun K' hK' => ?_
  unfold Oper.wp
  rcases h.next o.type with ⟨h0, hrun⟩ | ⟨x, w', hx, hR, hrun, h1, h2, h3, h4, h5, h6⟩
  · simp [execOp, hop, hit, hrun, Result.andThen]
    exact hK' _ _ (hDone h0)
  · obtain ⟨⟨k1, k2⟩, ⟨p0, p1, p2, p3⟩, t⟩ := x
    simp [execOp, hop, hit, hrun, Result.andThen]
    exact hK' _ _ (hMore k1 k2 p0 p1 p2 p3 t w' ⟨hR, h1, h2, h4, h5, h6⟩ h3)
end

/-! ### The greatest turn -/
def mxT (S : List En) : Int := S.foldl (fun m x => if x.2.2 > m then x.2.2 else m) 0
theorem mxT_snoc (S : List En) (x : En) : mxT (S ++ [x]) = if x.2.2 > mxT S then x.2.2 else mxT S := by simp [mxT, List.foldl_append]
theorem mxT_perm {S D : List En} (h : S.Perm D) : mxT S = mxT D := by
  unfold mxT
  refine h.foldl_eq' (fun x _ y _ z => ?_) 0
  by_cases a : x.2.2 > z <;> by_cases b : y.2.2 > z <;> simp only [a, b, if_true, if_false] <;> (repeat' split) <;> omega
theorem fold_ge (S : List En) : ∀ m : Int, m ≤ S.foldl (fun m x => if x.2.2 > m then x.2.2 else m) m ∧ (∀ x ∈ S, x.2.2 ≤ S.foldl (fun m x => if x.2.2 > m then x.2.2 else m) m) ∧ ∀ T, m ≤ T → (∀ x ∈ S, x.2.2 ≤ T) → S.foldl (fun m x => if x.2.2 > m then x.2.2 else m) m ≤ T := by
  induction S with
  | nil => intro m; simp
  | cons y S ih =>
    intro m
    obtain ⟨h1, h2, h3⟩ := ih (if y.2.2 > m then y.2.2 else m)
    simp only [List.foldl_cons]
    refine ⟨Int.le_trans (by split <;> omega) h1, fun x hx => ?_, fun T hm hT => h3 T ?_ (fun x hx => hT x (by simp [hx]))⟩
    · rcases List.mem_cons.1 hx with rfl | hx
      · exact Int.le_trans (by split <;> omega) h1
      · exact h2 x hx
    · have := hT y (by simp)
      split <;> omega
theorem mxT_ge (S : List En) {x : En} (h : x ∈ S) : x.2.2 ≤ mxT S := (fold_ge S 0).2.1 x h
theorem mxT_pos (S : List En) : 0 ≤ mxT S := (fold_ge S 0).1
theorem mxT_le (S : List En) {T : Int} (h0 : 0 ≤ T) (h : ∀ x ∈ S, x.2.2 ≤ T) : mxT S ≤ T := (fold_ge S 0).2.2 T h0 h
/-- The turn that turnOf answers. -/
def turnS (S : List En) (k : Ky) : Int := if hasK S k then tnK S k else mxT S + 1

end Go.Proofs.YthcgdgpflhdchaaDoor.Ptlb

/- What turnOf of package tlb answers. -/
namespace Go.Proofs.YthcgdgpflhdchaaDoor.Ptlb
open Go.Proofs.YthcgdgpflhdchaaDoor.Pbase
open Go.RowKit Go.ChangeMaps
set_option linter.unusedVariables false

set_option maxHeartbeats 1000000 in
set_option maxRecDepth 100000 in
theorem turn_has (p b : Nat) (r : Int) (S : List En) (k : Ky) (w : World) (h : TlbIs w p b r S) (hk : hasK S k = true) :
    Calls Tryd.prog 67 #[.pointer (some ⟨p, 0, none⟩), .agg #[.int .i64 k.1, .int .i64 k.2]] w fun e w' => e = .returned (.int .i64 (tnK S k)) ∧ Below w.heap.size w w' := by
  have hp := h.ents
  have hlt := h.lt
  have hl : Hid (∀ w', w'.heap[b]? = w.heap[b]? → (Instr.lookup 44 (.map (some b)) (kv k) true).run Tryd.prog w' = .ok (.tuple #[ev (ptK S k) (tnK S k), .bool true]) w') := fun w' e => hk ▸ look_has (h.map.on e) k
  have hb := h.map.lt
  have H : Hid (TlbIs w p b r S) := h
  obtain ⟨a, c⟩ := k
  obtain ⟨q, hq⟩ : ∃ q, q = ptK S (a, c) := ⟨_, rfl⟩
  obtain ⟨t, ht⟩ : ∃ q, q = tnK S (a, c) := ⟨_, rfl⟩
  rw [← hq, ← ht] at hl
  rw [← ht]
  clear hq ht h hk
  obtain ⟨q0, q1, q2, q3⟩ := q
  simp only [kv, ev] at hl
  go_enter Tryd.func67, Tryd.ntmps67
  go_wp2
  obtain ⟨w1, hw1⟩ : ∃ w1, w1 = w.alloc (.cells #[.int .i64 a, .int .i64 c] 70) := ⟨_, rfl⟩
  rw [← hw1]
  have HW : Hid (w1 = w.alloc (.cells #[.int .i64 a, .int .i64 c] 70)) := hw1
  clear hw1
  have c1 : w1.cell? ⟨p, 1, none⟩ = some (.map (some b)) := by rw [HW.out]; exact (H.out.alloc _).ents
  have c2 : w1.cell? ⟨w.heap.size, 0, none⟩ = some (.int .i64 a) := by rw [HW.out]; simp
  have c3 : w1.cell? ⟨w.heap.size, 1, none⟩ = some (.int .i64 c) := by rw [HW.out]; simp
  have HB : Hid (Below w.heap.size w w1) := by rw [HW.out]; exact bal (Below.refl _ _) _
  clear HW
  have n1 := World.new_ne w1 _ c1
  have n2 := World.new_ne w1 _ c2
  have hl1 := hl.out w1.drew (HB.out.drew.block b hb)
  have hl2 := hl.out (w1.alloc (.cells #[.bool false, .int .i64 0, .int .i64 0, .int .i64 0, .int .i64 0] 124)).drew ((bal HB.out _).drew.block b hb)
  go_region_held3 (fun w' => w'.cell? ⟨p, 1, none⟩ = some (.map (some b)) ∧ w'.cell? ⟨w.heap.size, 0, none⟩ = some (.int .i64 a) ∧ w'.cell? ⟨w.heap.size, 1, none⟩ = some (.int .i64 c)) (go_keep) (fail)
  all_goals
    go_wp2
    go_ret
    exact ⟨rfl, (bal HB.out _).drew⟩

set_option maxHeartbeats 2000000 in
set_option maxRecDepth 100000 in
theorem turn_new (p b : Nat) (r : Int) (S : List En) (k : Ky) (w : World) (h : TlbIs w p b r S) (hk : hasK S k = false) (hT : mxT S < 4611686018427387904) :
    Calls Tryd.prog 67 #[.pointer (some ⟨p, 0, none⟩), .agg #[.int .i64 k.1, .int .i64 k.2]] w fun e w' => e = .returned (.int .i64 (mxT S + 1)) ∧ Below w.heap.size w w' := by
  have hp := h.ents
  have hlt := h.lt
  have hl : Hid (∀ w', w'.heap[b]? = w.heap[b]? → (Instr.lookup 44 (.map (some b)) (kv k) true).run Tryd.prog w' = .ok (.tuple #[ev (ptK S k) (tnK S k), .bool false]) w') := fun w' e => hk ▸ look_has (h.map.on e) k
  have hb := h.map.lt
  have H : Hid (TlbIs w p b r S) := h
  obtain ⟨a, c⟩ := k
  obtain ⟨q, hq⟩ : ∃ q, q = ptK S (a, c) := ⟨_, rfl⟩
  obtain ⟨t, ht⟩ : ∃ q, q = tnK S (a, c) := ⟨_, rfl⟩
  rw [← hq, ← ht] at hl
  clear hq ht h hk
  have HT : Hid (mxT S < 4611686018427387904) := hT
  clear hT
  obtain ⟨q0, q1, q2, q3⟩ := q
  simp only [kv, ev] at hl
  go_enter Tryd.func67, Tryd.ntmps67
  go_wp2
  obtain ⟨w1, hw1⟩ : ∃ w1, w1 = w.alloc (.cells #[.int .i64 a, .int .i64 c] 70) := ⟨_, rfl⟩
  rw [← hw1]
  have HW : Hid (w1 = w.alloc (.cells #[.int .i64 a, .int .i64 c] 70)) := hw1
  clear hw1
  have c1 : w1.cell? ⟨p, 1, none⟩ = some (.map (some b)) := by rw [HW.out]; exact (H.out.alloc _).ents
  have c2 : w1.cell? ⟨w.heap.size, 0, none⟩ = some (.int .i64 a) := by rw [HW.out]; simp
  have c3 : w1.cell? ⟨w.heap.size, 1, none⟩ = some (.int .i64 c) := by rw [HW.out]; simp
  have HB : Hid (Below w.heap.size w w1) := by rw [HW.out]; exact bal (Below.refl _ _) _
  clear HW
  have n1 := World.new_ne w1 _ c1
  have n2 := World.new_ne w1 _ c2
  have hl1 := hl.out w1.drew (HB.out.drew.block b hb)
  have hl2 := hl.out (w1.alloc (.cells #[.bool false, .int .i64 0, .int .i64 0, .int .i64 0, .int .i64 0] 124)).drew ((bal HB.out _).drew.block b hb)
  have hp1 : p < w1.heap.size := by have := HB.out.size; omega
  go_region_held3 (fun w' => w'.cell? ⟨p, 1, none⟩ = some (.map (some b)) ∧ w'.cell? ⟨w.heap.size, 0, none⟩ = some (.int .i64 a) ∧ w'.cell? ⟨w.heap.size, 1, none⟩ = some (.int .i64 c)) (go_keep) (fail)
  all_goals
    obtain ⟨w2, hw2⟩ : ∃ w2, w2 = (w1.alloc (.cells #[.bool q0, .int .i64 q1, .int .i64 q2, .int .i64 q3, .int .i64 t] 124)).drew := ⟨_, rfl⟩
    rw [← hw2]
    have HB2 : Hid (Below w.heap.size w w2) := by rw [hw2]; exact (bal HB.out _).drew
    have c4 : w2.cell? ⟨p, 1, none⟩ = some (.map (some b)) := (HB2.out.cell (p := ⟨p, 1, none⟩) hlt).trans hp
    clear hw2 hl1 hl2 hl c1 c2 c3 n1 n2 hp1
    go_wp2_with (at_range; refine wpList_range_map _ rfl _ rfl b S rfl (H.out.map.on (HB2.out.block b hb)) ?_; intro w3 hrg hbl hsz; have HR : Hid (RngIs w3 b w2.heap.size S []) := hrg; have HB3 : Hid (Below w.heap.size w w3) := HB2.out.trans (hbl.mono HB2.out.size); clear hrg hbl hsz)
    go_frame
    go_loopw [7] (fun m wr => ∃ D, m = .int .i64 (mxT D) ∧ RngIs wr b w2.heap.size S D ∧ Below w.heap.size w wr ∧ ∃ R, S.Perm (D ++ R)) (fun _ wr => wr.rangeLeft b w2.heap.size)
    case atStart => exact ⟨[], rfl, HR.out, HB3.out, S, List.Perm.refl _⟩
    case round =>
      obtain ⟨D, rfl, hR, hB, hP⟩ := hrel
      have HR4 : Hid (RngIs wr b w2.heap.size S D) := hR
      have HB4 : Hid (Below w.heap.size w wr) := hB
      have HP : Hid (∃ R, S.Perm (D ++ R)) := hP
      clear hR hB hP HR HB3
      have hm0 := mxT_pos D
      have hm1 : mxT D < 4611686018427387904 := by
        obtain ⟨R, hR⟩ := HP.out
        refine Int.lt_of_le_of_lt (mxT_le D (mxT_pos S) fun x hx => mxT_ge S (hR.mem_iff.2 (by simp [hx]))) HT.out
      go_wp2_with (at_next; refine wpList_next_map _ rfl _ rfl b w2.heap.size S D rfl HR4.out (fun hD => ?_) (fun k1 k2 p0 p1 p2 p3 t4 w4 HN hen => ?_))
      · go_ret
        exact ⟨by rw [mxT_perm hD]; rfl, HB4.out⟩
      · obtain ⟨⟨R, hR⟩, g1, g2, g3, g4, g5⟩ := HN.out
        refine ⟨⟨D ++ [((k1, k2), (p0, p1, p2, p3), t4)], by rw [mxT_snoc]; all_goals (refine congrArg (Value.int IntKind.i64) ?_; dsimp only; split <;> omega), g1.alloc _, ?_, R, by simpa using hR⟩, ?_⟩
        · exact (HB4.out.trans (g5 _ HB2.out.size)).alloc (by rw [g3]; exact HB4.out.size) _
        · rw [g1.left_alloc]
          exact g2

/-- One contract, whatever the key. -/
theorem turn_any (p b : Nat) (r : Int) (S : List En) (k : Ky) (w : World) (h : TlbIs w p b r S) (hT : mxT S < 4611686018427387904) :
    Calls Tryd.prog 67 #[.pointer (some ⟨p, 0, none⟩), .agg #[.int .i64 k.1, .int .i64 k.2]] w fun e w' => e = .returned (.int .i64 (turnS S k)) ∧ Below w.heap.size w w' := by
  cases hk : hasK S k
  · simp only [turnS, hk, Bool.false_eq_true, if_false]
    exact turn_new p b r S k w h hk hT
  · simp only [turnS, hk, if_true]
    exact turn_has p b r S k w h hk
end Go.Proofs.YthcgdgpflhdchaaDoor.Ptlb

/- Contracts of Go's library that are proved once for all programs, laid at this program's functions: which of its functions and types are meant. -/
namespace Go.Proofs.YthcgdgpflhdchaaDoor
open Go.Shelf

def sortKey_ren : Go.Shelf.Ren := ⟨fun | 6 => 77 | 15 => 86 | 14 => 85 | 28 => 96 | 29 => 97 | 20 => 88 | 21 => 89 | 22 => 90 | 23 => 91 | 24 => 92 | 25 => 93 | 26 => 94 | 27 => 95 | 46 => 98 | 47 => 99 | 48 => 100 | 49 => 101 | 50 => 102 | 57 => 103 | n => n, fun | 22 => 127 | 24 => 70 | 25 => 140 | 3 => 3 | 39 => 146 | 0 => 0 | 53 => 156 | 55 => 22 | 4 => 4 | 46 => 149 | 45 => 148 | 50 => 153 | 5 => 5 | 9 => 9 | 66 => 158 | 70 => 162 | 76 => 164 | 77 => 165 | n => n, fun | n => n⟩
theorem sortKey : Go.Proofs.SlLaysF0.n6 Tryd.prog sortKey_ren := {
  mixed := by kernel_rfl,
  f6 := ⟨Tryd.f77.name, by decide, Tryd.func77.trans (congrArg some (by kernel_rfl))⟩,
  f14 := ⟨Tryd.f85.name, by decide, Tryd.func85.trans (congrArg some (by kernel_rfl))⟩,
  f15 := Tryd.func86.trans (congrArg some (by kernel_rfl)),
  f20 := ⟨Tryd.f88.name, by decide, Tryd.func88.trans (congrArg some (by kernel_rfl))⟩,
  f21 := ⟨Tryd.f89.name, by decide, Tryd.func89.trans (congrArg some (by kernel_rfl))⟩,
  f22 := ⟨Tryd.f90.name, by decide, Tryd.func90.trans (congrArg some (by kernel_rfl))⟩,
  f23 := ⟨Tryd.f91.name, by decide, Tryd.func91.trans (congrArg some (by kernel_rfl))⟩,
  f24 := ⟨Tryd.f92.name, by decide, Tryd.func92.trans (congrArg some (by kernel_rfl))⟩,
  f25 := ⟨Tryd.f93.name, by decide, Tryd.func93.trans (congrArg some (by kernel_rfl))⟩,
  f26 := ⟨Tryd.f94.name, by decide, Tryd.func94.trans (congrArg some (by kernel_rfl))⟩,
  f27 := ⟨Tryd.f95.name, by decide, Tryd.func95.trans (congrArg some (by kernel_rfl))⟩,
  f28 := Tryd.func96.trans (congrArg some (by kernel_rfl)),
  f29 := Tryd.func97.trans (congrArg some (by kernel_rfl)),
  f46 := ⟨Tryd.f98.name, by decide, Tryd.func98.trans (congrArg some (by kernel_rfl))⟩,
  f47 := Tryd.func99.trans (congrArg some (by kernel_rfl)),
  f48 := Tryd.func100.trans (congrArg some (by kernel_rfl)),
  f49 := ⟨Tryd.f101.name, by decide, Tryd.func101.trans (congrArg some (by kernel_rfl))⟩,
  f50 := ⟨Tryd.f102.name, by decide, Tryd.func102.trans (congrArg some (by kernel_rfl))⟩,
  f57 := ⟨Tryd.f103.name, by decide, Tryd.func103.trans (congrArg some (by kernel_rfl))⟩,
  t0 := Tryd.underlying0,
  a0 := Tryd.isAgg0,
  z0 := Tryd.sizeOf0,
  v0 := Tryd.zeroValue0,
  t3 := Tryd.underlying3,
  a3 := Tryd.isAgg3,
  z3 := Tryd.sizeOf3,
  v3 := Tryd.zeroValue3,
  t4 := Tryd.underlying4,
  a4 := Tryd.isAgg4,
  z4 := Tryd.sizeOf4,
  v4 := Tryd.zeroValue4,
  t5 := Tryd.underlying5,
  a5 := Tryd.isAgg5,
  z5 := Tryd.sizeOf5,
  v5 := Tryd.zeroValue5,
  t9 := Tryd.underlying9,
  a9 := Tryd.isAgg9,
  z9 := Tryd.sizeOf9,
  v9 := Tryd.zeroValue9,
  t22 := Tryd.underlying127,
  a22 := Tryd.isAgg127,
  z22 := Tryd.sizeOf127,
  v22 := Tryd.zeroValue127,
  t25 := Tryd.underlying140,
  a25 := Tryd.isAgg140,
  z25 := Tryd.sizeOf140,
  v25 := Tryd.zeroValue140,
  t39 := Tryd.underlying146,
  a39 := Tryd.isAgg146,
  z39 := Tryd.sizeOf146,
  v39 := Tryd.zeroValue146,
  t45 := Tryd.underlying148,
  a45 := Tryd.isAgg148,
  z45 := Tryd.sizeOf148,
  v45 := Tryd.zeroValue148,
  t46 := Tryd.underlying149,
  a46 := Tryd.isAgg149,
  z46 := Tryd.sizeOf149,
  v46 := Tryd.zeroValue149,
  t50 := Tryd.underlying153,
  a50 := Tryd.isAgg153,
  z50 := Tryd.sizeOf153,
  v50 := Tryd.zeroValue153,
  t53 := Tryd.underlying156,
  a53 := Tryd.isAgg156,
  z53 := Tryd.sizeOf156,
  v53 := Tryd.zeroValue156,
  t55 := Tryd.underlying22,
  a55 := Tryd.isAgg22,
  z55 := Tryd.sizeOf22,
  v55 := Tryd.zeroValue22,
  t66 := Tryd.underlying158,
  a66 := Tryd.isAgg158,
  z66 := Tryd.sizeOf158,
  v66 := Tryd.zeroValue158,
  t70 := Tryd.underlying162,
  a70 := Tryd.isAgg162,
  z70 := Tryd.sizeOf162,
  v70 := Tryd.zeroValue162,
  t76 := Tryd.underlying164,
  a76 := Tryd.isAgg164,
  z76 := Tryd.sizeOf164,
  v76 := Tryd.zeroValue164,
  t77 := Tryd.underlying165,
  a77 := Tryd.isAgg165,
  z77 := Tryd.sizeOf165,
  v77 := Tryd.zeroValue165 }

def cmpInt_ren : Go.Shelf.Ren := ⟨fun | 5 => 79 | 7 => 87 | n => n, fun | 22 => 3 | 3 => 3 | 4 => 4 | n => n, fun | n => n⟩
theorem cmpInt : Go.Proofs.SlLaysC2.n5 Tryd.prog cmpInt_ren := {
  mixed := by kernel_rfl,
  f5 := ⟨Tryd.f79.name, by decide, Tryd.func79.trans (congrArg some (by kernel_rfl))⟩,
  f7 := ⟨Tryd.f87.name, by decide, Tryd.func87.trans (congrArg some (by kernel_rfl))⟩,
  t3 := Tryd.underlying3,
  a3 := Tryd.isAgg3,
  z3 := Tryd.sizeOf3,
  v3 := Tryd.zeroValue3,
  t4 := Tryd.underlying4,
  a4 := Tryd.isAgg4,
  z4 := Tryd.sizeOf4,
  v4 := Tryd.zeroValue4,
  t22 := Tryd.underlying3,
  a22 := Tryd.isAgg3,
  z22 := Tryd.sizeOf3,
  v22 := Tryd.zeroValue3 }

end Go.Proofs.YthcgdgpflhdchaaDoor

/- How Keys of package tlb compares two keys. -/
namespace Go.Proofs.YthcgdgpflhdchaaDoor.Ptlb
open Go.Proofs.YthcgdgpflhdchaaDoor.Pbase
open Go.Shelf Go.RowKit Go.Lib Go.Sort Go.ChangeMaps
set_option linter.unusedVariables false

/-- The order of turns. -/
def cfT (S : List En) (x y : Ky) : Int := Lib.compareInt (tnK S x) (tnK S y)
theorem compare_any (x y : Int) (w : World) : Calls Tryd.prog 79 #[.int .i64 x, .int .i64 y] w fun e w' => e = .returned (.int .i64 (Lib.compareInt x y)) ∧ w' = w := AnyG.cmp_Compare_int cmpInt x y w
set_option maxHeartbeats 2000000 in
set_option maxRecDepth 100000 in
theorem closure_any (q p b : Nat) (S : List En) (x y : Ky) (W : World) (h0 : W.cell? ⟨q, 0, none⟩ = some (.pointer (some ⟨p, 0, none⟩))) (h1 : W.cell? ⟨p, 1, none⟩ = some (.map (some b))) (hM : MapIs W b S) :
    Calls Tryd.prog 78 #[.agg #[.int .i64 x.1, .int .i64 x.2], .agg #[.int .i64 y.1, .int .i64 y.2], .pointer (some ⟨q, 0, none⟩)] W fun e w' => e = .returned (.int .i64 (cfT S x y)) ∧ ∃ n os', w' = grow (W.drewN n) os' := by
  obtain ⟨a, c⟩ := x
  obtain ⟨d, f⟩ := y
  simp only [cfT]
  obtain ⟨W2, hW2⟩ : ∃ W2, W2 = (W.alloc (.cells #[.int .i64 a, .int .i64 c] 70)).alloc (.cells #[.int .i64 d, .int .i64 f] 70) := ⟨_, rfl⟩
  have hB : Below W.heap.size W W2 := by rw [hW2]; exact bal (bal (Below.refl _ _) _) _
  have hM2 : ∀ n, MapIs (W2.drewN n) b S := fun n => (hM.on (hB.block b hM.lt)).on rfl
  have k1 : ∀ n, (Instr.lookup 44 (.map (some b)) (kv (a, c)) false).run Tryd.prog (W2.drewN n) = .ok (ev (ptK S (a, c)) (tnK S (a, c))) (W2.drewN n) := fun n => look_at (hM2 n) (a, c)
  have k2 : ∀ n, (Instr.lookup 44 (.map (some b)) (kv (d, f)) false).run Tryd.prog (W2.drewN n) = .ok (ev (ptK S (d, f)) (tnK S (d, f))) (W2.drewN n) := fun n => look_at (hM2 n) (d, f)
  simp only [kv, ev] at k1 k2
  generalize tnK S (a, c) = t1 at k1 ⊢
  generalize tnK S (d, f) = t2 at k2 ⊢
  generalize ptK S (a, c) = q1 at k1
  generalize ptK S (d, f) = q2 at k2
  have e0 : W2.cell? ⟨q, 0, none⟩ = some (.pointer (some ⟨p, 0, none⟩)) := (hB.cell (p := ⟨q, 0, none⟩) (World.block_lt_of_cell? W _ h0)).trans h0
  have e1 : W2.cell? ⟨p, 1, none⟩ = some (.map (some b)) := (hB.cell (p := ⟨p, 1, none⟩) (World.block_lt_of_cell? W _ h1)).trans h1
  have e2 : W2.cell? ⟨W.heap.size, 0, none⟩ = some (.int .i64 a) := by rw [hW2]; simp
  have e3 : W2.cell? ⟨W.heap.size, 1, none⟩ = some (.int .i64 c) := by rw [hW2]; simp
  have e4 : W2.cell? ⟨W.heap.size + 1, 0, none⟩ = some (.int .i64 d) := by rw [hW2]; simp
  have e5 : W2.cell? ⟨W.heap.size + 1, 1, none⟩ = some (.int .i64 f) := by rw [hW2]; simp
  have HW : Hid (W2 = grow W #[.cells #[.int .i64 a, .int .i64 c] 70, .cells #[.int .i64 d, .int .i64 f] 70]) := by
    have : W2 = grow W #[.cells #[.int .i64 a, .int .i64 c] 70, .cells #[.int .i64 d, .int .i64 f] 70] := by rw [hW2, alloc_eq_grow, alloc_eq_grow, grow_grow]; rfl
    exact this
  clear h0 h1 hM hB hM2
  have hfd : ∀ (o : Bool) (u v t s : Int) (w : World), (Instr.field 124 (.agg #[.bool o, .int .i64 u, .int .i64 v, .int .i64 t, .int .i64 s]) 1).run Tryd.prog w = .ok (.int .i64 s) w := fun _ _ _ _ _ _ => by kernel_rfl
  go_enter Tryd.func78, Tryd.ntmps78
  go_wp2
  rw [← hW2]
  clear hW2
  go_quiet ((go_at_call 79; exact Calls.quiet_of_same (compare_any _ _ _)))
  go_wp2
  go_ret
  exact ⟨rfl, _, _, by rw [HW.out]; rfl⟩
end Go.Proofs.YthcgdgpflhdchaaDoor.Ptlb

/- Keys are sorted by their turns: what the library's sort leaves, at the keys of what is remembered. -/
namespace Go.Proofs.YthcgdgpflhdchaaDoor.Ptlb
open Go.Proofs.YthcgdgpflhdchaaDoor.Pbase
open Go.Shelf Go.RowKit Go.Lib Go.Sort Go.ChangeMaps
set_option linter.unusedVariables false

/-! ### The list's order -/
/-- No key twice; turns rise from 1 on. -/
structure OkS (S : List En) : Prop where
  keys : S.Pairwise fun x y => x.1 ≠ y.1
  rise : S.Pairwise fun x y => x.2.2 < y.2.2
theorem tnK_mem : ∀ {S : List En}, S.Pairwise (fun x y => x.1 ≠ y.1) → ∀ {x : En}, x ∈ S → tnK S x.1 = x.2.2 ∧ ptK S x.1 = x.2.1 ∧ hasK S x.1 = true
  | [], _, _, h => by simp at h
  | y :: S, hp, x, h => by
    obtain ⟨h1, h2⟩ := List.pairwise_cons.1 hp
    rcases List.mem_cons.1 h with rfl | h
    · simp [tnK, ptK, hasK]
    · have hne := h1 x h
      have := tnK_mem h2 h
      simp only [tnK, ptK, hasK, if_neg hne, List.any_cons, decide_eq_true_eq, Bool.or_eq_true]
      exact ⟨this.1, this.2.1, Or.inr this.2.2⟩
theorem eq_of_rise {f : Ky → Int} : ∀ (s l : List Ky), s.Pairwise (fun x y => f x < f y) → l.Pairwise (fun x y => f x ≤ f y) → l.Perm s → l = s
  | [], l, _, _, h => List.Perm.eq_nil h
  | a :: s, [], _, _, h => by simpa using h.length_eq
  | a :: s, c :: l, h1, h2, h => by
    obtain ⟨g1, g2⟩ := List.pairwise_cons.1 h1
    obtain ⟨g3, g4⟩ := List.pairwise_cons.1 h2
    have e : c = a := by
      rcases List.mem_cons.1 (h.mem_iff.1 (List.mem_cons_self (a := c) (l := l))) with e | hc
      · exact e
      · rcases List.mem_cons.1 (h.mem_iff.2 (List.mem_cons_self (a := a) (l := s))) with e | ha
        · exact e.symm
        · have := g1 c hc
          have := g3 a ha
          omega
    subst e
    rw [eq_of_rise s l g2 g4 (List.perm_cons c |>.1 h)]
theorem rise_keys {S : List En} (h : OkS S) : (S.map (·.1)).Pairwise fun x y => tnK S x < tnK S y := by
  rw [List.pairwise_map]
  refine List.Pairwise.imp_of_mem (fun {x y} hx hy hlt => ?_) h.rise
  rw [(tnK_mem h.keys hx).1, (tnK_mem h.keys hy).1]
  exact hlt
theorem ltOf_cfT (S : List En) (x y : Ky) : ltOf (cfT S) x y = decide (tnK S x < tnK S y) := by
  unfold ltOf cfT Lib.compareInt
  by_cases h1 : tnK S x < tnK S y
  · simp [h1]
  · by_cases h2 : tnK S y < tnK S x <;> simp [h1, h2]
theorem swo_cfT (S : List En) : SWO (ltOf (cfT S)) where
  irrefl x := by rw [ltOf_cfT]; simp
  trans x y z h1 h2 := by rw [ltOf_cfT] at *; simp at *; omega
  ntrans x y z h1 h2 := by rw [ltOf_cfT] at *; simp at *; omega

/-! ### The sort's worlds -/
def encK (k : Ky) : List Value := [.int .i64 k.1, .int .i64 k.2]
theorem sort_block (w : World) (g m : Nat) (d : Array Ky) (os : Array Obj) {i : Nat} (hi : i < w.heap.size) (hne : i ≠ g) : (sortWorldK encK 2 w g 0 m d os).heap[i]? = w.heap[i]? := by
  unfold sortWorldK
  rw [heap_grow_old _ _ (by simpa [putRowK] using hi)]
  simp [putRowK, putRow, mapBlock, Array.getElem?_modify, Ne.symm hne]
theorem sort_below (w : World) (g m : Nat) (d : Array Ky) (os : Array Obj) {B : Nat} (hB : B ≤ w.heap.size) (hg : B ≤ g) : Below B w (sortWorldK encK 2 w g 0 m d os) :=
  ⟨rfl, rfl, rfl, by simp [sortWorldK, putRowK], fun i hi => sort_block w g m d os (by omega) (by omega)⟩
theorem sort_cells (w : World) (g m : Nat) (d d' : Array Ky) (os : Array Obj) (hH : HoldsK encK 2 w g 0 d) (hs : d'.size = d.size) (hg : g < w.heap.size) {j : Nat} (hj : j < d'.size) :
    (sortWorldK encK 2 w g 0 m d' os).cell? ⟨g, j * 2, none⟩ = some (.int .i64 (d'[j]!).1) ∧ (sortWorldK encK 2 w g 0 m d' os).cell? ⟨g, j * 2 + 1, none⟩ = some (.int .i64 (d'[j]!).2) := by
  have h1 : HoldsK encK 2 (sortWorldK encK 2 w g 0 m d' os) g 0 d' := by
    unfold sortWorldK
    exact holdsK_grow _ _ _ _ _ _ _ (by simpa [putRowK] using hg) (holdsK_putRowK _ _ _ _ _ d d' (holdsK_ahead _ _ _ _ _ _ _ hH) hs)
  have a := h1.cell (i := j) (c := 0) hj (by omega)
  have b := h1.cell (i := j) (c := 1) hj (by omega)
  simp only [Nat.zero_add, Nat.add_zero, encK, List.getElem!_cons_zero, List.getElem!_cons_succ] at a b
  exact ⟨a.1, b.1⟩
set_option maxHeartbeats 1000000 in
set_option maxRecDepth 100000 in
theorem sort_keys (q p b g cap : Nat) (S D : List En) (w : World) (hS : OkS S) (hP : S.Perm D) (h0 : w.cell? ⟨q, 0, none⟩ = some (.pointer (some ⟨p, 0, none⟩))) (h1 : w.cell? ⟨p, 1, none⟩ = some (.map (some b))) (hM : MapIs w b S)
    (hq : q ≠ g) (hp : p ≠ g) (hb : b ≠ g) (hg : g < w.heap.size) (hH : HoldsK encK 2 w g 0 (D.map (·.1)).toArray) (hl : D.length < 4611686018427387904) :
    Calls Tryd.prog 77 #[.slice (some ⟨g, 0, none⟩) D.length cap, .func (.func 78) #[] #[.pointer (some ⟨q, 0, none⟩)]] w fun e w' =>
      e = .returned (.tuple #[]) ∧ (∀ j x, S[j]? = some x → w'.cell? ⟨g, j * 2, none⟩ = some (.int .i64 x.1.1) ∧ w'.cell? ⟨g, j * 2 + 1, none⟩ = some (.int .i64 x.1.2)) ∧ ∀ B, B ≤ g → Below B w w' := by
  have eg : ∀ args w, (callFunc 78 args).run Tryd.prog w = .ok (.enter 78 args) w := enters_of Tryd.func78 (by kernel_rfl) rfl
  have hq' := World.block_lt_of_cell? w _ h0
  have hp' := World.block_lt_of_cell? w _ h1
  have hcmp : CmpLays Tryd.prog 78 #[.pointer (some ⟨q, 0, none⟩)] encK 2 (cfT S) g 0 (D.map (·.1)).toArray.size w := by
    intro m os dk hdk x y
    refine closure_any q p b S x y _ ?_ ?_ ?_
    · rw [World.cell?_of_block (w := w) (sort_block w g m dk os hq' hq)]; exact h0
    · rw [World.cell?_of_block (w := w) (sort_block w g m dk os hp' hp)]; exact h1
    · exact hM.on (sort_block w g m dk os hM.lt hb)
  have hcon := AnyQ.slices_SortFunc sortKey 2 Tryd.isAgg70 Tryd.sizeOf70 encK (fun _ => rfl) (fun x v hv => by simp [encK] at hv; rcases hv with rfl | rfl <;> rfl) (cfT S) (swo_cfT S) 78 #[.pointer (some ⟨q, 0, none⟩)] g 0 cap (D.map (·.1)).toArray w eg hcmp hH hg (by simpa using hl)
  have e1 : (D.map (·.1)).toArray.size = D.length := by simp
  rw [e1] at hcon
  change Calls Tryd.prog 77 _ _ _ at hcon
  refine hcon.mono ?_
  rintro e w' ⟨rfl, d', n, os, hperm, hsort, rfl⟩
  obtain ⟨s1, s2, s3⟩ := hperm
  have hsz : d'.size = D.length := by rw [s1, e1]
  have hd : d'.toList = S.map (·.1) := by
    refine eq_of_rise (f := tnK S) _ _ (rise_keys hS) ?_ ?_
    · rw [List.pairwise_iff_getElem]
      intro i j hi hj hij
      have := hsort i j (Nat.zero_le _) hij (by simpa [hsz] using hj)
      rw [ltOf_cfT] at this
      simp only [decide_eq_false_iff_not, Int.not_lt] at this
      have a1 : d'[i]! = d'.toList[i] := by rw [getElem!_pos d' i (by simpa using hi)]; simp
      have a2 : d'[j]! = d'.toList[j] := by rw [getElem!_pos d' j (by simpa using hj)]; simp
      rw [a1, a2] at this
      exact this
    · have x1 : (d'.extract 0 D.length) = d' := by rw [← hsz]; simp
      have x2 : ((D.map (·.1)).toArray.extract 0 D.length) = (D.map (·.1)).toArray := by
        have : D.length = (D.map (·.1)).toArray.size := by simp
        rw [this, Array.extract_size]
      rw [x1, x2] at s3
      exact s3.trans (hP.symm.map _)
  refine ⟨rfl, fun j x hx => ?_, fun B hB => sort_below w g n d' os (by omega) hB⟩
  have hj : j < S.length := (List.getElem?_eq_some_iff.1 hx).1
  have hj' : j < d'.size := by rw [hsz, ← hP.length_eq]; exact hj
  have hx' : d'[j]! = x.1 := by
    rw [getElem!_pos d' j hj', ← Array.getElem_toList]
    have : d'.toList[j]? = some x.1 := by rw [hd]; simp [hx]
    exact (List.getElem?_eq_some_iff.1 this).2
  have := sort_cells w g n (D.map (·.1)).toArray d' os hH (by rw [hsz, e1]) hg hj'
  rw [hx'] at this
  exact this
end Go.Proofs.YthcgdgpflhdchaaDoor.Ptlb

/- What Keys of package tlb answers: the keys, the oldest first, in a slice of its own. -/
namespace Go.Proofs.YthcgdgpflhdchaaDoor.Ptlb
open Go.Proofs.YthcgdgpflhdchaaDoor.Pbase
open Go.Shelf Go.RowKit Go.Lib Go.Sort Go.ChangeMaps
set_option linter.unusedVariables false

/-! ### append where there is room -/
theorem run_append_roomy {P : Program} (w : World) (base : Nat) (t ty e : TypeId) (i : TypeInfo) (size : Nat) (ht : P.underlying t = some (.slice e)) (hi : P.info? e = some i) (hsize : i.size = size)
    (g n cap : Nat) (xs : List Value) (hown : w.ownsRow base e size (.slice (some ⟨g, 0, none⟩) n cap) n xs) (a : Addr) (m c : Nat) (news : List Value) (hl : news.length = m * size) (hnews : ∀ j u, news[j]? = some u → w.cell? (a.add j) = some u) (h1 : ∀ u ∈ news, u.oneCell' = true) (hroom : n + m ≤ cap) :
    ∃ w', (Builtin.append_ #[t, t] ty #[.slice (some ⟨g, 0, none⟩) n cap, .slice (some a) m c]).run P w = .ok (.slice (some ⟨g, 0, none⟩) (n + m) cap) w' ∧ w'.ownsRow base e size (.slice (some ⟨g, 0, none⟩) (n + m) cap) (n + m) (xs ++ news) ∧ w.grownBy w' (some g) := by
  subst hsize
  have hlen : (xs ++ news).length = (n + m) * i.size := by rw [List.length_append, hown.1, hl, Nat.add_mul]
  rcases hown.2 with ⟨e0, _⟩ | ⟨g', cap', cur, e0, hbg, hg, hnc, hcm, hcs, htake⟩
  · cases e0
  · cases e0
    have hfit : n * i.size + news.length ≤ cur.size := by rw [hl, hcs, ← Nat.add_mul]; exact Nat.mul_le_mul_right _ hroom
    have hr := run_append_room (P := P) w t ty e i ht hi g n cap cur hg a m c news hl hnews h1 hroom hfit
    refine ⟨_, hr, ⟨hlen, .inr ⟨g, cap, _, rfl, hbg, setRow_heap w g cur _ e _ hg, hroom, hcm, ?_, ?_⟩⟩, ⟨rfl, rfl, rfl, by simp, fun k _ hk => setRow_other w g k _ (fun e => hk (by rw [e]))⟩⟩
    · simp only [List.size_toArray, List.length_append, List.length_take, List.length_drop, Array.length_toList]
      omega
    · rw [htake, ← hlen]
      exact List.take_left
theorem wpList_append_roomy {P : Program} (w : World) {ops : Array Oper} {rest : List Oper} {o : Oper} {a : Act} {Q : Exit → Act → World → Prop} (hgd : o.guard = none) (s x : Operand) (t : TypeId)
    (ho : o.op = .call { callee := .builtin .append, args := #[s, x], argTypes := #[t, t] })
    (base : Nat) (e : TypeId) (i : TypeInfo) (size : Nat) (ht : P.underlying t = some (.slice e)) (hi : P.info? e = some i) (hsize : i.size = size)
    (g n cap : Nat) (xs : List Value) (hs : a.eval s = .slice (some ⟨g, 0, none⟩) n cap) (hown : w.ownsRow base e size (.slice (some ⟨g, 0, none⟩) n cap) n xs)
    (ad : Addr) (m c : Nat) (news : List Value) (hx : a.eval x = .slice (some ad) m c) (hl : news.length = m * size) (hnews : ∀ j u, news[j]? = some u → w.cell? (ad.add j) = some u) (h1 : ∀ u ∈ news, u.oneCell' = true) (hroom : n + m ≤ cap)
    (h : ∀ w', w'.ownsRow base e size (.slice (some ⟨g, 0, none⟩) (n + m) cap) (n + m) (xs ++ news) → w.grownBy w' (some g) → wpList P ops Q rest (a.put o.dst (.slice (some ⟨g, 0, none⟩) (n + m) cap)) w') :
    wpList P ops Q (o :: rest) a w := by
  refine wpList_plain hgd fun K hK => ?_
  obtain ⟨w', hr, h2, h3⟩ := run_append_roomy (P := P) w base t o.type e i size ht hi hsize g n cap xs hown ad m c news hl hnews h1 hroom
  unfold Oper.wp execOp
  simp only [ho, resolve, invoke, builtin, Sem.run_bind, Sem.run_pure, Result.andThen_ok, List.map_toArray, List.map_cons, List.map_nil, hs, hx, hr]
  exact hK _ _ (h w' h2 h3)
/-- The cells of the keys of D. -/
def keyCells (D : List En) : List Value := D.flatMap fun x => encK x.1
theorem keyCells_snoc (D : List En) (x : En) : keyCells (D ++ [x]) = keyCells D ++ [.int .i64 x.1.1, .int .i64 x.1.2] := by simp [keyCells, encK]
theorem keyCells_len (D : List En) : (keyCells D).length = D.length * 2 := by
  induction D with
  | nil => rfl
  | cons x D ih =>
    have : keyCells (x :: D) = encK x.1 ++ keyCells D := rfl
    rw [this, List.length_append, ih]
    simp [encK]; omega
theorem keyCells_get : ∀ (D : List En) (j : Nat) (x : En), D[j]? = some x → (keyCells D)[j * 2]? = some (.int .i64 x.1.1) ∧ (keyCells D)[j * 2 + 1]? = some (.int .i64 x.1.2)
  | [], j, x, h => by simp at h
  | y :: D, 0, x, h => by
    simp at h
    subst h
    exact ⟨rfl, rfl⟩
  | y :: D, j + 1, x, h => by
    have := keyCells_get D j x (by simpa using h)
    have e1 : (j + 1) * 2 = j * 2 + 1 + 1 := by omega
    have e2 : keyCells (y :: D) = .int .i64 y.1.1 :: .int .i64 y.1.2 :: keyCells D := rfl
    rw [e1, e2]
    simpa using this
/-- A row that owns the keys' cells holds the keys, as the sort asks it. -/
theorem holds_of_own {w : World} {base g n cap : Nat} {D : List En} (h : w.ownsRow base 70 2 (.slice (some ⟨g, 0, none⟩) n cap) D.length (keyCells D)) : HoldsK encK 2 w g 0 (D.map (·.1)).toArray := by
  rcases h.2 with ⟨e0, _⟩ | ⟨g', cap', cur, e0, hbg, hg, hnc, hcm, hcs, htake⟩
  · cases e0
  · cases e0
    intro j hj
    simp only [size_flatK, List.size_toArray, List.length_map] at hj
    rw [get_flatK _ _ _ _ (by simpa using hj), Nat.zero_add]
    have hx : j / 2 < D.length := by omega
    have hd : ((D.map (·.1)).toArray)[j / 2]! = (D[j / 2]).1 := by
      rw [getElem!_pos _ _ (by simpa using hx)]; simp
    refine ⟨?_, frozen_of_row w g j _ _ hg⟩
    rw [cell_of_row w g j _ _ _ hg]
    have hk := keyCells_get D (j / 2) D[j / 2] (List.getElem?_eq_getElem hx)
    have hcur : ∀ i, i < D.length * 2 → cur[i]? = (keyCells D)[i]? := fun i hi => by
      rw [← htake, List.getElem?_take, if_pos (by simpa using hi), Array.getElem?_toList]
    rw [hcur j hj, hd]
    rcases Nat.mod_two_eq_zero_or_one j with hm | hm
    · have : j = j / 2 * 2 := by omega
      rw [hm]
      conv => lhs; rw [this]
      rw [hk.1]; rfl
    · have : j = j / 2 * 2 + 1 := by omega
      rw [hm]
      conv => lhs; rw [this]
      rw [hk.2]; rfl
set_option maxRecDepth 100000 in
theorem infoKey : (Tryd.prog.info? 70).map (fun i => (i.zero, i.size, i.bytes)) = some (some (.agg #[.int .i64 0, .int .i64 0]), 2, 16) := by kernel_rfl
theorem cell_two_new (w : World) (x y : Value) (t : TypeId) : ∀ j u, [x, y][j]? = some u → (w.alloc (.cells #[x, y] t)).cell? ((⟨w.heap.size, 0, none⟩ : Addr).add j) = some u := by
  intro j u hj
  match j, hj with
  | 0, hj => simp at hj; subst hj; simp [Addr.add]
  | 1, hj => simp at hj; subst hj; simp [Addr.add]
  | j + 2, hj => simp at hj
end Go.Proofs.YthcgdgpflhdchaaDoor.Ptlb

/- What Keys of package tlb answers: the keys, the oldest first, in a slice of its own. -/
namespace Go.Proofs.YthcgdgpflhdchaaDoor.Ptlb
open Go.Proofs.YthcgdgpflhdchaaDoor.Pbase
open Go.Shelf Go.RowKit Go.Lib Go.Sort Go.ChangeMaps
set_option linter.unusedVariables false

theorem own_on {w w' : World} {base g n m cap size : Nat} {e : TypeId} {xs : List Value} (h : w.ownsRow base e size (.slice (some ⟨g, 0, none⟩) m cap) n xs) (hg : w'.heap[g]? = w.heap[g]?) : w'.ownsRow base e size (.slice (some ⟨g, 0, none⟩) m cap) n xs := by
  refine ⟨h.1, ?_⟩
  rcases h.2 with ⟨e0, _⟩ | ⟨g', cap', cur, e0, hbg, hg', r⟩
  · cases e0
  · cases e0
    exact .inr ⟨g, cap, cur, rfl, hbg, hg.trans hg', r⟩
theorem own_lt {w : World} {base g n m cap size : Nat} {e : TypeId} {xs : List Value} (h : w.ownsRow base e size (.slice (some ⟨g, 0, none⟩) m cap) n xs) : base ≤ g ∧ g < w.heap.size := by
  rcases h.2 with ⟨e0, _⟩ | ⟨g', cap', cur, e0, hbg, hg', r⟩
  · cases e0
  · cases e0
    exact ⟨hbg, (Array.getElem?_eq_some_iff.1 hg').1⟩
theorem own_ne_iter {w : World} {base g n m cap size b r : Nat} {e : TypeId} {xs : List Value} {S D : List En} (h : w.ownsRow base e size (.slice (some ⟨g, 0, none⟩) m cap) n xs) (k : RngIs w b r S D) : g ≠ r ∧ g ≠ b := by
  obtain ⟨es, clock, since, seen, c0, h1, h2, h3, _⟩ := k
  rcases h.2 with ⟨e0, _⟩ | ⟨g', cap', cur, e0, hbg, hg', r⟩
  · cases e0
  · cases e0
    exact ⟨fun e => (by rw [← e, hg'] at h3; cases h3), fun e => (by rw [← e, hg'] at h1; cases h1)⟩
theorem room_left {N : Nat} {S D : List En} {x : En} (hN : N = S.length) (h : ∃ R, S.Perm (D ++ x :: R)) : D.length + 1 ≤ N := by
  obtain ⟨R, hR⟩ := h
  have := hR.length_eq
  simp at this
  omega
theorem len_left {N : Nat} {S D : List En} (hN : N = S.length) (h : S.Perm D) (hl : N ≤ 1000) : D.length < 4611686018427387904 := by
  rw [← h.length_eq]
  omega
set_option maxHeartbeats 4000000 in
set_option maxRecDepth 100000 in
theorem keys_any (p b : Nat) (r : Int) (S : List En) (w : World) (h : TlbIs w p b r S) (hS : OkS S) (hl : S.length ≤ 1000) :
    Calls Tryd.prog 68 #[.pointer (some ⟨p, 0, none⟩)] w fun e w' => ∃ g, e = .returned (.slice (some ⟨g, 0, none⟩) S.length S.length) ∧ w.heap.size ≤ g ∧ (∀ j x, S[j]? = some x → w'.cell? ⟨g, j * 2, none⟩ = some (.int .i64 x.1.1) ∧ w'.cell? ⟨g, j * 2 + 1, none⟩ = some (.int .i64 x.1.2)) ∧ Below w.heap.size w w' := by
  have hp := h.ents
  have hlt := h.lt
  have hb := h.map.lt
  have H : Hid (TlbIs w p b r S) := h
  have HS : Hid (OkS S) := hS
  obtain ⟨i0, hi, hz0, hz1, hz2⟩ := info_parts infoKey
  clear h hS
  have HI : Hid (Tryd.prog.info? 70 = some i0) := hi
  have HZ0 : Hid (i0.zero = some (.agg #[.int .i64 0, .int .i64 0])) := hz0
  have HZ1 : Hid (i0.size = 2) := hz1
  have HZ2 : Hid (i0.bytes = 16) := hz2
  clear hi hz0 hz1 hz2
  obtain ⟨N, hN⟩ : ∃ N, N = S.length := ⟨_, rfl⟩
  have HN : Hid (N = S.length) := hN
  have hlen : Hid (∀ w', w'.heap[b]? = w.heap[b]? → ∀ ty, (Builtin.len_ #[44] ty #[.map (some b)]).run Tryd.prog w' = .ok (.int .i64 N) w') := fun w' e ty => by rw [hN]; exact len_map (H.out.map.on e) ty
  rw [← hN] at hl ⊢
  clear hN
  go_enter Tryd.func68, Tryd.ntmps68
  go_wp2_with (first
    | (go_at_call 30; refine (made_some p b _ (H.out.alloc _).ents).mono ?_; rintro e w1 ⟨rfl, hw1⟩; have HW : Hid (w1 = _) := hw1; clear hw1; have c0 : w1.cell? ⟨w.heap.size, 0, none⟩ = some (.pointer (some ⟨p, 0, none⟩)) := (by rw [HW.out]; simp); have HB : Hid (Below w.heap.size w w1) := (by rw [HW.out]; exact bal (Below.refl _ _) _); have c1 : w1.cell? ⟨p, 1, none⟩ = some (.map (some b)) := (HB.out.cell (p := ⟨p, 1, none⟩) hlt).trans hp; have hl1 := hlen.out w1 (HB.out.block b hb); have s1 : w.heap.size < w1.heap.size := World.block_lt_of_cell? w1 _ c0; clear HW)
    | (at_make; refine wpList_make_own _ rfl _ _ 127 rfl w.heap.size 70 i0 _ 2 Tryd.underlying127 HI.out HZ0.out HZ1.out _ _ _ N rfl rfl rfl (by rw [HZ2.out]; omega) (by unfold maxLen; omega) HB.out.size ?_; intro w2 hown2 hgr2; have HO : Hid (w2.ownsRow w.heap.size 70 2 (.slice (some ⟨w1.heap.size, 0, none⟩) 0 N) 0 []) := hown2; have HB2 : Hid (Below w.heap.size w w2) := HB.out.grown hgr2 HB.out.size (fun k hk => by cases hk); have d0 : w2.cell? ⟨w.heap.size, 0, none⟩ = some (.pointer (some ⟨p, 0, none⟩)) := (World.cell?_of_block (w := w1) (hgr2.block _ s1 (by simp))).trans c0; have d1 : w2.cell? ⟨p, 1, none⟩ = some (.map (some b)) := (HB2.out.cell (p := ⟨p, 1, none⟩) hlt).trans hp; clear hown2 hgr2 hl1 c0 c1)
    | (at_range; refine wpList_range_map _ rfl _ rfl b S rfl (H.out.map.on (HB2.out.block b hb)) ?_; intro w3 hrg hbl hsz; have HR : Hid (RngIs w3 b w2.heap.size S []) := hrg; have HB3 : Hid (Below w.heap.size w w3) := HB2.out.trans (hbl.mono HB2.out.size); have HO3 : Hid (w3.ownsRow w.heap.size 70 2 (.slice (some ⟨w1.heap.size, 0, none⟩) 0 N) 0 []) := own_on HO.out (hbl.block _ (own_lt HO.out).2); have e0 : w3.cell? ⟨w.heap.size, 0, none⟩ = some (.pointer (some ⟨p, 0, none⟩)) := (hbl.cell (p := ⟨w.heap.size, 0, none⟩) (World.block_lt_of_cell? w2 _ d0)).trans d0; clear hrg hbl hsz d0 d1 HO HB))
  go_frame
  obtain ⟨g, hg⟩ : ∃ g, g = w1.heap.size := ⟨_, rfl⟩
  obtain ⟨rr, hrr⟩ : ∃ g, g = w2.heap.size := ⟨_, rfl⟩
  rw [← hg] at HO3 ⊢
  rw [← hrr] at HR ⊢
  have HRB : Hid (w.heap.size ≤ rr) := by rw [hrr]; exact HB2.out.size
  have HGQ : Hid (w.heap.size ≠ g) := by rw [hg]; exact Nat.ne_of_lt s1
  clear hg hrr s1
  go_loopw [3] (fun v wr => ∃ D, v = .slice (some ⟨g, 0, none⟩) D.length N ∧ RngIs wr b rr S D ∧ wr.ownsRow w.heap.size 70 2 (.slice (some ⟨g, 0, none⟩) D.length N) D.length (keyCells D) ∧ Below w.heap.size w wr ∧ wr.cell? ⟨w.heap.size, 0, none⟩ = some (.pointer (some ⟨p, 0, none⟩)) ∧ ∃ R, S.Perm (D ++ R)) (fun _ wr => wr.rangeLeft b rr)
  case atStart => exact ⟨[], rfl, HR.out, HO3.out, HB3.out, e0, S, List.Perm.refl _⟩
  case round =>
    obtain ⟨D, rfl, hR, hO, hB, hq, hP⟩ := hrel
    have HR4 : Hid (RngIs wr b rr S D) := hR
    have HO4 : Hid (wr.ownsRow w.heap.size 70 2 (.slice (some ⟨g, 0, none⟩) D.length N) D.length (keyCells D)) := hO
    have HB4 : Hid (Below w.heap.size w wr) := hB
    have HQ4 : Hid (wr.cell? ⟨w.heap.size, 0, none⟩ = some (.pointer (some ⟨p, 0, none⟩))) := hq
    have HP : Hid (∃ R, S.Perm (D ++ R)) := hP
    clear hR hO hB hq hP HR HO3 HB3 e0
    have HNE := own_ne_iter HO4.out HR4.out
    have HN1 : Hid (g ≠ rr) := HNE.1
    have HN2 : Hid (g ≠ b) := HNE.2
    clear HNE
    go_wp2_with (first
      | (at_next; refine wpList_next_map _ rfl _ rfl b rr S D rfl HR4.out (fun hD => ?_) (fun k1 k2 p0 p1 p2 p3 t4 w4 HX hen => ?_))
      | (at_builtin; refine wpList_append_roomy _ rfl _ _ 127 rfl w.heap.size 70 i0 2 Tryd.underlying127 HI.out HZ1.out g D.length N (keyCells D) rfl (((own_on HO4.out (HX.out.2.2.2.2.1 g HN1.out)).alloc _).alloc _) ⟨w4.heap.size + 1, 0, none⟩ 1 1 [.int .i64 k1, .int .i64 k2] rfl rfl (by simpa using cell_two_new (w4.alloc _) (.int .i64 k1) (.int .i64 k2) 70) (by simp [Value.oneCell']) (room_left HN.out HX.out.1) ?_; intro w5 ho5 hg5; have HO5 : Hid (w5.ownsRow w.heap.size 70 2 (.slice (some ⟨g, 0, none⟩) (D.length + 1) N) (D.length + 1) (keyCells D ++ [.int .i64 k1, .int .i64 k2])) := ho5; have HG5 : Hid (((w4.alloc (.cells #[.int .i64 k1, .int .i64 k2] 70)).alloc (.cells #[.int .i64 k1, .int .i64 k2] 70)).grownBy w5 (some g)) := hg5; clear ho5 hg5)
      | (go_at_call 77; refine (sort_keys w.heap.size p b g N S D wr HS.out hD HQ4.out ((HB4.out.cell (p := ⟨p, 1, none⟩) hlt).trans hp) HR4.out.map HGQ.out (Nat.ne_of_lt (Nat.lt_of_lt_of_le hlt (own_lt HO4.out).1)) (Ne.symm HN2.out) (own_lt HO4.out).2 (holds_of_own HO4.out) (len_left HN.out hD hl)).mono ?_; rintro e w5 ⟨rfl, hc5, hb5⟩; have HC5 : Hid (∀ j x, S[j]? = some x → w5.cell? ⟨g, j * 2, none⟩ = some (.int .i64 x.1.1) ∧ w5.cell? ⟨g, j * 2 + 1, none⟩ = some (.int .i64 x.1.2)) := hc5; have HB5 : Hid (RowKit.Below w.heap.size w w5) := HB4.out.trans (hb5 _ (own_lt HO4.out).1); clear hc5 hb5))
    · go_ret
      exact ⟨g, by rw [HN.out, hD.length_eq]; rfl, (own_lt HO4.out).1, HC5.out, HB5.out⟩
    · obtain ⟨⟨R, hR⟩, g1, g2, g3, g4, g5⟩ := HX.out
      have m1 : g < w4.heap.size := by rw [g3]; exact (own_lt HO4.out).2
      have m2 : rr < w4.heap.size := g1.lt
      have m3 : b < w4.heap.size := g1.map.lt
      have hblk : ∀ i, i < w4.heap.size → i ≠ g → w5.heap[i]? = w4.heap[i]? := fun i hi hne => by
        have a1 := HG5.out.block i (by simp; omega) (by simpa using hne)
        rw [a1, Below.heap_alloc _ _ _ (by simp; omega), Below.heap_alloc _ _ _ hi]
      have e1 : w5.heap[b]? = w4.heap[b]? := hblk b m3 (Ne.symm HN2.out)
      have e2 : w5.heap[rr]? = w4.heap[rr]? := hblk rr m2 (Ne.symm HN1.out)
      have hq4 : w4.heap[w.heap.size]? = wr.heap[w.heap.size]? := g4 _ (by
        intro e
        have := HR4.out
        obtain ⟨es, clock, since, seen, c0, _, _, h3, _⟩ := this
        have hq := HQ4.out
        rw [← e] at h3
        simp [World.cell?, h3] at hq)
      have hql : w.heap.size < wr.heap.size := World.block_lt_of_cell? wr _ HQ4.out
      refine ⟨⟨D ++ [((k1, k2), (p0, p1, p2, p3), t4)], by simp, g1.on e1 e2, ?_, ?_, ?_, R, by simpa using hR⟩, ?_⟩
      · rw [keyCells_snoc]
        simpa using HO5.out
      · refine Below.grown (bal (Below.alloc (HB4.out.trans (g5 _ HRB.out)) (by rw [g3]; exact HB4.out.size) _) _) HG5.out (by simp; rw [g3]; have := HB4.out.size; omega) (fun k hk => by cases hk; exact (own_lt HO4.out).1)
      · refine (World.cell?_of_block (w := wr) ((hblk _ (by rw [g3]; exact hql) HGQ.out).trans hq4)).trans HQ4.out
      · rw [rangeLeft_on e1 e2]
        exact g2
end Go.Proofs.YthcgdgpflhdchaaDoor.Ptlb

/- What New, Put and Keys of package tlb do, for every argument that their types allow. -/
namespace Go.Proofs.YthcgdgpflhdchaaDoor.Ptlb
open Go.Proofs.YthcgdgpflhdchaaDoor.Pbase
open Go.RowKit Go.ChangeMaps
set_option linter.unusedVariables false

theorem but_setBlock {b : Nat} {a w : World} (h : But b a w) (o : Obj) : But b a (setBlock w b o) :=
  ⟨h.os, h.tape, h.output, by rw [setBlock_size]; exact h.size, fun i hi hne => by
    have : (ChangeMaps.setBlock w b o).heap[i]? = w.heap[i]? := by simp [ChangeMaps.setBlock, Ne.symm hne]
    rw [this]; exact h.block i hi hne⟩

theorem keeps {w w' : World} (h : Below w.heap.size w w') {b j : Nat} {v : Value} (hc : w.cell? ⟨b, j, none⟩ = some v) : w'.cell? ⟨b, j, none⟩ = some v := (h.cell (p := ⟨b, j, none⟩) (World.block_lt_of_cell? w _ hc)).trans hc

theorem turned_cell {w : World} {b : Nat} {S : List En} (h : MapIs w b S) (o : Obj) {i j : Nat} {v : Value} (hc : w.cell? ⟨i, j, none⟩ = some v) : (setBlock w b o).cell? ⟨i, j, none⟩ = some v := by
  have hne : i ≠ b := by
    intro e
    obtain ⟨es, clock, hb, _⟩ := h
    rw [e] at hc
    simp [World.cell?, hb] at hc
  exact (World.cell?_of_block (w := w) (setBlock_other h o hne)).trans hc

/-! ### New -/
set_option maxRecDepth 100000 in
theorem new_bad (r : Int) (w : World) (h : r < 0 ∨ 8 < r) :
    Calls Tryd.prog 7 #[.int .i64 r] w fun e w' => e = .returned (.tuple #[.pointer none, .int .i64 1]) ∧ w' = w := by
  rcases h with h | h
  · go_enter Tryd.func7, Tryd.ntmps7
    go_wp2
    go_ret2
    exact ⟨rfl, rfl⟩
  · have h0 : ¬ r < 0 := by omega
    go_enter Tryd.func7, Tryd.ntmps7
    go_wp2
    go_ret2
    exact ⟨rfl, rfl⟩
theorem mapIs_new (w : World) : MapIs (w.alloc (.map #[] 0)) w.heap.size [] := ⟨#[], 0, (MapKept.heap_alloc w _).1, rfl, by simp, by simp⟩
set_option maxRecDepth 100000 in
theorem new_ok (r : Int) (w : World) (h0 : 0 ≤ r) (h1 : r ≤ 8) :
    Calls Tryd.prog 7 #[.int .i64 r] w fun e w' => e = .returned (.tuple #[.pointer (some ⟨w.heap.size + 1, 0, none⟩), .int .i64 0]) ∧ TlbIs w' (w.heap.size + 1) w.heap.size r [] ∧ Below w.heap.size w w' := by
  have hmm := @run_makeMap Tryd.prog
  have n0 : ¬ r < 0 := by omega
  have n1 : ¬ 8 < r := by omega
  go_enter Tryd.func7, Tryd.ntmps7
  go_wp2
  go_ret2
  refine ⟨rfl, ⟨?_, ?_⟩, bal (bal (Below.refl _ _) _) _⟩
  · have := heap_alloc_new (w.alloc (.map #[] 0)) (.cells #[.int .i64 r, .map (some w.heap.size)] 46)
    simpa using this
  · exact (mapIs_new w).on (Below.heap_alloc _ _ _ (by simp))

/-! ### The list behind a Put -/
def putS (R : Nat) (S : List En) (k : Ky) (p : Pt) : List En := if R < (putM S k p (turnS S k)).length then (putM S k p (turnS S k)).tail else putM S k p (turnS S k)
theorem putM_len (S : List En) (k : Ky) (p : Pt) (t : Int) : (putM S k p t).length = if hasK S k then S.length else S.length + 1 := by
  induction S with
  | nil => rfl
  | cons x S ih =>
    by_cases hx : x.1 = k
    · simp [putM, hasK, hx]
    · have e1 : putM (x :: S) k p t = x :: putM S k p t := by simp only [putM, if_neg hx]
      have e2 : hasK (x :: S) k = hasK S k := by simp [hasK, hx]
      rw [e1, e2, List.length_cons, ih]
      split <;> rfl
theorem mem_putM (S : List En) (k : Ky) (p : Pt) (t : Int) : ∀ x ∈ putM S k p t, x = (k, p, t) ∨ x ∈ S := by
  induction S with
  | nil => intro x hx; simpa [putM] using hx
  | cons y S ih =>
    intro x hx
    by_cases hy : y.1 = k
    · simp only [putM, if_pos hy, List.mem_cons] at hx
      rcases hx with hx | hx
      · exact .inl hx
      · exact .inr (by simp [hx])
    · simp only [putM, if_neg hy, List.mem_cons] at hx
      rcases hx with hx | hx
      · exact .inr (by simp [hx])
      · rcases ih x hx with h | h
        · exact .inl h
        · exact .inr (by simp [h])
theorem okS_has : ∀ {S : List En}, OkS S → ∀ {k : Ky} (p : Pt), hasK S k = true → OkS (putM S k p (tnK S k))
  | [], _, k, p, h => by simp [hasK] at h
  | y :: S, hS, k, p, h => by
    obtain ⟨a1, a2⟩ := List.pairwise_cons.1 hS.keys
    obtain ⟨b1, b2⟩ := List.pairwise_cons.1 hS.rise
    by_cases hy : y.1 = k
    · simp only [putM, tnK, if_pos hy]
      exact ⟨List.pairwise_cons.2 ⟨fun x hx => by rw [← hy]; exact a1 x hx, a2⟩, List.pairwise_cons.2 ⟨b1, b2⟩⟩
    · have h' : hasK S k = true := by simpa [hasK, hy] using h
      have ih := okS_has ⟨a2, b2⟩ p h'
      obtain ⟨j, _, hj⟩ := findS_some S k 0 h'
      have hm : (k, ptK S k, tnK S k) ∈ S := List.mem_of_getElem? hj
      simp only [putM, tnK, if_neg hy]
      refine ⟨List.pairwise_cons.2 ⟨fun x hx => ?_, ih.keys⟩, List.pairwise_cons.2 ⟨fun x hx => ?_, ih.rise⟩⟩
      · rcases mem_putM S k p _ x hx with rfl | hx
        · exact hy
        · exact a1 x hx
      · rcases mem_putM S k p _ x hx with rfl | hx
        · exact b1 (k, ptK S k, tnK S k) hm
        · exact b1 x hx
theorem okS_put {S : List En} (hS : OkS S) (k : Ky) (p : Pt) : OkS (putM S k p (turnS S k)) := by
  cases hk : hasK S k
  · have ht : turnS S k = mxT S + 1 := by simp [turnS, hk]
    rw [ht, put_none k p _ S hk]
    have hne : ∀ x ∈ S, x.1 ≠ k := fun x hx e => by
      simp only [hasK, List.any_eq_false, decide_eq_true_eq] at hk
      exact hk x hx e
    refine ⟨List.pairwise_append.2 ⟨hS.keys, by simp, fun x hx y hy => ?_⟩, List.pairwise_append.2 ⟨hS.rise, by simp, fun x hx y hy => ?_⟩⟩
    · simp only [List.mem_singleton] at hy
      rw [hy]; exact hne x hx
    · simp only [List.mem_singleton] at hy
      rw [hy]
      have := mxT_ge S hx
      show x.2.2 < mxT S + 1
      omega
  · have ht : turnS S k = tnK S k := by simp [turnS, hk]
    rw [ht]
    exact okS_has hS p hk
theorem okS_tail {S : List En} (hS : OkS S) : OkS S.tail := by
  cases S with
  | nil => exact hS
  | cons x S => exact ⟨(List.pairwise_cons.1 hS.keys).2, (List.pairwise_cons.1 hS.rise).2⟩
theorem okS_putS {S : List En} (hS : OkS S) (R : Nat) (k : Ky) (p : Pt) : OkS (putS R S k p) := by
  unfold putS
  split
  · exact okS_tail (okS_put hS k p)
  · exact okS_put hS k p
theorem turns_put {S : List En} {T : Int} (h0 : 0 ≤ T) (h : ∀ x ∈ S, x.2.2 ≤ T) (k : Ky) (p : Pt) : ∀ x ∈ putM S k p (turnS S k), x.2.2 ≤ T + 1 := by
  intro x hx
  rcases mem_putM S k p _ x hx with rfl | hx
  · show turnS S k ≤ T + 1
    unfold turnS
    split
    · rename_i hk
      obtain ⟨j, _, hj⟩ := findS_some S k 0 hk
      have := h _ (List.mem_of_getElem? hj)
      simp only at this
      omega
    · have := mxT_le S h0 h
      omega
  · have := h x hx
    omega
theorem turns_putS {S : List En} {T : Int} (h0 : 0 ≤ T) (h : ∀ x ∈ S, x.2.2 ≤ T) (R : Nat) (k : Ky) (p : Pt) : ∀ x ∈ putS R S k p, x.2.2 ≤ T + 1 := by
  intro x hx
  unfold putS at hx
  split at hx
  · exact turns_put h0 h k p x (List.mem_of_mem_tail hx)
  · exact turns_put h0 h k p x hx
theorem len_putS {S : List En} {R : Nat} (h : S.length ≤ R) (k : Ky) (p : Pt) : (putS R S k p).length ≤ R := by
  unfold putS
  have := putM_len S k p (turnS S k)
  split
  · rw [List.length_tail, this]
    split <;> omega
  · omega

/-! ### Put -/
theorem del_head (x : En) (S : List En) : delM (x :: S) x.1 = S := by simp [delM]
set_option maxHeartbeats 4000000 in
set_option maxRecDepth 100000 in
theorem put_some' (p b R : Nat) (S : List En) (k : Ky) (pt : Pt) (w : World) (h : TlbIs w p b R S) (hS : OkS S) (hT : mxT S < 4611686018427387904) (hl : S.length ≤ R) (hR : R ≤ 8) :
    Calls Tryd.prog 51 #[.pointer (some ⟨p, 0, none⟩), .agg #[.int .i64 k.1, .int .i64 k.2], .agg #[.bool pt.1, .int .i64 pt.2.1, .int .i64 pt.2.2.1, .int .i64 pt.2.2.2]] w fun e w' =>
      e = .returned (.int .i64 0) ∧ TlbIs w' p b R (putS R S k pt) ∧ But b w w' := by
  have hp := h.ents
  have hp0 := h.room
  have hlt := h.lt
  have hb := h.map.lt
  have H : Hid (TlbIs w p b R S) := h
  have HT : Hid (mxT S < 4611686018427387904) := hT
  have HS1 : Hid (OkS (putM S k pt (turnS S k))) := okS_put hS k pt
  have HL : Hid ((putM S k pt (turnS S k)).length ≤ 9) := by
    have h1 := putM_len S k pt (turnS S k)
    have : (putM S k pt (turnS S k)).length ≤ 9 := by rw [h1]; split <;> omega
    exact this
  clear h hS hT
  have HP : Hid (putS R S k pt = if R < (putM S k pt (turnS S k)).length then (putM S k pt (turnS S k)).tail else putM S k pt (turnS S k)) := rfl
  obtain ⟨S1, hS1⟩ : ∃ S1, S1 = putM S k pt (turnS S k) := ⟨_, rfl⟩
  rw [← hS1] at HS1 HL HP
  have HS : Hid (S1 = putM S k pt (turnS S k)) := hS1
  clear hS1
  obtain ⟨PS, hPS⟩ : ∃ S1, S1 = putS R S k pt := ⟨_, rfl⟩
  rw [← hPS] at HP ⊢
  clear hPS
  obtain ⟨a, c⟩ := k
  obtain ⟨q0, q1, q2, q3⟩ := pt
  obtain ⟨tn, htn⟩ : ∃ tn, tn = turnS S (a, c) := ⟨_, rfl⟩
  have HTN : Hid (tn = turnS S (a, c)) := htn
  clear htn
  go_enter Tryd.func51, Tryd.ntmps51
  go_wp2_with (first
    | (go_at_call 30; refine (made_some p b _ ((H.out.alloc _).alloc _).ents).mono ?_; rintro e w1 ⟨rfl, hw1⟩; have HW : Hid (w1 = _) := hw1; clear hw1; have HB : Hid (Below w.heap.size w w1) := (by rw [HW.out]; exact bal (bal (Below.refl _ _) _) _); have k0 : w1.cell? ⟨w.heap.size, 0, none⟩ = some (.int .i64 a) := (by rw [HW.out]; simp); have k1 : w1.cell? ⟨w.heap.size, 1, none⟩ = some (.int .i64 c) := (by rw [HW.out]; simp); have k2 : w1.cell? ⟨w.heap.size + 1, 0, none⟩ = some (.bool q0) := (by rw [HW.out]; simp); have k3 : w1.cell? ⟨w.heap.size + 1, 1, none⟩ = some (.int .i64 q1) := (by rw [HW.out]; simp); have k4 : w1.cell? ⟨w.heap.size + 1, 2, none⟩ = some (.int .i64 q2) := (by rw [HW.out]; simp); have k5 : w1.cell? ⟨w.heap.size + 1, 3, none⟩ = some (.int .i64 q3) := (by rw [HW.out]; simp); clear HW)
    | (go_at_call 67; refine (turn_any p b R S (a, c) _ (H.out.more HB.out) HT.out).mono ?_; rintro e w2 ⟨he, hb2⟩; rw [← HTN.out] at he; subst he; have HB2 : Hid (Below w.heap.size w w2) := HB.out.trans (hb2.mono HB.out.size); have l0 : w2.cell? ⟨w.heap.size, 0, none⟩ = some (.int .i64 a) := keeps hb2 k0; have l1 : w2.cell? ⟨w.heap.size, 1, none⟩ = some (.int .i64 c) := keeps hb2 k1; have l2 : w2.cell? ⟨w.heap.size + 1, 0, none⟩ = some (.bool q0) := keeps hb2 k2; have l3 : w2.cell? ⟨w.heap.size + 1, 1, none⟩ = some (.int .i64 q1) := keeps hb2 k3; have l4 : w2.cell? ⟨w.heap.size + 1, 2, none⟩ = some (.int .i64 q2) := keeps hb2 k4; have l5 : w2.cell? ⟨w.heap.size + 1, 3, none⟩ = some (.int .i64 q3) := keeps hb2 k5; clear hb2 k0 k1 k2 k3 k4 k5))
  have l6 : w2.cell? ⟨p, 1, none⟩ = some (.map (some b)) := (HB2.out.cell (p := ⟨p, 1, none⟩) hlt).trans hp
  have hm2 : MapIs w2.drew b S := (H.out.map.on (HB2.out.block b hb)).on rfl
  obtain ⟨o, hup, hm3⟩ := store_map hm2 (a, c) (q0, q1, q2, q3) tn
  have HM3 : Hid (MapIs (setBlock w2.drew b o) b S1) := by rw [HS.out, ← HTN.out]; exact hm3
  have HB3 : Hid (But b w (setBlock w2.drew b o)) := but_setBlock (But.of_below b HB2.out).drew o
  have m0 : (setBlock w2.drew b o).cell? ⟨w.heap.size, 0, none⟩ = some (.int .i64 a) := turned_cell hm2 o l0
  have m1 : (setBlock w2.drew b o).cell? ⟨w.heap.size, 1, none⟩ = some (.int .i64 c) := turned_cell hm2 o l1
  have m2 : (setBlock w2.drew b o).cell? ⟨w.heap.size + 1, 0, none⟩ = some (.bool q0) := turned_cell hm2 o l2
  have m3 : (setBlock w2.drew b o).cell? ⟨w.heap.size + 1, 1, none⟩ = some (.int .i64 q1) := turned_cell hm2 o l3
  have m4 : (setBlock w2.drew b o).cell? ⟨w.heap.size + 1, 2, none⟩ = some (.int .i64 q2) := turned_cell hm2 o l4
  have m5 : (setBlock w2.drew b o).cell? ⟨w.heap.size + 1, 3, none⟩ = some (.int .i64 q3) := turned_cell hm2 o l5
  have m6 : (setBlock w2.drew b o).cell? ⟨p, 1, none⟩ = some (.map (some b)) := turned_cell hm2 o l6
  have m7 : (setBlock w2.drew b o).cell? ⟨p, 0, none⟩ = some (.int .i64 R) := turned_cell hm2 o ((HB2.out.cell (p := ⟨p, 0, none⟩) hlt).trans hp0)
  have HT3 : Hid (TlbIs (setBlock w2.drew b o) p b R S1) := by
    have : TlbIs w2.drew p b R S := (H.out.more HB2.out).drew
    exact this.turned HM3.out
  clear hm3 hm2
  simp only [kv, ev] at hup
  obtain ⟨w3, hw3⟩ : ∃ w3, w3 = setBlock w2.drew b o := ⟨_, rfl⟩
  rw [← hw3] at HM3 HB3 HT3 hup m0 m1 m2 m3 m4 m5 m6 m7
  clear hw3
  go_region_held3 (fun w' => w'.cell? ⟨p, 1, none⟩ = some (.map (some b)) ∧ w'.cell? ⟨w.heap.size, 0, none⟩ = some (.int .i64 a) ∧ w'.cell? ⟨w.heap.size, 1, none⟩ = some (.int .i64 c) ∧ w'.cell? ⟨w.heap.size + 1, 0, none⟩ = some (.bool q0) ∧ w'.cell? ⟨w.heap.size + 1, 1, none⟩ = some (.int .i64 q1) ∧ w'.cell? ⟨w.heap.size + 1, 2, none⟩ = some (.int .i64 q2) ∧ w'.cell? ⟨w.heap.size + 1, 3, none⟩ = some (.int .i64 q3)) (first | exact ⟨m6, m0, m1, m2, m3, m4, m5⟩ | go_keep) (fail)
  go_wp2
  clear hup m0 m1 m2 m3 m4 m5 l0 l1 l2 l3 l4 l5 l6
  obtain ⟨N, hN⟩ : ∃ N, N = S1.length := ⟨_, rfl⟩
  have hlen : ∀ n ty, (Builtin.len_ #[44] ty #[.map (some b)]).run Tryd.prog (w3.drewN n) = .ok (.int .i64 N) (w3.drewN n) := fun n ty => by rw [hN]; exact len_map (w := w3.drewN n) (HM3.out.on rfl) ty
  have HN : Hid (N = S1.length) := hN
  clear hN
  by_cases hgt : R < N
  · have hgt' : (R : Int) < (N : Int) := by omega
    go_quiet (fail)
    obtain ⟨w4, hw4⟩ : ∃ w4, w4 = w3.drewN nq := ⟨_, rfl⟩
    rw [← hw4]
    have HT4 : Hid (TlbIs w4 p b R S1) := by rw [hw4]; exact HT3.out.on rfl rfl
    have HB4 : Hid (But b w w4) := by rw [hw4]; exact HB3.out.drewN _
    have c4 : w4.cell? ⟨p, 1, none⟩ = some (.map (some b)) := HT4.out.ents
    clear hw4 hlen HM3 HB3 HT3 m6 m7
    have HPS : Hid (PS = S1.tail) := by
      have := HP.out
      rw [if_pos (by rw [← HN.out]; exact hgt)] at this
      exact this
    obtain ⟨x0, S2, e12⟩ : ∃ x0 S2, S1 = x0 :: S2 := by
      cases S1 with
      | nil => simp [Hid] at HN; omega
      | cons x S => exact ⟨x, S, rfl⟩
    have HE : Hid (S1 = x0 :: S2) := e12
    clear e12 HP
    have hN0 : (0 : Int) < (N : Int) := by omega
    have hN1 : N ≤ 1000 := by have := HL.out; have := HN.out; omega
    have hkey : Hid (hasK S1 x0.1 = true) := by rw [HE.out]; simp [hasK, Hid]
    obtain ⟨⟨k1, k2⟩, xp, xt⟩ := x0
    go_wp2
    go_region_with (
      (go_at_call 68; refine (keys_any p b R S1 _ HT4.out.drew HS1.out (by rw [← HN.out]; exact hN1)).mono ?_; rintro e w5 ⟨g, he, hg5, hc5, hb5⟩; rw [← HN.out] at he; subst he; have HB5 : Hid (But b w w5) := HB4.out.drew.trans (But.of_below b hb5); have HT5 : Hid (TlbIs w5 p b R S1) := HT4.out.drew.more hb5; have c5 : w5.cell? ⟨p, 1, none⟩ = some (.map (some b)) := HT5.out.ents; have g0 : w5.cell? ⟨g, 0, none⟩ = some (.int .i64 k1) := (hc5 0 ((k1, k2), xp, xt) (by rw [HE.out]; rfl)).1; have g1 : w5.cell? ⟨g, 1, none⟩ = some (.int .i64 k2) := (hc5 0 ((k1, k2), xp, xt) (by rw [HE.out]; rfl)).2; obtain ⟨o6, hd6, hm6⟩ := delete_map HT5.out.map (k1, k2) hkey.out; have HT6 : Hid (TlbIs (setBlock w5 b o6) p b R S2) := (by have := HT5.out.turned hm6; rwa [HE.out, del_head] at this); have HB6 : Hid (But b w (setBlock w5 b o6)) := but_setBlock HB5.out o6; have c6 : (setBlock w5 b o6).cell? ⟨p, 1, none⟩ = some (.map (some b)) := HT6.out.ents; simp only [kv] at hd6; clear hm6 hc5 hb5))
    all_goals
      go_wp2
      go_ret
      exact ⟨rfl, by rw [HPS.out, HE.out]; exact HT6.out, HB6.out⟩
  · have hgt' : ¬ (R : Int) < (N : Int) := by omega
    go_quiet (fail)
    have HPS : Hid (PS = S1) := by
      have := HP.out
      rw [if_neg (by rw [← HN.out]; exact hgt)] at this
      exact this
    go_wp2
    go_ret
    exact ⟨rfl, by rw [HPS.out]; exact HT3.out.on rfl rfl, HB3.out.drewN _⟩
end Go.Proofs.YthcgdgpflhdchaaDoor.Ptlb

/- What calls of package tlb answer of one that is nil and of one that no call made; that the program computes at all. -/
namespace Go.Proofs.YthcgdgpflhdchaaDoor.Ptlb
open Go.Proofs.YthcgdgpflhdchaaDoor.Pbase
open Go.RowKit Go.ChangeMaps
set_option linter.unusedVariables false

theorem cell_more2 {w : World} {b j : Nat} {v : Value} (hc : w.cell? ⟨b, j, none⟩ = some v) (o o' : Obj) : ((w.alloc o).alloc o').cell? ⟨b, j, none⟩ = some v := keeps (bal (bal (Below.refl _ _) _) _) hc
theorem cell_more1 {w : World} {b j : Nat} {v : Value} (hc : w.cell? ⟨b, j, none⟩ = some v) (o : Obj) : (w.alloc o).cell? ⟨b, j, none⟩ = some v := keeps (bal (Below.refl _ _) _) hc
set_option maxRecDepth 100000 in
theorem put_nil (k : Ky) (pt : Pt) (w : World) :
    Calls Tryd.prog 51 #[.pointer none, .agg #[.int .i64 k.1, .int .i64 k.2], .agg #[.bool pt.1, .int .i64 pt.2.1, .int .i64 pt.2.2.1, .int .i64 pt.2.2.2]] w fun e w' => e = .returned (.int .i64 13) ∧ Below w.heap.size w w' := by
  go_enter Tryd.func51, Tryd.ntmps51
  go_wp2_with (go_at_call 30; refine (made_nil _).mono ?_; rintro e w1 ⟨rfl, rfl⟩)
  go_ret
  exact ⟨rfl, bal (bal (Below.refl _ _) _) _⟩
set_option maxRecDepth 100000 in
theorem put_zero (p : Nat) (k : Ky) (pt : Pt) (w : World) (hp : w.cell? ⟨p, 1, none⟩ = some (.map none)) :
    Calls Tryd.prog 51 #[.pointer (some ⟨p, 0, none⟩), .agg #[.int .i64 k.1, .int .i64 k.2], .agg #[.bool pt.1, .int .i64 pt.2.1, .int .i64 pt.2.2.1, .int .i64 pt.2.2.2]] w fun e w' => e = .returned (.int .i64 13) ∧ Below w.heap.size w w' := by
  go_enter Tryd.func51, Tryd.ntmps51
  go_wp2_with (go_at_call 30; refine (made_zero p _ (cell_more2 hp _ _)).mono ?_; rintro e w1 ⟨rfl, rfl⟩)
  go_ret
  exact ⟨rfl, bal (bal (Below.refl _ _) _) _⟩
set_option maxRecDepth 100000 in
theorem keys_zero (p : Nat) (w : World) (hp : w.cell? ⟨p, 1, none⟩ = some (.map none)) :
    Calls Tryd.prog 68 #[.pointer (some ⟨p, 0, none⟩)] w fun e w' => e = .returned (.slice none 0 0) ∧ Below w.heap.size w w' := by
  go_enter Tryd.func68, Tryd.ntmps68
  go_wp2_with (go_at_call 30; refine (made_zero p _ (cell_more1 hp _)).mono ?_; rintro e w1 ⟨rfl, rfl⟩)
  go_ret
  exact ⟨rfl, bal (Below.refl _ _) _⟩
theorem okS_nil : OkS [] := ⟨List.Pairwise.nil, List.Pairwise.nil⟩
end Go.Proofs.YthcgdgpflhdchaaDoor.Ptlb

/- Of keys that are put one behind the other, each once: what is remembered. -/
namespace Go.Proofs.YthcgdgpflhdchaaDoor.Ptlb
open Go.Proofs.YthcgdgpflhdchaaDoor.Pbase
open Go.RowKit
set_option linter.unusedVariables false

theorem hasK_keys (S : List En) (k : Ky) : hasK S k = decide (k ∈ S.map (·.1)) := by
  rw [Bool.eq_iff_iff]
  simp [hasK]
/-- The keys that are remembered behind m keys (0, 0), (0, 1) ..: the last ones. -/
def lastK (R m : Nat) : List Ky := (List.range (min m R)).map fun j => (0, ((m - min m R + j : Nat) : Int))
theorem lastK_len (R m : Nat) : (lastK R m).length = min m R := by simp [lastK]
theorem lastK_mem (R m i : Nat) (hi : i < m) : (((0 : Int), (i : Int)) ∈ lastK R m) ↔ m - i ≤ R := by
  unfold lastK
  simp only [List.mem_map, List.mem_range, Prod.mk.injEq, true_and]
  constructor
  · rintro ⟨j, hj, e⟩
    omega
  · intro h
    exact ⟨i - (m - min m R), by omega, by omega⟩
theorem lastK_new (R m : Nat) : ((0 : Int), (m : Int)) ∉ lastK R m := by
  unfold lastK
  simp only [List.mem_map, List.mem_range, Prod.mk.injEq, true_and, not_exists, not_and]
  intro j hj e
  omega
theorem lastK_step (R m : Nat) : lastK R (m + 1) = if R < min m R + 1 then (lastK R m ++ [(0, (m : Int))]).tail else lastK R m ++ [(0, (m : Int))] := by
  have get : ∀ m j, (lastK R m)[j]? = if j < min m R then some (0, ((m - min m R + j : Nat) : Int)) else none := by
    intro m j
    unfold lastK
    by_cases h : j < min m R
    · rw [if_pos h]
      simp [h]
    · rw [if_neg h]
      simp [h]
  have app : ∀ j, (lastK R m ++ [((0 : Int), (m : Int))])[j]? = if j < min m R then some (0, ((m - min m R + j : Nat) : Int)) else if j = min m R then some (0, (m : Int)) else none := by
    intro j
    by_cases h : j < min m R
    · rw [List.getElem?_append_left (by rw [lastK_len]; exact h), get, if_pos h, if_pos h]
    · rw [List.getElem?_append_right (by rw [lastK_len]; omega), lastK_len, if_neg h]
      by_cases h2 : j = min m R
      · rw [if_pos h2, h2]
        simp
      · rw [if_neg h2]
        have : j - min m R ≠ 0 := by omega
        obtain ⟨n, hn⟩ : ∃ n, j - min m R = n + 1 := ⟨j - min m R - 1, by omega⟩
        rw [hn]
        rfl
  split
  · apply List.ext_getElem?
    intro j
    rw [List.getElem?_tail, app, get]
    have hm : min m R = R := by omega
    have hm2 : min (m + 1) R = R := by omega
    rw [hm, hm2]
    by_cases h1 : j + 1 < R
    · rw [if_pos (by omega), if_pos h1]
      congr 3
      omega
    · by_cases h2 : j + 1 = R
      · rw [if_pos (by omega), if_neg h1, if_pos h2]
        congr 3
        omega
      · rw [if_neg (by omega), if_neg h1, if_neg h2]
  · apply List.ext_getElem?
    intro j
    rw [app, get]
    have hm : min m R = m := by omega
    have hm2 : min (m + 1) R = m + 1 := by omega
    rw [hm, hm2]
    by_cases h1 : j < m
    · rw [if_pos (by omega), if_pos h1]
      congr 3
      omega
    · by_cases h2 : j = m
      · rw [if_pos (by omega), if_neg h1, if_pos h2]
        congr 3
        omega
      · rw [if_neg (by omega), if_neg h1, if_neg h2]
/-- Behind one more. -/
theorem putS_keys {R m : Nat} {S : List En} (h : S.map (·.1) = lastK R m) (p : Pt) : (putS R S (0, (m : Int)) p).map (·.1) = lastK R (m + 1) := by
  have hn : hasK S (0, (m : Int)) = false := by
    rw [hasK_keys, h]
    simpa using lastK_new R m
  have hlen : S.length = min m R := by rw [← lastK_len R m, ← h]; simp
  unfold putS
  rw [put_none _ _ _ S hn, lastK_step, ← h]
  simp only [List.length_append, List.length_cons, List.length_nil, Nat.zero_add, hlen]
  split
  · rw [List.map_tail]
    simp
  · simp

/-- A mapping lies in block b. -/
structure PteAt (w : World) (b : Nat) (q0 : Bool) (q1 q2 q3 : Int) : Prop where
  c0 : w.cell? ⟨b, 0, none⟩ = some (.bool q0)
  c1 : w.cell? ⟨b, 1, none⟩ = some (.int .i64 q1)
  c2 : w.cell? ⟨b, 2, none⟩ = some (.int .i64 q2)
  c3 : w.cell? ⟨b, 3, none⟩ = some (.int .i64 q3)
theorem PteAt.on {w w' : World} {b : Nat} {q0 : Bool} {q1 q2 q3 : Int} (h : PteAt w b q0 q1 q2 q3) (e : w'.heap[b]? = w.heap[b]?) : PteAt w' b q0 q1 q2 q3 :=
  ⟨(World.cell?_of_block (w := w) e).trans h.c0, (World.cell?_of_block (w := w) e).trans h.c1, (World.cell?_of_block (w := w) e).trans h.c2, (World.cell?_of_block (w := w) e).trans h.c3⟩
theorem PteAt.more {w w' : World} {b : Nat} {q0 : Bool} {q1 q2 q3 : Int} (h : PteAt w b q0 q1 q2 q3) (k : Below w.heap.size w w') : PteAt w' b q0 q1 q2 q3 := h.on (k.block b (World.block_lt_of_cell? w _ h.c0))
theorem PteAt.new (w : World) (q0 : Bool) (q1 q2 q3 : Int) (t : TypeId) : PteAt (w.alloc (.cells #[.bool q0, .int .i64 q1, .int .i64 q2, .int .i64 q3] t)) w.heap.size q0 q1 q2 q3 := ⟨by simp, by simp, by simp, by simp⟩
theorem belowt {a w w' : World} (h : Below a.heap.size a w) (k : Below w.heap.size w w') : Below a.heap.size a w' := h.trans (k.mono h.size)
/-- All that Put asks of a list, and keeps. -/
structure Fine (S : List En) (R T : Nat) : Prop where
  ok : OkS S
  len : S.length ≤ R
  turns : ∀ x ∈ S, x.2.2 ≤ (T : Int)
theorem fine_nil (R : Nat) : Fine [] R 0 := ⟨okS_nil, by simp, by simp⟩
theorem Fine.put {S : List En} {R T : Nat} (h : Fine S R T) (k : Ky) (p : Pt) : Fine (putS R S k p) R (T + 1) :=
  ⟨okS_putS h.ok R k p, len_putS h.len k p, fun x hx => by have := turns_putS (by omega) h.turns R k p x hx; omega⟩
theorem Fine.mono {S : List En} {R T T' : Nat} (h : Fine S R T) (hT : T ≤ T') : Fine S R T' := ⟨h.ok, h.len, fun x hx => by have := h.turns x hx; omega⟩
theorem Fine.mx {S : List En} {R T : Nat} (h : Fine S R T) (hT : T ≤ 1000) : mxT S < 4611686018427387904 := by
  have := mxT_le S (by omega) h.turns
  omega
theorem lastK_first {R m : Nat} {S : List En} (h : S.map (·.1) = lastK R m) (h0 : 0 < min m R) : ∃ x, S[0]? = some x ∧ x.1.2 = (m : Int) - (min m R : Nat) := by
  have e : (S.map (·.1))[0]? = some (0, ((m - min m R + 0 : Nat) : Int)) := by
    rw [h]
    unfold lastK
    simp [h0]
  rw [List.getElem?_map] at e
  cases hx : S[0]? with
  | none => rw [hx] at e; cases e
  | some x =>
    rw [hx] at e
    simp only [Option.map_some, Option.some.injEq] at e
    refine ⟨x, rfl, ?_⟩
    rw [e]
    simp only
    omega
end Go.Proofs.YthcgdgpflhdchaaDoor.Ptlb

/- What was put last is got; two mappings compared. -/
namespace Go.Proofs.YthcgdgpflhdchaaDoor.Ptlb
open Go.Proofs.YthcgdgpflhdchaaDoor.Pbase
open Go.RowKit
set_option linter.unusedVariables false

theorem TlbIs.drewN {w : World} {p b : Nat} {r : Int} {S : List En} (h : TlbIs w p b r S) (n : Nat) : TlbIs (w.drewN n) p b r S := h.on rfl rfl
theorem below_drewN {a w : World} (h : Below a.heap.size a w) (n : Nat) : Below a.heap.size a (w.drewN n) := ⟨h.os, h.tape, h.output, h.size, h.block⟩
theorem putM_get (S : List En) (k : Ky) (p : Pt) (t : Int) : hasK (putM S k p t) k = true ∧ ptK (putM S k p t) k = p := by
  induction S with
  | nil => simp [putM, hasK, ptK]
  | cons x S ih =>
    by_cases hx : x.1 = k
    · simp [putM, hx, hasK, ptK]
    · have e1 : putM (x :: S) k p t = x :: putM S k p t := by simp only [putM, if_neg hx]
      rw [e1]
      have e2 : hasK (x :: putM S k p t) k = hasK (putM S k p t) k := by simp [hasK, hx]
      have e3 : ptK (x :: putM S k p t) k = ptK (putM S k p t) k := by simp only [ptK, if_neg hx]
      rw [e2, e3]
      exact ih
theorem snoc_get : ∀ (S : List En) (k : Ky) (p : Pt) (t : Int), hasK S k = false → hasK (S ++ [(k, p, t)]) k = true ∧ ptK (S ++ [(k, p, t)]) k = p := by
  intro S k p t h
  have := putM_get S k p t
  rwa [put_none k p t S h] at this
theorem putS_get {S : List En} {R : Nat} (h : S.length ≤ R) (k : Ky) (p : Pt) : hasK (putS R S k p) k = decide (0 < R) ∧ (0 < R → ptK (putS R S k p) k = p) := by
  have hl := putM_len S k p (turnS S k)
  unfold putS
  split
  · rename_i hR
    have hk : hasK S k = false := by
      cases hk : hasK S k
      · rfl
      · rw [hk, if_pos rfl] at hl
        omega
    rw [put_none k p _ S hk]
    cases S with
    | nil =>
      rw [hk] at hl
      simp at hl
      have : R = 0 := by omega
      subst this
      simp [hasK]
    | cons x S =>
      have hk' : hasK S k = false := by
        simp only [hasK, List.any_cons, Bool.or_eq_false_iff] at hk
        exact hk.2
      have := snoc_get S k p (turnS (x :: S) k) hk'
      simp only [List.cons_append, List.tail_cons]
      have h0 : 0 < R := by simp at h; omega
      exact ⟨by rw [this.1]; simp [h0], fun _ => this.2⟩
  · rename_i hR
    have h0 : 0 < R := by
      have : 1 ≤ (putM S k p (turnS S k)).length := by
        cases hp : putM S k p (turnS S k) with
        | nil =>
          have := (putM_get S k p (turnS S k)).1
          rw [hp] at this
          simp [hasK] at this
        | cons x r => simp
      omega
    have := putM_get S k p (turnS S k)
    exact ⟨by rw [this.1]; simp [h0], fun _ => this.2⟩
set_option maxRecDepth 100000 in
/-- Two mappings, compared. -/
theorem run_equalP (p q : Pt) (w : World) : (Op.equalIn 10000 39 (pv p) (pv q)).run Tryd.prog w = .ok (decide (p = q)) w := by
  obtain ⟨a, b, c, d⟩ := p
  obtain ⟨a', b', c', d'⟩ := q
  show (Op.equalIn (9998 + 1 + 1) 39 (.agg #[.bool a, .int .i64 b, .int .i64 c, .int .i64 d]) (.agg #[.bool a', .int .i64 b', .int .i64 c', .int .i64 d'])).run _ _ = _
  rw [run_equalIn_agg (P := Tryd.prog) w _ _ _ _ (by kernel_rfl) (by kernel_rfl)]
  have hf : (Tryd.prog.fieldsOf 39).toList = [⟨ "On", 4, 0, false, "", "", 0⟩, ⟨ "F", 3, 1, false, "", "", 8⟩, ⟨ "R", 3, 2, false, "", "", 16⟩, ⟨ "Time", 3, 3, false, "", "", 24⟩] := by kernel_rfl
  rw [hf]
  have p0 : ∀ (o : Bool) (x y z : Int) (w : World), (part 4 #[.bool o, .int .i64 x, .int .i64 y, .int .i64 z] 0).run Tryd.prog w = .ok (.bool o) w := fun _ _ _ _ _ => by kernel_rfl
  have p1 : ∀ (o : Bool) (x y z : Int) (w : World), (part 3 #[.bool o, .int .i64 x, .int .i64 y, .int .i64 z] 1).run Tryd.prog w = .ok (.int .i64 x) w := fun _ _ _ _ _ => by kernel_rfl
  have p2 : ∀ (o : Bool) (x y z : Int) (w : World), (part 3 #[.bool o, .int .i64 x, .int .i64 y, .int .i64 z] 2).run Tryd.prog w = .ok (.int .i64 y) w := fun _ _ _ _ _ => by kernel_rfl
  have p3 : ∀ (o : Bool) (x y z : Int) (w : World), (part 3 #[.bool o, .int .i64 x, .int .i64 y, .int .i64 z] 3).run Tryd.prog w = .ok (.int .i64 z) w := fun _ _ _ _ _ => by kernel_rfl
  have q0 : ∀ (x y : Bool) (w : World), (Op.equalIn (9998 + 1) 4 (.bool x) (.bool y)).run Tryd.prog w = .ok (x == y) w := fun x y w => run_equalIn_bool w 9998 4 x y Tryd.underlying4
  have q : ∀ (x y : Int) (w : World), (Op.equalIn (9998 + 1) 3 (.int .i64 x) (.int .i64 y)).run Tryd.prog w = .ok (x == y) w := fun x y w => run_equalIn_int w 9998 3 .i64 .i64 x y Tryd.underlying3
  simp only [Op.eqFields, Sem.run_bind, Sem.run_ite, p0, p1, p2, p3, q0, q, Result.andThen_ok, Sem.run_pure]
  by_cases h1 : a = a' <;> by_cases h2 : b = b' <;> by_cases h3 : c = c' <;> by_cases h4 : d = d' <;> simp [h1, h2, h3, h4]
theorem neqP (p q : Pt) (w : World) : (binOp .neq 39 (.agg #[.bool p.1, .int .i64 p.2.1, .int .i64 p.2.2.1, .int .i64 p.2.2.2]) (.agg #[.bool q.1, .int .i64 q.2.1, .int .i64 q.2.2.1, .int .i64 q.2.2.2])).run Tryd.prog w = .ok (.bool (!decide (p = q))) w := by
  rw [run_neq_struct]
  have := run_equalP p q w
  simp only [pv] at this
  rw [this]
  rfl
end Go.Proofs.YthcgdgpflhdchaaDoor.Ptlb

/- The document's answer for what is remembered: where it lies; what its New, Flush, Get do. -/
namespace Go.Proofs.YthcgdgpflhdchaaDoor.Ptlb
open Go.Proofs.YthcgdgpflhdchaaDoor.Pbase
open Go.RowKit Go.ChangeMaps
set_option linter.unusedVariables false

/-- The six cells of an entry. -/
def rc (x : En) : List Value := [.int .i64 x.1.1, .int .i64 x.1.2, .bool x.2.1.1, .int .i64 x.2.1.2.1, .int .i64 x.2.1.2.2.1, .int .i64 x.2.1.2.2.2]
def rcells (S : List En) : List Value := S.flatMap rc
theorem rcells_len (S : List En) : (rcells S).length = S.length * 6 := by
  induction S with
  | nil => rfl
  | cons x S ih =>
    have : rcells (x :: S) = rc x ++ rcells S := rfl
    rw [this, List.length_append, ih]
    simp [rc]; omega
theorem rcells_snoc (S : List En) (x : En) : rcells (S ++ [x]) = rcells S ++ rc x := by simp [rcells]
theorem rcells_get : ∀ (S : List En) (j c : Nat) (x : En), S[j]? = some x → c < 6 → (rcells S)[j * 6 + c]? = (rc x)[c]?
  | [], j, c, x, h, _ => by simp at h
  | y :: S, 0, c, x, h, hc => by
    simp at h
    subst h
    have e : rcells (y :: S) = rc y ++ rcells S := rfl
    rw [e, List.getElem?_append_left (by simp [rc]; omega)]
    simp
  | y :: S, j + 1, c, x, h, hc => by
    have := rcells_get S j c x (by simpa using h) hc
    have e : rcells (y :: S) = rc y ++ rcells S := rfl
    rw [e, List.getElem?_append_right (by simp [rc]; omega)]
    have e2 : (j + 1) * 6 + c - (rc y).length = j * 6 + c := by simp [rc]; omega
    rw [e2]
    exact this
/-! ### New, Flush -/
end Go.Proofs.YthcgdgpflhdchaaDoor.Ptlb

/- What Get of the document's answer answers. -/
namespace Go.Proofs.YthcgdgpflhdchaaDoor.Ptlb
open Go.Proofs.YthcgdgpflhdchaaDoor.Pbase
open Go.RowKit Go.ChangeMaps
set_option linter.unusedVariables false

theorem eqlK (k l : Ky) (w : World) : (binOp .eql 70 (.agg #[.int .i64 k.1, .int .i64 k.2]) (.agg #[.int .i64 l.1, .int .i64 l.2])).run Tryd.prog w = .ok (.bool (decide (k = l))) w := by
  rw [run_eql_struct]
  have := run_equalK k l w
  simp only [kv, Op.equal, Op.maxDepth] at this
  rw [this]
  rfl
theorem neqK (k l : Ky) (w : World) : (binOp .neq 70 (.agg #[.int .i64 k.1, .int .i64 k.2]) (.agg #[.int .i64 l.1, .int .i64 l.2])).run Tryd.prog w = .ok (.bool (!decide (k = l))) w := by
  rw [run_neq_struct]
  have := run_equalK k l w
  simp only [kv, Op.equal, Op.maxDepth] at this
  rw [this]
  rfl
theorem none_before {S : List En} {k : Ky} {j : Nat} (h : ∀ l x, l < j → S[l]? = some x → x.1 ≠ k) (hj : S.length ≤ j) : hasK S k = false := by
  simp only [hasK, List.any_eq_false, decide_eq_true_eq]
  intro x hx
  obtain ⟨l, hl⟩ := List.getElem?_of_mem hx
  exact h l x (Nat.lt_of_lt_of_le (List.getElem?_eq_some_iff.1 hl).1 hj) hl
theorem first_at : ∀ {S : List En} {k : Ky} {j : Nat} {x : En}, (∀ l y, l < j → S[l]? = some y → y.1 ≠ k) → S[j]? = some x → x.1 = k → hasK S k = true ∧ ptK S k = x.2.1
  | [], _, _, _, _, hx, _ => by simp at hx
  | y :: S, k, 0, x, h, hx, e => by
    simp at hx
    subst hx
    simp [hasK, ptK, e]
  | y :: S, k, j + 1, x, h, hx, e => by
    have hy : y.1 ≠ k := h 0 y (by omega) rfl
    have := first_at (S := S) (k := k) (j := j) (x := x) (fun l z hl hz => h (l + 1) z (by omega) (by simpa using hz)) (by simpa using hx) e
    simpa [hasK, ptK, hy] using this
end Go.Proofs.YthcgdgpflhdchaaDoor.Ptlb

/- Entries of the document's answer: one is written; a list of them is made anew: what lies in memory then. -/
namespace Go.Proofs.YthcgdgpflhdchaaDoor.Ptlb
open Go.Proofs.YthcgdgpflhdchaaDoor.Pbase
open Go.RowKit Go.ChangeMaps
set_option linter.unusedVariables false

theorem putM_at : ∀ {S : List En} {k : Ky} {j : Nat} {x : En} (p : Pt) (t : Int), (∀ l y, l < j → S[l]? = some y → y.1 ≠ k) → S[j]? = some x → x.1 = k → putM S k p t = S.set j (k, p, t)
  | [], _, _, _, _, _, _, hx, _ => by simp at hx
  | y :: S, k, 0, x, p, t, h, hx, e => by
    simp at hx
    subst hx
    simp [putM, e]
  | y :: S, k, j + 1, x, p, t, h, hx, e => by
    have hy : y.1 ≠ k := h 0 y (by omega) rfl
    have := putM_at (S := S) (k := k) (j := j) (x := x) p t (fun l z hl hz => h (l + 1) z (by omega) (by simpa using hz)) (by simpa using hx) e
    simp [putM, hy, this]
theorem putS_at {S : List En} {R : Nat} (hl : S.length ≤ R) {k : Ky} {j : Nat} {x : En} (p : Pt) (h : ∀ l y, l < j → S[l]? = some y → y.1 ≠ k) (hx : S[j]? = some x) (e : x.1 = k) : putS R S k p = S.set j (k, p, turnS S k) := by
  unfold putS
  rw [putM_at p _ h hx e, List.length_set, if_neg (by omega)]
theorem putS_none {S : List En} {R : Nat} {k : Ky} (p : Pt) (h : hasK S k = false) : putS R S k p = if R < S.length + 1 then (S ++ [(k, p, turnS S k)]).tail else S ++ [(k, p, turnS S k)] := by
  unfold putS
  rw [put_none k p _ S h]
  simp
end Go.Proofs.YthcgdgpflhdchaaDoor.Ptlb

/- What Put of the document's answer does. -/
namespace Go.Proofs.YthcgdgpflhdchaaDoor.Ptlb
open Go.Proofs.YthcgdgpflhdchaaDoor.Pbase
open Go.RowKit Go.ChangeMaps
set_option linter.unusedVariables false

theorem run_append_none {P : Program} (w : World) (t ty e : TypeId) (i : TypeInfo) (ht : P.underlying t = some (.slice e)) (hi : P.info? e = some i) (g n cap c : Nat) (hn : n ≤ cap) :
    (Builtin.append_ #[t, t] ty #[.slice (some ⟨g, 0, none⟩) n cap, .slice none 0 c]).run P w = .ok (.slice (some ⟨g, 0, none⟩) n cap) w := by
  simp [Builtin.append_, run_underlying ht, sizeOf, typeInfo, hi, Builtin.lenOf, Builtin.firstCells, loadCells, hn, storeCells]
theorem step_append_list {P : Program} {ops : Array Oper} {o : Oper} {a : Act} {w : World} {K : Act → World → Prop} {Q : Exit → Act → World → Prop} {E : Prop}
    (hg : o.guard = none) (s x : Operand) (t : TypeId) (hop : o.op = Op.call { callee := Callee.builtin Builtin.append, args := #[s, x], argTypes := #[t, t] })
    (base : Nat) (e : TypeId) (i : TypeInfo) (z : Value) (size bytes : Nat) (h1 : P.underlying t = some (.slice e)) (h2 : P.info? e = some i) (h3 : i.zero = some z) (h4 : i.size = size) (h5 : i.bytes = bytes) (h6 : z.cells.size = size) (h7 : 0 < size)
    (g n cap : Nat) (xs : List Value) (hs : a.eval s = .slice (some ⟨g, 0, none⟩) n cap) (hown : w.ownsRow base e size (.slice (some ⟨g, 0, none⟩) n cap) n xs)
    (ao : Option Addr) (m c : Nat) (news : List Value) (hx : a.eval x = .slice ao m c) (hn : news.length = m * size) (hc : ∀ b, ao = some b → ∀ j u, news[j]? = some u → w.cell? (b.add j) = some u) (hnone : ao = none → m = 0) (h1c : ∀ u ∈ news, u.oneCell' = true)
    (b1 : n + m ≤ maxLen) (b2 : (n + m) * bytes ≤ 140737488355328) (hbase : base ≤ w.heap.size)
    (hK : ∀ g' cap' w', w'.ownsRow base e size (.slice (some ⟨g', 0, none⟩) (n + m) cap') (n + m) (xs ++ news) → w.grownBy w' (some g) → K (a.put o.dst (.slice (some ⟨g', 0, none⟩) (n + m) cap')) w') :
    if Region.wanted o (yielded ops a.tmps) = true then Oper.wp P o a w K Q else E := by
  have hw : Region.wanted o (yielded ops a.tmps) = true := by simp [Region.wanted, hg]
  rw [if_pos hw]
  cases ao with
  | some b =>
    obtain ⟨v', w', hrun, r1, r2, r3⟩ := run_append_own (P := P) w base t o.type e i z size bytes h1 h2 h3 h4 h5 h6 h7 _ n xs hown b m c news hn (hc b rfl) h1c b1 b2 hbase
    have hv : ∃ g' cap', v' = .slice (some ⟨g', 0, none⟩) (n + m) cap' := by
      rcases r1.2 with ⟨e0, _⟩ | ⟨g', cap', cur, e0, _⟩
      · exact absurd (r3.1 e0).1 (by simp)
      · exact ⟨g', cap', e0⟩
    obtain ⟨g', cap', rfl⟩ := hv
    unfold Oper.wp
    simp [execOp, hop, resolve, invoke, builtin, hs, hx, hrun, Result.andThen]
    exact hK g' cap' w' r1 r2
  | none =>
    obtain rfl := hnone rfl
    obtain rfl : news = [] := List.eq_nil_of_length_eq_zero (by simpa using hn)
    have hcap : n ≤ cap := by
      rcases hown.2 with ⟨e0, _⟩ | ⟨g', cap', cur, e0, _, _, hle, _⟩
      · cases e0
      · cases e0
        exact hle
    have hrun := run_append_none (P := P) w t o.type e i h1 h2 g n cap c hcap
    have hk := hK g cap w (by simpa using hown) ⟨rfl, rfl, rfl, Nat.le_refl _, fun _ _ _ => rfl⟩
    unfold Oper.wp
    simp [execOp, hop, resolve, invoke, builtin, hs, hx, hrun, Result.andThen]
    simp only [Nat.add_zero] at hk
    exact hk

end Go.Proofs.YthcgdgpflhdchaaDoor.Ptlb

/- The document's Put, its new list: one statement whose order Go leaves open, in every order. -/
namespace Go.Proofs.YthcgdgpflhdchaaDoor.Ptlb
open Go.Proofs.YthcgdgpflhdchaaDoor.Pbase
open Go.RowKit Go.ChangeMaps
set_option linter.unusedVariables false

theorem at_of_drop {ops : Array Oper} {i : Nat} {oi : Oper} {tl : List Oper} (h : ops.toList.drop i = oi :: tl) : ops[i]? = some oi := by
  have h1 : (ops.toList.drop i)[0]? = some oi := by rw [h]; rfl
  rw [List.getElem?_drop] at h1
  simpa using h1
/-- Operation i yields its value in every world that meets S: it is taken first. -/
theorem takeV {P : Program} {ops : Array Oper} {Q : Exit → Act → World → Prop} {md : Region.Mode} {S : World → Prop} {i : Nat} {oi : Oper} {tl : List Oper} {v : Value} {fuel : Nat} {listed : Array Bool} {a : Act} {w : World}
    (hi : ops.toList.drop i = oi :: tl) (hs : Region.noSelect ops = true) (hf : Region.free md ops listed i = true) (hr : (Region.ready md ops listed).contains i = true)
    (hQ : ∀ c a w, Q (.panic c) (a.put oi.dst v) w → Q (.panic c) a w) (hw : Region.wanted oi (yielded ops a.tmps) = true) (hS : S w)
    (hy : ∀ w, S w → (execOp a.eval oi).run P w = .ok (.value v) w)
    (h : wpAnyH P md ops Q S fuel (listed.setIfInBounds i true) (a.put oi.dst v) w) : wpAnyH P md ops Q S (fuel + 1) listed a w :=
  wpAnyH_take (at_of_drop hi) hs hf hr hQ (Or.inl ⟨hw, hy⟩) hS h
/-- Operation i alone may come up. -/
theorem stepOne {P : Program} {ops : Array Oper} {Q : Exit → Act → World → Prop} {md : Region.Mode} {S : World → Prop} {i : Nat} {oi : Oper} {tl : List Oper} {fuel : Nat} {listed : Array Bool} {a : Act} {w : World}
    (hi : ops.toList.drop i = oi :: tl) (hr : Region.ready md ops listed = [i])
    (h : ∀ K' : Act → World → Prop, Shut (∀ a w, S w → (S w → wpAnyH P md ops Q S fuel (listed.setIfInBounds i true) a w) → K' a w) → if Region.wanted oi (yielded ops a.tmps) = true then Oper.wp P oi a w K' Q else K' (a.put oi.dst undef) w) :
    wpAnyH P md ops Q S (fuel + 1) listed a w :=
  wpAnyH_ready hr (by simp) (AllReadyH.cons (at_of_drop hi) h AllReadyH.nil)
/-- Operation i is one of those that may come up. -/
theorem consOne {P : Program} {ops : Array Oper} {Q : Exit → Act → World → Prop} {md : Region.Mode} {S : World → Prop} {i : Nat} {oi : Oper} {tl : List Oper} {fuel : Nat} {listed : Array Bool} {a : Act} {w : World} {rs : List Nat}
    (hi : ops.toList.drop i = oi :: tl)
    (h : ∀ K' : Act → World → Prop, Shut (∀ a w, S w → (S w → wpAnyH P md ops Q S fuel (listed.setIfInBounds i true) a w) → K' a w) → if Region.wanted oi (yielded ops a.tmps) = true then Oper.wp P oi a w K' Q else K' (a.put oi.dst undef) w)
    (hs : AllReadyH P md ops Q S fuel listed a w rs) : AllReadyH P md ops Q S fuel listed a w (i :: rs) := AllReadyH.cons (at_of_drop hi) h hs
/-- Region n of a text. -/
def regionOf (n : Nat) : Code → Option Code
  | .region id ops d => if id = n then some (.region id ops d) else none
  | .seq a b => match regionOf n a with
    | some c => some c
    | none => regionOf n b
  | .block _ c => regionOf n c
  | .loop c => regionOf n c
  | .cond _ a b => match regionOf n a with
    | some c => some c
    | none => regionOf n b
  | _ => none
theorem rcells_one (S : List En) : ∀ u ∈ rcells S, u.oneCell' = true := by
  intro u hu
  simp only [rcells, List.mem_flatMap] at hu
  obtain ⟨x, _, hx⟩ := hu
  simp [rc] at hx
  rcases hx with rfl | rfl | rfl | rfl | rfl | rfl <;> rfl
theorem six_cells {w : World} {b : Nat} {x0 x1 x2 x3 x4 x5 : Value} {t : TypeId} (h : w.heap[b]? = some (.cells #[x0, x1, x2, x3, x4, x5] t (0, 0))) : ∀ ad, some (⟨b, 0, none⟩ : Addr) = some ad → ∀ j u, [x0, x1, x2, x3, x4, x5][j]? = some u → w.cell? (ad.add j) = some u := by
  intro ad e j u hj
  cases e
  rw [Addr.add_lit, Nat.zero_add, cell_of_row w b j _ _ _ h]
  have : #[x0, x1, x2, x3, x4, x5][j]? = [x0, x1, x2, x3, x4, x5][j]? := by simp
  rw [this]
  exact hj
end Go.Proofs.YthcgdgpflhdchaaDoor.Ptlb

/- What Put of the document's answer does. -/
namespace Go.Proofs.YthcgdgpflhdchaaDoor.Ptlb
open Go.Proofs.YthcgdgpflhdchaaDoor.Pbase
open Go.RowKit Go.ChangeMaps
set_option linter.unusedVariables false

end Go.Proofs.YthcgdgpflhdchaaDoor.Ptlb
