/- Texts on finished packages, joined. -/
import Derived.Test.YtiapfapmgjngpaaGreatDoorBunBase
import Derived.Test.YtiapfapmgjngpaaGreatDoorRows
import Derived.Laws.CopyRow
import Derived.Below
import Derived.RowKit3
import Derived.WalkKit
import Derived.Maps.RangeRun
import Derived.Laws.StructEq
import Derived.Maps.OwnSet
import Derived.ProofKit
import Derived.OpenShut
import Derived.Outline
import Derived.Deep.QuietTactic
import Derived.Deep.RegionHeld3
import Derived.Carry
import Derived.Deep.RegionWith

/- What is remembered, as a list of entries, the oldest first; a map in one block that holds them; what look-up, store, delete, clear and len make of it. -/
namespace Go.Proofs.YtiapfapmgjngpaaGreatDoor.Ptlb
open Go.Proofs.YtiapfapmgjngpaaGreatDoor.Pbase
open Go.RowKit Go.ChangeMaps
set_option linter.unusedVariables false

/-- A key; a mapping; an entry: its key, its mapping, its turn. -/
abbrev Ky := Int × Int
abbrev Pt := Bool × Int × Int × Int
abbrev En := Ky × Pt × Int
def kv (k : Ky) : Value := .agg #[.int .i64 k.1, .int .i64 k.2]
def pv (p : Pt) : Value := .agg #[.bool p.1, .int .i64 p.2.1, .int .i64 p.2.2.1, .int .i64 p.2.2.2]
def ev (p : Pt) (t : Int) : Value := .agg #[.bool p.1, .int .i64 p.2.1, .int .i64 p.2.2.1, .int .i64 p.2.2.2, .int .i64 t]
def pt0 : Pt := (false, 0, 0, 0)

/-! ### The list -/
def hasK (S : List En) (k : Ky) : Bool := S.any fun x => decide (x.1 = k)
def ptK : List En → Ky → Pt
  | [], _ => pt0
  | x :: r, k => if x.1 = k then x.2.1 else ptK r k
def tnK : List En → Ky → Int
  | [], _ => 0
  | x :: r, k => if x.1 = k then x.2.2 else tnK r k
def findS : List En → Ky → Nat → Option (Nat × Value)
  | [], _, _ => none
  | x :: r, k, i => if x.1 = k then some (i, ev x.2.1 x.2.2) else findS r k (i + 1)
def putM : List En → Ky → Pt → Int → List En
  | [], k, p, t => [(k, p, t)]
  | x :: r, k, p, t => if x.1 = k then (k, p, t) :: r else x :: putM r k p t
def delM : List En → Ky → List En
  | [], _ => []
  | x :: r, k => if x.1 = k then r else x :: delM r k
theorem findS_none : ∀ (S : List En) (k : Ky) (i : Nat), hasK S k = false → findS S k i = none ∧ ptK S k = pt0 ∧ tnK S k = 0
  | [], _, _, _ => ⟨rfl, rfl, rfl⟩
  | x :: r, k, i, h => by
    simp only [hasK, List.any_cons, Bool.or_eq_false_iff, decide_eq_false_iff_not] at h
    simp only [findS, ptK, tnK, if_neg h.1]
    exact findS_none r k (i + 1) h.2
theorem findS_some : ∀ (S : List En) (k : Ky) (i : Nat), hasK S k = true → ∃ j, findS S k i = some (i + j, ev (ptK S k) (tnK S k)) ∧ S[j]? = some (k, ptK S k, tnK S k)
  | [], _, _, h => by simp [hasK] at h
  | x :: r, k, i, h => by
    by_cases e : x.1 = k
    · refine ⟨0, by simp [findS, ptK, tnK, e], ?_⟩
      simp only [ptK, tnK, if_pos e, List.getElem?_cons_zero]
      rw [← e]
    · have h' : hasK r k = true := by simpa [hasK, e] using h
      obtain ⟨j, h1, h2⟩ := findS_some r k (i + 1) h'
      refine ⟨j + 1, ?_, ?_⟩
      · simp only [findS, ptK, tnK, if_neg e, h1]
        congr 2; omega
      · simpa [ptK, tnK, e] using h2

/-! ### The model's map -/
/-- The entries of the map in block b are S's, in S's order; their stamps rise. -/
structure Ents (es : Array MapEntry) (clock : Nat) (S : List En) : Prop where
  ents : es.toList.map (fun e => (e.key, e.val)) = S.map fun x => (kv x.1, ev x.2.1 x.2.2)
  rise : (es.toList.map (·.born)).Pairwise (· < ·)
  old : ∀ e ∈ es.toList, e.born < clock
def MapIs (w : World) (b : Nat) (S : List En) : Prop := ∃ es clock, w.heap[b]? = some (.map es clock) ∧ Ents es clock S
theorem MapIs.on {w w' : World} {b : Nat} {S : List En} (h : MapIs w b S) (hb : w'.heap[b]? = w.heap[b]?) : MapIs w' b S := by
  obtain ⟨es, clock, h1, h2⟩ := h
  exact ⟨es, clock, hb.trans h1, h2⟩
theorem MapIs.lt {w : World} {b : Nat} {S : List En} (h : MapIs w b S) : b < w.heap.size := by
  obtain ⟨es, clock, h1, h2⟩ := h
  exact (Array.getElem?_eq_some_iff.1 h1).1
theorem Ents.size {es : Array MapEntry} {clock : Nat} {S : List En} (h : Ents es clock S) : es.size = S.length := by
  have := congrArg List.length h.ents
  simpa using this

set_option maxRecDepth 100000 in
theorem run_checkK (em : Bool) (k : Ky) (w : World) : (Instr.checkKey em 10000 122 (kv k)).run Tryz.prog w = .ok () w := by
  obtain ⟨a, b⟩ := k
  show (Instr.checkKey em 10000 122 (.agg #[.int .i64 a, .int .i64 b])).run Tryz.prog w = .ok () w
  kernel_rfl
set_option maxRecDepth 100000 in
theorem run_equalK (k l : Ky) (w : World) : (Op.equal 122 (kv k) (kv l)).run Tryz.prog w = .ok (decide (k = l)) w := by
  obtain ⟨a, b⟩ := k
  obtain ⟨c, d⟩ := l
  show (Op.equalIn (9998 + 1 + 1) 122 (.agg #[.int .i64 a, .int .i64 b]) (.agg #[.int .i64 c, .int .i64 d])).run _ _ = _
  rw [run_equalIn_agg (P := Tryz.prog) w _ _ _ _ (by kernel_rfl) (by kernel_rfl)]
  have hf : (Tryz.prog.fieldsOf 122).toList = [⟨ "Space", 3, 0, false, "", "", 0⟩, ⟨ "Page", 3, 1, false, "", "", 8⟩] := by kernel_rfl
  rw [hf]
  have p1 : ∀ (x y : Int) (w : World), (part 3 #[.int .i64 x, .int .i64 y] 0).run Tryz.prog w = .ok (.int .i64 x) w := fun _ _ _ => by kernel_rfl
  have p2 : ∀ (x y : Int) (w : World), (part 3 #[.int .i64 x, .int .i64 y] 1).run Tryz.prog w = .ok (.int .i64 y) w := fun _ _ _ => by kernel_rfl
  have q : ∀ (x y : Int) (w : World), (Op.equalIn (9998 + 1) 3 (.int .i64 x) (.int .i64 y)).run Tryz.prog w = .ok (x == y) w := fun x y w => run_equalIn_int w 9998 3 .i64 .i64 x y Tryz.underlying3
  simp only [Op.eqFields, Sem.run_bind, Sem.run_ite, p1, p2, q, Result.andThen_ok, Sem.run_pure]
  by_cases h1 : a = c <;> by_cases h2 : b = d <;> simp [h1, h2]
theorem run_findAsk (k : Ky) (w : World) : ∀ (S : List En) (es : List MapEntry) (i : Nat), es.map (fun e => (e.key, e.val)) = S.map (fun x => (kv x.1, ev x.2.1 x.2.2)) → (Instr.findAsking 122 (kv k) es i).run Tryz.prog w = .ok (findS S k i) w
  | [], [], i, _ => rfl
  | [], e :: es, i, h => by simp at h
  | x :: S, [], i, h => by simp at h
  | x :: S, e :: es, i, h => by
    simp only [List.map_cons, List.cons.injEq, Prod.mk.injEq] at h
    obtain ⟨⟨h1, h2⟩, h3⟩ := h
    simp only [Instr.findAsking, Sem.run_bind, h1, run_equalK, Result.andThen_ok, findS]
    by_cases hk : k = x.1
    · simp [hk, h2]
    · have hk' : ¬ x.1 = k := fun e => hk e.symm
      simp only [hk, hk', decide_false, Bool.false_eq_true, if_false]
      exact run_findAsk k w S es (i + 1) h3
theorem run_findK (k : Ky) (w : World) (S : List En) (es : List MapEntry) (h : es.map (fun e => (e.key, e.val)) = S.map (fun x => (kv x.1, ev x.2.1 x.2.2))) : (Instr.findKey 122 (kv k) es).run Tryz.prog w = .ok (findS S k 0) w := by
  have ha := run_findAsk k w S es 0 h
  cases es with
  | nil =>
    cases S with
    | nil => simp [Instr.findKey, Instr.findNow, run_underlying Tryz.underlying122, findS]
    | cons x S => simp at h
  | cons e es =>
    have hn : Instr.findNow (.struct #[⟨ "Space", 3, 0, false, "", "", 0⟩, ⟨ "Page", 3, 1, false, "", "", 8⟩]) (kv k) (e :: es) 0 = none := by
      simp [Instr.findNow, Instr.sameNow]
    simp only [Instr.findKey, Sem.run_bind, run_underlying Tryz.underlying122, Result.andThen_ok, hn]
    exact ha
set_option maxRecDepth 100000 in
theorem zeroEnt (w : World) : (zeroValue 263).run Tryz.prog w = .ok (ev pt0 0) w := by kernel_rfl

/-! ### The operations -/
theorem look_has {w : World} {b : Nat} {S : List En} (h : MapIs w b S) (k : Ky) : (Instr.lookup 258 (.map (some b)) (kv k) true).run Tryz.prog w = .ok (.tuple #[ev (ptK S k) (tnK S k), .bool (hasK S k)]) w := by
  obtain ⟨es, clock, hb, E⟩ := h
  simp only [Instr.lookup, Sem.run_bind, run_underlying Tryz.underlying258, Result.andThen_ok, MapKept.run_getObj_map hb, Sem.run_pure, run_checkK, run_findK k w S es.toList E.ents]
  cases hk : hasK S k
  · obtain ⟨h1, h2, h3⟩ := findS_none S k 0 hk
    simp [h1, h2, h3]
    rfl
  · obtain ⟨j, h1, h2⟩ := findS_some S k 0 hk
    simp [h1]
theorem look_at {w : World} {b : Nat} {S : List En} (h : MapIs w b S) (k : Ky) : (Instr.lookup 258 (.map (some b)) (kv k) false).run Tryz.prog w = .ok (ev (ptK S k) (tnK S k)) w := by
  obtain ⟨es, clock, hb, E⟩ := h
  simp only [Instr.lookup, Sem.run_bind, run_underlying Tryz.underlying258, Result.andThen_ok, MapKept.run_getObj_map hb, Sem.run_pure, run_checkK, run_findK k w S es.toList E.ents]
  cases hk : hasK S k
  · obtain ⟨h1, h2, h3⟩ := findS_none S k 0 hk
    simp [h1, h2, h3]
    rfl
  · obtain ⟨j, h1, h2⟩ := findS_some S k 0 hk
    simp [h1]
theorem len_map {w : World} {b : Nat} {S : List En} (h : MapIs w b S) (ty : TypeId) : (Builtin.len_ #[258] ty #[.map (some b)]).run Tryz.prog w = .ok (.int .i64 S.length) w := by
  obtain ⟨es, clock, hb, E⟩ := h
  simp [Builtin.len_, run_underlying Tryz.underlying258, MapKept.run_getObj_map hb, goInt, Result.andThen, E.size]

/-! ### Store, delete, clear -/
theorem map_modify_born (f : MapEntry → MapEntry) (hf : ∀ e, (f e).born = e.born) : ∀ (l : List MapEntry) (j : Nat), (l.modify j f).map (·.born) = l.map (·.born)
  | [], j => by simp
  | e :: l, 0 => by simp [hf]
  | e :: l, j + 1 => by simp [map_modify_born f hf l j]
theorem put_some (k : Ky) (p : Pt) (t : Int) : ∀ (S : List En) (es : List MapEntry) (i : Nat), es.map (fun e => (e.key, e.val)) = S.map (fun x => (kv x.1, ev x.2.1 x.2.2)) → hasK S k = true →
    ∃ j v, findS S k i = some (i + j, v) ∧ es[j]?.map (·.key) = some (kv k) ∧ (es.modify j fun e => { e with key := kv k, val := ev p t }).map (fun e => (e.key, e.val)) = (putM S k p t).map (fun x => (kv x.1, ev x.2.1 x.2.2))
  | [], _, _, _, h => by simp [hasK] at h
  | x :: S, [], _, h, _ => by simp at h
  | x :: S, e :: es, i, h, hk => by
    simp only [List.map_cons, List.cons.injEq, Prod.mk.injEq] at h
    obtain ⟨⟨h1, h2⟩, h3⟩ := h
    by_cases hx : x.1 = k
    · refine ⟨0, ev x.2.1 x.2.2, by simp [findS, hx], by simp [h1, hx], ?_⟩
      simp [putM, hx, h3]
    · have hk' : hasK S k = true := by simpa [hasK, hx] using hk
      obtain ⟨j, v, a1, a2, a3⟩ := put_some k p t S es (i + 1) h3 hk'
      refine ⟨j + 1, v, by simp only [findS, if_neg hx, a1]; congr 2; omega, by simpa using a2, ?_⟩
      simp [putM, hx, h1, h2, a3]
theorem put_none (k : Ky) (p : Pt) (t : Int) : ∀ (S : List En), hasK S k = false → putM S k p t = S ++ [(k, p, t)]
  | [], _ => rfl
  | x :: S, h => by
    simp only [hasK, List.any_cons, Bool.or_eq_false_iff, decide_eq_false_iff_not] at h
    simp only [putM, if_neg h.1, List.cons_append, put_none k p t S h.2]
theorem del_some (k : Ky) : ∀ (S : List En) (es : List MapEntry) (i : Nat), es.map (fun e => (e.key, e.val)) = S.map (fun x => (kv x.1, ev x.2.1 x.2.2)) → hasK S k = true →
    ∃ j v, findS S k i = some (i + j, v) ∧ j < es.length ∧ (es.eraseIdx j).map (fun e => (e.key, e.val)) = (delM S k).map (fun x => (kv x.1, ev x.2.1 x.2.2))
  | [], _, _, _, h => by simp [hasK] at h
  | x :: S, [], _, h, _ => by simp at h
  | x :: S, e :: es, i, h, hk => by
    simp only [List.map_cons, List.cons.injEq, Prod.mk.injEq] at h
    obtain ⟨⟨h1, h2⟩, h3⟩ := h
    by_cases hx : x.1 = k
    · refine ⟨0, ev x.2.1 x.2.2, by simp [findS, hx], by simp, ?_⟩
      simp [delM, hx, h3]
    · have hk' : hasK S k = true := by simpa [hasK, hx] using hk
      obtain ⟨j, v, a1, a2, a3⟩ := del_some k S es (i + 1) h3 hk'
      refine ⟨j + 1, v, by simp only [findS, if_neg hx, a1]; congr 2; omega, by simp; omega, ?_⟩
      simp [delM, hx, h1, h2, a3]
theorem same_kv (k : Ky) : Instr.sameBits 10000 (kv k) (kv k) = true := by
  obtain ⟨a, b⟩ := k
  show Instr.sameBits (9998 + 1 + 1) (.agg #[.int .i64 a, .int .i64 b]) (.agg #[.int .i64 a, .int .i64 b]) = true
  simp [Instr.sameBits]
theorem store_map {w : World} {b : Nat} {S : List En} (h : MapIs w b S) (k : Ky) (p : Pt) (t : Int) :
    ∃ o, (Instr.mapUpdate 258 (.map (some b)) (kv k) (ev p t)).run Tryz.prog w = .ok () (setBlock w b o) ∧ MapIs (setBlock w b o) b (putM S k p t) := by
  obtain ⟨es, clock, hb, E⟩ := h
  cases hk : hasK S k
  · have hf := run_findK k w S es.toList E.ents
    rw [(findS_none S k 0 hk).1] at hf
    refine ⟨.map (es.push { key := kv k, val := ev p t, born := clock }) (clock + 1), ?_, _, _, heap_setBlock_same hb _, ?_, ?_, ?_⟩
    · simp [Instr.mapUpdate, run_underlying Tryz.underlying258, MapKept.run_getObj_map hb, run_checkK, hf, MapKept.run_setObj_map _ hb, Result.andThen, setBlock]
    · rw [put_none k p t S hk]
      simp [E.ents]
    · have h1 := E.rise
      have h2 := E.old
      simp only [Array.toList_push, List.map_append, List.map_cons, List.map_nil, List.pairwise_append, List.pairwise_cons, List.not_mem_nil, false_implies, implies_true, List.Pairwise.nil, and_self, true_and]
      refine ⟨h1, fun a ha c hc => ?_⟩
      obtain ⟨e, he, rfl⟩ := List.mem_map.1 ha
      simp only [List.mem_singleton] at hc
      rw [hc]; exact h2 e he
    · intro e he
      simp only [Array.toList_push, List.mem_append, List.mem_singleton] at he
      rcases he with he | he
      · have := E.old e he; omega
      · rw [he]; exact Nat.lt_succ_self _
  · have hf := run_findK k w S es.toList E.ents
    obtain ⟨j, v, a1, a2, a3⟩ := put_some k p t S es.toList 0 E.ents hk
    rw [a1, Nat.zero_add] at hf
    have hkey : ((es[j]?).map (·.key)).getD (kv k) = kv k := by rw [← Array.getElem?_toList, a2]; rfl
    have hl : (es.modify j fun e => { e with key := kv k, val := ev p t }).toList = es.toList.modify j fun e => { e with key := kv k, val := ev p t } := by simp
    have hbn := map_modify_born (fun e : MapEntry => { e with key := kv k, val := ev p t }) (fun _ => rfl) es.toList j
    refine ⟨.map (es.modify j fun e => { e with key := kv k, val := ev p t }) clock, ?_, _, _, heap_setBlock_same hb _, ?_, ?_, ?_⟩
    · simp [Instr.mapUpdate, run_underlying Tryz.underlying258, MapKept.run_getObj_map hb, run_checkK, hf, MapKept.run_setObj_map _ hb, Result.andThen, setBlock, hkey, Instr.keyThatStays, same_kv]
    · rw [hl]; exact a3
    · rw [hl, hbn]; exact E.rise
    · intro e he
      have hm : e.born ∈ (es.modify j fun e => { e with key := kv k, val := ev p t }).toList.map (·.born) := List.mem_map.2 ⟨e, he, rfl⟩
      rw [hl, hbn] at hm
      obtain ⟨e', he', hb'⟩ := List.mem_map.1 hm
      rw [← hb']; exact E.old e' he'
theorem delete_map {w : World} {b : Nat} {S : List En} (h : MapIs w b S) (k : Ky) (hk : hasK S k = true) :
    ∃ o, (∀ ty, (Builtin.delete_ #[258, 122] ty #[.map (some b), kv k]).run Tryz.prog w = .ok (.tuple #[]) (setBlock w b o)) ∧ MapIs (setBlock w b o) b (delM S k) := by
  obtain ⟨es, clock, hb, E⟩ := h
  have hf := run_findK k w S es.toList E.ents
  obtain ⟨j, v, a1, a2, a3⟩ := del_some k S es.toList 0 E.ents hk
  rw [a1, Nat.zero_add] at hf
  have hjs : j < es.size := by simpa using a2
  have hl : (es.eraseIdxIfInBounds j).toList = es.toList.eraseIdx j := by
    unfold Array.eraseIdxIfInBounds
    rw [dif_pos hjs]
    simp
  refine ⟨.map (es.eraseIdxIfInBounds j) clock, ?_, _, _, heap_setBlock_same hb _, ?_, ?_, ?_⟩
  · intro ty
    simp [Builtin.delete_, run_underlying Tryz.underlying258, MapKept.run_getObj_map hb, run_checkK, hf, MapKept.run_setObj_map _ hb, Result.andThen, setBlock]
  · rw [hl]; exact a3
  · rw [hl]
    exact E.rise.sublist ((List.eraseIdx_sublist _ _).map _)
  · intro e he
    rw [hl] at he
    exact E.old e ((List.eraseIdx_sublist _ _).subset he)
theorem clear_map {w : World} {b : Nat} {S : List En} (h : MapIs w b S) :
    ∃ o, (∀ ty, (Builtin.clear_ #[258] ty #[.map (some b)]).run Tryz.prog w = .ok (.tuple #[]) (setBlock w b o)) ∧ MapIs (setBlock w b o) b [] := by
  obtain ⟨es, clock, hb, E⟩ := h
  refine ⟨.map #[] clock, ?_, _, _, heap_setBlock_same hb _, ?_, ?_, ?_⟩
  · intro ty
    simp [Builtin.clear_, run_underlying Tryz.underlying258, MapKept.run_getObj_map hb, MapKept.run_setObj_map _ hb, Result.andThen, setBlock]
  · rfl
  · simp
  · simp
/-- The block of a map that is written: nothing else changes. -/
theorem setBlock_other {w : World} {b : Nat} {S : List En} (h : MapIs w b S) (o : Obj) {i : Nat} (hi : i ≠ b) : (setBlock w b o).heap[i]? = w.heap[i]? := by
  obtain ⟨es, clock, hb, E⟩ := h
  exact heap_setBlock_other hb _ hi
theorem setBlock_size (w : World) (b : Nat) (o : Obj) : (setBlock w b o).heap.size = w.heap.size := by simp [setBlock]
theorem below_setBlock {B : Nat} {a w : World} {b : Nat} (h : Below B a w) (hb : B ≤ b) (o : Obj) : Below B a (setBlock w b o) :=
  ⟨h.os, h.tape, h.output, by rw [setBlock_size]; exact h.size, fun k hk => by
    have hne : b ≠ k := by omega
    have : (setBlock w b o).heap[k]? = w.heap[k]? := by simp [setBlock, hne]
    rw [this]; exact h.block k hk⟩
end Go.Proofs.YtiapfapmgjngpaaGreatDoor.Ptlb

/- What Made, Len, Get, Flush of package tlb answer, for every argument that their types allow. -/
namespace Go.Proofs.YtiapfapmgjngpaaGreatDoor.Ptlb
open Go.Proofs.YtiapfapmgjngpaaGreatDoor.Pbase
open Go.RowKit Go.ChangeMaps
set_option linter.unusedVariables false

/-- One that New made lies behind the pointer to block p; its map in block b. -/
structure TlbIs (w : World) (p b : Nat) (room : Int) (S : List En) : Prop where
  row : w.heap[p]? = some (.cells #[.int .i64 room, .map (some b)] 260 (0, 0))
  map : MapIs w b S
theorem TlbIs.room {w : World} {p b : Nat} {r : Int} {S : List En} (h : TlbIs w p b r S) : w.cell? ⟨p, 0, none⟩ = some (.int .i64 r) := by
  rw [cell_of_row w p 0 _ _ _ h.row]; rfl
theorem TlbIs.ents {w : World} {p b : Nat} {r : Int} {S : List En} (h : TlbIs w p b r S) : w.cell? ⟨p, 1, none⟩ = some (.map (some b)) := by
  rw [cell_of_row w p 1 _ _ _ h.row]; rfl
theorem TlbIs.lt {w : World} {p b : Nat} {r : Int} {S : List En} (h : TlbIs w p b r S) : p < w.heap.size := (Array.getElem?_eq_some_iff.1 h.row).1
theorem TlbIs.ne {w : World} {p b : Nat} {r : Int} {S : List En} (h : TlbIs w p b r S) : p ≠ b := by
  intro e
  obtain ⟨es, clock, hb, _⟩ := h.map
  rw [← e, h.row] at hb
  cases hb
theorem TlbIs.on {w w' : World} {p b : Nat} {r : Int} {S : List En} (h : TlbIs w p b r S) (hp : w'.heap[p]? = w.heap[p]?) (hb : w'.heap[b]? = w.heap[b]?) : TlbIs w' p b r S := ⟨hp.trans h.row, h.map.on hb⟩
theorem TlbIs.below {w w' : World} {B p b : Nat} {r : Int} {S : List En} (h : TlbIs w p b r S) (hB : Below B w w') (hp : p < B) (hb : b < B) : TlbIs w' p b r S := h.on (hB.block p hp) (hB.block b hb)
theorem TlbIs.more {w w' : World} {p b : Nat} {r : Int} {S : List En} (h : TlbIs w p b r S) (hB : Below w.heap.size w w') : TlbIs w' p b r S := h.below hB h.lt h.map.lt
theorem TlbIs.turned {w : World} {p b : Nat} {r : Int} {S S' : List En} (h : TlbIs w p b r S) {o : Obj} (h' : MapIs (setBlock w b o) b S') : TlbIs (setBlock w b o) p b r S' :=
  ⟨(setBlock_other h.map o h.ne).trans h.row, h'⟩

theorem TlbIs.alloc {w : World} {p b : Nat} {r : Int} {S : List En} (h : TlbIs w p b r S) (o : Obj) : TlbIs (w.alloc o) p b r S := h.more ((Below.refl _ _).alloc (Nat.le_refl _) _)
theorem TlbIs.drew {w : World} {p b : Nat} {r : Int} {S : List En} (h : TlbIs w p b r S) : TlbIs w.drew p b r S := h.on rfl rfl

theorem row_new2 (w : World) (o : Obj) (c : Array Value) (t : TypeId) : ((w.alloc o).alloc (.cells c t)).heap[w.heap.size + 1]? = some (.cells c t (0, 0)) := by
  have := heap_alloc_new (w.alloc o) (.cells c t)
  simpa using this
/-- What is written into new blocks alone leaves the old ones. -/
theorem below_size {B : Nat} {a w : World} (h : Below B a w) (hB : B ≤ a.heap.size) : B ≤ w.heap.size := Nat.le_trans hB h.size

/-! ### Made, Len -/
set_option maxRecDepth 100000 in
theorem made_some (p b : Nat) (w : World) (hp : w.cell? ⟨p, 1, none⟩ = some (.map (some b))) :
    Calls Tryz.prog 154 #[.pointer (some ⟨p, 0, none⟩)] w fun e w' => e = .returned (.bool true) ∧ w' = w := by
  have h1 : ∀ w, (binOp .neq 258 (.map (some b)) (.map none)).run Tryz.prog w = .ok (.bool true) w := fun _ => by kernel_rfl
  go_enter Tryz.func154, Tryz.ntmps154
  go_wp2
  go_ret
  exact ⟨rfl, rfl⟩
set_option maxRecDepth 100000 in
theorem made_nil (w : World) :
    Calls Tryz.prog 154 #[.pointer none] w fun e w' => e = .returned (.bool false) ∧ w' = w := by
  go_enter Tryz.func154, Tryz.ntmps154
  go_wp2
  go_ret
  exact ⟨rfl, rfl⟩
set_option maxRecDepth 100000 in
theorem made_zero (p : Nat) (w : World) (hp : w.cell? ⟨p, 1, none⟩ = some (.map none)) :
    Calls Tryz.prog 154 #[.pointer (some ⟨p, 0, none⟩)] w fun e w' => e = .returned (.bool false) ∧ w' = w := by
  have h1 : ∀ w, (binOp .neq 258 (.map none) (.map none)).run Tryz.prog w = .ok (.bool false) w := fun _ => by kernel_rfl
  go_enter Tryz.func154, Tryz.ntmps154
  go_wp2
  go_ret
  exact ⟨rfl, rfl⟩
set_option maxRecDepth 100000 in
theorem len_some (p b : Nat) (r : Int) (S : List En) (w : World) (h : TlbIs w p b r S) :
    Calls Tryz.prog 280 #[.pointer (some ⟨p, 0, none⟩)] w fun e w' => e = .returned (.int .i64 S.length) ∧ w' = w := by
  have hp := h.ents
  have hl := fun ty => len_map h.map ty
  go_enter Tryz.func280, Tryz.ntmps280
  go_wp2_with (go_at_call 154; refine (made_some p b _ hp).mono ?_; rintro e w' ⟨rfl, rfl⟩)
  go_ret
  exact ⟨rfl, rfl⟩
set_option maxRecDepth 100000 in
theorem len_nil (w : World) :
    Calls Tryz.prog 280 #[.pointer none] w fun e w' => e = .returned (.int .i64 0) ∧ w' = w := by
  go_enter Tryz.func280, Tryz.ntmps280
  go_wp2_with (go_at_call 154; refine (made_nil _).mono ?_; rintro e w' ⟨rfl, rfl⟩)
  go_ret
  exact ⟨rfl, rfl⟩
set_option maxRecDepth 100000 in
theorem len_zero (p : Nat) (w : World) (hp : w.cell? ⟨p, 1, none⟩ = some (.map none)) :
    Calls Tryz.prog 280 #[.pointer (some ⟨p, 0, none⟩)] w fun e w' => e = .returned (.int .i64 0) ∧ w' = w := by
  go_enter Tryz.func280, Tryz.ntmps280
  go_wp2_with (go_at_call 154; refine (made_zero p _ hp).mono ?_; rintro e w' ⟨rfl, rfl⟩)
  go_ret
  exact ⟨rfl, rfl⟩

/-! ### Get -/
/-! ### Flush -/
set_option maxRecDepth 100000 in
theorem flush_some (p b : Nat) (r : Int) (S : List En) (w : World) (h : TlbIs w p b r S) :
    Calls Tryz.prog 229 #[.pointer (some ⟨p, 0, none⟩)] w fun e w' => e = .returned (.int .i64 S.length) ∧ TlbIs w' p b r [] ∧ w'.heap.size = w.heap.size ∧ ∀ B, B ≤ b → Below B w w' := by
  have hp := h.ents
  obtain ⟨o, hc, hm⟩ := clear_map h.map
  have HM : Hid (MapIs (setBlock w b o) b []) := hm
  have H : Hid (TlbIs w p b r S) := h
  clear hm h
  have hl0 : (0 : Int) ≤ S.length := by omega
  by_cases h0 : S.length = 0
  · have HE : Hid (S = []) := List.eq_nil_of_length_eq_zero h0
    have h1 : ¬ (0 : Int) < S.length := by omega
    clear h0
    go_enter Tryz.func229, Tryz.ntmps229
    go_wp2_with (go_at_call 280; refine (len_some p b r S _ H.out).mono ?_; rintro e w' ⟨rfl, rfl⟩)
    go_ret
    exact ⟨rfl, HE.out ▸ H.out, rfl, fun B _ => Below.refl _ _⟩
  · have h1 : (0 : Int) < S.length := by omega
    clear h0
    go_enter Tryz.func229, Tryz.ntmps229
    go_wp2_with (go_at_call 280; refine (len_some p b r S _ H.out).mono ?_; rintro e w' ⟨rfl, rfl⟩)
    go_ret
    exact ⟨rfl, H.out.turned HM.out, setBlock_size _ _ _, fun B hB => below_setBlock (Below.refl _ _) hB _⟩
set_option maxRecDepth 100000 in
theorem flush_zero (p : Nat) (w : World) (hp : w.cell? ⟨p, 1, none⟩ = some (.map none)) :
    Calls Tryz.prog 229 #[.pointer (some ⟨p, 0, none⟩)] w fun e w' => e = .returned (.int .i64 0) ∧ w' = w := by
  go_enter Tryz.func229, Tryz.ntmps229
  go_wp2_with (go_at_call 280; refine (len_zero p _ hp).mono ?_; rintro e w' ⟨rfl, rfl⟩)
  go_ret
  exact ⟨rfl, rfl⟩
end Go.Proofs.YtiapfapmgjngpaaGreatDoor.Ptlb

/- New and Flush of package tlb, apart from Put and Keys (the texts of TlbP and TlbK). -/
namespace Go.Proofs.YtiapfapmgjngpaaGreatDoor.Ptlb
open Go.Proofs.YtiapfapmgjngpaaGreatDoor.Pbase
open Go.RowKit Go.ChangeMaps
set_option linter.unusedVariables false

theorem but_setBlock {b : Nat} {a w : World} (h : But b a w) (o : Obj) : But b a (setBlock w b o) :=
  ⟨h.os, h.tape, h.output, by rw [setBlock_size]; exact h.size, fun i hi hne => by
    have : (ChangeMaps.setBlock w b o).heap[i]? = w.heap[i]? := by simp [ChangeMaps.setBlock, Ne.symm hne]
    rw [this]; exact h.block i hi hne⟩

/-! ### New -/
set_option maxRecDepth 100000 in
theorem new_bad (r : Int) (w : World) (h : r < 0 ∨ 8 < r) :
    Calls Tryz.prog 101 #[.int .i64 r] w fun e w' => e = .returned (.tuple #[.pointer none, .int .i64 1]) ∧ w' = w := by
  rcases h with h | h
  · go_enter Tryz.func101, Tryz.ntmps101
    go_wp2
    go_ret2
    exact ⟨rfl, rfl⟩
  · have h0 : ¬ r < 0 := by omega
    go_enter Tryz.func101, Tryz.ntmps101
    go_wp2
    go_ret2
    exact ⟨rfl, rfl⟩
theorem mapIs_new (w : World) : MapIs (w.alloc (.map #[] 0)) w.heap.size [] := ⟨#[], 0, (MapKept.heap_alloc w _).1, rfl, by simp, by simp⟩
set_option maxRecDepth 100000 in
theorem new_ok (r : Int) (w : World) (h0 : 0 ≤ r) (h1 : r ≤ 8) :
    Calls Tryz.prog 101 #[.int .i64 r] w fun e w' => e = .returned (.tuple #[.pointer (some ⟨w.heap.size + 1, 0, none⟩), .int .i64 0]) ∧ TlbIs w' (w.heap.size + 1) w.heap.size r [] ∧ Below w.heap.size w w' := by
  have hmm := @run_makeMap Tryz.prog
  have n0 : ¬ r < 0 := by omega
  have n1 : ¬ 8 < r := by omega
  go_enter Tryz.func101, Tryz.ntmps101
  go_wp2
  go_ret2
  refine ⟨rfl, ⟨?_, ?_⟩, bal (bal (Below.refl _ _) _) _⟩
  · have := heap_alloc_new (w.alloc (.map #[] 0)) (.cells #[.int .i64 r, .map (some w.heap.size)] 260)
    simpa using this
  · exact (mapIs_new w).on (Below.heap_alloc _ _ _ (by simp))

/-! ### Flush once more -/
set_option maxRecDepth 100000 in
theorem flush_but (p b : Nat) (r : Int) (S : List En) (w : World) (h : TlbIs w p b r S) :
    Calls Tryz.prog 229 #[.pointer (some ⟨p, 0, none⟩)] w fun e w' => e = .returned (.int .i64 S.length) ∧ TlbIs w' p b r [] ∧ But b w w' := by
  have hp := h.ents
  obtain ⟨o, hc, hm⟩ := clear_map h.map
  have HM : Hid (MapIs (setBlock w b o) b []) := hm
  have H : Hid (TlbIs w p b r S) := h
  clear hm h
  have hl0 : (0 : Int) ≤ S.length := by omega
  by_cases h0 : S.length = 0
  · have HE : Hid (S = []) := List.eq_nil_of_length_eq_zero h0
    have h1 : ¬ (0 : Int) < S.length := by omega
    clear h0
    go_enter Tryz.func229, Tryz.ntmps229
    go_wp2_with (go_at_call 280; refine (len_some p b r S _ H.out).mono ?_; rintro e w' ⟨rfl, rfl⟩)
    go_ret
    exact ⟨rfl, HE.out ▸ H.out, But.of_below b (Below.refl _ _)⟩
  · have h1 : (0 : Int) < S.length := by omega
    clear h0
    go_enter Tryz.func229, Tryz.ntmps229
    go_wp2_with (go_at_call 280; refine (len_some p b r S _ H.out).mono ?_; rintro e w' ⟨rfl, rfl⟩)
    go_ret
    exact ⟨rfl, H.out.turned HM.out, but_setBlock (But.of_below b (Below.refl _ _)) o⟩
end Go.Proofs.YtiapfapmgjngpaaGreatDoor.Ptlb
