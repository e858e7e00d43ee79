/- Texts on finished packages, joined. -/
import Derived.Test.YtcgekcjnaadcmaaGreatDoorBunBase
import Derived.Test.YtcgekcjnaadcmaaGreatDoorRows
import Derived.Laws.CopyRow
import Derived.Below
import Derived.RowKit3
import Derived.WalkKit
import Derived.Maps.RangeRun
import Derived.Maps.OwnSet
import Derived.Maps.RangeWalk
import Derived.ProofKit
import Derived.Deep.RegionHeld3
import Derived.Deep.DeepCutAuto
import Derived.BigRegion

/- Plain words on lines: where each leads (0: nowhere; else the frame and 1), what each call answers and makes of it. No program is named here. -/
namespace Go.Proofs.YtcgekcjnaadcmaaGreatDoor.Phw
open Go.Proofs.YtcgekcjnaadcmaaGreatDoor.Pbase
open Go.RowKit
set_option linter.unusedVariables false

theorem rhide {p : Prop} (h : p) : Hid p := h
def okL (l : Int) : Bool := decide (0 ≤ l) && decide (l < 8)
def okG (f : Int) : Bool := decide (0 ≤ f) && decide (f < 64)
theorem okL_iff (l : Int) : okL l = true ↔ 0 ≤ l ∧ l < 8 := by unfold okL; simp
theorem okG_iff (f : Int) : okG f = true ↔ 0 ≤ f ∧ f < 64 := by unfold okG; simp
theorem okL_nat {i : Nat} (h : i < 8) : okL (i : Int) = true := (okL_iff _).2 ⟨by omega, by omega⟩
/-- Where the lines lead. -/
def Gd (S : Nat → Int) : Prop := ∀ i, 0 ≤ S i ∧ S i ≤ 64
def upL (S : Nat → Int) (l : Nat) (v : Int) : Nat → Int := fun i => if i = l then v else S i
theorem up_own (S : Nat → Int) (l : Nat) (v : Int) : upL S l v l = v := by unfold upL; rw [if_pos rfl]
theorem up_out {S : Nat → Int} {l i : Nat} {v : Int} (h : i ≠ l) : upL S l v i = S i := by unfold upL; rw [if_neg h]
theorem Gd.up {S : Nat → Int} (h : Gd S) (l : Nat) {v : Int} (hv : 0 ≤ v ∧ v ≤ 64) : Gd (upL S l v) := fun i => by
  unfold upL
  split
  · exact hv
  · exact h i
theorem gd_zero : Gd fun _ => 0 := fun _ => ⟨Int.le_refl 0, show (0 : Int) ≤ 64 by decide⟩
/-- Attach. -/
def atE (S : Nat → Int) (l f : Int) : Int := if (okL l && okG f) = true then if S l.toNat = 0 then 0 else 10 else 1
def atS (S : Nat → Int) (l f : Int) : Nat → Int := if atE S l f = 0 then upL S l.toNat (f + 1) else S
/-- Of; Detach. -/
def ofE (S : Nat → Int) (l : Int) : Int := if okL l = true then if S l.toNat = 0 then 3 else 0 else 1
def ofX (S : Nat → Int) (l : Int) : Int := if ofE S l = 0 then S l.toNat - 1 else 0
def deS (S : Nat → Int) (l : Int) : Nat → Int := if ofE S l = 0 then upL S l.toNat 0 else S
/-- Has. -/
def hsK (S : Nat → Int) (f : Int) : Nat → Nat
  | 0 => 0
  | k + 1 => hsK S f k + if okG f = true ∧ S k = f + 1 then 1 else 0
def hsN (S : Nat → Int) (f : Int) : Int := (hsK S f 8 : Nat)
/-! ### which way -/
section
variable {S : Nat → Int} {l f : Int}
theorem at_arg (h : ¬ (okL l && okG f) = true) : atE S l f = 1 ∧ atS S l f = S := by
  have e : atE S l f = 1 := by unfold atE; rw [if_neg h]
  exact ⟨e, by unfold atS; rw [if_neg (by rw [e]; decide)]⟩
theorem at_used (h : (okL l && okG f) = true) (h0 : S l.toNat ≠ 0) : atE S l f = 10 ∧ atS S l f = S := by
  have e : atE S l f = 10 := by unfold atE; rw [if_pos h, if_neg h0]
  exact ⟨e, by unfold atS; rw [if_neg (by rw [e]; decide)]⟩
theorem at_ok (h : (okL l && okG f) = true) (h0 : S l.toNat = 0) : atE S l f = 0 ∧ atS S l f = upL S l.toNat (f + 1) := by
  have e : atE S l f = 0 := by unfold atE; rw [if_pos h, if_pos h0]
  exact ⟨e, by unfold atS; rw [if_pos e]⟩
theorem of_arg (h : ¬ okL l = true) : ofE S l = 1 ∧ ofX S l = 0 ∧ deS S l = S := by
  have e : ofE S l = 1 := by unfold ofE; rw [if_neg h]
  exact ⟨e, by unfold ofX; rw [if_neg (by rw [e]; decide)], by unfold deS; rw [if_neg (by rw [e]; decide)]⟩
theorem of_none (h : okL l = true) (h0 : S l.toNat = 0) : ofE S l = 3 ∧ ofX S l = 0 ∧ deS S l = S := by
  have e : ofE S l = 3 := by unfold ofE; rw [if_pos h, if_pos h0]
  exact ⟨e, by unfold ofX; rw [if_neg (by rw [e]; decide)], by unfold deS; rw [if_neg (by rw [e]; decide)]⟩
theorem of_ok (h : okL l = true) (h0 : S l.toNat ≠ 0) : ofE S l = 0 ∧ ofX S l = S l.toNat - 1 ∧ deS S l = upL S l.toNat 0 := by
  have e : ofE S l = 0 := by unfold ofE; rw [if_pos h, if_neg h0]
  exact ⟨e, by unfold ofX; rw [if_pos e], by unfold deS; rw [if_pos e]⟩
theorem Gd.at (h : Gd S) (l f : Int) : Gd (atS S l f) := by
  by_cases h1 : (okL l && okG f) = true
  · by_cases h0 : S l.toNat = 0
    · rw [(at_ok h1 h0).2]
      have := (okG_iff f).1 (by simp at h1; exact h1.2)
      exact h.up _ (by omega)
    · rw [(at_used h1 h0).2]
      exact h
  · rw [(at_arg h1).2]
    exact h
theorem Gd.de (h : Gd S) (l : Int) : Gd (deS S l) := by
  unfold deS
  split
  · exact h.up _ (by omega)
  · exact h
end
/-! ### how many lead there -/
theorem hsK_le (S : Nat → Int) (f : Int) (k : Nat) : hsK S f k ≤ k := by
  induction k with
  | zero => simp [hsK]
  | succ k ih =>
    unfold hsK
    split <;> omega
/-- A line that led nowhere, or elsewhere, leads there: one more. -/
theorem hsK_up (S : Nat → Int) (f : Int) (l : Nat) (v : Int) (k : Nat) : hsK (upL S l v) f k + (if l < k ∧ okG f = true ∧ S l = f + 1 then 1 else 0) = hsK S f k + (if l < k ∧ okG f = true ∧ v = f + 1 then 1 else 0) := by
  induction k with
  | zero => simp [hsK]
  | succ k ih =>
    unfold hsK
    by_cases hk : k = l
    · subst hk
      rw [up_own]
      simp only [Nat.lt_irrefl, false_and, if_false, Nat.add_zero, Nat.lt_succ_self, true_and] at ih ⊢
      omega
    · rw [up_out hk]
      have e : (l < k + 1) ↔ (l < k) := by omega
      simp only [e]
      omega
/-- All lines to all frames are no more than there are. -/
def sumK (S : Nat → Int) : Nat → Nat
  | 0 => 0
  | x + 1 => sumK S x + hsK S x 8
def ledK (S : Nat → Int) (x : Nat) : Nat → Nat
  | 0 => 0
  | k + 1 => ledK S x k + if 1 ≤ S k ∧ S k ≤ x then 1 else 0
theorem ledK_le (S : Nat → Int) (x k : Nat) : ledK S x k ≤ k := by
  induction k with
  | zero => simp [ledK]
  | succ k ih =>
    unfold ledK
    split <;> omega
theorem led_step (S : Nat → Int) (x k : Nat) (hx : x < 64) : ledK S (x + 1) k = ledK S x k + hsK S x k := by
  induction k with
  | zero => simp [ledK, hsK]
  | succ k ih =>
    unfold ledK hsK
    have h1 : okG (x : Int) = true := (okG_iff _).2 ⟨by omega, by omega⟩
    simp only [h1, true_and]
    rw [ih]
    by_cases a : S k = (x : Int) + 1
    · rw [if_pos (by omega), if_neg (by omega), if_pos a]
      omega
    · by_cases b : 1 ≤ S k ∧ S k ≤ x
      · rw [if_pos (by omega), if_pos b, if_neg a]
        omega
      · rw [if_neg (by omega), if_neg b, if_neg a]
        omega
theorem sum_led (S : Nat → Int) : ∀ x, x ≤ 64 → sumK S x = ledK S x 8
  | 0, _ => by
    have : ∀ k, ledK S 0 k = 0 := fun k => by
      induction k with
      | zero => rfl
      | succ k ih =>
        unfold ledK
        rw [ih, if_neg (by omega)]
    rw [this]
    rfl
  | x + 1, h => by
    unfold sumK
    rw [sum_led S x (by omega), led_step S x 8 (by omega)]
theorem sum_le (S : Nat → Int) {x : Nat} (h : x ≤ 64) : sumK S x ≤ 8 := by
  rw [sum_led S x h]
  exact ledK_le S x 8
end Go.Proofs.YtcgekcjnaadcmaaGreatDoor.Phw

/- A map from ints to ints in one block, told by a list of pairs: what look-up, store, delete, len make of it (written by mk_map.py out of tlb's TlbG). -/
namespace Go.Proofs.YtcgekcjnaadcmaaGreatDoor.Phw
open Go.Proofs.YtcgekcjnaadcmaaGreatDoor.Pbase
open Go.RowKit Go.ChangeMaps
set_option linter.unusedVariables false

/-- A key and its value. -/
abbrev En := Int × Int
def kv (k : Int) : Value := .int .i64 k
def ev (v : Int) : Value := .int .i64 v
/-! ### The list -/
def hasK (S : List En) (k : Int) : Bool := S.any fun x => decide (x.1 = k)
def vlK : List En → Int → Int
  | [], _ => 0
  | x :: r, k => if x.1 = k then x.2 else vlK r k
def findS : List En → Int → Nat → Option (Nat × Value)
  | [], _, _ => none
  | x :: r, k, i => if x.1 = k then some (i, ev x.2) else findS r k (i + 1)
def putM : List En → Int → Int → List En
  | [], k, v => [(k, v)]
  | x :: r, k, v => if x.1 = k then (k, v) :: r else x :: putM r k v
def delM : List En → Int → List En
  | [], _ => []
  | x :: r, k => if x.1 = k then r else x :: delM r k
theorem findS_none : ∀ (S : List En) (k : Int) (i : Nat), hasK S k = false → findS S k i = none ∧ vlK S k = 0
  | [], _, _, _ => ⟨rfl, rfl⟩
  | x :: r, k, i, h => by
    simp only [hasK, List.any_cons, Bool.or_eq_false_iff, decide_eq_false_iff_not] at h
    simp only [findS, vlK, if_neg h.1]
    exact findS_none r k (i + 1) h.2
theorem findS_some : ∀ (S : List En) (k : Int) (i : Nat), hasK S k = true → ∃ j, findS S k i = some (i + j, ev (vlK S k)) ∧ S[j]? = some (k, vlK S k)
  | [], _, _, h => by simp [hasK] at h
  | x :: r, k, i, h => by
    by_cases e : x.1 = k
    · refine ⟨0, by simp [findS, vlK, e], ?_⟩
      simp only [vlK, if_pos e, List.getElem?_cons_zero]
      rw [← e]
    · have h' : hasK r k = true := by simpa [hasK, e] using h
      obtain ⟨j, h1, h2⟩ := findS_some r k (i + 1) h'
      refine ⟨j + 1, ?_, ?_⟩
      · simp only [findS, vlK, if_neg e, h1]
        congr 2; omega
      · simpa [vlK, e] using h2

/-! ### The model's map -/
/-- The entries of the map in block b are S's, in S's order; their stamps rise. -/
structure Ents (es : Array MapEntry) (clock : Nat) (S : List En) : Prop where
  ents : es.toList.map (fun e => (e.key, e.val)) = S.map fun x => (kv x.1, ev x.2)
  rise : (es.toList.map (·.born)).Pairwise (· < ·)
  old : ∀ e ∈ es.toList, e.born < clock
def MapIs (w : World) (b : Nat) (S : List En) : Prop := ∃ es clock, w.heap[b]? = some (.map es clock) ∧ Ents es clock S
theorem MapIs.on {w w' : World} {b : Nat} {S : List En} (h : MapIs w b S) (hb : w'.heap[b]? = w.heap[b]?) : MapIs w' b S := by
  obtain ⟨es, clock, h1, h2⟩ := h
  exact ⟨es, clock, hb.trans h1, h2⟩
theorem MapIs.lt {w : World} {b : Nat} {S : List En} (h : MapIs w b S) : b < w.heap.size := by
  obtain ⟨es, clock, h1, h2⟩ := h
  exact (Array.getElem?_eq_some_iff.1 h1).1
theorem Ents.size {es : Array MapEntry} {clock : Nat} {S : List En} (h : Ents es clock S) : es.size = S.length := by
  have := congrArg List.length h.ents
  simpa using this

set_option maxRecDepth 100000 in
theorem run_checkK (em : Bool) (k : Int) (w : World) : (Instr.checkKey em 10000 3 (kv k)).run Tryz.prog w = .ok () w := by
  show (Instr.checkKey em 10000 3 (.int .i64 k)).run Tryz.prog w = .ok () w
  kernel_rfl
theorem findNowK (k : Int) : ∀ (S : List En) (es : List MapEntry) (i : Nat), es.map (fun e => (e.key, e.val)) = S.map (fun x => (kv x.1, ev x.2)) → Instr.findNow (.int .i64) (kv k) es i = some (findS S k i)
  | [], [], i, _ => rfl
  | [], e :: es, i, h => by simp at h
  | x :: S, [], i, h => by simp at h
  | x :: S, e :: es, i, h => by
    simp only [List.map_cons, List.cons.injEq, Prod.mk.injEq] at h
    obtain ⟨⟨h1, h2⟩, h3⟩ := h
    have hs : Instr.sameNow (.int .i64) (kv k) e.key = some (k == x.1) := by rw [h1]; simp [Instr.sameNow, kv]
    simp only [Instr.findNow, hs, findS]
    by_cases hk : k = x.1
    · simp [hk, h2]
    · have hk' : ¬ x.1 = k := fun e => hk e.symm
      have hb : (k == x.1) = false := by simp [hk]
      simp only [hb, if_neg hk']
      exact findNowK k S es (i + 1) h3
theorem run_findK (k : Int) (w : World) (S : List En) (es : List MapEntry) (h : es.map (fun e => (e.key, e.val)) = S.map (fun x => (kv x.1, ev x.2))) : (Instr.findKey 3 (kv k) es).run Tryz.prog w = .ok (findS S k 0) w := by
  simp [Instr.findKey, run_underlying Tryz.underlying3, findNowK k S es 0 h]
/-! ### The operations -/
theorem look_has {w : World} {b : Nat} {S : List En} (h : MapIs w b S) (k : Int) : (Instr.lookup 230 (.map (some b)) (kv k) true).run Tryz.prog w = .ok (.tuple #[ev (vlK S k), .bool (hasK S k)]) w := by
  obtain ⟨es, clock, hb, E⟩ := h
  simp only [Instr.lookup, Sem.run_bind, run_underlying Tryz.underlying230, Result.andThen_ok, MapKept.run_getObj_map hb, Sem.run_pure, run_checkK, run_findK k w S es.toList E.ents]
  cases hk : hasK S k
  · obtain ⟨h1, h2⟩ := findS_none S k 0 hk
    simp [h1, h2]
    rfl
  · obtain ⟨j, h1, h2⟩ := findS_some S k 0 hk
    simp [h1]
theorem look_at {w : World} {b : Nat} {S : List En} (h : MapIs w b S) (k : Int) : (Instr.lookup 230 (.map (some b)) (kv k) false).run Tryz.prog w = .ok (ev (vlK S k)) w := by
  obtain ⟨es, clock, hb, E⟩ := h
  simp only [Instr.lookup, Sem.run_bind, run_underlying Tryz.underlying230, Result.andThen_ok, MapKept.run_getObj_map hb, Sem.run_pure, run_checkK, run_findK k w S es.toList E.ents]
  cases hk : hasK S k
  · obtain ⟨h1, h2⟩ := findS_none S k 0 hk
    simp [h1, h2]
    rfl
  · obtain ⟨j, h1, h2⟩ := findS_some S k 0 hk
    simp [h1]
theorem len_map {w : World} {b : Nat} {S : List En} (h : MapIs w b S) (ty : TypeId) : (Builtin.len_ #[230] ty #[.map (some b)]).run Tryz.prog w = .ok (.int .i64 S.length) w := by
  obtain ⟨es, clock, hb, E⟩ := h
  simp [Builtin.len_, run_underlying Tryz.underlying230, MapKept.run_getObj_map hb, goInt, Result.andThen, E.size]

/-! ### Store, delete, clear -/
theorem map_modify_born (f : MapEntry → MapEntry) (hf : ∀ e, (f e).born = e.born) : ∀ (l : List MapEntry) (j : Nat), (l.modify j f).map (·.born) = l.map (·.born)
  | [], j => by simp
  | e :: l, 0 => by simp [hf]
  | e :: l, j + 1 => by simp [map_modify_born f hf l j]
theorem put_some (k : Int) (y : Int) : ∀ (S : List En) (es : List MapEntry) (i : Nat), es.map (fun e => (e.key, e.val)) = S.map (fun x => (kv x.1, ev x.2)) → hasK S k = true →
    ∃ j v, findS S k i = some (i + j, v) ∧ es[j]?.map (·.key) = some (kv k) ∧ (es.modify j fun e => { e with key := kv k, val := ev y }).map (fun e => (e.key, e.val)) = (putM S k y).map (fun x => (kv x.1, ev x.2))
  | [], _, _, _, h => by simp [hasK] at h
  | x :: S, [], _, h, _ => by simp at h
  | x :: S, e :: es, i, h, hk => by
    simp only [List.map_cons, List.cons.injEq, Prod.mk.injEq] at h
    obtain ⟨⟨h1, h2⟩, h3⟩ := h
    by_cases hx : x.1 = k
    · refine ⟨0, ev x.2, by simp [findS, hx], by simp [h1, hx], ?_⟩
      simp [putM, hx, h3]
    · have hk' : hasK S k = true := by simpa [hasK, hx] using hk
      obtain ⟨j, v, a1, a2, a3⟩ := put_some k y S es (i + 1) h3 hk'
      refine ⟨j + 1, v, by simp only [findS, if_neg hx, a1]; congr 2; omega, by simpa using a2, ?_⟩
      simp [putM, hx, h1, h2, a3]
theorem put_none (k : Int) (y : Int) : ∀ (S : List En), hasK S k = false → putM S k y = S ++ [(k, y)]
  | [], _ => rfl
  | x :: S, h => by
    simp only [hasK, List.any_cons, Bool.or_eq_false_iff, decide_eq_false_iff_not] at h
    simp only [putM, if_neg h.1, List.cons_append, put_none k y S h.2]
theorem del_some (k : Int) : ∀ (S : List En) (es : List MapEntry) (i : Nat), es.map (fun e => (e.key, e.val)) = S.map (fun x => (kv x.1, ev x.2)) → hasK S k = true →
    ∃ j v, findS S k i = some (i + j, v) ∧ j < es.length ∧ (es.eraseIdx j).map (fun e => (e.key, e.val)) = (delM S k).map (fun x => (kv x.1, ev x.2))
  | [], _, _, _, h => by simp [hasK] at h
  | x :: S, [], _, h, _ => by simp at h
  | x :: S, e :: es, i, h, hk => by
    simp only [List.map_cons, List.cons.injEq, Prod.mk.injEq] at h
    obtain ⟨⟨h1, h2⟩, h3⟩ := h
    by_cases hx : x.1 = k
    · refine ⟨0, ev x.2, by simp [findS, hx], by simp, ?_⟩
      simp [delM, hx, h3]
    · have hk' : hasK S k = true := by simpa [hasK, hx] using hk
      obtain ⟨j, v, a1, a2, a3⟩ := del_some k S es (i + 1) h3 hk'
      refine ⟨j + 1, v, by simp only [findS, if_neg hx, a1]; congr 2; omega, by simp; omega, ?_⟩
      simp [delM, hx, h1, h2, a3]
theorem same_kv (k : Int) : Instr.sameBits 10000 (kv k) (kv k) = true := by
  show Instr.sameBits (9999 + 1) (.int .i64 k) (.int .i64 k) = true
  simp [Instr.sameBits]
theorem store_map {w : World} {b : Nat} {S : List En} (h : MapIs w b S) (k : Int) (y : Int) :
    ∃ o, (Instr.mapUpdate 230 (.map (some b)) (kv k) (ev y)).run Tryz.prog w = .ok () (setBlock w b o) ∧ MapIs (setBlock w b o) b (putM S k y) := by
  obtain ⟨es, clock, hb, E⟩ := h
  cases hk : hasK S k
  · have hf := run_findK k w S es.toList E.ents
    rw [(findS_none S k 0 hk).1] at hf
    refine ⟨.map (es.push { key := kv k, val := ev y, born := clock }) (clock + 1), ?_, _, _, heap_setBlock_same hb _, ?_, ?_, ?_⟩
    · simp [Instr.mapUpdate, run_underlying Tryz.underlying230, MapKept.run_getObj_map hb, run_checkK, hf, MapKept.run_setObj_map _ hb, Result.andThen, setBlock]
    · rw [put_none k y S hk]
      simp [E.ents]
    · have h1 := E.rise
      have h2 := E.old
      simp only [Array.toList_push, List.map_append, List.map_cons, List.map_nil, List.pairwise_append, List.pairwise_cons, List.not_mem_nil, false_implies, implies_true, List.Pairwise.nil, and_self, true_and]
      refine ⟨h1, fun a ha c hc => ?_⟩
      obtain ⟨e, he, rfl⟩ := List.mem_map.1 ha
      simp only [List.mem_singleton] at hc
      rw [hc]; exact h2 e he
    · intro e he
      simp only [Array.toList_push, List.mem_append, List.mem_singleton] at he
      rcases he with he | he
      · have := E.old e he; omega
      · rw [he]; exact Nat.lt_succ_self _
  · have hf := run_findK k w S es.toList E.ents
    obtain ⟨j, v, a1, a2, a3⟩ := put_some k y S es.toList 0 E.ents hk
    rw [a1, Nat.zero_add] at hf
    have hkey : ((es[j]?).map (·.key)).getD (kv k) = kv k := by rw [← Array.getElem?_toList, a2]; rfl
    have hl : (es.modify j fun e => { e with key := kv k, val := ev y }).toList = es.toList.modify j fun e => { e with key := kv k, val := ev y } := by simp
    have hbn := map_modify_born (fun e : MapEntry => { e with key := kv k, val := ev y }) (fun _ => rfl) es.toList j
    refine ⟨.map (es.modify j fun e => { e with key := kv k, val := ev y }) clock, ?_, _, _, heap_setBlock_same hb _, ?_, ?_, ?_⟩
    · simp [Instr.mapUpdate, run_underlying Tryz.underlying230, MapKept.run_getObj_map hb, run_checkK, hf, MapKept.run_setObj_map _ hb, Result.andThen, setBlock, hkey, Instr.keyThatStays, same_kv]
    · rw [hl]; exact a3
    · rw [hl, hbn]; exact E.rise
    · intro e he
      have hm : e.born ∈ (es.modify j fun e => { e with key := kv k, val := ev y }).toList.map (·.born) := List.mem_map.2 ⟨e, he, rfl⟩
      rw [hl, hbn] at hm
      obtain ⟨e', he', hb'⟩ := List.mem_map.1 hm
      rw [← hb']; exact E.old e' he'
theorem delete_map {w : World} {b : Nat} {S : List En} (h : MapIs w b S) (k : Int) (hk : hasK S k = true) :
    ∃ o, (∀ ty, (Builtin.delete_ #[230, 3] ty #[.map (some b), kv k]).run Tryz.prog w = .ok (.tuple #[]) (setBlock w b o)) ∧ MapIs (setBlock w b o) b (delM S k) := by
  obtain ⟨es, clock, hb, E⟩ := h
  have hf := run_findK k w S es.toList E.ents
  obtain ⟨j, v, a1, a2, a3⟩ := del_some k S es.toList 0 E.ents hk
  rw [a1, Nat.zero_add] at hf
  have hjs : j < es.size := by simpa using a2
  have hl : (es.eraseIdxIfInBounds j).toList = es.toList.eraseIdx j := by
    unfold Array.eraseIdxIfInBounds
    rw [dif_pos hjs]
    simp
  refine ⟨.map (es.eraseIdxIfInBounds j) clock, ?_, _, _, heap_setBlock_same hb _, ?_, ?_, ?_⟩
  · intro ty
    simp [Builtin.delete_, run_underlying Tryz.underlying230, MapKept.run_getObj_map hb, run_checkK, hf, MapKept.run_setObj_map _ hb, Result.andThen, setBlock]
  · rw [hl]; exact a3
  · rw [hl]
    exact E.rise.sublist ((List.eraseIdx_sublist _ _).map _)
  · intro e he
    rw [hl] at he
    exact E.old e ((List.eraseIdx_sublist _ _).subset he)
theorem clear_map {w : World} {b : Nat} {S : List En} (h : MapIs w b S) :
    ∃ o, (∀ ty, (Builtin.clear_ #[230] ty #[.map (some b)]).run Tryz.prog w = .ok (.tuple #[]) (setBlock w b o)) ∧ MapIs (setBlock w b o) b [] := by
  obtain ⟨es, clock, hb, E⟩ := h
  refine ⟨.map #[] clock, ?_, _, _, heap_setBlock_same hb _, ?_, ?_, ?_⟩
  · intro ty
    simp [Builtin.clear_, run_underlying Tryz.underlying230, MapKept.run_getObj_map hb, MapKept.run_setObj_map _ hb, Result.andThen, setBlock]
  · rfl
  · simp
  · simp
/-- The block of a map that is written: nothing else changes. -/
theorem setBlock_other {w : World} {b : Nat} {S : List En} (h : MapIs w b S) (o : Obj) {i : Nat} (hi : i ≠ b) : (setBlock w b o).heap[i]? = w.heap[i]? := by
  obtain ⟨es, clock, hb, E⟩ := h
  exact heap_setBlock_other hb _ hi
theorem setBlock_size (w : World) (b : Nat) (o : Obj) : (setBlock w b o).heap.size = w.heap.size := by simp [setBlock]
theorem below_setBlock {B : Nat} {a w : World} {b : Nat} (h : Below B a w) (hb : B ≤ b) (o : Obj) : Below B a (setBlock w b o) :=
  ⟨h.os, h.tape, h.output, by rw [setBlock_size]; exact h.size, fun k hk => by
    have hne : b ≠ k := by omega
    have : (setBlock w b o).heap[k]? = w.heap[k]? := by simp [setBlock, hne]
    rw [this]; exact h.block k hk⟩
end Go.Proofs.YtcgekcjnaadcmaaGreatDoor.Phw

/- A range over a map from ints to ints, in whatever order (written out of tlb's TlbB). -/
namespace Go.Proofs.YtcgekcjnaadcmaaGreatDoor.Phw
open Go.Proofs.YtcgekcjnaadcmaaGreatDoor.Pbase
open Go.RowKit Go.ChangeMaps
set_option linter.unusedVariables false

/-- What rises has no two alike. -/
theorem rise_ne : ∀ {l : List Nat}, l.Pairwise (· < ·) → l.Pairwise (· ≠ ·)
  | [], _ => List.Pairwise.nil
  | a :: l, h => List.pairwise_cons.2 ⟨fun b hb => Nat.ne_of_lt ((List.pairwise_cons.1 h).1 b hb), rise_ne (List.pairwise_cons.1 h).2⟩
/-! ### The range -/
/-- Block r is an iterator over the map in block b, which holds S; D: the entries that it has handed out, in that order. -/
def RngIs (w : World) (b r : Nat) (S D : List En) : Prop :=
  ∃ es clock since seen c0, w.heap[b]? = some (.map es clock) ∧ Ents es clock S ∧ w.heap[r]? = some (.mapIter (some b) since seen c0) ∧ (∀ x ∈ es.toList, x.born < since) ∧ since ≤ c0 ∧ since ≤ clock ∧
    ∃ Z A B : List (MapEntry × En), Z.map Prod.fst = es.toList ∧ Z.map Prod.snd = S ∧ (∀ z ∈ Z, z.1.key = kv z.2.1 ∧ z.1.val = ev z.2.2) ∧ Z.Perm (A ++ B) ∧ seen.toList = A.map (fun z => z.1.born) ∧ D = A.map Prod.snd
theorem zip_ents : ∀ (l : List MapEntry) (S : List En), l.map (fun e => (e.key, e.val)) = S.map (fun x => (kv x.1, ev x.2)) → ∃ Z : List (MapEntry × En), Z.map Prod.fst = l ∧ Z.map Prod.snd = S ∧ ∀ z ∈ Z, z.1.key = kv z.2.1 ∧ z.1.val = ev z.2.2
  | [], [], _ => ⟨[], rfl, rfl, by simp⟩
  | [], _ :: _, h => by simp at h
  | _ :: _, [], h => by simp at h
  | e :: l, x :: S, h => by
    simp only [List.map_cons, List.cons.injEq, Prod.mk.injEq] at h
    obtain ⟨Z, h1, h2, h3⟩ := zip_ents l S h.2
    refine ⟨(e, x) :: Z, by simp [h1], by simp [h2], ?_⟩
    intro z hz
    rcases List.mem_cons.1 hz with rfl | hz
    · exact h.1
    · exact h3 z hz
theorem RngIs.map {w : World} {b r : Nat} {S D : List En} (h : RngIs w b r S D) : MapIs w b S := by
  obtain ⟨es, clock, since, seen, c0, h1, h2, _⟩ := h
  exact ⟨es, clock, h1, h2⟩
theorem RngIs.lt {w : World} {b r : Nat} {S D : List En} (h : RngIs w b r S D) : r < w.heap.size := by
  obtain ⟨es, clock, since, seen, c0, h1, h2, h3, _⟩ := h
  exact (Array.getElem?_eq_some_iff.1 h3).1
theorem RngIs.ne {w : World} {b r : Nat} {S D : List En} (h : RngIs w b r S D) : b ≠ r := by
  obtain ⟨es, clock, since, seen, c0, h1, h2, h3, _⟩ := h
  intro e
  rw [e, h3] at h1
  cases h1
theorem RngIs.on {w w' : World} {b r : Nat} {S D : List En} (h : RngIs w b r S D) (hb : w'.heap[b]? = w.heap[b]?) (hr : w'.heap[r]? = w.heap[r]?) : RngIs w' b r S D := by
  obtain ⟨es, clock, since, seen, c0, h1, h2, h3, h4⟩ := h
  exact ⟨es, clock, since, seen, c0, hb.trans h1, h2, hr.trans h3, h4⟩
theorem rangeLeft_on {w w' : World} {b r : Nat} (hb : w'.heap[b]? = w.heap[b]?) (hr : w'.heap[r]? = w.heap[r]?) : w'.rangeLeft b r = w.rangeLeft b r := by
  simp only [World.rangeLeft, hb, hr]
theorem RngIs.alloc {w : World} {b r : Nat} {S D : List En} (h : RngIs w b r S D) (o : Obj) : RngIs (w.alloc o) b r S D := h.on (Below.heap_alloc w o b h.map.lt) (Below.heap_alloc w o r h.lt)
theorem RngIs.left_alloc {w : World} {b r : Nat} {S D : List En} (h : RngIs w b r S D) (o : Obj) : (w.alloc o).rangeLeft b r = w.rangeLeft b r := rangeLeft_on (Below.heap_alloc w o b h.map.lt) (Below.heap_alloc w o r h.lt)
theorem RngIs.start {w : World} {b : Nat} {S : List En} (h : MapIs w b S) :
    ∃ o, (Instr.range 230 (.map (some b))).run Tryz.prog w = .ok (.pointer (some ⟨w.heap.size, 0, none⟩)) (w.alloc o) ∧ RngIs (w.alloc o) b w.heap.size S [] := by
  have hlt := h.lt
  obtain ⟨es, clock, hb, E⟩ := h
  obtain ⟨Z, z1, z2, z3⟩ := zip_ents es.toList S E.ents
  refine ⟨_, run_range_map w 230 3 3 b es clock Tryz.underlying230 hb, es, clock, clock, #[], clock, (MapKept.heap_alloc w _).2 b hlt |>.trans hb, E, (MapKept.heap_alloc w _).1, E.old, Nat.le_refl _, Nat.le_refl _, Z, [], Z, z1, z2, z3, List.Perm.refl _, rfl, rfl⟩
/-- The step: all was handed out; or one more comes. -/
theorem RngIs.next {w : World} {b r : Nat} {S D : List En} (h : RngIs w b r S D) (ty : TypeId) :
    (S.Perm D ∧ (Instr.next (.pointer (some ⟨r, 0, none⟩)) false ty).run Tryz.prog w = .ok (.tuple #[.bool false]) w) ∨
    ∃ x w', x ∈ S ∧ (∃ R, S.Perm (D ++ x :: R)) ∧ (Instr.next (.pointer (some ⟨r, 0, none⟩)) false ty).run Tryz.prog w = .ok (.tuple #[.bool true, kv x.1, ev x.2]) w' ∧ RngIs w' b r S (D ++ [x]) ∧ w'.rangeLeft b r < w.rangeLeft b r ∧
      (Instr.entry (.pointer (some ⟨r, 0, none⟩))).run Tryz.prog w' = .ok (.tuple #[kv x.1, ev x.2]) w' ∧ w'.heap.size = w.heap.size ∧ (∀ i, i ≠ r → w'.heap[i]? = w.heap[i]?) ∧ ∀ B, B ≤ r → Below B w w' := by
  have hne := h.ne
  obtain ⟨es, clock, since, seen, c0, hb, E, hr, hold, hsc, hsk, Z, A, B, z1, z2, z3, z4, z5, z6⟩ := h
  have nd : (Z.map fun z => z.1.born).Nodup := by
    have e1 : (Z.map fun z => z.1.born) = es.toList.map (·.born) := by rw [← z1]; simp
    rw [e1]
    exact rise_ne E.rise
  have nd2 : (A.map (fun z => z.1.born) ++ B.map fun z => z.1.born).Nodup := by
    have := (z4.map fun z => z.1.born).nodup_iff.1 nd
    simpa using this
  have hB : ∀ z ∈ B, seen.contains z.1.born = false := fun z hz => by
    cases hc : seen.contains z.1.born
    · rfl
    · exfalso
      have h1 : z.1.born ∈ A.map fun z => z.1.born := by
        rw [← z5]
        simpa using hc
      exact (List.nodup_append.1 nd2).2.2 _ h1 _ (List.mem_map.2 ⟨z, hz, rfl⟩) rfl
  rcases run_next_at (P := Tryz.prog) w ty r b since c0 seen es clock hr hb hold hsc with ⟨h0, hrun⟩ | ⟨e, he, w1, hal, hrun⟩
  · refine Or.inl ⟨?_, hrun⟩
    have hBn : B = [] := by
      cases B with
      | nil => rfl
      | cons z B =>
        have hz : z ∈ Z := z4.mem_iff.2 (by simp)
        have : z.1 ∈ es.toList := by rw [← z1]; exact List.mem_map.2 ⟨z, hz, rfl⟩
        have h1 := all_seen es seen h0 z.1 this
        rw [hB z (by simp)] at h1
        cases h1
    subst hBn
    rw [← z2, z6]
    simpa using z4.map Prod.snd
  · obtain ⟨hem, hes⟩ := mem_left he
    obtain ⟨z, hz, rfl⟩ : ∃ z ∈ Z, z.1 = e := by rw [← z1] at hem; simpa using hem
    have hzB : z ∈ B := by
      rcases List.mem_append.1 (z4.mem_iff.1 hz) with hA | hB'
      · exfalso
        have h1 : z.1.born ∈ seen.toList := by rw [z5]; exact List.mem_map.2 ⟨z, hA, rfl⟩
        have h2 : seen.contains z.1.born = true := by simpa using h1
        rw [hes] at h2
        cases h2
      · exact hB'
    obtain ⟨B1, B2, rfl⟩ := List.append_of_mem hzB
    obtain ⟨k1, k2⟩ := z3 z hz
    have hr1 : w1.heap[r]? = some (.mapIter (some b) since seen c0) := by rcases hal with rfl | rfl <;> exact hr
    have hb1 : w1.heap[b]? = some (.map es clock) := by rcases hal with rfl | rfl <;> exact hb
    have hlt : r < w1.heap.size := (Array.getElem?_eq_some_iff.1 hr1).1
    have hset1 : (setBlock w1 r (.mapIter (some b) since (seen.push z.1.born) clock)).heap[r]? = some (.mapIter (some b) since (seen.push z.1.born) clock) := by simp [setBlock, hlt]
    have hset2 : ∀ i, i ≠ r → (setBlock w1 r (.mapIter (some b) since (seen.push z.1.born) clock)).heap[i]? = w1.heap[i]? := fun i hi => by simp [setBlock, Ne.symm hi]
    have hb' := (hset2 b hne).trans hb1
    have hall : ∀ i, i ≠ r → (setBlock w1 r (.mapIter (some b) since (seen.push z.1.born) clock)).heap[i]? = w.heap[i]? := fun i hi => (hset2 i hi).trans (by rcases hal with rfl | rfl <;> rfl)
    have hsz : (setBlock w1 r (.mapIter (some b) since (seen.push z.1.born) clock)).heap.size = w.heap.size := by rw [setBlock_size]; rcases hal with rfl | rfl <;> rfl
    have hperm : (B1 ++ z :: B2).Perm (z :: (B1 ++ B2)) := List.perm_middle
    rw [k1, k2] at hrun
    refine Or.inr ⟨z.2, _, by rw [← z2]; exact List.mem_map.2 ⟨z, hz, rfl⟩, ⟨(B1 ++ B2).map Prod.snd, ?_⟩, hrun, ⟨es, clock, since, seen.push z.1.born, clock, hb', E, hset1, hold, hsk, hsk, Z, A ++ [z], B1 ++ B2, z1, z2, z3, ?_, by simp [z5], by simp [z6]⟩, ?_, ?_, hsz, hall, ?_⟩
    · rw [← z2, z6]
      have := (z4.trans (List.Perm.append_left A hperm)).map Prod.snd
      simpa using this
    · have := z4.trans (List.Perm.append_left A hperm)
      simpa using this
    · simp only [World.rangeLeft, hb', hset1, hb, hr]
      exact left_shrinks es seen z.1 he
    · have := run_entry_at (P := Tryz.prog) _ r b since seen es clock z.1 hset1 hb' (by rw [← z1]; exact List.mem_map.2 ⟨z, hz, rfl⟩) (rise_ne E.rise)
      rw [k1, k2] at this
      exact this
    · intro N hN
      have hos : w1.os = w.os ∧ w1.tape = w.tape ∧ w1.output = w.output := by rcases hal with rfl | rfl <;> exact ⟨rfl, rfl, rfl⟩
      exact ⟨hos.1, hos.2.1, hos.2.2, Nat.le_of_eq hsz.symm, fun i hi => hall i (by omega)⟩
section
variable (w : World) {ops : Array Oper} {rest : List Oper} {o : Oper} {a : Act} {Q : Exit → Act → World → Prop}
theorem wpList_range_map (hg : o.guard = none) (m : Operand) (hop : o.op = Op.range 230 m) (b : Nat) (S : List En) (hm : a.eval m = .map (some b)) (h : MapIs w b S)
    (hK : ∀ w', RngIs w' b w.heap.size S [] → Below w.heap.size w w' → w'.heap.size = w.heap.size + 1 → wpList Tryz.prog ops Q rest (a.put o.dst (.pointer (some ⟨w.heap.size, 0, none⟩))) w') :
    wpList Tryz.prog ops Q (o :: rest) a w := by
  refine wpList_plain hg fun K' hK' => ?_
  obtain ⟨o', hrun, h1⟩ := RngIs.start h
  unfold Oper.wp
  simp [execOp, hop, hm, hrun, Result.andThen]
  exact hK' _ _ (hK _ h1 (bal (Below.refl _ _) _) (by simp))
theorem wpList_next_map (hg : o.guard = none) (it : Operand) (hop : o.op = Op.next it false) (b r : Nat) (S D : List En) (hit : a.eval it = .pointer (some ⟨r, 0, none⟩)) (h : RngIs w b r S D)
    (hDone : S.Perm D → wpList Tryz.prog ops Q rest (a.put o.dst (.tuple #[.bool false])) w)
    (hMore : ∀ (k v : Int) (w' : World), Hid ((∃ R, S.Perm (D ++ (k, v) :: R)) ∧ RngIs w' b r S (D ++ [(k, v)]) ∧ w'.rangeLeft b r < w.rangeLeft b r ∧ w'.heap.size = w.heap.size ∧ (∀ i, i ≠ r → w'.heap[i]? = w.heap[i]?) ∧ ∀ B, B ≤ r → Below B w w') →
      (Instr.entry (.pointer (some ⟨r, 0, none⟩))).run Tryz.prog w' = .ok (.tuple #[.int .i64 k, .int .i64 v]) w' →
      wpList Tryz.prog ops Q rest (a.put o.dst (.tuple #[.bool true, .int .i64 k, .int .i64 v])) w') :
    wpList Tryz.prog ops Q (o :: rest) a w := by
  refine wpList_plain hg fun K' hK' => ?_
  unfold Oper.wp
  rcases h.next o.type with ⟨h0, hrun⟩ | ⟨x, w', hx, hR, hrun, h1, h2, h3, h4, h5, h6⟩
  · simp [execOp, hop, hit, hrun, Result.andThen]
    exact hK' _ _ (hDone h0)
  · obtain ⟨k, v⟩ := x
    simp only [kv, ev] at hrun h3
    simp [execOp, hop, hit, hrun, Result.andThen]
    exact hK' _ _ (hMore k v w' ⟨hR, h1, h2, h4, h5, h6⟩ h3)
end
end Go.Proofs.YtcgekcjnaadcmaaGreatDoor.Phw

/- Lines told by the pairs of a map: what put and delete make of them, how many lead to a frame. No program is named here. -/
namespace Go.Proofs.YtcgekcjnaadcmaaGreatDoor.Phw
open Go.Proofs.YtcgekcjnaadcmaaGreatDoor.Pbase
open Go.RowKit
set_option linter.unusedVariables false

/-- The pairs of L are the lines of S that lead somewhere. -/
structure Rl (L : List En) (S : Nat → Int) : Prop where
  nd : (L.map Prod.fst).Nodup
  iff : ∀ k v, (k, v) ∈ L ↔ (0 ≤ k ∧ k < 8) ∧ 0 ≤ v ∧ S k.toNat = v + 1
theorem rl_nil : Rl [] fun _ => 0 := ⟨by simp, fun k v => by
  constructor
  · intro h
    cases h
  · rintro ⟨_, h1, h2⟩
    exfalso
    have h2' : (0 : Int) = v + 1 := h2
    omega⟩
theorem has_iff (L : List En) (k : Int) : hasK L k = true ↔ ∃ v, (k, v) ∈ L := by
  unfold hasK
  rw [List.any_eq_true]
  constructor
  · rintro ⟨⟨a, v⟩, h, e⟩
    have : a = k := by simpa using e
    subst this
    exact ⟨v, h⟩
  · rintro ⟨v, h⟩
    exact ⟨(k, v), h, by simp⟩
theorem val_of : ∀ {L : List En} {k v : Int}, (L.map Prod.fst).Nodup → (k, v) ∈ L → vlK L k = v
  | [], _, _, _, h => by cases h
  | x :: r, k, v, hn, h => by
    simp only [List.map_cons, List.nodup_cons] at hn
    rcases List.mem_cons.1 h with e | h
    · subst e
      simp [vlK]
    · have hne : x.1 ≠ k := fun e => hn.1 (List.mem_map.2 ⟨(k, v), h, e.symm⟩)
      simp only [vlK, if_neg hne]
      exact val_of hn.2 h
theorem del_iff : ∀ {L : List En} (k : Int), (L.map Prod.fst).Nodup → (∀ a v, (a, v) ∈ delM L k ↔ (a, v) ∈ L ∧ a ≠ k) ∧ (delM L k).Sublist L
  | [], k, _ => ⟨fun a v => by simp [delM], by simp [delM]⟩
  | x :: r, k, hn => by
    simp only [List.map_cons, List.nodup_cons] at hn
    by_cases hx : x.1 = k
    · simp only [delM, if_pos hx]
      refine ⟨fun a v => ?_, List.sublist_cons_self _ _⟩
      constructor
      · intro h
        exact ⟨List.mem_cons_of_mem _ h, fun e => hn.1 (List.mem_map.2 ⟨(a, v), h, by rw [hx]; exact e⟩)⟩
      · rintro ⟨h, hne⟩
        rcases List.mem_cons.1 h with e | h
        · exfalso
          rw [← e] at hx
          exact hne hx
        · exact h
    · simp only [delM, if_neg hx]
      obtain ⟨h1, h2⟩ := del_iff (L := r) k hn.2
      refine ⟨fun a v => ?_, h2.cons_cons x⟩
      rw [List.mem_cons, List.mem_cons, h1]
      constructor
      · rintro (e | ⟨h, hne⟩)
        · exact ⟨.inl e, by rw [← e] at hx; exact hx⟩
        · exact ⟨.inr h, hne⟩
      · rintro ⟨e | h, hne⟩
        · exact .inl e
        · exact .inr ⟨h, hne⟩
section
variable {L : List En} {S : Nat → Int}
theorem Rl.has (h : Rl L S) (hS : Gd S) {k : Nat} (hk : k < 8) : hasK L k = decide (S k ≠ 0) := by
  have hg := hS k
  by_cases h0 : S k = 0
  · rw [show hasK L k = false from Bool.eq_false_iff.2 fun e => ?_]
    · simp [h0]
    · obtain ⟨v, hv⟩ := (has_iff L k).1 e
      obtain ⟨_, h1, h2⟩ := (h.iff k v).1 hv
      rw [Int.toNat_natCast] at h2
      omega
  · have : (((k : Nat) : Int), S k - 1) ∈ L := (h.iff k (S k - 1)).2 ⟨by omega, by omega, by rw [Int.toNat_natCast]; omega⟩
    rw [(has_iff L k).2 ⟨_, this⟩]
    simp [h0]
theorem Rl.val (h : Rl L S) (hS : Gd S) {k : Nat} (hk : k < 8) (h0 : S k ≠ 0) : vlK L k = S k - 1 := by
  have hg := hS k
  exact val_of h.nd ((h.iff k (S k - 1)).2 ⟨by omega, by omega, by rw [Int.toNat_natCast]; omega⟩)
theorem Rl.put (h : Rl L S) {k : Nat} (hk : k < 8) (h0 : S k = 0) {f : Int} (hf : 0 ≤ f) : Rl (putM L k f) (upL S k (f + 1)) := by
  have hno : hasK L k = false := Bool.eq_false_iff.2 fun e => by
    obtain ⟨v, hv⟩ := (has_iff L k).1 e
    obtain ⟨_, h1, h2⟩ := (h.iff k v).1 hv
    rw [Int.toNat_natCast] at h2
    omega
  rw [put_none k f L hno]
  refine ⟨?_, fun a v => ?_⟩
  · rw [List.map_append, List.nodup_append]
    refine ⟨h.nd, by simp, fun a ha c hc => ?_⟩
    simp only [List.map_cons, List.map_nil, List.mem_singleton] at hc
    rw [hc]
    rintro rfl
    obtain ⟨⟨a', v⟩, hm, e⟩ := List.mem_map.1 ha
    have e' : a' = (k : Int) := e
    rw [e'] at hm
    rw [(has_iff L k).2 ⟨v, hm⟩] at hno
    cases hno
  · rw [List.mem_append, h.iff, List.mem_singleton]
    constructor
    · rintro (⟨h1, h2, h3⟩ | e)
      · have hne : a.toNat ≠ k := fun e => by rw [e] at h3; omega
        exact ⟨h1, h2, by rw [up_out hne]; exact h3⟩
      · simp only [Prod.mk.injEq] at e
        obtain ⟨rfl, rfl⟩ := e
        exact ⟨by omega, hf, by rw [Int.toNat_natCast, up_own]⟩
    · rintro ⟨h1, h2, h3⟩
      by_cases e : a.toNat = k
      · right
        rw [e, up_own] at h3
        have e1 : a = (k : Int) := by omega
        have e2 : v = f := by omega
        rw [e1, e2]
      · left
        rw [up_out e] at h3
        exact ⟨h1, h2, h3⟩
theorem Rl.del (h : Rl L S) {k : Nat} : Rl (delM L k) (upL S k 0) := by
  obtain ⟨h1, h2⟩ := del_iff (L := L) k h.nd
  refine ⟨h.nd.sublist (h2.map _), fun a v => ?_⟩
  rw [h1, h.iff]
  constructor
  · rintro ⟨⟨q1, q2, q3⟩, hne⟩
    exact ⟨q1, q2, by rw [up_out (by omega)]; exact q3⟩
  · rintro ⟨q1, q2, q3⟩
    have hne : a.toNat ≠ k := fun e => by rw [e, up_own] at q3; omega
    rw [up_out hne] at q3
    exact ⟨⟨q1, q2, q3⟩, by omega⟩
end
/-! ### how many lead there -/
def cntL (L : List En) (f : Int) : Nat := (L.filter fun x => decide (x.2 = f)).length
theorem cnt_nil (f : Int) : cntL [] f = 0 := rfl
theorem cnt_yes (L : List En) {k f : Int} : cntL (L ++ [(k, f)]) f = cntL L f + 1 := by simp [cntL]
theorem cnt_no (L : List En) {k v f : Int} (h : v ≠ f) : cntL (L ++ [(k, v)]) f = cntL L f := by simp [cntL, h]
theorem cnt_perm {L D : List En} (h : L.Perm D) (f : Int) : cntL L f = cntL D f := (h.filter _).length_eq
def indK (L : List En) (f : Int) : Nat → Nat
  | 0 => 0
  | m + 1 => indK L f m + if ((m : Int), f) ∈ L then 1 else 0
theorem ind_nil (f : Int) (m : Nat) : indK [] f m = 0 := by
  induction m with
  | zero => rfl
  | succ m ih => unfold indK; rw [ih, if_neg (by simp)]
theorem ind_cons (x : En) (r : List En) (f : Int) (h0 : 0 ≤ x.1) (hn : ∀ v, (x.1, v) ∉ r) (m : Nat) : indK (x :: r) f m = indK r f m + if x.1.toNat < m ∧ x.2 = f then 1 else 0 := by
  induction m with
  | zero => simp [indK]
  | succ m ih =>
    unfold indK
    rw [ih]
    by_cases e : x.1 = (m : Int)
    · have e' : x.1.toNat = m := by omega
      have hr : ((m : Int), f) ∉ r := by rw [← e]; exact hn f
      rw [if_neg hr, if_neg (by omega)]
      by_cases hf : x.2 = f
      · have hx : x = ((m : Int), f) := Prod.ext e hf
        rw [if_pos (by rw [hx]; exact List.mem_cons_self), if_pos ⟨by omega, hf⟩]
      · rw [if_neg (fun h => by
          rcases List.mem_cons.1 h with h | h
          · exact hf (by rw [← h])
          · exact hr h), if_neg (fun h => hf h.2)]
    · have hx : (((m : Int), f) ∈ x :: r) ↔ (((m : Int), f) ∈ r) := by
        rw [List.mem_cons]
        constructor
        · rintro (h | h)
          · exact absurd (by rw [← h]) e
          · exact h
        · exact .inr
      have hlt : (x.1.toNat < m + 1 ∧ x.2 = f) ↔ (x.1.toNat < m ∧ x.2 = f) := by omega
      simp only [hx, hlt]
      omega
theorem cnt_ind (f : Int) : ∀ (L : List En), (L.map Prod.fst).Nodup → (∀ k v, (k, v) ∈ L → 0 ≤ k ∧ k < 8) → cntL L f = indK L f 8
  | [], _, _ => by rw [ind_nil]; rfl
  | x :: r, hn, hb => by
    simp only [List.map_cons, List.nodup_cons] at hn
    have hx := hb x.1 x.2 List.mem_cons_self
    rw [ind_cons x r f hx.1 (fun v h => hn.1 (List.mem_map.2 ⟨(x.1, v), h, rfl⟩)), ← cnt_ind f r hn.2 fun k v h => hb k v (List.mem_cons_of_mem _ h)]
    have hlt : x.1.toNat < 8 := by omega
    unfold cntL
    by_cases hf : x.2 = f
    · rw [if_pos ⟨hlt, hf⟩]
      simp [hf]
    · rw [if_neg (fun h => hf h.2)]
      simp [hf]
theorem Rl.cnt {L : List En} {S : Nat → Int} (h : Rl L S) (hS : Gd S) (f : Int) : cntL L f = hsK S f 8 := by
  rw [cnt_ind f L h.nd fun k v hm => ((h.iff k v).1 hm).1]
  have key : ∀ m, m ≤ 8 → indK L f m = hsK S f m := fun m => by
    induction m with
    | zero => intro _; rfl
    | succ m ih =>
      intro hm
      have hg := hS m
      unfold indK hsK
      rw [ih (by omega)]
      have e : (((m : Nat) : Int), f) ∈ L ↔ okG f = true ∧ S m = f + 1 := by
        rw [h.iff, okG_iff, Int.toNat_natCast]
        omega
      simp only [e]
  exact key 8 (Nat.le_refl _)
end Go.Proofs.YtcgekcjnaadcmaaGreatDoor.Phw

/- What the walks ask of the program of layer 23 (Pg), and lines that it made; awake. -/
namespace Go.Proofs.YtcgekcjnaadcmaaGreatDoor.Phw
open Go.Proofs.YtcgekcjnaadcmaaGreatDoor.Pbase
open Go.RowKit
set_option linter.unusedVariables false

def I64 (z : Int) : Prop := -9223372036854775808 ≤ z ∧ z ≤ 9223372036854775807
/-- Lines that were made since the world w. -/
structure Hp (LI : World → Nat → Nat → (Nat → Int) → Prop) (w W : World) (p b : Nat) (S : Nat → Int) : Prop where
  li : LI W p b S
  gd : Gd S
  ge : w.heap.size ≤ p ∧ w.heap.size ≤ b
  below : Below w.heap.size w W
section
variable {LI : World → Nat → Nat → (Nat → Int) → Prop} {w W W' : World} {p b : Nat} {S S' : Nat → Int}
theorem Hp.turn (h : Hp LI w W p b S) (hl : LI W' p b S') (hg : Gd S') (hB : But b W W') : Hp LI w W' p b S' := ⟨hl, hg, h.ge, h.below.trans (hB.below h.ge.2 h.below.size)⟩
end
end Go.Proofs.YtcgekcjnaadcmaaGreatDoor.Phw

/- Lines in a map: what each call of package hw answers and does -/
namespace Go.Proofs.YtcgekcjnaadcmaaGreatDoor.Phw
open Go.Proofs.YtcgekcjnaadcmaaGreatDoor.Pbase
open Go.RowKit Go.ChangeMaps
set_option linter.unusedVariables false

structure LinesIs (w : World) (p b : Nat) (S : Nat → Int) : Prop where
  row : w.heap[p]? = some (.cells #[.map (some b)] 232 (0, 0))
  ex : ∃ L, MapIs w b L ∧ Rl L S
section
variable {w w' : World} {p b : Nat} {S S' : Nat → Int}
theorem LinesIs.c0 (h : LinesIs w p b S) : w.cell? ⟨p, 0, none⟩ = some (.map (some b)) := by
  rw [cell_of_row w p 0 _ _ _ h.row]; rfl
theorem LinesIs.lt (h : LinesIs w p b S) : p < w.heap.size ∧ b < w.heap.size := by
  obtain ⟨L, h1, _⟩ := h.ex
  exact ⟨(Array.getElem?_eq_some_iff.1 h.row).1, h1.lt⟩
theorem LinesIs.on (h : LinesIs w p b S) (hp : w'.heap[p]? = w.heap[p]?) (hb : w'.heap[b]? = w.heap[b]?) : LinesIs w' p b S := by
  obtain ⟨L, h1, h2⟩ := h.ex
  exact ⟨hp.trans h.row, L, h1.on hb, h2⟩
theorem LinesIs.ne (h : LinesIs w p b S) : p ≠ b := by
  rintro rfl
  obtain ⟨L, ⟨es, clock, h1, _⟩, _⟩ := h.ex
  rw [h.row] at h1
  cases h1
theorem LinesIs.turn (h : LinesIs w p b S) {o : Obj} {L : List En} (hm : MapIs (setBlock w b o) b L) (hr : Rl L S') : LinesIs (setBlock w b o) p b S' ∧ But b w (setBlock w b o) := by
  obtain ⟨L0, h1, _⟩ := h.ex
  refine ⟨⟨(setBlock_other h1 o h.ne).trans h.row, L, hm, hr⟩, rfl, rfl, rfl, Nat.le_of_eq (setBlock_size _ _ _).symm, fun i _ hi => setBlock_other h1 o hi⟩
end
theorem mapIs_new (w : World) : MapIs (w.alloc (.map #[] 0)) w.heap.size [] := ⟨#[], 0, (MapKept.heap_alloc w _).1, rfl, by simp, by simp⟩
set_option maxRecDepth 100000 in
theorem made_any (p b : Nat) (S : Nat → Int) (w : World) (h : LinesIs w p b S) : Calls Tryz.prog 164 #[.pointer (some ⟨p, 0, none⟩)] w fun e w' => e = .returned (.bool false) ∧ w' = w := by
  have c0 := h.c0
  have h1 : ∀ w, (binOp .eql 230 (.map (some b)) (.map none)).run Tryz.prog w = .ok (.bool false) w := fun _ => by kernel_rfl
  go_enter Tryz.func164, Tryz.ntmps164
  go_wp2
  go_ret
  exact ⟨rfl, rfl⟩
set_option maxRecDepth 100000 in
theorem new_any (w : World) : Calls Tryz.prog 65 #[] w fun e w' => ∃ p b, e = .returned (.pointer (some ⟨p, 0, none⟩)) ∧ LinesIs w' p b (fun _ => 0) ∧ (w.heap.size ≤ p ∧ w.heap.size ≤ b) ∧ Below w.heap.size w w' := by
  have hmm := @run_makeMap Tryz.prog
  go_enter Tryz.func65, Tryz.ntmps65
  go_wp2
  go_ret
  refine ⟨w.heap.size + 1, w.heap.size, rfl, ⟨?_, [], (mapIs_new w).on (Below.heap_alloc _ _ _ (by simp)), rl_nil⟩, ⟨by omega, by omega⟩, bal (bal (Below.refl _ _) _) _⟩
  have := heap_alloc_new (w.alloc (.map #[] 0)) (.cells #[.map (some w.heap.size)] 232)
  simpa using this
end Go.Proofs.YtcgekcjnaadcmaaGreatDoor.Phw

/- Detach and Has of package hw; all contracts together. -/
namespace Go.Proofs.YtcgekcjnaadcmaaGreatDoor.Phw
open Go.Proofs.YtcgekcjnaadcmaaGreatDoor.Pbase
open Go.RowKit Go.ChangeMaps
set_option linter.unusedVariables false

theorem cnt_le (L : List En) (f : Int) : cntL L f ≤ L.length := List.length_filter_le _ _
theorem cnt_app (L R : List En) (f : Int) : cntL L f ≤ cntL (L ++ R) f := by simp [cntL]
set_option maxRecDepth 100000 in
set_option maxHeartbeats 2000000 in
theorem has_any (w : World) (p b : Nat) (S : Nat → Int) (f : Int) (h : LinesIs w p b S) (hS : Gd S) : Calls Tryz.prog 123 #[.pointer (some ⟨p, 0, none⟩), .int .i64 f] w fun e w' => e = .returned (.int .i64 (hsN S f)) ∧ Below w.heap.size w w' := by
  have HM := rhide (made_any p b S w h)
  have c0 := h.c0
  obtain ⟨L, hm, hr⟩ := h.ex
  have hc := hr.cnt hS f
  have h8 := hsK_le S f 8
  rw [← hc] at h8
  have H := rhide hm
  have HC : Hid (hsN S f = (cntL L f : Nat)) := by
    show hsN S f = (cntL L f : Nat)
    unfold hsN
    rw [hc]
  have H8 := rhide h8
  clear h8
  clear hm hr hc hS h
  go_enter Tryz.func123, Tryz.ntmps123
  go_wp2_with (first
    | (go_at_call 164; refine HM.out.mono ?_; rintro e1 w1 ⟨rfl, hw⟩; subst w1; clear HM)
    | (at_range; refine wpList_range_map _ rfl _ rfl b L rfl H.out ?_; intro w3 hrg hbl hsz; have HR := rhide hrg; have HB3 := rhide hbl; clear hrg hbl hsz)
    | fail)
  go_frame
  go_loopw [5] (fun n wr => ∃ D, n = .int .i64 (cntL D f : Nat) ∧ RngIs wr b w.heap.size L D ∧ Below w.heap.size w wr ∧ ∃ R, L.Perm (D ++ R)) (fun _ wr => wr.rangeLeft b w.heap.size)
  case atStart => exact ⟨[], rfl, HR.out, HB3.out, L, List.Perm.refl _⟩
  case round =>
    obtain ⟨D, rfl, hR, hB, hP⟩ := hrel
    have HR4 := rhide hR
    have HB4 := rhide hB
    have HP := rhide hP
    have hn : cntL D f ≤ 8 := by
      obtain ⟨R, hR⟩ := HP.out
      have h1 := cnt_app D R f
      rw [← cnt_perm hR f] at h1
      exact Nat.le_trans h1 H8.out
    clear hR hB hP HR HB3
    have d1 : wrap64 ((cntL D f : Nat) + 1 : Int) = (cntL D f : Nat) + 1 := by unfold wrap64; omega
    go_wp2_with (first
      | (at_next; refine wpList_next_map _ rfl _ rfl b w.heap.size L D rfl HR4.out (fun hD => ?_) (fun k v w4 HN hen => ?_))
      | fail)
    · go_ret
      exact ⟨by rw [HC.out, cnt_perm hD]; rfl, HB4.out⟩
    · rename_i hv
      have hv' : v = f := by simpa using hv
      subst hv'
      obtain ⟨⟨R, hR⟩, g1, g2, g3, g4, g5⟩ := HN.out
      exact ⟨⟨D ++ [(k, v)], by rw [cnt_yes D]; rfl, g1, HB4.out.trans (g5 _ (Nat.le_refl _)), R, by simpa using hR⟩, g2⟩
    · rename_i hv
      have hv' : v ≠ f := by simpa using hv
      obtain ⟨⟨R, hR⟩, g1, g2, g3, g4, g5⟩ := HN.out
      exact ⟨⟨D ++ [(k, v)], by rw [cnt_no D hv'], g1, HB4.out.trans (g5 _ (Nat.le_refl _)), R, by simpa using hR⟩, g2⟩
end Go.Proofs.YtcgekcjnaadcmaaGreatDoor.Phw
