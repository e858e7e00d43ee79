import Derived.WalkKit
import Derived.Below
import Derived.Laws.Rows
import Derived.Laws.CopyRow
import Derived.Deep.MidRow
import Derived.Laws.CopyOwn
import Derived.OpenShut
import Derived.Deep.QuietTactic
import Derived.BigQuiet
import Derived.ChangeOld
import Derived.Test.YtkkclcihjojphaaGreatDoorRows
import Derived.ProofKit
import Derived.Carry
import Derived.LaidMore
import Derived.RowKit3
import Derived.Maps.RangeRun
import Derived.Laws.StructEq
import Derived.Maps.OwnSet
import Derived.Outline
import Derived.Deep.RegionHeld3
import Derived.Deep.RegionWith
import Derived.OwnWalk
import Derived.ChangeKeysEq
import Derived.Deep.WholeRow
set_option linter.unusedVariables false
set_option linter.unusedSimpArgs false
set_option maxRecDepth 100000
set_option maxHeartbeats 20000000
namespace Go.Proofs.YtkkclcihjojphaaGreatDoor
namespace Pbase
open Go.RowKit
theorem bal {w x : World} (h : Below w.heap.size w x) (o : Obj) : Below w.heap.size w (x.alloc o) := h.alloc h.size o
theorem bst {w x : World} (h : Below w.heap.size w x) {b : Nat} (hp : w.heap.size <= b) (j : Nat) (v : Value) : Below w.heap.size w (x.setCell ⟨b, j, none⟩ v) := h.setCell (p := ⟨b, j, none⟩) hp v
theorem below_drew' (B : Nat) (w : World) (n : Nat) : Below B w (w.drewN n) := ⟨rfl, rfl, rfl, Nat.le_refl _, fun _ _ => rfl⟩
structure But (b : Nat) (w w' : World) : Prop where
 os : w'.os = w.os
 tape : w'.tape = w.tape
 output : w'.output = w.output
 size : w.heap.size <= w'.heap.size
 block : ∀ i, i < w.heap.size -> i ≠ b -> w'.heap[i]? = w.heap[i]?
theorem But.refl (b : Nat) (w : World) : But b w w := ⟨rfl, rfl, rfl, Nat.le_refl _, fun _ _ _ => rfl⟩
theorem But.below {b B : Nat} {w w' : World} (h : But b w w') (hB : B <= b) (hw : B <= w.heap.size) : Below B w w' := ⟨h.os, h.tape, h.output, h.size, fun i hi => h.block i (by omega) (by omega)⟩
theorem But.of_below {w w' : World} (b : Nat) (h : Below w.heap.size w w') : But b w w' := ⟨h.os, h.tape, h.output, h.size, fun i hi _ => h.block i hi⟩
theorem But.trans {b : Nat} {a w w' : World} (h : But b a w) (k : But b w w') : But b a w' :=
 ⟨k.os.trans h.os, k.tape.trans h.tape, k.output.trans h.output, Nat.le_trans h.size k.size, fun i hi hb => (k.block i (Nat.lt_of_lt_of_le hi h.size) hb).trans (h.block i hi hb)⟩
theorem But.setRow {b : Nat} {a w : World} (h : But b a w) (cs : Array Value) : But b a (w.setRow b cs) :=
 h.trans ⟨(below_setRow (Below.refl 0 w) (Nat.zero_le b) cs).os, (below_setRow (Below.refl 0 w) (Nat.zero_le b) cs).tape, (below_setRow (Below.refl 0 w) (Nat.zero_le b) cs).output, (below_setRow (Below.refl 0 w) (Nat.zero_le b) cs).size, fun i _ hb => setRow_other w b i cs hb⟩
theorem But.cell {b : Nat} {w w' : World} (h : But b w w') {q j : Nat} (hq : q < w.heap.size) (hb : q ≠ b) : w'.cell? ⟨q, j, none⟩ = w.cell? ⟨q, j, none⟩ := World.cell?_of_block (w := w) (h.block q hq hb)
theorem But.frozen {b : Nat} {w w' : World} (h : But b w w') {q j : Nat} (hq : q < w.heap.size) (hb : q ≠ b) : w'.frozen? ⟨q, j, none⟩ = w.frozen? ⟨q, j, none⟩ := World.frozen?_of_block (w := w) (h.block q hq hb)
theorem or_right {a b c : Prop} (h : a \/ b) (f : b -> c) : a \/ c := by
 rcases h with h | h
 · exact .inl h
 · exact .inr (f h)
theorem wrapu_small {x : Int} (h0 : 0 <= x) (h1 : x <= 18446744073709551615) : IntKind.u64.wrap x = x := by
 rw [IntKind.wrap_u64]
 omega
theorem wrapi_small {z : Int} (h0 : 0 <= z) (h1 : z <= 9223372036854775807) : IntKind.i64.wrap z = z := by
 unfold IntKind.wrap
 simp [IntKind.bits, IntKind.signed]
 omega
theorem wrapi_back {y v : Int} (hy : 0 <= y /\ y <= 18446744073709551615) (hv : v = IntKind.i64.wrap y) (h0 : 0 <= v) : v = y := by
 subst hv
 unfold IntKind.wrap at *
 simp [IntKind.bits, IntKind.signed] at *
 omega
end Pbase
namespace Pbase
open Go.RowKit Go.ChangeShapes Go.WideShapes
theorem cellsInt : Tryz.prog.cellsOf 3 = 1 := by kernel_rfl
theorem array_ints {w : World} {fuel n : Nat} {t : TypeId} {cs : List Value} {zs : List Int} {p : List MemPlace} (ht : Tryz.prog.underlying t = some (.array n 3)) (hn : Tryz.prog.cellsOf t = n)
 (h : DataW.trod (fun _ => ()) Tryz.prog w 0 (fun _ => true) false fuel t cs = some (.agg (zs.map fun z => .lit (.int .i64 z)), p)) : zs.length = n /\ cs.length = n /\ ∀ j, j < n -> cs[j]? = some (.int .i64 (zs[j]?.getD 0)) := by
 obtain ⟨xs, m, _, hx, hl, hxl, hel⟩ := DataW.trod_array ht h
 simp only [Prod.mk.injEq, DataW.agg.injEq] at hx
 have hz : zs.length = n := by have := congrArg List.length hx.1; simpa [hxl] using this
 refine ⟨hz, hl.trans hn, fun j hj => ?_⟩
 have hj' := hel j hj
 have hxj : j < xs.length := by omega
 rw [List.getElem?_eq_getElem hxj, cellsInt, Nat.mul_one] at hj'
 obtain ⟨k, e1, e2, _⟩ := DataW.trod_int Tryz.underlying3 hj'
 have hjc : j < cs.length := by omega
 rw [List.drop_eq_getElem_cons hjc, List.take_succ_cons, List.take_zero, List.cons.injEq] at e1
 rw [List.getElem?_eq_getElem hjc, e1.1]
 have hh := congrArg (fun l => l[j]?) hx.1
 simp [hxj, show j < zs.length by omega] at hh
 rw [e2] at hh
 simp at hh
 simp [show j < zs.length by omega, hh]
theorem var_block {W : World} {n : String} {g : Nat} {cs : Array Value} (hg : Tryz.prog.globalNamed n = some g) (hv : W.var? Tryz.prog n = some cs) : ∃ t fr, W.heap[g]? = some (.cells cs t fr) := by
 simp only [World.var?, hg, Option.bind_some] at hv
 split at hv
 · rename_i c t fr hb
   simp only [Option.some.injEq] at hv
   subst hv
   exact ⟨t, fr, hb⟩
 · cases hv
theorem block_lt {W : World} {g : Nat} {o : Obj} (h : W.heap[g]? = some o) : g < W.heap.size := (Array.getElem?_eq_some_iff.1 h).1
end Pbase
namespace Ptint
open Pbase Go.RowKit
structure Tint (F : Nat -> Prop) (w w' : World) : Prop where
 os : w'.os = w.os
 tape : w'.tape = w.tape
 output : w'.output = w.output
 size : w.heap.size <= w'.heap.size
 block : ∀ i, i < w.heap.size -> ¬ F i -> w'.heap[i]? = w.heap[i]?
section
variable {F G : Nat -> Prop} {a w w' : World}
theorem Tint.refl (F : Nat -> Prop) (w : World) : Tint F w w := ⟨rfl, rfl, rfl, Nat.le_refl _, fun _ _ _ => rfl⟩
theorem Tint.trans (h : Tint F a w) (k : Tint F w w') : Tint F a w' :=
 ⟨k.os.trans h.os, k.tape.trans h.tape, k.output.trans h.output, Nat.le_trans h.size k.size, fun i hi hn => (k.block i (Nat.lt_of_lt_of_le hi h.size) hn).trans (h.block i hi hn)⟩
theorem Tint.wide (h : Tint F w w') (hF : ∀ i, F i -> G i) : Tint G w w' := ⟨h.os, h.tape, h.output, h.size, fun i hi hn => h.block i hi fun hf => hn (hF i hf)⟩
theorem Tint.of_below (F : Nat -> Prop) (h : Below w.heap.size w w') : Tint F w w' := ⟨h.os, h.tape, h.output, h.size, fun i hi _ => h.block i hi⟩
theorem Tint.of_but {b : Nat} (hb : F b) (h : But b w w') : Tint F w w' := ⟨h.os, h.tape, h.output, h.size, fun i hi hn => h.block i hi fun e => hn (by rw [e]; exact hb)⟩
theorem Tint.below {B : Nat} (h : Tint F w w') (hF : ∀ i, i < B -> ¬ F i) (hB : B <= w.heap.size) : Below B w w' := ⟨h.os, h.tape, h.output, h.size, fun i hi => h.block i (Nat.lt_of_lt_of_le hi hB) (hF i hi)⟩
theorem Tint.setCell (h : Tint F a w) {b j : Nat} (hb : F b) (v : Value) : Tint F a (w.setCell ⟨b, j, none⟩ v) :=
 ⟨h.os, h.tape, h.output, by rw [World.size_setCell]; exact h.size, fun i hi hn => (heap_setCell_other _ _ _ _ (fun e => hn (by rw [show i = b from e]; exact hb))).trans (h.block i hi hn)⟩
theorem Tint.alloc (h : Tint F a w) (o : Obj) : Tint F a (w.alloc o) :=
 h.trans (Tint.of_below F (bal (Below.refl _ _) o))
theorem Tint.on (h : Tint F a w) (k : Below w.heap.size w w') : Tint F a w' := h.trans (Tint.of_below F k)
theorem Tint.drew (h : Tint F a w) : Tint F a w.drew := ⟨h.os, h.tape, h.output, h.size, h.block⟩
theorem Tint.drewN (h : Tint F a w) (n : Nat) : Tint F a (w.drewN n) := ⟨h.os, h.tape, h.output, h.size, h.block⟩
theorem Tint.cell (h : Tint F w w') {q j : Nat} (hq : q < w.heap.size) (hF : ¬ F q) : w'.cell? ⟨q, j, none⟩ = w.cell? ⟨q, j, none⟩ := World.cell?_of_block (w := w) (h.block q hq hF)
end
end Ptint
namespace Ptlb
open Pbase Go.RowKit Go.ChangeMaps
abbrev Ky := Int × Int
abbrev Pt := Bool × Int × Int × Int
abbrev En := Ky × Pt × Int
def kv (k : Ky) : Value := .agg #[.int .i64 k.1, .int .i64 k.2]
def ev (p : Pt) (t : Int) : Value := .agg #[.bool p.1, .int .i64 p.2.1, .int .i64 p.2.2.1, .int .i64 p.2.2.2, .int .i64 t]
structure Ents (es : Array MapEntry) (clock : Nat) (S : List En) : Prop where
 ents : es.toList.map (fun e => (e.key, e.val)) = S.map fun x => (kv x.1, ev x.2.1 x.2.2)
 rise : (es.toList.map (·.born)).Pairwise (· < ·)
 old : ∀ e ∈ es.toList, e.born < clock
def MapIs (w : World) (b : Nat) (S : List En) : Prop := ∃ es clock, w.heap[b]? = some (.map es clock) /\ Ents es clock S
theorem MapIs.on {w w' : World} {b : Nat} {S : List En} (h : MapIs w b S) (hb : w'.heap[b]? = w.heap[b]?) : MapIs w' b S := by
 obtain ⟨es, clock, h1, h2⟩ := h
 exact ⟨es, clock, hb.trans h1, h2⟩
theorem MapIs.lt {w : World} {b : Nat} {S : List En} (h : MapIs w b S) : b < w.heap.size := by
 obtain ⟨es, clock, h1, h2⟩ := h
 exact (Array.getElem?_eq_some_iff.1 h1).1
structure TlbIs (w : World) (p b : Nat) (room : Int) (S : List En) : Prop where
 row : w.heap[p]? = some (.cells #[.int .i64 room, .map (some b)] 343 (0, 0))
 map : MapIs w b S
theorem TlbIs.lt {w : World} {p b : Nat} {r : Int} {S : List En} (h : TlbIs w p b r S) : p < w.heap.size := (Array.getElem?_eq_some_iff.1 h.row).1
theorem TlbIs.on {w w' : World} {p b : Nat} {r : Int} {S : List En} (h : TlbIs w p b r S) (hp : w'.heap[p]? = w.heap[p]?) (hb : w'.heap[b]? = w.heap[b]?) : TlbIs w' p b r S := ⟨hp.trans h.row, h.map.on hb⟩
theorem mapIs_new (w : World) : MapIs (w.alloc (.map #[] 0)) w.heap.size [] := ⟨#[], 0, (MapKept.heap_alloc w _).1, rfl, by simp, by simp⟩
theorem new_ok (r : Int) (w : World) (h0 : 0 <= r) (h1 : r <= 8) :
 Calls Tryz.prog 156 #[.int .i64 r] w fun e w' => e = .returned (.tuple #[.pointer (some ⟨w.heap.size + 1, 0, none⟩), .int .i64 0]) /\ TlbIs w' (w.heap.size + 1) w.heap.size r [] /\ Below w.heap.size w w' := by
 have hmm := @run_makeMap Tryz.prog
 have n0 : ¬ r < 0 := by omega
 have n1 : ¬ 8 < r := by omega
 go_enter Tryz.func156, Tryz.ntmps156
 go_wp2
 go_ret2
 refine ⟨rfl, ⟨?_, ?_⟩, bal (bal (Below.refl _ _) _) _⟩
 · have := heap_alloc_new (w.alloc (.map #[] 0)) (.cells #[.int .i64 r, .map (some w.heap.size)] 343)
   simpa using this
 · exact (mapIs_new w).on (Below.heap_alloc _ _ _ (by simp))
end Ptlb
namespace Pchold
open Pbase Go.RowKit
end Pchold
namespace Pregs
open Pbase Go.RowKit
def regL (L : Nat -> Int) : List Value := (List.range 8).map fun i => .int .u64 (L i)
def cellsF (L : Nat -> Int) : Array Value := (regL L ++ [Value.bool true]).toArray
theorem regL_get {L : Nat -> Int} {j : Nat} (h : j < 8) : (regL L)[j]? = some (.int .u64 (L j)) := by simp [regL, h]
def FileIs (w : World) (p : Nat) (L : Nat -> Int) : Prop := w.heap[p]? = some (.cells (cellsF L) 340 (0, 0))
def ListIs (w : World) (r : Nat) (L : Nat -> Int) : Prop := ∃ cur, w.heap[r]? = some (.cells cur 83 (0, 0)) /\ ∀ j, j < 8 -> cur[j]? = some (.int .u64 (L j))
theorem ListIs.on {w w' : World} {r : Nat} {L : Nat -> Int} (h : ListIs w r L) (hk : w'.heap[r]? = w.heap[r]?) : ListIs w' r L := by
 obtain ⟨cur, h1, h2⟩ := h
 exact ⟨cur, hk.trans h1, h2⟩
theorem ListIs.lt {w : World} {r : Nat} {L : Nat -> Int} (h : ListIs w r L) : r < w.heap.size := by
 obtain ⟨cur, h1, _⟩ := h
 exact (Array.getElem?_eq_some_iff.1 h1).1
theorem cells_zero : cellsF (fun _ => 0) = #[.int .u64 0, .int .u64 0, .int .u64 0, .int .u64 0, .int .u64 0, .int .u64 0, .int .u64 0, .int .u64 0, .bool true] := rfl
def newW (w : World) : World := w.alloc (.cells (cellsF fun _ => 0) 340)
theorem newW_is (w : World) : FileIs (newW w) w.heap.size fun _ => 0 := heap_alloc_new _ _
theorem newW_below (w : World) : Below w.heap.size w (newW w) := (Below.refl _ w).alloc (Nat.le_refl _) _
theorem new_any (w : World) :
 Calls Tryz.prog 155 #[] w fun e w' => e = .returned (.pointer (some ⟨w.heap.size, 0, none⟩)) /\ w' = newW w := by
 unfold newW
 rw [cells_zero]
 go_enter Tryz.func155, Tryz.ntmps155
 go_wp2
 go_ret
 exact ⟨rfl, rfl⟩
theorem infoWord : (Tryz.prog.info? 83).map (fun i => (i.zero, i.size, i.bytes)) = some (some (.int .u64 0), 1, 8) := by kernel_rfl
end Pregs
end Go.Proofs.YtkkclcihjojphaaGreatDoor
