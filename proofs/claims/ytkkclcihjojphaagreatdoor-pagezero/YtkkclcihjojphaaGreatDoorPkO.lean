import Derived.Test.YtkkclcihjojphaaGreatDoorPkA
import Derived.WalkMore
import Derived.Deep.CutBlock
import Derived.Deep.DeepCutAuto
import Derived.Maps.RangeWalk
import Derived.BigRegion
import Derived.Shelf.Abstract
import Derived.RangeFuncNested
import Derived.RangeFuncBound
import Derived.RangeFuncBox
import Derived.RangeFuncCalls
import Derived.RangeFuncLeaves
import Derived.RangeFuncWrites
import Derived.TacticsInMore
import Derived.LoopNIn
import Derived.LoopIn
import Derived.RegionIn
import Derived.Stop.RegionWithIn
import Derived.OwnWalkIn
import Derived.Sort.QuietIn
set_option linter.unusedVariables false
set_option linter.unusedSimpArgs false
set_option maxRecDepth 100000
set_option maxHeartbeats 20000000
namespace Go.Proofs.YtkkclcihjojphaaGreatDoor
namespace Pfind
open Pbase Go.RowKit
theorem fhide {p : Prop} (h : p) : Hid p := h
def unI (b : Bool) (e : Int) : Int := if b = true then 0 else e
theorem unless_any (b : Bool) (e : Int) (w : World) : Calls Tryz.prog 173 #[.bool b, .int .i64 e] w fun x w' => x = .returned (.int .i64 (unI b e)) /\ w' = w := by
 cases b
 · go_enter Tryz.func173, Tryz.ntmps173
   go_wp2
   go_ret
   exact ⟨rfl, rfl⟩
 · go_enter Tryz.func173, Tryz.ntmps173
   go_wp2
   go_ret
   exact ⟨rfl, rfl⟩
def fstN (R : Nat -> Int) : Nat -> Int
 | 0 => 0
 | k + 1 => if fstN R k = 0 then R k else fstN R k
theorem fstN_end {R : Nat -> Int} {j : Nat} (h : fstN R j ≠ 0) : ∀ n, j <= n -> fstN R n = fstN R j := by
 intro n hn
 induction n with
 | zero => rw [show j = 0 by omega]
 | succ n ih =>
   by_cases e : j = n + 1
   · rw [e]
   · have := ih (by omega)
     show (if fstN R n = 0 then R n else fstN R n) = _
     rw [if_neg (by rw [this]; exact h), this]
theorem askFresh_any {w : World} {mv : Value} {N R0 : Nat} (R : Nat -> Int) (J : Nat -> World -> Prop) (x0a x0b x1a x1b x2a x2b : Nat) (hN : 1 <= N) (hJ0 : J 0 w)
 (hC : ∀ wx, J 0 wx -> Calls Tryz.prog 34 #[mv] wx fun e w' => e = .returned (.int .i64 N) /\ w' = wx)
 (hR : ∀ j wx, J j wx -> wx.cell? ⟨R0, 0, none⟩ = some (.func (.func 172) #[] #[.pointer (some ⟨x0a, 0, none⟩), .pointer (some ⟨x0b, 0, none⟩)]) /\ wx.cell? ⟨R0, 1, none⟩ = some (.func (.func 174) #[] #[.pointer (some ⟨x1a, 0, none⟩), .pointer (some ⟨x1b, 0, none⟩)]) /\ wx.cell? ⟨R0, 2, none⟩ = some (.func (.func 175) #[] #[.pointer (some ⟨x2a, 0, none⟩), .pointer (some ⟨x2b, 0, none⟩)]))
 (h0 : ∀ wx, J 0 wx -> Calls Tryz.prog 172 #[.pointer (some ⟨x0a, 0, none⟩), .pointer (some ⟨x0b, 0, none⟩)] wx fun e w' => e = .returned (.int .i64 (R 0)) /\ J 1 w')
 (h1 : ∀ wx, J 1 wx -> Calls Tryz.prog 174 #[.pointer (some ⟨x1a, 0, none⟩), .pointer (some ⟨x1b, 0, none⟩)] wx fun e w' => e = .returned (.int .i64 (R 1)) /\ J 2 w')
 (h2 : ∀ wx, J 2 wx -> Calls Tryz.prog 175 #[.pointer (some ⟨x2a, 0, none⟩), .pointer (some ⟨x2b, 0, none⟩)] wx fun e w' => e = .returned (.int .i64 (R 2)) /\ J 3 w')
 : Calls Tryz.prog 171 #[mv, .slice (some ⟨R0, 0, none⟩) 3 3] w fun e w' => e = .returned (.int .i64 (fstN R 3)) /\ ∃ j, j <= 3 /\ fstN R j = fstN R 3 /\ (j = 3 \/ fstN R j ≠ 0) /\ J j w' := by
 have HJ := fhide hJ0
 have HC := fhide hC
 have HR := fhide hR
 have n1 : (0 : Int) < N := by omega
 have n2 : 0 < N := by omega
 have H0 := fhide h0
 have H1 := fhide h1
 have H2 := fhide h2
 clear hJ0 hC hR hN h0 h1 h2
 go_enter Tryz.func171, Tryz.ntmps171
 go_wp2
 go_step3
 go_wp2_with (first
  | (go_at_call 34; refine (HC.out _ HJ.out).mono ?_; rintro e w1 ⟨rfl, hw⟩; subst w1; clear HC)
  | (go_at_call 173; refine (unless_any true 13 _).mono ?_; rintro e w1 ⟨rfl, hw⟩; subst w1)
  | fail)
 go_step3
 go_wp2
 go_loopw [5, 14] (fun e i wr => ∃ j : Nat, j <= 3 /\ i = .int .i64 j /\ e = .int .i64 (fstN R j) /\ J j wr) (fun _ i _ => 3 - (intOf i).toNat)
 case atStart => exact ⟨0, by omega, rfl, rfl, HJ.out⟩
 case round =>
  obtain ⟨j, hj, rfl, rfl, hI⟩ := hrel
  have HI := fhide hI
  clear hI HJ
  by_cases hlt : j < 3
  · have hji : (j : Int) < 3 := by omega
    by_cases he : fstN R j = 0
    · have hs : fstN R (j + 1) = R j := by rw [fstN, if_pos he]
      have HS := fhide hs
      clear hs
      rw [he]
      clear he
      rcases (show j = 0 \/ j = 1 \/ j = 2 by omega) with rfl | rfl | rfl
      · obtain ⟨c0, c1, c2⟩ := HR.out _ _ HI.out
        go_wp2_with (first
         | (go_at_call 172; refine (H0.out _ HI.out).mono ?_; rintro e1 w2 ⟨rfl, hq⟩; have H9 := fhide hq; clear hq)
         | fail)
        go_roundw
        case rel => exact ⟨0 + 1, by omega, by go_num, by rw [HS.out], H9.out⟩
        case measure => simp [intOf]
      · obtain ⟨c0, c1, c2⟩ := HR.out _ _ HI.out
        go_wp2_with (first
         | (go_at_call 174; refine (H1.out _ HI.out).mono ?_; rintro e1 w2 ⟨rfl, hq⟩; have H9 := fhide hq; clear hq)
         | fail)
        go_roundw
        case rel => exact ⟨1 + 1, by omega, by go_num, by rw [HS.out], H9.out⟩
        case measure => simp [intOf]
      · obtain ⟨c0, c1, c2⟩ := HR.out _ _ HI.out
        go_wp2_with (first
         | (go_at_call 175; refine (H2.out _ HI.out).mono ?_; rintro e1 w2 ⟨rfl, hq⟩; have H9 := fhide hq; clear hq)
         | fail)
        go_roundw
        case rel => exact ⟨2 + 1, by omega, by go_num, by rw [HS.out], H9.out⟩
        case measure => simp [intOf]
    · have hb : (fstN R j == 0) = false := by simp [he]
      have hE := fhide (fstN_end he 3 hj)
      have HZ := fhide he
      have hcells := HR.out _ _ HI.out
      have HC2 := fhide hcells
      clear hcells
      obtain ⟨v, hv⟩ : ∃ v, wr.cell? ⟨R0, j, none⟩ = some v := by
       obtain ⟨c0, c1, c2⟩ := HC2.out
       rcases (show j = 0 \/ j = 1 \/ j = 2 by omega) with rfl | rfl | rfl
       all_goals exact ⟨_, by assumption⟩
      obtain ⟨ej, hej⟩ : ∃ ej, fstN R j = ej := ⟨_, rfl⟩
      have HEj := fhide hej
      rw [hej] at hb he ⊢
      clear hej
      go_wp2_with fail
      rw [Exit.noGoto_ret]
      go_ret
      exact ⟨by rw [hE.out, HEj.out]; rfl, j, hj, hE.out.symm, .inr HZ.out, HI.out⟩
  · obtain rfl : j = 3 := by omega
    go_wp2
    rw [Exit.noGoto_ret]
    go_ret
    exact ⟨rfl, _, by omega, rfl, .inl rfl, HI.out⟩
theorem askComp_any {w : World} {mv : Value} {N R0 : Nat} (R : Nat -> Int) (J : Nat -> World -> Prop) (x0a x0b x0c x1a x1b : Nat) (hN : 1 <= N) (hJ0 : J 0 w)
 (hC : ∀ wx, J 0 wx -> Calls Tryz.prog 34 #[mv] wx fun e w' => e = .returned (.int .i64 N) /\ w' = wx)
 (hR : ∀ j wx, J j wx -> wx.cell? ⟨R0, 0, none⟩ = some (.func (.func 195) #[] #[.pointer (some ⟨x0a, 0, none⟩), .pointer (some ⟨x0b, 0, none⟩), .pointer (some ⟨x0c, 0, none⟩)]) /\ wx.cell? ⟨R0, 1, none⟩ = some (.func (.func 197) #[] #[.pointer (some ⟨x1a, 0, none⟩), .pointer (some ⟨x1b, 0, none⟩)]))
 (h0 : ∀ wx, J 0 wx -> Calls Tryz.prog 195 #[.pointer (some ⟨x0a, 0, none⟩), .pointer (some ⟨x0b, 0, none⟩), .pointer (some ⟨x0c, 0, none⟩)] wx fun e w' => e = .returned (.int .i64 (R 0)) /\ J 1 w')
 (h1 : ∀ wx, J 1 wx -> Calls Tryz.prog 197 #[.pointer (some ⟨x1a, 0, none⟩), .pointer (some ⟨x1b, 0, none⟩)] wx fun e w' => e = .returned (.int .i64 (R 1)) /\ J 2 w')
 : Calls Tryz.prog 171 #[mv, .slice (some ⟨R0, 0, none⟩) 2 2] w fun e w' => e = .returned (.int .i64 (fstN R 2)) /\ ∃ j, j <= 2 /\ fstN R j = fstN R 2 /\ (j = 2 \/ fstN R j ≠ 0) /\ J j w' := by
 have HJ := fhide hJ0
 have HC := fhide hC
 have HR := fhide hR
 have n1 : (0 : Int) < N := by omega
 have n2 : 0 < N := by omega
 have H0 := fhide h0
 have H1 := fhide h1
 clear hJ0 hC hR hN h0 h1
 go_enter Tryz.func171, Tryz.ntmps171
 go_wp2
 go_step3
 go_wp2_with (first
  | (go_at_call 34; refine (HC.out _ HJ.out).mono ?_; rintro e w1 ⟨rfl, hw⟩; subst w1; clear HC)
  | (go_at_call 173; refine (unless_any true 13 _).mono ?_; rintro e w1 ⟨rfl, hw⟩; subst w1)
  | fail)
 go_step3
 go_wp2
 go_loopw [5, 14] (fun e i wr => ∃ j : Nat, j <= 2 /\ i = .int .i64 j /\ e = .int .i64 (fstN R j) /\ J j wr) (fun _ i _ => 2 - (intOf i).toNat)
 case atStart => exact ⟨0, by omega, rfl, rfl, HJ.out⟩
 case round =>
  obtain ⟨j, hj, rfl, rfl, hI⟩ := hrel
  have HI := fhide hI
  clear hI HJ
  by_cases hlt : j < 2
  · have hji : (j : Int) < 2 := by omega
    by_cases he : fstN R j = 0
    · have hs : fstN R (j + 1) = R j := by rw [fstN, if_pos he]
      have HS := fhide hs
      clear hs
      rw [he]
      clear he
      rcases (show j = 0 \/ j = 1 by omega) with rfl | rfl
      · obtain ⟨c0, c1⟩ := HR.out _ _ HI.out
        go_wp2_with (first
         | (go_at_call 195; refine (H0.out _ HI.out).mono ?_; rintro e1 w2 ⟨rfl, hq⟩; have H9 := fhide hq; clear hq)
         | fail)
        go_roundw
        case rel => exact ⟨0 + 1, by omega, by go_num, by rw [HS.out], H9.out⟩
        case measure => simp [intOf]
      · obtain ⟨c0, c1⟩ := HR.out _ _ HI.out
        go_wp2_with (first
         | (go_at_call 197; refine (H1.out _ HI.out).mono ?_; rintro e1 w2 ⟨rfl, hq⟩; have H9 := fhide hq; clear hq)
         | fail)
        go_roundw
        case rel => exact ⟨1 + 1, by omega, by go_num, by rw [HS.out], H9.out⟩
        case measure => simp [intOf]
    · have hb : (fstN R j == 0) = false := by simp [he]
      have hE := fhide (fstN_end he 2 hj)
      have HZ := fhide he
      have hcells := HR.out _ _ HI.out
      have HC2 := fhide hcells
      clear hcells
      obtain ⟨v, hv⟩ : ∃ v, wr.cell? ⟨R0, j, none⟩ = some v := by
       obtain ⟨c0, c1⟩ := HC2.out
       rcases (show j = 0 \/ j = 1 by omega) with rfl | rfl
       all_goals exact ⟨_, by assumption⟩
      obtain ⟨ej, hej⟩ : ∃ ej, fstN R j = ej := ⟨_, rfl⟩
      have HEj := fhide hej
      rw [hej] at hb he ⊢
      clear hej
      go_wp2_with fail
      rw [Exit.noGoto_ret]
      go_ret
      exact ⟨by rw [hE.out, HEj.out]; rfl, j, hj, hE.out.symm, .inr HZ.out, HI.out⟩
  · obtain rfl : j = 2 := by omega
    go_wp2
    rw [Exit.noGoto_ret]
    go_ret
    exact ⟨rfl, _, by omega, rfl, .inl rfl, HI.out⟩
end Pfind
namespace Phw
open Pbase Go.RowKit
def Gd (S : Nat -> Int) : Prop := ∀ i, 0 <= S i /\ S i <= 64
section
variable {S : Nat -> Int} {l f : Int}
end
end Phw
namespace Phw
open Pbase Go.RowKit Go.ChangeMaps
abbrev En := Int × Int
def kv (k : Int) : Value := .int .i64 k
def ev (v : Int) : Value := .int .i64 v
def vlK : List En -> Int -> Int
 | [], _ => 0
 | x :: r, k => if x.1 = k then x.2 else vlK r k
structure Ents (es : Array MapEntry) (clock : Nat) (S : List En) : Prop where
 ents : es.toList.map (fun e => (e.key, e.val)) = S.map fun x => (kv x.1, ev x.2)
 rise : (es.toList.map (·.born)).Pairwise (· < ·)
 old : ∀ e ∈ es.toList, e.born < clock
def MapIs (w : World) (b : Nat) (S : List En) : Prop := ∃ es clock, w.heap[b]? = some (.map es clock) /\ Ents es clock S
theorem MapIs.on {w w' : World} {b : Nat} {S : List En} (h : MapIs w b S) (hb : w'.heap[b]? = w.heap[b]?) : MapIs w' b S := by
 obtain ⟨es, clock, h1, h2⟩ := h
 exact ⟨es, clock, hb.trans h1, h2⟩
theorem MapIs.lt {w : World} {b : Nat} {S : List En} (h : MapIs w b S) : b < w.heap.size := by
 obtain ⟨es, clock, h1, h2⟩ := h
 exact (Array.getElem?_eq_some_iff.1 h1).1
section
variable (w : World) {ops : Array Oper} {rest : List Oper} {o : Oper} {a : Act} {Q : Exit -> Act -> World -> Prop}
end
end Phw
namespace Phw
open Pbase Go.RowKit
structure Rl (L : List En) (S : Nat -> Int) : Prop where
 nd : (L.map Prod.fst).Nodup
 iff : ∀ k v, (k, v) ∈ L ↔ (0 <= k /\ k < 8) /\ 0 <= v /\ S k.toNat = v + 1
theorem rl_nil : Rl [] fun _ => 0 := ⟨by simp, fun k v => by
 constructor
 · intro h
   cases h
 · rintro ⟨_, h1, h2⟩
   exfalso
   have h2' : (0 : Int) = v + 1 := h2
   omega⟩
section
variable {L : List En} {S : Nat -> Int}
end
section
variable {LI : World -> Nat -> Nat -> (Nat -> Int) -> Prop} {w W W' : World} {p b : Nat} {S S' : Nat -> Int}
end
end Phw
namespace Phw
open Pbase Go.RowKit Go.ChangeMaps
structure LinesIs (w : World) (p b : Nat) (S : Nat -> Int) : Prop where
 row : w.heap[p]? = some (.cells #[.map (some b)] 336 (0, 0))
 ex : ∃ L, MapIs w b L /\ Rl L S
section
variable {w w' : World} {p b : Nat} {S S' : Nat -> Int}
theorem LinesIs.lt (h : LinesIs w p b S) : p < w.heap.size /\ b < w.heap.size := by
 obtain ⟨L, h1, _⟩ := h.ex
 exact ⟨(Array.getElem?_eq_some_iff.1 h.row).1, h1.lt⟩
theorem LinesIs.on (h : LinesIs w p b S) (hp : w'.heap[p]? = w.heap[p]?) (hb : w'.heap[b]? = w.heap[b]?) : LinesIs w' p b S := by
 obtain ⟨L, h1, h2⟩ := h.ex
 exact ⟨hp.trans h.row, L, h1.on hb, h2⟩
end
theorem mapIs_new (w : World) : MapIs (w.alloc (.map #[] 0)) w.heap.size [] := ⟨#[], 0, (MapKept.heap_alloc w _).1, rfl, by simp, by simp⟩
theorem new_any (w : World) : Calls Tryz.prog 152 #[] w fun e w' => ∃ p b, e = .returned (.pointer (some ⟨p, 0, none⟩)) /\ LinesIs w' p b (fun _ => 0) /\ (w.heap.size <= p /\ w.heap.size <= b) /\ Below w.heap.size w w' := by
 have hmm := @run_makeMap Tryz.prog
 go_enter Tryz.func152, Tryz.ntmps152
 go_wp2
 go_ret
 refine ⟨w.heap.size + 1, w.heap.size, rfl, ⟨?_, [], (mapIs_new w).on (Below.heap_alloc _ _ _ (by simp)), rl_nil⟩, ⟨by omega, by omega⟩, bal (bal (Below.refl _ _) _) _⟩
 have := heap_alloc_new (w.alloc (.map #[] 0)) (.cells #[.map (some w.heap.size)] 336)
 simpa using this
end Phw
namespace Pbpag
open Pbase Go.RowKit Go.Shelf
attribute [local go_sem] Oper.semAt_some
theorem nhide {p : Prop} (h : p) : Hid p := h
theorem bdr {w x : World} (h : Below w.heap.size w x) : Below w.heap.size w x.drew := ⟨h.os, h.tape, h.output, h.size, h.block⟩
theorem nxt {W X w1 : World} (h : Below W.heap.size W X) (h1 : Below X.heap.size X w1) : Below W.heap.size W w1 := h.trans (h1.mono h.size)
theorem alz {A w2 : World} {o : Obj} (h : Below (A.alloc o).heap.size (A.alloc o) w2) : w2.heap[A.heap.size]? = some o := (h.block _ (by simp)).trans (heap_alloc_new A o)
theorem alzd {A w2 : World} {o : Obj} (h : Below (A.alloc o).drew.heap.size (A.alloc o).drew w2) : w2.heap[A.heap.size]? = some o := (h.block _ (by show A.heap.size < (A.alloc o).heap.size; simp)).trans (heap_alloc_new A o)
theorem keeps_below {W W' : World} (h : Below W.heap.size W W') : KeepsOthers W W' := ⟨h.size, fun k o hk _ => (h.block k (Array.getElem?_eq_some_iff.1 hk).1).trans hk⟩
theorem kpz {X w2 : World} {k : Nat} {o : Obj} (h : Below X.heap.size X w2) (hk : X.heap[k]? = some o) : w2.heap[k]? = some o := (h.block _ (Array.getElem?_eq_some_iff.1 hk).1).trans hk
theorem frz_row {w : World} {b : Nat} {cs : Array Value} {t : TypeId} (j : Nat) (h : w.heap[b]? = some (.cells cs t (0, 0))) : w.frozen? ⟨b, j, none⟩ = false := by simp [World.frozen?, h]
theorem z8 {w : World} {b : Nat} {t : TypeId} (h : w.heap[b]? = some (.cells #[.int .i64 0, .int .i64 0, .bool false, .int .i64 0] t (0, 0))) :
 w.cell? ⟨b, 0, none⟩ = some (.int .i64 0) /\ w.cell? ⟨b, 1, none⟩ = some (.int .i64 0) /\ w.cell? ⟨b, 2, none⟩ = some (.bool false) /\ w.cell? ⟨b, 3, none⟩ = some (.int .i64 0) /\
 w.frozen? ⟨b, 0, none⟩ = false /\ w.frozen? ⟨b, 1, none⟩ = false /\ w.frozen? ⟨b, 2, none⟩ = false /\ w.frozen? ⟨b, 3, none⟩ = false :=
 ⟨(cell_of_row _ _ 0 _ _ _ h).trans rfl, (cell_of_row _ _ 1 _ _ _ h).trans rfl, (cell_of_row _ _ 2 _ _ _ h).trans rfl, (cell_of_row _ _ 3 _ _ _ h).trans rfl, frz_row 0 h, frz_row 1 h, frz_row 2 h, frz_row 3 h⟩
def encG {G : Int × Int -> Prop} (x : { x : Int × Int // G x }) : Array Value := #[.agg #[.int .i64 x.1.1, .int .i64 x.1.2]]
end Pbpag
namespace Pbpag
open Pbase Go.RowKit Go.Shelf
attribute [local go_sem] Oper.semAt_some
def RowB (W : World) (A : Nat) (t : TypeId) (cs : Array Value) : Prop := W.heap[A]? = some (.cells cs t (0, 0))
theorem RowB.lt {W : World} {A : Nat} {t : TypeId} {cs : Array Value} (h : RowB W A t cs) : A < W.heap.size := (Array.getElem?_eq_some_iff.1 h).1
theorem RowB.cell {W : World} {A : Nat} {t : TypeId} {cs : Array Value} (h : RowB W A t cs) (j : Nat) {v : Value} (hv : cs[j]? = some v) : W.cell? ⟨A, j, none⟩ = some v := (cell_of_row _ _ _ _ _ _ h).trans hv
theorem RowB.on {W W' : World} {A : Nat} {t : TypeId} {cs : Array Value} (h : RowB W A t cs) (hB : Below W.heap.size W W') : RowB W' A t cs := (hB.block A h.lt).trans h
def KpB (A : Nat) (t : TypeId) (cs : Array Value) (X Y : World) : Prop := RowB X A t cs -> RowB Y A t cs
theorem kpB_trans {A : Nat} {t : TypeId} {cs : Array Value} {X Y Z : World} (h : KpB A t cs X Y) (k : KpB A t cs Y Z) : KpB A t cs X Z := fun x => k (h x)
theorem kpB_below {A : Nat} {t : TypeId} {cs : Array Value} {X Y : World} (h : Below X.heap.size X Y) : KpB A t cs X Y := fun x => x.on h
theorem kpB_obj {A : Nat} {t : TypeId} {cs : Array Value} (W : World) (l : Nat) (o o' : Obj) (ho : W.heap[l]? = some o) (hc : o.isCells = false) : KpB A t cs W (W.putObj l o') := fun x => by
 have hne : l ≠ A := fun e => by subst e; rw [x] at ho; cases ho; cases hc
 unfold RowB at *
 rw [<- x]
 simp only [World.putObj]
 exact Array.getElem?_setIfInBounds_ne hne
def more (r k : Int) : List (Int × Int) := if r = 0 then [] else [(wrap64 (r - 1), k)]
theorem ofC1_in (n : Nat) (hn : 1 <= n) (l A : Nat) (cs : Array Value) (a b : Int) (ha : cs[0]? = some (.int .i64 a)) {G : Int × Int -> Prop} (ga : G (a, 1)) (gb : G (b, 2)) (hb : cs[1]? = some (.int .i64 b)) (J Jx : List { x : Int × Int // G x } -> World -> Prop)
 (hY : ∀ pre (x : { x : Int × Int // G x }) W, J pre W -> pre.length < 2 -> YieldAt Fence.wide (n - 1) Tryz.prog l (encG x) W fun e W' =>
   (e = .returned (.bool true) /\ J (pre ++ [x]) W' /\ KpB A 156 cs W W') \/ (e = .returned (.bool false) /\ Jx (pre ++ [x]) W'))
 (W : World) (hR : RowB W A 156 cs) (h0 : J [] W) :
 CallsIn Fence.wide n Tryz.prog 180 #[.func (.yield l) #[] #[], .pointer (some ⟨A, 0, none⟩)] W fun e W' => (∃ v, e = .returned v) /\
  ((∃ ys, ys.map Subtype.val = [(a, 1), (b, 2)] /\ J ys W') \/ (∃ pre : List { x : Int × Int // G x }, True /\ Jx pre W')) := by
 have c0 := hR.cell 0 ha
 refine callsIn_of_wp Tryz.func180 rfl trivial ?_ rfl
 simp only [Tryz.ntmps180, List.size_toArray, List.length_cons, List.length_nil, Nat.reduceAdd, Nat.reduceSub, Array.replicate_succ, Array.replicate_zero, List.push_toArray, List.append_toArray, List.nil_append, List.cons_append]
 obtain ⟨fn, tmps, assign, body, hy, hRn⟩ := hY [] ⟨(a, 1), ga⟩ W h0 (by simp)
 unfold encG at hy
 dsimp only at hy
 gi_wp2
 refine hRn.mono ?_
 rintro e W3 (⟨rfl, hJ3, hk3⟩ | ⟨rfl, hJx3⟩)
 · clear hy hRn c0
   obtain ⟨fn', tmps', assign', body', hy', hRn'⟩ := hY [⟨(a, 1), ga⟩] ⟨(b, 2), gb⟩ W3 hJ3 (by simp)
   have c1 := (hk3 hR).cell 1 hb
   have HK := nhide (hk3 hR)
   unfold encG at hy'
   dsimp only at hy'
   clear hY hJ3 hk3 hR h0
   gi_wp2
   refine hRn'.mono ?_
   rintro e W4 (⟨rfl, hJ4, hk4⟩ | ⟨rfl, hJx4⟩)
   · gi_wp2
     (first | refine bodyPost_ret (results_none rfl _ _ _) rfl ?_ | go_end0)
     exact ⟨⟨_, rfl⟩, .inl ⟨_, rfl, hJ4⟩⟩
   · gi_wp2
     (first | refine bodyPost_ret (results_none rfl _ _ _) rfl ?_ | go_end0)
     exact ⟨⟨_, rfl⟩, .inr ⟨_, trivial, hJx4⟩⟩
 · gi_wp2
   (first | refine bodyPost_ret (results_none rfl _ _ _) rfl ?_ | go_end0)
   exact ⟨⟨_, rfl⟩, .inr ⟨_, trivial, hJx3⟩⟩
theorem ofC_stops (n : Nat) (hn : 1 <= n) (A : Nat) (cs : Array Value) (a b : Int) (ha : cs[0]? = some (.int .i64 a)) {G : Int × Int -> Prop} (ga : G (a, 1)) (gb : G (b, 2)) (hb : cs[1]? = some (.int .i64 b)) (w : World) (hR : RowB w A 156 cs) :
 SeqStopsK Fence.wide n Tryz.prog 180 #[.pointer (some ⟨A, 0, none⟩)] (encG (G := G)) (KpB A 156 cs) (fun (ys : List { x : Int × Int // G x }) => ys.map Subtype.val = [(a, 1), (b, 2)]) (fun (pre : List { x : Int × Int // G x }) => True) 2 w := fun l J Jx W hW hJ _ hY h0 =>
 ofC1_in n hn l A cs a b ha ga gb hb J Jx hY W (hR.on hW) h0
theorem ofT1_in (n : Nat) (hn : 1 <= n) (l A : Nat) (cs : Array Value) (a b : Int) (ha : cs[2]? = some (.int .i64 a)) {G : Int × Int -> Prop} (ga : G (a, 5)) (gb : b ≠ 0 -> G (wrap64 (b - 1), 6)) (hb : cs[3]? = some (.int .i64 b)) (J Jx : List { x : Int × Int // G x } -> World -> Prop)
 (hY : ∀ pre (x : { x : Int × Int // G x }) W, J pre W -> pre.length < 2 -> YieldAt Fence.wide (n - 1) Tryz.prog l (encG x) W fun e W' =>
   (e = .returned (.bool true) /\ J (pre ++ [x]) W' /\ KpB A 178 cs W W') \/ (e = .returned (.bool false) /\ Jx (pre ++ [x]) W'))
 (W : World) (hR : RowB W A 178 cs) (h0 : J [] W) :
 CallsIn Fence.wide n Tryz.prog 199 #[.func (.yield l) #[] #[], .pointer (some ⟨A, 0, none⟩)] W fun e W' => (∃ v, e = .returned v) /\
  ((∃ ys, ys.map Subtype.val = (a, 5) :: more b 6 /\ J ys W') \/ (∃ pre : List { x : Int × Int // G x }, True /\ Jx pre W')) := by
 have c0 := hR.cell 2 ha
 refine callsIn_of_wp Tryz.func199 rfl trivial ?_ rfl
 simp only [Tryz.ntmps199, List.size_toArray, List.length_cons, List.length_nil, Nat.reduceAdd, Nat.reduceSub, Array.replicate_succ, Array.replicate_zero, List.push_toArray, List.append_toArray, List.nil_append, List.cons_append]
 obtain ⟨fn, tmps, assign, body, hy, hRn⟩ := hY [] ⟨(a, 5), ga⟩ W h0 (by simp)
 unfold encG at hy
 dsimp only at hy
 gi_wp2
 refine hRn.mono ?_
 rintro e W3 (⟨rfl, hJ3, hk3⟩ | ⟨rfl, hJx3⟩)
 · clear hy hRn c0
   by_cases hb0 : b = 0
   · subst hb0
     have c1 := (hk3 hR).cell 3 hb
     gi_wp2
     (first | refine bodyPost_ret (results_none rfl _ _ _) rfl ?_ | go_end0)
     exact ⟨⟨_, rfl⟩, .inl ⟨[⟨(a, 5), ga⟩], by simp [more], hJ3⟩⟩
   · have c1' := (hk3 hR).cell 3 hb
     have hne : (b == 0) = false := by simp [hb0]
     obtain ⟨fn', tmps', assign', body', hy', hRn'⟩ := hY [⟨(a, 5), ga⟩] ⟨(wrap64 (b - 1), 6), (gb hb0)⟩ W3 hJ3 (by simp)
     have c1 := (hk3 hR).cell 3 hb
     have HK := nhide (hk3 hR)
     unfold encG at hy'
     dsimp only at hy'
     clear hY hJ3 hk3 hR h0
     gi_wp2
     refine hRn'.mono ?_
     rintro e W4 (⟨rfl, hJ4, hk4⟩ | ⟨rfl, hJx4⟩)
     · gi_wp2
       (first | refine bodyPost_ret (results_none rfl _ _ _) rfl ?_ | go_end0)
       exact ⟨⟨_, rfl⟩, .inl ⟨[⟨(a, 5), ga⟩, ⟨(wrap64 (b - 1), 6), (gb hb0)⟩], by simp [more, hb0], hJ4⟩⟩
     · gi_wp2
       (first | refine bodyPost_ret (results_none rfl _ _ _) rfl ?_ | go_end0)
       exact ⟨⟨_, rfl⟩, .inr ⟨_, trivial, hJx4⟩⟩
 · gi_wp2
   (first | refine bodyPost_ret (results_none rfl _ _ _) rfl ?_ | go_end0)
   exact ⟨⟨_, rfl⟩, .inr ⟨_, trivial, hJx3⟩⟩
theorem ofT_stops (n : Nat) (hn : 1 <= n) (A : Nat) (cs : Array Value) (a b : Int) (ha : cs[2]? = some (.int .i64 a)) {G : Int × Int -> Prop} (ga : G (a, 5)) (gb : b ≠ 0 -> G (wrap64 (b - 1), 6)) (hb : cs[3]? = some (.int .i64 b)) (w : World) (hR : RowB w A 178 cs) :
 SeqStopsK Fence.wide n Tryz.prog 199 #[.pointer (some ⟨A, 0, none⟩)] (encG (G := G)) (KpB A 178 cs) (fun (ys : List { x : Int × Int // G x }) => ys.map Subtype.val = (a, 5) :: more b 6) (fun (pre : List { x : Int × Int // G x }) => True) 2 w := fun l J Jx W hW hJ _ hY h0 =>
 ofT1_in n hn l A cs a b ha ga gb hb J Jx hY W (hR.on hW) h0
theorem ofR1_in (n : Nat) (hn : 1 <= n) (l A : Nat) (cs : Array Value) (a b : Int) (ha : cs[0]? = some (.int .i64 a)) {G : Int × Int -> Prop} (ga : G (a, 4)) (gb : b ≠ 0 -> G (wrap64 (b - 1), 6)) (hb : cs[1]? = some (.int .i64 b)) (J Jx : List { x : Int × Int // G x } -> World -> Prop)
 (hY : ∀ pre (x : { x : Int × Int // G x }) W, J pre W -> pre.length < 2 -> YieldAt Fence.wide (n - 1) Tryz.prog l (encG x) W fun e W' =>
   (e = .returned (.bool true) /\ J (pre ++ [x]) W' /\ KpB A 193 cs W W') \/ (e = .returned (.bool false) /\ Jx (pre ++ [x]) W'))
 (W : World) (hR : RowB W A 193 cs) (h0 : J [] W) :
 CallsIn Fence.wide n Tryz.prog 215 #[.func (.yield l) #[] #[], .pointer (some ⟨A, 0, none⟩)] W fun e W' => (∃ v, e = .returned v) /\
  ((∃ ys, ys.map Subtype.val = (a, 4) :: more b 6 /\ J ys W') \/ (∃ pre : List { x : Int × Int // G x }, True /\ Jx pre W')) := by
 have c0 := hR.cell 0 ha
 refine callsIn_of_wp Tryz.func215 rfl trivial ?_ rfl
 simp only [Tryz.ntmps215, List.size_toArray, List.length_cons, List.length_nil, Nat.reduceAdd, Nat.reduceSub, Array.replicate_succ, Array.replicate_zero, List.push_toArray, List.append_toArray, List.nil_append, List.cons_append]
 obtain ⟨fn, tmps, assign, body, hy, hRn⟩ := hY [] ⟨(a, 4), ga⟩ W h0 (by simp)
 unfold encG at hy
 dsimp only at hy
 gi_wp2
 refine hRn.mono ?_
 rintro e W3 (⟨rfl, hJ3, hk3⟩ | ⟨rfl, hJx3⟩)
 · clear hy hRn c0
   by_cases hb0 : b = 0
   · subst hb0
     have c1 := (hk3 hR).cell 1 hb
     gi_wp2
     (first | refine bodyPost_ret (results_none rfl _ _ _) rfl ?_ | go_end0)
     exact ⟨⟨_, rfl⟩, .inl ⟨[⟨(a, 4), ga⟩], by simp [more], hJ3⟩⟩
   · have c1' := (hk3 hR).cell 1 hb
     have hne : (b == 0) = false := by simp [hb0]
     obtain ⟨fn', tmps', assign', body', hy', hRn'⟩ := hY [⟨(a, 4), ga⟩] ⟨(wrap64 (b - 1), 6), (gb hb0)⟩ W3 hJ3 (by simp)
     have c1 := (hk3 hR).cell 1 hb
     have HK := nhide (hk3 hR)
     unfold encG at hy'
     dsimp only at hy'
     clear hY hJ3 hk3 hR h0
     gi_wp2
     refine hRn'.mono ?_
     rintro e W4 (⟨rfl, hJ4, hk4⟩ | ⟨rfl, hJx4⟩)
     · gi_wp2
       (first | refine bodyPost_ret (results_none rfl _ _ _) rfl ?_ | go_end0)
       exact ⟨⟨_, rfl⟩, .inl ⟨[⟨(a, 4), ga⟩, ⟨(wrap64 (b - 1), 6), (gb hb0)⟩], by simp [more, hb0], hJ4⟩⟩
     · gi_wp2
       (first | refine bodyPost_ret (results_none rfl _ _ _) rfl ?_ | go_end0)
       exact ⟨⟨_, rfl⟩, .inr ⟨_, trivial, hJx4⟩⟩
 · gi_wp2
   (first | refine bodyPost_ret (results_none rfl _ _ _) rfl ?_ | go_end0)
   exact ⟨⟨_, rfl⟩, .inr ⟨_, trivial, hJx3⟩⟩
theorem ofR_stops (n : Nat) (hn : 1 <= n) (A : Nat) (cs : Array Value) (a b : Int) (ha : cs[0]? = some (.int .i64 a)) {G : Int × Int -> Prop} (ga : G (a, 4)) (gb : b ≠ 0 -> G (wrap64 (b - 1), 6)) (hb : cs[1]? = some (.int .i64 b)) (w : World) (hR : RowB w A 193 cs) :
 SeqStopsK Fence.wide n Tryz.prog 215 #[.pointer (some ⟨A, 0, none⟩)] (encG (G := G)) (KpB A 193 cs) (fun (ys : List { x : Int × Int // G x }) => ys.map Subtype.val = (a, 4) :: more b 6) (fun (pre : List { x : Int × Int // G x }) => True) 2 w := fun l J Jx W hW hJ _ hY h0 =>
 ofR1_in n hn l A cs a b ha ga gb hb J Jx hY W (hR.on hW) h0
end Pbpag
namespace Pwalk
open Pbase Go.RowKit
theorem at_of_drop {ops : Array Oper} {i : Nat} {oi : Oper} {tl : List Oper} (h : ops.toList.drop i = oi :: tl) : ops[i]? = some oi := by
 have h1 : (ops.toList.drop i)[0]? = some oi := by rw [h]; rfl
 rw [List.getElem?_drop] at h1
 simpa using h1
theorem takeV {P : Program} {ops : Array Oper} {Q : Exit -> Act -> World -> Prop} {md : Region.Mode} {S : World -> Prop} {i : Nat} {oi : Oper} {tl : List Oper} {v : Value} {fuel : Nat} {listed : Array Bool} {a : Act} {w : World}
 (hi : ops.toList.drop i = oi :: tl) (hs : Region.noSelect ops = true) (hf : Region.free md ops listed i = true) (hr : (Region.ready md ops listed).contains i = true)
 (hQ : ∀ c a w, Q (.panic c) (a.put oi.dst v) w -> Q (.panic c) a w) (hw : Region.wanted oi (yielded ops a.tmps) = true) (hS : S w)
 (hy : ∀ w, S w -> (execOp a.eval oi).run P w = .ok (.value v) w)
 (h : wpAnyH P md ops Q S fuel (listed.setIfInBounds i true) (a.put oi.dst v) w) : wpAnyH P md ops Q S (fuel + 1) listed a w :=
 wpAnyH_take (at_of_drop hi) hs hf hr hQ (Or.inl ⟨hw, hy⟩) hS h
theorem stepOne {P : Program} {ops : Array Oper} {Q : Exit -> Act -> World -> Prop} {md : Region.Mode} {S : World -> Prop} {i : Nat} {oi : Oper} {tl : List Oper} {fuel : Nat} {listed : Array Bool} {a : Act} {w : World}
 (hi : ops.toList.drop i = oi :: tl) (hr : Region.ready md ops listed = [i])
 (h : ∀ K' : Act -> World -> Prop, Shut (∀ a w, S w -> (S w -> wpAnyH P md ops Q S fuel (listed.setIfInBounds i true) a w) -> K' a w) -> if Region.wanted oi (yielded ops a.tmps) = true then Oper.wp P oi a w K' Q else K' (a.put oi.dst undef) w) :
 wpAnyH P md ops Q S (fuel + 1) listed a w :=
 wpAnyH_ready hr (by simp) (AllReadyH.cons (at_of_drop hi) h AllReadyH.nil)
end Pwalk
end Go.Proofs.YtkkclcihjojphaaGreatDoor
