import Derived.Test.YtkkclcihjojphaaGreatDoorPkO
import Derived.Maps.AppendAt
import Derived.Test.YtkkclcihjojphaaGreatDoorBunMem
set_option linter.unusedVariables false
set_option linter.unusedSimpArgs false
set_option maxRecDepth 100000
set_option maxHeartbeats 20000000
namespace Go.Proofs.YtkkclcihjojphaaGreatDoor
namespace Pvhw
open Pbase Phw Ptint Go.RowKit
def ListIs (w : World) (r N : Nat) (f : Nat -> Int) : Prop := ∃ cur, w.heap[r]? = some (.cells cur 3 (0, 0)) /\ ∀ j, j < N -> cur[j]? = some (.int .i64 (f j))
theorem ListIs.on {w w' : World} {r N : Nat} {f : Nat -> Int} (h : ListIs w r N f) (hk : w'.heap[r]? = w.heap[r]?) : ListIs w' r N f := by
 obtain ⟨cur, h1, h2⟩ := h
 exact ⟨cur, hk.trans h1, h2⟩
theorem ListIs.lt {w : World} {r N : Nat} {f : Nat -> Int} (h : ListIs w r N f) : r < w.heap.size := by
 obtain ⟨cur, h1, _⟩ := h
 exact (Array.getElem?_eq_some_iff.1 h1).1
structure RefAt (w : World) (F : Nat -> Prop) (q r cap : Nat) (S : Nat -> Int) : Prop where
 ge : F q
 gr : F r
 head : w.heap[q]? = some (.cells #[.slice (some ⟨r, 0, none⟩) 8 cap] 345 (0, 0))
 list : ListIs w r 8 S
def RefL (w : World) (F : Nat -> Prop) (q : Nat) (S : Nat -> Int) : Prop := ∃ r cap, RefAt w F q r cap S
section
variable {w w' : World} {F : Nat -> Prop} {q r cap : Nat} {S : Nat -> Int}
theorem RefAt.lt (h : RefAt w F q r cap S) : q < w.heap.size := (Array.getElem?_eq_some_iff.1 h.head).1
theorem RefAt.on (h : RefAt w F q r cap S) (hq : w'.heap[q]? = w.heap[q]?) (hr : w'.heap[r]? = w.heap[r]?) : RefAt w' F q r cap S := ⟨h.ge, h.gr, hq.trans h.head, h.list.on hr⟩
end
theorem infoInt : (Tryz.prog.info? 3).map (fun i => (i.zero, i.size, i.bytes)) = some (some (.int .i64 0), 1, 8) := by kernel_rfl
theorem one_new (w : World) (v : Value) (t : TypeId) : ∀ j u, ([v] : List Value)[j]? = some u -> (w.alloc (.cells #[v] t)).cell? ((⟨w.heap.size, 0, none⟩ : Addr).add j) = some u := by
 intro j u hj
 match j, hj with
 | 0, hj => simp at hj; subst hj; simp [Addr.add]
theorem own_ge {w : World} {base : Nat} {e : TypeId} {v : Value} {n : Nat} {xs : List Value} (h : w.ownsRow base e 1 v n xs) : ∀ k, v.ownBlock = some k -> base <= k := fun k hk => (h.lt k hk).1
theorem ownsRow_on {w w' : World} {base : Nat} {e : TypeId} {size : Nat} {v : Value} {n : Nat} {xs : List Value} (h : w.ownsRow base e size v n xs) (hk : ∀ k, base <= k -> k < w.heap.size -> w'.heap[k]? = w.heap[k]?) : w'.ownsRow base e size v n xs := by
 refine ⟨h.1, or_right h.2 ?_⟩
 rintro ⟨g, cap, cur, hv, hg, hh, r⟩
 exact ⟨g, cap, cur, hv, hg, by rw [hk g hg (Array.getElem?_eq_some_iff.1 hh).1]; exact hh, r⟩
theorem ownsRow_succ {w : World} {base : Nat} {e : TypeId} {v : Value} {n : Nat} {xs : List Value} (h : w.ownsRow base e 1 v (n + 1) xs) : ∃ g cap, v = .slice (some ⟨g, 0, none⟩) (n + 1) cap := by
 rcases h.2 with ⟨_, e⟩ | ⟨g, cap, _, e, _⟩
 · cases e
 · exact ⟨g, cap, e⟩
structure NewI (B : Nat) (w wr : World) (v : Value) (k : Nat) : Prop where
 head : wr.heap[B]? = some (.cells #[v] 345 (0, 0))
 owns : wr.ownsRow (B + 1) 3 1 v k (List.replicate k (.int .i64 0))
 below : Below B w wr
 size : B + 1 <= wr.heap.size
theorem NewI.start (w : World) : NewI w.heap.size w (w.alloc (.cells #[.slice none 0 0] 345)) (.slice none 0 0) 0 :=
 ⟨heap_alloc_new _ _, ⟨rfl, .inl ⟨rfl, rfl⟩⟩, (Below.refl _ _).alloc (Nat.le_refl _) _, by simp⟩
theorem NewI.done {B : Nat} {w wr : World} {v : Value} (h : NewI B w wr v 8) : RefL wr (fun i => B <= i) B fun _ => 0 := by
 rcases h.owns.2 with ⟨_, e⟩ | ⟨g, cap, cur, e, hg, hh, _, _, _, ht⟩
 · have e' : (8 : Nat) = 0 := e
   omega
 · refine ⟨g, cap, Nat.le_refl _, by omega, by rw [h.head, e], cur, hh, fun j hj => ?_⟩
   have := congrArg (fun l => l[j]?) ht
   simp only [Nat.mul_one, List.getElem?_take, hj, if_true, List.getElem?_replicate, Array.getElem?_toList] at this
   exact this
theorem NewI.step {B : Nat} {w wr w1 : World} {v : Value} {k : Nat} {v' : Value} {o : Obj} (h : NewI B w wr v k)
 (hown : w1.ownsRow (B + 1) 3 1 v' (k + 1) (List.replicate k (.int .i64 0) ++ [.int .i64 0])) (hg : (wr.alloc o).grownBy w1 v.ownBlock) :
 w1.heap[B]? = some (.cells #[v] 345 (0, 0)) /\ NewI B w (w1.setCell ⟨B, 0, none⟩ v') v' (k + 1) := by
 have hs := h.size
 have hb1 : Below (B + 1) wr w1 := ((Below.refl _ _).alloc (by omega) o).grown hg (by simp; omega) (own_ge h.owns)
 have hhead : w1.heap[B]? = some (.cells #[v] 345 (0, 0)) := by rw [hb1.block B (by omega)]; exact h.head
 have hz := hb1.size
 refine ⟨hhead, ?_, ?_, ?_, ?_⟩
 · rw [heap_setCell_same w1 B 0 _ _ v' hhead]
   rfl
 · rw [List.replicate_succ']
   exact ownsRow_on hown fun j hj _ => Below.heap_setCell _ _ _ _ (by show j ≠ B; omega)
 · exact (h.below.trans (hb1.mono (by omega))).setCell (Nat.le_refl _) _
 · simp only [World.size_setCell]
   omega
theorem rnew_any (w : World) : Calls Tryz.prog 159 #[] w fun e w' => e = .returned (.pointer (some ⟨w.heap.size, 0, none⟩)) /\ RefL w' (fun i => w.heap.size <= i) w.heap.size (fun _ => 0) /\ Below w.heap.size w w' := by
 obtain ⟨it, hi, hz0, hz1, hz2⟩ := info_parts infoInt
 have H0 : Hid (NewI w.heap.size w (w.alloc (.cells #[.slice none 0 0] 345)) (.slice none 0 0) 0) := NewI.start w
 go_enter Tryz.func159, Tryz.ntmps159
 go_wp2
 go_loopw [2] (fun i wr => ∃ k : Nat, k <= 8 /\ i = .int .i64 k /\ ∃ v, NewI w.heap.size w wr v k) (fun i _ => 8 - (intOf i).toNat)
 case atStart => exact ⟨0, by omega, rfl, _, H0.out⟩
 case round =>
  obtain ⟨k, hk, rfl, v, hI⟩ := hrel
  have HI : Hid (NewI w.heap.size w wr v k) := hI
  clear hI H0
  by_cases hlt : k < 8
  · have hki : (k : Int) < 8 := by omega
    have hs := HI.out.size
    have d0 : wr.cell? ⟨w.heap.size, 0, none⟩ = some v := by rw [cell_of_row wr _ 0 _ _ _ HI.out.head]; rfl
    go_wp2_with (first
     | (at_builtin; refine wpList_append_own_at _ rfl _ _ 147 rfl (w.heap.size + 1) 3 it _ 1 8 Tryz.underlying147 hi hz0 hz1 hz2 rfl (by decide) _ _ _ rfl (HI.out.owns.alloc _) _ 1 1 [.int .i64 0] rfl rfl (one_new wr _ _) (by simp [Value.oneCell']) (by unfold maxLen; omega) (by omega) (by simp; omega) ?_; intro v1 w1 hown hgrow _ hat; obtain ⟨g1, p1, rfl⟩ := ownsRow_succ hown; have S := HI.out.step hown hgrow; clear d0; have d1 : w1.cell? ⟨w.heap.size, 0, none⟩ = some v := (by rw [cell_of_row w1 _ 0 _ _ _ S.1]; rfl); have z1 : w1.frozen? ⟨w.heap.size, 0, none⟩ = false := frozen_of_row w1 _ 0 _ _ S.1; have HS1 : Hid (NewI w.heap.size w (w1.setCell ⟨w.heap.size, 0, none⟩ (.slice (some ⟨g1, 0, none⟩) (k + 1) p1)) (.slice (some ⟨g1, 0, none⟩) (k + 1) p1) (k + 1)) := S.2; clear hown hgrow hat S)
     | fail)
    go_roundw
    case rel => exact ⟨k + 1, by omega, by go_num, _, HS1.out⟩
    case measure => simp [intOf]; omega
  · obtain rfl : k = 8 := by omega
    go_wp2
    go_ret
    exact ⟨rfl, HI.out.done, HI.out.below⟩
end Pvhw
namespace Pvregs
open Pbase Pregs Ptint Go.RowKit
structure RefAt (w : World) (F : Nat -> Prop) (q : Nat) (L : Nat -> Int) (b cap : Nat) : Prop where
 ge : F q
 head : w.heap[q]? = some (.cells #[.slice (some ⟨b, 0, none⟩) 8 cap] 350 (0, 0))
 list : ListIs w b L
 gb : F b
def RefIs (w : World) (F : Nat -> Prop) (q : Nat) (L : Nat -> Int) : Prop := ∃ b cap, RefAt w F q L b cap
theorem RefAt.lt {w : World} {F : Nat -> Prop} {q : Nat} {L : Nat -> Int} {b cap : Nat} (h : RefAt w F q L b cap) : q < w.heap.size := (Array.getElem?_eq_some_iff.1 h.head).1
theorem RefIs.on {w w' : World} {F : Nat -> Prop} {q : Nat} {L : Nat -> Int} (h : RefIs w F q L) (hk : ∀ k, F k -> k < w.heap.size -> w'.heap[k]? = w.heap[k]?) : RefIs w' F q L := by
 obtain ⟨b, cap, h⟩ := h
 exact ⟨b, cap, h.ge, (hk q h.ge h.lt).trans h.head, h.list.on (hk b h.gb h.list.lt), h.gb⟩
theorem owns_list {w : World} {base : Nat} {v : Value} {L : Nat -> Int} (h : w.ownsRow base 83 1 v 8 (regL L)) : ∃ g cap, v = .slice (some ⟨g, 0, none⟩) 8 cap /\ base <= g /\ ListIs w g L := by
 rcases h.2 with ⟨_, e⟩ | ⟨g, cap, cur, e, hg, hh, _, _, _, ht⟩
 · cases e
 · refine ⟨g, cap, e, hg, cur, hh, fun j hj => ?_⟩
   have := congrArg (fun l => l[j]?) ht
   simp only [Nat.mul_one, List.getElem?_take, hj, if_true, Array.getElem?_toList, regL_get hj] at this
   exact this
theorem own_ge {w : World} {base : Nat} {e : TypeId} {v : Value} {n : Nat} {xs : List Value} (h : w.ownsRow base e 1 v n xs) : ∀ k, v.ownBlock = some k -> base <= k := fun k hk => (h.lt k hk).1
theorem one_new (w : World) (v : Value) (t : TypeId) : ∀ j u, ([v] : List Value)[j]? = some u -> (w.alloc (.cells #[v] t)).cell? ((⟨w.heap.size, 0, none⟩ : Addr).add j) = some u := by
 intro j u hj
 match j, hj with
 | 0, hj => simp at hj; subst hj; simp [Addr.add]
theorem ownsRow_on {w w' : World} {base : Nat} {e : TypeId} {size : Nat} {v : Value} {n : Nat} {xs : List Value} (h : w.ownsRow base e size v n xs) (hk : ∀ k, base <= k -> k < w.heap.size -> w'.heap[k]? = w.heap[k]?) : w'.ownsRow base e size v n xs := by
 refine ⟨h.1, or_right h.2 ?_⟩
 rintro ⟨g, cap, cur, hv, hg, hh, r⟩
 exact ⟨g, cap, cur, hv, hg, by rw [hk g hg (Array.getElem?_eq_some_iff.1 hh).1]; exact hh, r⟩
structure NewI (B : Nat) (w wr : World) (v : Value) (k : Nat) : Prop where
 head : wr.heap[B]? = some (.cells #[v] 350 (0, 0))
 owns : wr.ownsRow (B + 1) 83 1 v k (List.replicate k (.int .u64 0))
 below : Below B w wr
 size : B + 1 <= wr.heap.size
theorem NewI.step {B : Nat} {w wr w1 : World} {v : Value} {k : Nat} {v' : Value} {o : Obj} (h : NewI B w wr v k)
 (hown : w1.ownsRow (B + 1) 83 1 v' (k + 1) (List.replicate k (.int .u64 0) ++ [.int .u64 0])) (hg : (wr.alloc o).grownBy w1 v.ownBlock) :
 w1.heap[B]? = some (.cells #[v] 350 (0, 0)) /\ NewI B w (w1.setCell ⟨B, 0, none⟩ v') v' (k + 1) := by
 have hs := h.size
 have hb1 : Below (B + 1) wr w1 := ((Below.refl _ _).alloc (by omega) o).grown hg (by simp; omega) (own_ge h.owns)
 have hhead : w1.heap[B]? = some (.cells #[v] 350 (0, 0)) := by rw [hb1.block B (by omega)]; exact h.head
 have hz := hb1.size
 refine ⟨hhead, ?_, ?_, ?_, ?_⟩
 · rw [heap_setCell_same w1 B 0 _ _ v' hhead]
   rfl
 · rw [List.replicate_succ']
   exact ownsRow_on hown fun j hj _ => Below.heap_setCell _ _ _ _ (by show j ≠ B; omega)
 · exact (h.below.trans (hb1.mono (by omega))).setCell (Nat.le_refl _) _
 · simp only [World.size_setCell]
   omega
theorem NewI.done {B : Nat} {w wr : World} {v : Value} (h : NewI B w wr v 8) : RefIs wr (fun i => B <= i) B fun _ => 0 := by
 have e : List.replicate 8 (Value.int .u64 0) = regL fun _ => 0 := rfl
 have ho := h.owns
 rw [e] at ho
 obtain ⟨g, cap, rfl, hg, hl⟩ := owns_list ho
 exact ⟨g, cap, Nat.le_refl _, h.head, hl, by omega⟩
theorem NewI.start (w : World) : NewI w.heap.size w (w.alloc (.cells #[.slice none 0 0] 350)) (.slice none 0 0) 0 :=
 ⟨heap_alloc_new _ _, ⟨rfl, .inl ⟨rfl, rfl⟩⟩, (Below.refl _ _).alloc (Nat.le_refl _) _, by simp⟩
theorem ownsRow_succ {w : World} {base : Nat} {e : TypeId} {v : Value} {n : Nat} {xs : List Value} (h : w.ownsRow base e 1 v (n + 1) xs) : ∃ g cap, v = .slice (some ⟨g, 0, none⟩) (n + 1) cap := by
 rcases h.2 with ⟨_, e⟩ | ⟨g, cap, _, e, _⟩
 · cases e
 · exact ⟨g, cap, e⟩
theorem rnew_any (w : World) :
 Calls Tryz.prog 164 #[] w fun e w' => e = .returned (.pointer (some ⟨w.heap.size, 0, none⟩)) /\ RefIs w' (fun i => w.heap.size <= i) w.heap.size (fun _ => 0) /\ Below w.heap.size w w' := by
 obtain ⟨it, hi, hz0, hz1, hz2⟩ := info_parts infoWord
 have H0 : Hid (NewI w.heap.size w (w.alloc (.cells #[.slice none 0 0] 350)) (.slice none 0 0) 0) := NewI.start w
 go_enter Tryz.func164, Tryz.ntmps164
 go_wp2
 go_loopw [2] (fun i wr => ∃ k : Nat, k <= 8 /\ i = .int .i64 k /\ ∃ v, NewI w.heap.size w wr v k) (fun i _ => 8 - (intOf i).toNat)
 case atStart => exact ⟨0, by omega, rfl, _, H0.out⟩
 case round =>
  obtain ⟨k, hk, rfl, v, hI⟩ := hrel
  have HI : Hid (NewI w.heap.size w wr v k) := hI
  clear hI H0
  by_cases hlt : k < 8
  · have hki : (k : Int) < 8 := by omega
    have hs := HI.out.size
    have d0 : wr.cell? ⟨w.heap.size, 0, none⟩ = some v := by rw [cell_of_row wr _ 0 _ _ _ HI.out.head]; rfl
    go_wp2_with (at_builtin; refine wpList_append_own_at _ rfl _ _ 211 rfl (w.heap.size + 1) 83 it (.int .u64 0) 1 8 Tryz.underlying211 hi hz0 hz1 hz2 rfl (by decide) _ _ _ rfl (HI.out.owns.alloc _) _ 1 1 [.int .u64 0] rfl rfl (one_new wr _ _) (by simp [Value.oneCell']) (by unfold maxLen; omega) (by omega) (by simp; omega) ?_; intro v1 w1 hown hgrow _ hat; obtain ⟨g1, p1, rfl⟩ := ownsRow_succ hown; have S := HI.out.step hown hgrow; clear d0; have d1 : w1.cell? ⟨w.heap.size, 0, none⟩ = some v := (by rw [cell_of_row w1 _ 0 _ _ _ S.1]; rfl); have z1 : w1.frozen? ⟨w.heap.size, 0, none⟩ = false := frozen_of_row w1 _ 0 _ _ S.1; have HS1 : Hid (NewI w.heap.size w (w1.setCell ⟨w.heap.size, 0, none⟩ (.slice (some ⟨g1, 0, none⟩) (k + 1) p1)) (.slice (some ⟨g1, 0, none⟩) (k + 1) p1) (k + 1)) := S.2; clear hown hgrow hat S)
    go_roundw
    case rel => exact ⟨k + 1, by omega, by go_num, _, HS1.out⟩
    case measure => simp [intOf]; omega
  · obtain rfl : k = 8 := by omega
    go_wp2
    go_ret
    exact ⟨rfl, HI.out.done, HI.out.below⟩
end Pvregs
namespace Pvtlb
open Pbase Ptint Ptlb Go.RowKit Go.ChangeMaps
def rc (x : En) : List Value := [.int .i64 x.1.1, .int .i64 x.1.2, .bool x.2.1.1, .int .i64 x.2.1.2.1, .int .i64 x.2.1.2.2.1, .int .i64 x.2.1.2.2.2]
def rcells (S : List En) : List Value := S.flatMap rc
structure RefIs (F : Nat -> Prop) (w : World) (q : Nat) (room : Int) (ao : Option Addr) (cap : Nat) (S : List En) : Prop where
 row : w.heap[q]? = some (.cells #[.slice ao S.length cap, .int .i64 room] 348 (0, 0))
 ge : F q
 capn : S.length <= cap
 held : (S = [] /\ (ao = none \/ ∃ a, ao = some a)) \/ ∃ g off cur, ao = some ⟨g, off, none⟩ /\ F g /\ w.heap[g]? = some (.cells cur 436 (0, 0)) /\ ∀ t, t < S.length * 6 -> cur[off + t]? = (rcells S)[t]?
theorem RefIs.lt {F : Nat -> Prop} {w : World} {q : Nat} {room : Int} {ao : Option Addr} {cap : Nat} {S : List En} (h : RefIs F w q room ao cap S) : q < w.heap.size := (Array.getElem?_eq_some_iff.1 h.row).1
theorem rnew_ok (r : Int) (w : World) (h0 : 0 <= r) (h1 : r <= 8) :
 Calls Tryz.prog 163 #[.int .i64 r] w fun e w' => e = .returned (.tuple #[.pointer (some ⟨w.heap.size, 0, none⟩), .int .i64 0]) /\ (∀ F : Nat -> Prop, F w.heap.size -> RefIs F w' w.heap.size r none 0 []) /\ Below w.heap.size w w' := by
 have n0 : ¬ r < 0 := by omega
 have n1 : ¬ 8 < r := by omega
 go_enter Tryz.func163, Tryz.ntmps163
 go_wp2
 go_ret2
 exact ⟨rfl, fun F hn => ⟨heap_alloc_new w _, hn, Nat.le_refl _, .inl ⟨rfl, .inl rfl⟩⟩, bal (Below.refl _ _) _⟩
end Pvtlb
namespace Pvmem
open Pbase Pmem Ptint Go.RowKit
structure RefM (w : World) (F : Nat -> Prop) (p N B T : Nat) (M : Nat -> Nat -> Int) : Prop where
 ref : RefIs w B p N M
 top : Top w p T
 col : ∀ i, B <= i -> i < T -> F i
section
variable {w w' : World} {F : Nat -> Prop} {p N B T : Nat} {M M' : Nat -> Nat -> Int}
theorem RefM.on (h : RefM w F p N B T M) (hs : w.heap.size <= w'.heap.size) (hk : ∀ i, F i -> i < w.heap.size -> w'.heap[i]? = w.heap[i]?) : RefM w' F p N B T M := by
 obtain ⟨⟨hp, v, hv, r, c, h1, h2, h3⟩, hT, hc⟩ := h
 have key : ∀ i, B <= i -> i < T -> w'.heap[i]? = w.heap[i]? := fun i hb ht => hk i (hc i hb ht) (Nat.lt_of_lt_of_le ht hT.1)
 have kc : ∀ i j, B <= i -> i < T -> w'.cell? ⟨i, j, none⟩ = w.cell? ⟨i, j, none⟩ := fun i j hb ht => World.cell?_of_block (w := w) (key i hb ht)
 refine ⟨⟨hp, v, (key p hp hT.2.1).trans hv, r, c, ?_, fun j hj => ?_, h3⟩, ⟨Nat.le_trans hT.1 hs, hT.2.1, fun g n cap e => ?_⟩, hc⟩
 · refine ⟨h1.1, ?_⟩
   rcases h1.2 with e | ⟨g, cap, cur, rfl, hg, hh, rest⟩
   · exact .inl e
   · have hc1 : w.cell? ⟨p, 0, none⟩ = some (.slice (some ⟨g, 0, none⟩) N cap) := by rw [cell_of_row w p 0 _ _ _ hv]; rfl
     exact .inr ⟨g, cap, cur, rfl, hg, (key g hg (hT.2.2 g N cap hc1).1).trans hh, rest⟩
 · obtain ⟨hb, cu, hcu, hw⟩ := h2 j hj
   rcases h1.2 with ⟨_, e0⟩ | ⟨g, cap, cur, rfl, hg, hh, rest⟩
   · omega
   · have hcp : w.cell? ⟨p, 0, none⟩ = some (.slice (some ⟨g, 0, none⟩) N cap) := by rw [cell_of_row w p 0 _ _ _ hv]; rfl
     have hcg : w.cell? ⟨g, j, none⟩ = some (.slice (some ⟨r j, 0, none⟩) 36 (c j)) := by rw [h1.cellAt (g := g) j (by omega)]; simp [hj]
     exact ⟨hb, cu, (key _ hb ((hT.2.2 g N cap hcp).2 j _ _ _ hj hcg)).trans hcu, hw⟩
 · rw [kc p 0 hp hT.2.1] at e
   obtain ⟨hg, hx⟩ := hT.2.2 g n cap e
   refine ⟨hg, fun f x l cc hf e2 => ?_⟩
   rcases h1.2 with ⟨e1, e0⟩ | ⟨g1, cap1, cur, e1, hg1, hh, rest⟩
   · rw [cell_of_row w p 0 _ _ _ hv, e1] at e
     simp at e
   · rw [cell_of_row w p 0 _ _ _ hv, e1] at e
     simp at e
     obtain ⟨rfl, _⟩ := e
     rw [kc g1 f hg1 hg] at e2
     exact hx f x l cc hf e2
theorem RefM.turn (h : RefM w F p N B T M) (hR : RefIs w' B p N M') (hB : Below B w w') (hK : KeepX p w w') : RefM w' F p N B T M' /\ Tint F w w' := by
 obtain ⟨hT, hu⟩ := hK.up T h.top
 refine ⟨⟨hR, hT, h.col⟩, hB.os, hB.tape, hB.output, hK.size, fun i hi hn => ?_⟩
 by_cases h1 : i < B
 · exact hB.block i h1
 · by_cases h2 : i < T
   · exact absurd (h.col i (by omega) h2) hn
   · exact hu i (by omega) hi
theorem RefM.made (hR : RefIs w B p N M) (hN : 1 <= N) (hF : ∀ i, B <= i -> i < w.heap.size -> F i) : RefM w F p N B w.heap.size M := ⟨hR, hR.top hN, hF⟩
end
theorem vclear_any {F : Nat -> Prop} {p N B T : Nat} (f : Int) {M : Nat -> Nat -> Int} {w : World} (hN1 : 1 <= N) (hN : N <= 64) (h : RefM w F p N B T M) :
 Calls Tryz.prog 98 #[.pointer (some ⟨p, 0, none⟩), .int .i64 f] w fun e w' => e = .returned (.int .i64 (errF N f)) /\ RefM w' F p N B T (clM N M f) /\ Tint F w w' := by
 have hR := h.ref
 cases hk : okF N f
 · simp only [clM, errF, hk, Bool.false_eq_true, if_false]
   exact (rclear_bad B p N f M w hk hN1 hN hR).mono fun _ _ ⟨h1, h2⟩ => ⟨h1, by rw [h2]; exact ⟨h, Tint.refl _ _⟩⟩
 · obtain ⟨c, rfl, hc⟩ := okF_split hk
   have e : errF N (c : Int) = 0 := by simp only [errF, hk, if_true]
   rw [e]
   exact (rclear_x B p N c M w hc hN hR).mono fun _ _ ⟨h1, h2, h3, h4⟩ => ⟨h1, h.turn h2 h3 h4⟩
end Pvmem
end Go.Proofs.YtkkclcihjojphaaGreatDoor
