import Derived.Test.YtkkclcihjojphaaGreatDoorPkJ
set_option linter.unusedVariables false
set_option linter.unusedSimpArgs false
set_option maxRecDepth 100000
set_option maxHeartbeats 20000000
namespace Go.Proofs.YtkkclcihjojphaaGreatDoor
namespace Pstack
open Pbase Pfield Play Pmem Pthd Go.RowKit M
structure Rc where
 co : Int
 tb : Int
 pg : Int
 l : Int
 e : Int
 ip : Int
def Ro (x : Rc) : Prop := (0 <= x.co /\ x.co <= 63) /\ (0 <= x.tb /\ x.tb <= 63) /\ (0 <= x.pg /\ x.pg <= 63) /\ (0 <= x.l /\ x.l <= 63) /\ (0 <= x.e /\ x.e <= 65535) /\ (0 <= x.ip /\ x.ip <= 1073741824)
def roB (x : Rc) : Bool := (decide (0 <= x.co) && decide (x.co <= 63)) && (decide (0 <= x.tb) && decide (x.tb <= 63)) && (decide (0 <= x.pg) && decide (x.pg <= 63)) && (decide (0 <= x.l) && decide (x.l <= 63)) && (decide (0 <= x.e) && decide (x.e <= 65535)) && (decide (0 <= x.ip) && decide (x.ip <= 1073741824))
theorem roB_iff (x : Rc) : roB x = true ↔ Ro x := by
 unfold roB Ro
 simp
 omega
theorem roB_yes {x : Rc} (h : Ro x) : roB x = true := (roB_iff x).2 h
theorem roB_no {x : Rc} (h : ¬ Ro x) : roB x = false := Bool.eq_false_iff.2 fun e => h ((roB_iff x).1 e)
def rkE (x : Rc) : Int := if roB x = true then 0 else 1
def rws : List Int := [6, 6, 6, 6, 16]
theorem mask6 : maskF 6 = 63 := by decide
theorem mask16 : maskF 16 = 65535 := by decide
def Rc.vs (x : Rc) : List Int := [x.co, x.tb, x.pg, x.l, x.e]
def rwd (x : Rc) : Int := packF rws x.vs
theorem rput_can {x : Rc} (h : Ro x) : (∀ j : Nat, 0 <= x.vs[j]?.getD 0 /\ x.vs[j]?.getD 0 <= 18446744073709551615) /\ ∀ j, j < rws.length -> okP rws x.vs j = true := by
 unfold Ro at h
 constructor
 · intro j
   match j with
   | 0 | 1 | 2 | 3 | 4 => simp [Rc.vs]; omega
   | j + 5 => simp [Rc.vs]
 · intro j hj
   match j, hj with
   | 0, _ | 1, _ | 2, _ | 3, _ | 4, _ =>
     simp [okP, Pfield.M.inB, fitsB, mask6, mask16, sumTo, rws, Rc.vs, wrap64]
     omega
theorem rwd_bd {x : Rc} (h : Ro x) : 0 <= rwd x /\ rwd x <= 18446744073709551615 := (pack_unpack (zs := rws) (vs := x.vs) rfl (rput_can h).1 (rput_can h).2).1
def dpN (M : Nat -> Nat -> Int) (f : Int) : Nat := (M f.toNat 8).toNat
def lyR (N : Nat) (M : Nat -> Nat -> Int) (f : Int) (i : Nat) (x : Rc) : Nat -> Nat -> Int := stW N (stW N M f (17 + 2 * (i : Int)) (rwd x)) f (18 + 2 * (i : Int)) x.ip
def psE (N : Nat) (M : Nat -> Nat -> Int) (f : Int) (x : Rc) : Int := if roB x = true then if gtE N M f = 0 then if dpN M f = 6 then 8 else 0 else gtE N M f else 1
def psM (N : Nat) (M : Nat -> Nat -> Int) (f : Int) (x : Rc) : Nat -> Nat -> Int := if psE N M f x = 0 then stW N (lyR N M f (dpN M f) x) f 8 (dpN M f + 1 : Nat) else M
theorem gt_dp {N : Nat} {M : Nat -> Nat -> Int} {f : Int} (h : gtE N M f = 0) : okF N f = true /\ (thOf M f).de = (dpN M f : Nat) /\ dpN M f <= 6 := by
 obtain ⟨h1, h2, _⟩ := gt_yes h
 have h3 := h2.2.2.2.2
 have e : (thOf M f).de = M f.toNat 8 := rfl
 rw [e] at h3
 refine ⟨isE_ok h1, ?_, ?_⟩
 · rw [e]
   unfold dpN
   omega
 · unfold dpN
   omega
theorem st_at {N : Nat} {M : Nat -> Nat -> Int} {f a v : Int} (hf : okF N f = true) (ha : 0 <= a /\ a < 36) (g b : Nat) : stW N M f a v g b = if g = f.toNat /\ b = a.toNat then v else M g b := by
 have ho : okW N f a = true := by unfold okW; rw [hf]; simp; omega
 unfold stW
 rw [if_pos ho]
def dpX (x : Th) (d : Int) : Th := ⟨x.st, x.co, x.tc, x.rc, d⟩
theorem lay_dp {N : Nat} {M : Nat -> Nat -> Int} {f : Int} (hf : okF N f = true) (d : Int) : layF N M f (dpX (thOf M f) d).ws = stW N M f 8 d := by
 funext g b
 rw [st_at hf (by omega)]
 unfold layF
 rw [if_pos hf]
 show (if g = f.toNat /\ 4 <= b /\ b < 4 + 5 then ((dpX (thOf M f) d).ws)[b - 4]?.getD 0 else M g b) = _
 by_cases hg : g = f.toNat
 · subst hg
   by_cases hb : 4 <= b /\ b < 9
   · rw [if_pos ⟨rfl, hb⟩]
     rcases (show b = 4 \/ b = 5 \/ b = 6 \/ b = 7 \/ b = 8 by omega) with rfl | rfl | rfl | rfl | rfl <;> simp [dpX, Th.ws, thOf]
   · rw [if_neg (fun h => hb h.2), if_neg (fun h => by have := h.2; omega)]
 · rw [if_neg (fun h => hg h.1), if_neg (fun h => hg h.1)]
theorem ly_low {N : Nat} {M : Nat -> Nat -> Int} {f : Int} {i : Nat} {x : Rc} {g b : Nat} (hf : okF N f = true) (hi : i < 6) (hb : b < 17) : lyR N M f i x g b = M g b := by
 unfold lyR
 rw [st_at hf (by omega), if_neg (fun h => by have := h.2; omega), st_at hf (by omega), if_neg (fun h => by have := h.2; omega)]
theorem ly_th {N : Nat} {M : Nat -> Nat -> Int} {f : Int} {i : Nat} {x : Rc} (hf : okF N f = true) (hi : i < 6) : thOf (lyR N M f i x) f = thOf M f := by
 unfold thOf
 rw [ly_low hf hi (by omega), ly_low hf hi (by omega), ly_low hf hi (by omega), ly_low hf hi (by omega), ly_low hf hi (by omega)]
theorem ly_is {N : Nat} {M : Nat -> Nat -> Int} {f : Int} {i : Nat} {x : Rc} (hf : okF N f = true) (hi : i < 6) (q : Int) : Phead.isE N (lyR N M f i x) f q = Phead.isE N M f q := is_words (fun j hj => ly_low hf hi (by omega)) q
theorem ps_put {N : Nat} {M : Nat -> Nat -> Int} {f : Int} {x : Rc} (h : psE N M f x = 0) : Pthd.puE N (lyR N M f (dpN M f) x) f (dpX (thOf M f) ((dpN M f + 1 : Nat) : Int)) = 0 /\ Pthd.puM N (lyR N M f (dpN M f) x) f (dpX (thOf M f) ((dpN M f + 1 : Nat) : Int)) = psM N M f x := by
 have h' := h
 unfold psE at h'
 split at h'
 · split at h'
   · rename_i hg
     split at h'
     · exact absurd h' (by decide)
     · rename_i hd
       obtain ⟨hf, hde, h6⟩ := gt_dp hg
       obtain ⟨h1, h2, _⟩ := gt_yes hg
       have hto : To (dpX (thOf M f) ((dpN M f + 1 : Nat) : Int)) := by
        unfold To at h2 ⊢
        unfold dpX
        dsimp only
        omega
       have e1 : Pthd.puE N (lyR N M f (dpN M f) x) f (dpX (thOf M f) ((dpN M f + 1 : Nat) : Int)) = 0 := by
        unfold Pthd.puE
        rw [if_pos (toB_yes hto), ly_is hf (by omega), if_pos h1]
       refine ⟨e1, ?_⟩
       unfold Pthd.puM psM
       rw [if_pos e1, if_pos h, <- ly_th (N := N) (i := dpN M f) (x := x) hf (by omega)]
       exact lay_dp hf _
   · rename_i hg
     exact absurd h' hg
 · exact absurd h' (by decide)
section
variable {M : Nat -> Nat -> Int} {L : List Rc}
end
structure RowR (w : World) (B : Nat) (x : Rc) : Prop where
 row : w.heap[B]? = some (.cells #[.int .i64 x.co, .int .i64 x.tb, .int .i64 x.pg, .int .i64 x.l, .int .i64 x.e, .int .i64 x.ip] 183 (0, 0))
section
variable {w w' : World} {B : Nat} {x : Rc}
theorem RowR.lt (h : RowR w B x) : B < w.heap.size := (Array.getElem?_eq_some_iff.1 h.row).1
theorem RowR.c0 (h : RowR w B x) : w.cell? ⟨B, 0, none⟩ = some (.int .i64 x.co) := (cell_of_row _ _ _ _ _ _ h.row).trans rfl
theorem RowR.c1 (h : RowR w B x) : w.cell? ⟨B, 1, none⟩ = some (.int .i64 x.tb) := (cell_of_row _ _ _ _ _ _ h.row).trans rfl
theorem RowR.c2 (h : RowR w B x) : w.cell? ⟨B, 2, none⟩ = some (.int .i64 x.pg) := (cell_of_row _ _ _ _ _ _ h.row).trans rfl
theorem RowR.c3 (h : RowR w B x) : w.cell? ⟨B, 3, none⟩ = some (.int .i64 x.l) := (cell_of_row _ _ _ _ _ _ h.row).trans rfl
theorem RowR.c4 (h : RowR w B x) : w.cell? ⟨B, 4, none⟩ = some (.int .i64 x.e) := (cell_of_row _ _ _ _ _ _ h.row).trans rfl
theorem RowR.c5 (h : RowR w B x) : w.cell? ⟨B, 5, none⟩ = some (.int .i64 x.ip) := (cell_of_row _ _ _ _ _ _ h.row).trans rfl
theorem RowR.on (h : RowR w B x) (hB : Below w.heap.size w w') : RowR w' B x := ⟨(hB.block B h.lt).trans h.row⟩
theorem rowR_new (w : World) (x : Rc) : RowR (w.alloc (.cells #[.int .i64 x.co, .int .i64 x.tb, .int .i64 x.pg, .int .i64 x.l, .int .i64 x.e, .int .i64 x.ip] 183)) w.heap.size x := ⟨heap_alloc_new w _⟩
end
structure RowL (w : World) (B p : Nat) (f i : Int) : Prop where
 row : w.heap[B]? = some (.cells #[.pointer (some ⟨p, 0, none⟩), .int .i64 f, .int .i64 i] 307 (0, 0))
section
variable {w w' : World} {B p : Nat} {f i : Int}
theorem RowL.lt (h : RowL w B p f i) : B < w.heap.size := (Array.getElem?_eq_some_iff.1 h.row).1
theorem RowL.c0 (h : RowL w B p f i) : w.cell? ⟨B, 0, none⟩ = some (.pointer (some ⟨p, 0, none⟩)) := (cell_of_row _ _ _ _ _ _ h.row).trans rfl
theorem RowL.c1 (h : RowL w B p f i) : w.cell? ⟨B, 1, none⟩ = some (.int .i64 f) := (cell_of_row _ _ _ _ _ _ h.row).trans rfl
theorem RowL.c2 (h : RowL w B p f i) : w.cell? ⟨B, 2, none⟩ = some (.int .i64 i) := (cell_of_row _ _ _ _ _ _ h.row).trans rfl
theorem RowL.on (h : RowL w B p f i) (hB : Below w.heap.size w w') : RowL w' B p f i := ⟨(hB.block B h.lt).trans h.row⟩
theorem RowL.but {b : Nat} (h : RowL w B p f i) (hB : But b w w') (hn : B ≠ b) : RowL w' B p f i := ⟨(hB.block B h.lt hn).trans h.row⟩
theorem rowL_new (w : World) (p : Nat) (f i : Int) : RowL (w.alloc (.cells #[.pointer (some ⟨p, 0, none⟩), .int .i64 f, .int .i64 i] 307)) w.heap.size p f i := ⟨heap_alloc_new w _⟩
end
structure TabR (w : World) : Prop where
 lt : 3 < w.heap.size
 row : ∃ t fr, w.heap[(3 : Nat)]? = some (.cells #[.int .i64 6, .int .i64 6, .int .i64 6, .int .i64 6, .int .i64 16] t fr)
theorem TabR.on {w w' : World} (h : TabR w) (hB : Below w.heap.size w w') : TabR w' :=
 ⟨Nat.lt_of_lt_of_le h.lt hB.size, by obtain ⟨t, fr, hr⟩ := h.row; exact ⟨t, fr, (hB.block 3 h.lt).trans hr⟩⟩
theorem TabR.but {w w' : World} {b : Nat} (h : TabR w) (hB : But b w w') (hn : 3 ≠ b) : TabR w' :=
 ⟨Nat.lt_of_lt_of_le h.lt hB.size, by obtain ⟨t, fr, hr⟩ := h.row; exact ⟨t, fr, (hB.block 3 h.lt hn).trans hr⟩⟩
theorem tabR_ne {w : World} {p b N : Nat} {M : Nat -> Nat -> Int} (hM : MemIs w p b N M) (hW : TabR w) : 3 ≠ b := by
 intro e
 obtain ⟨t, fr, hr⟩ := hW.row
 rw [e, hM.row] at hr
 simp only [Option.some.injEq, Obj.cells.injEq] at hr
 have := congrArg Array.size hr.1
 rw [cellsM_size] at this
 simp at this
 omega
theorem TabR.cells {w : World} (h : TabR w) : w.cell? ⟨3, 0, none⟩ = some (.int .i64 6) /\ w.cell? ⟨3, 1, none⟩ = some (.int .i64 6) /\ w.cell? ⟨3, 2, none⟩ = some (.int .i64 6) /\ w.cell? ⟨3, 3, none⟩ = some (.int .i64 6) /\ w.cell? ⟨3, 4, none⟩ = some (.int .i64 16) := by
 obtain ⟨t, fr, hr⟩ := h.row
 exact ⟨(cell_of_row _ _ 0 _ _ _ hr).trans rfl, (cell_of_row _ _ 1 _ _ _ hr).trans rfl, (cell_of_row _ _ 2 _ _ _ hr).trans rfl, (cell_of_row _ _ 3 _ _ _ hr).trans rfl, (cell_of_row _ _ 4 _ _ _ hr).trans rfl⟩
structure Sx (w : World) (p b N : Nat) (M : Nat -> Nat -> Int) : Prop where
 mx : Pthd.Mx w p b N M
 tb : TabR w
theorem Sx.on {w w' : World} {p b N : Nat} {M : Nat -> Nat -> Int} (h : Sx w p b N M) (hB : Below w.heap.size w w') : Sx w' p b N M := ⟨h.mx.on hB, h.tb.on hB⟩
theorem Sx.but {w w' : World} {p b N : Nat} {M M' : Nat -> Nat -> Int} (h : Sx w p b N M) (hX : Pthd.Mx w' p b N M') (hB : But b w w') : Sx w' p b N M' := ⟨hX, h.tb.but hB (tabR_ne h.mx.mem h.tb)⟩
theorem Sx.ltb {w : World} {p b N : Nat} {M : Nat -> Nat -> Int} (h : Sx w p b N M) : b < w.heap.size := h.mx.mem.lt.2
theorem ly_gt {N : Nat} {M : Nat -> Nat -> Int} {f : Int} {i : Nat} {x : Rc} (hf : okF N f = true) (hi : i < 6) : gtE N (lyR N M f i x) f = gtE N M f := by
 unfold gtE
 rw [ly_is hf hi, ly_th hf hi]
theorem dp_put {N : Nat} {M : Nat -> Nat -> Int} {f : Int} {d : Nat} (hg : gtE N M f = 0) (hd : d <= 6) : Pthd.puE N M f (dpX (thOf M f) (d : Int)) = 0 /\ Pthd.puM N M f (dpX (thOf M f) (d : Int)) = stW N M f 8 (d : Int) /\ To (dpX (thOf M f) (d : Int)) := by
 obtain ⟨hf, hde, h6⟩ := gt_dp hg
 obtain ⟨h1, h2, _⟩ := gt_yes hg
 have hto : To (dpX (thOf M f) (d : Int)) := by
  unfold To at h2 ⊢
  unfold dpX
  dsimp only
  omega
 have e1 : Pthd.puE N M f (dpX (thOf M f) (d : Int)) = 0 := by
  unfold Pthd.puE
  rw [if_pos (toB_yes hto), if_pos h1]
 refine ⟨e1, ?_, hto⟩
 unfold Pthd.puM
 rw [if_pos e1]
 exact lay_dp hf _
theorem ints_rws (w : World) (ty : TypeId) : Ints .i64 (w.alloc (.cells #[.int .i64 6, .int .i64 6, .int .i64 6, .int .i64 6, .int .i64 16] ty)).heap.size (w.alloc (.cells #[.int .i64 6, .int .i64 6, .int .i64 6, .int .i64 6, .int .i64 16] ty)) (.slice (some ⟨w.heap.size, 0, none⟩) 5 5) rws := by
 refine .inr ⟨w.heap.size, 0, 5, rfl, by simp, fun j hj => ?_⟩
 rw [Nat.zero_add, cell_of_row _ _ j _ _ _ (heap_alloc_new w _)]
 match j, hj with
 | 0, _ | 1, _ | 2, _ | 3, _ | 4, _ => rfl
theorem ints_vs (w : World) (x : Rc) (ty : TypeId) : Ints .u64 (w.alloc (.cells #[.int .u64 x.co, .int .u64 x.tb, .int .u64 x.pg, .int .u64 x.l, .int .u64 x.e] ty)).heap.size (w.alloc (.cells #[.int .u64 x.co, .int .u64 x.tb, .int .u64 x.pg, .int .u64 x.l, .int .u64 x.e] ty)) (.slice (some ⟨w.heap.size, 0, none⟩) 5 5) x.vs := by
 refine .inr ⟨w.heap.size, 0, 5, rfl, by simp, fun j hj => ?_⟩
 rw [Nat.zero_add, cell_of_row _ _ j _ _ _ (heap_alloc_new w _)]
 match j, hj with
 | 0, _ | 1, _ | 2, _ | 3, _ | 4, _ => rfl
end Pstack
namespace Pstack
open Pbase Pfield Play Pmem Pthd Go.RowKit Go.ChangeShapes Go.WideShapes
theorem gTr : (Tryz.prog.globals[(3 : Nat)]?).map (·.type) = some 379 := by kernel_rfl
theorem cellsWideR : Tryz.prog.cellsOf 379 = 5 := by kernel_rfl
theorem r_datum :  (Rows.laid_palanquin_stack_widths : DataW Unit) = .agg (rws.map fun z => .lit (.int .i64 z)) := rfl
theorem tabR_of {W : World} {g : Nat} {t : TypeId} {cs : Array Value} {fuel : Nat} {p : List MemPlace} {n : String} (hn : Tryz.prog.globalNamed n = some 3) (hg : Tryz.prog.globalNamed n = some g) (ht : (Tryz.prog.globals[g]?).map (·.type) = some t) (hv : W.var? Tryz.prog n = some cs)
 (hd : DataW.trod (fun _ => ()) Tryz.prog W 0 (fun _ => true) false fuel t cs.toList = some (Rows.laid_palanquin_stack_widths, p)) : TabR W := by
 obtain rfl := Option.some.inj (hn.symm.trans hg)
 obtain rfl := Option.some.inj (gTr.symm.trans ht)
 obtain ⟨t1, fr, hb⟩ := var_block hg hv
 refine ⟨block_lt hb, t1, fr, ?_⟩
 rw [r_datum] at hd
 obtain ⟨_, hl, hc⟩ := array_ints Tryz.underlying379 cellsWideR hd
 obtain ⟨cl⟩ := cs
 simp only at hl hc hb
 match cl, hl with
 | [v0, v1, v2, v3, v4], _ =>
   have g0 := hc 0 (by omega)
   have g1 := hc 1 (by omega)
   have g2 := hc 2 (by omega)
   have g3 := hc 3 (by omega)
   have g4 := hc 4 (by omega)
   simp [rws] at g0 g1 g2 g3 g4
   rw [hb, g0, g1, g2, g3, g4]
end Pstack
namespace Pstack
open Pbase Pfield Play Pmem Pthd Go.RowKit M
def upB (m v : Int) : Bool := decide (0 <= v) && decide (v <= m)
theorem upto_any (m v : Int) (w : World) : Calls Tryz.prog 249 #[.int .i64 m, .int .i64 v] w fun e w' => e = .returned (.bool (upB m v)) /\ w' = w := by
 unfold upB
 by_cases h : 0 <= v
 · go_enter Tryz.func249, Tryz.ntmps249
   go_wp2
   go_ret
   exact ⟨by simp [h], rfl⟩
 · go_enter Tryz.func249, Tryz.ntmps249
   go_wp2
   go_ret
   refine ⟨?_, rfl⟩
   have h' : decide (0 <= v) = false := by simp; omega
   rw [h']
   rfl
theorem roB_up (c : Rc) : roB c = (upB 63 c.co && upB 63 c.tb && upB 63 c.pg && upB 63 c.l && upB 65535 c.e && upB 1073741824 c.ip) := rfl
theorem check_any (c : Rc) (w : World) : Calls Tryz.prog 202 #[.agg #[.int .i64 c.co, .int .i64 c.tb, .int .i64 c.pg, .int .i64 c.l, .int .i64 c.e, .int .i64 c.ip]] w fun e w' => e = .returned (.int .i64 (rkE c)) /\ Below w.heap.size w w' := by
 have I0 : Hid (∀ wc, Calls Tryz.prog 249 #[.int .i64 63, .int .i64 c.co] wc fun e w' => e = .returned (.bool (upB 63 c.co)) /\ w' = wc) := fun wc => upto_any 63 c.co wc
 have I1 : Hid (∀ wc, Calls Tryz.prog 249 #[.int .i64 63, .int .i64 c.tb] wc fun e w' => e = .returned (.bool (upB 63 c.tb)) /\ w' = wc) := fun wc => upto_any 63 c.tb wc
 have I2 : Hid (∀ wc, Calls Tryz.prog 249 #[.int .i64 63, .int .i64 c.pg] wc fun e w' => e = .returned (.bool (upB 63 c.pg)) /\ w' = wc) := fun wc => upto_any 63 c.pg wc
 have I3 : Hid (∀ wc, Calls Tryz.prog 249 #[.int .i64 63, .int .i64 c.l] wc fun e w' => e = .returned (.bool (upB 63 c.l)) /\ w' = wc) := fun wc => upto_any 63 c.l wc
 have I4 : Hid (∀ wc, Calls Tryz.prog 249 #[.int .i64 65535, .int .i64 c.e] wc fun e w' => e = .returned (.bool (upB 65535 c.e)) /\ w' = wc) := fun wc => upto_any 65535 c.e wc
 have I5 : Hid (∀ wc, Calls Tryz.prog 249 #[.int .i64 1073741824, .int .i64 c.ip] wc fun e w' => e = .returned (.bool (upB 1073741824 c.ip)) /\ w' = wc) := fun wc => upto_any 1073741824 c.ip wc
 unfold rkE
 rw [roB_up]
 generalize upB 63 c.co = R0 at I0 ⊢
 generalize upB 63 c.tb = R1 at I1 ⊢
 generalize upB 63 c.pg = R2 at I2 ⊢
 generalize upB 63 c.l = R3 at I3 ⊢
 generalize upB 65535 c.e = R4 at I4 ⊢
 generalize upB 1073741824 c.ip = R5 at I5 ⊢
 cases R0
 · show Calls Tryz.prog 202 _ w fun e w' => e = .returned (.int .i64 1) /\ Below w.heap.size w w'
   go_enter Tryz.func202, Tryz.ntmps202
   go_wp2_with (first
    | (go_at_call 249; refine (I0.out _).mono ?_; rintro e0 w0 ⟨rfl, hw⟩; subst hw; clear I0)
    | (go_at_call 249; refine (I1.out _).mono ?_; rintro e1 w1 ⟨rfl, hw⟩; subst hw; clear I1)
    | (go_at_call 249; refine (I2.out _).mono ?_; rintro e2 w2 ⟨rfl, hw⟩; subst hw; clear I2)
    | (go_at_call 249; refine (I3.out _).mono ?_; rintro e3 w3 ⟨rfl, hw⟩; subst hw; clear I3)
    | (go_at_call 249; refine (I4.out _).mono ?_; rintro e4 w4 ⟨rfl, hw⟩; subst hw; clear I4)
    | (go_at_call 249; refine (I5.out _).mono ?_; rintro e5 w5 ⟨rfl, hw⟩; subst hw; clear I5)
    | fail)
   go_ret
   exact ⟨rfl, bal (Below.refl _ _) _⟩
 cases R1
 · show Calls Tryz.prog 202 _ w fun e w' => e = .returned (.int .i64 1) /\ Below w.heap.size w w'
   go_enter Tryz.func202, Tryz.ntmps202
   go_wp2_with (first
    | (go_at_call 249; refine (I0.out _).mono ?_; rintro e0 w0 ⟨rfl, hw⟩; subst hw; clear I0)
    | (go_at_call 249; refine (I1.out _).mono ?_; rintro e1 w1 ⟨rfl, hw⟩; subst hw; clear I1)
    | (go_at_call 249; refine (I2.out _).mono ?_; rintro e2 w2 ⟨rfl, hw⟩; subst hw; clear I2)
    | (go_at_call 249; refine (I3.out _).mono ?_; rintro e3 w3 ⟨rfl, hw⟩; subst hw; clear I3)
    | (go_at_call 249; refine (I4.out _).mono ?_; rintro e4 w4 ⟨rfl, hw⟩; subst hw; clear I4)
    | (go_at_call 249; refine (I5.out _).mono ?_; rintro e5 w5 ⟨rfl, hw⟩; subst hw; clear I5)
    | fail)
   go_ret
   exact ⟨rfl, bal (Below.refl _ _) _⟩
 cases R2
 · show Calls Tryz.prog 202 _ w fun e w' => e = .returned (.int .i64 1) /\ Below w.heap.size w w'
   go_enter Tryz.func202, Tryz.ntmps202
   go_wp2_with (first
    | (go_at_call 249; refine (I0.out _).mono ?_; rintro e0 w0 ⟨rfl, hw⟩; subst hw; clear I0)
    | (go_at_call 249; refine (I1.out _).mono ?_; rintro e1 w1 ⟨rfl, hw⟩; subst hw; clear I1)
    | (go_at_call 249; refine (I2.out _).mono ?_; rintro e2 w2 ⟨rfl, hw⟩; subst hw; clear I2)
    | (go_at_call 249; refine (I3.out _).mono ?_; rintro e3 w3 ⟨rfl, hw⟩; subst hw; clear I3)
    | (go_at_call 249; refine (I4.out _).mono ?_; rintro e4 w4 ⟨rfl, hw⟩; subst hw; clear I4)
    | (go_at_call 249; refine (I5.out _).mono ?_; rintro e5 w5 ⟨rfl, hw⟩; subst hw; clear I5)
    | fail)
   go_ret
   exact ⟨rfl, bal (Below.refl _ _) _⟩
 cases R3
 · show Calls Tryz.prog 202 _ w fun e w' => e = .returned (.int .i64 1) /\ Below w.heap.size w w'
   go_enter Tryz.func202, Tryz.ntmps202
   go_wp2_with (first
    | (go_at_call 249; refine (I0.out _).mono ?_; rintro e0 w0 ⟨rfl, hw⟩; subst hw; clear I0)
    | (go_at_call 249; refine (I1.out _).mono ?_; rintro e1 w1 ⟨rfl, hw⟩; subst hw; clear I1)
    | (go_at_call 249; refine (I2.out _).mono ?_; rintro e2 w2 ⟨rfl, hw⟩; subst hw; clear I2)
    | (go_at_call 249; refine (I3.out _).mono ?_; rintro e3 w3 ⟨rfl, hw⟩; subst hw; clear I3)
    | (go_at_call 249; refine (I4.out _).mono ?_; rintro e4 w4 ⟨rfl, hw⟩; subst hw; clear I4)
    | (go_at_call 249; refine (I5.out _).mono ?_; rintro e5 w5 ⟨rfl, hw⟩; subst hw; clear I5)
    | fail)
   go_ret
   exact ⟨rfl, bal (Below.refl _ _) _⟩
 cases R4
 · show Calls Tryz.prog 202 _ w fun e w' => e = .returned (.int .i64 1) /\ Below w.heap.size w w'
   go_enter Tryz.func202, Tryz.ntmps202
   go_wp2_with (first
    | (go_at_call 249; refine (I0.out _).mono ?_; rintro e0 w0 ⟨rfl, hw⟩; subst hw; clear I0)
    | (go_at_call 249; refine (I1.out _).mono ?_; rintro e1 w1 ⟨rfl, hw⟩; subst hw; clear I1)
    | (go_at_call 249; refine (I2.out _).mono ?_; rintro e2 w2 ⟨rfl, hw⟩; subst hw; clear I2)
    | (go_at_call 249; refine (I3.out _).mono ?_; rintro e3 w3 ⟨rfl, hw⟩; subst hw; clear I3)
    | (go_at_call 249; refine (I4.out _).mono ?_; rintro e4 w4 ⟨rfl, hw⟩; subst hw; clear I4)
    | (go_at_call 249; refine (I5.out _).mono ?_; rintro e5 w5 ⟨rfl, hw⟩; subst hw; clear I5)
    | fail)
   go_ret
   exact ⟨rfl, bal (Below.refl _ _) _⟩
 cases R5
 · show Calls Tryz.prog 202 _ w fun e w' => e = .returned (.int .i64 1) /\ Below w.heap.size w w'
   go_enter Tryz.func202, Tryz.ntmps202
   go_wp2_with (first
    | (go_at_call 249; refine (I0.out _).mono ?_; rintro e0 w0 ⟨rfl, hw⟩; subst hw; clear I0)
    | (go_at_call 249; refine (I1.out _).mono ?_; rintro e1 w1 ⟨rfl, hw⟩; subst hw; clear I1)
    | (go_at_call 249; refine (I2.out _).mono ?_; rintro e2 w2 ⟨rfl, hw⟩; subst hw; clear I2)
    | (go_at_call 249; refine (I3.out _).mono ?_; rintro e3 w3 ⟨rfl, hw⟩; subst hw; clear I3)
    | (go_at_call 249; refine (I4.out _).mono ?_; rintro e4 w4 ⟨rfl, hw⟩; subst hw; clear I4)
    | (go_at_call 249; refine (I5.out _).mono ?_; rintro e5 w5 ⟨rfl, hw⟩; subst hw; clear I5)
    | fail)
   go_ret
   exact ⟨rfl, bal (Below.refl _ _) _⟩
 · show Calls Tryz.prog 202 _ w fun e w' => e = .returned (.int .i64 0) /\ Below w.heap.size w w'
   go_enter Tryz.func202, Tryz.ntmps202
   go_wp2_with (first
    | (go_at_call 249; refine (I0.out _).mono ?_; rintro e0 w0 ⟨rfl, hw⟩; subst hw; clear I0)
    | (go_at_call 249; refine (I1.out _).mono ?_; rintro e1 w1 ⟨rfl, hw⟩; subst hw; clear I1)
    | (go_at_call 249; refine (I2.out _).mono ?_; rintro e2 w2 ⟨rfl, hw⟩; subst hw; clear I2)
    | (go_at_call 249; refine (I3.out _).mono ?_; rintro e3 w3 ⟨rfl, hw⟩; subst hw; clear I3)
    | (go_at_call 249; refine (I4.out _).mono ?_; rintro e4 w4 ⟨rfl, hw⟩; subst hw; clear I4)
    | (go_at_call 249; refine (I5.out _).mono ?_; rintro e5 w5 ⟨rfl, hw⟩; subst hw; clear I5)
    | fail)
   go_ret
   exact ⟨rfl, bal (Below.refl _ _) _⟩
theorem word_any (p : Nat) (f : Int) (i n : Nat) (hi : i < 6) (hn : n < 2) (w : World) : Calls Tryz.prog 280 #[.agg #[.pointer (some ⟨p, 0, none⟩), .int .i64 f, .int .i64 (i : Int)], .int .i64 (n : Int)] w fun e w' => e = .returned (.int .i64 (17 + 2 * (i : Int) + (n : Int))) /\ Below w.heap.size w w' := by
 have h1 : wrap64 (2 * (i : Int)) = 2 * (i : Int) := by unfold wrap64; omega
 have h2 : wrap64 (17 + 2 * (i : Int)) = 17 + 2 * (i : Int) := by unfold wrap64; omega
 have h3 : wrap64 (17 + 2 * (i : Int) + (n : Int)) = 17 + 2 * (i : Int) + (n : Int) := by unfold wrap64; omega
 go_enter Tryz.func280, Tryz.ntmps280
 go_wp2
 go_ret
 exact ⟨rfl, bal (Below.refl _ _) _⟩
structure Pw (w W : World) (p b N : Nat) (f i : Int) (M : Nat -> Nat -> Int) : Prop where
 sx : Sx W p b N M
 row : RowL W w.heap.size p f i
 below : Below w.heap.size w W
theorem pw_new {w : World} {p b N : Nat} {M : Nat -> Nat -> Int} (h : Sx w p b N M) (f i : Int) : Pw w (w.alloc (.cells #[.pointer (some ⟨p, 0, none⟩), .int .i64 f, .int .i64 i] 307)) p b N f i M := ⟨h.on (bal (Below.refl _ _) _), rowL_new w p f i, bal (Below.refl _ _) _⟩
theorem Pw.on {w W W' : World} {p b N : Nat} {f i : Int} {M : Nat -> Nat -> Int} (h : Pw w W p b N f i M) (hB : Below W.heap.size W W') : Pw w W' p b N f i M := ⟨h.sx.on hB, h.row.on hB, h.below.trans (hB.mono h.below.size)⟩
theorem ok_at {N : Nat} {f : Int} (hf : okF N f = true) {i n : Nat} (hi : i < 6) (hn : n < 2) : okW N f (17 + 2 * (i : Int) + (n : Int)) = true := by
 unfold okW
 rw [hf]
 simp
 omega
theorem pstore_any (p b N : Nat) (f v : Int) (i n : Nat) (M : Nat -> Nat -> Int) (w : World) (hM : Sx w p b N M) (hf : okF N f = true) (hi : i < 6) (hn : n < 2) (hv : 0 <= v /\ v <= 18446744073709551615) :
 Calls Tryz.prog 252 #[.agg #[.pointer (some ⟨p, 0, none⟩), .int .i64 f, .int .i64 (i : Int)], .int .i64 (n : Int), .int .u64 v] w fun e w' => e = .returned (.int .i64 0) /\ Sx w' p b N (stW N M f (17 + 2 * (i : Int) + (n : Int)) v) /\ But b w w' := by
 have hlb := hM.ltb
 have HS : Hid (∀ wc, Pw w wc p b N f (i : Int) M -> Calls Tryz.prog 57 #[.pointer (some ⟨p, 0, none⟩), .int .i64 f, .int .i64 (17 + 2 * (i : Int) + (n : Int)), .int .u64 v] wc fun e w' => e = .returned (.int .i64 0) /\ Sx w' p b N (stW N M f (17 + 2 * (i : Int) + (n : Int)) v) /\ But b w w' /\ RowL w' w.heap.size p f (i : Int)) := fun wc h => by
  have := Pmem.store_any p b N f (17 + 2 * (i : Int) + (n : Int)) v M wc hM.mx.n1 hM.mx.n64 h.sx.mx.mem
  have ho := ok_at hf hi hn
  rw [show errW N f (17 + 2 * (i : Int) + (n : Int)) = 0 by unfold errW; rw [ho]; rfl] at this
  refine this.mono ?_
  rintro e w' ⟨rfl, rfl⟩
  have hb : But b wc (wc.setRow b (cellsM N (stW N M f (17 + 2 * (i : Int) + (n : Int)) v))) := (But.refl b wc).setRow _
  exact ⟨rfl, h.sx.but (h.sx.mx.but (h.sx.mx.mem.set _) (hM.mx.fit.st N f _ v hv) hb) hb, (But.of_below b h.below).trans hb, h.row.but hb (by omega)⟩
 have HW : Hid (∀ wc, Calls Tryz.prog 280 #[.agg #[.pointer (some ⟨p, 0, none⟩), .int .i64 f, .int .i64 (i : Int)], .int .i64 (n : Int)] wc fun e w' => e = .returned (.int .i64 (17 + 2 * (i : Int) + (n : Int))) /\ Below wc.heap.size wc w') := fun wc => word_any p f i n hi hn wc
 have H0 := rhide (pw_new hM f (i : Int))
 clear hM hf hv hlb
 generalize stW N M f (17 + 2 * (i : Int) + (n : Int)) v = M1 at HS ⊢
 generalize 17 + 2 * (i : Int) + (n : Int) = a at HS HW
 generalize (n : Int) = n' at HW ⊢
 generalize (i : Int) = i' at H0 HS HW ⊢
 go_enter Tryz.func252, Tryz.ntmps252
 go_wp2
 generalize w.alloc _ = w1 at H0 ⊢
 have x0 := H0.out.row.c0
 have x1 := H0.out.row.c1
 have x2 := H0.out.row.c2
 go_region_held3 (fun w' => w'.cell? ⟨w.heap.size, 0, none⟩ = some (.pointer (some ⟨p, 0, none⟩)) /\ w'.cell? ⟨w.heap.size, 1, none⟩ = some (.int .i64 f) /\ w'.cell? ⟨w.heap.size, 2, none⟩ = some (.int .i64 i')) (first | exact ⟨by assumption, by assumption, by assumption⟩ | go_keep)
 (first
   | (go_at_call 280; refine (HW.out _).mono ?_; rintro e2 w2 ⟨rfl, hb⟩; have H1 := rhide (H0.out.on (by first | exact hb | exact (Below.refl _ _).drew.trans hb)); clear hb x0 x1 x2 H0; have x0 := H1.out.row.c0; have x1 := H1.out.row.c1; have x2 := H1.out.row.c2)
   | (go_at_call 57; refine (HS.out _ (by first | exact H1.out | exact H1.out.on (Below.refl _ _).drew)).mono ?_; rintro e3 w3 ⟨rfl, hw⟩; have H2 := rhide hw; clear hw HS H1 x0 x1 x2; have x0 := H2.out.2.2.c0; have x1 := H2.out.2.2.c1; have x2 := H2.out.2.2.c2)
   | fail)
 all_goals
  go_wp2
  go_ret
  first
   | exact ⟨rfl, H2.out.1, H2.out.2.1⟩
   | exact ⟨rfl, H2.out.1.on (Below.refl _ _).drew, H2.out.2.1.drew⟩
theorem end_any (p b N : Nat) (f i : Int) (d : Nat) (M : Nat -> Nat -> Int) (w : World) (hM : Sx w p b N M) (hg : gtE N M f = 0) (hd : d <= 6) :
 Calls Tryz.prog 253 #[.agg #[.pointer (some ⟨p, 0, none⟩), .int .i64 f, .int .i64 i], .int .i64 (d : Int)] w fun e w' => e = .returned (.int .i64 0) /\ Sx w' p b N (stW N M f 8 (d : Int)) /\ But b w w' := by
 obtain ⟨e1, e2, e3⟩ := dp_put hg hd
 have HG : Hid (∀ wc, Pw w wc p b N f i M -> Calls Tryz.prog 203 #[.pointer (some ⟨p, 0, none⟩), .int .i64 f] wc fun e w' => e = .returned (.tuple #[.agg #[.int .i64 (thOf M f).st, .int .i64 (thOf M f).co, .int .i64 (thOf M f).tc, .int .i64 (thOf M f).rc, .int .i64 (thOf M f).de], .int .i64 0]) /\ Below wc.heap.size wc w') := fun wc h => by
  have := Pthd.get_any p b N f M wc h.sx.mx
  rwa [hg, (gt_yes hg).2.2] at this
 have HP : Hid (∀ wc, Pw w wc p b N f i M -> Calls Tryz.prog 281 #[.pointer (some ⟨p, 0, none⟩), .int .i64 f, .agg #[.int .i64 (thOf M f).st, .int .i64 (thOf M f).co, .int .i64 (thOf M f).tc, .int .i64 (thOf M f).rc, .int .i64 (d : Int)]] wc fun e w' => e = .returned (.int .i64 0) /\ Sx w' p b N (stW N M f 8 (d : Int)) /\ But b w w') := fun wc h => by
  have := Pthd.put_any p b N f (dpX (thOf M f) (d : Int)) M wc h.sx.mx e3.fi
  rw [e1, e2] at this
  exact this.mono fun e w' ⟨q1, q2, q3⟩ => ⟨q1, h.sx.but q2 q3, (But.of_below b h.below).trans q3⟩
 have H0 := rhide (pw_new hM f i)
 clear hM e1 e2 e3 hg hd
 generalize stW N M f 8 (d : Int) = M1 at HP ⊢
 generalize thOf M f = y at HG HP
 generalize (d : Int) = d' at HP ⊢
 go_enter Tryz.func253, Tryz.ntmps253
 go_wp2_with (first
  | (go_at_call 203; refine (HG.out _ H0.out).mono ?_; rintro e1 w1 ⟨rfl, hb⟩; have H1 := rhide (H0.out.on hb); clear hb HG H0; have x0 := H1.out.row.c0; have x1 := H1.out.row.c1; have xl := H1.out.row.lt)
  | (go_at_call 281; refine (HP.out _ (H1.out.on (bal (Below.refl _ _) _))).mono ?_; rintro e2 w2 ⟨rfl, hw⟩; have H2 := rhide hw; clear hw HP H1)
  | fail)
 go_ret
 exact ⟨rfl, H2.out⟩
theorem cover_any (p b N : Nat) (f : Int) (i : Nat) (M : Nat -> Nat -> Int) (w : World) (hM : Sx w p b N M) (hg : gtE N M f = 0) (hi : i < 6) :
 Calls Tryz.prog 205 #[.agg #[.pointer (some ⟨p, 0, none⟩), .int .i64 f, .int .i64 (i : Int)]] w fun e w' => e = .returned (.int .i64 0) /\ Sx w' p b N (stW N M f 8 ((i + 1 : Nat) : Int)) /\ But b w w' := by
 have HE : Hid (∀ wc, Pw w wc p b N f (i : Int) M -> Calls Tryz.prog 253 #[.agg #[.pointer (some ⟨p, 0, none⟩), .int .i64 f, .int .i64 (i : Int)], .int .i64 ((i : Int) + 1)] wc fun e w' => e = .returned (.int .i64 0) /\ Sx w' p b N (stW N M f 8 ((i + 1 : Nat) : Int)) /\ But b w w') := fun wc h =>
  (end_any p b N f (i : Int) (i + 1) M wc h.sx hg (by omega)).mono fun e w' ⟨q1, q2, q3⟩ => ⟨q1, q2, (But.of_below b h.below).trans q3⟩
 have H0 := rhide (pw_new hM f (i : Int))
 have hw : wrap64 ((i : Int) + 1) = (i : Int) + 1 := by unfold wrap64; omega
 clear hM hg
 generalize stW N M f 8 ((i + 1 : Nat) : Int) = M1 at HE ⊢
 go_enter Tryz.func205, Tryz.ntmps205
 go_wp2_with (first
  | (go_at_call 253; refine (HE.out _ H0.out).mono ?_; rintro e2 w2 ⟨rfl, hw⟩; have H2 := rhide hw; clear hw HE H0)
  | fail)
 go_ret
 exact ⟨rfl, H2.out⟩
def r9 (p : Nat) (f i : Int) (x : Rc) : List Value := [.pointer (some ⟨p, 0, none⟩), .int .i64 f, .int .i64 i, .int .i64 x.co, .int .i64 x.tb, .int .i64 x.pg, .int .i64 x.l, .int .i64 x.e, .int .i64 x.ip]
theorem rowV_but {w w' : World} {B b : Nat} {vs : List Value} (h : Pthd.RowV w B vs) (hB : But b w w') (hn : B ≠ b) : Pthd.RowV w' B vs := by
 obtain ⟨t, hr⟩ := h
 exact ⟨t, (hB.block B (Array.getElem?_eq_some_iff.1 hr).1 hn).trans hr⟩
theorem r9_cells {W : World} {B p : Nat} {f i : Int} {x : Rc} (h : Pthd.RowV W B (r9 p f i x)) : W.cell? ⟨B, 0, none⟩ = some (.pointer (some ⟨p, 0, none⟩)) /\ W.cell? ⟨B, 1, none⟩ = some (.int .i64 f) /\ W.cell? ⟨B, 2, none⟩ = some (.int .i64 i) /\ W.cell? ⟨B, 3, none⟩ = some (.int .i64 x.co) /\ W.cell? ⟨B, 4, none⟩ = some (.int .i64 x.tb) /\ W.cell? ⟨B, 5, none⟩ = some (.int .i64 x.pg) /\ W.cell? ⟨B, 6, none⟩ = some (.int .i64 x.l) /\ W.cell? ⟨B, 7, none⟩ = some (.int .i64 x.e) /\ W.cell? ⟨B, 8, none⟩ = some (.int .i64 x.ip) :=
 ⟨h.cell 0, h.cell 1, h.cell 2, h.cell 3, h.cell 4, h.cell 5, h.cell 6, h.cell 7, h.cell 8⟩
structure Wr (w W : World) (p b N : Nat) (f i : Int) (M : Nat -> Nat -> Int) (x : Rc) : Prop where
 sx : Sx W p b N M
 row : Pthd.RowV W w.heap.size (r9 p f i x)
 but : But b w W
theorem wr_new {w : World} {p b N : Nat} {M : Nat -> Nat -> Int} (h : Sx w p b N M) (f i : Int) (x : Rc) : Wr w (w.alloc (.cells (r9 p f i x).toArray 309)) p b N f i M x := ⟨h.on (bal (Below.refl _ _) _), Pthd.rowV_new w (r9 p f i x) 309, But.of_below b (bal (Below.refl _ _) _)⟩
theorem Wr.on {w W W' : World} {p b N : Nat} {f i : Int} {M : Nat -> Nat -> Int} {x : Rc} (h : Wr w W p b N f i M x) (hB : Below W.heap.size W W') : Wr w W' p b N f i M x := ⟨h.sx.on hB, h.row.on hB, h.but.trans (But.of_below b hB)⟩
theorem Wr.turn {w W W' : World} {p b N : Nat} {f i : Int} {M M' : Nat -> Nat -> Int} {x : Rc} (h : Wr w W p b N f i M x) (hl : b < w.heap.size) (hX : Sx W' p b N M') (hB : But b W W') : Wr w W' p b N f i M' x := ⟨hX, rowV_but h.row hB (by omega), h.but.trans hB⟩
theorem write_any (p b N : Nat) (f : Int) (i : Nat) (x : Rc) (M : Nat -> Nat -> Int) (w : World) (hM : Sx w p b N M) (hf : okF N f = true) (hi : i < 6) (hx : Ro x) :
 Calls Tryz.prog 204 #[.agg #[.pointer (some ⟨p, 0, none⟩), .int .i64 f, .int .i64 (i : Int), .int .i64 x.co, .int .i64 x.tb, .int .i64 x.pg, .int .i64 x.l, .int .i64 x.e, .int .i64 x.ip]] w fun e w' => e = .returned (.int .i64 0) /\ Sx w' p b N (lyR N M f i x) /\ But b w w' := by
 have hlb := hM.ltb
 have hip := hx.2.2.2.2.2
 have H0 := rhide (wr_new hM f (i : Int) x)
 have HS0 : Hid (∀ wc, Wr w wc p b N f (i : Int) M x -> Calls Tryz.prog 252 #[.agg #[.pointer (some ⟨p, 0, none⟩), .int .i64 f, .int .i64 (i : Int)], .int .i64 0, .int .u64 (rwd x)] wc fun e w' => e = .returned (.int .i64 0) /\ Wr w w' p b N f (i : Int) (stW N M f (17 + 2 * (i : Int)) (rwd x)) x) := fun wc h => by
  have := pstore_any p b N f (rwd x) i 0 M wc h.sx hf hi (by omega) (rwd_bd hx)
  rw [show 17 + 2 * (i : Int) + ((0 : Nat) : Int) = 17 + 2 * (i : Int) by omega] at this
  exact this.mono fun e w' ⟨q1, q2, q3⟩ => ⟨q1, h.turn hlb q2 q3⟩
 have HS1 : Hid (∀ wc, Wr w wc p b N f (i : Int) (stW N M f (17 + 2 * (i : Int)) (rwd x)) x -> Calls Tryz.prog 252 #[.agg #[.pointer (some ⟨p, 0, none⟩), .int .i64 f, .int .i64 (i : Int)], .int .i64 1, .int .u64 x.ip] wc fun e w' => e = .returned (.int .i64 0) /\ Wr w w' p b N f (i : Int) (lyR N M f i x) x) := fun wc h => by
  have := pstore_any p b N f x.ip i 1 _ wc h.sx hf hi (by omega) (by omega)
  rw [show 17 + 2 * (i : Int) + ((1 : Nat) : Int) = 18 + 2 * (i : Int) by omega] at this
  exact this.mono fun e w' ⟨q1, q2, q3⟩ => ⟨q1, h.turn hlb q2 q3⟩
 have HK : Hid (∀ D wc wd, Ints .i64 wc.heap.size wc (.slice (some ⟨D, 0, none⟩) 5 5) rws -> Below (wc.alloc (.cells #[.int .u64 x.co, .int .u64 x.tb, .int .u64 x.pg, .int .u64 x.l, .int .u64 x.e] 83)).heap.size (wc.alloc (.cells #[.int .u64 x.co, .int .u64 x.tb, .int .u64 x.pg, .int .u64 x.l, .int .u64 x.e] 83)) wd -> Calls Tryz.prog 220 #[.slice (some ⟨D, 0, none⟩) 5 5, .slice (some ⟨wc.heap.size, 0, none⟩) 5 5] wd fun e w' => e = .returned (.tuple #[.int .u64 (rwd x), .int .i64 0]) /\ Below wc.heap.size wc w') := fun D wc wd h hd =>
  (pack_ok (some ⟨D, 0, none⟩) (some ⟨wc.heap.size, 0, none⟩) 5 5 rws x.vs _ (by decide) rfl (rput_can hx).1 ((h.on (bal (Below.refl _ _) _)).on hd) ((ints_vs wc x 83).on hd) (rput_can hx).2).mono fun e w' ⟨q1, q2⟩ => ⟨q1, ((bal (Below.refl wc.heap.size wc) _).trans (hd.mono (by simp))).trans (q2.mono (by have := hd.size; simp at this; omega))⟩
 unfold Ro at hx
 have d0 : IntKind.u64.wrap x.co = x.co := wrapu_small (by omega) (by omega)
 have d1 : IntKind.u64.wrap x.tb = x.tb := wrapu_small (by omega) (by omega)
 have d2 : IntKind.u64.wrap x.pg = x.pg := wrapu_small (by omega) (by omega)
 have d3 : IntKind.u64.wrap x.l = x.l := wrapu_small (by omega) (by omega)
 have d4 : IntKind.u64.wrap x.e = x.e := wrapu_small (by omega) (by omega)
 have d5 : IntKind.u64.wrap x.ip = x.ip := wrapu_small (by omega) (by omega)
 clear hx hip hM hf hlb
 generalize rwd x = z at HS0 HS1 HK
 generalize lyR N M f i x = M2 at HS1 ⊢
 generalize stW N M f (17 + 2 * (i : Int)) z = M1 at HS0 HS1
 generalize (i : Int) = i' at H0 HS0 HS1 ⊢
 go_enter Tryz.func204, Tryz.ntmps204
 go_upto_region 1 with fail
 have H0' : Hid (Wr w (w.alloc (.cells #[.pointer (some ⟨p, 0, none⟩), .int .i64 f, .int .i64 i', .int .i64 x.co, .int .i64 x.tb, .int .i64 x.pg, .int .i64 x.l, .int .i64 x.e, .int .i64 x.ip] 309)) p b N f i' M x) := H0
 clear H0
 generalize w.alloc _ = v0 at H0' ⊢
 obtain ⟨g0, g1, g2, g3, g4⟩ := H0'.out.sx.tb.cells
 have gl := H0'.out.sx.tb.lt
 go_upto_region 2 with fail
 have H1 := rhide (H0'.out.on (bal (Below.refl v0.heap.size v0) (.cells #[.int .i64 6, .int .i64 6, .int .i64 6, .int .i64 6, .int .i64 16] 379)))
 have HJ : Hid (Ints .i64 _ _ (.slice (some ⟨v0.heap.size, 0, none⟩) 5 5) rws) := ints_rws v0 379
 clear g0 g1 g2 g3 g4 gl H0'
 generalize v0.alloc _ = v1 at H1 HJ ⊢
 generalize v0.heap.size = D at HJ ⊢
 go_cut [4, 5] from 8 to 33 (fun v4 v5 wc => v4 = .int .u64 z /\ v5 = .int .i64 0 /\ Wr w wc p b N f i' M x)
 case first =>
  obtain ⟨x0, x1, x2, x3, x4, x5, x6, x7, x8⟩ := r9_cells H1.out.row
  clear x0 x1 x2 x8
  go_region_held3 (fun w' => w'.cell? ⟨w.heap.size, 3, none⟩ = some (.int .i64 x.co) /\ w'.cell? ⟨w.heap.size, 4, none⟩ = some (.int .i64 x.tb) /\ w'.cell? ⟨w.heap.size, 5, none⟩ = some (.int .i64 x.pg) /\ w'.cell? ⟨w.heap.size, 6, none⟩ = some (.int .i64 x.l) /\ w'.cell? ⟨w.heap.size, 7, none⟩ = some (.int .i64 x.e)) (first | (refine ⟨?_, ?_, ?_, ?_, ?_⟩ <;> with_reducible assumption) | go_keep)
  (first
    | (go_at_call 220; refine (HK.out D v1 _ HJ.out (by first | exact Below.refl _ _ | exact (Below.refl _ _).drew)).mono ?_; rintro e2 w2 ⟨rfl, hb⟩; have H2 := rhide (H1.out.on (by first | exact hb | exact (Below.refl _ _).drew.trans hb)); clear hb H1 HJ HK x3 x4 x5 x6 x7; obtain ⟨x0, x1, x2, x3, x4, x5, x6, x7, x8⟩ := r9_cells H2.out.row; clear x0 x1 x2 x8)
    | fail)
  all_goals
   go_wp2_with fail
   go_meet
   first | exact ⟨rfl, rfl, H2.out⟩ | exact ⟨rfl, rfl, H2.out.on (Below.refl _ _).drew⟩
 case rest =>
  obtain ⟨h4, h5, h2⟩ := hcut
  subst h4
  subst h5
  have H2 := rhide h2
  clear h2 H1 HJ HK
  obtain ⟨x0, x1, x2, x3, x4, x5, x6, x7, x8⟩ := r9_cells H2.out.row
  go_wp2_with (first
   | (go_at_call 252; refine (HS0.out _ H2.out).mono ?_; rintro e3 w3 ⟨rfl, hw⟩; have H3 := rhide hw; clear hw HS0 H2 x0 x1 x2 x3 x4 x5 x6 x7 x8; obtain ⟨x0, x1, x2, x3, x4, x5, x6, x7, x8⟩ := r9_cells H3.out.row)
   | (go_at_call 252; refine (HS1.out _ H3.out).mono ?_; rintro e4 w4 ⟨rfl, hw⟩; have H4 := rhide hw; clear hw HS1 H3)
   | fail)
  go_ret
  exact ⟨rfl, H4.out.sx, H4.out.but⟩
structure Pu (w W : World) (p b N : Nat) (M : Nat -> Nat -> Int) (x : Rc) : Prop where
 sx : Sx W p b N M
 row : RowR W w.heap.size x
 below : Below w.heap.size w W
theorem pu_new {w : World} {p b N : Nat} {M : Nat -> Nat -> Int} (h : Sx w p b N M) (x : Rc) : Pu w (w.alloc (.cells #[.int .i64 x.co, .int .i64 x.tb, .int .i64 x.pg, .int .i64 x.l, .int .i64 x.e, .int .i64 x.ip] 183)) p b N M x := ⟨h.on (bal (Below.refl _ _) _), rowR_new w x, bal (Below.refl _ _) _⟩
theorem Pu.on {w W W' : World} {p b N : Nat} {M : Nat -> Nat -> Int} {x : Rc} (h : Pu w W p b N M x) (hB : Below W.heap.size W W') : Pu w W' p b N M x := ⟨h.sx.on hB, h.row.on hB, h.below.trans (hB.mono h.below.size)⟩
structure Pv (w W : World) (p b N : Nat) (M : Nat -> Nat -> Int) (E : Nat) (f d : Int) (x : Rc) : Prop where
 sx : Sx W p b N M
 rc : Pthd.RowV W E (r9 p f d x)
 el : w.heap.size <= E
 but : But b w W
theorem Pu.more {w W : World} {p b N : Nat} {M : Nat -> Nat -> Int} {x : Rc} (h : Pu w W p b N M x) (o : Obj) (f d : Int) : Pv w ((W.alloc o).alloc (.cells #[.pointer (some ⟨p, 0, none⟩), .int .i64 f, .int .i64 d, .int .i64 x.co, .int .i64 x.tb, .int .i64 x.pg, .int .i64 x.l, .int .i64 x.e, .int .i64 x.ip] 309)) p b N M (W.heap.size + 1) f d x := by
 have h1 := Pthd.rowV_new (W.alloc o) (r9 p f d x) 309
 simp only [World.size_alloc] at h1
 have hs := h.below.size
 have hb := bal (bal (Below.refl W.heap.size W) o) (.cells #[.pointer (some ⟨p, 0, none⟩), .int .i64 f, .int .i64 d, .int .i64 x.co, .int .i64 x.tb, .int .i64 x.pg, .int .i64 x.l, .int .i64 x.e, .int .i64 x.ip] 309)
 exact ⟨h.sx.on hb, h1, by omega, But.of_below b (h.below.trans (hb.mono hs))⟩
theorem Pv.turn {w W W' : World} {p b N : Nat} {M M' : Nat -> Nat -> Int} {E : Nat} {f d : Int} {x : Rc} (h : Pv w W p b N M E f d x) (hl : b < w.heap.size) (hX : Sx W' p b N M') (hB : But b W W') : Pv w W' p b N M' E f d x := ⟨hX, rowV_but h.rc hB (by have := h.el; omega), h.el, h.but.trans hB⟩
theorem push_any (p b N : Nat) (f : Int) (x : Rc) (M : Nat -> Nat -> Int) (w : World) (hM : Sx w p b N M) :
 Calls Tryz.prog 125 #[.pointer (some ⟨p, 0, none⟩), .int .i64 f, .agg #[.int .i64 x.co, .int .i64 x.tb, .int .i64 x.pg, .int .i64 x.l, .int .i64 x.e, .int .i64 x.ip]] w fun e w' => e = .returned (.int .i64 (psE N M f x)) /\ Sx w' p b N (psM N M f x) /\ But b w w' := by
 have hlb := hM.ltb
 have H0 := rhide (pu_new hM x)
 have HC : Hid (∀ wc, Calls Tryz.prog 202 #[.agg #[.int .i64 x.co, .int .i64 x.tb, .int .i64 x.pg, .int .i64 x.l, .int .i64 x.e, .int .i64 x.ip]] wc fun e w' => e = .returned (.int .i64 (rkE x)) /\ Below wc.heap.size wc w') := fun wc => check_any x wc
 have HG : Hid (∀ wc, Pu w wc p b N M x -> Calls Tryz.prog 203 #[.pointer (some ⟨p, 0, none⟩), .int .i64 f] wc fun e w' => e = .returned (.tuple #[.agg #[.int .i64 (gtT N M f).st, .int .i64 (gtT N M f).co, .int .i64 (gtT N M f).tc, .int .i64 (gtT N M f).rc, .int .i64 (gtT N M f).de], .int .i64 (gtE N M f)]) /\ Below wc.heap.size wc w') := fun wc h => Pthd.get_any p b N f M wc h.sx.mx
 by_cases hx : Ro x
 case neg =>
  have e1 : psE N M f x = 1 := by unfold psE; rw [roB_no hx]; rfl
  have e2 : psM N M f x = M := by unfold psM; rw [if_neg (by rw [e1]; decide)]
  rw [e1, e2]
  rw [show rkE x = 1 by unfold rkE; rw [roB_no hx]; rfl] at HC
  clear e1 e2 hx hM HG hlb
  go_enter Tryz.func125, Tryz.ntmps125
  go_wp2_with (first
   | (go_at_call 202; refine (HC.out _).mono ?_; rintro e1 w1 ⟨rfl, hb⟩; have H1 := rhide (H0.out.on hb); clear hb H0 HC)
   | fail)
  go_ret
  exact ⟨rfl, H1.out.sx, But.of_below b H1.out.below⟩
 case pos =>
 rw [show rkE x = 0 by unfold rkE; rw [roB_yes hx]; rfl] at HC
 by_cases hg : gtE N M f = 0
 · obtain ⟨hf, hde, h6⟩ := gt_dp hg
   rw [hg, (gt_yes hg).2.2] at HG
   by_cases hd : dpN M f = 6
   · have e1 : psE N M f x = 8 := by unfold psE; rw [if_pos (roB_yes hx), if_pos hg, if_pos hd]
     have e2 : psM N M f x = M := by unfold psM; rw [if_neg (by rw [e1]; decide)]
     rw [e1, e2]
     rw [show (thOf M f).de = 6 by rw [hde, hd]; rfl] at HG
     generalize thOf M f = y at HG
     clear e1 e2 hd hde h6 hf hg hx hM hlb
     go_enter Tryz.func125, Tryz.ntmps125
     go_wp2_with (first
      | (go_at_call 202; refine (HC.out _).mono ?_; rintro e1 w1 ⟨rfl, hb⟩; have H1 := rhide (H0.out.on hb); clear hb H0 HC)
      | (go_at_call 203; refine (HG.out _ H1.out).mono ?_; rintro e2 w2 ⟨rfl, hb⟩; have H2 := rhide ((H1.out.on hb).on (bal (Below.refl _ _) (.cells #[.int .i64 y.st, .int .i64 y.co, .int .i64 y.tc, .int .i64 y.rc, .int .i64 6] 178))); clear hb H1 HG)
      | fail)
     go_ret
     exact ⟨rfl, H2.out.sx, But.of_below b H2.out.below⟩
   · have e1 : psE N M f x = 0 := by unfold psE; rw [if_pos (roB_yes hx), if_pos hg, if_neg hd]
     have e2 : psM N M f x = stW N (lyR N M f (dpN M f) x) f 8 ((dpN M f + 1 : Nat) : Int) := by unfold psM; rw [if_pos e1]
     rw [e1, e2]
     rw [hde] at HG
     have HW : Hid (∀ E wc, Pv w wc p b N M E f ((dpN M f : Nat) : Int) x -> Calls Tryz.prog 204 #[.agg #[.pointer (some ⟨p, 0, none⟩), .int .i64 f, .int .i64 ((dpN M f : Nat) : Int), .int .i64 x.co, .int .i64 x.tb, .int .i64 x.pg, .int .i64 x.l, .int .i64 x.e, .int .i64 x.ip]] wc fun e w' => e = .returned (.int .i64 0) /\ Pv w w' p b N (lyR N M f (dpN M f) x) E f ((dpN M f : Nat) : Int) x) := fun E wc h =>
      (write_any p b N f (dpN M f) x M wc h.sx hf (by omega) hx).mono fun e w' ⟨q1, q2, q3⟩ => ⟨q1, h.turn hlb q2 q3⟩
     have HV : Hid (∀ E wc, Pv w wc p b N (lyR N M f (dpN M f) x) E f ((dpN M f : Nat) : Int) x -> Calls Tryz.prog 205 #[.agg #[.pointer (some ⟨p, 0, none⟩), .int .i64 f, .int .i64 ((dpN M f : Nat) : Int)]] wc fun e w' => e = .returned (.int .i64 0) /\ Sx w' p b N (stW N (lyR N M f (dpN M f) x) f 8 ((dpN M f + 1 : Nat) : Int)) /\ But b w w') := fun E wc h =>
      (cover_any p b N f (dpN M f) (lyR N M f (dpN M f) x) wc h.sx (by rw [ly_gt hf (by omega)]; exact hg) (by omega)).mono fun e w' ⟨q1, q2, q3⟩ => ⟨q1, q2, h.but.trans q3⟩
     generalize stW N (lyR N M f (dpN M f) x) f 8 ((dpN M f + 1 : Nat) : Int) = M2 at HV ⊢
     generalize lyR N M f (dpN M f) x = M1 at HW HV
     generalize thOf M f = y at HG
     generalize dpN M f = d0 at HG HW HV hd h6
     have hd6 : ((d0 : Int) == 6) = false := by simp; omega
     generalize (d0 : Int) = d at HG HW HV hd6
     clear e1 e2 hde hf hg hx hM hd h6 hlb
     go_enter Tryz.func125, Tryz.ntmps125
     go_upto_region 10 with (first
      | (go_at_call 202; refine (HC.out _).mono ?_; rintro e1 w1 ⟨rfl, hb⟩; have H1 := rhide (H0.out.on hb); clear hb H0 HC)
      | (go_at_call 203; refine (HG.out _ H1.out).mono ?_; rintro e2 w2 ⟨rfl, hb⟩; have H2 := rhide (H1.out.on hb); clear hb H1 HG; have x0 := H2.out.row.c0; have x1 := H2.out.row.c1; have x2 := H2.out.row.c2; have x3 := H2.out.row.c3; have x4 := H2.out.row.c4; have x5 := H2.out.row.c5; have xl := H2.out.row.lt)
      | fail)
     have H3 := rhide (H2.out.more (.cells #[.int .i64 y.st, .int .i64 y.co, .int .i64 y.tc, .int .i64 y.rc, .int .i64 d] 178) f d)
     clear H2 x0 x1 x2 x3 x4 x5 xl
     generalize (w2.alloc _).alloc _ = v at H3 ⊢
     generalize w2.heap.size + 1 = E at H3 ⊢
     obtain ⟨x0, x1, x2, x3, x4, x5, x6, x7, x8⟩ := r9_cells H3.out.rc
     go_wp2_with (first
      | (go_at_call 204; refine (HW.out _ _ H3.out).mono ?_; rintro e3 w3 ⟨rfl, hw⟩; have H4 := rhide hw; clear hw HW H3 x0 x1 x2 x3 x4 x5 x6 x7 x8; obtain ⟨x0, x1, x2, x3, x4, x5, x6, x7, x8⟩ := r9_cells H4.out.rc)
      | (go_at_call 205; refine (HV.out _ _ H4.out).mono ?_; rintro e4 w4 ⟨rfl, hw⟩; have H5 := rhide hw; clear hw HV H4)
      | fail)
     go_ret
     exact ⟨rfl, H5.out⟩
 · have e1 : psE N M f x = gtE N M f := by unfold psE; rw [if_pos (roB_yes hx), if_neg hg]
   have e2 : psM N M f x = M := by unfold psM; rw [if_neg (by rw [e1]; exact hg)]
   rw [e1, e2]
   generalize gtT N M f = y at HG
   generalize gtE N M f = E at HG hg ⊢
   have hE : (E != 0) = true := by simp [hg]
   clear e1 e2 hg hM hx hlb
   go_enter Tryz.func125, Tryz.ntmps125
   go_wp2_with (first
    | (go_at_call 202; refine (HC.out _).mono ?_; rintro e1 w1 ⟨rfl, hb⟩; have H1 := rhide (H0.out.on hb); clear hb H0 HC)
    | (go_at_call 203; refine (HG.out _ H1.out).mono ?_; rintro e2 w2 ⟨rfl, hb⟩; have H2 := rhide ((H1.out.on hb).on (bal (Below.refl _ _) (.cells #[.int .i64 y.st, .int .i64 y.co, .int .i64 y.tc, .int .i64 y.rc, .int .i64 y.de] 178))); clear hb H1 HG)
    | fail)
   go_ret
   exact ⟨rfl, H2.out.sx, But.of_below b H2.out.below⟩
theorem RowR.keep {w w' : World} {B : Nat} {x : Rc} (h : RowR w B x) (k : KeepT w w') : RowR w' B x := ⟨k _ _ _ (by decide) h.row⟩
theorem roB_in (c : Rc) : roB c = (Play.inB c.co 0 63 && Play.inB c.tb 0 63 && Play.inB c.pg 0 63 && Play.inB c.l 0 63 && Play.inB c.e 0 65535 && Play.inB c.ip 0 1073741824) := rfl
theorem rright_any (c : Rc) (w : World) : Calls Tryz.prog 211 #[.agg #[.int .i64 c.co, .int .i64 c.tb, .int .i64 c.pg, .int .i64 c.l, .int .i64 c.e, .int .i64 c.ip]] w fun e w' => e = .returned (.bool (roB c)) /\ Below w.heap.size w w' := by
 have I0 : Hid (∀ wc, Calls Tryz.prog 240 #[.int .i64 c.co, .int .i64 0, .int .i64 63] wc fun e w' => e = .returned (.bool (Play.inB c.co 0 63)) /\ w' = wc) := fun wc => in_any c.co 0 63 wc
 have I1 : Hid (∀ wc, Calls Tryz.prog 240 #[.int .i64 c.tb, .int .i64 0, .int .i64 63] wc fun e w' => e = .returned (.bool (Play.inB c.tb 0 63)) /\ w' = wc) := fun wc => in_any c.tb 0 63 wc
 have I2 : Hid (∀ wc, Calls Tryz.prog 240 #[.int .i64 c.pg, .int .i64 0, .int .i64 63] wc fun e w' => e = .returned (.bool (Play.inB c.pg 0 63)) /\ w' = wc) := fun wc => in_any c.pg 0 63 wc
 have I3 : Hid (∀ wc, Calls Tryz.prog 240 #[.int .i64 c.l, .int .i64 0, .int .i64 63] wc fun e w' => e = .returned (.bool (Play.inB c.l 0 63)) /\ w' = wc) := fun wc => in_any c.l 0 63 wc
 have I4 : Hid (∀ wc, Calls Tryz.prog 240 #[.int .i64 c.e, .int .i64 0, .int .i64 65535] wc fun e w' => e = .returned (.bool (Play.inB c.e 0 65535)) /\ w' = wc) := fun wc => in_any c.e 0 65535 wc
 have I5 : Hid (∀ wc, Calls Tryz.prog 240 #[.int .i64 c.ip, .int .i64 0, .int .i64 1073741824] wc fun e w' => e = .returned (.bool (Play.inB c.ip 0 1073741824)) /\ w' = wc) := fun wc => in_any c.ip 0 1073741824 wc
 rw [roB_in]
 generalize Play.inB c.co 0 63 = R0 at I0 ⊢
 generalize Play.inB c.tb 0 63 = R1 at I1 ⊢
 generalize Play.inB c.pg 0 63 = R2 at I2 ⊢
 generalize Play.inB c.l 0 63 = R3 at I3 ⊢
 generalize Play.inB c.e 0 65535 = R4 at I4 ⊢
 generalize Play.inB c.ip 0 1073741824 = R5 at I5 ⊢
 cases R0
 · show Calls Tryz.prog 211 _ w fun e w' => e = .returned (.bool false) /\ Below w.heap.size w w'
   go_enter Tryz.func211, Tryz.ntmps211
   go_wp2_with (first
    | (go_at_call 240; refine (I0.out _).mono ?_; rintro e0 w0 ⟨rfl, hw⟩; subst hw; clear I0)
    | (go_at_call 240; refine (I1.out _).mono ?_; rintro e1 w1 ⟨rfl, hw⟩; subst hw; clear I1)
    | (go_at_call 240; refine (I2.out _).mono ?_; rintro e2 w2 ⟨rfl, hw⟩; subst hw; clear I2)
    | (go_at_call 240; refine (I3.out _).mono ?_; rintro e3 w3 ⟨rfl, hw⟩; subst hw; clear I3)
    | (go_at_call 240; refine (I4.out _).mono ?_; rintro e4 w4 ⟨rfl, hw⟩; subst hw; clear I4)
    | (go_at_call 240; refine (I5.out _).mono ?_; rintro e5 w5 ⟨rfl, hw⟩; subst hw; clear I5)
    | fail)
   go_ret
   exact ⟨rfl, bal (Below.refl _ _) _⟩
 cases R1
 · show Calls Tryz.prog 211 _ w fun e w' => e = .returned (.bool false) /\ Below w.heap.size w w'
   go_enter Tryz.func211, Tryz.ntmps211
   go_wp2_with (first
    | (go_at_call 240; refine (I0.out _).mono ?_; rintro e0 w0 ⟨rfl, hw⟩; subst hw; clear I0)
    | (go_at_call 240; refine (I1.out _).mono ?_; rintro e1 w1 ⟨rfl, hw⟩; subst hw; clear I1)
    | (go_at_call 240; refine (I2.out _).mono ?_; rintro e2 w2 ⟨rfl, hw⟩; subst hw; clear I2)
    | (go_at_call 240; refine (I3.out _).mono ?_; rintro e3 w3 ⟨rfl, hw⟩; subst hw; clear I3)
    | (go_at_call 240; refine (I4.out _).mono ?_; rintro e4 w4 ⟨rfl, hw⟩; subst hw; clear I4)
    | (go_at_call 240; refine (I5.out _).mono ?_; rintro e5 w5 ⟨rfl, hw⟩; subst hw; clear I5)
    | fail)
   go_ret
   exact ⟨rfl, bal (Below.refl _ _) _⟩
 cases R2
 · show Calls Tryz.prog 211 _ w fun e w' => e = .returned (.bool false) /\ Below w.heap.size w w'
   go_enter Tryz.func211, Tryz.ntmps211
   go_wp2_with (first
    | (go_at_call 240; refine (I0.out _).mono ?_; rintro e0 w0 ⟨rfl, hw⟩; subst hw; clear I0)
    | (go_at_call 240; refine (I1.out _).mono ?_; rintro e1 w1 ⟨rfl, hw⟩; subst hw; clear I1)
    | (go_at_call 240; refine (I2.out _).mono ?_; rintro e2 w2 ⟨rfl, hw⟩; subst hw; clear I2)
    | (go_at_call 240; refine (I3.out _).mono ?_; rintro e3 w3 ⟨rfl, hw⟩; subst hw; clear I3)
    | (go_at_call 240; refine (I4.out _).mono ?_; rintro e4 w4 ⟨rfl, hw⟩; subst hw; clear I4)
    | (go_at_call 240; refine (I5.out _).mono ?_; rintro e5 w5 ⟨rfl, hw⟩; subst hw; clear I5)
    | fail)
   go_ret
   exact ⟨rfl, bal (Below.refl _ _) _⟩
 cases R3
 · show Calls Tryz.prog 211 _ w fun e w' => e = .returned (.bool false) /\ Below w.heap.size w w'
   go_enter Tryz.func211, Tryz.ntmps211
   go_wp2_with (first
    | (go_at_call 240; refine (I0.out _).mono ?_; rintro e0 w0 ⟨rfl, hw⟩; subst hw; clear I0)
    | (go_at_call 240; refine (I1.out _).mono ?_; rintro e1 w1 ⟨rfl, hw⟩; subst hw; clear I1)
    | (go_at_call 240; refine (I2.out _).mono ?_; rintro e2 w2 ⟨rfl, hw⟩; subst hw; clear I2)
    | (go_at_call 240; refine (I3.out _).mono ?_; rintro e3 w3 ⟨rfl, hw⟩; subst hw; clear I3)
    | (go_at_call 240; refine (I4.out _).mono ?_; rintro e4 w4 ⟨rfl, hw⟩; subst hw; clear I4)
    | (go_at_call 240; refine (I5.out _).mono ?_; rintro e5 w5 ⟨rfl, hw⟩; subst hw; clear I5)
    | fail)
   go_ret
   exact ⟨rfl, bal (Below.refl _ _) _⟩
 cases R4
 · show Calls Tryz.prog 211 _ w fun e w' => e = .returned (.bool false) /\ Below w.heap.size w w'
   go_enter Tryz.func211, Tryz.ntmps211
   go_wp2_with (first
    | (go_at_call 240; refine (I0.out _).mono ?_; rintro e0 w0 ⟨rfl, hw⟩; subst hw; clear I0)
    | (go_at_call 240; refine (I1.out _).mono ?_; rintro e1 w1 ⟨rfl, hw⟩; subst hw; clear I1)
    | (go_at_call 240; refine (I2.out _).mono ?_; rintro e2 w2 ⟨rfl, hw⟩; subst hw; clear I2)
    | (go_at_call 240; refine (I3.out _).mono ?_; rintro e3 w3 ⟨rfl, hw⟩; subst hw; clear I3)
    | (go_at_call 240; refine (I4.out _).mono ?_; rintro e4 w4 ⟨rfl, hw⟩; subst hw; clear I4)
    | (go_at_call 240; refine (I5.out _).mono ?_; rintro e5 w5 ⟨rfl, hw⟩; subst hw; clear I5)
    | fail)
   go_ret
   exact ⟨rfl, bal (Below.refl _ _) _⟩
 cases R5
 · show Calls Tryz.prog 211 _ w fun e w' => e = .returned (.bool false) /\ Below w.heap.size w w'
   go_enter Tryz.func211, Tryz.ntmps211
   go_wp2_with (first
    | (go_at_call 240; refine (I0.out _).mono ?_; rintro e0 w0 ⟨rfl, hw⟩; subst hw; clear I0)
    | (go_at_call 240; refine (I1.out _).mono ?_; rintro e1 w1 ⟨rfl, hw⟩; subst hw; clear I1)
    | (go_at_call 240; refine (I2.out _).mono ?_; rintro e2 w2 ⟨rfl, hw⟩; subst hw; clear I2)
    | (go_at_call 240; refine (I3.out _).mono ?_; rintro e3 w3 ⟨rfl, hw⟩; subst hw; clear I3)
    | (go_at_call 240; refine (I4.out _).mono ?_; rintro e4 w4 ⟨rfl, hw⟩; subst hw; clear I4)
    | (go_at_call 240; refine (I5.out _).mono ?_; rintro e5 w5 ⟨rfl, hw⟩; subst hw; clear I5)
    | fail)
   go_ret
   exact ⟨rfl, bal (Below.refl _ _) _⟩
 show Calls Tryz.prog 211 _ w fun e w' => e = .returned (.bool true) /\ Below w.heap.size w w'
 go_enter Tryz.func211, Tryz.ntmps211
 go_wp2_with (first
  | (go_at_call 240; refine (I0.out _).mono ?_; rintro e0 w0 ⟨rfl, hw⟩; subst hw; clear I0)
  | (go_at_call 240; refine (I1.out _).mono ?_; rintro e1 w1 ⟨rfl, hw⟩; subst hw; clear I1)
  | (go_at_call 240; refine (I2.out _).mono ?_; rintro e2 w2 ⟨rfl, hw⟩; subst hw; clear I2)
  | (go_at_call 240; refine (I3.out _).mono ?_; rintro e3 w3 ⟨rfl, hw⟩; subst hw; clear I3)
  | (go_at_call 240; refine (I4.out _).mono ?_; rintro e4 w4 ⟨rfl, hw⟩; subst hw; clear I4)
  | (go_at_call 240; refine (I5.out _).mono ?_; rintro e5 w5 ⟨rfl, hw⟩; subst hw; clear I5)
  | fail)
 go_ret
 exact ⟨rfl, bal (Below.refl _ _) _⟩
theorem rplace_any (i : Nat) (hi : i < 6) (w : World) : Calls Tryz.prog 257 #[.int .i64 i] w fun e w' => e = .returned (.int .i64 (17 + 2 * (i : Int))) /\ w' = w := by
 have h1 : wrap64 (2 * (i : Int)) = 2 * (i : Int) := by unfold wrap64; omega
 have h2 : wrap64 (17 + 2 * (i : Int)) = 17 + 2 * (i : Int) := by unfold wrap64; omega
 go_enter Tryz.func257, Tryz.ntmps257
 go_wp2
 go_ret
 exact ⟨rfl, rfl⟩
theorem rwidths_any (w : World) :
 Calls Tryz.prog 256 #[] w fun x w' => ∃ b, x = .returned (.slice (some ⟨b, 0, none⟩) 5 5) /\ Ints .i64 w'.heap.size w' (.slice (some ⟨b, 0, none⟩) 5 5) rws /\ Below w.heap.size w w' := by
 go_enter Tryz.func256, Tryz.ntmps256
 go_wp2
 go_ret
 exact ⟨_, rfl, ints_rws w _, bal (Below.refl _ _) _⟩
theorem rpack_five {x : Rc} (h : Ro x) (b : Nat) (w : World) (hi : Ints .i64 w.heap.size w (.slice (some ⟨b, 0, none⟩) 5 5) rws) :
 Calls Tryz.prog 255 #[.slice (some ⟨b, 0, none⟩) 5 5, .slice (some ⟨w.heap.size, 0, none⟩) 5 5] (w.alloc (.cells #[.int .u64 x.co, .int .u64 x.tb, .int .u64 x.pg, .int .u64 x.l, .int .u64 x.e] 83)) fun e w' => e = .returned (.tuple #[.int .u64 (rwd x), .int .i64 0]) /\ Below w.heap.size w w' :=
 (rpack_ok (some ⟨b, 0, none⟩) (some ⟨w.heap.size, 0, none⟩) 5 5 rws x.vs (w.alloc (.cells #[.int .u64 x.co, .int .u64 x.tb, .int .u64 x.pg, .int .u64 x.l, .int .u64 x.e] 83)) (by decide) rfl (rput_can h).1 (hi.on (bal (Below.refl _ _) _)) (ints_vs w x 83) (rput_can h).2).mono fun e w' ⟨hx, hb⟩ => ⟨hx, (bal (Below.refl _ _) _).trans (hb.mono (by simp))⟩
def laidB (w : World) (o : Obj) : World := w.alloc o
theorem laidB_eq (w : World) (o : Obj) : w.alloc o = laidB w o := rfl
theorem rwidths_built (x : Rc) (w : World) :
 Calls Tryz.prog 256 #[] (laidB w (.cells #[.int .u64 x.co, .int .u64 x.tb, .int .u64 x.pg, .int .u64 x.l, .int .u64 x.e] 83)).drew fun e w' => ∃ b, e = .returned (.slice (some ⟨b, 0, none⟩) 5 5) /\ Ints .i64 w'.heap.size w' (.slice (some ⟨b, 0, none⟩) 5 5) rws /\ Ints .u64 w'.heap.size w' (.slice (some ⟨w.heap.size, 0, none⟩) 5 5) x.vs /\ Below w.heap.size w w' :=
 (rwidths_any (w.alloc (.cells #[.int .u64 x.co, .int .u64 x.tb, .int .u64 x.pg, .int .u64 x.l, .int .u64 x.e] 83)).drew).mono fun e w' ⟨b, hx, hi, hb⟩ => ⟨b, hx, hi, (ints_vs w x 83).on ((Below.refl _ _).drew.trans hb), (bal (Below.refl _ _) (.cells #[.int .u64 x.co, .int .u64 x.tb, .int .u64 x.pg, .int .u64 x.l, .int .u64 x.e] 83)).drew.trans (hb.mono (by show _ <= (w.alloc (.cells #[.int .u64 x.co, .int .u64 x.tb, .int .u64 x.pg, .int .u64 x.l, .int .u64 x.e] 83)).heap.size; simp))⟩
theorem rpack_on {x : Rc} (h : Ro x) (b c : Nat) (w : World) (hi : Ints .i64 w.heap.size w (.slice (some ⟨b, 0, none⟩) 5 5) rws) (hj : Ints .u64 w.heap.size w (.slice (some ⟨c, 0, none⟩) 5 5) x.vs) :
 Calls Tryz.prog 255 #[.slice (some ⟨b, 0, none⟩) 5 5, .slice (some ⟨c, 0, none⟩) 5 5] w fun e w' => e = .returned (.tuple #[.int .u64 (rwd x), .int .i64 0]) /\ Below w.heap.size w w' :=
 rpack_ok (some ⟨b, 0, none⟩) (some ⟨c, 0, none⟩) 5 5 rws x.vs w (by decide) rfl (rput_can h).1 hi hj (rput_can h).2
structure Ls (w W : World) (base q N : Nat) (M : Nat -> Nat -> Int) (x : Rc) : Prop where
 rh : Rh w W base q N M
 box : RowR W w.heap.size x
theorem ls_new {w : World} {base q N : Nat} {M : Nat -> Nat -> Int} (h : Rx w base q N M) (x : Rc) : Ls w (w.alloc (.cells #[.int .i64 x.co, .int .i64 x.tb, .int .i64 x.pg, .int .i64 x.l, .int .i64 x.e, .int .i64 x.ip] 183)) base q N M x :=
 ⟨(show Rh w w base q N M from ⟨h, Below.refl _ _, KeepX.refl _ _⟩).on (bal (Below.refl _ _) _), rowR_new w x⟩
theorem Ls.on {w W W' : World} {base q N : Nat} {M : Nat -> Nat -> Int} {x : Rc} (h : Ls w W base q N M x) (hB : Below W.heap.size W W') : Ls w W' base q N M x := ⟨h.rh.on hB, h.box.on hB⟩
theorem Ls.turn {w W W' : World} {base q N : Nat} {M M' : Nat -> Nat -> Int} {x : Rc} (h : Ls w W base q N M x) (hR : RefIs W' base q N M') (hF : Fit M') (hB : Below base W W') (hK : KeepX q W W') : Ls w W' base q N M' x :=
 ⟨⟨h.rh.rx.turn hR hF, h.rh.below.trans hB, h.rh.kp.trans hK⟩, h.box.keep hK.t⟩
theorem rly_any (base q N : Nat) (f : Int) (i : Nat) (x : Rc) (M : Nat -> Nat -> Int) (w : World) (h : Rx w base q N M) (hx : Ro x) (hi : i < 6) :
 Calls Tryz.prog 213 #[.pointer (some ⟨q, 0, none⟩), .int .i64 f, .int .i64 i, .agg #[.int .i64 x.co, .int .i64 x.tb, .int .i64 x.pg, .int .i64 x.l, .int .i64 x.e, .int .i64 x.ip]] w fun e w' => e = .returned (.tuple #[]) /\ Rx w' base q N (lyR N M f i x) /\ Below base w w' /\ KeepX q w w' := by
 have H0 := rhide (ls_new h x)
 have HP : Hid (Ro x) := hx
 have HPl : Hid (∀ wc, Calls Tryz.prog 257 #[.int .i64 i] wc fun e w' => e = .returned (.int .i64 (17 + 2 * (i : Int))) /\ w' = wc) := fun wc => rplace_any i hi wc
 have HS1 : Hid (∀ wc, Ls w wc base q N M x -> Calls Tryz.prog 241 #[.pointer (some ⟨q, 0, none⟩), .int .i64 f, .int .i64 (17 + 2 * (i : Int)), .int .u64 (rwd x)] wc fun e w' => (∃ E, e = .returned (.int .i64 E)) /\ Ls w w' base q N (stW N M f (17 + 2 * (i : Int)) (rwd x)) x) := fun wc h =>
  (ystore_any base q N f (17 + 2 * (i : Int)) (rwd x) M wc h.rh.rx.n1 h.rh.rx.n64 h.rh.rx.ref).mono fun e w' ⟨h1, h2, h3, h4⟩ => ⟨⟨_, h1⟩, h.turn h2 (h.rh.rx.fit.st N f _ _ (rwd_bd hx)) h3 h4⟩
 have HS2 : Hid (∀ wc, Ls w wc base q N (stW N M f (17 + 2 * (i : Int)) (rwd x)) x -> Calls Tryz.prog 241 #[.pointer (some ⟨q, 0, none⟩), .int .i64 f, .int .i64 (17 + 2 * (i : Int) + 1), .int .u64 x.ip] wc fun e w' => (∃ E, e = .returned (.int .i64 E)) /\ Ls w w' base q N (lyR N M f i x) x) := fun wc h => by
  have := ystore_any base q N f (17 + 2 * (i : Int) + 1) x.ip _ wc h.rh.rx.n1 h.rh.rx.n64 h.rh.rx.ref
  rw [show 17 + 2 * (i : Int) + 1 = 18 + 2 * (i : Int) by omega] at this
  rw [show 17 + 2 * (i : Int) + 1 = 18 + 2 * (i : Int) by omega]
  have hip := hx.2.2.2.2.2
  exact this.mono fun e w' ⟨h1, h2, h3, h4⟩ => ⟨⟨_, h1⟩, h.turn h2 (h.rh.rx.fit.st N f _ _ (by omega)) h3 h4⟩
 have HK1 : Hid (∀ b wc, Ints .i64 wc.heap.size wc (.slice (some ⟨b, 0, none⟩) 5 5) rws -> Calls Tryz.prog 255 #[.slice (some ⟨b, 0, none⟩) 5 5, .slice (some ⟨wc.heap.size, 0, none⟩) 5 5] (wc.alloc (.cells #[.int .u64 x.co, .int .u64 x.tb, .int .u64 x.pg, .int .u64 x.l, .int .u64 x.e] 83)) fun e w' => e = .returned (.tuple #[.int .u64 (rwd x), .int .i64 0]) /\ Below wc.heap.size wc w') := fun b wc hi => rpack_five hx b wc hi
 have HK2 : Hid (∀ b c wc, Ints .i64 wc.heap.size wc (.slice (some ⟨b, 0, none⟩) 5 5) rws -> Ints .u64 wc.heap.size wc (.slice (some ⟨c, 0, none⟩) 5 5) x.vs -> Calls Tryz.prog 255 #[.slice (some ⟨b, 0, none⟩) 5 5, .slice (some ⟨c, 0, none⟩) 5 5] wc fun e w' => e = .returned (.tuple #[.int .u64 (rwd x), .int .i64 0]) /\ Below wc.heap.size wc w') := fun b c wc hi hj => rpack_on hx b c wc hi hj
 unfold Ro at hx
 have d0 : IntKind.u64.wrap x.co = x.co := wrapu_small (by omega) (by omega)
 have d1 : IntKind.u64.wrap x.tb = x.tb := wrapu_small (by omega) (by omega)
 have d2 : IntKind.u64.wrap x.pg = x.pg := wrapu_small (by omega) (by omega)
 have d3 : IntKind.u64.wrap x.l = x.l := wrapu_small (by omega) (by omega)
 have d4 : IntKind.u64.wrap x.e = x.e := wrapu_small (by omega) (by omega)
 have d5 : IntKind.u64.wrap x.ip = x.ip := wrapu_small (by omega) (by omega)
 have d6 : wrap64 (17 + 2 * (i : Int) + 1) = 17 + 2 * (i : Int) + 1 := by unfold wrap64; omega
 have d7 : IntKind.i64.wrap (17 + 2 * (i : Int) + 1) = 17 + 2 * (i : Int) + 1 := wrapi_small (by omega) (by omega)
 clear hx h HP
 generalize rwd x = z at HS1 HS2 HK1 HK2
 generalize lyR N M f i x = M2 at HS2 ⊢
 generalize stW N M f (17 + 2 * (i : Int)) z = M1 at HS1 HS2
 go_enter Tryz.func213, Tryz.ntmps213
 go_wp2
 generalize w.alloc _ = w1 at H0 ⊢
 have x0 := H0.out.box.c0
 have x1 := H0.out.box.c1
 have x2 := H0.out.box.c2
 have x3 := H0.out.box.c3
 have x4 := H0.out.box.c4
 have x5 := H0.out.box.c5
 have xl := H0.out.box.lt
 go_cut [8, 9] from 10 to 30 (fun v8 v9 wc => v8 = .int .u64 z /\ v9 = .int .i64 0 /\ Ls w wc base q N M x)
 case first =>
  go_region_held3 (fun w' => w'.cell? ⟨w.heap.size, 0, none⟩ = some (.int .i64 x.co) /\ w'.cell? ⟨w.heap.size, 1, none⟩ = some (.int .i64 x.tb) /\ w'.cell? ⟨w.heap.size, 2, none⟩ = some (.int .i64 x.pg) /\ w'.cell? ⟨w.heap.size, 3, none⟩ = some (.int .i64 x.l) /\ w'.cell? ⟨w.heap.size, 4, none⟩ = some (.int .i64 x.e)) (first | exact ⟨by assumption, by assumption, by assumption, by assumption, by assumption⟩ | go_keep)
  (first
    | (go_at_call 256; rw [laidB_eq]; refine (rwidths_built x _).mono ?_; rintro e2 w2 ⟨b, rfl, hi2, hj2, hb2⟩; have hm : Below w1.heap.size w1 w2 := (by first | exact hb2 | exact (Below.refl _ _).drew.trans hb2); have H2 := rhide (H0.out.on hm); have HK := rhide (HK2.out b w1.heap.size w2 hi2 hj2); clear hm hb2 hi2 hj2 x0 x1 x2 x3 x4 x5 xl H0; have x0 := H2.out.box.c0; have x1 := H2.out.box.c1; have x2 := H2.out.box.c2; have x3 := H2.out.box.c3; have x4 := H2.out.box.c4; have x5 := H2.out.box.c5; have xl := H2.out.box.lt)
    | (go_at_call 256; refine (rwidths_any _).mono ?_; rintro e2 w2 ⟨b, rfl, hi2, hb2⟩; have hm : Below w1.heap.size w1 w2 := (by first | exact hb2 | exact (Below.refl _ _).drew.trans hb2 | exact (bal (Below.refl _ _) _).trans (hb2.mono (by simp)) | exact (bal (Below.refl _ _).drew _).trans (hb2.mono (by simp)) | exact (bal (Below.refl _ _) _).drew.trans (hb2.mono (by simp))); have H2 := rhide (H0.out.on hm); have HK : Hid (Calls Tryz.prog 255 #[.slice (some ⟨b, 0, none⟩) 5 5, .slice (some ⟨w2.heap.size, 0, none⟩) 5 5] (w2.alloc (.cells #[.int .u64 x.co, .int .u64 x.tb, .int .u64 x.pg, .int .u64 x.l, .int .u64 x.e] 83)) fun e w' => e = .returned (.tuple #[.int .u64 z, .int .i64 0]) /\ Below w2.heap.size w2 w') := HK1.out b w2 hi2; clear hm hb2 hi2 x0 x1 x2 x3 x4 x5 xl H0; have x0 := H2.out.box.c0; have x1 := H2.out.box.c1; have x2 := H2.out.box.c2; have x3 := H2.out.box.c3; have x4 := H2.out.box.c4; have x5 := H2.out.box.c5; have xl := H2.out.box.lt)
    | (go_at_call 255; refine HK.out.mono ?_; rintro e3 w3 ⟨rfl, hm⟩; have H3 := rhide (H2.out.on hm); clear hm x0 x1 x2 x3 x4 x5 xl H2 HK; have x0 := H3.out.box.c0; have x1 := H3.out.box.c1; have x2 := H3.out.box.c2; have x3 := H3.out.box.c3; have x4 := H3.out.box.c4; have x5 := H3.out.box.c5; dsimp only)
    | fail)
  all_goals
   go_wp2_with fail
   go_meet
   first | exact ⟨rfl, rfl, H3.out⟩ | exact ⟨rfl, rfl, H3.out.on (Below.refl _ _).drew⟩
 case rest =>
  obtain ⟨h8, h9, h3⟩ := hcut
  subst h8
  subst h9
  have H3 := rhide h3
  clear h3 HK1 HK2 H0 x0 x1 x2 x3 x4 x5 xl
  go_upto_region 3 with (first
   | (go_at_call 257; refine (HPl.out _).mono ?_; rintro e4 w4 ⟨rfl, hw⟩; subst w4)
   | (go_at_call 241; refine (HS1.out _ (by first | exact H3.out | exact H3.out.on (Below.refl _ _).drew)).mono ?_; rintro e5 w5 ⟨⟨E, rfl⟩, hw⟩; have H4 := rhide hw; clear hw H3 HS1)
   | fail)
  have x5 := H4.out.box.c5
  go_region_held3 (fun w' => w'.cell? ⟨w.heap.size, 5, none⟩ = some (.int .i64 x.ip)) (first | assumption | go_keep)
  (first
    | (go_at_call 257; refine (HPl.out _).mono ?_; rintro e6 w6 ⟨rfl, hw⟩; subst w6)
    | (go_at_call 241; refine (HS2.out _ (by first | exact H4.out | exact H4.out.on (Below.refl _ _).drew)).mono ?_; rintro e7 w7 ⟨⟨E2, rfl⟩, hw⟩; have H5 := rhide hw; clear hw H4 HS2 x5; have x5 := H5.out.box.c5)
    | fail)
  all_goals
   go_wp2
   go_end0
   first
    | exact ⟨rfl, H5.out.rh.rx, H5.out.rh.below, H5.out.rh.kp⟩
    | exact ⟨rfl, (H5.out.on (Below.refl _ _).drew).rh.rx, (H5.out.on (Below.refl _ _).drew).rh.below, (H5.out.on (Below.refl _ _).drew).rh.kp⟩
theorem rowT_keep {w w' : World} {B : Nat} {x : Th} (h : RowT w B x) (k : KeepT w w') : RowT w' B x := ⟨k _ _ _ (by decide) h.row⟩
theorem ref_apart {w w' : World} {base q N : Nat} {M : Nat -> Nat -> Int} {B : Nat} {z : Int} (h : RefIs w base q N M) (hN : 1 <= N) (hB : w.cell? ⟨B, 0, none⟩ = some (.int .i64 z)) (hk : ∀ k, k ≠ B -> w'.heap[k]? = w.heap[k]?) : RefIs w' base q N M := by
 obtain ⟨hb, v0, hv, r, cc, h1, h2, h3⟩ := h
 rcases h1.2 with ⟨_, e⟩ | ⟨g, cap, cur, e, hg, hh, rest⟩
 · omega
 · refine ⟨hb, v0, ?_, r, cc, ⟨h1.1, .inr ⟨g, cap, cur, e, hg, ?_, rest⟩⟩, fun j hj => ?_, h3⟩
   · rw [hk q (by rintro rfl; rw [cell_of_row _ _ _ _ _ _ hv, e] at hB; simp at hB)]; exact hv
   · subst e
     rw [hk g (by rintro rfl; rw [h1.cellAt 0 (by omega)] at hB; simp at hB)]; exact hh
   · obtain ⟨hbj, cu, hc, hw⟩ := h2 j hj
     refine ⟨hbj, cu, ?_, hw⟩
     rw [hk (r j) (by intro e; rw [<- e, cell_of_row _ _ _ _ _ _ hc, hw 0 (by omega)] at hB; simp at hB)]; exact hc
theorem keepX_own {q : Nat} {a w : World} (h : KeepX q a w) {D : Nat} (hD : a.heap.size <= D) (j : Nat) (v : Value) : KeepX q a (w.setCell ⟨D, j, none⟩ v) := by
 have eo : ∀ b k, b ≠ D -> (w.setCell ⟨D, j, none⟩ v).cell? ⟨b, k, none⟩ = w.cell? ⟨b, k, none⟩ := fun b k hb => World.cell?_of_block (heap_setCell_other _ _ _ _ hb)
 refine ⟨fun B cs t ht e => ?_, by rw [World.size_setCell]; exact h.size, fun T hT => ?_⟩
 · have hl := (Array.getElem?_eq_some_iff.1 e).1
   rw [heap_setCell_other _ _ _ _ (by show B ≠ D; omega)]
   exact h.t B cs t ht e
 · have hTa := hT.1
   obtain ⟨⟨t0, tp, t1⟩, u1⟩ := h.up T hT
   refine ⟨⟨by rw [World.size_setCell]; exact t0, tp, fun g n cap e => ?_⟩, fun i h1 h2 => (heap_setCell_other _ _ _ _ (by show i ≠ D; omega)).trans (u1 i h1 h2)⟩
   rw [eo q 0 (by omega)] at e
   obtain ⟨a1, a2⟩ := t1 g n cap e
   refine ⟨a1, fun f x l c hf e2 => ?_⟩
   rw [eo g f (by omega)] at e2
   exact a2 f x l c hf e2
theorem rh_set {w W : World} {base q N : Nat} {M : Nat -> Nat -> Int} (h : Rh w W base q N M) {D : Nat} {z : Int} (hz : W.cell? ⟨D, 0, none⟩ = some (.int .i64 z)) (hD : w.heap.size <= D) (hb : base <= w.heap.size) (j : Nat) (v : Value) : Rh w (W.setCell ⟨D, j, none⟩ v) base q N M :=
 ⟨⟨ref_apart h.rx.ref h.rx.n1 hz (fun k hk => heap_setCell_other _ _ _ _ hk), h.rx.fit, h.rx.n1, h.rx.n64⟩, h.below.setCell (p := ⟨D, j, none⟩) (by show base <= D; omega) v, keepX_own h.kp hD j v⟩
structure Pq (w W : World) (base q N : Nat) (M : Nat -> Nat -> Int) (x : Rc) (D : Nat) (y : Th) : Prop where
 ls : Ls w W base q N M x
 th : RowT W D y
 dl : w.heap.size <= D
theorem Pq.turn {w W W' : World} {base q N : Nat} {M M' : Nat -> Nat -> Int} {x : Rc} {D : Nat} {y : Th} (h : Pq w W base q N M x D y) (hR : Rx W' base q N M') (hB : Below base W W') (hK : KeepX q W W') : Pq w W' base q N M' x D y := ⟨h.ls.turn hR.ref hR.fit hB hK, rowT_keep h.th hK.t, h.dl⟩
theorem Ls.more {w W : World} {base q N : Nat} {M : Nat -> Nat -> Int} {x : Rc} (h : Ls w W base q N M x) (y : Th) : Pq w (W.alloc (.cells #[.int .i64 y.st, .int .i64 y.co, .int .i64 y.tc, .int .i64 y.rc, .int .i64 y.de] 178)) base q N M x W.heap.size y := ⟨h.on (bal (Below.refl _ _) _), rowT_new W y, h.rh.kp.size⟩
theorem rpush_any (base q N : Nat) (f : Int) (x : Rc) (M : Nat -> Nat -> Int) (w : World) (h : Rx w base q N M) :
 Calls Tryz.prog 130 #[.pointer (some ⟨q, 0, none⟩), .int .i64 f, .agg #[.int .i64 x.co, .int .i64 x.tb, .int .i64 x.pg, .int .i64 x.l, .int .i64 x.e, .int .i64 x.ip]] w fun e w' => e = .returned (.int .i64 (psE N M f x)) /\ Rx w' base q N (psM N M f x) /\ Below base w w' /\ KeepX q w w' := by
 have H0 := rhide (ls_new h x)
 have HBs := rhide h.le
 have HRt : Hid (∀ wc, Calls Tryz.prog 211 #[.agg #[.int .i64 x.co, .int .i64 x.tb, .int .i64 x.pg, .int .i64 x.l, .int .i64 x.e, .int .i64 x.ip]] wc fun e w' => e = .returned (.bool (roB x)) /\ Below wc.heap.size wc w') := fun wc => rright_any x wc
 have HG : Hid (∀ wc, Ls w wc base q N M x -> Calls Tryz.prog 212 #[.pointer (some ⟨q, 0, none⟩), .int .i64 f] wc fun e w' => e = .returned (.tuple #[.agg #[.int .i64 (gtT N M f).st, .int .i64 (gtT N M f).co, .int .i64 (gtT N M f).tc, .int .i64 (gtT N M f).rc, .int .i64 (gtT N M f).de], .int .i64 (gtE N M f)]) /\ Below wc.heap.size wc w') := fun wc h => Pthd.rget_any base q N f M wc h.rh.rx
 by_cases hx : Ro x
 case neg =>
  have e1 : psE N M f x = 1 := by unfold psE; rw [roB_no hx]; rfl
  have e2 : psM N M f x = M := by unfold psM; rw [if_neg (by rw [e1]; decide)]
  rw [e1, e2]
  rw [roB_no hx] at HRt
  clear e1 e2 hx h HG
  go_enter Tryz.func130, Tryz.ntmps130
  go_wp2_with (first
   | (go_at_call 211; refine (HRt.out _).mono ?_; rintro e1 w1 ⟨rfl, hb⟩; have H1 := rhide (H0.out.on hb); clear hb H0 HRt)
   | fail)
  go_ret
  exact ⟨rfl, H1.out.rh.rx, H1.out.rh.below, H1.out.rh.kp⟩
 case pos =>
 rw [roB_yes hx] at HRt
 by_cases hg : gtE N M f = 0
 · obtain ⟨hf, hde, h6⟩ := gt_dp hg
   rw [hg, (gt_yes hg).2.2, hde] at HG
   by_cases hd : dpN M f = 6
   · have e1 : psE N M f x = 8 := by unfold psE; rw [if_pos (roB_yes hx), if_pos hg, if_pos hd]
     have e2 : psM N M f x = M := by unfold psM; rw [if_neg (by rw [e1]; decide)]
     rw [e1, e2]
     rw [hd] at HG
     push_cast at HG
     generalize thOf M f = y at HG
     clear e1 e2 hd hde h6 hf hg hx h
     go_enter Tryz.func130, Tryz.ntmps130
     go_wp2_with (first
      | (go_at_call 211; refine (HRt.out _).mono ?_; rintro e1 w1 ⟨rfl, hb⟩; have H1 := rhide (H0.out.on hb); clear hb H0 HRt)
      | (go_at_call 212; refine (HG.out _ H1.out).mono ?_; rintro e2 w2 ⟨rfl, hb⟩; have H2 := rhide ((H1.out.on hb).on (bal (Below.refl _ _) (.cells #[.int .i64 y.st, .int .i64 y.co, .int .i64 y.tc, .int .i64 y.rc, .int .i64 6] 178))); clear hb H1 HG)
      | fail)
     go_ret
     exact ⟨rfl, H2.out.rh.rx, H2.out.rh.below, H2.out.rh.kp⟩
   · have e1 : psE N M f x = 0 := by unfold psE; rw [if_pos (roB_yes hx), if_pos hg, if_neg hd]
     obtain ⟨b1, b2⟩ := ps_put e1
     have HLy : Hid (∀ wc, Rx wc base q N M -> Calls Tryz.prog 213 #[.pointer (some ⟨q, 0, none⟩), .int .i64 f, .int .i64 ((dpN M f : Nat) : Int), .agg #[.int .i64 x.co, .int .i64 x.tb, .int .i64 x.pg, .int .i64 x.l, .int .i64 x.e, .int .i64 x.ip]] wc fun e w' => e = .returned (.tuple #[]) /\ Rx w' base q N (lyR N M f (dpN M f) x) /\ Below base wc w' /\ KeepX q wc w') := fun wc h => rly_any base q N f (dpN M f) x M wc h hx (by omega)
     have HPu : Hid (∀ wc, Rx wc base q N (lyR N M f (dpN M f) x) -> Calls Tryz.prog 214 #[.pointer (some ⟨q, 0, none⟩), .int .i64 f, .agg #[.int .i64 (thOf M f).st, .int .i64 (thOf M f).co, .int .i64 (thOf M f).tc, .int .i64 (thOf M f).rc, .int .i64 (((dpN M f : Nat) : Int) + 1)]] wc fun e w' => e = .returned (.int .i64 0) /\ Rx w' base q N (psM N M f x) /\ Below base wc w' /\ KeepX q wc w') := fun wc h => by
      have := Pthd.rput_any base q N f (dpX (thOf M f) ((dpN M f + 1 : Nat) : Int)) (lyR N M f (dpN M f) x) wc h
      rw [b1, b2] at this
      push_cast at this
      exact this
     rw [e1]
     generalize psM N M f x = M2 at HPu ⊢
     generalize lyR N M f (dpN M f) x = M1 at HLy HPu
     generalize thOf M f = y at HG HPu
     generalize dpN M f = d at HG HLy HPu hd h6
     have hw : wrap64 ((d : Int) + 1) = (d : Int) + 1 := by unfold wrap64; omega
     have hd6 : ((d : Int) == 6) = false := by simp; omega
     clear e1 b1 b2 hde hf hg hx h hd
     go_enter Tryz.func130, Tryz.ntmps130
     go_upto_region 8 with (first
      | (go_at_call 211; refine (HRt.out _).mono ?_; rintro e1 w1 ⟨rfl, hb⟩; have H1 := rhide (H0.out.on hb); clear hb H0 HRt)
      | (go_at_call 212; refine (HG.out _ H1.out).mono ?_; rintro e2 w2 ⟨rfl, hb⟩; have H2 := rhide ((H1.out.on hb).more (dpX y (d : Int))); clear hb H1 HG)
      | fail)
     have H2' : Hid (Pq w (w2.alloc (.cells #[.int .i64 y.st, .int .i64 y.co, .int .i64 y.tc, .int .i64 y.rc, .int .i64 (d : Int)] 178)) base q N M x w2.heap.size (dpX y (d : Int))) := H2
     clear H2
     generalize w2.alloc _ = v at H2' ⊢
     generalize w2.heap.size = D at H2' ⊢
     have x0 := H2'.out.ls.box.c0
     have x1 := H2'.out.ls.box.c1
     have x2 := H2'.out.ls.box.c2
     have x3 := H2'.out.ls.box.c3
     have x4 := H2'.out.ls.box.c4
     have x5 := H2'.out.ls.box.c5
     have y4 : v.cell? ⟨D, 4, none⟩ = some (.int .i64 (d : Int)) := H2'.out.th.c4
     go_upto_region 9 with (first
      | (go_at_call 213; refine (HLy.out _ H2'.out.ls.rh.rx).mono ?_; rintro e3 w3 ⟨rfl, hr, hb, hk⟩; have H3 := rhide (H2'.out.turn hr hb hk); clear hr hb hk H2' HLy x0 x1 x2 x3 x4 x5 y4)
      | fail)
     have y0 : w3.cell? ⟨D, 0, none⟩ = some (.int .i64 y.st) := H3.out.th.c0
     have y1 : w3.cell? ⟨D, 1, none⟩ = some (.int .i64 y.co) := H3.out.th.c1
     have y2 : w3.cell? ⟨D, 2, none⟩ = some (.int .i64 y.tc) := H3.out.th.c2
     have y3 : w3.cell? ⟨D, 3, none⟩ = some (.int .i64 y.rc) := H3.out.th.c3
     have y4 : w3.cell? ⟨D, 4, none⟩ = some (.int .i64 (d : Int)) := H3.out.th.c4
     have z4 := H3.out.th.fz 4
     have H4 : Hid (Rh w (w3.setCell ⟨D, 4, none⟩ (.int .i64 ((d : Int) + 1))) base q N M1) := rh_set H3.out.ls.rh H3.out.th.c0 H3.out.dl HBs.out 4 _
     go_wp2_with (first
      | (go_at_call 214; refine (HPu.out _ H4.out.rx).mono ?_; rintro e4 w4 ⟨rfl, hr, hb, hk⟩; have H5 := rhide (And.intro hr (And.intro (H4.out.below.trans hb) (H4.out.kp.trans hk))); clear hr hb hk H4 HPu H3)
      | fail)
     go_ret
     exact ⟨rfl, H5.out⟩
 · have e1 : psE N M f x = gtE N M f := by unfold psE; rw [if_pos (roB_yes hx), if_neg hg]
   have e2 : psM N M f x = M := by unfold psM; rw [if_neg (by rw [e1]; exact hg)]
   rw [e1, e2]
   generalize gtT N M f = y at HG
   generalize gtE N M f = E at HG hg ⊢
   have hE : (E != 0) = true := by simp [hg]
   clear e1 e2 hg h hx
   go_enter Tryz.func130, Tryz.ntmps130
   go_wp2_with (first
    | (go_at_call 211; refine (HRt.out _).mono ?_; rintro e1 w1 ⟨rfl, hb⟩; have H1 := rhide (H0.out.on hb); clear hb H0 HRt)
    | (go_at_call 212; refine (HG.out _ H1.out).mono ?_; rintro e2 w2 ⟨rfl, hb⟩; have H2 := rhide ((H1.out.on hb).on (bal (Below.refl _ _) (.cells #[.int .i64 y.st, .int .i64 y.co, .int .i64 y.tc, .int .i64 y.rc, .int .i64 y.de] 178))); clear hb H1 HG)
    | fail)
   go_ret
   exact ⟨rfl, H2.out.rh.rx, H2.out.rh.below, H2.out.rh.kp⟩
end Pstack
end Go.Proofs.YtkkclcihjojphaaGreatDoor
