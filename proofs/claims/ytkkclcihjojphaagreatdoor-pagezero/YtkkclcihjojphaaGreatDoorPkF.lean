import Derived.Test.YtkkclcihjojphaaGreatDoorBunHead
set_option linter.unusedVariables false
set_option linter.unusedSimpArgs false
set_option maxRecDepth 100000
set_option maxHeartbeats 20000000
namespace Go.Proofs.YtkkclcihjojphaaGreatDoor
namespace Play
open Pbase Pmem Go.RowKit
theorem rhide {p : Prop} (h : p) : Hid p := h
def layF (N : Nat) (M : Nat -> Nat -> Int) (f : Int) (l : List Int) : Nat -> Nat -> Int := if okF N f = true then fun g b => if g = f.toNat /\ 4 <= b /\ b < 4 + l.length then l[b - 4]?.getD 0 else M g b else M
theorem lay_nil (N : Nat) (M : Nat -> Nat -> Int) (f : Int) : layF N M f [] = M := by
 unfold layF
 split
 · funext g b
   rw [if_neg (by rintro ⟨_, h1, h2⟩; simp at h2; omega)]
 · rfl
theorem lay_bad {N : Nat} {f : Int} (h : okF N f = false) (M : Nat -> Nat -> Int) (l : List Int) : layF N M f l = M := by
 unfold layF
 rw [if_neg (by rw [h]; decide)]
theorem lay_step {N : Nat} {M : Nat -> Nat -> Int} {f : Int} {l : List Int} (hl : l.length < 32) (x : Int) : stW N (layF N M f l) f (4 + (l.length : Int)) x = layF N M f (l ++ [x]) := by
 cases hf : okF N f
 · rw [lay_bad hf, lay_bad hf]
   unfold stW okW
   rw [hf]
   rfl
 · have hk : okW N f (4 + (l.length : Int)) = true := by unfold okW; rw [hf]; simp; omega
   unfold stW layF
   rw [if_pos hk, if_pos hf, if_pos hf]
   funext g b
   have e : (4 + (l.length : Int)).toNat = 4 + l.length := by omega
   rw [e, List.length_append, List.length_singleton]
   by_cases hg : g = f.toNat
   · by_cases hb : b = 4 + l.length
     · subst hb
       rw [if_pos ⟨hg, rfl⟩, if_pos ⟨hg, by omega, by omega⟩]
       simp
     · rw [if_neg (fun h => hb h.2)]
       by_cases hr : 4 <= b /\ b < 4 + l.length
       · rw [if_pos ⟨hg, hr⟩, if_pos ⟨hg, by omega, by omega⟩, List.getElem?_append_left (by omega)]
       · rw [if_neg (fun h => hr h.2), if_neg (fun h => hr ⟨h.2.1, by omega⟩)]
   · rw [if_neg (fun h => hg h.1), if_neg (fun h => hg h.1), if_neg (fun h => hg h.1)]
theorem fit_lay {M : Nat -> Nat -> Int} (h : Fit M) (N : Nat) (f : Int) {l : List Int} (hl : ∀ x ∈ l, 0 <= x /\ x <= 18446744073709551615) : Fit (layF N M f l) := by
 intro g b
 unfold layF
 split
 · dsimp only
   split
   · rename_i hb
     have hlt : b - 4 < l.length := by omega
     rw [List.getElem?_eq_getElem hlt]
     exact hl _ (List.getElem_mem hlt)
   · exact h g b
 · exact h g b
theorem is_words {N : Nat} {M M' : Nat -> Nat -> Int} {f : Int} (h : ∀ j, j < 4 -> M' f.toNat j = M f.toNat j) (q : Int) : Phead.isE N M' f q = Phead.isE N M f q := by
 unfold Phead.isE Phead.ghE Phead.ghK
 rw [h 0 (by omega), h 1 (by omega), h 2 (by omega), h 3 (by omega)]
theorem is_bad {N : Nat} {M : Nat -> Nat -> Int} {f : Int} (h : okF N f = false) (q : Int) : Phead.isE N M f q ≠ 0 := by
 have e : Phead.ghE N M f = 1 := by unfold Phead.ghE; rw [h]; rfl
 unfold Phead.isE
 rw [e, if_neg (by decide)]
 decide
theorem made_err {N : Nat} {f k : Int} (hk : 0 <= k /\ k <= 6) : Phead.errP N f k 0 false 0 = errF N f := by
 have hr : Phead.Rt k 0 false 0 := by unfold Phead.Rt; simp; omega
 unfold Phead.errP
 rw [if_pos (Phead.rtB_yes hr)]
def In64 (a : Int) : Prop := -9223372036854775808 <= a /\ a <= 9223372036854775807
def asW (a : Int) : Int := if 0 <= a then a else a + 18446744073709551616
theorem asW_eq {a : Int} (h : In64 a) : IntKind.u64.wrap a = asW a := by
 rw [IntKind.wrap_u64]
 unfold In64 at h
 unfold asW
 split <;> omega
theorem asW_fit {a : Int} (h : In64 a) : 0 <= asW a /\ asW a <= 18446744073709551615 := by
 unfold In64 at h
 unfold asW
 split <;> omega
theorem asW_low {a c : Int} (h : In64 a) (hc : c <= 1073741824) (hl : asW a <= c) : asW a = a /\ 0 <= a := by
 unfold In64 at h
 unfold asW at *
 split at hl
 · rename_i h0
   rw [if_pos h0]
   exact ⟨rfl, h0⟩
 · omega
end Play
namespace Play
open Pbase Pfield Pmem Go.RowKit
structure Rx (w : World) (base q N : Nat) (M : Nat -> Nat -> Int) : Prop where
 ref : RefIs w base q N M
 fit : Fit M
 n1 : 1 <= N
 n64 : N <= 64
theorem Rx.grown {w w' : World} {base q N : Nat} {M : Nat -> Nat -> Int} (h : Rx w base q N M) (hB : Below w.heap.size w w') : Rx w' base q N M := ⟨h.ref.grown hB, h.fit, h.n1, h.n64⟩
theorem Rx.turn {w w' : World} {base q N : Nat} {M M' : Nat -> Nat -> Int} (h : Rx w base q N M) (hR : RefIs w' base q N M') (hF : Fit M') : Rx w' base q N M' := ⟨hR, hF, h.n1, h.n64⟩
theorem Rx.le {w : World} {base q N : Nat} {M : Nat -> Nat -> Int} (h : Rx w base q N M) : base <= w.heap.size := Nat.le_trans h.ref.ge (Nat.le_of_lt h.ref.lt)
theorem ystore_any (base p N : Nat) (f a v : Int) (M : Nat -> Nat -> Int) (w : World) (hN1 : 1 <= N) (hN : N <= 64) (hR : RefIs w base p N M) :
 Calls Tryz.prog 241 #[.pointer (some ⟨p, 0, none⟩), .int .i64 f, .int .i64 a, .int .u64 v] w fun e w' => e = .returned (.int .i64 (errW N f a)) /\ RefIs w' base p N (stW N M f a v) /\ Below base w w' /\ KeepX p w w' := by
 cases h : okF N f
 · simp only [stW, errW, okW, h, Bool.false_and, Bool.false_eq_true, if_false]
   exact (rstore_badF base p N f a v M w h hN1 hN hR).mono fun _ _ ⟨h1, h2⟩ => ⟨h1, by rw [h2]; exact hR, by rw [h2]; exact ⟨Below.refl _ _, KeepX.refl _ _⟩⟩
 · obtain ⟨c, rfl, hc⟩ := okF_split h
   by_cases ha : 0 <= a /\ a < 36
   · obtain ⟨d, rfl⟩ := Int.eq_ofNat_of_zero_le ha.1
     have : okW N (c : Int) (d : Int) = true := by simp [okW, h]; omega
     simp only [errW, this, if_true]
     exact rstore_x base p N c d v M w hc (by omega) hN hR
   · have : okW N (c : Int) a = false := by simp [okW, h]; omega
     simp only [stW, errW, this, Bool.false_eq_true, if_false]
     exact (rstore_badA base p N c a v M w hc ha hN hR).mono fun _ _ ⟨h1, h2⟩ => ⟨h1, by rw [h2]; exact hR, by rw [h2]; exact ⟨Below.refl _ _, KeepX.refl _ _⟩⟩
structure Nums (w : World) (D : Nat) (l : List Int) : Prop where
 row : ∃ cs : Array Value, w.heap[D]? = some (.cells cs 3 (0, 0)) /\ ∀ j, j < l.length -> cs[j]? = some (.int .i64 (l[j]?.getD 0))
theorem Nums.cell {w : World} {D : Nat} {l : List Int} (h : Nums w D l) {j : Nat} (hj : j < l.length) : w.cell? ⟨D, j, none⟩ = some (.int .i64 (l[j]?.getD 0)) := by
 obtain ⟨cs, h1, h2⟩ := h.row
 rw [cell_of_row _ _ _ _ _ _ h1]
 exact h2 j hj
theorem Nums.keep {w w' : World} {D : Nat} {l : List Int} (h : Nums w D l) (k : KeepT w w') : Nums w' D l := by
 obtain ⟨cs, h1, h2⟩ := h.row
 exact ⟨cs, k _ _ _ (by decide) h1, h2⟩
theorem Nums.on {w w' : World} {D : Nat} {l : List Int} (h : Nums w D l) (hB : Below w.heap.size w w') : Nums w' D l := h.keep (.below hB)
structure LyI (w wr : World) (base q N D : Nat) (M : Nat -> Nat -> Int) (l : List Int) : Prop where
 rx : Rx wr base q N M
 below : Below base w wr
 keep : KeepX q w wr
 lst : Nums wr D l
theorem LyI.turn {w wr w' : World} {base q N D : Nat} {M M' : Nat -> Nat -> Int} {l : List Int} (h : LyI w wr base q N D M l) (hR : RefIs w' base q N M') (hB : Below base wr w') (hS : KeepX q wr w') (hF : Fit M') : LyI w w' base q N D M' l :=
 ⟨h.rx.turn hR hF, h.below.trans hB, h.keep.trans hS, h.lst.keep hS.t⟩
theorem take_snoc {l : List Int} {k : Nat} (hk : k < l.length) : l.take (k + 1) = l.take k ++ [l[k]?.getD 0] := by
 rw [List.take_add_one, List.getElem?_eq_getElem hk]
 rfl
theorem rlay_any (base q N D cap : Nat) (f : Int) (l : List Int) (M : Nat -> Nat -> Int) (w : World) (h : Rx w base q N M) (hL : Nums w D l) (hl : l.length <= 32) (hv : ∀ x ∈ l, 0 <= x /\ x <= 9223372036854775807) :
 Calls Tryz.prog 189 #[.pointer (some ⟨q, 0, none⟩), .int .i64 f, .slice (some ⟨D, 0, none⟩) l.length cap] w fun x w' => x = .returned (.tuple #[]) /\ Rx w' base q N (layF N M f l) /\ Below base w w' /\ KeepX q w w' := by
 have HI0 : Hid (LyI w w base q N D M l) := ⟨h, Below.refl _ _, KeepX.refl _ _, hL⟩
 clear h hL
 go_enter Tryz.func189, Tryz.ntmps189
 go_wp2
 go_loopw [6] (fun i wr => ∃ k : Nat, k <= l.length /\ i = .int .i64 k /\ LyI w wr base q N D (layF N M f (l.take k)) l) (fun i _ => l.length - (intOf i).toNat)
 case atStart => exact ⟨0, by omega, rfl, by rw [List.take_zero, lay_nil]; exact HI0.out⟩
 case round =>
  obtain ⟨k, hk, rfl, hI⟩ := hrel
  clear HI0
  by_cases hlt : k < l.length
  · have hki : (k : Int) < (l.length : Int) := by omega
    have hc := hI.lst.cell hlt
    have hx := hv (l[k]?.getD 0) (by rw [List.getElem?_eq_getElem hlt]; exact List.getElem_mem hlt)
    have HS := rhide (take_snoc hlt)
    generalize l[k]?.getD 0 = x at hc hx HS
    have hu : IntKind.u64.wrap x = x := wrapu_small (by omega) (by omega)
    have hw : wrap64 (4 + (k : Int)) = 4 + (k : Int) := by simp only [wrap64]; omega
    have HX : Hid (0 <= x /\ x <= 18446744073709551615) := (show 0 <= x /\ x <= 18446744073709551615 by omega)
    have HI := rhide hI
    clear hI hx
    go_wp2_with (first
     | (go_at_call 241; refine (ystore_any base q N f (4 + (k : Int)) x _ _ HI.out.rx.n1 HI.out.rx.n64 HI.out.rx.ref).mono ?_; rintro e w1 ⟨rfl, hR, hB, hS⟩; have H1 := rhide (HI.out.turn hR hB hS (HI.out.rx.fit.st N f _ x HX.out)); clear hR hB hS HI)
     | fail)
    go_roundw
    case rel =>
     refine ⟨k + 1, by omega, by go_num, ?_⟩
     have e := lay_step (N := N) (M := M) (f := f) (l := l.take k) (by rw [List.length_take]; omega) x
     rw [List.length_take, Nat.min_eq_left (by omega)] at e
     rw [HS.out, <- e]
     exact H1.out
    case measure => simp [intOf]; omega
  · obtain rfl : k = l.length := by omega
    rw [List.take_length] at hI
    have HI := rhide hI
    clear hI
    go_wp2
    go_end0
    exact ⟨rfl, HI.out.rx, HI.out.below, HI.out.keep⟩
def rdL (N : Nat) (M : Nat -> Nat -> Int) (f : Int) (k : Nat) : List Int := (List.range k).map fun i => ldM N M f (4 + (i : Nat))
def rdB (N : Nat) (M : Nat -> Nat -> Int) (f : Int) (k : Nat) : Bool := decide (∀ i, i < k -> ldM N M f (4 + (i : Nat)) <= 1073741824)
theorem rdL_succ (N : Nat) (M : Nat -> Nat -> Int) (f : Int) (k : Nat) : rdL N M f (k + 1) = rdL N M f k ++ [ldM N M f (4 + (k : Nat))] := by simp [rdL, List.range_succ]
theorem rdL_len (N : Nat) (M : Nat -> Nat -> Int) (f : Int) (k : Nat) : (rdL N M f k).length = k := by simp [rdL]
theorem rdL_at (N : Nat) (M : Nat -> Nat -> Int) (f : Int) {k j : Nat} (h : j < k) : (rdL N M f k)[j]?.getD 0 = ldM N M f (4 + (j : Nat)) := by simp [rdL, h]
def rdV (N : Nat) (M : Nat -> Nat -> Int) (f : Int) (k : Nat) : List Value := (rdL N M f k).map (.int .i64)
theorem ld_fit {N : Nat} {M : Nat -> Nat -> Int} (h : Fit M) (f a : Int) : 0 <= ldM N M f a /\ ldM N M f a <= 18446744073709551615 := by
 unfold ldM
 split
 · exact h _ _
 · omega
theorem infoIntC : (Tryz.prog.info? 3).map (fun i => (i.zero, i.size, i.bytes)) = some (some (.int .i64 0), 1, 8) := by kernel_rfl
structure RdI (w wr : World) (N : Nat) (M : Nat -> Nat -> Int) (f : Int) (k : Nat) (v : Value) : Prop where
 below : Below w.heap.size w wr
 row : wr.ownsRow w.heap.size 3 1 v k (rdV N M f k)
 ok : ∀ i, i < k -> ldM N M f (4 + (i : Nat)) <= 1073741824
theorem owns_lst {w : World} {base : Nat} {v : Value} {l : List Int} (h : w.ownsRow base 3 1 v l.length (l.map (.int .i64))) (h0 : 0 < l.length) : ∃ g cap, v = .slice (some ⟨g, 0, none⟩) l.length cap /\ base <= g /\ g < w.heap.size /\ Nums w g l := by
 rcases h.2 with ⟨e, _⟩ | ⟨g, cap, cur, e, hg, hh, _, _, _, ht⟩
 · omega
 · refine ⟨g, cap, e, hg, (Array.getElem?_eq_some_iff.1 hh).1, cur, hh, fun j hj => ?_⟩
   have := congrArg (fun l => l[j]?) ht
   simp only [Nat.mul_one, List.getElem?_take, hj, if_true, Array.getElem?_toList, List.getElem?_map, List.getElem?_eq_getElem hj, Option.map_some] at this
   rw [this, List.getElem?_eq_getElem hj]
   rfl
theorem rread_any (base q N k0 : Nat) (f : Int) (M : Nat -> Nat -> Int) (w : World) (h : Rx w base q N M) (h0 : 0 < k0) (h32 : k0 <= 32) :
 Calls Tryz.prog 254 #[.pointer (some ⟨q, 0, none⟩), .int .i64 f, .int .i64 k0] w fun x w' => ((rdB N M f k0 = false /\ x = .returned (.tuple #[.slice none 0 0, .bool false])) \/ (rdB N M f k0 = true /\ ∃ g cap, x = .returned (.tuple #[.slice (some ⟨g, 0, none⟩) k0 cap, .bool true]) /\ w.heap.size <= g /\ g < w'.heap.size /\ Nums w' g (rdL N M f k0))) /\ Below w.heap.size w w' := by
 obtain ⟨it, hi, hz0, hz1, hz2⟩ := info_parts infoIntC
 have H0 := rhide h
 clear h
 go_enter Tryz.func254, Tryz.ntmps254
 go_wp2
 go_loopw [8, 9] (fun s i wr => ∃ (k : Nat) (v : Value), k <= k0 /\ i = .int .i64 k /\ s = v /\ RdI w wr N M f k v) (fun _ i _ => k0 - (intOf i).toNat)
 case atStart => exact ⟨0, _, by omega, rfl, rfl, Below.refl _ _, World.ownsRow_nil _ _ _ _, fun i hi => by omega⟩
 case round =>
  obtain ⟨k, v, hk, rfl, hv, hI⟩ := hrel
  obtain ⟨av, cv, hvs⟩ := ownsRow_slice hI.row
  subst hv
  subst hvs
  by_cases hlt : k < k0
  · have hki : (k : Int) < (k0 : Int) := by omega
    have hw : wrap64 (4 + (k : Int)) = 4 + (k : Int) := by simp only [wrap64]; omega
    have hrx := H0.out.grown hI.below
    have hfit := ld_fit (N := N) hrx.fit f (4 + (k : Int))
    have HL : Hid (Calls Tryz.prog 282 #[.pointer (some ⟨q, 0, none⟩), .int .i64 f, .int .i64 (4 + (k : Int))] wr fun x w' => x = .returned (.tuple #[.int .u64 (ldM N M f (4 + (k : Int))), .int .i64 (errW N f (4 + (k : Int)))]) /\ w' = wr) := rload_any base q N f _ M wr hrx.n1 hrx.n64 hrx.ref
    obtain ⟨x, hx⟩ : ∃ x, ldM N M f (4 + (k : Int)) = x := ⟨_, rfl⟩
    rw [hx] at HL hfit
    have HX := rhide hx
    have hrow := hI.row
    have hsz : w.heap.size <= wr.heap.size := hI.below.size
    have HI := rhide hI
    clear hx hI hrx
    by_cases hm : x <= 1073741824
    · have hu : IntKind.i64.wrap x = x := wrapi_small (by omega) (by omega)
      have hng : ¬ 1073741824 < x := by omega
      have HR : Hid (∀ g, (Value.slice av k cv).ownBlock = some g -> w.heap.size <= g) := fun g e => (hrow.lt g e).1
      go_wp2_with (first
       | (go_at_call 282; refine HL.out.mono ?_; rintro e w' ⟨rfl, hw'⟩; subst w'; clear HL)
       | (at_builtin; refine wpList_append_own _ rfl _ _ 147 rfl w.heap.size 3 it (.int .i64 0) 1 8 Tryz.underlying147 hi hz0 hz1 hz2 rfl (by decide) _ _ _ rfl (hrow.alloc _) ⟨wr.heap.size, 0, none⟩ 1 1 [.int .i64 x] rfl rfl (cell_one_new wr _ _) (by simp [Value.oneCell']) (by unfold maxLen; omega) (by omega) (by simp; omega) ?_; intro v' w1 hown' hgrow _; obtain ⟨g', cap', rfl⟩ := ownsRow_succ hown'; have HB1 : Hid (Below w.heap.size wr w1) := ((Below.refl _ _).alloc (by omega) _).grown hgrow (by simp; omega) (fun k e => HR.out k e); have HG1 := rhide hgrow; have HO1 := rhide hown'; clear hgrow hown'))
      go_roundw
      case rel =>
       refine ⟨k + 1, _, by omega, by go_num, rfl, HI.out.below.trans HB1.out, ?_, fun j hj => ?_⟩
       · have e : rdV N M f (k + 1) = rdV N M f k ++ [.int .i64 x] := by unfold rdV; rw [rdL_succ, List.map_append, HX.out]; rfl
         rw [e]
         exact HO1.out
       · by_cases e : j = k
         · subst e; rw [HX.out]; exact hm
         · exact HI.out.ok j (by omega)
      case measure => simp [intOf]; omega
    · have hng : 1073741824 < x := by omega
      go_wp2_with (first
       | (go_at_call 282; refine HL.out.mono ?_; rintro e w' ⟨rfl, hw'⟩; subst w'; clear HL)
       | fail)
      go_ret2
      refine ⟨.inl ⟨?_, rfl⟩, HI.out.below⟩
      unfold rdB
      rw [decide_eq_false_iff_not]
      intro hall
      have := hall k hlt
      rw [HX.out] at this
      omega
  · obtain rfl : k = k0 := by omega
    have HI := rhide hI
    clear hI
    go_wp2
    go_ret2
    refine ⟨.inr ⟨by unfold rdB; rw [decide_eq_true_eq]; exact HI.out.ok, ?_⟩, HI.out.below⟩
    have e := owns_lst (l := rdL N M f k) (by rw [rdL_len]; exact HI.out.row) (by rw [rdL_len]; exact h0)
    rw [rdL_len] at e
    obtain ⟨g, cap, e1, e2, e3, e4⟩ := e
    exact ⟨g, cap, by rw [e1]; rfl, e2, e3, e4⟩
def inB (n lo hi : Int) : Bool := decide (lo <= n) && decide (n <= hi)
theorem in_any (n lo hi : Int) (w : World) : Calls Tryz.prog 240 #[.int .i64 n, .int .i64 lo, .int .i64 hi] w fun e w' => e = .returned (.bool (inB n lo hi)) /\ w' = w := by
 unfold inB
 by_cases h : lo <= n
 · go_enter Tryz.func240, Tryz.ntmps240
   go_wp2
   go_ret
   exact ⟨by simp [h], rfl⟩
 · go_enter Tryz.func240, Tryz.ntmps240
   go_wp2
   go_ret
   refine ⟨?_, rfl⟩
   have h' : decide (lo <= n) = false := by simp; omega
   rw [h']
   rfl
end Play
namespace Play
open Pbase Pmem Go.RowKit
structure RowV (w : World) (B : Nat) (vs : List Value) : Prop where
 row : ∃ t, w.heap[B]? = some (.cells vs.toArray t (0, 0))
section
variable {w w' : World} {B : Nat} {vs : List Value}
theorem RowV.lt (h : RowV w B vs) : B < w.heap.size := by
 obtain ⟨t, h⟩ := h.row
 exact (Array.getElem?_eq_some_iff.1 h).1
theorem RowV.cell (h : RowV w B vs) (j : Nat) : w.cell? ⟨B, j, none⟩ = vs[j]? := by
 obtain ⟨t, h⟩ := h.row
 rw [cell_of_row _ _ _ _ _ _ h]
 simp
theorem RowV.on (h : RowV w B vs) (hB : Below w.heap.size w w') : RowV w' B vs := by
 have hl := h.lt
 obtain ⟨t, h⟩ := h.row
 exact ⟨t, (hB.block B hl).trans h⟩
theorem rowV_new (w : World) (vs : List Value) (t : TypeId) : RowV (w.alloc (.cells vs.toArray t)) w.heap.size vs := ⟨t, heap_alloc_new w _⟩
end
end Play
namespace Play
open Pbase Pfield Pmem Go.RowKit
structure Dh (w W : World) (base q N : Nat) (M : Nat -> Nat -> Int) : Prop where
 rx : Rx W base q N M
 below : Below base w W
 kp : KeepX q w W
theorem dh_self {w : World} {base q N : Nat} {M : Nat -> Nat -> Int} (h : Rx w base q N M) : Dh w w base q N M := ⟨h, Below.refl _ _, KeepX.refl _ _⟩
theorem Dh.on {w W W' : World} {base q N : Nat} {M : Nat -> Nat -> Int} (h : Dh w W base q N M) (hB : Below W.heap.size W W') : Dh w W' base q N M := ⟨h.rx.grown hB, h.below.trans (hB.mono h.rx.le), h.kp.trans (KeepX.below hB)⟩
theorem Dh.turn {w W W' : World} {base q N : Nat} {M M' : Nat -> Nat -> Int} (h : Dh w W base q N M) (hR : RefIs W' base q N M') (hF : Fit M') (hB : Below base W W') (hK : KeepX q W W') : Dh w W' base q N M' := ⟨h.rx.turn hR hF, h.below.trans hB, h.kp.trans hK⟩
theorem Dh.trans {w W W' : World} {base q N : Nat} {M M' : Nat -> Nat -> Int} (h : Dh w W base q N M) (k : Dh W W' base q N M') : Dh w W' base q N M' := ⟨k.rx, h.below.trans k.below, h.kp.trans k.kp⟩
end Play
namespace Pring
open Pbase Pfield Play Pmem Go.RowKit M
end Pring
end Go.Proofs.YtkkclcihjojphaaGreatDoor
