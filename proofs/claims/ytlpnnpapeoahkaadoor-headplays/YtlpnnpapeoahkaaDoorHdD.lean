/- What Put and Make of package head answer and do, for every argument, over a memory that New made. -/
import Derived.Test.YtlpnnpapeoahkaaDoorHdC
namespace Go.Proofs.YtlpnnpapeoahkaaDoor
open Go.RowKit M
set_option linter.unusedVariables false

theorem MemIs.grown {w w' : World} {p b N : Nat} {M : Nat → Nat → Int} (h : MemIs w p b N M) (hB : Below w.heap.size w w') : MemIs w' p b N M := h.below hB h.lt.1 h.lt.2
theorem Row4.but {w w' : World} {B q : Nat} {a b c d : Int} (h : Row4 w B a b c d) (hB : But q w w') (hn : B ≠ q) : Row4 w' B a b c d :=
  ⟨Nat.lt_of_lt_of_le h.lt hB.size, (hB.cell h.lt hn).trans h.c0, (hB.cell h.lt hn).trans h.c1, (hB.cell h.lt hn).trans h.c2, (hB.cell h.lt hn).trans h.c3, fun j => (hB.frozen h.lt hn).trans (h.fz j)⟩
theorem Box4.but {w w' : World} {B q : Nat} {k l t : Int} {z : Bool} (h : Box4 w B k l z t) (hB : But q w w') (hn : B ≠ q) : Box4 w' B k l z t :=
  ⟨Nat.lt_of_lt_of_le h.lt hB.size, (hB.cell h.lt hn).trans h.c0, (hB.cell h.lt hn).trans h.c1, (hB.cell h.lt hn).trans h.c2, (hB.cell h.lt hn).trans h.c3, fun j => (hB.frozen h.lt hn).trans (h.fz j)⟩
theorem wA_yes {k l t : Int} {z : Bool} (h : Rt k l z t) : wA k l z t = wd0 k l z := by simp [wA, rtB_yes h]
theorem wB_yes {k l t : Int} {z : Bool} (h : Rt k l z t) : wB k l z t = t := by simp [wB, rtB_yes h]
/-- Behind wordsOf: the words in a block of the call's own. -/
theorem put_laid {w w1 : World} {p b N : Nat} {M : Nat → Nat → Int} (x y : Int) (hM : MemIs w p b N M) (h1 : Below w.heap.size w w1) :
    MemIs (w1.alloc (.cells #[.int .u64 x, .int .u64 y, .int .u64 0, .int .u64 0] 60)) p b N M ∧ Row4 (w1.alloc (.cells #[.int .u64 x, .int .u64 y, .int .u64 0, .int .u64 0] 60)) w1.heap.size x y 0 0 ∧ Below w.heap.size w (w1.alloc (.cells #[.int .u64 x, .int .u64 y, .int .u64 0, .int .u64 0] 60)) :=
  ⟨hM.grown (bal h1 _), row4_new w1 x y 0 0 60, bal h1 _⟩
set_option maxRecDepth 100000 in
set_option maxHeartbeats 1000000 in
theorem hput_any (p b N : Nat) (f k l : Int) (z : Bool) (t : Int) (M : Nat → Nat → Int) (w : World) (hN1 : 1 ≤ N) (hN : N ≤ 64) (hM : MemIs w p b N M) (hW : TabW w) :
    Calls Tryd.prog 7 #[.pointer (some ⟨p, 0, none⟩), .int .i64 f, .agg #[.int .i64 k, .int .i64 l, .bool z, .int .i64 t]] w fun e w' => e = .returned (.int .i64 (errP N f k l z t)) ∧ MemIs w' p b N (putM N M f k l z t) ∧ But b w w' := by
  have HW : Hid (∀ o, TabW (w.alloc o)) := fun o => hW.on (bal (Below.refl _ _) _)
  have HM : Hid (MemIs w p b N M) := hM
  clear hW hM
  by_cases hp : Rt k l z t
  case neg =>
    rw [show errP N f k l z t = 1 by simp [errP, rtB_no hp], show putM N M f k l z t = M by simp [putM, rtB_no hp]]
    have hc : chk k l z t = 1 := chk_no hp
    clear hp
    go_enter Tryd.func7, Tryd.ntmps7
    go_wp2_with (first
      | (go_at_call 24; refine (words_of k l z t _ (HW.out _)).mono ?_; rintro e1 w1 ⟨rfl, hb1⟩; rw [hc]; have H1 : Hid (Below w.heap.size w w1) := (bal (Below.refl _ _) _).trans (hb1.mono (by simp)); clear hb1)
      | fail)
    go_ret
    exact ⟨rfl, HM.out.grown (bal H1.out _), But.of_below b (bal H1.out _)⟩
  case pos =>
  rw [show errP N f k l z t = errF N f by simp [errP, rtB_yes hp], show putM N M f k l z t = st4 N M f (wd0 k l z) t 0 0 by simp [putM, rtB_yes hp]]
  have hc : chk k l z t = 0 := chk_yes hp
  have ha := wA_yes hp
  have hb := wB_yes hp
  obtain ⟨x, hx⟩ : ∃ x, x = wd0 k l z := ⟨_, rfl⟩
  rw [← hx] at ha ⊢
  clear hp hx
  have hmf : ∀ (fn : Fn) (first cap : Array Value) (w : World), (Instr.makeFunc fn first cap).run Tryd.prog w = .ok (.func fn first cap) w := fun _ _ _ _ => rfl
  go_enter Tryd.func7, Tryd.ntmps7
  go_wp2_with (first
    | (go_at_call 24; refine (words_of k l z t _ (HW.out _)).mono ?_; rintro e1 w1 ⟨rfl, hb1⟩; rw [hc, ha, hb]; have H1 : Hid (Below w.heap.size w w1) := (bal (Below.refl _ _) _).trans (hb1.mono (by simp)); clear hb1 HW)
    | fail)
  have HL := put_laid x t HM.out H1.out
  have hne : w1.heap.size ≠ b := Nat.ne_of_gt (Nat.lt_of_lt_of_le HM.out.lt.2 H1.out.size)
  generalize w1.alloc _ = w2 at HL ⊢
  generalize w1.heap.size = D at HL hne ⊢
  have HN : Hid (D ≠ b) := hne
  clear hne
  have HM2 : Hid (MemIs w2 p b N M) := HL.1
  have HR2 : Hid (Row4 w2 D x t 0 0) := HL.2.1
  have H2 : Hid (Below w.heap.size w w2) := HL.2.2
  clear HL H1 HM
  have x0 := HR2.out.c0
  have x1 := HR2.out.c1
  have x2 := HR2.out.c2
  have x3 := HR2.out.c3
  go_region_held3 (fun w' => w'.cell? ⟨D, 0, none⟩ = some (.int .u64 x) ∧ w'.cell? ⟨D, 1, none⟩ = some (.int .u64 t) ∧ w'.cell? ⟨D, 2, none⟩ = some (.int .u64 0) ∧ w'.cell? ⟨D, 3, none⟩ = some (.int .u64 0)) (first | exact ⟨by assumption, by assumption, by assumption, by assumption⟩ | go_keep)
  (first
    | (go_at_call 26; refine (into_any f p _).mono ?_; rintro e3 w3 ⟨rfl, hF, hB⟩; have H3 : Hid (Below w2.heap.size w2 w3) := (by first | exact hB | exact (Below.refl _ _).drew.trans hB); have HF : Hid (BoxF w3 w2.heap.size f (storeV p)) := hF; clear hF hB x0 x1 x2 x3; have HR3 := HR2.out.on H3.out; have x0 := HR3.c0; have x1 := HR3.c1; have x2 := HR3.c2; have x3 := HR3.c3; have HR : Hid (Row4 w3 D x t 0 0) := HR3; clear HR3; have HK : Hid (∀ wc, Below w3.heap.size w3 wc → Calls Tryd.prog 25 #[.agg #[.int .u64 x, .int .u64 t, .int .u64 0, .int .u64 0], .func (.func 44) #[] #[.pointer (some ⟨w2.heap.size + 1, 0, none⟩), .pointer (some ⟨w2.heap.size, 0, none⟩)]] wc fun e w' => e = .returned (.int .i64 (errF N f)) ∧ MemIs w' p b N (st4 N M f x t 0 0) ∧ But b wc w') := (fun wc hc => write_any w2.heap.size p b N f x t 0 0 M wc hN1 hN (HM2.out.grown (H3.out.trans (hc.mono H3.out.size))) (HF.out.on hc) (Nat.ne_of_gt HM2.out.lt.2) (Nat.ne_of_gt (Nat.lt_succ_of_lt HM2.out.lt.2))))
    | (go_at_call 25; refine (HK.out _ (by first | exact Below.refl _ _ | exact (Below.refl _ _).drew)).mono ?_; rintro e4 w4 ⟨rfl, hM4, hB4⟩; have HM4 : Hid (MemIs w4 p b N (st4 N M f x t 0 0)) := hM4; have H4 : Hid (But b w w4) := (((But.of_below b H2.out).trans (But.of_below b H3.out)).trans (by first | exact hB4 | exact (But.of_below b (Below.refl _ _).drew).trans hB4)); clear x0 x1 x2 x3 HK; have HR4 : Row4 w4 D x t 0 0 := (by first | exact HR.out.but hB4 HN.out | exact (HR.out.on (Below.refl _ _).drew).but hB4 HN.out); have x0 := HR4.c0; have x1 := HR4.c1; have x2 := HR4.c2; have x3 := HR4.c3; clear hM4 hB4 HR4)
    | fail)
  go_wp2
  go_ret
  exact ⟨rfl, HM4.out, H4.out⟩

/-! ### Make -/
theorem tab_ne {w : World} {p b N : Nat} {M : Nat → Nat → Int} (hM : MemIs w p b N M) (hW : TabW w) : 0 ≠ b := by
  intro e
  obtain ⟨t, fr, hr⟩ := hW.row
  rw [e, hM.row] at hr
  simp only [Option.some.injEq, Obj.cells.injEq] at hr
  have := congrArg Array.size hr.1
  rw [cellsM_size] at this
  simp at this
  omega
theorem TabW.but {w w' : World} {b : Nat} (h : TabW w) (hB : But b w w') (hn : 0 ≠ b) : TabW w' :=
  ⟨Nat.lt_of_lt_of_le h.lt hB.size, by obtain ⟨t, fr, hr⟩ := h.row; exact ⟨t, fr, (hB.block 0 h.lt hn).trans hr⟩⟩
theorem clM_bad {N : Nat} {f : Int} (h : okF N f = false) (M : Nat → Nat → Int) : clM N M f = M := by simp [clM, h]
set_option maxRecDepth 100000 in
set_option maxHeartbeats 1000000 in
theorem hmake_any (p b N : Nat) (f k l : Int) (z : Bool) (t : Int) (M : Nat → Nat → Int) (w : World) (hN1 : 1 ≤ N) (hN : N ≤ 64) (hM : MemIs w p b N M) (hW : TabW w) :
    Calls Tryd.prog 9 #[.pointer (some ⟨p, 0, none⟩), .int .i64 f, .agg #[.int .i64 k, .int .i64 l, .bool z, .int .i64 t]] w fun e w' => e = .returned (.int .i64 (errP N f k l z t)) ∧ MemIs w' p b N (mkM N M f k l z t) ∧ But b w w' := by
  have HW : Hid (TabW w) := hW
  have HM : Hid (MemIs w p b N M) := hM
  have HG : Hid (0 ≠ b) := tab_ne hM hW
  have HI : Hid (∀ ty w1, Below (w.alloc (.cells #[.int .i64 k, .int .i64 l, .bool z, .int .i64 t] ty)).heap.size (w.alloc (.cells #[.int .i64 k, .int .i64 l, .bool z, .int .i64 t] ty)) w1 → Box4 w1 w.heap.size k l z t ∧ Below w.heap.size w w1) := fun ty w1 h => ⟨(box4_new w k l z t ty).on h, (bal (Below.refl _ _) _).trans (h.mono (by simp))⟩
  clear hW hM
  by_cases hp : Rt k l z t
  case neg =>
    rw [show errP N f k l z t = 1 by simp [errP, rtB_no hp], show mkM N M f k l z t = M by simp [mkM, rtB_no hp]]
    have hc : chk k l z t = 1 := chk_no hp
    clear hp
    go_enter Tryd.func9, Tryd.ntmps9
    go_wp2_with (first
      | (go_at_call 11; refine (check_any k l z t _).mono ?_; rintro e1 w1 ⟨rfl, hb1⟩; rw [hc]; have H1 : Hid (Below w.heap.size w w1) := (HI.out _ _ hb1).2; clear hb1 HI)
      | fail)
    go_ret
    exact ⟨rfl, HM.out.grown H1.out, But.of_below b H1.out⟩
  case pos =>
  have e1 : errP N f k l z t = errF N f := by simp [errP, rtB_yes hp]
  have e2 : mkM N M f k l z t = putM N (clM N M f) f k l z t := by simp [mkM, putM, rtB_yes hp]
  have e3 : putM N M f k l z t = st4 N M f (wd0 k l z) t 0 0 := by simp [putM, rtB_yes hp]
  have hc : chk k l z t = 0 := chk_yes hp
  clear hp
  cases hf : okF N f
  case false =>
    rw [e1, e2, clM_bad hf, e3, st4_bad hf, show errF N f = 1 by simp [errF, hf]]
    have he : errF N f = 1 := by simp [errF, hf]
    have hm : clM N M f = M := clM_bad hf M
    clear e1 e2 e3 hf
    go_enter Tryd.func9, Tryd.ntmps9
    go_wp2_with (first
      | (go_at_call 11; refine (check_any k l z t _).mono ?_; rintro e1 w1 ⟨rfl, hb1⟩; rw [hc]; have H1 : Hid (Below w.heap.size w w1) := (HI.out _ _ hb1).2; clear hb1 HI)
      | (go_at_call 30; refine (clear_any p b N f M _ hN1 hN (HM.out.grown H1.out)).mono ?_; rintro e2 w2 ⟨rfl, h2⟩; rw [hm, (HM.out.grown H1.out).self] at h2; subst h2; rw [he])
      | fail)
    go_ret
    exact ⟨rfl, HM.out.grown H1.out, But.of_below b H1.out⟩
  case true =>
    have he : errF N f = 0 := by simp [errF, hf]
    rw [e2, e1, he]
    clear e2 e3 hf
    go_enter Tryd.func9, Tryd.ntmps9
    go_wp2_with (first
      | (go_at_call 11; refine (check_any k l z t _).mono ?_; rintro e1 w1 ⟨rfl, hb1⟩; rw [hc]; have H1 : Hid (Below w.heap.size w w1) := (HI.out _ _ hb1).2; have HX : Hid (Box4 w1 w.heap.size k l z t) := (HI.out _ _ hb1).1; clear hb1 HI; have x0 := HX.out.c0; have x1 := HX.out.c1; have x2 := HX.out.c2; have x3 := HX.out.c3)
      | (go_at_call 30; refine (clear_any p b N f M _ hN1 hN (HM.out.grown H1.out)).mono ?_; rintro e2 w2 ⟨rfl, h2⟩; rw [he]; have HB : But b w1 w2 := (by rw [h2]; exact (But.refl b w1).setRow _); have H2 : Hid (But b w w2) := (But.of_below b H1.out).trans HB; have HM2 : Hid (MemIs w2 p b N (clM N M f)) := (by rw [h2]; exact (HM.out.grown H1.out).set _); have HW2 : Hid (TabW w2) := (HW.out.on H1.out).but HB HG.out; have HX2 := HX.out.but HB (Nat.ne_of_gt HM.out.lt.2); clear x0 x1 x2 x3 h2 HB; have x0 := HX2.c0; have x1 := HX2.c1; have x2 := HX2.c2; have x3 := HX2.c3; clear HX2)
      | (go_at_call 7; refine (hput_any p b N f k l z t (clM N M f) _ hN1 hN HM2.out HW2.out).mono ?_; rintro e3 w3 ⟨rfl, hM3, hB3⟩; have HM3 : Hid (MemIs w3 p b N (putM N (clM N M f) f k l z t)) := hM3; have H3 : Hid (But b w w3) := H2.out.trans hB3; clear hM3 hB3)
      | fail)
    go_ret
    exact ⟨rfl, HM3.out, H3.out⟩
end Go.Proofs.YtlpnnpapeoahkaaDoor
