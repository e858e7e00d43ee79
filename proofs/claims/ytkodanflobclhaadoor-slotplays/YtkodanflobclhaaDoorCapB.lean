/- There and back, in plain words; what 'awake' answers; the tables and blocks of a statement's own. -/
import Derived.Test.YtkodanflobclhaaDoorCapE
namespace Go.Proofs.YtkodanflobclhaaDoor.Pcap
open Go.Proofs.YtkodanflobclhaaDoor.Pbase Go.Proofs.YtkodanflobclhaaDoor.Pfield
open Go.RowKit M
set_option linter.unusedVariables false

/-- What is put is got. -/
theorem back_get {k r t l e a : Int} (h : Rt k r t l e a) : (0 ≤ packF ws [k, r, t, l, e] ∧ packF ws [k, r, t, l, e] ≤ 18446744073709551615) ∧ Got (packF ws [k, r, t, l, e]) a ∧ getE (packF ws [k, r, t, l, e]) a = 0 ∧
    getC (packF ws [k, r, t, l, e]) a 0 = k ∧ getC (packF ws [k, r, t, l, e]) a 1 = r ∧ getC (packF ws [k, r, t, l, e]) a 2 = t ∧ getC (packF ws [k, r, t, l, e]) a 3 = l ∧ getC (packF ws [k, r, t, l, e]) a 4 = e ∧ getC (packF ws [k, r, t, l, e]) a 5 = a := by
  obtain ⟨hb, hc, hg⟩ := pack_unpack (zs := ws) (vs := [k, r, t, l, e]) rfl (put_can h).1 (put_can h).2
  generalize packF ws [k, r, t, l, e] = z at hb hc hg ⊢
  have g0 : gN z 0 = k := by unfold gN; rw [hg]; rfl
  have g1 : gN z 1 = r := by unfold gN; rw [hg]; rfl
  have g2 : gN z 2 = t := by unfold gN; rw [hg]; rfl
  have g3 : gN z 3 = l := by unfold gN; rw [hg]; rfl
  have g4 : gN z 4 = e := by unfold gN; rw [hg]; rfl
  have hG : Got z a := ⟨hc, by unfold Rt at h; omega, by rw [g0, g1, g2, g3, g4]; exact h⟩
  obtain ⟨e0, e1, e2, e3, e4, e5⟩ := getC_yes hG
  exact ⟨hb, hG, getE_yes hG, e0.trans g0, e1.trans g1, e2.trans g2, e3.trans g3, e4.trans g4, e5⟩
/-- What is got is put. -/
theorem back_put {x y : Int} (hx : 0 ≤ x ∧ x ≤ 18446744073709551615) (h : Got x y) : Rt (gN x 0) (gN x 1) (gN x 2) (gN x 3) (gN x 4) y ∧ putW (gN x 0) (gN x 1) (gN x 2) (gN x 3) (gN x 4) y = x ∧ putA (gN x 0) (gN x 1) (gN x 2) (gN x 3) (gN x 4) y = y ∧ chk (gN x 0) (gN x 1) (gN x 2) (gN x 3) (gN x 4) y = 0 := by
  refine ⟨h.2.2, ?_, putA_yes h.2.2, chk_yes h.2.2⟩
  rw [putW_yes h.2.2]
  have hl := getsI_length x ws
  have he : getsI x ws = [gN x 0, gN x 1, gN x 2, gN x 3, gN x 4] := by
    unfold gN
    generalize getsI x ws = l at hl
    match l, hl with
    | [v0, v1, v2, v3, v4], _ => rfl
  have := (unpack_pack hx h.1).2.2
  rwa [he] at this
/-- A capability in a block of the call's own, and the tables. -/
structure One (w0 w : World) (k r t l e a : Int) : Prop where
  tab : TabM w
  tabw : TabW w
  below : Below w0.heap.size w0 w
  p : Box6 w w0.heap.size k r t l e a
theorem One.on {w0 w w' : World} {k r t l e a : Int} (h : One w0 w k r t l e a) (hB : Below w.heap.size w w') : One w0 w' k r t l e a :=
  ⟨h.tab.on hB, h.tabw.on hB, h.below.trans (hB.mono h.below.size), h.p.on hB⟩
theorem one_new (w : World) (hT : TabM w) (hW : TabW w) (k r t l e a : Int) (ty : TypeId) : One w (w.alloc (.cells #[.int .i64 k, .int .i64 r, .int .i64 t, .int .i64 l, .int .i64 e, .int .i64 a] ty)) k r t l e a :=
  ⟨hT.on (bal (Below.refl _ _) _), hW.on (bal (Below.refl _ _) _), bal (Below.refl _ _) _, box6_new w k r t l e a ty⟩
end Go.Proofs.YtkodanflobclhaaDoor.Pcap
