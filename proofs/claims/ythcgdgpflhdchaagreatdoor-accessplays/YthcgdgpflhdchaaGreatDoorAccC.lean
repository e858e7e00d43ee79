/- What the closure that Load and Store of package access share does, and what Load and Store answer and do, for every argument. -/
import Derived.Test.YthcgdgpflhdchaaGreatDoorAccB
namespace Go.Proofs.YthcgdgpflhdchaaGreatDoor.Paccess
open Go.Proofs.YthcgdgpflhdchaaGreatDoor.Pbase Go.Proofs.YthcgdgpflhdchaaGreatDoor.Pmem
open Go.RowKit
set_option linter.unusedVariables false

/-! ### the closure's four variables -/
structure Cz (w : World) (B : Nat) (qm qt : Option Addr) (sp a : Int) : Prop where
  m : w.cell? ⟨B, 0, none⟩ = some (.pointer qm)
  t : w.cell? ⟨B + 1, 0, none⟩ = some (.pointer qt)
  s : w.cell? ⟨B + 2, 0, none⟩ = some (.int .i64 sp)
  a : w.cell? ⟨B + 3, 0, none⟩ = some (.int .i64 a)
def czW (w : World) (qm qt : Option Addr) (sp a : Int) : World :=
  (((w.alloc (.cells #[.pointer qm] 25)).alloc (.cells #[.pointer qt] 29)).alloc (.cells #[.int .i64 sp] 3)).alloc (.cells #[.int .i64 a] 3)
theorem czW_below (w : World) (qm qt : Option Addr) (sp a : Int) : Below w.heap.size w (czW w qm qt sp a) := bal (bal (bal (bal (Below.refl _ _) _) _) _) _
theorem cz_new (w : World) (qm qt : Option Addr) (sp a : Int) : Cz (czW w qm qt sp a) w.heap.size qm qt sp a := by
  have e1 : (w.alloc (.cells #[.pointer qm] 25)).heap.size = w.heap.size + 1 := by simp
  have e2 : ((w.alloc (.cells #[.pointer qm] 25)).alloc (.cells #[.pointer qt] 29)).heap.size = w.heap.size + 2 := by simp
  have e3 : (((w.alloc (.cells #[.pointer qm] 25)).alloc (.cells #[.pointer qt] 29)).alloc (.cells #[.int .i64 sp] 3)).heap.size = w.heap.size + 3 := by simp
  have c1 : (w.alloc (.cells #[.pointer qm] 25)).cell? ⟨w.heap.size, 0, none⟩ = some (.pointer qm) := by rw [World.cell?_alloc_new]; rfl
  have c2 : ((w.alloc (.cells #[.pointer qm] 25)).alloc (.cells #[.pointer qt] 29)).cell? ⟨w.heap.size + 1, 0, none⟩ = some (.pointer qt) := by rw [← e1, World.cell?_alloc_new]; rfl
  have c3 : (((w.alloc (.cells #[.pointer qm] 25)).alloc (.cells #[.pointer qt] 29)).alloc (.cells #[.int .i64 sp] 3)).cell? ⟨w.heap.size + 2, 0, none⟩ = some (.int .i64 sp) := by rw [← e2, World.cell?_alloc_new]; rfl
  have c4 : (czW w qm qt sp a).cell? ⟨w.heap.size + 3, 0, none⟩ = some (.int .i64 a) := by unfold czW; rw [← e3, World.cell?_alloc_new]; rfl
  exact ⟨Ptlb.keeps (bal (bal (bal (Below.refl _ _) _) _) _) c1, Ptlb.keeps (bal (bal (Below.refl _ _) _) _) c2, Ptlb.keeps (bal (Below.refl _ _) _) c3, c4⟩
theorem Cz.on {w w' : World} {B : Nat} {qm qt : Option Addr} {sp a : Int} (h : Cz w B qm qt sp a) (hB : Below w.heap.size w w') : Cz w' B qm qt sp a :=
  ⟨Ptlb.keeps hB h.m, Ptlb.keeps hB h.t, Ptlb.keeps hB h.s, Ptlb.keeps hB h.a⟩
theorem Cz.but {w w' : World} {B bt : Nat} {qm qt : Option Addr} {sp a : Int} {S : List Ptlb.En} (h : Cz w B qm qt sp a) (hM : Ptlb.MapIs w bt S) (hB : But bt w w') : Cz w' B qm qt sp a :=
  ⟨(hB.cell (World.block_lt_of_cell? w _ h.m) (map_cell_ne hM h.m)).trans h.m, (hB.cell (World.block_lt_of_cell? w _ h.t) (map_cell_ne hM h.t)).trans h.t, (hB.cell (World.block_lt_of_cell? w _ h.s) (map_cell_ne hM h.s)).trans h.s, (hB.cell (World.block_lt_of_cell? w _ h.a) (map_cell_ne hM h.a)).trans h.a⟩
set_option maxRecDepth 100000 in
theorem accessTo_any (qm qt : Option Addr) (sp a : Int) (w : World) : Calls Tryz.prog 22 #[.pointer qm, .pointer qt, .int .i64 sp, .int .i64 a] w fun x w' => x = .returned (.func (.func 44) #[] #[.pointer (some ⟨w.heap.size, 0, none⟩), .pointer (some ⟨w.heap.size + 1, 0, none⟩), .pointer (some ⟨w.heap.size + 2, 0, none⟩), .pointer (some ⟨w.heap.size + 3, 0, none⟩)]) ∧ w' = czW w qm qt sp a := by
  have hmf : ∀ (fn : Fn) (first cap : Array Value) (w : World), (Instr.makeFunc fn first cap).run Tryz.prog w = .ok (.func fn first cap) w := fun _ _ _ _ => rfl
  go_enter Tryz.func22, Tryz.ntmps22
  go_wp2
  go_ret
  exact ⟨rfl, rfl⟩
/-! ### the closure -/
/-- What the region of the closure reads. -/
theorem cz_five {w w' : World} {B bt : Nat} {qm qt : Option Addr} {sp a : Int} {S : List Ptlb.En} (h : Cz w B qm qt sp a) (hM : Ptlb.MapIs w bt S) (hN : Nd w) (hB : But bt w w') :
    w'.cell? ⟨B, 0, none⟩ = some (.pointer qm) ∧ w'.cell? ⟨B + 1, 0, none⟩ = some (.pointer qt) ∧ w'.cell? ⟨B + 2, 0, none⟩ = some (.int .i64 sp) ∧ w'.cell? ⟨B + 3, 0, none⟩ = some (.int .i64 a) ∧ w'.cell? ⟨0, 0, none⟩ = some (.int .i64 1) ∧ w'.cell? ⟨0, 1, none⟩ = some (.int .i64 2) := by
  have k := h.but hM hB
  have n6 : 0 ≠ bt := by obtain ⟨t, fr, hr⟩ := hN.row; exact map_ne hM hr
  exact ⟨k.m, k.t, k.s, k.a, (hN.but hB n6).c0.1, (hN.but hB n6).c0.2⟩
set_option maxRecDepth 100000 in
set_option maxHeartbeats 4000000 in
theorem doLoad_any (p b N : Nat) (M : Nat → Nat → Int) (pt bt R T : Nat) (S : List Ptlb.En) (sp a : Int) (B : Nat) (w : World) (h : Ax w p b N M pt bt R T S) (hT : T ≤ 900) (hb : -9223372036854775808 ≤ a ∧ a ≤ 9223372036854775807) (hc : Cz w B (some ⟨p, 0, none⟩) (some ⟨pt, 0, none⟩) sp a) :
    Calls Tryz.prog 44 #[.int .i64 0, .int .u64 0, .pointer (some ⟨B, 0, none⟩), .pointer (some ⟨B + 1, 0, none⟩), .pointer (some ⟨B + 2, 0, none⟩), .pointer (some ⟨B + 3, 0, none⟩)] w fun x w' => x = .returned (.tuple #[.int .u64 (loW N M S sp a), .int .i64 (loE N M S sp a)]) ∧ Ax w' p b N M pt bt R (T + 1) (acS R N M S sp a) ∧ But bt w w' := by
  have HA := ahide h
  have HC := ahide hc
  have HF : Hid (∀ wc, Ax wc p b N M pt bt R T S → Calls Tryz.prog 13 #[.pointer (some ⟨p, 0, none⟩), .pointer (some ⟨pt, 0, none⟩), .int .i64 sp, .int .i64 a, .int .i64 1] wc fun x w' => x = .returned (.tuple #[.int .i64 (acF N M S sp a 1), .int .i64 (acA N M S sp a 1), .int .i64 (acE N M S sp a 1)]) ∧ Ax w' p b N M pt bt R (T + 1) (acS R N M S sp a) ∧ But bt wc w') := fun wc hc => afind_any p b N M pt bt R T S sp a 1 wc hc hT hb (by omega)
  clear h hc hT hb
  have hi0 : (0 : Int) < 2 := by omega
  by_cases hE : acE N M S sp a 1 = 0
  case neg =>
    obtain ⟨e1, e2⟩ := load_no hE
    rw [e1, e2]
    generalize acF N M S sp a 1 = F at HF
    generalize acA N M S sp a 1 = A at HF
    generalize acE N M S sp a 1 = E at HF hE ⊢
    generalize acS R N M S sp a = S' at HF ⊢
    have hE' : (E != 0) = true := by simp [hE]
    clear e1 e2 hE
    obtain ⟨c0, c1, c2, c3, c4, c5⟩ := cz_five HC.out HA.out.tl.map HA.out.nd (But.refl bt w)
    go_enter Tryz.func44, Tryz.ntmps44
    go_upto_region 1 with fail
    go_region_held3 (fun w' => w'.cell? ⟨B, 0, none⟩ = some (.pointer (some ⟨p, 0, none⟩)) ∧ w'.cell? ⟨B + 1, 0, none⟩ = some (.pointer (some ⟨pt, 0, none⟩)) ∧ w'.cell? ⟨B + 2, 0, none⟩ = some (.int .i64 sp) ∧ w'.cell? ⟨B + 3, 0, none⟩ = some (.int .i64 a) ∧ w'.cell? ⟨0, 0, none⟩ = some (.int .i64 1) ∧ w'.cell? ⟨0, 1, none⟩ = some (.int .i64 2)) (first | with_reducible exact cz_five HC.out HA.out.tl.map HA.out.nd HB1.out | with_reducible exact cz_five HC.out HA.out.tl.map HA.out.nd (But.of_below bt (Below.refl _ _).drew))
    (first
      | (go_at_call 13; refine (HF.out _ (by first | exact HA.out.on (Below.refl _ _).drew | exact HA.out)).mono ?_; rintro e1 w1 ⟨rfl, hm, hb⟩; have HB1 : Hid (But bt w w1) := (by first | exact hb | exact (But.of_below bt (Below.refl _ _).drew).trans hb); have H1 := ahide hm; clear hm hb)
      | fail)
    go_wp2
    go_ret2
    exact ⟨rfl, H1.out, HB1.out⟩
  have e1 : loE N M S sp a = errW N (acF N M S sp a 1) (acA N M S sp a 1) := by unfold loE; rw [if_pos hE]
  have e2 : loW N M S sp a = ldM N M (acF N M S sp a 1) (acA N M S sp a 1) := by unfold loW; rw [if_pos hE]
  rw [e1, e2]
  rw [hE] at HF
  clear e1 e2 hE
  generalize acF N M S sp a 1 = F at HF ⊢
  generalize acA N M S sp a 1 = A at HF ⊢
  generalize acS R N M S sp a = S' at HF ⊢
  obtain ⟨c0, c1, c2, c3, c4, c5⟩ := cz_five HC.out HA.out.tl.map HA.out.nd (But.refl bt w)
  go_enter Tryz.func44, Tryz.ntmps44
  go_upto_region 1 with fail
  go_region_held3 (fun w' => w'.cell? ⟨B, 0, none⟩ = some (.pointer (some ⟨p, 0, none⟩)) ∧ w'.cell? ⟨B + 1, 0, none⟩ = some (.pointer (some ⟨pt, 0, none⟩)) ∧ w'.cell? ⟨B + 2, 0, none⟩ = some (.int .i64 sp) ∧ w'.cell? ⟨B + 3, 0, none⟩ = some (.int .i64 a) ∧ w'.cell? ⟨0, 0, none⟩ = some (.int .i64 1) ∧ w'.cell? ⟨0, 1, none⟩ = some (.int .i64 2)) (first | with_reducible exact cz_five HC.out HA.out.tl.map HA.out.nd HB1.out | with_reducible exact cz_five HC.out HA.out.tl.map HA.out.nd (But.of_below bt (Below.refl _ _).drew))
  (first
    | (go_at_call 13; refine (HF.out _ (by first | exact HA.out.on (Below.refl _ _).drew | exact HA.out)).mono ?_; rintro e1 w1 ⟨rfl, hm, hb⟩; have HB1 : Hid (But bt w w1) := (by first | exact hb | exact (But.of_below bt (Below.refl _ _).drew).trans hb); have H1 := ahide hm; clear hm hb; clear c0 c1 c2 c3 c4 c5; have c0 := (cz_five HC.out HA.out.tl.map HA.out.nd HB1.out).1)
    | fail)
  go_wp2_with (first
    | (go_at_call 45; refine (load_any p b N F A M _ H1.out.mx.n1 H1.out.mx.n64 H1.out.mx.mem).mono ?_; rintro e2 w2 ⟨rfl, hw⟩; subst w2)
    | fail)
  go_ret2
  exact ⟨rfl, H1.out, HB1.out⟩
theorem ax_store {w : World} {p b N : Nat} {M : Nat → Nat → Int} {pt bt R T : Nat} {S : List Ptlb.En} (h : Ax w p b N M pt bt R T S) (f c v : Int) (hv : 0 ≤ v ∧ v ≤ 18446744073709551615) : Ax (w.setRow b (cellsM N (stW N M f c v))) p b N (stW N M f c v) pt bt R T S :=
  h.mem (h.mx.but (h.mx.mem.set _) (h.mx.fit.st N f c v hv) ((But.refl b w).setRow _)) ((But.refl b w).setRow _)
set_option maxRecDepth 100000 in
set_option maxHeartbeats 4000000 in
theorem doStore_any (p b N : Nat) (M : Nat → Nat → Int) (pt bt R T : Nat) (S : List Ptlb.En) (sp a v : Int) (B : Nat) (w : World) (h : Ax w p b N M pt bt R T S) (hT : T ≤ 900) (hb : -9223372036854775808 ≤ a ∧ a ≤ 9223372036854775807) (hv : 0 ≤ v ∧ v ≤ 18446744073709551615) (hc : Cz w B (some ⟨p, 0, none⟩) (some ⟨pt, 0, none⟩) sp a) :
    Calls Tryz.prog 44 #[.int .i64 1, .int .u64 v, .pointer (some ⟨B, 0, none⟩), .pointer (some ⟨B + 1, 0, none⟩), .pointer (some ⟨B + 2, 0, none⟩), .pointer (some ⟨B + 3, 0, none⟩)] w fun x w' => x = .returned (.tuple #[.int .u64 0, .int .i64 (soE N M S sp a)]) ∧ Ax w' p b N (soM N M S sp a v) pt bt R (T + 1) (acS R N M S sp a) ∧ Buts b bt w w' := by
  have HA := ahide h
  have HC := ahide hc
  have HV := ahide hv
  have HF : Hid (∀ wc, Ax wc p b N M pt bt R T S → Calls Tryz.prog 13 #[.pointer (some ⟨p, 0, none⟩), .pointer (some ⟨pt, 0, none⟩), .int .i64 sp, .int .i64 a, .int .i64 2] wc fun x w' => x = .returned (.tuple #[.int .i64 (acF N M S sp a 2), .int .i64 (acA N M S sp a 2), .int .i64 (acE N M S sp a 2)]) ∧ Ax w' p b N M pt bt R (T + 1) (acS R N M S sp a) ∧ But bt wc w') := fun wc hc => afind_any p b N M pt bt R T S sp a 2 wc hc hT hb (by omega)
  clear h hc hT hb hv
  have hi0 : (1 : Int) < 2 := by omega
  by_cases hE : acE N M S sp a 2 = 0
  case neg =>
    obtain ⟨e1, e2⟩ := store_no (v := v) hE
    rw [e1, e2]
    generalize acF N M S sp a 2 = F at HF
    generalize acA N M S sp a 2 = A at HF
    generalize acE N M S sp a 2 = E at HF hE ⊢
    generalize acS R N M S sp a = S' at HF ⊢
    have hE' : (E != 0) = true := by simp [hE]
    clear e1 e2 hE
    obtain ⟨c0, c1, c2, c3, c4, c5⟩ := cz_five HC.out HA.out.tl.map HA.out.nd (But.refl bt w)
    go_enter Tryz.func44, Tryz.ntmps44
    go_upto_region 1 with fail
    go_region_held3 (fun w' => w'.cell? ⟨B, 0, none⟩ = some (.pointer (some ⟨p, 0, none⟩)) ∧ w'.cell? ⟨B + 1, 0, none⟩ = some (.pointer (some ⟨pt, 0, none⟩)) ∧ w'.cell? ⟨B + 2, 0, none⟩ = some (.int .i64 sp) ∧ w'.cell? ⟨B + 3, 0, none⟩ = some (.int .i64 a) ∧ w'.cell? ⟨0, 0, none⟩ = some (.int .i64 1) ∧ w'.cell? ⟨0, 1, none⟩ = some (.int .i64 2)) (first | with_reducible exact cz_five HC.out HA.out.tl.map HA.out.nd HB1.out | with_reducible exact cz_five HC.out HA.out.tl.map HA.out.nd (But.of_below bt (Below.refl _ _).drew))
    (first
      | (go_at_call 13; refine (HF.out _ (by first | exact HA.out.on (Below.refl _ _).drew | exact HA.out)).mono ?_; rintro e1 w1 ⟨rfl, hm, hb⟩; have HB1 : Hid (But bt w w1) := (by first | exact hb | exact (But.of_below bt (Below.refl _ _).drew).trans hb); have H1 := ahide hm; clear hm hb)
      | fail)
    go_wp2
    go_ret2
    exact ⟨rfl, H1.out, Buts.two b HB1.out⟩
  have e1 : soE N M S sp a = errW N (acF N M S sp a 2) (acA N M S sp a 2) := by unfold soE; rw [if_pos hE]
  have e2 : soM N M S sp a v = stW N M (acF N M S sp a 2) (acA N M S sp a 2) v := by unfold soM; rw [if_pos hE]
  rw [e1, e2]
  rw [hE] at HF
  clear e1 e2 hE
  generalize acF N M S sp a 2 = F at HF ⊢
  generalize acA N M S sp a 2 = A at HF ⊢
  generalize acS R N M S sp a = S' at HF ⊢
  obtain ⟨c0, c1, c2, c3, c4, c5⟩ := cz_five HC.out HA.out.tl.map HA.out.nd (But.refl bt w)
  go_enter Tryz.func44, Tryz.ntmps44
  go_upto_region 1 with fail
  go_region_held3 (fun w' => w'.cell? ⟨B, 0, none⟩ = some (.pointer (some ⟨p, 0, none⟩)) ∧ w'.cell? ⟨B + 1, 0, none⟩ = some (.pointer (some ⟨pt, 0, none⟩)) ∧ w'.cell? ⟨B + 2, 0, none⟩ = some (.int .i64 sp) ∧ w'.cell? ⟨B + 3, 0, none⟩ = some (.int .i64 a) ∧ w'.cell? ⟨0, 0, none⟩ = some (.int .i64 1) ∧ w'.cell? ⟨0, 1, none⟩ = some (.int .i64 2)) (first | with_reducible exact cz_five HC.out HA.out.tl.map HA.out.nd HB1.out | with_reducible exact cz_five HC.out HA.out.tl.map HA.out.nd (But.of_below bt (Below.refl _ _).drew))
  (first
    | (go_at_call 13; refine (HF.out _ (by first | exact HA.out.on (Below.refl _ _).drew | exact HA.out)).mono ?_; rintro e1 w1 ⟨rfl, hm, hb⟩; have HB1 : Hid (But bt w w1) := (by first | exact hb | exact (But.of_below bt (Below.refl _ _).drew).trans hb); have H1 := ahide hm; clear hm hb; clear c0 c1 c2 c3 c4 c5; have c0 := (cz_five HC.out HA.out.tl.map HA.out.nd HB1.out).1)
    | fail)
  go_wp2_with (first
    | (go_at_call 20; refine (store_any p b N F A v M _ H1.out.mx.n1 H1.out.mx.n64 H1.out.mx.mem).mono ?_; rintro e2 w2 ⟨rfl, hw⟩; have H2 : Hid (Ax w2 p b N (stW N M F A v) pt bt R (T + 1) S' ∧ Buts b bt w w2) := (by rw [hw]; exact ⟨ax_store H1.out F A v HV.out, (Buts.two b HB1.out).trans (Buts.one bt ((But.refl b w1).setRow _))⟩); clear hw)
    | fail)
  go_ret2
  exact ⟨rfl, H2.out⟩
/-! ### Load, Store -/
set_option maxRecDepth 100000 in
set_option maxHeartbeats 1000000 in
theorem aload_any (p b N : Nat) (M : Nat → Nat → Int) (pt bt R T : Nat) (S : List Ptlb.En) (sp a : Int) (w : World) (h : Ax w p b N M pt bt R T S) (hT : T ≤ 900) (hb : -9223372036854775808 ≤ a ∧ a ≤ 9223372036854775807) :
    Calls Tryz.prog 9 #[.pointer (some ⟨p, 0, none⟩), .pointer (some ⟨pt, 0, none⟩), .int .i64 sp, .int .i64 a] w fun x w' => x = .returned (.tuple #[.int .u64 (loW N M S sp a), .int .i64 (loE N M S sp a)]) ∧ Ax w' p b N M pt bt R (T + 1) (acS R N M S sp a) ∧ But bt w w' := by
  have HA := ahide h
  have HT := ahide hT
  have HB := ahide hb
  clear h hT hb
  have HX := ahide (cz_new w (some ⟨p, 0, none⟩) (some ⟨pt, 0, none⟩) sp a)
  have HW := ahide (czW_below w (some ⟨p, 0, none⟩) (some ⟨pt, 0, none⟩) sp a)
  go_enter Tryz.func9, Tryz.ntmps9
  go_wp2_with (first
    | (go_at_call 22; refine (accessTo_any (some ⟨p, 0, none⟩) (some ⟨pt, 0, none⟩) sp a _).mono ?_; rintro e1 w1 ⟨rfl, hw⟩; rw [← hw] at HX HW; clear hw)
    | (go_at_call 44; refine (doLoad_any p b N M pt bt R T S sp a _ _ (HA.out.on HW.out) HT.out HB.out HX.out).mono ?_; rintro e2 w2 ⟨rfl, hm, hb⟩; have H2 := ahide hm; have HB2 := ahide ((But.of_below bt HW.out).trans hb); clear hm hb)
    | fail)
  go_ret2
  exact ⟨rfl, H2.out, HB2.out⟩
set_option maxRecDepth 100000 in
set_option maxHeartbeats 1000000 in
theorem astore_any (p b N : Nat) (M : Nat → Nat → Int) (pt bt R T : Nat) (S : List Ptlb.En) (sp a v : Int) (w : World) (h : Ax w p b N M pt bt R T S) (hT : T ≤ 900) (hb : -9223372036854775808 ≤ a ∧ a ≤ 9223372036854775807) (hv : 0 ≤ v ∧ v ≤ 18446744073709551615) :
    Calls Tryz.prog 7 #[.pointer (some ⟨p, 0, none⟩), .pointer (some ⟨pt, 0, none⟩), .int .i64 sp, .int .i64 a, .int .u64 v] w fun x w' => x = .returned (.int .i64 (soE N M S sp a)) ∧ Ax w' p b N (soM N M S sp a v) pt bt R (T + 1) (acS R N M S sp a) ∧ Buts b bt w w' := by
  have HA := ahide h
  have HT := ahide hT
  have HB := ahide hb
  have HV := ahide hv
  clear h hT hb hv
  have HX := ahide (cz_new w (some ⟨p, 0, none⟩) (some ⟨pt, 0, none⟩) sp a)
  have HW := ahide (czW_below w (some ⟨p, 0, none⟩) (some ⟨pt, 0, none⟩) sp a)
  go_enter Tryz.func7, Tryz.ntmps7
  go_wp2_with (first
    | (go_at_call 22; refine (accessTo_any (some ⟨p, 0, none⟩) (some ⟨pt, 0, none⟩) sp a _).mono ?_; rintro e1 w1 ⟨rfl, hw⟩; rw [← hw] at HX HW; clear hw)
    | (go_at_call 44; refine (doStore_any p b N M pt bt R T S sp a v _ _ (HA.out.on HW.out) HT.out HB.out HV.out HX.out).mono ?_; rintro e2 w2 ⟨rfl, hm, hb⟩; have H2 := ahide hm; have HB2 := ahide ((Buts.of_below b bt HW.out).trans hb); clear hm hb)
    | fail)
  go_ret
  exact ⟨rfl, H2.out, HB2.out⟩
end Go.Proofs.YthcgdgpflhdchaaGreatDoor.Paccess
