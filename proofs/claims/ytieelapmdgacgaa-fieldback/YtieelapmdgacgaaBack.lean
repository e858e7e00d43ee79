/- FieldBack returns true for every list of widths, every list of values and every word, and leaves its arguments as they were. No condition. -/
import Derived.Test.YtieelapmdgacgaaRows
import Derived.Test.YtieelapmdgacgaaV
import Derived.WalkKit
import Derived.ProofKit
import Derived.OpenShut
import Derived.ShutString
import Derived.ChangeOld
import Derived.Below
namespace Go.Proofs.Ytieelapmdgacgaa.fieldBack
open M
open Go.ChangeShapes Go.WideShapes Go.ChangeAt Go.RowKit
open Go.ChangeMaps (open_string shut_string)
set_option linter.unusedVariables false

theorem own : ownKnob Try.prog.godebug = none := by kernel_rfl
theorem laidOut : laidOutB Try.prog = true := by kernel_rfl

/-- WHAT THE WALK IS TOLD OF A SLICE OF INTEGERS THAT CAME IN: it is nil; or it leads to a row of 'cap' cells, the numbers 'zs' (the first 'len' are its elements, the rest its spare room), each fitting its kind. -/
def IsRow (k : IntKind) (w : World) (a : Option Addr) (len cap : Nat) (zs : List Int) : Prop :=
  (a = none ∧ len = 0 ∧ cap = 0 ∧ zs = []) ∨
  ∃ x, a = some x ∧ len ≤ cap ∧ cap ≤ maxLen ∧ zs.length = cap ∧ (∀ i, i < zs.length → w.cell? (x.add i) = some (.int k (zs.getD i 0))) ∧ ∀ n ∈ zs, (Lit.int k n).wf = true

theorem ints_of_isRow {q : IntKind} {W : World} {a : Option Addr} {len cap : Nat} {zs : List Int} (h : IsRow q W a len cap zs) :
    Ints q W.heap.size W (.slice a len cap) (zs.take len) ∧ (zs.take len).length = len ∧ len ≤ 9223372036854775807 ∧ ∀ j : Nat, (zs.take len)[j]?.getD 0 = 0 ∨ (Lit.int q ((zs.take len)[j]?.getD 0)).wf = true := by
  rcases h with ⟨rfl, rfl, rfl, rfl⟩ | ⟨x, rfl, h1, h2, h3, h4, h5⟩
  · exact ⟨.inl ⟨_, _, rfl, rfl⟩, rfl, by omega, fun j => .inl (by simp)⟩
  · have hl : (zs.take len).length = len := by rw [List.length_take]; omega
    refine ⟨?_, hl, by unfold maxLen at h2; omega, fun j => ?_⟩
    · by_cases h0 : len = 0
      · exact .inl ⟨_, _, by rw [h0], by rw [h0]; rfl⟩
      · obtain ⟨b, off, rfl, hc⟩ := ints_at h4 (by omega)
        have hb : b < W.heap.size := by
          have := hc 0 (by omega)
          cases hh : W.heap[b]? with
          | none => simp [World.cell?, hh] at this
          | some o => exact (Array.getElem?_eq_some_iff.1 hh).1
        refine .inr ⟨b, off, cap, by rw [hl], hb, fun j hj => ?_⟩
        rw [hc j (by omega)]
        have : j < len := by omega
        simp [List.getD_eq_getElem?_getD, this]
    · by_cases hj : j < (zs.take len).length
      · right
        rw [List.getElem?_eq_getElem hj, Option.getD_some]
        exact h5 _ (List.mem_of_mem_take (List.getElem_mem hj))
      · left
        rw [List.getElem?_eq_none (by omega)]; rfl
theorem bd_of {zs : List Int} {len : Nat} (h : ∀ j : Nat, (zs.take len)[j]?.getD 0 = 0 ∨ (Lit.int .u64 ((zs.take len)[j]?.getD 0)).wf = true) : ∀ j : Nat, 0 ≤ (zs.take len)[j]?.getD 0 ∧ (zs.take len)[j]?.getD 0 ≤ 18446744073709551615 := by
  intro j
  rcases h j with h | h
  · rw [h]; omega
  · exact bounds_u64 h
set_option maxHeartbeats 1000000 in
theorem walk_ne_ok (a0 a1 : Option Addr) (cap0 cap1 : Nat) (zs : List Int) (x : Int) (w : World) (hl : zs.length ≤ 100) (hx : 0 ≤ x ∧ x ≤ 18446744073709551615) (H0 : Hid (Ints .i64 w.heap.size w (.slice a0 zs.length cap0) zs)) (len1 : Nat) (hl1 : len1 ≤ 9223372036854775807) (hne : ((zs.length : Int) != (len1 : Int)) = true) (HU : Hid (canU x zs)) :
    Calls Try.prog 5 #[.slice a0 zs.length cap0, .slice a1 len1 cap1, .int .u64 x] w fun e w' => e = .returned (.bool true) ∧ Below w.heap.size w w' := by
  have UV : Hid (∀ j : Nat, 0 ≤ (getsI x zs)[j]?.getD 0 ∧ (getsI x zs)[j]?.getD 0 ≤ 18446744073709551615) := (unpack_pack hx HU.out).1
  have UA : Hid (∀ j, j < zs.length → okP zs (getsI x zs) j = true) := (unpack_pack hx HU.out).2.1
  have hback : packF zs (getsI x zs) = x := (unpack_pack hx HU.out).2.2
  have tokP : True := trivial
  have tokU : True := trivial
  go_enter Try.func5, Try.ntmps5
  go_wp2_with (first
    | (go_at_call 22; have _t := tokP; refine (pack_ne _ _ _ _ _ _ _ (by omega) (by omega) hne).mono ?_; rintro e w1 ⟨rfl, hb1⟩; clear tokP; have H0a : Hid (Ints .i64 w1.heap.size w1 (.slice a0 zs.length cap0) zs) := H0.out.on hb1; have HB1 : Hid (Below w.heap.size w w1) := hb1; clear hb1)
    | (go_at_call 24; have _t := tokU; refine (unpack_ok _ _ zs x _ hl hx H0a.out HU.out).mono ?_; rintro e w5 ⟨a5, c5, rfl, hi5, hb5⟩; clear tokU; have H05 : Hid (Ints .i64 w5.heap.size w5 (.slice a0 zs.length cap0) zs) := H0a.out.on hb5; have H5 : Hid (Ints .u64 w5.heap.size w5 (.slice a5 zs.length c5) (getsI x zs)) := hi5; have HB5 : Hid (Below w.heap.size w w5) := HB1.out.trans (hb5.mono HB1.out.size); have tokQ : True := trivial; clear hi5 hb5)
    | (go_at_call 22; have _t := tokQ; refine (pack_ok _ _ _ _ zs (getsI x zs) _ hl (getsI_length x zs).symm UV.out H05.out H5.out UA.out).mono ?_; rintro e w6 ⟨rfl, hb6⟩; clear tokQ; have HB6 : Hid (Below w.heap.size w w6) := HB5.out.trans (hb6.mono HB5.out.size); clear hb6)
    | (go_at_call 21; refine (awake_any _).mono ?_; rintro e w7 ⟨rfl, hw7⟩; subst w7))
  go_ret
  exact ⟨rfl, HB6.out⟩
set_option maxHeartbeats 1000000 in
theorem walk_ne_bad (a0 a1 : Option Addr) (cap0 cap1 : Nat) (zs : List Int) (x : Int) (w : World) (hl : zs.length ≤ 100) (hx : 0 ≤ x ∧ x ≤ 18446744073709551615) (H0 : Hid (Ints .i64 w.heap.size w (.slice a0 zs.length cap0) zs)) (len1 : Nat) (hl1 : len1 ≤ 9223372036854775807) (hne : ((zs.length : Int) != (len1 : Int)) = true) (HU : Hid (¬ canU x zs)) :
    Calls Try.prog 5 #[.slice a0 zs.length cap0, .slice a1 len1 cap1, .int .u64 x] w fun e w' => e = .returned (.bool true) ∧ Below w.heap.size w w' := by
  have tokP : True := trivial
  have tokU : True := trivial
  go_enter Try.func5, Try.ntmps5
  go_wp2_with (first
    | (go_at_call 22; have _t := tokP; refine (pack_ne _ _ _ _ _ _ _ (by omega) (by omega) hne).mono ?_; rintro e w1 ⟨rfl, hb1⟩; clear tokP; have H0a : Hid (Ints .i64 w1.heap.size w1 (.slice a0 zs.length cap0) zs) := H0.out.on hb1; have HB1 : Hid (Below w.heap.size w w1) := hb1; clear hb1)
    | (go_at_call 24; have _t := tokU; refine (unpack_bad _ _ zs x _ hl hx H0a.out HU.out).mono ?_; rintro e w6 ⟨rfl, hb6⟩; clear tokU; have HB6 : Hid (Below w.heap.size w w6) := HB1.out.trans (hb6.mono HB1.out.size); clear hb6)
    | (go_at_call 21; refine (awake_any _).mono ?_; rintro e w7 ⟨rfl, hw7⟩; subst w7))
  go_ret
  exact ⟨rfl, HB6.out⟩
set_option maxHeartbeats 1000000 in
theorem walk_ok_ok (a0 a1 : Option Addr) (cap0 cap1 : Nat) (zs : List Int) (x : Int) (w : World) (hl : zs.length ≤ 100) (hx : 0 ≤ x ∧ x ≤ 18446744073709551615) (H0 : Hid (Ints .i64 w.heap.size w (.slice a0 zs.length cap0) zs)) (vs : List Int) (HL : Hid (zs.length = vs.length)) (HV : Hid (∀ j : Nat, 0 ≤ vs[j]?.getD 0 ∧ vs[j]?.getD 0 ≤ 18446744073709551615)) (H1 : Hid (Ints .u64 w.heap.size w (.slice a1 zs.length cap1) vs)) (HA : Hid (∀ j, j < zs.length → okP zs vs j = true)) (HU : Hid (canU x zs)) :
    Calls Try.prog 5 #[.slice a0 zs.length cap0, .slice a1 zs.length cap1, .int .u64 x] w fun e w' => e = .returned (.bool true) ∧ Below w.heap.size w w' := by
  have UV : Hid (∀ j : Nat, 0 ≤ (getsI x zs)[j]?.getD 0 ∧ (getsI x zs)[j]?.getD 0 ≤ 18446744073709551615) := (unpack_pack hx HU.out).1
  have UA : Hid (∀ j, j < zs.length → okP zs (getsI x zs) j = true) := (unpack_pack hx HU.out).2.1
  have hback : packF zs (getsI x zs) = x := (unpack_pack hx HU.out).2.2
  obtain ⟨hpb, hpc, hpg⟩ := pack_unpack HL.out HV.out HA.out
  have PB : Hid (0 ≤ packF zs vs ∧ packF zs vs ≤ 18446744073709551615) := hpb
  have PC : Hid (canU (packF zs vs) zs) := hpc
  have PG : Hid (getsI (packF zs vs) zs = vs) := hpg
  clear hpb hpc hpg
  have tokP : True := trivial
  go_enter Try.func5, Try.ntmps5
  go_wp2_with (first
    | (go_at_call 22; have _t := tokP; refine (pack_ok _ _ _ _ zs vs _ hl HL.out HV.out H0.out H1.out HA.out).mono ?_; rintro e w1 ⟨rfl, hb1⟩; clear tokP; have H0a : Hid (Ints .i64 w1.heap.size w1 (.slice a0 zs.length cap0) zs) := H0.out.on hb1; have H1a : Hid (Ints .u64 w1.heap.size w1 (.slice a1 zs.length cap1) vs) := H1.out.on hb1; have HB1 : Hid (Below w.heap.size w w1) := hb1; clear hb1)
    | (go_at_call 24; refine (unpack_ok _ _ zs (packF zs vs) _ hl PB.out H0a.out PC.out).mono ?_; rintro e w3 ⟨a3, c3, rfl, hi3, hb3⟩; have H0c : Hid (Ints .i64 w3.heap.size w3 (.slice a0 zs.length cap0) zs) := H0a.out.on hb3; have H1c : Hid (Ints .u64 w3.heap.size w3 (.slice a1 zs.length cap1) vs) := H1a.out.on hb3; have H3 : Hid (Ints .u64 w3.heap.size w3 (.slice a3 zs.length c3) vs) := (by rw [PG.out] at hi3; exact hi3); have HB3 : Hid (Below w.heap.size w w3) := HB1.out.trans (hb3.mono HB1.out.size); clear hi3 hb3))
  go_loopw [11] (fun i wr => ∃ k m : Nat, k ≤ zs.length ∧ i = .int .i64 k ∧ wr = w3.drewN m) (fun i _ => zs.length - (intOf i).toNat)
  case atStart => exact ⟨0, 0, Nat.zero_le _, rfl, rfl⟩
  case round =>
    obtain ⟨k, m, hk, rfl, hwr0⟩ := hrel
    have hwr : Hid (wr = w3.drewN m) := hwr0
    have E0 : Hid (Ints .i64 wr.heap.size wr (.slice a0 zs.length cap0) zs) := by rw [hwr0]; exact H0c.out
    have E1 : Hid (Ints .u64 w3.heap.size wr (.slice a1 zs.length cap1) vs) := by rw [hwr0]; exact H1c.out
    have E3 : Hid (Ints .u64 w3.heap.size wr (.slice a3 zs.length c3) vs) := by rw [hwr0]; exact H3.out
    have HBr : Hid (Below w.heap.size w wr) := by rw [hwr0]; exact below_drewN HB3.out _
    clear hwr0
    by_cases hlt : k < zs.length
    · obtain ⟨b3, o3, z3, rfl, _, hz3, HZ3⟩ := ints_at2 E3.out (j := k) (by have := HL.out; omega)
      obtain ⟨b1, o1, z1, rfl, _, hz1, HZ1⟩ := ints_at2 E1.out (j := k) (by have := HL.out; omega)
      obtain rfl : z3 = z1 := HZ3.out.symm.trans HZ1.out
      have hki : ((k : Nat) : Int) < (zs.length : Int) := by omega
      go_wp2
      go_quiet (fail)
      go_wp2
      go_roundw
      case rel => exact ⟨k + 1, _, by omega, by go_num, by rw [hwr.out]; exact World.drewN_drewN _ _ _⟩
      case measure => simp [intOf]; omega
    · obtain rfl : k = zs.length := by omega
      have tokU : True := trivial
      go_wp2_with (first
        | (go_at_call 24; have _t := tokU; refine (unpack_ok _ _ zs x _ hl hx E0.out HU.out).mono ?_; rintro e w5 ⟨a5, c5, rfl, hi5, hb5⟩; clear tokU; have H05 : Hid (Ints .i64 w5.heap.size w5 (.slice a0 zs.length cap0) zs) := E0.out.on hb5; have H5 : Hid (Ints .u64 w5.heap.size w5 (.slice a5 zs.length c5) (getsI x zs)) := hi5; have HB5 : Hid (Below w.heap.size w w5) := HBr.out.trans (hb5.mono HBr.out.size); have tokQ : True := trivial; clear hi5 hb5)
        | (go_at_call 22; have _t := tokQ; refine (pack_ok _ _ _ _ zs (getsI x zs) _ hl (getsI_length x zs).symm UV.out H05.out H5.out UA.out).mono ?_; rintro e w6 ⟨rfl, hb6⟩; clear tokQ; have HB6 : Hid (Below w.heap.size w w6) := HB5.out.trans (hb6.mono HB5.out.size); clear hb6)
        | (go_at_call 21; refine (awake_any _).mono ?_; rintro e w7 ⟨rfl, hw7⟩; subst w7))
      go_ret
      exact ⟨rfl, HB6.out⟩
set_option maxHeartbeats 1000000 in
theorem walk_ok_bad (a0 a1 : Option Addr) (cap0 cap1 : Nat) (zs : List Int) (x : Int) (w : World) (hl : zs.length ≤ 100) (hx : 0 ≤ x ∧ x ≤ 18446744073709551615) (H0 : Hid (Ints .i64 w.heap.size w (.slice a0 zs.length cap0) zs)) (vs : List Int) (HL : Hid (zs.length = vs.length)) (HV : Hid (∀ j : Nat, 0 ≤ vs[j]?.getD 0 ∧ vs[j]?.getD 0 ≤ 18446744073709551615)) (H1 : Hid (Ints .u64 w.heap.size w (.slice a1 zs.length cap1) vs)) (HA : Hid (∀ j, j < zs.length → okP zs vs j = true)) (HU : Hid (¬ canU x zs)) :
    Calls Try.prog 5 #[.slice a0 zs.length cap0, .slice a1 zs.length cap1, .int .u64 x] w fun e w' => e = .returned (.bool true) ∧ Below w.heap.size w w' := by
  obtain ⟨hpb, hpc, hpg⟩ := pack_unpack HL.out HV.out HA.out
  have PB : Hid (0 ≤ packF zs vs ∧ packF zs vs ≤ 18446744073709551615) := hpb
  have PC : Hid (canU (packF zs vs) zs) := hpc
  have PG : Hid (getsI (packF zs vs) zs = vs) := hpg
  clear hpb hpc hpg
  have tokP : True := trivial
  go_enter Try.func5, Try.ntmps5
  go_wp2_with (first
    | (go_at_call 22; have _t := tokP; refine (pack_ok _ _ _ _ zs vs _ hl HL.out HV.out H0.out H1.out HA.out).mono ?_; rintro e w1 ⟨rfl, hb1⟩; clear tokP; have H0a : Hid (Ints .i64 w1.heap.size w1 (.slice a0 zs.length cap0) zs) := H0.out.on hb1; have H1a : Hid (Ints .u64 w1.heap.size w1 (.slice a1 zs.length cap1) vs) := H1.out.on hb1; have HB1 : Hid (Below w.heap.size w w1) := hb1; clear hb1)
    | (go_at_call 24; refine (unpack_ok _ _ zs (packF zs vs) _ hl PB.out H0a.out PC.out).mono ?_; rintro e w3 ⟨a3, c3, rfl, hi3, hb3⟩; have H0c : Hid (Ints .i64 w3.heap.size w3 (.slice a0 zs.length cap0) zs) := H0a.out.on hb3; have H1c : Hid (Ints .u64 w3.heap.size w3 (.slice a1 zs.length cap1) vs) := H1a.out.on hb3; have H3 : Hid (Ints .u64 w3.heap.size w3 (.slice a3 zs.length c3) vs) := (by rw [PG.out] at hi3; exact hi3); have HB3 : Hid (Below w.heap.size w w3) := HB1.out.trans (hb3.mono HB1.out.size); clear hi3 hb3))
  go_loopw [11] (fun i wr => ∃ k m : Nat, k ≤ zs.length ∧ i = .int .i64 k ∧ wr = w3.drewN m) (fun i _ => zs.length - (intOf i).toNat)
  case atStart => exact ⟨0, 0, Nat.zero_le _, rfl, rfl⟩
  case round =>
    obtain ⟨k, m, hk, rfl, hwr0⟩ := hrel
    have hwr : Hid (wr = w3.drewN m) := hwr0
    have E0 : Hid (Ints .i64 wr.heap.size wr (.slice a0 zs.length cap0) zs) := by rw [hwr0]; exact H0c.out
    have E1 : Hid (Ints .u64 w3.heap.size wr (.slice a1 zs.length cap1) vs) := by rw [hwr0]; exact H1c.out
    have E3 : Hid (Ints .u64 w3.heap.size wr (.slice a3 zs.length c3) vs) := by rw [hwr0]; exact H3.out
    have HBr : Hid (Below w.heap.size w wr) := by rw [hwr0]; exact below_drewN HB3.out _
    clear hwr0
    by_cases hlt : k < zs.length
    · obtain ⟨b3, o3, z3, rfl, _, hz3, HZ3⟩ := ints_at2 E3.out (j := k) (by have := HL.out; omega)
      obtain ⟨b1, o1, z1, rfl, _, hz1, HZ1⟩ := ints_at2 E1.out (j := k) (by have := HL.out; omega)
      obtain rfl : z3 = z1 := HZ3.out.symm.trans HZ1.out
      have hki : ((k : Nat) : Int) < (zs.length : Int) := by omega
      go_wp2
      go_quiet (fail)
      go_wp2
      go_roundw
      case rel => exact ⟨k + 1, _, by omega, by go_num, by rw [hwr.out]; exact World.drewN_drewN _ _ _⟩
      case measure => simp [intOf]; omega
    · obtain rfl : k = zs.length := by omega
      have tokU : True := trivial
      go_wp2_with (first
        | (go_at_call 24; have _t := tokU; refine (unpack_bad _ _ zs x _ hl hx E0.out HU.out).mono ?_; rintro e w6 ⟨rfl, hb6⟩; clear tokU; have HB6 : Hid (Below w.heap.size w w6) := HBr.out.trans (hb6.mono HBr.out.size); clear hb6)
        | (go_at_call 21; refine (awake_any _).mono ?_; rintro e w7 ⟨rfl, hw7⟩; subst w7))
      go_ret
      exact ⟨rfl, HB6.out⟩
set_option maxHeartbeats 1000000 in
theorem walk_bad_ok (a0 a1 : Option Addr) (cap0 cap1 : Nat) (zs : List Int) (x : Int) (w : World) (hl : zs.length ≤ 100) (hx : 0 ≤ x ∧ x ≤ 18446744073709551615) (H0 : Hid (Ints .i64 w.heap.size w (.slice a0 zs.length cap0) zs)) (vs : List Int) (HL : Hid (zs.length = vs.length)) (HV : Hid (∀ j : Nat, 0 ≤ vs[j]?.getD 0 ∧ vs[j]?.getD 0 ≤ 18446744073709551615)) (H1 : Hid (Ints .u64 w.heap.size w (.slice a1 zs.length cap1) vs)) (HA : Hid (¬ ∀ j, j < zs.length → okP zs vs j = true)) (HU : Hid (canU x zs)) :
    Calls Try.prog 5 #[.slice a0 zs.length cap0, .slice a1 zs.length cap1, .int .u64 x] w fun e w' => e = .returned (.bool true) ∧ Below w.heap.size w w' := by
  have UV : Hid (∀ j : Nat, 0 ≤ (getsI x zs)[j]?.getD 0 ∧ (getsI x zs)[j]?.getD 0 ≤ 18446744073709551615) := (unpack_pack hx HU.out).1
  have UA : Hid (∀ j, j < zs.length → okP zs (getsI x zs) j = true) := (unpack_pack hx HU.out).2.1
  have hback : packF zs (getsI x zs) = x := (unpack_pack hx HU.out).2.2
  have tokP : True := trivial
  have tokU : True := trivial
  go_enter Try.func5, Try.ntmps5
  go_wp2_with (first
    | (go_at_call 22; have _t := tokP; refine (pack_bad _ _ _ _ zs vs _ hl HL.out HV.out H0.out H1.out HA.out).mono ?_; rintro e w1 ⟨rfl, hb1⟩; clear tokP; have H0a : Hid (Ints .i64 w1.heap.size w1 (.slice a0 zs.length cap0) zs) := H0.out.on hb1; have H1a : Hid (Ints .u64 w1.heap.size w1 (.slice a1 zs.length cap1) vs) := H1.out.on hb1; have HB1 : Hid (Below w.heap.size w w1) := hb1; clear hb1)
    | (go_at_call 24; have _t := tokU; refine (unpack_ok _ _ zs x _ hl hx H0a.out HU.out).mono ?_; rintro e w5 ⟨a5, c5, rfl, hi5, hb5⟩; clear tokU; have H05 : Hid (Ints .i64 w5.heap.size w5 (.slice a0 zs.length cap0) zs) := H0a.out.on hb5; have H5 : Hid (Ints .u64 w5.heap.size w5 (.slice a5 zs.length c5) (getsI x zs)) := hi5; have HB5 : Hid (Below w.heap.size w w5) := HB1.out.trans (hb5.mono HB1.out.size); have tokQ : True := trivial; clear hi5 hb5)
    | (go_at_call 22; have _t := tokQ; refine (pack_ok _ _ _ _ zs (getsI x zs) _ hl (getsI_length x zs).symm UV.out H05.out H5.out UA.out).mono ?_; rintro e w6 ⟨rfl, hb6⟩; clear tokQ; have HB6 : Hid (Below w.heap.size w w6) := HB5.out.trans (hb6.mono HB5.out.size); clear hb6)
    | (go_at_call 21; refine (awake_any _).mono ?_; rintro e w7 ⟨rfl, hw7⟩; subst w7))
  go_ret
  exact ⟨rfl, HB6.out⟩
set_option maxHeartbeats 1000000 in
theorem walk_bad_bad (a0 a1 : Option Addr) (cap0 cap1 : Nat) (zs : List Int) (x : Int) (w : World) (hl : zs.length ≤ 100) (hx : 0 ≤ x ∧ x ≤ 18446744073709551615) (H0 : Hid (Ints .i64 w.heap.size w (.slice a0 zs.length cap0) zs)) (vs : List Int) (HL : Hid (zs.length = vs.length)) (HV : Hid (∀ j : Nat, 0 ≤ vs[j]?.getD 0 ∧ vs[j]?.getD 0 ≤ 18446744073709551615)) (H1 : Hid (Ints .u64 w.heap.size w (.slice a1 zs.length cap1) vs)) (HA : Hid (¬ ∀ j, j < zs.length → okP zs vs j = true)) (HU : Hid (¬ canU x zs)) :
    Calls Try.prog 5 #[.slice a0 zs.length cap0, .slice a1 zs.length cap1, .int .u64 x] w fun e w' => e = .returned (.bool true) ∧ Below w.heap.size w w' := by
  have tokP : True := trivial
  have tokU : True := trivial
  go_enter Try.func5, Try.ntmps5
  go_wp2_with (first
    | (go_at_call 22; have _t := tokP; refine (pack_bad _ _ _ _ zs vs _ hl HL.out HV.out H0.out H1.out HA.out).mono ?_; rintro e w1 ⟨rfl, hb1⟩; clear tokP; have H0a : Hid (Ints .i64 w1.heap.size w1 (.slice a0 zs.length cap0) zs) := H0.out.on hb1; have H1a : Hid (Ints .u64 w1.heap.size w1 (.slice a1 zs.length cap1) vs) := H1.out.on hb1; have HB1 : Hid (Below w.heap.size w w1) := hb1; clear hb1)
    | (go_at_call 24; have _t := tokU; refine (unpack_bad _ _ zs x _ hl hx H0a.out HU.out).mono ?_; rintro e w6 ⟨rfl, hb6⟩; clear tokU; have HB6 : Hid (Below w.heap.size w w6) := HB1.out.trans (hb6.mono HB1.out.size); clear hb6)
    | (go_at_call 21; refine (awake_any _).mono ?_; rintro e w7 ⟨rfl, hw7⟩; subst w7))
  go_ret
  exact ⟨rfl, HB6.out⟩
/-! ### STEP 1: THE WALK: the Go text returns true, AND WRITES NOTHING THAT WAS THERE: 'Below w.heap.size w w'' (Derived/Below.lean: '.refl', '.alloc', '.drew', '.setCell' at a new block, '.trans'). Open each 'IsRow' by 'rcases' AHEAD of 'go_enter'; part every test ahead of the walk. -/
theorem walk (a0 : Option Addr) (len0 cap0 : Nat) (z0 : List Int) (a1 : Option Addr) (len1 cap1 : Nat) (z1 : List Int) (a2 : Int) (w : World) (w0 : IsRow .i64 w a0 len0 cap0 z0) (w1 : IsRow .u64 w a1 len1 cap1 z1) (w2 : (Lit.int .u64 a2).wf = true) :
    Calls Try.prog 5 #[.slice a0 len0 cap0, .slice a1 len1 cap1, .int .u64 a2] w fun e w' => e = .returned (.bool true) ∧ Below w.heap.size w w' := by
  obtain ⟨i0, l0, m0, _⟩ := ints_of_isRow w0
  obtain ⟨i1, l1, m1, v1⟩ := ints_of_isRow w1
  have hx := bounds_u64 w2
  have hv := bd_of v1
  obtain ⟨zs, hzs⟩ : ∃ zs, zs = z0.take len0 := ⟨_, rfl⟩
  obtain ⟨vs, hvs⟩ : ∃ vs, vs = z1.take len1 := ⟨_, rfl⟩
  rw [← hzs] at i0 l0
  rw [← hvs] at i1 l1 hv
  clear w0 w1 v1 hzs hvs
  subst l0
  by_cases hl : zs.length ≤ 100
  · by_cases hne : zs.length = len1
    · subst hne
      by_cases hA : ∀ j, j < zs.length → okP zs vs j = true
      · by_cases hU : canU a2 zs
        · exact walk_ok_ok a0 a1 cap0 cap1 zs a2 w hl hx i0 vs l1.symm hv i1 hA hU
        · exact walk_ok_bad a0 a1 cap0 cap1 zs a2 w hl hx i0 vs l1.symm hv i1 hA hU
      · by_cases hU : canU a2 zs
        · exact walk_bad_ok a0 a1 cap0 cap1 zs a2 w hl hx i0 vs l1.symm hv i1 hA hU
        · exact walk_bad_bad a0 a1 cap0 cap1 zs a2 w hl hx i0 vs l1.symm hv i1 hA hU
    · have hne' : ((zs.length : Int) != (len1 : Int)) = true := by simp; omega
      by_cases hU : canU a2 zs
      · exact walk_ne_ok a0 a1 cap0 cap1 zs a2 w hl hx i0 len1 m1 hne' hU
      · exact walk_ne_bad a0 a1 cap0 cap1 zs a2 w hl hx i0 len1 m1 hne' hU
  · clear i0 i1 hv l1
    go_enter Try.func5, Try.ntmps5
    go_wp2_with (go_at_call 21; refine (awake_any _).mono ?_; rintro e w' ⟨rfl, rfl⟩)
    go_ret
    exact ⟨rfl, Below.refl _ _⟩

/-! ### THE ROW's STEP: WRITTEN OUT: LEAVE IT -/
set_option maxRecDepth 100000 in
theorem lifted (os : Os) (started : os.Started) (H : Type) (enc : TypeId × Value → H) :
    ReturnsInHanded {} Try.checked os 5 .any (Rows.fieldBackSpec.pre6 enc Try.prog Try.f5 Rows.fieldBackRow.domain false) (Rows.fieldBackSpec.post enc Try.prog Try.f5 false true false false) := by
  refine returnsInHanded_of_change (C := Try.checked) own started (by kernel_rfl) Try.func5
    (ChangeSpec.witness6 (enc := enc) (C := Try.checked) false ⟨#[], #[.slice none 0 0, .slice none 0 0, .int .u64 0], []⟩ 8 (by kernel_rfl) (by kernel_rfl) (by kernel_rfl) (by kernel_rfl)) ?_
  intro W base args ds gs before hval0 hW hcnd _
  have hval : ∀ (j : Nat) t v, Try.f5.params[j]? = some t → args[j]? = some v → Value.okWide Try.prog W .any base t v := hval0
  have hW' := hW
  obtain ⟨p, q, hA0, hV, rfl, hfz, hnd⟩ := hW
  have hA : DataW.TrodAll enc Try.prog W 0 (fun _ => true) true Try.f5.params.toList args.toList ds p := hA0
  rw [Try.params5] at hA hval
  obtain ⟨v0, vs0, d0, ds0, p0, q0, hargs, rfl, rfl, h0, r0⟩ := trodAll_cons hA
  obtain ⟨v1, vs1, d1, ds1, p1, q1, rfl, rfl, rfl, h1, r1⟩ := trodAll_cons r0
  obtain ⟨v2, vs2, d2, ds2, p2, q2, rfl, rfl, rfl, h2, r2⟩ := trodAll_cons r1
  obtain ⟨rfl, rfl, rfl⟩ := trodAll_nil r2
  obtain rfl : args = #[v0, v1, v2] := by cases args; simp_all
  obtain ⟨rfl, rfl⟩ := trodVars_none hV
  obtain ⟨a0, len0, cap0, rfl⟩ := okWide_slice Try.underlying39 (hval 0 39 v0 rfl rfl)
  have k0 := h0
  have lt0 : ∀ x ∈ p0, x.block < W.heap.size := by obtain ⟨m, hm⟩ := k0; exact DataW.trod_lt m _ _ _ hm
  obtain ⟨z0, w0⟩ : ∃ zs, IsRow .i64 W a0 len0 cap0 zs := by
    obtain ⟨fuel, hf⟩ := h0
    rcases open_ints Try.underlying39 Try.underlying3 (by kernel_rfl) hf with ⟨hcs, _⟩ | ⟨x, l, c, zs, hcs, _, hl, hm, hz, _, hcell, hwz⟩
    · simp [Value.cells] at hcs
      obtain ⟨rfl, rfl, rfl⟩ := hcs
      exact ⟨[], .inl ⟨rfl, rfl, rfl, rfl⟩⟩
    · simp [Value.cells] at hcs
      obtain ⟨rfl, rfl, rfl⟩ := hcs
      exact ⟨zs, .inr ⟨_, rfl, hl, hm, by simpa using hz, hcell, hwz⟩⟩
  obtain ⟨a1, len1, cap1, rfl⟩ := okWide_slice Try.underlying40 (hval 1 40 v1 rfl rfl)
  have k1 := h1
  have lt1 : ∀ x ∈ p1, x.block < W.heap.size := by obtain ⟨m, hm⟩ := k1; exact DataW.trod_lt m _ _ _ hm
  obtain ⟨z1, w1⟩ : ∃ zs, IsRow .u64 W a1 len1 cap1 zs := by
    obtain ⟨fuel, hf⟩ := h1
    rcases open_ints Try.underlying40 Try.underlying22 (by kernel_rfl) hf with ⟨hcs, _⟩ | ⟨x, l, c, zs, hcs, _, hl, hm, hz, _, hcell, hwz⟩
    · simp [Value.cells] at hcs
      obtain ⟨rfl, rfl, rfl⟩ := hcs
      exact ⟨[], .inl ⟨rfl, rfl, rfl, rfl⟩⟩
    · simp [Value.cells] at hcs
      obtain ⟨rfl, rfl, rfl⟩ := hcs
      exact ⟨zs, .inr ⟨_, rfl, hl, hm, by simpa using hz, hcell, hwz⟩⟩
  obtain ⟨a2, rfl, rfl, rfl, w2⟩ := open_int Try.underlying22 (hval 2 22 v2 rfl rfl) h2
  clear hA0 hval0
  refine (walk a0 len0 cap0 z0 a1 len1 cap1 z1 a2 W w0 w1 w2).mono fun e W' ⟨he, bel⟩ => ?_
  subst he
  exact ⟨_, rfl, _, _, _, [], _, [], hW', trodAll_mk1 (shut_bool Try.underlying4 _), (trodAll_cons_mk (Below.trod laidOut (by kernel_rfl) (of_decide_eq_true (by kernel_rfl)) k0 bel lt0) (trodAll_cons_mk (Below.trod laidOut (by kernel_rfl) (of_decide_eq_true (by kernel_rfl)) k1 bel lt1) (trodAll_cons_mk (shut_int Try.underlying22 w2) trodAll_mk0))), rfl, bel.frame _, fun h => by cases h⟩

theorem over : Rows.fieldBackRow.holds Try.pinned (OpenSpec.ofChange Rows.fieldBackSpec) :=
  OpenClaim.holds_of_wide 5 Try.f5 rfl rfl rfl rfl rfl rfl rfl ⟨rfl, rfl, rfl, rfl, rfl⟩ rfl rfl rfl rfl rfl (by kernel_rfl) Try.func5 (by kernel_rfl)
    (of_decide_eq_true (by kernel_rfl)) (by unfold Func.isWrapper; first | (rw [if_pos (by decide +kernel)]; kernel_rfl) | (rw [if_neg (by decide +kernel)]; exact ⟨rfl, rfl⟩))
    (fun os started H enc _ => lifted os started H enc)

/-- ████ THE STATEMENT ████ -/
theorem proved : Rows.FieldBackSaid := over
end Go.Proofs.Ytieelapmdgacgaa.fieldBack
namespace Go.Proofs.Ytieelapmdgacgaa
theorem fieldBack_holds : Rows.FieldBackSaid := fieldBack.proved
#print axioms fieldBack_holds
end Go.Proofs.Ytieelapmdgacgaa
