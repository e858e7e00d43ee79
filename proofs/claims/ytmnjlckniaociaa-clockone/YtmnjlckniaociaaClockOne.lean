/- ClockOne returns true for every two lists of bytes (the acts ahead) and every two bytes (the act, the core), and leaves its arguments as they were. No condition. -/
import Derived.Test.YtmnjlckniaociaaRows
import Derived.Test.YtmnjlckniaociaaClkB
import Derived.Test.YtmnjlckniaociaaClkJ
import Derived.Test.YtmnjlckniaociaaClkI
import Derived.Test.YtmnjlckniaociaaClkK
import Derived.Deep.DeepCutAuto
import Derived.Deep.CutBlock
import Derived.WalkKit
import Derived.ProofKit
import Derived.OpenShut
import Derived.ShutString
import Derived.ChangeOld
import Derived.Below
namespace Go.Proofs.Ytmnjlckniaociaa.clockOne
open Go.ChangeShapes Go.WideShapes Go.ChangeAt Go.RowKit
open Go.ChangeMaps (open_string shut_string)
set_option linter.unusedVariables false

theorem own : ownKnob Try.prog.godebug = none := by kernel_rfl
theorem laidOut : laidOutB Try.prog = true := by kernel_rfl

/-- WHAT THE WALK IS TOLD OF A SLICE OF INTEGERS THAT CAME IN: it is nil; or it leads to a row of 'cap' cells, the numbers 'zs' (the first 'len' are its elements, the rest its spare room), each fitting its kind. -/
def IsRow (k : IntKind) (w : World) (a : Option Addr) (len cap : Nat) (zs : List Int) : Prop :=
  (a = none ∧ len = 0 ∧ cap = 0 ∧ zs = []) ∨
  ∃ x, a = some x ∧ len ≤ cap ∧ cap ≤ maxLen ∧ zs.length = cap ∧ (∀ i, i < zs.length → w.cell? (x.add i) = some (.int k (zs.getD i 0))) ∧ ∀ n ∈ zs, (Lit.int k n).wf = true

set_option maxRecDepth 100000 in
set_option maxHeartbeats 8000000 in
theorem walk_step (a0 a1 : Option Addr) (len0 cap0 len1 cap1 : Nat) (kz cz : Int) (me : Nat) (w : World)
    (HC0 : Hid (Came .u8 w.heap.size w a0 len0)) (HC1 : Hid (Came .u8 w.heap.size w a1 len1)) (hl0 : len0 ≤ 9223372036854775807) (hl1 : len1 ≤ 9223372036854775807)
    (hme : cz.tmod 4 = (me : Int)) (hme4 : me < 4) (hq : kz.tmod 3 = 0) :
    Calls Try.prog 6 #[.slice a0 len0 cap0, .slice a1 len1 cap1, .int .u8 kz, .int .u8 cz] w fun e w' => e = .returned (.bool true) ∧ Below w.heap.size w w' := by
  have hmi4 : (me : Int) < 4 := by omega
  go_enter Try.func6, Try.ntmps6
  go_upto_block 0 with (go_at_call 7; refine (new_ok 4 _ (by omega) (by omega)).mono ?_; rintro e w1 ⟨rfl, hc1, hb1⟩; have HN : Hid (ClockIs w1 w.heap.size 4 (newS 4)) := hc1; have HNB : Hid (Below w.heap.size w w1) := hb1; clear hc1 hb1)
  go_cut [] (fun wc => ∃ s, ClockIs wc w.heap.size 4 s ∧ Below w.heap.size w wc ∧ s.now ≤ 100)
  case first =>
   go_wp2_with fail
   go_loopw [11] (fun i wr => ∃ n : Nat, n ≤ len0 ∧ n ≤ 100 ∧ i = .int .i64 n ∧ ∃ s, ClockIs wr w.heap.size 4 s ∧ Below w.heap.size w wr ∧ s.now ≤ n) (fun i _ => len0 - (intOf i).toNat)
   case atStart => exact ⟨0, by omega, by omega, rfl, newS 4, HN.out, HNB.out, Int.le_refl _⟩
   case round =>
     obtain ⟨n, hn, hn100, rfl, s, hI, hB, hnow⟩ := hrel
     have HI : Hid (ClockIs wr w.heap.size 4 s) := hI
     have HB : Hid (Below w.heap.size w wr) := hB
     clear hI hB HN HNB
     by_cases hin : n < len0 ∧ n < len1 ∧ n < 100
     · obtain ⟨h0, h1, h2⟩ := hin
       obtain ⟨b0, o0, z0, rfl, c0, HZ0⟩ := HC0.out.at HB.out h0
       obtain ⟨b1, o1, z1, rfl, l1, c1⟩ := HC1.out.at2 HB.out h1
       obtain ⟨b1', o1', z1', he1, c1', HZ1⟩ := HC1.out.at HB.out h1
       obtain ⟨b0', o0', z0', he0, l0, c0'⟩ := HC0.out.at2 HB.out h0
       obtain ⟨rfl, rfl⟩ : b1 = b1' ∧ o1 = o1' := by simpa using he1
       obtain ⟨rfl, rfl⟩ : b0 = b0' ∧ o0 = o0' := by simpa using he0
       obtain rfl : z1 = z1' := by rw [c1] at c1'; simpa using c1'
       clear c1' c0' he1 he0
       have L0 : Hid (b0 < w.heap.size) := l0
       have L1 : Hid (b1 < w.heap.size) := l1
       have C0 : Hid (w.cell? ⟨b0, o0 + n, none⟩ = some (.int .u8 z0)) := (HB.out.cell (p := ⟨b0, o0 + n, none⟩) l0).symm.trans c0
       have C1 : Hid (w.cell? ⟨b1, o1 + n, none⟩ = some (.int .u8 z1)) := (HB.out.cell (p := ⟨b1, o1 + n, none⟩) l1).symm.trans c1
       clear l0 l1
       have i0 : (n : Int) < (len0 : Int) := by omega
       have i1 : (n : Int) < (len1 : Int) := by omega
       have i2 : (n : Int) < 100 := by omega
       obtain ⟨kk, hr, hkk⟩ := rem_u8 HZ1.out 4 (by omega)
       have hr' : z1.tmod 4 = (kk : Int) := hr
       have hk3 : (kk : Int) < 4 := by omega
       obtain ⟨q, hq0, hq3⟩ := rem_u8 HZ0.out 2 (by omega)
       have hq' : z0.tmod 2 = 0 ∨ z0.tmod 2 = 1 := by
         have : z0.tmod 2 = (q : Int) := hq0
         omega
       clear hr hq0 HZ0 HZ1
       rcases hq' with hp | hp
       all_goals
         go_wp2_with (first
           | (go_at_call 10; refine (step_any _ 4 _ s _ (by omega) (by omega) HI.out).mono ?_; rintro e w2 ⟨rfl, hw2⟩; have HI2 : Hid (ClockIs w2 w.heap.size 4 (stepS 4 s kk)) := (by rw [hw2]; exact HI.out.set _ (ok_step HI.out.ok 4 kk)); have HB2 : Hid (Below w.heap.size w w2) := (by rw [hw2]; exact below_setRow HB.out (Nat.le_refl _) _); clear hw2 c0 c1; have c0 := (HB2.out.cell (p := ⟨b0, o0 + n, none⟩) L0.out).trans C0.out; have c1 := (HB2.out.cell (p := ⟨b1, o1 + n, none⟩) L1.out).trans C1.out)
           | (go_at_call 12; refine (enter_any _ 4 _ (stepS 4 s kk) _ (by omega) (by omega) HI2.out).mono ?_; rintro e w3 ⟨rfl, hw3⟩; have HI3 : Hid (∃ t, ClockIs w3 w.heap.size 4 t ∧ t.now ≤ (n : Int) + 1) := (by rw [hw3]; exact ⟨_, HI2.out.set _ (ok_enter HI2.out.ok 4 kk), by rw [enter_now]; have := @step_now 4 s kk; omega⟩); have HB3 : Hid (Below w.heap.size w w3) := (by rw [hw3]; exact below_setRow HB2.out (Nat.le_refl _) _); clear hw3)
           | (go_at_call 14; refine (flush_any _ 4 _ (stepS 4 s kk) _ (by omega) (by omega) HI2.out).mono ?_; rintro e w3 ⟨rfl, hw3⟩; have HI3 : Hid (∃ t, ClockIs w3 w.heap.size 4 t ∧ t.now ≤ (n : Int) + 1) := (by rw [hw3]; exact ⟨_, HI2.out.set _ (ok_flush HI2.out.ok 4 kk), by rw [flush_now]; have := @step_now 4 s kk; omega⟩); have HB3 : Hid (Below w.heap.size w w3) := (by rw [hw3]; exact below_setRow HB2.out (Nat.le_refl _) _); clear hw3))
         go_roundw
         case rel => exact ⟨n + 1, by omega, by omega, by go_num, let ⟨t, h1, h2⟩ := HI3.out; ⟨t, h1, HB3.out, by omega⟩⟩
         case measure => simp [intOf]; omega
     · have hout : ¬ n < len0 ∨ (n < len0 ∧ ¬ n < len1) ∨ (n < len0 ∧ n < len1 ∧ ¬ n < 100) := by omega
       clear hin
       rcases hout with h1 | ⟨h1, h2⟩ | ⟨h1, h2, h3⟩
       all_goals
         go_wp2_with fail
         go_meet
         exact ⟨s, HI.out, HB.out, by omega⟩
  case rest =>
    obtain ⟨s, hI, hB, hnow⟩ := hcut
    have HI : Hid (ClockIs wc w.heap.size 4 s) := hI
    have HB : Hid (Below w.heap.size w wc) := hB
    clear hI hB
    obtain ⟨wr, hwr⟩ : ∃ wr, wr = wc := ⟨_, rfl⟩
    subst hwr
    obtain ⟨wo, hwo⟩ : ∃ wo, wo = wr := ⟨_, rfl⟩
    subst hwo
    have HS0 : Hid _ := St.new HI.out HB.out
    go_wp2
    go_loopw [16] (fun i wi => ∃ m : Nat, m ≤ 4 ∧ i = .int .i64 m ∧ ∃ g1 g2 g3, St w wi w.heap.size wo.heap.size s g1 g2 g3 ∧ Told s m g1 g2 g3) (fun i _ => 4 - (intOf i).toNat)
    case atStart => exact ⟨0, by omega, rfl, _, _, _, HS0.out, Told.zero _ _ _ _⟩
    case round =>
      obtain ⟨m, hm4, rfl, g1, g2, g3, hS, hT⟩ := hrel
      have HS : Hid (St w wr w.heap.size wo.heap.size s g1 g2 g3) := hS
      have HT : Hid (Told s m g1 g2 g3) := hT
      clear hS hT HS0
      by_cases hlt : m < 4
      · have hmi : (m : Int) < 4 := by omega
        go_wp2_with (first
          | (go_at_call 21; refine (cycles_any _ 4 _ s _ (by omega) (by omega) HS.out.clock).mono ?_; rintro e w3 ⟨rfl, hm⟩; have HS3 : Hid (St w w3 w.heap.size wo.heap.size s g1 g2 g3) := HS.out.more hm; clear hm; have d1 := HS3.out.c1 (m := m) hlt; have z1 := HS3.out.f1 m; have HS4 : Hid (St w (w3.setCell ⟨wo.heap.size, m, none⟩ (.int .i64 (cyS 4 s m))) w.heap.size wo.heap.size s (fun i => if i = m then cyS 4 s m else g1 i) g2 g3) := HS3.out.put1 hlt _)
          | (go_at_call 22; clear d1 z1; refine (entered_any _ 4 _ s _ (by omega) (by omega) HS4.out.clock).mono ?_; rintro e w4 ⟨rfl, hm⟩; have HS5 : Hid (St w w4 w.heap.size wo.heap.size s (fun i => if i = m then cyS 4 s m else g1 i) g2 g3) := HS4.out.more hm; clear hm; have d2 := HS5.out.c2 (m := m) hlt; have z2 := HS5.out.f2 m; have HS6 : Hid (St w (w4.setCell ⟨wo.heap.size + 1, m, none⟩ (.int .i64 (enS 4 s m))) w.heap.size wo.heap.size s (fun i => if i = m then cyS 4 s m else g1 i) (fun i => if i = m then enS 4 s m else g2 i) g3) := HS5.out.put2 hlt _)
          | (go_at_call 23; clear d2 z2; refine (flushed_any _ 4 _ s _ (by omega) (by omega) HS6.out.clock).mono ?_; rintro e w5 ⟨rfl, hm⟩; have HS7 : Hid (St w w5 w.heap.size wo.heap.size s (fun i => if i = m then cyS 4 s m else g1 i) (fun i => if i = m then enS 4 s m else g2 i) g3) := HS6.out.more hm; clear hm; have d3 := HS7.out.c3 (m := m) hlt; have z3 := HS7.out.f3 m; have HS8 : Hid (St w (w5.setCell ⟨wo.heap.size + 2, m, none⟩ (.int .i64 (flS 4 s m))) w.heap.size wo.heap.size s (fun i => if i = m then cyS 4 s m else g1 i) (fun i => if i = m then enS 4 s m else g2 i) (fun i => if i = m then flS 4 s m else g3 i)) := HS7.out.put3 hlt _))
        go_roundw
        case rel => exact ⟨m + 1, by omega, by go_num, _, _, _, HS8.out, HT.out.next⟩
        case measure => simp [intOf]; omega
      · obtain rfl : m = 4 := by omega
        clear hlt
        go_wp2_with (first
          | (go_at_call 18; refine (now_some _ _ _ HS.out.clock.now).mono ?_; rintro e w9 ⟨rfl, hw9⟩; subst w9)
          | (go_at_call 10; refine (step_any _ 4 _ s _ (by omega) (by omega) HS.out.clock).mono ?_; rintro e w2 ⟨rfl, hw2⟩; have HA' : Hid (St w w2 w.heap.size wo.heap.size (stepS 4 s me) g1 g2 g3) := (by rw [hw2]; exact HS.out.act _ (ok_step HS.out.clock.ok 4 me)); clear hw2))
        have HO' : Hid (∀ j : Nat, j ≠ me → cyS 4 (stepS 4 s me) j = cyS 4 s j ∧ enS 4 (stepS 4 s me) j = enS 4 s j ∧ flS 4 (stepS 4 s me) j = flS 4 s j) := fun j hj => step_other hj
        have HE' := @step_me 4 s me hme4 (by omega)
        have b0 := HS.out.clock.ok.1
        have b1 : 0 ≤ cyS 4 s (me : Int) := by rw [cyS_nat hme4]; exact (HS.out.clock.ok.2.2 me).1
        have b2 : cyS 4 s (me : Int) ≤ s.now := by rw [cyS_nat hme4]; exact (HS.out.clock.ok.2.2 me).2
        have k1 : IntKind.i64.wrap (s.now + 1) = s.now + 1 := by rw [IntKind.wrap_i64]; omega
        have k2 : IntKind.i64.wrap (cyS 4 s (me : Int) + 1) = cyS 4 s (me : Int) + 1 := by rw [IntKind.wrap_i64]; omega
        obtain ⟨s2, hs2⟩ : ∃ s2, s2 = stepS 4 s (me : Int) := ⟨_, rfl⟩
        rw [← hs2] at HA' HO' HE'
        have HA : Hid (St w w2 w.heap.size wo.heap.size s2 g1 g2 g3) := HA'.out
        have HO : Hid (∀ j : Nat, j ≠ me → cyS 4 s2 j = cyS 4 s j ∧ enS 4 s2 j = enS 4 s j ∧ flS 4 s2 j = flS 4 s j) := HO'.out
        have n1 := HE'.1
        have n2 := HE'.2
        have HN1 : Hid (s2.now = _) := n1
        have HN2 : Hid _ := n2
        clear hs2 HA' HO' HE' n1 n2 HS
        go_loopw [18] (fun i wi => ∃ m : Nat, m ≤ 4 ∧ i = .int .i64 m ∧ St w wi w.heap.size wo.heap.size s2 g1 g2 g3) (fun i _ => 4 - (intOf i).toNat)
        case atStart => exact ⟨0, by omega, rfl, HA.out⟩
        case round =>
          obtain ⟨m, hm5, rfl, hS⟩ := hrel
          have HR : Hid (St w wr w.heap.size wo.heap.size s2 g1 g2 g3) := hS
          clear hS HA
          by_cases hlt : m < 4
          · have hmi : (m : Int) < 4 := by omega
            by_cases hne : m = me
            · subst hne
              go_wp2
              go_quiet (fail)
              have HR2 : Hid (St w (wr.drewN nq) w.heap.size wo.heap.size s2 g1 g2 g3) := HR.out.drewN nq
              generalize wr.drewN nq = w3 at HR2 ⊢
              go_wp2
              go_roundw
              case rel => exact ⟨m + 1, by omega, by go_num, HR2.out⟩
              case measure => simp [intOf]; omega
            · have hni : ¬ (m : Int) = (me : Int) := by omega
              have hnd : decide ((m : Int) = (me : Int)) = false := by simp; omega
              have hnb : ((m : Int) != (me : Int)) = true := by simp; omega
              have T := HT.out m hlt
              have O := HO.out m hne
              have E1 : Hid (g1 m = cyS 4 s2 m) := T.1.trans O.1.symm
              have E2 : Hid (g2 m = enS 4 s2 m) := T.2.1.trans O.2.1.symm
              have E3 : Hid (g3 m = flS 4 s2 m) := T.2.2.trans O.2.2.symm
              have c1 : wr.cell? ⟨wo.heap.size, m, none⟩ = some (.int .i64 (cyS 4 s2 m)) := by rw [HR.out.c1 hlt, E1.out]
              have c2 : wr.cell? ⟨wo.heap.size + 1, m, none⟩ = some (.int .i64 (enS 4 s2 m)) := by rw [HR.out.c2 hlt, E2.out]
              have c3 : wr.cell? ⟨wo.heap.size + 2, m, none⟩ = some (.int .i64 (flS 4 s2 m)) := by rw [HR.out.c3 hlt, E3.out]
              clear T O
              go_wp2
              go_region_held3 (fun w' => w'.cell? ⟨wo.heap.size, m, none⟩ = some (.int .i64 (cyS 4 s2 m)) ∧ w'.cell? ⟨wo.heap.size + 1, m, none⟩ = some (.int .i64 (enS 4 s2 m)) ∧ w'.cell? ⟨wo.heap.size + 2, m, none⟩ = some (.int .i64 (flS 4 s2 m))) (first | exact ⟨by assumption, by assumption, by assumption⟩ | go_keep)
              (first
                | (go_at_call 21; refine (cycles_any _ 4 _ s2 _ (by omega) (by omega) HR.out.drew.clock).mono ?_; rintro e w3 ⟨rfl, hm⟩; have HR3 : Hid (St w w3 w.heap.size wo.heap.size s2 g1 g2 g3) := HR.out.drew.more hm; clear hm c1 c2 c3; have c1 : w3.cell? ⟨wo.heap.size, m, none⟩ = some (.int .i64 (cyS 4 s2 m)) := (by rw [HR3.out.c1 hlt, E1.out]); have c2 : w3.cell? ⟨wo.heap.size + 1, m, none⟩ = some (.int .i64 (enS 4 s2 m)) := (by rw [HR3.out.c2 hlt, E2.out]); have c3 : w3.cell? ⟨wo.heap.size + 2, m, none⟩ = some (.int .i64 (flS 4 s2 m)) := (by rw [HR3.out.c3 hlt, E3.out]))
                | (go_at_call 22; refine (entered_any _ 4 _ s2 _ (by omega) (by omega) HR3.out.clock).mono ?_; rintro e w4 ⟨rfl, hm⟩; have HR4 : Hid (St w w4 w.heap.size wo.heap.size s2 g1 g2 g3) := HR3.out.more hm; clear hm c1 c2 c3; have c1 : w4.cell? ⟨wo.heap.size, m, none⟩ = some (.int .i64 (cyS 4 s2 m)) := (by rw [HR4.out.c1 hlt, E1.out]); have c2 : w4.cell? ⟨wo.heap.size + 1, m, none⟩ = some (.int .i64 (enS 4 s2 m)) := (by rw [HR4.out.c2 hlt, E2.out]); have c3 : w4.cell? ⟨wo.heap.size + 2, m, none⟩ = some (.int .i64 (flS 4 s2 m)) := (by rw [HR4.out.c3 hlt, E3.out]))
                | (go_at_call 23; refine (flushed_any _ 4 _ s2 _ (by omega) (by omega) HR4.out.clock).mono ?_; rintro e w5 ⟨rfl, hm⟩; have HR5 : Hid (St w w5 w.heap.size wo.heap.size s2 g1 g2 g3) := HR4.out.more hm; clear hm c1 c2 c3; have c1 : w5.cell? ⟨wo.heap.size, m, none⟩ = some (.int .i64 (cyS 4 s2 m)) := (by rw [HR5.out.c1 hlt, E1.out]); have c2 : w5.cell? ⟨wo.heap.size + 1, m, none⟩ = some (.int .i64 (enS 4 s2 m)) := (by rw [HR5.out.c2 hlt, E2.out]); have c3 : w5.cell? ⟨wo.heap.size + 2, m, none⟩ = some (.int .i64 (flS 4 s2 m)) := (by rw [HR5.out.c3 hlt, E3.out])))
              go_wp2
              go_roundw
              case rel => exact ⟨m + 1, by omega, by go_num, HR5.out⟩
              case measure => simp [intOf]; omega
          · obtain rfl : m = 4 := by omega
            clear hlt
            have c1 : wr.cell? ⟨wo.heap.size, me, none⟩ = some (.int .i64 (cyS 4 s me)) := by rw [HR.out.c1 hme4, (HT.out me hme4).1]
            go_wp2
            refine wp_region_held_drew (S := (fun w' => w'.cell? ⟨wo.heap.size, me, none⟩ = some (.int .i64 (cyS 4 s me)))) (by kernel_rfl) ?_ (fun hHeld => ?_)
            · (first | assumption | go_keep)
            refine takeV (i := 0) (v := ?_) rfl (by kernel_rfl) (by kernel_rfl) (by kernel_rfl) (fun _ _ _ h => h) (by rfl) (by assumption) ?_ ?_
            rotate_left
            · (intro w0 hSw; (try dsimp only at hSw); go_simp; try (with_reducible rfl))
            try simp only [Act.put, List.setIfInBounds_toArray, List.set_cons_zero, List.set_cons_succ]
            refine takeV (i := 1) (v := ?_) rfl (by kernel_rfl) (by kernel_rfl) (by kernel_rfl) (fun _ _ _ h => h) (by rfl) (by assumption) ?_ ?_
            rotate_left
            · (intro w0 hSw; (try dsimp only at hSw); go_simp; try (with_reducible rfl))
            try simp only [Act.put, List.setIfInBounds_toArray, List.set_cons_zero, List.set_cons_succ]
            refine takeV (i := 2) (v := ?_) rfl (by kernel_rfl) (by kernel_rfl) (by kernel_rfl) (fun _ _ _ h => h) (by rfl) (by assumption) ?_ ?_
            rotate_left
            · (intro w0 hSw; (try dsimp only at hSw); go_simp; try (with_reducible rfl))
            try simp only [Act.put, List.setIfInBounds_toArray, List.set_cons_zero, List.set_cons_succ]
            refine takeV (i := 3) (v := ?_) rfl (by kernel_rfl) (by kernel_rfl) (by kernel_rfl) (fun _ _ _ h => h) (by rfl) (by assumption) ?_ ?_
            rotate_left
            · (intro w0 hSw; (try dsimp only at hSw); go_simp; try (with_reducible rfl))
            try simp only [Act.put, List.setIfInBounds_toArray, List.set_cons_zero, List.set_cons_succ]
            refine takeV (i := 4) (v := ?_) rfl (by kernel_rfl) (by kernel_rfl) (by kernel_rfl) (fun _ _ _ h => h) (by rfl) (by assumption) ?_ ?_
            rotate_left
            · (intro w0 hSw; (try dsimp only at hSw); go_simp; try (with_reducible rfl))
            try simp only [Act.put, List.setIfInBounds_toArray, List.set_cons_zero, List.set_cons_succ]
            refine takeV (i := 6) (v := ?_) rfl (by kernel_rfl) (by kernel_rfl) (by kernel_rfl) (fun _ _ _ h => h) (by rfl) (by assumption) ?_ ?_
            rotate_left
            · (intro w0 hSw; (try dsimp only at hSw); go_simp; try (with_reducible rfl))
            try simp only [Act.put, List.setIfInBounds_toArray, List.set_cons_zero, List.set_cons_succ]
            refine takeV (i := 7) (v := ?_) rfl (by kernel_rfl) (by kernel_rfl) (by kernel_rfl) (fun _ _ _ h => h) (by rfl) (by assumption) ?_ ?_
            rotate_left
            · (intro w0 hSw; (try dsimp only at hSw); go_simp; try (with_reducible rfl))
            try simp only [Act.put, List.setIfInBounds_toArray, List.set_cons_zero, List.set_cons_succ]
            refine stepOne (i := 5) rfl (by kernel_rfl) (fun K hK => ?_)
            go_simp
            (go_at_call 18; refine (now_some _ (s.now + 1) _ (by rw [← HN1.out]; exact HR.out.drew.clock.now)).mono ?_; rintro e w3 ⟨rfl, hw3⟩; have HR3 : Hid (St w w3 w.heap.size wo.heap.size s2 g1 g2 g3) := (by rw [hw3]; exact HR.out.drew); clear hw3 c1; have c1 : w3.cell? ⟨wo.heap.size, me, none⟩ = some (.int .i64 (cyS 4 s me)) := (by rw [HR3.out.c1 hme4, (HT.out me hme4).1]))
            go_wp2_with fail
            refine hK.out _ _ ?_ (fun hHeld => ?_)
            · (first | assumption | go_keep)
            clear hK K
            try simp only [Act.put, List.setIfInBounds_toArray, List.set_cons_zero, List.set_cons_succ]
            refine takeV (i := 8) (v := ?_) rfl (by kernel_rfl) (by kernel_rfl) (by kernel_rfl) (fun _ _ _ h => h) (by rfl) (by assumption) ?_ ?_
            rotate_left
            · (intro w0 hSw; (try dsimp only at hSw); go_simp; try (with_reducible rfl))
            try simp only [Act.put, List.setIfInBounds_toArray, List.set_cons_zero, List.set_cons_succ]
            refine takeV (i := 9) (v := ?_) rfl (by kernel_rfl) (by kernel_rfl) (by kernel_rfl) (fun _ _ _ h => h) (by rfl) (by assumption) ?_ ?_
            rotate_left
            · (intro w0 hSw; (try dsimp only at hSw); go_simp; try (with_reducible rfl))
            try simp only [Act.put, List.setIfInBounds_toArray, List.set_cons_zero, List.set_cons_succ]
            refine takeV (i := 10) (v := ?_) rfl (by kernel_rfl) (by kernel_rfl) (by kernel_rfl) (fun _ _ _ h => h) (by rfl) (by assumption) ?_ ?_
            rotate_left
            · (intro w0 hSw; (try dsimp only at hSw); go_simp; try (with_reducible rfl))
            try simp only [Act.put, List.setIfInBounds_toArray, List.set_cons_zero, List.set_cons_succ]
            refine takeV (i := 11) (v := ?_) rfl (by kernel_rfl) (by kernel_rfl) (by kernel_rfl) (fun _ _ _ h => h) (by rfl) (by assumption) ?_ ?_
            rotate_left
            · (intro w0 hSw; (try dsimp only at hSw); go_simp; try (with_reducible rfl))
            try simp only [Act.put, List.setIfInBounds_toArray, List.set_cons_zero, List.set_cons_succ]
            refine takeV (i := 12) (v := ?_) rfl (by kernel_rfl) (by kernel_rfl) (by kernel_rfl) (fun _ _ _ h => h) (by rfl) (by assumption) ?_ ?_
            rotate_left
            · (intro w0 hSw; (try dsimp only at hSw); go_simp; try (with_reducible rfl))
            try simp only [Act.put, List.setIfInBounds_toArray, List.set_cons_zero, List.set_cons_succ]
            refine takeV (i := 14) (v := ?_) rfl (by kernel_rfl) (by kernel_rfl) (by kernel_rfl) (fun _ _ _ h => h) (by rfl) (by assumption) ?_ ?_
            rotate_left
            · (intro w0 hSw; (try dsimp only at hSw); go_simp; try (with_reducible rfl))
            try simp only [Act.put, List.setIfInBounds_toArray, List.set_cons_zero, List.set_cons_succ]
            refine takeV (i := 15) (v := ?_) rfl (by kernel_rfl) (by kernel_rfl) (by kernel_rfl) (fun _ _ _ h => h) (by rfl) (by assumption) ?_ ?_
            rotate_left
            · (intro w0 hSw; (try dsimp only at hSw); go_simp; try (with_reducible rfl))
            try simp only [Act.put, List.setIfInBounds_toArray, List.set_cons_zero, List.set_cons_succ]
            refine takeV (i := 16) (v := ?_) rfl (by kernel_rfl) (by kernel_rfl) (by kernel_rfl) (fun _ _ _ h => h) (by rfl) (by assumption) ?_ ?_
            rotate_left
            · (intro w0 hSw; (try dsimp only at hSw); go_simp; try (with_reducible rfl))
            try simp only [Act.put, List.setIfInBounds_toArray, List.set_cons_zero, List.set_cons_succ]
            refine takeV (i := 17) (v := ?_) rfl (by kernel_rfl) (by kernel_rfl) (by kernel_rfl) (fun _ _ _ h => h) (by rfl) (by assumption) ?_ ?_
            rotate_left
            · (intro w0 hSw; (try dsimp only at hSw); go_simp; try (with_reducible rfl))
            try simp only [Act.put, List.setIfInBounds_toArray, List.set_cons_zero, List.set_cons_succ]
            refine stepOne (i := 13) rfl (by kernel_rfl) (fun K hK => ?_)
            go_simp
            (go_at_call 21; refine (cycles_any _ 4 _ s2 _ (by omega) (by omega) HR3.out.clock).mono ?_; rintro e w4 ⟨rfl, hm⟩; rw [HN2.out]; have HR4 : Hid (St w w4 w.heap.size wo.heap.size s2 g1 g2 g3) := HR3.out.more hm; clear hm c1; have c1 : w4.cell? ⟨wo.heap.size, me, none⟩ = some (.int .i64 (cyS 4 s me)) := (by rw [HR4.out.c1 hme4, (HT.out me hme4).1]))
            go_wp2_with fail
            refine hK.out _ _ ?_ (fun hHeld => ?_)
            · (first | assumption | go_keep)
            clear hK K
            try simp only [Act.put, List.setIfInBounds_toArray, List.set_cons_zero, List.set_cons_succ]
            refine takeV (i := 18) (v := ?_) rfl (by kernel_rfl) (by kernel_rfl) (by kernel_rfl) (fun _ _ _ h => h) (by rfl) (by assumption) ?_ ?_
            rotate_left
            · (intro w0 hSw; (try dsimp only at hSw); go_simp; try (with_reducible rfl))
            try simp only [Act.put, List.setIfInBounds_toArray, List.set_cons_zero, List.set_cons_succ]
            refine takeV (i := 19) (v := ?_) rfl (by kernel_rfl) (by kernel_rfl) (by kernel_rfl) (fun _ _ _ h => h) (by rfl) (by assumption) ?_ ?_
            rotate_left
            · (intro w0 hSw; (try dsimp only at hSw); go_simp; try (with_reducible rfl))
            try simp only [Act.put, List.setIfInBounds_toArray, List.set_cons_zero, List.set_cons_succ]
            refine takeV (i := 20) (v := ?_) rfl (by kernel_rfl) (by kernel_rfl) (by kernel_rfl) (fun _ _ _ h => h) (by rfl) (by assumption) ?_ ?_
            rotate_left
            · (intro w0 hSw; (try dsimp only at hSw); go_simp; try (with_reducible rfl))
            try simp only [Act.put, List.setIfInBounds_toArray, List.set_cons_zero, List.set_cons_succ]
            refine takeU (i := 21) rfl (by kernel_rfl) (by kernel_rfl) (by kernel_rfl) (fun _ _ _ h => h) (by rfl) (by assumption) ?_
            try simp only [Act.put, List.setIfInBounds_toArray, List.set_cons_zero, List.set_cons_succ]
            refine takeU (i := 22) rfl (by kernel_rfl) (by kernel_rfl) (by kernel_rfl) (fun _ _ _ h => h) (by rfl) (by assumption) ?_
            try simp only [Act.put, List.setIfInBounds_toArray, List.set_cons_zero, List.set_cons_succ]
            refine takeU (i := 23) rfl (by kernel_rfl) (by kernel_rfl) (by kernel_rfl) (fun _ _ _ h => h) (by rfl) (by assumption) ?_
            try simp only [Act.put, List.setIfInBounds_toArray, List.set_cons_zero, List.set_cons_succ]
            refine takeU (i := 24) rfl (by kernel_rfl) (by kernel_rfl) (by kernel_rfl) (fun _ _ _ h => h) (by rfl) (by assumption) ?_
            try simp only [Act.put, List.setIfInBounds_toArray, List.set_cons_zero, List.set_cons_succ]
            refine takeU (i := 25) rfl (by kernel_rfl) (by kernel_rfl) (by kernel_rfl) (fun _ _ _ h => h) (by rfl) (by assumption) ?_
            try simp only [Act.put, List.setIfInBounds_toArray, List.set_cons_zero, List.set_cons_succ]
            refine takeU (i := 26) rfl (by kernel_rfl) (by kernel_rfl) (by kernel_rfl) (fun _ _ _ h => h) (by rfl) (by assumption) ?_
            try simp only [Act.put, List.setIfInBounds_toArray, List.set_cons_zero, List.set_cons_succ]
            refine takeU (i := 27) rfl (by kernel_rfl) (by kernel_rfl) (by kernel_rfl) (fun _ _ _ h => h) (by rfl) (by assumption) ?_
            try simp only [Act.put, List.setIfInBounds_toArray, List.set_cons_zero, List.set_cons_succ]
            refine takeU (i := 28) rfl (by kernel_rfl) (by kernel_rfl) (by kernel_rfl) (fun _ _ _ h => h) (by rfl) (by assumption) ?_
            try simp only [Act.put, List.setIfInBounds_toArray, List.set_cons_zero, List.set_cons_succ]
            refine takeU (i := 29) rfl (by kernel_rfl) (by kernel_rfl) (by kernel_rfl) (fun _ _ _ h => h) (by rfl) (by assumption) ?_
            try simp only [Act.put, List.setIfInBounds_toArray, List.set_cons_zero, List.set_cons_succ]
            refine takeU (i := 30) rfl (by kernel_rfl) (by kernel_rfl) (by kernel_rfl) (fun _ _ _ h => h) (by rfl) (by assumption) ?_
            try simp only [Act.put, List.setIfInBounds_toArray, List.set_cons_zero, List.set_cons_succ]
            refine takeU (i := 31) rfl (by kernel_rfl) (by kernel_rfl) (by kernel_rfl) (fun _ _ _ h => h) (by rfl) (by assumption) ?_
            try simp only [Act.put, List.setIfInBounds_toArray, List.set_cons_zero, List.set_cons_succ]
            refine takeU (i := 32) rfl (by kernel_rfl) (by kernel_rfl) (by kernel_rfl) (fun _ _ _ h => h) (by rfl) (by assumption) ?_
            try simp only [Act.put, List.setIfInBounds_toArray, List.set_cons_zero, List.set_cons_succ]
            refine takeU (i := 33) rfl (by kernel_rfl) (by kernel_rfl) (by kernel_rfl) (fun _ _ _ h => h) (by rfl) (by assumption) ?_
            try simp only [Act.put, List.setIfInBounds_toArray, List.set_cons_zero, List.set_cons_succ]
            refine takeU (i := 34) rfl (by kernel_rfl) (by kernel_rfl) (by kernel_rfl) (fun _ _ _ h => h) (by rfl) (by assumption) ?_
            try simp only [Act.put, List.setIfInBounds_toArray, List.set_cons_zero, List.set_cons_succ]
            refine takeU (i := 35) rfl (by kernel_rfl) (by kernel_rfl) (by kernel_rfl) (fun _ _ _ h => h) (by rfl) (by assumption) ?_
            try simp only [Act.put, List.setIfInBounds_toArray, List.set_cons_zero, List.set_cons_succ]
            refine takeU (i := 36) rfl (by kernel_rfl) (by kernel_rfl) (by kernel_rfl) (fun _ _ _ h => h) (by rfl) (by assumption) ?_
            try simp only [Act.put, List.setIfInBounds_toArray, List.set_cons_zero, List.set_cons_succ]
            refine takeV (i := 37) (v := ?_) rfl (by kernel_rfl) (by kernel_rfl) (by kernel_rfl) (fun _ _ _ h => h) (by rfl) (by assumption) ?_ ?_
            rotate_left
            · (intro w0 hSw; (try dsimp only at hSw); go_simp; try (with_reducible rfl))
            try simp only [Act.put, List.setIfInBounds_toArray, List.set_cons_zero, List.set_cons_succ]
            refine takeV (i := 38) (v := ?_) rfl (by kernel_rfl) (by kernel_rfl) (by kernel_rfl) (fun _ _ _ h => h) (by rfl) (by assumption) ?_ ?_
            rotate_left
            · (intro w0 hSw; (try dsimp only at hSw); go_simp; try (with_reducible rfl))
            try simp only [Act.put, List.setIfInBounds_toArray, List.set_cons_zero, List.set_cons_succ]
            refine takeU (i := 39) rfl (by kernel_rfl) (by kernel_rfl) (by kernel_rfl) (fun _ _ _ h => h) (by rfl) (by assumption) ?_
            try simp only [Act.put, List.setIfInBounds_toArray, List.set_cons_zero, List.set_cons_succ]
            refine takeU (i := 40) rfl (by kernel_rfl) (by kernel_rfl) (by kernel_rfl) (fun _ _ _ h => h) (by rfl) (by assumption) ?_
            try simp only [Act.put, List.setIfInBounds_toArray, List.set_cons_zero, List.set_cons_succ]
            refine takeU (i := 41) rfl (by kernel_rfl) (by kernel_rfl) (by kernel_rfl) (fun _ _ _ h => h) (by rfl) (by assumption) ?_
            try simp only [Act.put, List.setIfInBounds_toArray, List.set_cons_zero, List.set_cons_succ]
            refine takeU (i := 42) rfl (by kernel_rfl) (by kernel_rfl) (by kernel_rfl) (fun _ _ _ h => h) (by rfl) (by assumption) ?_
            try simp only [Act.put, List.setIfInBounds_toArray, List.set_cons_zero, List.set_cons_succ]
            refine takeU (i := 43) rfl (by kernel_rfl) (by kernel_rfl) (by kernel_rfl) (fun _ _ _ h => h) (by rfl) (by assumption) ?_
            try simp only [Act.put, List.setIfInBounds_toArray, List.set_cons_zero, List.set_cons_succ]
            refine takeU (i := 44) rfl (by kernel_rfl) (by kernel_rfl) (by kernel_rfl) (fun _ _ _ h => h) (by rfl) (by assumption) ?_
            try simp only [Act.put, List.setIfInBounds_toArray, List.set_cons_zero, List.set_cons_succ]
            refine takeU (i := 45) rfl (by kernel_rfl) (by kernel_rfl) (by kernel_rfl) (fun _ _ _ h => h) (by rfl) (by assumption) ?_
            try simp only [Act.put, List.setIfInBounds_toArray, List.set_cons_zero, List.set_cons_succ]
            refine takeU (i := 46) rfl (by kernel_rfl) (by kernel_rfl) (by kernel_rfl) (fun _ _ _ h => h) (by rfl) (by assumption) ?_
            try simp only [Act.put, List.setIfInBounds_toArray, List.set_cons_zero, List.set_cons_succ]
            refine takeU (i := 47) rfl (by kernel_rfl) (by kernel_rfl) (by kernel_rfl) (fun _ _ _ h => h) (by rfl) (by assumption) ?_
            try simp only [Act.put, List.setIfInBounds_toArray, List.set_cons_zero, List.set_cons_succ]
            refine takeU (i := 48) rfl (by kernel_rfl) (by kernel_rfl) (by kernel_rfl) (fun _ _ _ h => h) (by rfl) (by assumption) ?_
            try simp only [Act.put, List.setIfInBounds_toArray, List.set_cons_zero, List.set_cons_succ]
            refine takeU (i := 49) rfl (by kernel_rfl) (by kernel_rfl) (by kernel_rfl) (fun _ _ _ h => h) (by rfl) (by assumption) ?_
            try simp only [Act.put, List.setIfInBounds_toArray, List.set_cons_zero, List.set_cons_succ]
            refine takeU (i := 50) rfl (by kernel_rfl) (by kernel_rfl) (by kernel_rfl) (fun _ _ _ h => h) (by rfl) (by assumption) ?_
            try simp only [Act.put, List.setIfInBounds_toArray, List.set_cons_zero, List.set_cons_succ]
            refine takeU (i := 51) rfl (by kernel_rfl) (by kernel_rfl) (by kernel_rfl) (fun _ _ _ h => h) (by rfl) (by assumption) ?_
            try simp only [Act.put, List.setIfInBounds_toArray, List.set_cons_zero, List.set_cons_succ]
            refine takeU (i := 52) rfl (by kernel_rfl) (by kernel_rfl) (by kernel_rfl) (fun _ _ _ h => h) (by rfl) (by assumption) ?_
            try simp only [Act.put, List.setIfInBounds_toArray, List.set_cons_zero, List.set_cons_succ]
            refine takeU (i := 53) rfl (by kernel_rfl) (by kernel_rfl) (by kernel_rfl) (fun _ _ _ h => h) (by rfl) (by assumption) ?_
            try simp only [Act.put, List.setIfInBounds_toArray, List.set_cons_zero, List.set_cons_succ]
            refine takeU (i := 54) rfl (by kernel_rfl) (by kernel_rfl) (by kernel_rfl) (fun _ _ _ h => h) (by rfl) (by assumption) ?_
            try simp only [Act.put, List.setIfInBounds_toArray, List.set_cons_zero, List.set_cons_succ]
            refine takeV (i := 55) (v := ?_) rfl (by kernel_rfl) (by kernel_rfl) (by kernel_rfl) (fun _ _ _ h => h) (by rfl) (by assumption) ?_ ?_
            rotate_left
            · (intro w0 hSw; (try dsimp only at hSw); go_simp; try (with_reducible rfl))
            try simp only [Act.put, List.setIfInBounds_toArray, List.set_cons_zero, List.set_cons_succ]
            refine takeV (i := 56) (v := ?_) rfl (by kernel_rfl) (by kernel_rfl) (by kernel_rfl) (fun _ _ _ h => h) (by rfl) (by assumption) ?_ ?_
            rotate_left
            · (intro w0 hSw; (try dsimp only at hSw); go_simp; try (with_reducible rfl))
            try simp only [Act.put, List.setIfInBounds_toArray, List.set_cons_zero, List.set_cons_succ]
            refine stepOne (i := 57) rfl (by kernel_rfl) (fun K hK => ?_)
            go_simp
            (go_at_call 9; refine (awake_any _).mono ?_; rintro e w5 ⟨rfl, hw5⟩; have HF : Hid (Below w.heap.size w w5) := HR4.out.below.trans (hw5.mono HR4.out.below.size); clear c1; have c1 := (hw5.cell (p := ⟨wo.heap.size, me, none⟩) (show wo.heap.size < _ from Nat.lt_of_le_of_lt (Nat.le_add_right _ 2) HR4.out.size)).trans ((HR4.out.c1 hme4).trans (by rw [(HT.out me hme4).1])); clear hw5)
            go_wp2_with fail
            refine hK.out _ _ ?_ (fun hHeld => ?_)
            · (first | assumption | go_keep)
            clear hK K
            try simp only [Act.put, List.setIfInBounds_toArray, List.set_cons_zero, List.set_cons_succ]
            refine takeV (i := 58) (v := ?_) rfl (by kernel_rfl) (by kernel_rfl) (by kernel_rfl) (fun _ _ _ h => h) (by rfl) (by assumption) ?_ ?_
            rotate_left
            · (intro w0 hSw; (try dsimp only at hSw); go_simp; try (with_reducible rfl))
            try simp only [Act.put, List.setIfInBounds_toArray, List.set_cons_zero, List.set_cons_succ]
            refine takeV (i := 59) (v := ?_) rfl (by kernel_rfl) (by kernel_rfl) (by kernel_rfl) (fun _ _ _ h => h) (by rfl) (by assumption) ?_ ?_
            rotate_left
            · (intro w0 hSw; (try dsimp only at hSw); go_simp; try (with_reducible rfl))
            try simp only [Act.put, List.setIfInBounds_toArray, List.set_cons_zero, List.set_cons_succ]
            refine wpAnyH_done (by kernel_rfl) ?_ _
            go_wp2
            go_ret
            exact ⟨rfl, HF.out⟩
set_option maxRecDepth 100000 in
set_option maxHeartbeats 8000000 in
theorem walk_enter (a0 a1 : Option Addr) (len0 cap0 len1 cap1 : Nat) (kz cz : Int) (me : Nat) (w : World)
    (HC0 : Hid (Came .u8 w.heap.size w a0 len0)) (HC1 : Hid (Came .u8 w.heap.size w a1 len1)) (hl0 : len0 ≤ 9223372036854775807) (hl1 : len1 ≤ 9223372036854775807)
    (hme : cz.tmod 4 = (me : Int)) (hme4 : me < 4) (hq : kz.tmod 3 = 1) :
    Calls Try.prog 6 #[.slice a0 len0 cap0, .slice a1 len1 cap1, .int .u8 kz, .int .u8 cz] w fun e w' => e = .returned (.bool true) ∧ Below w.heap.size w w' := by
  have hmi4 : (me : Int) < 4 := by omega
  go_enter Try.func6, Try.ntmps6
  go_upto_block 0 with (go_at_call 7; refine (new_ok 4 _ (by omega) (by omega)).mono ?_; rintro e w1 ⟨rfl, hc1, hb1⟩; have HN : Hid (ClockIs w1 w.heap.size 4 (newS 4)) := hc1; have HNB : Hid (Below w.heap.size w w1) := hb1; clear hc1 hb1)
  go_cut [] (fun wc => ∃ s, ClockIs wc w.heap.size 4 s ∧ Below w.heap.size w wc ∧ s.now ≤ 100)
  case first =>
   go_wp2_with fail
   go_loopw [11] (fun i wr => ∃ n : Nat, n ≤ len0 ∧ n ≤ 100 ∧ i = .int .i64 n ∧ ∃ s, ClockIs wr w.heap.size 4 s ∧ Below w.heap.size w wr ∧ s.now ≤ n) (fun i _ => len0 - (intOf i).toNat)
   case atStart => exact ⟨0, by omega, by omega, rfl, newS 4, HN.out, HNB.out, Int.le_refl _⟩
   case round =>
     obtain ⟨n, hn, hn100, rfl, s, hI, hB, hnow⟩ := hrel
     have HI : Hid (ClockIs wr w.heap.size 4 s) := hI
     have HB : Hid (Below w.heap.size w wr) := hB
     clear hI hB HN HNB
     by_cases hin : n < len0 ∧ n < len1 ∧ n < 100
     · obtain ⟨h0, h1, h2⟩ := hin
       obtain ⟨b0, o0, z0, rfl, c0, HZ0⟩ := HC0.out.at HB.out h0
       obtain ⟨b1, o1, z1, rfl, l1, c1⟩ := HC1.out.at2 HB.out h1
       obtain ⟨b1', o1', z1', he1, c1', HZ1⟩ := HC1.out.at HB.out h1
       obtain ⟨b0', o0', z0', he0, l0, c0'⟩ := HC0.out.at2 HB.out h0
       obtain ⟨rfl, rfl⟩ : b1 = b1' ∧ o1 = o1' := by simpa using he1
       obtain ⟨rfl, rfl⟩ : b0 = b0' ∧ o0 = o0' := by simpa using he0
       obtain rfl : z1 = z1' := by rw [c1] at c1'; simpa using c1'
       clear c1' c0' he1 he0
       have L0 : Hid (b0 < w.heap.size) := l0
       have L1 : Hid (b1 < w.heap.size) := l1
       have C0 : Hid (w.cell? ⟨b0, o0 + n, none⟩ = some (.int .u8 z0)) := (HB.out.cell (p := ⟨b0, o0 + n, none⟩) l0).symm.trans c0
       have C1 : Hid (w.cell? ⟨b1, o1 + n, none⟩ = some (.int .u8 z1)) := (HB.out.cell (p := ⟨b1, o1 + n, none⟩) l1).symm.trans c1
       clear l0 l1
       have i0 : (n : Int) < (len0 : Int) := by omega
       have i1 : (n : Int) < (len1 : Int) := by omega
       have i2 : (n : Int) < 100 := by omega
       obtain ⟨kk, hr, hkk⟩ := rem_u8 HZ1.out 4 (by omega)
       have hr' : z1.tmod 4 = (kk : Int) := hr
       have hk3 : (kk : Int) < 4 := by omega
       obtain ⟨q, hq0, hq3⟩ := rem_u8 HZ0.out 2 (by omega)
       have hq' : z0.tmod 2 = 0 ∨ z0.tmod 2 = 1 := by
         have : z0.tmod 2 = (q : Int) := hq0
         omega
       clear hr hq0 HZ0 HZ1
       rcases hq' with hp | hp
       all_goals
         go_wp2_with (first
           | (go_at_call 10; refine (step_any _ 4 _ s _ (by omega) (by omega) HI.out).mono ?_; rintro e w2 ⟨rfl, hw2⟩; have HI2 : Hid (ClockIs w2 w.heap.size 4 (stepS 4 s kk)) := (by rw [hw2]; exact HI.out.set _ (ok_step HI.out.ok 4 kk)); have HB2 : Hid (Below w.heap.size w w2) := (by rw [hw2]; exact below_setRow HB.out (Nat.le_refl _) _); clear hw2 c0 c1; have c0 := (HB2.out.cell (p := ⟨b0, o0 + n, none⟩) L0.out).trans C0.out; have c1 := (HB2.out.cell (p := ⟨b1, o1 + n, none⟩) L1.out).trans C1.out)
           | (go_at_call 12; refine (enter_any _ 4 _ (stepS 4 s kk) _ (by omega) (by omega) HI2.out).mono ?_; rintro e w3 ⟨rfl, hw3⟩; have HI3 : Hid (∃ t, ClockIs w3 w.heap.size 4 t ∧ t.now ≤ (n : Int) + 1) := (by rw [hw3]; exact ⟨_, HI2.out.set _ (ok_enter HI2.out.ok 4 kk), by rw [enter_now]; have := @step_now 4 s kk; omega⟩); have HB3 : Hid (Below w.heap.size w w3) := (by rw [hw3]; exact below_setRow HB2.out (Nat.le_refl _) _); clear hw3)
           | (go_at_call 14; refine (flush_any _ 4 _ (stepS 4 s kk) _ (by omega) (by omega) HI2.out).mono ?_; rintro e w3 ⟨rfl, hw3⟩; have HI3 : Hid (∃ t, ClockIs w3 w.heap.size 4 t ∧ t.now ≤ (n : Int) + 1) := (by rw [hw3]; exact ⟨_, HI2.out.set _ (ok_flush HI2.out.ok 4 kk), by rw [flush_now]; have := @step_now 4 s kk; omega⟩); have HB3 : Hid (Below w.heap.size w w3) := (by rw [hw3]; exact below_setRow HB2.out (Nat.le_refl _) _); clear hw3))
         go_roundw
         case rel => exact ⟨n + 1, by omega, by omega, by go_num, let ⟨t, h1, h2⟩ := HI3.out; ⟨t, h1, HB3.out, by omega⟩⟩
         case measure => simp [intOf]; omega
     · have hout : ¬ n < len0 ∨ (n < len0 ∧ ¬ n < len1) ∨ (n < len0 ∧ n < len1 ∧ ¬ n < 100) := by omega
       clear hin
       rcases hout with h1 | ⟨h1, h2⟩ | ⟨h1, h2, h3⟩
       all_goals
         go_wp2_with fail
         go_meet
         exact ⟨s, HI.out, HB.out, by omega⟩
  case rest =>
    obtain ⟨s, hI, hB, hnow⟩ := hcut
    have HI : Hid (ClockIs wc w.heap.size 4 s) := hI
    have HB : Hid (Below w.heap.size w wc) := hB
    clear hI hB
    obtain ⟨wr, hwr⟩ : ∃ wr, wr = wc := ⟨_, rfl⟩
    subst hwr
    obtain ⟨wo, hwo⟩ : ∃ wo, wo = wr := ⟨_, rfl⟩
    subst hwo
    have HS0 : Hid _ := St.new HI.out HB.out
    go_wp2
    go_loopw [16] (fun i wi => ∃ m : Nat, m ≤ 4 ∧ i = .int .i64 m ∧ ∃ g1 g2 g3, St w wi w.heap.size wo.heap.size s g1 g2 g3 ∧ Told s m g1 g2 g3) (fun i _ => 4 - (intOf i).toNat)
    case atStart => exact ⟨0, by omega, rfl, _, _, _, HS0.out, Told.zero _ _ _ _⟩
    case round =>
      obtain ⟨m, hm4, rfl, g1, g2, g3, hS, hT⟩ := hrel
      have HS : Hid (St w wr w.heap.size wo.heap.size s g1 g2 g3) := hS
      have HT : Hid (Told s m g1 g2 g3) := hT
      clear hS hT HS0
      by_cases hlt : m < 4
      · have hmi : (m : Int) < 4 := by omega
        go_wp2_with (first
          | (go_at_call 21; refine (cycles_any _ 4 _ s _ (by omega) (by omega) HS.out.clock).mono ?_; rintro e w3 ⟨rfl, hm⟩; have HS3 : Hid (St w w3 w.heap.size wo.heap.size s g1 g2 g3) := HS.out.more hm; clear hm; have d1 := HS3.out.c1 (m := m) hlt; have z1 := HS3.out.f1 m; have HS4 : Hid (St w (w3.setCell ⟨wo.heap.size, m, none⟩ (.int .i64 (cyS 4 s m))) w.heap.size wo.heap.size s (fun i => if i = m then cyS 4 s m else g1 i) g2 g3) := HS3.out.put1 hlt _)
          | (go_at_call 22; clear d1 z1; refine (entered_any _ 4 _ s _ (by omega) (by omega) HS4.out.clock).mono ?_; rintro e w4 ⟨rfl, hm⟩; have HS5 : Hid (St w w4 w.heap.size wo.heap.size s (fun i => if i = m then cyS 4 s m else g1 i) g2 g3) := HS4.out.more hm; clear hm; have d2 := HS5.out.c2 (m := m) hlt; have z2 := HS5.out.f2 m; have HS6 : Hid (St w (w4.setCell ⟨wo.heap.size + 1, m, none⟩ (.int .i64 (enS 4 s m))) w.heap.size wo.heap.size s (fun i => if i = m then cyS 4 s m else g1 i) (fun i => if i = m then enS 4 s m else g2 i) g3) := HS5.out.put2 hlt _)
          | (go_at_call 23; clear d2 z2; refine (flushed_any _ 4 _ s _ (by omega) (by omega) HS6.out.clock).mono ?_; rintro e w5 ⟨rfl, hm⟩; have HS7 : Hid (St w w5 w.heap.size wo.heap.size s (fun i => if i = m then cyS 4 s m else g1 i) (fun i => if i = m then enS 4 s m else g2 i) g3) := HS6.out.more hm; clear hm; have d3 := HS7.out.c3 (m := m) hlt; have z3 := HS7.out.f3 m; have HS8 : Hid (St w (w5.setCell ⟨wo.heap.size + 2, m, none⟩ (.int .i64 (flS 4 s m))) w.heap.size wo.heap.size s (fun i => if i = m then cyS 4 s m else g1 i) (fun i => if i = m then enS 4 s m else g2 i) (fun i => if i = m then flS 4 s m else g3 i)) := HS7.out.put3 hlt _))
        go_roundw
        case rel => exact ⟨m + 1, by omega, by go_num, _, _, _, HS8.out, HT.out.next⟩
        case measure => simp [intOf]; omega
      · obtain rfl : m = 4 := by omega
        clear hlt
        go_wp2_with (first
          | (go_at_call 18; refine (now_some _ _ _ HS.out.clock.now).mono ?_; rintro e w9 ⟨rfl, hw9⟩; subst w9)
          | (go_at_call 12; refine (enter_any _ 4 _ s _ (by omega) (by omega) HS.out.clock).mono ?_; rintro e w2 ⟨rfl, hw2⟩; have HA' : Hid (St w w2 w.heap.size wo.heap.size (enterS 4 s me) g1 g2 g3) := (by rw [hw2]; exact HS.out.act _ (ok_enter HS.out.clock.ok 4 me)); clear hw2))
        have HO' : Hid (∀ j : Nat, j ≠ me → cyS 4 (enterS 4 s me) j = cyS 4 s j ∧ enS 4 (enterS 4 s me) j = enS 4 s j ∧ flS 4 (enterS 4 s me) j = flS 4 s j) := fun j hj => enter_other hj
        have HE' := And.intro (@enter_now 4 s (me : Int)) (@enter_me 4 s me hme4)
        have b0 := HS.out.clock.ok.1
        have b1 : 0 ≤ cyS 4 s (me : Int) := by rw [cyS_nat hme4]; exact (HS.out.clock.ok.2.2 me).1
        have b2 : cyS 4 s (me : Int) ≤ s.now := by rw [cyS_nat hme4]; exact (HS.out.clock.ok.2.2 me).2
        have k1 : IntKind.i64.wrap (s.now + 1) = s.now + 1 := by rw [IntKind.wrap_i64]; omega
        have k2 : IntKind.i64.wrap (cyS 4 s (me : Int) + 1) = cyS 4 s (me : Int) + 1 := by rw [IntKind.wrap_i64]; omega
        obtain ⟨s2, hs2⟩ : ∃ s2, s2 = enterS 4 s (me : Int) := ⟨_, rfl⟩
        rw [← hs2] at HA' HO' HE'
        have HA : Hid (St w w2 w.heap.size wo.heap.size s2 g1 g2 g3) := HA'.out
        have HO : Hid (∀ j : Nat, j ≠ me → cyS 4 s2 j = cyS 4 s j ∧ enS 4 s2 j = enS 4 s j ∧ flS 4 s2 j = flS 4 s j) := HO'.out
        have n1 := HE'.1
        have n2 := HE'.2
        have HN1 : Hid (s2.now = _) := n1
        have HN2 : Hid _ := n2
        clear hs2 HA' HO' HE' n1 n2 HS
        go_loopw [18] (fun i wi => ∃ m : Nat, m ≤ 4 ∧ i = .int .i64 m ∧ St w wi w.heap.size wo.heap.size s2 g1 g2 g3) (fun i _ => 4 - (intOf i).toNat)
        case atStart => exact ⟨0, by omega, rfl, HA.out⟩
        case round =>
          obtain ⟨m, hm5, rfl, hS⟩ := hrel
          have HR : Hid (St w wr w.heap.size wo.heap.size s2 g1 g2 g3) := hS
          clear hS HA
          by_cases hlt : m < 4
          · have hmi : (m : Int) < 4 := by omega
            by_cases hne : m = me
            · subst hne
              go_wp2
              go_quiet (fail)
              have HR2 : Hid (St w (wr.drewN nq) w.heap.size wo.heap.size s2 g1 g2 g3) := HR.out.drewN nq
              generalize wr.drewN nq = w3 at HR2 ⊢
              go_wp2
              go_roundw
              case rel => exact ⟨m + 1, by omega, by go_num, HR2.out⟩
              case measure => simp [intOf]; omega
            · have hni : ¬ (m : Int) = (me : Int) := by omega
              have hnd : decide ((m : Int) = (me : Int)) = false := by simp; omega
              have hnb : ((m : Int) != (me : Int)) = true := by simp; omega
              have T := HT.out m hlt
              have O := HO.out m hne
              have E1 : Hid (g1 m = cyS 4 s2 m) := T.1.trans O.1.symm
              have E2 : Hid (g2 m = enS 4 s2 m) := T.2.1.trans O.2.1.symm
              have E3 : Hid (g3 m = flS 4 s2 m) := T.2.2.trans O.2.2.symm
              have c1 : wr.cell? ⟨wo.heap.size, m, none⟩ = some (.int .i64 (cyS 4 s2 m)) := by rw [HR.out.c1 hlt, E1.out]
              have c2 : wr.cell? ⟨wo.heap.size + 1, m, none⟩ = some (.int .i64 (enS 4 s2 m)) := by rw [HR.out.c2 hlt, E2.out]
              have c3 : wr.cell? ⟨wo.heap.size + 2, m, none⟩ = some (.int .i64 (flS 4 s2 m)) := by rw [HR.out.c3 hlt, E3.out]
              clear T O
              go_wp2
              go_region_held3 (fun w' => w'.cell? ⟨wo.heap.size, m, none⟩ = some (.int .i64 (cyS 4 s2 m)) ∧ w'.cell? ⟨wo.heap.size + 1, m, none⟩ = some (.int .i64 (enS 4 s2 m)) ∧ w'.cell? ⟨wo.heap.size + 2, m, none⟩ = some (.int .i64 (flS 4 s2 m))) (first | exact ⟨by assumption, by assumption, by assumption⟩ | go_keep)
              (first
                | (go_at_call 21; refine (cycles_any _ 4 _ s2 _ (by omega) (by omega) HR.out.drew.clock).mono ?_; rintro e w3 ⟨rfl, hm⟩; have HR3 : Hid (St w w3 w.heap.size wo.heap.size s2 g1 g2 g3) := HR.out.drew.more hm; clear hm c1 c2 c3; have c1 : w3.cell? ⟨wo.heap.size, m, none⟩ = some (.int .i64 (cyS 4 s2 m)) := (by rw [HR3.out.c1 hlt, E1.out]); have c2 : w3.cell? ⟨wo.heap.size + 1, m, none⟩ = some (.int .i64 (enS 4 s2 m)) := (by rw [HR3.out.c2 hlt, E2.out]); have c3 : w3.cell? ⟨wo.heap.size + 2, m, none⟩ = some (.int .i64 (flS 4 s2 m)) := (by rw [HR3.out.c3 hlt, E3.out]))
                | (go_at_call 22; refine (entered_any _ 4 _ s2 _ (by omega) (by omega) HR3.out.clock).mono ?_; rintro e w4 ⟨rfl, hm⟩; have HR4 : Hid (St w w4 w.heap.size wo.heap.size s2 g1 g2 g3) := HR3.out.more hm; clear hm c1 c2 c3; have c1 : w4.cell? ⟨wo.heap.size, m, none⟩ = some (.int .i64 (cyS 4 s2 m)) := (by rw [HR4.out.c1 hlt, E1.out]); have c2 : w4.cell? ⟨wo.heap.size + 1, m, none⟩ = some (.int .i64 (enS 4 s2 m)) := (by rw [HR4.out.c2 hlt, E2.out]); have c3 : w4.cell? ⟨wo.heap.size + 2, m, none⟩ = some (.int .i64 (flS 4 s2 m)) := (by rw [HR4.out.c3 hlt, E3.out]))
                | (go_at_call 23; refine (flushed_any _ 4 _ s2 _ (by omega) (by omega) HR4.out.clock).mono ?_; rintro e w5 ⟨rfl, hm⟩; have HR5 : Hid (St w w5 w.heap.size wo.heap.size s2 g1 g2 g3) := HR4.out.more hm; clear hm c1 c2 c3; have c1 : w5.cell? ⟨wo.heap.size, m, none⟩ = some (.int .i64 (cyS 4 s2 m)) := (by rw [HR5.out.c1 hlt, E1.out]); have c2 : w5.cell? ⟨wo.heap.size + 1, m, none⟩ = some (.int .i64 (enS 4 s2 m)) := (by rw [HR5.out.c2 hlt, E2.out]); have c3 : w5.cell? ⟨wo.heap.size + 2, m, none⟩ = some (.int .i64 (flS 4 s2 m)) := (by rw [HR5.out.c3 hlt, E3.out])))
              go_wp2
              go_roundw
              case rel => exact ⟨m + 1, by omega, by go_num, HR5.out⟩
              case measure => simp [intOf]; omega
          · obtain rfl : m = 4 := by omega
            clear hlt
            have c1 : wr.cell? ⟨wo.heap.size, me, none⟩ = some (.int .i64 (cyS 4 s me)) := by rw [HR.out.c1 hme4, (HT.out me hme4).1]
            go_wp2
            refine wp_region_held_drew (S := (fun w' => w'.cell? ⟨wo.heap.size, me, none⟩ = some (.int .i64 (cyS 4 s me)))) (by kernel_rfl) ?_ (fun hHeld => ?_)
            · (first | assumption | go_keep)
            refine takeV (i := 0) (v := ?_) rfl (by kernel_rfl) (by kernel_rfl) (by kernel_rfl) (fun _ _ _ h => h) (by rfl) (by assumption) ?_ ?_
            rotate_left
            · (intro w0 hSw; (try dsimp only at hSw); go_simp; try (with_reducible rfl))
            try simp only [Act.put, List.setIfInBounds_toArray, List.set_cons_zero, List.set_cons_succ]
            refine takeV (i := 1) (v := ?_) rfl (by kernel_rfl) (by kernel_rfl) (by kernel_rfl) (fun _ _ _ h => h) (by rfl) (by assumption) ?_ ?_
            rotate_left
            · (intro w0 hSw; (try dsimp only at hSw); go_simp; try (with_reducible rfl))
            try simp only [Act.put, List.setIfInBounds_toArray, List.set_cons_zero, List.set_cons_succ]
            refine takeV (i := 2) (v := ?_) rfl (by kernel_rfl) (by kernel_rfl) (by kernel_rfl) (fun _ _ _ h => h) (by rfl) (by assumption) ?_ ?_
            rotate_left
            · (intro w0 hSw; (try dsimp only at hSw); go_simp; try (with_reducible rfl))
            try simp only [Act.put, List.setIfInBounds_toArray, List.set_cons_zero, List.set_cons_succ]
            refine takeV (i := 3) (v := ?_) rfl (by kernel_rfl) (by kernel_rfl) (by kernel_rfl) (fun _ _ _ h => h) (by rfl) (by assumption) ?_ ?_
            rotate_left
            · (intro w0 hSw; (try dsimp only at hSw); go_simp; try (with_reducible rfl))
            try simp only [Act.put, List.setIfInBounds_toArray, List.set_cons_zero, List.set_cons_succ]
            refine takeU (i := 4) rfl (by kernel_rfl) (by kernel_rfl) (by kernel_rfl) (fun _ _ _ h => h) (by rfl) (by assumption) ?_
            try simp only [Act.put, List.setIfInBounds_toArray, List.set_cons_zero, List.set_cons_succ]
            refine takeU (i := 5) rfl (by kernel_rfl) (by kernel_rfl) (by kernel_rfl) (fun _ _ _ h => h) (by rfl) (by assumption) ?_
            try simp only [Act.put, List.setIfInBounds_toArray, List.set_cons_zero, List.set_cons_succ]
            refine takeU (i := 6) rfl (by kernel_rfl) (by kernel_rfl) (by kernel_rfl) (fun _ _ _ h => h) (by rfl) (by assumption) ?_
            try simp only [Act.put, List.setIfInBounds_toArray, List.set_cons_zero, List.set_cons_succ]
            refine takeU (i := 7) rfl (by kernel_rfl) (by kernel_rfl) (by kernel_rfl) (fun _ _ _ h => h) (by rfl) (by assumption) ?_
            try simp only [Act.put, List.setIfInBounds_toArray, List.set_cons_zero, List.set_cons_succ]
            refine takeU (i := 8) rfl (by kernel_rfl) (by kernel_rfl) (by kernel_rfl) (fun _ _ _ h => h) (by rfl) (by assumption) ?_
            try simp only [Act.put, List.setIfInBounds_toArray, List.set_cons_zero, List.set_cons_succ]
            refine takeV (i := 9) (v := ?_) rfl (by kernel_rfl) (by kernel_rfl) (by kernel_rfl) (fun _ _ _ h => h) (by rfl) (by assumption) ?_ ?_
            rotate_left
            · (intro w0 hSw; (try dsimp only at hSw); go_simp; try (with_reducible rfl))
            try simp only [Act.put, List.setIfInBounds_toArray, List.set_cons_zero, List.set_cons_succ]
            refine takeV (i := 10) (v := ?_) rfl (by kernel_rfl) (by kernel_rfl) (by kernel_rfl) (fun _ _ _ h => h) (by rfl) (by assumption) ?_ ?_
            rotate_left
            · (intro w0 hSw; (try dsimp only at hSw); go_simp; try (with_reducible rfl))
            try simp only [Act.put, List.setIfInBounds_toArray, List.set_cons_zero, List.set_cons_succ]
            refine takeU (i := 11) rfl (by kernel_rfl) (by kernel_rfl) (by kernel_rfl) (fun _ _ _ h => h) (by rfl) (by assumption) ?_
            try simp only [Act.put, List.setIfInBounds_toArray, List.set_cons_zero, List.set_cons_succ]
            refine takeU (i := 12) rfl (by kernel_rfl) (by kernel_rfl) (by kernel_rfl) (fun _ _ _ h => h) (by rfl) (by assumption) ?_
            try simp only [Act.put, List.setIfInBounds_toArray, List.set_cons_zero, List.set_cons_succ]
            refine takeU (i := 13) rfl (by kernel_rfl) (by kernel_rfl) (by kernel_rfl) (fun _ _ _ h => h) (by rfl) (by assumption) ?_
            try simp only [Act.put, List.setIfInBounds_toArray, List.set_cons_zero, List.set_cons_succ]
            refine takeU (i := 14) rfl (by kernel_rfl) (by kernel_rfl) (by kernel_rfl) (fun _ _ _ h => h) (by rfl) (by assumption) ?_
            try simp only [Act.put, List.setIfInBounds_toArray, List.set_cons_zero, List.set_cons_succ]
            refine takeU (i := 15) rfl (by kernel_rfl) (by kernel_rfl) (by kernel_rfl) (fun _ _ _ h => h) (by rfl) (by assumption) ?_
            try simp only [Act.put, List.setIfInBounds_toArray, List.set_cons_zero, List.set_cons_succ]
            refine takeU (i := 16) rfl (by kernel_rfl) (by kernel_rfl) (by kernel_rfl) (fun _ _ _ h => h) (by rfl) (by assumption) ?_
            try simp only [Act.put, List.setIfInBounds_toArray, List.set_cons_zero, List.set_cons_succ]
            refine takeU (i := 17) rfl (by kernel_rfl) (by kernel_rfl) (by kernel_rfl) (fun _ _ _ h => h) (by rfl) (by assumption) ?_
            try simp only [Act.put, List.setIfInBounds_toArray, List.set_cons_zero, List.set_cons_succ]
            refine takeU (i := 18) rfl (by kernel_rfl) (by kernel_rfl) (by kernel_rfl) (fun _ _ _ h => h) (by rfl) (by assumption) ?_
            try simp only [Act.put, List.setIfInBounds_toArray, List.set_cons_zero, List.set_cons_succ]
            refine takeV (i := 19) (v := ?_) rfl (by kernel_rfl) (by kernel_rfl) (by kernel_rfl) (fun _ _ _ h => h) (by rfl) (by assumption) ?_ ?_
            rotate_left
            · (intro w0 hSw; (try dsimp only at hSw); go_simp; try (with_reducible rfl))
            try simp only [Act.put, List.setIfInBounds_toArray, List.set_cons_zero, List.set_cons_succ]
            refine takeV (i := 20) (v := ?_) rfl (by kernel_rfl) (by kernel_rfl) (by kernel_rfl) (fun _ _ _ h => h) (by rfl) (by assumption) ?_ ?_
            rotate_left
            · (intro w0 hSw; (try dsimp only at hSw); go_simp; try (with_reducible rfl))
            try simp only [Act.put, List.setIfInBounds_toArray, List.set_cons_zero, List.set_cons_succ]
            refine takeV (i := 21) (v := ?_) rfl (by kernel_rfl) (by kernel_rfl) (by kernel_rfl) (fun _ _ _ h => h) (by rfl) (by assumption) ?_ ?_
            rotate_left
            · (intro w0 hSw; (try dsimp only at hSw); go_simp; try (with_reducible rfl))
            try simp only [Act.put, List.setIfInBounds_toArray, List.set_cons_zero, List.set_cons_succ]
            refine takeV (i := 22) (v := ?_) rfl (by kernel_rfl) (by kernel_rfl) (by kernel_rfl) (fun _ _ _ h => h) (by rfl) (by assumption) ?_ ?_
            rotate_left
            · (intro w0 hSw; (try dsimp only at hSw); go_simp; try (with_reducible rfl))
            try simp only [Act.put, List.setIfInBounds_toArray, List.set_cons_zero, List.set_cons_succ]
            refine takeV (i := 23) (v := ?_) rfl (by kernel_rfl) (by kernel_rfl) (by kernel_rfl) (fun _ _ _ h => h) (by rfl) (by assumption) ?_ ?_
            rotate_left
            · (intro w0 hSw; (try dsimp only at hSw); go_simp; try (with_reducible rfl))
            try simp only [Act.put, List.setIfInBounds_toArray, List.set_cons_zero, List.set_cons_succ]
            refine takeV (i := 24) (v := ?_) rfl (by kernel_rfl) (by kernel_rfl) (by kernel_rfl) (fun _ _ _ h => h) (by rfl) (by assumption) ?_ ?_
            rotate_left
            · (intro w0 hSw; (try dsimp only at hSw); go_simp; try (with_reducible rfl))
            try simp only [Act.put, List.setIfInBounds_toArray, List.set_cons_zero, List.set_cons_succ]
            refine takeV (i := 25) (v := ?_) rfl (by kernel_rfl) (by kernel_rfl) (by kernel_rfl) (fun _ _ _ h => h) (by rfl) (by assumption) ?_ ?_
            rotate_left
            · (intro w0 hSw; (try dsimp only at hSw); go_simp; try (with_reducible rfl))
            try simp only [Act.put, List.setIfInBounds_toArray, List.set_cons_zero, List.set_cons_succ]
            refine takeV (i := 27) (v := ?_) rfl (by kernel_rfl) (by kernel_rfl) (by kernel_rfl) (fun _ _ _ h => h) (by rfl) (by assumption) ?_ ?_
            rotate_left
            · (intro w0 hSw; (try dsimp only at hSw); go_simp; try (with_reducible rfl))
            try simp only [Act.put, List.setIfInBounds_toArray, List.set_cons_zero, List.set_cons_succ]
            refine stepOne (i := 26) rfl (by kernel_rfl) (fun K hK => ?_)
            go_simp
            (go_at_call 18; refine (now_some _ s.now _ (by rw [← HN1.out]; exact HR.out.drew.clock.now)).mono ?_; rintro e w3 ⟨rfl, hw3⟩; have HR3 : Hid (St w w3 w.heap.size wo.heap.size s2 g1 g2 g3) := (by rw [hw3]; exact HR.out.drew); clear hw3 c1; have c1 : w3.cell? ⟨wo.heap.size, me, none⟩ = some (.int .i64 (cyS 4 s me)) := (by rw [HR3.out.c1 hme4, (HT.out me hme4).1]))
            go_wp2_with fail
            refine hK.out _ _ ?_ (fun hHeld => ?_)
            · (first | assumption | go_keep)
            clear hK K
            try simp only [Act.put, List.setIfInBounds_toArray, List.set_cons_zero, List.set_cons_succ]
            refine takeV (i := 28) (v := ?_) rfl (by kernel_rfl) (by kernel_rfl) (by kernel_rfl) (fun _ _ _ h => h) (by rfl) (by assumption) ?_ ?_
            rotate_left
            · (intro w0 hSw; (try dsimp only at hSw); go_simp; try (with_reducible rfl))
            try simp only [Act.put, List.setIfInBounds_toArray, List.set_cons_zero, List.set_cons_succ]
            refine takeV (i := 29) (v := ?_) rfl (by kernel_rfl) (by kernel_rfl) (by kernel_rfl) (fun _ _ _ h => h) (by rfl) (by assumption) ?_ ?_
            rotate_left
            · (intro w0 hSw; (try dsimp only at hSw); go_simp; try (with_reducible rfl))
            try simp only [Act.put, List.setIfInBounds_toArray, List.set_cons_zero, List.set_cons_succ]
            refine takeV (i := 30) (v := ?_) rfl (by kernel_rfl) (by kernel_rfl) (by kernel_rfl) (fun _ _ _ h => h) (by rfl) (by assumption) ?_ ?_
            rotate_left
            · (intro w0 hSw; (try dsimp only at hSw); go_simp; try (with_reducible rfl))
            try simp only [Act.put, List.setIfInBounds_toArray, List.set_cons_zero, List.set_cons_succ]
            refine takeV (i := 31) (v := ?_) rfl (by kernel_rfl) (by kernel_rfl) (by kernel_rfl) (fun _ _ _ h => h) (by rfl) (by assumption) ?_ ?_
            rotate_left
            · (intro w0 hSw; (try dsimp only at hSw); go_simp; try (with_reducible rfl))
            try simp only [Act.put, List.setIfInBounds_toArray, List.set_cons_zero, List.set_cons_succ]
            refine takeV (i := 32) (v := ?_) rfl (by kernel_rfl) (by kernel_rfl) (by kernel_rfl) (fun _ _ _ h => h) (by rfl) (by assumption) ?_ ?_
            rotate_left
            · (intro w0 hSw; (try dsimp only at hSw); go_simp; try (with_reducible rfl))
            try simp only [Act.put, List.setIfInBounds_toArray, List.set_cons_zero, List.set_cons_succ]
            refine takeV (i := 34) (v := ?_) rfl (by kernel_rfl) (by kernel_rfl) (by kernel_rfl) (fun _ _ _ h => h) (by rfl) (by assumption) ?_ ?_
            rotate_left
            · (intro w0 hSw; (try dsimp only at hSw); go_simp; try (with_reducible rfl))
            try simp only [Act.put, List.setIfInBounds_toArray, List.set_cons_zero, List.set_cons_succ]
            refine stepOne (i := 33) rfl (by kernel_rfl) (fun K hK => ?_)
            go_simp
            (go_at_call 22; refine (entered_any _ 4 _ s2 _ (by omega) (by omega) HR3.out.clock).mono ?_; rintro e w4 ⟨rfl, hm⟩; rw [HN2.out]; have HR4 : Hid (St w w4 w.heap.size wo.heap.size s2 g1 g2 g3) := HR3.out.more hm; clear hm c1; have c1 : w4.cell? ⟨wo.heap.size, me, none⟩ = some (.int .i64 (cyS 4 s me)) := (by rw [HR4.out.c1 hme4, (HT.out me hme4).1]))
            go_wp2_with fail
            refine hK.out _ _ ?_ (fun hHeld => ?_)
            · (first | assumption | go_keep)
            clear hK K
            try simp only [Act.put, List.setIfInBounds_toArray, List.set_cons_zero, List.set_cons_succ]
            refine takeV (i := 35) (v := ?_) rfl (by kernel_rfl) (by kernel_rfl) (by kernel_rfl) (fun _ _ _ h => h) (by rfl) (by assumption) ?_ ?_
            rotate_left
            · (intro w0 hSw; (try dsimp only at hSw); go_simp; try (with_reducible rfl))
            try simp only [Act.put, List.setIfInBounds_toArray, List.set_cons_zero, List.set_cons_succ]
            refine takeV (i := 36) (v := ?_) rfl (by kernel_rfl) (by kernel_rfl) (by kernel_rfl) (fun _ _ _ h => h) (by rfl) (by assumption) ?_ ?_
            rotate_left
            · (intro w0 hSw; (try dsimp only at hSw); go_simp; try (with_reducible rfl))
            try simp only [Act.put, List.setIfInBounds_toArray, List.set_cons_zero, List.set_cons_succ]
            refine takeV (i := 37) (v := ?_) rfl (by kernel_rfl) (by kernel_rfl) (by kernel_rfl) (fun _ _ _ h => h) (by rfl) (by assumption) ?_ ?_
            rotate_left
            · (intro w0 hSw; (try dsimp only at hSw); go_simp; try (with_reducible rfl))
            try simp only [Act.put, List.setIfInBounds_toArray, List.set_cons_zero, List.set_cons_succ]
            refine takeV (i := 38) (v := ?_) rfl (by kernel_rfl) (by kernel_rfl) (by kernel_rfl) (fun _ _ _ h => h) (by rfl) (by assumption) ?_ ?_
            rotate_left
            · (intro w0 hSw; (try dsimp only at hSw); go_simp; try (with_reducible rfl))
            try simp only [Act.put, List.setIfInBounds_toArray, List.set_cons_zero, List.set_cons_succ]
            refine takeU (i := 39) rfl (by kernel_rfl) (by kernel_rfl) (by kernel_rfl) (fun _ _ _ h => h) (by rfl) (by assumption) ?_
            try simp only [Act.put, List.setIfInBounds_toArray, List.set_cons_zero, List.set_cons_succ]
            refine takeU (i := 40) rfl (by kernel_rfl) (by kernel_rfl) (by kernel_rfl) (fun _ _ _ h => h) (by rfl) (by assumption) ?_
            try simp only [Act.put, List.setIfInBounds_toArray, List.set_cons_zero, List.set_cons_succ]
            refine takeU (i := 41) rfl (by kernel_rfl) (by kernel_rfl) (by kernel_rfl) (fun _ _ _ h => h) (by rfl) (by assumption) ?_
            try simp only [Act.put, List.setIfInBounds_toArray, List.set_cons_zero, List.set_cons_succ]
            refine takeU (i := 42) rfl (by kernel_rfl) (by kernel_rfl) (by kernel_rfl) (fun _ _ _ h => h) (by rfl) (by assumption) ?_
            try simp only [Act.put, List.setIfInBounds_toArray, List.set_cons_zero, List.set_cons_succ]
            refine takeU (i := 43) rfl (by kernel_rfl) (by kernel_rfl) (by kernel_rfl) (fun _ _ _ h => h) (by rfl) (by assumption) ?_
            try simp only [Act.put, List.setIfInBounds_toArray, List.set_cons_zero, List.set_cons_succ]
            refine takeU (i := 44) rfl (by kernel_rfl) (by kernel_rfl) (by kernel_rfl) (fun _ _ _ h => h) (by rfl) (by assumption) ?_
            try simp only [Act.put, List.setIfInBounds_toArray, List.set_cons_zero, List.set_cons_succ]
            refine takeU (i := 45) rfl (by kernel_rfl) (by kernel_rfl) (by kernel_rfl) (fun _ _ _ h => h) (by rfl) (by assumption) ?_
            try simp only [Act.put, List.setIfInBounds_toArray, List.set_cons_zero, List.set_cons_succ]
            refine takeU (i := 46) rfl (by kernel_rfl) (by kernel_rfl) (by kernel_rfl) (fun _ _ _ h => h) (by rfl) (by assumption) ?_
            try simp only [Act.put, List.setIfInBounds_toArray, List.set_cons_zero, List.set_cons_succ]
            refine takeU (i := 47) rfl (by kernel_rfl) (by kernel_rfl) (by kernel_rfl) (fun _ _ _ h => h) (by rfl) (by assumption) ?_
            try simp only [Act.put, List.setIfInBounds_toArray, List.set_cons_zero, List.set_cons_succ]
            refine takeU (i := 48) rfl (by kernel_rfl) (by kernel_rfl) (by kernel_rfl) (fun _ _ _ h => h) (by rfl) (by assumption) ?_
            try simp only [Act.put, List.setIfInBounds_toArray, List.set_cons_zero, List.set_cons_succ]
            refine takeU (i := 49) rfl (by kernel_rfl) (by kernel_rfl) (by kernel_rfl) (fun _ _ _ h => h) (by rfl) (by assumption) ?_
            try simp only [Act.put, List.setIfInBounds_toArray, List.set_cons_zero, List.set_cons_succ]
            refine takeU (i := 50) rfl (by kernel_rfl) (by kernel_rfl) (by kernel_rfl) (fun _ _ _ h => h) (by rfl) (by assumption) ?_
            try simp only [Act.put, List.setIfInBounds_toArray, List.set_cons_zero, List.set_cons_succ]
            refine takeU (i := 51) rfl (by kernel_rfl) (by kernel_rfl) (by kernel_rfl) (fun _ _ _ h => h) (by rfl) (by assumption) ?_
            try simp only [Act.put, List.setIfInBounds_toArray, List.set_cons_zero, List.set_cons_succ]
            refine takeU (i := 52) rfl (by kernel_rfl) (by kernel_rfl) (by kernel_rfl) (fun _ _ _ h => h) (by rfl) (by assumption) ?_
            try simp only [Act.put, List.setIfInBounds_toArray, List.set_cons_zero, List.set_cons_succ]
            refine takeU (i := 53) rfl (by kernel_rfl) (by kernel_rfl) (by kernel_rfl) (fun _ _ _ h => h) (by rfl) (by assumption) ?_
            try simp only [Act.put, List.setIfInBounds_toArray, List.set_cons_zero, List.set_cons_succ]
            refine takeU (i := 54) rfl (by kernel_rfl) (by kernel_rfl) (by kernel_rfl) (fun _ _ _ h => h) (by rfl) (by assumption) ?_
            try simp only [Act.put, List.setIfInBounds_toArray, List.set_cons_zero, List.set_cons_succ]
            refine takeV (i := 55) (v := ?_) rfl (by kernel_rfl) (by kernel_rfl) (by kernel_rfl) (fun _ _ _ h => h) (by rfl) (by assumption) ?_ ?_
            rotate_left
            · (intro w0 hSw; (try dsimp only at hSw); go_simp; try (with_reducible rfl))
            try simp only [Act.put, List.setIfInBounds_toArray, List.set_cons_zero, List.set_cons_succ]
            refine takeV (i := 56) (v := ?_) rfl (by kernel_rfl) (by kernel_rfl) (by kernel_rfl) (fun _ _ _ h => h) (by rfl) (by assumption) ?_ ?_
            rotate_left
            · (intro w0 hSw; (try dsimp only at hSw); go_simp; try (with_reducible rfl))
            try simp only [Act.put, List.setIfInBounds_toArray, List.set_cons_zero, List.set_cons_succ]
            refine stepOne (i := 57) rfl (by kernel_rfl) (fun K hK => ?_)
            go_simp
            (go_at_call 9; refine (awake_any _).mono ?_; rintro e w5 ⟨rfl, hw5⟩; have HF : Hid (Below w.heap.size w w5) := HR4.out.below.trans (hw5.mono HR4.out.below.size); clear c1; have c1 := (hw5.cell (p := ⟨wo.heap.size, me, none⟩) (show wo.heap.size < _ from Nat.lt_of_le_of_lt (Nat.le_add_right _ 2) HR4.out.size)).trans ((HR4.out.c1 hme4).trans (by rw [(HT.out me hme4).1])); clear hw5)
            go_wp2_with fail
            refine hK.out _ _ ?_ (fun hHeld => ?_)
            · (first | assumption | go_keep)
            clear hK K
            try simp only [Act.put, List.setIfInBounds_toArray, List.set_cons_zero, List.set_cons_succ]
            refine takeV (i := 58) (v := ?_) rfl (by kernel_rfl) (by kernel_rfl) (by kernel_rfl) (fun _ _ _ h => h) (by rfl) (by assumption) ?_ ?_
            rotate_left
            · (intro w0 hSw; (try dsimp only at hSw); go_simp; try (with_reducible rfl))
            try simp only [Act.put, List.setIfInBounds_toArray, List.set_cons_zero, List.set_cons_succ]
            refine takeV (i := 59) (v := ?_) rfl (by kernel_rfl) (by kernel_rfl) (by kernel_rfl) (fun _ _ _ h => h) (by rfl) (by assumption) ?_ ?_
            rotate_left
            · (intro w0 hSw; (try dsimp only at hSw); go_simp; try (with_reducible rfl))
            try simp only [Act.put, List.setIfInBounds_toArray, List.set_cons_zero, List.set_cons_succ]
            refine wpAnyH_done (by kernel_rfl) ?_ _
            go_wp2
            go_ret
            exact ⟨rfl, HF.out⟩
set_option maxRecDepth 100000 in
set_option maxHeartbeats 8000000 in
theorem walk_flush (a0 a1 : Option Addr) (len0 cap0 len1 cap1 : Nat) (kz cz : Int) (me : Nat) (w : World)
    (HC0 : Hid (Came .u8 w.heap.size w a0 len0)) (HC1 : Hid (Came .u8 w.heap.size w a1 len1)) (hl0 : len0 ≤ 9223372036854775807) (hl1 : len1 ≤ 9223372036854775807)
    (hme : cz.tmod 4 = (me : Int)) (hme4 : me < 4) (hq : kz.tmod 3 = 2) :
    Calls Try.prog 6 #[.slice a0 len0 cap0, .slice a1 len1 cap1, .int .u8 kz, .int .u8 cz] w fun e w' => e = .returned (.bool true) ∧ Below w.heap.size w w' := by
  have hmi4 : (me : Int) < 4 := by omega
  go_enter Try.func6, Try.ntmps6
  go_upto_block 0 with (go_at_call 7; refine (new_ok 4 _ (by omega) (by omega)).mono ?_; rintro e w1 ⟨rfl, hc1, hb1⟩; have HN : Hid (ClockIs w1 w.heap.size 4 (newS 4)) := hc1; have HNB : Hid (Below w.heap.size w w1) := hb1; clear hc1 hb1)
  go_cut [] (fun wc => ∃ s, ClockIs wc w.heap.size 4 s ∧ Below w.heap.size w wc ∧ s.now ≤ 100)
  case first =>
   go_wp2_with fail
   go_loopw [11] (fun i wr => ∃ n : Nat, n ≤ len0 ∧ n ≤ 100 ∧ i = .int .i64 n ∧ ∃ s, ClockIs wr w.heap.size 4 s ∧ Below w.heap.size w wr ∧ s.now ≤ n) (fun i _ => len0 - (intOf i).toNat)
   case atStart => exact ⟨0, by omega, by omega, rfl, newS 4, HN.out, HNB.out, Int.le_refl _⟩
   case round =>
     obtain ⟨n, hn, hn100, rfl, s, hI, hB, hnow⟩ := hrel
     have HI : Hid (ClockIs wr w.heap.size 4 s) := hI
     have HB : Hid (Below w.heap.size w wr) := hB
     clear hI hB HN HNB
     by_cases hin : n < len0 ∧ n < len1 ∧ n < 100
     · obtain ⟨h0, h1, h2⟩ := hin
       obtain ⟨b0, o0, z0, rfl, c0, HZ0⟩ := HC0.out.at HB.out h0
       obtain ⟨b1, o1, z1, rfl, l1, c1⟩ := HC1.out.at2 HB.out h1
       obtain ⟨b1', o1', z1', he1, c1', HZ1⟩ := HC1.out.at HB.out h1
       obtain ⟨b0', o0', z0', he0, l0, c0'⟩ := HC0.out.at2 HB.out h0
       obtain ⟨rfl, rfl⟩ : b1 = b1' ∧ o1 = o1' := by simpa using he1
       obtain ⟨rfl, rfl⟩ : b0 = b0' ∧ o0 = o0' := by simpa using he0
       obtain rfl : z1 = z1' := by rw [c1] at c1'; simpa using c1'
       clear c1' c0' he1 he0
       have L0 : Hid (b0 < w.heap.size) := l0
       have L1 : Hid (b1 < w.heap.size) := l1
       have C0 : Hid (w.cell? ⟨b0, o0 + n, none⟩ = some (.int .u8 z0)) := (HB.out.cell (p := ⟨b0, o0 + n, none⟩) l0).symm.trans c0
       have C1 : Hid (w.cell? ⟨b1, o1 + n, none⟩ = some (.int .u8 z1)) := (HB.out.cell (p := ⟨b1, o1 + n, none⟩) l1).symm.trans c1
       clear l0 l1
       have i0 : (n : Int) < (len0 : Int) := by omega
       have i1 : (n : Int) < (len1 : Int) := by omega
       have i2 : (n : Int) < 100 := by omega
       obtain ⟨kk, hr, hkk⟩ := rem_u8 HZ1.out 4 (by omega)
       have hr' : z1.tmod 4 = (kk : Int) := hr
       have hk3 : (kk : Int) < 4 := by omega
       obtain ⟨q, hq0, hq3⟩ := rem_u8 HZ0.out 2 (by omega)
       have hq' : z0.tmod 2 = 0 ∨ z0.tmod 2 = 1 := by
         have : z0.tmod 2 = (q : Int) := hq0
         omega
       clear hr hq0 HZ0 HZ1
       rcases hq' with hp | hp
       all_goals
         go_wp2_with (first
           | (go_at_call 10; refine (step_any _ 4 _ s _ (by omega) (by omega) HI.out).mono ?_; rintro e w2 ⟨rfl, hw2⟩; have HI2 : Hid (ClockIs w2 w.heap.size 4 (stepS 4 s kk)) := (by rw [hw2]; exact HI.out.set _ (ok_step HI.out.ok 4 kk)); have HB2 : Hid (Below w.heap.size w w2) := (by rw [hw2]; exact below_setRow HB.out (Nat.le_refl _) _); clear hw2 c0 c1; have c0 := (HB2.out.cell (p := ⟨b0, o0 + n, none⟩) L0.out).trans C0.out; have c1 := (HB2.out.cell (p := ⟨b1, o1 + n, none⟩) L1.out).trans C1.out)
           | (go_at_call 12; refine (enter_any _ 4 _ (stepS 4 s kk) _ (by omega) (by omega) HI2.out).mono ?_; rintro e w3 ⟨rfl, hw3⟩; have HI3 : Hid (∃ t, ClockIs w3 w.heap.size 4 t ∧ t.now ≤ (n : Int) + 1) := (by rw [hw3]; exact ⟨_, HI2.out.set _ (ok_enter HI2.out.ok 4 kk), by rw [enter_now]; have := @step_now 4 s kk; omega⟩); have HB3 : Hid (Below w.heap.size w w3) := (by rw [hw3]; exact below_setRow HB2.out (Nat.le_refl _) _); clear hw3)
           | (go_at_call 14; refine (flush_any _ 4 _ (stepS 4 s kk) _ (by omega) (by omega) HI2.out).mono ?_; rintro e w3 ⟨rfl, hw3⟩; have HI3 : Hid (∃ t, ClockIs w3 w.heap.size 4 t ∧ t.now ≤ (n : Int) + 1) := (by rw [hw3]; exact ⟨_, HI2.out.set _ (ok_flush HI2.out.ok 4 kk), by rw [flush_now]; have := @step_now 4 s kk; omega⟩); have HB3 : Hid (Below w.heap.size w w3) := (by rw [hw3]; exact below_setRow HB2.out (Nat.le_refl _) _); clear hw3))
         go_roundw
         case rel => exact ⟨n + 1, by omega, by omega, by go_num, let ⟨t, h1, h2⟩ := HI3.out; ⟨t, h1, HB3.out, by omega⟩⟩
         case measure => simp [intOf]; omega
     · have hout : ¬ n < len0 ∨ (n < len0 ∧ ¬ n < len1) ∨ (n < len0 ∧ n < len1 ∧ ¬ n < 100) := by omega
       clear hin
       rcases hout with h1 | ⟨h1, h2⟩ | ⟨h1, h2, h3⟩
       all_goals
         go_wp2_with fail
         go_meet
         exact ⟨s, HI.out, HB.out, by omega⟩
  case rest =>
    obtain ⟨s, hI, hB, hnow⟩ := hcut
    have HI : Hid (ClockIs wc w.heap.size 4 s) := hI
    have HB : Hid (Below w.heap.size w wc) := hB
    clear hI hB
    obtain ⟨wr, hwr⟩ : ∃ wr, wr = wc := ⟨_, rfl⟩
    subst hwr
    obtain ⟨wo, hwo⟩ : ∃ wo, wo = wr := ⟨_, rfl⟩
    subst hwo
    have HS0 : Hid _ := St.new HI.out HB.out
    go_wp2
    go_loopw [16] (fun i wi => ∃ m : Nat, m ≤ 4 ∧ i = .int .i64 m ∧ ∃ g1 g2 g3, St w wi w.heap.size wo.heap.size s g1 g2 g3 ∧ Told s m g1 g2 g3) (fun i _ => 4 - (intOf i).toNat)
    case atStart => exact ⟨0, by omega, rfl, _, _, _, HS0.out, Told.zero _ _ _ _⟩
    case round =>
      obtain ⟨m, hm4, rfl, g1, g2, g3, hS, hT⟩ := hrel
      have HS : Hid (St w wr w.heap.size wo.heap.size s g1 g2 g3) := hS
      have HT : Hid (Told s m g1 g2 g3) := hT
      clear hS hT HS0
      by_cases hlt : m < 4
      · have hmi : (m : Int) < 4 := by omega
        go_wp2_with (first
          | (go_at_call 21; refine (cycles_any _ 4 _ s _ (by omega) (by omega) HS.out.clock).mono ?_; rintro e w3 ⟨rfl, hm⟩; have HS3 : Hid (St w w3 w.heap.size wo.heap.size s g1 g2 g3) := HS.out.more hm; clear hm; have d1 := HS3.out.c1 (m := m) hlt; have z1 := HS3.out.f1 m; have HS4 : Hid (St w (w3.setCell ⟨wo.heap.size, m, none⟩ (.int .i64 (cyS 4 s m))) w.heap.size wo.heap.size s (fun i => if i = m then cyS 4 s m else g1 i) g2 g3) := HS3.out.put1 hlt _)
          | (go_at_call 22; clear d1 z1; refine (entered_any _ 4 _ s _ (by omega) (by omega) HS4.out.clock).mono ?_; rintro e w4 ⟨rfl, hm⟩; have HS5 : Hid (St w w4 w.heap.size wo.heap.size s (fun i => if i = m then cyS 4 s m else g1 i) g2 g3) := HS4.out.more hm; clear hm; have d2 := HS5.out.c2 (m := m) hlt; have z2 := HS5.out.f2 m; have HS6 : Hid (St w (w4.setCell ⟨wo.heap.size + 1, m, none⟩ (.int .i64 (enS 4 s m))) w.heap.size wo.heap.size s (fun i => if i = m then cyS 4 s m else g1 i) (fun i => if i = m then enS 4 s m else g2 i) g3) := HS5.out.put2 hlt _)
          | (go_at_call 23; clear d2 z2; refine (flushed_any _ 4 _ s _ (by omega) (by omega) HS6.out.clock).mono ?_; rintro e w5 ⟨rfl, hm⟩; have HS7 : Hid (St w w5 w.heap.size wo.heap.size s (fun i => if i = m then cyS 4 s m else g1 i) (fun i => if i = m then enS 4 s m else g2 i) g3) := HS6.out.more hm; clear hm; have d3 := HS7.out.c3 (m := m) hlt; have z3 := HS7.out.f3 m; have HS8 : Hid (St w (w5.setCell ⟨wo.heap.size + 2, m, none⟩ (.int .i64 (flS 4 s m))) w.heap.size wo.heap.size s (fun i => if i = m then cyS 4 s m else g1 i) (fun i => if i = m then enS 4 s m else g2 i) (fun i => if i = m then flS 4 s m else g3 i)) := HS7.out.put3 hlt _))
        go_roundw
        case rel => exact ⟨m + 1, by omega, by go_num, _, _, _, HS8.out, HT.out.next⟩
        case measure => simp [intOf]; omega
      · obtain rfl : m = 4 := by omega
        clear hlt
        go_wp2_with (first
          | (go_at_call 18; refine (now_some _ _ _ HS.out.clock.now).mono ?_; rintro e w9 ⟨rfl, hw9⟩; subst w9)
          | (go_at_call 14; refine (flush_any _ 4 _ s _ (by omega) (by omega) HS.out.clock).mono ?_; rintro e w2 ⟨rfl, hw2⟩; have HA' : Hid (St w w2 w.heap.size wo.heap.size (flushS 4 s me) g1 g2 g3) := (by rw [hw2]; exact HS.out.act _ (ok_flush HS.out.clock.ok 4 me)); clear hw2))
        have HO' : Hid (∀ j : Nat, j ≠ me → cyS 4 (flushS 4 s me) j = cyS 4 s j ∧ enS 4 (flushS 4 s me) j = enS 4 s j ∧ flS 4 (flushS 4 s me) j = flS 4 s j) := fun j hj => flush_other hj
        have HE' := And.intro (@flush_now 4 s (me : Int)) (@flush_me 4 s me hme4)
        have b0 := HS.out.clock.ok.1
        have b1 : 0 ≤ cyS 4 s (me : Int) := by rw [cyS_nat hme4]; exact (HS.out.clock.ok.2.2 me).1
        have b2 : cyS 4 s (me : Int) ≤ s.now := by rw [cyS_nat hme4]; exact (HS.out.clock.ok.2.2 me).2
        have k1 : IntKind.i64.wrap (s.now + 1) = s.now + 1 := by rw [IntKind.wrap_i64]; omega
        have k2 : IntKind.i64.wrap (cyS 4 s (me : Int) + 1) = cyS 4 s (me : Int) + 1 := by rw [IntKind.wrap_i64]; omega
        obtain ⟨s2, hs2⟩ : ∃ s2, s2 = flushS 4 s (me : Int) := ⟨_, rfl⟩
        rw [← hs2] at HA' HO' HE'
        have HA : Hid (St w w2 w.heap.size wo.heap.size s2 g1 g2 g3) := HA'.out
        have HO : Hid (∀ j : Nat, j ≠ me → cyS 4 s2 j = cyS 4 s j ∧ enS 4 s2 j = enS 4 s j ∧ flS 4 s2 j = flS 4 s j) := HO'.out
        have n1 := HE'.1
        have n2 := HE'.2
        have HN1 : Hid (s2.now = _) := n1
        have HN2 : Hid _ := n2
        clear hs2 HA' HO' HE' n1 n2 HS
        go_loopw [18] (fun i wi => ∃ m : Nat, m ≤ 4 ∧ i = .int .i64 m ∧ St w wi w.heap.size wo.heap.size s2 g1 g2 g3) (fun i _ => 4 - (intOf i).toNat)
        case atStart => exact ⟨0, by omega, rfl, HA.out⟩
        case round =>
          obtain ⟨m, hm5, rfl, hS⟩ := hrel
          have HR : Hid (St w wr w.heap.size wo.heap.size s2 g1 g2 g3) := hS
          clear hS HA
          by_cases hlt : m < 4
          · have hmi : (m : Int) < 4 := by omega
            by_cases hne : m = me
            · subst hne
              go_wp2
              go_quiet (fail)
              have HR2 : Hid (St w (wr.drewN nq) w.heap.size wo.heap.size s2 g1 g2 g3) := HR.out.drewN nq
              generalize wr.drewN nq = w3 at HR2 ⊢
              go_wp2
              go_roundw
              case rel => exact ⟨m + 1, by omega, by go_num, HR2.out⟩
              case measure => simp [intOf]; omega
            · have hni : ¬ (m : Int) = (me : Int) := by omega
              have hnd : decide ((m : Int) = (me : Int)) = false := by simp; omega
              have hnb : ((m : Int) != (me : Int)) = true := by simp; omega
              have T := HT.out m hlt
              have O := HO.out m hne
              have E1 : Hid (g1 m = cyS 4 s2 m) := T.1.trans O.1.symm
              have E2 : Hid (g2 m = enS 4 s2 m) := T.2.1.trans O.2.1.symm
              have E3 : Hid (g3 m = flS 4 s2 m) := T.2.2.trans O.2.2.symm
              have c1 : wr.cell? ⟨wo.heap.size, m, none⟩ = some (.int .i64 (cyS 4 s2 m)) := by rw [HR.out.c1 hlt, E1.out]
              have c2 : wr.cell? ⟨wo.heap.size + 1, m, none⟩ = some (.int .i64 (enS 4 s2 m)) := by rw [HR.out.c2 hlt, E2.out]
              have c3 : wr.cell? ⟨wo.heap.size + 2, m, none⟩ = some (.int .i64 (flS 4 s2 m)) := by rw [HR.out.c3 hlt, E3.out]
              clear T O
              go_wp2
              go_region_held3 (fun w' => w'.cell? ⟨wo.heap.size, m, none⟩ = some (.int .i64 (cyS 4 s2 m)) ∧ w'.cell? ⟨wo.heap.size + 1, m, none⟩ = some (.int .i64 (enS 4 s2 m)) ∧ w'.cell? ⟨wo.heap.size + 2, m, none⟩ = some (.int .i64 (flS 4 s2 m))) (first | exact ⟨by assumption, by assumption, by assumption⟩ | go_keep)
              (first
                | (go_at_call 21; refine (cycles_any _ 4 _ s2 _ (by omega) (by omega) HR.out.drew.clock).mono ?_; rintro e w3 ⟨rfl, hm⟩; have HR3 : Hid (St w w3 w.heap.size wo.heap.size s2 g1 g2 g3) := HR.out.drew.more hm; clear hm c1 c2 c3; have c1 : w3.cell? ⟨wo.heap.size, m, none⟩ = some (.int .i64 (cyS 4 s2 m)) := (by rw [HR3.out.c1 hlt, E1.out]); have c2 : w3.cell? ⟨wo.heap.size + 1, m, none⟩ = some (.int .i64 (enS 4 s2 m)) := (by rw [HR3.out.c2 hlt, E2.out]); have c3 : w3.cell? ⟨wo.heap.size + 2, m, none⟩ = some (.int .i64 (flS 4 s2 m)) := (by rw [HR3.out.c3 hlt, E3.out]))
                | (go_at_call 22; refine (entered_any _ 4 _ s2 _ (by omega) (by omega) HR3.out.clock).mono ?_; rintro e w4 ⟨rfl, hm⟩; have HR4 : Hid (St w w4 w.heap.size wo.heap.size s2 g1 g2 g3) := HR3.out.more hm; clear hm c1 c2 c3; have c1 : w4.cell? ⟨wo.heap.size, m, none⟩ = some (.int .i64 (cyS 4 s2 m)) := (by rw [HR4.out.c1 hlt, E1.out]); have c2 : w4.cell? ⟨wo.heap.size + 1, m, none⟩ = some (.int .i64 (enS 4 s2 m)) := (by rw [HR4.out.c2 hlt, E2.out]); have c3 : w4.cell? ⟨wo.heap.size + 2, m, none⟩ = some (.int .i64 (flS 4 s2 m)) := (by rw [HR4.out.c3 hlt, E3.out]))
                | (go_at_call 23; refine (flushed_any _ 4 _ s2 _ (by omega) (by omega) HR4.out.clock).mono ?_; rintro e w5 ⟨rfl, hm⟩; have HR5 : Hid (St w w5 w.heap.size wo.heap.size s2 g1 g2 g3) := HR4.out.more hm; clear hm c1 c2 c3; have c1 : w5.cell? ⟨wo.heap.size, m, none⟩ = some (.int .i64 (cyS 4 s2 m)) := (by rw [HR5.out.c1 hlt, E1.out]); have c2 : w5.cell? ⟨wo.heap.size + 1, m, none⟩ = some (.int .i64 (enS 4 s2 m)) := (by rw [HR5.out.c2 hlt, E2.out]); have c3 : w5.cell? ⟨wo.heap.size + 2, m, none⟩ = some (.int .i64 (flS 4 s2 m)) := (by rw [HR5.out.c3 hlt, E3.out])))
              go_wp2
              go_roundw
              case rel => exact ⟨m + 1, by omega, by go_num, HR5.out⟩
              case measure => simp [intOf]; omega
          · obtain rfl : m = 4 := by omega
            clear hlt
            have c1 : wr.cell? ⟨wo.heap.size, me, none⟩ = some (.int .i64 (cyS 4 s me)) := by rw [HR.out.c1 hme4, (HT.out me hme4).1]
            go_wp2
            refine wp_region_held_drew (S := (fun w' => w'.cell? ⟨wo.heap.size, me, none⟩ = some (.int .i64 (cyS 4 s me)))) (by kernel_rfl) ?_ (fun hHeld => ?_)
            · (first | assumption | go_keep)
            refine takeV (i := 0) (v := ?_) rfl (by kernel_rfl) (by kernel_rfl) (by kernel_rfl) (fun _ _ _ h => h) (by rfl) (by assumption) ?_ ?_
            rotate_left
            · (intro w0 hSw; (try dsimp only at hSw); go_simp; try (with_reducible rfl))
            try simp only [Act.put, List.setIfInBounds_toArray, List.set_cons_zero, List.set_cons_succ]
            refine takeV (i := 1) (v := ?_) rfl (by kernel_rfl) (by kernel_rfl) (by kernel_rfl) (fun _ _ _ h => h) (by rfl) (by assumption) ?_ ?_
            rotate_left
            · (intro w0 hSw; (try dsimp only at hSw); go_simp; try (with_reducible rfl))
            try simp only [Act.put, List.setIfInBounds_toArray, List.set_cons_zero, List.set_cons_succ]
            refine takeV (i := 2) (v := ?_) rfl (by kernel_rfl) (by kernel_rfl) (by kernel_rfl) (fun _ _ _ h => h) (by rfl) (by assumption) ?_ ?_
            rotate_left
            · (intro w0 hSw; (try dsimp only at hSw); go_simp; try (with_reducible rfl))
            try simp only [Act.put, List.setIfInBounds_toArray, List.set_cons_zero, List.set_cons_succ]
            refine takeV (i := 3) (v := ?_) rfl (by kernel_rfl) (by kernel_rfl) (by kernel_rfl) (fun _ _ _ h => h) (by rfl) (by assumption) ?_ ?_
            rotate_left
            · (intro w0 hSw; (try dsimp only at hSw); go_simp; try (with_reducible rfl))
            try simp only [Act.put, List.setIfInBounds_toArray, List.set_cons_zero, List.set_cons_succ]
            refine takeU (i := 4) rfl (by kernel_rfl) (by kernel_rfl) (by kernel_rfl) (fun _ _ _ h => h) (by rfl) (by assumption) ?_
            try simp only [Act.put, List.setIfInBounds_toArray, List.set_cons_zero, List.set_cons_succ]
            refine takeU (i := 5) rfl (by kernel_rfl) (by kernel_rfl) (by kernel_rfl) (fun _ _ _ h => h) (by rfl) (by assumption) ?_
            try simp only [Act.put, List.setIfInBounds_toArray, List.set_cons_zero, List.set_cons_succ]
            refine takeU (i := 6) rfl (by kernel_rfl) (by kernel_rfl) (by kernel_rfl) (fun _ _ _ h => h) (by rfl) (by assumption) ?_
            try simp only [Act.put, List.setIfInBounds_toArray, List.set_cons_zero, List.set_cons_succ]
            refine takeU (i := 7) rfl (by kernel_rfl) (by kernel_rfl) (by kernel_rfl) (fun _ _ _ h => h) (by rfl) (by assumption) ?_
            try simp only [Act.put, List.setIfInBounds_toArray, List.set_cons_zero, List.set_cons_succ]
            refine takeU (i := 8) rfl (by kernel_rfl) (by kernel_rfl) (by kernel_rfl) (fun _ _ _ h => h) (by rfl) (by assumption) ?_
            try simp only [Act.put, List.setIfInBounds_toArray, List.set_cons_zero, List.set_cons_succ]
            refine takeV (i := 9) (v := ?_) rfl (by kernel_rfl) (by kernel_rfl) (by kernel_rfl) (fun _ _ _ h => h) (by rfl) (by assumption) ?_ ?_
            rotate_left
            · (intro w0 hSw; (try dsimp only at hSw); go_simp; try (with_reducible rfl))
            try simp only [Act.put, List.setIfInBounds_toArray, List.set_cons_zero, List.set_cons_succ]
            refine takeV (i := 10) (v := ?_) rfl (by kernel_rfl) (by kernel_rfl) (by kernel_rfl) (fun _ _ _ h => h) (by rfl) (by assumption) ?_ ?_
            rotate_left
            · (intro w0 hSw; (try dsimp only at hSw); go_simp; try (with_reducible rfl))
            try simp only [Act.put, List.setIfInBounds_toArray, List.set_cons_zero, List.set_cons_succ]
            refine takeU (i := 11) rfl (by kernel_rfl) (by kernel_rfl) (by kernel_rfl) (fun _ _ _ h => h) (by rfl) (by assumption) ?_
            try simp only [Act.put, List.setIfInBounds_toArray, List.set_cons_zero, List.set_cons_succ]
            refine takeU (i := 12) rfl (by kernel_rfl) (by kernel_rfl) (by kernel_rfl) (fun _ _ _ h => h) (by rfl) (by assumption) ?_
            try simp only [Act.put, List.setIfInBounds_toArray, List.set_cons_zero, List.set_cons_succ]
            refine takeU (i := 13) rfl (by kernel_rfl) (by kernel_rfl) (by kernel_rfl) (fun _ _ _ h => h) (by rfl) (by assumption) ?_
            try simp only [Act.put, List.setIfInBounds_toArray, List.set_cons_zero, List.set_cons_succ]
            refine takeU (i := 14) rfl (by kernel_rfl) (by kernel_rfl) (by kernel_rfl) (fun _ _ _ h => h) (by rfl) (by assumption) ?_
            try simp only [Act.put, List.setIfInBounds_toArray, List.set_cons_zero, List.set_cons_succ]
            refine takeU (i := 15) rfl (by kernel_rfl) (by kernel_rfl) (by kernel_rfl) (fun _ _ _ h => h) (by rfl) (by assumption) ?_
            try simp only [Act.put, List.setIfInBounds_toArray, List.set_cons_zero, List.set_cons_succ]
            refine takeU (i := 16) rfl (by kernel_rfl) (by kernel_rfl) (by kernel_rfl) (fun _ _ _ h => h) (by rfl) (by assumption) ?_
            try simp only [Act.put, List.setIfInBounds_toArray, List.set_cons_zero, List.set_cons_succ]
            refine takeU (i := 17) rfl (by kernel_rfl) (by kernel_rfl) (by kernel_rfl) (fun _ _ _ h => h) (by rfl) (by assumption) ?_
            try simp only [Act.put, List.setIfInBounds_toArray, List.set_cons_zero, List.set_cons_succ]
            refine takeU (i := 18) rfl (by kernel_rfl) (by kernel_rfl) (by kernel_rfl) (fun _ _ _ h => h) (by rfl) (by assumption) ?_
            try simp only [Act.put, List.setIfInBounds_toArray, List.set_cons_zero, List.set_cons_succ]
            refine takeV (i := 19) (v := ?_) rfl (by kernel_rfl) (by kernel_rfl) (by kernel_rfl) (fun _ _ _ h => h) (by rfl) (by assumption) ?_ ?_
            rotate_left
            · (intro w0 hSw; (try dsimp only at hSw); go_simp; try (with_reducible rfl))
            try simp only [Act.put, List.setIfInBounds_toArray, List.set_cons_zero, List.set_cons_succ]
            refine takeV (i := 20) (v := ?_) rfl (by kernel_rfl) (by kernel_rfl) (by kernel_rfl) (fun _ _ _ h => h) (by rfl) (by assumption) ?_ ?_
            rotate_left
            · (intro w0 hSw; (try dsimp only at hSw); go_simp; try (with_reducible rfl))
            try simp only [Act.put, List.setIfInBounds_toArray, List.set_cons_zero, List.set_cons_succ]
            refine takeV (i := 21) (v := ?_) rfl (by kernel_rfl) (by kernel_rfl) (by kernel_rfl) (fun _ _ _ h => h) (by rfl) (by assumption) ?_ ?_
            rotate_left
            · (intro w0 hSw; (try dsimp only at hSw); go_simp; try (with_reducible rfl))
            try simp only [Act.put, List.setIfInBounds_toArray, List.set_cons_zero, List.set_cons_succ]
            refine takeV (i := 22) (v := ?_) rfl (by kernel_rfl) (by kernel_rfl) (by kernel_rfl) (fun _ _ _ h => h) (by rfl) (by assumption) ?_ ?_
            rotate_left
            · (intro w0 hSw; (try dsimp only at hSw); go_simp; try (with_reducible rfl))
            try simp only [Act.put, List.setIfInBounds_toArray, List.set_cons_zero, List.set_cons_succ]
            refine takeV (i := 23) (v := ?_) rfl (by kernel_rfl) (by kernel_rfl) (by kernel_rfl) (fun _ _ _ h => h) (by rfl) (by assumption) ?_ ?_
            rotate_left
            · (intro w0 hSw; (try dsimp only at hSw); go_simp; try (with_reducible rfl))
            try simp only [Act.put, List.setIfInBounds_toArray, List.set_cons_zero, List.set_cons_succ]
            refine takeV (i := 24) (v := ?_) rfl (by kernel_rfl) (by kernel_rfl) (by kernel_rfl) (fun _ _ _ h => h) (by rfl) (by assumption) ?_ ?_
            rotate_left
            · (intro w0 hSw; (try dsimp only at hSw); go_simp; try (with_reducible rfl))
            try simp only [Act.put, List.setIfInBounds_toArray, List.set_cons_zero, List.set_cons_succ]
            refine takeU (i := 25) rfl (by kernel_rfl) (by kernel_rfl) (by kernel_rfl) (fun _ _ _ h => h) (by rfl) (by assumption) ?_
            try simp only [Act.put, List.setIfInBounds_toArray, List.set_cons_zero, List.set_cons_succ]
            refine takeU (i := 26) rfl (by kernel_rfl) (by kernel_rfl) (by kernel_rfl) (fun _ _ _ h => h) (by rfl) (by assumption) ?_
            try simp only [Act.put, List.setIfInBounds_toArray, List.set_cons_zero, List.set_cons_succ]
            refine takeU (i := 27) rfl (by kernel_rfl) (by kernel_rfl) (by kernel_rfl) (fun _ _ _ h => h) (by rfl) (by assumption) ?_
            try simp only [Act.put, List.setIfInBounds_toArray, List.set_cons_zero, List.set_cons_succ]
            refine takeU (i := 28) rfl (by kernel_rfl) (by kernel_rfl) (by kernel_rfl) (fun _ _ _ h => h) (by rfl) (by assumption) ?_
            try simp only [Act.put, List.setIfInBounds_toArray, List.set_cons_zero, List.set_cons_succ]
            refine takeV (i := 29) (v := ?_) rfl (by kernel_rfl) (by kernel_rfl) (by kernel_rfl) (fun _ _ _ h => h) (by rfl) (by assumption) ?_ ?_
            rotate_left
            · (intro w0 hSw; (try dsimp only at hSw); go_simp; try (with_reducible rfl))
            try simp only [Act.put, List.setIfInBounds_toArray, List.set_cons_zero, List.set_cons_succ]
            refine takeV (i := 30) (v := ?_) rfl (by kernel_rfl) (by kernel_rfl) (by kernel_rfl) (fun _ _ _ h => h) (by rfl) (by assumption) ?_ ?_
            rotate_left
            · (intro w0 hSw; (try dsimp only at hSw); go_simp; try (with_reducible rfl))
            try simp only [Act.put, List.setIfInBounds_toArray, List.set_cons_zero, List.set_cons_succ]
            refine takeU (i := 31) rfl (by kernel_rfl) (by kernel_rfl) (by kernel_rfl) (fun _ _ _ h => h) (by rfl) (by assumption) ?_
            try simp only [Act.put, List.setIfInBounds_toArray, List.set_cons_zero, List.set_cons_succ]
            refine takeU (i := 32) rfl (by kernel_rfl) (by kernel_rfl) (by kernel_rfl) (fun _ _ _ h => h) (by rfl) (by assumption) ?_
            try simp only [Act.put, List.setIfInBounds_toArray, List.set_cons_zero, List.set_cons_succ]
            refine takeU (i := 33) rfl (by kernel_rfl) (by kernel_rfl) (by kernel_rfl) (fun _ _ _ h => h) (by rfl) (by assumption) ?_
            try simp only [Act.put, List.setIfInBounds_toArray, List.set_cons_zero, List.set_cons_succ]
            refine takeU (i := 34) rfl (by kernel_rfl) (by kernel_rfl) (by kernel_rfl) (fun _ _ _ h => h) (by rfl) (by assumption) ?_
            try simp only [Act.put, List.setIfInBounds_toArray, List.set_cons_zero, List.set_cons_succ]
            refine takeU (i := 35) rfl (by kernel_rfl) (by kernel_rfl) (by kernel_rfl) (fun _ _ _ h => h) (by rfl) (by assumption) ?_
            try simp only [Act.put, List.setIfInBounds_toArray, List.set_cons_zero, List.set_cons_succ]
            refine takeV (i := 36) (v := ?_) rfl (by kernel_rfl) (by kernel_rfl) (by kernel_rfl) (fun _ _ _ h => h) (by rfl) (by assumption) ?_ ?_
            rotate_left
            · (intro w0 hSw; (try dsimp only at hSw); go_simp; try (with_reducible rfl))
            try simp only [Act.put, List.setIfInBounds_toArray, List.set_cons_zero, List.set_cons_succ]
            refine takeV (i := 37) (v := ?_) rfl (by kernel_rfl) (by kernel_rfl) (by kernel_rfl) (fun _ _ _ h => h) (by rfl) (by assumption) ?_ ?_
            rotate_left
            · (intro w0 hSw; (try dsimp only at hSw); go_simp; try (with_reducible rfl))
            try simp only [Act.put, List.setIfInBounds_toArray, List.set_cons_zero, List.set_cons_succ]
            refine takeV (i := 38) (v := ?_) rfl (by kernel_rfl) (by kernel_rfl) (by kernel_rfl) (fun _ _ _ h => h) (by rfl) (by assumption) ?_ ?_
            rotate_left
            · (intro w0 hSw; (try dsimp only at hSw); go_simp; try (with_reducible rfl))
            try simp only [Act.put, List.setIfInBounds_toArray, List.set_cons_zero, List.set_cons_succ]
            refine takeV (i := 39) (v := ?_) rfl (by kernel_rfl) (by kernel_rfl) (by kernel_rfl) (fun _ _ _ h => h) (by rfl) (by assumption) ?_ ?_
            rotate_left
            · (intro w0 hSw; (try dsimp only at hSw); go_simp; try (with_reducible rfl))
            try simp only [Act.put, List.setIfInBounds_toArray, List.set_cons_zero, List.set_cons_succ]
            refine takeV (i := 40) (v := ?_) rfl (by kernel_rfl) (by kernel_rfl) (by kernel_rfl) (fun _ _ _ h => h) (by rfl) (by assumption) ?_ ?_
            rotate_left
            · (intro w0 hSw; (try dsimp only at hSw); go_simp; try (with_reducible rfl))
            try simp only [Act.put, List.setIfInBounds_toArray, List.set_cons_zero, List.set_cons_succ]
            refine takeV (i := 41) (v := ?_) rfl (by kernel_rfl) (by kernel_rfl) (by kernel_rfl) (fun _ _ _ h => h) (by rfl) (by assumption) ?_ ?_
            rotate_left
            · (intro w0 hSw; (try dsimp only at hSw); go_simp; try (with_reducible rfl))
            try simp only [Act.put, List.setIfInBounds_toArray, List.set_cons_zero, List.set_cons_succ]
            refine takeV (i := 42) (v := ?_) rfl (by kernel_rfl) (by kernel_rfl) (by kernel_rfl) (fun _ _ _ h => h) (by rfl) (by assumption) ?_ ?_
            rotate_left
            · (intro w0 hSw; (try dsimp only at hSw); go_simp; try (with_reducible rfl))
            try simp only [Act.put, List.setIfInBounds_toArray, List.set_cons_zero, List.set_cons_succ]
            refine takeV (i := 43) (v := ?_) rfl (by kernel_rfl) (by kernel_rfl) (by kernel_rfl) (fun _ _ _ h => h) (by rfl) (by assumption) ?_ ?_
            rotate_left
            · (intro w0 hSw; (try dsimp only at hSw); go_simp; try (with_reducible rfl))
            try simp only [Act.put, List.setIfInBounds_toArray, List.set_cons_zero, List.set_cons_succ]
            refine takeV (i := 45) (v := ?_) rfl (by kernel_rfl) (by kernel_rfl) (by kernel_rfl) (fun _ _ _ h => h) (by rfl) (by assumption) ?_ ?_
            rotate_left
            · (intro w0 hSw; (try dsimp only at hSw); go_simp; try (with_reducible rfl))
            try simp only [Act.put, List.setIfInBounds_toArray, List.set_cons_zero, List.set_cons_succ]
            refine stepOne (i := 44) rfl (by kernel_rfl) (fun K hK => ?_)
            go_simp
            (go_at_call 18; refine (now_some _ s.now _ (by rw [← HN1.out]; exact HR.out.drew.clock.now)).mono ?_; rintro e w3 ⟨rfl, hw3⟩; have HR3 : Hid (St w w3 w.heap.size wo.heap.size s2 g1 g2 g3) := (by rw [hw3]; exact HR.out.drew); clear hw3 c1; have c1 : w3.cell? ⟨wo.heap.size, me, none⟩ = some (.int .i64 (cyS 4 s me)) := (by rw [HR3.out.c1 hme4, (HT.out me hme4).1]))
            go_wp2_with fail
            refine hK.out _ _ ?_ (fun hHeld => ?_)
            · (first | assumption | go_keep)
            clear hK K
            try simp only [Act.put, List.setIfInBounds_toArray, List.set_cons_zero, List.set_cons_succ]
            refine takeV (i := 46) (v := ?_) rfl (by kernel_rfl) (by kernel_rfl) (by kernel_rfl) (fun _ _ _ h => h) (by rfl) (by assumption) ?_ ?_
            rotate_left
            · (intro w0 hSw; (try dsimp only at hSw); go_simp; try (with_reducible rfl))
            try simp only [Act.put, List.setIfInBounds_toArray, List.set_cons_zero, List.set_cons_succ]
            refine takeV (i := 47) (v := ?_) rfl (by kernel_rfl) (by kernel_rfl) (by kernel_rfl) (fun _ _ _ h => h) (by rfl) (by assumption) ?_ ?_
            rotate_left
            · (intro w0 hSw; (try dsimp only at hSw); go_simp; try (with_reducible rfl))
            try simp only [Act.put, List.setIfInBounds_toArray, List.set_cons_zero, List.set_cons_succ]
            refine takeV (i := 48) (v := ?_) rfl (by kernel_rfl) (by kernel_rfl) (by kernel_rfl) (fun _ _ _ h => h) (by rfl) (by assumption) ?_ ?_
            rotate_left
            · (intro w0 hSw; (try dsimp only at hSw); go_simp; try (with_reducible rfl))
            try simp only [Act.put, List.setIfInBounds_toArray, List.set_cons_zero, List.set_cons_succ]
            refine takeV (i := 49) (v := ?_) rfl (by kernel_rfl) (by kernel_rfl) (by kernel_rfl) (fun _ _ _ h => h) (by rfl) (by assumption) ?_ ?_
            rotate_left
            · (intro w0 hSw; (try dsimp only at hSw); go_simp; try (with_reducible rfl))
            try simp only [Act.put, List.setIfInBounds_toArray, List.set_cons_zero, List.set_cons_succ]
            refine takeV (i := 50) (v := ?_) rfl (by kernel_rfl) (by kernel_rfl) (by kernel_rfl) (fun _ _ _ h => h) (by rfl) (by assumption) ?_ ?_
            rotate_left
            · (intro w0 hSw; (try dsimp only at hSw); go_simp; try (with_reducible rfl))
            try simp only [Act.put, List.setIfInBounds_toArray, List.set_cons_zero, List.set_cons_succ]
            refine takeV (i := 52) (v := ?_) rfl (by kernel_rfl) (by kernel_rfl) (by kernel_rfl) (fun _ _ _ h => h) (by rfl) (by assumption) ?_ ?_
            rotate_left
            · (intro w0 hSw; (try dsimp only at hSw); go_simp; try (with_reducible rfl))
            try simp only [Act.put, List.setIfInBounds_toArray, List.set_cons_zero, List.set_cons_succ]
            refine stepOne (i := 51) rfl (by kernel_rfl) (fun K hK => ?_)
            go_simp
            (go_at_call 23; refine (flushed_any _ 4 _ s2 _ (by omega) (by omega) HR3.out.clock).mono ?_; rintro e w4 ⟨rfl, hm⟩; rw [HN2.out]; have HR4 : Hid (St w w4 w.heap.size wo.heap.size s2 g1 g2 g3) := HR3.out.more hm; clear hm c1; have c1 : w4.cell? ⟨wo.heap.size, me, none⟩ = some (.int .i64 (cyS 4 s me)) := (by rw [HR4.out.c1 hme4, (HT.out me hme4).1]))
            go_wp2_with fail
            refine hK.out _ _ ?_ (fun hHeld => ?_)
            · (first | assumption | go_keep)
            clear hK K
            try simp only [Act.put, List.setIfInBounds_toArray, List.set_cons_zero, List.set_cons_succ]
            refine takeV (i := 53) (v := ?_) rfl (by kernel_rfl) (by kernel_rfl) (by kernel_rfl) (fun _ _ _ h => h) (by rfl) (by assumption) ?_ ?_
            rotate_left
            · (intro w0 hSw; (try dsimp only at hSw); go_simp; try (with_reducible rfl))
            try simp only [Act.put, List.setIfInBounds_toArray, List.set_cons_zero, List.set_cons_succ]
            refine takeV (i := 54) (v := ?_) rfl (by kernel_rfl) (by kernel_rfl) (by kernel_rfl) (fun _ _ _ h => h) (by rfl) (by assumption) ?_ ?_
            rotate_left
            · (intro w0 hSw; (try dsimp only at hSw); go_simp; try (with_reducible rfl))
            try simp only [Act.put, List.setIfInBounds_toArray, List.set_cons_zero, List.set_cons_succ]
            refine takeV (i := 55) (v := ?_) rfl (by kernel_rfl) (by kernel_rfl) (by kernel_rfl) (fun _ _ _ h => h) (by rfl) (by assumption) ?_ ?_
            rotate_left
            · (intro w0 hSw; (try dsimp only at hSw); go_simp; try (with_reducible rfl))
            try simp only [Act.put, List.setIfInBounds_toArray, List.set_cons_zero, List.set_cons_succ]
            refine takeV (i := 56) (v := ?_) rfl (by kernel_rfl) (by kernel_rfl) (by kernel_rfl) (fun _ _ _ h => h) (by rfl) (by assumption) ?_ ?_
            rotate_left
            · (intro w0 hSw; (try dsimp only at hSw); go_simp; try (with_reducible rfl))
            try simp only [Act.put, List.setIfInBounds_toArray, List.set_cons_zero, List.set_cons_succ]
            refine stepOne (i := 57) rfl (by kernel_rfl) (fun K hK => ?_)
            go_simp
            (go_at_call 9; refine (awake_any _).mono ?_; rintro e w5 ⟨rfl, hw5⟩; have HF : Hid (Below w.heap.size w w5) := HR4.out.below.trans (hw5.mono HR4.out.below.size); clear c1; have c1 := (hw5.cell (p := ⟨wo.heap.size, me, none⟩) (show wo.heap.size < _ from Nat.lt_of_le_of_lt (Nat.le_add_right _ 2) HR4.out.size)).trans ((HR4.out.c1 hme4).trans (by rw [(HT.out me hme4).1])); clear hw5)
            go_wp2_with fail
            refine hK.out _ _ ?_ (fun hHeld => ?_)
            · (first | assumption | go_keep)
            clear hK K
            try simp only [Act.put, List.setIfInBounds_toArray, List.set_cons_zero, List.set_cons_succ]
            refine takeV (i := 58) (v := ?_) rfl (by kernel_rfl) (by kernel_rfl) (by kernel_rfl) (fun _ _ _ h => h) (by rfl) (by assumption) ?_ ?_
            rotate_left
            · (intro w0 hSw; (try dsimp only at hSw); go_simp; try (with_reducible rfl))
            try simp only [Act.put, List.setIfInBounds_toArray, List.set_cons_zero, List.set_cons_succ]
            refine takeV (i := 59) (v := ?_) rfl (by kernel_rfl) (by kernel_rfl) (by kernel_rfl) (fun _ _ _ h => h) (by rfl) (by assumption) ?_ ?_
            rotate_left
            · (intro w0 hSw; (try dsimp only at hSw); go_simp; try (with_reducible rfl))
            try simp only [Act.put, List.setIfInBounds_toArray, List.set_cons_zero, List.set_cons_succ]
            refine wpAnyH_done (by kernel_rfl) ?_ _
            go_wp2
            go_ret
            exact ⟨rfl, HF.out⟩

/-! ### STEP 1: THE WALK: the Go text returns true, AND WRITES NOTHING THAT WAS THERE: 'Below w.heap.size w w'' (Derived/Below.lean: '.refl', '.alloc', '.drew', '.setCell' at a new block, '.trans'). Open each 'IsRow' by 'rcases' AHEAD of 'go_enter'; part every test ahead of the walk. -/
theorem walk (a0 : Option Addr) (len0 cap0 : Nat) (z0 : List Int) (a1 : Option Addr) (len1 cap1 : Nat) (z1 : List Int) (a2 : Int) (a3 : Int) (w : World) (w0 : IsRow .u8 w a0 len0 cap0 z0) (w1 : IsRow .u8 w a1 len1 cap1 z1) (w2 : (Lit.int .u8 a2).wf = true) (w3 : (Lit.int .u8 a3).wf = true) :
    Calls Try.prog 6 #[.slice a0 len0 cap0, .slice a1 len1 cap1, .int .u8 a2, .int .u8 a3] w fun e w' => e = .returned (.bool true) ∧ Below w.heap.size w w' := by
  obtain ⟨hC0, hl0⟩ := came_of_row w0
  obtain ⟨hC1, hl1⟩ := came_of_row w1
  obtain ⟨me, hme, hme4⟩ := rem_u8 w3 4 (by omega)
  obtain ⟨q, hq, hq3⟩ := rem_u8 w2 3 (by omega)
  have hq' : a2.tmod 3 = 0 ∨ a2.tmod 3 = 1 ∨ a2.tmod 3 = 2 := by
    have : a2.tmod 3 = (q : Int) := hq
    omega
  rcases hq' with h | h | h
  · exact walk_step a0 a1 len0 cap0 len1 cap1 a2 a3 me w hC0 hC1 hl0 hl1 hme hme4 h
  · exact walk_enter a0 a1 len0 cap0 len1 cap1 a2 a3 me w hC0 hC1 hl0 hl1 hme hme4 h
  · exact walk_flush a0 a1 len0 cap0 len1 cap1 a2 a3 me w hC0 hC1 hl0 hl1 hme hme4 h

/-! ### THE ROW's STEP: WRITTEN OUT: LEAVE IT -/
set_option maxRecDepth 100000 in
theorem lifted (os : Os) (started : os.Started) (H : Type) (enc : TypeId × Value → H) :
    ReturnsInHanded {} Try.checked os 6 .any (Rows.clockOneSpec.pre6 enc Try.prog Try.f6 Rows.clockOneRow.domain false) (Rows.clockOneSpec.post enc Try.prog Try.f6 false true false false) := by
  refine returnsInHanded_of_change (C := Try.checked) own started (by kernel_rfl) Try.func6
    (ChangeSpec.witness6 (enc := enc) (C := Try.checked) false ⟨#[], #[.slice none 0 0, .slice none 0 0, .int .u8 0, .int .u8 0], []⟩ 8 (by kernel_rfl) (by kernel_rfl) (by kernel_rfl) (by kernel_rfl)) ?_
  intro W base args ds gs before hval0 hW hcnd _
  have hval : ∀ (j : Nat) t v, Try.f6.params[j]? = some t → args[j]? = some v → Value.okWide Try.prog W .any base t v := hval0
  have hW' := hW
  obtain ⟨p, q, hA0, hV, rfl, hfz, hnd⟩ := hW
  have hA : DataW.TrodAll enc Try.prog W 0 (fun _ => true) true Try.f6.params.toList args.toList ds p := hA0
  rw [Try.params6] at hA hval
  obtain ⟨v0, vs0, d0, ds0, p0, q0, hargs, rfl, rfl, h0, r0⟩ := trodAll_cons hA
  obtain ⟨v1, vs1, d1, ds1, p1, q1, rfl, rfl, rfl, h1, r1⟩ := trodAll_cons r0
  obtain ⟨v2, vs2, d2, ds2, p2, q2, rfl, rfl, rfl, h2, r2⟩ := trodAll_cons r1
  obtain ⟨v3, vs3, d3, ds3, p3, q3, rfl, rfl, rfl, h3, r3⟩ := trodAll_cons r2
  obtain ⟨rfl, rfl, rfl⟩ := trodAll_nil r3
  obtain rfl : args = #[v0, v1, v2, v3] := by cases args; simp_all
  obtain ⟨rfl, rfl⟩ := trodVars_none hV
  obtain ⟨a0, len0, cap0, rfl⟩ := okWide_slice Try.underlying22 (hval 0 22 v0 rfl rfl)
  have k0 := h0
  have lt0 : ∀ x ∈ p0, x.block < W.heap.size := by obtain ⟨m, hm⟩ := k0; exact DataW.trod_lt m _ _ _ hm
  obtain ⟨z0, w0⟩ : ∃ zs, IsRow .u8 W a0 len0 cap0 zs := by
    obtain ⟨fuel, hf⟩ := h0
    rcases open_ints Try.underlying22 Try.underlying5 (by kernel_rfl) hf with ⟨hcs, _⟩ | ⟨x, l, c, zs, hcs, _, hl, hm, hz, _, hcell, hwz⟩
    · simp [Value.cells] at hcs
      obtain ⟨rfl, rfl, rfl⟩ := hcs
      exact ⟨[], .inl ⟨rfl, rfl, rfl, rfl⟩⟩
    · simp [Value.cells] at hcs
      obtain ⟨rfl, rfl, rfl⟩ := hcs
      exact ⟨zs, .inr ⟨_, rfl, hl, hm, by simpa using hz, hcell, hwz⟩⟩
  obtain ⟨a1, len1, cap1, rfl⟩ := okWide_slice Try.underlying22 (hval 1 22 v1 rfl rfl)
  have k1 := h1
  have lt1 : ∀ x ∈ p1, x.block < W.heap.size := by obtain ⟨m, hm⟩ := k1; exact DataW.trod_lt m _ _ _ hm
  obtain ⟨z1, w1⟩ : ∃ zs, IsRow .u8 W a1 len1 cap1 zs := by
    obtain ⟨fuel, hf⟩ := h1
    rcases open_ints Try.underlying22 Try.underlying5 (by kernel_rfl) hf with ⟨hcs, _⟩ | ⟨x, l, c, zs, hcs, _, hl, hm, hz, _, hcell, hwz⟩
    · simp [Value.cells] at hcs
      obtain ⟨rfl, rfl, rfl⟩ := hcs
      exact ⟨[], .inl ⟨rfl, rfl, rfl, rfl⟩⟩
    · simp [Value.cells] at hcs
      obtain ⟨rfl, rfl, rfl⟩ := hcs
      exact ⟨zs, .inr ⟨_, rfl, hl, hm, by simpa using hz, hcell, hwz⟩⟩
  obtain ⟨a2, rfl, rfl, rfl, w2⟩ := open_int Try.underlying5 (hval 2 5 v2 rfl rfl) h2
  obtain ⟨a3, rfl, rfl, rfl, w3⟩ := open_int Try.underlying5 (hval 3 5 v3 rfl rfl) h3
  clear hA0 hval0
  refine (walk a0 len0 cap0 z0 a1 len1 cap1 z1 a2 a3 W w0 w1 w2 w3).mono fun e W' ⟨he, bel⟩ => ?_
  subst he
  exact ⟨_, rfl, _, _, _, [], _, [], hW', trodAll_mk1 (shut_bool Try.underlying4 _), (trodAll_cons_mk (Below.trod laidOut (by kernel_rfl) (of_decide_eq_true (by kernel_rfl)) k0 bel lt0) (trodAll_cons_mk (Below.trod laidOut (by kernel_rfl) (of_decide_eq_true (by kernel_rfl)) k1 bel lt1) (trodAll_cons_mk (shut_int Try.underlying5 w2) (trodAll_cons_mk (shut_int Try.underlying5 w3) trodAll_mk0)))), rfl, bel.frame _, fun h => by cases h⟩

theorem over : Rows.clockOneRow.holds Try.pinned (OpenSpec.ofChange Rows.clockOneSpec) :=
  OpenClaim.holds_of_wide 6 Try.f6 rfl rfl rfl rfl rfl rfl rfl ⟨rfl, rfl, rfl, rfl, rfl⟩ rfl rfl rfl rfl rfl (by kernel_rfl) Try.func6 (by kernel_rfl)
    (of_decide_eq_true (by kernel_rfl)) (by unfold Func.isWrapper; first | (rw [if_pos (by decide +kernel)]; kernel_rfl) | (rw [if_neg (by decide +kernel)]; exact ⟨rfl, rfl⟩))
    (fun os started H enc _ => lifted os started H enc)

/-- ████ THE STATEMENT ████ -/
theorem proved : Rows.ClockOneSaid := over
end Go.Proofs.Ytmnjlckniaociaa.clockOne
namespace Go.Proofs.Ytmnjlckniaociaa
theorem clockOne_holds : Rows.ClockOneSaid := clockOne.proved
#print axioms clockOne_holds
end Go.Proofs.Ytmnjlckniaociaa
