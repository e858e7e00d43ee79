/- LiveOnce returns true for every list of acts, and leaves its arguments as they were. No condition. -/
import Derived.Test.YtppbldhahddopaaRows
import Derived.Test.YtppbldhahddopaaLivE
import Derived.Test.YtppbldhahddopaaLivI
import Derived.Deep.CutBlock
import Derived.WalkKit
import Derived.ProofKit
import Derived.OpenShut
import Derived.ShutString
import Derived.ChangeOld
import Derived.Below
namespace Go.Proofs.Ytppbldhahddopaa.liveOnce
open Go.ChangeShapes Go.WideShapes Go.ChangeAt Go.RowKit
set_option linter.unusedVariables false

theorem own : ownKnob Try.prog.godebug = none := by kernel_rfl
theorem laidOut : laidOutB Try.prog = true := by kernel_rfl

theorem infoInt : (Try.prog.info? 3).map (fun i => (i.zero, i.size, i.bytes)) = some (some (.int .i64 0), 1, 8) := by kernel_rfl
theorem infoBool : (Try.prog.info? 4).map (fun i => (i.zero, i.size, i.bytes)) = some (some (.bool false), 1, 1) := by kernel_rfl
theorem Once.full {w wr : World} {S : Nat → LS} {n : Nat} {E : List En} {e : En} {a0 a1 a2 : Option Addr} {c0 c1 c2 : Nat} (h : Own w wr S) (hl : E.length = n) (hL : L3 (w.heap.size + 2) wr (.slice a0 (n + 1) c0) (.slice a1 (n + 1) c1) (.slice a2 (n + 1) c2) (E.map En.x ++ [e.x]) (E.map En.y ++ [e.y]) (E.map En.d ++ [e.d])) (hi : Inv S (E ++ [e])) : Once w wr S (n + 1) (E ++ [e]) a0 c0 a1 c1 a2 c2 :=
  ⟨h, by simp [hl], by simpa using hL, hi⟩
theorem once_kept {w wr w' : World} {S T : Nat → LS} {n : Nat} {E : List En} {g0 g1 g2 : Nat} {c0 c1 c2 : Nat} (h : Once w wr S n E (some ⟨g0, 0, none⟩) c0 (some ⟨g1, 0, none⟩) c1 (some ⟨g2, 0, none⟩) c2) {k : Nat} {e : En} (he : E[k]? = some e) (hd : Did wr w' w.heap.size 64 T) :
    w'.cell? ⟨g0, k, none⟩ = some (.int .i64 e.x) ∧ w'.cell? ⟨g1, k, none⟩ = some (.int .i64 e.y) := by
  obtain ⟨h1, h2, _, _⟩ := (h.ls.on (w' := w') fun b hb hlt => hd.block hlt (by omega)).cells h.len he
  exact ⟨h1, h2⟩
theorem step0 {w wr w1 : World} {T : Nat → LS} {v0 v1 v2 v' : Value} {X Y : List Int} {D : List Bool} {n : Nat} {o : Obj} {x : Int} (hO : Own w wr T) (hL : L3 (w.heap.size + 2) wr v0 v1 v2 X Y D) (hn : X.length = n)
    (hown : w1.ownsRow (w.heap.size + 2) 3 1 v' (n + 1) (iv X ++ [.int .i64 x])) (hg : (wr.alloc o).grownBy w1 v0.ownBlock) (hat : v'.ownBlock = v0.ownBlock ∨ v'.ownBlock = some (wr.alloc o).heap.size) :
    Own w w1 T ∧ L3 (w.heap.size + 2) w1 v' v1 v2 (X ++ [x]) Y D := by
  subst hn
  have h2 := hO.tbl.lt
  exact ⟨hO.above (((Below.refl _ _).alloc (by omega) o).grown hg (by simp; omega) (own_ge hL.o0)), hL.push0 hown hg hat⟩
theorem step1 {w wr w1 : World} {T : Nat → LS} {v0 v1 v2 v' : Value} {X Y : List Int} {D : List Bool} {n : Nat} {o : Obj} {x : Int} (hO : Own w wr T) (hL : L3 (w.heap.size + 2) wr v0 v1 v2 X Y D) (hn : Y.length = n)
    (hown : w1.ownsRow (w.heap.size + 2) 3 1 v' (n + 1) (iv Y ++ [.int .i64 x])) (hg : (wr.alloc o).grownBy w1 v1.ownBlock) (hat : v'.ownBlock = v1.ownBlock ∨ v'.ownBlock = some (wr.alloc o).heap.size) :
    Own w w1 T ∧ L3 (w.heap.size + 2) w1 v0 v' v2 X (Y ++ [x]) D := by
  subst hn
  have h2 := hO.tbl.lt
  exact ⟨hO.above (((Below.refl _ _).alloc (by omega) o).grown hg (by simp; omega) (own_ge hL.o1)), hL.push1 hown hg hat⟩
theorem step2 {w wr w1 : World} {T : Nat → LS} {v0 v1 v2 v' : Value} {X Y : List Int} {D : List Bool} {n : Nat} {o : Obj} {x : Bool} (hO : Own w wr T) (hL : L3 (w.heap.size + 2) wr v0 v1 v2 X Y D) (hn : D.length = n)
    (hown : w1.ownsRow (w.heap.size + 2) 4 1 v' (n + 1) (bv D ++ [.bool x])) (hg : (wr.alloc o).grownBy w1 v2.ownBlock) :
    Own w w1 T ∧ L3 (w.heap.size + 2) w1 v0 v1 v' X Y (D ++ [x]) := by
  subst hn
  have h2 := hO.tbl.lt
  exact ⟨hO.above (((Below.refl _ _).alloc (by omega) o).grown hg (by simp; omega) (own_ge hL.o2)), hL.push2 hown hg⟩
theorem row0 {B : Nat} {w : World} {v0 v1 v2 : Value} {X Y : List Int} {D : List Bool} {n : Nat} (h : L3 B w v0 v1 v2 X Y D) (hn : X.length = n) : w.ownsRow B 3 1 v0 n (iv X) := by subst hn; exact h.o0
theorem row1 {B : Nat} {w : World} {v0 v1 v2 : Value} {X Y : List Int} {D : List Bool} {n : Nat} (h : L3 B w v0 v1 v2 X Y D) (hn : Y.length = n) : w.ownsRow B 3 1 v1 n (iv Y) := by subst hn; exact h.o1
theorem row2 {B : Nat} {w : World} {v0 v1 v2 : Value} {X Y : List Int} {D : List Bool} {n : Nat} (h : L3 B w v0 v1 v2 X Y D) (hn : D.length = n) : w.ownsRow B 4 1 v2 n (bv D) := by subst hn; exact h.o2
set_option maxRecDepth 100000 in
set_option maxHeartbeats 8000000 in
theorem walk_all (a1 a2 a3 : Option Addr) (len1 cap1 len2 cap2 len3 cap3 : Nat) (w : World)
    (HC1 : Hid (Came .u8 w.heap.size w a1 len1)) (HC2 : Hid (Came .u8 w.heap.size w a2 len2)) (HC3 : Hid (Came .u8 w.heap.size w a3 len3))
    (hl1 : len1 ≤ 9223372036854775807) (hl2 : len2 ≤ 9223372036854775807) (hl3 : len3 ≤ 9223372036854775807) :
    Calls Try.prog 4 #[.slice a1 len1 cap1, .slice a2 len2 cap2, .slice a3 len3 cap3] w fun e w' => e = .returned (.bool true) ∧ Below w.heap.size w w' := by
  obtain ⟨it, hi, hz0, hz1, hz2⟩ := info_parts infoInt
  obtain ⟨ib, hib, hb0, hb1, hb2⟩ := info_parts infoBool
  go_enter Try.func4, Try.ntmps4
  go_wp2_with (first
    | (go_at_call 8; refine (new_any _).mono ?_; rintro e w1 ⟨rfl, hc1⟩; have HN : Hid (Once w w1 (fun _ => noLS) 0 [] none 0 none 0 none 0) := Once.nil hc1; clear hc1)
    | fail)
  go_loopw [8, 9, 10, 11] (fun p8 p9 p10 i wr => ∃ k : Nat, k ≤ 100 ∧ i = .int .i64 k ∧ ∃ S n E a0 c0 a1 c1 a2 c2, n ≤ k ∧ p8 = .slice a0 n c0 ∧ p9 = .slice a1 n c1 ∧ p10 = .slice a2 n c2 ∧ Once w wr S n E a0 c0 a1 c1 a2 c2) (fun _ _ _ i _ => 100 - (intOf i).toNat)
  case atStart => exact ⟨0, by omega, rfl, _, _, _, _, _, _, _, _, _, Nat.le_refl _, rfl, rfl, rfl, HN.out⟩
  case round =>
    obtain ⟨k, hk, rfl, S, n, E, q0, p0, q1, p1, q2, p2, hnk, rfl, rfl, rfl, hI⟩ := hrel
    have HI : Hid (Once w wr S n E q0 p0 q1 p1 q2 p2) := hI
    clear hI HN
    by_cases hin : k < len1 ∧ k < len2 ∧ k < len3 ∧ k < 100
    · obtain ⟨h1, h2, h3, h5⟩ := hin
      obtain ⟨b1, o1, z1, rfl, HZ1, G1⟩ := HC1.out.at h1
      obtain ⟨b2, o2, z2, rfl, HZ2, G2⟩ := HC2.out.at h2
      obtain ⟨b3, o3, z3, rfl, HZ3, G3⟩ := HC3.out.at h3
      have i1 : (k : Int) < (len1 : Int) := by omega
      have i2 : (k : Int) < (len2 : Int) := by omega
      have i3 : (k : Int) < (len3 : Int) := by omega
      have i5 : (k : Int) < 100 := by omega
      have c1 := G1.out wr HI.out.own.below
      have c2 := G2.out wr HI.out.own.below
      have c3 := G3.out wr HI.out.own.below
      have hz2 := bounds_u8 HZ2.out
      have hz3 := bounds_u8 HZ3.out
      have hz20 := hz2.1
      have hz21 := hz2.2
      have hz30 := hz3.1
      have hz31 := hz3.2
      clear HZ1 HZ3 hz2 hz3
      obtain ⟨bb, hbb⟩ : ∃ bb : Bool, bb = ((z1.tmod 3 == 0) && decide (0 < n)) := ⟨_, rfl⟩
      have HBB : Hid (bb = ((z1.tmod 3 == 0) && decide (0 < n))) := hbb
      clear hbb
      go_upto_region 10 with fail
      go_cut [54] from 44 to 53 (fun v wc => v = .bool bb ∧ wc = wr)
      case first =>
        rcases hq : (z1.tmod 3 == 0) with _ | _
        · go_wp2_with fail
          go_meet
          exact ⟨by rw [HBB.out, hq]; rfl, rfl⟩
        · by_cases hn0 : 0 < n
          · have hn0i : (0 : Int) < (n : Int) := by omega
            go_wp2_with fail
            go_meet
            exact ⟨by rw [HBB.out, hq]; simp [hn0], rfl⟩
          · obtain rfl : n = 0 := by omega
            go_wp2_with fail
            go_meet
            exact ⟨by rw [HBB.out, hq]; simp, rfl⟩
      case rest =>
      obtain ⟨rfl, hwc⟩ := hcut
      subst wc
      go_upto_if 54 with fail
      go_cut [8, 9, 10, 12, 13, 14, 15, 16, 17] from 55 to 127 (fun p8 p9 p10 _ _ _ _ _ _ wc => ∃ S n E a0 c0 a1 c1 a2 c2, n ≤ k + 1 ∧ p8 = .slice a0 n c0 ∧ p9 = .slice a1 n c1 ∧ p10 = .slice a2 n c2 ∧ Once w wc S n E a0 c0 a1 c1 a2 c2)
      case first =>
        rcases bb with _ | _
        · rcases first_cases (may z3) S 64 with ⟨m, hm, hm1, hm0⟩ | hm0
          · obtain ⟨t1, t2, t3, t4⟩ := tk_hit hm hm1 hm0
            have HT : Hid (tkI 64 S z3 = m ∧ tkE 64 S z3 = (S m).ep ∧ tkR 64 S z3 = 0 ∧ tkS 64 S z3 = upd S m { S m with on := true }) := ⟨t1, t2, t3, t4⟩
            have HV : Hid (Inv (upd S m { S m with on := true }) (E ++ [⟨m, (S m).ep, false⟩])) := HI.out.inv.take hm hm1
            have HF : Hid (∀ e, e ∈ E → ¬ (e.x = m ∧ e.y = (S m).ep)) := fun e he => HI.out.inv.fresh hm1 he
            have HO : Hid (okA (upd S m { S m with on := true })) := by
              have := ok_tk HI.out.own.tbl.ok 64 z3
              rw [t4] at this
              exact this
            clear t1 t2 t3 t4 hm1 hm0
            have hmi : (m : Int) < 64 := by omega
            obtain ⟨y, hy⟩ : ∃ y, y = (S m).ep := ⟨_, rfl⟩
            rw [← hy] at HT HV HF
            obtain ⟨T, hTd⟩ : ∃ T, T = upd S m { S m with on := true } := ⟨_, rfl⟩
            rw [← hTd] at HT HV HO
            clear hTd hy
            go_wp2_with (first
              | (go_at_call 12; refine (take_any _ _ 64 S z3 _ (by omega) (by omega) HI.out.own.tbl).mono ?_; rintro e w2 ⟨rfl, hw2⟩; rw [HT.out.1, HT.out.2.1, HT.out.2.2.1]; rw [HT.out.2.2.2] at hw2; have H2 : Hid (Own w w2 T) := HI.out.own.did hw2 HO.out; have HL2 : Hid (L3 (w.heap.size + 2) w2 (.slice q0 n p0) (.slice q1 n p1) (.slice q2 n p2) (E.map En.x) (E.map En.y) (E.map En.d)) := HI.out.ls.on (fun b hb hlt => hw2.block hlt (by omega)); clear hw2)
              | fail)
            go_loopw [17] (fun i wx => ∃ j : Nat, j ≤ n ∧ i = .int .i64 j ∧ wx = w2) (fun i _ => n - (intOf i).toNat)
            case atStart => exact ⟨0, by omega, rfl, rfl⟩
            case round =>
              obtain ⟨j, hj, rfl, hwx⟩ := hrel
              subst hwx
              by_cases hjn : j < n
              · have hji : (j : Int) < (n : Int) := by omega
                have hj100 : (j : Int) < 100 := by omega
                obtain ⟨g0, g1, g2, rfl, rfl, rfl⟩ := HI.out.form (by omega)
                obtain ⟨e, he⟩ := HI.out.ent hjn
                obtain ⟨x0, x1, x2, x3⟩ := HL2.out.cells HI.out.len he
                have hfr := HF.out e (List.mem_of_getElem? he)
                clear x2 x3
                by_cases hx : e.x = m
                · have ex : (e.x == (m : Int)) = true := by simp [hx]
                  have ey : (e.y == y) = false := by
                    have : ¬ e.y = y := fun c => hfr ⟨hx, c⟩
                    simpa using this
                  clear hx hfr he
                  go_wp2_with fail
                  go_roundw
                  case rel => exact ⟨j + 1, by omega, by go_num, by first | rfl | trivial⟩
                  case measure => simp [intOf]; omega
                · have ex : (e.x == (m : Int)) = false := by simpa using hx
                  clear hx hfr he
                  go_wp2_with fail
                  go_roundw
                  case rel => exact ⟨j + 1, by omega, by go_num, by first | rfl | trivial⟩
                  case measure => simp [intOf]; omega
              · have hji : ¬ (j : Int) < (n : Int) := by omega
                have HLn : Hid (E.length = n) := HI.out.len
                have HX : Hid ((E.map En.x).length = n) := by rw [List.length_map]; exact HLn
                have HY : Hid ((E.map En.y).length = n) := by rw [List.length_map]; exact HLn
                have HDn : Hid ((E.map En.d).length = n) := by rw [List.length_map]; exact HLn
                have hs2 := H2.out.tbl.lt
                go_wp2_with (first
                  | (at_builtin; refine wpList_append_own_at _ rfl _ _ 23 rfl (w.heap.size + 2) 3 it _ 1 8 Try.underlying23 hi hz0 hz1 hz2 rfl (by decide) _ _ _ rfl ((row0 HL2.out HX.out).alloc _) _ 1 1 [.int .i64 m] rfl rfl (cell_one_new wr _ _) (by simp [Value.oneCell']) (by unfold maxLen; omega) (by omega) (by simp; omega) ?_; intro v1 w3 hown hgrow _ hat; have S3 := step0 H2.out HL2.out HX.out hown hgrow hat; obtain ⟨g3, f3, rfl⟩ := ownsRow_succ hown; have H3 : Hid (Own w w3 T) := S3.1; have HL3 : Hid (L3 (w.heap.size + 2) w3 (.slice (some ⟨g3, 0, none⟩) (n + 1) f3) (.slice q1 n p1) (.slice q2 n p2) (E.map En.x ++ [(m : Int)]) (E.map En.y) (E.map En.d)) := S3.2; have hs3 := H3.out.tbl.lt; clear hown hgrow hat S3 H2 HL2 hs2)
                  | (at_builtin; refine wpList_append_own_at _ rfl _ _ 23 rfl (w.heap.size + 2) 3 it _ 1 8 Try.underlying23 hi hz0 hz1 hz2 rfl (by decide) _ _ _ rfl ((row1 HL3.out HY.out).alloc _) _ 1 1 [.int .i64 y] rfl rfl (cell_one_new w3 _ _) (by simp [Value.oneCell']) (by unfold maxLen; omega) (by omega) (by simp; omega) ?_; intro v1 w4 hown hgrow _ hat; have S4 := step1 H3.out HL3.out HY.out hown hgrow hat; obtain ⟨g4, f4, rfl⟩ := ownsRow_succ hown; have H4 : Hid (Own w w4 T) := S4.1; have HL4 : Hid (L3 (w.heap.size + 2) w4 (.slice (some ⟨g3, 0, none⟩) (n + 1) f3) (.slice (some ⟨g4, 0, none⟩) (n + 1) f4) (.slice q2 n p2) (E.map En.x ++ [(m : Int)]) (E.map En.y ++ [y]) (E.map En.d)) := S4.2; have hs4 := H4.out.tbl.lt; clear hown hgrow hat S4 H3 HL3 hs3)
                  | (at_builtin; refine wpList_append_own_at _ rfl _ _ 39 rfl (w.heap.size + 2) 4 ib _ 1 1 Try.underlying39 hib hb0 hb1 hb2 rfl (by decide) _ _ _ rfl ((row2 HL4.out HDn.out).alloc _) _ 1 1 [.bool false] rfl rfl (cell_one_new w4 _ _) (by simp [Value.oneCell']) (by unfold maxLen; omega) (by omega) (by simp; omega) ?_; intro v1 w5 hown hgrow _ hat; have S5 := step2 H4.out HL4.out HDn.out hown hgrow; obtain ⟨g5, f5, rfl⟩ := ownsRow_succ hown; have H5 : Hid (Own w w5 T) := S5.1; have HL5 : Hid (L3 (w.heap.size + 2) w5 (.slice (some ⟨g3, 0, none⟩) (n + 1) f3) (.slice (some ⟨g4, 0, none⟩) (n + 1) f4) (.slice (some ⟨g5, 0, none⟩) (n + 1) f5) (E.map En.x ++ [(m : Int)]) (E.map En.y ++ [y]) (E.map En.d ++ [false])) := S5.2; clear hown hgrow hat S5 H4 HL4 hs4)
                  | fail)
                go_meet
                exact ⟨T, n + 1, E ++ [⟨m, y, false⟩], _, _, _, _, _, _, by omega, rfl, rfl, rfl, Once.full H5.out HLn.out HL5.out HV.out⟩
          · obtain ⟨t1, t2, t3, t4⟩ := tk_miss hm0
            have HT : Hid (tkI 64 S z3 = 0 ∧ tkE 64 S z3 = 0 ∧ tkR 64 S z3 = 2 ∧ tkS 64 S z3 = S) := ⟨t1, t2, t3, t4⟩
            clear t1 t2 t3 t4 hm0
            go_wp2_with (first
              | (go_at_call 12; refine (take_any _ _ 64 S z3 _ (by omega) (by omega) HI.out.own.tbl).mono ?_; rintro e w2 ⟨rfl, hw2⟩; rw [HT.out.1, HT.out.2.1, HT.out.2.2.1]; rw [HT.out.2.2.2] at hw2; have H2 : Hid (Once w w2 S n E q0 p0 q1 p1 q2 p2) := ⟨HI.out.own.did hw2 HI.out.own.tbl.ok, HI.out.len, HI.out.ls.on (fun b hb hlt => hw2.block hlt (by omega)), HI.out.inv⟩; clear hw2)
              | fail)
            go_meet
            exact ⟨S, n, E, _, _, _, _, _, _, by omega, rfl, rfl, rfl, H2.out⟩
        · have hn0 : 0 < n := by
            have := HBB.out
            simp at this
            exact this.2
          have hn0i : (0 : Int) < (n : Int) := by omega
          have hn1 : ((n : Int) == 0) = false := by simp; omega
          obtain ⟨r2, hr2, hlt2⟩ := rem_u8 HZ2.out n hn0
          have hr2i : (r2 : Int) < (n : Int) := by omega
          have hn100 : (n : Int) ≤ 100 := by omega
          obtain ⟨g0, g1, g2, rfl, rfl, rfl⟩ := HI.out.form hn0
          obtain ⟨e, he⟩ := HI.out.ent hlt2
          obtain ⟨x0, x1, x2, x3⟩ := HI.out.cells he
          have HE : Hid (E[r2]? = some e) := he
          have HK := (HI.out.inv.kill he (k : Int)).1
          clear x2 x3 he
          rcases hd : e.d with _ | _
          · rw [hd] at HK
            have HK' : Hid (klR 64 S e.x e.y = 0) := HK
            have HDd : Hid (e.d = false) := hd
            clear HK hd
            go_wp2
            go_region_held3 (fun w' => w'.cell? ⟨g0, r2, none⟩ = some (.int .i64 e.x) ∧ w'.cell? ⟨g1, r2, none⟩ = some (.int .i64 e.y)) (first | exact ⟨by assumption, by assumption⟩ | go_keep)
            (first
              | (go_at_call 10; refine (kill_any _ _ 64 S e.x e.y (k : Int) _ (by omega) (by omega) HI.out.own.drew.tbl).mono ?_; rintro e1 w3 ⟨rfl, hw3⟩; rw [HK'.out]; obtain ⟨y2, y3, yB, yO⟩ := HI.out.drew.killed HE.out hw3; rw [HDd.out] at y2; have H3 : Hid (Once w (w3.setCell ⟨g2, r2, none⟩ (.bool true)) (klS 64 S e.x e.y (k : Int)) n (E.set r2 ⟨e.x, e.y, true⟩) (some ⟨g0, 0, none⟩) p0 (some ⟨g1, 0, none⟩) p1 (some ⟨g2, 0, none⟩) p2) := yO; obtain ⟨v0, v1⟩ := once_kept HI.out.drew HE.out hw3; clear hw3 yO yB x0 x1)
              | fail)
            go_wp2_with fail
            go_meet
            exact ⟨_, n, _, _, _, _, _, _, _, by omega, rfl, rfl, rfl, H3.out⟩
          · rw [hd] at HK
            have HK' : Hid (klR 64 S e.x e.y = 7) := HK
            have HDd : Hid (e.d = true) := hd
            clear HK hd
            go_wp2
            go_region_held3 (fun w' => w'.cell? ⟨g0, r2, none⟩ = some (.int .i64 e.x) ∧ w'.cell? ⟨g1, r2, none⟩ = some (.int .i64 e.y)) (first | exact ⟨by assumption, by assumption⟩ | go_keep)
            (first
              | (go_at_call 10; refine (kill_any _ _ 64 S e.x e.y (k : Int) _ (by omega) (by omega) HI.out.own.drew.tbl).mono ?_; rintro e1 w3 ⟨rfl, hw3⟩; rw [HK'.out]; obtain ⟨y2, y3, yB, yO⟩ := HI.out.drew.killed HE.out hw3; rw [HDd.out] at y2; have H3 : Hid (Once w (w3.setCell ⟨g2, r2, none⟩ (.bool true)) (klS 64 S e.x e.y (k : Int)) n (E.set r2 ⟨e.x, e.y, true⟩) (some ⟨g0, 0, none⟩) p0 (some ⟨g1, 0, none⟩) p1 (some ⟨g2, 0, none⟩) p2) := yO; obtain ⟨v0, v1⟩ := once_kept HI.out.drew HE.out hw3; clear hw3 yO yB x0 x1)
              | fail)
            go_wp2_with fail
            go_meet
            exact ⟨_, n, _, _, _, _, _, _, _, by omega, rfl, rfl, rfl, H3.out⟩
      case rest =>
        obtain ⟨T, m, F, q0, p0, q1, p1, q2, p2, hmk, rfl, rfl, rfl, hI2⟩ := hcut
        have HJ : Hid (Once w wc T m F q0 p0 q1 p1 q2 p2) := hI2
        clear hI2 HI c1 c2 c3 hnk HBB
        go_wp2
        go_loopw [18] (fun i wx => ∃ j : Nat, j ≤ m ∧ i = .int .i64 j ∧ Once w wx T m F q0 p0 q1 p1 q2 p2) (fun i _ => m - (intOf i).toNat)
        case atStart => exact ⟨0, by omega, rfl, HJ.out⟩
        case round =>
          obtain ⟨j, hj, rfl, hI2⟩ := hrel
          have HI : Hid (Once w wr T m F q0 p0 q1 p1 q2 p2) := hI2
          clear hI2 HJ
          by_cases hjn : j < m
          · have hji : (j : Int) < (m : Int) := by omega
            have hj100 : (j : Int) < 101 := by omega
            obtain ⟨g0, g1, g2, rfl, rfl, rfl⟩ := HI.out.form (by omega)
            obtain ⟨e, he⟩ := HI.out.ent hjn
            obtain ⟨x0, x1, x2, x3⟩ := HI.out.cells he
            have HE : Hid (F[j]? = some e) := he
            have hv := HI.out.inv.valid (List.mem_of_getElem? he)
            clear x3 he
            rcases hd : e.d with _ | _
            · rw [hd] at hv x2
              have HV : Hid (vaA 64 T e.x e.y = true) := hv
              have HDd : Hid (e.d = false) := hd
              clear hv hd
              go_wp2
              go_region_held3 (fun w' => w'.cell? ⟨g0, j, none⟩ = some (.int .i64 e.x) ∧ w'.cell? ⟨g1, j, none⟩ = some (.int .i64 e.y) ∧ w'.cell? ⟨g2, j, none⟩ = some (.bool false)) (first | exact ⟨by assumption, by assumption, by assumption⟩ | go_keep)
              (first
                | (go_at_call 14; refine (valid_any _ _ 64 T e.x e.y _ (by omega) (by omega) HI.out.own.drew.tbl).mono ?_; rintro e1 w5 ⟨rfl, hw5⟩; rw [HV.out]; have H5 : Hid (Once w w5 T m F (some ⟨g0, 0, none⟩) p0 (some ⟨g1, 0, none⟩) p1 (some ⟨g2, 0, none⟩) p2) := HI.out.drew.more hw5; clear hw5 x0 x1 x2; obtain ⟨x0, x1, x2, x3⟩ := H5.out.cells HE.out; rw [HDd.out] at x2; clear x3)
                | fail)
              go_wp2_with fail
              go_roundw
              case rel => exact ⟨j + 1, by omega, by go_num, H5.out⟩
              case measure => simp [intOf]; omega
            · rw [hd] at hv x2
              have HV : Hid (vaA 64 T e.x e.y = false) := hv
              have HDd : Hid (e.d = true) := hd
              clear hv hd
              go_wp2
              go_region_held3 (fun w' => w'.cell? ⟨g0, j, none⟩ = some (.int .i64 e.x) ∧ w'.cell? ⟨g1, j, none⟩ = some (.int .i64 e.y) ∧ w'.cell? ⟨g2, j, none⟩ = some (.bool true)) (first | exact ⟨by assumption, by assumption, by assumption⟩ | go_keep)
              (first
                | (go_at_call 14; refine (valid_any _ _ 64 T e.x e.y _ (by omega) (by omega) HI.out.own.drew.tbl).mono ?_; rintro e1 w5 ⟨rfl, hw5⟩; rw [HV.out]; have H5 : Hid (Once w w5 T m F (some ⟨g0, 0, none⟩) p0 (some ⟨g1, 0, none⟩) p1 (some ⟨g2, 0, none⟩) p2) := HI.out.drew.more hw5; clear hw5 x0 x1 x2; obtain ⟨x0, x1, x2, x3⟩ := H5.out.cells HE.out; rw [HDd.out] at x2; clear x3)
                | fail)
              go_wp2_with fail
              go_roundw
              case rel => exact ⟨j + 1, by omega, by go_num, H5.out⟩
              case measure => simp [intOf]; omega
          · have hji : ¬ (j : Int) < (m : Int) := by omega
            go_wp2_with fail
            go_roundw
            case rel => exact ⟨k + 1, by omega, by go_num, T, m, F, _, _, _, _, _, _, hmk, rfl, rfl, rfl, HI.out⟩
            case measure => simp [intOf]; omega
    · have hout : ¬ k < len1 ∨ (k < len1 ∧ ¬ k < len2) ∨ (k < len1 ∧ k < len2 ∧ ¬ k < len3) ∨ (k < len1 ∧ k < len2 ∧ k < len3 ∧ ¬ k < 100) := by omega
      clear hin
      rcases hout with h1 | ⟨h1, h2⟩ | ⟨h1, h2, h3⟩ | ⟨h1, h2, h3, h4⟩
      all_goals
        go_wp2_with (go_at_call 18; refine (awake_any _).mono ?_; rintro e w9 ⟨rfl, h9⟩; have H9 : Hid (Below w.heap.size w w9) := HI.out.own.below.trans (h9.mono HI.out.own.below.size); clear h9)
        go_ret
        exact ⟨rfl, H9.out⟩

theorem walk (a0 : Option Addr) (len0 cap0 : Nat) (a1 : Option Addr) (len1 cap1 : Nat) (a2 : Option Addr) (len2 cap2 : Nat) (w : World) (w0 : Hid (Came .u8 w.heap.size w a0 len0)) (l0 : len0 ≤ 9223372036854775807) (w1 : Hid (Came .u8 w.heap.size w a1 len1)) (l1 : len1 ≤ 9223372036854775807) (w2 : Hid (Came .u8 w.heap.size w a2 len2)) (l2 : len2 ≤ 9223372036854775807) :
    Calls Try.prog 4 #[.slice a0 len0 cap0, .slice a1 len1 cap1, .slice a2 len2 cap2] w fun e w' => e = .returned (.bool true) ∧ Below w.heap.size w w' := by
  exact walk_all a0 a1 a2 len0 cap0 len1 cap1 len2 cap2 w w0 w1 w2 l0 l1 l2

/-! ### The statement's frame -/
set_option maxRecDepth 100000 in
theorem lifted (os : Os) (started : os.Started) (H : Type) (enc : TypeId × Value → H) :
    ReturnsInHanded {} Try.checked os 4 .any (Rows.liveOnceSpec.pre6 enc Try.prog Try.f4 Rows.liveOnceRow.domain false) (Rows.liveOnceSpec.post enc Try.prog Try.f4 false true false false) := by
  refine returnsInHanded_of_change (C := Try.checked) own started (by kernel_rfl) Try.func4
    (ChangeSpec.witness6 (enc := enc) (C := Try.checked) false ⟨#[], #[.slice none 0 0, .slice none 0 0, .slice none 0 0], []⟩ 8 (by kernel_rfl) (by kernel_rfl) (by kernel_rfl) (by kernel_rfl)) ?_
  intro W base args ds gs before hval0 hW hcnd _
  have hval : ∀ (j : Nat) t v, Try.f4.params[j]? = some t → args[j]? = some v → Value.okWide Try.prog W .any base t v := hval0
  have hW' := hW
  obtain ⟨p, q, hA0, hV, rfl, hfz, hnd⟩ := hW
  have hA : DataW.TrodAll enc Try.prog W 0 (fun _ => true) true Try.f4.params.toList args.toList ds p := hA0
  rw [Try.params4] at hA hval
  obtain ⟨v0, vs0, d0, ds0, p0, q0, hargs, rfl, rfl, h0, r0⟩ := trodAll_cons hA
  obtain ⟨v1, vs1, d1, ds1, p1, q1, rfl, rfl, rfl, h1, r1⟩ := trodAll_cons r0
  obtain ⟨v2, vs2, d2, ds2, p2, q2, rfl, rfl, rfl, h2, r2⟩ := trodAll_cons r1
  obtain ⟨rfl, rfl, rfl⟩ := trodAll_nil r2
  obtain rfl : args = #[v0, v1, v2] := by cases args; simp_all
  obtain ⟨rfl, rfl⟩ := trodVars_none hV
  obtain ⟨a0, len0, cap0, rfl⟩ := okWide_slice Try.underlying22 (hval 0 22 v0 rfl rfl)
  have k0 := h0
  have lt0 : ∀ x ∈ p0, x.block < W.heap.size := by obtain ⟨m, hm⟩ := k0; exact DataW.trod_lt m _ _ _ hm
  have w0 : Came .u8 W.heap.size W a0 len0 ∧ len0 ≤ 9223372036854775807 := by
    obtain ⟨fuel, hf⟩ := h0
    rcases open_ints Try.underlying22 Try.underlying5 (by kernel_rfl) hf with ⟨hcs, _⟩ | ⟨x, l, c, zs, hcs, _, hl, hm, hz, _, hcell, hwz⟩
    · simp [Value.cells] at hcs
      obtain ⟨rfl, rfl, rfl⟩ := hcs
      exact came_of_row (zs := []) (.inl ⟨rfl, rfl, rfl, rfl⟩)
    · simp [Value.cells] at hcs
      obtain ⟨rfl, rfl, rfl⟩ := hcs
      exact came_of_row (.inr ⟨_, rfl, hl, hm, by simpa using hz, hcell, hwz⟩)
  obtain ⟨a1, len1, cap1, rfl⟩ := okWide_slice Try.underlying22 (hval 1 22 v1 rfl rfl)
  have k1 := h1
  have lt1 : ∀ x ∈ p1, x.block < W.heap.size := by obtain ⟨m, hm⟩ := k1; exact DataW.trod_lt m _ _ _ hm
  have w1 : Came .u8 W.heap.size W a1 len1 ∧ len1 ≤ 9223372036854775807 := by
    obtain ⟨fuel, hf⟩ := h1
    rcases open_ints Try.underlying22 Try.underlying5 (by kernel_rfl) hf with ⟨hcs, _⟩ | ⟨x, l, c, zs, hcs, _, hl, hm, hz, _, hcell, hwz⟩
    · simp [Value.cells] at hcs
      obtain ⟨rfl, rfl, rfl⟩ := hcs
      exact came_of_row (zs := []) (.inl ⟨rfl, rfl, rfl, rfl⟩)
    · simp [Value.cells] at hcs
      obtain ⟨rfl, rfl, rfl⟩ := hcs
      exact came_of_row (.inr ⟨_, rfl, hl, hm, by simpa using hz, hcell, hwz⟩)
  obtain ⟨a2, len2, cap2, rfl⟩ := okWide_slice Try.underlying22 (hval 2 22 v2 rfl rfl)
  have k2 := h2
  have lt2 : ∀ x ∈ p2, x.block < W.heap.size := by obtain ⟨m, hm⟩ := k2; exact DataW.trod_lt m _ _ _ hm
  have w2 : Came .u8 W.heap.size W a2 len2 ∧ len2 ≤ 9223372036854775807 := by
    obtain ⟨fuel, hf⟩ := h2
    rcases open_ints Try.underlying22 Try.underlying5 (by kernel_rfl) hf with ⟨hcs, _⟩ | ⟨x, l, c, zs, hcs, _, hl, hm, hz, _, hcell, hwz⟩
    · simp [Value.cells] at hcs
      obtain ⟨rfl, rfl, rfl⟩ := hcs
      exact came_of_row (zs := []) (.inl ⟨rfl, rfl, rfl, rfl⟩)
    · simp [Value.cells] at hcs
      obtain ⟨rfl, rfl, rfl⟩ := hcs
      exact came_of_row (.inr ⟨_, rfl, hl, hm, by simpa using hz, hcell, hwz⟩)
  clear hA0 hval0
  refine (walk a0 len0 cap0 a1 len1 cap1 a2 len2 cap2 W w0.1 w0.2 w1.1 w1.2 w2.1 w2.2).mono fun e W' ⟨he, bel⟩ => ?_
  subst he
  exact ⟨_, rfl, _, _, _, [], _, [], hW', trodAll_mk1 (shut_bool Try.underlying4 _), (trodAll_cons_mk (Below.trod laidOut (by kernel_rfl) (of_decide_eq_true (by kernel_rfl)) k0 bel lt0) (trodAll_cons_mk (Below.trod laidOut (by kernel_rfl) (of_decide_eq_true (by kernel_rfl)) k1 bel lt1) (trodAll_cons_mk (Below.trod laidOut (by kernel_rfl) (of_decide_eq_true (by kernel_rfl)) k2 bel lt2) trodAll_mk0))), rfl, bel.frame _, fun h => by cases h⟩

theorem over : Rows.liveOnceRow.holds Try.pinned (OpenSpec.ofChange Rows.liveOnceSpec) :=
  OpenClaim.holds_of_wide 4 Try.f4 rfl rfl rfl rfl rfl rfl rfl ⟨rfl, rfl, rfl, rfl, rfl⟩ rfl rfl rfl rfl rfl (by kernel_rfl) Try.func4 (by kernel_rfl)
    (of_decide_eq_true (by kernel_rfl)) (by unfold Func.isWrapper; first | (rw [if_pos (by decide +kernel)]; kernel_rfl) | (rw [if_neg (by decide +kernel)]; exact ⟨rfl, rfl⟩))
    (fun os started H enc _ => lifted os started H enc)

theorem proved : Rows.LiveOnceSaid := over
end Go.Proofs.Ytppbldhahddopaa.liveOnce
namespace Go.Proofs.Ytppbldhahddopaa
theorem liveOnce_holds : Rows.LiveOnceSaid := liveOnce.proved
#print axioms liveOnce_holds
end Go.Proofs.Ytppbldhahddopaa
