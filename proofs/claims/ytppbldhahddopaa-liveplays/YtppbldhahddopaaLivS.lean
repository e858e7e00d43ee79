/- The document's table: its Take and Kill, for every argument. -/
import Derived.Test.YtppbldhahddopaaLivR
import Derived.OwnWalk
namespace Go.Proofs.Ytppbldhahddopaa
open Go.RowKit
set_option linter.unusedVariables false

/-! ### Kill -/
theorem rkill_bad (q r c N : Nat) (id ep now : Int) (w : World) (hf : ¬ (0 ≤ id ∧ id < N)) (hN : N ≤ 64) (hp : w.cell? ⟨q, 0, none⟩ = some (.slice (some ⟨r, 0, none⟩) N c)) :
    Calls Try.prog 11 #[.pointer (some ⟨q, 0, none⟩), .int .i64 id, .int .i64 ep, .int .i64 now] w fun e w' => e = .returned (.int .i64 1) ∧ w' = w := by
  by_cases h0 : id < 0
  · clear hf
    go_enter Try.func11, Try.ntmps11
    go_wp2
    go_ret
    exact ⟨rfl, rfl⟩
  · have h1 : (N : Int) ≤ id := by omega
    clear hf
    go_enter Try.func11, Try.ntmps11
    go_wp2
    go_ret
    exact ⟨rfl, rfl⟩
theorem rkill_any (base q N : Nat) (S : Nat → LS) (id ep now : Int) (w : World) (hN : N ≤ 64) (hR : RefIs w base q N S) :
    Calls Try.prog 11 #[.pointer (some ⟨q, 0, none⟩), .int .i64 id, .int .i64 ep, .int .i64 now] w fun e w' => e = .returned (.int .i64 (klR N S id ep)) ∧ RefIs w' base q N (klS N S id ep now) ∧ Below base w w' := by
  have hR0 := hR
  obtain ⟨r, c, h⟩ := hR0
  rcases hk : okF N id with _ | _
  · rw [(kl_bad (now := now) hk).1, (kl_bad (e := ep) (now := now) hk).2]
    exact (rkill_bad q r c N id ep now w (okF_no hk) hN h.cell).mono fun _ _ ⟨h1, h2⟩ => ⟨h1, by rw [h2]; exact hR, by rw [h2]; exact Below.refl _ _⟩
  · obtain ⟨n, rfl, hn⟩ := okF_split hk
    have hni : (n : Int) < (N : Int) := by omega
    have HA : Hid (RefAt w base q N S r c) := h
    have HR : Hid (RefIs w base q N S) := hR
    have d0 := h.cell
    clear h hR
    have HO := HA.out.ok
    rcases hl : inE ep (S n) with _ | _
    · rw [(kl_no (now := now) hk hl).1, (kl_no (now := now) hk hl).2]
      have hv : vaA N S n ep = false := by simp [vaA, hk, hl]
      have HV : Hid (vaA N S n ep = false) := hv
      clear hv hl hk HO
      go_enter Try.func11, Try.ntmps11
      go_wp2_with (first
        | (go_at_call 15; refine (rvalid_any base q N S n ep _ hN HR.out).mono ?_; rintro e w1 ⟨rfl, hw1⟩; subst w1; rw [HV.out])
        | fail)
      go_ret
      exact ⟨rfl, HR.out, Below.refl _ _⟩
    · obtain ⟨k1, k2⟩ := kl_yes (now := now) hk hl
      have HT : Hid (okA (upd S n ⟨false, ep + 1, now⟩)) := by
        have := ok_kl HO N n ep now
        rw [k2] at this
        exact this
      rw [k1, k2]
      have hv : vaA N S n ep = true := by simp [vaA, hk, hl]
      have HV : Hid (vaA N S n ep = true) := hv
      obtain ⟨l1, l2⟩ := inE_yes hl
      obtain ⟨o1, o2, o3⟩ := HO n
      have o3 := o3 l1
      rw [l2] at o1 o3
      have HE : Hid (0 ≤ ep) := o1
      have z0 := ListV.free HA.out.list (n * 4)
      have z1 := ListV.free HA.out.list (n * 4 + 1)
      have z2 := ListV.free HA.out.list (n * 4 + 2)
      have z3 := ListV.free HA.out.list (n * 4 + 3)
      obtain ⟨c0, c1, c2, c3⟩ := HA.out.list.at hn
      clear hv hl hk k1 k2 l1 l2 HO o2
      go_enter Try.func11, Try.ntmps11
      go_wp2_with (first
        | (go_at_call 15; refine (rvalid_any base q N S n ep _ hN HR.out).mono ?_; rintro e w1 ⟨rfl, hw1⟩; subst w1; rw [HV.out])
        | fail)
      go_ret
      refine ⟨rfl, ⟨r, c, HA.out.wrote ?_ (HA.out.list.kill hn ep now HE.out) HT.out⟩, ?_⟩
      · exact (Below.heap_setCell _ _ _ _ HA.out.ne).trans ((Below.heap_setCell _ _ _ _ HA.out.ne).trans ((Below.heap_setCell _ _ _ _ HA.out.ne).trans (Below.heap_setCell _ _ _ _ HA.out.ne)))
      · exact ((((Below.refl _ _).setCell (p := ⟨r, n * 4, none⟩) HA.out.ger _).setCell (p := ⟨r, n * 4 + 1, none⟩) HA.out.ger _).setCell (p := ⟨r, n * 4 + 2, none⟩) HA.out.ger _).setCell (p := ⟨r, n * 4 + 3, none⟩) HA.out.ger _

/-! ### Take -/
theorem rtake_any (base q N : Nat) (S : Nat → LS) (fl : Int) (w : World) (hN : N ≤ 64) (hb : base ≤ w.heap.size) (hR : RefIs w base q N S) :
    Calls Try.prog 13 #[.pointer (some ⟨q, 0, none⟩), .int .i64 fl] w fun e w' => e = .returned (.tuple #[.int .i64 (tkI N S fl), .int .i64 (tkE N S fl), .int .i64 (tkR N S fl)]) ∧ RefIs w' base q N (tkS N S fl) ∧ Below base w w' := by
  obtain ⟨r, c, h⟩ := hR
  have HA : Hid (RefAt w base q N S r c) := h
  have d0 := h.cell
  clear h
  have HB : Hid (base ≤ w.heap.size) := hb
  clear hb
  go_enter Try.func13, Try.ntmps13
  go_wp2
  go_loopw [7] (fun i wr => ∃ k : Nat, k ≤ N ∧ i = .int .i64 k ∧ Below w.heap.size w wr ∧ ∀ j, j < k → may fl (S j) = false) (fun i _ => N - (intOf i).toNat)
  case atStart => exact ⟨0, by omega, rfl, Below.refl _ _, fun j hj => by omega⟩
  case round =>
    obtain ⟨k, hk, rfl, hBl, hno⟩ := hrel
    have HBl : Hid (Below w.heap.size w wr) := hBl
    have HNo : Hid (∀ j, j < k → may fl (S j) = false) := hno
    have H1 : Hid (RefAt wr base q N S r c) := HA.out.more hBl
    have HB1 : Hid (Below base w wr) := hBl.mono HB.out
    clear hBl hno d0
    have d0 := H1.out.cell
    by_cases hlt : k < N
    · have hki : (k : Int) < (N : Int) := by omega
      obtain ⟨c0, c1, c2, c3⟩ := H1.out.list.at hlt
      have z0 := ListV.free H1.out.list (k * 4)
      have hr := ListV.lt H1.out.list
      have hq := H1.out.lt
      have d0' : ∀ o, (wr.alloc o).cell? ⟨q, 0, none⟩ = some (.slice (some ⟨r, 0, none⟩) N c) := fun o => (((Below.refl _ wr).alloc (Nat.le_refl _) o).cell (p := ⟨q, 0, none⟩) hq).trans d0
      rcases ho : (S k).on with _ | _
      · rw [ho] at c0
        by_cases h1 : (S k).ep < 65535
        · by_cases h2 : 0 < (S k).ep
          · have e2 : decide (0 < (S k).ep) = true := by simp [h2]
            rw [e2] at c2
            by_cases h3 : (S k).tm < fl
            · have hmay : may fl (S k) = true := by simp [may, ho, h1, h2, h3]
              go_wp2
              obtain ⟨w3, hw3⟩ : ∃ w3, w3 = (wr.setCell ⟨r, k * 4, none⟩ (.bool true)).alloc (.cells #[.bool false, .int .i64 (S k).ep, .bool true, .int .i64 (S k).tm] 50) := ⟨_, rfl⟩
              have c1' : w3.cell? ⟨wr.heap.size, 1, none⟩ = some (.int .i64 (S k).ep) := by
                rw [hw3]
                have e : (wr.setCell ⟨r, k * 4, none⟩ (.bool true)).heap.size = wr.heap.size := World.size_setCell ..
                rw [← e]
                exact (World.cell?_alloc_new _ _ _ _).trans rfl
              have HT : Hid (okA (upd S k { S k with on := true })) := by
                have := ok_tk H1.out.ok N fl
                rw [(tk_hit hlt hmay HNo.out).2.2.2] at this
                exact this
              have HW : Hid (RefIs w3 base q N (upd S k { S k with on := true }) ∧ Below base w w3) := by
                rw [hw3]
                exact ⟨⟨r, c, (H1.out.wrote (Below.heap_setCell _ _ _ _ H1.out.ne) (H1.out.list.take hlt) HT.out).more ((Below.refl _ _).alloc (Nat.le_refl _) _)⟩, (HB1.out.setCell (p := ⟨r, k * 4, none⟩) H1.out.ger _).alloc (by rw [World.size_setCell]; exact Nat.le_trans HB.out HB1.out.size) _⟩
              rw [← hw3]
              have HM : Hid (may fl (S k) = true) := hmay
              clear hw3 c0 c1 c2 c3 z0 d0 d0' hmay
              go_quiet (fail)
              go_wp2
              go_ret3
              obtain ⟨q1, q2, q3, q4⟩ := tk_hit hlt HM.out HNo.out
              rw [q1, q2, q3, q4]
              exact ⟨rfl, HW.out.1.drewN _, below_drewN HW.out.2 _⟩
            · have hmay : may fl (S k) = false := by simp [may, ho, h1, h2, h3]
              go_wp2
              go_roundw
              case rel =>
                refine ⟨k + 1, by omega, by go_num, HBl.out.alloc HBl.out.size _, fun j hj => ?_⟩
                by_cases e : j = k
                · subst e; exact hmay
                · exact HNo.out j (by omega)
              case measure => simp [intOf]; omega
          · have e2 : decide (0 < (S k).ep) = false := by simp [h2]
            rw [e2] at c2
            have hmay : may fl (S k) = true := by simp [may, ho, h1, h2]
            go_wp2
            obtain ⟨w3, hw3⟩ : ∃ w3, w3 = (wr.setCell ⟨r, k * 4, none⟩ (.bool true)).alloc (.cells #[.bool false, .int .i64 (S k).ep, .bool false, .int .i64 (S k).tm] 50) := ⟨_, rfl⟩
            have c1' : w3.cell? ⟨wr.heap.size, 1, none⟩ = some (.int .i64 (S k).ep) := by
              rw [hw3]
              have e : (wr.setCell ⟨r, k * 4, none⟩ (.bool true)).heap.size = wr.heap.size := World.size_setCell ..
              rw [← e]
              exact (World.cell?_alloc_new _ _ _ _).trans rfl
            have HT : Hid (okA (upd S k { S k with on := true })) := by
              have := ok_tk H1.out.ok N fl
              rw [(tk_hit hlt hmay HNo.out).2.2.2] at this
              exact this
            have HW : Hid (RefIs w3 base q N (upd S k { S k with on := true }) ∧ Below base w w3) := by
              rw [hw3]
              exact ⟨⟨r, c, (H1.out.wrote (Below.heap_setCell _ _ _ _ H1.out.ne) (H1.out.list.take hlt) HT.out).more ((Below.refl _ _).alloc (Nat.le_refl _) _)⟩, (HB1.out.setCell (p := ⟨r, k * 4, none⟩) H1.out.ger _).alloc (by rw [World.size_setCell]; exact Nat.le_trans HB.out HB1.out.size) _⟩
            rw [← hw3]
            have HM : Hid (may fl (S k) = true) := hmay
            clear hw3 c0 c1 c2 c3 z0 d0 d0' hmay
            go_quiet (fail)
            go_wp2
            go_ret3
            obtain ⟨q1, q2, q3, q4⟩ := tk_hit hlt HM.out HNo.out
            rw [q1, q2, q3, q4]
            exact ⟨rfl, HW.out.1.drewN _, below_drewN HW.out.2 _⟩
        · have hmay : may fl (S k) = false := by simp [may, h1]
          go_wp2
          go_roundw
          case rel =>
            refine ⟨k + 1, by omega, by go_num, HBl.out.alloc HBl.out.size _, fun j hj => ?_⟩
            by_cases e : j = k
            · subst e; exact hmay
            · exact HNo.out j (by omega)
          case measure => simp [intOf]; omega
      · rw [ho] at c0
        have hmay : may fl (S k) = false := by simp [may, ho]
        go_wp2
        go_roundw
        case rel =>
          refine ⟨k + 1, by omega, by go_num, HBl.out.alloc HBl.out.size _, fun j hj => ?_⟩
          by_cases e : j = k
          · subst e; exact hmay
          · exact HNo.out j (by omega)
        case measure => simp [intOf]; omega
    · obtain rfl : k = N := by omega
      obtain ⟨q1, q2, q3, q4⟩ := tk_miss HNo.out
      go_wp2
      go_ret3
      rw [q1, q2, q3, q4]
      exact ⟨rfl, ⟨r, c, H1.out⟩, HB1.out⟩

end Go.Proofs.Ytppbldhahddopaa
