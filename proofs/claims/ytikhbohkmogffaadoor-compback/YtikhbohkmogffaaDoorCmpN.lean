/- The tables out of the rows' condition; CompBack. -/
import Derived.Test.YtikhbohkmogffaaDoorCmpU
import Derived.Test.YtikhbohkmogffaaDoorCmpM
namespace Go.Proofs.YtikhbohkmogffaaDoor.Pcomp
open Go.Proofs.YtikhbohkmogffaaDoor.Pbase Go.Proofs.YtikhbohkmogffaaDoor.Pfield Go.Proofs.YtikhbohkmogffaaDoor.Pmem
open Go.RowKit M
set_option linter.unusedVariables false

theorem back_walk (c d : Cp) (tt wh : Int) (w : World) (hc : Fi c) (hd : Fi d) (hT : Tc w) :
    Calls Tryd.prog 4 #[.agg #[.int .i64 c.tb, .int .i64 c.pg, .int .i64 c.l, .int .i64 c.e, .int .i64 c.fa, .int .i64 c.wh], .agg #[.int .i64 d.tb, .int .i64 d.pg, .int .i64 d.l, .int .i64 d.e, .int .i64 d.fa, .int .i64 d.wh], .int .i64 tt, .int .i64 wh] w fun e w' => e = .returned (.bool true) ∧ Below w.heap.size w w' := by
  by_cases hco : Co c
  case neg => exact back_no c d tt wh w hc hT hco
  obtain ⟨M1, h1⟩ : ∃ M1, M1 = mkM 1 (fun _ _ => 0) 0 c := ⟨_, rfl⟩
  obtain ⟨M2, h2⟩ : ∃ M2, M2 = haM 1 M1 0 tt wh := ⟨_, rfl⟩
  obtain ⟨M3, h3⟩ : ∃ M3, M3 = puM 1 M2 0 d := ⟨_, rfl⟩
  obtain ⟨b1, b2, b3, b4, b5, b6, b7, b8, b9⟩ := back_all (d := d) (tt := tt) (wh := wh) hco h1 h2 h3
  refine back_yes c d (gtC 1 M3 0) tt wh (if haB tt wh = true then 0 else 1) (if haB tt wh = true then tt + 1 else c.fa) (if haB tt wh = true then wh else c.wh) (ckE d) M1 M2 M3 w hT (tst_any tt wh) (fun h => ?_) ?_ (fun wc p b h => ?_) (fun wc p b h => ?_) (fun wc p b h => ?_) (fun wc p b h => ?_) (fun wc p b h => ?_) (fun wc p b h => ?_) (fun wc h => check_any d hd wc h)
  · by_cases hb : haB tt wh = true
    · rw [if_pos hb, if_pos hb]
      exact ⟨rfl, rfl⟩
    · rw [if_neg hb] at h
      cases h
  · by_cases h0 : ckE d = 0
    · exact .inl ⟨h0, (b9 h0).symm⟩
    · right
      unfold ckE at h0 ⊢
      split at h0
      · exact absurd rfl h0
      · rename_i hn
        rw [if_neg hn]
  · have := make_any p b 1 0 c _ wc h hc
    rwa [b1, ← h1] at this
  · have := get_any p b 1 0 _ wc h
    rwa [b2, b3] at this
  · have := hand_any p b 1 0 tt wh _ wc h
    rwa [b4, ← h2] at this
  · have := get_any p b 1 0 _ wc h
    rw [b5, b6] at this
    by_cases hb : haB tt wh = true
    · rw [if_pos hb] at this
      rw [if_pos hb, if_pos hb]
      exact this
    · rw [if_neg hb] at this
      rw [if_neg hb, if_neg hb]
      exact this
  · have := put_any p b 1 0 d _ wc h hd
    rwa [b7, ← h3] at this
  · have := get_any p b 1 0 _ wc h
    rwa [b8] at this
end Go.Proofs.YtikhbohkmogffaaDoor.Pcomp
