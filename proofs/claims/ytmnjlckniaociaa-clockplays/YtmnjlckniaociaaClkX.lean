/- A clock and the document's side by side; and the one region of the statement ClockPlays that holds what is told of a core against the document's lists (63 operations that draw their order, four calls of which three make memory): a declaration of its own. -/
import Derived.Test.YtmnjlckniaociaaClkS
import Derived.Test.YtmnjlckniaociaaClkV
import Derived.Test.YtmnjlckniaociaaClkJ
import Derived.Test.YtmnjlckniaociaaClkI
import Derived.Deep.RegionHeld3
namespace Go.Proofs.Ytmnjlckniaociaa
open Go.RowKit
set_option linter.unusedVariables false

/-- A clock and the document's, side by side, say the same. -/
structure Both (w wr : World) (N q : Nat) (s : CS) : Prop where
  clock : ClockIs wr w.heap.size N s
  ref : RefIs wr q q N s
  below : Below w.heap.size w wr
  lt : w.heap.size < q
theorem Both.more {w wr w' : World} {N q : Nat} {s : CS} (h : Both w wr N q s) (m : More wr w') : Both w w' N q s := ⟨h.clock.more m, h.ref.more m, h.below.trans (m.below.mono h.below.size), h.lt⟩
theorem Both.drewN {w wr : World} {N q : Nat} {s : CS} (h : Both w wr N q s) (n : Nat) : Both w (wr.drewN n) N q s := h.more (more_drewN _ n)
theorem Both.drew {w wr : World} {N q : Nat} {s : CS} (h : Both w wr N q s) : Both w wr.drew N q s := h.more (More.refl _).drew
theorem Both.half {w w1 w2 : World} {N q : Nat} {s s' : CS} (h : Both w w1 N q s) (h2 : w2 = w1.setRow w.heap.size (cellsC N s')) : RefIs w2 q q N s ∧ Below w.heap.size w w2 := by
  subst h2
  exact ⟨h.ref.setRow h.lt _, below_setRow h.below (Nat.le_refl _) _⟩
theorem Both.turn {w w1 w2 w3 : World} {N q : Nat} {s s' : CS} (h : Both w w1 N q s) (hk : s'.ok) (h2 : w2 = w1.setRow w.heap.size (cellsC N s')) (h3 : RefIs w3 q q N s') (hB : Below q w2 w3) : Both w w3 N q s' := by
  have hl := h.lt
  have hb := (h.half h2).2
  subst h2
  exact ⟨(h.clock.set s' hk).below hB hl, h3, hb.trans (hB.mono (by omega)), hl⟩
/-- The cells that a comparison with the document's clock reads. -/
theorem seen {w : World} {q N b o c : Nat} {s : CS} {r1 r2 r3 c1 c2 c3 : Nat} (h : RefAt w q q N s r1 r2 r3 c1 c2 c3) (hc : c < N) (hd : w.cell? ⟨b, o, none⟩ = some (.int .i64 (c : Int))) :
    w.cell? ⟨b, o, none⟩ = some (.int .i64 (c : Int)) ∧ w.cell? ⟨q, 1, none⟩ = some (.slice (some ⟨r1, 0, none⟩) N c1) ∧ w.cell? ⟨q, 2, none⟩ = some (.slice (some ⟨r2, 0, none⟩) N c2) ∧ w.cell? ⟨q, 3, none⟩ = some (.slice (some ⟨r3, 0, none⟩) N c3) ∧
    w.cell? ⟨r1, c, none⟩ = some (.int .i64 (cyS N s c)) ∧ w.cell? ⟨r2, c, none⟩ = some (.int .i64 (enS N s c)) ∧ w.cell? ⟨r3, c, none⟩ = some (.int .i64 (flS N s c)) := by
  refine ⟨hd, h.c1, h.c2, h.c3, ?_, ?_, ?_⟩
  · rw [cyS_nat hc]; exact h.l1.cell hc
  · rw [enS_nat hc]; exact h.l2.cell hc
  · rw [flS_nat hc]; exact h.l3.cell hc

/-- Region n of a text. -/
def regionOf (n : Nat) : Code → Option Code
  | .region id ops d => if id = n then some (.region id ops d) else none
  | .seq a b => match regionOf n a with
    | some c => some c
    | none => regionOf n b
  | .block _ c => regionOf n c
  | .loop c => regionOf n c
  | .cond _ a b => match regionOf n a with
    | some c => some c
    | none => regionOf n b
  | _ => none
set_option maxRecDepth 1000000 in
set_option maxHeartbeats 8000000 in
theorem region23 (N k c q b2 o2 len2 cap2 r1 r2 r3 k1 k2 k3 : Nat) (s2 : CS) (w w6 : World) (Q : Exit → Act → World → Prop)
    (u0 u1 u3 u4 u5 u6 u8 u10 u12 u13 u14 u15 u16 u17 u18 u19 u20 u21 u22 u23 u24 u25 u26 u27 u28 u29 u30 u31 u32 u33 u34 u35 u36 u37 u38 u39 u40 u41 u42 u43 u44 u45 u46 u47 u48 u49 u50 u51 u52 u53 u54 u55 u56 u57 u58 u59 u60 u61 u62 u63 u64 u65 u66 u67 u68 u69 u70 u71 u72 u73 u74 u75 u76 u77 u78 u79 u80 u81 u82 u83 u84 u85 u86 u87 u88 u89 u90 u91 u92 u93 u94 u95 u96 u97 u98 u99 u100 u101 u102 u103 u104 u105 u106 u107 u108 u109 u110 u111 u112 u113 u114 u115 u116 u117 u118 u119 u120 u121 u122 u123 u124 u125 u126 u127 u128 u129 u130 u131 u132 u133 u134 u135 u136 u137 u138 u139 u140 u141 u142 u143 u144 u145 u146 u147 u148 u149 u150 u151 u152 u153 u154 u155 u156 u157 u158 u159 u160 u161 u162 u163 u164 u165 u166 u167 u168 u169 u170 u171 u172 u173 u174 u175 u176 u177 u178 u179 u180 u181 u182 u183 u184 u185 u186 u187 u188 u189 u190 u191 u192 u193 u194 u195 u196 u197 u198 u199 u200 u201 u202 u203 u204 u205 u206 u207 u208 u209 u210 u211 u212 u213 u214 u215 u216 u217 u218 u219 u220 u221 u222 u223 u224 u225 u226 u227 u228 u229 u230 u231 u232 u233 u234 u235 u236 u237 : Value)
    (hN1 : 1 ≤ N) (hN : N ≤ 4) (hc : c < N) (hk2 : (k : Int) < (len2 : Int)) (hl2 : len2 ≤ 9223372036854775807)
    (H6 : Hid (Both w w6 N q s2)) (R6 : Hid (RefAt w6 q q N s2 r1 r2 r3 k1 k2 k3)) (HL2 : Hid (b2 < w.heap.size)) (e2 : Hid (w.cell? ⟨b2, o2 + k, none⟩ = some (.int .i64 (c : Int))))
    (hQ : Hid (∀ (v140 v141 v142 v143 v144 v145 v146 v147 v148 v149 v150 v151 v152 v153 v154 v155 v156 v157 v158 v159 v160 v161 v162 v163 v164 v165 v166 v167 v168 v169 v170 v171 v172 v173 v174 v175 v176 v177 v178 v179 v180 v181 v182 v183 v184 v185 v186 v187 v188 v189 v190 v191 v192 v193 v194 v195 v196 v197 v198 v199 v200 v201 : Value) (w9 : World), Both w w9 N q s2 → Q .normal ⟨#[u0, u1, .slice (some ⟨b2, o2, none⟩) len2 cap2, u3, u4, u5, u6, .pointer (some ⟨w.heap.size, 0, none⟩), u8, .pointer (some ⟨q, 0, none⟩), u10, .int .i64 (k : Int), u12, u13, u14, u15, u16, u17, u18, u19, u20, u21, u22, u23, u24, u25, u26, u27, u28, u29, u30, u31, u32, u33, u34, u35, u36, u37, u38, u39, u40, u41, u42, u43, u44, u45, u46, u47, u48, u49, u50, u51, u52, u53, u54, u55, u56, u57, u58, u59, u60, u61, u62, u63, u64, u65, u66, u67, u68, u69, u70, u71, u72, u73, u74, u75, u76, u77, u78, u79, u80, u81, u82, u83, u84, u85, u86, u87, u88, u89, u90, u91, u92, u93, u94, u95, u96, u97, u98, u99, u100, u101, u102, u103, u104, u105, u106, u107, u108, u109, u110, u111, u112, u113, u114, u115, u116, u117, u118, u119, u120, u121, u122, u123, u124, u125, u126, u127, u128, u129, u130, u131, u132, u133, u134, u135, u136, u137, u138, u139, v140, v141, v142, v143, v144, v145, v146, v147, v148, v149, v150, v151, v152, v153, v154, v155, v156, v157, v158, v159, v160, v161, v162, v163, v164, v165, v166, v167, v168, v169, v170, v171, v172, v173, v174, v175, v176, v177, v178, v179, v180, v181, v182, v183, v184, v185, v186, v187, v188, v189, v190, v191, v192, v193, v194, v195, v196, v197, v198, v199, v200, v201, .bool false, u203, u204, u205, u206, u207, u208, u209, u210, u211, u212, u213, u214, u215, u216, u217, u218, u219, u220, u221, u222, u223, u224, u225, u226, u227, u228, u229, u230, u231, u232, u233, u234, u235, u236, u237], []⟩ w9)) :
    Code.wp Try.prog ((Try.f3.body.bind (regionOf 23)).getD .skip) Q ⟨#[u0, u1, .slice (some ⟨b2, o2, none⟩) len2 cap2, u3, u4, u5, u6, .pointer (some ⟨w.heap.size, 0, none⟩), u8, .pointer (some ⟨q, 0, none⟩), u10, .int .i64 (k : Int), u12, u13, u14, u15, u16, u17, u18, u19, u20, u21, u22, u23, u24, u25, u26, u27, u28, u29, u30, u31, u32, u33, u34, u35, u36, u37, u38, u39, u40, u41, u42, u43, u44, u45, u46, u47, u48, u49, u50, u51, u52, u53, u54, u55, u56, u57, u58, u59, u60, u61, u62, u63, u64, u65, u66, u67, u68, u69, u70, u71, u72, u73, u74, u75, u76, u77, u78, u79, u80, u81, u82, u83, u84, u85, u86, u87, u88, u89, u90, u91, u92, u93, u94, u95, u96, u97, u98, u99, u100, u101, u102, u103, u104, u105, u106, u107, u108, u109, u110, u111, u112, u113, u114, u115, u116, u117, u118, u119, u120, u121, u122, u123, u124, u125, u126, u127, u128, u129, u130, u131, u132, u133, u134, u135, u136, u137, u138, u139, u140, u141, u142, u143, u144, u145, u146, u147, u148, u149, u150, u151, u152, u153, u154, u155, u156, u157, u158, u159, u160, u161, u162, u163, u164, u165, u166, u167, u168, u169, u170, u171, u172, u173, u174, u175, u176, u177, u178, u179, u180, u181, u182, u183, u184, u185, u186, u187, u188, u189, u190, u191, u192, u193, u194, u195, u196, u197, u198, u199, u200, u201, u202, u203, u204, u205, u206, u207, u208, u209, u210, u211, u212, u213, u214, u215, u216, u217, u218, u219, u220, u221, u222, u223, u224, u225, u226, u227, u228, u229, u230, u231, u232, u233, u234, u235, u236, u237], []⟩ w6 := by
  have hci : (c : Int) < (N : Int) := by omega
  have hS := seen (R6.out.more (More.refl _).drew) hc ((H6.out.drew.below.cell (p := ⟨b2, o2 + k, none⟩) HL2.out).trans e2.out)
  conv => arg 2; whnf
  go_region_held3 (fun w' => w'.cell? ⟨b2, o2 + k, none⟩ = some (.int .i64 (c : Int)) ∧ w'.cell? ⟨q, 1, none⟩ = some (.slice (some ⟨r1, 0, none⟩) N k1) ∧ w'.cell? ⟨q, 2, none⟩ = some (.slice (some ⟨r2, 0, none⟩) N k2) ∧ w'.cell? ⟨q, 3, none⟩ = some (.slice (some ⟨r3, 0, none⟩) N k3) ∧ w'.cell? ⟨r1, c, none⟩ = some (.int .i64 (cyS N s2 c)) ∧ w'.cell? ⟨r2, c, none⟩ = some (.int .i64 (enS N s2 c)) ∧ w'.cell? ⟨r3, c, none⟩ = some (.int .i64 (flS N s2 c))) (first | assumption | go_keep)
  (first
    | (go_at_call 20; refine (is_yes _ r1 k1 N c _ hc hN (R6.out.more (More.refl _).drew).c1).mono ?_; rintro e w8 ⟨rfl, hw8⟩; subst w8)
    | (go_at_call 21; refine (cycles_any _ N _ s2 _ hN1 hN H6.out.drew.clock).mono ?_; rintro e w7 ⟨rfl, hm⟩; have H7 : Hid (Both w w7 N q s2) := H6.out.drew.more hm; have R7 : Hid (RefAt w7 q q N s2 r1 r2 r3 k1 k2 k3) := (R6.out.more (More.refl _).drew).more hm; clear hm hS; have hS := seen R7.out hc ((H7.out.below.cell (p := ⟨b2, o2 + k, none⟩) HL2.out).trans e2.out))
    | (go_at_call 22; refine (entered_any _ N _ s2 _ hN1 hN H7.out.clock).mono ?_; rintro e w8 ⟨rfl, hm⟩; have H8 : Hid (Both w w8 N q s2) := H7.out.more hm; have R8 : Hid (RefAt w8 q q N s2 r1 r2 r3 k1 k2 k3) := R7.out.more hm; clear hm hS; have hS := seen R8.out hc ((H8.out.below.cell (p := ⟨b2, o2 + k, none⟩) HL2.out).trans e2.out))
    | (go_at_call 23; refine (flushed_any _ N _ s2 _ hN1 hN H8.out.clock).mono ?_; rintro e w9 ⟨rfl, hm⟩; have H9 : Hid (Both w w9 N q s2) := H8.out.more hm; have R9 : Hid (RefAt w9 q q N s2 r1 r2 r3 k1 k2 k3) := R8.out.more hm; clear hm hS; have hS := seen R9.out hc ((H9.out.below.cell (p := ⟨b2, o2 + k, none⟩) HL2.out).trans e2.out)))
  exact hQ.out _ _ _ _ _ _ _ _ _ _ _ _ _ _ _ _ _ _ _ _ _ _ _ _ _ _ _ _ _ _ _ _ _ _ _ _ _ _ _ _ _ _ _ _ _ _ _ _ _ _ _ _ _ _ _ _ _ _ _ _ _ _ _ H9.out

end Go.Proofs.Ytmnjlckniaociaa
