/- What the walks ask of the program; that it computes at all (written by mk_i.py). -/
import Derived.Test.YtjibbppjdojbpaaDoorCalF
import Derived.Outline
import Derived.BigRegion
namespace Go.Proofs.YtjibbppjdojbpaaDoor.Pcall
open Go.Proofs.YtjibbppjdojbpaaDoor.Pbase Go.Proofs.YtjibbppjdojbpaaDoor.Pfield
open Go.RowKit M
set_option linter.unusedVariables false

structure Pc (w : World) : Prop where
  check : ∀ wc (x : Cl), Fc x → Below w.heap.size w wc → Calls Tryd.prog 12 #[.agg #[.int .i64 x.n, .int .i64 x.a, .int .i64 x.b, .int .i64 x.c, .int .i64 x.d, .int .i64 x.e]] wc fun e w' => e = .returned (.int .i64 (kcE x)) ∧ Below wc.heap.size wc w'
  put : ∀ wc (x : Cl), Fc x → Below w.heap.size w wc → Calls Tryd.prog 6 #[.agg #[.int .i64 x.n, .int .i64 x.a, .int .i64 x.b, .int .i64 x.c, .int .i64 x.d, .int .i64 x.e]] wc fun e w' => e = .returned (.tuple #[.int .u64 (putW x), .int .i64 (kcE x)]) ∧ Below wc.heap.size wc w'
  get : ∀ wc (z : Int), 0 ≤ z ∧ z ≤ 18446744073709551615 → Below w.heap.size w wc → Calls Tryd.prog 8 #[.int .u64 z] wc fun e w' => e = .returned (.tuple #[.agg #[.int .i64 (getC z).n, .int .i64 (getC z).a, .int .i64 (getC z).b, .int .i64 (getC z).c, .int .i64 (getC z).d, .int .i64 (getC z).e], .int .i64 (getE z)]) ∧ Below wc.heap.size wc w'
  needs : ∀ wc (n : Int), Below w.heap.size w wc → Calls Tryd.prog 14 #[.int .i64 n] wc fun e w' => e = .returned (.int .i64 (ndI n)) ∧ Below wc.heap.size wc w'
  word : ∀ wc (n : Int), Below w.heap.size w wc → Calls Tryd.prog 16 #[.int .i64 n] wc fun e w' => e = .returned (.string (wdT n)) ∧ Below wc.heap.size wc w'
  number : ∀ wc (s : ByteArray), Below w.heap.size w wc → Calls Tryd.prog 10 #[.string s] wc fun e w' => e = .returned (.tuple #[.int .i64 (nuI s), .bool (nuB s)]) ∧ Below wc.heap.size wc w'
def retT : ByteArray := ⟨#[114, 101, 116]⟩
theorem ret_text : wdT 23 = retT := rfl
set_option maxRecDepth 100000 in
theorem awake_any {w : World} (HP : Pc w) (wc : World) (hB : Below w.heap.size w wc) : Calls Tryd.prog 18 #[] wc fun e w' => e = .returned (.bool true) ∧ Below wc.heap.size wc w' := by
  have HW : Hid (Calls Tryd.prog 16 #[.int .i64 23] wc fun e w' => e = .returned (.string retT) ∧ Below wc.heap.size wc w') := HP.word wc 23 hB
  clear hB HP
  have hs : (retT.toList == [114, 101, 116]) = true := by rw [show retT.toList = [114, 101, 116] from ByteArray.toList_mk _]; rfl
  generalize retT = t at HW hs
  go_enter Tryd.func18, Tryd.ntmps18
  go_wp2_with (first
    | (go_at_call 16; refine HW.out.mono ?_; rintro e1 w1 ⟨rfl, hb⟩; have H1 := chide hb; clear hb HW)
    | fail)
  go_ret
  exact ⟨rfl, H1.out⟩
end Go.Proofs.YtjibbppjdojbpaaDoor.Pcall
