/- What the walks ask of the program (written by mk_plays.py). -/
import Derived.Test.YtcoggdnpjpiacaaDoorRcvF
namespace Go.Proofs.YtcoggdnpjpiacaaDoor.Prcv
open Go.Proofs.YtcoggdnpjpiacaaDoor.Pbase Go.Proofs.YtcoggdnpjpiacaaDoor.Pfield Go.Proofs.YtcoggdnpjpiacaaDoor.Play Go.Proofs.YtcoggdnpjpiacaaDoor.Pmem Go.Proofs.YtcoggdnpjpiacaaDoor.Pring
open Go.RowKit M
set_option linter.unusedVariables false

/-- What the walks ask of the program, where nothing waits. -/
structure Prd (N : Nat) (w : World) : Prop where
  make : ∀ wc M (f : Int) (c : Rv), Fv c → MemIs wc (w.heap.size + 1) w.heap.size N M → Fit M → Below w.heap.size w wc → Calls Tryd.prog 6 #[.pointer (some ⟨w.heap.size + 1, 0, none⟩), .int .i64 f, .agg #[.int .i64 c.th, .int .i64 c.pa, .int .i64 c.co, .bool c.wa, .int .i64 c.lo]] wc fun e w' => e = .returned (.int .i64 (vmE N f c)) ∧ MemIs w' (w.heap.size + 1) w.heap.size N (vmM N M f c) ∧ But w.heap.size wc w'
  put : ∀ wc M (f : Int) (c : Rv), Fv c → MemIs wc (w.heap.size + 1) w.heap.size N M → Fit M → Below w.heap.size w wc → Calls Tryd.prog 15 #[.pointer (some ⟨w.heap.size + 1, 0, none⟩), .int .i64 f, .agg #[.int .i64 c.th, .int .i64 c.pa, .int .i64 c.co, .bool c.wa, .int .i64 c.lo]] wc fun e w' => e = .returned (.int .i64 (vpE N M f c)) ∧ MemIs w' (w.heap.size + 1) w.heap.size N (vpM N M f c) ∧ But w.heap.size wc w'
  tell : ∀ wc M (f : Int) (c : Ev), Fe c → MemIs wc (w.heap.size + 1) w.heap.size N M → Fit M → Below w.heap.size w wc → Calls Tryd.prog 7 #[.pointer (some ⟨w.heap.size + 1, 0, none⟩), .int .i64 f, .agg #[.int .i64 c.k, .int .i64 c.t]] wc fun e w' => e = .returned (.int .i64 (tlE N M f c)) ∧ MemIs w' (w.heap.size + 1) w.heap.size N (tlM N M f c) ∧ But w.heap.size wc w'
  more : ∀ wc M (f : Int), MemIs wc (w.heap.size + 1) w.heap.size N M → Fit M → Below w.heap.size w wc → Calls Tryd.prog 12 #[.pointer (some ⟨w.heap.size + 1, 0, none⟩), .int .i64 f] wc fun e w' => e = .returned (.tuple #[.bool (moB N M f), .int .i64 (vgE N M f)]) ∧ MemIs w' (w.heap.size + 1) w.heap.size N (moM N M f) ∧ But w.heap.size wc w'
  less : ∀ wc M (f : Int), MemIs wc (w.heap.size + 1) w.heap.size N M → Fit M → Below w.heap.size w wc → Calls Tryd.prog 13 #[.pointer (some ⟨w.heap.size + 1, 0, none⟩), .int .i64 f] wc fun e w' => e = .returned (.tuple #[.bool (leB N M f), .int .i64 (vgE N M f)]) ∧ MemIs w' (w.heap.size + 1) w.heap.size N (leM N M f) ∧ But w.heap.size wc w'
  get : ∀ wc M (f : Int), MemIs wc (w.heap.size + 1) w.heap.size N M → Fit M → Below w.heap.size w wc → Calls Tryd.prog 10 #[.pointer (some ⟨w.heap.size + 1, 0, none⟩), .int .i64 f] wc fun e w' => e = .returned (.tuple #[.agg #[.int .i64 (vgX N M f).th, .int .i64 (vgX N M f).pa, .int .i64 (vgX N M f).co, .bool (vgX N M f).wa, .int .i64 (vgX N M f).lo], .int .i64 (vgE N M f)]) ∧ Below wc.heap.size wc w'
  check : ∀ wc (c : Rv), Fv c → Below w.heap.size w wc → Calls Tryd.prog 14 #[.agg #[.int .i64 c.th, .int .i64 c.pa, .int .i64 c.co, .bool c.wa, .int .i64 c.lo]] wc fun e w' => e = .returned (.int .i64 (vkE c)) ∧ Below wc.heap.size wc w'
  awake : ∀ wc, Below w.heap.size w wc → Calls Tryd.prog 11 #[] wc fun e w' => e = .returned (.bool true) ∧ Below wc.heap.size wc w'
end Go.Proofs.YtcoggdnpjpiacaaDoor.Prcv
