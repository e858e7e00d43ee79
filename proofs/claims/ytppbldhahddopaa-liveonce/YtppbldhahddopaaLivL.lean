/- Contracts of Go's library that are proved once for all programs, laid at this program's functions: which of its functions and types are meant. -/
import Derived.Shelf.SlicesQ.IndexFunc
import Derived.Test.YtppbldhahddopaaRows
namespace Go.Proofs.Ytppbldhahddopaa
open Go.Shelf

def idxBeing_ren : Go.Shelf.Ren := ⟨fun | 6 => 22 | n => n, fun | 22 => 42 | 23 => 53 | 25 => 56 | 3 => 3 | 0 => 0 | 4 => 4 | n => n, fun | n => n⟩
theorem idxBeing : Go.Proofs.SlLaysH0.n6 Try.prog idxBeing_ren := {
  mixed := by kernel_rfl,
  f6 := ⟨Try.f22.name, by decide, Try.func22.trans (congrArg some (by kernel_rfl))⟩,
  t0 := Try.underlying0,
  a0 := Try.isAgg0,
  z0 := Try.sizeOf0,
  v0 := Try.zeroValue0,
  t3 := Try.underlying3,
  a3 := Try.isAgg3,
  z3 := Try.sizeOf3,
  v3 := Try.zeroValue3,
  t4 := Try.underlying4,
  a4 := Try.isAgg4,
  z4 := Try.sizeOf4,
  v4 := Try.zeroValue4,
  t22 := Try.underlying42,
  a22 := Try.isAgg42,
  z22 := Try.sizeOf42,
  v22 := Try.zeroValue42,
  t25 := Try.underlying56,
  a25 := Try.isAgg56,
  z25 := Try.sizeOf56,
  v25 := Try.zeroValue56 }

end Go.Proofs.Ytppbldhahddopaa
