/- A slice of integers that came in: see BasI. -/
import Derived.Test.YtkodanflobclhaaDoorBasI
