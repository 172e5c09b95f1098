/- What is right of an item alone. -/
import Derived.Test.YtbhblnpehhaiiaaDoorItmCore
import Derived.Test.YtbhblnpehhaiiaaDoorPrtMath
import Derived.Test.YtbhblnpehhaiiaaDoorValMath
import Derived.Test.YtbhblnpehhaiiaaDoorPrtRightT
namespace Go.Proofs.YtbhblnpehhaiiaaDoor.ItmM
open Go.RowKit
open PrtW PrtM NameW ItmW ValM

/-- what is asked: some signs, neither beginning nor ending with a blank -/
def labelB (t : ByteArray) : Bool := decide (1 ≤ t.size) && ((plainB t && decide ((t.size : Int) ≤ 60)) && (decide (chr t 0 ≠ 32) && decide (chr t (t.size - 1) ≠ 32)))
/-- type, low and high of what is asked -/
def rangeB (ty lo hi : Int) : Bool :=
  if ty = 1 then decide (-1000000 ≤ lo ∧ lo ≤ 1000000) && decide (lo ≤ hi ∧ hi ≤ 1000000)
  else if ty = 2 ∨ ty = 3 then decide (lo = 1) && decide (1 ≤ hi ∧ hi ≤ 20)
  else if ty = 4 then decide (lo = 0) && decide (1 ≤ hi ∧ hi ≤ 40) else false
def bareB (ty lo hi : Int) : Bool := decide (ty = 0) && (decide (lo = 0) && decide (hi = 0))
def noText (t : ByteArray) : Bool := t.toList.isEmpty
def noParts (ps : List Pt) : Bool := decide ((ps.length : Int) = 0)
/-- what an item must be by itself -/
def itemB (p : It) : Bool :=
  if ik p = 1 then nameB (inm p) && (rangeB (ity p) (ilo p) (ihi p) && (labelB (itx p) && (noParts (iex p) && !ihd p)))
  else if ik p = 2 then noText (inm p) && (bareB (ity p) (ilo p) (ihi p) && (noText (itx p) && (truthB (iex p) && !ihd p)))
  else if ik p = 3 ∨ ik p = 4 then noText (inm p) && (bareB (ity p) (ilo p) (ihi p) && (noText (itx p) && (noParts (iex p) && !ihd p)))
  else if ik p = 5 then nameB (inm p) && (bareB (ity p) (ilo p) (ihi p) && (labelB (itx p) && truthB (iex p)))
  else if ik p = 6 then nameB (inm p) && (bareB (ity p) (ilo p) (ihi p) && (noText (itx p) && (rightB (iex p) && (!truthB (iex p) && !ihd p))))
  else false
end Go.Proofs.YtbhblnpehhaiiaaDoor.ItmM
