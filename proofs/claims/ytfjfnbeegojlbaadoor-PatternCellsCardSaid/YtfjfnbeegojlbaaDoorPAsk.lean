/-
  Package pattern's askPlace and askArea.
-/
import Derived.Test.YtfjfnbeegojlbaaDoorPValB
import Derived.Deep.DeepCutAuto
namespace Go.Proofs.YtfjfnbeegojlbaaDoor
open Go.RowKit

def AV (a : Pt.Ar) : Value := .agg #[.int .i64 a.r, .int .i64 a.c, .int .i64 a.h, .int .i64 a.w]
end Go.Proofs.YtfjfnbeegojlbaaDoor
