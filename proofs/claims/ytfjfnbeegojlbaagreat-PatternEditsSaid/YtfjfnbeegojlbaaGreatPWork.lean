/-
  The law package's Work as one struct of twenty-two cells.
-/
import Derived.Test.YtfjfnbeegojlbaaGreatPCopy
namespace Go.Proofs.YtfjfnbeegojlbaaGreat
open Go.RowKit

/-- What a law is given, without its places in memory. -/
structure Wk where
  r : Int
  l : List Pt.Cl
  r2 : Int
  l2 : List Pt.Cl
  ch : Int
  wd : Int
  row : Int
  cn : Int
  f1 : Int
  t1 : Int
  a : Pt.Ar
  s : Int
  c : Pt.Cl
  m : Bool
def WL (x : Wk) (p : Option Addr) (cap : Nat) (p2 : Option Addr) (cap2 : Nat) : List Value := [.int .i64 x.r, .slice p x.l.length cap, .int .i64 x.r2, .slice p2 x.l2.length cap2, .int .i64 x.ch, .int .i64 x.wd, .int .i64 x.row, .int .i64 x.cn, .int .i64 x.f1, .int .i64 x.t1, .int .i64 x.a.r, .int .i64 x.a.c, .int .i64 x.a.h, .int .i64 x.a.w, .int .i64 x.s, .int .i64 x.c.nt, .int .i64 x.c.it, .int .i64 x.c.vc, .int .i64 x.c.va, .int .i64 x.c.ef, .int .i64 x.c.pa, .bool x.m]
theorem wl_len (x : Wk) (p : Option Addr) (cap : Nat) (p2 : Option Addr) (cap2 : Nat) : (WL x p cap p2 cap2).length = 22 := rfl
theorem wl_one (x : Wk) (p : Option Addr) (cap : Nat) (p2 : Option Addr) (cap2 : Nat) : (WL x p cap p2 cap2).toArray.all (·.oneCell') = true := by simp [WL, Value.oneCell']
end Go.Proofs.YtfjfnbeegojlbaaGreat
