/-
  The contract of package inst's Curve, all ways: for any envelope and numbers.
-/
import Derived.Test.YtcchfahdgmcpbaaPCurve
namespace Go.Proofs.Ytcchfahdgmcpbaa
open Go.RowKit

theorem p_Curve (e : In.Env) (p : Option Addr) (cap : Nat) (n r : Int) (w : World) (hd : PtsAt w p e.pts) (hc : e.pts.length ≤ cap) :
    Calls Try.prog 16 #[EV e p cap, .int .i64 n, .int .i64 r] w fun x w' => RetI (In.crv e n r) w.heap.size x w' ∧ Below w.heap.size w w' := by
  obtain ⟨on, pts, sus, ss, se, lp, ls, le⟩ := e
  cases hw : In.wth n 0 4000
  · exact p_Curve_out on pts sus ss se lp ls le p cap n r w hw
  · have h := of_decide_eq_true hw
    obtain ⟨N, rfl⟩ : ∃ N : Nat, n = N := ⟨n.toNat, by omega⟩
    cases hv : In.lv (⟨on, pts, sus, ss, se, lp, ls, le⟩ : In.Env)
    · exact p_Curve_dead on pts sus ss se lp ls le p cap N r w hd (by omega) hv
    · exact p_Curve_live on pts sus ss se lp ls le p cap N r w hd hc (by omega) hv
end Go.Proofs.Ytcchfahdgmcpbaa
