/-
  Two values of a part are equal or not.
-/
import Derived.Test.YtfjfnbeegojlbaaDoorPPart
namespace Go.Proofs.YtfjfnbeegojlbaaDoor
open Go.RowKit

theorem eq_val (a b c d : Int) (w : World) : (Op.equalIn 10000 42 (.agg #[.int .i64 a, .int .i64 b]) (.agg #[.int .i64 c, .int .i64 d])).run Tryd.prog w = .ok (a == c && b == d) w := by
  have h1 : ∀ w, (sizeOf 3).run Tryd.prog w = .ok 1 w := fun w => by simp [go_sem]
  have hi : ∀ (x y : Int) w, (Op.equalIn 9999 3 (.int .i64 x) (.int .i64 y)).run Tryd.prog w = .ok (x == y) w := fun x y w => run_equalIn_int w 9998 3 .i64 .i64 x y Tryd.underlying3
  show (Op.equalIn (9999 + 1) _ _ _).run _ _ = _
  rw [Op.equalIn]
  simp [run_underlying Tryd.underlying42, go_sem, h1, hi, Std.Legacy.Range.forIn_eq_forIn_range', List.range']
  by_cases e1 : a = c <;> by_cases e2 : b = d <;> simp [e1, e2]
theorem eq_vv (v u : Int × Int) {e : Bool} (h : decide (v = u) = e) (w : World) : (Op.equalIn 10000 42 (.agg #[.int .i64 v.1, .int .i64 v.2]) (.agg #[.int .i64 u.1, .int .i64 u.2])).run Tryd.prog w = .ok e w := by
  rw [eq_val, ← h]
  congr 1
  obtain ⟨v1, v2⟩ := v
  obtain ⟨u1, u2⟩ := u
  by_cases e1 : v1 = u1 <;> by_cases e2 : v2 = u2 <;> simp [e1, e2]
namespace Pt
/-- Are two cells equal? -/
def eqC (a b : Cl) : Bool := a.nt == b.nt && (a.it == b.it && (a.vc == b.vc && (a.va == b.va && (a.ef == b.ef && a.pa == b.pa))))
theorem eqC_iff {a b : Cl} : eqC a b = true ↔ a = b := by
  obtain ⟨a1, a2, a3, a4, a5, a6⟩ := a
  obtain ⟨b1, b2, b3, b4, b5, b6⟩ := b
  simp [eqC]
end Pt
theorem eq_cl (a b : Pt.Cl) (w : World) : (Op.equalIn 10000 23 (.agg (CL a).toArray) (.agg (CL b).toArray)).run Tryd.prog w = .ok (Pt.eqC a b) w := by
  unfold Pt.eqC
  rw [cl_arr, cl_arr]
  have hi : ∀ (x y : Int) w, (Op.equalIn 9999 3 (.int .i64 x) (.int .i64 y)).run Tryd.prog w = .ok (x == y) w := fun x y w => run_equalIn_int w 9998 3 .i64 .i64 x y Tryd.underlying3
  show (Op.equalIn (9999 + 1) _ _ _).run _ _ = _
  rw [Op.equalIn]
  simp [run_underlying Tryd.underlying23, go_sem, hi]
  by_cases h1 : a.nt = b.nt <;> by_cases h2 : a.it = b.it <;> by_cases h3 : a.vc = b.vc <;> by_cases h4 : a.va = b.va <;> by_cases h5 : a.ef = b.ef <;> by_cases h6 : a.pa = b.pa <;> simp [h1, h2, h3, h4, h5, h6]
theorem eq_cl_v (a b : Pt.Cl) {e : Bool} (h : Pt.eqC a b = e) (w : World) : (Op.equalIn 10000 23 (.agg (CL a).toArray) (.agg (CL b).toArray)).run Tryd.prog w = .ok e w := h ▸ eq_cl a b w
end Go.Proofs.YtfjfnbeegojlbaaDoor
