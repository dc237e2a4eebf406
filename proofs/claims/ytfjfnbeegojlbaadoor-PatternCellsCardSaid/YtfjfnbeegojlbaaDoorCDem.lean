/-
  Package pattern's demand.
-/
import Derived.Test.YtfjfnbeegojlbaaDoorBase
import Derived.WalkSmall
import Derived.WalkLawsBesides
import Derived.Deep.RegionHeld2
namespace Go.Proofs.YtfjfnbeegojlbaaDoor
open Go.RowKit

/-- A panic with an error. -/
def Pn (e : Int) : Ending := .panicked [{ v := .iface 24 (.int .i64 e), recovered := false }]
theorem p_demand_ok (e : Int) (w : World) :
    Calls Tryd.prog 47 #[.bool true, .int .i64 e] w fun x w' => x = .returned (.tuple #[]) ∧ w = w' := by
  go_enter Tryd.func47, Tryd.ntmps47
  go_wp2
  go_end0
  exact ⟨rfl, rfl⟩
theorem p_demand_bad (e : Int) (w : World) :
    Calls Tryd.prog 47 #[.bool false, .int .i64 e] w fun x w' => x = Pn e ∧ w = w' := by
  go_enter Tryd.func47, Tryd.ntmps47
  go_wp2
  exact ⟨rfl, rfl, rfl⟩
theorem post_panic {P : Program} {fn : Func} {R : Ending → World → Prop} {c : List PanicEntry} {a : Act} {w : World} (h1 : a.defers = []) (h2 : R (.panicked c) w) : bodyPost P fn R (.panic c) a w := ⟨h1, h2⟩
end Go.Proofs.YtfjfnbeegojlbaaDoor
