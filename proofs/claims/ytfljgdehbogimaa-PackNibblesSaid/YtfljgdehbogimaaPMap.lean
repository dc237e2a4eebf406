/-
  Package pack's codings: the map of versions, and what a look-up in it gives.
-/
import Derived.Test.YtfljgdehbogimaaPNum
import Derived.Maps.OwnSet
namespace Go.Proofs.Ytfljgdehbogimaa
open Go.RowKit Go.Maps Go.ChangeMaps

theorem chk_int (em : Bool) (w : World) (a : Int) : (Instr.checkKey em 10000 3 (.int .i64 a)).run Try.prog w = .ok () w := by
  have h : ∀ n, (Instr.checkKey em (n + 1) 3 (.int .i64 a)).run Try.prog w = .ok () w := fun n => by
    unfold Instr.checkKey
    simp [run_underlying Try.underlying3, Result.andThen]
  exact h 9999
theorem find_int (w : World) (a : Int) (es : List MapEntry) (r : Option (Nat × Value)) (hn : Instr.findNow (.int .i64) (.int .i64 a) es 0 = some r) : (Instr.findKey 3 (.int .i64 a) es).run Try.prog w = .ok r w := by
  unfold Instr.findKey
  simp [run_underlying Try.underlying3, hn, Result.andThen]
theorem up_new (w : World) (r : Nat) (es : Array MapEntry) (c : Nat) (a : Int) (v : Value) (h : w.heap[r]? = some (.map es c)) (hn : Instr.findNow (.int .i64) (.int .i64 a) es.toList 0 = some none) :
    (Instr.mapUpdate 50 (.map (some r)) (.int .i64 a) v).run Try.prog w = .ok () (setBlock w r (.map (es.push { key := .int .i64 a, val := v, born := c }) (c + 1))) := by
  simp [Instr.mapUpdate, run_underlying Try.underlying50, MapKept.run_getObj_map h, chk_int, find_int _ _ _ _ hn, MapKept.run_setObj_map _ h, Result.andThen, setBlock]
theorem look_at (w : World) (r : Nat) (es : Array MapEntry) (c : Nat) (a : Int) (h : w.heap[r]? = some (.map es c)) (i : Nat) (v : Value) (hn : Instr.findNow (.int .i64) (.int .i64 a) es.toList 0 = some (some (i, v))) :
    (Instr.lookup 50 (.map (some r)) (.int .i64 a) true).run Try.prog w = .ok (.tuple #[v, .bool true]) w := by
  simp [Instr.lookup, run_underlying Try.underlying50, MapKept.run_getObj_map h, chk_int, find_int _ _ _ _ hn, Result.andThen]
theorem look_no (w : World) (r : Nat) (es : Array MapEntry) (c : Nat) (a : Int) (h : w.heap[r]? = some (.map es c)) (hn : Instr.findNow (.int .i64) (.int .i64 a) es.toList 0 = some none) :
    (Instr.lookup 50 (.map (some r)) (.int .i64 a) true).run Try.prog w = .ok (.tuple #[.nilFunc, .bool false]) w := by
  have hz : (zeroValue 48).run Try.prog w = .ok .nilFunc w := by kernel_rfl
  simp [Instr.lookup, run_underlying Try.underlying50, MapKept.run_getObj_map h, chk_int, find_int _ _ _ _ hn, Result.andThen, hz]
/-- The map of the versions. -/
def verMap : Array MapEntry := #[{ key := .int .i64 1, val := .func (.func 55) #[] #[], born := 0 }, { key := .int .i64 2, val := .func (.func 56) #[] #[], born := 1 }]
theorem setBlock_self (w : World) (o o' : Obj) : setBlock (w.alloc o) w.heap.size o' = w.alloc o' := by
  unfold setBlock World.alloc
  congr 1
  apply Array.ext_getElem?
  intro i
  simp [Array.getElem?_setIfInBounds, Array.getElem?_push]
  by_cases h : w.heap.size = i
  · subst h; simp
  · have h2 : ¬ i = w.heap.size := fun e => h e.symm
    simp [h, h2]
theorem p_codings (w : World) :
    Calls Try.prog 28 #[] w fun e w' => e = .returned (.map (some w.heap.size)) ∧ w.alloc (.map verMap 2) = w' := by
  have hmm := @run_makeMap Try.prog
  have u1 := up_new (w.alloc (.map #[] 0)) w.heap.size #[] 0 1 (.func (.func 55) #[] #[]) (heap_alloc_new _ _) rfl
  have u2 := up_new (w.alloc (.map #[{ key := .int .i64 1, val := .func (.func 55) #[] #[], born := 0 }] 1)) w.heap.size _ 1 2 (.func (.func 56) #[] #[]) (heap_alloc_new _ _) rfl
  rw [setBlock_self] at u1 u2
  go_enter Try.func28, Try.ntmps28
  go_wp2
  go_ret
  exact ⟨rfl, rfl⟩
theorem look_1 (w : World) (r : Nat) (h : w.heap[r]? = some (.map verMap 2)) : (Instr.lookup 50 (.map (some r)) (.int .i64 1) true).run Try.prog w = .ok (.tuple #[.func (.func 55) #[] #[], .bool true]) w :=
  look_at w r _ _ 1 h 0 _ rfl
theorem look_2 (w : World) (r : Nat) (h : w.heap[r]? = some (.map verMap 2)) : (Instr.lookup 50 (.map (some r)) (.int .i64 2) true).run Try.prog w = .ok (.tuple #[.func (.func 56) #[] #[], .bool true]) w :=
  look_at w r _ _ 2 h 1 _ rfl
theorem look_else (w : World) (r : Nat) (v : Int) (h : w.heap[r]? = some (.map verMap 2)) (h1 : v ≠ 1) (h2 : v ≠ 2) : (Instr.lookup 50 (.map (some r)) (.int .i64 v) true).run Try.prog w = .ok (.tuple #[.nilFunc, .bool false]) w :=
  look_no w r _ _ v h (by
    have e1 : (v == 1) = false := by simpa using h1
    have e2 : (v == 2) = false := by simpa using h2
    simp [verMap, Instr.findNow, Instr.sameNow, e1, e2])
end Go.Proofs.Ytfljgdehbogimaa
