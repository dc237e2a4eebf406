/-
  Package pattern's outcome: a panic with an error becomes the error.
-/
import Derived.Test.YtfjfnbeegojlbaaPUc
import Derived.Defers
import Derived.Recover
import Derived.Laws.Pointers
namespace Go.Proofs.Ytfjfnbeegojlbaa
open Go.RowKit

theorem assert_err (z : Int) (w : World) : (Instr.typeAssert (.iface 34 (.int .i64 z)) 20 34 true).run Try.prog w = .ok (.tuple #[.int .i64 z, .bool true]) w := by
  kernel_rfl
theorem assert_nil (w : World) : (Instr.typeAssert .nilIface 20 34 true).run Try.prog w = .ok (.tuple #[.int .i64 0, .bool false]) w := by
  kernel_rfl
set_option maxRecDepth 20000 in
theorem catch_panicking (p : Addr) (x z : Int) (older : List PanicEntry) (w : World) (hc : w.cell? p = some (.int .i64 x)) (hz : w.frozen? p = false) :
    CallsD Try.prog 57 #[.pointer (some p)] (.panicking ({ v := .iface 34 (.int .i64 z), recovered := false } :: older)) w fun e u' w' =>
      e = .returned (.tuple #[]) ∧ u' = .panicking ({ v := .iface 34 (.int .i64 z), recovered := true } :: older) ∧ w' = w.setCell p (.int .i64 z) := by
  refine callsD_of_wpS Try.func57 rfl fun c₀ cs hu => ?_
  have hta := assert_err z
  have e : (#[Value.pointer (some p)] ++ Array.replicate (Try.f57.ntmps - #[Value.pointer (some p)].size) undef) = #[.pointer (some p), undef, undef, undef, undef, undef, undef, undef, undef, undef] := by kernel_rfl
  rw [e]
  apply wpS_seq
  apply wpS_region
  simp [wpOpsS, go_sem, recoverD, hu, Exit.thenS, hta]
  apply wpS_seq
  apply wpS_region
  simp [wpOpsS, go_sem, Exit.thenS]
  refine wpS_cond (t := true) (by simp [Act.eval]) ?_
  simp only [if_true]
  apply wpS_region
  simp [wpOpsS, go_sem, hc, hz, bodyPostS, results, Try.results57]
set_option maxRecDepth 20000 in
theorem catch_idle (p : Addr) (w : World) :
    CallsD Try.prog 57 #[.pointer (some p)] .returning w fun e u' w' => e = .returned (.tuple #[]) ∧ u' = .returning ∧ w' = w := by
  refine callsD_of_wpS Try.func57 rfl fun c₀ cs hu => ?_
  have hta := assert_nil
  have e : (#[Value.pointer (some p)] ++ Array.replicate (Try.f57.ntmps - #[Value.pointer (some p)].size) undef) = #[.pointer (some p), undef, undef, undef, undef, undef, undef, undef, undef, undef] := by kernel_rfl
  rw [e]
  apply wpS_seq
  apply wpS_region
  simp [wpOpsS, go_sem, recoverD, hu, Exit.thenS, hta]
  apply wpS_seq
  apply wpS_region
  simp [wpOpsS, go_sem, Exit.thenS]
  refine wpS_cond (t := false) (by simp [Act.eval]) ?_
  simp only [Bool.false_eq_true, if_false]
  refine wpS_of_wp (wp_skip ?_)
  cases c₀
  simp_all [bodyPostS, results, Try.results57]
theorem Fz.new {w w1 w2 : World} {a b g : Nat} (h : Fz w a b w1) (hg : w1.grownBy w2 (some g)) (hn : w.heap.size ≤ g) : Fz w a b w2 :=
  ⟨hg.os.trans h.os, hg.tape.trans h.tape, hg.output.trans h.output, Nat.le_trans h.size hg.size, fun k hk h1 h2 => (hg.block k (Nat.lt_of_lt_of_le hk h.size) (fun e => by simp at e; omega)).trans (h.block k hk h1 h2)⟩
/-- What is read and doesn't panic. -/
theorem p_outcome_ok {a b c d : Value} {w : World} {bR bC : Nat} {K : World → Prop} (hR : bR < w.heap.size) (hC : bC < w.heap.size)
    (h : ∀ u, Below w.heap.size w u → Calls Try.prog 43 #[a, b, c, d] u fun x w' => x = .returned (.tuple #[]) ∧ Fz u bR bC w' ∧ K w') :
    Calls Try.prog 42 #[.func (.func 43) #[] #[a, b, c, d]] w fun x w' => x = .returned (.int .i64 0) ∧ Fz w bR bC w' ∧ ∃ w1, K w1 ∧ w1.grownBy w' (some w.heap.size) := by
  have hmf : ∀ (fn : Fn) (first cap : Array Value) (w : World), (Instr.makeFunc fn first cap).run Try.prog w = .ok (.func fn first cap) w := fun _ _ _ _ => rfl
  obtain ⟨W, hW⟩ : ∃ W, W = w.alloc (.cells #[.int .i64 0] 34) := ⟨_, rfl⟩
  have HB := Lib.hid (show Below w.heap.size w W by rw [hW]; exact below_box _ _)
  have HC := Lib.hid (h W HB.out)
  have hr0 : W.rangeAt w.heap.size 0 [.int .i64 0] := by rw [hW]; exact range_box w [_] _
  have ht0 : W.there w.heap.size 0 1 := by rw [hW]; exact there_box w [_] _
  obtain ⟨g, hg⟩ : ∃ g, g = w.heap.size := ⟨_, rfl⟩
  rw [← hg] at hr0 ht0 ⊢
  have HG := Lib.hid (show g = w.heap.size ∧ bR ≠ g ∧ bC ≠ g ∧ g < W.heap.size by rw [hg]; exact ⟨rfl, by omega, by omega, cell_lt (hg ▸ hr0 0 _ rfl)⟩)
  have HR0 := Lib.hid (show W.cell? ⟨g, 0, none⟩ = some (.int .i64 0) ∧ W.frozen? ⟨g, 0, none⟩ = false from ⟨hr0 0 _ rfl, (ht0 0 (by decide)).2⟩)
  clear h hR hC hr0 ht0
  go_enter_defers Try.func42, Try.ntmps42
  go_upto_region 1 with fail
  rw [← hW, ← hg]
  clear hW hg
  go_wp2_with (fail)
  refine HC.out.mono ?_
  rintro x' w1 ⟨rfl, hf, hk⟩
  have k0 : w1.cell? ⟨g, 0, none⟩ = some (.int .i64 0) := by rw [World.cell?_of_block (a := ⟨g, 0, none⟩) (hf.block g HG.out.2.2.2 (fun e => HG.out.2.1 e.symm) (fun e => HG.out.2.2.1 e.symm))]; exact HR0.out.1
  have k1 : w1.frozen? ⟨g, 0, none⟩ = false := by rw [World.frozen?_of_block (a := ⟨g, 0, none⟩) (hf.block g HG.out.2.2.2 (fun e => HG.out.2.1 e.symm) (fun e => HG.out.2.2.1 e.symm))]; exact HR0.out.2
  have HF := Lib.hid hf
  have HK := Lib.hid hk
  clear hf hk
  go_wp2
  refine leaves_cons (f := 57) (args := #[.pointer (some ⟨g, 0, none⟩)]) (by simp) (by simp [go_sem]) ?_
  refine (catch_idle ⟨g, 0, none⟩ _).mono ?_
  rintro e u' w'' ⟨rfl, rfl, rfl⟩
  have k2 : (w1.setCell ⟨g, 0, none⟩ (.int .i64 0)).cell? ⟨g, 0, none⟩ = some (.int .i64 0) := World.cell?_setCell_same _ _ _ k0
  simp [Leaves, settle, results, Try.results42, go_sem, k2]
  exact ⟨((Fz.of HB.out).trans HF.out).new (grown_set _ _ _ _) (Nat.le_of_eq HG.out.1.symm), w1, HK.out, grown_set _ _ _ _⟩
/-- What is read and panics with an error. -/
theorem p_outcome_err {a b c d : Value} {w : World} {bR bC : Nat} {z : Int} (hR : bR < w.heap.size) (hC : bC < w.heap.size)
    (h : ∀ u, Below w.heap.size w u → Calls Try.prog 43 #[a, b, c, d] u fun x w' => x = Pn z ∧ Fz u bR bC w') :
    Calls Try.prog 42 #[.func (.func 43) #[] #[a, b, c, d]] w fun x w' => x = .returned (.int .i64 z) ∧ Fz w bR bC w' := by
  have hmf : ∀ (fn : Fn) (first cap : Array Value) (w : World), (Instr.makeFunc fn first cap).run Try.prog w = .ok (.func fn first cap) w := fun _ _ _ _ => rfl
  obtain ⟨W, hW⟩ : ∃ W, W = w.alloc (.cells #[.int .i64 0] 34) := ⟨_, rfl⟩
  have HB := Lib.hid (show Below w.heap.size w W by rw [hW]; exact below_box _ _)
  have HC := Lib.hid (h W HB.out)
  have hr0 : W.rangeAt w.heap.size 0 [.int .i64 0] := by rw [hW]; exact range_box w [_] _
  have ht0 : W.there w.heap.size 0 1 := by rw [hW]; exact there_box w [_] _
  obtain ⟨g, hg⟩ : ∃ g, g = w.heap.size := ⟨_, rfl⟩
  rw [← hg] at hr0 ht0
  have HG := Lib.hid (show g = w.heap.size ∧ bR ≠ g ∧ bC ≠ g ∧ g < W.heap.size by rw [hg]; exact ⟨rfl, by omega, by omega, cell_lt (hg ▸ hr0 0 _ rfl)⟩)
  have HR0 := Lib.hid (show W.cell? ⟨g, 0, none⟩ = some (.int .i64 0) ∧ W.frozen? ⟨g, 0, none⟩ = false from ⟨hr0 0 _ rfl, (ht0 0 (by decide)).2⟩)
  unfold Pn at HC
  clear h hR hC hr0 ht0
  go_enter_defers Try.func42, Try.ntmps42
  go_upto_region 1 with fail
  rw [← hW, ← hg]
  clear hW hg
  go_wp2_with (fail)
  refine HC.out.mono ?_
  rintro x' w1 ⟨rfl, hf⟩
  have k0 : w1.cell? ⟨g, 0, none⟩ = some (.int .i64 0) := by rw [World.cell?_of_block (a := ⟨g, 0, none⟩) (hf.block g HG.out.2.2.2 (fun e => HG.out.2.1 e.symm) (fun e => HG.out.2.2.1 e.symm))]; exact HR0.out.1
  have k1 : w1.frozen? ⟨g, 0, none⟩ = false := by rw [World.frozen?_of_block (a := ⟨g, 0, none⟩) (hf.block g HG.out.2.2.2 (fun e => HG.out.2.1 e.symm) (fun e => HG.out.2.2.1 e.symm))]; exact HR0.out.2
  have HF := Lib.hid hf
  clear hf
  refine leaves_cons (f := 57) (args := #[.pointer (some ⟨g, 0, none⟩)]) (by simp) (by simp [go_sem]) ?_
  refine (catch_panicking ⟨g, 0, none⟩ 0 z [] _ k0 k1).mono ?_
  rintro e u' w'' ⟨rfl, rfl, rfl⟩
  have k2 : (w1.setCell ⟨g, 0, none⟩ (.int .i64 z)).cell? ⟨g, 0, none⟩ = some (.int .i64 z) := World.cell?_setCell_same _ _ _ k0
  simp [Leaves, settle, results, Try.results42, go_sem, k2]
  exact ((Fz.of HB.out).trans HF.out).new (grown_set _ _ _ _) (Nat.le_of_eq HG.out.1.symm)
end Go.Proofs.Ytfjfnbeegojlbaa
