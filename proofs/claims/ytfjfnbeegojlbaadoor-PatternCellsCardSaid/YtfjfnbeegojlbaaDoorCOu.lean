/-
  Package pattern's outcome over the literal of Parse; Parse.
-/
import Derived.Test.YtfjfnbeegojlbaaDoorCRc
import Derived.Defers
import Derived.Recover
import Derived.Laws.Pointers
namespace Go.Proofs.YtfjfnbeegojlbaaDoor
open Go.RowKit

theorem assert_err (z : Int) (w : World) : (Instr.typeAssert (.iface 24 (.int .i64 z)) 20 24 true).run Tryd.prog w = .ok (.tuple #[.int .i64 z, .bool true]) w := by
  kernel_rfl
theorem assert_nil (w : World) : (Instr.typeAssert .nilIface 20 24 true).run Tryd.prog w = .ok (.tuple #[.int .i64 0, .bool false]) w := by
  kernel_rfl
set_option maxRecDepth 20000 in
theorem catch_panicking (p : Addr) (x z : Int) (older : List PanicEntry) (w : World) (hc : w.cell? p = some (.int .i64 x)) (hz : w.frozen? p = false) :
    CallsD Tryd.prog 45 #[.pointer (some p)] (.panicking ({ v := .iface 24 (.int .i64 z), recovered := false } :: older)) w fun e u' w' =>
      e = .returned (.tuple #[]) ∧ u' = .panicking ({ v := .iface 24 (.int .i64 z), recovered := true } :: older) ∧ w' = w.setCell p (.int .i64 z) := by
  refine callsD_of_wpS Tryd.func45 rfl fun c₀ cs hu => ?_
  have hta := assert_err z
  have e : (#[Value.pointer (some p)] ++ Array.replicate (Tryd.f45.ntmps - #[Value.pointer (some p)].size) undef) = #[.pointer (some p), undef, undef, undef, undef, undef, undef, undef, undef, undef] := by kernel_rfl
  rw [e]
  apply wpS_seq
  apply wpS_region
  simp [wpOpsS, go_sem, recoverD, hu, Exit.thenS, hta]
  apply wpS_seq
  apply wpS_region
  simp [wpOpsS, go_sem, Exit.thenS]
  refine wpS_cond (t := true) (by simp [Act.eval]) ?_
  simp only [if_true]
  apply wpS_region
  simp [wpOpsS, go_sem, hc, hz, bodyPostS, results, Tryd.results45]
set_option maxRecDepth 20000 in
theorem catch_idle (p : Addr) (w : World) :
    CallsD Tryd.prog 45 #[.pointer (some p)] .returning w fun e u' w' => e = .returned (.tuple #[]) ∧ u' = .returning ∧ w' = w := by
  refine callsD_of_wpS Tryd.func45 rfl fun c₀ cs hu => ?_
  have hta := assert_nil
  have e : (#[Value.pointer (some p)] ++ Array.replicate (Tryd.f45.ntmps - #[Value.pointer (some p)].size) undef) = #[.pointer (some p), undef, undef, undef, undef, undef, undef, undef, undef, undef] := by kernel_rfl
  rw [e]
  apply wpS_seq
  apply wpS_region
  simp [wpOpsS, go_sem, recoverD, hu, Exit.thenS, hta]
  apply wpS_seq
  apply wpS_region
  simp [wpOpsS, go_sem, Exit.thenS]
  refine wpS_cond (t := false) (by simp [Act.eval]) ?_
  simp only [Bool.false_eq_true, if_false]
  refine wpS_of_wp (wp_skip ?_)
  cases c₀
  simp_all [bodyPostS, results, Tryd.results45]
theorem grown_new {w w1 w2 : World} {b g : Nat} (h : w.grownBy w1 (some b)) (hg : w1.grownBy w2 (some g)) (hn : w.heap.size ≤ g) : w.grownBy w2 (some b) :=
  ⟨hg.os.trans h.os, hg.tape.trans h.tape, hg.output.trans h.output, Nat.le_trans h.size hg.size, fun k hk h1 => (hg.block k (Nat.lt_of_lt_of_le hk h.size) (fun e => by simp at e; omega)).trans (h.block k hk h1)⟩
/-- What is read and doesn't panic. -/
theorem p_outcome_ok {a b : Value} {w : World} {bC : Nat} {K : World → Prop} (hC : bC < w.heap.size)
    (h : ∀ u, Below w.heap.size w u → Calls Tryd.prog 19 #[a, b] u fun x w' => x = .returned (.tuple #[]) ∧ u.grownBy w' (some bC) ∧ K w') :
    Calls Tryd.prog 18 #[.func (.func 19) #[] #[a, b]] w fun x w' => x = .returned (.int .i64 0) ∧ w.grownBy w' (some bC) ∧ ∃ w1, K w1 ∧ w1.grownBy w' (some w.heap.size) := by
  have hmf : ∀ (fn : Fn) (first cap : Array Value) (w : World), (Instr.makeFunc fn first cap).run Tryd.prog w = .ok (.func fn first cap) w := fun _ _ _ _ => rfl
  obtain ⟨W, hW⟩ : ∃ W, W = w.alloc (.cells #[.int .i64 0] 24) := ⟨_, rfl⟩
  have HB := Lib.hid (show Below w.heap.size w W by rw [hW]; exact below_box _ _)
  have HC := Lib.hid (h W HB.out)
  have hr0 : W.rangeAt w.heap.size 0 [.int .i64 0] := by rw [hW]; exact range_box w [_] _
  have ht0 : W.there w.heap.size 0 1 := by rw [hW]; exact there_box w [_] _
  obtain ⟨g, hg⟩ : ∃ g, g = w.heap.size := ⟨_, rfl⟩
  rw [← hg] at hr0 ht0 ⊢
  have HG := Lib.hid (show g = w.heap.size ∧ bC ≠ g ∧ g < W.heap.size by rw [hg]; exact ⟨rfl, by omega, cell_lt (hg ▸ hr0 0 _ rfl)⟩)
  have HR0 := Lib.hid (show W.cell? ⟨g, 0, none⟩ = some (.int .i64 0) ∧ W.frozen? ⟨g, 0, none⟩ = false from ⟨hr0 0 _ rfl, (ht0 0 (by decide)).2⟩)
  clear h hC hr0 ht0
  go_enter_defers Tryd.func18, Tryd.ntmps18
  go_upto_region 1 with fail
  rw [← hW, ← hg]
  clear hW hg
  go_wp2_with (fail)
  refine HC.out.mono ?_
  rintro x' w1 ⟨rfl, hf, hk⟩
  have k0 : w1.cell? ⟨g, 0, none⟩ = some (.int .i64 0) := by rw [World.cell?_of_block (a := ⟨g, 0, none⟩) (hf.block g HG.out.2.2 (by have := HG.out.2.1; simp; omega))]; exact HR0.out.1
  have k1 : w1.frozen? ⟨g, 0, none⟩ = false := by rw [World.frozen?_of_block (a := ⟨g, 0, none⟩) (hf.block g HG.out.2.2 (by have := HG.out.2.1; simp; omega))]; exact HR0.out.2
  have HF := Lib.hid hf
  have HK := Lib.hid hk
  clear hf hk
  go_wp2
  refine leaves_cons (f := 45) (args := #[.pointer (some ⟨g, 0, none⟩)]) (by simp) (by simp [go_sem]) ?_
  refine (catch_idle ⟨g, 0, none⟩ _).mono ?_
  rintro e u' w'' ⟨rfl, rfl, rfl⟩
  have k2 : (w1.setCell ⟨g, 0, none⟩ (.int .i64 0)).cell? ⟨g, 0, none⟩ = some (.int .i64 0) := World.cell?_setCell_same _ _ _ k0
  simp [Leaves, settle, results, Tryd.results18, go_sem, k2]
  exact ⟨grown_new (grownBy_trans (grownBy_of HB.out) HF.out) (grown_set _ _ _ _) (Nat.le_of_eq HG.out.1.symm), w1, HK.out, grown_set _ _ _ _⟩
/-- What is read and panics with an error. -/
theorem p_outcome_err {a b : Value} {w : World} {z : Int}
    (h : ∀ u, Below w.heap.size w u → Calls Tryd.prog 19 #[a, b] u fun x w' => x = Pn z ∧ Below u.heap.size u w') :
    Calls Tryd.prog 18 #[.func (.func 19) #[] #[a, b]] w fun x w' => x = .returned (.int .i64 z) ∧ Below w.heap.size w w' := by
  have hmf : ∀ (fn : Fn) (first cap : Array Value) (w : World), (Instr.makeFunc fn first cap).run Tryd.prog w = .ok (.func fn first cap) w := fun _ _ _ _ => rfl
  obtain ⟨W, hW⟩ : ∃ W, W = w.alloc (.cells #[.int .i64 0] 24) := ⟨_, rfl⟩
  have HB := Lib.hid (show Below w.heap.size w W by rw [hW]; exact below_box _ _)
  have HC := Lib.hid (h W HB.out)
  have hr0 : W.rangeAt w.heap.size 0 [.int .i64 0] := by rw [hW]; exact range_box w [_] _
  have ht0 : W.there w.heap.size 0 1 := by rw [hW]; exact there_box w [_] _
  obtain ⟨g, hg⟩ : ∃ g, g = w.heap.size := ⟨_, rfl⟩
  rw [← hg] at hr0 ht0
  have HG := Lib.hid (show g = w.heap.size ∧ g < W.heap.size by rw [hg]; exact ⟨rfl, cell_lt (hg ▸ hr0 0 _ rfl)⟩)
  have HR0 := Lib.hid (show W.cell? ⟨g, 0, none⟩ = some (.int .i64 0) ∧ W.frozen? ⟨g, 0, none⟩ = false from ⟨hr0 0 _ rfl, (ht0 0 (by decide)).2⟩)
  unfold Pn at HC
  clear h hr0 ht0
  go_enter_defers Tryd.func18, Tryd.ntmps18
  go_upto_region 1 with fail
  rw [← hW, ← hg]
  clear hW hg
  go_wp2_with (fail)
  refine HC.out.mono ?_
  rintro x' w1 ⟨rfl, hf⟩
  have k0 : w1.cell? ⟨g, 0, none⟩ = some (.int .i64 0) := kept_cell hf HR0.out.1
  have k1 : w1.frozen? ⟨g, 0, none⟩ = false := by rw [hf.frozen (p := ⟨g, 0, none⟩) HG.out.2]; exact HR0.out.2
  have HF := Lib.hid hf
  clear hf
  refine leaves_cons (f := 45) (args := #[.pointer (some ⟨g, 0, none⟩)]) (by simp) (by simp [go_sem]) ?_
  refine (catch_panicking ⟨g, 0, none⟩ 0 z [] _ k0 k1).mono ?_
  rintro e u' w'' ⟨rfl, rfl, rfl⟩
  have k2 : (w1.setCell ⟨g, 0, none⟩ (.int .i64 z)).cell? ⟨g, 0, none⟩ = some (.int .i64 z) := World.cell?_setCell_same _ _ _ k0
  simp [Leaves, settle, results, Tryd.results18, go_sem, k2]
  exact grown_at (stepB HB.out HF.out) (Nat.le_of_eq HG.out.1.symm) (by have := HB.out.size; have := HF.out.size; omega) (grown_set _ _ _ _)
theorem p_Parse1_ok {w : World} (hm : MaxIs w) {bt bC : Nat} (s : ByteArray) (hs : s.size ≤ 140737488355328) (ht : w.cell? ⟨bt, 0, none⟩ = some (.string s)) (hC : w.there bC 0 6) {c : Pt.Cl} (h : Pt.prT (Pt.spl s.data.toList) = some c) :
    Calls Tryd.prog 19 #[.pointer (some ⟨bt, 0, none⟩), .pointer (some ⟨bC, 0, none⟩)] w fun x w' => x = .returned (.tuple #[]) ∧ w.grownBy w' (some bC) ∧ w'.rangeAt bC 0 (CL c) ∧ w'.there bC 0 6 := by
  have C := Lib.hid (p_readCell hm s hs)
  rw [h] at C
  unfold RdC at C
  simp only at C
  have HT := Lib.hid hC
  have hl : bC < w.heap.size := by
    obtain ⟨v, hv⟩ := Option.isSome_iff_exists.1 (hC 0 (by decide)).1
    exact cell_lt hv
  have HL := Lib.hid hl
  clear hs hC h hm hl
  go_enter Tryd.func19, Tryd.ntmps19
  go_wp2_with (first | (go_at_call 20; ((with_reducible refine (C.out).mono ?_); rintro x' w1 ⟨rfl, hb1⟩; have HB1 := Lib.hid hb1; have HT1 := Lib.hid (there_below HT.out hb1 HL.out); clear hb1)) | ((refine st_cell (c := c) (by rfl) _ _ rfl rfl rfl HT1.out ?_); rintro w2 e2; have HR2 := Lib.hid (show w2.rangeAt bC 0 (CL c) ∧ w2.there bC 0 6 ∧ w1.grownBy w2 (some bC) by rw [e2]; exact ⟨World.rangeAt_setCells_same w1 bC 0 (CL c) HT1.out, World.there_setCells HT1.out bC 0 (CL c), grown_setCells _ _ _ _⟩); clear e2))
  go_end0
  exact ⟨rfl, grownBy_trans (grownBy_of HB1.out) HR2.out.2.2, HR2.out.1, HR2.out.2.1⟩
theorem p_Parse1_bad {w : World} (hm : MaxIs w) {bt bC : Nat} (s : ByteArray) (hs : s.size ≤ 140737488355328) (ht : w.cell? ⟨bt, 0, none⟩ = some (.string s)) (h : Pt.prT (Pt.spl s.data.toList) = none) :
    Calls Tryd.prog 19 #[.pointer (some ⟨bt, 0, none⟩), .pointer (some ⟨bC, 0, none⟩)] w fun x w' => x = Pn 2 ∧ Below w.heap.size w w' := by
  have C := Lib.hid (p_readCell hm s hs)
  rw [h] at C
  unfold RdC Pn at C
  simp only at C
  clear hs h hm
  go_enter Tryd.func19, Tryd.ntmps19
  go_wp2_with (first | (go_at_call 20; ((with_reducible refine (C.out).mono ?_); rintro x' w1 ⟨rfl, hb1⟩)))
  exact ⟨rfl, rfl, hb1⟩
end Go.Proofs.YtfjfnbeegojlbaaDoor
