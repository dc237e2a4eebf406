/-
  Patterns' blocks: read, stored and returned whole; package pattern's clone, blank and Area.line.
-/
import Derived.Test.YtfjfnbeegojlbaaPMem
namespace Go.Proofs.Ytfjfnbeegojlbaa
open Go.RowKit

/-- A pattern's block, which may be written. -/
def Pb (w : World) (b : Nat) (r : Int) (v : Value) : Prop := w.rangeAt b 0 [.int .i64 r, v] ∧ w.there b 0 2
theorem pb_box (w : World) (r : Int) (v : Value) (t : TypeId) : Pb (w.alloc (.cells #[.int .i64 r, v] t)) w.heap.size r v := ⟨range_box w [.int .i64 r, v] t, there_box w [.int .i64 r, v] t⟩
theorem Pb.lt {w : World} {b : Nat} {r : Int} {v : Value} (h : Pb w b r v) : b < w.heap.size := cell_lt (h.1 0 _ rfl)
theorem Pb.low {w w' : World} {b B : Nat} {r : Int} {v : Value} (h : Pb w b r v) (hb : Below B w w') (hl : b < B) : Pb w' b r v := ⟨range_below h.1 hb hl, there_below h.2 hb hl⟩
theorem Pb.kept {w w' : World} {b : Nat} {r : Int} {v : Value} (h : Pb w b r v) (hb : Below w.heap.size w w') : Pb w' b r v := h.low hb h.lt
theorem Pb.cells {w : World} {b : Nat} {r : Int} {v : Value} (h : Pb w b r v) : w.cell? ⟨b, 0, none⟩ = some (.int .i64 r) ∧ w.cell? ⟨b, 1, none⟩ = some v ∧ w.frozen? ⟨b, 0, none⟩ = false ∧ w.frozen? ⟨b, 1, none⟩ = false := ⟨h.1 0 _ rfl, h.1 1 _ rfl, (h.2 0 (by decide)).2, (h.2 1 (by decide)).2⟩
theorem Pb.set1 {w : World} {b : Nat} {r : Int} {v : Value} (h : Pb w b r v) (u : Value) : Pb (w.setCell ⟨b, 1, none⟩ u) b r u := ⟨by have := range_set_in (p := 1) (v := u) h.1 (by simp); simpa using this, there_set h.2⟩
theorem range_grown {w w' : World} {b c o : Nat} {cs : List Value} (h : w.rangeAt b o cs) (hg : w.grownBy w' (some c)) (hne : b ≠ c) (hl : b < w.heap.size) : w'.rangeAt b o cs := by
  intro j v hv
  rw [World.cell?_of_block (a := ⟨b, o + j, none⟩) (hg.block b hl (by simpa using hne))]
  exact h j v hv
theorem there_grown {w w' : World} {b c o n : Nat} (h : w.there b o n) (hg : w.grownBy w' (some c)) (hne : b ≠ c) (hl : b < w.heap.size) : w'.there b o n := by
  have hb := hg.block b hl (by simpa using hne)
  intro j hj
  rw [World.cell?_of_block (a := ⟨b, o + j, none⟩) hb, World.frozen?_of_block (a := ⟨b, o + j, none⟩) hb]
  exact h j hj
theorem Pb.grown {w w' : World} {b c : Nat} {r : Int} {v : Value} (h : Pb w b r v) (hg : w.grownBy w' (some c)) (hne : b ≠ c) : Pb w' b r v := ⟨range_grown h.1 hg hne h.lt, there_grown h.2 hg hne h.lt⟩
theorem Kr.grown {w w' : World} {g c : Nat} {l : List Pt.Cl} (h : Kr w g l) (hg : w.grownBy w' (some c)) (hne : g ≠ c) : Kr w' g l := ⟨Nat.lt_of_lt_of_le h.1 hg.size, range_grown h.2.1 hg hne h.1, there_grown h.2.2 hg hne h.1⟩
theorem Own.grown {w w' : World} {B c : Nat} {p : Option Addr} {l : List Pt.Cl} (h : Own w B p l) (hg : w.grownBy w' (some c)) (hc : c < B) : Own w' B p l := by
  rcases h with h | ⟨g, hp, hb, h⟩
  · exact .inl h
  · exact .inr ⟨g, hp, hb, h.grown hg (by omega)⟩
theorem pat_one (r : Int) (p : Option Addr) (n cap : Nat) : (#[.int .i64 r, .slice p n cap] : Array Value).all (·.oneCell') = true := by simp [Value.oneCell']
theorem Try.infoPat : (Try.prog.info? 24).map (·.size) = some 2 := by kernel_rfl
section
variable {ops : Array Oper} {rest : List Oper} {op : Oper} {a : Act} {w : World} {Q : Exit → Act → World → Prop}
/-- A pattern is read whole. -/
theorem ld_pat (hw : Region.wanted op (yielded ops a.tmps) = true) (x : Operand) (ho : op.op = .load 24 x) {b : Nat} (hx : a.eval x = .pointer (some ⟨b, 0, none⟩)) {r : Int} {v : Value} (hr : w.rangeAt b 0 [.int .i64 r, v])
    (h : wpList Try.prog ops Q rest (a.put op.dst (.agg #[.int .i64 r, v])) w) : wpList Try.prog ops Q (op :: rest) a w := by
  simp only [wpList, hw, if_true]
  exact .inl <| wp_load_mid 24 x ho b 0 hx [.int .i64 r, v] _ hr Try.underlying24 rfl Try.infoPat h
/-- A pattern is stored whole. -/
theorem st_pat (hw : Region.wanted op (yielded ops a.tmps) = true) (x y : Operand) (ho : op.op = .store 24 x y) {b : Nat} (hx : a.eval x = .pointer (some ⟨b, 0, none⟩)) {r : Int} {p : Option Addr} {n cap : Nat} (hy : a.eval y = .agg #[.int .i64 r, .slice p n cap]) (ht : w.there b 0 2)
    (h : ∀ w', Pb w' b r (.slice p n cap) → w.grownBy w' (some b) → wpList Try.prog ops Q rest (a.put op.dst undef) w') : wpList Try.prog ops Q (op :: rest) a w := by
  simp only [wpList, hw, if_true]
  refine .inl <| wp_store_mid 24 x y ho b 0 #[.int .i64 r, .slice p n cap] hx hy ht Try.infoPat (pat_one r p n cap) ?_
  exact h _ ⟨World.rangeAt_setCells_same w b 0 _ ht, World.there_setCells ht b 0 _⟩ (grown_setCells b _ 0 w)
end
theorem res_p {fn : Func} {q : Tmp} (hf : fn.results = #[.cell q 24]) {tmps : Array Value} {w : World} {b : Nat} (hp : tmps.getD q undef = .pointer (some ⟨b, 0, none⟩)) {r : Int} {v : Value} (h : w.rangeAt b 0 [.int .i64 r, v]) :
    (results fn tmps).run Try.prog w = .ok (.agg #[.int .i64 r, v]) w := by
  simp only [results, hf]
  have hp' : tmps[q]?.getD undef = .pointer (some ⟨b, 0, none⟩) := by simpa using hp
  simp [hp', asAddr, run_loadVar_mid w b 0 24 [.int .i64 r, v] _ h Try.underlying24 rfl Try.infoPat]
theorem res_pe {fn : Func} {q u : Tmp} (hf : fn.results = #[.cell q 24, .tmp u]) {tmps : Array Value} {w : World} {b : Nat} (hp : tmps.getD q undef = .pointer (some ⟨b, 0, none⟩)) {r : Int} {v x : Value} (h : w.rangeAt b 0 [.int .i64 r, v]) (hv : tmps.getD u undef = x) :
    (results fn tmps).run Try.prog w = .ok (.tuple #[.agg #[.int .i64 r, v], x]) w := by
  rw [results_cell_tmp hf, hp, hv]
  simp [Result.andThen, asAddr, run_loadVar_mid w b 0 24 [.int .i64 r, v] _ h Try.underlying24 rfl Try.infoPat]
set_option maxHeartbeats 1600000 in
theorem p_clone (r : Int) (l : List Pt.Cl) (p : Option Addr) (cap : Nat) (w : World) (hd : CellsAt w p l) (hl : (l.length : Int) ≤ 1024) :
    Calls Try.prog 31 #[PV r p l.length cap] w fun x w' => RetP r l w.heap.size x w' ∧ Below w.heap.size w w' := by
  obtain ⟨V, hV⟩ : ∃ V, V = w.alloc (.cells #[.int .i64 r, .slice p l.length cap] 24) := ⟨_, rfl⟩
  obtain ⟨W, hW⟩ : ∃ W, W = V.alloc (.cells #[.int .i64 0, .slice none 0 0] 24) := ⟨_, rfl⟩
  have v1 : Below w.heap.size w V := by rw [hV]; exact below_box _ _
  have v2 : Below V.heap.size V W := by rw [hW]; exact below_box _ _
  have s1 : V.heap.size = w.heap.size + 1 := by rw [hV]; simp
  have s2 : W.heap.size = w.heap.size + 2 := by rw [hW]; simp [s1]
  have hk : Pb W w.heap.size r (.slice p l.length cap) := (show Pb V _ _ _ by rw [hV]; exact pb_box _ _ _ _).kept v2
  have hq : Pb W (w.heap.size + 1) 0 (.slice none 0 0) := by rw [hW, ← s1]; exact pb_box _ _ _ _
  have HB := Lib.hid (stepB v1 v2)
  have C1 := Lib.hid (p_Clone l p cap W (hd.below (stepB v1 v2)) hl)
  have HZ := Lib.hid s2
  obtain ⟨b, hb⟩ : ∃ b, b = w.heap.size := ⟨_, rfl⟩
  rw [← hb] at hk hq HZ s1
  have HK := Lib.hid hk
  have HQ := Lib.hid hq
  have HBE := Lib.hid hb
  have ⟨k0, k1, k2, k3⟩ := hk.cells
  unfold PV
  clear hd v1 v2 s2 hk hq
  go_enter Try.func31, Try.ntmps31
  go_upto_region 1 with fail
  rw [← hV, ← hW, ← hb, ← s1]
  clear hW hV hb
  go_wp2_with (first | (go_at_call 34; ((with_reducible refine (C1.out).mono ?_); rintro x' w1 ⟨⟨q, cap', rfl, hc1, ho1⟩, hb1⟩; have HB1 := Lib.hid hb1; have HO1 := Lib.hid ho1; have HC1 := Lib.hid hc1; have HK1 := Lib.hid (HK.out.kept hb1); have HQ1 := Lib.hid (HQ.out.kept hb1); clear hc1 ho1 hb1 k0 k1 k2 k3; obtain ⟨k0, k1, k2, k3⟩ := HK1.out.cells)) | (refine ld_pat (by rfl) _ rfl rfl (HK1.out.set1 _).1 ?_) | ((refine st_pat (by rfl) _ _ rfl rfl rfl (HQ1.out.grown (grown_set _ _ _ _) (by omega)).2 ?_); intro w2 h2 g2; have H2 := Lib.hid h2; have G2 := Lib.hid g2; clear h2 g2))
  refine bodyPost_ret (res_p rfl rfl H2.out.1) rfl ⟨⟨q, cap', rfl, HC1.out, ?_⟩, ?_⟩
  · have e : w.heap.size ≤ W.heap.size := HB.out.size
    refine ((HO1.out.grown (grown_set _ _ _ _) (c := b) ?_).grown G2.out ?_).mono e
    all_goals
      have := HZ.out
      omega
  · have e1 := HBE.out
    have e2 := HZ.out
    have e3 := HB1.out.size
    refine grown_at ((stepB HB.out HB1.out).setCell (p := ⟨b, 1, none⟩) (by show w.heap.size ≤ b; omega) _) (by omega) (by simp; omega) G2.out
set_option maxHeartbeats 1600000 in
theorem p_blank (R C : Nat) (w : World) (hn : R * C ≤ 1024) :
    Calls Try.prog 28 #[.int .i64 R, .int .i64 C] w fun x w' => RetP R (List.replicate (R * C) Pt.zc) w.heap.size x w' ∧ Below w.heap.size w w' := by
  obtain ⟨i0, hinf, hz0, hz1, hz2⟩ := info_parts Try.infoCell
  obtain ⟨W, hW⟩ : ∃ W, W = w.alloc (.cells #[.int .i64 0, .slice none 0 0] 24) := ⟨_, rfl⟩
  have HB := Lib.hid (show Below w.heap.size w W by rw [hW]; exact below_box _ _)
  have HZ := Lib.hid (show W.heap.size = w.heap.size + 1 by rw [hW]; simp)
  have HQ := Lib.hid (show Pb W w.heap.size 0 (.slice none 0 0) by rw [hW]; exact pb_box _ _ _ _)
  obtain ⟨n, hn0⟩ : ∃ n, R * C = n := ⟨_, rfl⟩
  have hm : (R : Int) * (C : Int) = (n : Int) := by rw [← hn0, Int.natCast_mul]
  rw [hn0] at hn ⊢
  have hn1 : (n : Int) ≤ 1024 := by omega
  obtain ⟨b, hb⟩ : ∃ b, b = w.heap.size := ⟨_, rfl⟩
  rw [← hb] at HZ HQ
  have HBE := Lib.hid hb
  clear hn0 hn
  go_enter Try.func28, Try.ntmps28
  go_upto_region 1 with fail
  rw [← hW, ← hb]
  clear hW hb
  go_wp2_with (first | (at_make; go_loud (refine wpList_make_full _ rfl _ _ 22 rfl W.heap.size 28 i0 (.agg #[.int .i64 0, .int .i64 0, .int .i64 0, .int .i64 0, .int .i64 0, .int .i64 0]) 6 Try.underlying22 hinf hz0 hz1 .i64 .i64 _ _ n rfl rfl rfl rfl (by rw [hz2]; omega) (by unfold maxLen; omega) (Nat.le_refl _) ?_; intro w3 hown3 hgrow3; have HR3 := Lib.hid (show w3.ownsRow W.heap.size 28 6 (.slice (some ⟨W.heap.size, 0, none⟩) n n) n (cc (List.replicate n Pt.zc)) by rw [← made_cells]; exact hown3); have HB3 := Lib.hid (grown_below hgrow3); clear hown3 hgrow3)) | ((refine st_pat (by rfl) _ _ rfl rfl rfl (HQ.out.kept HB3.out).2 ?_); intro w2 h2 g2; have H2 := Lib.hid h2; have G2 := Lib.hid g2; clear h2 g2))
  obtain ⟨q, cap, e, h1, h2⟩ := rows_own HR3.out (by simp)
  have e1 := HBE.out
  have e2 := HZ.out
  have e3 := HB3.out.size
  have e4 := HB.out.size
  refine bodyPost_ret (res_p rfl rfl H2.out.1) rfl ⟨⟨q, cap, by rw [e]; rfl, h1, (h2.grown G2.out (by omega)).mono e4⟩, grown_at (stepB HB.out HB3.out) (by omega) (by omega) G2.out⟩
set_option maxHeartbeats 1600000 in
theorem p_line (R0 C0 W0 i C F M : Nat) (h r : Int) (b off n cap : Nat) (w : World) (hM : (R0 + i) * C = M) (hF : M + C0 = F) (hr : R0 + i ≤ 1000) (hw : 1 ≤ W0) (hn : F + W0 ≤ n) (hc : n ≤ cap) (hb : n ≤ 1024) :
    Calls Try.prog 29 #[.agg #[.int .i64 R0, .int .i64 C0, .int .i64 h, .int .i64 W0], .agg #[.int .i64 r, .slice (some ⟨b, off, none⟩) n cap], .int .i64 C, .int .i64 i] w fun x w' => x = .returned (.slice (some ⟨b, off + F * 6, none⟩) W0 (cap - F)) ∧ Below w.heap.size w w' := by
  have hM' : ((R0 : Int) + (i : Int)) * (C : Int) = (M : Int) := by rw [← hM, Int.natCast_mul, Int.natCast_add]
  have hF' : (M : Int) + (C0 : Int) = (F : Int) := by omega
  have m1 : (M : Int) ≤ 1024 := by omega
  have m2 : (F : Int) ≤ 1024 := by omega
  have m3 : (W0 : Int) ≤ 1024 := by omega
  have m4 : (R0 : Int) + (i : Int) ≤ 1000 := by omega
  have m5 : (C0 : Int) ≤ 1024 := by omega
  have m6 : F ≤ cap := by omega
  have m7 : F + W0 ≤ cap := by omega
  have m8 : ¬ cap = F := by omega
  clear hM hF hr hn hb
  go_enter Try.func29, Try.ntmps29
  go_wp2
  go_ret
  exact ⟨by show Ending.returned (.slice _ (F + W0 - F) _) = _; rw [Nat.add_sub_cancel_left], stepB (below_box _ _) (below_box _ _)⟩
end Go.Proofs.Ytfjfnbeegojlbaa
