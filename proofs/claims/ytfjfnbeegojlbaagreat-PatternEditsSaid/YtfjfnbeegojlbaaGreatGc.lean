/-
  Cells appended to a row of one's own, also as a step of a region that draws; the reference's copied. The reference's lies.
-/
import Derived.Test.YtfjfnbeegojlbaaGreatGe
import Derived.Test.YtfjfnbeegojlbaaGreatGb
import Derived.Deep.AppendLies
import Derived.Deep.RegionLaw
namespace Go.Proofs.YtfjfnbeegojlbaaGreat
open Go.RowKit

theorem run_append_cells0 {w : World} {D n : Nat} {v : Value} {xs : List Value} (hb : w.ownsRow D 28 6 v n xs) (p : Option Addr) (c : Nat) (ty : TypeId) :
    (Builtin.append_ #[22, 22] ty #[v, .slice p 0 c]).run Tryz.prog w = .ok v w := by
  obtain ⟨i0, hinf, hz0, hz1, hz2⟩ := info_parts Tryz.infoCell
  have hl : ∀ (x : Addr), (loadCells x 0).run Tryz.prog w = .ok #[] w := fun x => by simpa using run_loadCells_list (P := Tryz.prog) w x [] (by simp)
  rcases hb.2 with ⟨rfl, h0⟩ | ⟨g, cap, cur, rfl, _, _, hnc, _⟩
  · cases p <;> simp [Builtin.append_, run_underlying Tryz.underlying22, sizeOf, typeInfo, hinf, Builtin.lenOf, Builtin.firstCells, hl]
  · cases p <;> simp [Builtin.append_, run_underlying Tryz.underlying22, sizeOf, typeInfo, hinf, Builtin.lenOf, Builtin.firstCells, hnc, storeCells, hl]
/-- Cells in a row of one's own, which may grow. -/
def Oc (w : World) (D : Nat) (v : Value) (l : List Pt.Cl) : Prop := w.ownsRow D 28 6 v l.length (cc l)
theorem Oc.slice {w : World} {D : Nat} {v : Value} {l : List Pt.Cl} (h : Oc w D v l) : ∃ p cap, v = .slice p l.length cap := by
  rcases h.2 with ⟨rfl, h0⟩ | ⟨g, cap, cur, rfl, _⟩
  · exact ⟨none, 0, by rw [h0]⟩
  · exact ⟨_, cap, rfl⟩
theorem Oc.lt {w : World} {D : Nat} {v : Value} {l : List Pt.Cl} (h : Oc w D v l) : ∀ g, v.ownBlock = some g → D ≤ g ∧ g < w.heap.size := World.ownsRow.lt h
theorem Oc.kept {w w' : World} {D : Nat} {v : Value} {l : List Pt.Cl} (h : Oc w D v l) (hb : Below w.heap.size w w') : Oc w' D v l := World.ownsRow.kept h (grownBy_of (g := none) hb) (by cases e : v.ownBlock with | none => exact .inl rfl | some g => exact .inr (by simp))
theorem Oc.grown {w w' : World} {D c : Nat} {v : Value} {l : List Pt.Cl} (h : Oc w D v l) (hg : w.grownBy w' (some c)) (hne : v.ownBlock ≠ some c) : Oc w' D v l := World.ownsRow.kept h hg (.inr hne)
theorem Oc.mono {w : World} {D B : Nat} {v : Value} {l : List Pt.Cl} (h : Oc w D v l) (hb : B ≤ D) : Oc w B v l := ⟨h.1, h.2.imp id fun ⟨g, cap, cur, e, h1, h2⟩ => ⟨g, cap, cur, e, Nat.le_trans hb h1, h2⟩⟩
theorem Oc.own {w : World} {D : Nat} {v : Value} {l : List Pt.Cl} (h : Oc w D v l) : ∃ p cap, v = .slice p l.length cap ∧ l.length ≤ cap ∧ Own w D p l := rows_own h rfl
theorem Oc.nil (w : World) (D : Nat) : Oc w D (.slice none 0 0) [] := World.ownsRow_nil _ _ _ _
theorem oc_empty (w : World) : Oc (w.alloc (.cells #[] 28)) w.heap.size (.slice (some ⟨w.heap.size, 0, none⟩) 0 0) [] :=
  ⟨rfl, .inr ⟨w.heap.size, 0, #[], rfl, Nat.le_refl _, heap_alloc_new _ _, Nat.le_refl _, by unfold maxLen; omega, rfl, rfl⟩⟩
section
variable {ops : Array Oper} {rest : List Oper} {o : Oper} {a : Act} {w : World} {Q : Exit → Act → World → Prop} {K : Act → World → Prop}
theorem wp_app_c (s x : Operand) (ho : o.op = .call { callee := .builtin .append, args := #[s, x], argTypes := #[22, 22] })
    {D nl n : Nat} {v : Value} {l ys : List Pt.Cl} {p : Option Addr} {cap : Nat} (hs : a.eval s = v) (hx : a.eval x = .slice p n cap) (hb : Oc w D v l) (hr : CellsAt w p ys) (hf : l.length = nl ∧ ys.length = n ∧ D ≤ w.heap.size ∧ nl ≤ 100000 ∧ n ≤ 100000)
    (h : ∀ p' cap' w', Oc w' D (.slice p' (nl + n) cap') (l ++ ys) → w.grownBy w' v.ownBlock → (∀ k, Value.ownBlock (.slice p' (nl + n) cap') = some k → v.ownBlock = some k ∨ w.heap.size ≤ k) → K (a.put o.dst (.slice p' (nl + n) cap')) w') : o.wp Tryz.prog a w K Q := by
  obtain ⟨rfl, rfl, hD, hl, hl2⟩ := hf
  by_cases hy : ys.length = 0
  · obtain rfl : ys = [] := List.eq_nil_of_length_eq_zero hy
    obtain ⟨pv, cv, hv⟩ := hb.slice
    have hrun := run_append_cells0 hb p cap o.type
    unfold Oper.wp execOp
    rw [List.length_nil] at hx
    simp [ho, resolve, invoke, builtin, hs, hx, hrun, Result.andThen]
    have h2 := h pv cv w (by rw [List.length_nil, Nat.add_zero, List.append_nil, ← hv]; exact hb) (grownBy_of (Below.refl _ _)) (fun k hk => .inl (by rw [hv]; exact hk))
    rw [List.length_nil, Nat.add_zero, ← hv] at h2
    exact h2
  · rcases hr with rfl | ⟨b, off, rfl, hbl, hr⟩
    · exact absurd rfl hy
    obtain ⟨i0, hinf, hz0, hz1, hz2⟩ := info_parts Tryz.infoCell
    refine wp_append_lies w s x 22 ho D 28 i0 (.agg #[.int .i64 0, .int .i64 0, .int .i64 0, .int .i64 0, .int .i64 0, .int .i64 0]) 6 48 Tryz.underlying22 hinf hz0 hz1 hz2 rfl (by decide) v l.length (cc l) hs hb ⟨b, off, none⟩ ys.length cap (cc ys) hx (by rw [cc_len]) (fun j u hu => by rw [Addr.add_mid]; exact hr j u hu) (cc_one ys) (by omega) (by unfold maxLen; omega) (by omega) hD _ rfl ?_
    intro g cap' w' h2 h3 h4 h5
    refine h _ cap' w' ?_ h3 (fun k hk => ?_)
    rotate_left
    · have e : g = k := by simpa [Value.ownBlock] using hk
      subst e
      exact h4.imp id fun e => by omega
    unfold Oc
    rw [List.length_append, cc_app]
    exact h2
theorem step_app_c (hgd : o.guard = none) {E : Prop} (s x : Operand) (ho : o.op = .call { callee := .builtin .append, args := #[s, x], argTypes := #[22, 22] })
    {D nl n : Nat} {v : Value} {l ys : List Pt.Cl} {p : Option Addr} {cap : Nat} (hs : a.eval s = v) (hx : a.eval x = .slice p n cap) (hb : Oc w D v l) (hr : CellsAt w p ys) (hf : l.length = nl ∧ ys.length = n ∧ D ≤ w.heap.size ∧ nl ≤ 100000 ∧ n ≤ 100000)
    (h : ∀ p' cap' w', Oc w' D (.slice p' (nl + n) cap') (l ++ ys) → w.grownBy w' v.ownBlock → (∀ k, Value.ownBlock (.slice p' (nl + n) cap') = some k → v.ownBlock = some k ∨ w.heap.size ≤ k) → K (a.put o.dst (.slice p' (nl + n) cap')) w') :
    if Region.wanted o (yielded ops a.tmps) = true then Oper.wp Tryz.prog o a w K Q else E := by
  have hw : Region.wanted o (yielded ops a.tmps) = true := by simp [Region.wanted, hgd]
  rw [if_pos hw]
  exact wp_app_c s x ho hs hx hb hr hf h
theorem list_app_c (hgd : o.guard = none) (s x : Operand) (ho : o.op = .call { callee := .builtin .append, args := #[s, x], argTypes := #[22, 22] })
    {D nl n : Nat} {v : Value} {l ys : List Pt.Cl} {p : Option Addr} {cap : Nat} (hs : a.eval s = v) (hx : a.eval x = .slice p n cap) (hb : Oc w D v l) (hr : CellsAt w p ys) (hf : l.length = nl ∧ ys.length = n ∧ D ≤ w.heap.size ∧ nl ≤ 100000 ∧ n ≤ 100000)
    (h : ∀ p' cap' w', Oc w' D (.slice p' (nl + n) cap') (l ++ ys) → w.grownBy w' v.ownBlock → (∀ k, Value.ownBlock (.slice p' (nl + n) cap') = some k → v.ownBlock = some k ∨ w.heap.size ≤ k) → wpList Tryz.prog ops Q rest (a.put o.dst (.slice p' (nl + n) cap')) w') : wpList Tryz.prog ops Q (o :: rest) a w :=
  wpList_plain hgd fun _ hK => wp_app_c s x ho hs hx hb hr hf fun p' cap' w' h1 h2 h3 => hK _ _ (h p' cap' w' h1 h2 h3)
end
/-- A pattern in memory of its own, which may grow. -/
def RetO (r : Int) (l : List Pt.Cl) (B : Nat) (x : Ending) (w' : World) : Prop := ∃ p cap, x = .returned (PV r p l.length cap) ∧ l.length ≤ cap ∧ Own w' B p l ∧ Oc w' B (.slice p l.length cap) l
set_option maxRecDepth 100000 in
set_option maxHeartbeats 3200000 in
theorem r_copied (r : Int) (l : List Pt.Cl) (p : Option Addr) (cap : Nat) (w : World) (hd : CellsAt w p l) (hl : l.length ≤ 1024) :
    Calls Tryz.prog 47 #[PV r p l.length cap] w fun x w' => RetO r l w.heap.size x w' ∧ Below w.heap.size w w' := by
  obtain ⟨W, hW, hB, hs, hp, hr⟩ := two_new' w r (.slice p l.length cap)
  have HB := Lib.hid hB
  have HP := Lib.hid hp
  have HR := Lib.hid hr
  have HS := Lib.hid hs
  have HD := Lib.hid (hd.below hB)
  obtain ⟨b, hb⟩ : ∃ b, b = w.heap.size := ⟨_, rfl⟩
  rw [← hb] at HP HR HS
  have HBE := Lib.hid hb
  obtain ⟨n, hn⟩ : ∃ n, l.length = n := ⟨_, rfl⟩
  have HN := Lib.hid (show l.length = n ∧ n ≤ 1024 from ⟨hn, by omega⟩)
  rw [hn] at hW HP ⊢
  have ⟨k0, k1, _, _⟩ := HP.out.cells
  have HE := Lib.hid (show Oc (W.alloc (.cells #[] 28)).drew W.heap.size (.slice (some ⟨W.heap.size, 0, none⟩) 0 0) [] from (oc_empty W).kept (Below.refl _ _).drew)
  have HF := Lib.hid (show ([] : List Pt.Cl).length = 0 ∧ l.length = n ∧ W.heap.size ≤ (W.alloc (.cells #[] 28)).drew.heap.size ∧ 0 ≤ 100000 ∧ n ≤ 100000 from ⟨rfl, hn, by simp, by omega, by omega⟩)
  have HD1 := Lib.hid (show CellsAt (W.alloc (.cells #[] 28)).drew p l from HD.out.below (below_box W (.cells #[] 28)).drew)
  obtain ⟨j0, j1⟩ := two_cells HP.out (below_box W (.cells #[] 28))
  have HM := Lib.hid (show ∀ w7 : World, (W.alloc (.cells #[] 28)).drew.grownBy w7 (some W.heap.size) → Pb w7 b r (.slice p n cap) ∧ Pb w7 (b + 1) 0 (.slice none 0 0) ∧ Below W.heap.size W w7 from fun w7 g7 => by
    have hb := (below_box W (.cells #[] 28)).drew
    have := HS.out
    exact ⟨(HP.out.kept hb).grown g7 (by omega), (HR.out.kept hb).grown g7 (by omega), grown_at hb (Nat.le_refl _) hb.size g7⟩)
  unfold PV
  clear hd hB hs hp hr hl hn
  go_enter Tryz.func47, Tryz.ntmps47
  go_upto_region 1 with fail
  rw [← hW, ← hb]
  clear hW hb
  go_region_law (first | (refine step_app_c rfl (.tmp 5) (.tmp 7) rfl rfl rfl HE.out HD1.out HF.out ?_; intro p7 c7 w7 h7 g7 a7; (rw [Nat.zero_add, List.nil_append] at h7); have H7 := Lib.hid h7; have M7 := Lib.hid (HM.out _ g7); obtain ⟨z0, z1, _, _⟩ := M7.out.1.cells; obtain ⟨y0, y1, y2, y3⟩ := M7.out.2.1.cells; clear h7 g7 a7))
  all_goals
    obtain ⟨w8, h8⟩ : ∃ w8, w8 = w7.setCells (b + 1) 0 [.int .i64 r, .slice p7 n c7] := ⟨_, rfl⟩
    change Exit.then _ _ _ _ (w7.setCells (b + 1) 0 [.int .i64 r, .slice p7 n c7])
    have hr8 := World.rangeAt_setCells_same w7 (b + 1) 0 [.int .i64 r, .slice p7 n c7] M7.out.2.1.2
    have hg8 := grown_setCells (b + 1) [.int .i64 r, .slice p7 n c7] 0 w7
    rw [← h8] at hr8 hg8 ⊢
    have HR8 := Lib.hid hr8
    have HG8 := Lib.hid hg8
    clear h8 hr8 hg8 k0 k1 j0 j1 z0 z1 y0 y1 y2 y3
    go_wp2
    have e1 := HBE.out
    have e2 := HS.out
    have e3 := M7.out.2.2.size
    obtain ⟨q, cp, e, h1, h2⟩ := H7.out.own
    have e' := e
    rw [HN.out.1] at e
    simp only [Value.slice.injEq, true_and] at e
    obtain ⟨rfl, rfl⟩ := e
    have h3 : Oc w8 w.heap.size (.slice p7 n c7) l := by
      refine Oc.mono (H7.out.grown HG8.out (fun e => ?_)) (B := w.heap.size) (by omega)
      have := (H7.out.lt _ e).1
      omega
    refine bodyPost_ret (res_p rfl rfl HR8.out) rfl ⟨⟨p7, c7, by rw [HN.out.1]; rfl, h1, (h2.grown HG8.out (by omega)).mono (by omega), by rw [HN.out.1]; exact h3⟩, grown_at (stepB HB.out M7.out.2.2) (by omega) (by omega) HG8.out⟩

theorem awi_ref (a : Pt.Ar) (R C : Nat) : Pt.awi a R C = decide ((0 ≤ a.r ∧ a.r < R) ∧ (0 ≤ a.c ∧ a.c < C) ∧ 1 ≤ a.h ∧ a.h ≤ R - a.r ∧ 1 ≤ a.w ∧ a.w ≤ C - a.c) := by
  rw [Bool.eq_iff_iff]
  simp only [Pt.awi, Bool.and_eq_true, Pt.wth_iff, decide_eq_true_eq]
  omega
set_option maxRecDepth 100000 in
set_option maxHeartbeats 3200000 in
theorem r_lies (R C : Nat) (v : Value) (a : Pt.Ar) (w : World) (g1 : 1 ≤ R) (g2 : R ≤ 64) (g3 : 1 ≤ C) (g4 : C ≤ 16) :
    Calls Tryz.prog 50 #[.agg #[.int .i64 R, v], .int .i64 C, AV a] w fun x w' => x = .returned (.bool (Pt.awi a R C)) ∧ Below w.heap.size w w' := by
  obtain ⟨W, hW⟩ : ∃ W, W = (w.alloc (.cells #[.int .i64 R, v] 24)).alloc (.cells #[.int .i64 a.r, .int .i64 a.c, .int .i64 a.h, .int .i64 a.w] 38) := ⟨_, rfl⟩
  have hB : Below w.heap.size w W := by rw [hW]; exact stepB (below_box _ _) (below_box _ _)
  have hk : W.cell? ⟨w.heap.size, 0, none⟩ = some (.int .i64 R) := by
    rw [hW]
    refine kept_cell (below_box _ _) ?_
    simp
  have ha : W.cell? ⟨w.heap.size + 1, 0, none⟩ = some (.int .i64 a.r) ∧ W.cell? ⟨w.heap.size + 1, 1, none⟩ = some (.int .i64 a.c) ∧ W.cell? ⟨w.heap.size + 1, 2, none⟩ = some (.int .i64 a.h) ∧ W.cell? ⟨w.heap.size + 1, 3, none⟩ = some (.int .i64 a.w) := by
    rw [hW]
    have e : (w.alloc (.cells #[.int .i64 R, v] 24)).heap.size = w.heap.size + 1 := by simp
    rw [← e]
    refine ⟨?_, ?_, ?_, ?_⟩ <;> simp
  have HB := Lib.hid hB
  obtain ⟨b, hb⟩ : ∃ b, b = w.heap.size := ⟨_, rfl⟩
  rw [← hb] at hk ha
  obtain ⟨a0, a1, a2, a3⟩ := ha
  obtain ⟨B, hBB⟩ : ∃ B, Pt.awi a R C = B := ⟨_, rfl⟩
  rw [hBB]
  have HE := Lib.hid (show decide ((0 ≤ a.r ∧ a.r < R) ∧ (0 ≤ a.c ∧ a.c < C) ∧ 1 ≤ a.h ∧ a.h ≤ R - a.r ∧ 1 ≤ a.w ∧ a.w ≤ C - a.c) = B by rw [← awi_ref a R C]; exact hBB)
  have m1 : (R : Int) ≤ 64 := by omega
  have m2 : (C : Int) ≤ 16 := by omega
  obtain ⟨ar, ac, ah, aw⟩ := a
  dsimp only at hW a0 a1 a2 a3 HE
  have i1 : IntKind.i64.wrap ar = ar → True := fun _ => trivial
  unfold AV
  dsimp only
  clear hB hBB g1 g2 g3 g4 i1
  cases h1 : Pt.plc ar R with
  | false =>
    have HV := Lib.hid (show B = false by rw [← HE.out]; unfold Pt.plc at h1; have := of_decide_eq_false h1; exact decide_eq_false (by omega))
    have C1 := Lib.hid (fun u => r_inside_v h1 u)
    clear h1
    go_enter Tryz.func50, Tryz.ntmps50
    go_upto_region 1 with fail
    rw [← hW, ← hb]
    clear hW hb
    go_wp2_with (first | (go_at_call 36; ((with_reducible refine (C1.out _).mono ?_); rintro x' w1 ⟨rfl, rfl⟩)))
    go_ret
    exact ⟨ret_bool HV.out.symm, HB.out⟩
  | true =>
    have C1 := Lib.hid (fun u => r_inside_v h1 u)
    cases h2 : Pt.plc ac C with
    | false =>
      have HV := Lib.hid (show B = false by rw [← HE.out]; unfold Pt.plc at h2; have := of_decide_eq_false h2; exact decide_eq_false (by omega))
      have C2 := Lib.hid (fun u => r_inside_v h2 u)
      clear h1 h2
      go_enter Tryz.func50, Tryz.ntmps50
      go_upto_region 1 with fail
      rw [← hW, ← hb]
      clear hW hb
      go_wp2_with (first | (go_at_call 36; ((with_reducible refine (C1.out _).mono ?_); rintro x' w1 ⟨rfl, rfl⟩)) | (go_at_call 36; ((with_reducible refine (C2.out _).mono ?_); rintro x' w1 ⟨rfl, rfl⟩)))
      go_ret
      exact ⟨ret_bool HV.out.symm, HB.out⟩
    | true =>
      have C2 := Lib.hid (fun u => r_inside_v h2 u)
      have p1 : 0 ≤ ar ∧ ar < R := of_decide_eq_true h1
      have p2 : 0 ≤ ac ∧ ac < C := of_decide_eq_true h2
      have HV := Lib.hid (show B = decide (1 ≤ ah ∧ ah ≤ R - ar ∧ 1 ≤ aw ∧ aw ≤ C - ac) by rw [← HE.out, Bool.eq_iff_iff]; simp only [decide_eq_true_eq]; omega)
      obtain ⟨p10, p11⟩ := p1
      obtain ⟨p20, p21⟩ := p2
      clear h1 h2
      by_cases q1 : 1 ≤ ah
      · by_cases q2 : ah ≤ R - ar
        · by_cases q3 : 1 ≤ aw
          · have HX := Lib.hid (show B = decide (aw ≤ C - ac) by rw [HV.out, Bool.eq_iff_iff]; simp only [decide_eq_true_eq]; omega)
            go_enter Tryz.func50, Tryz.ntmps50
            go_upto_region 1 with fail
            rw [← hW, ← hb]
            clear hW hb
            go_wp2_with (first | (go_at_call 36; ((with_reducible refine (C1.out _).mono ?_); rintro x' w1 ⟨rfl, rfl⟩)) | (go_at_call 36; ((with_reducible refine (C2.out _).mono ?_); rintro x' w1 ⟨rfl, rfl⟩)))
            go_ret
            exact ⟨ret_bool HX.out.symm, HB.out⟩
          · have HX := Lib.hid (show B = false by rw [HV.out]; exact decide_eq_false (by omega))
            have d3 : decide (1 ≤ aw) = false := decide_eq_false q3
            go_enter Tryz.func50, Tryz.ntmps50
            go_upto_region 1 with fail
            rw [← hW, ← hb]
            clear hW hb
            go_wp2_with (first | (go_at_call 36; ((with_reducible refine (C1.out _).mono ?_); rintro x' w1 ⟨rfl, rfl⟩)) | (go_at_call 36; ((with_reducible refine (C2.out _).mono ?_); rintro x' w1 ⟨rfl, rfl⟩)))
            go_ret
            exact ⟨ret_bool HX.out.symm, HB.out⟩
        · have HX := Lib.hid (show B = false by rw [HV.out]; exact decide_eq_false (by omega))
          have d3 : decide (ah ≤ R - ar) = false := decide_eq_false q2
          go_enter Tryz.func50, Tryz.ntmps50
          go_upto_region 1 with fail
          rw [← hW, ← hb]
          clear hW hb
          go_wp2_with (first | (go_at_call 36; ((with_reducible refine (C1.out _).mono ?_); rintro x' w1 ⟨rfl, rfl⟩)) | (go_at_call 36; ((with_reducible refine (C2.out _).mono ?_); rintro x' w1 ⟨rfl, rfl⟩)))
          go_ret
          exact ⟨ret_bool HX.out.symm, HB.out⟩
      · have HX := Lib.hid (show B = false by rw [HV.out]; exact decide_eq_false (by omega))
        have d3 : decide (1 ≤ ah) = false := decide_eq_false q1
        go_enter Tryz.func50, Tryz.ntmps50
        go_upto_region 1 with fail
        rw [← hW, ← hb]
        clear hW hb
        go_wp2_with (first | (go_at_call 36; ((with_reducible refine (C1.out _).mono ?_); rintro x' w1 ⟨rfl, rfl⟩)) | (go_at_call 36; ((with_reducible refine (C2.out _).mono ?_); rintro x' w1 ⟨rfl, rfl⟩)))
        go_ret
        exact ⟨ret_bool HX.out.symm, HB.out⟩
end Go.Proofs.YtfjfnbeegojlbaaGreat
