/-
  Rows of pairs (keys, points) in memory of one's own; an instrument as a result; the library's slices.Clone at keys and points.
-/
import Derived.Test.YtcchfahdgmcpbaaRKey
import Derived.Test.YtcchfahdgmcpbaaRCurve
import Derived.Laws.ResultCell
import Derived.Lib.SliceRun
import Derived.Deep.DeepCutAuto
namespace Go.Proofs.Ytcchfahdgmcpbaa
open Go.RowKit

/-- Pairs as cells. -/
def pc (l : List (Int × Int)) : List Value := l.flatMap fun x => [.int .i64 x.1, .int .i64 x.2]
theorem pc_cons (x : Int × Int) (l : List (Int × Int)) : pc (x :: l) = .int .i64 x.1 :: .int .i64 x.2 :: pc l := rfl
theorem pc_len : ∀ l : List (Int × Int), (pc l).length = l.length * 2
  | [] => rfl
  | x :: l => by rw [pc_cons, List.length_cons, List.length_cons, pc_len l, List.length_cons]; omega
theorem pc_get : ∀ (l : List (Int × Int)) (i : Nat), i < l.length → (pc l)[i * 2]? = some (.int .i64 (In.tk l i)) ∧ (pc l)[i * 2 + 1]? = some (.int .i64 (In.vl l i))
  | [], _, h => absurd h (by simp)
  | x :: l, 0, _ => ⟨rfl, rfl⟩
  | x :: l, i + 1, h => by
    have := pc_get l i (by simpa using h)
    rw [pc_cons, show (i + 1) * 2 = i * 2 + 1 + 1 by omega, List.getElem?_cons_succ, List.getElem?_cons_succ, List.getElem?_cons_succ, List.getElem?_cons_succ]
    simpa [In.tk, In.vl] using this
theorem pc_one : ∀ (l : List (Int × Int)), ∀ u ∈ pc l, u.oneCell' = true := by
  intro l u hu
  obtain ⟨x, _, hx⟩ := List.mem_flatMap.1 hu
  rcases List.mem_cons.1 hx with rfl | hx
  · rfl
  · rcases List.mem_cons.1 hx with rfl | hx
    · rfl
    · simp at hx
/-- Keys in a block of their own, which may be written. -/
def Kr (w : World) (g : Nat) (l : List (Int × Int)) : Prop := g < w.heap.size ∧ ∀ i, i < l.length → (w.cell? ⟨g, i * 2, none⟩ = some (.int .i64 (In.tk l i)) ∧ w.cell? ⟨g, i * 2 + 1, none⟩ = some (.int .i64 (In.vl l i))) ∧ w.frozen? ⟨g, i * 2, none⟩ = false ∧ w.frozen? ⟨g, i * 2 + 1, none⟩ = false
theorem Kr.low {w w' : World} {g B : Nat} {l : List (Int × Int)} (h : Kr w g l) (hb : Below B w w') (hg : g < B) (hs : w.heap.size ≤ w'.heap.size) : Kr w' g l := by
  refine ⟨Nat.lt_of_lt_of_le h.1 hs, fun i hi => ?_⟩
  rw [hb.cell (p := ⟨g, i * 2, none⟩) hg, hb.cell (p := ⟨g, i * 2 + 1, none⟩) hg, hb.frozen (p := ⟨g, i * 2, none⟩) hg, hb.frozen (p := ⟨g, i * 2 + 1, none⟩) hg]
  exact h.2 i hi
theorem Kr.kept {w w' : World} {g : Nat} {l : List (Int × Int)} (h : Kr w g l) (hb : Below w.heap.size w w') : Kr w' g l := h.low hb h.1 hb.size
theorem Kr.pts {w : World} {g : Nat} {l : List (Int × Int)} (h : Kr w g l) : PtsAt w (some ⟨g, 0, none⟩) l := .inr ⟨g, 0, rfl, h.1, fun i hi => by rw [Nat.zero_add]; exact (h.2 i hi).1⟩
/-- One key is set. -/
theorem Kr.set {w : World} {g k : Nat} {l l' : List (Int × Int)} {x y : Int} (h : Kr w g l) (hl : l'.length = l.length) (hk : ∀ i, i < l.length → In.tk l' i = (if i = k then x else In.tk l i) ∧ In.vl l' i = (if i = k then y else In.vl l i)) :
    Kr ((w.setCell ⟨g, k * 2, none⟩ (.int .i64 x)).setCell ⟨g, k * 2 + 1, none⟩ (.int .i64 y)) g l' := by
  have ne : ∀ {i j : Nat}, i ≠ j → (⟨g, i, none⟩ : Addr) ≠ ⟨g, j, none⟩ := fun hij e => hij (congrArg Addr.off e)
  refine ⟨by simpa using h.1, fun i hi => ?_⟩
  rw [hl] at hi
  obtain ⟨⟨h1, h2⟩, h3, h4⟩ := h.2 i hi
  obtain ⟨e1, e2⟩ := hk i hi
  refine ⟨?_, by simpa using h3, by simpa using h4⟩
  by_cases e : i = k
  · subst e
    rw [if_pos rfl] at e1 e2
    rw [e1, e2]
    constructor
    · rw [World.cell?_setCell_other _ _ _ _ (ne (by omega))]
      exact World.cell?_setCell_same _ _ _ h1
    · exact World.cell?_setCell_same _ _ _ (by rw [World.cell?_setCell_other _ _ _ _ (ne (by omega))]; exact h2)
  · rw [if_neg e] at e1 e2
    rw [e1, e2, World.cell?_setCell_other _ _ _ _ (ne (by omega)), World.cell?_setCell_other _ _ _ _ (ne (by omega)), World.cell?_setCell_other _ _ _ _ (ne (by omega)), World.cell?_setCell_other _ _ _ _ (ne (by omega))]
    exact ⟨h1, h2⟩
/-- What a row of one's own says: the value, where it lies. -/
theorem rows_kr {w : World} {B n : Nat} {e : TypeId} {v : Value} {l : List (Int × Int)} (h : w.ownsRow B e 2 v n (pc l)) (hn : l.length = n) : ∃ p cap, v = .slice p n cap ∧ PtsAt w p l ∧ (l ≠ [] → ∃ g, p = some ⟨g, 0, none⟩ ∧ B ≤ g ∧ Kr w g l) := by
  rcases h.2 with ⟨rfl, hz⟩ | ⟨g, cap, cur, rfl, hb, hg, h1, h2, h3, h4⟩
  · have : l = [] := List.eq_nil_of_length_eq_zero (by omega)
    subst this
    exact ⟨none, 0, by rw [hz], .inl rfl, fun h => absurd rfl h⟩
  · have hK : Kr w g l := by
      refine ⟨(Array.getElem?_eq_some_iff.1 hg).1, fun i hi => ?_⟩
      obtain ⟨q1, q2⟩ := pc_get l i hi
      have hc := fun j u => World.ownsRow.cells h (g := g) rfl j u
      have a1 := hc _ _ q1
      have a2 := hc _ _ q2
      rw [Addr.add_mid, Nat.zero_add] at a1 a2
      refine ⟨⟨a1, a2⟩, ?_, ?_⟩ <;> simp [World.frozen?, hg]
    exact ⟨_, cap, rfl, hK.pts, fun _ => ⟨g, rfl, hb, hK⟩⟩
theorem pts_cells {w : World} {b off : Nat} {l : List (Int × Int)} (h : ∀ i, i < l.length → w.cell? ⟨b, off + i * 2, none⟩ = some (.int .i64 (In.tk l i)) ∧ w.cell? ⟨b, off + i * 2 + 1, none⟩ = some (.int .i64 (In.vl l i))) :
    ∀ j u, (pc l)[j]? = some u → w.cell? ((⟨b, off, none⟩ : Addr).add j) = some u := by
  intro j u hu
  rw [Addr.add_mid]
  have hj : j < (pc l).length := (List.getElem?_eq_some_iff.1 hu).1
  rw [pc_len] at hj
  have hi : j / 2 < l.length := by omega
  obtain ⟨q1, q2⟩ := pc_get l (j / 2) hi
  obtain ⟨c1, c2⟩ := h (j / 2) hi
  by_cases e : j = j / 2 * 2
  · rw [← e] at q1 c1
    rw [q1] at hu
    rw [c1]; exact hu
  · have e : j = j / 2 * 2 + 1 := by omega
    rw [← e] at q2
    rw [Nat.add_assoc, ← e] at c2
    rw [q2] at hu
    rw [c2]; exact hu
theorem Try.infoKey : (Try.prog.info? 52).map (fun i => (i.zero, i.size, i.bytes)) = some (some (.agg #[.int .i64 0, .int .i64 0]), 2, 16) := by kernel_rfl
theorem Try.infoPoint : (Try.prog.info? 37).map (fun i => (i.zero, i.size, i.bytes)) = some (some (.agg #[.int .i64 0, .int .i64 0]), 2, 16) := by kernel_rfl
/-- What a call hands back: these pairs, in memory of their own. -/
def RetP (l : List (Int × Int)) (B : Nat) (e : Ending) (w' : World) : Prop := ∃ p cap, e = .returned (.slice p l.length cap) ∧ PtsAt w' p l ∧ (l ≠ [] → ∃ g, p = some ⟨g, 0, none⟩ ∧ B ≤ g ∧ Kr w' g l)
theorem retp_row {w : World} {B n : Nat} {e : TypeId} {v : Value} {l : List (Int × Int)} (h : w.ownsRow B e 2 v n (pc l)) (hn : l.length = n) : RetP l B (.returned v) w := by
  obtain ⟨p, cap, rfl, h1, h2⟩ := rows_kr h hn
  exact ⟨p, cap, by rw [hn], h1, h2⟩
/-- An instrument that lies whole in a block is what a function returns. -/
theorem res_one {fn : Func} {p : Tmp} (hf : fn.results = #[.cell p 40]) {tmps : Array Value} {w : World} {b : Nat} (hp : tmps.getD p undef = .pointer (some ⟨b, 0, none⟩)) {i : In.Ins} {a : In.Loc} (hr : w.rangeAt b 0 (IL i a)) :
    (results fn tmps).run Try.prog w = .ok (.agg (IL i a).toArray) w := by
  simp only [results, hf]
  have hp' : tmps[p]?.getD undef = .pointer (some ⟨b, 0, none⟩) := by simpa using hp
  simp [hp', asAddr, run_loadVar_mid w b 0 40 (IL i a) _ hr Try.underlying40 rfl (info_il i a)]
theorem res_two {fn : Func} {p u : Tmp} (hf : fn.results = #[.cell p 40, .tmp u]) {tmps : Array Value} {w : World} {b : Nat} (hp : tmps.getD p undef = .pointer (some ⟨b, 0, none⟩)) {i : In.Ins} {a : In.Loc} (hr : w.rangeAt b 0 (IL i a)) {v : Value} (hv : tmps.getD u undef = v) :
    (results fn tmps).run Try.prog w = .ok (.tuple #[.agg (IL i a).toArray, v]) w := by
  rw [results_cell_tmp hf, hp, hv]
  simp [Result.andThen, asAddr, run_loadVar_mid w b 0 40 (IL i a) _ hr Try.underlying40 rfl (info_il i a)]
section
variable {ops : Array Oper} {rest : List Oper} {op : Oper} {a : Act} {w : World} {Q : Exit → Act → World → Prop}
/-- The zero instrument, built. -/
theorem bd_inst (hw : Region.wanted op (yielded ops a.tmps) = true) (ho : op.op = .build 40 #[])
    (h : wpList Try.prog ops Q rest (a.put op.dst (.agg (IL In.zer In.zel).toArray)) w) : wpList Try.prog ops Q (op :: rest) a w := by
  simp only [wpList, hw, if_true]
  refine .inl ?_
  unfold Oper.wp execOp
  simp only [ho]
  simp [go_sem]
  exact h
end
set_option maxHeartbeats 3200000 in
theorem p_cloneK (l : List (Int × Int)) (p : Option Addr) (cap : Nat) (w : World) (hd : PtsAt w p l) (hl : (l.length : Int) ≤ 1000) :
    Calls Try.prog 61 #[.slice p l.length cap] w fun x w' => RetP l w.heap.size x w' ∧ Below w.heap.size w w' := by
  cases p with
  | none =>
    have h0 : l = [] := by
      rcases hd with h | ⟨b, off, h, _⟩
      · exact h
      · exact absurd h (by simp)
    subst h0
    have q : ∀ (w : World) (a : Option Addr) (n c n' c' : Nat), (binOp .eql 38 (.slice a n c) (.slice none n' c')).run Try.prog w = .ok (.bool a.isNone) w := fun w a n c n' c' => Lib.run_eql_slice_nil w _ _ a n c n' c' Try.underlying38
    go_enter Try.func61, Try.ntmps61
    go_wp2
    go_ret
    exact ⟨⟨none, 0, rfl, .inl rfl, fun h => absurd rfl h⟩, Below.refl _ _⟩
  | some ad =>
    obtain ⟨i0, hinf, hz0, hz1, hz2⟩ := info_parts Try.infoKey
    have HC := Lib.hid (show ∀ j u, (pc l)[j]? = some u → (w.alloc (.cells #[] 52)).cell? (ad.add j) = some u by
      intro j u hu
      rcases hd.below (below_box w (.cells #[] 52)) with rfl | ⟨b, off, hp, _, hc⟩
      · simp [pc] at hu
      · obtain rfl : ad = ⟨b, off, none⟩ := by simpa using hp
        exact pts_cells hc j u hu)
    have hs : w.heap.size ≤ (w.alloc (.cells #[] 52)).heap.size := by simp
    have HS := Lib.hid hs
    have HB := Lib.hid (below_box w (.cells #[] 52))
    have HO := Lib.hid (World.ownsRow_made (base := w.heap.size) (e := 52) (size := 2) w #[] 0 (Nat.le_refl _) (Nat.zero_le _) (by simp))
    have HL := Lib.hid (pc_len l)
    have H1 := Lib.hid (pc_one l)
    clear hd hs
    obtain ⟨n, hn⟩ : ∃ n, l.length = n := ⟨_, rfl⟩
    have HN := Lib.hid hn
    rw [hn] at HL hl ⊢
    clear hn
    have q : ∀ (w : World) (a : Option Addr) (n c n' c' : Nat), (binOp .eql 38 (.slice a n c) (.slice none n' c')).run Try.prog w = .ok (.bool a.isNone) w := fun w a n c n' c' => Lib.run_eql_slice_nil w _ _ a n c n' c' Try.underlying38
    go_enter Try.func61, Try.ntmps61
    go_wp2_with (first | (at_builtin; go_loud (refine wpList_append_own _ rfl (.tmp 5) (.tmp 6) 38 rfl w.heap.size 52 i0 (.agg #[.int .i64 0, .int .i64 0]) 2 16 Try.underlying38 hinf hz0 hz1 hz2 rfl (by decide) (.slice (some ⟨w.heap.size, 0, none⟩) 0 0) 0 [] rfl HO.out ad n cap (pc l) rfl HL.out HC.out H1.out (by unfold maxLen; omega) (by omega) HS.out ?_; intro v' w3 hown' hgrow _; have hb3 := grown_base hgrow (fun g hg => (World.ownsRow.lt HO.out g hg).1) HS.out; clear hgrow; have HR2 := Lib.hid (show w3.ownsRow w.heap.size 52 2 v' n (pc l) by simpa using hown'); have HB3 := Lib.hid (HB.out.trans hb3); clear hown' hb3)))
    go_ret
    exact ⟨retp_row HR2.out HN.out, HB3.out⟩
set_option maxHeartbeats 3200000 in
theorem p_cloneP (l : List (Int × Int)) (p : Option Addr) (cap : Nat) (w : World) (hd : PtsAt w p l) (hl : (l.length : Int) ≤ 1000) :
    Calls Try.prog 62 #[.slice p l.length cap] w fun x w' => RetP l w.heap.size x w' ∧ Below w.heap.size w w' := by
  cases p with
  | none =>
    have h0 : l = [] := by
      rcases hd with h | ⟨b, off, h, _⟩
      · exact h
      · exact absurd h (by simp)
    subst h0
    have q : ∀ (w : World) (a : Option Addr) (n c n' c' : Nat), (binOp .eql 22 (.slice a n c) (.slice none n' c')).run Try.prog w = .ok (.bool a.isNone) w := fun w a n c n' c' => Lib.run_eql_slice_nil w _ _ a n c n' c' Try.underlying22
    go_enter Try.func62, Try.ntmps62
    go_wp2
    go_ret
    exact ⟨⟨none, 0, rfl, .inl rfl, fun h => absurd rfl h⟩, Below.refl _ _⟩
  | some ad =>
    obtain ⟨i0, hinf, hz0, hz1, hz2⟩ := info_parts Try.infoPoint
    have HC := Lib.hid (show ∀ j u, (pc l)[j]? = some u → (w.alloc (.cells #[] 37)).cell? (ad.add j) = some u by
      intro j u hu
      rcases hd.below (below_box w (.cells #[] 37)) with rfl | ⟨b, off, hp, _, hc⟩
      · simp [pc] at hu
      · obtain rfl : ad = ⟨b, off, none⟩ := by simpa using hp
        exact pts_cells hc j u hu)
    have hs : w.heap.size ≤ (w.alloc (.cells #[] 37)).heap.size := by simp
    have HS := Lib.hid hs
    have HB := Lib.hid (below_box w (.cells #[] 37))
    have HO := Lib.hid (World.ownsRow_made (base := w.heap.size) (e := 37) (size := 2) w #[] 0 (Nat.le_refl _) (Nat.zero_le _) (by simp))
    have HL := Lib.hid (pc_len l)
    have H1 := Lib.hid (pc_one l)
    clear hd hs
    obtain ⟨n, hn⟩ : ∃ n, l.length = n := ⟨_, rfl⟩
    have HN := Lib.hid hn
    rw [hn] at HL hl ⊢
    clear hn
    have q : ∀ (w : World) (a : Option Addr) (n c n' c' : Nat), (binOp .eql 22 (.slice a n c) (.slice none n' c')).run Try.prog w = .ok (.bool a.isNone) w := fun w a n c n' c' => Lib.run_eql_slice_nil w _ _ a n c n' c' Try.underlying22
    go_enter Try.func62, Try.ntmps62
    go_wp2_with (first | (at_builtin; go_loud (refine wpList_append_own _ rfl (.tmp 5) (.tmp 6) 22 rfl w.heap.size 37 i0 (.agg #[.int .i64 0, .int .i64 0]) 2 16 Try.underlying22 hinf hz0 hz1 hz2 rfl (by decide) (.slice (some ⟨w.heap.size, 0, none⟩) 0 0) 0 [] rfl HO.out ad n cap (pc l) rfl HL.out HC.out H1.out (by unfold maxLen; omega) (by omega) HS.out ?_; intro v' w3 hown' hgrow _; have hb3 := grown_base hgrow (fun g hg => (World.ownsRow.lt HO.out g hg).1) HS.out; clear hgrow; have HR2 := Lib.hid (show w3.ownsRow w.heap.size 37 2 v' n (pc l) by simpa using hown'); have HB3 := Lib.hid (HB.out.trans hb3); clear hown' hb3)))
    go_ret
    exact ⟨retp_row HR2.out HN.out, HB3.out⟩
end Go.Proofs.Ytcchfahdgmcpbaa
