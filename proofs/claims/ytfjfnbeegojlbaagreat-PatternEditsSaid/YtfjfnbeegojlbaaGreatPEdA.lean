/-
  The law PatternEdits: what it is given is not looked at.
-/
import Derived.Test.YtfjfnbeegojlbaaGreatGb
import Derived.Test.YtfjfnbeegojlbaaGreatGj
import Derived.Test.YtfjfnbeegojlbaaGreatRPs
import Derived.Test.YtfjfnbeegojlbaaGreatRTr
import Derived.Test.YtfjfnbeegojlbaaGreatGd
import Derived.Test.YtfjfnbeegojlbaaGreatRIt
import Derived.Test.YtfjfnbeegojlbaaGreatRJo
import Derived.Test.YtfjfnbeegojlbaaGreatGi
import Derived.Test.YtfjfnbeegojlbaaGreatPInt
import Derived.Test.YtfjfnbeegojlbaaGreatPDel
import Derived.Test.YtfjfnbeegojlbaaGreatGe
import Derived.Test.YtfjfnbeegojlbaaGreatGh
import Derived.Test.YtfjfnbeegojlbaaGreatPAwake
import Derived.Test.YtfjfnbeegojlbaaGreatPWork
import Derived.Deep.RegionHeld3
import Derived.Deep.CutBlock
import Derived.Deep.CutRange
namespace Go.Proofs.YtfjfnbeegojlbaaGreat
open Go.RowKit

theorem wl_ld {x : Wk} {p : Option Addr} {cap : Nat} {p2 : Option Addr} {cap2 : Nat} {w : World} {b : Nat} (h : w.rangeAt b 0 (WL x p cap p2 cap2)) : w.rangeAt b 0 [.int .i64 x.r, .slice p x.l.length cap] ∧ w.rangeAt b 2 [.int .i64 x.r2, .slice p2 x.l2.length cap2] := by
  constructor
  · intro j v hj
    rcases j with _ | _ | j
    · exact h 0 v hj
    · exact h 1 v hj
    · simp at hj
  · intro j v hj
    rcases j with _ | _ | j
    · exact h 2 v hj
    · exact h 3 v hj
    · simp at hj
theorem below_al {B : Nat} {w u : World} {o : Obj} (h : Below B w u ∧ B ≤ u.heap.size) : Below B w (u.alloc o) ∧ B ≤ (u.alloc o).heap.size := ⟨h.1.alloc h.2 _, by simp; omega⟩
/-- An empty pattern's block. -/
def Em (u : World) (a : Nat) : Prop := Pb u a 0 (.slice none 0 0)
theorem em_new (u : World) : Em (u.alloc (.cells #[.int .i64 0, .slice none 0 0] 24)) u.heap.size := pb_box _ _ _ _
theorem em_two (u : World) : Em ((u.alloc (.cells #[.int .i64 0, .slice none 0 0] 24)).alloc (.cells #[.int .i64 0, .slice none 0 0] 24)) u.heap.size ∧ Em ((u.alloc (.cells #[.int .i64 0, .slice none 0 0] 24)).alloc (.cells #[.int .i64 0, .slice none 0 0] 24)) (u.heap.size + 1) := by
  refine ⟨(em_new u).kept (below_box _ _), ?_⟩
  have := em_new (u.alloc (.cells #[.int .i64 0, .slice none 0 0] 24))
  simpa using this
theorem Em.be {u v : World} {a : Nat} (h : Em u a) (hb : Below u.heap.size u v) : Em v a := Pb.kept h hb
theorem Em.facts {u : World} {a : Nat} (h : Em u a) : (u.cell? ⟨a, 0, none⟩ = some (.int .i64 0) ∧ u.cell? ⟨a, 1, none⟩ = some (.slice none 0 0) ∧ u.frozen? ⟨a, 0, none⟩ = false ∧ u.frozen? ⟨a, 1, none⟩ = false) ∧ (∀ o, (u.alloc o).cell? ⟨a, 0, none⟩ = some (.int .i64 0)) ∧ (∀ o, (u.alloc o).cell? ⟨a, 1, none⟩ = some (.slice none 0 0)) ∧ (∀ o, (u.alloc o).frozen? ⟨a, 0, none⟩ = false) ∧ (∀ o, (u.alloc o).frozen? ⟨a, 1, none⟩ = false) ∧ a < u.heap.size :=
  ⟨Pb.cells h, fun o => (Pb.cells (Em.be h (below_box u o))).1, fun o => (Pb.cells (Em.be h (below_box u o))).2.1, fun o => (Pb.cells (Em.be h (below_box u o))).2.2.1, fun o => (Pb.cells (Em.be h (below_box u o))).2.2.2, Pb.lt h⟩
theorem kr_set {u : World} {g b o : Nat} {v : Value} {l : List Pt.Cl} (h : Kr u g l) (hne : g ≠ b) : Kr (u.setCell ⟨b, o, none⟩ v) g l := h.grown (grown_set u b o v) hne
theorem kr_al {u : World} {g : Nat} {o : Obj} {l : List Pt.Cl} (h : Kr u g l) : Kr (u.alloc o) g l := h.kept (below_box u o)
theorem kr_dr {u : World} {g : Nat} {l : List Pt.Cl} (h : Kr u g l) : Kr u.drew g l := h.kept (Below.refl _ _).drew
theorem pb_set {u : World} {a b o : Nat} {v : Value} {r : Int} {y : Value} (h : Pb u a r y) (hne : a ≠ b) : Pb (u.setCell ⟨b, o, none⟩ v) a r y := h.grown (grown_set u b o v) hne
theorem pb_al {u : World} {a : Nat} {o : Obj} {r : Int} {y : Value} (h : Pb u a r y) : Pb (u.alloc o) a r y := h.kept (below_box u o)
theorem pb_dr {u : World} {a : Nat} {r : Int} {y : Value} (h : Pb u a r y) : Pb u.drew a r y := h.kept (Below.refl _ _).drew
theorem pb_put {u : World} {a : Nat} {r : Int} {y : Value} (h : Pb u a 0 (.slice none 0 0)) : Pb ((u.setCell ⟨a, 0, none⟩ (.int .i64 r)).setCell ⟨a, 1, none⟩ y) a r y := ⟨World.rangeAt_setCells_same u a 0 [.int .i64 r, y] h.2, World.there_setCells h.2 a 0 [.int .i64 r, y]⟩
theorem pb_new (u : World) {n : Nat} (h : n = u.heap.size) (r : Int) (v : Value) : Pb (u.alloc (.cells #[.int .i64 r, v] 24)) n r v := by rw [h]; exact pb_box _ _ _ _
/-- What a copying call leaves, made with none, one or two of the two new blocks there. -/
theorem cp_0 {v u : World} {g : Nat} {l : List Pt.Cl} (hg : v.heap.size ≤ g) (hk : Kr u g l) (hb : Below v.heap.size v u) : (Below v.heap.size v u ∧ v.heap.size ≤ u.heap.size) ∧ v.heap.size < u.heap.size ∧ v.heap.size ≤ g ∧ g < u.heap.size := ⟨⟨hb, hb.size⟩, Nat.lt_of_le_of_lt hg hk.1, hg, hk.1⟩
theorem cp_1 {v u : World} {g : Nat} {l : List Pt.Cl} (hg : (v.alloc (.cells #[.int .i64 0, .slice none 0 0] 24)).heap.size ≤ g) (hk : Kr u g l) (hb : Below (v.alloc (.cells #[.int .i64 0, .slice none 0 0] 24)).heap.size (v.alloc (.cells #[.int .i64 0, .slice none 0 0] 24)) u) : ((Below v.heap.size v u ∧ v.heap.size ≤ u.heap.size) ∧ v.heap.size < u.heap.size ∧ v.heap.size + 1 ≤ g ∧ g < u.heap.size) ∧ Em u v.heap.size := by
  have h := stepB (below_box v (.cells #[.int .i64 0, .slice none 0 0] 24)) hb
  simp at hg
  have := hk.1
  exact ⟨⟨⟨h, h.size⟩, by omega, hg, hk.1⟩, (em_new v).be hb⟩
theorem cp_2 {v u : World} {g : Nat} {l : List Pt.Cl} (hg : ((v.alloc (.cells #[.int .i64 0, .slice none 0 0] 24)).alloc (.cells #[.int .i64 0, .slice none 0 0] 24)).heap.size ≤ g) (hk : Kr u g l) (hb : Below ((v.alloc (.cells #[.int .i64 0, .slice none 0 0] 24)).alloc (.cells #[.int .i64 0, .slice none 0 0] 24)).heap.size ((v.alloc (.cells #[.int .i64 0, .slice none 0 0] 24)).alloc (.cells #[.int .i64 0, .slice none 0 0] 24)) u) : ((Below v.heap.size v u ∧ v.heap.size ≤ u.heap.size) ∧ v.heap.size < u.heap.size ∧ v.heap.size + 2 ≤ g ∧ g < u.heap.size) ∧ Em u v.heap.size ∧ Em u (v.heap.size + 1) := by
  have h := stepB (stepB (below_box v (.cells #[.int .i64 0, .slice none 0 0] 24)) (below_box _ (.cells #[.int .i64 0, .slice none 0 0] 24))) hb
  simp at hg
  have := hk.1
  exact ⟨⟨⟨h, h.size⟩, by omega, by omega, hk.1⟩, (em_two v).1.be hb, (em_two v).2.be hb⟩
theorem ne6 {a b c : Nat} (h1 : a < b) (h2 : b < c) : ¬ a = b ∧ ¬ b = a ∧ ¬ a = c ∧ ¬ c = a ∧ ¬ b = c ∧ ¬ c = b := by omega
theorem ne4 {a b c : Nat} (h1 : a + 1 < b) (h2 : b < c) : ¬ a + 1 = b ∧ ¬ b = a + 1 ∧ ¬ a + 1 = c ∧ ¬ c = a + 1 := by omega
theorem Em.pb {u : World} {a : Nat} (h : Em u a) : Pb u a 0 (.slice none 0 0) := h
theorem kr_pre {u : World} {g : Nat} {l : List Pt.Cl} {z : Pt.Cl} (h : Kr u g (l ++ [z])) : CellsAt u (some ⟨g, 0, none⟩) l := by
  have hr := h.2.1
  rw [cc_app] at hr
  exact .inr ⟨g, 0, rfl, h.1, fun j v hv => hr j v (by rw [List.getElem?_append_left (List.getElem?_eq_some_iff.1 hv).1]; exact hv)⟩
/-- A cell that was stored into a new block. -/
theorem st_new {u w : World} {c : Pt.Cl} (h : w = (u.alloc (.cells #[.int .i64 0, .int .i64 0, .int .i64 0, .int .i64 0, .int .i64 0, .int .i64 0] 28)).setCells u.heap.size 0 (CL c)) : Below u.heap.size u w ∧ w.rangeAt u.heap.size 0 (CL c) := by
  rw [h]
  exact ⟨grown_at (below_box _ _) (Nat.le_refl _) (below_box _ _).size (grown_setCells _ _ _ _), World.rangeAt_setCells_same _ _ 0 (CL c) (there_cell u)⟩
theorem cut5 {A P : Nat → Nat → Nat → Nat → World → Prop} {G : Prop} (first : (∀ x3 x4 g1 g2 F, A x3 x4 g1 g2 F → P x3 x4 g1 g2 F) → G) (rest : ∀ x3 x4 g1 g2 F, A x3 x4 g1 g2 F → P x3 x4 g1 g2 F) : G := first rest
theorem end3 {Kk : Act → World → Prop} {Q : Exit → Act → World → Prop} {a : Act} {F w2 : World} {x3 x4 g1 g2 : Nat} {r r2 : Int} {s1 s2 : Value} {la lb : List Pt.Cl} (_ : a.tmps.getD 3 undef = .pointer (some ⟨x3, 0, none⟩)) (_ : a.tmps.getD 4 undef = .pointer (some ⟨x4, 0, none⟩))
    (b : Below w2.heap.size w2 F ∧ w2.heap.size ≤ F.heap.size) (p3 : Pb F x3 r s1) (p4 : Pb F x4 r2 s2) (k1 : Kr F g1 la) (k2 : Kr F g2 lb)
    (h : ∀ F', Hid (Below w2.heap.size w2 F' ∧ w2.heap.size ≤ F'.heap.size) → Hid (Kr F' g1 la) → Hid (Kr F' g2 lb) → Hid (Pb F' x3 r s1) → Hid (Pb F' x4 r2 s2) → Exit.then Kk Q .normal a F') : Exit.then Kk Q .normal a F := h F b k1 k2 p3 p4
section
variable {ops : Array Oper} {a : Act} {w : World} {Q : Exit → Act → World → Prop} {op : Oper} {rest : List Oper}
/-- A pattern is read inside a struct. -/
theorem ld_pato (hw : Region.wanted op (yielded ops a.tmps) = true) (x : Operand) (ho : op.op = .load 24 x) {b f : Nat} (hx : a.eval x = .pointer (some ⟨b, f, none⟩)) {r : Int} {v : Value} (hr : w.rangeAt b f [.int .i64 r, v])
    (h : wpList Tryz.prog ops Q rest (a.put op.dst (.agg #[.int .i64 r, v])) w) : wpList Tryz.prog ops Q (op :: rest) a w := by
  simp only [wpList, hw, if_true]
  exact .inl (wp_load_mid 24 x ho b f hx [.int .i64 r, v] _ hr Tryz.underlying24 rfl Tryz.infoPat h)
end
set_option maxRecDepth 100000 in
set_option maxHeartbeats 1600000 in
theorem edits_dark (x : Wk) (p : Option Addr) (cap : Nat) (p2 : Option Addr) (cap2 : Nat) (w : World) (hl : (x.l.length : Int) ≤ 9223372036854775807) (hl2 : (x.l2.length : Int) ≤ 9223372036854775807) (h : ¬ (x.l.length ≤ 2000 ∧ x.l2.length ≤ 2000)) :
    Calls Tryz.prog 3 #[.agg (WL x p cap p2 cap2).toArray] w fun e w' => e = .returned (.bool true) ∧ Below w.heap.size w w' := by
  obtain ⟨W, hW⟩ : ∃ W, W = w.alloc (.cells (WL x p cap p2 cap2).toArray 30) := ⟨_, rfl⟩
  have HB := Lib.hid (show Below w.heap.size w W by rw [hW]; exact below_box _ _)
  obtain ⟨b, hb⟩ : ∃ b, b = w.heap.size := ⟨_, rfl⟩
  have HX := Lib.hid (show W.rangeAt b 0 (WL x p cap p2 cap2) by rw [hW, hb]; exact range_box _ _ _)
  have CA := Lib.hid (fun u => p_light x.r p x.l.length cap u hl)
  have CB := Lib.hid (fun u => p_light x.r2 p2 x.l2.length cap2 u hl2)
  have HLT := Lib.hid (show b < W.heap.size from cell_lt (HX.out 0 _ rfl))
  unfold PV at CA CB
  by_cases h1 : x.l.length ≤ 2000
  · rw [decide_eq_true h1] at CA
    rw [decide_eq_false (show ¬ x.l2.length ≤ 2000 from fun e => h ⟨h1, e⟩)] at CB
    clear h h1 hl hl2
    go_enter Tryz.func3, Tryz.ntmps3
    go_upto_region 1 with fail
    rw [← hW, ← hb]
    clear hW hb
    go_wp2_with (first | (refine ld_pato (by rfl) (.tmp 17) rfl rfl (wl_ld HX.out).1 ?_) | (go_at_call 4; ((with_reducible refine (CA.out _).mono ?_); rintro x' w1 ⟨rfl, hb1⟩; have HB1 := Lib.hid hb1; clear hb1)) | (refine ld_pato (by rfl) (.tmp 22) rfl rfl (wl_ld (range_below HX.out HB1.out HLT.out)).2 ?_) | (go_at_call 4; ((with_reducible refine (CB.out _).mono ?_); rintro x' w2 ⟨rfl, hb2⟩; have HB2 := Lib.hid hb2; clear hb2)) | (go_at_call 5; ((with_reducible refine (p_awake _).mono ?_); rintro x' w3 ⟨rfl, hb3⟩)))
    go_ret
    exact ⟨rfl, stepB HB.out (stepB HB1.out (stepB HB2.out hb3))⟩
  · rw [decide_eq_false h1] at CA
    clear h h1 hl hl2
    go_enter Tryz.func3, Tryz.ntmps3
    go_upto_region 1 with fail
    rw [← hW, ← hb]
    clear hW hb
    go_wp2_with (first | (refine ld_pato (by rfl) (.tmp 17) rfl rfl (wl_ld HX.out).1 ?_) | (go_at_call 4; ((with_reducible refine (CA.out _).mono ?_); rintro x' w1 ⟨rfl, hb1⟩; have HB1 := Lib.hid hb1; clear hb1)) | (go_at_call 5; ((with_reducible refine (p_awake _).mono ?_); rintro x' w3 ⟨rfl, hb3⟩)))
    go_ret
    exact ⟨rfl, stepB HB.out (stepB HB1.out hb3)⟩
/-- Four new empty patterns. -/
theorem em_four (u : World) : ∃ W, W = (((u.alloc (.cells #[.int .i64 0, .slice none 0 0] 24)).alloc (.cells #[.int .i64 0, .slice none 0 0] 24)).alloc (.cells #[.int .i64 0, .slice none 0 0] 24)).alloc (.cells #[.int .i64 0, .slice none 0 0] 24) ∧ Below u.heap.size u W ∧ W.heap.size = u.heap.size + 4 ∧ Em W u.heap.size ∧ Em W (u.heap.size + 1) ∧ Em W (u.heap.size + 2) ∧ Em W (u.heap.size + 3) := by
  have e2 : ((u.alloc (.cells #[.int .i64 0, .slice none 0 0] 24)).alloc (.cells #[.int .i64 0, .slice none 0 0] 24)).heap.size = u.heap.size + 2 := by simp
  have h1 := em_two u
  have h2 := em_two ((u.alloc (.cells #[.int .i64 0, .slice none 0 0] 24)).alloc (.cells #[.int .i64 0, .slice none 0 0] 24))
  rw [e2] at h2
  have hb : Below ((u.alloc (.cells #[.int .i64 0, .slice none 0 0] 24)).alloc (.cells #[.int .i64 0, .slice none 0 0] 24)).heap.size ((u.alloc (.cells #[.int .i64 0, .slice none 0 0] 24)).alloc (.cells #[.int .i64 0, .slice none 0 0] 24)) ((((u.alloc (.cells #[.int .i64 0, .slice none 0 0] 24)).alloc (.cells #[.int .i64 0, .slice none 0 0] 24)).alloc (.cells #[.int .i64 0, .slice none 0 0] 24)).alloc (.cells #[.int .i64 0, .slice none 0 0] 24)) := stepB (below_box _ _) (below_box _ _)
  exact ⟨_, rfl, stepB (stepB (below_box _ _) (below_box _ _)) hb, by simp, h1.1.be hb, h1.2.be hb, h2.1, h2.2⟩
/-- What a case of the loop leaves behind its two calls. -/
structure Ed (V w : World) (a : Nat) (R1 : Int) (L1 : List Pt.Cl) (nl : Nat) (p5 : Option Addr) (c5 : Nat) (p7 : Option Addr) (c7 G : Nat) : Prop where
  bl : Below V.heap.size V w
  sz : V.heap.size ≤ a ∧ a + 4 ≤ G ∧ a + 4 ≤ w.heap.size
  pa : Pb w a R1 (.slice p5 nl c5)
  pb : Pb w (a + 1) R1 (.slice p7 nl c7)
  own : nl = 0 ∨ (p5 = some ⟨G, 0, none⟩ ∧ Kr w G L1)
  la : CellsAt w p5 L1
  lb : CellsAt w p7 L1
theorem ed_one {V W4 w5 w6 w7 w8 : World} {a : Nat} {R1 : Int} {L1 : List Pt.Cl} {nl : Nat} {p5 p7 : Option Addr} {c5 c7 : Nat} (hl : L1.length = nl) (hV : Below V.heap.size V W4) (hVa : V.heap.size ≤ a) (h4 : W4.heap.size = a + 4) (e2 : Em W4 (a + 2)) (e3 : Em W4 (a + 3)) (hb5 : Below W4.heap.size W4 w5) (ho5 : Own w5 W4.heap.size p5 L1) (h6 : Pb w6 a R1 (.slice p5 nl c5)) (g6 : w5.grownBy w6 (some a)) (hb7 : Below w6.heap.size w6 w7) (ho7 : Own w7 w6.heap.size p7 L1) (h8 : Pb w8 (a + 1) R1 (.slice p7 nl c7)) (g8 : w7.grownBy w8 (some (a + 1))) : ∃ G, Ed V w8 a R1 L1 nl p5 c5 p7 c7 G ∧ Em w8 (a + 2) ∧ Em w8 (a + 3) := by
  have s5 := hb5.size
  have s6 := g6.size
  have s7 := hb7.size
  have s8 := g8.size
  have sV := hV.size
  have bV : Below V.heap.size V w8 := grown_at (stepB (grown_at (stepB hV hb5) hVa (by omega) g6) hb7) (by omega) (by omega) g8
  have m2 : Em w8 (a + 2) := ((((e2.be hb5).pb.grown g6 (by omega)).kept hb7).grown g8 (by omega))
  have m3 : Em w8 (a + 3) := ((((e3.be hb5).pb.grown g6 (by omega)).kept hb7).grown g8 (by omega))
  have pa : Pb w8 a R1 (.slice p5 nl c5) := (h6.kept hb7).grown g8 (by omega)
  have lb : CellsAt w8 p7 L1 := (ho7.grown g8 (by omega)).at
  have oa : Own w8 W4.heap.size p5 L1 := ((ho5.grown g6 (by omega)).kept hb7).grown g8 (by omega)
  rcases oa with h | ⟨g, hp, hg, hk⟩
  · exact ⟨a + 4, ⟨bV, ⟨hVa, Nat.le_refl _, by omega⟩, pa, h8, .inl (by rw [← hl, h]; rfl), .inl h, lb⟩, m2, m3⟩
  · exact ⟨g, ⟨bV, ⟨hVa, by omega, by omega⟩, pa, h8, .inr ⟨hp, hk⟩, by rw [hp]; exact hk.at, lb⟩, m2, m3⟩
theorem okL_le {e : Int} {l : List Pt.Cl} {n : Nat} (h : e = 0 → l.length ≤ n) : (Pt.okL e l).length ≤ n := by
  unfold Pt.okL
  by_cases he : e = 0
  · rw [if_pos he]; exact h he
  · rw [if_neg he]; exact Nat.zero_le _
theorem blank_le {r c : Int} : (Pt.okL (Pt.eBlank r c) (List.replicate (r.toNat * c.toNat) Pt.zc)).length ≤ 4000 := okL_le fun h => by
  unfold Pt.eBlank at h
  cases h1 : Pt.wth c 1 16 with
  | false => rw [h1] at h; simp at h
  | true =>
    cases h2 : Pt.wth r 1 64 with
    | false => rw [h1, h2] at h; simp at h
    | true =>
      have a1 := Pt.wth_iff.1 h1
      have a2 := Pt.wth_iff.1 h2
      rw [List.length_replicate]
      have := Pt.rc_bound (R := r.toNat) (C := c.toNat) (by omega) (by omega)
      omega
theorem copy_le {r ch : Int} {l : List Pt.Cl} {a : Pt.Ar} : (Pt.okL (Pt.eArea r l ch a) (Pt.copyL l ch.toNat a.r.toNat a.c.toNat a.h.toNat a.w.toNat)).length ≤ 4000 := okL_le fun h => by
  obtain ⟨R, C, ar, ac, ah, aw, rfl, rfl, rfl, g1, g2, g3, g4, g5, g6, g7, -⟩ := area_nat h
  rw [show (Pt.copyL l (C : Int).toNat (ar : Int).toNat (ac : Int).toNat (ah : Int).toNat (aw : Int).toNat).length = ah * aw from Pt.mk_len _ _]
  have := Pt.rc_bound (R := ah) (C := aw) (by omega) (by omega)
  omega
theorem mk_le {e : Int} {n : Nat} {f : Nat → Pt.Cl} (h : n ≤ 4000) : (Pt.okL e (Pt.mk n f)).length ≤ 4000 := okL_le fun _ => by rw [Pt.mk_len]; exact h
theorem wl_cell {x : Wk} {p : Option Addr} {cap : Nat} {p2 : Option Addr} {cap2 : Nat} {w : World} {b : Nat} (h : w.rangeAt b 0 (WL x p cap p2 cap2)) : w.rangeAt b 15 (CL x.c) := by
  refine fun j v hj => ?_
  have := h (15 + j) v
  rw [show 0 + (15 + j) = 15 + j by omega] at this
  refine this ?_
  rcases j with _ | _ | _ | _ | _ | _ | j <;> first | exact hj | (simp [CL] at hj)
theorem ed_b6 {V W4 w5 w6 : World} {a : Nat} (hV : Below V.heap.size V W4) (hb5 : Below W4.heap.size W4 w5) (hs : V.heap.size ≤ a ∧ W4.heap.size = a + 4) (g6 : w5.grownBy w6 (some a)) : Below V.heap.size V w6 :=
  grown_at (stepB hV hb5) hs.1 (stepB hV hb5).size g6
theorem ed_m7 {W4 w5 w6 w7 : World} {a : Nat} (h : Em W4 (a + 1)) (hb5 : Below W4.heap.size W4 w5) (g6 : w5.grownBy w6 (some a)) (hb7 : Below w6.heap.size w6 w7) : Pb w7 (a + 1) 0 (.slice none 0 0) :=
  ((h.be hb5).pb.grown g6 (by omega)).kept hb7
/-- Cells that do not lie in block G. -/
def Li (w : World) (p : Option Addr) (l : List Pt.Cl) (G : Nat) : Prop := l = [] ∨ ∃ b off, p = some ⟨b, off, none⟩ ∧ b < w.heap.size ∧ b ≠ G ∧ w.rangeAt b off (cc l)
theorem Li.at {w : World} {p : Option Addr} {l : List Pt.Cl} {G : Nat} (h : Li w p l G) : CellsAt w p l := h.imp id fun ⟨b, off, h1, h2, _, h3⟩ => ⟨b, off, h1, h2, h3⟩
theorem Li.grown {w w' : World} {p : Option Addr} {l : List Pt.Cl} {G : Nat} (h : Li w p l G) (hg : w.grownBy w' (some G)) : CellsAt w' p l := h.imp id fun ⟨b, off, h1, h2, h4, h3⟩ => ⟨b, off, h1, Nat.lt_of_lt_of_le h2 hg.size, range_grown h3 hg h4 h2⟩
theorem Li.kept {w w' : World} {p : Option Addr} {l : List Pt.Cl} {G : Nat} (h : Li w p l G) (hb : Below w.heap.size w w') : Li w' p l G := h.imp id fun ⟨b, off, h1, h2, h4, h3⟩ => ⟨b, off, h1, Nat.lt_of_lt_of_le h2 hb.size, h4, range_below h3 hb h2⟩
structure Es (w : World) (a : Nat) (R2 : Int) (L2 : List Pt.Cl) (nr : Nat) (p6 : Option Addr) (c6 : Nat) (p8 : Option Addr) (c8 G : Nat) : Prop where
  pc : Pb w (a + 2) R2 (.slice p6 nr c6)
  pd : Pb w (a + 3) R2 (.slice p8 nr c8)
  lc : Li w p6 L2 G
  ld : Li w p8 L2 G
theorem Own.li {w : World} {B G : Nat} {p : Option Addr} {l : List Pt.Cl} (h : Own w B p l) (hG : G < B) : Li w p l G := h.imp id fun ⟨g, h1, h2, h3⟩ => ⟨g, 0, h1, h3.1, by omega, h3.2.1⟩
theorem ed_spl {V W4 w5 w6 v6 w7 w8 v8 : World} {a D D' : Nat} {R1 R2 : Int} {L1 L2 : List Pt.Cl} {nl nr : Nat} {p5 p6 p7 p8 : Option Addr} {c5 c6 c7 c8 : Nat} (hl : L1.length = nl) (hV : Below V.heap.size V W4) (hVa : V.heap.size ≤ a) (h4 : W4.heap.size = a + 4)
    (hb5 : Below W4.heap.size W4 w5) (hD : W4.heap.size ≤ D) (ho5 : L1 = [] ∨ ∃ g, p5 = some ⟨g, 0, none⟩ ∧ W4.heap.size ≤ g ∧ g < D ∧ Kr w5 g L1) (ho6 : Own w5 D p6 L2) (h6 : Pb w6 a R1 (.slice p5 nl c5)) (g6 : w5.grownBy w6 (some a)) (i6 : Pb v6 (a + 2) R2 (.slice p6 nr c6)) (k6 : w6.grownBy v6 (some (a + 2)))
    (hb7 : Below v6.heap.size v6 w7) (hD' : v6.heap.size ≤ D') (ho7 : L1 = [] ∨ ∃ g, p7 = some ⟨g, 0, none⟩ ∧ v6.heap.size ≤ g ∧ g < D' ∧ Kr w7 g L1) (ho8 : Own w7 D' p8 L2) (h8 : Pb w8 (a + 1) R1 (.slice p7 nl c7)) (g8 : w7.grownBy w8 (some (a + 1))) (i8 : Pb v8 (a + 3) R2 (.slice p8 nr c8)) (k8 : w8.grownBy v8 (some (a + 3))) :
    ∃ G, Ed V v8 a R1 L1 nl p5 c5 p7 c7 G ∧ Es v8 a R2 L2 nr p6 c6 p8 c8 G := by
  have s5 := hb5.size
  have s6 := g6.size
  have s6' := k6.size
  have s7 := hb7.size
  have s8 := g8.size
  have s8' := k8.size
  have sV := hV.size
  have bV : Below V.heap.size V v8 := grown_at (grown_at (stepB (grown_at (grown_at (stepB hV hb5) hVa (by omega) g6) (by omega) (by omega) k6) hb7) (by omega) (by omega) g8) (by omega) (by omega) k8
  have pa : Pb v8 a R1 (.slice p5 nl c5) := (((h6.grown k6 (by omega)).kept hb7).grown g8 (by omega)).grown k8 (by omega)
  have pb : Pb v8 (a + 1) R1 (.slice p7 nl c7) := h8.grown k8 (by omega)
  have pc : Pb v8 (a + 2) R2 (.slice p6 nr c6) := ((i6.kept hb7).grown g8 (by omega)).grown k8 (by omega)
  have lb : CellsAt v8 p7 L1 := by
    rcases ho7 with h | ⟨g, h1, h2, h3, h5⟩
    · exact .inl h
    · rw [h1]
      exact ((h5.grown g8 (by omega)).grown k8 (by omega)).at
  have o6 : Own v8 D p6 L2 := ((((ho6.grown g6 (by omega)).grown k6 (by omega)).kept hb7).grown g8 (by omega)).grown k8 (by omega)
  have o8 : Own v8 D' p8 L2 := (ho8.grown g8 (by omega)).grown k8 (by omega)
  rcases ho5 with h | ⟨g, h1, h2, h3, h5⟩
  · refine ⟨v8.heap.size, ⟨bV, ⟨hVa, by omega, by omega⟩, pa, pb, .inl (by rw [← hl, h]; rfl), .inl h, lb⟩, ⟨pc, i8, ?_, ?_⟩⟩
    · exact o6.imp id fun ⟨g, h1, _, h3⟩ => ⟨g, 0, h1, h3.1, by have := h3.1; omega, h3.2.1⟩
    · exact o8.imp id fun ⟨g, h1, _, h3⟩ => ⟨g, 0, h1, h3.1, by have := h3.1; omega, h3.2.1⟩
  · have hk : Kr v8 g L1 := ((((h5.grown g6 (by omega)).grown k6 (by omega)).kept hb7).grown g8 (by omega)).grown k8 (by omega)
    have hg5 := h5.1
    exact ⟨g, ⟨bV, ⟨hVa, by omega, by omega⟩, pa, pb, .inr ⟨h1, hk⟩, by rw [h1]; exact hk.at, lb⟩, ⟨pc, i8, o6.li h3, o8.li (by omega)⟩⟩
theorem es_zero {w : World} {a G : Nat} (h2 : Em w (a + 2)) (h3 : Em w (a + 3)) : Es w a 0 [] 0 none 0 none 0 G := ⟨h2, h3, .inl rfl, .inl rfl⟩
theorem ed_b7 {V W4 w5 w6 v6 : World} {a : Nat} (hV : Below V.heap.size V W4) (hb5 : Below W4.heap.size W4 w5) (hs : V.heap.size ≤ a ∧ W4.heap.size = a + 4) (g6 : w5.grownBy w6 (some a)) (k6 : w6.grownBy v6 (some (a + 2))) : Below V.heap.size V v6 :=
  grown_at (ed_b6 hV hb5 hs g6) (by omega) (ed_b6 hV hb5 hs g6).size k6
theorem ed_m8 {W4 w5 w6 v6 w7 w8 : World} {a : Nat} (h : Em W4 (a + 3)) (hb5 : Below W4.heap.size W4 w5) (g6 : w5.grownBy w6 (some a)) (k6 : w6.grownBy v6 (some (a + 2))) (hb7 : Below v6.heap.size v6 w7) (g8 : w7.grownBy w8 (some (a + 1))) : Pb w8 (a + 3) 0 (.slice none 0 0) :=
  (((((h.be hb5).pb.grown g6 (by omega)).grown k6 (by omega)).kept hb7).grown g8 (by omega))
end Go.Proofs.YtfjfnbeegojlbaaGreat
