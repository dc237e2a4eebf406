/-
  Package pattern's demand, reader.next.
-/
import Derived.Test.YtfjfnbeegojlbaaPuN
import Derived.Test.YtfjfnbeegojlbaaPPack
import Derived.WalkSmall
import Derived.WalkLawsBesides
import Derived.Deep.RegionHeld2
namespace Go.Proofs.Ytfjfnbeegojlbaa
open Go.RowKit

/-- A panic with an error. -/
def Pn (e : Int) : Ending := .panicked [{ v := .iface 34 (.int .i64 e), recovered := false }]
theorem p_demand_ok (e : Int) (w : World) :
    Calls Try.prog 59 #[.bool true, .int .i64 e] w fun x w' => x = .returned (.tuple #[]) ∧ Below w.heap.size w w' := by
  go_enter Try.func59, Try.ntmps59
  go_wp2
  go_end0
  exact ⟨rfl, Below.refl _ _⟩
theorem p_demand_bad (e : Int) (w : World) :
    Calls Try.prog 59 #[.bool false, .int .i64 e] w fun x w' => x = Pn e ∧ Below w.heap.size w w' := by
  go_enter Try.func59, Try.ntmps59
  go_wp2
  exact ⟨rfl, rfl, Below.refl _ _⟩
theorem p_demand_if (b : Bool) (e : Int) (w : World) :
    Calls Try.prog 59 #[.bool b, .int .i64 e] w fun x w' => x = (if b then .returned (.tuple #[]) else Pn e) ∧ Below w.heap.size w w' := by
  cases b
  · exact p_demand_bad e w
  · exact p_demand_ok e w
/-- Bytes that lie at p. -/
def bb (xs : List Int) : List Value := xs.map (.int .u8)
def InB (w : World) (p : Option Addr) (xs : List Int) : Prop := xs = [] ∨ ∃ b off, p = some ⟨b, off, none⟩ ∧ b < w.heap.size ∧ w.rangeAt b off (bb xs)
theorem InB.below {w w' : World} {p : Option Addr} {xs : List Int} (h : InB w p xs) (hb : Below w.heap.size w w') : InB w' p xs := by
  rcases h with h | ⟨b, off, hp, hl, hc⟩
  · exact .inl h
  · exact .inr ⟨b, off, hp, Nat.lt_of_lt_of_le hl hb.size, range_below hc hb hl⟩
theorem bb_get {xs : List Int} {i : Nat} (hi : i < xs.length) : (bb xs)[i]? = some (.int .u8 (xs.getD i 0)) := by
  simp [bb, List.getD_eq_getElem?_getD, hi]
/-- One cell of block b has been set, and nothing else that was there. -/
structure S1 (w : World) (b o : Nat) (v : Value) (w' : World) : Prop where
  gr : w.grownBy w' (some b)
  val : w'.cell? ⟨b, o, none⟩ = some v
  fz : w'.frozen? ⟨b, o, none⟩ = false
  out : ∀ o', o' ≠ o → w'.cell? ⟨b, o', none⟩ = w.cell? ⟨b, o', none⟩ ∧ w'.frozen? ⟨b, o', none⟩ = w.frozen? ⟨b, o', none⟩
theorem S1.mk' {w w1 : World} {b o : Nat} {u v : Value} (hb : Below w.heap.size w w1) (h : w.cell? ⟨b, o, none⟩ = some u) (hz : w.frozen? ⟨b, o, none⟩ = false) : S1 w b o v (w1.setCell ⟨b, o, none⟩ v) := by
  have hl : b < w.heap.size := cell_lt h
  refine ⟨grownBy_trans (grownBy_of hb) (grown_set _ _ _ _), ?_, ?_, fun o' ho => ?_⟩
  · exact World.cell?_setCell_same _ _ _ (kept_cell hb h)
  · have : w1.frozen? ⟨b, o, none⟩ = false := by rw [hb.frozen (p := ⟨b, o, none⟩) hl]; exact hz
    simpa using this
  · rw [World.cell?_setCell_other _ _ _ _ (fun e => by have := congrArg Addr.off e; simp at this; omega)]
    refine ⟨hb.cell (p := ⟨b, o', none⟩) hl, ?_⟩
    have : w1.frozen? ⟨b, o', none⟩ = w.frozen? ⟨b, o', none⟩ := hb.frozen (p := ⟨b, o', none⟩) hl
    simpa using this
theorem S1.below {w w1 w2 : World} {b o : Nat} {v : Value} (h : S1 w b o v w1) (hb : Below w1.heap.size w1 w2) : S1 w b o v w2 := by
  have hl : b < w1.heap.size := cell_lt h.val
  refine ⟨grownBy_trans h.gr (grownBy_of hb), kept_cell hb h.val, ?_, fun o' ho => ?_⟩
  · rw [hb.frozen (p := ⟨b, o, none⟩) hl]; exact h.fz
  · rw [hb.cell (p := ⟨b, o', none⟩) hl, hb.frozen (p := ⟨b, o', none⟩) hl]; exact h.out o' ho
theorem post_panic {P : Program} {fn : Func} {R : Ending → World → Prop} {c : List PanicEntry} {a : Act} {w : World} (h1 : a.defers = []) (h2 : R (.panicked c) w) : bodyPost P fn R (.panic c) a w := ⟨h1, h2⟩
theorem p_next_ok (xs : List Int) (b off cap bR i : Nat) (w : World) (h0 : w.cell? ⟨bR, 0, none⟩ = some (.slice (some ⟨b, off, none⟩) xs.length cap)) (h1 : w.cell? ⟨bR, 1, none⟩ = some (.int .i64 (i : Nat))) (hz : w.frozen? ⟨bR, 1, none⟩ = false) (hr : w.rangeAt b off (bb xs)) (hi : i < xs.length) (hm : (xs.length : Int) ≤ 1000000000) (hy : Pt.bys xs) (hne : b ≠ bR) :
    Calls Try.prog 58 #[.pointer (some ⟨bR, 0, none⟩)] w fun x w' => x = .returned (.int .i64 (xs.getD i 0)) ∧ S1 w bR 1 (.int .i64 ((i + 1 : Nat) : Int)) w' := by
  have hb := hr i _ (bb_get hi)
  have hc := hy (xs.getD i 0) (by rw [List.getD_eq_getElem?_getD, List.getElem?_eq_getElem hi]; exact List.getElem_mem hi)
  obtain ⟨z, hz0⟩ : ∃ z, xs.getD i 0 = z := ⟨_, rfl⟩
  rw [hz0] at hb hc ⊢
  obtain ⟨n, hn⟩ : ∃ n, xs.length = n := ⟨_, rfl⟩
  rw [hn] at h0 hi hm
  have i1 : (i : Int) < (n : Int) := by omega
  have C1 := Lib.hid (fun u => p_demand_ok 12 u)
  clear hy hz0 hr hn
  obtain ⟨hc1, hc2⟩ := hc
  have KS := Lib.hid (fun u (hu : Below w.heap.size w u) => show Below w.heap.size w u ∧ u.cell? ⟨bR, 0, none⟩ = some (.slice (some ⟨b, off, none⟩) n cap) ∧ u.cell? ⟨bR, 1, none⟩ = some (.int .i64 (i : Nat)) from ⟨hu, kept_cell hu h0, kept_cell hu h1⟩)
  have hg0 := (Below.refl w.heap.size w).drew
  have hgg := KS.out _ hg0
  have e1 : IntKind.i64.wrap ((i : Int) + 1) = (i : Int) + 1 := by rw [IntKind.wrap_i64]; omega
  have e2 : (i : Int) + 1 - 1 = (i : Int) := by omega
  have e3 : IntKind.i64.wrap (i : Int) = (i : Int) := by rw [IntKind.wrap_i64]; omega
  have e4 : IntKind.i64.wrap z = z := by rw [IntKind.wrap_i64]; omega
  have H := Lib.hid (show _ ∧ _ ∧ _ from ⟨h1, hz, hb⟩)
  have K0 := Lib.hid h0
  clear h0 h1 hz hb
  go_enter Try.func58, Try.ntmps58
  go_upto_region 1 with fail
  go_region_held3 (fun u => Below w.heap.size w u ∧ u.cell? ⟨bR, 0, none⟩ = some (.slice (some ⟨b, off, none⟩) n cap) ∧ u.cell? ⟨bR, 1, none⟩ = some (.int .i64 (i : Nat)))
    (first | with_reducible exact hgg | exact KS.out _ (stepB hg0 hb1))
    (first | (go_at_call 59; refine (C1.out _).mono ?_; rintro x' w1 ⟨rfl, hb1⟩))
  have k2 : w1.cell? ⟨bR, 1, none⟩ = some (.int .i64 (i : Nat)) := kept_cell (stepB hg0 hb1) H.out.1
  have k3 : w1.frozen? ⟨bR, 1, none⟩ = false := by rw [(stepB hg0 hb1).frozen (p := ⟨bR, 1, none⟩) (cell_lt H.out.1)]; exact H.out.2.1
  have HB1 := Lib.hid (stepB hg0 hb1)
  clear hgg hg0 KS hb1
  go_upto_region 3 with fail
  obtain ⟨w2, hw2⟩ : ∃ w2, w2 = w1.setCell ⟨bR, 1, none⟩ (.int .i64 ((i : Int) + 1)) := ⟨_, rfl⟩
  rw [← hw2]
  have HS := Lib.hid (show S1 w bR 1 (.int .i64 ((i : Int) + 1)) w2 by rw [hw2]; exact S1.mk' HB1.out H.out.1 H.out.2.1)
  clear hw2 k2 k3
  have hkb : w2.cell? ⟨b, off + i, none⟩ = some (.int .u8 z) := by rw [World.cell?_of_block (HS.out.gr.block b (cell_lt H.out.2.2) (fun e => hne (by simpa using e)))]; exact H.out.2.2
  have hk0 : w2.cell? ⟨bR, 0, none⟩ = some (.slice (some ⟨b, off, none⟩) n cap) := by rw [(HS.out.out 0 (by decide)).1]; exact K0.out
  have KS2 := Lib.hid (fun u (hu : Below w2.heap.size w2 u) => show Below w2.heap.size w2 u ∧ u.cell? ⟨bR, 0, none⟩ = some (.slice (some ⟨b, off, none⟩) n cap) ∧ u.cell? ⟨bR, 1, none⟩ = some (.int .i64 ((i : Int) + 1)) ∧ u.cell? ⟨b, off + i, none⟩ = some (.int .u8 z) from ⟨hu, kept_cell hu hk0, kept_cell hu HS.out.val, kept_cell hu hkb⟩)
  have hg2 := (Below.refl w2.heap.size w2).drew
  have hgg2 := KS2.out _ hg2
  clear hkb hk0
  go_region_held3 (fun u => Below w2.heap.size w2 u ∧ u.cell? ⟨bR, 0, none⟩ = some (.slice (some ⟨b, off, none⟩) n cap) ∧ u.cell? ⟨bR, 1, none⟩ = some (.int .i64 ((i : Int) + 1)) ∧ u.cell? ⟨b, off + i, none⟩ = some (.int .u8 z))
    (first | with_reducible exact hgg2)
    (first | fail)
  go_wp2
  go_ret
  exact ⟨rfl, HS.out.below hg2⟩
theorem p_next_end (n cap bR : Nat) (p : Option Addr) (w : World) (h0 : w.cell? ⟨bR, 0, none⟩ = some (.slice p n cap)) (h1 : w.cell? ⟨bR, 1, none⟩ = some (.int .i64 (n : Nat))) :
    Calls Try.prog 58 #[.pointer (some ⟨bR, 0, none⟩)] w fun x w' => x = Pn 12 ∧ Below w.heap.size w w' := by
  have C1 := Lib.hid (fun u => p_demand_bad 12 u)
  have KS := Lib.hid (fun u (hu : Below w.heap.size w u) => show Below w.heap.size w u ∧ u.cell? ⟨bR, 0, none⟩ = some (.slice p n cap) ∧ u.cell? ⟨bR, 1, none⟩ = some (.int .i64 (n : Nat)) from ⟨hu, kept_cell hu h0, kept_cell hu h1⟩)
  have hg0 := (Below.refl w.heap.size w).drew
  have hgg := KS.out _ hg0
  have e1 : ¬ (n : Int) < (n : Int) := by omega
  clear h0 h1
  unfold Pn at C1 ⊢
  go_enter Try.func58, Try.ntmps58
  go_upto_region 1 with fail
  refine wp_region_held_drew (S := fun u => Below w.heap.size w u ∧ u.cell? ⟨bR, 0, none⟩ = some (.slice p n cap) ∧ u.cell? ⟨bR, 1, none⟩ = some (.int .i64 (n : Nat))) (by kernel_rfl) (hgg) (fun hHeld => ?_)
  refine wpAnyH_take (i := 0) (oi := ?oi0) (v := .pointer (some ⟨bR, 0, none⟩)) ?hi0 (by kernel_rfl) (by kernel_rfl) (by kernel_rfl) ?hq0 ?hy0 (by assumption) ?rest0
  case hi0 => (simp only [List.getElem?_toArray, List.getElem?_cons_zero]; rfl)
  case hq0 => exact fun c a w h => h
  case hy0 => exact Or.inl ⟨by rfl, fun w hSw => by (try dsimp only at hSw); go_simp⟩
  case rest0 =>
  simp only [Act.put, List.setIfInBounds_toArray, List.set_cons_zero, List.set_cons_succ]
  refine wpAnyH_take (i := 1) (oi := ?oi1) (v := .pointer (some ⟨bR, 0, none⟩)) ?hi1 (by kernel_rfl) (by kernel_rfl) (by kernel_rfl) ?hq1 ?hy1 (by assumption) ?rest1
  case hi1 => (simp only [List.getElem?_toArray, List.getElem?_cons_succ, List.getElem?_cons_zero]; rfl)
  case hq1 => exact fun c a w h => h
  case hy1 => exact Or.inl ⟨by rfl, fun w hSw => by (try dsimp only at hSw); go_simp⟩
  case rest1 =>
  simp only [Act.put, List.setIfInBounds_toArray, List.set_cons_zero, List.set_cons_succ]
  refine wpAnyH_take (i := 2) (oi := ?oi2) (v := .pointer (some ⟨bR, 1, none⟩)) ?hi2 (by kernel_rfl) (by kernel_rfl) (by kernel_rfl) ?hq2 ?hy2 (by assumption) ?rest2
  case hi2 => (simp only [List.getElem?_toArray, List.getElem?_cons_succ, List.getElem?_cons_zero]; rfl)
  case hq2 => exact fun c a w h => h
  case hy2 => exact Or.inl ⟨by rfl, fun w hSw => by (try dsimp only at hSw); go_simp⟩
  case rest2 =>
  simp only [Act.put, List.setIfInBounds_toArray, List.set_cons_zero, List.set_cons_succ]
  refine wpAnyH_take (i := 3) (oi := ?oi3) (v := .int .i64 (n : Nat)) ?hi3 (by kernel_rfl) (by kernel_rfl) (by kernel_rfl) ?hq3 ?hy3 (by assumption) ?rest3
  case hi3 => (simp only [List.getElem?_toArray, List.getElem?_cons_succ, List.getElem?_cons_zero]; rfl)
  case hq3 => exact fun c a w h => h
  case hy3 => exact Or.inl ⟨by rfl, fun w hSw => by (try dsimp only at hSw); go_simp⟩
  case rest3 =>
  simp only [Act.put, List.setIfInBounds_toArray, List.set_cons_zero, List.set_cons_succ]
  refine wpAnyH_take (i := 4) (oi := ?oi4) (v := .pointer (some ⟨bR, 0, none⟩)) ?hi4 (by kernel_rfl) (by kernel_rfl) (by kernel_rfl) ?hq4 ?hy4 (by assumption) ?rest4
  case hi4 => (simp only [List.getElem?_toArray, List.getElem?_cons_succ, List.getElem?_cons_zero]; rfl)
  case hq4 => exact fun c a w h => h
  case hy4 => exact Or.inl ⟨by rfl, fun w hSw => by (try dsimp only at hSw); go_simp⟩
  case rest4 =>
  simp only [Act.put, List.setIfInBounds_toArray, List.set_cons_zero, List.set_cons_succ]
  refine wpAnyH_take (i := 5) (oi := ?oi5) (v := .pointer (some ⟨bR, 0, none⟩)) ?hi5 (by kernel_rfl) (by kernel_rfl) (by kernel_rfl) ?hq5 ?hy5 (by assumption) ?rest5
  case hi5 => (simp only [List.getElem?_toArray, List.getElem?_cons_succ, List.getElem?_cons_zero]; rfl)
  case hq5 => exact fun c a w h => h
  case hy5 => exact Or.inl ⟨by rfl, fun w hSw => by (try dsimp only at hSw); go_simp⟩
  case rest5 =>
  simp only [Act.put, List.setIfInBounds_toArray, List.set_cons_zero, List.set_cons_succ]
  refine wpAnyH_take (i := 6) (oi := ?oi6) (v := .pointer (some ⟨bR, 0, none⟩)) ?hi6 (by kernel_rfl) (by kernel_rfl) (by kernel_rfl) ?hq6 ?hy6 (by assumption) ?rest6
  case hi6 => (simp only [List.getElem?_toArray, List.getElem?_cons_succ, List.getElem?_cons_zero]; rfl)
  case hq6 => exact fun c a w h => h
  case hy6 => exact Or.inl ⟨by rfl, fun w hSw => by (try dsimp only at hSw); go_simp⟩
  case rest6 =>
  simp only [Act.put, List.setIfInBounds_toArray, List.set_cons_zero, List.set_cons_succ]
  refine wpAnyH_take (i := 7) (oi := ?oi7) (v := .slice p n cap) ?hi7 (by kernel_rfl) (by kernel_rfl) (by kernel_rfl) ?hq7 ?hy7 (by assumption) ?rest7
  case hi7 => (simp only [List.getElem?_toArray, List.getElem?_cons_succ, List.getElem?_cons_zero]; rfl)
  case hq7 => exact fun c a w h => h
  case hy7 => exact Or.inl ⟨by rfl, fun w hSw => by (try dsimp only at hSw); go_simp⟩
  case rest7 =>
  simp only [Act.put, List.setIfInBounds_toArray, List.set_cons_zero, List.set_cons_succ]
  refine wpAnyH_take (i := 8) (oi := ?oi8) (v := .int .i64 (n : Nat)) ?hi8 (by kernel_rfl) (by kernel_rfl) (by kernel_rfl) ?hq8 ?hy8 (by assumption) ?rest8
  case hi8 => (simp only [List.getElem?_toArray, List.getElem?_cons_succ, List.getElem?_cons_zero]; rfl)
  case hq8 => exact fun c a w h => h
  case hy8 => exact Or.inl ⟨by rfl, fun w hSw => by (try dsimp only at hSw); go_simp⟩
  case rest8 =>
  simp only [Act.put, List.setIfInBounds_toArray, List.set_cons_zero, List.set_cons_succ]
  refine wpAnyH_take (i := 9) (oi := ?oi9) (v := .bool false) ?hi9 (by kernel_rfl) (by kernel_rfl) (by kernel_rfl) ?hq9 ?hy9 (by assumption) ?rest9
  case hi9 => (simp only [List.getElem?_toArray, List.getElem?_cons_succ, List.getElem?_cons_zero]; rfl)
  case hq9 => exact fun c a w h => h
  case hy9 => exact Or.inl ⟨by rfl, fun w hSw => by (try dsimp only at hSw); go_simp⟩
  case rest9 =>
  simp only [Act.put, List.setIfInBounds_toArray, List.set_cons_zero, List.set_cons_succ]
  refine wpAnyH_ready (rs := [10]) (by kernel_rfl) (by simp) ?_
  refine AllReadyH.cons (o := ?o10) (ho := ?ho10) (fun K' hK' => ?st10) AllReadyH.nil
  case ho10 => (simp only [List.getElem?_toArray, List.getElem?_cons_succ, List.getElem?_cons_zero]; rfl)
  case st10 =>
  go_simp
  (go_at_call 59; refine (C1.out _).mono ?_; rintro x' w1 ⟨rfl, hb1⟩)
  exact post_panic rfl ⟨rfl, stepB hg0 hb1⟩
theorem S1.trans {w w1 w2 : World} {b o : Nat} {u v : Value} (h : S1 w b o u w1) (h2 : S1 w1 b o v w2) : S1 w b o v w2 :=
  ⟨grownBy_trans h.gr h2.gr, h2.val, h2.fz, fun o' ho => ⟨(h2.out o' ho).1.trans (h.out o' ho).1, (h2.out o' ho).2.trans (h.out o' ho).2⟩⟩
theorem S1.refl {w w1 : World} {b o : Nat} {v : Value} (hb : Below w.heap.size w w1) (h : w.cell? ⟨b, o, none⟩ = some v) (hz : w.frozen? ⟨b, o, none⟩ = false) : S1 w b o v w1 := by
  have hl : b < w.heap.size := cell_lt h
  exact ⟨grownBy_of hb, kept_cell hb h, by rw [hb.frozen (p := ⟨b, o, none⟩) hl]; exact hz, fun o' _ => ⟨hb.cell (p := ⟨b, o', none⟩) hl, hb.frozen (p := ⟨b, o', none⟩) hl⟩⟩
theorem S1.fresh {w w1 w2 : World} {b o g : Nat} {v : Value} (h : S1 w b o v w1) (hb : b < w.heap.size) (hg : w1.grownBy w2 (some g)) (hgw : w.heap.size ≤ g) : S1 w b o v w2 := by
  have hl : b < w1.heap.size := cell_lt h.val
  have e : w2.heap[b]? = w1.heap[b]? := hg.block b hl (fun e => by simp at e; omega)
  refine ⟨⟨hg.os.trans h.gr.os, hg.tape.trans h.gr.tape, hg.output.trans h.gr.output, Nat.le_trans h.gr.size hg.size, fun k hk hne => (hg.block k (Nat.lt_of_lt_of_le hk h.gr.size) (fun e => by simp at e; omega)).trans (h.gr.block k hk hne)⟩, ?_, ?_, fun o' ho => ?_⟩
  · rw [World.cell?_of_block (a := ⟨b, o, none⟩) e]; exact h.val
  · rw [World.frozen?_of_block (a := ⟨b, o, none⟩) e]; exact h.fz
  · rw [World.cell?_of_block (a := ⟨b, o', none⟩) e, World.frozen?_of_block (a := ⟨b, o', none⟩) e]; exact h.out o' ho
/-- A reader: its bytes, and where it stands. -/
structure Rn (w : World) (bR : Nat) (xs : List Int) (p : Option Addr) (cap i : Nat) : Prop where
  sl : w.cell? ⟨bR, 0, none⟩ = some (.slice p xs.length cap)
  ps : w.cell? ⟨bR, 1, none⟩ = some (.int .i64 (i : Nat))
  fz : w.frozen? ⟨bR, 1, none⟩ = false
  inp : InB w p xs
  hi : i ≤ xs.length
  hm : (xs.length : Int) ≤ 1000000000
  hy : Pt.bys xs
  ne : ∀ b off, p = some ⟨b, off, none⟩ → b ≠ bR
theorem Rn.lt {w : World} {bR : Nat} {xs : List Int} {p : Option Addr} {cap i : Nat} (h : Rn w bR xs p cap i) : bR < w.heap.size := cell_lt h.ps
theorem Rn.below {w w' : World} {bR : Nat} {xs : List Int} {p : Option Addr} {cap i : Nat} (h : Rn w bR xs p cap i) (hb : Below w.heap.size w w') : Rn w' bR xs p cap i :=
  ⟨kept_cell hb h.sl, kept_cell hb h.ps, by rw [hb.frozen (p := ⟨bR, 1, none⟩) h.lt]; exact h.fz, h.inp.below hb, h.hi, h.hm, h.hy, h.ne⟩
theorem InB.grown {w w' : World} {g : Nat} {p : Option Addr} {xs : List Int} (h : InB w p xs) (hg : w.grownBy w' (some g)) (hne : ∀ b off, p = some ⟨b, off, none⟩ → b ≠ g) : InB w' p xs := by
  rcases h with h | ⟨b, off, hp, hl, hc⟩
  · exact .inl h
  · exact .inr ⟨b, off, hp, Nat.lt_of_lt_of_le hl hg.size, range_grown hc hg (hne b off hp) hl⟩
theorem Rn.step {w w' : World} {bR : Nat} {xs : List Int} {p : Option Addr} {cap i j : Nat} (h : Rn w bR xs p cap i) (h2 : S1 w bR 1 (.int .i64 (j : Nat)) w') (hj : j ≤ xs.length) : Rn w' bR xs p cap j :=
  ⟨by rw [(h2.out 0 (by decide)).1]; exact h.sl, h2.val, h2.fz, h.inp.grown h2.gr h.ne, hj, h.hm, h.hy, h.ne⟩
theorem Rn.fresh {w w' : World} {bR g : Nat} {xs : List Int} {p : Option Addr} {cap i : Nat} (h : Rn w bR xs p cap i) (hg : w.grownBy w' (some g)) (hne : bR ≠ g) (hp : ∀ b off, p = some ⟨b, off, none⟩ → b ≠ g) : Rn w' bR xs p cap i := by
  have e : w'.heap[bR]? = w.heap[bR]? := hg.block bR h.lt (fun e => by simp at e; omega)
  exact ⟨by rw [World.cell?_of_block (a := ⟨bR, 0, none⟩) e]; exact h.sl, by rw [World.cell?_of_block (a := ⟨bR, 1, none⟩) e]; exact h.ps, by rw [World.frozen?_of_block (a := ⟨bR, 1, none⟩) e]; exact h.fz, h.inp.grown hg hp, h.hi, h.hm, h.hy, h.ne⟩
theorem drop_cons' {xs : List Int} {i : Nat} {y : Int} {t : List Int} (h : xs.drop i = y :: t) : i < xs.length ∧ y = xs.getD i 0 ∧ t = xs.drop (i + 1) := by
  have hi : i < xs.length := by
    refine Classical.byContradiction fun hn => ?_
    rw [List.drop_of_length_le (by omega)] at h
    exact absurd h (by simp)
  rw [List.drop_eq_getElem_cons hi] at h
  simp only [List.cons.injEq] at h
  refine ⟨hi, ?_, h.2.symm⟩
  rw [List.getD_eq_getElem?_getD, List.getElem?_eq_getElem hi]
  exact h.1.symm
theorem p_next_cons {w : World} {bR : Nat} {xs : List Int} {p : Option Addr} {cap i : Nat} (h : Rn w bR xs p cap i) {y : Int} {t : List Int} (e : xs.drop i = y :: t) :
    Calls Try.prog 58 #[.pointer (some ⟨bR, 0, none⟩)] w fun x w' => x = .returned (.int .i64 y) ∧ S1 w bR 1 (.int .i64 ((i + 1 : Nat) : Int)) w' := by
  obtain ⟨hi, rfl, -⟩ := drop_cons' e
  rcases h.inp with h0 | ⟨b, off, rfl, hl, hr⟩
  · subst h0; exact absurd hi (by simp)
  · exact p_next_ok xs b off cap bR i w h.sl h.ps h.fz hr hi h.hm h.hy (h.ne b off rfl)
theorem p_next_nil {w : World} {bR : Nat} {xs : List Int} {p : Option Addr} {cap i : Nat} (h : Rn w bR xs p cap i) (e : xs.drop i = []) :
    Calls Try.prog 58 #[.pointer (some ⟨bR, 0, none⟩)] w fun x w' => x = Pn 12 ∧ Below w.heap.size w w' := by
  have hi : i = xs.length := by
    have := congrArg List.length e
    have := h.hi
    simp at *
    omega
  subst hi
  exact p_next_end xs.length cap bR p w h.sl h.ps
end Go.Proofs.Ytfjfnbeegojlbaa
