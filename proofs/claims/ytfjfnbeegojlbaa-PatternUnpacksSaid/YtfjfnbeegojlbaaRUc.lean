/-
  The reference's puller: one and bad; joined, parts once more; its cell: mathematics, words.
-/
import Derived.Test.YtfjfnbeegojlbaaPuM
import Derived.Test.YtfjfnbeegojlbaaPRd
import Derived.Test.YtfjfnbeegojlbaaRPackA
import Derived.Test.YtfjfnbeegojlbaaPUcA
import Derived.Test.YtfjfnbeegojlbaaPUnA
namespace Go.Proofs.Ytfjfnbeegojlbaa
open Go.RowKit

namespace Pt
/-- The next byte; where the puller stands then; its error. -/
def on1 (xs : List Int) (i : Nat) (e : Int) : Int := if e = 0 ∧ i < xs.length then xs.getD i 0 else 0
def oni (xs : List Int) (i : Nat) (e : Int) : Nat := if e = 0 ∧ i < xs.length then i + 1 else i
def one (xs : List Int) (i : Nat) (e : Int) : Int := if e = 0 ∧ ¬ i < xs.length then 12 else e
def bde (b : Bool) (e : Int) : Int := if b = true ∧ e = 0 then 9 else e
end Pt
/-- Where the reference's puller stands. -/
structure Ru (w : World) (bR : Nat) (xs : List Int) (p : Option Addr) (cap i : Nat) (e : Int) : Prop where
  sl : w.cell? ⟨bR, 0, none⟩ = some (.slice p xs.length cap)
  ps : w.cell? ⟨bR, 1, none⟩ = some (.int .i64 (i : Nat))
  er : w.cell? ⟨bR, 2, none⟩ = some (.int .i64 e)
  f1 : w.frozen? ⟨bR, 1, none⟩ = false
  f2 : w.frozen? ⟨bR, 2, none⟩ = false
  inp : InB w p xs
  hi : i ≤ xs.length
  hm : (xs.length : Int) ≤ 1000000000
  ne : ∀ b off, p = some ⟨b, off, none⟩ → b ≠ bR
  hy : Pt.bys xs
theorem Ru.lt {w : World} {bR : Nat} {xs : List Int} {p : Option Addr} {cap i : Nat} {e : Int} (h : Ru w bR xs p cap i e) : bR < w.heap.size := cell_lt h.ps
theorem Ru.apart {w w' : World} {bR : Nat} {xs : List Int} {p : Option Addr} {cap i : Nat} {e : Int} (h : Ru w bR xs p cap i e) {r : Option Nat} (hg : w.grownBy w' r) (h1 : r ≠ some bR) (h2 : ∀ b off, p = some ⟨b, off, none⟩ → r ≠ some b) : Ru w' bR xs p cap i e := by
  have hb := hg.block bR h.lt (fun e => h1 e.symm)
  have hc : ∀ o, w'.cell? ⟨bR, o, none⟩ = w.cell? ⟨bR, o, none⟩ := fun o => World.cell?_of_block (a := ⟨bR, o, none⟩) hb
  have hf : ∀ o, w'.frozen? ⟨bR, o, none⟩ = w.frozen? ⟨bR, o, none⟩ := fun o => World.frozen?_of_block (a := ⟨bR, o, none⟩) hb
  refine ⟨by rw [hc]; exact h.sl, by rw [hc]; exact h.ps, by rw [hc]; exact h.er, by rw [hf]; exact h.f1, by rw [hf]; exact h.f2, ?_, h.hi, h.hm, h.ne, h.hy⟩
  rcases h.inp with e | ⟨b, off, e, hl, hr⟩
  · exact .inl e
  · refine .inr ⟨b, off, e, Nat.lt_of_lt_of_le hl hg.size, fun j v hv => ?_⟩
    rw [World.cell?_of_block (a := ⟨b, off + j, none⟩) (hg.block b hl (fun e' => h2 b off e e'.symm))]
    exact hr j v hv
theorem Ru.below {w w' : World} {bR : Nat} {xs : List Int} {p : Option Addr} {cap i : Nat} {e : Int} (h : Ru w bR xs p cap i e) (hb : Below w.heap.size w w') : Ru w' bR xs p cap i e :=
  h.apart (r := none) (grownBy_of hb) (by simp) (by simp)
theorem Ru.setP {w : World} {bR : Nat} {xs : List Int} {p : Option Addr} {cap i : Nat} {e : Int} (h : Ru w bR xs p cap i e) {j : Nat} (hj : j ≤ xs.length) : Ru (w.setCell ⟨bR, 1, none⟩ (.int .i64 (j : Nat))) bR xs p cap j e := by
  have hg : w.grownBy (w.setCell ⟨bR, 1, none⟩ (.int .i64 (j : Nat))) (some bR) := grown_set _ _ _ _
  refine ⟨?_, World.cell?_setCell_same _ _ _ h.ps, ?_, by simpa using h.f1, by simpa using h.f2, h.inp.grown hg h.ne, hj, h.hm, h.ne, h.hy⟩
  · rw [World.cell?_setCell_other _ _ _ _ (fun e => by have := congrArg Addr.off e; simp at this)]; exact h.sl
  · rw [World.cell?_setCell_other _ _ _ _ (fun e => by have := congrArg Addr.off e; simp at this)]; exact h.er
theorem Ru.setE {w : World} {bR : Nat} {xs : List Int} {p : Option Addr} {cap i : Nat} {e : Int} (h : Ru w bR xs p cap i e) (z : Int) : Ru (w.setCell ⟨bR, 2, none⟩ (.int .i64 z)) bR xs p cap i z := by
  have hg : w.grownBy (w.setCell ⟨bR, 2, none⟩ (.int .i64 z)) (some bR) := grown_set _ _ _ _
  refine ⟨?_, ?_, World.cell?_setCell_same _ _ _ h.er, by simpa using h.f1, by simpa using h.f2, h.inp.grown hg h.ne, h.hi, h.hm, h.ne, h.hy⟩
  · rw [World.cell?_setCell_other _ _ _ _ (fun e => by have := congrArg Addr.off e; simp at this)]; exact h.sl
  · rw [World.cell?_setCell_other _ _ _ _ (fun e => by have := congrArg Addr.off e; simp at this)]; exact h.ps
theorem Ru.quiet {w : World} {bR : Nat} {xs : List Int} {p : Option Addr} {cap i : Nat} {e : Int} (h : Ru w bR xs p cap i e) (n : Nat) : Ru (w.drewN n) bR xs p cap i e := h.below (below_drewN' (Below.refl _ _) n)
theorem grown_quiet {w w' : World} {r : Option Nat} (h : w.grownBy w' r) (n : Nat) : w.grownBy (w'.drewN n) r := ⟨h.os, h.tape, h.output, h.size, h.block⟩
theorem r_one (xs : List Int) (p : Option Addr) (cap bR i : Nat) (e : Int) (w : World) (h : Ru w bR xs p cap i e) :
    Calls Try.prog 61 #[.pointer (some ⟨bR, 0, none⟩)] w fun x w' => x = .returned (.int .i64 (Pt.on1 xs i e)) ∧ Ru w' bR xs p cap (Pt.oni xs i e) (Pt.one xs i e) ∧ w.grownBy w' (some bR) := by
  have HR := Lib.hid h
  have k0 := h.sl
  have k1 := h.ps
  have k2 := h.er
  have f1 := h.f1
  have f2 := h.f2
  by_cases he : e = 0
  · subst he
    by_cases hi : i < xs.length
    · have e1 : Pt.on1 xs i 0 = xs.getD i 0 := by simp [Pt.on1, hi]
      have e2 : Pt.oni xs i 0 = i + 1 := by simp [Pt.oni, hi]
      have e3 : Pt.one xs i 0 = 0 := by simp [Pt.one, hi]
      rw [e1, e2, e3]
      have hpos : xs ≠ [] := by intro h; subst h; simp at hi
      obtain ⟨b, off, hp, hbl, hr⟩ := h.inp.resolve_left hpos
      have hne := h.ne b off hp
      have HRX := Lib.hid (show ∀ u, w.grownBy u (some bR) → u.cell? ⟨b, off + i, none⟩ = some (.int .u8 (xs.getD i 0)) from fun u hu => by
        rw [World.cell?_of_block (a := ⟨b, off + i, none⟩) (hu.block b hbl (by simpa using hne))]
        exact hr i _ (bb_get hi))
      subst hp
      obtain ⟨n, hn⟩ : ∃ n, xs.length = n := ⟨_, rfl⟩
      obtain ⟨y, hy⟩ : ∃ y, xs.getD i 0 = y := ⟨_, rfl⟩
      have hm := h.hm
      have hyb : 0 ≤ y ∧ y < 256 := by rw [← hy, List.getD_eq_getElem?_getD, List.getElem?_eq_getElem hi]; exact h.hy _ (List.getElem_mem hi)
      have hi9 : (i : Int) ≤ 1000000000 := by have := h.hi; omega
      have e1' : IntKind.i64.wrap ((i : Int) + 1) = (i : Int) + 1 := by rw [IntKind.wrap_i64]; omega
      have e4' : IntKind.i64.wrap y = y := by rw [IntKind.wrap_i64]; omega
      have HI := Lib.hid hi
      have HN := Lib.hid hn
      rw [hn] at k0 hm hi
      rw [hy] at HRX ⊢
      have hi' : (i : Int) < (n : Int) := by omega
      have hdec : decide ((n : Int) ≤ (i : Int)) = false := decide_eq_false (by omega)
      clear h hr hbl hpos hi e1 e2 e3 hne hn hy hyb
      go_enter Try.func61, Try.ntmps61
      go_wp2
      go_quiet (fail)
      obtain ⟨w1, hw1⟩ : ∃ w1, w1 = w.drewN nq := ⟨_, rfl⟩
      rw [← hw1]
      replace k0 : w1.cell? ⟨bR, 0, none⟩ = some (.slice (some ⟨b, off, none⟩) n cap) := by rw [hw1]; exact k0
      replace k1 : w1.cell? ⟨bR, 1, none⟩ = some (.int .i64 (i : Nat)) := by rw [hw1]; exact k1
      replace f1 : w1.frozen? ⟨bR, 1, none⟩ = false := by rw [hw1]; exact f1
      have H1 := Lib.hid (show Ru w1 bR xs (some ⟨b, off, none⟩) cap i 0 ∧ w.grownBy w1 (some bR) from ⟨by rw [hw1]; exact HR.out.quiet nq, by rw [hw1]; exact grown_quiet (grownBy_refl _ _) nq⟩)
      clear hw1 k2 f2
      go_upto_region 7 with fail
      obtain ⟨w2, hw2⟩ : ∃ w2, w2 = w1.setCell ⟨bR, 1, none⟩ (.int .i64 ((i : Int) + 1)) := ⟨_, rfl⟩
      rw [← hw2]
      have H2 := Lib.hid (show Ru w2 bR xs (some ⟨b, off, none⟩) cap (i + 1) 0 ∧ w.grownBy w2 (some bR) from ⟨by rw [hw2]; exact H1.out.1.setP HI.out, by rw [hw2]; exact grownBy_trans H1.out.2 (grown_set _ _ _ _)⟩)
      clear hw2 k0 k1 f1
      have k0 := H2.out.1.sl
      have k1 : w2.cell? ⟨bR, 1, none⟩ = some (.int .i64 ((i : Int) + 1)) := H2.out.1.ps
      have c1 := HRX.out _ H2.out.2
      rw [HN.out] at k0
      have e2 : (i : Int) + 1 - 1 = (i : Int) := by omega
      have e3 : IntKind.i64.wrap (i : Int) = (i : Int) := by rw [IntKind.wrap_i64]; omega
      go_quiet (fail)
      go_wp2
      go_ret
      exact ⟨rfl, H2.out.1.quiet nq, grown_quiet H2.out.2 nq⟩
    · have e1 : Pt.on1 xs i 0 = 0 := by simp [Pt.on1, hi]
      have e2 : Pt.oni xs i 0 = i := by simp [Pt.oni, hi]
      have e3 : Pt.one xs i 0 = 12 := by simp [Pt.one]; omega
      rw [e1, e2, e3]
      obtain ⟨n, hn⟩ : ∃ n, xs.length = n := ⟨_, rfl⟩
      rw [hn] at k0 hi
      have hdec : decide ((n : Int) ≤ (i : Int)) = true := decide_eq_true (by omega)
      have hni : n ≤ i := by omega
      clear h hi e1 e2 e3 hn
      go_enter Try.func61, Try.ntmps61
      go_wp2
      go_quiet (fail)
      go_wp2
      go_ret
      exact ⟨rfl, (HR.out.quiet nq).setE 12, grownBy_trans (grown_quiet (grownBy_refl _ _) nq) (grown_set _ _ _ _)⟩
  · have e1 : Pt.on1 xs i e = 0 := by simp [Pt.on1, he]
    have e2 : Pt.oni xs i e = i := by simp [Pt.oni, he]
    have e3 : Pt.one xs i e = e := by simp [Pt.one, he]
    rw [e1, e2, e3]
    have hb : (e != 0) = true := by simpa using he
    have hb2 : (e == 0) = false := by simpa using he
    clear h e1 e2 e3 he
    go_enter Try.func61, Try.ntmps61
    go_wp2
    go_ret
    exact ⟨rfl, HR.out, grownBy_refl _ _⟩
theorem r_bad (xs : List Int) (p : Option Addr) (cap bR i : Nat) (e : Int) (b : Bool) (w : World) (h : Ru w bR xs p cap i e) :
    Calls Try.prog 62 #[.pointer (some ⟨bR, 0, none⟩), .bool b] w fun x w' => x = .returned (.tuple #[]) ∧ Ru w' bR xs p cap i (Pt.bde b e) ∧ w.grownBy w' (some bR) := by
  have HR := Lib.hid h
  have k2 := h.er
  have f2 := h.f2
  cases b with
  | false =>
    have e1 : Pt.bde false e = e := by simp [Pt.bde]
    rw [e1]
    clear h e1
    go_enter Try.func62, Try.ntmps62
    go_wp2
    refine bodyPost_end (results_none rfl _ _ _) rfl ⟨rfl, HR.out, grownBy_refl _ _⟩
  | true =>
    by_cases he : e = 0
    · subst he
      have e1 : Pt.bde true 0 = 9 := by simp [Pt.bde]
      rw [e1]
      clear h e1
      go_enter Try.func62, Try.ntmps62
      go_wp2
      refine bodyPost_end (results_none rfl _ _ _) rfl ⟨rfl, HR.out.setE 9, grown_set _ _ _ _⟩
    · have e1 : Pt.bde true e = e := by simp [Pt.bde, he]
      rw [e1]
      have hb : (e != 0) = true := by simpa using he
      have hb2 : (e == 0) = false := by simpa using he
      clear h e1 he
      go_enter Try.func62, Try.ntmps62
      go_wp2
      refine bodyPost_end (results_none rfl _ _ _) rfl ⟨rfl, HR.out, grownBy_refl _ _⟩
theorem range_drew {w : World} {b o : Nat} {cs : List Value} (h : w.rangeAt b o cs) : w.drew.rangeAt b o cs := fun j v hv => h j v hv
theorem grown_drew {w w' : World} {r : Option Nat} (h : w.grownBy w' r) : w.grownBy w'.drew r := ⟨h.os, h.tape, h.output, h.size, h.block⟩
set_option maxRecDepth 100000 in
set_option maxHeartbeats 3200000 in
theorem r_joined (c : Pt.Cl) (h0 h1 h2 h3 : Nat) (w : World) (s0 : Sv w 0 (Pt.pv 0 c) h0) (s1 : Sv w 1 (Pt.pv 1 c) h1) (s2 : Sv w 2 (Pt.pv 2 c) h2) (s3 : Sv w 3 (Pt.pv 3 c) h3) :
    Calls Try.prog 85 #[.agg #[sl 0 h0, sl 1 h1, sl 2 h2, sl 3 h3]] w fun x w' => x = .returned (.agg (CL c).toArray) ∧ Below w.heap.size w w' := by
  obtain ⟨V, hV⟩ : ∃ V, V = w.alloc (.cells [sl 0 h0, sl 1 h1, sl 2 h2, sl 3 h3].toArray 72) := ⟨_, rfl⟩
  obtain ⟨W, hW⟩ : ∃ W, W = V.alloc (.cells (CL Pt.zc).toArray 28) := ⟨_, rfl⟩
  have v1 : Below w.heap.size w V := by rw [hV]; exact below_box _ _
  have v2 : Below V.heap.size V W := by rw [hW]; exact below_box _ _
  have z1 : V.heap.size = w.heap.size + 1 := by rw [hV]; simp
  have r1 : W.rangeAt w.heap.size 0 [sl 0 h0, sl 1 h1, sl 2 h2, sl 3 h3] := range_below (by rw [hV]; exact range_box w _ _) v2 (by omega)
  have t2 : W.there V.heap.size 0 6 := by rw [hW]; exact there_box V (CL Pt.zc) _
  have HB := Lib.hid (stepB v1 v2)
  have a0 : W.cell? ⟨w.heap.size, 0, none⟩ = some (.slice (some ⟨h0, 0, none⟩) 1 1) := r1 0 _ rfl
  have a1 : W.cell? ⟨w.heap.size, 1, none⟩ = some (.slice (some ⟨h1, 0, none⟩) 1 1) := r1 1 _ rfl
  have a2 : W.cell? ⟨w.heap.size, 2, none⟩ = some (.slice (some ⟨h2, 0, none⟩) 2 2) := r1 2 _ rfl
  have a3 : W.cell? ⟨w.heap.size, 3, none⟩ = some (.slice (some ⟨h3, 0, none⟩) 2 2) := r1 3 _ rfl
  have b0 : W.cell? ⟨h0, 0, none⟩ = some (.int .i64 c.nt) := (s0.below HB.out).2 0 _ rfl
  have b1 : W.cell? ⟨h1, 0, none⟩ = some (.int .i64 c.it) := (s1.below HB.out).2 0 _ rfl
  have b2 : W.cell? ⟨h2, 0, none⟩ = some (.int .i64 c.vc) := (s2.below HB.out).2 0 _ rfl
  have b3 : W.cell? ⟨h2, 1, none⟩ = some (.int .i64 c.va) := (s2.below HB.out).2 1 _ rfl
  have b4 : W.cell? ⟨h3, 0, none⟩ = some (.int .i64 c.ef) := (s3.below HB.out).2 0 _ rfl
  have b5 : W.cell? ⟨h3, 1, none⟩ = some (.int .i64 c.pa) := (s3.below HB.out).2 1 _ rfl
  obtain ⟨x0, q0⟩ := Option.isSome_iff_exists.1 (t2 0 (by decide)).1
  obtain ⟨x1, q1⟩ := Option.isSome_iff_exists.1 (t2 1 (by decide)).1
  obtain ⟨x2, q2⟩ := Option.isSome_iff_exists.1 (t2 2 (by decide)).1
  obtain ⟨x3, q3⟩ := Option.isSome_iff_exists.1 (t2 3 (by decide)).1
  obtain ⟨x4, q4⟩ := Option.isSome_iff_exists.1 (t2 4 (by decide)).1
  obtain ⟨x5, q5⟩ := Option.isSome_iff_exists.1 (t2 5 (by decide)).1
  have f0 := (t2 0 (by decide)).2
  have f1 := (t2 1 (by decide)).2
  have f2 := (t2 2 (by decide)).2
  have f3 := (t2 3 (by decide)).2
  have f4 := (t2 4 (by decide)).2
  have f5 := (t2 5 (by decide)).2
  have HT := Lib.hid t2
  obtain ⟨b, hb⟩ : ∃ b, b = w.heap.size := ⟨_, rfl⟩
  have HZ := Lib.hid (show V.heap.size = b + 1 ∧ b = w.heap.size by omega)
  rw [← hb] at a0 a1 a2 a3 z1
  rw [z1] at q0 q1 q2 q3 q4 q5 f0 f1 f2 f3 f4 f5 HT
  have eV : V = w.alloc (.cells #[.slice (some ⟨h0, 0, none⟩) 1 1, .slice (some ⟨h1, 0, none⟩) 1 1, .slice (some ⟨h2, 0, none⟩) 2 2, .slice (some ⟨h3, 0, none⟩) 2 2] 72) := hV
  rw [cl_zc] at hW
  have e0 : (#[sl 0 h0, sl 1 h1, sl 2 h2, sl 3 h3] : Array Value) = #[.slice (some ⟨h0, 0, none⟩) 1 1, .slice (some ⟨h1, 0, none⟩) 1 1, .slice (some ⟨h2, 0, none⟩) 2 2, .slice (some ⟨h3, 0, none⟩) 2 2] := rfl
  rw [e0]
  have HK := Lib.hid (show ∀ u, W.grownBy u (some (b + 1)) → u.cell? ⟨b, 0, none⟩ = some (.slice (some ⟨h0, 0, none⟩) 1 1) ∧ u.cell? ⟨b, 1, none⟩ = some (.slice (some ⟨h1, 0, none⟩) 1 1) ∧ u.cell? ⟨b, 2, none⟩ = some (.slice (some ⟨h2, 0, none⟩) 2 2) ∧ u.cell? ⟨b, 3, none⟩ = some (.slice (some ⟨h3, 0, none⟩) 2 2) ∧ u.cell? ⟨h0, 0, none⟩ = some (.int .i64 c.nt) ∧ u.cell? ⟨h1, 0, none⟩ = some (.int .i64 c.it) ∧ u.cell? ⟨h2, 0, none⟩ = some (.int .i64 c.vc) ∧ u.cell? ⟨h2, 1, none⟩ = some (.int .i64 c.va) ∧ u.cell? ⟨h3, 0, none⟩ = some (.int .i64 c.ef) ∧ u.cell? ⟨h3, 1, none⟩ = some (.int .i64 c.pa) from fun u hu => by
    have g0 := s0.1
    have g1 := s1.1
    have g2 := s2.1
    have g3 := s3.1
    have hz := HZ.out.2
    exact ⟨cell_grown hu a0 (by show b ≠ b + 1; omega), cell_grown hu a1 (by show b ≠ b + 1; omega), cell_grown hu a2 (by show b ≠ b + 1; omega), cell_grown hu a3 (by show b ≠ b + 1; omega), cell_grown hu b0 (by show h0 ≠ b + 1; omega), cell_grown hu b1 (by show h1 ≠ b + 1; omega), cell_grown hu b2 (by show h2 ≠ b + 1; omega), cell_grown hu b3 (by show h2 ≠ b + 1; omega), cell_grown hu b4 (by show h3 ≠ b + 1; omega), cell_grown hu b5 (by show h3 ≠ b + 1; omega)⟩)
  obtain ⟨W6, hW6⟩ : ∃ W6, W6 = ((((((W.setCell ⟨b + 1, 0, none⟩ (.int .i64 c.nt)).setCell ⟨b + 1, 1, none⟩ (.int .i64 c.it)).setCell ⟨b + 1, 2, none⟩ (.int .i64 c.vc)).setCell ⟨b + 1, 3, none⟩ (.int .i64 c.va)).setCell ⟨b + 1, 4, none⟩ (.int .i64 c.ef)).setCell ⟨b + 1, 5, none⟩ (.int .i64 c.pa)) := ⟨_, rfl⟩
  have eW6 : W6 = W.setCells (b + 1) 0 (CL c) := by
    rw [hW6]
    unfold CL
    simp only [World.setCells, Nat.zero_add, Nat.reduceAdd]
  have HG := Lib.hid (show W.grownBy W6.drew (some (b + 1)) by rw [eW6]; exact grown_drew (grown_setCells (b + 1) (CL c) 0 W))
  have HR6 := Lib.hid (show W6.drew.rangeAt (b + 1) 0 (CL c) by rw [eW6]; exact range_drew (World.rangeAt_setCells_same W (b + 1) 0 (CL c) HT.out))
  have hg0 := HK.out _ (grown_drew (grownBy_refl W (some (b + 1))))
  have hg1 := HK.out _ HG.out
  rw [hW6] at hg1
  have HG1 := Lib.hid hg1
  have HW6 := Lib.hid hW6
  clear hg1 hW6 eW6
  clear hV v1 v2 r1 t2 s0 s1 s2 s3 e0 z1
  simp only [Nat.zero_add] at q0 q1 q2 q3 q4 q5 f0 f1 f2 f3 f4 f5
  go_enter Try.func85, Try.ntmps85
  go_upto_region 1 with fail
  rw [← eV, ← hW, ← hb]
  clear hW hb eV
  go_region_held3 (fun u => u.cell? ⟨b, 0, none⟩ = some (.slice (some ⟨h0, 0, none⟩) 1 1) ∧ u.cell? ⟨b, 1, none⟩ = some (.slice (some ⟨h1, 0, none⟩) 1 1) ∧ u.cell? ⟨b, 2, none⟩ = some (.slice (some ⟨h2, 0, none⟩) 2 2) ∧ u.cell? ⟨b, 3, none⟩ = some (.slice (some ⟨h3, 0, none⟩) 2 2) ∧ u.cell? ⟨h0, 0, none⟩ = some (.int .i64 c.nt) ∧ u.cell? ⟨h1, 0, none⟩ = some (.int .i64 c.it) ∧ u.cell? ⟨h2, 0, none⟩ = some (.int .i64 c.vc) ∧ u.cell? ⟨h2, 1, none⟩ = some (.int .i64 c.va) ∧ u.cell? ⟨h3, 0, none⟩ = some (.int .i64 c.ef) ∧ u.cell? ⟨h3, 1, none⟩ = some (.int .i64 c.pa))
    (first | with_reducible exact hg0 | with_reducible exact HG1.out)
    (first | fail)
  change Exit.then _ _ _ _ ((((((W.setCell ⟨b + 1, 0, none⟩ (.int .i64 c.nt)).setCell ⟨b + 1, 1, none⟩ (.int .i64 c.it)).setCell ⟨b + 1, 2, none⟩ (.int .i64 c.vc)).setCell ⟨b + 1, 3, none⟩ (.int .i64 c.va)).setCell ⟨b + 1, 4, none⟩ (.int .i64 c.ef)).setCell ⟨b + 1, 5, none⟩ (.int .i64 c.pa)).drew
  rw [← HW6.out]
  go_wp2
  refine bodyPost_ret (res_row (cs := CL c) Try.underlying28 rfl Try.infoCellSize rfl rfl HR6.out) rfl ⟨rfl, ?_⟩
  have := HZ.out
  have hz := HB.out.size
  exact grown_at HB.out (by omega) hz HG.out
/-- What parts hands back: four slices in new memory, one behind the other. -/
def RetQ4 (c : Pt.Cl) (B : Nat) (x : Ending) (w' : World) : Prop := ∃ g, B ≤ g ∧ x = .returned (.agg #[sl 0 g, sl 1 (g + 1), sl 2 (g + 2), sl 3 (g + 3)]) ∧ ∀ k, k < 4 → Sv w' k (Pt.pv k c) (g + k) ∧ w'.there (g + k) 0 (Pt.num k)
set_option maxRecDepth 100000 in
theorem r_parts4 (c : Pt.Cl) (w : World) :
    Calls Try.prog 39 #[.agg (CL c).toArray] w fun x w' => RetQ4 c w.heap.size x w' ∧ Below w.heap.size w w' := by
  rw [cl_arr]
  go_enter Try.func39, Try.ntmps39
  go_wp2
  obtain ⟨w1, h1⟩ : ∃ u, u = w.alloc (Obj.cells #[.int .i64 c.nt, .int .i64 c.it, .int .i64 c.vc, .int .i64 c.va, .int .i64 c.ef, .int .i64 c.pa] 28) := ⟨_, rfl⟩
  obtain ⟨w2, h2⟩ : ∃ u, u = w1.alloc (Obj.cells #[.slice (some ⟨w.heap.size + 1 + 1, 0, none⟩) 1 1, .slice (some ⟨w.heap.size + 1 + 1 + 1, 0, none⟩) 1 1, .slice (some ⟨w.heap.size + 1 + 1 + 1 + 1, 0, none⟩) 2 2, .slice (some ⟨w.heap.size + 1 + 1 + 1 + 1 + 1, 0, none⟩) 2 2] 72) := ⟨_, rfl⟩
  obtain ⟨w3, h3⟩ : ∃ u, u = w2.alloc (Obj.cells #[.int .i64 c.nt] 3) := ⟨_, rfl⟩
  obtain ⟨w4, h4⟩ : ∃ u, u = w3.alloc (Obj.cells #[.int .i64 c.it] 3) := ⟨_, rfl⟩
  obtain ⟨w5, h5⟩ : ∃ u, u = w4.alloc (Obj.cells #[.int .i64 c.vc, .int .i64 c.va] 3) := ⟨_, rfl⟩
  obtain ⟨w6, h6⟩ : ∃ u, u = w5.alloc (Obj.cells #[.int .i64 c.ef, .int .i64 c.pa] 3) := ⟨_, rfl⟩
  rw [← h1, ← h2, ← h3, ← h4, ← h5, ← h6]
  have s1 : w1.heap.size = w.heap.size + 1 := by rw [h1]; simp
  have s2 : w2.heap.size = w.heap.size + 2 := by rw [h2]; simp [s1]
  have s3 : w3.heap.size = w.heap.size + 3 := by rw [h3]; simp [s2]
  have s4 : w4.heap.size = w.heap.size + 4 := by rw [h4]; simp [s3]
  have s5 : w5.heap.size = w.heap.size + 5 := by rw [h5]; simp [s4]
  have b1 : Below w.heap.size w w1 := by rw [h1]; exact below_box _ _
  have b2 : Below w1.heap.size w1 w2 := by rw [h2]; exact below_box _ _
  have b3 : Below w2.heap.size w2 w3 := by rw [h3]; exact below_box _ _
  have b4 : Below w3.heap.size w3 w4 := by rw [h4]; exact below_box _ _
  have b5 : Below w4.heap.size w4 w5 := by rw [h5]; exact below_box _ _
  have b6 : Below w5.heap.size w5 w6 := by rw [h6]; exact below_box _ _
  have r2 : w2.rangeAt w1.heap.size 0 [sl 0 (w.heap.size + 2), sl 1 (w.heap.size + 3), sl 2 (w.heap.size + 4), sl 3 (w.heap.size + 5)] := by rw [h2]; exact range_box w1 _ _
  have r3 : w3.rangeAt w2.heap.size 0 (ii (Pt.numsOf 0 (Pt.pv 0 c))) := by rw [h3]; exact range_box w2 _ _
  have r4 : w4.rangeAt w3.heap.size 0 (ii (Pt.numsOf 1 (Pt.pv 1 c))) := by rw [h4]; exact range_box w3 _ _
  have r5 : w5.rangeAt w4.heap.size 0 (ii (Pt.numsOf 2 (Pt.pv 2 c))) := by rw [h5]; exact range_box w4 _ _
  have r6 : w6.rangeAt w5.heap.size 0 (ii (Pt.numsOf 3 (Pt.pv 3 c))) := by rw [h6]; exact range_box w5 _ _
  have t3 : w3.there w2.heap.size 0 1 := by rw [h3]; exact there_box w2 [_] _
  have t4 : w4.there w3.heap.size 0 1 := by rw [h4]; exact there_box w3 [_] _
  have t5 : w5.there w4.heap.size 0 2 := by rw [h5]; exact there_box w4 [_, _] _
  have t6 : w6.there w5.heap.size 0 2 := by rw [h6]; exact there_box w5 [_, _] _
  have t3' := there_below (there_below (there_below t3 b4 (by omega)) b5 (by omega)) b6 (by omega)
  have t4' := there_below (there_below t4 b5 (by omega)) b6 (by omega)
  have t5' := there_below t5 b6 (by omega)
  rw [s2] at t3'
  rw [s3] at t4'
  rw [s4] at t5'
  rw [s5] at t6
  have n6 : w6.heap.size = w.heap.size + 6 := by rw [h6]; simp [s5]
  have r2' := range_below (range_below (range_below (range_below r2 b3 (by omega)) b4 (by omega)) b5 (by omega)) b6 (by omega)
  have r3' := range_below (range_below (range_below r3 b4 (by omega)) b5 (by omega)) b6 (by omega)
  have r4' := range_below (range_below r4 b5 (by omega)) b6 (by omega)
  have r5' := range_below r5 b6 (by omega)
  rw [s1] at r2'
  rw [s2] at r3'
  rw [s3] at r4'
  rw [s4] at r5'
  rw [s5] at r6
  refine bodyPost_ret (res_row (cs := [sl 0 (w.heap.size + 2), sl 1 (w.heap.size + 3), sl 2 (w.heap.size + 4), sl 3 (w.heap.size + 5)]) Try.underlying72 rfl Try.infoSs rfl rfl r2') rfl ⟨⟨w.heap.size + 2, by omega, rfl, fun k hk => ?_⟩, stepB (stepB (stepB (stepB (stepB b1 b2) b3) b4) b5) b6⟩
  match k, hk with
  | 0, _ => exact ⟨⟨(show w.heap.size + 2 + 0 < w6.heap.size by rw [n6]; omega), r3'⟩, t3'⟩
  | 1, _ => exact ⟨⟨(show w.heap.size + 2 + 1 < w6.heap.size by rw [n6]; omega), r4'⟩, t4'⟩
  | 2, _ => exact ⟨⟨(show w.heap.size + 2 + 2 < w6.heap.size by rw [n6]; omega), r5'⟩, t5'⟩
  | 3, _ => exact ⟨⟨(show w.heap.size + 2 + 3 < w6.heap.size by rw [n6]; omega), r6⟩, t6⟩
namespace Pt
/-- A part is asked for in both ways. -/
def mo (m : Nat) : Bool := (m.testBit 0 && m.testBit 4) || ((m.testBit 1 && m.testBit 5) || ((m.testBit 2 && m.testBit 6) || (m.testBit 3 && m.testBit 7)))
/-- A part is asked to be repeated that was not there. -/
def nol (m : Nat) (la : Cl) (k : Nat) : Bool := m.testBit (k + 4) && !isSet (pv k la)
def e1f (la : Cl) (m : Nat) (e : Int) : Nat → Int
  | 0 => e
  | k + 1 => if e1f la m e k = 0 then bde (nol m la k) (e1f la m e k) else e1f la m e k
theorem e1f_stay {la : Cl} {m : Nat} {e : Int} {k : Nat} (h : e1f la m e k ≠ 0) : ∀ n, e1f la m e (k + n) = e1f la m e k
  | 0 => rfl
  | n + 1 => by
    have ih := e1f_stay h n
    show (if e1f la m e (k + n) = 0 then _ else _) = _
    rw [ih, if_neg h]
    exact ih
theorem vmk_split (m : Nat) (la : Cl) (k : Nat) : vmk m la k = (!(m.testBit k && m.testBit (k + 4)) && !nol m la k) := by
  unfold vmk nol
  cases m.testBit k <;> cases m.testBit (k + 4) <;> cases isSet (pv k la) <;> rfl
theorem vmask_split (m : Nat) (la : Cl) : vmask m la = ((m != 0) && !mo m && (!nol m la 0 && (!nol m la 1 && (!nol m la 2 && !nol m la 3)))) := by
  unfold vmask mo
  rw [vmk_split, vmk_split, vmk_split, vmk_split]
  generalize nol m la 0 = n0
  generalize nol m la 1 = n1
  generalize nol m la 2 = n2
  generalize nol m la 3 = n3
  show (((!(m.testBit 0 && m.testBit 4) && !n0) && ((!(m.testBit 1 && m.testBit 5) && !n1) && ((!(m.testBit 2 && m.testBit 6) && !n2) && (!(m.testBit 3 && m.testBit 7) && !n3)))) && (m != 0)) = _
  generalize (m.testBit 0 && m.testBit 4) = a0
  generalize (m.testBit 1 && m.testBit 5) = a1
  generalize (m.testBit 2 && m.testBit 6) = a2
  generalize (m.testBit 3 && m.testBit 7) = a3
  generalize (m != 0) = z
  revert n0 n1 n2 n3 a0 a1 a2 a3 z
  decide
theorem e1f_four {la : Cl} {m : Nat} {e : Int} (he : e = 0 ∨ e = 12) : e1f la m (bde (m == 0 || mo m) e) 4 = if e = 12 then 12 else (if vmask m la then 0 else 9) := by
  rw [vmask_split]
  rcases he with rfl | rfl
  · show e1f la m _ 4 = _
    rw [if_neg (by decide)]
    have h : ∀ b : Bool, bde b 0 = if b then 9 else 0 := fun b => by cases b <;> simp [bde]
    simp only [e1f, h]
    have hz : (m != 0) = !(m == 0) := rfl
    rw [hz]
    generalize (m == 0) = z
    generalize mo m = o
    generalize nol m la 0 = n0
    generalize nol m la 1 = n1
    generalize nol m la 2 = n2
    generalize nol m la 3 = n3
    cases z <;> cases o <;> cases n0 <;> cases n1 <;> cases n2 <;> cases n3 <;> simp [h]
  · rw [if_pos rfl]
    have h : ∀ b : Bool, bde b 12 = 12 := fun b => by simp [bde]
    rw [h]
    simp [e1f]
theorem sh_all : ∀ k : Fin 4, ∀ m : Fin 256, (bits BinOp.and IntKind.i64 (((m.val : Nat) : Int) / 2 ^ (4 + k.val)) 1 == 1) = m.val.testBit (k.val + 4) ∧ (bits BinOp.and IntKind.i64 (((m.val : Nat) : Int) / 2 ^ k.val) 1 == 0) = !m.val.testBit k.val := by decide +kernel
theorem sh_bit {m k : Nat} (hm : m < 256) (hk : k < 4) : (bits BinOp.and IntKind.i64 ((m : Int) / 2 ^ (4 + k)) 1 == 1) = m.testBit (k + 4) ∧ (bits BinOp.and IntKind.i64 ((m : Int) / 2 ^ k) 1 == 0) = !m.testBit k := sh_all ⟨k, hk⟩ ⟨m, hm⟩
theorem mo_all : ∀ m : Fin 256, (bits BinOp.and IntKind.i64 (bits BinOp.and IntKind.i64 ((m.val : Nat) : Int) 15) (((m.val : Nat) : Int) / 16) != 0) = mo m.val := by decide +kernel
theorem mo_bit {m : Nat} (hm : m < 256) : (bits BinOp.and IntKind.i64 (bits BinOp.and IntKind.i64 (m : Int) 15) ((m : Int) / 16) != 0) = mo m := mo_all ⟨m, hm⟩
/-- What one part's bytes say, byte by byte: where the puller stands, its error, the numbers. -/
def jj (xs : List Int) (j : Nat) : Nat → Nat | 0 => j | 1 => oni xs j 0 | _ => oni xs (oni xs j 0) (bde (on1 xs j 0 == 0) (one xs j 0))
def ee (xs : List Int) (j : Nat) : Nat → Int | 0 => 0 | 1 => bde (on1 xs j 0 == 0) (one xs j 0) | _ => one xs (oni xs j 0) (bde (on1 xs j 0 == 0) (one xs j 0))
def vv (xs : List Int) (j : Nat) : Nat → Int × Int | 0 => (0, 0) | 1 => (on1 xs j 0, 0) | _ => (on1 xs j 0, on1 xs (oni xs j 0) (bde (on1 xs j 0 == 0) (one xs j 0)))
theorem vlc (k : Nat) (x : Int) (t : List Int) : vl k (x :: t) = if x = 0 then .error 9 else if num k = 1 then .ok ((x, 0), t) else match t with | [] => .error 12 | y :: t' => .ok ((x, y), t') := rfl
theorem one_err (xs : List Int) (i : Nat) {e : Int} (h : e ≠ 0) : one xs i e = e := by simp [one, h]
theorem at_in {xs : List Int} {j : Nat} (h : j < xs.length) : on1 xs j 0 = xs[j] ∧ oni xs j 0 = j + 1 ∧ one xs j 0 = 0 := by
  refine ⟨?_, by simp [oni, h], by simp [one, h]⟩
  unfold on1
  rw [if_pos ⟨rfl, h⟩]
  simp [List.getD_eq_getElem?_getD, h]
theorem at_end {xs : List Int} {j : Nat} (h : ¬ j < xs.length) : on1 xs j 0 = 0 ∧ oni xs j 0 = j ∧ one xs j 0 = 12 := ⟨by simp [on1, h], by simp [oni, h], by simp [one]; omega⟩
theorem vl_step (xs : List Int) (j k : Nat) : vl k (xs.drop j) = if ee xs j (num k) = 0 then .ok (vv xs j (num k), xs.drop (jj xs j (num k))) else .error (ee xs j (num k)) := by
  have b9 : bde true 0 = 9 := by simp [bde]
  have b12 : ∀ b, bde b 12 = 12 := fun b => by simp [bde]
  have b0 : bde false 0 = 0 := by simp [bde]
  by_cases h : j < xs.length
  · rw [List.drop_eq_getElem_cons h, vlc]
    obtain ⟨o1, o2, o3⟩ := at_in h
    by_cases hz : xs[j] = 0
    · have hb : (on1 xs j 0 == 0) = true := by rw [o1, hz]; rfl
      have e1 : ee xs j 1 = 9 := by show bde (on1 xs j 0 == 0) (one xs j 0) = 9; rw [hb, o3, b9]
      have e2 : ee xs j 2 = 9 := by
        show one xs (oni xs j 0) (bde (on1 xs j 0 == 0) (one xs j 0)) = 9
        rw [hb, o3, b9]
        exact one_err _ _ (by decide)
      rw [if_pos hz]
      rcases num_cases k with hn | hn
      · rw [hn, e1, if_neg (by decide)]
      · rw [hn, e2, if_neg (by decide)]
    · have hb : (on1 xs j 0 == 0) = false := by rw [o1]; simpa using hz
      rw [if_neg hz]
      rcases num_cases k with hn | hn
      · rw [if_pos hn, hn]
        have e1 : ee xs j 1 = 0 := by show bde (on1 xs j 0 == 0) (one xs j 0) = 0; rw [hb, o3, b0]
        rw [if_pos e1]
        show _ = Except.ok ((on1 xs j 0, 0), xs.drop (oni xs j 0))
        rw [o1, o2]
      · rw [if_neg (by omega), hn]
        by_cases h2 : j + 1 < xs.length
        · obtain ⟨q1, q2, q3⟩ := at_in h2
          have e2 : ee xs j 2 = 0 := by
            show one xs (oni xs j 0) (bde (on1 xs j 0 == 0) (one xs j 0)) = 0
            rw [hb, o3, b0, o2, q3]
          rw [if_pos e2, List.drop_eq_getElem_cons h2]
          show _ = Except.ok ((on1 xs j 0, on1 xs (oni xs j 0) (bde (on1 xs j 0 == 0) (one xs j 0))), xs.drop (oni xs (oni xs j 0) (bde (on1 xs j 0 == 0) (one xs j 0))))
          rw [hb, o3, b0, o1, o2, q1, q2]
        · obtain ⟨q1, q2, q3⟩ := at_end h2
          have e2 : ee xs j 2 = 12 := by
            show one xs (oni xs j 0) (bde (on1 xs j 0 == 0) (one xs j 0)) = 12
            rw [hb, o3, b0, o2, q3]
          rw [e2, if_neg (by decide), List.drop_of_length_le (by omega)]
  · obtain ⟨o1, o2, o3⟩ := at_end h
    have e1 : ee xs j 1 = 12 := by show bde (on1 xs j 0 == 0) (one xs j 0) = 12; rw [o3, b12]
    have e2 : ee xs j 2 = 12 := by
      show one xs (oni xs j 0) (bde (on1 xs j 0 == 0) (one xs j 0)) = 12
      rw [o3, b12]
      exact one_err _ _ (by decide)
    rw [List.drop_of_length_le (by omega)]
    rcases num_cases k with hn | hn
    · rw [hn, e1, if_neg (by decide)]
      rfl
    · rw [hn, e2, if_neg (by decide)]
      rfl
theorem oni_le {xs : List Int} {j : Nat} {e : Int} (h : j ≤ xs.length) : oni xs j e ≤ xs.length := by
  unfold oni
  split
  · omega
  · exact h
theorem uk_la {m k j : Nat} (hk : k < 4) (hj : j < 4) (h : k < j) {s s' : Uc} (e : uk m k s = .ok s') : pv j s'.la = pv j s.la := by
  unfold uk at e
  by_cases b1 : m.testBit k = true
  · rw [if_pos b1] at e
    cases hv : vl k s.b with
    | error z => rw [hv] at e; exact absurd e (by simp)
    | ok q =>
      rw [hv] at e
      have e : (Except.ok ⟨pw k s.c q.1, pw k s.la q.1, q.2⟩ : Except Int Uc) = .ok s' := e
      simp at e
      subst e
      exact pv_pw_ne hk hj (by omega) _ _
  · rw [if_neg b1] at e
    by_cases b2 : m.testBit (k + 4) = true
    · rw [if_pos b2] at e
      simp at e
      subst e
      rfl
    · rw [if_neg b2] at e
      simp at e
      subst e
      rfl
theorem uks_la {m : Nat} {s : Uc} {j : Nat} (hj : j < 4) : ∀ k, k ≤ j → ∀ s', uks m k s = .ok s' → pv j s'.la = pv j s.la
  | 0, _, s', e => by simp [uks] at e; rw [e]
  | k + 1, hk, s', e => by
    rw [uks] at e
    cases hv : uks m k s with
    | error z => rw [hv] at e; exact absurd e (by simp)
    | ok q =>
      rw [hv] at e
      rw [uk_la (by omega) hj (by omega) e, uks_la hj k (by omega) q hv]
end Pt
/-- What cell hands back. -/
def RetCu (V : World) (bR bL C x : Nat) (xs : List Int) (p : Option Addr) (cap : Nat) (ls : List Pt.Cl) (A : Nat → Prop) (T : Except Int Pt.Uc) (y : Ending) (w' : World) : Prop :=
  match T with
  | .error z => ∃ c i, y = .returned (.agg (CL c).toArray) ∧ Ru w' bR xs p cap i z ∧ Fz V bR bL w'
  | .ok s => y = .returned (.agg (CL s.c).toArray) ∧ (∃ i, s.b = xs.drop i ∧ Ru w' bR xs p cap i 0) ∧ La w' bL C (ls.set x s.la) A ∧ Fz V bR bL w'
theorem Fz.grow {w w1 w2 : World} {a b : Nat} {r : Option Nat} (h : Fz w a b w1) (hg : w1.grownBy w2 r) (hr : ∀ k, r = some k → k = a ∨ k = b ∨ w.heap.size ≤ k) : Fz w a b w2 :=
  ⟨hg.os.trans h.os, hg.tape.trans h.tape, hg.output.trans h.output, Nat.le_trans h.size hg.size, fun k hk h1 h2 => (hg.block k (Nat.lt_of_lt_of_le hk h.size) (fun e => by rcases hr k e.symm with h | h | h <;> omega)).trans (h.block k hk h1 h2)⟩
/-- The parts of a cell that is read, in memory: those from k on in new memory that lies from g on. -/
structure Li (w : World) (b6 g k bR bL : Nat) (c : Pt.Cl) : Prop where
  th : w.there b6 0 4
  at' : ∀ j, j < 4 → ∃ h, w.cell? ⟨b6, j, none⟩ = some (sl j h) ∧ Sv w j (Pt.pv j c) h ∧ h ≠ b6 ∧ h ≠ bR ∧ h ≠ bL ∧ (k ≤ j → h = g + j) ∧ (h = g + j ∨ h < g + j)
  nw : ∀ j, j < 4 → k ≤ j → w.there (g + j) 0 (Pt.num j)
theorem Li.lt {w : World} {b6 g k bR bL : Nat} {c : Pt.Cl} (h : Li w b6 g k bR bL c) : b6 < w.heap.size := cell_lt (h.at' 0 (by decide)).choose_spec.1
theorem Li.ltg {w : World} {b6 g k bR bL j : Nat} {c : Pt.Cl} (h : Li w b6 g k bR bL c) (hj : j < 4) (hk : k ≤ j) : g + j < w.heap.size := by
  obtain ⟨q, a1, a2, a3, a4, a5, a6, a7⟩ := h.at' j hj
  rw [← a6 hk]
  exact a2.1
theorem Li.apart {w w' : World} {b6 g k bR bL : Nat} {c : Pt.Cl} (h : Li w b6 g k bR bL c) {r : Nat} (hg : w.grownBy w' (some r)) (h1 : r ≠ b6) (h2 : r = bR ∨ r = bL) : Li w' b6 g k bR bL c := by
  refine ⟨there_grown h.th hg (fun e => h1 e.symm) h.lt, fun j hj => ?_, fun j hj hk => ?_⟩
  · obtain ⟨q, a1, a2, a3, a4, a5, a6, a7⟩ := h.at' j hj
    exact ⟨q, cell_grown hg a1 (fun e => h1 e.symm), a2.grown hg (by rcases h2 with rfl | rfl <;> assumption), a3, a4, a5, a6, a7⟩
  · obtain ⟨q, a1, a2, a3, a4, a5, a6, a7⟩ := h.at' j hj
    have e := a6 hk
    exact there_grown (h.nw j hj hk) hg (by rcases h2 with rfl | rfl <;> omega) (h.ltg hj hk)
theorem Li.below {w w' : World} {b6 g k bR bL : Nat} {c : Pt.Cl} (h : Li w b6 g k bR bL c) (hb : Below w.heap.size w w') : Li w' b6 g k bR bL c := by
  refine ⟨there_below h.th hb h.lt, fun j hj => ?_, fun j hj hk => there_below (h.nw j hj hk) hb (h.ltg hj hk)⟩
  obtain ⟨q, a1, a2, a3, a4, a5, a6, a7⟩ := h.at' j hj
  exact ⟨q, kept_cell hb a1, a2.below hb, a3, a4, a5, a6, a7⟩
theorem Li.up {w : World} {b6 g k bR bL : Nat} {c : Pt.Cl} (h : Li w b6 g k bR bL c) : Li w b6 g (k + 1) bR bL c :=
  ⟨h.th, fun j hj => by obtain ⟨q, a1, a2, a3, a4, a5, a6, a7⟩ := h.at' j hj; exact ⟨q, a1, a2, a3, a4, a5, fun e => a6 (by omega), a7⟩, fun j hj hk => h.nw j hj (by omega)⟩
/-- A part is repeated: its slice is that of the last one. -/
theorem Li.rep {w : World} {b6 g k bR bL h' : Nat} {c d : Pt.Cl} (h : Li w b6 g k bR bL c) (hk : k < 4) (hs : Sv w k (Pt.pv k d) h') (h1 : h' ≠ b6) (h2 : h' ≠ bR) (h3 : h' ≠ bL) (h4 : h' < g + k) (hb : ∀ j, j < 4 → g + j ≠ b6) :
    Li (w.setCell ⟨b6, k, none⟩ (sl k h')) b6 g (k + 1) bR bL (Pt.pw k c (Pt.pv k d)) := by
  have hg : w.grownBy (w.setCell ⟨b6, k, none⟩ (sl k h')) (some b6) := grown_set _ _ _ _
  refine ⟨there_set h.th, fun j hj => ?_, fun j hj hkj => there_grown (h.nw j hj (by omega)) hg (hb j hj) (h.ltg hj (by omega))⟩
  obtain ⟨q, a1, a2, a3, a4, a5, a6, a7⟩ := h.at' j hj
  by_cases e : j = k
  · subst e
    refine ⟨h', World.cell?_setCell_same _ _ _ a1, ?_, h1, h2, h3, fun e => by omega, .inr h4⟩
    rw [Pt.pv_pw_same hk]
    exact hs.grown hg h1
  · refine ⟨q, ?_, ?_, a3, a4, a5, fun e' => a6 (by omega), a7⟩
    · rw [World.cell?_setCell_other _ _ _ _ (fun e' => by have := congrArg Addr.off e'; simp at this; exact e this.symm)]
      exact a1
    · rw [Pt.pv_pw_other hk hj e]
      exact a2.grown hg a3
/-- A part is written. -/
theorem Li.wr {w w' : World} {b6 g k bR bL : Nat} {c : Pt.Cl} {v : Int × Int} (h : Li w b6 g k bR bL c) (hk : k < 4) (hg : w.grownBy w' (some (g + k))) (hs : Sv w' k v (g + k)) (ht : w'.there (g + k) 0 (Pt.num k)) (h0 : Pt.num k = 2 ∨ v.2 = 0) (hb : ∀ j, j < 4 → g + j ≠ b6) : Li w' b6 g k bR bL (Pt.pw k c v) := by
  refine ⟨there_grown h.th hg (fun e => hb k hk e.symm) h.lt, fun j hj => ?_, fun j hj hkj => ?_⟩
  · obtain ⟨q, a1, a2, a3, a4, a5, a6, a7⟩ := h.at' j hj
    by_cases e : j = k
    · subst e
      obtain rfl := a6 (Nat.le_refl _)
      refine ⟨g + j, cell_grown hg a1 (fun e => hb j hj e.symm), ?_, a3, a4, a5, fun e => rfl, .inl rfl⟩
      rw [Pt.pv_pw h0]
      exact hs
    · refine ⟨q, cell_grown hg a1 (fun e => hb k hk e.symm), ?_, a3, a4, a5, fun e' => a6 e', a7⟩
      rw [Pt.pv_pw_ne hk hj (fun e' => e e'.symm)]
      exact a2.grown hg (by
        rcases Nat.lt_or_ge j k with h | h
        · omega
        · have := a6 h; omega)
  · by_cases e : j = k
    · subst e; exact ht
    · exact there_grown (h.nw j hj hkj) hg (by omega) (h.ltg hj hkj)
/-- One number of a part is written. -/
theorem sv_set {w : World} {k g i : Nat} {v v' : Int × Int} {y : Int} (h : Sv w k v g) (hi : i < Pt.num k) (hv : v' = if i = 0 then (y, v.2) else (v.1, y)) : Sv (w.setCell ⟨g, i, none⟩ (.int .i64 y)) k v' g := by
  refine ⟨by simpa using h.1, ?_⟩
  have e : ii (Pt.numsOf k v') = (ii (Pt.numsOf k v)).set i (.int .i64 y) := by
    have hn := Pt.num_cases k
    subst hv
    unfold ii Pt.numsOf
    rcases hn with hn | hn <;> rw [hn] at hi ⊢
    · obtain rfl : i = 0 := by omega
      rfl
    · obtain rfl | rfl : i = 0 ∨ i = 1 := by omega
      · rfl
      · rfl
  rw [e]
  have := range_set_in (p := i) (v := (.int .i64 y)) h.2 (by simp [ii, nums_len]; omega)
  simpa using this
end Go.Proofs.Ytfjfnbeegojlbaa
