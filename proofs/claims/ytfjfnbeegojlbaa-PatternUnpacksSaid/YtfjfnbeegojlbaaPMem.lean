/-
  Cells in memory of one's own: the library's slices.Clone at cells, package pattern's clone and blank, and Area.line.
-/
import Derived.Test.YtfjfnbeegojlbaaPAsk
import Derived.Laws.ResultCell
import Derived.Lib.SliceRun
import Derived.Laws.AppendOwnNone
namespace Go.Proofs.Ytfjfnbeegojlbaa
open Go.RowKit

theorem cc_rep : ∀ n : Nat, cc (List.replicate n Pt.zc) = List.replicate (n * 6) (.int .i64 0)
  | 0 => rfl
  | n + 1 => by rw [List.replicate_succ, cc_cons, cc_rep n, show (n + 1) * 6 = n * 6 + 1 + 1 + 1 + 1 + 1 + 1 by omega]; rfl
theorem made_cells (n : Nat) : (madeCells (Value.agg #[.int .i64 0, .int .i64 0, .int .i64 0, .int .i64 0, .int .i64 0, .int .i64 0]).cells (n * 6)).toList = cc (List.replicate n Pt.zc) := by
  rw [cc_rep]
  apply List.ext_getElem
  · simp [madeCells]
  · intro i h1 h2
    have : i % 6 = 0 ∨ i % 6 = 1 ∨ i % 6 = 2 ∨ i % 6 = 3 ∨ i % 6 = 4 ∨ i % 6 = 5 := by omega
    rcases this with e | e | e | e | e | e <;> simp [madeCells, Value.cells, e]
theorem grown_base {w w' : World} {B : Nat} {v : Value} (h : w.grownBy w' v.ownBlock) (hv : ∀ k, v.ownBlock = some k → B ≤ k) (hB : B ≤ w.heap.size) : Below B w w' :=
  ⟨h.os, h.tape, h.output, h.size, fun k hk => h.block k (Nat.lt_of_lt_of_le hk hB) (fun e => by have := hv k e.symm; omega)⟩
/-- What a row of one's own says: the value, where it lies. -/
theorem rows_own {w : World} {B n : Nat} {e : TypeId} {v : Value} {l : List Pt.Cl} (h : w.ownsRow B e 6 v n (cc l)) (hn : l.length = n) : ∃ p cap, v = .slice p l.length cap ∧ l.length ≤ cap ∧ Own w B p l := by
  rcases h.2 with ⟨rfl, hz⟩ | ⟨g, cap, cur, rfl, hb, hg, h1, h2, h3, h4⟩
  · have : l = [] := List.eq_nil_of_length_eq_zero (by omega)
    subst this
    exact ⟨none, 0, rfl, Nat.le_refl _, .inl rfl⟩
  · refine ⟨_, cap, by rw [hn], by omega, .inr ⟨g, rfl, hb, (Array.getElem?_eq_some_iff.1 hg).1, ?_, ?_⟩⟩
    · intro j u hu
      have := World.ownsRow.cells h (g := g) rfl j u hu
      rwa [Addr.add_mid] at this
    · intro j hj
      obtain ⟨u, hu⟩ : ∃ u, (cc l)[j]? = some u := ⟨_, List.getElem?_eq_getElem (by rw [cc_len]; exact hj)⟩
      have := World.ownsRow.cells h (g := g) rfl j u hu
      rw [Addr.add_mid] at this
      exact ⟨by rw [this]; rfl, by simp [World.frozen?, hg]⟩
/-- What a call hands back: these cells, in memory of their own. -/
def RetL (l : List Pt.Cl) (B : Nat) (x : Ending) (w' : World) : Prop := ∃ p cap, x = .returned (.slice p l.length cap) ∧ l.length ≤ cap ∧ Own w' B p l
def RetP (r : Int) (l : List Pt.Cl) (B : Nat) (x : Ending) (w' : World) : Prop := ∃ p cap, x = .returned (PV r p l.length cap) ∧ l.length ≤ cap ∧ Own w' B p l
theorem retl_row {w : World} {B n : Nat} {e : TypeId} {v : Value} {l : List Pt.Cl} (h : w.ownsRow B e 6 v n (cc l)) (hn : l.length = n) : RetL l B (.returned v) w := by
  obtain ⟨p, cap, rfl, h1, h2⟩ := rows_own h hn
  exact ⟨p, cap, rfl, h1, h2⟩
set_option maxHeartbeats 3200000 in
theorem p_Clone (l : List Pt.Cl) (p : Option Addr) (cap : Nat) (w : World) (hd : CellsAt w p l) (hl : (l.length : Int) ≤ 1024) :
    Calls Try.prog 34 #[.slice p l.length cap] w fun x w' => RetL l w.heap.size x w' ∧ Below w.heap.size w w' := by
  have q : ∀ (w : World) (a : Option Addr) (n c n' c' : Nat), (binOp .eql 22 (.slice a n c) (.slice none n' c')).run Try.prog w = .ok (.bool a.isNone) w := fun w a n c n' c' => Lib.run_eql_slice_nil w _ _ a n c n' c' Try.underlying22
  cases p with
  | none =>
    have h0 : l = [] := by
      rcases hd with h | ⟨b, off, h, _⟩
      · exact h
      · exact absurd h (by simp)
    subst h0
    go_enter Try.func34, Try.ntmps34
    go_wp2
    go_ret
    exact ⟨⟨none, 0, rfl, Nat.le_refl _, .inl rfl⟩, Below.refl _ _⟩
  | some ad =>
    obtain ⟨i0, hinf, hz0, hz1, hz2⟩ := info_parts Try.infoCell
    have HC := Lib.hid (show ∀ j u, (cc l)[j]? = some u → (w.alloc (.cells #[] 28)).cell? (ad.add j) = some u by
      intro j u hu
      rcases hd.below (below_box w (.cells #[] 28)) with rfl | ⟨b, off, hp, _, hc⟩
      · simp [cc] at hu
      · obtain rfl : ad = ⟨b, off, none⟩ := by simpa using hp
        rw [Addr.add_mid]
        exact hc j u hu)
    have hs : w.heap.size ≤ (w.alloc (.cells #[] 28)).heap.size := by simp
    have HS := Lib.hid hs
    have HB := Lib.hid (below_box w (.cells #[] 28))
    have HO := Lib.hid (World.ownsRow_made (base := w.heap.size) (e := 28) (size := 6) w #[] 0 (Nat.le_refl _) (Nat.zero_le _) (by simp))
    have HL := Lib.hid (cc_len l)
    have H1 := Lib.hid (cc_one l)
    clear hd hs
    obtain ⟨n, hn⟩ : ∃ n, l.length = n := ⟨_, rfl⟩
    have HN := Lib.hid hn
    rw [hn] at HL hl ⊢
    clear hn
    go_enter Try.func34, Try.ntmps34
    go_wp2_with (first | (at_builtin; go_loud (refine wpList_append_own _ rfl (.tmp 5) (.tmp 6) 22 rfl w.heap.size 28 i0 (.agg #[.int .i64 0, .int .i64 0, .int .i64 0, .int .i64 0, .int .i64 0, .int .i64 0]) 6 48 Try.underlying22 hinf hz0 hz1 hz2 rfl (by decide) (.slice (some ⟨w.heap.size, 0, none⟩) 0 0) 0 [] rfl HO.out ad n cap (cc l) rfl HL.out HC.out H1.out (by unfold maxLen; omega) (by omega) HS.out ?_; intro v' w3 hown' hgrow _; have hb3 := grown_base hgrow (fun g hg => (World.ownsRow.lt HO.out g hg).1) HS.out; clear hgrow; have HR2 := Lib.hid (show w3.ownsRow w.heap.size 28 6 v' n (cc l) by simpa using hown'); have HB3 := Lib.hid (HB.out.trans hb3); clear hown' hb3)))
    go_ret
    exact ⟨retl_row HR2.out HN.out, HB3.out⟩
end Go.Proofs.Ytfjfnbeegojlbaa
