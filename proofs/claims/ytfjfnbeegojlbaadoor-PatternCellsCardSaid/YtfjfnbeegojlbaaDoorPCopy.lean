/-
  Package pattern's Copy.
-/
import Derived.Test.YtfjfnbeegojlbaaDoorPCpy
import Derived.Deep.RegionHeld3
namespace Go.Proofs.YtfjfnbeegojlbaaDoor
open Go.RowKit

namespace Pt
def okI (e v : Int) : Int := if e = 0 then v else 0
def okL (e : Int) (l : List Cl) : List Cl := if e = 0 then l else []
end Pt
theorem onB {P : Program} {f : FuncId} {args : Array Value} {W w : World} {e0 : Ending} (hb : Below W.heap.size W w)
    (h : Calls P f args w fun x w' => x = e0 ∧ Below w.heap.size w w') : Calls P f args w fun x w' => x = e0 ∧ Below W.heap.size W w' :=
  h.mono fun _ _ ⟨he, hw⟩ => ⟨he, hb.trans (hw.mono hb.size)⟩
/-- Copied so far: k rows. -/
def cpTo (l : List Pt.Cl) (ch r c h w : Nat) (k : Nat) (L : List Pt.Cl) : Prop := L.length = h * w ∧ ∀ j, j < h * w → Pt.at' L j = if j / w < k then Pt.at' l ((r + j / w) * ch + (c + j % w)) else Pt.zc
theorem cp_step {l : List Pt.Cl} {ch r c h w k : Nat} {L m : List Pt.Cl} (hL : cpTo l ch r c h w k L) (hm : (l.drop ((r + k) * ch + c)).take w = m) (hw : m.length = w) (hk : k < h) (h1 : 1 ≤ w) : cpTo l ch r c h w (k + 1) (lay L (k * w) m) := by
  have hb : k * w + m.length ≤ L.length := by
    have := Nat.mul_le_mul_right w (show k + 1 ≤ h from hk)
    rw [Nat.add_mul, Nat.one_mul] at this
    rw [hw, hL.1]
    exact this
  refine ⟨by rw [lay_len hb, hL.1], fun j hj => ?_⟩
  rw [lay_at hb, hw, hL.2 j hj]
  have e1 : j / w < k ↔ j < k * w := Nat.div_lt_iff_lt_mul h1
  have e2 : j / w < k + 1 ↔ j < k * w + w := by rw [Nat.div_lt_iff_lt_mul h1, Nat.add_mul, Nat.one_mul]
  by_cases a1 : j < k * w
  · rw [if_neg (by omega), if_pos (e1.2 a1), if_pos (e2.2 (by omega))]
  · by_cases a2 : j < k * w + w
    · rw [if_pos ⟨by omega, a2⟩, if_pos (e2.2 a2)]
      have e3 : j / w = k := by have := e2.2 a2; have : ¬ j / w < k := fun h => a1 (e1.1 h); omega
      have e4 : j % w = j - k * w := by
        have := Nat.div_add_mod j w
        rw [e3, Nat.mul_comm] at this
        omega
      rw [← hm, Pt.at_take _ _ _ (by omega), Pt.at_drop, e3, e4, Nat.add_assoc]
    · rw [if_neg (by omega), if_neg (fun h => a1 (e1.1 h)), if_neg (fun h => a2 (e2.1 h))]
theorem cp_done {l : List Pt.Cl} {ch r c h w : Nat} {L : List Pt.Cl} (hL : cpTo l ch r c h w h L) : L = Pt.copyL l ch r c h w := by
  refine Pt.eq_mk hL.1 fun k hk => ?_
  rw [hL.2 k hk, if_pos]
  exact Nat.div_lt_of_lt_mul (by rw [Nat.mul_comm]; exact hk)
theorem keepCopy {W : World} {b b9 g : Nat} {r : Int} {v : Value} {h : Int} {v9 : Value} {x y z t : Int} (hp : Pb W b r v) (h9 : Pb W b9 h v9) (ha : W.rangeAt (b + 1) 0 [.int .i64 x, .int .i64 y, .int .i64 z, .int .i64 t]) (n1 : b ≠ g) (n2 : b9 ≠ g) (n3 : b + 1 ≠ g) {w' : World} (hb : W.grownBy w' (some g)) :
    W.grownBy w' (some g) ∧ w'.cell? ⟨b, 0, none⟩ = some (.int .i64 r) ∧ w'.cell? ⟨b, 1, none⟩ = some v ∧ w'.cell? ⟨b9, 0, none⟩ = some (.int .i64 h) ∧ w'.cell? ⟨b9, 1, none⟩ = some v9 ∧ w'.cell? ⟨b + 1, 0, none⟩ = some (.int .i64 x) ∧ w'.cell? ⟨b + 1, 1, none⟩ = some (.int .i64 y) ∧ w'.cell? ⟨b + 1, 2, none⟩ = some (.int .i64 z) ∧ w'.cell? ⟨b + 1, 3, none⟩ = some (.int .i64 t) :=
  ⟨hb, cell_grown hb (hp.1 0 _ rfl) n1, cell_grown hb (hp.1 1 _ rfl) n1, cell_grown hb (h9.1 0 _ rfl) n2, cell_grown hb (h9.1 1 _ rfl) n2, cell_grown hb (ha 0 _ rfl) n3, cell_grown hb (ha 1 _ rfl) n3, cell_grown hb (ha 2 _ rfl) n3, cell_grown hb (ha 3 _ rfl) n3⟩
theorem six {W : World} {b : Nat} {r : Int} {v : Value} {x y z t : Int} (hp : Pb W b r v) (ha : W.rangeAt (b + 1) 0 [.int .i64 x, .int .i64 y, .int .i64 z, .int .i64 t]) {w' : World} (hb : Below W.heap.size W w') :
    w'.cell? ⟨b, 0, none⟩ = some (.int .i64 r) ∧ w'.cell? ⟨b, 1, none⟩ = some v ∧ w'.cell? ⟨b + 1, 0, none⟩ = some (.int .i64 x) ∧ w'.cell? ⟨b + 1, 1, none⟩ = some (.int .i64 y) ∧ w'.cell? ⟨b + 1, 2, none⟩ = some (.int .i64 z) ∧ w'.cell? ⟨b + 1, 3, none⟩ = some (.int .i64 t) :=
  ⟨kept_cell hb (hp.1 0 _ rfl), kept_cell hb (hp.1 1 _ rfl), kept_cell hb (ha 0 _ rfl), kept_cell hb (ha 1 _ rfl), kept_cell hb (ha 2 _ rfl), kept_cell hb (ha 3 _ rfl)⟩
/-- An area of a valid pattern: natural numbers. -/
theorem area_nat {r : Int} {l : List Pt.Cl} {ch : Int} {a : Pt.Ar} (h : Pt.eArea r l ch a = 0) : ∃ R C ar ac ah aw : Nat, r = R ∧ ch = C ∧ a = ⟨ar, ac, ah, aw⟩ ∧ R ≤ 64 ∧ C ≤ 16 ∧ l.length = R * C ∧ 1 ≤ ah ∧ ar + ah ≤ R ∧ 1 ≤ aw ∧ ac + aw ≤ C ∧ Pt.all l = true := by
  unfold Pt.eArea at h
  cases h1 : Pt.vpat r l ch with
  | false => rw [h1] at h; simp at h
  | true =>
    cases h2 : Pt.awi a r ch with
    | false => rw [h1, h2] at h; simp at h
    | true =>
      obtain ⟨R, C, rfl, rfl, g1, g2, g3, g4, g5, g6⟩ := Pt.vpat_nat h1
      simp only [Pt.awi, Bool.and_eq_true, Pt.wth_iff] at h2
      obtain ⟨⟨b1, b2⟩, ⟨b3, b4⟩, ⟨b5, b6⟩, b7, b8⟩ := h2
      obtain ⟨x, y, z, t⟩ := a
      simp only at b1 b2 b3 b4 b5 b6 b7 b8
      refine ⟨R, C, x.toNat, y.toNat, z.toNat, t.toNat, rfl, rfl, ?_, g2, g4, g5, by omega, by omega, by omega, by omega, g6⟩
      rw [show ((x.toNat : Nat) : Int) = x by omega, show ((y.toNat : Nat) : Int) = y by omega, show ((z.toNat : Nat) : Int) = z by omega, show ((t.toNat : Nat) : Int) = t by omega]
end Go.Proofs.YtfjfnbeegojlbaaDoor
