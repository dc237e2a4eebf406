/-
  What a law of sample is asked, as a value and as a block; Begin and Move with their cursors written out.
-/
import Derived.Test.YtmaldhjcdkidmaaPMoveB
import Derived.Test.YtmaldhjcdkidmaaUnr
namespace Go.Proofs.Ytmaldhjcdkidmaa
open Go.RowKit

/-- What a law of sample is asked. -/
structure Ak where
  s : Sm.Smp
  po : Int
  fr : Int
  bk : Bool
  dn : Bool
  step : Int
  k : Int
  n : Int
  off : Int
  frm : Int
  til : Int
  num : Int
  den : Int
  bits : Int
  held : Bool
  back : Bool
def AV (x : Ak) (p : Option Addr) (cap : Nat) : Value := .agg #[.string x.s.name, .slice p x.s.dat.length cap, .int .i64 x.s.bits, .int .i64 x.s.rate, .int .i64 x.s.vol, .int .i64 x.s.pan, .int .i64 x.s.fine, .int .i64 x.s.loop, .int .i64 x.s.start, .int .i64 x.s.fin, .int .i64 x.s.sus, .int .i64 x.s.sstart, .int .i64 x.s.sfin, .int .i64 x.po, .int .i64 x.fr, .bool x.bk, .bool x.dn, .int .i64 x.step, .int .i64 x.k, .int .i64 x.n, .int .i64 x.off, .int .i64 x.frm, .int .i64 x.til, .int .i64 x.num, .int .i64 x.den, .int .i64 x.bits, .bool x.held, .bool x.back]
/-- The law's own block: its twenty-eight cells. -/
def AB (w : World) (b : Nat) (x : Ak) (p : Option Addr) (cap : Nat) : Prop := Boxed w b x.s p cap ∧ w.cell? ⟨b, 13, none⟩ = some (.int .i64 x.po) ∧ w.cell? ⟨b, 14, none⟩ = some (.int .i64 x.fr) ∧ w.cell? ⟨b, 15, none⟩ = some (.bool x.bk) ∧ w.cell? ⟨b, 16, none⟩ = some (.bool x.dn) ∧ w.cell? ⟨b, 17, none⟩ = some (.int .i64 x.step) ∧ w.cell? ⟨b, 18, none⟩ = some (.int .i64 x.k) ∧ w.cell? ⟨b, 19, none⟩ = some (.int .i64 x.n) ∧ w.cell? ⟨b, 20, none⟩ = some (.int .i64 x.off) ∧ w.cell? ⟨b, 21, none⟩ = some (.int .i64 x.frm) ∧ w.cell? ⟨b, 22, none⟩ = some (.int .i64 x.til) ∧ w.cell? ⟨b, 23, none⟩ = some (.int .i64 x.num) ∧ w.cell? ⟨b, 24, none⟩ = some (.int .i64 x.den) ∧ w.cell? ⟨b, 25, none⟩ = some (.int .i64 x.bits) ∧ w.cell? ⟨b, 26, none⟩ = some (.bool x.held) ∧ w.cell? ⟨b, 27, none⟩ = some (.bool x.back)
theorem ab_new (w : World) (x : Ak) (p : Option Addr) (cap : Nat) : AB (w.alloc (.cells #[.string x.s.name, .slice p x.s.dat.length cap, .int .i64 x.s.bits, .int .i64 x.s.rate, .int .i64 x.s.vol, .int .i64 x.s.pan, .int .i64 x.s.fine, .int .i64 x.s.loop, .int .i64 x.s.start, .int .i64 x.s.fin, .int .i64 x.s.sus, .int .i64 x.s.sstart, .int .i64 x.s.sfin, .int .i64 x.po, .int .i64 x.fr, .bool x.bk, .bool x.dn, .int .i64 x.step, .int .i64 x.k, .int .i64 x.n, .int .i64 x.off, .int .i64 x.frm, .int .i64 x.til, .int .i64 x.num, .int .i64 x.den, .int .i64 x.bits, .bool x.held, .bool x.back] 28)) w.heap.size x p cap := by
  refine ⟨⟨?_, ?_, ?_, ?_, ?_, ?_, ?_, ?_, ?_, ?_, ?_, ?_, ?_⟩, ?_, ?_, ?_, ?_, ?_, ?_, ?_, ?_, ?_, ?_, ?_, ?_, ?_, ?_, ?_⟩ <;> go_simp
theorem AB.kept {w w' : World} {b : Nat} {x : Ak} {p : Option Addr} {cap : Nat} (h : AB w b x p cap) (hb : Below w.heap.size w w') : AB w' b x p cap := by
  obtain ⟨hx, y13, y14, y15, y16, y17, y18, y19, y20, y21, y22, y23, y24, y25, y26, y27⟩ := h
  exact ⟨hx.below hb (cell_lt hx.1), kept_cell hb y13, kept_cell hb y14, kept_cell hb y15, kept_cell hb y16, kept_cell hb y17, kept_cell hb y18, kept_cell hb y19, kept_cell hb y20, kept_cell hb y21, kept_cell hb y22, kept_cell hb y23, kept_cell hb y24, kept_cell hb y25, kept_cell hb y26, kept_cell hb y27⟩
theorem AB.lt {w : World} {b : Nat} {x : Ak} {p : Option Addr} {cap : Nat} (h : AB w b x p cap) : b < w.heap.size := cell_lt h.1.1
/-- A cursor's four cells. -/
def CA (w : World) (b : Nat) (po fr : Int) (bk dn : Bool) : Prop := w.cell? ⟨b, 0, none⟩ = some (.int .i64 po) ∧ w.cell? ⟨b, 1, none⟩ = some (.int .i64 fr) ∧ w.cell? ⟨b, 2, none⟩ = some (.bool bk) ∧ w.cell? ⟨b, 3, none⟩ = some (.bool dn)
theorem ca_new (w : World) (po fr : Int) (bk dn : Bool) : CA (w.alloc (.cells #[.int .i64 po, .int .i64 fr, .bool bk, .bool dn] 26)) w.heap.size po fr bk dn := by
  refine ⟨?_, ?_, ?_, ?_⟩ <;> simp [World.cell?_alloc_new]
theorem CA.kept {w w' : World} {b : Nat} {po fr : Int} {bk dn : Bool} (h : CA w b po fr bk dn) (hb : Below w.heap.size w w') : CA w' b po fr bk dn :=
  ⟨kept_cell hb h.1, kept_cell hb h.2.1, kept_cell hb h.2.2.1, kept_cell hb h.2.2.2⟩
/-- From W on nothing that was there has changed: the next call. -/
theorem stepB {W w w' : World} (h : Below W.heap.size W w) (hb : Below w.heap.size w w') : Below W.heap.size W w' := h.trans (hb.mono h.size)
theorem retE {c : Sm.Cur} {n : Int} {e : Ending} (h : RetCurE c n e) : e = .returned (.tuple #[.agg #[.int .i64 c.pos, .int .i64 c.frac, .bool c.back, .bool c.done], .int .i64 n]) := by
  obtain ⟨p, fr, bk, dn, he, hc⟩ := h
  rw [he, hc.out]
theorem retC {c : Sm.Cur} {e : Ending} (h : RetCur c e) : e = .returned (.agg #[.int .i64 c.pos, .int .i64 c.frac, .bool c.back, .bool c.done]) := by
  obtain ⟨p, fr, bk, dn, he, hc⟩ := h
  rw [he, hc.out]
/-- A move of a valid sample's valid cursor, into a cursor written out. -/
theorem p_Move_to (s : Sm.Smp) (p : Option Addr) (cap : Nat) (c d : Sm.Cur) (st : Int) (h : Bool) (w : World) (hm : s.name.size ≤ maxLen) (hd : DatAt w p s.dat) (hv : Sm.vld s = true) (hs : Okc s.dat.length c) (s1 : 0 ≤ st) (s2 : st ≤ 268435456) (hcd : mvS s h c st = d) :
    Calls Try.prog 17 #[SV s p cap, .agg #[.int .i64 c.pos, .int .i64 c.frac, .bool c.back, .bool c.done], .int .i64 st, .bool h] w fun x w' => x = .returned (.tuple #[.agg #[.int .i64 d.pos, .int .i64 d.frac, .bool d.back, .bool d.done], .int .i64 0]) ∧ Below w.heap.size w w' := by
  subst hcd
  have key : Calls Try.prog 17 #[SV s p cap, .agg #[.int .i64 c.pos, .int .i64 c.frac, .bool c.back, .bool c.done], .int .i64 st, .bool h] w fun x w' => RetCurE (mvS s h c st) 0 x ∧ Below w.heap.size w w' := by
    have hM : mvS s h c st = Sm.gone (Sm.rk s h) (65536 * Sm.rs s h) (65536 * Sm.re s h) (65536 * s.dat.length) ⟨c.pos, c.frac, c.back, c.done⟩ st := by
      unfold mvS; rw [Int.mul_comm (Sm.rs s h), Int.mul_comm (Sm.re s h), Int.mul_comm (s.dat.length : Int)]
    rw [hM]
    rcases (ring_ok hv h).1 with hk | hk | hk
    · rw [hk]; exact p_Move_ok0 s p cap c.pos c.frac st c.back c.done h w hm hd hv hs s1 s2 ⟨hk, rfl, rfl⟩
    · rw [hk]; exact p_Move_ok1 s p cap c.pos c.frac st c.back c.done h w hm hd hv hs s1 s2 ⟨hk, rfl, rfl⟩
    · rw [hk]; exact p_Move_ok2 s p cap c.pos c.frac st c.back c.done h w hm hd hv hs s1 s2 ⟨hk, rfl, rfl⟩
  exact key.mono fun _ _ ⟨he, hb⟩ => ⟨retE he, hb⟩
theorem p_Begin_to (s : Sm.Smp) (p : Option Addr) (cap : Nat) (o : Int) (b : Bool) (d : Sm.Cur) (w : World) (hm : s.name.size ≤ maxLen) (hd : DatAt w p s.dat) (hl : (s.dat.length : Int) ≤ 9223372036854775807) (hcd : bgn s o b = d) :
    Calls Try.prog 15 #[SV s p cap, .int .i64 o, .bool b] w fun x w' => x = .returned (.agg #[.int .i64 d.pos, .int .i64 d.frac, .bool d.back, .bool d.done]) ∧ Below w.heap.size w w' := by
  subst hcd
  exact (p_begin s p cap o b w hm hd hl).mono fun _ _ ⟨he, hb⟩ => ⟨retC he, hb⟩
theorem p_Move_bad (s : Sm.Smp) (p : Option Addr) (cap : Nat) (po fr st : Int) (bk dn h : Bool) (w : World) (hm : s.name.size ≤ maxLen) (hd : DatAt w p s.dat) (hv : Sm.vld s = false) :
    Calls Try.prog 17 #[SV s p cap, .agg #[.int .i64 po, .int .i64 fr, .bool bk, .bool dn], .int .i64 st, .bool h] w fun x w' => x = .returned (.tuple #[.agg #[.int .i64 0, .int .i64 0, .bool false, .bool false], .int .i64 1]) ∧ Below w.heap.size w w' :=
  (p_Move_invalid s p cap po fr st bk dn h w hm hd hv).mono fun _ _ ⟨he, hb⟩ => ⟨retE he, hb⟩
end Go.Proofs.Ytmaldhjcdkidmaa
