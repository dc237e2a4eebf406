/-
  The contract of the reference's Amplify.
-/
import Derived.Test.YtmaldhjcdkidmaaRefFresh
import Derived.Test.YtmaldhjcdkidmaaRefValidB
import Derived.StillTailTactics
namespace Go.Proofs.Ytmaldhjcdkidmaa
open Go.RowKit

theorem r_fresh (s : Sm.Smp) (p : Option Addr) (cap : Nat) (w : World) (hd : DatAt w p s.dat) (hl : (s.dat.length : Int) ≤ 4096) (hnil : p = none → cap = 0) :
    Calls Try.prog 65 #[SV s p cap] w fun x w' => RetF s w.heap.size x w' ∧ Below w.heap.size w w' := by
  cases p with
  | some ad => exact r_fresh_some s ad cap w hd hl
  | none =>
    rw [hnil rfl]
    rcases hd with h | ⟨b, off, h, _⟩
    · exact r_fresh_none s w h
    · cases h
/-- The row's cells after k rounds: the first ones changed. -/
def mrow (f g : Nat → Int) (n k : Nat) : List Value := (List.range n).map fun j => .int .i64 (if j < k then f j else g j)
theorem mrow_zero (f g : Nat → Int) {n : Nat} {l : List Int} (hl : l.length = n) (h : ∀ i, i < n → l.getD i 0 = g i) : mrow f g n 0 = l.map (Value.int .i64) := by
  apply List.ext_getElem
  · simp [mrow, hl]
  · intro i h1 h2
    have hi : i < n := by simpa [mrow] using h1
    have := h i hi
    rw [List.getD_eq_getElem?_getD, List.getElem?_eq_getElem (by omega)] at this
    simp at this
    simp [mrow, this]
theorem mrow_set (f g : Nat → Int) {n k : Nat} (hk : k < n) {v : Int} (hv : v = f k) : (mrow f g n k).set k (.int .i64 v) = mrow f g n (k + 1) := by
  apply List.ext_getElem?
  intro i
  rw [List.getElem?_set]
  by_cases e : k = i
  · subst e
    simp [mrow, hk, hv]
  · rw [if_neg e]
    simp only [mrow, List.getElem?_map]
    by_cases hi : i < n
    · simp only [List.getElem?_range hi, Option.map_some]
      congr 3
      exact propext ⟨fun _ => by omega, fun _ => by omega⟩
    · simp [hi]
theorem mrow_at (f g : Nat → Int) {n k : Nat} (hk : k < n) : (mrow f g n k)[k]? = some (.int .i64 (g k)) := by simp [mrow, hk]
theorem mrow_full (f g : Nat → Int) {n : Nat} {l : List Int} (hl : l.length = n) (h : ∀ i, i < n → l.getD i 0 = f i) : mrow f g n n = l.map (Value.int .i64) := by
  apply List.ext_getElem
  · simp [mrow, hl]
  · intro i h1 h2
    have hi : i < n := by simpa [mrow] using h1
    have := h i hi
    rw [List.getD_eq_getElem?_getD, List.getElem?_eq_getElem (by omega)] at this
    simp at this
    simp [mrow, hi, this]
/-- A call has returned this sample, its frames in a block made since B, and no error. -/
def RetR (s : Sm.Smp) (B : Nat) (e : Ending) (w' : World) : Prop := ∃ g c, e = .returned (.tuple #[SV s (some ⟨g, 0, none⟩) c, .int .i64 0]) ∧ DatAt w' (some ⟨g, 0, none⟩) s.dat ∧ B ≤ g
theorem dat_store {w : World} {g b : Nat} {l : List Int} (h : DatAt w (some ⟨g, 0, none⟩) l) (hb : g ≠ b) (j : Nat) (v : Value) : DatAt (w.setCell ⟨b, j, none⟩ v) (some ⟨g, 0, none⟩) l := by
  rcases h with h | ⟨b', off, hp, hl, hc⟩
  · exact .inl h
  · simp only [Option.some.injEq, Addr.mk.injEq, and_true] at hp
    obtain ⟨rfl, rfl⟩ := hp
    exact .inr ⟨_, _, rfl, by simpa [World.setCell] using hl, fun i hi => by rw [cell_set hb]; exact hc i hi⟩
theorem rvalid_v (s : Sm.Smp) (p : Option Addr) (cap : Nat) (w : World) {v : Bool} (hm : s.name.size ≤ maxLen) (hd : DatAt w p s.dat) (hv : Sm.vld s = v) :
    Calls Try.prog 14 #[SV s p cap] w fun x w' => x = .returned (.bool v) ∧ Below w.heap.size w w' := hv ▸ rvalid s p cap w hm hd
set_option maxHeartbeats 1600000 in
theorem r_amplify_bad (s : Sm.Smp) (p : Option Addr) (cap : Nat) (num den : Int) (w : World) (hm : s.name.size ≤ maxLen) (hd : DatAt w p s.dat) (hv : Sm.vld s = false)  :
    Calls Try.prog 31 #[SV s p cap, .int .i64 num, .int .i64 den] w fun x w' => x = .returned (.tuple #[SV zer none 0, .int .i64 1]) ∧ Below w.heap.size w w' := by
  have HVd := Lib.hid (rvalid_v s p cap ((w.alloc (.cells #[.string s.name, .slice p s.dat.length cap, .int .i64 s.bits, .int .i64 s.rate, .int .i64 s.vol, .int .i64 s.pan, .int .i64 s.fine, .int .i64 s.loop, .int .i64 s.start, .int .i64 s.fin, .int .i64 s.sus, .int .i64 s.sstart, .int .i64 s.sfin] 24)).alloc (.cells #[.string { data := #[] }, .slice none 0 0, .int .i64 0, .int .i64 0, .int .i64 0, .int .i64 0, .int .i64 0, .int .i64 0, .int .i64 0, .int .i64 0, .int .i64 0, .int .i64 0, .int .i64 0] 24)) hm (hd.below (((Below.refl w.heap.size w).alloc (Nat.le_refl _) (.cells #[.string s.name, .slice p s.dat.length cap, .int .i64 s.bits, .int .i64 s.rate, .int .i64 s.vol, .int .i64 s.pan, .int .i64 s.fine, .int .i64 s.loop, .int .i64 s.start, .int .i64 s.fin, .int .i64 s.sus, .int .i64 s.sstart, .int .i64 s.sfin] 24)).alloc (by simp) (.cells #[.string { data := #[] }, .slice none 0 0, .int .i64 0, .int .i64 0, .int .i64 0, .int .i64 0, .int .i64 0, .int .i64 0, .int .i64 0, .int .i64 0, .int .i64 0, .int .i64 0, .int .i64 0] 24))) hv)
  have HT0 := Lib.hid (two_new w s p cap)
  have HB0 := Lib.hid (((Below.refl w.heap.size w).alloc (Nat.le_refl _) (.cells #[.string s.name, .slice p s.dat.length cap, .int .i64 s.bits, .int .i64 s.rate, .int .i64 s.vol, .int .i64 s.pan, .int .i64 s.fine, .int .i64 s.loop, .int .i64 s.start, .int .i64 s.fin, .int .i64 s.sus, .int .i64 s.sstart, .int .i64 s.sfin] 24)).alloc (by simp) (.cells #[.string { data := #[] }, .slice none 0 0, .int .i64 0, .int .i64 0, .int .i64 0, .int .i64 0, .int .i64 0, .int .i64 0, .int .i64 0, .int .i64 0, .int .i64 0, .int .i64 0, .int .i64 0] 24))
  clear hm hd
  unfold SV at HVd
  unfold SV
  go_enter Try.func31, Try.ntmps31
  go_wp2_with (first | (go_at_call 14; ((with_reducible refine HVd.out.mono ?_); rintro z w1 ⟨rfl, hb1⟩; have HB1 := Lib.hid (stepB HB0.out hb1); have HT1 := Lib.hid (HT0.out.kept hb1 (by simp)); obtain ⟨⟨x0, x1, x2, x3, x4, x5, x6, x7, x8, x9, x10, x11, x12⟩, ⟨z0, z1, z2, z3, z4, z5, z6, z7, z8, z9, z10, z11, z12⟩, fz1, fz2⟩ := HT1.out)))
  refine bodyPost_ret (v := .tuple #[SV zer none 0, .int .i64 1]) ?_ rfl ⟨rfl, Below13 HB1.out (by omega)⟩
  simp [results, Try.results31, go_sem, SV, zer, z0, z1, z2, z3, z4, z5, z6, z7, z8, z9, z10, z11, z12] <;> rfl
set_option maxHeartbeats 1600000 in
theorem r_amplify_r1 (s : Sm.Smp) (p : Option Addr) (cap : Nat) (num den : Int) (w : World) (hm : s.name.size ≤ maxLen) (hd : DatAt w p s.dat) (hv : Sm.vld s = true) (h1 : num < -10000) :
    Calls Try.prog 31 #[SV s p cap, .int .i64 num, .int .i64 den] w fun x w' => x = .returned (.tuple #[SV zer none 0, .int .i64 5]) ∧ Below w.heap.size w w' := by
  have HVd := Lib.hid (rvalid_v s p cap ((w.alloc (.cells #[.string s.name, .slice p s.dat.length cap, .int .i64 s.bits, .int .i64 s.rate, .int .i64 s.vol, .int .i64 s.pan, .int .i64 s.fine, .int .i64 s.loop, .int .i64 s.start, .int .i64 s.fin, .int .i64 s.sus, .int .i64 s.sstart, .int .i64 s.sfin] 24)).alloc (.cells #[.string { data := #[] }, .slice none 0 0, .int .i64 0, .int .i64 0, .int .i64 0, .int .i64 0, .int .i64 0, .int .i64 0, .int .i64 0, .int .i64 0, .int .i64 0, .int .i64 0, .int .i64 0] 24)) hm (hd.below (((Below.refl w.heap.size w).alloc (Nat.le_refl _) (.cells #[.string s.name, .slice p s.dat.length cap, .int .i64 s.bits, .int .i64 s.rate, .int .i64 s.vol, .int .i64 s.pan, .int .i64 s.fine, .int .i64 s.loop, .int .i64 s.start, .int .i64 s.fin, .int .i64 s.sus, .int .i64 s.sstart, .int .i64 s.sfin] 24)).alloc (by simp) (.cells #[.string { data := #[] }, .slice none 0 0, .int .i64 0, .int .i64 0, .int .i64 0, .int .i64 0, .int .i64 0, .int .i64 0, .int .i64 0, .int .i64 0, .int .i64 0, .int .i64 0, .int .i64 0] 24))) hv)
  have HT0 := Lib.hid (two_new w s p cap)
  have HB0 := Lib.hid (((Below.refl w.heap.size w).alloc (Nat.le_refl _) (.cells #[.string s.name, .slice p s.dat.length cap, .int .i64 s.bits, .int .i64 s.rate, .int .i64 s.vol, .int .i64 s.pan, .int .i64 s.fine, .int .i64 s.loop, .int .i64 s.start, .int .i64 s.fin, .int .i64 s.sus, .int .i64 s.sstart, .int .i64 s.sfin] 24)).alloc (by simp) (.cells #[.string { data := #[] }, .slice none 0 0, .int .i64 0, .int .i64 0, .int .i64 0, .int .i64 0, .int .i64 0, .int .i64 0, .int .i64 0, .int .i64 0, .int .i64 0, .int .i64 0, .int .i64 0] 24))
  clear hm hd
  unfold SV at HVd
  unfold SV
  go_enter Try.func31, Try.ntmps31
  go_wp2_with (first | (go_at_call 14; ((with_reducible refine HVd.out.mono ?_); rintro z w1 ⟨rfl, hb1⟩; have HB1 := Lib.hid (stepB HB0.out hb1); have HT1 := Lib.hid (HT0.out.kept hb1 (by simp)); obtain ⟨⟨x0, x1, x2, x3, x4, x5, x6, x7, x8, x9, x10, x11, x12⟩, ⟨z0, z1, z2, z3, z4, z5, z6, z7, z8, z9, z10, z11, z12⟩, fz1, fz2⟩ := HT1.out)))
  refine bodyPost_ret (v := .tuple #[SV zer none 0, .int .i64 5]) ?_ rfl ⟨rfl, Below13 HB1.out (by omega)⟩
  simp [results, Try.results31, go_sem, SV, zer, z0, z1, z2, z3, z4, z5, z6, z7, z8, z9, z10, z11, z12] <;> rfl
set_option maxHeartbeats 1600000 in
theorem r_amplify_r2 (s : Sm.Smp) (p : Option Addr) (cap : Nat) (num den : Int) (w : World) (hm : s.name.size ≤ maxLen) (hd : DatAt w p s.dat) (hv : Sm.vld s = true) (h1 : ¬ num < -10000) (h2 : 10000 < num) :
    Calls Try.prog 31 #[SV s p cap, .int .i64 num, .int .i64 den] w fun x w' => x = .returned (.tuple #[SV zer none 0, .int .i64 5]) ∧ Below w.heap.size w w' := by
  have HVd := Lib.hid (rvalid_v s p cap ((w.alloc (.cells #[.string s.name, .slice p s.dat.length cap, .int .i64 s.bits, .int .i64 s.rate, .int .i64 s.vol, .int .i64 s.pan, .int .i64 s.fine, .int .i64 s.loop, .int .i64 s.start, .int .i64 s.fin, .int .i64 s.sus, .int .i64 s.sstart, .int .i64 s.sfin] 24)).alloc (.cells #[.string { data := #[] }, .slice none 0 0, .int .i64 0, .int .i64 0, .int .i64 0, .int .i64 0, .int .i64 0, .int .i64 0, .int .i64 0, .int .i64 0, .int .i64 0, .int .i64 0, .int .i64 0] 24)) hm (hd.below (((Below.refl w.heap.size w).alloc (Nat.le_refl _) (.cells #[.string s.name, .slice p s.dat.length cap, .int .i64 s.bits, .int .i64 s.rate, .int .i64 s.vol, .int .i64 s.pan, .int .i64 s.fine, .int .i64 s.loop, .int .i64 s.start, .int .i64 s.fin, .int .i64 s.sus, .int .i64 s.sstart, .int .i64 s.sfin] 24)).alloc (by simp) (.cells #[.string { data := #[] }, .slice none 0 0, .int .i64 0, .int .i64 0, .int .i64 0, .int .i64 0, .int .i64 0, .int .i64 0, .int .i64 0, .int .i64 0, .int .i64 0, .int .i64 0, .int .i64 0] 24))) hv)
  have HT0 := Lib.hid (two_new w s p cap)
  have HB0 := Lib.hid (((Below.refl w.heap.size w).alloc (Nat.le_refl _) (.cells #[.string s.name, .slice p s.dat.length cap, .int .i64 s.bits, .int .i64 s.rate, .int .i64 s.vol, .int .i64 s.pan, .int .i64 s.fine, .int .i64 s.loop, .int .i64 s.start, .int .i64 s.fin, .int .i64 s.sus, .int .i64 s.sstart, .int .i64 s.sfin] 24)).alloc (by simp) (.cells #[.string { data := #[] }, .slice none 0 0, .int .i64 0, .int .i64 0, .int .i64 0, .int .i64 0, .int .i64 0, .int .i64 0, .int .i64 0, .int .i64 0, .int .i64 0, .int .i64 0, .int .i64 0] 24))
  clear hm hd
  unfold SV at HVd
  unfold SV
  go_enter Try.func31, Try.ntmps31
  go_wp2_with (first | (go_at_call 14; ((with_reducible refine HVd.out.mono ?_); rintro z w1 ⟨rfl, hb1⟩; have HB1 := Lib.hid (stepB HB0.out hb1); have HT1 := Lib.hid (HT0.out.kept hb1 (by simp)); obtain ⟨⟨x0, x1, x2, x3, x4, x5, x6, x7, x8, x9, x10, x11, x12⟩, ⟨z0, z1, z2, z3, z4, z5, z6, z7, z8, z9, z10, z11, z12⟩, fz1, fz2⟩ := HT1.out)))
  refine bodyPost_ret (v := .tuple #[SV zer none 0, .int .i64 5]) ?_ rfl ⟨rfl, Below13 HB1.out (by omega)⟩
  simp [results, Try.results31, go_sem, SV, zer, z0, z1, z2, z3, z4, z5, z6, z7, z8, z9, z10, z11, z12] <;> rfl
set_option maxHeartbeats 1600000 in
theorem r_amplify_r3 (s : Sm.Smp) (p : Option Addr) (cap : Nat) (num den : Int) (w : World) (hm : s.name.size ≤ maxLen) (hd : DatAt w p s.dat) (hv : Sm.vld s = true) (h1 : ¬ num < -10000) (h2 : ¬ 10000 < num) (h3 : den < 1) :
    Calls Try.prog 31 #[SV s p cap, .int .i64 num, .int .i64 den] w fun x w' => x = .returned (.tuple #[SV zer none 0, .int .i64 5]) ∧ Below w.heap.size w w' := by
  have HVd := Lib.hid (rvalid_v s p cap ((w.alloc (.cells #[.string s.name, .slice p s.dat.length cap, .int .i64 s.bits, .int .i64 s.rate, .int .i64 s.vol, .int .i64 s.pan, .int .i64 s.fine, .int .i64 s.loop, .int .i64 s.start, .int .i64 s.fin, .int .i64 s.sus, .int .i64 s.sstart, .int .i64 s.sfin] 24)).alloc (.cells #[.string { data := #[] }, .slice none 0 0, .int .i64 0, .int .i64 0, .int .i64 0, .int .i64 0, .int .i64 0, .int .i64 0, .int .i64 0, .int .i64 0, .int .i64 0, .int .i64 0, .int .i64 0] 24)) hm (hd.below (((Below.refl w.heap.size w).alloc (Nat.le_refl _) (.cells #[.string s.name, .slice p s.dat.length cap, .int .i64 s.bits, .int .i64 s.rate, .int .i64 s.vol, .int .i64 s.pan, .int .i64 s.fine, .int .i64 s.loop, .int .i64 s.start, .int .i64 s.fin, .int .i64 s.sus, .int .i64 s.sstart, .int .i64 s.sfin] 24)).alloc (by simp) (.cells #[.string { data := #[] }, .slice none 0 0, .int .i64 0, .int .i64 0, .int .i64 0, .int .i64 0, .int .i64 0, .int .i64 0, .int .i64 0, .int .i64 0, .int .i64 0, .int .i64 0, .int .i64 0] 24))) hv)
  have HT0 := Lib.hid (two_new w s p cap)
  have HB0 := Lib.hid (((Below.refl w.heap.size w).alloc (Nat.le_refl _) (.cells #[.string s.name, .slice p s.dat.length cap, .int .i64 s.bits, .int .i64 s.rate, .int .i64 s.vol, .int .i64 s.pan, .int .i64 s.fine, .int .i64 s.loop, .int .i64 s.start, .int .i64 s.fin, .int .i64 s.sus, .int .i64 s.sstart, .int .i64 s.sfin] 24)).alloc (by simp) (.cells #[.string { data := #[] }, .slice none 0 0, .int .i64 0, .int .i64 0, .int .i64 0, .int .i64 0, .int .i64 0, .int .i64 0, .int .i64 0, .int .i64 0, .int .i64 0, .int .i64 0, .int .i64 0] 24))
  clear hm hd
  unfold SV at HVd
  unfold SV
  go_enter Try.func31, Try.ntmps31
  go_wp2_with (first | (go_at_call 14; ((with_reducible refine HVd.out.mono ?_); rintro z w1 ⟨rfl, hb1⟩; have HB1 := Lib.hid (stepB HB0.out hb1); have HT1 := Lib.hid (HT0.out.kept hb1 (by simp)); obtain ⟨⟨x0, x1, x2, x3, x4, x5, x6, x7, x8, x9, x10, x11, x12⟩, ⟨z0, z1, z2, z3, z4, z5, z6, z7, z8, z9, z10, z11, z12⟩, fz1, fz2⟩ := HT1.out)))
  refine bodyPost_ret (v := .tuple #[SV zer none 0, .int .i64 5]) ?_ rfl ⟨rfl, Below13 HB1.out (by omega)⟩
  simp [results, Try.results31, go_sem, SV, zer, z0, z1, z2, z3, z4, z5, z6, z7, z8, z9, z10, z11, z12] <;> rfl
set_option maxHeartbeats 1600000 in
theorem r_amplify_r4 (s : Sm.Smp) (p : Option Addr) (cap : Nat) (num den : Int) (w : World) (hm : s.name.size ≤ maxLen) (hd : DatAt w p s.dat) (hv : Sm.vld s = true) (h1 : ¬ num < -10000) (h2 : ¬ 10000 < num) (h3 : ¬ den < 1) (h4 : 10000 < den) :
    Calls Try.prog 31 #[SV s p cap, .int .i64 num, .int .i64 den] w fun x w' => x = .returned (.tuple #[SV zer none 0, .int .i64 5]) ∧ Below w.heap.size w w' := by
  have HVd := Lib.hid (rvalid_v s p cap ((w.alloc (.cells #[.string s.name, .slice p s.dat.length cap, .int .i64 s.bits, .int .i64 s.rate, .int .i64 s.vol, .int .i64 s.pan, .int .i64 s.fine, .int .i64 s.loop, .int .i64 s.start, .int .i64 s.fin, .int .i64 s.sus, .int .i64 s.sstart, .int .i64 s.sfin] 24)).alloc (.cells #[.string { data := #[] }, .slice none 0 0, .int .i64 0, .int .i64 0, .int .i64 0, .int .i64 0, .int .i64 0, .int .i64 0, .int .i64 0, .int .i64 0, .int .i64 0, .int .i64 0, .int .i64 0] 24)) hm (hd.below (((Below.refl w.heap.size w).alloc (Nat.le_refl _) (.cells #[.string s.name, .slice p s.dat.length cap, .int .i64 s.bits, .int .i64 s.rate, .int .i64 s.vol, .int .i64 s.pan, .int .i64 s.fine, .int .i64 s.loop, .int .i64 s.start, .int .i64 s.fin, .int .i64 s.sus, .int .i64 s.sstart, .int .i64 s.sfin] 24)).alloc (by simp) (.cells #[.string { data := #[] }, .slice none 0 0, .int .i64 0, .int .i64 0, .int .i64 0, .int .i64 0, .int .i64 0, .int .i64 0, .int .i64 0, .int .i64 0, .int .i64 0, .int .i64 0, .int .i64 0] 24))) hv)
  have HT0 := Lib.hid (two_new w s p cap)
  have HB0 := Lib.hid (((Below.refl w.heap.size w).alloc (Nat.le_refl _) (.cells #[.string s.name, .slice p s.dat.length cap, .int .i64 s.bits, .int .i64 s.rate, .int .i64 s.vol, .int .i64 s.pan, .int .i64 s.fine, .int .i64 s.loop, .int .i64 s.start, .int .i64 s.fin, .int .i64 s.sus, .int .i64 s.sstart, .int .i64 s.sfin] 24)).alloc (by simp) (.cells #[.string { data := #[] }, .slice none 0 0, .int .i64 0, .int .i64 0, .int .i64 0, .int .i64 0, .int .i64 0, .int .i64 0, .int .i64 0, .int .i64 0, .int .i64 0, .int .i64 0, .int .i64 0] 24))
  clear hm hd
  unfold SV at HVd
  unfold SV
  go_enter Try.func31, Try.ntmps31
  go_wp2_with (first | (go_at_call 14; ((with_reducible refine HVd.out.mono ?_); rintro z w1 ⟨rfl, hb1⟩; have HB1 := Lib.hid (stepB HB0.out hb1); have HT1 := Lib.hid (HT0.out.kept hb1 (by simp)); obtain ⟨⟨x0, x1, x2, x3, x4, x5, x6, x7, x8, x9, x10, x11, x12⟩, ⟨z0, z1, z2, z3, z4, z5, z6, z7, z8, z9, z10, z11, z12⟩, fz1, fz2⟩ := HT1.out)))
  refine bodyPost_ret (v := .tuple #[SV zer none 0, .int .i64 5]) ?_ rfl ⟨rfl, Below13 HB1.out (by omega)⟩
  simp [results, Try.results31, go_sem, SV, zer, z0, z1, z2, z3, z4, z5, z6, z7, z8, z9, z10, z11, z12] <;> rfl
/-- What the loop keeps. -/
structure AR (w : World) (s : Sm.Smp) (p : Option Addr) (cap b o g c B : Nat) (f : Nat → Int) (i : Value) (wr : World) : Prop where
  out : ∃ k : Nat, k ≤ s.dat.length ∧ i = .int .i64 k ∧ Hid (Two wr b s p cap) ∧ Hid (Boxed wr o s (some ⟨g, 0, none⟩) c) ∧ Hid (wr.ownsRow B 3 1 (.slice (some ⟨g, 0, none⟩) s.dat.length c) s.dat.length (mrow f (fun i => s.dat.getD i 0) s.dat.length k)) ∧ Hid (Below w.heap.size w wr)
set_option maxHeartbeats 1600000 in
theorem r_amplify_ok (s : Sm.Smp) (p : Option Addr) (cap : Nat) (num den : Int) (w : World) (hm : s.name.size ≤ maxLen) (hd : DatAt w p s.dat) (hv : Sm.vld s = true) (hnil : p = none → cap = 0) (n1 : -10000 ≤ num) (n2 : num ≤ 10000) (d1 : 1 ≤ den) (d2 : den ≤ 10000) :
    Calls Try.prog 31 #[SV s p cap, .int .i64 num, .int .i64 den] w fun x w' => RetR (Sm.amp s num den) w.heap.size x w' ∧ Below w.heap.size w w' := by
  have HVd := Lib.hid (rvalid_v s p cap ((w.alloc (.cells #[.string s.name, .slice p s.dat.length cap, .int .i64 s.bits, .int .i64 s.rate, .int .i64 s.vol, .int .i64 s.pan, .int .i64 s.fine, .int .i64 s.loop, .int .i64 s.start, .int .i64 s.fin, .int .i64 s.sus, .int .i64 s.sstart, .int .i64 s.sfin] 24)).alloc (.cells #[.string { data := #[] }, .slice none 0 0, .int .i64 0, .int .i64 0, .int .i64 0, .int .i64 0, .int .i64 0, .int .i64 0, .int .i64 0, .int .i64 0, .int .i64 0, .int .i64 0, .int .i64 0] 24)) hm (hd.below (((Below.refl w.heap.size w).alloc (Nat.le_refl _) (.cells #[.string s.name, .slice p s.dat.length cap, .int .i64 s.bits, .int .i64 s.rate, .int .i64 s.vol, .int .i64 s.pan, .int .i64 s.fine, .int .i64 s.loop, .int .i64 s.start, .int .i64 s.fin, .int .i64 s.sus, .int .i64 s.sstart, .int .i64 s.sfin] 24)).alloc (by simp) (.cells #[.string { data := #[] }, .slice none 0 0, .int .i64 0, .int .i64 0, .int .i64 0, .int .i64 0, .int .i64 0, .int .i64 0, .int .i64 0, .int .i64 0, .int .i64 0, .int .i64 0, .int .i64 0] 24))) hv)
  have HT0 := Lib.hid (two_new w s p cap)
  have HB0 := Lib.hid (((Below.refl w.heap.size w).alloc (Nat.le_refl _) (.cells #[.string s.name, .slice p s.dat.length cap, .int .i64 s.bits, .int .i64 s.rate, .int .i64 s.vol, .int .i64 s.pan, .int .i64 s.fine, .int .i64 s.loop, .int .i64 s.start, .int .i64 s.fin, .int .i64 s.sus, .int .i64 s.sstart, .int .i64 s.sfin] 24)).alloc (by simp) (.cells #[.string { data := #[] }, .slice none 0 0, .int .i64 0, .int .i64 0, .int .i64 0, .int .i64 0, .int .i64 0, .int .i64 0, .int .i64 0, .int .i64 0, .int .i64 0, .int .i64 0, .int .i64 0] 24))
  have hl : (s.dat.length : Int) ≤ 4096 := vld_len hv
  have hbits := Sm.vld_bits hv
  obtain ⟨hf, hhf⟩ : ∃ hf, Sm.hlf s.bits = hf := ⟨_, rfl⟩
  have hsh : wrap64 (2 ^ (s.bits.toNat - 1)) = hf := by
    rw [← hhf]
    unfold Sm.hlf
    rcases hbits with h | h <;> rw [h] <;> kernel_rfl
  have hf1 : 128 ≤ hf := by rw [← hhf]; unfold Sm.hlf; split <;> omega
  have hf2 : hf ≤ 32768 := by rw [← hhf]; unfold Sm.hlf; split <;> omega
  have e1 : IntKind.i64.wrap (-hf) = -hf := IntWalk.i64_in _ (by omega)
  have e2 : IntKind.i64.wrap (hf - 1) = hf - 1 := IntWalk.i64_in _ (by omega)
  have b1 : 8 ≤ s.bits := by omega
  have b2 : s.bits ≤ 16 := by omega
  have HSM := Lib.hid (vld_small hv)
  have HFr := Lib.hid (fun w' hd => r_fresh s p cap w' hd hl hnil)
  have HTm := Lib.hid (fun y w' (h1 : -65536 ≤ y) (h2 : y ≤ 65536) => (r_times y num den w' h1 h2 n1 n2 (by omega) d2).mono (R' := fun z w'' => z = .returned (.int .i64 (Sm.rnd (y * num) den)) ∧ w'' = w') fun _ _ ⟨h1, h2⟩ => ⟨h1, h2.symm⟩)
  have HCl := Lib.hid (fun y w' => (r_clamp y (-hf) (hf - 1) w').mono (R' := fun z w'' => z = .returned (.int .i64 (Sm.clp (-hf) (hf - 1) y)) ∧ w'' = w') fun _ _ ⟨h1, h2⟩ => ⟨h1, h2.symm⟩)
  have HAF := Lib.hid (show ∀ y, Sm.clp (-hf) (hf - 1) (Sm.rnd (y * num) den) = Sm.ampF s.bits num den y from fun y => by rw [← hhf]; rfl)
  have HD0 := Lib.hid hd
  clear hm hd hv hbits hhf hnil
  unfold SV at HVd HFr
  unfold RetF SV at HFr
  unfold SV
  go_enter Try.func31, Try.ntmps31
  go_wp2_with (first | (go_at_call 14; ((with_reducible refine HVd.out.mono ?_); rintro z w1 ⟨rfl, hb1⟩; have HB1 := Lib.hid (stepB HB0.out hb1); have HT1 := Lib.hid (HT0.out.kept hb1 (by simp)); obtain ⟨⟨x0, x1, x2, x3, x4, x5, x6, x7, x8, x9, x10, x11, x12⟩, ⟨z0, z1, z2, z3, z4, z5, z6, z7, z8, z9, z10, z11, z12⟩, fz1, fz2⟩ := HT1.out)) | (go_at_call 65; ((with_reducible refine (HFr.out _ (HD0.out.below HB1.out)).mono ?_); rintro z w2 ⟨⟨g, c, rfl, hown⟩, hb2⟩; have HO2 := Lib.hid hown; clear hown)))
  have hgo : g < w2.heap.size := HO2.out.lt
  have hgb : w1.heap.size ≤ g := HO2.out.ge
  have z1 : w.heap.size + 2 ≤ w1.heap.size := by have := hb1.size; simp at this; omega
  have HTW := Lib.hid ((HT1.out.kept hb2 (by omega)).kept (below_box w2 (.cells #[.string s.name, .slice (some ⟨g, 0, none⟩) s.dat.length c, .int .i64 s.bits, .int .i64 s.rate, .int .i64 s.vol, .int .i64 s.pan, .int .i64 s.fine, .int .i64 s.loop, .int .i64 s.start, .int .i64 s.fin, .int .i64 s.sus, .int .i64 s.sstart, .int .i64 s.sfin] 24)) (by have := hb2.size; omega))
  have HXW := Lib.hid (boxed_new w2 s (some ⟨g, 0, none⟩) c 24)
  have HRW := Lib.hid (show (w2.alloc (.cells #[.string s.name, .slice (some ⟨g, 0, none⟩) s.dat.length c, .int .i64 s.bits, .int .i64 s.rate, .int .i64 s.vol, .int .i64 s.pan, .int .i64 s.fine, .int .i64 s.loop, .int .i64 s.start, .int .i64 s.fin, .int .i64 s.sus, .int .i64 s.sstart, .int .i64 s.sfin] 24)).ownsRow w1.heap.size 3 1 (.slice (some ⟨g, 0, none⟩) s.dat.length c) s.dat.length (mrow (fun i => Sm.ampF s.bits num den (s.dat.getD i 0)) (fun i => s.dat.getD i 0) s.dat.length 0) by
    rw [mrow_zero (fun i => Sm.ampF s.bits num den (s.dat.getD i 0)) (fun i => s.dat.getD i 0) (l := s.dat) rfl (fun _ _ => rfl)]
    exact HO2.out.kept (below_box w2 (.cells #[.string s.name, .slice (some ⟨g, 0, none⟩) s.dat.length c, .int .i64 s.bits, .int .i64 s.rate, .int .i64 s.vol, .int .i64 s.pan, .int .i64 s.fine, .int .i64 s.loop, .int .i64 s.start, .int .i64 s.fin, .int .i64 s.sus, .int .i64 s.sstart, .int .i64 s.sfin] 24)))
  have HBW := Lib.hid (stepB (stepB HB1.out hb2) (below_box w2 (.cells #[.string s.name, .slice (some ⟨g, 0, none⟩) s.dat.length c, .int .i64 s.bits, .int .i64 s.rate, .int .i64 s.vol, .int .i64 s.pan, .int .i64 s.fine, .int .i64 s.loop, .int .i64 s.start, .int .i64 s.fin, .int .i64 s.sus, .int .i64 s.sstart, .int .i64 s.sfin] 24)))
  obtain ⟨W, hW⟩ : ∃ W, W = w2.alloc (.cells #[.string s.name, .slice (some ⟨g, 0, none⟩) s.dat.length c, .int .i64 s.bits, .int .i64 s.rate, .int .i64 s.vol, .int .i64 s.pan, .int .i64 s.fine, .int .i64 s.loop, .int .i64 s.start, .int .i64 s.fin, .int .i64 s.sus, .int .i64 s.sstart, .int .i64 s.sfin] 24) := ⟨_, rfl⟩
  obtain ⟨o, hoe⟩ : ∃ o, o = w2.heap.size := ⟨_, rfl⟩
  obtain ⟨B, hBe⟩ : ∃ B, B = w1.heap.size := ⟨_, rfl⟩
  have nbg : w.heap.size ≠ g := by omega
  have nbg1 : w.heap.size + 1 ≠ g := by omega
  have nog : o ≠ g := by omega
  have hwg : w.heap.size ≤ g := by omega
  rw [← hW] at HTW HXW HRW HBW ⊢
  rw [← hoe] at HXW ⊢
  rw [← hBe] at HRW
  clear x0 x1 x2 x3 x4 x5 x6 x7 x8 x9 x10 x11 x12 z0 z1 z2 z3 z4 z5 z6 z7 z8 z9 z10 z11 z12 fz1 fz2
  clear HO2
  clear hW
  clear hoe
  clear hgo hgb z1 hBe
  clear HT1 HT0
  clear HB1 HB0
  clear HVd HFr
  go_loopw [41] (fun i wr => AR w s p cap w.heap.size o g c B (fun i => Sm.ampF s.bits num den (s.dat.getD i 0)) i wr) (fun i _ => s.dat.length - (intOf i).toNat)
  case atStart => exact ⟨⟨0, by omega, rfl, HTW.out, HXW.out, HRW.out, HBW.out⟩⟩
  case round =>
    clear HTW HXW HRW HBW
    obtain ⟨k, hk, rfl, HT, HX, HR, hbw⟩ := hrel.out
    clear hrel
    by_cases hlt : k < s.dat.length
    · obtain ⟨y, hy⟩ : ∃ y, s.dat.getD k 0 = y := ⟨_, rfl⟩
      have hq := HSM.out k hlt
      rw [hy] at hq
      obtain ⟨v, hv⟩ : ∃ v, Sm.clp (-hf) (hf - 1) (Sm.rnd (y * num) den) = v := ⟨_, rfl⟩
      have HV := Lib.hid (show v = (fun i => Sm.ampF s.bits num den (s.dat.getD i 0)) k by rw [← hv, HAF.out y, ← hy])
      have HT' := Lib.hid (show Two wr.drew w.heap.size s p cap from HT.out)
      have HX' := Lib.hid (show Boxed wr.drew o s (some ⟨g, 0, none⟩) c from HX.out)
      have HR' := Lib.hid (show wr.drew.ownsRow B 3 1 (.slice (some ⟨g, 0, none⟩) s.dat.length c) s.dat.length (mrow (fun i => Sm.ampF s.bits num den (s.dat.getD i 0)) (fun i => s.dat.getD i 0) s.dat.length k) from HR.out)
      have HB' := Lib.hid (show Below w.heap.size w wr.drew from hbw.out.drew)
      have HTy := Lib.hid (fun w' => HTm.out y w' (by omega) (by omega))
      have HCy := Lib.hid (fun w' => HCl.out (Sm.rnd (y * num) den) w')
      rw [hv] at HCy
      obtain ⟨r, hr⟩ : ∃ r, Sm.rnd (y * num) den = r := ⟨_, rfl⟩
      rw [hr] at HTy HCy
      obtain ⟨y0, y1, y2, y3, y4, y5, y6, y7, y8, y9, y10, y11, y12⟩ := HX.out
      go_upto_region 10 with fail
      refine wp_region_still_tail 17 (by kernel_rfl) (by kernel_rfl) ?_
      obtain ⟨W', hW'⟩ : ∃ W', W' = wr.drew := ⟨_, rfl⟩
      rw [show ({ wr with drawn := wr.drawn + 1 } : World) = W' from hW'.symm]
      rw [← hW'] at HT' HX' HR' HB'
      have a0 : W'.cell? ⟨g, k, none⟩ = some (.int .i64 y) := (HR'.out.cellAt k (by omega)).trans ((mrow_at _ _ hlt).trans (by rw [← hy]))
      have a1 := HR'.out.frozenAt k
      clear y0 y1 y2 y3 y4 y5 y6 y7 y8 y9 y10 y11 y12 hq hy hv hr hW'
      obtain ⟨y0, y1, y2, y3, y4, y5, y6, y7, y8, y9, y10, y11, y12⟩ := HX'.out
      simp only [List.take_succ_cons, List.take_zero, List.drop_succ_cons, List.drop_zero]
      repeat still_step
      still_call (HTy.out _)
      repeat still_step
      still_call (HCy.out _)
      repeat still_step
      refine wpStill_nil ?_
      go_wp2
      go_roundw
      case rel => exact ⟨⟨k + 1, by omega, by go_num, HT'.out.store nbg nbg1 _ _, HX'.out.store nog _ _, (congrArg _ (mrow_set (fun i => Sm.ampF s.bits num den (s.dat.getD i 0)) (fun i => s.dat.getD i 0) hlt HV.out)).mp (HR'.out.stored k (.int .i64 v)).1, HB'.out.setCell hwg _⟩⟩
      case measure => simp [intOf]; omega
    · have HE := Lib.hid (show mrow (fun i => Sm.ampF s.bits num den (s.dat.getD i 0)) (fun i => s.dat.getD i 0) s.dat.length k = (s.dat.map (Sm.ampF s.bits num den)).map (Value.int .i64) by
        rw [show k = s.dat.length by omega]
        exact mrow_full _ _ (by simp) fun i hi => by simp [List.getD_eq_getElem?_getD, hi])
      have HOd := Lib.hid (show OwnC wr B g (s.dat.map (Sm.ampF s.bits num den)) c by
        unfold OwnC
        rw [List.length_map, ← HE.out]
        exact HR.out)
      obtain ⟨y0, y1, y2, y3, y4, y5, y6, y7, y8, y9, y10, y11, y12⟩ := HX.out
      obtain ⟨⟨x0, x1, x2, x3, x4, x5, x6, x7, x8, x9, x10, x11, x12⟩, ⟨z0, z1, z2, z3, z4, z5, z6, z7, z8, z9, z10, z11, z12⟩, fz1, fz2⟩ := HT.out
      go_wp2
      refine bodyPost_ret (v := .tuple #[SV (Sm.amp s num den) (some ⟨g, 0, none⟩) c, .int .i64 0]) ?_ rfl ⟨⟨g, c, rfl, ?_, hwg⟩, Below13 hbw.out (by omega)⟩
      · simp [results, Try.results31, go_sem, SV, Sm.amp, Sm.mpp, z0, z1, z2, z3, z4, z5, z6, z7, z8, z9, z10, z11, z12]
      · iterate 13 (refine dat_store ?_ (Ne.symm nbg1) _ _)
        exact HOd.out.dat
end Go.Proofs.Ytmaldhjcdkidmaa
