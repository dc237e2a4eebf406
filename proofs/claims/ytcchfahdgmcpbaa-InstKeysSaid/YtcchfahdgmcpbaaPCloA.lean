/-
  Words for an instrument that is copied. No walk.
-/
import Derived.Test.YtcchfahdgmcpbaaPRes
namespace Go.Proofs.Ytcchfahdgmcpbaa
open Go.RowKit

/-- Lies outside of the blocks b to r. -/
def Ou (b r : Nat) (p : Option Addr) (l : List (Int × Int)) : Prop := l = [] ∨ ∀ g off, p = some ⟨g, off, none⟩ → g < b ∨ r < g
/-- Whatever lies outside of the blocks b to r is as it was. -/
structure Ap (b r : Nat) (w w' : World) : Prop where
  size : w.heap.size ≤ w'.heap.size
  block : ∀ k, k < w.heap.size → k < b ∨ r < k → w'.heap[k]? = w.heap[k]?
theorem ap_below {b r : Nat} {w w' : World} (h : Below w.heap.size w w') : Ap b r w w' := ⟨h.size, fun k hk _ => h.block k hk⟩
theorem ap_set {b r g j : Nat} (w : World) (v : Value) (h1 : b ≤ g) (h2 : g ≤ r) : Ap b r w (w.setCell ⟨g, j, none⟩ v) := ⟨by simp, fun k _ ho => Below.heap_setCell w ⟨g, j, none⟩ v k (by show k ≠ g; omega)⟩
theorem ap_grown {b r g : Nat} {w w' : World} (h : w.grownBy w' (some g)) (h1 : b ≤ g) (h2 : g ≤ r) : Ap b r w w' := ⟨h.size, fun k hk ho => h.block k hk (by simp; omega)⟩
theorem PtsAt.ap {b r : Nat} {w w' : World} {p : Option Addr} {l : List (Int × Int)} (h : PtsAt w p l) (ho : Ou b r p l) (ha : Ap b r w w') : PtsAt w' p l := by
  rcases h with h | ⟨g, off, hp, hl, hc⟩
  · exact .inl h
  · rcases ho with h | ho
    · exact .inl h
    · have hg := ho g off hp
      have e : ∀ j, w'.cell? ⟨g, j, none⟩ = w.cell? ⟨g, j, none⟩ := fun j => World.cell?_of_block (ha.block g hl hg)
      exact .inr ⟨g, off, hp, Nat.lt_of_lt_of_le hl ha.size, fun i hi => by rw [e, e]; exact hc i hi⟩
theorem Kr.ap {b r g : Nat} {w w' : World} {l : List (Int × Int)} (h : Kr w g l) (hg : g < b ∨ r < g) (ha : Ap b r w w') : Kr w' g l := by
  have e : ∀ j, w'.cell? ⟨g, j, none⟩ = w.cell? ⟨g, j, none⟩ := fun j => World.cell?_of_block (ha.block g h.1 hg)
  have f : ∀ j, w'.frozen? ⟨g, j, none⟩ = w.frozen? ⟨g, j, none⟩ := fun j => World.frozen?_of_block (ha.block g h.1 hg)
  refine ⟨Nat.lt_of_lt_of_le h.1 ha.size, fun i hi => ?_⟩
  rw [e, e, f, f]
  exact h.2 i hi
theorem ou_old {b r : Nat} {w : World} {p : Option Addr} {l : List (Int × Int)} (h : PtsAt w p l) (hb : w.heap.size ≤ b) : Ou b r p l := by
  rcases h with h | ⟨g, off, hp, hl, hc⟩
  · exact .inl h
  · refine .inr fun g' off' hp' => ?_
    rw [hp] at hp'
    simp at hp'
    omega
theorem ou_new {b r B : Nat} {w : World} {p : Option Addr} {l : List (Int × Int)} (h : l ≠ [] → ∃ g, p = some ⟨g, 0, none⟩ ∧ B ≤ g ∧ Kr w g l) (hb : r < B) : Ou b r p l := by
  by_cases e : l = []
  · exact .inl e
  · obtain ⟨g, hp, hg, _⟩ := h e
    refine .inr fun g' off' hp' => ?_
    rw [hp] at hp'
    simp at hp'
    omega
theorem set_range {w : World} {b j : Nat} {cs : List Value} {v : Value} (h : w.rangeAt b 0 cs) : (w.setCell ⟨b, j, none⟩ v).rangeAt b 0 (cs.set j v) := by
  intro k u hu
  rw [Nat.zero_add]
  by_cases e : j = k
  · subst e
    have hk : j < cs.length := by
      have := (List.getElem?_eq_some_iff.1 hu).1
      rwa [List.length_set] at this
    rw [List.getElem?_set_self hk] at hu
    have h0 := h j _ (List.getElem?_eq_getElem hk)
    rw [Nat.zero_add] at h0
    rw [World.cell?_setCell_same _ _ _ h0]
    exact hu
  · rw [List.getElem?_set_ne e] at hu
    have h0 := h k u hu
    rw [Nat.zero_add] at h0
    rw [World.cell?_setCell_other _ _ _ _ (fun x => e (congrArg Addr.off x))]
    exact h0
theorem set_there {w : World} {b n : Nat} {a : Addr} {v : Value} (h : w.there b 0 n) : (w.setCell a v).there b 0 n := by
  intro j hj
  obtain ⟨h1, h2⟩ := h j hj
  refine ⟨?_, by simpa using h2⟩
  obtain ⟨u, hu⟩ := Option.isSome_iff_exists.1 h1
  by_cases e : a = ⟨b, 0 + j, none⟩
  · subst e
    rw [World.cell?_setCell_same _ _ _ hu]
    rfl
  · rw [World.cell?_setCell_other _ _ _ _ e, hu]
    rfl
theorem there_kept {w w' : World} {b n : Nat} (h : w.there b 0 (n + 1)) (hb : Below w.heap.size w w') : w'.there b 0 (n + 1) := there_below h hb (there_lt h)
/-- A copy under way: the instrument lies in block b, block r waits for the result, block s has the three addresses. -/
structure Cl (w0 : World) (b r : Nat) (i : In.Ins) (a : In.Loc) (w : World) : Prop where
  rng : w.rangeAt b 0 (IL i a)
  th : w.there b 0 33
  res : w.there r 0 33
  pk : PtsAt w a.k i.keys ∧ Ou b r a.k i.keys
  pv : PtsAt w a.v i.vol.pts ∧ Ou b r a.v i.vol.pts
  pp : PtsAt w a.p i.pan.pts ∧ Ou b r a.p i.pan.pts
  pt : PtsAt w a.t i.pit.pts ∧ Ou b r a.t i.pit.pts
  blw : Below b w0 w
/-- The keys are new. -/
def Nk (r : Nat) (i : In.Ins) (a : In.Loc) (w : World) : Prop := i.keys ≠ [] → ∃ g, a.k = some ⟨g, 0, none⟩ ∧ r < g ∧ Kr w g i.keys ∧ Ou g g a.v i.vol.pts ∧ Ou g g a.p i.pan.pts ∧ Ou g g a.t i.pit.pts
/-- Which points are new already. -/
def Nw (r k : Nat) (i : In.Ins) (a : In.Loc) : Prop := (1 ≤ k → Ou 0 r a.v i.vol.pts) ∧ (2 ≤ k → Ou 0 r a.p i.pan.pts) ∧ (3 ≤ k → Ou 0 r a.t i.pit.pts)
theorem Cl.kept {w0 w w' : World} {b r : Nat} {i : In.Ins} {a : In.Loc} (h : Cl w0 b r i a w) (hb : Below w.heap.size w w') : Cl w0 b r i a w' :=
  ⟨range_kept h.rng hb, there_kept h.th hb, there_kept h.res hb, ⟨h.pk.1.below hb, h.pk.2⟩, ⟨h.pv.1.below hb, h.pv.2⟩, ⟨h.pp.1.below hb, h.pp.2⟩, ⟨h.pt.1.below hb, h.pt.2⟩, h.blw.trans (hb.mono (Nat.le_of_lt (range_lt h.rng)))⟩
theorem Nk.kept {r : Nat} {i : In.Ins} {a : In.Loc} {w w' : World} (h : Nk r i a w) (hb : Below w.heap.size w w') : Nk r i a w' := fun hn => by
  obtain ⟨g, h1, h2, h3, h4⟩ := h hn
  exact ⟨g, h1, h2, h3.kept hb, h4⟩
theorem Nk.ap {b r : Nat} {i : In.Ins} {a : In.Loc} {w w' : World} (h : Nk r i a w) (ha : Ap b r w w') : Nk r i a w' := fun hn => by
  obtain ⟨g, h1, h2, h3, h4⟩ := h hn
  exact ⟨g, h1, h2, h3.ap (.inr h2) ha, h4⟩
theorem Cl.set_k {w0 w : World} {b r : Nat} {i : In.Ins} {a : In.Loc} (h : Cl w0 b r i a w) (hbr : b ≤ r) {p : Option Addr} (c : Nat) (hp : PtsAt w p i.keys) (hn : Ou b r p i.keys) : Cl w0 b r i { a with k := p, ck := c } (w.setCell ⟨b, 1, none⟩ (.slice p i.keys.length c)) :=
  have A : Ap b r w (w.setCell ⟨b, 1, none⟩ (.slice p i.keys.length c)) := ap_set w _ (Nat.le_refl b) hbr
  ⟨set_range (j := 1) (cs := IL i a) h.rng, set_there h.th, set_there h.res, ⟨hp.ap hn A, hn⟩, ⟨h.pv.1.ap h.pv.2 A, h.pv.2⟩, ⟨h.pp.1.ap h.pp.2 A, h.pp.2⟩, ⟨h.pt.1.ap h.pt.2 A, h.pt.2⟩, h.blw.setCell (p := ⟨b, 1, none⟩) (Nat.le_refl b) _⟩
theorem Cl.set_v {w0 w : World} {b r : Nat} {i : In.Ins} {a : In.Loc} (h : Cl w0 b r i a w) (hbr : b ≤ r) {p : Option Addr} (c : Nat) (hp : PtsAt w p i.vol.pts) (hn : Ou b r p i.vol.pts) : Cl w0 b r i { a with v := p, cv := c } (w.setCell ⟨b, 3, none⟩ (.slice p i.vol.pts.length c)) :=
  have A : Ap b r w (w.setCell ⟨b, 3, none⟩ (.slice p i.vol.pts.length c)) := ap_set w _ (Nat.le_refl b) hbr
  ⟨set_range (j := 3) (cs := IL i a) h.rng, set_there h.th, set_there h.res, ⟨h.pk.1.ap h.pk.2 A, h.pk.2⟩, ⟨hp.ap hn A, hn⟩, ⟨h.pp.1.ap h.pp.2 A, h.pp.2⟩, ⟨h.pt.1.ap h.pt.2 A, h.pt.2⟩, h.blw.setCell (p := ⟨b, 3, none⟩) (Nat.le_refl b) _⟩
theorem Cl.set_p {w0 w : World} {b r : Nat} {i : In.Ins} {a : In.Loc} (h : Cl w0 b r i a w) (hbr : b ≤ r) {p : Option Addr} (c : Nat) (hp : PtsAt w p i.pan.pts) (hn : Ou b r p i.pan.pts) : Cl w0 b r i { a with p := p, cp := c } (w.setCell ⟨b, 11, none⟩ (.slice p i.pan.pts.length c)) :=
  have A : Ap b r w (w.setCell ⟨b, 11, none⟩ (.slice p i.pan.pts.length c)) := ap_set w _ (Nat.le_refl b) hbr
  ⟨set_range (j := 11) (cs := IL i a) h.rng, set_there h.th, set_there h.res, ⟨h.pk.1.ap h.pk.2 A, h.pk.2⟩, ⟨h.pv.1.ap h.pv.2 A, h.pv.2⟩, ⟨hp.ap hn A, hn⟩, ⟨h.pt.1.ap h.pt.2 A, h.pt.2⟩, h.blw.setCell (p := ⟨b, 11, none⟩) (Nat.le_refl b) _⟩
theorem Cl.set_t {w0 w : World} {b r : Nat} {i : In.Ins} {a : In.Loc} (h : Cl w0 b r i a w) (hbr : b ≤ r) {p : Option Addr} (c : Nat) (hp : PtsAt w p i.pit.pts) (hn : Ou b r p i.pit.pts) : Cl w0 b r i { a with t := p, ct := c } (w.setCell ⟨b, 19, none⟩ (.slice p i.pit.pts.length c)) :=
  have A : Ap b r w (w.setCell ⟨b, 19, none⟩ (.slice p i.pit.pts.length c)) := ap_set w _ (Nat.le_refl b) hbr
  ⟨set_range (j := 19) (cs := IL i a) h.rng, set_there h.th, set_there h.res, ⟨h.pk.1.ap h.pk.2 A, h.pk.2⟩, ⟨h.pv.1.ap h.pv.2 A, h.pv.2⟩, ⟨h.pp.1.ap h.pp.2 A, h.pp.2⟩, ⟨hp.ap hn A, hn⟩, h.blw.setCell (p := ⟨b, 19, none⟩) (Nat.le_refl b) _⟩
theorem Nk.set_v {r B : Nat} {i : In.Ins} {a : In.Loc} {w w' : World} (h : Nk r i a w) {p : Option Addr} (c : Nat) (hB : w.heap.size ≤ B) (hp : i.vol.pts ≠ [] → ∃ g, p = some ⟨g, 0, none⟩ ∧ B ≤ g ∧ Kr w' g i.vol.pts) : Nk r i { a with v := p, cv := c } w := fun hn => by
  obtain ⟨g, h1, h2, h3, h4, h5, h6⟩ := h hn
  have ou_new := fun hp (hg : g < w.heap.size) => ou_new (b := g) (r := g) (B := B) (w := w') (p := p) (l := i.vol.pts) hp (Nat.lt_of_lt_of_le hg hB)
  exact ⟨g, h1, h2, h3, ou_new hp h3.1, h5, h6⟩
theorem Nk.set_p {r B : Nat} {i : In.Ins} {a : In.Loc} {w w' : World} (h : Nk r i a w) {p : Option Addr} (c : Nat) (hB : w.heap.size ≤ B) (hp : i.pan.pts ≠ [] → ∃ g, p = some ⟨g, 0, none⟩ ∧ B ≤ g ∧ Kr w' g i.pan.pts) : Nk r i { a with p := p, cp := c } w := fun hn => by
  obtain ⟨g, h1, h2, h3, h4, h5, h6⟩ := h hn
  have ou_new := fun hp (hg : g < w.heap.size) => ou_new (b := g) (r := g) (B := B) (w := w') (p := p) (l := i.pan.pts) hp (Nat.lt_of_lt_of_le hg hB)
  exact ⟨g, h1, h2, h3, h4, ou_new hp h3.1, h6⟩
theorem Nk.set_t {r B : Nat} {i : In.Ins} {a : In.Loc} {w w' : World} (h : Nk r i a w) {p : Option Addr} (c : Nat) (hB : w.heap.size ≤ B) (hp : i.pit.pts ≠ [] → ∃ g, p = some ⟨g, 0, none⟩ ∧ B ≤ g ∧ Kr w' g i.pit.pts) : Nk r i { a with t := p, ct := c } w := fun hn => by
  obtain ⟨g, h1, h2, h3, h4, h5, h6⟩ := h hn
  have ou_new := fun hp (hg : g < w.heap.size) => ou_new (b := g) (r := g) (B := B) (w := w') (p := p) (l := i.pit.pts) hp (Nat.lt_of_lt_of_le hg hB)
  exact ⟨g, h1, h2, h3, h4, h5, ou_new hp h3.1⟩
/-- Lies in memory that is new. -/
def On (B : Nat) (p : Option Addr) (l : List (Int × Int)) : Prop := l = [] ∨ ∀ g off, p = some ⟨g, off, none⟩ → B ≤ g
theorem ou_on {B r : Nat} {p : Option Addr} {l : List (Int × Int)} (h : Ou 0 r p l) (hB : B ≤ r) : On B p l := by
  rcases h with h | h
  · exact .inl h
  · exact .inr fun g off hp => by have := h g off hp; omega
theorem nw_step {r : Nat} {p : Option Addr} {l : List (Int × Int)} {B : Nat} {w : World} (hp : l ≠ [] → ∃ g, p = some ⟨g, 0, none⟩ ∧ B ≤ g ∧ Kr w g l) (hB : r < B) : Ou 0 r p l := ou_new hp hB
/-- What a call hands back: the instrument, in memory of its own; its keys may be written. -/
def RetC (i : In.Ins) (B : Nat) (e : Ending) (w' : World) : Prop := ∃ a, e = .returned (.agg (IL i a).toArray) ∧ IPts w' i a ∧ (On B a.v i.vol.pts ∧ On B a.p i.pan.pts ∧ On B a.t i.pit.pts) ∧ (i.keys ≠ [] → ∃ g, a.k = some ⟨g, 0, none⟩ ∧ B ≤ g ∧ Kr w' g i.keys ∧ Ou g g a.v i.vol.pts ∧ Ou g g a.p i.pan.pts ∧ Ou g g a.t i.pit.pts)
/-- The three addresses. -/
def Ps (w : World) (s b : Nat) : Prop := s < w.heap.size ∧ w.cell? ⟨s, 0, none⟩ = some (.pointer (some ⟨b, 2, none⟩)) ∧ w.cell? ⟨s, 1, none⟩ = some (.pointer (some ⟨b, 10, none⟩)) ∧ w.cell? ⟨s, 2, none⟩ = some (.pointer (some ⟨b, 18, none⟩))
theorem ps_new (w : World) (b : Nat) (t : TypeId) : Ps (w.alloc (.cells #[.pointer (some ⟨b, 2, none⟩), .pointer (some ⟨b, 10, none⟩), .pointer (some ⟨b, 18, none⟩)] t)) w.heap.size b := by
  refine ⟨by simp, ?_, ?_, ?_⟩ <;> simp [World.cell?_alloc_new]
theorem Ps.kept {w w' : World} {s b : Nat} (h : Ps w s b) (hb : Below w.heap.size w w') : Ps w' s b := by
  obtain ⟨h0, h1, h2, h3⟩ := h
  exact ⟨Nat.lt_of_lt_of_le h0 hb.size, kept_cell hb h1, kept_cell hb h2, kept_cell hb h3⟩
theorem Ps.set {w : World} {s b j : Nat} {v : Value} (h : Ps w s b) (hs : b < s) : Ps (w.setCell ⟨b, j, none⟩ v) s b := by
  obtain ⟨h0, h1, h2, h3⟩ := h
  have e : ∀ k, (w.setCell ⟨b, j, none⟩ v).cell? ⟨s, k, none⟩ = w.cell? ⟨s, k, none⟩ := fun k => World.cell?_setCell_other _ _ _ _ (fun x => by have : b = s := congrArg Addr.block x; omega)
  exact ⟨by simpa using h0, by rw [e]; exact h1, by rw [e]; exact h2, by rw [e]; exact h3⟩
end Go.Proofs.Ytcchfahdgmcpbaa
