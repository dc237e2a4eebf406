/-
  The contract of the reference's fresh.
-/
import Derived.Test.YtmaldhjcdkidmaaRefChgA
import Derived.Test.YtmaldhjcdkidmaaGrow
import Derived.Test.YtmaldhjcdkidmaaPCrp
import Derived.Laws.AppendOwnNone
namespace Go.Proofs.Ytmaldhjcdkidmaa
open Go.RowKit

/-- Numbers in memory of one's own with a capacity, made since the block B. -/
def OwnC (w : World) (B g : Nat) (l : List Int) (c : Nat) : Prop := w.ownsRow B 3 1 (.slice (some ⟨g, 0, none⟩) l.length c) l.length (l.map (Value.int .i64))
theorem OwnC.lt {w : World} {B g c : Nat} {l : List Int} (h : OwnC w B g l c) : g < w.heap.size := (World.ownsRow.lt h g rfl).2
theorem OwnC.ge {w : World} {B g c : Nat} {l : List Int} (h : OwnC w B g l c) : B ≤ g := (World.ownsRow.lt h g rfl).1
theorem OwnC.kept {w w' : World} {B g c : Nat} {l : List Int} (h : OwnC w B g l c) (hb : Below w.heap.size w w') : OwnC w' B g l c :=
  World.ownsRow.kept (row := none) h ⟨hb.os, hb.tape, hb.output, hb.size, fun k hk _ => hb.block k hk⟩ (.inr (by simp [Value.ownBlock]))
theorem OwnC.store {w : World} {B g c : Nat} {l : List Int} (h : OwnC w B g l c) {b : Nat} (hb : g ≠ b) (j : Nat) (v : Value) : OwnC (w.setCell ⟨b, j, none⟩ v) B g l c :=
  ownsRow_setCell_other h (by simp [Value.ownBlock, hb]) v
theorem OwnC.dat {w : World} {B g c : Nat} {l : List Int} (h : OwnC w B g l c) : DatAt w (some ⟨g, 0, none⟩) l := by
  refine .inr ⟨g, 0, rfl, h.lt, fun i hi => ?_⟩
  rw [Nat.zero_add, World.ownsRow.cellAt h i (by omega)]
  simp [hi, List.getD_eq_getElem?_getD]
theorem OwnC.mono {w : World} {B C g c : Nat} {l : List Int} (h : OwnC w B g l c) (hc : C ≤ B) : OwnC w C g l c := by
  obtain ⟨h1, h2⟩ := h
  refine ⟨h1, ?_⟩
  rcases h2 with h2 | ⟨g', c', cur, e1, e2, e3⟩
  · exact .inl h2
  · exact .inr ⟨g', c', cur, e1, Nat.le_trans hc e2, e3⟩
/-- A call has returned this sample, its frames in memory of their own. -/
def RetF (s : Sm.Smp) (B : Nat) (e : Ending) (w' : World) : Prop := ∃ g c, e = .returned (SV s (some ⟨g, 0, none⟩) c) ∧ OwnC w' B g s.dat c
theorem own_some {w : World} {B n : Nat} {v : Value} {xs : List Value} (h : w.ownsRow B 3 1 v n xs) (hn : v ≠ .slice none 0 0) : ∃ g c, v = .slice (some ⟨g, 0, none⟩) n c := by
  rcases h.2 with ⟨rfl, _⟩ | ⟨g, cap, cur, rfl, _⟩
  · exact absurd rfl hn
  · exact ⟨g, cap, rfl⟩
theorem own_empty (w : World) : (w.alloc (.cells #[] 3)).ownsRow w.heap.size 3 1 (.slice (some ⟨w.heap.size, 0, none⟩) 0 0) 0 [] :=
  ⟨rfl, .inr ⟨w.heap.size, 0, #[], rfl, Nat.le_refl _, heap_alloc_new _ _, Nat.le_refl _, by unfold maxLen; omega, rfl, rfl⟩⟩
set_option maxHeartbeats 1600000 in
theorem r_fresh_some (s : Sm.Smp) (ad : Addr) (cap : Nat) (w : World) (hd : DatAt w (some ad) s.dat) (hl : (s.dat.length : Int) ≤ 4096) :
    Calls Try.prog 65 #[SV s (some ad) cap] w fun x w' => RetF s w.heap.size x w' ∧ Below w.heap.size w w' := by
  have HT0 := Lib.hid (show Two ((((w.alloc (.cells #[.string s.name, .slice (some ad) s.dat.length cap, .int .i64 s.bits, .int .i64 s.rate, .int .i64 s.vol, .int .i64 s.pan, .int .i64 s.fine, .int .i64 s.loop, .int .i64 s.start, .int .i64 s.fin, .int .i64 s.sus, .int .i64 s.sstart, .int .i64 s.sfin] 24))).alloc (.cells #[.string { data := #[] }, .slice none 0 0, .int .i64 0, .int .i64 0, .int .i64 0, .int .i64 0, .int .i64 0, .int .i64 0, .int .i64 0, .int .i64 0, .int .i64 0, .int .i64 0, .int .i64 0] 24)).alloc (.cells #[] 3)) w.heap.size s (some ad) cap from (two_new w s (some ad) cap).kept (B := w.heap.size + 2) ((Below.refl _ _).alloc (by simp) _) (by omega))
  have HB0 := Lib.hid (show Below w.heap.size w ((((w.alloc (.cells #[.string s.name, .slice (some ad) s.dat.length cap, .int .i64 s.bits, .int .i64 s.rate, .int .i64 s.vol, .int .i64 s.pan, .int .i64 s.fine, .int .i64 s.loop, .int .i64 s.start, .int .i64 s.fin, .int .i64 s.sus, .int .i64 s.sstart, .int .i64 s.sfin] 24))).alloc (.cells #[.string { data := #[] }, .slice none 0 0, .int .i64 0, .int .i64 0, .int .i64 0, .int .i64 0, .int .i64 0, .int .i64 0, .int .i64 0, .int .i64 0, .int .i64 0, .int .i64 0, .int .i64 0] 24)).alloc (.cells #[] 3)) from (((Below.refl w.heap.size w).alloc (Nat.le_refl _) _).alloc (by simp) _).alloc (by simp; omega) _)
  have HOE := Lib.hid (show ((((w.alloc (.cells #[.string s.name, .slice (some ad) s.dat.length cap, .int .i64 s.bits, .int .i64 s.rate, .int .i64 s.vol, .int .i64 s.pan, .int .i64 s.fine, .int .i64 s.loop, .int .i64 s.start, .int .i64 s.fin, .int .i64 s.sus, .int .i64 s.sstart, .int .i64 s.sfin] 24))).alloc (.cells #[.string { data := #[] }, .slice none 0 0, .int .i64 0, .int .i64 0, .int .i64 0, .int .i64 0, .int .i64 0, .int .i64 0, .int .i64 0, .int .i64 0, .int .i64 0, .int .i64 0, .int .i64 0] 24)).alloc (.cells #[] 3)).ownsRow (w.heap.size + 2) 3 1 (.slice (some ⟨w.heap.size + 2, 0, none⟩) 0 0) 0 [] by
    have := own_empty ((w.alloc (.cells #[.string s.name, .slice (some ad) s.dat.length cap, .int .i64 s.bits, .int .i64 s.rate, .int .i64 s.vol, .int .i64 s.pan, .int .i64 s.fine, .int .i64 s.loop, .int .i64 s.start, .int .i64 s.fin, .int .i64 s.sus, .int .i64 s.sstart, .int .i64 s.sfin] 24)).alloc (.cells #[.string { data := #[] }, .slice none 0 0, .int .i64 0, .int .i64 0, .int .i64 0, .int .i64 0, .int .i64 0, .int .i64 0, .int .i64 0, .int .i64 0, .int .i64 0, .int .i64 0, .int .i64 0] 24))
    simpa using this)
  have HSrc := Lib.hid (show ∀ j u, (s.dat.map (Value.int .i64))[j]? = some u → ((((w.alloc (.cells #[.string s.name, .slice (some ad) s.dat.length cap, .int .i64 s.bits, .int .i64 s.rate, .int .i64 s.vol, .int .i64 s.pan, .int .i64 s.fine, .int .i64 s.loop, .int .i64 s.start, .int .i64 s.fin, .int .i64 s.sus, .int .i64 s.sstart, .int .i64 s.sfin] 24))).alloc (.cells #[.string { data := #[] }, .slice none 0 0, .int .i64 0, .int .i64 0, .int .i64 0, .int .i64 0, .int .i64 0, .int .i64 0, .int .i64 0, .int .i64 0, .int .i64 0, .int .i64 0, .int .i64 0] 24)).alloc (.cells #[] 3)).cell? (ad.add j) = some u from fun j u hu => by
    obtain ⟨ad', e, h⟩ := dat_src (hd.below HB0.out) (by have := (List.getElem?_eq_some_iff.1 hu).1; omega)
    cases e
    exact h j u hu)
  have HOne := Lib.hid (show ∀ u ∈ s.dat.map (Value.int .i64), u.oneCell' = true from fun u hu => by obtain ⟨z, _, rfl⟩ := List.mem_map.1 hu; rfl)
  obtain ⟨i0, hinf, hz0, hz1, hz2⟩ := info_parts Try.infoInt
  clear hd
  unfold SV
  go_enter Try.func65, Try.ntmps65
  go_wp2_with (first | (at_builtin; refine wpList_append_own _ rfl (.tmp 3) (.tmp 5) 22 rfl (w.heap.size + 2) 3 i0 (.int .i64 0) 1 8 Try.underlying22 hinf hz0 hz1 hz2 rfl (by decide) (.slice (some ⟨w.heap.size + 2, 0, none⟩) 0 0) 0 [] rfl HOE.out ad s.dat.length cap (s.dat.map (Value.int .i64)) rfl (by simp) HSrc.out HOne.out (by unfold maxLen; omega) (by omega) (by simp) ?_; intro v' w3 hown' hgrow hnil; have hb3 := grown_base (B := w.heap.size + 2) hgrow (fun k hk => by simp [Value.ownBlock] at hk; omega) (by simp); clear hgrow; obtain ⟨g, c, hv'⟩ := own_some hown' (fun e => by have := (hnil.1 e).1; simp at this); subst hv'; have HO3 := Lib.hid hown'; clear hown' hnil; have HT3 := Lib.hid (HT0.out.kept hb3 (by omega)); have HB3 := Lib.hid (HB0.out.trans (hb3.mono (by omega))); obtain ⟨⟨x0, x1, x2, x3, x4, x5, x6, x7, x8, x9, x10, x11, x12⟩, ⟨z0, z1, z2, z3, z4, z5, z6, z7, z8, z9, z10, z11, z12⟩, fz1, fz2⟩ := HT3.out))
  have hg : w.heap.size + 2 ≤ g := (World.ownsRow.lt HO3.out g rfl).1
  have HOC := Lib.hid (show OwnC w3 (w.heap.size + 2) g s.dat c by
    have := HO3.out
    unfold OwnC
    simpa using this)
  refine bodyPost_ret (v := SV s (some ⟨g, 0, none⟩) c) ?_ rfl ⟨⟨g, c, rfl, ?_⟩, ?_⟩
  · simp [results, Try.results65, go_sem, SV, z0, z1, z2, z3, z4, z5, z6, z7, z8, z9, z10, z11, z12]
  · iterate 14 (refine OwnC.store ?_ (by omega) _ _)
    exact HOC.out.mono (by omega)
  · iterate 14 (refine Below.setCell ?_ (by first | exact Nat.le_refl _ | exact Nat.le_succ _) _)
    exact HB3.out
set_option maxHeartbeats 1600000 in
theorem r_fresh_none (s : Sm.Smp) (w : World) (hd : s.dat = []) :
    Calls Try.prog 65 #[SV s none 0] w fun x w' => RetF s w.heap.size x w' ∧ Below w.heap.size w w' := by
  have hl : s.dat.length = 0 := by rw [hd]; rfl
  have HB0 := Lib.hid (show Below w.heap.size w ((w.alloc (.cells #[.string s.name, .slice none 0 0, .int .i64 s.bits, .int .i64 s.rate, .int .i64 s.vol, .int .i64 s.pan, .int .i64 s.fine, .int .i64 s.loop, .int .i64 s.start, .int .i64 s.fin, .int .i64 s.sus, .int .i64 s.sstart, .int .i64 s.sfin] 24)).alloc (.cells #[.string { data := #[] }, .slice none 0 0, .int .i64 0, .int .i64 0, .int .i64 0, .int .i64 0, .int .i64 0, .int .i64 0, .int .i64 0, .int .i64 0, .int .i64 0, .int .i64 0, .int .i64 0] 24)) from (((Below.refl w.heap.size w).alloc (Nat.le_refl _) _).alloc (by simp) _))
  have HOE := Lib.hid (show ((((w.alloc (.cells #[.string s.name, .slice none 0 0, .int .i64 s.bits, .int .i64 s.rate, .int .i64 s.vol, .int .i64 s.pan, .int .i64 s.fine, .int .i64 s.loop, .int .i64 s.start, .int .i64 s.fin, .int .i64 s.sus, .int .i64 s.sstart, .int .i64 s.sfin] 24))).alloc (.cells #[.string { data := #[] }, .slice none 0 0, .int .i64 0, .int .i64 0, .int .i64 0, .int .i64 0, .int .i64 0, .int .i64 0, .int .i64 0, .int .i64 0, .int .i64 0, .int .i64 0, .int .i64 0] 24)).alloc (.cells #[] 3)).ownsRow (w.heap.size + 2) 3 1 (.slice (some ⟨w.heap.size + 2, 0, none⟩) 0 0) 0 [] by
    have := own_empty ((w.alloc (.cells #[.string s.name, .slice none 0 0, .int .i64 s.bits, .int .i64 s.rate, .int .i64 s.vol, .int .i64 s.pan, .int .i64 s.fine, .int .i64 s.loop, .int .i64 s.start, .int .i64 s.fin, .int .i64 s.sus, .int .i64 s.sstart, .int .i64 s.sfin] 24)).alloc (.cells #[.string { data := #[] }, .slice none 0 0, .int .i64 0, .int .i64 0, .int .i64 0, .int .i64 0, .int .i64 0, .int .i64 0, .int .i64 0, .int .i64 0, .int .i64 0, .int .i64 0, .int .i64 0] 24))
    simpa using this)
  have HD := Lib.hid hd
  obtain ⟨i0, hinf, hz0, hz1, hz2⟩ := info_parts Try.infoInt
  unfold SV
  rw [hl]
  clear hd hl
  go_enter Try.func65, Try.ntmps65
  go_wp2_with (first | (at_builtin; refine wpList_append_own_none rfl (.tmp 3) (.tmp 5) 22 rfl (w.heap.size + 2) 3 i0 1 Try.underlying22 hinf (.slice (some ⟨w.heap.size + 2, 0, none⟩) 0 0) 0 [] rfl HOE.out rfl ?_))
  refine bodyPost_ret (v := .agg #[.string s.name, .slice (some ⟨w.heap.size + 2, 0, none⟩) 0 0, .int .i64 s.bits, .int .i64 s.rate, .int .i64 s.vol, .int .i64 s.pan, .int .i64 s.fine, .int .i64 s.loop, .int .i64 s.start, .int .i64 s.fin, .int .i64 s.sus, .int .i64 s.sstart, .int .i64 s.sfin]) ?_ rfl ⟨⟨w.heap.size + 2, 0, by simp [SV, HD.out], ?_⟩, ?_⟩
  · simp [results, Try.results65, go_sem]
  · unfold OwnC
    rw [HD.out]
    have := own_empty ((w.alloc (.cells #[.string s.name, .slice (some ⟨w.heap.size + 2, 0, none⟩) 0 0, .int .i64 s.bits, .int .i64 s.rate, .int .i64 s.vol, .int .i64 s.pan, .int .i64 s.fine, .int .i64 s.loop, .int .i64 s.start, .int .i64 s.fin, .int .i64 s.sus, .int .i64 s.sstart, .int .i64 s.sfin] 24)).alloc (.cells #[.string s.name, .slice (some ⟨w.heap.size + 2, 0, none⟩) 0 0, .int .i64 s.bits, .int .i64 s.rate, .int .i64 s.vol, .int .i64 s.pan, .int .i64 s.fine, .int .i64 s.loop, .int .i64 s.start, .int .i64 s.fin, .int .i64 s.sus, .int .i64 s.sstart, .int .i64 s.sfin] 24))
    have := OwnC.mono (l := []) (c := 0) (C := w.heap.size) (show OwnC _ _ _ [] 0 from this) (by simp; omega)
    unfold OwnC at this
    simpa using this
  · exact (((Below.refl _ _).alloc (Nat.le_refl _) _).alloc (by simp) _).alloc (by simp; omega) _
end Go.Proofs.Ytmaldhjcdkidmaa
