/-
  Contracts of the law package's Copy: a sample in new memory; nothing that was there is changed.
-/
import Derived.Test.YtmaldhjcdkidmaaTwo
import Derived.Test.YtmaldhjcdkidmaaPUnroll
import Derived.Laws.CopyOwn
import Derived.Outline
namespace Go.Proofs.Ytmaldhjcdkidmaa
open Go.RowKit

/-- A sample's copy in new memory, with a frame of spare capacity. -/
def Cop (w : World) (g : Nat) (s : Sm.Smp) : Prop := DatAt w (some ⟨g, 0, none⟩) s.dat ∧ w.cell? ⟨g, s.dat.length, none⟩ = some (.int .i64 77)
theorem Cop.store {w : World} {g r : Nat} {s : Sm.Smp} (h : Cop w g s) (hr : g ≠ r) (j : Nat) (v : Value) : Cop (w.setCell ⟨r, j, none⟩ v) g s := by
  have e : ∀ i, (w.setCell ⟨r, j, none⟩ v).cell? ⟨g, i, none⟩ = w.cell? ⟨g, i, none⟩ := fun i => World.cell?_setCell_other _ _ _ _ (fun h => hr (congrArg Addr.block h).symm)
  refine ⟨?_, by rw [e]; exact h.2⟩
  rcases h.1 with h | ⟨b, off, hp, hl, hc⟩
  · exact .inl h
  · simp only [Option.some.injEq, Addr.mk.injEq, and_true] at hp
    obtain ⟨rfl, rfl⟩ := hp
    exact .inr ⟨_, _, rfl, by simpa [World.setCell] using hl, fun i hi => by rw [e]; exact hc i hi⟩
def RetCopy (s : Sm.Smp) (e : Ending) (w' : World) : Prop := ∃ g, e = .returned (SV s (some ⟨g, 0, none⟩) (s.dat.length + 1)) ∧ Cop w' g s
theorem dat_src {w : World} {p : Option Addr} {zs : List Int} (h : DatAt w p zs) (hp : 0 < (zs.map (Value.int .i64)).length) : ∃ ad, p = some ad ∧ ∀ j v, (zs.map (Value.int .i64))[j]? = some v → w.cell? (ad.add j) = some v := by
  rcases h with rfl | ⟨b, off, hp', _, hc⟩
  · simp at hp
  · refine ⟨_, hp', fun j v hv => ?_⟩
    have hj : j < zs.length := by
      have := (List.getElem?_eq_some_iff.1 hv).1
      simpa using this
    have e : Addr.add ⟨b, off, none⟩ j = ⟨b, off + j, none⟩ := by
      unfold Addr.add
      by_cases h : j = 0 <;> simp [h]
    rw [e, hc j hj, ← hv]
    simp [hj, List.getD_eq_getElem?_getD]
theorem row_heap {w : World} {B g n : Nat} {xs : List Value} (h : w.ownsRow B 3 1 (.slice (some ⟨g, 0, none⟩) n n) n xs) (_hx : xs.length = n) : ∃ cur : Array Value, w.heap[g]? = some (.cells cur 3 (0, 0)) ∧ cur.size = n := by
  rcases h.2 with ⟨h', _⟩ | ⟨g', cap', cur, h', _, hg, hnc, _, hcs, htake⟩
  · simp at h'
  · simp only [Value.slice.injEq, Option.some.injEq, Addr.mk.injEq, and_true, true_and] at h'
    obtain ⟨rfl, rfl⟩ := h'
    exact ⟨cur, hg, by omega⟩
theorem cop_of {w : World} {g : Nat} {s : Sm.Smp} {cur : List Value} (h : w.heap[g]? = some (.cells (splice cur 0 (s.dat.map (Value.int .i64))).toArray 3 (0, 0))) (hx : cur.length = s.dat.length + 1) :
    (∃ u, w.cell? ⟨g, s.dat.length, none⟩ = some u) ∧ w.frozen? ⟨g, s.dat.length, none⟩ = false ∧ Cop (w.setCell ⟨g, s.dat.length, none⟩ (.int .i64 77)) g s := by
  have hlen : (splice cur 0 (s.dat.map (Value.int .i64))).length = s.dat.length + 1 := by rw [length_splice _ _ _ (by simp; omega), hx]
  have hlt : s.dat.length < (splice cur 0 (s.dat.map (Value.int .i64))).toArray.size := by simp [hlen]
  have hcell : ∃ u, w.cell? ⟨g, s.dat.length, none⟩ = some u := ⟨_, (cell_of_row w g _ _ _ _ h).trans (Array.getElem?_eq_getElem hlt)⟩
  obtain ⟨u, hu⟩ := hcell
  refine ⟨⟨u, hu⟩, frozen_of_row w g _ _ _ h, ?_, World.cell?_setCell_same _ _ _ hu⟩
  refine .inr ⟨g, 0, rfl, by simpa [World.setCell] using cell_lt hu, fun i hi => ?_⟩
  rw [World.cell?_setCell_other _ _ _ _ (fun e => by have := congrArg Addr.off e; simp at this; omega), Nat.zero_add, cell_of_row w g i _ _ _ h]
  simp only [splice, List.take_zero, List.nil_append, List.getElem?_toArray]
  rw [List.getElem?_append_left (by simpa using hi)]
  simp [hi, List.getD_eq_getElem?_getD]
set_option maxHeartbeats 1600000 in
theorem l_copy (s : Sm.Smp) (p : Option Addr) (cap : Nat) (w : World) (hd : DatAt w p s.dat) (hl : (s.dat.length : Int) ≤ 17592186044414) :
    Calls Try.prog 10 #[SV s p cap] w fun x w' => RetCopy s x w' ∧ Below w.heap.size w w' := by
  obtain ⟨i0, hi, hz0, hz1, hz2⟩ := info_parts Try.infoInt
  have hsz : (Try.prog.info? 3).map (·.size) = some 1 := by kernel_rfl
  have HSZ := Lib.hid hsz
  have HD := Lib.hid ((hd.below (below_box w (.cells #[.string s.name, .slice p s.dat.length cap, .int .i64 s.bits, .int .i64 s.rate, .int .i64 s.vol, .int .i64 s.pan, .int .i64 s.fine, .int .i64 s.loop, .int .i64 s.start, .int .i64 s.fin, .int .i64 s.sus, .int .i64 s.sstart, .int .i64 s.sfin] 24))).below (below_box _ (.cells #[.string ByteArray.empty, .slice none 0 0, .int .i64 0, .int .i64 0, .int .i64 0, .int .i64 0, .int .i64 0, .int .i64 0, .int .i64 0, .int .i64 0, .int .i64 0, .int .i64 0, .int .i64 0] 24)))
  clear hd hsz
  have HT0 := Lib.hid (two_new w s p cap)
  unfold SV
  go_enter Try.func10, Try.ntmps10
  go_wp2_with (first | (at_make; refine wpList_make_full _ rfl _ _ 22 rfl w.heap.size 3 i0 (.int .i64 0) 1 Try.underlying22 hi hz0 hz1 .i64 .i64 _ _ (s.dat.length + 1) rfl rfl (by omega) (by omega) (by rw [hz2]; omega) (by unfold maxLen; omega) (by simp; omega) ?_; intro w3 hown3 hgrow3; have hb3 := grown_below hgrow3; clear hgrow3; have HT3 := Lib.hid (HT0.out.kept hb3 (by simp)); obtain ⟨⟨x0, x1, x2, x3, x4, x5, x6, x7, x8, x9, x10, x11, x12⟩, ⟨z0, z1, z2, z3, z4, z5, z6, z7, z8, z9, z10, z11, z12⟩, f1, f2⟩ := HT3.out; obtain ⟨cur, hcur, hcsz⟩ := row_heap hown3 (by rw [hown3.1]; omega); have HCUR := Lib.hid (show w3.heap[w.heap.size + 2]? = some (.cells cur.toList.toArray 3 (0, 0)) by simpa using hcur); have HCS := Lib.hid (show cur.toList.length = s.dat.length + 1 by simpa using hcsz); clear hown3 hcur hcsz) | (refine wpList_copy_splice rfl (.tmp 9) (.tmp 11) 22 22 rfl 3 Try.underlying22 HSZ.out (some ⟨w.heap.size + 2, 0, none⟩) p (s.dat.length + 1) (s.dat.length + 1) s.dat.length cap rfl rfl (w.heap.size + 2) 0 cur.toList 3 HCUR.out (s.dat.map (Value.int .i64)) (by rw [List.length_map]; exact (Nat.min_eq_left (by omega)).symm) (fun hp => ⟨rfl, dat_src (HD.out.below hb3) hp⟩) (by have := HCS.out; simp only [List.length_map]; omega) (fun v hv => by obtain ⟨z, _, rfl⟩ := List.mem_map.1 hv; rfl) (w.heap.size + 2) _ (hb3.mono (by simp)) (Nat.le_refl _) ?_; intro w4 hh4 hb4; have HT4 := Lib.hid (HT0.out.kept hb4 (by omega)); obtain ⟨⟨x0, x1, x2, x3, x4, x5, x6, x7, x8, x9, x10, x11, x12⟩, ⟨z0, z1, z2, z3, z4, z5, z6, z7, z8, z9, z10, z11, z12⟩, f1, f2⟩ := HT4.out; obtain ⟨⟨u4, a0⟩, a1, hcop⟩ := cop_of hh4.out HCS.out; have HCOP := Lib.hid hcop; have HT5 := Lib.hid (HT4.out.store (r := w.heap.size + 2) (by omega) (by omega) s.dat.length (.int .i64 77)); clear hcop; obtain ⟨⟨x0, x1, x2, x3, x4, x5, x6, x7, x8, x9, x10, x11, x12⟩, ⟨z0, z1, z2, z3, z4, z5, z6, z7, z8, z9, z10, z11, z12⟩, f1, f2⟩ := HT5.out))
  refine bodyPost_ret (v := SV s (some ⟨w.heap.size + 2, 0, none⟩) (s.dat.length + 1)) ?_ rfl ⟨⟨_, rfl, ?_⟩, ?_⟩
  · simp [results, Try.results10, go_sem, SV, z0, z1, z2, z3, z4, z5, z6, z7, z8, z9, z10, z11, z12]
  · iterate 14 (refine Cop.store ?_ (by omega) _ _)
    exact HCOP.out
  · iterate 15 (refine Below.setCell ?_ (by first | (simp; done) | (simp; omega)) _)
    exact (((Below.refl _ _).alloc (Nat.le_refl _) _).alloc (by simp) _).trans (hb4.mono (by omega))
end Go.Proofs.Ytmaldhjcdkidmaa
