/-
  Package pattern's appendCell.
-/
import Derived.Test.YtfjfnbeegojlbaaDoorPAppA
import Derived.Test.YtfjfnbeegojlbaaDoorPEq
namespace Go.Proofs.YtfjfnbeegojlbaaDoor
open Go.RowKit

/-- Of what is below D only the cell at o in block bl may have changed. -/
structure Fx (D bl o : Nat) (w w' : World) : Prop where
  os : w'.os = w.os
  tape : w'.tape = w.tape
  output : w'.output = w.output
  size : w.heap.size ≤ w'.heap.size
  block : ∀ k, k < D → k ≠ bl → w'.heap[k]? = w.heap[k]?
  out : ∀ o', (o' < o ∨ o + 6 ≤ o') → w'.cell? ⟨bl, o', none⟩ = w.cell? ⟨bl, o', none⟩ ∧ w'.frozen? ⟨bl, o', none⟩ = w.frozen? ⟨bl, o', none⟩
theorem Fx.refl (D bl o : Nat) (w : World) : Fx D bl o w w := ⟨rfl, rfl, rfl, Nat.le_refl _, fun _ _ _ => rfl, fun _ _ => ⟨rfl, rfl⟩⟩
theorem Fx.grown {D bl o : Nat} {w w1 w2 : World} {r : Option Nat} (h : Fx D bl o w w1) (hg : w1.grownBy w2 r) (hr : ∀ k, r = some k → D ≤ k) (hD : D ≤ w1.heap.size) (hb : bl < D) : Fx D bl o w w2 := by
  have hbl : w2.heap[bl]? = w1.heap[bl]? := hg.block bl (by omega) (fun e => by have := hr bl e.symm; omega)
  refine ⟨hg.os.trans h.os, hg.tape.trans h.tape, hg.output.trans h.output, Nat.le_trans h.size hg.size, fun k hk hne => (hg.block k (by omega) (fun e => by have := hr k e.symm; omega)).trans (h.block k hk hne), fun o' ho => ?_⟩
  rw [World.cell?_of_block (a := ⟨bl, o', none⟩) hbl, World.frozen?_of_block (a := ⟨bl, o', none⟩) hbl]
  exact h.out o' ho
theorem Fx.below {D bl o : Nat} {w w1 w2 : World} (h : Fx D bl o w w1) (hg : Below w1.heap.size w1 w2) (hD : D ≤ w1.heap.size) (hb : bl < D) : Fx D bl o w w2 := h.grown (r := none) (grownBy_of hg) (fun _ e => by simp at e) hD hb
theorem Fx.put {D bl o : Nat} {w w1 w2 : World} {c : Pt.Cl} (h : Fx D bl o w w1) (hp : Put w1 bl o c w2) (hD : D ≤ w1.heap.size) : Fx D bl o w w2 :=
  ⟨hp.gr.os.trans h.os, hp.gr.tape.trans h.tape, hp.gr.output.trans h.output, Nat.le_trans h.size hp.gr.size, fun k hk hne => (hp.gr.block k (by omega) (by simpa using hne)).trans (h.block k hk hne), fun o' ho => by
    obtain ⟨a1, a2⟩ := hp.out o' ho
    obtain ⟨b1, b2⟩ := h.out o' ho
    exact ⟨a1.trans b1, a2.trans b2⟩⟩
theorem keepApp {W : World} {b9 b10 bl o k : Nat} {v : Int × Int} {la : Pt.Cl} (hq : W.rangeAt b10 0 (VL v)) (hp : W.rangeAt b9 0 (PK k)) (hl : W.rangeAt bl o (CL la)) {w' : World} (hb : Below W.heap.size W w') :
    Below W.heap.size W w' ∧ w'.cell? ⟨b10, 0, none⟩ = some (.int .i64 v.1) ∧ w'.cell? ⟨b10, 1, none⟩ = some (.int .i64 v.2) ∧ w'.cell? ⟨b9, 2, none⟩ = some (.func (.func (gF k)) #[] #[]) ∧ w'.cell? ⟨bl, o, none⟩ = some (.int .i64 la.nt) ∧ w'.cell? ⟨bl, o + 1, none⟩ = some (.int .i64 la.it) ∧ w'.cell? ⟨bl, o + 2, none⟩ = some (.int .i64 la.vc) ∧ w'.cell? ⟨bl, o + 3, none⟩ = some (.int .i64 la.va) ∧ w'.cell? ⟨bl, o + 4, none⟩ = some (.int .i64 la.ef) ∧ w'.cell? ⟨bl, o + 5, none⟩ = some (.int .i64 la.pa) :=
  ⟨hb, kept_cell hb (hq 0 _ rfl), kept_cell hb (hq 1 _ rfl), kept_cell hb (hp 2 _ rfl), kept_cell hb (hl 0 _ rfl), kept_cell hb (hl 1 _ rfl), kept_cell hb (hl 2 _ rfl), kept_cell hb (hl 3 _ rfl), kept_cell hb (hl 4 _ rfl), kept_cell hb (hl 5 _ rfl)⟩
/-- Where appendCell stands behind k parts. -/
structure Ac (w0 : World) (D bl o b4 : Nat) (xs : List Int) (c : Pt.Cl) (s : Pt.Ps) (g cap n : Nat) (w : World) : Prop where
  row : Br w D (.slice (some ⟨g, 0, none⟩) n cap) (xs ++ (s.m : Int) :: s.bs)
  ne : g ≠ b4
  cel : w.rangeAt b4 0 (CL c)
  las : w.rangeAt bl o (CL s.la)
  th : w.there bl o 6
  fx : Fx D bl o w0 w
  lo : D ≤ g ∧ g < w.heap.size ∧ b4 < w.heap.size ∧ D ≤ w.heap.size
theorem Ac.below {w0 w w' : World} {D bl o b4 : Nat} {xs : List Int} {c : Pt.Cl} {s : Pt.Ps} {g cap n : Nat} (h : Ac w0 D bl o b4 xs c s g cap n w) (hb : Below w.heap.size w w') (hbl : bl < D) : Ac w0 D bl o b4 xs c s g cap n w' := by
  have := h.lo
  have := hb.size
  exact ⟨h.row.kept hb, h.ne, range_below h.cel hb (by omega), range_below h.las hb (by omega), there_below h.th hb (by omega), h.fx.below hb (by omega) hbl, by omega⟩
theorem or16 {k m : Nat} (hk : k < 4) (hm : m < 256) : bits .or .u8 (m : Int) (16 * 2 ^ k % 256) = ((m ||| 16 <<< k : Nat) : Int) := by
  match k, hk with
  | 0, _ => exact u8_or_nat m 16 hm (by decide)
  | 1, _ => exact u8_or_nat m 32 hm (by decide)
  | 2, _ => exact u8_or_nat m 64 hm (by decide)
  | 3, _ => exact u8_or_nat m 128 hm (by decide)
theorem or1 {k m : Nat} (hk : k < 4) (hm : m < 256) : bits .or .u8 (m : Int) (2 ^ k % 256) = ((m ||| 1 <<< k : Nat) : Int) := by
  match k, hk with
  | 0, _ => exact u8_or_nat m 1 hm (by decide)
  | 1, _ => exact u8_or_nat m 2 hm (by decide)
  | 2, _ => exact u8_or_nat m 4 hm (by decide)
  | 3, _ => exact u8_or_nat m 8 hm (by decide)
/-- The mask is set anew. -/
theorem Ac.mask {w0 w : World} {D bl o b4 : Nat} {xs : List Int} {c : Pt.Cl} {s : Pt.Ps} {g cap n nx : Nat} (h : Ac w0 D bl o b4 xs c s g cap n w) (hx : xs.length = nx) (m' : Nat) (hbl : bl < D) : Ac w0 D bl o b4 xs c ⟨m', s.bs, s.la⟩ g cap n (w.setCell ⟨g, nx, none⟩ (.int .u8 (m' : Int))).drew := by
  have hg := grown_set w g nx (.int .u8 (m' : Int))
  have hl := h.lo
  have hs : (w.setCell ⟨g, nx, none⟩ (.int .u8 (m' : Int))).heap.size = w.heap.size := by simp [World.setCell]
  have h4 : (w.setCell ⟨g, nx, none⟩ (.int .u8 (m' : Int))).rangeAt b4 0 (CL c) := range_grown h.cel hg (fun e => h.ne e.symm) hl.2.2.1
  have h5 : (w.setCell ⟨g, nx, none⟩ (.int .u8 (m' : Int))).rangeAt bl o (CL s.la) := range_grown h.las hg (by omega) (by omega)
  have h6 : (w.setCell ⟨g, nx, none⟩ (.int .u8 (m' : Int))).there bl o 6 := there_grown h.th hg (by omega) (by omega)
  have h7 : Fx D bl o w0 (w.setCell ⟨g, nx, none⟩ (.int .u8 (m' : Int))) := h.fx.grown hg (fun k hk => by simp at hk; omega) hl.2.2.2 hbl
  have hr := h.row.set nx (m' : Int)
  have e : (xs ++ (s.m : Int) :: s.bs).set nx (m' : Int) = xs ++ (m' : Int) :: s.bs := by
    subst hx
    rw [List.set_append_right _ _ (Nat.le_refl _), Nat.sub_self]
    rfl
  rw [e] at hr
  have hdr : ∀ u : World, Below u.heap.size u u.drew := fun u => (Below.refl _ _).drew
  exact Ac.below (w := w.setCell ⟨g, nx, none⟩ (.int .u8 (m' : Int))) ⟨hr, h.ne, h4, h5, h6, h7, by rw [hs]; exact hl⟩ (hdr _) hbl
theorem Ac.cast {w0 w : World} {D bl o b4 : Nat} {xs : List Int} {c : Pt.Cl} {s : Pt.Ps} {g cap n n' : Nat} (h : Ac w0 D bl o b4 xs c s g cap n w) (e : n = n') : Ac w0 D bl o b4 xs c s g cap n' w := e ▸ h
/-- The last parts are set anew. -/
theorem Ac.put {w0 w w' : World} {D bl o b4 : Nat} {xs : List Int} {c c' : Pt.Cl} {s : Pt.Ps} {g cap n : Nat} (h : Ac w0 D bl o b4 xs c s g cap n w) (hp : Put w bl o c' w') (hbl : bl < D) (h4 : D ≤ b4) : Ac w0 D bl o b4 xs c ⟨s.m, s.bs, c'⟩ g cap n w' := by
  have hl := h.lo
  have hs := hp.gr.size
  exact ⟨h.row.grown hp.gr (.inr (fun e => by simp [Value.ownBlock] at e; omega)), h.ne, range_grown h.cel hp.gr (by omega) (by omega), hp.rg, hp.th, h.fx.put hp hl.2.2.2, by omega⟩
/-- A byte more. -/
theorem Ac.more {w0 w w' : World} {D bl o b4 : Nat} {xs : List Int} {c : Pt.Cl} {s : Pt.Ps} {g cap n g' cap' n' : Nat} {x : Int} (h : Ac w0 D bl o b4 xs c s g cap n w) (hbl : bl < D) (hr : Br w' D (.slice (some ⟨g', 0, none⟩) n' cap') ((xs ++ (s.m : Int) :: s.bs) ++ [x])) (hg : w.grownBy w' (some g)) (hf : some g = some g' ∨ w.heap.size ≤ g') (hl' : g' < w'.heap.size) (hD : D ≤ g') : Ac w0 D bl o b4 xs c ⟨s.m, s.bs ++ [x], s.la⟩ g' cap' n' w' := by
  have hl := h.lo
  have hs := hg.size
  refine ⟨by rw [List.append_assoc] at hr; exact hr, ?_, range_grown h.cel hg (fun e => h.ne e.symm) hl.2.2.1, range_grown h.las hg (by omega) (by omega), there_grown h.th hg (by omega) (by omega), h.fx.grown hg (fun k hk => by simp at hk; omega) hl.2.2.2 hbl, by omega⟩
  rcases hf with hf | hf
  · have := h.ne
    simp at hf
    omega
  · omega
def nth2 (v : Int × Int) (i : Nat) : Int := if i = 0 then v.1 else v.2
theorem vl_nth (v : Int × Int) {i : Nat} (hi : i < 2) : (VL v)[i]? = some (.int .i64 (nth2 v i)) := by
  match i, hi with
  | 0, _ => rfl
  | 1, _ => rfl
theorem take_nth (v : Int × Int) {i : Nat} (hi : i < 2) : [v.1, v.2].take (i + 1) = [v.1, v.2].take i ++ [nth2 v i] := by
  match i, hi with
  | 0, _ => rfl
  | 1, _ => rfl
theorem app_mid {xs : List Int} {n : Nat} (h : xs.length = n) {m : Int} {bs : List Int} : (xs ++ m :: bs).getD n 0 = m := by
  subst h
  simp
set_option maxRecDepth 100000 in
set_option maxHeartbeats 6400000 in
theorem p_appendCell (v : Value) (xs : List Int) (c la : Pt.Cl) (bl o D : Nat) (w : World) (hrow : Br w D v xs) (hD : D ≤ w.heap.size) (hbl : bl < D) (hla : w.rangeAt bl o (CL la)) (hth : w.there bl o 6) (hxs : xs.length ≤ 100000) (hv : Pt.vcl c = true) :
    Calls Tryd.prog 49 #[v, .agg (CL c).toArray, .pointer (some ⟨bl, o, none⟩)] w fun x w' => ∃ g cap n, x = .returned (.slice (some ⟨g, 0, none⟩) n cap) ∧ Br w' D (.slice (some ⟨g, 0, none⟩) n cap) (xs ++ ((Pt.pst c la 4).m : Int) :: (Pt.pst c la 4).bs) ∧ w'.rangeAt bl o (CL (Pt.pst c la 4).la) ∧ w'.there bl o 6 ∧ Fx D bl o w w' := by
  obtain ⟨W, hW⟩ : ∃ W, W = w.alloc (.cells (CL c).toArray 23) := ⟨_, rfl⟩
  have hB : Below w.heap.size w W := by rw [hW]; exact below_box _ _
  have hC : W.rangeAt w.heap.size 0 (CL c) := by rw [hW]; exact range_box _ _ _
  obtain ⟨b4, hb4⟩ : ∃ b4, b4 = w.heap.size := ⟨_, rfl⟩
  have hs : W.heap.size = b4 + 1 := by rw [hW, hb4]; simp
  rw [← hb4] at hC
  have HB := Lib.hid hB
  have HS := Lib.hid (show W.heap.size = b4 + 1 ∧ b4 = w.heap.size ∧ D ≤ b4 ∧ bl < D from ⟨hs, hb4, by omega, hbl⟩)
  have HC := Lib.hid hC
  have HROW := Lib.hid (hrow.kept hB)
  have HLA := Lib.hid (show W.rangeAt bl o (CL la) ∧ W.there bl o 6 from ⟨range_below hla hB (by omega), there_below hth hB (by omega)⟩)
  have HFX := Lib.hid ((Fx.refl D bl o w).below hB hD hbl)
  have HXS := Lib.hid hxs
  have HBY := Lib.hid (fun k => Pt.vcl_bytes hv k)
  have hrowlt0 := hrow.lt
  obtain ⟨p, cap0, rfl⟩ := hrow.slice
  rw [cl_arr] at hW ⊢
  obtain ⟨nx, hnx⟩ : ∃ nx, xs.length = nx := ⟨_, rfl⟩
  rw [hnx] at HROW
  have HNX := Lib.hid (show xs.length = nx ∧ nx ≤ 100000 from ⟨hnx, by omega⟩)
  rw [hnx]
  have i1 : (nx : Int) ≤ 100000 := by omega
  have hrowlt : ∀ k, Value.ownBlock (.slice p nx cap0) = some k → k < b4 := fun k hk => by rw [hb4]; rw [← hnx] at hk; exact (hrowlt0 k hk).2
  clear hrowlt0
  clear hrow hD hbl hla hth hxs hv hB hC hs hnx
  go_enter Tryd.func49, Tryd.ntmps49
  go_upto_region 1 with fail
  rw [← hW, ← hb4]
  clear hW hb4
  go_wp2_with (first | (at_builtin; refine app_one rfl _ _ rfl rfl HROW.out (by have := HS.out; omega) rfl (by have := HNX.out; omega) ?_; intro g cap w1 hb1 hg1 hf1 hd1 hl1; rw [HNX.out.1]; have H1 := Lib.hid hb1; have G1 := Lib.hid hg1; have F1 := Lib.hid hf1; have D1 := Lib.hid (show D ≤ g ∧ g < w1.heap.size from ⟨hd1, hl1⟩); clear hb1 hg1 hf1 hd1 hl1) | (go_at_call 11; ((with_reducible refine (p_parts _).mono ?_); rintro x' w2 ⟨rfl, hb2⟩; have HB2 := Lib.hid hb2; clear hb2)))
  have hne : g ≠ b4 := by
    have := HS.out
    rcases F1.out with h | h
    · have := (HROW.out.lt g h)
      have := hrowlt g h
      omega
    · omega
  have hAc : Ac w D bl o b4 xs c (Pt.pst c la 0) g cap (nx + 1) w2 := by
    have e := HS.out
    have e2 := D1.out
    have e3 := G1.out.size
    have hr := HLA.out
    have hgr : ∀ k, Value.ownBlock (.slice p nx cap0) = some k → D ≤ k := fun k hk => (HROW.out.lt k hk).1
    have hne4 : Value.ownBlock (.slice p nx cap0) ≠ some b4 := fun h => by have := hrowlt b4 h; omega
    have hnebl : Value.ownBlock (.slice p nx cap0) ≠ some bl := fun h => by have := hgr bl h; omega
    refine Ac.below (w := w1) ⟨(by have h := H1.out; rw [HNX.out.1] at h; exact h), hne, ?_, ?_, ?_, HFX.out.grown G1.out hgr (by omega) e.2.2.2, by omega⟩ HB2.out e.2.2.2
    · exact fun j u hu => by rw [World.cell?_of_block (a := ⟨b4, 0 + j, none⟩) (G1.out.block b4 (by omega) (fun h => hne4 h.symm))]; exact HC.out j u hu
    · exact fun j u hu => by rw [World.cell?_of_block (a := ⟨bl, o + j, none⟩) (G1.out.block bl (by omega) (fun h => hnebl h.symm))]; exact hr.1 j u hu
    · exact fun j hj => by rw [World.cell?_of_block (a := ⟨bl, o + j, none⟩) (G1.out.block bl (by omega) (fun h => hnebl h.symm)), World.frozen?_of_block (a := ⟨bl, o + j, none⟩) (G1.out.block bl (by omega) (fun h => hnebl h.symm))]; exact hr.2 j hj
  have HAC := Lib.hid hAc
  clear hne hAc hrowlt
  go_loopw [0, 19] (fun v i wr => ∃ k g cap n, k ≤ 4 ∧ i = .int .i64 (k : Nat) ∧ v = .slice (some ⟨g, 0, none⟩) n cap ∧ Hid (Ac w D bl o b4 xs c (Pt.pst c la k) g cap n wr)) (fun _ i _ => 4 - (intOf i).toNat)
  case atStart => exact ⟨0, g, cap, nx + 1, by omega, rfl, rfl, HAC.out⟩
  case round =>
    obtain ⟨k, g', cap', n, hk, rfl, rfl, HA⟩ := hrel
    by_cases hlt : k < 4
    · have E1 := eg hlt
      have E2 := eu hlt
      have HLT := Lib.hid hlt
      have hlt' : (k : Int) < 4 := by omega
      obtain ⟨s, hsk⟩ : ∃ s, Pt.pst c la k = s := ⟨_, rfl⟩
      rw [hsk] at HA
      have HSK := Lib.hid hsk
      obtain ⟨v, hv⟩ : ∃ v, Pt.pv k c = v := ⟨_, rfl⟩
      have HVV := Lib.hid hv
      have G1' := Lib.hid (fun u => g_get hlt c u)
      rw [hv] at G1'
      have S1 := Lib.hid (fun u => p_set v u)
      have eV : VV v = .agg #[.int .i64 v.1, .int .i64 v.2] := rfl
      rw [eV] at G1' S1
      clear hsk hlt hv eV
      cases hvs : Pt.isSet v with
      | false =>
        rw [hvs] at S1
        have HV := Lib.hid hvs
        clear hvs
        go_wp2_with (first | (refine ix_part HLT.out (by rfl) _ _ rfl rfl rfl ?_) | ((refine al_part (by rfl) rfl ?_); intro w2' hb2 hs2 ht2; have HB2' := Lib.hid hb2; have HT2 := Lib.hid ht2; have HS2 := Lib.hid hs2; clear hb2 ht2 hs2) | ((refine st_row (cs := PK k) Tryd.infoPart (pk_one k) (by rfl) _ _ rfl rfl rfl HT2.out ?_); rintro w3 e3; have h3 := World.rangeAt_setCells_same w2' wr.heap.size 0 (PK k) HT2.out; rw [← e3] at h3; have HB3 := Lib.hid (show Below wr.heap.size wr w3 by rw [e3]; exact grown_at HB2'.out (Nat.le_refl _) (by rw [HS2.out]; omega) (grown_setCells _ _ _ _)); have H3 := Lib.hid h3; have p2 := H3.out 2 _ rfl; clear e3 h3) | (refine ld_cell (by rfl) _ rfl rfl (HA.out.below HB3.out HS.out.2.2.2).cel ?_) | (go_at_fn (gF k); (with_reducible refine (G1'.out _).mono ?_); rintro x' w4 ⟨rfl, hb4⟩; have HB4 := Lib.hid hb4; clear hb4) | (go_at_call 12; ((with_reducible refine (S1.out _).mono ?_); rintro x' w5 ⟨rfl, hb5⟩; have HB5 := Lib.hid hb5; clear hb5)))
        go_roundw
        case rel =>
          have hb5 : Below wr.heap.size wr w5 := stepB (stepB HB3.out HB4.out) (stepB (below_box _ _) HB5.out)
          refine ⟨k + 1, g', cap', n, by have := HLT.out; omega, by go_num, rfl, ?_⟩
          rw [Pt.pst_unset (by rw [HVV.out]; exact HV.out), HSK.out]
          exact HA.out.below hb5 HS.out.2.2.2
        case measure => simp [intOf]; have := HLT.out; omega
      | true =>
        rw [hvs] at S1
        have HV := Lib.hid hvs
        clear hvs
        go_upto_region 15 with (first | (refine ix_part HLT.out (by rfl) _ _ rfl rfl rfl ?_) | ((refine al_part (by rfl) rfl ?_); intro w2' hb2 hs2 ht2; have HB2' := Lib.hid hb2; have HT2 := Lib.hid ht2; have HS2 := Lib.hid hs2; clear hb2 ht2 hs2) | ((refine st_row (cs := PK k) Tryd.infoPart (pk_one k) (by rfl) _ _ rfl rfl rfl HT2.out ?_); rintro w3 e3; have h3 := World.rangeAt_setCells_same w2' wr.heap.size 0 (PK k) HT2.out; rw [← e3] at h3; have HB3 := Lib.hid (show Below wr.heap.size wr w3 by rw [e3]; exact grown_at HB2'.out (Nat.le_refl _) (by rw [HS2.out]; omega) (grown_setCells _ _ _ _)); have H3 := Lib.hid h3; have p2 := H3.out 2 _ rfl; clear e3 h3) | (refine ld_cell (by rfl) _ rfl rfl (HA.out.below HB3.out HS.out.2.2.2).cel ?_) | (go_at_fn (gF k); (with_reducible refine (G1'.out _).mono ?_); rintro x' w4 ⟨rfl, hb4⟩; have HB4 := Lib.hid hb4; clear hb4 p2) | (go_at_call 12; ((with_reducible refine (S1.out _).mono ?_); rintro x' w5 ⟨rfl, hb5⟩; have HB5 := Lib.hid hb5; clear hb5)))
        obtain ⟨b9, hb9⟩ : ∃ b9, b9 = wr.heap.size := ⟨_, rfl⟩
        obtain ⟨b10, hb10⟩ : ∃ b10, b10 = w4.heap.size := ⟨_, rfl⟩
        have hb35 : Below w3.heap.size w3 w5 := stepB HB4.out (stepB (below_box _ _) HB5.out)
        have hq5 : w5.rangeAt b10 0 (VL v) := by rw [hb10]; exact range_below (range_box w4 (VL v) 42) HB5.out (by simp)
        have hp5 : w5.rangeAt b9 0 (PK k) := by rw [hb9]; exact range_below H3.out hb35 (by have := HS2.out; have h := H3.out 0 _ rfl; exact cell_lt h)
        have hA5 := HA.out.below (stepB HB3.out hb35) HS.out.2.2.2
        have HBN := Lib.hid (show g' ≠ b9 ∧ g' ≠ b10 ∧ b9 ≠ bl ∧ b10 ≠ bl ∧ D ≤ b9 ∧ D ≤ b10 by
          have e := hA5.lo
          have e0 := HA.out.lo
          have e1 := HB3.out.size
          have e2 := HB4.out.size
          have e3 := HS.out
          omega)
        rw [← hb9, ← hb10]
        have HQ5 := Lib.hid hq5
        have HP5 := Lib.hid hp5
        have HA5 := Lib.hid hA5
        clear hb9 hb10 hb35 hq5 hp5 hA5
        obtain ⟨u, hu⟩ : ∃ u, Pt.pv k s.la = u := ⟨_, rfl⟩
        have hg0 := (Below.refl w5.heap.size w5).drew
        have hgg := keepApp HQ5.out HP5.out HA5.out.las hg0
        have G2' := Lib.hid (fun (x : World) (hx : Below w5.heap.size w5 x) => onB hx (g_get HLT.out s.la x))
        rw [cl_arr s.la, hu, show VV u = .agg #[.int .i64 u.1, .int .i64 u.2] from rfl] at G2'
        have HU := Lib.hid hu
        clear hu
        cases hd : decide (v = u) with
        | true =>
          have HD := Lib.hid (of_decide_eq_true hd)
          have EQ := eq_vv v u hd
          clear hd
          go_region_held3 (fun w' => Below w5.heap.size w5 w' ∧ w'.cell? ⟨b10, 0, none⟩ = some (.int .i64 v.1) ∧ w'.cell? ⟨b10, 1, none⟩ = some (.int .i64 v.2) ∧ w'.cell? ⟨b9, 2, none⟩ = some (.func (.func (gF k)) #[] #[]) ∧ w'.cell? ⟨bl, o, none⟩ = some (.int .i64 s.la.nt) ∧ w'.cell? ⟨bl, o + 1, none⟩ = some (.int .i64 s.la.it) ∧ w'.cell? ⟨bl, o + 2, none⟩ = some (.int .i64 s.la.vc) ∧ w'.cell? ⟨bl, o + 3, none⟩ = some (.int .i64 s.la.va) ∧ w'.cell? ⟨bl, o + 4, none⟩ = some (.int .i64 s.la.ef) ∧ w'.cell? ⟨bl, o + 5, none⟩ = some (.int .i64 s.la.pa))
            (first | with_reducible exact hgg | exact keepApp HQ5.out HP5.out HA5.out.las hB6)
            (first | (go_at_fn (gF k); with_reducible refine (G2'.out _ hg0).mono ?_; rintro x' w6 ⟨rfl, hB6⟩))
          have HB6 := Lib.hid hB6
          have HA6 := Lib.hid (HA5.out.below hB6 HS.out.2.2.2)
          have hby := HA6.out.row.byte (j := nx) (by rw [List.length_append, HNX.out.1, List.length_cons]; omega)
          rw [app_mid HNX.out.1] at hby
          have hn6 : (nx : Int) < (n : Int) := by have := HA6.out.row.len; rw [List.length_append, HNX.out.1, List.length_cons] at this; omega
          obtain ⟨y0, y1⟩ := hby
          obtain ⟨m0, hm0⟩ : ∃ m0, ((s.m : Nat) : Int) = m0 := ⟨_, rfl⟩
          rw [hm0] at y0
          have HM0 := Lib.hid hm0
          clear hm0 hB6 hgg hg0 EQ
          go_wp2
          go_region
          have HA7 := Lib.hid (HA6.out.mask HNX.out.1 (s.m ||| 16 <<< k) HS.out.2.2.2)
          have hor : bits .or .u8 m0 (16 * 2 ^ k % 256) = ((s.m ||| 16 <<< k : Nat) : Int) := by rw [← HM0.out]; exact or16 HLT.out (by rw [← HSK.out]; exact Pt.pst_m c la k (by have := HLT.out; omega))
          rw [hor]
          obtain ⟨w7, h7⟩ : ∃ w7, w7 = (w6.setCell ⟨g', nx, none⟩ (.int .u8 ((s.m ||| 16 <<< k : Nat) : Int))).drew := ⟨_, rfl⟩
          rw [← h7] at HA7 ⊢
          clear h7 hor y0 y1
          go_wp2
          go_roundw
          case rel =>
            refine ⟨k + 1, g', cap', n, by have := HLT.out; omega, by go_num, rfl, ?_⟩
            rw [Pt.pst_same (by rw [HVV.out]; exact HV.out) (by rw [HVV.out, HSK.out, HU.out]; exact HD.out), HSK.out]
            exact HA7.out
          case measure => simp [intOf]; have := HLT.out; omega
        | false =>
          have HD := Lib.hid (of_decide_eq_false hd)
          have EQ := eq_vv v u hd
          clear hd
          go_region_held3 (fun w' => Below w5.heap.size w5 w' ∧ w'.cell? ⟨b10, 0, none⟩ = some (.int .i64 v.1) ∧ w'.cell? ⟨b10, 1, none⟩ = some (.int .i64 v.2) ∧ w'.cell? ⟨b9, 2, none⟩ = some (.func (.func (gF k)) #[] #[]) ∧ w'.cell? ⟨bl, o, none⟩ = some (.int .i64 s.la.nt) ∧ w'.cell? ⟨bl, o + 1, none⟩ = some (.int .i64 s.la.it) ∧ w'.cell? ⟨bl, o + 2, none⟩ = some (.int .i64 s.la.vc) ∧ w'.cell? ⟨bl, o + 3, none⟩ = some (.int .i64 s.la.va) ∧ w'.cell? ⟨bl, o + 4, none⟩ = some (.int .i64 s.la.ef) ∧ w'.cell? ⟨bl, o + 5, none⟩ = some (.int .i64 s.la.pa))
            (first | with_reducible exact hgg | exact keepApp HQ5.out HP5.out HA5.out.las hB6)
            (first | (go_at_fn (gF k); with_reducible refine (G2'.out _ hg0).mono ?_; rintro x' w6 ⟨rfl, hB6⟩))
          have HB6 := Lib.hid hB6
          have HA6 := Lib.hid (HA5.out.below hB6 HS.out.2.2.2)
          have hby := HA6.out.row.byte (j := nx) (by rw [List.length_append, HNX.out.1, List.length_cons]; omega)
          rw [app_mid HNX.out.1] at hby
          have hn6 : (nx : Int) < (n : Int) := by have := HA6.out.row.len; rw [List.length_append, HNX.out.1, List.length_cons] at this; omega
          obtain ⟨y0, y1⟩ := hby
          obtain ⟨m0, hm0⟩ : ∃ m0, ((s.m : Nat) : Int) = m0 := ⟨_, rfl⟩
          rw [hm0] at y0
          have HM0 := Lib.hid hm0
          clear hm0 hB6 hgg hg0 EQ
          go_wp2
          go_region
          have HA7 := Lib.hid (HA6.out.mask HNX.out.1 (s.m ||| 1 <<< k) HS.out.2.2.2)
          have hor : bits .or .u8 m0 (2 ^ k % 256) = ((s.m ||| 1 <<< k : Nat) : Int) := by rw [← HM0.out]; exact or1 HLT.out (by rw [← HSK.out]; exact Pt.pst_m c la k (by have := HLT.out; omega))
          rw [hor]
          obtain ⟨w7, h7⟩ : ∃ w7, w7 = (w6.setCell ⟨g', nx, none⟩ (.int .u8 ((s.m ||| 1 <<< k : Nat) : Int))).drew := ⟨_, rfl⟩
          have hg7 : w6.grownBy w7 (some g') := by
            rw [h7]
            exact grownBy_trans (grown_set _ _ _ _) (grownBy_of (Below.refl _ _).drew)
          have HQ7 := Lib.hid (range_grown (range_below HQ5.out HB6.out (cell_lt (HQ5.out 0 _ rfl))) hg7 (by have := HBN.out; omega) (cell_lt (range_below HQ5.out HB6.out (cell_lt (HQ5.out 0 _ rfl)) 0 _ rfl)))
          have HP7 := Lib.hid (range_grown (range_below HP5.out HB6.out (cell_lt (HP5.out 0 _ rfl))) hg7 (by have := HBN.out; omega) (cell_lt (range_below HP5.out HB6.out (cell_lt (HP5.out 0 _ rfl)) 0 _ rfl)))
          rw [← h7] at HA7 ⊢
          obtain ⟨nk, hnk⟩ : ∃ nk, Pt.num k = nk := ⟨_, rfl⟩
          have hnk2 : 1 ≤ nk ∧ nk ≤ 2 := by rw [← hnk]; exact Pt.num_le k
          have p0 : w7.cell? ⟨b9, 0, none⟩ = some (.int .i64 (Pt.num k : Nat)) := HP7.out 0 _ rfl
          rw [hnk] at p0
          have l1 : (0 : Int) ≤ (nk : Int) := by omega
          have l2 : (nk : Int) ≤ 2 := by omega
          have HNK := Lib.hid (show Pt.num k = nk ∧ 1 ≤ nk ∧ nk ≤ 2 from ⟨hnk, hnk2⟩)
          clear h7 hor y0 y1 hg7 hnk hnk2
          go_wp2
          obtain ⟨m1, hm1⟩ : ∃ m1, s.m ||| 1 <<< k = m1 := ⟨_, rfl⟩
          have HM1 := Lib.hid hm1
          rw [hm1] at HA7 ⊢
          have HAS := Lib.hid (show g' ≠ b10 ∧ g' ≠ b9 from ⟨by have := HBN.out; omega, by have := HBN.out; omega⟩)
          clear hm1
          go_loopw [0, 39] (fun v' i wr => ∃ j g cap n, j ≤ nk ∧ i = .int .i64 (j : Nat) ∧ v' = .slice (some ⟨g, 0, none⟩) n cap ∧ Hid (Ac w D bl o b4 xs c ⟨m1, s.bs ++ [v.1, v.2].take j, s.la⟩ g cap n wr) ∧ Hid (wr.rangeAt b10 0 (VL v) ∧ wr.rangeAt b9 0 (PK k) ∧ g ≠ b10 ∧ g ≠ b9)) (fun _ i _ => nk - (intOf i).toNat)
          case atStart => exact ⟨0, g', cap', n, by omega, rfl, rfl, by rw [List.take_zero, List.append_nil]; exact HA7.out, HQ7.out, HP7.out, HAS.out⟩
          case round =>
            obtain ⟨j, g2, cap2, n2, hj, rfl, rfl, HA8, HX8⟩ := hrel
            by_cases hjl : j < nk
            · have hj2 : j < 2 := by have := HNK.out; omega
              have hjn : (j : Int) < (nk : Int) := by omega
              have q0 := HX8.out.1 j _ (vl_nth v hj2)
              rw [Nat.zero_add] at q0
              have hby : 0 ≤ nth2 v j ∧ nth2 v j ≤ 255 := by
                have := HBY.out k
                rw [HVV.out] at this
                unfold nth2
                split <;> omega
              obtain ⟨x, hx⟩ : ∃ x, nth2 v j = x := ⟨_, rfl⟩
              rw [hx] at q0 hby
              have HXE := Lib.hid (show [v.1, v.2].take (j + 1) = [v.1, v.2].take j ++ [x] by rw [take_nth v hj2, hx])
              have x1 : x % 256 = x := by omega
              have x2 : IntKind.u8.wrap x = x := by rw [IntKind.wrap_u8]; omega
              have HJL := Lib.hid hjl
              have hlen := HA8.out.row.len
              have HLEN := Lib.hid hlen
              have HSB := Lib.hid (Pt.pst_len c la k)
              clear hx hj2 hlen hjl
              go_wp2_with (first | (at_builtin; go_loud (refine app_one rfl _ _ rfl rfl HA8.out.row HA8.out.lo.2.2.2 rfl (by have := HNX.out; have := HSB.out; rw [HSK.out] at this; have := HLT.out; simp; omega) ?_; intro g3 cap3 w9 hb9 hg9 hf9 hd9 hl9; have H9 := Lib.hid (HA8.out.more HS.out.2.2.2 hb9 hg9 hf9 hl9 hd9); have GG := Lib.hid (show wr.grownBy w9 (some g2) from hg9); have FF := Lib.hid (show some g2 = some g3 ∨ wr.heap.size ≤ g3 from hf9); clear hb9 hg9 hf9 hd9 hl9)))
              go_roundw
              case rel =>
                refine ⟨j + 1, g3, cap3, _, HJL.out, by go_num, rfl, ?_, ?_⟩
                · rw [HXE.out, ← List.append_assoc]
                  refine H9.out.cast ?_
                  simp
                · obtain ⟨z1, z2, z3, z4⟩ := HX8.out
                  have c1 := cell_lt (z1 0 _ rfl)
                  have c2 := cell_lt (z2 0 _ rfl)
                  simp only at c1 c2
                  refine ⟨range_grown z1 GG.out (fun e => z3 e.symm) c1, range_grown z2 GG.out (fun e => z4 e.symm) c2, ?_, ?_⟩
                  · rcases FF.out with h | h
                    · simp at h; omega
                    · omega
                  · rcases FF.out with h | h
                    · simp at h; omega
                    · omega
              case measure => simp [intOf]; have := HJL.out; omega
            · obtain rfl : j = nk := by omega
              have U1 := Lib.hid (g_put HLT.out s.la v bl o wr HA8.out.las HA8.out.th)
              rw [show VV v = .agg #[.int .i64 v.1, .int .i64 v.2] from rfl] at U1
              have p3 := HX8.out.2.1 3 _ rfl
              have q0 := HX8.out.1 0 _ rfl
              have q1 := HX8.out.1 1 _ rfl
              go_wp2_with (first | (go_at_fn (uF k); (with_reducible refine U1.out.mono ?_); rintro x' w9 ⟨rfl, hp9⟩; have HP9 := Lib.hid hp9; clear hp9))
              go_roundw
              case rel =>
                refine ⟨k + 1, g2, cap2, n2, by have := HLT.out; omega, by go_num, rfl, ?_⟩
                rw [Pt.pst_new (by rw [HVV.out]; exact HV.out) (by rw [HVV.out, HSK.out, HU.out]; exact HD.out), HVV.out, HSK.out, HM1.out]
                have h := HA8.out.put HP9.out HS.out.2.2.2 HS.out.2.2.1
                unfold Pt.numsOf
                rw [HNK.out.1]
                exact h
              case measure => simp [intOf]; have := HLT.out; omega
    · obtain rfl : k = 4 := by omega
      go_wp2
      go_ret
      exact ⟨g', cap', n, rfl, HA.out.row, HA.out.las, HA.out.th, HA.out.fx⟩
end Go.Proofs.YtfjfnbeegojlbaaDoor
