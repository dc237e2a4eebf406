/-
  The law PatternPacks.
-/
import Derived.Test.YtfjfnbeegojlbaaAppZ
import Derived.Test.YtfjfnbeegojlbaaLCop
import Derived.Test.YtfjfnbeegojlbaaPUn
import Derived.Test.YtfjfnbeegojlbaaPuN
namespace Go.Proofs.Ytfjfnbeegojlbaa
open Go.RowKit

theorem packs_dark (r : Int) (l : List Pt.Cl) (p : Option Addr) (cap : Nat) (ch : Int) (q : Option Addr) (m c : Nat) (w : World) (hl : (l.length : Int) ≤ 9223372036854775807) (hm : (m : Int) ≤ 9223372036854775807) (h : ¬ (l.length ≤ 2000 ∧ m ≤ 5000)) :
    Calls Try.prog 4 #[PV r p l.length cap, .int .i64 ch, .slice q m c] w fun x w' => x = .returned (.bool true) ∧ Below w.heap.size w w' := by
  obtain ⟨W, hW⟩ : ∃ W, W = w.alloc (.cells #[.int .i64 r, .slice p l.length cap] 24) := ⟨_, rfl⟩
  have hB : Below w.heap.size w W := by rw [hW]; exact below_box _ _
  have hp : Pb W w.heap.size r (.slice p l.length cap) := by rw [hW]; exact pb_box _ _ _ _
  have HB := Lib.hid hB
  obtain ⟨b, hb⟩ : ∃ b, b = w.heap.size := ⟨_, rfl⟩
  rw [← hb] at hp
  have CL1 := Lib.hid (p_light r p l.length cap W hl)
  have HP := Lib.hid hp
  by_cases h1 : l.length ≤ 2000
  · have h2 : (5000 : Int) < (m : Int) := by omega
    rw [decide_eq_true h1] at CL1
    obtain ⟨n, hn⟩ : ∃ n, l.length = n := ⟨_, rfl⟩
    rw [hn] at CL1 hW HP ⊢
    unfold PV at CL1 ⊢
    clear hp hB hl h h1 hn
    go_enter Try.func4, Try.ntmps4
    go_upto_region 1 with fail
    rw [← hW, ← hb]
    clear hW hb
    go_wp2_with (first | (refine ld_pat (by rfl) _ rfl rfl HP.out.1 ?_) | (go_at_call 6; ((with_reducible refine (CL1.out).mono ?_); rintro x' w1 ⟨rfl, hb1⟩; have HB1 := Lib.hid hb1; clear hb1)) | (go_at_call 8; ((with_reducible refine (p_awake _).mono ?_); rintro x' w2 ⟨rfl, hb2⟩)))
    go_ret
    exact ⟨rfl, stepB HB.out (stepB HB1.out hb2)⟩
  · rw [decide_eq_false h1] at CL1
    obtain ⟨n, hn⟩ : ∃ n, l.length = n := ⟨_, rfl⟩
    rw [hn] at CL1 hW HP ⊢
    unfold PV at CL1 ⊢
    clear hp hB hl h h1 hn
    go_enter Try.func4, Try.ntmps4
    go_upto_region 1 with fail
    rw [← hW, ← hb]
    clear hW hb
    go_wp2_with (first | (refine ld_pat (by rfl) _ rfl rfl HP.out.1 ?_) | (go_at_call 6; ((with_reducible refine (CL1.out).mono ?_); rintro x' w1 ⟨rfl, hb1⟩; have HB1 := Lib.hid hb1; clear hb1)) | (go_at_call 8; ((with_reducible refine (p_awake _).mono ?_); rintro x' w2 ⟨rfl, hb2⟩)))
    go_ret
    exact ⟨rfl, stepB HB.out (stepB HB1.out hb2)⟩
theorem own_apart {v : Value} {e B bp : Nat} {f : Option Nat} (a : ∀ k, v.ownBlock = some k → f = some k ∨ B ≤ k) (hf : f = some e) (h1 : e ≠ bp) (h2 : bp < B) : ∀ k, v.ownBlock = some k → k ≠ bp := by
  intro k hk
  rcases a k hk with h | h
  · rw [hf] at h
    have : e = k := by simpa using h
    omega
  · omega
theorem packL_le {r : Int} {l : List Pt.Cl} {ch : Int} (h : Pt.vpat r l ch = true) : (Pt.packL l r.toNat ch.toNat).length ≤ 10304 := by
  obtain ⟨R, C, rfl, rfl, g1, g2, g3, g4, g5, g6⟩ := Pt.vpat_nat h
  have a2 := Pt.pkY_bs l C g4 R
  show (Pt.pkY l C R).bs.length ≤ _
  omega
namespace Pt
theorem bys_two {a b : List Int} (ha : bys a) (hb : bys b) : bys (a ++ b) := fun x hx => (List.mem_append.1 hx).elim (ha x) (hb x)
theorem pst_bys {c : Cl} (hc : vcl c = true) (la : Cl) : ∀ k, bys (pst c la k).bs
  | 0 => fun x hx => by simp [pst] at hx
  | k + 1 => by
    have ih := pst_bys hc la k
    cases hs : isSet (pv k c) with
    | false => rw [pst_unset hs]; exact ih
    | true =>
      by_cases h : pv k c = pv k (pst c la k).la
      · rw [pst_same hs h]; exact ih
      · rw [pst_new hs h]
        refine bys_two ih fun x hx => ?_
        have hx2 : x ∈ [(pv k c).1, (pv k c).2] := List.mem_of_mem_take hx
        have hb := vcl_bytes hc k
        simp at hx2
        rcases hx2 with rfl | rfl <;> omega
theorem pkC_bys {x : Nat} {c : Cl} {q : Pq} (hx : x < 255) (hc : vcl c = true) (hq : bys q.bs) : bys (pkC x c q).bs := by
  unfold pkC
  split
  · exact hq
  · refine bys_two hq fun y hy => ?_
    rcases List.mem_cons.1 hy with rfl | hy
    · omega
    · rcases List.mem_cons.1 hy with rfl | hy
      · have := pst_m c (at' q.ls x) 4 (by omega)
        omega
      · exact pst_bys hc _ 4 y hy
theorem pkX_bys {l : List Cl} {C y : Nat} {q : Pq} (hl : ∀ k, k < C → vcl (at' l (y * C + k)) = true) (hq : bys q.bs) (hC : C ≤ 16) : ∀ x, x ≤ C → bys (pkX l C y x q).bs
  | 0, _ => hq
  | x + 1, hx => by
    rw [pkX]
    exact pkC_bys (by omega) (hl x (by omega)) (pkX_bys hl hq hC x (by omega))
theorem pkY_bys {l : List Cl} {R C : Nat} (hl : l.length = R * C) (ha : all l = true) (hC : C ≤ 16) : ∀ y, y ≤ R → bys (pkY l C y).bs
  | 0, _ => fun x hx => by simp [pkY] at hx
  | y + 1, hy => by
    rw [pkY]
    refine bys_two (pkX_bys (fun k hk => all_at ha ?_) (pkY_bys hl ha hC y (by omega)) hC C (Nat.le_refl _)) (fun x hx => by simp at hx; omega)
    rw [hl]
    have := Nat.mul_le_mul_right C hy
    rw [Nat.add_mul, Nat.one_mul] at this
    omega
end Pt
theorem packL_bys {r : Int} {l : List Pt.Cl} {ch : Int} (h : Pt.vpat r l ch = true) : Pt.bys (Pt.packL l r.toNat ch.toNat) := by
  obtain ⟨R, C, rfl, rfl, g1, g2, g3, g4, g5, g6⟩ := Pt.vpat_nat h
  exact Pt.pkY_bys g5 g6 g4 R (Nat.le_refl _)
/-- What was packed is unpacked, whatever follows. -/
theorem unpack_back {r : Int} {l : List Pt.Cl} {ch : Int} (h : Pt.vpat r l ch = true) {ys : List Int} (hy : Pt.bys ys) (h5 : ys.length ≤ 5000) {na ny n : Nat} (hna : (Pt.packL l r.toNat ch.toNat).length = na) (hny : ys.length = ny) (hn : l.length = n) (p : Option Addr) (c : Nat) (u : World) (hi : InB u p (Pt.packL l r.toNat ch.toNat ++ ys)) (hp : ∀ b off, p = some ⟨b, off, none⟩ → b < u.heap.size) :
    Calls Try.prog 19 #[.slice p (na + ny) c, .int .i64 r, .int .i64 ch] u fun x w' => (∃ q cp, x = .returned (.tuple #[PV r q n cp, .int .i64 (na : Nat), .int .i64 0]) ∧ Own w' u.heap.size q l) ∧ Below u.heap.size u w' := by
  have hl := packL_le h
  have hb := packL_bys h
  obtain ⟨R, C, rfl, rfl, g1, g2, g3, g4, g5, g6⟩ := Pt.vpat_nat h
  have hlen : (Pt.packL l R C ++ ys).length = na + ny := by rw [List.length_append, ← hna, ← hny]; rfl
  obtain ⟨ls, hu⟩ := Pt.upk_back g5 g6 ys
  have e0 : Pt.eBlank R C = 0 := by unfold Pt.eBlank; rw [Pt.wth_iff.2 (by omega), Pt.wth_iff.2 (by omega)]; rfl
  have hl' : (Pt.packL l R C).length ≤ 10304 := hl
  have hn' : (Pt.packL l R C).length = na := hna
  have e : Pt.unp R C (Pt.packL l R C ++ ys) = .ok (l, na) := by
    have h1 : (Pt.packL l R C ++ ys).length ≤ 400000 := by rw [hlen]; omega
    unfold Pt.unp
    rw [if_pos e0, if_pos h1]
    have hu' : Pt.upk (R : Int).toNat (C : Int).toNat (Pt.packL l R C ++ ys) = .ok ⟨l, ls, ys⟩ := hu
    rw [hu', hlen]
    show Except.ok (l, na + ny - ys.length) = _
    rw [hny, Nat.add_sub_cancel]
  have hc := p_Unpack R C p (Pt.packL l R C ++ ys) c (by rw [hlen]; omega) (by
    intro x hx
    rcases List.mem_append.1 hx with hx | hx
    · exact hb x hx
    · exact hy x hx) u hi hp
  rw [hlen, e] at hc
  refine hc.mono fun x w' ⟨⟨q, cp, hx, hcp, ho⟩, hbw⟩ => ⟨⟨q, cp, ?_, ho⟩, hbw⟩
  rw [hx, hn]
/-- A pattern is stored into a block of its own. -/
theorem pat_fin {W w : World} {B bp n cp : Nat} {q : Option Addr} {l : List Pt.Cl} {x r : Int} {y : Value} (ho : Own w B q l) (hp : Pb w bp x y) (hb : Below W.heap.size W w) (hw : W.heap.size ≤ bp) (hc : bp < B ∨ ∃ w0, Own w0 B q l ∧ w0.heap.size ≤ bp) :
    Below W.heap.size W ((w.setCell ⟨bp, 0, none⟩ (.int .i64 r)).setCell ⟨bp, 1, none⟩ (.slice q n cp)) ∧ CellsAt ((w.setCell ⟨bp, 0, none⟩ (.int .i64 r)).setCell ⟨bp, 1, none⟩ (.slice q n cp)) q l ∧ Pb ((w.setCell ⟨bp, 0, none⟩ (.int .i64 r)).setCell ⟨bp, 1, none⟩ (.slice q n cp)) bp r (.slice q n cp) := by
  have hg : w.grownBy ((w.setCell ⟨bp, 0, none⟩ (.int .i64 r)).setCell ⟨bp, 1, none⟩ (.slice q n cp)) (some bp) := (grown_set _ _ _ _).trans (grown_set _ _ _ _)
  refine ⟨grown_at hb hw hb.size hg, ?_, World.rangeAt_setCells_same w bp 0 [.int .i64 r, .slice q n cp] hp.2, World.there_setCells hp.2 bp 0 [.int .i64 r, .slice q n cp]⟩
  by_cases hl : l = []
  · exact .inl hl
  · rcases ho with h | ⟨g, hq, hB, hk⟩
    · exact absurd h hl
    · have hne : g ≠ bp := by
        rcases hc with hc | ⟨w0, h0, hs⟩
        · omega
        · rcases h0 with h0 | ⟨g0, hq0, -, hk0⟩
          · exact absurd h0 hl
          · rw [hq] at hq0
            have : g = g0 := by simpa using hq0
            have := hk0.1
            omega
      subst hq
      exact (hk.grown hg hne).at
theorem Pb.apart {w w' : World} {b : Nat} {rr : Option Nat} {r : Int} {v : Value} (h : Pb w b r v) (hg : w.grownBy w' rr) (hne : rr ≠ some b) : Pb w' b r v := by
  have hb := hg.block b h.lt (fun e => hne e.symm)
  exact ⟨fun j u hu => by rw [World.cell?_of_block (a := ⟨b, 0 + j, none⟩) hb]; exact h.1 j u hu, fun j hj => by rw [World.cell?_of_block (a := ⟨b, 0 + j, none⟩) hb, World.frozen?_of_block (a := ⟨b, 0 + j, none⟩) hb]; exact h.2 j hj⟩
set_option maxRecDepth 100000 in
set_option maxHeartbeats 6400000 in
theorem packs_light (r : Int) (l : List Pt.Cl) (p : Option Addr) (cap : Nat) (ch : Int) (q : Option Addr) (ys : List Int) (c : Nat) (w : World) (hd : CellsAt w p l) (hcap : l.length ≤ cap) (hq : InB w q ys) (hy : Pt.bys ys) (h1 : l.length ≤ 2000) (h2 : ys.length ≤ 5000) :
    Calls Try.prog 4 #[PV r p l.length cap, .int .i64 ch, .slice q ys.length c] w fun x w' => x = .returned (.bool true) ∧ Below w.heap.size w w' := by
  obtain ⟨W, hW⟩ : ∃ W, W = w.alloc (.cells #[.int .i64 r, .slice p l.length cap] 24) := ⟨_, rfl⟩
  have hB : Below w.heap.size w W := by rw [hW]; exact below_box _ _
  have hp : Pb W w.heap.size r (.slice p l.length cap) := by rw [hW]; exact pb_box _ _ _ _
  have HB := Lib.hid hB
  have HS := Lib.hid (show W.heap.size = w.heap.size + 1 by rw [hW]; simp)
  obtain ⟨b, hb⟩ : ∃ b, b = w.heap.size := ⟨_, rfl⟩
  rw [← hb] at hp HS
  have HBE := Lib.hid hb
  have CL1 := Lib.hid (p_light r p l.length cap W (by omega))
  rw [decide_eq_true h1] at CL1
  have CC := Lib.hid (fun (u : World) (hu : Below W.heap.size W u) => l_copied r l p cap u ((hd.below hB).below hu) h1)
  have CR := Lib.hid (fun (u : World) (hu : Below W.heap.size W u) => r_Pack r l p cap ch u ((hd.below hB).below hu) hcap)
  have CU := Lib.hid (fun (g : Nat) (u : World) (hu : Below W.heap.size W u) (hk : Kr u g (l ++ [last77])) => l_untouched r l g p cap u hk ((hd.below hB).below hu) h1)
  have CP := Lib.hid (fun (g : Nat) (u : World) (hk : Kr u g (l ++ [last77])) => p_Pack r l (some ⟨g, 0, none⟩) (l.length + 1) ch u (by
    have hr := hk.2.1
    rw [cc_app] at hr
    exact .inr ⟨g, 0, rfl, hk.1, fun j v hv => hr j v (by rw [List.getElem?_append_left (List.getElem?_eq_some_iff.1 hv).1]; exact hv)⟩) (by omega))
  obtain ⟨e, he⟩ : ∃ e : Int, (if Pt.vpat r l ch then (0 : Int) else 1) = e := ⟨_, rfl⟩
  obtain ⟨bs, hbs⟩ : ∃ bs, (if Pt.vpat r l ch then Pt.packL l r.toNat ch.toNat else []) = bs := ⟨_, rfl⟩
  rw [he, hbs] at CP CR
  have HE := Lib.hid (show (if Pt.vpat r l ch then (0 : Int) else 1) = e ∧ (if Pt.vpat r l ch then Pt.packL l r.toNat ch.toNat else []) = bs from ⟨he, hbs⟩)
  have HDW := Lib.hid (hd.below hB)
  have HQW := Lib.hid (hq.below hB)
  have HY := Lib.hid (show Pt.bys ys ∧ ys.length ≤ 5000 from ⟨hy, h2⟩)
  obtain ⟨ny, hny⟩ : ∃ ny, ys.length = ny := ⟨_, rfl⟩
  have HNY := Lib.hid hny
  obtain ⟨n, hn⟩ : ∃ n, l.length = n := ⟨_, rfl⟩
  have HN := Lib.hid hn
  rw [hn] at hp CL1 hW CC CP CR CU ⊢
  rw [hny] at h2 ⊢
  have h3 : ¬ (5000 : Int) < (ny : Int) := by omega
  have hn2000 := Lib.hid (show n ≤ 2000 by omega)
  have HP := Lib.hid hp
  obtain ⟨s, hs⟩ : ∃ s, strOfNums bs = s := ⟨_, rfl⟩
  have HSB := Lib.hid hs
  unfold PV at CL1 CC CP CR CU ⊢
  clear hd hB hp he hbs hq hy h1 h2 hn hny hs hcap
  go_enter Try.func4, Try.ntmps4
  go_upto_region 1 with fail
  rw [← hW, ← hb]
  clear hW hb
  have HPW := Lib.hid (show ∀ u, Below W.heap.size W u → u.rangeAt b 0 [.int .i64 r, .slice p n cap] from fun u hu => (HP.out.kept hu).1)
  go_upto_region 4 with (first | (refine ld_pat (by rfl) (.tmp 3) rfl rfl HP.out.1 ?_) | (go_at_call 6; ((with_reducible refine (CL1.out).mono ?_); rintro x' w1 ⟨rfl, hb1⟩; have HB1 := Lib.hid hb1; clear hb1)) | (refine ld_pat (by rfl) (.tmp 3) rfl rfl (HPW.out _ HB1.out) ?_) | (go_at_call 15; (with_reducible refine (CC.out _ HB1.out).mono ?_); rintro x' w2 ⟨⟨g, rfl, hg, hk⟩, hb2⟩; have HB2 := Lib.hid (stepB HB1.out hb2); have HK2 := Lib.hid hk; clear hg hk hb2) | ((refine st_pat (by rfl) _ _ rfl rfl rfl (pb_box w2 0 (.slice none 0 0) _).2 ?_); intro w3 h3 g3; have H3 := Lib.hid h3; have G3 := Lib.hid g3; clear h3 g3))
  have HB3 := Lib.hid (show Below W.heap.size W w3 from grown_at (stepB HB2.out (below_box _ _)) HB2.out.size (by have := HB2.out.size; simp; omega) G3.out)
  have HK3 := Lib.hid (show Kr w3 g (l ++ [last77]) from (HK2.out.kept (below_box _ _)).grown G3.out (by have := HK2.out.1; omega))
  obtain ⟨b7, hb7⟩ : ∃ b7, b7 = w2.heap.size := ⟨_, rfl⟩
  rw [← hb7] at H3 ⊢
  clear hb7
  go_upto_region 6 with (first | (refine ld_pat (by rfl) (.tmp 7) rfl rfl H3.out.1 ?_) | (go_at_call 16; (with_reducible refine (CP.out g _ HK3.out).mono ?_); rintro x' w4 ⟨⟨va, rfl, hva⟩, hb4⟩; have HB4 := Lib.hid (stepB HB3.out hb4); have HK4 := Lib.hid (HK3.out.kept hb4); have H4 := Lib.hid (H3.out.kept hb4); have HVA := Lib.hid hva; clear hva hb4) | (refine ld_pat (by rfl) (.tmp 3) rfl rfl (HPW.out _ HB4.out) ?_) | (go_at_call 17; (with_reducible refine (CR.out _ HB4.out).mono ?_); rintro x' w5 ⟨⟨vb, rfl, hvb⟩, hb5⟩; have HB5 := Lib.hid (stepB HB4.out hb5); have HK5 := Lib.hid (HK4.out.kept hb5); have H5 := Lib.hid (H4.out.kept hb5); have HVA5 := Lib.hid (HVA.out.kept hb5); have HVB := Lib.hid hvb; clear hvb hb5))
  have sa := str_run HVA5.out
  have sb := str_run HVB.out
  rw [HSB.out] at sa sb
  go_upto_region 8 with (first | (refine ld_pat (by rfl) (.tmp 7) rfl rfl H5.out.1 ?_) | (refine ld_pat (by rfl) (.tmp 3) rfl rfl (HPW.out _ HB5.out) ?_) | (go_at_call 18; (with_reducible refine (CU.out g _ HB5.out HK5.out).mono ?_); rintro x' w6 ⟨rfl, hb6⟩; have HB6 := Lib.hid (stepB HB5.out hb6); have HVA6 := Lib.hid (HVA5.out.kept hb6); clear hb6))
  by_cases hv : Pt.vpat r l ch = true
  · have h1 := HE.out.1
    have h2 := HE.out.2
    rw [if_pos hv] at h1 h2
    subst h1 h2
    have HV := Lib.hid hv
    obtain ⟨pa, ca, hpa⟩ := HVA6.out.slice
    subst hpa
    obtain ⟨na, hna⟩ : ∃ na, (Pt.packL l r.toNat ch.toNat).length = na := ⟨_, rfl⟩
    have HNA := Lib.hid hna
    rw [hna] at HVA6 ⊢
    clear hv hna sa sb
    go_upto_region 10 with fail
    have HPR := Lib.hid (show ∀ u, Below W.heap.size W u → u.cell? ⟨b, 0, none⟩ = some (.int .i64 r) from fun u hu => HPW.out u hu 0 _ rfl)
    have k0 := HPR.out _ HB6.out
    have hnl : na ≤ 1000000 := by have := packL_le HV.out; have := HNA.out; omega
    have HFA := Lib.hid (show ∀ X : World, w6.heap.size ≤ X.heap.size → ([] : List Int).length = 0 ∧ (Pt.packL l r.toNat ch.toNat).length = na ∧ w6.heap.size ≤ X.heap.size ∧ (0 : Nat) ≤ 1000000 ∧ na ≤ 1000000 from fun X hX => ⟨rfl, HNA.out, hX, by omega, hnl⟩)
    have HFB := Lib.hid (show ∀ u : World, w6.heap.size ≤ u.heap.size → (Pt.packL l r.toNat ch.toNat).length = na ∧ ys.length = ny ∧ w6.heap.size ≤ u.heap.size ∧ na ≤ 1000000 ∧ ny ≤ 1000000 from fun u hu => ⟨HNA.out, HNY.out, hu, hnl, by have := HY.out.2; have := HNY.out; omega⟩)
    clear hnl
    have HPO := Lib.hid (show ∀ u : World, Pb (u.alloc (.cells #[.int .i64 0, .slice none 0 0] 24)) u.heap.size 0 (.slice none 0 0) from fun u => pb_box _ _ _ _)
    have HX := Lib.hid (show (Br (w6.alloc (.cells #[] 5)).drew w6.heap.size (.slice (some ⟨w6.heap.size, 0, none⟩) 0 0) [] ∧ Below w6.heap.size w6 (w6.alloc (.cells #[] 5)).drew) ∧ (Br ((w6.alloc (.cells #[] 5)).alloc (.cells #[.int .i64 0, .slice none 0 0] 24)).drew w6.heap.size (.slice (some ⟨w6.heap.size, 0, none⟩) 0 0) [] ∧ Below w6.heap.size w6 ((w6.alloc (.cells #[] 5)).alloc (.cells #[.int .i64 0, .slice none 0 0] 24)).drew ∧ Pb ((w6.alloc (.cells #[] 5)).alloc (.cells #[.int .i64 0, .slice none 0 0] 24)).drew (w6.heap.size + 1) 0 (.slice none 0 0)) ∧ (Br ((w6.alloc (.cells #[.int .i64 0, .slice none 0 0] 24)).alloc (.cells #[] 5)).drew w6.heap.size (.slice (some ⟨w6.heap.size + 1, 0, none⟩) 0 0) [] ∧ Below w6.heap.size w6 ((w6.alloc (.cells #[.int .i64 0, .slice none 0 0] 24)).alloc (.cells #[] 5)).drew ∧ Pb ((w6.alloc (.cells #[.int .i64 0, .slice none 0 0] 24)).alloc (.cells #[] 5)).drew w6.heap.size 0 (.slice none 0 0)) by
      have e1 : (w6.alloc (.cells #[] 5)).heap.size = w6.heap.size + 1 := by simp
      have e2 : (w6.alloc (.cells #[.int .i64 0, .slice none 0 0] 24)).heap.size = w6.heap.size + 1 := by simp
      have b1 := br_empty w6
      have b2 := br_empty (w6.alloc (.cells #[.int .i64 0, .slice none 0 0] 24))
      have p1 := HPO.out (w6.alloc (.cells #[] 5))
      have p2 := (HPO.out w6).kept (below_box _ (.cells #[] 5))
      rw [e1] at p1
      rw [e2] at b2
      exact ⟨⟨b1.drew, (below_box _ _).drew⟩, ⟨(b1.kept (below_box _ _)).drew, (stepB (below_box _ _) (below_box _ _)).drew, p1⟩, ⟨(b2.lower (by omega)).drew, (stepB (below_box _ _) (below_box _ _)).drew, p2⟩⟩)
    have HIA := Lib.hid (show ∀ X, Below w6.heap.size w6 X → InB X pa (Pt.packL l r.toNat ch.toNat) from fun X hX => (HVA6.out.kept hX).inb.2.1)
    have HMA := Lib.hid (show ∀ (X u : World) (e : Nat), Below w6.heap.size w6 X → w6.heap.size ≤ e → X.grownBy u (some e) → Below W.heap.size W u ∧ w6.heap.size ≤ u.heap.size ∧ InB u q ys ∧ u.cell? ⟨b, 0, none⟩ = some (.int .i64 r) from fun X u e hX he hu => by
      have hb : Below W.heap.size W u := grown_at (stepB HB6.out hX) (by have := HB6.out.size; omega) (by have := HB6.out.size; have := hX.size; omega) hu
      exact ⟨hb, Nat.le_trans hX.size hu.size, HQW.out.below hb, HPR.out _ hb⟩)
    have HMB := Lib.hid (show ∀ (X u : World) (p : Option Addr) (k c : Nat) (zs : List Int), Below W.heap.size W X → w6.heap.size ≤ X.heap.size → Br X w6.heap.size (.slice p k c) zs → X.grownBy u (Value.ownBlock (.slice p k c)) → Below W.heap.size W u ∧ w6.heap.size ≤ u.heap.size ∧ u.cell? ⟨b, 0, none⟩ = some (.int .i64 r) from fun X u p k c zs hX hs hbr hu => by
      have h := grown_base hu (B := w6.heap.size) (fun k hk => (hbr.lt k hk).1) hs
      have hb : Below W.heap.size W u := hX.trans (h.mono HB6.out.size)
      exact ⟨hb, Nat.le_trans hs h.size, HPR.out _ hb⟩)
    have HU8 := Lib.hid (fun (p8 : Option Addr) (c8 : Nat) (u : World) hi hp => unpack_back HV.out HY.out.1 HY.out.2 HNA.out HNY.out HN.out p8 c8 u hi hp)
    unfold PV at HU8
    have kE := HPR.out _ (stepB HB6.out (below_box w6 (.cells #[] 5)))
    have kP := HPR.out _ (stepB HB6.out (below_box w6 (.cells #[.int .i64 0, .slice none 0 0] 24)))
    have kEP := HPR.out _ (stepB (stepB HB6.out (below_box w6 (.cells #[] 5))) (below_box _ (.cells #[.int .i64 0, .slice none 0 0] 24)))
    have kPE := HPR.out _ (stepB (stepB HB6.out (below_box w6 (.cells #[.int .i64 0, .slice none 0 0] 24))) (below_box _ (.cells #[] 5)))
    have CS := Lib.hid (show ∀ (q9 : Option Addr) (cp9 : Nat) (u : World), Below W.heap.size W u → CellsAt u q9 l → Calls Try.prog 11 #[.agg #[.int .i64 r, .slice p n cap], .agg #[.int .i64 r, .slice q9 n cp9]] u fun x w' => x = .returned (.bool true) ∧ Below u.heap.size u w' from fun q9 cp9 u hu hc => by
      have h := p_Same r l p q9 cap cp9 u (HDW.out.below hu) hc (by have := HN.out; have := hn2000.out; omega)
      rw [HN.out] at h
      exact h)
    go_cut [9, 12, 13] (fun e9 t12 t13 wx => ∃ bp q9 cp9, e9 = .int .i64 0 ∧ t12 = .pointer (some ⟨bp, 0, none⟩) ∧ t13 = .int .i64 (na : Nat) ∧ Hid (Below W.heap.size W wx ∧ CellsAt wx q9 l ∧ Pb wx bp r (.slice q9 n cp9)))
    case first =>
      go_region_law (first | (refine step_app rfl (.tmp 57) (.tmp 58) rfl rfl rfl HX.out.1.1 (HIA.out _ HX.out.1.2) (HFA.out _ HX.out.1.2.size) ?_; intro p7 c7 w7 h7 g7 a7; have M7 := Lib.hid (HMA.out _ _ _ HX.out.1.2 (Nat.le_refl _) g7); (rw [Nat.zero_add, List.nil_append] at h7); (rw [Nat.zero_add] at a7 ⊢); have H7 := Lib.hid h7; have k7 := M7.out.2.2.2; have k7a := HPR.out _ (stepB M7.out.1 (below_box w7 (.cells #[.int .i64 0, .slice none 0 0] 24))); clear h7 g7 a7) | (refine step_app rfl (.tmp 57) (.tmp 58) rfl rfl rfl HX.out.2.1.1 (HIA.out _ HX.out.2.1.2.1) (HFA.out _ HX.out.2.1.2.1.size) ?_; intro p7 c7 w7 h7 g7 a7; have M7 := Lib.hid (HMA.out _ _ _ HX.out.2.1.2.1 (Nat.le_refl _) g7); (rw [Nat.zero_add, List.nil_append] at h7); (rw [Nat.zero_add] at a7 ⊢); have H7 := Lib.hid h7; have k7 := M7.out.2.2.2; have k7a := HPR.out _ (stepB M7.out.1 (below_box w7 (.cells #[.int .i64 0, .slice none 0 0] 24))); have HPB := Lib.hid (HX.out.2.1.2.2.apart (rr := some w6.heap.size) g7 (by simp)); have HAP := Lib.hid (own_apart (bp := w6.heap.size + 1) (e := w6.heap.size) a7 rfl (by omega) (by simp)); clear h7 g7 a7) | (refine step_app rfl (.tmp 57) (.tmp 58) rfl rfl rfl HX.out.2.2.1 (HIA.out _ HX.out.2.2.2.1) (HFA.out _ HX.out.2.2.2.1.size) ?_; intro p7 c7 w7 h7 g7 a7; have M7 := Lib.hid (HMA.out _ _ (w6.heap.size + 1) HX.out.2.2.2.1 (Nat.le_succ _) g7); (rw [Nat.zero_add, List.nil_append] at h7); (rw [Nat.zero_add] at a7 ⊢); have H7 := Lib.hid h7; have k7 := M7.out.2.2.2; have k7a := HPR.out _ (stepB M7.out.1 (below_box w7 (.cells #[.int .i64 0, .slice none 0 0] 24))); have HPB := Lib.hid (HX.out.2.2.2.2.apart (rr := some (w6.heap.size + 1)) g7 (by simp)); have HAP := Lib.hid (own_apart (bp := w6.heap.size) (e := w6.heap.size + 1) a7 rfl (by omega) (by simp; omega)); clear h7 g7 a7) | (refine step_app rfl (.tmp 59) (.tmp 60) rfl rfl rfl H7.out M7.out.2.2.1 (HFB.out _ M7.out.2.1) ?_; intro p8 c8 w8 h8 g8 a8; have M8 := Lib.hid (HMB.out _ _ _ _ _ _ M7.out.1 M7.out.2.1 H7.out g8); have H8 := Lib.hid h8; have k8 := M8.out.2.2; have k8a := HPR.out _ (stepB M8.out.1 (below_box w8 (.cells #[.int .i64 0, .slice none 0 0] 24))); have HPB8 := Lib.hid (HPB.out.apart g8 (fun e => HAP.out _ e rfl)); clear h8 g8 a8) | (refine step_app rfl (.tmp 59) (.tmp 60) rfl rfl rfl H7.out M7.out.2.2.1 (HFB.out _ M7.out.2.1) ?_; intro p8 c8 w8 h8 g8 a8; have M8 := Lib.hid (HMB.out _ _ _ _ _ _ M7.out.1 M7.out.2.1 H7.out g8); have H8 := Lib.hid h8; have k8 := M8.out.2.2; have k8a := HPR.out _ (stepB M8.out.1 (below_box w8 (.cells #[.int .i64 0, .slice none 0 0] 24))); clear h8 g8 a8) | (refine step_app rfl (.tmp 59) (.tmp 60) rfl rfl rfl (H7.out.kept (below_box _ (.cells #[.int .i64 0, .slice none 0 0] 24))) (M7.out.2.2.1.below (below_box _ (.cells #[.int .i64 0, .slice none 0 0] 24))) (HFB.out _ (Nat.le_trans M7.out.2.1 (below_box _ (.cells #[.int .i64 0, .slice none 0 0] 24)).size)) ?_; intro p8 c8 w8 h8 g8 a8; have M8 := Lib.hid (HMB.out _ _ _ _ _ _ (stepB M7.out.1 (below_box _ (.cells #[.int .i64 0, .slice none 0 0] 24))) (Nat.le_trans M7.out.2.1 (below_box _ (.cells #[.int .i64 0, .slice none 0 0] 24)).size) (H7.out.kept (below_box _ (.cells #[.int .i64 0, .slice none 0 0] 24))) g8); have H8 := Lib.hid h8; have k8 := M8.out.2.2; have k8a := HPR.out _ (stepB M8.out.1 (below_box w8 (.cells #[.int .i64 0, .slice none 0 0] 24))); have HPB8 := Lib.hid ((HPO.out w7).apart g8 (fun e => by have := (H7.out.lt _ e).2; omega)); clear h8 g8 a8) | (go_simp; go_at_call 19; (with_reducible refine (HU8.out _ _ _ H8.out.inb.2.1 H8.out.inb.2.2).mono ?_); rintro x' w9 ⟨⟨q9, cp9, rfl, ho9⟩, hb9⟩; have HPB9 := Lib.hid (HPB8.out.kept hb9); have HC9 := Lib.hid HPB8.out.lt; have HO9 := Lib.hid ho9; have HB9 := Lib.hid (stepB M8.out.1 hb9); obtain ⟨y0, y1, y2, y3⟩ := HPB9.out.cells; clear ho9 hb9) | (go_simp; go_at_call 19; (with_reducible refine (HU8.out _ _ _ H8.out.inb.2.1 H8.out.inb.2.2).mono ?_); rintro x' w9 ⟨⟨q9, cp9, rfl, ho9⟩, hb9⟩; have HO9 := Lib.hid ho9; have HB9 := Lib.hid (stepB M8.out.1 hb9); clear ho9 hb9) | (go_simp; go_at_call 19; (with_reducible refine (HU8.out _ _ _ (H8.out.kept (below_box _ (.cells #[.int .i64 0, .slice none 0 0] 24))).inb.2.1 (H8.out.kept (below_box _ (.cells #[.int .i64 0, .slice none 0 0] 24))).inb.2.2).mono ?_); rintro x' w9 ⟨⟨q9, cp9, rfl, ho9⟩, hb9⟩; have HPB9 := Lib.hid ((HPO.out w8).kept hb9); have HC9 := Lib.hid (HPO.out w8).lt; have HO9 := Lib.hid ho9; have HB9 := Lib.hid (stepB (stepB M8.out.1 (below_box _ (.cells #[.int .i64 0, .slice none 0 0] 24))) hb9); obtain ⟨y0, y1, y2, y3⟩ := HPB9.out.cells; clear ho9 hb9))
      all_goals
        first
          | (have HF := Lib.hid (pat_fin (r := r) (n := n) (cp := cp9) HO9.out HPB9.out HB9.out (by have := HB6.out.size; have := M7.out.1.size; have := M8.out.1.size; omega) (.inl HC9.out)); clear y0 y1 y2 y3)
          | have HF := Lib.hid (show Below W.heap.size W (w9.alloc (.cells #[.int .i64 r, .slice q9 n cp9] 24)) ∧ CellsAt (w9.alloc (.cells #[.int .i64 r, .slice q9 n cp9] 24)) q9 l ∧ Pb (w9.alloc (.cells #[.int .i64 r, .slice q9 n cp9] 24)) w9.heap.size r (.slice q9 n cp9) from ⟨stepB HB9.out (below_box _ _), HO9.out.at.below (below_box _ _), pb_box _ _ _ _⟩)
      all_goals clear k0 k7 k7a k8 k8a kE kP kEP kPE
      all_goals
        go_wp2_with fail
        go_meet
        case rel => exact ⟨_, _, _, rfl, rfl, rfl, HF.out⟩
    case rest =>
      clear k0 kE kP kEP kPE
      obtain ⟨bp, q9, cp9, rfl, rfl, rfl, HF⟩ := hcut
      go_wp2_with (first | (refine ld_pat (by rfl) (.tmp 3) rfl rfl (HPW.out _ HF.out.1) ?_) | (refine ld_pat (by rfl) (.tmp 12) rfl rfl HF.out.2.2.1 ?_) | (go_at_call 11; (with_reducible refine (CS.out _ _ _ HF.out.1 HF.out.2.1).mono ?_); rintro x' w11 ⟨rfl, hb11⟩; have HB11 := Lib.hid hb11; clear hb11) | (go_at_call 8; ((with_reducible refine (p_awake _).mono ?_); rintro x' w12 ⟨rfl, hb12⟩)))
      go_ret
      exact ⟨rfl, stepB HB.out (stepB HF.out.1 (stepB HB11.out hb12))⟩
  · have h1 := HE.out.1
    have h2 := HE.out.2
    rw [if_neg hv] at h1 h2
    subst h1 h2
    clear hv
    go_wp2_with (first | (go_at_call 8; ((with_reducible refine (p_awake _).mono ?_); rintro x' w7 ⟨rfl, hb7⟩)))
    go_ret
    exact ⟨rfl, stepB HB.out (stepB HB6.out hb7)⟩
theorem packs_any (r : Int) (l : List Pt.Cl) (p : Option Addr) (cap : Nat) (ch : Int) (q : Option Addr) (ys : List Int) (c : Nat) (w : World) (hd : CellsAt w p l) (hcap : l.length ≤ cap) (hm : cap ≤ maxLen) (hq : InB w q ys) (hy : Pt.bys ys) (hm2 : ys.length ≤ maxLen) :
    Calls Try.prog 4 #[PV r p l.length cap, .int .i64 ch, .slice q ys.length c] w fun x w' => x = .returned (.bool true) ∧ Below w.heap.size w w' := by
  by_cases h : l.length ≤ 2000 ∧ ys.length ≤ 5000
  · exact packs_light r l p cap ch q ys c w hd hcap hq hy h.1 h.2
  · exact packs_dark r l p cap ch q ys.length c w (by unfold maxLen at hm; omega) (by unfold maxLen at hm2; omega) h
end Go.Proofs.Ytfjfnbeegojlbaa
