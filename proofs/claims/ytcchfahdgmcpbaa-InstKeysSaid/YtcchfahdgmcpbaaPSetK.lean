/-
  The contract of package inst's SetKeys: for any instrument and numbers.
-/
import Derived.Test.YtcchfahdgmcpbaaPSetB
import Derived.Deep.DeepCutAuto
namespace Go.Proofs.Ytcchfahdgmcpbaa
open Go.RowKit

theorem ivld_lens {i : In.Ins} (h : In.ivld i = true) : (i.keys.length : Int) ≤ 1000 ∧ (i.vol.pts.length : Int) ≤ 1000 ∧ (i.pan.pts.length : Int) ≤ 1000 ∧ (i.pit.pts.length : Int) ≤ 1000 := by
  simp only [In.ivld, Bool.and_eq_true] at h
  obtain ⟨-, hk, h1, h2, h3, -⟩ := h
  have a1 := (In.vld_parts h1).1
  have a2 := (In.vld_parts h2).1
  have a3 := (In.vld_parts h3).1
  refine ⟨?_, by omega, by omega, by omega⟩
  rcases In.kys_parts hk with h | h
  · rw [h]; simp
  · omega
theorem there_grown {w w' : World} {b n row : Nat} (h : w.there b 0 n) (hg : w.grownBy w' (some row)) (hne : b ≠ row) (hl : b < w.heap.size) : w'.there b 0 n := by
  have hb := hg.block b hl (by simpa using hne)
  intro j hj
  rw [World.cell?_of_block (a := ⟨b, 0 + j, none⟩) hb, World.frozen?_of_block (a := ⟨b, 0 + j, none⟩) hb]
  exact h j hj
/-- The copy lies in block c; block r waits. -/
structure Sb (w0 : World) (b r c : Nat) (i : In.Ins) (a : In.Loc) (w : World) : Prop where
  rng : w.rangeAt c 0 (IL i a)
  th : w.there c 0 33
  res : w.there r 0 33
  pv : PtsAt w a.v i.vol.pts ∧ Ou c c a.v i.vol.pts ∧ On (r + 1) a.v i.vol.pts
  pp : PtsAt w a.p i.pan.pts ∧ Ou c c a.p i.pan.pts ∧ On (r + 1) a.p i.pan.pts
  pt : PtsAt w a.t i.pit.pts ∧ Ou c c a.t i.pit.pts ∧ On (r + 1) a.t i.pit.pts
  key : i.keys ≠ [] → ∃ g, a.k = some ⟨g, 0, none⟩ ∧ r < g ∧ g < c ∧ Kr w g i.keys ∧ Ou g g a.v i.vol.pts ∧ Ou g g a.p i.pan.pts ∧ Ou g g a.t i.pit.pts
  blw : Below b w0 w
  ne : b ≤ r ∧ r < c
theorem sb_new {w0 w2 w3 w4 : World} {b r c : Nat} {i : In.Ins} {a a1 : In.Loc} (h : Cl w0 b r i a w2) (hb : Below w2.heap.size w2 w3) (hp : IPts w3 i a1) (hon : On w2.heap.size a1.v i.vol.pts ∧ On w2.heap.size a1.p i.pan.pts ∧ On w2.heap.size a1.t i.pit.pts)
    (hk : i.keys ≠ [] → ∃ g, a1.k = some ⟨g, 0, none⟩ ∧ w2.heap.size ≤ g ∧ Kr w3 g i.keys ∧ Ou g g a1.v i.vol.pts ∧ Ou g g a1.p i.pan.pts ∧ Ou g g a1.t i.pit.pts)
    (hc : c = w3.heap.size) (hg : (w3.alloc (.cells (IL In.zer In.zel).toArray 40)).grownBy w4 (some c)) (hr : w4.rangeAt c 0 (IL i a1)) (ht : w4.there c 0 33) (hbr : b ≤ r) : Sb w0 b r c i a1 w4 := by
  have hr2 := there_lt h.res
  have hs := hb.size
  have hx := below_box w3 (.cells (IL In.zer In.zel).toArray 40)
  have A : Ap c c (w3.alloc (.cells (IL In.zer In.zel).toArray 40)) w4 := ap_grown hg (Nat.le_refl c) (Nat.le_refl c)
  have on : ∀ {p l}, On w2.heap.size p l → On (r + 1) p l := fun h => by
    rcases h with h | h
    · exact .inl h
    · exact .inr fun g off hp => Nat.le_trans hr2 (h g off hp)
  have one : ∀ {p l}, PtsAt w3 p l → PtsAt w4 p l ∧ Ou c c p l := fun {p l} h => by
    have ho : Ou c c p l := ou_old h (Nat.le_of_eq hc.symm)
    exact ⟨(h.below hx).ap ho A, ho⟩
  refine ⟨hr, ht, there_grown (there_kept (there_kept h.res hb) hx) hg (by omega) (by simp; omega), ⟨(one hp.2.1).1, (one hp.2.1).2, on hon.1⟩, ⟨(one hp.2.2.1).1, (one hp.2.2.1).2, on hon.2.1⟩, ⟨(one hp.2.2.2).1, (one hp.2.2.2).2, on hon.2.2⟩, fun hne => ?_, ?_, hbr, by omega⟩
  · obtain ⟨g, h1, h2, h3, h4⟩ := hk hne
    have hgc : g < c := by rw [hc]; exact h3.1
    exact ⟨g, h1, by omega, hgc, (h3.kept hx).ap (.inl hgc) A, h4⟩
  · have hb2 : b ≤ w2.heap.size := by omega
    exact ((h.blw.trans (hb.mono hb2)).trans (hx.mono (by omega))).grown hg (by simp; omega) (fun k hk => by simp at hk; omega)
theorem oe_of {g r : Nat} {p : Option Addr} {l : List (Int × Int)} (h : Ou g g p l) (ho : On (r + 1) p l) : Oe g r p l := by
  rcases h with h | h
  · exact .inl h
  · rcases ho with ho | ho
    · exact .inl ho
    · refine .inr fun x off hp => ?_
      have := h x off hp
      have := ho x off hp
      omega
theorem sb_some {w0 w : World} {b r c : Nat} {i : In.Ins} {a : In.Loc} (h : Sb w0 b r c i a w) (hl : (i.keys.length : Int) = 120) : ∃ g, Sk w0 b r c g i (In.bas i.keys) a w := by
  have hne : i.keys ≠ [] := by intro e; rw [e] at hl; simp at hl
  obtain ⟨g, h1, h2, h3, h4, h5, h6, h7⟩ := h.key hne
  have hr : b ≤ r := h.ne.1
  refine ⟨g, In.bas_len _, ?_, h.res, h1, by rw [In.bas_some hl]; exact h4, ⟨h.pv.1, oe_of h5 h.pv.2.2⟩, ⟨h.pp.1, oe_of h6 h.pp.2.2⟩, ⟨h.pt.1, oe_of h7 h.pt.2.2⟩, h.blw, by omega, by omega, by omega, hr⟩
  rw [il_keys i a (show (In.bas i.keys).length = i.keys.length by rw [In.bas_some hl])]
  exact h.rng
theorem sb_none {w0 w w5 : World} {b r c g : Nat} {i : In.Ins} {a : In.Loc} (h : Sb w0 b r c i a w) (h0 : i.keys = []) (hb : Below w.heap.size w w5) (hg : w.heap.size ≤ g) (hk : Kr w5 g (In.bas [])) :
    Sk w0 b r c g i (In.bas i.keys) { a with k := some ⟨g, 0, none⟩, ck := 120 } (w5.setCell ⟨c, 1, none⟩ (.slice (some ⟨g, 0, none⟩) 120 120)) := by
  have hc : c < w.heap.size := range_lt h.rng
  have hr : b ≤ r ∧ r < c := h.ne
  have A : Ap c c w5 (w5.setCell ⟨c, 1, none⟩ (.slice (some ⟨g, 0, none⟩) 120 120)) := ap_set w5 _ (Nat.le_refl c) (Nat.le_refl c)
  have ou : ∀ {p l}, PtsAt w p l → Ou g g p l := fun h => ou_old h hg
  refine ⟨In.bas_len _, ?_, set_there (there_kept h.res hb), rfl, by rw [h0]; exact hk.ap (.inr (by omega)) A, ⟨(h.pv.1.below hb).ap h.pv.2.1 A, oe_of (ou h.pv.1) h.pv.2.2⟩, ⟨(h.pp.1.below hb).ap h.pp.2.1 A, oe_of (ou h.pp.1) h.pp.2.2⟩, ⟨(h.pt.1.below hb).ap h.pt.2.1 A, oe_of (ou h.pt.1) h.pt.2.2⟩, (h.blw.trans (hb.mono (by omega))).setCell (p := ⟨c, 1, none⟩) (by show b ≤ c; omega) _, by omega, by omega, by omega, hr.1⟩
  have e : IL (In.withK i (In.bas i.keys)) { a with k := some ⟨g, 0, none⟩, ck := 120 } = (IL i a).set 1 (.slice (some ⟨g, 0, none⟩) 120 120) := by
    show _ :: Value.slice _ (In.bas i.keys).length _ :: _ = _
    rw [In.bas_len]
    rfl
  rw [e]
  exact set_range (range_kept h.rng hb)
set_option maxRecDepth 100000 in
set_option maxHeartbeats 6400000 in
theorem p_set_ok (i : In.Ins) (a : In.Loc) (f t s m : Int) (w : World) (hd : IPts w i a) (h : In.ivld i = true) (h2 : In.skok f t s m = true) :
    Calls Try.prog 24 #[.agg (IL i a).toArray, .int .i64 f, .int .i64 t, .int .i64 s, .int .i64 m] w fun x w' => RetS (In.skI i f t s m) (In.skE i f t s m) w.heap.size x w' ∧ Below w.heap.size w w' := by
  have HE := Lib.hid (show In.skE i f t s m = 0 by unfold In.skE; rw [if_pos h, if_pos h2])
  have HJ := Lib.hid (show In.skI i f t s m = In.withK i (In.sk i.keys f t s m) by unfold In.skI; rw [h, h2]; rfl)
  obtain ⟨q1, q2, q3, q4, q5, q6, q7⟩ := In.skok_parts h2
  obtain ⟨A, rfl⟩ : ∃ A : Nat, f = A := ⟨f.toNat, by omega⟩
  obtain ⟨T, rfl⟩ : ∃ T : Nat, t = T := ⟨t.toNat, by omega⟩
  obtain ⟨W, hW⟩ : ∃ W, W = (w.alloc (.cells (IL i a).toArray 40)).alloc (.cells (IL In.zer In.zel).toArray 40) := ⟨_, rfl⟩
  obtain ⟨b, hbe⟩ : ∃ b, b = w.heap.size := ⟨_, rfl⟩
  obtain ⟨r, hre⟩ : ∃ r, r = b + 1 := ⟨_, rfl⟩
  have HC0 := Lib.hid (show Cl w b r i a W by
    have q1 : w.heap.size + 1 = (w.alloc (.cells (IL i a).toArray 40)).heap.size := by simp
    rw [hW, hre, hbe]
    refine ⟨range_kept (range_box _ _ _) (below_box _ _), there_kept (there_box _ (IL i a) _) (below_box _ _), ?_, ⟨(hd.1.below (below_box _ _)).below (below_box _ _), ou_old hd.1 (Nat.le_refl _)⟩, ⟨(hd.2.1.below (below_box _ _)).below (below_box _ _), ou_old hd.2.1 (Nat.le_refl _)⟩, ⟨(hd.2.2.1.below (below_box _ _)).below (below_box _ _), ou_old hd.2.2.1 (Nat.le_refl _)⟩, ⟨(hd.2.2.2.below (below_box _ _)).below (below_box _ _), ou_old hd.2.2.2 (Nat.le_refl _)⟩, stepB (below_box _ _) (below_box _ _)⟩
    rw [q1]
    exact there_box _ (IL In.zer In.zel) _)
  have hbr : b ≤ r := by omega
  have HRW := Lib.hid (show r < W.heap.size by rw [hW, hre, hbe]; simp)
  have HWB := Lib.hid (show w.heap.size ≤ r by omega)
  have HBE := Lib.hid hbe
  have HB0 := Lib.hid (Below.refl W.heap.size W)
  have C2 := Lib.hid (fun u (hu : Below W.heap.size W u) => onB hu (p_Valid i a u ⟨(HC0.out.kept hu).pk.1, (HC0.out.kept hu).pv.1, (HC0.out.kept hu).pp.1, (HC0.out.kept hu).pt.1⟩))
  obtain ⟨l1, l2, l3, l4⟩ := ivld_lens h
  have C7 := Lib.hid (fun u (hu : Below W.heap.size W u) => p_clone i a u ⟨(HC0.out.kept hu).pk.1, (HC0.out.kept hu).pv.1, (HC0.out.kept hu).pp.1, (HC0.out.kept hu).pt.1⟩ l1 l2 l3 l4)
  have HKP := Lib.hid (In.kys_parts (In.ivld_keys h))
  rw [h] at C2
  clear h l1 l2 l3 l4
  simp only [iv_il] at C2
  have C3 := Lib.hid (fun u => p_note A u)
  have C4 := Lib.hid (fun u => p_within T A 119 u)
  have C5 := Lib.hid (fun u => p_within s (-119) 119 u)
  have C6 := Lib.hid (fun u => p_sample m u)
  rw [show In.wth (A : Int) 0 119 = true from decide_eq_true (by omega)] at C3
  rw [show In.wth (T : Int) A 119 = true from decide_eq_true (by omega)] at C4
  rw [show In.wth s (-119) 119 = true from decide_eq_true (by omega)] at C5
  rw [show In.wth m 0 31 = true from decide_eq_true (by omega)] at C6
  clear h2
  go_enter Try.func24, Try.ntmps24
  go_upto_region 1 with (first | (refine al_inst (by rfl) rfl ?_))
  rw [← hW, ← hbe, ← hre]
  clear hW hre hbe hd
  go_upto_region 5 with (first | (refine ld_inst (by rfl) _ rfl rfl HC0.out.rng ?_) | (go_at_call 20; ((with_reducible refine (C2.out _ HB0.out).mono ?_); rintro x' w2 ⟨rfl, hb2⟩; have HB2 := Lib.hid hb2; clear hb2)) | (go_at_call 42; ((with_reducible refine (C3.out _).mono ?_); rintro x' wq ⟨rfl, rfl⟩)) | (go_at_call 40; ((with_reducible refine (C4.out _).mono ?_); rintro x' wq ⟨rfl, rfl⟩)) | (go_at_call 40; ((with_reducible refine (C5.out _).mono ?_); rintro x' wq ⟨rfl, rfl⟩)) | (go_at_call 48; ((with_reducible refine (C6.out _).mono ?_); rintro x' wq ⟨rfl, rfl⟩)))
  go_upto_region 6 with (first | (refine ld_inst (by rfl) _ rfl rfl (HC0.out.kept HB2.out).rng ?_) | (go_at_call 49; ((with_reducible refine (C7.out _ HB2.out).mono ?_); rintro x' w3 ⟨⟨a1, rfl, hip, hon, hkk⟩, hb3⟩; have HIP := Lib.hid (And.intro hip (And.intro hon hkk)); have HB3 := Lib.hid hb3; have HT3 := Lib.hid (there_box w3 (IL In.zer In.zel) 40); clear hip hon hkk hb3)) | (refine al_inst (by rfl) rfl ?_) | ((refine st_inst (by rfl) _ _ rfl rfl rfl HT3.out ?_); intro w4 hr4 ht4 hg4))
  obtain ⟨c, hc⟩ : ∃ c, c = w3.heap.size := ⟨_, rfl⟩
  rw [← hc] at hr4 ht4 hg4 ⊢
  have HS := Lib.hid (sb_new (HC0.out.kept HB2.out) HB3.out HIP.out.1 HIP.out.2.1 HIP.out.2.2 hc hg4 hr4 ht4 hbr)
  clear hr4 ht4 hg4 HIP HB3 HT3 hc
  have x1 := HS.out.rng 1 _ rfl
  rw [Nat.zero_add] at x1
  go_upto_if 43 with fail
  clear x1
  go_cut [] (fun wx => ∃ g a2, Hid (Sk w b r c g i (In.bas i.keys) a2 wx))
  case first =>
    rcases HKP.out with h0 | ⟨h1, -⟩
    · have hz : ((i.keys.length : Int) == 0) = true := by rw [h0]; rfl
      have H0 := Lib.hid h0
      clear h0
      go_wp2_with (first | (go_at_call 50; ((with_reducible refine (p_own _).mono ?_); rintro x' w5 ⟨⟨g, rfl, hgs, hkr⟩, hb5⟩; have y1 := (range_kept HS.out.rng hb5) 1 _ rfl; have f1 := (there_kept HS.out.th hb5 1 (by omega)).2; rw [Nat.zero_add] at y1 f1; have HK5 := Lib.hid (And.intro hgs (And.intro hkr hb5)); clear hgs hkr hb5)))
      go_meet
      exact ⟨_, _, sb_none HS.out H0.out HK5.out.2.2 HK5.out.1 HK5.out.2.1⟩
    · have hz : ((i.keys.length : Int) == 0) = false := by rw [h1]; rfl
      have H1 := Lib.hid h1
      clear h1
      go_wp2
      go_meet
      obtain ⟨g, hg⟩ := sb_some HS.out H1.out
      exact ⟨g, _, hg⟩
  case rest =>
    obtain ⟨g, a2, HG⟩ := hcut
    clear HS HKP HB2 HC0 HRW C2 C3 C4 C5 C6 C7
    go_wp2
    go_loopw [13] (fun j wr => ∃ n : Nat, j = .int .i64 n ∧ A ≤ n ∧ n ≤ T + 1 ∧ Hid (Sk w b r c g i (In.stp i.keys A n s m) a2 wr)) (fun j _ => T + 1 - (intOf j).toNat)
    case atStart => exact ⟨A, rfl, by omega, by omega, by rw [In.stp_none]; exact HG.out⟩
    case round =>
      obtain ⟨n, rfl, hn1, hn2, HS⟩ := hrel
      by_cases hlt : n ≤ T
      · have hni : (n : Int) ≤ T := by omega
        have hn9 : (n : Int) ≤ 119 := by omega
        have hn0 : (0 : Int) ≤ n := by omega
        have x1 := HS.out.cell
        obtain ⟨⟨c1, c2⟩, f1, f2⟩ := HS.out.kr.2 n (by rw [HS.out.len]; omega)
        have HST := Lib.hid (HS.out.step (L' := In.stp i.keys A (n + 1) s m) n (min (max ((n : Int) + s) 0) 119) m (In.stp_len _ _ _ _ _) (fun j hj => In.stp_succ i.keys s m hn1 hj))
        go_wp2
        go_roundw
        case rel => exact ⟨n + 1, by go_num, by omega, by omega, HST.out⟩
        case measure => simp [intOf]; omega
      · obtain rfl : n = T + 1 := by omega
        have HSX := Lib.hid (show Sk w b r c g i (In.sk i.keys A T s m) a2 wr by rw [← In.stp_all]; exact HS.out)
        have HR := Lib.hid HSX.out.rng
        have x1 := HSX.out.cell
        go_wp2_with (first | (refine ld_inst (by rfl) _ rfl rfl HR.out ?_) | ((refine st_inst (by rfl) _ _ rfl rfl rfl HSX.out.res ?_); intro w6 hr6 ht6 hg6))
        refine bodyPost_ret (res_two rfl rfl hr6 rfl) rfl ?_
        rw [HE.out, HJ.out]
        exact HSX.out.out HBE.out hg6
theorem p_SetKeys (i : In.Ins) (a : In.Loc) (f t s m : Int) (w : World) (hd : IPts w i a) :
    Calls Try.prog 24 #[.agg (IL i a).toArray, .int .i64 f, .int .i64 t, .int .i64 s, .int .i64 m] w fun x w' => RetS (In.skI i f t s m) (In.skE i f t s m) w.heap.size x w' ∧ Below w.heap.size w w' := by
  cases h : In.ivld i
  · exact p_set_no i a f t s m w hd h
  · cases h2 : In.skok f t s m
    · exact p_set_bad i a f t s m w hd h h2
    · exact p_set_ok i a f t s m w hd h h2
end Go.Proofs.Ytcchfahdgmcpbaa
