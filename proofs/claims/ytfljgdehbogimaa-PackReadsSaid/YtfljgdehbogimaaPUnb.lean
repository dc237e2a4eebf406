/-
  The contract of package pack's Unblocks.
-/
import Derived.Test.YtfljgdehbogimaaPUb
namespace Go.Proofs.Ytfljgdehbogimaa
open Go.RowKit

/-- What a round of Unblocks keeps. -/
structure UbR (b : Int) (n B g : Nat) (T : List Int → List Int) (S : List Int → World → Prop) (bs : List Int) (W : World) (d uv fv : Value) (wr : World) : Prop where
  ex : ∃ (a : List Int) (k u : Nat), d = .slice (some ⟨g, 0, none⟩) n n ∧ uv = .int .i64 u ∧ fv = .int .i64 ((256 * k : Nat) : Int) ∧ 256 * k < n + 256 ∧ a.length = min (256 * k) n ∧ u ≤ bs.length ∧ still b n bs a u ∧ Rb B g n T S a wr ∧ Below B W wr
theorem fld_frame0 (F F' : Nat) (cb cb' : Array Value) (w : World) : (Instr.field 53 (.agg #[.func (.func F) #[] cb, .func (.func F') #[] cb']) 1).run Try.prog w = .ok (.func (.func F') #[] cb') w := fld_frame F F' cb cb' w
theorem results_tmp4 {fn : Func} {t u v x : Tmp} (h : fn.results = #[.tmp t, .tmp u, .tmp v, .tmp x]) (tmps : Array Value) (P : Program) (w : World) :
    (results fn tmps).run P w = .ok (.tuple #[tmps.getD t undef, tmps.getD u undef, tmps.getD v undef, tmps.getD x undef]) w := by
  simp [results, h]
theorem byt_drop {w : World} {bd od : Nat} {b : List Int} (h : BytAt w (some ⟨bd, od, none⟩) b) (u : Nat) : BytAt w (some ⟨bd, od + u, none⟩) (b.drop u) := by
  rcases h with rfl | ⟨b0, o0, hp, hl, hc⟩
  · exact .inl (by simp)
  · simp only [Option.some.injEq, Addr.mk.injEq] at hp
    obtain ⟨rfl, rfl, _⟩ := hp
    refine .inr ⟨_, _, rfl, hl, fun i hi => ?_⟩
    rw [List.length_drop] at hi
    have := hc (u + i) (by omega)
    rw [show od + u + i = od + (u + i) by omega, this]
    simp [List.getD_eq_getElem?_getD]
set_option maxRecDepth 20000 in
set_option maxHeartbeats 3200000 in
theorem unb_ok (bs : List Int) (pb : Option Addr) (capb n : Nat) (b v : Int) (F0 : Nat) (T T' : List Int → List Int) (w : World) (H0 : Begun v b F0 T T') (hd : BytAt w pb bs) (hdb : ∀ x ∈ bs, 0 ≤ x ∧ x < 256) (hlc : bs.length ≤ capb) (hb8 : b = 8 ∨ b = 16) (h : ask bs.length n = 0) :
    Calls Try.prog 16 #[.slice pb bs.length capb, .int .i64 b, .int .i64 v, .int .i64 n] w fun e w' => ubPost T' n w.heap.size (ub b (n + 1) n bs) e w' ∧ Below w.heap.size w w' := by
  have lk := (H0.look (w.alloc (.map verMap 2)) w.heap.size (heap_alloc_new _ _))
  have e0 := H0.enters
  have C0 := Lib.hid (p_codings w)
  have C1 := Lib.hid (p_validBits_t b (w.alloc (.map verMap 2)) hb8)
  have C2 := Lib.hid (H0.calls)
  have hb4 : (bs.length : Int) ≤ 400000 ∧ (n : Int) ≤ 4096 := by
    unfold ask at h
    split at h
    · omega
    · split at h
      · omega
      · omega
  have C3 := Lib.hid (h ▸ p_askBytes pb bs.length capb n (w.alloc (.map verMap 2)) (by omega))
  have fv := fld_frame0
  obtain ⟨i0, hinf, hz0, hz1, hz2⟩ := info_parts Try.infoInt
  have hb1 := hb4.1
  have hb2 := hb4.2
  clear hb4
  go_enter Try.func16, Try.ntmps16
  go_wp2_with (first | (go_at_call 28; ((with_reducible refine C0.out.mono ?_); rintro x' w' ⟨rfl, rfl⟩)) | (go_at_call 33; ((with_reducible refine C1.out.mono ?_); rintro x' w' ⟨rfl, rfl⟩)) | (go_at_call 34; ((with_reducible refine C3.out.mono ?_); rintro x' w' ⟨rfl, rfl⟩)) | (at_make; refine wpList_make_full _ rfl _ _ 22 rfl (w.heap.size + 1) 3 i0 (.int .i64 0) 1 Try.underlying22 hinf hz0 hz1 .i64 .i64 _ _ n rfl rfl rfl rfl (by rw [hz2]; omega) (by unfold maxLen; omega) (by simp) ?_; intro w4 hown4 hgrow4; have HOWN := Lib.hid hown4; have HB4 := Lib.hid (grown_below hgrow4); clear hown4 hgrow4) | (go_at_fn F0; ((with_reducible refine (C2.out _).mono ?_); rintro x' w3 ⟨⟨F, cb, F', cb', S, S', hi, rfl, hT, hS, hT', hS', hhi⟩, hb3⟩; (have HT := Lib.hid hT'); (have HS := Lib.hid hS'); (have HB3 := Lib.hid hb3); clear hT hS hT' hS' hb3)))
  have HOW : Hid (w4.ownsRow (w.heap.size + 1) 3 1 (.slice (some ⟨w.heap.size + 1, 0, none⟩) n n) n (frow (fun i => (T' []).getD i 0) n 0)) := by
    have e : (madeCells (Value.int .i64 0).cells (n * 1)).toList = frow (fun i => (T' []).getD i 0) n 0 := by rw [frow_zero, Nat.mul_one]; exact toList_madeCells_one _ n
    have := HOWN.out
    rw [e] at this
    exact Lib.hid (by simpa using this)
  have hsz4 := HB4.out.size
  have hg4 := (World.ownsRow.lt HOW.out (w.heap.size + 1) rfl).2
  have hsz3 := HB3.out.size
  have HR0 := Lib.hid (⟨HS.out, row_stays HOW.out HB3.out⟩ : Rb (w.heap.size + 1) (w.heap.size + 1) n T' S' [] w3)
  have HBW := Lib.hid ((((Below.refl w.heap.size w).alloc (Nat.le_refl _) (.map verMap 2)).trans (HB4.out.mono (by simp))).trans (HB3.out.mono (by simp at hsz4; omega)))
  obtain ⟨B, hB⟩ : ∃ B, w.heap.size + 1 = B := ⟨_, rfl⟩
  obtain ⟨lo, hlo⟩ : ∃ lo, w4.heap.size = lo := ⟨_, rfl⟩
  have HDB := Lib.hid (fun w' (hb : Below B w3 w') => hd.below (HBW.out.trans (hb.mono (by omega))))
  have HBB := Lib.hid hB
  rw [hB] at HR0 hg4
  rw [hlo] at HT hsz3 hg4
  rw [hB]
  clear hB hlo HOW HOWN HB4 HB3 HS C0 C1 C2 C3 lk fv hd hsz4 h
  obtain ⟨lb, hlb⟩ : ∃ lb, bs.length = lb := ⟨_, rfl⟩
  have HLB := Lib.hid hlb
  rw [hlb] at hlc hb1
  have HDB0 := Lib.hid (And.intro (HDB.out w3 (Below.refl _ _)) hdb)
  have hhi2 : hi = w3.heap.size := hhi
  have HPRE := Lib.hid (pre_of HT.out)
  simp only [hlb]
  clear hlb hdb hhi e0
  go_loopw [8, 9, 16] (fun d uv fv wr => UbR b n B B T' S' bs w3 d uv fv wr) (fun _ _ fv _ => n + 256 - (intOf fv).toNat)
  case atStart => exact ⟨[], 0, 0, rfl, rfl, rfl, by omega, by simp, by omega, still_start b n bs, HR0.out, Below.refl _ _⟩
  case round =>
    clear HR0
    obtain ⟨a, k, u, rfl, rfl, rfl, hk, hal, hu, hst, hR, hbw⟩ := hrel
    rw [HLB.out] at hu
    have HST := Lib.hid hst
    have HR := Lib.hid hR
    have HBw := Lib.hid hbw
    have hsz := hbw.size
    clear hst hR hbw
    obtain ⟨f, hf⟩ : ∃ f, 256 * k = f := ⟨_, rfl⟩
    rw [hf] at hk hal ⊢
    have HF := Lib.hid hf
    clear hf
    by_cases hlt : f < n
    · have haf : a.length = f := by omega
      have HAF := Lib.hid haf
      clear hal haf
      obtain ⟨m, hm⟩ : ∃ m, min (n - f) 256 = m := ⟨_, rfl⟩
      have HM := Lib.hid hm
      have hm1 : 1 ≤ m := by omega
      have hm2 : (m : Int) ≤ 256 := by omega
      have hfm : (f : Int) + m ≤ n := by omega
      go_upto_region 12 with fail
      go_cut [17] (fun t17 wx => (∃ cx, t17 = .slice (some ⟨B, f, none⟩) m cx) ∧ wx = wr)
      case first =>
        by_cases hfit : f + 256 ≤ n
        · have e : m = 256 := by omega
          subst e
          clear hm hm1 hm2 hfm
          go_wp2
          all_goals go_meet
          all_goals exact ⟨⟨n - f, by first | rfl | (congr 1; omega)⟩, rfl⟩
        · have e : m = n - f := by omega
          subst e
          clear hm hm1 hm2 hfm
          go_wp2
          go_meet
          exact ⟨⟨_, rfl⟩, rfl⟩
      case rest =>
        obtain ⟨⟨cx, rfl⟩, rfl⟩ := hcut
        have hw3 : B ≤ w3.heap.size := by omega
        have hfn : f ≤ n := by omega
        by_cases hend : u = lb
        · have hdr : bs.drop u = [] := List.drop_eq_nil_of_le (by rw [HLB.out]; omega)
          have HE := Lib.hid (still_end HST.out hdr)
          subst hend
          clear hdr hm
          have CN := Lib.hid (fun (q : Option Addr) (c : Nat) (w1 : World) => rb_none q c (.slice (some ⟨B, f, none⟩) m cx) b (.func (.func F') #[] cb') w1)
          have hm0 : (0 : Int) < m := by omega
          have HB1 := Lib.hid (HBW.out.trans (HBw.out.mono (by have := HBB.out; omega)))
          have HPO := Lib.hid (fun (x : Int) (w' : World) (hw : w'.heap = wc.heap) (hx : x = (n : Int) - f) => ubPost_of (T' := T') (n := n) (A := w.heap.size) (B := B) (g := B) (x := x) (w' := w') HE.out rfl (by rw [HAF.out]; exact hfn) (HPRE.out a) (row_of HR.out.row (by rw [hw])) (by have := HBB.out; omega) (by rw [HAF.out, hx]; omega))
          go_wp2_with (first | (go_at_call 40; ((with_reducible refine (CN.out _ _ _).mono ?_); rintro x' w' ⟨rfl, rfl⟩)))
          all_goals ((try simp only [Exit.inBlock, Exit.then]); refine bodyPost_ret (results_tmp4 rfl _ _ _) rfl ?_)
          all_goals exact ⟨HPO.out _ _ rfl rfl, HB1.out⟩
        · have hul : u < lb := by omega
          obtain ⟨y, rest, hdr⟩ : ∃ y rest, bs.drop u = y :: rest := by
            cases hq : bs.drop u with
            | nil => have := List.drop_eq_nil_iff.mp hq; rw [HLB.out] at this; omega
            | cons y r => exact ⟨y, r, rfl⟩
          obtain ⟨bd, od, rfl⟩ : ∃ bd od, pb = some ⟨bd, od, none⟩ := by
            obtain ⟨b0, o0, hp, _⟩ := (HDB0.out.1).at (i := u) (by rw [HLB.out]; exact hul)
            exact ⟨b0, o0, hp⟩
          have hBY := fun w' (hb : Below B w3 w') => byt_drop (HDB.out w' hb) u
          have hBL : (bs.drop u).length = lb - u := by rw [List.length_drop, HLB.out]
          have hBR : ∀ x ∈ bs.drop u, 0 ≤ x ∧ x < 256 := fun x hx => HDB0.out.2 x (List.mem_of_mem_drop hx)
          have y0 := hBR y (by rw [hdr]; exact List.mem_cons_self)
          have hyc : bs.getD u 0 = y := by
            have e : (bs.drop u).getD 0 0 = y := by rw [hdr]; rfl
            rw [← e, List.getD_eq_getElem?_getD, List.getD_eq_getElem?_getD, List.getElem?_drop, Nat.add_zero]
          obtain ⟨lr, hlr⟩ : ∃ lr, lb - u = lr + 1 := ⟨lb - u - 1, by omega⟩
          have HY := Lib.hid hyc
          have hcu : ¬ capb = u := by omega
          have hcb : lr + 1 ≤ capb - u := by omega
          have hfa : a.length < n := by rw [HAF.out]; exact hlt
          have hdt : (bs.drop u).tail = rest := by rw [hdr]; rfl
          have hlrl : rest.length = lr := by rw [← hdt, List.length_tail, hBL, hlr]; rfl
          have HB1 := Lib.hid (HBW.out.trans (HBw.out.mono (by have := HBB.out; omega)))
          by_cases hy : 1 ≤ y ∧ y ≤ b
          · obtain ⟨wd, rfl⟩ : ∃ wd : Nat, y = wd := ⟨y.toNat, by omega⟩
            have hw1 : 1 ≤ wd := by omega
            have CO := rb_ok B B n F' lo hi bd (od + u) lr (capb - u) m cx wd cb' T' S' HT.out a (bs.drop u) b wc HR.out (Nat.le_refl _) hg4 (by omega) (by omega) (fun w' hb => hBY w' (HBw.out.trans hb)) hBR (hBL.trans hlr) hcb (by omega) (by rw [hdr]; rfl) hw1 hy.2 (by omega) hm2 (by have := HAF.out; omega) hb2
            rw [hdt, HAF.out] at CO
            have HSC := Lib.hid (fun hc => still_cut (m := m) HST.out hdr hfa hy (by rw [HAF.out]; exact HM.out) hc)
            have HSG := Lib.hid (fun hc => still_go (m := m) HST.out hdr hfa hy (by rw [HAF.out]; exact HM.out) hc)
            rw [hlrl] at HSC HSG
            obtain ⟨Wh, hWh⟩ : ∃ Wh, min m (8 * lr / wd) = Wh := ⟨_, rfl⟩
            obtain ⟨Sz, hSz⟩ : ∃ Sz, 1 + min lr ((wd * m + 7) / 8) = Sz := ⟨_, rfl⟩
            have hSl : Sz ≤ lr + 1 := by rw [← hSz]; omega
            have hWm : Wh ≤ m := by rw [← hWh]; omega
            rw [hWh, hSz] at CO HSC HSG
            have HAL := Lib.hid (show (a ++ rbL rest wd Wh).length = f + Wh by rw [List.length_append, rbL_length, HAF.out])
            obtain ⟨A, hA⟩ : ∃ A, a ++ rbL rest wd Wh = A := ⟨_, rfl⟩
            rw [hA] at CO HSC HSG HAL
            have CR := Lib.hid CO
            have HUL := Lib.hid (show u + Sz ≤ lb by omega)
            clear CO hWh hSz hA hdr hBY hBL hBR y0 hyc hdt hlrl hy hm
            by_cases hcut : Wh < m
            · have HPO := Lib.hid (fun (U X : Int) (w' : World) (hU : U = (u : Int) + Sz) (hX : X = (n : Int) - f - Wh) (hR : Rb B B n T' S' A w') => (show ubPost T' n w.heap.size (ub b (n + 1) n bs) (.returned (.tuple #[.slice (some ⟨B, 0, none⟩) n n, .int .i64 U, .int .i64 X, .int .i64 0])) w' from by
                rw [show U = ((u + Sz : Nat) : Int) by omega]
                exact ubPost_of (A := w.heap.size) (B := B) (HSC.out hcut) rfl (by rw [HAL.out]; omega) (HPRE.out A) hR.row (by have := HBB.out; omega) (by rw [HAL.out]; omega)))
              go_wp2_with (first | (go_at_call 40; ((with_reducible refine CR.out.mono ?_); rintro x' w' ⟨rfl, hr, hb⟩; have HBE := Lib.hid (HB1.out.trans (hb.mono (by have := HBB.out; omega))); have HRE := Lib.hid hr; clear hb hr)))
              all_goals ((try simp only [Exit.inBlock, Exit.then]); refine bodyPost_ret (results_tmp4 rfl _ _ _) rfl ?_)
              all_goals exact ⟨HPO.out _ _ _ (by omega) (by omega) HRE.out, HBE.out⟩
            · have e : Wh = m := by omega
              subst e
              go_wp2_with (first | (go_at_call 40; ((with_reducible refine CR.out.mono ?_); rintro x' w' ⟨rfl, hr, hb⟩; have HBE := Lib.hid (HBw.out.trans (hb.mono (by omega))); have HRE := Lib.hid hr; clear hb hr)))
              refine ⟨⟨A, k + 1, u + Sz, rfl, by first | rfl | (congr 1; omega), by first | rfl | (congr 1; have := HF.out; omega), by have := HF.out; omega, by have := HF.out; have := HAL.out; have := HM.out; omega, by rw [HLB.out]; exact HUL.out, HSG.out hcut, HRE.out, HBE.out⟩, ?_⟩
              simp [intOf]
              omega
          · have hc0 : wc.cell? ⟨bd, od + u, none⟩ = some (.int .u8 y) := by
              obtain ⟨b0, o0, hp, hc⟩ := (HDB.out wc HBw.out).at (i := u) (by rw [HLB.out]; exact hul)
              simp only [Option.some.injEq, Addr.mk.injEq] at hp
              obtain ⟨rfl, rfl, _⟩ := hp
              rw [← HY.out]
              exact hc
            have CR := Lib.hid (rb_bad bd (od + u) (lr + 1) (capb - u) (.slice (some ⟨B, f, none⟩) m cx) b (.func (.func F') #[] cb') y wc hc0 y0.1 y0.2 (by omega) (by omega) (by omega) hy)
            have HE := Lib.hid (still_bad HST.out hdr hfa hy)
            clear hdr hBY hBL hBR y0 hyc hdt hlrl hy hm hc0
            go_wp2_with (first | (go_at_call 40; go_loud ((with_reducible refine CR.out.mono ?_); rintro x' w' ⟨rfl, hb⟩; have HBE := Lib.hid (stepB HB1.out hb); clear hb)))
            all_goals ((try simp only [Exit.inBlock, Exit.then]); refine bodyPost_ret (results_tmp4 rfl _ _ _) rfl ?_)
            all_goals exact ⟨ubPost_none HE.out, HBE.out⟩
    · have hfn : n ≤ f := by omega
      have haf : a.length = n := by omega
      have HE := Lib.hid (still_done HST.out haf)
      have HPO := Lib.hid (ubPost_of (T' := T') (n := n) (A := w.heap.size) (B := B) (g := B) (x := 0) (w' := wr) HE.out rfl (by omega) (HPRE.out a) HR.out.row (by have := HBB.out; omega) (by omega))
      have HB1 := Lib.hid (HBW.out.trans (HBw.out.mono (by have := HBB.out; omega)))
      clear hal haf
      go_wp2
      all_goals ((try simp only [Exit.inBlock, Exit.then]); refine bodyPost_ret (results_tmp4 rfl _ _ _) rfl ?_)
      all_goals exact ⟨HPO.out, HB1.out⟩
end Go.Proofs.Ytfljgdehbogimaa
