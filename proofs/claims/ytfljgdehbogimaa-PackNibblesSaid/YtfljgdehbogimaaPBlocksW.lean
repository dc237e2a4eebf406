/-
  The contract of package pack's Blocks: the walk.
-/
import Derived.Test.YtfljgdehbogimaaPBlocks
namespace Go.Proofs.Ytfljgdehbogimaa
open Go.RowKit

theorem take_snoc {l : List Int} {k : Nat} (hk : k < l.length) {y : Int} (hy : l.getD k 0 = y) : l.take k ++ [y] = l.take (k + 1) := by
  rw [List.take_add_one, ← hy]
  simp [List.getD_eq_getElem?_getD, hk]
theorem whl_in {l : List Int} {b : Int} (h : whl l b = 0) : ∀ x ∈ l, -1048576 ≤ x ∧ x ≤ 1048576 := fun x hx => by
  obtain ⟨h1, h2, _⟩ := whl_zero h
  have h0 := h2 x hx
  have := Pk.wrp_lo (x := x) (hlf_pos b)
  have := Pk.wrp_hi (x := x) (hlf_pos b)
  have := hlf_le (b := b) (by omega)
  omega
theorem fld_value (F F' : Nat) (cb cb' : Array Value) (w : World) : (Instr.field 53 (.agg #[.func (.func F) #[] cb, .func (.func F') #[] cb']) 0).run Try.prog w = .ok (.func (.func F) #[] cb) w := by kernel_rfl
theorem fld_frame (F F' : Nat) (cb cb' : Array Value) (w : World) : (Instr.field 53 (.agg #[.func (.func F) #[] cb, .func (.func F') #[] cb']) 1).run Try.prog w = .ok (.func (.func F') #[] cb') w := by kernel_rfl
/-- What a version's begin is: where the map has it, and what it makes. -/
structure Begun (v : Int) (b : Int) (F0 : Nat) (T T' : List Int → List Int) : Prop where
  look : ∀ (w : World) r, w.heap[r]? = some (.map verMap 2) → (Instr.lookup 50 (.map (some r)) (.int .i64 v) true).run Try.prog w = .ok (.tuple #[.func (.func F0) #[] #[], .bool true]) w
  enters : ∀ args w, (callFunc F0 args).run Try.prog w = .ok (.enter F0 args) w
  calls : ∀ w, Calls Try.prog F0 #[.int .i64 b] w fun e w' => Coded T T' w.heap.size e w' ∧ Below w.heap.size w w'
  all : ∀ l, alw (T l) 16 = true
  len : ∀ l, (T l).length = l.length
set_option maxRecDepth 20000 in
set_option maxHeartbeats 3200000 in
theorem blocks_ok (l : List Int) (p : Option Addr) (cap : Nat) (b v : Int) (F0 : Nat) (T T' : List Int → List Int) (w : World) (H0 : Begun v b F0 T T') (hd : DatAt w p l) (hl : (l.length : Int) ≤ 1152921504606846976) (h : whl l b = 0) :
    Calls Try.prog 11 #[.slice p l.length cap, .int .i64 b, .int .i64 v] w fun e w' => (∃ u, e = .returned (.tuple #[u, .int .i64 0]) ∧ w'.ownsRow w.heap.size 5 1 u (blks (T l)).length ((blks (T l)).map (Value.int .u8))) ∧ Below w.heap.size w w' := by
  have HL := Lib.hid (H0.look (w.alloc (.map verMap 2)) w.heap.size (heap_alloc_new _ _))
  have lk := HL.out
  have e0 := H0.enters
  have HD := Lib.hid hd
  have C0 := Lib.hid (p_codings w)
  have C1 := Lib.hid (h ▸ p_askData l p cap b (w.alloc (.map verMap 2)) (hd.below (below_box w _)) hl)
  have C2 := Lib.hid (H0.calls (w.alloc (.map verMap 2)))
  have h4 := (whl_zero h).2.2
  have HR := Lib.hid (whl_in h)
  clear hl h hd
  have fv := fld_value
  obtain ⟨i0, hinf, hz0, hz1, hz2⟩ := info_parts Try.infoInt
  go_enter Try.func11, Try.ntmps11
  go_wp2_with (first | (go_at_call 28; ((with_reducible refine C0.out.mono ?_); rintro x' w' ⟨rfl, rfl⟩)) | (go_at_call 24; ((with_reducible refine C1.out.mono ?_); rintro x' w' ⟨rfl, rfl⟩)) | (go_at_fn F0; ((with_reducible refine C2.out.mono ?_); rintro x' w3 ⟨⟨F, cb, F', cb', S, S', hi, rfl, hT, hS, hT', hS', hhi⟩, hb3⟩; have HB3 := Lib.hid (((Below.refl w.heap.size w).alloc (Nat.le_refl _) (.map verMap 2)).trans (hb3.mono (by simp))); have s3 := hb3.size; (have HT := Lib.hid hT); (have HS := Lib.hid hS); clear hT hS hT' hS' hb3)) | (at_make; refine wpList_make_full _ rfl _ _ 22 rfl w3.heap.size 3 i0 (.int .i64 0) 1 Try.underlying22 hinf hz0 hz1 .i64 .i64 _ _ l.length rfl rfl rfl rfl (by rw [hz2]; omega) (by unfold maxLen; omega) (by simp) ?_; intro w4 hown4 hgrow4; have HOWN := Lib.hid hown4; have HB4 := Lib.hid (grown_below hgrow4); clear hown4 hgrow4))
  have hiE := hhi
  obtain ⟨g, hg⟩ : ∃ g, w3.heap.size = g := ⟨_, rfl⟩
  have LN := Lib.hid (show (T l).length = l.length from H0.len l)
  have HO0 : Hid (w4.ownsRow g 3 1 (.slice (some ⟨g, 0, none⟩) l.length l.length) l.length (frow (fun i => (T l).getD i 0) l.length 0)) := by
    have e : (madeCells (Value.int .i64 0).cells (l.length * 1)).toList = frow (fun i => (T l).getD i 0) l.length 0 := by rw [frow_zero, Nat.mul_one]; exact toList_madeCells_one _ l.length
    have := HOWN.out
    rw [e, hg] at this
    exact Lib.hid (by simpa using this)
  have HS0 := Lib.hid (HT.out.stays _ _ _ HS.out (Out.of HB4.out (Nat.le_of_eq hhi)))
  have HBW := Lib.hid (HB3.out.trans (HB4.out.mono (by have := HB3.out.size; exact this)))
  have hs4 : g ≤ w4.heap.size := by have := HB4.out.size; omega
  obtain ⟨lo, hlo⟩ : ∃ lo, (w.alloc (.map verMap 2)).heap.size = lo := ⟨_, rfl⟩
  have HLH := Lib.hid (show lo ≤ hi by rw [hhi, ← hlo]; exact s3)
  have hlo2 : w.heap.size ≤ lo := by rw [← hlo]; simp
  have HH := Lib.hid (hhi.trans hg)
  rw [hlo] at HT
  rw [hg]
  clear hhi hiE hg hlo HOWN HS HB3 HB4 s3 C0 C1 C2 HL lk fv
  have e1 := HT.out.enters
  go_loopw [40] (fun i wr => ∃ k : Nat, k ≤ l.length ∧ i = .int .i64 k ∧ Hid (S (l.take k) wr) ∧ Hid (wr.ownsRow g 3 1 (.slice (some ⟨g, 0, none⟩) l.length l.length) l.length (frow (fun i => (T l).getD i 0) l.length k)) ∧ Hid (Below w.heap.size w wr)) (fun i _ => l.length - (intOf i).toNat)
  case atStart => exact ⟨0, by omega, rfl, HS0.out, HO0.out, HBW.out⟩
  case round =>
    clear HS0 HO0 HBW hs4
    obtain ⟨k, hk, rfl, HS, HU, hbw⟩ := hrel
    by_cases hlt : k < l.length
    · obtain ⟨bd, od, hp1, hc1⟩ := (HD.out.below hbw.out).at (i := k) hlt
      obtain ⟨y, hy⟩ : ∃ y, l.getD k 0 = y := ⟨_, rfl⟩
      have hyb := getD_in (P := fun x => -1048576 ≤ x ∧ x ≤ 1048576) HR.out hlt
      have hz := HT.out.at l hlt
      rw [hy] at hc1 hyb hz
      obtain ⟨z, hze⟩ : ∃ z, (T l).getD k 0 = z := ⟨_, rfl⟩
      rw [hze] at hz
      have HZ := Lib.hid hze
      have C := Lib.hid (show Calls Try.prog F (#[.int .i64 y] ++ cb) wr fun e w' => e = .returned (.int .i64 z) ∧ S (l.take (k + 1)) w' ∧ Mid lo hi wr w' by
        have := HT.out.calls (l.take k) y wr hyb.1 hyb.2 HS.out
        rw [hz, take_snoc hlt hy] at this
        exact this)
      clear hy hz hze
      subst hp1
      go_wp2_with (first | (go_at_fn F; ((with_reducible refine C.out.mono ?_); rintro x' w5 ⟨rfl, hs5, hm5⟩; have HS5 := Lib.hid hs5; have HM5 := Lib.hid hm5; have HU5 := Lib.hid (row_mid HU.out hm5 (Nat.le_of_eq HH.out)); have a0 := (HU5.out.cellAt k (by omega)).trans (frow_at (fun i => (T l).getD i 0) hlt); have a1 := HU5.out.frozenAt k; clear hs5 hm5)))
      go_roundw
      case rel => exact ⟨k + 1, by omega, by go_num, HT.out.stays _ _ _ HS5.out (out_set w5 _ (.inr (Nat.le_of_eq HH.out))), (congrArg _ (frow_set (fun i => (T l).getD i 0) hlt HZ.out.symm)).mp (HU5.out.stored k (.int .i64 z)).1, (hbw.out.trans (HM5.out.belowB hbw.out.size hlo2)).setCell (Nat.le_trans (Nat.le_trans hlo2 HLH.out) (Nat.le_of_eq HH.out)) _⟩
      case measure => simp [intOf]; omega
    · have HE : Hid (wr.ownsRow g 3 1 (.slice (some ⟨g, 0, none⟩) l.length l.length) l.length ((T l).map (Value.int .i64))) := Lib.hid (by
        have := HU.out
        rw [show k = l.length by omega, frow_full _ LN.out fun i hi => rfl] at this
        exact this)
      obtain ⟨L, hL⟩ : ∃ L, T l = L := ⟨_, rfl⟩
      obtain ⟨N, hN⟩ : ∃ N, l.length = N := ⟨_, rfl⟩
      have HTL := Lib.hid hL
      have ha := H0.all l
      rw [hL] at HE LN ha ⊢
      rw [hN] at HE LN h4
      simp only [hN]
      have HA := Lib.hid ha
      have HLN := Lib.hid LN.out
      have hge : ¬ k < N := by omega
      clear hL hN ha HU HS HR HD HT e1 e0 H0 hlt hk LN
      obtain ⟨B, hBe⟩ : ∃ B, wr.heap.size = B := ⟨_, rfl⟩
      have hgB : g < B := by have := (World.ownsRow.lt HE.out g rfl).2; omega
      have hwB : w.heap.size ≤ B := by have := hbw.out.size; omega
      have HBE := Lib.hid hBe
      clear hBe
      go_wp2
      clear hge
      go_loopw [15, 16] (fun u i wr => ∃ j : Nat, 256 * j < N + 256 ∧ i = .int .i64 ((256 * j : Nat) : Int) ∧ Hid (wr.ownsRow B 5 1 u (blksN L j).length ((blksN L j).map (Value.int .u8))) ∧ Hid (wr.ownsRow g 3 1 (.slice (some ⟨g, 0, none⟩) N N) N (L.map (Value.int .i64))) ∧ Hid (Below w.heap.size w wr) ∧ B ≤ wr.heap.size) (fun _ i _ => N + 256 - (intOf i).toNat)
      case atStart => exact ⟨0, by omega, rfl, ⟨rfl, .inl ⟨rfl, rfl⟩⟩, HE.out, hbw.out, Nat.le_of_eq HBE.out.symm⟩
      case round =>
        clear HE hbw HBE
        obtain ⟨j, hj, rfl, HO, HE, hbw, hBr⟩ := hrel
        obtain ⟨f, hf⟩ : ∃ f, 256 * j = f := ⟨_, rfl⟩
        rw [hf] at hj ⊢
        have HF := Lib.hid hf
        have HN := Lib.hid HLN.out
        have hpl := part_length L j
        rw [hf, HLN.out] at hpl
        by_cases hlt : f < N
        · have hbl := blksN_length L j
          have C := Lib.hid (fun u cap (h : wr.ownsRow B 5 1 u (blksN L j).length ((blksN L j).map (Value.int .u8))) => p_appendBlock B (blksN L j) (part L j) u (some ⟨g, f, none⟩) cap wr h (fun w' hb => by
            have h2 := row_base HE.out hb hgB
            rw [← HLN.out] at h2
            have := part_dat h2 j
            rw [hf] at this
            exact this) hBr (by omega) (alw_part HA.out j) (by omega))
          by_cases hfit : f + 256 ≤ N
          · rw [show (part L j).length = 256 by omega] at C
            clear hf hpl hbl
            go_wp2_with (first | (go_at_call 29; ((with_reducible refine (C.out _ _ HO.out).mono ?_); rintro x' w6 ⟨⟨v6, rfl, ho6⟩, hb6⟩; (rw [← blksN_succ] at ho6); have HO6 := Lib.hid ho6; have HE6 := Lib.hid (row_base HE.out hb6 hgB); have HB6 := Lib.hid (hbw.out.trans (hb6.mono hwB)); have hs6 := hb6.size; clear ho6 hb6)))
            go_roundw
            case rel => exact ⟨j + 1, by have := HF.out; omega, by have := HF.out; rw [show 256 * (j + 1) = f + 256 by omega]; go_num, HO6.out, HE6.out, HB6.out, Nat.le_trans hBr hs6⟩
            case measure => simp [intOf]; omega
          · rw [show (part L j).length = N - f by omega] at C
            clear hf hpl hbl
            go_wp2_with (first | (go_at_call 29; ((with_reducible refine (C.out _ _ HO.out).mono ?_); rintro x' w6 ⟨⟨v6, rfl, ho6⟩, hb6⟩; (rw [← blksN_succ] at ho6); have HO6 := Lib.hid ho6; have HE6 := Lib.hid (row_base HE.out hb6 hgB); have HB6 := Lib.hid (hbw.out.trans (hb6.mono hwB)); have hs6 := hb6.size; clear ho6 hb6)))
            go_roundw
            case rel => exact ⟨j + 1, by have := HF.out; omega, by have := HF.out; rw [show 256 * (j + 1) = f + 256 by omega]; go_num, HO6.out, HE6.out, HB6.out, Nat.le_trans hBr hs6⟩
            case measure => simp [intOf]; omega
        · have HQ := Lib.hid (show wr.ownsRow w.heap.size 5 1 u15 (blks L).length ((blks L).map (Value.int .u8)) by
            have e : blks L = blksN L j := by
              unfold blks blksN
              rw [show (L.length + 255) / 256 = j by have := HLN.out; omega]
            rw [e]
            exact row_lower HO.out hwB)
          clear hf hpl
          go_wp2
          go_ret2
          exact ⟨⟨u15, rfl, by rw [HTL.out]; exact HQ.out⟩, hbw.out⟩
/-- The error that Blocks returns. -/
def blkE (l : List Int) (b v : Int) : Int := if v = 1 ∨ v = 2 then whl l b else 1
/-- What Blocks of a version writes. -/
def enc (b v : Int) (l : List Int) : List Int := if v = 2 then Pk.difs (hlf b) 0 (Pk.difs (hlf b) 0 l) else Pk.difs (hlf b) 0 l
def dec (b v : Int) (l : List Int) : List Int := if v = 2 then Pk.sums (hlf b) 0 (Pk.sums (hlf b) 0 l) else Pk.sums (hlf b) 0 l
theorem alw_difs {b : Int} (h : b = 8 ∨ b = 16) (l : List Int) : alw (Pk.difs (hlf b) 0 l) 16 = true := by
  unfold alw
  rw [decide_eq_true_eq]
  intro x hx
  have h1 := Pk.difs_in (hlf_pos b) 0 l x hx
  have h8 : hlf 8 = 128 := by decide
  have h16 : hlf 16 = 32768 := by decide
  rw [Pk.wrp_iff (hlf_pos 16), h16]
  rcases h with rfl | rfl
  · rw [h8] at h1; omega
  · rw [h16] at h1; omega
theorem begun1 {b : Int} (h : b = 8 ∨ b = 16) : Begun 1 b 55 (enc b 1) (dec b 1) where
  look := fun w r h => look_1 w r h
  enters := ent_cod1
  calls := fun w => p_cod1 b w (by omega) (by omega)
  all := fun l => alw_difs h l
  len := fun l => Pk.difs_length _ 0 l
theorem begun2 {b : Int} (h : b = 8 ∨ b = 16) : Begun 2 b 56 (enc b 2) (dec b 2) where
  look := fun w r h => look_2 w r h
  enters := ent_cod2
  calls := fun w => p_cod2 b w (by omega) (by omega)
  all := fun l => alw_difs h _
  len := fun l => (Pk.difs_length _ 0 _).trans (Pk.difs_length _ 0 l)
theorem blocks_known (l : List Int) (p : Option Addr) (cap : Nat) (b v : Int) (F0 : Nat) (w : World) (lk0 : ∀ (w : World) r, w.heap[r]? = some (.map verMap 2) → (Instr.lookup 50 (.map (some r)) (.int .i64 v) true).run Try.prog w = .ok (.tuple #[.func (.func F0) #[] #[], .bool true]) w) (hd : DatAt w p l) (hl : (l.length : Int) ≤ 1152921504606846976) (h : whl l b ≠ 0) :
    Calls Try.prog 11 #[.slice p l.length cap, .int .i64 b, .int .i64 v] w fun e w' => e = .returned (.tuple #[.slice none 0 0, .int .i64 (whl l b)]) ∧ Below w.heap.size w w' := by
  have lk := lk0 (w.alloc (.map verMap 2)) w.heap.size (heap_alloc_new _ _)
  have C0 := Lib.hid (p_codings w)
  have C1 := Lib.hid (p_askData l p cap b (w.alloc (.map verMap 2)) (hd.below (below_box w _)) hl)
  have HB := Lib.hid (below_box w (.map verMap 2))
  obtain ⟨z, hz⟩ : ∃ z, whl l b = z := ⟨_, rfl⟩
  rw [hz] at C1 h ⊢
  have h2 : (z != 0) = true := by simpa using h
  clear hz hd h lk0
  go_enter Try.func11, Try.ntmps11
  go_wp2_with (first | (go_at_call 28; ((with_reducible refine C0.out.mono ?_); rintro x' w' ⟨rfl, rfl⟩)) | (go_at_call 24; ((with_reducible refine C1.out.mono ?_); rintro x' w' ⟨rfl, rfl⟩)))
  go_ret2
  exact ⟨rfl, HB.out⟩
theorem blocks_else (p : Option Addr) (n cap : Nat) (b v : Int) (w : World) (h : ¬ (v = 1 ∨ v = 2)) :
    Calls Try.prog 11 #[.slice p n cap, .int .i64 b, .int .i64 v] w fun e w' => e = .returned (.tuple #[.slice none 0 0, .int .i64 1]) ∧ Below w.heap.size w w' := by
  have lk := look_else (w.alloc (.map verMap 2)) w.heap.size v (heap_alloc_new _ _) (fun e => h (.inl e)) (fun e => h (.inr e))
  have C0 := Lib.hid (p_codings w)
  have HB := Lib.hid (below_box w (.map verMap 2))
  clear h
  go_enter Try.func11, Try.ntmps11
  go_wp2_with (first | (go_at_call 28; ((with_reducible refine C0.out.mono ?_); rintro x' w' ⟨rfl, rfl⟩)))
  go_ret2
  exact ⟨rfl, HB.out⟩
/-- What Blocks returns. -/
theorem p_Blocks (l : List Int) (p : Option Addr) (cap : Nat) (b v : Int) (w : World) (hd : DatAt w p l) (hl : (l.length : Int) ≤ 1152921504606846976) :
    Calls Try.prog 11 #[.slice p l.length cap, .int .i64 b, .int .i64 v] w fun e w' => (∃ u, e = .returned (.tuple #[u, .int .i64 (blkE l b v)]) ∧ (blkE l b v ≠ 0 → u = .slice none 0 0) ∧ (blkE l b v = 0 → w'.ownsRow w.heap.size 5 1 u (blks (enc b v l)).length ((blks (enc b v l)).map (Value.int .u8)))) ∧ Below w.heap.size w w' := by
  by_cases hv : v = 1 ∨ v = 2
  · have e : blkE l b v = whl l b := if_pos hv
    rw [e]
    by_cases h : whl l b = 0
    · have h8 := (whl_zero h).1
      rw [h]
      rcases hv with rfl | rfl
      · exact (blocks_ok l p cap b 1 _ _ _ w (begun1 h8) hd hl h).mono fun e w' ⟨⟨u, h1, h2⟩, h3⟩ => ⟨⟨u, h1, fun h => absurd rfl h, fun _ => h2⟩, h3⟩
      · exact (blocks_ok l p cap b 2 _ _ _ w (begun2 h8) hd hl h).mono fun e w' ⟨⟨u, h1, h2⟩, h3⟩ => ⟨⟨u, h1, fun h => absurd rfl h, fun _ => h2⟩, h3⟩
    · rcases hv with rfl | rfl
      · exact (blocks_known l p cap b 1 _ w look_1 hd hl h).mono fun e w' ⟨h1, h3⟩ => ⟨⟨_, h1, fun _ => rfl, fun h' => absurd h' h⟩, h3⟩
      · exact (blocks_known l p cap b 2 _ w look_2 hd hl h).mono fun e w' ⟨h1, h3⟩ => ⟨⟨_, h1, fun _ => rfl, fun h' => absurd h' h⟩, h3⟩
  · have e : blkE l b v = 1 := if_neg hv
    rw [e]
    exact (blocks_else p l.length cap b v w hv).mono fun e w' ⟨h1, h3⟩ => ⟨⟨_, h1, fun _ => rfl, fun h' => absurd h' (by decide)⟩, h3⟩
end Go.Proofs.Ytfljgdehbogimaa
