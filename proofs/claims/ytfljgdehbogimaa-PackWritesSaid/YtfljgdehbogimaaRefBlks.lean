/-
  The contract of the reference's Blocks.
-/
import Derived.Test.YtfljgdehbogimaaRefBlkW
import Derived.Test.YtfljgdehbogimaaPBlocksW
namespace Go.Proofs.Ytfljgdehbogimaa
open Go.RowKit

def lenV : Value → Nat
  | .slice _ n _ => n
  | _ => 0
theorem one_all (k : IntKind) (l : List Int) : ∀ u ∈ l.map (Value.int k), u.oneCell' = true := by
  intro u hu
  rw [List.mem_map] at hu
  obtain ⟨x, _, rfl⟩ := hu
  rfl
theorem blkE_bits {b v : Int} (l : List Int) (h : ¬ (b = 8 ∨ b = 16)) : blkE l b v = 1 := by
  unfold blkE whl
  rw [if_neg h]
  split <;> rfl
theorem rblocks_bad (l : List Int) (p : Option Addr) (cap : Nat) (b v : Int) (w : World) (hd : DatAt w p l) (hi : ∀ x ∈ l, -9223372036854775808 ≤ x ∧ x ≤ 9223372036854775807) (hl : (l.length : Int) ≤ 1152921504606846976) (h : blkE l b v ≠ 0) :
    Calls Try.prog 12 #[.slice p l.length cap, .int .i64 b, .int .i64 v] w fun e w' => e = .returned (.tuple #[.slice none 0 0, .int .i64 (blkE l b v)]) ∧ w = w' := by
  by_cases hb : b = 8 ∨ b = 16
  · have C1 := Lib.hid (rright_t b w hb)
    by_cases hv : v = 1 ∨ v = 2
    · have C2 := Lib.hid (show Calls Try.prog 31 #[.int .i64 v] w fun e w' => e = .returned (.bool true) ∧ w = w' from by
        have := rversioned v w
        rwa [show (v == 1 || v == 2) = true by rcases hv with rfl | rfl <;> rfl] at this)
      have e : blkE l b v = whl l b := if_pos hv
      rw [e] at h ⊢
      have R := Lib.hid (rwhole l p cap b w hd hi hl)
      obtain ⟨z, hz⟩ : ∃ z, whl l b = z := ⟨_, rfl⟩
      rw [hz] at R h ⊢
      have h2 : (z != 0) = true := by simpa using h
      clear hz hd hi h hb hv e
      go_enter Try.func12, Try.ntmps12
      go_wp2_with (first | (go_at_call 30; ((with_reducible refine C1.out.mono ?_); rintro x' w' ⟨rfl, rfl⟩)) | (go_at_call 31; ((with_reducible refine C2.out.mono ?_); rintro x' w' ⟨rfl, rfl⟩)) | (go_at_call 26; ((with_reducible refine R.out.mono ?_); rintro x' w' ⟨rfl, rfl⟩)))
      go_ret2
      exact ⟨rfl, rfl⟩
    · have C2 := Lib.hid (show Calls Try.prog 31 #[.int .i64 v] w fun e w' => e = .returned (.bool false) ∧ w = w' from by
        have := rversioned v w
        rwa [show (v == 1 || v == 2) = false by
          have h1 : v ≠ 1 := fun e => hv (.inl e)
          have h2 : v ≠ 2 := fun e => hv (.inr e)
          simp [h1, h2]] at this)
      have e : blkE l b v = 1 := if_neg hv
      rw [e]
      clear h hb hv e hd hi
      go_enter Try.func12, Try.ntmps12
      go_wp2_with (first | (go_at_call 30; ((with_reducible refine C1.out.mono ?_); rintro x' w' ⟨rfl, rfl⟩)) | (go_at_call 31; ((with_reducible refine C2.out.mono ?_); rintro x' w' ⟨rfl, rfl⟩)))
      go_ret2
      exact ⟨rfl, rfl⟩
  · have C1 := Lib.hid (rright_f b w hb)
    rw [blkE_bits l hb]
    clear h hb hd hi
    go_enter Try.func12, Try.ntmps12
    go_wp2_with (first | (go_at_call 30; ((with_reducible refine C1.out.mono ?_); rintro x' w' ⟨rfl, rfl⟩)))
    go_ret2
    exact ⟨rfl, rfl⟩
set_option maxRecDepth 20000 in
set_option maxHeartbeats 3200000 in
theorem rblocks_ok (l : List Int) (p : Option Addr) (cap : Nat) (b v : Int) (w : World) (hd : DatAt w p l) (hi : ∀ x ∈ l, -9223372036854775808 ≤ x ∧ x ≤ 9223372036854775807) (hl : (l.length : Int) ≤ 1152921504606846976) (h : whl l b = 0) (hv : v = 1 ∨ v = 2) :
    Calls Try.prog 12 #[.slice p l.length cap, .int .i64 b, .int .i64 v] w fun e w' => (∃ u, e = .returned (.tuple #[u, .int .i64 0]) ∧ w'.ownsRow w.heap.size 5 1 u (blks (enc b v l)).length ((blks (enc b v l)).map (Value.int .u8))) ∧ Below w.heap.size w w' := by
  obtain ⟨hb, hz2, hz3⟩ := whl_zero h
  have C1 := Lib.hid (rright_t b w hb)
  have C2 := Lib.hid (show Calls Try.prog 31 #[.int .i64 v] w fun e w' => e = .returned (.bool true) ∧ w = w' from by
    have := rversioned v w
    rwa [show (v == 1 || v == 2) = true by rcases hv with rfl | rfl <;> rfl] at this)
  have R := Lib.hid (h ▸ rwhole l p cap b w hd hi hl)
  have hbl := hlf_le (b := b) (by omega)
  have hbp := hlf_pos b
  have D := Lib.hid (rdifs l p cap b w hd (by omega) (fun x hx => by
    have h0 := hz2 x hx
    have := Pk.wrp_lo (x := x) hbp
    have := Pk.wrp_hi (x := x) hbp
    omega) (by omega) (by omega))
  obtain ⟨i0, hinf, hz0, hz1, hz2'⟩ := info_parts Try.infoByte
  have HAL := Lib.hid (show alw (enc b v l) 16 = true by
    unfold enc
    split
    · exact alw_difs hb _
    · exact alw_difs hb _)
  have HEL := Lib.hid (show (enc b v l).length = l.length by
    unfold enc
    split
    · rw [Pk.difs_length, Pk.difs_length]
    · rw [Pk.difs_length])
  have HE0 := Lib.hid (show v ≠ 2 → enc b v l = Pk.difs (hlf b) 0 l from fun hv2 => if_neg hv2)
  have HE2 := Lib.hid (show v = 2 → enc b v l = Pk.difs (hlf b) 0 (Pk.difs (hlf b) 0 l) from fun hv2 => if_pos hv2)
  obtain ⟨S, hS⟩ : ∃ S, Pk.difs (hlf b) 0 l = S := ⟨_, rfl⟩
  have HSL := Lib.hid (hS ▸ Pk.difs_length (hlf b) 0 l)
  have HSI := Lib.hid (hS ▸ Pk.difs_in hbp 0 l)
  rw [hS] at D HE0 HE2
  obtain ⟨n, hn⟩ : ∃ n, l.length = n := ⟨_, rfl⟩
  rw [hn] at D R HEL HSL hz3
  rw [hn]
  have D2 := Lib.hid (fun (g : Nat) (w1 : World) (h1 : w1.ownsRow w.heap.size 3 1 (.slice (some ⟨g, 0, none⟩) n n) n (S.map (Value.int .i64))) => by
    have := rdifs S (some ⟨g, 0, none⟩) n b w1 (OwnK.dat (k := .i64) (l := S) (B := w.heap.size) (e := 3) (c := n) (by unfold OwnK; rw [HSL.out]; exact h1)) (by rw [HSL.out]; omega) (fun x hx => by have := HSI.out x hx; omega) (by omega) (by omega)
    rw [HSL.out] at this
    exact this)
  obtain ⟨L, hL⟩ : ∃ L, enc b v l = L := ⟨_, rfl⟩
  rw [hL] at HAL HEL HE0 HE2 ⊢
  have HV := Lib.hid hv
  clear hS hn hL hd hi h hz2 hb hbl hbp hl hv
  go_enter Try.func12, Try.ntmps12
  go_upto_if 30 with (first | (go_at_call 30; ((with_reducible refine C1.out.mono ?_); rintro x' w' ⟨rfl, rfl⟩)) | (go_at_call 31; ((with_reducible refine C2.out.mono ?_); rintro x' w' ⟨rfl, rfl⟩)) | (go_at_call 26; ((with_reducible refine R.out.mono ?_); rintro x' w' ⟨rfl, rfl⟩)) | (go_at_call 27; ((with_reducible refine D.out.mono ?_); rintro x' w1 ⟨⟨g0, rfl, hown⟩, hb⟩; have HB1 := Lib.hid hb; have HS1 := Lib.hid hown; clear hown hb)))
  go_cut [9] (fun lv wx => ∃ g, lv = .slice (some ⟨g, 0, none⟩) n n ∧ Hid (wx.ownsRow w.heap.size 3 1 (.slice (some ⟨g, 0, none⟩) n n) n (L.map (Value.int .i64))) ∧ Hid (Below w.heap.size w wx))
  case first =>
    rcases HV.out with rfl | rfl
    · have HEE := Lib.hid (HE0.out (by omega))
      go_wp2
      go_meet
      exact ⟨g0, rfl, by rw [HEE.out]; exact HS1.out, HB1.out⟩
    · have HEE := Lib.hid (HE2.out rfl)
      go_wp2_with (first | (go_at_call 27; ((with_reducible refine (D2.out g0 _ HS1.out).mono ?_); rintro x' w2 ⟨⟨g2, rfl, hown⟩, hb⟩; have HB2 := Lib.hid (stepB HB1.out hb); have hs1 := HB1.out.size; have HS2 := Lib.hid (row_lower hown hs1); clear hown hb)))
      go_meet
      exact ⟨g2, rfl, by rw [HEE.out]; exact HS2.out, HB2.out⟩
  case rest =>
    obtain ⟨g, rfl, HE, hbw⟩ := hcut
    clear HV HE0 HE2 HSI HSL HS1 HB1 C1 C2 R D D2
    obtain ⟨w0, rfl⟩ : ∃ w0, w0 = wc := ⟨_, rfl⟩
    obtain ⟨B, hBe⟩ : ∃ B, w0.heap.size = B := ⟨_, rfl⟩
    have hgB : g < B := hBe ▸ (World.ownsRow.lt HE.out g rfl).2
    have hwB : w.heap.size ≤ B := hBe ▸ hbw.out.size
    have hBr : B ≤ w0.heap.size := Nat.le_of_eq hBe.symm
    clear hBe
    go_wp2
    go_loopw [9, 10] (fun lv ov wr => ∃ (i o : Nat) (q : Option Addr), 256 * i < n + 256 ∧ o = min (256 * i) n ∧ lv = .slice q (n - o) (n - o) ∧ (o < n → q = some ⟨g, o, none⟩) ∧ Hid (wr.ownsRow B 5 1 ov (blksN L i).length ((blksN L i).map (Value.int .u8))) ∧ Hid (wr.ownsRow w.heap.size 3 1 (.slice (some ⟨g, 0, none⟩) n n) n (L.map (Value.int .i64))) ∧ Hid (Below w.heap.size w wr) ∧ B ≤ wr.heap.size) (fun lv _ _ => lenV lv)
    case atStart => exact ⟨0, 0, some ⟨g, 0, none⟩, by omega, by omega, rfl, fun _ => rfl, ⟨rfl, .inl ⟨rfl, rfl⟩⟩, HE.out, hbw.out, hBr⟩
    case round =>
      clear HE hbw hBr
      obtain ⟨i, o, q, hi6, ho, rfl, hq, HO, HE, hbw, hBr⟩ := hrel
      by_cases hlt : o < n
      · obtain rfl := hq hlt
        have ho2 : o = 256 * i := by omega
        obtain ⟨m, hm⟩ : ∃ m, n - o = m := ⟨_, rfl⟩
        have hm1 : 1 ≤ m := by omega
        have hmI : (m : Int) ≤ 4096 := by omega
        have HOI := Lib.hid ho2
        have HM := Lib.hid hm
        have HDP := Lib.hid (show DatAt wr (some ⟨g, o, none⟩) (part L i) from by
          have h2 := HE.out
          have e := HEL.out
          subst e
          rw [ho2]
          exact part_dat h2 i)
        have hpl := part_length L i
        rw [HEL.out, ← ho2, hm] at hpl
        have HBL := Lib.hid (show (blksN L i).length + (blk (part L i)).length ≤ 1000000 by
          have h1 := blksN_length L i
          have h2 := blk_length (part L i) (by omega)
          omega)
        have CB := fun c => rblock (part L i) (some ⟨g, o, none⟩) c wr HDP.out (by omega) (alw_part HAL.out i)
        simp only [hm]
        clear ho hq ho2
        rcases Int.lt_trichotomy (m : Int) 256 with hc | hc | hc
        · have C := Lib.hid (show ∀ c, Calls Try.prog 32 #[.slice (some ⟨g, o, none⟩) m c] wr _ from (show (part L i).length = m by omega) ▸ CB)
          clear CB hpl hm
          go_wp2_with (first
              | (go_at_call 32; ((with_reducible refine (C.out _).mono ?_); rintro x' w5 ⟨⟨g5, c5, rfl, hown⟩, hb⟩; have HK := Lib.hid hown; have HV5 := Lib.hid (row_stays HO.out hb); have HE5 := Lib.hid (row_stays HE.out hb); have HB5 := Lib.hid (stepB hbw.out hb); have hs5 := hb.size; clear hown hb))
              | (at_builtin; (refine wpList_append_own _ rfl (.tmp 40) (.tmp 44) 24 rfl B 5 i0 (.int .u8 0) 1 1 Try.underlying24 hinf hz0 hz1 hz2' rfl (by decide) u10 (blksN L i).length ((blksN L i).map (Value.int .u8)) rfl HV5.out ⟨g5, 0, none⟩ (blk (part L i)).length c5 ((blk (part L i)).map (Value.int .u8)) rfl (by simp) (HK.out.cells rfl) (one_all .u8 _) (by have := HBL.out; unfold maxLen; omega) (by have := HBL.out; omega) (by omega) ?_; intro v6 w6 hown6 hgrow6 _; have hb6 := grown_base hgrow6 (fun g hg => (World.ownsRow.lt HV5.out g hg).1) (Nat.le_trans hBr hs5); have HV6 := Lib.hid (show w6.ownsRow B 5 1 v6 (blksN L (i + 1)).length ((blksN L (i + 1)).map (Value.int .u8)) by rw [blksN_succ, List.length_append, List.map_append]; exact hown6); have HE6 := Lib.hid (row_base HE5.out hb6 hgB); have HB6 := Lib.hid (HB5.out.trans (hb6.mono hwB)); have hs6 := hb6.size; clear hown6 hgrow6 hb6)))
          exact ⟨⟨i + 1, n, _, by have := HOI.out; omega, by have := HOI.out; have := HM.out; omega, by rw [Nat.sub_self], fun h => absurd h (by omega), HV6.out, HE6.out, HB6.out, by omega⟩, by simp [lenV]; omega⟩
        · have e : m = 256 := by omega
          subst e
          have C := Lib.hid (show ∀ c, Calls Try.prog 32 #[.slice (some ⟨g, o, none⟩) 256 c] wr _ from (show (part L i).length = 256 by omega) ▸ CB)
          clear CB hpl hm hc
          go_wp2_with (first
              | (go_at_call 32; ((with_reducible refine (C.out _).mono ?_); rintro x' w5 ⟨⟨g5, c5, rfl, hown⟩, hb⟩; have HK := Lib.hid hown; have HV5 := Lib.hid (row_stays HO.out hb); have HE5 := Lib.hid (row_stays HE.out hb); have HB5 := Lib.hid (stepB hbw.out hb); have hs5 := hb.size; clear hown hb))
              | (at_builtin; (refine wpList_append_own _ rfl (.tmp 40) (.tmp 44) 24 rfl B 5 i0 (.int .u8 0) 1 1 Try.underlying24 hinf hz0 hz1 hz2' rfl (by decide) u10 (blksN L i).length ((blksN L i).map (Value.int .u8)) rfl HV5.out ⟨g5, 0, none⟩ (blk (part L i)).length c5 ((blk (part L i)).map (Value.int .u8)) rfl (by simp) (HK.out.cells rfl) (one_all .u8 _) (by have := HBL.out; unfold maxLen; omega) (by have := HBL.out; omega) (by omega) ?_; intro v6 w6 hown6 hgrow6 _; have hb6 := grown_base hgrow6 (fun g hg => (World.ownsRow.lt HV5.out g hg).1) (Nat.le_trans hBr hs5); have HV6 := Lib.hid (show w6.ownsRow B 5 1 v6 (blksN L (i + 1)).length ((blksN L (i + 1)).map (Value.int .u8)) by rw [blksN_succ, List.length_append, List.map_append]; exact hown6); have HE6 := Lib.hid (row_base HE5.out hb6 hgB); have HB6 := Lib.hid (HB5.out.trans (hb6.mono hwB)); have hs6 := hb6.size; clear hown6 hgrow6 hb6)))
          exact ⟨⟨i + 1, n, _, by have := HOI.out; omega, by have := HOI.out; have := HM.out; omega, by rw [Nat.sub_self], fun h => absurd h (by omega), HV6.out, HE6.out, HB6.out, by omega⟩, by first | (simp [lenV]; done) | (simp [lenV]; omega)⟩
        · have C := Lib.hid (show ∀ c, Calls Try.prog 32 #[.slice (some ⟨g, o, none⟩) 256 c] wr _ from (show (part L i).length = 256 by omega) ▸ CB)
          clear CB hpl hm
          go_wp2_with (first
              | (go_at_call 32; ((with_reducible refine (C.out _).mono ?_); rintro x' w5 ⟨⟨g5, c5, rfl, hown⟩, hb⟩; have HK := Lib.hid hown; have HV5 := Lib.hid (row_stays HO.out hb); have HE5 := Lib.hid (row_stays HE.out hb); have HB5 := Lib.hid (stepB hbw.out hb); have hs5 := hb.size; clear hown hb))
              | (at_builtin; (refine wpList_append_own _ rfl (.tmp 40) (.tmp 44) 24 rfl B 5 i0 (.int .u8 0) 1 1 Try.underlying24 hinf hz0 hz1 hz2' rfl (by decide) u10 (blksN L i).length ((blksN L i).map (Value.int .u8)) rfl HV5.out ⟨g5, 0, none⟩ (blk (part L i)).length c5 ((blk (part L i)).map (Value.int .u8)) rfl (by simp) (HK.out.cells rfl) (one_all .u8 _) (by have := HBL.out; unfold maxLen; omega) (by have := HBL.out; omega) (by omega) ?_; intro v6 w6 hown6 hgrow6 _; have hb6 := grown_base hgrow6 (fun g hg => (World.ownsRow.lt HV5.out g hg).1) (Nat.le_trans hBr hs5); have HV6 := Lib.hid (show w6.ownsRow B 5 1 v6 (blksN L (i + 1)).length ((blksN L (i + 1)).map (Value.int .u8)) by rw [blksN_succ, List.length_append, List.map_append]; exact hown6); have HE6 := Lib.hid (row_base HE5.out hb6 hgB); have HB6 := Lib.hid (HB5.out.trans (hb6.mono hwB)); have hs6 := hb6.size; clear hown6 hgrow6 hb6)))
          exact ⟨⟨i + 1, o + 256, _, by have := HOI.out; omega, by have := HOI.out; have := HM.out; omega, by rw [show n - (o + 256) = m - 256 by have := HM.out; omega], fun _ => rfl, HV6.out, HE6.out, HB6.out, by omega⟩, by simp [lenV]; omega⟩
      · have hon : o = n := by omega
        have HQ := Lib.hid (show wr.ownsRow w.heap.size 5 1 u10 (blks L).length ((blks L).map (Value.int .u8)) by
          have e : blks L = blksN L i := by
            unfold blks blksN
            rw [show (L.length + 255) / 256 = i by have := HEL.out; omega]
          rw [e]
          exact row_lower HO.out hwB)
        subst hon
        simp only [Nat.sub_self]
        clear hq ho hi6
        go_wp2
        go_ret2
        exact ⟨⟨_, rfl, HQ.out⟩, hbw.out⟩
/-- What the reference's Blocks returns. -/
theorem rblocks (l : List Int) (p : Option Addr) (cap : Nat) (b v : Int) (w : World) (hd : DatAt w p l) (hi : ∀ x ∈ l, -9223372036854775808 ≤ x ∧ x ≤ 9223372036854775807) (hl : (l.length : Int) ≤ 1152921504606846976) :
    Calls Try.prog 12 #[.slice p l.length cap, .int .i64 b, .int .i64 v] w fun e w' => (∃ u, e = .returned (.tuple #[u, .int .i64 (blkE l b v)]) ∧ (blkE l b v ≠ 0 → u = .slice none 0 0) ∧ (blkE l b v = 0 → w'.ownsRow w.heap.size 5 1 u (blks (enc b v l)).length ((blks (enc b v l)).map (Value.int .u8)))) ∧ Below w.heap.size w w' := by
  by_cases h : blkE l b v = 0
  · have hv : v = 1 ∨ v = 2 := by
      rcases Classical.em (v = 1 ∨ v = 2) with hv | hv
      · exact hv
      · rw [show blkE l b v = 1 from if_neg hv] at h
        cases h
    have hw : whl l b = 0 := by rw [show blkE l b v = whl l b from if_pos hv] at h; exact h
    rw [h]
    exact (rblocks_ok l p cap b v w hd hi hl hw hv).mono fun e w' ⟨⟨u, h1, h2⟩, h3⟩ => ⟨⟨u, h1, fun h => absurd rfl h, fun _ => h2⟩, h3⟩
  · exact (rblocks_bad l p cap b v w hd hi hl h).mono fun e w' ⟨h1, h3⟩ => ⟨⟨_, h1, fun _ => rfl, fun h' => absurd h' h⟩, h3 ▸ Below.refl _ _⟩
end Go.Proofs.Ytfljgdehbogimaa
