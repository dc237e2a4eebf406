/-
  The contract of package pack's Delta.
-/
import Derived.Test.YtfljgdehbogimaaPBlocksW
namespace Go.Proofs.Ytfljgdehbogimaa
open Go.RowKit

theorem p_Delta_bad (l : List Int) (p : Option Addr) (cap : Nat) (b : Int) (w : World) (hd : DatAt w p l) (hl : (l.length : Int) ≤ 1152921504606846976) (h : whl l b ≠ 0) :
    Calls Try.prog 9 #[.slice p l.length cap, .int .i64 b] w fun e w' => e = .returned (.tuple #[.slice none 0 0, .int .i64 (whl l b)]) ∧ w = w' := by
  have R := Lib.hid (p_askData l p cap b w hd hl)
  obtain ⟨z, hz⟩ : ∃ z, whl l b = z := ⟨_, rfl⟩
  rw [hz] at R h ⊢
  have h2 : (z != 0) = true := by simpa using h
  clear hz hd h hl
  go_enter Try.func9, Try.ntmps9
  go_wp2_with (first | (go_at_call 24; ((with_reducible refine R.out.mono ?_); rintro x' w' ⟨rfl, rfl⟩)))
  go_ret2
  exact ⟨rfl, rfl⟩
theorem t_dif_b (b : Int) (h : b = 8 ∨ b = 16) (s : Nat) : Trans 53 #[.pointer (some ⟨s + 1, 0, none⟩), .pointer (some ⟨s, 0, none⟩)] s (s + 2) (Pk.difs (hlf b) 0) (SDif (s + 1) s b) :=
  t_dif (s + 1) s s (s + 2) b (by omega) (by omega) (by omega) (by omega) (by omega) (by omega) (by omega)
/-- Bytes that are appended to, beside a function value's two blocks. -/
structure Ap (B s : Nat) (S : World → Prop) (L : List Int) (n g c : Nat) (w : World) : Prop where
  own : w.ownsRow B 5 1 (.slice (some ⟨g, 0, none⟩) n c) n (L.map (Value.int .u8))
  far : g < s ∨ s + 2 ≤ g
  st : S w
  size : s + 2 ≤ w.heap.size
theorem Ap.len {B s n g c : Nat} {S : World → Prop} {L : List Int} {w : World} (h : Ap B s S L n g c w) : L.length = n := by simpa using h.own.1
theorem Ap.call {B s n g c : Nat} {S S' : World → Prop} {L : List Int} {w w' : World} (h : Ap B s S L n g c w) (hm : Mid s (s + 2) w w') (hs : S' w') : Ap B s S' L n g c w' :=
  ⟨row_of h.own (hm.block g (World.ownsRow.lt h.own g rfl).2 (by have := h.far; omega)), h.far, hs, Nat.le_trans h.size hm.size⟩
theorem Ap.box {B s n g c : Nat} {S : World → Prop} {L : List Int} {w : World} (h : Ap B s S L n g c w) (ob : Obj) : (w.alloc ob).ownsRow B 5 1 (.slice (some ⟨g, 0, none⟩) n c) n (L.map (Value.int .u8)) := row_stays h.own (below_box w ob)
theorem Ap.app {B s n g c g2 c2 : Nat} {S : World → Prop} {L : List Int} {w w2 : World} {x : Int} {ob : Obj} (h : Ap B s S L n g c w) (hS : ∀ w', Out s (s + 2) w w' → S w') (_hB : B ≤ w.heap.size)
    (hg : (w.alloc ob).grownBy w2 (Value.slice (some ⟨g, 0, none⟩) n c).ownBlock) (h2 : w2.ownsRow B 5 1 (.slice (some ⟨g2, 0, none⟩) (n + 1) c2) (n + 1) (L.map (Value.int .u8) ++ [.int .u8 x]))
    (hat : (Value.slice (some ⟨g, 0, none⟩) n c).ownBlock = some g2 ∨ g2 = w.heap.size + 1) : Ap B s S (L ++ [x]) (n + 1) g2 c2 w2 ∧ Below B w w2 := by
  have l1 := World.ownsRow.lt h.own g rfl
  have h3 := h.size
  have hf := h.far
  have bl : ∀ k, k < w.heap.size → k ≠ g → w2.heap[k]? = w.heap[k]? := fun k hk hne => by
    rw [hg.block k (by simp; omega) (fun e => hne (Option.some.inj e))]
    exact (World.grownBy_alloc w ob none).block k hk (by simp)
  have hsz : w.heap.size ≤ w2.heap.size := Nat.le_trans (by simp) hg.size
  refine ⟨⟨by simpa using h2, ?_, hS w2 ⟨hsz, fun k h1 h2 => bl k (by omega) (by omega)⟩, Nat.le_trans h3 hsz⟩, ⟨hg.os, hg.tape, hg.output, hsz, fun k hk => bl k (by omega) (by omega)⟩⟩
  rcases hat with e | e
  · have e : g = g2 := Option.some.inj e
    omega
  · omega
set_option maxRecDepth 20000 in
set_option maxHeartbeats 1600000 in
theorem p_Delta_ok8 (l : List Int) (p : Option Addr) (cap : Nat) (w : World) (hd : DatAt w p l) (hl : (l.length : Int) ≤ 1152921504606846976) (h : whl l 8 = 0) :
    Calls Try.prog 9 #[.slice p l.length cap, .int .i64 8] w fun e w' => (∃ v, e = .returned (.tuple #[v, .int .i64 0]) ∧ w'.ownsRow w.heap.size 5 1 v (dlt l 8).length ((dlt l 8).map (Value.int .u8))) ∧ Below w.heap.size w w' := by
  have R := Lib.hid (h ▸ p_askData l p cap 8 w hd hl)
  have HR := Lib.hid (whl_in h)
  have CS := Lib.hid (fun w1 => p_differences 8 w1 _ rfl)
  have h4 : (l.length : Int) ≤ 4096 := by have := (whl_zero h).2.2; omega
  obtain ⟨N2, hN2⟩ : ∃ N2, l.length = N2 := ⟨_, rfl⟩
  have hcap : ((l.length : Int) * 8).tdiv 8 = (N2 : Int) := by rw [Int.tdiv_eq_ediv_of_nonneg (by omega)]; omega
  have hcap2 : ((l.length : Int) * 8) / 8 = (N2 : Int) := by omega
  have hN3 : (N2 : Int) ≤ 8192 := by omega
  have HD := Lib.hid hd
  have HDT := Lib.hid (show dlt l 8 = (Pk.difs (hlf 8) 0 l).flatMap (byts 8) from rfl)
  have HDL := Lib.hid (Pk.difs_length (hlf 8) 0 l)
  obtain ⟨D, hD⟩ : ∃ D, Pk.difs (hlf 8) 0 l = D := ⟨_, rfl⟩
  have HDE := Lib.hid hD
  rw [hD] at HDT HDL
  have e1 := ent_dif
  obtain ⟨i0, hinf, hz0, hz1, hz2'⟩ := info_parts Try.infoByte
  clear hd hl h hN2 hD
  go_enter Try.func9, Try.ntmps9
  go_wp2_with (first | (go_at_call 24; ((with_reducible refine R.out.mono ?_); rintro x' w' ⟨rfl, rfl⟩)) | (at_make; refine wpList_make_own _ rfl _ _ 24 rfl w.heap.size 5 i0 (.int .u8 0) 1 Try.underlying24 hinf hz0 hz1 .i64 .i64 _ N2 rfl rfl rfl (by rw [hz2']; omega) (by unfold maxLen; omega) (by simp) ?_; intro w3 hown3 hgrow3; have HOWN := Lib.hid hown3; have HB3 := Lib.hid (grown_below hgrow3); clear hown3 hgrow3) | (go_at_call 25; ((with_reducible refine (CS.out _).mono ?_); rintro x' w4 ⟨rfl, hm4⟩; have HM4 := Lib.hid hm4; clear hm4)))
  have HA0 : Hid (Ap w.heap.size w3.heap.size (SDif (w3.heap.size + 1) w3.heap.size 8 []) [] 0 w.heap.size N2 w4) := Lib.hid ⟨row_stays HOWN.out HM4.out.2.2.2, .inl (World.ownsRow.lt HOWN.out w.heap.size rfl).2, enc1_start _ _ _ _ HM4.out.2.1 HM4.out.1, by have := HM4.out.2.2.1; omega⟩
  have HB4 := Lib.hid (HB3.out.trans (HM4.out.2.2.2.mono HB3.out.size))
  have hBs := HB3.out.size
  obtain ⟨s, hs⟩ : ∃ s, w3.heap.size = s := ⟨_, rfl⟩
  rw [hs] at HA0 hBs
  simp only [hs]
  obtain ⟨g0, hge⟩ : ∃ g, g = w.heap.size := ⟨_, rfl⟩
  obtain ⟨B, hBe⟩ : ∃ B, B = w.heap.size := ⟨_, rfl⟩
  have HBE := Lib.hid hBe
  rw [← hBe] at HA0 HB4 hBs
  rw [← hBe]
  rw [show (⟨B, 0, none⟩ : Addr) = ⟨g0, 0, none⟩ by rw [hge, hBe]]
  rw [show Ap B s (SDif (s + 1) s 8 []) [] 0 B N2 w4 = Ap B s (SDif (s + 1) s 8 []) [] 0 g0 N2 w4 by rw [hge, hBe]] at HA0
  have HD := Lib.hid (fun wr (hb : Below B w wr) => HD.out.below (hBe ▸ hb))
  have HT := Lib.hid (t_dif_b 8 (by omega) s)
  clear hge hBe HOWN HB3 HM4 hs R CS
  go_loopw [7, 28] (fun v i wr => ∃ k g c : Nat, k ≤ l.length ∧ i = .int .i64 k ∧ v = .slice (some ⟨g, 0, none⟩) k c ∧ Hid (Ap B s (SDif (s + 1) s 8 (l.take k)) ((D.take k).flatMap (byts 8)) k g c wr) ∧ Hid (Below B w wr)) (fun _ i _ => l.length - (intOf i).toNat)
  case atStart => exact ⟨0, g0, N2, by omega, rfl, rfl, HA0.out, HB4.out⟩
  case round =>
    clear HA0 HB4
    obtain ⟨k, g, c, hk, rfl, rfl, HA, hbw⟩ := hrel
    by_cases hlt : k < l.length
    · obtain ⟨bd, od, hp1, hc1⟩ := (HD.out wr hbw.out).at (i := k) hlt
      obtain ⟨x, hx⟩ : ∃ x, l.getD k 0 = x := ⟨_, rfl⟩
      have xb := getD_in (P := fun x => -1048576 ≤ x ∧ x ≤ 1048576) HR.out hlt
      have hz := HT.out.at l hlt
      rw [HDE.out] at hz
      rw [hx] at hc1 xb hz
      obtain ⟨y, hy⟩ : ∃ y, D.getD k 0 = y := ⟨_, rfl⟩
      rw [hy] at hz
      have HSN := Lib.hid (show (D.take (k + 1)).flatMap (byts 8) = (D.take k).flatMap (byts 8) ++ [y % 256] by
        have hk2 : k < D.length := by rw [HDL.out]; exact hlt
        rw [List.take_add_one, List.flatMap_append, ← hy]
        simp [hk2, List.getD_eq_getElem?_getD, byts])
      have C := Lib.hid (show Calls Try.prog 53 #[.int .i64 x, .pointer (some ⟨s + 1, 0, none⟩), .pointer (some ⟨s, 0, none⟩)] wr fun e w' => e = .returned (.int .i64 y) ∧ SDif (s + 1) s 8 (l.take (k + 1)) w' ∧ Mid s (s + 2) wr w' by
        have := HT.out.calls (l.take k) x wr xb.1 xb.2 HA.out.st
        rw [hz, take_snoc hlt hx] at this
        exact this)
      have hBr : B ≤ wr.heap.size := by have := hbw.out.size; have := HBE.out; omega
      have hlen := HA.out.len
      obtain ⟨L, hL⟩ : ∃ L, (D.take k).flatMap (byts 8) = L := ⟨_, rfl⟩
      rw [hL] at HA HSN hlen
      clear hx hy hz hL
      subst hp1
      go_wp2_with (first | (go_at_fn 53; ((with_reducible refine C.out.mono ?_); rintro x' w5 ⟨rfl, hs5, hm5⟩; have HA5 := Lib.hid (HA.out.call (S' := SDif (s + 1) s 8 (l.take (k + 1))) hm5 hs5); have HB5 := Lib.hid (hbw.out.trans (hm5.belowB hBr hBs)); have hB5 : B ≤ w5.heap.size := Nat.le_trans hBr hm5.size; have HSS := Lib.hid (fun w' ho => HT.out.stays _ _ w' HA5.out.st ho); clear hs5 hm5)) | (at_builtin; refine wpList_append_lies _ rfl (.tmp 35) (.tmp 38) 24 rfl B 5 i0 (.int .u8 0) 1 1 Try.underlying24 hinf hz0 hz1 hz2' rfl (by decide) (.slice (some ⟨g, 0, none⟩) k c) k (L.map (Value.int .u8)) rfl (HA5.out.box (.cells #[.int .u8 (y % 256)] 5)) ⟨w5.heap.size, 0, none⟩ 1 1 [.int .u8 (y % 256)] rfl rfl (one_new .u8 _ w5 (y % 256)) (one_one .u8 (y % 256)) (by omega) (by unfold maxLen; omega) (by omega) (by simp; omega) (w5.heap.size + 1) (by simp) ?_; intro g2 c2 w6 hown6 hgrow6 hat6 hlt6; have hq := HA5.out.app HSS.out hB5 hgrow6 hown6 hat6; have HA6 := Lib.hid hq.1; have HB6 := Lib.hid (HB5.out.trans hq.2); have hB6 : B ≤ w6.heap.size := Nat.le_trans hB5 hq.2.size; clear hown6 hgrow6 hat6 hlt6 hq))
      go_roundw
      case rel => exact ⟨k + 1, g2, c2, by omega, by go_num, rfl, by rw [HSN.out]; exact HA6.out, HB6.out⟩
      case measure => simp [intOf]; omega
    · have e : k = l.length := by omega
      subst e
      have HQ := Lib.hid (show wr.ownsRow B 5 1 (.slice (some ⟨g, 0, none⟩) l.length c) (dlt l 8).length ((dlt l 8).map (Value.int .u8)) by
        have h1 := HA.out.own
        have h2 := HA.out.len
        rw [List.take_of_length_le (Nat.le_of_eq HDL.out), ← HDT.out] at h1 h2
        rw [h2]
        exact h1)
      go_wp2
      go_ret2
      have e := HBE.out
      subst e
      exact ⟨⟨_, rfl, HQ.out⟩, hbw.out⟩
set_option maxRecDepth 20000 in
set_option maxHeartbeats 1600000 in
theorem p_Delta_ok16 (l : List Int) (p : Option Addr) (cap : Nat) (w : World) (hd : DatAt w p l) (hl : (l.length : Int) ≤ 1152921504606846976) (h : whl l 16 = 0) :
    Calls Try.prog 9 #[.slice p l.length cap, .int .i64 16] w fun e w' => (∃ v, e = .returned (.tuple #[v, .int .i64 0]) ∧ w'.ownsRow w.heap.size 5 1 v (dlt l 16).length ((dlt l 16).map (Value.int .u8))) ∧ Below w.heap.size w w' := by
  have R := Lib.hid (h ▸ p_askData l p cap 16 w hd hl)
  have HR := Lib.hid (whl_in h)
  have CS := Lib.hid (fun w1 => p_differences 16 w1 _ rfl)
  have h4 : (l.length : Int) ≤ 4096 := by have := (whl_zero h).2.2; omega
  obtain ⟨N2, hN2⟩ : ∃ N2, 2 * l.length = N2 := ⟨_, rfl⟩
  have hcap : ((l.length : Int) * 16).tdiv 8 = (N2 : Int) := by rw [Int.tdiv_eq_ediv_of_nonneg (by omega)]; omega
  have hcap2 : ((l.length : Int) * 16) / 8 = (N2 : Int) := by omega
  have hN3 : (N2 : Int) ≤ 8192 := by omega
  have HD := Lib.hid hd
  have HDT := Lib.hid (show dlt l 16 = (Pk.difs (hlf 16) 0 l).flatMap (byts 16) from rfl)
  have HDL := Lib.hid (Pk.difs_length (hlf 16) 0 l)
  obtain ⟨D, hD⟩ : ∃ D, Pk.difs (hlf 16) 0 l = D := ⟨_, rfl⟩
  have HDE := Lib.hid hD
  rw [hD] at HDT HDL
  have e1 := ent_dif
  obtain ⟨i0, hinf, hz0, hz1, hz2'⟩ := info_parts Try.infoByte
  clear hd hl h hN2 hD
  go_enter Try.func9, Try.ntmps9
  go_wp2_with (first | (go_at_call 24; ((with_reducible refine R.out.mono ?_); rintro x' w' ⟨rfl, rfl⟩)) | (at_make; refine wpList_make_own _ rfl _ _ 24 rfl w.heap.size 5 i0 (.int .u8 0) 1 Try.underlying24 hinf hz0 hz1 .i64 .i64 _ N2 rfl rfl rfl (by rw [hz2']; omega) (by unfold maxLen; omega) (by simp) ?_; intro w3 hown3 hgrow3; have HOWN := Lib.hid hown3; have HB3 := Lib.hid (grown_below hgrow3); clear hown3 hgrow3) | (go_at_call 25; ((with_reducible refine (CS.out _).mono ?_); rintro x' w4 ⟨rfl, hm4⟩; have HM4 := Lib.hid hm4; clear hm4)))
  have HA0 : Hid (Ap w.heap.size w3.heap.size (SDif (w3.heap.size + 1) w3.heap.size 16 []) [] 0 w.heap.size N2 w4) := Lib.hid ⟨row_stays HOWN.out HM4.out.2.2.2, .inl (World.ownsRow.lt HOWN.out w.heap.size rfl).2, enc1_start _ _ _ _ HM4.out.2.1 HM4.out.1, by have := HM4.out.2.2.1; omega⟩
  have HB4 := Lib.hid (HB3.out.trans (HM4.out.2.2.2.mono HB3.out.size))
  have hBs := HB3.out.size
  obtain ⟨s, hs⟩ : ∃ s, w3.heap.size = s := ⟨_, rfl⟩
  rw [hs] at HA0 hBs
  simp only [hs]
  obtain ⟨g0, hge⟩ : ∃ g, g = w.heap.size := ⟨_, rfl⟩
  obtain ⟨B, hBe⟩ : ∃ B, B = w.heap.size := ⟨_, rfl⟩
  have HBE := Lib.hid hBe
  rw [← hBe] at HA0 HB4 hBs
  rw [← hBe]
  rw [show (⟨B, 0, none⟩ : Addr) = ⟨g0, 0, none⟩ by rw [hge, hBe]]
  rw [show Ap B s (SDif (s + 1) s 16 []) [] 0 B N2 w4 = Ap B s (SDif (s + 1) s 16 []) [] 0 g0 N2 w4 by rw [hge, hBe]] at HA0
  have HD := Lib.hid (fun wr (hb : Below B w wr) => HD.out.below (hBe ▸ hb))
  have HT := Lib.hid (t_dif_b 16 (by omega) s)
  clear hge hBe HOWN HB3 HM4 hs R CS
  go_loopw [7, 28] (fun v i wr => ∃ k g c : Nat, k ≤ l.length ∧ i = .int .i64 k ∧ v = .slice (some ⟨g, 0, none⟩) (2 * k) c ∧ Hid (Ap B s (SDif (s + 1) s 16 (l.take k)) ((D.take k).flatMap (byts 16)) (2 * k) g c wr) ∧ Hid (Below B w wr)) (fun _ i _ => l.length - (intOf i).toNat)
  case atStart => exact ⟨0, g0, N2, by omega, rfl, rfl, HA0.out, HB4.out⟩
  case round =>
    clear HA0 HB4
    obtain ⟨k, g, c, hk, rfl, rfl, HA, hbw⟩ := hrel
    by_cases hlt : k < l.length
    · obtain ⟨bd, od, hp1, hc1⟩ := (HD.out wr hbw.out).at (i := k) hlt
      obtain ⟨x, hx⟩ : ∃ x, l.getD k 0 = x := ⟨_, rfl⟩
      have xb := getD_in (P := fun x => -1048576 ≤ x ∧ x ≤ 1048576) HR.out hlt
      have hz := HT.out.at l hlt
      rw [HDE.out] at hz
      rw [hx] at hc1 xb hz
      obtain ⟨y, hy⟩ : ∃ y, D.getD k 0 = y := ⟨_, rfl⟩
      rw [hy] at hz
      have HSN := Lib.hid (show (D.take (k + 1)).flatMap (byts 16) = (D.take k).flatMap (byts 16) ++ [y % 256] ++ [y / 256 % 256] by
        have hk2 : k < D.length := by rw [HDL.out]; exact hlt
        rw [List.take_add_one, List.flatMap_append, ← hy]
        simp [hk2, List.getD_eq_getElem?_getD, byts])
      have C := Lib.hid (show Calls Try.prog 53 #[.int .i64 x, .pointer (some ⟨s + 1, 0, none⟩), .pointer (some ⟨s, 0, none⟩)] wr fun e w' => e = .returned (.int .i64 y) ∧ SDif (s + 1) s 16 (l.take (k + 1)) w' ∧ Mid s (s + 2) wr w' by
        have := HT.out.calls (l.take k) x wr xb.1 xb.2 HA.out.st
        rw [hz, take_snoc hlt hx] at this
        exact this)
      have hBr : B ≤ wr.heap.size := by have := hbw.out.size; have := HBE.out; omega
      have hlen := HA.out.len
      obtain ⟨L, hL⟩ : ∃ L, (D.take k).flatMap (byts 16) = L := ⟨_, rfl⟩
      rw [hL] at HA HSN hlen
      clear hx hy hz hL
      subst hp1
      go_wp2_with (first | (go_at_fn 53; ((with_reducible refine C.out.mono ?_); rintro x' w5 ⟨rfl, hs5, hm5⟩; have HA5 := Lib.hid (HA.out.call (S' := SDif (s + 1) s 16 (l.take (k + 1))) hm5 hs5); have HB5 := Lib.hid (hbw.out.trans (hm5.belowB hBr hBs)); have hB5 : B ≤ w5.heap.size := Nat.le_trans hBr hm5.size; have HSS := Lib.hid (fun w' ho => HT.out.stays _ _ w' HA5.out.st ho); clear hs5 hm5)) | (at_builtin; refine wpList_append_lies _ rfl (.tmp 35) (.tmp 38) 24 rfl B 5 i0 (.int .u8 0) 1 1 Try.underlying24 hinf hz0 hz1 hz2' rfl (by decide) (.slice (some ⟨g, 0, none⟩) (2 * k) c) (2 * k) (L.map (Value.int .u8)) rfl (HA5.out.box (.cells #[.int .u8 (y % 256)] 5)) ⟨w5.heap.size, 0, none⟩ 1 1 [.int .u8 (y % 256)] rfl rfl (one_new .u8 _ w5 (y % 256)) (one_one .u8 (y % 256)) (by omega) (by unfold maxLen; omega) (by omega) (by simp; omega) (w5.heap.size + 1) (by simp) ?_; intro g2 c2 w6 hown6 hgrow6 hat6 hlt6; have hq := HA5.out.app HSS.out hB5 hgrow6 hown6 hat6; have HA6 := Lib.hid hq.1; have HB6 := Lib.hid (HB5.out.trans hq.2); have hB6 : B ≤ w6.heap.size := Nat.le_trans hB5 hq.2.size; have HSS6 := Lib.hid (fun w' ho => HT.out.stays _ _ w' HA6.out.st ho); clear hown6 hgrow6 hat6 hlt6 hq) | (at_builtin; refine wpList_append_lies _ rfl (.tmp 42) (.tmp 46) 24 rfl B 5 i0 (.int .u8 0) 1 1 Try.underlying24 hinf hz0 hz1 hz2' rfl (by decide) (.slice (some ⟨g2, 0, none⟩) (2 * k + 1) c2) (2 * k + 1) ((L ++ [y % 256]).map (Value.int .u8)) rfl (HA6.out.box (.cells #[.int .u8 (y / 256 % 256)] 5)) ⟨w6.heap.size, 0, none⟩ 1 1 [.int .u8 (y / 256 % 256)] rfl rfl (one_new .u8 _ w6 (y / 256 % 256)) (one_one .u8 (y / 256 % 256)) (by omega) (by unfold maxLen; omega) (by omega) (by simp; omega) (w6.heap.size + 1) (by simp) ?_; intro g3 c3 w7 hown7 hgrow7 hat7 hlt7; have hq := HA6.out.app HSS6.out hB6 hgrow7 hown7 hat7; have HA7 := Lib.hid hq.1; have HB7 := Lib.hid (HB6.out.trans hq.2); clear hown7 hgrow7 hat7 hlt7 hq))
      go_roundw
      case rel => exact ⟨k + 1, g3, c3, by omega, by go_num, by rw [Nat.mul_succ], by rw [HSN.out, Nat.mul_succ]; exact HA7.out, HB7.out⟩
      case measure => simp [intOf]; omega
    · have e : k = l.length := by omega
      subst e
      have HQ := Lib.hid (show wr.ownsRow B 5 1 (.slice (some ⟨g, 0, none⟩) (2 * l.length) c) (dlt l 16).length ((dlt l 16).map (Value.int .u8)) by
        have h1 := HA.out.own
        have h2 := HA.out.len
        rw [List.take_of_length_le (Nat.le_of_eq HDL.out), ← HDT.out] at h1 h2
        rw [h2]
        exact h1)
      go_wp2
      go_ret2
      have e := HBE.out
      subst e
      exact ⟨⟨_, rfl, HQ.out⟩, hbw.out⟩
/-- What Delta returns. -/
theorem p_Delta (l : List Int) (p : Option Addr) (cap : Nat) (b : Int) (w : World) (hd : DatAt w p l) (hl : (l.length : Int) ≤ 1152921504606846976) :
    Calls Try.prog 9 #[.slice p l.length cap, .int .i64 b] w fun e w' => (∃ v, e = .returned (.tuple #[v, .int .i64 (whl l b)]) ∧ (whl l b ≠ 0 → v = .slice none 0 0) ∧ (whl l b = 0 → w'.ownsRow w.heap.size 5 1 v (dlt l b).length ((dlt l b).map (Value.int .u8)))) ∧ Below w.heap.size w w' := by
  by_cases h : whl l b = 0
  · rw [h]
    rcases (whl_zero h).1 with rfl | rfl
    · exact (p_Delta_ok8 l p cap w hd hl h).mono fun e w' ⟨⟨v, h1, h2⟩, h3⟩ => ⟨⟨v, h1, fun h => absurd rfl h, fun _ => h2⟩, h3⟩
    · exact (p_Delta_ok16 l p cap w hd hl h).mono fun e w' ⟨⟨v, h1, h2⟩, h3⟩ => ⟨⟨v, h1, fun h => absurd rfl h, fun _ => h2⟩, h3⟩
  · exact (p_Delta_bad l p cap b w hd hl h).mono fun e w' ⟨h1, h3⟩ => ⟨⟨_, h1, fun _ => rfl, fun h' => absurd h' h⟩, h3 ▸ Below.refl _ _⟩
end Go.Proofs.Ytfljgdehbogimaa
