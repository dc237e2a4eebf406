/-
  PackStill's walk: for any data and table the law returns true; nothing that was there is changed.
-/
import Derived.Test.YtfljgdehbogimaaPUnn
import Derived.Test.YtfljgdehbogimaaPAwake
import Derived.Test.YtfljgdehbogimaaPSame
import Derived.Outline
namespace Go.Proofs.Ytfljgdehbogimaa
open Go.RowKit

theorem nibE_zero {l t : List Int} (h : nibE l t = 0) : tbl t = true ∧ whl l 8 = 0 := by
  unfold nibE at h
  split at h
  · exact ⟨by assumption, h⟩
  · omega
theorem nib_bytes (t l : List Int) : unM (Pk.nby (Pk.nib t 0 l) l.length) l.length = l.length := by
  unfold unM
  rw [Pk.nby_length, Pk.nib_length]
  omega
/-- What was written is read as the frames that the indices lead to. -/
theorem unx_nib (t l : List Int) : unx t (Pk.nby (Pk.nib t 0 l) l.length) l.length = Pk.pth t 0 l := by
  have hM := nib_bytes t l
  have hl := Pk.nib_length t 0 l
  unfold unx unV
  rw [hM, Nat.sub_self, List.replicate_zero, List.append_nil, ← Pk.unn_nib]
  unfold Pk.unn
  congr 1
  apply List.ext_getElem
  · simp [hl]
  · intro i h1 h2
    have hi : i < l.length := by simpa using h1
    have h3 := Pk.nat_nby (Pk.nib_in t 0 l) (i := i) (by rw [hl]; exact hi)
    rw [hl] at h3
    rw [List.getElem_map, List.getElem_map, List.getElem_range, h3, List.getD_eq_getElem?_getD (l := Pk.nib t 0 l), List.getElem?_eq_getElem (by rw [hl]; exact hi)]
    rfl
theorem whl_pth {t l : List Int} (h : whl l 8 = 0) : whl (Pk.pth t 0 l) 8 = 0 := by
  unfold whl
  rw [if_pos (by omega), if_pos, if_neg]
  · rw [Pk.pth_length]; have := (whl_zero h).2.2; omega
  · intro x hx
    have := Pk.pth_in t 0 l x hx
    rw [show hlf 8 = 128 by decide]
    exact Pk.wrp_id this.1 this.2
theorem difs0_mem : ∀ (p : Int) (l : List Int) (d : Int), d ∈ Pk.difs0 p l → ∃ i, i < l.length ∧ d = l.getD i 0 - (if i = 0 then p else l.getD (i - 1) 0)
  | _, [], d, h => by simp [Pk.difs0] at h
  | p, x :: l, d, h => by
    simp only [Pk.difs0, List.mem_cons] at h
    rcases h with rfl | h
    · exact ⟨0, by simp, by simp⟩
    · obtain ⟨i, h1, h2⟩ := difs0_mem x l d h
      refine ⟨i + 1, by simpa using h1, ?_⟩
      rw [h2]
      cases i with
      | zero => simp
      | succ i => simp
theorem still_self {t l : List Int} (h : whl l 8 = 0) (hh : ∀ i, i < l.length → ∃ j, j < 16 ∧ (t.getD j 0 - (l.getD i 0 - prv l i)) % 256 = 0) : Pk.pth t 0 l = l :=
  Pk.pth_self t 0 l (whl_in8 h) fun d hd => by
    obtain ⟨i, h1, h2⟩ := difs0_mem 0 l d hd
    obtain ⟨j, h3, h4⟩ := hh i h1
    exact ⟨j, h3, by rw [h2]; exact h4⟩
theorem row_dat {e : TypeId} {w : World} {B g c n : Nat} {l : List Int} (h : w.ownsRow B e 1 (.slice (some ⟨g, 0, none⟩) n c) n (l.map (Value.int .i64))) (hn : l.length = n) : DatAt w (some ⟨g, 0, none⟩) l := by
  refine .inr ⟨g, 0, rfl, (World.ownsRow.lt h g rfl).2, fun i hi => ?_⟩
  rw [Nat.zero_add, World.ownsRow.cellAt h i (by omega), map_getD hi]
set_option maxHeartbeats 800000 in
theorem still_bad (l t : List Int) (p pt : Option Addr) (cap capt : Nat) (w : World) (hd : DatAt w p l) (hdt : DatAt w pt t) (hl : (l.length : Int) ≤ 1152921504606846976) (hlt : (t.length : Int) ≤ 1152921504606846976) (h : nibE l t ≠ 0) :
    Calls Try.prog 7 #[.slice p l.length cap, .slice pt t.length capt] w fun e w' => e = .returned (.bool true) ∧ Below w.heap.size w w' := by
  have C := Lib.hid (p_Nibbles l t p pt cap capt w hd hdt hl hlt)
  have A := Lib.hid (fun w1 => p_awake w1)
  obtain ⟨z, hz⟩ : ∃ z, nibE l t = z := ⟨_, rfl⟩
  rw [hz] at C h
  have h2 : (z != 0) = true := by simpa using h
  have h3 : (z == 0) = false := by simpa using h
  have H := Lib.hid h
  clear hz hd hdt h
  go_enter Try.func7, Try.ntmps7
  go_wp2_with (first | (go_at_call 20; ((with_reducible refine C.out.mono ?_); rintro x' w1 ⟨⟨u, rfl, hu, _⟩, hb1⟩; obtain rfl := hu H.out; have HB1 := Lib.hid hb1; clear hu hb1)) | (go_at_call 8; ((with_reducible refine (A.out _).mono ?_); rintro x' w2 ⟨rfl, hb2⟩; have HB2 := Lib.hid hb2; clear hb2)))
  go_ret
  exact ⟨rfl, HB1.out.trans (HB2.out.mono HB1.out.size)⟩
set_option maxHeartbeats 3200000 in
theorem still_ok (l t : List Int) (p pt : Option Addr) (cap capt : Nat) (w : World) (hd : DatAt w p l) (hdt : DatAt w pt t) (hl : (l.length : Int) ≤ 1152921504606846976) (hlt : (t.length : Int) ≤ 1152921504606846976) (h : nibE l t = 0) :
    Calls Try.prog 7 #[.slice p l.length cap, .slice pt t.length capt] w fun e w' => e = .returned (.bool true) ∧ Below w.heap.size w w' := by
  obtain ⟨ht, hw⟩ := nibE_zero h
  have ht16 := (tbl_of ht).1
  have h4 := (whl_zero hw).2.2
  have N1 := Lib.hid (h ▸ p_Nibbles l t p pt cap capt w hd hdt hl hlt)
  have N2 := Lib.hid (fun (g : Nat) (w1 : World) (hx : DatAt w1 (some ⟨g, 0, none⟩) (Pk.pth t 0 l)) (hy : DatAt w1 pt t) => by
    have := p_Nibbles (Pk.pth t 0 l) t (some ⟨g, 0, none⟩) pt l.length capt w1 hx hy (by rw [Pk.pth_length]; exact hl) hlt
    have e0 : nibE (Pk.pth t 0 l) t = 0 := by unfold nibE; rw [if_pos ht]; exact whl_pth hw
    rw [Pk.pth_length, e0] at this
    exact this)
  have U1 := Lib.hid (fun (pb : Option Addr) (capb : Nat) (w1 : World) (hx : BytAt w1 pb (Pk.nby (Pk.nib t 0 l) l.length)) (hy : DatAt w1 pt t) => by
    have := p_Unn_ok (Pk.nby (Pk.nib t 0 l) l.length) t pb pt capb capt l.length w1 hx (fun x hx => by
      simp only [Pk.nby, List.mem_map, List.mem_range] at hx
      obtain ⟨m, _, rfl⟩ := hx
      exact Pk.nbyte_in (Pk.nib_in t 0 l) _ m) hy hlt ht (by unfold ask; rw [Pk.nby_length, Pk.nib_length, if_neg (by omega), if_neg (by omega)])
    rw [nib_bytes, Nat.sub_self, unx_nib] at this
    exact this)
  have U2 := Lib.hid (fun (pb : Option Addr) (capb : Nat) (w1 : World) (hx : BytAt w1 pb (Pk.nby (Pk.nib t 0 (Pk.pth t 0 l)) l.length)) (hy : DatAt w1 pt t) => by
    have hpl := Pk.pth_length t 0 l
    have := p_Unn_ok (Pk.nby (Pk.nib t 0 (Pk.pth t 0 l)) l.length) t pb pt capb capt l.length w1 hx (fun x hx => by
      simp only [Pk.nby, List.mem_map, List.mem_range] at hx
      obtain ⟨m, _, rfl⟩ := hx
      exact Pk.nbyte_in (Pk.nib_in t 0 _) _ m) hy hlt ht (by unfold ask; rw [Pk.nby_length, Pk.nib_length, hpl, if_neg (by omega), if_neg (by omega)])
    have e1 := nib_bytes t (Pk.pth t 0 l)
    have e2 := unx_nib t (Pk.pth t 0 l)
    rw [hpl] at e1 e2
    rw [e1, Nat.sub_self, e2, Pk.pth_pth] at this
    exact this)
  have L1 := Lib.hid (show (Pk.nby (Pk.nib t 0 l) l.length).length = (l.length + 1) / 2 by rw [Pk.nby_length, Pk.nib_length])
  have L2 := Lib.hid (show (Pk.nby (Pk.nib t 0 (Pk.pth t 0 l)) l.length).length = (l.length + 1) / 2 by rw [Pk.nby_length, Pk.nib_length, Pk.pth_length])
  have LX := Lib.hid (Pk.pth_length t 0 l)
  have HSF := Lib.hid (fun hh => still_self (t := t) hw hh)
  have HLI := Lib.hid (whl_in8 hw)
  have HTI := Lib.hid (tbl_of ht).2
  have HT16 := Lib.hid ht16
  obtain ⟨X, hX⟩ : ∃ X, Pk.pth t 0 l = X := ⟨_, rfl⟩
  obtain ⟨B1, hB1⟩ : ∃ B1, Pk.nby (Pk.nib t 0 l) l.length = B1 := ⟨_, rfl⟩
  rw [hX] at N2 U2 L2 LX HSF U1
  rw [hB1] at N1 U1 L1
  obtain ⟨B2, hB2⟩ : ∃ B2, Pk.nby (Pk.nib t 0 X) l.length = B2 := ⟨_, rfl⟩
  rw [hB2] at N2 U2 L2
  have HD := Lib.hid hd
  have HDT := Lib.hid hdt
  have SA := Lib.hid (fun (g1 g2 : Nat) (w1 : World) (ha : DatAt w1 (some ⟨g1, 0, none⟩) X) (hb : DatAt w1 (some ⟨g2, 0, none⟩) X) => by
    have := p_same X X (some ⟨g1, 0, none⟩) (some ⟨g2, 0, none⟩) l.length l.length l.length l.length w1 LX.out LX.out (by omega) (by omega) ha hb
    rw [show sml X X = true from decide_eq_true rfl] at this
    exact this)
  have SB := Lib.hid (fun (g1 : Nat) (w1 : World) (hx : X = l) (ha : DatAt w1 (some ⟨g1, 0, none⟩) X) (hb : DatAt w1 p l) => by
    have := p_same X l (some ⟨g1, 0, none⟩) p l.length l.length l.length cap w1 LX.out rfl (by omega) (by omega) ha hb
    rw [show sml X l = true from decide_eq_true hx] at this
    exact this)
  have A := Lib.hid (fun w1 => p_awake w1)
  have hlI : (l.length : Int) ≤ 4096 := by omega
  rw [ht16] at N1 N2 U1 U2
  rw [ht16]
  clear hd hdt h ht hw ht16 h4 hX hB1 hB2 hl hlt
  go_enter Try.func7, Try.ntmps7
  go_wp2_with (first
    | (go_at_call 20; (have hx := U1X.out); ((with_reducible refine (N2.out g1 _ DX.out (HDT.out.below WB2.out)).mono ?_); rintro x' w3 ⟨⟨u, rfl, _, hown⟩, hb⟩; obtain ⟨p2, c2, rfl, hk⟩ := own_dat (hown (by first | rfl | trivial)) rfl; have WB3 := Lib.hid (stepB WB2.out hb); have DX3 := Lib.hid (DX.out.below hb); have DB2 := Lib.hid (show BytAt _ p2 B2 from hk); clear hk hown hb hx))
    | (go_at_call 20; ((with_reducible refine N1.out.mono ?_); rintro x' w1 ⟨⟨u, rfl, _, hown⟩, hb⟩; obtain ⟨p1, c1, rfl, hk⟩ := own_dat (hown (by first | rfl | trivial)) rfl; have WB1 := Lib.hid hb; have DB1 := Lib.hid (show BytAt _ p1 B1 from hk); clear hk hown hb))
    | (go_at_call 22; (have hx := DB2.out); ((with_reducible refine (U2.out p2 c2 _ DB2.out (HDT.out.below WB3.out)).mono ?_); rintro x' w4 ⟨⟨g2, rfl, hown⟩, hb⟩; have WB4 := Lib.hid (stepB WB3.out hb); have DX4 := Lib.hid (DX3.out.below hb); have DY := Lib.hid (row_dat hown LX.out); clear hown hb hx))
    | (go_at_call 22; ((with_reducible refine (U1.out p1 c1 _ DB1.out (HDT.out.below WB1.out)).mono ?_); rintro x' w2 ⟨⟨g1, rfl, hown⟩, hb⟩; have WB2 := Lib.hid (stepB WB1.out hb); have DX := Lib.hid (row_dat hown LX.out); have U1X := Lib.hid trivial; clear hown hb))
    | (go_at_call 15; ((with_reducible refine (SA.out g1 g2 _ DX4.out DY.out).mono ?_); rintro x' w5 ⟨rfl, hb⟩; have WB5 := Lib.hid (stepB WB4.out hb); have DX5 := Lib.hid (DX4.out.below hb); clear hb)))
  clear N1 N2 U1 U2 SA DX DB1 DB2 DX3 DX4 DY WB1 WB2 WB3 WB4 U1X
  go_loopw [15, 16, 82] (fun pv av i wr => ∃ (k : Nat) (a : Bool), k ≤ l.length ∧ i = .int .i64 k ∧ pv = .int .i64 (prv l k) ∧ av = .bool a ∧ wr = w5 ∧ Hid (a = true → ∀ i, i < k → ∃ j, j < 16 ∧ (t.getD j 0 - (l.getD i 0 - prv l i)) % 256 = 0)) (fun _ _ i _ => l.length - (intOf i).toNat)
  case atStart => exact ⟨0, true, by omega, rfl, rfl, rfl, rfl, fun _ i hi => by omega⟩
  case round =>
    obtain ⟨k, a, hk, rfl, rfl, rfl, rfl, HA⟩ := hrel
    by_cases hltk : k < l.length
    · obtain ⟨bd, od, hp1, hc1⟩ := (HD.out.below WB5.out).at (i := k) hltk
      obtain ⟨y, hy⟩ : ∃ y, l.getD k 0 = y := ⟨_, rfl⟩
      obtain ⟨q, hq⟩ : ∃ q, prv l k = q := ⟨_, rfl⟩
      have y0 := getD_in (P := fun x => -128 ≤ x ∧ x ≤ 127) HLI.out hltk
      have q0 := prv_in (a := -128) (b := 127) (by omega) (by omega) HLI.out (k := k) (by omega)
      rw [hy] at hc1 y0
      rw [hq] at q0 ⊢
      have HY := Lib.hid hy
      have HQ := Lib.hid hq
      clear hy hq
      subst hp1
      go_wp2
      go_loopw [20, 91] (fun hv i wx => ∃ (m : Nat) (h : Bool), m ≤ 16 ∧ i = .int .i64 m ∧ hv = .bool h ∧ wx = wr ∧ Hid (h = true → ∃ j, j < 16 ∧ (t.getD j 0 - (y - q)) % 256 = 0)) (fun _ i _ => 16 - (intOf i).toNat)
      case atStart => exact ⟨0, false, by omega, rfl, rfl, rfl, fun h => absurd h (by decide)⟩
      case round =>
        obtain ⟨m, h, hm, rfl, rfl, rfl, HH⟩ := hrel
        by_cases hltm : m < 16
        · obtain ⟨bt, ot, hp2, hc2⟩ := (HDT.out.below WB5.out).at (i := m) (by rw [HT16.out]; exact hltm)
          obtain ⟨x, hx⟩ : ∃ x, t.getD m 0 = x := ⟨_, rfl⟩
          have x0 := getD_in (P := fun x => -128 ≤ x ∧ x ≤ 127) HTI.out (show m < t.length by rw [HT16.out]; exact hltm)
          rw [hx] at hc2 x0
          have HX := Lib.hid hx
          clear hx
          subst hp2
          cases h with
          | true =>
            go_wp2
            go_roundw
            case rel => exact ⟨m + 1, true, by omega, by go_num, rfl, (by first | rfl | trivial), HH.out⟩
            case measure => simp [intOf]; omega
          | false =>
            by_cases hz : (x - (y - q)).tmod 256 = 0
            · have hz2 : (x - (y - q)) % 256 = 0 := Int.emod_eq_zero_of_dvd (Int.dvd_of_tmod_eq_zero hz)
              have HZ := Lib.hid hz2
              clear hz2
              go_wp2
              go_roundw
              case rel => exact ⟨m + 1, true, by omega, by go_num, by go_num, (by first | rfl | trivial), fun _ => ⟨m, hltm, by rw [HX.out]; exact HZ.out⟩⟩
              case measure => simp [intOf]; omega
            · have hz3 : ((x - (y - q)).tmod 256 == 0) = false := by simpa using hz
              go_wp2
              go_roundw
              case rel => exact ⟨m + 1, false, by omega, by go_num, by go_num, (by first | rfl | trivial), fun h => absurd h (by decide)⟩
              case measure => simp [intOf]; omega
        · have e : m = 16 := by omega
          subst e
          cases a with
          | true =>
            go_wp2
            go_roundw
            case rel => exact ⟨k + 1, h, by omega, by go_num, by rw [prv_succ, HY.out], rfl, (by first | rfl | trivial), fun e i hi => by
              by_cases e2 : i = k
              · subst e2
                rw [HY.out, HQ.out]
                exact HH.out e
              · exact HA.out rfl i (by omega)⟩
            case measure => simp [intOf]; omega
          | false =>
            go_wp2
            go_roundw
            case rel => exact ⟨k + 1, false, by omega, by go_num, by rw [prv_succ, HY.out], rfl, (by first | rfl | trivial), fun e => absurd e (by decide)⟩
            case measure => simp [intOf]; omega
    · have e : k = l.length := by omega
      subst e
      cases a with
      | true =>
        have HXL := Lib.hid (HSF.out (HA.out rfl))
        go_wp2_with (first | (go_at_call 15; ((with_reducible refine (SB.out g1 _ HXL.out DX5.out (HD.out.below WB5.out)).mono ?_); rintro x' w6 ⟨rfl, hb⟩; have WB6 := Lib.hid (stepB WB5.out hb); clear hb)) | (go_at_call 8; ((with_reducible refine (A.out _).mono ?_); rintro x' w7 ⟨rfl, hb⟩; have WB7 := Lib.hid (stepB WB6.out hb); clear hb)))
        go_ret
        exact ⟨rfl, WB7.out⟩
      | false =>
        go_wp2_with (first | (go_at_call 8; ((with_reducible refine (A.out _).mono ?_); rintro x' w7 ⟨rfl, hb⟩; have WB7 := Lib.hid (stepB WB5.out hb); clear hb)))
        go_ret
        exact ⟨rfl, WB7.out⟩
/-- The law, whatever comes in. -/
theorem p_still (l t : List Int) (p pt : Option Addr) (cap capt : Nat) (w : World) (hd : DatAt w p l) (hdt : DatAt w pt t) (hl : (l.length : Int) ≤ 1152921504606846976) (hlt : (t.length : Int) ≤ 1152921504606846976) :
    Calls Try.prog 7 #[.slice p l.length cap, .slice pt t.length capt] w fun e w' => e = .returned (.bool true) ∧ Below w.heap.size w w' := by
  by_cases h : nibE l t = 0
  · exact still_ok l t p pt cap capt w hd hdt hl hlt h
  · exact still_bad l t p pt cap capt w hd hdt hl hlt h
theorem still_any (l : List Int) (p : Option Addr) (cap : Nat) (t : List Int) (pt : Option Addr) (capt : Nat) (w : World) (hd : DatAt w p l) (hl : (l.length : Int) ≤ 140737488351232) (_ : ∀ x ∈ l, -9223372036854775808 ≤ x ∧ x ≤ 9223372036854775807) (hdt : DatAt w pt t) (hlt : (t.length : Int) ≤ 140737488351232) (_ : ∀ x ∈ t, -9223372036854775808 ≤ x ∧ x ≤ 9223372036854775807) :
    Calls Try.prog 7 #[.slice p l.length cap, .slice pt t.length capt] w fun e w' => e = .returned (.bool true) ∧ Below w.heap.size w w' :=
  p_still l t p pt cap capt w hd hdt (by omega) (by omega)
end Go.Proofs.Ytfljgdehbogimaa
