/-
  The contract of package pack's Nibbles.
-/
import Derived.Test.YtfljgdehbogimaaPNear
import Derived.Test.YtfljgdehbogimaaPPut
namespace Go.Proofs.Ytfljgdehbogimaa
open Go.RowKit

theorem byte_or2 {y b : Int} {r : Nat} (y0 : 0 ≤ y) (y1 : y < 2 ^ r) (hr : r ≤ 7) (b0 : 0 ≤ b) (hb : b * 2 ^ r < 256) : bits .or .u8 y (b * 2 ^ r % 256) = y + b * 2 ^ r := by
  have e : ((2 ^ r : Nat) : Int) = (2 : Int) ^ r := by norm_cast
  have hq : (2 : Nat) ^ r ≤ 2 ^ 7 := Nat.pow_le_pow_right (by decide) hr
  have hp : (0 : Int) < 2 ^ r := Int.pow_pos (by decide)
  have hb0 : 0 ≤ b * 2 ^ r := Int.mul_nonneg b0 (Int.le_of_lt hp)
  have hz : ∀ z : Int, 0 ≤ z → z < 256 → (z % ((2 ^ 8 : Nat) : Int)).toNat = z.toNat := fun z h1 h2 => by rw [Int.emod_eq_of_lt h1 (by simpa using h2)]
  have hs : y + b * 2 ^ r < 256 := by
    by_cases hbz : b = 0
    · subst hbz; omega
    · obtain ⟨c, hc⟩ : ∃ c : Nat, b = c := ⟨b.toNat, by omega⟩
      subst hc
      have h256 : (c : Int) * 2 ^ r = ((c * 2 ^ r : Nat) : Int) := by rw [Int.natCast_mul, e]
      have hr8 : 2 ^ r ∣ 256 := by
        have : (256 : Nat) = 2 ^ 8 := by decide
        rw [this]
        exact Nat.pow_dvd_pow 2 (by omega)
      obtain ⟨d, hd⟩ := hr8
      have h1 : c * 2 ^ r < d * 2 ^ r := by rw [Nat.mul_comm d, ← hd]; omega
      have h2 : c + 1 ≤ d := Nat.lt_of_mul_lt_mul_right h1
      have h3 : (c + 1) * 2 ^ r ≤ 256 := by rw [hd, Nat.mul_comm (2 ^ r)]; exact Nat.mul_le_mul_right _ h2
      rw [Nat.succ_mul] at h3
      omega
  rw [Int.emod_eq_of_lt hb0 hb]
  show IntKind.u8.wrap ((BitVec.ofInt 8 y ||| BitVec.ofInt 8 (b * 2 ^ r)).toNat : Int) = _
  rw [BitVec.toNat_or, BitVec.toNat_ofInt, BitVec.toNat_ofInt, hz y y0 (by omega), hz _ hb0 hb]
  obtain ⟨c, hc⟩ : ∃ c : Nat, b = c := ⟨b.toNat, by omega⟩
  subst hc
  have h256 : (c : Int) * 2 ^ r = ((2 ^ r * c : Nat) : Int) := by rw [Int.natCast_mul, e, Int.mul_comm]
  rw [h256] at hs ⊢
  rw [Int.toNat_natCast, Nat.or_comm, ← Nat.two_pow_add_eq_or_of_lt (by omega) c]
  have e3 : ((2 ^ r * c + y.toNat : Nat) : Int) = y + ((2 ^ r * c : Nat) : Int) := by omega
  rw [e3]
  have hm : (0 : Int) ≤ ((2 ^ r * c : Nat) : Int) := Int.natCast_nonneg _
  generalize ((2 ^ r * c : Nat) : Int) = m at *
  simp [IntKind.wrap, IntKind.signed, IntKind.bits]
  omega
theorem nib_at (t : List Int) : ∀ (q : Int) (l : List Int) (k : Nat), k < l.length → (Pk.nib t q l).getD k 0 = Pk.nidx t (if k = 0 then q else (Pk.pth t q l).getD (k - 1) 0) (l.getD k 0) ∧ (Pk.pth t q l).getD k 0 = Pk.wrp 128 ((if k = 0 then q else (Pk.pth t q l).getD (k - 1) 0) + t.getD (Pk.nidx t (if k = 0 then q else (Pk.pth t q l).getD (k - 1) 0) (l.getD k 0)) 0)
  | _, [], k, h => absurd h (by simp)
  | q, x :: l, 0, _ => by simp [Pk.nib, Pk.pth]
  | q, x :: l, k + 1, h => by
    have ih := nib_at t (Pk.wrp 128 (q + t.getD (Pk.nidx t q x) 0)) l k (by simpa using h)
    cases k with
    | zero => simpa [Pk.nib, Pk.pth] using ih
    | succ k => simpa [Pk.nib, Pk.pth] using ih
theorem row_put {e : TypeId} {w : World} {B g c n m : Nat} {ki : IntKind} {L L' : List Int} (h : w.ownsRow B e 1 (.slice (some ⟨g, 0, none⟩) n c) n (L.map (Value.int ki))) {x : Int} (he : L' = L.set m x) : (w.setCell ⟨g, m, none⟩ (.int ki x)).drew.ownsRow B e 1 (.slice (some ⟨g, 0, none⟩) n c) n (L'.map (Value.int ki)) := by
  rw [he, List.map_set]
  exact (h.stored m (.int ki x)).1
theorem below_put {B g m : Nat} {w wr : World} (h : Below B w wr) (hg : B ≤ g) (v : Value) : Below B w (wr.setCell ⟨g, m, none⟩ v).drew := (h.setCell (by exact hg) v).drew
theorem tbl_of {t : List Int} (h : tbl t = true) : t.length = 16 ∧ ∀ x ∈ t, -128 ≤ x ∧ x ≤ 127 := by
  unfold tbl at h
  simp only [Bool.and_eq_true, decide_eq_true_eq] at h
  refine ⟨h.2, fun x hx => ?_⟩
  have := (Pk.wrp_iff (hlf_pos 8)).1 (h.1 x hx)
  rw [show hlf 8 = 128 by decide] at this
  omega
theorem whl_in8 {l : List Int} (h : whl l 8 = 0) : ∀ x ∈ l, -128 ≤ x ∧ x ≤ 127 := fun x hx => by
  have := (Pk.wrp_iff (hlf_pos 8)).1 ((whl_zero h).2.1 x hx)
  rw [show hlf 8 = 128 by decide] at this
  omega
set_option maxHeartbeats 1600000 in
theorem p_Nibbles_ok (l t : List Int) (p pt : Option Addr) (cap capt : Nat) (w : World) (hd : DatAt w p l) (hdt : DatAt w pt t) (hl : (l.length : Int) ≤ 1152921504606846976) (hlt : (t.length : Int) ≤ 1152921504606846976) (ht : tbl t = true) (h : whl l 8 = 0) :
    Calls Try.prog 20 #[.slice p l.length cap, .slice pt t.length capt] w fun e w' => (∃ u, e = .returned (.tuple #[u, .int .i64 0]) ∧ w'.ownsRow w.heap.size 5 1 u (Pk.nby (Pk.nib t 0 l) l.length).length ((Pk.nby (Pk.nib t 0 l) l.length).map (Value.int .u8))) ∧ Below w.heap.size w w' := by
  have C1 := Lib.hid (ht ▸ p_validTable t pt capt w hdt hlt)
  have C2 := Lib.hid (h ▸ p_askData l p cap 8 w hd hl)
  obtain ⟨i0, hinf, hz0, hz1, hz2⟩ := info_parts Try.infoByte
  have hdl := whl_in8 h
  have h4 : (l.length : Int) ≤ 4096 := by have := (whl_zero h).2.2; omega
  obtain ⟨M, hM⟩ : ∃ M, (l.length + 1) / 2 = M := ⟨_, rfl⟩
  have hM1 : ((l.length : Int) + 1).tdiv 2 = (M : Int) := by rw [Int.tdiv_eq_ediv_of_nonneg (by omega)]; omega
  have hM2 : ((l.length : Int) + 1) / 2 = (M : Int) := by omega
  have hM3 : (M : Int) ≤ 2049 := by omega
  have HM := Lib.hid hM
  clear h hM
  have HJS := Lib.hid (Pk.nib_in t 0 l)
  have HJL := Lib.hid (Pk.nib_length t 0 l)
  have HAT := Lib.hid (fun k hk => nib_at t 0 l k hk)
  have HPI := Lib.hid (Pk.pth_in t 0 l)
  have HPL := Lib.hid (Pk.pth_length t 0 l)
  obtain ⟨js, hjs⟩ : ∃ js, Pk.nib t 0 l = js := ⟨_, rfl⟩
  obtain ⟨P, hP⟩ : ∃ P, Pk.pth t 0 l = P := ⟨_, rfl⟩
  rw [hjs] at HJS HJL ⊢
  simp only [hjs, hP] at HAT
  rw [hP] at HPI HPL
  have HST := Lib.hid (fun k hk => Pk.nby_step js (k := k) (by rw [HJL.out]; exact hk))
  have HSM := Lib.hid (fun k => Pk.nbyte_small HJS.out k)
  clear hjs hP
  go_enter Try.func20, Try.ntmps20
  go_wp2_with (first | (go_at_call 49; ((with_reducible refine C1.out.mono ?_); rintro x' w' ⟨rfl, rfl⟩)) | (go_at_call 24; ((with_reducible refine C2.out.mono ?_); rintro x' w' ⟨rfl, rfl⟩)) | (at_make; refine wpList_make_full _ rfl _ _ 24 rfl w.heap.size 5 i0 (.int .u8 0) 1 Try.underlying24 hinf hz0 hz1 .i64 .i64 _ _ M rfl rfl rfl rfl (by rw [hz2]; omega) (by unfold maxLen; omega) (by simp) ?_; intro w3 hown3 hgrow3; have HOWN := Lib.hid hown3; have HB3 := Lib.hid (grown_below hgrow3); clear hown3 hgrow3))
  have HOW : Hid (w3.ownsRow w.heap.size 5 1 (.slice (some ⟨w.heap.size, 0, none⟩) M M) M ((Pk.nby js 0).map (Value.int .u8))) := by
    have e : (madeCells (Value.int .u8 0).cells (M * 1)).toList = (Pk.nby js 0).map (Value.int .u8) := by
      rw [Pk.nby_zero, HJL.out, HM.out, Nat.mul_one, List.map_replicate]
      exact toList_madeCells_one _ M
    have := HOWN.out
    rw [e] at this
    exact Lib.hid this
  obtain ⟨g, hge⟩ : ∃ g, g = w.heap.size := ⟨_, rfl⟩
  obtain ⟨B, hBe⟩ : ∃ B, B = w.heap.size := ⟨_, rfl⟩
  have HBE := Lib.hid hBe
  rw [← hBe] at HOW HB3
  rw [← hBe]
  have hgB : B ≤ g := by omega
  rw [show (Value.slice (some ⟨B, 0, none⟩) M M) = Value.slice (some ⟨g, 0, none⟩) M M by rw [hge, hBe]] at HOW
  rw [show (⟨B, 0, none⟩ : Addr) = ⟨g, 0, none⟩ by rw [hge, hBe]]
  have HD := Lib.hid (fun wr (hb : Below B w wr) => hd.below (hBe ▸ hb))
  have HDT := Lib.hid (fun wr (hb : Below B w wr) => hdt.below (hBe ▸ hb))
  have hvt := tbl_of ht
  have HT16 := Lib.hid hvt.1
  have HTI := Lib.hid hvt.2
  have HLI := Lib.hid hdl
  have ht16 := hvt.1
  rw [ht16] at C1
  clear hge hBe hd hdt HOWN hvt C1 C2 ht hdl
  rw [ht16]
  go_loopw [8, 27] (fun pv i wr => ∃ k : Nat, k ≤ l.length ∧ i = .int .i64 k ∧ pv = .int .i64 (prv P k) ∧ Hid (wr.ownsRow B 5 1 (.slice (some ⟨g, 0, none⟩) M M) M ((Pk.nby js k).map (Value.int .u8))) ∧ Hid (Below B w wr)) (fun _ i _ => l.length - (intOf i).toNat)
  case atStart => exact ⟨0, by omega, rfl, rfl, HOW.out, HB3.out⟩
  case round =>
    clear HOW HB3
    obtain ⟨k, hk, rfl, rfl, HU, hbw⟩ := hrel
    by_cases hlt : k < l.length
    · obtain ⟨bd, od, hp1, hc1⟩ := (HD.out wr hbw.out).at (i := k) hlt
      obtain ⟨y, hy⟩ : ∃ y, l.getD k 0 = y := ⟨_, rfl⟩
      have hat := HAT.out k hlt
      have y0 := getD_in (P := fun x => -128 ≤ x ∧ x ≤ 127) HLI.out hlt
      have q0 := prv_in (a := -128) (b := 127) (by omega) (by omega) (fun x hx => by have := HPI.out x hx; omega) (l := P) (k := k) (by rw [HPL.out]; omega)
      rw [hy] at hc1 y0 hat
      have hpe : (if k = 0 then 0 else P.getD (k - 1) 0) = prv P k := rfl
      rw [hpe] at hat
      obtain ⟨q, hq⟩ : ∃ q, prv P k = q := ⟨_, rfl⟩
      rw [hq] at hat q0 ⊢
      have CN := Lib.hid (p_nearest t pt capt q y wr (HDT.out wr hbw.out) HT16.out (fun x hx => by have := HTI.out x hx; omega) q0.1 q0.2 y0.1 y0.2)
      have hj16 := Pk.nidx_lt t q y
      obtain ⟨j, hj⟩ : ∃ j, Pk.nidx t q y = j := ⟨_, rfl⟩
      rw [hj] at hat CN hj16
      obtain ⟨bt, ot, hp2, hc2⟩ := (HDT.out wr hbw.out).at (i := j) (by rw [HT16.out]; exact hj16)
      have t0 := getD_in (P := fun x => -128 ≤ x ∧ x ≤ 127) HTI.out (show j < t.length by rw [HT16.out]; exact hj16)
      obtain ⟨tj, htj⟩ : ∃ tj, t.getD j 0 = tj := ⟨_, rfl⟩
      rw [htj] at hc2 t0 hat
      have CW := Lib.hid (p_wrap (q + tj) 8 wr (by omega) (by omega) (by omega) (by omega))
      rw [show hlf 8 = 128 by decide, ← hat.2] at CW
      have HJE := Lib.hid hat.1
      obtain ⟨z, hz⟩ : ∃ z, P.getD k 0 = z := ⟨_, rfl⟩
      rw [hz] at CW
      have HQ := Lib.hid hz
      have HLT := Lib.hid hlt
      obtain ⟨m, hm⟩ : ∃ m, k / 2 = m := ⟨_, rfl⟩
      have hmM : m < M := by have := HM.out; omega
      have hd1 : (k : Int) / 2 = (m : Int) := by omega
      have hd2 : (k : Int).tdiv 2 = (m : Int) := by rw [Int.tdiv_eq_ediv_of_nonneg (by omega)]; omega
      have hsm := HSM.out k
      rw [hm] at hsm
      have HMK := Lib.hid hm
      obtain ⟨v, hv⟩ : ∃ v, Pk.nbyte js k m = v := ⟨_, rfl⟩
      have c0 : wr.cell? ⟨g, m, none⟩ = some (.int .u8 v) := by
        rw [HU.out.cellAt m (by omega), map_getD (by rw [Pk.nby_length, HJL.out, HM.out]; exact hmM), Pk.nby_getD js k (by rw [HJL.out, HM.out]; exact hmM), hv]
      have c1 := HU.out.frozenAt m
      rw [hv] at hsm
      have HYE := Lib.hid hv
      clear hm hv hat hz htj hj hq hpe hy
      subst hp1 hp2
      rcases Nat.mod_two_eq_zero_or_one k with hpar | hpar
      · have HPK := Lib.hid hpar
        rw [hpar] at hsm
        have hv0 : v = 0 := by have := hsm.1; have := hsm.2; simp at *; omega
        subst hv0
        have hr1 : (k : Int) % 2 = 0 := by omega
        have hr2 : (k : Int).tmod 2 = 0 := by rw [Int.tmod_eq_emod_of_nonneg (by omega)]; omega
        have hor : bits .or .u8 0 (j : Int) = (j : Int) := by
          have := byte_or2 (y := 0) (b := (j : Int)) (r := 0) (by omega) (by decide) (by omega) (by omega) (by simp; omega)
          rw [Int.pow_zero, Int.mul_one, Int.emod_eq_of_lt (by omega) (by omega)] at this
          omega
        clear hsm hpar
        go_wp2_with (first | (go_at_call 50; ((with_reducible refine CN.out.mono ?_); rintro x' w' ⟨rfl, rfl⟩)) | (go_at_call 43; ((with_reducible refine CW.out.mono ?_); rintro x' w' ⟨rfl, rfl⟩)))
        go_region
        go_wp2
        go_roundw
        case rel => exact ⟨k + 1, by omega, by go_num, by rw [prv_succ, HQ.out], row_put HU.out (x := (j : Int)) (by rw [HST.out k HLT.out, HMK.out, HYE.out, HJE.out, HPK.out, Nat.zero_mul, Int.pow_zero, Int.mul_one, Int.zero_add]), below_put hbw.out hgB _⟩
        case measure => simp [intOf]; omega
      · have HPK := Lib.hid hpar
        rw [hpar] at hsm
        have hv16 : v < 16 := by have := hsm.2; simpa using this
        have hv0 := hsm.1
        have hr1 : (k : Int) % 2 = 1 := by omega
        have hr2 : (k : Int).tmod 2 = 1 := by rw [Int.tmod_eq_emod_of_nonneg (by omega)]; omega
        have hor : bits .or .u8 v ((j : Int) * 16 % 256) = v + (j : Int) * 16 := by
          have := byte_or2 (y := v) (b := (j : Int)) (r := 4) (by omega) (by simpa using hv16) (by omega) (by omega) (by simp; omega)
          simpa using this
        have hor2 : bits .or .u8 v ((j : Int) * 16) = v + (j : Int) * 16 := by
          rw [Int.emod_eq_of_lt (by omega) (by omega)] at hor
          exact hor
        clear hsm hpar
        go_wp2_with (first | (go_at_call 50; ((with_reducible refine CN.out.mono ?_); rintro x' w' ⟨rfl, rfl⟩)) | (go_at_call 43; ((with_reducible refine CW.out.mono ?_); rintro x' w' ⟨rfl, rfl⟩)))
        go_region
        go_wp2
        go_roundw
        case rel => exact ⟨k + 1, by omega, by go_num, by rw [prv_succ, HQ.out], row_put HU.out (x := v + (j : Int) * 16) (by rw [HST.out k HLT.out, HMK.out, HYE.out, HJE.out, HPK.out]; rfl), below_put hbw.out hgB _⟩
        case measure => simp [intOf]; omega
    · have e : k = l.length := by omega
      subst e
      go_wp2
      go_ret2
      have e := HBE.out
      subst e
      exact ⟨⟨_, rfl, by rw [Pk.nby_length, HJL.out, HM.out]; exact HU.out⟩, hbw.out⟩
end Go.Proofs.Ytfljgdehbogimaa
