/-
  Contracts of the reference's differences and sums: a new list of their values; nothing that was there is changed.
-/
import Derived.Test.YtfljgdehbogimaaRefNum
namespace Go.Proofs.Ytfljgdehbogimaa
open Go.RowKit

/-- The number ahead of place k: the last sum so far, or 0. -/
def prv (s : List Int) (k : Nat) : Int := if k = 0 then 0 else s.getD (k - 1) 0
theorem sums_step (h : Int) (l : List Int) {k : Nat} (hk : k < l.length) : Pk.wrp h (prv (Pk.sums h 0 l) k + l.getD k 0) = (Pk.sums h 0 l).getD k 0 := by
  unfold prv
  cases k with
  | zero => rw [Pk.sums_getD_zero h 0 l hk]; simp
  | succ k => rw [Pk.sums_getD_succ h 0 l k hk]; simp
theorem prv_succ (s : List Int) (k : Nat) : prv s (k + 1) = s.getD k 0 := by simp [prv]
theorem difs_step (h : Int) (l : List Int) {k : Nat} (hk : k < l.length) : Pk.wrp h (l.getD k 0 - prv l k) = (Pk.difs h 0 l).getD k 0 := by
  rw [Pk.difs_getD h 0 l k hk]
  unfold prv
  rfl
theorem getD_in {P : Int → Prop} {l : List Int} (h : ∀ x ∈ l, P x) {k : Nat} (hk : k < l.length) : P (l.getD k 0) := by
  rw [List.getD_eq_getElem?_getD, List.getElem?_eq_getElem hk]
  exact h _ (List.getElem_mem hk)
theorem prv_in {l : List Int} {a b : Int} (ha : a ≤ 0) (hb : 0 ≤ b) (h : ∀ x ∈ l, a ≤ x ∧ x ≤ b) {k : Nat} (hk : k ≤ l.length) : a ≤ prv l k ∧ prv l k ≤ b := by
  unfold prv
  split
  · exact ⟨ha, hb⟩
  · exact getD_in (P := fun x => a ≤ x ∧ x ≤ b) h (by omega)
set_option maxHeartbeats 1600000 in
theorem rsums (l : List Int) (p : Option Addr) (cap : Nat) (b : Int) (w : World) (hd : DatAt w p l) (hl : (l.length : Int) ≤ 4194304) (hr : ∀ x ∈ l, -1048576 ≤ x ∧ x ≤ 1048576) (hb : 1 ≤ b) (hb2 : b ≤ 17) :
    Calls Try.prog 39 #[.slice p l.length cap, .int .i64 b] w fun e w' => (∃ g, e = .returned (.slice (some ⟨g, 0, none⟩) l.length l.length) ∧ w'.ownsRow w.heap.size 3 1 (.slice (some ⟨g, 0, none⟩) l.length l.length) l.length ((Pk.sums (hlf b) 0 l).map (Value.int .i64))) ∧ Below w.heap.size w w' := by
  have HD0 := Lib.hid hd
  have HSI : Hid (∀ x ∈ Pk.sums (hlf b) 0 l, -65536 ≤ x ∧ x ≤ 65536) := Lib.hid fun x hx => by
    have := Pk.sums_in (hlf_pos b) 0 l x hx
    have := hlf_le hb2
    omega
  have HLN := Lib.hid (Pk.sums_length (hlf b) 0 l)
  have HST := Lib.hid (fun k hk => sums_step (hlf b) l (k := k) hk)
  have HR := Lib.hid hr
  obtain ⟨S, hS⟩ : ∃ S, Pk.sums (hlf b) 0 l = S := ⟨_, rfl⟩
  rw [hS] at HSI HLN HST ⊢
  clear hS hd hr
  obtain ⟨i0, hinf, hz0, hz1, hz2⟩ := info_parts Try.infoInt
  go_enter Try.func39, Try.ntmps39
  go_wp2_with (first | (at_make; refine wpList_make_full _ rfl _ _ 22 rfl w.heap.size 3 i0 (.int .i64 0) 1 Try.underlying22 hinf hz0 hz1 .i64 .i64 _ _ l.length rfl rfl rfl rfl (by rw [hz2]; omega) (by unfold maxLen; omega) (by simp) ?_; intro w3 hown3 hgrow3; have HOWN := Lib.hid hown3; have hb3 := grown_below hgrow3; clear hown3 hgrow3))
  have HWB := Lib.hid hb3
  have HOW : Hid (w3.ownsRow w.heap.size 3 1 (.slice (some ⟨w.heap.size, 0, none⟩) l.length l.length) l.length (frow (fun i => S.getD i 0) l.length 0)) := by
    have e : (madeCells (Value.int .i64 0).cells (l.length * 1)).toList = frow (fun i => S.getD i 0) l.length 0 := by rw [frow_zero, Nat.mul_one]; exact toList_madeCells_one _ l.length
    have := HOWN.out
    rw [e] at this
    exact Lib.hid (by simpa using this)
  obtain ⟨g, hge⟩ : ∃ g, g = w.heap.size := ⟨_, rfl⟩
  obtain ⟨B, hBe⟩ : ∃ B, B = w.heap.size := ⟨_, rfl⟩
  rw [← hBe] at HWB HOW
  rw [← hBe]
  have hgB : B ≤ g := by omega
  have hgw : w3.heap.size ≥ B := by have := hb3.size; omega
  rw [show (Value.slice (some ⟨B, 0, none⟩) l.length l.length) = Value.slice (some ⟨g, 0, none⟩) l.length l.length by rw [hge, hBe]] at HOW
  rw [show (⟨B, 0, none⟩ : Addr) = ⟨g, 0, none⟩ by rw [hge, hBe]]
  have HDK := Lib.hid (show ∀ wr, Below B w wr → DatAt wr p l from fun wr hb => HD0.out.below (hBe ▸ hb))
  have HBE := Lib.hid hBe
  clear hge hBe hb3 HOWN hgw HD0
  go_loopw [6, 7] (fun pv i wr => ∃ k : Nat, k ≤ l.length ∧ i = .int .i64 k ∧ pv = .int .i64 (prv S k) ∧ Hid (wr.ownsRow B 3 1 (.slice (some ⟨g, 0, none⟩) l.length l.length) l.length (frow (fun i => S.getD i 0) l.length k)) ∧ Hid (Below B w wr)) (fun _ i _ => l.length - (intOf i).toNat)
  case atStart => exact ⟨0, by omega, rfl, rfl, HOW.out, HWB.out⟩
  case round =>
    clear HOW HWB
    obtain ⟨k, hk, rfl, rfl, HU, hbw⟩ := hrel
    by_cases hlt : k < l.length
    · obtain ⟨bd, od, hp1, hc1⟩ := (HDK.out wr hbw.out).at (i := k) hlt
      obtain ⟨y, hy⟩ : ∃ y, l.getD k 0 = y := ⟨_, rfl⟩
      obtain ⟨q, hq⟩ : ∃ q, prv S k = q := ⟨_, rfl⟩
      obtain ⟨v, hv⟩ : ∃ v, S.getD k 0 = v := ⟨_, rfl⟩
      have y0 := getD_in (P := fun x => -1048576 ≤ x ∧ x ≤ 1048576) HR.out hlt
      have q0 := prv_in (by omega) (by omega) HSI.out (k := k) (by rw [HLN.out]; omega)
      have st := HST.out k hlt
      rw [hy] at hc1 y0 st
      rw [hq] at q0 st
      rw [hv] at st
      have HV := Lib.hid hv
      have C := Lib.hid (st ▸ rwrap (q + y) b wr (by omega) (by omega) hb hb2)
      have a0 := (HU.out.cellAt k (by omega)).trans (frow_at (fun i => S.getD i 0) hlt)
      have a1 := HU.out.frozenAt k
      clear hy st hv
      rw [hq]
      subst hp1
      go_wp2_with (first | (go_at_call 37; ((with_reducible refine C.out.mono ?_); rintro x' w' ⟨rfl, rfl⟩)))
      go_roundw
      case rel => exact ⟨k + 1, by omega, by go_num, by rw [prv_succ, HV.out], (congrArg _ (frow_set (fun i => S.getD i 0) hlt HV.out.symm)).mp (HU.out.stored k (.int .i64 v)).1, hbw.out.setCell hgB _⟩
      case measure => simp [intOf]; omega
    · have HE := Lib.hid (show frow (fun i => S.getD i 0) l.length k = S.map (Value.int .i64) by
        rw [show k = l.length by omega]
        exact frow_full _ HLN.out fun i hi => rfl)
      go_wp2
      go_ret
      have e := HBE.out
      subst e
      exact ⟨⟨g, rfl, HE.out ▸ HU.out⟩, hbw.out⟩
set_option maxHeartbeats 1600000 in
theorem rdifs (l : List Int) (p : Option Addr) (cap : Nat) (b : Int) (w : World) (hd : DatAt w p l) (hl : (l.length : Int) ≤ 4194304) (hr : ∀ x ∈ l, -1048576 ≤ x ∧ x ≤ 1048576) (hb : 1 ≤ b) (hb2 : b ≤ 17) :
    Calls Try.prog 27 #[.slice p l.length cap, .int .i64 b] w fun e w' => (∃ g, e = .returned (.slice (some ⟨g, 0, none⟩) l.length l.length) ∧ w'.ownsRow w.heap.size 3 1 (.slice (some ⟨g, 0, none⟩) l.length l.length) l.length ((Pk.difs (hlf b) 0 l).map (Value.int .i64))) ∧ Below w.heap.size w w' := by
  have HD0 := Lib.hid hd
  have HSI : Hid (∀ x ∈ Pk.difs (hlf b) 0 l, -65536 ≤ x ∧ x ≤ 65536) := Lib.hid fun x hx => by
    have := Pk.difs_in (hlf_pos b) 0 l x hx
    have := hlf_le hb2
    omega
  have HLN := Lib.hid (Pk.difs_length (hlf b) 0 l)
  have HST := Lib.hid (fun k hk => difs_step (hlf b) l (k := k) hk)
  have HR := Lib.hid hr
  obtain ⟨S, hS⟩ : ∃ S, Pk.difs (hlf b) 0 l = S := ⟨_, rfl⟩
  rw [hS] at HSI HLN HST ⊢
  clear hS hd hr
  obtain ⟨i0, hinf, hz0, hz1, hz2⟩ := info_parts Try.infoInt
  go_enter Try.func27, Try.ntmps27
  go_wp2_with (first | (at_make; refine wpList_make_full _ rfl _ _ 22 rfl w.heap.size 3 i0 (.int .i64 0) 1 Try.underlying22 hinf hz0 hz1 .i64 .i64 _ _ l.length rfl rfl rfl rfl (by rw [hz2]; omega) (by unfold maxLen; omega) (by simp) ?_; intro w3 hown3 hgrow3; have HOWN := Lib.hid hown3; have hb3 := grown_below hgrow3; clear hown3 hgrow3))
  have HWB := Lib.hid hb3
  have HOW : Hid (w3.ownsRow w.heap.size 3 1 (.slice (some ⟨w.heap.size, 0, none⟩) l.length l.length) l.length (frow (fun i => S.getD i 0) l.length 0)) := by
    have e : (madeCells (Value.int .i64 0).cells (l.length * 1)).toList = frow (fun i => S.getD i 0) l.length 0 := by rw [frow_zero, Nat.mul_one]; exact toList_madeCells_one _ l.length
    have := HOWN.out
    rw [e] at this
    exact Lib.hid (by simpa using this)
  obtain ⟨g, hge⟩ : ∃ g, g = w.heap.size := ⟨_, rfl⟩
  obtain ⟨B, hBe⟩ : ∃ B, B = w.heap.size := ⟨_, rfl⟩
  rw [← hBe] at HWB HOW
  rw [← hBe]
  have hgB : B ≤ g := by omega
  have hgw : w3.heap.size ≥ B := by have := hb3.size; omega
  rw [show (Value.slice (some ⟨B, 0, none⟩) l.length l.length) = Value.slice (some ⟨g, 0, none⟩) l.length l.length by rw [hge, hBe]] at HOW
  rw [show (⟨B, 0, none⟩ : Addr) = ⟨g, 0, none⟩ by rw [hge, hBe]]
  have HDK := Lib.hid (show ∀ wr, Below B w wr → ∀ k, k < l.length → ∃ bd od, p = some ⟨bd, od, none⟩ ∧ bd < B ∧ wr.cell? ⟨bd, od + k, none⟩ = some (.int .i64 (l.getD k 0)) from fun wr hb k hk => by
    obtain ⟨bd, od, hp, hc⟩ := HD0.out.at (i := k) hk
    exact ⟨bd, od, hp, hBe ▸ cell_lt hc, kept_cell (hBe ▸ hb) hc⟩)
  have HBE := Lib.hid hBe
  clear hge hBe hb3 HOWN hgw HD0
  go_loopw [6, 7] (fun pv i wr => ∃ k : Nat, k ≤ l.length ∧ i = .int .i64 k ∧ pv = .int .i64 (prv l k) ∧ Hid (wr.ownsRow B 3 1 (.slice (some ⟨g, 0, none⟩) l.length l.length) l.length (frow (fun i => S.getD i 0) l.length k)) ∧ Hid (Below B w wr)) (fun _ i _ => l.length - (intOf i).toNat)
  case atStart => exact ⟨0, by omega, rfl, rfl, HOW.out, HWB.out⟩
  case round =>
    clear HOW HWB
    obtain ⟨k, hk, rfl, rfl, HU, hbw⟩ := hrel
    by_cases hlt : k < l.length
    · obtain ⟨bd, od, hp1, hbB, hc1⟩ := HDK.out wr hbw.out k hlt
      obtain ⟨y, hy⟩ : ∃ y, l.getD k 0 = y := ⟨_, rfl⟩
      obtain ⟨q, hq⟩ : ∃ q, prv l k = q := ⟨_, rfl⟩
      obtain ⟨v, hv⟩ : ∃ v, S.getD k 0 = v := ⟨_, rfl⟩
      have y0 := getD_in (P := fun x => -1048576 ≤ x ∧ x ≤ 1048576) HR.out hlt
      have q0 := prv_in (by omega) (by omega) HR.out (k := k) (by omega)
      have st := HST.out k hlt
      rw [hy] at hc1 y0 st
      rw [hq] at q0 st
      rw [hv] at st
      have HV := Lib.hid hv
      have HY := Lib.hid hy
      have C := Lib.hid (st ▸ rwrap (y - q) b wr (by omega) (by omega) hb hb2)
      have a0 := (HU.out.cellAt k (by omega)).trans (frow_at (fun i => S.getD i 0) hlt)
      have a1 := HU.out.frozenAt k
      have hc2 := (cell_set (w := wr) (x := bd) (y := g) (by omega) (od + k) k (.int .i64 v)).trans hc1
      clear hy st hv
      rw [hq]
      subst hp1
      go_wp2_with (first | (go_at_call 37; ((with_reducible refine C.out.mono ?_); rintro x' w' ⟨rfl, rfl⟩)))
      go_roundw
      case rel => exact ⟨k + 1, by omega, by go_num, by rw [prv_succ, HY.out], (congrArg _ (frow_set (fun i => S.getD i 0) hlt HV.out.symm)).mp (HU.out.stored k (.int .i64 v)).1, hbw.out.setCell hgB _⟩
      case measure => simp [intOf]; omega
    · have HE := Lib.hid (show frow (fun i => S.getD i 0) l.length k = S.map (Value.int .i64) by
        rw [show k = l.length by omega]
        exact frow_full _ HLN.out fun i hi => rfl)
      go_wp2
      go_ret
      have e := HBE.out
      subst e
      exact ⟨⟨g, rfl, HE.out ▸ HU.out⟩, hbw.out⟩
end Go.Proofs.Ytfljgdehbogimaa
