/-
  The literal in package pattern's Unpack: all rows.
-/
import Derived.Test.YtfjfnbeegojlbaaPUcA
namespace Go.Proofs.Ytfjfnbeegojlbaa
open Go.RowKit

/-- What the literal does. -/
def RetU (w : World) (bR bC n : Nat) (xs : List Int) (p : Option Addr) (cap : Nat) (T : Except Int Pt.Ur) (x : Ending) (w' : World) : Prop :=
  match T with
  | .error e => x = Pn e ∧ Fz w bR bC w'
  | .ok u => ∃ j, x = .returned (.tuple #[]) ∧ u.b = xs.drop j ∧ u.row.length = n ∧ Rw w bR bC 0 xs p cap j (List.replicate n Pt.zc) u.row u.ls w'
set_option maxRecDepth 100000 in
set_option maxHeartbeats 3200000 in
theorem p_rows {w : World} {bR bC br bc bP R C : Nat} {xs : List Int} {p : Option Addr} {cap i cp : Nat} {ls : List Pt.Cl} (h : Rw w bR bC 0 xs p cap i (List.replicate (R * C) Pt.zc) [] ls w) (hp : ∀ b off, p = some ⟨b, off, none⟩ → b < w.heap.size ∧ b ≠ bC)
    (hr : w.cell? ⟨br, 0, none⟩ = some (.int .i64 R)) (hc : w.cell? ⟨bc, 0, none⟩ = some (.int .i64 C)) (hpt : w.cell? ⟨bP, 1, none⟩ = some (.slice (some ⟨bC, 0, none⟩) (R * C) cp)) (h1 : 1 ≤ R) (h2 : R ≤ 64) (h3 : 1 ≤ C) (h4 : C ≤ 16) (hls : ls.length = 16) (hcp : R * C ≤ cp) (hne : bC ≠ bR) (n1 : bc ≠ bR ∧ bc ≠ bC) (n2 : bP ≠ bR ∧ bP ≠ bC) :
    Calls Try.prog 43 #[.pointer (some ⟨br, 0, none⟩), .pointer (some ⟨bR, 0, none⟩), .pointer (some ⟨bP, 0, none⟩), .pointer (some ⟨bc, 0, none⟩)] w fun x w' => RetU w bR bC (R * C) xs p cap (Pt.urows C R ⟨[], ls, xs.drop i⟩) x w' := by
  obtain ⟨T, hT⟩ : ∃ T, Pt.urows C R ⟨[], ls, xs.drop i⟩ = T := ⟨_, rfl⟩
  rw [hT]
  obtain ⟨n, hn⟩ : ∃ n, R * C = n := ⟨_, rfl⟩
  have hn1 : n ≤ 1024 := by rw [← hn]; exact Pt.rc_bound h2 h4
  rw [hn] at h hpt hcp ⊢
  have HT := Lib.hid hT
  have HH := Lib.hid h
  have HP := Lib.hid hp
  have HS := Lib.hid (show R * C = n ∧ n ≤ 1024 ∧ 1 ≤ R ∧ R ≤ 64 ∧ 1 ≤ C ∧ C ≤ 16 ∧ n ≤ cp ∧ bC ≠ bR from ⟨hn, hn1, h1, h2, h3, h4, hcp, hne⟩)
  have HK := Lib.hid (show ∀ u, Fz w bR bC u → u.cell? ⟨bc, 0, none⟩ = some (.int .i64 C) ∧ u.cell? ⟨bP, 1, none⟩ = some (.slice (some ⟨bC, 0, none⟩) n cp) from fun u hu =>
    ⟨by rw [World.cell?_of_block (a := ⟨bc, 0, none⟩) (hu.block bc (cell_lt hc) n1.1 n1.2)]; exact hc, by rw [World.cell?_of_block (a := ⟨bP, 1, none⟩) (hu.block bP (cell_lt hpt) n2.1 n2.2)]; exact hpt⟩)
  have i1 : (R : Int) ≤ 64 := by omega
  have i2 : (C : Int) ≤ 16 := by omega
  have HLS := Lib.hid hls
  clear h hp h1 h2 h3 h4 hls hcp hne n1 n2 hT hc hpt hn hn1
  go_enter Try.func43, Try.ntmps43
  go_wp2_with (fail)
  clear hr
  go_loopw [6] (fun q wr => ∃ (y j : Nat) (acc ls' : List Pt.Cl), y ≤ R ∧ q = .int .i64 (y : Nat) ∧ acc.length = y * C ∧ ls'.length = 16 ∧ Hid (Pt.urows C (R - y) ⟨acc, ls', xs.drop j⟩ = T) ∧ Hid (Rw w bR bC 0 xs p cap j (List.replicate n Pt.zc) acc ls' wr)) (fun q _ => R - (intOf q).toNat)
  case atStart => exact ⟨0, i, [], ls, by omega, rfl, by simp, HLS.out, HT.out, HH.out⟩
  case round =>
    obtain ⟨y, j, acc, ls', hy, rfl, ha, hl, HU, HX⟩ := hrel
    by_cases hlt : y < R
    · have HLT := Lib.hid hlt
      have hlt' : (y : Int) < (R : Int) := by omega
      obtain ⟨S, hS⟩ : ∃ S, y * C = S := ⟨_, rfl⟩
      have hSn : S + C ≤ n := by
        have := Nat.mul_le_mul_right C (show y + 1 ≤ R by omega)
        rw [Nat.add_mul, Nat.one_mul, hS] at this
        rw [← HS.out.1]; exact this
      have hS' : (y : Int) * (C : Int) = (S : Int) := by rw [← hS, Int.natCast_mul]
      have hnn : n ≤ 1024 := HS.out.2.1
      have hcc : n ≤ cp := HS.out.2.2.2.2.2.2.1
      have hC1 : 1 ≤ C := HS.out.2.2.2.2.1
      have j0 : IntKind.i64.wrap (S : Int) = (S : Int) := by rw [IntKind.wrap_i64]; omega
      have j1 : (0 : Int) ≤ (S : Int) := by omega
      have j2 : (S : Int) ≤ (n : Int) := by omega
      have j3 : ¬ cp = S := by omega
      have j4 : (C : Int) ≤ ((cp - S : Nat) : Int) := by omega
      have j5 : (0 : Int) ≤ (C : Int) := by omega
      have j6 : C ≤ cp - S := by omega
      have j7 : ¬ cp - S = 0 := by omega
      have HSS := Lib.hid (show acc.length = S ∧ S + C ≤ n ∧ ls'.length = 16 ∧ y * C = S from ⟨ha.trans hS, hSn, hl, hS⟩)
      obtain ⟨m, hm⟩ : ∃ m, R - y = m + 1 := ⟨R - y - 1, by omega⟩
      have HM := Lib.hid (show R - (y + 1) = m by omega)
      rw [hm] at HU
      obtain ⟨k0, k1⟩ := HK.out wr HX.out.fr
      have K0 := Lib.hid k0
      have K1 := Lib.hid k1
      have HKD := Lib.hid (show ∀ u, Below wr.heap.size wr u → u.cell? ⟨bP, 1, none⟩ = some (.slice (some ⟨bC, 0, none⟩) n cp) ∧ u.cell? ⟨bc, 0, none⟩ = some (.int .i64 C) from fun u hu => ⟨kept_cell hu K1.out, kept_cell hu K0.out⟩)
      have hg0 := (Below.refl wr.heap.size wr).drew
      have hgg := HKD.out _ hg0
      have HX0 := Lib.hid (show Rw wr.drew bR bC acc.length xs p cap j (lay (List.replicate n Pt.zc) 0 acc) (List.replicate C Pt.zc) ls' wr.drew from (HX.out.below hg0).start (by have := HSS.out; omega))
      have HPD := Lib.hid (show ∀ b off, p = some ⟨b, off, none⟩ → b < wr.drew.heap.size ∧ b ≠ bC from fun b off e => ⟨Nat.lt_of_lt_of_le (HP.out b off e).1 (Nat.le_trans HX.out.fr.size hg0.size), (HP.out b off e).2⟩)
      have HLL := Lib.hid (show acc.length + C ≤ (lay (List.replicate n Pt.zc) 0 acc).length ∧ (lay (List.replicate n Pt.zc) 0 acc).length ≤ 1024 by
        have h1 := HSS.out
        have h2 := HS.out
        rw [lay_len (by simp; omega)]
        simp
        omega)
      clear hlt hS hSn hnn hcc hC1 hm k0 k1 ha hl
      cases hu : Pt.urow C (C + 1) 0 ⟨List.replicate C Pt.zc, ls', xs.drop j⟩ with
      | error z =>
        have HE := Lib.hid (show T = .error z by rw [← HU.out]; exact Pt.urows_bad hu)
        have G := Lib.hid (p_row_err (cp := cp - S) HX0.out HPD.out HLL.out.1 HLL.out.2 (by simp) HSS.out.2.2.1 HS.out.2.2.2.2.2.1 (by omega) HS.out.2.2.2.2.2.2.2 hu)
        rw [HSS.out.1] at G
        unfold Pn at G
        clear hu
        go_upto_region 3 with fail
        refine wp_region_held_drew (S := fun u => u.cell? ⟨bP, 1, none⟩ = some (.slice (some ⟨bC, 0, none⟩) n cp) ∧ u.cell? ⟨bc, 0, none⟩ = some (.int .i64 C)) (by kernel_rfl) (hgg) (fun hHeld => ?_)
        refine wpAnyH_take (i := 0) (oi := ?oi0) (v := .pointer (some ⟨bP, 1, none⟩)) ?hi0 (by kernel_rfl) (by kernel_rfl) (by kernel_rfl) ?hq0 ?hy0 (by assumption) ?rest0
        case hi0 => (simp only [List.getElem?_toArray, List.getElem?_cons_zero]; rfl)
        case hq0 => exact fun c a w h => h
        case hy0 => exact Or.inl ⟨by rfl, fun w hSw => by (try dsimp only at hSw); go_simp⟩
        case rest0 =>
        simp only [Act.put, List.setIfInBounds_toArray, List.set_cons_zero, List.set_cons_succ]
        refine wpAnyH_take (i := 1) (oi := ?oi1) (v := .slice (some ⟨bC, 0, none⟩) n cp) ?hi1 (by kernel_rfl) (by kernel_rfl) (by kernel_rfl) ?hq1 ?hy1 (by assumption) ?rest1
        case hi1 => (simp only [List.getElem?_toArray, List.getElem?_cons_succ, List.getElem?_cons_zero]; rfl)
        case hq1 => exact fun c a w h => h
        case hy1 => exact Or.inl ⟨by rfl, fun w hSw => by (try dsimp only at hSw); go_simp⟩
        case rest1 =>
        simp only [Act.put, List.setIfInBounds_toArray, List.set_cons_zero, List.set_cons_succ]
        refine wpAnyH_take (i := 2) (oi := ?oi2) (v := .int .i64 (y : Nat)) ?hi2 (by kernel_rfl) (by kernel_rfl) (by kernel_rfl) ?hq2 ?hy2 (by assumption) ?rest2
        case hi2 => (simp only [List.getElem?_toArray, List.getElem?_cons_succ, List.getElem?_cons_zero]; rfl)
        case hq2 => exact fun c a w h => h
        case hy2 => exact Or.inl ⟨by rfl, fun w hSw => by (try dsimp only at hSw); go_simp⟩
        case rest2 =>
        simp only [Act.put, List.setIfInBounds_toArray, List.set_cons_zero, List.set_cons_succ]
        refine wpAnyH_take (i := 3) (oi := ?oi3) (v := .int .i64 (C : Nat)) ?hi3 (by kernel_rfl) (by kernel_rfl) (by kernel_rfl) ?hq3 ?hy3 (by assumption) ?rest3
        case hi3 => (simp only [List.getElem?_toArray, List.getElem?_cons_succ, List.getElem?_cons_zero]; rfl)
        case hq3 => exact fun c a w h => h
        case hy3 => exact Or.inl ⟨by rfl, fun w hSw => by (try dsimp only at hSw); go_simp⟩
        case rest3 =>
        simp only [Act.put, List.setIfInBounds_toArray, List.set_cons_zero, List.set_cons_succ]
        refine wpAnyH_take (i := 4) (oi := ?oi4) (v := .int .i64 (S : Nat)) ?hi4 (by kernel_rfl) (by kernel_rfl) (by kernel_rfl) ?hq4 ?hy4 (by assumption) ?rest4
        case hi4 => (simp only [List.getElem?_toArray, List.getElem?_cons_succ, List.getElem?_cons_zero]; rfl)
        case hq4 => exact fun c a w h => h
        case hy4 => exact Or.inl ⟨by rfl, fun w hSw => by (try dsimp only at hSw); go_simp⟩
        case rest4 =>
        simp only [Act.put, List.setIfInBounds_toArray, List.set_cons_zero, List.set_cons_succ]
        refine wpAnyH_take (i := 5) (oi := ?oi5) (v := .slice (some ⟨bC, S * 6, none⟩) (n - S) (cp - S)) ?hi5 (by kernel_rfl) (by kernel_rfl) (by kernel_rfl) ?hq5 ?hy5 (by assumption) ?rest5
        case hi5 => (simp only [List.getElem?_toArray, List.getElem?_cons_succ, List.getElem?_cons_zero]; rfl)
        case hq5 => exact fun c a w h => h
        case hy5 => exact Or.inl ⟨by rfl, fun w hSw => by (try dsimp only at hSw); go_simp⟩
        case rest5 =>
        simp only [Act.put, List.setIfInBounds_toArray, List.set_cons_zero, List.set_cons_succ]
        refine wpAnyH_take (i := 6) (oi := ?oi6) (v := .int .i64 (C : Nat)) ?hi6 (by kernel_rfl) (by kernel_rfl) (by kernel_rfl) ?hq6 ?hy6 (by assumption) ?rest6
        case hi6 => (simp only [List.getElem?_toArray, List.getElem?_cons_succ, List.getElem?_cons_zero]; rfl)
        case hq6 => exact fun c a w h => h
        case hy6 => exact Or.inl ⟨by rfl, fun w hSw => by (try dsimp only at hSw); go_simp⟩
        case rest6 =>
        simp only [Act.put, List.setIfInBounds_toArray, List.set_cons_zero, List.set_cons_succ]
        refine wpAnyH_take (i := 7) (oi := ?oi7) (v := .slice (some ⟨bC, S * 6, none⟩) C (cp - S)) ?hi7 (by kernel_rfl) (by kernel_rfl) (by kernel_rfl) ?hq7 ?hy7 (by assumption) ?rest7
        case hi7 => (simp only [List.getElem?_toArray, List.getElem?_cons_succ, List.getElem?_cons_zero]; rfl)
        case hq7 => exact fun c a w h => h
        case hy7 => exact Or.inl ⟨by rfl, fun w hSw => by (try dsimp only at hSw); go_simp⟩
        case rest7 =>
        simp only [Act.put, List.setIfInBounds_toArray, List.set_cons_zero, List.set_cons_succ]
        refine wpAnyH_ready (rs := [8]) (by kernel_rfl) (by simp) ?_
        refine AllReadyH.cons (o := ?o8) (ho := ?ho8) (fun K' hK' => ?st8) AllReadyH.nil
        case ho8 => (simp only [List.getElem?_toArray, List.getElem?_cons_succ, List.getElem?_cons_zero]; rfl)
        case st8 =>
        go_simp
        (go_at_call 44; with_reducible refine G.out.mono ?_; rintro x' w4 ⟨rfl, h4⟩)
        refine post_panic (P := Try.prog) (fn := Try.f43) rfl ?_
        rw [HE.out]
        exact ⟨rfl, HX.out.fr.trans (Fz.trans (.of hg0) h4)⟩
      | ok u =>
        have HG2 := Lib.hid (show Pt.urows C m ⟨acc ++ u.row, u.ls, u.b⟩ = T by rw [← HU.out]; exact (Pt.urows_go (s := ⟨acc, ls', xs.drop j⟩) hu).symm)
        have G := Lib.hid (p_row_ok (cp := cp - S) HX0.out HPD.out HLL.out.1 HLL.out.2 (by simp) HSS.out.2.2.1 HS.out.2.2.2.2.2.1 (by omega) HS.out.2.2.2.2.2.2.2 hu)
        rw [HSS.out.1] at G
        have HUL := Lib.hid (show u.row.length = C ∧ u.ls.length = 16 by
          have h := Pt.urow_len _ _ _ _ hu
          simp at h
          exact ⟨h.1, h.2.trans HSS.out.2.2.1⟩)
        have HDN := Lib.hid (show ∀ (w4 : World) (j' : Nat), Rw wr.drew bR bC S xs p cap j' (lay (List.replicate n Pt.zc) 0 acc) u.row u.ls w4 → (w4.cell? ⟨bP, 1, none⟩ = some (.slice (some ⟨bC, 0, none⟩) n cp) ∧ w4.cell? ⟨bc, 0, none⟩ = some (.int .i64 C)) ∧ Rw w bR bC 0 xs p cap j' (List.replicate n Pt.zc) (acc ++ u.row) u.ls w4 from fun w4 j' h4 => by
          rw [← HSS.out.1] at h4
          have hd := (HX.out.below hg0).done h4 (by have := HSS.out; have := HUL.out; omega)
          have hk := HK.out w4 hd.fr
          exact ⟨⟨hk.2, hk.1⟩, hd⟩)
        clear hu
        go_upto_region 3 with fail
        go_region_held3 (fun u => u.cell? ⟨bP, 1, none⟩ = some (.slice (some ⟨bC, 0, none⟩) n cp) ∧ u.cell? ⟨bc, 0, none⟩ = some (.int .i64 C))
          (first | with_reducible exact hgg | exact X4.out.1)
          (first | (go_at_call 44; with_reducible refine G.out.mono ?_; rintro x' w4 ⟨j', rfl, hb, h4⟩; have X4 := Lib.hid (HDN.out w4 j' h4)))
        go_wp2
        go_roundw
        case rel =>
          exact ⟨y + 1, j', acc ++ u.row, u.ls, by have := HLT.out; omega, by go_num, by rw [List.length_append, HSS.out.1, HUL.out.1, Nat.add_mul, Nat.one_mul, HSS.out.2.2.2], HUL.out.2, by rw [HM.out, ← hb]; exact HG2.out, X4.out.2⟩
        case measure => simp [intOf]; have := HLT.out; omega
    · have ey : y = R := by omega
      subst ey
      rw [Nat.sub_self] at HU
      have HE := Lib.hid (show T = .ok ⟨acc, ls', xs.drop j⟩ by rw [← HU.out]; rfl)
      have HAN := Lib.hid (show acc.length = n by rw [ha]; exact HS.out.1)
      clear ha
      go_wp2_with (first | fail)
      go_end0
      rw [HE.out]
      exact ⟨j, rfl, rfl, HAN.out, HX.out⟩
end Go.Proofs.Ytfjfnbeegojlbaa
