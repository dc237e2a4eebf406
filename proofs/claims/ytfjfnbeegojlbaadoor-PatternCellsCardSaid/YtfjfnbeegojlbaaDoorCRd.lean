/-
  Package pattern's number, readInst, readVolume and readEffect.
-/
import Derived.Test.YtfjfnbeegojlbaaDoorCPl
import Derived.Test.YtfjfnbeegojlbaaDoorCeM
import Derived.Test.YtfjfnbeegojlbaaDoorPPart
import Derived.Test.YtfjfnbeegojlbaaDoorPEq
import Derived.Deep.QuietTactic
import Derived.BigQuiet
import Derived.Deep.RegionHeld3
import Derived.Lib.Hide
namespace Go.Proofs.YtfjfnbeegojlbaaDoor
open Go.RowKit

theorem byte_at {f : ByteArray} {l : List UInt8} (hf : f.data.toList = l) (i : Nat) (h : i < f.size) : f[i] = l.getD i 0 := by
  subst hf
  have h' : i < f.data.toList.length := by simpa using h
  rw [List.getD_eq_getElem?_getD, List.getElem?_eq_getElem h']
  rfl
theorem size_of {f : ByteArray} {l : List UInt8} (hf : f.data.toList = l) : f.size = l.length := by
  subst hf
  simp
theorem dig_ls (b : Nat) : (Pt.DG.extract 0 b).data.toList = Pt.D36.take b := by
  rw [Lib.extract_data]
  rfl
theorem p_number_ok (f : ByteArray) (x y : UInt8) (b : Nat) (hb : b = 10 ∨ b = 16) (hf : f.data.toList = [x, y]) {i j : Nat} (hi : Lib.indexByte (Pt.D36.take b) x = i) (hj : Lib.indexByte (Pt.D36.take b) y = j) (hil : i < b) (hjl : j < b) (w : World) :
    Calls Tryd.prog 53 #[.string f, .int .i64 (b : Int)] w fun e w' => e = .returned (.int .i64 ((b * i + j : Nat) : Int)) ∧ ∃ d, w' = w.drewN d := by
  have hs : f.size = 2 := size_of hf
  have hx : f[0]'(by omega) = x := byte_at hf 0 (by omega)
  have hy : f[1]'(by omega) = y := byte_at hf 1 (by omega)
  have C1 := Lib.hid (fun u => p_place_ok x (Pt.DG.extract 0 b) u i (by rw [dig_ls]; exact hi))
  have C2 := Lib.hid (fun u => p_place_ok y (Pt.DG.extract 0 b) u j (by rw [dig_ls]; exact hj))
  unfold Pt.DG at C1 C2
  obtain ⟨m, hm⟩ : ∃ m, b * i = m := ⟨_, rfl⟩
  have hm1 : m ≤ 256 := by
    rw [← hm]
    exact Nat.mul_le_mul (show b ≤ 16 by omega) (show i ≤ 16 by omega)
  have hm2 : (b : Int) * (i : Int) = (m : Int) := by rw [← hm, Int.natCast_mul]
  have b1 : (0 : Int) ≤ (b : Int) := by omega
  have b2 : (b : Int) ≤ 36 := by omega
  have j1 : (j : Int) ≤ 16 := by omega
  have m1 : (m : Int) ≤ 256 := by omega
  have e0 : (((b * i + j : Nat) : Nat) : Int) = (m : Int) + (j : Int) := by rw [hm]; omega
  rw [e0]
  clear hb hf hi hj hil hjl hm hm1 e0
  go_enter Tryd.func53, Tryd.ntmps53
  go_upto_region 1 with fail
  go_quiet ((go_at_call 51; first | (with_reducible exact (C1.out _).mono fun e w' ⟨h1, h2⟩ => ⟨h1, _, h2.symm⟩) | (with_reducible exact (C2.out _).mono fun e w' ⟨h1, h2⟩ => ⟨h1, _, h2.symm⟩)))
  go_wp2
  go_ret
  exact ⟨rfl, _, rfl⟩
theorem p_number_bad1 (f : ByteArray) (x y : UInt8) (b : Nat) (hb : b = 10 ∨ b = 16) (hf : f.data.toList = [x, y]) (hi : ¬ 0 ≤ Lib.indexByte (Pt.D36.take b) x) (w : World) :
    Calls Tryd.prog 53 #[.string f, .int .i64 (b : Int)] w fun e w' => e = Pn 2 ∧ Below w.heap.size w w' := by
  have hs : f.size = 2 := size_of hf
  have hx : f[0]'(by omega) = x := byte_at hf 0 (by omega)
  have hy : f[1]'(by omega) = y := byte_at hf 1 (by omega)
  have CB := Lib.hid (fun u => p_place_bad x (Pt.DG.extract 0 b) u (by rw [dig_ls]; exact hi))
  unfold Pn at CB
  obtain ⟨D, hD⟩ : ∃ D, Pt.DG.extract 0 b = D := ⟨_, rfl⟩
  rw [hD] at CB
  unfold Pt.DG at hD
  have b1 : (0 : Int) ≤ (b : Int) := by omega
  have b2 : (b : Int) ≤ 36 := by omega
  have hgg : Below w.heap.size w w.drew := (Below.refl _ _).drew
  clear hb hf hi
  go_enter Tryd.func53, Tryd.ntmps53
  go_upto_region 1 with fail
  refine wp_region_held_drew (S := fun u => Below w.heap.size w u) (by kernel_rfl) (hgg) (fun hHeld => ?_)
  refine wpAnyH_take (i := 0) (oi := ?oi0) (v := .string f) ?hi0 (by kernel_rfl) (by kernel_rfl) (by kernel_rfl) ?hq0 ?hy0 (by assumption) ?rest0
  case hi0 => (simp only [List.getElem?_toArray, List.getElem?_cons_zero]; rfl)
  case hq0 => exact fun c a w h => h
  case hy0 => exact Or.inl ⟨by rfl, fun w hSw => by (try dsimp only at hSw); go_simp⟩
  case rest0 =>
  simp only [Act.put, List.setIfInBounds_toArray, List.set_cons_zero, List.set_cons_succ]
  refine wpAnyH_take (i := 1) (oi := ?oi1) (v := .int .u8 (x.toNat : Int)) ?hi1 (by kernel_rfl) (by kernel_rfl) (by kernel_rfl) ?hq1 ?hy1 (by assumption) ?rest1
  case hi1 => (simp only [List.getElem?_toArray, List.getElem?_cons_succ, List.getElem?_cons_zero]; rfl)
  case hq1 => exact fun c a w h => h
  case hy1 => exact Or.inl ⟨by rfl, fun w hSw => by (try dsimp only at hSw); go_simp⟩
  case rest1 =>
  simp only [Act.put, List.setIfInBounds_toArray, List.set_cons_zero, List.set_cons_succ]
  refine wpAnyH_take (i := 2) (oi := ?oi2) (v := .int .i64 (b : Int)) ?hi2 (by kernel_rfl) (by kernel_rfl) (by kernel_rfl) ?hq2 ?hy2 (by assumption) ?rest2
  case hi2 => (simp only [List.getElem?_toArray, List.getElem?_cons_succ, List.getElem?_cons_zero]; rfl)
  case hq2 => exact fun c a w h => h
  case hy2 => exact Or.inl ⟨by rfl, fun w hSw => by (try dsimp only at hSw); go_simp⟩
  case rest2 =>
  simp only [Act.put, List.setIfInBounds_toArray, List.set_cons_zero, List.set_cons_succ]
  refine wpAnyH_take (i := 3) (oi := ?oi3) (v := .string D) ?hi3 (by kernel_rfl) (by kernel_rfl) (by kernel_rfl) ?hq3 ?hy3 (by assumption) ?rest3
  case hi3 => (simp only [List.getElem?_toArray, List.getElem?_cons_succ, List.getElem?_cons_zero]; rfl)
  case hq3 => exact fun c a w h => h
  case hy3 => exact Or.inl ⟨by rfl, fun w hSw => by (try dsimp only at hSw); go_simp⟩
  case rest3 =>
  simp only [Act.put, List.setIfInBounds_toArray, List.set_cons_zero, List.set_cons_succ]
  refine wpAnyH_take (i := 5) (oi := ?oi5) (v := .string f) ?hi5 (by kernel_rfl) (by kernel_rfl) (by kernel_rfl) ?hq5 ?hy5 (by assumption) ?rest5
  case hi5 => (simp only [List.getElem?_toArray, List.getElem?_cons_succ, List.getElem?_cons_zero]; rfl)
  case hq5 => exact fun c a w h => h
  case hy5 => exact Or.inl ⟨by rfl, fun w hSw => by (try dsimp only at hSw); go_simp⟩
  case rest5 =>
  simp only [Act.put, List.setIfInBounds_toArray, List.set_cons_zero, List.set_cons_succ]
  refine wpAnyH_take (i := 6) (oi := ?oi6) (v := .int .u8 (y.toNat : Int)) ?hi6 (by kernel_rfl) (by kernel_rfl) (by kernel_rfl) ?hq6 ?hy6 (by assumption) ?rest6
  case hi6 => (simp only [List.getElem?_toArray, List.getElem?_cons_succ, List.getElem?_cons_zero]; rfl)
  case hq6 => exact fun c a w h => h
  case hy6 => exact Or.inl ⟨by rfl, fun w hSw => by (try dsimp only at hSw); go_simp⟩
  case rest6 =>
  simp only [Act.put, List.setIfInBounds_toArray, List.set_cons_zero, List.set_cons_succ]
  refine wpAnyH_take (i := 7) (oi := ?oi7) (v := .int .i64 (b : Int)) ?hi7 (by kernel_rfl) (by kernel_rfl) (by kernel_rfl) ?hq7 ?hy7 (by assumption) ?rest7
  case hi7 => (simp only [List.getElem?_toArray, List.getElem?_cons_succ, List.getElem?_cons_zero]; rfl)
  case hq7 => exact fun c a w h => h
  case hy7 => exact Or.inl ⟨by rfl, fun w hSw => by (try dsimp only at hSw); go_simp⟩
  case rest7 =>
  simp only [Act.put, List.setIfInBounds_toArray, List.set_cons_zero, List.set_cons_succ]
  refine wpAnyH_take (i := 8) (oi := ?oi8) (v := .string D) ?hi8 (by kernel_rfl) (by kernel_rfl) (by kernel_rfl) ?hq8 ?hy8 (by assumption) ?rest8
  case hi8 => (simp only [List.getElem?_toArray, List.getElem?_cons_succ, List.getElem?_cons_zero]; rfl)
  case hq8 => exact fun c a w h => h
  case hy8 => exact Or.inl ⟨by rfl, fun w hSw => by (try dsimp only at hSw); go_simp⟩
  case rest8 =>
  simp only [Act.put, List.setIfInBounds_toArray, List.set_cons_zero, List.set_cons_succ]
  refine wpAnyH_ready (rs := [4]) (by kernel_rfl) (by simp) ?_
  refine AllReadyH.cons (o := ?o4) (ho := ?ho4) (fun K' hK' => ?st4) AllReadyH.nil
  case ho4 => (simp only [List.getElem?_toArray, List.getElem?_cons_succ, List.getElem?_cons_zero]; rfl)
  case st4 =>
  go_simp
  (go_at_call 51; with_reducible refine (CB.out _).mono ?_; rintro x' w4 ⟨rfl, rfl⟩)
  refine post_panic (P := Tryd.prog) (fn := Tryd.f53) rfl ?_
  exact ⟨rfl, by assumption⟩
theorem p_number_bad2 (f : ByteArray) (x y : UInt8) (b : Nat) (hb : b = 10 ∨ b = 16) (hf : f.data.toList = [x, y]) {i : Nat} (hi : Lib.indexByte (Pt.D36.take b) x = i) (hj : ¬ 0 ≤ Lib.indexByte (Pt.D36.take b) y) (w : World) :
    Calls Tryd.prog 53 #[.string f, .int .i64 (b : Int)] w fun e w' => e = Pn 2 ∧ Below w.heap.size w w' := by
  have hs : f.size = 2 := size_of hf
  have hx : f[0]'(by omega) = x := byte_at hf 0 (by omega)
  have hy : f[1]'(by omega) = y := byte_at hf 1 (by omega)
  have C1 := Lib.hid (fun u => p_place_ok x (Pt.DG.extract 0 b) u i (by rw [dig_ls]; exact hi))
  have CB := Lib.hid (fun u => p_place_bad y (Pt.DG.extract 0 b) u (by rw [dig_ls]; exact hj))
  unfold Pn at CB
  obtain ⟨D, hD⟩ : ∃ D, Pt.DG.extract 0 b = D := ⟨_, rfl⟩
  rw [hD] at CB C1
  unfold Pt.DG at hD
  have b1 : (0 : Int) ≤ (b : Int) := by omega
  have b2 : (b : Int) ≤ 36 := by omega
  have hgg : Below w.heap.size w w.drew := (Below.refl _ _).drew
  clear hb hf hi hj
  go_enter Tryd.func53, Tryd.ntmps53
  go_upto_region 1 with fail
  refine wp_region_held_drew (S := fun u => Below w.heap.size w u) (by kernel_rfl) (hgg) (fun hHeld => ?_)
  refine wpAnyH_take (i := 0) (oi := ?oi0) (v := .string f) ?hi0 (by kernel_rfl) (by kernel_rfl) (by kernel_rfl) ?hq0 ?hy0 (by assumption) ?rest0
  case hi0 => (simp only [List.getElem?_toArray, List.getElem?_cons_zero]; rfl)
  case hq0 => exact fun c a w h => h
  case hy0 => exact Or.inl ⟨by rfl, fun w hSw => by (try dsimp only at hSw); go_simp⟩
  case rest0 =>
  simp only [Act.put, List.setIfInBounds_toArray, List.set_cons_zero, List.set_cons_succ]
  refine wpAnyH_take (i := 1) (oi := ?oi1) (v := .int .u8 (x.toNat : Int)) ?hi1 (by kernel_rfl) (by kernel_rfl) (by kernel_rfl) ?hq1 ?hy1 (by assumption) ?rest1
  case hi1 => (simp only [List.getElem?_toArray, List.getElem?_cons_succ, List.getElem?_cons_zero]; rfl)
  case hq1 => exact fun c a w h => h
  case hy1 => exact Or.inl ⟨by rfl, fun w hSw => by (try dsimp only at hSw); go_simp⟩
  case rest1 =>
  simp only [Act.put, List.setIfInBounds_toArray, List.set_cons_zero, List.set_cons_succ]
  refine wpAnyH_take (i := 2) (oi := ?oi2) (v := .int .i64 (b : Int)) ?hi2 (by kernel_rfl) (by kernel_rfl) (by kernel_rfl) ?hq2 ?hy2 (by assumption) ?rest2
  case hi2 => (simp only [List.getElem?_toArray, List.getElem?_cons_succ, List.getElem?_cons_zero]; rfl)
  case hq2 => exact fun c a w h => h
  case hy2 => exact Or.inl ⟨by rfl, fun w hSw => by (try dsimp only at hSw); go_simp⟩
  case rest2 =>
  simp only [Act.put, List.setIfInBounds_toArray, List.set_cons_zero, List.set_cons_succ]
  refine wpAnyH_take (i := 3) (oi := ?oi3) (v := .string D) ?hi3 (by kernel_rfl) (by kernel_rfl) (by kernel_rfl) ?hq3 ?hy3 (by assumption) ?rest3
  case hi3 => (simp only [List.getElem?_toArray, List.getElem?_cons_succ, List.getElem?_cons_zero]; rfl)
  case hq3 => exact fun c a w h => h
  case hy3 => exact Or.inl ⟨by rfl, fun w hSw => by (try dsimp only at hSw); go_simp⟩
  case rest3 =>
  simp only [Act.put, List.setIfInBounds_toArray, List.set_cons_zero, List.set_cons_succ]
  refine wpAnyH_take (i := 5) (oi := ?oi5) (v := .string f) ?hi5 (by kernel_rfl) (by kernel_rfl) (by kernel_rfl) ?hq5 ?hy5 (by assumption) ?rest5
  case hi5 => (simp only [List.getElem?_toArray, List.getElem?_cons_succ, List.getElem?_cons_zero]; rfl)
  case hq5 => exact fun c a w h => h
  case hy5 => exact Or.inl ⟨by rfl, fun w hSw => by (try dsimp only at hSw); go_simp⟩
  case rest5 =>
  simp only [Act.put, List.setIfInBounds_toArray, List.set_cons_zero, List.set_cons_succ]
  refine wpAnyH_take (i := 6) (oi := ?oi6) (v := .int .u8 (y.toNat : Int)) ?hi6 (by kernel_rfl) (by kernel_rfl) (by kernel_rfl) ?hq6 ?hy6 (by assumption) ?rest6
  case hi6 => (simp only [List.getElem?_toArray, List.getElem?_cons_succ, List.getElem?_cons_zero]; rfl)
  case hq6 => exact fun c a w h => h
  case hy6 => exact Or.inl ⟨by rfl, fun w hSw => by (try dsimp only at hSw); go_simp⟩
  case rest6 =>
  simp only [Act.put, List.setIfInBounds_toArray, List.set_cons_zero, List.set_cons_succ]
  refine wpAnyH_take (i := 7) (oi := ?oi7) (v := .int .i64 (b : Int)) ?hi7 (by kernel_rfl) (by kernel_rfl) (by kernel_rfl) ?hq7 ?hy7 (by assumption) ?rest7
  case hi7 => (simp only [List.getElem?_toArray, List.getElem?_cons_succ, List.getElem?_cons_zero]; rfl)
  case hq7 => exact fun c a w h => h
  case hy7 => exact Or.inl ⟨by rfl, fun w hSw => by (try dsimp only at hSw); go_simp⟩
  case rest7 =>
  simp only [Act.put, List.setIfInBounds_toArray, List.set_cons_zero, List.set_cons_succ]
  refine wpAnyH_take (i := 8) (oi := ?oi8) (v := .string D) ?hi8 (by kernel_rfl) (by kernel_rfl) (by kernel_rfl) ?hq8 ?hy8 (by assumption) ?rest8
  case hi8 => (simp only [List.getElem?_toArray, List.getElem?_cons_succ, List.getElem?_cons_zero]; rfl)
  case hq8 => exact fun c a w h => h
  case hy8 => exact Or.inl ⟨by rfl, fun w hSw => by (try dsimp only at hSw); go_simp⟩
  case rest8 =>
  simp only [Act.put, List.setIfInBounds_toArray, List.set_cons_zero, List.set_cons_succ]
  refine wpAnyH_ready (rs := [4]) (by kernel_rfl) (by simp) ?_
  refine AllReadyH.cons (o := ?o4) (ho := ?ho4) (fun K' hK' => ?st4) AllReadyH.nil
  case ho4 => (simp only [List.getElem?_toArray, List.getElem?_cons_succ, List.getElem?_cons_zero]; rfl)
  case st4 =>
  go_simp
  (go_at_call 51; with_reducible refine (C1.out _).mono ?_; rintro x' w4 ⟨rfl, rfl⟩)
  go_wp2_with fail
  refine hK'.out _ _ (by assumption) (fun hHeld => ?_)
  clear hK' K'
  (try simp only [Act.put, List.setIfInBounds_toArray, List.set_cons_zero, List.set_cons_succ])
  refine wpAnyH_ready (rs := [9]) (by kernel_rfl) (by simp) ?_
  refine AllReadyH.cons (o := ?o9) (ho := ?ho9) (fun K' hK' => ?st9) AllReadyH.nil
  case ho9 => (simp only [List.getElem?_toArray, List.getElem?_cons_succ, List.getElem?_cons_zero]; rfl)
  case st9 =>
  go_simp
  (go_at_call 51; with_reducible refine (CB.out _).mono ?_; rintro x' w5 ⟨rfl, rfl⟩)
  refine post_panic (P := Tryd.prog) (fn := Tryd.f53) rfl ?_
  exact ⟨rfl, by assumption⟩
end Go.Proofs.YtfjfnbeegojlbaaDoor
