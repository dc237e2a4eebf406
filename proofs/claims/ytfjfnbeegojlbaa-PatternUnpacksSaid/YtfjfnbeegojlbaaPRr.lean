/-
  Package pattern's reader.row.
-/
import Derived.Test.YtfjfnbeegojlbaaPRd2
namespace Go.Proofs.Ytfjfnbeegojlbaa
open Go.RowKit

def RetR (w : World) (bR bC F : Nat) (xs : List Int) (p : Option Addr) (cap : Nat) (L : List Pt.Cl) (T : Except Int Pt.Ur) (x : Ending) (w' : World) : Prop :=
  match T with
  | .error e => x = Pn e ∧ Fz w bR bC w'
  | .ok u => ∃ j, x = .returned (.tuple #[]) ∧ u.b = xs.drop j ∧ Rw w bR bC F xs p cap j L u.row u.ls w'
namespace Pt
theorem urow_nil {C n bf : Nat} {s : Ur} (h : s.b = []) : urow C (n + 1) bf s = .error 12 := by rw [urow, h]
theorem urow_end {C n bf : Nat} {s : Ur} {t : List Int} (h : s.b = 0 :: t) : urow C (n + 1) bf s = .ok ⟨s.row, s.ls, t⟩ := by rw [urow, h]; rfl
theorem urow_out {C n bf : Nat} {s : Ur} {x : Int} {t : List Int} (h : s.b = x :: t) (h0 : x ≠ 0) (h1 : wth x ((bf : Int) + 1) C = false) : urow C (n + 1) bf s = .error 9 := by
  rw [urow, h]
  show (if x = 0 then _ else _) = _
  rw [if_neg h0, if_neg (by simpa [wth] using h1)]
theorem urow_bad {C n bf q : Nat} {s : Ur} {t : List Int} (h : s.b = ((q + 1 : Nat) : Int) :: t) (h1 : bf ≤ q) (h2 : q < C) {e : Int} (hu : ucell (at' s.ls q) t = .error e) : urow C (n + 1) bf s = .error e := by
  rw [urow, h]
  show (if ((q + 1 : Nat) : Int) = 0 then _ else _) = _
  rw [if_neg (by omega), if_pos (by omega), show ((q + 1 : Nat) : Int).toNat - 1 = q by omega, hu]
theorem urow_go {C n bf q : Nat} {s : Ur} {t : List Int} (h : s.b = ((q + 1 : Nat) : Int) :: t) (h1 : bf ≤ q) (h2 : q < C) {u : Uc} (hu : ucell (at' s.ls q) t = .ok u) : urow C (n + 1) bf s = urow C n (q + 1) ⟨s.row.set q u.c, s.ls.set q u.la, u.b⟩ := by
  rw [urow, h]
  show (if ((q + 1 : Nat) : Int) = 0 then _ else _) = _
  rw [if_neg (by omega), if_pos (by omega), show ((q + 1 : Nat) : Int).toNat - 1 = q by omega, hu, show ((q + 1 : Nat) : Int).toNat = q + 1 by omega]
end Pt
set_option maxRecDepth 100000 in
set_option maxHeartbeats 3200000 in
theorem p_row {w : World} {bR bC F C : Nat} {xs : List Int} {p : Option Addr} {cap i cp : Nat} {L row ls : List Pt.Cl} (h : Rw w bR bC F xs p cap i L row ls w) (hp : ∀ b off, p = some ⟨b, off, none⟩ → b < w.heap.size ∧ b ≠ bC) (hF : F + C ≤ L.length) (hL : L.length ≤ 1024) (hr : row.length = C) (hls : ls.length = 16) (hC : C ≤ 16) (hcp : C ≤ cp) (hne : bC ≠ bR) :
    Calls Try.prog 44 #[.pointer (some ⟨bR, 0, none⟩), .slice (some ⟨bC, F * 6, none⟩) C cp] w fun x w' => RetR w bR bC F xs p cap L (Pt.urow C (C + 1) 0 ⟨row, ls, xs.drop i⟩) x w' := by
  obtain ⟨T, hT⟩ : ∃ T, Pt.urow C (C + 1) 0 ⟨row, ls, xs.drop i⟩ = T := ⟨_, rfl⟩
  rw [hT]
  have HT := Lib.hid hT
  have HH := Lib.hid h
  have HP := Lib.hid hp
  have HS := Lib.hid (show F + C ≤ L.length ∧ L.length ≤ 1024 ∧ C ≤ 16 ∧ C ≤ cp ∧ bC ≠ bR from ⟨hF, hL, hC, hcp, hne⟩)
  have HL := Lib.hid (show row.length = C ∧ ls.length = 16 from ⟨hr, hls⟩)
  have HW := Lib.hid (show bR < w.heap.size from h.rn.lt)
  obtain ⟨G, hG⟩ : ∃ G, F * 6 = G := ⟨_, rfl⟩
  have HG := Lib.hid (show F * 6 = G ∧ F ≤ 1024 from ⟨hG, by omega⟩)
  have i1 : (C : Int) ≤ 16 := by omega
  have i2 : (C : Int) ≤ (cp : Int) := by omega
  rw [hG]
  clear h hp hF hL hr hls hC hcp hne hT hG
  go_enter Try.func44, Try.ntmps44
  go_wp2_with (fail)
  go_loopw [4] (fun q wr => ∃ (bf n j : Nat) (row' ls' : List Pt.Cl), q = .int .i64 (bf : Nat) ∧ bf ≤ C ∧ C + 1 ≤ n + bf ∧ row'.length = C ∧ ls'.length = 16 ∧ Hid (Pt.urow C n bf ⟨row', ls', xs.drop j⟩ = T) ∧ Hid (Rw w bR bC F xs p cap j L row' ls' wr)) (fun q _ => C - (intOf q).toNat)
  case atStart => exact ⟨0, C + 1, i, row, ls, rfl, by omega, by omega, HL.out.1, HL.out.2, HT.out, HH.out⟩
  case round =>
    obtain ⟨bf, n, j, row', ls', rfl, hbf, hn, hr, hl, HU, HX⟩ := hrel
    obtain ⟨n', rfl⟩ : ∃ n', n = n' + 1 := ⟨n - 1, by omega⟩
    have HB := Lib.hid (show bf ≤ C ∧ C + 1 ≤ n' + 1 + bf ∧ row'.length = C ∧ ls'.length = 16 from ⟨hbf, hn, hr, hl⟩)
    have i3 : (bf : Int) ≤ (C : Int) := by omega
    clear hbf hn hr hl
    cases e : xs.drop j with
    | nil =>
      have HE := Lib.hid (show T = .error 12 by rw [← HU.out]; exact Pt.urow_nil e)
      have C1 := Lib.hid (p_next_nil HX.out.rn e)
      clear e
      unfold Pn at C1
      go_wp2_with (first | (go_at_call 58; ((with_reducible refine (C1.out).mono ?_); rintro x' w1 ⟨rfl, hb1⟩)))
      refine post_panic (P := Try.prog) (fn := Try.f44) rfl ?_
      rw [HE.out]
      exact ⟨rfl, (HX.out.below hb1).fr⟩
    | cons y t =>
      have C1 := Lib.hid (p_next_cons HX.out.rn e)
      have hy := HX.out.rn.hy y (List.mem_of_mem_drop (i := j) (by rw [e]; simp))
      have HD := Lib.hid (drop_cons' e)
      have HE := Lib.hid e
      have HY := Lib.hid hy
      obtain ⟨hy0, hy1⟩ := hy
      have HX1 := Lib.hid (show ∀ w1, S1 wr bR 1 (.int .i64 ((j + 1 : Nat) : Int)) w1 → Rw w bR bC F xs p cap (j + 1) L row' ls' w1 from fun w1 h1 => HX.out.next h1 (by have := HD.out.1; omega) HS.out.2.2.2.2)
      clear e
      by_cases h0 : y = 0
      · subst h0
        have HE2 := Lib.hid (show T = .ok ⟨row', ls', t⟩ by rw [← HU.out]; exact Pt.urow_end HE.out)
        go_wp2_with (first | (go_at_call 58; ((with_reducible refine (C1.out).mono ?_); rintro x' w1 ⟨rfl, h1⟩)))
        refine bodyPost_ret (results_none rfl _ _ _) rfl ?_
        rw [HE2.out]
        exact ⟨j + 1, rfl, HD.out.2.2, HX1.out _ h1⟩
      · cases hw : Pt.wth y ((bf : Int) + 1) C with
        | false =>
          have HE2 := Lib.hid (show T = .error 9 by rw [← HU.out]; exact Pt.urow_out HE.out h0 hw)
          have C2 := Lib.hid (fun u => p_within_v y ((bf : Int) + 1) C u hw)
          have C3 := Lib.hid (fun u => p_demand_bad 9 u)
          unfold Pn at C3
          clear hw
          go_wp2_with (first | (go_at_call 58; ((with_reducible refine (C1.out).mono ?_); rintro x' w1 ⟨rfl, h1⟩)) | (go_at_call 33; ((with_reducible refine (C2.out _).mono ?_); rintro x' w2 ⟨rfl, rfl⟩)) | (go_at_call 59; ((with_reducible refine (C3.out _).mono ?_); rintro x' w3 ⟨rfl, h3⟩)))
          refine post_panic (P := Try.prog) (fn := Try.f44) rfl ?_
          rw [HE2.out]
          exact ⟨rfl, ((HX1.out _ h1).below h3).fr⟩
        | true =>
          have hw' := Pt.wth_iff.1 hw
          obtain ⟨q, rfl⟩ : ∃ q : Nat, y = ((q + 1 : Nat) : Int) := ⟨(y - 1).toNat, by omega⟩
          have C2 := Lib.hid (fun u => p_within_v ((q + 1 : Nat) : Int) ((bf : Int) + 1) C u hw)
          have C3 := Lib.hid (fun u => p_demand_ok 9 u)
          have HQ := Lib.hid (show bf ≤ q ∧ q < C by omega)
          have e1 : ((q + 1 : Nat) : Int) = (q : Int) + 1 := by omega
          rw [e1] at C1 C2
          have e2 : (q : Int) + 1 - 1 = (q : Int) := by omega
          have e3 : IntKind.i64.wrap (q : Int) = (q : Int) := by rw [IntKind.wrap_i64]; omega
          have i4 : (q : Int) < (C : Int) := by omega
          have i5 : (q : Int) < 16 := by omega
          have HQL := Lib.hid (show q < ls'.length ∧ q < row'.length by have := HB.out; omega)
          clear hw h0 hw' hy0 hy1 e1
          cases hu : Pt.ucell (Pt.at' ls' q) (xs.drop (j + 1)) with
          | error z =>
            have HE2 := Lib.hid (show T = .error z by rw [← HU.out]; exact Pt.urow_bad HE.out HQ.out.1 HQ.out.2 (by rw [HD.out.2.2]; exact hu))
            have C4 := Lib.hid (fun u (X : Rw w bR bC F xs p cap (j + 1) L row' ls' u) => p_cell_err X.rn (fun b off e => Nat.lt_of_lt_of_le (HP.out b off e).1 X.fr.size) (X.one HQL.out.1).1 (X.one HQL.out.1).2 (by omega) hu)
            clear hu
            unfold Pn at C4
            go_wp2_with (first | (go_at_call 58; ((with_reducible refine (C1.out).mono ?_); rintro x' w1 ⟨rfl, h1⟩)) | (go_at_call 33; ((with_reducible refine (C2.out _).mono ?_); rintro x' w2 ⟨rfl, rfl⟩)) | (go_at_call 59; ((with_reducible refine (C3.out _).mono ?_); rintro x' w3 ⟨rfl, h3⟩)) | (go_at_call 60; ((with_reducible refine (C4.out _ ((HX1.out _ h1).below h3)).mono ?_); rintro x' w4 ⟨rfl, h4⟩)))
            refine post_panic (P := Try.prog) (fn := Try.f44) rfl ?_
            rw [HE2.out]
            exact ⟨rfl, ((HX1.out _ h1).below h3).fr.trans (.left h4)⟩
          | ok u =>
            have HG2 := Lib.hid (show Pt.urow C n' (q + 1) ⟨row'.set q u.c, ls'.set q u.la, u.b⟩ = T by rw [← HU.out]; exact (Pt.urow_go (s := ⟨row', ls', xs.drop j⟩) HE.out HQ.out.1 HQ.out.2 (by rw [HD.out.2.2]; exact hu)).symm)
            have C4 := Lib.hid (fun u (X : Rw w bR bC F xs p cap (j + 1) L row' ls' u) => p_cell_ok X.rn (fun b off e => Nat.lt_of_lt_of_le (HP.out b off e).1 X.fr.size) (X.one HQL.out.1).1 (X.one HQL.out.1).2 (by omega) hu)
            have HTH := Lib.hid (show ∀ (u' : World) (j' : Nat), Rw w bR bC F xs p cap j' L row' (ls'.set q u.la) u' → u'.there bC (G + q * 6) 6 from fun u' j' X => by
              have h := X.kc.th (i := F + q) (by rw [lay_len (by have := HB.out; have := HS.out; omega)]; have := HS.out; have := HQ.out; omega)
              rwa [show (F + q) * 6 = G + q * 6 by have := HG.out.1; omega] at h)
            have HST := Lib.hid (show ∀ (u' : World) (j' : Nat), Rw w bR bC F xs p cap j' L row' (ls'.set q u.la) u' → Rw w bR bC F xs p cap j' L (row'.set q u.c) (ls'.set q u.la) (u'.setCells bC (G + q * 6) (CL u.c)) from fun u' j' X => by
              have h := X.set (q := q) (by have := HB.out; have := HS.out; omega) HQL.out.2 HS.out.2.2.2.2 (fun b off e => (HP.out b off e).2) u.c
              rwa [show (F + q) * 6 = G + q * 6 by have := HG.out.1; omega] at h)
            clear hu
            go_wp2_with (first | (go_at_call 58; ((with_reducible refine (C1.out).mono ?_); rintro x' w1 ⟨rfl, h1⟩)) | (go_at_call 33; ((with_reducible refine (C2.out _).mono ?_); rintro x' w2 ⟨rfl, rfl⟩)) | (go_at_call 59; ((with_reducible refine (C3.out _).mono ?_); rintro x' w3 ⟨rfl, h3⟩)) | (go_at_call 60; ((with_reducible refine (C4.out _ ((HX1.out _ h1).below h3)).mono ?_); rintro x' w4 ⟨j', b4, b6, rfl, hb, h4⟩; have X4 := Lib.hid (((HX1.out _ h1).below h3).cell HQL.out.1 h4 HS.out.2.2.2.2); have T4 := Lib.hid (HTH.out _ _ X4.out); clear h4)) | (refine st_cell (by rfl) _ _ rfl rfl rfl T4.out ?_; rintro w5 e5; have X5 := Lib.hid (HST.out _ _ X4.out); rw [← e5] at X5; clear e5))
            go_roundw
            case rel =>
              have hq := HQ.out
              have hb0 := HB.out
              exact ⟨q + 1, n', j', row'.set q u.c, ls'.set q u.la, by go_num, by omega, by omega, by rw [List.length_set]; exact hb0.2.2.1, by rw [List.length_set]; exact hb0.2.2.2, by rw [← hb]; exact HG2.out, X5.out⟩
            case measure => simp [intOf]; have := HQ.out; omega
end Go.Proofs.Ytfjfnbeegojlbaa
