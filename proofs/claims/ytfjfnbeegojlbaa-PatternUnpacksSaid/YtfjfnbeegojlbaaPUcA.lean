/-
  Package pattern's Blank; rows laid one after the other.
-/
import Derived.Test.YtfjfnbeegojlbaaPRr
namespace Go.Proofs.Ytfjfnbeegojlbaa
open Go.RowKit

theorem p_Blank (R C : Int) (w : World) :
    Calls Try.prog 41 #[.int .i64 R, .int .i64 C] w fun x w' => RetPE (Pt.okI (Pt.eBlank R C) R) (Pt.okL (Pt.eBlank R C) (List.replicate (R.toNat * C.toNat) Pt.zc)) (Pt.eBlank R C) w.heap.size x w' ∧ Below w.heap.size w w' := by
  obtain ⟨W, hW⟩ : ∃ W, W = w.alloc (.cells #[.int .i64 0, .slice none 0 0] 24) := ⟨_, rfl⟩
  have HB := Lib.hid (show Below w.heap.size w W by rw [hW]; exact below_box _ _)
  have HP := Lib.hid (show Pb W w.heap.size 0 (.slice none 0 0) by rw [hW]; exact pb_box _ _ _ _)
  have HZ := Lib.hid (show W.heap.size = w.heap.size + 1 by rw [hW]; simp)
  obtain ⟨b, hb⟩ : ∃ b, b = w.heap.size := ⟨_, rfl⟩
  rw [← hb] at HP HZ
  have HBE := Lib.hid hb
  have C1 := Lib.hid (fun u => p_validChannels C u)
  have C2 := Lib.hid (fun u => p_validRows R u)
  cases h1 : Pt.wth C 1 16 with
  | false =>
    have e : Pt.eBlank R C = 1 := by unfold Pt.eBlank; rw [h1]; rfl
    rw [h1] at C1
    rw [e]
    clear h1 e
    go_enter Try.func41, Try.ntmps41
    go_upto_region 1 with fail
    rw [← hW, ← hb]
    clear hW hb
    go_wp2_with (first | (go_at_call 21; ((with_reducible refine (C1.out _).mono ?_); rintro x' w1 ⟨rfl, rfl⟩)) | ((refine st_pat (by rfl) _ _ rfl rfl rfl HP.out.2 ?_); intro w2 h2 g2; have H2 := Lib.hid h2; have G2 := Lib.hid g2; clear h2 g2))
    exact bodyPost_ret (res_pe rfl rfl H2.out.1 rfl) rfl ⟨⟨none, 0, rfl, Nat.le_refl _, .inl rfl⟩, grown_at HB.out (by have := HBE.out; omega) (by have := HZ.out; have := HBE.out; omega) G2.out⟩
  | true =>
    rw [h1] at C1
    cases h2 : Pt.wth R 1 64 with
    | false =>
      have e : Pt.eBlank R C = 5 := by unfold Pt.eBlank; rw [h1, h2]; rfl
      rw [h2] at C2
      rw [e]
      clear h1 h2 e
      go_enter Try.func41, Try.ntmps41
      go_upto_region 1 with fail
      rw [← hW, ← hb]
      clear hW hb
      go_wp2_with (first | (go_at_call 21; ((with_reducible refine (C1.out _).mono ?_); rintro x' w1 ⟨rfl, rfl⟩)) | (go_at_call 22; ((with_reducible refine (C2.out _).mono ?_); rintro x' w1 ⟨rfl, rfl⟩)) | ((refine st_pat (by rfl) _ _ rfl rfl rfl HP.out.2 ?_); intro w2 h2 g2; have H2 := Lib.hid h2; have G2 := Lib.hid g2; clear h2 g2))
      exact bodyPost_ret (res_pe rfl rfl H2.out.1 rfl) rfl ⟨⟨none, 0, rfl, Nat.le_refl _, .inl rfl⟩, grown_at HB.out (by have := HBE.out; omega) (by have := HZ.out; have := HBE.out; omega) G2.out⟩
    | true =>
      have e : Pt.eBlank R C = 0 := by unfold Pt.eBlank; rw [h1, h2]; rfl
      rw [h2] at C2
      rw [e]
      obtain ⟨m, rfl⟩ : ∃ m : Nat, R = m := ⟨R.toNat, by have := Pt.wth_iff.1 h2; omega⟩
      obtain ⟨n, rfl⟩ : ∃ n : Nat, C = n := ⟨C.toNat, by have := Pt.wth_iff.1 h1; omega⟩
      have C3 := Lib.hid (fun u => p_blank m n u (Pt.rc_bound (by have := Pt.wth_iff.1 h2; omega) (by have := Pt.wth_iff.1 h1; omega)))
      show Calls _ _ _ _ (fun x w' => RetPE m (List.replicate (m * n) Pt.zc) 0 w.heap.size x w' ∧ _)
      clear h1 h2 e
      go_enter Try.func41, Try.ntmps41
      go_upto_region 1 with fail
      rw [← hW, ← hb]
      clear hW hb
      go_wp2_with (first | (go_at_call 21; ((with_reducible refine (C1.out _).mono ?_); rintro x' w1 ⟨rfl, rfl⟩)) | (go_at_call 22; ((with_reducible refine (C2.out _).mono ?_); rintro x' w1 ⟨rfl, rfl⟩)) | (go_at_call 28; ((with_reducible refine (C3.out _).mono ?_); rintro x' w3 ⟨⟨q, cp, rfl, hc3, ho3⟩, hb3⟩; have HC3 := Lib.hid hc3; have HO3 := Lib.hid ho3; have HB3 := Lib.hid hb3; clear hc3 ho3 hb3)) | ((refine st_pat (by rfl) _ _ rfl rfl rfl (HP.out.kept HB3.out).2 ?_); intro w2 h2 g2; have H2 := Lib.hid h2; have G2 := Lib.hid g2; clear h2 g2))
      have e1 := HBE.out
      have e2 := HZ.out
      have e3 := HB3.out.size
      exact bodyPost_ret (res_pe rfl rfl H2.out.1 rfl) rfl ⟨⟨q, cp, by rw [List.length_replicate]; rfl, HC3.out, (HO3.out.grown G2.out (by omega)).mono (by omega)⟩, grown_at (stepB HB.out HB3.out) (by omega) (by omega) G2.out⟩
namespace Pt
theorem urow_len {C : Nat} : ∀ n bf s u, urow C n bf s = .ok u → u.row.length = s.row.length ∧ u.ls.length = s.ls.length
  | 0, _, _, _, h => by simp [urow] at h
  | n + 1, bf, s, u, h => by
    obtain ⟨row, ls, b⟩ := s
    cases b with
    | nil => simp [urow] at h
    | cons x t =>
      rw [urow] at h
      have h : (if x = 0 then (.ok ⟨row, ls, t⟩ : Except Int Ur) else if (bf : Int) + 1 ≤ x ∧ x ≤ C then (match ucell (at' ls (x.toNat - 1)) t with | .error e => .error e | .ok u => urow C n x.toNat ⟨row.set (x.toNat - 1) u.c, ls.set (x.toNat - 1) u.la, u.b⟩) else .error 9) = .ok u := h
      by_cases hx : x = 0
      · rw [if_pos hx] at h
        simp only [Except.ok.injEq] at h
        subst h
        exact ⟨rfl, rfl⟩
      · rw [if_neg hx] at h
        by_cases hc : (bf : Int) + 1 ≤ x ∧ x ≤ C
        · rw [if_pos hc] at h
          cases hu : ucell (at' ls (x.toNat - 1)) t with
          | error e => rw [hu] at h; exact absurd h (by simp)
          | ok v =>
            rw [hu] at h
            have := urow_len n x.toNat ⟨row.set (x.toNat - 1) v.c, ls.set (x.toNat - 1) v.la, v.b⟩ u h
            simpa using this
        · rw [if_neg hc] at h; exact absurd h (by simp)
theorem urows_bad {C n : Nat} {s : Ur} {e : Int} (h : urow C (C + 1) 0 ⟨List.replicate C zc, s.ls, s.b⟩ = .error e) : urows C (n + 1) s = .error e := by rw [urows, h]
theorem urows_go {C n : Nat} {s u : Ur} (h : urow C (C + 1) 0 ⟨List.replicate C zc, s.ls, s.b⟩ = .ok u) : urows C (n + 1) s = urows C n ⟨s.row ++ u.row, u.ls, u.b⟩ := by rw [urows, h]
end Pt
theorem lay_zero {n C : Nat} {acc : List Pt.Cl} (h : acc.length + C ≤ n) : lay (lay (List.replicate n Pt.zc) 0 acc) acc.length (List.replicate C Pt.zc) = lay (List.replicate n Pt.zc) 0 acc := by
  have l0 : (lay (List.replicate n Pt.zc) 0 acc).length = n := by rw [lay_len (by simp; omega)]; simp
  refine Pt.ext_at (by rw [lay_len (by rw [l0]; simpa using h)]) fun k hk => ?_
  rw [lay_len (by rw [l0]; simpa using h)] at hk
  rw [lay_at (by rw [l0]; simpa using h)]
  by_cases e : acc.length ≤ k ∧ k < acc.length + (List.replicate C Pt.zc).length
  · rw [if_pos e, lay_at (by simp; omega), if_neg (by omega), Pt.at_rep, Pt.at_rep]
  · rw [if_neg e]
theorem lay_app {n : Nat} {acc row : List Pt.Cl} (h : acc.length + row.length ≤ n) : lay (lay (List.replicate n Pt.zc) 0 acc) acc.length row = lay (List.replicate n Pt.zc) 0 (acc ++ row) := by
  have l0 : (lay (List.replicate n Pt.zc) 0 acc).length = n := by rw [lay_len (by simp; omega)]; simp
  refine Pt.ext_at (by rw [lay_len (by rw [l0]; exact h), l0, lay_len (by simp; omega)]; simp) fun k hk => ?_
  rw [lay_at (by rw [l0]; exact h), lay_at (by simp; omega), lay_at (by simp; omega)]
  simp only [List.length_append, Nat.zero_le, true_and, Nat.zero_add, Nat.sub_zero]
  rw [Pt.at_app]
  by_cases e : k < acc.length
  · rw [if_neg (by omega), if_pos e, if_pos (by omega), if_pos e]
  · by_cases e2 : k < acc.length + row.length
    · rw [if_pos (by omega), if_pos e2, if_neg e]
    · rw [if_neg (by omega), if_neg (by omega), if_neg e2]
theorem lay_all {n : Nat} {acc : List Pt.Cl} (h : acc.length = n) : lay (List.replicate n Pt.zc) 0 acc = acc := by
  simp [lay, h]
theorem Rw.start {w wr : World} {bR bC : Nat} {xs : List Int} {p : Option Addr} {cap j n C : Nat} {acc ls : List Pt.Cl} (h : Rw w bR bC 0 xs p cap j (List.replicate n Pt.zc) acc ls wr) (hC : acc.length + C ≤ n) : Rw wr bR bC acc.length xs p cap j (lay (List.replicate n Pt.zc) 0 acc) (List.replicate C Pt.zc) ls wr :=
  ⟨h.rn, h.rl, h.tl, by rw [lay_zero hC]; exact h.kc, Fz.refl _ _ _⟩
theorem Rw.done {w wr w' : World} {bR bC : Nat} {xs : List Int} {p : Option Addr} {cap i j n : Nat} {acc row ls ls' : List Pt.Cl} (h : Rw w bR bC 0 xs p cap i (List.replicate n Pt.zc) acc ls wr) (h2 : Rw wr bR bC acc.length xs p cap j (lay (List.replicate n Pt.zc) 0 acc) row ls' w') (hC : acc.length + row.length ≤ n) : Rw w bR bC 0 xs p cap j (List.replicate n Pt.zc) (acc ++ row) ls' w' :=
  ⟨h2.rn, h2.rl, h2.tl, by rw [← lay_app hC]; exact h2.kc, h.fr.trans h2.fr⟩
theorem p_row_err {w : World} {bR bC F C : Nat} {xs : List Int} {p : Option Addr} {cap i cp : Nat} {L row ls : List Pt.Cl} (h : Rw w bR bC F xs p cap i L row ls w) (hp : ∀ b off, p = some ⟨b, off, none⟩ → b < w.heap.size ∧ b ≠ bC) (hF : F + C ≤ L.length) (hL : L.length ≤ 1024) (hr : row.length = C) (hls : ls.length = 16) (hC : C ≤ 16) (hcp : C ≤ cp) (hne : bC ≠ bR) {z : Int} (e : Pt.urow C (C + 1) 0 ⟨row, ls, xs.drop i⟩ = .error z) :
    Calls Try.prog 44 #[.pointer (some ⟨bR, 0, none⟩), .slice (some ⟨bC, F * 6, none⟩) C cp] w fun x w' => x = Pn z ∧ Fz w bR bC w' := by
  have := p_row h hp hF hL hr hls hC hcp hne
  rw [e] at this
  exact this
theorem p_row_ok {w : World} {bR bC F C : Nat} {xs : List Int} {p : Option Addr} {cap i cp : Nat} {L row ls : List Pt.Cl} (h : Rw w bR bC F xs p cap i L row ls w) (hp : ∀ b off, p = some ⟨b, off, none⟩ → b < w.heap.size ∧ b ≠ bC) (hF : F + C ≤ L.length) (hL : L.length ≤ 1024) (hr : row.length = C) (hls : ls.length = 16) (hC : C ≤ 16) (hcp : C ≤ cp) (hne : bC ≠ bR) {u : Pt.Ur} (e : Pt.urow C (C + 1) 0 ⟨row, ls, xs.drop i⟩ = .ok u) :
    Calls Try.prog 44 #[.pointer (some ⟨bR, 0, none⟩), .slice (some ⟨bC, F * 6, none⟩) C cp] w fun x w' => ∃ j, x = .returned (.tuple #[]) ∧ u.b = xs.drop j ∧ Rw w bR bC F xs p cap j L u.row u.ls w' := by
  have := p_row h hp hF hL hr hls hC hcp hne
  rw [e] at this
  exact this
end Go.Proofs.Ytfjfnbeegojlbaa
