/-
  What was packed is unpacked, and a beginning of it has the first frames: P3.1 and P3.2 as mathematics. No walk.
-/
import Derived.Test.YtfljgdehbogimaaPUb
namespace Go.Proofs.Ytfljgdehbogimaa
open Go.RowKit

theorem part_zero (L : List Int) : part L 0 = L.take 256 := by simp [part]
theorem part_next (L : List Int) (i : Nat) : part L (i + 1) = part (L.drop 256) i := by
  unfold part
  rw [List.drop_drop]
  congr 2
  omega
theorem blks_nil : blks [] = [] := rfl
theorem blks_cons {L : List Int} (h : L ≠ []) : blks L = blk (L.take 256) ++ blks (L.drop 256) := by
  have hl : 0 < L.length := List.length_pos_iff.mpr h
  unfold blks
  have e : (L.length + 255) / 256 = ((L.drop 256).length + 255) / 256 + 1 := by rw [List.length_drop]; omega
  rw [e, List.range_succ_eq_map, List.flatMap_cons, part_zero, List.flatMap_map]
  simp only [part_next]
theorem alw_of {l : List Int} {b : Int} (h : alw l b = true) : ∀ x ∈ l, Pk.wrp (hlf b) x = x := by
  unfold alw at h
  exact of_decide_eq_true h
theorem wid_le {l : List Int} {b : Nat} (h1 : 1 ≤ b) (h : alw l (b : Int) = true) : wid l ≤ b := by
  rcases Nat.lt_or_ge b (wid l) with hc | hc
  · have := wid_min h1 hc
    rw [this] at h; cases h
  · exact hc
theorem hlf_nat {w : Nat} (h : 1 ≤ w) : 2 * hlf (w : Int) = 2 ^ w := by
  unfold hlf
  obtain ⟨k, rfl⟩ : ∃ k, w = k + 1 := ⟨w - 1, by omega⟩
  rw [show (((k + 1 : Nat) : Int).toNat - 1) = k by omega, Int.pow_succ]
  omega
theorem wrp_mod {w : Nat} (h : 1 ≤ w) {x : Int} (hx : Pk.wrp (hlf w) x = x) : Pk.wrp (hlf w) (x % 2 ^ w) = x := by
  have e : x % 2 ^ w = x + 2 * hlf (w : Int) * (-(x / 2 ^ w)) := by
    rw [hlf_nat h, Int.mul_neg, ← Int.sub_eq_add_neg, ← Int.emod_def]
  rw [e, Pk.wrp_more, hx]
/-- A reader sees no further than the bits that it reads. -/
theorem rdv_pre {p q : List Int} {i w : Nat} (h : i + w ≤ 8 * p.length) : Pk.rdv (p ++ q) i w = Pk.rdv p i w := by
  unfold Pk.rdv
  refine Pk.bsum_congr fun k hk => ?_
  have : (i + k) / 8 < p.length := by omega
  rw [List.getD_eq_getElem?_getD, List.getElem?_append_left this, ← List.getD_eq_getElem?_getD]
/-- What is read of the bytes of a block's values, as far as they go. -/
theorem rbV_blk {P r s : List Int} {wd j : Nat} (h1 : 1 ≤ wd) (ha : alw P (wd : Int) = true) (hr : r ++ s = Pk.pby (Pk.bitsOf P wd) (P.length * wd)) (q : List Int) (hj : j < P.length) (hb : j * wd + wd ≤ 8 * r.length) : rbV (r ++ q) wd j = P.getD j 0 := by
  unfold rbV
  rw [rdv_pre hb, ← rdv_pre (p := r) (q := s) hb, hr, Pk.rdv_pby]
  · have hm : P.getD j 0 ∈ P := by
      rw [List.getD_eq_getElem?_getD, List.getElem?_eq_getElem hj]
      exact List.getElem_mem hj
    exact wrp_mod h1 (alw_of ha _ hm)
  · have : (j + 1) * wd ≤ P.length * wd := Nat.mul_le_mul_right _ hj
    rw [Nat.succ_mul] at this
    exact this
theorem rbL_blk {P r s : List Int} {wd n : Nat} (h1 : 1 ≤ wd) (ha : alw P (wd : Int) = true) (hr : r ++ s = Pk.pby (Pk.bitsOf P wd) (P.length * wd)) (q : List Int) (hn : n ≤ P.length) (hb : n * wd ≤ 8 * r.length) : rbL (r ++ q) wd n = P.take n := by
  apply List.ext_getElem
  · rw [rbL_length, List.length_take]; omega
  · intro j h2 h3
    have hj : j < n := by rw [rbL_length] at h2; exact h2
    have hk : (j + 1) * wd ≤ n * wd := Nat.mul_le_mul_right _ hj
    rw [Nat.succ_mul] at hk
    have := rbV_blk h1 ha hr q (j := j) (by omega) (by omega)
    simp only [rbL, List.getElem_map, List.getElem_range, List.getElem_take]
    rw [this, List.getD_eq_getElem?_getD, List.getElem?_eq_getElem (by omega)]
    rfl
/-- What a beginning of blocks holds: the first values. -/
theorem ub_blks {b : Nat} (hb : 1 ≤ b) : ∀ (f j : Nat) (L : List Int), L.length < f → alw L (b : Int) = true → alw L 16 = true →
    ∃ vs u, ub (b : Int) f L.length ((blks L).take j) = some (vs, u) ∧ vs = L.take vs.length ∧ ((blks L).length ≤ j → vs = L ∧ u = (blks L).length)
  | 0, _, L, h, _, _ => by omega
  | f + 1, j, L, h, ha, h16 => by
    by_cases hL : L = []
    · subst hL
      refine ⟨[], 0, ?_, by simp, fun _ => ⟨rfl, rfl⟩⟩
      rw [blks_nil, List.take_nil, ub_nil]
    · have hl : 0 < L.length := List.length_pos_iff.mpr hL
      cases j with
      | zero =>
        refine ⟨[], 0, by rw [List.take_zero, ub_nil], by simp, fun hc => ?_⟩
        exfalso
        rw [blks_cons hL] at hc
        simp [blk] at hc
      | succ j =>
        obtain ⟨P, hP⟩ : ∃ P, L.take 256 = P := ⟨_, rfl⟩
        obtain ⟨R, hR⟩ : ∃ R, L.drop 256 = R := ⟨_, rfl⟩
        have hPR : P ++ R = L := by rw [← hP, ← hR, List.take_append_drop]
        have hPl : P.length = min L.length 256 := by rw [← hP, List.length_take, Nat.min_comm]
        have hRl : R.length = L.length - min L.length 256 := by rw [← hR, List.length_drop]; omega
        have sub : ∀ {c : Int}, alw L c = true → alw P c = true ∧ alw R c = true := fun {c} hc => by
          have := alw_of hc
          refine ⟨decide_eq_true fun x hx => this x ?_, decide_eq_true fun x hx => this x ?_⟩
          · rw [← hPR]; exact List.mem_append_left _ hx
          · rw [← hPR]; exact List.mem_append_right _ hx
        obtain ⟨wd, hwd⟩ : ∃ wd, wid P = wd := ⟨_, rfl⟩
        have w1 : 1 ≤ wd := hwd ▸ wid_lo P
        have w2 : wd ≤ b := hwd ▸ wid_le hb (sub ha).1
        have w3 : alw P (wd : Int) = true := hwd ▸ wid_all (sub h16).1
        obtain ⟨B, hB⟩ : ∃ B, Pk.pby (Pk.bitsOf P wd) (P.length * wd) = B := ⟨_, rfl⟩
        have hBl : B.length = (P.length * wd + 7) / 8 := by rw [← hB, Pk.pby_length]
        have hc : blks L = ((wd : Int) :: B) ++ blks R := by
          rw [blks_cons hL, hP, hR]
          show (wid P : Int) :: Pk.pby (Pk.bitsOf P (wid P)) (P.length * wid P) ++ _ = _
          rw [hwd, hB]
        rw [hc, List.cons_append, List.take_succ_cons]
        have hn : L.length ≠ 0 := by omega
        have hy : 1 ≤ (wd : Int) ∧ (wd : Int) ≤ (b : Int) := by omega
        have hmm : wd * min L.length 256 = P.length * wd := by rw [hPl, Nat.mul_comm]
        by_cases hcut : j < B.length
        · have hr : (B ++ blks R).take j = B.take j := by rw [List.take_append_of_le_length (by omega)]
          rw [hr]
          have hrl : (B.take j).length = j := by rw [List.length_take]; omega
          have hq : 8 * j / wd < min L.length 256 := by
            rw [Nat.div_lt_iff_lt_mul (by omega), ← hPl]
            omega
          have hqw : 8 * j / wd * wd ≤ 8 * j := Nat.div_mul_le_self _ _
          rw [ub_cut hn hy (by rw [hrl]; omega), hrl, show min (min L.length 256) (8 * j / wd) = 8 * j / wd by omega]
          have e := rbL_blk (P := P) (r := B.take j) (s := B.drop j) w1 w3 (by rw [List.take_append_drop, hB]) [] (n := 8 * j / wd) (by omega) (by rw [hrl]; omega)
          rw [List.append_nil] at e
          refine ⟨_, _, rfl, ?_, fun hx => ?_⟩
          · rw [rbL_length, e, ← hP, List.take_take]
            congr 1
            omega
          · exfalso
            simp only [List.length_cons, List.length_append] at hx
            omega
        · have hr : (B ++ blks R).take j = B ++ (blks R).take (j - B.length) := by rw [List.take_append]; rw [List.take_of_length_le (by omega)]
          rw [hr]
          have hrl : (B ++ (blks R).take (j - B.length)).length = B.length + ((blks R).take (j - B.length)).length := List.length_append
          have hq : min L.length 256 ≤ 8 * (B ++ (blks R).take (j - B.length)).length / wd := by
            rw [Nat.le_div_iff_mul_le (by omega), hrl, ← hPl]
            omega
          have hsz : min (B ++ (blks R).take (j - B.length)).length ((wd * min L.length 256 + 7) / 8) = B.length := by rw [hmm, ← hBl, hrl]; omega
          rw [ub_go hn hy (by omega), hsz, show min (min L.length 256) (8 * (B ++ (blks R).take (j - B.length)).length / wd) = P.length by omega]
          have e := rbL_blk (P := P) (r := B) (s := []) w1 w3 (by rw [List.append_nil, hB]) ((blks R).take (j - B.length)) (n := P.length) (Nat.le_refl _) (by omega)
          rw [e, List.take_length]
          have hd : ((wd : Int) :: (B ++ (blks R).take (j - B.length))).drop (1 + B.length) = (blks R).take (j - B.length) := by
            rw [Nat.add_comm, List.drop_succ_cons, List.drop_left]
          rw [hd, ← hRl]
          obtain ⟨vs, u, i1, i2, i3⟩ := ub_blks hb f (j - B.length) R (by omega) (sub ha).2 (sub h16).2
          rw [i1]
          refine ⟨_, _, rfl, ?_, fun hx => ?_⟩
          · show P ++ vs = _
            rw [List.length_append, ← hPR, List.take_length_add_append, ← i2]
          · simp only [List.length_cons, List.length_append] at hx
            obtain ⟨k1, k2⟩ := i3 (by omega)
            subst k1
            refine ⟨hPR, ?_⟩
            show 1 + B.length + u = _
            simp only [List.length_cons, List.length_append]
            omega
/-- Sums do not tell numbers apart that lie a multiple of the range apart. -/
theorem sums_map {h : Int} {g : Int → Int} (hg : ∀ x, ∃ k, g x = x + 2 * h * k) : ∀ (p : Int) (l : List Int), Pk.sums h p (l.map g) = Pk.sums h p l
  | _, [] => rfl
  | p, x :: l => by
    obtain ⟨k, hk⟩ := hg x
    have e : Pk.wrp h (p + g x) = Pk.wrp h (p + x) := by rw [hk, ← Int.add_assoc, Pk.wrp_more]
    simp only [List.map_cons, Pk.sums, e, sums_map hg _ l]
theorem byts8_at (D : List Int) (i : Nat) (hi : i < D.length) : (D.flatMap (byts 8)).getD i 0 = D.getD i 0 % 256 := by
  rw [byts_8, List.getD_eq_getElem?_getD, List.getElem?_map, List.getD_eq_getElem?_getD, List.getElem?_eq_getElem hi]
  rfl
theorem byts16_at : ∀ (D : List Int) (i : Nat), i < D.length → (D.flatMap (byts 16)).getD (2 * i) 0 = D.getD i 0 % 256 ∧ (D.flatMap (byts 16)).getD (2 * i + 1) 0 = D.getD i 0 / 256 % 256
  | [], i, hi => by simp at hi
  | d :: D, 0, _ => ⟨rfl, rfl⟩
  | d :: D, i + 1, hi => by
    have := byts16_at D i (by simpa using hi)
    have e : (d :: D).flatMap (byts 16) = d % 256 :: d / 256 % 256 :: D.flatMap (byts 16) := rfl
    rw [e, show 2 * (i + 1) = 2 * i + 1 + 1 by omega]
    simp only [List.getD_cons_succ]
    exact this
theorem take_at {l : List Int} {i j : Nat} (h : i < j) : (l.take j).getD i 0 = l.getD i 0 := by
  rw [List.getD_eq_getElem?_getD, List.getElem?_take_of_lt h, ← List.getD_eq_getElem?_getD]
theorem udV_map {D bs : List Int} {b : Int} {n : Nat} {g : Int → Int} (hn : udM bs b n ≤ D.length) (h : ∀ i, i < udM bs b n → udD bs b i = g (D.getD i 0)) : udV bs b n = (D.take (udM bs b n)).map g := by
  apply List.ext_getElem
  · rw [udV_length, List.length_map, List.length_take]; omega
  · intro i h1 h2
    rw [udV_length] at h1
    have e := h i h1
    rw [List.getD_eq_getElem?_getD, List.getElem?_eq_getElem (by omega)] at e
    simp only [udV, List.getElem_map, List.getElem_range, List.getElem_take]
    exact e
theorem whl_rng {l : List Int} {b : Int} (h : whl l b = 0) : ∀ x ∈ l, -(hlf b) ≤ x ∧ x < hlf b := fun x hx => (Pk.wrp_iff (hlf_pos b)).mp ((whl_zero h).2.1 x hx)
/-- A beginning of what Delta wrote is read as the first frames. -/
theorem udx_take {l : List Int} {b : Int} (h : whl l b = 0) (j : Nat) :
    udM ((dlt l b).take j) b l.length ≤ l.length ∧ udx ((dlt l b).take j) b l.length = l.take (udM ((dlt l b).take j) b l.length) ++ List.replicate (l.length - udM ((dlt l b).take j) b l.length) 0 ∧ ((dlt l b).length ≤ j → udM ((dlt l b).take j) b l.length = l.length) := by
  have hl : udM ((dlt l b).take j) b l.length ≤ l.length := Nat.min_le_left _ _
  have hD : (Pk.difs (hlf b) 0 l).length = l.length := Pk.difs_length _ 0 l
  have hS : Pk.sums (hlf b) 0 (Pk.difs (hlf b) 0 l) = l := Pk.sums_difs 0 l (whl_rng h)
  have key : ∀ g : Int → Int, (∀ x, ∃ k, g x = x + 2 * hlf b * k) → (∀ i, i < udM ((dlt l b).take j) b l.length → udD ((dlt l b).take j) b i = g ((Pk.difs (hlf b) 0 l).getD i 0)) → udx ((dlt l b).take j) b l.length = l.take (udM ((dlt l b).take j) b l.length) ++ List.replicate (l.length - udM ((dlt l b).take j) b l.length) 0 := fun g hg hi => by
    unfold udx
    rw [udV_map (by rw [hD]; exact hl) hi, sums_map hg, Pk.sums_take, hS]
  rcases (whl_zero h).1 with rfl | rfl
  · have hd : (dlt l 8).length = l.length := by unfold dlt; rw [byts_8, List.length_map, hD]
    have hM : udM ((dlt l 8).take j) 8 l.length = min l.length (min j l.length) := by unfold udM; rw [if_neg (by omega), List.length_take, hd]
    refine ⟨hl, key (fun x => x % 256) (fun x => ⟨-(x / 256), by rw [show hlf 8 = 128 by decide]; omega⟩) fun i hi => ?_, fun hj => by rw [hM]; omega⟩
    unfold udD
    rw [if_neg (by omega), take_at (by omega)]
    exact byts8_at _ i (by omega)
  · have hd : (dlt l 16).length = 2 * l.length := by unfold dlt; rw [byts_16, hD]
    have hM : udM ((dlt l 16).take j) 16 l.length = min l.length (min j (2 * l.length) / 2) := by unfold udM; rw [if_pos rfl, List.length_take, hd]
    refine ⟨hl, key (fun x => x % 65536) (fun x => ⟨-(x / 65536), by rw [show hlf 16 = 32768 by decide]; omega⟩) fun i hi => ?_, fun hj => by rw [hM]; omega⟩
    unfold udD
    rw [if_pos rfl, take_at (by omega), take_at (by omega)]
    have := byts16_at (Pk.difs (hlf 16) 0 l) i (by omega)
    rw [show (dlt l 16).getD (2 * i) 0 = _ from this.1, show (dlt l 16).getD (2 * i + 1) 0 = _ from this.2]
    omega
theorem enc_length (b v : Int) (l : List Int) : (enc b v l).length = l.length := by
  unfold enc
  split
  · rw [Pk.difs_length, Pk.difs_length]
  · rw [Pk.difs_length]
theorem enc_in (b v : Int) (l : List Int) : ∀ x ∈ enc b v l, -(hlf b) ≤ x ∧ x < hlf b := by
  unfold enc
  split
  · exact Pk.difs_in (hlf_pos b) 0 _
  · exact Pk.difs_in (hlf_pos b) 0 _
theorem dec_take (b v : Int) (l : List Int) (n : Nat) : dec b v (l.take n) = (dec b v l).take n := by
  unfold dec
  split
  · rw [Pk.sums_take, Pk.sums_take]
  · rw [Pk.sums_take]
theorem dec_enc {b v : Int} {l : List Int} (h : whl l b = 0) : dec b v (enc b v l) = l := by
  unfold dec enc
  split
  · exact Pk.sums_difs2 (hlf_pos b) l (whl_rng h)
  · exact Pk.sums_difs 0 l (whl_rng h)
/-- A beginning of what Blocks wrote is read as the first frames. -/
theorem ubx_take {l : List Int} {b v : Int} (h : whl l b = 0) (j : Nat) :
    ∃ vs u, ub b (l.length + 1) l.length ((blks (enc b v l)).take j) = some (vs, u) ∧ vs.length ≤ l.length ∧ dec b v vs = l.take vs.length ∧ ((blks (enc b v l)).length ≤ j → vs.length = l.length ∧ u = (blks (enc b v l)).length) := by
  have hb := (whl_zero h).1
  have e1 := enc_length b v l
  obtain ⟨vs, u, h1, h2, h3⟩ := ub_blks (b := b.toNat) (by omega) (l.length + 1) j (enc b v l) (by omega)
    (by rw [show ((b.toNat : Nat) : Int) = b by omega]; exact decide_eq_true fun x hx => (Pk.wrp_iff (hlf_pos b)).mpr (enc_in b v l x hx))
    (by
      have h8 : hlf 8 = 128 := by decide
      have h16 : hlf 16 = 32768 := by decide
      refine decide_eq_true fun x hx => (Pk.wrp_iff (hlf_pos 16)).mpr ?_
      have := enc_in b v l x hx
      rcases hb with rfl | rfl
      · omega
      · exact this)
  rw [show ((b.toNat : Nat) : Int) = b by omega, e1] at h1
  refine ⟨vs, u, h1, ?_, ?_, fun hj => ?_⟩
  · have := congrArg List.length h2
    rw [List.length_take, e1] at this
    omega
  · conv => lhs; rw [h2]
    rw [dec_take, dec_enc h]
  · obtain ⟨k1, k2⟩ := h3 hj
    exact ⟨by rw [k1, e1], k2⟩
end Go.Proofs.Ytfljgdehbogimaa
