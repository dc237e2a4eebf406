/-
  Plain mathematics for package sample: what the four changes of a sample give, and that it is valid. It says nothing of the program.
-/
import Derived.Test.YtmaldhjcdkidmaaBase
namespace Go.Proofs.Ytmaldhjcdkidmaa.Sm

/-- A loop's place in the other order of n frames. -/
def mirS (k s e n : Int) : Int := if k = 0 then s else n - e
def mirE (k s e n : Int) : Int := if k = 0 then e else n - s
/-- The sample with its loops mirrored in n frames. -/
def prv (s : Smp) (n : Int) : Smp := { s with start := mirS s.loop s.start s.fin n, fin := mirE s.loop s.start s.fin n, sstart := mirS s.sus s.sstart s.sfin n, sfin := mirE s.sus s.sstart s.sfin n }
/-- The sample with other frames. -/
def wth (s : Smp) (l : List Int) : Smp := { s with dat := l }
def rev (s : Smp) : Smp := prv (wth s s.dat.reverse) s.dat.length
/-- A loop of what is left between two frames. -/
def kpK (k s e f t : Int) : Int := if k = 0 ∨ s < f ∨ t < e then 0 else k
def kpS (k s e f t : Int) : Int := if k = 0 ∨ s < f ∨ t < e then 0 else s - f
def kpE (k s e f t : Int) : Int := if k = 0 ∨ s < f ∨ t < e then 0 else e - f
def pcr (s : Smp) (f t : Int) : Smp := { s with loop := kpK s.loop s.start s.fin f t, start := kpS s.loop s.start s.fin f t, fin := kpE s.loop s.start s.fin f t, sus := kpK s.sus s.sstart s.sfin f t, sstart := kpS s.sus s.sstart s.sfin f t, sfin := kpE s.sus s.sstart s.sfin f t }
def crp (s : Smp) (f t : Int) : Smp := pcr (wth s ((s.dat.drop f.toNat).take (t - f).toNat)) f t
/-- The sample with other bits, each frame changed. -/
def mpp (s : Smp) (b : Int) (g : Int → Int) : Smp := { s with bits := b, dat := s.dat.map g }
def rnd (y d : Int) : Int := if y < 0 then -((-2 * y + d) / (2 * d)) else (2 * y + d) / (2 * d)
def clp (lo hi x : Int) : Int := if x < lo then lo else if hi < x then hi else x
def hlf (b : Int) : Int := if b = 8 then 128 else 32768
def ampF (b num den x : Int) : Int := clp (-hlf b) (hlf b - 1) (rnd (x * num) den)
def amp (s : Smp) (num den : Int) : Smp := mpp s s.bits (ampF s.bits num den)
def cvtF (old b x : Int) : Int := if old < b then 256 * x else if b < old then x / 256 else x
def cvt (s : Smp) (b : Int) : Smp := mpp s b (cvtF s.bits b)

theorem lpd_iff (k s e n : Int) : lpd k s e n = true ↔ (k = 0 ∧ s = 0 ∧ e = 0) ∨ ((k = 1 ∨ k = 2) ∧ 0 ≤ s ∧ s < e ∧ e ≤ n) := by unfold lpd; exact decide_eq_true_iff
theorem vld_iff (s : Smp) : vld s = true ↔ headOk s = true ∧ (∀ x ∈ s.dat, fts x s.bits = true) ∧ lpd s.loop s.start s.fin s.dat.length = true ∧ lpd s.sus s.sstart s.sfin s.dat.length = true := by
  simp only [vld, Bool.and_eq_true, List.all_eq_true, and_assoc]
theorem head_iff (s : Smp) : headOk s = true ↔ nmd s.name = true ∧ ((s.bits = 8 ∨ s.bits = 16) ∧ (s.dat.length : Int) ≤ 4096 ∧ (1 ≤ s.rate ∧ s.rate ≤ 65535) ∧ (0 ≤ s.vol ∧ s.vol ≤ 64) ∧ (-1 ≤ s.pan ∧ s.pan ≤ 256) ∧ (-64 ≤ s.fine ∧ s.fine ≤ 63)) := by
  simp only [headOk, Bool.and_eq_true, decide_eq_true_eq]
theorem fts_iff {x b : Int} (hb : b = 8 ∨ b = 16) : fts x b = true ↔ -hlf b ≤ x ∧ x < hlf b := by
  unfold fts hlf
  rw [decide_eq_true_iff]
  rcases hb with rfl | rfl
  · simp
  · simp
theorem lpd_mir {k s e n : Int} (h : lpd k s e n = true) : lpd k (mirS k s e n) (mirE k s e n) n = true := by
  rw [lpd_iff] at h ⊢
  unfold mirS mirE
  by_cases hk : k = 0
  · rw [if_pos hk, if_pos hk]; omega
  · rw [if_neg hk, if_neg hk]; omega
theorem lpd_kp {k s e n f t : Int} (h : lpd k s e n = true) (h2 : f ≤ t) : lpd (kpK k s e f t) (kpS k s e f t) (kpE k s e f t) (t - f) = true := by
  rw [lpd_iff] at h ⊢
  unfold kpK kpS kpE
  by_cases hk : k = 0 ∨ s < f ∨ t < e
  · rw [if_pos hk, if_pos hk, if_pos hk]; omega
  · rw [if_neg hk, if_neg hk, if_neg hk]; omega
theorem vld_rev {s : Smp} (h : vld s = true) : vld (rev s) = true := by
  rw [vld_iff, head_iff] at h ⊢
  obtain ⟨h1, h2, h3, h4⟩ := h
  refine ⟨?_, ?_, ?_, ?_⟩
  · simpa [rev, prv, wth] using h1
  · intro x hx
    exact h2 x (by simpa [rev, prv, wth] using hx)
  · have := lpd_mir h3
    simpa [rev, prv, wth] using this
  · have := lpd_mir h4
    simpa [rev, prv, wth] using this
theorem crp_len {s : Smp} {f t : Int} (h1 : 0 ≤ f) (h2 : f ≤ t) (h3 : t ≤ s.dat.length) : (((s.dat.drop f.toNat).take (t - f).toNat).length : Int) = t - f := by
  rw [List.length_take, List.length_drop]; omega
theorem vld_crp {s : Smp} {f t : Int} (h : vld s = true) (h1 : 0 ≤ f) (h2 : f ≤ t) (h3 : t ≤ s.dat.length) : vld (crp s f t) = true := by
  have hl := crp_len h1 h2 h3
  rw [vld_iff, head_iff] at h ⊢
  obtain ⟨⟨n1, n2, n3, n4⟩, k2, k3, k4⟩ := h
  refine ⟨⟨n1, n2, ?_, n4⟩, ?_, ?_, ?_⟩
  · show (((s.dat.drop f.toNat).take (t - f).toNat).length : Int) ≤ 4096
    omega
  · intro x hx
    exact k2 x (List.mem_of_mem_drop (List.mem_of_mem_take hx))
  · have := lpd_kp k3 h2
    show lpd _ _ _ (((s.dat.drop f.toNat).take (t - f).toNat).length : Int) = true
    rw [hl]; exact this
  · have := lpd_kp k4 h2
    show lpd _ _ _ (((s.dat.drop f.toNat).take (t - f).toNat).length : Int) = true
    rw [hl]; exact this
theorem vld_mpp {s : Smp} {b : Int} {g : Int → Int} (h : vld s = true) (hb : b = 8 ∨ b = 16) (hg : ∀ x ∈ s.dat, fts (g x) b = true) : vld (mpp s b g) = true := by
  rw [vld_iff, head_iff] at h ⊢
  obtain ⟨⟨n1, n2, n3, n4⟩, k2, k3, k4⟩ := h
  refine ⟨⟨n1, hb, by simpa [mpp] using n3, n4⟩, ?_, by simpa [mpp] using k3, by simpa [mpp] using k4⟩
  intro x hx
  obtain ⟨y, hy, rfl⟩ := List.mem_map.1 (show x ∈ s.dat.map g from hx)
  exact hg y hy
theorem vld_bits {s : Smp} (h : vld s = true) : s.bits = 8 ∨ s.bits = 16 := by
  rw [vld_iff, head_iff] at h
  exact h.1.2.1
theorem vld_amp {s : Smp} {num den : Int} (h : vld s = true) : vld (amp s num den) = true := by
  refine vld_mpp h (vld_bits h) fun x _ => ?_
  rw [fts_iff (vld_bits h)]
  have : 0 < hlf s.bits := by unfold hlf; split <;> omega
  unfold ampF clp
  split
  · omega
  · split <;> omega
theorem vld_cvt {s : Smp} {b : Int} (h : vld s = true) (hb : b = 8 ∨ b = 16) : vld (cvt s b) = true := by
  refine vld_mpp h hb fun x hx => ?_
  have h2 := ((vld_iff s).1 h).2.1 x hx
  have hs := vld_bits h
  rw [fts_iff hs] at h2
  rw [fts_iff hb]
  unfold cvtF
  unfold hlf at *
  rcases hb with rfl | rfl <;> rcases hs with hs | hs <;> rw [hs] at h2 ⊢ <;> simp at h2 ⊢ <;> omega
theorem rev_rev (s : Smp) : rev (rev s) = s := by
  obtain ⟨a, d, b, c, e, f, g, k, st, fi, su, ss, sf⟩ := s
  simp only [rev, prv, wth, List.length_reverse, List.reverse_reverse, mirS, mirE, Smp.mk.injEq, true_and]
  refine ⟨?_, ?_, ?_, ?_⟩ <;> (split <;> omega)
theorem kp_all {k s e n : Int} (h : lpd k s e n = true) : kpK k s e 0 n = k ∧ kpS k s e 0 n = s ∧ kpE k s e 0 n = e := by
  rw [lpd_iff] at h
  unfold kpK kpS kpE
  by_cases hk : k = 0 ∨ s < 0 ∨ n < e
  · rw [if_pos hk, if_pos hk, if_pos hk]; omega
  · rw [if_neg hk, if_neg hk, if_neg hk]; omega
theorem crp_all {s : Smp} (h : vld s = true) : crp s 0 s.dat.length = s := by
  have hh := (vld_iff s).1 h
  obtain ⟨a1, a2, a3⟩ := kp_all hh.2.2.1
  obtain ⟨b1, b2, b3⟩ := kp_all hh.2.2.2
  unfold crp pcr wth
  simp only [a1, a2, a3, b1, b2, b3]
  simp
theorem cvt_back {s : Smp} (h : s.bits = 8) : cvt (cvt s 16) 8 = s := by
  obtain ⟨a, d, b, c, e, f, g, k, st, fi, su, ss, sf⟩ := s
  simp only at h
  subst h
  simp only [cvt, mpp, Smp.mk.injEq, List.map_map, and_true, true_and]
  apply List.ext_getElem
  · simp
  · intro i h1 h2
    simp [cvtF]
theorem cvt_same {s : Smp} : cvt s s.bits = s := by
  obtain ⟨a, d, b, c, e, f, g, k, st, fi, su, ss, sf⟩ := s
  simp only [cvt, mpp, Smp.mk.injEq, and_true, true_and]
  apply List.ext_getElem
  · simp
  · intro i h1 h2
    simp [cvtF]
end Go.Proofs.Ytmaldhjcdkidmaa.Sm
