/-
  Mathematics of tables of 16 differences: the order in which differences are taken, the sorted list of all of them, the choice of the best one, counts. No walk.
-/
import Derived.Test.YtfljgdehbogimaaPkN
namespace Go.Proofs.Ytfljgdehbogimaa
namespace Tb

/-- How often a difference occurs. -/
def ct (D : List Int) (x : Int) : Int := (D.count x : Int)
/-- How far from 0. -/
def ab (x : Int) : Int := max x (-x)
/-- Which difference is taken ahead of which. -/
def lt (C : Int → Int) (x y : Int) : Prop := C y < C x ∨ (C x = C y ∧ (ab x < ab y ∨ (ab x = ab y ∧ y < x)))
/-- The comparison. -/
def cf (C : Int → Int) (x y : Int) : Int := if C y - C x ≠ 0 then C y - C x else if ab x - ab y ≠ 0 then ab x - ab y else y - x
theorem cf_lt (C : Int → Int) (x y : Int) : cf C x y < 0 ↔ lt C x y := by
  unfold cf lt
  repeat' split
  all_goals omega
theorem lt_irrefl (C : Int → Int) (x : Int) : ¬ lt C x x := by unfold lt; omega
theorem lt_trans {C : Int → Int} {x y z : Int} (h1 : lt C x y) (h2 : lt C y z) : lt C x z := by unfold lt at *; omega
theorem lt_total (C : Int → Int) {x y : Int} (h1 : ¬ lt C x y) (h2 : ¬ lt C y x) : x = y := by
  have hx : ab x = ab y → x = y ∨ x = -y := by unfold ab; omega
  unfold lt at *
  omega
theorem lt_asymm {C : Int → Int} {x y : Int} (h1 : lt C x y) (h2 : lt C y x) : False := lt_irrefl C x (lt_trans h1 h2)
/-- All differences in the order in which they are taken. -/
structure Srt (C : Int → Int) (S : List Int) : Prop where
  pw : S.Pairwise (lt C)
  mem : ∀ x, x ∈ S ↔ -128 ≤ x ∧ x ≤ 127
  len : S.length = 256
/-- The first j differences of those that are among the first k. -/
def upto (S : List Int) (j : Nat) : List Int := ((List.range j).map fun (i : Nat) => (i : Int) - 128).filter fun x => decide (x ∈ S.take 16)
theorem upto_zero (S : List Int) : upto S 0 = [] := rfl
theorem upto_yes {S : List Int} {j : Nat} (h : (j : Int) - 128 ∈ S.take 16) : upto S (j + 1) = upto S j ++ [(j : Int) - 128] := by
  unfold upto
  rw [List.range_succ, List.map_append, List.filter_append]
  simp [h]
theorem upto_no {S : List Int} {j : Nat} (h : ¬ (j : Int) - 128 ∈ S.take 16) : upto S (j + 1) = upto S j := by
  unfold upto
  rw [List.range_succ, List.map_append, List.filter_append]
  simp [h]
theorem upto_len (S : List Int) (j : Nat) : (upto S j).length ≤ j := by
  unfold upto
  refine Nat.le_trans (List.length_filter_le _ _) ?_
  simp
/-- Two strictly ascending lists with the same numbers are one. -/
theorem asc_eq : ∀ {a b : List Int}, a.Pairwise (· < ·) → b.Pairwise (· < ·) → (∀ x, x ∈ a ↔ x ∈ b) → a = b
  | [], [], _, _, _ => rfl
  | [], y :: b, _, _, h => by have := (h y).2 (List.mem_cons_self ..); cases this
  | x :: a, [], _, _, h => by have := (h x).1 (List.mem_cons_self ..); cases this
  | x :: a, y :: b, ha, hb, h => by
    rw [List.pairwise_cons] at ha hb
    have hxy : x = y := by
      have h1 := (h x).1 (List.mem_cons_self ..)
      have h2 := (h y).2 (List.mem_cons_self ..)
      rw [List.mem_cons] at h1 h2
      rcases h1 with h1 | h1
      · exact h1
      · rcases h2 with h2 | h2
        · exact h2.symm
        · have := hb.1 x h1
          have := ha.1 y h2
          omega
    subst hxy
    have : a = b := asc_eq ha.2 hb.2 fun z => ⟨fun hz => by
      have h1 := (h z).1 (List.mem_cons_of_mem _ hz)
      rw [List.mem_cons] at h1
      rcases h1 with rfl | h1
      · have := ha.1 z hz; omega
      · exact h1, fun hz => by
      have h1 := (h z).2 (List.mem_cons_of_mem _ hz)
      rw [List.mem_cons] at h1
      rcases h1 with rfl | h1
      · have := hb.1 z hz; omega
      · exact h1⟩
    rw [this]
theorem Srt.nodup {C : Int → Int} {S : List Int} (h : Srt C S) : S.Nodup := by
  refine h.pw.imp fun {a b} hab e => ?_
  subst e
  exact lt_irrefl C a hab
theorem upto_asc (S : List Int) (j : Nat) : (upto S j).Pairwise (· < ·) := by
  unfold upto
  refine List.Pairwise.filter _ ?_
  rw [List.pairwise_map]
  refine List.pairwise_lt_range.imp ?_
  intro a b h
  omega
theorem sort_eq {C : Int → Int} {S : List Int} (h : Srt C S) : (S.take 16).mergeSort (fun x y => decide (x ≤ y)) = upto S 256 := by
  refine asc_eq ?_ (upto_asc S 256) fun x => ?_
  · have h1 : ((S.take 16).mergeSort (fun x y => decide (x ≤ y))).Pairwise fun a b => decide (a ≤ b) = true :=
      List.pairwise_mergeSort (le := fun x y : Int => decide (x ≤ y)) (by intro a b c h1 h2; simp at *; omega) (by intro a b; simp; omega) _
    have h2 : ((S.take 16).mergeSort (fun x y => decide (x ≤ y))).Nodup := (List.mergeSort_perm _ _).nodup_iff.2 (h.nodup.sublist (List.take_sublist _ _))
    refine (List.Pairwise.and h1 h2).imp ?_
    intro a b ⟨h3, h4⟩
    simp at h3
    omega
  · rw [(List.mergeSort_perm _ _).mem_iff]
    unfold upto
    rw [List.mem_filter]
    constructor
    · intro hx
      refine ⟨?_, by simpa using hx⟩
      have := (h.mem x).1 (List.mem_of_mem_take hx)
      rw [List.mem_map]
      exact ⟨(x + 128).toNat, by rw [List.mem_range]; omega, by omega⟩
    · intro hx
      simpa using hx.2
/-- Which differences are taken already. -/
def tk (S : List Int) (k : Nat) : List Bool := (List.range 256).map fun (i : Nat) => decide ((i : Int) - 128 ∈ S.take k)
theorem tk_len (S : List Int) (k : Nat) : (tk S k).length = 256 := by simp [tk]
theorem map_same {α : Type} {n : Nat} {f : Nat → α} {c : α} (h : ∀ i, f i = c) : (List.range n).map f = List.replicate n c := by
  apply List.ext_getElem
  · simp
  · intro i h1 h2
    simp [h]
theorem tk_zero (S : List Int) : tk S 0 = List.replicate 256 false := map_same fun i => by rw [List.take_zero]; exact decide_eq_false (fun h => by cases h)
theorem tk_at (S : List Int) (k : Nat) {i : Nat} (hi : i < 256) : (tk S k).getD i false = decide ((i : Int) - 128 ∈ S.take k) := by simp [tk, List.getD_eq_getElem?_getD, hi]
theorem take_more {S : List Int} {k : Nat} (hk : k < S.length) : S.take (k + 1) = S.take k ++ [S.getD k 0] := by
  rw [List.take_add_one]
  simp [List.getD_eq_getElem?_getD, hk]
theorem tk_step {S : List Int} {k b : Nat} (hk : k < S.length) (hb : (b : Int) - 128 = S.getD k 0) : tk S (k + 1) = (tk S k).set b true := by
  apply List.ext_getElem
  · simp [tk]
  · intro i h1 h2
    rw [List.getElem_set]
    by_cases h : b = i
    · subst h
      rw [if_pos rfl]
      simp [tk, take_more hk, hb]
    · rw [if_neg h]
      have : ¬ (i : Int) - 128 = S.getD k 0 := by omega
      simp [tk, take_more hk]
      rw [List.getD_eq_getElem?_getD] at this
      simp [this]
/-- The best difference that is not taken, of the first j. -/
def Bst (C : Int → Int) (S : List Int) (k j : Nat) (best : Int) : Prop :=
  (best = -1 ∧ ∀ i : Nat, i < j → (i : Int) - 128 ∈ S.take k) ∨ ∃ b : Nat, best = b ∧ b < j ∧ ¬ (b : Int) - 128 ∈ S.take k ∧ ∀ i : Nat, i < j → i ≠ b → ¬ (i : Int) - 128 ∈ S.take k → lt C ((b : Int) - 128) ((i : Int) - 128)
theorem Bst.zero (C : Int → Int) (S : List Int) (k : Nat) : Bst C S k 0 (-1) := .inl ⟨rfl, fun i hi => by omega⟩
theorem Bst.range {C : Int → Int} {S : List Int} {k j : Nat} {best : Int} (h : Bst C S k j best) : -1 ≤ best ∧ best < j := by
  rcases h with ⟨rfl, _⟩ | ⟨b, rfl, hb, _⟩ <;> omega
theorem Bst.taken {C : Int → Int} {S : List Int} {k j : Nat} {best : Int} (h : Bst C S k j best) (hj : (j : Int) - 128 ∈ S.take k) : Bst C S k (j + 1) best := by
  rcases h with ⟨rfl, h1⟩ | ⟨b, rfl, h1, h2, h3⟩
  · refine .inl ⟨rfl, fun i hi => ?_⟩
    by_cases e : i = j
    · subst e; exact hj
    · exact h1 i (by omega)
  · refine .inr ⟨b, rfl, by omega, h2, fun i hi hne hn => ?_⟩
    by_cases e : i = j
    · subst e; exact absurd hj hn
    · exact h3 i (by omega) hne hn
theorem Bst.first {C : Int → Int} {S : List Int} {k j : Nat} {best : Int} (h : Bst C S k j best) (hb : best < 0) (hj : ¬ (j : Int) - 128 ∈ S.take k) : Bst C S k (j + 1) j := by
  rcases h with ⟨rfl, h1⟩ | ⟨b, rfl, h1, h2, h3⟩
  · exact .inr ⟨j, rfl, by omega, hj, fun i hi hne hn => absurd (h1 i (by omega)) hn⟩
  · omega
theorem Bst.better {C : Int → Int} {S : List Int} {k j : Nat} {best : Int} (h : Bst C S k j best) (hb : 0 ≤ best) (hj : ¬ (j : Int) - 128 ∈ S.take k) (hl : lt C ((j : Int) - 128) (best - 128)) : Bst C S k (j + 1) j := by
  rcases h with ⟨rfl, h1⟩ | ⟨b, rfl, h1, h2, h3⟩
  · omega
  · refine .inr ⟨j, rfl, by omega, hj, fun i hi hne hn => ?_⟩
    by_cases e : i = b
    · subst e; exact hl
    · exact lt_trans hl (h3 i (by omega) e hn)
theorem Bst.keep {C : Int → Int} {S : List Int} {k j : Nat} {best : Int} (h : Bst C S k j best) (hb : 0 ≤ best) (hl : ¬ lt C ((j : Int) - 128) (best - 128)) : Bst C S k (j + 1) best := by
  rcases h with ⟨rfl, h1⟩ | ⟨b, rfl, h1, h2, h3⟩
  · omega
  · refine .inr ⟨b, rfl, by omega, h2, fun i hi hne hn => ?_⟩
    by_cases e : i = j
    · subst e
      by_cases h4 : lt C ((b : Int) - 128) ((i : Int) - 128)
      · exact h4
      · have := lt_total C h4 hl
        omega
    · exact h3 i (by omega) hne hn
theorem Bst.done {C : Int → Int} {S : List Int} {k : Nat} {best : Int} (hS : Srt C S) (hk : k < 256) (h : Bst C S k 256 best) : ∃ b : Nat, best = b ∧ b < 256 ∧ (b : Int) - 128 = S.getD k 0 := by
  have hkl : k < S.length := by rw [hS.len]; exact hk
  have hsk : S.getD k 0 ∈ S := by rw [List.getD_eq_getElem?_getD, List.getElem?_eq_getElem hkl]; exact List.getElem_mem hkl
  have hr := (hS.mem _).1 hsk
  have hsp : S = S.take k ++ (S.getD k 0 :: S.drop (k + 1)) := by
    rw [List.getD_eq_getElem?_getD, List.getElem?_eq_getElem hkl]
    simp
  have hpw := hS.pw
  rw [hsp, List.pairwise_append] at hpw
  have hnt : ¬ S.getD k 0 ∈ S.take k := fun hm => lt_irrefl C _ (hpw.2.2 _ hm _ (List.mem_cons_self ..))
  obtain ⟨n, hn⟩ : ∃ n : Nat, (n : Int) - 128 = S.getD k 0 := ⟨(S.getD k 0 + 128).toNat, by omega⟩
  rw [← hn] at hnt
  rcases h with ⟨_, h1⟩ | ⟨b, rfl, h1, h2, h3⟩
  · exact absurd (h1 n (by omega)) hnt
  · refine ⟨b, rfl, h1, ?_⟩
    by_cases e : n = b
    · rw [← e]; exact hn
    · have h4 := h3 n (by omega) e hnt
      have hbm : (b : Int) - 128 ∈ S := (hS.mem _).2 (by omega)
      rw [hsp, List.mem_append, List.mem_cons] at hbm
      rcases hbm with h5 | h5 | h5
      · exact absurd h5 h2
      · exact h5
      · have h6 := (List.pairwise_cons.1 hpw.2.1).1 _ h5
        rw [← hn] at h6
        exact absurd h4 fun h4 => lt_asymm h4 h6
theorem ct_snoc (D : List Int) (x y : Int) : ct (D ++ [x]) y = if x = y then ct D y + 1 else ct D y := by
  unfold ct
  rw [List.count_append]
  by_cases h : x = y
  · subst h
    simp
  · simp [h]
theorem ct_in (D : List Int) (x : Int) : 0 ≤ ct D x ∧ ct D x ≤ D.length := by
  unfold ct
  have := List.count_le_length (a := x) (l := D)
  omega
/-- The counts by the difference as a byte. -/
def cp (D : List Int) : List Int := (List.range 256).map fun (i : Nat) => ct D (Pk.wrp 128 i)
/-- The counts from -128 on. -/
def cr (D : List Int) : List Int := (List.range 256).map fun (i : Nat) => ct D ((i : Int) - 128)
theorem cp_len (D : List Int) : (cp D).length = 256 := by simp [cp]
theorem cr_len (D : List Int) : (cr D).length = 256 := by simp [cr]
theorem wrp_byte {x : Int} (h1 : -128 ≤ x) (h2 : x ≤ 127) : Pk.wrp 128 (x % 256) = x := by unfold Pk.wrp; omega
theorem byte_wrp {i : Nat} (h : i < 256) : (Pk.wrp 128 i) % 256 = i := by unfold Pk.wrp; omega
theorem wrp_nat (i : Nat) : -128 ≤ Pk.wrp 128 i ∧ Pk.wrp 128 i ≤ 127 := by unfold Pk.wrp; omega
theorem cp_at (D : List Int) {i : Nat} (hi : i < 256) : (cp D).getD i 0 = ct D (Pk.wrp 128 i) := by simp [cp, List.getD_eq_getElem?_getD, hi]
theorem cr_at (D : List Int) {i : Nat} (hi : i < 256) : (cr D).getD i 0 = ct D ((i : Int) - 128) := by simp [cr, List.getD_eq_getElem?_getD, hi]
theorem cp_step (D : List Int) {x : Int} {i : Nat} (hi : (i : Int) = x % 256) (h1 : -128 ≤ x) (h2 : x ≤ 127) : cp (D ++ [x]) = (cp D).set i ((cp D).getD i 0 + 1) := by
  have hi2 : i < 256 := by omega
  have hw : Pk.wrp 128 i = x := by rw [hi]; exact wrp_byte h1 h2
  rw [cp_at D hi2, hw]
  apply List.ext_getElem
  · simp [cp]
  · intro j h3 h4
    rw [List.getElem_set]
    have hj : j < 256 := by simpa [cp] using h3
    by_cases h : i = j
    · subst h
      rw [if_pos rfl]
      simp only [cp, List.getElem_map, List.getElem_range]
      rw [ct_snoc, if_pos hw.symm, hw]
    · rw [if_neg h]
      simp only [cp, List.getElem_map, List.getElem_range]
      rw [ct_snoc, if_neg]
      intro e
      have := byte_wrp hj
      omega
theorem cr_step (D : List Int) {x : Int} {i : Nat} (hi : (i : Int) = x + 128) (h2 : x ≤ 127) : cr (D ++ [x]) = (cr D).set i ((cr D).getD i 0 + 1) := by
  have hi2 : i < 256 := by omega
  have hw : (i : Int) - 128 = x := by omega
  rw [cr_at D hi2, hw]
  apply List.ext_getElem
  · simp [cr]
  · intro j h3 h4
    rw [List.getElem_set]
    by_cases h : i = j
    · subst h
      rw [if_pos rfl]
      simp only [cr, List.getElem_map, List.getElem_range]
      rw [ct_snoc, if_pos hw.symm, hw]
    · rw [if_neg h]
      simp only [cr, List.getElem_map, List.getElem_range]
      rw [ct_snoc, if_neg]
      omega
theorem cp_nil : cp [] = List.replicate 256 0 := map_same fun _ => rfl
theorem cr_nil : cr [] = List.replicate 256 0 := map_same fun _ => rfl
/-- A difference. -/
structure Dif where
  v : Int
  h : -128 ≤ v ∧ v ≤ 127
instance : Inhabited Dif := ⟨⟨0, by omega⟩⟩
theorem Dif.eq {a b : Dif} (h : a.v = b.v) : a = b := by
  cases a
  cases b
  cases h
  rfl
/-- All differences, by the byte. -/
def every : List Dif := (List.range 256).map fun (i : Nat) => (⟨Pk.wrp 128 i, wrp_nat i⟩ : Dif)
theorem every_len : every.length = 256 := by unfold every; rw [List.length_map, List.length_range]
theorem every_vals : every.map (·.v) = (List.range 256).map fun (i : Nat) => Pk.wrp 128 i := by
  unfold every
  rw [List.map_map]
  rfl
theorem every_mem (x : Dif) : x ∈ every := by
  unfold every
  rw [List.mem_map]
  have h := x.h
  refine ⟨(x.v % 256).toNat, List.mem_range.2 (by omega), Dif.eq ?_⟩
  show Pk.wrp 128 ((x.v % 256).toNat : Int) = x.v
  rw [Int.toNat_of_nonneg (by omega)]
  exact wrp_byte h.1 h.2
theorem every_nodup : every.Nodup := by
  unfold every
  rw [List.nodup_iff_pairwise_ne, List.pairwise_map]
  refine List.Pairwise.imp_of_mem ?_ List.pairwise_lt_range
  intro a b ha hb h1 e
  have e1 := byte_wrp (List.mem_range.1 ha)
  have e2 := byte_wrp (List.mem_range.1 hb)
  have e3 : Pk.wrp 128 a = Pk.wrp 128 b := congrArg Dif.v e
  rw [e3] at e1
  omega
/-- All differences in their order. -/
def all (C : Int → Int) : List Dif := every.mergeSort fun x y => !decide (cf C y.v x.v < 0)
def Sof (C : Int → Int) : List Int := (all C).map (·.v)
theorem srt (C : Int → Int) : Srt C (Sof C) where
  len := by simp [Sof, all, every_len]
  mem := fun x => by
    unfold Sof all
    rw [List.mem_map]
    constructor
    · rintro ⟨y, _, rfl⟩
      exact y.h
    · intro h
      exact ⟨⟨x, h⟩, (List.mergeSort_perm _ _).mem_iff.2 (every_mem _), rfl⟩
  pw := by
    unfold Sof
    rw [List.pairwise_map]
    have h1 : (all C).Pairwise fun a b => (!decide (cf C b.v a.v < 0)) = true :=
      List.pairwise_mergeSort (le := fun x y : Dif => !decide (cf C y.v x.v < 0)) (by
        intro a b c h1 h2
        simp only [Bool.not_eq_true', decide_eq_false_iff_not, cf_lt] at *
        intro h3
        by_cases h4 : lt C a.v b.v
        · exact h2 (lt_trans h3 h4)
        · have := lt_total C h4 h1
          rw [this] at h3
          exact h2 h3) (by
        intro a b
        simp only [Bool.or_eq_true, Bool.not_eq_true', decide_eq_false_iff_not, cf_lt]
        by_cases h4 : lt C a.v b.v
        · exact .inl fun h => lt_asymm h4 h
        · exact .inr h4) _
    have h2 : (all C).Nodup := (List.mergeSort_perm _ _).nodup_iff.2 every_nodup
    refine (List.Pairwise.and h1 h2).imp ?_
    intro a b ⟨h3, h4⟩
    simp only [Bool.not_eq_true', decide_eq_false_iff_not, cf_lt] at h3
    by_cases h5 : lt C a.v b.v
    · exact h5
    · exact absurd (Dif.eq (lt_total C h5 h3)) h4
end Tb
end Go.Proofs.Ytfljgdehbogimaa
