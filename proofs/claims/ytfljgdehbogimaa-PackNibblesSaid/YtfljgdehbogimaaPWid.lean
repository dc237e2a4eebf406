/-
  Contracts of package pack's width and bitWriter; what a block is, in mathematics.
-/
import Derived.Test.YtfljgdehbogimaaPMk2
import Derived.Test.YtfljgdehbogimaaPkB
import Derived.Deep.AppendLies
namespace Go.Proofs.Ytfljgdehbogimaa
open Go.RowKit

/-- The least width from w on, at most f further. -/
def widF (l : List Int) : Nat → Nat → Nat
  | 0, w => w
  | f + 1, w => if alw l (w : Int) = true then w else widF l f (w + 1)
/-- The width of a block. -/
def wid (l : List Int) : Nat := widF l 15 1
theorem widF_lo (l : List Int) : ∀ f w, w ≤ widF l f w
  | 0, w => Nat.le_refl _
  | f + 1, w => by
    unfold widF
    split
    · exact Nat.le_refl _
    · exact Nat.le_trans (Nat.le_succ _) (widF_lo l f (w + 1))
theorem widF_hi (l : List Int) : ∀ f w, widF l f w ≤ w + f
  | 0, w => Nat.le_refl _
  | f + 1, w => by
    unfold widF
    split
    · omega
    · have := widF_hi l f (w + 1); omega
theorem widF_all {l : List Int} : ∀ f w, alw l ((w + f : Nat) : Int) = true → alw l ((widF l f w : Nat) : Int) = true
  | 0, w, h => h
  | f + 1, w, h => by
    unfold widF
    split
    · assumption
    · exact widF_all f (w + 1) (by rwa [Nat.add_right_comm, Nat.add_assoc])
theorem widF_min {l : List Int} : ∀ f w u, w ≤ u → u < widF l f w → alw l (u : Int) = false
  | 0, w, u, h1, h2 => by simp [widF] at h2; omega
  | f + 1, w, u, h1, h2 => by
    unfold widF at h2
    by_cases h : alw l (w : Int) = true
    · rw [if_pos h] at h2; omega
    · rw [if_neg h] at h2
      by_cases e : w = u
      · subst e; simpa using h
      · exact widF_min f (w + 1) u (by omega) h2
theorem wid_lo (l : List Int) : 1 ≤ wid l := widF_lo l 15 1
theorem wid_hi (l : List Int) : wid l ≤ 16 := widF_hi l 15 1
theorem wid_all {l : List Int} (h : alw l 16 = true) : alw l (wid l : Int) = true := widF_all 15 1 h
theorem wid_min {l : List Int} {u : Nat} (h1 : 1 ≤ u) (h2 : u < wid l) : alw l (u : Int) = false := widF_min 15 1 u h1 h2
/-- It is told by its two sides. -/
theorem wid_of {l : List Int} {w : Nat} (h1 : 1 ≤ w) (h2 : w ≤ 16) (ha : alw l (w : Int) = true) (hm : ∀ u, 1 ≤ u → u < w → alw l (u : Int) = false) : wid l = w := by
  rcases Nat.lt_trichotomy (wid l) w with h | h | h
  · have := hm (wid l) (wid_lo l) h
    have hx := widF_all (l := l) 15 1
    by_cases e : alw l 16 = true
    · rw [wid_all e] at this; cases this
    · have h16 : w ≠ 16 := fun e2 => by subst e2; exact e ha
      have : alw l ((wid l : Nat) : Int) = false := this
      exfalso
      unfold wid at h this
      have key : ∀ f v, v ≤ w → w ≤ v + f → widF l f v = w ∨ (∃ u, v ≤ u ∧ u < w ∧ alw l (u : Int) = true) := by
        intro f
        induction f with
        | zero => intro v hv1 hv2; exact .inl (by simp [widF]; omega)
        | succ f ih =>
          intro v hv1 hv2
          by_cases hvw : v = w
          · subst hvw; left; unfold widF; rw [if_pos ha]
          · by_cases hv : alw l (v : Int) = true
            · exact .inr ⟨v, Nat.le_refl _, by omega, hv⟩
            · rcases ih (v + 1) (by omega) (by omega) with h3 | ⟨u, h3, h4, h5⟩
              · left; unfold widF; rw [if_neg hv]; exact h3
              · exact .inr ⟨u, by omega, h4, h5⟩
      rcases key 15 1 h1 (by omega) with h3 | ⟨u, h3, h4, h5⟩
      · omega
      · rw [hm u h3 h4] at h5; cases h5
  · exact h
  · rw [wid_min h1 h] at ha; cases ha
/-- A block: its width and its values' bits. -/
def blk (l : List Int) : List Int := (wid l : Int) :: Pk.pby (Pk.bitsOf l (wid l)) (l.length * wid l)
/-- Block i of a list. -/
def part (l : List Int) (i : Nat) : List Int := (l.drop (256 * i)).take 256
/-- All blocks. -/
def blks (l : List Int) : List Int := (List.range ((l.length + 255) / 256)).flatMap fun i => blk (part l i)
set_option maxHeartbeats 800000 in
theorem p_width (l : List Int) (p : Option Addr) (cap : Nat) (w : World) (hd : DatAt w p l) (hl : (l.length : Int) ≤ 1152921504606846976) (ha : alw l 16 = true) :
    Calls Try.prog 58 #[.slice p l.length cap] w fun e w' => e = .returned (.int .i64 (wid l)) ∧ w = w' := by
  have HA := Lib.hid (fun (u : Nat) (h1 : 1 ≤ u) (h2 : u ≤ 16) => p_allWithin l p cap u w hd hl (by omega) (by omega))
  have HW := Lib.hid (show widF l 15 1 = wid l from rfl)
  have H16 := Lib.hid ha
  clear hd hl ha
  go_enter Try.func58, Try.ntmps58
  go_wp2
  go_loopw [3] (fun i wr => ∃ u : Nat, 1 ≤ u ∧ u ≤ 16 ∧ i = .int .i64 u ∧ wr = w ∧ Hid (widF l (16 - u) u = wid l)) (fun i _ => 16 - (intOf i).toNat)
  case atStart => exact ⟨1, by omega, by omega, rfl, rfl, HW.out⟩
  case round =>
    obtain ⟨u, h1, h2, rfl, rfl, HF⟩ := hrel
    have C := Lib.hid (HA.out u h1 h2)
    cases hx : alw l (u : Int) with
    | true =>
      rw [hx] at C
      have HE := Lib.hid (show wid l = u by
        rw [← HF.out]
        cases e : 16 - u with
        | zero => rfl
        | succ f => unfold widF; rw [if_pos hx])
      clear hx
      go_wp2_with (first | (go_at_call 52; ((with_reducible refine C.out.mono ?_); rintro x' w' ⟨rfl, rfl⟩)))
      go_ret
      exact ⟨ret_int (by rw [HE.out]), rfl⟩
    | false =>
      rw [hx] at C
      have hu : u < 16 := by
        rcases Nat.lt_or_ge u 16 with h | h
        · exact h
        · have : u = 16 := by omega
          subst this
          have h5 : alw l 16 = false := hx
          rw [H16.out] at h5
          cases h5
      have HF2 := Lib.hid (show widF l (16 - (u + 1)) (u + 1) = wid l by
        rw [← HF.out, show 16 - u = (16 - (u + 1)) + 1 by omega]
        conv => rhs; unfold widF
        rw [if_neg (by simp [hx])])
      clear hx
      go_wp2_with (first | (go_at_call 52; ((with_reducible refine C.out.mono ?_); rintro x' w' ⟨rfl, rfl⟩)))
      go_roundw
      case rel => exact ⟨u + 1, by omega, by omega, by go_num, trivial, HF2.out⟩
      case measure => simp [intOf]; omega
theorem p_bitWriter (o : Nat) (w : World) (s : Nat) (hs : w.heap.size = s) :
    Calls Try.prog 59 #[.pointer (some ⟨o, 0, none⟩)] w fun e w' => e = .returned (.func (.func 68) #[] #[.pointer (some ⟨s + 1, 0, none⟩), .pointer (some ⟨s, 0, none⟩)]) ∧ Made2 w w' s (.pointer (some ⟨o, 0, none⟩)) (.int .i64 0) 77 3 := by
  have HM := Lib.hid (made2_of w s hs (.pointer (some ⟨o, 0, none⟩)) (.int .i64 0) 77 3)
  subst hs
  go_enter Try.func59, Try.ntmps59
  go_wp2
  go_ret
  exact ⟨rfl, HM.out⟩
end Go.Proofs.Ytfljgdehbogimaa
