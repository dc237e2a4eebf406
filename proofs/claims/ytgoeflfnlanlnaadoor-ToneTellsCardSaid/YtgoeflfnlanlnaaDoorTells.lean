/-
  The walk of the law ToneTells: for any numbers it returns true, in a world whose variables letters and quarter hold what the program lays; nothing that was there is changed.
-/
import Derived.Test.YtgoeflfnlanlnaaDoorNames
import Derived.Test.YtgoeflfnlanlnaaDoorWalkC
import Derived.Test.YtgoeflfnlanlnaaDoorRefWave
import Derived.Deep.RegionHeld3
import Derived.Deep.DeepCutAuto
namespace Go.Proofs.YtgoeflfnlanlnaaDoor
open Go.RowKit

section
variable {W w : World}
theorem g_t_next (s : Int) (hg : Good W w) :
    Calls Tryd.prog 8 #[.int .i64 s] w fun e w' => e = .returned (.int .i64 (Tm.tNext s)) ∧ Good W w' :=
  (t_next s w).mono fun _ _ ⟨he, hw⟩ => ⟨he, hw ▸ hg⟩
theorem g_r_next (s : Int) (hg : Good W w) :
    Calls Tryd.prog 9 #[.int .i64 s] w fun e w' => e = .returned (.int .i64 (Tm.tNext s)) ∧ Good W w' :=
  (r_next s w).mono fun _ _ ⟨he, hw⟩ => ⟨he, hw ▸ hg⟩
theorem g_t_pow (i : Int) (hg : Good W w) :
    Calls Tryd.prog 10 #[.int .i64 i] w fun e w' => e = .returned (.int .i64 (Tm.tPow i)) ∧ Good W w' :=
  (t_pow i w).mono fun _ _ ⟨he, hw⟩ => ⟨he, hw ▸ hg⟩
theorem g_r_pow (i : Int) (hg : Good W w) :
    Calls Tryd.prog 11 #[.int .i64 i] w fun e w' => e = .returned (.int .i64 (Tm.tPow i)) ∧ Good W w' :=
  (r_pow i w).mono fun _ _ ⟨he, hw⟩ => ⟨he, hg.step hw⟩
theorem g_t_exp (v : Int) (hg : Good W w) :
    Calls Tryd.prog 12 #[.int .i64 v] w fun e w' => e = .returned (.int .i64 (Tm.tExp v)) ∧ Good W w' :=
  (t_exp v w).mono fun _ _ ⟨he, hw⟩ => ⟨he, hw ▸ hg⟩
theorem g_r_exp (v : Int) (hg : Good W w) :
    Calls Tryd.prog 13 #[.int .i64 v] w fun e w' => e = .returned (.int .i64 (Tm.tExp v)) ∧ Good W w' :=
  (r_exp v w).mono fun _ _ ⟨he, hw⟩ => ⟨he, hg.step hw⟩
theorem g_t_freq (r p : Int) (hg : Good W w) :
    Calls Tryd.prog 14 #[.int .i64 r, .int .i64 p] w fun e w' => e = .returned (.int .i64 (Tm.tFreq r p)) ∧ Good W w' :=
  (t_freq r p w).mono fun _ _ ⟨he, hw⟩ => ⟨he, hw ▸ hg⟩
theorem g_r_freq (r p : Int) (hg : Good W w) :
    Calls Tryd.prog 15 #[.int .i64 r, .int .i64 p] w fun e w' => e = .returned (.int .i64 (Tm.tFreq r p)) ∧ Good W w' :=
  (r_freq r p w).mono fun _ _ ⟨he, hw⟩ => ⟨he, hg.step hw⟩
theorem g_t_period (p : Int) (hg : Good W w) :
    Calls Tryd.prog 16 #[.int .i64 p] w fun e w' => e = .returned (.int .i64 (Tm.tPer p)) ∧ Good W w' :=
  (t_period p w).mono fun _ _ ⟨he, hw⟩ => ⟨he, hw ▸ hg⟩
theorem g_r_period (p : Int) (hg : Good W w) :
    Calls Tryd.prog 17 #[.int .i64 p] w fun e w' => e = .returned (.int .i64 (Tm.tPer p)) ∧ Good W w' :=
  (r_period p w).mono fun _ _ ⟨he, hw⟩ => ⟨he, hg.step hw⟩
theorem g_t_pitchOf (n : Int) (hg : Good W w) :
    Calls Tryd.prog 18 #[.int .i64 n] w fun e w' => e = .returned (.int .i64 (Tm.tPit n)) ∧ Good W w' :=
  (t_pitchOf n w).mono fun _ _ ⟨he, hw⟩ => ⟨he, hw ▸ hg⟩
theorem g_r_pitchOf (n : Int) (hg : Good W w) :
    Calls Tryd.prog 19 #[.int .i64 n] w fun e w' => e = .returned (.int .i64 (Tm.tPit n)) ∧ Good W w' :=
  (r_pitchOf n w).mono fun _ _ ⟨he, hw⟩ => ⟨he, hg.step hw⟩
theorem g_t_freqOf (r n : Int) (hg : Good W w) :
    Calls Tryd.prog 20 #[.int .i64 r, .int .i64 n] w fun e w' => e = .returned (.int .i64 (Tm.tFrOf r n)) ∧ Good W w' :=
  (t_freqOf r n w).mono fun _ _ ⟨he, hw⟩ => ⟨he, hw ▸ hg⟩
theorem g_r_freqOf (r n : Int) (hg : Good W w) :
    Calls Tryd.prog 21 #[.int .i64 r, .int .i64 n] w fun e w' => e = .returned (.int .i64 (Tm.tFrOf r n)) ∧ Good W w' :=
  (r_freqOf r n w).mono fun _ _ ⟨he, hw⟩ => ⟨he, hw ▸ hg⟩
theorem g_t_step (q o : Int) (hg : Good W w) :
    Calls Tryd.prog 22 #[.int .i64 q, .int .i64 o] w fun e w' => e = .returned (.int .i64 (Tm.tStep q o)) ∧ Good W w' :=
  (t_step q o w).mono fun _ _ ⟨he, hw⟩ => ⟨he, hw ▸ hg⟩
theorem g_r_step (q o : Int) (hg : Good W w) :
    Calls Tryd.prog 23 #[.int .i64 q, .int .i64 o] w fun e w' => e = .returned (.int .i64 (Tm.tStep q o)) ∧ Good W w' :=
  (r_step q o w).mono fun _ _ ⟨he, hw⟩ => ⟨he, hw ▸ hg⟩
theorem g_t_semi (p : Int) (hg : Good W w) :
    Calls Tryd.prog 24 #[.int .i64 p] w fun e w' => e = .returned (.int .i64 (Tm.tSemi p)) ∧ Good W w' :=
  (t_semi p w).mono fun _ _ ⟨he, hw⟩ => ⟨he, hw ▸ hg⟩
theorem g_r_semi (p : Int) (hg : Good W w) :
    Calls Tryd.prog 25 #[.int .i64 p] w fun e w' => e = .returned (.int .i64 (Tm.tSemi p)) ∧ Good W w' :=
  (r_semi p w).mono fun _ _ ⟨he, hw⟩ => ⟨he, hw ▸ hg⟩
theorem g_t_wave (k p s : Int) (hg : Good W w) :
    Calls Tryd.prog 26 #[.int .i64 k, .int .i64 p, .int .i64 s] w fun e w' => e = .returned (.int .i64 (Tm.wv k p s)) ∧ Good W w' :=
  (wave_any k p s w hg.quas).mono fun _ _ ⟨he, hw⟩ => ⟨he, hw ▸ hg⟩
theorem g_r_wave (k p s : Int) (hg : Good W w) (p1 : -9223372036854775808 ≤ p) (p2 : p ≤ 9223372036854775807) :
    Calls Tryd.prog 27 #[.int .i64 k, .int .i64 p, .int .i64 s] w fun e w' => e = .returned (.int .i64 (Tm.wv k p s)) ∧ Good W w' :=
  (r_wave k p s w p1 p2).mono fun _ _ ⟨he, hw⟩ => ⟨he, hg.step hw⟩
end

/-- The ten numbers, as the law's own block holds them. -/
def Held (w' : World) (b : Nat) (s i v r p n q o k m : Int) : Prop := w'.cell? ⟨b, 0, none⟩ = some (.int .i64 s) ∧ w'.cell? ⟨b, 1, none⟩ = some (.int .i64 i) ∧ w'.cell? ⟨b, 2, none⟩ = some (.int .i64 v) ∧ w'.cell? ⟨b, 3, none⟩ = some (.int .i64 r) ∧ w'.cell? ⟨b, 4, none⟩ = some (.int .i64 p) ∧ w'.cell? ⟨b, 5, none⟩ = some (.int .i64 n) ∧ w'.cell? ⟨b, 6, none⟩ = some (.int .i64 q) ∧ w'.cell? ⟨b, 7, none⟩ = some (.int .i64 o) ∧ w'.cell? ⟨b, 8, none⟩ = some (.int .i64 k) ∧ w'.cell? ⟨b, 9, none⟩ = some (.int .i64 m)
theorem held {W w' : World} {b : Nat} {s i v r p n q o k m : Int} (hb : b < W.heap.size) (hc : Hid (Held W b s i v r p n q o k m)) (hg : Good W w') : Good W w' ∧ w'.cell? ⟨b, 0, none⟩ = some (.int .i64 s) ∧ w'.cell? ⟨b, 1, none⟩ = some (.int .i64 i) ∧ w'.cell? ⟨b, 2, none⟩ = some (.int .i64 v) ∧ w'.cell? ⟨b, 3, none⟩ = some (.int .i64 r) ∧ w'.cell? ⟨b, 4, none⟩ = some (.int .i64 p) ∧ w'.cell? ⟨b, 5, none⟩ = some (.int .i64 n) ∧ w'.cell? ⟨b, 6, none⟩ = some (.int .i64 q) ∧ w'.cell? ⟨b, 7, none⟩ = some (.int .i64 o) ∧ w'.cell? ⟨b, 8, none⟩ = some (.int .i64 k) ∧ w'.cell? ⟨b, 9, none⟩ = some (.int .i64 m) := by
  have h : ∀ j, w'.cell? ⟨b, j, none⟩ = W.cell? ⟨b, j, none⟩ := fun j => hg.below.cell hb
  simp only [h]
  exact ⟨hg, hc.out⟩

set_option maxHeartbeats 3200000 in
set_option maxRecDepth 100000 in
theorem tells_any (s i v r p n q o k m : Int) (w : World) (hl : LettersAre w) (hq : QuarterIs w) (m1 : -9223372036854775808 ≤ m) (m2 : m ≤ 9223372036854775807) :
    Calls Tryd.prog 3 #[.agg #[.int .i64 s, .int .i64 i, .int .i64 v, .int .i64 r, .int .i64 p, .int .i64 n, .int .i64 q, .int .i64 o, .int .i64 k, .int .i64 m]] w fun e w' => e = .returned (.bool true) ∧ Below w.heap.size w w' := by
  obtain ⟨W, hW⟩ : ∃ W, W = w.alloc (.cells #[.int .i64 s, .int .i64 i, .int .i64 v, .int .i64 r, .int .i64 p, .int .i64 n, .int .i64 q, .int .i64 o, .int .i64 k, .int .i64 m] 23) := ⟨_, rfl⟩
  have hWb : Below w.heap.size w W := by rw [hW]; exact (Below.refl _ _).alloc (Nat.le_refl _) _
  have hg : Good W W := Good.start (lets_below hl hWb) (quas_below hq hWb)
  obtain ⟨b, hbe⟩ : ∃ b, b = w.heap.size := ⟨_, rfl⟩
  have hb : b < W.heap.size := by rw [hW, hbe]; simp
  have hc : Hid (Held W b s i v r p n q o k m) := by rw [hW, hbe]; refine ⟨?_, ?_, ?_, ?_, ?_, ?_, ?_, ?_, ?_, ?_⟩ <;> simp [World.cell?_alloc_new]
  have hgd : Good W W.drew := ⟨hg.below.drew, hg.lets, hg.quas⟩
  have HWb := Lib.hid hWb
  clear hWb
  go_enter Tryd.func3, Tryd.ntmps3
  go_upto_region 1 with fail
  rw [← hW, ← hbe]
  have HW := Lib.hid hW
  have HB := Lib.hid hbe
  clear hW hbe
  go_cut [27] (fun s27 wx => s27 = .bool false ∧ Good W wx)
  case first =>
    go_region_held3 (fun w' => Good W w' ∧ w'.cell? ⟨b, 0, none⟩ = some (.int .i64 s) ∧ w'.cell? ⟨b, 1, none⟩ = some (.int .i64 i) ∧ w'.cell? ⟨b, 2, none⟩ = some (.int .i64 v) ∧ w'.cell? ⟨b, 3, none⟩ = some (.int .i64 r) ∧ w'.cell? ⟨b, 4, none⟩ = some (.int .i64 p) ∧ w'.cell? ⟨b, 5, none⟩ = some (.int .i64 n) ∧ w'.cell? ⟨b, 6, none⟩ = some (.int .i64 q) ∧ w'.cell? ⟨b, 7, none⟩ = some (.int .i64 o) ∧ w'.cell? ⟨b, 8, none⟩ = some (.int .i64 k) ∧ w'.cell? ⟨b, 9, none⟩ = some (.int .i64 m))
      (first | exact held hb hc (by assumption))
      (first | (go_at_call 8; ((with_reducible refine (g_t_next _ (by assumption)).mono ?_); rintro e w' ⟨rfl, hg'⟩)) | (go_at_call 9; ((with_reducible refine (g_r_next _ (by assumption)).mono ?_); rintro e w' ⟨rfl, hg'⟩)) | (go_at_call 10; ((with_reducible refine (g_t_pow _ (by assumption)).mono ?_); rintro e w' ⟨rfl, hg'⟩)) | (go_at_call 11; ((with_reducible refine (g_r_pow _ (by assumption)).mono ?_); rintro e w' ⟨rfl, hg'⟩)) | (go_at_call 12; ((with_reducible refine (g_t_exp _ (by assumption)).mono ?_); rintro e w' ⟨rfl, hg'⟩)) | (go_at_call 13; ((with_reducible refine (g_r_exp _ (by assumption)).mono ?_); rintro e w' ⟨rfl, hg'⟩)))
    go_wp2_with fail
    go_meet
    exact ⟨rfl, by assumption⟩
  case rest =>
  obtain ⟨rfl, hg1⟩ := hcut
  have hgd1 : Good W wc.drew := ⟨hg1.below.drew, hg1.lets, hg1.quas⟩
  clear hg hgd
  go_upto_region 3 with fail
  go_cut [69] (fun s69 wx => s69 = .bool false ∧ Good W wx)
  case first =>
    go_region_held3 (fun w' => Good W w' ∧ w'.cell? ⟨b, 0, none⟩ = some (.int .i64 s) ∧ w'.cell? ⟨b, 1, none⟩ = some (.int .i64 i) ∧ w'.cell? ⟨b, 2, none⟩ = some (.int .i64 v) ∧ w'.cell? ⟨b, 3, none⟩ = some (.int .i64 r) ∧ w'.cell? ⟨b, 4, none⟩ = some (.int .i64 p) ∧ w'.cell? ⟨b, 5, none⟩ = some (.int .i64 n) ∧ w'.cell? ⟨b, 6, none⟩ = some (.int .i64 q) ∧ w'.cell? ⟨b, 7, none⟩ = some (.int .i64 o) ∧ w'.cell? ⟨b, 8, none⟩ = some (.int .i64 k) ∧ w'.cell? ⟨b, 9, none⟩ = some (.int .i64 m))
      (first | exact held hb hc (by assumption))
      (first | (go_at_call 14; ((with_reducible refine (g_t_freq _ _ (by assumption)).mono ?_); rintro e w' ⟨rfl, hg'⟩)) | (go_at_call 15; ((with_reducible refine (g_r_freq _ _ (by assumption)).mono ?_); rintro e w' ⟨rfl, hg'⟩)) | (go_at_call 16; ((with_reducible refine (g_t_period _ (by assumption)).mono ?_); rintro e w' ⟨rfl, hg'⟩)) | (go_at_call 17; ((with_reducible refine (g_r_period _ (by assumption)).mono ?_); rintro e w' ⟨rfl, hg'⟩)) | (go_at_call 18; ((with_reducible refine (g_t_pitchOf _ (by assumption)).mono ?_); rintro e w' ⟨rfl, hg'⟩)) | (go_at_call 19; ((with_reducible refine (g_r_pitchOf _ (by assumption)).mono ?_); rintro e w' ⟨rfl, hg'⟩)) | (go_at_call 20; ((with_reducible refine (g_t_freqOf _ _ (by assumption)).mono ?_); rintro e w' ⟨rfl, hg'⟩)) | (go_at_call 21; ((with_reducible refine (g_r_freqOf _ _ (by assumption)).mono ?_); rintro e w' ⟨rfl, hg'⟩)))
    go_wp2_with fail
    go_meet
    exact ⟨rfl, by assumption⟩
  case rest =>
  obtain ⟨rfl, hg2⟩ := hcut
  clear hg1 hgd1
  have hgd2 : Good W wc.drew := ⟨hg2.below.drew, hg2.lets, hg2.quas⟩
  go_upto_region 5 with fail
  go_region_held3 (fun w' => Good W w' ∧ w'.cell? ⟨b, 0, none⟩ = some (.int .i64 s) ∧ w'.cell? ⟨b, 1, none⟩ = some (.int .i64 i) ∧ w'.cell? ⟨b, 2, none⟩ = some (.int .i64 v) ∧ w'.cell? ⟨b, 3, none⟩ = some (.int .i64 r) ∧ w'.cell? ⟨b, 4, none⟩ = some (.int .i64 p) ∧ w'.cell? ⟨b, 5, none⟩ = some (.int .i64 n) ∧ w'.cell? ⟨b, 6, none⟩ = some (.int .i64 q) ∧ w'.cell? ⟨b, 7, none⟩ = some (.int .i64 o) ∧ w'.cell? ⟨b, 8, none⟩ = some (.int .i64 k) ∧ w'.cell? ⟨b, 9, none⟩ = some (.int .i64 m))
    (first | exact held hb hc (by assumption))
    (first | (go_at_call 22; ((with_reducible refine (g_t_step _ _ (by assumption)).mono ?_); rintro e w' ⟨rfl, hg'⟩)) | (go_at_call 23; ((with_reducible refine (g_r_step _ _ (by assumption)).mono ?_); rintro e w' ⟨rfl, hg'⟩)) | (go_at_call 24; ((with_reducible refine (g_t_semi _ (by assumption)).mono ?_); rintro e w' ⟨rfl, hg'⟩)) | (go_at_call 25; ((with_reducible refine (g_r_semi _ (by assumption)).mono ?_); rintro e w' ⟨rfl, hg'⟩)) | (go_at_call 26; ((with_reducible refine (g_t_wave _ _ _ (by assumption)).mono ?_); rintro e w' ⟨rfl, hg'⟩)) | (go_at_call 27; ((with_reducible refine (g_r_wave _ _ _ (by assumption) m1 m2).mono ?_); rintro e w' ⟨rfl, hg'⟩)) | (go_at_call 28; ((with_reducible refine (g_awake (by assumption)).mono ?_); rintro e w' ⟨rfl, hg'⟩)))
  go_wp2_with fail
  go_ret
  exact ⟨rfl, HWb.out.trans ((by assumption : Good W _).below.mono HWb.out.size)⟩
end Go.Proofs.YtgoeflfnlanlnaaDoor
