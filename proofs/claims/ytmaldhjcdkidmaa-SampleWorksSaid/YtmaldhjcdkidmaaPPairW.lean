/-
  What the project's and the reference's changes of a sample return alike: Reverse, Crop, Amplify, Convert.
-/
import Derived.Test.YtmaldhjcdkidmaaRefRev
import Derived.Test.YtmaldhjcdkidmaaRefCrp
import Derived.Test.YtmaldhjcdkidmaaRefCvt
import Derived.Test.YtmaldhjcdkidmaaPAmpl
namespace Go.Proofs.Ytmaldhjcdkidmaa
open Go.RowKit

/-- A call has returned this sample and this error; its frames lie in memory of their own, made since the block B, where it has any. -/
def RetWP (r : Sm.Smp) (er : Int) (B : Nat) (e : Ending) (w' : World) : Prop := ∃ pa, e = .returned (.tuple #[SV r pa r.dat.length, .int .i64 er]) ∧ (r.dat = [] ∨ ∃ ga, pa = some ⟨ga, 0, none⟩ ∧ OwnS w' B ga r.dat)
def RetWR (r : Sm.Smp) (er : Int) (B : Nat) (e : Ending) (w' : World) : Prop := ∃ pb cb, e = .returned (.tuple #[SV r pb cb, .int .i64 er]) ∧ (r.dat = [] ∨ ∃ gb, pb = some ⟨gb, 0, none⟩ ∧ DatAt w' (some ⟨gb, 0, none⟩) r.dat ∧ B ≤ gb)
theorem wp_ok {r : Sm.Smp} {B : Nat} {e : Ending} {w' : World} (h : RetS r B e w') : RetWP r 0 B e w' := by
  obtain ⟨g, he, ho⟩ := h
  exact ⟨_, he, .inr ⟨g, rfl, ho⟩⟩
theorem wp_bad {er : Int} {B : Nat} {e : Ending} {w' : World} (h : e = .returned (.tuple #[SV zer none 0, .int .i64 er])) : RetWP zer er B e w' := ⟨none, h, .inl rfl⟩
theorem wr_ok {r : Sm.Smp} {B : Nat} {e : Ending} {w' : World} (h : RetR r B e w') : RetWR r 0 B e w' := by
  obtain ⟨g, c, he, hd, hb⟩ := h
  exact ⟨_, c, he, .inr ⟨g, rfl, hd, hb⟩⟩
theorem wr_bad {er : Int} {B : Nat} {e : Ending} {w' : World} (h : e = .returned (.tuple #[SV zer none 0, .int .i64 er])) : RetWR zer er B e w' := ⟨none, 0, h, .inl rfl⟩
theorem amp_len (s : Sm.Smp) (a b : Int) : (Sm.amp s a b).dat.length = s.dat.length := by simp [Sm.amp, Sm.mpp]
theorem pairw_reverse (s : Sm.Smp) (hm : s.name.size ≤ maxLen)  :
    ∃ r er, (er = 0 → Sm.vld r = true) ∧ (r.dat.length : Int) ≤ 4096 ∧ r.name.size ≤ maxLen ∧ (∀ (p : Option Addr) (cap : Nat) (w : World), DatAt w p s.dat → s.dat.length ≤ cap → Calls Try.prog 26 #[SV s p cap] w fun x w' => RetWP r er w.heap.size x w' ∧ Below w.heap.size w w') ∧
      ∀ (p : Option Addr) (cap : Nat) (w : World), DatAt w p s.dat → s.dat.length ≤ cap → (p = none → cap = 0) → Calls Try.prog 27 #[SV s p cap] w fun x w' => RetWR r er w.heap.size x w' ∧ Below w.heap.size w w' := by
  cases hv : Sm.vld s
  · exact ⟨zer, 1, (fun h => by omega), (by simp [zer]), (by simp [zer]), fun p cap w hd _ => (p_reverse_bad s p cap w hm hd hv).mono fun _ _ ⟨h1, h2⟩ => ⟨wp_bad h1, h2⟩, fun p cap w hd _ hnil => (r_reverse_bad s p cap  w hm hd hv).mono fun _ _ ⟨h1, h2⟩ => ⟨wr_bad h1, h2⟩⟩
  · exact ⟨Sm.rev s, 0, (fun _ => Sm.vld_rev hv), (by simpa [Sm.rev, Sm.prv, Sm.wth] using vld_len hv), hm, fun p cap w hd hcap => (p_reverse_ok s p cap w hm hd hv).mono fun _ _ ⟨h1, h2⟩ => ⟨wp_ok h1, h2⟩, fun p cap w hd hcap hnil => (r_reverse_ok s p cap w hm hd hv).mono fun _ _ ⟨h1, h2⟩ => ⟨wr_ok h1, h2⟩⟩
theorem pairw_crop (s : Sm.Smp) (hm : s.name.size ≤ maxLen) (f t : Int) :
    ∃ r er, (er = 0 → Sm.vld r = true) ∧ (r.dat.length : Int) ≤ 4096 ∧ r.name.size ≤ maxLen ∧ (∀ (p : Option Addr) (cap : Nat) (w : World), DatAt w p s.dat → s.dat.length ≤ cap → Calls Try.prog 28 #[SV s p cap, .int .i64 f, .int .i64 t] w fun x w' => RetWP r er w.heap.size x w' ∧ Below w.heap.size w w') ∧
      ∀ (p : Option Addr) (cap : Nat) (w : World), DatAt w p s.dat → s.dat.length ≤ cap → (p = none → cap = 0) → Calls Try.prog 29 #[SV s p cap, .int .i64 f, .int .i64 t] w fun x w' => RetWR r er w.heap.size x w' ∧ Below w.heap.size w w' := by
  cases hv : Sm.vld s
  · exact ⟨zer, 1, (fun h => by omega), (by simp [zer]), (by simp [zer]), fun p cap w hd _ => (p_crop_bad s p cap f t w hm hd hv).mono fun _ _ ⟨h1, h2⟩ => ⟨wp_bad h1, h2⟩, fun p cap w hd _ hnil => (r_crop_bad s p cap f t w hm hd hv).mono fun _ _ ⟨h1, h2⟩ => ⟨wr_bad h1, h2⟩⟩
  · by_cases h1 : f < 0
    · exact ⟨zer, 5, (fun h => by omega), (by simp [zer]), (by simp [zer]), fun p cap w hd _ => (p_crop_r1 s p cap f t w hm hd hv h1).mono fun _ _ ⟨h1, h2⟩ => ⟨wp_bad h1, h2⟩, fun p cap w hd _ hnil => (r_crop_r1 s p cap f t w hm hd hv h1).mono fun _ _ ⟨h1, h2⟩ => ⟨wr_bad h1, h2⟩⟩
    · by_cases h2 : t < f
      · exact ⟨zer, 5, (fun h => by omega), (by simp [zer]), (by simp [zer]), fun p cap w hd _ => (p_crop_r2 s p cap f t w hm hd hv h1 h2).mono fun _ _ ⟨h1, h2⟩ => ⟨wp_bad h1, h2⟩, fun p cap w hd _ hnil => (r_crop_r2 s p cap f t w hm hd hv h1 h2).mono fun _ _ ⟨h1, h2⟩ => ⟨wr_bad h1, h2⟩⟩
      · by_cases h3 : (s.dat.length : Int) < t
        · exact ⟨zer, 5, (fun h => by omega), (by simp [zer]), (by simp [zer]), fun p cap w hd _ => (p_crop_r3 s p cap f t w hm hd hv h1 h2 h3).mono fun _ _ ⟨h1, h2⟩ => ⟨wp_bad h1, h2⟩, fun p cap w hd _ hnil => (r_crop_r3 s p cap f t w hm hd hv h1 h2 h3).mono fun _ _ ⟨h1, h2⟩ => ⟨wr_bad h1, h2⟩⟩
        · exact ⟨Sm.crp s f t, 0, (fun _ => Sm.vld_crp hv (by omega) (by omega) (by omega)), (show (((s.dat.drop f.toNat).take (t - f).toNat).length : Int) ≤ 4096 by have := vld_len hv; rw [Sm.crp_len (by omega) (by omega) (by omega)]; omega), hm, fun p cap w hd hcap => (p_crop_ok s p cap f t w hm hd hv hcap (by omega) (by omega) (by omega)).mono fun _ _ ⟨h1, h2⟩ => ⟨wp_ok h1, h2⟩, fun p cap w hd hcap hnil => (r_crop_ok s p cap f t w hm hd hv hcap hnil (by omega) (by omega) (by omega)).mono fun _ _ ⟨h1, h2⟩ => ⟨wr_ok h1, h2⟩⟩
theorem pairw_amplify (s : Sm.Smp) (hm : s.name.size ≤ maxLen) (num den : Int) :
    ∃ r er, (er = 0 → Sm.vld r = true) ∧ (r.dat.length : Int) ≤ 4096 ∧ r.name.size ≤ maxLen ∧ (∀ (p : Option Addr) (cap : Nat) (w : World), DatAt w p s.dat → s.dat.length ≤ cap → Calls Try.prog 30 #[SV s p cap, .int .i64 num, .int .i64 den] w fun x w' => RetWP r er w.heap.size x w' ∧ Below w.heap.size w w') ∧
      ∀ (p : Option Addr) (cap : Nat) (w : World), DatAt w p s.dat → s.dat.length ≤ cap → (p = none → cap = 0) → Calls Try.prog 31 #[SV s p cap, .int .i64 num, .int .i64 den] w fun x w' => RetWR r er w.heap.size x w' ∧ Below w.heap.size w w' := by
  cases hv : Sm.vld s
  · exact ⟨zer, 1, (fun h => by omega), (by simp [zer]), (by simp [zer]), fun p cap w hd _ => (p_amplify_bad s p cap num den w hm hd hv).mono fun _ _ ⟨h1, h2⟩ => ⟨wp_bad h1, h2⟩, fun p cap w hd _ hnil => (r_amplify_bad s p cap num den w hm hd hv).mono fun _ _ ⟨h1, h2⟩ => ⟨wr_bad h1, h2⟩⟩
  · by_cases h1 : num < -10000
    · exact ⟨zer, 5, (fun h => by omega), (by simp [zer]), (by simp [zer]), fun p cap w hd _ => (p_amplify_r1 s p cap num den w hm hd hv (.inl h1)).mono fun _ _ ⟨h1, h2⟩ => ⟨wp_bad h1, h2⟩, fun p cap w hd _ hnil => (r_amplify_r1 s p cap num den w hm hd hv h1).mono fun _ _ ⟨h1, h2⟩ => ⟨wr_bad h1, h2⟩⟩
    · by_cases h2 : 10000 < num
      · exact ⟨zer, 5, (fun h => by omega), (by simp [zer]), (by simp [zer]), fun p cap w hd _ => (p_amplify_r1 s p cap num den w hm hd hv (.inr h2)).mono fun _ _ ⟨h1, h2⟩ => ⟨wp_bad h1, h2⟩, fun p cap w hd _ hnil => (r_amplify_r2 s p cap num den w hm hd hv h1 h2).mono fun _ _ ⟨h1, h2⟩ => ⟨wr_bad h1, h2⟩⟩
      · by_cases h3 : den < 1
        · exact ⟨zer, 5, (fun h => by omega), (by simp [zer]), (by simp [zer]), fun p cap w hd _ => (p_amplify_r2 s p cap num den w hm hd hv ⟨by omega, by omega⟩ (.inl h3)).mono fun _ _ ⟨h1, h2⟩ => ⟨wp_bad h1, h2⟩, fun p cap w hd _ hnil => (r_amplify_r3 s p cap num den w hm hd hv h1 h2 h3).mono fun _ _ ⟨h1, h2⟩ => ⟨wr_bad h1, h2⟩⟩
        · by_cases h4 : 10000 < den
          · exact ⟨zer, 5, (fun h => by omega), (by simp [zer]), (by simp [zer]), fun p cap w hd _ => (p_amplify_r2 s p cap num den w hm hd hv ⟨by omega, by omega⟩ (.inr h4)).mono fun _ _ ⟨h1, h2⟩ => ⟨wp_bad h1, h2⟩, fun p cap w hd _ hnil => (r_amplify_r4 s p cap num den w hm hd hv h1 h2 h3 h4).mono fun _ _ ⟨h1, h2⟩ => ⟨wr_bad h1, h2⟩⟩
          · exact ⟨Sm.amp s num den, 0, (fun _ => Sm.vld_amp hv), (by rw [amp_len]; exact vld_len hv), hm, fun p cap w hd hcap => (p_amplify_ok s p cap num den w hm hd hv ⟨by omega, by omega⟩ ⟨by omega, by omega⟩).mono fun _ _ ⟨h1, h2⟩ => ⟨wp_ok h1, h2⟩, fun p cap w hd hcap hnil => (r_amplify_ok s p cap num den w hm hd hv hnil (by omega) (by omega) (by omega) (by omega)).mono fun _ _ ⟨h1, h2⟩ => ⟨wr_ok h1, h2⟩⟩
theorem pairw_convert (s : Sm.Smp) (hm : s.name.size ≤ maxLen) (b : Int) :
    ∃ r er, (er = 0 → Sm.vld r = true) ∧ (r.dat.length : Int) ≤ 4096 ∧ r.name.size ≤ maxLen ∧ (∀ (p : Option Addr) (cap : Nat) (w : World), DatAt w p s.dat → s.dat.length ≤ cap → Calls Try.prog 32 #[SV s p cap, .int .i64 b] w fun x w' => RetWP r er w.heap.size x w' ∧ Below w.heap.size w w') ∧
      ∀ (p : Option Addr) (cap : Nat) (w : World), DatAt w p s.dat → s.dat.length ≤ cap → (p = none → cap = 0) → Calls Try.prog 33 #[SV s p cap, .int .i64 b] w fun x w' => RetWR r er w.heap.size x w' ∧ Below w.heap.size w w' := by
  cases hv : Sm.vld s
  · exact ⟨zer, 1, (fun h => by omega), (by simp [zer]), (by simp [zer]), fun p cap w hd _ => (p_convert_bad s p cap b w hm hd hv).mono fun _ _ ⟨h1, h2⟩ => ⟨wp_bad h1, h2⟩, fun p cap w hd _ hnil => (r_convert_bad s p cap b w hm hd hv).mono fun _ _ ⟨h1, h2⟩ => ⟨wr_bad h1, h2⟩⟩
  · by_cases hb : b = 8 ∨ b = 16
    · exact ⟨Sm.cvt s b, 0, (fun _ => Sm.vld_cvt hv hb), (by simpa [Sm.cvt, Sm.mpp] using vld_len hv), hm, fun p cap w hd hcap => (p_convert_ok s p cap b w hm hd hv hb).mono fun _ _ ⟨h1, h2⟩ => ⟨wp_ok h1, h2⟩, fun p cap w hd hcap hnil => (r_convert_ok s p cap b w hm hd hv hnil hb).mono fun _ _ ⟨h1, h2⟩ => ⟨wr_ok h1, h2⟩⟩
    · exact ⟨zer, 5, (fun h => by omega), (by simp [zer]), (by simp [zer]), fun p cap w hd _ => (p_convert_rng s p cap b w hm hd hv hb).mono fun _ _ ⟨h1, h2⟩ => ⟨wp_bad h1, h2⟩, fun p cap w hd _ hnil => (r_convert_r1 s p cap b w hm hd hv (by simp; omega) (by simp; omega)).mono fun _ _ ⟨h1, h2⟩ => ⟨wr_bad h1, h2⟩⟩
end Go.Proofs.Ytmaldhjcdkidmaa
