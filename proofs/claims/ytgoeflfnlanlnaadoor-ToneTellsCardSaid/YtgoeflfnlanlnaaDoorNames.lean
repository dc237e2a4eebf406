/-
  The walk of the law ToneNames: for any number and text it returns true, in a world whose variables letters and quarter hold what the program lays; nothing that was there is changed.
-/
import Derived.Test.YtgoeflfnlanlnaaDoorKept
import Derived.Test.YtgoeflfnlanlnaaDoorRefNote
namespace Go.Proofs.YtgoeflfnlanlnaaDoor
open Go.RowKit

section
variable {W w : World}
theorem g_note (s : ByteArray) (hg : Good W w) :
    Calls Tryd.prog 29 #[.string s] w fun e w' => e = .returned (.tuple #[.int .i64 (Tm.noteN s), .int .i64 (Tm.noteE s)]) ∧ Good W w' :=
  (note_any s w hg.lets).mono fun e w' ⟨⟨n, x, he, hn⟩, d, hd⟩ => by
    obtain ⟨rfl, rfl⟩ := Tm.note_eq hn
    subst hd
    exact ⟨he, hg.step (below_drewN _ _)⟩
theorem g_rnote (s : ByteArray) (hg : Good W w) :
    Calls Tryd.prog 30 #[.string s] w fun e w' => e = .returned (.tuple #[.int .i64 (Tm.noteN s), .int .i64 (Tm.noteE s)]) ∧ Good W w' :=
  (rnote_any s w).mono fun e w' ⟨⟨n, x, he, hn⟩, hb⟩ => by
    obtain ⟨rfl, rfl⟩ := Tm.note_eq hn
    exact ⟨he, hg.step hb⟩
theorem g_name (n : Nat) (h : n ≤ 119) (hg : Good W w) :
    Calls Tryd.prog 31 #[.int .i64 n] w fun e w' => e = .returned (.string (Tm.nameOf n)) ∧ Good W w' :=
  (name_in n w hg.lets h).mono fun e w' ⟨he, d, hd⟩ => by
    subst hd
    exact ⟨he, hg.step (below_drewN _ _)⟩
theorem g_rname (n : Nat) (h : n ≤ 119) (hg : Good W w) :
    Calls Tryd.prog 32 #[.int .i64 n] w fun e w' => e = .returned (.string (Tm.nameOf n)) ∧ Good W w' :=
  (rname_in n w h).mono fun _ _ ⟨he, hb⟩ => ⟨he, hg.step hb⟩
theorem g_name_out (n : Int) (h : n < 0 ∨ 119 < n) (hg : Good W w) :
    Calls Tryd.prog 31 #[.int .i64 n] w fun e w' => e = .returned (.string ByteArray.empty) ∧ Good W w' :=
  (name_out n w h).mono fun _ _ ⟨he, hw⟩ => ⟨he, hw ▸ hg⟩
theorem g_rname_out (n : Int) (h : n < 0 ∨ 119 < n) (hg : Good W w) :
    Calls Tryd.prog 32 #[.int .i64 n] w fun e w' => e = .returned (.string ByteArray.empty) ∧ Good W w' :=
  (rname_out n w h).mono fun _ _ ⟨he, hw⟩ => ⟨he, hw ▸ hg⟩
theorem g_awake (hg : Good W w) :
    Calls Tryd.prog 28 #[] w fun e w' => e = .returned (.bool true) ∧ Good W w' :=
  (awake_any w hg.lets hg.quas).mono fun e w' ⟨he, d, hd⟩ => by
    subst hd
    exact ⟨he, hg.step (below_drewN _ _)⟩
end

set_option maxRecDepth 20000 in
theorem names_in (n : Nat) (s : ByteArray) (W : World) (hg : Good W W) (h : n ≤ 119) :
    Calls Tryd.prog 4 #[.int .i64 n, .string s] W fun e w' => e = .returned (.bool true) ∧ Good W w' := by
  obtain ⟨t1, t2⟩ := Tm.note_name h
  go_enter Tryd.func4, Tryd.ntmps4
  go_wp2_with (first | (go_at_call 29; refine (g_note _ (by assumption)).mono ?_; rintro e w' ⟨rfl, hg'⟩) | (go_at_call 30; refine (g_rnote _ (by assumption)).mono ?_; rintro e w' ⟨rfl, hg'⟩) | (go_at_call 31; refine (g_name _ h (by assumption)).mono ?_; rintro e w' ⟨rfl, hg'⟩) | (go_at_call 32; refine (g_rname _ h (by assumption)).mono ?_; rintro e w' ⟨rfl, hg'⟩) | (go_at_call 28; refine (g_awake (by assumption)).mono ?_; rintro e w' ⟨rfl, hg'⟩))
  go_ret
  exact ⟨rfl, by assumption⟩
set_option maxRecDepth 20000 in
theorem names_out (n : Int) (s : ByteArray) (W : World) (hg : Good W W) (h : n < 0 ∨ 119 < n) :
    Calls Tryd.prog 4 #[.int .i64 n, .string s] W fun e w' => e = .returned (.bool true) ∧ Good W w' := by
  obtain ⟨t1, t2⟩ := Tm.note_empty
  have H := Lib.hid h
  by_cases hn : n < 0
  · clear h
    go_enter Tryd.func4, Tryd.ntmps4
    go_wp2_with (first | (go_at_call 29; refine (g_note _ (by assumption)).mono ?_; rintro e w' ⟨rfl, hg'⟩) | (go_at_call 30; refine (g_rnote _ (by assumption)).mono ?_; rintro e w' ⟨rfl, hg'⟩) | (go_at_call 31; refine (g_name_out _ H.out (by assumption)).mono ?_; rintro e w' ⟨rfl, hg'⟩) | (go_at_call 32; refine (g_rname_out _ H.out (by assumption)).mono ?_; rintro e w' ⟨rfl, hg'⟩) | (go_at_call 28; refine (g_awake (by assumption)).mono ?_; rintro e w' ⟨rfl, hg'⟩))
    go_ret
    exact ⟨rfl, by assumption⟩
  · have hn' : 119 < n := by omega
    clear h
    go_enter Tryd.func4, Tryd.ntmps4
    go_wp2_with (first | (go_at_call 29; refine (g_note _ (by assumption)).mono ?_; rintro e w' ⟨rfl, hg'⟩) | (go_at_call 30; refine (g_rnote _ (by assumption)).mono ?_; rintro e w' ⟨rfl, hg'⟩) | (go_at_call 31; refine (g_name_out _ H.out (by assumption)).mono ?_; rintro e w' ⟨rfl, hg'⟩) | (go_at_call 32; refine (g_rname_out _ H.out (by assumption)).mono ?_; rintro e w' ⟨rfl, hg'⟩) | (go_at_call 28; refine (g_awake (by assumption)).mono ?_; rintro e w' ⟨rfl, hg'⟩))
    go_ret
    exact ⟨rfl, by assumption⟩
theorem names_any (n : Int) (s : ByteArray) (W : World) (hl : LettersAre W) (hq : QuarterIs W) :
    Calls Tryd.prog 4 #[.int .i64 n, .string s] W fun e w' => e = .returned (.bool true) ∧ Below W.heap.size W w' := by
  have hg := Good.start hl hq
  by_cases h : 0 ≤ n ∧ n ≤ 119
  · obtain ⟨k, rfl⟩ := Int.eq_ofNat_of_zero_le h.1
    exact (names_in k s W hg (by omega)).mono fun _ _ ⟨he, hk⟩ => ⟨he, hk.below⟩
  · exact (names_out n s W hg (by omega)).mono fun _ _ ⟨he, hk⟩ => ⟨he, hk.below⟩
end Go.Proofs.YtgoeflfnlanlnaaDoor
