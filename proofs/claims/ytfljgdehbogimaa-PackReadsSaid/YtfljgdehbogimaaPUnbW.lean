/-
  The contract of package pack's Unblocks: what it refuses, and all of it together.
-/
import Derived.Test.YtfljgdehbogimaaPUnb
namespace Go.Proofs.Ytfljgdehbogimaa
open Go.RowKit

theorem unb_else (pb : Option Addr) (m capb : Nat) (b v n : Int) (w : World) (h : ¬ (v = 1 ∨ v = 2)) :
    Calls Try.prog 16 #[.slice pb m capb, .int .i64 b, .int .i64 v, .int .i64 n] w fun e w' => e = .returned (.tuple #[.slice none 0 0, .int .i64 0, .int .i64 0, .int .i64 1]) ∧ Below w.heap.size w w' := by
  have lk := look_else (w.alloc (.map verMap 2)) w.heap.size v (heap_alloc_new _ _) (fun e => h (.inl e)) (fun e => h (.inr e))
  have C0 := Lib.hid (p_codings w)
  have HB := Lib.hid (below_box w (.map verMap 2))
  clear h
  go_enter Try.func16, Try.ntmps16
  go_wp2_with (first | (go_at_call 28; ((with_reducible refine C0.out.mono ?_); rintro x' w' ⟨rfl, rfl⟩)))
  all_goals ((try simp only [Exit.inBlock, Exit.then]); refine bodyPost_ret (results_tmp4 rfl _ _ _) rfl ?_)
  all_goals exact ⟨rfl, HB.out⟩
theorem unb_bits (pb : Option Addr) (m capb : Nat) (b v n : Int) (F0 : Nat) (w : World) (lk0 : ∀ (w : World) r, w.heap[r]? = some (.map verMap 2) → (Instr.lookup 50 (.map (some r)) (.int .i64 v) true).run Try.prog w = .ok (.tuple #[.func (.func F0) #[] #[], .bool true]) w) (h : ¬ (b = 8 ∨ b = 16)) :
    Calls Try.prog 16 #[.slice pb m capb, .int .i64 b, .int .i64 v, .int .i64 n] w fun e w' => e = .returned (.tuple #[.slice none 0 0, .int .i64 0, .int .i64 0, .int .i64 1]) ∧ Below w.heap.size w w' := by
  have lk := lk0 (w.alloc (.map verMap 2)) w.heap.size (heap_alloc_new _ _)
  have C0 := Lib.hid (p_codings w)
  have C1 := Lib.hid (p_validBits_f b (w.alloc (.map verMap 2)) h)
  have HB := Lib.hid (below_box w (.map verMap 2))
  clear h lk0
  go_enter Try.func16, Try.ntmps16
  go_wp2_with (first | (go_at_call 28; ((with_reducible refine C0.out.mono ?_); rintro x' w' ⟨rfl, rfl⟩)) | (go_at_call 33; ((with_reducible refine C1.out.mono ?_); rintro x' w' ⟨rfl, rfl⟩)))
  all_goals ((try simp only [Exit.inBlock, Exit.then]); refine bodyPost_ret (results_tmp4 rfl _ _ _) rfl ?_)
  all_goals exact ⟨rfl, HB.out⟩
theorem unb_ask (pb : Option Addr) (m capb : Nat) (b v n : Int) (F0 : Nat) (w : World) (lk0 : ∀ (w : World) r, w.heap[r]? = some (.map verMap 2) → (Instr.lookup 50 (.map (some r)) (.int .i64 v) true).run Try.prog w = .ok (.tuple #[.func (.func F0) #[] #[], .bool true]) w) (hb : b = 8 ∨ b = 16) (hl : (m : Int) ≤ 1152921504606846976) (h : ask m n ≠ 0) :
    Calls Try.prog 16 #[.slice pb m capb, .int .i64 b, .int .i64 v, .int .i64 n] w fun e w' => e = .returned (.tuple #[.slice none 0 0, .int .i64 0, .int .i64 0, .int .i64 (ask m n)]) ∧ Below w.heap.size w w' := by
  have lk := lk0 (w.alloc (.map verMap 2)) w.heap.size (heap_alloc_new _ _)
  have C0 := Lib.hid (p_codings w)
  have C1 := Lib.hid (p_validBits_t b (w.alloc (.map verMap 2)) hb)
  have C2 := Lib.hid (p_askBytes pb m capb n (w.alloc (.map verMap 2)) hl)
  have HB := Lib.hid (below_box w (.map verMap 2))
  obtain ⟨z, hz⟩ : ∃ z, ask m n = z := ⟨_, rfl⟩
  rw [hz] at C2 h ⊢
  have h2 : (z != 0) = true := by simpa using h
  clear h hz hl hb lk0
  go_enter Try.func16, Try.ntmps16
  go_wp2_with (first | (go_at_call 28; ((with_reducible refine C0.out.mono ?_); rintro x' w' ⟨rfl, rfl⟩)) | (go_at_call 33; ((with_reducible refine C1.out.mono ?_); rintro x' w' ⟨rfl, rfl⟩)) | (go_at_call 34; ((with_reducible refine C2.out.mono ?_); rintro x' w' ⟨rfl, rfl⟩)))
  all_goals ((try simp only [Exit.inBlock, Exit.then]); refine bodyPost_ret (results_tmp4 rfl _ _ _) rfl ?_)
  all_goals exact ⟨rfl, HB.out⟩
/-- What Unblocks returns. -/
theorem p_Unblocks (bs : List Int) (pb : Option Addr) (capb : Nat) (b v n : Int) (w : World) (hd : BytAt w pb bs) (hdb : ∀ x ∈ bs, 0 ≤ x ∧ x < 256) (hlc : bs.length ≤ capb) (hl : (bs.length : Int) ≤ 1152921504606846976) :
    Calls Try.prog 16 #[.slice pb bs.length capb, .int .i64 b, .int .i64 v, .int .i64 n] w fun e w' => (ubE bs.length b v n ≠ 0 → e = .returned (.tuple #[.slice none 0 0, .int .i64 0, .int .i64 0, .int .i64 (ubE bs.length b v n)])) ∧ (ubE bs.length b v n = 0 → ubPost (dec b v) n.toNat w.heap.size (ub b (n.toNat + 1) n.toNat bs) e w') ∧ Below w.heap.size w w' := by
  by_cases hv : v = 1 ∨ v = 2
  · by_cases hb : b = 8 ∨ b = 16
    · have e : ubE bs.length b v n = ask bs.length n := if_pos ⟨hv, hb⟩
      rw [e]
      by_cases h : ask bs.length n = 0
      · have hn : 0 ≤ n := by
          unfold ask at h
          split at h
          · omega
          · split at h
            · omega
            · omega
        obtain ⟨k, rfl⟩ := Int.eq_ofNat_of_zero_le hn
        rw [h]
        rcases hv with rfl | rfl
        · exact (unb_ok bs pb capb k b 1 _ _ _ w (begun1 hb) hd hdb hlc hb h).mono fun e w' ⟨h1, h3⟩ => ⟨fun h => absurd rfl h, fun _ => h1, h3⟩
        · exact (unb_ok bs pb capb k b 2 _ _ _ w (begun2 hb) hd hdb hlc hb h).mono fun e w' ⟨h1, h3⟩ => ⟨fun h => absurd rfl h, fun _ => h1, h3⟩
      · rcases hv with rfl | rfl
        · exact (unb_ask pb bs.length capb b 1 n _ w (begun1 hb).look hb hl h).mono fun e w' ⟨h1, h3⟩ => ⟨fun _ => h1, fun h' => absurd h' h, h3⟩
        · exact (unb_ask pb bs.length capb b 2 n _ w (begun2 hb).look hb hl h).mono fun e w' ⟨h1, h3⟩ => ⟨fun _ => h1, fun h' => absurd h' h, h3⟩
    · have e : ubE bs.length b v n = 1 := if_neg fun h => hb h.2
      rw [e]
      rcases hv with rfl | rfl
      · exact (unb_bits pb bs.length capb b 1 n _ w (fun w r h => look_1 w r h) hb).mono fun e w' ⟨h1, h3⟩ => ⟨fun _ => h1, fun h' => absurd h' (by omega), h3⟩
      · exact (unb_bits pb bs.length capb b 2 n _ w (fun w r h => look_2 w r h) hb).mono fun e w' ⟨h1, h3⟩ => ⟨fun _ => h1, fun h' => absurd h' (by omega), h3⟩
  · have e : ubE bs.length b v n = 1 := if_neg fun h => hv h.1
    rw [e]
    exact (unb_else pb bs.length capb b v n w hv).mono fun e w' ⟨h1, h3⟩ => ⟨fun _ => h1, fun h' => absurd h' (by omega), h3⟩
end Go.Proofs.Ytfljgdehbogimaa
