/-
  The contract of the reference's Unblocks.
-/
import Derived.Test.YtfljgdehbogimaaRefUndo
import Derived.Test.YtfljgdehbogimaaPUnbW
namespace Go.Proofs.Ytfljgdehbogimaa
open Go.RowKit

/-- Where frames are missing, all bytes are used. -/
theorem ub_used {b : Int} : ∀ (f n : Nat) (bs vs : List Int) (u : Nat), n < f → ub b f n bs = some (vs, u) → vs.length < n → u = bs.length
  | 0, _, _, _, _, h, _, _ => by omega
  | f + 1, n, [], vs, u, _, he, _ => by
    rw [ub_nil] at he
    simp only [Option.some.injEq, Prod.mk.injEq] at he
    rw [← he.2]; rfl
  | f + 1, n, y :: rest, vs, u, h, he, hv => by
    have hn : n ≠ 0 := by omega
    by_cases hy : 1 ≤ y ∧ y ≤ b
    · obtain ⟨wd, rfl⟩ : ∃ wd : Nat, y = wd := ⟨y.toNat, by omega⟩
      obtain ⟨m, hm⟩ : ∃ m, min n 256 = m := ⟨_, rfl⟩
      have hq : (wd * m + 7) / 8 ≤ rest.length → m ≤ 8 * rest.length / wd := fun h => by
        rw [Nat.le_div_iff_mul_le (by omega), Nat.mul_comm m wd]
        omega
      by_cases hc : min (min n 256) (8 * rest.length / wd) < min n 256
      · rw [ub_cut hn hy hc] at he
        simp only [Option.some.injEq, Prod.mk.injEq] at he
        rw [← he.2, List.length_cons]
        rw [hm] at hc ⊢
        have : ¬ ((wd * m + 7) / 8 ≤ rest.length) := fun h => by have := hq h; omega
        omega
      · rw [ub_go hn hy hc] at he
        cases hr : ub b f (n - min n 256) (((wd : Int) :: rest).drop (1 + min rest.length ((wd * min n 256 + 7) / 8))) with
        | none => rw [hr] at he; cases he
        | some r =>
          rw [hr] at he
          simp only [Option.map_some, Option.some.injEq, Prod.mk.injEq] at he
          obtain ⟨h1, h2⟩ := he
          have hl := congrArg List.length h1
          rw [List.length_append, rbL_length] at hl
          have := ub_used f (n - min n 256) _ r.1 r.2 (by omega) hr (by omega)
          rw [List.length_drop, List.length_cons] at this
          rw [← h2, this, List.length_cons]
          omega
    · rw [ub_bad hn hy] at he; cases he
theorem runb_bits (pb : Option Addr) (m capb : Nat) (b v n : Int) (w : World) (h : ¬ (b = 8 ∨ b = 16)) :
    Calls Try.prog 17 #[.slice pb m capb, .int .i64 b, .int .i64 v, .int .i64 n] w fun e w' => e = .returned (.tuple #[.slice none 0 0, .int .i64 0, .int .i64 0, .int .i64 1]) ∧ w = w' := by
  have C1 := Lib.hid (rright_f b w h)
  clear h
  go_enter Try.func17, Try.ntmps17
  go_wp2_with (first | (go_at_call 30; ((with_reducible refine C1.out.mono ?_); rintro x' w' ⟨rfl, rfl⟩)))
  ((try simp only [Exit.inBlock, Exit.then]); refine bodyPost_ret (results_tmp4 rfl _ _ _) rfl ?_)
  exact ⟨rfl, rfl⟩
theorem rver_t {v : Int} (hv : v = 1 ∨ v = 2) (w : World) : Calls Try.prog 31 #[.int .i64 v] w fun e w' => e = .returned (.bool true) ∧ w = w' := by
  have := rversioned v w
  rwa [show (v == 1 || v == 2) = true by rcases hv with rfl | rfl <;> rfl] at this
theorem rver_f {v : Int} (hv : ¬ (v = 1 ∨ v = 2)) (w : World) : Calls Try.prog 31 #[.int .i64 v] w fun e w' => e = .returned (.bool false) ∧ w = w' := by
  have := rversioned v w
  rwa [show (v == 1 || v == 2) = false by
    have h1 : v ≠ 1 := fun e => hv (.inl e)
    have h2 : v ≠ 2 := fun e => hv (.inr e)
    simp [h1, h2]] at this
theorem runb_ver (pb : Option Addr) (m capb : Nat) (b v n : Int) (w : World) (hb : b = 8 ∨ b = 16) (h : ¬ (v = 1 ∨ v = 2)) :
    Calls Try.prog 17 #[.slice pb m capb, .int .i64 b, .int .i64 v, .int .i64 n] w fun e w' => e = .returned (.tuple #[.slice none 0 0, .int .i64 0, .int .i64 0, .int .i64 1]) ∧ w = w' := by
  have C1 := Lib.hid (rright_t b w hb)
  have C2 := Lib.hid (rver_f h w)
  clear h hb
  go_enter Try.func17, Try.ntmps17
  go_wp2_with (first | (go_at_call 30; ((with_reducible refine C1.out.mono ?_); rintro x' w' ⟨rfl, rfl⟩)) | (go_at_call 31; ((with_reducible refine C2.out.mono ?_); rintro x' w' ⟨rfl, rfl⟩)))
  ((try simp only [Exit.inBlock, Exit.then]); refine bodyPost_ret (results_tmp4 rfl _ _ _) rfl ?_)
  exact ⟨rfl, rfl⟩
theorem runb_ask (pb : Option Addr) (m capb : Nat) (b v n : Int) (w : World) (hb : b = 8 ∨ b = 16) (hv : v = 1 ∨ v = 2) (hl : (m : Int) ≤ 1152921504606846976) (h : ask m n ≠ 0) :
    Calls Try.prog 17 #[.slice pb m capb, .int .i64 b, .int .i64 v, .int .i64 n] w fun e w' => e = .returned (.tuple #[.slice none 0 0, .int .i64 0, .int .i64 0, .int .i64 (ask m n)]) ∧ w = w' := by
  have C1 := Lib.hid (rright_t b w hb)
  have C2 := Lib.hid (rver_t hv w)
  have C3 := Lib.hid (rasked pb m capb n w hl)
  obtain ⟨z, hz⟩ : ∃ z, ask m n = z := ⟨_, rfl⟩
  rw [hz] at C3 h ⊢
  have h2 : (z != 0) = true := by simpa using h
  clear h hb hv hz hl
  go_enter Try.func17, Try.ntmps17
  go_wp2_with (first | (go_at_call 30; ((with_reducible refine C1.out.mono ?_); rintro x' w' ⟨rfl, rfl⟩)) | (go_at_call 31; ((with_reducible refine C2.out.mono ?_); rintro x' w' ⟨rfl, rfl⟩)) | (go_at_call 36; ((with_reducible refine C3.out.mono ?_); rintro x' w' ⟨rfl, rfl⟩)))
  ((try simp only [Exit.inBlock, Exit.then]); refine bodyPost_ret (results_tmp4 rfl _ _ _) rfl ?_)
  exact ⟨rfl, rfl⟩
/-- What the reference's Unblocks returns of what the blocks hold. -/
def rubPost (b v : Int) (n B : Nat) (r : Option (List Int × Nat)) (e : Ending) (w' : World) : Prop :=
  (r = none → e = .returned (.tuple #[.slice none 0 0, .int .i64 0, .int .i64 0, .int .i64 9])) ∧
  ∀ vs u, r = some (vs, u) → vs.length ≤ n ∧ ∃ g c, e = .returned (.tuple #[.slice (some ⟨g, 0, none⟩) n c, .int .i64 u, .int .i64 ((n - vs.length : Nat) : Int), .int .i64 0]) ∧ w'.ownsRow B 3 1 (.slice (some ⟨g, 0, none⟩) n c) n ((dec b v vs ++ List.replicate (n - vs.length) 0).map (Value.int .i64))
theorem rubPost_none {b v : Int} {n B : Nat} {r : Option (List Int × Nat)} {w' : World} (hr : r = none) : rubPost b v n B r (.returned (.tuple #[.slice none 0 0, .int .i64 0, .int .i64 0, .int .i64 9])) w' :=
  ⟨fun _ => rfl, fun vs u h => by rw [hr] at h; cases h⟩
theorem rubPost_of {b v : Int} {n B g c u : Nat} {x y : Int} {r : Option (List Int × Nat)} {a : List Int} {w' : World} (hr : r = some (a, u)) (hl : a.length ≤ n) (hy : y = u) (hx : x = ((n - a.length : Nat) : Int)) (hrow : w'.ownsRow B 3 1 (.slice (some ⟨g, 0, none⟩) n c) n ((dec b v a ++ List.replicate (n - a.length) 0).map (Value.int .i64))) :
    rubPost b v n B r (.returned (.tuple #[.slice (some ⟨g, 0, none⟩) n c, .int .i64 y, .int .i64 x, .int .i64 0])) w' := by
  subst hx hy hr
  refine ⟨fun h => (by cases h), fun vs u' h => ?_⟩
  simp only [Option.some.injEq, Prod.mk.injEq] at h
  obtain ⟨rfl, rfl⟩ := h
  exact ⟨hl, g, c, rfl, hrow⟩
theorem dec_length (b v : Int) (a : List Int) : (dec b v a).length = a.length := by
  unfold dec
  split
  · rw [Pk.sums_length, Pk.sums_length]
  · rw [Pk.sums_length]
set_option maxRecDepth 20000 in
set_option maxHeartbeats 1600000 in
theorem runb_ok (bs : List Int) (pb : Option Addr) (capb n : Nat) (b v : Int) (w : World) (hd : BytAt w pb bs) (hdb : ∀ x ∈ bs, 0 ≤ x ∧ x < 256) (hlc : bs.length ≤ capb) (hb8 : b = 8 ∨ b = 16) (hv : v = 1 ∨ v = 2) (h : ask bs.length n = 0) :
    Calls Try.prog 17 #[.slice pb bs.length capb, .int .i64 b, .int .i64 v, .int .i64 n] w fun e w' => rubPost b v n w.heap.size (ub b (n + 1) n bs) e w' ∧ Below w.heap.size w w' := by
  obtain ⟨hb1, hb2⟩ := ask_ok h
  have C1 := Lib.hid (rright_t b w hb8)
  have C2 := Lib.hid (rver_t hv w)
  have C3 := Lib.hid (h ▸ rasked pb bs.length capb n w (by omega))
  have C4 := Lib.hid (rundone bs pb capb n b v w hd hdb hlc hb1 hb2 hb8 hv)
  have HUU := Lib.hid (fun vs u h1 h2 => ub_used (b := b) (n + 1) n bs vs u (by omega) h1 h2)
  obtain ⟨lb, hlb⟩ : ∃ lb, bs.length = lb := ⟨_, rfl⟩
  rw [hlb] at C3 C4 hb1 HUU
  rw [hlb]
  obtain ⟨R, hR⟩ : ∃ R, ub b (n + 1) n bs = R := ⟨_, rfl⟩
  rw [hR] at C4 HUU
  rw [hR]
  clear hlb hd hdb hlc h hR hv hb8
  go_enter Try.func17, Try.ntmps17
  go_upto_if 38 with (first | (go_at_call 30; ((with_reducible refine C1.out.mono ?_); rintro x' w' ⟨rfl, rfl⟩)) | (go_at_call 31; ((with_reducible refine C2.out.mono ?_); rintro x' w' ⟨rfl, rfl⟩)) | (go_at_call 36; ((with_reducible refine C3.out.mono ?_); rintro x' w' ⟨rfl, rfl⟩)) | (go_at_call 41; ((with_reducible refine C4.out.mono ?_); rintro x' w1 ⟨⟨g, m, u, bad, a, rfl, ham, hmn, hub, hown⟩, hb⟩; have HB1 := Lib.hid hb; have HO1 := Lib.hid hown; have HUB := Lib.hid hub; have HAM := Lib.hid ham; clear hb hown hub ham)))
  rcases HUB.out with ⟨rfl, hub⟩ | ⟨rfl, hub⟩
  · have HE := Lib.hid hub
    clear hub
    go_wp2
    ((try simp only [Exit.inBlock, Exit.then]); refine bodyPost_ret (results_tmp4 rfl _ _ _) rfl ?_)
    exact ⟨rubPost_none HE.out, HB1.out⟩
  · have HE := Lib.hid hub
    have HF := Lib.hid (rfilled (dec b v a) g 0 m n w1 (OwnK.dat (k := .i64) (B := w.heap.size) (e := 3) (c := m) (by unfold OwnK; rw [dec_length, HAM.out]; exact HO1.out)) (by rw [dec_length, HAM.out]; exact hmn) (by omega))
    rw [dec_length, HAM.out] at HF
    have HPO := Lib.hid (fun (g c : Nat) (y x : Int) (w' : World) (hy : y = u) (hx : x = (n : Int) - m) (hrow : w'.ownsRow w.heap.size 3 1 (.slice (some ⟨g, 0, none⟩) n c) n ((dec b v a ++ List.replicate (n - m) 0).map (Value.int .i64))) => rubPost_of (b := b) (v := v) (n := n) (B := w.heap.size) (g := g) (c := c) (u := u) (x := x) (y := y) (a := a) (w' := w') HE.out (by rw [HAM.out]; exact hmn) hy (by rw [HAM.out, hx]; omega) (by rw [HAM.out]; exact hrow))
    have HUM := Lib.hid (fun (h : m < n) => HUU.out a u HE.out (by rw [HAM.out]; exact h))
    clear hub HO1 HUB HUU C1 C2 C3 C4
    by_cases hmi : m < n
    · have HUL := Lib.hid (HUM.out hmi)
      go_wp2_with (first | (go_at_call 38; ((with_reducible refine HF.out.mono ?_); rintro x' w2 ⟨⟨g2, c2, rfl, ho⟩, hb⟩; have HO2 := Lib.hid (row_lower ho HB1.out.size); have HB2 := Lib.hid (stepB HB1.out hb); clear ho hb)))
      ((try simp only [Exit.inBlock, Exit.then]); refine bodyPost_ret (results_tmp4 rfl _ _ _) rfl ?_)
      exact ⟨HPO.out _ _ _ _ _ (by have := HUL.out; omega) (by omega) HO2.out, HB2.out⟩
    · have e : m = n := by omega
      subst e
      go_wp2_with (first | (go_at_call 38; ((with_reducible refine HF.out.mono ?_); rintro x' w2 ⟨⟨g2, c2, rfl, ho⟩, hb⟩; have HO2 := Lib.hid (row_lower ho HB1.out.size); have HB2 := Lib.hid (stepB HB1.out hb); clear ho hb)))
      ((try simp only [Exit.inBlock, Exit.then]); refine bodyPost_ret (results_tmp4 rfl _ _ _) rfl ?_)
      exact ⟨HPO.out _ _ _ _ _ rfl (by omega) HO2.out, HB2.out⟩
/-- What the reference's Unblocks returns. -/
theorem runblocks (bs : List Int) (pb : Option Addr) (capb : Nat) (b v n : Int) (w : World) (hd : BytAt w pb bs) (hdb : ∀ x ∈ bs, 0 ≤ x ∧ x < 256) (hlc : bs.length ≤ capb) (hl : (bs.length : Int) ≤ 1152921504606846976) :
    Calls Try.prog 17 #[.slice pb bs.length capb, .int .i64 b, .int .i64 v, .int .i64 n] w fun e w' => (ubE bs.length b v n ≠ 0 → e = .returned (.tuple #[.slice none 0 0, .int .i64 0, .int .i64 0, .int .i64 (ubE bs.length b v n)])) ∧ (ubE bs.length b v n = 0 → rubPost b v n.toNat w.heap.size (ub b (n.toNat + 1) n.toNat bs) e w') ∧ Below w.heap.size w w' := by
  by_cases hb : b = 8 ∨ b = 16
  · by_cases hv : v = 1 ∨ v = 2
    · have e : ubE bs.length b v n = ask bs.length n := if_pos ⟨hv, hb⟩
      rw [e]
      by_cases h : ask bs.length n = 0
      · have hn : 0 ≤ n := by
          unfold ask at h
          split at h
          · omega
          · split at h
            · omega
            · omega
        obtain ⟨k, rfl⟩ := Int.eq_ofNat_of_zero_le hn
        exact (runb_ok bs pb capb k b v w hd hdb hlc hb hv h).mono fun e w' ⟨h1, h3⟩ => ⟨fun h' => absurd h h', fun _ => h1, h3⟩
      · exact (runb_ask pb bs.length capb b v n w hb hv hl h).mono fun e w' ⟨h1, h3⟩ => ⟨fun _ => h1, fun h' => absurd h' h, h3 ▸ Below.refl _ _⟩
    · have e : ubE bs.length b v n = 1 := if_neg fun h => hv h.1
      rw [e]
      exact (runb_ver pb bs.length capb b v n w hb hv).mono fun e w' ⟨h1, h3⟩ => ⟨fun _ => h1, fun h' => absurd h' (by omega), h3 ▸ Below.refl _ _⟩
  · have e : ubE bs.length b v n = 1 := if_neg fun h => hb h.2
    rw [e]
    exact (runb_bits pb bs.length capb b v n w hb).mono fun e w' ⟨h1, h3⟩ => ⟨fun _ => h1, fun h' => absurd h' (by omega), h3 ▸ Below.refl _ _⟩
end Go.Proofs.Ytfljgdehbogimaa
