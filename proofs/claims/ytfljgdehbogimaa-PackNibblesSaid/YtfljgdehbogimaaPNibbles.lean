/-
  PackNibbles' walk: for any data, table, bytes and number the law returns true; nothing that was there is changed.
-/
import Derived.Test.YtfljgdehbogimaaTabP
import Derived.Test.YtfljgdehbogimaaTabR
import Derived.Test.YtfljgdehbogimaaRefNib
import Derived.Test.YtfljgdehbogimaaRefUnnW
import Derived.Test.YtfljgdehbogimaaPAwake
import Derived.Test.YtfljgdehbogimaaPSame
namespace Go.Proofs.Ytfljgdehbogimaa
open Go.RowKit

theorem dat_of_row {w : World} {B n : Nat} {v : Value} {l : List Int} (h : w.ownsRow B 3 1 v n (l.map (Value.int .i64))) : ∃ p c, v = .slice p n c ∧ DatAt w p l := by
  have hn : l.length = n := by simpa using h.1
  obtain ⟨p, c, hv, hk⟩ := own_dat h hn
  exact ⟨p, c, by rw [hv, hn], hk⟩
theorem same_two (X : List Int) (L : Nat) (pa pb : Option Addr) (ca cb : Nat) (w : World) (hX : X.length = L) (h4 : L ≤ 4096) (ha : DatAt w pa X) (hb : DatAt w pb X) :
    Calls Try.prog 15 #[.slice pa L ca, .slice pb L cb] w fun e w' => e = .returned (.bool true) ∧ Below w.heap.size w w' := by
  have := p_same X X pa pb L L ca cb w hX hX (by omega) (by omega) ha hb
  rw [show sml X X = true from decide_eq_true rfl] at this
  exact this
/-- Project and reference choose the same table. -/
theorem tab_same (l : List Int) (hi : ∀ x ∈ l, -9223372036854775808 ≤ x ∧ x ≤ 9223372036854775807) (hl : (l.length : Int) ≤ 1152921504606846976) : ∃ (X : List Int) (L : Nat) (e : Int), X.length = L ∧ L ≤ 4096 ∧
    (∀ (p : Option Addr) (cap : Nat) (w : World), DatAt w p l → Calls Try.prog 18 #[.slice p l.length cap] w fun r w' => (∃ p c, r = .returned (.tuple #[.slice p L c, .int .i64 e]) ∧ DatAt w' p X) ∧ Below w.heap.size w w') ∧
    (∀ (p : Option Addr) (cap : Nat) (w : World), DatAt w p l → Calls Try.prog 19 #[.slice p l.length cap] w fun r w' => (∃ p c, r = .returned (.tuple #[.slice p L c, .int .i64 e]) ∧ DatAt w' p X) ∧ Below w.heap.size w w') := by
  by_cases h : whl l 8 = 0
  · have hS := Tb.srt (Tb.ct (Pk.difs 128 0 l))
    have hX : (Tb.upto (Tb.Sof (Tb.ct (Pk.difs 128 0 l))) 256).length = 16 := by
      rw [← Tb.sort_eq hS, List.length_mergeSort, List.length_take, hS.len]
      rfl
    refine ⟨Tb.upto (Tb.Sof (Tb.ct (Pk.difs 128 0 l))) 256, 16, 0, hX, by omega, fun p cap w hd => ?_, fun p cap w hd => ?_⟩
    · refine (p_table_ok l p cap w hd hl h).mono fun r w' ⟨⟨g, hr, ho⟩, hb⟩ => ⟨?_, hb⟩
      obtain ⟨p', c', hv, hk⟩ := dat_of_row ho
      exact ⟨p', c', by rw [hr, hv], hk⟩
    · refine (rtable_ok l p cap w hd hi hl h _ hS).mono fun r w' ⟨⟨v, hr, ho⟩, hb⟩ => ⟨?_, hb⟩
      rw [hX] at ho
      obtain ⟨p', c', rfl, hk⟩ := dat_of_row ho
      exact ⟨p', c', hr, hk⟩
  · refine ⟨[], 0, whl l 8, rfl, by omega, fun p cap w hd => ?_, fun p cap w hd => ?_⟩
    · exact (p_table_bad l p cap w hd hl h).mono fun r w' ⟨hr, hw⟩ => ⟨⟨none, 0, hr, .inl rfl⟩, hw ▸ Below.refl _ _⟩
    · exact (rtable_bad l p cap w hd hi hl h).mono fun r w' ⟨hr, hw⟩ => ⟨⟨none, 0, hr, .inl rfl⟩, hw ▸ Below.refl _ _⟩
/-- Project and reference read the same by Unnibbles. -/
theorem unn_same (b t : List Int) (n : Int) (hdb : ∀ x ∈ b, 0 ≤ x ∧ x < 256) (hit : ∀ x ∈ t, -9223372036854775808 ≤ x ∧ x ≤ 9223372036854775807) (hlt : (t.length : Int) ≤ 1152921504606846976) (hl : (b.length : Int) ≤ 1152921504606846976) : ∃ (X : List Int) (L : Nat) (m e : Int), X.length = L ∧ L ≤ 4096 ∧
    (∀ (pb pt : Option Addr) (capb capt : Nat) (w : World), BytAt w pb b → DatAt w pt t → Calls Try.prog 22 #[.slice pb b.length capb, .slice pt t.length capt, .int .i64 n] w fun r w' => (∃ p c, r = .returned (.tuple #[.slice p L c, .int .i64 m, .int .i64 e]) ∧ DatAt w' p X) ∧ Below w.heap.size w w') ∧
    (∀ (pb pt : Option Addr) (capb capt : Nat) (w : World), BytAt w pb b → DatAt w pt t → Calls Try.prog 23 #[.slice pb b.length capb, .slice pt t.length capt, .int .i64 n] w fun r w' => (∃ p c, r = .returned (.tuple #[.slice p L c, .int .i64 m, .int .i64 e]) ∧ DatAt w' p X) ∧ Below w.heap.size w w') := by
  by_cases h : unnE b.length t n = 0
  · have ha : ask b.length n = 0 := by
      unfold unnE at h
      split at h
      · exact h
      · omega
    have hn4 : n.toNat ≤ 4096 := by
      unfold ask at ha
      split at ha
      · omega
      · split at ha
        · omega
        · omega
    refine ⟨unx t b n.toNat, n.toNat, ((n.toNat - unM b n.toNat : Nat) : Int), 0, unx_length t b _, hn4, fun pb pt capb capt w hd hdt => ?_, fun pb pt capb capt w hd hdt => ?_⟩
    · refine (p_Unnibbles b t pb pt capb capt n w hd hdb hdt hlt hl).mono fun r w' ⟨_, hk, hb⟩ => ⟨?_, hb⟩
      obtain ⟨g, hr, ho⟩ := hk h
      obtain ⟨p', c', hv, hk⟩ := dat_of_row ho
      exact ⟨p', c', by rw [hr, hv], hk⟩
    · refine (runnibbles b t pb pt capb capt n w hd hdb hdt hit hlt hl).mono fun r w' ⟨_, hk, hb⟩ => ⟨?_, hb⟩
      obtain ⟨g, c, hr, ho⟩ := hk h
      obtain ⟨p', c', hv, hk⟩ := dat_of_row ho
      exact ⟨p', c', by rw [hr, hv], hk⟩
  · refine ⟨[], 0, 0, unnE b.length t n, rfl, by omega, fun pb pt capb capt w hd hdt => ?_, fun pb pt capb capt w hd hdt => ?_⟩
    · exact (p_Unnibbles b t pb pt capb capt n w hd hdb hdt hlt hl).mono fun r w' ⟨hk, _, hb⟩ => ⟨⟨none, 0, hk h, .inl rfl⟩, hb⟩
    · exact (runnibbles b t pb pt capb capt n w hd hdb hdt hit hlt hl).mono fun r w' ⟨hk, _, hb⟩ => ⟨⟨none, 0, hk h, .inl rfl⟩, hb⟩
/-- What Nibbles returned: bytes of its own, or none with an error. -/
structure Opn (B : Nat) (z : Int) (L : List Int) (v : Value) (w : World) : Prop where
  bad : z ≠ 0 → v = .slice none 0 0
  good : z = 0 → w.ownsRow B 5 1 v L.length (L.map (Value.int .u8))
theorem Opn.stays {B : Nat} {z : Int} {L : List Int} {v : Value} {w w' : World} (h : Opn B z L v w) (hb : Below w.heap.size w w') : Opn B z L v w' := ⟨h.bad, fun e => row_stays (h.good e) hb⟩
theorem Opn.str {B : Nat} {z : Int} {L : List Int} {v : Value} {w : World} (h : Opn B z L v w) : (convert 24 9 v).run Try.prog w = .ok (.string (if z = 0 then strOfNums L else strOfNums [])) w := by
  by_cases hz : z = 0
  · rw [if_pos hz]
    exact str_run (h.good hz)
  · rw [if_neg hz, h.bad hz]
    exact str_run (B := 0) (l := []) (World.ownsRow_nil w 0 _ 1)
set_option maxRecDepth 20000 in
set_option maxHeartbeats 1600000 in
theorem nibbles_ok (l : List Int) (p : Option Addr) (cap : Nat) (t : List Int) (pt : Option Addr) (capt : Nat) (b : List Int) (pb : Option Addr) (capb : Nat) (n : Int) (w : World) (hd : DatAt w p l) (hl : (l.length : Int) ≤ 6000) (hi : ∀ x ∈ l, -9223372036854775808 ≤ x ∧ x ≤ 9223372036854775807)
    (hdt : DatAt w pt t) (hlt : (t.length : Int) ≤ 140737488351232) (hit : ∀ x ∈ t, -9223372036854775808 ≤ x ∧ x ≤ 9223372036854775807) (hdb : BytAt w pb b) (hlb : (b.length : Int) ≤ 140737488351232) (hib : ∀ x ∈ b, 0 ≤ x ∧ x < 256) :
    Calls Try.prog 6 #[.slice p l.length cap, .slice pt t.length capt, .slice pb b.length capb, .int .i64 n] w fun e w' => e = .returned (.bool true) ∧ Below w.heap.size w w' := by
  obtain ⟨X, L, z, hX, hL, T1, T2⟩ := tab_same l hi (by omega)
  obtain ⟨Y, M, m, y, hY, hM, U1, U2⟩ := unn_same b t n hib hit (by omega) (by omega)
  have T1 := Lib.hid (fun w1 => T1 p cap w1)
  have T2 := Lib.hid (fun w1 => T2 p cap w1)
  have U1 := Lib.hid (fun w1 => U1 pb pt capb capt w1)
  have U2 := Lib.hid (fun w1 => U2 pb pt capb capt w1)
  have N1 := Lib.hid (fun w1 (h1 : DatAt w1 p l) (h2 : DatAt w1 pt t) => p_Nibbles l t p pt cap capt w1 h1 h2 (by omega) (by omega))
  have N2 := Lib.hid (fun w1 (h1 : DatAt w1 p l) (h2 : DatAt w1 pt t) => rnibbles l t p pt cap capt w1 h1 h2 hi hit (by omega) (by omega))
  have S1 := Lib.hid (fun pa pb ca cb w1 => same_two X L pa pb ca cb w1 hX hL)
  have S2 := Lib.hid (fun pa pb ca cb w1 => same_two Y M pa pb ca cb w1 hY hM)
  have A := Lib.hid (fun w1 => p_awake w1)
  have HD := Lib.hid hd
  have HDT := Lib.hid hdt
  have HDB := Lib.hid hdb
  obtain ⟨f, hf⟩ : ∃ f, nibE l t = f := ⟨_, rfl⟩
  obtain ⟨NB, hNB⟩ : ∃ NB, Pk.nby (Pk.nib t 0 l) l.length = NB := ⟨_, rfl⟩
  simp only [hf, hNB] at N1 N2
  obtain ⟨sx, hsx⟩ : ∃ s, (if f = 0 then strOfNums NB else strOfNums []) = s := ⟨_, rfl⟩
  have HSX := Lib.hid hsx
  obtain ⟨ll, hll⟩ : ∃ ll, l.length = ll := ⟨_, rfl⟩
  obtain ⟨lt, hlt'⟩ : ∃ lt, t.length = lt := ⟨_, rfl⟩
  obtain ⟨lb, hlb'⟩ : ∃ lb, b.length = lb := ⟨_, rfl⟩
  simp only [hll, hlt', hlb'] at T1 T2 U1 U2 N1 N2
  rw [hll] at hl ⊢
  rw [hlt', hlb']
  clear hX hL hY hM hd hdt hdb hlt hlb hi hit hib hf hNB hsx hll hlt' hlb'
  go_enter Try.func6, Try.ntmps6
  go_wp2_with (first
    | (go_at_call 18; ((with_reducible refine (T1.out _ HD.out).mono ?_); rintro x' w1 ⟨⟨p1, c1, rfl, hx⟩, hb⟩; have X1 := Lib.hid hx; have WB1 := Lib.hid hb; clear hx hb))
    | (go_at_call 19; ((with_reducible refine (T2.out _ (HD.out.below WB1.out)).mono ?_); rintro x' w2 ⟨⟨p2, c2, rfl, hx⟩, hb⟩; have X2 := Lib.hid hx; have X1' := Lib.hid (X1.out.below hb); have WB2 := Lib.hid (stepB WB1.out hb); clear hx hb))
    | (go_at_call 20; ((with_reducible refine (N1.out _ (HD.out.below WB2.out) (HDT.out.below WB2.out)).mono ?_); rintro x' w3 ⟨⟨u3, rfl, ha, hc⟩, hb⟩; have O1 := Lib.hid (Opn.mk ha hc); have X1'' := Lib.hid (X1'.out.below hb); have X2' := Lib.hid (X2.out.below hb); have WB3 := Lib.hid (stepB WB2.out hb); clear ha hc hb))
    | (go_at_call 21; ((with_reducible refine (N2.out _ (HD.out.below WB3.out) (HDT.out.below WB3.out)).mono ?_); rintro x' w4 ⟨⟨u4, rfl, ha, hc⟩, hb⟩; have P1 := Lib.hid (O1.out.stays hb); have P2 := Lib.hid (Opn.mk ha hc); have X1''' := Lib.hid (X1''.out.below hb); have X2'' := Lib.hid (X2'.out.below hb); have WB4 := Lib.hid (stepB WB3.out hb); clear ha hc hb))
    | (go_at_call 15; (have hx := Y2.out); ((with_reducible refine (S2.out _ _ _ _ _ Y1'.out Y2.out).mono ?_); rintro x' w8 ⟨rfl, hb⟩; have WB8 := Lib.hid (stepB WB7.out hb); clear hx hb))
    | (go_at_call 15; ((with_reducible refine (S1.out _ _ _ _ _ X1'''.out X2''.out).mono ?_); rintro x' w5 ⟨rfl, hb⟩; have e1 := (P1.out.stays hb).str; have e2 := (P2.out.stays hb).str; rw [HSX.out] at e1 e2; have WB5 := Lib.hid (stepB WB4.out hb); clear hb))
    | (go_at_call 22; ((with_reducible refine (U1.out _ (HDB.out.below WB5.out) (HDT.out.below WB5.out)).mono ?_); rintro x' w6 ⟨⟨p6, c6, rfl, hx⟩, hb⟩; have Y1 := Lib.hid hx; have WB6 := Lib.hid (stepB WB5.out hb); clear hx hb))
    | (go_at_call 23; ((with_reducible refine (U2.out _ (HDB.out.below WB6.out) (HDT.out.below WB6.out)).mono ?_); rintro x' w7 ⟨⟨p7, c7, rfl, hx⟩, hb⟩; have Y2 := Lib.hid hx; have Y1' := Lib.hid (Y1.out.below hb); have WB7 := Lib.hid (stepB WB6.out hb); clear hx hb))
    | (go_at_call 8; ((with_reducible refine (A.out _).mono ?_); rintro x' w9 ⟨rfl, hb⟩; have WB9 := Lib.hid (stepB WB8.out hb); clear hb)))
  go_ret
  exact ⟨rfl, WB9.out⟩
theorem nibbles_long (n cap : Nat) (p : Option Addr) (t b : Value) (m : Int) (w : World) (hl : 6000 < (n : Int)) :
    Calls Try.prog 6 #[.slice p n cap, t, b, .int .i64 m] w fun e w' => e = .returned (.bool true) ∧ Below w.heap.size w w' := by
  have A := Lib.hid (fun w1 => p_awake w1)
  go_enter Try.func6, Try.ntmps6
  go_wp2_with (first | (go_at_call 8; ((with_reducible refine (A.out _).mono ?_); rintro x' w9 ⟨rfl, hb⟩; have WB9 := Lib.hid hb; clear hb)))
  go_ret
  exact ⟨rfl, WB9.out⟩
theorem nibbles_any (l : List Int) (p : Option Addr) (cap : Nat) (t : List Int) (pt : Option Addr) (capt : Nat) (b : List Int) (pb : Option Addr) (capb : Nat) (n : Int) (w : World) (hd : DatAt w p l) (_hl : (l.length : Int) ≤ 140737488351232) (hi : ∀ x ∈ l, -9223372036854775808 ≤ x ∧ x ≤ 9223372036854775807)
    (hdt : DatAt w pt t) (hlt : (t.length : Int) ≤ 140737488351232) (hit : ∀ x ∈ t, -9223372036854775808 ≤ x ∧ x ≤ 9223372036854775807) (hdb : BytAt w pb b) (hlb : (b.length : Int) ≤ 140737488351232) (hib : ∀ x ∈ b, 0 ≤ x ∧ x < 256) (_hcb : b.length ≤ capb) (_hn : -9223372036854775808 ≤ n ∧ n ≤ 9223372036854775807) :
    Calls Try.prog 6 #[.slice p l.length cap, .slice pt t.length capt, .slice pb b.length capb, .int .i64 n] w fun e w' => e = .returned (.bool true) ∧ Below w.heap.size w w' := by
  by_cases h : (l.length : Int) ≤ 6000
  · exact nibbles_ok l p cap t pt capt b pb capb n w hd h hi hdt hlt hit hdb hlb hib
  · exact nibbles_long l.length cap p _ _ n w (by omega)
end Go.Proofs.Ytfljgdehbogimaa
