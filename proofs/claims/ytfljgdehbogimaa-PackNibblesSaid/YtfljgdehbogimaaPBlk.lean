/-
  The contract of package pack's appendBlock.
-/
import Derived.Test.YtfljgdehbogimaaPPut
namespace Go.Proofs.Ytfljgdehbogimaa
open Go.RowKit

theorem app_boxed {w w2 : World} {B n c g2 c2 : Nat} {q : Option Addr} {xs : List Value} {L : List Int} {v0 : Value} {ob : Obj} (ho : w.ownsRow B 5 1 (.slice q n c) n xs) (hB : B ≤ w.heap.size)
    (hg : ((w.alloc (.cells #[v0] 24)).alloc ob).grownBy w2 (Value.slice q n c).ownBlock) (h2 : w2.ownsRow B 5 1 (.slice (some ⟨g2, 0, none⟩) L.length c2) L.length (L.map (Value.int .u8))) (hat : (Value.slice q n c).ownBlock = some g2 ∨ g2 = w.heap.size + 2) :
    One (w2.setCell ⟨w.heap.size, 0, none⟩ (.slice (some ⟨g2, 0, none⟩) L.length c2)) w.heap.size (.slice (some ⟨g2, 0, none⟩) L.length c2) 24 ∧ OwnK .u8 5 (w2.setCell ⟨w.heap.size, 0, none⟩ (.slice (some ⟨g2, 0, none⟩) L.length c2)) B g2 L c2 ∧ g2 ≠ w.heap.size ∧ Below B w (w2.setCell ⟨w.heap.size, 0, none⟩ (.slice (some ⟨g2, 0, none⟩) L.length c2)) := by
  have lt := World.ownsRow.lt ho
  have hne : g2 ≠ w.heap.size := fun e => by
    rcases hat with h | h
    · have := lt g2 h; omega
    · omega
  have hb : ∀ k, k < w.heap.size + 1 → (∀ x, (Value.slice q n c).ownBlock = some x → k ≠ x) → w2.heap[k]? = (w.alloc (.cells #[v0] 24)).heap[k]? := fun k hk hx => by
    rw [hg.block k (by simp; omega) (fun e => hx k e.symm rfl)]
    exact (World.grownBy_alloc (w.alloc (.cells #[v0] 24)) ob none).block k (by simp; omega) (by simp)
  have h1 : One w2 w.heap.size v0 24 := (hb w.heap.size (by omega) (fun x hx e => by have := lt x hx; omega)).trans (one_alloc w v0 24)
  have b0 : Below B w w2 := ⟨hg.os, hg.tape, hg.output, Nat.le_trans (by simp; omega) hg.size, fun k hk => (hb k (by omega) (fun x hx e => by have := lt x hx; omega)).trans ((World.grownBy_alloc w (.cells #[v0] 24) none).block k (by omega) (by simp))⟩
  exact ⟨h1.set _, row_far h2 hne, hne, b0.setCell hB _⟩
theorem ent_put (args : Array Value) (w : World) : (callFunc 68 args).run Try.prog w = .ok (.enter 68 args) w := by kernel_rfl
theorem put_start {B o g c n : Nat} {L : List Int} {f : Nat → Int} {w w' : World} (hn : L.length = n) (h1 : One w o (.slice (some ⟨g, 0, none⟩) n c) 24) (h2 : OwnK .u8 5 w B g L c) (h3 : g ≠ o) {s : Nat} (hs : w.heap.size = s) (hm : Made2 w w' s (.pointer (some ⟨o, 0, none⟩)) (.int .i64 0) 77 3) : PutS B s o L f 0 w' := by
  have := h2.lt
  subst hs hn
  refine ⟨g, c, ⟨hm.2.1, hm.1, ?_, ?_, h3, by omega, by omega⟩⟩
  · rw [Pk.pby_zero, List.append_nil]; exact h1.kept hm.2.2.2
  · rw [Pk.pby_zero, List.append_nil]; exact h2.kept hm.2.2.2
theorem blk_bits (l : List Int) {W k : Nat} (x : Int) (hx : l.getD k 0 = x) : ∀ i, i < W → Pk.bitsOf l W (k * W + i) = Pk.bitI x i := fun i hi => by rw [Pk.bitsOf_at l hi, hx]
set_option maxRecDepth 20000 in
set_option maxHeartbeats 3200000 in
theorem p_appendBlock (B : Nat) (pre l : List Int) (vo : Value) (p : Option Addr) (cap : Nat) (w : World) (ho : w.ownsRow B 5 1 vo pre.length (pre.map (Value.int .u8))) (hd : ∀ w', Below B w w' → DatAt w' p l) (hB : B ≤ w.heap.size) (hl : l.length ≤ 256) (ha : alw l 16 = true) (hp : pre.length ≤ 1000000) :
    Calls Try.prog 29 #[vo, .slice p l.length cap] w fun e w' => (∃ v, e = .returned v ∧ w'.ownsRow B 5 1 v (pre ++ blk l).length ((pre ++ blk l).map (Value.int .u8))) ∧ Below B w w' := by
  obtain ⟨q, c, hq⟩ : ∃ q c, vo = .slice q pre.length c := by
    rcases ho.2 with ⟨rfl, h0⟩ | ⟨g, cap, cur, rfl, _⟩
    · exact ⟨none, 0, by rw [h0]⟩
    · exact ⟨_, _, rfl⟩
  subst hq
  have C1 := Lib.hid (fun w1 (h : Below B w w1) => p_width l p cap w1 (hd w1 h) (by omega) ha)
  have w1 := wid_lo l
  have w2 := wid_hi l
  have HW := Lib.hid (show blk l = (wid l : Int) :: Pk.pby (Pk.bitsOf l (wid l)) (l.length * wid l) from rfl)
  obtain ⟨W, hW⟩ : ∃ W, wid l = W := ⟨_, rfl⟩
  rw [hW] at C1 w1 w2 HW
  clear hW
  have hWi : (W : Int) % 256 = W := by omega
  have HO := Lib.hid ho
  have HD := Lib.hid hd
  have HB := Lib.hid hB
  obtain ⟨i0, hinf, hz0, hz1, hz2'⟩ := info_parts Try.infoByte
  have HN := Lib.hid (row_stays (row_stays ho (below_box w (.cells #[.slice q pre.length c] 24))) (below_box _ (.cells #[.int .u8 W] 5)))
  have e1 := ent_put
  have CW := Lib.hid (fun o w1 s hs => p_bitWriter o w1 s hs)
  clear ho hd
  go_enter Try.func29, Try.ntmps29
  go_wp2_with (first
    | (go_at_call 58; ((with_reducible refine (C1.out _ ((Below.refl B w).alloc hB _)).mono ?_); rintro x' w' ⟨rfl, rfl⟩))
    | (at_builtin; refine wpList_append_lies _ rfl (.tmp 11) (.tmp 14) 24 rfl B 5 i0 (.int .u8 0) 1 1 Try.underlying24 hinf hz0 hz1 hz2' rfl (by decide) (.slice q pre.length c) pre.length (pre.map (Value.int .u8)) rfl HN.out ⟨w.heap.size + 1, 0, none⟩ 1 1 [.int .u8 W] rfl rfl (by have := one_new .u8 5 (w.alloc (.cells #[.slice q pre.length c] 24)) W; simpa using this) (one_one .u8 W) (by omega) (by unfold maxLen; omega) (by omega) (by simp; omega) (w.heap.size + 2) (by simp) ?_; intro g2 c2 w2 hown2 hgrow2 hat2 hlt2; (have hA := app_boxed (L := pre ++ [(W : Int)]) HO.out HB.out hgrow2 (by simpa using hown2) hat2); (have hs2 : w.heap.size + 2 ≤ w2.heap.size := by have := hgrow2.size; simpa using this); (rw [show (pre ++ [(W : Int)]).length = pre.length + 1 by simp] at hA); (have HA := Lib.hid hA); (have a1 := (hgrow2.cell_far ⟨w.heap.size, 0, none⟩ (by simp; omega) (fun e => absurd ((World.ownsRow.lt HO.out _ e.symm).2) (Nat.lt_irrefl _))); (have a2 := (hgrow2.frozen_far ⟨w.heap.size, 0, none⟩ (by simp; omega) (fun e => absurd ((World.ownsRow.lt HO.out _ e.symm).2) (Nat.lt_irrefl _)))); clear hown2 hgrow2 hat2 hA))
    | (go_at_call 59; go_loud ((with_reducible refine (CW.out _ _ w2.heap.size (by simp)).mono ?_); rintro x' w4 ⟨rfl, hm⟩; have HP := Lib.hid (put_start (f := Pk.bitsOf l W) (by simp) HA.out.1 HA.out.2.1 HA.out.2.2.1 (by simp) hm); have HB4 := Lib.hid (HA.out.2.2.2.trans (hm.2.2.2.mono (Nat.le_trans hB (by simp; omega)))); clear hm)))
  obtain ⟨s, hs⟩ : ∃ s, w2.heap.size = s := ⟨_, rfl⟩
  obtain ⟨o, hoo⟩ : ∃ o, w.heap.size = o := ⟨_, rfl⟩
  rw [hs] at HP hs2
  simp only [hs, hoo]
  rw [hoo] at HP hs2 hB
  clear HA a1 a2 hlt2 hs HN
  go_loopw [19] (fun i wr => ∃ k : Nat, k ≤ l.length ∧ i = .int .i64 k ∧ Hid (PutS B s o (pre ++ [(W : Int)]) (Pk.bitsOf l W) (k * W) wr) ∧ Hid (Below B w wr)) (fun i _ => l.length - (intOf i).toNat)
  case atStart => exact ⟨0, by omega, rfl, by rw [Nat.zero_mul]; exact HP.out, HB4.out⟩
  case round =>
    clear HP HB4
    obtain ⟨k, hk, rfl, HS, hbw⟩ := hrel
    by_cases hlt : k < l.length
    · obtain ⟨bd, od, hp1, hc1⟩ := (HD.out wr hbw.out).at (i := k) hlt
      obtain ⟨y, hy⟩ : ∃ y, l.getD k 0 = y := ⟨_, rfl⟩
      rw [hy] at hc1
      have hkW : k * W ≤ 256 * 16 := Nat.mul_le_mul (by omega) (by omega)
      have C := Lib.hid (c_put B s o (pre ++ [(W : Int)]) (Pk.bitsOf l W) (k * W) y W wr (Pk.bitsOf_bits l W) HS.out (blk_bits l y hy) (by omega) (by omega) (by simp; omega) (by omega) (by omega) (by omega) (by omega))
      clear hy hkW
      subst hp1
      go_wp2_with (first | (go_at_fn 68; ((with_reducible refine C.out.mono ?_); rintro x' w5 ⟨rfl, hs5, hb5⟩; have HS5 := Lib.hid hs5; have HB5 := Lib.hid (hbw.out.trans hb5); clear hs5 hb5)))
      go_roundw
      case rel => exact ⟨k + 1, by omega, by go_num, by rw [Nat.succ_mul]; exact HS5.out, HB5.out⟩
      case measure => simp [intOf]; omega
    · have e : k = l.length := by omega
      obtain ⟨g3, c3, H3⟩ := HS.out
      have b3 := H3.cell.cell
      have HQ := Lib.hid H3.own
      subst e
      have HE := Lib.hid (show pre ++ [(W : Int)] ++ Pk.pby (Pk.bitsOf l W) (l.length * W) = pre ++ blk l by rw [HW.out]; simp)
      rw [HE.out] at b3 HQ
      obtain ⟨N, hN⟩ : ∃ N, (pre ++ blk l).length = N := ⟨_, rfl⟩
      have HN2 := Lib.hid hN
      rw [hN] at b3
      clear hN H3
      go_wp2
      go_ret
      have e := HN2.out
      subst e
      exact ⟨⟨_, rfl, HQ.out⟩, hbw.out⟩
end Go.Proofs.Ytfljgdehbogimaa
