/-
  The contract of package pack's bit writer (the function literal of bitWriter).
-/
import Derived.Test.YtfljgdehbogimaaPWid
import Derived.Deep.RegionLaw
import Derived.Deep.DeepCutAuto
import Derived.Deep.CutBlock
namespace Go.Proofs.Ytfljgdehbogimaa
open Go.RowKit

/-- The bit writer's state: n bits so far; L lies in the slice (block g) whose cell is o; s and s + 1 are what the literal captured. -/
structure Wr (B s o n : Nat) (L : List Int) (g c : Nat) (w : World) : Prop where
  at_ : One w (s + 1) (.int .i64 n) 3
  ptr : One w s (.pointer (some ⟨o, 0, none⟩)) 77
  cell : One w o (.slice (some ⟨g, 0, none⟩) L.length c) 24
  own : OwnK .u8 5 w B g L c
  n1 : g ≠ o
  n2 : g ≠ s
  n3 : g ≠ s + 1
theorem map_getD {k : IntKind} {l : List Int} {i : Nat} (h : i < l.length) : (l.map (Value.int k))[i]? = some (.int k (l.getD i 0)) := by
  simp [List.getD_eq_getElem?_getD, h]
theorem bit_and (x : Int) (k : Nat) : bits .and .u8 (x / 2 ^ k % 256) 1 = Pk.bitI x k := by
  unfold Pk.bitI
  generalize x / 2 ^ k = z
  have h0 : 0 ≤ z % 256 := by omega
  have h1 : z % 256 < 256 := by omega
  have e : z % 2 = z % 256 % 2 := by omega
  rw [e]
  generalize z % 256 = y at *
  show IntKind.u8.wrap ((BitVec.ofInt 8 y &&& BitVec.ofInt 8 1).toNat : Int) = _
  rw [BitVec.toNat_and, BitVec.toNat_ofInt, BitVec.toNat_ofInt]
  have e2 : ((1 : Int) % ((2 ^ 8 : Nat) : Int)).toNat = 2 ^ 1 - 1 := by decide
  rw [e2, Nat.and_two_pow_sub_one_eq_mod]
  have e3 : (y % ((2 ^ 8 : Nat) : Int)).toNat = y.toNat := by
    rw [Int.emod_eq_of_lt h0 (by simpa using h1)]
  rw [e3]
  simp [IntKind.wrap, IntKind.signed, IntKind.bits]
  omega
theorem byte_or {y b : Int} {r : Nat} (y0 : 0 ≤ y) (y1 : y < 2 ^ r) (hr : r ≤ 7) (hb : b = 0 ∨ b = 1) : bits .or .u8 y (b * 2 ^ r % 256) = y + b * 2 ^ r := by
  have hq : (2 : Int) ^ r ≤ 128 := by
    have : (2 : Nat) ^ r ≤ 2 ^ 7 := Nat.pow_le_pow_right (by decide) hr
    have e : ((2 ^ r : Nat) : Int) = (2 : Int) ^ r := by norm_cast
    omega
  have hp : (0 : Int) < 2 ^ r := Int.pow_pos (by decide)
  have hz : ∀ z : Int, 0 ≤ z → z < 256 → (z % ((2 ^ 8 : Nat) : Int)).toNat = z.toNat := fun z h1 h2 => by rw [Int.emod_eq_of_lt h1 (by simpa using h2)]
  show IntKind.u8.wrap ((BitVec.ofInt 8 y ||| BitVec.ofInt 8 (b * 2 ^ r % 256)).toNat : Int) = _
  rw [BitVec.toNat_or, BitVec.toNat_ofInt, BitVec.toNat_ofInt, hz y y0 (by omega)]
  rcases hb with rfl | rfl
  · simp [IntKind.wrap, IntKind.signed, IntKind.bits]
    omega
  · rw [Int.one_mul, Int.emod_eq_of_lt (by omega) (by omega : (2 : Int) ^ r < 256), hz _ (by omega) (by omega)]
    have e : ((2 : Int) ^ r).toNat = 2 ^ r := by
      have e : ((2 ^ r : Nat) : Int) = (2 : Int) ^ r := by norm_cast
      omega
    have e2 : 2 ^ r * 1 + y.toNat = 2 ^ r * 1 ||| y.toNat := Nat.two_pow_add_eq_or_of_lt (by omega) 1
    rw [e, Nat.or_comm, ← Nat.mul_one (2 ^ r), ← e2]
    have e3 : ((2 ^ r * 1 + y.toNat : Nat) : Int) = y + 2 ^ r := by
      have e : ((2 ^ r : Nat) : Int) = (2 : Int) ^ r := by norm_cast
      omega
    rw [e3]
    simp [IntKind.wrap, IntKind.signed, IntKind.bits]
    omega
theorem row_far {k : IntKind} {e : TypeId} {w : World} {B g c : Nat} {l : List Int} (h : OwnK k e w B g l c) {a : Addr} {v : Value} (hne : g ≠ a.block) : OwnK k e (w.setCell a v) B g l c :=
  World.ownsRow.kept (row := some a.block) h ⟨rfl, rfl, rfl, by simp [World.setCell], fun k _ hk => Below.heap_setCell w a v k (fun e => hk (congrArg some e))⟩ (.inr (by simpa [Value.ownBlock] using hne))
theorem cell_new_old {w : World} {ob : Obj} {b : Nat} {v : Value} (h : w.cell? ⟨b, 0, none⟩ = some v) : (w.alloc ob).cell? ⟨b, 0, none⟩ = some v := kept_cell (below_box w ob) h
theorem free_new_old {w : World} {ob : Obj} {b : Nat} (h : w.frozen? ⟨b, 0, none⟩ = false) (hb : b < w.heap.size) : (w.alloc ob).frozen? ⟨b, 0, none⟩ = false := ((below_box w ob).frozen (p := ⟨b, 0, none⟩) hb).trans h
theorem Wr.grow {B s o n : Nat} {L : List Int} {g c : Nat} {w w2 : World} (h : Wr B s o n L g c w) {ob : Obj} (hg : (w.drew.alloc ob).grownBy w2 (some g)) {g2 c2 : Nat} (h2 : w2.ownsRow B 5 1 (.slice (some ⟨g2, 0, none⟩) (L.length + 1) c2) (L.length + 1) (L.map (Value.int .u8) ++ [.int .u8 0]))
    (hat : some g = some g2 ∨ g2 = w.heap.size + 1) (ho1 : o ≠ s) (ho2 : o ≠ s + 1) (hBo : B ≤ o) (hBg : B ≤ g) (_hBw : B ≤ w.heap.size) : Wr B s o n (L ++ [0]) g2 c2 (w2.setCell ⟨o, 0, none⟩ (.slice (some ⟨g2, 0, none⟩) (L.length + 1) c2)) ∧ Below B w (w2.setCell ⟨o, 0, none⟩ (.slice (some ⟨g2, 0, none⟩) (L.length + 1) c2)) := by
  have bl : ∀ k, k < w.heap.size → k ≠ g → w2.heap[k]? = w.heap[k]? := fun k hk hne => by
    rw [hg.block k (by simp; omega) (fun e => hne (Option.some.inj e))]
    exact (World.grownBy_alloc w.drew ob none).block k hk (by simp)
  have l1 := h.at_.lt
  have l2 := h.ptr.lt
  have l3 := h.cell.lt
  have kp : ∀ {c0 : Nat} {v : Value} {t : TypeId}, One w c0 v t → c0 ≠ g → One w2 c0 v t := fun h0 hne => (bl _ h0.lt hne).trans h0
  have g2ne : ∀ c0, c0 < w.heap.size → c0 ≠ g → g2 ≠ c0 := fun c0 hc hne e => by
    rcases hat with h | h
    · exact hne (by rw [← e]; exact (Option.some.inj h).symm)
    · omega
  have m1 := g2ne o l3 h.n1.symm
  refine ⟨⟨(kp h.at_ h.n3.symm).other (fun e => ho2 e.symm) _, (kp h.ptr h.n2.symm).other (fun e => ho1 e.symm) _, ?_, ?_, m1, g2ne s l2 h.n2.symm, g2ne (s + 1) l1 h.n3.symm⟩, ?_⟩
  · have := (kp h.cell h.n1.symm).set (.slice (some ⟨g2, 0, none⟩) (L.length + 1) c2)
    simpa using this
  · have h3 : OwnK .u8 5 w2 B g2 (L ++ [0]) c2 := by
      unfold OwnK
      simpa using h2
    exact row_far h3 m1
  · have b0 : Below B w w2 := ⟨hg.os, hg.tape, hg.output, Nat.le_trans (by simp) hg.size, fun k hk => bl k (by omega) (by omega)⟩
    exact b0.setCell hBo _
theorem Wr.drew {B s o n : Nat} {L : List Int} {g c : Nat} {w : World} (h : Wr B s o n L g c w) : Wr B s o n L g c w.drew := ⟨h.at_, h.ptr, h.cell, h.own, h.n1, h.n2, h.n3⟩
theorem Wr.store {B s o n : Nat} {L : List Int} {g c : Nat} {w : World} (h : Wr B s o n L g c w) (i : Nat) (x : Int) : Wr B s o n (L.set i x) g c (w.setCell ⟨g, i, none⟩ (.int .u8 x)) ∧ Below B w (w.setCell ⟨g, i, none⟩ (.int .u8 x)) := by
  refine ⟨⟨h.at_.other h.n3.symm _, h.ptr.other h.n2.symm _, ?_, ?_, h.n1, h.n2, h.n3⟩, (Below.refl B w).setCell h.own.ge _⟩
  · rw [List.length_set]
    exact h.cell.other h.n1.symm _
  · unfold OwnK
    rw [List.length_set, List.map_set]
    exact (World.ownsRow.stored h.own i (.int .u8 x)).1
theorem Wr.tick {B s o n : Nat} {L : List Int} {g c : Nat} {w : World} (h : Wr B s o n L g c w) (m : Nat) (hB : B ≤ s) (ho : o ≠ s + 1) : Wr B s o m L g c (w.setCell ⟨s + 1, 0, none⟩ (.int .i64 m)) ∧ Below B w (w.setCell ⟨s + 1, 0, none⟩ (.int .i64 m)) :=
  ⟨⟨h.at_.set _, h.ptr.other (by simp) _, h.cell.other ho _, row_far h.own h.n3, h.n1, h.n2, h.n3⟩, (Below.refl B w).setCell (by show B ≤ s + 1; omega) _⟩
/-- After n bits. -/
def PutS (B s o : Nat) (pre : List Int) (f : Nat → Int) (n : Nat) (w : World) : Prop := ∃ g c, Wr B s o n (pre ++ Pk.pby f n) g c w
theorem bits_le (pre : List Int) (f : Nat → Int) (n : Nat) (hp : pre.length ≤ 1048576) (hn : n ≤ 131072) : (pre ++ Pk.pby f n).length ≤ 2097152 := by
  rw [List.length_append, Pk.pby_length]; omega
theorem room_new (pre : List Int) (f : Nat → Int) (n : Nat) (h : n % 8 = 0) : pre ++ Pk.room f n = pre ++ Pk.pby f n ++ [0] := by
  unfold Pk.room
  rw [if_pos h, List.append_assoc]
theorem room_old (pre : List Int) (f : Nat → Int) (n : Nat) (h : n % 8 ≠ 0) : pre ++ Pk.room f n = pre ++ Pk.pby f n := by
  unfold Pk.room
  rw [if_neg h]
/-- What a round of the writer's loop keeps. -/
structure PutR (B s o : Nat) (pre : List Int) (f : Nat → Int) (n cnt : Nat) (w : World) (i : Value) (wr : World) : Prop where
  ex : ∃ k : Nat, k ≤ cnt ∧ i = .int .i64 k ∧ PutS B s o pre f (n + k) wr ∧ Below B w wr
set_option maxHeartbeats 3200000 in
set_option maxRecDepth 20000 in
theorem c_put (B s o : Nat) (pre : List Int) (f : Nat → Int) (n : Nat) (v : Int) (cnt : Nat) (w : World) (hf : Pk.Bits f) (hS : PutS B s o pre f n w) (hv : ∀ i, i < cnt → f (n + i) = Pk.bitI v i) (hc : cnt ≤ 16) (hn : n ≤ 65536) (hp : pre.length ≤ 1048576) (hBs : B ≤ s) (hBo : B ≤ o) (hso : o ≠ s) (hso1 : o ≠ s + 1) :
    Calls Try.prog 68 #[.int .i64 v, .int .i64 cnt, .pointer (some ⟨s + 1, 0, none⟩), .pointer (some ⟨s, 0, none⟩)] w fun e w' => e = .returned (.tuple #[]) ∧ PutS B s o pre f (n + cnt) w' ∧ Below B w w' := by
  have HS := Lib.hid hS
  have HV := Lib.hid hv
  have HF := Lib.hid hf
  obtain ⟨i0, hinf, hz0, hz1, hz2'⟩ := info_parts Try.infoByte
  have hBw : B ≤ w.heap.size := by obtain ⟨g, c, h⟩ := hS; have := h.ptr.lt; omega
  clear hS hv hf
  go_enter Try.func68, Try.ntmps68
  go_wp2
  go_loopw [9] (fun i wr => PutR B s o pre f n cnt w i wr) (fun i _ => cnt - (intOf i).toNat)
  case atStart => exact ⟨0, by omega, rfl, HS.out, Below.refl _ _⟩
  case round =>
    clear HS
    obtain ⟨k, hk, rfl, hs, hb⟩ := hrel
    have HS := Lib.hid hs
    have HB := Lib.hid hb
    have hBr : B ≤ wr.heap.size := Nat.le_trans hBw hb.size
    clear hs hb
    by_cases hlt : k < cnt
    · have HVK := Lib.hid (HV.out k hlt)
      obtain ⟨m, hm⟩ : ∃ m, n + k = m := ⟨_, rfl⟩
      rw [hm] at HS HVK
      have HM := Lib.hid hm
      have hm2 : m ≤ 65552 := by omega
      clear hm
      have HA := Lib.hid (show ∃ g c, Wr B s o m (pre ++ Pk.pby f m) g c wr from HS.out)
      obtain ⟨g, c, H⟩ := HS.out
      have hL := bits_le pre f m hp (by omega)
      have HRN := Lib.hid (room_new pre f m)
      have HRO := Lib.hid (room_old pre f m)
      obtain ⟨L, hLe⟩ : ∃ L, pre ++ Pk.pby f m = L := ⟨_, rfl⟩
      rw [hLe] at H hL HRN HRO HA
      have HLe := Lib.hid hLe
      clear hLe
      obtain ⟨N, hN⟩ : ∃ N, L.length = N := ⟨_, rfl⟩
      have a1 := H.at_.cell
      have a2 := H.ptr.cell
      have a3 := H.cell.cell
      have a4 := H.cell.free
      have HH := Lib.hid H
      have g1 := H.own.ge
      have n1 := H.n1
      have n2 := H.n2
      have lo := H.cell.lt
      have ls := H.ptr.lt
      rw [hN] at a3 hL
      have HN := Lib.hid hN
      clear H hN HA
      go_upto_if 14 with fail
      go_cut [] (fun wx => (∃ g c, Wr B s o m (pre ++ Pk.room f m) g c wx) ∧ Below B wr wx)
      case first =>
        by_cases h8 : m % 8 = 0
        · have h8i : (m : Int).tmod 8 = 0 := by rw [Int.tmod_eq_emod_of_nonneg (by omega)]; omega
          have HN1 : Hid ((wr.drew.alloc (.cells #[.int .u8 0] 5)).ownsRow B 5 1 (.slice (some ⟨g, 0, none⟩) N c) N (L.map (Value.int .u8))) := Lib.hid (HN.out ▸ row_stays (World.ownsRow.drew HH.out.own) (below_box _ _))
          go_wp2_with fail
          go_region_law (refine step_append_lies _ rfl (.tmp 18) (.tmp 19) 24 rfl B 5 i0 (.int .u8 0) 1 1 Try.underlying24 hinf hz0 hz1 hz2' rfl (by decide) (.slice (some ⟨g, 0, none⟩) N c) N (L.map (Value.int .u8)) (by simp [Act.eval]) HN1.out ⟨wr.heap.size, 0, none⟩ 1 1 [.int .u8 0] (by simp [Act.eval]) rfl (one_new .u8 _ wr.drew 0) (one_one .u8 0) (by omega) (by unfold maxLen; omega) (by omega) (by simp; omega) _ rfl ?_; intro g2 c2 w2 hown2 hgrow2 hat2 hlt2; have a5 := (hgrow2.cell_far ⟨o, 0, none⟩ (by simp; omega) (by simpa [Value.ownBlock] using fun e => n1 e.symm)).trans (cell_new_old a3); have a6 := (hgrow2.frozen_far ⟨o, 0, none⟩ (by simp; omega) (by simpa [Value.ownBlock] using fun e => n1 e.symm)).trans (free_new_old a4 lo); have a7 := (hgrow2.cell_far ⟨s, 0, none⟩ (by simp; omega) (by simpa [Value.ownBlock] using fun e => n2 e.symm)).trans (cell_new_old a2))
          all_goals
            go_wp2_with fail
            go_meet
            have hN := HN.out
            subst hN
            have q := HH.out.grow hgrow2 hown2 (by simpa [Value.ownBlock] using hat2) hso hso1 hBo g1 hBr
            exact ⟨⟨_, _, by rw [HRN.out h8]; exact q.1⟩, q.2⟩
        · have h8i : ((m : Int).tmod 8 == 0) = false := by rw [Int.tmod_eq_emod_of_nonneg (by omega)]; simp; omega
          go_wp2
          go_meet
          exact ⟨⟨_, _, by rw [HRO.out h8]; exact HH.out⟩, Below.refl _ _⟩
      case rest =>
        obtain ⟨⟨g2, c2, H2⟩, hb2⟩ := hcut
        have b1 := H2.at_.cell
        have b2 := H2.ptr.cell
        have b3 := H2.cell.cell
        have b5 := H2.at_.free
        have hRl : (pre ++ Pk.room f m).length = pre.length + m / 8 + 1 := by rw [List.length_append, Pk.room_length]; omega
        have hRg : (pre ++ Pk.room f m).getD (pre.length + m / 8) 0 = Pk.pbyte f m (m / 8) := by
          have := Pk.room_getD (f := f) m (m / 8) (by omega)
          rw [← this, List.getD_eq_getElem?_getD, List.getD_eq_getElem?_getD, List.getElem?_append_right (by omega)]
          simp
        have hy := Pk.pbyte_small HF.out m
        have hstep := Pk.pby_step f m
        have HH2 := Lib.hid H2
        have hM : pre.length + m / 8 ≤ 2097152 := by omega
        obtain ⟨y, hye⟩ : ∃ y, Pk.pbyte f m (m / 8) = y := ⟨_, rfl⟩
        have b4 := H2.own.cellAt (pre.length + m / 8) (by omega)
        have b6 := H2.own.frozenAt (pre.length + m / 8)
        rw [hye] at hy hRg hstep
        rw [hRl] at b3
        have b4' : wc.cell? ⟨g2, pre.length + m / 8, none⟩ = some (.int .u8 y) := by
          rw [b4, ← hRg]
          exact map_getD (by omega)
        obtain ⟨M, hMe⟩ : ∃ M, pre.length + m / 8 = M := ⟨_, rfl⟩
        rw [hMe] at b3 b4' b6 hM
        have HST := Lib.hid hstep
        have HME := Lib.hid hMe
        have HYE := Lib.hid hye
        have HY := Lib.hid hy
        have y0 := hy.1
        have y1 : y < 256 := by
          have := Pk.pbyte_hi HF.out m (m / 8)
          omega
        clear H2 hRl hRg hstep b4 hMe hye hy a1 a2 a3 a4 lo ls n1 n2 HS HRO HRN
        have hbit : bits .and .u8 (v / 2 ^ k % 256) 1 = f m := (bit_and v k).trans HVK.out.symm
        obtain ⟨b, hb⟩ : ∃ b, f m = b := ⟨_, rfl⟩
        have hb01 := HF.out m
        rw [hb] at hbit HST hb01
        clear hb
        go_wp2_with fail
        go_region
        have hor := byte_or (r := m % 8) y0 HY.out.2 (by omega) hb01
        rw [hor]
        have q := HH2.out.store M (y + b * 2 ^ (m % 8))
        have hset : (pre ++ Pk.room f m).set M (y + b * 2 ^ (m % 8)) = pre ++ Pk.pby f (m + 1) := by
          rw [HST.out, ← HME.out, List.set_append_right _ _ (by omega)]
          congr 2
          omega
        rw [hset] at q
        have hQB := Lib.hid (hb2.trans q.2)
        obtain ⟨W3, hW3⟩ : ∃ W3, W3 = (wc.setCell ⟨g2, M, none⟩ (.int .u8 (y + b * 2 ^ (m % 8)))).drew := ⟨_, rfl⟩
        have hq1 : Wr B s o m (pre ++ Pk.pby f (m + 1)) g2 c2 W3 := hW3 ▸ q.1.drew
        have HB3 := Lib.hid (show Below B w W3 from hW3 ▸ (HB.out.trans hQB.out).drew)
        have HQ := Lib.hid hq1
        have d1 := hq1.at_.cell
        have d2 := hq1.at_.free
        rw [← hW3]
        clear hW3 hq1 q hset hor b1 b2 b3 b4' b5 b6 hbit
        go_wp2
        have HT := Lib.hid (HQ.out.tick (m + 1) hBs hso1)
        go_roundw
        case rel => exact ⟨⟨k + 1, by omega, by go_num, by rw [show n + (k + 1) = m + 1 by have := HM.out; omega]; exact ⟨_, _, HT.out.1⟩, HB3.out.trans HT.out.2⟩⟩
        case measure => simp [intOf]; omega
    · have e : k = cnt := by omega
      subst e
      go_wp2
      go_end0
      exact ⟨rfl, HS.out, HB.out⟩
end Go.Proofs.Ytfljgdehbogimaa
