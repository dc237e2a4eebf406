/-
  The reference's Text.
-/
import Derived.Test.YtfjfnbeegojlbaaDoorCRt
import Derived.Deep.DeepCutAuto
import Derived.Deep.Light
import Derived.Deep.RegionWith
namespace Go.Proofs.YtfjfnbeegojlbaaDoor
open Go.RowKit

theorem cells_of {W : World} {b : Nat} {c : Pt.Cl} (hC : W.rangeAt b 0 (CL c)) : ∀ u, Below W.heap.size W u → u.rangeAt b 0 (CL c) ∧ u.cell? ⟨b, 0, none⟩ = some (.int .i64 c.nt) ∧ u.cell? ⟨b, 1, none⟩ = some (.int .i64 c.it) ∧ u.cell? ⟨b, 2, none⟩ = some (.int .i64 c.vc) ∧ u.cell? ⟨b, 3, none⟩ = some (.int .i64 c.va) ∧ u.cell? ⟨b, 4, none⟩ = some (.int .i64 c.ef) ∧ u.cell? ⟨b, 5, none⟩ = some (.int .i64 c.pa) := fun u hu => by
  have h := range_below hC hu (cell_lt (hC 0 _ rfl))
  exact ⟨h, h 0 _ rfl, h 1 _ rfl, h 2 _ rfl, h 3 _ rfl, h 4 _ rfl, h 5 _ rfl⟩
theorem r_Text_bad (c : Pt.Cl) (w : World) (h : Pt.vcl c = false) :
    Calls Tryd.prog 5 #[.agg (CL c).toArray] w fun x w' => x = .returned (.tuple #[.string ByteArray.empty, .int .i64 1]) ∧ Below w.heap.size w w' := by
  have C := Lib.hid (fun w => r_ValidCell c w)
  rw [h] at C
  have HR := Lib.hid (fun (w : World) => range_box w (CL c) 23)
  clear h
  go_enter Tryd.func5, Tryd.ntmps5
  go_wp2_with (first | (refine ld_cell (by rfl) _ rfl rfl (HR.out _) ?_) | (go_at_call 7; ((with_reducible refine (C.out _).mono ?_); rintro x' w1 ⟨rfl, hb1⟩)))
  go_ret2
  exact ⟨rfl, stepB (below_box _ _) hb1⟩
theorem vol_one {k : Nat} (h : k < 12) : bys [97 + (k : Int)] = (Pt.VO.extract k 12).extract 0 1 := by
  have all : ∀ i : Fin 12, (bys [97 + (i.val : Int)]).data.toList = ((Pt.VO.extract i.val 12).extract 0 1).data.toList := by decide +kernel
  exact Pt.ext_ls (all ⟨k, h⟩)
theorem z_of {u w2 : World} {x : Value} {t : TypeId} (hb : Below (u.alloc (.cells #[x] t)).drew.heap.size (u.alloc (.cells #[x] t)).drew w2) : w2.cell? ⟨u.heap.size, 0, none⟩ = some x :=
  kept_cell hb (show (u.alloc (.cells #[x] t)).cell? ⟨u.heap.size, 0, none⟩ = some x from by
    have := range_box u [x] t 0 x rfl
    rwa [Nat.zero_add] at this)
/-- What the reference's Text keeps of its cell in block b. -/
def TxS (W : World) (b : Nat) (c : Pt.Cl) (u : World) : Prop := Below W.heap.size W u ∧ b < u.heap.size ∧ u.rangeAt b 0 (CL c)
theorem TxS.below {W u u' : World} {b : Nat} {c : Pt.Cl} (h : TxS W b c u) (hb : Below u.heap.size u u') : TxS W b c u' := ⟨stepB h.1 hb, Nat.lt_of_lt_of_le h.2.1 hb.size, range_below h.2.2 hb h.2.1⟩
theorem TxS.alloc {W u : World} {b : Nat} {c : Pt.Cl} (h : TxS W b c u) (cs : Array Value) (t : TypeId) : TxS W b c (u.alloc (.cells cs t)) := h.below (below_box _ _)
theorem TxS.v {W u : World} {b : Nat} {c : Pt.Cl} {k : Int} (h : TxS W b c u) (hk : c.vc = k) : u.cell? ⟨b, 2, none⟩ = some (.int .i64 k) := by rw [← hk]; exact h.2.2 2 _ rfl
theorem TxS.e {W u : World} {b : Nat} {c : Pt.Cl} {k : Int} (h : TxS W b c u) (hk : c.ef = k) : u.cell? ⟨b, 4, none⟩ = some (.int .i64 k) := by rw [← hk]; exact h.2.2 4 _ rfl
theorem TxS.p {W u : World} {b : Nat} {c : Pt.Cl} {k : Int} (h : TxS W b c u) (hk : c.pa = k) : u.cell? ⟨b, 5, none⟩ = some (.int .i64 k) := by rw [← hk]; exact h.2.2 5 _ rfl
theorem TxS.a {W u : World} {b : Nat} {c : Pt.Cl} {k : Int} (h : TxS W b c u) (hk : c.va = k) : u.cell? ⟨b, 3, none⟩ = some (.int .i64 k) := by rw [← hk]; exact h.2.2 3 _ rfl
theorem dg_at {k : Nat} (h' : k < Pt.DG.size) : Pt.DG[k] = Pt.D36.getD k 0 := by
  have h2 : k < Pt.DG.data.toList.length := by simpa using h'
  show Pt.DG.data.toList[k]'h2 = _
  unfold Pt.D36
  rw [List.getD_eq_getElem?_getD, List.getElem?_eq_getElem h2]
  rfl
theorem eff_three {k n : Nat} (hk : k < 36) (hn : n < 256) {x y z : UInt8} (hx : Pt.D36.getD k 0 = x) (hy : Pt.D36.getD (n / 16) 0 = y) (hz : Pt.D36.getD (n % 16) 0 = z) : bys [(x.toNat : Int), (y.toNat : Int), (z.toNat : Int)] = Pt.dg k ++ Pt.txt2 n 16 := by
  have e : ∀ u : UInt8, UInt8.ofNat ((u.toNat : Int)).toNat = u := fun u => by simp
  refine Pt.ext_ls ?_
  unfold Pt.txt2
  rw [Pt.ls_app, Pt.ls_app, Pt.dg_ls hk, Pt.dg_ls (by omega), Pt.dg_ls (by omega), hx, hy, hz]
  show (((ByteArray.empty.push (UInt8.ofNat ((x.toNat : Int)).toNat)).push (UInt8.ofNat ((y.toNat : Int)).toNat)).push (UInt8.ofNat ((z.toNat : Int)).toNat)).data.toList = _
  rw [e, e, e]
  rfl
set_option maxRecDepth 100000 in
set_option maxHeartbeats 1600000 in
theorem r_Text_ok (c : Pt.Cl) (w : World) (h : Pt.vcl c = true) :
    Calls Tryd.prog 5 #[.agg (CL c).toArray] w fun x w' => x = .returned (.tuple #[.string (Pt.textT c), .int .i64 0]) ∧ Below w.heap.size w w' := by
  have C := Lib.hid (fun w => r_ValidCell c w)
  rw [h] at C
  have HVC := Lib.hid h
  have HVB := Lib.hid (fun k => Pt.vcl_bytes h k)
  have hv := h
  simp only [Pt.vcl, Bool.and_eq_true, Pt.wth_iff] at hv
  obtain ⟨g1, g2, g3, g4, -, g5, g6, -⟩ := hv
  simp only [Pt.vnt, decide_eq_true_eq] at g1
  have HV := Lib.hid (show (c.nt = 0 ∨ (1 ≤ c.nt ∧ c.nt ≤ 120) ∨ c.nt = 253 ∨ c.nt = 254 ∨ c.nt = 255) ∧ (0 ≤ c.it ∧ c.it ≤ 31) ∧ (0 ≤ c.vc ∧ c.vc ≤ 12) ∧ (0 ≤ c.va ∧ c.va ≤ 99) ∧ (0 ≤ c.ef ∧ c.ef ≤ 36) ∧ (0 ≤ c.pa ∧ c.pa ≤ 255) from ⟨by omega, g2, g3, g4, g5, g6⟩)
  clear g1 g2 g3 g4 g5 g6
  obtain ⟨W, hW⟩ : ∃ W, W = w.alloc (.cells (CL c).toArray 23) := ⟨_, rfl⟩
  obtain ⟨b, hb⟩ : ∃ b, b = w.heap.size := ⟨_, rfl⟩
  have hC : W.rangeAt b 0 (CL c) := by rw [hW, hb]; exact range_box _ _ _
  have HB := Lib.hid (show Below w.heap.size w W by rw [hW]; exact below_box _ _)
  have HK := Lib.hid (cells_of hC)
  rw [cl_arr] at hW ⊢
  clear h hC
  go_enter Tryd.func5, Tryd.ntmps5
  go_upto_region 1 with fail
  rw [← hW, ← hb]
  clear hW hb
  generalize Value.agg #[Value.int IntKind.i64 c.nt, Value.int IntKind.i64 c.it, Value.int IntKind.i64 c.vc, Value.int IntKind.i64 c.va, Value.int IntKind.i64 c.ef, Value.int IntKind.i64 c.pa] = A0
  have HC0 := Lib.hid (HK.out W (Below.refl _ _)).1
  go_upto_if 12 with (first | (refine ld_cell (by rfl) _ rfl rfl HC0.out ?_) | (go_at_call 7; ((with_reducible refine (C.out _).mono ?_); rintro x' w1 ⟨rfl, hb1⟩; have HB1 := Lib.hid hb1; clear hb1; obtain ⟨-, -, k1, -⟩ := HK.out w1 HB1.out)))
  obtain ⟨F1, hF1⟩ : ∃ F, Pt.fieldT 1 c = F := ⟨_, rfl⟩
  have HF1 := Lib.hid hF1
  clear hF1
  go_cut [4] (fun u wx => u = .string F1 ∧ Below W.heap.size W wx)
  case first =>
    by_cases h1 : c.it = 0
    · have e1 : (c.it != 0) = false := by rw [h1]; rfl
      have HE := Lib.hid (show F1 = ⟨#[46, 46]⟩ by rw [← HF1.out, Pt.field_un (by unfold Pt.isSet; exact e1)]; rfl)
      clear h1
      go_wp2_with (fail)
      go_meet
      exact ⟨by rw [HE.out], HB1.out⟩
    · have e1 : (c.it != 0) = true := by simpa using h1
      obtain ⟨n, hn⟩ : ∃ n : Nat, c.it = n := ⟨c.it.toNat, by have := HV.out; omega⟩
      have HE := Lib.hid (show F1 = Pt.txt2 n 10 by rw [← HF1.out, Pt.field_set (by unfold Pt.isSet; exact e1), Pt.part_1]; show Pt.txt2 c.it.toNat 10 = _; rw [hn, Int.toNat_natCast])
      have T := Lib.hid (fun u => r_two n u (by have := HV.out; omega))
      rw [hn] at k1 e1 ⊢
      clear h1 hn
      go_wp2_with (first | (go_at_call 14; ((with_reducible refine (T.out _).mono ?_); rintro x' w2 ⟨rfl, hb2⟩; have HB2 := Lib.hid hb2; clear hb2)))
      go_meet
      exact ⟨by rw [HE.out], stepB HB1.out HB2.out⟩
  obtain ⟨rfl, hb2⟩ := hcut
  have HB2 := Lib.hid hb2
  clear hb2
  clear k1
  obtain ⟨-, -, -, k2, k3, -⟩ := HK.out wc HB2.out
  go_upto_if 18 with fail
  obtain ⟨F2, hF2⟩ : ∃ F, Pt.fieldT 2 c = F := ⟨_, rfl⟩
  have HF2 := Lib.hid hF2
  clear hF2
  go_cut [5] (fun u wx => u = .string F2 ∧ Below W.heap.size W wx)
  case first =>
    by_cases h1 : c.vc = 0
    · have e1 : (c.vc != 0) = false := by rw [h1]; rfl
      have HE := Lib.hid (show F2 = ⟨#[46, 46, 46]⟩ by rw [← HF2.out, Pt.field_un (by unfold Pt.isSet; exact e1)]; rfl)
      clear h1
      go_wp2_with (fail)
      go_meet
      exact ⟨by rw [HE.out], HB2.out⟩
    · have e1 : (c.vc != 0) = true := by simpa using h1
      obtain ⟨k, hk⟩ : ∃ k : Nat, c.vc = (k : Int) + 1 := ⟨c.vc.toNat - 1, by have := HV.out; omega⟩
      obtain ⟨n, hn⟩ : ∃ n : Nat, c.va = n := ⟨c.va.toNat, by have := HV.out; omega⟩
      have hk12 : k < 12 := by have := HV.out; omega
      obtain ⟨V, hV⟩ : ∃ V, (Pt.VO.extract k 12).extract 0 1 = V := ⟨_, rfl⟩
      have HE := Lib.hid (show F2 = V ++ Pt.txt2 n 10 by rw [← HF2.out, Pt.field_set (by unfold Pt.isSet; exact e1), Pt.part_2]; show (Pt.VO.extract (c.vc.toNat - 1) 12).extract 0 1 ++ Pt.txt2 c.va.toNat 10 = _; rw [hn, hk, Int.toNat_natCast, show ((k : Int) + 1).toNat - 1 = k by omega, hV])
      obtain ⟨tx, htx⟩ : ∃ tx, Pt.txt2 n 10 = tx := ⟨_, rfl⟩
      have ztx : tx.size = 2 := by rw [← htx]; exact Pt.txt2_size (by have := HV.out; omega) (by omega)
      have zV : V.size = 1 := by rw [← hV]; exact Pt.ext_size Pt.VO k 12 1 (by omega) (by decide)
      have T := Lib.hid (fun u => r_two n u (by have := HV.out; omega))
      rw [htx] at T HE
      have hR : ∀ (u : World) (q : Nat), u.cell? ⟨q, 0, none⟩ = some (.int .u8 (97 + (k : Int))) → (convert 46 9 (.slice (some ⟨q, 0, none⟩) 1 1)).run Tryd.prog u = .ok (.string V) u := fun u q hu => by
        have h := run_string_of u q [97 + (k : Int)] (fun j x hx => by
          match j, hx with
          | 0, hx =>
            obtain rfl : Value.int .u8 (97 + (k : Int)) = x := by simpa using hx
            exact hu
          | j + 1, hx => simp at hx)
        rw [vol_one hk12, hV] at h
        exact h
      have u1 : IntKind.i64.wrap ((k : Int) + 1 - 1) = (k : Int) := IntWalk.i64_in _ (by omega) |>.trans (by omega)
      have u2 : IntKind.u8.wrap (k : Int) = (k : Int) := IntWalk.u8_in _ (by omega)
      have u3 : IntKind.u8.wrap (97 + (k : Int)) = 97 + (k : Int) := IntWalk.u8_in _ (by omega)
      have u4 : IntKind.i64.wrap (k : Int) = (k : Int) := IntWalk.i64_in _ (by omega)
      have u5 : (k : Int) + 1 - 1 = (k : Int) := by omega
      have i1 : (k : Int) ≤ 12 := by omega
      rw [hk] at k2 e1 ⊢
      rw [hn] at k3
      have KS := Lib.hid (show ∀ u, TxS W b c u → TxS W b c u ∧ u.cell? ⟨b, 2, none⟩ = some (.int .i64 ((k : Int) + 1)) ∧ u.cell? ⟨b, 3, none⟩ = some (.int .i64 (n : Int)) from fun u hu => ⟨hu, hu.v hk, hu.a hn⟩)
      have hS0 := KS.out wc.drew ⟨HB2.out.drew, cell_lt k2, (HK.out wc HB2.out).1⟩
      clear h1 hn hk hk12 hV htx
      go_upto_region 7 with fail
      go_region_held (fun u => TxS W b c u ∧ u.cell? ⟨b, 2, none⟩ = some (.int .i64 ((k : Int) + 1)) ∧ u.cell? ⟨b, 3, none⟩ = some (.int .i64 (n : Int)))
        (first | with_reducible assumption | exact KS.out _ (TxS.alloc (And.left (by assumption)) _ _) | exact HS4.out)
        (first | (go_at_call 14; with_reducible refine (T.out _).mono ?_; rintro x' w2 ⟨rfl, hb3⟩; have HS4 := Lib.hid (KS.out _ (TxS.below (And.left (by assumption)) hb3)); (try have z2 := z_of hb3); clear hb3))
      all_goals
        go_wp2_with (fail)
        go_meet
        exact ⟨by rw [HE.out], (And.left (by assumption) : TxS W b c _).1⟩
  obtain ⟨rfl, hb3⟩ := hcut
  have HB3 := Lib.hid hb3
  clear hb3 k2 k3
  rename World => wd
  obtain ⟨-, -, -, -, -, k4, k5⟩ := HK.out wd HB3.out
  go_upto_if 32 with fail
  obtain ⟨F3, hF3⟩ : ∃ F, Pt.fieldT 3 c = F := ⟨_, rfl⟩
  have HF3 := Lib.hid hF3
  clear hF3
  go_cut [6] (fun u wx => u = .string F3 ∧ Below W.heap.size W wx)
  case first =>
    by_cases h1 : c.ef = 0
    · have e1 : (c.ef != 0) = false := by rw [h1]; rfl
      have HE := Lib.hid (show F3 = ⟨#[46, 46, 46]⟩ by rw [← HF3.out, Pt.field_un (by unfold Pt.isSet; exact e1)]; rfl)
      clear h1
      go_wp2_with (fail)
      go_meet
      exact ⟨by rw [HE.out], HB3.out⟩
    · have e1 : (c.ef != 0) = true := by simpa using h1
      obtain ⟨k, hk⟩ : ∃ k : Nat, c.ef = (k : Int) + 1 := ⟨c.ef.toNat - 1, by have := HV.out; omega⟩
      obtain ⟨n, hn⟩ : ∃ n : Nat, c.pa = n := ⟨c.pa.toNat, by have := HV.out; omega⟩
      have hk36 : k < 36 := by have := HV.out; omega
      have hn256 : n < 256 := by have := HV.out; omega
      obtain ⟨q, hq⟩ : ∃ q, n / 16 = q := ⟨_, rfl⟩
      obtain ⟨r, hr⟩ : ∃ r, n % 16 = r := ⟨_, rfl⟩
      have hq36 : q < 36 := by omega
      have hr36 : r < 36 := by omega
      obtain ⟨x, hx, hx'⟩ : ∃ x, (∀ h : k < Pt.DG.size, Pt.DG[k]'h = x) ∧ Pt.D36.getD k 0 = x := ⟨_, fun h => dg_at h, rfl⟩
      obtain ⟨y, hy, hy'⟩ : ∃ y, (∀ h : q < Pt.DG.size, Pt.DG[q]'h = y) ∧ Pt.D36.getD q 0 = y := ⟨_, fun h => dg_at h, rfl⟩
      obtain ⟨z, hz, hz'⟩ : ∃ z, (∀ h : r < Pt.DG.size, Pt.DG[r]'h = z) ∧ Pt.D36.getD r 0 = z := ⟨_, fun h => dg_at h, rfl⟩
      rw [← hq] at hy'
      rw [← hr] at hz'
      have hE3 := eff_three hk36 hn256 hx' hy' hz'
      obtain ⟨E, hE⟩ : ∃ E, Pt.dg k ++ Pt.txt2 n 16 = E := ⟨_, rfl⟩
      rw [hE] at hE3
      have HE := Lib.hid (show F3 = E by rw [← HF3.out, Pt.field_set (by unfold Pt.isSet; exact e1), Pt.part_3]; show Pt.dg (c.ef.toNat - 1) ++ Pt.txt2 c.pa.toNat 16 = _; rw [hn, hk, Int.toNat_natCast, show ((k : Int) + 1).toNat - 1 = k by omega, hE])
      have hR : ∀ (u : World) (g : Nat), u.cell? ⟨g, 0, none⟩ = some (.int .u8 (x.toNat : Int)) → u.cell? ⟨g, 1, none⟩ = some (.int .u8 (y.toNat : Int)) → u.cell? ⟨g, 2, none⟩ = some (.int .u8 (z.toNat : Int)) → (convert 46 9 (.slice (some ⟨g, 0, none⟩) 3 3)).run Tryd.prog u = .ok (.string E) u := fun u g h0 h1 h2 => by
        have h := run_string_of u g [(x.toNat : Int), (y.toNat : Int), (z.toNat : Int)] (fun j v hv => by
          match j, hv with
          | 0, hv =>
            obtain rfl : Value.int .u8 (x.toNat : Int) = v := by simpa using hv
            exact h0
          | 1, hv =>
            obtain rfl : Value.int .u8 (y.toNat : Int) = v := by simpa using hv
            exact h1
          | 2, hv =>
            obtain rfl : Value.int .u8 (z.toNat : Int) = v := by simpa using hv
            exact h2
          | j + 3, hv => simp at hv)
        rw [hE3] at h
        exact h
      have u1 : IntKind.i64.wrap ((k : Int) + 1 - 1) = (k : Int) := IntWalk.i64_in _ (by omega) |>.trans (by omega)
      have u4 : IntKind.i64.wrap (k : Int) = (k : Int) := IntWalk.i64_in _ (by omega)
      have u5 : (k : Int) + 1 - 1 = (k : Int) := by omega
      have u6 : (n : Int).tdiv 16 = (q : Int) := by rw [Int.tdiv_eq_ediv_of_nonneg (by omega)]; omega
      have u7 : (n : Int).tmod 16 = (r : Int) := by rw [Int.tmod_eq_emod_of_nonneg (by omega)]; omega
      have u8 : (n : Int) / 16 = (q : Int) := by omega
      have u9 : (n : Int) % 16 = (r : Int) := by omega
      have u10 : IntKind.i64.wrap (q : Int) = (q : Int) := IntWalk.i64_in _ (by omega)
      have i1 : (k : Int) < 36 := by omega
      have i2 : (q : Int) < 36 := by omega
      have i3 : (r : Int) < 36 := by omega
      rw [hk] at k4 e1 ⊢
      rw [hn] at k5
      have KS := Lib.hid (show ∀ u, TxS W b c u → TxS W b c u ∧ u.cell? ⟨b, 4, none⟩ = some (.int .i64 ((k : Int) + 1)) ∧ u.cell? ⟨b, 5, none⟩ = some (.int .i64 (n : Int)) from fun u hu => ⟨hu, hu.e hk, hu.p hn⟩)
      have hS0 := KS.out wd.drew ⟨HB3.out.drew, cell_lt k4, (HK.out wd HB3.out).1⟩
      unfold Pt.DG at hx hy hz
      clear h1 hn hk hk36 hn256 hq hr hq36 hr36 hE3 hE hx' hy' hz'
      go_upto_region 9 with fail
      go_region_held (fun u => TxS W b c u ∧ u.cell? ⟨b, 4, none⟩ = some (.int .i64 ((k : Int) + 1)) ∧ u.cell? ⟨b, 5, none⟩ = some (.int .i64 (n : Int)))
        (first | with_reducible assumption | exact KS.out _ (TxS.alloc (And.left (by assumption)) _ _))
        (fail)
      all_goals
        go_wp2_with (fail)
        go_meet
        exact ⟨by rw [HE.out], (And.left (by assumption) : TxS W b c _).1⟩
  obtain ⟨rfl, hb4⟩ := hcut
  have HB4 := Lib.hid hb4
  clear hb4 k4 k5
  rename World => we
  obtain ⟨-, k0, -⟩ := HK.out we HB4.out
  obtain ⟨F0, hF0⟩ : ∃ F, nR c.nt = F := ⟨_, rfl⟩
  have HF0 := Lib.hid ((nR_field c).symm.trans hF0)
  have TN := Lib.hid (fun u => r_noted c.nt u HV.out.1)
  rw [hF0] at TN
  clear hF0
  have z0 : F0.size = 3 := by rw [← HF0.out]; exact Pt.field_wid (by decide) HVC.out
  have z1 : F1.size = 2 := by rw [← HF1.out]; exact Pt.field_wid (by decide) HVC.out
  have z2 : F2.size = 3 := by rw [← HF2.out]; exact Pt.field_wid (by decide) HVC.out
  have z3 : F3.size = 3 := by rw [← HF3.out]; exact Pt.field_wid (by decide) HVC.out
  go_wp2_with (first | (go_at_call 15; ((with_reducible refine (TN.out _).mono ?_); rintro x' w9 ⟨rfl, hb9⟩; have HB9 := Lib.hid hb9; clear hb9)))
  go_ret2
  refine ⟨?_, stepB HB.out (stepB HB4.out HB9.out)⟩
  have e : F0 ++ ⟨#[32]⟩ ++ F1 ++ ⟨#[32]⟩ ++ F2 ++ ⟨#[32]⟩ ++ F3 = Pt.textT c := by
    rw [← HF0.out, ← HF1.out, ← HF2.out, ← HF3.out]
    refine Pt.ext_ls ?_
    rw [Pt.textT_ls]
    simp only [Pt.ls_app, List.append_assoc]
    rfl
  show Ending.returned (.tuple #[.string (F0 ++ ⟨#[32]⟩ ++ F1 ++ ⟨#[32]⟩ ++ F2 ++ ⟨#[32]⟩ ++ F3), .int .i64 0]) = _
  rw [e]
theorem r_Text (c : Pt.Cl) (w : World) :
    Calls Tryd.prog 5 #[.agg (CL c).toArray] w fun x w' => x = .returned (.tuple #[.string (if Pt.vcl c then Pt.textT c else ByteArray.empty), .int .i64 (if Pt.vcl c then 0 else 1)]) ∧ Below w.heap.size w w' := by
  cases h : Pt.vcl c with
  | false => exact r_Text_bad c w h
  | true => exact r_Text_ok c w h
end Go.Proofs.YtfjfnbeegojlbaaDoor
