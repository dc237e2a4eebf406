/-
  Package pattern's reader.cell where its mask is not there or is wrong.
-/
import Derived.Test.YtfjfnbeegojlbaaPRcA
namespace Go.Proofs.Ytfjfnbeegojlbaa
open Go.RowKit

theorem p_cell_nil {w : World} {bR o : Nat} {xs : List Int} {p : Option Addr} {cap i : Nat} (h : Rn w bR xs p cap i) (e : xs.drop i = []) :
    Calls Try.prog 60 #[.pointer (some ⟨bR, 0, none⟩), .pointer (some ⟨bR, o, none⟩)] w fun x w' => x = Pn 12 ∧ w.grownBy w' (some bR) := by
  obtain ⟨W, hW⟩ : ∃ W, W = w.alloc (.cells #[.int .i64 0, .int .i64 0, .int .i64 0, .int .i64 0, .int .i64 0, .int .i64 0] 28) := ⟨_, rfl⟩
  have HB := Lib.hid (show Below w.heap.size w W by rw [hW]; exact below_box _ _)
  have C1 := Lib.hid (p_next_nil (h.below HB.out) e)
  unfold Pn at C1 ⊢
  clear h e
  go_enter Try.func60, Try.ntmps60
  go_upto_region 1 with fail
  rw [← hW]
  clear hW
  go_wp2_with (first | (go_at_call 58; ((with_reducible refine (C1.out).mono ?_); rintro x' w1 ⟨rfl, hb1⟩)))
  exact post_panic rfl ⟨rfl, grownBy_of (stepB HB.out hb1)⟩
theorem p_cell_mask {w : World} {bR o : Nat} {xs : List Int} {p : Option Addr} {cap i : Nat} (h : Rn w bR xs p cap i) {m : Nat} {t : List Int} (e : xs.drop i = (m : Int) :: t) {la : Pt.Cl} (hla : w.rangeAt bR o (CL la)) (ho : 2 ≤ o) (hv : Pt.vmask m la = false) :
    Calls Try.prog 60 #[.pointer (some ⟨bR, 0, none⟩), .pointer (some ⟨bR, o, none⟩)] w fun x w' => x = Pn 9 ∧ w.grownBy w' (some bR) := by
  obtain ⟨W, hW⟩ : ∃ W, W = w.alloc (.cells #[.int .i64 0, .int .i64 0, .int .i64 0, .int .i64 0, .int .i64 0, .int .i64 0] 28) := ⟨_, rfl⟩
  have HB := Lib.hid (show Below w.heap.size w W by rw [hW]; exact below_box _ _)
  have C1 := Lib.hid (p_next_cons (h.below HB.out) e)
  have hm : m < 256 := by
    have := h.hy (m : Int) (List.mem_of_mem_drop (i := i) (by rw [e]; simp))
    omega
  have C2 := Lib.hid (fun u => p_validMask m hm la u)
  rw [hv] at C2
  have C3 := Lib.hid (fun u => p_demand_bad 9 u)
  have HLA := Lib.hid (range_below hla HB.out h.lt)
  have HO := Lib.hid ho
  unfold Pn at C3 ⊢
  clear h e hm hv hla ho
  go_enter Try.func60, Try.ntmps60
  go_upto_region 1 with fail
  rw [← hW]
  clear hW
  go_wp2_with (first | (go_at_call 58; ((with_reducible refine (C1.out).mono ?_); rintro x' w1 ⟨rfl, h1⟩; have H1 := Lib.hid h1; have hr1 := Lib.hid (show w1.rangeAt bR o (CL la) from fun j v hv => by rw [(h1.out (o + j) (by have := HO.out; omega)).1]; exact HLA.out j v hv); clear h1)) | (refine ld_cell (by rfl) _ rfl rfl hr1.out ?_) | (go_at_call 83; ((with_reducible refine (C2.out _).mono ?_); rintro x' w2 ⟨rfl, h2⟩; have H2 := Lib.hid h2; clear h2)) | (go_at_call 59; ((with_reducible refine (C3.out _).mono ?_); rintro x' w3 ⟨rfl, h3⟩)))
  exact post_panic rfl ⟨rfl, grownBy_trans (grownBy_of HB.out) ((H1.out.below (stepB H2.out h3)).gr)⟩
end Go.Proofs.Ytfjfnbeegojlbaa
