/-
  The reference's parts and same: a cell's parts as slices of numbers.
-/
import Derived.Test.YtfjfnbeegojlbaaRVal
import Derived.Test.YtfjfnbeegojlbaaPUnA
namespace Go.Proofs.Ytfjfnbeegojlbaa
open Go.RowKit

def ii (xs : List Int) : List Value := xs.map (.int .i64)
/-- A part as a slice of numbers in memory. -/
def Sv (w : World) (k : Nat) (v : Int × Int) (g : Nat) : Prop := g < w.heap.size ∧ w.rangeAt g 0 (ii (Pt.numsOf k v))
def sl (k g : Nat) : Value := .slice (some ⟨g, 0, none⟩) (Pt.num k) (Pt.num k)
theorem nums_len (k : Nat) (v : Int × Int) : (Pt.numsOf k v).length = Pt.num k := by
  have := Pt.num_le k
  simp [Pt.numsOf]
  omega
theorem Sv.below {w w' : World} {k : Nat} {v : Int × Int} {g : Nat} (h : Sv w k v g) (hb : Below w.heap.size w w') : Sv w' k v g :=
  ⟨Nat.lt_of_lt_of_le h.1 hb.size, range_below h.2 hb h.1⟩
theorem Sv.grown {w w' : World} {k : Nat} {v : Int × Int} {g r : Nat} (h : Sv w k v g) (hb : w.grownBy w' (some r)) (hne : g ≠ r) : Sv w' k v g :=
  ⟨Nat.lt_of_lt_of_le h.1 hb.size, range_grown h.2 hb hne h.1⟩
theorem Try.infoSs : (Try.prog.info? 72).map (·.size) = some 4 := by kernel_rfl
/-- What parts hands back: four slices in new memory. -/
def RetQ (c : Pt.Cl) (B : Nat) (x : Ending) (w' : World) : Prop := ∃ g : Nat → Nat, x = .returned (.agg #[sl 0 (g 0), sl 1 (g 1), sl 2 (g 2), sl 3 (g 3)]) ∧ ∀ k, k < 4 → B ≤ g k ∧ Sv w' k (Pt.pv k c) (g k)
set_option maxRecDepth 100000 in
theorem r_parts (c : Pt.Cl) (w : World) :
    Calls Try.prog 39 #[.agg (CL c).toArray] w fun x w' => RetQ c w.heap.size x w' ∧ Below w.heap.size w w' := by
  rw [cl_arr]
  go_enter Try.func39, Try.ntmps39
  go_wp2
  obtain ⟨w1, h1⟩ : ∃ u, u = w.alloc (Obj.cells #[.int .i64 c.nt, .int .i64 c.it, .int .i64 c.vc, .int .i64 c.va, .int .i64 c.ef, .int .i64 c.pa] 28) := ⟨_, rfl⟩
  obtain ⟨w2, h2⟩ : ∃ u, u = w1.alloc (Obj.cells #[.slice (some ⟨w.heap.size + 1 + 1, 0, none⟩) 1 1, .slice (some ⟨w.heap.size + 1 + 1 + 1, 0, none⟩) 1 1, .slice (some ⟨w.heap.size + 1 + 1 + 1 + 1, 0, none⟩) 2 2, .slice (some ⟨w.heap.size + 1 + 1 + 1 + 1 + 1, 0, none⟩) 2 2] 72) := ⟨_, rfl⟩
  obtain ⟨w3, h3⟩ : ∃ u, u = w2.alloc (Obj.cells #[.int .i64 c.nt] 3) := ⟨_, rfl⟩
  obtain ⟨w4, h4⟩ : ∃ u, u = w3.alloc (Obj.cells #[.int .i64 c.it] 3) := ⟨_, rfl⟩
  obtain ⟨w5, h5⟩ : ∃ u, u = w4.alloc (Obj.cells #[.int .i64 c.vc, .int .i64 c.va] 3) := ⟨_, rfl⟩
  obtain ⟨w6, h6⟩ : ∃ u, u = w5.alloc (Obj.cells #[.int .i64 c.ef, .int .i64 c.pa] 3) := ⟨_, rfl⟩
  rw [← h1, ← h2, ← h3, ← h4, ← h5, ← h6]
  have s1 : w1.heap.size = w.heap.size + 1 := by rw [h1]; simp
  have s2 : w2.heap.size = w.heap.size + 2 := by rw [h2]; simp [s1]
  have s3 : w3.heap.size = w.heap.size + 3 := by rw [h3]; simp [s2]
  have s4 : w4.heap.size = w.heap.size + 4 := by rw [h4]; simp [s3]
  have s5 : w5.heap.size = w.heap.size + 5 := by rw [h5]; simp [s4]
  have b1 : Below w.heap.size w w1 := by rw [h1]; exact below_box _ _
  have b2 : Below w1.heap.size w1 w2 := by rw [h2]; exact below_box _ _
  have b3 : Below w2.heap.size w2 w3 := by rw [h3]; exact below_box _ _
  have b4 : Below w3.heap.size w3 w4 := by rw [h4]; exact below_box _ _
  have b5 : Below w4.heap.size w4 w5 := by rw [h5]; exact below_box _ _
  have b6 : Below w5.heap.size w5 w6 := by rw [h6]; exact below_box _ _
  have r2 : w2.rangeAt w1.heap.size 0 [sl 0 (w.heap.size + 2), sl 1 (w.heap.size + 3), sl 2 (w.heap.size + 4), sl 3 (w.heap.size + 5)] := by rw [h2]; exact range_box w1 _ _
  have r3 : w3.rangeAt w2.heap.size 0 (ii (Pt.numsOf 0 (Pt.pv 0 c))) := by rw [h3]; exact range_box w2 _ _
  have r4 : w4.rangeAt w3.heap.size 0 (ii (Pt.numsOf 1 (Pt.pv 1 c))) := by rw [h4]; exact range_box w3 _ _
  have r5 : w5.rangeAt w4.heap.size 0 (ii (Pt.numsOf 2 (Pt.pv 2 c))) := by rw [h5]; exact range_box w4 _ _
  have r6 : w6.rangeAt w5.heap.size 0 (ii (Pt.numsOf 3 (Pt.pv 3 c))) := by rw [h6]; exact range_box w5 _ _
  have n6 : w6.heap.size = w.heap.size + 6 := by rw [h6]; simp [s5]
  have r2' := range_below (range_below (range_below (range_below r2 b3 (by omega)) b4 (by omega)) b5 (by omega)) b6 (by omega)
  have r3' := range_below (range_below (range_below r3 b4 (by omega)) b5 (by omega)) b6 (by omega)
  have r4' := range_below (range_below r4 b5 (by omega)) b6 (by omega)
  have r5' := range_below r5 b6 (by omega)
  rw [s1] at r2'
  rw [s2] at r3'
  rw [s3] at r4'
  rw [s4] at r5'
  rw [s5] at r6
  refine bodyPost_ret (res_row (cs := [sl 0 (w.heap.size + 2), sl 1 (w.heap.size + 3), sl 2 (w.heap.size + 4), sl 3 (w.heap.size + 5)]) Try.underlying72 rfl Try.infoSs rfl rfl r2') rfl ⟨⟨fun k => w.heap.size + 2 + k, rfl, fun k hk => ?_⟩, stepB (stepB (stepB (stepB (stepB b1 b2) b3) b4) b5) b6⟩
  match k, hk with
  | 0, _ => exact ⟨(show w.heap.size ≤ w.heap.size + 2 + 0 by omega), (show w.heap.size + 2 + 0 < w6.heap.size by rw [n6]; omega), r3'⟩
  | 1, _ => exact ⟨(show w.heap.size ≤ w.heap.size + 2 + 1 by omega), (show w.heap.size + 2 + 1 < w6.heap.size by rw [n6]; omega), r4'⟩
  | 2, _ => exact ⟨(show w.heap.size ≤ w.heap.size + 2 + 2 by omega), (show w.heap.size + 2 + 2 < w6.heap.size by rw [n6]; omega), r5'⟩
  | 3, _ => exact ⟨(show w.heap.size ≤ w.heap.size + 2 + 3 by omega), (show w.heap.size + 2 + 3 < w6.heap.size by rw [n6]; omega), r6⟩
theorem ii_get {xs : List Int} {i : Nat} (hi : i < xs.length) : (ii xs)[i]? = some (.int .i64 (xs.getD i 0)) := by
  simp [ii, List.getD_eq_getElem?_getD, hi]
set_option maxHeartbeats 800000 in
theorem r_same (n : Nat) (xs ys : List Int) (g h cp cq : Nat) (hx : xs.length = n) (hy : ys.length = n) (hn : n ≤ 10) (w : World) (rx : w.rangeAt g 0 (ii xs)) (ry : w.rangeAt h 0 (ii ys)) :
    Calls Try.prog 40 #[.slice (some ⟨g, 0, none⟩) n cp, .slice (some ⟨h, 0, none⟩) n cq] w fun x w' => x = .returned (.bool (decide (xs = ys))) ∧ ∃ m, w' = w.drewN m := by
  have RX := Lib.hid rx
  have RY := Lib.hid ry
  have HX := Lib.hid (show xs.length = n ∧ ys.length = n from ⟨hx, hy⟩)
  clear rx ry hx hy
  go_enter Try.func40, Try.ntmps40
  go_wp2
  go_loopw [4, 5] (fun _ i wr => ∃ k m : Nat, k ≤ n ∧ i = .int .i64 k ∧ Hid (∀ j, j < k → xs.getD j 0 = ys.getD j 0) ∧ wr = w.drewN m) (fun _ i _ => n - (intOf i).toNat)
  case atStart => exact ⟨0, 0, by omega, rfl, fun _ h => by omega, rfl⟩
  case round =>
    obtain ⟨k, m, hk, rfl, HE, rfl⟩ := hrel
    by_cases hlt : k < n
    · have hlt' : (k : Int) < (n : Int) := by omega
      have HLT := Lib.hid hlt
      have a1 : w.cell? ⟨g, k, none⟩ = some (.int .i64 (xs.getD k 0)) := by
        have := RX.out k _ (ii_get (by rw [HX.out.1]; exact hlt))
        rwa [Nat.zero_add] at this
      have a2 : w.cell? ⟨h, k, none⟩ = some (.int .i64 (ys.getD k 0)) := by
        have := RY.out k _ (ii_get (by rw [HX.out.2]; exact hlt))
        rwa [Nat.zero_add] at this
      obtain ⟨x, hxe⟩ : ∃ x, xs.getD k 0 = x := ⟨_, rfl⟩
      obtain ⟨y, hye⟩ : ∃ y, ys.getD k 0 = y := ⟨_, rfl⟩
      rw [hxe] at a1
      rw [hye] at a2
      have HXE := Lib.hid (show xs.getD k 0 = x ∧ ys.getD k 0 = y from ⟨hxe, hye⟩)
      clear hlt hxe hye
      by_cases hxy : x = y
      · subst hxy
        go_wp2
        go_quiet (fail)
        go_wp2
        go_roundw
        case rel => exact ⟨k + 1, _, HLT.out, by go_num, fun j hj => by
          by_cases e : j = k
          · subst e; rw [HXE.out.1, HXE.out.2]
          · exact HE.out j (by omega), rfl⟩
        case measure => simp [intOf]; have := HLT.out; omega
      · have hz : (x == y) = false := by simpa using hxy
        have hz2 : (x != y) = true := by simpa using hxy
        have HF := Lib.hid (show decide (xs = ys) = false from decide_eq_false fun e => by subst e; exact hxy (HXE.out.1.symm.trans HXE.out.2))
        clear hxy
        go_wp2
        go_quiet (fail)
        go_wp2
        go_ret
        exact ⟨ret_bool HF.out.symm, _, World.drewN_drewN _ _ _⟩
    · have HF := Lib.hid (show decide (xs = ys) = true from decide_eq_true (List.ext_getElem (by rw [HX.out.1, HX.out.2]) fun j h1 h2 => by
        have := HE.out j (by have := HX.out.1; omega)
        simpa [List.getD_eq_getElem?_getD, h1, h2] using this))
      go_wp2
      go_ret
      exact ⟨ret_bool HF.out.symm, _, rfl⟩
theorem r_same_none (n : Nat) (g cp : Nat) (hn : 1 ≤ n) (hn2 : n ≤ 10) (w : World) :
    Calls Try.prog 40 #[.slice (some ⟨g, 0, none⟩) n cp, .slice none 0 0] w fun x w' => x = .returned (.bool false) ∧ ∃ m, w' = w.drewN m := by
  have hne : ((0 : Int) == (n : Int)) = false := by simp; omega
  have hne2 : ((0 : Int) != (n : Int)) = true := by simp; omega
  have h0 : (0 : Int) < (n : Int) := by omega
  go_enter Try.func40, Try.ntmps40
  go_wp2
  go_loopw [4, 5] (fun _ i wr => i = .int .i64 0 ∧ wr = w) (fun _ _ _ => 0)
  case atStart => exact ⟨rfl, rfl⟩
  case round =>
    obtain ⟨rfl, rfl⟩ := hrel
    go_wp2
    go_quiet (fail)
    go_wp2
    go_ret
    exact ⟨rfl, _, rfl⟩
end Go.Proofs.Ytfjfnbeegojlbaa
