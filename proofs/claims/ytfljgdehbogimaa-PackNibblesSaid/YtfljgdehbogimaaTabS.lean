/-
  The library's two sorts at package pack's Table: rows of numbers that a call has made, sorted.
-/
import Derived.Test.YtfljgdehbogimaaShelf
import Derived.Test.YtfljgdehbogimaaTabK
import Derived.Test.YtfljgdehbogimaaTabA
import Derived.Sort.OwnSortedInts
import Derived.Laws.CopyOwn
namespace Go.Proofs.Ytfljgdehbogimaa
open Go.RowKit Go.Sort

/-- A difference as a value. -/
def encD (x : Tb.Dif) : Value := .int .i64 x.v
/-- The comparison on differences. -/
def cfD (C : Int → Int) (x y : Tb.Dif) : Int := Tb.cf C x.v y.v
theorem ltD (C : Int → Int) (x y : Tb.Dif) : ltOf (cfD C) x y = decide (Tb.cf C x.v y.v < 0) := rfl
theorem swoD (C : Int → Int) : SWO (ltOf (cfD C)) where
  irrefl x := by rw [ltD]; exact decide_eq_false (fun h => Tb.lt_irrefl C _ ((Tb.cf_lt C _ _).1 h))
  trans x y z h1 h2 := by
    rw [ltD] at *
    exact decide_eq_true ((Tb.cf_lt C _ _).2 (Tb.lt_trans ((Tb.cf_lt C _ _).1 (of_decide_eq_true h1)) ((Tb.cf_lt C _ _).1 (of_decide_eq_true h2))))
  ntrans x y z h1 h2 := by
    rw [ltD] at *
    have h1 := fun h => of_decide_eq_false h1 ((Tb.cf_lt C _ _).2 h)
    have h2 := fun h => of_decide_eq_false h2 ((Tb.cf_lt C _ _).2 h)
    refine decide_eq_false fun h => ?_
    have h := (Tb.cf_lt C _ _).1 h
    by_cases h3 : Tb.lt C y.v x.v
    · exact h2 (Tb.lt_trans h3 h)
    · have e := Tb.lt_total C h3 h1
      rw [← e] at h
      exact h2 h
theorem totD (C : Int → Int) (x y : Tb.Dif) (h1 : ltOf (cfD C) x y = false) (h2 : ltOf (cfD C) y x = false) : x = y := by
  rw [ltD] at *
  exact Tb.Dif.eq (Tb.lt_total C (fun h => of_decide_eq_false h1 ((Tb.cf_lt C _ _).2 h)) (fun h => of_decide_eq_false h2 ((Tb.cf_lt C _ _).2 h)))
theorem all_sorted (C : Int → Int) : (Tb.every.toArray.toList.mergeSort fun x y => !ltOf (cfD C) y x) = Tb.all C := rfl
theorem putRow_dif (w : World) (b off : Nat) (d : Array Tb.Dif) : putRow encD w b off d = putRow (Value.int .i64) w b off (d.map (·.v)) := by
  unfold putRow
  congr 1
  funext c
  unfold putCells
  congr 1
  funext k x
  simp only [Array.size_map]
  split
  · rename_i h
    have hk : k - off < d.size := by omega
    simp [encD, hk]
  · rfl
theorem holds_dif {w : World} {b off : Nat} {d : Array Tb.Dif} (h : Holds (Value.int .i64) w b off (d.map (·.v))) : Holds encD w b off d := by
  intro j hj
  have := h j (by simpa using hj)
  simpa [encD, hj] using this
/-- A row of numbers of the call's own is a row for the sort. -/
theorem own_holds {w : World} {B g n c : Nat} {ss : List Int} (h : w.ownsRow B 3 1 (.slice (some ⟨g, 0, none⟩) n c) n (ss.map (Value.int .i64))) : Holds (Value.int .i64) w g 0 ss.toArray := by
  have hn : ss.length = n := by simpa using h.1
  rcases h.2 with ⟨h', _⟩ | ⟨g', cap', cur, h', _, hg, _, _, _, htake⟩
  · cases h'
  · simp only [Value.slice.injEq, Option.some.injEq, Addr.mk.injEq] at h'
    obtain ⟨⟨rfl, _⟩, _, rfl⟩ := h'
    exact holds_of_blockI hg (by rw [hn, ← htake, Nat.mul_one])
/-- Behind the sort it owns the sorted numbers; nothing older has changed. -/
theorem own_sorted {w : World} {B g n c q : Nat} {os : Array Obj} {ss ts : List Int} (h : w.ownsRow B 3 1 (.slice (some ⟨g, 0, none⟩) n c) n (ss.map (Value.int .i64))) (hl : ts.length = n) :
    (grow (putRow (Value.int .i64) (Sort.ahead w q) g 0 ts.toArray) os).ownsRow B 3 1 (.slice (some ⟨g, 0, none⟩) n c) n (ts.map (Value.int .i64)) ∧ Below g w (grow (putRow (Value.int .i64) (Sort.ahead w q) g 0 ts.toArray) os) := by
  have hn : ss.length = n := by simpa using h.1
  have hlt := (World.ownsRow.lt h g rfl).2
  have hg2 : w.grownBy (grow (putRow (Value.int .i64) (Sort.ahead w q) g 0 ts.toArray) os) (some g) := grownBy_sortedI ts.toArray
  rcases h.2 with ⟨h', _⟩ | ⟨g', cap', cur, h', hB, hg, h1, h2, h3, htake⟩
  · cases h'
  · simp only [Value.slice.injEq, Option.some.injEq, Addr.mk.injEq] at h'
    obtain ⟨⟨rfl, _⟩, _, rfl⟩ := h'
    have := ownsRow_sortedI (n := q) (os := os) (ss := ss) (ts := ts) (by omega) hB hg (by omega) h2 h3
    rw [hn] at this
    exact ⟨this, ⟨hg2.os, hg2.tape, hg2.output, hg2.size, fun k hk => hg2.block k (by omega) (fun e => by have := Option.some.inj e; omega)⟩⟩
/-- slices.Sort of a row of the call's own. -/
theorem l_Sort {w : World} {B g n c : Nat} {ss : List Int} (h : w.ownsRow B 3 1 (.slice (some ⟨g, 0, none⟩) n c) n (ss.map (Value.int .i64))) (hs : n < 4611686018427387904) :
    Calls Try.prog 47 #[.slice (some ⟨g, 0, none⟩) n c] w fun e w' => e = .returned (.tuple #[]) ∧ w'.ownsRow B 3 1 (.slice (some ⟨g, 0, none⟩) n c) n ((ss.mergeSort fun x y => decide (x ≤ y)).map (Value.int .i64)) ∧ Below g w w' := by
  have hn : ss.length = n := by simpa using h.1
  have hlt := (World.ownsRow.lt h g rfl).2
  have hc := Any.slices_Sort_int sortLays g 0 c ss w (own_holds h) hlt (by omega)
  change Calls Try.prog 47 _ _ _ at hc
  rw [hn] at hc
  refine hc.mono ?_
  rintro e w' ⟨rfl, q, os, rfl⟩
  have := own_sorted (q := q) (os := os) (ts := ss.mergeSort fun x y => decide (x ≤ y)) h (by rw [List.length_mergeSort]; exact hn)
  exact ⟨rfl, this.1, this.2⟩
theorem grow_drewN_cell (w : World) (b off m : Nat) (d : Array Tb.Dif) (os : Array Obj) (a : Addr) (h1 : a.block < w.heap.size) (h2 : a.block ≠ b) : (Go.Proofs.sortWorld encD w b off m d os).cell? a = w.cell? a := by
  unfold Go.Proofs.sortWorld
  rw [cell?_grow _ _ _ (by simpa using h1), cell?_putRow_other _ _ _ _ _ _ (.inl h2)]
  rfl
/-- slices.SortFunc of the row of all differences, by the comparison over an array of counts. -/
theorem l_SortFunc {w : World} {B A g gc c : Nat} (D : List Int) (hD : (D.length : Int) ≤ 4096) (h : w.ownsRow B 3 1 (.slice (some ⟨g, 0, none⟩) 256 c) 256 ((Tb.every.map (·.v)).map (Value.int .i64))) (hA : Arr w A 63 gc 256 ((Tb.cp D).map (Value.int .i64))) (hne : gc ≠ g) :
    Calls Try.prog 44 #[.slice (some ⟨g, 0, none⟩) 256 c, .func (.func 45) #[] #[.pointer (some ⟨gc, 0, none⟩)]] w fun e w' => e = .returned (.tuple #[]) ∧ w'.ownsRow B 3 1 (.slice (some ⟨g, 0, none⟩) 256 c) 256 ((Tb.Sof (Tb.ct D)).map (Value.int .i64)) ∧ Below g w w' := by
  have hlt := (World.ownsRow.lt h g rfl).2
  have eg : ∀ args w, (callFunc 45 args).run Try.prog w = .ok (.enter 45 args) w := fun args w => by kernel_rfl
  have hcmp : Go.Proofs.CmpLays1 Try.prog 45 #[.pointer (some ⟨gc, 0, none⟩)] encD (cfD (Tb.ct D)) g 0 Tb.every.toArray.size w := fun m os dk hs x y =>
    c_cmp D x.v y.v gc _ (fun i hi => (grow_drewN_cell w g 0 m dk os ⟨gc, i, none⟩ hA.lt hne).trans (hA.at hi)) hD x.h.1 x.h.2 y.h.1 y.h.2
  have hH : Holds encD w g 0 Tb.every.toArray := holds_dif (by rw [List.map_toArray]; exact own_holds h)
  have hsz : Tb.every.toArray.size = 256 := by rw [List.size_toArray]; exact Tb.every_len
  have hc := Any.slices_SortFunc_total sortFuncLays encD (fun _ => rfl) (cfD (Tb.ct D)) (swoD _) 45 #[.pointer (some ⟨gc, 0, none⟩)] g 0 c Tb.every.toArray w eg hcmp hH hlt (by omega) (totD _)
  change Calls Try.prog 44 _ _ _ at hc
  rw [hsz, all_sorted] at hc
  refine hc.mono ?_
  rintro e w' ⟨rfl, q, os, rfl⟩
  unfold Go.Proofs.sortWorld
  rw [putRow_dif, List.map_toArray]
  have := own_sorted (q := q) (os := os) (ts := (Tb.all (Tb.ct D)).map (·.v)) h (by rw [List.length_map]; unfold Tb.all; rw [List.length_mergeSort]; exact Tb.every_len)
  exact ⟨rfl, this.1, this.2⟩
/-- copy into a row of n from one that is no shorter. -/
theorem wpList_copy_arr {P : Program} {w : World} {ops : Array Oper} {rest : List Oper} {o : Oper} {a : Act} {Q : Exit → Act → World → Prop} (hgd : o.guard = none) (d s : Operand) (dT sT : TypeId)
    (ho : o.op = .call { callee := .builtin .copy, args := #[d, s], argTypes := #[dT, sT] }) (elem : TypeId) (hu : P.underlying dT = some (.slice elem)) (hsz : (P.info? elem).map (·.size) = some 1)
    (g B n : Nat) (ad : Addr) (sLen sCap : Nat) (hd : a.eval d = .slice (some ⟨g, 0, none⟩) n n) (hs : a.eval s = .slice (some ad) sLen sCap) (t : TypeId) (xs : List Value) (hA : Arr w B t g n xs) (cs : List Value) (hn : cs.length = n) (hle : n ≤ sLen)
    (hsrc : ∀ j v, cs[j]? = some v → w.cell? (ad.add j) = some v) (h1 : ∀ v ∈ cs, v.oneCell' = true)
    (h : ∀ w', Arr w' B t g n cs → Below g w w' → wpList P ops Q rest (a.put o.dst (goInt cs.length)) w') : wpList P ops Q (o :: rest) a w := by
  refine wpList_copy_own hgd d s dT sT ho elem hu hsz g 0 n n ad sLen sCap hd hs xs.toArray t hA.block cs (by rw [hn]; exact (Nat.min_eq_right hle).symm) hsrc (by simp [hA.len, hn]) h1 ?_
  have e : (xs.toArray.toList.take 0 ++ (cs ++ xs.toArray.toList.drop (0 + cs.length))).toArray = cs.toArray := by
    rw [List.take_zero, List.nil_append, List.drop_eq_nil_of_le (by simp [hA.len, hn]), List.append_nil]
  rw [e]
  exact h _ (hA.row hn) ⟨rfl, rfl, rfl, by simp, fun j hj => setRow_other w g j _ (by omega)⟩
end Go.Proofs.Ytfljgdehbogimaa
