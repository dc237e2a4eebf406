/-
  The reference's Rows and Unpack.
-/
import Derived.Test.YtfjfnbeegojlbaaRUd
import Derived.Test.YtfjfnbeegojlbaaPUn
namespace Go.Proofs.Ytfjfnbeegojlbaa
open Go.RowKit

/-- What Rows hands back. -/
def RetRows (xs : List Int) (B : Nat) (T : Except Int Pt.Ur) (x : Ending) (w' : World) : Prop :=
  match T with
  | .error z => ∃ v i, x = .returned (.tuple #[v, .int .i64 i, .int .i64 z])
  | .ok u => ∃ q cp j, x = .returned (.tuple #[.slice q u.row.length cp, .int .i64 (j : Nat), .int .i64 0]) ∧ u.row.length ≤ cp ∧ u.b = xs.drop j ∧ j ≤ xs.length ∧ Own w' B q u.row
theorem res_three {fn : Func} {a b c : Tmp} (hf : fn.results = #[.tmp a, .tmp b, .tmp c]) {tmps : Array Value} {w : World} {x y z : Value} (ha : tmps.getD a undef = x) (hb : tmps.getD b undef = y) (hc : tmps.getD c undef = z) :
    (results fn tmps).run Try.prog w = .ok (.tuple #[x, y, z]) w := by
  have ha' : tmps[a]?.getD undef = x := by simpa using ha
  have hb' : tmps[b]?.getD undef = y := by simpa using hb
  have hc' : tmps[c]?.getD undef = z := by simpa using hc
  simp [results, hf, ha', hb', hc']
/-- Where Rows stands: reader, last parts, the row, the rows before. -/
structure Rz (w : World) (b9 bL g12 C : Nat) (xs : List Int) (p : Option Addr) (cap j : Nat) (v6 : Value) (acc row ls : List Pt.Cl) (wr : World) : Prop where
  ru : Ru wr b9 xs p cap j 0
  la : La wr bL C ls (fun h => (h ≠ b9 ∧ h ≠ g12) ∧ v6.ownBlock ≠ some h)
  kr : Kr wr g12 row
  own : wr.ownsRow w.heap.size 28 6 v6 acc.length (cc acc)
  bw : Below w.heap.size w wr
  lo : w.heap.size ≤ b9 ∧ w.heap.size ≤ bL ∧ w.heap.size ≤ g12
  ap : b9 ≠ bL ∧ b9 ≠ g12 ∧ bL ≠ g12
  oa : v6.ownBlock ≠ some b9 ∧ v6.ownBlock ≠ some bL ∧ v6.ownBlock ≠ some g12
theorem Rz.one {w wr w1 : World} {b9 bL g12 C j j' : Nat} {xs : List Int} {p : Option Addr} {cap : Nat} {v6 : Value} {acc row ls : List Pt.Cl} (h : Rz w b9 bL g12 C xs p cap j v6 acc row ls wr) (hg : wr.grownBy w1 (some b9)) (hr : Ru w1 b9 xs p cap j' 0) : Rz w b9 bL g12 C xs p cap j' v6 acc row ls w1 :=
  ⟨hr, h.la.grown hg (fun e => h.ap.1 (by simpa using e)) (fun g _ hA e => hA.1.1 (by simpa using e.symm)) (fun _ _ h => h), h.kr.grown hg (fun e => h.ap.2.1 e.symm), World.ownsRow.kept h.own hg (.inr h.oa.1), grown_at h.bw h.lo.1 h.bw.size hg, h.lo, h.ap, h.oa⟩
theorem own_fz {w w' : World} {D s n a b : Nat} {e : TypeId} {v : Value} {xs : List Value} (h : w.ownsRow D e s v n xs) (hf : Fz w a b w') (h1 : v.ownBlock ≠ some a) (h2 : v.ownBlock ≠ some b) : w'.ownsRow D e s v n xs := by
  have hlt := World.ownsRow.lt h
  refine ⟨h.1, ?_⟩
  rcases h.2 with h' | ⟨g, cap, cur, hv, hb, hg, hr⟩
  · exact .inl h'
  · have hg' : v.ownBlock = some g := by rw [hv]; rfl
    refine .inr ⟨g, cap, cur, hv, hb, ?_, hr⟩
    rw [hf.block g (hlt g hg').2 (fun e => h1 (by rw [hg', e])) (fun e => h2 (by rw [hg', e]))]
    exact hg
theorem kr_fz {w w' : World} {g a b : Nat} {l : List Pt.Cl} (h : Kr w g l) (hf : Fz w a b w') (h1 : g ≠ a) (h2 : g ≠ b) : Kr w' g l := by
  have e := hf.block g h.1 h1 h2
  refine ⟨Nat.lt_of_lt_of_le h.1 hf.size, fun j v hv => ?_, fun j hj => ?_⟩
  · rw [World.cell?_of_block (a := ⟨g, 0 + j, none⟩) e]; exact h.2.1 j v hv
  · rw [World.cell?_of_block (a := ⟨g, 0 + j, none⟩) e, World.frozen?_of_block (a := ⟨g, 0 + j, none⟩) e]; exact h.2.2 j hj
/-- More cells. -/
theorem app_cells {ops : Array Oper} {rest : List Oper} {o : Oper} {a : Act} {w : World} {Q : Exit → Act → World → Prop} (hgd : o.guard = none) (s x : Operand) (ho : o.op = .call { callee := .builtin .append, args := #[s, x], argTypes := #[22, 22] })
    {D g12 C c : Nat} {v : Value} {acc row : List Pt.Cl} (hs : a.eval s = v) (hown : w.ownsRow D 28 6 v acc.length (cc acc)) (hD : D ≤ w.heap.size) (hx : a.eval x = .slice (some ⟨g12, 0, none⟩) C c) (hk : Kr w g12 row) (hC : row.length = C) (hpos : 0 < C) (hl : acc.length + C ≤ 2000)
    (h : ∀ g cap w', w'.ownsRow D 28 6 (.slice (some ⟨g, 0, none⟩) (acc.length + C) cap) (acc ++ row).length (cc (acc ++ row)) → w.grownBy w' v.ownBlock → (v.ownBlock = some g ∨ g = w.heap.size) → g < w'.heap.size → wpList Try.prog ops Q rest (a.put o.dst (.slice (some ⟨g, 0, none⟩) (acc.length + C) cap)) w') :
    wpList Try.prog ops Q (o :: rest) a w := by
  obtain ⟨i0, hinf, hz0, hz1, hz2⟩ := info_parts Try.infoCell
  refine wpList_append_lies _ hgd s x 22 ho D 28 i0 (.agg #[.int .i64 0, .int .i64 0, .int .i64 0, .int .i64 0, .int .i64 0, .int .i64 0]) 6 48 Try.underlying22 hinf hz0 hz1 hz2 rfl (by decide) v acc.length (cc acc) hs hown ⟨g12, 0, none⟩ C c (cc row) hx (by rw [cc_len, hC]) (fun j u hu => by rw [Addr.add_mid]; exact hk.2.1 j u hu) (by
    have := cc_one row
    intro u hu
    exact this u hu) hpos (by unfold maxLen; omega) (by omega) hD _ rfl ?_
  intro g cap w' h2 h3 h4 h5
  refine h g cap w' ?_ h3 h4 h5
  rw [List.length_append, hC, cc_app]
  exact h2
set_option maxRecDepth 100000 in
set_option maxHeartbeats 6400000 in
theorem r_Rows {R C : Nat} (h1 : 1 ≤ R) (h2 : R ≤ 64) (h3 : 1 ≤ C) (h4 : C ≤ 16) (p : Option Addr) (xs : List Int) (cap : Nat) (hn : xs.length ≤ 400000) (hy : Pt.bys xs) (w : World) (hin : InB w p xs) (hp : ∀ b off, p = some ⟨b, off, none⟩ → b < w.heap.size) {T : Except Int Pt.Ur} (hT : Pt.upk R C xs = T) :
    Calls Try.prog 46 #[.slice p xs.length cap, .int .i64 R, .int .i64 C] w fun x w' => RetRows xs w.heap.size T x w' ∧ Below w.heap.size w w' := by
  obtain ⟨i0, hinf, hz0, hz1, hz2⟩ := info_parts Try.infoSs3
  obtain ⟨i8, hinf8, hz80, hz81, hz82⟩ := info_parts Try.infoCell
  obtain ⟨W, hW⟩ : ∃ W, W = w.alloc (.cells [.slice p xs.length cap, .int .i64 0, .int .i64 0].toArray 106) := ⟨_, rfl⟩
  have hB : Below w.heap.size w W := by rw [hW]; exact below_box _ _
  have hs : W.heap.size = w.heap.size + 1 := by rw [hW]; simp
  have hr9 := range_box w [.slice p xs.length cap, .int .i64 0, .int .i64 0] 106
  have ht9 := there_box w [.slice p xs.length cap, .int .i64 0, .int .i64 0] 106
  rw [← hW] at hr9 ht9
  have HRU := Lib.hid (show Ru W w.heap.size xs p cap 0 0 from ⟨hr9 0 _ rfl, hr9 1 _ rfl, hr9 2 _ rfl, (ht9 1 (by simp)).2, (ht9 2 (by simp)).2, hin.below hB, Nat.zero_le _, by omega, fun b off e => by have := hp b off e; omega, hy⟩)
  have HB := Lib.hid hB
  have HPP := Lib.hid hp
  have HT := Lib.hid hT
  obtain ⟨b9, hb9⟩ : ∃ b9, b9 = w.heap.size := ⟨_, rfl⟩
  have HZ := Lib.hid (show b9 = w.heap.size ∧ W.heap.size = b9 + 1 by omega)
  have HRC := Lib.hid (show 1 ≤ R ∧ R ≤ 64 ∧ 1 ≤ C ∧ C ≤ 16 ∧ R * C ≤ 1024 from ⟨h1, h2, h3, h4, Pt.rc_bound h2 h4⟩)
  rw [← hb9] at HRU
  obtain ⟨nx, hnx⟩ : ∃ nx, xs.length = nx := ⟨_, rfl⟩
  rw [hnx] at hW ⊢
  have eW : W = w.alloc (.cells #[.slice p nx cap, .int .i64 0, .int .i64 0] 106) := hW
  have i1 : (C : Int) ≤ 16 := by omega
  have i2 : (R : Int) ≤ 64 := by omega
  have i3 : (0 : Int) < (C : Int) := by omega
  clear h1 h2 h3 h4 hn hy hin hp hT hB hs hr9 ht9 hnx hW
  go_enter Try.func46, Try.ntmps46
  go_upto_region 2 with fail
  rw [← eW, ← hb9]
  clear eW hb9
  go_upto_region 3 with (first | (at_make; go_loud (refine wpList_make_full _ rfl _ _ 70 rfl W.heap.size 72 i0 (.agg #[.slice none 0 0, .slice none 0 0, .slice none 0 0, .slice none 0 0]) 4 Try.underlying70 hinf hz0 hz1 .i64 .i64 _ _ C rfl rfl rfl rfl (by rw [hz2]; omega) (by unfold maxLen; omega) (Nat.le_refl _) ?_; intro w2 hown2 hgrow2; have HK2 := Lib.hid (La.made (by rw [← made_ss]; exact hown2) (fun h => h ≠ b9 ∧ (Value.slice none 0 0).ownBlock ≠ some h)); have HB2 := Lib.hid (grown_below hgrow2); clear hown2 hgrow2)))
  obtain ⟨bL, hbL⟩ : ∃ bL, bL = W.heap.size := ⟨_, rfl⟩
  rw [← hbL] at HK2 ⊢
  have HZ2 := Lib.hid (show bL = b9 + 1 ∧ bL < w2.heap.size by have := HZ.out; have := HK2.out.lt; omega)
  have HRU2 := Lib.hid (HRU.out.below HB2.out)
  have HBW := Lib.hid (stepB HB.out HB2.out)
  clear hbL
  go_wp2
  go_loopw [6, 7, 8, 11, 12, 13, 14] (fun v6 _ _ iy _ _ _ wr => ∃ (y : Nat) (s : Pt.Ur) (j : Nat), y ≤ R ∧ iy = .int .i64 y ∧ Hid (T = Pt.urows C (R - y) s ∧ s.row.length = y * C ∧ s.ls.length = 16 ∧ s.b = xs.drop j ∧ Ru wr b9 xs p cap j 0 ∧ La wr bL C s.ls (fun h => h ≠ b9 ∧ v6.ownBlock ≠ some h) ∧ wr.ownsRow w.heap.size 28 6 v6 s.row.length (cc s.row) ∧ Below w.heap.size w wr ∧ v6.ownBlock ≠ some b9 ∧ v6.ownBlock ≠ some bL)) (fun _ _ _ iy _ _ _ _ => R - (intOf iy).toNat)
  case atStart => exact ⟨0, ⟨[], List.replicate 16 Pt.zc, xs⟩, 0, by omega, rfl, HT.out.symm, by simp, by simp, rfl, HRU2.out, HK2.out, World.ownsRow_nil _ _ _ _, HBW.out, by simp [Value.ownBlock], by simp [Value.ownBlock]⟩
  case round =>
    obtain ⟨y, s, j, hy, rfl, HY⟩ := hrel
    by_cases hlt : y < R
    · obtain ⟨g1, g2, g3, g4, g5, g6, g7, g8, g9, g10⟩ := HY.out
      have HLT := Lib.hid hlt
      have HG := Lib.hid (show (T = Pt.urows C (R - y) s ∧ s.row.length = y * C ∧ s.ls.length = 16) ∧ s.b = xs.drop j ∧ Ru wr b9 xs p cap j 0 ∧ La wr bL C s.ls (fun h => h ≠ b9 ∧ u6.ownBlock ≠ some h) ∧ wr.ownsRow w.heap.size 28 6 u6 s.row.length (cc s.row) ∧ Below w.heap.size w wr ∧ u6.ownBlock ≠ some b9 ∧ u6.ownBlock ≠ some bL from ⟨⟨g1, g2, g3⟩, g4, g5, g6, g7, g8, g9, g10⟩)
      have hlt' : (y : Int) < (R : Int) := by omega
      have HYC := Lib.hid (show y * C + C ≤ 1024 by
        have := Nat.mul_le_mul_right C hlt
        rw [Nat.succ_mul] at this
        have := HRC.out
        omega)
      clear g1 g2 g3 g4 g5 g6 g7 g8 g9 g10 hlt
      go_upto_region 7 with (first | (at_make; go_loud (refine wpList_make_full _ rfl _ _ 22 rfl wr.heap.size 28 i8 (.agg #[.int .i64 0, .int .i64 0, .int .i64 0, .int .i64 0, .int .i64 0, .int .i64 0]) 6 Try.underlying22 hinf8 hz80 hz81 .i64 .i64 _ _ C rfl rfl rfl rfl (by rw [hz82]; omega) (by unfold maxLen; omega) (Nat.le_refl _) ?_; intro w3 hown3 hgrow3; have HR3 := Lib.hid (show w3.ownsRow wr.heap.size 28 6 (.slice (some ⟨wr.heap.size, 0, none⟩) C C) C (cc (List.replicate C Pt.zc)) by rw [← made_cells]; exact hown3); have HB3 := Lib.hid (grown_below hgrow3); clear hown3 hgrow3)))
      obtain ⟨g12, hg12⟩ : ∃ g12, g12 = wr.heap.size := ⟨_, rfl⟩
      rw [← hg12] at HR3 ⊢
      have HK3 := Lib.hid (show Kr w3 g12 (List.replicate C Pt.zc) by
        obtain ⟨p', cap', e, h1, h2⟩ := rows_own HR3.out (by simp)
        rcases h2 with h2 | ⟨g', hp', -, hk⟩
        · have := congrArg List.length h2
          simp at this
          have := HRC.out
          omega
        · rw [hp'] at e
          have : g12 = g' := by simpa [Value.ownBlock] using congrArg Value.ownBlock e
          rw [this]
          exact hk)
      have HZ0 := Lib.hid (show Rz w b9 bL g12 C xs p cap j u6 s.row (List.replicate C Pt.zc) s.ls w3 from by
        have hz := HZ.out
        have hz2 := HZ2.out
        have hbl := HG.out.2.2.2.1.lt
        have hb9 := HG.out.2.2.1.lt
        have hsz := HG.out.2.2.2.2.2.1.size
        have hol : u6.ownBlock ≠ some g12 := fun e => by
          have := World.ownsRow.lt HG.out.2.2.2.2.1 g12 e
          omega
        refine ⟨HG.out.2.2.1.below HB3.out, HG.out.2.2.2.1.grown (r := none) (grownBy_of HB3.out) (by simp) (fun _ _ _ => by simp) (fun g hg h => ⟨⟨h.1, by omega⟩, h.2⟩), HK3.out, ?_, stepB HG.out.2.2.2.2.2.1 HB3.out, ⟨by omega, by omega, by omega⟩, ⟨by omega, by omega, by omega⟩, ⟨HG.out.2.2.2.2.2.2.1, HG.out.2.2.2.2.2.2.2, hol⟩⟩
        refine World.ownsRow.kept (row := none) HG.out.2.2.2.2.1 (grownBy_of HB3.out) ?_
        by_cases e : u6.ownBlock = none
        · exact .inl e
        · exact .inr e)
      have HSB := Lib.hid (show s.b = xs.drop j from HG.out.2.1)
      have HTU := Lib.hid (show ∀ z, Pt.urow C (C + 1) 0 ⟨List.replicate C Pt.zc, s.ls, s.b⟩ = .error z → T = .error z from fun z h => by
        rw [HG.out.1.1, show R - y = (R - y - 1) + 1 by have := HLT.out; omega]
        exact Pt.urows_bad h)
      clear hg12
      go_wp2
      go_loopw [6, 7, 8, 13, 14] (fun v _ _ ib _ u => ∃ (bf n j' : Nat) (row' ls' : List Pt.Cl), v = u6 ∧ ib = .int .i64 (bf : Nat) ∧ bf ≤ C ∧ C + 1 ≤ n + bf ∧ row'.length = C ∧ ls'.length = 16 ∧ Hid (Pt.urow C (C + 1) 0 ⟨List.replicate C Pt.zc, s.ls, s.b⟩ = Pt.urow C n bf ⟨row', ls', xs.drop j'⟩) ∧ Hid (Rz w b9 bL g12 C xs p cap j' u6 s.row row' ls' u)) (fun _ _ _ ib _ _ => C - (intOf ib).toNat)
      case atStart => exact ⟨0, C + 1, j, List.replicate C Pt.zc, s.ls, rfl, rfl, by omega, by omega, by simp, HG.out.1.2.2, Lib.hid (by rw [HSB.out]), HZ0.out⟩
      case round =>
        obtain ⟨bf, n, j', row', ls', rfl, rfl, hbf, hn, hr, hl, HU, HX⟩ := hrel
        obtain ⟨n', rfl⟩ : ∃ n', n = n' + 1 := ⟨n - 1, by omega⟩
        have HBF := Lib.hid (show bf ≤ C ∧ C + 1 ≤ n' + 1 + bf ∧ row'.length = C ∧ ls'.length = 16 from ⟨hbf, hn, hr, hl⟩)
        have i4 : (bf : Int) ≤ (C : Int) := by omega
        have HLO := Lib.hid HX.out.lo
        clear hbf hn hr hl
        have C1 := Lib.hid (r_one xs p cap b9 j' 0 wr HX.out.ru)
        by_cases hj : j' < xs.length
        · obtain ⟨o1, o2, o3⟩ := Pt.at_in hj
          have hyb := HX.out.ru.hy _ (List.getElem_mem hj)
          have hdr := List.drop_eq_getElem_cons hj
          obtain ⟨y0, hy0⟩ : ∃ y0, xs[j'] = y0 := ⟨_, rfl⟩
          rw [o1, o2, o3, hy0] at C1
          rw [hy0] at hyb hdr
          have HD := Lib.hid hdr
          have HYB := Lib.hid hyb
          clear o1 o2 o3 hy0 hdr hyb hj
          by_cases hz : y0 = 0
          · subst hz
            have HE := Lib.hid (show Pt.urow C (C + 1) 0 ⟨List.replicate C Pt.zc, s.ls, s.b⟩ = .ok ⟨row', ls', xs.drop (j' + 1)⟩ by rw [HU.out]; exact Pt.urow_end HD.out)
            go_wp2_with (first | (go_at_call 61; (with_reducible refine C1.out.mono ?_); rintro x' w4 ⟨rfl, hr4, hg4⟩; have HX4 := Lib.hid (HX.out.one hg4 hr4); have k2 := hr4.er; clear hr4 hg4) | (at_builtin; go_loud (refine app_cells rfl (.tmp 85) (.tmp 86) rfl rfl HX4.out.own HX4.out.bw.size rfl HX4.out.kr HBF.out.2.2.1 (by have := HRC.out; omega) (by have := HYC.out; have := HG.out.1.2.1; omega) ?_; intro g5 cap5 w5 h5 g5' a5 l5; have H5 := Lib.hid h5; have G5 := Lib.hid g5'; have A5 := Lib.hid a5; clear h5 g5' a5 l5)))
            go_roundw
            case rel =>
              have hx := HX4.out
              have hon : ∀ g, (Value.slice (some ⟨g5, 0, none⟩) (s.row.length + C) cap5).ownBlock = some g → g = g5 := fun g e => by simpa [Value.ownBlock] using e.symm
              have hne : ∀ b, b < w4.heap.size → u6.ownBlock ≠ some b → b ≠ g5 := fun b hb h e => by
                rcases A5.out with h' | h'
                · rw [e] at h; exact h h'
                · omega
              have hb9 := hne b9 hx.ru.lt hx.oa.1
              have hbl := hne bL hx.la.lt hx.oa.2.1
              refine ⟨y + 1, ⟨s.row ++ row', ls', xs.drop (j' + 1)⟩, j' + 1, HLT.out, by go_num, ?_, ?_, HBF.out.2.2.2, rfl, hx.ru.apart G5.out hx.oa.1 (fun b off e h => ?_), hx.la.grown G5.out hx.oa.2.1 (fun g _ hA => hA.2) (fun g hg hA => ⟨hA.1.1, fun e => hne g hg hA.2 (hon g e)⟩), H5.out, ?_, fun e => hb9 (hon b9 e), fun e => hbl (hon bL e)⟩
              · rw [HG.out.1.1, show R - y = (R - (y + 1)) + 1 by have := HLT.out; omega, Pt.urows_go HE.out]
              · rw [List.length_append, HG.out.1.2.1, HBF.out.2.2.1, Nat.add_mul, Nat.one_mul]
              · have h1 := (World.ownsRow.lt hx.own b h).1
                have h2 := HPP.out b off e
                omega
              · have hbw := hx.bw
                exact hbw.trans (grown_base G5.out (fun k hk => (World.ownsRow.lt hx.own k hk).1) hbw.size)
            case measure => simp [intOf]; have := HLT.out; omega
          · have hzb : (y0 == 0) = false := by simpa using hz
            cases hw : Pt.wth y0 ((bf : Int) + 1) C with
            | false =>
              have HE := Lib.hid (show T = .error 9 from HTU.out _ (by rw [HU.out]; exact Pt.urow_out HD.out hz hw))
              have C2 := Lib.hid (fun u hu => r_bad xs p cap b9 (j' + 1) 0 true u hu)
              have hb0 : Pt.bde true 0 = 9 := by simp [Pt.bde]
              rw [hb0] at C2
              have hcc : (C : Int) < y0 ∨ (¬ (C : Int) < y0 ∧ y0 ≤ (bf : Int)) := by
                by_cases h : (C : Int) < y0
                · exact .inl h
                · refine .inr ⟨h, ?_⟩
                  have : ¬ ((bf : Int) + 1 ≤ y0 ∧ y0 ≤ C) := fun hh => by rw [Pt.wth_iff.2 hh] at hw; exact absurd hw (by simp)
                  omega
              clear hw hb0 hz
              rcases hcc with hcc | ⟨hcc, hcc2⟩
              · go_upto_region 13 with (first | (go_at_call 61; (with_reducible refine C1.out.mono ?_); rintro x' w4 ⟨rfl, hr4, hg4⟩; have HX4 := Lib.hid (HX.out.one hg4 hr4); have k2 := hr4.er; clear hr4 hg4) | (go_at_call 62; (with_reducible refine (C2.out _ HX4.out.ru).mono ?_); rintro x' w5 ⟨rfl, hr5, hg5⟩; have HR5 := Lib.hid hr5; have HB5 := Lib.hid (grown_at HX4.out.bw HX4.out.lo.1 HX4.out.bw.size hg5); clear hr5 hg5 k2))
                have k2 := HR5.out.er
                have k1 := HR5.out.ps
                go_wp2
                go_quiet (fail)
                go_wp2
                refine bodyPost_ret (res_three rfl rfl rfl rfl) rfl ⟨?_, below_drewN' HB5.out nq⟩
                rw [HE.out]
                exact ⟨_, _, rfl⟩
              · have hdc : decide ((C : Int) < y0) = false := decide_eq_false hcc
                go_upto_region 13 with (first | (go_at_call 61; (with_reducible refine C1.out.mono ?_); rintro x' w4 ⟨rfl, hr4, hg4⟩; have HX4 := Lib.hid (HX.out.one hg4 hr4); have k2 := hr4.er; clear hr4 hg4) | (go_at_call 62; (with_reducible refine (C2.out _ HX4.out.ru).mono ?_); rintro x' w5 ⟨rfl, hr5, hg5⟩; have HR5 := Lib.hid hr5; have HB5 := Lib.hid (grown_at HX4.out.bw HX4.out.lo.1 HX4.out.bw.size hg5); clear hr5 hg5 k2))
                have k2 := HR5.out.er
                have k1 := HR5.out.ps
                go_wp2
                go_quiet (fail)
                go_wp2
                refine bodyPost_ret (res_three rfl rfl rfl rfl) rfl ⟨?_, below_drewN' HB5.out nq⟩
                rw [HE.out]
                exact ⟨_, _, rfl⟩
            | true =>
              have hw' := Pt.wth_iff.1 hw
              obtain ⟨q, rfl⟩ : ∃ q : Nat, y0 = ((q + 1 : Nat) : Int) := ⟨(y0 - 1).toNat, by omega⟩
              have HQ := Lib.hid (show bf ≤ q ∧ q < C by omega)
              have e1 : ((q + 1 : Nat) : Int) = (q : Int) + 1 := by omega
              rw [e1] at C1 hzb
              have C2 := Lib.hid (fun u hu => r_bad xs p cap b9 (j' + 1) 0 false u hu)
              have hb0 : Pt.bde false 0 = 0 := by simp [Pt.bde]
              rw [hb0] at C2
              have hdc : decide ((C : Int) < (q : Int) + 1) = false := decide_eq_false (by omega)
              have hdc2 : decide ((q : Int) + 1 ≤ (bf : Int)) = false := decide_eq_false (by omega)
              have e2 : (q : Int) + 1 - 1 = (q : Int) := by omega
              have i5 : (q : Int) < (C : Int) := by omega
              have i6 : (q : Int) < 16 := by omega
              have C4 := Lib.hid (fun (u : World) (X : Rz w b9 bL g12 C xs p cap (j' + 1) u6 s.row row' ls' u) => r_cell xs p cap b9 bL C q (j' + 1) ls' _ u X.ru X.la HQ.out.2 (by have := HRC.out; omega) HBF.out.2.2.2 X.ap.1 (fun g h => h.1.1) (fun g hg => ⟨⟨fun e => by have := X.ru.lt; omega, fun e => by have := X.kr.1; omega⟩, fun e => by have := (World.ownsRow.lt X.own g e).2; omega⟩) (fun b off e => by have h1 := HPP.out b off e; have h2 := X.lo; have h3 := X.bw.size; omega))
              clear hw hw' hb0 hz e1
              cases hu : Pt.ucell (Pt.at' ls' q) (xs.drop (j' + 1)) with
              | error z =>
                have HE := Lib.hid (show T = .error z from HTU.out _ (by rw [HU.out]; exact Pt.urow_bad HD.out HQ.out.1 HQ.out.2 hu))
                have hz0 : z ≠ 0 := by rcases Pt.ucell_er hu with h | h <;> omega
                have hzb2 : (z == 0) = false := by simpa using hz0
                have hzb3 : (z != 0) = true := by simpa using hz0
                rw [hu] at C4
                clear hu hz0
                go_upto_region 15 with (first | (go_at_call 61; (with_reducible refine C1.out.mono ?_); rintro x' w4 ⟨rfl, hr4, hg4⟩; have HX4 := Lib.hid (HX.out.one hg4 hr4); have k2 := hr4.er; clear hr4 hg4) | (go_at_call 62; (with_reducible refine (C2.out _ HX4.out.ru).mono ?_); rintro x' w5 ⟨rfl, hr5, hg5⟩; have HX5 := Lib.hid (HX4.out.one hg5 hr5); clear k2; have k2 := hr5.er; clear hr5 hg5) | (go_at_call 63; (with_reducible refine (C4.out _ HX5.out).mono ?_); rintro x' w6 ⟨c, i6', rfl, hr6, hf6⟩; have HR6 := Lib.hid hr6; have HF6 := Lib.hid hf6; clear hr6 hf6 k2) | ((refine st_cell (by rfl) (.tmp 69) _ rfl rfl rfl ((kr_fz HX5.out.kr HF6.out (fun e => HX5.out.ap.2.1 e.symm) (fun e => HX5.out.ap.2.2 e.symm)).th (by rw [HBF.out.2.2.1]; exact HQ.out.2)) ?_); intro w7 h7; have H7 := Lib.hid h7; clear h7))
                have HG7 := Lib.hid (show w6.grownBy w7 (some g12) by rw [H7.out]; exact grown_setCells _ _ _ _)
                have HR7 := Lib.hid (HR6.out.apart HG7.out (fun e => HX5.out.ap.2.1 (by simpa using e.symm)) (fun b off e h => by
                  have h1 := HPP.out b off e
                  have h2 := HX5.out.lo
                  have h3 : g12 = b := by simpa using h
                  omega))
                have HB7 := Lib.hid (show Below w.heap.size w w7 from grown_at (below_fz HX5.out.bw HF6.out HX5.out.lo.1 HX5.out.lo.2.1 HX5.out.bw.size) HX5.out.lo.2.2 (Nat.le_trans HX5.out.bw.size HF6.out.size) HG7.out)
                have k2 := HR7.out.er
                have k1 := HR7.out.ps
                go_wp2
                go_quiet (fail)
                go_wp2
                refine bodyPost_ret (res_three rfl rfl rfl rfl) rfl ⟨?_, below_drewN' HB7.out nq⟩
                rw [HE.out]
                exact ⟨_, _, rfl⟩
              | ok s2 =>
                have HE := Lib.hid (show ∀ i, s2.b = xs.drop i → Pt.urow C (C + 1) 0 ⟨List.replicate C Pt.zc, s.ls, s.b⟩ = Pt.urow C n' (q + 1) ⟨row'.set q s2.c, ls'.set q s2.la, xs.drop i⟩ from fun i hi => by rw [HU.out, Pt.urow_go HD.out HQ.out.1 HQ.out.2 hu, hi])
                rw [hu] at C4
                clear hu
                go_upto_region 15 with (first | (go_at_call 61; (with_reducible refine C1.out.mono ?_); rintro x' w4 ⟨rfl, hr4, hg4⟩; have HX4 := Lib.hid (HX.out.one hg4 hr4); have k2 := hr4.er; clear hr4 hg4) | (go_at_call 62; (with_reducible refine (C2.out _ HX4.out.ru).mono ?_); rintro x' w5 ⟨rfl, hr5, hg5⟩; have HX5 := Lib.hid (HX4.out.one hg5 hr5); clear k2; have k2 := hr5.er; clear hr5 hg5) | (go_at_call 63; (with_reducible refine (C4.out _ HX5.out).mono ?_); rintro x' w6 ⟨rfl, ⟨i6', hi6, hr6⟩, hl6, hf6⟩; have HI6 := Lib.hid hi6; have HR6 := Lib.hid hr6; have HL6 := Lib.hid hl6; have HF6 := Lib.hid hf6; clear hi6 hr6 hl6 hf6 k2) | ((refine st_cell (by rfl) (.tmp 69) _ rfl rfl rfl ((kr_fz HX5.out.kr HF6.out (fun e => HX5.out.ap.2.1 e.symm) (fun e => HX5.out.ap.2.2 e.symm)).th (by rw [HBF.out.2.2.1]; exact HQ.out.2)) ?_); intro w7 h7; have H7 := Lib.hid h7; clear h7))
                have HG7 := Lib.hid (show w6.grownBy w7 (some g12) by rw [H7.out]; exact grown_setCells _ _ _ _)
                have HX7 := Lib.hid (show Rz w b9 bL g12 C xs p cap i6' u6 s.row (row'.set q s2.c) (ls'.set q s2.la) w7 from by
                  have X := HX5.out
                  refine ⟨HR6.out.apart HG7.out (fun e => X.ap.2.1 (by simpa using e.symm)) (fun b off e h => ?_), HL6.out.grown HG7.out (fun e => X.ap.2.2 (by simpa using e.symm)) (fun g _ hA e => hA.1.2 (by simpa using e.symm)) (fun _ _ h => h), ?_, World.ownsRow.kept (own_fz X.own HF6.out X.oa.1 X.oa.2.1) HG7.out (.inr X.oa.2.2), grown_at (below_fz X.bw HF6.out X.lo.1 X.lo.2.1 X.bw.size) X.lo.2.2 (Nat.le_trans X.bw.size HF6.out.size) HG7.out, X.lo, X.ap, X.oa⟩
                  · have h1 := HPP.out b off e
                    have h2 := X.lo
                    have h3 : g12 = b := by simpa using h
                    omega
                  · rw [H7.out]
                    exact (kr_fz X.kr HF6.out (fun e => X.ap.2.1 e.symm) (fun e => X.ap.2.2 e.symm)).setCl (by rw [HBF.out.2.2.1]; exact HQ.out.2) s2.c)
                have k2 := HX7.out.ru.er
                go_wp2
                go_roundw
                case rel => exact ⟨q + 1, n', i6', row'.set q s2.c, ls'.set q s2.la, rfl, by go_num, by have := HQ.out; omega, by have := HBF.out; have := HQ.out; omega, by rw [List.length_set]; exact HBF.out.2.2.1, by rw [List.length_set]; exact HBF.out.2.2.2, HE.out _ HI6.out, HX7.out⟩
                case measure => simp [intOf]; have := HQ.out; omega
        · obtain ⟨o1, o2, o3⟩ := Pt.at_end hj
          have HE := Lib.hid (show T = .error 12 from HTU.out _ (by rw [HU.out]; exact Pt.urow_nil (by exact List.drop_of_length_le (by omega))))
          rw [o1, o2, o3] at C1
          have HBX := Lib.hid HX.out.bw
          clear o1 o2 o3 hj
          go_upto_region 9 with (first | (go_at_call 61; (with_reducible refine C1.out.mono ?_); rintro x' w4 ⟨rfl, hr4, hg4⟩; have HR4 := Lib.hid hr4; have HG4 := Lib.hid hg4; clear hr4 hg4))
          have k2 := HR4.out.er
          have k1 := HR4.out.ps
          go_wp2
          go_quiet (fail)
          go_wp2
          refine bodyPost_ret (res_three rfl rfl rfl rfl) rfl ⟨?_, below_drewN' (grown_at HBX.out HLO.out.1 HBX.out.size HG4.out) nq⟩
          rw [HE.out]
          exact ⟨_, _, rfl⟩
    · obtain rfl : y = R := by omega
      obtain ⟨g1, g2, g3, g4, g5, g6, g7, g8, -, -⟩ := HY.out
      have k1 := g5.ps
      obtain ⟨q, cp, e, hcp, ho⟩ := rows_own g7 rfl
      have HE := Lib.hid e
      have HF := Lib.hid (show T = .ok s ∧ s.row.length ≤ cp ∧ s.b = xs.drop j ∧ j ≤ xs.length ∧ Own wr w.heap.size q s.row ∧ Below w.heap.size w wr from ⟨by rw [g1, Nat.sub_self]; rfl, hcp, g4, g5.hi, ho, g8⟩)
      subst e
      clear g1 g2 g3 g4 g5 g6 g7 g8 hcp ho HY HE
      go_wp2
      go_quiet (fail)
      go_wp2
      refine bodyPost_ret (res_three rfl rfl rfl rfl) rfl ⟨?_, below_drewN' HF.out.2.2.2.2.2 nq⟩
      rw [HF.out.1]
      exact ⟨q, cp, j, rfl, HF.out.2.1, HF.out.2.2.1, HF.out.2.2.2.1, HF.out.2.2.2.2.1.kept (below_drewN' (Below.refl _ _) nq)⟩
set_option maxRecDepth 100000 in
set_option maxHeartbeats 3200000 in
theorem r_Unpack (R C : Int) (p : Option Addr) (xs : List Int) (cap : Nat) (hm : (xs.length : Int) ≤ 9223372036854775807) (hy : Pt.bys xs) (w : World) (hin : InB w p xs) (hp : ∀ b off, p = some ⟨b, off, none⟩ → b < w.heap.size) :
    Calls Try.prog 20 #[.slice p xs.length cap, .int .i64 R, .int .i64 C] w fun x w' => RetN R (Pt.unp R C xs) w.heap.size x w' ∧ Below w.heap.size w w' := by
  obtain ⟨W, hW⟩ : ∃ W, W = w.alloc (.cells #[.int .i64 0, .slice none 0 0] 24) := ⟨_, rfl⟩
  have HB := Lib.hid (show Below w.heap.size w W by rw [hW]; exact below_box _ _)
  have HP := Lib.hid (show Pb W w.heap.size 0 (.slice none 0 0) by rw [hW]; exact pb_box _ _ _ _)
  have HS := Lib.hid (show W.heap.size = w.heap.size + 1 by rw [hW]; simp)
  have C1 := Lib.hid (fun u => r_wide C u)
  obtain ⟨b6, hb6⟩ : ∃ b6, b6 = w.heap.size := ⟨_, rfl⟩
  rw [← hb6] at HP HS
  have HZ := Lib.hid (show b6 = w.heap.size ∧ W.heap.size = b6 + 1 from ⟨hb6, HS.out⟩)
  have HPP := Lib.hid hp
  have HIN := Lib.hid hin
  cases hw : Pt.wth C 1 16 with
  | false =>
    have e : Pt.unp R C xs = .error 1 := by simp [Pt.unp, Pt.eBlank, hw]
    rw [e]
    rw [hw] at C1
    clear hw e hm hy hin hp
    go_enter Try.func20, Try.ntmps20
    go_upto_region 1 with fail
    rw [← hW, ← hb6]
    clear hW hb6
    go_wp2_with (first | (go_at_call 45; ((with_reducible refine (C1.out _).mono ?_); rintro x' w1 ⟨rfl, rfl⟩)) | ((refine st_pat (by rfl) _ _ rfl rfl rfl HP.out.2 ?_); intro w3 h3 g3; have H3 := Lib.hid h3; have G3 := Lib.hid g3; clear h3 g3))
    have hz := HZ.out
    refine bodyPost_ret (res_pne rfl rfl H3.out.1 rfl rfl) rfl ⟨?_, grown_at HB.out (by omega) HB.out.size G3.out⟩
    show _ = Ending.returned (.tuple #[PV 0 none 0 0, .int .i64 0, .int .i64 1])
    rfl
  | true =>
    rw [hw] at C1
    cases hr : Pt.wth R 1 64 with
    | false =>
      have e : Pt.unp R C xs = .error 5 := by simp [Pt.unp, Pt.eBlank, hw, hr]
      rw [e]
      have hc : R < 1 ∨ (¬ R < 1 ∧ 64 < R) := by
        by_cases h : R < 1
        · exact .inl h
        · refine .inr ⟨h, ?_⟩
          have : ¬ (1 ≤ R ∧ R ≤ 64) := fun hh => by rw [Pt.wth_iff.2 hh] at hr; exact absurd hr (by simp)
          omega
      clear hw hr e hm hy hin hp
      rcases hc with hc | ⟨hc, hc2⟩
      · go_enter Try.func20, Try.ntmps20
        go_upto_region 1 with fail
        rw [← hW, ← hb6]
        clear hW hb6
        go_wp2_with (first | (go_at_call 45; ((with_reducible refine (C1.out _).mono ?_); rintro x' w1 ⟨rfl, rfl⟩)) | ((refine st_pat (by rfl) _ _ rfl rfl rfl HP.out.2 ?_); intro w3 h3 g3; have H3 := Lib.hid h3; have G3 := Lib.hid g3; clear h3 g3))
        have hz := HZ.out
        refine bodyPost_ret (res_pne rfl rfl H3.out.1 rfl rfl) rfl ⟨?_, grown_at HB.out (by omega) HB.out.size G3.out⟩
        show _ = Ending.returned (.tuple #[PV 0 none 0 0, .int .i64 0, .int .i64 5])
        rfl
      · have hd : decide (R < 1) = false := decide_eq_false hc
        go_enter Try.func20, Try.ntmps20
        go_upto_region 1 with fail
        rw [← hW, ← hb6]
        clear hW hb6
        go_wp2_with (first | (go_at_call 45; ((with_reducible refine (C1.out _).mono ?_); rintro x' w1 ⟨rfl, rfl⟩)) | ((refine st_pat (by rfl) _ _ rfl rfl rfl HP.out.2 ?_); intro w3 h3 g3; have H3 := Lib.hid h3; have G3 := Lib.hid g3; clear h3 g3))
        have hz := HZ.out
        refine bodyPost_ret (res_pne rfl rfl H3.out.1 rfl rfl) rfl ⟨?_, grown_at HB.out (by omega) HB.out.size G3.out⟩
        show _ = Ending.returned (.tuple #[PV 0 none 0 0, .int .i64 0, .int .i64 5])
        rfl
    | true =>
      have hR := Pt.wth_iff.1 hr
      have hC := Pt.wth_iff.1 hw
      have e0 : Pt.eBlank R C = 0 := by simp [Pt.eBlank, hw, hr]
      have hd1 : decide (R < 1) = false := decide_eq_false (by omega)
      have hd2 : decide (64 < R) = false := decide_eq_false (by omega)
      by_cases hn : xs.length ≤ 400000
      · have e : Pt.unp R C xs = Pt.unE xs.length (Pt.upk R.toNat C.toNat xs) := by simp [Pt.unp, e0, hn]
        obtain ⟨r, rfl⟩ : ∃ r : Nat, R = (r : Int) := ⟨R.toNat, by omega⟩
        obtain ⟨c, rfl⟩ : ∃ c : Nat, C = (c : Int) := ⟨C.toNat, by omega⟩
        obtain ⟨T, hT⟩ : ∃ T, Pt.upk r c xs = T := ⟨_, rfl⟩
        have hT' : Pt.upk (r : Int).toNat (c : Int).toNat xs = T := hT
        rw [e, hT']
        have CR := Lib.hid (r_Rows (by omega) (by omega) (by omega) (by omega) p xs cap hn hy W (hin.below HB.out) (fun b off e => by have := hp b off e; have := HB.out.size; omega) hT)
        have HTT := Lib.hid hT
        obtain ⟨n, hnx⟩ : ∃ n, xs.length = n := ⟨_, rfl⟩
        have HN := Lib.hid hnx
        rw [hnx] at CR ⊢
        have hd3 : decide ((400000 : Int) < (n : Int)) = false := decide_eq_false (by omega)
        clear hw hr e hm hy hin hp hR hC e0 hn hT hT' hnx
        cases T with
        | error z =>
          have hz0 : z ≠ 0 := Pt.upk_er HTT.out
          have hzb : (z != 0) = true := by simpa using hz0
          clear hz0
          go_enter Try.func20, Try.ntmps20
          go_upto_region 1 with fail
          rw [← hW, ← hb6]
          clear hW hb6
          go_wp2_with (first | (go_at_call 45; ((with_reducible refine (C1.out _).mono ?_); rintro x' w1 ⟨rfl, rfl⟩)) | (go_at_call 46; ((with_reducible refine (CR.out).mono ?_); rintro x' w2 ⟨⟨v, i, rfl⟩, hb2⟩; have HB2 := Lib.hid hb2; clear hb2)) | ((refine st_pat (by rfl) _ _ rfl rfl rfl (HP.out.kept HB2.out).2 ?_); intro w3 h3 g3; have H3 := Lib.hid h3; have G3 := Lib.hid g3; clear h3 g3))
          have hz := HZ.out
          have hz2 := HB2.out.size
          refine bodyPost_ret (res_pne rfl rfl H3.out.1 rfl rfl) rfl ⟨?_, grown_at (stepB HB.out HB2.out) (by omega) (by omega) G3.out⟩
          show _ = Ending.returned (.tuple #[PV 0 none 0 0, .int .i64 0, .int .i64 z])
          rfl
        | ok u =>
          go_enter Try.func20, Try.ntmps20
          go_upto_region 1 with fail
          rw [← hW, ← hb6]
          clear hW hb6
          go_wp2_with (first | (go_at_call 45; ((with_reducible refine (C1.out _).mono ?_); rintro x' w1 ⟨rfl, rfl⟩)) | (go_at_call 46; ((with_reducible refine (CR.out).mono ?_); rintro x' w2 ⟨⟨q, cp, j, rfl, h1, h2, h3, h4⟩, hb2⟩; have HB2 := Lib.hid hb2; have H1 := Lib.hid h1; have H2 := Lib.hid h2; have H4 := Lib.hid h3; have HO := Lib.hid h4; clear hb2 h1 h2 h3 h4)) | ((refine st_pat (by rfl) _ _ rfl rfl rfl (HP.out.kept HB2.out).2 ?_); intro w3 h3 g3; have H3 := Lib.hid h3; have G3 := Lib.hid g3; clear h3 g3))
          have hz := HZ.out
          have hz2 := HB2.out.size
          have ej : n - u.b.length = j := by rw [H2.out, List.length_drop, HN.out]; have := H4.out; rw [HN.out] at this; omega
          refine bodyPost_ret (res_pne rfl rfl H3.out.1 rfl rfl) rfl ⟨⟨q, cp, ?_, H1.out, (HO.out.grown G3.out (by omega)).mono (by omega)⟩, grown_at (stepB HB.out HB2.out) (by omega) (by omega) G3.out⟩
          rw [ej]
          rfl
      · have e : Pt.unp R C xs = .error 3 := by simp [Pt.unp, e0, hn]
        rw [e]
        obtain ⟨n, hnx⟩ : ∃ n, xs.length = n := ⟨_, rfl⟩
        rw [hnx] at hn hm ⊢
        have hd3 : (400000 : Int) < (n : Int) := by omega
        clear hw hr e hy hin hp hR hC e0 hn hnx
        go_enter Try.func20, Try.ntmps20
        go_upto_region 1 with fail
        rw [← hW, ← hb6]
        clear hW hb6
        go_wp2_with (first | (go_at_call 45; ((with_reducible refine (C1.out _).mono ?_); rintro x' w1 ⟨rfl, rfl⟩)) | ((refine st_pat (by rfl) _ _ rfl rfl rfl HP.out.2 ?_); intro w3 h3 g3; have H3 := Lib.hid h3; have G3 := Lib.hid g3; clear h3 g3))
        have hz := HZ.out
        refine bodyPost_ret (res_pne rfl rfl H3.out.1 rfl rfl) rfl ⟨?_, grown_at HB.out (by omega) HB.out.size G3.out⟩
        show _ = Ending.returned (.tuple #[PV 0 none 0 0, .int .i64 0, .int .i64 3])
        rfl
end Go.Proofs.Ytfjfnbeegojlbaa
