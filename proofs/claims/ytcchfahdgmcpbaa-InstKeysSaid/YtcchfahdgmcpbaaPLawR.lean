/-
  The walk of the law InstKeys' seventh region, which draws its order.
-/
import Derived.Test.YtcchfahdgmcpbaaPLawA
namespace Go.Proofs.Ytcchfahdgmcpbaa
open Go.RowKit

theorem keyS {W w' : World} {b c : Nat} {x : In.Kyd} {a : In.Loc} (h : Hid (Lw W b c x a)) (hb : Below W.heap.size W w') : Below W.heap.size W w' ∧ w'.rangeAt c 0 (IL x.i a) ∧ w'.cell? ⟨b, 34, none⟩ = some (.int .i64 x.own) := ⟨hb, (h.out.kept hb).ins, (h.out.kept hb).num.2.1⟩
/-- The region of that number in a piece of code. -/
def regionOf (n : Nat) : Code → Option Code
  | .region id ops d => if id = n then some (.region id ops d) else none
  | .loop c => regionOf n c
  | .seq a b => match regionOf n a with
    | some c => some c
    | none => regionOf n b
  | .block _ c => regionOf n c
  | .scope c => regionOf n c
  | .cond _ a b => match regionOf n a with
    | some c => some c
    | none => regionOf n b
  | _ => none
noncomputable def reg7 : Code := ((Try.f5.body.bind (regionOf 7)).getD .skip)
set_option maxRecDepth 100000 in
set_option maxHeartbeats 6400000 in
/-- The walk of the law's seventh region. -/
theorem reg7_walk (x : In.Kyd) (a : In.Loc) (W w : World) (b c : Nat) (A1 A2 : Int) (HL : Hid (Lw W b c x a)) (hB : Below W.heap.size W w) (hm : x.i.name.size ≤ maxLen) (hk : (x.i.keys.length : Int) ≤ 500) (Q0 : Exit → Act → World → Prop)
    (hQ : ∀ (ch : List PanicEntry) (a : Act) (d : Option Tmp) (v : Value) (w : World), Q0 (.panic ch) (a.put d v) w → Q0 (.panic ch) a w) (c0 c2 c4 c9 c10 c11 c12 c13 c14 c15 c16 c17 c18 c19 c20 c21 c22 c23 c24 c25 c26 c27 c28 c29 c30 c31 c32 c33 c34 c35 c36 c37 c38 c39 c40 c41 c42 c43 c44 c45 c46 c47 c48 c49 c50 c51 c52 c53 c54 c55 c56 c57 c58 c59 c60 c61 c62 c63 c64 c65 c66 c67 c68 c69 c70 c71 c72 c73 c74 c75 c76 c77 c78 c79 c80 c81 c82 c83 c84 c85 c86 c87 c88 c89 c90 c91 c92 c93 c94 c95 c96 c97 c98 c99 c100 c101 c102 c103 c104 c105 c106 c107 c108 c109 c110 c111 c112 c113 c114 c115 c116 c117 c118 c119 c120 c121 c122 c123 c124 c125 c126 c127 c128 c129 c130 c131 c132 c133 c134 c135 c136 c137 c138 c139 c140 c141 c142 c143 c144 c145 c146 c147 c148 c149 : Value)
    (hK : ∀ u60 u61 u62 u63 u64 u65 u66 u67 u68 u69 u70 u71 u72 u73 u74 u75 u76 u77 u78 u79 u80 u81 u82 u83 u84 u85 w', Below W.heap.size W w' → Q0 .normal ⟨#[c0, .pointer (some ⟨b, 0, none⟩), c2, .pointer (some ⟨c, 0, none⟩), c4, .int .i64 A1, .int .i64 A2, .int .i64 A1, .int .i64 A2, c9, c10, c11, c12, c13, c14, c15, c16, c17, c18, c19, c20, c21, c22, c23, c24, c25, c26, c27, c28, c29, c30, c31, c32, c33, c34, c35, c36, c37, c38, c39, c40, c41, c42, c43, c44, c45, c46, c47, c48, c49, c50, c51, c52, c53, c54, c55, c56, c57, c58, c59, u60, u61, u62, u63, u64, u65, u66, u67, u68, u69, u70, u71, u72, u73, u74, u75, u76, u77, u78, u79, u80, u81, u82, u83, u84, u85, .bool false, c87, c88, c89, c90, c91, c92, c93, c94, c95, c96, c97, c98, c99, c100, c101, c102, c103, c104, c105, c106, c107, c108, c109, c110, c111, c112, c113, c114, c115, c116, c117, c118, c119, c120, c121, c122, c123, c124, c125, c126, c127, c128, c129, c130, c131, c132, c133, c134, c135, c136, c137, c138, c139, c140, c141, c142, c143, c144, c145, c146, c147, c148, c149], []⟩ w') :
    Code.wp Try.prog reg7 Q0 ⟨#[c0, .pointer (some ⟨b, 0, none⟩), c2, .pointer (some ⟨c, 0, none⟩), c4, .int .i64 A1, .int .i64 A2, .int .i64 A1, .int .i64 A2, c9, c10, c11, c12, c13, c14, c15, c16, c17, c18, c19, c20, c21, c22, c23, c24, c25, c26, c27, c28, c29, c30, c31, c32, c33, c34, c35, c36, c37, c38, c39, c40, c41, c42, c43, c44, c45, c46, c47, c48, c49, c50, c51, c52, c53, c54, c55, c56, c57, c58, c59, c60, c61, c62, c63, c64, c65, c66, c67, c68, c69, c70, c71, c72, c73, c74, c75, c76, c77, c78, c79, c80, c81, c82, c83, c84, c85, c86, c87, c88, c89, c90, c91, c92, c93, c94, c95, c96, c97, c98, c99, c100, c101, c102, c103, c104, c105, c106, c107, c108, c109, c110, c111, c112, c113, c114, c115, c116, c117, c118, c119, c120, c121, c122, c123, c124, c125, c126, c127, c128, c129, c130, c131, c132, c133, c134, c135, c136, c137, c138, c139, c140, c141, c142, c143, c144, c145, c146, c147, c148, c149], []⟩ w := by
  have D1 := Lib.hid (fun u (hu : Below W.heap.size W u) => onB hu (p_Valid x.i a u (HL.out.kept hu).pts))
  have D2 := Lib.hid (fun u (hu : Below W.heap.size W u) => onB hu (r_Valid x.i a u (HL.out.kept hu).pts hm hk))
  simp only [iv_il] at D1
  obtain ⟨v1, hv1⟩ : ∃ v, In.ivld x.i = v := ⟨_, rfl⟩
  rw [hv1] at D1 D2
  clear hv1
  have D3 := Lib.hid (fun u (hu : Below W.heap.size W u) => (p_smp x.i a x.own u (HL.out.kept hu).pts).mono (R' := fun z u' => (∃ p cap, z = .returned (.slice p (In.smp x.i x.own).length cap) ∧ NumsAt u' p (In.smp x.i x.own)) ∧ Below W.heap.size W u' ∧ Below u.heap.size u u') fun z u' h => ⟨reti_nums h.1, stepB hu h.2, h.2⟩)
  have D4 := Lib.hid (fun u (hu : Below W.heap.size W u) => (r_smp x.i a x.own u (HL.out.kept hu).pts hm hk).mono (R' := fun z u' => (∃ p cap, z = .returned (.slice p (In.smp x.i x.own).length cap) ∧ NumsAt u' p (In.smp x.i x.own)) ∧ Below W.heap.size W u' ∧ Below u.heap.size u u') fun z u' h => ⟨reti_nums h.1, stepB hu h.2, h.2⟩)
  have HLn := Lib.hid (show ((In.smp x.i x.own).length : Int) ≤ 9223372036854775807 by have := In.smp_length x.i x.own; omega)
  obtain ⟨l, hl⟩ : ∃ l, In.smp x.i x.own = l := ⟨_, rfl⟩
  rw [hl] at HLn D3 D4
  have D5 := Lib.hid (fun pa pb ca cb u (hu : Below W.heap.size W u) (ha : NumsAt u pa l) (hb : NumsAt u pb l) => onW hu (p_same l pa pb ca cb u ha hb HLn.out))
  obtain ⟨m, hlm⟩ : ∃ m, l.length = m := ⟨_, rfl⟩
  rw [hlm] at D3 D4 D5
  clear hl hlm hm hk
  have hg0 := hB.drew
  have HKK := Lib.hid hK
  clear hK
  conv => arg 2; whnf
  refine wp_region_held_drew (S := (fun w' : World => Below W.heap.size W w' ∧ w'.rangeAt c 0 (IL x.i a) ∧ w'.cell? ⟨b, 34, none⟩ = some (.int .i64 x.own))) (by kernel_rfl) (keyS HL hg0) (fun hHeld => ?_)
  refine wpAnyH_take (i := 0) (oi := ?oi0) (v := .agg (IL x.i a).toArray) ?hi0 (by kernel_rfl) (by kernel_rfl) (by kernel_rfl) ?hq0 ?hy0 (by assumption) ?rest0
  case hi0 => (simp only [List.getElem?_toArray, List.getElem?_cons_zero]; rfl)
  case hq0 => exact fun c a w h => hQ c a _ _ w h
  case hy0 => exact yieldsIf_load_mid (by rfl) 40 _ rfl c 0 rfl (IL x.i a) _ (fun w h => h.2.1) Try.underlying40 rfl (info_il _ _)
  case rest0 =>
  simp only [Act.put, List.setIfInBounds_toArray, List.set_cons_zero, List.set_cons_succ]
  refine wpAnyH_take (i := 2) (oi := ?oi2) (v := .agg (IL x.i a).toArray) ?hi2 (by kernel_rfl) (by kernel_rfl) (by kernel_rfl) ?hq2 ?hy2 (by assumption) ?rest2
  case hi2 => (simp only [List.getElem?_toArray, List.getElem?_cons_succ, List.getElem?_cons_zero]; rfl)
  case hq2 => exact fun c a w h => hQ c a _ _ w h
  case hy2 => exact yieldsIf_load_mid (by rfl) 40 _ rfl c 0 rfl (IL x.i a) _ (fun w h => h.2.1) Try.underlying40 rfl (info_il _ _)
  case rest2 =>
  simp only [Act.put, List.setIfInBounds_toArray, List.set_cons_zero, List.set_cons_succ]
  refine wpAnyH_ready (rs := [1]) (by kernel_rfl) (by simp) ?_
  refine AllReadyH.cons (o := ?o1) (ho := ?ho1) (fun K' hK' => ?st1) AllReadyH.nil
  case ho1 => (simp only [List.getElem?_toArray, List.getElem?_cons_succ, List.getElem?_cons_zero]; rfl)
  case st1 =>
  go_simp
  refine (D1.out _ hHeld.1).mono ?_
  rintro x' w7 ⟨rfl, hB7⟩
  go_wp2_with fail
  refine hK'.out _ _ (keyS HL hB7) (fun hHeld => ?_)
  clear hK' K'
  (try simp only [Act.put, List.setIfInBounds_toArray, List.set_cons_zero, List.set_cons_succ])
  refine wpAnyH_ready (rs := [3]) (by kernel_rfl) (by simp) ?_
  refine AllReadyH.cons (o := ?o3) (ho := ?ho3) (fun K' hK' => ?st3) AllReadyH.nil
  case ho3 => (simp only [List.getElem?_toArray, List.getElem?_cons_succ, List.getElem?_cons_zero]; rfl)
  case st3 =>
  go_simp
  refine (D2.out _ hHeld.1).mono ?_
  rintro x' w8 ⟨rfl, hB8⟩
  go_wp2_with fail
  refine hK'.out _ _ (keyS HL hB8) (fun hHeld => ?_)
  clear hK' K'
  (try simp only [Act.put, List.setIfInBounds_toArray, List.set_cons_zero, List.set_cons_succ])
  refine wpAnyH_take (i := 4) (oi := ?oi4) (v := .bool false) ?hi4 (by kernel_rfl) (by kernel_rfl) (by kernel_rfl) ?hq4 ?hy4 (by assumption) ?rest4
  case hi4 => (simp only [List.getElem?_toArray, List.getElem?_cons_succ, List.getElem?_cons_zero]; rfl)
  case hq4 => exact fun c a w h => hQ c a _ _ w h
  case hy4 => exact Or.inl ⟨by rfl, fun w hSw => by (try dsimp only at hSw); go_simp⟩
  case rest4 =>
  simp only [Act.put, List.setIfInBounds_toArray, List.set_cons_zero, List.set_cons_succ]
  refine wpAnyH_take (i := 5) (oi := ?oi5) (v := .bool false) ?hi5 (by kernel_rfl) (by kernel_rfl) (by kernel_rfl) ?hq5 ?hy5 (by assumption) ?rest5
  case hi5 => (simp only [List.getElem?_toArray, List.getElem?_cons_succ, List.getElem?_cons_zero]; rfl)
  case hq5 => exact fun c a w h => hQ c a _ _ w h
  case hy5 => exact Or.inl ⟨by rfl, fun w hSw => by (try dsimp only at hSw); go_simp⟩
  case rest5 =>
  simp only [Act.put, List.setIfInBounds_toArray, List.set_cons_zero, List.set_cons_succ]
  refine wpAnyH_take (i := 6) (oi := ?oi6) (v := .int .i64 A1) ?hi6 (by kernel_rfl) (by kernel_rfl) (by kernel_rfl) ?hq6 ?hy6 (by assumption) ?rest6
  case hi6 => (simp only [List.getElem?_toArray, List.getElem?_cons_succ, List.getElem?_cons_zero]; rfl)
  case hq6 => exact fun c a w h => hQ c a _ _ w h
  case hy6 => exact Or.inl ⟨by rfl, fun w hSw => by (try dsimp only at hSw); go_simp⟩
  case rest6 =>
  simp only [Act.put, List.setIfInBounds_toArray, List.set_cons_zero, List.set_cons_succ]
  refine wpAnyH_take (i := 7) (oi := ?oi7) (v := .int .i64 A1) ?hi7 (by kernel_rfl) (by kernel_rfl) (by kernel_rfl) ?hq7 ?hy7 (by assumption) ?rest7
  case hi7 => (simp only [List.getElem?_toArray, List.getElem?_cons_succ, List.getElem?_cons_zero]; rfl)
  case hq7 => exact fun c a w h => hQ c a _ _ w h
  case hy7 => exact Or.inl ⟨by rfl, fun w hSw => by (try dsimp only at hSw); go_simp⟩
  case rest7 =>
  simp only [Act.put, List.setIfInBounds_toArray, List.set_cons_zero, List.set_cons_succ]
  refine wpAnyH_take (i := 8) (oi := ?oi8) (v := .bool false) ?hi8 (by kernel_rfl) (by kernel_rfl) (by kernel_rfl) ?hq8 ?hy8 (by assumption) ?rest8
  case hi8 => (simp only [List.getElem?_toArray, List.getElem?_cons_succ, List.getElem?_cons_zero]; rfl)
  case hq8 => exact fun c a w h => hQ c a _ _ w h
  case hy8 => exact Or.inl ⟨by rfl, fun w hSw => by (try dsimp only at hSw); go_simp⟩
  case rest8 =>
  simp only [Act.put, List.setIfInBounds_toArray, List.set_cons_zero, List.set_cons_succ]
  refine wpAnyH_take (i := 9) (oi := ?oi9) (v := .bool false) ?hi9 (by kernel_rfl) (by kernel_rfl) (by kernel_rfl) ?hq9 ?hy9 (by assumption) ?rest9
  case hi9 => (simp only [List.getElem?_toArray, List.getElem?_cons_succ, List.getElem?_cons_zero]; rfl)
  case hq9 => exact fun c a w h => hQ c a _ _ w h
  case hy9 => exact Or.inl ⟨by rfl, fun w hSw => by (try dsimp only at hSw); go_simp⟩
  case rest9 =>
  simp only [Act.put, List.setIfInBounds_toArray, List.set_cons_zero, List.set_cons_succ]
  refine wpAnyH_take (i := 10) (oi := ?oi10) (v := .bool false) ?hi10 (by kernel_rfl) (by kernel_rfl) (by kernel_rfl) ?hq10 ?hy10 (by assumption) ?rest10
  case hi10 => (simp only [List.getElem?_toArray, List.getElem?_cons_succ, List.getElem?_cons_zero]; rfl)
  case hq10 => exact fun c a w h => hQ c a _ _ w h
  case hy10 => exact Or.inl ⟨by rfl, fun w hSw => by (try dsimp only at hSw); go_simp⟩
  case rest10 =>
  simp only [Act.put, List.setIfInBounds_toArray, List.set_cons_zero, List.set_cons_succ]
  refine wpAnyH_take (i := 11) (oi := ?oi11) (v := .int .i64 A2) ?hi11 (by kernel_rfl) (by kernel_rfl) (by kernel_rfl) ?hq11 ?hy11 (by assumption) ?rest11
  case hi11 => (simp only [List.getElem?_toArray, List.getElem?_cons_succ, List.getElem?_cons_zero]; rfl)
  case hq11 => exact fun c a w h => hQ c a _ _ w h
  case hy11 => exact Or.inl ⟨by rfl, fun w hSw => by (try dsimp only at hSw); go_simp⟩
  case rest11 =>
  simp only [Act.put, List.setIfInBounds_toArray, List.set_cons_zero, List.set_cons_succ]
  refine wpAnyH_take (i := 12) (oi := ?oi12) (v := .int .i64 A2) ?hi12 (by kernel_rfl) (by kernel_rfl) (by kernel_rfl) ?hq12 ?hy12 (by assumption) ?rest12
  case hi12 => (simp only [List.getElem?_toArray, List.getElem?_cons_succ, List.getElem?_cons_zero]; rfl)
  case hq12 => exact fun c a w h => hQ c a _ _ w h
  case hy12 => exact Or.inl ⟨by rfl, fun w hSw => by (try dsimp only at hSw); go_simp⟩
  case rest12 =>
  simp only [Act.put, List.setIfInBounds_toArray, List.set_cons_zero, List.set_cons_succ]
  refine wpAnyH_take (i := 13) (oi := ?oi13) (v := .bool false) ?hi13 (by kernel_rfl) (by kernel_rfl) (by kernel_rfl) ?hq13 ?hy13 (by assumption) ?rest13
  case hi13 => (simp only [List.getElem?_toArray, List.getElem?_cons_succ, List.getElem?_cons_zero]; rfl)
  case hq13 => exact fun c a w h => hQ c a _ _ w h
  case hy13 => exact Or.inl ⟨by rfl, fun w hSw => by (try dsimp only at hSw); go_simp⟩
  case rest13 =>
  simp only [Act.put, List.setIfInBounds_toArray, List.set_cons_zero, List.set_cons_succ]
  refine wpAnyH_take (i := 14) (oi := ?oi14) (v := .bool false) ?hi14 (by kernel_rfl) (by kernel_rfl) (by kernel_rfl) ?hq14 ?hy14 (by assumption) ?rest14
  case hi14 => (simp only [List.getElem?_toArray, List.getElem?_cons_succ, List.getElem?_cons_zero]; rfl)
  case hq14 => exact fun c a w h => hQ c a _ _ w h
  case hy14 => exact Or.inl ⟨by rfl, fun w hSw => by (try dsimp only at hSw); go_simp⟩
  case rest14 =>
  simp only [Act.put, List.setIfInBounds_toArray, List.set_cons_zero, List.set_cons_succ]
  refine wpAnyH_take (i := 15) (oi := ?oi15) (v := .bool false) ?hi15 (by kernel_rfl) (by kernel_rfl) (by kernel_rfl) ?hq15 ?hy15 (by assumption) ?rest15
  case hi15 => (simp only [List.getElem?_toArray, List.getElem?_cons_succ, List.getElem?_cons_zero]; rfl)
  case hq15 => exact fun c a w h => hQ c a _ _ w h
  case hy15 => exact Or.inl ⟨by rfl, fun w hSw => by (try dsimp only at hSw); go_simp⟩
  case rest15 =>
  simp only [Act.put, List.setIfInBounds_toArray, List.set_cons_zero, List.set_cons_succ]
  refine wpAnyH_take (i := 16) (oi := ?oi16) (v := .agg (IL x.i a).toArray) ?hi16 (by kernel_rfl) (by kernel_rfl) (by kernel_rfl) ?hq16 ?hy16 (by assumption) ?rest16
  case hi16 => (simp only [List.getElem?_toArray, List.getElem?_cons_succ, List.getElem?_cons_zero]; rfl)
  case hq16 => exact fun c a w h => hQ c a _ _ w h
  case hy16 => exact yieldsIf_load_mid (by rfl) 40 _ rfl c 0 rfl (IL x.i a) _ (fun w h => h.2.1) Try.underlying40 rfl (info_il _ _)
  case rest16 =>
  simp only [Act.put, List.setIfInBounds_toArray, List.set_cons_zero, List.set_cons_succ]
  refine wpAnyH_take (i := 17) (oi := ?oi17) (v := .pointer (some ⟨b, 34, none⟩)) ?hi17 (by kernel_rfl) (by kernel_rfl) (by kernel_rfl) ?hq17 ?hy17 (by assumption) ?rest17
  case hi17 => (simp only [List.getElem?_toArray, List.getElem?_cons_succ, List.getElem?_cons_zero]; rfl)
  case hq17 => exact fun c a w h => hQ c a _ _ w h
  case hy17 => exact Or.inl ⟨by rfl, fun w hSw => by (try dsimp only at hSw); go_simp⟩
  case rest17 =>
  simp only [Act.put, List.setIfInBounds_toArray, List.set_cons_zero, List.set_cons_succ]
  refine wpAnyH_take (i := 18) (oi := ?oi18) (v := .int .i64 x.own) ?hi18 (by kernel_rfl) (by kernel_rfl) (by kernel_rfl) ?hq18 ?hy18 (by assumption) ?rest18
  case hi18 => (simp only [List.getElem?_toArray, List.getElem?_cons_succ, List.getElem?_cons_zero]; rfl)
  case hq18 => exact fun c a w h => hQ c a _ _ w h
  case hy18 => exact Or.inl ⟨by rfl, fun w hSw => by (try dsimp only at hSw); go_simp⟩
  case rest18 =>
  simp only [Act.put, List.setIfInBounds_toArray, List.set_cons_zero, List.set_cons_succ]
  refine wpAnyH_take (i := 20) (oi := ?oi20) (v := .agg (IL x.i a).toArray) ?hi20 (by kernel_rfl) (by kernel_rfl) (by kernel_rfl) ?hq20 ?hy20 (by assumption) ?rest20
  case hi20 => (simp only [List.getElem?_toArray, List.getElem?_cons_succ, List.getElem?_cons_zero]; rfl)
  case hq20 => exact fun c a w h => hQ c a _ _ w h
  case hy20 => exact yieldsIf_load_mid (by rfl) 40 _ rfl c 0 rfl (IL x.i a) _ (fun w h => h.2.1) Try.underlying40 rfl (info_il _ _)
  case rest20 =>
  simp only [Act.put, List.setIfInBounds_toArray, List.set_cons_zero, List.set_cons_succ]
  refine wpAnyH_take (i := 21) (oi := ?oi21) (v := .pointer (some ⟨b, 34, none⟩)) ?hi21 (by kernel_rfl) (by kernel_rfl) (by kernel_rfl) ?hq21 ?hy21 (by assumption) ?rest21
  case hi21 => (simp only [List.getElem?_toArray, List.getElem?_cons_succ, List.getElem?_cons_zero]; rfl)
  case hq21 => exact fun c a w h => hQ c a _ _ w h
  case hy21 => exact Or.inl ⟨by rfl, fun w hSw => by (try dsimp only at hSw); go_simp⟩
  case rest21 =>
  simp only [Act.put, List.setIfInBounds_toArray, List.set_cons_zero, List.set_cons_succ]
  refine wpAnyH_take (i := 22) (oi := ?oi22) (v := .int .i64 x.own) ?hi22 (by kernel_rfl) (by kernel_rfl) (by kernel_rfl) ?hq22 ?hy22 (by assumption) ?rest22
  case hi22 => (simp only [List.getElem?_toArray, List.getElem?_cons_succ, List.getElem?_cons_zero]; rfl)
  case hq22 => exact fun c a w h => hQ c a _ _ w h
  case hy22 => exact Or.inl ⟨by rfl, fun w hSw => by (try dsimp only at hSw); go_simp⟩
  case rest22 =>
  simp only [Act.put, List.setIfInBounds_toArray, List.set_cons_zero, List.set_cons_succ]
  refine wpAnyH_ready (rs := [19]) (by kernel_rfl) (by simp) ?_
  refine AllReadyH.cons (o := ?o19) (ho := ?ho19) (fun K' hK' => ?st19) AllReadyH.nil
  case ho19 => (simp only [List.getElem?_toArray, List.getElem?_cons_succ, List.getElem?_cons_zero]; rfl)
  case st19 =>
  go_simp
  refine (D3.out _ hHeld.1).mono ?_
  rintro x' w9 ⟨⟨pa, ca, rfl, na⟩, hB9, hb9⟩
  go_wp2_with fail
  refine hK'.out _ _ (keyS HL hB9) (fun hHeld => ?_)
  clear hK' K'
  (try simp only [Act.put, List.setIfInBounds_toArray, List.set_cons_zero, List.set_cons_succ])
  refine wpAnyH_ready (rs := [23]) (by kernel_rfl) (by simp) ?_
  refine AllReadyH.cons (o := ?o23) (ho := ?ho23) (fun K' hK' => ?st23) AllReadyH.nil
  case ho23 => (simp only [List.getElem?_toArray, List.getElem?_cons_succ, List.getElem?_cons_zero]; rfl)
  case st23 =>
  go_simp
  refine (D4.out _ hHeld.1).mono ?_
  rintro x' w10 ⟨⟨pb, cb, rfl, nb⟩, hB10, hb10⟩
  have na2 := na.below hb10
  go_wp2_with fail
  refine hK'.out _ _ (keyS HL hB10) (fun hHeld => ?_)
  clear hK' K'
  (try simp only [Act.put, List.setIfInBounds_toArray, List.set_cons_zero, List.set_cons_succ])
  refine wpAnyH_ready (rs := [24]) (by kernel_rfl) (by simp) ?_
  refine AllReadyH.cons (o := ?o24) (ho := ?ho24) (fun K' hK' => ?st24) AllReadyH.nil
  case ho24 => (simp only [List.getElem?_toArray, List.getElem?_cons_succ, List.getElem?_cons_zero]; rfl)
  case st24 =>
  go_simp
  refine (D5.out pa pb ca cb _ hHeld.1 na2 nb).mono ?_
  rintro x' w11 ⟨rfl, hB11⟩
  go_wp2_with fail
  refine hK'.out _ _ (keyS HL hB11) (fun hHeld => ?_)
  clear hK' K'
  (try simp only [Act.put, List.setIfInBounds_toArray, List.set_cons_zero, List.set_cons_succ])
  refine wpAnyH_take (i := 25) (oi := ?oi25) (v := .bool false) ?hi25 (by kernel_rfl) (by kernel_rfl) (by kernel_rfl) ?hq25 ?hy25 (by assumption) ?rest25
  case hi25 => (simp only [List.getElem?_toArray, List.getElem?_cons_succ, List.getElem?_cons_zero]; rfl)
  case hq25 => exact fun c a w h => hQ c a _ _ w h
  case hy25 => exact Or.inl ⟨by rfl, fun w hSw => by (try dsimp only at hSw); go_simp⟩
  case rest25 =>
  simp only [Act.put, List.setIfInBounds_toArray, List.set_cons_zero, List.set_cons_succ]
  refine wpAnyH_take (i := 26) (oi := ?oi26) (v := .bool false) ?hi26 (by kernel_rfl) (by kernel_rfl) (by kernel_rfl) ?hq26 ?hy26 (by assumption) ?rest26
  case hi26 => (simp only [List.getElem?_toArray, List.getElem?_cons_succ, List.getElem?_cons_zero]; rfl)
  case hq26 => exact fun c a w h => hQ c a _ _ w h
  case hy26 => exact Or.inl ⟨by rfl, fun w hSw => by (try dsimp only at hSw); go_simp⟩
  case rest26 =>
  simp only [Act.put, List.setIfInBounds_toArray, List.set_cons_zero, List.set_cons_succ]
  refine wpAnyH_done (by kernel_rfl) ?_ _
  exact HKK.out _ _ _ _ _ _ _ _ _ _ _ _ _ _ _ _ _ _ _ _ _ _ _ _ _ _ _ hB11
end Go.Proofs.Ytcchfahdgmcpbaa
