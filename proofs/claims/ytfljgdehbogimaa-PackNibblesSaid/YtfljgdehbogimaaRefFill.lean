/-
  The contract of the reference's filled: a list made so long with zeros.
-/
import Derived.Test.YtfljgdehbogimaaRefApz
import Derived.Test.YtfljgdehbogimaaRefDif
namespace Go.Proofs.Ytfljgdehbogimaa
open Go.RowKit

theorem kat_news {k : IntKind} {w w' : World} {b off : Nat} {l : List Int} (h : KAt k w (some ⟨b, off, none⟩) l) (hb : Below w.heap.size w w') : ∀ j u, (l.map (Value.int k))[j]? = some u → w'.cell? ((⟨b, off, none⟩ : Addr).add j) = some u := by
  intro j u hu
  have h2 := h.below hb
  rw [List.getElem?_map] at hu
  by_cases hj : j < l.length
  · obtain ⟨b0, o0, hp, hc⟩ := h2.at hj
    simp only [Option.some.injEq, Addr.mk.injEq] at hp
    obtain ⟨rfl, rfl, _⟩ := hp
    have hadd : (⟨b, off, none⟩ : Addr).add j = ⟨b, off + j, none⟩ := by unfold Addr.add; split <;> simp_all
    rw [hadd, hc]
    rw [List.getElem?_eq_getElem hj] at hu
    simp only [Option.map_some, Option.some.injEq] at hu
    rw [← hu, List.getD_eq_getElem?_getD, List.getElem?_eq_getElem hj]
    rfl
  · rw [List.getElem?_eq_none (by omega)] at hu
    cases hu
theorem one_alli (k : IntKind) (l : List Int) : ∀ u ∈ l.map (Value.int k), u.oneCell' = true := by
  intro u hu
  rw [List.mem_map] at hu
  obtain ⟨x, _, rfl⟩ := hu
  rfl
set_option maxHeartbeats 1600000 in
theorem rfilled (l : List Int) (bd od cap n : Nat) (w : World) (hd : DatAt w (some ⟨bd, od, none⟩) l) (h1 : l.length ≤ n) (h2 : n ≤ 4096) :
    Calls Try.prog 38 #[.slice (some ⟨bd, od, none⟩) l.length cap, .int .i64 n] w fun e w' => (∃ g c, e = .returned (.slice (some ⟨g, 0, none⟩) n c) ∧ w'.ownsRow w.heap.size 3 1 (.slice (some ⟨g, 0, none⟩) n c) n ((l ++ List.replicate (n - l.length) 0).map (Value.int .i64))) ∧ Below w.heap.size w w' := by
  obtain ⟨i0, hinf, hz0, hz1, hz2⟩ := info_parts Try.infoInt
  have HNW := Lib.hid (kat_news hd (below_box w (.cells #[] 3)))
  have HE := Lib.hid (own_empty 3 w)
  obtain ⟨z, hz⟩ : ∃ z, l.length + z = n := ⟨n - l.length, by omega⟩
  have HZ := Lib.hid hz
  have hzi : (n : Int) - (l.length : Int) = (z : Int) := by omega
  have hn4 : (n : Int) ≤ 4096 := by omega
  have hl4 : (l.length : Int) ≤ 4096 := by omega
  rw [show n - l.length = z by omega]
  have HLM := Lib.hid (show (l.map (Value.int .i64)).length = l.length * 1 by simp)
  obtain ⟨m, hm⟩ : ∃ m, l.length = m := ⟨_, rfl⟩
  rw [hm] at HZ HLM hzi hl4
  rw [hm]
  have HM := Lib.hid hm
  clear hz hd h1 h2 hm
  go_enter Try.func38, Try.ntmps38
  go_wp2_with (first
    | (at_builtin; refine wpList_append_own _ rfl (.tmp 5) (.tmp 6) 22 rfl w.heap.size 3 i0 (.int .i64 0) 1 8 Try.underlying22 hinf hz0 hz1 hz2 rfl (by decide) (.slice (some ⟨w.heap.size, 0, none⟩) 0 0) 0 [] rfl HE.out ⟨bd, od, none⟩ m cap (l.map (Value.int .i64)) rfl HLM.out HNW.out (one_alli .i64 l) (by unfold maxLen; omega) (by omega) (by simp) ?_; intro v1 w1 hown1 hgrow1 hnil; obtain ⟨g1, c1, rfl⟩ := own_some hown1 (fun e => by have := hnil.1 e; simp at this); have HO1 := Lib.hid hown1; have HB1 := Lib.hid ((below_box w (.cells #[] 3)).trans (grown_base (B := w.heap.size) hgrow1 (by intro k hk; simp [Value.ownBlock] at hk; omega) (by simp))); (simp only [Nat.zero_add] at HO1 ⊢); clear hown1 hgrow1 hnil)
    | (at_builtin; refine wpList_append_zeros rfl (.tmp 7) (.tmp 11) 22 3 rfl w.heap.size 3 i0 .i64 .i64 Try.underlying22 Try.underlying3 hinf hz0 hz1 (by omega) g1 m c1 _ z rfl rfl HO1.out (by omega) HB1.out.size ?_; intro g2 c2 w2 hown2 hgrow2; have HO2 := Lib.hid hown2; have HG2 := Lib.hid (grown_base (B := w.heap.size) (v := .slice (some ⟨g1, 0, none⟩) m c1) hgrow2 (fun k hk => (World.ownsRow.lt HO1.out k hk).1) HB1.out.size); clear hown2 hgrow2))
  go_ret
  have e := HZ.out
  subst e
  refine ⟨⟨g2, c2, rfl, ?_⟩, HB1.out.trans HG2.out⟩
  have := HO2.out
  rw [List.map_append, List.map_replicate]
  simpa using this
end Go.Proofs.Ytfljgdehbogimaa
