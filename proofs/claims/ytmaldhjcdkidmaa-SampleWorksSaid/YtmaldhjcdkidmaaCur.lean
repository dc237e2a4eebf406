/-
  Plain mathematics for package sample: cursors, loops and moves, as functions on integers. It says nothing of the program.
-/
namespace Go.Proofs.Ytmaldhjcdkidmaa.Sm

structure Cur where
  pos : Int
  frac : Int
  back : Bool
  done : Bool
def over : Cur := ⟨0, 0, false, true⟩
/-- A cursor at a place in 1/65,536 frames. -/
def curAt (x : Int) (b : Bool) : Cur := ⟨x / 65536, x % 65536, b, false⟩
def place (c : Cur) : Int := c.pos * 65536 + c.frac
/-- A place of a ping-pong loop, by how far it went from the loop's beginning there and back. -/
def turned (s w u : Int) : Cur := if u % (2 * w) < w then curAt (s + u % (2 * w)) false else curAt (s + 2 * w - 1 - u % (2 * w)) true
/-- A move by a step, of a cursor that is not done: k the loop's kind, s and e its places in 1/65,536 frames, n the frames' end likewise. -/
def fore (k s e n x st : Int) : Cur :=
  if k = 1 ∧ e ≤ x + st then curAt (s + (x + st - s) % (e - s)) false
  else if k = 2 ∧ e ≤ x + st then turned s (e - s) (x + st - s)
  else if n ≤ x + st then over else curAt (x + st) false
def aft (k s e x st : Int) : Cur :=
  if k = 1 ∧ s ≤ x ∧ x - st < s then curAt (s + (x - st - s) % (e - s)) true
  else if k = 2 ∧ s ≤ x then turned s (e - s) (2 * (e - s) - 1 - ((if e ≤ x then e - 1 else x) - s) + st)
  else if x - st < 0 then over else curAt (x - st) true
def gone (k s e n : Int) (c : Cur) (st : Int) : Cur :=
  if c.done then c else if c.back then aft k s e (place c) st else fore k s e n (place c) st

theorem place_at (x : Int) (b : Bool) : place (curAt x b) = x := by simp only [place, curAt]; omega
theorem at_eq {x y : Int} {b : Bool} (h : x = y) : curAt x b = curAt y b := by rw [h]

/-- A loop of a sample of n / 65,536 frames. -/
structure Ring (k s e n : Int) : Prop where
  frames : 0 ≤ n
  kind : k = 0 ∨ k = 1 ∨ k = 2
  loop : k = 0 ∨ (0 ≤ s ∧ s < e ∧ e ≤ n)

/-- A cursor that is done, or stands inside. -/
def Stands (n : Int) (c : Cur) : Prop := c = over ∨ (c.done = false ∧ 0 ≤ c.frac ∧ c.frac ≤ 65535 ∧ 0 ≤ place c ∧ place c < n)

theorem stands_at {n x : Int} (b : Bool) (h0 : 0 ≤ x) (h1 : x < n) : Stands n (curAt x b) :=
  .inr ⟨rfl, by simp only [curAt]; omega, by simp only [curAt]; omega, by rw [place_at]; exact h0, by rw [place_at]; exact h1⟩
theorem mod_lo {x w : Int} (h : 0 < w) : 0 ≤ x % w := Int.emod_nonneg _ (by omega)
theorem mod_hi {x w : Int} (h : 0 < w) : x % w < w := Int.emod_lt_of_pos _ h
theorem stands_turned {s w n : Int} (u : Int) (h0 : 0 ≤ s) (hw : 0 < w) (hn : s + w ≤ n) : Stands n (turned s w u) := by
  have a := mod_lo (x := u) (w := 2 * w) (by omega)
  have b := mod_hi (x := u) (w := 2 * w) (by omega)
  unfold turned
  split
  · exact stands_at _ (by omega) (by omega)
  · exact stands_at _ (by omega) (by omega)
theorem stands_gone {k s e n : Int} {c : Cur} {st : Int} (hr : Ring k s e n) (hc : Stands n c) (h : 0 ≤ st) : Stands n (gone k s e n c st) := by
  rcases hc with rfl | ⟨hd, _, _, h0, h1⟩
  · exact .inl rfl
  · unfold gone
    rw [hd]
    have hl := hr.loop
    cases c.back
    · simp only [Bool.false_eq_true, if_false]
      unfold fore
      split
      · next hk =>
        have hw : 0 < e - s := by omega
        have a := mod_lo (x := place c + st - s) hw
        have b := mod_hi (x := place c + st - s) hw
        exact stands_at _ (by omega) (by omega)
      · split
        · next hk => exact stands_turned _ (by omega) (by omega) (by omega)
        · split
          · exact .inl rfl
          · exact stands_at _ (by omega) (by omega)
    · simp only [Bool.false_eq_true, if_false, if_true]
      unfold aft
      split
      · next hk =>
        have hw : 0 < e - s := by omega
        have a := mod_lo (x := place c - st - s) hw
        have b := mod_hi (x := place c - st - s) hw
        exact stands_at _ (by omega) (by omega)
      · split
        · next hk => exact stands_turned _ (by omega) (by omega) (by omega)
        · split
          · exact .inl rfl
          · exact stands_at _ (by omega) (by omega)

theorem turned_small {s w u : Int} (h0 : 0 ≤ u) (h1 : u < w) : turned s w u = curAt (s + u) false := by
  unfold turned
  rw [Int.emod_eq_of_lt h0 (by omega), if_pos h1]
/-- From a place of a ping-pong loop on by b: the circle's place on by b. -/
theorem gone_at {k s e n x b : Int} : gone k s e n (curAt x false) b = fore k s e n x b := by
  unfold gone; rw [place_at]; rfl
theorem gone_at_back {k s e n x b : Int} : gone k s e n (curAt x true) b = aft k s e x b := by
  unfold gone; rw [place_at]; rfl
theorem gone_turned {s e n u b : Int} (hw : s < e) (hn : e ≤ n) (hb : 0 ≤ b) : gone 2 s e n (turned s (e - s) u) b = turned s (e - s) (u + b) := by
  have a1 := mod_lo (x := u) (w := 2 * (e - s)) (by omega)
  have a2 := mod_hi (x := u) (w := 2 * (e - s)) (by omega)
  have a3 : (u % (2 * (e - s)) + b) % (2 * (e - s)) = (u + b) % (2 * (e - s)) := Int.emod_add_emod _ _ _
  have a4 : turned s (e - s) (u + b) = turned s (e - s) (u % (2 * (e - s)) + b) := by unfold turned; rw [a3]
  rw [a4]
  have a5 : turned s (e - s) u = if u % (2 * (e - s)) < e - s then curAt (s + u % (2 * (e - s))) false else curAt (s + 2 * (e - s) - 1 - u % (2 * (e - s))) true := rfl
  rw [a5]
  generalize u % (2 * (e - s)) = v at a1 a2
  by_cases hv : v < e - s
  · rw [if_pos hv, gone_at]
    unfold fore
    rw [if_neg (by omega)]
    by_cases hx : e ≤ s + v + b
    · rw [if_pos ⟨rfl, hx⟩, show s + v + b - s = v + b by omega]
    · rw [if_neg (by omega), if_neg (by omega), turned_small (by omega) (by omega), show s + v + b = s + (v + b) by omega]
  · rw [if_neg hv, gone_at_back]
    unfold aft
    rw [if_neg (by omega), if_pos ⟨rfl, by omega⟩, if_neg (by omega)]
    rw [show 2 * (e - s) - 1 - (s + 2 * (e - s) - 1 - v - s) + b = v + b by omega]
theorem gone_over {k s e n b : Int} : gone k s e n over b = over := rfl

theorem fore_none {s e n x st : Int} : fore 0 s e n x st = if n ≤ x + st then over else curAt (x + st) false := by
  unfold fore; rw [if_neg (by omega), if_neg (by omega)]
/-- P2.1: from a place going forward, two moves are one by their sum. -/
theorem gone_split {k s e n x a b : Int} (hr : Ring k s e n) (hb : 0 ≤ b) :
    gone k s e n (gone k s e n (curAt x false) a) b = gone k s e n (curAt x false) (a + b) := by
  have hl := hr.loop
  rw [gone_at, gone_at]
  rcases hr.kind with rfl | rfl | rfl
  · rw [fore_none, fore_none]
    by_cases h1 : n ≤ x + a
    · rw [if_pos h1, gone_over, if_pos (by omega)]
    · rw [if_neg h1, gone_at, fore_none, show x + a + b = x + (a + b) by omega]
  · have hw : 0 < e - s := by omega
    unfold fore
    by_cases h1 : e ≤ x + a
    · rw [if_pos ⟨rfl, h1⟩, if_pos ⟨rfl, by omega⟩, gone_at]
      have m0 := mod_lo (x := x + a - s) hw
      have m1 := mod_hi (x := x + a - s) hw
      have m2 : ((x + a - s) % (e - s) + b) % (e - s) = (x + a - s + b) % (e - s) := Int.emod_add_emod _ _ _
      rw [show x + (a + b) - s = x + a - s + b by omega, ← m2]
      generalize (x + a - s) % (e - s) = v at m0 m1
      unfold fore
      by_cases h2 : e ≤ s + v + b
      · rw [if_pos ⟨rfl, h2⟩, show s + v + b - s = v + b by omega]
      · rw [if_neg (by omega), if_neg (by omega), if_neg (by omega), Int.emod_eq_of_lt (by omega) (by omega), show s + v + b = s + (v + b) by omega]
    · rw [if_neg (by omega), if_neg (by omega), if_neg (by omega), gone_at]
      unfold fore
      rw [show x + a + b = x + (a + b) by omega]
  · have hw : 0 < e - s := by omega
    have f : ∀ st, e ≤ x + st → fore 2 s e n x st = turned s (e - s) (x + st - s) := fun st h => by
      unfold fore; rw [if_neg (by omega), if_pos ⟨rfl, h⟩]
    by_cases h1 : e ≤ x + a
    · rw [f a h1, f (a + b) (by omega), gone_turned (by omega) (by omega) hb, show x + a - s + b = x + (a + b) - s by omega]
    · have g : fore 2 s e n x a = curAt (x + a) false := by unfold fore; rw [if_neg (by omega), if_neg (by omega), if_neg (by omega)]
      rw [g, gone_at]
      unfold fore
      rw [show x + a + b = x + (a + b) by omega]

/-- P2.3: once around a forward loop; there and back in a ping-pong loop. -/
theorem gone_round {s e n x : Int} {b : Bool} (h1 : s ≤ x) (h2 : x < e) : gone 1 s e n (curAt x b) (e - s) = curAt x b := by
  have hw : 0 < e - s := by omega
  have m : (x - s) % (e - s) = x - s := Int.emod_eq_of_lt (by omega) (by omega)
  cases b
  · rw [gone_at]
    unfold fore
    rw [if_pos ⟨rfl, by omega⟩, show x + (e - s) - s = x - s + (e - s) by omega, Int.add_emod_right, m]
    exact at_eq (by omega)
  · rw [gone_at_back]
    unfold aft
    rw [if_pos ⟨rfl, h1, by omega⟩, show x - (e - s) - s = x - s - (e - s) by omega, Int.sub_emod_right, m]
    exact at_eq (by omega)
theorem turned_at {s w u : Int} (h0 : 0 ≤ u) (h1 : u < 2 * w) : turned s w u = if u < w then curAt (s + u) false else curAt (s + 2 * w - 1 - u) true := by
  unfold turned; rw [Int.emod_eq_of_lt h0 h1]
theorem turned_more {s w u : Int} : turned s w (u + 2 * w) = turned s w u := by
  unfold turned; rw [Int.add_emod_right]
theorem gone_twice {s e n x : Int} {b : Bool} (h1 : s ≤ x) (h2 : x < e) (hn : e ≤ n) : gone 2 s e n (gone 2 s e n (curAt x b) (e - s)) (e - s) = curAt x b := by
  have hw : 0 < e - s := by omega
  have first : gone 2 s e n (curAt x b) (e - s) = turned s (e - s) ((if b then 2 * (e - s) - 1 - (x - s) else x - s) + (e - s)) := by
    cases b
    · rw [gone_at]
      unfold fore
      rw [if_neg (by omega), if_pos ⟨rfl, by omega⟩]
      simp only [Bool.false_eq_true, if_false]
      rw [show x + (e - s) - s = x - s + (e - s) by omega]
    · rw [gone_at_back]
      unfold aft
      rw [if_neg (by omega), if_pos ⟨rfl, h1⟩, if_neg (by omega)]
      simp only [if_true]
  rw [first, gone_turned (by omega) hn (by omega)]
  rw [show ((if b then 2 * (e - s) - 1 - (x - s) else x - s) + (e - s) + (e - s)) = (if b then 2 * (e - s) - 1 - (x - s) else x - s) + 2 * (e - s) by omega, turned_more]
  cases b
  · simp only [Bool.false_eq_true, if_false]
    rw [turned_small (by omega) (by omega)]
    exact at_eq (by omega)
  · simp only [if_true]
    rw [turned_at (by omega) (by omega), if_neg (by omega)]
    exact at_eq (by omega)
end Go.Proofs.Ytmaldhjcdkidmaa.Sm
