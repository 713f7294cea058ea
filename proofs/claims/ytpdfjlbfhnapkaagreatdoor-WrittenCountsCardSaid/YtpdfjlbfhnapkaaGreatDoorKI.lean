/- A parser takes the words of a number, and no others: soundness. -/
import Derived.Test.YtpdfjlbfhnapkaaGreatDoorKG
namespace Go.Proofs.YtpdfjlbfhnapkaaGreatDoor
open Go.RowKit
set_option linter.unusedSimpArgs false
set_option linter.unusedVariables false
set_option maxRecDepth 100000

theorem tk_cons {x : Str} {ws : List Str} (h : tkB x ws = true) : ws = x :: ws.tail := by
  cases ws with
  | nil => cases h
  | cons y ys => rw [show y = x from of_decide_eq_true h]; rfl
theorem oneF_sound {nm : Nat → Str} : ∀ (k n : Nat) (ws : List Str), 0 < n → oneF nm n k ws = (0, ws) ∨ ∃ m r, oneF nm n k ws = (m, r) ∧ n ≤ m ∧ m < n + k ∧ ws = nm m :: r
  | 0, n, ws, _ => Or.inl rfl
  | k + 1, n, ws, hn => by
    show (if tkB (nm n) ws then (n, ws.tail) else oneF nm (n + 1) k ws) = _ ∨ ∃ m r, (if tkB (nm n) ws then (n, ws.tail) else oneF nm (n + 1) k ws) = _ ∧ _
    by_cases h : tkB (nm n) ws = true
    · rw [if_pos h]
      exact Or.inr ⟨n, ws.tail, rfl, Nat.le_refl _, by omega, tk_cons h⟩
    · rw [if_neg h]
      rcases oneF_sound k (n + 1) ws (by omega) with h1 | ⟨m, r, h1, h2, h3, h4⟩
      · exact Or.inl h1
      · exact Or.inr ⟨m, r, h1, by omega, by omega, h4⟩
theorem unit_sound (ws : List Str) : unitF ws = (0, ws) ∨ ∃ m r, unitF ws = (m, r) ∧ 1 ≤ m ∧ m ≤ 9 ∧ ws = smallN m :: r := by
  rcases oneF_sound (nm := smallN) 9 1 ws (by decide) with h | ⟨m, r, h1, h2, h3, h4⟩
  · exact Or.inl h
  · exact Or.inr ⟨m, r, h1, h2, by omega, h4⟩
theorem below_sound (ws : List Str) : belowF ws = (0, ws) ∨ ∃ b r, belowF ws = (b, r) ∧ 1 ≤ b ∧ b ≤ 99 ∧ ws = twoW b ++ r := by
  unfold belowF
  rcases oneF_sound (nm := tensN) 8 2 ws (by decide) with h | ⟨m, r, h1, h2, h3, h4⟩
  · rw [h]
    simp only [if_true]
    rcases oneF_sound (nm := smallN) 19 1 ws (by decide) with g | ⟨m, r, g1, g2, g3, g4⟩
    · exact Or.inl g
    · refine Or.inr ⟨m, r, g1, g2, by omega, ?_⟩
      rw [g4]
      unfold twoW
      rw [if_pos (by omega)]
      rfl
  · rw [h1]
    simp only
    rw [if_neg (by omega)]
    rcases unit_sound r with g | ⟨u, q, g1, g2, g3, g4⟩
    · rw [g]
      refine Or.inr ⟨10 * m, r, rfl, by omega, by omega, ?_⟩
      rw [h4]
      unfold twoW
      rw [if_neg (by omega), if_pos (by omega), show 10 * m / 10 = m by omega]
      rfl
    · rw [g1]
      refine Or.inr ⟨10 * m + u, q, rfl, by omega, by omega, ?_⟩
      rw [h4, g4]
      unfold twoW
      rw [if_neg (by omega), if_neg (by omega), show (10 * m + u) / 10 = m by omega, show (10 * m + u) % 10 = u by omega]
      rfl
theorem bef_sound (x : Str) (F : List Str → Nat × List Str) (ws : List Str) : beforeF x F ws = (0, ws) ∨ ∃ m r, beforeF x F ws = (m, r) ∧ m ≠ 0 ∧ F ws = (m, x :: r) := by
  unfold beforeF attF
  by_cases h : (befF x F ws).1 = 0
  · exact Or.inl (if_pos h)
  · rw [if_neg h]
    unfold befF at h ⊢
    by_cases h2 : tkB x (F ws).2 = true
    · rw [if_pos h2] at h ⊢
      refine Or.inr ⟨(F ws).1, (F ws).2.tail, ?_, h, ?_⟩
      · unfold tkR
        rw [if_pos h2]
      · rw [← tk_cons h2]
    · rw [if_neg h2] at h
      exact absurd rfl h
theorem aft_sound (x : Str) (F : List Str → Nat × List Str) (ws : List Str) : afterF x F ws = (0, ws) ∨ ∃ m r, afterF x F ws = (m, r) ∧ m ≠ 0 ∧ ∃ t, ws = x :: t ∧ F t = (m, r) := by
  unfold afterF attF
  by_cases h : (aftF x F ws).1 = 0
  · exact Or.inl (if_pos h)
  · rw [if_neg h]
    unfold aftF at h ⊢
    by_cases h2 : tkB x ws = true
    · rw [if_pos h2] at h ⊢
      unfold tkR at h ⊢
      rw [if_pos h2] at h ⊢
      exact Or.inr ⟨(F ws.tail).1, (F ws.tail).2, rfl, h, ws.tail, tk_cons h2, rfl⟩
    · rw [if_neg h2] at h
      exact absurd rfl h
theorem hund_sound (ws : List Str) : beforeF [104, 117, 110, 100, 114, 101, 100] unitF ws = (0, ws) ∨ ∃ m r, beforeF [104, 117, 110, 100, 114, 101, 100] unitF ws = (m, r) ∧ 1 ≤ m ∧ m ≤ 9 ∧ ws = smallN m :: [104, 117, 110, 100, 114, 101, 100] :: r := by
  rcases bef_sound [104, 117, 110, 100, 114, 101, 100] unitF ws with h | ⟨m, r, h1, h2, h3⟩
  · exact Or.inl h
  · rcases unit_sound ws with g | ⟨u, q, g1, g2, g3, g4⟩
    · rw [g] at h3
      injection h3 with a b
      exact absurd a.symm h2
    · rw [g1] at h3
      injection h3 with a b
      subst a
      subst b
      exact Or.inr ⟨u, r, h1, g2, g3, g4⟩
theorem and_sound (ws : List Str) : afterF [97, 110, 100] belowF ws = (0, ws) ∨ ∃ b r, afterF [97, 110, 100] belowF ws = (b, r) ∧ 1 ≤ b ∧ b ≤ 99 ∧ ws = [97, 110, 100] :: twoW b ++ r := by
  rcases aft_sound [97, 110, 100] belowF ws with h | ⟨m, r, h1, h2, t, h3, h4⟩
  · exact Or.inl h
  · rcases below_sound t with g | ⟨b, q, g1, g2, g3, g4⟩
    · rw [g] at h4
      injection h4 with a b
      exact absurd a.symm h2
    · rw [g1] at h4
      injection h4 with a b
      subst a
      subst b
      exact Or.inr ⟨_, _, h1, g2, g3, by rw [h3, g4]; rfl⟩
/-- hundreds, and the rest behind and -/
def tlW (h b : Nat) : List Str := (if h = 0 then [] else [smallN h, [104, 117, 110, 100, 114, 101, 100]]) ++ (if b = 0 then [] else [97, 110, 100] :: twoW b)
theorem tail_tl {pre : List Str} {h b : Nat} (hp : pre ≠ []) (hb : b ≤ 99) : tailW pre (100 * h + b) = pre ++ tlW h b := by
  unfold tailW tlW
  by_cases h0 : h = 0
  · subst h0
    rw [if_neg (by omega), show 100 * 0 + b = b by omega]
    unfold lastW
    rw [if_neg hp]
    by_cases b0 : b = 0
    · rw [if_pos b0, if_pos b0]; simp
    · rw [if_neg b0, if_neg b0]; simp
  · rw [if_pos (by omega), if_neg h0, show (100 * h + b) / 100 = h by omega, show (100 * h + b) % 100 = b by omega]
    unfold lastW
    rw [if_neg (by simp)]
    by_cases b0 : b = 0
    · rw [if_pos b0, if_pos b0]; simp
    · rw [if_neg b0, if_neg b0]; simp
theorem cnt3_tl {h b : Nat} (h0 : h ≠ 0) (hb : b ≤ 99) : cnt3 (100 * h + b) = tlW h b := by
  unfold cnt3 tailW tlW
  rw [if_pos (by omega), if_neg h0, show (100 * h + b) / 100 = h by omega, show (100 * h + b) % 100 = b by omega]
  unfold lastW
  rw [if_neg (by simp)]
  by_cases b0 : b = 0
  · rw [if_pos b0, if_pos b0]; simp
  · rw [if_neg b0, if_neg b0]; simp
theorem cnt3_two {b : Nat} (hb : b ≤ 99) : cnt3 b = twoW b := by
  unfold cnt3 tailW
  rw [if_neg (by omega)]
  unfold lastW
  rw [if_pos rfl]
/-- what the last reader takes: behind a number, and alone -/
theorem last_sound (n : Nat) (ws : List Str) : (n = 0 ∧ (lastF n ws = (0, ws) ∨ ∃ m r, lastF n ws = (m, r) ∧ 1 ≤ m ∧ m ≤ 999 ∧ ws = cnt3 m ++ r)) ∨ (0 < n ∧ ∃ h b r, lastF n ws = (n + 100 * h + b, r) ∧ h ≤ 9 ∧ b ≤ 99 ∧ ws = tlW h b ++ r) := by
  unfold lastF
  rcases hund_sound ws with e | ⟨h, r, e, h1, h2, h3⟩
  · rw [e]
    simp only [Nat.mul_zero, Nat.add_zero]
    by_cases n0 : n = 0
    · rw [if_pos n0]
      refine Or.inl ⟨n0, ?_⟩
      rcases below_sound ws with g | ⟨b, q, g1, g2, g3, g4⟩
      · exact Or.inl g
      · exact Or.inr ⟨b, q, g1, g2, by omega, by rw [cnt3_two g3]; exact g4⟩
    · rw [if_neg n0]
      refine Or.inr ⟨by omega, ?_⟩
      rcases and_sound ws with g | ⟨b, q, g1, g2, g3, g4⟩
      · rw [g]
        exact ⟨0, 0, ws, rfl, by omega, by omega, rfl⟩
      · rw [g1]
        exact ⟨0, b, q, by simp, by omega, g3, by rw [g4]; unfold tlW; rw [if_pos rfl, if_neg (by omega)]; rfl⟩
  · rw [e]
    simp only
    rw [if_neg (by omega)]
    have key : ∃ b q, ((afterF [97, 110, 100] belowF r).1, (afterF [97, 110, 100] belowF r).2) = (b, q) ∧ b ≤ 99 ∧ ws = tlW h b ++ q := by
      rcases and_sound r with g | ⟨b, q, g1, g2, g3, g4⟩
      · rw [g]
        exact ⟨0, r, rfl, by omega, by rw [h3]; unfold tlW; rw [if_neg (by omega), if_pos rfl]; rfl⟩
      · rw [g1]
        exact ⟨b, q, rfl, g3, by rw [h3, g4]; unfold tlW; rw [if_neg (by omega), if_neg (by omega)]; rfl⟩
    obtain ⟨b, q, k1, k2, k3⟩ := key
    injection k1 with k4 k5
    rw [k4, k5]
    by_cases n0 : n = 0
    · refine Or.inl ⟨n0, Or.inr ⟨100 * h + b, q, by rw [n0, Nat.zero_add], by omega, by omega, ?_⟩⟩
      rw [cnt3_tl (by omega) k2]
      exact k3
    · exact Or.inr ⟨by omega, h, b, q, rfl, h2, k2, k3⟩
theorem group_sound (ws : List Str) : groupF ws = (0, ws) ∨ ∃ m r, groupF ws = (m, r) ∧ 1 ≤ m ∧ m ≤ 999 ∧ ws = cnt3 m ++ r := by
  rcases last_sound 0 ws with ⟨_, h⟩ | ⟨h, _⟩
  · exact h
  · omega
theorem befg_sound (x : Str) (ws : List Str) : ∃ g r, beforeF x groupF ws = (g, r) ∧ g ≤ 999 ∧ ws = (if g = 0 then [] else cnt3 g ++ [x]) ++ r := by
  rcases bef_sound x groupF ws with h | ⟨m, r, h1, h2, h3⟩
  · exact ⟨0, ws, h, by omega, rfl⟩
  · rcases group_sound ws with g | ⟨u, q, g1, g2, g3, g4⟩
    · rw [g] at h3
      injection h3 with a b
      exact absurd a.symm h2
    · rw [g1] at h3
      injection h3 with a b
      subst a
      subst b
      exact ⟨u, r, h1, g3, by rw [if_neg (by omega), g4]; simp⟩
/-- the words of a number by its groups -/
theorem cnt_groups {a b c h q : Nat} (ha : a ≤ 999) (hb : b ≤ 999) (hc : c ≤ 999) (hh : h ≤ 9) (hq : q ≤ 99) (h0 : 0 < 1000000000 * a + 1000000 * b + 1000 * c) :
    cntW (1000000000 * a + 1000000 * b + 1000 * c + 100 * h + q) = (if a = 0 then [] else cnt3 a ++ [[98, 105, 108, 108, 105, 111, 110]]) ++ ((if b = 0 then [] else cnt3 b ++ [[109, 105, 108, 108, 105, 111, 110]]) ++ ((if c = 0 then [] else cnt3 c ++ [[116, 104, 111, 117, 115, 97, 110, 100]]) ++ tlW h q)) := by
  obtain ⟨N, hN⟩ : ∃ N, N = 1000000000 * a + 1000000 * b + 1000 * c + 100 * h + q := ⟨_, rfl⟩
  rw [← hN, cnt_gW (by omega)]
  have e1 : N / 1000000000 % 1000 = a := by omega
  have e2 : N / 1000000 % 1000 = b := by omega
  have e3 : N / 1000 % 1000 = c := by omega
  have e4 : N % 1000 = 100 * h + q := by omega
  have g1 : gW N 0 = if a = 0 then [] else cnt3 a ++ [[98, 105, 108, 108, 105, 111, 110]] := by
    show (if 0 < N / 1000000000 % 1000 then cnt3 (N / 1000000000 % 1000) ++ _ else []) = _
    rw [e1]
    by_cases z : a = 0
    · rw [if_pos z, if_neg (by omega)]
    · rw [if_neg z, if_pos (by omega)]; rfl
  have g2 : gW N 1 = if b = 0 then [] else cnt3 b ++ [[109, 105, 108, 108, 105, 111, 110]] := by
    show (if 0 < N / 1000000 % 1000 then cnt3 (N / 1000000 % 1000) ++ _ else []) = _
    rw [e2]
    by_cases z : b = 0
    · rw [if_pos z, if_neg (by omega)]
    · rw [if_neg z, if_pos (by omega)]; rfl
  have g3 : gW N 2 = if c = 0 then [] else cnt3 c ++ [[116, 104, 111, 117, 115, 97, 110, 100]] := by
    show (if 0 < N / 1000 % 1000 then cnt3 (N / 1000 % 1000) ++ _ else []) = _
    rw [e3]
    by_cases z : c = 0
    · rw [if_pos z, if_neg (by omega)]
    · rw [if_neg z, if_pos (by omega)]; rfl
  have hne : gW N 0 ++ gW N 1 ++ gW N 2 ≠ [] := by
    rw [g1, g2, g3]
    intro e
    rw [List.append_eq_nil_iff, List.append_eq_nil_iff] at e
    have f : ∀ (z : Nat) (x : Str), (if z = 0 then [] else cnt3 z ++ [x]) = [] → z = 0 := by
      intro z x hz
      split at hz
      · assumption
      · simp at hz
    have := f _ _ e.1.1
    have := f _ _ e.1.2
    have := f _ _ e.2
    omega
  rw [e4, tail_tl hne hq, g1, g2, g3]
  simp only [List.append_assoc]
theorem count_sound (ws : List Str) : (countF ws).1 = 0 ∨ ∃ m r, countF ws = (m, r) ∧ 0 < m ∧ m < 1000000000000 ∧ ws = cntW m ++ r := by
  obtain ⟨a, r1, a1, a2, a3⟩ := befg_sound [98, 105, 108, 108, 105, 111, 110] ws
  obtain ⟨b, r2, b1, b2, b3⟩ := befg_sound [109, 105, 108, 108, 105, 111, 110] r1
  obtain ⟨c, r3, c1, c2, c3⟩ := befg_sound [116, 104, 111, 117, 115, 97, 110, 100] r2
  have hp : powF powL 0 ws = (1000000000 * a + 1000000 * b + 1000 * c, r3) := by
    unfold powL powF
    simp only [a1]
    unfold powF
    simp only [b1]
    unfold powF
    simp only [c1]
    unfold powF
    rw [Nat.zero_add]
  unfold countF
  rw [hp]
  simp only
  rcases last_sound (1000000000 * a + 1000000 * b + 1000 * c) r3 with ⟨z, h | ⟨m, r, h1, h2, h3, h4⟩⟩ | ⟨z, h, q, r, h1, h2, h3, h4⟩
  · exact Or.inl (by rw [h])
  · refine Or.inr ⟨m, r, h1, h2, by omega, ?_⟩
    have za : a = 0 := by omega
    have zb : b = 0 := by omega
    have zc : c = 0 := by omega
    rw [if_pos za] at a3
    rw [if_pos zb] at b3
    rw [if_pos zc] at c3
    rw [cnt_sm (by omega), ← h4, a3, List.nil_append, b3, List.nil_append, c3, List.nil_append]
  · refine Or.inr ⟨_, r, h1, by omega, by omega, ?_⟩
    rw [cnt_groups a2 b2 c2 h2 h3 z, a3, b3, c3, h4]
    simp only [List.append_assoc]
theorem whole_sound {ws : List Str} {m : Nat} {r : List Str} (h : wholeF ws = ((m, true), r)) : m < 1000000000000 ∧ ws = cntW m ++ r := by
  unfold wholeF at h
  by_cases hz : tkB [122, 101, 114, 111] ws = true
  · rw [if_pos hz] at h
    injection h with h1 h2
    injection h1 with h1 _
    subst h1
    subst h2
    refine ⟨by omega, ?_⟩
    unfold tkR
    rw [if_pos hz]
    exact tk_cons hz
  · rw [if_neg hz] at h
    injection h with h1 h2
    injection h1 with h1 h3
    have h4 : 0 < (countF ws).1 := of_decide_eq_true h3
    rcases count_sound ws with g | ⟨k, q, g1, g2, g3, g4⟩
    · omega
    · rw [g1] at h1 h2
      subst h1
      subst h2
      exact ⟨g3, g4⟩
/-- what a number's reader takes -/
theorem wNum_sound {ws : List Str} {y : Str} (h : asF wNum ws = y) (hy : y ≠ []) : ∃ m, m < 1000000000000 ∧ ((y = numS m ∧ ws = cntW m) ∨ (0 < m ∧ y = 45 :: numS m ∧ ws = [109, 105, 110, 117, 115] :: cntW m)) := by
  unfold asF at h
  by_cases hr : (wNum ws).2 = []
  · rw [if_pos hr] at h
    unfold wNum at h hr
    simp only at h hr
    by_cases hs : tkB [109, 105, 110, 117, 115] ws = true
    · have es : signF ws = ([45], ws.tail) := by
        unfold signF tkR
        rw [if_pos hs, if_pos hs]
      rw [es] at h hr
      simp only at h hr
      obtain ⟨⟨⟨m, ok⟩, r⟩, hw⟩ : ∃ z, wholeF ws.tail = z := ⟨_, rfl⟩
      rw [hw] at h hr
      simp only at h hr
      cases ok with
      | false => simp at h; exact absurd h hy
      | true =>
        by_cases m0 : m = 0
        · subst m0; simp at h; exact absurd h hy
        · have e : (true && !(decide (([45] : Str) ≠ []) && decide (m = 0))) = true := by simp [m0]
          rw [if_pos e] at h hr
          simp only at hr
          subst hr
          obtain ⟨w1, w2⟩ := whole_sound hw
          rw [List.append_nil] at w2
          exact ⟨m, w1, Or.inr ⟨by omega, h.symm, by rw [tk_cons hs, w2]⟩⟩
    · have es : signF ws = ([], ws) := by
        unfold signF
        rw [if_neg hs]
      rw [es] at h hr
      simp only at h hr
      obtain ⟨⟨⟨m, ok⟩, r⟩, hw⟩ : ∃ z, wholeF ws = z := ⟨_, rfl⟩
      rw [hw] at h hr
      simp only at h hr
      cases ok with
      | false => simp at h; exact absurd h hy
      | true =>
        simp at h hr
        subst hr
        obtain ⟨w1, w2⟩ := whole_sound hw
        rw [List.append_nil] at w2
        exact ⟨m, w1, Or.inl ⟨h.symm, w2⟩⟩
  · rw [if_neg hr] at h
    exact absurd h.symm hy
end Go.Proofs.YtpdfjlbfhnapkaaGreatDoor

/- A parser takes the words of a number: completeness. -/
namespace Go.Proofs.YtpdfjlbfhnapkaaGreatDoor
open Go.RowKit
set_option linter.unusedSimpArgs false
set_option linter.unusedVariables false
set_option maxRecDepth 100000

theorem unit_hit (d : Nat) (h1 : 1 ≤ d) (h9 : d ≤ 9) (r : List Str) : unitF (smallN d :: r) = (d, r) := by
  rcases (show d = 1 ∨ d = 2 ∨ d = 3 ∨ d = 4 ∨ d = 5 ∨ d = 6 ∨ d = 7 ∨ d = 8 ∨ d = 9 by omega) with rfl | rfl | rfl | rfl | rfl | rfl | rfl | rfl | rfl <;> rfl
theorem tens_hit (d : Nat) (h1 : 2 ≤ d) (h9 : d ≤ 9) (r : List Str) : oneF tensN 2 8 (tensN d :: r) = (d, r) := by
  rcases (show d = 2 ∨ d = 3 ∨ d = 4 ∨ d = 5 ∨ d = 6 ∨ d = 7 ∨ d = 8 ∨ d = 9 by omega) with rfl | rfl | rfl | rfl | rfl | rfl | rfl | rfl <;> rfl
theorem teen_hit (d : Nat) (h1 : 1 ≤ d) (h9 : d ≤ 19) (r : List Str) : belowF (smallN d :: r) = (d, r) := by
  rcases (show d = 1 ∨ d = 2 ∨ d = 3 ∨ d = 4 ∨ d = 5 ∨ d = 6 ∨ d = 7 ∨ d = 8 ∨ d = 9 ∨ d = 10 ∨ d = 11 ∨ d = 12 ∨ d = 13 ∨ d = 14 ∨ d = 15 ∨ d = 16 ∨ d = 17 ∨ d = 18 ∨ d = 19 by omega) with rfl | rfl | rfl | rfl | rfl | rfl | rfl | rfl | rfl | rfl | rfl | rfl | rfl | rfl | rfl | rfl | rfl | rfl | rfl <;> rfl
theorem unit_teen (d : Nat) (h1 : 10 ≤ d) (h9 : d ≤ 19) (r : List Str) : (unitF (smallN d :: r)).1 = 0 := by
  rcases (show d = 10 ∨ d = 11 ∨ d = 12 ∨ d = 13 ∨ d = 14 ∨ d = 15 ∨ d = 16 ∨ d = 17 ∨ d = 18 ∨ d = 19 by omega) with rfl | rfl | rfl | rfl | rfl | rfl | rfl | rfl | rfl | rfl <;> rfl
theorem unit_tens (d : Nat) (h1 : 2 ≤ d) (h9 : d ≤ 9) (r : List Str) : (unitF (tensN d :: r)).1 = 0 := by
  rcases (show d = 2 ∨ d = 3 ∨ d = 4 ∨ d = 5 ∨ d = 6 ∨ d = 7 ∨ d = 8 ∨ d = 9 by omega) with rfl | rfl | rfl | rfl | rfl | rfl | rfl | rfl <;> rfl
theorem below_hit (b : Nat) (h1 : 1 ≤ b) (h9 : b ≤ 99) (r : List Str) (hr : unitF r = (0, r)) : belowF (twoW b ++ r) = (b, r) := by
  unfold twoW
  by_cases h : b < 20
  · rw [if_pos h]
    exact teen_hit b h1 (by omega) r
  · rw [if_neg h]
    have hb : b = 10 * (b / 10) + b % 10 := by omega
    by_cases hz : b % 10 = 0
    · rw [if_pos hz]
      show belowF (tensN (b / 10) :: r) = _
      unfold belowF
      rw [tens_hit (b / 10) (by omega) (by omega) r]
      simp only
      rw [if_neg (by omega), hr]
      simp only
      congr 1
      omega
    · rw [if_neg hz]
      show belowF (tensN (b / 10) :: smallN (b % 10) :: r) = _
      unfold belowF
      rw [tens_hit (b / 10) (by omega) (by omega)]
      simp only
      rw [if_neg (by omega), unit_hit (b % 10) (by omega) (by omega)]
      simp only
      congr 1
      omega
theorem bef_none {x : Str} {F : List Str → Nat × List Str} {ws : List Str} (h : (F ws).1 = 0 ∨ tkB x (F ws).2 = false) : beforeF x F ws = (0, ws) := by
  unfold beforeF attF
  rw [if_pos]
  unfold befF
  rcases h with h | h
  · split
    · exact h
    · rfl
  · rw [h]; rfl
theorem bef_some {x : Str} {F : List Str → Nat × List Str} {ws r : List Str} {m : Nat} (h : F ws = (m, x :: r)) (hm : m ≠ 0) : beforeF x F ws = (m, r) := by
  have hb : befF x F ws = (m, r) := by
    unfold befF tkR
    rw [h]
    have : tkB x (x :: r) = true := decide_eq_true rfl
    simp only [this, if_true]
    rfl
  unfold beforeF attF
  rw [hb]
  exact if_neg hm
theorem aft_none {x : Str} {F : List Str → Nat × List Str} {ws : List Str} (h : tkB x ws = false) : afterF x F ws = (0, ws) := by
  unfold afterF attF
  rw [if_pos]
  unfold aftF
  rw [h]
  rfl
theorem aft_some {x : Str} {F : List Str → Nat × List Str} {t r : List Str} {m : Nat} (h : F t = (m, r)) (hm : m ≠ 0) : afterF x F (x :: t) = (m, r) := by
  have hb : aftF x F (x :: t) = (m, r) := by
    unfold aftF tkR
    have : tkB x (x :: t) = true := decide_eq_true rfl
    simp only [this, if_true]
    exact h
  unfold afterF attF
  rw [hb]
  exact if_neg hm
/-- no word of a number below 1000 goes on -/
def Stop (r : List Str) : Prop := unitF r = (0, r) ∧ tkB [97, 110, 100] r = false ∧ tkB [104, 117, 110, 100, 114, 101, 100] r = false
theorem stop_nil : Stop [] := ⟨rfl, rfl, rfl⟩
theorem and_tl (b : Nat) (hb : b ≤ 99) (r : List Str) (hr : Stop r) : afterF [97, 110, 100] belowF ((if b = 0 then [] else [97, 110, 100] :: twoW b) ++ r) = (b, r) := by
  by_cases h : b = 0
  · subst h
    exact aft_none hr.2.1
  · rw [if_neg h]
    exact aft_some (below_hit b (by omega) hb r hr.1) h
theorem last_hit (n h b : Nat) (hn : 0 < n ∨ 0 < h) (hh : h ≤ 9) (hb : b ≤ 99) (r : List Str) (hr : Stop r) : lastF n (tlW h b ++ r) = (n + 100 * h + b, r) := by
  unfold lastF
  have e : beforeF [104, 117, 110, 100, 114, 101, 100] unitF (tlW h b ++ r) = (h, (if b = 0 then [] else [97, 110, 100] :: twoW b) ++ r) := by
    unfold tlW
    by_cases h0 : h = 0
    · subst h0
      rw [if_pos rfl, List.nil_append]
      refine bef_none (Or.inl ?_)
      by_cases b0 : b = 0
      · rw [if_pos b0, List.nil_append, hr.1]
      · rw [if_neg b0]; rfl
    · rw [if_neg h0]
      exact bef_some (unit_hit h (by omega) hh _) h0
  rw [e]
  simp only
  rw [if_neg (by omega), and_tl b hb r hr]
theorem group_hit (g : Nat) (h1 : 1 ≤ g) (h9 : g ≤ 999) (r : List Str) (hr : Stop r) : groupF (cnt3 g ++ r) = (g, r) := by
  by_cases h : g ≤ 99
  · rw [cnt3_two h]
    unfold groupF lastF
    have e : beforeF [104, 117, 110, 100, 114, 101, 100] unitF (twoW g ++ r) = (0, twoW g ++ r) := by
      refine bef_none ?_
      unfold twoW
      by_cases g1 : g ≤ 9
      · rw [if_pos (by omega)]
        refine Or.inr ?_
        show tkB _ (unitF (smallN g :: r)).2 = false
        rw [unit_hit g h1 g1]
        exact hr.2.2
      · refine Or.inl ?_
        by_cases g2 : g < 20
        · rw [if_pos g2]
          exact unit_teen g (by omega) (by omega) r
        · rw [if_neg g2]
          split
          · exact unit_tens (g / 10) (by omega) (by omega) r
          · exact unit_tens (g / 10) (by omega) (by omega) _
    rw [e]
    simp only
    rw [if_pos trivial]
    exact below_hit g h1 h r hr.1
  · have e : g = 100 * (g / 100) + g % 100 := by omega
    rw [e, cnt3_tl (by omega) (by omega)]
    have := last_hit 0 (g / 100) (g % 100) (Or.inr (by omega)) (by omega) (by omega) r hr
    rw [Nat.zero_add] at this
    exact this
/-- a power's name: one of three -/
def PwN (x : Str) : Prop := x = [98, 105, 108, 108, 105, 111, 110] ∨ x = [109, 105, 108, 108, 105, 111, 110] ∨ x = [116, 104, 111, 117, 115, 97, 110, 100]
theorem stop_pow {x : Str} (h : PwN x) (r : List Str) : Stop (x :: r) := by
  rcases h with rfl | rfl | rfl <;> exact ⟨rfl, rfl, rfl⟩
/-- no group before this name stands here -/
def No (x : Str) (ws : List Str) : Prop := (groupF ws).1 = 0 ∨ tkB x (groupF ws).2 = false
def grW (g : Nat) (x : Str) : List Str := if g = 0 then [] else cnt3 g ++ [x]
theorem no_gr {x y : Str} {g : Nat} {R : List Str} (hy : PwN y) (hxy : x ≠ y) (hg : g ≤ 999) (hR : No x R) : No x (grW g y ++ R) := by
  unfold grW
  by_cases h : g = 0
  · rw [if_pos h]; exact hR
  · rw [if_neg h, List.append_assoc]
    refine Or.inr ?_
    show tkB x (groupF (cnt3 g ++ (y :: R))).2 = false
    rw [group_hit g (by omega) hg _ (stop_pow hy R)]
    exact decide_eq_false (fun e => hxy e.symm)
theorem no_cnt {x : Str} {g : Nat} (h1 : 1 ≤ g) (h9 : g ≤ 999) : No x (cnt3 g) := by
  refine Or.inr ?_
  have := group_hit g h1 h9 [] stop_nil
  rw [List.append_nil] at this
  rw [this]
  rfl
theorem no_tl {x : Str} {h b : Nat} (hh : h ≤ 9) (hb : b ≤ 99) : No x (tlW h b) := by
  by_cases h0 : h = 0
  · subst h0
    unfold tlW
    rw [if_pos rfl, List.nil_append]
    split
    · exact Or.inl rfl
    · exact Or.inl rfl
  · rw [← cnt3_tl h0 hb]
    exact no_cnt (by omega) (by omega)
theorem befg_hit {x : Str} {g : Nat} {R : List Str} (hx : PwN x) (hg : g ≤ 999) (hR : No x R) : beforeF x groupF (grW g x ++ R) = (g, R) := by
  unfold grW
  by_cases h : g = 0
  · subst h
    rw [if_pos rfl]
    exact bef_none hR
  · rw [if_neg h, List.append_assoc]
    exact bef_some (group_hit g (by omega) hg (x :: R) (stop_pow hx R)) h
theorem count_hit {m : Nat} (h0 : 0 < m) (hm : m < 1000000000000) : countF (cntW m) = (m, []) := by
  have B0 : PwN [98, 105, 108, 108, 105, 111, 110] := Or.inl rfl
  have M0 : PwN [109, 105, 108, 108, 105, 111, 110] := Or.inr (Or.inl rfl)
  have T0 : PwN [116, 104, 111, 117, 115, 97, 110, 100] := Or.inr (Or.inr rfl)
  by_cases hs : m ≤ 999
  · rw [cnt_sm hs]
    have N : ∀ x, No x (cnt3 m) := fun x => no_cnt (by omega) hs
    have hp : powF powL 0 (cnt3 m) = (0, cnt3 m) := by
      unfold powL powF
      simp only [bef_none (N [98, 105, 108, 108, 105, 111, 110])]
      unfold powF
      simp only [bef_none (N [109, 105, 108, 108, 105, 111, 110])]
      unfold powF
      simp only [bef_none (N [116, 104, 111, 117, 115, 97, 110, 100])]
      unfold powF
      rfl
    unfold countF
    rw [hp]
    have := group_hit m (by omega) hs [] stop_nil
    rw [List.append_nil] at this
    exact this
  · obtain ⟨a, ha⟩ : ∃ a, a = m / 1000000000 := ⟨_, rfl⟩
    obtain ⟨b, hb⟩ : ∃ b, b = m / 1000000 % 1000 := ⟨_, rfl⟩
    obtain ⟨c, hc⟩ : ∃ c, c = m / 1000 % 1000 := ⟨_, rfl⟩
    obtain ⟨h, hh⟩ : ∃ h, h = m / 100 % 10 := ⟨_, rfl⟩
    obtain ⟨q, hq⟩ : ∃ q, q = m % 100 := ⟨_, rfl⟩
    have e : m = 1000000000 * a + 1000000 * b + 1000 * c + 100 * h + q := by omega
    have hw : cntW m = grW a [98, 105, 108, 108, 105, 111, 110] ++ (grW b [109, 105, 108, 108, 105, 111, 110] ++ (grW c [116, 104, 111, 117, 115, 97, 110, 100] ++ tlW h q)) := by
      rw [e]
      exact cnt_groups (by omega) (by omega) (by omega) (by omega) (by omega) (by omega)
    have n3 : ∀ x, No x (tlW h q) := fun x => no_tl (by omega) (by omega)
    have p3 := befg_hit (g := c) (R := tlW h q) T0 (by omega) (n3 _)
    have p2 := befg_hit (g := b) (R := grW c [116, 104, 111, 117, 115, 97, 110, 100] ++ tlW h q) M0 (by omega) (no_gr T0 (by decide) (by omega) (n3 _))
    have p1 := befg_hit (g := a) (R := grW b [109, 105, 108, 108, 105, 111, 110] ++ (grW c [116, 104, 111, 117, 115, 97, 110, 100] ++ tlW h q)) B0 (by omega) (no_gr M0 (by decide) (by omega) (no_gr T0 (by decide) (by omega) (n3 _)))
    rw [hw]
    have hp : powF powL 0 (grW a [98, 105, 108, 108, 105, 111, 110] ++ (grW b [109, 105, 108, 108, 105, 111, 110] ++ (grW c [116, 104, 111, 117, 115, 97, 110, 100] ++ tlW h q))) = (1000000000 * a + 1000000 * b + 1000 * c, tlW h q) := by
      unfold powL powF
      simp only [p1]
      unfold powF
      simp only [p2]
      unfold powF
      simp only [p3]
      unfold powF
      rw [Nat.zero_add]
    unfold countF
    rw [hp]
    have := last_hit (1000000000 * a + 1000000 * b + 1000 * c) h q (Or.inl (by omega)) (by omega) (by omega) [] stop_nil
    rw [List.append_nil] at this
    show lastF (1000000000 * a + 1000000 * b + 1000 * c) (tlW h q) = _
    rw [this, ← e]
theorem count_no {ws : List Str} (h1 : (unitF ws).1 = 0) (h2 : (belowF ws).1 = 0) : (countF ws).1 = 0 := by
  have hg : groupF ws = belowF ws := by
    unfold groupF lastF
    rw [bef_none (Or.inl h1)]
    simp only
    rw [if_pos trivial]
  have N : ∀ x, beforeF x groupF ws = (0, ws) := fun x => bef_none (Or.inl (by rw [hg]; exact h2))
  have hp : powF powL 0 ws = (0, ws) := by
    unfold powL powF
    simp only [N]
    unfold powF
    simp only [N]
    unfold powF
    simp only [N]
    unfold powF
    rfl
  unfold countF
  rw [hp]
  show (groupF ws).1 = 0
  rw [hg]
  exact h2
theorem count_zero (t : List Str) : (countF ([122, 101, 114, 111] :: t)).1 = 0 := count_no rfl rfl
theorem count_min (t : List Str) : (countF ([109, 105, 110, 117, 115] :: t)).1 = 0 := count_no rfl rfl
theorem no_head {m : Nat} (h0 : 0 < m) (hm : m < 1000000000000) {x : Str} (hx : ∀ t, (countF (x :: t)).1 = 0) : tkB x (cntW m) = false := by
  cases h : tkB x (cntW m) with
  | false => rfl
  | true =>
    have h1 := count_hit h0 hm
    rw [tk_cons h] at h1
    have h2 := hx (cntW m).tail
    rw [h1] at h2
    simp only at h2
    omega
theorem whole_hit {m : Nat} (hm : m < 1000000000000) : wholeF (cntW m) = ((m, true), []) := by
  by_cases h0 : m = 0
  · subst h0; rfl
  · unfold wholeF
    rw [no_head (by omega) hm count_zero, count_hit (by omega) hm]
    simp only [Bool.false_eq_true, if_false]
    rw [decide_eq_true (show 0 < m by omega)]
theorem min_head {m : Nat} (hm : m < 1000000000000) : tkB [109, 105, 110, 117, 115] (cntW m) = false := by
  by_cases h0 : m = 0
  · subst h0; rfl
  · exact no_head (by omega) hm count_min
/-- the words of a number are read back -/
theorem wNum_hit {m : Nat} (hm : m < 1000000000000) : asF wNum (cntW m) = numS m := by
  have es : signF (cntW m) = ([], cntW m) := by
    unfold signF
    rw [min_head hm]
    rfl
  have : wNum (cntW m) = (numS m, []) := by
    unfold wNum
    simp only [es, whole_hit hm]
    rfl
  unfold asF
  rw [this]
  rfl
theorem wNum_neg {m : Nat} (h0 : 0 < m) (hm : m < 1000000000000) : asF wNum ([109, 105, 110, 117, 115] :: cntW m) = 45 :: numS m := by
  have es : signF ([109, 105, 110, 117, 115] :: cntW m) = ([45], cntW m) := rfl
  have : wNum ([109, 105, 110, 117, 115] :: cntW m) = (45 :: numS m, []) := by
    unfold wNum
    simp only [es, whole_hit hm]
    have e : (true && !(decide (([45] : Str) ≠ []) && decide (m = 0))) = true := by simp; omega
    rw [if_pos e]
    rfl
  unfold asF
  rw [this]
  rfl
theorem ord_out : ∀ x ∈ allW, ordW x ∉ allW := by decide +kernel
/-- the words of an ordinal are no number -/
theorem wNum_ord {n : Nat} (hn : n < 1000000000000) : asF wNum (sordW n) = [] := by
  by_cases h : asF wNum (sordW n) = []
  · exact h
  · exfalso
    have hm := cntW_mem hn
    have hl : ∃ p x, x ∈ allW ∧ sordW n = p ++ [ordW x] := by
      unfold sordW
      rcases List.eq_nil_or_concat (cntW n) with h1 | ⟨p, l, h1⟩
      · exact absurd h1 (cntW_ne n)
      · rw [List.concat_eq_append] at h1
        rw [h1] at hm ⊢
        have e : (p ++ [l]).length - 1 = p.length := by simp
        refine ⟨p, l, hm l (by simp), ?_⟩
        rw [e, List.getD_eq_getElem?_getD, List.getElem?_append_right (Nat.le_refl _), Nat.sub_self, List.set_append_right _ _ (Nat.le_refl _), Nat.sub_self]
        rfl
    obtain ⟨p, x, hx, hp⟩ := hl
    obtain ⟨m, hm9, hw⟩ := wNum_sound rfl h
    have key : ∀ q : List Str, (∀ y ∈ q, y ∈ allW) → p ++ [ordW x] = q → False := by
      intro q hq e
      exact ord_out x hx (hq _ (by rw [← e]; simp))
    rcases hw with ⟨_, hw⟩ | ⟨_, _, hw⟩
    · rw [hp] at hw
      exact key _ (cntW_mem hm9) hw
    · rw [hp] at hw
      cases p with
      | nil =>
        rw [List.nil_append] at hw
        injection hw with _ h2
        exact cntW_ne m h2.symm
      | cons z zs =>
        rw [List.cons_append] at hw
        injection hw with _ h2
        exact ord_out x hx (cntW_mem hm9 _ (by rw [← h2]; simp))
end Go.Proofs.YtpdfjlbfhnapkaaGreatDoor
