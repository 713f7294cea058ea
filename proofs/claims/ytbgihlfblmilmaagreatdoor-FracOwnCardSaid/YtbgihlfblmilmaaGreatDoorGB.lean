/- Lehmer's steps: what their leading bits tell. -/
import Derived.Test.YtbgihlfblmilmaaGreatDoorG8
namespace Go.Proofs.YtbgihlfblmilmaaGreatDoor.Fr
open Go.RowKit Num

/-- two rows of Euclid's algorithm for P and Q (in one order), computed with leading bits: T and L are the numbers that they stand for -/
structure FoR (P Q Ph Qh t G A B th ao tt lh lo lt T L : Nat) : Prop where
  hP : P / 2 ^ t = Ph
  hQ : Q / 2 ^ t = Qh
  pb : Ph < 18446744073709551616
  qb : Qh < 18446744073709551616
  e1 : T + tt * Q = ao * P
  e2 : L + lt * P = lo * Q
  e3 : th + tt * Qh = ao * Ph
  e4 : lh + lt * Ph = lo * Qh
  e5 : Ph = lo * th + tt * lh
  e6 : Qh = lt * th + ao * lh
  gc : T.gcd L = G
  le : L ≤ T
  hle : lh ≤ th
  lo1 : 1 ≤ lo
  ta : T ≤ A
  lb : L ≤ B
  pr : lt = 0 ∨ L < B

theorem FoR.start {A B t Ah Bh : Nat} (h1 : A / 2 ^ t = Ah) (h2 : B / 2 ^ t = Bh) (hb : Ah < 18446744073709551616) (hle : B ≤ A) : FoR A B Ah Bh t (A.gcd B) A B Ah 1 0 Bh 1 0 A B :=
  ⟨h1, h2, hb, Nat.lt_of_le_of_lt (by rw [← h1, ← h2]; exact Nat.div_le_div_right hle) hb, by omega, by omega, by omega, by omega, by omega, by omega, rfl, hle, by rw [← h1, ← h2]; exact Nat.div_le_div_right hle, by omega, by omega, by omega, .inl rfl⟩

section
variable {P Q Ph Qh t G A B th ao tt lh lo lt T L : Nat}
theorem FoR.th_le (h : FoR P Q Ph Qh t G A B th ao tt lh lo lt T L) : th ≤ Ph := by
  have h1 := h.e5
  have h2 : 1 * th ≤ lo * th := Nat.mul_le_mul_right _ h.lo1
  omega
/-- the numbers of the next row, and that no digit overflows -/
theorem FoR.next_small (h : FoR P Q Ph Qh t G A B th ao tt lh lo lt T L) (hl : 0 < lh) {q nh no nt : Nat} (hq : q = th / lh) (hnh : nh = th - q * lh) (hno : no = ao + q * lt) (hnt : nt = tt + q * lo) :
    q * lh ≤ th ∧ nh < lh ∧ 1 ≤ q ∧ no * lh + lt * nh = Qh ∧ nt * lh + lo * nh = Ph ∧ 1 ≤ nt ∧ no ≤ Qh ∧ nt ≤ Ph ∧ q * lt ≤ Qh ∧ q * lo ≤ Ph := by
  have h1 : q * lh ≤ th := by rw [hq]; exact Nat.div_mul_le_self _ _
  have h2 : nh = th % lh := by
    have := Nat.mod_add_div th lh
    rw [hnh, hq, Nat.mul_comm]; omega
  have h3 : nh < lh := by rw [h2]; exact Nat.mod_lt _ hl
  have h4 : 1 ≤ q := by rw [hq, Nat.le_div_iff_mul_le hl]; have := h.hle; omega
  have hth : th = q * lh + nh := by omega
  have e6 := h.e6
  have e5 := h.e5
  have a1 : no * lh + lt * nh = Qh := by
    rw [e6, hno, hth, Nat.mul_add lt, Nat.add_mul, Nat.mul_left_comm lt, Nat.mul_assoc q]; omega
  have a2 : nt * lh + lo * nh = Ph := by
    rw [e5, hnt, hth, Nat.mul_add lo, Nat.add_mul, Nat.mul_left_comm lo, Nat.mul_assoc q]; omega
  have b1 : no * 1 ≤ no * lh := Nat.mul_le_mul_left _ hl
  have b2 : nt * 1 ≤ nt * lh := Nat.mul_le_mul_left _ hl
  have b3 : 1 * 1 ≤ q * lo := Nat.mul_le_mul h4 h.lo1
  exact ⟨h1, h3, h4, a1, a2, by omega, by omega, by omega, by omega, by omega⟩

/-- the step is certain -/
theorem FoR.next (h : FoR P Q Ph Qh t G A B th ao tt lh lo lt T L) (hl : 0 < lh) {q nh no nt : Nat} (hq : q = th / lh) (hnh : nh = th - q * lh) (hno : no = ao + q * lt) (hnt : nt = tt + q * lo)
    (hBA : B ≤ A) (c1 : nt ≤ nh) (c2 : no + lt ≤ lh - nh) : ∃ N, FoR Q P Qh Ph t G A B lh lo lt nh no nt L N := by
  obtain ⟨s1, s2, s3, s4, s5, s6, s7, s8, _, _⟩ := h.next_small hl hq hnh hno hnt
  have hth : th = q * lh + nh := by omega
  have hp2 : 0 < 2 ^ t := Nat.two_pow_pos t
  obtain ⟨Pl, hPl, hPlt⟩ : ∃ Pl, P = 2 ^ t * Ph + Pl ∧ Pl < 2 ^ t := ⟨P % 2 ^ t, by rw [← h.hP]; have := Nat.mod_add_div P (2 ^ t); omega, Nat.mod_lt _ hp2⟩
  obtain ⟨Ql, hQl, hQlt⟩ : ∃ Ql, Q = 2 ^ t * Qh + Ql ∧ Ql < 2 ^ t := ⟨Q % 2 ^ t, by rw [← h.hQ]; have := Nat.mod_add_div Q (2 ^ t); omega, Nat.mod_lt _ hp2⟩
  -- the heads of the next row
  have e3 : nh + nt * Qh = no * Ph := by
    have h3 := h.e3
    have h4 := h.e4
    have k : q * (lh + lt * Ph) = q * (lo * Qh) := by rw [h4]
    rw [hno, hnt, Nat.add_mul, Nat.add_mul, Nat.mul_assoc q lo, Nat.mul_assoc q lt]
    rw [Nat.mul_add] at k
    omega
  -- the number of the next row is not negative
  have hge : nt * Q ≤ no * P := by
    have k1 : nt * Q = nt * (2 ^ t * Qh) + nt * Ql := by rw [hQl, Nat.mul_add]
    have k2 : no * P = no * (2 ^ t * Ph) + no * Pl := by rw [hPl, Nat.mul_add]
    have k3 : nt * Ql ≤ nt * 2 ^ t := Nat.mul_le_mul_left _ (by omega)
    have k4 : nt * 2 ^ t ≤ nh * 2 ^ t := Nat.mul_le_mul_right _ c1
    have k5 : (nh + nt * Qh) * 2 ^ t = no * Ph * 2 ^ t := by rw [e3]
    rw [Nat.add_mul] at k5
    have k6 : nt * (2 ^ t * Qh) = nt * Qh * 2 ^ t := by rw [Nat.mul_assoc, Nat.mul_comm (2 ^ t)]
    have k7 : no * (2 ^ t * Ph) = no * Ph * 2 ^ t := by rw [Nat.mul_assoc, Nat.mul_comm (2 ^ t)]
    omega
  obtain ⟨N, hN⟩ : ∃ N, N + nt * Q = no * P := ⟨no * P - nt * Q, by omega⟩
  -- it is the rest of T and L
  have hT : N + q * L = T := by
    have h1 := h.e1
    have h2 := h.e2
    have k : q * (L + lt * P) = q * (lo * Q) := by rw [h2]
    rw [hno, hnt, Nat.add_mul, Nat.add_mul, Nat.mul_assoc q lo, Nat.mul_assoc q lt] at hN
    rw [Nat.mul_add] at k
    omega
  -- and less than L
  have hNL : N < L := by
    have g1 : L + lt * Pl = 2 ^ t * lh + lo * Ql := by
      have h2 := h.e2
      rw [hPl, hQl, Nat.mul_add, Nat.mul_add] at h2
      have k : 2 ^ t * (lh + lt * Ph) = 2 ^ t * (lo * Qh) := by rw [h.e4]
      rw [Nat.mul_add] at k
      have k6 : lt * (2 ^ t * Ph) = 2 ^ t * (lt * Ph) := Nat.mul_left_comm ..
      have k7 : lo * (2 ^ t * Qh) = 2 ^ t * (lo * Qh) := Nat.mul_left_comm ..
      omega
    have g2 : N + nt * Ql = 2 ^ t * nh + no * Pl := by
      have h2 := hN
      rw [hPl, hQl, Nat.mul_add, Nat.mul_add] at h2
      have k : 2 ^ t * (nh + nt * Qh) = 2 ^ t * (no * Ph) := by rw [e3]
      rw [Nat.mul_add] at k
      have k6 : nt * (2 ^ t * Qh) = 2 ^ t * (nt * Qh) := Nat.mul_left_comm ..
      have k7 : no * (2 ^ t * Ph) = 2 ^ t * (no * Ph) := Nat.mul_left_comm ..
      omega
    have g3 : 2 ^ t * nh + 2 ^ t * (lh - nh) = 2 ^ t * lh := by rw [← Nat.mul_add]; congr 1; omega
    have g4 : 2 ^ t * (no + lt) ≤ 2 ^ t * (lh - nh) := Nat.mul_le_mul_left _ c2
    have g5 : (no + lt) * Pl = no * Pl + lt * Pl := Nat.add_mul ..
    rcases Nat.eq_zero_or_pos (no + lt) with h0 | h0
    · have g6 : 2 ^ t * 1 ≤ 2 ^ t * (lh - nh) := Nat.mul_le_mul_left _ (by omega)
      rw [h0, Nat.zero_mul] at g5
      omega
    · have g6 : (no + lt) * Pl < (no + lt) * 2 ^ t := Nat.mul_lt_mul_of_pos_left hPlt h0
      rw [Nat.mul_comm (no + lt) (2 ^ t)] at g6
      omega
  refine ⟨N, h.hQ, h.hP, h.qb, h.pb, h.e2, hN, h.e4, e3, ?_, ?_, ?_, by omega, by omega, ?_, by have := h.lb; omega, by have := h.lb; omega, .inr (by have := h.lb; omega)⟩
  · rw [← s4]
  · rw [← s5]
  · rw [← h.gc, ← hT, Nat.gcd_comm L N, Nat.gcd_comm (N + q * L) L, Nat.gcd_add_mul_right_right, Nat.gcd_comm]
  · rcases Nat.eq_zero_or_pos no with h0 | h0
    · exfalso
      rw [h0, Nat.zero_mul] at hN
      have hQh : Qh = lt * nh := by rw [← s4, h0, Nat.zero_mul, Nat.zero_add]
      rw [h0, Nat.zero_mul] at e3
      omega
    · exact h0
end
end Go.Proofs.YtbgihlfblmilmaaGreatDoor.Fr

/- Lehmer's steps, as the program makes them. -/
namespace Go.Proofs.YtbgihlfblmilmaaGreatDoor.Fr
open Go.RowKit Num

theorem head_div {xs : List Nat} {n x1 x0 s : Nat} (hl : xs.length = n) (hn : 2 ≤ n) (hok : Okd (bs .u64) xs) (h1 : xs.getD (n - 1) 0 = x1) (h0 : xs.getD (n - 2) 0 = x0) (hs : s < 64) :
    vl (bs .u64) xs / 2 ^ (64 * (n - 2) + (64 - s)) = x1 * 2 ^ s + x0 / 2 ^ (64 - s) := by
  have h2 := drop_two (b := bs .u64) (cur := xs) (m := n - 2) (p1 := x1) (by omega) h0 (by rw [show n - 2 + 1 = n - 1 by omega]; exact h1) (by rw [List.drop_eq_nil_of_le (by omega), vl_nil])
  rw [(vl_drop_div (by decide) hok (by omega)).1, bs64_pow] at h2
  rw [Nat.pow_add, ← Nat.div_div_eq_div_mul, h2]
  have e : x1 * bs .u64 + x0 = x0 + 2 ^ (64 - s) * (x1 * 2 ^ s) := by
    have e2 : bs .u64 = 2 ^ (64 - s) * 2 ^ s := by rw [← Nat.pow_add, show 64 - s + s = 64 by omega]; rfl
    rw [e2, Nat.mul_left_comm, Nat.add_comm]
  rw [e, Nat.add_mul_div_left _ _ (Nat.two_pow_pos _)]; omega
theorem head_or {x1 x0 s : Nat} (h0 : x0 ≤ 18446744073709551615) (hs : s < 64) (hb : x1 * 2 ^ s < 18446744073709551616) :
    bits .or .u64 (IntKind.u64.wrap ((x1 : Int) * 2 ^ s)) ((x0 : Int) / 2 ^ (64 - s)) = ((x1 * 2 ^ s + x0 / 2 ^ (64 - s) : Nat) : Int) ∧ x1 * 2 ^ s + x0 / 2 ^ (64 - s) < 18446744073709551616 := by
  have hlt : x0 / 2 ^ (64 - s) < 2 ^ s := by
    rw [Nat.div_lt_iff_lt_mul (Nat.two_pow_pos _), ← Nat.pow_add, show s + (64 - s) = 64 by omega]; exact Nat.lt_of_le_of_lt h0 (by decide)
  have h1 : x1 * 2 ^ s + 2 ^ s ≤ 18446744073709551616 := by
    have e : 18446744073709551616 = 2 ^ (64 - s) * 2 ^ s := by rw [← Nat.pow_add, show 64 - s + s = 64 by omega]
    rw [e] at hb ⊢
    have h2 := Nat.lt_of_mul_lt_mul_right hb
    have h3 : (x1 + 1) * 2 ^ s ≤ 2 ^ (64 - s) * 2 ^ s := Nat.mul_le_mul_right _ h2
    rw [Nat.add_mul, Nat.one_mul] at h3
    exact h3
  have hle : x0 / 2 ^ (64 - s) ≤ x0 := Nat.div_le_self _ _
  have hw : IntKind.u64.wrap ((x1 : Int) * 2 ^ s) = ((x1 * 2 ^ s : Nat) : Int) := by
    have e2 : ((x1 * 2 ^ s : Nat) : Int) = (x1 : Int) * 2 ^ s := by rw [Int.natCast_mul, Int.natCast_pow]; rfl
    rw [← e2]
    exact IntWalk.u64_in _ ⟨by omega, by omega⟩
  have hor := or_add (b := x1) _ hlt
  have e := u64_or_nat (x0 / 2 ^ (64 - s)) (x1 * 2 ^ s) (by omega) (by omega)
  rw [hor] at e
  refine ⟨?_, by omega⟩
  rw [hw, shr_cast]
  have e2 := u64_or_nat (x1 * 2 ^ s) (x0 / 2 ^ (64 - s)) (by omega) (by omega)
  rw [e2, Nat.or_comm, hor]
  congr 1
  omega
theorem top_le {xs ys : List Nat} {n x y : Nat} (hl : xs.length = n) (hl' : ys.length = n) (hn : 0 < n) (ho : Okd (bs .u64) xs) (ho' : Okd (bs .u64) ys) (hx : xs.getD (n - 1) 0 = x) (hy : ys.getD (n - 1) 0 = y) (hle : vl (bs .u64) ys ≤ vl (bs .u64) xs) : y ≤ x := by
  have h1 := getD_vl ho (by decide) (n - 1)
  have h2 := getD_vl ho' (by decide) (n - 1)
  have l1 := vl_lt ho
  have l2 := vl_lt ho'
  rw [hl] at l1
  rw [hl'] at l2
  have e : bs .u64 ^ n = bs .u64 * bs .u64 ^ (n - 1) := by
    rw [Nat.mul_comm, ← Nat.pow_succ]; congr 1; omega
  rw [e] at l1 l2
  rw [Nat.mod_eq_of_lt ((Nat.div_lt_iff_lt_mul (Nat.pow_pos (by decide))).2 l1)] at h1
  rw [Nat.mod_eq_of_lt ((Nat.div_lt_iff_lt_mul (Nat.pow_pos (by decide))).2 l2)] at h2
  rw [← hx, ← hy, h1, h2]
  exact Nat.div_le_div_right hle
theorem shl_fits {x y s : Nat} (hs : bl x + s = 64) (hy : y ≤ x) : y * 2 ^ s < 18446744073709551616 := by
  have h1 := lt_bl x
  have h2 : y * 2 ^ s < 2 ^ bl x * 2 ^ s := Nat.mul_lt_mul_of_pos_right (by omega) (Nat.two_pow_pos _)
  rw [← Nat.pow_add, hs] at h2
  exact h2

/-- what the rows stand for -/
def Fo (A B Ah Bh t : Nat) (ex : Bool) (ah ao aq lh lo lt : Nat) : Prop :=
  ∃ T L, FoR (if ex then B else A) (if ex then A else B) (if ex then Bh else Ah) (if ex then Ah else Bh) t (A.gcd B) A B ah ao aq lh lo lt T L ∧ ao ≤ 18446744073709551615 ∧ aq ≤ 18446744073709551615 ∧ lo ≤ 18446744073709551615 ∧ lt ≤ 18446744073709551615
theorem Fo.start {A B t Ah Bh : Nat} (h1 : A / 2 ^ t = Ah) (h2 : B / 2 ^ t = Bh) (hb : Ah < 18446744073709551616) (hle : B ≤ A) : Fo A B Ah Bh t false Ah 1 0 Bh 1 0 := ⟨A, B, FoR.start h1 h2 hb hle, by omega, by omega, by omega, by omega⟩
section
variable {A B Ah Bh t ah ao aq lh lo lt : Nat} {ex : Bool}
theorem Fo.small (h : Fo A B Ah Bh t ex ah ao aq lh lo lt) (hl : 0 < lh) {q nh no nt : Nat} (hq : q = ah / lh) (hnh : nh = ah - q * lh) (hno : no = ao + q * lt) (hnt : nt = aq + q * lo) :
    q * lh ≤ ah ∧ nh < lh ∧ 1 ≤ nt ∧ no ≤ 18446744073709551615 ∧ nt ≤ 18446744073709551615 ∧ ah ≤ 18446744073709551615 ∧ q * lt ≤ 18446744073709551615 ∧ q * lo ≤ 18446744073709551615 ∧ ao ≤ 18446744073709551615 ∧ aq ≤ 18446744073709551615 ∧ (nt ≤ nh → no + lt ≤ 18446744073709551615) := by
  obtain ⟨T, L, h, u1, u2, _⟩ := h
  obtain ⟨s1, s2, s3, s4, s5, s6, s7, s8, s9, s10⟩ := h.next_small hl hq hnh hno hnt
  have hpb := h.pb
  have hqb := h.qb
  have hth := h.th_le
  refine ⟨s1, s2, s6, by omega, by omega, by omega, by omega, by omega, u1, u2, fun hc => ?_⟩
  have hlh : 2 ≤ lh := by omega
  have h1 : no * 2 ≤ no * lh := Nat.mul_le_mul_left _ hlh
  have h2 : 1 * lt ≤ q * lt := Nat.mul_le_mul_right _ s3
  omega
theorem Fo.next (h : Fo A B Ah Bh t ex ah ao aq lh lo lt) (hl : 0 < lh) (hBA : B ≤ A) {q nh no nt : Nat} (hq : q = ah / lh) (hnh : nh = ah - q * lh) (hno : no = ao + q * lt) (hnt : nt = aq + q * lo) (c1 : nt ≤ nh) (c2 : no + lt ≤ lh - nh) :
    Fo A B Ah Bh t (!ex) lh lo lt nh no nt := by
  have hs := h.small hl hq hnh hno hnt
  obtain ⟨T, L, h, _, _, u3, u4⟩ := h
  obtain ⟨N, hN⟩ := h.next hl hq hnh hno hnt hBA c1 c2
  refine ⟨L, N, ?_, u3, u4, hs.2.2.2.1, hs.2.2.2.2.1⟩
  cases ex <;> exact hN
theorem Fo.bounds (h : Fo A B Ah Bh t ex ah ao aq lh lo lt) : ah ≤ 18446744073709551615 ∧ lh ≤ 18446744073709551615 := by
  obtain ⟨T, L, h, _⟩ := h
  have h1 := h.pb
  have h2 := h.th_le
  have h3 := h.hle
  omega
end
end Go.Proofs.YtbgihlfblmilmaaGreatDoor.Fr

/- Lehmer's steps, the walk. -/
namespace Go.Proofs.YtbgihlfblmilmaaGreatDoor.Fr
open Go.RowKit Num

/-- a row's three cells -/
def rw3 (a b c : Nat) : Array Value := #[.int .u64 (a : Int), .int .u64 (b : Int), .int .u64 (c : Int)]
theorem load_row {g : Nat} {W : World} {a b c : Value} (h : Blk W g 132 #[a, b, c]) : (loadVar 132 ⟨g, 0, none⟩).run Tryz.prog W = .ok (.agg #[a, b, c]) W := by
  have q0 : W.cell? ⟨g, 0, none⟩ = some a := h.cell 0
  have q1 : W.cell? ⟨g, 1, none⟩ = some b := h.cell 1
  have q2 : W.cell? ⟨g, 2, none⟩ = some c := h.cell 2
  simp [go_sem, q0, q1, q2]
theorem results_rows {fn : Func} {p p2 u : Tmp} {ty ty2 : TypeId} (h : fn.results = #[.cell p ty, .cell p2 ty2, .tmp u]) (tmps : Array Value) (P : Program) (w : World) :
    (results fn tmps).run P w =
      ((asAddr (tmps.getD p undef)).run P w).andThen fun a w₁ => ((loadVar ty a).run P w₁).andThen fun v w₂ => ((asAddr (tmps.getD p2 undef)).run P w₂).andThen fun a2 w₃ => ((loadVar ty2 a2).run P w₃).andThen fun v2 w₄ => .ok (.tuple #[v, v2, tmps.getD u undef]) w₄ := by
  simp only [results, h]
  simp [Sem.run_bind, Result.andThen]
/-- a return of two rows and a truth value -/
theorem ret_rows {fn : Func} {R : Ending → World → Prop} {act : Act} {W : World} {g g2 p p2 u : Nat} {a b c a2 b2 c2 : Value} (hr : fn.results = #[.cell p 132, .cell p2 132, .tmp u]) (hs : act.tmps.getD p undef = .pointer (some ⟨g, 0, none⟩)) (hs2 : act.tmps.getD p2 undef = .pointer (some ⟨g2, 0, none⟩))
    (hB : Blk W g 132 #[a, b, c]) (hB2 : Blk W g2 132 #[a2, b2, c2]) (hd : act.defers = []) (hR : R (.returned (.tuple #[.agg #[a, b, c], .agg #[a2, b2, c2], act.tmps.getD u undef])) W) : bodyPost Tryz.prog fn R .ret act W :=
  bodyPost_ret (v := .tuple #[.agg #[a, b, c], .agg #[a2, b2, c2], act.tmps.getD u undef]) (by rw [results_rows hr, hs, hs2]; simp [asAddr, load_row hB, load_row hB2]) hd hR

theorem two_rows {W : World} {g1 g2 : Nat} (hne : g1 ≠ g2) {t : TypeId} {a b c a2 b2 c2 : Value} (D1 : Blk W g1 t #[a, b, c]) (D2 : Blk W g2 t #[a2, b2, c2]) (x y z x2 y2 z2 : Value) :
    Blk ((((((W.setCell ⟨g1, 0, none⟩ x).setCell ⟨g1, 1, none⟩ y).setCell ⟨g1, 2, none⟩ z).setCell ⟨g2, 0, none⟩ x2).setCell ⟨g2, 1, none⟩ y2).setCell ⟨g2, 2, none⟩ z2).drew g1 t #[x, y, z] ∧
    Blk ((((((W.setCell ⟨g1, 0, none⟩ x).setCell ⟨g1, 1, none⟩ y).setCell ⟨g1, 2, none⟩ z).setCell ⟨g2, 0, none⟩ x2).setCell ⟨g2, 1, none⟩ y2).setCell ⟨g2, 2, none⟩ z2).drew g2 t #[x2, y2, z2] := by
  have e1 : Blk (((W.setCell ⟨g1, 0, none⟩ x).setCell ⟨g1, 1, none⟩ y).setCell ⟨g1, 2, none⟩ z) g1 t #[x, y, z] := ((D1.set_ 0 _).set_ 1 _).set_ 2 _
  have e2 := ((D2.far (p := ⟨g1, 0, none⟩) (by show g2 ≠ g1; omega) x).far (p := ⟨g1, 1, none⟩) (by show g2 ≠ g1; omega) y).far (p := ⟨g1, 2, none⟩) (by show g2 ≠ g1; omega) z
  have e3 : Blk ((((((W.setCell ⟨g1, 0, none⟩ x).setCell ⟨g1, 1, none⟩ y).setCell ⟨g1, 2, none⟩ z).setCell ⟨g2, 0, none⟩ x2).setCell ⟨g2, 1, none⟩ y2).setCell ⟨g2, 2, none⟩ z2) g2 t #[x2, y2, z2] := ((e2.set_ 0 _).set_ 1 _).set_ 2 _
  exact ⟨(((e1.far (p := ⟨g2, 0, none⟩) hne x2).far (p := ⟨g2, 1, none⟩) hne y2).far (p := ⟨g2, 2, none⟩) hne z2).drew, e3.drew⟩
theorem bel_rows {W W' : World} {B g1 g2 : Nat} (h : Below B W W') (h1 : B ≤ g1) (h2 : B ≤ g2) (x y z x2 y2 z2 : Value) :
    Below B W ((((((W'.setCell ⟨g1, 0, none⟩ x).setCell ⟨g1, 1, none⟩ y).setCell ⟨g1, 2, none⟩ z).setCell ⟨g2, 0, none⟩ x2).setCell ⟨g2, 1, none⟩ y2).setCell ⟨g2, 2, none⟩ z2).drew := (bel_set3 (bel_set3 h h1 x y z) h2 x2 y2 z2).drew

set_option maxHeartbeats 12800000 in
set_option maxRecDepth 100000 in
theorem foresee_any (A B : Option Addr) (n ca cb : Nat) (xs ys : List Nat) (w : World) (h : Dg .u64 w A n ca xs) (h' : Dg .u64 w B n cb ys) (hn : 2 ≤ n) (X Y : Nat) (hX : Hid (vl (bs .u64) xs = X)) (hY : Hid (vl (bs .u64) ys = Y)) (hN : Nrm xs) (hle : Hid (Y ≤ X)) :
    Calls Tryz.prog 148 #[.slice A n ca, .slice B n cb] w fun e w' => ∃ (Ah Bh t : Nat) (ex : Bool) (ah ao aq lh lo lt : Nat), e = .returned (.tuple #[.agg (rw3 ah ao aq), .agg (rw3 lh lo lt), .bool ex]) ∧ Hid (Fo X Y Ah Bh t ex ah ao aq lh lo lt) ∧ Below w.heap.size w w' := by
  have hc1 := h.top
  have hc2 := h'.top
  have hc3 := h.cap
  have hc4 := h'.cap
  have B1 := (Blk.new w 132 #[.int .u64 0, .int .u64 0, .int .u64 0]).alloc (.cells #[.int .u64 0, .int .u64 0, .int .u64 0] 132)
  have B2 := Blk.new (w.alloc (.cells #[.int .u64 0, .int .u64 0, .int .u64 0] 132)) 132 #[.int .u64 0, .int .u64 0, .int .u64 0]
  have e1 : (w.alloc (.cells #[.int .u64 0, .int .u64 0, .int .u64 0] 132)).heap.size = w.heap.size + 1 := by simp
  have hw0 := ((Below.refl w.heap.size w).alloc (Nat.le_refl _) (.cells #[.int .u64 0, .int .u64 0, .int .u64 0] 132)).alloc (by rw [e1]; omega) (.cells #[.int .u64 0, .int .u64 0, .int .u64 0] 132)
  rw [e1] at B2
  clear e1
  have h1 := h.below hw0
  have h2 := h'.below hw0
  obtain ⟨ap, x1, rfl, hx1, hx1'⟩ := h1.at_ (j := n - 1) (by omega)
  obtain ⟨ap', x0, hap, hx0, hx0'⟩ := h1.at_ (j := n - 2) (by omega)
  injection hap with hap
  subst hap
  obtain ⟨ad, y1, rfl, hy1, hy1'⟩ := h2.at_ (j := n - 1) (by omega)
  obtain ⟨ad', y0, had, hy0, hy0'⟩ := h2.at_ (j := n - 2) (by omega)
  injection had with had
  subst had
  have hb1 : x1 ≤ 18446744073709551615 := Nat.le_of_lt_succ hx1'.out.2
  have hb0 : x0 ≤ 18446744073709551615 := Nat.le_of_lt_succ hx0'.out.2
  have hd1 : y1 ≤ 18446744073709551615 := Nat.le_of_lt_succ hy1'.out.2
  have hd0 : y0 ≤ 18446744073709551615 := Nat.le_of_lt_succ hy0'.out.2
  have hxp : 0 < x1 := nrm_top (n := n - 1) hN (by rw [h.len]; omega) hx1'.out.1
  have hpr1 := i64_pred n (by omega)
  have hpr2 : (n : Int) - 2 = ((n - 2 : Nat) : Int) := by omega
  have e1 : IntKind.i64.wrap ((n : Int) - 1) = ((n - 1 : Nat) : Int) := by rw [hpr1]; exact IntWalk.i64_in _ (by omega)
  have e2 : IntKind.i64.wrap ((n - 1 : Nat) : Int) = ((n - 1 : Nat) : Int) := IntWalk.i64_in _ (by omega)
  have e3 : IntKind.i64.wrap ((n : Int) - 2) = ((n - 2 : Nat) : Int) := by rw [hpr2]; exact IntWalk.i64_in _ (by omega)
  have e4 : IntKind.i64.wrap ((n - 2 : Nat) : Int) = ((n - 2 : Nat) : Int) := IntWalk.i64_in _ (by omega)
  have i0 : (0 : Int) ≤ ((n - 1 : Nat) : Int) := by omega
  have i1 : ((n - 1 : Nat) : Int) < (n : Int) := by omega
  have i2 : (0 : Int) ≤ ((n - 2 : Nat) : Int) := by omega
  have i3 : ((n - 2 : Nat) : Int) < (n : Int) := by omega
  go_enter Tryz.func148, Tryz.ntmps148
  go_wp2_with fail
  generalize hw1 : (w.alloc (.cells #[.int .u64 0, .int .u64 0, .int .u64 0] 132)).alloc (.cells #[.int .u64 0, .int .u64 0, .int .u64 0] 132) = w1 at *
  clear hw1
  refine (leading_any x1 hxp hb1 _).mono ?_
  rintro e w' ⟨s, rfl, hs, hs2, rfl⟩
  have hsub := i64_sub64 s hs
  have esub : IntKind.i64.wrap ((64 : Int) - (s : Int)) = ((64 - s : Nat) : Int) := by rw [hsub]; exact IntWalk.i64_in _ (by omega)
  have esub2 : IntKind.i64.wrap ((64 - s : Nat) : Int) = ((64 - s : Nat) : Int) := IntWalk.i64_in _ (by omega)
  have hyx := Lib.hid (top_le h.len h'.len (by omega) h.ok h'.ok hx1'.out.1 hy1'.out.1 (by rw [hX.out, hY.out]; exact hle.out))
  have HA := Lib.hid (head_or hb0 hs (shl_fits hs2.out (Nat.le_refl x1)))
  have HB := Lib.hid (head_or hd0 hs (shl_fits hs2.out hyx.out))
  have HF := Lib.hid (Fo.start (head_div h.len hn h.ok hx1'.out.1 hx0'.out.1 hs) (head_div h'.len hn h'.ok hy1'.out.1 hy0'.out.1 hs) HA.out.2 (by rw [hX.out, hY.out]; exact hle.out))
  obtain ⟨Ah, hAh⟩ : ∃ Ah, x1 * 2 ^ s + x0 / 2 ^ (64 - s) = Ah := ⟨_, rfl⟩
  obtain ⟨Bh, hBh⟩ : ∃ Bh, y1 * 2 ^ s + y0 / 2 ^ (64 - s) = Bh := ⟨_, rfl⟩
  rw [hAh] at HA HF
  rw [hBh] at HB HF
  have oA := HA.out.1
  have oB := HB.out.1
  rw [hX.out, hY.out] at HF
  clear hAh hBh HA HB hyx
  have q0 : w1.cell? ⟨w.heap.size, 0, none⟩ = some (.int .u64 0) := B1.cell 0
  have q1 : w1.cell? ⟨w.heap.size, 1, none⟩ = some (.int .u64 0) := B1.cell 1
  have q2 : w1.cell? ⟨w.heap.size, 2, none⟩ = some (.int .u64 0) := B1.cell 2
  have f0 := B1.frozen 0
  have f1 := B1.frozen 1
  have f2 := B1.frozen 2
  have hbp := h.blt (by omega) ap rfl
  have hbd := h'.blt (by omega) ad rfl
  have hblk1 : ∀ j, (ap.add j).block ≠ w.heap.size := fun j => by rw [block_of_add]; omega
  have hblk2 : ∀ j, (ad.add j).block ≠ w.heap.size := fun j => by rw [block_of_add]; omega
  have hblk3 : ∀ j, (ad.add j).block ≠ w.heap.size + 1 := fun j => by rw [block_of_add]; omega
  go_wp2
  go_region
  have C1 : Blk (((w1.setCell ⟨w.heap.size, 0, none⟩ (.int .u64 (Ah : Int))).setCell ⟨w.heap.size, 1, none⟩ (.int .u64 1)).setCell ⟨w.heap.size, 2, none⟩ (.int .u64 0)).drew w.heap.size 132 #[.int .u64 (Ah : Int), .int .u64 1, .int .u64 0] := (((B1.set_ 0 _).set_ 1 _).set_ 2 _).drew
  have C2 := (((B2.far (p := ⟨w.heap.size, 0, none⟩) (by show w.heap.size + 1 ≠ w.heap.size; omega) (.int .u64 (Ah : Int))).far (p := ⟨w.heap.size, 1, none⟩) (by show w.heap.size + 1 ≠ w.heap.size; omega) (.int .u64 1)).far (p := ⟨w.heap.size, 2, none⟩) (by show w.heap.size + 1 ≠ w.heap.size; omega) (.int .u64 0)).drew
  have hwC := (bel_set3 hw0 (Nat.le_refl _) (.int .u64 (Ah : Int)) (.int .u64 1) (.int .u64 0)).drew
  have hyC1 : (((w1.setCell ⟨w.heap.size, 0, none⟩ (.int .u64 (Ah : Int))).setCell ⟨w.heap.size, 1, none⟩ (.int .u64 1)).setCell ⟨w.heap.size, 2, none⟩ (.int .u64 0)).drew.cell? (ad.add (n - 1)) = some (.int .u64 (y1 : Int)) := (cell_set3 w1 w.heap.size _ _ _ _ (hblk2 _)).trans hy1
  have hyC0 : (((w1.setCell ⟨w.heap.size, 0, none⟩ (.int .u64 (Ah : Int))).setCell ⟨w.heap.size, 1, none⟩ (.int .u64 1)).setCell ⟨w.heap.size, 2, none⟩ (.int .u64 0)).drew.cell? (ad.add (n - 2)) = some (.int .u64 (y0 : Int)) := (cell_set3 w1 w.heap.size _ _ _ _ (hblk2 _)).trans hy0
  clear q0 q1 q2 f0 f1 f2 B1 B2 hw0 h1 h2 hx1 hx0 hy1 hy0
  generalize hw2 : (((w1.setCell ⟨w.heap.size, 0, none⟩ (.int .u64 (Ah : Int))).setCell ⟨w.heap.size, 1, none⟩ (.int .u64 1)).setCell ⟨w.heap.size, 2, none⟩ (.int .u64 0)).drew = w2 at *
  clear hw2
  have q0 : w2.cell? ⟨w.heap.size + 1, 0, none⟩ = some (.int .u64 0) := C2.cell 0
  have q1 : w2.cell? ⟨w.heap.size + 1, 1, none⟩ = some (.int .u64 0) := C2.cell 1
  have q2 : w2.cell? ⟨w.heap.size + 1, 2, none⟩ = some (.int .u64 0) := C2.cell 2
  have f0 := C2.frozen 0
  have f1 := C2.frozen 1
  have f2 := C2.frozen 2
  go_wp2
  go_region
  have D2 : Blk (((w2.setCell ⟨w.heap.size + 1, 0, none⟩ (.int .u64 (Bh : Int))).setCell ⟨w.heap.size + 1, 1, none⟩ (.int .u64 1)).setCell ⟨w.heap.size + 1, 2, none⟩ (.int .u64 0)).drew (w.heap.size + 1) 132 #[.int .u64 (Bh : Int), .int .u64 1, .int .u64 0] := (((C2.set_ 0 _).set_ 1 _).set_ 2 _).drew
  have D1 := (((C1.far (p := ⟨w.heap.size + 1, 0, none⟩) (by show w.heap.size ≠ w.heap.size + 1; omega) (.int .u64 (Bh : Int))).far (p := ⟨w.heap.size + 1, 1, none⟩) (by show w.heap.size ≠ w.heap.size + 1; omega) (.int .u64 1)).far (p := ⟨w.heap.size + 1, 2, none⟩) (by show w.heap.size ≠ w.heap.size + 1; omega) (.int .u64 0)).drew
  have hwD := (bel_set3 hwC (show w.heap.size ≤ w.heap.size + 1 by omega) (.int .u64 (Bh : Int)) (.int .u64 1) (.int .u64 0)).drew
  clear q0 q1 q2 f0 f1 f2 C1 C2 hwC hyC1 hyC0
  generalize hw3 : (((w2.setCell ⟨w.heap.size + 1, 0, none⟩ (.int .u64 (Bh : Int))).setCell ⟨w.heap.size + 1, 1, none⟩ (.int .u64 1)).setCell ⟨w.heap.size + 1, 2, none⟩ (.int .u64 0)).drew = w3 at *
  clear hw3 oA oB hx1' hx0' hy1' hy0' hsub esub esub2 e1 e2 e3 e4 i0 i1 i2 i3 hpr1 hpr2 hs2 hblk1 hblk2 hblk3 hb1 hb0 hd1 hd0
  generalize 64 * (n - 2) + (64 - s) = tt at *
  go_wp2
  go_loopg [6, 9, 10] Bh (fun gk ev _ _ wr => ∃ (ex : Bool) (ah ao aq lh lo lt : Nat), ev = .bool ex ∧ Hid (gk = lh) ∧ Blk wr w.heap.size 132 #[.int .u64 (ah : Int), .int .u64 (ao : Int), .int .u64 (aq : Int)] ∧ Blk wr (w.heap.size + 1) 132 #[.int .u64 (lh : Int), .int .u64 (lo : Int), .int .u64 (lt : Int)] ∧ Hid (Fo X Y Ah Bh tt ex ah ao aq lh lo lt) ∧ Below w.heap.size w wr)
  case atStart => exact ⟨false, Ah, 1, 0, Bh, 1, 0, rfl, rfl, D1, D2, HF, hwD⟩
  case round =>
    clear D1 D2 HF hwD
    obtain ⟨ex, ah, ao, aq, lh, lo, lt, rfl, hgk, D1, D2, HF, hwD⟩ := hrel
    have a0 := D1.cell 0
    have a1 := D1.cell 1
    have a2 := D1.cell 2
    have b0 := D2.cell 0
    have b1 := D2.cell 1
    have b2 := D2.cell 2
    have fa0 := D1.frozen 0
    have fa1 := D1.frozen 1
    have fa2 := D1.frozen 2
    have fb0 := D2.frozen 0
    have fb1 := D2.frozen 1
    have fb2 := D2.frozen 2
    rcases Nat.eq_zero_or_pos lh with h0 | h0
    · have hz0 : ¬ ((0 : Int) < (lh : Int)) := by omega
      clear h0
      go_wp2
      go_region
      have TR := two_rows (show w.heap.size ≠ w.heap.size + 1 by omega) D1 D2 (.int .u64 (ah : Int)) (.int .u64 (ao : Int)) (.int .u64 (aq : Int)) (.int .u64 (lh : Int)) (.int .u64 (lo : Int)) (.int .u64 (lt : Int))
      go_wp2
      exact ret_rows rfl rfl rfl TR.1 TR.2 rfl ⟨Ah, Bh, tt, ex, ah, ao, aq, lh, lo, lt, rfl, HF, bel_rows hwD (Nat.le_refl _) (by omega) _ _ _ _ _ _⟩
    · obtain ⟨q, hq⟩ : ∃ q, q = ah / lh := ⟨_, rfl⟩
      obtain ⟨m1, hm1⟩ : ∃ m1, m1 = q * lh := ⟨_, rfl⟩
      obtain ⟨m2, hm2⟩ : ∃ m2, m2 = q * lt := ⟨_, rfl⟩
      obtain ⟨m3, hm3⟩ : ∃ m3, m3 = q * lo := ⟨_, rfl⟩
      obtain ⟨nh, hnh⟩ : ∃ nh, nh = ah - m1 := ⟨_, rfl⟩
      obtain ⟨no, hno⟩ : ∃ no, no = ao + m2 := ⟨_, rfl⟩
      obtain ⟨nt, hnt⟩ : ∃ nt, nt = aq + m3 := ⟨_, rfl⟩
      have HS := HF.out.small h0 hq (show nh = ah - q * lh by rw [hnh, hm1]) (show no = ao + q * lt by rw [hno, hm2]) (show nt = aq + q * lo by rw [hnt, hm3])
      obtain ⟨t1, t2, t3, t4, t5, t6, t7, t8, t9, t10, t11⟩ := HS
      rw [← hm1] at t1
      rw [← hm2] at t7
      rw [← hm3] at t8
      have HX := Lib.hid (fun (c1 : nt ≤ nh) (c2 : no + lt ≤ lh - nh) => HF.out.next h0 hle.out hq (show nh = ah - q * lh by rw [hnh, hm1]) (show no = ao + q * lt by rw [hno, hm2]) (show nt = aq + q * lo by rw [hnt, hm3]) c1 c2)
      have hq0 : (ah : Int) / (lh : Int) = (q : Int) := by rw [hq, Int.natCast_ediv]
      have hq1 : ((ah : Int)).tdiv (lh : Int) = (q : Int) := by rw [← hq0]; exact Int.tdiv_eq_ediv_of_nonneg (by omega)
      have hqb : q ≤ 18446744073709551615 := by rw [hq]; exact Nat.le_trans (Nat.div_le_self _ _) t6
      have hz : ((lh : Int) == 0) = false := by rw [beq_eq_false_iff_ne]; omega
      have k1 : (q : Int) * (lh : Int) = (m1 : Int) := by rw [hm1, Int.natCast_mul]
      have k2 : (q : Int) * (lt : Int) = (m2 : Int) := by rw [hm2, Int.natCast_mul]
      have k3 : (q : Int) * (lo : Int) = (m3 : Int) := by rw [hm3, Int.natCast_mul]
      have k4 : (ah : Int) - (m1 : Int) = (nh : Int) := by omega
      have k5 : (ao : Int) + (m2 : Int) = (no : Int) := by omega
      have k6 : (aq : Int) + (m3 : Int) = (nt : Int) := by omega
      have hlb := HF.out.bounds.2
      clear hq hm1 hm2 hm3 hnh hno hnt
      rcases Nat.lt_or_ge nh nt with c1 | c1
      · have hlt1 : ((nh : Int) < (nt : Int)) := by omega
        have E1 := D1.alloc (.cells #[.int .u64 (nh : Int), .int .u64 (no : Int), .int .u64 (nt : Int)] 132)
        have E2 := D2.alloc (.cells #[.int .u64 (nh : Int), .int .u64 (no : Int), .int .u64 (nt : Int)] 132)
        have hwE := hwD.alloc hwD.size (.cells #[.int .u64 (nh : Int), .int .u64 (no : Int), .int .u64 (nt : Int)] 132)
        clear HX
        have ca0 := E1.cell 0
        have ca1 := E1.cell 1
        have ca2 := E1.cell 2
        have cb0 := E2.cell 0
        have cb1 := E2.cell 1
        have cb2 := E2.cell 2
        have ga0 := E1.frozen 0
        have ga1 := E1.frozen 1
        have ga2 := E1.frozen 2
        have gb0 := E2.frozen 0
        have gb1 := E2.frozen 1
        have gb2 := E2.frozen 2
        go_wp2
        go_region
        have TR := two_rows (show w.heap.size ≠ w.heap.size + 1 by omega) E1 E2 (.int .u64 (ah : Int)) (.int .u64 (ao : Int)) (.int .u64 (aq : Int)) (.int .u64 (lh : Int)) (.int .u64 (lo : Int)) (.int .u64 (lt : Int))
        go_wp2
        exact ret_rows rfl rfl rfl TR.1 TR.2 rfl ⟨Ah, Bh, tt, ex, ah, ao, aq, lh, lo, lt, rfl, HF, bel_rows hwE (Nat.le_refl _) (by omega) _ _ _ _ _ _⟩
      · have hlt1 : ¬ ((nh : Int) < (nt : Int)) := by omega
        have hlt2 : decide ((nh : Int) < (nt : Int)) = false := decide_eq_false hlt1
        have t12 := t11 c1
        obtain ⟨dl, hdl⟩ : ∃ dl, dl = lh - nh := ⟨_, rfl⟩
        obtain ⟨sl, hsl⟩ : ∃ sl, sl = no + lt := ⟨_, rfl⟩
        have k7 : (lh : Int) - (nh : Int) = (dl : Int) := by omega
        have k8 : (no : Int) + (lt : Int) = (sl : Int) := by omega
        have hslb : sl ≤ 18446744073709551615 := by omega
        have HY := Lib.hid (fun (c2 : sl ≤ dl) => HX.out c1 (by omega))
        have E1 := D1.alloc (.cells #[.int .u64 (nh : Int), .int .u64 (no : Int), .int .u64 (nt : Int)] 132)
        have E2 := D2.alloc (.cells #[.int .u64 (nh : Int), .int .u64 (no : Int), .int .u64 (nt : Int)] 132)
        have hwE := hwD.alloc hwD.size (.cells #[.int .u64 (nh : Int), .int .u64 (no : Int), .int .u64 (nt : Int)] 132)
        clear hdl hsl HX t11
        rcases Nat.lt_or_ge dl sl with c2 | c2
        · have hlt3 : ((dl : Int) < (sl : Int)) := by omega
          clear HY
          have ca0 := E1.cell 0
          have ca1 := E1.cell 1
          have ca2 := E1.cell 2
          have cb0 := E2.cell 0
          have cb1 := E2.cell 1
          have cb2 := E2.cell 2
          have ga0 := E1.frozen 0
          have ga1 := E1.frozen 1
          have ga2 := E1.frozen 2
          have gb0 := E2.frozen 0
          have gb1 := E2.frozen 1
          have gb2 := E2.frozen 2
          go_wp2
          go_region
          have TR := two_rows (show w.heap.size ≠ w.heap.size + 1 by omega) E1 E2 (.int .u64 (ah : Int)) (.int .u64 (ao : Int)) (.int .u64 (aq : Int)) (.int .u64 (lh : Int)) (.int .u64 (lo : Int)) (.int .u64 (lt : Int))
          go_wp2
          exact ret_rows rfl rfl rfl TR.1 TR.2 rfl ⟨Ah, Bh, tt, ex, ah, ao, aq, lh, lo, lt, rfl, HF, bel_rows hwE (Nat.le_refl _) (by omega) _ _ _ _ _ _⟩
        · have hlt3 : ¬ ((dl : Int) < (sl : Int)) := by omega
          have HN := Lib.hid (HY.out c2)
          clear HY
          have ca0 := E1.cell 0
          have ca1 := E1.cell 1
          have ca2 := E1.cell 2
          have cb0 := E2.cell 0
          have cb1 := E2.cell 1
          have cb2 := E2.cell 2
          have ga0 := E1.frozen 0
          have ga1 := E1.frozen 1
          have ga2 := E1.frozen 2
          have gb0 := E2.frozen 0
          have gb1 := E2.frozen 1
          have gb2 := E2.frozen 2
          have BN := Blk.new wr 132 #[.int .u64 (nh : Int), .int .u64 (no : Int), .int .u64 (nt : Int)]
          have n0 := BN.cell 0
          have n1 := BN.cell 1
          have n2 := BN.cell 2
          have hsz := D2.lt
          go_wp2
          clear a0 a1 a2 b0 b1 b2 fa0 fa1 fa2 fb0 fb1 fb2 BN D1 D2 hwD
          generalize hwN : wr.alloc (.cells #[.int .u64 (nh : Int), .int .u64 (no : Int), .int .u64 (nt : Int)] 132) = wN at *
          generalize hgN : wr.heap.size = gN at *
          clear hwN hgN
          have hne1 : gN ≠ w.heap.size := by omega
          have hne2 : gN ≠ w.heap.size + 1 := by omega
          have hne3 : w.heap.size ≠ gN := by omega
          have hne4 : w.heap.size + 1 ≠ gN := by omega
          go_region
          have TR := two_rows (show w.heap.size ≠ w.heap.size + 1 by omega) E1 E2 (.int .u64 (lh : Int)) (.int .u64 (lo : Int)) (.int .u64 (lt : Int)) (.int .u64 (nh : Int)) (.int .u64 (no : Int)) (.int .u64 (nt : Int))
          have hwT := bel_rows (g1 := w.heap.size) (g2 := w.heap.size + 1) hwE (Nat.le_refl _) (by omega) (.int .u64 (lh : Int)) (.int .u64 (lo : Int)) (.int .u64 (lt : Int)) (.int .u64 (nh : Int)) (.int .u64 (no : Int)) (.int .u64 (nt : Int))
          go_wp2
          go_roundg nh
          case measure => have := hgk.out; omega
          case rel => exact ⟨!ex, lh, lo, lt, nh, no, nt, rfl, rfl, TR.1, TR.2, HN, hwT⟩
end Go.Proofs.YtbgihlfblmilmaaGreatDoor.Fr
