/- Recordings and segments as arguments; the document's own check of a recording. -/
import Derived.Test.YtoljffghaklpdaaGreatDoorHM
import Derived.Test.YtoljffghaklpdaaGreatDoorJA
import Derived.Test.YtoljffghaklpdaaGreatDoorZK0
import Derived.Test.YtoljffghaklpdaaGreatDoorZP0
import Derived.Test.YtoljffghaklpdaaGreatDoorZA0
import Derived.IntWalk
import Derived.Test.YtoljffghaklpdaaGreatDoorZE0
import Derived.Test.YtoljffghaklpdaaGreatDoorZP6
import Derived.Test.YtoljffghaklpdaaGreatDoorZL5
import Derived.ArgAppend
import Derived.Lib.SlBytesConst

namespace Go.Proofs.YtoljffghaklpdaaGreatDoor
open Go.RowKit

end Go.Proofs.YtoljffghaklpdaaGreatDoor


/- A copy of a list. -/
namespace Go.Proofs.YtoljffghaklpdaaGreatDoor
open Go.RowKit

theorem Clone_any (A : Option Addr) (n c : Nat) (xs : List Int) (w : World) (h : Sl .i64 w A n c xs) (hn : n ≤ 2000000) :
    Calls Tryz.prog 87 #[.slice A n c] w fun e w' => ∃ A2 c2, e = .returned (.slice A2 n c2) ∧ Sl .i64 w' A2 n c2 xs ∧ Below w.heap.size w w' ∧ ∀ ad, A2 = some ad → w.heap.size ≤ ad.block := by
  obtain ⟨i0, hi, hz0, hz1, hz2⟩ := info_parts info_int
  cases A with
  | none =>
    have hz : n = 0 := by
      rcases Nat.eq_zero_or_pos n with h0 | h0
      · exact h0
      · obtain ⟨ad, e, _⟩ := h.cell h0
        cases e
    subst hz
    have hl := List.eq_nil_of_length_eq_zero h.len
    subst hl
    have hnil := fun w => Lib.run_eql_slice_nil (P := Tryz.prog) w 28 3 none 0 c 0 0 Tryz.underlying28
    go_enter Tryz.func87, Tryz.ntmps87
    go_wp2
    go_ret
    exact ⟨none, 0, rfl, Sl.nil _ _, Below.refl _ _, fun ad e => by cases e⟩
  | some ad =>
    have hnil := fun w => Lib.run_eql_slice_nil (P := Tryz.prog) w 28 3 (some ad) n c 0 0 Tryz.underlying28
    have h1 := h.alloc (.cells #[] 3)
    have hnews := Lib.hid h1.news
    have hl1 := Lib.hid h.len
    go_enter Tryz.func87, Tryz.ntmps87
    go_wp2_with (at_builtin; refine wpList_append_own _ rfl _ _ 28 rfl w.heap.size 3 i0 (.int .i64 0) 1 8 Tryz.underlying28 hi hz0 hz1 hz2 rfl (by decide) _ 0 [] rfl (World.ownsRow_lit w #[] 0 (Nat.le_refl _) (by decide) rfl) ad n c (ivs .i64 xs) rfl ?c1 hnews.out (oneCell_ivs _ _) ?c3 ?c4 ?c5 ?_)
    case c1 => rw [ivs_len, hl1.out]; simp
    case c3 => unfold maxLen; omega
    case c4 => omega
    case c5 => simp
    intro v1 w1 hown hg _
    have hb := ((Below.refl w.heap.size w).alloc (Nat.le_refl _) (.cells #[] 3)).grown hg (by simp) (fun k hk => by simp [Value.ownBlock] at hk; omega)
    have hown2 : w1.ownsRow w.heap.size 3 1 v1 n (ivs .i64 xs) := by simpa using hown
    have hfr := Lib.hid (fun k (hk : v1.ownBlock = some k) => (hown2.lt k hk).1)
    obtain ⟨A2, c2, rfl, hS2⟩ := Sl.of_own hown2
    go_wp2
    go_ret
    exact ⟨A2, c2, rfl, hS2, hb, fun ad e => by subst e; exact hfr.out _ rfl⟩
end Go.Proofs.YtoljffghaklpdaaGreatDoor


/- The document's own check of a recording. -/
namespace Go.Proofs.YtoljffghaklpdaaGreatDoor
open Go.RowKit

theorem RValid_any (rate : Int) (A : Option Addr) (n c : Nat) (xs : List Int) (w : World) (h : Sl .i64 w A n c xs) (hn : n ≤ 200000) :
    Calls Tryz.prog 16 #[.agg #[.int .i64 rate, .slice A n c]] w fun e w' => e = .returned (.bool (okB 1 192000 rate && allB (-32768) 32767 xs)) ∧ Below w.heap.size w w' := by
  have hcap := h.cap
  have htop := h.top
  have h1 := h.alloc (.cells #[.int .i64 rate, .slice A n c] 30)
  have hb := (Below.refl w.heap.size w).alloc (Nat.le_refl _) (.cells #[.int .i64 rate, .slice A n c] 30)
  by_cases h2 : 1 ≤ rate
  · by_cases h3 : rate ≤ 192000
    · have hv := Lib.hid (show (okB 1 192000 rate && allB (-32768) 32767 xs) = allB (-32768) 32767 xs by rw [okB_mk h2 h3]; rfl)
      go_enter Tryz.func16, Tryz.ntmps16
      go_wp2_with (go_at_call 19; refine (All_any _ _ _ _ _ _ _ h1).mono ?_; rintro e w' ⟨rfl, rfl⟩)
      go_ret
      exact ⟨ret_bool hv.out.symm, hb⟩
    · have hd : decide (rate ≤ 192000) = false := decide_eq_false h3
      have hv := Lib.hid (show (okB 1 192000 rate && allB (-32768) 32767 xs) = false by rw [okB_hi (lo := 1) h3]; rfl)
      go_enter Tryz.func16, Tryz.ntmps16
      go_wp2
      go_ret
      exact ⟨ret_bool hv.out.symm, hb⟩
  · have hd : decide (1 ≤ rate) = false := decide_eq_false h2
    have hd2 : ¬ 0 < rate := by omega
    have hd3 : decide (0 < rate) = false := decide_eq_false hd2
    have hv := Lib.hid (show (okB 1 192000 rate && allB (-32768) 32767 xs) = false by rw [okB_lo (hi := 192000) h2]; rfl)
    go_enter Tryz.func16, Tryz.ntmps16
    go_wp2
    go_ret
    exact ⟨ret_bool hv.out.symm, hb⟩

/-- may a segment be cut out? -/
def clB (n a b : Int) : Bool := okB 0 n b && okB 0 b a
end Go.Proofs.YtoljffghaklpdaaGreatDoor


/- Bytes: numbers in bytes, the sum of bytes. -/
namespace Go.Proofs.YtoljffghaklpdaaGreatDoor
open Go.RowKit

/-- byte i of a number -/
def byt (x : Int) (i : Nat) : Int := x / 256 ^ i % 256
/-- the first k bytes, the least significant one first -/
def le (x : Int) (k : Nat) : List Int := tab k (byt x)
theorem le_len (x : Int) (k : Nat) : (le x k).length = k := tab_len _ _
theorem le_succ (x : Int) (k : Nat) : le x (k + 1) = le x k ++ [byt x k] := tab_succ _ _
theorem pow256 (i : Nat) : (0 : Int) < 256 ^ i := Int.pow_pos (by decide)
theorem shift256 (x : Int) (i : Nat) : x / 256 ^ i / 256 = x / 256 ^ (i + 1) := by
  rw [Int.ediv_ediv, if_neg (fun h => by have := pow256 i; omega), Int.sub_zero, Int.pow_succ]
theorem byt_bd (x : Int) (i : Nat) : 0 ≤ byt x i ∧ byt x i ≤ 255 := by
  unfold byt
  have h1 := Int.emod_nonneg (x / 256 ^ i) (b := 256) (by decide)
  have h2 := Int.emod_lt_of_pos (x / 256 ^ i) (b := 256) (by decide)
  omega
theorem div_bd {x : Int} {i : Nat} (h1 : -9223372036854775808 ≤ x) (h2 : x ≤ 9223372036854775807) : -9223372036854775808 ≤ x / 256 ^ i ∧ x / 256 ^ i ≤ 9223372036854775807 := by
  have hp := pow256 i
  have hp1 : (1 : Int) ≤ 256 ^ i := by omega
  constructor
  · refine (Int.le_ediv_iff_mul_le hp).2 ?_
    have : -9223372036854775808 * (256 ^ i : Int) ≤ -9223372036854775808 * 1 := Int.mul_le_mul_of_nonpos_left (by decide) hp1
    omega
  · rcases Int.lt_or_le x 0 with h | h
    · have := Int.ediv_neg_of_neg_of_pos h hp
      omega
    · have := Int.ediv_le_self (256 ^ i : Int) h
      omega
/-- a negative number of two bytes -/
theorem le_neg (x : Int) : le (x + 65536) 2 = le x 2 := by
  refine tab_congr fun i hi => ?_
  unfold byt
  have : i = 0 ∨ i = 1 := by omega
  rcases this with rfl | rfl
  · show (x + 65536) / 1 % 256 = x / 1 % 256
    omega
  · show (x + 65536) / 256 % 256 = x / 256 % 256
    omega

/-- the sum of bytes -/
def ckS (c b : Int) : Int := (65599 * c + b + 1) % 4294967296
def ck (bs : List Int) : Int := bs.foldl ckS 1
theorem ck_snoc (bs : List Int) (b : Int) : ck (bs ++ [b]) = ckS (ck bs) b := by unfold ck; rw [List.foldl_append]; rfl
theorem ckS_bd (c b : Int) : 0 ≤ ckS c b ∧ ckS c b ≤ 4294967295 := by
  unfold ckS
  have h1 := Int.emod_nonneg (65599 * c + b + 1) (b := 4294967296) (by decide)
  have h2 := Int.emod_lt_of_pos (65599 * c + b + 1) (b := 4294967296) (by decide)
  omega
theorem ck_bd (bs : List Int) : 0 ≤ ck bs ∧ ck bs ≤ 4294967295 := by
  rcases List.eq_nil_or_concat bs with rfl | ⟨cs, b, rfl⟩
  · exact ⟨by decide, by decide⟩
  · rw [List.concat_eq_append, ck_snoc]; exact ckS_bd _ _
theorem ckS_form (s x : Int) : ((65599 * s + x) % 4294967296 + 1) % 4294967296 = ckS s x := by unfold ckS; omega
def byB (bs : List Int) : Prop := ∀ b ∈ bs, 0 ≤ b ∧ b ≤ 255
theorem byB_get {bs : List Int} (h : byB bs) {j : Nat} {x : Int} (hj : j < bs.length) (hx : bs.getD j 0 = x) : 0 ≤ x ∧ x ≤ 255 := by
  rw [getD_in hj] at hx
  exact h x (by rw [← hx]; exact List.getElem_mem hj)

set_option maxHeartbeats 1600000 in
theorem sumOf_any (A : Option Addr) (n c : Nat) (bs : List Int) (w : World) (h : Sl .u8 w A n c bs) (hb : byB bs) :
    Calls Tryz.prog 89 #[.slice A n c] w fun e w' => e = .returned (.int .u32 (ck bs)) ∧ w = w' := by
  have hl := Lib.hid h.len
  have hcap := h.cap
  have htop := h.top
  have hb := Lib.hid hb
  go_enter Tryz.func89, Tryz.ntmps89
  go_wp2
  go_loop [3, 8] (fun sv iv => ∃ k : Nat, k ≤ n ∧ iv = .int .i64 k ∧ sv = .int .u32 (ck (bs.take k))) (fun _ iv => n - (intOf iv).toNat)
  case atStart => exact ⟨0, Nat.zero_le _, rfl, rfl⟩
  case round =>
    obtain ⟨k, hk, rfl, rfl⟩ := hrel
    rcases Nat.lt_or_ge k n with hlt | hge
    · obtain ⟨ad, x, rfl, hc, hx⟩ := h.at_ hlt
      have hxb := byB_get hb.out (by rw [hl.out]; exact hlt) hx.out
      have hsb := ck_bd (bs.take k)
      have hnx := Lib.hid (show ck (bs.take (k + 1)) = ckS (ck (bs.take k)) x by rw [take_snocD (by rw [hl.out]; exact hlt) hx.out, ck_snoc])
      generalize ck (bs.take k) = s at *
      have h1 := hxb.1
      have h2 := hxb.2
      have h3 := hsb.1
      have h4 := hsb.2
      clear hxb hsb
      go_wp2
      go_round
      case rel => exact ⟨k + 1, by omega, by go_num, by rw [hnx.out, ckS_form]⟩
      case measure => simp [intOf]; omega
    · have hkn : k = n := by omega
      subst hkn
      go_wp2
      go_ret
      exact ⟨by rw [List.take_of_length_le (by rw [hl.out]; exact Nat.le_refl _)]; rfl, rfl⟩

theorem info_byte : (Tryz.prog.info? 5).map (fun i => (i.zero, i.size, i.bytes)) = some (some (.int .u8 0), 1, 1) := by kernel_rfl
theorem oneCell1b (y : Int) : ∀ u ∈ ([.int .u8 y] : List Value), u.oneCell' = true := by
  intro u hu
  simp at hu
  subst hu
  rfl
theorem byt_rem {x : Int} (h : 0 ≤ x) : IntKind.u8.wrap (x.tmod 256) = x % 256 := by
  rw [Int.tmod_eq_emod_of_nonneg h]
  have h1 := Int.emod_nonneg x (b := 256) (by decide)
  have h2 := Int.emod_lt_of_pos x (b := 256) (by decide)
  exact IntWalk.u8_in _ (by omega)

end Go.Proofs.YtoljffghaklpdaaGreatDoor


/- The document's own energy and gate. -/
namespace Go.Proofs.YtoljffghaklpdaaGreatDoor
open Go.RowKit

set_option maxHeartbeats 800000 in
theorem REnergy_any (A : Option Addr) (n c : Nat) (xs : List Int) (w : World) (h : Sl .i64 w A n c xs) (hn : n ≤ 250000) (hx : ∀ x ∈ xs, -70000 ≤ x ∧ x ≤ 70000) :
    Calls Tryz.prog 132 #[.slice A n c] w fun e w' => ∃ k, e = .returned (.int .i64 (eng xs)) ∧ w' = w.drewN k := by
  have hl := Lib.hid h.len
  have hcap := h.cap
  have htop := h.top
  have hx := Lib.hid hx
  go_enter Tryz.func132, Tryz.ntmps132
  go_wp2
  go_loopw [3, 4] (fun sv iv wr => ∃ k r : Nat, k ≤ n ∧ iv = .int .i64 k ∧ sv = .int .i64 (eng (xs.take k)) ∧ wr = w.drewN r) (fun _ iv _ => n - (intOf iv).toNat)
  case atStart => exact ⟨0, 0, Nat.zero_le _, rfl, rfl, rfl⟩
  case round =>
    obtain ⟨k, r, hk, rfl, rfl, rfl⟩ := hrel
    have hr := h.drewN r
    rcases Nat.lt_or_ge k n with hlt | hge
    · obtain ⟨ad, x, rfl, hc, hxk⟩ := hr.at_ hlt
      have hmem := hx.out x (by have := hxk.out; rw [getD_in (by rw [hl.out]; exact hlt)] at this; rw [← this]; exact List.getElem_mem _)
      have hs := sq_bd (m := 70000) hmem.1 hmem.2
      have hs1 := hs.1
      have hs2 := hs.2
      have he := eng_bd (m := 70000) (xs.take k) (fun y hy => hx.out y (List.mem_of_mem_take hy))
      have hlk : (xs.take k).length ≤ 250000 := by rw [List.length_take]; omega
      have he1 := he.1
      have he2 : eng (xs.take k) ≤ 1225000000000000 := by have := he.2; omega
      have hn2 := Lib.hid (show eng (xs.take (k + 1)) = eng (xs.take k) + x * x by rw [take_snocD (by rw [hl.out]; exact hlt) hxk.out, eng_snoc])
      clear hmem hs he
      generalize eng (xs.take k) = E at *
      generalize hw1 : w.drewN r = w1 at *
      have hw1' := Lib.hid hw1
      clear hw1
      have i1 : (k : Int) < (n : Int) := by omega
      have e1 : IntKind.i64.wrap (x * x) = x * x := IntWalk.i64_in _ (by omega)
      have e2 : IntKind.i64.wrap (E + x * x) = E + x * x := IntWalk.i64_in _ (by omega)
      go_wp2
      go_quiet (fail)
      clear e1 e2
      go_wp2
      go_roundw
      case rel => exact ⟨k + 1, r + nq, by omega, by go_num, by rw [hn2.out], by rw [← hw1'.out]; exact dr_add w r nq⟩
      case measure => simp [intOf]; omega
    · have hkn : k = n := by omega
      subst hkn
      go_wp2
      go_ret
      exact ⟨r, ret_int (by rw [List.take_of_length_le (by rw [hl.out]; exact Nat.le_refl _)]), rfl⟩

end Go.Proofs.YtoljffghaklpdaaGreatDoor


/- The document's own segments. -/
namespace Go.Proofs.YtoljffghaklpdaaGreatDoor
open Go.RowKit

theorem news_seg (w : World) (a b : Int) : ∀ j u, ([.int .i64 a, .int .i64 b] : List Value)[j]? = some u → (w.alloc (.cells #[.int .i64 a, .int .i64 b] 61)).cell? ((⟨w.heap.size, 0, none⟩ : Addr).add j) = some u := news_two w _ _ _
theorem oneCell2 (a b : Int) : ∀ u ∈ ([.int .i64 a, .int .i64 b] : List Value), u.oneCell' = true := by
  intro u hu
  simp at hu
  rcases hu with rfl | rfl <;> rfl

theorem Blk.ne_ty {w : World} {g : Nat} {t t' : TypeId} {cs cs' : Array Value} (h : Blk w g t cs) (h' : w.heap[g]? = some (.cells cs' t' (0, 0))) (hne : t ≠ t') : False := by
  unfold Blk at h
  rw [h] at h'
  injection h' with h'
  injection h' with _ ht
  exact hne ht
/-- the nine ways of a block -/
theorem st_low {G : Gt} {b E : Int} {m : Ms} (hs : m.sp = false) (h : E < G.H * G.B) : hearM G b E m = ⟨false, 0, m.first, m.last⟩ ∧ hearS G b E m = [] := by
  have h1 := hear_wait (G := G) (b := b) (E := E) hs
  rw [decide_eq_false (by omega), awt_no hs] at h1
  exact h1
theorem st_more {G : Gt} {b E : Int} {m : Ms} (hs : m.sp = false) (h : ¬ E < G.H * G.B) (hr : m.run + 1 ≠ G.R) : hearM G b E m = ⟨false, m.run + 1, m.first, m.last⟩ ∧ hearS G b E m = [] := by
  have h1 := hear_wait (G := G) (b := b) (E := E) hs
  rw [decide_eq_true (by omega), awt_more hs hr] at h1
  exact h1
theorem st_yes {G : Gt} {b E : Int} {m : Ms} (hs : m.sp = false) (h : ¬ E < G.H * G.B) (hr : m.run + 1 = G.R) : hearM G b E m = ⟨true, 0, max (b - G.R + 1 - G.D) m.last, m.last⟩ ∧ hearS G b E m = [] := by
  have h1 := hear_wait (G := G) (b := b) (E := E) hs
  rw [decide_eq_true (by omega), awt_yes hr] at h1
  exact h1
theorem st_end {G : Gt} {b E : Int} {m : Ms} (hs : m.sp = true) {q : Bool} (hq : decide (E < G.L * G.B) = q) {e : Int} (he : fend G b q m = e) (h0 : 0 ≤ e) : hearM G b E m = ⟨false, 0, m.first, e⟩ ∧ hearS G b E m = [(m.first * G.B, e * G.B)] := by
  unfold hearM hearS
  rw [hs, hq, he, if_pos rfl, if_pos rfl, if_neg (by omega), if_neg (by omega)]
  exact ⟨rfl, rfl⟩
theorem st_on {G : Gt} {b E : Int} {m : Ms} (hs : m.sp = true) {q : Bool} (hq : decide (E < G.L * G.B) = q) (he : fend G b q m = -1) : hearM G b E m = ⟨true, frun q m, m.first, m.last⟩ ∧ hearS G b E m = [] := by
  unfold hearM hearS
  rw [hs, hq, he]
  exact ⟨rfl, rfl⟩

/-- the segments, with the one that is open if the listener is closed -/
def rsg (cl : Bool) (G : Gt) (xs : List Int) : List (Int × Int) := if cl then segs G xs ++ lastS G xs else segs G xs
def RSg (w : World) (ps : List (Int × Int)) (sp : Bool) (e : Ending) (w' : World) : Prop :=
  ∃ v, e = .returned (.tuple #[v, .bool sp]) ∧ w'.ownsRow w.heap.size 61 2 v ps.length (sgv ps) ∧ Below w.heap.size w w'

/-- the head of a round: b blocks are done -/
structure SgR (w : World) (G : Gt) (n : Nat) (xs : List Int) (ov sv rv bv lv iv : Value) (wr : World) (b : Nat) (V : Value) (m : Ms) : Prop where
  o : V = ov
  s : sv = .bool m.sp
  r : rv = .int .i64 m.run
  f : bv = .int .i64 m.first
  l : lv = .int .i64 m.last
  i : iv = .int .i64 b
  m : Hid (runM G xs b = m)
  le : b * G.B ≤ n
  own : wr.ownsRow w.heap.size 61 2 V (runS G xs b).length (sgv (runS G xs b))
  bel : Below w.heap.size w wr
  g : Blk wr w.heap.size 66 #[.int .i64 G.B, .int .i64 G.H, .int .i64 G.L, .int .i64 G.R, .int .i64 G.F, .int .i64 G.D, .int .i64 G.X]
  bg : w.heap.size < wr.heap.size

theorem SgR.next {w w5 : World} {G : Gt} {n b : Nat} {xs : List Int} {V5 : Value} {m m5 : Ms} {S : List (Int × Int)} (hm : runM G xs b = m) (h1 : hearM G b (eng (blk G xs b)) m = m5) (h2 : hearS G b (eng (blk G xs b)) m = S) (hle : (b + 1) * G.B ≤ n)
    (hown : w5.ownsRow w.heap.size 61 2 V5 (runS G xs b ++ S).length (sgv (runS G xs b ++ S))) (hbel : Below w.heap.size w w5) (hg : Blk w5 w.heap.size 66 #[.int .i64 G.B, .int .i64 G.H, .int .i64 G.L, .int .i64 G.R, .int .i64 G.F, .int .i64 G.D, .int .i64 G.X]) (hbg : w.heap.size < w5.heap.size) :
    SgR w G n xs V5 (.bool m5.sp) (.int .i64 m5.run) (.int .i64 m5.first) (.int .i64 m5.last) (.int .i64 ((b + 1 : Nat) : Int)) w5 (b + 1) V5 m5 := by
  subst hm
  refine ⟨rfl, rfl, rfl, rfl, rfl, rfl, h1, hle, ?_, hbel, hg, hbg⟩
  have e : runS G xs (b + 1) = runS G xs b ++ S := by rw [← h2]; rfl
  rw [e]; exact hown

end Go.Proofs.YtoljffghaklpdaaGreatDoor


/- The bytes of a recording: the closure that writes numbers. -/
namespace Go.Proofs.YtoljffghaklpdaaGreatDoor
open Go.RowKit

/-- a row of the call's own, or a literal that is full -/
def OwnL (w : World) (B : Nat) (e : TypeId) (V : Value) (n : Nat) (xs : List Value) : Prop :=
  w.ownsRow B e 1 V n xs ∨ ∃ g cs fz, V = .slice (some ⟨g, 0, none⟩) n n ∧ B ≤ g ∧ w.heap[g]? = some (.cells cs e fz) ∧ cs.toList = xs ∧ xs.length = n
theorem OwnL.lt {w : World} {B n : Nat} {e : TypeId} {V : Value} {xs : List Value} (h : OwnL w B e V n xs) : ∀ k, V.ownBlock = some k → B ≤ k ∧ k < w.heap.size := by
  rcases h with h | ⟨g, cs, fz, rfl, hb, hg, _, _⟩
  · exact h.lt
  · intro k hk
    have : g = k := by simpa [Value.ownBlock] using hk
    subst this
    exact ⟨hb, (Array.getElem?_eq_some_iff.1 hg).1⟩
theorem OwnL.alloc {w : World} {B n : Nat} {e : TypeId} {V : Value} {xs : List Value} (h : OwnL w B e V n xs) (o : Obj) : OwnL (w.alloc o) B e V n xs := by
  rcases h with h | ⟨g, cs, fz, rfl, hb, hg, h1, h2⟩
  · exact .inl (h.alloc o)
  · exact .inr ⟨g, cs, fz, rfl, hb, (Below.heap_alloc w o g (Array.getElem?_eq_some_iff.1 hg).1).trans hg, h1, h2⟩
theorem OwnL.far {w w' : World} {B n : Nat} {e : TypeId} {V : Value} {xs : List Value} (h : OwnL w B e V n xs) (hk : ∀ k, B ≤ k → k < w.heap.size → w'.heap[k]? = w.heap[k]?) : OwnL w' B e V n xs := by
  rcases h with h | ⟨g, cs, fz, rfl, hb, hg, h1, h2⟩
  · exact .inl (own_same h hk)
  · exact .inr ⟨g, cs, fz, rfl, hb, (hk g hb (Array.getElem?_eq_some_iff.1 hg).1).trans hg, h1, h2⟩
theorem OwnL.ne {w : World} {B n gb : Nat} {e T : TypeId} {V : Value} {xs : List Value} {cb : Array Value} (h : OwnL w B e V n xs) (hB : Blk w gb T cb) (hne : T ≠ e) : ∀ q, V.ownBlock = some q → q ≠ gb := by
  intro q hq e1
  subst e1
  rcases h with h | ⟨g, cs, fz, rfl, _, hg, _, _⟩
  · rcases h.2 with ⟨rfl, _⟩ | ⟨g, cap, cur, rfl, _, hg, _⟩
    · cases hq
    · have e2 : g = q := by simpa [Value.ownBlock] using hq
      subst e2
      exact Blk.ne_ty hB hg hne
  · have e2 : g = q := by simpa [Value.ownBlock] using hq
    subst e2
    unfold Blk at hB
    rw [hB] at hg
    injection hg with hg
    injection hg with _ ht
    exact hne ht
theorem wpList_append_L {P : Program} {w : World} {ops : Array Oper} {rest : List Oper} {o : Oper} {a : Act} {Q : Exit → Act → World → Prop} (hgd : o.guard = none) (s x : Operand) (t : TypeId)
    (ho : o.op = .call { callee := .builtin .append, args := #[s, x], argTypes := #[t, t] })
    (base : Nat) (e : TypeId) (i : TypeInfo) (z : Value) (bytes : Nat) (ht : P.underlying t = some (.slice e)) (hi : P.info? e = some i) (hz : i.zero = some z)
    (hsize : i.size = 1) (hby : i.bytes = bytes) (hzs : z.cells.size = 1)
    (v : Value) (n : Nat) (xs : List Value) (hs : a.eval s = v) (hown : OwnL w base e v n xs)
    (ad : Addr) (m c : Nat) (news : List Value) (hx : a.eval x = .slice (some ad) m c) (hl : news.length = m * 1) (hnews : ∀ j u, news[j]? = some u → w.cell? (ad.add j) = some u) (h1 : ∀ u ∈ news, u.oneCell' = true)
    (hm : 0 < m) (h63 : n + m ≤ maxLen) (hbytes : (n + m) * bytes ≤ 140737488355328) (hbase : base ≤ w.heap.size)
    (h : ∀ g cap w', w'.ownsRow base e 1 (.slice (some ⟨g, 0, none⟩) (n + m) cap) (n + m) (xs ++ news) → w.grownBy w' v.ownBlock → (v.ownBlock = some g ∨ w.heap.size ≤ g) → g < w'.heap.size → wpList P ops Q rest (a.put o.dst (.slice (some ⟨g, 0, none⟩) (n + m) cap)) w') : wpList P ops Q (o :: rest) a w := by
  rcases hown with hown | ⟨g0, cs, fz, rfl, hb, hg, hcs, hlen⟩
  · exact wpList_append_lies w hgd s x t ho base e i z 1 bytes ht hi hz hsize hby hzs (by decide) v n xs hs hown ad m c news hx hl hnews h1 hm h63 hbytes hbase _ rfl (fun g cap w' a1 a2 a3 a4 => h g cap w' a1 a2 (a3.imp id (fun e => by omega)) a4)
  · refine wpList_append_grows w hgd s x t ho e i z 1 bytes ht hi hz hsize hby hzs (by decide) (some ⟨g0, 0, none⟩) n n xs hs (fun e => by cases e) (by omega) (fun b hb2 j u hu => ?_) ad m c news hx hl hnews h1 (by omega) h63 hbytes ?_
    · injection hb2 with hb2
      subst hb2
      rw [add_new, cell_of_row w g0 j cs e fz hg, ← hcs] at *
      rw [← hcs] at hu
      simpa using hu
    · intro v' w' hown' hgrow
      have hown2 := own_mono hown' hbase
      obtain ⟨g, cap, rfl, h5, h6⟩ := hown'.form (by omega)
      refine h g cap w' hown2 ⟨hgrow.os, hgrow.tape, hgrow.output, hgrow.size, fun k hk _ => hgrow.block k hk (by simp)⟩ ?_ h6
      exact .inr h5

set_option maxHeartbeats 1600000 in
set_option maxRecDepth 100000 in
theorem write_any (x : Int) (size gb B B0 m : Nat) (V : Value) (bs : List Int) (w : World) (hx1 : -9223372036854775808 ≤ x) (hx2 : x ≤ 9223372036854775807) (hs0 : 0 < size) (hs : size ≤ 1000) (hm : m ≤ 1000000)
    (hB : Blk w gb 67 #[V]) (hown : OwnL w B 5 V m (ivs .u8 bs)) (h0 : B0 ≤ B) (h1 : B0 ≤ gb) (h2 : B ≤ w.heap.size) :
    Calls Tryz.prog 88 #[.int .i64 x, .int .i64 (size : Int), .pointer (some ⟨gb, 0, none⟩)] w fun e w' => ∃ V', e = .returned (.tuple #[]) ∧ Blk w' gb 67 #[V'] ∧ w'.ownsRow B 5 1 V' (m + size) (ivs .u8 (bs ++ le x size)) ∧ Below B0 w w' := by
  obtain ⟨i0, hi, hz0, hz1, hz2⟩ := info_parts info_byte
  go_enter Tryz.func88, Tryz.ntmps88
  go_wp2
  go_loopw [0, 6] (fun nv iv wr => ∃ (k : Nat) (U : Value), k ≤ size ∧ iv = .int .i64 k ∧ nv = .int .i64 (x / 256 ^ k) ∧ Blk wr gb 67 #[U] ∧ OwnL wr B 5 U (m + k) (ivs .u8 (bs ++ le x k)) ∧ Hid (0 < k → wr.ownsRow B 5 1 U (m + k) (ivs .u8 (bs ++ le x k))) ∧ Below B0 w wr ∧ w.heap.size ≤ wr.heap.size) (fun _ iv _ => size - (intOf iv).toNat)
  case atStart => exact ⟨0, V, Nat.zero_le _, rfl, by rw [Int.pow_zero, Int.ediv_one], hB, by rw [show le x 0 = [] from rfl, List.append_nil]; exact hown, (fun h => absurd h (Nat.lt_irrefl _)), Below.refl _ _, Nat.le_refl _⟩
  case round =>
    obtain ⟨k, U, hk, rfl, rfl, hBr, hownr, hnow, hbel, hsz⟩ := hrel
    rcases Nat.lt_or_ge k size with hlt | hge
    · have h3 := div_bd (i := k) hx1 hx2
      have h4 := h3.1
      have h5 := h3.2
      clear h3 hnow
      have hnx := Lib.hid (shift256 x k)
      have hb := Lib.hid (show x / 256 ^ k % 256 = byt x k from rfl)
      have hrow := Lib.hid (fun k (hk : U.ownBlock = some k) => (hownr.lt k hk).1)
      have hne := Lib.hid (hownr.ne hBr (by decide))
      generalize x / 256 ^ k = y at *
      have c0 := hBr.cell 0
      have i1 : (k : Int) < (size : Int) := by omega
      go_wp2_with (at_builtin; refine wpList_append_L rfl (.tmp 8) (.tmp 11) 67 rfl B 5 i0 (.int .u8 0) 1 Tryz.underlying67 hi hz0 hz1 hz2 rfl U (m + k) (ivs .u8 (bs ++ le x k)) rfl (hownr.alloc _) ⟨wr.heap.size, 0, none⟩ 1 1 [.int .u8 (y % 256)] rfl rfl (news_one _ _ _) (oneCell1b _) (by omega) (by unfold maxLen; omega) (by omega) (by simp; omega) ?_)
      intro g cap w5 hown5 hgrow hat hlt5
      have hb5 : Below B0 w w5 := (hbel.alloc (by omega) _).grown hgrow (by simp; omega) (fun q hq => by have := hrow.out q hq; omega)
      have hB5 := (hBr.alloc (.cells #[.int .u8 (y % 256)] 5)).grown hgrow (fun e => hne.out gb e.symm rfl)
      have hsz5 := hgrow.size
      rw [hb.out] at hown5
      have f0 := hB5.frozen 0
      have d0 := hB5.cell 0
      have hgl := hBr.lt
      have hgne : g ≠ gb := by
        rcases hat with h | h
        · exact hne.out g h
        · first | omega | (simp at h; omega)
      have hown6 : (w5.setCell ⟨gb, 0, none⟩ (.slice (some ⟨g, 0, none⟩) (m + k + 1) cap)).ownsRow B 5 1 (.slice (some ⟨g, 0, none⟩) (m + k + 1) cap) (m + (k + 1)) (ivs .u8 (bs ++ le x (k + 1))) := by
        rw [le_succ, ← List.append_assoc, ivs_snoc]
        exact ownsRow_setCell_other hown5 (by simp [Value.ownBlock]; exact hgne) _
      have hB6 := hB5.set_ 0 (.slice (some ⟨g, 0, none⟩) (m + k + 1) cap)
      have hb6 := hb5.setCell (p := ⟨gb, 0, none⟩) h1 (.slice (some ⟨g, 0, none⟩) (m + k + 1) cap)
      have hsz6 : w.heap.size ≤ (w5.setCell ⟨gb, 0, none⟩ (.slice (some ⟨g, 0, none⟩) (m + k + 1) cap)).heap.size := by simp [World.setCell] at *; omega
      clear hown5
      go_wp2
      go_roundw
      case rel => exact ⟨k + 1, _, by omega, by go_num, by rw [← hnx.out], hB6, .inl hown6, (fun _ => hown6), hb6, hsz6⟩
      case measure => simp [intOf]; omega
    · have hkn : k = size := by omega
      subst hkn
      go_wp2
      go_end0
      exact ⟨U, rfl, hBr, hnow.out hs0, hbel⟩
end Go.Proofs.YtoljffghaklpdaaGreatDoor
