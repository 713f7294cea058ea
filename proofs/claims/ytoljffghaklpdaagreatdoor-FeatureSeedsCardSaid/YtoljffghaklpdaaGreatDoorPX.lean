/- Seeds: a repeated list; the farthest vector. -/
import Derived.Test.YtoljffghaklpdaaGreatDoorLA
import Derived.Test.YtoljffghaklpdaaGreatDoorShelf
import Derived.Deep.RegionLaw
import Derived.Laws.CopyOwn
namespace Go.Proofs.YtoljffghaklpdaaGreatDoor
open Go.RowKit

def mxI : Int := 9223372036854775807
def rp (n k : Nat) : List Int := List.replicate k 9223372036854775807 ++ zs (n - k)
theorem rp_len {n k : Nat} (h : k ≤ n) : (rp n k).length = n := by unfold rp; rw [List.length_append, List.length_replicate, zs_len]; omega
theorem rp_all (n : Nat) : rp n n = List.replicate n 9223372036854775807 := by unfold rp; rw [Nat.sub_self]; show _ ++ [] = _; rw [List.append_nil]

set_option maxHeartbeats 3200000 in
set_option maxRecDepth 100000 in
theorem Repeat_any (A : Option Addr) (c n : Nat) (w : World) (h : Sl .i64 w A 1 c [9223372036854775807]) (hn : 1 ≤ n) (hn2 : n ≤ 10000) :
    Calls Tryz.prog 78 #[.slice A 1 c, .int .i64 (n : Int)] w fun e w' => ∃ g, e = .returned (.slice (some ⟨g, 0, none⟩) n n) ∧ Mk w' g 3 .i64 (List.replicate n 9223372036854775807) ∧ Below w.heap.size w w' ∧ w.heap.size ≤ g := by
  have hcap := h.cap
  have htop := h.top
  obtain ⟨ad, x, rfl, hcx, hx⟩ := h.at_ (show 0 < 1 by decide)
  have hmk := make_int n (by omega)
  have hMul := Lib.hid (fun (w9 : World) => show Calls Tryz.prog 137 #[.int .u64 ((1 : Nat) : Int), .int .u64 (n : Int)] w9 (fun e w' => e = .returned (.tuple #[.int .u64 0, .int .u64 (n : Int)]) ∧ w' = w9) from (Tryz.bits_Mul 1 n (by decide) (by omega) w9).mono fun e w' ⟨h1, h2⟩ => by
    rw [Nat.one_mul, Nat.div_eq_of_lt (by omega), Nat.mod_eq_of_lt (by omega)] at h1
    exact ⟨h1, h2⟩)
  have d1 : decide ((n : Int) < 0) = false := decide_eq_false (by omega)
  go_enter Tryz.func78, Tryz.ntmps78
  go_wp2_with fail
  refine (hMul.out w).mono ?_
  rintro e w' ⟨rfl, rfl⟩
  have hx1 : x = 9223372036854775807 := hx.out.symm
  subst hx1
  have hcp : ∀ (j : Nat) (v : Value), (ivs .i64 [9223372036854775807])[j]? = some v → (w'.alloc (.cells (ivs .i64 (zs n)).toArray 3)).cell? (ad.add j) = some v := (h.alloc (.cells (ivs .i64 (zs n)).toArray 3)).news
  have hM := Mk.new w' 3 .i64 (zs n)
  have hb := (Below.refl w'.heap.size w').alloc (Nat.le_refl _) (.cells (ivs .i64 (zs n)).toArray 3)
  have hcp := Lib.hid hcp
  have hsp := Lib.hid (show splice (ivs .i64 (zs n)) 0 (ivs .i64 [9223372036854775807]) = ivs .i64 (rp n 1) by
    unfold splice rp
    rw [ivs_app]
    show [] ++ (_ ++ List.drop (0 + 1) (ivs .i64 (zs n))) = _
    rw [List.nil_append]
    congr 1
    unfold ivs zs
    rw [← List.map_drop, List.drop_replicate])
  have s1 := Lib.hid (show (ivs .i64 [9223372036854775807]).length = Nat.min 1 n from (Nat.min_eq_left hn).symm)
  have s2 := Lib.hid (show 0 + (ivs .i64 [9223372036854775807]).length ≤ (ivs .i64 (zs n)).length by rw [ivs_len, ivs_len, zs_len]; show 0 + 1 ≤ n; omega)
  go_wp2_with (refine wpList_copy_splice rfl (.tmp 31) (.tmp 32) 28 28 rfl 3 Tryz.underlying28 info_int1 (some ⟨w'.heap.size, 0, none⟩) (some ad) n n 1 c rfl rfl w'.heap.size 0 (ivs .i64 (zs n)) 3 hM (ivs .i64 [9223372036854775807]) s1.out (fun _ => ⟨rfl, ad, rfl, hcp.out⟩) s2.out (oneCell_ivs _ _) w'.heap.size w' hb (Nat.le_refl _) ?_; intro w3 hM3 hb3)
  rw [hsp.out] at hM3
  have hM3 : Mk w3 w'.heap.size 3 .i64 (rp n 1) := hM3.out
  go_loopw [8] (fun iv wr' => ∃ (k : Nat) (wr : World), wr = wr' ∧ iv = .int .i64 k ∧ 1 ≤ k ∧ k ≤ n ∧ Mk wr w'.heap.size 3 .i64 (rp n k) ∧ Below w'.heap.size w' wr) (fun iv _ => n - (intOf iv).toNat)
  case atStart => exact ⟨1, _, rfl, rfl, Nat.le_refl _, hn, hM3, hb3⟩
  case round =>
    obtain ⟨k, wr, rfl, rfl, hk1, hkn, hMk, hbr⟩ := hrel
    rcases Nat.lt_or_ge k n with hlt | hge
    · obtain ⟨t, ht⟩ : ∃ t, min k (n - k) = t := ⟨_, rfl⟩
      have htb : 1 ≤ t ∧ t ≤ k ∧ k + t ≤ n := by omega
      have hsp2 := Lib.hid (show splice (ivs .i64 (rp n k)) k (ivs .i64 (List.replicate t 9223372036854775807)) = ivs .i64 (rp n (k + t)) by
        have e1 : List.take k (rp n k) = List.replicate k 9223372036854775807 := by
          unfold rp
          rw [List.take_append_of_le_length (by rw [List.length_replicate]; exact Nat.le_refl _)]
          rw [List.take_of_length_le (by rw [List.length_replicate]; exact Nat.le_refl _)]
        have e2 : List.drop (k + t) (rp n k) = zs (n - (k + t)) := by
          unfold rp zs
          rw [List.drop_append]
          rw [List.drop_of_length_le (by rw [List.length_replicate]; omega), List.length_replicate, List.nil_append, List.drop_replicate]
          congr 1
          omega
        unfold splice
        have e3 : (ivs .i64 (List.replicate t 9223372036854775807)).length = t := by rw [ivs_len, List.length_replicate]
        rw [e3]
        have e4 : List.take k (ivs .i64 (rp n k)) = ivs .i64 (List.replicate k 9223372036854775807) := by unfold ivs; rw [← List.map_take, e1]
        have e5 : List.drop (k + t) (ivs .i64 (rp n k)) = ivs .i64 (zs (n - (k + t))) := by unfold ivs; rw [← List.map_drop, e2]
        rw [e4, e5, ← ivs_app, ← ivs_app]
        unfold rp
        rw [← List.append_assoc, List.replicate_append_replicate])
      have hsrc := Lib.hid (fun (wx : World) (hM : Mk wx w'.heap.size 3 .i64 (rp n k)) (j : Nat) (v : Value) (hv : (ivs .i64 (List.replicate t 9223372036854775807))[j]? = some v) => show wx.cell? ((⟨w'.heap.size, 0, none⟩ : Addr).add j) = some v by
        have hj := lt_of_some hv
        rw [ivs_len, List.length_replicate] at hj
        have e1 := hM.cell (i := j) (by rw [rp_len hkn]; omega)
        have e2 : (rp n k).getD j 0 = 9223372036854775807 := by
          unfold rp
          rw [List.getD_eq_getElem?_getD, List.getElem?_append_left (by rw [List.length_replicate]; omega)]
          simp [show j < k by omega]
        rw [e2] at e1
        have e3 : v = .int .i64 9223372036854775807 := by
          unfold ivs at hv
          simp [hj] at hv
          exact hv.symm
        rw [e3]
        rw [add_new]
        exact e1)
      have s3 := Lib.hid (show (ivs .i64 (List.replicate t 9223372036854775807)).length = Nat.min k (n - k) by rw [ivs_len, List.length_replicate]; exact ht.symm)
      have s4 := Lib.hid (show k + (ivs .i64 (List.replicate t 9223372036854775807)).length ≤ (ivs .i64 (rp n k)).length by rw [ivs_len, ivs_len, List.length_replicate, rp_len hkn]; omega)
      have s5 := Lib.hid (show ((ivs .i64 (List.replicate t 9223372036854775807)).length : Int) = (t : Int) by rw [ivs_len, List.length_replicate])
      have i0 : (0 : Int) ≤ (k : Int) := by omega
      have i1 : (k : Int) ≤ (n : Int) := by omega
      have i2 : ¬ n = k := by omega
      have hMd : Mk wr.drew w'.heap.size 3 .i64 (rp n k) := hMk
      have hbd : Below w'.heap.size w' wr.drew := bel_drewN hbr 1
      have ht := Lib.hid ht
      go_wp2
      go_region_law (refine step_copy_splice rfl (.tmp 41) (.tmp 44) 28 28 rfl 3 Tryz.underlying28 info_int1 (some ⟨w'.heap.size, k, none⟩) (some ⟨w'.heap.size, 0, none⟩) (n - k) (n - k) k n (by simp [Act.eval, Act.put]) (by simp [Act.eval, Act.put]) w'.heap.size k (ivs .i64 (rp n k)) 3 hMd (ivs .i64 (List.replicate t 9223372036854775807)) s3.out (fun _ => ⟨rfl, _, rfl, hsrc.out _ hMd⟩) s4.out (oneCell_ivs _ _) w'.heap.size w' hbd (Nat.le_refl _) ?_; intro w5 hM5 hb5)
      rw [hsp2.out] at hM5
      have hM5 : Mk w5 w'.heap.size 3 .i64 (rp n (k + t)) := hM5.out
      have s6 : (ivs .i64 (List.replicate t 9223372036854775807)).length = t := by rw [ivs_len, List.length_replicate]
      rw [s6]
      have w1e : IntKind.i64.wrap ((k : Int) + (t : Int)) = ((k + t : Nat) : Int) := by rw [IntWalk.i64_in _ (by omega)]; omega
      go_wp2
      simp [Act.put]
      exact ⟨⟨k + t, w1e, by omega, htb.2.2, hM5, hb5⟩, by rw [w1e]; simp only [intOf]; omega⟩
    · have hkn' : n = k := by omega
      subst hkn'
      rw [rp_all] at hMk
      go_wp2
      go_ret
      exact ⟨_, rfl, hMk, hbr, Nat.le_refl _⟩
end Go.Proofs.YtoljffghaklpdaaGreatDoor
