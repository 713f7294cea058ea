import Derived.Test.YtfgiiidfpbpniaaGreatDoorA0

namespace Go.Proofs.YtfgiiidfpbpniaaGreatDoor.Fr
open Go.RowKit Num

set_option maxHeartbeats 800000 in
theorem order_any (A A' : Option Addr) (n c n' c' : Nat) (xs ys : List Nat) (w : World) (h : Dg .u32 w A n c xs) (h' : Dg .u32 w A' n' c' ys) :
    Calls Tryz.prog 122 #[.slice A n c, .slice A' n' c'] w fun e w' => ∃ m, e = .returned (.int .i64 (ord (vl (bs .u32) xs) (vl (bs .u32) ys))) ∧ w' = w.drewN m := by
  have k1 := h.tr
  have k2 := h'.tr
  have lt1 := fun hl => Lib.hid (tr_lt one_lt_bs32 (ys := ys) h.ok hl)
  have lt2 := fun hl => Lib.hid (tr_lt one_lt_bs32 (ys := xs) h'.ok hl)
  have hc1 := k1.cap
  have hc2 := k2.cap
  have ht1 := k1.top
  have ht2 := k2.top
  have HV : Hid (vl (bs .u32) (tr xs) = vl (bs .u32) xs ∧ vl (bs .u32) (tr ys) = vl (bs .u32) ys) := ⟨vl_tr _ _, vl_tr _ _⟩
  have HL : Hid ((tr xs).length = tl xs ∧ (tr ys).length = tl ys) := ⟨len_tr _, len_tr _⟩
  go_enter Tryz.func122, Tryz.ntmps122
  go_wp2_with fail
  refine (trim_any A n c xs w h).mono ?_
  rintro e w' ⟨rfl, rfl⟩
  go_wp2_with fail
  refine (trim_any A' n' c' ys w h').mono ?_
  rintro e w' ⟨rfl, rfl⟩
  clear h h'
  generalize tr xs = us at *
  generalize tr ys = vs at *
  generalize tl xs = p at *
  generalize tl ys = q at *
  rcases Nat.lt_trichotomy p q with hpq | rfl | hpq
  · have hne : ((p : Int) != (q : Int)) = true := by rw [bne_iff_ne]; omega
    go_wp2
    go_ret
    exact ⟨0, ret_i64 (ord_lt ((lt1 hpq).out)).symm, rfl⟩
  · clear lt1 lt2
    go_wp2
    go_loopw [5] (fun i wr => OrdRel us vs i ∧ ∃ m, wr = w.drewN m) (fun i _ => (intOf i + 1).toNat)
    case atStart => exact ⟨ordRel_start p k1.len k2.len, 0, rfl⟩
    case round =>
      obtain ⟨hor, m, rfl⟩ := hrel
      rcases hor with ⟨k, rfl, hk, hd⟩ | ⟨rfl, he⟩
      · have hkp : k < p := by have := k1.len; omega
        have Hd := Lib.hid hd
        clear hd hk
        obtain ⟨ad, x, rfl, hcx, hx⟩ := k1.at_ (j := k) hkp
        obtain ⟨ad', y, rfl, hcy, hy⟩ := k2.at_ (j := k) hkp
        have hcx' : (w.drewN m).cell? (ad.add k) = some (.int .u32 x) := hcx
        have hcy' : (w.drewN m).cell? (ad'.add k) = some (.int .u32 y) := hcy
        rcases Nat.lt_trichotomy x y with hxy | rfl | hxy
        · have hne : ((x : Int) != (y : Int)) = true := by rw [bne_iff_ne]; omega
          have HF := Lib.hid (dig_lt k1.ok (k1.len.trans k2.len.symm) Hd.out (by rw [k1.len]; exact hkp) hx.out.1 hy.out.1 hxy)
          go_wp2
          go_quiet (fail)
          go_wp2
          go_quiet (fail)
          go_wp2
          go_ret
          exact ⟨_, ret_i64 (ord_lt (by rw [← HV.out.1, ← HV.out.2]; exact HF.out)).symm, by rw [World.drewN_drewN, World.drewN_drewN]⟩
        · have HF := Lib.hid (drop_down (k1.len.trans k2.len.symm) Hd.out (by rw [k1.len]; exact hkp) hx.out.1 hy.out.1)
          have hkl := Lib.hid (show k < us.length by rw [k1.len]; exact hkp)
          go_wp2
          go_quiet (fail)
          go_wp2
          go_roundw
          case rel => exact ⟨ordRel_next HF.out hkl.out, _, rfl⟩
          case measure => simp [intOf]
        · have hne : ((x : Int) != (y : Int)) = true := by rw [bne_iff_ne]; omega
          have HF := Lib.hid (dig_lt k2.ok (k2.len.trans k1.len.symm) Hd.out.symm (by rw [k2.len]; exact hkp) hy.out.1 hx.out.1 hxy)
          have hnl : ¬ (x : Int) < (y : Int) := by omega
          go_wp2
          go_quiet (fail)
          go_wp2
          go_quiet (fail)
          go_wp2
          go_ret
          exact ⟨_, ret_i64 (ord_gt (by rw [← HV.out.1, ← HV.out.2]; exact HF.out)).symm, by rw [World.drewN_drewN, World.drewN_drewN]⟩
      · have he' := Lib.hid he
        clear he
        go_wp2
        go_ret
        exact ⟨m, ret_i64 (ord_eq (by rw [← HV.out.1, ← HV.out.2, he'.out])).symm, rfl⟩
  · have hne : ((p : Int) != (q : Int)) = true := by rw [bne_iff_ne]; omega
    go_wp2
    go_ret
    exact ⟨0, ret_i64 (ord_gt ((lt2 hpq).out)).symm, rfl⟩

end Go.Proofs.YtfgiiidfpbpniaaGreatDoor.Fr
