/- Euclid's algorithm, many steps at once. -/
import Derived.Test.YtbgihlfblmilmaaGreatDoorGB
namespace Go.Proofs.YtbgihlfblmilmaaGreatDoor.Fr
open Go.RowKit Num

/-- a number of the call's own: block g has c cells and begins with its n digits -/
def Nm (w : World) (g n c x : Nat) : Prop := ∃ cur, Mz w g 82 .u64 c cur ∧ Hid (cur.length = n) ∧ Okd (bs .u64) cur ∧ Nrm cur ∧ Hid (vl (bs .u64) cur = x)
theorem Nm.bel {w w' : World} {g n c x : Nat} (h : Nm w g n c x) (hb : Below w.heap.size w w') : Nm w' g n c x := by
  obtain ⟨cur, h1, h2⟩ := h
  exact ⟨cur, h1.bel hb, h2⟩
theorem Nm.grown {w w' : World} {g g' n c x : Nat} (h : Nm w g n c x) (hb : w.grownBy w' (some g')) (hne : g ≠ g') : Nm w' g n c x := by
  obtain ⟨cur, h1, h2⟩ := h
  exact ⟨cur, h1.grown hb (fun e => by injection e with e; omega), h2⟩
theorem Nm.lt {w : World} {g n c x : Nat} (h : Nm w g n c x) : g < w.heap.size := by
  obtain ⟨cur, h1, _⟩ := h
  exact h1.mk.lt
theorem Nm.le {w : World} {g n c x : Nat} (h : Nm w g n c x) : n ≤ c := by
  obtain ⟨cur, h1, h2, _⟩ := h
  have := h1.le
  rw [h2.out] at this; exact this
theorem Nm.of_tr {w : World} {g c x : Nat} {cur : List Nat} (h : Mz w g 82 .u64 c cur) (hok : Okd (bs .u64) cur) (hx : vl (bs .u64) cur = x) : Nm w g (tl cur) c x :=
  ⟨cur.take (tl cur), h.take_ _, by show _ = _; rw [List.length_take]; have := tl_le cur; omega, hok.take _, nrm_tr cur, by show _ = _; have := vl_tr (bs .u64) cur; unfold tr at this; rw [this]; exact hx⟩
theorem Nm.dg {w : World} {g n c x : Nat} (h : Nm w g n c x) (hc : c ≤ 9223372036854775807) : ∃ us, Dg .u64 w (some ⟨g, 0, none⟩) n c us ∧ Nrm us ∧ Hid (vl (bs .u64) us = x) := by
  obtain ⟨cur, h1, h2, h3, h4, h5⟩ := h
  have hD := h1.mk.dgc (n := n) (c := c) (by rw [h2.out]; exact Nat.le_refl _) (by have := h1.le; rw [h2.out] at this; exact this) hc h3
  rw [List.take_of_length_le (by rw [h2.out]; exact Nat.le_refl _)] at hD
  exact ⟨cur, hD, h4, h5⟩

theorem len_lt_pow {us : List Nat} {x n : Nat} (h : Okd (bs .u64) us) (hv : vl (bs .u64) us = x) (hl : us.length = n) : x < bs .u64 ^ n := by
  have := vl_lt h
  rw [hv, hl] at this; exact this
/-- zeros at the end do not matter -/
theorem tl_zeros {ys : List Nat} {k : Nat} (hok : Okd (bs .u64) ys) (hN : Nrm ys) : tl (ys ++ zs k) = ys.length := by
  have h1 : vl (bs .u64) (tr (ys ++ zs k)) = vl (bs .u64) ys := by rw [vl_tr, vl_append, zs_vl, Nat.mul_zero, Nat.add_zero]
  have h2 := Nrm.unique one_lt_bs64 (okd_tr (hok.append (zs_ok (by decide) k))) hok (nrm_tr _) hN h1
  rw [← len_tr, h2]

/-- the rest, in memory of its own, for a divisor of more than one digit -/
theorem divide_rest (A A' : Option Addr) (n c n' c' : Nat) (xs ys : List Nat) (w : World) (h : Dg .u64 w A n c xs) (h' : Dg .u64 w A' n' c' ys) (hN : Nrm xs) (hN' : Nrm ys) (X Y : Nat) (hX : Hid (vl (bs .u64) xs = X)) (hY : Hid (vl (bs .u64) ys = Y))
    (hn : n ≤ 500000) (hp : 1 < n') (hle : Y ≤ X) :
    Calls Tryz.prog 115 #[.slice A n c, .slice A' n' c'] w fun e w' => ∃ (v : Value) (g r : Nat) (cur : List Nat), e = .returned (.tuple #[v, .slice (some ⟨g, 0, none⟩) (tl cur) r]) ∧
      Mz w' g 82 .u64 r cur ∧ Okd (bs .u64) cur ∧ Hid (cur.length = r) ∧ r ≤ n + 1 ∧ Hid (vl (bs .u64) cur = X % Y) ∧ w.heap.size ≤ g ∧ Below w.heap.size w w' := by
  obtain ⟨p, rfl⟩ : ∃ p, n' = p + 1 := ⟨n' - 1, by omega⟩
  refine (divide_long A A' n c p c' xs ys w h h' hN hN' X Y hX hY hn (by omega) hle).mono ?_
  rintro e w' ⟨q, g, r, cur, gq, rfl, _, _, _, _, _, hM2, hok2, hl2, hr, hv2, hg2, hb⟩
  exact ⟨_, g, r, cur, rfl, hM2, hok2, hl2, hr, hv2, hg2, hb⟩

structure RtRel (w : World) (base G : Nat) (va vb vs : Value) (wr : World) (ga na ca gb nb cb gs ns cs A B : Nat) : Prop where
  ea : va = .slice (some ⟨ga, 0, none⟩) na ca
  eb : vb = .slice (some ⟨gb, 0, none⟩) nb cb
  es : vs = .slice (some ⟨gs, 0, none⟩) ns cs
  ba : base ≤ ga
  bb : base ≤ gb
  hbs : base ≤ gs
  ab : ga ≠ gb
  ags : ga ≠ gs
  bs' : gb ≠ gs
  hca : ca ≤ 9223372036854775807
  hcb : cb ≤ 9223372036854775807
  hcs : cs ≤ 9223372036854775807
  a : Nm wr ga na ca A
  b : Nm wr gb nb cb B
  s : ∃ ss, Mz wr gs 82 .u64 cs ss ∧ Hid (ss.length = ns) ∧ Okd (Fr.bs .u64) ss
  sn : na ≤ ns
  n : na ≤ 400000
  le : Hid (B ≤ A)
  gc : Hid (A.gcd B = G)
  bel : Below base w wr

set_option maxHeartbeats 12800000 in
set_option maxRecDepth 100000 in
theorem reduceTogether_any (base ga na ca gb nb cb X Y : Nat) (w : World) (ha : Nm w ga na ca X) (hb : Nm w gb nb cb Y) (hca : ca ≤ 9223372036854775807) (hcb : cb ≤ 9223372036854775807) (hab : ga ≠ gb) (hba : base ≤ ga) (hbb : base ≤ gb) (hn : na ≤ 400000) (hle : Hid (Y ≤ X)) :
    Calls Tryz.prog 120 #[.slice (some ⟨ga, 0, none⟩) na ca, .slice (some ⟨gb, 0, none⟩) nb cb] w fun e w' => ∃ g1 n1 c1 g2 n2 c2 A B, e = .returned (.tuple #[.slice (some ⟨g1, 0, none⟩) n1 c1, .slice (some ⟨g2, 0, none⟩) n2 c2]) ∧
      Nm w' g1 n1 c1 A ∧ Nm w' g2 n2 c2 B ∧ n2 ≤ 1 ∧ n1 ≤ 400000 ∧ c1 ≤ 9223372036854775807 ∧ c2 ≤ 9223372036854775807 ∧ Hid (A.gcd B = X.gcd Y) ∧ Below base w w' := by
  have hmk := make_u64 na (by omega)
  have hna := ha.le
  have hnb := hb.le
  go_enter Tryz.func120, Tryz.ntmps120
  go_wp2
  go_loopg [0, 1, 6] Y (fun gk va vb vs wr => ∃ ga na ca gb nb cb gs ns cs A B, RtRel w base (X.gcd Y) va vb vs wr ga na ca gb nb cb gs ns cs A B ∧ Hid (gk = B))
  case atStart =>
    have hS := Mz.new w 82 .u64 (zs na)
    rw [zs_len] at hS
    have hbel := (Below.refl base w).alloc (by have := ha.lt; omega) (.cells (dcs .u64 (zs na)).toArray 82)
    have hbelw := (Below.refl w.heap.size w).alloc (Nat.le_refl _) (.cells (dcs .u64 (zs na)).toArray 82)
    exact ⟨ga, na, ca, gb, nb, cb, w.heap.size, na, na, X, Y, ⟨rfl, rfl, rfl, hba, hbb, by have := ha.lt; omega, hab, by have := ha.lt; omega, by have := hb.lt; omega, hca, hcb, by omega, ha.bel hbelw, hb.bel hbelw, ⟨zs na, hS, zs_len _, zs_ok (by decide) _⟩, Nat.le_refl _, hn, hle, rfl, hbel⟩, rfl⟩
  case round =>
    clear hmk hna hnb ha hb hca hcb hab hba hbb hn hle
    obtain ⟨ga, na, ca, gb, nb, cb, gs, ns, cs, A, B, ⟨rfl, rfl, rfl, hba, hbb, hbs, hab, has, hbs', hca, hcb, hcs, ha, hb, hs, hsn, hn, hle, hgc, hbel⟩, hgk⟩ := hrel
    obtain ⟨us, hMa, hla, hoa, hNa, hva⟩ := ha
    obtain ⟨ys, hMb, hlb, hob, hNb, hvb⟩ := hb
    obtain ⟨ss, hMs, hls, hos⟩ := hs
    have hlc := hMa.le
    rw [hla.out] at hlc
    have hlc2 := hMb.le
    rw [hlb.out] at hlc2
    have hlc3 := hMs.le
    rw [hls.out] at hlc3
    rcases Nat.lt_or_ge 1 nb with hnb | hnb
    · have hnn : nb ≤ na := by
        have := len_le_of one_lt_bs64 hoa hNb (by rw [hva.out, hvb.out]; exact hle.out)
        rw [hla.out, hlb.out] at this; exact this
      have hsz := hMa.mk.lt
      have hsz2 := hMb.mk.lt
      have hsz3 := hMs.mk.lt
      go_wp2_with fail
      refine (stretch_any gb nb cb na ys _ hMb hlb hcb hnn (by omega)).mono ?_
      rintro e w2 ⟨g2, c2, rfl, hM2, hc2, hc2b, hgr2, hg2⟩
      have hMa2 := hMa.grown hgr2 (fun e => by injection e with e; omega)
      have hMs2 := hMs.grown hgr2 (fun e => by injection e with e; omega)
      have hbel2 := hbel.trans (grown_bel hgr2 (B := base) hbb hsz2)
      have hl2 := Lib.hid (show (ys ++ zs (na - nb)).length = na by rw [List.length_append, zs_len, hlb.out]; omega)
      have ho2 := hob.append (zs_ok (b := Fr.bs .u64) (by decide) (na - nb))
      have hv2 := Lib.hid (show vl (Fr.bs .u64) (ys ++ zs (na - nb)) = B by rw [vl_append, zs_vl, Nat.mul_zero, Nat.add_zero, hvb.out])
      have htz := Lib.hid (show tl (ys ++ zs (na - nb)) = nb by rw [tl_zeros hob hNb, hlb.out])
      have hg2a : g2 ≠ ga := by rcases hg2 with h9 | h9 <;> omega
      have hg2s : g2 ≠ gs := by rcases hg2 with h9 | h9 <;> omega
      have hg2b : base ≤ g2 := by
        have := hbel.size
        rcases hg2 with h9 | h9 <;> omega
      generalize hys2 : ys ++ zs (na - nb) = ys2 at *
      clear hys2 hgr2 hg2 hMa hMs hMb hbel
      have hDa := hMa2.mk.dgc (n := na) (c := ca) (by rw [hla.out]; exact Nat.le_refl _) hlc hca hoa
      have hDb := hM2.mk.dgc (n := na) (c := c2) (by rw [hl2.out]; exact Nat.le_refl _) hc2 hc2b ho2
      rw [List.take_of_length_le (by rw [hla.out]; exact Nat.le_refl _)] at hDa
      rw [List.take_of_length_le (by rw [hl2.out]; exact Nat.le_refl _)] at hDb
      go_wp2_with fail
      refine (foresee_any _ _ na ca c2 us ys2 w2 hDa hDb (by omega) A B hva hv2 hNa hle).mono ?_
      rintro e w3 ⟨Ah, Bh, tt, ex, ah, ao, aq, lh, lo, lt, rfl, HF, hb3⟩
      have hbel3 := hbel2.trans (hb3.mono (by have := hM2.mk.lt; omega))
      have hMa3 := hMa2.bel hb3
      have hM3 := hM2.bel hb3
      have hMs3 := hMs2.bel hb3
      clear hDa hDb hMa2 hM2 hMs2 hb3 hbel2
      unfold rw3
      have R1 := (Blk.new w3 132 #[.int .u64 (ah : Int), .int .u64 (ao : Int), .int .u64 (aq : Int)]).alloc (.cells #[.int .u64 (lh : Int), .int .u64 (lo : Int), .int .u64 (lt : Int)] 132)
      have R2 := Blk.new (w3.alloc (.cells #[.int .u64 (ah : Int), .int .u64 (ao : Int), .int .u64 (aq : Int)] 132)) 132 #[.int .u64 (lh : Int), .int .u64 (lo : Int), .int .u64 (lt : Int)]
      have e3 : (w3.alloc (.cells #[.int .u64 (ah : Int), .int .u64 (ao : Int), .int .u64 (aq : Int)] 132)).heap.size = w3.heap.size + 1 := by simp
      rw [e3] at R2
      have hbw3 := ((Below.refl w3.heap.size w3).alloc (Nat.le_refl _) (.cells #[.int .u64 (ah : Int), .int .u64 (ao : Int), .int .u64 (aq : Int)] 132)).alloc (by rw [e3]; omega) (.cells #[.int .u64 (lh : Int), .int .u64 (lo : Int), .int .u64 (lt : Int)] 132)
      have hbel4 := hbel3.trans (hbw3.mono (by have := hM3.mk.lt; omega))
      have hMa4 := hMa3.bel hbw3
      have hM4 := hM3.bel hbw3
      have hMs4 := hMs3.bel hbw3
      have hga4 := hMa3.mk.lt
      have hg24 := hM3.mk.lt
      have hgs4 := hMs3.mk.lt
      clear e3 hbel3 hMa3 hM3 hMs3
      rcases Nat.eq_zero_or_pos lt with h0 | h0
      · have h00 : ((lt : Int) == 0) = true := by rw [h0]; rfl
        clear h0
        have hD4 := hM4.mk.dgc (n := na) (c := c2) (by rw [hl2.out]; exact Nat.le_refl _) hc2 hc2b ho2
        rw [List.take_of_length_le (by rw [hl2.out]; exact Nat.le_refl _)] at hD4
        have hDa4 := hMa4.mk.dgc (n := na) (c := ca) (by rw [hla.out]; exact Nat.le_refl _) hlc hca hoa
        rw [List.take_of_length_le (by rw [hla.out]; exact Nat.le_refl _)] at hDa4
        have hDt := hD4.tr
        rw [htz.out] at hDt
        have hBp := Lib.hid (show 0 < B by rw [← hvb.out]; exact hNb.pos (by decide) (by rw [hlb.out]; omega))
        go_wp2_with fail
        refine (trim64_any _ _ _ _ _ hD4).mono ?_
        rintro e w' ⟨rfl, rfl⟩
        rw [htz.out]
        go_wp2_with fail
        refine (divide_rest _ _ na ca nb c2 us (tr ys2) _ hDa4 hDt hNa (nrm_tr _) A B hva (show _ = _ by rw [vl_tr]; exact hv2.out) (by omega) hnb hle.out).mono ?_
        rintro e w5 ⟨qv, g5, r5, cur5, rfl, hM5, ho5, hl5, hr5, hv5, hg5, hb5⟩
        generalize (w3.alloc (.cells #[.int .u64 (ah : Int), .int .u64 (ao : Int), .int .u64 (aq : Int)] 132)).alloc (.cells #[.int .u64 (lh : Int), .int .u64 (lo : Int), .int .u64 (lt : Int)] 132) = w4 at *
        have hbel5 := hbel4.trans (hb5.mono (by have := hMa4.mk.lt; omega))
        have hNb5 : Nm w5 g2 nb c2 B := by
          have := Nm.of_tr (hM4.bel hb5) ho2 hv2.out
          rw [htz.out] at this
          exact this
        have hNr5 := Nm.of_tr hM5 ho5 hv5.out
        have hs5 := hMs4.bel hb5
        have hlt4 := hMs4.mk.lt
        have hlt4' := hM4.mk.lt
        have hsz5 := hbel4.size
        go_wp2
        go_roundg (A % B)
        case measure => have := hgk.out; have := Nat.mod_lt A hBp.out; omega
        case rel => exact ⟨g2, nb, c2, g5, tl cur5, r5, gs, ns, cs, B, A % B, ⟨rfl, rfl, rfl, hg2b, by omega, hbs, by omega, hg2s, by omega, hc2b, by omega, hcs, hNb5, hNr5, ⟨ss, hs5, hls, hos⟩, by omega, by omega, show _ ≤ _ from Nat.le_of_lt (Nat.mod_lt A hBp.out), show _ = _ by rw [← hgc.out, Nat.gcd_comm A B, Nat.gcd_rec B A, Nat.gcd_comm], hbel5⟩, rfl⟩
      · have h00 : ((lt : Int) == 0) = false := by rw [beq_eq_false_iff_ne]; omega
        have hMs4 := hMs4.take_ na
        have hls4 := Lib.hid (show (ss.take na).length = na by rw [List.length_take, hls.out]; omega)
        have hos4 := hos.take na
        have r0 := R1.cell 1
        have r1 := R1.cell 2
        have r2 := R2.cell 1
        have r3 := R2.cell 2
        obtain ⟨T, L, hF, u1, u2, u3, u4⟩ := HF.out
        have hAn := len_lt_pow hoa hva.out hla.out
        have hBA := hle.out
        cases ex with
        | false =>
          have hF : FoR A B Ah Bh tt (A.gcd B) A B ah ao aq lh lo lt T L := hF
          have HE := Lib.hid (show A = A ∧ T + aq * B = ao * A ∧ L + lt * A = lo * B ∧ T < Fr.bs .u64 ^ na ∧ L < Fr.bs .u64 ^ na ∧ L < B ∧ L ≤ T ∧ T.gcd L = X.gcd Y from ⟨rfl, hF.e1, hF.e2, by have := hF.ta; omega, by have := hF.ta; have := hF.le; omega, by rcases hF.pr with h9 | h9 <;> omega, hF.le, by rw [hF.gc]; exact hgc.out⟩)
          clear hF h0 HF hAn hBA
          go_wp2_with fail
          refine (setDifference_any gs na cs cs ga ca g2 c2 ao aq (ss.take na) us ys2 _ hMs4 hos4 hls4 hMa4.mk hla hoa hM4.mk hl2 ho2 (by omega) (by omega) hcs hlc hc2 u1 u2 (show _ ≤ _ by have := HE.out.2.1; rw [hva.out, hv2.out]; omega) (show _ < _ by have := HE.out; rw [hva.out, hv2.out]; omega)).mono ?_
          rintro e w5 ⟨cur1, rfl, hM51, hl51, ho51, hv51, hon5⟩
          have hp5 := hon5.mz_ hMa4 (by omega)
          have hq5 := hon5.mz_ hM4 (by omega)
          have R51 := R1.grown hon5.1 (fun e => by injection e with e; omega)
          have R52 := R2.grown hon5.1 (fun e => by injection e with e; omega)
          have k0 := R51.cell 1
          have k1 := R51.cell 2
          have k2 := R52.cell 1
          have k3 := R52.cell 2
          have hb5 := hbel4.trans (hon5.below hbs)
          go_wp2_with fail
          refine (setDifference_any g2 na c2 c2 g2 c2 ga ca lo lt ys2 ys2 us _ hq5 ho2 hl2 hq5.mk hl2 ho2 hp5.mk hla hoa (by omega) hc2 hc2b hc2 hlc u3 u4 (show _ ≤ _ by have := HE.out.2.2.1; rw [hva.out, hv2.out]; omega) (show _ < _ by have := HE.out; rw [hva.out, hv2.out]; omega)).mono ?_
          rintro e w6 ⟨cur2, rfl, hM62, hl62, ho62, hv62, hon6⟩
          have hM61 := hon6.mz_ hM51 (by omega)
          have hp6 := hon6.mz_ hp5 (by omega)
          have hb6 := hb5.trans (hon6.below hg2b)
          have hV1 := Lib.hid (show vl (Fr.bs .u64) cur1 = T by have h1 := hv51.out; have h2 := HE.out.2.1; rw [hva.out, hv2.out] at h1; omega)
          have hV2 := Lib.hid (show vl (Fr.bs .u64) cur2 = L by have h1 := hv62.out; have h2 := HE.out.2.2.1; rw [hva.out, hv2.out] at h1; omega)
          have hD1 := hM61.mk.dgc (n := na) (c := cs) (by rw [hl51.out]; exact Nat.le_refl _) (by omega) hcs ho51
          rw [List.take_of_length_le (by rw [hl51.out]; exact Nat.le_refl _)] at hD1
          have hD2 := hM62.mk.dgc (n := na) (c := c2) (by rw [hl62.out]; exact Nat.le_refl _) hc2 hc2b ho62
          rw [List.take_of_length_le (by rw [hl62.out]; exact Nat.le_refl _)] at hD2
          have ht1 := len_tl hl51.out
          go_wp2_with fail
          refine (trim64_any _ _ _ _ _ hD1).mono ?_
          rintro e w' ⟨rfl, rfl⟩
          go_wp2_with fail
          refine (trim64_any _ _ _ _ _ hD2).mono ?_
          rintro e w' ⟨rfl, rfl⟩
          go_wp2
          go_roundg L
          case measure => have := hgk.out; have := HE.out.2.2.2.2.2.1; omega
          case rel => exact ⟨gs, tl cur1, cs, g2, tl cur2, c2, ga, na, ca, T, L, ⟨rfl, rfl, rfl, hbs, hg2b, hba, by omega, by omega, by omega, hcs, hc2b, hca, Nm.of_tr hM61 ho51 hV1.out, Nm.of_tr hM62 ho62 hV2.out, ⟨us, hp6, hla, hoa⟩, ht1, by omega, HE.out.2.2.2.2.2.2.1, HE.out.2.2.2.2.2.2.2, hb6⟩, rfl⟩
        | true =>
          have hF : FoR B A Bh Ah tt (A.gcd B) A B ah ao aq lh lo lt T L := hF
          have HE := Lib.hid (show B = B ∧ T + aq * A = ao * B ∧ L + lt * B = lo * A ∧ T < Fr.bs .u64 ^ na ∧ L < Fr.bs .u64 ^ na ∧ L < B ∧ L ≤ T ∧ T.gcd L = X.gcd Y from ⟨rfl, hF.e1, hF.e2, by have := hF.ta; omega, by have := hF.ta; have := hF.le; omega, by rcases hF.pr with h9 | h9 <;> omega, hF.le, by rw [hF.gc]; exact hgc.out⟩)
          clear hF h0 HF hAn hBA
          go_wp2_with fail
          refine (setDifference_any gs na cs cs g2 c2 ga ca ao aq (ss.take na) ys2 us _ hMs4 hos4 hls4 hM4.mk hl2 ho2 hMa4.mk hla hoa (by omega) (by omega) hcs hc2 hlc u1 u2 (show _ ≤ _ by have := HE.out.2.1; rw [hv2.out, hva.out]; omega) (show _ < _ by have := HE.out; rw [hv2.out, hva.out]; omega)).mono ?_
          rintro e w5 ⟨cur1, rfl, hM51, hl51, ho51, hv51, hon5⟩
          have hp5 := hon5.mz_ hM4 (by omega)
          have hq5 := hon5.mz_ hMa4 (by omega)
          have R51 := R1.grown hon5.1 (fun e => by injection e with e; omega)
          have R52 := R2.grown hon5.1 (fun e => by injection e with e; omega)
          have k0 := R51.cell 1
          have k1 := R51.cell 2
          have k2 := R52.cell 1
          have k3 := R52.cell 2
          have hb5 := hbel4.trans (hon5.below hbs)
          go_wp2_with fail
          refine (setDifference_any ga na ca ca ga ca g2 c2 lo lt us us ys2 _ hq5 hoa hla hq5.mk hla hoa hp5.mk hl2 ho2 (by omega) hlc hca hlc hc2 u3 u4 (show _ ≤ _ by have := HE.out.2.2.1; rw [hv2.out, hva.out]; omega) (show _ < _ by have := HE.out; rw [hv2.out, hva.out]; omega)).mono ?_
          rintro e w6 ⟨cur2, rfl, hM62, hl62, ho62, hv62, hon6⟩
          have hM61 := hon6.mz_ hM51 (by omega)
          have hp6 := hon6.mz_ hp5 (by omega)
          have hb6 := hb5.trans (hon6.below hba)
          have hV1 := Lib.hid (show vl (Fr.bs .u64) cur1 = T by have h1 := hv51.out; have h2 := HE.out.2.1; rw [hv2.out, hva.out] at h1; omega)
          have hV2 := Lib.hid (show vl (Fr.bs .u64) cur2 = L by have h1 := hv62.out; have h2 := HE.out.2.2.1; rw [hv2.out, hva.out] at h1; omega)
          have hD1 := hM61.mk.dgc (n := na) (c := cs) (by rw [hl51.out]; exact Nat.le_refl _) (by omega) hcs ho51
          rw [List.take_of_length_le (by rw [hl51.out]; exact Nat.le_refl _)] at hD1
          have hD2 := hM62.mk.dgc (n := na) (c := ca) (by rw [hl62.out]; exact Nat.le_refl _) hlc hca ho62
          rw [List.take_of_length_le (by rw [hl62.out]; exact Nat.le_refl _)] at hD2
          have ht1 := len_tl hl51.out
          go_wp2_with fail
          refine (trim64_any _ _ _ _ _ hD1).mono ?_
          rintro e w' ⟨rfl, rfl⟩
          go_wp2_with fail
          refine (trim64_any _ _ _ _ _ hD2).mono ?_
          rintro e w' ⟨rfl, rfl⟩
          go_wp2
          go_roundg L
          case measure => have := hgk.out; have := HE.out.2.2.2.2.2.1; omega
          case rel => exact ⟨gs, tl cur1, cs, ga, tl cur2, ca, g2, na, c2, T, L, ⟨rfl, rfl, rfl, hbs, hba, hg2b, by omega, by omega, by omega, hcs, hca, hc2b, Nm.of_tr hM61 ho51 hV1.out, Nm.of_tr hM62 ho62 hV2.out, ⟨ys2, hp6, hl2, ho2⟩, ht1, by omega, HE.out.2.2.2.2.2.2.1, HE.out.2.2.2.2.2.2.2, hb6⟩, rfl⟩
    · go_wp2
      go_ret2
      exact ⟨ga, na, ca, gb, nb, cb, A, B, rfl, ⟨us, hMa, hla, hoa, hNa, hva⟩, ⟨ys, hMb, hlb, hob, hNb, hvb⟩, hnb, hn, hca, hcb, hgc, hbel⟩
end Go.Proofs.YtbgihlfblmilmaaGreatDoor.Fr

/- The greatest common divisor, for any numbers. -/
namespace Go.Proofs.YtbgihlfblmilmaaGreatDoor.Fr
open Go.RowKit Num

theorem modulo_quiet (A : Option Addr) (n c y : Nat) (xs : List Nat) (w : World) (k : Nat) (h : Dg .u64 w A n c xs) (hn : n ≤ 2000000) (hy : 1 ≤ y) (hyb : y ≤ 18446744073709551615) (r : Nat) (hr : Hid (r = vl (bs .u64) xs % y)) :
    Calls Tryz.prog 122 #[.slice A n c, .int .u64 (y : Int)] (w.drewN k) fun e w' => e = .returned (.int .u64 (r : Int)) ∧ ∃ m, w' = w.drewN m :=
  (modulo_any HD A n c y xs (w.drewN k) (h.drewN k) hn hy hyb).mono fun e w' ⟨r', m, he, h1, _, h2⟩ => ⟨by rw [he, h1.out, hr.out], k + m, by rw [h2, World.drewN_drewN]⟩

set_option maxHeartbeats 6400000 in
set_option maxRecDepth 100000 in
theorem gcd_big (sw : Bool) (A A' : Option Addr) (n c n' c' : Nat) (xs ys : List Nat) (w : World) (h : Dg .u64 w A n c xs) (h' : Dg .u64 w A' n' c' ys) (hN : Nrm xs) (hN' : Nrm ys) (X Y : Nat) (hX : Hid (vl (bs .u64) xs = X)) (hY : Hid (vl (bs .u64) ys = Y))
    (hn : n ≤ 400000) (hn' : 1 < n') (hle : Y ≤ X) (hsw : sw = true → Y < X) :
    Calls Tryz.prog 75 (if sw then #[.slice A' n' c', .slice A n c] else #[.slice A n c, .slice A' n' c']) w (RetN .u64 w (X.gcd Y) n') := by
  have hnn : n' ≤ n := by
    have := len_le_of one_lt_bs64 h.ok hN' (by rw [hX.out, hY.out]; exact hle)
    rw [h.len, h'.len] at this; exact this
  have hYp : 0 < Y := by rw [← hY.out]; exact hN'.pos (by decide) (by rw [h'.len]; omega)
  have HG := Lib.hid (show X.gcd Y < bs .u64 ^ n' from Nat.lt_of_le_of_lt (Nat.le_of_dvd hYp (Nat.gcd_dvd_right X Y)) (by have := vl_lt h'.ok; rw [hY.out, h'.len] at this; exact this))
  have hxl := h.len
  have hyl := h'.len
  clear hYp
  cases sw with
  | false =>
    have ho := ord_nn hle
    rw [if_neg (by simp)]
    have Hle := Lib.hid hle
    clear hle hsw
    go_enter Tryz.func75, Tryz.ntmps75
    go_wp2_with fail
    refine (cmp64_any _ _ _ _ _ _ _ _ _ h h' hN hN' X Y hX hY).mono ?_
    rintro e w2 ⟨m, rfl, rfl⟩
    have hb0 := bel_drewN (Below.refl w.heap.size w) m
    go_wp2_with fail
    refine (clone_own A n c xs _ (h.drewN m) (by omega) (by omega)).mono ?_
    rintro e w3 ⟨ga, ca, rfl, hMa, hca, hcab, hga, hb3⟩
    have hb3' := hb0.trans (hb3.mono hb0.size)
    go_wp2_with fail
    refine (clone_own A' n' c' ys w3 ((h'.drewN m).below hb3) (by omega) (by omega)).mono ?_
    rintro e w4 ⟨gb, cb, rfl, hMb, hcb, hcbb, hgb, hb4⟩
    have hb4' := hb3'.trans (hb4.mono hb3'.size)
    have hga3 := hMa.mk.lt
    have hsz3 := hb3'.size
    go_wp2_with fail
    refine (reduceTogether_any w.heap.size ga n ca gb n' cb X Y w4 ⟨xs, hMa.bel hb4, hxl, h.ok, hN, hX⟩ ⟨ys, hMb, hyl, h'.ok, hN', hY⟩ hcab hcbb (by omega) hga (by omega) hn Hle).mono ?_
    rintro e w5 ⟨g1, n1, c1, g2, n2, c2, P, Q, rfl, hP, hQ, hn2, hn1, hc1, hc2, hG, hb5⟩
    have hb5' := hb4'.trans hb5
    obtain ⟨ps, hDp, hNp, hvp⟩ := hP.dg hc1
    obtain ⟨qs, hDq, hNq, hvq⟩ := hQ.dg hc2
    rcases (show n2 = 0 ∨ n2 = 1 by omega) with hz | hz
    · have hG2 := Lib.hid (show vl (bs .u64) ps = X.gcd Y by
        have : Q = 0 := by rw [← hvq.out, List.eq_nil_of_length_eq_zero (show qs.length = 0 by rw [hDq.len]; exact hz)]; rfl
        rw [hvp.out, ← hG.out, this, Nat.gcd_zero_right])
      subst hz
      go_wp2
      go_ret
      exact ⟨_, _, _, _, rfl, hDp, hNp, hG2, (by have := len_of_lt hNp hG2.out HG.out; rw [hDp.len] at this; exact this), hb5'⟩
    · subst hz
      obtain ⟨ad', y, had, hcy, hy⟩ := hDq.at_ (j := 0) (by omega)
      injection had with had
      subst had
      have hyv := nrm_one64 hDq.len hy.out.1
      rw [hvq.out] at hyv
      have hyb : y ≤ 18446744073709551615 := Nat.le_of_lt_succ hy.out.2
      have hy1 : 1 ≤ y := nrm_top hNq hDq.len hy.out.1
      have hcy : w5.cell? ⟨g2, 0, none⟩ = some (.int .u64 y) := hcy
      obtain ⟨r, hr⟩ : ∃ r, r = P % y := ⟨_, rfl⟩
      have hry : r < y := by rw [hr]; exact Nat.mod_lt _ hy1
      have Hr : Hid (r = vl (bs .u64) ps % y) := by rw [hvp.out]; exact hr
      have HG2 : Hid (X.gcd Y = y.gcd r) := by
        show _ = _
        rw [← hG.out, hyv, hr, Nat.gcd_comm P y, Nat.gcd_rec, Nat.gcd_comm]
      clear hr hyv
      go_wp2
      go_quiet ((go_at_call 122; exact modulo_quiet _ _ _ _ _ _ _ hDp (by omega) hy1 hyb r Hr))
      go_wp2
      go_loopw [5, 6] (fun xv yv wr => ∃ a b m : Nat, xv = .int .u64 a ∧ yv = .int .u64 b ∧ 1 ≤ a ∧ a ≤ 18446744073709551615 ∧ b ≤ 18446744073709551615 ∧ Hid (X.gcd Y = a.gcd b) ∧ wr = w5.drewN m) (fun _ yv _ => (intOf yv).toNat)
      case atStart => exact ⟨y, r, _, rfl, rfl, hy1, hyb, by omega, HG2.out, rfl⟩
      case round =>
        obtain ⟨a, b, m3, rfl, rfl, ha1, hab, hbb, hG3, rfl⟩ := hrel
        by_cases hbz : 0 < b
        · have hG4 := Lib.hid (show X.gcd Y = b.gcd (a % b) by rw [hG3.out, Nat.gcd_comm a b, Nat.gcd_rec, Nat.gcd_comm])
          have hmod : ((a : Int)).tmod (b : Int) = (a : Int) % (b : Int) := Int.tmod_eq_emod_of_nonneg (by omega)
          have hlt : (a : Int) % (b : Int) < (b : Int) := Int.emod_lt_of_pos _ (by omega)
          have hnneg : 0 ≤ (a : Int) % (b : Int) := Int.emod_nonneg _ (by omega)
          have hcast := Lib.hid (show (a : Int) % (b : Int) = ((a % b : Nat) : Int) by rw [Int.natCast_emod])
          have hltn : a % b < b := Nat.mod_lt _ hbz
          go_wp2
          go_quiet (fail)
          go_wp2
          go_roundw
          case rel => exact ⟨b, a % b, _, rfl, by rw [hcast.out], hbz, hbb, by omega, hG4.out, by first | rfl | exact World.drewN_drewN _ _ _⟩
          case measure => simp [intOf]; omega
        · obtain rfl : b = 0 := by omega
          have hD := Dg.lit1_64 (w5.drewN m3) 82 a hab
          have hb6 := (bel_drewN hb5' m3).alloc (by show w.heap.size ≤ w5.heap.size; exact hb5'.size) (.cells #[.int .u64 (a : Int)] 82)
          go_wp2
          go_ret
          exact ⟨_, _, _, _, rfl, hD, by intro _; simp; omega, show _ = _ by rw [hG3.out, Nat.gcd_zero_right]; simp [vl], by omega, hb6⟩
  | true =>
    have ho := ord_neg (hsw rfl)
    rw [if_pos rfl]
    have Hle := Lib.hid hle
    clear hle hsw
    go_enter Tryz.func75, Tryz.ntmps75
    go_wp2_with fail
    refine (cmp64_any _ _ _ _ _ _ _ _ _ h' h hN' hN Y X hY hX).mono ?_
    rintro e w2 ⟨m, rfl, rfl⟩
    have hb0 := bel_drewN (Below.refl w.heap.size w) m
    go_wp2_with fail
    refine (clone_own A n c xs _ (h.drewN m) (by omega) (by omega)).mono ?_
    rintro e w3 ⟨ga, ca, rfl, hMa, hca, hcab, hga, hb3⟩
    have hb3' := hb0.trans (hb3.mono hb0.size)
    go_wp2_with fail
    refine (clone_own A' n' c' ys w3 ((h'.drewN m).below hb3) (by omega) (by omega)).mono ?_
    rintro e w4 ⟨gb, cb, rfl, hMb, hcb, hcbb, hgb, hb4⟩
    have hb4' := hb3'.trans (hb4.mono hb3'.size)
    have hga3 := hMa.mk.lt
    have hsz3 := hb3'.size
    go_wp2_with fail
    refine (reduceTogether_any w.heap.size ga n ca gb n' cb X Y w4 ⟨xs, hMa.bel hb4, hxl, h.ok, hN, hX⟩ ⟨ys, hMb, hyl, h'.ok, hN', hY⟩ hcab hcbb (by omega) hga (by omega) hn Hle).mono ?_
    rintro e w5 ⟨g1, n1, c1, g2, n2, c2, P, Q, rfl, hP, hQ, hn2, hn1, hc1, hc2, hG, hb5⟩
    have hb5' := hb4'.trans hb5
    obtain ⟨ps, hDp, hNp, hvp⟩ := hP.dg hc1
    obtain ⟨qs, hDq, hNq, hvq⟩ := hQ.dg hc2
    rcases (show n2 = 0 ∨ n2 = 1 by omega) with hz | hz
    · have hG2 := Lib.hid (show vl (bs .u64) ps = X.gcd Y by
        have : Q = 0 := by rw [← hvq.out, List.eq_nil_of_length_eq_zero (show qs.length = 0 by rw [hDq.len]; exact hz)]; rfl
        rw [hvp.out, ← hG.out, this, Nat.gcd_zero_right])
      subst hz
      go_wp2
      go_ret
      exact ⟨_, _, _, _, rfl, hDp, hNp, hG2, (by have := len_of_lt hNp hG2.out HG.out; rw [hDp.len] at this; exact this), hb5'⟩
    · subst hz
      obtain ⟨ad', y, had, hcy, hy⟩ := hDq.at_ (j := 0) (by omega)
      injection had with had
      subst had
      have hyv := nrm_one64 hDq.len hy.out.1
      rw [hvq.out] at hyv
      have hyb : y ≤ 18446744073709551615 := Nat.le_of_lt_succ hy.out.2
      have hy1 : 1 ≤ y := nrm_top hNq hDq.len hy.out.1
      have hcy : w5.cell? ⟨g2, 0, none⟩ = some (.int .u64 y) := hcy
      obtain ⟨r, hr⟩ : ∃ r, r = P % y := ⟨_, rfl⟩
      have hry : r < y := by rw [hr]; exact Nat.mod_lt _ hy1
      have Hr : Hid (r = vl (bs .u64) ps % y) := by rw [hvp.out]; exact hr
      have HG2 : Hid (X.gcd Y = y.gcd r) := by
        show _ = _
        rw [← hG.out, hyv, hr, Nat.gcd_comm P y, Nat.gcd_rec, Nat.gcd_comm]
      clear hr hyv
      go_wp2
      go_quiet ((go_at_call 122; exact modulo_quiet _ _ _ _ _ _ _ hDp (by omega) hy1 hyb r Hr))
      go_wp2
      go_loopw [5, 6] (fun xv yv wr => ∃ a b m : Nat, xv = .int .u64 a ∧ yv = .int .u64 b ∧ 1 ≤ a ∧ a ≤ 18446744073709551615 ∧ b ≤ 18446744073709551615 ∧ Hid (X.gcd Y = a.gcd b) ∧ wr = w5.drewN m) (fun _ yv _ => (intOf yv).toNat)
      case atStart => exact ⟨y, r, _, rfl, rfl, hy1, hyb, by omega, HG2.out, rfl⟩
      case round =>
        obtain ⟨a, b, m3, rfl, rfl, ha1, hab, hbb, hG3, rfl⟩ := hrel
        by_cases hbz : 0 < b
        · have hG4 := Lib.hid (show X.gcd Y = b.gcd (a % b) by rw [hG3.out, Nat.gcd_comm a b, Nat.gcd_rec, Nat.gcd_comm])
          have hmod : ((a : Int)).tmod (b : Int) = (a : Int) % (b : Int) := Int.tmod_eq_emod_of_nonneg (by omega)
          have hlt : (a : Int) % (b : Int) < (b : Int) := Int.emod_lt_of_pos _ (by omega)
          have hnneg : 0 ≤ (a : Int) % (b : Int) := Int.emod_nonneg _ (by omega)
          have hcast := Lib.hid (show (a : Int) % (b : Int) = ((a % b : Nat) : Int) by rw [Int.natCast_emod])
          have hltn : a % b < b := Nat.mod_lt _ hbz
          go_wp2
          go_quiet (fail)
          go_wp2
          go_roundw
          case rel => exact ⟨b, a % b, _, rfl, by rw [hcast.out], hbz, hbb, by omega, hG4.out, by first | rfl | exact World.drewN_drewN _ _ _⟩
          case measure => simp [intOf]; omega
        · obtain rfl : b = 0 := by omega
          have hD := Dg.lit1_64 (w5.drewN m3) 82 a hab
          have hb6 := (bel_drewN hb5' m3).alloc (by show w.heap.size ≤ w5.heap.size; exact hb5'.size) (.cells #[.int .u64 (a : Int)] 82)
          go_wp2
          go_ret
          exact ⟨_, _, _, _, rfl, hD, by intro _; simp; omega, show _ = _ by rw [hG3.out, Nat.gcd_zero_right]; simp [vl], by omega, hb6⟩

theorem gcd64_any (A A' : Option Addr) (n c n' c' : Nat) (xs ys : List Nat) (w : World) (h : Dg .u64 w A n c xs) (h' : Dg .u64 w A' n' c' ys) (hN : Nrm xs) (hN' : Nrm ys) (X Y : Nat) (hX : Hid (vl (bs .u64) xs = X)) (hY : Hid (vl (bs .u64) ys = Y))
    (hn : n ≤ 400000) (hn' : n' ≤ 400000) :
    Calls Tryz.prog 75 #[.slice A n c, .slice A' n' c'] w (RetN .u64 w (X.gcd Y) (max (max n n') 1)) := by
  by_cases hs : n ≤ 1 ∨ n' ≤ 1
  · exact gcd64_small HD A A' n c n' c' xs ys w h h' hN hN' X Y hX hY (by omega) (by omega) hs
  · by_cases hle : Y ≤ X
    · have := gcd_big false A A' n c n' c' xs ys w h h' hN hN' X Y hX hY hn (by omega) hle (by simp)
      rw [if_neg (by simp)] at this
      refine this.mono fun e w' ⟨A1, m, c1, us, he, hD, hn1, hv, hm, hb⟩ => ?_
      exact ⟨A1, m, c1, us, he, hD, hn1, hv, by omega, hb⟩
    · have := gcd_big true A' A n' c' n c ys xs w h' h hN' hN Y X hY hX hn' (by omega) (by omega) (fun _ => by omega)
      rw [if_pos rfl] at this
      refine this.mono fun e w' ⟨A1, m, c1, us, he, hD, hn1, hv, hm, hb⟩ => ?_
      exact ⟨A1, m, c1, us, he, hD, hn1, by rw [Nat.gcd_comm]; exact hv, by omega, hb⟩
end Go.Proofs.YtbgihlfblmilmaaGreatDoor.Fr
