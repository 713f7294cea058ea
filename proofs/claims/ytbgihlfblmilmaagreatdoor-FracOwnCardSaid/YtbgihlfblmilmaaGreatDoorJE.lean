/- The decimal digits of a number, as a string. -/
import Derived.Test.YtbgihlfblmilmaaGreatDoorJA
import Derived.Test.YtbgihlfblmilmaaGreatDoorGY
import Derived.Sort.OwnSorted
import Derived.Test.YtbgihlfblmilmaaGreatDoorGS
namespace Go.Proofs.YtbgihlfblmilmaaGreatDoor.Fr
open Go.RowKit Num Go.Sort

abbrev T19 : Nat := 10000000000000000000
theorem chunk_len {V R n : Nat} {cs : List Nat} (hV : V = vl T19 cs + T19 ^ cs.length * R) (hR : 0 < R) (hb : V < bs .u64 ^ n) : cs.length < 2 * n := by
  rcases Nat.lt_or_ge cs.length (2 * n) with h | h
  · exact h
  · exfalso
    have h1 : T19 ^ (2 * n) ≤ T19 ^ cs.length := Nat.pow_le_pow_right (by decide) h
    have h2 : T19 ^ cs.length * 1 ≤ T19 ^ cs.length * R := Nat.mul_le_mul_left _ hR
    have h3 : bs .u64 ^ n ≤ (T19 ^ 2) ^ n := Nat.pow_le_pow_left (by decide) n
    rw [← Nat.pow_mul] at h3
    generalize bs .u64 ^ n = a at *
    generalize T19 ^ (2 * n) = b at *
    generalize T19 ^ cs.length * R = d at *
    generalize T19 ^ cs.length = e at *
    omega
theorem chunk_step {V R : Nat} {cs : List Nat} (hV : V = vl T19 cs + T19 ^ cs.length * R) : V = vl T19 (cs ++ [R % T19]) + T19 ^ (cs ++ [R % T19]).length * (R / T19) := by
  have h1 := Nat.mod_add_div R T19
  rw [vl_snoc, List.length_append, List.length_singleton, Nat.pow_succ, Nat.mul_assoc, Nat.add_assoc, ← Nat.mul_add, h1]
  exact hV
def lenOf : Value → Nat
  | .slice _ n _ => n
  | _ => 0
theorem lenOf_own {w : World} {base n : Nat} {e : TypeId} {v : Value} {xs : List Value} (h : w.ownsRow base e 1 v n xs) : lenOf v = n := by
  rcases h.2 with ⟨rfl, hx⟩ | ⟨g, cap, cur, rfl, _⟩
  · exact hx.symm
  · rfl
/-- the strings of the chunks, the first k behind the first padded -/
def mix (t : Nat) (r : List Nat) (k : Nat) : List (List UInt8) := Lib.decDigits t :: ((r.take k).map (pd 19) ++ (r.drop k).map Lib.decDigits)
theorem mix_len (t : Nat) (r : List Nat) (k : Nat) : (mix t r k).length = r.length + 1 := by
  unfold mix; rw [List.length_cons, List.length_append, List.length_map, List.length_map, ← List.length_append, List.take_append_drop]
theorem mix_at {t : Nat} {r : List Nat} {k : Nat} (hk : k < r.length) : (mix t r k)[k + 1]? = some (Lib.decDigits (r.getD k 0)) := by
  unfold mix
  rw [List.getElem?_cons_succ, List.getElem?_append_right (by rw [List.length_map, List.length_take]; omega), List.length_map, List.length_take, show k - min k r.length = 0 by omega, List.getElem?_map, List.getElem?_drop, Nat.add_zero, List.getElem?_eq_getElem hk, List.getD_eq_getElem?_getD, List.getElem?_eq_getElem hk]
  rfl
theorem mix_set {t : Nat} {r : List Nat} {k : Nat} (hk : k < r.length) : (mix t r k).set (k + 1) (pd 19 (r.getD k 0)) = mix t r (k + 1) := by
  unfold mix
  have e1 : (r.take k).length = k := by rw [List.length_take]; omega
  have e2 : r.getD k 0 = r[k] := by rw [List.getD_eq_getElem?_getD, List.getElem?_eq_getElem hk, Option.getD_some]
  have e3 : r.take (k + 1) = r.take k ++ [r[k]] := by rw [List.take_add_one, List.getElem?_eq_getElem hk, Option.toList_some]
  rw [e2, e3, List.map_append, List.append_assoc, List.set_cons_succ, List.set_append_right _ _ (by rw [List.length_map, e1]; exact Nat.le_refl _), List.length_map, e1, Nat.sub_self, List.drop_eq_getElem_cons hk, List.map_cons, List.set_cons_zero]
  simp only [List.map_cons, List.map_nil, List.singleton_append]
theorem mix_end {t : Nat} {lo : List Nat} {V : Nat} (hV : V = vl T19 (lo ++ [t])) (ht : 0 < t) (hc : ∀ x ∈ lo, x < T19) : Lib.join (mix t lo.reverse lo.reverse.length) [] = Lib.decDigits V := by
  unfold mix
  rw [List.take_length, List.drop_length, List.map_nil, List.append_nil, Lib.join_cons, hV]
  have h19 : (10 : Nat) ^ 19 = T19 := by decide +kernel
  have h1 := dec_chunks 19 lo.reverse t ht
  rw [h19, List.reverse_reverse] at h1
  rw [h1 (fun x hx => hc x (List.mem_reverse.1 hx))]
  congr 1
  unfold Lib.joinTail
  congr 1
  rw [List.map_map]
  apply List.map_congr_left
  intro x _
  show ([] : List UInt8) ++ pd 19 x = pd 19 x
  rw [List.nil_append]
theorem nDigits_le : ∀ (k u : Nat), u < 10 ^ (k + 1) → Lib.nDigits u ≤ k + 1
  | 0, u, h => by rw [Lib.nDigits_small (by simpa using h)]; omega
  | k + 1, u, h => by
    by_cases h10 : u < 10
    · rw [Lib.nDigits_small h10]; omega
    · rw [Lib.nDigits_big h10]
      have := nDigits_le k (u / 10) (by rw [Nat.pow_succ] at h; omega)
      omega
theorem dec_len_le {V n : Nat} (hV : V < bs .u64 ^ (n + 1)) : (Lib.decDigits V).length ≤ 20 * n + 20 := by
  rw [Lib.decDigits_length]
  have h1 : bs .u64 ^ (n + 1) ≤ (10 ^ 20) ^ (n + 1) := Nat.pow_le_pow_left (by decide) _
  rw [← Nat.pow_mul] at h1
  exact nDigits_le (20 * n + 19) V (Nat.lt_of_lt_of_le hV (by rw [show 20 * n + 19 + 1 = 20 * (n + 1) by omega]; exact h1))
theorem holds_at {w : World} {g : Nat} {zs : List (List UInt8)} (h : Holds encStr w g 0 zs.toArray) {j : Nat} {z : List UInt8} (hz : zs[j]? = some z) : w.cell? ⟨g, j, none⟩ = some (.string ⟨z.toArray⟩) ∧ w.frozen? ⟨g, j, none⟩ = false := by
  have hj : j < zs.length := by
    rcases Nat.lt_or_ge j zs.length with h9 | h9
    · exact h9
    · rw [List.getElem?_eq_none h9] at hz; cases hz
  have := h j (by simpa using hj)
  rw [Nat.zero_add] at this
  refine ⟨this.1.trans ?_, this.2⟩
  rw [getElem!_pos _ j (by simpa using hj)]
  rw [List.getElem?_eq_getElem hj] at hz
  injection hz with hz
  simp only [List.getElem_toArray, hz]
  try rfl
theorem holds_set {w : World} {g : Nat} {zs : List (List UInt8)} (h : Holds encStr w g 0 zs.toArray) (j : Nat) (z : List UInt8) : Holds encStr (w.setCell ⟨g, j, none⟩ (.string ⟨z.toArray⟩)) g 0 (zs.set j z).toArray := by
  intro i hi
  have hi' : i < zs.length := by simpa using hi
  have h0 := h i (by simpa using hi')
  rw [Nat.zero_add] at *
  refine ⟨?_, by rw [World.frozen?_setCell]; exact h0.2⟩
  rw [getElem!_pos _ i hi]
  by_cases e : j = i
  · subst e
    rw [World.cell?_setCell_same _ _ _ h0.1]
    simp
    try rfl
  · rw [World.cell?_setCell_other _ _ _ _ (by intro e2; injection e2 with _ e2; exact e e2), h0.1, getElem!_pos _ i (by simpa using hi')]
    simp [e]
theorem holds_below {w w' : World} {g : Nat} {zs : List (List UInt8)} (h : Holds encStr w g 0 zs.toArray) (hg : g < w.heap.size) (hb : Below w.heap.size w w') : Holds encStr w' g 0 zs.toArray := by
  intro i hi
  have h0 := h i hi
  refine ⟨(hb.cell (World.block_lt_of_cell? _ _ h0.1)).trans h0.1, ?_⟩
  have h2 := hb.block g hg
  have h3 := h0.2
  simp only [World.frozen?] at h3 ⊢
  rw [h2]
  exact h3

set_option maxHeartbeats 12800000 in
set_option maxRecDepth 100000 in
theorem text_any (A : Option Addr) (n c : Nat) (xs : List Nat) (w : World) (h : Dg .u64 w A n c xs) (hN : Nrm xs) (V : Nat) (hV : Hid (vl (bs .u64) xs = V)) (hn : n ≤ 100000) (hG : Gl w) :
    Calls Tryz.prog 108 #[.slice A n c] w fun e w' => e = .returned (.string ⟨(Lib.decDigits V).toArray⟩) ∧ Below w.heap.size w w' := by
  cases n with
  | zero =>
    have hV0 := Lib.hid (show V = 0 by rw [← hV.out, List.eq_nil_of_length_eq_zero h.len]; rfl)
    go_enter Tryz.func108, Tryz.ntmps108
    go_wp2
    go_ret
    rw [hV0.out, Lib.decDigits_one (by decide)]
    exact ⟨rfl, Below.refl _ _⟩
  | succ p =>
    obtain ⟨i0, hi, hz0, hz1, hz2⟩ := info_parts (show (Tryz.prog.info? 9).map (fun i => (i.zero, i.size, i.bytes)) = some (some (.string ⟨#[]⟩), 1, 16) by kernel_rfl)
    have hVp := Lib.hid (show 0 < V by rw [← hV.out]; exact Nrm.pos (by decide) hN (by rw [h.len]; omega))
    have hlx := Lib.hid h.len
    have hVb := Lib.hid (show V < bs .u64 ^ (p + 1) by rw [← hV.out, ← hlx.out]; exact vl_lt h.ok)
    have hxo := Lib.hid h.ok
    have hG := Lib.hid hG
    go_enter Tryz.func108, Tryz.ntmps108
    go_wp2_with fail
    refine (clone_own A (p + 1) c xs w h (by omega) (by omega)).mono ?_
    rintro e w1 ⟨g, ca, rfl, hMz, hca, hcat, hgb, hb1⟩
    have hM0 := hMz.mk
    have hgl := hM0.lt
    have hs1 := hb1.size
    clear hMz h
    go_wp2
    go_loopw [3, 4] (fun cz rv wr => ∃ (cv : Value) (m : Nat) (us cs : List Nat), cz = cv ∧ wr.ownsRow w1.heap.size 9 1 cv cs.length (cs.map fun x => encStr (Lib.decDigits x)) ∧ rv = .slice (some ⟨g, 0, none⟩) m ca ∧ m ≤ p + 1 ∧ Mk wr g 82 .u64 us ∧ Hid (us.length = m) ∧ Okd (bs .u64) us ∧ Nrm us ∧ Hid (V = vl T19 cs + T19 ^ cs.length * vl (bs .u64) us) ∧ Hid (∀ x ∈ cs, x < T19) ∧ Hid (m = 0 → ∃ lo t, cs = lo ++ [t] ∧ 0 < t) ∧ w1.heap.size ≤ wr.heap.size ∧ cs.length ≤ 2 * (p + 1) ∧ Below w.heap.size w wr) (fun cv _ _ => 2 * (p + 1) - lenOf cv)
    case atStart =>
      exact ⟨_, p + 1, xs, [], rfl, World.ownsRow_nil _ _ _ _, rfl, Nat.le_refl _, hM0, hlx, hxo.out, hN, (by show V = 0 + 1 * _; rw [hV.out]; omega), (fun x hx => by cases hx), (fun h0 => by omega), Nat.le_refl _, Nat.zero_le _, hb1⟩
    case round =>
      obtain ⟨cv, m, us, cs, hcz, hown, rfl, hmp, hM, hul, hok, hNu, hVv, hcl, hlast, hsz, hcn, hb⟩ := hrel
      obtain rfl := hcz.symm
      by_cases hm : 0 < m
      · have hRp := Lib.hid (show 0 < vl (bs .u64) us from Nrm.pos (by decide) hNu (by rw [hul.out]; exact hm))
        have hcV := chunk_len hVv.out hRp.out hVb.out
        have hst := Lib.hid (chunk_step hVv.out)
        go_wp2_with fail
        refine (shrink_any (Lib.hid div_said) g m ca 10000000000000000000 us _ hM hok hul (by omega) (by decide) (by decide)).mono ?_
        rintro e w2 ⟨r, cur, rfl, hr, hrb, hM2, hok2, hl2, hv2, hon⟩
        have hown2 : w2.ownsRow w1.heap.size 9 1 cv cs.length (cs.map fun x => encStr (Lib.decDigits x)) := hown.kept hon.1 (by
          cases hob : cv.ownBlock with
          | none => exact .inl rfl
          | some k => exact .inr (by have := (hown.lt k hob).1; intro e; injection e with e; omega))
        have hb2 := hb.grown hon.1 (hb.size) (fun k hk => by injection hk with hk; omega)
        have hs2 : wr.heap.size = w2.heap.size := hon.2.symm
        clear hown hM hb hon
        go_wp2_with fail
        refine (formatUint_any r (by omega) _ (hG.out.below hb2)).mono ?_
        rintro e w3 ⟨rfl, hb3⟩
        have hM3 := hM2.below hb3 hM2.lt
        have hown3 := own_below hown2 hb3
        have hs3 := hb3.size
        have hbA := (Below.refl w3.heap.size w3).alloc (Nat.le_refl _) (.cells #[.string ⟨(Lib.decDigits r).toArray⟩] 9)
        have hown4 := own_below hown3 hbA
        have hM4 := hM3.alloc (.cells #[.string ⟨(Lib.decDigits r).toArray⟩] 9)
        have hb4 := (hb2.trans (hb3.mono hb2.size)).alloc (Nat.le_trans hb2.size hb3.size) (.cells #[.string ⟨(Lib.decDigits r).toArray⟩] 9)
        have hsz4 : w1.heap.size ≤ w3.heap.size := by omega
        have hgne : some g ≠ cv.ownBlock := by
          intro e
          have := (hown3.lt g e.symm).1
          omega
        clear hM2 hM3 hown2 hown3 hb2 hb3
        go_wp2_with (at_builtin; refine wpList_append_two rfl _ _ 121 rfl w1.heap.size 9 i0 (.string ⟨#[]⟩) 16 Tryz.underlying121 hi hz0 hz1 hz2 rfl _ _ _ rfl hown4 ⟨w3.heap.size, 0, none⟩ 1 [_] rfl rfl (cell_one_new _ _ _) ?c2 ?c3 ?c4 ?c5 ?_)
        case c2 => intro u hu; simp at hu; subst hu; rfl
        case c3 => unfold maxLen; omega
        case c4 => omega
        case c5 => simp; omega
        intro v' w7 hown7 hgr7 hblk7
        have hM7 := hM4.grown hgr7 hgne
        have hb7 := hb4.grown hgr7 hb4.size (fun k hk => by have := (hown4.lt k hk).1; omega)
        have hsz7 : w1.heap.size ≤ w7.heap.size := by have h8 := hgr7.size; simp only [World.size_alloc] at h8; omega
        have hlen4 := lenOf_own hown4
        clear hown4 hM4 hgr7 hblk7
        have hD7 := hM7.dgc (n := m) (c := ca) (by rw [hl2.out]; exact Nat.le_refl _) (by omega) hcat hok2
        rw [List.take_of_length_le (by rw [hl2.out]; exact Nat.le_refl _)] at hD7
        go_wp2_with fail
        refine (trim64_any _ _ _ _ _ hD7).mono ?_
        rintro e w8 ⟨rfl, rfl⟩
        have hr' : r = vl (bs .u64) us % T19 := hr.out
        have hst' := hst.out
        rw [← hr'] at hst'
        go_wp2
        go_roundw
        case rel =>
          refine ⟨v', tl cur, tr cur, cs ++ [r], rfl, ?_, rfl, Nat.le_trans (tl_le cur) (by rw [hl2.out]; exact hmp), hM7.take_ _, (by show _ = _; unfold tr; rw [List.length_take]; have := tl_le cur; omega), okd_tr hok2, nrm_tr cur, ?_, ?_, ?_, hsz7, ?_, hb7⟩
          · rw [List.length_append, List.map_append]; exact hown7
          · show _ = _
            rw [vl_tr, hv2.out]; exact hst'
          · intro x hx
            rcases List.mem_append.1 hx with hx | hx
            · exact hcl.out x hx
            · simp at hx; subst hx; exact hrb
          · intro h0
            refine ⟨cs, r, rfl, ?_⟩
            have h9 : vl (bs .u64) (tr cur) = 0 := by unfold tr; rw [h0]; rfl
            rw [vl_tr, hv2.out] at h9
            have h10 := Nat.mod_add_div (vl (bs .u64) us) T19
            have h11 : vl (bs .u64) us / T19 = 0 := h9
            rw [h11] at h10
            have := hRp.out
            omega
          · rw [List.length_append, List.length_singleton]; omega
        case measure =>
          rw [hlen4, lenOf_own hown7]
          omega
      · obtain rfl : m = 0 := by omega
        obtain ⟨lo, t, rfl, ht⟩ := hlast.out rfl
        have hV0 := Lib.hid (show V = vl T19 (lo ++ [t]) by have := hVv.out; rw [List.eq_nil_of_length_eq_zero hul.out] at this; exact this)
        have hc0 := Lib.hid (fun x hx => hcl.out x (List.mem_append_left _ hx) : ∀ x ∈ lo, x < T19)
        have hll : (lo ++ [t]).length = lo.length + 1 := by simp
        rw [hll] at hown hcn
        obtain ⟨q, hq⟩ : ∃ q, lo.length = q := ⟨_, rfl⟩
        have hqH := Lib.hid hq
        rw [hq] at hown hcn
        clear hVv hlast hcl hll hM hul hok hNu hq
        obtain ⟨_, ⟨rfl, hx⟩ | ⟨g2, cap, cur, rfl, hbg, hh, h1, h2, h3, h4⟩⟩ := hown
        · simp at hx
        · have hH1 : Holds encStr wr g2 0 ((lo ++ [t]).map Lib.decDigits).toArray := holds_of_block hh (by rw [List.length_map, List.length_append, List.length_singleton, hqH.out]; rw [Nat.mul_one] at h4; rw [h4, List.map_map]; rfl)
          have hg2l : g2 < wr.heap.size := (Array.getElem?_eq_some_iff.1 hh).1
          have hrev := Tryz.slices_Reverse_string g2 0 cap ((lo ++ [t]).map Lib.decDigits) wr hH1 (by rw [List.length_map, List.length_append, List.length_singleton, hqH.out]; omega)
          rw [List.length_map, List.length_append, List.length_singleton, hqH.out] at hrev
          have hrs : ((lo ++ [t]).map Lib.decDigits).reverse = mix t lo.reverse 0 := by
            unfold mix; rw [List.map_append, List.reverse_append, List.take_zero, List.drop_zero]; simp
          rw [hrs] at hrev
          have hrevH := Lib.hid hrev
          have hcapl : cap ≤ 9223372036854775807 := by unfold maxLen at h2; omega
          clear hrev hh h3 h4 h2
          go_wp2_with fail
          refine hrevH.out.mono ?_
          rintro e w5 ⟨rfl, nq, hw5⟩
          have hH5 : Holds encStr w5 g2 0 (mix t lo.reverse 0).toArray := by
            rw [hw5]
            exact holds_putRow _ _ _ _ ((lo ++ [t]).map Lib.decDigits).toArray _ (holds_ahead _ _ _ _ _ _ hH1) (by simp [mix_len])
          have hgr5 : wr.grownBy w5 (some g2) := by
            rw [hw5]
            have := grownBy_sorted (w := wr) (g := g2) (n := nq) (os := #[]) (mix t lo.reverse 0).toArray
            rw [grow_empty] at this
            exact this
          have hb5 := hb.grown hgr5 hb.size (fun k hk => by injection hk with hk; omega)
          have hg5 : g2 < w5.heap.size := Nat.lt_of_lt_of_le hg2l hgr5.size
          clear hw5 hgr5 hH1 hrevH hrs hb
          have hsb1 : (0 : Int) ≤ 1 := by decide
          have hsb2 : (1 : Int) ≤ ((q + 1 : Nat) : Int) := by omega
          have hsb3 : ((q + 1 : Nat) : Int) ≤ (cap : Int) := by omega
          have hdl := Lib.hid (dec_len_le (n := p) hVb.out)
          go_wp2
          all_goals
            go_loopw [28] (fun iv wr => ∃ j : Nat, iv = .int .i64 j ∧ j ≤ q ∧ Holds encStr wr g2 0 (mix t lo.reverse j).toArray ∧ g2 < wr.heap.size ∧ Below w.heap.size w wr) (fun iv _ => q - (intOf iv).toNat)
          all_goals try (case atStart => exact ⟨0, rfl, Nat.zero_le _, hH5, hg5, hb5⟩)
          all_goals
            clear hH5 hg5 hb5
            obtain ⟨j, rfl, hjq, hH, hgl2, hbw⟩ := hrel
            rcases Nat.lt_or_ge j q with hlt | hge
          all_goals first
            | (exfalso; omega)
            | skip
          rotate_left 1
          · have hjl : j < lo.reverse.length := by rw [List.length_reverse, hqH.out]; exact hlt
            have hat := mix_at (t := t) hjl
            have hset := Lib.hid (mix_set (t := t) hjl)
            have hdc := hc0.out (lo.reverse.getD j 0) (by
              rw [List.getD_eq_getElem?_getD, List.getElem?_eq_getElem hjl]
              exact List.mem_reverse.1 (List.getElem_mem hjl))
            obtain ⟨d, hd⟩ : ∃ d, lo.reverse.getD j 0 = d := ⟨_, rfl⟩
            rw [hd] at hat hset hdc
            have hpad := Lib.hid (pad_pd 18 d hdc)
            have hzl := Lib.nDigits_le20 d (by have : d < 10000000000000000000 := hdc; omega)
            rw [← Lib.decDigits_length] at hzl
            obtain ⟨k0, f0⟩ := holds_at hH hat
            obtain ⟨z, hz⟩ : ∃ z, Lib.decDigits d = z := ⟨_, rfl⟩
            rw [hz] at hpad k0 hzl
            have k0' : wr.cell? ⟨g2, 1 + j, none⟩ = some (.string ⟨z.toArray⟩) := by rw [Nat.add_comm]; exact k0
            clear hat hd hz hdc f0
            go_wp2_with fail
            refine (paddedQ z 19 _ (by decide) (by omega)).mono ?_
            rintro e w8 ⟨rfl, hb8⟩
            have hH8 := holds_below hH hgl2 hb8
            obtain ⟨z0, hz0'⟩ : ∃ z0, (mix t lo.reverse j)[j + 1]? = some z0 := ⟨_, List.getElem?_eq_getElem (by rw [mix_len]; omega)⟩
            obtain ⟨k1, f1⟩ := holds_at hH8 hz0'
            have hpe : List.replicate (19 - z.length) 48 ++ z = pd 19 d := hpad.out
            rw [hpe]
            have hs8 := holds_set hH8 (j + 1) (pd 19 d)
            rw [hset.out] at hs8
            have hb8' := (hbw.trans (hb8.mono hbw.size)).setCell (p := ⟨g2, j + 1, none⟩) (Nat.le_trans hs1 hbg) (.string ⟨(pd 19 d).toArray⟩)
            have hg8 : g2 < w8.heap.size := Nat.lt_of_lt_of_le hgl2 hb8.size
            clear hz0' hH hH8 hpad hset hb8 k0 k0'
            generalize pd 19 d = zz at *
            go_wp2
            go_roundw
            case rel => exact ⟨j + 1, by go_num, hlt, hs8, (by simpa using hg8), hb8'⟩
            case measure => simp [intOf]; omega
          · obtain rfl : j = q := by omega
            have hJ0 := Tryz.strings_Join g2 0 cap ((mix t lo.reverse j).map fun z => ⟨z.toArray⟩) ⟨#[]⟩ wr (fun i x hx => by
              rw [List.getElem?_map, Option.map_eq_some_iff] at hx
              obtain ⟨z, hz, rfl⟩ := hx
              rw [Nat.zero_add]
              exact (holds_at hH hz).1) hgl2 (by rw [List.length_map, mix_len, List.length_reverse, hqH.out]; omega) (by rw [List.length_map, mix_len, List.length_reverse, hqH.out]; exact h1)
            have hm1 : ((mix t lo.reverse j).map (fun z => (⟨z.toArray⟩ : ByteArray))).map (fun x => x.data.toList) = mix t lo.reverse j := by
              rw [List.map_map]
              exact List.map_id' _
            have hm2 := mix_end hV0.out ht hc0.out
            rw [List.length_reverse, hqH.out] at hm2
            rw [hm1] at hJ0
            have hJ1 := hJ0 (by rw [show ((⟨#[]⟩ : ByteArray).data.toList) = [] from rfl, hm2]; have := hdl.out; omega)
            rw [show ((⟨#[]⟩ : ByteArray).data.toList) = [] from rfl, hm2, List.length_map, mix_len, List.length_reverse, hqH.out] at hJ1
            have hJ := Lib.hid hJ1
            clear hJ0 hJ1 hm1 hm2 hH hV0 hc0
            go_wp2_with fail
            refine hJ.out.mono ?_
            rintro e w9 ⟨rfl, hb9⟩
            go_wp2
            go_ret
            exact ⟨rfl, hbw.trans (hb9.mono hbw.size)⟩
          · subst h
            obtain rfl : j = q := by omega
            have hJ0 := Tryz.strings_Join g2 0 1 ((mix t lo.reverse j).map fun z => ⟨z.toArray⟩) ⟨#[]⟩ wr (fun i x hx => by
              rw [List.getElem?_map, Option.map_eq_some_iff] at hx
              obtain ⟨z, hz, rfl⟩ := hx
              rw [Nat.zero_add]
              exact (holds_at hH hz).1) hgl2 (by rw [List.length_map, mix_len, List.length_reverse, hqH.out]; omega) (by rw [List.length_map, mix_len, List.length_reverse, hqH.out]; exact h1)
            have hm1 : ((mix t lo.reverse j).map (fun z => (⟨z.toArray⟩ : ByteArray))).map (fun x => x.data.toList) = mix t lo.reverse j := by
              rw [List.map_map]
              exact List.map_id' _
            have hm2 := mix_end hV0.out ht hc0.out
            rw [List.length_reverse, hqH.out] at hm2
            rw [hm1] at hJ0
            have hJ1 := hJ0 (by rw [show ((⟨#[]⟩ : ByteArray).data.toList) = [] from rfl, hm2]; have := hdl.out; omega)
            rw [show ((⟨#[]⟩ : ByteArray).data.toList) = [] from rfl, hm2, List.length_map, mix_len, List.length_reverse, hqH.out] at hJ1
            have hJ := Lib.hid hJ1
            clear hJ0 hJ1 hm1 hm2 hH hV0 hc0
            go_wp2_with fail
            refine hJ.out.mono ?_
            rintro e w9 ⟨rfl, hb9⟩
            go_wp2
            go_ret
            exact ⟨rfl, hbw.trans (hb9.mono hbw.size)⟩
end Go.Proofs.YtbgihlfblmilmaaGreatDoor.Fr

/- A number as a string. -/
namespace Go.Proofs.YtbgihlfblmilmaaGreatDoor.Fr
open Go.RowKit Num

/-- a number as a string: numerator, and the denominator if it is not 1 -/
def txt (q : Rat) : List UInt8 := (if q.num < 0 then [45] else []) ++ Lib.decDigits q.num.natAbs ++ (if q.den = 1 then [] else 47 :: Lib.decDigits q.den)

theorem nv_lt {w : World} {A : Option Addr} {m c L : Nat} {us : List Nat} {x : Nat} (hD : Dg .u64 w A m c us) (hv : Hid (vl (bs .u64) us = x)) (hm : m ≤ L) : x < bs .u64 ^ (L + 1) := by
  have := vl_lt hD.ok
  rw [hv.out, hD.len] at this
  exact Nat.lt_of_lt_of_le this (Nat.pow_le_pow_right (by decide) (by omega))
set_option maxHeartbeats 3200000 in
set_option maxRecDepth 100000 in
theorem TextQ (v1 : Value) (q1 : Rat) (L : Nat) (w : World) (h1 : AF w v1 q1 L) (hL : L ≤ 49000) (hG : Gl w) :
    Calls Tryz.prog 63 #[v1] w fun e w' => e = .returned (.string ⟨(txt q1).toArray⟩) ∧ Below w.heap.size w w' := by
  obtain ⟨s1, A1, n1, c1, A2, n2, c2, rfl⟩ := h1.form
  have B1 := Blk.new w 24 #[.bool s1, .slice A1 n1 c1, .slice A2 n2 c2]
  have hw0 := (Below.refl w.heap.size w).alloc (Nat.le_refl _) (.cells #[.bool s1, .slice A1 n1 c1, .slice A2 n2 c2] 24)
  have h1 := h1.below hw0
  have hG := Lib.hid hG
  go_enter Tryz.func63, Tryz.ntmps63
  go_upto_region 1 with fail
  generalize w.alloc (.cells #[.bool s1, .slice A1 n1 c1, .slice A2 n2 c2] 24) = w1 at *
  have k0 : w1.cell? ⟨w.heap.size, 0, none⟩ = some (.bool s1) := B1.cell 0
  have k1 : w1.cell? ⟨w.heap.size, 1, none⟩ = some (.slice A1 n1 c1) := B1.cell 1
  have k2 : w1.cell? ⟨w.heap.size, 2, none⟩ = some (.slice A2 n2 c2) := B1.cell 2
  go_wp2_with fail
  refine (loadQ _ q1 L _ h1 (by omega)).mono ?_
  rintro r w2 ⟨_, rfl, hq2, hb2⟩
  obtain ⟨s2, A3, n3, c3, A4, n4, c4, rfl⟩ := hq2.form
  have hw2 := hw0.trans (hb2.mono hw0.size)
  go_wp2_with fail
  refine (reduceQ _ q1 _ _ hq2 (by omega)).mono ?_
  rintro r w4 ⟨_, rfl, hq4, hb4⟩
  have hw4 := hw2.trans (hb4.mono hw2.size)
  clear B1 h1 hq2 hb2 hw2 k0 k1 k2
  obtain ⟨_, _, rfl, ⟨A5, m5, c5, us5, rfl, hD5, hN5, hv5, hm5⟩, ⟨A6, m6, c6, us6, rfl, hD6, hN6, hv6, hm6⟩⟩ := hq4
  obtain ⟨s, hs⟩ : ∃ s, decide (q1.num < 0) = s := ⟨_, rfl⟩
  rw [hs]
  have hs := Lib.hid hs
  have hba := (Below.refl w4.heap.size w4).alloc (Nat.le_refl _) (.cells #[.bool s, .slice A5 m5 c5, .slice A6 m6 c6] 67)
  have E3 := Blk.new w4 67 #[.bool s, .slice A5 m5 c5, .slice A6 m6 c6]
  have hw5 := hw4.alloc hw4.size (.cells #[.bool s, .slice A5 m5 c5, .slice A6 m6 c6] 67)
  have hD5 := hD5.below hba
  have hD6 := hD6.below hba
  have r1 := E3.cell 1
  go_wp2_with fail
  generalize w4.heap.size = g1 at *
  generalize w4.alloc (.cells #[.bool s, .slice A5 m5 c5, .slice A6 m6 c6] 67) = wa at *
  refine (text_any A5 m5 c5 us5 wa hD5 hN5 _ hv5 (by omega) (hG.out.below hw5)).mono ?_
  rintro r w6 ⟨rfl, hb6⟩
  have E4 := E3.below hb6
  have hw6 := hw5.trans (hb6.mono hw5.size)
  have hD7 := hD6.below hb6
  have r0 := E4.cell 0
  have r2 := E4.cell 2
  obtain ⟨zn, hzn⟩ : ∃ z, Lib.decDigits q1.num.natAbs = z := ⟨_, rfl⟩
  have hzn := Lib.hid hzn
  rw [hzn.out]
  have hzb : zn.length ≤ 2000000 := by
    have h9 := nv_lt hD5 hv5 hm5
    have := dec_len_le h9
    rw [hzn.out] at this
    omega
  obtain ⟨zd, hzd⟩ : ∃ z, Lib.decDigits q1.den = z := ⟨_, rfl⟩
  have hdb : zd.length ≤ 2000000 := by
    have h9 := nv_lt hD6 hv6 hm6
    have := dec_len_le h9
    rw [hzd] at this
    omega
  have hzd := Lib.hid hzd
  clear r1 E3 hD5 hD6 hb6 hba
  have hfin := Lib.hid (show txt q1 = (if s then [45] else []) ++ zn ++ (if q1.den = 1 then [] else 47 :: zd) by unfold txt; rw [hzn.out, hzd.out, ← hs.out]; by_cases h9 : q1.num < 0 <;> simp [h9])
  by_cases hd1 : q1.den = 1
  · have hf := hfin.out
    rw [if_pos hd1, List.append_nil] at hf
    have hf := Lib.hid hf
    have hio := Lib.hid (decide_eq_true hd1)
    clear hd1
    cases s with
    | false =>
      go_wp2_with fail
      refine (isOne_any _ _ _ _ _ hD7 hN6 _ hv6 true hio.out).mono ?_
      rintro e w7 ⟨rfl, rfl⟩
      go_wp2
      go_ret
      exact ⟨ret_str (by rw [hf.out]; rfl), hw6⟩
    | true =>
      go_wp2_with fail
      refine (isOne_any _ _ _ _ _ hD7 hN6 _ hv6 true hio.out).mono ?_
      rintro e w7 ⟨rfl, rfl⟩
      go_wp2
      go_ret
      exact ⟨ret_str (by rw [hf.out]; rfl), hw6⟩
  · have hf := hfin.out
    rw [if_neg hd1] at hf
    have hf := Lib.hid hf
    have hio := Lib.hid (decide_eq_false hd1)
    clear hd1
    cases s with
    | false =>
      go_wp2_with fail
      refine (isOne_any _ _ _ _ _ hD7 hN6 _ hv6 false hio.out).mono ?_
      rintro e w7 ⟨rfl, rfl⟩
      go_wp2_with fail
      refine (text_any A6 m6 c6 us6 _ hD7 hN6 _ hv6 (by omega) (hG.out.below hw6)).mono ?_
      rintro r w8 ⟨rfl, hb8⟩
      rw [hzd.out]
      go_wp2
      go_ret
      exact ⟨ret_str (by rw [hf.out]; rfl), hw6.trans (hb8.mono hw6.size)⟩
    | true =>
      go_wp2_with fail
      refine (isOne_any _ _ _ _ _ hD7 hN6 _ hv6 false hio.out).mono ?_
      rintro e w7 ⟨rfl, rfl⟩
      go_wp2_with fail
      refine (text_any A6 m6 c6 us6 _ hD7 hN6 _ hv6 (by omega) (hG.out.below hw6)).mono ?_
      rintro r w8 ⟨rfl, hb8⟩
      rw [hzd.out]
      go_wp2
      go_ret
      exact ⟨ret_str (by rw [hf.out]; rfl), hw6.trans (hb8.mono hw6.size)⟩
end Go.Proofs.YtbgihlfblmilmaaGreatDoor.Fr
