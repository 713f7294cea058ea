/- Vectors with differences, centered vectors: the law's walk. -/
import Derived.Test.YtoljffghaklpdaaDoorHY
namespace Go.Proofs.YtoljffghaklpdaaDoor
open Go.RowKit

theorem dif_code {vs : List (List Int)} (h : chk1 vs = 0) (hn : vs.length ≤ 10000) : difC vs = if vecsB (difL vs) = true then 0 else 2 := by
  unfold difC
  rw [if_pos h]
  have e : chk1 (difL vs) = if vecsB (difL vs) = true then 0 else 2 := by
    unfold chk1
    rw [if_neg (by unfold difL; rw [List.length_map, List.length_range]; omega)]
  rw [e]
  split <;> rfl
theorem cen_code {vs : List (List Int)} (h : chk1 vs = 0) (hn : vs.length ≤ 10000) : cenC vs = if vecsB (cenL vs) = true then 0 else 2 := by
  unfold cenC
  rw [if_pos h]
  have e : chk1 (cenL vs) = if vecsB (cenL vs) = true then 0 else 2 := by
    unfold chk1
    rw [if_neg (by unfold cenL; rw [List.length_map, List.length_range]; omega)]
  rw [e]
  split <;> rfl

set_option maxHeartbeats 6400000 in
set_option maxRecDepth 100000 in
theorem vectors_law (A : Option Addr) (n c : Nat) (vs : List (List Int)) (w : World) (h : Rr w A n c vs) (hT : Tab w) :
    Calls Tryd.prog 11 #[.slice A n c] w (YesF w) := by
  have hl := Lib.hid h.len
  have hcap := h.cap
  have htop := h.top
  have hF := Lib.hid (few_any A n c 40 vs w h (by decide))
  rcases chk1_cases vs with ⟨hc, hlen⟩ | ⟨hc, hlen, hv⟩ | ⟨hc, hlen, hv⟩
  · have hd := Lib.hid (show difC vs = 5 by unfold difC; rw [if_neg (by rw [hc]; decide), hc])
    have he := Lib.hid (show cenC vs = 5 by unfold cenC; rw [if_neg (by rw [hc]; decide), hc])
    have hw := RWrong_any A n c vs
    rw [hc] at hw
    have hw := Lib.hid hw
    clear hc
    go_enter Tryd.func11, Tryd.ntmps11
    go_wp2_with fail
    refine hF.out.mono ?_
    rintro e w1 ⟨⟨b, rfl⟩, hw1⟩
    rw [hw1]
    clear hw1
    cases b
    · go_wp2_with fail
      refine (known_any _ hT).mono ?_
      rintro e w99 ⟨rfl, hb99⟩
      go_wp2
      go_ret
      exact ⟨rfl, hb99⟩
    go_wp2_with fail
    refine (Differences_any A n c vs w h).mono ?_
    intro e w2 hh
    obtain ⟨rfl, hb2⟩ := (hh.resolve_left (fun q => by have := q.1; rw [hd.out] at this; cases this)).2
    rw [hd.out]
    clear hh
    have h2 := h.below hb2
    go_wp2_with fail
    refine (Center_any A n c vs w2 h2).mono ?_
    intro e w3 hh
    obtain ⟨rfl, hb23⟩ := (hh.resolve_left (fun q => by have := q.1; rw [he.out] at this; cases this)).2
    rw [he.out]
    clear hh
    have hb3 := hb2.trans (hb23.mono hb2.size)
    have h3 := h.below hb3
    go_wp2_with fail
    refine (hw.out w3 h3).mono ?_
    rintro e w4 ⟨rfl, r4, hw4⟩
    have hb4 : Below w.heap.size w w4 := by rw [hw4]; exact bel_drewN hb3 r4
    clear hw4
    have hT4 := hT.below hb4
    go_wp2_with fail
    refine (known_any _ hT4).mono ?_
    rintro e w99 ⟨rfl, hb99⟩
    go_wp2
    go_ret
    exact ⟨rfl, hb4.trans (hb99.mono hb4.size)⟩
  · have hd := Lib.hid (show difC vs = 2 by unfold difC; rw [if_neg (by rw [hc]; decide), hc])
    have he := Lib.hid (show cenC vs = 2 by unfold cenC; rw [if_neg (by rw [hc]; decide), hc])
    have hw := RWrong_any A n c vs
    rw [hc] at hw
    have hw := Lib.hid hw
    clear hc
    go_enter Tryd.func11, Tryd.ntmps11
    go_wp2_with fail
    refine hF.out.mono ?_
    rintro e w1 ⟨⟨b, rfl⟩, hw1⟩
    rw [hw1]
    clear hw1
    cases b
    · go_wp2_with fail
      refine (known_any _ hT).mono ?_
      rintro e w99 ⟨rfl, hb99⟩
      go_wp2
      go_ret
      exact ⟨rfl, hb99⟩
    go_wp2_with fail
    refine (Differences_any A n c vs w h).mono ?_
    intro e w2 hh
    obtain ⟨rfl, hb2⟩ := (hh.resolve_left (fun q => by have := q.1; rw [hd.out] at this; cases this)).2
    rw [hd.out]
    clear hh
    have h2 := h.below hb2
    go_wp2_with fail
    refine (Center_any A n c vs w2 h2).mono ?_
    intro e w3 hh
    obtain ⟨rfl, hb23⟩ := (hh.resolve_left (fun q => by have := q.1; rw [he.out] at this; cases this)).2
    rw [he.out]
    clear hh
    have hb3 := hb2.trans (hb23.mono hb2.size)
    have h3 := h.below hb3
    go_wp2_with fail
    refine (hw.out w3 h3).mono ?_
    rintro e w4 ⟨rfl, r4, hw4⟩
    have hb4 : Below w.heap.size w w4 := by rw [hw4]; exact bel_drewN hb3 r4
    clear hw4
    have hT4 := hT.below hb4
    go_wp2_with fail
    refine (known_any _ hT4).mono ?_
    rintro e w99 ⟨rfl, hb99⟩
    go_wp2
    go_ret
    exact ⟨rfl, hb4.trans (hb99.mono hb4.size)⟩
  · obtain ⟨k1, k2, k3⟩ := chk1_ok hc
    rw [hl.out] at k1 k3
    have hd := dif_code hc hlen
    have he := cen_code hc hlen
    have hw := RWrong_any A n c vs
    rw [hc] at hw
    have hw := Lib.hid hw
    clear hc hv hlen
    have hm64 : (vs.headD []).length ≤ 64 := by
      rcases Nat.eq_zero_or_pos n with e | e
      · have : vs = [] := List.eq_nil_of_length_eq_zero (by rw [hl.out]; exact e)
        rw [this]; decide
      · exact (k3 e).2
    have hRD := Lib.hid (fun w9 h9 => RDifferences_any A n c (vs.headD []).length vs w9 h9 k1 hm64 k2 (fun _ => rfl))
    have hRC := Lib.hid (fun w9 h9 => RCenter_any A n c (vs.headD []).length vs w9 h9 k1 hm64 k2 (fun _ => rfl))
    clear k2 k3
    have hdl := Lib.hid (show (difL vs).length = n by unfold difL; rw [List.length_map, List.length_range, hl.out])
    have hel := Lib.hid (show (cenL vs).length = n by unfold cenL; rw [List.length_map, List.length_range, hl.out])
    cases qD : vecsB (difL vs) with
    | false =>
      cases qC : vecsB (cenL vs) with
      | false =>
        have hVD := Lib.hid (fun A9 c9 w9 h9 => by have q := RVectors_any A9 n c9 (difL vs) w9 h9; rw [qD] at q; exact q)
        have hVC := Lib.hid (fun A9 c9 w9 h9 => by have q := RVectors_any A9 n c9 (cenL vs) w9 h9; rw [qC] at q; exact q)
        rw [qD] at hd
        rw [qC] at he
        try rw [if_pos rfl] at hd
        try rw [if_pos rfl] at he
        try rw [if_neg (by decide)] at hd
        try rw [if_neg (by decide)] at he
        have hd := Lib.hid hd
        have he := Lib.hid he
        clear qD qC
        go_enter Tryd.func11, Tryd.ntmps11
        go_wp2_with fail
        refine hF.out.mono ?_
        rintro e w1 ⟨⟨b, rfl⟩, hw1⟩
        rw [hw1]
        clear hw1
        cases b
        · go_wp2_with fail
          refine (known_any _ hT).mono ?_
          rintro e w99 ⟨rfl, hb99⟩
          go_wp2
          go_ret
          exact ⟨rfl, hb99⟩
        go_wp2_with fail
        refine (Differences_any A n c vs w h).mono ?_
        intro e w2 hh
        obtain ⟨rfl, hb2⟩ := (hh.resolve_left (fun q => by have := q.1; rw [hd.out] at this; cases this)).2
        rw [hd.out]
        clear hh
        have h2 := h.below hb2
        go_wp2_with fail
        refine (Center_any A n c vs w2 h2).mono ?_
        intro e w3 hh
        obtain ⟨rfl, hb23⟩ := (hh.resolve_left (fun q => by have := q.1; rw [he.out] at this; cases this)).2
        rw [he.out]
        clear hh
        have hb3 := hb2.trans (hb23.mono hb2.size)
        have h3 := h.below hb3
        go_wp2_with fail
        refine (hw.out w3 h3).mono ?_
        rintro e w4 ⟨rfl, r4, hw4⟩
        have hb34 : Below w3.heap.size w3 w4 := by rw [hw4]; exact bel_drewN (Below.refl _ _) r4
        have hb4 := hb3.trans (hb34.mono hb3.size)
        clear hw4
        have h4 := h.below hb4
        go_wp2_with fail
        refine (hRD.out w4 h4).mono ?_
        rintro e w5 ⟨A5, c5, rfl, hR5, hb45⟩
        have hb5 := hb4.trans (hb45.mono hb4.size)
        have h5 := h.below hb5
        go_wp2_with fail
        refine (hRC.out w5 h5).mono ?_
        rintro e w6 ⟨A6, c6, rfl, hR6, hb56⟩
        have hb6 := hb5.trans (hb56.mono hb5.size)
        have hR56 := hR5.below hb56
        go_wp2_with fail
        refine (hVD.out A5 c5 w6 hR56).mono ?_
        rintro e w7 ⟨rfl, r7, hw7⟩
        have hb67 : Below w6.heap.size w6 w7 := by rw [hw7]; exact bel_drewN (Below.refl _ _) r7
        have hb7 := hb6.trans (hb67.mono hb6.size)
        have hR67 := hR6.below hb67
        have hb36 := hb34.trans ((hb45.trans (hb56.mono hb45.size)).mono hb34.size)
        clear hw7
        have hb78 : Below w7.heap.size w7 w7 := Below.refl _ _
        have hb8 := hb7.trans (hb78.mono hb7.size)
        have hR68 := hR67.below hb78
        go_wp2_with fail
        refine (hVC.out A6 c6 w7 hR68).mono ?_
        rintro e w9 ⟨rfl, r9, hw9⟩
        have hb89 : Below w7.heap.size w7 w9 := by rw [hw9]; exact bel_drewN (Below.refl _ _) r9
        have hb9 := hb8.trans (hb89.mono hb8.size)
        clear hw9
        have hT9 := hT.below hb9
        go_wp2_with fail
        refine (known_any _ hT9).mono ?_
        rintro e w99 ⟨rfl, hb99⟩
        go_wp2
        go_ret
        exact ⟨rfl, hb9.trans (hb99.mono hb9.size)⟩
      | true =>
        have hVD := Lib.hid (fun A9 c9 w9 h9 => by have q := RVectors_any A9 n c9 (difL vs) w9 h9; rw [qD] at q; exact q)
        have hVC := Lib.hid (fun A9 c9 w9 h9 => by have q := RVectors_any A9 n c9 (cenL vs) w9 h9; rw [qC] at q; exact q)
        rw [qD] at hd
        rw [qC] at he
        try rw [if_pos rfl] at hd
        try rw [if_pos rfl] at he
        try rw [if_neg (by decide)] at hd
        try rw [if_neg (by decide)] at he
        have hd := Lib.hid hd
        have he := Lib.hid he
        clear qD qC
        go_enter Tryd.func11, Tryd.ntmps11
        go_wp2_with fail
        refine hF.out.mono ?_
        rintro e w1 ⟨⟨b, rfl⟩, hw1⟩
        rw [hw1]
        clear hw1
        cases b
        · go_wp2_with fail
          refine (known_any _ hT).mono ?_
          rintro e w99 ⟨rfl, hb99⟩
          go_wp2
          go_ret
          exact ⟨rfl, hb99⟩
        go_wp2_with fail
        refine (Differences_any A n c vs w h).mono ?_
        intro e w2 hh
        obtain ⟨rfl, hb2⟩ := (hh.resolve_left (fun q => by have := q.1; rw [hd.out] at this; cases this)).2
        rw [hd.out]
        clear hh
        have h2 := h.below hb2
        go_wp2_with fail
        refine (Center_any A n c vs w2 h2).mono ?_
        intro e w3 hh
        obtain ⟨A3, c3, rfl, hR3, hb23⟩ := (hh.resolve_right (fun q => q.1 he.out)).2
        clear hh
        have hb3 := hb2.trans (hb23.mono hb2.size)
        have h3 := h.below hb3
        go_wp2_with fail
        refine (hw.out w3 h3).mono ?_
        rintro e w4 ⟨rfl, r4, hw4⟩
        have hb34 : Below w3.heap.size w3 w4 := by rw [hw4]; exact bel_drewN (Below.refl _ _) r4
        have hb4 := hb3.trans (hb34.mono hb3.size)
        clear hw4
        have h4 := h.below hb4
        go_wp2_with fail
        refine (hRD.out w4 h4).mono ?_
        rintro e w5 ⟨A5, c5, rfl, hR5, hb45⟩
        have hb5 := hb4.trans (hb45.mono hb4.size)
        have h5 := h.below hb5
        go_wp2_with fail
        refine (hRC.out w5 h5).mono ?_
        rintro e w6 ⟨A6, c6, rfl, hR6, hb56⟩
        have hb6 := hb5.trans (hb56.mono hb5.size)
        have hR56 := hR5.below hb56
        go_wp2_with fail
        refine (hVD.out A5 c5 w6 hR56).mono ?_
        rintro e w7 ⟨rfl, r7, hw7⟩
        have hb67 : Below w6.heap.size w6 w7 := by rw [hw7]; exact bel_drewN (Below.refl _ _) r7
        have hb7 := hb6.trans (hb67.mono hb6.size)
        have hR67 := hR6.below hb67
        have hb36 := hb34.trans ((hb45.trans (hb56.mono hb45.size)).mono hb34.size)
        clear hw7
        have hb78 : Below w7.heap.size w7 w7 := Below.refl _ _
        have hb8 := hb7.trans (hb78.mono hb7.size)
        have hR68 := hR67.below hb78
        go_wp2_with fail
        refine (hVC.out A6 c6 w7 hR68).mono ?_
        rintro e w9 ⟨rfl, r9, hw9⟩
        have hb89 : Below w7.heap.size w7 w9 := by rw [hw9]; exact bel_drewN (Below.refl _ _) r9
        have hb9 := hb8.trans (hb89.mono hb8.size)
        clear hw9
        have hR39 := (((hR3.below hb36).below hb67).below hb78).below hb89
        have hR69 := hR68.below hb89
        go_wp2_with fail
        refine (SameL_eq _ _ _ _ _ _ _ _ _ hR39 hR69 rfl).mono ?_
        rintro e w10 ⟨rfl, r10, hw10⟩
        have hb10 : Below w.heap.size w w10 := by rw [hw10]; exact bel_drewN hb9 r10
        clear hw10
        have hT10 := hT.below hb10
        go_wp2_with fail
        refine (known_any _ hT10).mono ?_
        rintro e w99 ⟨rfl, hb99⟩
        go_wp2
        go_ret
        exact ⟨rfl, hb10.trans (hb99.mono hb10.size)⟩
    | true =>
      cases qC : vecsB (cenL vs) with
      | false =>
        have hVD := Lib.hid (fun A9 c9 w9 h9 => by have q := RVectors_any A9 n c9 (difL vs) w9 h9; rw [qD] at q; exact q)
        have hVC := Lib.hid (fun A9 c9 w9 h9 => by have q := RVectors_any A9 n c9 (cenL vs) w9 h9; rw [qC] at q; exact q)
        rw [qD] at hd
        rw [qC] at he
        try rw [if_pos rfl] at hd
        try rw [if_pos rfl] at he
        try rw [if_neg (by decide)] at hd
        try rw [if_neg (by decide)] at he
        have hd := Lib.hid hd
        have he := Lib.hid he
        clear qD qC
        go_enter Tryd.func11, Tryd.ntmps11
        go_wp2_with fail
        refine hF.out.mono ?_
        rintro e w1 ⟨⟨b, rfl⟩, hw1⟩
        rw [hw1]
        clear hw1
        cases b
        · go_wp2_with fail
          refine (known_any _ hT).mono ?_
          rintro e w99 ⟨rfl, hb99⟩
          go_wp2
          go_ret
          exact ⟨rfl, hb99⟩
        go_wp2_with fail
        refine (Differences_any A n c vs w h).mono ?_
        intro e w2 hh
        obtain ⟨A2, c2, rfl, hR2, hb2⟩ := (hh.resolve_right (fun q => q.1 hd.out)).2
        clear hh
        have h2 := h.below hb2
        go_wp2_with fail
        refine (Center_any A n c vs w2 h2).mono ?_
        intro e w3 hh
        obtain ⟨rfl, hb23⟩ := (hh.resolve_left (fun q => by have := q.1; rw [he.out] at this; cases this)).2
        rw [he.out]
        clear hh
        have hb3 := hb2.trans (hb23.mono hb2.size)
        have h3 := h.below hb3
        have hR23 := hR2.below hb23
        go_wp2_with fail
        refine (hw.out w3 h3).mono ?_
        rintro e w4 ⟨rfl, r4, hw4⟩
        have hb34 : Below w3.heap.size w3 w4 := by rw [hw4]; exact bel_drewN (Below.refl _ _) r4
        have hb4 := hb3.trans (hb34.mono hb3.size)
        clear hw4
        have h4 := h.below hb4
        go_wp2_with fail
        refine (hRD.out w4 h4).mono ?_
        rintro e w5 ⟨A5, c5, rfl, hR5, hb45⟩
        have hb5 := hb4.trans (hb45.mono hb4.size)
        have h5 := h.below hb5
        go_wp2_with fail
        refine (hRC.out w5 h5).mono ?_
        rintro e w6 ⟨A6, c6, rfl, hR6, hb56⟩
        have hb6 := hb5.trans (hb56.mono hb5.size)
        have hR56 := hR5.below hb56
        go_wp2_with fail
        refine (hVD.out A5 c5 w6 hR56).mono ?_
        rintro e w7 ⟨rfl, r7, hw7⟩
        have hb67 : Below w6.heap.size w6 w7 := by rw [hw7]; exact bel_drewN (Below.refl _ _) r7
        have hb7 := hb6.trans (hb67.mono hb6.size)
        have hR67 := hR6.below hb67
        have hb36 := hb34.trans ((hb45.trans (hb56.mono hb45.size)).mono hb34.size)
        clear hw7
        have hR27 := (hR23.below hb36).below hb67
        have hR57 := hR56.below hb67
        go_wp2_with fail
        refine (SameL_eq _ _ _ _ _ _ _ _ _ hR27 hR57 rfl).mono ?_
        rintro e w8 ⟨rfl, r8, hw8⟩
        have hb78 : Below w7.heap.size w7 w8 := by rw [hw8]; exact bel_drewN (Below.refl _ _) r8
        have hb8 := hb7.trans (hb78.mono hb7.size)
        have hR68 := hR67.below hb78
        clear hw8
        go_wp2_with fail
        refine (hVC.out A6 c6 w8 hR68).mono ?_
        rintro e w9 ⟨rfl, r9, hw9⟩
        have hb89 : Below w8.heap.size w8 w9 := by rw [hw9]; exact bel_drewN (Below.refl _ _) r9
        have hb9 := hb8.trans (hb89.mono hb8.size)
        clear hw9
        have hT9 := hT.below hb9
        go_wp2_with fail
        refine (known_any _ hT9).mono ?_
        rintro e w99 ⟨rfl, hb99⟩
        go_wp2
        go_ret
        exact ⟨rfl, hb9.trans (hb99.mono hb9.size)⟩
      | true =>
        have hVD := Lib.hid (fun A9 c9 w9 h9 => by have q := RVectors_any A9 n c9 (difL vs) w9 h9; rw [qD] at q; exact q)
        have hVC := Lib.hid (fun A9 c9 w9 h9 => by have q := RVectors_any A9 n c9 (cenL vs) w9 h9; rw [qC] at q; exact q)
        rw [qD] at hd
        rw [qC] at he
        try rw [if_pos rfl] at hd
        try rw [if_pos rfl] at he
        try rw [if_neg (by decide)] at hd
        try rw [if_neg (by decide)] at he
        have hd := Lib.hid hd
        have he := Lib.hid he
        clear qD qC
        go_enter Tryd.func11, Tryd.ntmps11
        go_wp2_with fail
        refine hF.out.mono ?_
        rintro e w1 ⟨⟨b, rfl⟩, hw1⟩
        rw [hw1]
        clear hw1
        cases b
        · go_wp2_with fail
          refine (known_any _ hT).mono ?_
          rintro e w99 ⟨rfl, hb99⟩
          go_wp2
          go_ret
          exact ⟨rfl, hb99⟩
        go_wp2_with fail
        refine (Differences_any A n c vs w h).mono ?_
        intro e w2 hh
        obtain ⟨A2, c2, rfl, hR2, hb2⟩ := (hh.resolve_right (fun q => q.1 hd.out)).2
        clear hh
        have h2 := h.below hb2
        go_wp2_with fail
        refine (Center_any A n c vs w2 h2).mono ?_
        intro e w3 hh
        obtain ⟨A3, c3, rfl, hR3, hb23⟩ := (hh.resolve_right (fun q => q.1 he.out)).2
        clear hh
        have hb3 := hb2.trans (hb23.mono hb2.size)
        have h3 := h.below hb3
        have hR23 := hR2.below hb23
        go_wp2_with fail
        refine (hw.out w3 h3).mono ?_
        rintro e w4 ⟨rfl, r4, hw4⟩
        have hb34 : Below w3.heap.size w3 w4 := by rw [hw4]; exact bel_drewN (Below.refl _ _) r4
        have hb4 := hb3.trans (hb34.mono hb3.size)
        clear hw4
        have h4 := h.below hb4
        go_wp2_with fail
        refine (hRD.out w4 h4).mono ?_
        rintro e w5 ⟨A5, c5, rfl, hR5, hb45⟩
        have hb5 := hb4.trans (hb45.mono hb4.size)
        have h5 := h.below hb5
        go_wp2_with fail
        refine (hRC.out w5 h5).mono ?_
        rintro e w6 ⟨A6, c6, rfl, hR6, hb56⟩
        have hb6 := hb5.trans (hb56.mono hb5.size)
        have hR56 := hR5.below hb56
        go_wp2_with fail
        refine (hVD.out A5 c5 w6 hR56).mono ?_
        rintro e w7 ⟨rfl, r7, hw7⟩
        have hb67 : Below w6.heap.size w6 w7 := by rw [hw7]; exact bel_drewN (Below.refl _ _) r7
        have hb7 := hb6.trans (hb67.mono hb6.size)
        have hR67 := hR6.below hb67
        have hb36 := hb34.trans ((hb45.trans (hb56.mono hb45.size)).mono hb34.size)
        clear hw7
        have hR27 := (hR23.below hb36).below hb67
        have hR57 := hR56.below hb67
        go_wp2_with fail
        refine (SameL_eq _ _ _ _ _ _ _ _ _ hR27 hR57 rfl).mono ?_
        rintro e w8 ⟨rfl, r8, hw8⟩
        have hb78 : Below w7.heap.size w7 w8 := by rw [hw8]; exact bel_drewN (Below.refl _ _) r8
        have hb8 := hb7.trans (hb78.mono hb7.size)
        have hR68 := hR67.below hb78
        clear hw8
        go_wp2_with fail
        refine (hVC.out A6 c6 w8 hR68).mono ?_
        rintro e w9 ⟨rfl, r9, hw9⟩
        have hb89 : Below w8.heap.size w8 w9 := by rw [hw9]; exact bel_drewN (Below.refl _ _) r9
        have hb9 := hb8.trans (hb89.mono hb8.size)
        clear hw9
        have hR39 := (((hR3.below hb36).below hb67).below hb78).below hb89
        have hR69 := hR68.below hb89
        go_wp2_with fail
        refine (SameL_eq _ _ _ _ _ _ _ _ _ hR39 hR69 rfl).mono ?_
        rintro e w10 ⟨rfl, r10, hw10⟩
        have hb10 : Below w.heap.size w w10 := by rw [hw10]; exact bel_drewN hb9 r10
        clear hw10
        have hT10 := hT.below hb10
        go_wp2_with fail
        refine (known_any _ hT10).mono ?_
        rintro e w99 ⟨rfl, hb99⟩
        go_wp2
        go_ret
        exact ⟨rfl, hb10.trans (hb99.mono hb10.size)⟩
end Go.Proofs.YtoljffghaklpdaaDoor
