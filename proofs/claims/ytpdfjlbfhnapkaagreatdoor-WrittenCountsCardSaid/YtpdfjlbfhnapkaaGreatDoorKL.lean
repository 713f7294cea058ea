/- Number. -/
import Derived.Test.YtpdfjlbfhnapkaaGreatDoorKI
namespace Go.Proofs.YtpdfjlbfhnapkaaGreatDoor
open Go.RowKit
set_option linter.unusedSimpArgs false
set_option linter.unusedVariables false
set_option maxRecDepth 100000

/-- the error of what is no number is there -/
def ErS (w : World) : Prop := ∃ te pe, w.cell? ⟨1, 0, none⟩ = some (.iface te pe)
theorem ErS.below {w w' : World} (h : ErS w) (hb : Below w.heap.size w w') : ErS w' := by
  obtain ⟨te, pe, hc⟩ := h
  exact ⟨te, pe, (hb.cell (World.block_lt_of_cell? _ _ hc)).trans hc⟩
theorem atoi_neg {x : Str} (h : AllD x) (hne : x ≠ []) : Lib.atoi (45 :: x) = some (-(valD x : Int)) := by
  cases x with
  | nil => exact absurd rfl hne
  | cons b r =>
    show Option.map _ (Lib.decNat (b :: r)) = _
    unfold Lib.decNat
    rw [decFrom_val _ h]
    rfl
set_option maxHeartbeats 8000000 in
theorem Number_bad (s : Str) (hs : s.length ≤ 2000) (w : World) (hT : WT w) (hE : ErS w) (hz : asF wNum (spl s) = []) :
    Calls Tryz.prog 29 #[.string ⟨s.toArray⟩] w fun e w' => e = .returned (.tuple #[.int .i64 0, .int .i64 4]) ∧ Below w.heap.size w w' := by
  have hln := Lib.hid (length_any s w)
  have h1 : lenC s = 0 := if_pos (by omega)
  rw [h1] at hln
  have hsp := Lib.hid (split_any s (by omega) w hT)
  have hsh := spl_shw (s := s) (by omega)
  generalize hn : (spl s).length = n at *
  have hwr := Lib.hid (fun (w9 : World) (hT9 : WT w9) (h9 : Ss w9 (some ⟨w.heap.size, 0, none⟩) n n (spl s)) (hs9 : w.heap.size < w9.heap.size) => as_number (some ⟨w.heap.size, 0, none⟩) n n (spl s) w9 h9 (fun ad e => by injection e with e; subst e; exact hs9) hT9 hsh)
  rw [hz] at hwr
  have hat := Lib.hid (fun (w9 : World) (ev : Value) (hv : w9.cell? ⟨1, 0, none⟩ = some ev) (hev : ev = .nilIface ∨ ∃ te pe, ev = .iface te pe) => Tryz.strconv_Atoi_syntax ⟨#[]⟩ (by decide) (by decide) ev w9 hv hev)
  clear h1 hn hsh hz
  go_enter Tryz.func29, Tryz.ntmps29
  go_wp2_with fail
  refine hln.out.mono ?_
  rintro e w' ⟨rfl, rfl⟩
  go_wp2_with fail
  refine hsp.out.mono ?_
  rintro e w2 ⟨rfl, hS2, hb2, hz2⟩
  go_wp2_with fail
  refine (hwr.out _ (hT.below hb2) hS2 (by omega)).mono ?_
  rintro e w4 ⟨rfl, hb4⟩
  have hb5 := hb2.trans (hb4.mono hb2.size)
  go_wp2_with fail
  obtain ⟨te, pe, hc⟩ := hE.below hb5
  refine (hat.out _ _ hc (Or.inr ⟨te, pe, rfl⟩)).mono ?_
  rintro e w5 ⟨N, rfl, _, _, hb6⟩
  go_wp2
  go_ret2
  exact ⟨rfl, hb5.trans (hb6.mono hb5.size)⟩
set_option maxHeartbeats 8000000 in
theorem Number_good (s : Str) (hs : s.length ≤ 2000) (w : World) (hT : WT w) {y : Str} (hz : asF wNum (spl s) = y) {v : Int} (hy : y.length ≤ 18) (ha : Lib.atoi y = some v) :
    Calls Tryz.prog 29 #[.string ⟨s.toArray⟩] w fun e w' => e = .returned (.tuple #[.int .i64 v, .int .i64 0]) ∧ Below w.heap.size w w' := by
  have hln := Lib.hid (length_any s w)
  have h1 : lenC s = 0 := if_pos (by omega)
  rw [h1] at hln
  have hsp := Lib.hid (split_any s (by omega) w hT)
  have hsh := spl_shw (s := s) (by omega)
  generalize hn : (spl s).length = n at *
  have hwr := Lib.hid (fun (w9 : World) (hT9 : WT w9) (h9 : Ss w9 (some ⟨w.heap.size, 0, none⟩) n n (spl s)) (hs9 : w.heap.size < w9.heap.size) => as_number (some ⟨w.heap.size, 0, none⟩) n n (spl s) w9 h9 (fun ad e => by injection e with e; subst e; exact hs9) hT9 hsh)
  rw [hz] at hwr
  have hsz : (⟨y.toArray⟩ : ByteArray).size = y.length := by show y.toArray.size = _; simp
  have hat := Lib.hid (fun (w9 : World) => Tryz.strconv_Atoi ⟨y.toArray⟩ v (by rw [hsz]; exact hy) ha w9)
  clear h1 hn hsh hz hsz
  go_enter Tryz.func29, Tryz.ntmps29
  go_wp2_with fail
  refine hln.out.mono ?_
  rintro e w' ⟨rfl, rfl⟩
  go_wp2_with fail
  refine hsp.out.mono ?_
  rintro e w2 ⟨rfl, hS2, hb2, hz2⟩
  go_wp2_with fail
  refine (hwr.out _ (hT.below hb2) hS2 (by omega)).mono ?_
  rintro e w4 ⟨rfl, hb4⟩
  have hb5 := hb2.trans (hb4.mono hb2.size)
  go_wp2_with fail
  refine (hat.out _).mono ?_
  rintro e w5 ⟨rfl, tt, rfl⟩
  have hb6 := Lib.bytesWorld_below w4 5 tt
  go_wp2
  go_ret2
  exact ⟨rfl, hb5.trans (hb6.mono hb5.size)⟩
end Go.Proofs.YtpdfjlbfhnapkaaGreatDoor
