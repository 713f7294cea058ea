/- The listener as a machine on lists: no word here of a program. -/
namespace Go.Proofs.Ytobobbhifajhmaa

/-- a gate -/
structure Gt where
  B : Nat
  H : Int
  L : Int
  R : Int
  F : Int
  D : Int
  X : Int
structure Gt.Ok (G : Gt) : Prop where
  b1 : 1 ≤ G.B
  b2 : G.B ≤ 4096
  h1 : 0 ≤ G.H
  h2 : G.H ≤ 1073741824
  l1 : 0 ≤ G.L
  l2 : G.L ≤ G.H
  r1 : 1 ≤ G.R
  r2 : G.R ≤ 1000
  f1 : 1 ≤ G.F
  f2 : G.F ≤ 1000
  d1 : 0 ≤ G.D
  d2 : G.D ≤ 1000
  x1 : G.R + G.F + G.D ≤ G.X
  x2 : G.X ≤ 100000

/-- the state: in speech, the run, the first block of the segment, the first block behind the segment before -/
structure Ms where
  sp : Bool
  run : Int
  first : Int
  last : Int
def Ms.start : Ms := ⟨false, 0, 0, 0⟩
def Ms.st (m : Ms) : Int := if m.sp then 2 else 1

/-- a block b while waiting -/
def awt (G : Gt) (b : Int) (loud : Bool) (m : Ms) : Ms :=
  if loud then (if m.run + 1 = G.R then ⟨true, 0, max (b - G.R + 1 - G.D) m.last, m.last⟩ else ⟨m.sp, m.run + 1, m.first, m.last⟩) else ⟨m.sp, 0, m.first, m.last⟩
/-- the run behind a block in speech -/
def frun (quiet : Bool) (m : Ms) : Int := if quiet then m.run + 1 else 0
/-- where the segment ends with block b, -1 if it does not -/
def fend (G : Gt) (b : Int) (quiet : Bool) (m : Ms) : Int :=
  if frun quiet m = G.F then b - G.F + 1 else if b + 1 - m.first = G.X then b + 1 else -1
/-- block b with the energy E -/
def hearM (G : Gt) (b E : Int) (m : Ms) : Ms :=
  if m.sp then (if fend G b (decide (E < G.L * G.B)) m = -1 then ⟨true, frun (decide (E < G.L * G.B)) m, m.first, m.last⟩ else ⟨false, 0, m.first, fend G b (decide (E < G.L * G.B)) m⟩)
  else awt G b (decide (G.H * G.B ≤ E)) m
def hearS (G : Gt) (b E : Int) (m : Ms) : List (Int × Int) :=
  if m.sp then (if fend G b (decide (E < G.L * G.B)) m = -1 then [] else [(m.first * G.B, fend G b (decide (E < G.L * G.B)) m * G.B)]) else []

/-- the sum of the squares -/
def eng (xs : List Int) : Int := (xs.map fun x => x * x).sum
theorem eng_nil : eng [] = 0 := rfl
theorem eng_snoc (xs : List Int) (x : Int) : eng (xs ++ [x]) = eng xs + x * x := by simp [eng]

/-- block b of a list -/
def blk (G : Gt) (xs : List Int) (b : Nat) : List Int := (xs.drop (b * G.B)).take G.B
/-- the state behind b blocks -/
def runM (G : Gt) (xs : List Int) : Nat → Ms
  | 0 => Ms.start
  | b + 1 => hearM G b (eng (blk G xs b)) (runM G xs b)
/-- the segments that have ended behind b blocks -/
def runS (G : Gt) (xs : List Int) : Nat → List (Int × Int)
  | 0 => []
  | b + 1 => runS G xs b ++ hearS G b (eng (blk G xs b)) (runM G xs b)

theorem blk_app {G : Gt} {xs ys : List Int} {b : Nat} (h : (b + 1) * G.B ≤ xs.length) : blk G (xs ++ ys) b = blk G xs b := by
  unfold blk
  rw [Nat.add_mul, Nat.one_mul] at h
  rw [List.drop_append_of_le_length (by omega), List.take_append_of_le_length (by rw [List.length_drop]; omega)]
theorem runM_app {G : Gt} {xs ys : List Int} : ∀ b : Nat, b * G.B ≤ xs.length → runM G (xs ++ ys) b = runM G xs b
  | 0, _ => rfl
  | b + 1, h => by
    have h2 := h
    rw [Nat.add_mul, Nat.one_mul] at h2
    show hearM G b (eng (blk G (xs ++ ys) b)) (runM G (xs ++ ys) b) = hearM G b (eng (blk G xs b)) (runM G xs b)
    rw [blk_app h, runM_app b (by omega)]
theorem runS_app {G : Gt} {xs ys : List Int} : ∀ b : Nat, b * G.B ≤ xs.length → runS G (xs ++ ys) b = runS G xs b
  | 0, _ => rfl
  | b + 1, h => by
    have h2 := h
    rw [Nat.add_mul, Nat.one_mul] at h2
    show runS G (xs ++ ys) b ++ hearS G b (eng (blk G (xs ++ ys) b)) (runM G (xs ++ ys) b) = runS G xs b ++ hearS G b (eng (blk G xs b)) (runM G xs b)
    rw [blk_app h, runM_app b (by omega), runS_app b (by omega)]

/-- numbers of a state stay below the number of blocks -/
structure Ms.Bd (m : Ms) (b : Int) : Prop where
  r1 : 0 ≤ m.run
  r2 : m.run ≤ b
  f1 : 0 ≤ m.first
  f2 : m.first ≤ b
  l1 : 0 ≤ m.last
  l2 : m.last ≤ b
theorem Ms.Bd.start : Ms.start.Bd 0 := ⟨by decide, by decide, by decide, by decide, by decide, by decide⟩
theorem awt_bd {G : Gt} (hG : G.Ok) {m : Ms} {b : Int} {l : Bool} (h : m.Bd b) : (awt G b l m).Bd (b + 1) := by
  obtain ⟨h1, h2, h3, h4, h5, h6⟩ := h
  have := hG.r1
  have := hG.d1
  unfold awt
  split
  · split
    · exact ⟨by dsimp only; omega, by dsimp only; omega, by dsimp only; omega, by dsimp only; omega, by dsimp only; omega, by dsimp only; omega⟩
    · exact ⟨by dsimp only; omega, by dsimp only; omega, by dsimp only; omega, by dsimp only; omega, by dsimp only; omega, by dsimp only; omega⟩
  · exact ⟨by dsimp only; omega, by dsimp only; omega, by dsimp only; omega, by dsimp only; omega, by dsimp only; omega, by dsimp only; omega⟩
theorem frun_bd {m : Ms} {b : Int} {q : Bool} (h : m.Bd b) : 0 ≤ frun q m ∧ frun q m ≤ b + 1 := by
  obtain ⟨h1, h2, h3, h4, h5, h6⟩ := h
  unfold frun
  split <;> omega
/-- the end of a segment is none, or from 0 to b + 1 -/
theorem fend_bd {G : Gt} (hG : G.Ok) {m : Ms} {b : Int} {q : Bool} (h : m.Bd b) : fend G b q m = -1 ∨ (0 ≤ fend G b q m ∧ fend G b q m ≤ b + 1) := by
  have h7 := frun_bd (q := q) h
  obtain ⟨h1, h2, h3, h4, h5, h6⟩ := h
  have := hG.f1
  unfold fend
  split
  · omega
  · split <;> omega
theorem hearM_bd {G : Gt} (hG : G.Ok) {m : Ms} {b E : Int} (h : m.Bd b) : (hearM G b E m).Bd (b + 1) := by
  have h7 := fun q => frun_bd (q := q) h
  have h8 := fun q => fend_bd (q := q) hG h
  obtain ⟨h1, h2, h3, h4, h5, h6⟩ := h
  unfold hearM
  split
  · split
    · have := h7 (decide (E < G.L * G.B))
      exact ⟨by dsimp only; omega, by dsimp only; omega, by dsimp only; omega, by dsimp only; omega, by dsimp only; omega, by dsimp only; omega⟩
    · have := h8 (decide (E < G.L * G.B))
      exact ⟨by dsimp only; omega, by dsimp only; omega, by dsimp only; omega, by dsimp only; omega, by dsimp only; omega, by dsimp only; omega⟩
  · exact awt_bd hG ⟨h1, h2, h3, h4, h5, h6⟩
theorem runM_bd {G : Gt} (hG : G.Ok) (xs : List Int) : ∀ b : Nat, (runM G xs b).Bd (b : Int)
  | 0 => Ms.Bd.start
  | b + 1 => by
    have := hearM_bd (E := eng (blk G xs b)) hG (runM_bd hG xs b)
    rw [Int.natCast_succ]
    exact this

/-- ys put into xs from place o on -/
def spl (xs : List Int) (o : Nat) (ys : List Int) : List Int := xs.take o ++ ys ++ xs.drop (o + ys.length)
theorem spl_len {xs : List Int} {o : Nat} {ys : List Int} (h : o + ys.length ≤ xs.length) : (spl xs o ys).length = xs.length := by
  unfold spl
  simp
  omega
/-- what was filled in from o on, and the new elements behind it -/
theorem spl_part {xs ys : List Int} {o p : Nat} (h : o + p + ys.length ≤ xs.length) : ((spl xs (o + p) ys).drop o).take (p + ys.length) = (xs.drop o).take p ++ ys := by
  unfold spl
  rw [List.append_assoc, List.drop_append_of_le_length (by simp; omega), List.drop_take, show o + p - o = p by omega]
  have hl : (List.take p (List.drop o xs)).length = p := by simp; omega
  rw [List.take_append, List.take_of_length_le (by omega), hl, show p + ys.length - p = ys.length by omega, List.take_append_of_le_length (Nat.le_refl _), List.take_of_length_le (Nat.le_refl _)]

/-- the segments of a list; with what has not ended when the listener is closed -/
def segs (G : Gt) (xs : List Int) : List (Int × Int) := runS G xs (xs.length / G.B)
def endM (G : Gt) (xs : List Int) : Ms := runM G xs (xs.length / G.B)
def lastS (G : Gt) (xs : List Int) : List (Int × Int) := if (endM G xs).sp then [((endM G xs).first * G.B, (xs.length : Int))] else []

/-- one block has just become complete -/
theorem seg_step {G : Gt} (hG : G.Ok) {xs ys : List Int} {b : Nat} (hb : b = xs.length / G.B) (h : xs.length + ys.length = (b + 1) * G.B) :
    endM G (xs ++ ys) = hearM G b (eng (blk G (xs ++ ys) b)) (endM G xs) ∧ segs G (xs ++ ys) = segs G xs ++ hearS G b (eng (blk G (xs ++ ys) b)) (endM G xs) := by
  have hB := hG.b1
  have h1 : b * G.B ≤ xs.length := by rw [hb]; exact Nat.div_mul_le_self _ _
  have h2 : (xs ++ ys).length / G.B = b + 1 := by
    rw [List.length_append, h]; exact Nat.mul_div_cancel _ (by omega)
  constructor
  · show runM G (xs ++ ys) ((xs ++ ys).length / G.B) = hearM G b (eng (blk G (xs ++ ys) b)) (runM G xs (xs.length / G.B))
    rw [h2, ← hb, ← runM_app (ys := ys) b h1]; rfl
  · show runS G (xs ++ ys) ((xs ++ ys).length / G.B) = runS G xs (xs.length / G.B) ++ hearS G b (eng (blk G (xs ++ ys) b)) (runM G xs (xs.length / G.B))
    rw [h2, ← hb, ← runM_app (ys := ys) b h1, ← runS_app (ys := ys) b h1]; rfl
/-- no block has become complete -/
theorem seg_same {G : Gt} {xs ys : List Int} (h : (xs.length + ys.length) / G.B = xs.length / G.B) : endM G (xs ++ ys) = endM G xs ∧ segs G (xs ++ ys) = segs G xs := by
  have h1 : xs.length / G.B * G.B ≤ xs.length := Nat.div_mul_le_self _ _
  constructor
  · show runM G (xs ++ ys) ((xs ++ ys).length / G.B) = _
    rw [List.length_append, h, runM_app _ h1]; rfl
  · show runS G (xs ++ ys) ((xs ++ ys).length / G.B) = _
    rw [List.length_append, h, runS_app _ h1]; rfl
end Go.Proofs.Ytobobbhifajhmaa
