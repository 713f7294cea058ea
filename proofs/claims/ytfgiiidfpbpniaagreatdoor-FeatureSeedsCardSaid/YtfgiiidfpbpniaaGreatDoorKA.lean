/- The products of the table's rows: nearly orthogonal. -/
import Derived.Test.YtfgiiidfpbpniaaGreatDoorFD
namespace Go.Proofs.YtfgiiidfpbpniaaGreatDoor
open Go.RowKit

def dotA : Int → List Int → List Int → Int
  | acc, a :: xs, b :: ys => dotA (acc + a * b) xs ys
  | acc, _, _ => acc
def rowC (n i : Nat) : List Int := tab n fun k => cs ((2 * i + 1) * k * (64 / n))
def nearB (n i j : Nat) (g : Int) : Bool := decide (-(32768 * (n : Int)) ≤ 2 * g - 268435456 - (if i = j then (n : Int) * 268435456 else 0)) && decide (2 * g - 268435456 - (if i = j then (n : Int) * 268435456 else 0) ≤ 32768 * (n : Int))
def nearAll (n : Nat) : Bool := (List.range n).all fun i => (List.range (i + 1)).all fun j => nearB n i j (dotA 0 (rowC n i) (rowC n j))
theorem near1 : nearAll 1 = true := by decide +kernel
theorem near2 : nearAll 2 = true := by decide +kernel
theorem near4 : nearAll 4 = true := by decide +kernel
theorem near8 : nearAll 8 = true := by decide +kernel
theorem near16 : nearAll 16 = true := by decide +kernel
theorem near32 : nearAll 32 = true := by decide +kernel
theorem near64 : nearAll 64 = true := by decide +kernel
end Go.Proofs.YtfgiiidfpbpniaaGreatDoor
