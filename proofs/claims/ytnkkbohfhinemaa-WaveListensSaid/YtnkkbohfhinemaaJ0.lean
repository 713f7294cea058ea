/- A listener that is fed in pieces: what the pieces are together. -/
import Derived.Test.YtnkkbohfhinemaaA1
import Derived.Test.YtnkkbohfhinemaaR4
import Derived.Test.YtnkkbohfhinemaaS1
import Derived.Test.YtnkkbohfhinemaaK3
import Derived.BigFrame
namespace Go.Proofs.Ytnkkbohfhinemaa
open Go.RowKit

/-- the first k rows, one after the other -/
def cat (X : Nat → List Int) : Nat → List Int
  | 0 => []
  | k + 1 => cat X k ++ X k
def sumL (L : Nat → Nat) : Nat → Nat
  | 0 => 0
  | k + 1 => sumL L k + L k
theorem cat_len {X : Nat → List Int} {L : Nat → Nat} : ∀ {n : Nat}, (∀ r, r < n → (X r).length = L r) → (cat X n).length = sumL L n
  | 0, _ => rfl
  | n + 1, h => by
    show (cat X n ++ X n).length = sumL L n + L n
    rw [List.length_append, cat_len (fun r hr => h r (by omega)), h n (by omega)]
theorem cat_ok {X : Nat → List Int} {lo hi : Int} : ∀ {n : Nat}, (∀ r, r < n → allB lo hi (X r) = true) → allB lo hi (cat X n) = true
  | 0, _ => rfl
  | n + 1, h => by
    show allB lo hi (cat X n ++ X n) = true
    have h1 := cat_ok (n := n) (fun r hr => h r (by omega))
    have h2 := h n (by omega)
    unfold allB at *
    rw [List.all_append, h1, h2]; rfl
theorem sumL_le {L : Nat → Nat} {k n : Nat} (h : k ≤ n) : sumL L k ≤ sumL L n := by
  induction n with
  | zero => have : k = 0 := by omega
            subst this; exact Nat.le_refl _
  | succ n ih =>
    rcases Nat.lt_or_ge k (n + 1) with h1 | h1
    · have := ih (by omega)
      show sumL L k ≤ sumL L n + L n
      omega
    · have : k = n + 1 := by omega
      subst this; exact Nat.le_refl _
theorem sumL_bd {L : Nat → Nat} {m : Nat} : ∀ {n : Nat}, (∀ r, r < n → L r ≤ m) → sumL L n ≤ n * m
  | 0, _ => Nat.zero_le _
  | n + 1, h => by
    have h1 := sumL_bd (n := n) (fun r hr => h r (by omega))
    have h2 := h n (by omega)
    show sumL L n + L n ≤ (n + 1) * m
    rw [Nat.add_mul]; omega

theorem own_ne {a : World} {base base' e e' s s' n n' : Nat} {v v' : Value} {xs xs' : List Value} (h : a.ownsRow base e s v n xs) (h' : a.ownsRow base' e' s' v' n' xs') (hne : e ≠ e') : ∀ k, v.ownBlock = some k → v'.ownBlock ≠ some k := by
  intro k hk hk'
  rcases h.2 with ⟨rfl, _⟩ | ⟨g, cap, cur, rfl, _, hg, _⟩
  · cases hk
  · rcases h'.2 with ⟨rfl, _⟩ | ⟨g', cap', cur', rfl, _, hg', _⟩
    · cases hk'
    · have e1 : g = k := by simpa [Value.ownBlock] using hk
      have e2 : g' = k := by simpa [Value.ownBlock] using hk'
      subst e1
      subst e2
      rw [hg] at hg'
      injection hg' with hg'
      injection hg' with _ ht
      exact hne ht
theorem own_beside {a b : World} {base e size n : Nat} {v : Value} {xs : List Value} {row : Option Nat} (h : a.ownsRow base e size v n xs) (hb : a.grownBy b row) (hr : ∀ k, v.ownBlock = some k → row ≠ some k) : b.ownsRow base e size v n xs := by
  refine h.kept hb ?_
  cases hv : v.ownBlock with
  | none => exact .inl rfl
  | some k => exact .inr (fun e => hr k hv e.symm)

section
variable {P : Program} {w : World} {o : Oper} {a : Act} {Q : Exit → Act → World → Prop}
theorem wpList_append_want {ops : Array Oper} {rest : List Oper} (hw : Region.wanted o (yielded ops a.tmps) = true) (s x : Operand) (t : TypeId)
    (ho : o.op = .call { callee := .builtin .append, args := #[s, x], argTypes := #[t, t] })
    (base : Nat) (e : TypeId) (i : TypeInfo) (z : Value) (size bytes : Nat) (ht : P.underlying t = some (.slice e)) (hi : P.info? e = some i) (hz : i.zero = some z)
    (hsize : i.size = size) (hby : i.bytes = bytes) (hzs : z.cells.size = size) (hsz : 0 < size)
    (v : Value) (n : Nat) (xs : List Value) (hs : a.eval s = v) (hown : w.ownsRow base e size v n xs)
    (A : Option Addr) (m c : Nat) (news : List Value) (hx : a.eval x = .slice A m c) (hS : Src w A m c news size)
    (h63 : n + m ≤ maxLen) (hbytes : (n + m) * bytes ≤ 140737488355328) (hbase : base ≤ w.heap.size)
    (h : ∀ v' w', w'.ownsRow base e size v' (n + m) (xs ++ news) → w.grownBy w' v.ownBlock → (v'.ownBlock = v.ownBlock ∨ v'.ownBlock = some w.heap.size) → wpList P ops Q rest (a.put o.dst v') w') : wpList P ops Q (o :: rest) a w :=
  Go.BigFrame.wpList_want hw fun _ hK => wp_append_any s x t ho base e i z size bytes ht hi hz hsize hby hzs hsz v n xs hs hown A m c news hx hS h63 hbytes hbase fun v' w' h2 h3 h5 => hK _ _ (h v' w' h2 h3 h5)
end

/-- behind k pieces: the list of all samples, the segments seen, the listener -/
structure LsR (w w3 : World) (g gr : Nat) (G : Gt) (xs : List Int) (N M : Nat) (V S : Value) (wr : World) : Prop where
  all : wr.ownsRow w3.heap.size 3 1 V N (ivs .i64 xs)
  seen : wr.ownsRow w3.heap.size 84 2 S M (sgv (segs G xs))
  lis : Lis wr g gr G xs
  gate : Blk wr w.heap.size 65 #[.int .i64 G.B, .int .i64 G.H, .int .i64 G.L, .int .i64 G.R, .int .i64 G.F, .int .i64 G.D, .int .i64 G.X]
  bel : Below w.heap.size w wr
  sz : w3.heap.size ≤ wr.heap.size
end Go.Proofs.Ytnkkbohfhinemaa
