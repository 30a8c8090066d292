/-
  Actions: what they are, where they lie, what they do to a table's rows. No condition.
-/
import Derived.Test.YtphoeedccknihaaLLike
namespace Go.Proofs.Ytphoeedccknihaa
open Go.RowKit Go.Maps
open Fm (Nd)

/-- An action. -/
structure Ac where
  k : Int
  s : ByteArray
  a : Int
  b : Int
  n : Nd
def goodA (x : Ac) : Prop := Fm.i64 x.k ∧ x.s.size ≤ 140737488351232 ∧ Fm.i64 x.a ∧ Fm.i64 x.b ∧ Fm.good x.n
def acC (x : Ac) : List Value := [.int .i64 x.k, .string x.s, .int .i64 x.a, .int .i64 x.b, .int .i64 x.n.k, .string x.n.s, .int .i64 x.n.l, .int .i64 x.n.r]
def acV (x : Ac) : Value := .agg #[.int .i64 x.k, .string x.s, .int .i64 x.a, .int .i64 x.b, .int .i64 x.n.k, .string x.n.s, .int .i64 x.n.l, .int .i64 x.n.r]
/-- One action that lies in block g from o on. -/
structure At8 (w : World) (g o : Nat) (x : Ac) : Prop where
  c0 : w.cell? ⟨g, o, none⟩ = some (.int .i64 x.k)
  c1 : w.cell? ⟨g, o + 1, none⟩ = some (.string x.s)
  c2 : w.cell? ⟨g, o + 2, none⟩ = some (.int .i64 x.a)
  c3 : w.cell? ⟨g, o + 3, none⟩ = some (.int .i64 x.b)
  c4 : w.cell? ⟨g, o + 4, none⟩ = some (.int .i64 x.n.k)
  c5 : w.cell? ⟨g, o + 5, none⟩ = some (.string x.n.s)
  c6 : w.cell? ⟨g, o + 6, none⟩ = some (.int .i64 x.n.l)
  c7 : w.cell? ⟨g, o + 7, none⟩ = some (.int .i64 x.n.r)
/-- A slice that holds these actions (read alone). -/
def IsA (w : World) (v : Value) (t : List Ac) : Prop :=
  ∃ p c, v = .slice p t.length c ∧ t.length ≤ c ∧ c ≤ 9223372036854775807 ∧ (0 < t.length → ∃ b o, p = some ⟨b, o, none⟩ ∧ ∀ k (hk : k < t.length), At8 w b (o + k * 8) t[k])
theorem At8.keep {w w' : World} {g o : Nat} {x : Ac} (h : At8 w g o x) (hb : Below w.heap.size w w') : At8 w' g o x := by
  have hlt : g < w.heap.size := World.block_lt_of_cell? w _ h.c0
  exact ⟨(hb.cell (p := ⟨g, _, none⟩) hlt).trans h.c0, (hb.cell (p := ⟨g, _, none⟩) hlt).trans h.c1, (hb.cell (p := ⟨g, _, none⟩) hlt).trans h.c2, (hb.cell (p := ⟨g, _, none⟩) hlt).trans h.c3, (hb.cell (p := ⟨g, _, none⟩) hlt).trans h.c4, (hb.cell (p := ⟨g, _, none⟩) hlt).trans h.c5, (hb.cell (p := ⟨g, _, none⟩) hlt).trans h.c6, (hb.cell (p := ⟨g, _, none⟩) hlt).trans h.c7⟩
/-- A variable that holds an action, at block g. -/
def A8 (w : World) (g : Nat) (x : Ac) : Prop := w.heap[g]? = some (.cells #[.int .i64 x.k, .string x.s, .int .i64 x.a, .int .i64 x.b, .int .i64 x.n.k, .string x.n.s, .int .i64 x.n.l, .int .i64 x.n.r] 36 (0, 0))
theorem A8.at {w : World} {g : Nat} {x : Ac} (h : A8 w g x) : At8 w g 0 x :=
  ⟨by rw [cell_of_row w g _ _ _ _ h]; rfl, by rw [cell_of_row w g _ _ _ _ h]; rfl, by rw [cell_of_row w g _ _ _ _ h]; rfl, by rw [cell_of_row w g _ _ _ _ h]; rfl, by rw [cell_of_row w g _ _ _ _ h]; rfl, by rw [cell_of_row w g _ _ _ _ h]; rfl, by rw [cell_of_row w g _ _ _ _ h]; rfl, by rw [cell_of_row w g _ _ _ _ h]; rfl⟩
/-- What an action leaves of a table's rows. -/
def actR (t : List Nd) (x : Ac) : List Nd :=
  if x.k = 0 then (Fm.put t (atomN x.s)).2.2
  else if x.k = 1 then (Fm.put t Fm.bot).2.2
  else if x.k = 2 then (Fm.put t (joinN 3 x.a x.b)).2.2
  else if x.k = 3 then (Fm.put t (joinN 4 x.a x.b)).2.2
  else if x.k = 4 then (Fm.put t (joinN 5 x.a x.b)).2.2
  else if x.k = 5 then (Fm.notp t x.a).2.2
  else if x.k = 6 then (Fm.put t x.n).2.2
  else if x.k = 8 then (cutR t x.a).2
  else t
end Go.Proofs.Ytphoeedccknihaa
