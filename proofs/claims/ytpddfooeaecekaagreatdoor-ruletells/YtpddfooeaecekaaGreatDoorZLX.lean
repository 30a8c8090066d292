/-
  In a law of layer 9: the boxed sequent, the two tables. No condition.
-/
import Derived.Test.YtpddfooeaecekaaGreatDoorZH2
import Derived.Test.YtpddfooeaecekaaGreatDoorZG4
import Derived.Test.YtpddfooeaecekaaGreatDoorRG1
namespace Go.Proofs.YtpddfooeaecekaaGreatDoor
open Go.RowKit Go.Shelf Go.Maps
open Fm (Nd)
open Bt.Bs (Ok wd)
set_option linter.unusedSimpArgs false

structure LX (w w1 W : World) (b5 B M : Nat) (v : Value) (C : Nat) (u : Value) (t t2 : List Nd) (r : List Nat) (g : Int) : Prop where
  pr : Pair w1 W B M v C u t t2
  s : SeqAt W b5 r g
  b1 : Below w.heap.size w w1
theorem LX.bel {w w1 W : World} {b5 B M C : Nat} {v u : Value} {t t2 : List Nd} {r : List Nat} {g : Int} (h : LX w w1 W b5 B M v C u t t2 r g) : Below w.heap.size w W := h.b1.trans (h.pr.bel.mono h.b1.size)
theorem LX.later {w w1 W W' : World} {b5 B M C : Nat} {v u : Value} {t t2 : List Nd} {r : List Nat} {g : Int} (h : LX w w1 W b5 B M v C u t t2 r g) (hb : Below W.heap.size W W') : LX w w1 W' b5 B M v C u t t2 r g := ⟨h.pr.later hb, h.s.later hb h.s.lt, h.b1⟩
theorem LX.mk1 {w w1 W : World} {b5 B M C : Nat} {v u : Value} {t t2 : List Nd} {r : List Nat} {g : Int} (h : RS1 w w1 b5 r g) (hp : Pair w1 W B M v C u t t2) : LX w w1 W b5 B M v C u t t2 r g := ⟨hp, h.s.later hp.bel h.s.lt, h.bel⟩
end Go.Proofs.YtpddfooeaecekaaGreatDoor
