/-
  Parse: for every text. No condition.
-/
import Derived.Test.YtpddfooeaecekaaDoorBG2
import Derived.Lib.Builder
import Derived.Lib.AppendStr
import Derived.Lib.UnsafeStr
import Derived.Laws.Externs
import Derived.Lib.Walk
import Derived.Maps.AppendAt
import Derived.OwnWalk
import Derived.Test.YtpddfooeaecekaaDoorBG3
import Derived.Test.YtpddfooeaecekaaDoorBG1
import Derived.Laws.RangeAny
namespace Go.Proofs.YtpddfooeaecekaaDoor.Bt
open Go.RowKit
open Bs (Ok wd)

def PQ (w wr : World) (b : List Nat) : Prop := RowAt wr w.heap.size Bs.zero ∧ RowAt wr (w.heap.size + 1) b ∧ Below w.heap.size w wr
theorem PQ.later {w wr w' : World} {b : List Nat} (h : PQ w wr b) (hb : Below wr.heap.size wr w') : PQ w w' b := ⟨h.1.keep hb h.1.lt, h.2.1.keep hb h.2.1.lt, h.2.2.trans (hb.mono h.2.2.size)⟩
end Go.Proofs.YtpddfooeaecekaaDoor.Bt
/-
  Of: for every list of numbers. No condition.
-/
namespace Go.Proofs.YtpddfooeaecekaaDoor.Bt
open Go.RowKit
open Bs (Ok wd)

def IsL (w : World) (v : Value) (l : List Int) : Prop :=
  ∃ p c, v = .slice p l.length c ∧ l.length ≤ 9223372036854775807 ∧ ∀ k (hk : k < l.length), ∃ b o, p = some ⟨b, o, none⟩ ∧ w.cell? ⟨b, o + k, none⟩ = some (.int .i64 l[k])
theorem IsL.later {w w' : World} {v : Value} {l : List Int} (h : IsL w v l) (hb : Below w.heap.size w w') : IsL w' v l := by
  obtain ⟨p, c, hv, h1, h2⟩ := h
  refine ⟨p, c, hv, h1, fun k hk => ?_⟩
  obtain ⟨b, o, hp, hc⟩ := h2 k hk
  exact ⟨b, o, hp, cell_later hb hc⟩
def ofR : List Int → List Nat → List Nat × Int
  | [], b => (b, 0)
  | n :: l, b => if 0 ≤ n ∧ n < 1024 then ofR l (Bs.put b n.toNat) else (Bs.zero, 50)
theorem ofR_step (l : List Int) (k : Nat) (hk : k < l.length) (b : List Nat) : ofR (l.drop k) b = if 0 ≤ l[k] ∧ l[k] < 1024 then ofR (l.drop (k + 1)) (Bs.put b (l[k]).toNat) else (Bs.zero, 50) := by
  rw [List.drop_eq_getElem_cons hk, ofR]
end Go.Proofs.YtpddfooeaecekaaDoor.Bt
/-
  heads: what must come at any rate comes. The tables stand.
-/
namespace Go.Proofs.YtpddfooeaecekaaDoor.Bt
open Go.RowKit
open Bs (Ok wd)

theorem wpList_store_new {ops : Array Oper} {rest : List Oper} {o : Oper} {a : Act} {Q : Exit → Act → World → Prop} (w : World) (z : Array Value) (hz : z = cellsB Bs.zero) (hg : o.guard = none) (hd : o.dst = none) (x y : Operand) (hop : o.op = Op.store 25 x y) (hx : a.eval x = .pointer (some ⟨w.heap.size, 0, none⟩))
    {r' : List Nat} (hy : a.eval y = .agg (cellsB r')) (hs' : r'.length = 16) (hK : wpList Tryd.prog ops Q rest a (w.alloc (.cells (cellsB r') 25))) : wpList Tryd.prog ops Q (o :: rest) a (w.alloc (.cells z 25)) := by
  subst hz
  refine wpList_store16 _ hg hd x y hop w.heap.size hx hy (r := Bs.zero) (heap_alloc_last w _) Bs.zero_ok.1 hs' ?_
  rw [World.setRow_alloc_new]
  exact hK
theorem wpList_ld {ops : Array Oper} {rest : List Oper} {o : Oper} {a : Act} {Q : Exit → Act → World → Prop} (w : World) (x : Operand) (hop : o.op = Op.load 25 x) (g : Nat) (hx : a.eval x = .pointer (some ⟨g, 0, none⟩))
    {r : List Nat} (h : RowAt w g r) (hs : r.length = 16) (hg : Region.wanted o (yielded ops a.tmps) = true) (hK : wpList Tryd.prog ops Q rest (a.put o.dst (.agg (cellsB r))) w) : wpList Tryd.prog ops Q (o :: rest) a w := wpList_load16 w hg x hop g hx h hs hK
theorem wpList_st {ops : Array Oper} {rest : List Oper} {o : Oper} {a : Act} {Q : Exit → Act → World → Prop} (w : World) (z : Array Value) (x y : Operand) (hop : o.op = Op.store 25 x y) (hz : z = cellsB Bs.zero) (hg : o.guard = none) (hd : o.dst = none) (hx : a.eval x = .pointer (some ⟨w.heap.size, 0, none⟩))
    {r' : List Nat} (hy : a.eval y = .agg (cellsB r')) (hs' : r'.length = 16) (hK : wpList Tryd.prog ops Q rest a (w.alloc (.cells (cellsB r') 25))) : wpList Tryd.prog ops Q (o :: rest) a (w.alloc (.cells z 25)) := wpList_store_new w z hz hg hd x y hop hx hy hs' hK
def HF (w : World) (h : List Nat) (wx : World) (g : Nat) : Prop := Below w.heap.size w wx ∧ RowAt wx g h
theorem HF.later {w wx w' : World} {h : List Nat} {g : Nat} (q : HF w h wx g) (hb : Below wx.heap.size wx w') : HF w h w' g := ⟨q.1.trans (hb.mono q.1.size), q.2.keep hb q.2.lt⟩
end Go.Proofs.YtpddfooeaecekaaDoor.Bt
