import Derived.Test.YtkejippimkjjaaaGreatDoorBG2
import Derived.Lib.Builder
import Derived.Lib.AppendStr
import Derived.Lib.UnsafeStr
import Derived.Laws.Externs
import Derived.Lib.Walk
import Derived.Maps.AppendAt
import Derived.OwnWalk
import Derived.Test.YtkejippimkjjaaaGreatDoorBG3
import Derived.Test.YtkejippimkjjaaaGreatDoorBG1
import Derived.Laws.RangeAny
set_option linter.unusedSimpArgs false
namespace Go.Proofs.YtkejippimkjjaaaGreatDoor.Bt
open Go.RowKit
open Bs (Ok wd)
def PQ (w wr:World) (b:List Nat):Prop:=dw wr w.heap.size Bs.zero/\dw wr (w.heap.size+1) b/\Below w.heap.size w wr
theorem PQ.later {w wr w':World} {b:List Nat} (h:PQ w wr b) (hb:Below wr.heap.size wr w'):PQ w w' b:=⟨h.1.keep hb h.1.lt,h.2.1.keep hb h.2.1.lt,h.2.2.trans (hb.mono h.2.2.size)⟩
def jH (w:World) (v:Value) (l:List Int):Prop :=
 ∃ p c,v=.slice p l.length c/\l.length<=9223372036854775807/\∀ k (hk:k<l.length),∃ b o,p=some ⟨b,o,none⟩/\w.cell? ⟨b,o+k,none⟩=some (.int .i64 l[k])
theorem jH.later {w w':World} {v:Value} {l:List Int} (h:jH w v l) (hb:Below w.heap.size w w'):jH w' v l:=by
 obtain⟨p,c,hv,h1,h2⟩:=h
 refine⟨p,c,hv,h1,fun k hk => ?_⟩
 obtain⟨b,o,hp,hc⟩:=h2 k hk
 exact⟨b,o,hp,cell_later hb hc⟩
theorem nC {ops:Array Oper} {rest:List Oper} {o:Oper} {a:Act} {Q:Exit->Act->World->Prop} (w:World) (x:Operand) (hop:o.op=Op.load 25 x) (g:Nat) (hx:a.eval x=.pointer (some ⟨g,0,none⟩))
 {r:List Nat} (h:dw w g r) (hs:r.length=16) (hg:Region.wanted o (yielded ops a.tmps)=true) (hK:wpList Tryz.prog ops Q rest (a.put o.dst (.agg (aD r))) w):wpList Tryz.prog ops Q (o :: rest) a w:=kQ w hg x hop g hx h hs hK
def HF (w:World) (h:List Nat) (wx:World) (g:Nat):Prop:=Below w.heap.size w wx/\dw wx g h
theorem HF.later {w wx w':World} {h:List Nat} {g:Nat} (q:HF w h wx g) (hb:Below wx.heap.size wx w'):HF w h w' g:=⟨q.1.trans (hb.mono q.1.size),q.2.keep hb q.2.lt⟩
end Go.Proofs.YtkejippimkjjaaaGreatDoor.Bt
