import Derived.Test.YtkpbpecikibohaaGreatDoorBG2
import Derived.Lib.Builder
import Derived.Lib.AppendStr
import Derived.Lib.UnsafeStr
import Derived.Laws.Externs
import Derived.Lib.Walk
import Derived.Maps.AppendAt
import Derived.OwnWalk
import Derived.Test.YtkpbpecikibohaaGreatDoorBG3
import Derived.Test.YtkpbpecikibohaaGreatDoorBG1
import Derived.Laws.RangeAny
set_option linter.unusedSimpArgs false
namespace Go.Proofs.YtkpbpecikibohaaGreatDoor.Bt
open Go.RowKit
open Bs (Ok wd)
def PQ (w wr:World) (b:List Nat):Prop:=dK wr w.heap.size Bs.zero/\dK wr (w.heap.size+1) b/\Below w.heap.size w wr
theorem PQ.later {w wr w':World} {b:List Nat} (h:PQ w wr b) (hb:Below wr.heap.size wr w'):PQ w w' b:=⟨h.1.keep hb h.1.lt,h.2.1.keep hb h.2.1.lt,h.2.2.trans (hb.mono h.2.2.size)⟩
def nY (w:World) (v:Value) (l:List Int):Prop :=
 ∃ p c,v=.slice p l.length c/\l.length<=9223372036854775807/\∀ k (hk:k<l.length),∃ b o,p=some ⟨b,o,none⟩/\w.cell? ⟨b,o+k,none⟩=some (.int .i64 l[k])
theorem nY.later {w w':World} {v:Value} {l:List Int} (h:nY w v l) (hb:Below w.heap.size w w'):nY w' v l:=by
 obtain⟨p,c,hv,h1,h2⟩:=h
 refine⟨p,c,hv,h1,fun k hk => ?_⟩
 obtain⟨b,o,hp,hc⟩:=h2 k hk
 exact⟨b,o,hp,cell_later hb hc⟩
def HF (w:World) (h:List Nat) (wx:World) (g:Nat):Prop:=Below w.heap.size w wx/\dK wx g h
theorem HF.later {w wx w':World} {h:List Nat} {g:Nat} (q:HF w h wx g) (hb:Below wx.heap.size wx w'):HF w h w' g:=⟨q.1.trans (hb.mono q.1.size),q.2.keep hb q.2.lt⟩
end Go.Proofs.YtkpbpecikibohaaGreatDoor.Bt
