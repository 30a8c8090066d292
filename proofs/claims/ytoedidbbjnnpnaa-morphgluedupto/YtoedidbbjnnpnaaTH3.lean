/-
  How arguments are opened: a model with all its bounds; rows of numbers, of texts. No condition.
-/
import Derived.Test.YtoedidbbjnnpnaaChecked
import Derived.Test.YtoedidbbjnnpnaaTH2
import Derived.Lib.LaidIn
import Derived.Lib.LaidU8
import Derived.LaidHandle
import Derived.Deep.DeepHandedRow
import Derived.Deep.DeepWitnessRowRef
import Derived.Deep.Slices
import Derived.ProofKit
import Derived.OpenShut
import Derived.SizedLaws
import Derived.Test.YtoedidbbjnnpnaaQRPutP
import Derived.Carry
import Derived.Test.YtoedidbbjnnpnaaRows
import Derived.Test.YtoedidbbjnnpnaaTH21
namespace Go.Proofs.Ytoedidbbjnnpnaa.Wm
open Go.ChangeShapes Go.WideShapes Go.ChangeAt Go.RowKit
open Wd (Md)
set_option linter.unusedSimpArgs false
theorem ownW:ownKnob Try.prog.godebug=none:=by kernel_rfl
theorem laidOutW:laidOutB Try.prog=true:=by kernel_rfl
theorem sized_all {H:Type} {ts:List TypeId} {ds:List (DataW H)} (h:(DataW.weightsEach Try.prog ts ds).all (·≤ reachBytes)=true) {j:Nat} {t:TypeId} {d:DataW H} (ht:ts[j]?=some t) (hd:ds[j]?=some d) :
 ∀ n ∈ d.weights Try.prog t,n≤140737488351232:=fun n hn=>by
 have h1:=List.all_eq_true.1 h _ (DataW.weights_mem_each ht hd n hn)
 have h2:n≤reachBytes:=by simpa using h1
 unfold reachBytes at h2
 omega
theorem weights_all {H:Type} {t:TypeId} {d:DataW H} {l:List (DataW H)} (h:d ∈ l):∀ n ∈ d.weights Try.prog t,n ∈ DataW.weightsAll Try.prog t l:=by
 induction l with
 | nil=>cases h
 | cons x r ih =>
  intro n hn
  rw [DataW.weightsAll]
  rcases List.mem_cons.1 h with rfl | h
  ·exact List.mem_append_left _ hn
  ·exact List.mem_append_right _ (ih h n hn)
def Opens {H:Type} (enc:TypeId × Value→H) (W:World) {α:Type} (T:TypeId) (R:α→Value→Prop) (G:α→Prop):Prop :=
 ∀ (fuel:Nat) (v:Value) (y:DataW H × List MemPlace),DataW.trod enc Try.prog W 0 (fun _=>true) true fuel T [v]=some y→(∀ n ∈ y.1.weights Try.prog T,n≤140737488351232)→∃ x,R x v∧G x
set_option maxRecDepth 100000 in
theorem opens_slice {H:Type} {enc:TypeId × Value→H} {W:World} {α:Type} [Inhabited α] {R:α→Value→Prop} {G:α→Prop} {TS TE:TypeId} (nb:Nat) (hu:Try.prog.underlying TS=some (.slice TE)) (hc:Try.prog.cellsOf TE=1) (hnb:Try.prog.bytesOf TE=nb)
 (hE:Opens enc W TE R G):Opens enc W TS (fun l v=>IsS W W.heap.size R v l) (fun l=>(∀ x ∈ l,G x)∧l.length * nb≤140737488351232):=by
 intro fuel v y h hw
 rcases DataW.trod_slice hu h with ⟨hcs,_⟩ | ⟨a,len,cap,elems,rest,n,hn,hcs,hx,hb,hle,hm,hel1,hel,_,_⟩
 ·have e:v=.slice none 0 0:=by simpa using hcs
  subst e
  exact ⟨[],⟨none,0,rfl,fun h=>absurd h (by simp)⟩,fun x hx=>(by cases hx),by simp⟩
 ·have e:v=.slice (some a) len cap:=by simpa using hcs
  subst e
  rw [hx,DataW.weights,hu] at hw
  have hb1:=hw _ List.mem_cons_self
  rw [hnb] at hb1
  simp only [List.length_map] at hb1
  rw [hc] at hel
  have each:∀ i,i<len→∃ q:α × Value,W.cell? (a.add i)=some q.2∧R q.1 q.2∧G q.1:=by
   intro i hi
   have h1:=hel i hi
   rw [List.getElem?_eq_getElem (by omega)] at h1
   obtain ⟨cs',h2,h3⟩:=Option.bind_eq_some_iff.1 h1
   obtain ⟨_,hlen',hcell⟩:=World.cells?_some h2
   match cs',hlen' with
   | [v'],_ =>
    have hmem:elems[i].1 ∈ elems.map (·.1):=List.mem_map_of_mem (List.getElem_mem _)
    obtain ⟨x,hx,hg⟩:=hE n v' elems[i] h3 fun n' hn'=>hw _ (List.mem_cons_of_mem _ (List.mem_append_left _ (weights_all hmem n' hn')))
    refine ⟨(x,v'),?_,hx,hg⟩
    have e:=hcell 0 (by simp)
    rw [Deep.add_add,Nat.mul_one,Nat.add_zero] at e
    exact e.trans rfl
  have:Inhabited (α × Value):=⟨(default,.nilIface)⟩
  obtain ⟨q,hq⟩:=Deep.choose_lt each
  refine ⟨(List.range len).map fun i=>(q i).1,⟨some a,cap,by simp,fun h0 => ?_⟩,fun x hx => ?_,?_⟩
  ·simp only [List.length_map,List.length_range] at h0
   obtain ⟨b,o,sp⟩:=a
   have h00:=(hq 0 h0).1
   obtain rfl:sp=none:=by simpa [Addr.add] using World.cell?_spot h00
   have hlt:b<W.heap.size:=by
    rw [add_plain] at h00
    exact World.block_lt_of_cell? W _ h00
   refine ⟨b,o,hlt,rfl,fun j hj => ?_⟩
   simp only [List.length_map,List.length_range] at hj
   have h1:=hq j hj
   rw [add_plain] at h1
   simp only [List.getElem_map,List.getElem_range]
   exact ⟨_,h1.1,h1.2.1⟩
  ·obtain ⟨i,hi,rfl⟩:=List.mem_map.1 hx
   exact (hq i (List.mem_range.1 hi)).2.2
  ·simp only [List.length_map,List.length_range]
   refine Nat.le_trans (Nat.mul_le_mul_right nb ?_) hb1
   omega
theorem opens_int {H:Type} {enc:TypeId × Value→H} {W:World}:Opens enc W 3 isI (fun i => -9223372036854775808≤i∧i≤9223372036854775807):=by
 intro fuel v y h _
 obtain ⟨z,hz,_,wz⟩:=DataW.trod_int Try.underlying3 h
 have e:v=.int .i64 z:=by simpa using hz
 have hb:=bounds_i64 wz
 exact ⟨z,e,by omega,by omega⟩
theorem opens_str {H:Type} {enc:TypeId × Value→H} {W:World}:Opens enc W 9 isT (fun s=>s.size≤140737488351232):=by
 intro fuel v y h hw
 obtain ⟨s,hs,hs2,_⟩:=DataW.trod_string Try.underlying9 h
 have e:v=.string s:=by simpa using hs
 exact ⟨s,e,hw _ (by rw [hs2];show s.size ∈ [s.data.toList.length];exact List.mem_singleton.2 rfl)⟩
theorem agg_of {v:Value} {cs:List Value} (h:v.cells.toList=cs) (hl:cs.length≠1):v=.agg cs.toArray:=by
 have e:v.cells=cs.toArray:=Array.ext' (by rw [h])
 have one:∀ u:Value,v.cells=#[u]→False:=fun u hu=>by
  rw [hu] at h
  subst h
  simp at hl
 cases v with
 | agg ds=>exact congrArg Value.agg e
 | _=>exact (one _ rfl).elim
theorem cells_md:Try.prog.cellsOf 25=2:=by kernel_rfl
set_option maxRecDepth 100000 in
theorem open_md4 {H:Type} {enc:TypeId × Value→H} {W:World} {v:Value} {d:DataW H} {p:List MemPlace} (h:DataW.Trod enc Try.prog W 0 (fun _=>true) true 25 v d p) (hsz:∀ n ∈ d.weights Try.prog 25,n≤140737488351232) :
 ∃ uv vv m,v=.agg #[uv,vv]∧IsM W W.heap.size uv vv m∧Fit m∧m.up.length * 24≤140737488355328∧m.val.length * 24≤140737488355328∧(∀ r ∈ m.up,r.length * 8≤140737488355328)∧∀ r ∈ m.val,r.length * 16≤140737488355328:=by
 obtain ⟨fuel,hf⟩:=h
 obtain ⟨xs,k,hk,hxy,hl,hxl,hfs⟩:=DataW.trod_struct Try.underlying25 hf
 rw [cells_md] at hl
 have hv:=agg_of (v:=v) rfl (by rw [hl];decide)
 generalize hcs:v.cells.toList=cs at *
 match xs,hxl,cs,hl with
 | [y0,y1],_,[v0,v1],_ =>
  have g0:DataW.trod enc Try.prog W 0 (fun _=>true) true k 22 [v0]=some y0:=by have:=hfs 0 _ rfl;simpa [show Try.prog.cellsOf 22=1 by kernel_rfl] using this
  have g1:DataW.trod enc Try.prog W 0 (fun _=>true) true k 23 [v1]=some y1:=by have:=hfs 1 _ rfl;simpa [show Try.prog.cellsOf 23=1 by kernel_rfl] using this
  have hD:d=.agg [y0.1,y1.1]:=by have:=congrArg Prod.fst hxy;simpa using this
  rw [hD,DataW.weights,Try.underlying25] at hsz
  obtain ⟨u,hu,hgu,hlu⟩:=opens_slice 24 Try.underlying22 (by kernel_rfl) (by kernel_rfl) (opens_slice 8 Try.underlying27 (by kernel_rfl) (by kernel_rfl) (opens_int (enc:=enc) (W:=W))) k v0 y0 g0 fun n hn=>hsz _ (DataW.weights_mem_each (j:=0) (t:=22) (d:=y0.1) rfl rfl _ hn)
  obtain ⟨s,hs,hgs,hls⟩:=opens_slice 24 Try.underlying23 (by kernel_rfl) (by kernel_rfl) (opens_slice 16 Try.underlying34 (by kernel_rfl) (by kernel_rfl) (opens_str (enc:=enc) (W:=W))) k v1 y1 g1 fun n hn=>hsz _ (DataW.weights_mem_each (j:=1) (t:=23) (d:=y1.1) rfl rfl _ hn)
  refine ⟨v0,v1,⟨u,s⟩,hv,⟨hu,hs⟩,⟨?_,?_,fun r hr=>⟨?_,(hgu r hr).1⟩,fun r hr=>⟨?_,(hgs r hr).1⟩⟩,?_,?_,fun r hr => ?_,fun r hr => ?_⟩
  ·show u.length≤_;omega
  ·show s.length≤_;omega
  ·have:=(hgu r hr).2;omega
  ·have:=(hgs r hr).2;omega
  ·show u.length * 24≤_;omega
  ·show s.length * 24≤_;omega
  ·have:=(hgu r hr).2;omega
  ·have:=(hgs r hr).2;omega
theorem open_ints {H:Type} {enc:TypeId × Value→H} {W:World} {v:Value} {d:DataW H} {p:List MemPlace} (hv:∃ a n c,v=.slice a n c) (h:DataW.Trod enc Try.prog W 0 (fun _=>true) true 27 v d p) (hsz:∀ n ∈ d.weights Try.prog 27,n≤140737488351232) :
 ∃ l:List Int,IsI W W.heap.size v l∧(∀ x ∈ l,-9223372036854775808≤x∧x≤9223372036854775807)∧l.length * 8≤140737488351232:=by
 obtain ⟨fuel,hf⟩:=h
 obtain ⟨a,n,c,rfl⟩:=hv
 have hf':DataW.trod enc Try.prog W 0 (fun _=>true) true fuel 27 [.slice a n c]=some (d,p):=hf
 obtain ⟨l,h1,h2,h3⟩:=opens_slice 8 Try.underlying27 (by kernel_rfl) (by kernel_rfl) (opens_int (enc:=enc) (W:=W)) fuel _ _ hf' hsz
 exact ⟨l,h1,h2,h3⟩
theorem open_strs {H:Type} {enc:TypeId × Value→H} {W:World} {v:Value} {d:DataW H} {p:List MemPlace} (hv:∃ a n c,v=.slice a n c) (h:DataW.Trod enc Try.prog W 0 (fun _=>true) true 34 v d p) (hsz:∀ n ∈ d.weights Try.prog 34,n≤140737488351232) :
 ∃ l:List ByteArray,IsN W W.heap.size v l∧(∀ x ∈ l,x.size≤140737488351232)∧l.length * 16≤140737488351232:=by
 obtain ⟨fuel,hf⟩:=h
 obtain ⟨a,n,c,rfl⟩:=hv
 have hf':DataW.trod enc Try.prog W 0 (fun _=>true) true fuel 34 [.slice a n c]=some (d,p):=hf
 obtain ⟨l,h1,h2,h3⟩:=opens_slice 16 Try.underlying34 (by kernel_rfl) (by kernel_rfl) (opens_str (enc:=enc) (W:=W)) fuel _ _ hf' hsz
 exact ⟨l,h1,h2,h3⟩
end Go.Proofs.Ytoedidbbjnnpnaa.Wm
/-
  The document's call From: for every slice of rows that a machine can hold. No other condition.
-/
namespace Go.Proofs.Ytoedidbbjnnpnaa
open Go.RowKit Go.Maps
open Fm (Nd)
def IsFromR (w w':World) (e:Ending) (r:Int × List Nd):Prop :=
 (r.1=0∧∃ C u,e=.returned (.tuple #[.pointer (some ⟨C,0,none⟩),.int .i64 0])∧Tr w' C u r.2∧∀ k,Fr C u k→w.heap.size≤k) ∨
 (r.1≠0∧e=.returned (.tuple #[.pointer none,.int .i64 r.1]))
set_option maxRecDepth 100000 in
set_option maxHeartbeats 2000000 in
theorem rfrom_any (w:World) (rv:Value) (rs:List Nd) (hR:IsR w rv rs) (hg:∀ n ∈ rs,Fm.good n) (hl:rs.length≤140737488351232) :
 Calls Try.prog 52 #[rv] w fun e w'=>IsFromR w w' e (Fm.fr [] rs)∧Below w.heap.size w w':=by
 have KP:=show Hid (∀ (w1:World) (c:Nat) (u:Value) (t:List Nd),Tr w1 c u t→∀ n,Fm.good n→Calls Try.prog 75 #[.pointer (some ⟨c,0,none⟩),.agg #[.int .i64 n.k,.string n.s,.int .i64 n.l,.int .i64 n.r]] w1 fun e w'=>e=.returned (.tuple #[.int .i64 (Fm.put t n).1,.int .i64 (Fm.put t n).2.1])∧AfterR w1 c u (Fm.put t n).2.2 w') from fun w1 c u t h n hn=>rput_any w1 h n hn
 have HX:=show Hid (Fm.fr [] (rs.drop 0)=Fm.fr [] rs) from by rw [List.drop_zero];rfl
 have HG:=show Hid (∀ n ∈ rs,Fm.good n) from hg
 generalize Fm.fr [] rs=ans at *
 obtain ⟨p,c,rfl,hc1,hc2,hat⟩:=hR.at
 have HA:=show Hid (0<rs.length→∃ b o,p=some ⟨b,o,none⟩∧∀ w',Below w.heap.size w w'→∀ k (hk:k<rs.length),At4 w' b (o+k * 4) rs[k]) from hat
 have HT0:=show Hid (Tr (w.alloc (Obj.cells #[.slice none 0 0] 88)) w.heap.size (.slice none 0 0) []) from ⟨heap_alloc_new _ _,rw_nil _,Fm.ok_nil⟩
 clear hR hg hat
 go_enter Try.func52,Try.ntmps52
 go_wp2_with fail
 go_loopw [5] (fun i wr=>∃ (t:List Nd) (v:Value),t.length≤rs.length∧i=.int .i64 (t.length:Int)∧Hid (Fm.fr t (rs.drop t.length)=ans)∧Hid (Tr wr w.heap.size v t∧∀ k,v.ownBlock=some k→w.heap.size≤k)∧Hid (Below w.heap.size w wr)) (fun i _=>rs.length - (intOf i).toNat)
 case atStart=>exact ⟨[],.slice none 0 0,by simp,rfl,HX,⟨HT0.out,fun k hk=>by simp [Value.ownBlock] at hk⟩,below_alloc _ _⟩
 case round =>
  obtain ⟨t,v,hk,rfl,HF,HT,HB⟩:=hrel
  clear HX HT0
  by_cases hlt:t.length<rs.length
  ·obtain ⟨rb,ro,rfl,hat⟩:=HA.out (by omega)
   have hA:=hat wr HB.out t.length hlt
   have HGN:=show Hid (Fm.good rs[t.length]) from HG.out _ (List.getElem_mem hlt)
   have hst:=HF.out
   rw [List.drop_eq_getElem_cons hlt,fr_step] at hst
   generalize rs[t.length]=nd at *
   have HST:=show Hid _ from hst
   have HGW:=show Hid (Fm.put t nd |>.2.1=0→(Fm.put t nd).1=t.length→(Fm.put t nd).2.2.length=t.length+1) from fun h1 h2=>put_grew h1 h2
   obtain ⟨nk,ns,nl,nr⟩:=nd
   have a0:=hA.c0;have a1:=hA.c1;have a2:=hA.c2;have a3:=hA.c3
   simp only at a0 a1 a2 a3
   have hki:(t.length:Int)<(rs.length:Int):=by omega
   clear hat hA hst HF
   have KP2:=show Hid (Calls Try.prog 75 #[.pointer (some ⟨w.heap.size,0,none⟩),.agg #[.int .i64 nk,.string ns,.int .i64 nl,.int .i64 nr]] wr fun e w'=>e=.returned (.tuple #[.int .i64 (Fm.put t ⟨nk,ns,nl,nr⟩).1,.int .i64 (Fm.put t ⟨nk,ns,nl,nr⟩).2.1])∧AfterR wr w.heap.size v (Fm.put t ⟨nk,ns,nl,nr⟩).2.2 w') from KP.out _ _ _ _ HT.out.1 ⟨nk,ns,nl,nr⟩ HGN.out
   generalize Fm.put t ⟨nk,ns,nl,nr⟩=pr at *
   obtain ⟨p1,p2,p3⟩:=pr
   simp only at KP2 HGW
   go_wp2_with fail
   refine KP2.out.mono ?_
   rintro e w2 ⟨rfl,v2,hT2,hL2,hK2⟩
   have HB2:=show Hid (Below w.heap.size w w2) from HB.out.trans (hK2.below HB.out.size (by
    rintro k (e | e)
    ·omega
    ·exact HT.out.2 k e))
   have HT2:=show Hid (Tr w2 w.heap.size v2 p3∧∀ k,v2.ownBlock=some k→w.heap.size≤k) from ⟨hT2,fun k hk=>by
    rcases hL2 k hk with h | h
    ·exact HT.out.2 k h
    ·have:=HB.out.size
     omega⟩
   clear hT2 hL2 hK2 KP2 HB HT
   by_cases h0:p2=0
   ·subst h0
    have hst:=HST.out
    rw [if_pos rfl] at hst
    by_cases h1:p1=t.length
    ·subst h1
     rw [if_pos rfl] at hst
     have hgw:=HGW.out rfl rfl
     have HF2:=show Hid (Fm.fr p3 (rs.drop p3.length)=ans) from by rw [hgw];exact hst
     have HGL:=show Hid (p3.length=t.length+1) from hgw
     clear hst hgw HST HGW
     go_wp2_with fail
     go_roundw
     case rel=>exact ⟨p3,v2,by have:=HGL.out;omega,by rw [HGL.out];go_num,HF2,HT2,HB2⟩
     case measure=>first | (simp [intOf];done) | (simp [intOf];omega)
    ·rw [if_neg h1] at hst
     have hne:(p1 != (t.length:Int))=true:=by simp [h1]
     subst hst
     go_wp2_with fail
     go_ret2
     exact ⟨Or.inr ⟨by simp,rfl⟩,HB2.out⟩
   ·have hst:=HST.out
    rw [if_neg h0] at hst
    have hne:(p2 != 0)=true:=by simp [h0]
    subst hst
    go_wp2_with fail
    go_ret2
    exact ⟨Or.inr ⟨h0,rfl⟩,HB2.out⟩
  ·have hke:t.length=rs.length:=by omega
   have hst:=HF.out
   rw [hke,List.drop_length,Fm.fr] at hst
   subst hst
   have hki:¬ (t.length:Int)<(rs.length:Int):=by omega
   clear hke
   go_wp2_with fail
   go_ret2
   refine ⟨Or.inl ⟨rfl,w.heap.size,v,rfl,HT.out.1,?_⟩,HB.out⟩
   rintro k (e | e)
   ·omega
   ·exact HT.out.2 k e
end Go.Proofs.Ytoedidbbjnnpnaa
/-
  How an argument of type []Node is opened; what rowsOf answers. No condition.
-/
namespace Go.Proofs.Ytoedidbbjnnpnaa.Wm
open Go.ChangeShapes Go.WideShapes Go.ChangeAt Go.RowKit Go.Maps
open Fm (Nd)
set_option linter.unusedSimpArgs false
set_option linter.unusedVariables false
theorem bounds64n {x:Int} (h:(Lit.int .i64 x).wf=true):Fm.i64 x:=by
 have hb:=bounds_i64 h
 exact ⟨by omega,by omega⟩
theorem bytes_node:Try.prog.bytesOf 116=40:=by kernel_rfl
set_option maxRecDepth 100000 in
theorem open_nd_cells {H:Type} {enc:TypeId × Value→H} {W:World} {fuel:Nat} {cs:List Value} {y:DataW H × List MemPlace}
 (h2:DataW.trod enc Try.prog W 0 (fun _=>true) true fuel 116 cs=some y) (hlen:cs.length=4) :
 ∃ q:Nd,cs=ndC q∧q.s.size ∈ y.1.weights Try.prog 116∧Fm.i64 q.k∧Fm.i64 q.l∧Fm.i64 q.r:=by
 obtain ⟨xs,k,hk,hxy,_,hxl,hfs⟩:=DataW.trod_struct Try.underlying116 h2
 match xs,hxl,cs,hlen with
 | [y0,y1,y2,y3],_,[v0,v1,v2,v3],_ =>
  have g0:DataW.trod enc Try.prog W 0 (fun _=>true) true k 114 [v0]=some y0:=by have:=hfs 0 _ rfl;simpa [cells_kind] using this
  have g1:DataW.trod enc Try.prog W 0 (fun _=>true) true k 9 [v1]=some y1:=by have:=hfs 1 _ rfl;simpa [cells_str] using this
  have g2:DataW.trod enc Try.prog W 0 (fun _=>true) true k 3 [v2]=some y2:=by have:=hfs 2 _ rfl;simpa [cells_int] using this
  have g3:DataW.trod enc Try.prog W 0 (fun _=>true) true k 3 [v3]=some y3:=by have:=hfs 3 _ rfl;simpa [cells_int] using this
  obtain ⟨z0,hz0,hz02,hz03⟩:=DataW.trod_int Try.underlying114 g0
  obtain ⟨s,hs,hs2,hs3⟩:=DataW.trod_string Try.underlying9 g1
  obtain ⟨z2,hz2,hz22,hz23⟩:=DataW.trod_int Try.underlying3 g2
  obtain ⟨z3,hz3,hz32,hz33⟩:=DataW.trod_int Try.underlying3 g3
  have e0:v0=.int .i64 z0:=by simpa using hz0
  have e1:v1=.string s:=by simpa using hs
  have e2:v2=.int .i64 z2:=by simpa using hz2
  have e3:v3=.int .i64 z3:=by simpa using hz3
  refine ⟨⟨z0,s,z2,z3⟩,by rw [e0,e1,e2,e3];rfl,?_,bounds64n hz03,bounds64n hz23,bounds64n hz33⟩
  have hD:y.1=.agg [y0.1,y1.1,y2.1,y3.1]:=by rw [hxy];simp
  rw [hD,DataW.weights,Try.underlying116]
  exact DataW.weights_mem_each (j:=1) (t:=9) (d:=y1.1) rfl rfl _ (by rw [hs2];show s.size ∈ [s.data.toList.length];exact List.mem_singleton.2 rfl)
set_option maxRecDepth 100000 in
theorem open_nodes {H:Type} {enc:TypeId × Value→H} {W:World} {base:Nat} {v:Value} {d:DataW H} {p:List MemPlace} (hval:Value.okWide Try.prog W .any base 55 v)
 (h:DataW.Trod enc Try.prog W 0 (fun _=>true) true 55 v d p) (hsz:∀ n ∈ d.weights Try.prog 55,n≤140737488351232):∃ ps:List Nd,IsR W v ps∧(∀ n ∈ ps,Fm.good n)∧ps.length * 40≤140737488351232∧(v=.slice none 0 0∨∃ a n c,v=.slice (some a) n c):=by
 obtain ⟨a0,len,cap,rfl⟩:=okWide_slice Try.underlying55 hval
 obtain ⟨fuel,hf⟩:=h
 rcases Deep.open_slice Try.underlying55 hf with ⟨hcs,hx⟩ | ⟨a,len',cap',m,n,D,Pl,hcs,hb,hl,hm,hmm,hx,hel⟩
 ·simp only [Value.cells,List.cons.injEq,and_true] at hcs
  obtain ⟨rfl,rfl,rfl⟩:=Value.slice.inj (by simpa using hcs)
  exact ⟨[],⟨none,0,rfl,by simp,by omega,fun h=>by simp at h⟩,(fun t ht=>by cases ht),by simp,Or.inl rfl⟩
 ·obtain ⟨rfl,rfl,rfl⟩:=Value.slice.inj (by simpa [Value.cells] using hcs)
  simp only [if_true] at hmm
  subst hmm
  obtain ⟨rfl,rfl⟩:=Prod.mk.inj hx
  rw [cells_node] at hel
  have each:∀ i,i<m→∃ q:Nd,(∀ j,j<4→W.cell? (a.add (i * 4+j))=(ndC q)[j]?)∧q.s.size ∈ (D i).weights Try.prog 116∧Fm.i64 q.k∧Fm.i64 q.l∧Fm.i64 q.r:=by
   intro i hi
   obtain ⟨cs',h1,h2⟩:=hel i hi
   obtain ⟨_,hlen,hcell⟩:=World.cells?_some h1
   obtain ⟨q,hq,hq2⟩:=open_nd_cells h2 hlen
   refine ⟨q,fun j hj => ?_,hq2⟩
   have e:=hcell j (by omega)
   rw [Deep.add_add] at e
   rw [e]
   subst hq
   simp [ndC,hj]
  have:Inhabited Nd:=⟨Fm.z⟩
  obtain ⟨q,hq⟩:=Deep.choose_lt each
  have hlen:((List.range len).map q).length=len:=by simp
  rw [DataW.weights,Try.underlying55] at hsz
  have hb1:=hsz _ List.mem_cons_self
  rw [bytes_node] at hb1
  simp only [List.length_map,List.length_range] at hb1
  refine ⟨(List.range len).map q,⟨some a,m,by rw [hlen],by rw [hlen];exact hl,by unfold maxLen at hm;omega,fun hpos => ?_⟩,fun r hr => ?_,by rw [hlen];omega,Or.inr ⟨_,_,_,rfl⟩⟩
  ·rw [hlen] at hpos
   obtain ⟨b,o,s⟩:=a
   have h00:=(hq 0 (by omega)).1 0 (by omega)
   obtain rfl:s=none:=by
    have h01:W.cell? ((⟨b,o,s⟩:Addr).add (0 * 4+0))=some (.int .i64 (q 0).k):=h00
    simpa [Addr.add] using World.cell?_spot h01
   refine ⟨b,o,rfl,fun k hk => ?_⟩
   rw [hlen] at hk
   have hk':=(hq k (by omega)).1
   simp only [add_plain] at hk'
   simp only [List.getElem_map,List.getElem_range]
   exact ⟨by have:=hk' 0 (by omega);rw [Nat.add_zero] at this;exact this,by have:=hk' 1 (by omega);rw [← Nat.add_assoc] at this;exact this,by have:=hk' 2 (by omega);rw [← Nat.add_assoc] at this;exact this,by have:=hk' 3 (by omega);rw [← Nat.add_assoc] at this;exact this⟩
  ·obtain ⟨i,hi,rfl⟩:=List.mem_map.1 hr
   have hi':=List.mem_range.1 hi
   have h1:=(hq i (by omega)).2
   have h2:=weights_all (t:=116) (List.mem_map_of_mem (f:=D) hi) _ h1.1
   exact ⟨h1.2.1,hsz _ (List.mem_cons_of_mem _ (List.mem_append_left _ h2)),h1.2.2.1,h1.2.2.2⟩
def IsT (w:World) (v:Value) (t:List Nd):Prop:=IsR w v t∧Fm.Ok t
theorem IsT.later {w w':World} {v:Value} {t:List Nd} (h:IsT w v t) (hb:Below w.heap.size w w'):IsT w' v t:=by
 obtain ⟨⟨p,c,e,h1,h2,h3⟩,ho⟩:=h
 refine ⟨⟨p,c,e,h1,h2,fun hp => ?_⟩,ho⟩
 obtain ⟨b,o,e2,h4⟩:=h3 hp
 refine ⟨b,o,e2,fun k hk => ?_⟩
 obtain ⟨k1,k2,k3,k4⟩:=h4 k hk
 have hc:∀ {j:Nat} {x:Value},w.cell? ⟨b,j,none⟩=some x→w'.cell? ⟨b,j,none⟩=some x:=fun h=>(World.cell?_of_block (a:=⟨b,_,none⟩) (hb.block b (World.block_lt_of_cell? w _ h))).trans h
 exact ⟨hc k1,hc k2,hc k3,hc k4⟩
theorem rw_isR {w:World} {v:Value} {t:List Nd} (h:Go.Proofs.Ytoedidbbjnnpnaa.Rw w v t):IsR w v t:=h.isR
set_option maxRecDepth 100000 in
set_option maxHeartbeats 2000000 in
theorem rowsOf_any (w:World) {v:Value} {rs:List Nd} (hR:IsR w v rs) (hg:∀ n ∈ rs,Fm.good n) (hl:rs.length≤140737488351232) :
 Calls Try.prog 27 #[v] w fun e w'=>(∃ u t,e=.returned u∧IsT w' u t)∧Below w.heap.size w w':=by
 have K:=show Hid _ from rfrom_any w v rs hR hg hl
 go_enter Try.func27,Try.ntmps27
 go_wp2_with fail
 refine Calls.mono K.out ?_
 rintro e w1 ⟨hF,hb⟩
 have HB:=show Hid (Below w.heap.size w w1) from hb
 rcases hF with ⟨h0,C,u,rfl,hT,_⟩ | ⟨h0,rfl⟩
 ·have HT:=show Hid _ from hT
  have c0:w1.cell? ⟨C,0,none⟩=some u:=hT.c0
  clear hT hb K
  go_wp2_with fail
  go_ret
  exact ⟨⟨u,_,rfl,HT.out.row.isR,HT.out.ok⟩,HB.out⟩
 ·generalize (Fm.fr [] rs).1=r at *
  have hne:(r != 0)=true:=by simpa using h0
  clear hb K
  go_wp2_with fail
  go_ret
  exact ⟨⟨_,[],rfl,⟨none,0,rfl,by simp,by omega,fun h=>by simp at h⟩,Fm.ok_nil⟩,HB.out⟩
end Go.Proofs.Ytoedidbbjnnpnaa.Wm
/-
  Five arguments of a call, opened and shut. No condition.
-/
namespace Go.Proofs.Ytoedidbbjnnpnaa.Wm
open Go.ChangeShapes Go.WideShapes Go.ChangeAt Go.RowKit
section
variable {H:Type} {enc:TypeId × Value→H} {P:Program} {w:World} {base:Nat} {spare:Nat→Bool} {held:Bool}
theorem trodAll_five {t0 t1 t2 t3 t4:TypeId} {args:Array Value} {ds:List (DataW H)} {ps:List MemPlace} (h:DataW.TrodAll enc P w base spare held [t0,t1,t2,t3,t4] args.toList ds ps) :
 ∃ v0 v1 v2 v3 v4 d0 d1 d2 d3 d4 p0 p1 p2 p3 p4,args=#[v0,v1,v2,v3,v4]∧ds=[d0,d1,d2,d3,d4]∧ps=p0 ++ p1 ++ p2 ++ p3 ++ p4∧DataW.Trod enc P w base spare held t0 v0 d0 p0∧DataW.Trod enc P w base spare held t1 v1 d1 p1∧DataW.Trod enc P w base spare held t2 v2 d2 p2∧DataW.Trod enc P w base spare held t3 v3 d3 p3∧DataW.Trod enc P w base spare held t4 v4 d4 p4:=by
 obtain ⟨v0,vs0,d0,ds0,p0,q0,hargs,rfl,rfl,hd0,hr0⟩:=trodAll_cons h
 obtain ⟨v1,vs1,d1,ds1,p1,q1,rfl,rfl,rfl,hd1,hr1⟩:=trodAll_cons hr0
 obtain ⟨v2,vs2,d2,ds2,p2,q2,rfl,rfl,rfl,hd2,hr2⟩:=trodAll_cons hr1
 obtain ⟨v3,vs3,d3,ds3,p3,q3,rfl,rfl,rfl,hd3,hr3⟩:=trodAll_cons hr2
 obtain ⟨v4,vs4,d4,ds4,p4,q4,rfl,rfl,rfl,hd4,hr4⟩:=trodAll_cons hr3
 obtain ⟨rfl,rfl,rfl⟩:=trodAll_nil hr4
 exact ⟨v0,v1,v2,v3,v4,d0,d1,d2,d3,d4,p0,p1,p2,p3,p4,by cases args;simp_all,rfl,by simp,hd0,hd1,hd2,hd3,hd4⟩
theorem trodAll_mk5 {t0 t1 t2 t3 t4:TypeId} {v0 v1 v2 v3 v4:Value} {d0 d1 d2 d3 d4:DataW H} {p0 p1 p2 p3 p4:List MemPlace} (h0:DataW.Trod enc P w base spare held t0 v0 d0 p0) (h1:DataW.Trod enc P w base spare held t1 v1 d1 p1)
 (h2:DataW.Trod enc P w base spare held t2 v2 d2 p2) (h3:DataW.Trod enc P w base spare held t3 v3 d3 p3) (h4:DataW.Trod enc P w base spare held t4 v4 d4 p4):DataW.TrodAll enc P w base spare held [t0,t1,t2,t3,t4] [v0,v1,v2,v3,v4] [d0,d1,d2,d3,d4] (p0 ++ (p1 ++ (p2 ++ (p3 ++ p4)))):=⟨p0,p1 ++ (p2 ++ (p3 ++ p4)),h0,trodAll_mk4 h1 h2 h3 h4,rfl⟩
end
end Go.Proofs.Ytoedidbbjnnpnaa.Wm
/-
  A list of models as an argument, and how many there are by its bulk. No condition.
-/
namespace Go.Proofs.Ytoedidbbjnnpnaa.Wm
open Go.ChangeShapes Go.WideShapes Go.ChangeAt Go.RowKit
open Wd (Md)
set_option linter.unusedSimpArgs false
set_option linter.unusedVariables false
theorem bulk_pos {H:Type}:∀ d:DataW H,1≤Rows.uptoBulk d
 | .lit l=>by cases l <;> simp [Rows.uptoBulk]
 | .nil=>by simp [Rows.uptoBulk]
 | .ptr _=>by simp [Rows.uptoBulk]
 | .slice _ _=>by simp [Rows.uptoBulk]
 | .agg _=>by simp [Rows.uptoBulk]
 | .iface _ _=>by simp [Rows.uptoBulk]
 | .map _=>by simp [Rows.uptoBulk]
 | .held _=>by simp [Rows.uptoBulk]
theorem bulk_all {H:Type}:∀ l:List (DataW H),l.length≤Rows.uptoBulkAll l
 | []=>by simp
 | d :: r=>by
  have h1:=bulk_pos d
  have h2:=bulk_all r
  simp only [Rows.uptoBulkAll,List.length_cons]
  omega
set_option maxRecDepth 100000 in
theorem bulk_models {H:Type} {enc:TypeId × Value→H} {W:World} {v:Value} {d:DataW H} {p:List MemPlace} {q:Option Addr} {n c:Nat} (hv:v=.slice q n c)
 (h:DataW.Trod enc Try.prog W 0 (fun _=>true) true 45 v d p):n≤Rows.uptoBulk d:=by
 subst hv
 obtain ⟨fuel,hf⟩:=h
 rcases Deep.open_slice Try.underlying45 hf with ⟨hcs,hx⟩ | ⟨a,len',cap',m,n',D,Pl,hcs,hb,hl,hm,hmm,hx,hel⟩
 ·simp only [Value.cells,List.cons.injEq,and_true] at hcs
  obtain ⟨rfl,rfl,rfl⟩:=Value.slice.inj (by simpa using hcs)
  exact Nat.zero_le _
 ·obtain ⟨rfl,rfl,rfl⟩:=Value.slice.inj (by simpa [Value.cells] using hcs)
  obtain ⟨rfl,rfl⟩:=Prod.mk.inj hx
  simp only [Rows.uptoBulk]
  have h1:=bulk_all ((List.range n).map D)
  simp only [List.length_map,List.length_range] at h1
  omega
set_option maxRecDepth 100000 in
theorem open_md_cells {H:Type} {enc:TypeId × Value→H} {W:World} {fuel:Nat} {cs:List Value} {y:DataW H × List MemPlace}
 (h2:DataW.trod enc Try.prog W 0 (fun _=>true) true fuel 25 cs=some y) (hlen:cs.length=2) (hsz:∀ n ∈ y.1.weights Try.prog 25,n≤140737488351232) :
 ∃ uv vv m,cs=[uv,vv]∧IsM W W.heap.size uv vv m∧Fit m∧(∀ r ∈ m.up,r.length * 8≤140737488355328)∧∀ r ∈ m.val,r.length * 16≤140737488355328:=by
 obtain ⟨xs,k,hk,hxy,hl,hxl,hfs⟩:=DataW.trod_struct Try.underlying25 h2
 match xs,hxl,cs,hlen with
 | [y0,y1],_,[v0,v1],_ =>
  have g0:DataW.trod enc Try.prog W 0 (fun _=>true) true k 22 [v0]=some y0:=by have:=hfs 0 _ rfl;simpa [show Try.prog.cellsOf 22=1 by kernel_rfl] using this
  have g1:DataW.trod enc Try.prog W 0 (fun _=>true) true k 23 [v1]=some y1:=by have:=hfs 1 _ rfl;simpa [show Try.prog.cellsOf 23=1 by kernel_rfl] using this
  have hD:y.1=.agg [y0.1,y1.1]:=by rw [hxy];simp
  rw [hD,DataW.weights,Try.underlying25] at hsz
  obtain ⟨u,hu,hgu,hlu⟩:=opens_slice 24 Try.underlying22 (by kernel_rfl) (by kernel_rfl) (opens_slice 8 Try.underlying27 (by kernel_rfl) (by kernel_rfl) (opens_int (enc:=enc) (W:=W))) k v0 y0 g0 fun n hn=>hsz _ (DataW.weights_mem_each (j:=0) (t:=22) (d:=y0.1) rfl rfl _ hn)
  obtain ⟨s,hs,hgs,hls⟩:=opens_slice 24 Try.underlying23 (by kernel_rfl) (by kernel_rfl) (opens_slice 16 Try.underlying34 (by kernel_rfl) (by kernel_rfl) (opens_str (enc:=enc) (W:=W))) k v1 y1 g1 fun n hn=>hsz _ (DataW.weights_mem_each (j:=1) (t:=23) (d:=y1.1) rfl rfl _ hn)
  refine ⟨v0,v1,⟨u,s⟩,rfl,⟨hu,hs⟩,⟨?_,?_,fun r hr=>⟨?_,(hgu r hr).1⟩,fun r hr=>⟨?_,(hgs r hr).1⟩⟩,fun r hr => ?_,fun r hr => ?_⟩
  ·show u.length≤_;omega
  ·show s.length≤_;omega
  ·have:=(hgu r hr).2;omega
  ·have:=(hgs r hr).2;omega
  ·have:=(hgu r hr).2;omega
  ·have:=(hgs r hr).2;omega
set_option maxRecDepth 100000 in
theorem open_models {H:Type} {enc:TypeId × Value→H} {W:World} {v:Value} {d:DataW H} {p:List MemPlace} (hv:∃ a n c,v=.slice a n c)
 (h:DataW.Trod enc Try.prog W 0 (fun _=>true) true 45 v d p) (hsz:∀ n ∈ d.weights Try.prog 45,n≤140737488351232) :
 ∃ ml:List Md,IsL W W.heap.size v ml∧(∀ m ∈ ml,Fit m)∧(∀ m ∈ ml,∀ r ∈ m.val,r.length * 16≤140737488355328)∧∀ m ∈ ml,∀ r ∈ m.up,r.length * 8≤140737488355328:=by
 obtain ⟨a0,len,cap,rfl⟩:=hv
 obtain ⟨fuel,hf⟩:=h
 rcases Deep.open_slice Try.underlying45 hf with ⟨hcs,hx⟩ | ⟨a,len',cap',m,n,D,Pl,hcs,hb,hl,hm,hmm,hx,hel⟩
 ·simp only [Value.cells,List.cons.injEq,and_true] at hcs
  obtain ⟨rfl,rfl,rfl⟩:=Value.slice.inj (by simpa using hcs)
  exact ⟨[],⟨none,0,rfl,fun h=>absurd h (by simp)⟩,(fun t ht=>by cases ht),(fun t ht=>by cases ht),fun t ht=>by cases ht⟩
 ·obtain ⟨rfl,rfl,rfl⟩:=Value.slice.inj (by simpa [Value.cells] using hcs)
  simp only [if_true] at hmm
  subst hmm
  obtain ⟨rfl,rfl⟩:=Prod.mk.inj hx
  rw [cells_md] at hel
  rw [DataW.weights,Try.underlying45] at hsz
  have each:∀ i,i<m→∃ q:Value × Value × Md,W.cell? (a.add (i * 2))=some q.1∧W.cell? (a.add (i * 2+1))=some q.2.1∧IsM W W.heap.size q.1 q.2.1 q.2.2∧Fit q.2.2∧(∀ r ∈ q.2.2.up,r.length * 8≤140737488355328)∧∀ r ∈ q.2.2.val,r.length * 16≤140737488355328:=by
   intro i hi
   obtain ⟨cs',h1,h2⟩:=hel i hi
   obtain ⟨_,hlen,hcell⟩:=World.cells?_some h1
   obtain ⟨uv,vv,md,hq,hM,hF,hU,hV⟩:=open_md_cells h2 hlen fun n' hn'=>by
    by_cases hil:i<len
    ·exact hsz _ (List.mem_cons_of_mem _ (List.mem_append_left _ (weights_all (t:=25) (List.mem_map_of_mem (f:=D) (List.mem_range.2 hil)) n' hn')))
    ·exact hsz _ (List.mem_cons_of_mem _ (List.mem_append_right _ (weights_all (t:=25) (List.mem_map.2 ⟨i - len,List.mem_range.2 (by omega),by simp;congr 1;omega⟩) n' hn')))
   subst hq
   have e0:=hcell 0 (by simp)
   have e1:=hcell 1 (by simp)
   rw [Deep.add_add] at e0 e1
   exact ⟨(uv,vv,md),e0,e1,hM,hF,hU,hV⟩
  have:Inhabited (Value × Value × Md):=⟨(.nilIface,.nilIface,⟨[],[]⟩)⟩
  obtain ⟨q,hq⟩:=Deep.choose_lt each
  have hlen:((List.range len).map fun i=>(q i).2.2).length=len:=by simp
  refine ⟨(List.range len).map fun i=>(q i).2.2,⟨some a,m,by rw [hlen],fun hpos => ?_⟩,fun t ht => ?_,fun t ht => ?_,fun t ht => ?_⟩
  ·rw [hlen] at hpos
   obtain ⟨b,o,s⟩:=a
   have h00:=(hq 0 (by omega)).1
   obtain rfl:s=none:=by simpa [Addr.add] using World.cell?_spot h00
   have hlt:b<W.heap.size:=by
    rw [add_plain] at h00
    exact World.block_lt_of_cell? W _ h00
   refine ⟨b,o,hlt,rfl,fun k hk => ?_⟩
   rw [hlen] at hk
   have hk':=hq k (by omega)
   rw [add_plain,add_plain,← Nat.add_assoc] at hk'
   refine ⟨(q k).1,(q k).2.1,hk'.1,hk'.2.1,?_⟩
   simp only [List.getElem_map,List.getElem_range]
   exact hk'.2.2.1
  ·obtain ⟨i,hi,rfl⟩:=List.mem_map.1 ht
   exact (hq i (by have:=List.mem_range.1 hi;omega)).2.2.2.1
  ·obtain ⟨i,hi,rfl⟩:=List.mem_map.1 ht
   exact (hq i (by have:=List.mem_range.1 hi;omega)).2.2.2.2.2
  ·obtain ⟨i,hi,rfl⟩:=List.mem_map.1 ht
   exact (hq i (by have:=List.mem_range.1 hi;omega)).2.2.2.2.1
end Go.Proofs.Ytoedidbbjnnpnaa.Wm
