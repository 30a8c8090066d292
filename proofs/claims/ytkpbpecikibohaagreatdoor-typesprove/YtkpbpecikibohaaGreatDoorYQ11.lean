import Derived.Test.YtkpbpecikibohaaGreatDoorCards
import Derived.Test.YtkpbpecikibohaaGreatDoorTie
import Derived.Test.YtkpbpecikibohaaGreatDoorYQ10
import Derived.Lib.LaidIn
import Derived.Lib.LaidTab
import Derived.Lib.LaidU8
import Derived.LaidHandle
import Derived.Deep.DeepHandedRow
import Derived.Deep.DeepWitnessRowRef
import Derived.Deep.Slices
import Derived.ProofKit
import Derived.OpenShut
import Derived.SizedLaws
import Derived.Test.YtkpbpecikibohaaGreatDoorRG1
import Derived.Carry
import Derived.Test.YtkpbpecikibohaaGreatDoorZSeq
set_option linter.unusedSimpArgs false
set_option maxRecDepth 100000
set_option maxHeartbeats 2000000
namespace Go.Proofs.YtkpbpecikibohaaGreatDoor.Ya
open Go.ChangeShapes Go.WideShapes Go.ChangeAt Go.RowKit
open Ty (Tm Hs)
theorem Zq:ownKnob Tryz.prog.godebug=none:=by kernel_rfl
theorem yg:laidOutB Tryz.prog=true:=by kernel_rfl
theorem kC {x:Int} (h:(Lit.int .i64 x).wf=true):Fm.i64 x:=by
 have hb:=bounds_i64 h
 exact⟨by omega,by omega⟩
theorem LW : Tryz.prog.globalNamed "errors.errorType" = some 0 := by kernel_rfl
theorem Xj : (Tryz.prog.cutTypes.find? (·.1 == "internal/reflectlite.rtype")).map (·.2) = some 204 := by kernel_rfl
theorem Un:((List.range Tryz.prog.types.size).filter fun t=>Tryz.prog.rowNamed t [101,114,114,111,114])=[71]:=by kernel_rfl
theorem Uo {W : World} {l : List (String × DataW Unit)} (h : handlesMet Tryz.prog l W) (hm : ("errors.errorType", Rows.laid_errors_errorType) ∈ l) : sj W := by
 obtain⟨name,u,ty,e1,e2,e3,e4,e5⟩:=h _ hm
 have en:name=[101,114,114,111,114]:=(Option.some.inj e1).symm
 subst en
 obtain rfl:=Option.some.inj (Xj.symm.trans e2)
 have hm:ty ∈ (List.range Tryz.prog.types.size).filter fun t=>Tryz.prog.rowNamed t [101,114,114,111,114]:=List.mem_filter.2 ⟨List.mem_range.2 e3,e4⟩
 rw[Un] at hm
 obtain rfl:=List.mem_singleton.1 hm
 have hh:typeHandle Tryz.prog 71=.pointer (some ⟨3,71,none⟩):=by kernel_rfl
 rw[hh] at e5
 simpa[sj] using World.var?_cell LW e5 0
theorem Bl : Tryz.prog.globalNamed "dictum/term.shapes" = some 1 := by kernel_rfl
theorem xG:Tryz.prog.cellsOf 200=3:=by kernel_rfl
theorem Dv:Tryz.prog.cellsOf 201=39:=by kernel_rfl
theorem wV:Tryz.prog.cellsOf 3=1:=by kernel_rfl
theorem RU:Tryz.prog.cellsOf 4=1:=by kernel_rfl
theorem Ab:Tryz.prog.cellsOf 9=1:=by kernel_rfl
def GQ (H:Type) (a b:Int) (c:Bool):DataW H:=.agg [.lit (.int .i64 a),.lit (.int .i64 b),.lit (.bool c)]
theorem LX {H:Type} {enc:TypeId × Value->H} {W:World} {base:Nat} {sp:Nat->Bool} {held:Bool} {fuel:Nat} {cs:List Value} {a b:Int} {c:Bool} {p:List MemPlace} (h:DataW.trod enc Tryz.prog W base sp held fuel 200 cs=some (GQ H a b c,p)):cs=[.int .i64 a,.int .i64 b,.bool c]:=by
 obtain⟨xs,k,_,hxy,hl,hxl,hfs⟩:=DataW.trod_struct Tryz.underlying200 h
 rw[xG] at hl
 match xs,hxl,cs,hl with
 | [y0,y1,y2],_,[v0,v1,v2],_=>
  have g0:DataW.trod enc Tryz.prog W base sp held k 3 [v0]=some y0:=by have:=hfs 0 _ rfl;simpa[wV] using this
  have g1:DataW.trod enc Tryz.prog W base sp held k 3 [v1]=some y1:=by have:=hfs 1 _ rfl;simpa[wV] using this
  have g2:DataW.trod enc Tryz.prog W base sp held k 4 [v2]=some y2:=by have:=hfs 2 _ rfl;simpa[RU] using this
  obtain⟨z0,hz0,Uq,_⟩:=DataW.trod_int Tryz.underlying3 g0
  obtain⟨z1,hz1,Ur,_⟩:=DataW.trod_int Tryz.underlying3 g1
  obtain⟨z2,hz2,Us⟩:=DataW.trod_bool Tryz.underlying4 g2
  have hd:GQ H a b c=.agg [y0.1,y1.1,y2.1]:=by have:=congrArg Prod.fst hxy;simpa using this
  rw[Uq,Ur,Us] at hd
  simp only[GQ,DataW.agg.injEq,List.cons.injEq,DataW.lit.injEq,Lit.int.injEq,Lit.bool.injEq,true_and,and_true] at hd
  obtain⟨rfl,rfl,rfl⟩:=hd
  simp at hz0 hz1 hz2
  rw[hz0,hz1,hz2]
theorem Ot:Rows.laid_dictum_term_shapes (H:=Unit)=.agg ((List.range 13).map fun K:Nat=>GQ Unit (if K=0 then 0 else (Ty.parts (K:Int):Int)) (if K=0 then 0 else (Ty.names (K:Int):Int)) (K == 11)):=by kernel_rfl
theorem Ut {W : World} {l : List (String × DataW Unit)} (h : laidMet Tryz.prog l W) (hm : ("dictum/term.shapes", Rows.laid_dictum_term_shapes) ∈ l) : uW W := by
 obtain⟨g,t,cs,fuel,p,hg,hty,hvar,hd⟩:=Lib.laidMet.reads h hm
 obtain rfl:=Option.some.inj (Bl.symm.trans hg)
 obtain rfl:=Option.some.inj ((show(Tryz.prog.globals[1]?).map (·.type)=some 201 by kernel_rfl).symm.trans hty)
 obtain⟨xs,k,_,hxy,hl,hxl,hel⟩:=DataW.trod_array Tryz.underlying201 hd
 rw[Dv] at hl
 have hxs:xs.map (·.1)=(List.range 13).map fun K:Nat=>GQ Unit (if K=0 then 0 else (Ty.parts (K:Int):Int)) (if K=0 then 0 else (Ty.names (K:Int):Int)) (K == 11):=by
  have:=congrArg Prod.fst hxy
  rw[Ot] at this
  simpa using this.symm
 intro K h1 h2
 have hK:K<13:=by omega
 have hx:=hel K hK
 rw[xG] at hx
 have hxk:xs[K]?=some (xs[K]'(by omega)):=List.getElem?_eq_getElem (by omega)
 have h3:(xs[K]'(by omega)).1=GQ Unit (Ty.parts (K:Int):Int) (Ty.names (K:Int):Int) (K == 11):=by
  have:=congrArg (fun q=>q[K]?) hxs
  simp only[List.getElem?_map,hxk,Option.map_some] at this
  rw[List.getElem?_range hK] at this
  simp only[Option.map_some,Option.some.injEq] at this
  rw[this,if_neg (by omega),if_neg (by omega)]
 rw[hxk] at hx
 generalize xs[K]'(by omega)=yy at *
 obtain⟨yd,yp⟩:=yy
 simp only at h3
 subst h3
 have hc:=LX hx
 have hcell:∀ j,j<3->W.cell? ⟨1,K * 3+j,none⟩=([Value.int .i64 (Ty.parts (K:Int):Int),.int .i64 (Ty.names (K:Int):Int),.bool (K == 11)])[j]?:=fun j hj=>by
  rw[World.var?_cell Bl hvar (K * 3+j),<- hc,List.getElem?_take,if_pos hj,List.getElem?_drop]
  simp
 exact⟨hcell 0 (by omega),hcell 1 (by omega),hcell 2 (by omega)⟩
noncomputable def Xk (os:Os):World :=
 let w0:=World.holding Tryz.prog os ⟨#[],#[],[]⟩
 let put (h:Array Obj) (g:Nat) (cs:Array Value):Array Obj:=h.modify g fun
  | .cells _ t frozen=>.cells cs t frozen
  | o=>o
 let h5:=put w0.heap 0 #[.iface 204 (.agg #[.pointer (some ⟨3,71,none⟩)])]
 let h6:=put h5 1 #[.int .i64 0,.int .i64 0,.bool false,.int .i64 0,.int .i64 1,.bool false,.int .i64 1,.int .i64 1,.bool false,.int .i64 2,.int .i64 0,.bool false,.int .i64 2,.int .i64 0,.bool false,.int .i64 1,.int .i64 0,.bool false,.int .i64 1,.int .i64 0,.bool false,.int .i64 1,.int .i64 0,.bool false,.int .i64 1,.int .i64 0,.bool false,.int .i64 3,.int .i64 2,.bool false,.int .i64 1,.int .i64 0,.bool false,.int .i64 1,.int .i64 0,.bool true,.int .i64 2,.int .i64 1,.bool false]
 { w0 with heap:=h6 }
theorem Ou:Tryz.prog.bytesOf 27=72:=by kernel_rfl
theorem Dw:Tryz.prog.cellsOf 27=5:=by kernel_rfl
theorem LY:Tryz.prog.bytesOf 46=24:=by kernel_rfl
theorem LZ:Tryz.prog.cellsOf 46=2:=by kernel_rfl
theorem vR {H:Type} {ts:List TypeId} {ds:List (DataW H)} (h:(DataW.weightsEach Tryz.prog ts ds).all (·<= reachBytes)=true) {j:Nat} {t:TypeId} {d:DataW H} (ht:ts[j]?=some t) (hd:ds[j]?=some d) :
 ∀ n ∈ d.weights Tryz.prog t,n<=140737488351232:=fun n hn=>by
 have h1:=List.all_eq_true.1 h _ (DataW.weights_mem_each ht hd n hn)
 have h2:n<=reachBytes:=by simpa using h1
 unfold reachBytes at h2
 omega
theorem sS {H:Type} {t:TypeId} {d:DataW H} {l:List (DataW H)} (h:d ∈ l):∀ n ∈ d.weights Tryz.prog t,n ∈ DataW.weightsAll Tryz.prog t l:=by
 induction l with
 | nil=>cases h
 | cons x r ih=>
  intro n hn
  rw[DataW.weightsAll]
  rcases List.mem_cons.1 h with rfl | h
  ·exact List.mem_append_left _ hn
  ·exact List.mem_append_right _ (ih h n hn)
theorem gX.of {w:World} {L:Nat}:∀ {s:List Tm} {b o:Nat},(∀ (i:Nat) (hi:i<s.length),∃ sv,vG w b (o+i * 5) s[i] sv/\bg w L s[i] sv)->gX w L s b o
 | [],_,_,_=>by rw[gX];trivial
 | x :: r,b,o,h=>by
  rw[gX]
  refine⟨by have:=h 0 (by simp);rw[Nat.zero_mul,Nat.add_zero] at this;exact this,gX.of fun i hi => ?_⟩
  have:=h (i+1) (by simpa using hi)
  rw[show o+(i+1) * 5=o+5+i * 5 by omega] at this
  exact this
theorem qx.of:∀ {s:List Tm},(∀ x ∈ s,Gt x)->qx s
 | [],_=>by rw[qx];trivial
 | x :: r,h=>by
  rw[qx]
  exact⟨h x (by simp),qx.of fun y hy=>h y (by simp[hy])⟩
theorem Ov {H:Type} {enc:TypeId × Value->H} {W:World}:∀ (fuel:Nat) (cs:List Value) (y:DataW H × List MemPlace),DataW.trod enc Tryz.prog W 0 (fun _=>true) true fuel 27 cs=some y->(∀ n ∈ y.1.weights Tryz.prog 27,n<=140737488351232) ->
 ∃ x sv,cs=Qe x sv/\bg W W.heap.size x sv/\Gt x:=by
 intro fuel
 induction fuel using Nat.strongRecOn with
 | _ fuel ih=>
  intro cs y h hw
  obtain⟨xs,k,hk,hxy,hl,hxl,hfs⟩:=DataW.trod_struct Tryz.underlying27 h
  rw[Dw] at hl
  match xs,hxl,cs,hl with
  | [y0,y1,y2,y3,y4],_,[v0,v1,v2,v3,v4],_=>
   have g0:DataW.trod enc Tryz.prog W 0 (fun _=>true) true k 24 [v0]=some y0:=by have:=hfs 0 _ rfl;simpa[show Tryz.prog.cellsOf 24=1 by kernel_rfl] using this
   have g1:DataW.trod enc Tryz.prog W 0 (fun _=>true) true k 9 [v1]=some y1:=by have:=hfs 1 _ rfl;simpa[Ab] using this
   have g2:DataW.trod enc Tryz.prog W 0 (fun _=>true) true k 9 [v2]=some y2:=by have:=hfs 2 _ rfl;simpa[Ab] using this
   have g3:DataW.trod enc Tryz.prog W 0 (fun _=>true) true k 3 [v3]=some y3:=by have:=hfs 3 _ rfl;simpa[wV] using this
   have g4:DataW.trod enc Tryz.prog W 0 (fun _=>true) true k 25 [v4]=some y4:=by have:=hfs 4 _ rfl;simpa[show Tryz.prog.cellsOf 25=1 by kernel_rfl] using this
   obtain⟨z0,hz0,_,Yk⟩:=DataW.trod_int Tryz.underlying24 g0
   obtain⟨s1,hs1,Zr,_⟩:=DataW.trod_string Tryz.underlying9 g1
   obtain⟨s2,hs2,Zt,_⟩:=DataW.trod_string Tryz.underlying9 g2
   obtain⟨z3,hz3,_,Yl⟩:=DataW.trod_int Tryz.underlying3 g3
   have e0:v0=.int .i64 z0:=by simpa using hz0
   have e1:v1=.string s1:=by simpa using hs1
   have e2:v2=.string s2:=by simpa using hs2
   have e3:v3=.int .i64 z3:=by simpa using hz3
   have hD:y.1=.agg [y0.1,y1.1,y2.1,y3.1,y4.1]:=by rw[hxy];simp
   rw[hD,DataW.weights,Tryz.underlying27] at hw
   have w1:s1.size<=140737488351232:=hw _ (DataW.weights_mem_each (j:=1) (t:=9) (d:=y1.1) rfl rfl _ (by rw[Zr];show s1.size ∈ [s1.data.toList.length];exact List.mem_singleton.2 rfl))
   have w2:s2.size<=140737488351232:=hw _ (DataW.weights_mem_each (j:=2) (t:=9) (d:=y2.1) rfl rfl _ (by rw[Zt];show s2.size ∈ [s2.data.toList.length];exact List.mem_singleton.2 rfl))
   have w4:∀ n ∈ y4.1.weights Tryz.prog 25,n<=140737488351232:=fun n hn=>hw _ (DataW.weights_mem_each (j:=4) (t:=25) (d:=y4.1) rfl rfl _ hn)
   rcases DataW.trod_slice Tryz.underlying25 g4 with ⟨hcs,_⟩ | ⟨a,len,cap,elems,rest,n,hn,hcs,hx4,hb,hle,hm,ada,hel,_,_⟩
   ·have e4:v4=.slice none 0 0:=by simpa using hcs
    refine⟨.mk z0 s1 s2 z3 [],.slice none 0 0,by rw[e0,e1,e2,e3,e4];rfl,?_,?_⟩
    ·rw[bg]
     exact Or.inl ⟨rfl,none,0,rfl⟩
    ·rw[Gt,qx]
     exact⟨kC Yk,w1,w2,kC Yl,by simp,trivial⟩
   ·have e4:v4=.slice (some a) len cap:=by simpa using hcs
    rw[hx4,DataW.weights,Tryz.underlying25] at w4
    have hb1:=w4 _ List.mem_cons_self
    rw[Ou] at hb1
    simp only[List.length_map] at hb1
    rw[Dw] at hel
    have each:∀ i,i<len->∃ q:Tm × Value,(∀ j,j<5->W.cell? (a.add (i * 5+j))=(Qe q.1 q.2)[j]?)/\bg W W.heap.size q.1 q.2/\Gt q.1:=by
     intro i hi
     have h1:=hel i hi
     rw[List.getElem?_eq_getElem (by omega)] at h1
     obtain⟨cs',h2,h3⟩:=Option.bind_eq_some_iff.1 h1
     obtain⟨_,hlen',hcell⟩:=World.cells?_some h2
     have hmem:elems[i].1 ∈ elems.map (·.1):=List.mem_map_of_mem (List.getElem_mem _)
     obtain⟨x,sv,hx,iE,hgt⟩:=ih n (by omega) cs' elems[i] h3 fun n' hn'=>w4 _ (List.mem_cons_of_mem _ (List.mem_append_left _ (sS hmem n' hn')))
     refine⟨(x,sv),fun j hj => ?_,iE,hgt⟩
     have e:=hcell j (by omega)
     rw[Deep.add_add] at e
     rw[e]
     subst hx
     simp[Qe,hj]
    have:Inhabited (Tm × Value):=⟨(.mk 0 Ty.e0 Ty.e0 0 [],.nilIface)⟩
    obtain⟨q,hq⟩:=Deep.choose_lt each
    refine⟨.mk z0 s1 s2 z3 ((List.range len).map fun i=>(q i).1),.slice (some a) len cap,by rw[e0,e1,e2,e3,e4];rfl,?_,?_⟩
    ·rw[bg]
     by_cases h0:len=0
     ·subst h0
      exact Or.inl ⟨rfl,some a,cap,rfl⟩
     ·right
      obtain⟨b,o,sp⟩:=a
      have h00:=(hq 0 (by omega)).1 0 (by omega)
      have h01:W.cell? ((⟨b,o,sp⟩:Addr).add (0 * 5+0))=some (.int .i64 (q 0).1.k):=h00
      obtain rfl:sp=none:=by simpa[Addr.add] using World.cell?_spot h01
      have hlt:b<W.heap.size:=by
       rw[add_plain] at h01
       exact World.block_lt_of_cell? W _ h01
      refine⟨b,o,cap,hlt,by simp,gX.of fun i hi => ?_⟩
      simp only[List.length_map,List.length_range] at hi
      obtain⟨jZ,iE,_⟩:=hq i hi
      simp only[add_plain] at jZ
      simp only[List.getElem_map,List.getElem_range]
      exact⟨(q i).2,⟨by have:=jZ 0 (by omega);rw[Nat.add_zero] at this;exact this,by have:=jZ 1 (by omega);rw[<- Nat.add_assoc] at this;exact this,by have:=jZ 2 (by omega);rw[<- Nat.add_assoc] at this;exact this,by have:=jZ 3 (by omega);rw[<- Nat.add_assoc] at this;exact this,by have:=jZ 4 (by omega);rw[<- Nat.add_assoc] at this;exact this⟩,iE⟩
    ·rw[Gt]
     refine⟨kC Yk,w1,w2,kC Yl,by simp;omega,qx.of fun x hx => ?_⟩
     obtain⟨i,hi,rfl⟩:=List.mem_map.1 hx
     exact(hq i (List.mem_range.1 hi)).2.2
theorem Uu {v:Value} {cs:List Value} (h:v.cells.toList=cs) (hl:cs.length≠1):v=.agg cs.toArray:=by
 have e:v.cells=cs.toArray:=Array.ext' (by rw[h])
 have one:∀ u:Value,v.cells=#[u]->False:=fun u hu=>by
  rw[hu] at h
  subst h
  simp at hl
 cases v with
 | agg ds=>exact congrArg Value.agg e
 | _=>exact(one _ rfl).elim
theorem RV {H:Type} {enc:TypeId × Value->H} {W:World} {v:Value} {d:DataW H} {p:List MemPlace} (h:DataW.Trod enc Tryz.prog W 0 (fun _=>true) true 27 v d p) (hsz:∀ n ∈ d.weights Tryz.prog 27,n<=140737488351232):∃ x sv,v=bL x sv/\bg W W.heap.size x sv/\Gt x:=by
 obtain⟨fuel,hf⟩:=h
 obtain⟨x,sv,hcs,hK,hG⟩:=Ov fuel _ _ hf hsz
 exact⟨x,sv,Uu hcs (by simp[Qe]),hK,hG⟩
theorem Ow {H:Type} {enc:TypeId × Value->H} {W:World} {fuel:Nat} {cs:List Value} {y:DataW H × List MemPlace}
 (h2:DataW.trod enc Tryz.prog W 0 (fun _=>true) true fuel 46 cs=some y) (hlen:cs.length=2) :
 ∃ q:ByteArray × Int,cs=[.string q.1,.int .i64 q.2]/\q.1.size ∈ y.1.weights Tryz.prog 46/\Fm.i64 q.2:=by
 obtain⟨xs,k,hk,hxy,_,hxl,hfs⟩:=DataW.trod_struct Tryz.underlying46 h2
 match xs,hxl,cs,hlen with
 | [y0,y1],_,[v0,v1],_=>
  have g0:DataW.trod enc Tryz.prog W 0 (fun _=>true) true k 9 [v0]=some y0:=by have:=hfs 0 _ rfl;simpa[Ab] using this
  have g1:DataW.trod enc Tryz.prog W 0 (fun _=>true) true k 3 [v1]=some y1:=by have:=hfs 1 _ rfl;simpa[wV] using this
  obtain⟨s,hs,hs2,hs3⟩:=DataW.trod_string Tryz.underlying9 g0
  obtain⟨z1,hz1,Ur,Zu⟩:=DataW.trod_int Tryz.underlying3 g1
  have e0:v0=.string s:=by simpa using hs
  have e1:v1=.int .i64 z1:=by simpa using hz1
  refine⟨(s,z1),by rw[e0,e1],?_,kC Zu⟩
  have hD:y.1=.agg [y0.1,y1.1]:=by rw[hxy];simp
  rw[hD,DataW.weights,Tryz.underlying46]
  exact DataW.weights_mem_each (j:=0) (t:=9) (d:=y0.1) rfl rfl _ (by rw[hs2];show s.size ∈ [s.data.toList.length];exact List.mem_singleton.2 rfl)
theorem Ox {H:Type} {enc:TypeId × Value->H} {W:World} {base:Nat} {v:Value} {d:DataW H} {p:List MemPlace} (hval:Value.okWide Tryz.prog W .any base 23 v)
 (h:DataW.Trod enc Tryz.prog W 0 (fun _=>true) true 23 v d p) (hsz:∀ n ∈ d.weights Tryz.prog 23,n<=140737488351232):∃ ps:Hs,qC W W.heap.size v ps/\uH ps/\(∃ a n c,v=.slice a n c):=by
 obtain⟨a0,len,cap,rfl⟩:=okWide_slice Tryz.underlying23 hval
 obtain⟨fuel,hf⟩:=h
 rcases Deep.open_slice Tryz.underlying23 hf with ⟨hcs,hx⟩ | ⟨a,len',cap',m,n,D,Pl,hcs,hb,hl,hm,hmm,hx,hel⟩
 ·simp only[Value.cells,List.cons.injEq,and_true] at hcs
  obtain⟨rfl,rfl,rfl⟩:=Value.slice.inj (by simpa using hcs)
  exact⟨[],⟨none,0,rfl,by simp,fun k hk=>by simp at hk⟩,(fun t ht=>by cases ht),_,_,_,rfl⟩
 ·obtain⟨rfl,rfl,rfl⟩:=Value.slice.inj (by simpa[Value.cells] using hcs)
  simp only[if_true] at hmm
  subst hmm
  obtain⟨rfl,rfl⟩:=Prod.mk.inj hx
  rw[LZ] at hel
  have each:∀ i,i<m->∃ q:ByteArray × Int,(∀ j,j<2->W.cell? (a.add (i * 2+j))=([Value.string q.1,.int .i64 q.2])[j]?)/\q.1.size ∈ (D i).weights Tryz.prog 46/\Fm.i64 q.2:=by
   intro i hi
   obtain⟨cs',h1,h2⟩:=hel i hi
   obtain⟨_,hlen,hcell⟩:=World.cells?_some h1
   obtain⟨q,hq,hq2⟩:=Ow h2 hlen
   refine⟨q,fun j hj => ?_,hq2⟩
   have e:=hcell j (by omega)
   rw[Deep.add_add] at e
   rw[e]
   subst hq
   simp[hj]
  have:Inhabited (ByteArray × Int):=⟨(⟨#[]⟩,0)⟩
  obtain⟨q,hq⟩:=Deep.choose_lt each
  have hlen:((List.range len).map q).length=len:=by simp
  rw[DataW.weights,Tryz.underlying23] at hsz
  have hb1:=hsz _ List.mem_cons_self
  rw[LY] at hb1
  simp only[List.length_map,List.length_range] at hb1
  refine⟨(List.range len).map q,⟨some a,m,by rw[hlen],by rw[hlen];omega,fun k hk => ?_⟩,fun r hr => ?_,_,_,_,rfl⟩
  ·rw[hlen] at hk
   obtain⟨b,o,s⟩:=a
   have h00:=(hq 0 (by omega)).1 0 (by omega)
   have h01:W.cell? ((⟨b,o,s⟩:Addr).add (0 * 2+0))=some (.string (q 0).1):=h00
   obtain rfl:s=none:=by simpa[Addr.add] using World.cell?_spot h01
   have hlt:b<W.heap.size:=by
    rw[add_plain] at h01
    exact World.block_lt_of_cell? W _ h01
   refine⟨b,o,hlt,rfl,?_⟩
   have hk':=(hq k (by omega)).1
   simp only[add_plain] at hk'
   simp only[List.getElem_map,List.getElem_range]
   exact⟨by have:=hk' 0 (by omega);rw[Nat.add_zero] at this;exact this,by have:=hk' 1 (by omega);rw[<- Nat.add_assoc] at this;exact this⟩
  ·obtain⟨i,hi,rfl⟩:=List.mem_map.1 hr
   have hi':=List.mem_range.1 hi
   have h1:=(hq i (by omega)).2
   have h2:=sS (t:=46) (List.mem_map_of_mem (f:=D) hi) _ h1.1
   exact⟨hsz _ (List.mem_cons_of_mem _ (List.mem_append_left _ h2)),h1.2⟩
end Go.Proofs.YtkpbpecikibohaaGreatDoor.Ya
namespace Go.Proofs.YtkpbpecikibohaaGreatDoor.Ya
open Go.ChangeShapes Go.WideShapes Go.ChangeAt Go.RowKit
open Fm (Nd)
open Ty (Hs)
theorem I7:Tryz.prog.bytesOf 67=40:=by kernel_rfl
theorem BR {H:Type} {enc:TypeId × Value->H} {W:World} {fuel:Nat} {cs:List Value} {y:DataW H × List MemPlace}
 (h2:DataW.trod enc Tryz.prog W 0 (fun _=>true) true fuel 67 cs=some y) (hlen:cs.length=4) :
 ∃ q:Nd,cs=gQ q/\q.s.size ∈ y.1.weights Tryz.prog 67/\Fm.i64 q.k/\Fm.i64 q.l/\Fm.i64 q.r:=by
 obtain⟨xs,k,hk,hxy,_,hxl,hfs⟩:=DataW.trod_struct Tryz.underlying67 h2
 match xs,hxl,cs,hlen with
 | [y0,y1,y2,y3],_,[v0,v1,v2,v3],_=>
  have g0:DataW.trod enc Tryz.prog W 0 (fun _=>true) true k 65 [v0]=some y0:=by have:=hfs 0 _ rfl;simpa[yK] using this
  have g1:DataW.trod enc Tryz.prog W 0 (fun _=>true) true k 9 [v1]=some y1:=by have:=hfs 1 _ rfl;simpa[AB] using this
  have g2:DataW.trod enc Tryz.prog W 0 (fun _=>true) true k 3 [v2]=some y2:=by have:=hfs 2 _ rfl;simpa[rU] using this
  have g3:DataW.trod enc Tryz.prog W 0 (fun _=>true) true k 3 [v3]=some y3:=by have:=hfs 3 _ rfl;simpa[rU] using this
  obtain⟨z0,hz0,Uq,Zv⟩:=DataW.trod_int Tryz.underlying65 g0
  obtain⟨s,hs,hs2,hs3⟩:=DataW.trod_string Tryz.underlying9 g1
  obtain⟨z2,hz2,Us,Zw⟩:=DataW.trod_int Tryz.underlying3 g2
  obtain⟨z3,hz3,hz32,Zx⟩:=DataW.trod_int Tryz.underlying3 g3
  have e0:v0=.int .i64 z0:=by simpa using hz0
  have e1:v1=.string s:=by simpa using hs
  have e2:v2=.int .i64 z2:=by simpa using hz2
  have e3:v3=.int .i64 z3:=by simpa using hz3
  refine⟨⟨z0,s,z2,z3⟩,by rw[e0,e1,e2,e3];rfl,?_,kC Zv,kC Zw,kC Zx⟩
  have hD:y.1=.agg [y0.1,y1.1,y2.1,y3.1]:=by rw[hxy];simp
  rw[hD,DataW.weights,Tryz.underlying67]
  exact DataW.weights_mem_each (j:=1) (t:=9) (d:=y1.1) rfl rfl _ (by rw[hs2];show s.size ∈ [s.data.toList.length];exact List.mem_singleton.2 rfl)
theorem I8 {H:Type} {enc:TypeId × Value->H} {W:World} {base:Nat} {v:Value} {d:DataW H} {p:List MemPlace} (hval:Value.okWide Tryz.prog W .any base 22 v)
 (h:DataW.Trod enc Tryz.prog W 0 (fun _=>true) true 22 v d p) (hsz:∀ n ∈ d.weights Tryz.prog 22,n<=140737488351232):∃ ps:List Nd,lH W v ps/\(∀ n ∈ ps,Fm.good n)/\ps.length * 40<=140737488351232/\(v=.slice none 0 0\/∃ a n c,v=.slice (some a) n c):=by
 obtain⟨a0,len,cap,rfl⟩:=okWide_slice Tryz.underlying22 hval
 obtain⟨fuel,hf⟩:=h
 rcases Deep.open_slice Tryz.underlying22 hf with ⟨hcs,hx⟩ | ⟨a,len',cap',m,n,D,Pl,hcs,hb,hl,hm,hmm,hx,hel⟩
 ·simp only[Value.cells,List.cons.injEq,and_true] at hcs
  obtain⟨rfl,rfl,rfl⟩:=Value.slice.inj (by simpa using hcs)
  exact⟨[],⟨none,0,rfl,by simp,by omega,fun h=>by simp at h⟩,(fun t ht=>by cases ht),by simp,Or.inl rfl⟩
 ·obtain⟨rfl,rfl,rfl⟩:=Value.slice.inj (by simpa[Value.cells] using hcs)
  simp only[if_true] at hmm
  subst hmm
  obtain⟨rfl,rfl⟩:=Prod.mk.inj hx
  rw[uE] at hel
  have each:∀ i,i<m->∃ q:Nd,(∀ j,j<4->W.cell? (a.add (i * 4+j))=(gQ q)[j]?)/\q.s.size ∈ (D i).weights Tryz.prog 67/\Fm.i64 q.k/\Fm.i64 q.l/\Fm.i64 q.r:=by
   intro i hi
   obtain⟨cs',h1,h2⟩:=hel i hi
   obtain⟨_,hlen,hcell⟩:=World.cells?_some h1
   obtain⟨q,hq,hq2⟩:=BR h2 hlen
   refine⟨q,fun j hj => ?_,hq2⟩
   have e:=hcell j (by omega)
   rw[Deep.add_add] at e
   rw[e]
   subst hq
   simp[gQ,hj]
  have:Inhabited Nd:=⟨Fm.z⟩
  obtain⟨q,hq⟩:=Deep.choose_lt each
  have hlen:((List.range len).map q).length=len:=by simp
  rw[DataW.weights,Tryz.underlying22] at hsz
  have hb1:=hsz _ List.mem_cons_self
  rw[I7] at hb1
  simp only[List.length_map,List.length_range] at hb1
  refine⟨(List.range len).map q,⟨some a,m,by rw[hlen],by rw[hlen];exact hl,by unfold maxLen at hm;omega,fun hpos => ?_⟩,fun r hr => ?_,by rw[hlen];omega,Or.inr ⟨_,_,_,rfl⟩⟩
  ·rw[hlen] at hpos
   obtain⟨b,o,s⟩:=a
   have h00:=(hq 0 (by omega)).1 0 (by omega)
   obtain rfl:s=none:=by
    have h01:W.cell? ((⟨b,o,s⟩:Addr).add (0 * 4+0))=some (.int .i64 (q 0).k):=h00
    simpa[Addr.add] using World.cell?_spot h01
   refine⟨b,o,rfl,fun k hk => ?_⟩
   rw[hlen] at hk
   have hk':=(hq k (by omega)).1
   simp only[add_plain] at hk'
   simp only[List.getElem_map,List.getElem_range]
   exact⟨by have:=hk' 0 (by omega);rw[Nat.add_zero] at this;exact this,by have:=hk' 1 (by omega);rw[<- Nat.add_assoc] at this;exact this,by have:=hk' 2 (by omega);rw[<- Nat.add_assoc] at this;exact this,by have:=hk' 3 (by omega);rw[<- Nat.add_assoc] at this;exact this⟩
  ·obtain⟨i,hi,rfl⟩:=List.mem_map.1 hr
   have hi':=List.mem_range.1 hi
   have h1:=(hq i (by omega)).2
   have h2:=sS (t:=67) (List.mem_map_of_mem (f:=D) hi) _ h1.1
   exact⟨h1.2.1,hsz _ (List.mem_cons_of_mem _ (List.mem_append_left _ h2)),h1.2.2.1,h1.2.2.2⟩
section
variable {H:Type} {enc:TypeId × Value->H} {P:Program} {w:World} {base:Nat} {spare:Nat->Bool} {held:Bool}
end
end Go.Proofs.YtkpbpecikibohaaGreatDoor.Ya
namespace Go.Proofs.YtkpbpecikibohaaGreatDoor.Ya
open Go.ChangeShapes Go.WideShapes Go.ChangeAt Go.RowKit
theorem Xl:Rows.laid_math_bits_deBruijn64tab (H:=Unit)=Lib.tabData .u8 (Lib.deBruijn64tab.map fun n:Nat=>(n:Int)):=by kernel_rfl
theorem zq : Tryz.prog.globalNamed "math/bits.deBruijn64tab" = some 2 := by kernel_rfl
theorem Uv {W : World} {l : List (String × DataW Unit)} (h : laidMet Tryz.prog l W) (h3 : ("math/bits.deBruijn64tab", Rows.laid_math_bits_deBruijn64tab) ∈ l) : Bt.Tz W := by
 rw[Xl] at h3
 obtain⟨g,t,cs,fuel,p,hg,hty,hvar,hd⟩:=Lib.laidMet.reads h h3
 obtain rfl:=Option.some.inj (zq.symm.trans hg)
 obtain rfl:=Option.some.inj ((show(Tryz.prog.globals[2]?).map (·.type)=some 239 by kernel_rfl).symm.trans hty)
 have hT : Lib.TabIs Tryz.prog W "math/bits.deBruijn64tab" .u8 (Lib.deBruijn64tab.map fun n : Nat => (n : Int)) := by
  unfold Lib.TabIs
  rw[hvar,<- Lib.cells_of_tab Tryz.underlying239 Tryz.underlying5 (by kernel_rfl) (by kernel_rfl) hd]
 intro j hj
 have:=hT.cell zq j (by simpa using hj)
 rw[this]
 congr 1
 simp[List.getD,hj]
noncomputable def qM (os:Os):World :=
 let w0:=World.holding Tryz.prog os ⟨#[],#[],[]⟩
 let put (h:Array Obj) (g:Nat) (cs:Array Value):Array Obj:=h.modify g fun
  | .cells _ t frozen=>.cells cs t frozen
  | o=>o
 let h5:=put w0.heap 0 #[.iface 204 (.agg #[.pointer (some ⟨3,71,none⟩)])]
 let h6:=put h5 1 #[.int .i64 0,.int .i64 0,.bool false,.int .i64 0,.int .i64 1,.bool false,.int .i64 1,.int .i64 1,.bool false,.int .i64 2,.int .i64 0,.bool false,.int .i64 2,.int .i64 0,.bool false,.int .i64 1,.int .i64 0,.bool false,.int .i64 1,.int .i64 0,.bool false,.int .i64 1,.int .i64 0,.bool false,.int .i64 1,.int .i64 0,.bool false,.int .i64 3,.int .i64 2,.bool false,.int .i64 1,.int .i64 0,.bool false,.int .i64 1,.int .i64 0,.bool true,.int .i64 2,.int .i64 1,.bool false]
 let h7:=put h6 2 #[.int .u8 0,.int .u8 1,.int .u8 56,.int .u8 2,.int .u8 57,.int .u8 49,.int .u8 28,.int .u8 3,.int .u8 61,.int .u8 58,.int .u8 42,.int .u8 50,.int .u8 38,.int .u8 29,.int .u8 17,.int .u8 4,.int .u8 62,.int .u8 47,.int .u8 59,.int .u8 36,.int .u8 45,.int .u8 43,.int .u8 51,.int .u8 22,.int .u8 53,.int .u8 39,.int .u8 33,.int .u8 30,.int .u8 24,.int .u8 18,.int .u8 12,.int .u8 5,.int .u8 63,.int .u8 55,.int .u8 48,.int .u8 27,.int .u8 60,.int .u8 41,.int .u8 37,.int .u8 16,.int .u8 46,.int .u8 35,.int .u8 44,.int .u8 21,.int .u8 52,.int .u8 32,.int .u8 23,.int .u8 11,.int .u8 54,.int .u8 26,.int .u8 40,.int .u8 15,.int .u8 34,.int .u8 20,.int .u8 31,.int .u8 10,.int .u8 25,.int .u8 14,.int .u8 19,.int .u8 9,.int .u8 13,.int .u8 8,.int .u8 7,.int .u8 6]
 { w0 with heap:=h7 }
end Go.Proofs.YtkpbpecikibohaaGreatDoor.Ya
