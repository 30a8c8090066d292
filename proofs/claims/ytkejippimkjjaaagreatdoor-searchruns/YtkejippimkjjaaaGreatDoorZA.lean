import Derived.Test.YtkejippimkjjaaaGreatDoorCards
import Derived.Test.YtkejippimkjjaaaGreatDoorTie
import Derived.Test.YtkejippimkjjaaaGreatDoorZSeq
import Derived.Lib.LaidIn
import Derived.Lib.LaidTab
import Derived.Lib.LaidU8
import Derived.Deep.DeepHandedRow
import Derived.Deep.DeepWitnessRowRef
import Derived.ProofKit
import Derived.OpenShut
import Derived.SizedLaws
import Derived.Test.YtkejippimkjjaaaGreatDoorRG1
import Derived.Deep.Slices
set_option linter.unusedSimpArgs false
set_option maxRecDepth 100000
namespace Go.Proofs.YtkejippimkjjaaaGreatDoor
open Go.ChangeShapes Go.WideShapes Go.ChangeAt Go.RowKit
open Bt.Bs (Ok wd)
theorem VJ:ownKnob Tryz.prog.godebug=none:=by kernel_rfl
theorem Br:laidOutB Tryz.prog=true:=by kernel_rfl
theorem Jh {x:Int} (h:(Lit.int .i64 x).wf=true):Fm.i64 x:=by
 have hb:=bounds_i64 h
 exact⟨by omega,by omega⟩
theorem Uf:Rows.laid_math_bits_deBruijn64tab (H:=Unit)=Lib.tabData .u8 (Lib.deBruijn64tab.map fun n:Nat=>(n:Int)):=by kernel_rfl
theorem xR : Tryz.prog.globalNamed "math/bits.deBruijn64tab" = some 0 := by kernel_rfl
theorem QY {W : World} {l : List (String × DataW Unit)} (h : laidMet Tryz.prog l W) (h3 : ("math/bits.deBruijn64tab", Rows.laid_math_bits_deBruijn64tab) ∈ l) : Bt.Tz W := by
 rw[Uf] at h3
 obtain⟨g,t,cs,fuel,p,hg,hty,hvar,hd⟩:=Lib.laidMet.reads h h3
 obtain rfl:=Option.some.inj (xR.symm.trans hg)
 obtain rfl:=Option.some.inj ((show(Tryz.prog.globals[0]?).map (·.type)=some 171 by kernel_rfl).symm.trans hty)
 have hT : Lib.TabIs Tryz.prog W "math/bits.deBruijn64tab" .u8 (Lib.deBruijn64tab.map fun n : Nat => (n : Int)) := by
  unfold Lib.TabIs
  rw[hvar,<- Lib.cells_of_tab Tryz.underlying171 Tryz.underlying5 (by kernel_rfl) (by kernel_rfl) hd]
 intro j hj
 have:=hT.cell xR j (by simpa using hj)
 rw[this]
 congr 1
 simp[List.getD,hj]
noncomputable def qg (os:Os):World :=
 let w0:=World.holding Tryz.prog os ⟨#[],#[],[]⟩
 let put (h:Array Obj) (g:Nat) (cs:Array Value):Array Obj:=h.modify g fun
  | .cells _ t frozen=>.cells cs t frozen
  | o=>o
 let h5:=put w0.heap 0 #[.int .u8 0,.int .u8 1,.int .u8 56,.int .u8 2,.int .u8 57,.int .u8 49,.int .u8 28,.int .u8 3,.int .u8 61,.int .u8 58,.int .u8 42,.int .u8 50,.int .u8 38,.int .u8 29,.int .u8 17,.int .u8 4,.int .u8 62,.int .u8 47,.int .u8 59,.int .u8 36,.int .u8 45,.int .u8 43,.int .u8 51,.int .u8 22,.int .u8 53,.int .u8 39,.int .u8 33,.int .u8 30,.int .u8 24,.int .u8 18,.int .u8 12,.int .u8 5,.int .u8 63,.int .u8 55,.int .u8 48,.int .u8 27,.int .u8 60,.int .u8 41,.int .u8 37,.int .u8 16,.int .u8 46,.int .u8 35,.int .u8 44,.int .u8 21,.int .u8 52,.int .u8 32,.int .u8 23,.int .u8 11,.int .u8 54,.int .u8 26,.int .u8 40,.int .u8 15,.int .u8 34,.int .u8 20,.int .u8 31,.int .u8 10,.int .u8 25,.int .u8 14,.int .u8 19,.int .u8 9,.int .u8 13,.int .u8 8,.int .u8 7,.int .u8 6]
 { w0 with heap:=h5 }
theorem Ey {v:Value} {cs:List Value} (h:v.cells.toList=cs) (hl:cs.length≠1):v=.agg cs.toArray:=by
 have e:v.cells=cs.toArray:=Array.ext' (by rw[h])
 have one:∀ u:Value,v.cells=#[u]->False:=fun u hu=>by
  rw[hu] at h
  subst h
  simp at hl
 cases v with
 | agg ds=>exact congrArg Value.agg e
 | _=>exact(one _ rfl).elim
theorem Bu:Tryz.prog.cellsOf 25=16:=by kernel_rfl
theorem Gg {H:Type} {enc:TypeId × Value->H} {W:World} {v:Value} {d:DataW H} {p:List MemPlace} (h:DataW.Trod enc Tryz.prog W 0 (fun _=>true) true 25 v d p):∃ r,Ok r/\v=.agg (Bt.aD r):=by
 obtain⟨fuel,hf⟩:=h
 obtain⟨xs,m,rfl,hx,hlen,hxl,hel⟩:=DataW.trod_array Bt.lZ hf
 rw[Bu] at hlen
 have hv:=Ey (v:=v) rfl (by rw[hlen];decide)
 generalize hcs:v.cells.toList=cs at *
 have hall:∀ i (hi:i<cs.length),∃ z:Nat,cs[i]=.int .u64 (z:Int)/\z<18446744073709551616:=by
  intro i hi
  have:=hel i (by omega)
  rw[Bt.vI,Nat.mul_one,List.drop_eq_getElem_cons hi,List.take_succ_cons,List.take_zero] at this
  cases hq:xs[i]? with
  | none=>have:=List.getElem?_eq_none_iff.1 hq;omega
  | some y=>
   rw[hq] at this
   obtain⟨z,hz,_,wz⟩:=DataW.trod_int Bt.yL this
   have e:cs[i]=.int .u64 z:=by simpa using hz
   have hb:=bounds_u64 wz
   exact⟨z.toNat,by rw[e];exact fG (by omega),by omega⟩
 refine⟨cs.map fun v=>match v with | .int _ z=>z.toNat | _=>0,⟨by rw[List.length_map];exact hlen,?_⟩,?_⟩
 ·intro x hx
  obtain⟨v,hv,rfl⟩:=List.mem_map.1 hx
  obtain⟨i,hi,rfl⟩:=List.mem_iff_getElem.1 hv
  obtain⟨z,hz,hlt⟩:=hall i hi
  rw[hz]
  simpa using hlt
 ·rw[hv]
  congr 1
  unfold Bt.aD
  congr 1
  apply List.ext_getElem (by simp)
  intro i h1 h2
  obtain⟨z,hz,_⟩:=hall i h1
  simp only[List.getElem_map,hz]
  simp
theorem qZ:Tryz.prog.cellsOf 27=17:=by kernel_rfl
theorem LC {H:Type} {enc:TypeId × Value->H} {W:World} {v:Value} {d:DataW H} {p:List MemPlace} (h:DataW.Trod enc Tryz.prog W 0 (fun _=>true) true 27 v d p):∃ r g,Ok r/\Fm.i64 g/\v=.agg (ak r g):=by
 obtain⟨fuel,hf⟩:=h
 obtain⟨xs,k,hk,hxy,hcl,hxl,hfs⟩:=DataW.trod_struct Tryz.underlying27 hf
 rw[qZ] at hcl
 have hv:=Ey (v:=v) rfl (by rw[hcl];decide)
 generalize v.cells.toList=cs at *
 match xs,hxl with
 | [y0,y1],_=>
  have g0:DataW.trod enc Tryz.prog W 0 (fun _=>true) true k 25 (cs.take 16)=some y0:=by have:=hfs 0 _ rfl;simpa[Bu] using this
  have g1:DataW.trod enc Tryz.prog W 0 (fun _=>true) true k 3 ((cs.drop 16).take 1)=some y1:=by have:=hfs 1 _ rfl;simpa[oO] using this
  obtain⟨r,hr,e0⟩:=Gg (v:=.agg (cs.take 16).toArray) (d:=y0.1) (p:=y0.2) ⟨k,g0⟩
  obtain⟨z,hz,hz2,hz3⟩:=DataW.trod_int Tryz.underlying3 g1
  refine⟨r,z,hr,Jh hz3,?_⟩
  rw[hv]
  congr 1
  injection e0 with e0
  have e1:cs.take 16=Bt.bK r:=by
   have:=congrArg Array.toList e0
   simpa[Bt.aD,Bt.bK] using this
  have e2:cs.drop 16=[.int .i64 z]:=by
   rw[<- hz]
   exact(List.take_of_length_le (by simp;omega)).symm
  unfold ak
  rw[<- e1,<- e2,List.take_append_drop]
end Go.Proofs.YtkejippimkjjaaaGreatDoor
namespace Go.Proofs.YtkejippimkjjaaaGreatDoor
open Go.ChangeShapes Go.WideShapes Go.ChangeAt Go.RowKit
open Fm (Nd)
theorem wR {x:Int} (h:(Lit.int .i64 x).wf=true):Fm.i64 x:=by
 have hb:=bounds_i64 h
 exact⟨by omega,by omega⟩
theorem Ji {H:Type} {ts:List TypeId} {ds:List (DataW H)} (h:(DataW.weightsEach Tryz.prog ts ds).all (·<= reachBytes)=true) {j:Nat} {t:TypeId} {d:DataW H} (ht:ts[j]?=some t) (hd:ds[j]?=some d) :
 ∀ n ∈ d.weights Tryz.prog t,n<=140737488351232:=fun n hn=>by
 have h1:=List.all_eq_true.1 h _ (DataW.weights_mem_each ht hd n hn)
 have h2:n<=reachBytes:=by simpa using h1
 unfold reachBytes at h2
 omega
theorem xS {H:Type} {t:TypeId} {d:DataW H} {l:List (DataW H)} (h:d ∈ l):∀ n ∈ d.weights Tryz.prog t,n ∈ DataW.weightsAll Tryz.prog t l:=by
 induction l with
 | nil=>cases h
 | cons x r ih=>
  intro n hn
  rw[DataW.weightsAll]
  cases List.mem_cons.1 h with
  | inl e=>subst e;exact List.mem_append_left _ hn
  | inr e=>exact List.mem_append_right _ (ih e n hn)
theorem Gh:Tryz.prog.bytesOf 54=40:=by kernel_rfl
theorem Am {H:Type} {enc:TypeId × Value->H} {W:World} {fuel:Nat} {cs:List Value} {y:DataW H × List MemPlace}
 (h2:DataW.trod enc Tryz.prog W 0 (fun _=>true) true fuel 54 cs=some y) (hlen:cs.length=4) :
 ∃ q:Nd,cs=bq q/\q.s.size ∈ y.1.weights Tryz.prog 54/\Fm.i64 q.k/\Fm.i64 q.l/\Fm.i64 q.r:=by
 obtain⟨xs,k,hk,hxy,_,hxl,hfs⟩:=DataW.trod_struct Tryz.underlying54 h2
 match xs,hxl,cs,hlen with
 | [y0,y1,y2,y3],_,[v0,v1,v2,v3],_=>
  have g0:DataW.trod enc Tryz.prog W 0 (fun _=>true) true k 52 [v0]=some y0:=by have:=hfs 0 _ rfl;simpa[xK] using this
  have g1:DataW.trod enc Tryz.prog W 0 (fun _=>true) true k 9 [v1]=some y1:=by have:=hfs 1 _ rfl;simpa[zy] using this
  have g2:DataW.trod enc Tryz.prog W 0 (fun _=>true) true k 3 [v2]=some y2:=by have:=hfs 2 _ rfl;simpa[oO] using this
  have g3:DataW.trod enc Tryz.prog W 0 (fun _=>true) true k 3 [v3]=some y3:=by have:=hfs 3 _ rfl;simpa[oO] using this
  obtain⟨z0,hz0,Gi,VK⟩:=DataW.trod_int Tryz.underlying52 g0
  obtain⟨s,hs,hs2,hs3⟩:=DataW.trod_string Tryz.underlying9 g1
  obtain⟨z2,hz2,Gj,VL⟩:=DataW.trod_int Tryz.underlying3 g2
  obtain⟨z3,hz3,hz32,VN⟩:=DataW.trod_int Tryz.underlying3 g3
  have e0:v0=.int .i64 z0:=by simpa using hz0
  have e1:v1=.string s:=by simpa using hs
  have e2:v2=.int .i64 z2:=by simpa using hz2
  have e3:v3=.int .i64 z3:=by simpa using hz3
  refine⟨⟨z0,s,z2,z3⟩,by rw[e0,e1,e2,e3];rfl,?_,wR VK,wR VL,wR VN⟩
  have hD:y.1=.agg [y0.1,y1.1,y2.1,y3.1]:=by rw[hxy];simp
  rw[hD,DataW.weights,Tryz.underlying54]
  exact DataW.weights_mem_each (j:=1) (t:=9) (d:=y1.1) rfl rfl _ (by rw[hs2];show s.size ∈ [s.data.toList.length];exact List.mem_singleton.2 rfl)
theorem Gl {H:Type} {enc:TypeId × Value->H} {W:World} {base:Nat} {v:Value} {d:DataW H} {p:List MemPlace} (hval:Value.okWide Tryz.prog W .any base 22 v)
 (h:DataW.Trod enc Tryz.prog W 0 (fun _=>true) true 22 v d p) (hsz:∀ n ∈ d.weights Tryz.prog 22,n<=140737488351232):∃ ps:List Nd,kF W v ps/\(∀ n ∈ ps,Fm.good n)/\ps.length * 40<=140737488351232/\(v=.slice none 0 0\/∃ a n c,v=.slice (some a) n c):=by
 obtain⟨a0,len,cap,rfl⟩:=okWide_slice Tryz.underlying22 hval
 obtain⟨fuel,hf⟩:=h
 rcases Deep.open_slice Tryz.underlying22 hf with ⟨hcs,hx⟩ | ⟨a,len',cap',m,n,D,Pl,hcs,hb,hl,hm,hmm,hx,hel⟩
 ·simp only[Value.cells,List.cons.injEq,and_true] at hcs
  obtain⟨rfl,rfl,rfl⟩:=Value.slice.inj (by simpa using hcs)
  exact⟨[],⟨none,0,rfl,by simp,by omega,fun h=>by simp at h⟩,(fun t ht=>by cases ht),by simp,Or.inl rfl⟩
 ·obtain⟨rfl,rfl,rfl⟩:=Value.slice.inj (by simpa[Value.cells] using hcs)
  simp only[if_true] at hmm
  subst hmm
  obtain⟨rfl,rfl⟩:=Prod.mk.inj hx
  rw[sQ] at hel
  have each:∀ i,i<m->∃ q:Nd,(∀ j,j<4->W.cell? (a.add (i * 4+j))=(bq q)[j]?)/\q.s.size ∈ (D i).weights Tryz.prog 54/\Fm.i64 q.k/\Fm.i64 q.l/\Fm.i64 q.r:=by
   intro i hi
   obtain⟨cs',h1,h2⟩:=hel i hi
   obtain⟨_,hlen,hcell⟩:=World.cells?_some h1
   obtain⟨q,hq,hq2⟩:=Am h2 hlen
   refine⟨q,fun j hj => ?_,hq2⟩
   have e:=hcell j (by omega)
   rw[Deep.add_add] at e
   rw[e]
   subst hq
   simp[bq,hj]
  have:Inhabited Nd:=⟨Fm.z⟩
  obtain⟨q,hq⟩:=Deep.choose_lt each
  have hlen:((List.range len).map q).length=len:=by simp
  rw[DataW.weights,Tryz.underlying22] at hsz
  have hb1:=hsz _ List.mem_cons_self
  rw[Gh] at hb1
  simp only[List.length_map,List.length_range] at hb1
  refine⟨(List.range len).map q,⟨some a,m,by rw[hlen],by rw[hlen];exact hl,by unfold maxLen at hm;omega,fun hpos => ?_⟩,fun r hr => ?_,by rw[hlen];omega,Or.inr ⟨_,_,_,rfl⟩⟩
  ·rw[hlen] at hpos
   obtain⟨b,o,s⟩:=a
   have h00:=(hq 0 (by omega)).1 0 (by omega)
   obtain rfl:s=none:=by
    have h01:W.cell? ((⟨b,o,s⟩:Addr).add (0 * 4+0))=some (.int .i64 (q 0).k):=h00
    simpa[Addr.add] using World.cell?_spot h01
   refine⟨b,o,rfl,fun k hk => ?_⟩
   rw[hlen] at hk
   have hk':=(hq k (by omega)).1
   simp only[add_plain] at hk'
   simp only[List.getElem_map,List.getElem_range]
   exact⟨by have:=hk' 0 (by omega);rw[Nat.add_zero] at this;exact this,by have:=hk' 1 (by omega);rw[<- Nat.add_assoc] at this;exact this,by have:=hk' 2 (by omega);rw[<- Nat.add_assoc] at this;exact this,by have:=hk' 3 (by omega);rw[<- Nat.add_assoc] at this;exact this⟩
  ·obtain⟨i,hi,rfl⟩:=List.mem_map.1 hr
   have hi':=List.mem_range.1 hi
   have h1:=(hq i (by omega)).2
   have h2:=xS (t:=54) (List.mem_map_of_mem (f:=D) hi) _ h1.1
   exact⟨h1.2.1,hsz _ (List.mem_cons_of_mem _ (List.mem_append_left _ h2)),h1.2.2.1,h1.2.2.2⟩
end Go.Proofs.YtkejippimkjjaaaGreatDoor
