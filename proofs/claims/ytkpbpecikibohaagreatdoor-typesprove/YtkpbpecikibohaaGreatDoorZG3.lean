import Derived.Test.YtkpbpecikibohaaGreatDoorZG2
import Derived.Test.YtkpbpecikibohaaGreatDoorFG3
import Derived.Deep.MidRow
set_option linter.unusedSimpArgs false
set_option maxRecDepth 100000
set_option maxHeartbeats 4000000
namespace Go.Proofs.YtkpbpecikibohaaGreatDoor
open Go.RowKit Go.Shelf Go.Maps
open Fm (Nd)
open Bt.Bs (Ok wd)
theorem Jo (w:World) (v:Value) (xs:List Int) (hv:Bt.nY w v xs) (x:Int):Calls Tryz.prog 160 #[v,.int .i64 x] w fun e w'=>(∃ i:Int,e=.returned (.int .i64 i)/\decide (i >= 0)=xs.contains x)/\w'=w:=by
 obtain⟨p,c,rfl,hlen,hcell⟩:=hv
 have HC:=show Hid (∀ k (hk:k<xs.length),∃ b o,p=some ⟨b,o,none⟩/\w.cell? ⟨b,o+k,none⟩=some (.int .i64 xs[k])) from hcell
 clear hcell
 go_enter Tryz.func160,Tryz.ntmps160
 go_wp2_with fail
 go_loopw [8] (fun n wr=>∃ (k:Nat),k<=xs.length/\n=.int .i64 (k:Int)/\Hid (∀ j (hj:j<xs.length),j<k->xs[j]≠x)/\wr=w) (fun n _=>xs.length - (intOf n).toNat)
 case atStart=>exact⟨0,by omega,rfl,fun j _ h=>by omega,rfl⟩
 case round=>
  obtain⟨k,hk,rfl,HI,hw⟩:=hrel
  subst hw
  by_cases hlt:k<xs.length
  ·obtain⟨bb,o,rfl,hc⟩:=HC.out k hlt
   have Dz:(k:Int)<(xs.length:Int):=by omega
   by_cases hx:xs[k]=x
   ·have hb:(x == xs[k])=true:=by simpa using hx.symm
    have HX:=show Hid (xs.contains x=true) from by
     show xs.contains x=true
     rw[List.contains_iff_mem,<- hx]
     exact List.getElem_mem hlt
    clear HI HC hx
    generalize xs[k]=y at *
    go_wp2_with fail
    go_ret
    refine⟨⟨(k:Int),rfl,?_⟩,rfl⟩
    rw[HX.out]
    simp
   ·have hb:(x == xs[k])=false:=by simpa using fun e:x=xs[k]=>hx e.symm
    have HI2:=show Hid (∀ j (hj:j<xs.length),j<k+1->xs[j]≠x) from fun j hj h=>by
     by_cases e:j=k
     ·subst e;exact hx
     ·exact HI.out j hj (by omega)
    clear HI HC hx
    generalize xs[k]=y at *
    go_wp2_with fail
    go_roundw
    case rel=>exact⟨k+1,by omega,gB (by omega),HI2.out,trivial⟩
    case measure=>(simp only[intOf];omega)
  ·obtain rfl:k=xs.length:=by omega
   have HX:=show Hid (xs.contains x=false) from by
    show xs.contains x=false
    cases h:xs.contains x with
    | false=>rfl
    | true=>
     obtain⟨j,hj,e⟩:=List.mem_iff_getElem.1 (List.contains_iff_mem.1 h)
     exact absurd e (HI.out j hj hj)
   clear HI HC
   go_wp2_with fail
   go_ret
   refine⟨⟨-1,rfl,?_⟩,rfl⟩
   rw[HX.out]
   rfl
theorem BU (w:World) (v:Value) (xs:List Int) (hv:Bt.nY w v xs) (x:Int):Calls Tryz.prog 144 #[v,.int .i64 x] w fun e w'=>e=.returned (.bool (xs.contains x))/\w'=w:=by
 have K:=show Hid _ from Jo w v xs hv x
 clear hv
 generalize xs.contains x=q at *
 go_enter Tryz.func144,Tryz.ntmps144
 go_wp2_with fail
 refine Calls.mono K.out ?_
 rintro e w1 ⟨⟨i,rfl,hi⟩,rfl⟩
 have HI:=show Hid _ from hi
 clear hi K
 go_wp2_with fail
 go_ret
 refine⟨?_,rfl⟩
 rw[<- HI.out]
 rfl
theorem GX (w0:World) {rb:Nat} {rv:Value} (xs:List Int) (hb:Cl w0 rb #[rv] 179) (hv:Bt.nY w0 rv xs) (x:T3):Calls Tryz.prog 143 #[.agg (c3 x).toArray,.pointer (some ⟨rb,0,none⟩)] w0 fun e w'=>e=.returned (.bool (!xs.contains x.n))/\Below w0.heap.size w0 w':=by
 have KC:=show Hid (∀ W:World,Below w0.heap.size w0 W->Calls Tryz.prog 144 #[rv,.int .i64 x.n] W fun e w'=>e=.returned (.bool (xs.contains x.n))/\w'=W) from fun W h=>BU W rv xs (hv.later h) x.n
 have HB:=show Hid (∀ W:World,Below w0.heap.size w0 W->W.cell? ⟨rb,0,none⟩=some rv) from fun W h=>(hb.later h).cell 0
 obtain⟨p,c,rfl,-⟩:=hv
 clear hb
 generalize xs.contains x.n=q at *
 go_enter Tryz.func143,Tryz.ntmps143
 go_wp2_with (refine aC 186 _ rfl _ rfl rfl ?_)
 intro w1 b2 hn1
 have H1:=show Hid (Below w0.heap.size w0 w1) from hn1.av
 have c1:=HB.out w1 hn1.av
 have d0:w1.cell? ⟨b2,0,none⟩=some (.int .i64 x.n):=Cl.cell hn1.blk 0
 have KX:=show Hid _ from KC.out w1 hn1.av
 clear hn1 HB KC
 go_wp2_with fail
 refine Calls.mono KX.out ?_
 rintro e w2 ⟨rfl,hw2⟩
 subst w2
 clear KX
 go_wp2_with fail
 go_ret
 exact⟨rfl,H1.out⟩
end Go.Proofs.YtkpbpecikibohaaGreatDoor
namespace Go.Proofs.YtkpbpecikibohaaGreatDoor
open Go.RowKit Go.Shelf Go.Maps
open Fm (Nd)
def Rt (w:World) (g:Nat) (L:List T3):Prop :=
 ∃ cur,w.heap[g]?=some (.cells cur 186 (0,0))/\L.length * 3<=cur.size/\∀ j (hj:j<L.length),cur[j * 3]?=some (.int .i64 L[j].n)/\cur[j * 3+1]?=some L[j].fv/\cur[j * 3+2]?=some L[j].pv
theorem om (l:List T3):(jD l).length=l.length * 3:=by
 induction l with
 | nil=>rfl
 | cons n r ih=>show(c3 n ++ jD r).length=_;rw[List.length_append,ih,List.length_cons];show 3+_=_;omega
theorem wh:∀ (t:List T3) (k j:Nat) (hk:k<t.length),j<3->(jD t)[k * 3+j]?=(c3 t[k])[j]?
 | [],k,j,hk,_=>absurd hk (by simp)
 | n :: t,0,j,hk,hj=>by
  show(c3 n ++ jD t)[0 * 3+j]?=_
  rw[List.getElem?_append_left (by show 0 * 3+j<3;omega),Nat.zero_mul,Nat.zero_add]
  rfl
 | n :: t,k+1,j,hk,hj=>by
  have hl:(c3 n).length=3:=rfl
  show(c3 n ++ jD t)[(k+1) * 3+j]?=_
  rw[List.getElem?_append_right (by rw[hl];omega),hl,show(k+1) * 3+j - 3=k * 3+j by omega]
  rw[wh t k j (by simpa using hk) hj]
  rfl
theorem Vi (x:T3):∀ u ∈ c3 x,u.oneCell'=true:=by
 intro u hu
 simp only[c3,List.mem_cons,List.not_mem_nil,or_false] at hu
 rcases hu with rfl | rfl | rfl <;> rfl
theorem Jp (t:List T3):∀ u ∈ jD t,u.oneCell'=true:=by
 intro u hu
 obtain⟨n,_,hn⟩:=List.mem_flatMap.1 hu
 exact Vi n u hn
theorem zA {w:World} {g:Nat} {L:List T3} {cur:Array Value} (h:w.heap[g]?=some (.cells cur 186 (0,0))) (hs:L.length * 3<=cur.size) (ht:cur.toList.take (L.length * 3)=jD L):Rt w g L:=by
 refine⟨cur,h,hs,fun j hj => ?_⟩
 have hc:∀ q,q<3->cur[j * 3+q]?=(c3 L[j])[q]?:=fun q hq=>by
  rw[<- wh L j q hj hq,<- ht,List.getElem?_take,if_pos (by omega)]
  simp
 exact⟨hc 0 (by omega),hc 1 (by omega),hc 2 (by omega)⟩
theorem OU {w:World} {g:Nat} {L:List T3} (h:Cl w g (jD L).toArray 186):Rt w g L :=
 zA h (by simp[om]) (by rw[<- om];simp)
section
variable {w w':World} {g:Nat} {L:List T3}
theorem Rt.lt (h:Rt w g L):g<w.heap.size:=by obtain⟨cur,h,_⟩:=h;exact lt_of_block h
theorem Rt.keep (h:Rt w g L) (hk:w'.heap[g]?=w.heap[g]?):Rt w' g L:=by
 obtain⟨cur,h1,h2⟩:=h
 exact⟨cur,hk.trans h1,h2⟩
theorem Rt.later (h:Rt w g L) (hb:Below w.heap.size w w'):Rt w' g L:=h.keep (hb.block g h.lt)
theorem Rt.range (h:Rt w g L) {j:Nat} (hj:j<L.length):w.rangeAt g (j * 3) (c3 L[j]):=fun q v hv=>by
 obtain⟨cur,h1,_,h3⟩:=h
 obtain⟨e0,e1,e2⟩:=h3 j hj
 rw[cell_of_row w g _ _ _ _ h1]
 match q,hv with
 | 0,hv=>rw[Nat.add_zero,e0];exact hv
 | 1,hv=>rw[e1];exact hv
 | 2,hv=>rw[e2];exact hv
theorem sizeT:(Tryz.prog.info? 186).map (·.size)=some 3:=by kernel_rfl
theorem Rt.load (h:Rt w g L) {j:Nat} (hj:j<L.length):(Instr.loadAt 186 (.pointer (some ⟨g,j * 3,none⟩))).run Tryz.prog w=.ok (.agg (c3 L[j]).toArray) w :=
 run_loadAt_mid (P:=Tryz.prog) w g (j * 3) 186 (c3 L[j]) _ (h.range hj) Tryz.underlying186 rfl (by rw[sizeT];rfl)
theorem Rt.set (h:Rt w g L) {i:Nat} (hi:i<L.length) (x:T3):∃ w',(Instr.storeAt 186 (.pointer (some ⟨g,i * 3,none⟩)) (.agg (c3 x).toArray)).run Tryz.prog w=.ok () w'/\Rt w' g (L.set i x)/\dn g w w':=by
 obtain⟨cur,h1,h2,h3⟩:=h
 refine⟨_,run_storeAt_mid (P:=Tryz.prog) w g (i * 3) 186 (c3 x).toArray ?_ (by rw[sizeT];rfl) ?_,?_,sQ g _ _ w⟩
 ·intro j hj
  have hj':j<3:=hj
  refine⟨?_,frozen_of_row w g _ _ _ h1⟩
  rw[cell_of_row w g _ _ _ _ h1]
  simp
  omega
 ·simp[c3,Value.oneCell',T3.fv,T3.pv]
 ·refine⟨_,oO g 186 _ _ w cur h1,?_,fun j hj => ?_⟩
  ·simp only[c3,Aa,List.length_set]
   simpa using h2
  ·have hj2:j<L.length:=by simpa using hj
   obtain⟨e0,e1,e2⟩:=h3 j hj2
   have hu:Aa cur (i * 3) (c3 x)=((cur.setIfInBounds (i * 3) (.int .i64 x.n)).setIfInBounds (i * 3+1) x.fv).setIfInBounds (i * 3+2) x.pv:=rfl
   rw[show((c3 x).toArray).toList=c3 x from rfl,hu]
   by_cases e:i=j
   ·subst e
    have g0:i * 3<cur.size:=by omega
    have g1:i * 3+1<cur.size:=by omega
    have g2:i * 3+2<cur.size:=by omega
    rw[List.getElem_set_self]
    refine⟨?_,?_,?_⟩
    ·rw[Array.getElem?_setIfInBounds_ne (by omega),Array.getElem?_setIfInBounds_ne (by omega)]
     simp[g0]
    ·rw[Array.getElem?_setIfInBounds_ne (by omega)]
     simp[g1]
    ·simp[g2]
   ·rw[List.getElem_set_ne e]
    refine⟨?_,?_,?_⟩
    ·rw[Array.getElem?_setIfInBounds_ne (by omega),Array.getElem?_setIfInBounds_ne (by omega),Array.getElem?_setIfInBounds_ne (by omega)];exact e0
    ·rw[Array.getElem?_setIfInBounds_ne (by omega),Array.getElem?_setIfInBounds_ne (by omega),Array.getElem?_setIfInBounds_ne (by omega)];exact e1
    ·rw[Array.getElem?_setIfInBounds_ne (by omega),Array.getElem?_setIfInBounds_ne (by omega),Array.getElem?_setIfInBounds_ne (by omega)];exact e2
theorem Rt.take (h:Rt w g L) (n:Nat):Rt w g (L.take n):=by
 obtain⟨cur,h1,h2,h3⟩:=h
 refine⟨cur,h1,by rw[List.length_take];omega,fun j hj => ?_⟩
 rw[List.getElem_take]
 exact h3 j (by rw[List.length_take] at hj;omega)
end
theorem tZ (w:World):(zeroValue 186).run Tryz.prog w=.ok (.agg #[.int .i64 0,Value.nilFunc,Value.nilFunc]) w:=by kernel_rfl
theorem Jq (n:Nat):∀ u ∈ (Builtin.zeroCells #[.int .i64 0,Value.nilFunc,Value.nilFunc] n).toList,u.oneCell'=true:=by
 intro u hu
 unfold Builtin.zeroCells at hu
 simp at hu
 obtain⟨a,_,rfl⟩:=hu
 have h4:a % 3=0\/a % 3=1\/a % 3=2:=by omega
 rcases h4 with h4 | h4 | h4 <;> rw[h4] <;> rfl
theorem Rt.clear {w:World} {g:Nat} {L:List T3} (h:Rt w g L) (ty:TypeId) (i c:Nat) (hi:i<=L.length):∃ w',(Builtin.clear_ #[172] ty #[.slice (some ⟨g,i * 3,none⟩) (L.length - i) c]).run Tryz.prog w=.ok (.tuple #[]) w'/\Rt w' g (L.take i)/\dn g w w':=by
 by_cases e:L.length - i=0
 ·refine⟨w,?_,h.take i,Kp.refl _ w⟩
  rw[e]
  simp[Builtin.clear_,run_underlying Tryz.underlying172]
 ·obtain⟨n,hn⟩:∃ n,L.length - i=n+1:=⟨L.length - i - 1,by omega⟩
  obtain⟨cur,h1,h2,h3⟩:=h
  rw[hn]
  have hsz:(Builtin.zeroCells #[.int .i64 0,Value.nilFunc,Value.nilFunc] (n+1)).toList.length=(n+1) * 3:=by
   rw[Array.length_toList,size_zeroCells]
   rfl
  have hone:=Jq (n+1)
  have hcl:∀ w':World,(storeCells ⟨g,i * 3,none⟩ (Builtin.zeroCells #[.int .i64 0,Value.nilFunc,Value.nilFunc] (n+1)).toList).run Tryz.prog w=.ok () w'->(Builtin.clear_ #[172] ty #[.slice (some ⟨g,i * 3,none⟩) (n+1) c]).run Tryz.prog w=.ok (.tuple #[]) w':=by
   intro w' h
   have hz:=tZ w
   simp[Builtin.clear_,run_underlying Tryz.underlying172,hz,Value.cells,Result.andThen,h]
  generalize (Builtin.zeroCells #[.int .i64 0,Value.nilFunc,Value.nilFunc] (n+1)).toList=zs at *
  have hst:=run_storeCells_at Tryz.prog g (i * 3) 186 zs 0 cur w h1 (by rw[hsz];omega) hone
  simp only[Nat.add_zero] at hst
  have hl:(cur.toList.take (i * 3)).length=i * 3:=by rw[List.length_take,Array.length_toList];omega
  refine⟨_,hcl _ hst,⟨_,setRow_heap w g cur _ 186 _ h1,?_,fun j hj => ?_⟩,fJ w g _⟩
  ·simp only[List.size_toArray,List.length_append,List.length_drop,Array.length_toList,hl,hsz,List.length_take]
   omega
  ·have hj2:j<i:=by rw[List.length_take] at hj;omega
   have hp:∀ q,q<i * 3->(cur.toList.take (i * 3) ++ zs ++ cur.toList.drop (i * 3+zs.length)).toArray[q]?=cur[q]?:=fun q hq=>by
    simp only[List.getElem?_toArray,List.append_assoc]
    rw[List.getElem?_append_left (by omega),List.getElem?_take,if_pos hq]
    simp
   rw[List.getElem_take,hp _ (by omega),hp _ (by omega),hp _ (by omega)]
   exact h3 j (by omega)
theorem Jr:(Tryz.prog.info? 186).map (fun i=>(i.zero,i.size,i.bytes))=some (some (.agg #[.int .i64 0,Value.nilFunc,Value.nilFunc]),3,24):=by kernel_rfl
theorem Js (w:World) (d:Nat) (a:Addr) (l c:Nat):(Op.equalIn (d+1) 172 (.slice (some a) l c) (.slice none 0 0)).run Tryz.prog w=.ok false w:=by
 simp[Op.equalIn,run_underlying Tryz.underlying172]
theorem FK (w:World) (a:Addr) (l c:Nat):(binOp .eql 172 (.slice (some a) l c) (.slice none 0 0)).run Tryz.prog w=.ok (.bool false) w:=by
 simp only[binOp]
 have e:(Op.equal 172 (.slice (some a) l c) (.slice none 0 0)).run Tryz.prog w=.ok false w:=Js w 9999 a l c
 simp[e]
theorem Mh {w:World} {B n:Nat} {v:Value} {t:List T3} (h:w.ownsRow B 186 3 v n (jD t)) (h0:t≠[]):∃ g cap,v=.slice (some ⟨g,0,none⟩) t.length cap/\Rt w g t/\B<=g/\t.length<=cap/\cap<=maxLen:=by
 have hn:n=t.length:=by have:=h.1;rw[om] at this;omega
 subst hn
 rcases h.2 with ⟨rfl,e0⟩ | ⟨g,cap,cur,rfl,hg,hh,h1,h2,h3,h4⟩
 ·exact absurd (List.eq_nil_of_length_eq_zero e0) h0
 ·exact⟨g,cap,rfl,zA hh (by omega) h4,hg,h1,h2⟩
theorem Jt (w:World) {T c:Nat} {t:List T3} (h:Rt w T t) (h0:t≠[]) (hl:t.length<=1000) :
 Calls Tryz.prog 142 #[.slice (some ⟨T,0,none⟩) t.length c] w fun e w'=>∃ g cap,e=.returned (.slice (some ⟨g,0,none⟩) t.length cap)/\Rt w' g t/\w.heap.size<=g/\t.length<=cap/\cap<=maxLen/\Below w.heap.size w w':=by
 have hq:=fun w a l c=>FK w a l c
 obtain⟨i0,hi,hz0,hz1,hz2⟩:=info_parts Jr
 have uG:=show Hid (∀ j u,(jD t)[j]?=some u->(w.alloc (Obj.cells #[] 186)).cell? ((⟨T,0,none⟩:Addr).add j)=some u) from fun j u hu=>by
  obtain⟨hj,_⟩:=List.getElem?_eq_some_iff.1 hu
  rw[om] at hj
  obtain⟨cur,h1,_,h3⟩:=h.later (ak w (Obj.cells #[] 186))
  have hk:j / 3<t.length:=by omega
  obtain⟨e0,e1,e2⟩:=h3 (j / 3) hk
  have e:=wh t (j / 3) (j % 3) hk (by omega)
  rw[show j / 3 * 3+j % 3=j by omega,hu] at e
  rw[Addr.add_lit,Nat.zero_add,cell_of_row _ T _ _ _ _ h1]
  have h4:j % 3=0\/j % 3=1\/j % 3=2:=by omega
  rcases h4 with h4 | h4 | h4
  ·rw[h4] at e
   rw[show j=j / 3 * 3 by omega,e0,e];rfl
  ·rw[h4] at e
   rw[show j=j / 3 * 3+1 by omega,e1,e];rfl
  ·rw[h4] at e
   rw[show j=j / 3 * 3+2 by omega,e2,e];rfl
 obtain⟨xs,hxs⟩:∃ xs,xs=jD t:=⟨_,rfl⟩
 have Gh:=show Hid (xs=jD t) from hxs
 rw[<- hxs] at uG
 have yQ:=show Hid (xs.length=t.length * 3) from by rw[hxs];exact om t
 have aB:=show Hid (∀ u ∈ xs,u.oneCell'=true) from by rw[hxs];exact Jp t
 clear hxs h
 go_enter Tryz.func142,Tryz.ntmps142
 go_wp2_with (at_builtin;refine wpList_append_own_at _ rfl (.tmp 5) (.tmp 6) 172 rfl w.heap.size 186 i0 _ 3 24 Tryz.underlying172 hi hz0 hz1 hz2 rfl (by decide) (.slice (some ⟨w.heap.size,0,none⟩) 0 0) 0 [] rfl (World.ownsRow_made w #[] 0 (Nat.le_refl _) (Nat.zero_le _) rfl) ⟨T,0,none⟩ t.length c xs rfl yQ.out uG.out aB.out (by unfold maxLen;omega) (by omega) (by simp) ?_)
 intro v' w1 hown hgr hnil hat
 have HOW:=show Hid (w1.ownsRow w.heap.size 186 3 v' t.length xs) from hown
 have TA:=show Hid ((w.alloc (Obj.cells #[] 186)).grownBy w1 (some w.heap.size)) from hgr
 clear hown hgr hnil hat
 go_wp2_with fail
 go_ret
 have h1:=HOW.out
 rw[Gh.out] at h1
 obtain⟨g,cap,hv,r1,r2,r3,r4⟩:=Mh h1 h0
 exact⟨g,cap,by rw[<- hv];rfl,r1,r2,r3,r4,(ak _ _).grown TA.out (by simp) (fun k hk=>by cases hk;exact Nat.le_refl _)⟩
open Bt.Bs (Ok wd)
def iG (xs:List Int) (x:T3):Bool:=xs.contains x.n
structure Cap (w:World) (rb:Nat) (rv:Value) (xs:List Int):Prop where
 box:Cl w rb #[rv] 179
 Vj:Bt.nY w rv xs
theorem Cap.later {w w':World} {rb:Nat} {rv:Value} {xs:List Int} (h:Cap w rb rv xs) (hb:Below w.heap.size w w'):Cap w' rb rv xs:=⟨h.box.later hb,h.Vj.later hb⟩
section
variable {ops:Array Oper} {rest:List Oper} {o:Oper} {a:Act} {Q:Exit->Act->World->Prop} {w:World}
theorem Ju (x:Operand) (hop:o.op=Op.load 186 x) (g j:Nat) (hx:a.eval x=.pointer (some ⟨g,j * 3,none⟩)) {L:List T3} (h:Rt w g L) (hj:j<L.length) (hg:Region.wanted o (yielded ops a.tmps)=true) (hK:wpList Tryz.prog ops Q rest (a.put o.dst (.agg (c3 L[j]).toArray)) w):wpList Tryz.prog ops Q (o :: rest) a w:=by
 refine Bt.wpList_want hg fun K' hK' => ?_
 have hrun:=h.load hj
 unfold Oper.wp
 simp[execOp,hop,hx,hrun,Result.andThen]
 exact hK' _ _ hK
theorem Jv (x:Operand) (T:TypeId) (hop:o.op=Op.load T x) (p:Value) (hx:a.eval x=p) (v:Value) (hrun:(Instr.loadAt T p).run Tryz.prog w=.ok v w) (hg:Region.wanted o (yielded ops a.tmps)=true) (hK:wpList Tryz.prog ops Q rest (a.put o.dst v) w):wpList Tryz.prog ops Q (o :: rest) a w:=by
 refine Bt.wpList_want hg fun K' hK' => ?_
 unfold Oper.wp
 simp[execOp,hop,hx,hrun,Result.andThen]
 exact hK' _ _ hK
theorem zB (x:T3):(c3 x).toArray.all (·.oneCell')=true:=by simp[c3,Value.oneCell',T3.fv,T3.pv]
theorem Jw (hg:o.guard=none) (hd:o.dst=none) (x y:Operand) (hop:o.op=Op.store 186 x y) (g j:Nat) (hx:a.eval x=.pointer (some ⟨g,j * 3,none⟩)) (z:T3) (hy:a.eval y=.agg (c3 z).toArray) {L:List T3} (h:Rt w g L) (hj:j<L.length) (hK:∀ w',Rt w' g (L.set j z)->dn g w w'->wpList Tryz.prog ops Q rest a w'):wpList Tryz.prog ops Q (o :: rest) a w:=by
 refine wpList_plain hg fun K' hK' => ?_
 obtain⟨w',hrun,h1,h2⟩:=h.set hj z
 unfold Oper.wp
 simp[execOp,hop,hx,hy,hrun,Result.andThen]
 rw[Oper.upon_skip,hd]
 exact hK' _ _ (hK w' h1 h2)
end
theorem Ai (w:World) {g c rb:Nat} {rv:Value} {xs:List Int} {L:List T3} (h:Rt w g L) (hL:L.length<=1000) (hC:Cap w rb rv xs) :
 Calls Tryz.prog 159 #[.slice (some ⟨g,0,none⟩) L.length c,.func (.func 143) #[] #[.pointer (some ⟨rb,0,none⟩)]] w fun e w'=>
  ((e=.returned (.int .i64 (-1))/\∀ j (hj:j<L.length),iG xs L[j]=true)\/(∃ i:Nat,∃ hi:i<L.length,e=.returned (.int .i64 (i:Int))/\iG xs L[i]=false/\∀ j (hj:j<L.length),j<i->iG xs L[j]=true))/\Below w.heap.size w w':=by
 have HR:=show Hid (∀ W:World,Below w.heap.size w W->Rt W g L) from fun W hb=>h.later hb
 have KO:=show Hid (∀ (W:World) (x:T3),Below w.heap.size w W->Calls Tryz.prog 143 #[.agg (c3 x).toArray,.pointer (some ⟨rb,0,none⟩)] W fun e w'=>e=.returned (.bool (!xs.contains x.n))/\Below W.heap.size W w') from fun W x hb=>GX W xs (hC.later hb).box (hC.later hb).Vj x
 clear h hC
 go_enter Tryz.func159,Tryz.ntmps159
 go_wp2_with fail
 go_loopw [8] (fun n wr=>∃ (k:Nat),k<=L.length/\n=.int .i64 (k:Int)/\Hid ((∀ j (hj:j<L.length),j<k->iG xs L[j]=true)/\Below w.heap.size w wr)) (fun n _=>L.length - (intOf n).toNat)
 case atStart=>exact⟨0,by omega,rfl,fun j _ h=>by omega,Below.refl _ _⟩
 case round=>
  obtain⟨k,hk,rfl,HI⟩:=hrel
  by_cases hlt:k<L.length
  ·have Dz:(k:Int)<(L.length:Int):=by omega
   have HR2:=show Hid _ from HR.out wr HI.out.2
   have KX:=show Hid _ from KO.out wr L[k] HI.out.2
   have HK:=show Hid (iG xs L[k]=xs.contains L[k].n) from rfl
   have nW:=show Hid (k<L.length) from hlt
   clear HR KO
   go_wp2_with (refine Ju _ rfl g k (by simp[Act.eval]) HR2.out nW.out rfl ?_)
   refine Calls.mono KX.out ?_
   rintro e w1 ⟨rfl,hb1⟩
   have HB1:=show Hid (Below w.heap.size w w1) from HI.out.2.trans (hb1.mono HI.out.2.size)
   clear KX hb1 HR2
   cases hx:xs.contains L[k].n
   ·have HX:=show Hid (iG xs L[k]=false) from hx
    clear hx
    go_wp2_with fail
    go_ret
    exact⟨Or.inr ⟨k,nW.out,rfl,HX.out,fun j hj h=>HI.out.1 j hj h⟩,HB1.out⟩
   ·have HI2:=show Hid (∀ j (hj:j<L.length),j<k+1->iG xs L[j]=true) from fun j hj h=>by
     by_cases e:j=k
     ·subst e;exact hx
     ·exact HI.out.1 j hj (by omega)
    clear hx
    go_wp2_with fail
    go_roundw
    case rel=>exact⟨k+1,by omega,gB (by omega),HI2.out,HB1.out⟩
    case measure=>(simp only[intOf];omega)
  ·obtain rfl:k=L.length:=by omega
   clear HR KO
   go_wp2_with fail
   go_ret
   exact⟨Or.inl ⟨rfl,fun j hj=>HI.out.1 j hj hj⟩,HI.out.2⟩
structure rG (L M:List T3) (p:T3->Bool) (i j:Nat):Prop where
 len:M.length=L.length
 ij:i<j
 jn:j<=L.length
 pre:M.take i=(L.take j).filter p
 post:M.drop j=L.drop j
theorem filter_all {p:T3->Bool} {L:List T3} (h:∀ j (hj:j<L.length),p L[j]=true):L.filter p=L:=by
 rw[List.filter_eq_self]
 intro x hx
 obtain⟨j,hj,rfl⟩:=List.mem_iff_getElem.1 hx
 exact h j hj
theorem mZ (p:T3->Bool) (L:List T3) (j:Nat) (hj:j<L.length):(L.take (j+1)).filter p=(L.take j).filter p ++ if p L[j] then [L[j]] else []:=by
 rw[List.take_succ_eq_append_getElem hj,List.filter_append]
 congr 1
 cases h:p L[j] <;> simp[h]
theorem Mi {L:List T3} {p:T3->Bool} {i:Nat} (hi:i<L.length) (hf:p L[i]=false) (h:∀ j (hj:j<L.length),j<i->p L[j]=true):rG L L p i (i+1):=by
 refine⟨rfl,by omega,by omega,?_,rfl⟩
 rw[mZ p L i hi,hf]
 simp only[Bool.false_eq_true,if_false,List.append_nil]
 symm
 apply filter_all
 intro j hj
 rw[List.length_take] at hj
 rw[List.getElem_take]
 exact h j (by omega) (by omega)
theorem rG.at {L M:List T3} {p:T3->Bool} {i j:Nat} (h:rG L M p i j) (hj:j<L.length):M[j]'(by rw[h.len];exact hj)=L[j]:=by
 have hm:j<M.length:=by rw[h.len];exact hj
 have e:=h.post
 rw[List.drop_eq_getElem_cons hm,List.drop_eq_getElem_cons hj] at e
 exact(List.cons.inj e).1
theorem rG.keep {L M:List T3} {p:T3->Bool} {i j:Nat} (h:rG L M p i j) (hj:j<L.length) (hp:p L[j]=true):rG L (M.set i L[j]) p (i+1) (j+1):=by
 have hm:j<M.length:=by rw[h.len];exact hj
 have hi:i<M.length:=by have:=h.ij;omega
 refine⟨by rw[List.length_set,h.len],by have:=h.ij;omega,by omega,?_,?_⟩
 ·rw[mZ p L j hj,hp,<- h.pre]
  simp only[if_true]
  rw[List.take_succ_eq_append_getElem (by rw[List.length_set];exact hi),List.getElem_set_self,List.take_set_of_le (Nat.le_refl _)]
 ·have e:=h.post
  rw[List.drop_eq_getElem_cons hm,List.drop_eq_getElem_cons hj] at e
  rw[List.drop_set_of_lt (by have:=h.ij;omega)]
  exact(List.cons.inj e).2
theorem rG.skip {L M:List T3} {p:T3->Bool} {i j:Nat} (h:rG L M p i j) (hj:j<L.length) (hp:p L[j]=false):rG L M p i (j+1):=by
 have hm:j<M.length:=by rw[h.len];exact hj
 refine⟨h.len,by have:=h.ij;omega,by omega,?_,?_⟩
 ·rw[mZ p L j hj,hp,<- h.pre]
  simp
 ·have e:=h.post
  rw[List.drop_eq_getElem_cons hm,List.drop_eq_getElem_cons hj] at e
  exact(List.cons.inj e).2
theorem rG.done {L M:List T3} {p:T3->Bool} {i:Nat} (h:rG L M p i L.length):M.take i=L.filter p:=by rw[h.pre,List.take_length]
theorem yw {B:Nat} {w0 w w':World} {g:Nat} (h:Below B w0 w) (hk:dn g w w') (hB:B<=g) (hs:B<=w.heap.size):Below B w0 w' :=
 ⟨hk.os.trans h.os,hk.tape.trans h.tape,hk.output.trans h.output,Nat.le_trans h.size hk.size,fun k hk2=>(hk.block k (by omega) (by omega)).trans (h.block k hk2)⟩
theorem zC {B:Nat} {w0 w w':World} (h:Below B w0 w) (hb:Below w.heap.size w w') (hs:B<=w.heap.size):Below B w0 w':=h.trans (hb.mono hs)
theorem zD (w:World) {B g c rb:Nat} {rv:Value} {xs:List Int} {L:List T3} (h:Rt w g L) (hL:L.length<=1000) (hc:L.length<=c) (_hcm:c<=maxLen) (hBg:B<=g) (hBw:B<=w.heap.size) (hC:∀ W,Below B w W->Cap W rb rv xs) :
 Calls Tryz.prog 141 #[.slice (some ⟨g,0,none⟩) L.length c,.func (.func 143) #[] #[.pointer (some ⟨rb,0,none⟩)]] w fun e w'=>
  e=.returned (.slice (some ⟨g,0,none⟩) (L.filter (iG xs)).length c)/\Rt w' g (L.filter (iG xs))/\Below B w w':=by
 have KI:=show Hid _ from Ai (c:=c) w h hL (hC w (Below.refl _ _))
 have KO:=show Hid (∀ (W:World) (x:T3),Below B w W->Calls Tryz.prog 143 #[.agg (c3 x).toArray,.pointer (some ⟨rb,0,none⟩)] W fun e w'=>e=.returned (.bool (!xs.contains x.n))/\Below W.heap.size W w') from fun W x hb=>GX W xs (hC W hb).box (hC W hb).Vj x
 have HR:=show Hid (Rt w g L) from h
 have Mj:=show Hid (B<=g/\B<=w.heap.size) from⟨hBg,hBw⟩
 clear h hC hBg hBw
 go_enter Tryz.func141,Tryz.ntmps141
 go_wp2_with fail
 refine Calls.mono KI.out ?_
 rintro e w1 ⟨hcase,hb1⟩
 have HB1:=show Hid (Below w.heap.size w w1) from hb1
 clear hb1 KI
 rcases hcase with ⟨rfl,hall⟩ | ⟨i,hi,rfl,hf,hall⟩
 ·have HF:=show Hid (L.filter (iG xs)=L) from filter_all hall
  clear hall KO
  go_wp2_with fail
  go_ret
  rw[HF.out]
  exact⟨rfl,HR.out.later HB1.out,HB1.out.mono Mj.out.2⟩
 ·have HD:=show Hid (rG L L (iG xs) i (i+1)) from Mi hi hf hall
  have hne:((i:Int) == -1)=false:=by
   rw[beq_eq_false_iff_ne]
   omega
  have HI:=show Hid (i<L.length) from hi
  have adb:(i:Int)<(L.length:Int):=by omega
  clear hi hf hall
  go_wp2_with fail
  go_loopw [5,6] (fun ni nj wr=>∃ (i j:Nat) (M:List T3),ni=.int .i64 (i:Int)/\nj=.int .i64 (j:Int)/\j<=L.length/\Hid (rG L M (iG xs) i j/\Rt wr g M/\Below B w wr)) (fun _ nj _=>L.length - (intOf nj).toNat)
  case atStart=>exact⟨i,i+1,L,rfl,gB (by omega),by have:=HI.out;omega,HD.out,HR.out.later HB1.out,HB1.out.mono Mj.out.2⟩
  case round=>
   obtain⟨i,j,M,rfl,rfl,hjn,HQ⟩:=hrel
   clear HD HR HB1 HI hne
   have Yy:=show Hid (B<=wr.heap.size) from Nat.le_trans Mj.out.2 HQ.out.2.2.size
   by_cases hlt:j<L.length
   ·have Dz:(j:Int)<(L.length:Int):=by omega
    have Yz:=show Hid (j<M.length) from by show j<M.length;rw[HQ.out.1.len];exact hlt
    have GD:=show Hid (M[j]'Yz.out=L[j]) from HQ.out.1.at hlt
    obtain⟨x,hx⟩:∃ x,x=L[j]:=⟨_,rfl⟩
    have HX:=show Hid (x=L[j]) from hx
    have xI:=show Hid ((Instr.loadAt 186 (.pointer (some ⟨g,j * 3,none⟩))).run Tryz.prog wr=.ok (.agg (c3 x).toArray) wr) from by
     show(Instr.loadAt 186 (.pointer (some ⟨g,j * 3,none⟩))).run Tryz.prog wr=.ok (.agg (c3 x).toArray) wr
     rw[hx,<- GD.out]
     exact HQ.out.2.1.load Yz.out
    have DX:=show Hid (i<L.length/\i<M.length) from by have:=HQ.out.1.ij;have:=HQ.out.1.len;exact⟨by omega,by omega⟩
    have hiI:(i:Int)<(L.length:Int):=by have:=DX.out.1;omega
    have Di:=show Hid (iG xs x=true->rG L (M.set i x) (iG xs) (i+1) (j+1)) from fun h=>by rw[hx] at h |-;exact HQ.out.1.keep hlt h
    have j3:=show Hid (iG xs x=false->rG L M (iG xs) i (j+1)) from fun h=>by rw[hx] at h;exact HQ.out.1.skip hlt h
    clear hx GD HX
    go_wp2_with (first|(refine Jv _ _ rfl _ rfl _ xI.out rfl ?_)|(refine aN 186 rfl _ tZ rfl ?_))
    intro w2 b7 hn2
    go_wp2_with (refine aQ 186 rfl rfl _ _ rfl b7 rfl _ rfl _ _ hn2.blk sizeT rfl (zB x) ?_)
    intro w3 hc3 hk3
    have H3:=show Hid (Cl w3 b7 (c3 x).toArray 186/\Rt w3 g M/\Below B w w3/\B<=w3.heap.size/\b7≠g) from by
     have hg:=HQ.out.2.1.lt
     have hge:=hn2.ge
     have hbw:=Yy.out
     refine⟨hc3,(HQ.out.2.1.later hn2.av).keep (hk3.block g (Nat.lt_of_lt_of_le hg hn2.av.size) (by omega)),yw (zC HQ.out.2.2 hn2.av hbw) hk3 (by omega) (Nat.le_trans hbw hn2.av.size),Nat.le_trans hbw (Nat.le_trans hn2.av.size hk3.size),by omega⟩
    have KX:=show Hid _ from KO.out w3 x H3.out.2.2.1
    clear hn2 hc3 hk3
    go_wp2_with (refine fq 186 _ rfl b7 rfl _ _ H3.out.1 rfl Tryz.underlying186 sizeT rfl ?_)
    refine Calls.mono KX.out ?_
    rintro e w4 ⟨rfl,hb4⟩
    have H4:=show Hid (Cl w4 b7 (c3 x).toArray 186/\Rt w4 g M/\Below B w w4/\B<=w4.heap.size/\b7≠g) from⟨H3.out.1.later hb4,H3.out.2.1.later hb4,zC H3.out.2.2.1 hb4 H3.out.2.2.2.1,Nat.le_trans H3.out.2.2.2.1 hb4.size,H3.out.2.2.2.2⟩
    clear hb4 H3 KX
    cases hx:xs.contains x.n
    ·have HD2:=show Hid _ from j3.out hx
     clear hx Di j3 xI
     go_wp2_with fail
     go_roundw
     case rel=>exact⟨i,j+1,M,rfl,gB (by omega),by omega,HD2.out,H4.out.2.1,H4.out.2.2.1⟩
     case measure=>(simp only[intOf];omega)
    ·have HD2:=show Hid _ from Di.out hx
     clear hx Di j3 xI
     go_wp2_with (first|(refine fq 186 _ rfl b7 rfl _ _ H4.out.1 rfl Tryz.underlying186 sizeT rfl ?_)|(refine Jw rfl rfl _ _ rfl g i rfl x rfl H4.out.2.1 DX.out.2 ?_))
     intro w5 YA hk5
     have H5:=show Hid (Rt w5 g (M.set i x)/\Below B w w5) from⟨YA,yw H4.out.2.2.1 hk5 Mj.out.1 H4.out.2.2.2.1⟩
     clear YA hk5 H4
     go_wp2_with fail
     go_roundw
     case rel=>exact⟨i+1,j+1,M.set i x,gB (by omega),gB (by omega),by omega,HD2.out,H5.out.1,H5.out.2⟩
     case measure=>(simp only[intOf];omega)
   ·obtain rfl:j=L.length:=by omega
    have HT:=show Hid (M.take i=L.filter (iG xs)) from HQ.out.1.done
    have DX:=show Hid (i<=L.length/\i<=M.length/\M.length=L.length) from⟨by have:=HQ.out.1.ij;omega,by have:=HQ.out.1.ij;have:=HQ.out.1.len;omega,HQ.out.1.len⟩
    have hil:i<=L.length:=DX.out.1
    have ade:i<c:=by have:=HQ.out.1.ij;omega
    have adf:¬ c=i:=by omega
    have adg:¬ i=c:=by omega
    have adh:¬ c - i=0:=by omega
    have adi:¬ (c:Int)=(i:Int):=by omega
    have adj:¬ c<=i:=by omega
    have hic:(i:Int)<=(c:Int):=by omega
    have hlc:(L.length:Int)<=(c:Int):=by omega
    have Vk:(i:Int)<=(L.length:Int):=by omega
    obtain⟨w2,hcl,hr2,hk2⟩:=HQ.out.2.1.clear 0 i (c - i) DX.out.2.1
    rw[DX.out.2.2] at hcl
    have H2:=show Hid (Rt w2 g (M.take i)/\Below B w w2) from⟨hr2,yw HQ.out.2.2 hk2 Mj.out.1 Yy.out⟩
    clear hr2 hk2 KO
    go_wp2_with (simp only[hcl])
    go_ret
    have e:(L.filter (iG xs)).length=i:=by rw[<- HT.out,List.length_take];have:=DX.out;omega
    rw[e]
    exact⟨rfl,by rw[<- HT.out];exact H2.out.1,H2.out.2⟩
def t30:T3:=⟨0,0,[],0,[]⟩
def bG (xs:List Int):List Nat:=(List.range 13).filter fun i=>xs.contains ((i:Int)+1)
theorem R6 {L:List T3} (hl:L.length=13) (hn:∀ i (h:i<L.length),L[i].n=(i:Int)+1) (xs:List Int):L.filter (iG xs)=(bG xs).map fun i=>L.getD i t30:=by
 have e:L=(List.range 13).map fun i=>L.getD i t30:=by
  apply List.ext_getElem
  ·simp[hl]
  ·intro i h1 h2
   rw[List.getElem_map,List.getElem_range]
   simp[List.getD,h1]
 conv=>lhs;rw[e]
 rw[List.filter_map]
 unfold bG
 refine congrArg _ (List.filter_congr fun i hi => ?_)
 have hi':i<L.length:=by rw[hl];exact List.mem_range.1 hi
 show iG xs (L.getD i t30)=_
 have:L.getD i t30=L[i]:=by simp[List.getD,hi']
 rw[this,iG,hn i hi']
theorem Mk (w0:World) {k b T wb:Nat} {r:List Nat} {g:Int} {L:List T3} (hM:Made w0 k b T wb r g L) (hr:Ok r) (rv:Value) (xs:List Int) (hv:Bt.nY w0 rv xs) :
 Calls Tryz.prog 96 #[.pointer (some ⟨k,0,none⟩),rv] w0 fun e w'=>∃ q c,e=.returned (.slice (some ⟨q,0,none⟩) (bG xs).length c)/\Rt w' q ((bG xs).map fun i=>L.getD i t30)/\w0.heap.size<=q/\Below w0.heap.size w0 w':=by
 have hl:=hr.1
 have HM:=show Hid (∀ W:World,Below w0.heap.size w0 W->Made W k b T wb r g L) from fun W h=>hM.later h
 have HV:=show Hid (∀ W:World,Below w0.heap.size w0 W->Bt.nY W rv xs) from fun W h=>hv.later h
 have HF:=show Hid (L.filter (iG xs)=(bG xs).map fun i=>L.getD i t30) from R6 hM.len hM.num xs
 have Ml:=show Hid (L.length=13) from hM.len
 have Qq:=show Hid (L≠[]) from fun e=>by have:=hM.len;rw[e] at this;cases this
 obtain⟨p,c,rfl,-⟩:=hv
 clear hM
 go_enter Tryz.func96,Tryz.ntmps96
 go_wp2_with (refine fD 179 _ rfl _ rfl rfl rfl ?_)
 intro w1 rb hn1
 have H1:=show Hid (Below w0.heap.size w0 w1/\Made w1 k b T wb r g L/\Cap w1 rb (.slice p xs.length c) xs) from⟨hn1.av,HM.out w1 hn1.av,hn1.blk,HV.out w1 hn1.av⟩
 have c18:=H1.out.2.1.wk.U2 hl
 have KC:=show Hid _ from Jt (c:=13) w1 (OU H1.out.2.1.row) Qq.out (by rw[Ml.out];omega)
 rw[Ml.out] at KC
 clear hn1 HM HV
 go_wp2_with fail
 refine Calls.mono KC.out ?_
 rintro e w2 ⟨q,cap,rfl,hr2,hq,hcap,hcm,hb2⟩
 have KD:=show Hid _ from zD (B:=w1.heap.size) (c:=cap) (rb:=rb) (rv:=.slice p xs.length c) (xs:=xs) w2 hr2 (by rw[Ml.out];omega) (by rw[Ml.out];exact hcap) hcm hq hb2.size (fun W h=>H1.out.2.2.later (hb2.trans h))
 rw[Ml.out,HF.out] at KD
 have H2:=show Hid (Below w1.heap.size w1 w2/\w0.heap.size<=q) from⟨hb2,by have:=H1.out.1.size;omega⟩
 clear KC hr2 hq hcap hcm hb2 c18
 go_wp2_with fail
 refine Calls.mono KD.out ?_
 rintro e w3 ⟨rfl,hr3,hb3⟩
 have H3:=show Hid (Rt w3 q ((bG xs).map fun i=>L.getD i t30)/\w0.heap.size<=q/\Below w0.heap.size w0 w3) from⟨hr3,H2.out.2,H1.out.1.trans ((H2.out.1.trans hb3).mono H1.out.1.size)⟩
 clear KD hr3 hb3 H1 H2
 go_wp2_with fail
 go_ret
 exact⟨q,cap,by simp,H3.out.1,H3.out.2.1,H3.out.2.2⟩
end Go.Proofs.YtkpbpecikibohaaGreatDoor
