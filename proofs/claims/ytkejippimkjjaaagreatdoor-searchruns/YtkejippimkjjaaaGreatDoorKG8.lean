import Derived.Test.YtkejippimkjjaaaGreatDoorBG4
import Derived.Test.YtkejippimkjjaaaGreatDoorBG5
import Derived.BigQuiet
import Derived.Test.YtkejippimkjjaaaGreatDoorKG7
import Derived.Test.YtkejippimkjjaaaGreatDoorFG3
import Derived.Test.YtkejippimkjjaaaGreatDoorZG4
import Derived.Test.YtkejippimkjjaaaGreatDoorRG1
set_option linter.unusedSimpArgs false
set_option maxRecDepth 100000
set_option maxHeartbeats 4000000
namespace Go.Proofs.YtkejippimkjjaaaGreatDoor
open Go.RowKit
theorem D7 {b:Nat} {w v:World} (h:Below b w v) (k:Nat):Below b w (v.drewN k):=⟨h.os,h.tape,h.output,h.size,h.block⟩
theorem Ac (w:World) (u v:Value) (l:List Int) (hu:Bt.jH w u l) (hv:Bt.jH w v l):Calls Tryz.prog 12 #[u,v] w fun e w'=>e=.returned (.bool true)/\Below w.heap.size w w':=by
 obtain⟨p,c,rfl,hlen,hcell⟩:=hu
 obtain⟨q,d,rfl,-,hcell2⟩:=hv
 have HC:=show Hid (∀ k (hk:k<l.length),∃ b o,p=some ⟨b,o,none⟩/\w.cell? ⟨b,o+k,none⟩=some (.int .i64 l[k])) from hcell
 have HD:=show Hid (∀ k (hk:k<l.length),∃ b o,q=some ⟨b,o,none⟩/\w.cell? ⟨b,o+k,none⟩=some (.int .i64 l[k])) from hcell2
 clear hcell hcell2
 go_enter Tryz.func12,Tryz.ntmps12
 go_wp2
 go_loopw [5] (fun n wr=>∃ k:Nat,k<=l.length/\n=.int .i64 (k:Int)/\Hid (Below w.heap.size w wr)) (fun n _=>l.length - (intOf n).toNat)
 case atStart=>exact⟨0,by omega,rfl,Below.refl _ _⟩
 case round=>
  obtain⟨k,hk,rfl,HQ⟩:=hrel
  by_cases hlt:k<l.length
  ·obtain⟨bb,o,rfl,hc0⟩:=HC.out k hlt
   obtain⟨bb2,o2,rfl,hc2⟩:=HD.out k hlt
   have hc:wr.cell? ⟨bb,o+k,none⟩=some (.int .i64 l[k]):=(HQ.out.cell (p:=⟨bb,_,none⟩) (World.block_lt_of_cell? w _ hc0)).trans hc0
   have hd:wr.cell? ⟨bb2,o2+k,none⟩=some (.int .i64 l[k]):=(HQ.out.cell (p:=⟨bb2,_,none⟩) (World.block_lt_of_cell? w _ hc2)).trans hc2
   have sV:(k:Int)<(l.length:Int):=by omega
   clear hc0 hc2 HC HD
   generalize l[k]=n at *
   go_wp2
   go_quiet (fail)
   have HZ:=show Hid (Below w.heap.size w (wr.drewN nq)) from D7 HQ.out nq
   generalize wr.drewN nq=wz at *
   clear hc hd HQ
   go_wp2
   go_roundw
   case rel=>exact⟨k+1,by omega,by go_num,HZ.out⟩
   case measure=>(simp only[intOf];omega)
  ·have hge:¬ (k:Int)<(l.length:Int):=by omega
   clear HC HD
   go_wp2
   go_ret
   exact⟨rfl,HQ.out⟩
end Go.Proofs.YtkejippimkjjaaaGreatDoor
namespace Go.Proofs.YtkejippimkjjaaaGreatDoor
open Go.RowKit Go.Shelf Go.Maps
open Fm (Nd)
open Bt.Bs (Ok wd)
def jF:List Nd:=[pX ⟨#[112]⟩,pX ⟨#[113]⟩,Fm.bot,ay 4 0 1,ay 5 0 2,ay 4 0 4]
def mI (x:Nat):List Nat:=x :: List.replicate 15 0
theorem Tp (x:Nat) (h:x<2 ^ 64):Ok (mI x):=⟨rfl,fun y hy=>by
 unfold mI at hy
 rcases List.mem_cons.1 hy with e | e
 ·omega
 ·have:=(List.mem_replicate.1 e).2
  omega⟩
section
theorem Uq:Fm.fr [] jF=(0,jF):=by decide +kernel
theorem Wo:gX jF (Bt.Bs.zero,5) 4=⟨0,jF,false,[⟨(Bt.Bs.zero,0),false,14,0,[]⟩,⟨(mI 1,2),false,14,0,[]⟩,⟨(Bt.Bs.zero,4),false,8,4,[1]⟩,⟨(Bt.Bs.zero,5),false,14,0,[0,2]⟩],4⟩:=by decide +kernel
theorem Wp:gX jF (Bt.Bs.zero,5) 3=⟨110,jF,false,[],0⟩:=by decide +kernel
theorem Wq:gX jF (mI 1,3) 9=⟨0,jF,true,[⟨(mI 1,0),true,2,0,[]⟩,⟨(mI 1,3),true,11,3,[0]⟩],2⟩:=by decide +kernel
end
theorem MV:∀ n ∈ jF,Fm.good n:=by
 have z:∀ k:Int,0<=k->k<=1024->Fm.i64 k:=fun k h1 h2=>Fm.eU (by omega) (by omega)
 intro n hn
 simp only[jF,List.mem_cons,List.not_mem_nil,or_false] at hn
 rcases hn with rfl | rfl | rfl | rfl | rfl | rfl
 ·exact zC (by decide)
 ·exact zC (by decide)
 ·exact Fm.AU
 ·exact iB (by omega) (by omega) (z 0 (by omega) (by omega)) (z 1 (by omega) (by omega))
 ·exact iB (by omega) (by omega) (z 0 (by omega) (by omega)) (z 2 (by omega) (by omega))
 ·exact iB (by omega) (by omega) (z 0 (by omega) (by omega)) (z 4 (by omega) (by omega))
theorem P7 (w:World):kF (w.alloc (Obj.cells (cellsOf jF).toArray 54)) (.slice (some ⟨w.heap.size,0,none⟩) 6 6) jF:=by
 refine⟨_,6,rfl,by decide,by decide,fun _=>⟨w.heap.size,0,rfl,fun k hk => ?_⟩⟩
 have hc:∀ j,j<4->(w.alloc (Obj.cells (cellsOf jF).toArray 54)).cell? ⟨w.heap.size,0+k * 4+j,none⟩=(bq jF[k])[j]?:=fun j hj=>by
  rw[cell_of_row _ _ _ _ _ _ (heap_alloc_new _ _),Nat.zero_add,<- nO jF k j hk hj]
  simp
 exact⟨hc 0 (by omega),hc 1 (by omega),hc 2 (by omega),hc 3 (by omega)⟩
structure nK (w wi:World) (b m:Nat) (v:Value) (t:List Nd):Prop where
 tb:Tb wi b m v t
 tz:Bt.Tz wi
 ge:∀ k,Ft b m v k->w.heap.size<=k
 au:Below w.heap.size w wi
theorem nK.later {w wi w2:World} {b m:Nat} {v:Value} {t:List Nd} (h:nK w wi b m v t) (hb:Below wi.heap.size wi w2):nK w w2 b m v t:=⟨h.tb.later hb,Bt.gB h.tz hb,h.ge,h.au.trans (hb.mono h.au.size)⟩
theorem nK.after {w wi w2:World} {b m:Nat} {v:Value} {t t':List Nd} (hZ:Bt.Tz w) (h:nK w wi b m v t) (ha:After wi b m v t' w2):∃ v',nK w w2 b m v' t':=by
 obtain⟨v',hT,hL,hK⟩:=ha
 have hb:=h.au.trans (hK.below h.au.size h.ge)
 refine⟨v',hT,Bt.gB hZ hb,?_,hb⟩
 rintro k (e | e | e)
 ·exact h.ge k (Or.inl e)
 ·exact h.ge k (Or.inr (Or.inl e))
 ·rcases hL k e with h1 | h1
  ·exact h.ge k (Or.inr (Or.inr h1))
  ·exact Nat.le_trans h.au.size h1
theorem Cl.Kc {w w':World} {b m q:Nat} {v:Value} {t t':List Nd} {cs:Array Value} {T:TypeId} (h:Cl w q cs T) (hT:Tb w b m v t) (h1:T≠91) (h2:T≠54) (ha:After w b m v t' w'):Cl w' q cs T:=by
 obtain⟨v',_,_,hK⟩:=ha
 exact(hK.block q h.lt (fI h h1 h2 hT)).trans h
theorem dU.Kc {w w':World} {b m base:Nat} {v sv:Value} {t t':List Nd} {st:List Stp} {kvs:List Value} (h:dU w base sv st kvs) (hT:Tb w b m v t) (ha:After w b m v t' w'):dU w' base sv st kvs:=by
 obtain⟨v',_,_,hK⟩:=ha
 refine h.keep (fun k e => ?_) (fun k e => ?_)
 ·obtain⟨_,h2,cur,hc⟩:=h.blk e
  exact hK.block k h2 (fI hc (by decide) (by decide) hT)
 ·obtain⟨_,h2,cur,hc⟩:=h.kb e
  exact hK.block k h2 (fI hc (by decide) (by decide) hT)
theorem dU.later {w w':World} {base:Nat} {sv:Value} {st:List Stp} {kvs:List Value} (h:dU w base sv st kvs) (hb:Below w.heap.size w w'):dU w' base sv st kvs:=h.keep (fun k e=>hb.block k (h.blk e).2.1) (fun k e=>hb.block k (h.kb e).2.1)
theorem dU.at {w:World} {base:Nat} {sv:Value} {st:List Stp} {kvs:List Value} (h:dU w base sv st kvs) (hp:0<st.length):∃ g cap,sv=.slice (some ⟨g,0,none⟩) st.length cap/\∀ (i:Nat) (x:Stp),st[i]?=some x->∃ kv,w.ownsRow base 3 1 kv x.kd.length (fJ x.kd)/\∀ j,j<21->w.cell? ⟨g,i * 21+j,none⟩=(dS x kv)[j]?:=by
 have hl:=h.len
 rcases h.row.2 with ⟨rfl,h0⟩ | ⟨g,cap,cur,rfl,_,hh,h1,h2,h3,h4⟩
 ·omega
 ·refine⟨g,cap,rfl,fun i x hx => ?_⟩
  have hi:=(List.getElem?_eq_some_iff.1 hx).1
  have hki:i<kvs.length:=by omega
  refine⟨kvs[i],h.kid i x _ hx (List.getElem?_eq_getElem hki),fun j hj => ?_⟩
  have e:=vS st kvs (fun y hy=>(h.ok y hy).1) i j x kvs[i] hx (List.getElem?_eq_getElem hki) hj
  rw[<- h4,List.getElem?_take,if_pos (by omega)] at e
  rw[cell_of_row w g _ cur _ _ hh]
  simpa using e
theorem zi {x:Stp} (h:x.s.1.length=16) (kv:Value):(dS x kv)[18]?=some (.int .i64 x.ru):=by
 have hl:(Bt.bK x.s.1).length=16:=jV h
 unfold dS
 rw[List.getElem?_append_right (by omega),hl]
 rfl
def Ad (l:List Nat):List Int:=l.map fun k:Nat=>(k:Int)
theorem Fh {w:World} {base:Nat} {v:Value} {l:List Nat} (h:w.ownsRow base 3 1 v l.length (fJ l)):Bt.jH w v (Ad l):=by
 rcases h.2 with ⟨rfl,h0⟩ | ⟨g,cap,cur,rfl,_,hh,h1,h2,h3,h4⟩
 ·refine⟨none,0,by simp[Ad,h0],by simp[Ad];omega,fun k hk => ?_⟩
  simp[Ad] at hk
  omega
 ·refine⟨_,cap,by simp[Ad],by simp[Ad];unfold maxLen at h2;omega,fun k hk=>⟨g,0,rfl,?_⟩⟩
  have hk':k<l.length:=by simpa[Ad] using hk
  have e:(fJ l)[k]?=some (.int .i64 ((l[k]:Nat):Int)):=by simp[fJ,hk']
  rw[<- h4,List.getElem?_take,if_pos (by omega)] at e
  rw[Nat.zero_add,cell_of_row w g k cur _ _ hh]
  simpa[Ad] using e
theorem MW (w:World) (x:Int):Bt.jH (w.alloc (.cells #[.int .i64 x] 3)) (.slice (some ⟨w.heap.size,0,none⟩) 1 1) [x]:=⟨_,1,rfl,by simp,fun k hk=>⟨w.heap.size,0,rfl,by
 obtain rfl:k=0:=by simp at hk;omega
 rw[World.cell?_alloc_new]
 rfl⟩⟩
theorem MX (w:World) (x y:Int):Bt.jH (w.alloc (.cells #[.int .i64 x,.int .i64 y] 3)) (.slice (some ⟨w.heap.size,0,none⟩) 2 2) [x,y]:=⟨_,2,rfl,by simp,fun k hk=>⟨w.heap.size,0,rfl,by
 have hk:k<2:=by simpa using hk
 rw[World.cell?_alloc_new]
 match k,hk with
 | 0,_=>rfl
 | 1,_=>rfl⟩⟩
section
variable {ops:Array Oper} {rest:List Oper} {o:Oper} {a:Act} {Q:Exit->Act->World->Prop}
theorem Ur (w:World) (g:Int):(Instr.build 27 #[(1,.int .i64 g)]).run Tryz.prog w=.ok (.agg (ak Bt.Bs.zero g)) w:=by kernel_rfl
theorem vD (w:World) (hg:Region.wanted o (yielded ops a.tmps)=true) (y:Operand) (hop:o.op=Op.build 27 #[(1,y)]) {g:Int} (hy:a.eval y=.int .i64 g)
 (hK:wpList Tryz.prog ops Q rest (a.put o.dst (.agg (ak Bt.Bs.zero g))) w):wpList Tryz.prog ops Q (o :: rest) a w:=by
 refine Bt.wpList_want hg fun K' hK' => ?_
 have hrun:=Ur w g
 unfold Oper.wp
 simp[execOp,hop,hy,hrun,Result.andThen]
 exact hK' _ _ hK
theorem Us (w:World):(Instr.build 25 #[(0,.int .u64 1)]).run Tryz.prog w=.ok (.agg (Bt.aD (mI 1))) w:=by kernel_rfl
theorem Da (w:World) (hg:Region.wanted o (yielded ops a.tmps)=true) (y:Operand) (hop:o.op=Op.build 25 #[(0,y)]) (hy:a.eval y=.int .u64 1)
 (hK:wpList Tryz.prog ops Q rest (a.put o.dst (.agg (Bt.aD (mI 1)))) w):wpList Tryz.prog ops Q (o :: rest) a w:=by
 refine Bt.wpList_want hg fun K' hK' => ?_
 have hrun:=Us w
 unfold Oper.wp
 simp[execOp,hop,hy,hrun,Result.andThen]
 exact hK' _ _ hK
theorem Db (w:World) (hg:Region.wanted o (yielded ops a.tmps)=true) (x y:Operand) (hop:o.op=Op.build 27 #[(0,x),(1,y)]) {r:List Nat} {g:Int} (hx:a.eval x=.agg (Bt.aD r)) (hy:a.eval y=.int .i64 g) (hr:r.length=16)
 (hK:wpList Tryz.prog ops Q rest (a.put o.dst (.agg (ak r g))) w):wpList Tryz.prog ops Q (o :: rest) a w:=by
 refine Bt.wpList_want hg fun K' hK' => ?_
 have hrun:=IB w hr g
 unfold Oper.wp
 simp[execOp,hop,hx,hy,hrun,Result.andThen]
 exact hK' _ _ hK
end
theorem runK (w W:World) (hZ:Bt.Tz w) {b m:Nat} {v:Value} {t:List Nd} (h:nK w W b m v t) {s:SQ} (hr:Ok s.1) (bE:Int) {F:Vm} (hF:gX t s bE=F):Calls Tryz.prog 6 #[.pointer (some ⟨b,0,none⟩),.agg (ak s.1 s.2),.int .i64 bE] W fun e w'=>∃ sv,e=.returned (.tuple #[.agg (dK F.pv sv F.vs),.int .i64 F.err])/\(∃ kvs,dU w' W.heap.size sv F.st kvs)/\(∃ v',nK w w' b m v' F.t)/\After W b m v F.t w':=by
 have:=zh W h.tb h.tz hr bE
 rw[hF] at this
 exact this.mono fun e w' ⟨sv,he,hk,ha⟩=>⟨sv,he,hk,h.after hZ ha,ha⟩
theorem D8 (w:World) (hZ:Bt.Tz w):Calls Tryz.prog 5 #[] w fun e w'=>e=.returned (.bool true)/\Below w.heap.size w w':=by
 have HZ:=show Hid (Bt.Tz w) from hZ
 have KF:=show Hid (Calls Tryz.prog 11 #[.slice (some ⟨w.heap.size,0,none⟩) 6 6] (w.alloc (Obj.cells (cellsOf jF).toArray 54)) fun e w'=>∃ B M v,e=.returned (.tuple #[.pointer (some ⟨B,0,none⟩),.int .i64 0])/\nK w w' B M v jF) from
  (Bl _ _ _ (P7 w) MV (by decide)).mono fun e w' h=>by
   rw[Uq] at h
   have hb:Below w.heap.size w w':=(av w _).trans (h.2.mono (av w _).size)
   rcases h.1 with ⟨_,B,M,v,he,hT,hge⟩ | ⟨h0,_⟩
   ·exact⟨B,M,v,he,hT,Bt.gB hZ hb,fun k hk=>Nat.le_trans (by simp) (hge k hk),hb⟩
   ·exact absurd rfl h0
 have KA:=show Hid (∀ (W:World) (b m:Nat) (v:Value),nK w W b m v jF->Calls Tryz.prog 6 #[.pointer (some ⟨b,0,none⟩),.agg (ak Bt.Bs.zero 5),.int .i64 4] W fun e w'=>∃ sv,e=.returned (.tuple #[.agg (dK false sv 4),.int .i64 0])/\(∃ kvs,dU w' W.heap.size sv [⟨(Bt.Bs.zero,0),false,14,0,[]⟩,⟨(mI 1,2),false,14,0,[]⟩,⟨(Bt.Bs.zero,4),false,8,4,[1]⟩,⟨(Bt.Bs.zero,5),false,14,0,[0,2]⟩] kvs)/\(∃ v',nK w w' b m v' jF)/\After W b m v jF w') from fun W b m v h=>runK w W HZ.out h (s:=(Bt.Bs.zero,5)) Bt.Bs.jK 4 Wo
 have KB:=show Hid (∀ (W:World) (b m:Nat) (v:Value),nK w W b m v jF->Calls Tryz.prog 6 #[.pointer (some ⟨b,0,none⟩),.agg (ak Bt.Bs.zero 5),.int .i64 3] W fun e w'=>∃ sv,e=.returned (.tuple #[.agg (dK false sv 0),.int .i64 110])/\(∃ kvs,dU w' W.heap.size sv [] kvs)/\(∃ v',nK w w' b m v' jF)/\After W b m v jF w') from fun W b m v h=>runK w W HZ.out h (s:=(Bt.Bs.zero,5)) Bt.Bs.jK 3 Wp
 have KC:=show Hid (∀ (W:World) (b m:Nat) (v:Value),nK w W b m v jF->Calls Tryz.prog 6 #[.pointer (some ⟨b,0,none⟩),.agg (ak (mI 1) 3),.int .i64 9] W fun e w'=>∃ sv,e=.returned (.tuple #[.agg (dK true sv 2),.int .i64 0])/\(∃ kvs,dU w' W.heap.size sv [⟨(mI 1,0),true,2,0,[]⟩,⟨(mI 1,3),true,11,3,[0]⟩] kvs)/\(∃ v',nK w w' b m v' jF)/\After W b m v jF w') from fun W b m v h=>runK w W HZ.out h (s:=(mI 1,3)) (Tp 1 (by decide)) 9 Wq
 have KI:=show Hid (∀ (W:World) (u v:Value) (l:List Int),Bt.jH W u l->Bt.jH W v l->Calls Tryz.prog 12 #[u,v] W fun e w'=>e=.returned (.bool true)/\Below W.heap.size W w') from fun W u v l h1 h2=>Ac W u v l h1 h2
 clear hZ
 go_enter Tryz.func5,Tryz.ntmps5
 go_wp2_with fail
 refine KF.out.mono ?_
 rintro e w1 ⟨b,m,v,rfl,gH⟩
 clear KF
 have H1:=show Hid _ from gH
 clear gH
 go_wp2_with (refine vD _ rfl _ rfl rfl ?_)
 refine Calls.mono (KA.out _ _ _ _ H1.out) ?_
 rintro e w2 ⟨Y2,rfl,⟨Dc,Fj⟩,⟨v2,hO2⟩,-⟩
 have H2:=show Hid (nK w w2 b m v2 jF/\dU w2 w1.heap.size Y2 [⟨(Bt.Bs.zero,0),false,14,0,[]⟩,⟨(mI 1,2),false,14,0,[]⟩,⟨(Bt.Bs.zero,4),false,8,4,[1]⟩,⟨(Bt.Bs.zero,5),false,14,0,[0,2]⟩] Dc) from⟨hO2,Fj⟩
 obtain⟨pa,ca,rfl⟩:=Fj.form
 clear Fj hO2 H1 KA
 go_wp2_with (refine aF 35 rfl _ l7 rfl ?_)
 intro w3 b3 aM
 go_wp2_with (refine aK 35 rfl rfl _ _ rfl b3 rfl _ rfl _ _ aM.blk (by rw[iN];rfl) rfl (fU ..) ?_)
 intro w4 hc4 hk4
 have hb4:Below w2.heap.size w2 w4:=aP aM.au hk4 aM.ge
 have H4:=show Hid (nK w w4 b m v2 jF/\dU w4 w1.heap.size (.slice pa 4 ca) [⟨(Bt.Bs.zero,0),false,14,0,[]⟩,⟨(mI 1,2),false,14,0,[]⟩,⟨(Bt.Bs.zero,4),false,8,4,[1]⟩,⟨(Bt.Bs.zero,5),false,14,0,[0,2]⟩] Dc/\Cl w4 b3 (dK false (.slice pa 4 ca) 4) 35) from⟨H2.out.1.later hb4,H2.out.2.later hb4,hc4⟩
 clear aM hc4 hk4 hb4 H2
 go_wp2_with (refine vD _ rfl _ rfl rfl ?_)
 refine Calls.mono (KB.out _ _ _ _ H4.out.1) ?_
 rintro e w5 ⟨ZU,rfl,⟨ZA,hSb⟩,⟨v5,Og⟩,iV⟩
 obtain⟨pb,cb,rfl⟩:=hSb.form
 have H5:=show Hid (nK w w5 b m v5 jF/\dU w5 w1.heap.size (.slice pa 4 ca) [⟨(Bt.Bs.zero,0),false,14,0,[]⟩,⟨(mI 1,2),false,14,0,[]⟩,⟨(Bt.Bs.zero,4),false,8,4,[1]⟩,⟨(Bt.Bs.zero,5),false,14,0,[0,2]⟩] Dc/\Cl w5 b3 (dK false (.slice pa 4 ca) 4) 35) from⟨Og,H4.out.2.1.Kc H4.out.1.tb iV,H4.out.2.2.Kc H4.out.1.tb (by decide) (by decide) iV⟩
 clear hSb Og iV H4 KB
 go_wp2_with (refine aF 35 rfl _ l7 rfl ?_)
 intro w6 b5 fQ
 go_wp2_with (refine aK 35 rfl rfl _ _ rfl b5 rfl _ rfl _ _ fQ.blk (by rw[iN];rfl) rfl (fU ..) ?_)
 intro w7 jR fF
 have bO:Below w5.heap.size w5 w7:=aP fQ.au fF fQ.ge
 have H7:=show Hid (nK w w7 b m v5 jF/\dU w7 w1.heap.size (.slice pa 4 ca) [⟨(Bt.Bs.zero,0),false,14,0,[]⟩,⟨(mI 1,2),false,14,0,[]⟩,⟨(Bt.Bs.zero,4),false,8,4,[1]⟩,⟨(Bt.Bs.zero,5),false,14,0,[0,2]⟩] Dc/\Cl w7 b3 (dK false (.slice pa 4 ca) 4) 35) from⟨H5.out.1.later bO,H5.out.2.1.later bO,H5.out.2.2.later bO⟩
 clear fQ jR fF bO H5
 go_wp2_with (first|(refine Da _ rfl _ rfl rfl ?_)|(refine Db _ rfl _ _ rfl rfl rfl rfl ?_))
 refine Calls.mono (KC.out _ _ _ _ H7.out.1) ?_
 rintro e w8 ⟨Y3,rfl,⟨Ws,Fp⟩,⟨v8,wM⟩,nU⟩
 have H8:=show Hid (nK w w8 b m v8 jF/\dU w8 w1.heap.size (.slice pa 4 ca) [⟨(Bt.Bs.zero,0),false,14,0,[]⟩,⟨(mI 1,2),false,14,0,[]⟩,⟨(Bt.Bs.zero,4),false,8,4,[1]⟩,⟨(Bt.Bs.zero,5),false,14,0,[0,2]⟩] Dc/\Cl w8 b3 (dK false (.slice pa 4 ca) 4) 35/\dU w8 w7.heap.size Y3 [⟨(mI 1,0),true,2,0,[]⟩,⟨(mI 1,3),true,11,3,[0]⟩] Ws) from⟨wM,H7.out.2.1.Kc H7.out.1.tb nU,H7.out.2.2.Kc H7.out.1.tb (by decide) (by decide) nU,Fp⟩
 obtain⟨pc,cc,rfl⟩:=Fp.form
 clear Fp wM nU H7 KC
 go_wp2_with (refine aF 35 rfl _ l7 rfl ?_)
 intro w9 b7 Oo
 go_wp2_with (refine aK 35 rfl rfl _ _ rfl b7 rfl _ rfl _ _ Oo.blk (by rw[iN];rfl) rfl (fU ..) ?_)
 intro eY Hq hk10
 have Df:Below w8.heap.size w8 eY:=aP Oo.au hk10 Oo.ge
 have Fj:=H8.out.2.1.later Df
 have Fp:=H8.out.2.2.2.later Df
 have hca:=H8.out.2.2.1.later Df
 have HB:=show Hid (Below w.heap.size w eY) from(H8.out.1.later Df).au
 clear Oo hk10 Df H8
 obtain⟨ga,cap,hpa,hxa⟩:=Fj.at (by decide)
 obtain⟨hpa,_,_⟩:=Value.slice.inj hpa
 subst hpa
 obtain⟨gc,cap2,hpc,hxc⟩:=Fp.at (by decide)
 obtain⟨hpc,_,_⟩:=Value.slice.inj hpc
 subst hpc
 obtain⟨k2,ho2,hx2⟩:=hxa 2 _ rfl
 obtain⟨k3,ho3,hx3⟩:=hxa 3 _ rfl
 obtain⟨k1,ho1,hx1⟩:=hxc 1 _ rfl
 have a0:eY.cell? ⟨b3,0,none⟩=some (.bool false):=hca.cell 0
 have a1:eY.cell? ⟨b3,1,none⟩=some (.slice (some ⟨ga,0,none⟩) 4 ca):=hca.cell 1
 have a2:eY.cell? ⟨b3,2,none⟩=some (.int .i64 4):=hca.cell 2
 have d0:eY.cell? ⟨b7,0,none⟩=some (.bool true):=Hq.cell 0
 have d1:eY.cell? ⟨b7,1,none⟩=some (.slice (some ⟨gc,0,none⟩) 2 cc):=Hq.cell 1
 have r2:eY.cell? ⟨ga,60,none⟩=some (.int .i64 8):=(hx2 18 (by omega)).trans (zi (x:=⟨(Bt.Bs.zero,4),false,8,4,[1]⟩) rfl k2)
 have q2:eY.cell? ⟨ga,62,none⟩=some k2:=(hx2 20 (by omega)).trans (y9 (x:=⟨(Bt.Bs.zero,4),false,8,4,[1]⟩) rfl k2)
 have Tq:=show Hid (eY.cell? ⟨ga,81,none⟩=some (.int .i64 14)/\eY.cell? ⟨ga,83,none⟩=some k3) from⟨(hx3 18 (by omega)).trans (zi (x:=⟨(Bt.Bs.zero,5),false,14,0,[0,2]⟩) rfl k3),(hx3 20 (by omega)).trans (y9 (x:=⟨(Bt.Bs.zero,5),false,14,0,[0,2]⟩) rfl k3)⟩
 have nP:=show Hid (eY.cell? ⟨gc,39,none⟩=some (.int .i64 11)) from(hx1 18 (by omega)).trans (zi (x:=⟨(mI 1,3),true,11,3,[0]⟩) rfl k1)
 have NM:=show Hid (Bt.jH eY k2 [1]) from Fh ho2
 have zI:=show Hid (Bt.jH eY k3 [0,2]) from Fh ho3
 have Eu:=show Hid (Cl eY b3 (dK false (.slice (some ⟨ga,0,none⟩) 4 ca) 4) 35/\Cl eY b7 (dK true (.slice (some ⟨gc,0,none⟩) 2 cc) 2) 35) from⟨hca,Hq⟩
 clear ho1 ho2 ho3 hx1 hx2 hx3 hxa hxc Fj Fp hca Hq
 go_wp2_with fail
 refine Calls.mono (KI.out _ _ _ _ (NM.out.later (av eY _)) (MW eY 1)) ?_
 rintro e jI ⟨rfl,nV⟩
 have nV:Below eY.heap.size eY jI:=(av eY _).trans (nV.mono (av eY _).size)
 have HL:=show Hid (∀ {g j:Nat} {x:Value},eY.cell? ⟨g,j,none⟩=some x->jI.cell? ⟨g,j,none⟩=some x) from fun {g j x} h=>(nV.cell (p:=⟨g,j,none⟩) (World.block_lt_of_cell? eY _ h)).trans h
 have HB2:=show Hid (Below w.heap.size w jI) from HB.out.trans (nV.mono HB.out.size)
 have Tt:=show Hid (Bt.jH jI k3 [0,2]) from zI.out.later nV
 have MZ:=show Hid (Cl jI b3 (dK false (.slice (some ⟨ga,0,none⟩) 4 ca) 4) 35/\Cl jI b7 (dK true (.slice (some ⟨gc,0,none⟩) 2 cc) 2) 35) from⟨Eu.out.1.later nV,Eu.out.2.later nV⟩
 have a1':jI.cell? ⟨b3,1,none⟩=some (.slice (some ⟨ga,0,none⟩) 4 ca):=MZ.out.1.cell 1
 have r3:jI.cell? ⟨ga,81,none⟩=some (.int .i64 14):=HL.out Tq.out.1
 have q3:jI.cell? ⟨ga,83,none⟩=some k3:=HL.out Tq.out.2
 have M0:=show Hid (jI.cell? ⟨gc,39,none⟩=some (.int .i64 11)) from HL.out nP.out
 clear nV a0 a1 a2 d0 d1 r2 q2 Tq nP HL NM zI Eu HB
 go_wp2_with fail
 refine Calls.mono (KI.out _ _ _ _ (Tt.out.later (av jI _)) (MX jI 0 2)) ?_
 rintro e Oq ⟨rfl,zk⟩
 have zk:Below jI.heap.size jI Oq:=(av jI _).trans (zk.mono (av jI _).size)
 have HB3:=show Hid (Below w.heap.size w Oq) from HB2.out.trans (zk.mono HB2.out.size)
 have d1':Oq.cell? ⟨b7,1,none⟩=some (.slice (some ⟨gc,0,none⟩) 2 cc):=(MZ.out.2.later zk).cell 1
 have r1:Oq.cell? ⟨gc,39,none⟩=some (.int .i64 11):=(zk.cell (p:=⟨gc,39,none⟩) (World.block_lt_of_cell? jI _ M0.out)).trans M0.out
 clear zk a1' r3 q3 M0 MZ HB2 Tt
 go_wp2_with fail
 go_ret
 exact⟨rfl,HB3.out⟩
structure LX (w w1 W:World) (b5 B M:Nat) (v:Value) (C:Nat) (u:Value) (t t2:List Nd) (r:List Nat) (g:Int):Prop where
 pr:Pair w1 W B M v C u t t2
 s:aX W b5 r g
 b1:Below w.heap.size w w1
theorem LX.au {w w1 W:World} {b5 B M C:Nat} {v u:Value} {t t2:List Nd} {r:List Nat} {g:Int} (h:LX w w1 W b5 B M v C u t t2 r g):Below w.heap.size w W:=h.b1.trans (h.pr.au.mono h.b1.size)
theorem LX.later {w w1 W W':World} {b5 B M C:Nat} {v u:Value} {t t2:List Nd} {r:List Nat} {g:Int} (h:LX w w1 W b5 B M v C u t t2 r g) (hb:Below W.heap.size W W'):LX w w1 W' b5 B M v C u t t2 r g:=⟨h.pr.later hb,h.s.later hb h.s.lt,h.b1⟩
theorem LX.mk1 {w w1 W:World} {b5 B M C:Nat} {v u:Value} {t t2:List Nd} {r:List Nat} {g:Int} (h:dz w w1 b5 r g) (hp:Pair w1 W B M v C u t t2):LX w w1 W b5 B M v C u t t2 r g:=⟨hp,h.s.later hp.au h.s.lt,h.au⟩
end Go.Proofs.YtkejippimkjjaaaGreatDoor
