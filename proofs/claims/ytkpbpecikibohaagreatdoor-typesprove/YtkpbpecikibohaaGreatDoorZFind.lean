import Derived.Test.YtkpbpecikibohaaGreatDoorZG3
set_option linter.unusedSimpArgs false
set_option maxRecDepth 100000
set_option maxHeartbeats 4000000
namespace Go.Proofs.YtkpbpecikibohaaGreatDoor
open Go.RowKit Go.Shelf Go.Maps
open Fm (Nd)
open Bt.Bs (Ok wd)
theorem l9 (w:World) (n:Int):(Instr.buildSlice 179 1 #[(0,.int .i64 n)]).run Tryz.prog w=.ok (.slice (some ⟨w.heap.size,0,none⟩) 1 1) (w.alloc (.cells #[.int .i64 n] 92)):=by kernel_rfl
section
variable {ops:Array Oper} {rest:List Oper} {o:Oper} {a:Act} {Q:Exit->Act->World->Prop} {w:World}
theorem Jy (hg:o.guard=none) (x:Operand) (hop:o.op=Op.buildSlice 179 1 #[(0,x)]) (n:Int) (hx:a.eval x=.int .i64 n)
 (hK:∀ w' q,I1 (.slice (some ⟨q,0,none⟩) 1 1) n w'->Below w.heap.size w w'->wpList Tryz.prog ops Q rest (a.put o.dst (.slice (some ⟨q,0,none⟩) 1 1)) w'):wpList Tryz.prog ops Q (o :: rest) a w:=by
 refine wpList_plain hg fun K' hK' => ?_
 have hrun:=l9 w n
 unfold Oper.wp
 simp[execOp,hop,hx,hrun,Result.andThen]
 exact hK' _ _ (hK _ _ (DT w n _) (ak w _))
end
theorem ny {P:Program} {ops:Array Oper} {Q:Exit->Act->World->Prop} {i:Nat} {o:Oper} {a:Act} {w w':World} {K:Act->World->Prop} (ho:ops[i]?=some o) (hg:o.guard=none) (T:TypeId) (x y:Operand) (hop:o.op=.store T x y) {px vy:Value} (hx:a.eval x=px) (hy:a.eval y=vy) (hrun:(Instr.storeAt T px vy).run P w=.ok () w') (hK:K (a.put o.dst undef) w'):wpOp P ops Q i K a w:=by
 refine oP ho w' hg ?_ hK
 simp only[execOp,hop,hx,hy,Sem.run_bind,hrun,Result.andThen_ok,Sem.run_pure]
theorem Mq {ru:Int} (h:¬ (1<=ru/\ru<=13)):bG [ru]=[]:=by
 unfold bG
 rw[List.filter_eq_nil_iff]
 intro i hi
 have:=List.mem_range.1 hi
 simp
 omega
theorem OV (i:Nat) (h:i<13):bG [(i:Int)+1]=[i]:=by
 revert i
 exact dL 13 ⟨⟨⟨⟨⟨⟨⟨⟨⟨⟨⟨⟨⟨trivial,by decide⟩,by decide⟩,by decide⟩,by decide⟩,by decide⟩,by decide⟩,by decide⟩,by decide⟩,by decide⟩,by decide⟩,by decide⟩,by decide⟩,by decide⟩
def findF (t:List Nd) (r:List Nat) (g:Int) (ru main:Int):Bool:=Fm.has t main && (decide (1<=ru) && decide (ru<=13)) && mY r g (ru - 1).toNat (bO t main)
def zT:Array Value:=#[.int .i64 0,Value.nilFunc,Value.nilFunc]
theorem zF:zT.all (·.oneCell')=true:=by simp[zT,Value.oneCell']
structure FD (w0 W:World) (b6 b7 b9:Nat) (m:Sh):Prop where
 r6:Cl W b6 zT 186
 r7:Cl W b7 (bB kT) 182
 s9:Cl W b9 (bB m) 182
 av:Below w0.heap.size w0 W
 g6:w0.heap.size<=b6
 g7:w0.heap.size<=b7
 n67:b6≠b7
 n69:b9≠b6
 n79:b9≠b7
theorem FD.later {w0 W W':World} {b6 b7 b9:Nat} {m:Sh} (h:FD w0 W b6 b7 b9 m) (hb:Below W.heap.size W W'):FD w0 W' b6 b7 b9 m :=
 ⟨h.r6.later hb,h.r7.later hb,h.s9.later hb,h.av.trans (hb.mono h.av.size),h.g6,h.g7,h.n67,h.n69,h.n79⟩
theorem oq {fn:Func} {p p2 t3:Tmp} (h:fn.results=#[.cell p 186,.cell p2 182,.tmp t3]) (tmps:Array Value) (w:World) (b b2:Nat) (cs:Array Value) (m:Sh) (hp:tmps.getD p undef=.pointer (some ⟨b,0,none⟩)) (hr:Cl w b cs 186) (hs:cs.size=3) (hp2:tmps.getD p2 undef=.pointer (some ⟨b2,0,none⟩)) (hr2:Cl w b2 (bB m) 182) :
 (results fn tmps).run Tryz.prog w=.ok (.tuple #[.agg cs,fB m,tmps.getD t3 undef]) w:=by
 have hp':tmps[p]?.getD undef=.pointer (some ⟨b,0,none⟩):=by simpa using hp
 have ZF:tmps[p2]?.getD undef=.pointer (some ⟨b2,0,none⟩):=by simpa using hp2
 have l1:(loadVar 186 ⟨b,0,none⟩).run Tryz.prog w=.ok (.agg cs) w:=run_loadVar_row w b _ 186 cs _ _ hr Tryz.underlying186 rfl (by rw[sizeT,hs])
 have l2:(loadVar 182 ⟨b2,0,none⟩).run Tryz.prog w=.ok (.agg (bB m)) w:=run_loadVar_row w b2 _ 182 (bB m) _ _ hr2 Tryz.underlying182 rfl (by kernel_rfl)
 simp[results,h,hp',ZF,asAddr,l1,l2,Result.andThen,fB]
theorem vg {w:World} {b:Nat} {m:Sh} (h:Cl w b (bB m) 182):(Instr.loadAt 182 (.pointer (some ⟨b,0,none⟩))).run Tryz.prog w=.ok (.agg (bB m)) w:=by
 simp only[Instr.loadAt,Instr.sureAddr,Sem.run_bind,Sem.run_pure,Result.andThen]
 exact run_loadVar_row w b _ _ (bB m) _ _ h Tryz.underlying182 rfl (by kernel_rfl)
theorem Vl {w:World} {b:Nat} {T T0:TypeId} {old cs:Array Value} (h:Cl w b old T0) (hs:(Tryz.prog.info? T).map (·.size)=some cs.size) (hs':old.size=cs.size) (h1:cs.all (·.oneCell')=true):(Instr.storeAt T (.pointer (some ⟨b,0,none⟩)) (.agg cs)).run Tryz.prog w=.ok () (w.setRow b cs):=by
 simp only[Instr.storeAt,Instr.sureAddr,Sem.run_bind,Sem.run_pure,Result.andThen]
 exact run_storeVar_row w b T0 T old cs h hs hs' h1
theorem OW (w0:World) {b mm:Nat} {v:Value} {t:List Nd} (hT:Tb w0 b mm v t) {k T wb:Nat} {r:List Nat} {g:Int} {L:List T3} (hM:Made w0 k b T wb r g L) (hr:Ok r) (ru main:Int) :
 Calls Tryz.prog 146 #[.pointer (some ⟨k,0,none⟩),.int .i64 ru,.int .i64 main] w0 fun e w'=>e=.returned (.tuple #[.agg (if findF t r g ru main then (c3 (L.getD (ru - 1).toNat t30)).toArray else zT),fB (if findF t r g ru main then bO t main else kT),.bool (findF t r g ru main)])/\Below w0.heap.size w0 w':=by
 have hl:=hr.1
 have c0:=hM.wk.tab
 have KS:=show Hid (∀ W:World,Below w0.heap.size w0 W->Calls Tryz.prog 140 #[.pointer (some ⟨b,0,none⟩),.int .i64 main] W fun e w'=>e=.returned (.tuple #[fB (bO t main),.bool (Fm.has t main)])/\Below W.heap.size W w') from fun W h=>xH W (hT.later h) main
 have HM:=show Hid (∀ W:World,Below w0.heap.size w0 W->Made W k b T wb r g L) from fun W h=>hM.later h
 have DY:=show Hid (findF t r g ru main=(Fm.has t main && (decide (1<=ru) && decide (ru<=13)) && mY r g (ru - 1).toNat (bO t main))) from rfl
 clear hT hM
 generalize bO t main=m at *
 generalize Fm.has t main=hh at *
 generalize findF t r g ru main=ff at *
 obtain⟨x,hx⟩:∃ x,x=L.getD (ru - 1).toNat t30:=⟨_,rfl⟩
 rw[<- hx]
 have Mr:=show Hid (x=L.getD (ru - 1).toNat t30) from hx
 clear hx
 go_enter Tryz.func146,Tryz.ntmps146
 go_wp2_with (refine aN 186 rfl zT tZ rfl ?_)
 intro w1 b6 hn1
 go_wp2_with (refine aN 182 rfl _ uN rfl ?_)
 intro w2 b7 hn2
 have H2:=show Hid (Below w0.heap.size w0 w2/\Cl w2 b6 zT 186/\Cl w2 b7 (bB kT) 182/\w0.heap.size<=b6/\w0.heap.size<=b7/\b6≠b7) from
  ⟨cO hn1.av hn2,Cl.new hn1.blk hn2,hn2.blk,hn1.ge,by have:=hn1.av.size;have:=hn2.ge;omega,by have:=Cl.lt hn1.blk;have:=hn2.ge;omega⟩
 clear hn1 hn2
 have c0:=(HM.out w2 H2.out.1).wk.tab
 go_wp2_with fail
 refine Calls.mono (KS.out w2 H2.out.1) ?_
 rintro e w3 ⟨rfl,hb3⟩
 have H3:=show Hid (Below w0.heap.size w0 w3/\Cl w3 b6 zT 186/\Cl w3 b7 (bB kT) 182) from⟨H2.out.1.trans (hb3.mono H2.out.1.size),H2.out.2.1.later hb3,H2.out.2.2.1.later hb3⟩
 have YB:=show Hid (w2.heap.size<=w3.heap.size/\b6<w2.heap.size/\b7<w2.heap.size) from⟨hb3.size,H2.out.2.1.lt,H2.out.2.2.1.lt⟩
 clear hb3 KS c0
 unfold fB
 go_wp2_with (refine aN 182 rfl _ uN rfl ?_)
 intro w4 b9 fV
 go_wp2_with (refine aQ 182 rfl rfl _ _ rfl b9 rfl _ rfl _ _ fV.blk jW rfl (kX m) ?_)
 intro w4b hc4 hk4
 have H4:=show Hid (FD w0 w4b b6 b7 b9 m) from(by
  have e1:=YB.out;have e2:=fV.ge
  exact⟨(H3.out.2.1.new fV).kp hk4 (by omega),(H3.out.2.2.new fV).kp hk4 (by omega),hc4,bR (cO H3.out.1 fV) hk4 (by have:=H3.out.1.size;omega),H2.out.2.2.2.1,H2.out.2.2.2.2.1,H2.out.2.2.2.2.2,by omega,by omega⟩)
 clear fV hc4 hk4 H3 YB H2
 go_wp2_with (refine Jy rfl _ rfl ru rfl ?_)
 intro Vm qb hi4 hb4
 have GY:=show Hid _ from H4.out.later hb4
 have KO:=show Hid _ from Mk Vm (HM.out Vm GY.out.av) hr _ [ru] hi4.gP
 have YC:=show Hid _ from HM.out Vm GY.out.av
 clear hi4 hb4 H4 HM
 go_wp2_with fail
 refine Calls.mono KO.out ?_
 rintro e w5 ⟨q,c,rfl,hrt,hq,hb5⟩
 have H5:=show Hid _ from GY.out.later hb5
 have Vn:=show Hid (q≠b6) from by have:=GY.out.r6.lt;show q≠b6;omega
 have Vo:=show Hid (q≠b7) from by have:=GY.out.r7.lt;show q≠b7;omega
 have Aj:=show Hid _ from hrt
 have Mt:=show Hid _ from YC.out.later hb5
 clear KO hrt hq hb5 GY YC
 have DZ:=show Hid (∀ W:World,Below w5.heap.size w5 W->FD w0 W b6 b7 b9 m) from fun W h=>H5.out.later h
 have ac6:=H5.out.av
 cases hh
 ·obtain rfl:ff=false:=by rw[DY.out];rfl
  generalize (bG [ru]).length=pn
  clear Aj Mt DY Vn Vo H5 Mr
  go_wp2_with fail
  refine bK (by kernel_rfl) [some 25,some 26,some 27,some 28,some 29,some 30,some 31,some 32,some 33,some 34,some 35,some 36,some 37,some 38,some 39,some 40] [[],[0],[1],[2],[2],[2],[2,5],[6],[7],[7],[7],[7],[7],[7],[7],[7,14]] (by kernel_rfl) (fun i v w=>match i with | 0=>v=.bool false | 1=>v=.bool true | 2=>v=.bool true | 3=>v=undef | 4=>v=undef | 5=>v=undef | 6=>v=.bool true | 7=>v=.bool true | 8=>v=undef | 9=>v=undef | 10=>v=undef | 11=>v=undef | 12=>v=undef | 13=>v=undef | 14=>v=undef | 15=>v=.bool true | _=>True) (fun _ W=>Below w5.heap.size w5 W) (fun _ _=>True) ?hle ((Below.refl _ _).drew) (dL 16 ?steps) ?fin
  case hle=>
   intro i v w w1 hl h
   match i,h with
   | 0,h=>exact h
   | 1,h=>exact h
   | 2,h=>exact h
   | 3,h=>exact h
   | 4,h=>exact h
   | 5,h=>exact h
   | 6,h=>exact h
   | 7,h=>exact h
   | 8,h=>exact h
   | 9,h=>exact h
   | 10,h=>exact h
   | 11,h=>exact h
   | 12,h=>exact h
   | 13,h=>exact h
   | 14,h=>exact h
   | 15,h=>exact h
   | _+16,h=>trivial
  case steps=>
   refine⟨⟨⟨⟨⟨⟨⟨⟨⟨⟨⟨⟨⟨⟨⟨⟨trivial,?s0⟩,?s1⟩,?s2⟩,?s3⟩,?s4⟩,?s5⟩,?s6⟩,?s7⟩,?s8⟩,?s9⟩,?s10⟩,?s11⟩,?s12⟩,?s13⟩,?kg⟩,?s15⟩
   case s0=>
    intro done a w hS h0 hd hn hO hN
    have Bp:a.tmps[10]?=some (.bool false):=outs hO 10 rfl
    refine ah rfl (.bool false) w rfl (by go_simp) ⟨_,rfl,rfl,hS,trivial⟩
   case s1=>
    intro done a w hS h0 hd hn hO hN
    obtain⟨v0,g0,r0⟩:=aj hN 0 25
    obtain rfl:v0=.bool false:=r0
    refine ah rfl (.bool true) w rfl (by go_simp) ⟨_,rfl,rfl,hS,trivial⟩
   case s2=>
    intro done a w hS h0 hd hn hO hN
    obtain⟨v1,g1,r1⟩:=aj hN 1 26
    obtain rfl:v1=.bool true:=r1
    refine ah rfl (.bool true) w rfl (by go_simp) ⟨_,rfl,rfl,hS,trivial⟩
   case s3=>
    intro done a w hS h0 hd hn hO hN
    obtain⟨v2,g2,r2⟩:=aj hN 2 27
    obtain rfl:v2=.bool true:=r2
    refine jV rfl ((bV rfl rfl g2).trans rfl) ⟨_,rfl,rfl,hS,trivial⟩
   case s4=>
    intro done a w hS h0 hd hn hO hN
    obtain⟨v2,g2,r2⟩:=aj hN 2 27
    obtain rfl:v2=.bool true:=r2
    refine jV rfl ((bV rfl rfl g2).trans rfl) ⟨_,rfl,rfl,hS,trivial⟩
   case s5=>
    intro done a w hS h0 hd hn hO hN
    obtain⟨v2,g2,r2⟩:=aj hN 2 27
    obtain rfl:v2=.bool true:=r2
    refine jV rfl ((bV rfl rfl g2).trans rfl) ⟨_,rfl,rfl,hS,trivial⟩
   case s6=>
    intro done a w hS h0 hd hn hO hN
    obtain⟨v2,g2,r2⟩:=aj hN 2 27
    obtain rfl:v2=.bool true:=r2
    obtain⟨v5,g5,r5⟩:=aj hN 5 30
    obtain rfl:v5=undef:=r5
    refine ah rfl (.bool true) w rfl (by go_simp) ⟨_,rfl,rfl,hS,trivial⟩
   case s7=>
    intro done a w hS h0 hd hn hO hN
    obtain⟨v6,g6,r6⟩:=aj hN 6 31
    obtain rfl:v6=.bool true:=r6
    refine ah rfl (.bool true) w rfl (by go_simp) ⟨_,rfl,rfl,hS,trivial⟩
   case s8=>
    intro done a w hS h0 hd hn hO hN
    obtain⟨v7,g7,r7⟩:=aj hN 7 32
    obtain rfl:v7=.bool true:=r7
    refine jV rfl ((bV rfl rfl g7).trans rfl) ⟨_,rfl,rfl,hS,trivial⟩
   case s9=>
    intro done a w hS h0 hd hn hO hN
    obtain⟨v7,g7,r7⟩:=aj hN 7 32
    obtain rfl:v7=.bool true:=r7
    refine jV rfl ((bV rfl rfl g7).trans rfl) ⟨_,rfl,rfl,hS,trivial⟩
   case s10=>
    intro done a w hS h0 hd hn hO hN
    obtain⟨v7,g7,r7⟩:=aj hN 7 32
    obtain rfl:v7=.bool true:=r7
    refine jV rfl ((bV rfl rfl g7).trans rfl) ⟨_,rfl,rfl,hS,trivial⟩
   case s11=>
    intro done a w hS h0 hd hn hO hN
    obtain⟨v7,g7,r7⟩:=aj hN 7 32
    obtain rfl:v7=.bool true:=r7
    refine jV rfl ((bV rfl rfl g7).trans rfl) ⟨_,rfl,rfl,hS,trivial⟩
   case s12=>
    intro done a w hS h0 hd hn hO hN
    obtain⟨v7,g7,r7⟩:=aj hN 7 32
    obtain rfl:v7=.bool true:=r7
    refine jV rfl ((bV rfl rfl g7).trans rfl) ⟨_,rfl,rfl,hS,trivial⟩
   case s13=>
    intro done a w hS h0 hd hn hO hN
    obtain⟨v7,g7,r7⟩:=aj hN 7 32
    obtain rfl:v7=.bool true:=r7
    refine jV rfl ((bV rfl rfl g7).trans rfl) ⟨_,rfl,rfl,hS,trivial⟩
   case kg=>
    intro done a w hS h0 hd hn hO hN
    obtain⟨v7,g7,r7⟩:=aj hN 7 32
    obtain rfl:v7=.bool true:=r7
    refine jV rfl ((bV rfl rfl g7).trans rfl) ⟨_,rfl,rfl,hS,trivial⟩
   case s15=>
    intro done a w hS h0 hd hn hO hN
    obtain⟨v7,g7,r7⟩:=aj hN 7 32
    obtain rfl:v7=.bool true:=r7
    obtain⟨v14,g14,dF⟩:=aj hN 14 39
    obtain rfl:v14=undef:=dF
    refine ah rfl (.bool true) w rfl (by go_simp) ⟨_,rfl,rfl,hS,trivial⟩
  case fin=>
   intro vs done w hdone hS hR
   simp only[bn,Act.put,List.setIfInBounds_toArray,List.set_cons_zero,List.set_cons_succ]
   have wo:vs 15=.bool true:=hR 15 (by decide)
   rw[wo]
   have HZ:=show Hid (FD w0 w b6 b7 b9 m) from DZ.out w hS
   clear hS hR hdone wo DZ
   go_wp2_with (refine aQ 186 rfl rfl _ _ rfl b6 rfl zT rfl _ _ HZ.out.r6 sizeT rfl zF ?_)
   intro w7 mF iI
   have H7:=show Hid (Cl w7 b6 zT 186/\Cl w7 b7 (bB kT) 182/\Below w0.heap.size w0 w7) from⟨mF,HZ.out.r7.kp iI (fun e=>HZ.out.n67 e.symm),bR HZ.out.av iI HZ.out.g6⟩
   clear mF iI
   go_wp2_with (refine aQ 182 rfl rfl _ _ rfl b7 rfl (bB kT) rfl _ _ H7.out.2.1 jW rfl (kX kT) ?_)
   intro w8 hc8 gI
   go_wp2_with fail
   refine bodyPost_ret (oq rfl _ _ b6 b7 zT kT rfl (H7.out.1.kp gI HZ.out.n67) rfl rfl hc8) rfl ?_
   exact⟨rfl,bR H7.out.2.2 gI HZ.out.g7⟩
 ·by_cases rH:1<=ru/\ru<=13
  ·obtain⟨i,rfl⟩:∃ i:Nat,ru=(i:Int)+1:=⟨(ru - 1).toNat,by omega⟩
   have OX:i<13:=by omega
   rw[OV i OX] at Aj |-
   have hnt:((i:Int)+1 - 1).toNat=i:=by omega
   rw[hnt] at DY Mr
   have hil:i<L.length:=by rw[Mt.out.len];exact OX
   have hgd:L.getD i t30=L[i]:=by simp[List.getD,hil]
   simp only[List.map_cons,List.map_nil,hgd,List.length_cons,List.length_nil,Nat.zero_add] at Aj |-
   have hx:x=L[i]:=Mr.out.trans hgd
   obtain⟨fit,hfit⟩:∃ fit,fit=mY r g i m:=⟨_,rfl⟩
   have Vp:=show Hid (mY r g i m=fit) from hfit.symm
   have Vq:=show Hid (∀ W:World,Below w5.heap.size w5 W->je W x.fv (mY r g i)) from fun W h=>by rw[hx];exact(Mt.out.fit i hil).later h
   have Vr:=show Hid (∀ W:World,Below w5.heap.size w5 W->Rt W q [x]/\W.cell? ⟨q,1,none⟩=some x.fv/\True) from fun W h=>by
    have h1:Rt w5 q [x]:=by rw[hx];exact Aj.out
    have h2:=h1.later h
    refine⟨h2,?_,trivial⟩
    have h3:=h2.range (j:=0) (by simp) 1 x.fv rfl
    simpa using h3
   obtain rfl:fit=ff:=by
    symm
    rw[DY.out,hfit]
    simp
    omega
   clear hx hfit hgd hnt Aj Mt DY H5 rH hil OX Mr
   go_wp2_with fail
   refine bK (by kernel_rfl) [some 25,some 26,some 27,some 28,some 29,some 30,some 31,some 32,some 33,some 34,some 35,some 36,some 37,some 38,some 39,some 40] [[],[0],[1],[2],[2,3],[2,4],[2,5],[6],[7],[7,8],[7,9],[7,10],[7],[7,11,12],[7,13],[7,14]] (by kernel_rfl) (fun i v w=>match i with | 0=>v=.bool true | 1=>v=.bool false | 2=>v=.bool false | 3=>v=.slice (some ⟨q,0,none⟩) 1 c | 4=>v=.int .i64 1 | 5=>v=.bool false | 6=>v=.bool false | 7=>v=.bool false | 8=>v=.slice (some ⟨q,0,none⟩) 1 c | 9=>v=.pointer (some ⟨q,0,none⟩) | 10=>v=.pointer (some ⟨q,1,none⟩) | 11=>v=x.fv | 12=>v=.agg (bB m) | 13=>v=.bool fit | 14=>v=.bool (!fit) | 15=>v=.bool (!fit) | _=>True) (fun _ W=>Below w5.heap.size w5 W) (fun _ _=>True) ?hle ((Below.refl _ _).drew) (dL 16 ?steps) ?fin
   case hle=>
    intro i v w w1 hl h
    match i,h with
    | 0,h=>exact h
    | 1,h=>exact h
    | 2,h=>exact h
    | 3,h=>exact h
    | 4,h=>exact h
    | 5,h=>exact h
    | 6,h=>exact h
    | 7,h=>exact h
    | 8,h=>exact h
    | 9,h=>exact h
    | 10,h=>exact h
    | 11,h=>exact h
    | 12,h=>exact h
    | 13,h=>exact h
    | 14,h=>exact h
    | 15,h=>exact h
    | _+16,h=>trivial
   case steps=>
    refine⟨⟨⟨⟨⟨⟨⟨⟨⟨⟨⟨⟨⟨⟨⟨⟨trivial,?s0⟩,?s1⟩,?s2⟩,?s3⟩,?s4⟩,?s5⟩,?s6⟩,?s7⟩,?s8⟩,?s9⟩,?s10⟩,?s11⟩,?s12⟩,?s13⟩,?kg⟩,?s15⟩
    case s0=>
     intro done a w hS h0 hd hn hO hN
     have Bp:a.tmps[10]?=some (.bool true):=outs hO 10 rfl
     refine ah rfl (.bool true) w rfl (by go_simp) ⟨_,rfl,rfl,hS,trivial⟩
    case s1=>
     intro done a w hS h0 hd hn hO hN
     obtain⟨v0,g0,r0⟩:=aj hN 0 25
     obtain rfl:v0=.bool true:=r0
     refine ah rfl (.bool false) w rfl (by go_simp) ⟨_,rfl,rfl,hS,trivial⟩
    case s2=>
     intro done a w hS h0 hd hn hO hN
     obtain⟨v1,g1,r1⟩:=aj hN 1 26
     obtain rfl:v1=.bool false:=r1
     refine ah rfl (.bool false) w rfl (by go_simp) ⟨_,rfl,rfl,hS,trivial⟩
    case s3=>
     intro done a w hS h0 hd hn hO hN
     obtain⟨v2,g2,r2⟩:=aj hN 2 27
     obtain rfl:v2=.bool false:=r2
     have Bq:a.tmps[11]?=some (.slice (some ⟨q,0,none⟩) 1 c):=outs hO 11 rfl
     refine jK rfl (.slice (some ⟨q,0,none⟩) 1 c) w ((bV rfl rfl g2).trans rfl) (by go_simp) ⟨_,rfl,rfl,hS,trivial⟩
    case s4=>
     intro done a w hS h0 hd hn hO hN
     obtain⟨v2,g2,r2⟩:=aj hN 2 27
     obtain rfl:v2=.bool false:=r2
     obtain⟨v3,g3,r3⟩:=aj hN 3 28
     obtain rfl:v3=.slice (some ⟨q,0,none⟩) 1 c:=r3
     refine jK rfl (.int .i64 1) w ((bV rfl rfl g2).trans rfl) (by go_simp) ⟨_,rfl,rfl,hS,trivial⟩
    case s5=>
     intro done a w hS h0 hd hn hO hN
     obtain⟨v2,g2,r2⟩:=aj hN 2 27
     obtain rfl:v2=.bool false:=r2
     obtain⟨v4,g4,r4⟩:=aj hN 4 29
     obtain rfl:v4=.int .i64 1:=r4
     refine jK rfl (.bool false) w ((bV rfl rfl g2).trans rfl) (by go_simp) ⟨_,rfl,rfl,hS,trivial⟩
    case s6=>
     intro done a w hS h0 hd hn hO hN
     obtain⟨v2,g2,r2⟩:=aj hN 2 27
     obtain rfl:v2=.bool false:=r2
     obtain⟨v5,g5,r5⟩:=aj hN 5 30
     obtain rfl:v5=.bool false:=r5
     refine ah rfl (.bool false) w rfl (by go_simp) ⟨_,rfl,rfl,hS,trivial⟩
    case s7=>
     intro done a w hS h0 hd hn hO hN
     obtain⟨v6,g6,r6⟩:=aj hN 6 31
     obtain rfl:v6=.bool false:=r6
     refine ah rfl (.bool false) w rfl (by go_simp) ⟨_,rfl,rfl,hS,trivial⟩
    case s8=>
     intro done a w hS h0 hd hn hO hN
     obtain⟨v7,g7,r7⟩:=aj hN 7 32
     obtain rfl:v7=.bool false:=r7
     have Bq:a.tmps[11]?=some (.slice (some ⟨q,0,none⟩) 1 c):=outs hO 11 rfl
     refine jK rfl (.slice (some ⟨q,0,none⟩) 1 c) w ((bV rfl rfl g7).trans rfl) (by go_simp) ⟨_,rfl,rfl,hS,trivial⟩
    case s9=>
     intro done a w hS h0 hd hn hO hN
     obtain⟨v7,g7,r7⟩:=aj hN 7 32
     obtain rfl:v7=.bool false:=r7
     obtain⟨v8,g8,r8⟩:=aj hN 8 33
     obtain rfl:v8=.slice (some ⟨q,0,none⟩) 1 c:=r8
     refine jK rfl (.pointer (some ⟨q,0,none⟩)) w ((bV rfl rfl g7).trans rfl) (by go_simp) ⟨_,rfl,rfl,hS,trivial⟩
    case s10=>
     intro done a w hS h0 hd hn hO hN
     obtain⟨v7,g7,r7⟩:=aj hN 7 32
     obtain rfl:v7=.bool false:=r7
     obtain⟨v9,g9,r9⟩:=aj hN 9 34
     obtain rfl:v9=.pointer (some ⟨q,0,none⟩):=r9
     refine jK rfl (.pointer (some ⟨q,1,none⟩)) w ((bV rfl rfl g7).trans rfl) (by go_simp) ⟨_,rfl,rfl,hS,trivial⟩
    case s11=>
     intro done a w hS h0 hd hn hO hN
     obtain⟨v7,g7,r7⟩:=aj hN 7 32
     obtain rfl:v7=.bool false:=r7
     obtain⟨v10,g10,bS⟩:=aj hN 10 35
     obtain rfl:v10=.pointer (some ⟨q,1,none⟩):=bS
     have hc:w.cell? ⟨q,1,none⟩=some x.fv:=(Vr.out w hS).2.1
     refine jK rfl (x.fv) w ((bV rfl rfl g7).trans rfl) (by go_simp) ⟨_,rfl,rfl,hS,trivial⟩
    case s12=>
     intro done a w hS h0 hd hn hO hN
     obtain⟨v7,g7,r7⟩:=aj hN 7 32
     obtain rfl:v7=.bool false:=r7
     have o9:a.tmps[9]?=some (.pointer (some ⟨b9,0,none⟩)):=outs hO 9 rfl
     have hl:(Instr.loadAt 182 (.pointer (some ⟨b9,0,none⟩))).run Tryz.prog w=.ok (.agg (bB m)) w:=vg (DZ.out w hS).s9
     refine jK rfl (.agg (bB m)) w ((bV rfl rfl g7).trans rfl) (by simp[execOp,Act.eval,o9,hl,Result.andThen]) ⟨_,rfl,rfl,hS,trivial⟩
    case s13=>
     intro done a w hS h0 hd hn hO hN
     obtain⟨v7,g7,r7⟩:=aj hN 7 32
     obtain rfl:v7=.bool false:=r7
     obtain⟨v11,g11,bW⟩:=aj hN 11 36
     obtain rfl:v11=x.fv:=bW
     obtain⟨v12,g12,dB⟩:=aj hN 12 37
     obtain rfl:v12=.agg (bB m):=dB
     obtain⟨gf,cs,hfv,hcf,hcc⟩:=Vq.out w hS
     refine OL rfl ((bV rfl rfl g7).trans rfl) gf (.tmp 36) [.tmp 37] #[182] rfl [.agg (bB m)] cs (by simp[Act.eval,g11,hfv]) (by simp[Act.eval,g12]) hcf (Calls.mono (hcc w m (Same.refl _)) ?_)
     rintro e w1 ⟨rfl,hb⟩
     exact⟨_,rfl,_,rfl,congrArg Value.bool Vp.out,hS.trans (hb.mono hS.size),trivial⟩
    case kg=>
     intro done a w hS h0 hd hn hO hN
     obtain⟨v7,g7,r7⟩:=aj hN 7 32
     obtain rfl:v7=.bool false:=r7
     obtain⟨v13,g13,dD⟩:=aj hN 13 38
     obtain rfl:v13=.bool fit:=dD
     refine jK rfl (.bool (!fit)) w ((bV rfl rfl g7).trans rfl) (by go_simp) ⟨_,rfl,rfl,hS,trivial⟩
    case s15=>
     intro done a w hS h0 hd hn hO hN
     obtain⟨v7,g7,r7⟩:=aj hN 7 32
     obtain rfl:v7=.bool false:=r7
     obtain⟨v14,g14,dF⟩:=aj hN 14 39
     obtain rfl:v14=.bool (!fit):=dF
     refine ah rfl (.bool (!fit)) w rfl (by go_simp) ⟨_,rfl,rfl,hS,trivial⟩
   case fin=>
    intro vs done w hdone hS hR
    simp only[bn,Act.put,List.setIfInBounds_toArray,List.set_cons_zero,List.set_cons_succ]
    have wo:vs 15=.bool (!fit):=hR 15 (by decide)
    rw[wo]
    have HZ:=show Hid (FD w0 w b6 b7 b9 m) from DZ.out w hS
    have YD:=show Hid (Rt w q [x]) from(Vr.out w hS).1
    clear hS hR hdone wo DZ Vr Vq
    cases fit
    ·clear Vp YD
     go_wp2_with (refine aQ 186 rfl rfl _ _ rfl b6 rfl zT rfl _ _ HZ.out.r6 sizeT rfl zF ?_)
     intro w7 mF iI
     have H7:=show Hid (Cl w7 b6 zT 186/\Cl w7 b7 (bB kT) 182/\Below w0.heap.size w0 w7) from⟨mF,HZ.out.r7.kp iI (fun e=>HZ.out.n67 e.symm),bR HZ.out.av iI HZ.out.g6⟩
     clear mF iI
     go_wp2_with (refine aQ 182 rfl rfl _ _ rfl b7 rfl (bB kT) rfl _ _ H7.out.2.1 jW rfl (kX kT) ?_)
     intro w8 hc8 gI
     go_wp2_with fail
     refine bodyPost_ret (oq rfl _ _ b6 b7 zT kT rfl (H7.out.1.kp gI HZ.out.n67) rfl rfl hc8) rfl ?_
     exact⟨rfl,bR H7.out.2.2 gI HZ.out.g7⟩
    ·clear Vp
     have D5:=show Hid (b9≠b6/\b9≠b7/\q≠b6/\w0.heap.size<=b6/\w0.heap.size<=b7/\b6≠b7) from⟨HZ.out.n69,HZ.out.n79,Vn.out,HZ.out.g6,HZ.out.g7,HZ.out.n67⟩
     go_wp2_with fail
     refine bK (by kernel_rfl) [some 43,some 44,some 45,some 46,none,none,some 8] [[],[0],[1],[],[2],[3],[]] (by kernel_rfl) (fun i v w=>match i with | 0=>v=.slice (some ⟨q,0,none⟩) 1 c | 1=>v=.pointer (some ⟨q,0,none⟩) | 2=>v=.agg (c3 x).toArray | 3=>v=.agg (bB m) | 4=>True | 5=>True | 6=>v=.bool true | _=>True) (fun done W=>Cl W b6 (if done 4 then (c3 x).toArray else zT) 186/\Cl W b7 (if done 5 then bB m else bB kT) 182/\Cl W b9 (bB m) 182/\Rt W q [x]/\Below w0.heap.size w0 W) (fun _ _=>True) ?hle (⟨HZ.out.r6,HZ.out.r7,HZ.out.s9,YD.out.keep rfl,HZ.out.av.drew⟩) (dL 7 ?steps) ?fin
     case hle=>
      intro i v w w1 hl h
      match i,h with
      | 0,h=>exact h
      | 1,h=>exact h
      | 2,h=>exact h
      | 3,h=>exact h
      | 4,h=>exact h
      | 5,h=>exact h
      | 6,h=>exact h
      | _+7,h=>trivial
     case steps=>
      refine⟨⟨⟨⟨⟨⟨⟨trivial,?s0⟩,?s1⟩,?s2⟩,?s3⟩,?s4⟩,?s5⟩,?s6⟩
      case s0=>
       intro done a w hS h0 hd hn hO hN
       have Bq:a.tmps[11]?=some (.slice (some ⟨q,0,none⟩) 1 c):=outs hO 11 rfl
       refine ah rfl (.slice (some ⟨q,0,none⟩) 1 c) w rfl (by go_simp) ⟨_,rfl,rfl,by simpa[h0] using hS,trivial⟩
      case s1=>
       intro done a w hS h0 hd hn hO hN
       obtain⟨v0,g0,r0⟩:=aj hN 0 43
       obtain rfl:v0=.slice (some ⟨q,0,none⟩) 1 c:=r0
       refine ah rfl (.pointer (some ⟨q,0,none⟩)) w rfl (by go_simp) ⟨_,rfl,rfl,by simpa[h0] using hS,trivial⟩
      case s2=>
       intro done a w hS h0 hd hn hO hN
       obtain⟨v1,g1,r1⟩:=aj hN 1 44
       obtain rfl:v1=.pointer (some ⟨q,0,none⟩):=r1
       have hl:=(show(Instr.loadAt 186 (.pointer (some ⟨q,0,none⟩))).run Tryz.prog w=.ok (.agg (c3 x).toArray) w from by simpa using hS.2.2.2.1.load (j:=0) (by simp))
       refine ah rfl (.agg (c3 x).toArray) w rfl (by simp[execOp,Act.eval,g1,hl,Result.andThen]) ⟨_,rfl,rfl,by simpa[h0] using hS,trivial⟩
      case s3=>
       intro done a w hS h0 hd hn hO hN
       have o9:a.tmps[9]?=some (.pointer (some ⟨b9,0,none⟩)):=outs hO 9 rfl
       have hl:=vg hS.2.2.1
       refine ah rfl (.agg (bB m)) w rfl (by simp[execOp,Act.eval,o9,hl,Result.andThen]) ⟨_,rfl,rfl,by simpa[h0] using hS,trivial⟩
      case s4=>
       intro done a w hS h0 hd hn hO hN
       obtain⟨v2,g2,r2⟩:=aj hN 2 45
       obtain rfl:v2=.agg (c3 x).toArray:=r2
       have o6:a.tmps[6]?=some (.pointer (some ⟨b6,0,none⟩)):=outs hO 6 rfl
       have hz:=hS.1
       rw[if_neg (by simp[h0])] at hz
       have hq:=Vl (T:=186) (cs:=(c3 x).toArray) hz (by rw[sizeT];rfl) rfl (zB x)
       refine ny rfl rfl 186 (.tmp 6) (.tmp 45) rfl (by simp[Act.eval,o6]) (by simp[Act.eval,g2]) hq ⟨undef,rfl,trivial,⟨?_,?_,hS.2.2.1.kp (fJ w b6 _) D5.out.1,hS.2.2.2.1.keep (setRow_other w b6 q _ D5.out.2.2.1),below_setRow hS.2.2.2.2 D5.out.2.2.2.1⟩,trivial⟩
       ·simpa[Cl] using setRow_heap w b6 _ (c3 x).toArray _ _ hz
       ·simpa[Cl] using hS.2.1.kp (fJ w b6 _) (fun e=>D5.out.2.2.2.2.2 e.symm)
      case s5=>
       intro done a w hS h0 hd hn hO hN
       obtain⟨v3,g3,r3⟩:=aj hN 3 46
       obtain rfl:v3=.agg (bB m):=r3
       have o7:a.tmps[7]?=some (.pointer (some ⟨b7,0,none⟩)):=outs hO 7 rfl
       have hz:=hS.2.1
       rw[if_neg (by simp[h0])] at hz
       have hq:=Vl (T:=182) (cs:=bB m) hz jW rfl (kX m)
       refine ny rfl rfl 182 (.tmp 7) (.tmp 46) rfl (by simp[Act.eval,o7]) (by simp[Act.eval,g3]) hq ⟨undef,rfl,trivial,⟨?_,?_,hS.2.2.1.kp (fJ w b7 _) D5.out.2.1,hS.2.2.2.1.keep (setRow_other w b7 q _ Vo.out),below_setRow hS.2.2.2.2 D5.out.2.2.2.2.1⟩,trivial⟩
       ·simpa[Cl] using hS.1.kp (fJ w b7 _) D5.out.2.2.2.2.2
       ·simpa[Cl] using setRow_heap w b7 _ (bB m) _ _ hz
      case s6=>
       intro done a w hS h0 hd hn hO hN
       refine ah rfl (.bool true) w rfl (by go_simp) ⟨_,rfl,rfl,by simpa[h0] using hS,trivial⟩
     case fin=>
      intro vs done w hdone hS hR
      have h6:=hS.1
      have h7:=hS.2.1
      rw[if_pos (hdone 4 (by decide))] at h6
      rw[if_pos (hdone 5 (by decide))] at h7
      simp only[bn,Act.put,List.setIfInBounds_toArray,List.set_cons_zero,List.set_cons_succ]
      have nI:vs 6=.bool true:=hR 6 (by decide)
      rw[nI]
      have HZ:=show Hid (Cl w b6 (c3 x).toArray 186/\Cl w b7 (bB m) 182/\Below w0.heap.size w0 w) from⟨h6,h7,hS.2.2.2.2⟩
      clear hS hR hdone nI h6 h7
      go_wp2_with fail
      refine bodyPost_ret (oq rfl _ _ b6 b7 _ m rfl HZ.out.1 rfl rfl HZ.out.2.1) rfl ?_
      exact⟨rfl,HZ.out.2.2⟩
  ·rw[Mq rH]
   obtain rfl:ff=false:=by
    rw[DY.out]
    have:(decide (1<=ru) && decide (ru<=13))=false:=by simpa using fun h1=>by omega
    rw[this]
    rfl
   simp only[List.length_nil]
   clear Aj Mt DY Vn Vo H5 rH Mr
   go_wp2_with fail
   refine bK (by kernel_rfl) [some 25,some 26,some 27,some 28,some 29,some 30,some 31,some 32,some 33,some 34,some 35,some 36,some 37,some 38,some 39,some 40] [[],[0],[1],[2],[2,3],[2,4],[2,5],[6],[7],[7],[7],[7],[7],[7],[7],[7,14]] (by kernel_rfl) (fun i v w=>match i with | 0=>v=.bool true | 1=>v=.bool false | 2=>v=.bool false | 3=>v=.slice (some ⟨q,0,none⟩) 0 c | 4=>v=.int .i64 0 | 5=>v=.bool true | 6=>v=.bool true | 7=>v=.bool true | 8=>v=undef | 9=>v=undef | 10=>v=undef | 11=>v=undef | 12=>v=undef | 13=>v=undef | 14=>v=undef | 15=>v=.bool true | _=>True) (fun _ W=>Below w5.heap.size w5 W) (fun _ _=>True) ?hle ((Below.refl _ _).drew) (dL 16 ?steps) ?fin
   case hle=>
    intro i v w w1 hl h
    match i,h with
    | 0,h=>exact h
    | 1,h=>exact h
    | 2,h=>exact h
    | 3,h=>exact h
    | 4,h=>exact h
    | 5,h=>exact h
    | 6,h=>exact h
    | 7,h=>exact h
    | 8,h=>exact h
    | 9,h=>exact h
    | 10,h=>exact h
    | 11,h=>exact h
    | 12,h=>exact h
    | 13,h=>exact h
    | 14,h=>exact h
    | 15,h=>exact h
    | _+16,h=>trivial
   case steps=>
    refine⟨⟨⟨⟨⟨⟨⟨⟨⟨⟨⟨⟨⟨⟨⟨⟨trivial,?s0⟩,?s1⟩,?s2⟩,?s3⟩,?s4⟩,?s5⟩,?s6⟩,?s7⟩,?s8⟩,?s9⟩,?s10⟩,?s11⟩,?s12⟩,?s13⟩,?kg⟩,?s15⟩
    case s0=>
     intro done a w hS h0 hd hn hO hN
     have Bp:a.tmps[10]?=some (.bool true):=outs hO 10 rfl
     refine ah rfl (.bool true) w rfl (by go_simp) ⟨_,rfl,rfl,hS,trivial⟩
    case s1=>
     intro done a w hS h0 hd hn hO hN
     obtain⟨v0,g0,r0⟩:=aj hN 0 25
     obtain rfl:v0=.bool true:=r0
     refine ah rfl (.bool false) w rfl (by go_simp) ⟨_,rfl,rfl,hS,trivial⟩
    case s2=>
     intro done a w hS h0 hd hn hO hN
     obtain⟨v1,g1,r1⟩:=aj hN 1 26
     obtain rfl:v1=.bool false:=r1
     refine ah rfl (.bool false) w rfl (by go_simp) ⟨_,rfl,rfl,hS,trivial⟩
    case s3=>
     intro done a w hS h0 hd hn hO hN
     obtain⟨v2,g2,r2⟩:=aj hN 2 27
     obtain rfl:v2=.bool false:=r2
     have Bq:a.tmps[11]?=some (.slice (some ⟨q,0,none⟩) 0 c):=outs hO 11 rfl
     refine jK rfl (.slice (some ⟨q,0,none⟩) 0 c) w ((bV rfl rfl g2).trans rfl) (by go_simp) ⟨_,rfl,rfl,hS,trivial⟩
    case s4=>
     intro done a w hS h0 hd hn hO hN
     obtain⟨v2,g2,r2⟩:=aj hN 2 27
     obtain rfl:v2=.bool false:=r2
     obtain⟨v3,g3,r3⟩:=aj hN 3 28
     obtain rfl:v3=.slice (some ⟨q,0,none⟩) 0 c:=r3
     refine jK rfl (.int .i64 0) w ((bV rfl rfl g2).trans rfl) (by go_simp) ⟨_,rfl,rfl,hS,trivial⟩
    case s5=>
     intro done a w hS h0 hd hn hO hN
     obtain⟨v2,g2,r2⟩:=aj hN 2 27
     obtain rfl:v2=.bool false:=r2
     obtain⟨v4,g4,r4⟩:=aj hN 4 29
     obtain rfl:v4=.int .i64 0:=r4
     refine jK rfl (.bool true) w ((bV rfl rfl g2).trans rfl) (by go_simp) ⟨_,rfl,rfl,hS,trivial⟩
    case s6=>
     intro done a w hS h0 hd hn hO hN
     obtain⟨v2,g2,r2⟩:=aj hN 2 27
     obtain rfl:v2=.bool false:=r2
     obtain⟨v5,g5,r5⟩:=aj hN 5 30
     obtain rfl:v5=.bool true:=r5
     refine ah rfl (.bool true) w rfl (by go_simp) ⟨_,rfl,rfl,hS,trivial⟩
    case s7=>
     intro done a w hS h0 hd hn hO hN
     obtain⟨v6,g6,r6⟩:=aj hN 6 31
     obtain rfl:v6=.bool true:=r6
     refine ah rfl (.bool true) w rfl (by go_simp) ⟨_,rfl,rfl,hS,trivial⟩
    case s8=>
     intro done a w hS h0 hd hn hO hN
     obtain⟨v7,g7,r7⟩:=aj hN 7 32
     obtain rfl:v7=.bool true:=r7
     refine jV rfl ((bV rfl rfl g7).trans rfl) ⟨_,rfl,rfl,hS,trivial⟩
    case s9=>
     intro done a w hS h0 hd hn hO hN
     obtain⟨v7,g7,r7⟩:=aj hN 7 32
     obtain rfl:v7=.bool true:=r7
     refine jV rfl ((bV rfl rfl g7).trans rfl) ⟨_,rfl,rfl,hS,trivial⟩
    case s10=>
     intro done a w hS h0 hd hn hO hN
     obtain⟨v7,g7,r7⟩:=aj hN 7 32
     obtain rfl:v7=.bool true:=r7
     refine jV rfl ((bV rfl rfl g7).trans rfl) ⟨_,rfl,rfl,hS,trivial⟩
    case s11=>
     intro done a w hS h0 hd hn hO hN
     obtain⟨v7,g7,r7⟩:=aj hN 7 32
     obtain rfl:v7=.bool true:=r7
     refine jV rfl ((bV rfl rfl g7).trans rfl) ⟨_,rfl,rfl,hS,trivial⟩
    case s12=>
     intro done a w hS h0 hd hn hO hN
     obtain⟨v7,g7,r7⟩:=aj hN 7 32
     obtain rfl:v7=.bool true:=r7
     refine jV rfl ((bV rfl rfl g7).trans rfl) ⟨_,rfl,rfl,hS,trivial⟩
    case s13=>
     intro done a w hS h0 hd hn hO hN
     obtain⟨v7,g7,r7⟩:=aj hN 7 32
     obtain rfl:v7=.bool true:=r7
     refine jV rfl ((bV rfl rfl g7).trans rfl) ⟨_,rfl,rfl,hS,trivial⟩
    case kg=>
     intro done a w hS h0 hd hn hO hN
     obtain⟨v7,g7,r7⟩:=aj hN 7 32
     obtain rfl:v7=.bool true:=r7
     refine jV rfl ((bV rfl rfl g7).trans rfl) ⟨_,rfl,rfl,hS,trivial⟩
    case s15=>
     intro done a w hS h0 hd hn hO hN
     obtain⟨v7,g7,r7⟩:=aj hN 7 32
     obtain rfl:v7=.bool true:=r7
     obtain⟨v14,g14,dF⟩:=aj hN 14 39
     obtain rfl:v14=undef:=dF
     refine ah rfl (.bool true) w rfl (by go_simp) ⟨_,rfl,rfl,hS,trivial⟩
   case fin=>
    intro vs done w hdone hS hR
    simp only[bn,Act.put,List.setIfInBounds_toArray,List.set_cons_zero,List.set_cons_succ]
    have wo:vs 15=.bool true:=hR 15 (by decide)
    rw[wo]
    have HZ:=show Hid (FD w0 w b6 b7 b9 m) from DZ.out w hS
    clear hS hR hdone wo DZ
    go_wp2_with (refine aQ 186 rfl rfl _ _ rfl b6 rfl zT rfl _ _ HZ.out.r6 sizeT rfl zF ?_)
    intro w7 mF iI
    have H7:=show Hid (Cl w7 b6 zT 186/\Cl w7 b7 (bB kT) 182/\Below w0.heap.size w0 w7) from⟨mF,HZ.out.r7.kp iI (fun e=>HZ.out.n67 e.symm),bR HZ.out.av iI HZ.out.g6⟩
    clear mF iI
    go_wp2_with (refine aQ 182 rfl rfl _ _ rfl b7 rfl (bB kT) rfl _ _ H7.out.2.1 jW rfl (kX kT) ?_)
    intro w8 hc8 gI
    go_wp2_with fail
    refine bodyPost_ret (oq rfl _ _ b6 b7 zT kT rfl (H7.out.1.kp gI HZ.out.n67) rfl rfl hc8) rfl ?_
    exact⟨rfl,bR H7.out.2.2 gI HZ.out.g7⟩
end Go.Proofs.YtkpbpecikibohaaGreatDoor
