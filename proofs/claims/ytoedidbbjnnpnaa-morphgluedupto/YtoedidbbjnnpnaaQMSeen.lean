/-
  seen: which numbers the worlds above each world have: of any well-formed model. No condition.
-/
import Derived.Test.YtoedidbbjnnpnaaQMSeenP
import Derived.Test.YtoedidbbjnnpnaaTH10
import Derived.Test.YtoedidbbjnnpnaaTH9
namespace Go.Proofs.Ytoedidbbjnnpnaa.Wm
open Go.RowKit Go.Maps
open Wd (Md Good Rc Ed upd vl allW)
set_option linter.unusedSimpArgs false
set_option linter.unusedVariables false
def numF (nl:List Int) (a:Nat):Nat:=(nl.getD a 0).toNat
structure Sk (w:World) (L M Q S F A:Nat) (uv vv nv:Value) (m:Md) (nl:List Int) (ws:Nat→Nat):Prop where
 bm:Cl w M #[uv,vv] 25
 bq:Cl w Q #[nv] 27
 bs:Cl w S #[.slice (some ⟨A,0,none⟩) m.up.length m.up.length] 99
 bf:Cl w F #[.func (.func 85) #[] #[.pointer (some ⟨S,0,none⟩),.pointer (some ⟨Q,0,none⟩),.pointer (some ⟨M,0,none⟩),.pointer (some ⟨F,0,none⟩)]] 122
 abv:Ws w A (m.up.length * 8) 103 ws
 mod:IsM w L uv vv m
 num:IsI w L nv nl
 lA:L≤A
 nA:A≠M∧A≠Q∧A≠S∧A≠F
section
variable {w w':World} {L M Q S F A:Nat} {uv vv nv:Value} {m:Md} {nl:List Int} {ws ws':Nat→Nat}
theorem Sk.setA (h:Sk w L M Q S F A uv vv nv m nl ws) (hw:Ws w' A (m.up.length * 8) 103 ws') (hk:Kp (fun k=>k=A) w w'):Sk w' L M Q S F A uv vv nv m nl ws':=by
 obtain ⟨n1,n2,n3,n4⟩:=h.nA
 have hA:=h.abv.row.lt
 have hl:=h.lA
 exact ⟨h.bm.kp hk (fun e=>n1 e.symm),h.bq.kp hk (fun e=>n2 e.symm),h.bs.kp hk (fun e=>n3 e.symm),h.bf.kp hk (fun e=>n4 e.symm),hw,h.mod.keep fun k h1=>hk.block k (by omega) (by omega),h.num.keep fun k h1=>hk.block k (by omega) (by omega),h.lA,h.nA⟩
theorem Sk.drew (h:Sk w L M Q S F A uv vv nv m nl ws):Sk w.drew L M Q S F A uv vv nv m nl ws :=
 ⟨h.bm,h.bq,h.bs,h.bf,h.abv.keep rfl,h.mod.keep fun _ _=>rfl,h.num.keep fun _ _=>rfl,h.lA,h.nA⟩
end
def SeenC (N L M Q S F A:Nat) (uv vv nv:Value) (m:Md) (nl:List Int):Prop :=
 ∀ (w:World) (st ws:Nat→Nat) (x:Nat),Sk w L M Q S F A uv vv nv m nl ws→SI m.up (numF nl) st (abW ws)→(∀ a,st a≤2)→x<m.up.length→(∀ g,st g=1→Rc m.up g x)→zeros st m.up.length≤N →
  Calls Try.prog 85 #[.int .i64 (x:Int),.pointer (some ⟨S,0,none⟩),.pointer (some ⟨Q,0,none⟩),.pointer (some ⟨M,0,none⟩),.pointer (some ⟨F,0,none⟩)] w fun e w'=>e=.returned (.tuple #[]) ∧
   ∃ st' ws',Sk w' L M Q S F A uv vv nv m nl ws'∧SI m.up (numF nl) st' (abW ws')∧(∀ a,st' a≤2)∧st' x≠0∧Aft st (abW ws) st' (abW ws')∧Kp (fun k=>k=A) w w'
structure SL (w wr:World) (L M Q S F A:Nat) (uv vv nv:Value) (m:Md) (nl:List Int) (st ws:Nat→Nat) (N x:Nat) (row:List Int) (j:Nat) (st' ws':Nat→Nat):Prop where
 sk:Sk wr L M Q S F A uv vv nv m nl ws'
 mid:SM m.up (numF nl) st' (abW ws') x row j
 le:∀ a,st' a≤2
 aft:AftX x st (abW ws) st' (abW ws')
 kp:Kp (fun k=>k=A) w wr
 zer:zeros st' m.up.length<N
theorem nonz {st:Nat→Nat} {a:Nat} (h:∀ a,st a≤2) (h1:st a≠0):st a=1∨st a=2:=by have:=h a;omega
set_option maxRecDepth 100000 in
set_option maxHeartbeats 8000000 in
theorem seen_step {N L M Q S F A:Nat} {uv vv nv:Value} {m:Md} {nl:List Int} (h5:m.up.length≤512) (hall:∀ r ∈ m.up,allW m.up.length r=true) (hf:Fit m) (hnl:nl.length=m.up.length) (hnb:∀ i ∈ nl,0≤i∧i<512) (anti:∀ a b,Rc m.up a b→Rc m.up b a→a=b)
 (IH:∀ N',N'<N→SeenC N' L M Q S F A uv vv nv m nl):SeenC N L M Q S F A uv vv nv m nl:=by
 intro w st ws x hS hI hle hx hon hz
 obtain ⟨pn,cn,rfl⟩:=IsS.form hS.num
 obtain ⟨bn,on,hbn,rfl,hcn0⟩:=(IsS.at hS.num).2 (by omega)
 have hcn:∀ (k:Nat) (hk:k<nl.length),w.cell? ⟨bn,on+k,none⟩=some (.int .i64 nl[k]):=fun k hk=>by
  obtain ⟨y,hy,rfl⟩:=hcn0 k hk
  exact hy
 obtain ⟨pu,cu,rfl,hu⟩:=hS.mod.up.row
 obtain ⟨bu,ou,qu,nu,rfl,hbu,hcu,hiu⟩:=hu x hx
 obtain ⟨row,hrow⟩:∃ row,row=m.up[x]:=⟨_,rfl⟩
 rw [← hrow] at hcu hiu
 have hxn:x<nl.length:=by omega
 obtain ⟨c,hc⟩:∃ c:Nat,c=numF nl x:=⟨_,rfl⟩
 have hcx:nl[x]=(c:Int)∧c<512:=by
  have h1:=hnb _ (List.getElem_mem hxn)
  have h2:numF nl x=nl[x].toNat:=by unfold numF;rw [List.getD_eq_getElem?_getD,List.getElem?_eq_getElem hxn];rfl
  rw [hc,h2]
  omega
 have c1:=hcn x hxn
 rw [hcx.1] at c1
 have s0:w.cell? ⟨S,0,none⟩=some (.slice (some ⟨A,0,none⟩) m.up.length m.up.length):=hS.bs.cell 0
 have q0:w.cell? ⟨Q,0,none⟩=some (.slice (some ⟨bn,on,none⟩) nl.length cn):=hS.bq.cell 0
 have hxi:(x:Int)<(m.up.length:Int):=by omega
 have hxi2:(x:Int)<(nl.length:Int):=by omega
 have hc5:=hcx.2
 have KH:=show Hid _ from mhas_any w.drew hS.drew.abv (x * 8) c hc5 (by omega)
 have HBT:=show Hid (bit ws (x * 8) c=true ↔ st x≠0) from by
  rw [← abW_has ws x hc5,hc]
  constructor
  ·intro h e;rw [hI.new x e] at h;cases h
  ·exact hI.on x
 have HST:=show Hid (Sk w L M Q S F A (.slice (some ⟨bu,ou,none⟩) m.up.length cu) vv (.slice (some ⟨bn,on,none⟩) nl.length cn) m nl ws∧SI m.up (numF nl) st (abW ws)∧(∀ a,st a≤2)∧(∀ g,st g=1→Rc m.up g x)∧zeros st m.up.length≤N) from ⟨hS,hI,hle,hon,hz⟩
 have HCC:=show Hid (c=numF nl x) from hc
 have HROW:=show Hid (∀ (j:Nat) (hj:j<row.length),∃ b o,b<L∧qu=some ⟨b,o,none⟩∧w.cell? ⟨b,o+j,none⟩=some (.int .i64 row[j])) from fun j hj=>by
  obtain ⟨b,o,hb,hq,hat⟩:=(IsS.at hiu).2 (by omega)
  obtain ⟨y,hy,rfl⟩:=hat j hj
  exact ⟨b,o,hb,hq,hy⟩
 have HIN:=show Hid (∀ (j:Nat) (hj:j<row.length),∃ v:Nat,v<m.up.length∧row[j]=(v:Int)) from fun j hj=>by
  have h1:=hall m.up[x] (List.getElem_mem hx)
  rw [← hrow] at h1
  simp only [allW,List.all_eq_true,Wd.inW,Bool.and_eq_true,decide_eq_true_eq] at h1
  have h2:=h1 _ (List.getElem_mem hj)
  exact ⟨row[j].toNat,by omega,by omega⟩
 have hrl:row.length≤140737488351232:=by rw [hrow];exact (hf.2.2.1 _ (List.getElem_mem hx)).1
 have HRX:=show Hid (m.up[x]?=some row) from by
  show m.up[x]?=some row
  rw [List.getElem?_eq_getElem hx,hrow]
 have HIH:=show Hid _ from IH
 have HAN:=show Hid _ from anti
 have HCU:=show Hid (bu<L∧w.cell? ⟨bu,ou+x,none⟩=some (.slice qu row.length nu)) from ⟨hbu,hcu⟩
 have HLW:=show Hid (L≤A∧A<w.heap.size) from ⟨hS.lA,hS.abv.row.lt⟩
 clear hS hI hle hon hz hu hcu hiu hbu hcn hcn0 hnb hall hf IH anti hrow hc hcx hbn hnl hxn
 go_enter Try.func85,Try.ntmps85
 go_wp2_with fail
 refine wp_region_one (by kernel_rfl) 7 [some 8,some 9,some 10,some 11,some 12,some 13,some 14,some 15] [[],[],[0,1],[],[],[3,4],[5],[2,6]] [[],[],[0,1],[],[],[3,4],[5,3,4],[2,0,1,6,5,3,4]] (by kernel_rfl) (by decide) (fun ii vv w1=>match ii with | 0=>vv=.slice (some ⟨A,0,none⟩) m.up.length m.up.length | 1=>vv=.int .i64 (x:Int) | 2=>vv=.pointer (some ⟨A,x * 8,none⟩) | 3=>vv=.slice (some ⟨bn,on,none⟩) nl.length cn | 4=>vv=.int .i64 (x:Int) | 5=>vv=.pointer (some ⟨bn,on+x,none⟩) | 6=>vv=.int .i64 (c:Int) | 7=>vv=.bool (bit ws (x * 8) c)∧w1=w.drew.drew | _=>True) ?hfree (allLt 8 ?steps) ?fin
 case hfree =>
  intro j v w1 w2 hj hn h
  match j,h,hj,hn with
  | 0,h,_,_=>exact h
  | 1,h,_,_=>exact h
  | 2,h,_,_=>exact h
  | 3,h,_,_=>exact h
  | 4,h,_,_=>exact h
  | 5,h,_,_=>exact h
  | 6,h,_,_=>exact h
  | 7,_,hj,_=>exact absurd rfl hj
  | _+8,_,_,_=>trivial
 case steps =>
  refine ⟨⟨⟨⟨⟨⟨⟨⟨trivial,?s0⟩,?s1⟩,?s2⟩,?s3⟩,?s4⟩,?s5⟩,?s6⟩,?s7⟩
  case s0 =>
   intro a w1 hw hO hN
   obtain rfl:w1=w.drew:=hw (by decide)
   have o1:a.tmps[1]?=some (.pointer (some ⟨S,0,none⟩)):=(hO.out 1 (by decide)).trans rfl
   exact relVal rfl (.slice (some ⟨A,0,none⟩) m.up.length m.up.length) _ rfl (by go_simp) ⟨_,rfl,rfl,fun _=>rfl⟩
  case s1 =>
   intro a w1 hw hO hN
   obtain rfl:w1=w.drew:=hw (by decide)
   have o0:a.tmps[0]?=some (.int .i64 (x:Int)):=(hO.out 0 (by decide)).trans rfl
   exact relVal rfl (.int .i64 (x:Int)) _ rfl (by go_simp) ⟨_,rfl,rfl,fun _=>rfl⟩
  case s2 =>
   intro a w1 hw hO hN
   obtain rfl:w1=w.drew:=hw (by decide)
   obtain ⟨v0,g0,r0⟩:=hN 0 (by decide)
   have g0:a.tmps[8]?=some v0:=g0
   have e0:v0=.slice (some ⟨A,0,none⟩) m.up.length m.up.length:=r0
   rw [e0] at g0
   obtain ⟨v1,g1,r1⟩:=hN 1 (by decide)
   have g1:a.tmps[9]?=some v1:=g1
   have e1:v1=.int .i64 (x:Int):=r1
   rw [e1] at g1
   exact relVal rfl (.pointer (some ⟨A,x * 8,none⟩)) _ rfl (by go_simp) ⟨_,rfl,rfl,fun _=>rfl⟩
  case s3 =>
   intro a w1 hw hO hN
   obtain rfl:w1=w.drew:=hw (by decide)
   have o2:a.tmps[2]?=some (.pointer (some ⟨Q,0,none⟩)):=(hO.out 2 (by decide)).trans rfl
   exact relVal rfl (.slice (some ⟨bn,on,none⟩) nl.length cn) _ rfl (by go_simp) ⟨_,rfl,rfl,fun _=>rfl⟩
  case s4 =>
   intro a w1 hw hO hN
   obtain rfl:w1=w.drew:=hw (by decide)
   have o0:a.tmps[0]?=some (.int .i64 (x:Int)):=(hO.out 0 (by decide)).trans rfl
   exact relVal rfl (.int .i64 (x:Int)) _ rfl (by go_simp) ⟨_,rfl,rfl,fun _=>rfl⟩
  case s5 =>
   intro a w1 hw hO hN
   obtain rfl:w1=w.drew:=hw (by decide)
   obtain ⟨v3,g3,r3⟩:=hN 3 (by decide)
   have g3:a.tmps[11]?=some v3:=g3
   have e3:v3=.slice (some ⟨bn,on,none⟩) nl.length cn:=r3
   rw [e3] at g3
   obtain ⟨v4,g4,r4⟩:=hN 4 (by decide)
   have g4:a.tmps[12]?=some v4:=g4
   have e4:v4=.int .i64 (x:Int):=r4
   rw [e4] at g4
   exact relVal rfl (.pointer (some ⟨bn,on+x,none⟩)) _ rfl (by go_simp) ⟨_,rfl,rfl,fun _=>rfl⟩
  case s6 =>
   intro a w1 hw hO hN
   obtain rfl:w1=w.drew:=hw (by decide)
   obtain ⟨v5,g5,r5⟩:=hN 5 (by decide)
   have g5:a.tmps[13]?=some v5:=g5
   have e5:v5=.pointer (some ⟨bn,on+x,none⟩):=r5
   rw [e5] at g5
   exact relVal rfl (.int .i64 (c:Int)) _ rfl (by go_simp) ⟨_,rfl,rfl,fun _=>rfl⟩
  case s7 =>
   intro a w1 hw hO hN
   obtain rfl:w1=w.drew:=hw (by decide)
   obtain ⟨v2,g2,r2⟩:=hN 2 (by decide)
   have g2:a.tmps[10]?=some v2:=g2
   have e2:v2=.pointer (some ⟨A,x * 8,none⟩):=r2
   rw [e2] at g2
   obtain ⟨v6,g6,r6⟩:=hN 6 (by decide)
   have g6:a.tmps[14]?=some v6:=g6
   have e6:v6=.int .i64 (c:Int):=r6
   rw [e6] at g6
   refine relCallF rfl rfl 86 [.tmp 10,.tmp 14] #[103,3] rfl [.pointer (some ⟨A,x * 8,none⟩),.int .i64 (c:Int)] (by simp [Act.eval,g2,g6]) (fun _ _=>by kernel_rfl) (Calls.mono (KH.out) ?_)
   rintro e w5 ⟨rfl,rfl⟩
   exact ⟨_,rfl,_,rfl,⟨rfl,rfl⟩,fun h=>absurd rfl h⟩
 case fin =>
  intro vs w1 hV
  obtain ⟨e7,rfl⟩:vs 7=.bool (bit ws (x * 8) c)∧w1=w.drew.drew:=hV 7 (by decide)
  have HS1:=show Hid (Sk w.drew.drew L M Q S F A (.slice (some ⟨bu,ou,none⟩) m.up.length cu) vv (.slice (some ⟨bn,on,none⟩) nl.length cn) m nl ws∧Kp (fun k=>k=A) w w.drew.drew) from ⟨HST.out.1.drew.drew,(Kp.refl _ _).drew.drew⟩
  have s1:w.drew.drew.cell? ⟨S,0,none⟩=some (.slice (some ⟨A,0,none⟩) m.up.length m.up.length):=s0
  have q1:w.drew.drew.cell? ⟨Q,0,none⟩=some (.slice (some ⟨bn,on,none⟩) nl.length cn):=q0
  have c2:w.drew.drew.cell? ⟨bn,on+x,none⟩=some (.int .i64 (c:Int)):=c1
  clear hV KH s0 q0 c1
  simp only [putAll,Act.put,List.setIfInBounds_toArray,List.set_cons_zero,List.set_cons_succ,Nat.reduceAdd,e7]
  clear e7
  generalize w.drew.drew=w0 at *
  by_cases h0:st x=0
  ·have hbt:bit ws (x * 8) c=false:=by
    cases hb:bit ws (x * 8) c
    ·rfl
    ·exact absurd h0 (HBT.out.1 hb)
   have KP:=show Hid _ from mput_any w0.drew (HS1.out.1.abv.keep rfl) (x * 8) c hc5 (by omega)
   have H00:=show Hid (st x=0) from h0
   have HM0:=show Hid (SM m.up (numF nl) (upd st x 1) (upd (abW ws) x fun b=>abW ws x b || decide (b=numF nl x)) x row 0) from SM.start HST.out.2.1 h0 HRX.out HST.out.2.2.2.1
   have HZ1:=show Hid (zeros (upd st x 1) m.up.length<N) from Nat.lt_of_lt_of_le (zeros_way st hx h0) HST.out.2.2.2.2
   clear HBT h0
   rw [hbt]
   clear hbt
   go_wp2_with fail
   refine wp_region_one (by kernel_rfl) 7 [some 16,some 17,some 18,some 19,some 20,some 21,some 22,some 23] [[],[],[0,1],[],[],[3,4],[5],[2,6]] [[],[],[0,1],[],[],[3,4],[5,3,4],[2,0,1,6,5,3,4]] (by kernel_rfl) (by decide) (fun ii vv w1=>match ii with | 0=>vv=.slice (some ⟨A,0,none⟩) m.up.length m.up.length | 1=>vv=.int .i64 (x:Int) | 2=>vv=.pointer (some ⟨A,x * 8,none⟩) | 3=>vv=.slice (some ⟨bn,on,none⟩) nl.length cn | 4=>vv=.int .i64 (x:Int) | 5=>vv=.pointer (some ⟨bn,on+x,none⟩) | 6=>vv=.int .i64 (c:Int) | 7=>Ws w1 A (m.up.length * 8) 103 (Wd.upd ws (x * 8+c / 64) (ws (x * 8+c / 64) ||| 2 ^ (c % 64)))∧Kp (fun k=>k=A) w0.drew w1 | _=>True) ?hfree (allLt 8 ?steps) ?fin
   case hfree =>
    intro j v w1 w2 hj hn h
    match j,h,hj,hn with
    | 0,h,_,_=>exact h
    | 1,h,_,_=>exact h
    | 2,h,_,_=>exact h
    | 3,h,_,_=>exact h
    | 4,h,_,_=>exact h
    | 5,h,_,_=>exact h
    | 6,h,_,_=>exact h
    | 7,_,hj,_=>exact absurd rfl hj
    | _+8,_,_,_=>trivial
   case steps =>
    refine ⟨⟨⟨⟨⟨⟨⟨⟨trivial,?s0⟩,?s1⟩,?s2⟩,?s3⟩,?s4⟩,?s5⟩,?s6⟩,?s7⟩
    case s0 =>
     intro a w1 hw hO hN
     obtain rfl:w1=w0.drew:=hw (by decide)
     have o1:a.tmps[1]?=some (.pointer (some ⟨S,0,none⟩)):=(hO.out 1 (by decide)).trans rfl
     exact relVal rfl (.slice (some ⟨A,0,none⟩) m.up.length m.up.length) _ rfl (by go_simp) ⟨_,rfl,rfl,fun _=>rfl⟩
    case s1 =>
     intro a w1 hw hO hN
     obtain rfl:w1=w0.drew:=hw (by decide)
     have o0:a.tmps[0]?=some (.int .i64 (x:Int)):=(hO.out 0 (by decide)).trans rfl
     exact relVal rfl (.int .i64 (x:Int)) _ rfl (by go_simp) ⟨_,rfl,rfl,fun _=>rfl⟩
    case s2 =>
     intro a w1 hw hO hN
     obtain rfl:w1=w0.drew:=hw (by decide)
     obtain ⟨v0,g0,r0⟩:=hN 0 (by decide)
     have g0:a.tmps[16]?=some v0:=g0
     have e0:v0=.slice (some ⟨A,0,none⟩) m.up.length m.up.length:=r0
     rw [e0] at g0
     obtain ⟨v1,g1,r1⟩:=hN 1 (by decide)
     have g1:a.tmps[17]?=some v1:=g1
     have e1:v1=.int .i64 (x:Int):=r1
     rw [e1] at g1
     exact relVal rfl (.pointer (some ⟨A,x * 8,none⟩)) _ rfl (by go_simp) ⟨_,rfl,rfl,fun _=>rfl⟩
    case s3 =>
     intro a w1 hw hO hN
     obtain rfl:w1=w0.drew:=hw (by decide)
     have o2:a.tmps[2]?=some (.pointer (some ⟨Q,0,none⟩)):=(hO.out 2 (by decide)).trans rfl
     exact relVal rfl (.slice (some ⟨bn,on,none⟩) nl.length cn) _ rfl (by go_simp) ⟨_,rfl,rfl,fun _=>rfl⟩
    case s4 =>
     intro a w1 hw hO hN
     obtain rfl:w1=w0.drew:=hw (by decide)
     have o0:a.tmps[0]?=some (.int .i64 (x:Int)):=(hO.out 0 (by decide)).trans rfl
     exact relVal rfl (.int .i64 (x:Int)) _ rfl (by go_simp) ⟨_,rfl,rfl,fun _=>rfl⟩
    case s5 =>
     intro a w1 hw hO hN
     obtain rfl:w1=w0.drew:=hw (by decide)
     obtain ⟨v3,g3,r3⟩:=hN 3 (by decide)
     have g3:a.tmps[19]?=some v3:=g3
     have e3:v3=.slice (some ⟨bn,on,none⟩) nl.length cn:=r3
     rw [e3] at g3
     obtain ⟨v4,g4,r4⟩:=hN 4 (by decide)
     have g4:a.tmps[20]?=some v4:=g4
     have e4:v4=.int .i64 (x:Int):=r4
     rw [e4] at g4
     exact relVal rfl (.pointer (some ⟨bn,on+x,none⟩)) _ rfl (by go_simp) ⟨_,rfl,rfl,fun _=>rfl⟩
    case s6 =>
     intro a w1 hw hO hN
     obtain rfl:w1=w0.drew:=hw (by decide)
     obtain ⟨v5,g5,r5⟩:=hN 5 (by decide)
     have g5:a.tmps[21]?=some v5:=g5
     have e5:v5=.pointer (some ⟨bn,on+x,none⟩):=r5
     rw [e5] at g5
     exact relVal rfl (.int .i64 (c:Int)) _ rfl (by go_simp) ⟨_,rfl,rfl,fun _=>rfl⟩
    case s7 =>
     intro a w1 hw hO hN
     obtain rfl:w1=w0.drew:=hw (by decide)
     obtain ⟨v2,g2,r2⟩:=hN 2 (by decide)
     have g2:a.tmps[18]?=some v2:=g2
     have e2:v2=.pointer (some ⟨A,x * 8,none⟩):=r2
     rw [e2] at g2
     obtain ⟨v6,g6,r6⟩:=hN 6 (by decide)
     have g6:a.tmps[22]?=some v6:=g6
     have e6:v6=.int .i64 (c:Int):=r6
     rw [e6] at g6
     refine relCallF rfl rfl 87 [.tmp 18,.tmp 22] #[103,3] rfl [.pointer (some ⟨A,x * 8,none⟩),.int .i64 (c:Int)] (by simp [Act.eval,g2,g6]) (fun _ _=>by kernel_rfl) (Calls.mono (KP.out) ?_)
     rintro e w5 ⟨rfl,h1,h2⟩
     exact ⟨_,rfl,_,rfl,⟨h1,h2⟩,fun h=>absurd rfl h⟩
   case fin =>
    intro vs w1 hV
    obtain ⟨hW2,hK2⟩:Ws w1 A (m.up.length * 8) 103 (Wd.upd ws (x * 8+c / 64) (ws (x * 8+c / 64) ||| 2 ^ (c % 64)))∧Kp (fun k=>k=A) w0.drew w1:=hV 7 (by decide)
    have HU:=show Hid (∃ ws2,SL w w1 L M Q S F A (.slice (some ⟨bu,ou,none⟩) m.up.length cu) vv (.slice (some ⟨bn,on,none⟩) nl.length cn) m nl st ws N x row 0 (upd st x 1) ws2) from
     ⟨_,HS1.out.1.drew.setA hW2 hK2,by rw [abW_putC ws hc5,HCC.out];exact HM0.out,fun a=>by unfold upd;split;decide;exact HST.out.2.2.1 a,by rw [abW_putC ws hc5];exact aftX_start H00.out _,HS1.out.2.drew.trans hK2 fun _ h=>Or.inl h,HZ1.out⟩
    clear hV KP hW2 hK2 HS1 HM0 HZ1 s1 q1 c2
    simp only [putAll,Act.put,List.setIfInBounds_toArray,List.set_cons_zero,List.set_cons_succ,Nat.reduceAdd]
    have m0:w1.cell? ⟨M,0,none⟩=some (.slice (some ⟨bu,ou,none⟩) m.up.length cu):=by
     obtain ⟨ws2,h⟩:=HU.out
     exact h.sk.bm.cell 0
    have hcu:w1.cell? ⟨bu,ou+x,none⟩=some (.slice qu row.length nu):=by
     obtain ⟨ws2,h⟩:=HU.out
     have:=HCU.out.1
     have:=HLW.out
     exact (World.cell?_of_block (a:=⟨bu,ou+x,none⟩) (h.kp.block bu (by omega) (by omega))).trans HCU.out.2
    go_wp2_with fail
    go_loopw [7,30] (fun _ i wr=>∃ (j:Nat) (st' ws':Nat→Nat),j≤row.length∧i=.int .i64 (j:Int)∧Hid (SL w wr L M Q S F A (.slice (some ⟨bu,ou,none⟩) m.up.length cu) vv (.slice (some ⟨bn,on,none⟩) nl.length cn) m nl st ws N x row j st' ws')) (fun _ i _=>row.length - (intOf i).toNat)
    case atStart =>
     obtain ⟨ws2,h⟩:=HU.out
     exact ⟨0,_,ws2,Nat.zero_le _,rfl,h⟩
    case round =>
     obtain ⟨j,st1,ws1,hj,rfl,H1⟩:=hrel
     clear HU m0 hcu
     by_cases hlt:j<row.length
     ·obtain ⟨v,hvn,hve⟩:=HIN.out j hlt
      obtain ⟨br,orr,hbr,rfl,hcr⟩:=HROW.out j hlt
      rw [hve] at hcr
      have HRJ:=show Hid (row[j]?=some (v:Int)) from by
       show row[j]?=some (v:Int)
       rw [List.getElem?_eq_getElem hlt,hve]
      have hc:wr.cell? ⟨br,orr+j,none⟩=some (.int .i64 (v:Int)):=by
       have:=HLW.out
       exact (World.cell?_of_block (a:=⟨br,orr+j,none⟩) (H1.out.kp.block br (by omega) (by omega))).trans hcr
      have f0:wr.cell? ⟨F,0,none⟩=some (.func (.func 85) #[] #[.pointer (some ⟨S,0,none⟩),.pointer (some ⟨Q,0,none⟩),.pointer (some ⟨M,0,none⟩),.pointer (some ⟨F,0,none⟩)]):=H1.out.sk.bf.cell 0
      have hji:(j:Int)<(row.length:Int):=by omega
      have KI:=show Hid _ from HIH.out (zeros st1 m.up.length) H1.out.zer wr st1 ws1 v H1.out.sk H1.out.mid.inv H1.out.le hvn (fun g hg=>(H1.out.mid.onw g hg).trans (.one (H1.out.mid.edge HRJ.out))) (Nat.le_refl _)
      clear hve hcr
      go_wp2_with fail
      refine Calls.mono KI.out ?_
      rintro e w4 ⟨rfl,st4,ws4,hS4,hI4,hl4,hv4,hA4,hK4⟩
      have H3:=show Hid (SL w w4 L M Q S F A (.slice (some ⟨bu,ou,none⟩) m.up.length cu) vv (.slice (some ⟨bn,on,none⟩) nl.length cn) m nl st ws N x row j st4 ws4∧st4 v≠0) from
       ⟨⟨hS4,H1.out.mid.after hI4 hA4,hl4,H1.out.aft.after hA4,H1.out.kp.trans hK4 fun _ h=>Or.inl h,Nat.lt_of_le_of_lt (hA4.zeros _) H1.out.zer⟩,hv4⟩
      clear KI hS4 hI4 hl4 hv4 hA4 hK4 H1 hc f0
      have s4:w4.cell? ⟨S,0,none⟩=some (.slice (some ⟨A,0,none⟩) m.up.length m.up.length):=H3.out.1.sk.bs.cell 0
      have KJ:=show Hid _ from mjoin_any w4.drew (H3.out.1.sk.abv.keep rfl) (x * 8) (v * 8) (by omega) (by omega) (by omega)
      have hvi:(v:Int)<(m.up.length:Int):=by omega
      go_wp2_with fail
      refine wp_region_one (by kernel_rfl) 6 [some 37,some 38,some 39,some 40,some 41,some 42,some 43] [[],[],[0,1],[],[],[3,4],[2,5]] [[],[],[0,1],[],[],[3,4],[2,0,1,5,3,4]] (by kernel_rfl) (by decide) (fun ii vv w1=>match ii with | 0=>vv=.slice (some ⟨A,0,none⟩) m.up.length m.up.length | 1=>vv=.int .i64 (x:Int) | 2=>vv=.pointer (some ⟨A,x * 8,none⟩) | 3=>vv=.slice (some ⟨A,0,none⟩) m.up.length m.up.length | 4=>vv=.int .i64 (v:Int) | 5=>vv=.pointer (some ⟨A,v * 8,none⟩) | 6=>Ws w1 A (m.up.length * 8) 103 (joinW ws4 (x * 8) (v * 8) 8)∧Kp (fun k=>k=A) w4.drew w1 | _=>True) ?hfree (allLt 7 ?steps) ?fin
      case hfree =>
       intro j v w1 w2 hj hn h
       match j,h,hj,hn with
       | 0,h,_,_=>exact h
       | 1,h,_,_=>exact h
       | 2,h,_,_=>exact h
       | 3,h,_,_=>exact h
       | 4,h,_,_=>exact h
       | 5,h,_,_=>exact h
       | 6,_,hj,_=>exact absurd rfl hj
       | _+7,_,_,_=>trivial
      case steps =>
       refine ⟨⟨⟨⟨⟨⟨⟨trivial,?s0⟩,?s1⟩,?s2⟩,?s3⟩,?s4⟩,?s5⟩,?s6⟩
       case s0 =>
        intro a w1 hw hO hN
        obtain rfl:w1=w4.drew:=hw (by decide)
        have o1:a.tmps[1]?=some (.pointer (some ⟨S,0,none⟩)):=(hO.out 1 (by decide)).trans rfl
        exact relVal rfl (.slice (some ⟨A,0,none⟩) m.up.length m.up.length) _ rfl (by go_simp) ⟨_,rfl,rfl,fun _=>rfl⟩
       case s1 =>
        intro a w1 hw hO hN
        obtain rfl:w1=w4.drew:=hw (by decide)
        have o0:a.tmps[0]?=some (.int .i64 (x:Int)):=(hO.out 0 (by decide)).trans rfl
        exact relVal rfl (.int .i64 (x:Int)) _ rfl (by go_simp) ⟨_,rfl,rfl,fun _=>rfl⟩
       case s2 =>
        intro a w1 hw hO hN
        obtain rfl:w1=w4.drew:=hw (by decide)
        obtain ⟨v0,g0,r0⟩:=hN 0 (by decide)
        have g0:a.tmps[37]?=some v0:=g0
        have e0:v0=.slice (some ⟨A,0,none⟩) m.up.length m.up.length:=r0
        rw [e0] at g0
        obtain ⟨v1,g1,r1⟩:=hN 1 (by decide)
        have g1:a.tmps[38]?=some v1:=g1
        have e1:v1=.int .i64 (x:Int):=r1
        rw [e1] at g1
        exact relVal rfl (.pointer (some ⟨A,x * 8,none⟩)) _ rfl (by go_simp) ⟨_,rfl,rfl,fun _=>rfl⟩
       case s3 =>
        intro a w1 hw hO hN
        obtain rfl:w1=w4.drew:=hw (by decide)
        have o1:a.tmps[1]?=some (.pointer (some ⟨S,0,none⟩)):=(hO.out 1 (by decide)).trans rfl
        exact relVal rfl (.slice (some ⟨A,0,none⟩) m.up.length m.up.length) _ rfl (by go_simp) ⟨_,rfl,rfl,fun _=>rfl⟩
       case s4 =>
        intro a w1 hw hO hN
        obtain rfl:w1=w4.drew:=hw (by decide)
        have o7:a.tmps[7]?=some (.int .i64 (v:Int)):=(hO.out 7 (by decide)).trans rfl
        exact relVal rfl (.int .i64 (v:Int)) _ rfl (by go_simp) ⟨_,rfl,rfl,fun _=>rfl⟩
       case s5 =>
        intro a w1 hw hO hN
        obtain rfl:w1=w4.drew:=hw (by decide)
        obtain ⟨v3,g3,r3⟩:=hN 3 (by decide)
        have g3:a.tmps[40]?=some v3:=g3
        have e3:v3=.slice (some ⟨A,0,none⟩) m.up.length m.up.length:=r3
        rw [e3] at g3
        obtain ⟨v4,g4,r4⟩:=hN 4 (by decide)
        have g4:a.tmps[41]?=some v4:=g4
        have e4:v4=.int .i64 (v:Int):=r4
        rw [e4] at g4
        exact relVal rfl (.pointer (some ⟨A,v * 8,none⟩)) _ rfl (by go_simp) ⟨_,rfl,rfl,fun _=>rfl⟩
       case s6 =>
        intro a w1 hw hO hN
        obtain rfl:w1=w4.drew:=hw (by decide)
        obtain ⟨v2,g2,r2⟩:=hN 2 (by decide)
        have g2:a.tmps[39]?=some v2:=g2
        have e2:v2=.pointer (some ⟨A,x * 8,none⟩):=r2
        rw [e2] at g2
        obtain ⟨v5,g5,r5⟩:=hN 5 (by decide)
        have g5:a.tmps[42]?=some v5:=g5
        have e5:v5=.pointer (some ⟨A,v * 8,none⟩):=r5
        rw [e5] at g5
        refine relCallF rfl rfl 88 [.tmp 39,.tmp 42] #[103,124] rfl [.pointer (some ⟨A,x * 8,none⟩),.pointer (some ⟨A,v * 8,none⟩)] (by simp [Act.eval,g2,g5]) (fun _ _=>by kernel_rfl) (Calls.mono (KJ.out) ?_)
        rintro e w6 ⟨rfl,h1,h2⟩
        exact ⟨_,rfl,_,rfl,⟨h1,h2⟩,fun h=>absurd rfl h⟩
      case fin =>
       intro vs w1 hV
       obtain ⟨hW6,hK6⟩:Ws w1 A (m.up.length * 8) 103 (joinW ws4 (x * 8) (v * 8) 8)∧Kp (fun k=>k=A) w4.drew w1:=hV 6 (by decide)
       have H6:=show Hid (SL w w1 L M Q S F A (.slice (some ⟨bu,ou,none⟩) m.up.length cu) vv (.slice (some ⟨bn,on,none⟩) nl.length cn) m nl st ws N x row (j+1) st4 (joinW ws4 (x * 8) (v * 8) 8)) from
        ⟨H3.out.1.sk.drew.setA hW6 hK6,by rw [abW_join];exact H3.out.1.mid.join HRJ.out H3.out.2 (H3.out.1.le v) HAN.out,H3.out.1.le,by rw [abW_join];exact H3.out.1.aft.join H00.out _,H3.out.1.kp.drew.trans hK6 fun _ h=>Or.inl h,H3.out.1.zer⟩
       clear H3 hV hW6 hK6 KJ s4
       simp only [putAll,Act.put,List.setIfInBounds_toArray,List.set_cons_zero,List.set_cons_succ,Nat.reduceAdd]
       go_wp2_with fail
       go_roundw
       case rel=>exact ⟨j+1,st4,_,by omega,val_int (by omega),H6⟩
       case measure=>(simp only [intOf];omega)
     ·obtain rfl:j=row.length:=by omega
      have hji:¬ (row.length:Int)<(row.length:Int):=by omega
      have HF:=show Hid (∃ st' ws',Sk wr L M Q S F A (.slice (some ⟨bu,ou,none⟩) m.up.length cu) vv (.slice (some ⟨bn,on,none⟩) nl.length cn) m nl ws'∧SI m.up (numF nl) st' (abW ws')∧(∀ a,st' a≤2)∧st' x≠0∧Aft st (abW ws) st' (abW ws')∧Kp (fun k=>k=A) w wr) from
       ⟨_,_,H1.out.sk,H1.out.mid.finish,fun a=>by unfold upd;split;decide;exact H1.out.le a,by rw [Wd.upd_same];decide,H1.out.aft.finish H00.out,H1.out.kp⟩
      clear H1
      go_wp2_with fail
      go_end0
      exact ⟨rfl,HF.out⟩
  ·have hbt:bit ws (x * 8) c=true:=HBT.out.2 h0
   have H00:=show Hid (st x≠0) from h0
   rw [hbt]
   clear HBT hbt h0
   go_wp2_with fail
   refine bodyPost_ret (results_none rfl _ _ _) rfl ?_
   exact ⟨rfl,st,ws,HS1.out.1,HST.out.2.1,HST.out.2.2.1,H00.out,⟨fun _ _=>rfl,fun _ _=>rfl,fun a ha=>Or.inl ha⟩,HS1.out.2⟩
end Go.Proofs.Ytoedidbbjnnpnaa.Wm
