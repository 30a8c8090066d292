/-
  goUp: a walk upward from a world. No condition.
-/
import Derived.Test.YtoedidbbjnnpnaaTH7
import Derived.Test.YtoedidbbjnnpnaaTH8
import Derived.Test.YtoedidbbjnnpnaaTH9
namespace Go.Proofs.Ytoedidbbjnnpnaa.Wm
open Go.RowKit Go.Maps
open Wd (Md Mid Rc Ed Sub upd vl allW names)
set_option linter.unusedSimpArgs false
structure Rk (w:World) (L R A S:Nat) (uv vv:Value) (m:Md) (st ws:Nat→Nat):Prop where
 blk:Cl w R #[uv,vv,.slice (some ⟨A,0,none⟩) m.up.length m.up.length,.slice (some ⟨S,0,none⟩) m.up.length m.up.length] 128
 abv:Ws w A (m.up.length * 8) 129 ws
 stg:Rw w S m.up.length 3 (fun k=>.int .i64 (st k:Int))
 mod:IsM w L uv vv m
 lA:L≤A
 lS:L≤S
 nRA:R≠A
 nRS:R≠S
 nAS:A≠S
 le:∀ k,st k≤2
section
variable {w w':World} {L R A S:Nat} {uv vv:Value} {m:Md} {st ws:Nat→Nat}
theorem Rk.keep (h:Rk w L R A S uv vv m st ws) (hb:∀ k,k<L∨k=R∨k=A∨k=S→w'.heap[k]?=w.heap[k]?):Rk w' L R A S uv vv m st ws :=
 ⟨(hb R (by simp)).trans h.blk,h.abv.keep (hb A (by simp)),h.stg.keep (hb S (by simp)),h.mod.keep fun k hk=>hb k (Or.inl hk),h.lA,h.lS,h.nRA,h.nRS,h.nAS,h.le⟩
theorem Rk.setS (h:Rk w L R A S uv vv m st ws) (x k:Nat) (hk:k≤2):Rk (w.setCell ⟨S,x,none⟩ (.int .i64 (k:Int))) L R A S uv vv m (upd st x k) ws:=by
 have hb:∀ b,b≠S→(w.setCell ⟨S,x,none⟩ (.int .i64 (k:Int))).heap[b]?=w.heap[b]?:=fun b hb=>Below.heap_setCell w ⟨S,x,none⟩ _ b hb
 refine ⟨(hb R h.nRS).trans h.blk,h.abv.keep (hb A h.nAS),(h.stg.set x _).same fun j _ => ?_,h.mod.keep fun k hk=>hb k (by have:=h.lS;omega),h.lA,h.lS,h.nRA,h.nRS,h.nAS,fun j => ?_⟩
 ·unfold upd
  split <;> rfl
 ·unfold upd
  split
  ·exact hk
  ·exact h.le j
theorem Rk.setA {ws':Nat→Nat} (h:Rk w L R A S uv vv m st ws) (hw:Ws w' A (m.up.length * 8) 129 ws') (hk:Kp (fun k=>k=A) w w'):Rk w' L R A S uv vv m st ws':=by
 have hb:∀ b,b<w.heap.size→b≠A→w'.heap[b]?=w.heap[b]?:=fun b h1 h2=>hk.block b h1 h2
 have hA:=h.abv.row.lt
 exact ⟨(hb R h.blk.lt h.nRA).trans h.blk,hw,h.stg.keep (hb S h.stg.lt h.nAS.symm),h.mod.keep fun k hk=>hb k (by have:=h.lA;omega) (by have:=h.lA;omega),h.lA,h.lS,h.nRA,h.nRS,h.nAS,h.le⟩
theorem Rk.c0 (h:Rk w L R A S uv vv m st ws):w.cell? ⟨R,0,none⟩=some uv:=h.blk.cell 0
theorem Rk.c1 (h:Rk w L R A S uv vv m st ws):w.cell? ⟨R,1,none⟩=some vv:=h.blk.cell 1
theorem Rk.c2 (h:Rk w L R A S uv vv m st ws):w.cell? ⟨R,2,none⟩=some (.slice (some ⟨A,0,none⟩) m.up.length m.up.length):=h.blk.cell 2
theorem Rk.c3 (h:Rk w L R A S uv vv m st ws):w.cell? ⟨R,3,none⟩=some (.slice (some ⟨S,0,none⟩) m.up.length m.up.length):=h.blk.cell 3
theorem Rk.cs (h:Rk w L R A S uv vv m st ws) {x:Nat} (hx:x<m.up.length):w.cell? ⟨S,x,none⟩=some (.int .i64 (st x:Int)):=h.stg.cell hx
end
structure AftX (x:Nat) (st:Nat→Nat) (ab:Nat→Nat→Bool) (st':Nat→Nat) (ab':Nat→Nat→Bool):Prop where
 hst:∀ a,st a≠0→st' a=st a
 hab:∀ a,st a≠0→ab' a=ab a
 hz:∀ a,st a=0→a≠x→st' a=0∨st' a=2
theorem aftX_start {x:Nat} {st:Nat→Nat} {ab:Nat→Nat→Bool} (h0:st x=0) (f:Nat→Bool):AftX x st ab (upd st x 1) (upd ab x f):=by
 have ne:∀ a,st a≠0→a≠x:=fun a ha e=>ha (e ▸ h0)
 exact ⟨fun a ha=>Wd.upd_other _ _ _ (ne a ha),fun a ha=>Wd.upd_other _ _ _ (ne a ha),fun a ha hx=>Or.inl ((Wd.upd_other _ _ _ hx).trans ha)⟩
theorem AftX.after {x:Nat} {s1 s2 s3:Nat→Nat} {a1 a2 a3:Nat→Nat→Bool} (h:AftX x s1 a1 s2 a2) (k:Aft s2 a2 s3 a3):AftX x s1 a1 s3 a3:=by
 have e:∀ a,s1 a≠0→s2 a≠0:=fun a ha=>by rw [h.hst a ha];exact ha
 refine ⟨fun a ha=>(k.hst a (e a ha)).trans (h.hst a ha),fun a ha=>(k.hab a (e a ha)).trans (h.hab a ha),fun a ha hx => ?_⟩
 rcases h.hz a ha hx with h2 | h2
 ·exact k.hz a h2
 ·right;rw [k.hst a (by rw [h2];decide)];exact h2
theorem AftX.join {x:Nat} {st st':Nat→Nat} {ab ab':Nat→Nat→Bool} (h:AftX x st ab st' ab') (h0:st x=0) (f:Nat→Bool):AftX x st ab st' (upd ab' x f) :=
 ⟨h.hst,fun a ha=>(Wd.upd_other _ _ _ (fun e=>ha (by rw [e];exact h0))).trans (h.hab a ha),h.hz⟩
theorem AftX.finish {x:Nat} {st st':Nat→Nat} {ab ab':Nat→Nat→Bool} (h:AftX x st ab st' ab') (h0:st x=0):Aft st ab (upd st' x 2) ab':=by
 refine ⟨fun a ha=>(Wd.upd_other _ _ _ (fun e=>ha (by rw [e];exact h0))).trans (h.hst a ha),h.hab,fun a ha => ?_⟩
 by_cases e:a=x
 ·right;rw [e,Wd.upd_same]
 ·rw [Wd.upd_other _ _ _ e];exact h.hz a ha e
structure UL (w wr:World) (L R A S:Nat) (uv vv:Value) (m:Md) (st ws:Nat→Nat) (N x:Nat) (row:List Int) (j:Nat) (st' ws':Nat→Nat):Prop where
 rk:Rk wr L R A S uv vv m st' ws'
 mid:Mid m st' (abW ws') x row j
 aft:AftX x st (abW ws) st' (abW ws')
 kp:Kp (fun k=>k=A∨k=S) w wr
 zer:zeros st' m.up.length≤N
theorem UL.drew {w wr:World} {L R A S:Nat} {uv vv:Value} {m:Md} {st ws:Nat→Nat} {N x:Nat} {row:List Int} {j:Nat} {st' ws':Nat→Nat} (h:UL w wr L R A S uv vv m st ws N x row j st' ws'):UL w wr.drew L R A S uv vv m st ws N x row j st' ws' :=
 ⟨h.rk.keep fun _ _=>rfl,h.mid,h.aft,h.kp.drew,h.zer⟩
theorem UL.low {w wr:World} {L R A S:Nat} {uv vv:Value} {m:Md} {st ws:Nat→Nat} {N x:Nat} {row:List Int} {j:Nat} {st' ws':Nat→Nat} (h:UL w wr L R A S uv vv m st ws N x row j st' ws') {p:Addr} (hp:p.block<L) (hw:p.block<w.heap.size):wr.cell? p=w.cell? p :=
 World.cell?_of_block (h.kp.block p.block hw (by have:=h.rk.lA;have:=h.rk.lS;omega))
def Upd (w w':World) (L R A S:Nat) (uv vv:Value) (m:Md) (st ws:Nat→Nat) (x:Nat) (r:Bool):Prop :=
 Kp (fun k=>k=A∨k=S) w w'∧(r=false→¬ Wd.Good m)∧(r=true→∃ st' ws',Rk w' L R A S uv vv m st' ws'∧Wd.Inv m st' (abW ws')∧st' x=2∧Aft st (abW ws) st' (abW ws'))
def UpC (N L R A S:Nat) (uv vv:Value) (m:Md):Prop :=
 ∀ (w:World) (st ws:Nat→Nat) (x:Nat),Rk w L R A S uv vv m st ws→Wd.Inv m st (abW ws)→x<m.up.length→st x=0→(∀ g,st g=1→Rc m.up g x)→zeros st m.up.length≤N →
  Calls Try.prog 92 #[.pointer (some ⟨R,0,none⟩),.int .i64 (x:Int)] w fun e w'=>∃ r:Bool,e=.returned (.bool r)∧Upd w w' L R A S uv vv m st ws x r
set_option maxRecDepth 100000 in
set_option maxHeartbeats 4000000 in
theorem up_step {N L R A S:Nat} {uv vv:Value} {m:Md} (hs:Wd.shaped m=true) (hf:Fit m) (IH:UpC N L R A S uv vv m):UpC (N+1) L R A S uv vv m:=by
 intro w st ws x hR hI hx h0 hon hz
 obtain ⟨hn1,hn2,hvl,hup,hnm⟩:=Wd.shaped_and hs
 obtain ⟨pu,cu,rfl,hu⟩:=hR.mod.up.row
 obtain ⟨bu,ou,qu,nu,rfl,hbu,hcu,hiu⟩:=hu x hx
 obtain ⟨row,hrow⟩:∃ row,row=m.up[x]:=⟨_,rfl⟩
 rw [← hrow] at hcu hiu
 have hm0:=Wd.mid_start hI (w:=x) (row:=row) (by rw [List.getElem?_eq_getElem hx,hrow]) h0 hon
 have hz1:=zeros_way st hx h0
 have hR1:Rk (w.setCell ⟨S,x,none⟩ (.int .i64 1)) L R A S _ vv m (upd st x 1) ws:=hR.setS x 1 (by decide)
 have KP:=show Hid _ from put_any _ hR1.abv (x * 8) x (by omega) (by omega)
 have HPW:=show Hid _ from abW_put ws (x:=x) (by omega)
 have c2:=hR.c2
 have c3:=hR.c3
 have cs:=hR.cs hx
 have fs:w.frozen? ⟨S,x,none⟩=false:=hR.stg.fr x
 have d2:=hR1.c2
 have hxi:(x:Int)<(m.up.length:Int):=by omega
 go_enter Try.func92,Try.ntmps92
 go_wp2_with fail
 refine Calls.mono KP.out ?_
 rintro e w2 ⟨rfl,hW2,hK2⟩
 have HU:=show Hid (∃ ws2,UL w w2 L R A S _ vv m st ws N x row 0 (upd st x 1) ws2) from ⟨_,hR1.setA hW2 hK2,by rw [HPW.out];exact hm0,by rw [HPW.out];exact aftX_start h0 _,((Kp.refl (fun k=>k=A∨k=S) w).set (p:=S) (Or.inr rfl) x (.int .i64 1)).trans (hK2.wide (S':=fun k=>k=A∨k=S) fun _ h=>Or.inl h) fun _ h=>Or.inl h,by omega⟩
 have e0:=(hR1.setA hW2 hK2).c0
 have hcu2:w2.cell? ⟨bu,ou+x,none⟩=some (.slice qu row.length nu):=by
  obtain ⟨ws2,h⟩:=HU.out
  exact (h.low (p:=⟨bu,ou+x,none⟩) hbu (World.block_lt_of_cell? w _ hcu)).trans hcu
 have HROW:=show Hid (∀ (j:Nat) (hj:j<row.length),∃ b o,b<L∧b<w.heap.size∧qu=some ⟨b,o,none⟩∧w.cell? ⟨b,o+j,none⟩=some (.int .i64 row[j])) from fun j hj=>by
  obtain ⟨b,o,hb,hq,hat⟩:=(IsS.at hiu).2 (by omega)
  obtain ⟨y,hy,rfl⟩:=hat j hj
  exact ⟨b,o,hb,World.block_lt_of_cell? w _ hy,hq,hy⟩
 have HIN:=show Hid (∀ (j:Nat) (hj:j<row.length),∃ v:Nat,v<m.up.length∧row[j]=(v:Int)) from fun j hj=>by
  have h1:=hup m.up[x] (List.getElem_mem hx)
  rw [← hrow] at h1
  simp only [allW,List.all_eq_true,Wd.inW,Bool.and_eq_true,decide_eq_true_eq] at h1
  have h2:=h1 _ (List.getElem_mem hj)
  exact ⟨row[j].toNat,by omega,by omega⟩
 have hrl:row.length≤140737488351232:=by rw [hrow];exact (hf.2.2.1 _ (List.getElem_mem hx)).1
 have HFV:=show Hid (∀ (j:Nat) (hj:j<m.val.length),m.val[j].length≤140737488351232) from fun j hj=>(hf.2.2.2 _ (List.getElem_mem hj)).1
 have HNM:=show Hid (∀ (j:Nat) (hj:j<m.val.length),names none m.val[j]=true) from fun j hj=>hnm _ (List.getElem_mem hj)
 have H00:=show Hid (st x=0) from h0
 have HIH:=show Hid (UpC N L R A S (.slice (some ⟨bu,ou,none⟩) m.up.length cu) vv m) from IH
 clear KP hW2 hK2 hR hI h0 hon hz hm0 hz1 hR1 c2 c3 cs fs d2 hu hcu hiu HPW hf hnm hup hs IH hrow
 go_wp2_with fail
 go_loopw [6,30] (fun _ i wr=>∃ (j:Nat) (st' ws':Nat→Nat),j≤row.length∧i=.int .i64 (j:Int)∧Hid (UL w wr L R A S (.slice (some ⟨bu,ou,none⟩) m.up.length cu) vv m st ws N x row j st' ws')) (fun _ i _=>row.length - (intOf i).toNat)
 case atStart =>
  obtain ⟨ws2,h⟩:=HU.out
  exact ⟨0,_,ws2,Nat.zero_le _,rfl,h⟩
 case round =>
  obtain ⟨j,st1,ws1,hj,rfl,H1⟩:=hrel
  clear HU hcu2 e0
  by_cases hlt:j<row.length
  ·obtain ⟨v,hvn,hve⟩:=HIN.out j hlt
   obtain ⟨br,or_,hbr,hbw,rfl,hcr⟩:=HROW.out j hlt
   rw [hve] at hcr
   have hrj:row[j]?=some (v:Int):=by rw [List.getElem?_eq_getElem hlt,hve]
   have HRJ:=show Hid (row[j]?=some (v:Int)) from hrj
   have r2:=H1.out.rk.c2
   have r3:=H1.out.rk.c3
   have rv:=H1.out.rk.cs hvn
   have hc:wr.cell? ⟨br,or_+j,none⟩=some (.int .i64 (v:Int)):=(H1.out.low (p:=⟨br,or_+j,none⟩) hbr hbw).trans hcr
   have KH:=show Hid _ from has_any wr H1.out.rk.abv (x * 8) v (by omega) (by omega)
   have HAB:=show Hid (abW ws1 x v=bit ws1 (x * 8) v) from by
    show abW ws1 x v=bit ws1 (x * 8) v
    unfold abW;rw [decide_eq_true (by omega)];rfl
   have hji:(j:Int)<(row.length:Int):=by omega
   have hvi:(v:Int)<(m.up.length:Int):=by omega
   clear hve hcr hrj
   go_wp2_with fail
   refine Calls.mono KH.out ?_
   rintro e w3 ⟨rfl,rfl⟩
   clear KH
   cases hbt:bit ws1 (x * 8) v
   ·have HB:=show Hid (abW ws1 x v=false) from HAB.out.trans hbt
    clear hbt HAB
    have hle:=H1.out.rk.le v
    by_cases h1:st1 v=1
    ·have e1:((st1 v:Int) == 1)=true:=by rw [h1];rfl
     have HBAD:=show Hid (¬ Wd.Good m) from Wd.bad_way H1.out.mid HRJ.out h1 HB.out
     clear h1
     go_wp2_with fail
     go_ret
     exact ⟨false,rfl,H1.out.kp.drew,fun _=>HBAD.out,fun h=>(by cases h)⟩
    ·have e1:((st1 v:Int) == 1)=false:=by simp;omega
     by_cases h2:st1 v=0
     ·have e2:((st1 v:Int) == 0)=true:=by simp [h2]
      have KI:=show Hid _ from HIH.out wr.drew st1 ws1 v (H1.out.drew.rk) H1.out.mid.inv hvn h2 (fun g hg=>(H1.out.mid.onw g hg).trans (.one (H1.out.mid.edge HRJ.out))) H1.out.zer
      clear h1 h2
      go_wp2_with fail
      refine Calls.mono KI.out ?_
      rintro e w4 ⟨r,rfl,hk4,hbad,hgood⟩
      clear KI
      cases r
      ·have HBAD:=show Hid (¬ Wd.Good m) from hbad rfl
       have HK:=show Hid (Kp (fun k=>k=A∨k=S) w w4) from H1.out.kp.drew.trans hk4 fun _ h=>Or.inl h
       clear hbad hgood hk4 H1
       go_wp2_with fail
       go_ret
       exact ⟨false,rfl,HK.out,fun _=>HBAD.out,fun h=>(by cases h)⟩
      ·obtain ⟨st4,ws4,hR4,hI4,hv4,hA4⟩:=hgood rfl
       have H3:=show Hid (UL w w4 L R A S (.slice (some ⟨bu,ou,none⟩) m.up.length cu) vv m st ws N x row j st4 ws4) from ⟨hR4,mid_after H1.out.mid hI4 hA4,H1.out.aft.after hA4,H1.out.kp.drew.trans hk4 fun _ h=>Or.inl h,Nat.le_trans (hA4.zeros _) H1.out.zer⟩
       have HV2:=show Hid (st4 v=2) from hv4
       clear hbad hR4 hI4 hv4 hA4 hk4 hgood H1 r2 r3 rv hc
       obtain ⟨pv,cv,rfl,hvr⟩:=H3.out.rk.mod.val.row
       obtain ⟨bv,ov,qx,nx,rfl,hbv,hcx,hix⟩:=hvr x (by omega)
       obtain ⟨bv',ov',qv,nv,e9,hbv',hcv,hiv⟩:=hvr v (by omega)
       obtain ⟨rfl,rfl⟩:bv=bv'∧ov=ov':=by cases e9;exact ⟨rfl,rfl⟩
       clear e9
       have KW:=show Hid (∀ W:World,W.heap=w4.heap→Calls Try.prog 99 #[.slice qx m.val[x].length nx,.slice qv m.val[v].length nv] W fun e w'=>∃ r:Bool,e=.returned (.bool r)∧(r=true ↔ Sub m.val[x] m.val[v])∧w'=W) from fun W hW=>within_any W (IsN.keep hix fun k _=>by rw [hW]) (IsN.keep hiv fun k _=>by rw [hW]) (HFV.out x (by omega)) (HFV.out v (by omega)) (HNM.out x (by omega)) (HNM.out v (by omega))
       have r1:=H3.out.rk.c1
       have r2:=H3.out.rk.c2
       have HSUB:=show Hid (Sub m.val[x] m.val[v] ↔ Sub (vl m x) (vl m v)) from by
        have e1:vl m x=m.val[x]:=by unfold vl;rw [List.getD_eq_getElem?_getD,List.getElem?_eq_getElem (by omega)];rfl
        have e2:vl m v=m.val[v]:=by unfold vl;rw [List.getD_eq_getElem?_getD,List.getElem?_eq_getElem (by omega)];rfl
        show Sub m.val[x] m.val[v] ↔ Sub (vl m x) (vl m v)
        rw [e1,e2]
       have hxv:(x:Int)<(m.val.length:Int):=by omega
       have hvv:(v:Int)<(m.val.length:Int):=by omega
       have hvn2:(v:Int)<(m.up.length:Int):=by omega
       clear hvr hix hiv
       generalize m.val[x]=lx at *
       generalize m.val[v]=lv at *
       go_wp2_with fail
       refine wp_region_one (by kernel_rfl) 16 [some 66,some 67,some 68,some 69,some 70,some 71,some 72,some 73,some 74,some 75,some 76,some 77,some 78,some 79,some 80,some 81,some 82,some 83] [[],[0],[1],[2],[3],[],[4,5],[6],[],[8],[9],[10],[11],[],[12,13],[14],[7,15],[16]] [[],[0],[1,0],[2,1,0],[3,2,1,0],[],[4,3,2,1,0,5],[6,4,3,2,1,0,5],[],[8],[9,8],[10,9,8],[11,10,9,8],[],[12,11,10,9,8,13],[14,12,11,10,9,8,13],[7,6,4,3,2,1,0,5,15,14,12,11,10,9,8,13],[16,7,6,4,3,2,1,0,5,15,14,12,11,10,9,8,13]] (by kernel_rfl) (by decide) (fun ii vv w1=>match ii with | 0=>vv=.pointer (some ⟨R,0,none⟩) | 1=>vv=.pointer (some ⟨R,0,none⟩) | 2=>vv=.pointer (some ⟨R,0,none⟩) | 3=>vv=.pointer (some ⟨R,1,none⟩) | 4=>vv=.slice (some ⟨bv,ov,none⟩) m.val.length cv | 5=>vv=.int .i64 (x:Int) | 6=>vv=.pointer (some ⟨bv,ov+x,none⟩) | 7=>vv=.slice qx lx.length nx | 8=>vv=.pointer (some ⟨R,0,none⟩) | 9=>vv=.pointer (some ⟨R,0,none⟩) | 10=>vv=.pointer (some ⟨R,0,none⟩) | 11=>vv=.pointer (some ⟨R,1,none⟩) | 12=>vv=.slice (some ⟨bv,ov,none⟩) m.val.length cv | 13=>vv=.int .i64 (v:Int) | 14=>vv=.pointer (some ⟨bv,ov+v,none⟩) | 15=>vv=.slice qv lv.length nv | 16=>∃ r:Bool,vv=.bool r∧(r=true ↔ Sub lx lv)∧w1=w4.drew | 17=>∃ r:Bool,vv=.bool (!r)∧(r=true ↔ Sub lx lv)∧w1=w4.drew | _=>True) ?hfree (allLt 18 ?steps) ?fin
       case hfree =>
        intro j v w1 w2 hj hn h
        match j,h,hj,hn with
        | 0,h,_,_=>exact h
        | 1,h,_,_=>exact h
        | 2,h,_,_=>exact h
        | 3,h,_,_=>exact h
        | 4,h,_,_=>exact h
        | 5,h,_,_=>exact h
        | 6,h,_,_=>exact h
        | 7,h,_,_=>exact h
        | 8,h,_,_=>exact h
        | 9,h,_,_=>exact h
        | 10,h,_,_=>exact h
        | 11,h,_,_=>exact h
        | 12,h,_,_=>exact h
        | 13,h,_,_=>exact h
        | 14,h,_,_=>exact h
        | 15,h,_,_=>exact h
        | 16,_,hj,_=>exact absurd rfl hj
        | 17,_,_,hn=>exact absurd (by decide) hn
        | _+18,_,_,_=>trivial
       case steps =>
        refine ⟨⟨⟨⟨⟨⟨⟨⟨⟨⟨⟨⟨⟨⟨⟨⟨⟨⟨trivial,?s0⟩,?s1⟩,?s2⟩,?s3⟩,?s4⟩,?s5⟩,?s6⟩,?s7⟩,?s8⟩,?s9⟩,?s10⟩,?s11⟩,?s12⟩,?s13⟩,?s14⟩,?s15⟩,?s16⟩,?s17⟩
        case s0 =>
         intro a w1 hw hO hN
         obtain rfl:w1=w4.drew:=hw (by decide)
         have o0:a.tmps[0]?=some (.pointer (some ⟨R,0,none⟩)):=(hO.out 0 (by decide)).trans rfl
         exact relVal rfl (.pointer (some ⟨R,0,none⟩)) _ rfl (by go_simp) ⟨_,rfl,rfl,fun _=>rfl⟩
        case s1 =>
         intro a w1 hw hO hN
         obtain rfl:w1=w4.drew:=hw (by decide)
         obtain ⟨v0,g0,r0⟩:=hN 0 (by decide)
         have g0:a.tmps[66]?=some v0:=g0
         have e0:v0=.pointer (some ⟨R,0,none⟩):=r0
         rw [e0] at g0
         exact relVal rfl (.pointer (some ⟨R,0,none⟩)) _ rfl (by go_simp) ⟨_,rfl,rfl,fun _=>rfl⟩
        case s2 =>
         intro a w1 hw hO hN
         obtain rfl:w1=w4.drew:=hw (by decide)
         obtain ⟨v1,g1,r1⟩:=hN 1 (by decide)
         have g1:a.tmps[67]?=some v1:=g1
         have e1:v1=.pointer (some ⟨R,0,none⟩):=r1
         rw [e1] at g1
         exact relVal rfl (.pointer (some ⟨R,0,none⟩)) _ rfl (by go_simp) ⟨_,rfl,rfl,fun _=>rfl⟩
        case s3 =>
         intro a w1 hw hO hN
         obtain rfl:w1=w4.drew:=hw (by decide)
         obtain ⟨v2,g2,r2⟩:=hN 2 (by decide)
         have g2:a.tmps[68]?=some v2:=g2
         have e2:v2=.pointer (some ⟨R,0,none⟩):=r2
         rw [e2] at g2
         exact relVal rfl (.pointer (some ⟨R,1,none⟩)) _ rfl (by go_simp) ⟨_,rfl,rfl,fun _=>rfl⟩
        case s4 =>
         intro a w1 hw hO hN
         obtain rfl:w1=w4.drew:=hw (by decide)
         obtain ⟨v3,g3,r3⟩:=hN 3 (by decide)
         have g3:a.tmps[69]?=some v3:=g3
         have e3:v3=.pointer (some ⟨R,1,none⟩):=r3
         rw [e3] at g3
         exact relVal rfl (.slice (some ⟨bv,ov,none⟩) m.val.length cv) _ rfl (by go_simp) ⟨_,rfl,rfl,fun _=>rfl⟩
        case s5 =>
         intro a w1 hw hO hN
         obtain rfl:w1=w4.drew:=hw (by decide)
         have o1:a.tmps[1]?=some (.int .i64 (x:Int)):=(hO.out 1 (by decide)).trans rfl
         exact relVal rfl (.int .i64 (x:Int)) _ rfl (by go_simp) ⟨_,rfl,rfl,fun _=>rfl⟩
        case s6 =>
         intro a w1 hw hO hN
         obtain rfl:w1=w4.drew:=hw (by decide)
         obtain ⟨v4,g4,r4⟩:=hN 4 (by decide)
         have g4:a.tmps[70]?=some v4:=g4
         have e4:v4=.slice (some ⟨bv,ov,none⟩) m.val.length cv:=r4
         rw [e4] at g4
         obtain ⟨v5,g5,r5⟩:=hN 5 (by decide)
         have g5:a.tmps[71]?=some v5:=g5
         have e5:v5=.int .i64 (x:Int):=r5
         rw [e5] at g5
         exact relVal rfl (.pointer (some ⟨bv,ov+x,none⟩)) _ rfl (by go_simp) ⟨_,rfl,rfl,fun _=>rfl⟩
        case s7 =>
         intro a w1 hw hO hN
         obtain rfl:w1=w4.drew:=hw (by decide)
         obtain ⟨v6,g6,r6⟩:=hN 6 (by decide)
         have g6:a.tmps[72]?=some v6:=g6
         have e6:v6=.pointer (some ⟨bv,ov+x,none⟩):=r6
         rw [e6] at g6
         exact relVal rfl (.slice qx lx.length nx) _ rfl (by go_simp) ⟨_,rfl,rfl,fun _=>rfl⟩
        case s8 =>
         intro a w1 hw hO hN
         obtain rfl:w1=w4.drew:=hw (by decide)
         have o0:a.tmps[0]?=some (.pointer (some ⟨R,0,none⟩)):=(hO.out 0 (by decide)).trans rfl
         exact relVal rfl (.pointer (some ⟨R,0,none⟩)) _ rfl (by go_simp) ⟨_,rfl,rfl,fun _=>rfl⟩
        case s9 =>
         intro a w1 hw hO hN
         obtain rfl:w1=w4.drew:=hw (by decide)
         obtain ⟨v8,g8,r8⟩:=hN 8 (by decide)
         have g8:a.tmps[74]?=some v8:=g8
         have e8:v8=.pointer (some ⟨R,0,none⟩):=r8
         rw [e8] at g8
         exact relVal rfl (.pointer (some ⟨R,0,none⟩)) _ rfl (by go_simp) ⟨_,rfl,rfl,fun _=>rfl⟩
        case s10 =>
         intro a w1 hw hO hN
         obtain rfl:w1=w4.drew:=hw (by decide)
         obtain ⟨v9,g9,r9⟩:=hN 9 (by decide)
         have g9:a.tmps[75]?=some v9:=g9
         have e9:v9=.pointer (some ⟨R,0,none⟩):=r9
         rw [e9] at g9
         exact relVal rfl (.pointer (some ⟨R,0,none⟩)) _ rfl (by go_simp) ⟨_,rfl,rfl,fun _=>rfl⟩
        case s11 =>
         intro a w1 hw hO hN
         obtain rfl:w1=w4.drew:=hw (by decide)
         obtain ⟨v10,g10,r10⟩:=hN 10 (by decide)
         have g10:a.tmps[76]?=some v10:=g10
         have e10:v10=.pointer (some ⟨R,0,none⟩):=r10
         rw [e10] at g10
         exact relVal rfl (.pointer (some ⟨R,1,none⟩)) _ rfl (by go_simp) ⟨_,rfl,rfl,fun _=>rfl⟩
        case s12 =>
         intro a w1 hw hO hN
         obtain rfl:w1=w4.drew:=hw (by decide)
         obtain ⟨v11,g11,r11⟩:=hN 11 (by decide)
         have g11:a.tmps[77]?=some v11:=g11
         have e11:v11=.pointer (some ⟨R,1,none⟩):=r11
         rw [e11] at g11
         exact relVal rfl (.slice (some ⟨bv,ov,none⟩) m.val.length cv) _ rfl (by go_simp) ⟨_,rfl,rfl,fun _=>rfl⟩
        case s13 =>
         intro a w1 hw hO hN
         obtain rfl:w1=w4.drew:=hw (by decide)
         have o6:a.tmps[6]?=some (.int .i64 (v:Int)):=(hO.out 6 (by decide)).trans rfl
         exact relVal rfl (.int .i64 (v:Int)) _ rfl (by go_simp) ⟨_,rfl,rfl,fun _=>rfl⟩
        case s14 =>
         intro a w1 hw hO hN
         obtain rfl:w1=w4.drew:=hw (by decide)
         obtain ⟨v12,g12,r12⟩:=hN 12 (by decide)
         have g12:a.tmps[78]?=some v12:=g12
         have e12:v12=.slice (some ⟨bv,ov,none⟩) m.val.length cv:=r12
         rw [e12] at g12
         obtain ⟨v13,g13,r13⟩:=hN 13 (by decide)
         have g13:a.tmps[79]?=some v13:=g13
         have e13:v13=.int .i64 (v:Int):=r13
         rw [e13] at g13
         exact relVal rfl (.pointer (some ⟨bv,ov+v,none⟩)) _ rfl (by go_simp) ⟨_,rfl,rfl,fun _=>rfl⟩
        case s15 =>
         intro a w1 hw hO hN
         obtain rfl:w1=w4.drew:=hw (by decide)
         obtain ⟨v14,g14,r14⟩:=hN 14 (by decide)
         have g14:a.tmps[80]?=some v14:=g14
         have e14:v14=.pointer (some ⟨bv,ov+v,none⟩):=r14
         rw [e14] at g14
         exact relVal rfl (.slice qv lv.length nv) _ rfl (by go_simp) ⟨_,rfl,rfl,fun _=>rfl⟩
        case s16 =>
         intro a w1 hw hO hN
         obtain rfl:w1=w4.drew:=hw (by decide)
         obtain ⟨v7,g7,r7⟩:=hN 7 (by decide)
         have g7:a.tmps[73]?=some v7:=g7
         have e7:v7=.slice qx lx.length nx:=r7
         rw [e7] at g7
         obtain ⟨v15,g15,r15⟩:=hN 15 (by decide)
         have g15:a.tmps[81]?=some v15:=g15
         have e15:v15=.slice qv lv.length nv:=r15
         rw [e15] at g15
         refine relCallF rfl rfl 99 [.tmp 73,.tmp 81] #[34,34] rfl [.slice qx lx.length nx,.slice qv lv.length nv] (by simp [Act.eval,g7,g15]) (fun _ _=>by kernel_rfl) (Calls.mono (KW.out _ rfl) ?_)
         rintro e w5 ⟨r,rfl,hr,rfl⟩
         exact ⟨_,rfl,_,rfl,⟨r,rfl,hr,rfl⟩,fun h=>absurd rfl h⟩
        case s17 =>
         intro a w1 hw hO hN
         obtain ⟨v16,g16,r16⟩:=hN 16 (by decide)
         have g16:a.tmps[82]?=some v16:=g16
         obtain ⟨r,e16,hr,rfl⟩:=r16
         rw [e16] at g16
         exact relVal rfl (.bool (!r)) _ rfl (by go_simp) ⟨_,rfl,⟨r,rfl,hr,rfl⟩,fun _=>rfl⟩
       case fin =>
        intro vs w1 hV
        obtain ⟨r,e17,hr,rfl⟩:∃ r:Bool,vs 17=.bool (!r)∧(r=true ↔ Sub lx lv)∧w1=w4.drew:=hV 17 (by decide)
        have H4:=show Hid _ from H3.out.drew
        have q2:=H4.out.rk.c2
        clear H3 hV r1 r2 KW hcx hcv
        simp only [putAll,Act.put,List.setIfInBounds_toArray,List.set_cons_zero,List.set_cons_succ,e17]
        clear e17
        generalize w4.drew=w5 at *
        cases r
        ·have HBAD:=show Hid (¬ Wd.Good m) from Wd.bad_sub (H4.out.mid.edge HRJ.out) (fun h=>by have:=hr.2 (HSUB.out.2 h);cases this)
         clear hr
         go_wp2_with fail
         go_ret
         exact ⟨false,rfl,H4.out.kp,fun _=>HBAD.out,fun h=>(by cases h)⟩
        ·have HS:=show Hid (Sub (vl m x) (vl m v)) from HSUB.out.1 (hr.1 rfl)
         have hne:x≠v:=fun e=>by have h9:=H4.out.mid.way;rw [e,HV2.out] at h9;cases h9
         have KJ:=show Hid _ from join_any w5.drew (H4.out.drew.rk.abv) (x * 8) (v * 8) (by omega) (by omega) (by omega)
         clear hr hne HSUB
         go_wp2_with fail
         refine wp_region_one (by kernel_rfl) 12 [some 84,some 85,some 86,some 87,some 88,some 89,some 90,some 91,some 92,some 93,some 94,some 95,some 96] [[],[0],[1],[2],[],[3,4],[],[6],[7],[8],[],[9,10],[5,11]] [[],[0],[1,0],[2,1,0],[],[3,2,1,0,4],[],[6],[7,6],[8,7,6],[],[9,8,7,6,10],[5,3,2,1,0,4,11,9,8,7,6,10]] (by kernel_rfl) (by decide) (fun ii vv w1=>match ii with | 0=>vv=.pointer (some ⟨R,0,none⟩) | 1=>vv=.pointer (some ⟨R,0,none⟩) | 2=>vv=.pointer (some ⟨R,2,none⟩) | 3=>vv=.slice (some ⟨A,0,none⟩) m.up.length m.up.length | 4=>vv=.int .i64 (x:Int) | 5=>vv=.pointer (some ⟨A,x * 8,none⟩) | 6=>vv=.pointer (some ⟨R,0,none⟩) | 7=>vv=.pointer (some ⟨R,0,none⟩) | 8=>vv=.pointer (some ⟨R,2,none⟩) | 9=>vv=.slice (some ⟨A,0,none⟩) m.up.length m.up.length | 10=>vv=.int .i64 (v:Int) | 11=>vv=.pointer (some ⟨A,v * 8,none⟩) | 12=>Ws w1 A (m.up.length * 8) 129 (joinW ws4 (x * 8) (v * 8) 8)∧Kp (fun k=>k=A) w5.drew w1 | _=>True) ?hfree (allLt 13 ?steps) ?fin
         case hfree =>
          intro j v w1 w2 hj hn h
          match j,h,hj,hn with
          | 0,h,_,_=>exact h
          | 1,h,_,_=>exact h
          | 2,h,_,_=>exact h
          | 3,h,_,_=>exact h
          | 4,h,_,_=>exact h
          | 5,h,_,_=>exact h
          | 6,h,_,_=>exact h
          | 7,h,_,_=>exact h
          | 8,h,_,_=>exact h
          | 9,h,_,_=>exact h
          | 10,h,_,_=>exact h
          | 11,h,_,_=>exact h
          | 12,_,hj,_=>exact absurd rfl hj
          | _+13,_,_,_=>trivial
         case steps =>
          refine ⟨⟨⟨⟨⟨⟨⟨⟨⟨⟨⟨⟨⟨trivial,?s0⟩,?s1⟩,?s2⟩,?s3⟩,?s4⟩,?s5⟩,?s6⟩,?s7⟩,?s8⟩,?s9⟩,?s10⟩,?s11⟩,?s12⟩
          case s0 =>
           intro a w1 hw hO hN
           obtain rfl:w1=w5.drew:=hw (by decide)
           have o0:a.tmps[0]?=some (.pointer (some ⟨R,0,none⟩)):=(hO.out 0 (by decide)).trans rfl
           exact relVal rfl (.pointer (some ⟨R,0,none⟩)) _ rfl (by go_simp) ⟨_,rfl,rfl,fun _=>rfl⟩
          case s1 =>
           intro a w1 hw hO hN
           obtain rfl:w1=w5.drew:=hw (by decide)
           obtain ⟨v0,g0,r0⟩:=hN 0 (by decide)
           have g0:a.tmps[84]?=some v0:=g0
           have e0:v0=.pointer (some ⟨R,0,none⟩):=r0
           rw [e0] at g0
           exact relVal rfl (.pointer (some ⟨R,0,none⟩)) _ rfl (by go_simp) ⟨_,rfl,rfl,fun _=>rfl⟩
          case s2 =>
           intro a w1 hw hO hN
           obtain rfl:w1=w5.drew:=hw (by decide)
           obtain ⟨v1,g1,r1⟩:=hN 1 (by decide)
           have g1:a.tmps[85]?=some v1:=g1
           have e1:v1=.pointer (some ⟨R,0,none⟩):=r1
           rw [e1] at g1
           exact relVal rfl (.pointer (some ⟨R,2,none⟩)) _ rfl (by go_simp) ⟨_,rfl,rfl,fun _=>rfl⟩
          case s3 =>
           intro a w1 hw hO hN
           obtain rfl:w1=w5.drew:=hw (by decide)
           obtain ⟨v2,g2,r2⟩:=hN 2 (by decide)
           have g2:a.tmps[86]?=some v2:=g2
           have e2:v2=.pointer (some ⟨R,2,none⟩):=r2
           rw [e2] at g2
           exact relVal rfl (.slice (some ⟨A,0,none⟩) m.up.length m.up.length) _ rfl (by go_simp) ⟨_,rfl,rfl,fun _=>rfl⟩
          case s4 =>
           intro a w1 hw hO hN
           obtain rfl:w1=w5.drew:=hw (by decide)
           have o1:a.tmps[1]?=some (.int .i64 (x:Int)):=(hO.out 1 (by decide)).trans rfl
           exact relVal rfl (.int .i64 (x:Int)) _ rfl (by go_simp) ⟨_,rfl,rfl,fun _=>rfl⟩
          case s5 =>
           intro a w1 hw hO hN
           obtain rfl:w1=w5.drew:=hw (by decide)
           obtain ⟨v3,g3,r3⟩:=hN 3 (by decide)
           have g3:a.tmps[87]?=some v3:=g3
           have e3:v3=.slice (some ⟨A,0,none⟩) m.up.length m.up.length:=r3
           rw [e3] at g3
           obtain ⟨v4,g4,r4⟩:=hN 4 (by decide)
           have g4:a.tmps[88]?=some v4:=g4
           have e4:v4=.int .i64 (x:Int):=r4
           rw [e4] at g4
           exact relVal rfl (.pointer (some ⟨A,x * 8,none⟩)) _ rfl (by go_simp) ⟨_,rfl,rfl,fun _=>rfl⟩
          case s6 =>
           intro a w1 hw hO hN
           obtain rfl:w1=w5.drew:=hw (by decide)
           have o0:a.tmps[0]?=some (.pointer (some ⟨R,0,none⟩)):=(hO.out 0 (by decide)).trans rfl
           exact relVal rfl (.pointer (some ⟨R,0,none⟩)) _ rfl (by go_simp) ⟨_,rfl,rfl,fun _=>rfl⟩
          case s7 =>
           intro a w1 hw hO hN
           obtain rfl:w1=w5.drew:=hw (by decide)
           obtain ⟨v6,g6,r6⟩:=hN 6 (by decide)
           have g6:a.tmps[90]?=some v6:=g6
           have e6:v6=.pointer (some ⟨R,0,none⟩):=r6
           rw [e6] at g6
           exact relVal rfl (.pointer (some ⟨R,0,none⟩)) _ rfl (by go_simp) ⟨_,rfl,rfl,fun _=>rfl⟩
          case s8 =>
           intro a w1 hw hO hN
           obtain rfl:w1=w5.drew:=hw (by decide)
           obtain ⟨v7,g7,r7⟩:=hN 7 (by decide)
           have g7:a.tmps[91]?=some v7:=g7
           have e7:v7=.pointer (some ⟨R,0,none⟩):=r7
           rw [e7] at g7
           exact relVal rfl (.pointer (some ⟨R,2,none⟩)) _ rfl (by go_simp) ⟨_,rfl,rfl,fun _=>rfl⟩
          case s9 =>
           intro a w1 hw hO hN
           obtain rfl:w1=w5.drew:=hw (by decide)
           obtain ⟨v8,g8,r8⟩:=hN 8 (by decide)
           have g8:a.tmps[92]?=some v8:=g8
           have e8:v8=.pointer (some ⟨R,2,none⟩):=r8
           rw [e8] at g8
           exact relVal rfl (.slice (some ⟨A,0,none⟩) m.up.length m.up.length) _ rfl (by go_simp) ⟨_,rfl,rfl,fun _=>rfl⟩
          case s10 =>
           intro a w1 hw hO hN
           obtain rfl:w1=w5.drew:=hw (by decide)
           have o6:a.tmps[6]?=some (.int .i64 (v:Int)):=(hO.out 6 (by decide)).trans rfl
           exact relVal rfl (.int .i64 (v:Int)) _ rfl (by go_simp) ⟨_,rfl,rfl,fun _=>rfl⟩
          case s11 =>
           intro a w1 hw hO hN
           obtain rfl:w1=w5.drew:=hw (by decide)
           obtain ⟨v9,g9,r9⟩:=hN 9 (by decide)
           have g9:a.tmps[93]?=some v9:=g9
           have e9:v9=.slice (some ⟨A,0,none⟩) m.up.length m.up.length:=r9
           rw [e9] at g9
           obtain ⟨v10,g10,r10⟩:=hN 10 (by decide)
           have g10:a.tmps[94]?=some v10:=g10
           have e10:v10=.int .i64 (v:Int):=r10
           rw [e10] at g10
           exact relVal rfl (.pointer (some ⟨A,v * 8,none⟩)) _ rfl (by go_simp) ⟨_,rfl,rfl,fun _=>rfl⟩
          case s12 =>
           intro a w1 hw hO hN
           obtain rfl:w1=w5.drew:=hw (by decide)
           obtain ⟨v5,g5,r5⟩:=hN 5 (by decide)
           have g5:a.tmps[89]?=some v5:=g5
           have e5:v5=.pointer (some ⟨A,x * 8,none⟩):=r5
           rw [e5] at g5
           obtain ⟨v11,g11,r11⟩:=hN 11 (by decide)
           have g11:a.tmps[95]?=some v11:=g11
           have e11:v11=.pointer (some ⟨A,v * 8,none⟩):=r11
           rw [e11] at g11
           refine relCallF rfl rfl 100 [.tmp 89,.tmp 95] #[129,132] rfl [.pointer (some ⟨A,x * 8,none⟩),.pointer (some ⟨A,v * 8,none⟩)] (by simp [Act.eval,g5,g11]) (fun _ _=>by kernel_rfl) (Calls.mono (KJ.out) ?_)
           rintro e w6 ⟨rfl,h1,h2⟩
           exact ⟨_,rfl,_,rfl,⟨h1,h2⟩,fun h=>absurd rfl h⟩
         case fin =>
          intro vs w1 hV
          obtain ⟨hW6,hK6⟩:Ws w1 A (m.up.length * 8) 129 (joinW ws4 (x * 8) (v * 8) 8)∧Kp (fun k=>k=A) w5.drew w1:=hV 12 (by decide)
          have H6:=show Hid (UL w w1 L R A S (.slice (some ⟨bu,ou,none⟩) m.up.length cu) _ m st ws N x row (j+1) st4 (joinW ws4 (x * 8) (v * 8) 8)) from ⟨H4.out.drew.rk.setA hW6 hK6,by rw [abW_join];exact H4.out.mid.join HRJ.out HV2.out HS.out,by rw [abW_join];exact H4.out.aft.join H00.out _,H4.out.kp.drew.trans (hK6.wide (S':=fun k=>k=A∨k=S) fun _ h=>Or.inl h) fun _ h=>Or.inl h,H4.out.zer⟩
          clear H4 hV hW6 hK6 KJ q2
          simp only [putAll,Act.put,List.setIfInBounds_toArray,List.set_cons_zero,List.set_cons_succ]
          go_wp2_with fail
          go_roundw
          case rel=>exact ⟨j+1,st4,_,by omega,val_int (by omega),H6⟩
          case measure=>(simp only [intOf];omega)
     ·have e2:((st1 v:Int) == 0)=false:=by simp;omega
      have HV2:=show Hid (st1 v=2) from by show st1 v=2;omega
      have H3:=show Hid (UL w wr.drew L R A S (.slice (some ⟨bu,ou,none⟩) m.up.length cu) vv m st ws N x row j st1 ws1) from H1.out.drew
      clear h1 h2
      go_wp2_with fail
      clear H1 r2 r3 rv hc
      generalize wr.drew=w4 at *
      obtain ⟨pv,cv,rfl,hvr⟩:=H3.out.rk.mod.val.row
      obtain ⟨bv,ov,qx,nx,rfl,hbv,hcx,hix⟩:=hvr x (by omega)
      obtain ⟨bv',ov',qv,nv,e9,hbv',hcv,hiv⟩:=hvr v (by omega)
      obtain ⟨rfl,rfl⟩:bv=bv'∧ov=ov':=by cases e9;exact ⟨rfl,rfl⟩
      clear e9
      have KW:=show Hid (∀ W:World,W.heap=w4.heap→Calls Try.prog 99 #[.slice qx m.val[x].length nx,.slice qv m.val[v].length nv] W fun e w'=>∃ r:Bool,e=.returned (.bool r)∧(r=true ↔ Sub m.val[x] m.val[v])∧w'=W) from fun W hW=>within_any W (IsN.keep hix fun k _=>by rw [hW]) (IsN.keep hiv fun k _=>by rw [hW]) (HFV.out x (by omega)) (HFV.out v (by omega)) (HNM.out x (by omega)) (HNM.out v (by omega))
      have r1:=H3.out.rk.c1
      have r2:=H3.out.rk.c2
      have HSUB:=show Hid (Sub m.val[x] m.val[v] ↔ Sub (vl m x) (vl m v)) from by
       have e1:vl m x=m.val[x]:=by unfold vl;rw [List.getD_eq_getElem?_getD,List.getElem?_eq_getElem (by omega)];rfl
       have e2:vl m v=m.val[v]:=by unfold vl;rw [List.getD_eq_getElem?_getD,List.getElem?_eq_getElem (by omega)];rfl
       show Sub m.val[x] m.val[v] ↔ Sub (vl m x) (vl m v)
       rw [e1,e2]
      have hxv:(x:Int)<(m.val.length:Int):=by omega
      have hvv:(v:Int)<(m.val.length:Int):=by omega
      have hvn2:(v:Int)<(m.up.length:Int):=by omega
      clear hvr hix hiv
      generalize m.val[x]=lx at *
      generalize m.val[v]=lv at *
      refine wp_region_one (by kernel_rfl) 16 [some 66,some 67,some 68,some 69,some 70,some 71,some 72,some 73,some 74,some 75,some 76,some 77,some 78,some 79,some 80,some 81,some 82,some 83] [[],[0],[1],[2],[3],[],[4,5],[6],[],[8],[9],[10],[11],[],[12,13],[14],[7,15],[16]] [[],[0],[1,0],[2,1,0],[3,2,1,0],[],[4,3,2,1,0,5],[6,4,3,2,1,0,5],[],[8],[9,8],[10,9,8],[11,10,9,8],[],[12,11,10,9,8,13],[14,12,11,10,9,8,13],[7,6,4,3,2,1,0,5,15,14,12,11,10,9,8,13],[16,7,6,4,3,2,1,0,5,15,14,12,11,10,9,8,13]] (by kernel_rfl) (by decide) (fun ii vv w1=>match ii with | 0=>vv=.pointer (some ⟨R,0,none⟩) | 1=>vv=.pointer (some ⟨R,0,none⟩) | 2=>vv=.pointer (some ⟨R,0,none⟩) | 3=>vv=.pointer (some ⟨R,1,none⟩) | 4=>vv=.slice (some ⟨bv,ov,none⟩) m.val.length cv | 5=>vv=.int .i64 (x:Int) | 6=>vv=.pointer (some ⟨bv,ov+x,none⟩) | 7=>vv=.slice qx lx.length nx | 8=>vv=.pointer (some ⟨R,0,none⟩) | 9=>vv=.pointer (some ⟨R,0,none⟩) | 10=>vv=.pointer (some ⟨R,0,none⟩) | 11=>vv=.pointer (some ⟨R,1,none⟩) | 12=>vv=.slice (some ⟨bv,ov,none⟩) m.val.length cv | 13=>vv=.int .i64 (v:Int) | 14=>vv=.pointer (some ⟨bv,ov+v,none⟩) | 15=>vv=.slice qv lv.length nv | 16=>∃ r:Bool,vv=.bool r∧(r=true ↔ Sub lx lv)∧w1=w4.drew | 17=>∃ r:Bool,vv=.bool (!r)∧(r=true ↔ Sub lx lv)∧w1=w4.drew | _=>True) ?hfree (allLt 18 ?steps) ?fin
      case hfree =>
       intro j v w1 w2 hj hn h
       match j,h,hj,hn with
       | 0,h,_,_=>exact h
       | 1,h,_,_=>exact h
       | 2,h,_,_=>exact h
       | 3,h,_,_=>exact h
       | 4,h,_,_=>exact h
       | 5,h,_,_=>exact h
       | 6,h,_,_=>exact h
       | 7,h,_,_=>exact h
       | 8,h,_,_=>exact h
       | 9,h,_,_=>exact h
       | 10,h,_,_=>exact h
       | 11,h,_,_=>exact h
       | 12,h,_,_=>exact h
       | 13,h,_,_=>exact h
       | 14,h,_,_=>exact h
       | 15,h,_,_=>exact h
       | 16,_,hj,_=>exact absurd rfl hj
       | 17,_,_,hn=>exact absurd (by decide) hn
       | _+18,_,_,_=>trivial
      case steps =>
       refine ⟨⟨⟨⟨⟨⟨⟨⟨⟨⟨⟨⟨⟨⟨⟨⟨⟨⟨trivial,?s0⟩,?s1⟩,?s2⟩,?s3⟩,?s4⟩,?s5⟩,?s6⟩,?s7⟩,?s8⟩,?s9⟩,?s10⟩,?s11⟩,?s12⟩,?s13⟩,?s14⟩,?s15⟩,?s16⟩,?s17⟩
       case s0 =>
        intro a w1 hw hO hN
        obtain rfl:w1=w4.drew:=hw (by decide)
        have o0:a.tmps[0]?=some (.pointer (some ⟨R,0,none⟩)):=(hO.out 0 (by decide)).trans rfl
        exact relVal rfl (.pointer (some ⟨R,0,none⟩)) _ rfl (by go_simp) ⟨_,rfl,rfl,fun _=>rfl⟩
       case s1 =>
        intro a w1 hw hO hN
        obtain rfl:w1=w4.drew:=hw (by decide)
        obtain ⟨v0,g0,r0⟩:=hN 0 (by decide)
        have g0:a.tmps[66]?=some v0:=g0
        have e0:v0=.pointer (some ⟨R,0,none⟩):=r0
        rw [e0] at g0
        exact relVal rfl (.pointer (some ⟨R,0,none⟩)) _ rfl (by go_simp) ⟨_,rfl,rfl,fun _=>rfl⟩
       case s2 =>
        intro a w1 hw hO hN
        obtain rfl:w1=w4.drew:=hw (by decide)
        obtain ⟨v1,g1,r1⟩:=hN 1 (by decide)
        have g1:a.tmps[67]?=some v1:=g1
        have e1:v1=.pointer (some ⟨R,0,none⟩):=r1
        rw [e1] at g1
        exact relVal rfl (.pointer (some ⟨R,0,none⟩)) _ rfl (by go_simp) ⟨_,rfl,rfl,fun _=>rfl⟩
       case s3 =>
        intro a w1 hw hO hN
        obtain rfl:w1=w4.drew:=hw (by decide)
        obtain ⟨v2,g2,r2⟩:=hN 2 (by decide)
        have g2:a.tmps[68]?=some v2:=g2
        have e2:v2=.pointer (some ⟨R,0,none⟩):=r2
        rw [e2] at g2
        exact relVal rfl (.pointer (some ⟨R,1,none⟩)) _ rfl (by go_simp) ⟨_,rfl,rfl,fun _=>rfl⟩
       case s4 =>
        intro a w1 hw hO hN
        obtain rfl:w1=w4.drew:=hw (by decide)
        obtain ⟨v3,g3,r3⟩:=hN 3 (by decide)
        have g3:a.tmps[69]?=some v3:=g3
        have e3:v3=.pointer (some ⟨R,1,none⟩):=r3
        rw [e3] at g3
        exact relVal rfl (.slice (some ⟨bv,ov,none⟩) m.val.length cv) _ rfl (by go_simp) ⟨_,rfl,rfl,fun _=>rfl⟩
       case s5 =>
        intro a w1 hw hO hN
        obtain rfl:w1=w4.drew:=hw (by decide)
        have o1:a.tmps[1]?=some (.int .i64 (x:Int)):=(hO.out 1 (by decide)).trans rfl
        exact relVal rfl (.int .i64 (x:Int)) _ rfl (by go_simp) ⟨_,rfl,rfl,fun _=>rfl⟩
       case s6 =>
        intro a w1 hw hO hN
        obtain rfl:w1=w4.drew:=hw (by decide)
        obtain ⟨v4,g4,r4⟩:=hN 4 (by decide)
        have g4:a.tmps[70]?=some v4:=g4
        have e4:v4=.slice (some ⟨bv,ov,none⟩) m.val.length cv:=r4
        rw [e4] at g4
        obtain ⟨v5,g5,r5⟩:=hN 5 (by decide)
        have g5:a.tmps[71]?=some v5:=g5
        have e5:v5=.int .i64 (x:Int):=r5
        rw [e5] at g5
        exact relVal rfl (.pointer (some ⟨bv,ov+x,none⟩)) _ rfl (by go_simp) ⟨_,rfl,rfl,fun _=>rfl⟩
       case s7 =>
        intro a w1 hw hO hN
        obtain rfl:w1=w4.drew:=hw (by decide)
        obtain ⟨v6,g6,r6⟩:=hN 6 (by decide)
        have g6:a.tmps[72]?=some v6:=g6
        have e6:v6=.pointer (some ⟨bv,ov+x,none⟩):=r6
        rw [e6] at g6
        exact relVal rfl (.slice qx lx.length nx) _ rfl (by go_simp) ⟨_,rfl,rfl,fun _=>rfl⟩
       case s8 =>
        intro a w1 hw hO hN
        obtain rfl:w1=w4.drew:=hw (by decide)
        have o0:a.tmps[0]?=some (.pointer (some ⟨R,0,none⟩)):=(hO.out 0 (by decide)).trans rfl
        exact relVal rfl (.pointer (some ⟨R,0,none⟩)) _ rfl (by go_simp) ⟨_,rfl,rfl,fun _=>rfl⟩
       case s9 =>
        intro a w1 hw hO hN
        obtain rfl:w1=w4.drew:=hw (by decide)
        obtain ⟨v8,g8,r8⟩:=hN 8 (by decide)
        have g8:a.tmps[74]?=some v8:=g8
        have e8:v8=.pointer (some ⟨R,0,none⟩):=r8
        rw [e8] at g8
        exact relVal rfl (.pointer (some ⟨R,0,none⟩)) _ rfl (by go_simp) ⟨_,rfl,rfl,fun _=>rfl⟩
       case s10 =>
        intro a w1 hw hO hN
        obtain rfl:w1=w4.drew:=hw (by decide)
        obtain ⟨v9,g9,r9⟩:=hN 9 (by decide)
        have g9:a.tmps[75]?=some v9:=g9
        have e9:v9=.pointer (some ⟨R,0,none⟩):=r9
        rw [e9] at g9
        exact relVal rfl (.pointer (some ⟨R,0,none⟩)) _ rfl (by go_simp) ⟨_,rfl,rfl,fun _=>rfl⟩
       case s11 =>
        intro a w1 hw hO hN
        obtain rfl:w1=w4.drew:=hw (by decide)
        obtain ⟨v10,g10,r10⟩:=hN 10 (by decide)
        have g10:a.tmps[76]?=some v10:=g10
        have e10:v10=.pointer (some ⟨R,0,none⟩):=r10
        rw [e10] at g10
        exact relVal rfl (.pointer (some ⟨R,1,none⟩)) _ rfl (by go_simp) ⟨_,rfl,rfl,fun _=>rfl⟩
       case s12 =>
        intro a w1 hw hO hN
        obtain rfl:w1=w4.drew:=hw (by decide)
        obtain ⟨v11,g11,r11⟩:=hN 11 (by decide)
        have g11:a.tmps[77]?=some v11:=g11
        have e11:v11=.pointer (some ⟨R,1,none⟩):=r11
        rw [e11] at g11
        exact relVal rfl (.slice (some ⟨bv,ov,none⟩) m.val.length cv) _ rfl (by go_simp) ⟨_,rfl,rfl,fun _=>rfl⟩
       case s13 =>
        intro a w1 hw hO hN
        obtain rfl:w1=w4.drew:=hw (by decide)
        have o6:a.tmps[6]?=some (.int .i64 (v:Int)):=(hO.out 6 (by decide)).trans rfl
        exact relVal rfl (.int .i64 (v:Int)) _ rfl (by go_simp) ⟨_,rfl,rfl,fun _=>rfl⟩
       case s14 =>
        intro a w1 hw hO hN
        obtain rfl:w1=w4.drew:=hw (by decide)
        obtain ⟨v12,g12,r12⟩:=hN 12 (by decide)
        have g12:a.tmps[78]?=some v12:=g12
        have e12:v12=.slice (some ⟨bv,ov,none⟩) m.val.length cv:=r12
        rw [e12] at g12
        obtain ⟨v13,g13,r13⟩:=hN 13 (by decide)
        have g13:a.tmps[79]?=some v13:=g13
        have e13:v13=.int .i64 (v:Int):=r13
        rw [e13] at g13
        exact relVal rfl (.pointer (some ⟨bv,ov+v,none⟩)) _ rfl (by go_simp) ⟨_,rfl,rfl,fun _=>rfl⟩
       case s15 =>
        intro a w1 hw hO hN
        obtain rfl:w1=w4.drew:=hw (by decide)
        obtain ⟨v14,g14,r14⟩:=hN 14 (by decide)
        have g14:a.tmps[80]?=some v14:=g14
        have e14:v14=.pointer (some ⟨bv,ov+v,none⟩):=r14
        rw [e14] at g14
        exact relVal rfl (.slice qv lv.length nv) _ rfl (by go_simp) ⟨_,rfl,rfl,fun _=>rfl⟩
       case s16 =>
        intro a w1 hw hO hN
        obtain rfl:w1=w4.drew:=hw (by decide)
        obtain ⟨v7,g7,r7⟩:=hN 7 (by decide)
        have g7:a.tmps[73]?=some v7:=g7
        have e7:v7=.slice qx lx.length nx:=r7
        rw [e7] at g7
        obtain ⟨v15,g15,r15⟩:=hN 15 (by decide)
        have g15:a.tmps[81]?=some v15:=g15
        have e15:v15=.slice qv lv.length nv:=r15
        rw [e15] at g15
        refine relCallF rfl rfl 99 [.tmp 73,.tmp 81] #[34,34] rfl [.slice qx lx.length nx,.slice qv lv.length nv] (by simp [Act.eval,g7,g15]) (fun _ _=>by kernel_rfl) (Calls.mono (KW.out _ rfl) ?_)
        rintro e w5 ⟨r,rfl,hr,rfl⟩
        exact ⟨_,rfl,_,rfl,⟨r,rfl,hr,rfl⟩,fun h=>absurd rfl h⟩
       case s17 =>
        intro a w1 hw hO hN
        obtain ⟨v16,g16,r16⟩:=hN 16 (by decide)
        have g16:a.tmps[82]?=some v16:=g16
        obtain ⟨r,e16,hr,rfl⟩:=r16
        rw [e16] at g16
        exact relVal rfl (.bool (!r)) _ rfl (by go_simp) ⟨_,rfl,⟨r,rfl,hr,rfl⟩,fun _=>rfl⟩
      case fin =>
       intro vs w1 hV
       obtain ⟨r,e17,hr,rfl⟩:∃ r:Bool,vs 17=.bool (!r)∧(r=true ↔ Sub lx lv)∧w1=w4.drew:=hV 17 (by decide)
       have H4:=show Hid _ from H3.out.drew
       have q2:=H4.out.rk.c2
       clear H3 hV r1 r2 KW hcx hcv
       simp only [putAll,Act.put,List.setIfInBounds_toArray,List.set_cons_zero,List.set_cons_succ,e17]
       clear e17
       generalize w4.drew=w5 at *
       cases r
       ·have HBAD:=show Hid (¬ Wd.Good m) from Wd.bad_sub (H4.out.mid.edge HRJ.out) (fun h=>by have:=hr.2 (HSUB.out.2 h);cases this)
        clear hr
        go_wp2_with fail
        go_ret
        exact ⟨false,rfl,H4.out.kp,fun _=>HBAD.out,fun h=>(by cases h)⟩
       ·have HS:=show Hid (Sub (vl m x) (vl m v)) from HSUB.out.1 (hr.1 rfl)
        have hne:x≠v:=fun e=>by have h9:=H4.out.mid.way;rw [e,HV2.out] at h9;cases h9
        have KJ:=show Hid _ from join_any w5.drew (H4.out.drew.rk.abv) (x * 8) (v * 8) (by omega) (by omega) (by omega)
        clear hr hne HSUB
        go_wp2_with fail
        refine wp_region_one (by kernel_rfl) 12 [some 84,some 85,some 86,some 87,some 88,some 89,some 90,some 91,some 92,some 93,some 94,some 95,some 96] [[],[0],[1],[2],[],[3,4],[],[6],[7],[8],[],[9,10],[5,11]] [[],[0],[1,0],[2,1,0],[],[3,2,1,0,4],[],[6],[7,6],[8,7,6],[],[9,8,7,6,10],[5,3,2,1,0,4,11,9,8,7,6,10]] (by kernel_rfl) (by decide) (fun ii vv w1=>match ii with | 0=>vv=.pointer (some ⟨R,0,none⟩) | 1=>vv=.pointer (some ⟨R,0,none⟩) | 2=>vv=.pointer (some ⟨R,2,none⟩) | 3=>vv=.slice (some ⟨A,0,none⟩) m.up.length m.up.length | 4=>vv=.int .i64 (x:Int) | 5=>vv=.pointer (some ⟨A,x * 8,none⟩) | 6=>vv=.pointer (some ⟨R,0,none⟩) | 7=>vv=.pointer (some ⟨R,0,none⟩) | 8=>vv=.pointer (some ⟨R,2,none⟩) | 9=>vv=.slice (some ⟨A,0,none⟩) m.up.length m.up.length | 10=>vv=.int .i64 (v:Int) | 11=>vv=.pointer (some ⟨A,v * 8,none⟩) | 12=>Ws w1 A (m.up.length * 8) 129 (joinW ws1 (x * 8) (v * 8) 8)∧Kp (fun k=>k=A) w5.drew w1 | _=>True) ?hfree (allLt 13 ?steps) ?fin
        case hfree =>
         intro j v w1 w2 hj hn h
         match j,h,hj,hn with
         | 0,h,_,_=>exact h
         | 1,h,_,_=>exact h
         | 2,h,_,_=>exact h
         | 3,h,_,_=>exact h
         | 4,h,_,_=>exact h
         | 5,h,_,_=>exact h
         | 6,h,_,_=>exact h
         | 7,h,_,_=>exact h
         | 8,h,_,_=>exact h
         | 9,h,_,_=>exact h
         | 10,h,_,_=>exact h
         | 11,h,_,_=>exact h
         | 12,_,hj,_=>exact absurd rfl hj
         | _+13,_,_,_=>trivial
        case steps =>
         refine ⟨⟨⟨⟨⟨⟨⟨⟨⟨⟨⟨⟨⟨trivial,?s0⟩,?s1⟩,?s2⟩,?s3⟩,?s4⟩,?s5⟩,?s6⟩,?s7⟩,?s8⟩,?s9⟩,?s10⟩,?s11⟩,?s12⟩
         case s0 =>
          intro a w1 hw hO hN
          obtain rfl:w1=w5.drew:=hw (by decide)
          have o0:a.tmps[0]?=some (.pointer (some ⟨R,0,none⟩)):=(hO.out 0 (by decide)).trans rfl
          exact relVal rfl (.pointer (some ⟨R,0,none⟩)) _ rfl (by go_simp) ⟨_,rfl,rfl,fun _=>rfl⟩
         case s1 =>
          intro a w1 hw hO hN
          obtain rfl:w1=w5.drew:=hw (by decide)
          obtain ⟨v0,g0,r0⟩:=hN 0 (by decide)
          have g0:a.tmps[84]?=some v0:=g0
          have e0:v0=.pointer (some ⟨R,0,none⟩):=r0
          rw [e0] at g0
          exact relVal rfl (.pointer (some ⟨R,0,none⟩)) _ rfl (by go_simp) ⟨_,rfl,rfl,fun _=>rfl⟩
         case s2 =>
          intro a w1 hw hO hN
          obtain rfl:w1=w5.drew:=hw (by decide)
          obtain ⟨v1,g1,r1⟩:=hN 1 (by decide)
          have g1:a.tmps[85]?=some v1:=g1
          have e1:v1=.pointer (some ⟨R,0,none⟩):=r1
          rw [e1] at g1
          exact relVal rfl (.pointer (some ⟨R,2,none⟩)) _ rfl (by go_simp) ⟨_,rfl,rfl,fun _=>rfl⟩
         case s3 =>
          intro a w1 hw hO hN
          obtain rfl:w1=w5.drew:=hw (by decide)
          obtain ⟨v2,g2,r2⟩:=hN 2 (by decide)
          have g2:a.tmps[86]?=some v2:=g2
          have e2:v2=.pointer (some ⟨R,2,none⟩):=r2
          rw [e2] at g2
          exact relVal rfl (.slice (some ⟨A,0,none⟩) m.up.length m.up.length) _ rfl (by go_simp) ⟨_,rfl,rfl,fun _=>rfl⟩
         case s4 =>
          intro a w1 hw hO hN
          obtain rfl:w1=w5.drew:=hw (by decide)
          have o1:a.tmps[1]?=some (.int .i64 (x:Int)):=(hO.out 1 (by decide)).trans rfl
          exact relVal rfl (.int .i64 (x:Int)) _ rfl (by go_simp) ⟨_,rfl,rfl,fun _=>rfl⟩
         case s5 =>
          intro a w1 hw hO hN
          obtain rfl:w1=w5.drew:=hw (by decide)
          obtain ⟨v3,g3,r3⟩:=hN 3 (by decide)
          have g3:a.tmps[87]?=some v3:=g3
          have e3:v3=.slice (some ⟨A,0,none⟩) m.up.length m.up.length:=r3
          rw [e3] at g3
          obtain ⟨v4,g4,r4⟩:=hN 4 (by decide)
          have g4:a.tmps[88]?=some v4:=g4
          have e4:v4=.int .i64 (x:Int):=r4
          rw [e4] at g4
          exact relVal rfl (.pointer (some ⟨A,x * 8,none⟩)) _ rfl (by go_simp) ⟨_,rfl,rfl,fun _=>rfl⟩
         case s6 =>
          intro a w1 hw hO hN
          obtain rfl:w1=w5.drew:=hw (by decide)
          have o0:a.tmps[0]?=some (.pointer (some ⟨R,0,none⟩)):=(hO.out 0 (by decide)).trans rfl
          exact relVal rfl (.pointer (some ⟨R,0,none⟩)) _ rfl (by go_simp) ⟨_,rfl,rfl,fun _=>rfl⟩
         case s7 =>
          intro a w1 hw hO hN
          obtain rfl:w1=w5.drew:=hw (by decide)
          obtain ⟨v6,g6,r6⟩:=hN 6 (by decide)
          have g6:a.tmps[90]?=some v6:=g6
          have e6:v6=.pointer (some ⟨R,0,none⟩):=r6
          rw [e6] at g6
          exact relVal rfl (.pointer (some ⟨R,0,none⟩)) _ rfl (by go_simp) ⟨_,rfl,rfl,fun _=>rfl⟩
         case s8 =>
          intro a w1 hw hO hN
          obtain rfl:w1=w5.drew:=hw (by decide)
          obtain ⟨v7,g7,r7⟩:=hN 7 (by decide)
          have g7:a.tmps[91]?=some v7:=g7
          have e7:v7=.pointer (some ⟨R,0,none⟩):=r7
          rw [e7] at g7
          exact relVal rfl (.pointer (some ⟨R,2,none⟩)) _ rfl (by go_simp) ⟨_,rfl,rfl,fun _=>rfl⟩
         case s9 =>
          intro a w1 hw hO hN
          obtain rfl:w1=w5.drew:=hw (by decide)
          obtain ⟨v8,g8,r8⟩:=hN 8 (by decide)
          have g8:a.tmps[92]?=some v8:=g8
          have e8:v8=.pointer (some ⟨R,2,none⟩):=r8
          rw [e8] at g8
          exact relVal rfl (.slice (some ⟨A,0,none⟩) m.up.length m.up.length) _ rfl (by go_simp) ⟨_,rfl,rfl,fun _=>rfl⟩
         case s10 =>
          intro a w1 hw hO hN
          obtain rfl:w1=w5.drew:=hw (by decide)
          have o6:a.tmps[6]?=some (.int .i64 (v:Int)):=(hO.out 6 (by decide)).trans rfl
          exact relVal rfl (.int .i64 (v:Int)) _ rfl (by go_simp) ⟨_,rfl,rfl,fun _=>rfl⟩
         case s11 =>
          intro a w1 hw hO hN
          obtain rfl:w1=w5.drew:=hw (by decide)
          obtain ⟨v9,g9,r9⟩:=hN 9 (by decide)
          have g9:a.tmps[93]?=some v9:=g9
          have e9:v9=.slice (some ⟨A,0,none⟩) m.up.length m.up.length:=r9
          rw [e9] at g9
          obtain ⟨v10,g10,r10⟩:=hN 10 (by decide)
          have g10:a.tmps[94]?=some v10:=g10
          have e10:v10=.int .i64 (v:Int):=r10
          rw [e10] at g10
          exact relVal rfl (.pointer (some ⟨A,v * 8,none⟩)) _ rfl (by go_simp) ⟨_,rfl,rfl,fun _=>rfl⟩
         case s12 =>
          intro a w1 hw hO hN
          obtain rfl:w1=w5.drew:=hw (by decide)
          obtain ⟨v5,g5,r5⟩:=hN 5 (by decide)
          have g5:a.tmps[89]?=some v5:=g5
          have e5:v5=.pointer (some ⟨A,x * 8,none⟩):=r5
          rw [e5] at g5
          obtain ⟨v11,g11,r11⟩:=hN 11 (by decide)
          have g11:a.tmps[95]?=some v11:=g11
          have e11:v11=.pointer (some ⟨A,v * 8,none⟩):=r11
          rw [e11] at g11
          refine relCallF rfl rfl 100 [.tmp 89,.tmp 95] #[129,132] rfl [.pointer (some ⟨A,x * 8,none⟩),.pointer (some ⟨A,v * 8,none⟩)] (by simp [Act.eval,g5,g11]) (fun _ _=>by kernel_rfl) (Calls.mono (KJ.out) ?_)
          rintro e w6 ⟨rfl,h1,h2⟩
          exact ⟨_,rfl,_,rfl,⟨h1,h2⟩,fun h=>absurd rfl h⟩
        case fin =>
         intro vs w1 hV
         obtain ⟨hW6,hK6⟩:Ws w1 A (m.up.length * 8) 129 (joinW ws1 (x * 8) (v * 8) 8)∧Kp (fun k=>k=A) w5.drew w1:=hV 12 (by decide)
         have H6:=show Hid (UL w w1 L R A S (.slice (some ⟨bu,ou,none⟩) m.up.length cu) _ m st ws N x row (j+1) st1 (joinW ws1 (x * 8) (v * 8) 8)) from ⟨H4.out.drew.rk.setA hW6 hK6,by rw [abW_join];exact H4.out.mid.join HRJ.out HV2.out HS.out,by rw [abW_join];exact H4.out.aft.join H00.out _,H4.out.kp.drew.trans (hK6.wide (S':=fun k=>k=A∨k=S) fun _ h=>Or.inl h) fun _ h=>Or.inl h,H4.out.zer⟩
         clear H4 hV hW6 hK6 KJ q2
         simp only [putAll,Act.put,List.setIfInBounds_toArray,List.set_cons_zero,List.set_cons_succ]
         go_wp2_with fail
         go_roundw
         case rel=>exact ⟨j+1,st1,_,by omega,val_int (by omega),H6⟩
         case measure=>(simp only [intOf];omega)
   ·have HB:=show Hid (abW ws1 x v=true) from HAB.out.trans hbt
    clear hbt HAB
    go_wp2_with fail
    go_roundw
    case rel=>exact ⟨j+1,st1,ws1,by omega,val_int (by omega),⟨H1.out.drew.rk,H1.out.mid.skip HRJ.out HB.out,H1.out.aft,H1.out.kp.drew,H1.out.zer⟩⟩
    case measure=>(simp only [intOf];omega)
  ·obtain rfl:j=row.length:=by omega
   have hRR:=H1.out.rk.setS x 2 (by decide)
   have HFIN:=show Hid (Upd w (wr.setCell ⟨S,x,none⟩ (.int .i64 2)) L R A S (.slice (some ⟨bu,ou,none⟩) m.up.length cu) vv m st ws x true) from ⟨H1.out.kp.set (p:=S) (Or.inr rfl) _ _,fun h=>(by cases h),fun _=>⟨_,_,hRR,H1.out.mid.finish,Wd.upd_same _ _ _,H1.out.aft.finish H00.out⟩⟩
   have r3:=H1.out.rk.c3
   have rs:=H1.out.rk.cs hx
   have fs:wr.frozen? ⟨S,x,none⟩=false:=H1.out.rk.stg.fr x
   clear hRR H1
   go_wp2_with fail
   go_ret
   exact ⟨true,rfl,HFIN.out⟩
theorem up_all {L R A S:Nat} {uv vv:Value} {m:Md} (hs:Wd.shaped m=true) (hf:Fit m):∀ N,UpC N L R A S uv vv m
 | 0=>fun _ st _ x _ _ hx h0 _ hz=>by have:=zeros_way st hx h0;omega
 | N+1=>up_step hs hf (up_all hs hf N)
end Go.Proofs.Ytoedidbbjnnpnaa.Wm
