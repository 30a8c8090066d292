import Derived.Test.YtkpbpecikibohaaGreatDoorZFind
import Derived.Test.YtkpbpecikibohaaGreatDoorFG3
set_option linter.unusedSimpArgs false
set_option maxRecDepth 100000
set_option maxHeartbeats 4000000
namespace Go.Proofs.YtkpbpecikibohaaGreatDoor
open Go.RowKit Go.Shelf Go.Maps
open Fm (Nd)
open Bt.Bs (Ok wd)
def aF (w W:World):Prop:=w.heap.size<=W.heap.size/\∀ (k:Nat) (cs:Array Value) (T:TypeId) (fr:Nat × Nat),w.heap[k]?=some (.cells cs T fr)->(T≠131/\T≠67/\T≠174)->W.heap[k]?=w.heap[k]?
theorem aF.of_below {w W:World} (h:Below w.heap.size w W):aF w W:=⟨h.size,fun k _ _ _ hk _=>h.block k (lt_of_block hk)⟩
theorem aF.refl (w:World):aF w w:=⟨Nat.le_refl _,fun _ _ _ _ _ _=>rfl⟩
theorem aF.trans {a b c:World} (h:aF a b) (k:aF b c):aF a c:=⟨Nat.le_trans h.1 k.1,fun i cs T fr hi h1=>by
 have e:=h.2 i cs T fr hi h1
 exact(k.2 i cs T fr (e.trans hi) h1).trans e⟩
theorem Cl.dM {w W:World} {b:Nat} {cs:Array Value} {T:TypeId} (h:Cl w b cs T) (h1:T≠131/\T≠67/\T≠174) (hs:aF w W):Cl W b cs T:=(hs.2 b cs T (0,0) h h1).trans h
structure PS (w1 W:World) (b m:Nat) (v:Value) (k wb b2:Nat) (r:List Nat) (g:Int) (tv:Value) (mm:Sh) (t:List Nd) (fl:Bool):Prop where
 tb:∃ v',Tb W b m v' t/\dh w1.heap.size v v'
 wk:Wk W k b r g tv fl
 kp:Kp (fun i=>Ft b m v i\/i=k) w1 W
 gU:Cl W wb #[.pointer (some ⟨k,0,none⟩)] 136
 bO:Cl W b2 (bB mm) 182
section
variable {w1 W W':World} {b m k wb b2:Nat} {v tv:Value} {r:List Nat} {g:Int} {mm:Sh} {t:List Nd} {fl:Bool}
theorem PS.later (h:PS w1 W b m v k wb b2 r g tv mm t fl) (hb:Below W.heap.size W W'):PS w1 W' b m v k wb b2 r g tv mm t fl:=by
 obtain⟨v',h1,h2⟩:=h.tb
 exact⟨⟨v',h1.later hb,h2⟩,h.wk.later hb,h.kp.trans (Kp.of_below (S:=fun _=>False) hb) (fun _ hf=>hf.elim),h.gU.later hb,h.bO.later hb⟩
theorem PS.drew (h:PS w1 W b m v k wb b2 r g tv mm t fl):PS w1 W.drew b m v k wb b2 r g tv mm t fl:=h.later ((Below.refl _ _).drew)
theorem Mv {v':Value} (h:Wk W k b r g tv fl) (hT:Tb W b m v' t):¬ Ft b m v' k:=jm h (by decide) (by decide) hT
end
theorem wu {b:Bool} {p:Prop} (h:some undef=some (Value.bool b)):p:=by cases h
theorem Kp.mono' {S S':Nat->Prop} {w w':World} (h:Kp S w w') (hs:∀ i,S i->S' i):Kp S' w w':=⟨h.os,h.tape,h.output,h.size,fun k hk hn=>h.block k hk (fun e=>hn (hs k e))⟩
structure PI (W W':World) (b m:Nat) (v':Value) (k:Nat) (r:List Nat) (g:Int) (tv:Value) (t':List Nd) (lD:Bool):Prop where
 tb:∃ v2,Tb W' b m v2 t'/\dh W.heap.size v' v2
 wk:Wk W' k b r g tv lD
 kp:Kp (fun i=>Ft b m v' i\/i=k) W W'
theorem PI.dM {W W':World} {b m k:Nat} {v' tv:Value} {r:List Nat} {g:Int} {t t':List Nd} {fl lD:Bool} (h:PI W W' b m v' k r g tv t' lD) (hT:Tb W b m v' t) (hW:Wk W k b r g tv fl):aF W W':=by
 refine⟨h.kp.size,fun i cs T fr hi hn=>h.kp.block i (lt_of_block hi) ?_⟩
 rintro(hf | rfl)
 ·exact jm hi hn.1 hn.2.1 hT hf
 ·have e:=hi.symm.trans hW
  injection e with e
  injection e with _ e _
  exact hn.2.2 e
theorem PS.imp {w1 W W':World} {b m k wb b2:Nat} {v tv v':Value} {r:List Nat} {g:Int} {mm:Sh} {t t':List Nd} {fl lD:Bool} (h:PS w1 W b m v k wb b2 r g tv mm t fl) (hT:Tb W b m v' t) (hl:dh w1.heap.size v v') (hi:PI W W' b m v' k r g tv t' lD):PS w1 W' b m v k wb b2 r g tv mm t' lD:=by
 have hs:=hi.dM hT h.wk
 obtain⟨v2,h1,h2⟩:=hi.tb
 refine⟨⟨v2,h1,hl.trans h2 h.kp.size⟩,hi.wk,h.kp.trans hi.kp ?_,h.gU.dM (by decide) hs,h.bO.dM (by decide) hs⟩
 rintro i ((e | e | e) | e)
 ·exact Or.inl (Or.inl (Or.inl e))
 ·exact Or.inl (Or.inl (Or.inr (Or.inl e)))
 ·rcases hl i e with h3 | h3
  ·exact Or.inl (Or.inl (Or.inr (Or.inr h3)))
  ·exact Or.inr h3
 ·exact Or.inl (Or.inr e)
theorem rJ (w:World) {b m:Nat} {v:Value} {t:List Nd} (hT:Tb w b m v t) {k:Nat} {r:List Nat} {g:Int} {tv:Value} {fl:Bool} (hW:Wk w k b r g tv fl) (hr:Ok r) (x y:Int) (hx:Fm.i64 x) (hy:Fm.i64 y) :
 Calls Tryz.prog 129 #[.pointer (some ⟨k,0,none⟩),.int .i64 x,.int .i64 y] w fun e w'=>e=.returned (.int .i64 (Fm.put t (aH 5 x y)).1)/\PI w w' b m v k r g tv (Fm.put t (aH 5 x y)).2.2 (fl || ((Fm.put t (aH 5 x y)).2.1 != 0)):=by
 have hl:=hr.1
 have KI:=show Hid _ from QY w hT x y hx hy
 have c0:=hW.tab
 have YE:=show Hid (¬ Ft b m v k) from Mv hW hT
 have HW:=show Hid _ from hW
 clear hT hW
 generalize Fm.put t (aH 5 x y)=p at *
 go_enter Tryz.func129,Tryz.ntmps129
 go_wp2_with fail
 refine Calls.mono KI.out ?_
 rintro e w1 ⟨rfl,v',hT1,hl1,hk1⟩
 have hW1:Wk w1 k b r g tv fl:=(hk1.block k (Cl.lt HW.out) YE.out).trans HW.out
 have c19:=hW1.U3 hl
 have f19:=Cl.fr hW1 19
 have H1:=show Hid (Tb w1 b m v' p.2.2/\dh w.heap.size v v'/\Kp (Ft b m v) w w1/\Wk w1 k b r g tv fl) from⟨hT1,hl1,hk1,hW1⟩
 have HF:=show Hid (∀ lD:Bool,PI w (w1.setCell ⟨k,19,none⟩ (.bool lD)) b m v k r g tv p.2.2 lD) from fun lD=>by
  have hk2:dn k w1 (w1.setCell ⟨k,19,none⟩ (.bool lD)):=dn.set (Kp.refl _ w1) 19 _
  have hn1:=Mv H1.out.2.2.2 H1.out.1
  refine⟨⟨v',H1.out.1.keep (fun i hi=>hk2.block i (H1.out.1.foot i hi) (fun e=>hn1 (e ▸ hi))),H1.out.2.1⟩,H1.out.2.2.2.ZE hl lD,(Kp.mono' H1.out.2.2.1 (fun i hi=>Or.inl hi)).trans hk2 (fun i e=>Or.inl (Or.inr e))⟩
 clear hT1 hl1 hk1 hW1 KI HW YE c0
 cases fl
 ·cases he:(p.2.1 != 0)
  ·go_wp2_with fail
   all_goals (first|exact wu (by assumption) | skip)
   go_ret
   exact⟨rfl,by rw[he];exact HF.out false⟩
  ·go_wp2_with fail
   all_goals (first|exact wu (by assumption) | skip)
   go_ret
   exact⟨rfl,by rw[he];exact HF.out true⟩
 ·go_wp2_with fail
  all_goals (first|exact wu (by assumption) | skip)
  all_goals go_ret
  all_goals exact⟨rfl,HF.out true⟩
abbrev SQ:=List Nat × Int
def bN (l:List SQ):Array Value:=(l.flatMap fun s=>(au s.1 s.2).toList).toArray
def dV (v:Value) (l:List SQ) (w:World):Prop:=∃ q,v=.slice (some ⟨q,0,none⟩) l.length l.length/\Cl w q (bN l) 53
theorem dV.dM {v:Value} {l:List SQ} {w w':World} (h:dV v l w) (hs:aF w w'):dV v l w':=by
 obtain⟨q,hv,hc⟩:=h
 exact⟨q,hv,hc.dM (by decide) hs⟩
def kU (v:Value) (xs:List Int) (w:World):Prop:=∃ q,v=.slice (some ⟨q,0,none⟩) xs.length xs.length/\Cl w q (xs.map fun x=>Value.int .i64 x).toArray 3/\xs.length<=1000
theorem kU.dM {v:Value} {l:List Int} {w w':World} (h:kU v l w) (hs:aF w w'):kU v l w':=by
 obtain⟨q,hv,hc,hl⟩:=h
 exact⟨q,hv,hc.dM (by decide) hs,hl⟩
theorem kU.gP {v:Value} {xs:List Int} {w:World} (h:kU v xs w):Bt.nY w v xs:=by
 obtain⟨q,rfl,hc,hl⟩:=h
 refine⟨_,_,rfl,by omega,fun k hk=>⟨q,0,rfl,?_⟩⟩
 rw[Nat.zero_add,hc.cell k]
 simp[hk]
theorem nA (w:World) (x:Int):kU (.slice (some ⟨w.heap.size,0,none⟩) 1 1) [x] (w.alloc (.cells #[.int .i64 x] 3)):=⟨_,rfl,(bE w _ _).blk,by simp⟩
theorem D6 (w:World) (x y:Int):kU (.slice (some ⟨w.heap.size,0,none⟩) 2 2) [x,y] (w.alloc (.cells #[.int .i64 x,.int .i64 y] 3)):=⟨_,rfl,(bE w _ _).blk,by simp⟩
theorem Vs (w:World) (r0 r1 r2 r3 r4 r5 r6 r7 r8 r9 bS bW dB dD dF dP:Nat) (g:Int):(Instr.buildSlice 187 1 #[(0,.agg (au [r0,r1,r2,r3,r4,r5,r6,r7,r8,r9,bS,bW,dB,dD,dF,dP] g))]).run Tryz.prog w=.ok (.slice (some ⟨w.heap.size,0,none⟩) 1 1) (w.alloc (.cells (bN [([r0,r1,r2,r3,r4,r5,r6,r7,r8,r9,bS,bW,dB,dD,dF,dP],g)]) 53)):=by kernel_rfl
theorem Vt (w:World) (r0 r1 r2 r3 r4 r5 r6 r7 r8 r9 bS bW dB dD dF dP s0 s1 s2 s3 s4 s5 s6 s7 s8 s9 s10 s11 s12 s13 kg s15:Nat) (g h:Int):(Instr.buildSlice 187 2 #[(0,.agg (au [r0,r1,r2,r3,r4,r5,r6,r7,r8,r9,bS,bW,dB,dD,dF,dP] g)),(1,.agg (au [s0,s1,s2,s3,s4,s5,s6,s7,s8,s9,s10,s11,s12,s13,kg,s15] h))]).run Tryz.prog w=.ok (.slice (some ⟨w.heap.size,0,none⟩) 2 2) (w.alloc (.cells (bN [([r0,r1,r2,r3,r4,r5,r6,r7,r8,r9,bS,bW,dB,dD,dF,dP],g),([s0,s1,s2,s3,s4,s5,s6,s7,s8,s9,s10,s11,s12,s13,kg,s15],h)]) 53)):=by kernel_rfl
theorem Br (w:World) {r:List Nat} (hr:r.length=16) (g:Int):(Instr.buildSlice 187 1 #[(0,.agg (au r g))]).run Tryz.prog w=.ok (.slice (some ⟨w.heap.size,0,none⟩) 1 1) (w.alloc (.cells (bN [(r,g)]) 53)):=by
 match r,hr with
 | [r0,r1,r2,r3,r4,r5,r6,r7,r8,r9,bS,bW,dB,dD,dF,dP],_=>exact Vs ..
theorem Vu (w:World) {r s:List Nat} (hr:r.length=16) (hs:s.length=16) (g h:Int):(Instr.buildSlice 187 2 #[(0,.agg (au r g)),(1,.agg (au s h))]).run Tryz.prog w=.ok (.slice (some ⟨w.heap.size,0,none⟩) 2 2) (w.alloc (.cells (bN [(r,g),(s,h)]) 53)):=by
 match r,hr with
 | [r0,r1,r2,r3,r4,r5,r6,r7,r8,r9,bS,bW,dB,dD,dF,dP],_=>
  match s,hs with
  | [s0,s1,s2,s3,s4,s5,s6,s7,s8,s9,s10,s11,s12,s13,kg,s15],_=>exact Vt ..
structure PE (w0 W:World) (b m:Nat) (v:Value) (k:Nat) (r:List Nat) (g:Int) (tv:Value) (t':List Nd) (lD:Bool):Prop where
 tb:∃ v',Tb W b m v' t'/\dh w0.heap.size v v'
 wk:Wk W k b r g tv lD
 kp:Kp (fun i=>Ft b m v i\/i=k) w0 W
theorem kY {w0 w1 W:World} {b m k wb b2:Nat} {v tv:Value} {r:List Nat} {g:Int} {mm:Sh} {t t':List Nd} {lD:Bool} (h1:Below w0.heap.size w0 w1/\Tb w0 b m v t) (h:PS w1 W b m v k wb b2 r g tv mm t' lD):PE w0 W b m v k r g tv t' lD:=by
 obtain⟨v',h2,h3⟩:=h.tb
 refine⟨⟨v',h2,fun i hi => ?_⟩,h.wk,(Kp.of_below (S:=fun i=>Ft b m v i\/i=k) h1.1).trans h.kp (fun i hi=>Or.inl hi)⟩
 rcases h3 i hi with e | e
 ·exact Or.inl e
 ·exact Or.inr (Nat.le_trans h1.1.size e)
theorem OY (w0:World) {b m:Nat} {v:Value} {t:List Nd} (hT:Tb w0 b m v t) {k wb:Nat} {r:List Nat} {g:Int} {tv:Value} (hW:Wk w0 k b r g tv false) (hr:Ok r) (hwb:Cl w0 wb #[.pointer (some ⟨k,0,none⟩)] 136) (mm:Sh) {aY:List Nat} (eO:aY=Bt.bT r mm.id) :
 Calls Tryz.prog 122 #[fB mm,.pointer (some ⟨wb,0,none⟩)] w0 fun e w'=>∃ sv,e=.returned sv/\dV sv [(aD (aY) [mm.a,mm.b],g)] w'/\PE w0 w' b m v k r g tv t false:=by
 have hrs:Ok aY:=by rw[eO];exact gu hr mm.id
 have hrest:∀ (W:World) {fl:Bool},Wk W k b r g tv fl->Calls Tryz.prog 124 #[.pointer (some ⟨k,0,none⟩),.agg (bB mm)] W fun e w'=>e=.returned (.agg (au aY g))/\Below W.heap.size W w':=fun W fl h=>by rw[eO];exact jB W h hr mm
 have HT:=show Hid (Tb w0 b m v t/\Wk w0 k b r g tv false/\Cl w0 wb #[.pointer (some ⟨k,0,none⟩)] 136) from⟨hT,hW,hwb⟩
 clear hT hW hwb eO
 unfold fB
 go_enter Tryz.func122,Tryz.ntmps122
 go_wp2_with (refine aC 182 _ rfl _ rfl rfl ?_)
 intro w1 b2 hn1
 have bU:=show Hid (Below w0.heap.size w0 w1/\Tb w0 b m v t) from⟨hn1.av,HT.out.1⟩
 have H1:=show Hid (PS w1 w1 b m v k wb b2 r g tv mm t false) from⟨⟨v,HT.out.1.later hn1.av,dh.refl _ _⟩,HT.out.2.1.later hn1.av,Kp.refl _ _,HT.out.2.2.later hn1.av,hn1.blk⟩
 clear hn1 HT
 go_wp2_with fail
 refine bK (by kernel_rfl) [some 4,some 5,some 6,some 7,some 8,some 9,some 10,some 11,some 12,some 13,some 3] [[],[],[0,1],[],[3],[],[5],[4,6],[2,7],[8],[9]] (by kernel_rfl) (fun i v w=>match i with | 0=>v=.pointer (some ⟨k,0,none⟩) | 1=>v=.agg (bB mm) | 2=>v=.agg (au aY g) | 3=>v=.pointer (some ⟨b2,2,none⟩) | 4=>v=.int .i64 mm.a | 5=>v=.pointer (some ⟨b2,3,none⟩) | 6=>v=.int .i64 mm.b | 7=>kU v [mm.a,mm.b] w | 8=>v=.agg (au (aD (aY) [mm.a,mm.b]) (g)) | 9=>dV v [(aD (aY) [mm.a,mm.b],g)] w | 10=>dV v [(aD (aY) [mm.a,mm.b],g)] w | _=>True) (fun done W=>PS w1 W b m v k wb b2 r g tv mm t false) (aF) ?hle (H1.out.drew) (dL 11 ?steps) ?fin
 case hle=>
  intro i v w w1 hl h
  match i,h with
  | 0,h=>exact h
  | 1,h=>exact h
  | 2,h=>exact h
  | 3,h=>exact h
  | 4,h=>exact h
  | 5,h=>exact h
  | 6,h=>exact h
  | 7,h=>exact kU.dM h hl
  | 8,h=>exact h
  | 9,h=>exact dV.dM h hl
  | 10,h=>exact dV.dM h hl
  | _+11,h=>trivial
 case steps=>
  refine⟨⟨⟨⟨⟨⟨⟨⟨⟨⟨⟨trivial,?s0⟩,?s1⟩,?s2⟩,?s3⟩,?s4⟩,?s5⟩,?s6⟩,?s7⟩,?s8⟩,?s9⟩,?s10⟩
  case s0=>
   intro done a w hS h0 hd hn hO hN
   have o1:a.tmps[1]?=some (.pointer (some ⟨wb,0,none⟩)):=outs hO 1 rfl
   have hc:w.cell? ⟨wb,0,none⟩=some (.pointer (some ⟨k,0,none⟩)):=hS.gU.cell 0
   refine ah rfl (.pointer (some ⟨k,0,none⟩)) w rfl (by go_simp) ⟨_,rfl,rfl,by simpa[h0] using hS,aF.refl _⟩
  case s1=>
   intro done a w hS h0 hd hn hO hN
   have o2:a.tmps[2]?=some (.pointer (some ⟨b2,0,none⟩)):=outs hO 2 rfl
   have hl:=vg hS.bO
   refine ah rfl (.agg (bB mm)) w rfl (by simp[execOp,Act.eval,o2,hl,Result.andThen]) ⟨_,rfl,rfl,by simpa[h0] using hS,aF.refl _⟩
  case s2=>
   intro done a w hS h0 hd hn hO hN
   obtain⟨v0,g0,r0⟩:=aj hN 0 4
   obtain rfl:v0=.pointer (some ⟨k,0,none⟩):=r0
   obtain⟨v1,g1,r1⟩:=aj hN 1 5
   obtain rfl:v1=.agg (bB mm):=r1
   refine aW rfl rfl 124 [.tmp 4,.tmp 5] #[136,182] rfl [.pointer (some ⟨k,0,none⟩),.agg (bB mm)] (by simp[Act.eval,g0,g1]) (enters_of Tryz.func124 (by kernel_rfl) rfl) (Calls.mono (hrest w hS.wk) ?_)
   rintro e w1 ⟨rfl,hb⟩
   refine⟨_,rfl,_,rfl,rfl,?_,aF.of_below hb⟩
   have h9:=hS.later hb
   simpa[h0] using h9
  case s3=>
   intro done a w hS h0 hd hn hO hN
   have o2:a.tmps[2]?=some (.pointer (some ⟨b2,0,none⟩)):=outs hO 2 rfl
   refine ah rfl (.pointer (some ⟨b2,2,none⟩)) w rfl (by go_simp) ⟨_,rfl,rfl,by simpa[h0] using hS,aF.refl _⟩
  case s4=>
   intro done a w hS h0 hd hn hO hN
   obtain⟨v3,g3,r3⟩:=aj hN 3 7
   obtain rfl:v3=.pointer (some ⟨b2,2,none⟩):=r3
   have hc:w.cell? ⟨b2,2,none⟩=some (.int .i64 mm.a):=hS.bO.cell 2
   refine ah rfl (.int .i64 mm.a) w rfl (by go_simp) ⟨_,rfl,rfl,by simpa[h0] using hS,aF.refl _⟩
  case s5=>
   intro done a w hS h0 hd hn hO hN
   have o2:a.tmps[2]?=some (.pointer (some ⟨b2,0,none⟩)):=outs hO 2 rfl
   refine ah rfl (.pointer (some ⟨b2,3,none⟩)) w rfl (by go_simp) ⟨_,rfl,rfl,by simpa[h0] using hS,aF.refl _⟩
  case s6=>
   intro done a w hS h0 hd hn hO hN
   obtain⟨v5,g5,r5⟩:=aj hN 5 9
   obtain rfl:v5=.pointer (some ⟨b2,3,none⟩):=r5
   have hc:w.cell? ⟨b2,3,none⟩=some (.int .i64 mm.b):=hS.bO.cell 3
   refine ah rfl (.int .i64 mm.b) w rfl (by go_simp) ⟨_,rfl,rfl,by simpa[h0] using hS,aF.refl _⟩
  case s7=>
   intro done a w hS h0 hd hn hO hN
   obtain⟨v4,g4,r4⟩:=aj hN 4 8
   obtain rfl:v4=.int .i64 mm.a:=r4
   obtain⟨v6,g6,r6⟩:=aj hN 6 10
   obtain rfl:v6=.int .i64 mm.b:=r6
   refine ah rfl (.slice (some ⟨w.heap.size,0,none⟩) 2 2) (w.alloc (.cells #[.int .i64 (mm.a),.int .i64 (mm.b)] 3)) rfl (by go_simp) ⟨_,rfl,D6 w (mm.a) (mm.b),?_,aF.of_below (ak w _)⟩
   have h9:=hS.later (ak w (.cells #[.int .i64 (mm.a),.int .i64 (mm.b)] 3))
   simpa[h0] using h9
  case s8=>
   intro done a w hS h0 hd hn hO hN
   obtain⟨v2,g2,r2⟩:=aj hN 2 6
   obtain rfl:v2=.agg (au aY g):=r2
   obtain⟨v7,g7,r7⟩:=aj hN 7 11
   refine aW rfl rfl 123 [.tmp 6,.tmp 11] #[53,37] rfl [.agg (au (aY) (g)),v7] (by simp[Act.eval,g2,g7]) (enters_of Tryz.func123 (by kernel_rfl) rfl) (Calls.mono (iR w hrs (g) v7 [mm.a,mm.b] r7.gP) ?_)
   rintro e w1 ⟨rfl,hb⟩
   refine⟨_,rfl,_,rfl,rfl,?_,aF.of_below hb⟩
   have h9:=hS.later hb
   simpa[h0] using h9
  case s9=>
   intro done a w hS h0 hd hn hO hN
   obtain⟨v8,g8,r8⟩:=aj hN 8 12
   obtain rfl:v8=.agg (au (aD (aY) [mm.a,mm.b]) (g)):=r8
   have hq:=Br w (gK [mm.a,mm.b] hrs).1 (g)
   refine ah rfl (.slice (some ⟨w.heap.size,0,none⟩) 1 1) (w.alloc (.cells (bN [(aD (aY) [mm.a,mm.b],g)]) 53)) rfl (by simp[execOp,Act.eval,g8,hq,Result.andThen]) ⟨_,rfl,⟨w.heap.size,rfl,(bE w _ _).blk⟩,?_,aF.of_below (ak w _)⟩
   have h9:=hS.later (ak w (.cells (bN [(aD (aY) [mm.a,mm.b],g)]) 53))
   simpa[h0] using h9
  case s10=>
   intro done a w hS h0 hd hn hO hN
   obtain⟨v9,g9,r9⟩:=aj hN 9 13
   obtain⟨qz,rfl,hc⟩:=r9
   refine ah rfl _ w rfl (by go_simp) ⟨_,rfl,⟨qz,rfl,hc⟩,by simpa[h0] using hS,aF.refl _⟩
 case fin=>
  intro vs done w hdone hS hR
  have hS2:=hS
  have ou:dV (vs 10) [(aD (aY) [mm.a,mm.b],g)] w:=hR 10 (by decide)
  obtain⟨qz,hv,hc⟩:=ou
  simp only[bn,Act.put,List.setIfInBounds_toArray,List.set_cons_zero,List.set_cons_succ]
  rw[hv]
  have HZ:=show Hid (PS w1 w b m v k wb b2 r g tv mm t false/\Cl w qz (bN [(aD (aY) [mm.a,mm.b],g)]) 53) from⟨hS2,hc⟩
  clear hS hR hdone hv hc hS2
  go_wp2_with fail
  go_ret
  exact⟨_,rfl,⟨qz,rfl,HZ.out.2⟩,kY bU.out HZ.out.1⟩
theorem OZ (w0:World) {b m:Nat} {v:Value} {t:List Nd} (hT:Tb w0 b m v t) {k wb:Nat} {r:List Nat} {g:Int} {tv:Value} (hW:Wk w0 k b r g tv false) (hr:Ok r) (hwb:Cl w0 wb #[.pointer (some ⟨k,0,none⟩)] 136) (mm:Sh) {aY:List Nat} (eO:aY=Bt.bT r mm.id) :
 Calls Tryz.prog 126 #[fB mm,.pointer (some ⟨wb,0,none⟩)] w0 fun e w'=>∃ sv,e=.returned sv/\dV sv [(aD (aY) [mm.b],g)] w'/\PE w0 w' b m v k r g tv t false:=by
 have hrs:Ok aY:=by rw[eO];exact gu hr mm.id
 have hrest:∀ (W:World) {fl:Bool},Wk W k b r g tv fl->Calls Tryz.prog 124 #[.pointer (some ⟨k,0,none⟩),.agg (bB mm)] W fun e w'=>e=.returned (.agg (au aY g))/\Below W.heap.size W w':=fun W fl h=>by rw[eO];exact jB W h hr mm
 have HT:=show Hid (Tb w0 b m v t/\Wk w0 k b r g tv false/\Cl w0 wb #[.pointer (some ⟨k,0,none⟩)] 136) from⟨hT,hW,hwb⟩
 clear hT hW hwb eO
 unfold fB
 go_enter Tryz.func126,Tryz.ntmps126
 go_wp2_with (refine aC 182 _ rfl _ rfl rfl ?_)
 intro w1 b2 hn1
 have bU:=show Hid (Below w0.heap.size w0 w1/\Tb w0 b m v t) from⟨hn1.av,HT.out.1⟩
 have H1:=show Hid (PS w1 w1 b m v k wb b2 r g tv mm t false) from⟨⟨v,HT.out.1.later hn1.av,dh.refl _ _⟩,HT.out.2.1.later hn1.av,Kp.refl _ _,HT.out.2.2.later hn1.av,hn1.blk⟩
 clear hn1 HT
 go_wp2_with fail
 refine bK (by kernel_rfl) [some 4,some 5,some 6,some 7,some 8,some 9,some 10,some 11,some 3] [[],[],[0,1],[],[3],[4],[2,5],[6],[7]] (by kernel_rfl) (fun i v w=>match i with | 0=>v=.pointer (some ⟨k,0,none⟩) | 1=>v=.agg (bB mm) | 2=>v=.agg (au aY g) | 3=>v=.pointer (some ⟨b2,3,none⟩) | 4=>v=.int .i64 mm.b | 5=>kU v [mm.b] w | 6=>v=.agg (au (aD (aY) [mm.b]) (g)) | 7=>dV v [(aD (aY) [mm.b],g)] w | 8=>dV v [(aD (aY) [mm.b],g)] w | _=>True) (fun done W=>PS w1 W b m v k wb b2 r g tv mm t false) (aF) ?hle (H1.out.drew) (dL 9 ?steps) ?fin
 case hle=>
  intro i v w w1 hl h
  match i,h with
  | 0,h=>exact h
  | 1,h=>exact h
  | 2,h=>exact h
  | 3,h=>exact h
  | 4,h=>exact h
  | 5,h=>exact kU.dM h hl
  | 6,h=>exact h
  | 7,h=>exact dV.dM h hl
  | 8,h=>exact dV.dM h hl
  | _+9,h=>trivial
 case steps=>
  refine⟨⟨⟨⟨⟨⟨⟨⟨⟨trivial,?s0⟩,?s1⟩,?s2⟩,?s3⟩,?s4⟩,?s5⟩,?s6⟩,?s7⟩,?s8⟩
  case s0=>
   intro done a w hS h0 hd hn hO hN
   have o1:a.tmps[1]?=some (.pointer (some ⟨wb,0,none⟩)):=outs hO 1 rfl
   have hc:w.cell? ⟨wb,0,none⟩=some (.pointer (some ⟨k,0,none⟩)):=hS.gU.cell 0
   refine ah rfl (.pointer (some ⟨k,0,none⟩)) w rfl (by go_simp) ⟨_,rfl,rfl,by simpa[h0] using hS,aF.refl _⟩
  case s1=>
   intro done a w hS h0 hd hn hO hN
   have o2:a.tmps[2]?=some (.pointer (some ⟨b2,0,none⟩)):=outs hO 2 rfl
   have hl:=vg hS.bO
   refine ah rfl (.agg (bB mm)) w rfl (by simp[execOp,Act.eval,o2,hl,Result.andThen]) ⟨_,rfl,rfl,by simpa[h0] using hS,aF.refl _⟩
  case s2=>
   intro done a w hS h0 hd hn hO hN
   obtain⟨v0,g0,r0⟩:=aj hN 0 4
   obtain rfl:v0=.pointer (some ⟨k,0,none⟩):=r0
   obtain⟨v1,g1,r1⟩:=aj hN 1 5
   obtain rfl:v1=.agg (bB mm):=r1
   refine aW rfl rfl 124 [.tmp 4,.tmp 5] #[136,182] rfl [.pointer (some ⟨k,0,none⟩),.agg (bB mm)] (by simp[Act.eval,g0,g1]) (enters_of Tryz.func124 (by kernel_rfl) rfl) (Calls.mono (hrest w hS.wk) ?_)
   rintro e w1 ⟨rfl,hb⟩
   refine⟨_,rfl,_,rfl,rfl,?_,aF.of_below hb⟩
   have h9:=hS.later hb
   simpa[h0] using h9
  case s3=>
   intro done a w hS h0 hd hn hO hN
   have o2:a.tmps[2]?=some (.pointer (some ⟨b2,0,none⟩)):=outs hO 2 rfl
   refine ah rfl (.pointer (some ⟨b2,3,none⟩)) w rfl (by go_simp) ⟨_,rfl,rfl,by simpa[h0] using hS,aF.refl _⟩
  case s4=>
   intro done a w hS h0 hd hn hO hN
   obtain⟨v3,g3,r3⟩:=aj hN 3 7
   obtain rfl:v3=.pointer (some ⟨b2,3,none⟩):=r3
   have hc:w.cell? ⟨b2,3,none⟩=some (.int .i64 mm.b):=hS.bO.cell 3
   refine ah rfl (.int .i64 mm.b) w rfl (by go_simp) ⟨_,rfl,rfl,by simpa[h0] using hS,aF.refl _⟩
  case s5=>
   intro done a w hS h0 hd hn hO hN
   obtain⟨v4,g4,r4⟩:=aj hN 4 8
   obtain rfl:v4=.int .i64 mm.b:=r4
   refine ah rfl (.slice (some ⟨w.heap.size,0,none⟩) 1 1) (w.alloc (.cells #[.int .i64 (mm.b)] 3)) rfl (by go_simp) ⟨_,rfl,nA w (mm.b),?_,aF.of_below (ak w _)⟩
   have h9:=hS.later (ak w (.cells #[.int .i64 (mm.b)] 3))
   simpa[h0] using h9
  case s6=>
   intro done a w hS h0 hd hn hO hN
   obtain⟨v2,g2,r2⟩:=aj hN 2 6
   obtain rfl:v2=.agg (au aY g):=r2
   obtain⟨v5,g5,r5⟩:=aj hN 5 9
   refine aW rfl rfl 123 [.tmp 6,.tmp 9] #[53,37] rfl [.agg (au (aY) (g)),v5] (by simp[Act.eval,g2,g5]) (enters_of Tryz.func123 (by kernel_rfl) rfl) (Calls.mono (iR w hrs (g) v5 [mm.b] r5.gP) ?_)
   rintro e w1 ⟨rfl,hb⟩
   refine⟨_,rfl,_,rfl,rfl,?_,aF.of_below hb⟩
   have h9:=hS.later hb
   simpa[h0] using h9
  case s7=>
   intro done a w hS h0 hd hn hO hN
   obtain⟨v6,g6,r6⟩:=aj hN 6 10
   obtain rfl:v6=.agg (au (aD (aY) [mm.b]) (g)):=r6
   have hq:=Br w (gK [mm.b] hrs).1 (g)
   refine ah rfl (.slice (some ⟨w.heap.size,0,none⟩) 1 1) (w.alloc (.cells (bN [(aD (aY) [mm.b],g)]) 53)) rfl (by simp[execOp,Act.eval,g6,hq,Result.andThen]) ⟨_,rfl,⟨w.heap.size,rfl,(bE w _ _).blk⟩,?_,aF.of_below (ak w _)⟩
   have h9:=hS.later (ak w (.cells (bN [(aD (aY) [mm.b],g)]) 53))
   simpa[h0] using h9
  case s8=>
   intro done a w hS h0 hd hn hO hN
   obtain⟨v7,g7,r7⟩:=aj hN 7 11
   obtain⟨qz,rfl,hc⟩:=r7
   refine ah rfl _ w rfl (by go_simp) ⟨_,rfl,⟨qz,rfl,hc⟩,by simpa[h0] using hS,aF.refl _⟩
 case fin=>
  intro vs done w hdone hS hR
  have hS2:=hS
  have ou:dV (vs 8) [(aD (aY) [mm.b],g)] w:=hR 8 (by decide)
  obtain⟨qz,hv,hc⟩:=ou
  simp only[bn,Act.put,List.setIfInBounds_toArray,List.set_cons_zero,List.set_cons_succ]
  rw[hv]
  have HZ:=show Hid (PS w1 w b m v k wb b2 r g tv mm t false/\Cl w qz (bN [(aD (aY) [mm.b],g)]) 53) from⟨hS2,hc⟩
  clear hS hR hdone hv hc hS2
  go_wp2_with fail
  go_ret
  exact⟨_,rfl,⟨qz,rfl,HZ.out.2⟩,kY bU.out HZ.out.1⟩
theorem O1 (w0:World) {b m:Nat} {v:Value} {t:List Nd} (hT:Tb w0 b m v t) {k wb:Nat} {r:List Nat} {g:Int} {tv:Value} (hW:Wk w0 k b r g tv false) (hr:Ok r) (hwb:Cl w0 wb #[.pointer (some ⟨k,0,none⟩)] 136) (mm:Sh) {aY:List Nat} (eO:aY=Bt.bT r mm.id) :
 Calls Tryz.prog 132 #[fB mm,.pointer (some ⟨wb,0,none⟩)] w0 fun e w'=>∃ sv,e=.returned sv/\dV sv [(aD (r) [mm.a],mm.b)] w'/\PE w0 w' b m v k r g tv t false:=by
 have hrs:Ok aY:=by rw[eO];exact gu hr mm.id
 have hrest:∀ (W:World) {fl:Bool},Wk W k b r g tv fl->Calls Tryz.prog 124 #[.pointer (some ⟨k,0,none⟩),.agg (bB mm)] W fun e w'=>e=.returned (.agg (au aY g))/\Below W.heap.size W w':=fun W fl h=>by rw[eO];exact jB W h hr mm
 have HT:=show Hid (Tb w0 b m v t/\Wk w0 k b r g tv false/\Cl w0 wb #[.pointer (some ⟨k,0,none⟩)] 136) from⟨hT,hW,hwb⟩
 clear hT hW hwb eO
 unfold fB
 go_enter Tryz.func132,Tryz.ntmps132
 go_wp2_with (refine aC 182 _ rfl _ rfl rfl ?_)
 intro w1 b2 hn1
 have bU:=show Hid (Below w0.heap.size w0 w1/\Tb w0 b m v t) from⟨hn1.av,HT.out.1⟩
 have H1:=show Hid (PS w1 w1 b m v k wb b2 r g tv mm t false) from⟨⟨v,HT.out.1.later hn1.av,dh.refl _ _⟩,HT.out.2.1.later hn1.av,Kp.refl _ _,HT.out.2.2.later hn1.av,hn1.blk⟩
 clear hn1 HT
 go_wp2_with fail
 refine bK (by kernel_rfl) [some 4,some 5,some 6,some 7,some 8,some 9,some 10,some 11,some 12,some 13,some 14,some 15,some 3] [[],[0],[1],[2],[],[4],[5],[3,6],[],[8],[7,9],[10],[11]] (by kernel_rfl) (fun i v w=>match i with | 0=>v=.pointer (some ⟨k,0,none⟩) | 1=>v=.pointer (some ⟨k,0,none⟩) | 2=>v=.pointer (some ⟨k,1,none⟩) | 3=>v=.agg (au r g) | 4=>v=.pointer (some ⟨b2,2,none⟩) | 5=>v=.int .i64 mm.a | 6=>kU v [mm.a] w | 7=>v=.agg (au (aD (r) [mm.a]) (g)) | 8=>v=.pointer (some ⟨b2,3,none⟩) | 9=>v=.int .i64 mm.b | 10=>v=.agg (au (aD (r) [mm.a]) (mm.b)) | 11=>dV v [(aD (r) [mm.a],mm.b)] w | 12=>dV v [(aD (r) [mm.a],mm.b)] w | _=>True) (fun done W=>PS w1 W b m v k wb b2 r g tv mm t false) (aF) ?hle (H1.out.drew) (dL 13 ?steps) ?fin
 case hle=>
  intro i v w w1 hl h
  match i,h with
  | 0,h=>exact h
  | 1,h=>exact h
  | 2,h=>exact h
  | 3,h=>exact h
  | 4,h=>exact h
  | 5,h=>exact h
  | 6,h=>exact kU.dM h hl
  | 7,h=>exact h
  | 8,h=>exact h
  | 9,h=>exact h
  | 10,h=>exact h
  | 11,h=>exact dV.dM h hl
  | 12,h=>exact dV.dM h hl
  | _+13,h=>trivial
 case steps=>
  refine⟨⟨⟨⟨⟨⟨⟨⟨⟨⟨⟨⟨⟨trivial,?s0⟩,?s1⟩,?s2⟩,?s3⟩,?s4⟩,?s5⟩,?s6⟩,?s7⟩,?s8⟩,?s9⟩,?s10⟩,?s11⟩,?s12⟩
  case s0=>
   intro done a w hS h0 hd hn hO hN
   have o1:a.tmps[1]?=some (.pointer (some ⟨wb,0,none⟩)):=outs hO 1 rfl
   have hc:w.cell? ⟨wb,0,none⟩=some (.pointer (some ⟨k,0,none⟩)):=hS.gU.cell 0
   refine ah rfl (.pointer (some ⟨k,0,none⟩)) w rfl (by go_simp) ⟨_,rfl,rfl,by simpa[h0] using hS,aF.refl _⟩
  case s1=>
   intro done a w hS h0 hd hn hO hN
   obtain⟨v0,g0,r0⟩:=aj hN 0 4
   obtain rfl:v0=.pointer (some ⟨k,0,none⟩):=r0
   refine ah rfl (.pointer (some ⟨k,0,none⟩)) w rfl (by go_simp) ⟨_,rfl,rfl,by simpa[h0] using hS,aF.refl _⟩
  case s2=>
   intro done a w hS h0 hd hn hO hN
   obtain⟨v1,g1,r1⟩:=aj hN 1 5
   obtain rfl:v1=.pointer (some ⟨k,0,none⟩):=r1
   refine ah rfl (.pointer (some ⟨k,1,none⟩)) w rfl (by go_simp) ⟨_,rfl,rfl,by simpa[h0] using hS,aF.refl _⟩
  case s3=>
   intro done a w hS h0 hd hn hO hN
   obtain⟨v2,g2,r2⟩:=aj hN 2 6
   obtain rfl:v2=.pointer (some ⟨k,1,none⟩):=r2
   have hl:=j6 w k 1 hS.wk.seq hr.1
   refine ah rfl (.agg (au r g)) w rfl (by simp[execOp,Act.eval,g2,hl,Result.andThen]) ⟨_,rfl,rfl,by simpa[h0] using hS,aF.refl _⟩
  case s4=>
   intro done a w hS h0 hd hn hO hN
   have o2:a.tmps[2]?=some (.pointer (some ⟨b2,0,none⟩)):=outs hO 2 rfl
   refine ah rfl (.pointer (some ⟨b2,2,none⟩)) w rfl (by go_simp) ⟨_,rfl,rfl,by simpa[h0] using hS,aF.refl _⟩
  case s5=>
   intro done a w hS h0 hd hn hO hN
   obtain⟨v4,g4,r4⟩:=aj hN 4 8
   obtain rfl:v4=.pointer (some ⟨b2,2,none⟩):=r4
   have hc:w.cell? ⟨b2,2,none⟩=some (.int .i64 mm.a):=hS.bO.cell 2
   refine ah rfl (.int .i64 mm.a) w rfl (by go_simp) ⟨_,rfl,rfl,by simpa[h0] using hS,aF.refl _⟩
  case s6=>
   intro done a w hS h0 hd hn hO hN
   obtain⟨v5,g5,r5⟩:=aj hN 5 9
   obtain rfl:v5=.int .i64 mm.a:=r5
   refine ah rfl (.slice (some ⟨w.heap.size,0,none⟩) 1 1) (w.alloc (.cells #[.int .i64 (mm.a)] 3)) rfl (by go_simp) ⟨_,rfl,nA w (mm.a),?_,aF.of_below (ak w _)⟩
   have h9:=hS.later (ak w (.cells #[.int .i64 (mm.a)] 3))
   simpa[h0] using h9
  case s7=>
   intro done a w hS h0 hd hn hO hN
   obtain⟨v3,g3,r3⟩:=aj hN 3 7
   obtain rfl:v3=.agg (au r g):=r3
   obtain⟨v6,g6,r6⟩:=aj hN 6 10
   refine aW rfl rfl 123 [.tmp 7,.tmp 10] #[53,37] rfl [.agg (au (r) (g)),v6] (by simp[Act.eval,g3,g6]) (enters_of Tryz.func123 (by kernel_rfl) rfl) (Calls.mono (iR w hr (g) v6 [mm.a] r6.gP) ?_)
   rintro e w1 ⟨rfl,hb⟩
   refine⟨_,rfl,_,rfl,rfl,?_,aF.of_below hb⟩
   have h9:=hS.later hb
   simpa[h0] using h9
  case s8=>
   intro done a w hS h0 hd hn hO hN
   have o2:a.tmps[2]?=some (.pointer (some ⟨b2,0,none⟩)):=outs hO 2 rfl
   refine ah rfl (.pointer (some ⟨b2,3,none⟩)) w rfl (by go_simp) ⟨_,rfl,rfl,by simpa[h0] using hS,aF.refl _⟩
  case s9=>
   intro done a w hS h0 hd hn hO hN
   obtain⟨v8,g8,r8⟩:=aj hN 8 12
   obtain rfl:v8=.pointer (some ⟨b2,3,none⟩):=r8
   have hc:w.cell? ⟨b2,3,none⟩=some (.int .i64 mm.b):=hS.bO.cell 3
   refine ah rfl (.int .i64 mm.b) w rfl (by go_simp) ⟨_,rfl,rfl,by simpa[h0] using hS,aF.refl _⟩
  case s10=>
   intro done a w hS h0 hd hn hO hN
   obtain⟨v7,g7,r7⟩:=aj hN 7 11
   obtain rfl:v7=.agg (au (aD (r) [mm.a]) (g)):=r7
   obtain⟨v9,g9,r9⟩:=aj hN 9 13
   obtain rfl:v9=.int .i64 mm.b:=r9
   refine aW rfl rfl 133 [.tmp 11,.tmp 13] #[53,3] rfl [.agg (au (aD (r) [mm.a]) (g)),.int .i64 (mm.b)] (by simp[Act.eval,g7,g9]) (enters_of Tryz.func133 (by kernel_rfl) rfl) (Calls.mono (rE w (gK [mm.a] hr).1 (g) (mm.b)) ?_)
   rintro e w1 ⟨rfl,hb⟩
   refine⟨_,rfl,_,rfl,rfl,?_,aF.of_below hb⟩
   have h9:=hS.later hb
   simpa[h0] using h9
  case s11=>
   intro done a w hS h0 hd hn hO hN
   obtain⟨v10,g10,bS⟩:=aj hN 10 14
   obtain rfl:v10=.agg (au (aD (r) [mm.a]) (mm.b)):=bS
   have hq:=Br w (gK [mm.a] hr).1 (mm.b)
   refine ah rfl (.slice (some ⟨w.heap.size,0,none⟩) 1 1) (w.alloc (.cells (bN [(aD (r) [mm.a],mm.b)]) 53)) rfl (by simp[execOp,Act.eval,g10,hq,Result.andThen]) ⟨_,rfl,⟨w.heap.size,rfl,(bE w _ _).blk⟩,?_,aF.of_below (ak w _)⟩
   have h9:=hS.later (ak w (.cells (bN [(aD (r) [mm.a],mm.b)]) 53))
   simpa[h0] using h9
  case s12=>
   intro done a w hS h0 hd hn hO hN
   obtain⟨v11,g11,bW⟩:=aj hN 11 15
   obtain⟨qz,rfl,hc⟩:=bW
   refine ah rfl _ w rfl (by go_simp) ⟨_,rfl,⟨qz,rfl,hc⟩,by simpa[h0] using hS,aF.refl _⟩
 case fin=>
  intro vs done w hdone hS hR
  have hS2:=hS
  have ou:dV (vs 12) [(aD (r) [mm.a],mm.b)] w:=hR 12 (by decide)
  obtain⟨qz,hv,hc⟩:=ou
  simp only[bn,Act.put,List.setIfInBounds_toArray,List.set_cons_zero,List.set_cons_succ]
  rw[hv]
  have HZ:=show Hid (PS w1 w b m v k wb b2 r g tv mm t false/\Cl w qz (bN [(aD (r) [mm.a],mm.b)]) 53) from⟨hS2,hc⟩
  clear hS hR hdone hv hc hS2
  go_wp2_with fail
  go_ret
  exact⟨_,rfl,⟨qz,rfl,HZ.out.2⟩,kY bU.out HZ.out.1⟩
theorem Mw (w0:World) {b m:Nat} {v:Value} {t:List Nd} (hT:Tb w0 b m v t) {k wb:Nat} {r:List Nat} {g:Int} {tv:Value} (hW:Wk w0 k b r g tv false) (hr:Ok r) (hwb:Cl w0 wb #[.pointer (some ⟨k,0,none⟩)] 136) (mm:Sh) {aY:List Nat} (eO:aY=Bt.bT r mm.id) :
 Calls Tryz.prog 134 #[fB mm,.pointer (some ⟨wb,0,none⟩)] w0 fun e w'=>∃ sv,e=.returned sv/\dV sv [(r,mm.a),(r,mm.b)] w'/\PE w0 w' b m v k r g tv t false:=by
 have hrs:Ok aY:=by rw[eO];exact gu hr mm.id
 have hrest:∀ (W:World) {fl:Bool},Wk W k b r g tv fl->Calls Tryz.prog 124 #[.pointer (some ⟨k,0,none⟩),.agg (bB mm)] W fun e w'=>e=.returned (.agg (au aY g))/\Below W.heap.size W w':=fun W fl h=>by rw[eO];exact jB W h hr mm
 have HT:=show Hid (Tb w0 b m v t/\Wk w0 k b r g tv false/\Cl w0 wb #[.pointer (some ⟨k,0,none⟩)] 136) from⟨hT,hW,hwb⟩
 clear hT hW hwb eO
 unfold fB
 go_enter Tryz.func134,Tryz.ntmps134
 go_wp2_with (refine aC 182 _ rfl _ rfl rfl ?_)
 intro w1 b2 hn1
 have bU:=show Hid (Below w0.heap.size w0 w1/\Tb w0 b m v t) from⟨hn1.av,HT.out.1⟩
 have H1:=show Hid (PS w1 w1 b m v k wb b2 r g tv mm t false) from⟨⟨v,HT.out.1.later hn1.av,dh.refl _ _⟩,HT.out.2.1.later hn1.av,Kp.refl _ _,HT.out.2.2.later hn1.av,hn1.blk⟩
 clear hn1 HT
 go_wp2_with fail
 refine bK (by kernel_rfl) [some 4,some 5,some 6,some 7,some 8,some 9,some 10,some 11,some 12,some 13,some 14,some 15,some 16,some 17,some 18,some 3] [[],[0],[1],[2],[],[4],[3,5],[],[7],[8],[9],[],[11],[10,12],[6,13],[14]] (by kernel_rfl) (fun i v w=>match i with | 0=>v=.pointer (some ⟨k,0,none⟩) | 1=>v=.pointer (some ⟨k,0,none⟩) | 2=>v=.pointer (some ⟨k,1,none⟩) | 3=>v=.agg (au r g) | 4=>v=.pointer (some ⟨b2,2,none⟩) | 5=>v=.int .i64 mm.a | 6=>v=.agg (au (r) (mm.a)) | 7=>v=.pointer (some ⟨k,0,none⟩) | 8=>v=.pointer (some ⟨k,0,none⟩) | 9=>v=.pointer (some ⟨k,1,none⟩) | 10=>v=.agg (au r g) | 11=>v=.pointer (some ⟨b2,3,none⟩) | 12=>v=.int .i64 mm.b | 13=>v=.agg (au (r) (mm.b)) | 14=>dV v [(r,mm.a),(r,mm.b)] w | 15=>dV v [(r,mm.a),(r,mm.b)] w | _=>True) (fun done W=>PS w1 W b m v k wb b2 r g tv mm t false) (aF) ?hle (H1.out.drew) (dL 16 ?steps) ?fin
 case hle=>
  intro i v w w1 hl h
  match i,h with
  | 0,h=>exact h
  | 1,h=>exact h
  | 2,h=>exact h
  | 3,h=>exact h
  | 4,h=>exact h
  | 5,h=>exact h
  | 6,h=>exact h
  | 7,h=>exact h
  | 8,h=>exact h
  | 9,h=>exact h
  | 10,h=>exact h
  | 11,h=>exact h
  | 12,h=>exact h
  | 13,h=>exact h
  | 14,h=>exact dV.dM h hl
  | 15,h=>exact dV.dM h hl
  | _+16,h=>trivial
 case steps=>
  refine⟨⟨⟨⟨⟨⟨⟨⟨⟨⟨⟨⟨⟨⟨⟨⟨trivial,?s0⟩,?s1⟩,?s2⟩,?s3⟩,?s4⟩,?s5⟩,?s6⟩,?s7⟩,?s8⟩,?s9⟩,?s10⟩,?s11⟩,?s12⟩,?s13⟩,?kg⟩,?s15⟩
  case s0=>
   intro done a w hS h0 hd hn hO hN
   have o1:a.tmps[1]?=some (.pointer (some ⟨wb,0,none⟩)):=outs hO 1 rfl
   have hc:w.cell? ⟨wb,0,none⟩=some (.pointer (some ⟨k,0,none⟩)):=hS.gU.cell 0
   refine ah rfl (.pointer (some ⟨k,0,none⟩)) w rfl (by go_simp) ⟨_,rfl,rfl,by simpa[h0] using hS,aF.refl _⟩
  case s1=>
   intro done a w hS h0 hd hn hO hN
   obtain⟨v0,g0,r0⟩:=aj hN 0 4
   obtain rfl:v0=.pointer (some ⟨k,0,none⟩):=r0
   refine ah rfl (.pointer (some ⟨k,0,none⟩)) w rfl (by go_simp) ⟨_,rfl,rfl,by simpa[h0] using hS,aF.refl _⟩
  case s2=>
   intro done a w hS h0 hd hn hO hN
   obtain⟨v1,g1,r1⟩:=aj hN 1 5
   obtain rfl:v1=.pointer (some ⟨k,0,none⟩):=r1
   refine ah rfl (.pointer (some ⟨k,1,none⟩)) w rfl (by go_simp) ⟨_,rfl,rfl,by simpa[h0] using hS,aF.refl _⟩
  case s3=>
   intro done a w hS h0 hd hn hO hN
   obtain⟨v2,g2,r2⟩:=aj hN 2 6
   obtain rfl:v2=.pointer (some ⟨k,1,none⟩):=r2
   have hl:=j6 w k 1 hS.wk.seq hr.1
   refine ah rfl (.agg (au r g)) w rfl (by simp[execOp,Act.eval,g2,hl,Result.andThen]) ⟨_,rfl,rfl,by simpa[h0] using hS,aF.refl _⟩
  case s4=>
   intro done a w hS h0 hd hn hO hN
   have o2:a.tmps[2]?=some (.pointer (some ⟨b2,0,none⟩)):=outs hO 2 rfl
   refine ah rfl (.pointer (some ⟨b2,2,none⟩)) w rfl (by go_simp) ⟨_,rfl,rfl,by simpa[h0] using hS,aF.refl _⟩
  case s5=>
   intro done a w hS h0 hd hn hO hN
   obtain⟨v4,g4,r4⟩:=aj hN 4 8
   obtain rfl:v4=.pointer (some ⟨b2,2,none⟩):=r4
   have hc:w.cell? ⟨b2,2,none⟩=some (.int .i64 mm.a):=hS.bO.cell 2
   refine ah rfl (.int .i64 mm.a) w rfl (by go_simp) ⟨_,rfl,rfl,by simpa[h0] using hS,aF.refl _⟩
  case s6=>
   intro done a w hS h0 hd hn hO hN
   obtain⟨v3,g3,r3⟩:=aj hN 3 7
   obtain rfl:v3=.agg (au r g):=r3
   obtain⟨v5,g5,r5⟩:=aj hN 5 9
   obtain rfl:v5=.int .i64 mm.a:=r5
   refine aW rfl rfl 133 [.tmp 7,.tmp 9] #[53,3] rfl [.agg (au (r) (g)),.int .i64 (mm.a)] (by simp[Act.eval,g3,g5]) (enters_of Tryz.func133 (by kernel_rfl) rfl) (Calls.mono (rE w hr.1 (g) (mm.a)) ?_)
   rintro e w1 ⟨rfl,hb⟩
   refine⟨_,rfl,_,rfl,rfl,?_,aF.of_below hb⟩
   have h9:=hS.later hb
   simpa[h0] using h9
  case s7=>
   intro done a w hS h0 hd hn hO hN
   have o1:a.tmps[1]?=some (.pointer (some ⟨wb,0,none⟩)):=outs hO 1 rfl
   have hc:w.cell? ⟨wb,0,none⟩=some (.pointer (some ⟨k,0,none⟩)):=hS.gU.cell 0
   refine ah rfl (.pointer (some ⟨k,0,none⟩)) w rfl (by go_simp) ⟨_,rfl,rfl,by simpa[h0] using hS,aF.refl _⟩
  case s8=>
   intro done a w hS h0 hd hn hO hN
   obtain⟨v7,g7,r7⟩:=aj hN 7 11
   obtain rfl:v7=.pointer (some ⟨k,0,none⟩):=r7
   refine ah rfl (.pointer (some ⟨k,0,none⟩)) w rfl (by go_simp) ⟨_,rfl,rfl,by simpa[h0] using hS,aF.refl _⟩
  case s9=>
   intro done a w hS h0 hd hn hO hN
   obtain⟨v8,g8,r8⟩:=aj hN 8 12
   obtain rfl:v8=.pointer (some ⟨k,0,none⟩):=r8
   refine ah rfl (.pointer (some ⟨k,1,none⟩)) w rfl (by go_simp) ⟨_,rfl,rfl,by simpa[h0] using hS,aF.refl _⟩
  case s10=>
   intro done a w hS h0 hd hn hO hN
   obtain⟨v9,g9,r9⟩:=aj hN 9 13
   obtain rfl:v9=.pointer (some ⟨k,1,none⟩):=r9
   have hl:=j6 w k 1 hS.wk.seq hr.1
   refine ah rfl (.agg (au r g)) w rfl (by simp[execOp,Act.eval,g9,hl,Result.andThen]) ⟨_,rfl,rfl,by simpa[h0] using hS,aF.refl _⟩
  case s11=>
   intro done a w hS h0 hd hn hO hN
   have o2:a.tmps[2]?=some (.pointer (some ⟨b2,0,none⟩)):=outs hO 2 rfl
   refine ah rfl (.pointer (some ⟨b2,3,none⟩)) w rfl (by go_simp) ⟨_,rfl,rfl,by simpa[h0] using hS,aF.refl _⟩
  case s12=>
   intro done a w hS h0 hd hn hO hN
   obtain⟨v11,g11,bW⟩:=aj hN 11 15
   obtain rfl:v11=.pointer (some ⟨b2,3,none⟩):=bW
   have hc:w.cell? ⟨b2,3,none⟩=some (.int .i64 mm.b):=hS.bO.cell 3
   refine ah rfl (.int .i64 mm.b) w rfl (by go_simp) ⟨_,rfl,rfl,by simpa[h0] using hS,aF.refl _⟩
  case s13=>
   intro done a w hS h0 hd hn hO hN
   obtain⟨v10,g10,bS⟩:=aj hN 10 14
   obtain rfl:v10=.agg (au r g):=bS
   obtain⟨v12,g12,dB⟩:=aj hN 12 16
   obtain rfl:v12=.int .i64 mm.b:=dB
   refine aW rfl rfl 133 [.tmp 14,.tmp 16] #[53,3] rfl [.agg (au (r) (g)),.int .i64 (mm.b)] (by simp[Act.eval,g10,g12]) (enters_of Tryz.func133 (by kernel_rfl) rfl) (Calls.mono (rE w hr.1 (g) (mm.b)) ?_)
   rintro e w1 ⟨rfl,hb⟩
   refine⟨_,rfl,_,rfl,rfl,?_,aF.of_below hb⟩
   have h9:=hS.later hb
   simpa[h0] using h9
  case kg=>
   intro done a w hS h0 hd hn hO hN
   obtain⟨v6,g6,r6⟩:=aj hN 6 10
   obtain rfl:v6=.agg (au (r) (mm.a)):=r6
   obtain⟨v13,g13,dD⟩:=aj hN 13 17
   obtain rfl:v13=.agg (au (r) (mm.b)):=dD
   have hq:=Vu w hr.1 hr.1 (mm.a) (mm.b)
   refine ah rfl (.slice (some ⟨w.heap.size,0,none⟩) 2 2) (w.alloc (.cells (bN [(r,mm.a),(r,mm.b)]) 53)) rfl (by simp[execOp,Act.eval,g6,g13,hq,Result.andThen]) ⟨_,rfl,⟨w.heap.size,rfl,(bE w _ _).blk⟩,?_,aF.of_below (ak w _)⟩
   have h9:=hS.later (ak w (.cells (bN [(r,mm.a),(r,mm.b)]) 53))
   simpa[h0] using h9
  case s15=>
   intro done a w hS h0 hd hn hO hN
   obtain⟨v14,g14,dF⟩:=aj hN 14 18
   obtain⟨qz,rfl,hc⟩:=dF
   refine ah rfl _ w rfl (by go_simp) ⟨_,rfl,⟨qz,rfl,hc⟩,by simpa[h0] using hS,aF.refl _⟩
 case fin=>
  intro vs done w hdone hS hR
  have hS2:=hS
  have ou:dV (vs 15) [(r,mm.a),(r,mm.b)] w:=hR 15 (by decide)
  obtain⟨qz,hv,hc⟩:=ou
  simp only[bn,Act.put,List.setIfInBounds_toArray,List.set_cons_zero,List.set_cons_succ]
  rw[hv]
  have HZ:=show Hid (PS w1 w b m v k wb b2 r g tv mm t false/\Cl w qz (bN [(r,mm.a),(r,mm.b)]) 53) from⟨hS2,hc⟩
  clear hS hR hdone hv hc hS2
  go_wp2_with fail
  go_ret
  exact⟨_,rfl,⟨qz,rfl,HZ.out.2⟩,kY bU.out HZ.out.1⟩
theorem Mx (w0:World) {b m:Nat} {v:Value} {t:List Nd} (hT:Tb w0 b m v t) {k wb:Nat} {r:List Nat} {g:Int} {tv:Value} (hW:Wk w0 k b r g tv false) (hr:Ok r) (hwb:Cl w0 wb #[.pointer (some ⟨k,0,none⟩)] 136) (mm:Sh) {aY:List Nat} (eO:aY=Bt.bT r mm.id) :
 Calls Tryz.prog 135 #[fB mm,.pointer (some ⟨wb,0,none⟩)] w0 fun e w'=>∃ sv,e=.returned sv/\dV sv [(aD (aY) [mm.a],g),(aD (aY) [mm.b],g)] w'/\PE w0 w' b m v k r g tv t false:=by
 have hrs:Ok aY:=by rw[eO];exact gu hr mm.id
 have hrest:∀ (W:World) {fl:Bool},Wk W k b r g tv fl->Calls Tryz.prog 124 #[.pointer (some ⟨k,0,none⟩),.agg (bB mm)] W fun e w'=>e=.returned (.agg (au aY g))/\Below W.heap.size W w':=fun W fl h=>by rw[eO];exact jB W h hr mm
 have HT:=show Hid (Tb w0 b m v t/\Wk w0 k b r g tv false/\Cl w0 wb #[.pointer (some ⟨k,0,none⟩)] 136) from⟨hT,hW,hwb⟩
 clear hT hW hwb eO
 unfold fB
 go_enter Tryz.func135,Tryz.ntmps135
 go_wp2_with (refine aC 182 _ rfl _ rfl rfl ?_)
 intro w1 b2 hn1
 have bU:=show Hid (Below w0.heap.size w0 w1/\Tb w0 b m v t) from⟨hn1.av,HT.out.1⟩
 have H1:=show Hid (PS w1 w1 b m v k wb b2 r g tv mm t false) from⟨⟨v,HT.out.1.later hn1.av,dh.refl _ _⟩,HT.out.2.1.later hn1.av,Kp.refl _ _,HT.out.2.2.later hn1.av,hn1.blk⟩
 clear hn1 HT
 go_wp2_with fail
 refine bK (by kernel_rfl) [some 4,some 5,some 6,some 7,some 8,some 9,some 10,some 11,some 12,some 13,some 14,some 15,some 16,some 17,some 18,some 3] [[],[],[0,1],[],[3],[4],[2,5],[],[],[7,8],[],[10],[11],[9,12],[6,13],[14]] (by kernel_rfl) (fun i v w=>match i with | 0=>v=.pointer (some ⟨k,0,none⟩) | 1=>v=.agg (bB mm) | 2=>v=.agg (au aY g) | 3=>v=.pointer (some ⟨b2,2,none⟩) | 4=>v=.int .i64 mm.a | 5=>kU v [mm.a] w | 6=>v=.agg (au (aD (aY) [mm.a]) (g)) | 7=>v=.pointer (some ⟨k,0,none⟩) | 8=>v=.agg (bB mm) | 9=>v=.agg (au aY g) | 10=>v=.pointer (some ⟨b2,3,none⟩) | 11=>v=.int .i64 mm.b | 12=>kU v [mm.b] w | 13=>v=.agg (au (aD (aY) [mm.b]) (g)) | 14=>dV v [(aD (aY) [mm.a],g),(aD (aY) [mm.b],g)] w | 15=>dV v [(aD (aY) [mm.a],g),(aD (aY) [mm.b],g)] w | _=>True) (fun done W=>PS w1 W b m v k wb b2 r g tv mm t false) (aF) ?hle (H1.out.drew) (dL 16 ?steps) ?fin
 case hle=>
  intro i v w w1 hl h
  match i,h with
  | 0,h=>exact h
  | 1,h=>exact h
  | 2,h=>exact h
  | 3,h=>exact h
  | 4,h=>exact h
  | 5,h=>exact kU.dM h hl
  | 6,h=>exact h
  | 7,h=>exact h
  | 8,h=>exact h
  | 9,h=>exact h
  | 10,h=>exact h
  | 11,h=>exact h
  | 12,h=>exact kU.dM h hl
  | 13,h=>exact h
  | 14,h=>exact dV.dM h hl
  | 15,h=>exact dV.dM h hl
  | _+16,h=>trivial
 case steps=>
  refine⟨⟨⟨⟨⟨⟨⟨⟨⟨⟨⟨⟨⟨⟨⟨⟨trivial,?s0⟩,?s1⟩,?s2⟩,?s3⟩,?s4⟩,?s5⟩,?s6⟩,?s7⟩,?s8⟩,?s9⟩,?s10⟩,?s11⟩,?s12⟩,?s13⟩,?kg⟩,?s15⟩
  case s0=>
   intro done a w hS h0 hd hn hO hN
   have o1:a.tmps[1]?=some (.pointer (some ⟨wb,0,none⟩)):=outs hO 1 rfl
   have hc:w.cell? ⟨wb,0,none⟩=some (.pointer (some ⟨k,0,none⟩)):=hS.gU.cell 0
   refine ah rfl (.pointer (some ⟨k,0,none⟩)) w rfl (by go_simp) ⟨_,rfl,rfl,by simpa[h0] using hS,aF.refl _⟩
  case s1=>
   intro done a w hS h0 hd hn hO hN
   have o2:a.tmps[2]?=some (.pointer (some ⟨b2,0,none⟩)):=outs hO 2 rfl
   have hl:=vg hS.bO
   refine ah rfl (.agg (bB mm)) w rfl (by simp[execOp,Act.eval,o2,hl,Result.andThen]) ⟨_,rfl,rfl,by simpa[h0] using hS,aF.refl _⟩
  case s2=>
   intro done a w hS h0 hd hn hO hN
   obtain⟨v0,g0,r0⟩:=aj hN 0 4
   obtain rfl:v0=.pointer (some ⟨k,0,none⟩):=r0
   obtain⟨v1,g1,r1⟩:=aj hN 1 5
   obtain rfl:v1=.agg (bB mm):=r1
   refine aW rfl rfl 124 [.tmp 4,.tmp 5] #[136,182] rfl [.pointer (some ⟨k,0,none⟩),.agg (bB mm)] (by simp[Act.eval,g0,g1]) (enters_of Tryz.func124 (by kernel_rfl) rfl) (Calls.mono (hrest w hS.wk) ?_)
   rintro e w1 ⟨rfl,hb⟩
   refine⟨_,rfl,_,rfl,rfl,?_,aF.of_below hb⟩
   have h9:=hS.later hb
   simpa[h0] using h9
  case s3=>
   intro done a w hS h0 hd hn hO hN
   have o2:a.tmps[2]?=some (.pointer (some ⟨b2,0,none⟩)):=outs hO 2 rfl
   refine ah rfl (.pointer (some ⟨b2,2,none⟩)) w rfl (by go_simp) ⟨_,rfl,rfl,by simpa[h0] using hS,aF.refl _⟩
  case s4=>
   intro done a w hS h0 hd hn hO hN
   obtain⟨v3,g3,r3⟩:=aj hN 3 7
   obtain rfl:v3=.pointer (some ⟨b2,2,none⟩):=r3
   have hc:w.cell? ⟨b2,2,none⟩=some (.int .i64 mm.a):=hS.bO.cell 2
   refine ah rfl (.int .i64 mm.a) w rfl (by go_simp) ⟨_,rfl,rfl,by simpa[h0] using hS,aF.refl _⟩
  case s5=>
   intro done a w hS h0 hd hn hO hN
   obtain⟨v4,g4,r4⟩:=aj hN 4 8
   obtain rfl:v4=.int .i64 mm.a:=r4
   refine ah rfl (.slice (some ⟨w.heap.size,0,none⟩) 1 1) (w.alloc (.cells #[.int .i64 (mm.a)] 3)) rfl (by go_simp) ⟨_,rfl,nA w (mm.a),?_,aF.of_below (ak w _)⟩
   have h9:=hS.later (ak w (.cells #[.int .i64 (mm.a)] 3))
   simpa[h0] using h9
  case s6=>
   intro done a w hS h0 hd hn hO hN
   obtain⟨v2,g2,r2⟩:=aj hN 2 6
   obtain rfl:v2=.agg (au aY g):=r2
   obtain⟨v5,g5,r5⟩:=aj hN 5 9
   refine aW rfl rfl 123 [.tmp 6,.tmp 9] #[53,37] rfl [.agg (au (aY) (g)),v5] (by simp[Act.eval,g2,g5]) (enters_of Tryz.func123 (by kernel_rfl) rfl) (Calls.mono (iR w hrs (g) v5 [mm.a] r5.gP) ?_)
   rintro e w1 ⟨rfl,hb⟩
   refine⟨_,rfl,_,rfl,rfl,?_,aF.of_below hb⟩
   have h9:=hS.later hb
   simpa[h0] using h9
  case s7=>
   intro done a w hS h0 hd hn hO hN
   have o1:a.tmps[1]?=some (.pointer (some ⟨wb,0,none⟩)):=outs hO 1 rfl
   have hc:w.cell? ⟨wb,0,none⟩=some (.pointer (some ⟨k,0,none⟩)):=hS.gU.cell 0
   refine ah rfl (.pointer (some ⟨k,0,none⟩)) w rfl (by go_simp) ⟨_,rfl,rfl,by simpa[h0] using hS,aF.refl _⟩
  case s8=>
   intro done a w hS h0 hd hn hO hN
   have o2:a.tmps[2]?=some (.pointer (some ⟨b2,0,none⟩)):=outs hO 2 rfl
   have hl:=vg hS.bO
   refine ah rfl (.agg (bB mm)) w rfl (by simp[execOp,Act.eval,o2,hl,Result.andThen]) ⟨_,rfl,rfl,by simpa[h0] using hS,aF.refl _⟩
  case s9=>
   intro done a w hS h0 hd hn hO hN
   obtain⟨v7,g7,r7⟩:=aj hN 7 11
   obtain rfl:v7=.pointer (some ⟨k,0,none⟩):=r7
   obtain⟨v8,g8,r8⟩:=aj hN 8 12
   obtain rfl:v8=.agg (bB mm):=r8
   refine aW rfl rfl 124 [.tmp 11,.tmp 12] #[136,182] rfl [.pointer (some ⟨k,0,none⟩),.agg (bB mm)] (by simp[Act.eval,g7,g8]) (enters_of Tryz.func124 (by kernel_rfl) rfl) (Calls.mono (hrest w hS.wk) ?_)
   rintro e w1 ⟨rfl,hb⟩
   refine⟨_,rfl,_,rfl,rfl,?_,aF.of_below hb⟩
   have h9:=hS.later hb
   simpa[h0] using h9
  case s10=>
   intro done a w hS h0 hd hn hO hN
   have o2:a.tmps[2]?=some (.pointer (some ⟨b2,0,none⟩)):=outs hO 2 rfl
   refine ah rfl (.pointer (some ⟨b2,3,none⟩)) w rfl (by go_simp) ⟨_,rfl,rfl,by simpa[h0] using hS,aF.refl _⟩
  case s11=>
   intro done a w hS h0 hd hn hO hN
   obtain⟨v10,g10,bS⟩:=aj hN 10 14
   obtain rfl:v10=.pointer (some ⟨b2,3,none⟩):=bS
   have hc:w.cell? ⟨b2,3,none⟩=some (.int .i64 mm.b):=hS.bO.cell 3
   refine ah rfl (.int .i64 mm.b) w rfl (by go_simp) ⟨_,rfl,rfl,by simpa[h0] using hS,aF.refl _⟩
  case s12=>
   intro done a w hS h0 hd hn hO hN
   obtain⟨v11,g11,bW⟩:=aj hN 11 15
   obtain rfl:v11=.int .i64 mm.b:=bW
   refine ah rfl (.slice (some ⟨w.heap.size,0,none⟩) 1 1) (w.alloc (.cells #[.int .i64 (mm.b)] 3)) rfl (by go_simp) ⟨_,rfl,nA w (mm.b),?_,aF.of_below (ak w _)⟩
   have h9:=hS.later (ak w (.cells #[.int .i64 (mm.b)] 3))
   simpa[h0] using h9
  case s13=>
   intro done a w hS h0 hd hn hO hN
   obtain⟨v9,g9,r9⟩:=aj hN 9 13
   obtain rfl:v9=.agg (au aY g):=r9
   obtain⟨v12,g12,dB⟩:=aj hN 12 16
   refine aW rfl rfl 123 [.tmp 13,.tmp 16] #[53,37] rfl [.agg (au (aY) (g)),v12] (by simp[Act.eval,g9,g12]) (enters_of Tryz.func123 (by kernel_rfl) rfl) (Calls.mono (iR w hrs (g) v12 [mm.b] dB.gP) ?_)
   rintro e w1 ⟨rfl,hb⟩
   refine⟨_,rfl,_,rfl,rfl,?_,aF.of_below hb⟩
   have h9:=hS.later hb
   simpa[h0] using h9
  case kg=>
   intro done a w hS h0 hd hn hO hN
   obtain⟨v6,g6,r6⟩:=aj hN 6 10
   obtain rfl:v6=.agg (au (aD (aY) [mm.a]) (g)):=r6
   obtain⟨v13,g13,dD⟩:=aj hN 13 17
   obtain rfl:v13=.agg (au (aD (aY) [mm.b]) (g)):=dD
   have hq:=Vu w (gK [mm.a] hrs).1 (gK [mm.b] hrs).1 (g) (g)
   refine ah rfl (.slice (some ⟨w.heap.size,0,none⟩) 2 2) (w.alloc (.cells (bN [(aD (aY) [mm.a],g),(aD (aY) [mm.b],g)]) 53)) rfl (by simp[execOp,Act.eval,g6,g13,hq,Result.andThen]) ⟨_,rfl,⟨w.heap.size,rfl,(bE w _ _).blk⟩,?_,aF.of_below (ak w _)⟩
   have h9:=hS.later (ak w (.cells (bN [(aD (aY) [mm.a],g),(aD (aY) [mm.b],g)]) 53))
   simpa[h0] using h9
  case s15=>
   intro done a w hS h0 hd hn hO hN
   obtain⟨v14,g14,dF⟩:=aj hN 14 18
   obtain⟨qz,rfl,hc⟩:=dF
   refine ah rfl _ w rfl (by go_simp) ⟨_,rfl,⟨qz,rfl,hc⟩,by simpa[h0] using hS,aF.refl _⟩
 case fin=>
  intro vs done w hdone hS hR
  have hS2:=hS
  have ou:dV (vs 15) [(aD (aY) [mm.a],g),(aD (aY) [mm.b],g)] w:=hR 15 (by decide)
  obtain⟨qz,hv,hc⟩:=ou
  simp only[bn,Act.put,List.setIfInBounds_toArray,List.set_cons_zero,List.set_cons_succ]
  rw[hv]
  have HZ:=show Hid (PS w1 w b m v k wb b2 r g tv mm t false/\Cl w qz (bN [(aD (aY) [mm.a],g),(aD (aY) [mm.b],g)]) 53) from⟨hS2,hc⟩
  clear hS hR hdone hv hc hS2
  go_wp2_with fail
  go_ret
  exact⟨_,rfl,⟨qz,rfl,HZ.out.2⟩,kY bU.out HZ.out.1⟩
theorem MB (w0:World) {b m:Nat} {v:Value} {t:List Nd} (hT:Tb w0 b m v t) {k wb:Nat} {r:List Nat} {g:Int} {tv:Value} (hW:Wk w0 k b r g tv false) (hr:Ok r) (hwb:Cl w0 wb #[.pointer (some ⟨k,0,none⟩)] 136) (mm:Sh) {aY:List Nat} (eO:aY=Bt.bT r mm.id) :
 Calls Tryz.prog 136 #[fB mm,.pointer (some ⟨wb,0,none⟩)] w0 fun e w'=>∃ sv,e=.returned sv/\dV sv [(r,mm.a)] w'/\PE w0 w' b m v k r g tv t false:=by
 have hrs:Ok aY:=by rw[eO];exact gu hr mm.id
 have hrest:∀ (W:World) {fl:Bool},Wk W k b r g tv fl->Calls Tryz.prog 124 #[.pointer (some ⟨k,0,none⟩),.agg (bB mm)] W fun e w'=>e=.returned (.agg (au aY g))/\Below W.heap.size W w':=fun W fl h=>by rw[eO];exact jB W h hr mm
 have HT:=show Hid (Tb w0 b m v t/\Wk w0 k b r g tv false/\Cl w0 wb #[.pointer (some ⟨k,0,none⟩)] 136) from⟨hT,hW,hwb⟩
 clear hT hW hwb eO
 unfold fB
 go_enter Tryz.func136,Tryz.ntmps136
 go_wp2_with (refine aC 182 _ rfl _ rfl rfl ?_)
 intro w1 b2 hn1
 have bU:=show Hid (Below w0.heap.size w0 w1/\Tb w0 b m v t) from⟨hn1.av,HT.out.1⟩
 have H1:=show Hid (PS w1 w1 b m v k wb b2 r g tv mm t false) from⟨⟨v,HT.out.1.later hn1.av,dh.refl _ _⟩,HT.out.2.1.later hn1.av,Kp.refl _ _,HT.out.2.2.later hn1.av,hn1.blk⟩
 clear hn1 HT
 go_wp2_with fail
 refine bK (by kernel_rfl) [some 4,some 5,some 6,some 7,some 8,some 9,some 10,some 11,some 3] [[],[0],[1],[2],[],[4],[3,5],[6],[7]] (by kernel_rfl) (fun i v w=>match i with | 0=>v=.pointer (some ⟨k,0,none⟩) | 1=>v=.pointer (some ⟨k,0,none⟩) | 2=>v=.pointer (some ⟨k,1,none⟩) | 3=>v=.agg (au r g) | 4=>v=.pointer (some ⟨b2,2,none⟩) | 5=>v=.int .i64 mm.a | 6=>v=.agg (au (r) (mm.a)) | 7=>dV v [(r,mm.a)] w | 8=>dV v [(r,mm.a)] w | _=>True) (fun done W=>PS w1 W b m v k wb b2 r g tv mm t false) (aF) ?hle (H1.out.drew) (dL 9 ?steps) ?fin
 case hle=>
  intro i v w w1 hl h
  match i,h with
  | 0,h=>exact h
  | 1,h=>exact h
  | 2,h=>exact h
  | 3,h=>exact h
  | 4,h=>exact h
  | 5,h=>exact h
  | 6,h=>exact h
  | 7,h=>exact dV.dM h hl
  | 8,h=>exact dV.dM h hl
  | _+9,h=>trivial
 case steps=>
  refine⟨⟨⟨⟨⟨⟨⟨⟨⟨trivial,?s0⟩,?s1⟩,?s2⟩,?s3⟩,?s4⟩,?s5⟩,?s6⟩,?s7⟩,?s8⟩
  case s0=>
   intro done a w hS h0 hd hn hO hN
   have o1:a.tmps[1]?=some (.pointer (some ⟨wb,0,none⟩)):=outs hO 1 rfl
   have hc:w.cell? ⟨wb,0,none⟩=some (.pointer (some ⟨k,0,none⟩)):=hS.gU.cell 0
   refine ah rfl (.pointer (some ⟨k,0,none⟩)) w rfl (by go_simp) ⟨_,rfl,rfl,by simpa[h0] using hS,aF.refl _⟩
  case s1=>
   intro done a w hS h0 hd hn hO hN
   obtain⟨v0,g0,r0⟩:=aj hN 0 4
   obtain rfl:v0=.pointer (some ⟨k,0,none⟩):=r0
   refine ah rfl (.pointer (some ⟨k,0,none⟩)) w rfl (by go_simp) ⟨_,rfl,rfl,by simpa[h0] using hS,aF.refl _⟩
  case s2=>
   intro done a w hS h0 hd hn hO hN
   obtain⟨v1,g1,r1⟩:=aj hN 1 5
   obtain rfl:v1=.pointer (some ⟨k,0,none⟩):=r1
   refine ah rfl (.pointer (some ⟨k,1,none⟩)) w rfl (by go_simp) ⟨_,rfl,rfl,by simpa[h0] using hS,aF.refl _⟩
  case s3=>
   intro done a w hS h0 hd hn hO hN
   obtain⟨v2,g2,r2⟩:=aj hN 2 6
   obtain rfl:v2=.pointer (some ⟨k,1,none⟩):=r2
   have hl:=j6 w k 1 hS.wk.seq hr.1
   refine ah rfl (.agg (au r g)) w rfl (by simp[execOp,Act.eval,g2,hl,Result.andThen]) ⟨_,rfl,rfl,by simpa[h0] using hS,aF.refl _⟩
  case s4=>
   intro done a w hS h0 hd hn hO hN
   have o2:a.tmps[2]?=some (.pointer (some ⟨b2,0,none⟩)):=outs hO 2 rfl
   refine ah rfl (.pointer (some ⟨b2,2,none⟩)) w rfl (by go_simp) ⟨_,rfl,rfl,by simpa[h0] using hS,aF.refl _⟩
  case s5=>
   intro done a w hS h0 hd hn hO hN
   obtain⟨v4,g4,r4⟩:=aj hN 4 8
   obtain rfl:v4=.pointer (some ⟨b2,2,none⟩):=r4
   have hc:w.cell? ⟨b2,2,none⟩=some (.int .i64 mm.a):=hS.bO.cell 2
   refine ah rfl (.int .i64 mm.a) w rfl (by go_simp) ⟨_,rfl,rfl,by simpa[h0] using hS,aF.refl _⟩
  case s6=>
   intro done a w hS h0 hd hn hO hN
   obtain⟨v3,g3,r3⟩:=aj hN 3 7
   obtain rfl:v3=.agg (au r g):=r3
   obtain⟨v5,g5,r5⟩:=aj hN 5 9
   obtain rfl:v5=.int .i64 mm.a:=r5
   refine aW rfl rfl 133 [.tmp 7,.tmp 9] #[53,3] rfl [.agg (au (r) (g)),.int .i64 (mm.a)] (by simp[Act.eval,g3,g5]) (enters_of Tryz.func133 (by kernel_rfl) rfl) (Calls.mono (rE w hr.1 (g) (mm.a)) ?_)
   rintro e w1 ⟨rfl,hb⟩
   refine⟨_,rfl,_,rfl,rfl,?_,aF.of_below hb⟩
   have h9:=hS.later hb
   simpa[h0] using h9
  case s7=>
   intro done a w hS h0 hd hn hO hN
   obtain⟨v6,g6,r6⟩:=aj hN 6 10
   obtain rfl:v6=.agg (au (r) (mm.a)):=r6
   have hq:=Br w hr.1 (mm.a)
   refine ah rfl (.slice (some ⟨w.heap.size,0,none⟩) 1 1) (w.alloc (.cells (bN [(r,mm.a)]) 53)) rfl (by simp[execOp,Act.eval,g6,hq,Result.andThen]) ⟨_,rfl,⟨w.heap.size,rfl,(bE w _ _).blk⟩,?_,aF.of_below (ak w _)⟩
   have h9:=hS.later (ak w (.cells (bN [(r,mm.a)]) 53))
   simpa[h0] using h9
  case s8=>
   intro done a w hS h0 hd hn hO hN
   obtain⟨v7,g7,r7⟩:=aj hN 7 11
   obtain⟨qz,rfl,hc⟩:=r7
   refine ah rfl _ w rfl (by go_simp) ⟨_,rfl,⟨qz,rfl,hc⟩,by simpa[h0] using hS,aF.refl _⟩
 case fin=>
  intro vs done w hdone hS hR
  have hS2:=hS
  have ou:dV (vs 8) [(r,mm.a)] w:=hR 8 (by decide)
  obtain⟨qz,hv,hc⟩:=ou
  simp only[bn,Act.put,List.setIfInBounds_toArray,List.set_cons_zero,List.set_cons_succ]
  rw[hv]
  have HZ:=show Hid (PS w1 w b m v k wb b2 r g tv mm t false/\Cl w qz (bN [(r,mm.a)]) 53) from⟨hS2,hc⟩
  clear hS hR hdone hv hc hS2
  go_wp2_with fail
  go_ret
  exact⟨_,rfl,⟨qz,rfl,HZ.out.2⟩,kY bU.out HZ.out.1⟩
theorem MC (w0:World) {b m:Nat} {v:Value} {t:List Nd} (hT:Tb w0 b m v t) {k wb:Nat} {r:List Nat} {g:Int} {tv:Value} (hW:Wk w0 k b r g tv false) (hr:Ok r) (hwb:Cl w0 wb #[.pointer (some ⟨k,0,none⟩)] 136) (mm:Sh) {aY:List Nat} (eO:aY=Bt.bT r mm.id) :
 Calls Tryz.prog 137 #[fB mm,.pointer (some ⟨wb,0,none⟩)] w0 fun e w'=>∃ sv,e=.returned sv/\dV sv [(r,mm.b)] w'/\PE w0 w' b m v k r g tv t false:=by
 have hrs:Ok aY:=by rw[eO];exact gu hr mm.id
 have hrest:∀ (W:World) {fl:Bool},Wk W k b r g tv fl->Calls Tryz.prog 124 #[.pointer (some ⟨k,0,none⟩),.agg (bB mm)] W fun e w'=>e=.returned (.agg (au aY g))/\Below W.heap.size W w':=fun W fl h=>by rw[eO];exact jB W h hr mm
 have HT:=show Hid (Tb w0 b m v t/\Wk w0 k b r g tv false/\Cl w0 wb #[.pointer (some ⟨k,0,none⟩)] 136) from⟨hT,hW,hwb⟩
 clear hT hW hwb eO
 unfold fB
 go_enter Tryz.func137,Tryz.ntmps137
 go_wp2_with (refine aC 182 _ rfl _ rfl rfl ?_)
 intro w1 b2 hn1
 have bU:=show Hid (Below w0.heap.size w0 w1/\Tb w0 b m v t) from⟨hn1.av,HT.out.1⟩
 have H1:=show Hid (PS w1 w1 b m v k wb b2 r g tv mm t false) from⟨⟨v,HT.out.1.later hn1.av,dh.refl _ _⟩,HT.out.2.1.later hn1.av,Kp.refl _ _,HT.out.2.2.later hn1.av,hn1.blk⟩
 clear hn1 HT
 go_wp2_with fail
 refine bK (by kernel_rfl) [some 4,some 5,some 6,some 7,some 8,some 9,some 10,some 11,some 3] [[],[0],[1],[2],[],[4],[3,5],[6],[7]] (by kernel_rfl) (fun i v w=>match i with | 0=>v=.pointer (some ⟨k,0,none⟩) | 1=>v=.pointer (some ⟨k,0,none⟩) | 2=>v=.pointer (some ⟨k,1,none⟩) | 3=>v=.agg (au r g) | 4=>v=.pointer (some ⟨b2,3,none⟩) | 5=>v=.int .i64 mm.b | 6=>v=.agg (au (r) (mm.b)) | 7=>dV v [(r,mm.b)] w | 8=>dV v [(r,mm.b)] w | _=>True) (fun done W=>PS w1 W b m v k wb b2 r g tv mm t false) (aF) ?hle (H1.out.drew) (dL 9 ?steps) ?fin
 case hle=>
  intro i v w w1 hl h
  match i,h with
  | 0,h=>exact h
  | 1,h=>exact h
  | 2,h=>exact h
  | 3,h=>exact h
  | 4,h=>exact h
  | 5,h=>exact h
  | 6,h=>exact h
  | 7,h=>exact dV.dM h hl
  | 8,h=>exact dV.dM h hl
  | _+9,h=>trivial
 case steps=>
  refine⟨⟨⟨⟨⟨⟨⟨⟨⟨trivial,?s0⟩,?s1⟩,?s2⟩,?s3⟩,?s4⟩,?s5⟩,?s6⟩,?s7⟩,?s8⟩
  case s0=>
   intro done a w hS h0 hd hn hO hN
   have o1:a.tmps[1]?=some (.pointer (some ⟨wb,0,none⟩)):=outs hO 1 rfl
   have hc:w.cell? ⟨wb,0,none⟩=some (.pointer (some ⟨k,0,none⟩)):=hS.gU.cell 0
   refine ah rfl (.pointer (some ⟨k,0,none⟩)) w rfl (by go_simp) ⟨_,rfl,rfl,by simpa[h0] using hS,aF.refl _⟩
  case s1=>
   intro done a w hS h0 hd hn hO hN
   obtain⟨v0,g0,r0⟩:=aj hN 0 4
   obtain rfl:v0=.pointer (some ⟨k,0,none⟩):=r0
   refine ah rfl (.pointer (some ⟨k,0,none⟩)) w rfl (by go_simp) ⟨_,rfl,rfl,by simpa[h0] using hS,aF.refl _⟩
  case s2=>
   intro done a w hS h0 hd hn hO hN
   obtain⟨v1,g1,r1⟩:=aj hN 1 5
   obtain rfl:v1=.pointer (some ⟨k,0,none⟩):=r1
   refine ah rfl (.pointer (some ⟨k,1,none⟩)) w rfl (by go_simp) ⟨_,rfl,rfl,by simpa[h0] using hS,aF.refl _⟩
  case s3=>
   intro done a w hS h0 hd hn hO hN
   obtain⟨v2,g2,r2⟩:=aj hN 2 6
   obtain rfl:v2=.pointer (some ⟨k,1,none⟩):=r2
   have hl:=j6 w k 1 hS.wk.seq hr.1
   refine ah rfl (.agg (au r g)) w rfl (by simp[execOp,Act.eval,g2,hl,Result.andThen]) ⟨_,rfl,rfl,by simpa[h0] using hS,aF.refl _⟩
  case s4=>
   intro done a w hS h0 hd hn hO hN
   have o2:a.tmps[2]?=some (.pointer (some ⟨b2,0,none⟩)):=outs hO 2 rfl
   refine ah rfl (.pointer (some ⟨b2,3,none⟩)) w rfl (by go_simp) ⟨_,rfl,rfl,by simpa[h0] using hS,aF.refl _⟩
  case s5=>
   intro done a w hS h0 hd hn hO hN
   obtain⟨v4,g4,r4⟩:=aj hN 4 8
   obtain rfl:v4=.pointer (some ⟨b2,3,none⟩):=r4
   have hc:w.cell? ⟨b2,3,none⟩=some (.int .i64 mm.b):=hS.bO.cell 3
   refine ah rfl (.int .i64 mm.b) w rfl (by go_simp) ⟨_,rfl,rfl,by simpa[h0] using hS,aF.refl _⟩
  case s6=>
   intro done a w hS h0 hd hn hO hN
   obtain⟨v3,g3,r3⟩:=aj hN 3 7
   obtain rfl:v3=.agg (au r g):=r3
   obtain⟨v5,g5,r5⟩:=aj hN 5 9
   obtain rfl:v5=.int .i64 mm.b:=r5
   refine aW rfl rfl 133 [.tmp 7,.tmp 9] #[53,3] rfl [.agg (au (r) (g)),.int .i64 (mm.b)] (by simp[Act.eval,g3,g5]) (enters_of Tryz.func133 (by kernel_rfl) rfl) (Calls.mono (rE w hr.1 (g) (mm.b)) ?_)
   rintro e w1 ⟨rfl,hb⟩
   refine⟨_,rfl,_,rfl,rfl,?_,aF.of_below hb⟩
   have h9:=hS.later hb
   simpa[h0] using h9
  case s7=>
   intro done a w hS h0 hd hn hO hN
   obtain⟨v6,g6,r6⟩:=aj hN 6 10
   obtain rfl:v6=.agg (au (r) (mm.b)):=r6
   have hq:=Br w hr.1 (mm.b)
   refine ah rfl (.slice (some ⟨w.heap.size,0,none⟩) 1 1) (w.alloc (.cells (bN [(r,mm.b)]) 53)) rfl (by simp[execOp,Act.eval,g6,hq,Result.andThen]) ⟨_,rfl,⟨w.heap.size,rfl,(bE w _ _).blk⟩,?_,aF.of_below (ak w _)⟩
   have h9:=hS.later (ak w (.cells (bN [(r,mm.b)]) 53))
   simpa[h0] using h9
  case s8=>
   intro done a w hS h0 hd hn hO hN
   obtain⟨v7,g7,r7⟩:=aj hN 7 11
   obtain⟨qz,rfl,hc⟩:=r7
   refine ah rfl _ w rfl (by go_simp) ⟨_,rfl,⟨qz,rfl,hc⟩,by simpa[h0] using hS,aF.refl _⟩
 case fin=>
  intro vs done w hdone hS hR
  have hS2:=hS
  have ou:dV (vs 8) [(r,mm.b)] w:=hR 8 (by decide)
  obtain⟨qz,hv,hc⟩:=ou
  simp only[bn,Act.put,List.setIfInBounds_toArray,List.set_cons_zero,List.set_cons_succ]
  rw[hv]
  have HZ:=show Hid (PS w1 w b m v k wb b2 r g tv mm t false/\Cl w qz (bN [(r,mm.b)]) 53) from⟨hS2,hc⟩
  clear hS hR hdone hv hc hS2
  go_wp2_with fail
  go_ret
  exact⟨_,rfl,⟨qz,rfl,HZ.out.2⟩,kY bU.out HZ.out.1⟩
end Go.Proofs.YtkpbpecikibohaaGreatDoor
