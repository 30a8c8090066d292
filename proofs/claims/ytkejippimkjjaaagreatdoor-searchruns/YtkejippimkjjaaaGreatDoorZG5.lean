import Derived.Test.YtkejippimkjjaaaGreatDoorZFind
import Derived.Test.YtkejippimkjjaaaGreatDoorFG3
set_option linter.unusedSimpArgs false
set_option maxRecDepth 100000
set_option maxHeartbeats 4000000
namespace Go.Proofs.YtkejippimkjjaaaGreatDoor
open Go.RowKit Go.Shelf Go.Maps
open Fm (Nd)
open Bt.Bs (Ok wd)
def aC (w W:World):Prop:=w.heap.size<=W.heap.size/\∀ (k:Nat) (cs:Array Value) (T:TypeId) (fr:Nat × Nat),w.heap[k]?=some (.cells cs T fr)->(T≠91/\T≠54/\T≠115)->W.heap[k]?=w.heap[k]?
theorem aC.of_below {w W:World} (h:Below w.heap.size w W):aC w W:=⟨h.size,fun k _ _ _ hk _=>h.block k (lt_of_block hk)⟩
theorem aC.refl (w:World):aC w w:=⟨Nat.le_refl _,fun _ _ _ _ _ _=>rfl⟩
theorem aC.trans {a b c:World} (h:aC a b) (k:aC b c):aC a c:=⟨Nat.le_trans h.1 k.1,fun i cs T fr hi h1=>by
 have e:=h.2 i cs T fr hi h1
 exact(k.2 i cs T fr (e.trans hi) h1).trans e⟩
theorem Cl.dB {w W:World} {b:Nat} {cs:Array Value} {T:TypeId} (h:Cl w b cs T) (h1:T≠91/\T≠54/\T≠115) (hs:aC w W):Cl W b cs T:=(hs.2 b cs T (0,0) h h1).trans h
structure PS (w1 W:World) (b m:Nat) (v:Value) (k wb b2:Nat) (r:List Nat) (g:Int) (tv:Value) (mm:Sh) (t:List Nd) (fl:Bool):Prop where
 tb:∃ v',Tb W b m v' t/\bQ w1.heap.size v v'
 wk:Wk W k b r g tv fl
 kp:Kp (fun i=>Ft b m v i\/i=k) w1 W
 gY:Cl W wb #[.pointer (some ⟨k,0,none⟩)] 84
 dx:Cl W b2 (bL mm) 123
section
variable {w1 W W':World} {b m k wb b2:Nat} {v tv:Value} {r:List Nat} {g:Int} {mm:Sh} {t:List Nd} {fl:Bool}
theorem PS.later (h:PS w1 W b m v k wb b2 r g tv mm t fl) (hb:Below W.heap.size W W'):PS w1 W' b m v k wb b2 r g tv mm t fl:=by
 obtain⟨v',h1,h2⟩:=h.tb
 exact⟨⟨v',h1.later hb,h2⟩,h.wk.later hb,h.kp.trans (Kp.of_below (S:=fun _=>False) hb) (fun _ hf=>hf.elim),h.gY.later hb,h.dx.later hb⟩
theorem PS.drew (h:PS w1 W b m v k wb b2 r g tv mm t fl):PS w1 W.drew b m v k wb b2 r g tv mm t fl:=h.later ((Below.refl _ _).drew)
theorem Jy {v':Value} (h:Wk W k b r g tv fl) (hT:Tb W b m v' t):¬ Ft b m v' k:=fI h (by decide) (by decide) hT
end
theorem aU {b:Bool} {p:Prop} (h:some undef=some (Value.bool b)):p:=by cases h
theorem Kp.mono' {S S':Nat->Prop} {w w':World} (h:Kp S w w') (hs:∀ i,S i->S' i):Kp S' w w':=⟨h.os,h.tape,h.output,h.size,fun k hk hn=>h.block k hk (fun e=>hn (hs k e))⟩
structure PI (W W':World) (b m:Nat) (v':Value) (k:Nat) (r:List Nat) (g:Int) (tv:Value) (t':List Nd) (lH:Bool):Prop where
 tb:∃ v2,Tb W' b m v2 t'/\bQ W.heap.size v' v2
 wk:Wk W' k b r g tv lH
 kp:Kp (fun i=>Ft b m v' i\/i=k) W W'
theorem PI.dB {W W':World} {b m k:Nat} {v' tv:Value} {r:List Nat} {g:Int} {t t':List Nd} {fl lH:Bool} (h:PI W W' b m v' k r g tv t' lH) (hT:Tb W b m v' t) (hW:Wk W k b r g tv fl):aC W W':=by
 refine⟨h.kp.size,fun i cs T fr hi hn=>h.kp.block i (lt_of_block hi) ?_⟩
 rintro(hf | rfl)
 ·exact fI hi hn.1 hn.2.1 hT hf
 ·have e:=hi.symm.trans hW
  injection e with e
  injection e with _ e _
  exact hn.2.2 e
theorem PS.imp {w1 W W':World} {b m k wb b2:Nat} {v tv v':Value} {r:List Nat} {g:Int} {mm:Sh} {t t':List Nd} {fl lH:Bool} (h:PS w1 W b m v k wb b2 r g tv mm t fl) (hT:Tb W b m v' t) (hl:bQ w1.heap.size v v') (hi:PI W W' b m v' k r g tv t' lH):PS w1 W' b m v k wb b2 r g tv mm t' lH:=by
 have hs:=hi.dB hT h.wk
 obtain⟨v2,h1,h2⟩:=hi.tb
 refine⟨⟨v2,h1,hl.trans h2 h.kp.size⟩,hi.wk,h.kp.trans hi.kp ?_,h.gY.dB (by decide) hs,h.dx.dB (by decide) hs⟩
 rintro i ((e | e | e) | e)
 ·exact Or.inl (Or.inl (Or.inl e))
 ·exact Or.inl (Or.inl (Or.inr (Or.inl e)))
 ·rcases hl i e with h3 | h3
  ·exact Or.inl (Or.inl (Or.inr (Or.inr h3)))
  ·exact Or.inr h3
 ·exact Or.inl (Or.inr e)
theorem qI (w:World) {b m:Nat} {v:Value} {t:List Nd} (hT:Tb w b m v t) {k:Nat} {r:List Nat} {g:Int} {tv:Value} {fl:Bool} (hW:Wk w k b r g tv fl) (hr:Ok r) (x y:Int) (hx:Fm.i64 x) (hy:Fm.i64 y) :
 Calls Tryz.prog 82 #[.pointer (some ⟨k,0,none⟩),.int .i64 x,.int .i64 y] w fun e w'=>e=.returned (.int .i64 (Fm.put t (ay 5 x y)).1)/\PI w w' b m v k r g tv (Fm.put t (ay 5 x y)).2.2 (fl || ((Fm.put t (ay 5 x y)).2.1 != 0)):=by
 have hl:=hr.1
 have KI:=show Hid _ from OT w hT x y hx hy
 have c0:=hW.tab
 have U1:=show Hid (¬ Ft b m v k) from Jy hW hT
 have HW:=show Hid _ from hW
 clear hT hW
 generalize Fm.put t (ay 5 x y)=p at *
 go_enter Tryz.func82,Tryz.ntmps82
 go_wp2_with fail
 refine Calls.mono KI.out ?_
 rintro e w1 ⟨rfl,v',hT1,hl1,hk1⟩
 have hW1:Wk w1 k b r g tv fl:=(hk1.block k (Cl.lt HW.out) U1.out).trans HW.out
 have c19:=hW1.Q5 hl
 have f19:=Cl.fr hW1 19
 have H1:=show Hid (Tb w1 b m v' p.2.2/\bQ w.heap.size v v'/\Kp (Ft b m v) w w1/\Wk w1 k b r g tv fl) from⟨hT1,hl1,hk1,hW1⟩
 have HF:=show Hid (∀ lH:Bool,PI w (w1.setCell ⟨k,19,none⟩ (.bool lH)) b m v k r g tv p.2.2 lH) from fun lH=>by
  have hk2:dY k w1 (w1.setCell ⟨k,19,none⟩ (.bool lH)):=dY.set (Kp.refl _ w1) 19 _
  have hn1:=Jy H1.out.2.2.2 H1.out.1
  refine⟨⟨v',H1.out.1.keep (fun i hi=>hk2.block i (H1.out.1.foot i hi) (fun e=>hn1 (e ▸ hi))),H1.out.2.1⟩,H1.out.2.2.2.VU hl lH,(Kp.mono' H1.out.2.2.1 (fun i hi=>Or.inl hi)).trans hk2 (fun i e=>Or.inl (Or.inr e))⟩
 clear hT1 hl1 hk1 hW1 KI HW U1 c0
 cases fl
 ·cases he:(p.2.1 != 0)
  ·go_wp2_with fail
   all_goals (first|exact aU (by assumption) | skip)
   go_ret
   exact⟨rfl,by rw[he];exact HF.out false⟩
  ·go_wp2_with fail
   all_goals (first|exact aU (by assumption) | skip)
   go_ret
   exact⟨rfl,by rw[he];exact HF.out true⟩
 ·go_wp2_with fail
  all_goals (first|exact aU (by assumption) | skip)
  all_goals go_ret
  all_goals exact⟨rfl,HF.out true⟩
abbrev SQ:=List Nat × Int
def bH (l:List SQ):Array Value:=(l.flatMap fun s=>(ak s.1 s.2).toList).toArray
def bW (v:Value) (l:List SQ) (w:World):Prop:=∃ q,v=.slice (some ⟨q,0,none⟩) l.length l.length/\Cl w q (bH l) 27
theorem bW.dB {v:Value} {l:List SQ} {w w':World} (h:bW v l w) (hs:aC w w'):bW v l w':=by
 obtain⟨q,hv,hc⟩:=h
 exact⟨q,hv,hc.dB (by decide) hs⟩
def kU (v:Value) (xs:List Int) (w:World):Prop:=∃ q,v=.slice (some ⟨q,0,none⟩) xs.length xs.length/\Cl w q (xs.map fun x=>Value.int .i64 x).toArray 3/\xs.length<=1000
theorem kU.dB {v:Value} {l:List Int} {w w':World} (h:kU v l w) (hs:aC w w'):kU v l w':=by
 obtain⟨q,hv,hc,hl⟩:=h
 exact⟨q,hv,hc.dB (by decide) hs,hl⟩
theorem kU.gQ {v:Value} {xs:List Int} {w:World} (h:kU v xs w):Bt.jH w v xs:=by
 obtain⟨q,rfl,hc,hl⟩:=h
 refine⟨_,_,rfl,by omega,fun k hk=>⟨q,0,rfl,?_⟩⟩
 rw[Nat.zero_add,hc.cell k]
 simp[hk]
theorem mV (w:World) (x:Int):kU (.slice (some ⟨w.heap.size,0,none⟩) 1 1) [x] (w.alloc (.cells #[.int .i64 x] 3)):=⟨_,rfl,(aZ w _ _).blk,by simp⟩
theorem BL (w:World) (x y:Int):kU (.slice (some ⟨w.heap.size,0,none⟩) 2 2) [x,y] (w.alloc (.cells #[.int .i64 x,.int .i64 y] 3)):=⟨_,rfl,(aZ w _ _).blk,by simp⟩
theorem RA (w:World) (r0 r1 r2 r3 r4 r5 r6 r7 r8 r9 bM bP bT bY bZ dI:Nat) (g:Int):(Instr.buildSlice 100 1 #[(0,.agg (ak [r0,r1,r2,r3,r4,r5,r6,r7,r8,r9,bM,bP,bT,bY,bZ,dI] g))]).run Tryz.prog w=.ok (.slice (some ⟨w.heap.size,0,none⟩) 1 1) (w.alloc (.cells (bH [([r0,r1,r2,r3,r4,r5,r6,r7,r8,r9,bM,bP,bT,bY,bZ,dI],g)]) 27)):=by kernel_rfl
theorem RB (w:World) (r0 r1 r2 r3 r4 r5 r6 r7 r8 r9 bM bP bT bY bZ dI s0 s1 s2 s3 s4 s5 s6 s7 s8 s9 s10 s11 s12 s13 gG s15:Nat) (g h:Int):(Instr.buildSlice 100 2 #[(0,.agg (ak [r0,r1,r2,r3,r4,r5,r6,r7,r8,r9,bM,bP,bT,bY,bZ,dI] g)),(1,.agg (ak [s0,s1,s2,s3,s4,s5,s6,s7,s8,s9,s10,s11,s12,s13,gG,s15] h))]).run Tryz.prog w=.ok (.slice (some ⟨w.heap.size,0,none⟩) 2 2) (w.alloc (.cells (bH [([r0,r1,r2,r3,r4,r5,r6,r7,r8,r9,bM,bP,bT,bY,bZ,dI],g),([s0,s1,s2,s3,s4,s5,s6,s7,s8,s9,s10,s11,s12,s13,gG,s15],h)]) 27)):=by kernel_rfl
theorem wC (w:World) {r:List Nat} (hr:r.length=16) (g:Int):(Instr.buildSlice 100 1 #[(0,.agg (ak r g))]).run Tryz.prog w=.ok (.slice (some ⟨w.heap.size,0,none⟩) 1 1) (w.alloc (.cells (bH [(r,g)]) 27)):=by
 match r,hr with
 | [r0,r1,r2,r3,r4,r5,r6,r7,r8,r9,bM,bP,bT,bY,bZ,dI],_=>exact RA ..
theorem EC (w:World) {r s:List Nat} (hr:r.length=16) (hs:s.length=16) (g h:Int):(Instr.buildSlice 100 2 #[(0,.agg (ak r g)),(1,.agg (ak s h))]).run Tryz.prog w=.ok (.slice (some ⟨w.heap.size,0,none⟩) 2 2) (w.alloc (.cells (bH [(r,g),(s,h)]) 27)):=by
 match r,hr with
 | [r0,r1,r2,r3,r4,r5,r6,r7,r8,r9,bM,bP,bT,bY,bZ,dI],_=>
  match s,hs with
  | [s0,s1,s2,s3,s4,s5,s6,s7,s8,s9,s10,s11,s12,s13,gG,s15],_=>exact RB ..
structure PE (w0 W:World) (b m:Nat) (v:Value) (k:Nat) (r:List Nat) (g:Int) (tv:Value) (t':List Nd) (lH:Bool):Prop where
 tb:∃ v',Tb W b m v' t'/\bQ w0.heap.size v v'
 wk:Wk W k b r g tv lH
 kp:Kp (fun i=>Ft b m v i\/i=k) w0 W
theorem lg {w0 w1 W:World} {b m k wb b2:Nat} {v tv:Value} {r:List Nat} {g:Int} {mm:Sh} {t t':List Nd} {lH:Bool} (h1:Below w0.heap.size w0 w1/\Tb w0 b m v t) (h:PS w1 W b m v k wb b2 r g tv mm t' lH):PE w0 W b m v k r g tv t' lH:=by
 obtain⟨v',h2,h3⟩:=h.tb
 refine⟨⟨v',h2,fun i hi => ?_⟩,h.wk,(Kp.of_below (S:=fun i=>Ft b m v i\/i=k) h1.1).trans h.kp (fun i hi=>Or.inl hi)⟩
 rcases h3 i hi with e | e
 ·exact Or.inl e
 ·exact Or.inr (Nat.le_trans h1.1.size e)
theorem LY (w0:World) {b m:Nat} {v:Value} {t:List Nd} (hT:Tb w0 b m v t) {k wb:Nat} {r:List Nat} {g:Int} {tv:Value} (hW:Wk w0 k b r g tv false) (hr:Ok r) (hwb:Cl w0 wb #[.pointer (some ⟨k,0,none⟩)] 84) (mm:Sh) {aG:List Nat} (eH:aG=Bt.aQ r mm.id) :
 Calls Tryz.prog 75 #[fC mm,.pointer (some ⟨wb,0,none⟩)] w0 fun e w'=>∃ sv,e=.returned sv/\bW sv [(aA (aG) [mm.a,mm.b],g)] w'/\PE w0 w' b m v k r g tv t false:=by
 have hrs:Ok aG:=by rw[eH];exact cZ hr mm.id
 have hrest:∀ (W:World) {fl:Bool},Wk W k b r g tv fl->Calls Tryz.prog 77 #[.pointer (some ⟨k,0,none⟩),.agg (bL mm)] W fun e w'=>e=.returned (.agg (ak aG g))/\Below W.heap.size W w':=fun W fl h=>by rw[eH];exact jy W h hr mm
 have HT:=show Hid (Tb w0 b m v t/\Wk w0 k b r g tv false/\Cl w0 wb #[.pointer (some ⟨k,0,none⟩)] 84) from⟨hT,hW,hwb⟩
 clear hT hW hwb eH
 unfold fC
 go_enter Tryz.func75,Tryz.ntmps75
 go_wp2_with (refine aI 123 _ rfl _ rfl rfl ?_)
 intro w1 b2 hn1
 have lV:=show Hid (Below w0.heap.size w0 w1/\Tb w0 b m v t) from⟨hn1.au,HT.out.1⟩
 have H1:=show Hid (PS w1 w1 b m v k wb b2 r g tv mm t false) from⟨⟨v,HT.out.1.later hn1.au,bQ.refl _ _⟩,HT.out.2.1.later hn1.au,Kp.refl _ _,HT.out.2.2.later hn1.au,hn1.blk⟩
 clear hn1 HT
 go_wp2_with fail
 refine bC (by kernel_rfl) [some 4,some 5,some 6,some 7,some 8,some 9,some 10,some 11,some 12,some 13,some 3] [[],[],[0,1],[],[3],[],[5],[4,6],[2,7],[8],[9]] (by kernel_rfl) (fun i v w=>match i with | 0=>v=.pointer (some ⟨k,0,none⟩) | 1=>v=.agg (bL mm) | 2=>v=.agg (ak aG g) | 3=>v=.pointer (some ⟨b2,2,none⟩) | 4=>v=.int .i64 mm.a | 5=>v=.pointer (some ⟨b2,3,none⟩) | 6=>v=.int .i64 mm.b | 7=>kU v [mm.a,mm.b] w | 8=>v=.agg (ak (aA (aG) [mm.a,mm.b]) (g)) | 9=>bW v [(aA (aG) [mm.a,mm.b],g)] w | 10=>bW v [(aA (aG) [mm.a,mm.b],g)] w | _=>True) (fun done W=>PS w1 W b m v k wb b2 r g tv mm t false) (aC) ?hle (H1.out.drew) (bR 11 ?steps) ?fin
 case hle=>
  intro i v w w1 hl h
  match i,h with
  | 0,h=>exact h
  | 1,h=>exact h
  | 2,h=>exact h
  | 3,h=>exact h
  | 4,h=>exact h
  | 5,h=>exact h
  | 6,h=>exact h
  | 7,h=>exact kU.dB h hl
  | 8,h=>exact h
  | 9,h=>exact bW.dB h hl
  | 10,h=>exact bW.dB h hl
  | _+11,h=>trivial
 case steps=>
  refine⟨⟨⟨⟨⟨⟨⟨⟨⟨⟨⟨trivial,?s0⟩,?s1⟩,?s2⟩,?s3⟩,?s4⟩,?s5⟩,?s6⟩,?s7⟩,?s8⟩,?s9⟩,?s10⟩
  case s0=>
   intro done a w hS h0 hd hn hO hN
   have o1:a.tmps[1]?=some (.pointer (some ⟨wb,0,none⟩)):=outs hO 1 rfl
   have hc:w.cell? ⟨wb,0,none⟩=some (.pointer (some ⟨k,0,none⟩)):=hS.gY.cell 0
   refine ah rfl (.pointer (some ⟨k,0,none⟩)) w rfl (by go_simp) ⟨_,rfl,rfl,by simpa[h0] using hS,aC.refl _⟩
  case s1=>
   intro done a w hS h0 hd hn hO hN
   have o2:a.tmps[2]?=some (.pointer (some ⟨b2,0,none⟩)):=outs hO 2 rfl
   have hl:=tQ hS.dx
   refine ah rfl (.agg (bL mm)) w rfl (by simp[execOp,Act.eval,o2,hl,Result.andThen]) ⟨_,rfl,rfl,by simpa[h0] using hS,aC.refl _⟩
  case s2=>
   intro done a w hS h0 hd hn hO hN
   obtain⟨v0,g0,r0⟩:=aj hN 0 4
   obtain rfl:v0=.pointer (some ⟨k,0,none⟩):=r0
   obtain⟨v1,g1,r1⟩:=aj hN 1 5
   obtain rfl:v1=.agg (bL mm):=r1
   refine aR rfl rfl 77 [.tmp 4,.tmp 5] #[84,123] rfl [.pointer (some ⟨k,0,none⟩),.agg (bL mm)] (by simp[Act.eval,g0,g1]) (enters_of Tryz.func77 (by kernel_rfl) rfl) (Calls.mono (hrest w hS.wk) ?_)
   rintro e w1 ⟨rfl,hb⟩
   refine⟨_,rfl,_,rfl,rfl,?_,aC.of_below hb⟩
   have h9:=hS.later hb
   simpa[h0] using h9
  case s3=>
   intro done a w hS h0 hd hn hO hN
   have o2:a.tmps[2]?=some (.pointer (some ⟨b2,0,none⟩)):=outs hO 2 rfl
   refine ah rfl (.pointer (some ⟨b2,2,none⟩)) w rfl (by go_simp) ⟨_,rfl,rfl,by simpa[h0] using hS,aC.refl _⟩
  case s4=>
   intro done a w hS h0 hd hn hO hN
   obtain⟨v3,g3,r3⟩:=aj hN 3 7
   obtain rfl:v3=.pointer (some ⟨b2,2,none⟩):=r3
   have hc:w.cell? ⟨b2,2,none⟩=some (.int .i64 mm.a):=hS.dx.cell 2
   refine ah rfl (.int .i64 mm.a) w rfl (by go_simp) ⟨_,rfl,rfl,by simpa[h0] using hS,aC.refl _⟩
  case s5=>
   intro done a w hS h0 hd hn hO hN
   have o2:a.tmps[2]?=some (.pointer (some ⟨b2,0,none⟩)):=outs hO 2 rfl
   refine ah rfl (.pointer (some ⟨b2,3,none⟩)) w rfl (by go_simp) ⟨_,rfl,rfl,by simpa[h0] using hS,aC.refl _⟩
  case s6=>
   intro done a w hS h0 hd hn hO hN
   obtain⟨v5,g5,r5⟩:=aj hN 5 9
   obtain rfl:v5=.pointer (some ⟨b2,3,none⟩):=r5
   have hc:w.cell? ⟨b2,3,none⟩=some (.int .i64 mm.b):=hS.dx.cell 3
   refine ah rfl (.int .i64 mm.b) w rfl (by go_simp) ⟨_,rfl,rfl,by simpa[h0] using hS,aC.refl _⟩
  case s7=>
   intro done a w hS h0 hd hn hO hN
   obtain⟨v4,g4,r4⟩:=aj hN 4 8
   obtain rfl:v4=.int .i64 mm.a:=r4
   obtain⟨v6,g6,r6⟩:=aj hN 6 10
   obtain rfl:v6=.int .i64 mm.b:=r6
   refine ah rfl (.slice (some ⟨w.heap.size,0,none⟩) 2 2) (w.alloc (.cells #[.int .i64 (mm.a),.int .i64 (mm.b)] 3)) rfl (by go_simp) ⟨_,rfl,BL w (mm.a) (mm.b),?_,aC.of_below (av w _)⟩
   have h9:=hS.later (av w (.cells #[.int .i64 (mm.a),.int .i64 (mm.b)] 3))
   simpa[h0] using h9
  case s8=>
   intro done a w hS h0 hd hn hO hN
   obtain⟨v2,g2,r2⟩:=aj hN 2 6
   obtain rfl:v2=.agg (ak aG g):=r2
   obtain⟨v7,g7,r7⟩:=aj hN 7 11
   refine aR rfl rfl 76 [.tmp 6,.tmp 11] #[27,44] rfl [.agg (ak (aG) (g)),v7] (by simp[Act.eval,g2,g7]) (enters_of Tryz.func76 (by kernel_rfl) rfl) (Calls.mono (iR w hrs (g) v7 [mm.a,mm.b] r7.gQ) ?_)
   rintro e w1 ⟨rfl,hb⟩
   refine⟨_,rfl,_,rfl,rfl,?_,aC.of_below hb⟩
   have h9:=hS.later hb
   simpa[h0] using h9
  case s9=>
   intro done a w hS h0 hd hn hO hN
   obtain⟨v8,g8,r8⟩:=aj hN 8 12
   obtain rfl:v8=.agg (ak (aA (aG) [mm.a,mm.b]) (g)):=r8
   have hq:=wC w (gP [mm.a,mm.b] hrs).1 (g)
   refine ah rfl (.slice (some ⟨w.heap.size,0,none⟩) 1 1) (w.alloc (.cells (bH [(aA (aG) [mm.a,mm.b],g)]) 27)) rfl (by simp[execOp,Act.eval,g8,hq,Result.andThen]) ⟨_,rfl,⟨w.heap.size,rfl,(aZ w _ _).blk⟩,?_,aC.of_below (av w _)⟩
   have h9:=hS.later (av w (.cells (bH [(aA (aG) [mm.a,mm.b],g)]) 27))
   simpa[h0] using h9
  case s10=>
   intro done a w hS h0 hd hn hO hN
   obtain⟨v9,g9,r9⟩:=aj hN 9 13
   obtain⟨qz,rfl,hc⟩:=r9
   refine ah rfl _ w rfl (by go_simp) ⟨_,rfl,⟨qz,rfl,hc⟩,by simpa[h0] using hS,aC.refl _⟩
 case fin=>
  intro vs done w hdone hS hR
  have hS2:=hS
  have ko:bW (vs 10) [(aA (aG) [mm.a,mm.b],g)] w:=hR 10 (by decide)
  obtain⟨qz,hv,hc⟩:=ko
  simp only[bg,Act.put,List.setIfInBounds_toArray,List.set_cons_zero,List.set_cons_succ]
  rw[hv]
  have HZ:=show Hid (PS w1 w b m v k wb b2 r g tv mm t false/\Cl w qz (bH [(aA (aG) [mm.a,mm.b],g)]) 27) from⟨hS2,hc⟩
  clear hS hR hdone hv hc hS2
  go_wp2_with fail
  go_ret
  exact⟨_,rfl,⟨qz,rfl,HZ.out.2⟩,lg lV.out HZ.out.1⟩
theorem LZ (w0:World) {b m:Nat} {v:Value} {t:List Nd} (hT:Tb w0 b m v t) {k wb:Nat} {r:List Nat} {g:Int} {tv:Value} (hW:Wk w0 k b r g tv false) (hr:Ok r) (hwb:Cl w0 wb #[.pointer (some ⟨k,0,none⟩)] 84) (mm:Sh) {aG:List Nat} (eH:aG=Bt.aQ r mm.id) :
 Calls Tryz.prog 79 #[fC mm,.pointer (some ⟨wb,0,none⟩)] w0 fun e w'=>∃ sv,e=.returned sv/\bW sv [(aA (aG) [mm.b],g)] w'/\PE w0 w' b m v k r g tv t false:=by
 have hrs:Ok aG:=by rw[eH];exact cZ hr mm.id
 have hrest:∀ (W:World) {fl:Bool},Wk W k b r g tv fl->Calls Tryz.prog 77 #[.pointer (some ⟨k,0,none⟩),.agg (bL mm)] W fun e w'=>e=.returned (.agg (ak aG g))/\Below W.heap.size W w':=fun W fl h=>by rw[eH];exact jy W h hr mm
 have HT:=show Hid (Tb w0 b m v t/\Wk w0 k b r g tv false/\Cl w0 wb #[.pointer (some ⟨k,0,none⟩)] 84) from⟨hT,hW,hwb⟩
 clear hT hW hwb eH
 unfold fC
 go_enter Tryz.func79,Tryz.ntmps79
 go_wp2_with (refine aI 123 _ rfl _ rfl rfl ?_)
 intro w1 b2 hn1
 have lV:=show Hid (Below w0.heap.size w0 w1/\Tb w0 b m v t) from⟨hn1.au,HT.out.1⟩
 have H1:=show Hid (PS w1 w1 b m v k wb b2 r g tv mm t false) from⟨⟨v,HT.out.1.later hn1.au,bQ.refl _ _⟩,HT.out.2.1.later hn1.au,Kp.refl _ _,HT.out.2.2.later hn1.au,hn1.blk⟩
 clear hn1 HT
 go_wp2_with fail
 refine bC (by kernel_rfl) [some 4,some 5,some 6,some 7,some 8,some 9,some 10,some 11,some 3] [[],[],[0,1],[],[3],[4],[2,5],[6],[7]] (by kernel_rfl) (fun i v w=>match i with | 0=>v=.pointer (some ⟨k,0,none⟩) | 1=>v=.agg (bL mm) | 2=>v=.agg (ak aG g) | 3=>v=.pointer (some ⟨b2,3,none⟩) | 4=>v=.int .i64 mm.b | 5=>kU v [mm.b] w | 6=>v=.agg (ak (aA (aG) [mm.b]) (g)) | 7=>bW v [(aA (aG) [mm.b],g)] w | 8=>bW v [(aA (aG) [mm.b],g)] w | _=>True) (fun done W=>PS w1 W b m v k wb b2 r g tv mm t false) (aC) ?hle (H1.out.drew) (bR 9 ?steps) ?fin
 case hle=>
  intro i v w w1 hl h
  match i,h with
  | 0,h=>exact h
  | 1,h=>exact h
  | 2,h=>exact h
  | 3,h=>exact h
  | 4,h=>exact h
  | 5,h=>exact kU.dB h hl
  | 6,h=>exact h
  | 7,h=>exact bW.dB h hl
  | 8,h=>exact bW.dB h hl
  | _+9,h=>trivial
 case steps=>
  refine⟨⟨⟨⟨⟨⟨⟨⟨⟨trivial,?s0⟩,?s1⟩,?s2⟩,?s3⟩,?s4⟩,?s5⟩,?s6⟩,?s7⟩,?s8⟩
  case s0=>
   intro done a w hS h0 hd hn hO hN
   have o1:a.tmps[1]?=some (.pointer (some ⟨wb,0,none⟩)):=outs hO 1 rfl
   have hc:w.cell? ⟨wb,0,none⟩=some (.pointer (some ⟨k,0,none⟩)):=hS.gY.cell 0
   refine ah rfl (.pointer (some ⟨k,0,none⟩)) w rfl (by go_simp) ⟨_,rfl,rfl,by simpa[h0] using hS,aC.refl _⟩
  case s1=>
   intro done a w hS h0 hd hn hO hN
   have o2:a.tmps[2]?=some (.pointer (some ⟨b2,0,none⟩)):=outs hO 2 rfl
   have hl:=tQ hS.dx
   refine ah rfl (.agg (bL mm)) w rfl (by simp[execOp,Act.eval,o2,hl,Result.andThen]) ⟨_,rfl,rfl,by simpa[h0] using hS,aC.refl _⟩
  case s2=>
   intro done a w hS h0 hd hn hO hN
   obtain⟨v0,g0,r0⟩:=aj hN 0 4
   obtain rfl:v0=.pointer (some ⟨k,0,none⟩):=r0
   obtain⟨v1,g1,r1⟩:=aj hN 1 5
   obtain rfl:v1=.agg (bL mm):=r1
   refine aR rfl rfl 77 [.tmp 4,.tmp 5] #[84,123] rfl [.pointer (some ⟨k,0,none⟩),.agg (bL mm)] (by simp[Act.eval,g0,g1]) (enters_of Tryz.func77 (by kernel_rfl) rfl) (Calls.mono (hrest w hS.wk) ?_)
   rintro e w1 ⟨rfl,hb⟩
   refine⟨_,rfl,_,rfl,rfl,?_,aC.of_below hb⟩
   have h9:=hS.later hb
   simpa[h0] using h9
  case s3=>
   intro done a w hS h0 hd hn hO hN
   have o2:a.tmps[2]?=some (.pointer (some ⟨b2,0,none⟩)):=outs hO 2 rfl
   refine ah rfl (.pointer (some ⟨b2,3,none⟩)) w rfl (by go_simp) ⟨_,rfl,rfl,by simpa[h0] using hS,aC.refl _⟩
  case s4=>
   intro done a w hS h0 hd hn hO hN
   obtain⟨v3,g3,r3⟩:=aj hN 3 7
   obtain rfl:v3=.pointer (some ⟨b2,3,none⟩):=r3
   have hc:w.cell? ⟨b2,3,none⟩=some (.int .i64 mm.b):=hS.dx.cell 3
   refine ah rfl (.int .i64 mm.b) w rfl (by go_simp) ⟨_,rfl,rfl,by simpa[h0] using hS,aC.refl _⟩
  case s5=>
   intro done a w hS h0 hd hn hO hN
   obtain⟨v4,g4,r4⟩:=aj hN 4 8
   obtain rfl:v4=.int .i64 mm.b:=r4
   refine ah rfl (.slice (some ⟨w.heap.size,0,none⟩) 1 1) (w.alloc (.cells #[.int .i64 (mm.b)] 3)) rfl (by go_simp) ⟨_,rfl,mV w (mm.b),?_,aC.of_below (av w _)⟩
   have h9:=hS.later (av w (.cells #[.int .i64 (mm.b)] 3))
   simpa[h0] using h9
  case s6=>
   intro done a w hS h0 hd hn hO hN
   obtain⟨v2,g2,r2⟩:=aj hN 2 6
   obtain rfl:v2=.agg (ak aG g):=r2
   obtain⟨v5,g5,r5⟩:=aj hN 5 9
   refine aR rfl rfl 76 [.tmp 6,.tmp 9] #[27,44] rfl [.agg (ak (aG) (g)),v5] (by simp[Act.eval,g2,g5]) (enters_of Tryz.func76 (by kernel_rfl) rfl) (Calls.mono (iR w hrs (g) v5 [mm.b] r5.gQ) ?_)
   rintro e w1 ⟨rfl,hb⟩
   refine⟨_,rfl,_,rfl,rfl,?_,aC.of_below hb⟩
   have h9:=hS.later hb
   simpa[h0] using h9
  case s7=>
   intro done a w hS h0 hd hn hO hN
   obtain⟨v6,g6,r6⟩:=aj hN 6 10
   obtain rfl:v6=.agg (ak (aA (aG) [mm.b]) (g)):=r6
   have hq:=wC w (gP [mm.b] hrs).1 (g)
   refine ah rfl (.slice (some ⟨w.heap.size,0,none⟩) 1 1) (w.alloc (.cells (bH [(aA (aG) [mm.b],g)]) 27)) rfl (by simp[execOp,Act.eval,g6,hq,Result.andThen]) ⟨_,rfl,⟨w.heap.size,rfl,(aZ w _ _).blk⟩,?_,aC.of_below (av w _)⟩
   have h9:=hS.later (av w (.cells (bH [(aA (aG) [mm.b],g)]) 27))
   simpa[h0] using h9
  case s8=>
   intro done a w hS h0 hd hn hO hN
   obtain⟨v7,g7,r7⟩:=aj hN 7 11
   obtain⟨qz,rfl,hc⟩:=r7
   refine ah rfl _ w rfl (by go_simp) ⟨_,rfl,⟨qz,rfl,hc⟩,by simpa[h0] using hS,aC.refl _⟩
 case fin=>
  intro vs done w hdone hS hR
  have hS2:=hS
  have ko:bW (vs 8) [(aA (aG) [mm.b],g)] w:=hR 8 (by decide)
  obtain⟨qz,hv,hc⟩:=ko
  simp only[bg,Act.put,List.setIfInBounds_toArray,List.set_cons_zero,List.set_cons_succ]
  rw[hv]
  have HZ:=show Hid (PS w1 w b m v k wb b2 r g tv mm t false/\Cl w qz (bH [(aA (aG) [mm.b],g)]) 27) from⟨hS2,hc⟩
  clear hS hR hdone hv hc hS2
  go_wp2_with fail
  go_ret
  exact⟨_,rfl,⟨qz,rfl,HZ.out.2⟩,lg lV.out HZ.out.1⟩
theorem L6 (w0:World) {b m:Nat} {v:Value} {t:List Nd} (hT:Tb w0 b m v t) {k wb:Nat} {r:List Nat} {g:Int} {tv:Value} (hW:Wk w0 k b r g tv false) (hr:Ok r) (hwb:Cl w0 wb #[.pointer (some ⟨k,0,none⟩)] 84) (mm:Sh) {aG:List Nat} (eH:aG=Bt.aQ r mm.id) :
 Calls Tryz.prog 85 #[fC mm,.pointer (some ⟨wb,0,none⟩)] w0 fun e w'=>∃ sv,e=.returned sv/\bW sv [(aA (r) [mm.a],mm.b)] w'/\PE w0 w' b m v k r g tv t false:=by
 have hrs:Ok aG:=by rw[eH];exact cZ hr mm.id
 have hrest:∀ (W:World) {fl:Bool},Wk W k b r g tv fl->Calls Tryz.prog 77 #[.pointer (some ⟨k,0,none⟩),.agg (bL mm)] W fun e w'=>e=.returned (.agg (ak aG g))/\Below W.heap.size W w':=fun W fl h=>by rw[eH];exact jy W h hr mm
 have HT:=show Hid (Tb w0 b m v t/\Wk w0 k b r g tv false/\Cl w0 wb #[.pointer (some ⟨k,0,none⟩)] 84) from⟨hT,hW,hwb⟩
 clear hT hW hwb eH
 unfold fC
 go_enter Tryz.func85,Tryz.ntmps85
 go_wp2_with (refine aI 123 _ rfl _ rfl rfl ?_)
 intro w1 b2 hn1
 have lV:=show Hid (Below w0.heap.size w0 w1/\Tb w0 b m v t) from⟨hn1.au,HT.out.1⟩
 have H1:=show Hid (PS w1 w1 b m v k wb b2 r g tv mm t false) from⟨⟨v,HT.out.1.later hn1.au,bQ.refl _ _⟩,HT.out.2.1.later hn1.au,Kp.refl _ _,HT.out.2.2.later hn1.au,hn1.blk⟩
 clear hn1 HT
 go_wp2_with fail
 refine bC (by kernel_rfl) [some 4,some 5,some 6,some 7,some 8,some 9,some 10,some 11,some 12,some 13,some 14,some 15,some 3] [[],[0],[1],[2],[],[4],[5],[3,6],[],[8],[7,9],[10],[11]] (by kernel_rfl) (fun i v w=>match i with | 0=>v=.pointer (some ⟨k,0,none⟩) | 1=>v=.pointer (some ⟨k,0,none⟩) | 2=>v=.pointer (some ⟨k,1,none⟩) | 3=>v=.agg (ak r g) | 4=>v=.pointer (some ⟨b2,2,none⟩) | 5=>v=.int .i64 mm.a | 6=>kU v [mm.a] w | 7=>v=.agg (ak (aA (r) [mm.a]) (g)) | 8=>v=.pointer (some ⟨b2,3,none⟩) | 9=>v=.int .i64 mm.b | 10=>v=.agg (ak (aA (r) [mm.a]) (mm.b)) | 11=>bW v [(aA (r) [mm.a],mm.b)] w | 12=>bW v [(aA (r) [mm.a],mm.b)] w | _=>True) (fun done W=>PS w1 W b m v k wb b2 r g tv mm t false) (aC) ?hle (H1.out.drew) (bR 13 ?steps) ?fin
 case hle=>
  intro i v w w1 hl h
  match i,h with
  | 0,h=>exact h
  | 1,h=>exact h
  | 2,h=>exact h
  | 3,h=>exact h
  | 4,h=>exact h
  | 5,h=>exact h
  | 6,h=>exact kU.dB h hl
  | 7,h=>exact h
  | 8,h=>exact h
  | 9,h=>exact h
  | 10,h=>exact h
  | 11,h=>exact bW.dB h hl
  | 12,h=>exact bW.dB h hl
  | _+13,h=>trivial
 case steps=>
  refine⟨⟨⟨⟨⟨⟨⟨⟨⟨⟨⟨⟨⟨trivial,?s0⟩,?s1⟩,?s2⟩,?s3⟩,?s4⟩,?s5⟩,?s6⟩,?s7⟩,?s8⟩,?s9⟩,?s10⟩,?s11⟩,?s12⟩
  case s0=>
   intro done a w hS h0 hd hn hO hN
   have o1:a.tmps[1]?=some (.pointer (some ⟨wb,0,none⟩)):=outs hO 1 rfl
   have hc:w.cell? ⟨wb,0,none⟩=some (.pointer (some ⟨k,0,none⟩)):=hS.gY.cell 0
   refine ah rfl (.pointer (some ⟨k,0,none⟩)) w rfl (by go_simp) ⟨_,rfl,rfl,by simpa[h0] using hS,aC.refl _⟩
  case s1=>
   intro done a w hS h0 hd hn hO hN
   obtain⟨v0,g0,r0⟩:=aj hN 0 4
   obtain rfl:v0=.pointer (some ⟨k,0,none⟩):=r0
   refine ah rfl (.pointer (some ⟨k,0,none⟩)) w rfl (by go_simp) ⟨_,rfl,rfl,by simpa[h0] using hS,aC.refl _⟩
  case s2=>
   intro done a w hS h0 hd hn hO hN
   obtain⟨v1,g1,r1⟩:=aj hN 1 5
   obtain rfl:v1=.pointer (some ⟨k,0,none⟩):=r1
   refine ah rfl (.pointer (some ⟨k,1,none⟩)) w rfl (by go_simp) ⟨_,rfl,rfl,by simpa[h0] using hS,aC.refl _⟩
  case s3=>
   intro done a w hS h0 hd hn hO hN
   obtain⟨v2,g2,r2⟩:=aj hN 2 6
   obtain rfl:v2=.pointer (some ⟨k,1,none⟩):=r2
   have hl:=jM w k 1 hS.wk.seq hr.1
   refine ah rfl (.agg (ak r g)) w rfl (by simp[execOp,Act.eval,g2,hl,Result.andThen]) ⟨_,rfl,rfl,by simpa[h0] using hS,aC.refl _⟩
  case s4=>
   intro done a w hS h0 hd hn hO hN
   have o2:a.tmps[2]?=some (.pointer (some ⟨b2,0,none⟩)):=outs hO 2 rfl
   refine ah rfl (.pointer (some ⟨b2,2,none⟩)) w rfl (by go_simp) ⟨_,rfl,rfl,by simpa[h0] using hS,aC.refl _⟩
  case s5=>
   intro done a w hS h0 hd hn hO hN
   obtain⟨v4,g4,r4⟩:=aj hN 4 8
   obtain rfl:v4=.pointer (some ⟨b2,2,none⟩):=r4
   have hc:w.cell? ⟨b2,2,none⟩=some (.int .i64 mm.a):=hS.dx.cell 2
   refine ah rfl (.int .i64 mm.a) w rfl (by go_simp) ⟨_,rfl,rfl,by simpa[h0] using hS,aC.refl _⟩
  case s6=>
   intro done a w hS h0 hd hn hO hN
   obtain⟨v5,g5,r5⟩:=aj hN 5 9
   obtain rfl:v5=.int .i64 mm.a:=r5
   refine ah rfl (.slice (some ⟨w.heap.size,0,none⟩) 1 1) (w.alloc (.cells #[.int .i64 (mm.a)] 3)) rfl (by go_simp) ⟨_,rfl,mV w (mm.a),?_,aC.of_below (av w _)⟩
   have h9:=hS.later (av w (.cells #[.int .i64 (mm.a)] 3))
   simpa[h0] using h9
  case s7=>
   intro done a w hS h0 hd hn hO hN
   obtain⟨v3,g3,r3⟩:=aj hN 3 7
   obtain rfl:v3=.agg (ak r g):=r3
   obtain⟨v6,g6,r6⟩:=aj hN 6 10
   refine aR rfl rfl 76 [.tmp 7,.tmp 10] #[27,44] rfl [.agg (ak (r) (g)),v6] (by simp[Act.eval,g3,g6]) (enters_of Tryz.func76 (by kernel_rfl) rfl) (Calls.mono (iR w hr (g) v6 [mm.a] r6.gQ) ?_)
   rintro e w1 ⟨rfl,hb⟩
   refine⟨_,rfl,_,rfl,rfl,?_,aC.of_below hb⟩
   have h9:=hS.later hb
   simpa[h0] using h9
  case s8=>
   intro done a w hS h0 hd hn hO hN
   have o2:a.tmps[2]?=some (.pointer (some ⟨b2,0,none⟩)):=outs hO 2 rfl
   refine ah rfl (.pointer (some ⟨b2,3,none⟩)) w rfl (by go_simp) ⟨_,rfl,rfl,by simpa[h0] using hS,aC.refl _⟩
  case s9=>
   intro done a w hS h0 hd hn hO hN
   obtain⟨v8,g8,r8⟩:=aj hN 8 12
   obtain rfl:v8=.pointer (some ⟨b2,3,none⟩):=r8
   have hc:w.cell? ⟨b2,3,none⟩=some (.int .i64 mm.b):=hS.dx.cell 3
   refine ah rfl (.int .i64 mm.b) w rfl (by go_simp) ⟨_,rfl,rfl,by simpa[h0] using hS,aC.refl _⟩
  case s10=>
   intro done a w hS h0 hd hn hO hN
   obtain⟨v7,g7,r7⟩:=aj hN 7 11
   obtain rfl:v7=.agg (ak (aA (r) [mm.a]) (g)):=r7
   obtain⟨v9,g9,r9⟩:=aj hN 9 13
   obtain rfl:v9=.int .i64 mm.b:=r9
   refine aR rfl rfl 86 [.tmp 11,.tmp 13] #[27,3] rfl [.agg (ak (aA (r) [mm.a]) (g)),.int .i64 (mm.b)] (by simp[Act.eval,g7,g9]) (enters_of Tryz.func86 (by kernel_rfl) rfl) (Calls.mono (qF w (gP [mm.a] hr).1 (g) (mm.b)) ?_)
   rintro e w1 ⟨rfl,hb⟩
   refine⟨_,rfl,_,rfl,rfl,?_,aC.of_below hb⟩
   have h9:=hS.later hb
   simpa[h0] using h9
  case s11=>
   intro done a w hS h0 hd hn hO hN
   obtain⟨v10,g10,bM⟩:=aj hN 10 14
   obtain rfl:v10=.agg (ak (aA (r) [mm.a]) (mm.b)):=bM
   have hq:=wC w (gP [mm.a] hr).1 (mm.b)
   refine ah rfl (.slice (some ⟨w.heap.size,0,none⟩) 1 1) (w.alloc (.cells (bH [(aA (r) [mm.a],mm.b)]) 27)) rfl (by simp[execOp,Act.eval,g10,hq,Result.andThen]) ⟨_,rfl,⟨w.heap.size,rfl,(aZ w _ _).blk⟩,?_,aC.of_below (av w _)⟩
   have h9:=hS.later (av w (.cells (bH [(aA (r) [mm.a],mm.b)]) 27))
   simpa[h0] using h9
  case s12=>
   intro done a w hS h0 hd hn hO hN
   obtain⟨v11,g11,bP⟩:=aj hN 11 15
   obtain⟨qz,rfl,hc⟩:=bP
   refine ah rfl _ w rfl (by go_simp) ⟨_,rfl,⟨qz,rfl,hc⟩,by simpa[h0] using hS,aC.refl _⟩
 case fin=>
  intro vs done w hdone hS hR
  have hS2:=hS
  have ko:bW (vs 12) [(aA (r) [mm.a],mm.b)] w:=hR 12 (by decide)
  obtain⟨qz,hv,hc⟩:=ko
  simp only[bg,Act.put,List.setIfInBounds_toArray,List.set_cons_zero,List.set_cons_succ]
  rw[hv]
  have HZ:=show Hid (PS w1 w b m v k wb b2 r g tv mm t false/\Cl w qz (bH [(aA (r) [mm.a],mm.b)]) 27) from⟨hS2,hc⟩
  clear hS hR hdone hv hc hS2
  go_wp2_with fail
  go_ret
  exact⟨_,rfl,⟨qz,rfl,HZ.out.2⟩,lg lV.out HZ.out.1⟩
theorem Jz (w0:World) {b m:Nat} {v:Value} {t:List Nd} (hT:Tb w0 b m v t) {k wb:Nat} {r:List Nat} {g:Int} {tv:Value} (hW:Wk w0 k b r g tv false) (hr:Ok r) (hwb:Cl w0 wb #[.pointer (some ⟨k,0,none⟩)] 84) (mm:Sh) {aG:List Nat} (eH:aG=Bt.aQ r mm.id) :
 Calls Tryz.prog 87 #[fC mm,.pointer (some ⟨wb,0,none⟩)] w0 fun e w'=>∃ sv,e=.returned sv/\bW sv [(r,mm.a),(r,mm.b)] w'/\PE w0 w' b m v k r g tv t false:=by
 have hrs:Ok aG:=by rw[eH];exact cZ hr mm.id
 have hrest:∀ (W:World) {fl:Bool},Wk W k b r g tv fl->Calls Tryz.prog 77 #[.pointer (some ⟨k,0,none⟩),.agg (bL mm)] W fun e w'=>e=.returned (.agg (ak aG g))/\Below W.heap.size W w':=fun W fl h=>by rw[eH];exact jy W h hr mm
 have HT:=show Hid (Tb w0 b m v t/\Wk w0 k b r g tv false/\Cl w0 wb #[.pointer (some ⟨k,0,none⟩)] 84) from⟨hT,hW,hwb⟩
 clear hT hW hwb eH
 unfold fC
 go_enter Tryz.func87,Tryz.ntmps87
 go_wp2_with (refine aI 123 _ rfl _ rfl rfl ?_)
 intro w1 b2 hn1
 have lV:=show Hid (Below w0.heap.size w0 w1/\Tb w0 b m v t) from⟨hn1.au,HT.out.1⟩
 have H1:=show Hid (PS w1 w1 b m v k wb b2 r g tv mm t false) from⟨⟨v,HT.out.1.later hn1.au,bQ.refl _ _⟩,HT.out.2.1.later hn1.au,Kp.refl _ _,HT.out.2.2.later hn1.au,hn1.blk⟩
 clear hn1 HT
 go_wp2_with fail
 refine bC (by kernel_rfl) [some 4,some 5,some 6,some 7,some 8,some 9,some 10,some 11,some 12,some 13,some 14,some 15,some 16,some 17,some 18,some 3] [[],[0],[1],[2],[],[4],[3,5],[],[7],[8],[9],[],[11],[10,12],[6,13],[14]] (by kernel_rfl) (fun i v w=>match i with | 0=>v=.pointer (some ⟨k,0,none⟩) | 1=>v=.pointer (some ⟨k,0,none⟩) | 2=>v=.pointer (some ⟨k,1,none⟩) | 3=>v=.agg (ak r g) | 4=>v=.pointer (some ⟨b2,2,none⟩) | 5=>v=.int .i64 mm.a | 6=>v=.agg (ak (r) (mm.a)) | 7=>v=.pointer (some ⟨k,0,none⟩) | 8=>v=.pointer (some ⟨k,0,none⟩) | 9=>v=.pointer (some ⟨k,1,none⟩) | 10=>v=.agg (ak r g) | 11=>v=.pointer (some ⟨b2,3,none⟩) | 12=>v=.int .i64 mm.b | 13=>v=.agg (ak (r) (mm.b)) | 14=>bW v [(r,mm.a),(r,mm.b)] w | 15=>bW v [(r,mm.a),(r,mm.b)] w | _=>True) (fun done W=>PS w1 W b m v k wb b2 r g tv mm t false) (aC) ?hle (H1.out.drew) (bR 16 ?steps) ?fin
 case hle=>
  intro i v w w1 hl h
  match i,h with
  | 0,h=>exact h
  | 1,h=>exact h
  | 2,h=>exact h
  | 3,h=>exact h
  | 4,h=>exact h
  | 5,h=>exact h
  | 6,h=>exact h
  | 7,h=>exact h
  | 8,h=>exact h
  | 9,h=>exact h
  | 10,h=>exact h
  | 11,h=>exact h
  | 12,h=>exact h
  | 13,h=>exact h
  | 14,h=>exact bW.dB h hl
  | 15,h=>exact bW.dB h hl
  | _+16,h=>trivial
 case steps=>
  refine⟨⟨⟨⟨⟨⟨⟨⟨⟨⟨⟨⟨⟨⟨⟨⟨trivial,?s0⟩,?s1⟩,?s2⟩,?s3⟩,?s4⟩,?s5⟩,?s6⟩,?s7⟩,?s8⟩,?s9⟩,?s10⟩,?s11⟩,?s12⟩,?s13⟩,?gG⟩,?s15⟩
  case s0=>
   intro done a w hS h0 hd hn hO hN
   have o1:a.tmps[1]?=some (.pointer (some ⟨wb,0,none⟩)):=outs hO 1 rfl
   have hc:w.cell? ⟨wb,0,none⟩=some (.pointer (some ⟨k,0,none⟩)):=hS.gY.cell 0
   refine ah rfl (.pointer (some ⟨k,0,none⟩)) w rfl (by go_simp) ⟨_,rfl,rfl,by simpa[h0] using hS,aC.refl _⟩
  case s1=>
   intro done a w hS h0 hd hn hO hN
   obtain⟨v0,g0,r0⟩:=aj hN 0 4
   obtain rfl:v0=.pointer (some ⟨k,0,none⟩):=r0
   refine ah rfl (.pointer (some ⟨k,0,none⟩)) w rfl (by go_simp) ⟨_,rfl,rfl,by simpa[h0] using hS,aC.refl _⟩
  case s2=>
   intro done a w hS h0 hd hn hO hN
   obtain⟨v1,g1,r1⟩:=aj hN 1 5
   obtain rfl:v1=.pointer (some ⟨k,0,none⟩):=r1
   refine ah rfl (.pointer (some ⟨k,1,none⟩)) w rfl (by go_simp) ⟨_,rfl,rfl,by simpa[h0] using hS,aC.refl _⟩
  case s3=>
   intro done a w hS h0 hd hn hO hN
   obtain⟨v2,g2,r2⟩:=aj hN 2 6
   obtain rfl:v2=.pointer (some ⟨k,1,none⟩):=r2
   have hl:=jM w k 1 hS.wk.seq hr.1
   refine ah rfl (.agg (ak r g)) w rfl (by simp[execOp,Act.eval,g2,hl,Result.andThen]) ⟨_,rfl,rfl,by simpa[h0] using hS,aC.refl _⟩
  case s4=>
   intro done a w hS h0 hd hn hO hN
   have o2:a.tmps[2]?=some (.pointer (some ⟨b2,0,none⟩)):=outs hO 2 rfl
   refine ah rfl (.pointer (some ⟨b2,2,none⟩)) w rfl (by go_simp) ⟨_,rfl,rfl,by simpa[h0] using hS,aC.refl _⟩
  case s5=>
   intro done a w hS h0 hd hn hO hN
   obtain⟨v4,g4,r4⟩:=aj hN 4 8
   obtain rfl:v4=.pointer (some ⟨b2,2,none⟩):=r4
   have hc:w.cell? ⟨b2,2,none⟩=some (.int .i64 mm.a):=hS.dx.cell 2
   refine ah rfl (.int .i64 mm.a) w rfl (by go_simp) ⟨_,rfl,rfl,by simpa[h0] using hS,aC.refl _⟩
  case s6=>
   intro done a w hS h0 hd hn hO hN
   obtain⟨v3,g3,r3⟩:=aj hN 3 7
   obtain rfl:v3=.agg (ak r g):=r3
   obtain⟨v5,g5,r5⟩:=aj hN 5 9
   obtain rfl:v5=.int .i64 mm.a:=r5
   refine aR rfl rfl 86 [.tmp 7,.tmp 9] #[27,3] rfl [.agg (ak (r) (g)),.int .i64 (mm.a)] (by simp[Act.eval,g3,g5]) (enters_of Tryz.func86 (by kernel_rfl) rfl) (Calls.mono (qF w hr.1 (g) (mm.a)) ?_)
   rintro e w1 ⟨rfl,hb⟩
   refine⟨_,rfl,_,rfl,rfl,?_,aC.of_below hb⟩
   have h9:=hS.later hb
   simpa[h0] using h9
  case s7=>
   intro done a w hS h0 hd hn hO hN
   have o1:a.tmps[1]?=some (.pointer (some ⟨wb,0,none⟩)):=outs hO 1 rfl
   have hc:w.cell? ⟨wb,0,none⟩=some (.pointer (some ⟨k,0,none⟩)):=hS.gY.cell 0
   refine ah rfl (.pointer (some ⟨k,0,none⟩)) w rfl (by go_simp) ⟨_,rfl,rfl,by simpa[h0] using hS,aC.refl _⟩
  case s8=>
   intro done a w hS h0 hd hn hO hN
   obtain⟨v7,g7,r7⟩:=aj hN 7 11
   obtain rfl:v7=.pointer (some ⟨k,0,none⟩):=r7
   refine ah rfl (.pointer (some ⟨k,0,none⟩)) w rfl (by go_simp) ⟨_,rfl,rfl,by simpa[h0] using hS,aC.refl _⟩
  case s9=>
   intro done a w hS h0 hd hn hO hN
   obtain⟨v8,g8,r8⟩:=aj hN 8 12
   obtain rfl:v8=.pointer (some ⟨k,0,none⟩):=r8
   refine ah rfl (.pointer (some ⟨k,1,none⟩)) w rfl (by go_simp) ⟨_,rfl,rfl,by simpa[h0] using hS,aC.refl _⟩
  case s10=>
   intro done a w hS h0 hd hn hO hN
   obtain⟨v9,g9,r9⟩:=aj hN 9 13
   obtain rfl:v9=.pointer (some ⟨k,1,none⟩):=r9
   have hl:=jM w k 1 hS.wk.seq hr.1
   refine ah rfl (.agg (ak r g)) w rfl (by simp[execOp,Act.eval,g9,hl,Result.andThen]) ⟨_,rfl,rfl,by simpa[h0] using hS,aC.refl _⟩
  case s11=>
   intro done a w hS h0 hd hn hO hN
   have o2:a.tmps[2]?=some (.pointer (some ⟨b2,0,none⟩)):=outs hO 2 rfl
   refine ah rfl (.pointer (some ⟨b2,3,none⟩)) w rfl (by go_simp) ⟨_,rfl,rfl,by simpa[h0] using hS,aC.refl _⟩
  case s12=>
   intro done a w hS h0 hd hn hO hN
   obtain⟨v11,g11,bP⟩:=aj hN 11 15
   obtain rfl:v11=.pointer (some ⟨b2,3,none⟩):=bP
   have hc:w.cell? ⟨b2,3,none⟩=some (.int .i64 mm.b):=hS.dx.cell 3
   refine ah rfl (.int .i64 mm.b) w rfl (by go_simp) ⟨_,rfl,rfl,by simpa[h0] using hS,aC.refl _⟩
  case s13=>
   intro done a w hS h0 hd hn hO hN
   obtain⟨v10,g10,bM⟩:=aj hN 10 14
   obtain rfl:v10=.agg (ak r g):=bM
   obtain⟨v12,g12,bT⟩:=aj hN 12 16
   obtain rfl:v12=.int .i64 mm.b:=bT
   refine aR rfl rfl 86 [.tmp 14,.tmp 16] #[27,3] rfl [.agg (ak (r) (g)),.int .i64 (mm.b)] (by simp[Act.eval,g10,g12]) (enters_of Tryz.func86 (by kernel_rfl) rfl) (Calls.mono (qF w hr.1 (g) (mm.b)) ?_)
   rintro e w1 ⟨rfl,hb⟩
   refine⟨_,rfl,_,rfl,rfl,?_,aC.of_below hb⟩
   have h9:=hS.later hb
   simpa[h0] using h9
  case gG=>
   intro done a w hS h0 hd hn hO hN
   obtain⟨v6,g6,r6⟩:=aj hN 6 10
   obtain rfl:v6=.agg (ak (r) (mm.a)):=r6
   obtain⟨v13,g13,bY⟩:=aj hN 13 17
   obtain rfl:v13=.agg (ak (r) (mm.b)):=bY
   have hq:=EC w hr.1 hr.1 (mm.a) (mm.b)
   refine ah rfl (.slice (some ⟨w.heap.size,0,none⟩) 2 2) (w.alloc (.cells (bH [(r,mm.a),(r,mm.b)]) 27)) rfl (by simp[execOp,Act.eval,g6,g13,hq,Result.andThen]) ⟨_,rfl,⟨w.heap.size,rfl,(aZ w _ _).blk⟩,?_,aC.of_below (av w _)⟩
   have h9:=hS.later (av w (.cells (bH [(r,mm.a),(r,mm.b)]) 27))
   simpa[h0] using h9
  case s15=>
   intro done a w hS h0 hd hn hO hN
   obtain⟨v14,g14,bZ⟩:=aj hN 14 18
   obtain⟨qz,rfl,hc⟩:=bZ
   refine ah rfl _ w rfl (by go_simp) ⟨_,rfl,⟨qz,rfl,hc⟩,by simpa[h0] using hS,aC.refl _⟩
 case fin=>
  intro vs done w hdone hS hR
  have hS2:=hS
  have ko:bW (vs 15) [(r,mm.a),(r,mm.b)] w:=hR 15 (by decide)
  obtain⟨qz,hv,hc⟩:=ko
  simp only[bg,Act.put,List.setIfInBounds_toArray,List.set_cons_zero,List.set_cons_succ]
  rw[hv]
  have HZ:=show Hid (PS w1 w b m v k wb b2 r g tv mm t false/\Cl w qz (bH [(r,mm.a),(r,mm.b)]) 27) from⟨hS2,hc⟩
  clear hS hR hdone hv hc hS2
  go_wp2_with fail
  go_ret
  exact⟨_,rfl,⟨qz,rfl,HZ.out.2⟩,lg lV.out HZ.out.1⟩
theorem JA (w0:World) {b m:Nat} {v:Value} {t:List Nd} (hT:Tb w0 b m v t) {k wb:Nat} {r:List Nat} {g:Int} {tv:Value} (hW:Wk w0 k b r g tv false) (hr:Ok r) (hwb:Cl w0 wb #[.pointer (some ⟨k,0,none⟩)] 84) (mm:Sh) {aG:List Nat} (eH:aG=Bt.aQ r mm.id) :
 Calls Tryz.prog 88 #[fC mm,.pointer (some ⟨wb,0,none⟩)] w0 fun e w'=>∃ sv,e=.returned sv/\bW sv [(aA (aG) [mm.a],g),(aA (aG) [mm.b],g)] w'/\PE w0 w' b m v k r g tv t false:=by
 have hrs:Ok aG:=by rw[eH];exact cZ hr mm.id
 have hrest:∀ (W:World) {fl:Bool},Wk W k b r g tv fl->Calls Tryz.prog 77 #[.pointer (some ⟨k,0,none⟩),.agg (bL mm)] W fun e w'=>e=.returned (.agg (ak aG g))/\Below W.heap.size W w':=fun W fl h=>by rw[eH];exact jy W h hr mm
 have HT:=show Hid (Tb w0 b m v t/\Wk w0 k b r g tv false/\Cl w0 wb #[.pointer (some ⟨k,0,none⟩)] 84) from⟨hT,hW,hwb⟩
 clear hT hW hwb eH
 unfold fC
 go_enter Tryz.func88,Tryz.ntmps88
 go_wp2_with (refine aI 123 _ rfl _ rfl rfl ?_)
 intro w1 b2 hn1
 have lV:=show Hid (Below w0.heap.size w0 w1/\Tb w0 b m v t) from⟨hn1.au,HT.out.1⟩
 have H1:=show Hid (PS w1 w1 b m v k wb b2 r g tv mm t false) from⟨⟨v,HT.out.1.later hn1.au,bQ.refl _ _⟩,HT.out.2.1.later hn1.au,Kp.refl _ _,HT.out.2.2.later hn1.au,hn1.blk⟩
 clear hn1 HT
 go_wp2_with fail
 refine bC (by kernel_rfl) [some 4,some 5,some 6,some 7,some 8,some 9,some 10,some 11,some 12,some 13,some 14,some 15,some 16,some 17,some 18,some 3] [[],[],[0,1],[],[3],[4],[2,5],[],[],[7,8],[],[10],[11],[9,12],[6,13],[14]] (by kernel_rfl) (fun i v w=>match i with | 0=>v=.pointer (some ⟨k,0,none⟩) | 1=>v=.agg (bL mm) | 2=>v=.agg (ak aG g) | 3=>v=.pointer (some ⟨b2,2,none⟩) | 4=>v=.int .i64 mm.a | 5=>kU v [mm.a] w | 6=>v=.agg (ak (aA (aG) [mm.a]) (g)) | 7=>v=.pointer (some ⟨k,0,none⟩) | 8=>v=.agg (bL mm) | 9=>v=.agg (ak aG g) | 10=>v=.pointer (some ⟨b2,3,none⟩) | 11=>v=.int .i64 mm.b | 12=>kU v [mm.b] w | 13=>v=.agg (ak (aA (aG) [mm.b]) (g)) | 14=>bW v [(aA (aG) [mm.a],g),(aA (aG) [mm.b],g)] w | 15=>bW v [(aA (aG) [mm.a],g),(aA (aG) [mm.b],g)] w | _=>True) (fun done W=>PS w1 W b m v k wb b2 r g tv mm t false) (aC) ?hle (H1.out.drew) (bR 16 ?steps) ?fin
 case hle=>
  intro i v w w1 hl h
  match i,h with
  | 0,h=>exact h
  | 1,h=>exact h
  | 2,h=>exact h
  | 3,h=>exact h
  | 4,h=>exact h
  | 5,h=>exact kU.dB h hl
  | 6,h=>exact h
  | 7,h=>exact h
  | 8,h=>exact h
  | 9,h=>exact h
  | 10,h=>exact h
  | 11,h=>exact h
  | 12,h=>exact kU.dB h hl
  | 13,h=>exact h
  | 14,h=>exact bW.dB h hl
  | 15,h=>exact bW.dB h hl
  | _+16,h=>trivial
 case steps=>
  refine⟨⟨⟨⟨⟨⟨⟨⟨⟨⟨⟨⟨⟨⟨⟨⟨trivial,?s0⟩,?s1⟩,?s2⟩,?s3⟩,?s4⟩,?s5⟩,?s6⟩,?s7⟩,?s8⟩,?s9⟩,?s10⟩,?s11⟩,?s12⟩,?s13⟩,?gG⟩,?s15⟩
  case s0=>
   intro done a w hS h0 hd hn hO hN
   have o1:a.tmps[1]?=some (.pointer (some ⟨wb,0,none⟩)):=outs hO 1 rfl
   have hc:w.cell? ⟨wb,0,none⟩=some (.pointer (some ⟨k,0,none⟩)):=hS.gY.cell 0
   refine ah rfl (.pointer (some ⟨k,0,none⟩)) w rfl (by go_simp) ⟨_,rfl,rfl,by simpa[h0] using hS,aC.refl _⟩
  case s1=>
   intro done a w hS h0 hd hn hO hN
   have o2:a.tmps[2]?=some (.pointer (some ⟨b2,0,none⟩)):=outs hO 2 rfl
   have hl:=tQ hS.dx
   refine ah rfl (.agg (bL mm)) w rfl (by simp[execOp,Act.eval,o2,hl,Result.andThen]) ⟨_,rfl,rfl,by simpa[h0] using hS,aC.refl _⟩
  case s2=>
   intro done a w hS h0 hd hn hO hN
   obtain⟨v0,g0,r0⟩:=aj hN 0 4
   obtain rfl:v0=.pointer (some ⟨k,0,none⟩):=r0
   obtain⟨v1,g1,r1⟩:=aj hN 1 5
   obtain rfl:v1=.agg (bL mm):=r1
   refine aR rfl rfl 77 [.tmp 4,.tmp 5] #[84,123] rfl [.pointer (some ⟨k,0,none⟩),.agg (bL mm)] (by simp[Act.eval,g0,g1]) (enters_of Tryz.func77 (by kernel_rfl) rfl) (Calls.mono (hrest w hS.wk) ?_)
   rintro e w1 ⟨rfl,hb⟩
   refine⟨_,rfl,_,rfl,rfl,?_,aC.of_below hb⟩
   have h9:=hS.later hb
   simpa[h0] using h9
  case s3=>
   intro done a w hS h0 hd hn hO hN
   have o2:a.tmps[2]?=some (.pointer (some ⟨b2,0,none⟩)):=outs hO 2 rfl
   refine ah rfl (.pointer (some ⟨b2,2,none⟩)) w rfl (by go_simp) ⟨_,rfl,rfl,by simpa[h0] using hS,aC.refl _⟩
  case s4=>
   intro done a w hS h0 hd hn hO hN
   obtain⟨v3,g3,r3⟩:=aj hN 3 7
   obtain rfl:v3=.pointer (some ⟨b2,2,none⟩):=r3
   have hc:w.cell? ⟨b2,2,none⟩=some (.int .i64 mm.a):=hS.dx.cell 2
   refine ah rfl (.int .i64 mm.a) w rfl (by go_simp) ⟨_,rfl,rfl,by simpa[h0] using hS,aC.refl _⟩
  case s5=>
   intro done a w hS h0 hd hn hO hN
   obtain⟨v4,g4,r4⟩:=aj hN 4 8
   obtain rfl:v4=.int .i64 mm.a:=r4
   refine ah rfl (.slice (some ⟨w.heap.size,0,none⟩) 1 1) (w.alloc (.cells #[.int .i64 (mm.a)] 3)) rfl (by go_simp) ⟨_,rfl,mV w (mm.a),?_,aC.of_below (av w _)⟩
   have h9:=hS.later (av w (.cells #[.int .i64 (mm.a)] 3))
   simpa[h0] using h9
  case s6=>
   intro done a w hS h0 hd hn hO hN
   obtain⟨v2,g2,r2⟩:=aj hN 2 6
   obtain rfl:v2=.agg (ak aG g):=r2
   obtain⟨v5,g5,r5⟩:=aj hN 5 9
   refine aR rfl rfl 76 [.tmp 6,.tmp 9] #[27,44] rfl [.agg (ak (aG) (g)),v5] (by simp[Act.eval,g2,g5]) (enters_of Tryz.func76 (by kernel_rfl) rfl) (Calls.mono (iR w hrs (g) v5 [mm.a] r5.gQ) ?_)
   rintro e w1 ⟨rfl,hb⟩
   refine⟨_,rfl,_,rfl,rfl,?_,aC.of_below hb⟩
   have h9:=hS.later hb
   simpa[h0] using h9
  case s7=>
   intro done a w hS h0 hd hn hO hN
   have o1:a.tmps[1]?=some (.pointer (some ⟨wb,0,none⟩)):=outs hO 1 rfl
   have hc:w.cell? ⟨wb,0,none⟩=some (.pointer (some ⟨k,0,none⟩)):=hS.gY.cell 0
   refine ah rfl (.pointer (some ⟨k,0,none⟩)) w rfl (by go_simp) ⟨_,rfl,rfl,by simpa[h0] using hS,aC.refl _⟩
  case s8=>
   intro done a w hS h0 hd hn hO hN
   have o2:a.tmps[2]?=some (.pointer (some ⟨b2,0,none⟩)):=outs hO 2 rfl
   have hl:=tQ hS.dx
   refine ah rfl (.agg (bL mm)) w rfl (by simp[execOp,Act.eval,o2,hl,Result.andThen]) ⟨_,rfl,rfl,by simpa[h0] using hS,aC.refl _⟩
  case s9=>
   intro done a w hS h0 hd hn hO hN
   obtain⟨v7,g7,r7⟩:=aj hN 7 11
   obtain rfl:v7=.pointer (some ⟨k,0,none⟩):=r7
   obtain⟨v8,g8,r8⟩:=aj hN 8 12
   obtain rfl:v8=.agg (bL mm):=r8
   refine aR rfl rfl 77 [.tmp 11,.tmp 12] #[84,123] rfl [.pointer (some ⟨k,0,none⟩),.agg (bL mm)] (by simp[Act.eval,g7,g8]) (enters_of Tryz.func77 (by kernel_rfl) rfl) (Calls.mono (hrest w hS.wk) ?_)
   rintro e w1 ⟨rfl,hb⟩
   refine⟨_,rfl,_,rfl,rfl,?_,aC.of_below hb⟩
   have h9:=hS.later hb
   simpa[h0] using h9
  case s10=>
   intro done a w hS h0 hd hn hO hN
   have o2:a.tmps[2]?=some (.pointer (some ⟨b2,0,none⟩)):=outs hO 2 rfl
   refine ah rfl (.pointer (some ⟨b2,3,none⟩)) w rfl (by go_simp) ⟨_,rfl,rfl,by simpa[h0] using hS,aC.refl _⟩
  case s11=>
   intro done a w hS h0 hd hn hO hN
   obtain⟨v10,g10,bM⟩:=aj hN 10 14
   obtain rfl:v10=.pointer (some ⟨b2,3,none⟩):=bM
   have hc:w.cell? ⟨b2,3,none⟩=some (.int .i64 mm.b):=hS.dx.cell 3
   refine ah rfl (.int .i64 mm.b) w rfl (by go_simp) ⟨_,rfl,rfl,by simpa[h0] using hS,aC.refl _⟩
  case s12=>
   intro done a w hS h0 hd hn hO hN
   obtain⟨v11,g11,bP⟩:=aj hN 11 15
   obtain rfl:v11=.int .i64 mm.b:=bP
   refine ah rfl (.slice (some ⟨w.heap.size,0,none⟩) 1 1) (w.alloc (.cells #[.int .i64 (mm.b)] 3)) rfl (by go_simp) ⟨_,rfl,mV w (mm.b),?_,aC.of_below (av w _)⟩
   have h9:=hS.later (av w (.cells #[.int .i64 (mm.b)] 3))
   simpa[h0] using h9
  case s13=>
   intro done a w hS h0 hd hn hO hN
   obtain⟨v9,g9,r9⟩:=aj hN 9 13
   obtain rfl:v9=.agg (ak aG g):=r9
   obtain⟨v12,g12,bT⟩:=aj hN 12 16
   refine aR rfl rfl 76 [.tmp 13,.tmp 16] #[27,44] rfl [.agg (ak (aG) (g)),v12] (by simp[Act.eval,g9,g12]) (enters_of Tryz.func76 (by kernel_rfl) rfl) (Calls.mono (iR w hrs (g) v12 [mm.b] bT.gQ) ?_)
   rintro e w1 ⟨rfl,hb⟩
   refine⟨_,rfl,_,rfl,rfl,?_,aC.of_below hb⟩
   have h9:=hS.later hb
   simpa[h0] using h9
  case gG=>
   intro done a w hS h0 hd hn hO hN
   obtain⟨v6,g6,r6⟩:=aj hN 6 10
   obtain rfl:v6=.agg (ak (aA (aG) [mm.a]) (g)):=r6
   obtain⟨v13,g13,bY⟩:=aj hN 13 17
   obtain rfl:v13=.agg (ak (aA (aG) [mm.b]) (g)):=bY
   have hq:=EC w (gP [mm.a] hrs).1 (gP [mm.b] hrs).1 (g) (g)
   refine ah rfl (.slice (some ⟨w.heap.size,0,none⟩) 2 2) (w.alloc (.cells (bH [(aA (aG) [mm.a],g),(aA (aG) [mm.b],g)]) 27)) rfl (by simp[execOp,Act.eval,g6,g13,hq,Result.andThen]) ⟨_,rfl,⟨w.heap.size,rfl,(aZ w _ _).blk⟩,?_,aC.of_below (av w _)⟩
   have h9:=hS.later (av w (.cells (bH [(aA (aG) [mm.a],g),(aA (aG) [mm.b],g)]) 27))
   simpa[h0] using h9
  case s15=>
   intro done a w hS h0 hd hn hO hN
   obtain⟨v14,g14,bZ⟩:=aj hN 14 18
   obtain⟨qz,rfl,hc⟩:=bZ
   refine ah rfl _ w rfl (by go_simp) ⟨_,rfl,⟨qz,rfl,hc⟩,by simpa[h0] using hS,aC.refl _⟩
 case fin=>
  intro vs done w hdone hS hR
  have hS2:=hS
  have ko:bW (vs 15) [(aA (aG) [mm.a],g),(aA (aG) [mm.b],g)] w:=hR 15 (by decide)
  obtain⟨qz,hv,hc⟩:=ko
  simp only[bg,Act.put,List.setIfInBounds_toArray,List.set_cons_zero,List.set_cons_succ]
  rw[hv]
  have HZ:=show Hid (PS w1 w b m v k wb b2 r g tv mm t false/\Cl w qz (bH [(aA (aG) [mm.a],g),(aA (aG) [mm.b],g)]) 27) from⟨hS2,hc⟩
  clear hS hR hdone hv hc hS2
  go_wp2_with fail
  go_ret
  exact⟨_,rfl,⟨qz,rfl,HZ.out.2⟩,lg lV.out HZ.out.1⟩
theorem JB (w0:World) {b m:Nat} {v:Value} {t:List Nd} (hT:Tb w0 b m v t) {k wb:Nat} {r:List Nat} {g:Int} {tv:Value} (hW:Wk w0 k b r g tv false) (hr:Ok r) (hwb:Cl w0 wb #[.pointer (some ⟨k,0,none⟩)] 84) (mm:Sh) {aG:List Nat} (eH:aG=Bt.aQ r mm.id) :
 Calls Tryz.prog 89 #[fC mm,.pointer (some ⟨wb,0,none⟩)] w0 fun e w'=>∃ sv,e=.returned sv/\bW sv [(r,mm.a)] w'/\PE w0 w' b m v k r g tv t false:=by
 have hrs:Ok aG:=by rw[eH];exact cZ hr mm.id
 have hrest:∀ (W:World) {fl:Bool},Wk W k b r g tv fl->Calls Tryz.prog 77 #[.pointer (some ⟨k,0,none⟩),.agg (bL mm)] W fun e w'=>e=.returned (.agg (ak aG g))/\Below W.heap.size W w':=fun W fl h=>by rw[eH];exact jy W h hr mm
 have HT:=show Hid (Tb w0 b m v t/\Wk w0 k b r g tv false/\Cl w0 wb #[.pointer (some ⟨k,0,none⟩)] 84) from⟨hT,hW,hwb⟩
 clear hT hW hwb eH
 unfold fC
 go_enter Tryz.func89,Tryz.ntmps89
 go_wp2_with (refine aI 123 _ rfl _ rfl rfl ?_)
 intro w1 b2 hn1
 have lV:=show Hid (Below w0.heap.size w0 w1/\Tb w0 b m v t) from⟨hn1.au,HT.out.1⟩
 have H1:=show Hid (PS w1 w1 b m v k wb b2 r g tv mm t false) from⟨⟨v,HT.out.1.later hn1.au,bQ.refl _ _⟩,HT.out.2.1.later hn1.au,Kp.refl _ _,HT.out.2.2.later hn1.au,hn1.blk⟩
 clear hn1 HT
 go_wp2_with fail
 refine bC (by kernel_rfl) [some 4,some 5,some 6,some 7,some 8,some 9,some 10,some 11,some 3] [[],[0],[1],[2],[],[4],[3,5],[6],[7]] (by kernel_rfl) (fun i v w=>match i with | 0=>v=.pointer (some ⟨k,0,none⟩) | 1=>v=.pointer (some ⟨k,0,none⟩) | 2=>v=.pointer (some ⟨k,1,none⟩) | 3=>v=.agg (ak r g) | 4=>v=.pointer (some ⟨b2,2,none⟩) | 5=>v=.int .i64 mm.a | 6=>v=.agg (ak (r) (mm.a)) | 7=>bW v [(r,mm.a)] w | 8=>bW v [(r,mm.a)] w | _=>True) (fun done W=>PS w1 W b m v k wb b2 r g tv mm t false) (aC) ?hle (H1.out.drew) (bR 9 ?steps) ?fin
 case hle=>
  intro i v w w1 hl h
  match i,h with
  | 0,h=>exact h
  | 1,h=>exact h
  | 2,h=>exact h
  | 3,h=>exact h
  | 4,h=>exact h
  | 5,h=>exact h
  | 6,h=>exact h
  | 7,h=>exact bW.dB h hl
  | 8,h=>exact bW.dB h hl
  | _+9,h=>trivial
 case steps=>
  refine⟨⟨⟨⟨⟨⟨⟨⟨⟨trivial,?s0⟩,?s1⟩,?s2⟩,?s3⟩,?s4⟩,?s5⟩,?s6⟩,?s7⟩,?s8⟩
  case s0=>
   intro done a w hS h0 hd hn hO hN
   have o1:a.tmps[1]?=some (.pointer (some ⟨wb,0,none⟩)):=outs hO 1 rfl
   have hc:w.cell? ⟨wb,0,none⟩=some (.pointer (some ⟨k,0,none⟩)):=hS.gY.cell 0
   refine ah rfl (.pointer (some ⟨k,0,none⟩)) w rfl (by go_simp) ⟨_,rfl,rfl,by simpa[h0] using hS,aC.refl _⟩
  case s1=>
   intro done a w hS h0 hd hn hO hN
   obtain⟨v0,g0,r0⟩:=aj hN 0 4
   obtain rfl:v0=.pointer (some ⟨k,0,none⟩):=r0
   refine ah rfl (.pointer (some ⟨k,0,none⟩)) w rfl (by go_simp) ⟨_,rfl,rfl,by simpa[h0] using hS,aC.refl _⟩
  case s2=>
   intro done a w hS h0 hd hn hO hN
   obtain⟨v1,g1,r1⟩:=aj hN 1 5
   obtain rfl:v1=.pointer (some ⟨k,0,none⟩):=r1
   refine ah rfl (.pointer (some ⟨k,1,none⟩)) w rfl (by go_simp) ⟨_,rfl,rfl,by simpa[h0] using hS,aC.refl _⟩
  case s3=>
   intro done a w hS h0 hd hn hO hN
   obtain⟨v2,g2,r2⟩:=aj hN 2 6
   obtain rfl:v2=.pointer (some ⟨k,1,none⟩):=r2
   have hl:=jM w k 1 hS.wk.seq hr.1
   refine ah rfl (.agg (ak r g)) w rfl (by simp[execOp,Act.eval,g2,hl,Result.andThen]) ⟨_,rfl,rfl,by simpa[h0] using hS,aC.refl _⟩
  case s4=>
   intro done a w hS h0 hd hn hO hN
   have o2:a.tmps[2]?=some (.pointer (some ⟨b2,0,none⟩)):=outs hO 2 rfl
   refine ah rfl (.pointer (some ⟨b2,2,none⟩)) w rfl (by go_simp) ⟨_,rfl,rfl,by simpa[h0] using hS,aC.refl _⟩
  case s5=>
   intro done a w hS h0 hd hn hO hN
   obtain⟨v4,g4,r4⟩:=aj hN 4 8
   obtain rfl:v4=.pointer (some ⟨b2,2,none⟩):=r4
   have hc:w.cell? ⟨b2,2,none⟩=some (.int .i64 mm.a):=hS.dx.cell 2
   refine ah rfl (.int .i64 mm.a) w rfl (by go_simp) ⟨_,rfl,rfl,by simpa[h0] using hS,aC.refl _⟩
  case s6=>
   intro done a w hS h0 hd hn hO hN
   obtain⟨v3,g3,r3⟩:=aj hN 3 7
   obtain rfl:v3=.agg (ak r g):=r3
   obtain⟨v5,g5,r5⟩:=aj hN 5 9
   obtain rfl:v5=.int .i64 mm.a:=r5
   refine aR rfl rfl 86 [.tmp 7,.tmp 9] #[27,3] rfl [.agg (ak (r) (g)),.int .i64 (mm.a)] (by simp[Act.eval,g3,g5]) (enters_of Tryz.func86 (by kernel_rfl) rfl) (Calls.mono (qF w hr.1 (g) (mm.a)) ?_)
   rintro e w1 ⟨rfl,hb⟩
   refine⟨_,rfl,_,rfl,rfl,?_,aC.of_below hb⟩
   have h9:=hS.later hb
   simpa[h0] using h9
  case s7=>
   intro done a w hS h0 hd hn hO hN
   obtain⟨v6,g6,r6⟩:=aj hN 6 10
   obtain rfl:v6=.agg (ak (r) (mm.a)):=r6
   have hq:=wC w hr.1 (mm.a)
   refine ah rfl (.slice (some ⟨w.heap.size,0,none⟩) 1 1) (w.alloc (.cells (bH [(r,mm.a)]) 27)) rfl (by simp[execOp,Act.eval,g6,hq,Result.andThen]) ⟨_,rfl,⟨w.heap.size,rfl,(aZ w _ _).blk⟩,?_,aC.of_below (av w _)⟩
   have h9:=hS.later (av w (.cells (bH [(r,mm.a)]) 27))
   simpa[h0] using h9
  case s8=>
   intro done a w hS h0 hd hn hO hN
   obtain⟨v7,g7,r7⟩:=aj hN 7 11
   obtain⟨qz,rfl,hc⟩:=r7
   refine ah rfl _ w rfl (by go_simp) ⟨_,rfl,⟨qz,rfl,hc⟩,by simpa[h0] using hS,aC.refl _⟩
 case fin=>
  intro vs done w hdone hS hR
  have hS2:=hS
  have ko:bW (vs 8) [(r,mm.a)] w:=hR 8 (by decide)
  obtain⟨qz,hv,hc⟩:=ko
  simp only[bg,Act.put,List.setIfInBounds_toArray,List.set_cons_zero,List.set_cons_succ]
  rw[hv]
  have HZ:=show Hid (PS w1 w b m v k wb b2 r g tv mm t false/\Cl w qz (bH [(r,mm.a)]) 27) from⟨hS2,hc⟩
  clear hS hR hdone hv hc hS2
  go_wp2_with fail
  go_ret
  exact⟨_,rfl,⟨qz,rfl,HZ.out.2⟩,lg lV.out HZ.out.1⟩
theorem JC (w0:World) {b m:Nat} {v:Value} {t:List Nd} (hT:Tb w0 b m v t) {k wb:Nat} {r:List Nat} {g:Int} {tv:Value} (hW:Wk w0 k b r g tv false) (hr:Ok r) (hwb:Cl w0 wb #[.pointer (some ⟨k,0,none⟩)] 84) (mm:Sh) {aG:List Nat} (eH:aG=Bt.aQ r mm.id) :
 Calls Tryz.prog 90 #[fC mm,.pointer (some ⟨wb,0,none⟩)] w0 fun e w'=>∃ sv,e=.returned sv/\bW sv [(r,mm.b)] w'/\PE w0 w' b m v k r g tv t false:=by
 have hrs:Ok aG:=by rw[eH];exact cZ hr mm.id
 have hrest:∀ (W:World) {fl:Bool},Wk W k b r g tv fl->Calls Tryz.prog 77 #[.pointer (some ⟨k,0,none⟩),.agg (bL mm)] W fun e w'=>e=.returned (.agg (ak aG g))/\Below W.heap.size W w':=fun W fl h=>by rw[eH];exact jy W h hr mm
 have HT:=show Hid (Tb w0 b m v t/\Wk w0 k b r g tv false/\Cl w0 wb #[.pointer (some ⟨k,0,none⟩)] 84) from⟨hT,hW,hwb⟩
 clear hT hW hwb eH
 unfold fC
 go_enter Tryz.func90,Tryz.ntmps90
 go_wp2_with (refine aI 123 _ rfl _ rfl rfl ?_)
 intro w1 b2 hn1
 have lV:=show Hid (Below w0.heap.size w0 w1/\Tb w0 b m v t) from⟨hn1.au,HT.out.1⟩
 have H1:=show Hid (PS w1 w1 b m v k wb b2 r g tv mm t false) from⟨⟨v,HT.out.1.later hn1.au,bQ.refl _ _⟩,HT.out.2.1.later hn1.au,Kp.refl _ _,HT.out.2.2.later hn1.au,hn1.blk⟩
 clear hn1 HT
 go_wp2_with fail
 refine bC (by kernel_rfl) [some 4,some 5,some 6,some 7,some 8,some 9,some 10,some 11,some 3] [[],[0],[1],[2],[],[4],[3,5],[6],[7]] (by kernel_rfl) (fun i v w=>match i with | 0=>v=.pointer (some ⟨k,0,none⟩) | 1=>v=.pointer (some ⟨k,0,none⟩) | 2=>v=.pointer (some ⟨k,1,none⟩) | 3=>v=.agg (ak r g) | 4=>v=.pointer (some ⟨b2,3,none⟩) | 5=>v=.int .i64 mm.b | 6=>v=.agg (ak (r) (mm.b)) | 7=>bW v [(r,mm.b)] w | 8=>bW v [(r,mm.b)] w | _=>True) (fun done W=>PS w1 W b m v k wb b2 r g tv mm t false) (aC) ?hle (H1.out.drew) (bR 9 ?steps) ?fin
 case hle=>
  intro i v w w1 hl h
  match i,h with
  | 0,h=>exact h
  | 1,h=>exact h
  | 2,h=>exact h
  | 3,h=>exact h
  | 4,h=>exact h
  | 5,h=>exact h
  | 6,h=>exact h
  | 7,h=>exact bW.dB h hl
  | 8,h=>exact bW.dB h hl
  | _+9,h=>trivial
 case steps=>
  refine⟨⟨⟨⟨⟨⟨⟨⟨⟨trivial,?s0⟩,?s1⟩,?s2⟩,?s3⟩,?s4⟩,?s5⟩,?s6⟩,?s7⟩,?s8⟩
  case s0=>
   intro done a w hS h0 hd hn hO hN
   have o1:a.tmps[1]?=some (.pointer (some ⟨wb,0,none⟩)):=outs hO 1 rfl
   have hc:w.cell? ⟨wb,0,none⟩=some (.pointer (some ⟨k,0,none⟩)):=hS.gY.cell 0
   refine ah rfl (.pointer (some ⟨k,0,none⟩)) w rfl (by go_simp) ⟨_,rfl,rfl,by simpa[h0] using hS,aC.refl _⟩
  case s1=>
   intro done a w hS h0 hd hn hO hN
   obtain⟨v0,g0,r0⟩:=aj hN 0 4
   obtain rfl:v0=.pointer (some ⟨k,0,none⟩):=r0
   refine ah rfl (.pointer (some ⟨k,0,none⟩)) w rfl (by go_simp) ⟨_,rfl,rfl,by simpa[h0] using hS,aC.refl _⟩
  case s2=>
   intro done a w hS h0 hd hn hO hN
   obtain⟨v1,g1,r1⟩:=aj hN 1 5
   obtain rfl:v1=.pointer (some ⟨k,0,none⟩):=r1
   refine ah rfl (.pointer (some ⟨k,1,none⟩)) w rfl (by go_simp) ⟨_,rfl,rfl,by simpa[h0] using hS,aC.refl _⟩
  case s3=>
   intro done a w hS h0 hd hn hO hN
   obtain⟨v2,g2,r2⟩:=aj hN 2 6
   obtain rfl:v2=.pointer (some ⟨k,1,none⟩):=r2
   have hl:=jM w k 1 hS.wk.seq hr.1
   refine ah rfl (.agg (ak r g)) w rfl (by simp[execOp,Act.eval,g2,hl,Result.andThen]) ⟨_,rfl,rfl,by simpa[h0] using hS,aC.refl _⟩
  case s4=>
   intro done a w hS h0 hd hn hO hN
   have o2:a.tmps[2]?=some (.pointer (some ⟨b2,0,none⟩)):=outs hO 2 rfl
   refine ah rfl (.pointer (some ⟨b2,3,none⟩)) w rfl (by go_simp) ⟨_,rfl,rfl,by simpa[h0] using hS,aC.refl _⟩
  case s5=>
   intro done a w hS h0 hd hn hO hN
   obtain⟨v4,g4,r4⟩:=aj hN 4 8
   obtain rfl:v4=.pointer (some ⟨b2,3,none⟩):=r4
   have hc:w.cell? ⟨b2,3,none⟩=some (.int .i64 mm.b):=hS.dx.cell 3
   refine ah rfl (.int .i64 mm.b) w rfl (by go_simp) ⟨_,rfl,rfl,by simpa[h0] using hS,aC.refl _⟩
  case s6=>
   intro done a w hS h0 hd hn hO hN
   obtain⟨v3,g3,r3⟩:=aj hN 3 7
   obtain rfl:v3=.agg (ak r g):=r3
   obtain⟨v5,g5,r5⟩:=aj hN 5 9
   obtain rfl:v5=.int .i64 mm.b:=r5
   refine aR rfl rfl 86 [.tmp 7,.tmp 9] #[27,3] rfl [.agg (ak (r) (g)),.int .i64 (mm.b)] (by simp[Act.eval,g3,g5]) (enters_of Tryz.func86 (by kernel_rfl) rfl) (Calls.mono (qF w hr.1 (g) (mm.b)) ?_)
   rintro e w1 ⟨rfl,hb⟩
   refine⟨_,rfl,_,rfl,rfl,?_,aC.of_below hb⟩
   have h9:=hS.later hb
   simpa[h0] using h9
  case s7=>
   intro done a w hS h0 hd hn hO hN
   obtain⟨v6,g6,r6⟩:=aj hN 6 10
   obtain rfl:v6=.agg (ak (r) (mm.b)):=r6
   have hq:=wC w hr.1 (mm.b)
   refine ah rfl (.slice (some ⟨w.heap.size,0,none⟩) 1 1) (w.alloc (.cells (bH [(r,mm.b)]) 27)) rfl (by simp[execOp,Act.eval,g6,hq,Result.andThen]) ⟨_,rfl,⟨w.heap.size,rfl,(aZ w _ _).blk⟩,?_,aC.of_below (av w _)⟩
   have h9:=hS.later (av w (.cells (bH [(r,mm.b)]) 27))
   simpa[h0] using h9
  case s8=>
   intro done a w hS h0 hd hn hO hN
   obtain⟨v7,g7,r7⟩:=aj hN 7 11
   obtain⟨qz,rfl,hc⟩:=r7
   refine ah rfl _ w rfl (by go_simp) ⟨_,rfl,⟨qz,rfl,hc⟩,by simpa[h0] using hS,aC.refl _⟩
 case fin=>
  intro vs done w hdone hS hR
  have hS2:=hS
  have ko:bW (vs 8) [(r,mm.b)] w:=hR 8 (by decide)
  obtain⟨qz,hv,hc⟩:=ko
  simp only[bg,Act.put,List.setIfInBounds_toArray,List.set_cons_zero,List.set_cons_succ]
  rw[hv]
  have HZ:=show Hid (PS w1 w b m v k wb b2 r g tv mm t false/\Cl w qz (bH [(r,mm.b)]) 27) from⟨hS2,hc⟩
  clear hS hR hdone hv hc hS2
  go_wp2_with fail
  go_ret
  exact⟨_,rfl,⟨qz,rfl,HZ.out.2⟩,lg lV.out HZ.out.1⟩
end Go.Proofs.YtkejippimkjjaaaGreatDoor
