import Derived.Test.YtkpbpecikibohaaGreatDoorZG5
set_option linter.unusedSimpArgs false
set_option maxRecDepth 100000
set_option maxHeartbeats 4000000
namespace Go.Proofs.YtkpbpecikibohaaGreatDoor
open Go.RowKit Go.Shelf Go.Maps
open Fm (Nd)
open Bt.Bs (Ok wd)
theorem ME (w0:World) {b m:Nat} {v:Value} {t:List Nd} (hT:Tb w0 b m v t) {k wb:Nat} {r:List Nat} {g:Int} {tv:Value} (hW:Wk w0 k b r g tv false) (hr:Ok r) (hwb:Cl w0 wb #[.pointer (some ⟨k,0,none⟩)] 136) (mm:Sh) (hgb:Fm.i64 mm.b) (_hgc:Fm.i64 mm.c) (hgd:Fm.i64 mm.d) {p:Int × Int × List Nd} (hp:p=Fm.put t (aH 5 mm.d mm.b)) {aY:List Nat} (eO:aY=Bt.bT r mm.id) :
 Calls Tryz.prog 138 #[fB mm,.pointer (some ⟨wb,0,none⟩)] w0 fun e w'=>∃ sv,e=.returned sv/\dV sv [(aD (aY) [p.1],mm.a),(aD (aY) [mm.b],g)] w'/\PE w0 w' b m v k r g tv p.2.2 (false || (p.2.1 != 0)):=by
 have hrs:Ok aY:=by rw[eO];exact gu hr mm.id
 have hrest:∀ (W:World) {fl:Bool},Wk W k b r g tv fl->Calls Tryz.prog 124 #[.pointer (some ⟨k,0,none⟩),.agg (bB mm)] W fun e w'=>e=.returned (.agg (au aY g))/\Below W.heap.size W w':=fun W fl h=>by rw[eO];exact jB W h hr mm
 have HT:=show Hid (Tb w0 b m v t/\Wk w0 k b r g tv false/\Cl w0 wb #[.pointer (some ⟨k,0,none⟩)] 136) from⟨hT,hW,hwb⟩
 clear hT hW hwb eO
 unfold fB
 go_enter Tryz.func138,Tryz.ntmps138
 go_wp2_with (refine aC 182 _ rfl _ rfl rfl ?_)
 intro w1 b2 hn1
 have bU:=show Hid (Below w0.heap.size w0 w1/\Tb w0 b m v t) from⟨hn1.av,HT.out.1⟩
 have H1:=show Hid (PS w1 w1 b m v k wb b2 r g tv mm t false) from⟨⟨v,HT.out.1.later hn1.av,dh.refl _ _⟩,HT.out.2.1.later hn1.av,Kp.refl _ _,HT.out.2.2.later hn1.av,hn1.blk⟩
 clear hn1 HT
 go_wp2_with fail
 refine bK (by kernel_rfl) [some 4,some 5,some 6,some 7,some 8,some 9,some 10,some 11,some 12,some 13,some 14,some 15,some 16,some 17,some 18,some 19,some 20,some 21,some 22,some 23,some 24,some 25,some 3] [[],[],[0,1],[],[],[4],[],[6],[3,5,7],[8],[2,9],[],[11],[10,12],[],[],[14,15],[],[17],[18],[16,19],[13,20],[21]] (by kernel_rfl) (fun i v w=>match i with | 0=>v=.pointer (some ⟨k,0,none⟩) | 1=>v=.agg (bB mm) | 2=>v=.agg (au aY g) | 3=>v=.pointer (some ⟨k,0,none⟩) | 4=>v=.pointer (some ⟨b2,6,none⟩) | 5=>v=.int .i64 mm.d | 6=>v=.pointer (some ⟨b2,3,none⟩) | 7=>v=.int .i64 mm.b | 8=>v=.int .i64 p.1 | 9=>kU v [p.1] w | 10=>v=.agg (au (aD (aY) [p.1]) (g)) | 11=>v=.pointer (some ⟨b2,2,none⟩) | 12=>v=.int .i64 mm.a | 13=>v=.agg (au (aD (aY) [p.1]) (mm.a)) | 14=>v=.pointer (some ⟨k,0,none⟩) | 15=>v=.agg (bB mm) | 16=>v=.agg (au aY g) | 17=>v=.pointer (some ⟨b2,3,none⟩) | 18=>v=.int .i64 mm.b | 19=>kU v [mm.b] w | 20=>v=.agg (au (aD (aY) [mm.b]) (g)) | 21=>dV v [(aD (aY) [p.1],mm.a),(aD (aY) [mm.b],g)] w | 22=>dV v [(aD (aY) [p.1],mm.a),(aD (aY) [mm.b],g)] w | _=>True) (fun done W=>PS w1 W b m v k wb b2 r g tv mm (if done 8 then p.2.2 else t) (if done 8 then (false || (p.2.1 != 0)) else false)) (aF) ?hle ((by simpa using H1.out.drew)) (dL 23 ?steps) ?fin
 case hle=>
  intro i v w w1 hl h
  match i,h with
  | 0,h=>exact h
  | 1,h=>exact h
  | 2,h=>exact h
  | 3,h=>exact h
  | 4,h=>exact h
  | 5,h=>exact h
  | 6,h=>exact h
  | 7,h=>exact h
  | 8,h=>exact h
  | 9,h=>exact kU.dM h hl
  | 10,h=>exact h
  | 11,h=>exact h
  | 12,h=>exact h
  | 13,h=>exact h
  | 14,h=>exact h
  | 15,h=>exact h
  | 16,h=>exact h
  | 17,h=>exact h
  | 18,h=>exact h
  | 19,h=>exact kU.dM h hl
  | 20,h=>exact h
  | 21,h=>exact dV.dM h hl
  | 22,h=>exact dV.dM h hl
  | _+23,h=>trivial
 case steps=>
  refine⟨⟨⟨⟨⟨⟨⟨⟨⟨⟨⟨⟨⟨⟨⟨⟨⟨⟨⟨⟨⟨⟨⟨trivial,?s0⟩,?s1⟩,?s2⟩,?s3⟩,?s4⟩,?s5⟩,?s6⟩,?s7⟩,?s8⟩,?s9⟩,?s10⟩,?s11⟩,?s12⟩,?s13⟩,?kg⟩,?s15⟩,?s16⟩,?DV⟩,?DW⟩,?U5⟩,?s20⟩,?U6⟩,?U7⟩
  case s0=>
   intro done a w hS h0 hd hn hO hN
   have o1:a.tmps[1]?=some (.pointer (some ⟨wb,0,none⟩)):=outs hO 1 rfl
   have hc:w.cell? ⟨wb,0,none⟩=some (.pointer (some ⟨k,0,none⟩)):=hS.gU.cell 0
   refine ah rfl (.pointer (some ⟨k,0,none⟩)) w rfl (by go_simp) ⟨_,rfl,rfl,by simpa[h0] using hS,aF.refl _⟩
  case s1=>
   intro done a w hS h0 hd hn hO hN
   have o2:a.tmps[2]?=some (.pointer (some ⟨b2,0,none⟩)):=outs hO 2 rfl
   have hl:=vg hS.bO
   refine ah rfl (.agg (bB mm)) w rfl (by simp[execOp,Act.eval,o2,hl,Result.andThen]) ⟨_,rfl,rfl,by simpa[h0] using hS,aF.refl _⟩
  case s2=>
   intro done a w hS h0 hd hn hO hN
   obtain⟨v0,g0,r0⟩:=aj hN 0 4
   obtain rfl:v0=.pointer (some ⟨k,0,none⟩):=r0
   obtain⟨v1,g1,r1⟩:=aj hN 1 5
   obtain rfl:v1=.agg (bB mm):=r1
   refine aW rfl rfl 124 [.tmp 4,.tmp 5] #[136,182] rfl [.pointer (some ⟨k,0,none⟩),.agg (bB mm)] (by simp[Act.eval,g0,g1]) (enters_of Tryz.func124 (by kernel_rfl) rfl) (Calls.mono (hrest w hS.wk) ?_)
   rintro e w1 ⟨rfl,hb⟩
   refine⟨_,rfl,_,rfl,rfl,?_,aF.of_below hb⟩
   have h9:=hS.later hb
   simpa[h0] using h9
  case s3=>
   intro done a w hS h0 hd hn hO hN
   have o1:a.tmps[1]?=some (.pointer (some ⟨wb,0,none⟩)):=outs hO 1 rfl
   have hc:w.cell? ⟨wb,0,none⟩=some (.pointer (some ⟨k,0,none⟩)):=hS.gU.cell 0
   refine ah rfl (.pointer (some ⟨k,0,none⟩)) w rfl (by go_simp) ⟨_,rfl,rfl,by simpa[h0] using hS,aF.refl _⟩
  case s4=>
   intro done a w hS h0 hd hn hO hN
   have o2:a.tmps[2]?=some (.pointer (some ⟨b2,0,none⟩)):=outs hO 2 rfl
   refine ah rfl (.pointer (some ⟨b2,6,none⟩)) w rfl (by go_simp) ⟨_,rfl,rfl,by simpa[h0] using hS,aF.refl _⟩
  case s5=>
   intro done a w hS h0 hd hn hO hN
   obtain⟨v4,g4,r4⟩:=aj hN 4 8
   obtain rfl:v4=.pointer (some ⟨b2,6,none⟩):=r4
   have hc:w.cell? ⟨b2,6,none⟩=some (.int .i64 mm.d):=hS.bO.cell 6
   refine ah rfl (.int .i64 mm.d) w rfl (by go_simp) ⟨_,rfl,rfl,by simpa[h0] using hS,aF.refl _⟩
  case s6=>
   intro done a w hS h0 hd hn hO hN
   have o2:a.tmps[2]?=some (.pointer (some ⟨b2,0,none⟩)):=outs hO 2 rfl
   refine ah rfl (.pointer (some ⟨b2,3,none⟩)) w rfl (by go_simp) ⟨_,rfl,rfl,by simpa[h0] using hS,aF.refl _⟩
  case s7=>
   intro done a w hS h0 hd hn hO hN
   obtain⟨v6,g6,r6⟩:=aj hN 6 10
   obtain rfl:v6=.pointer (some ⟨b2,3,none⟩):=r6
   have hc:w.cell? ⟨b2,3,none⟩=some (.int .i64 mm.b):=hS.bO.cell 3
   refine ah rfl (.int .i64 mm.b) w rfl (by go_simp) ⟨_,rfl,rfl,by simpa[h0] using hS,aF.refl _⟩
  case s8=>
   intro done a w hS h0 hd hn hO hN
   obtain⟨v3,g3,r3⟩:=aj hN 3 7
   obtain rfl:v3=.pointer (some ⟨k,0,none⟩):=r3
   obtain⟨v5,g5,r5⟩:=aj hN 5 9
   obtain rfl:v5=.int .i64 mm.d:=r5
   obtain⟨v7,g7,r7⟩:=aj hN 7 11
   obtain rfl:v7=.int .i64 mm.b:=r7
   have hS2:=hS
   simp only[h0,if_true,if_false,Bool.false_eq_true] at hS2
   obtain⟨v',kP,hl2⟩:=hS2.tb
   refine aW rfl rfl 129 [.tmp 7,.tmp 9,.tmp 11] #[136,3,3] rfl [.pointer (some ⟨k,0,none⟩),.int .i64 (mm.d),.int .i64 (mm.b)] (by simp[Act.eval,g3,g5,g7]) (enters_of Tryz.func129 (by kernel_rfl) rfl) (Calls.mono (rJ w kP hS2.wk hr (mm.d) (mm.b) hgd hgb) ?_)
   rintro e w1 ⟨rfl,hpi⟩
   rw[<- hp] at hpi |-
   refine⟨_,rfl,_,rfl,rfl,?_,hpi.dM kP hS2.wk⟩
   have h9:=hS2.imp kP hl2 hpi
   simp only[beq_self_eq_true,Bool.true_or,if_true,if_false,Bool.false_eq_true,Bool.or_false,Nat.reduceBEq,Bool.false_or]
   exact h9
  case s9=>
   intro done a w hS h0 hd hn hO hN
   obtain⟨v8,g8,r8⟩:=aj hN 8 12
   obtain rfl:v8=.int .i64 p.1:=r8
   refine ah rfl (.slice (some ⟨w.heap.size,0,none⟩) 1 1) (w.alloc (.cells #[.int .i64 (p.1)] 3)) rfl (by go_simp) ⟨_,rfl,nA w (p.1),?_,aF.of_below (ak w _)⟩
   have h9:=hS.later (ak w (.cells #[.int .i64 (p.1)] 3))
   simpa[h0] using h9
  case s10=>
   intro done a w hS h0 hd hn hO hN
   obtain⟨v2,g2,r2⟩:=aj hN 2 6
   obtain rfl:v2=.agg (au aY g):=r2
   obtain⟨v9,g9,r9⟩:=aj hN 9 13
   refine aW rfl rfl 123 [.tmp 6,.tmp 13] #[53,37] rfl [.agg (au (aY) (g)),v9] (by simp[Act.eval,g2,g9]) (enters_of Tryz.func123 (by kernel_rfl) rfl) (Calls.mono (iR w hrs (g) v9 [p.1] r9.gP) ?_)
   rintro e w1 ⟨rfl,hb⟩
   refine⟨_,rfl,_,rfl,rfl,?_,aF.of_below hb⟩
   have h9:=hS.later hb
   simpa[h0] using h9
  case s11=>
   intro done a w hS h0 hd hn hO hN
   have o2:a.tmps[2]?=some (.pointer (some ⟨b2,0,none⟩)):=outs hO 2 rfl
   refine ah rfl (.pointer (some ⟨b2,2,none⟩)) w rfl (by go_simp) ⟨_,rfl,rfl,by simpa[h0] using hS,aF.refl _⟩
  case s12=>
   intro done a w hS h0 hd hn hO hN
   obtain⟨v11,g11,bW⟩:=aj hN 11 15
   obtain rfl:v11=.pointer (some ⟨b2,2,none⟩):=bW
   have hc:w.cell? ⟨b2,2,none⟩=some (.int .i64 mm.a):=hS.bO.cell 2
   refine ah rfl (.int .i64 mm.a) w rfl (by go_simp) ⟨_,rfl,rfl,by simpa[h0] using hS,aF.refl _⟩
  case s13=>
   intro done a w hS h0 hd hn hO hN
   obtain⟨v10,g10,bS⟩:=aj hN 10 14
   obtain rfl:v10=.agg (au (aD (aY) [p.1]) (g)):=bS
   obtain⟨v12,g12,dB⟩:=aj hN 12 16
   obtain rfl:v12=.int .i64 mm.a:=dB
   refine aW rfl rfl 133 [.tmp 14,.tmp 16] #[53,3] rfl [.agg (au (aD (aY) [p.1]) (g)),.int .i64 (mm.a)] (by simp[Act.eval,g10,g12]) (enters_of Tryz.func133 (by kernel_rfl) rfl) (Calls.mono (rE w (gK [p.1] hrs).1 (g) (mm.a)) ?_)
   rintro e w1 ⟨rfl,hb⟩
   refine⟨_,rfl,_,rfl,rfl,?_,aF.of_below hb⟩
   have h9:=hS.later hb
   simpa[h0] using h9
  case kg=>
   intro done a w hS h0 hd hn hO hN
   have o1:a.tmps[1]?=some (.pointer (some ⟨wb,0,none⟩)):=outs hO 1 rfl
   have hc:w.cell? ⟨wb,0,none⟩=some (.pointer (some ⟨k,0,none⟩)):=hS.gU.cell 0
   refine ah rfl (.pointer (some ⟨k,0,none⟩)) w rfl (by go_simp) ⟨_,rfl,rfl,by simpa[h0] using hS,aF.refl _⟩
  case s15=>
   intro done a w hS h0 hd hn hO hN
   have o2:a.tmps[2]?=some (.pointer (some ⟨b2,0,none⟩)):=outs hO 2 rfl
   have hl:=vg hS.bO
   refine ah rfl (.agg (bB mm)) w rfl (by simp[execOp,Act.eval,o2,hl,Result.andThen]) ⟨_,rfl,rfl,by simpa[h0] using hS,aF.refl _⟩
  case s16=>
   intro done a w hS h0 hd hn hO hN
   obtain⟨v14,g14,dF⟩:=aj hN 14 18
   obtain rfl:v14=.pointer (some ⟨k,0,none⟩):=dF
   obtain⟨v15,g15,dP⟩:=aj hN 15 19
   obtain rfl:v15=.agg (bB mm):=dP
   refine aW rfl rfl 124 [.tmp 18,.tmp 19] #[136,182] rfl [.pointer (some ⟨k,0,none⟩),.agg (bB mm)] (by simp[Act.eval,g14,g15]) (enters_of Tryz.func124 (by kernel_rfl) rfl) (Calls.mono (hrest w hS.wk) ?_)
   rintro e w1 ⟨rfl,hb⟩
   refine⟨_,rfl,_,rfl,rfl,?_,aF.of_below hb⟩
   have h9:=hS.later hb
   simpa[h0] using h9
  case DV=>
   intro done a w hS h0 hd hn hO hN
   have o2:a.tmps[2]?=some (.pointer (some ⟨b2,0,none⟩)):=outs hO 2 rfl
   refine ah rfl (.pointer (some ⟨b2,3,none⟩)) w rfl (by go_simp) ⟨_,rfl,rfl,by simpa[h0] using hS,aF.refl _⟩
  case DW=>
   intro done a w hS h0 hd hn hO hN
   obtain⟨v17,g17,Ma⟩:=aj hN 17 21
   obtain rfl:v17=.pointer (some ⟨b2,3,none⟩):=Ma
   have hc:w.cell? ⟨b2,3,none⟩=some (.int .i64 mm.b):=hS.bO.cell 3
   refine ah rfl (.int .i64 mm.b) w rfl (by go_simp) ⟨_,rfl,rfl,by simpa[h0] using hS,aF.refl _⟩
  case U5=>
   intro done a w hS h0 hd hn hO hN
   obtain⟨v18,g18,U8⟩:=aj hN 18 22
   obtain rfl:v18=.int .i64 mm.b:=U8
   refine ah rfl (.slice (some ⟨w.heap.size,0,none⟩) 1 1) (w.alloc (.cells #[.int .i64 (mm.b)] 3)) rfl (by go_simp) ⟨_,rfl,nA w (mm.b),?_,aF.of_below (ak w _)⟩
   have h9:=hS.later (ak w (.cells #[.int .i64 (mm.b)] 3))
   simpa[h0] using h9
  case s20=>
   intro done a w hS h0 hd hn hO hN
   obtain⟨v16,g16,r16⟩:=aj hN 16 20
   obtain rfl:v16=.agg (au aY g):=r16
   obtain⟨v19,g19,U9⟩:=aj hN 19 23
   refine aW rfl rfl 123 [.tmp 20,.tmp 23] #[53,37] rfl [.agg (au (aY) (g)),v19] (by simp[Act.eval,g16,g19]) (enters_of Tryz.func123 (by kernel_rfl) rfl) (Calls.mono (iR w hrs (g) v19 [mm.b] U9.gP) ?_)
   rintro e w1 ⟨rfl,hb⟩
   refine⟨_,rfl,_,rfl,rfl,?_,aF.of_below hb⟩
   have h9:=hS.later hb
   simpa[h0] using h9
  case U6=>
   intro done a w hS h0 hd hn hO hN
   obtain⟨v13,g13,dD⟩:=aj hN 13 17
   obtain rfl:v13=.agg (au (aD (aY) [p.1]) (mm.a)):=dD
   obtain⟨v20,g20,Va⟩:=aj hN 20 24
   obtain rfl:v20=.agg (au (aD (aY) [mm.b]) (g)):=Va
   have hq:=Vu w (gK [p.1] hrs).1 (gK [mm.b] hrs).1 (mm.a) (g)
   refine ah rfl (.slice (some ⟨w.heap.size,0,none⟩) 2 2) (w.alloc (.cells (bN [(aD (aY) [p.1],mm.a),(aD (aY) [mm.b],g)]) 53)) rfl (by simp[execOp,Act.eval,g13,g20,hq,Result.andThen]) ⟨_,rfl,⟨w.heap.size,rfl,(bE w _ _).blk⟩,?_,aF.of_below (ak w _)⟩
   have h9:=hS.later (ak w (.cells (bN [(aD (aY) [p.1],mm.a),(aD (aY) [mm.b],g)]) 53))
   simpa[h0] using h9
  case U7=>
   intro done a w hS h0 hd hn hO hN
   obtain⟨v21,g21,Vb⟩:=aj hN 21 25
   obtain⟨qz,rfl,hc⟩:=Vb
   refine ah rfl _ w rfl (by go_simp) ⟨_,rfl,⟨qz,rfl,hc⟩,by simpa[h0] using hS,aF.refl _⟩
 case fin=>
  intro vs done w hdone hS hR
  have hS2:=hS
  simp only[(hdone 8 (by decide)),if_true] at hS2
  have ou:dV (vs 22) [(aD (aY) [p.1],mm.a),(aD (aY) [mm.b],g)] w:=hR 22 (by decide)
  obtain⟨qz,hv,hc⟩:=ou
  simp only[bn,Act.put,List.setIfInBounds_toArray,List.set_cons_zero,List.set_cons_succ]
  rw[hv]
  have HZ:=show Hid (PS w1 w b m v k wb b2 r g tv mm p.2.2 (false || (p.2.1 != 0))/\Cl w qz (bN [(aD (aY) [p.1],mm.a),(aD (aY) [mm.b],g)]) 53) from⟨hS2,hc⟩
  clear hS hR hdone hv hc hS2
  go_wp2_with fail
  go_ret
  exact⟨_,rfl,⟨qz,rfl,HZ.out.2⟩,kY bU.out HZ.out.1⟩
theorem O4 (w0:World) {b m:Nat} {v:Value} {t:List Nd} (hT:Tb w0 b m v t) {k wb:Nat} {r:List Nat} {g:Int} {tv:Value} (hW:Wk w0 k b r g tv false) (hr:Ok r) (hwb:Cl w0 wb #[.pointer (some ⟨k,0,none⟩)] 136) (mm:Sh) (hgb:Fm.i64 mm.b) (hgc:Fm.i64 mm.c) (hgd:Fm.i64 mm.d) {p q:Int × Int × List Nd} (hp:p=Fm.put t (aH 5 mm.d mm.b)) (hq:q=Fm.put p.2.2 (aH 5 mm.c p.1)) {aY:List Nat} (eO:aY=Bt.bT r mm.id) :
 Calls Tryz.prog 128 #[fB mm,.pointer (some ⟨wb,0,none⟩)] w0 fun e w'=>∃ sv,e=.returned sv/\dV sv [(aD (aY) [q.1],g)] w'/\PE w0 w' b m v k r g tv q.2.2 ((false || (p.2.1 != 0)) || (q.2.1 != 0)):=by
 have hrs:Ok aY:=by rw[eO];exact gu hr mm.id
 have hrest:∀ (W:World) {fl:Bool},Wk W k b r g tv fl->Calls Tryz.prog 124 #[.pointer (some ⟨k,0,none⟩),.agg (bB mm)] W fun e w'=>e=.returned (.agg (au aY g))/\Below W.heap.size W w':=fun W fl h=>by rw[eO];exact jB W h hr mm
 have hgp:Fm.i64 p.1:=by
  have h:=Fm.Tf hT.ok (aH 5 mm.d mm.b)
  rw[<- hp] at h
  exact Fm.eT h.1 h.2
 have HT:=show Hid (Tb w0 b m v t/\Wk w0 k b r g tv false/\Cl w0 wb #[.pointer (some ⟨k,0,none⟩)] 136) from⟨hT,hW,hwb⟩
 clear hT hW hwb eO
 unfold fB
 go_enter Tryz.func128,Tryz.ntmps128
 go_wp2_with (refine aC 182 _ rfl _ rfl rfl ?_)
 intro w1 b2 hn1
 have bU:=show Hid (Below w0.heap.size w0 w1/\Tb w0 b m v t) from⟨hn1.av,HT.out.1⟩
 have H1:=show Hid (PS w1 w1 b m v k wb b2 r g tv mm t false) from⟨⟨v,HT.out.1.later hn1.av,dh.refl _ _⟩,HT.out.2.1.later hn1.av,Kp.refl _ _,HT.out.2.2.later hn1.av,hn1.blk⟩
 clear hn1 HT
 go_wp2_with fail
 refine bK (by kernel_rfl) [some 4,some 5,some 6,some 7,some 8,some 9,some 10,some 11,some 12,some 13,some 14,some 15,some 16,some 17,some 18,some 19,some 3] [[],[],[0,1],[],[],[4],[],[],[7],[],[9],[6,8,10],[3,5,11],[12],[2,13],[14],[15]] (by kernel_rfl) (fun i v w=>match i with | 0=>v=.pointer (some ⟨k,0,none⟩) | 1=>v=.agg (bB mm) | 2=>v=.agg (au aY g) | 3=>v=.pointer (some ⟨k,0,none⟩) | 4=>v=.pointer (some ⟨b2,5,none⟩) | 5=>v=.int .i64 mm.c | 6=>v=.pointer (some ⟨k,0,none⟩) | 7=>v=.pointer (some ⟨b2,6,none⟩) | 8=>v=.int .i64 mm.d | 9=>v=.pointer (some ⟨b2,3,none⟩) | 10=>v=.int .i64 mm.b | 11=>v=.int .i64 p.1 | 12=>v=.int .i64 q.1 | 13=>kU v [q.1] w | 14=>v=.agg (au (aD (aY) [q.1]) (g)) | 15=>dV v [(aD (aY) [q.1],g)] w | 16=>dV v [(aD (aY) [q.1],g)] w | _=>True) (fun done W=>PS w1 W b m v k wb b2 r g tv mm (if done 12 then q.2.2 else (if done 11 then p.2.2 else t)) (if done 12 then ((false || (p.2.1 != 0)) || (q.2.1 != 0)) else (if done 11 then (false || (p.2.1 != 0)) else false))) (aF) ?hle ((by simpa using H1.out.drew)) (dL 17 ?steps) ?fin
 case hle=>
  intro i v w w1 hl h
  match i,h with
  | 0,h=>exact h
  | 1,h=>exact h
  | 2,h=>exact h
  | 3,h=>exact h
  | 4,h=>exact h
  | 5,h=>exact h
  | 6,h=>exact h
  | 7,h=>exact h
  | 8,h=>exact h
  | 9,h=>exact h
  | 10,h=>exact h
  | 11,h=>exact h
  | 12,h=>exact h
  | 13,h=>exact kU.dM h hl
  | 14,h=>exact h
  | 15,h=>exact dV.dM h hl
  | 16,h=>exact dV.dM h hl
  | _+17,h=>trivial
 case steps=>
  refine⟨⟨⟨⟨⟨⟨⟨⟨⟨⟨⟨⟨⟨⟨⟨⟨⟨trivial,?s0⟩,?s1⟩,?s2⟩,?s3⟩,?s4⟩,?s5⟩,?s6⟩,?s7⟩,?s8⟩,?s9⟩,?s10⟩,?s11⟩,?s12⟩,?s13⟩,?kg⟩,?s15⟩,?s16⟩
  case s0=>
   intro done a w hS h0 hd hn hO hN
   have o1:a.tmps[1]?=some (.pointer (some ⟨wb,0,none⟩)):=outs hO 1 rfl
   have hc:w.cell? ⟨wb,0,none⟩=some (.pointer (some ⟨k,0,none⟩)):=hS.gU.cell 0
   refine ah rfl (.pointer (some ⟨k,0,none⟩)) w rfl (by go_simp) ⟨_,rfl,rfl,by simpa[h0] using hS,aF.refl _⟩
  case s1=>
   intro done a w hS h0 hd hn hO hN
   have o2:a.tmps[2]?=some (.pointer (some ⟨b2,0,none⟩)):=outs hO 2 rfl
   have hl:=vg hS.bO
   refine ah rfl (.agg (bB mm)) w rfl (by simp[execOp,Act.eval,o2,hl,Result.andThen]) ⟨_,rfl,rfl,by simpa[h0] using hS,aF.refl _⟩
  case s2=>
   intro done a w hS h0 hd hn hO hN
   obtain⟨v0,g0,r0⟩:=aj hN 0 4
   obtain rfl:v0=.pointer (some ⟨k,0,none⟩):=r0
   obtain⟨v1,g1,r1⟩:=aj hN 1 5
   obtain rfl:v1=.agg (bB mm):=r1
   refine aW rfl rfl 124 [.tmp 4,.tmp 5] #[136,182] rfl [.pointer (some ⟨k,0,none⟩),.agg (bB mm)] (by simp[Act.eval,g0,g1]) (enters_of Tryz.func124 (by kernel_rfl) rfl) (Calls.mono (hrest w hS.wk) ?_)
   rintro e w1 ⟨rfl,hb⟩
   refine⟨_,rfl,_,rfl,rfl,?_,aF.of_below hb⟩
   have h9:=hS.later hb
   simpa[h0] using h9
  case s3=>
   intro done a w hS h0 hd hn hO hN
   have o1:a.tmps[1]?=some (.pointer (some ⟨wb,0,none⟩)):=outs hO 1 rfl
   have hc:w.cell? ⟨wb,0,none⟩=some (.pointer (some ⟨k,0,none⟩)):=hS.gU.cell 0
   refine ah rfl (.pointer (some ⟨k,0,none⟩)) w rfl (by go_simp) ⟨_,rfl,rfl,by simpa[h0] using hS,aF.refl _⟩
  case s4=>
   intro done a w hS h0 hd hn hO hN
   have o2:a.tmps[2]?=some (.pointer (some ⟨b2,0,none⟩)):=outs hO 2 rfl
   refine ah rfl (.pointer (some ⟨b2,5,none⟩)) w rfl (by go_simp) ⟨_,rfl,rfl,by simpa[h0] using hS,aF.refl _⟩
  case s5=>
   intro done a w hS h0 hd hn hO hN
   obtain⟨v4,g4,r4⟩:=aj hN 4 8
   obtain rfl:v4=.pointer (some ⟨b2,5,none⟩):=r4
   have hc:w.cell? ⟨b2,5,none⟩=some (.int .i64 mm.c):=hS.bO.cell 5
   refine ah rfl (.int .i64 mm.c) w rfl (by go_simp) ⟨_,rfl,rfl,by simpa[h0] using hS,aF.refl _⟩
  case s6=>
   intro done a w hS h0 hd hn hO hN
   have o1:a.tmps[1]?=some (.pointer (some ⟨wb,0,none⟩)):=outs hO 1 rfl
   have hc:w.cell? ⟨wb,0,none⟩=some (.pointer (some ⟨k,0,none⟩)):=hS.gU.cell 0
   refine ah rfl (.pointer (some ⟨k,0,none⟩)) w rfl (by go_simp) ⟨_,rfl,rfl,by simpa[h0] using hS,aF.refl _⟩
  case s7=>
   intro done a w hS h0 hd hn hO hN
   have o2:a.tmps[2]?=some (.pointer (some ⟨b2,0,none⟩)):=outs hO 2 rfl
   refine ah rfl (.pointer (some ⟨b2,6,none⟩)) w rfl (by go_simp) ⟨_,rfl,rfl,by simpa[h0] using hS,aF.refl _⟩
  case s8=>
   intro done a w hS h0 hd hn hO hN
   obtain⟨v7,g7,r7⟩:=aj hN 7 11
   obtain rfl:v7=.pointer (some ⟨b2,6,none⟩):=r7
   have hc:w.cell? ⟨b2,6,none⟩=some (.int .i64 mm.d):=hS.bO.cell 6
   refine ah rfl (.int .i64 mm.d) w rfl (by go_simp) ⟨_,rfl,rfl,by simpa[h0] using hS,aF.refl _⟩
  case s9=>
   intro done a w hS h0 hd hn hO hN
   have o2:a.tmps[2]?=some (.pointer (some ⟨b2,0,none⟩)):=outs hO 2 rfl
   refine ah rfl (.pointer (some ⟨b2,3,none⟩)) w rfl (by go_simp) ⟨_,rfl,rfl,by simpa[h0] using hS,aF.refl _⟩
  case s10=>
   intro done a w hS h0 hd hn hO hN
   obtain⟨v9,g9,r9⟩:=aj hN 9 13
   obtain rfl:v9=.pointer (some ⟨b2,3,none⟩):=r9
   have hc:w.cell? ⟨b2,3,none⟩=some (.int .i64 mm.b):=hS.bO.cell 3
   refine ah rfl (.int .i64 mm.b) w rfl (by go_simp) ⟨_,rfl,rfl,by simpa[h0] using hS,aF.refl _⟩
  case s11=>
   intro done a w hS h0 hd hn hO hN
   obtain⟨v6,g6,r6⟩:=aj hN 6 10
   obtain rfl:v6=.pointer (some ⟨k,0,none⟩):=r6
   obtain⟨v8,g8,r8⟩:=aj hN 8 12
   obtain rfl:v8=.int .i64 mm.d:=r8
   obtain⟨v10,g10,bS⟩:=aj hN 10 14
   obtain rfl:v10=.int .i64 mm.b:=bS
   have hS2:=hS
   simp only[h0,(hn 12 (by decide)),if_true,if_false,Bool.false_eq_true] at hS2
   obtain⟨v',kP,hl2⟩:=hS2.tb
   refine aW rfl rfl 129 [.tmp 10,.tmp 12,.tmp 14] #[136,3,3] rfl [.pointer (some ⟨k,0,none⟩),.int .i64 (mm.d),.int .i64 (mm.b)] (by simp[Act.eval,g6,g8,g10]) (enters_of Tryz.func129 (by kernel_rfl) rfl) (Calls.mono (rJ w kP hS2.wk hr (mm.d) (mm.b) hgd hgb) ?_)
   rintro e w1 ⟨rfl,hpi⟩
   rw[<- hp] at hpi |-
   refine⟨_,rfl,_,rfl,rfl,?_,hpi.dM kP hS2.wk⟩
   have h9:=hS2.imp kP hl2 hpi
   simp only[(hn 12 (by decide)),beq_self_eq_true,Bool.true_or,if_true,if_false,Bool.false_eq_true,Bool.or_false,Nat.reduceBEq,Bool.false_or]
   exact h9
  case s12=>
   intro done a w hS h0 hd hn hO hN
   obtain⟨v3,g3,r3⟩:=aj hN 3 7
   obtain rfl:v3=.pointer (some ⟨k,0,none⟩):=r3
   obtain⟨v5,g5,r5⟩:=aj hN 5 9
   obtain rfl:v5=.int .i64 mm.c:=r5
   obtain⟨v11,g11,bW⟩:=aj hN 11 15
   obtain rfl:v11=.int .i64 p.1:=bW
   have hS2:=hS
   simp only[h0,(hd 11 (by decide)),if_true,if_false,Bool.false_eq_true] at hS2
   obtain⟨v',kP,hl2⟩:=hS2.tb
   refine aW rfl rfl 129 [.tmp 7,.tmp 9,.tmp 15] #[136,3,3] rfl [.pointer (some ⟨k,0,none⟩),.int .i64 (mm.c),.int .i64 (p.1)] (by simp[Act.eval,g3,g5,g11]) (enters_of Tryz.func129 (by kernel_rfl) rfl) (Calls.mono (rJ w kP hS2.wk hr (mm.c) (p.1) hgc hgp) ?_)
   rintro e w1 ⟨rfl,hpi⟩
   rw[<- hq] at hpi |-
   refine⟨_,rfl,_,rfl,rfl,?_,hpi.dM kP hS2.wk⟩
   have h9:=hS2.imp kP hl2 hpi
   simp only[beq_self_eq_true,Bool.true_or,if_true,if_false,Bool.false_eq_true,Bool.or_false,Nat.reduceBEq,Bool.false_or]
   exact h9
  case s13=>
   intro done a w hS h0 hd hn hO hN
   obtain⟨v12,g12,dB⟩:=aj hN 12 16
   obtain rfl:v12=.int .i64 q.1:=dB
   refine ah rfl (.slice (some ⟨w.heap.size,0,none⟩) 1 1) (w.alloc (.cells #[.int .i64 (q.1)] 3)) rfl (by go_simp) ⟨_,rfl,nA w (q.1),?_,aF.of_below (ak w _)⟩
   have h9:=hS.later (ak w (.cells #[.int .i64 (q.1)] 3))
   simpa[h0] using h9
  case kg=>
   intro done a w hS h0 hd hn hO hN
   obtain⟨v2,g2,r2⟩:=aj hN 2 6
   obtain rfl:v2=.agg (au aY g):=r2
   obtain⟨v13,g13,dD⟩:=aj hN 13 17
   refine aW rfl rfl 123 [.tmp 6,.tmp 17] #[53,37] rfl [.agg (au (aY) (g)),v13] (by simp[Act.eval,g2,g13]) (enters_of Tryz.func123 (by kernel_rfl) rfl) (Calls.mono (iR w hrs (g) v13 [q.1] dD.gP) ?_)
   rintro e w1 ⟨rfl,hb⟩
   refine⟨_,rfl,_,rfl,rfl,?_,aF.of_below hb⟩
   have h9:=hS.later hb
   simpa[h0] using h9
  case s15=>
   intro done a w hS h0 hd hn hO hN
   obtain⟨v14,g14,dF⟩:=aj hN 14 18
   obtain rfl:v14=.agg (au (aD (aY) [q.1]) (g)):=dF
   have hq:=Br w (gK [q.1] hrs).1 (g)
   refine ah rfl (.slice (some ⟨w.heap.size,0,none⟩) 1 1) (w.alloc (.cells (bN [(aD (aY) [q.1],g)]) 53)) rfl (by simp[execOp,Act.eval,g14,hq,Result.andThen]) ⟨_,rfl,⟨w.heap.size,rfl,(bE w _ _).blk⟩,?_,aF.of_below (ak w _)⟩
   have h9:=hS.later (ak w (.cells (bN [(aD (aY) [q.1],g)]) 53))
   simpa[h0] using h9
  case s16=>
   intro done a w hS h0 hd hn hO hN
   obtain⟨v15,g15,dP⟩:=aj hN 15 19
   obtain⟨qz,rfl,hc⟩:=dP
   refine ah rfl _ w rfl (by go_simp) ⟨_,rfl,⟨qz,rfl,hc⟩,by simpa[h0] using hS,aF.refl _⟩
 case fin=>
  intro vs done w hdone hS hR
  have hS2:=hS
  simp only[(hdone 11 (by decide)),(hdone 12 (by decide)),if_true] at hS2
  have ou:dV (vs 16) [(aD (aY) [q.1],g)] w:=hR 16 (by decide)
  obtain⟨qz,hv,hc⟩:=ou
  simp only[bn,Act.put,List.setIfInBounds_toArray,List.set_cons_zero,List.set_cons_succ]
  rw[hv]
  have HZ:=show Hid (PS w1 w b m v k wb b2 r g tv mm q.2.2 ((false || (p.2.1 != 0)) || (q.2.1 != 0))/\Cl w qz (bN [(aD (aY) [q.1],g)]) 53) from⟨hS2,hc⟩
  clear hS hR hdone hv hc hS2
  go_wp2_with fail
  go_ret
  exact⟨_,rfl,⟨qz,rfl,HZ.out.2⟩,kY bU.out HZ.out.1⟩
theorem O5 (w0:World) {b m:Nat} {v:Value} {t:List Nd} (hT:Tb w0 b m v t) {k wb:Nat} {r:List Nat} {g:Int} {tv:Value} (hW:Wk w0 k b r g tv false) (hr:Ok r) (hwb:Cl w0 wb #[.pointer (some ⟨k,0,none⟩)] 136) (mm:Sh) (hgb:Fm.i64 mm.b) (hgc:Fm.i64 mm.c) (hgd:Fm.i64 mm.d) {p q:Int × Int × List Nd} (hp:p=Fm.put t (aH 5 mm.c mm.b)) (hq:q=Fm.put p.2.2 (aH 5 mm.d mm.b)) {aY:List Nat} (eO:aY=Bt.bT r mm.id) :
 Calls Tryz.prog 130 #[fB mm,.pointer (some ⟨wb,0,none⟩)] w0 fun e w'=>∃ sv,e=.returned sv/\dV sv [(aD (aY) [p.1,q.1],g)] w'/\PE w0 w' b m v k r g tv q.2.2 ((false || (p.2.1 != 0)) || (q.2.1 != 0)):=by
 have hrs:Ok aY:=by rw[eO];exact gu hr mm.id
 have hrest:∀ (W:World) {fl:Bool},Wk W k b r g tv fl->Calls Tryz.prog 124 #[.pointer (some ⟨k,0,none⟩),.agg (bB mm)] W fun e w'=>e=.returned (.agg (au aY g))/\Below W.heap.size W w':=fun W fl h=>by rw[eO];exact jB W h hr mm
 have HT:=show Hid (Tb w0 b m v t/\Wk w0 k b r g tv false/\Cl w0 wb #[.pointer (some ⟨k,0,none⟩)] 136) from⟨hT,hW,hwb⟩
 clear hT hW hwb eO
 unfold fB
 go_enter Tryz.func130,Tryz.ntmps130
 go_wp2_with (refine aC 182 _ rfl _ rfl rfl ?_)
 intro w1 b2 hn1
 have bU:=show Hid (Below w0.heap.size w0 w1/\Tb w0 b m v t) from⟨hn1.av,HT.out.1⟩
 have H1:=show Hid (PS w1 w1 b m v k wb b2 r g tv mm t false) from⟨⟨v,HT.out.1.later hn1.av,dh.refl _ _⟩,HT.out.2.1.later hn1.av,Kp.refl _ _,HT.out.2.2.later hn1.av,hn1.blk⟩
 clear hn1 HT
 go_wp2_with fail
 refine bK (by kernel_rfl) [some 4,some 5,some 6,some 7,some 8,some 9,some 10,some 11,some 12,some 13,some 14,some 15,some 16,some 17,some 18,some 19,some 20,some 21,some 3] [[],[],[0,1],[],[],[4],[],[6],[3,5,7],[],[],[10],[],[12],[9,11,13,8],[8,14],[2,15],[16],[17]] (by kernel_rfl) (fun i v w=>match i with | 0=>v=.pointer (some ⟨k,0,none⟩) | 1=>v=.agg (bB mm) | 2=>v=.agg (au aY g) | 3=>v=.pointer (some ⟨k,0,none⟩) | 4=>v=.pointer (some ⟨b2,5,none⟩) | 5=>v=.int .i64 mm.c | 6=>v=.pointer (some ⟨b2,3,none⟩) | 7=>v=.int .i64 mm.b | 8=>v=.int .i64 p.1 | 9=>v=.pointer (some ⟨k,0,none⟩) | 10=>v=.pointer (some ⟨b2,6,none⟩) | 11=>v=.int .i64 mm.d | 12=>v=.pointer (some ⟨b2,3,none⟩) | 13=>v=.int .i64 mm.b | 14=>v=.int .i64 q.1 | 15=>kU v [p.1,q.1] w | 16=>v=.agg (au (aD (aY) [p.1,q.1]) (g)) | 17=>dV v [(aD (aY) [p.1,q.1],g)] w | 18=>dV v [(aD (aY) [p.1,q.1],g)] w | _=>True) (fun done W=>PS w1 W b m v k wb b2 r g tv mm (if done 14 then q.2.2 else (if done 8 then p.2.2 else t)) (if done 14 then ((false || (p.2.1 != 0)) || (q.2.1 != 0)) else (if done 8 then (false || (p.2.1 != 0)) else false))) (aF) ?hle ((by simpa using H1.out.drew)) (dL 19 ?steps) ?fin
 case hle=>
  intro i v w w1 hl h
  match i,h with
  | 0,h=>exact h
  | 1,h=>exact h
  | 2,h=>exact h
  | 3,h=>exact h
  | 4,h=>exact h
  | 5,h=>exact h
  | 6,h=>exact h
  | 7,h=>exact h
  | 8,h=>exact h
  | 9,h=>exact h
  | 10,h=>exact h
  | 11,h=>exact h
  | 12,h=>exact h
  | 13,h=>exact h
  | 14,h=>exact h
  | 15,h=>exact kU.dM h hl
  | 16,h=>exact h
  | 17,h=>exact dV.dM h hl
  | 18,h=>exact dV.dM h hl
  | _+19,h=>trivial
 case steps=>
  refine⟨⟨⟨⟨⟨⟨⟨⟨⟨⟨⟨⟨⟨⟨⟨⟨⟨⟨⟨trivial,?s0⟩,?s1⟩,?s2⟩,?s3⟩,?s4⟩,?s5⟩,?s6⟩,?s7⟩,?s8⟩,?s9⟩,?s10⟩,?s11⟩,?s12⟩,?s13⟩,?kg⟩,?s15⟩,?s16⟩,?DV⟩,?DW⟩
  case s0=>
   intro done a w hS h0 hd hn hO hN
   have o1:a.tmps[1]?=some (.pointer (some ⟨wb,0,none⟩)):=outs hO 1 rfl
   have hc:w.cell? ⟨wb,0,none⟩=some (.pointer (some ⟨k,0,none⟩)):=hS.gU.cell 0
   refine ah rfl (.pointer (some ⟨k,0,none⟩)) w rfl (by go_simp) ⟨_,rfl,rfl,by simpa[h0] using hS,aF.refl _⟩
  case s1=>
   intro done a w hS h0 hd hn hO hN
   have o2:a.tmps[2]?=some (.pointer (some ⟨b2,0,none⟩)):=outs hO 2 rfl
   have hl:=vg hS.bO
   refine ah rfl (.agg (bB mm)) w rfl (by simp[execOp,Act.eval,o2,hl,Result.andThen]) ⟨_,rfl,rfl,by simpa[h0] using hS,aF.refl _⟩
  case s2=>
   intro done a w hS h0 hd hn hO hN
   obtain⟨v0,g0,r0⟩:=aj hN 0 4
   obtain rfl:v0=.pointer (some ⟨k,0,none⟩):=r0
   obtain⟨v1,g1,r1⟩:=aj hN 1 5
   obtain rfl:v1=.agg (bB mm):=r1
   refine aW rfl rfl 124 [.tmp 4,.tmp 5] #[136,182] rfl [.pointer (some ⟨k,0,none⟩),.agg (bB mm)] (by simp[Act.eval,g0,g1]) (enters_of Tryz.func124 (by kernel_rfl) rfl) (Calls.mono (hrest w hS.wk) ?_)
   rintro e w1 ⟨rfl,hb⟩
   refine⟨_,rfl,_,rfl,rfl,?_,aF.of_below hb⟩
   have h9:=hS.later hb
   simpa[h0] using h9
  case s3=>
   intro done a w hS h0 hd hn hO hN
   have o1:a.tmps[1]?=some (.pointer (some ⟨wb,0,none⟩)):=outs hO 1 rfl
   have hc:w.cell? ⟨wb,0,none⟩=some (.pointer (some ⟨k,0,none⟩)):=hS.gU.cell 0
   refine ah rfl (.pointer (some ⟨k,0,none⟩)) w rfl (by go_simp) ⟨_,rfl,rfl,by simpa[h0] using hS,aF.refl _⟩
  case s4=>
   intro done a w hS h0 hd hn hO hN
   have o2:a.tmps[2]?=some (.pointer (some ⟨b2,0,none⟩)):=outs hO 2 rfl
   refine ah rfl (.pointer (some ⟨b2,5,none⟩)) w rfl (by go_simp) ⟨_,rfl,rfl,by simpa[h0] using hS,aF.refl _⟩
  case s5=>
   intro done a w hS h0 hd hn hO hN
   obtain⟨v4,g4,r4⟩:=aj hN 4 8
   obtain rfl:v4=.pointer (some ⟨b2,5,none⟩):=r4
   have hc:w.cell? ⟨b2,5,none⟩=some (.int .i64 mm.c):=hS.bO.cell 5
   refine ah rfl (.int .i64 mm.c) w rfl (by go_simp) ⟨_,rfl,rfl,by simpa[h0] using hS,aF.refl _⟩
  case s6=>
   intro done a w hS h0 hd hn hO hN
   have o2:a.tmps[2]?=some (.pointer (some ⟨b2,0,none⟩)):=outs hO 2 rfl
   refine ah rfl (.pointer (some ⟨b2,3,none⟩)) w rfl (by go_simp) ⟨_,rfl,rfl,by simpa[h0] using hS,aF.refl _⟩
  case s7=>
   intro done a w hS h0 hd hn hO hN
   obtain⟨v6,g6,r6⟩:=aj hN 6 10
   obtain rfl:v6=.pointer (some ⟨b2,3,none⟩):=r6
   have hc:w.cell? ⟨b2,3,none⟩=some (.int .i64 mm.b):=hS.bO.cell 3
   refine ah rfl (.int .i64 mm.b) w rfl (by go_simp) ⟨_,rfl,rfl,by simpa[h0] using hS,aF.refl _⟩
  case s8=>
   intro done a w hS h0 hd hn hO hN
   obtain⟨v3,g3,r3⟩:=aj hN 3 7
   obtain rfl:v3=.pointer (some ⟨k,0,none⟩):=r3
   obtain⟨v5,g5,r5⟩:=aj hN 5 9
   obtain rfl:v5=.int .i64 mm.c:=r5
   obtain⟨v7,g7,r7⟩:=aj hN 7 11
   obtain rfl:v7=.int .i64 mm.b:=r7
   have hS2:=hS
   simp only[h0,(hn 14 (by decide)),if_true,if_false,Bool.false_eq_true] at hS2
   obtain⟨v',kP,hl2⟩:=hS2.tb
   refine aW rfl rfl 129 [.tmp 7,.tmp 9,.tmp 11] #[136,3,3] rfl [.pointer (some ⟨k,0,none⟩),.int .i64 (mm.c),.int .i64 (mm.b)] (by simp[Act.eval,g3,g5,g7]) (enters_of Tryz.func129 (by kernel_rfl) rfl) (Calls.mono (rJ w kP hS2.wk hr (mm.c) (mm.b) hgc hgb) ?_)
   rintro e w1 ⟨rfl,hpi⟩
   rw[<- hp] at hpi |-
   refine⟨_,rfl,_,rfl,rfl,?_,hpi.dM kP hS2.wk⟩
   have h9:=hS2.imp kP hl2 hpi
   simp only[(hn 14 (by decide)),beq_self_eq_true,Bool.true_or,if_true,if_false,Bool.false_eq_true,Bool.or_false,Nat.reduceBEq,Bool.false_or]
   exact h9
  case s9=>
   intro done a w hS h0 hd hn hO hN
   have o1:a.tmps[1]?=some (.pointer (some ⟨wb,0,none⟩)):=outs hO 1 rfl
   have hc:w.cell? ⟨wb,0,none⟩=some (.pointer (some ⟨k,0,none⟩)):=hS.gU.cell 0
   refine ah rfl (.pointer (some ⟨k,0,none⟩)) w rfl (by go_simp) ⟨_,rfl,rfl,by simpa[h0] using hS,aF.refl _⟩
  case s10=>
   intro done a w hS h0 hd hn hO hN
   have o2:a.tmps[2]?=some (.pointer (some ⟨b2,0,none⟩)):=outs hO 2 rfl
   refine ah rfl (.pointer (some ⟨b2,6,none⟩)) w rfl (by go_simp) ⟨_,rfl,rfl,by simpa[h0] using hS,aF.refl _⟩
  case s11=>
   intro done a w hS h0 hd hn hO hN
   obtain⟨v10,g10,bS⟩:=aj hN 10 14
   obtain rfl:v10=.pointer (some ⟨b2,6,none⟩):=bS
   have hc:w.cell? ⟨b2,6,none⟩=some (.int .i64 mm.d):=hS.bO.cell 6
   refine ah rfl (.int .i64 mm.d) w rfl (by go_simp) ⟨_,rfl,rfl,by simpa[h0] using hS,aF.refl _⟩
  case s12=>
   intro done a w hS h0 hd hn hO hN
   have o2:a.tmps[2]?=some (.pointer (some ⟨b2,0,none⟩)):=outs hO 2 rfl
   refine ah rfl (.pointer (some ⟨b2,3,none⟩)) w rfl (by go_simp) ⟨_,rfl,rfl,by simpa[h0] using hS,aF.refl _⟩
  case s13=>
   intro done a w hS h0 hd hn hO hN
   obtain⟨v12,g12,dB⟩:=aj hN 12 16
   obtain rfl:v12=.pointer (some ⟨b2,3,none⟩):=dB
   have hc:w.cell? ⟨b2,3,none⟩=some (.int .i64 mm.b):=hS.bO.cell 3
   refine ah rfl (.int .i64 mm.b) w rfl (by go_simp) ⟨_,rfl,rfl,by simpa[h0] using hS,aF.refl _⟩
  case kg=>
   intro done a w hS h0 hd hn hO hN
   obtain⟨v9,g9,r9⟩:=aj hN 9 13
   obtain rfl:v9=.pointer (some ⟨k,0,none⟩):=r9
   obtain⟨v11,g11,bW⟩:=aj hN 11 15
   obtain rfl:v11=.int .i64 mm.d:=bW
   obtain⟨v13,g13,dD⟩:=aj hN 13 17
   obtain rfl:v13=.int .i64 mm.b:=dD
   obtain⟨v8,g8,r8⟩:=aj hN 8 12
   obtain rfl:v8=.int .i64 p.1:=r8
   have hS2:=hS
   simp only[h0,(hd 8 (by decide)),if_true,if_false,Bool.false_eq_true] at hS2
   obtain⟨v',kP,hl2⟩:=hS2.tb
   refine aW rfl rfl 129 [.tmp 13,.tmp 15,.tmp 17] #[136,3,3] rfl [.pointer (some ⟨k,0,none⟩),.int .i64 (mm.d),.int .i64 (mm.b)] (by simp[Act.eval,g9,g11,g13]) (enters_of Tryz.func129 (by kernel_rfl) rfl) (Calls.mono (rJ w kP hS2.wk hr (mm.d) (mm.b) hgd hgb) ?_)
   rintro e w1 ⟨rfl,hpi⟩
   rw[<- hq] at hpi |-
   refine⟨_,rfl,_,rfl,rfl,?_,hpi.dM kP hS2.wk⟩
   have h9:=hS2.imp kP hl2 hpi
   simp only[beq_self_eq_true,Bool.true_or,if_true,if_false,Bool.false_eq_true,Bool.or_false,Nat.reduceBEq,Bool.false_or]
   exact h9
  case s15=>
   intro done a w hS h0 hd hn hO hN
   obtain⟨v8,g8,r8⟩:=aj hN 8 12
   obtain rfl:v8=.int .i64 p.1:=r8
   obtain⟨v14,g14,dF⟩:=aj hN 14 18
   obtain rfl:v14=.int .i64 q.1:=dF
   refine ah rfl (.slice (some ⟨w.heap.size,0,none⟩) 2 2) (w.alloc (.cells #[.int .i64 (p.1),.int .i64 (q.1)] 3)) rfl (by go_simp) ⟨_,rfl,D6 w (p.1) (q.1),?_,aF.of_below (ak w _)⟩
   have h9:=hS.later (ak w (.cells #[.int .i64 (p.1),.int .i64 (q.1)] 3))
   simpa[h0] using h9
  case s16=>
   intro done a w hS h0 hd hn hO hN
   obtain⟨v2,g2,r2⟩:=aj hN 2 6
   obtain rfl:v2=.agg (au aY g):=r2
   obtain⟨v15,g15,dP⟩:=aj hN 15 19
   refine aW rfl rfl 123 [.tmp 6,.tmp 19] #[53,37] rfl [.agg (au (aY) (g)),v15] (by simp[Act.eval,g2,g15]) (enters_of Tryz.func123 (by kernel_rfl) rfl) (Calls.mono (iR w hrs (g) v15 [p.1,q.1] dP.gP) ?_)
   rintro e w1 ⟨rfl,hb⟩
   refine⟨_,rfl,_,rfl,rfl,?_,aF.of_below hb⟩
   have h9:=hS.later hb
   simpa[h0] using h9
  case DV=>
   intro done a w hS h0 hd hn hO hN
   obtain⟨v16,g16,r16⟩:=aj hN 16 20
   obtain rfl:v16=.agg (au (aD (aY) [p.1,q.1]) (g)):=r16
   have hq:=Br w (gK [p.1,q.1] hrs).1 (g)
   refine ah rfl (.slice (some ⟨w.heap.size,0,none⟩) 1 1) (w.alloc (.cells (bN [(aD (aY) [p.1,q.1],g)]) 53)) rfl (by simp[execOp,Act.eval,g16,hq,Result.andThen]) ⟨_,rfl,⟨w.heap.size,rfl,(bE w _ _).blk⟩,?_,aF.of_below (ak w _)⟩
   have h9:=hS.later (ak w (.cells (bN [(aD (aY) [p.1,q.1],g)]) 53))
   simpa[h0] using h9
  case DW=>
   intro done a w hS h0 hd hn hO hN
   obtain⟨v17,g17,Ma⟩:=aj hN 17 21
   obtain⟨qz,rfl,hc⟩:=Ma
   refine ah rfl _ w rfl (by go_simp) ⟨_,rfl,⟨qz,rfl,hc⟩,by simpa[h0] using hS,aF.refl _⟩
 case fin=>
  intro vs done w hdone hS hR
  have hS2:=hS
  simp only[(hdone 8 (by decide)),(hdone 14 (by decide)),if_true] at hS2
  have ou:dV (vs 18) [(aD (aY) [p.1,q.1],g)] w:=hR 18 (by decide)
  obtain⟨qz,hv,hc⟩:=ou
  simp only[bn,Act.put,List.setIfInBounds_toArray,List.set_cons_zero,List.set_cons_succ]
  rw[hv]
  have HZ:=show Hid (PS w1 w b m v k wb b2 r g tv mm q.2.2 ((false || (p.2.1 != 0)) || (q.2.1 != 0))/\Cl w qz (bN [(aD (aY) [p.1,q.1],g)]) 53) from⟨hS2,hc⟩
  clear hS hR hdone hv hc hS2
  go_wp2_with fail
  go_ret
  exact⟨_,rfl,⟨qz,rfl,HZ.out.2⟩,kY bU.out HZ.out.1⟩
end Go.Proofs.YtkpbpecikibohaaGreatDoor
