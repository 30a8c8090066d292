import Derived.Test.YtkejippimkjjaaaGreatDoorZP1
set_option linter.unusedSimpArgs false
set_option maxRecDepth 100000
set_option maxHeartbeats 4000000
namespace Go.Proofs.YtkejippimkjjaaaGreatDoor
open Go.RowKit Go.Shelf Go.Maps
open Fm (Nd)
open Bt.Bs (Ok wd)
theorem Qh (w0:World) {c:Nat} {u:Value} {t:List Nd} (hT:Tr w0 c u t) {r:List Nat} (hr:Ok r) (g:Int) (i:Nat) (hi:i<t.length) (hf:findF t r g 8 (i:Int)=true) (x y:Nat) (hx:t[i].l=x) (hy:t[i].r=y) (hxl:x<1024) (_hyl:y<1024) :
 Calls Tryz.prog 37 #[.pointer (some ⟨c,0,none⟩),.agg (ak r g),.int .i64 8,.int .i64 (i:Int)] w0 fun e w'=>∃ sv,e=.returned (.tuple #[sv,.int .i64 0])/\bW sv [(aA r [(x:Int),(x:Int)],(y:Int))] w'/\Below w0.heap.size w0 w':=by
 have hl:=hr.1
 have gL:(i:Int)<(t.length:Int):=by omega
 have hlen:=hT.ok.len
 have KF:=show Hid (∀ W:World,Below w0.heap.size w0 W->Calls Tryz.prog 56 #[.pointer (some ⟨c,0,none⟩),.agg (ak r g),.int .i64 8,.int .i64 (i:Int)] W fun e w'=>e=.returned (.bool true)/\Below W.heap.size W w') from fun W hb=>by
  have:=fK W (hT.later hb) hr g 8 (i:Int)
  rw[hf] at this
  exact this
 have KD:=show Hid (∀ W:World,Calls Tryz.prog 57 #[.agg (Bt.aD r),.int .i64 (i:Int)] W fun e w'=>e=.returned (.agg (Bt.aD (Bt.aQ r (i:Int))))/\Below W.heap.size W w') from fun W=>Bt.gW W hr (i:Int)
 have hrs:Ok (Bt.aQ r (i:Int)):=cZ hr (i:Int)
 have HT:=show Hid (∀ W:World,Below w0.heap.size w0 W->Tr W c u t) from fun W hb=>hT.later hb
 have HC:=show Hid (∀ W:World,Below w0.heap.size w0 W->W.cell? ⟨c,0,none⟩=some u) from fun W hb=>(hT.later hb).c0
 obtain⟨p,cp,hu,hc1,hc2,hat⟩:=hT.row.gT.at
 obtain⟨bb,oo,hp,bF⟩:=hat (by omega)
 subst hp
 have HAT:=show Hid (∀ W:World,Below w0.heap.size w0 W->fH W bb (oo+i * 4) t[i]) from fun W hb=>bF W hb i hi
 have jZ:=show Hid (∀ W:World,Below w0.heap.size w0 W->∀ j (hj:j<t.length),fH W bb (oo+j * 4) t[j]) from fun W hb j hj=>bF W hb j hj
 subst hu
 clear hT hat bF hf
 generalize Bt.aQ r (i:Int)=aG at *
 have hl2:=hrs.1
 generalize t[i]=nd at *
 go_enter Tryz.func37,Tryz.ntmps37
 go_wp2_with (refine aI 27 _ rfl _ rfl rfl ?_)
 intro w1 b5 hn1
 have H1:=show Hid (dz w0 w1 b5 r g) from⟨hn1.blk,hn1.au,hn1.ge⟩
 clear hn1
 go_wp2_with (refine aJ _ _ rfl b5 rfl H1.out.s hl rfl ?_)
 refine Calls.mono (KF.out _ H1.out.au) ?_
 rintro e w2 ⟨rfl,hb2⟩
 have H2:=show Hid _ from H1.out.later hb2
 have c0:=HC.out w2 H2.out.au
 clear H1 hb2 KF
 go_wp2_with (first|(refine cK _ rfl _ rfl bb (oo+i * 4) rfl (HAT.out w2 H2.out.au) ?_)|(refine aF 54 rfl _ eP rfl ?_))
 intro w3 b10 aM
 go_wp2_with (refine aK 54 rfl rfl _ _ rfl b10 rfl (bq nd).toArray rfl _ _ aM.blk (by rw[eF];rfl) rfl (dR nd) ?_)
 intro w4 hc4 hk4
 have H4:=show Hid (dz w0 w4 b5 r g/\Cl w4 b10 (bq nd).toArray 54/\w0.heap.size<=b10) from by
  have e1:=H2.out.au.size;have e2:=aM.ge;have e3:=Cl.lt H2.out.s
  exact⟨⟨Cl.kp (T:=27) (Cl.new H2.out.s aM) hk4 (by omega),aP (aS H2.out.au aM) hk4 (by omega),H2.out.ge⟩,hc4,by omega⟩
 clear H2 aM hc4 hk4 c0
 go_wp2_with (first|(refine aJ _ _ rfl b5 rfl H4.out.1.s hl rfl ?_)|(refine aF 27 rfl _ fO rfl ?_))
 intro w5 b11 bB
 go_wp2_with (refine aK 27 rfl rfl _ _ rfl b11 rfl (ak r g) rfl _ _ bB.blk (by rw[jG,bI hl]) (by rw[bI hl];rfl) (fA r g) ?_)
 intro w6 hc6 dH
 have H6:=show Hid (dz w0 w6 b5 r g/\Cl w6 b10 (bq nd).toArray 54/\aX w6 b11 r g/\b11≠b5/\b11≠b10/\w0.heap.size<=b11) from by
  have e1:=H4.out.1.au.size;have e2:=bB.ge;have e3:=Cl.lt H4.out.1.s;have e4:=Cl.lt H4.out.2.1
  exact⟨⟨Cl.kp (T:=27) (Cl.new H4.out.1.s bB) dH (by omega),aP (aS H4.out.1.au bB) dH (by omega),H4.out.1.ge⟩,Cl.kp (Cl.new H4.out.2.1 bB) dH (by omega),hc6,by omega,by omega,by omega⟩
 clear H4 bB hc6 dH
 go_wp2_with (refine bN _ rfl _ rfl b5 0 rfl H6.out.1.s.dL hl ?_)
 refine Calls.mono (KD.out w6) ?_
 rintro e w7 ⟨rfl,bO⟩
 have hs7:aX w7 b11 r g:=H6.out.2.2.1.later bO H6.out.2.2.1.lt
 go_wp2_with (refine eG _ rfl rfl _ _ rfl b11 rfl rfl hs7 hl hl2 ?_)
 intro w8 iK bD
 have dJ:=show Hid (dz w0 w8 b5 r g/\Cl w8 b10 (bq nd).toArray 54) from
  ⟨⟨Cl.kp (T:=27) (H6.out.1.later bO).s bD (fun e=>H6.out.2.2.2.1 e.symm),aP (H6.out.1.later bO).au bD H6.out.2.2.2.2.2,H6.out.1.ge⟩,Cl.kp (H6.out.2.1.later bO) bD (fun e=>H6.out.2.2.2.2.1 e.symm)⟩
 have H8:=show Hid (RP w0 w8 c (.slice (some ⟨bb,oo,none⟩) t.length cp) t b5 b10 b11 r aG g nd) from⟨HT.out w8 dJ.out.1.au,dJ.out.1.s,dJ.out.2,iK,dJ.out.1.au⟩
 clear dJ H6 bO hs7 iK bD KD HT
 have d2:w8.cell? ⟨b10,2,none⟩=some (.int .i64 nd.l):=H8.out.n.cell 2
 have d3:w8.cell? ⟨b10,3,none⟩=some (.int .i64 nd.r):=H8.out.n.cell 3
 clear HC HAT jZ d2 d3
 go_wp2_with fail
 refine bC (by kernel_rfl) [some 132,some 133,some 134,some 135,some 136,some 137,some 138,some 139,some 140,some 141,some 8,some 9] [[],[],[1],[],[3],[0,2,4],[],[6],[5,7],[8],[9],[]] (by kernel_rfl) (fun i v w=>match i with | 0=>v=.agg (ak (r) (g)) | 1=>v=.pointer (some ⟨b10,2,none⟩) | 2=>v=.int .i64 (x:Int) | 3=>v=.pointer (some ⟨b10,2,none⟩) | 4=>v=.int .i64 (x:Int) | 5=>v=.agg (ak (aA (r) [(x:Int),(x:Int)]) (g)) | 6=>v=.pointer (some ⟨b10,3,none⟩) | 7=>v=.int .i64 (y:Int) | 8=>v=.agg (ak (aA (r) [(x:Int),(x:Int)]) ((y:Int))) | 9=>bW v [(aA (r) [(x:Int),(x:Int)],(y:Int))] w | 10=>bW v [(aA (r) [(x:Int),(x:Int)],(y:Int))] w | 11=>v=.int .i64 0 | _=>True) (fun _ W=>RP w0 W c (.slice (some ⟨bb,oo,none⟩) t.length cp) t b5 b10 b11 r aG g nd) (aC) ?hle (H8.out.drew) (bR 12 ?steps) ?fin
 case hle=>
  intro i v w w1 hl h
  match i,h with
  | 0,h=>exact h
  | 1,h=>exact h
  | 2,h=>exact h
  | 3,h=>exact h
  | 4,h=>exact h
  | 5,h=>exact h
  | 6,h=>exact h
  | 7,h=>exact h
  | 8,h=>exact h
  | 9,h=>exact bW.dB h hl
  | 10,h=>exact bW.dB h hl
  | 11,h=>exact h
  | _+12,h=>trivial
 case steps=>
  refine⟨⟨⟨⟨⟨⟨⟨⟨⟨⟨⟨⟨trivial,?s0⟩,?s1⟩,?s2⟩,?s3⟩,?s4⟩,?s5⟩,?s6⟩,?s7⟩,?s8⟩,?s9⟩,?s10⟩,?s11⟩
  case s0=>
   intro done a w hS h0 hd hn hO hN
   have o5:a.tmps[5]?=some (.pointer (some ⟨b5,0,none⟩)):=outs hO 5 rfl
   have hq:=eZ w b5 hS.s hr.1
   refine ah rfl (.agg (ak (r) (g))) w rfl (by simp[execOp,Act.eval,o5,hq,Result.andThen]) ⟨_,rfl,rfl,by simpa[h0] using hS,aC.refl _⟩
  case s1=>
   intro done a w hS h0 hd hn hO hN
   have kT:a.tmps[10]?=some (.pointer (some ⟨b10,0,none⟩)):=outs hO 10 rfl
   refine ah rfl (.pointer (some ⟨b10,2,none⟩)) w rfl (by go_simp) ⟨_,rfl,rfl,by simpa[h0] using hS,aC.refl _⟩
  case s2=>
   intro done a w hS h0 hd hn hO hN
   obtain⟨v1,g1,r1⟩:=aj hN 1 133
   obtain rfl:v1=.pointer (some ⟨b10,2,none⟩):=r1
   have hc:w.cell? ⟨b10,2,none⟩=some (.int .i64 (x:Int)):=by rw[<- hx];exact hS.n.cell 2
   refine ah rfl (.int .i64 (x:Int)) w rfl (by go_simp) ⟨_,rfl,rfl,by simpa[h0] using hS,aC.refl _⟩
  case s3=>
   intro done a w hS h0 hd hn hO hN
   have kT:a.tmps[10]?=some (.pointer (some ⟨b10,0,none⟩)):=outs hO 10 rfl
   refine ah rfl (.pointer (some ⟨b10,2,none⟩)) w rfl (by go_simp) ⟨_,rfl,rfl,by simpa[h0] using hS,aC.refl _⟩
  case s4=>
   intro done a w hS h0 hd hn hO hN
   obtain⟨v3,g3,r3⟩:=aj hN 3 135
   obtain rfl:v3=.pointer (some ⟨b10,2,none⟩):=r3
   have hc:w.cell? ⟨b10,2,none⟩=some (.int .i64 (x:Int)):=by rw[<- hx];exact hS.n.cell 2
   refine ah rfl (.int .i64 (x:Int)) w rfl (by go_simp) ⟨_,rfl,rfl,by simpa[h0] using hS,aC.refl _⟩
  case s5=>
   intro done a w hS h0 hd hn hO hN
   obtain⟨v0,g0,r0⟩:=aj hN 0 132
   obtain rfl:v0=.agg (ak (r) (g)):=r0
   obtain⟨v2,g2,r2⟩:=aj hN 2 134
   obtain rfl:v2=.int .i64 (x:Int):=r2
   obtain⟨v4,g4,r4⟩:=aj hN 4 136
   obtain rfl:v4=.int .i64 (x:Int):=r4
   refine aR rfl rfl 58 [.tmp 132,.tmp 134,.tmp 136] #[27,3,3] rfl [.agg (ak (r) (g)),.int .i64 (x:Int),.int .i64 (x:Int)] (by simp[Act.eval,g0,g2,g4]) (enters_of Tryz.func58 (by kernel_rfl) rfl) (Calls.mono (jU w hr (g) x x hxl hxl) ?_)
   rintro e w1 ⟨rfl,hb⟩
   refine⟨_,rfl,_,rfl,rfl,?_,aC.of_below hb⟩
   have h9:=hS.later hb
   simpa[h0] using h9
  case s6=>
   intro done a w hS h0 hd hn hO hN
   have kT:a.tmps[10]?=some (.pointer (some ⟨b10,0,none⟩)):=outs hO 10 rfl
   refine ah rfl (.pointer (some ⟨b10,3,none⟩)) w rfl (by go_simp) ⟨_,rfl,rfl,by simpa[h0] using hS,aC.refl _⟩
  case s7=>
   intro done a w hS h0 hd hn hO hN
   obtain⟨v6,g6,r6⟩:=aj hN 6 138
   obtain rfl:v6=.pointer (some ⟨b10,3,none⟩):=r6
   have hc:w.cell? ⟨b10,3,none⟩=some (.int .i64 (y:Int)):=by rw[<- hy];exact hS.n.cell 3
   refine ah rfl (.int .i64 (y:Int)) w rfl (by go_simp) ⟨_,rfl,rfl,by simpa[h0] using hS,aC.refl _⟩
  case s8=>
   intro done a w hS h0 hd hn hO hN
   obtain⟨v5,g5,r5⟩:=aj hN 5 137
   obtain rfl:v5=.agg (ak (aA (r) [(x:Int),(x:Int)]) (g)):=r5
   obtain⟨v7,g7,r7⟩:=aj hN 7 139
   obtain rfl:v7=.int .i64 (y:Int):=r7
   refine aR rfl rfl 60 [.tmp 137,.tmp 139] #[27,3] rfl [.agg (ak (aA (r) [(x:Int),(x:Int)]) (g)),.int .i64 (y:Int)] (by simp[Act.eval,g5,g7]) (enters_of Tryz.func60 (by kernel_rfl) rfl) (Calls.mono (qA w (dN (dN hr (x:Int)) (x:Int)).1 (g) ((y:Int))) ?_)
   rintro e w1 ⟨rfl,hb⟩
   refine⟨_,rfl,_,rfl,rfl,?_,aC.of_below hb⟩
   have h9:=hS.later hb
   simpa[h0] using h9
  case s9=>
   intro done a w hS h0 hd hn hO hN
   obtain⟨v8,g8,r8⟩:=aj hN 8 140
   obtain rfl:v8=.agg (ak (aA (r) [(x:Int),(x:Int)]) ((y:Int))):=r8
   have hq:=wC w (r:=aA (r) [(x:Int),(x:Int)]) (dN (dN hr (x:Int)) (x:Int)).1 ((y:Int))
   refine ah rfl (.slice (some ⟨w.heap.size,0,none⟩) 1 1) (w.alloc (.cells (bH [(aA (r) [(x:Int),(x:Int)],(y:Int))]) 27)) rfl (by simp[execOp,Act.eval,g8,hq,Result.andThen]) ⟨_,rfl,⟨w.heap.size,rfl,(aZ w _ _).blk⟩,?_,aC.of_below (av w _)⟩
   have h9:=hS.later (av w (.cells (bH [(aA (r) [(x:Int),(x:Int)],(y:Int))]) 27))
   simpa[h0] using h9
  case s10=>
   intro done a w hS h0 hd hn hO hN
   obtain⟨v9,g9,r9⟩:=aj hN 9 141
   obtain⟨qz,rfl,hc⟩:=r9
   refine ah rfl _ w rfl (by go_simp) ⟨_,rfl,⟨qz,rfl,hc⟩,by simpa[h0] using hS,aC.refl _⟩
  case s11=>
   intro done a w hS h0 hd hn hO hN
   refine ah rfl (.int .i64 0) w rfl (by go_simp) ⟨_,rfl,rfl,by simpa[h0] using hS,aC.refl _⟩
 case fin=>
  intro vs done w hdone hS hR
  have ko:bW (vs 10) [(aA (r) [(x:Int),(x:Int)],(y:Int))] w:=hR 10 (by decide)
  obtain⟨qz,hv,hc⟩:=ko
  have e0:vs 11=.int .i64 0:=hR 11 (by decide)
  simp only[bg,Act.put,List.setIfInBounds_toArray,List.set_cons_zero,List.set_cons_succ]
  rw[hv,e0]
  have HZ:=show Hid (bW (.slice (some ⟨qz,0,none⟩) ([(aA (r) [(x:Int),(x:Int)],(y:Int))]).length ([(aA (r) [(x:Int),(x:Int)],(y:Int))]).length) [(aA (r) [(x:Int),(x:Int)],(y:Int))] w/\Below w0.heap.size w0 w) from⟨⟨qz,rfl,hc⟩,hS.au⟩
  clear hS hR hdone hv hc e0
  go_wp2_with fail
  go_ret2
  exact⟨_,rfl,HZ.out.1,HZ.out.2⟩
theorem Qi (w0:World) {c:Nat} {u:Value} {t:List Nd} (hT:Tr w0 c u t) {r:List Nat} (hr:Ok r) (g:Int) (i:Nat) (hi:i<t.length) (hf:findF t r g 9 (i:Int)=true) (x y:Nat) (hx:t[i].l=x) (hy:t[i].r=y) :
 Calls Tryz.prog 37 #[.pointer (some ⟨c,0,none⟩),.agg (ak r g),.int .i64 9,.int .i64 (i:Int)] w0 fun e w'=>∃ sv,e=.returned (.tuple #[sv,.int .i64 0])/\bW sv [(r,(x:Int)),(r,(y:Int))] w'/\Below w0.heap.size w0 w':=by
 have hl:=hr.1
 have gL:(i:Int)<(t.length:Int):=by omega
 have hlen:=hT.ok.len
 have KF:=show Hid (∀ W:World,Below w0.heap.size w0 W->Calls Tryz.prog 56 #[.pointer (some ⟨c,0,none⟩),.agg (ak r g),.int .i64 9,.int .i64 (i:Int)] W fun e w'=>e=.returned (.bool true)/\Below W.heap.size W w') from fun W hb=>by
  have:=fK W (hT.later hb) hr g 9 (i:Int)
  rw[hf] at this
  exact this
 have KD:=show Hid (∀ W:World,Calls Tryz.prog 57 #[.agg (Bt.aD r),.int .i64 (i:Int)] W fun e w'=>e=.returned (.agg (Bt.aD (Bt.aQ r (i:Int))))/\Below W.heap.size W w') from fun W=>Bt.gW W hr (i:Int)
 have hrs:Ok (Bt.aQ r (i:Int)):=cZ hr (i:Int)
 have HT:=show Hid (∀ W:World,Below w0.heap.size w0 W->Tr W c u t) from fun W hb=>hT.later hb
 have HC:=show Hid (∀ W:World,Below w0.heap.size w0 W->W.cell? ⟨c,0,none⟩=some u) from fun W hb=>(hT.later hb).c0
 obtain⟨p,cp,hu,hc1,hc2,hat⟩:=hT.row.gT.at
 obtain⟨bb,oo,hp,bF⟩:=hat (by omega)
 subst hp
 have HAT:=show Hid (∀ W:World,Below w0.heap.size w0 W->fH W bb (oo+i * 4) t[i]) from fun W hb=>bF W hb i hi
 have jZ:=show Hid (∀ W:World,Below w0.heap.size w0 W->∀ j (hj:j<t.length),fH W bb (oo+j * 4) t[j]) from fun W hb j hj=>bF W hb j hj
 subst hu
 clear hT hat bF hf
 generalize Bt.aQ r (i:Int)=aG at *
 have hl2:=hrs.1
 generalize t[i]=nd at *
 go_enter Tryz.func37,Tryz.ntmps37
 go_wp2_with (refine aI 27 _ rfl _ rfl rfl ?_)
 intro w1 b5 hn1
 have H1:=show Hid (dz w0 w1 b5 r g) from⟨hn1.blk,hn1.au,hn1.ge⟩
 clear hn1
 go_wp2_with (refine aJ _ _ rfl b5 rfl H1.out.s hl rfl ?_)
 refine Calls.mono (KF.out _ H1.out.au) ?_
 rintro e w2 ⟨rfl,hb2⟩
 have H2:=show Hid _ from H1.out.later hb2
 have c0:=HC.out w2 H2.out.au
 clear H1 hb2 KF
 go_wp2_with (first|(refine cK _ rfl _ rfl bb (oo+i * 4) rfl (HAT.out w2 H2.out.au) ?_)|(refine aF 54 rfl _ eP rfl ?_))
 intro w3 b10 aM
 go_wp2_with (refine aK 54 rfl rfl _ _ rfl b10 rfl (bq nd).toArray rfl _ _ aM.blk (by rw[eF];rfl) rfl (dR nd) ?_)
 intro w4 hc4 hk4
 have H4:=show Hid (dz w0 w4 b5 r g/\Cl w4 b10 (bq nd).toArray 54/\w0.heap.size<=b10) from by
  have e1:=H2.out.au.size;have e2:=aM.ge;have e3:=Cl.lt H2.out.s
  exact⟨⟨Cl.kp (T:=27) (Cl.new H2.out.s aM) hk4 (by omega),aP (aS H2.out.au aM) hk4 (by omega),H2.out.ge⟩,hc4,by omega⟩
 clear H2 aM hc4 hk4 c0
 go_wp2_with (first|(refine aJ _ _ rfl b5 rfl H4.out.1.s hl rfl ?_)|(refine aF 27 rfl _ fO rfl ?_))
 intro w5 b11 bB
 go_wp2_with (refine aK 27 rfl rfl _ _ rfl b11 rfl (ak r g) rfl _ _ bB.blk (by rw[jG,bI hl]) (by rw[bI hl];rfl) (fA r g) ?_)
 intro w6 hc6 dH
 have H6:=show Hid (dz w0 w6 b5 r g/\Cl w6 b10 (bq nd).toArray 54/\aX w6 b11 r g/\b11≠b5/\b11≠b10/\w0.heap.size<=b11) from by
  have e1:=H4.out.1.au.size;have e2:=bB.ge;have e3:=Cl.lt H4.out.1.s;have e4:=Cl.lt H4.out.2.1
  exact⟨⟨Cl.kp (T:=27) (Cl.new H4.out.1.s bB) dH (by omega),aP (aS H4.out.1.au bB) dH (by omega),H4.out.1.ge⟩,Cl.kp (Cl.new H4.out.2.1 bB) dH (by omega),hc6,by omega,by omega,by omega⟩
 clear H4 bB hc6 dH
 go_wp2_with (refine bN _ rfl _ rfl b5 0 rfl H6.out.1.s.dL hl ?_)
 refine Calls.mono (KD.out w6) ?_
 rintro e w7 ⟨rfl,bO⟩
 have hs7:aX w7 b11 r g:=H6.out.2.2.1.later bO H6.out.2.2.1.lt
 go_wp2_with (refine eG _ rfl rfl _ _ rfl b11 rfl rfl hs7 hl hl2 ?_)
 intro w8 iK bD
 have dJ:=show Hid (dz w0 w8 b5 r g/\Cl w8 b10 (bq nd).toArray 54) from
  ⟨⟨Cl.kp (T:=27) (H6.out.1.later bO).s bD (fun e=>H6.out.2.2.2.1 e.symm),aP (H6.out.1.later bO).au bD H6.out.2.2.2.2.2,H6.out.1.ge⟩,Cl.kp (H6.out.2.1.later bO) bD (fun e=>H6.out.2.2.2.2.1 e.symm)⟩
 have H8:=show Hid (RP w0 w8 c (.slice (some ⟨bb,oo,none⟩) t.length cp) t b5 b10 b11 r aG g nd) from⟨HT.out w8 dJ.out.1.au,dJ.out.1.s,dJ.out.2,iK,dJ.out.1.au⟩
 clear dJ H6 bO hs7 iK bD KD HT
 have d2:w8.cell? ⟨b10,2,none⟩=some (.int .i64 nd.l):=H8.out.n.cell 2
 have d3:w8.cell? ⟨b10,3,none⟩=some (.int .i64 nd.r):=H8.out.n.cell 3
 clear HC HAT jZ d2 d3
 go_wp2_with fail
 refine bC (by kernel_rfl) [some 144,some 145,some 146,some 147,some 148,some 149,some 150,some 151,some 152,some 8,some 9] [[],[],[1],[0,2],[],[],[5],[4,6],[3,7],[8],[]] (by kernel_rfl) (fun i v w=>match i with | 0=>v=.agg (ak (r) (g)) | 1=>v=.pointer (some ⟨b10,2,none⟩) | 2=>v=.int .i64 (x:Int) | 3=>v=.agg (ak (r) ((x:Int))) | 4=>v=.agg (ak (r) (g)) | 5=>v=.pointer (some ⟨b10,3,none⟩) | 6=>v=.int .i64 (y:Int) | 7=>v=.agg (ak (r) ((y:Int))) | 8=>bW v [(r,(x:Int)),(r,(y:Int))] w | 9=>bW v [(r,(x:Int)),(r,(y:Int))] w | 10=>v=.int .i64 0 | _=>True) (fun _ W=>RP w0 W c (.slice (some ⟨bb,oo,none⟩) t.length cp) t b5 b10 b11 r aG g nd) (aC) ?hle (H8.out.drew) (bR 11 ?steps) ?fin
 case hle=>
  intro i v w w1 hl h
  match i,h with
  | 0,h=>exact h
  | 1,h=>exact h
  | 2,h=>exact h
  | 3,h=>exact h
  | 4,h=>exact h
  | 5,h=>exact h
  | 6,h=>exact h
  | 7,h=>exact h
  | 8,h=>exact bW.dB h hl
  | 9,h=>exact bW.dB h hl
  | 10,h=>exact h
  | _+11,h=>trivial
 case steps=>
  refine⟨⟨⟨⟨⟨⟨⟨⟨⟨⟨⟨trivial,?s0⟩,?s1⟩,?s2⟩,?s3⟩,?s4⟩,?s5⟩,?s6⟩,?s7⟩,?s8⟩,?s9⟩,?s10⟩
  case s0=>
   intro done a w hS h0 hd hn hO hN
   have o5:a.tmps[5]?=some (.pointer (some ⟨b5,0,none⟩)):=outs hO 5 rfl
   have hq:=eZ w b5 hS.s hr.1
   refine ah rfl (.agg (ak (r) (g))) w rfl (by simp[execOp,Act.eval,o5,hq,Result.andThen]) ⟨_,rfl,rfl,by simpa[h0] using hS,aC.refl _⟩
  case s1=>
   intro done a w hS h0 hd hn hO hN
   have kT:a.tmps[10]?=some (.pointer (some ⟨b10,0,none⟩)):=outs hO 10 rfl
   refine ah rfl (.pointer (some ⟨b10,2,none⟩)) w rfl (by go_simp) ⟨_,rfl,rfl,by simpa[h0] using hS,aC.refl _⟩
  case s2=>
   intro done a w hS h0 hd hn hO hN
   obtain⟨v1,g1,r1⟩:=aj hN 1 145
   obtain rfl:v1=.pointer (some ⟨b10,2,none⟩):=r1
   have hc:w.cell? ⟨b10,2,none⟩=some (.int .i64 (x:Int)):=by rw[<- hx];exact hS.n.cell 2
   refine ah rfl (.int .i64 (x:Int)) w rfl (by go_simp) ⟨_,rfl,rfl,by simpa[h0] using hS,aC.refl _⟩
  case s3=>
   intro done a w hS h0 hd hn hO hN
   obtain⟨v0,g0,r0⟩:=aj hN 0 144
   obtain rfl:v0=.agg (ak (r) (g)):=r0
   obtain⟨v2,g2,r2⟩:=aj hN 2 146
   obtain rfl:v2=.int .i64 (x:Int):=r2
   refine aR rfl rfl 60 [.tmp 144,.tmp 146] #[27,3] rfl [.agg (ak (r) (g)),.int .i64 (x:Int)] (by simp[Act.eval,g0,g2]) (enters_of Tryz.func60 (by kernel_rfl) rfl) (Calls.mono (qA w hr.1 (g) ((x:Int))) ?_)
   rintro e w1 ⟨rfl,hb⟩
   refine⟨_,rfl,_,rfl,rfl,?_,aC.of_below hb⟩
   have h9:=hS.later hb
   simpa[h0] using h9
  case s4=>
   intro done a w hS h0 hd hn hO hN
   have o5:a.tmps[5]?=some (.pointer (some ⟨b5,0,none⟩)):=outs hO 5 rfl
   have hq:=eZ w b5 hS.s hr.1
   refine ah rfl (.agg (ak (r) (g))) w rfl (by simp[execOp,Act.eval,o5,hq,Result.andThen]) ⟨_,rfl,rfl,by simpa[h0] using hS,aC.refl _⟩
  case s5=>
   intro done a w hS h0 hd hn hO hN
   have kT:a.tmps[10]?=some (.pointer (some ⟨b10,0,none⟩)):=outs hO 10 rfl
   refine ah rfl (.pointer (some ⟨b10,3,none⟩)) w rfl (by go_simp) ⟨_,rfl,rfl,by simpa[h0] using hS,aC.refl _⟩
  case s6=>
   intro done a w hS h0 hd hn hO hN
   obtain⟨v5,g5,r5⟩:=aj hN 5 149
   obtain rfl:v5=.pointer (some ⟨b10,3,none⟩):=r5
   have hc:w.cell? ⟨b10,3,none⟩=some (.int .i64 (y:Int)):=by rw[<- hy];exact hS.n.cell 3
   refine ah rfl (.int .i64 (y:Int)) w rfl (by go_simp) ⟨_,rfl,rfl,by simpa[h0] using hS,aC.refl _⟩
  case s7=>
   intro done a w hS h0 hd hn hO hN
   obtain⟨v4,g4,r4⟩:=aj hN 4 148
   obtain rfl:v4=.agg (ak (r) (g)):=r4
   obtain⟨v6,g6,r6⟩:=aj hN 6 150
   obtain rfl:v6=.int .i64 (y:Int):=r6
   refine aR rfl rfl 60 [.tmp 148,.tmp 150] #[27,3] rfl [.agg (ak (r) (g)),.int .i64 (y:Int)] (by simp[Act.eval,g4,g6]) (enters_of Tryz.func60 (by kernel_rfl) rfl) (Calls.mono (qA w hr.1 (g) ((y:Int))) ?_)
   rintro e w1 ⟨rfl,hb⟩
   refine⟨_,rfl,_,rfl,rfl,?_,aC.of_below hb⟩
   have h9:=hS.later hb
   simpa[h0] using h9
  case s8=>
   intro done a w hS h0 hd hn hO hN
   obtain⟨v3,g3,r3⟩:=aj hN 3 147
   obtain rfl:v3=.agg (ak (r) ((x:Int))):=r3
   obtain⟨v7,g7,r7⟩:=aj hN 7 151
   obtain rfl:v7=.agg (ak (r) ((y:Int))):=r7
   have hq:=EC w (r:=r) (s:=r) hr.1 hr.1 ((x:Int)) ((y:Int))
   refine ah rfl (.slice (some ⟨w.heap.size,0,none⟩) 2 2) (w.alloc (.cells (bH [(r,(x:Int)),(r,(y:Int))]) 27)) rfl (by simp[execOp,Act.eval,g3,g7,hq,Result.andThen]) ⟨_,rfl,⟨w.heap.size,rfl,(aZ w _ _).blk⟩,?_,aC.of_below (av w _)⟩
   have h9:=hS.later (av w (.cells (bH [(r,(x:Int)),(r,(y:Int))]) 27))
   simpa[h0] using h9
  case s9=>
   intro done a w hS h0 hd hn hO hN
   obtain⟨v8,g8,r8⟩:=aj hN 8 152
   obtain⟨qz,rfl,hc⟩:=r8
   refine ah rfl _ w rfl (by go_simp) ⟨_,rfl,⟨qz,rfl,hc⟩,by simpa[h0] using hS,aC.refl _⟩
  case s10=>
   intro done a w hS h0 hd hn hO hN
   refine ah rfl (.int .i64 0) w rfl (by go_simp) ⟨_,rfl,rfl,by simpa[h0] using hS,aC.refl _⟩
 case fin=>
  intro vs done w hdone hS hR
  have ko:bW (vs 9) [(r,(x:Int)),(r,(y:Int))] w:=hR 9 (by decide)
  obtain⟨qz,hv,hc⟩:=ko
  have e0:vs 10=.int .i64 0:=hR 10 (by decide)
  simp only[bg,Act.put,List.setIfInBounds_toArray,List.set_cons_zero,List.set_cons_succ]
  rw[hv,e0]
  have HZ:=show Hid (bW (.slice (some ⟨qz,0,none⟩) ([(r,(x:Int)),(r,(y:Int))]).length ([(r,(x:Int)),(r,(y:Int))]).length) [(r,(x:Int)),(r,(y:Int))] w/\Below w0.heap.size w0 w) from⟨⟨qz,rfl,hc⟩,hS.au⟩
  clear hS hR hdone hv hc e0
  go_wp2_with fail
  go_ret2
  exact⟨_,rfl,HZ.out.1,HZ.out.2⟩
theorem Nh (w0:World) {c:Nat} {u:Value} {t:List Nd} (hT:Tr w0 c u t) {r:List Nat} (hr:Ok r) (g:Int) (i:Nat) (hi:i<t.length) (hf:findF t r g 10 (i:Int)=true) (x y:Nat) (hx:t[i].l=x) (hy:t[i].r=y) (hxl:x<1024) (hyl:y<1024) :
 Calls Tryz.prog 37 #[.pointer (some ⟨c,0,none⟩),.agg (ak r g),.int .i64 10,.int .i64 (i:Int)] w0 fun e w'=>∃ sv,e=.returned (.tuple #[sv,.int .i64 0])/\bW sv [(aA (Bt.aQ r (i:Int)) [(x:Int),(x:Int)],g),(aA (Bt.aQ r (i:Int)) [(y:Int),(y:Int)],g)] w'/\Below w0.heap.size w0 w':=by
 have hl:=hr.1
 have gL:(i:Int)<(t.length:Int):=by omega
 have hlen:=hT.ok.len
 have KF:=show Hid (∀ W:World,Below w0.heap.size w0 W->Calls Tryz.prog 56 #[.pointer (some ⟨c,0,none⟩),.agg (ak r g),.int .i64 10,.int .i64 (i:Int)] W fun e w'=>e=.returned (.bool true)/\Below W.heap.size W w') from fun W hb=>by
  have:=fK W (hT.later hb) hr g 10 (i:Int)
  rw[hf] at this
  exact this
 have KD:=show Hid (∀ W:World,Calls Tryz.prog 57 #[.agg (Bt.aD r),.int .i64 (i:Int)] W fun e w'=>e=.returned (.agg (Bt.aD (Bt.aQ r (i:Int))))/\Below W.heap.size W w') from fun W=>Bt.gW W hr (i:Int)
 have hrs:Ok (Bt.aQ r (i:Int)):=cZ hr (i:Int)
 have HT:=show Hid (∀ W:World,Below w0.heap.size w0 W->Tr W c u t) from fun W hb=>hT.later hb
 have HC:=show Hid (∀ W:World,Below w0.heap.size w0 W->W.cell? ⟨c,0,none⟩=some u) from fun W hb=>(hT.later hb).c0
 obtain⟨p,cp,hu,hc1,hc2,hat⟩:=hT.row.gT.at
 obtain⟨bb,oo,hp,bF⟩:=hat (by omega)
 subst hp
 have HAT:=show Hid (∀ W:World,Below w0.heap.size w0 W->fH W bb (oo+i * 4) t[i]) from fun W hb=>bF W hb i hi
 have jZ:=show Hid (∀ W:World,Below w0.heap.size w0 W->∀ j (hj:j<t.length),fH W bb (oo+j * 4) t[j]) from fun W hb j hj=>bF W hb j hj
 subst hu
 clear hT hat bF hf
 generalize Bt.aQ r (i:Int)=aG at *
 have hl2:=hrs.1
 generalize t[i]=nd at *
 go_enter Tryz.func37,Tryz.ntmps37
 go_wp2_with (refine aI 27 _ rfl _ rfl rfl ?_)
 intro w1 b5 hn1
 have H1:=show Hid (dz w0 w1 b5 r g) from⟨hn1.blk,hn1.au,hn1.ge⟩
 clear hn1
 go_wp2_with (refine aJ _ _ rfl b5 rfl H1.out.s hl rfl ?_)
 refine Calls.mono (KF.out _ H1.out.au) ?_
 rintro e w2 ⟨rfl,hb2⟩
 have H2:=show Hid _ from H1.out.later hb2
 have c0:=HC.out w2 H2.out.au
 clear H1 hb2 KF
 go_wp2_with (first|(refine cK _ rfl _ rfl bb (oo+i * 4) rfl (HAT.out w2 H2.out.au) ?_)|(refine aF 54 rfl _ eP rfl ?_))
 intro w3 b10 aM
 go_wp2_with (refine aK 54 rfl rfl _ _ rfl b10 rfl (bq nd).toArray rfl _ _ aM.blk (by rw[eF];rfl) rfl (dR nd) ?_)
 intro w4 hc4 hk4
 have H4:=show Hid (dz w0 w4 b5 r g/\Cl w4 b10 (bq nd).toArray 54/\w0.heap.size<=b10) from by
  have e1:=H2.out.au.size;have e2:=aM.ge;have e3:=Cl.lt H2.out.s
  exact⟨⟨Cl.kp (T:=27) (Cl.new H2.out.s aM) hk4 (by omega),aP (aS H2.out.au aM) hk4 (by omega),H2.out.ge⟩,hc4,by omega⟩
 clear H2 aM hc4 hk4 c0
 go_wp2_with (first|(refine aJ _ _ rfl b5 rfl H4.out.1.s hl rfl ?_)|(refine aF 27 rfl _ fO rfl ?_))
 intro w5 b11 bB
 go_wp2_with (refine aK 27 rfl rfl _ _ rfl b11 rfl (ak r g) rfl _ _ bB.blk (by rw[jG,bI hl]) (by rw[bI hl];rfl) (fA r g) ?_)
 intro w6 hc6 dH
 have H6:=show Hid (dz w0 w6 b5 r g/\Cl w6 b10 (bq nd).toArray 54/\aX w6 b11 r g/\b11≠b5/\b11≠b10/\w0.heap.size<=b11) from by
  have e1:=H4.out.1.au.size;have e2:=bB.ge;have e3:=Cl.lt H4.out.1.s;have e4:=Cl.lt H4.out.2.1
  exact⟨⟨Cl.kp (T:=27) (Cl.new H4.out.1.s bB) dH (by omega),aP (aS H4.out.1.au bB) dH (by omega),H4.out.1.ge⟩,Cl.kp (Cl.new H4.out.2.1 bB) dH (by omega),hc6,by omega,by omega,by omega⟩
 clear H4 bB hc6 dH
 go_wp2_with (refine bN _ rfl _ rfl b5 0 rfl H6.out.1.s.dL hl ?_)
 refine Calls.mono (KD.out w6) ?_
 rintro e w7 ⟨rfl,bO⟩
 have hs7:aX w7 b11 r g:=H6.out.2.2.1.later bO H6.out.2.2.1.lt
 go_wp2_with (refine eG _ rfl rfl _ _ rfl b11 rfl rfl hs7 hl hl2 ?_)
 intro w8 iK bD
 have dJ:=show Hid (dz w0 w8 b5 r g/\Cl w8 b10 (bq nd).toArray 54) from
  ⟨⟨Cl.kp (T:=27) (H6.out.1.later bO).s bD (fun e=>H6.out.2.2.2.1 e.symm),aP (H6.out.1.later bO).au bD H6.out.2.2.2.2.2,H6.out.1.ge⟩,Cl.kp (H6.out.2.1.later bO) bD (fun e=>H6.out.2.2.2.2.1 e.symm)⟩
 have H8:=show Hid (RP w0 w8 c (.slice (some ⟨bb,oo,none⟩) t.length cp) t b5 b10 b11 r aG g nd) from⟨HT.out w8 dJ.out.1.au,dJ.out.1.s,dJ.out.2,iK,dJ.out.1.au⟩
 clear dJ H6 bO hs7 iK bD KD HT
 have d2:w8.cell? ⟨b10,2,none⟩=some (.int .i64 nd.l):=H8.out.n.cell 2
 have d3:w8.cell? ⟨b10,3,none⟩=some (.int .i64 nd.r):=H8.out.n.cell 3
 clear HC HAT jZ d2 d3
 go_wp2_with fail
 refine bC (by kernel_rfl) [some 155,some 156,some 157,some 158,some 159,some 160,some 161,some 162,some 163,some 164,some 165,some 166,some 167,some 8,some 9] [[],[],[1],[],[3],[0,2,4],[],[],[7],[],[9],[6,8,10],[5,11],[12],[]] (by kernel_rfl) (fun i v w=>match i with | 0=>v=.agg (ak (aG) (g)) | 1=>v=.pointer (some ⟨b10,2,none⟩) | 2=>v=.int .i64 (x:Int) | 3=>v=.pointer (some ⟨b10,2,none⟩) | 4=>v=.int .i64 (x:Int) | 5=>v=.agg (ak (aA (aG) [(x:Int),(x:Int)]) (g)) | 6=>v=.agg (ak (aG) (g)) | 7=>v=.pointer (some ⟨b10,3,none⟩) | 8=>v=.int .i64 (y:Int) | 9=>v=.pointer (some ⟨b10,3,none⟩) | 10=>v=.int .i64 (y:Int) | 11=>v=.agg (ak (aA (aG) [(y:Int),(y:Int)]) (g)) | 12=>bW v [(aA (aG) [(x:Int),(x:Int)],g),(aA (aG) [(y:Int),(y:Int)],g)] w | 13=>bW v [(aA (aG) [(x:Int),(x:Int)],g),(aA (aG) [(y:Int),(y:Int)],g)] w | 14=>v=.int .i64 0 | _=>True) (fun _ W=>RP w0 W c (.slice (some ⟨bb,oo,none⟩) t.length cp) t b5 b10 b11 r aG g nd) (aC) ?hle (H8.out.drew) (bR 15 ?steps) ?fin
 case hle=>
  intro i v w w1 hl h
  match i,h with
  | 0,h=>exact h
  | 1,h=>exact h
  | 2,h=>exact h
  | 3,h=>exact h
  | 4,h=>exact h
  | 5,h=>exact h
  | 6,h=>exact h
  | 7,h=>exact h
  | 8,h=>exact h
  | 9,h=>exact h
  | 10,h=>exact h
  | 11,h=>exact h
  | 12,h=>exact bW.dB h hl
  | 13,h=>exact bW.dB h hl
  | 14,h=>exact h
  | _+15,h=>trivial
 case steps=>
  refine⟨⟨⟨⟨⟨⟨⟨⟨⟨⟨⟨⟨⟨⟨⟨trivial,?s0⟩,?s1⟩,?s2⟩,?s3⟩,?s4⟩,?s5⟩,?s6⟩,?s7⟩,?s8⟩,?s9⟩,?s10⟩,?s11⟩,?s12⟩,?s13⟩,?gG⟩
  case s0=>
   intro done a w hS h0 hd hn hO hN
   have pK:a.tmps[11]?=some (.pointer (some ⟨b11,0,none⟩)):=outs hO 11 rfl
   have hq:=eZ w b11 hS.z hrs.1
   refine ah rfl (.agg (ak (aG) (g))) w rfl (by simp[execOp,Act.eval,pK,hq,Result.andThen]) ⟨_,rfl,rfl,by simpa[h0] using hS,aC.refl _⟩
  case s1=>
   intro done a w hS h0 hd hn hO hN
   have kT:a.tmps[10]?=some (.pointer (some ⟨b10,0,none⟩)):=outs hO 10 rfl
   refine ah rfl (.pointer (some ⟨b10,2,none⟩)) w rfl (by go_simp) ⟨_,rfl,rfl,by simpa[h0] using hS,aC.refl _⟩
  case s2=>
   intro done a w hS h0 hd hn hO hN
   obtain⟨v1,g1,r1⟩:=aj hN 1 156
   obtain rfl:v1=.pointer (some ⟨b10,2,none⟩):=r1
   have hc:w.cell? ⟨b10,2,none⟩=some (.int .i64 (x:Int)):=by rw[<- hx];exact hS.n.cell 2
   refine ah rfl (.int .i64 (x:Int)) w rfl (by go_simp) ⟨_,rfl,rfl,by simpa[h0] using hS,aC.refl _⟩
  case s3=>
   intro done a w hS h0 hd hn hO hN
   have kT:a.tmps[10]?=some (.pointer (some ⟨b10,0,none⟩)):=outs hO 10 rfl
   refine ah rfl (.pointer (some ⟨b10,2,none⟩)) w rfl (by go_simp) ⟨_,rfl,rfl,by simpa[h0] using hS,aC.refl _⟩
  case s4=>
   intro done a w hS h0 hd hn hO hN
   obtain⟨v3,g3,r3⟩:=aj hN 3 158
   obtain rfl:v3=.pointer (some ⟨b10,2,none⟩):=r3
   have hc:w.cell? ⟨b10,2,none⟩=some (.int .i64 (x:Int)):=by rw[<- hx];exact hS.n.cell 2
   refine ah rfl (.int .i64 (x:Int)) w rfl (by go_simp) ⟨_,rfl,rfl,by simpa[h0] using hS,aC.refl _⟩
  case s5=>
   intro done a w hS h0 hd hn hO hN
   obtain⟨v0,g0,r0⟩:=aj hN 0 155
   obtain rfl:v0=.agg (ak (aG) (g)):=r0
   obtain⟨v2,g2,r2⟩:=aj hN 2 157
   obtain rfl:v2=.int .i64 (x:Int):=r2
   obtain⟨v4,g4,r4⟩:=aj hN 4 159
   obtain rfl:v4=.int .i64 (x:Int):=r4
   refine aR rfl rfl 58 [.tmp 155,.tmp 157,.tmp 159] #[27,3,3] rfl [.agg (ak (aG) (g)),.int .i64 (x:Int),.int .i64 (x:Int)] (by simp[Act.eval,g0,g2,g4]) (enters_of Tryz.func58 (by kernel_rfl) rfl) (Calls.mono (jU w hrs (g) x x hxl hxl) ?_)
   rintro e w1 ⟨rfl,hb⟩
   refine⟨_,rfl,_,rfl,rfl,?_,aC.of_below hb⟩
   have h9:=hS.later hb
   simpa[h0] using h9
  case s6=>
   intro done a w hS h0 hd hn hO hN
   have pK:a.tmps[11]?=some (.pointer (some ⟨b11,0,none⟩)):=outs hO 11 rfl
   have hq:=eZ w b11 hS.z hrs.1
   refine ah rfl (.agg (ak (aG) (g))) w rfl (by simp[execOp,Act.eval,pK,hq,Result.andThen]) ⟨_,rfl,rfl,by simpa[h0] using hS,aC.refl _⟩
  case s7=>
   intro done a w hS h0 hd hn hO hN
   have kT:a.tmps[10]?=some (.pointer (some ⟨b10,0,none⟩)):=outs hO 10 rfl
   refine ah rfl (.pointer (some ⟨b10,3,none⟩)) w rfl (by go_simp) ⟨_,rfl,rfl,by simpa[h0] using hS,aC.refl _⟩
  case s8=>
   intro done a w hS h0 hd hn hO hN
   obtain⟨v7,g7,r7⟩:=aj hN 7 162
   obtain rfl:v7=.pointer (some ⟨b10,3,none⟩):=r7
   have hc:w.cell? ⟨b10,3,none⟩=some (.int .i64 (y:Int)):=by rw[<- hy];exact hS.n.cell 3
   refine ah rfl (.int .i64 (y:Int)) w rfl (by go_simp) ⟨_,rfl,rfl,by simpa[h0] using hS,aC.refl _⟩
  case s9=>
   intro done a w hS h0 hd hn hO hN
   have kT:a.tmps[10]?=some (.pointer (some ⟨b10,0,none⟩)):=outs hO 10 rfl
   refine ah rfl (.pointer (some ⟨b10,3,none⟩)) w rfl (by go_simp) ⟨_,rfl,rfl,by simpa[h0] using hS,aC.refl _⟩
  case s10=>
   intro done a w hS h0 hd hn hO hN
   obtain⟨v9,g9,r9⟩:=aj hN 9 164
   obtain rfl:v9=.pointer (some ⟨b10,3,none⟩):=r9
   have hc:w.cell? ⟨b10,3,none⟩=some (.int .i64 (y:Int)):=by rw[<- hy];exact hS.n.cell 3
   refine ah rfl (.int .i64 (y:Int)) w rfl (by go_simp) ⟨_,rfl,rfl,by simpa[h0] using hS,aC.refl _⟩
  case s11=>
   intro done a w hS h0 hd hn hO hN
   obtain⟨v6,g6,r6⟩:=aj hN 6 161
   obtain rfl:v6=.agg (ak (aG) (g)):=r6
   obtain⟨v8,g8,r8⟩:=aj hN 8 163
   obtain rfl:v8=.int .i64 (y:Int):=r8
   obtain⟨v10,g10,bM⟩:=aj hN 10 165
   obtain rfl:v10=.int .i64 (y:Int):=bM
   refine aR rfl rfl 58 [.tmp 161,.tmp 163,.tmp 165] #[27,3,3] rfl [.agg (ak (aG) (g)),.int .i64 (y:Int),.int .i64 (y:Int)] (by simp[Act.eval,g6,g8,g10]) (enters_of Tryz.func58 (by kernel_rfl) rfl) (Calls.mono (jU w hrs (g) y y hyl hyl) ?_)
   rintro e w1 ⟨rfl,hb⟩
   refine⟨_,rfl,_,rfl,rfl,?_,aC.of_below hb⟩
   have h9:=hS.later hb
   simpa[h0] using h9
  case s12=>
   intro done a w hS h0 hd hn hO hN
   obtain⟨v5,g5,r5⟩:=aj hN 5 160
   obtain rfl:v5=.agg (ak (aA (aG) [(x:Int),(x:Int)]) (g)):=r5
   obtain⟨v11,g11,bP⟩:=aj hN 11 166
   obtain rfl:v11=.agg (ak (aA (aG) [(y:Int),(y:Int)]) (g)):=bP
   have hq:=EC w (r:=aA (aG) [(x:Int),(x:Int)]) (s:=aA (aG) [(y:Int),(y:Int)]) (dN (dN hrs (x:Int)) (x:Int)).1 (dN (dN hrs (y:Int)) (y:Int)).1 (g) (g)
   refine ah rfl (.slice (some ⟨w.heap.size,0,none⟩) 2 2) (w.alloc (.cells (bH [(aA (aG) [(x:Int),(x:Int)],g),(aA (aG) [(y:Int),(y:Int)],g)]) 27)) rfl (by simp[execOp,Act.eval,g5,g11,hq,Result.andThen]) ⟨_,rfl,⟨w.heap.size,rfl,(aZ w _ _).blk⟩,?_,aC.of_below (av w _)⟩
   have h9:=hS.later (av w (.cells (bH [(aA (aG) [(x:Int),(x:Int)],g),(aA (aG) [(y:Int),(y:Int)],g)]) 27))
   simpa[h0] using h9
  case s13=>
   intro done a w hS h0 hd hn hO hN
   obtain⟨v12,g12,bT⟩:=aj hN 12 167
   obtain⟨qz,rfl,hc⟩:=bT
   refine ah rfl _ w rfl (by go_simp) ⟨_,rfl,⟨qz,rfl,hc⟩,by simpa[h0] using hS,aC.refl _⟩
  case gG=>
   intro done a w hS h0 hd hn hO hN
   refine ah rfl (.int .i64 0) w rfl (by go_simp) ⟨_,rfl,rfl,by simpa[h0] using hS,aC.refl _⟩
 case fin=>
  intro vs done w hdone hS hR
  have ko:bW (vs 13) [(aA (aG) [(x:Int),(x:Int)],g),(aA (aG) [(y:Int),(y:Int)],g)] w:=hR 13 (by decide)
  obtain⟨qz,hv,hc⟩:=ko
  have e0:vs 14=.int .i64 0:=hR 14 (by decide)
  simp only[bg,Act.put,List.setIfInBounds_toArray,List.set_cons_zero,List.set_cons_succ]
  rw[hv,e0]
  have HZ:=show Hid (bW (.slice (some ⟨qz,0,none⟩) ([(aA (aG) [(x:Int),(x:Int)],g),(aA (aG) [(y:Int),(y:Int)],g)]).length ([(aA (aG) [(x:Int),(x:Int)],g),(aA (aG) [(y:Int),(y:Int)],g)]).length) [(aA (aG) [(x:Int),(x:Int)],g),(aA (aG) [(y:Int),(y:Int)],g)] w/\Below w0.heap.size w0 w) from⟨⟨qz,rfl,hc⟩,hS.au⟩
  clear hS hR hdone hv hc e0
  go_wp2_with fail
  go_ret2
  exact⟨_,rfl,HZ.out.1,HZ.out.2⟩
theorem Dl {t:List Nd} (hO:Fm.Ok t) {n:Nd} (h:(Fm.put t n).2.1=0):0<=(Fm.put t n).1/\(Fm.put t n).1<1024:=by
 have hl:=hO.len
 unfold Fm.put at *
 split at h
 ·rename_i hc
  rw[if_pos hc]
  split at h
  ·rename_i hm
   rw[if_pos hm]
   have:=List.idxOf_lt_length_iff.2 hm
   simp only
   omega
  ·rename_i hm
   rw[if_neg hm]
   split at h
   ·exact absurd h (by simp)
   ·rename_i hx
    rw[if_neg hx]
    simp only
    omega
 ·rename_i hc
  exact absurd h hc
theorem Fu {t:List Nd} (hO:Fm.Ok t) (a b c d:Int) (ha:Fm.i64 a) (hb:Fm.i64 b) (h:(dh t a b c d).1.2.2=0):(0<=(dh t a b c d).1.1/\(dh t a b c d).1.1<1024)/\(0<=(dh t a b c d).1.2.1/\(dh t a b c d).1.2.1<1024):=by
 have hg:Fm.good (ay 5 a b):=iB (by omega) (by omega) ha hb
 unfold dh at *
 by_cases h1:(Fm.put t (ay 5 a b)).2.1≠0
 ·rw[if_pos h1] at h
  exact absurd h h1
 ·rw[if_neg h1] at h |-
  generalize (if c<0 then (Fm.put t (ay 5 a b)).1 else c)=c' at *
  generalize (if d<0 then (Fm.put t (ay 5 a b)).1 else d)=d' at *
  split at h
  ·rename_i h2
   exact absurd h h2
  ·rename_i h2
   rw[if_neg h2]
   exact⟨Dl hO (by simpa using h1),Dl (Fm.oN hO hg) (by simpa using h2)⟩
theorem Qj (w0:World) {c:Nat} {u:Value} {t:List Nd} (hT:Tr w0 c u t) {r:List Nat} (hr:Ok r) (g:Int) (i:Nat) (hi:i<t.length) (hf:findF t r g 6 (i:Int)=true) (xl:Nat) (hx:t[i].l=xl) (hxt:xl<t.length) (ny:Nd) (hny:t[xl]=ny) :
 Calls Tryz.prog 37 #[.pointer (some ⟨c,0,none⟩),.agg (ak r g),.int .i64 6,.int .i64 (i:Int)] w0 fun e w'=>∃ sv,e=.returned (.tuple #[sv,.int .i64 (dh t ny.r t[i].r ny.l (-1)).1.2.2])/\eu sv (if (dh t ny.r t[i].r ny.l (-1)).1.2.2=0 then [(aA (Bt.aQ r (i:Int)) [(dh t ny.r t[i].r ny.l (-1)).1.2.1,(dh t ny.r t[i].r ny.l (-1)).1.2.1],g)] else []) w'/\aO w0 c u (dh t ny.r t[i].r ny.l (-1)).2 w':=by
 have hl:=hr.1
 have gL:(i:Int)<(t.length:Int):=by omega
 have hlen:=hT.ok.len
 have tY:=show Hid (∀ k,Fr c u k->k<w0.heap.size) from hT.foot
 have hO:=hT.ok
 have KF:=show Hid (∀ W:World,Below w0.heap.size w0 W->Calls Tryz.prog 56 #[.pointer (some ⟨c,0,none⟩),.agg (ak r g),.int .i64 6,.int .i64 (i:Int)] W fun e w'=>e=.returned (.bool true)/\Below W.heap.size W w') from fun W hb=>by
  have:=fK W (hT.later hb) hr g 6 (i:Int)
  rw[hf] at this
  exact this
 have KD:=show Hid (∀ W:World,Calls Tryz.prog 57 #[.agg (Bt.aD r),.int .i64 (i:Int)] W fun e w'=>e=.returned (.agg (Bt.aD (Bt.aQ r (i:Int))))/\Below W.heap.size W w') from fun W=>Bt.gW W hr (i:Int)
 have hrs:Ok (Bt.aQ r (i:Int)):=cZ hr (i:Int)
 have HT:=show Hid (∀ W:World,Below w0.heap.size w0 W->Tr W c u t) from fun W hb=>hT.later hb
 have HC:=show Hid (∀ W:World,Below w0.heap.size w0 W->W.cell? ⟨c,0,none⟩=some u) from fun W hb=>(hT.later hb).c0
 obtain⟨p,cp,hu,hc1,hc2,hat⟩:=hT.row.gT.at
 obtain⟨bb,oo,hp,bF⟩:=hat (by omega)
 subst hp
 have HAT:=show Hid (∀ W:World,Below w0.heap.size w0 W->fH W bb (oo+i * 4) t[i]) from fun W hb=>bF W hb i hi
 have jZ:=show Hid (∀ W:World,Below w0.heap.size w0 W->∀ j (hj:j<t.length),fH W bb (oo+j * 4) t[j]) from fun W hb j hj=>bF W hb j hj
 subst hu
 clear hT hat bF hf
 generalize Bt.aQ r (i:Int)=aG at *
 have hl2:=hrs.1
 have hgx:Fm.i64 t[i].r:=(hO.gd _ (List.getElem_mem hi)).2.2.2
 have qR:=hO.gd _ (List.getElem_mem hxt)
 rw[hny] at qR
 have KI:=show Hid (∀ W:World,Tr W c (.slice (some ⟨bb,oo,none⟩) t.length cp) t->Calls Tryz.prog 59 #[.pointer (some ⟨c,0,none⟩),.int .i64 (ny.r),.int .i64 (t[i].r),.int .i64 (ny.l),.int .i64 (-1)] W fun e w'=>e=.returned (.tuple #[.int .i64 (dh t ny.r t[i].r ny.l (-1)).1.1,.int .i64 (dh t ny.r t[i].r ny.l (-1)).1.2.1,.int .i64 (dh t ny.r t[i].r ny.l (-1)).1.2.2])/\aO W c (.slice (some ⟨bb,oo,none⟩) t.length cp) (dh t ny.r t[i].r ny.l (-1)).2 w') from fun W h=>Dk W h (ny.r) (t[i].r) (ny.l) (-1) qR.2.2.2 hgx qR.2.2.1 (by unfold Fm.i64;omega)
 have vE:=show Hid ((dh t ny.r t[i].r ny.l (-1)).1.2.2=0->(0<=(dh t ny.r t[i].r ny.l (-1)).1.1/\(dh t ny.r t[i].r ny.l (-1)).1.1<1024)/\(0<=(dh t ny.r t[i].r ny.l (-1)).1.2.1/\(dh t ny.r t[i].r ny.l (-1)).1.2.1<1024)) from Fu hO (ny.r) (t[i].r) (ny.l) (-1) qR.2.2.2 hgx
 generalize dh t ny.r t[i].r ny.l (-1)=I at *
 clear hgx qR hO
 generalize t[i]=nd at *
 go_enter Tryz.func37,Tryz.ntmps37
 go_wp2_with (refine aI 27 _ rfl _ rfl rfl ?_)
 intro w1 b5 hn1
 have H1:=show Hid (dz w0 w1 b5 r g) from⟨hn1.blk,hn1.au,hn1.ge⟩
 clear hn1
 go_wp2_with (refine aJ _ _ rfl b5 rfl H1.out.s hl rfl ?_)
 refine Calls.mono (KF.out _ H1.out.au) ?_
 rintro e w2 ⟨rfl,hb2⟩
 have H2:=show Hid _ from H1.out.later hb2
 have c0:=HC.out w2 H2.out.au
 clear H1 hb2 KF
 go_wp2_with (first|(refine cK _ rfl _ rfl bb (oo+i * 4) rfl (HAT.out w2 H2.out.au) ?_)|(refine aF 54 rfl _ eP rfl ?_))
 intro w3 b10 aM
 go_wp2_with (refine aK 54 rfl rfl _ _ rfl b10 rfl (bq nd).toArray rfl _ _ aM.blk (by rw[eF];rfl) rfl (dR nd) ?_)
 intro w4 hc4 hk4
 have H4:=show Hid (dz w0 w4 b5 r g/\Cl w4 b10 (bq nd).toArray 54/\w0.heap.size<=b10) from by
  have e1:=H2.out.au.size;have e2:=aM.ge;have e3:=Cl.lt H2.out.s
  exact⟨⟨Cl.kp (T:=27) (Cl.new H2.out.s aM) hk4 (by omega),aP (aS H2.out.au aM) hk4 (by omega),H2.out.ge⟩,hc4,by omega⟩
 clear H2 aM hc4 hk4 c0
 go_wp2_with (first|(refine aJ _ _ rfl b5 rfl H4.out.1.s hl rfl ?_)|(refine aF 27 rfl _ fO rfl ?_))
 intro w5 b11 bB
 go_wp2_with (refine aK 27 rfl rfl _ _ rfl b11 rfl (ak r g) rfl _ _ bB.blk (by rw[jG,bI hl]) (by rw[bI hl];rfl) (fA r g) ?_)
 intro w6 hc6 dH
 have H6:=show Hid (dz w0 w6 b5 r g/\Cl w6 b10 (bq nd).toArray 54/\aX w6 b11 r g/\b11≠b5/\b11≠b10/\w0.heap.size<=b11) from by
  have e1:=H4.out.1.au.size;have e2:=bB.ge;have e3:=Cl.lt H4.out.1.s;have e4:=Cl.lt H4.out.2.1
  exact⟨⟨Cl.kp (T:=27) (Cl.new H4.out.1.s bB) dH (by omega),aP (aS H4.out.1.au bB) dH (by omega),H4.out.1.ge⟩,Cl.kp (Cl.new H4.out.2.1 bB) dH (by omega),hc6,by omega,by omega,by omega⟩
 have Ki:=show Hid (w0.heap.size<=b10) from H4.out.2.2
 clear H4 bB hc6 dH
 go_wp2_with (refine bN _ rfl _ rfl b5 0 rfl H6.out.1.s.dL hl ?_)
 refine Calls.mono (KD.out w6) ?_
 rintro e w7 ⟨rfl,bO⟩
 have hs7:aX w7 b11 r g:=H6.out.2.2.1.later bO H6.out.2.2.1.lt
 go_wp2_with (refine eG _ rfl rfl _ _ rfl b11 rfl rfl hs7 hl hl2 ?_)
 intro w8 iK bD
 have dJ:=show Hid (dz w0 w8 b5 r g/\Cl w8 b10 (bq nd).toArray 54) from
  ⟨⟨Cl.kp (T:=27) (H6.out.1.later bO).s bD (fun e=>H6.out.2.2.2.1 e.symm),aP (H6.out.1.later bO).au bD H6.out.2.2.2.2.2,H6.out.1.ge⟩,Cl.kp (H6.out.2.1.later bO) bD (fun e=>H6.out.2.2.2.2.1 e.symm)⟩
 have H8:=show Hid (RP w0 w8 c (.slice (some ⟨bb,oo,none⟩) t.length cp) t b5 b10 b11 r aG g nd) from⟨HT.out w8 dJ.out.1.au,dJ.out.1.s,dJ.out.2,iK,dJ.out.1.au⟩
 have yI:=show Hid (w0.heap.size<=b5/\w0.heap.size<=b10/\w0.heap.size<=b11) from⟨H6.out.1.ge,Ki.out,H6.out.2.2.2.2.2⟩
 clear dJ H6 bO hs7 iK bD KD HT
 have d2:w8.cell? ⟨b10,2,none⟩=some (.int .i64 nd.l):=H8.out.n.cell 2
 have d3:w8.cell? ⟨b10,3,none⟩=some (.int .i64 nd.r):=H8.out.n.cell 3
 obtain⟨N9,vF⟩:∃ n,n=w8.heap.size:=⟨_,rfl⟩
 have nM:=show Hid (w8.heap.size=N9) from vF.symm
 have nN:=show Hid (w0.heap.size<=N9/\b5<N9/\b10<N9/\b11<N9) from by
  have e1:=H8.out.au.size;have e2:=Cl.lt H8.out.s;have e3:=Cl.lt H8.out.n;have e4:=Cl.lt H8.out.z
  rw[vF]
  exact⟨e1,e2,e3,e4⟩
 clear vF HC HAT d2 d3
 go_wp2_with fail
 refine bC (by kernel_rfl) [some 70,some 71,some 72,some 73,some 74,some 75,some 76,some 77,some 12,none] [[],[0],[1],[2],[],[4],[3,5],[6],[],[8,7]] (by kernel_rfl) (fun i v w=>match i with | 0=>v=.pointer (some ⟨c,0,none⟩) | 1=>v=.pointer (some ⟨c,0,none⟩) | 2=>v=.pointer (some ⟨c,0,none⟩) | 3=>v=.slice (some ⟨bb,oo,none⟩) t.length cp | 4=>v=.pointer (some ⟨b10,2,none⟩) | 5=>v=.int .i64 (xl:Int) | 6=>v=.pointer (some ⟨bb,oo+xl * 4,none⟩) | 7=>v=.agg (bq ny).toArray | 8=>v=.pointer (some ⟨N9,0,none⟩) | 9=>True | _=>True) (fun done W=>RP w0 W c (.slice (some ⟨bb,oo,none⟩) t.length cp) t b5 b10 b11 r aG g nd/\(if done 9 then Cl W N9 (bq ny).toArray 54 else if done 8 then Cl W N9 (bq Fm.z).toArray 54 else W.heap.size=N9)) (fun _ _=>True) ?hle (⟨H8.out.drew,by simp only[Bool.false_eq_true,if_false];exact nM.out⟩) (bR 10 ?steps) ?fin
 case hle=>
  intro i v w w1 hl h
  match i,h with
  | 0,h=>exact h
  | 1,h=>exact h
  | 2,h=>exact h
  | 3,h=>exact h
  | 4,h=>exact h
  | 5,h=>exact h
  | 6,h=>exact h
  | 7,h=>exact h
  | 8,h=>exact h
  | 9,h=>exact h
  | _+10,h=>trivial
 case steps=>
  refine⟨⟨⟨⟨⟨⟨⟨⟨⟨⟨trivial,?s0⟩,?s1⟩,?s2⟩,?s3⟩,?s4⟩,?s5⟩,?s6⟩,?s7⟩,?s8⟩,?s9⟩
  case s0=>
   intro done a w hS h0 hd hn hO hN
   have o0:a.tmps[0]?=some (.pointer (some ⟨c,0,none⟩)):=outs hO 0 rfl
   refine ah rfl (.pointer (some ⟨c,0,none⟩)) w rfl (by go_simp) ⟨_,rfl,rfl,by simpa[h0] using hS,trivial⟩
  case s1=>
   intro done a w hS h0 hd hn hO hN
   obtain⟨v0,g0,r0⟩:=aj hN 0 70
   obtain rfl:v0=.pointer (some ⟨c,0,none⟩):=r0
   refine ah rfl (.pointer (some ⟨c,0,none⟩)) w rfl (by go_simp) ⟨_,rfl,rfl,by simpa[h0] using hS,trivial⟩
  case s2=>
   intro done a w hS h0 hd hn hO hN
   obtain⟨v1,g1,r1⟩:=aj hN 1 71
   obtain rfl:v1=.pointer (some ⟨c,0,none⟩):=r1
   refine ah rfl (.pointer (some ⟨c,0,none⟩)) w rfl (by go_simp) ⟨_,rfl,rfl,by simpa[h0] using hS,trivial⟩
  case s3=>
   intro done a w hS h0 hd hn hO hN
   obtain⟨v2,g2,r2⟩:=aj hN 2 72
   obtain rfl:v2=.pointer (some ⟨c,0,none⟩):=r2
   have hc:=hS.1.tr.c0
   refine ah rfl (.slice (some ⟨bb,oo,none⟩) t.length cp) w rfl (by go_simp) ⟨_,rfl,rfl,by simpa[h0] using hS,trivial⟩
  case s4=>
   intro done a w hS h0 hd hn hO hN
   have kT:a.tmps[10]?=some (.pointer (some ⟨b10,0,none⟩)):=outs hO 10 rfl
   refine ah rfl (.pointer (some ⟨b10,2,none⟩)) w rfl (by go_simp) ⟨_,rfl,rfl,by simpa[h0] using hS,trivial⟩
  case s5=>
   intro done a w hS h0 hd hn hO hN
   obtain⟨v4,g4,r4⟩:=aj hN 4 74
   obtain rfl:v4=.pointer (some ⟨b10,2,none⟩):=r4
   have hc:w.cell? ⟨b10,2,none⟩=some (.int .i64 (xl:Int)):=by rw[<- hx];exact hS.1.n.cell 2
   refine ah rfl (.int .i64 (xl:Int)) w rfl (by go_simp) ⟨_,rfl,rfl,by simpa[h0] using hS,trivial⟩
  case s6=>
   intro done a w hS h0 hd hn hO hN
   obtain⟨v3,g3,r3⟩:=aj hN 3 73
   obtain rfl:v3=.slice (some ⟨bb,oo,none⟩) t.length cp:=r3
   obtain⟨v5,g5,r5⟩:=aj hN 5 75
   obtain rfl:v5=.int .i64 (xl:Int):=r5
   refine ah rfl (.pointer (some ⟨bb,oo+xl * 4,none⟩)) w rfl (by go_simp) ⟨_,rfl,rfl,by simpa[h0] using hS,trivial⟩
  case s7=>
   intro done a w hS h0 hd hn hO hN
   obtain⟨v6,g6,r6⟩:=aj hN 6 76
   obtain rfl:v6=.pointer (some ⟨bb,oo+xl * 4,none⟩):=r6
   have hq:=vP w (jZ.out w hS.1.au xl hxt)
   rw[hny] at hq
   refine ah rfl (.agg (bq ny).toArray) w rfl (by simp[execOp,Act.eval,g6,hq,Result.andThen]) ⟨_,rfl,rfl,by simpa[h0] using hS,trivial⟩
  case s8=>
   intro done a w hS h0 hd hn hO hN
   have Ae:done 9=false:=hn 9 (by decide)
   have hsz:w.heap.size=N9:=by have:=hS.2;simpa[h0,Ae] using this
   have hnw:=aZ w (bq Fm.z).toArray 54
   refine ah rfl (.pointer (some ⟨N9,0,none⟩)) (w.alloc (.cells (bq Fm.z).toArray 54)) rfl (by rw[<- hsz];simp[execOp,Instr.alloc,eP,go_sem,Result.andThen];rfl) ⟨_,rfl,rfl,?_,trivial⟩
   rw[hsz] at hnw
   refine⟨hS.1.later hnw.au,?_⟩
   simp only[Ae,beq_self_eq_true,Bool.true_or,if_true,Bool.or_false,Nat.reduceBEq,Bool.false_eq_true,if_false]
   exact hnw.blk
  case s9=>
   intro done a w hS h0 hd hn hO hN
   obtain⟨v8,g8,r8⟩:=aj hN 8 12
   obtain rfl:v8=.pointer (some ⟨N9,0,none⟩):=r8
   obtain⟨v7,g7,r7⟩:=aj hN 7 77
   obtain rfl:v7=.agg (bq ny).toArray:=r7
   have Kj:done 8=true:=hd 8 (by decide)
   have hcl:Cl w N9 (bq Fm.z).toArray 54:=by have:=hS.2;simpa[h0,Kj] using this
   have hk:=fq w N9 (bq ny).toArray
   refine je rfl rfl 54 (.tmp 12) (.tmp 77) rfl (px:=.pointer (some ⟨N9,0,none⟩)) (vy:=.agg (bq ny).toArray) (by simp[Act.eval,g8]) (by simp[Act.eval,g7]) (EA hcl (by rw[eF];rfl) rfl (dR ny)) ⟨_,rfl,trivial,?_,trivial⟩
   refine⟨⟨hS.1.tr.keep fun k hk2=>hk.block k (hS.1.tr.foot k hk2) (fun e=>by have:=tY.out k hk2;have:=nN.out;omega),Cl.kp (T:=27) hS.1.s hk (fun e=>by have:=nN.out;omega),Cl.kp hS.1.n hk (fun e=>by have:=nN.out;omega),Cl.kp (T:=27) hS.1.z hk (fun e=>by have:=nN.out;omega),aP hS.1.au hk (by have:=nN.out;omega)⟩,?_⟩
   simp only[beq_self_eq_true,Bool.true_or,if_true]
   exact setRow_heap w N9 _ _ _ _ hcl
 case fin=>
  intro vs done w hdone hS hR
  have Af:done 9=true:=hdone 9 (by decide)
  have e12:vs 8=.pointer (some ⟨N9,0,none⟩):=hR 8 (by decide)
  have hS2:=hS
  simp only[Af,if_true] at hS2
  simp only[bg,Act.put,List.setIfInBounds_toArray,List.set_cons_zero,List.set_cons_succ]
  rw[e12]
  have H9:=show Hid ((RP w0 w c (.slice (some ⟨bb,oo,none⟩) t.length cp) t b5 b10 b11 r aG g nd)/\Cl w N9 (bq ny).toArray 54) from hS2
  clear hS hR hdone hS2 e12 Af
  have q2:w.cell? ⟨N9,2,none⟩=some (.int .i64 ny.l):=H9.out.2.cell 2
  have q3:w.cell? ⟨N9,3,none⟩=some (.int .i64 ny.r):=H9.out.2.cell 3
  have d3:w.cell? ⟨b10,3,none⟩=some (.int .i64 nd.r):=H9.out.1.n.cell 3
  go_wp2_with fail
  refine Calls.mono (KI.out w H9.out.1.tr) ?_
  rintro e eY ⟨rfl,u2,iZ,hL2,hK2⟩
  have Dm:aX eY b11 aG g:=(hK2.block b11 (Cl.lt H9.out.1.z) (fun e=>by have:=tY.out b11 e;have:=yI.out;omega)).trans H9.out.1.z
  have HZ:=show Hid (aX eY b11 aG g) from Dm
  have HA:=show Hid (aO w0 c (.slice (some ⟨bb,oo,none⟩) t.length cp) I.2 eY) from⟨u2,iZ,fun k hk=>(hL2 k hk).imp id (fun h=>Nat.le_trans H9.out.1.au.size h),(Kp.of_below H9.out.1.au).trans hK2 (fun i hi=>Or.inl hi)⟩
  clear iZ hL2 hK2 Dm H9 KI q2 q3 d3 jZ nM tY yI nN
  by_cases hz:I.1.2.2=0
  ·have hzb:(I.1.2.2 != 0)=false:=by simpa using hz
   have hib:=vE.out hz
   obtain⟨fa,hfa⟩:∃ f:Nat,I.1.1=f:=⟨I.1.1.toNat,by omega⟩
   obtain⟨fb,BG⟩:∃ f:Nat,I.1.2.1=f:=⟨I.1.2.1.toNat,by omega⟩
   have KW:=show Hid (Calls Tryz.prog 58 #[.agg (ak aG g),.int .i64 I.1.2.1,.int .i64 I.1.2.1] eY fun e w'=>e=.returned (.agg (ak (aA aG [I.1.2.1,I.1.2.1]) g))/\Below eY.heap.size eY w') from by
    have:=jU eY hrs g fb fb (by omega) (by omega)
    rw[<- BG] at this
    exact this
   have Dn:(aA aG [I.1.2.1,I.1.2.1]).length=16:=(dN (dN hrs I.1.2.1) I.1.2.1).1
   clear vE hib hfa BG
   go_wp2_with (refine aJ _ _ rfl b11 rfl HZ.out hl2 rfl ?_)
   refine Calls.mono KW.out ?_
   rintro e jI ⟨rfl,nV⟩
   have HB:=show Hid _ from nV
   clear nV KW HZ
   go_wp2_with (refine jX _ rfl _ rfl rfl Dn ?_)
   go_ret2
   refine⟨_,rfl,Or.inr ⟨jI.heap.size,rfl,(aZ jI _ _).blk⟩,?_⟩
   obtain⟨u3,h1,h2,h3⟩:=HA.out
   have hbb:=aS HB.out (aZ jI (bH [(aA aG [I.1.2.1,I.1.2.1],g)]) 27)
   exact⟨u3,h1.later hbb,h2,h3.trans (Kp.of_below (S:=fun _=>False) hbb) (fun _ hf=>hf.elim)⟩
  ·have hzb:(I.1.2.2 != 0)=true:=by simpa using hz
   clear vE HZ
   go_wp2_with fail
   go_ret2
   exact⟨_,rfl,Or.inl ⟨rfl,rfl⟩,HA.out⟩
theorem Qk (w0:World) {c:Nat} {u:Value} {t:List Nd} (hT:Tr w0 c u t) {r:List Nat} (hr:Ok r) (g:Int) (i:Nat) (hi:i<t.length) (hf:findF t r g 7 (i:Int)=true) (xl:Nat) (hx:t[i].l=xl) (hxt:xl<t.length) (ny:Nd) (hny:t[xl]=ny) :
 Calls Tryz.prog 37 #[.pointer (some ⟨c,0,none⟩),.agg (ak r g),.int .i64 7,.int .i64 (i:Int)] w0 fun e w'=>∃ sv,e=.returned (.tuple #[sv,.int .i64 (dh t ny.l t[i].r ny.r t[i].r).1.2.2])/\eu sv (if (dh t ny.l t[i].r ny.r t[i].r).1.2.2=0 then [(aA (Bt.aQ r (i:Int)) [(dh t ny.l t[i].r ny.r t[i].r).1.1,(dh t ny.l t[i].r ny.r t[i].r).1.2.1],g)] else []) w'/\aO w0 c u (dh t ny.l t[i].r ny.r t[i].r).2 w':=by
 have hl:=hr.1
 have gL:(i:Int)<(t.length:Int):=by omega
 have hlen:=hT.ok.len
 have tY:=show Hid (∀ k,Fr c u k->k<w0.heap.size) from hT.foot
 have hO:=hT.ok
 have KF:=show Hid (∀ W:World,Below w0.heap.size w0 W->Calls Tryz.prog 56 #[.pointer (some ⟨c,0,none⟩),.agg (ak r g),.int .i64 7,.int .i64 (i:Int)] W fun e w'=>e=.returned (.bool true)/\Below W.heap.size W w') from fun W hb=>by
  have:=fK W (hT.later hb) hr g 7 (i:Int)
  rw[hf] at this
  exact this
 have KD:=show Hid (∀ W:World,Calls Tryz.prog 57 #[.agg (Bt.aD r),.int .i64 (i:Int)] W fun e w'=>e=.returned (.agg (Bt.aD (Bt.aQ r (i:Int))))/\Below W.heap.size W w') from fun W=>Bt.gW W hr (i:Int)
 have hrs:Ok (Bt.aQ r (i:Int)):=cZ hr (i:Int)
 have HT:=show Hid (∀ W:World,Below w0.heap.size w0 W->Tr W c u t) from fun W hb=>hT.later hb
 have HC:=show Hid (∀ W:World,Below w0.heap.size w0 W->W.cell? ⟨c,0,none⟩=some u) from fun W hb=>(hT.later hb).c0
 obtain⟨p,cp,hu,hc1,hc2,hat⟩:=hT.row.gT.at
 obtain⟨bb,oo,hp,bF⟩:=hat (by omega)
 subst hp
 have HAT:=show Hid (∀ W:World,Below w0.heap.size w0 W->fH W bb (oo+i * 4) t[i]) from fun W hb=>bF W hb i hi
 have jZ:=show Hid (∀ W:World,Below w0.heap.size w0 W->∀ j (hj:j<t.length),fH W bb (oo+j * 4) t[j]) from fun W hb j hj=>bF W hb j hj
 subst hu
 clear hT hat bF hf
 generalize Bt.aQ r (i:Int)=aG at *
 have hl2:=hrs.1
 have hgx:Fm.i64 t[i].r:=(hO.gd _ (List.getElem_mem hi)).2.2.2
 have qR:=hO.gd _ (List.getElem_mem hxt)
 rw[hny] at qR
 have KI:=show Hid (∀ W:World,Tr W c (.slice (some ⟨bb,oo,none⟩) t.length cp) t->Calls Tryz.prog 59 #[.pointer (some ⟨c,0,none⟩),.int .i64 (ny.l),.int .i64 (t[i].r),.int .i64 (ny.r),.int .i64 (t[i].r)] W fun e w'=>e=.returned (.tuple #[.int .i64 (dh t ny.l t[i].r ny.r t[i].r).1.1,.int .i64 (dh t ny.l t[i].r ny.r t[i].r).1.2.1,.int .i64 (dh t ny.l t[i].r ny.r t[i].r).1.2.2])/\aO W c (.slice (some ⟨bb,oo,none⟩) t.length cp) (dh t ny.l t[i].r ny.r t[i].r).2 w') from fun W h=>Dk W h (ny.l) (t[i].r) (ny.r) (t[i].r) qR.2.2.1 hgx qR.2.2.2 hgx
 have vE:=show Hid ((dh t ny.l t[i].r ny.r t[i].r).1.2.2=0->(0<=(dh t ny.l t[i].r ny.r t[i].r).1.1/\(dh t ny.l t[i].r ny.r t[i].r).1.1<1024)/\(0<=(dh t ny.l t[i].r ny.r t[i].r).1.2.1/\(dh t ny.l t[i].r ny.r t[i].r).1.2.1<1024)) from Fu hO (ny.l) (t[i].r) (ny.r) (t[i].r) qR.2.2.1 hgx
 generalize dh t ny.l t[i].r ny.r t[i].r=I at *
 clear hgx qR hO
 generalize t[i]=nd at *
 go_enter Tryz.func37,Tryz.ntmps37
 go_wp2_with (refine aI 27 _ rfl _ rfl rfl ?_)
 intro w1 b5 hn1
 have H1:=show Hid (dz w0 w1 b5 r g) from⟨hn1.blk,hn1.au,hn1.ge⟩
 clear hn1
 go_wp2_with (refine aJ _ _ rfl b5 rfl H1.out.s hl rfl ?_)
 refine Calls.mono (KF.out _ H1.out.au) ?_
 rintro e w2 ⟨rfl,hb2⟩
 have H2:=show Hid _ from H1.out.later hb2
 have c0:=HC.out w2 H2.out.au
 clear H1 hb2 KF
 go_wp2_with (first|(refine cK _ rfl _ rfl bb (oo+i * 4) rfl (HAT.out w2 H2.out.au) ?_)|(refine aF 54 rfl _ eP rfl ?_))
 intro w3 b10 aM
 go_wp2_with (refine aK 54 rfl rfl _ _ rfl b10 rfl (bq nd).toArray rfl _ _ aM.blk (by rw[eF];rfl) rfl (dR nd) ?_)
 intro w4 hc4 hk4
 have H4:=show Hid (dz w0 w4 b5 r g/\Cl w4 b10 (bq nd).toArray 54/\w0.heap.size<=b10) from by
  have e1:=H2.out.au.size;have e2:=aM.ge;have e3:=Cl.lt H2.out.s
  exact⟨⟨Cl.kp (T:=27) (Cl.new H2.out.s aM) hk4 (by omega),aP (aS H2.out.au aM) hk4 (by omega),H2.out.ge⟩,hc4,by omega⟩
 clear H2 aM hc4 hk4 c0
 go_wp2_with (first|(refine aJ _ _ rfl b5 rfl H4.out.1.s hl rfl ?_)|(refine aF 27 rfl _ fO rfl ?_))
 intro w5 b11 bB
 go_wp2_with (refine aK 27 rfl rfl _ _ rfl b11 rfl (ak r g) rfl _ _ bB.blk (by rw[jG,bI hl]) (by rw[bI hl];rfl) (fA r g) ?_)
 intro w6 hc6 dH
 have H6:=show Hid (dz w0 w6 b5 r g/\Cl w6 b10 (bq nd).toArray 54/\aX w6 b11 r g/\b11≠b5/\b11≠b10/\w0.heap.size<=b11) from by
  have e1:=H4.out.1.au.size;have e2:=bB.ge;have e3:=Cl.lt H4.out.1.s;have e4:=Cl.lt H4.out.2.1
  exact⟨⟨Cl.kp (T:=27) (Cl.new H4.out.1.s bB) dH (by omega),aP (aS H4.out.1.au bB) dH (by omega),H4.out.1.ge⟩,Cl.kp (Cl.new H4.out.2.1 bB) dH (by omega),hc6,by omega,by omega,by omega⟩
 have Ki:=show Hid (w0.heap.size<=b10) from H4.out.2.2
 clear H4 bB hc6 dH
 go_wp2_with (refine bN _ rfl _ rfl b5 0 rfl H6.out.1.s.dL hl ?_)
 refine Calls.mono (KD.out w6) ?_
 rintro e w7 ⟨rfl,bO⟩
 have hs7:aX w7 b11 r g:=H6.out.2.2.1.later bO H6.out.2.2.1.lt
 go_wp2_with (refine eG _ rfl rfl _ _ rfl b11 rfl rfl hs7 hl hl2 ?_)
 intro w8 iK bD
 have dJ:=show Hid (dz w0 w8 b5 r g/\Cl w8 b10 (bq nd).toArray 54) from
  ⟨⟨Cl.kp (T:=27) (H6.out.1.later bO).s bD (fun e=>H6.out.2.2.2.1 e.symm),aP (H6.out.1.later bO).au bD H6.out.2.2.2.2.2,H6.out.1.ge⟩,Cl.kp (H6.out.2.1.later bO) bD (fun e=>H6.out.2.2.2.2.1 e.symm)⟩
 have H8:=show Hid (RP w0 w8 c (.slice (some ⟨bb,oo,none⟩) t.length cp) t b5 b10 b11 r aG g nd) from⟨HT.out w8 dJ.out.1.au,dJ.out.1.s,dJ.out.2,iK,dJ.out.1.au⟩
 have yI:=show Hid (w0.heap.size<=b5/\w0.heap.size<=b10/\w0.heap.size<=b11) from⟨H6.out.1.ge,Ki.out,H6.out.2.2.2.2.2⟩
 clear dJ H6 bO hs7 iK bD KD HT
 have d2:w8.cell? ⟨b10,2,none⟩=some (.int .i64 nd.l):=H8.out.n.cell 2
 have d3:w8.cell? ⟨b10,3,none⟩=some (.int .i64 nd.r):=H8.out.n.cell 3
 obtain⟨N9,vF⟩:∃ n,n=w8.heap.size:=⟨_,rfl⟩
 have nM:=show Hid (w8.heap.size=N9) from vF.symm
 have nN:=show Hid (w0.heap.size<=N9/\b5<N9/\b10<N9/\b11<N9) from by
  have e1:=H8.out.au.size;have e2:=Cl.lt H8.out.s;have e3:=Cl.lt H8.out.n;have e4:=Cl.lt H8.out.z
  rw[vF]
  exact⟨e1,e2,e3,e4⟩
 clear vF HC HAT d2 d3
 go_wp2_with fail
 refine bC (by kernel_rfl) [some 100,some 101,some 102,some 103,some 104,some 105,some 106,some 107,some 16,none] [[],[0],[1],[2],[],[4],[3,5],[6],[],[8,7]] (by kernel_rfl) (fun i v w=>match i with | 0=>v=.pointer (some ⟨c,0,none⟩) | 1=>v=.pointer (some ⟨c,0,none⟩) | 2=>v=.pointer (some ⟨c,0,none⟩) | 3=>v=.slice (some ⟨bb,oo,none⟩) t.length cp | 4=>v=.pointer (some ⟨b10,2,none⟩) | 5=>v=.int .i64 (xl:Int) | 6=>v=.pointer (some ⟨bb,oo+xl * 4,none⟩) | 7=>v=.agg (bq ny).toArray | 8=>v=.pointer (some ⟨N9,0,none⟩) | 9=>True | _=>True) (fun done W=>RP w0 W c (.slice (some ⟨bb,oo,none⟩) t.length cp) t b5 b10 b11 r aG g nd/\(if done 9 then Cl W N9 (bq ny).toArray 54 else if done 8 then Cl W N9 (bq Fm.z).toArray 54 else W.heap.size=N9)) (fun _ _=>True) ?hle (⟨H8.out.drew,by simp only[Bool.false_eq_true,if_false];exact nM.out⟩) (bR 10 ?steps) ?fin
 case hle=>
  intro i v w w1 hl h
  match i,h with
  | 0,h=>exact h
  | 1,h=>exact h
  | 2,h=>exact h
  | 3,h=>exact h
  | 4,h=>exact h
  | 5,h=>exact h
  | 6,h=>exact h
  | 7,h=>exact h
  | 8,h=>exact h
  | 9,h=>exact h
  | _+10,h=>trivial
 case steps=>
  refine⟨⟨⟨⟨⟨⟨⟨⟨⟨⟨trivial,?s0⟩,?s1⟩,?s2⟩,?s3⟩,?s4⟩,?s5⟩,?s6⟩,?s7⟩,?s8⟩,?s9⟩
  case s0=>
   intro done a w hS h0 hd hn hO hN
   have o0:a.tmps[0]?=some (.pointer (some ⟨c,0,none⟩)):=outs hO 0 rfl
   refine ah rfl (.pointer (some ⟨c,0,none⟩)) w rfl (by go_simp) ⟨_,rfl,rfl,by simpa[h0] using hS,trivial⟩
  case s1=>
   intro done a w hS h0 hd hn hO hN
   obtain⟨v0,g0,r0⟩:=aj hN 0 100
   obtain rfl:v0=.pointer (some ⟨c,0,none⟩):=r0
   refine ah rfl (.pointer (some ⟨c,0,none⟩)) w rfl (by go_simp) ⟨_,rfl,rfl,by simpa[h0] using hS,trivial⟩
  case s2=>
   intro done a w hS h0 hd hn hO hN
   obtain⟨v1,g1,r1⟩:=aj hN 1 101
   obtain rfl:v1=.pointer (some ⟨c,0,none⟩):=r1
   refine ah rfl (.pointer (some ⟨c,0,none⟩)) w rfl (by go_simp) ⟨_,rfl,rfl,by simpa[h0] using hS,trivial⟩
  case s3=>
   intro done a w hS h0 hd hn hO hN
   obtain⟨v2,g2,r2⟩:=aj hN 2 102
   obtain rfl:v2=.pointer (some ⟨c,0,none⟩):=r2
   have hc:=hS.1.tr.c0
   refine ah rfl (.slice (some ⟨bb,oo,none⟩) t.length cp) w rfl (by go_simp) ⟨_,rfl,rfl,by simpa[h0] using hS,trivial⟩
  case s4=>
   intro done a w hS h0 hd hn hO hN
   have kT:a.tmps[10]?=some (.pointer (some ⟨b10,0,none⟩)):=outs hO 10 rfl
   refine ah rfl (.pointer (some ⟨b10,2,none⟩)) w rfl (by go_simp) ⟨_,rfl,rfl,by simpa[h0] using hS,trivial⟩
  case s5=>
   intro done a w hS h0 hd hn hO hN
   obtain⟨v4,g4,r4⟩:=aj hN 4 104
   obtain rfl:v4=.pointer (some ⟨b10,2,none⟩):=r4
   have hc:w.cell? ⟨b10,2,none⟩=some (.int .i64 (xl:Int)):=by rw[<- hx];exact hS.1.n.cell 2
   refine ah rfl (.int .i64 (xl:Int)) w rfl (by go_simp) ⟨_,rfl,rfl,by simpa[h0] using hS,trivial⟩
  case s6=>
   intro done a w hS h0 hd hn hO hN
   obtain⟨v3,g3,r3⟩:=aj hN 3 103
   obtain rfl:v3=.slice (some ⟨bb,oo,none⟩) t.length cp:=r3
   obtain⟨v5,g5,r5⟩:=aj hN 5 105
   obtain rfl:v5=.int .i64 (xl:Int):=r5
   refine ah rfl (.pointer (some ⟨bb,oo+xl * 4,none⟩)) w rfl (by go_simp) ⟨_,rfl,rfl,by simpa[h0] using hS,trivial⟩
  case s7=>
   intro done a w hS h0 hd hn hO hN
   obtain⟨v6,g6,r6⟩:=aj hN 6 106
   obtain rfl:v6=.pointer (some ⟨bb,oo+xl * 4,none⟩):=r6
   have hq:=vP w (jZ.out w hS.1.au xl hxt)
   rw[hny] at hq
   refine ah rfl (.agg (bq ny).toArray) w rfl (by simp[execOp,Act.eval,g6,hq,Result.andThen]) ⟨_,rfl,rfl,by simpa[h0] using hS,trivial⟩
  case s8=>
   intro done a w hS h0 hd hn hO hN
   have Ae:done 9=false:=hn 9 (by decide)
   have hsz:w.heap.size=N9:=by have:=hS.2;simpa[h0,Ae] using this
   have hnw:=aZ w (bq Fm.z).toArray 54
   refine ah rfl (.pointer (some ⟨N9,0,none⟩)) (w.alloc (.cells (bq Fm.z).toArray 54)) rfl (by rw[<- hsz];simp[execOp,Instr.alloc,eP,go_sem,Result.andThen];rfl) ⟨_,rfl,rfl,?_,trivial⟩
   rw[hsz] at hnw
   refine⟨hS.1.later hnw.au,?_⟩
   simp only[Ae,beq_self_eq_true,Bool.true_or,if_true,Bool.or_false,Nat.reduceBEq,Bool.false_eq_true,if_false]
   exact hnw.blk
  case s9=>
   intro done a w hS h0 hd hn hO hN
   obtain⟨v8,g8,r8⟩:=aj hN 8 16
   obtain rfl:v8=.pointer (some ⟨N9,0,none⟩):=r8
   obtain⟨v7,g7,r7⟩:=aj hN 7 107
   obtain rfl:v7=.agg (bq ny).toArray:=r7
   have Kj:done 8=true:=hd 8 (by decide)
   have hcl:Cl w N9 (bq Fm.z).toArray 54:=by have:=hS.2;simpa[h0,Kj] using this
   have hk:=fq w N9 (bq ny).toArray
   refine je rfl rfl 54 (.tmp 16) (.tmp 107) rfl (px:=.pointer (some ⟨N9,0,none⟩)) (vy:=.agg (bq ny).toArray) (by simp[Act.eval,g8]) (by simp[Act.eval,g7]) (EA hcl (by rw[eF];rfl) rfl (dR ny)) ⟨_,rfl,trivial,?_,trivial⟩
   refine⟨⟨hS.1.tr.keep fun k hk2=>hk.block k (hS.1.tr.foot k hk2) (fun e=>by have:=tY.out k hk2;have:=nN.out;omega),Cl.kp (T:=27) hS.1.s hk (fun e=>by have:=nN.out;omega),Cl.kp hS.1.n hk (fun e=>by have:=nN.out;omega),Cl.kp (T:=27) hS.1.z hk (fun e=>by have:=nN.out;omega),aP hS.1.au hk (by have:=nN.out;omega)⟩,?_⟩
   simp only[beq_self_eq_true,Bool.true_or,if_true]
   exact setRow_heap w N9 _ _ _ _ hcl
 case fin=>
  intro vs done w hdone hS hR
  have Af:done 9=true:=hdone 9 (by decide)
  have e12:vs 8=.pointer (some ⟨N9,0,none⟩):=hR 8 (by decide)
  have hS2:=hS
  simp only[Af,if_true] at hS2
  simp only[bg,Act.put,List.setIfInBounds_toArray,List.set_cons_zero,List.set_cons_succ]
  rw[e12]
  have H9:=show Hid ((RP w0 w c (.slice (some ⟨bb,oo,none⟩) t.length cp) t b5 b10 b11 r aG g nd)/\Cl w N9 (bq ny).toArray 54) from hS2
  clear hS hR hdone hS2 e12 Af
  have q2:w.cell? ⟨N9,2,none⟩=some (.int .i64 ny.l):=H9.out.2.cell 2
  have q3:w.cell? ⟨N9,3,none⟩=some (.int .i64 ny.r):=H9.out.2.cell 3
  have d3:w.cell? ⟨b10,3,none⟩=some (.int .i64 nd.r):=H9.out.1.n.cell 3
  go_wp2_with fail
  refine Calls.mono (KI.out w H9.out.1.tr) ?_
  rintro e eY ⟨rfl,u2,iZ,hL2,hK2⟩
  have Dm:aX eY b11 aG g:=(hK2.block b11 (Cl.lt H9.out.1.z) (fun e=>by have:=tY.out b11 e;have:=yI.out;omega)).trans H9.out.1.z
  have HZ:=show Hid (aX eY b11 aG g) from Dm
  have HA:=show Hid (aO w0 c (.slice (some ⟨bb,oo,none⟩) t.length cp) I.2 eY) from⟨u2,iZ,fun k hk=>(hL2 k hk).imp id (fun h=>Nat.le_trans H9.out.1.au.size h),(Kp.of_below H9.out.1.au).trans hK2 (fun i hi=>Or.inl hi)⟩
  clear iZ hL2 hK2 Dm H9 KI q2 q3 d3 jZ nM tY yI nN
  by_cases hz:I.1.2.2=0
  ·have hzb:(I.1.2.2 != 0)=false:=by simpa using hz
   have hib:=vE.out hz
   obtain⟨fa,hfa⟩:∃ f:Nat,I.1.1=f:=⟨I.1.1.toNat,by omega⟩
   obtain⟨fb,BG⟩:∃ f:Nat,I.1.2.1=f:=⟨I.1.2.1.toNat,by omega⟩
   have KW:=show Hid (Calls Tryz.prog 58 #[.agg (ak aG g),.int .i64 I.1.1,.int .i64 I.1.2.1] eY fun e w'=>e=.returned (.agg (ak (aA aG [I.1.1,I.1.2.1]) g))/\Below eY.heap.size eY w') from by
    have:=jU eY hrs g fa fb (by omega) (by omega)
    rw[<- hfa,<- BG] at this
    exact this
   have Dn:(aA aG [I.1.1,I.1.2.1]).length=16:=(dN (dN hrs I.1.1) I.1.2.1).1
   clear vE hib hfa BG
   go_wp2_with (refine aJ _ _ rfl b11 rfl HZ.out hl2 rfl ?_)
   refine Calls.mono KW.out ?_
   rintro e jI ⟨rfl,nV⟩
   have HB:=show Hid _ from nV
   clear nV KW HZ
   go_wp2_with (refine jX _ rfl _ rfl rfl Dn ?_)
   go_ret2
   refine⟨_,rfl,Or.inr ⟨jI.heap.size,rfl,(aZ jI _ _).blk⟩,?_⟩
   obtain⟨u3,h1,h2,h3⟩:=HA.out
   have hbb:=aS HB.out (aZ jI (bH [(aA aG [I.1.1,I.1.2.1],g)]) 27)
   exact⟨u3,h1.later hbb,h2,h3.trans (Kp.of_below (S:=fun _=>False) hbb) (fun _ hf=>hf.elim)⟩
  ·have hzb:(I.1.2.2 != 0)=true:=by simpa using hz
   clear vE HZ
   go_wp2_with fail
   go_ret2
   exact⟨_,rfl,Or.inl ⟨rfl,rfl⟩,HA.out⟩
end Go.Proofs.YtkejippimkjjaaaGreatDoor
