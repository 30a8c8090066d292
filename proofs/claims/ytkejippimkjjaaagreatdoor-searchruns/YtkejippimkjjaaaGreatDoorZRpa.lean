import Derived.Test.YtkejippimkjjaaaGreatDoorZP1
set_option linter.unusedSimpArgs false
set_option maxRecDepth 100000
set_option maxHeartbeats 4000000
namespace Go.Proofs.YtkejippimkjjaaaGreatDoor
open Go.RowKit Go.Shelf Go.Maps
open Fm (Nd)
open Bt.Bs (Ok wd)
theorem Ql (w:World) {c:Nat} {u:Value} {t:List Nd} (hT:Tr w c u t) {r:List Nat} (hr:Ok r) (g:Int) (i:Nat) (hi:i<t.length) (hf:findF t r g 1 (i:Int)=true) :
 Calls Tryz.prog 37 #[.pointer (some ⟨c,0,none⟩),.agg (ak r g),.int .i64 1,.int .i64 (i:Int)] w fun e w'=>e=.returned (.tuple #[.slice none 0 0,.int .i64 0])/\Below w.heap.size w w':=by
 have hl:=hr.1
 have gL:(i:Int)<(t.length:Int):=by omega
 have hlen:=hT.ok.len
 have KF:=show Hid (∀ W:World,Below w.heap.size w W->Calls Tryz.prog 56 #[.pointer (some ⟨c,0,none⟩),.agg (ak r g),.int .i64 1,.int .i64 (i:Int)] W fun e w'=>e=.returned (.bool true)/\Below W.heap.size W w') from fun W hb=>by
  have:=fK W (hT.later hb) hr g 1 (i:Int)
  rw[hf] at this
  exact this
 have KD:=show Hid (∀ W:World,Calls Tryz.prog 57 #[.agg (Bt.aD r),.int .i64 (i:Int)] W fun e w'=>e=.returned (.agg (Bt.aD (Bt.aQ r (i:Int))))/\Below W.heap.size W w') from fun W=>Bt.gW W hr (i:Int)
 have hrs:Ok (Bt.aQ r (i:Int)):=cZ hr (i:Int)
 have HT:=show Hid (∀ W:World,Below w.heap.size w W->Tr W c u t) from fun W hb=>hT.later hb
 have HC:=show Hid (∀ W:World,Below w.heap.size w W->W.cell? ⟨c,0,none⟩=some u) from fun W hb=>(hT.later hb).c0
 obtain⟨p,cp,hu,hc1,hc2,hat⟩:=hT.row.gT.at
 obtain⟨bb,oo,hp,bF⟩:=hat (by omega)
 subst hp
 have HAT:=show Hid (∀ W:World,Below w.heap.size w W->fH W bb (oo+i * 4) t[i]) from fun W hb=>bF W hb i hi
 have jZ:=show Hid (∀ W:World,Below w.heap.size w W->∀ j (hj:j<t.length),fH W bb (oo+j * 4) t[j]) from fun W hb j hj=>bF W hb j hj
 subst hu
 clear hT hat bF hf
 generalize Bt.aQ r (i:Int)=aG at *
 have hl2:=hrs.1
 generalize t[i]=nd at *
 go_enter Tryz.func37,Tryz.ntmps37
 go_wp2_with (refine aI 27 _ rfl _ rfl rfl ?_)
 intro w1 b5 hn1
 have H1:=show Hid (dz w w1 b5 r g) from⟨hn1.blk,hn1.au,hn1.ge⟩
 clear hn1
 go_wp2_with (refine aJ _ _ rfl b5 rfl H1.out.s hl rfl ?_)
 refine Calls.mono (KF.out _ H1.out.au) ?_
 rintro e w2 ⟨rfl,hb2⟩
 have H2:=show Hid _ from H1.out.later hb2
 have c0:=HC.out w2 H2.out.au
 clear H1 hb2 KF
 go_wp2_with (first|(refine cK _ rfl _ rfl bb (oo+i * 4) rfl (HAT.out w2 H2.out.au) ?_)|(refine aF 54 rfl _ eP rfl ?_))
 intro w3 b10 aM
 go_wp2_with (refine aK 54 rfl rfl _ _ rfl b10 rfl (bq nd).toArray rfl _ _ aM.blk (by rw[eF];rfl) rfl (dR nd) ?_)
 intro w4 hc4 hk4
 have H4:=show Hid (dz w w4 b5 r g/\Cl w4 b10 (bq nd).toArray 54/\w.heap.size<=b10) from by
  have e1:=H2.out.au.size;have e2:=aM.ge;have e3:=Cl.lt H2.out.s
  exact⟨⟨Cl.kp (T:=27) (Cl.new H2.out.s aM) hk4 (by omega),aP (aS H2.out.au aM) hk4 (by omega),H2.out.ge⟩,hc4,by omega⟩
 clear H2 aM hc4 hk4 c0
 go_wp2_with (first|(refine aJ _ _ rfl b5 rfl H4.out.1.s hl rfl ?_)|(refine aF 27 rfl _ fO rfl ?_))
 intro w5 b11 bB
 go_wp2_with (refine aK 27 rfl rfl _ _ rfl b11 rfl (ak r g) rfl _ _ bB.blk (by rw[jG,bI hl]) (by rw[bI hl];rfl) (fA r g) ?_)
 intro w6 hc6 dH
 have H6:=show Hid (dz w w6 b5 r g/\Cl w6 b10 (bq nd).toArray 54/\aX w6 b11 r g/\b11≠b5/\b11≠b10/\w.heap.size<=b11) from by
  have e1:=H4.out.1.au.size;have e2:=bB.ge;have e3:=Cl.lt H4.out.1.s;have e4:=Cl.lt H4.out.2.1
  exact⟨⟨Cl.kp (T:=27) (Cl.new H4.out.1.s bB) dH (by omega),aP (aS H4.out.1.au bB) dH (by omega),H4.out.1.ge⟩,Cl.kp (Cl.new H4.out.2.1 bB) dH (by omega),hc6,by omega,by omega,by omega⟩
 clear H4 bB hc6 dH
 go_wp2_with (refine bN _ rfl _ rfl b5 0 rfl H6.out.1.s.dL hl ?_)
 refine Calls.mono (KD.out w6) ?_
 rintro e w7 ⟨rfl,bO⟩
 have hs7:aX w7 b11 r g:=H6.out.2.2.1.later bO H6.out.2.2.1.lt
 go_wp2_with (refine eG _ rfl rfl _ _ rfl b11 rfl rfl hs7 hl hl2 ?_)
 intro w8 iK bD
 have dJ:=show Hid (dz w w8 b5 r g/\Cl w8 b10 (bq nd).toArray 54) from
  ⟨⟨Cl.kp (T:=27) (H6.out.1.later bO).s bD (fun e=>H6.out.2.2.2.1 e.symm),aP (H6.out.1.later bO).au bD H6.out.2.2.2.2.2,H6.out.1.ge⟩,Cl.kp (H6.out.2.1.later bO) bD (fun e=>H6.out.2.2.2.2.1 e.symm)⟩
 have H8:=show Hid (RP w w8 c (.slice (some ⟨bb,oo,none⟩) t.length cp) t b5 b10 b11 r aG g nd) from⟨HT.out w8 dJ.out.1.au,dJ.out.1.s,dJ.out.2,iK,dJ.out.1.au⟩
 clear dJ H6 bO hs7 iK bD KD HT
 have d2:w8.cell? ⟨b10,2,none⟩=some (.int .i64 nd.l):=H8.out.n.cell 2
 have d3:w8.cell? ⟨b10,3,none⟩=some (.int .i64 nd.r):=H8.out.n.cell 3
 have HB:=show Hid _ from H8.out.au
 clear H8 HC HAT jZ
 go_wp2_with fail
 go_ret2
 exact⟨rfl,HB.out⟩
theorem Qm (w:World) {c:Nat} {u:Value} {t:List Nd} (hT:Tr w c u t) {r:List Nat} (hr:Ok r) (g:Int) (i:Nat) (hi:i<t.length) (hf:findF t r g 2 (i:Int)=true) :
 Calls Tryz.prog 37 #[.pointer (some ⟨c,0,none⟩),.agg (ak r g),.int .i64 2,.int .i64 (i:Int)] w fun e w'=>e=.returned (.tuple #[.slice none 0 0,.int .i64 0])/\Below w.heap.size w w':=by
 have hl:=hr.1
 have gL:(i:Int)<(t.length:Int):=by omega
 have hlen:=hT.ok.len
 have KF:=show Hid (∀ W:World,Below w.heap.size w W->Calls Tryz.prog 56 #[.pointer (some ⟨c,0,none⟩),.agg (ak r g),.int .i64 2,.int .i64 (i:Int)] W fun e w'=>e=.returned (.bool true)/\Below W.heap.size W w') from fun W hb=>by
  have:=fK W (hT.later hb) hr g 2 (i:Int)
  rw[hf] at this
  exact this
 have KD:=show Hid (∀ W:World,Calls Tryz.prog 57 #[.agg (Bt.aD r),.int .i64 (i:Int)] W fun e w'=>e=.returned (.agg (Bt.aD (Bt.aQ r (i:Int))))/\Below W.heap.size W w') from fun W=>Bt.gW W hr (i:Int)
 have hrs:Ok (Bt.aQ r (i:Int)):=cZ hr (i:Int)
 have HT:=show Hid (∀ W:World,Below w.heap.size w W->Tr W c u t) from fun W hb=>hT.later hb
 have HC:=show Hid (∀ W:World,Below w.heap.size w W->W.cell? ⟨c,0,none⟩=some u) from fun W hb=>(hT.later hb).c0
 obtain⟨p,cp,hu,hc1,hc2,hat⟩:=hT.row.gT.at
 obtain⟨bb,oo,hp,bF⟩:=hat (by omega)
 subst hp
 have HAT:=show Hid (∀ W:World,Below w.heap.size w W->fH W bb (oo+i * 4) t[i]) from fun W hb=>bF W hb i hi
 have jZ:=show Hid (∀ W:World,Below w.heap.size w W->∀ j (hj:j<t.length),fH W bb (oo+j * 4) t[j]) from fun W hb j hj=>bF W hb j hj
 subst hu
 clear hT hat bF hf
 generalize Bt.aQ r (i:Int)=aG at *
 have hl2:=hrs.1
 generalize t[i]=nd at *
 go_enter Tryz.func37,Tryz.ntmps37
 go_wp2_with (refine aI 27 _ rfl _ rfl rfl ?_)
 intro w1 b5 hn1
 have H1:=show Hid (dz w w1 b5 r g) from⟨hn1.blk,hn1.au,hn1.ge⟩
 clear hn1
 go_wp2_with (refine aJ _ _ rfl b5 rfl H1.out.s hl rfl ?_)
 refine Calls.mono (KF.out _ H1.out.au) ?_
 rintro e w2 ⟨rfl,hb2⟩
 have H2:=show Hid _ from H1.out.later hb2
 have c0:=HC.out w2 H2.out.au
 clear H1 hb2 KF
 go_wp2_with (first|(refine cK _ rfl _ rfl bb (oo+i * 4) rfl (HAT.out w2 H2.out.au) ?_)|(refine aF 54 rfl _ eP rfl ?_))
 intro w3 b10 aM
 go_wp2_with (refine aK 54 rfl rfl _ _ rfl b10 rfl (bq nd).toArray rfl _ _ aM.blk (by rw[eF];rfl) rfl (dR nd) ?_)
 intro w4 hc4 hk4
 have H4:=show Hid (dz w w4 b5 r g/\Cl w4 b10 (bq nd).toArray 54/\w.heap.size<=b10) from by
  have e1:=H2.out.au.size;have e2:=aM.ge;have e3:=Cl.lt H2.out.s
  exact⟨⟨Cl.kp (T:=27) (Cl.new H2.out.s aM) hk4 (by omega),aP (aS H2.out.au aM) hk4 (by omega),H2.out.ge⟩,hc4,by omega⟩
 clear H2 aM hc4 hk4 c0
 go_wp2_with (first|(refine aJ _ _ rfl b5 rfl H4.out.1.s hl rfl ?_)|(refine aF 27 rfl _ fO rfl ?_))
 intro w5 b11 bB
 go_wp2_with (refine aK 27 rfl rfl _ _ rfl b11 rfl (ak r g) rfl _ _ bB.blk (by rw[jG,bI hl]) (by rw[bI hl];rfl) (fA r g) ?_)
 intro w6 hc6 dH
 have H6:=show Hid (dz w w6 b5 r g/\Cl w6 b10 (bq nd).toArray 54/\aX w6 b11 r g/\b11≠b5/\b11≠b10/\w.heap.size<=b11) from by
  have e1:=H4.out.1.au.size;have e2:=bB.ge;have e3:=Cl.lt H4.out.1.s;have e4:=Cl.lt H4.out.2.1
  exact⟨⟨Cl.kp (T:=27) (Cl.new H4.out.1.s bB) dH (by omega),aP (aS H4.out.1.au bB) dH (by omega),H4.out.1.ge⟩,Cl.kp (Cl.new H4.out.2.1 bB) dH (by omega),hc6,by omega,by omega,by omega⟩
 clear H4 bB hc6 dH
 go_wp2_with (refine bN _ rfl _ rfl b5 0 rfl H6.out.1.s.dL hl ?_)
 refine Calls.mono (KD.out w6) ?_
 rintro e w7 ⟨rfl,bO⟩
 have hs7:aX w7 b11 r g:=H6.out.2.2.1.later bO H6.out.2.2.1.lt
 go_wp2_with (refine eG _ rfl rfl _ _ rfl b11 rfl rfl hs7 hl hl2 ?_)
 intro w8 iK bD
 have dJ:=show Hid (dz w w8 b5 r g/\Cl w8 b10 (bq nd).toArray 54) from
  ⟨⟨Cl.kp (T:=27) (H6.out.1.later bO).s bD (fun e=>H6.out.2.2.2.1 e.symm),aP (H6.out.1.later bO).au bD H6.out.2.2.2.2.2,H6.out.1.ge⟩,Cl.kp (H6.out.2.1.later bO) bD (fun e=>H6.out.2.2.2.2.1 e.symm)⟩
 have H8:=show Hid (RP w w8 c (.slice (some ⟨bb,oo,none⟩) t.length cp) t b5 b10 b11 r aG g nd) from⟨HT.out w8 dJ.out.1.au,dJ.out.1.s,dJ.out.2,iK,dJ.out.1.au⟩
 clear dJ H6 bO hs7 iK bD KD HT
 have d2:w8.cell? ⟨b10,2,none⟩=some (.int .i64 nd.l):=H8.out.n.cell 2
 have d3:w8.cell? ⟨b10,3,none⟩=some (.int .i64 nd.r):=H8.out.n.cell 3
 have HB:=show Hid _ from H8.out.au
 clear H8 HC HAT jZ
 go_wp2_with fail
 go_ret2
 exact⟨rfl,HB.out⟩
theorem Qn (w:World) {c:Nat} {u:Value} {t:List Nd} (hT:Tr w c u t) {r:List Nat} (hr:Ok r) (g:Int) (i:Nat) (hi:i<t.length) (hf:findF t r g 3 (i:Int)=true) (x y:Nat) (hx:t[i].l=x) (hy:t[i].r=y) (hxl:x<1024) (hyl:y<1024) :
 Calls Tryz.prog 37 #[.pointer (some ⟨c,0,none⟩),.agg (ak r g),.int .i64 3,.int .i64 (i:Int)] w fun e w'=>∃ sv,e=.returned (.tuple #[sv,.int .i64 0])/\bW sv [(aA (Bt.aQ r (i:Int)) [(x:Int),(y:Int)],g)] w'/\Below w.heap.size w w':=by
 have hl:=hr.1
 have gL:(i:Int)<(t.length:Int):=by omega
 have hlen:=hT.ok.len
 have KF:=show Hid (∀ W:World,Below w.heap.size w W->Calls Tryz.prog 56 #[.pointer (some ⟨c,0,none⟩),.agg (ak r g),.int .i64 3,.int .i64 (i:Int)] W fun e w'=>e=.returned (.bool true)/\Below W.heap.size W w') from fun W hb=>by
  have:=fK W (hT.later hb) hr g 3 (i:Int)
  rw[hf] at this
  exact this
 have KD:=show Hid (∀ W:World,Calls Tryz.prog 57 #[.agg (Bt.aD r),.int .i64 (i:Int)] W fun e w'=>e=.returned (.agg (Bt.aD (Bt.aQ r (i:Int))))/\Below W.heap.size W w') from fun W=>Bt.gW W hr (i:Int)
 have hrs:Ok (Bt.aQ r (i:Int)):=cZ hr (i:Int)
 have HT:=show Hid (∀ W:World,Below w.heap.size w W->Tr W c u t) from fun W hb=>hT.later hb
 have HC:=show Hid (∀ W:World,Below w.heap.size w W->W.cell? ⟨c,0,none⟩=some u) from fun W hb=>(hT.later hb).c0
 obtain⟨p,cp,hu,hc1,hc2,hat⟩:=hT.row.gT.at
 obtain⟨bb,oo,hp,bF⟩:=hat (by omega)
 subst hp
 have HAT:=show Hid (∀ W:World,Below w.heap.size w W->fH W bb (oo+i * 4) t[i]) from fun W hb=>bF W hb i hi
 have jZ:=show Hid (∀ W:World,Below w.heap.size w W->∀ j (hj:j<t.length),fH W bb (oo+j * 4) t[j]) from fun W hb j hj=>bF W hb j hj
 subst hu
 clear hT hat bF hf
 generalize Bt.aQ r (i:Int)=aG at *
 have hl2:=hrs.1
 have KW:=show Hid (∀ W:World,Calls Tryz.prog 58 #[.agg (ak aG g),.int .i64 (x:Int),.int .i64 (y:Int)] W fun e w'=>e=.returned (.agg (ak (aA aG [(x:Int),(y:Int)]) g))/\Below W.heap.size W w') from fun W=>jU W hrs g x y hxl hyl
 have Dn:(aA aG [(x:Int),(y:Int)]).length=16:=(dN (dN hrs (x:Int)) (y:Int)).1
 generalize aA aG [(x:Int),(y:Int)]=Za at *
 generalize t[i]=nd at *
 go_enter Tryz.func37,Tryz.ntmps37
 go_wp2_with (refine aI 27 _ rfl _ rfl rfl ?_)
 intro w1 b5 hn1
 have H1:=show Hid (dz w w1 b5 r g) from⟨hn1.blk,hn1.au,hn1.ge⟩
 clear hn1
 go_wp2_with (refine aJ _ _ rfl b5 rfl H1.out.s hl rfl ?_)
 refine Calls.mono (KF.out _ H1.out.au) ?_
 rintro e w2 ⟨rfl,hb2⟩
 have H2:=show Hid _ from H1.out.later hb2
 have c0:=HC.out w2 H2.out.au
 clear H1 hb2 KF
 go_wp2_with (first|(refine cK _ rfl _ rfl bb (oo+i * 4) rfl (HAT.out w2 H2.out.au) ?_)|(refine aF 54 rfl _ eP rfl ?_))
 intro w3 b10 aM
 go_wp2_with (refine aK 54 rfl rfl _ _ rfl b10 rfl (bq nd).toArray rfl _ _ aM.blk (by rw[eF];rfl) rfl (dR nd) ?_)
 intro w4 hc4 hk4
 have H4:=show Hid (dz w w4 b5 r g/\Cl w4 b10 (bq nd).toArray 54/\w.heap.size<=b10) from by
  have e1:=H2.out.au.size;have e2:=aM.ge;have e3:=Cl.lt H2.out.s
  exact⟨⟨Cl.kp (T:=27) (Cl.new H2.out.s aM) hk4 (by omega),aP (aS H2.out.au aM) hk4 (by omega),H2.out.ge⟩,hc4,by omega⟩
 clear H2 aM hc4 hk4 c0
 go_wp2_with (first|(refine aJ _ _ rfl b5 rfl H4.out.1.s hl rfl ?_)|(refine aF 27 rfl _ fO rfl ?_))
 intro w5 b11 bB
 go_wp2_with (refine aK 27 rfl rfl _ _ rfl b11 rfl (ak r g) rfl _ _ bB.blk (by rw[jG,bI hl]) (by rw[bI hl];rfl) (fA r g) ?_)
 intro w6 hc6 dH
 have H6:=show Hid (dz w w6 b5 r g/\Cl w6 b10 (bq nd).toArray 54/\aX w6 b11 r g/\b11≠b5/\b11≠b10/\w.heap.size<=b11) from by
  have e1:=H4.out.1.au.size;have e2:=bB.ge;have e3:=Cl.lt H4.out.1.s;have e4:=Cl.lt H4.out.2.1
  exact⟨⟨Cl.kp (T:=27) (Cl.new H4.out.1.s bB) dH (by omega),aP (aS H4.out.1.au bB) dH (by omega),H4.out.1.ge⟩,Cl.kp (Cl.new H4.out.2.1 bB) dH (by omega),hc6,by omega,by omega,by omega⟩
 clear H4 bB hc6 dH
 go_wp2_with (refine bN _ rfl _ rfl b5 0 rfl H6.out.1.s.dL hl ?_)
 refine Calls.mono (KD.out w6) ?_
 rintro e w7 ⟨rfl,bO⟩
 have hs7:aX w7 b11 r g:=H6.out.2.2.1.later bO H6.out.2.2.1.lt
 go_wp2_with (refine eG _ rfl rfl _ _ rfl b11 rfl rfl hs7 hl hl2 ?_)
 intro w8 iK bD
 have dJ:=show Hid (dz w w8 b5 r g/\Cl w8 b10 (bq nd).toArray 54) from
  ⟨⟨Cl.kp (T:=27) (H6.out.1.later bO).s bD (fun e=>H6.out.2.2.2.1 e.symm),aP (H6.out.1.later bO).au bD H6.out.2.2.2.2.2,H6.out.1.ge⟩,Cl.kp (H6.out.2.1.later bO) bD (fun e=>H6.out.2.2.2.2.1 e.symm)⟩
 have H8:=show Hid (RP w w8 c (.slice (some ⟨bb,oo,none⟩) t.length cp) t b5 b10 b11 r aG g nd) from⟨HT.out w8 dJ.out.1.au,dJ.out.1.s,dJ.out.2,iK,dJ.out.1.au⟩
 clear dJ H6 bO hs7 iK bD KD HT
 have d2:w8.cell? ⟨b10,2,none⟩=some (.int .i64 nd.l):=H8.out.n.cell 2
 have d3:w8.cell? ⟨b10,3,none⟩=some (.int .i64 nd.r):=H8.out.n.cell 3
 rw[hx] at d2
 rw[hy] at d3
 clear HC HAT jZ
 go_wp2_with (refine aJ _ _ rfl b11 rfl H8.out.z hl2 rfl ?_)
 refine Calls.mono (KW.out w8) ?_
 rintro e w9 ⟨rfl,jh⟩
 have HB:=show Hid _ from(H8.out.later jh).au
 clear H8 jh KW
 go_wp2_with (refine jX _ rfl _ rfl rfl Dn ?_)
 go_ret2
 exact⟨_,rfl,⟨w9.heap.size,rfl,(aZ w9 _ _).blk⟩,aS HB.out (aZ w9 _ _)⟩
theorem Qo (w:World) {c:Nat} {u:Value} {t:List Nd} (hT:Tr w c u t) {r:List Nat} (hr:Ok r) (g:Int) (i:Nat) (hi:i<t.length) (hf:findF t r g 4 (i:Int)=true) (x y:Nat) (_hx:t[i].l=x) (hy:t[i].r=y) (_hxl:x<1024) (hyl:y<1024) :
 Calls Tryz.prog 37 #[.pointer (some ⟨c,0,none⟩),.agg (ak r g),.int .i64 4,.int .i64 (i:Int)] w fun e w'=>∃ sv,e=.returned (.tuple #[sv,.int .i64 0])/\bW sv [(aA (Bt.aQ r (i:Int)) [(y:Int),(y:Int)],g)] w'/\Below w.heap.size w w':=by
 have hl:=hr.1
 have gL:(i:Int)<(t.length:Int):=by omega
 have hlen:=hT.ok.len
 have KF:=show Hid (∀ W:World,Below w.heap.size w W->Calls Tryz.prog 56 #[.pointer (some ⟨c,0,none⟩),.agg (ak r g),.int .i64 4,.int .i64 (i:Int)] W fun e w'=>e=.returned (.bool true)/\Below W.heap.size W w') from fun W hb=>by
  have:=fK W (hT.later hb) hr g 4 (i:Int)
  rw[hf] at this
  exact this
 have KD:=show Hid (∀ W:World,Calls Tryz.prog 57 #[.agg (Bt.aD r),.int .i64 (i:Int)] W fun e w'=>e=.returned (.agg (Bt.aD (Bt.aQ r (i:Int))))/\Below W.heap.size W w') from fun W=>Bt.gW W hr (i:Int)
 have hrs:Ok (Bt.aQ r (i:Int)):=cZ hr (i:Int)
 have HT:=show Hid (∀ W:World,Below w.heap.size w W->Tr W c u t) from fun W hb=>hT.later hb
 have HC:=show Hid (∀ W:World,Below w.heap.size w W->W.cell? ⟨c,0,none⟩=some u) from fun W hb=>(hT.later hb).c0
 obtain⟨p,cp,hu,hc1,hc2,hat⟩:=hT.row.gT.at
 obtain⟨bb,oo,hp,bF⟩:=hat (by omega)
 subst hp
 have HAT:=show Hid (∀ W:World,Below w.heap.size w W->fH W bb (oo+i * 4) t[i]) from fun W hb=>bF W hb i hi
 have jZ:=show Hid (∀ W:World,Below w.heap.size w W->∀ j (hj:j<t.length),fH W bb (oo+j * 4) t[j]) from fun W hb j hj=>bF W hb j hj
 subst hu
 clear hT hat bF hf
 generalize Bt.aQ r (i:Int)=aG at *
 have hl2:=hrs.1
 have KW:=show Hid (∀ W:World,Calls Tryz.prog 58 #[.agg (ak aG g),.int .i64 (y:Int),.int .i64 (y:Int)] W fun e w'=>e=.returned (.agg (ak (aA aG [(y:Int),(y:Int)]) g))/\Below W.heap.size W w') from fun W=>jU W hrs g y y hyl hyl
 have Dn:(aA aG [(y:Int),(y:Int)]).length=16:=(dN (dN hrs (y:Int)) (y:Int)).1
 generalize aA aG [(y:Int),(y:Int)]=Za at *
 generalize t[i]=nd at *
 go_enter Tryz.func37,Tryz.ntmps37
 go_wp2_with (refine aI 27 _ rfl _ rfl rfl ?_)
 intro w1 b5 hn1
 have H1:=show Hid (dz w w1 b5 r g) from⟨hn1.blk,hn1.au,hn1.ge⟩
 clear hn1
 go_wp2_with (refine aJ _ _ rfl b5 rfl H1.out.s hl rfl ?_)
 refine Calls.mono (KF.out _ H1.out.au) ?_
 rintro e w2 ⟨rfl,hb2⟩
 have H2:=show Hid _ from H1.out.later hb2
 have c0:=HC.out w2 H2.out.au
 clear H1 hb2 KF
 go_wp2_with (first|(refine cK _ rfl _ rfl bb (oo+i * 4) rfl (HAT.out w2 H2.out.au) ?_)|(refine aF 54 rfl _ eP rfl ?_))
 intro w3 b10 aM
 go_wp2_with (refine aK 54 rfl rfl _ _ rfl b10 rfl (bq nd).toArray rfl _ _ aM.blk (by rw[eF];rfl) rfl (dR nd) ?_)
 intro w4 hc4 hk4
 have H4:=show Hid (dz w w4 b5 r g/\Cl w4 b10 (bq nd).toArray 54/\w.heap.size<=b10) from by
  have e1:=H2.out.au.size;have e2:=aM.ge;have e3:=Cl.lt H2.out.s
  exact⟨⟨Cl.kp (T:=27) (Cl.new H2.out.s aM) hk4 (by omega),aP (aS H2.out.au aM) hk4 (by omega),H2.out.ge⟩,hc4,by omega⟩
 clear H2 aM hc4 hk4 c0
 go_wp2_with (first|(refine aJ _ _ rfl b5 rfl H4.out.1.s hl rfl ?_)|(refine aF 27 rfl _ fO rfl ?_))
 intro w5 b11 bB
 go_wp2_with (refine aK 27 rfl rfl _ _ rfl b11 rfl (ak r g) rfl _ _ bB.blk (by rw[jG,bI hl]) (by rw[bI hl];rfl) (fA r g) ?_)
 intro w6 hc6 dH
 have H6:=show Hid (dz w w6 b5 r g/\Cl w6 b10 (bq nd).toArray 54/\aX w6 b11 r g/\b11≠b5/\b11≠b10/\w.heap.size<=b11) from by
  have e1:=H4.out.1.au.size;have e2:=bB.ge;have e3:=Cl.lt H4.out.1.s;have e4:=Cl.lt H4.out.2.1
  exact⟨⟨Cl.kp (T:=27) (Cl.new H4.out.1.s bB) dH (by omega),aP (aS H4.out.1.au bB) dH (by omega),H4.out.1.ge⟩,Cl.kp (Cl.new H4.out.2.1 bB) dH (by omega),hc6,by omega,by omega,by omega⟩
 clear H4 bB hc6 dH
 go_wp2_with (refine bN _ rfl _ rfl b5 0 rfl H6.out.1.s.dL hl ?_)
 refine Calls.mono (KD.out w6) ?_
 rintro e w7 ⟨rfl,bO⟩
 have hs7:aX w7 b11 r g:=H6.out.2.2.1.later bO H6.out.2.2.1.lt
 go_wp2_with (refine eG _ rfl rfl _ _ rfl b11 rfl rfl hs7 hl hl2 ?_)
 intro w8 iK bD
 have dJ:=show Hid (dz w w8 b5 r g/\Cl w8 b10 (bq nd).toArray 54) from
  ⟨⟨Cl.kp (T:=27) (H6.out.1.later bO).s bD (fun e=>H6.out.2.2.2.1 e.symm),aP (H6.out.1.later bO).au bD H6.out.2.2.2.2.2,H6.out.1.ge⟩,Cl.kp (H6.out.2.1.later bO) bD (fun e=>H6.out.2.2.2.2.1 e.symm)⟩
 have H8:=show Hid (RP w w8 c (.slice (some ⟨bb,oo,none⟩) t.length cp) t b5 b10 b11 r aG g nd) from⟨HT.out w8 dJ.out.1.au,dJ.out.1.s,dJ.out.2,iK,dJ.out.1.au⟩
 clear dJ H6 bO hs7 iK bD KD HT
 have d2:w8.cell? ⟨b10,2,none⟩=some (.int .i64 nd.l):=H8.out.n.cell 2
 have d3:w8.cell? ⟨b10,3,none⟩=some (.int .i64 nd.r):=H8.out.n.cell 3
 rw[hy] at d3
 clear HC HAT jZ
 go_wp2_with (refine aJ _ _ rfl b11 rfl H8.out.z hl2 rfl ?_)
 refine Calls.mono (KW.out w8) ?_
 rintro e w9 ⟨rfl,jh⟩
 have HB:=show Hid _ from(H8.out.later jh).au
 clear H8 jh KW
 go_wp2_with (refine jX _ rfl _ rfl rfl Dn ?_)
 go_ret2
 exact⟨_,rfl,⟨w9.heap.size,rfl,(aZ w9 _ _).blk⟩,aS HB.out (aZ w9 _ _)⟩
theorem Qp (w:World) {c:Nat} {u:Value} {t:List Nd} (hT:Tr w c u t) {r:List Nat} (hr:Ok r) (g:Int) (i:Nat) (hi:i<t.length) (hf:findF t r g 5 (i:Int)=true) :
 Calls Tryz.prog 37 #[.pointer (some ⟨c,0,none⟩),.agg (ak r g),.int .i64 5,.int .i64 (i:Int)] w fun e w'=>∃ sv,e=.returned (.tuple #[sv,.int .i64 0])/\bW sv [(Bt.aQ r (i:Int),g)] w'/\Below w.heap.size w w':=by
 have hl:=hr.1
 have gL:(i:Int)<(t.length:Int):=by omega
 have hlen:=hT.ok.len
 have KF:=show Hid (∀ W:World,Below w.heap.size w W->Calls Tryz.prog 56 #[.pointer (some ⟨c,0,none⟩),.agg (ak r g),.int .i64 5,.int .i64 (i:Int)] W fun e w'=>e=.returned (.bool true)/\Below W.heap.size W w') from fun W hb=>by
  have:=fK W (hT.later hb) hr g 5 (i:Int)
  rw[hf] at this
  exact this
 have KD:=show Hid (∀ W:World,Calls Tryz.prog 57 #[.agg (Bt.aD r),.int .i64 (i:Int)] W fun e w'=>e=.returned (.agg (Bt.aD (Bt.aQ r (i:Int))))/\Below W.heap.size W w') from fun W=>Bt.gW W hr (i:Int)
 have hrs:Ok (Bt.aQ r (i:Int)):=cZ hr (i:Int)
 have HT:=show Hid (∀ W:World,Below w.heap.size w W->Tr W c u t) from fun W hb=>hT.later hb
 have HC:=show Hid (∀ W:World,Below w.heap.size w W->W.cell? ⟨c,0,none⟩=some u) from fun W hb=>(hT.later hb).c0
 obtain⟨p,cp,hu,hc1,hc2,hat⟩:=hT.row.gT.at
 obtain⟨bb,oo,hp,bF⟩:=hat (by omega)
 subst hp
 have HAT:=show Hid (∀ W:World,Below w.heap.size w W->fH W bb (oo+i * 4) t[i]) from fun W hb=>bF W hb i hi
 have jZ:=show Hid (∀ W:World,Below w.heap.size w W->∀ j (hj:j<t.length),fH W bb (oo+j * 4) t[j]) from fun W hb j hj=>bF W hb j hj
 subst hu
 clear hT hat bF hf
 generalize Bt.aQ r (i:Int)=aG at *
 have hl2:=hrs.1
 generalize t[i]=nd at *
 go_enter Tryz.func37,Tryz.ntmps37
 go_wp2_with (refine aI 27 _ rfl _ rfl rfl ?_)
 intro w1 b5 hn1
 have H1:=show Hid (dz w w1 b5 r g) from⟨hn1.blk,hn1.au,hn1.ge⟩
 clear hn1
 go_wp2_with (refine aJ _ _ rfl b5 rfl H1.out.s hl rfl ?_)
 refine Calls.mono (KF.out _ H1.out.au) ?_
 rintro e w2 ⟨rfl,hb2⟩
 have H2:=show Hid _ from H1.out.later hb2
 have c0:=HC.out w2 H2.out.au
 clear H1 hb2 KF
 go_wp2_with (first|(refine cK _ rfl _ rfl bb (oo+i * 4) rfl (HAT.out w2 H2.out.au) ?_)|(refine aF 54 rfl _ eP rfl ?_))
 intro w3 b10 aM
 go_wp2_with (refine aK 54 rfl rfl _ _ rfl b10 rfl (bq nd).toArray rfl _ _ aM.blk (by rw[eF];rfl) rfl (dR nd) ?_)
 intro w4 hc4 hk4
 have H4:=show Hid (dz w w4 b5 r g/\Cl w4 b10 (bq nd).toArray 54/\w.heap.size<=b10) from by
  have e1:=H2.out.au.size;have e2:=aM.ge;have e3:=Cl.lt H2.out.s
  exact⟨⟨Cl.kp (T:=27) (Cl.new H2.out.s aM) hk4 (by omega),aP (aS H2.out.au aM) hk4 (by omega),H2.out.ge⟩,hc4,by omega⟩
 clear H2 aM hc4 hk4 c0
 go_wp2_with (first|(refine aJ _ _ rfl b5 rfl H4.out.1.s hl rfl ?_)|(refine aF 27 rfl _ fO rfl ?_))
 intro w5 b11 bB
 go_wp2_with (refine aK 27 rfl rfl _ _ rfl b11 rfl (ak r g) rfl _ _ bB.blk (by rw[jG,bI hl]) (by rw[bI hl];rfl) (fA r g) ?_)
 intro w6 hc6 dH
 have H6:=show Hid (dz w w6 b5 r g/\Cl w6 b10 (bq nd).toArray 54/\aX w6 b11 r g/\b11≠b5/\b11≠b10/\w.heap.size<=b11) from by
  have e1:=H4.out.1.au.size;have e2:=bB.ge;have e3:=Cl.lt H4.out.1.s;have e4:=Cl.lt H4.out.2.1
  exact⟨⟨Cl.kp (T:=27) (Cl.new H4.out.1.s bB) dH (by omega),aP (aS H4.out.1.au bB) dH (by omega),H4.out.1.ge⟩,Cl.kp (Cl.new H4.out.2.1 bB) dH (by omega),hc6,by omega,by omega,by omega⟩
 clear H4 bB hc6 dH
 go_wp2_with (refine bN _ rfl _ rfl b5 0 rfl H6.out.1.s.dL hl ?_)
 refine Calls.mono (KD.out w6) ?_
 rintro e w7 ⟨rfl,bO⟩
 have hs7:aX w7 b11 r g:=H6.out.2.2.1.later bO H6.out.2.2.1.lt
 go_wp2_with (refine eG _ rfl rfl _ _ rfl b11 rfl rfl hs7 hl hl2 ?_)
 intro w8 iK bD
 have dJ:=show Hid (dz w w8 b5 r g/\Cl w8 b10 (bq nd).toArray 54) from
  ⟨⟨Cl.kp (T:=27) (H6.out.1.later bO).s bD (fun e=>H6.out.2.2.2.1 e.symm),aP (H6.out.1.later bO).au bD H6.out.2.2.2.2.2,H6.out.1.ge⟩,Cl.kp (H6.out.2.1.later bO) bD (fun e=>H6.out.2.2.2.2.1 e.symm)⟩
 have H8:=show Hid (RP w w8 c (.slice (some ⟨bb,oo,none⟩) t.length cp) t b5 b10 b11 r aG g nd) from⟨HT.out w8 dJ.out.1.au,dJ.out.1.s,dJ.out.2,iK,dJ.out.1.au⟩
 clear dJ H6 bO hs7 iK bD KD HT
 have d2:w8.cell? ⟨b10,2,none⟩=some (.int .i64 nd.l):=H8.out.n.cell 2
 have d3:w8.cell? ⟨b10,3,none⟩=some (.int .i64 nd.r):=H8.out.n.cell 3
 clear HC HAT jZ
 go_wp2_with (first|(refine aJ _ _ rfl b11 rfl H8.out.z hl2 rfl ?_)|(refine jX _ rfl _ rfl rfl hl2 ?_))
 go_ret2
 exact⟨_,rfl,⟨w8.heap.size,rfl,(aZ w8 _ _).blk⟩,aS H8.out.au (aZ w8 _ _)⟩
theorem Ni (w:World) {c:Nat} {u:Value} {t:List Nd} (hT:Tr w c u t) {r:List Nat} (hr:Ok r) (g:Int) (i:Nat) (hi:i<t.length) (hf:findF t r g 11 (i:Int)=true) :
 Calls Tryz.prog 37 #[.pointer (some ⟨c,0,none⟩),.agg (ak r g),.int .i64 11,.int .i64 (i:Int)] w fun e w'=>∃ sv,e=.returned (.tuple #[sv,.int .i64 0])/\bW sv [(r,t[i].l)] w'/\Below w.heap.size w w':=by
 have hl:=hr.1
 have gL:(i:Int)<(t.length:Int):=by omega
 have hlen:=hT.ok.len
 have KF:=show Hid (∀ W:World,Below w.heap.size w W->Calls Tryz.prog 56 #[.pointer (some ⟨c,0,none⟩),.agg (ak r g),.int .i64 11,.int .i64 (i:Int)] W fun e w'=>e=.returned (.bool true)/\Below W.heap.size W w') from fun W hb=>by
  have:=fK W (hT.later hb) hr g 11 (i:Int)
  rw[hf] at this
  exact this
 have KD:=show Hid (∀ W:World,Calls Tryz.prog 57 #[.agg (Bt.aD r),.int .i64 (i:Int)] W fun e w'=>e=.returned (.agg (Bt.aD (Bt.aQ r (i:Int))))/\Below W.heap.size W w') from fun W=>Bt.gW W hr (i:Int)
 have hrs:Ok (Bt.aQ r (i:Int)):=cZ hr (i:Int)
 have HT:=show Hid (∀ W:World,Below w.heap.size w W->Tr W c u t) from fun W hb=>hT.later hb
 have HC:=show Hid (∀ W:World,Below w.heap.size w W->W.cell? ⟨c,0,none⟩=some u) from fun W hb=>(hT.later hb).c0
 obtain⟨p,cp,hu,hc1,hc2,hat⟩:=hT.row.gT.at
 obtain⟨bb,oo,hp,bF⟩:=hat (by omega)
 subst hp
 have HAT:=show Hid (∀ W:World,Below w.heap.size w W->fH W bb (oo+i * 4) t[i]) from fun W hb=>bF W hb i hi
 have jZ:=show Hid (∀ W:World,Below w.heap.size w W->∀ j (hj:j<t.length),fH W bb (oo+j * 4) t[j]) from fun W hb j hj=>bF W hb j hj
 subst hu
 clear hT hat bF hf
 generalize Bt.aQ r (i:Int)=aG at *
 have hl2:=hrs.1
 generalize t[i]=nd at *
 go_enter Tryz.func37,Tryz.ntmps37
 go_wp2_with (refine aI 27 _ rfl _ rfl rfl ?_)
 intro w1 b5 hn1
 have H1:=show Hid (dz w w1 b5 r g) from⟨hn1.blk,hn1.au,hn1.ge⟩
 clear hn1
 go_wp2_with (refine aJ _ _ rfl b5 rfl H1.out.s hl rfl ?_)
 refine Calls.mono (KF.out _ H1.out.au) ?_
 rintro e w2 ⟨rfl,hb2⟩
 have H2:=show Hid _ from H1.out.later hb2
 have c0:=HC.out w2 H2.out.au
 clear H1 hb2 KF
 go_wp2_with (first|(refine cK _ rfl _ rfl bb (oo+i * 4) rfl (HAT.out w2 H2.out.au) ?_)|(refine aF 54 rfl _ eP rfl ?_))
 intro w3 b10 aM
 go_wp2_with (refine aK 54 rfl rfl _ _ rfl b10 rfl (bq nd).toArray rfl _ _ aM.blk (by rw[eF];rfl) rfl (dR nd) ?_)
 intro w4 hc4 hk4
 have H4:=show Hid (dz w w4 b5 r g/\Cl w4 b10 (bq nd).toArray 54/\w.heap.size<=b10) from by
  have e1:=H2.out.au.size;have e2:=aM.ge;have e3:=Cl.lt H2.out.s
  exact⟨⟨Cl.kp (T:=27) (Cl.new H2.out.s aM) hk4 (by omega),aP (aS H2.out.au aM) hk4 (by omega),H2.out.ge⟩,hc4,by omega⟩
 clear H2 aM hc4 hk4 c0
 go_wp2_with (first|(refine aJ _ _ rfl b5 rfl H4.out.1.s hl rfl ?_)|(refine aF 27 rfl _ fO rfl ?_))
 intro w5 b11 bB
 go_wp2_with (refine aK 27 rfl rfl _ _ rfl b11 rfl (ak r g) rfl _ _ bB.blk (by rw[jG,bI hl]) (by rw[bI hl];rfl) (fA r g) ?_)
 intro w6 hc6 dH
 have H6:=show Hid (dz w w6 b5 r g/\Cl w6 b10 (bq nd).toArray 54/\aX w6 b11 r g/\b11≠b5/\b11≠b10/\w.heap.size<=b11) from by
  have e1:=H4.out.1.au.size;have e2:=bB.ge;have e3:=Cl.lt H4.out.1.s;have e4:=Cl.lt H4.out.2.1
  exact⟨⟨Cl.kp (T:=27) (Cl.new H4.out.1.s bB) dH (by omega),aP (aS H4.out.1.au bB) dH (by omega),H4.out.1.ge⟩,Cl.kp (Cl.new H4.out.2.1 bB) dH (by omega),hc6,by omega,by omega,by omega⟩
 clear H4 bB hc6 dH
 go_wp2_with (refine bN _ rfl _ rfl b5 0 rfl H6.out.1.s.dL hl ?_)
 refine Calls.mono (KD.out w6) ?_
 rintro e w7 ⟨rfl,bO⟩
 have hs7:aX w7 b11 r g:=H6.out.2.2.1.later bO H6.out.2.2.1.lt
 go_wp2_with (refine eG _ rfl rfl _ _ rfl b11 rfl rfl hs7 hl hl2 ?_)
 intro w8 iK bD
 have dJ:=show Hid (dz w w8 b5 r g/\Cl w8 b10 (bq nd).toArray 54) from
  ⟨⟨Cl.kp (T:=27) (H6.out.1.later bO).s bD (fun e=>H6.out.2.2.2.1 e.symm),aP (H6.out.1.later bO).au bD H6.out.2.2.2.2.2,H6.out.1.ge⟩,Cl.kp (H6.out.2.1.later bO) bD (fun e=>H6.out.2.2.2.2.1 e.symm)⟩
 have H8:=show Hid (RP w w8 c (.slice (some ⟨bb,oo,none⟩) t.length cp) t b5 b10 b11 r aG g nd) from⟨HT.out w8 dJ.out.1.au,dJ.out.1.s,dJ.out.2,iK,dJ.out.1.au⟩
 clear dJ H6 bO hs7 iK bD KD HT
 have d2:w8.cell? ⟨b10,2,none⟩=some (.int .i64 nd.l):=H8.out.n.cell 2
 have d3:w8.cell? ⟨b10,3,none⟩=some (.int .i64 nd.r):=H8.out.n.cell 3
 have KW:=show Hid (∀ W:World,Calls Tryz.prog 60 #[.agg (ak r g),.int .i64 nd.l] W fun e w'=>e=.returned (.agg (ak r nd.l))/\Below W.heap.size W w') from fun W=>qA W hl g nd.l
 clear HC HAT jZ
 go_wp2_with (refine aJ _ _ rfl b5 rfl H8.out.s hl rfl ?_)
 refine Calls.mono (KW.out w8) ?_
 rintro e w9 ⟨rfl,jh⟩
 have HB:=show Hid _ from(H8.out.later jh).au
 clear H8 jh KW
 go_wp2_with (refine jX _ rfl _ rfl rfl hl ?_)
 go_ret2
 exact⟨_,rfl,⟨w9.heap.size,rfl,(aZ w9 _ _).blk⟩,aS HB.out (aZ w9 _ _)⟩
theorem Nj (w:World) {c:Nat} {u:Value} {t:List Nd} (hT:Tr w c u t) {r:List Nat} (hr:Ok r) (g:Int) (i:Nat) (hi:i<t.length) (hf:findF t r g 12 (i:Int)=true) :
 Calls Tryz.prog 37 #[.pointer (some ⟨c,0,none⟩),.agg (ak r g),.int .i64 12,.int .i64 (i:Int)] w fun e w'=>∃ sv,e=.returned (.tuple #[sv,.int .i64 0])/\bW sv [(r,t[i].r)] w'/\Below w.heap.size w w':=by
 have hl:=hr.1
 have gL:(i:Int)<(t.length:Int):=by omega
 have hlen:=hT.ok.len
 have KF:=show Hid (∀ W:World,Below w.heap.size w W->Calls Tryz.prog 56 #[.pointer (some ⟨c,0,none⟩),.agg (ak r g),.int .i64 12,.int .i64 (i:Int)] W fun e w'=>e=.returned (.bool true)/\Below W.heap.size W w') from fun W hb=>by
  have:=fK W (hT.later hb) hr g 12 (i:Int)
  rw[hf] at this
  exact this
 have KD:=show Hid (∀ W:World,Calls Tryz.prog 57 #[.agg (Bt.aD r),.int .i64 (i:Int)] W fun e w'=>e=.returned (.agg (Bt.aD (Bt.aQ r (i:Int))))/\Below W.heap.size W w') from fun W=>Bt.gW W hr (i:Int)
 have hrs:Ok (Bt.aQ r (i:Int)):=cZ hr (i:Int)
 have HT:=show Hid (∀ W:World,Below w.heap.size w W->Tr W c u t) from fun W hb=>hT.later hb
 have HC:=show Hid (∀ W:World,Below w.heap.size w W->W.cell? ⟨c,0,none⟩=some u) from fun W hb=>(hT.later hb).c0
 obtain⟨p,cp,hu,hc1,hc2,hat⟩:=hT.row.gT.at
 obtain⟨bb,oo,hp,bF⟩:=hat (by omega)
 subst hp
 have HAT:=show Hid (∀ W:World,Below w.heap.size w W->fH W bb (oo+i * 4) t[i]) from fun W hb=>bF W hb i hi
 have jZ:=show Hid (∀ W:World,Below w.heap.size w W->∀ j (hj:j<t.length),fH W bb (oo+j * 4) t[j]) from fun W hb j hj=>bF W hb j hj
 subst hu
 clear hT hat bF hf
 generalize Bt.aQ r (i:Int)=aG at *
 have hl2:=hrs.1
 generalize t[i]=nd at *
 go_enter Tryz.func37,Tryz.ntmps37
 go_wp2_with (refine aI 27 _ rfl _ rfl rfl ?_)
 intro w1 b5 hn1
 have H1:=show Hid (dz w w1 b5 r g) from⟨hn1.blk,hn1.au,hn1.ge⟩
 clear hn1
 go_wp2_with (refine aJ _ _ rfl b5 rfl H1.out.s hl rfl ?_)
 refine Calls.mono (KF.out _ H1.out.au) ?_
 rintro e w2 ⟨rfl,hb2⟩
 have H2:=show Hid _ from H1.out.later hb2
 have c0:=HC.out w2 H2.out.au
 clear H1 hb2 KF
 go_wp2_with (first|(refine cK _ rfl _ rfl bb (oo+i * 4) rfl (HAT.out w2 H2.out.au) ?_)|(refine aF 54 rfl _ eP rfl ?_))
 intro w3 b10 aM
 go_wp2_with (refine aK 54 rfl rfl _ _ rfl b10 rfl (bq nd).toArray rfl _ _ aM.blk (by rw[eF];rfl) rfl (dR nd) ?_)
 intro w4 hc4 hk4
 have H4:=show Hid (dz w w4 b5 r g/\Cl w4 b10 (bq nd).toArray 54/\w.heap.size<=b10) from by
  have e1:=H2.out.au.size;have e2:=aM.ge;have e3:=Cl.lt H2.out.s
  exact⟨⟨Cl.kp (T:=27) (Cl.new H2.out.s aM) hk4 (by omega),aP (aS H2.out.au aM) hk4 (by omega),H2.out.ge⟩,hc4,by omega⟩
 clear H2 aM hc4 hk4 c0
 go_wp2_with (first|(refine aJ _ _ rfl b5 rfl H4.out.1.s hl rfl ?_)|(refine aF 27 rfl _ fO rfl ?_))
 intro w5 b11 bB
 go_wp2_with (refine aK 27 rfl rfl _ _ rfl b11 rfl (ak r g) rfl _ _ bB.blk (by rw[jG,bI hl]) (by rw[bI hl];rfl) (fA r g) ?_)
 intro w6 hc6 dH
 have H6:=show Hid (dz w w6 b5 r g/\Cl w6 b10 (bq nd).toArray 54/\aX w6 b11 r g/\b11≠b5/\b11≠b10/\w.heap.size<=b11) from by
  have e1:=H4.out.1.au.size;have e2:=bB.ge;have e3:=Cl.lt H4.out.1.s;have e4:=Cl.lt H4.out.2.1
  exact⟨⟨Cl.kp (T:=27) (Cl.new H4.out.1.s bB) dH (by omega),aP (aS H4.out.1.au bB) dH (by omega),H4.out.1.ge⟩,Cl.kp (Cl.new H4.out.2.1 bB) dH (by omega),hc6,by omega,by omega,by omega⟩
 clear H4 bB hc6 dH
 go_wp2_with (refine bN _ rfl _ rfl b5 0 rfl H6.out.1.s.dL hl ?_)
 refine Calls.mono (KD.out w6) ?_
 rintro e w7 ⟨rfl,bO⟩
 have hs7:aX w7 b11 r g:=H6.out.2.2.1.later bO H6.out.2.2.1.lt
 go_wp2_with (refine eG _ rfl rfl _ _ rfl b11 rfl rfl hs7 hl hl2 ?_)
 intro w8 iK bD
 have dJ:=show Hid (dz w w8 b5 r g/\Cl w8 b10 (bq nd).toArray 54) from
  ⟨⟨Cl.kp (T:=27) (H6.out.1.later bO).s bD (fun e=>H6.out.2.2.2.1 e.symm),aP (H6.out.1.later bO).au bD H6.out.2.2.2.2.2,H6.out.1.ge⟩,Cl.kp (H6.out.2.1.later bO) bD (fun e=>H6.out.2.2.2.2.1 e.symm)⟩
 have H8:=show Hid (RP w w8 c (.slice (some ⟨bb,oo,none⟩) t.length cp) t b5 b10 b11 r aG g nd) from⟨HT.out w8 dJ.out.1.au,dJ.out.1.s,dJ.out.2,iK,dJ.out.1.au⟩
 clear dJ H6 bO hs7 iK bD KD HT
 have d2:w8.cell? ⟨b10,2,none⟩=some (.int .i64 nd.l):=H8.out.n.cell 2
 have d3:w8.cell? ⟨b10,3,none⟩=some (.int .i64 nd.r):=H8.out.n.cell 3
 have KW:=show Hid (∀ W:World,Calls Tryz.prog 60 #[.agg (ak r g),.int .i64 nd.r] W fun e w'=>e=.returned (.agg (ak r nd.r))/\Below W.heap.size W w') from fun W=>qA W hl g nd.r
 clear HC HAT jZ
 go_wp2_with (refine aJ _ _ rfl b5 rfl H8.out.s hl rfl ?_)
 refine Calls.mono (KW.out w8) ?_
 rintro e w9 ⟨rfl,jh⟩
 have HB:=show Hid _ from(H8.out.later jh).au
 clear H8 jh KW
 go_wp2_with (refine jX _ rfl _ rfl rfl hl ?_)
 go_ret2
 exact⟨_,rfl,⟨w9.heap.size,rfl,(aZ w9 _ _).blk⟩,aS HB.out (aZ w9 _ _)⟩
end Go.Proofs.YtkejippimkjjaaaGreatDoor
