import Derived.Test.YtkejippimkjjaaaGreatDoorZR1
set_option linter.unusedSimpArgs false
set_option maxRecDepth 100000
set_option maxHeartbeats 4000000
namespace Go.Proofs.YtkejippimkjjaaaGreatDoor
open Go.RowKit Go.Shelf Go.Maps
open Fm (Nd)
open Bt.Bs (Ok wd)
theorem Qd (w:World) {c:Nat} {u:Value} {t:List Nd} (hT:Tr w c u t) {r:List Nat} (hr:Ok r) (g:Int) (i:Nat) (hi:i<t.length) :
 Calls Tryz.prog 56 #[.pointer (some ⟨c,0,none⟩),.agg (ak r g),.int .i64 4,.int .i64 (i:Int)] w fun e w'=>e=.returned (.bool (Bt.Bs.bX r (i:Int) && (t[i].k == 5) && ((aB t t[i].l).k == 1) && Bt.Bs.bX r t[i].l))/\Below w.heap.size w w':=by
 have hl:=hr.1
 have gL:(i:Int)<(t.length:Int):=by omega
 have hlen:=hT.ok.len
 have KH:=show Hid (∀ W:World,Below w.heap.size w W->Calls Tryz.prog 33 #[.pointer (some ⟨c,0,none⟩),.int .i64 (i:Int)] W fun e w''=>e=.returned (.bool true)/\w''=W) from fun W hb=>by
  have:=cB W (hT.later hb) (i:Int)
  rw[Fm.bJ.2 ⟨by omega,gL⟩] at this
  exact this
 have KS:=show Hid (∀ (W:World) (x:Int),Calls Tryz.prog 53 #[.agg (Bt.aD r),.int .i64 x] W fun e w'=>e=.returned (.bool (Bt.Bs.bX r x))/\Below W.heap.size W w') from fun W x=>(Bt.cB W hr x).mono fun e w' h=>⟨h.1,by rw[h.2];exact av W _⟩
 have KK:=show Hid (∀ (W:World) (j:Nat) (hj:j<t.length),Below w.heap.size w W->Calls Tryz.prog 100 #[.pointer (some ⟨c,0,none⟩),.int .i64 (j:Int)] W fun e w'=>e=.returned (.int .i64 t[j].k)/\w'=W) from fun W j hj hb=>fV W (hT.later hb) j hj
 have dQ:=show Hid (t[i].k=5->∃ x:Nat,∃ hx:x<t.length,t[i].l=(x:Int)/\(aB t t[i].l).k=t[x].k) from fun h5=>by
  obtain⟨x,y,hx,_,hxi,_⟩:=kids hT.ok hi (Or.inr (Or.inr h5))
  exact⟨x,by omega,hx,by rw[hx,aY (by omega)]⟩
 have HC:=show Hid (∀ W:World,Below w.heap.size w W->W.cell? ⟨c,0,none⟩=some u) from fun W hb=>(hT.later hb).c0
 obtain⟨p,cp,rfl,hc1,hc2,hat⟩:=hT.row.gT.at
 obtain⟨bb,oo,rfl,bF⟩:=hat (by omega)
 have HAT:=show Hid (∀ W:World,Below w.heap.size w W->fH W bb (oo+i * 4) t[i]) from fun W hb=>bF W hb i hi
 clear hT hat bF hr
 obtain⟨res,hres⟩:∃ res,res=(Bt.Bs.bX r (i:Int) && (t[i].k == 5) && ((aB t t[i].l).k == 1) && Bt.Bs.bX r t[i].l):=⟨_,rfl⟩
 rw[<- hres]
 have dn:=show Hid _ from hres
 clear hres
 generalize t[i]=nd at *
 go_enter Tryz.func56,Tryz.ntmps56
 go_wp2_with (refine aI 27 _ rfl _ rfl rfl ?_)
 intro w1 b5 hn1
 go_wp2_with fail
 refine Calls.mono (KH.out _ hn1.au) ?_
 rintro e w2 ⟨rfl,hw⟩
 subst w2
 have c0:=HC.out w1 hn1.au
 have H1:=show Hid (dz w w1 b5 r g) from⟨hn1.blk,hn1.au,hn1.ge⟩
 clear hn1 KH
 go_wp2_with (first|(refine cK _ rfl _ rfl bb (oo+i * 4) rfl (HAT.out w1 H1.out.au) ?_)|(refine aF 54 rfl _ eP rfl ?_))
 intro w3 b9 aM
 refine aK 54 rfl rfl _ _ rfl b9 rfl (bq nd).toArray rfl _ _ aM.blk (by rw[eF];rfl) rfl (dR nd) ?_
 intro w4 hc4 hk4
 have H4:=show Hid (RF w w4 b5 b9 r g nd) from by
  have e1:=H1.out.au.size;have e2:=aM.ge
  exact⟨(Cl.kp (b:=b5) (T:=27) (Cl.new H1.out.s aM) hk4 (by have:=Cl.lt H1.out.s;omega)),hc4,aP (aS H1.out.au aM) hk4 (by omega)⟩
 clear H1 aM hc4 hk4 c0
 go_wp2_with (refine bN _ rfl _ rfl b5 0 rfl H4.out.s.dL hl ?_)
 refine Calls.mono (KS.out w4 (i:Int)) ?_
 rintro e w5 ⟨rfl,hb5⟩
 have H5:=show Hid _ from H4.out.later hb5
 clear H4 hb5
 have d0:w5.cell? ⟨b9,0,none⟩=some (.int .i64 nd.k):=H5.out.n.cell 0
 have d2:w5.cell? ⟨b9,2,none⟩=some (.int .i64 nd.l):=H5.out.n.cell 2
 have g16:w5.cell? ⟨b5,16,none⟩=some (.int .i64 g):=H5.out.s.dL.goal hl
 cases hgl:((i:Int) == g)
 all_goals cases hlf:Bt.Bs.bX r (i:Int)
 all_goals cases hk5:(nd.k == 5)
 ·have HB:=show Hid _ from H5.out.au
  clear KK KS HC HAT H5 dQ
  go_wp2_with fail
  all_goals first|exact aU (by assumption) | skip
  go_ret
  exact⟨aN (by rw[dn.out];simp[hlf,hk5]),HB.out⟩
 ·have HB:=show Hid _ from H5.out.au
  clear KK KS HC HAT H5 dQ
  go_wp2_with fail
  all_goals first|exact aU (by assumption) | skip
  go_ret
  exact⟨aN (by rw[dn.out];simp[hlf,hk5]),HB.out⟩
 ·have HB:=show Hid _ from H5.out.au
  clear KK KS HC HAT H5 dQ
  go_wp2_with fail
  all_goals first|exact aU (by assumption) | skip
  go_ret
  exact⟨aN (by rw[dn.out];simp[hlf,hk5]),HB.out⟩
 ·obtain⟨x,hx,hxl,hxn⟩:=dQ.out (by simpa using hk5)
  rw[hxl] at d2 dn
  rw[hxl] at hxn
  rw[hxn] at dn
  have K1:=show Hid _ from KK.out w5 x hx H5.out.au
  generalize t[x].k=kx at *
  clear KK HC HAT dQ hxn
  cases hkx:(kx == 1)
  ·have HB:=show Hid _ from H5.out.au
   clear KS
   go_wp2_with fail
   refine Calls.mono K1.out ?_
   rintro e w6 ⟨rfl,hw⟩
   subst w6
   clear K1 H5
   go_wp2_with fail
   all_goals first|exact aU (by assumption) | skip
   go_ret
   exact⟨aN (by rw[dn.out];simp[hlf,hk5,hkx]),HB.out⟩
  ·go_wp2_with fail
   refine Calls.mono K1.out ?_
   rintro e w6 ⟨rfl,hw⟩
   subst w6
   clear K1
   go_wp2_with (refine bN _ rfl _ rfl b5 0 rfl H5.out.s.dL hl ?_)
   refine Calls.mono (KS.out w5 (x:Int)) ?_
   rintro e w7 ⟨rfl,bO⟩
   have H7:=show Hid _ from H5.out.later bO
   clear H5 bO KS
   go_wp2_with fail
   go_ret
   exact⟨aN (by rw[dn.out];simp[hlf,hk5,hkx]),H7.out.au⟩
 ·have HB:=show Hid _ from H5.out.au
  clear KK KS HC HAT H5 dQ
  go_wp2_with fail
  all_goals first|exact aU (by assumption) | skip
  go_ret
  exact⟨aN (by rw[dn.out];simp[hlf,hk5]),HB.out⟩
 ·have HB:=show Hid _ from H5.out.au
  clear KK KS HC HAT H5 dQ
  go_wp2_with fail
  all_goals first|exact aU (by assumption) | skip
  go_ret
  exact⟨aN (by rw[dn.out];simp[hlf,hk5]),HB.out⟩
 ·have HB:=show Hid _ from H5.out.au
  clear KK KS HC HAT H5 dQ
  go_wp2_with fail
  all_goals first|exact aU (by assumption) | skip
  go_ret
  exact⟨aN (by rw[dn.out];simp[hlf,hk5]),HB.out⟩
 ·obtain⟨x,hx,hxl,hxn⟩:=dQ.out (by simpa using hk5)
  rw[hxl] at d2 dn
  rw[hxl] at hxn
  rw[hxn] at dn
  have K1:=show Hid _ from KK.out w5 x hx H5.out.au
  generalize t[x].k=kx at *
  clear KK HC HAT dQ hxn
  cases hkx:(kx == 1)
  ·have HB:=show Hid _ from H5.out.au
   clear KS
   go_wp2_with fail
   refine Calls.mono K1.out ?_
   rintro e w6 ⟨rfl,hw⟩
   subst w6
   clear K1 H5
   go_wp2_with fail
   all_goals first|exact aU (by assumption) | skip
   go_ret
   exact⟨aN (by rw[dn.out];simp[hlf,hk5,hkx]),HB.out⟩
  ·go_wp2_with fail
   refine Calls.mono K1.out ?_
   rintro e w6 ⟨rfl,hw⟩
   subst w6
   clear K1
   go_wp2_with (refine bN _ rfl _ rfl b5 0 rfl H5.out.s.dL hl ?_)
   refine Calls.mono (KS.out w5 (x:Int)) ?_
   rintro e w7 ⟨rfl,bO⟩
   have H7:=show Hid _ from H5.out.later bO
   clear H5 bO KS
   go_wp2_with fail
   go_ret
   exact⟨aN (by rw[dn.out];simp[hlf,hk5,hkx]),H7.out.au⟩
theorem Qe (w:World) {c:Nat} {u:Value} {t:List Nd} (hT:Tr w c u t) {r:List Nat} (hr:Ok r) (g:Int) (i:Nat) (hi:i<t.length) :
 Calls Tryz.prog 56 #[.pointer (some ⟨c,0,none⟩),.agg (ak r g),.int .i64 5,.int .i64 (i:Int)] w fun e w'=>e=.returned (.bool (Bt.Bs.bX r (i:Int) && (t[i].k == 5) && ((aB t t[i].l).k == 2)))/\Below w.heap.size w w':=by
 have hl:=hr.1
 have gL:(i:Int)<(t.length:Int):=by omega
 have hlen:=hT.ok.len
 have KH:=show Hid (∀ W:World,Below w.heap.size w W->Calls Tryz.prog 33 #[.pointer (some ⟨c,0,none⟩),.int .i64 (i:Int)] W fun e w''=>e=.returned (.bool true)/\w''=W) from fun W hb=>by
  have:=cB W (hT.later hb) (i:Int)
  rw[Fm.bJ.2 ⟨by omega,gL⟩] at this
  exact this
 have KS:=show Hid (∀ (W:World) (x:Int),Calls Tryz.prog 53 #[.agg (Bt.aD r),.int .i64 x] W fun e w'=>e=.returned (.bool (Bt.Bs.bX r x))/\Below W.heap.size W w') from fun W x=>(Bt.cB W hr x).mono fun e w' h=>⟨h.1,by rw[h.2];exact av W _⟩
 have KK:=show Hid (∀ (W:World) (j:Nat) (hj:j<t.length),Below w.heap.size w W->Calls Tryz.prog 100 #[.pointer (some ⟨c,0,none⟩),.int .i64 (j:Int)] W fun e w'=>e=.returned (.int .i64 t[j].k)/\w'=W) from fun W j hj hb=>fV W (hT.later hb) j hj
 have dQ:=show Hid (t[i].k=5->∃ x:Nat,∃ hx:x<t.length,t[i].l=(x:Int)/\(aB t t[i].l).k=t[x].k) from fun h5=>by
  obtain⟨x,y,hx,_,hxi,_⟩:=kids hT.ok hi (Or.inr (Or.inr h5))
  exact⟨x,by omega,hx,by rw[hx,aY (by omega)]⟩
 have HC:=show Hid (∀ W:World,Below w.heap.size w W->W.cell? ⟨c,0,none⟩=some u) from fun W hb=>(hT.later hb).c0
 obtain⟨p,cp,rfl,hc1,hc2,hat⟩:=hT.row.gT.at
 obtain⟨bb,oo,rfl,bF⟩:=hat (by omega)
 have HAT:=show Hid (∀ W:World,Below w.heap.size w W->fH W bb (oo+i * 4) t[i]) from fun W hb=>bF W hb i hi
 clear hT hat bF hr
 obtain⟨res,hres⟩:∃ res,res=(Bt.Bs.bX r (i:Int) && (t[i].k == 5) && ((aB t t[i].l).k == 2)):=⟨_,rfl⟩
 rw[<- hres]
 have dn:=show Hid _ from hres
 clear hres
 generalize t[i]=nd at *
 go_enter Tryz.func56,Tryz.ntmps56
 go_wp2_with (refine aI 27 _ rfl _ rfl rfl ?_)
 intro w1 b5 hn1
 go_wp2_with fail
 refine Calls.mono (KH.out _ hn1.au) ?_
 rintro e w2 ⟨rfl,hw⟩
 subst w2
 have c0:=HC.out w1 hn1.au
 have H1:=show Hid (dz w w1 b5 r g) from⟨hn1.blk,hn1.au,hn1.ge⟩
 clear hn1 KH
 go_wp2_with (first|(refine cK _ rfl _ rfl bb (oo+i * 4) rfl (HAT.out w1 H1.out.au) ?_)|(refine aF 54 rfl _ eP rfl ?_))
 intro w3 b9 aM
 refine aK 54 rfl rfl _ _ rfl b9 rfl (bq nd).toArray rfl _ _ aM.blk (by rw[eF];rfl) rfl (dR nd) ?_
 intro w4 hc4 hk4
 have H4:=show Hid (RF w w4 b5 b9 r g nd) from by
  have e1:=H1.out.au.size;have e2:=aM.ge
  exact⟨(Cl.kp (b:=b5) (T:=27) (Cl.new H1.out.s aM) hk4 (by have:=Cl.lt H1.out.s;omega)),hc4,aP (aS H1.out.au aM) hk4 (by omega)⟩
 clear H1 aM hc4 hk4 c0
 go_wp2_with (refine bN _ rfl _ rfl b5 0 rfl H4.out.s.dL hl ?_)
 refine Calls.mono (KS.out w4 (i:Int)) ?_
 rintro e w5 ⟨rfl,hb5⟩
 have H5:=show Hid _ from H4.out.later hb5
 clear H4 hb5
 have d0:w5.cell? ⟨b9,0,none⟩=some (.int .i64 nd.k):=H5.out.n.cell 0
 have d2:w5.cell? ⟨b9,2,none⟩=some (.int .i64 nd.l):=H5.out.n.cell 2
 have g16:w5.cell? ⟨b5,16,none⟩=some (.int .i64 g):=H5.out.s.dL.goal hl
 cases hgl:((i:Int) == g)
 all_goals cases hlf:Bt.Bs.bX r (i:Int)
 all_goals cases hk5:(nd.k == 5)
 ·have HB:=show Hid _ from H5.out.au
  clear KK KS HC HAT H5 dQ
  go_wp2_with fail
  all_goals first|exact aU (by assumption) | skip
  go_ret
  exact⟨aN (by rw[dn.out];simp[hlf,hk5]),HB.out⟩
 ·have HB:=show Hid _ from H5.out.au
  clear KK KS HC HAT H5 dQ
  go_wp2_with fail
  all_goals first|exact aU (by assumption) | skip
  go_ret
  exact⟨aN (by rw[dn.out];simp[hlf,hk5]),HB.out⟩
 ·have HB:=show Hid _ from H5.out.au
  clear KK KS HC HAT H5 dQ
  go_wp2_with fail
  all_goals first|exact aU (by assumption) | skip
  go_ret
  exact⟨aN (by rw[dn.out];simp[hlf,hk5]),HB.out⟩
 ·obtain⟨x,hx,hxl,hxn⟩:=dQ.out (by simpa using hk5)
  rw[hxl] at d2 dn
  rw[hxl] at hxn
  rw[hxn] at dn
  have K1:=show Hid _ from KK.out w5 x hx H5.out.au
  generalize t[x].k=kx at *
  clear KK HC HAT dQ hxn
  cases hkx:(kx == 2)
  ·have HB:=show Hid _ from H5.out.au
   clear KS
   go_wp2_with fail
   refine Calls.mono K1.out ?_
   rintro e w6 ⟨rfl,hw⟩
   subst w6
   clear K1 H5
   go_wp2_with fail
   all_goals first|exact aU (by assumption) | skip
   go_ret
   exact⟨aN (by rw[dn.out];simp[hlf,hk5,hkx]),HB.out⟩
  ·have HB:=show Hid _ from H5.out.au
   clear KS
   go_wp2_with fail
   refine Calls.mono K1.out ?_
   rintro e w6 ⟨rfl,hw⟩
   subst w6
   clear K1 H5
   go_wp2_with fail
   all_goals first|exact aU (by assumption) | skip
   go_ret
   exact⟨aN (by rw[dn.out];simp[hlf,hk5,hkx]),HB.out⟩
 ·have HB:=show Hid _ from H5.out.au
  clear KK KS HC HAT H5 dQ
  go_wp2_with fail
  all_goals first|exact aU (by assumption) | skip
  go_ret
  exact⟨aN (by rw[dn.out];simp[hlf,hk5]),HB.out⟩
 ·have HB:=show Hid _ from H5.out.au
  clear KK KS HC HAT H5 dQ
  go_wp2_with fail
  all_goals first|exact aU (by assumption) | skip
  go_ret
  exact⟨aN (by rw[dn.out];simp[hlf,hk5]),HB.out⟩
 ·have HB:=show Hid _ from H5.out.au
  clear KK KS HC HAT H5 dQ
  go_wp2_with fail
  all_goals first|exact aU (by assumption) | skip
  go_ret
  exact⟨aN (by rw[dn.out];simp[hlf,hk5]),HB.out⟩
 ·obtain⟨x,hx,hxl,hxn⟩:=dQ.out (by simpa using hk5)
  rw[hxl] at d2 dn
  rw[hxl] at hxn
  rw[hxn] at dn
  have K1:=show Hid _ from KK.out w5 x hx H5.out.au
  generalize t[x].k=kx at *
  clear KK HC HAT dQ hxn
  cases hkx:(kx == 2)
  ·have HB:=show Hid _ from H5.out.au
   clear KS
   go_wp2_with fail
   refine Calls.mono K1.out ?_
   rintro e w6 ⟨rfl,hw⟩
   subst w6
   clear K1 H5
   go_wp2_with fail
   all_goals first|exact aU (by assumption) | skip
   go_ret
   exact⟨aN (by rw[dn.out];simp[hlf,hk5,hkx]),HB.out⟩
  ·have HB:=show Hid _ from H5.out.au
   clear KS
   go_wp2_with fail
   refine Calls.mono K1.out ?_
   rintro e w6 ⟨rfl,hw⟩
   subst w6
   clear K1 H5
   go_wp2_with fail
   all_goals first|exact aU (by assumption) | skip
   go_ret
   exact⟨aN (by rw[dn.out];simp[hlf,hk5,hkx]),HB.out⟩
theorem Qf (w:World) {c:Nat} {u:Value} {t:List Nd} (hT:Tr w c u t) {r:List Nat} (hr:Ok r) (g:Int) (i:Nat) (hi:i<t.length) :
 Calls Tryz.prog 56 #[.pointer (some ⟨c,0,none⟩),.agg (ak r g),.int .i64 6,.int .i64 (i:Int)] w fun e w'=>e=.returned (.bool (Bt.Bs.bX r (i:Int) && (t[i].k == 5) && ((aB t t[i].l).k == 3)))/\Below w.heap.size w w':=by
 have hl:=hr.1
 have gL:(i:Int)<(t.length:Int):=by omega
 have hlen:=hT.ok.len
 have KH:=show Hid (∀ W:World,Below w.heap.size w W->Calls Tryz.prog 33 #[.pointer (some ⟨c,0,none⟩),.int .i64 (i:Int)] W fun e w''=>e=.returned (.bool true)/\w''=W) from fun W hb=>by
  have:=cB W (hT.later hb) (i:Int)
  rw[Fm.bJ.2 ⟨by omega,gL⟩] at this
  exact this
 have KS:=show Hid (∀ (W:World) (x:Int),Calls Tryz.prog 53 #[.agg (Bt.aD r),.int .i64 x] W fun e w'=>e=.returned (.bool (Bt.Bs.bX r x))/\Below W.heap.size W w') from fun W x=>(Bt.cB W hr x).mono fun e w' h=>⟨h.1,by rw[h.2];exact av W _⟩
 have KK:=show Hid (∀ (W:World) (j:Nat) (hj:j<t.length),Below w.heap.size w W->Calls Tryz.prog 100 #[.pointer (some ⟨c,0,none⟩),.int .i64 (j:Int)] W fun e w'=>e=.returned (.int .i64 t[j].k)/\w'=W) from fun W j hj hb=>fV W (hT.later hb) j hj
 have dQ:=show Hid (t[i].k=5->∃ x:Nat,∃ hx:x<t.length,t[i].l=(x:Int)/\(aB t t[i].l).k=t[x].k) from fun h5=>by
  obtain⟨x,y,hx,_,hxi,_⟩:=kids hT.ok hi (Or.inr (Or.inr h5))
  exact⟨x,by omega,hx,by rw[hx,aY (by omega)]⟩
 have HC:=show Hid (∀ W:World,Below w.heap.size w W->W.cell? ⟨c,0,none⟩=some u) from fun W hb=>(hT.later hb).c0
 obtain⟨p,cp,rfl,hc1,hc2,hat⟩:=hT.row.gT.at
 obtain⟨bb,oo,rfl,bF⟩:=hat (by omega)
 have HAT:=show Hid (∀ W:World,Below w.heap.size w W->fH W bb (oo+i * 4) t[i]) from fun W hb=>bF W hb i hi
 clear hT hat bF hr
 obtain⟨res,hres⟩:∃ res,res=(Bt.Bs.bX r (i:Int) && (t[i].k == 5) && ((aB t t[i].l).k == 3)):=⟨_,rfl⟩
 rw[<- hres]
 have dn:=show Hid _ from hres
 clear hres
 generalize t[i]=nd at *
 go_enter Tryz.func56,Tryz.ntmps56
 go_wp2_with (refine aI 27 _ rfl _ rfl rfl ?_)
 intro w1 b5 hn1
 go_wp2_with fail
 refine Calls.mono (KH.out _ hn1.au) ?_
 rintro e w2 ⟨rfl,hw⟩
 subst w2
 have c0:=HC.out w1 hn1.au
 have H1:=show Hid (dz w w1 b5 r g) from⟨hn1.blk,hn1.au,hn1.ge⟩
 clear hn1 KH
 go_wp2_with (first|(refine cK _ rfl _ rfl bb (oo+i * 4) rfl (HAT.out w1 H1.out.au) ?_)|(refine aF 54 rfl _ eP rfl ?_))
 intro w3 b9 aM
 refine aK 54 rfl rfl _ _ rfl b9 rfl (bq nd).toArray rfl _ _ aM.blk (by rw[eF];rfl) rfl (dR nd) ?_
 intro w4 hc4 hk4
 have H4:=show Hid (RF w w4 b5 b9 r g nd) from by
  have e1:=H1.out.au.size;have e2:=aM.ge
  exact⟨(Cl.kp (b:=b5) (T:=27) (Cl.new H1.out.s aM) hk4 (by have:=Cl.lt H1.out.s;omega)),hc4,aP (aS H1.out.au aM) hk4 (by omega)⟩
 clear H1 aM hc4 hk4 c0
 go_wp2_with (refine bN _ rfl _ rfl b5 0 rfl H4.out.s.dL hl ?_)
 refine Calls.mono (KS.out w4 (i:Int)) ?_
 rintro e w5 ⟨rfl,hb5⟩
 have H5:=show Hid _ from H4.out.later hb5
 clear H4 hb5
 have d0:w5.cell? ⟨b9,0,none⟩=some (.int .i64 nd.k):=H5.out.n.cell 0
 have d2:w5.cell? ⟨b9,2,none⟩=some (.int .i64 nd.l):=H5.out.n.cell 2
 have g16:w5.cell? ⟨b5,16,none⟩=some (.int .i64 g):=H5.out.s.dL.goal hl
 cases hgl:((i:Int) == g)
 all_goals cases hlf:Bt.Bs.bX r (i:Int)
 all_goals cases hk5:(nd.k == 5)
 ·have HB:=show Hid _ from H5.out.au
  clear KK KS HC HAT H5 dQ
  go_wp2_with fail
  all_goals first|exact aU (by assumption) | skip
  go_ret
  exact⟨aN (by rw[dn.out];simp[hlf,hk5]),HB.out⟩
 ·have HB:=show Hid _ from H5.out.au
  clear KK KS HC HAT H5 dQ
  go_wp2_with fail
  all_goals first|exact aU (by assumption) | skip
  go_ret
  exact⟨aN (by rw[dn.out];simp[hlf,hk5]),HB.out⟩
 ·have HB:=show Hid _ from H5.out.au
  clear KK KS HC HAT H5 dQ
  go_wp2_with fail
  all_goals first|exact aU (by assumption) | skip
  go_ret
  exact⟨aN (by rw[dn.out];simp[hlf,hk5]),HB.out⟩
 ·obtain⟨x,hx,hxl,hxn⟩:=dQ.out (by simpa using hk5)
  rw[hxl] at d2 dn
  rw[hxl] at hxn
  rw[hxn] at dn
  have K1:=show Hid _ from KK.out w5 x hx H5.out.au
  generalize t[x].k=kx at *
  clear KK HC HAT dQ hxn
  cases hkx:(kx == 3)
  ·have HB:=show Hid _ from H5.out.au
   clear KS
   go_wp2_with fail
   refine Calls.mono K1.out ?_
   rintro e w6 ⟨rfl,hw⟩
   subst w6
   clear K1 H5
   go_wp2_with fail
   all_goals first|exact aU (by assumption) | skip
   go_ret
   exact⟨aN (by rw[dn.out];simp[hlf,hk5,hkx]),HB.out⟩
  ·have HB:=show Hid _ from H5.out.au
   clear KS
   go_wp2_with fail
   refine Calls.mono K1.out ?_
   rintro e w6 ⟨rfl,hw⟩
   subst w6
   clear K1 H5
   go_wp2_with fail
   all_goals first|exact aU (by assumption) | skip
   go_ret
   exact⟨aN (by rw[dn.out];simp[hlf,hk5,hkx]),HB.out⟩
 ·have HB:=show Hid _ from H5.out.au
  clear KK KS HC HAT H5 dQ
  go_wp2_with fail
  all_goals first|exact aU (by assumption) | skip
  go_ret
  exact⟨aN (by rw[dn.out];simp[hlf,hk5]),HB.out⟩
 ·have HB:=show Hid _ from H5.out.au
  clear KK KS HC HAT H5 dQ
  go_wp2_with fail
  all_goals first|exact aU (by assumption) | skip
  go_ret
  exact⟨aN (by rw[dn.out];simp[hlf,hk5]),HB.out⟩
 ·have HB:=show Hid _ from H5.out.au
  clear KK KS HC HAT H5 dQ
  go_wp2_with fail
  all_goals first|exact aU (by assumption) | skip
  go_ret
  exact⟨aN (by rw[dn.out];simp[hlf,hk5]),HB.out⟩
 ·obtain⟨x,hx,hxl,hxn⟩:=dQ.out (by simpa using hk5)
  rw[hxl] at d2 dn
  rw[hxl] at hxn
  rw[hxn] at dn
  have K1:=show Hid _ from KK.out w5 x hx H5.out.au
  generalize t[x].k=kx at *
  clear KK HC HAT dQ hxn
  cases hkx:(kx == 3)
  ·have HB:=show Hid _ from H5.out.au
   clear KS
   go_wp2_with fail
   refine Calls.mono K1.out ?_
   rintro e w6 ⟨rfl,hw⟩
   subst w6
   clear K1 H5
   go_wp2_with fail
   all_goals first|exact aU (by assumption) | skip
   go_ret
   exact⟨aN (by rw[dn.out];simp[hlf,hk5,hkx]),HB.out⟩
  ·have HB:=show Hid _ from H5.out.au
   clear KS
   go_wp2_with fail
   refine Calls.mono K1.out ?_
   rintro e w6 ⟨rfl,hw⟩
   subst w6
   clear K1 H5
   go_wp2_with fail
   all_goals first|exact aU (by assumption) | skip
   go_ret
   exact⟨aN (by rw[dn.out];simp[hlf,hk5,hkx]),HB.out⟩
theorem Qg (w:World) {c:Nat} {u:Value} {t:List Nd} (hT:Tr w c u t) {r:List Nat} (hr:Ok r) (g:Int) (i:Nat) (hi:i<t.length) :
 Calls Tryz.prog 56 #[.pointer (some ⟨c,0,none⟩),.agg (ak r g),.int .i64 7,.int .i64 (i:Int)] w fun e w'=>e=.returned (.bool (Bt.Bs.bX r (i:Int) && (t[i].k == 5) && ((aB t t[i].l).k == 4)))/\Below w.heap.size w w':=by
 have hl:=hr.1
 have gL:(i:Int)<(t.length:Int):=by omega
 have hlen:=hT.ok.len
 have KH:=show Hid (∀ W:World,Below w.heap.size w W->Calls Tryz.prog 33 #[.pointer (some ⟨c,0,none⟩),.int .i64 (i:Int)] W fun e w''=>e=.returned (.bool true)/\w''=W) from fun W hb=>by
  have:=cB W (hT.later hb) (i:Int)
  rw[Fm.bJ.2 ⟨by omega,gL⟩] at this
  exact this
 have KS:=show Hid (∀ (W:World) (x:Int),Calls Tryz.prog 53 #[.agg (Bt.aD r),.int .i64 x] W fun e w'=>e=.returned (.bool (Bt.Bs.bX r x))/\Below W.heap.size W w') from fun W x=>(Bt.cB W hr x).mono fun e w' h=>⟨h.1,by rw[h.2];exact av W _⟩
 have KK:=show Hid (∀ (W:World) (j:Nat) (hj:j<t.length),Below w.heap.size w W->Calls Tryz.prog 100 #[.pointer (some ⟨c,0,none⟩),.int .i64 (j:Int)] W fun e w'=>e=.returned (.int .i64 t[j].k)/\w'=W) from fun W j hj hb=>fV W (hT.later hb) j hj
 have dQ:=show Hid (t[i].k=5->∃ x:Nat,∃ hx:x<t.length,t[i].l=(x:Int)/\(aB t t[i].l).k=t[x].k) from fun h5=>by
  obtain⟨x,y,hx,_,hxi,_⟩:=kids hT.ok hi (Or.inr (Or.inr h5))
  exact⟨x,by omega,hx,by rw[hx,aY (by omega)]⟩
 have HC:=show Hid (∀ W:World,Below w.heap.size w W->W.cell? ⟨c,0,none⟩=some u) from fun W hb=>(hT.later hb).c0
 obtain⟨p,cp,rfl,hc1,hc2,hat⟩:=hT.row.gT.at
 obtain⟨bb,oo,rfl,bF⟩:=hat (by omega)
 have HAT:=show Hid (∀ W:World,Below w.heap.size w W->fH W bb (oo+i * 4) t[i]) from fun W hb=>bF W hb i hi
 clear hT hat bF hr
 obtain⟨res,hres⟩:∃ res,res=(Bt.Bs.bX r (i:Int) && (t[i].k == 5) && ((aB t t[i].l).k == 4)):=⟨_,rfl⟩
 rw[<- hres]
 have dn:=show Hid _ from hres
 clear hres
 generalize t[i]=nd at *
 go_enter Tryz.func56,Tryz.ntmps56
 go_wp2_with (refine aI 27 _ rfl _ rfl rfl ?_)
 intro w1 b5 hn1
 go_wp2_with fail
 refine Calls.mono (KH.out _ hn1.au) ?_
 rintro e w2 ⟨rfl,hw⟩
 subst w2
 have c0:=HC.out w1 hn1.au
 have H1:=show Hid (dz w w1 b5 r g) from⟨hn1.blk,hn1.au,hn1.ge⟩
 clear hn1 KH
 go_wp2_with (first|(refine cK _ rfl _ rfl bb (oo+i * 4) rfl (HAT.out w1 H1.out.au) ?_)|(refine aF 54 rfl _ eP rfl ?_))
 intro w3 b9 aM
 refine aK 54 rfl rfl _ _ rfl b9 rfl (bq nd).toArray rfl _ _ aM.blk (by rw[eF];rfl) rfl (dR nd) ?_
 intro w4 hc4 hk4
 have H4:=show Hid (RF w w4 b5 b9 r g nd) from by
  have e1:=H1.out.au.size;have e2:=aM.ge
  exact⟨(Cl.kp (b:=b5) (T:=27) (Cl.new H1.out.s aM) hk4 (by have:=Cl.lt H1.out.s;omega)),hc4,aP (aS H1.out.au aM) hk4 (by omega)⟩
 clear H1 aM hc4 hk4 c0
 go_wp2_with (refine bN _ rfl _ rfl b5 0 rfl H4.out.s.dL hl ?_)
 refine Calls.mono (KS.out w4 (i:Int)) ?_
 rintro e w5 ⟨rfl,hb5⟩
 have H5:=show Hid _ from H4.out.later hb5
 clear H4 hb5
 have d0:w5.cell? ⟨b9,0,none⟩=some (.int .i64 nd.k):=H5.out.n.cell 0
 have d2:w5.cell? ⟨b9,2,none⟩=some (.int .i64 nd.l):=H5.out.n.cell 2
 have g16:w5.cell? ⟨b5,16,none⟩=some (.int .i64 g):=H5.out.s.dL.goal hl
 cases hgl:((i:Int) == g)
 all_goals cases hlf:Bt.Bs.bX r (i:Int)
 all_goals cases hk5:(nd.k == 5)
 ·have HB:=show Hid _ from H5.out.au
  clear KK KS HC HAT H5 dQ
  go_wp2_with fail
  all_goals first|exact aU (by assumption) | skip
  go_ret
  exact⟨aN (by rw[dn.out];simp[hlf,hk5]),HB.out⟩
 ·have HB:=show Hid _ from H5.out.au
  clear KK KS HC HAT H5 dQ
  go_wp2_with fail
  all_goals first|exact aU (by assumption) | skip
  go_ret
  exact⟨aN (by rw[dn.out];simp[hlf,hk5]),HB.out⟩
 ·have HB:=show Hid _ from H5.out.au
  clear KK KS HC HAT H5 dQ
  go_wp2_with fail
  all_goals first|exact aU (by assumption) | skip
  go_ret
  exact⟨aN (by rw[dn.out];simp[hlf,hk5]),HB.out⟩
 ·obtain⟨x,hx,hxl,hxn⟩:=dQ.out (by simpa using hk5)
  rw[hxl] at d2 dn
  rw[hxl] at hxn
  rw[hxn] at dn
  have K1:=show Hid _ from KK.out w5 x hx H5.out.au
  generalize t[x].k=kx at *
  clear KK HC HAT dQ hxn
  cases hkx:(kx == 4)
  ·have HB:=show Hid _ from H5.out.au
   clear KS
   go_wp2_with fail
   refine Calls.mono K1.out ?_
   rintro e w6 ⟨rfl,hw⟩
   subst w6
   clear K1 H5
   go_wp2_with fail
   all_goals first|exact aU (by assumption) | skip
   go_ret
   exact⟨aN (by rw[dn.out];simp[hlf,hk5,hkx]),HB.out⟩
  ·have HB:=show Hid _ from H5.out.au
   clear KS
   go_wp2_with fail
   refine Calls.mono K1.out ?_
   rintro e w6 ⟨rfl,hw⟩
   subst w6
   clear K1 H5
   go_wp2_with fail
   all_goals first|exact aU (by assumption) | skip
   go_ret
   exact⟨aN (by rw[dn.out];simp[hlf,hk5,hkx]),HB.out⟩
 ·have HB:=show Hid _ from H5.out.au
  clear KK KS HC HAT H5 dQ
  go_wp2_with fail
  all_goals first|exact aU (by assumption) | skip
  go_ret
  exact⟨aN (by rw[dn.out];simp[hlf,hk5]),HB.out⟩
 ·have HB:=show Hid _ from H5.out.au
  clear KK KS HC HAT H5 dQ
  go_wp2_with fail
  all_goals first|exact aU (by assumption) | skip
  go_ret
  exact⟨aN (by rw[dn.out];simp[hlf,hk5]),HB.out⟩
 ·have HB:=show Hid _ from H5.out.au
  clear KK KS HC HAT H5 dQ
  go_wp2_with fail
  all_goals first|exact aU (by assumption) | skip
  go_ret
  exact⟨aN (by rw[dn.out];simp[hlf,hk5]),HB.out⟩
 ·obtain⟨x,hx,hxl,hxn⟩:=dQ.out (by simpa using hk5)
  rw[hxl] at d2 dn
  rw[hxl] at hxn
  rw[hxn] at dn
  have K1:=show Hid _ from KK.out w5 x hx H5.out.au
  generalize t[x].k=kx at *
  clear KK HC HAT dQ hxn
  cases hkx:(kx == 4)
  ·have HB:=show Hid _ from H5.out.au
   clear KS
   go_wp2_with fail
   refine Calls.mono K1.out ?_
   rintro e w6 ⟨rfl,hw⟩
   subst w6
   clear K1 H5
   go_wp2_with fail
   all_goals first|exact aU (by assumption) | skip
   go_ret
   exact⟨aN (by rw[dn.out];simp[hlf,hk5,hkx]),HB.out⟩
  ·have HB:=show Hid _ from H5.out.au
   clear KS
   go_wp2_with fail
   refine Calls.mono K1.out ?_
   rintro e w6 ⟨rfl,hw⟩
   subst w6
   clear K1 H5
   go_wp2_with fail
   all_goals first|exact aU (by assumption) | skip
   go_ret
   exact⟨aN (by rw[dn.out];simp[hlf,hk5,hkx]),HB.out⟩
theorem M9 (w:World) {c:Nat} {u:Value} {t:List Nd} (hT:Tr w c u t) {r:List Nat} (hr:Ok r) (g:Int) (i:Nat) (hi:i<t.length) :
 Calls Tryz.prog 56 #[.pointer (some ⟨c,0,none⟩),.agg (ak r g),.int .i64 13,.int .i64 (i:Int)] w fun e w'=>e=.returned (.bool (Bt.Bs.bX r (i:Int) && (t[i].k == 5) && ((aB t t[i].l).k == 5)))/\Below w.heap.size w w':=by
 have hl:=hr.1
 have gL:(i:Int)<(t.length:Int):=by omega
 have hlen:=hT.ok.len
 have KH:=show Hid (∀ W:World,Below w.heap.size w W->Calls Tryz.prog 33 #[.pointer (some ⟨c,0,none⟩),.int .i64 (i:Int)] W fun e w''=>e=.returned (.bool true)/\w''=W) from fun W hb=>by
  have:=cB W (hT.later hb) (i:Int)
  rw[Fm.bJ.2 ⟨by omega,gL⟩] at this
  exact this
 have KS:=show Hid (∀ (W:World) (x:Int),Calls Tryz.prog 53 #[.agg (Bt.aD r),.int .i64 x] W fun e w'=>e=.returned (.bool (Bt.Bs.bX r x))/\Below W.heap.size W w') from fun W x=>(Bt.cB W hr x).mono fun e w' h=>⟨h.1,by rw[h.2];exact av W _⟩
 have KK:=show Hid (∀ (W:World) (j:Nat) (hj:j<t.length),Below w.heap.size w W->Calls Tryz.prog 100 #[.pointer (some ⟨c,0,none⟩),.int .i64 (j:Int)] W fun e w'=>e=.returned (.int .i64 t[j].k)/\w'=W) from fun W j hj hb=>fV W (hT.later hb) j hj
 have dQ:=show Hid (t[i].k=5->∃ x:Nat,∃ hx:x<t.length,t[i].l=(x:Int)/\(aB t t[i].l).k=t[x].k) from fun h5=>by
  obtain⟨x,y,hx,_,hxi,_⟩:=kids hT.ok hi (Or.inr (Or.inr h5))
  exact⟨x,by omega,hx,by rw[hx,aY (by omega)]⟩
 have HC:=show Hid (∀ W:World,Below w.heap.size w W->W.cell? ⟨c,0,none⟩=some u) from fun W hb=>(hT.later hb).c0
 obtain⟨p,cp,rfl,hc1,hc2,hat⟩:=hT.row.gT.at
 obtain⟨bb,oo,rfl,bF⟩:=hat (by omega)
 have HAT:=show Hid (∀ W:World,Below w.heap.size w W->fH W bb (oo+i * 4) t[i]) from fun W hb=>bF W hb i hi
 clear hT hat bF hr
 obtain⟨res,hres⟩:∃ res,res=(Bt.Bs.bX r (i:Int) && (t[i].k == 5) && ((aB t t[i].l).k == 5)):=⟨_,rfl⟩
 rw[<- hres]
 have dn:=show Hid _ from hres
 clear hres
 generalize t[i]=nd at *
 go_enter Tryz.func56,Tryz.ntmps56
 go_wp2_with (refine aI 27 _ rfl _ rfl rfl ?_)
 intro w1 b5 hn1
 go_wp2_with fail
 refine Calls.mono (KH.out _ hn1.au) ?_
 rintro e w2 ⟨rfl,hw⟩
 subst w2
 have c0:=HC.out w1 hn1.au
 have H1:=show Hid (dz w w1 b5 r g) from⟨hn1.blk,hn1.au,hn1.ge⟩
 clear hn1 KH
 go_wp2_with (first|(refine cK _ rfl _ rfl bb (oo+i * 4) rfl (HAT.out w1 H1.out.au) ?_)|(refine aF 54 rfl _ eP rfl ?_))
 intro w3 b9 aM
 refine aK 54 rfl rfl _ _ rfl b9 rfl (bq nd).toArray rfl _ _ aM.blk (by rw[eF];rfl) rfl (dR nd) ?_
 intro w4 hc4 hk4
 have H4:=show Hid (RF w w4 b5 b9 r g nd) from by
  have e1:=H1.out.au.size;have e2:=aM.ge
  exact⟨(Cl.kp (b:=b5) (T:=27) (Cl.new H1.out.s aM) hk4 (by have:=Cl.lt H1.out.s;omega)),hc4,aP (aS H1.out.au aM) hk4 (by omega)⟩
 clear H1 aM hc4 hk4 c0
 go_wp2_with (refine bN _ rfl _ rfl b5 0 rfl H4.out.s.dL hl ?_)
 refine Calls.mono (KS.out w4 (i:Int)) ?_
 rintro e w5 ⟨rfl,hb5⟩
 have H5:=show Hid _ from H4.out.later hb5
 clear H4 hb5
 have d0:w5.cell? ⟨b9,0,none⟩=some (.int .i64 nd.k):=H5.out.n.cell 0
 have d2:w5.cell? ⟨b9,2,none⟩=some (.int .i64 nd.l):=H5.out.n.cell 2
 have g16:w5.cell? ⟨b5,16,none⟩=some (.int .i64 g):=H5.out.s.dL.goal hl
 cases hgl:((i:Int) == g)
 all_goals cases hlf:Bt.Bs.bX r (i:Int)
 all_goals cases hk5:(nd.k == 5)
 ·have HB:=show Hid _ from H5.out.au
  clear KK KS HC HAT H5 dQ
  go_wp2_with fail
  all_goals first|exact aU (by assumption) | skip
  go_ret
  exact⟨aN (by rw[dn.out];simp[hlf,hk5]),HB.out⟩
 ·have HB:=show Hid _ from H5.out.au
  clear KK KS HC HAT H5 dQ
  go_wp2_with fail
  all_goals first|exact aU (by assumption) | skip
  go_ret
  exact⟨aN (by rw[dn.out];simp[hlf,hk5]),HB.out⟩
 ·have HB:=show Hid _ from H5.out.au
  clear KK KS HC HAT H5 dQ
  go_wp2_with fail
  all_goals first|exact aU (by assumption) | skip
  go_ret
  exact⟨aN (by rw[dn.out];simp[hlf,hk5]),HB.out⟩
 ·obtain⟨x,hx,hxl,hxn⟩:=dQ.out (by simpa using hk5)
  rw[hxl] at d2 dn
  rw[hxl] at hxn
  rw[hxn] at dn
  have K1:=show Hid _ from KK.out w5 x hx H5.out.au
  generalize t[x].k=kx at *
  clear KK HC HAT dQ hxn
  cases hkx:(kx == 5)
  ·have HB:=show Hid _ from H5.out.au
   clear KS
   go_wp2_with fail
   refine Calls.mono K1.out ?_
   rintro e w6 ⟨rfl,hw⟩
   subst w6
   clear K1 H5
   go_wp2_with fail
   all_goals first|exact aU (by assumption) | skip
   go_ret
   exact⟨aN (by rw[dn.out];simp[hlf,hk5,hkx]),HB.out⟩
  ·have HB:=show Hid _ from H5.out.au
   clear KS
   go_wp2_with fail
   refine Calls.mono K1.out ?_
   rintro e w6 ⟨rfl,hw⟩
   subst w6
   clear K1 H5
   go_wp2_with fail
   all_goals first|exact aU (by assumption) | skip
   go_ret
   exact⟨aN (by rw[dn.out];simp[hlf,hk5,hkx]),HB.out⟩
 ·have HB:=show Hid _ from H5.out.au
  clear KK KS HC HAT H5 dQ
  go_wp2_with fail
  all_goals first|exact aU (by assumption) | skip
  go_ret
  exact⟨aN (by rw[dn.out];simp[hlf,hk5]),HB.out⟩
 ·have HB:=show Hid _ from H5.out.au
  clear KK KS HC HAT H5 dQ
  go_wp2_with fail
  all_goals first|exact aU (by assumption) | skip
  go_ret
  exact⟨aN (by rw[dn.out];simp[hlf,hk5]),HB.out⟩
 ·have HB:=show Hid _ from H5.out.au
  clear KK KS HC HAT H5 dQ
  go_wp2_with fail
  all_goals first|exact aU (by assumption) | skip
  go_ret
  exact⟨aN (by rw[dn.out];simp[hlf,hk5]),HB.out⟩
 ·obtain⟨x,hx,hxl,hxn⟩:=dQ.out (by simpa using hk5)
  rw[hxl] at d2 dn
  rw[hxl] at hxn
  rw[hxn] at dn
  have K1:=show Hid _ from KK.out w5 x hx H5.out.au
  generalize t[x].k=kx at *
  clear KK HC HAT dQ hxn
  cases hkx:(kx == 5)
  ·have HB:=show Hid _ from H5.out.au
   clear KS
   go_wp2_with fail
   refine Calls.mono K1.out ?_
   rintro e w6 ⟨rfl,hw⟩
   subst w6
   clear K1 H5
   go_wp2_with fail
   all_goals first|exact aU (by assumption) | skip
   go_ret
   exact⟨aN (by rw[dn.out];simp[hlf,hk5,hkx]),HB.out⟩
  ·have HB:=show Hid _ from H5.out.au
   clear KS
   go_wp2_with fail
   refine Calls.mono K1.out ?_
   rintro e w6 ⟨rfl,hw⟩
   subst w6
   clear K1 H5
   go_wp2_with fail
   all_goals first|exact aU (by assumption) | skip
   go_ret
   exact⟨aN (by rw[dn.out];simp[hlf,hk5,hkx]),HB.out⟩
end Go.Proofs.YtkejippimkjjaaaGreatDoor
