import Derived.Test.YtkejippimkjjaaaGreatDoorZR1
import Derived.Test.YtkejippimkjjaaaGreatDoorZR4
import Derived.Test.YtkejippimkjjaaaGreatDoorZR2
set_option linter.unusedSimpArgs false
set_option maxRecDepth 100000
set_option maxHeartbeats 4000000
namespace Go.Proofs.YtkejippimkjjaaaGreatDoor
open Go.RowKit Go.Shelf Go.Maps
open Fm (Nd)
open Bt.Bs (Ok wd)
theorem Ht (w:World) {c:Nat} {u:Value} {t:List Nd} (hT:Tr w c u t) {r:List Nat} (hr:Ok r) (g:Int) (ru:Int) (i:Nat) (hi:i<t.length) (h1:(ru == 1)=false) (h2:(ru == 2)=false) (h3:(ru == 3)=false) (h4:(ru == 4)=false) (h5:(ru == 5)=false) (h6:(ru == 6)=false) (h7:(ru == 7)=false) (h8:(ru == 8)=false) (h9:(ru == 9)=false) (h10:(ru == 10)=false) (h11:(ru == 11)=false) (h12:(ru == 12)=false) (uS:(ru == 13)=false) :
 Calls Tryz.prog 56 #[.pointer (some ⟨c,0,none⟩),.agg (ak r g),.int .i64 ru,.int .i64 (i:Int)] w fun e w'=>e=.returned (.bool false)/\Below w.heap.size w w':=by
 have hl:=hr.1
 have gL:(i:Int)<(t.length:Int):=by omega
 have hlen:=hT.ok.len
 have KH:=show Hid (∀ W:World,Below w.heap.size w W->Calls Tryz.prog 33 #[.pointer (some ⟨c,0,none⟩),.int .i64 (i:Int)] W fun e w''=>e=.returned (.bool true)/\w''=W) from fun W hb=>by
  have:=cB W (hT.later hb) (i:Int)
  rw[Fm.bJ.2 ⟨by omega,gL⟩] at this
  exact this
 have KS:=show Hid (∀ (W:World) (x:Int),Calls Tryz.prog 53 #[.agg (Bt.aD r),.int .i64 x] W fun e w'=>e=.returned (.bool (Bt.Bs.bX r x))/\Below W.heap.size W w') from fun W x=>(Bt.cB W hr x).mono fun e w' h=>⟨h.1,by rw[h.2];exact av W _⟩
 have KK:=show Hid (∀ (W:World) (j:Nat) (hj:j<t.length),Below w.heap.size w W->Calls Tryz.prog 100 #[.pointer (some ⟨c,0,none⟩),.int .i64 (j:Int)] W fun e w'=>e=.returned (.int .i64 t[j].k)/\w'=W) from fun W j hj hb=>fV W (hT.later hb) j hj
 have dQ:=show Hid (t[i].k=5->∃ x:Nat,∃ hx:x<t.length,t[i].l=(x:Int)/\(aB t t[i].l).k=t[x].k) from fun h5=>by
  obtain⟨x,y,hx,_,hxi,_⟩:=kids hT.ok hi (Or.inr (Or.inr h5))
  exact⟨x,by omega,hx,by rw[hx,aY (by omega)]⟩
 have HC:=show Hid (∀ W:World,Below w.heap.size w W->W.cell? ⟨c,0,none⟩=some u) from fun W hb=>(hT.later hb).c0
 obtain⟨p,cp,rfl,hc1,hc2,hat⟩:=hT.row.gT.at
 obtain⟨bb,oo,rfl,bF⟩:=hat (by omega)
 have HAT:=show Hid (∀ W:World,Below w.heap.size w W->fH W bb (oo+i * 4) t[i]) from fun W hb=>bF W hb i hi
 clear hT hat bF hr
 generalize t[i]=nd at *
 go_enter Tryz.func56,Tryz.ntmps56
 go_wp2_with (refine aI 27 _ rfl _ rfl rfl ?_)
 intro w1 b5 hn1
 go_wp2_with fail
 refine Calls.mono (KH.out _ hn1.au) ?_
 rintro e w2 ⟨rfl,hw⟩
 subst w2
 have c0:=HC.out w1 hn1.au
 have H1:=show Hid (dz w w1 b5 r g) from⟨hn1.blk,hn1.au,hn1.ge⟩
 clear hn1 KH
 go_wp2_with (first|(refine cK _ rfl _ rfl bb (oo+i * 4) rfl (HAT.out w1 H1.out.au) ?_)|(refine aF 54 rfl _ eP rfl ?_))
 intro w3 b9 aM
 refine aK 54 rfl rfl _ _ rfl b9 rfl (bq nd).toArray rfl _ _ aM.blk (by rw[eF];rfl) rfl (dR nd) ?_
 intro w4 hc4 hk4
 have H4:=show Hid (RF w w4 b5 b9 r g nd) from by
  have e1:=H1.out.au.size;have e2:=aM.ge
  exact⟨(Cl.kp (b:=b5) (T:=27) (Cl.new H1.out.s aM) hk4 (by have:=Cl.lt H1.out.s;omega)),hc4,aP (aS H1.out.au aM) hk4 (by omega)⟩
 clear H1 aM hc4 hk4 c0
 go_wp2_with (refine bN _ rfl _ rfl b5 0 rfl H4.out.s.dL hl ?_)
 refine Calls.mono (KS.out w4 (i:Int)) ?_
 rintro e w5 ⟨rfl,hb5⟩
 have H5:=show Hid _ from H4.out.later hb5
 clear H4 hb5
 have d0:w5.cell? ⟨b9,0,none⟩=some (.int .i64 nd.k):=H5.out.n.cell 0
 have d2:w5.cell? ⟨b9,2,none⟩=some (.int .i64 nd.l):=H5.out.n.cell 2
 have g16:w5.cell? ⟨b5,16,none⟩=some (.int .i64 g):=H5.out.s.dL.goal hl
 have HB:=show Hid _ from H5.out.au
 clear KK KS HC HAT H5 dQ
 cases hlf:Bt.Bs.bX r (i:Int)
 all_goals cases hk5:(nd.k == 5)
 all_goals
  go_wp2_with fail
  all_goals first|exact aU (by assumption) | skip
  go_ret
  exact⟨rfl,HB.out⟩
theorem fK (w:World) {c:Nat} {u:Value} {t:List Nd} (hT:Tr w c u t) {r:List Nat} (hr:Ok r) (g ru main:Int) :
 Calls Tryz.prog 56 #[.pointer (some ⟨c,0,none⟩),.agg (ak r g),.int .i64 ru,.int .i64 main] w fun e w'=>e=.returned (.bool (findF t r g ru main))/\Below w.heap.size w w':=by
 cases hm:Fm.has t main with
 | false=>exact M5 w hT g ru main hm
 | true=>
  have hh:=Fm.bJ.1 hm
  obtain⟨i,rfl⟩:∃ i:Nat,main=i:=⟨main.toNat,by omega⟩
  have hi:i<t.length:=by omega
  have hlen:=hT.ok.len
  have hin:=rY hr (n:=i) (by omega)
  have hfn:=fun ru=>jD (t:=t) (r:=r) (g:=g) (ru:=ru) hi
  by_cases h1:ru=1
  ·subst h1
   have e:findF t r g 1 (i:Int)=(Bt.Bs.bX r (i:Int) && (t[i].k == 2)):=by
    rw[hfn,bU hi];show(true && ((t[i].k == 2) && dM r (i:Int)))=_;rw[hin,Bool.true_and,Bool.and_comm]
   rw[e];exact P8 w hT hr g i hi
  by_cases h2:ru=2
  ·subst h2
   have e:findF t r g 2 (i:Int)=(Bt.Bs.bX r (i:Int) && ((i:Int) == g)):=by
    rw[hfn,bU hi];show(true && (((i:Int) == g) && dM r (i:Int)))=_;rw[hin,Bool.true_and,Bool.and_comm]
   rw[e];exact P9 w hT hr g i hi
  by_cases h3:ru=3
  ·subst h3
   have e:findF t r g 3 (i:Int)=(Bt.Bs.bX r (i:Int) && (t[i].k == 3)):=by
    rw[hfn,bU hi];show(true && ((t[i].k == 3) && dM r (i:Int)))=_;rw[hin,Bool.true_and,Bool.and_comm]
   rw[e];exact Qa w hT hr g i hi
  by_cases h4:ru=4
  ·subst h4
   have e:findF t r g 4 (i:Int)=(Bt.Bs.bX r (i:Int) && (t[i].k == 5) && ((aB t t[i].l).k == 1) && Bt.Bs.bX r t[i].l):=by
    rw[hfn,bU hi]
    show(true && ((((if t[i].k=5 then (aB t t[i].l).k else 0) == 1) && dM r (i:Int)) && dM r t[i].l))=_
    rw[hin,Bool.true_and,imp_eq _ _ _ _ (by decide)]
    by_cases h5:t[i].k=5
    ·obtain⟨x,y,hx,_,hxi,_⟩:=kids hT.ok hi (Or.inr (Or.inr h5))
     rw[hx,rY hr (n:=x) (by omega)]
    ·have:(t[i].k == 5)=false:=by simpa using h5
     rw[this]
     cases Bt.Bs.bX r (i:Int) <;> rfl
   rw[e];exact Qd w hT hr g i hi
  by_cases h5:ru=5
  ·subst h5
   have e:findF t r g 5 (i:Int)=(Bt.Bs.bX r (i:Int) && (t[i].k == 5) && ((aB t t[i].l).k == 2)):=by
    rw[hfn,bU hi];show(true && (((if t[i].k=5 then (aB t t[i].l).k else 0) == 2) && dM r (i:Int)))=_;rw[hin,Bool.true_and,imp_eq _ _ _ _ (by decide)]
   rw[e];exact Qe w hT hr g i hi
  by_cases h6:ru=6
  ·subst h6
   have e:findF t r g 6 (i:Int)=(Bt.Bs.bX r (i:Int) && (t[i].k == 5) && ((aB t t[i].l).k == 3)):=by
    rw[hfn,bU hi];show(true && (((if t[i].k=5 then (aB t t[i].l).k else 0) == 3) && dM r (i:Int)))=_;rw[hin,Bool.true_and,imp_eq _ _ _ _ (by decide)]
   rw[e];exact Qf w hT hr g i hi
  by_cases h7:ru=7
  ·subst h7
   have e:findF t r g 7 (i:Int)=(Bt.Bs.bX r (i:Int) && (t[i].k == 5) && ((aB t t[i].l).k == 4)):=by
    rw[hfn,bU hi];show(true && (((if t[i].k=5 then (aB t t[i].l).k else 0) == 4) && dM r (i:Int)))=_;rw[hin,Bool.true_and,imp_eq _ _ _ _ (by decide)]
   rw[e];exact Qg w hT hr g i hi
  by_cases h8:ru=8
  ·subst h8
   have e:findF t r g 8 (i:Int)=(((i:Int) == g) && (t[i].k == 5)):=by
    rw[hfn,bU hi];show(true && ((t[i].k == 5) && ((i:Int) == g)))=_;rw[Bool.true_and,Bool.and_comm]
   rw[e];exact Qb w hT hr g i hi
  by_cases h9:ru=9
  ·subst h9
   have e:findF t r g 9 (i:Int)=(((i:Int) == g) && (t[i].k == 3)):=by
    rw[hfn,bU hi];show(true && ((t[i].k == 3) && ((i:Int) == g)))=_;rw[Bool.true_and,Bool.and_comm]
   rw[e];exact Qc w hT hr g i hi
  by_cases h10:ru=10
  ·subst h10
   have e:findF t r g 10 (i:Int)=(Bt.Bs.bX r (i:Int) && (t[i].k == 4)):=by
    rw[hfn,bU hi];show(true && ((t[i].k == 4) && dM r (i:Int)))=_;rw[hin,Bool.true_and,Bool.and_comm]
   rw[e];exact M6 w hT hr g i hi
  by_cases h11:ru=11
  ·subst h11
   have e:findF t r g 11 (i:Int)=(((i:Int) == g) && (t[i].k == 4)):=by
    rw[hfn,bU hi];show(true && ((t[i].k == 4) && ((i:Int) == g)))=_;rw[Bool.true_and,Bool.and_comm]
   rw[e];exact M7 w hT hr g i hi
  by_cases h12:ru=12
  ·subst h12
   have e:findF t r g 12 (i:Int)=(((i:Int) == g) && (t[i].k == 4)):=by
    rw[hfn,bU hi];show(true && ((t[i].k == 4) && ((i:Int) == g)))=_;rw[Bool.true_and,Bool.and_comm]
   rw[e];exact M8 w hT hr g i hi
  by_cases uS:ru=13
  ·subst uS
   have e:findF t r g 13 (i:Int)=(Bt.Bs.bX r (i:Int) && (t[i].k == 5) && ((aB t t[i].l).k == 5)):=by
    rw[hfn,bU hi];show(true && (((if t[i].k=5 then (aB t t[i].l).k else 0) == 5) && dM r (i:Int)))=_;rw[hin,Bool.true_and,imp_eq _ _ _ _ (by decide)]
   rw[e];exact M9 w hT hr g i hi
  have e:findF t r g ru (i:Int)=false:=by
   rw[hfn]
   have:(decide (1<=ru) && decide (ru<=13))=false:=by
    rw[Bool.eq_false_iff]
    intro h
    simp only[Bool.and_eq_true,decide_eq_true_eq] at h
    omega
   rw[this]
   rfl
  rw[e]
  have ne:∀ n:Int,ru≠n->(ru == n)=false:=fun n h=>by simpa using h
  exact Ht w hT hr g ru i hi (ne 1 h1) (ne 2 h2) (ne 3 h3) (ne 4 h4) (ne 5 h5) (ne 6 h6) (ne 7 h7) (ne 8 h8) (ne 9 h9) (ne 10 h10) (ne 11 h11) (ne 12 h12) (ne 13 uS)
end Go.Proofs.YtkejippimkjjaaaGreatDoor
