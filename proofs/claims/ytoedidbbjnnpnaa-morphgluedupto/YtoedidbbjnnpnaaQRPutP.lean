/-
  The document's call Put: for every row that a machine can hold. No other condition.
-/
import Derived.Test.YtoedidbbjnnpnaaTH6
namespace Go.Proofs.Ytoedidbbjnnpnaa
open Go.RowKit Go.Maps
open Fm (Nd)
set_option maxRecDepth 100000 in
set_option maxHeartbeats 8000000 in
theorem rput_any (w:World) {c:Nat} {u:Value} {t:List Nd} (h:Tr w c u t) (n:Nd) (hn:Fm.good n) :
 Calls Try.prog 75 #[.pointer (some ⟨c,0,none⟩),ndV n] w fun e w'=>e=.returned (.tuple #[.int .i64 (Fm.put t n).1,.int .i64 (Fm.put t n).2.1])∧AfterR w c u (Fm.put t n).2.2 w':=by
 have HE:=show Hid _ from put_eq t n
 have HTB:=show Hid (Tr w c u t) from h
 have HN:=show Hid (Fm.good n) from hn
 have HWY:=show Hid _ from check_ways t n
 have HOK0:=show Hid (Fm.check t n=0→n ∉ t→¬ 1024≤t.length→Fm.Ok (t ++ [n])) from fun h1 h2 h3=>by
  have h4:=Fm.ok_put h.ok hn
  rw [Fm.put_new h1 h2 (by omega)] at h4
  exact h4
 have KH:=show Hid (∀ w',Below w.heap.size w w'→∀ i:Int,Calls Try.prog 89 #[.pointer (some ⟨c,0,none⟩),.int .i64 i] w' fun e w''=>e=.returned (.bool (Fm.has t i))∧w''=w') from fun w' hb i=>rhas_any w' (h.later hb) i
 have KW:=show Hid (∀ w':World,Calls Try.prog 47 #[.string n.s] w' fun e w''=>e=.returned (.bool (Fm.word n.s.data.toList))∧Below w'.heap.size w' w'') from fun w'=>rword_any w' n.s hn.2.1
 have KF:=show Hid (∀ w',Below w.heap.size w w'→Calls Try.prog 90 #[.pointer (some ⟨c,0,none⟩),ndV n] w' fun e w''=>e=.returned (.tuple #[.int .i64 (numOf t n),.bool (decide (n ∈ t))])∧Below w'.heap.size w' w'') from fun w' hb=>rfind_any w' (h.later hb) n hn
 generalize Fm.put t n=r at *
 generalize Fm.check t n=ck at *
 generalize Fm.word n.s.data.toList=wd at *
 obtain ⟨w0,hw0⟩:∃ w0,w0=w.alloc (Obj.cells #[.int .i64 n.k,.string n.s,.int .i64 n.l,.int .i64 n.r] 116):=⟨_,rfl⟩
 have HB:=show Hid (Below w.heap.size w w0) from by rw [hw0];exact below_alloc w _
 have HR:=show Hid (N4 w0 w.heap.size n) from by rw [hw0];exact heap_alloc_new w _
 have hlen:=h.ok.len
 obtain ⟨p,cp,rfl⟩:=h.row.form
 unfold ndV at *
 have HD:=show Hid (∀ dm nu,dm=decide (n ∈ t)→nu=numOf t n→(dm=true→n ∈ t∧nu=(t.idxOf n:Int))∧(dm=false→n ∉ t)) from fun dm nu hd hu=>⟨fun e=>by
  have hm:n ∈ t:=of_decide_eq_true (hd.symm.trans e)
  exact ⟨hm,by rw [hu];exact if_pos hm⟩,fun e=>of_decide_eq_false (hd.symm.trans e)⟩
 obtain ⟨k,s,l,q⟩:=n
 simp only at HE KW KF hw0 ⊢
 have hc:=HWY.out
 simp only at hc
 clear h hn HWY
 have ERR:=show Hid (ck≠0→r=(0,ck,t)) from fun hne=>by rw [HE.out,if_neg hne]
 rcases hc with ⟨rfl,⟨h1,rfl⟩ | ⟨h1,h2,rfl⟩ | ⟨h1,h2,rfl,rfl⟩ | ⟨h1,h2,rfl,rfl⟩⟩ | ⟨rfl,⟨h1,rfl⟩ | ⟨h1,h2,rfl⟩ | ⟨h1,h2,h3,rfl⟩ | ⟨h1,h2,h3,rfl⟩⟩ | ⟨hk,⟨h1,rfl⟩ | ⟨h1,h2,rfl⟩ | ⟨h1,h2,h3,rfl⟩ | ⟨h1,h2,h3,rfl⟩⟩ | ⟨h1,h2,h3,h4,h5,rfl⟩
 ·have hr:=ERR.out (by decide)
  subst hr
  clear HE ERR HOK0 HD
  go_enter Try.func75,Try.ntmps75
  go_wp2_with fail
  go_ret2
  exact ⟨rfl,AfterR.of_below HTB.out (below_alloc _ _)⟩
 ·have hr:=ERR.out (by decide)
  subst hr
  clear HE ERR HOK0 HD
  go_enter Try.func75,Try.ntmps75
  go_wp2_with fail
  go_ret2
  exact ⟨rfl,AfterR.of_below HTB.out (below_alloc _ _)⟩
 ·have hr:=ERR.out (by decide)
  subst hr
  clear HE ERR HOK0 HD
  go_enter Try.func75,Try.ntmps75
  go_wp2_with fail
  refine (KW.out _).mono ?_
  rintro e w1 ⟨rfl,hb1⟩
  have HBz:=show Hid (Below w.heap.size w w1) from (below_alloc _ _).trans (hb1.mono (by simp))
  clear hb1
  go_wp2_with fail
  go_ret2
  exact ⟨rfl,AfterR.of_below HTB.out HBz.out⟩
 ·go_enter Try.func75,Try.ntmps75
  go_wp2_with fail
  rw [← hw0]
  clear hw0
  refine (KW.out _).mono ?_
  rintro e w1 ⟨rfl,hb1⟩
  have hlt0:w.heap.size<w0.heap.size:=lt_of_block HR.out
  have HB1:=show Hid (Below w.heap.size w w1) from HB.out.trans (hb1.mono (by omega))
  have HR1:=show Hid (N4 w1 w.heap.size ⟨1,s,l,q⟩) from (hb1.block _ hlt0).trans HR.out
  clear hb1 hlt0
  have d0:=HR1.out.c0;have d1:=HR1.out.c1;have d2:=HR1.out.c2;have d3:=HR1.out.c3
  simp only at d0 d1 d2 d3
  go_wp2_with fail
  refine (KF.out _ HB1.out).mono ?_
  rintro e w2 ⟨rfl,hb2⟩
  have hltx:w.heap.size<w1.heap.size:=lt_of_block HR1.out
  have HB2:=show Hid (Below w.heap.size w w2) from HB1.out.trans (hb2.mono (by omega))
  have HR2:=show Hid (N4 w2 w.heap.size ⟨1,s,l,q⟩) from (hb2.block _ hltx).trans HR1.out
  have HT2:=show Hid (Tr w2 c (.slice p t.length cp) t) from HTB.out.later HB2.out
  have hlt2:w.heap.size<w2.heap.size:=lt_of_block HR2.out
  clear hb2 hltx d0 d1 d2 d3 KF HB1 HR1
  have c0:=HT2.out.c0
  have hr:=HE.out
  rw [if_pos (by first | rfl | trivial)] at hr
  have HE2:=show Hid _ from hr
  have HDD:=HD.out
  obtain ⟨dm,hdm⟩:∃ dm,dm=decide ((⟨1,s,l,q⟩:Nd) ∈ t):=⟨_,rfl⟩
  obtain ⟨nu,hnu⟩:∃ nu,nu=numOf t (⟨1,s,l,q⟩:Nd):=⟨_,rfl⟩
  have HD2:=show Hid ((dm=true→(⟨1,s,l,q⟩:Nd) ∈ t∧nu=(t.idxOf (⟨1,s,l,q⟩:Nd):Int))∧(dm=false→(⟨1,s,l,q⟩:Nd) ∉ t)) from HDD dm nu hdm hnu
  rw [← hdm,← hnu]
  clear hr HE ERR hdm hnu HDD HD
  cases dm
  ·have hnm:=HD2.out.2 rfl
   have HNM:=show Hid ((⟨1,s,l,q⟩:Nd) ∉ t) from hnm
   have hr:=HE2.out
   rw [if_neg hnm] at hr
   have HE3:=show Hid _ from hr
   clear hr hnm HE2 HD2
   by_cases hfull:1024≤t.length
   ·have hr:=HE3.out
    rw [if_pos hfull] at hr
    subst hr
    have hfi:(1024:Int)≤(t.length:Int):=by omega
    clear HE3
    go_wp2_with fail
    go_ret2
    exact ⟨rfl,AfterR.of_below HTB.out HB2.out⟩
   ·have hr:=HE3.out
    rw [if_neg hfull] at hr
    subst hr
    have hfi:(t.length:Int)<1024:=by omega
    have HOK:=show Hid (Fm.Ok (t ++ [(⟨1,s,l,q⟩:Nd)])) from HOK0.out (by first | rfl | trivial) HNM.out hfull
    clear HE3
    have HRW:=show Hid (∀ o,Rw (w2.drew.alloc o) (.slice p t.length cp) t) from fun o=>HT2.out.row.keep fun k hk=>Below.heap_alloc w2.drew _ _ (HT2.out.row.lt k hk).1
    have d0:=HR2.out.c0;have d1:=HR2.out.c1;have d2:=HR2.out.c2;have d3:=HR2.out.c3
    simp only at d0 d1 d2 d3
    have HSK:=show Hid (∀ (o:Obj) (w':World),(w2.drew.alloc o).grownBy w' (Value.slice p t.length cp).ownBlock→w'.heap[c]?=w2.heap[c]?) from fun o w' hg=>(hg.block c (by have:=HT2.out.clt;simp;omega) (fun e=>HT2.out.uc e.symm)).trans (Below.heap_alloc w2.drew _ _ HT2.out.clt)
    have HST:=show Hid (∀ w':World,(w2.drew.alloc (Obj.cells #[.int .i64 1,.string s,.int .i64 l,.int .i64 q] 116)).grownBy w' (Value.slice p t.length cp).ownBlock→∀ (j:Nat) (x:Value),w2.cell? ⟨c,j,none⟩=some x→w'.cell? ⟨c,j,none⟩=some x) from fun w' hg j x hx=>(World.cell?_of_block (w:=w2) (HSK.out _ w' hg)).trans hx
    have HSF:=show Hid (∀ w':World,(w2.drew.alloc (Obj.cells #[.int .i64 1,.string s,.int .i64 l,.int .i64 q] 116)).grownBy w' (Value.slice p t.length cp).ownBlock→∀ (j:Nat),w'.frozen? ⟨c,j,none⟩=false) from fun w' hg j=>(World.frozen?_of_block (w:=w2) (a:=⟨c,j,none⟩) (HSK.out _ w' hg)).trans (HT2.out.fr j)
    have c0a:(w2.alloc (Obj.cells #[.int .i64 1,.string s,.int .i64 l,.int .i64 q] 116)).cell? ⟨c,0,none⟩=some (.slice p t.length cp):=(World.cell?_of_block (w:=w2) (Below.heap_alloc w2 _ _ HT2.out.clt)).trans c0
    go_wp2_with fail
    go_region_law (refine step_append_rw rfl (.tmp 78) (.tmp 80) rfl (.slice p t.length cp) t rfl (HRW.out _) (by omega) ⟨1,s,l,q⟩ ⟨w2.heap.size,0,none⟩ rfl (lit_newsV _ _ _ _ rfl) ?_;intro v' w' hrw hgr hli;obtain ⟨p',c',hv'⟩:=hrw.form;subst hv';have f0:w'.cell? ⟨c,0,none⟩=some (.slice p t.length cp):=HST.out w' hgr 0 _ c0;have f1:w'.frozen? ⟨c,0,none⟩=false:=HSF.out w' hgr 0)
    all_goals
     have X:=halfR HT2.out (by exact ⟨rfl,rfl,rfl,by simp,fun k hk=>Below.heap_alloc w2 _ _ hk⟩) hgr hrw hli HOK.out
     rw [show (t ++ [(⟨1,s,l,q⟩:Nd)]).length=t.length+1 by simp] at X
     have y0:=X.1.c0
     generalize w'.setCell ⟨c,0,none⟩ (.slice p' (t.length+1) c')=w3 at *
     have HX:=show Hid (AfterR w c (.slice p t.length cp) (t ++ [(⟨1,s,l,q⟩:Nd)]) w3) from AfterR.from_below ⟨_,X⟩ HB2.out
     clear X hrw hgr hli f0 f1 c0a HSF HST HSK HRW
     go_wp2_with fail
     go_ret2
     exact ⟨by simp,HX.out⟩
  ·have hmm:=HD2.out.1 rfl
   have hr:=HE2.out
   rw [if_pos hmm.1,← hmm.2] at hr
   subst hr
   clear hmm HE2 HD2
   go_wp2_with fail
   go_ret2
   exact ⟨rfl,AfterR.of_below HTB.out HB2.out⟩
 ·have hr:=ERR.out (by decide)
  subst hr
  clear HE ERR HOK0 HD
  go_enter Try.func75,Try.ntmps75
  go_wp2_with fail
  go_ret2
  exact ⟨rfl,AfterR.of_below HTB.out (below_alloc _ _)⟩
 ·have hr:=ERR.out (by decide)
  subst hr
  clear HE ERR HOK0 HD
  go_enter Try.func75,Try.ntmps75
  go_wp2_with fail
  go_ret2
  exact ⟨rfl,AfterR.of_below HTB.out (below_alloc _ _)⟩
 ·have hr:=ERR.out (by decide)
  subst hr
  clear HE ERR HOK0 HD
  go_enter Try.func75,Try.ntmps75
  go_wp2_with fail
  go_ret2
  exact ⟨rfl,AfterR.of_below HTB.out (below_alloc _ _)⟩
 ·skip
  go_enter Try.func75,Try.ntmps75
  go_wp2_with fail
  rw [← hw0]
  clear hw0
  refine (KF.out _ HB.out).mono ?_
  rintro e w2 ⟨rfl,hb2⟩
  have hltx:w.heap.size<w0.heap.size:=lt_of_block HR.out
  have HB2:=show Hid (Below w.heap.size w w2) from HB.out.trans (hb2.mono (by omega))
  have HR2:=show Hid (N4 w2 w.heap.size ⟨2,s,l,q⟩) from (hb2.block _ hltx).trans HR.out
  have HT2:=show Hid (Tr w2 c (.slice p t.length cp) t) from HTB.out.later HB2.out
  have hlt2:w.heap.size<w2.heap.size:=lt_of_block HR2.out
  clear hb2 hltx KF HB HR
  have c0:=HT2.out.c0
  have hr:=HE.out
  rw [if_pos (by first | rfl | trivial)] at hr
  have HE2:=show Hid _ from hr
  have HDD:=HD.out
  obtain ⟨dm,hdm⟩:∃ dm,dm=decide ((⟨2,s,l,q⟩:Nd) ∈ t):=⟨_,rfl⟩
  obtain ⟨nu,hnu⟩:∃ nu,nu=numOf t (⟨2,s,l,q⟩:Nd):=⟨_,rfl⟩
  have HD2:=show Hid ((dm=true→(⟨2,s,l,q⟩:Nd) ∈ t∧nu=(t.idxOf (⟨2,s,l,q⟩:Nd):Int))∧(dm=false→(⟨2,s,l,q⟩:Nd) ∉ t)) from HDD dm nu hdm hnu
  rw [← hdm,← hnu]
  clear hr HE ERR hdm hnu HDD HD
  cases dm
  ·have hnm:=HD2.out.2 rfl
   have HNM:=show Hid ((⟨2,s,l,q⟩:Nd) ∉ t) from hnm
   have hr:=HE2.out
   rw [if_neg hnm] at hr
   have HE3:=show Hid _ from hr
   clear hr hnm HE2 HD2
   by_cases hfull:1024≤t.length
   ·have hr:=HE3.out
    rw [if_pos hfull] at hr
    subst hr
    have hfi:(1024:Int)≤(t.length:Int):=by omega
    clear HE3
    go_wp2_with fail
    go_ret2
    exact ⟨rfl,AfterR.of_below HTB.out HB2.out⟩
   ·have hr:=HE3.out
    rw [if_neg hfull] at hr
    subst hr
    have hfi:(t.length:Int)<1024:=by omega
    have HOK:=show Hid (Fm.Ok (t ++ [(⟨2,s,l,q⟩:Nd)])) from HOK0.out (by first | rfl | trivial) HNM.out hfull
    clear HE3
    have HRW:=show Hid (∀ o,Rw (w2.drew.alloc o) (.slice p t.length cp) t) from fun o=>HT2.out.row.keep fun k hk=>Below.heap_alloc w2.drew _ _ (HT2.out.row.lt k hk).1
    have d0:=HR2.out.c0;have d1:=HR2.out.c1;have d2:=HR2.out.c2;have d3:=HR2.out.c3
    simp only at d0 d1 d2 d3
    have HSK:=show Hid (∀ (o:Obj) (w':World),(w2.drew.alloc o).grownBy w' (Value.slice p t.length cp).ownBlock→w'.heap[c]?=w2.heap[c]?) from fun o w' hg=>(hg.block c (by have:=HT2.out.clt;simp;omega) (fun e=>HT2.out.uc e.symm)).trans (Below.heap_alloc w2.drew _ _ HT2.out.clt)
    have HST:=show Hid (∀ w':World,(w2.drew.alloc (Obj.cells #[.int .i64 2,.string s,.int .i64 l,.int .i64 q] 116)).grownBy w' (Value.slice p t.length cp).ownBlock→∀ (j:Nat) (x:Value),w2.cell? ⟨c,j,none⟩=some x→w'.cell? ⟨c,j,none⟩=some x) from fun w' hg j x hx=>(World.cell?_of_block (w:=w2) (HSK.out _ w' hg)).trans hx
    have HSF:=show Hid (∀ w':World,(w2.drew.alloc (Obj.cells #[.int .i64 2,.string s,.int .i64 l,.int .i64 q] 116)).grownBy w' (Value.slice p t.length cp).ownBlock→∀ (j:Nat),w'.frozen? ⟨c,j,none⟩=false) from fun w' hg j=>(World.frozen?_of_block (w:=w2) (a:=⟨c,j,none⟩) (HSK.out _ w' hg)).trans (HT2.out.fr j)
    have c0a:(w2.alloc (Obj.cells #[.int .i64 2,.string s,.int .i64 l,.int .i64 q] 116)).cell? ⟨c,0,none⟩=some (.slice p t.length cp):=(World.cell?_of_block (w:=w2) (Below.heap_alloc w2 _ _ HT2.out.clt)).trans c0
    go_wp2_with fail
    go_region_law (refine step_append_rw rfl (.tmp 78) (.tmp 80) rfl (.slice p t.length cp) t rfl (HRW.out _) (by omega) ⟨2,s,l,q⟩ ⟨w2.heap.size,0,none⟩ rfl (lit_newsV _ _ _ _ rfl) ?_;intro v' w' hrw hgr hli;obtain ⟨p',c',hv'⟩:=hrw.form;subst hv';have f0:w'.cell? ⟨c,0,none⟩=some (.slice p t.length cp):=HST.out w' hgr 0 _ c0;have f1:w'.frozen? ⟨c,0,none⟩=false:=HSF.out w' hgr 0)
    all_goals
     have X:=halfR HT2.out (by exact ⟨rfl,rfl,rfl,by simp,fun k hk=>Below.heap_alloc w2 _ _ hk⟩) hgr hrw hli HOK.out
     rw [show (t ++ [(⟨2,s,l,q⟩:Nd)]).length=t.length+1 by simp] at X
     have y0:=X.1.c0
     generalize w'.setCell ⟨c,0,none⟩ (.slice p' (t.length+1) c')=w3 at *
     have HX:=show Hid (AfterR w c (.slice p t.length cp) (t ++ [(⟨2,s,l,q⟩:Nd)]) w3) from AfterR.from_below ⟨_,X⟩ HB2.out
     clear X hrw hgr hli f0 f1 c0a HSF HST HSK HRW
     go_wp2_with fail
     go_ret2
     exact ⟨by simp,HX.out⟩
  ·have hmm:=HD2.out.1 rfl
   have hr:=HE2.out
   rw [if_pos hmm.1,← hmm.2] at hr
   subst hr
   clear hmm HE2 HD2
   go_wp2_with fail
   go_ret2
   exact ⟨rfl,AfterR.of_below HTB.out HB2.out⟩
 ·rcases hk with rfl | rfl | rfl
  all_goals
   have hr:=ERR.out (by decide)
   subst hr
   clear HE ERR HOK0 HD
   go_enter Try.func75,Try.ntmps75
   go_wp2_with fail
   go_ret2
   exact ⟨rfl,AfterR.of_below HTB.out (below_alloc _ _)⟩
 ·rcases hk with rfl | rfl | rfl
  all_goals
   have hr:=ERR.out (by decide)
   subst hr
   clear HE ERR HOK0 HD
   go_enter Try.func75,Try.ntmps75
   go_wp2_with fail
   refine (KH.out _ (below_alloc _ _) _).mono ?_
   rintro e w1 ⟨rfl,hw1⟩
   subst w1
   rw [h2]
   go_wp2_with fail
   go_ret2
   exact ⟨rfl,AfterR.of_below HTB.out (below_alloc _ _)⟩
 ·rcases hk with rfl | rfl | rfl
  all_goals
   have hr:=ERR.out (by decide)
   subst hr
   clear HE ERR HOK0 HD
   go_enter Try.func75,Try.ntmps75
   go_wp2_with fail
   refine (KH.out _ (below_alloc _ _) _).mono ?_
   rintro e w1 ⟨rfl,hw1⟩
   subst w1
   rw [h2]
   go_wp2_with fail
   refine (KH.out _ (below_alloc _ _) _).mono ?_
   rintro e w1 ⟨rfl,hw1⟩
   subst w1
   rw [h3]
   go_wp2_with fail
   go_ret2
   exact ⟨rfl,AfterR.of_below HTB.out (below_alloc _ _)⟩
 ·rcases hk with rfl | rfl | rfl
  ·go_enter Try.func75,Try.ntmps75
   go_wp2_with fail
   rw [← hw0]
   clear hw0
   refine (KH.out _ HB.out _).mono ?_
   rintro e w1 ⟨rfl,hw1⟩
   subst w1
   rw [h2]
   have d0:=HR.out.c0;have d1:=HR.out.c1;have d2:=HR.out.c2;have d3:=HR.out.c3
   simp only at d0 d1 d2 d3
   go_wp2_with fail
   refine (KH.out _ HB.out _).mono ?_
   rintro e w1 ⟨rfl,hw1⟩
   subst w1
   rw [h3]
   clear d0 d1 d2 d3
   have d0:=HR.out.c0;have d1:=HR.out.c1;have d2:=HR.out.c2;have d3:=HR.out.c3
   simp only at d0 d1 d2 d3
   go_wp2_with fail
   refine (KF.out _ HB.out).mono ?_
   rintro e w2 ⟨rfl,hb2⟩
   have hltx:w.heap.size<w0.heap.size:=lt_of_block HR.out
   have HB2:=show Hid (Below w.heap.size w w2) from HB.out.trans (hb2.mono (by omega))
   have HR2:=show Hid (N4 w2 w.heap.size ⟨3,s,l,q⟩) from (hb2.block _ hltx).trans HR.out
   have HT2:=show Hid (Tr w2 c (.slice p t.length cp) t) from HTB.out.later HB2.out
   have hlt2:w.heap.size<w2.heap.size:=lt_of_block HR2.out
   clear hb2 hltx d0 d1 d2 d3 KF HB HR
   have c0:=HT2.out.c0
   have hr:=HE.out
   rw [if_pos (by first | rfl | trivial)] at hr
   have HE2:=show Hid _ from hr
   have HDD:=HD.out
   obtain ⟨dm,hdm⟩:∃ dm,dm=decide ((⟨3,s,l,q⟩:Nd) ∈ t):=⟨_,rfl⟩
   obtain ⟨nu,hnu⟩:∃ nu,nu=numOf t (⟨3,s,l,q⟩:Nd):=⟨_,rfl⟩
   have HD2:=show Hid ((dm=true→(⟨3,s,l,q⟩:Nd) ∈ t∧nu=(t.idxOf (⟨3,s,l,q⟩:Nd):Int))∧(dm=false→(⟨3,s,l,q⟩:Nd) ∉ t)) from HDD dm nu hdm hnu
   rw [← hdm,← hnu]
   clear hr HE ERR hdm hnu HDD HD
   cases dm
   ·have hnm:=HD2.out.2 rfl
    have HNM:=show Hid ((⟨3,s,l,q⟩:Nd) ∉ t) from hnm
    have hr:=HE2.out
    rw [if_neg hnm] at hr
    have HE3:=show Hid _ from hr
    clear hr hnm HE2 HD2
    by_cases hfull:1024≤t.length
    ·have hr:=HE3.out
     rw [if_pos hfull] at hr
     subst hr
     have hfi:(1024:Int)≤(t.length:Int):=by omega
     clear HE3
     go_wp2_with fail
     go_ret2
     exact ⟨rfl,AfterR.of_below HTB.out HB2.out⟩
    ·have hr:=HE3.out
     rw [if_neg hfull] at hr
     subst hr
     have hfi:(t.length:Int)<1024:=by omega
     have HOK:=show Hid (Fm.Ok (t ++ [(⟨3,s,l,q⟩:Nd)])) from HOK0.out (by first | rfl | trivial) HNM.out hfull
     clear HE3
     have HRW:=show Hid (∀ o,Rw (w2.drew.alloc o) (.slice p t.length cp) t) from fun o=>HT2.out.row.keep fun k hk=>Below.heap_alloc w2.drew _ _ (HT2.out.row.lt k hk).1
     have d0:=HR2.out.c0;have d1:=HR2.out.c1;have d2:=HR2.out.c2;have d3:=HR2.out.c3
     simp only at d0 d1 d2 d3
     have HSK:=show Hid (∀ (o:Obj) (w':World),(w2.drew.alloc o).grownBy w' (Value.slice p t.length cp).ownBlock→w'.heap[c]?=w2.heap[c]?) from fun o w' hg=>(hg.block c (by have:=HT2.out.clt;simp;omega) (fun e=>HT2.out.uc e.symm)).trans (Below.heap_alloc w2.drew _ _ HT2.out.clt)
     have HST:=show Hid (∀ w':World,(w2.drew.alloc (Obj.cells #[.int .i64 3,.string s,.int .i64 l,.int .i64 q] 116)).grownBy w' (Value.slice p t.length cp).ownBlock→∀ (j:Nat) (x:Value),w2.cell? ⟨c,j,none⟩=some x→w'.cell? ⟨c,j,none⟩=some x) from fun w' hg j x hx=>(World.cell?_of_block (w:=w2) (HSK.out _ w' hg)).trans hx
     have HSF:=show Hid (∀ w':World,(w2.drew.alloc (Obj.cells #[.int .i64 3,.string s,.int .i64 l,.int .i64 q] 116)).grownBy w' (Value.slice p t.length cp).ownBlock→∀ (j:Nat),w'.frozen? ⟨c,j,none⟩=false) from fun w' hg j=>(World.frozen?_of_block (w:=w2) (a:=⟨c,j,none⟩) (HSK.out _ w' hg)).trans (HT2.out.fr j)
     have c0a:(w2.alloc (Obj.cells #[.int .i64 3,.string s,.int .i64 l,.int .i64 q] 116)).cell? ⟨c,0,none⟩=some (.slice p t.length cp):=(World.cell?_of_block (w:=w2) (Below.heap_alloc w2 _ _ HT2.out.clt)).trans c0
     go_wp2_with fail
     go_region_law (refine step_append_rw rfl (.tmp 78) (.tmp 80) rfl (.slice p t.length cp) t rfl (HRW.out _) (by omega) ⟨3,s,l,q⟩ ⟨w2.heap.size,0,none⟩ rfl (lit_newsV _ _ _ _ rfl) ?_;intro v' w' hrw hgr hli;obtain ⟨p',c',hv'⟩:=hrw.form;subst hv';have f0:w'.cell? ⟨c,0,none⟩=some (.slice p t.length cp):=HST.out w' hgr 0 _ c0;have f1:w'.frozen? ⟨c,0,none⟩=false:=HSF.out w' hgr 0)
     all_goals
      have X:=halfR HT2.out (by exact ⟨rfl,rfl,rfl,by simp,fun k hk=>Below.heap_alloc w2 _ _ hk⟩) hgr hrw hli HOK.out
      rw [show (t ++ [(⟨3,s,l,q⟩:Nd)]).length=t.length+1 by simp] at X
      have y0:=X.1.c0
      generalize w'.setCell ⟨c,0,none⟩ (.slice p' (t.length+1) c')=w3 at *
      have HX:=show Hid (AfterR w c (.slice p t.length cp) (t ++ [(⟨3,s,l,q⟩:Nd)]) w3) from AfterR.from_below ⟨_,X⟩ HB2.out
      clear X hrw hgr hli f0 f1 c0a HSF HST HSK HRW
      go_wp2_with fail
      go_ret2
      exact ⟨by simp,HX.out⟩
   ·have hmm:=HD2.out.1 rfl
    have hr:=HE2.out
    rw [if_pos hmm.1,← hmm.2] at hr
    subst hr
    clear hmm HE2 HD2
    go_wp2_with fail
    go_ret2
    exact ⟨rfl,AfterR.of_below HTB.out HB2.out⟩
  ·go_enter Try.func75,Try.ntmps75
   go_wp2_with fail
   rw [← hw0]
   clear hw0
   refine (KH.out _ HB.out _).mono ?_
   rintro e w1 ⟨rfl,hw1⟩
   subst w1
   rw [h2]
   have d0:=HR.out.c0;have d1:=HR.out.c1;have d2:=HR.out.c2;have d3:=HR.out.c3
   simp only at d0 d1 d2 d3
   go_wp2_with fail
   refine (KH.out _ HB.out _).mono ?_
   rintro e w1 ⟨rfl,hw1⟩
   subst w1
   rw [h3]
   clear d0 d1 d2 d3
   have d0:=HR.out.c0;have d1:=HR.out.c1;have d2:=HR.out.c2;have d3:=HR.out.c3
   simp only at d0 d1 d2 d3
   go_wp2_with fail
   refine (KF.out _ HB.out).mono ?_
   rintro e w2 ⟨rfl,hb2⟩
   have hltx:w.heap.size<w0.heap.size:=lt_of_block HR.out
   have HB2:=show Hid (Below w.heap.size w w2) from HB.out.trans (hb2.mono (by omega))
   have HR2:=show Hid (N4 w2 w.heap.size ⟨4,s,l,q⟩) from (hb2.block _ hltx).trans HR.out
   have HT2:=show Hid (Tr w2 c (.slice p t.length cp) t) from HTB.out.later HB2.out
   have hlt2:w.heap.size<w2.heap.size:=lt_of_block HR2.out
   clear hb2 hltx d0 d1 d2 d3 KF HB HR
   have c0:=HT2.out.c0
   have hr:=HE.out
   rw [if_pos (by first | rfl | trivial)] at hr
   have HE2:=show Hid _ from hr
   have HDD:=HD.out
   obtain ⟨dm,hdm⟩:∃ dm,dm=decide ((⟨4,s,l,q⟩:Nd) ∈ t):=⟨_,rfl⟩
   obtain ⟨nu,hnu⟩:∃ nu,nu=numOf t (⟨4,s,l,q⟩:Nd):=⟨_,rfl⟩
   have HD2:=show Hid ((dm=true→(⟨4,s,l,q⟩:Nd) ∈ t∧nu=(t.idxOf (⟨4,s,l,q⟩:Nd):Int))∧(dm=false→(⟨4,s,l,q⟩:Nd) ∉ t)) from HDD dm nu hdm hnu
   rw [← hdm,← hnu]
   clear hr HE ERR hdm hnu HDD HD
   cases dm
   ·have hnm:=HD2.out.2 rfl
    have HNM:=show Hid ((⟨4,s,l,q⟩:Nd) ∉ t) from hnm
    have hr:=HE2.out
    rw [if_neg hnm] at hr
    have HE3:=show Hid _ from hr
    clear hr hnm HE2 HD2
    by_cases hfull:1024≤t.length
    ·have hr:=HE3.out
     rw [if_pos hfull] at hr
     subst hr
     have hfi:(1024:Int)≤(t.length:Int):=by omega
     clear HE3
     go_wp2_with fail
     go_ret2
     exact ⟨rfl,AfterR.of_below HTB.out HB2.out⟩
    ·have hr:=HE3.out
     rw [if_neg hfull] at hr
     subst hr
     have hfi:(t.length:Int)<1024:=by omega
     have HOK:=show Hid (Fm.Ok (t ++ [(⟨4,s,l,q⟩:Nd)])) from HOK0.out (by first | rfl | trivial) HNM.out hfull
     clear HE3
     have HRW:=show Hid (∀ o,Rw (w2.drew.alloc o) (.slice p t.length cp) t) from fun o=>HT2.out.row.keep fun k hk=>Below.heap_alloc w2.drew _ _ (HT2.out.row.lt k hk).1
     have d0:=HR2.out.c0;have d1:=HR2.out.c1;have d2:=HR2.out.c2;have d3:=HR2.out.c3
     simp only at d0 d1 d2 d3
     have HSK:=show Hid (∀ (o:Obj) (w':World),(w2.drew.alloc o).grownBy w' (Value.slice p t.length cp).ownBlock→w'.heap[c]?=w2.heap[c]?) from fun o w' hg=>(hg.block c (by have:=HT2.out.clt;simp;omega) (fun e=>HT2.out.uc e.symm)).trans (Below.heap_alloc w2.drew _ _ HT2.out.clt)
     have HST:=show Hid (∀ w':World,(w2.drew.alloc (Obj.cells #[.int .i64 4,.string s,.int .i64 l,.int .i64 q] 116)).grownBy w' (Value.slice p t.length cp).ownBlock→∀ (j:Nat) (x:Value),w2.cell? ⟨c,j,none⟩=some x→w'.cell? ⟨c,j,none⟩=some x) from fun w' hg j x hx=>(World.cell?_of_block (w:=w2) (HSK.out _ w' hg)).trans hx
     have HSF:=show Hid (∀ w':World,(w2.drew.alloc (Obj.cells #[.int .i64 4,.string s,.int .i64 l,.int .i64 q] 116)).grownBy w' (Value.slice p t.length cp).ownBlock→∀ (j:Nat),w'.frozen? ⟨c,j,none⟩=false) from fun w' hg j=>(World.frozen?_of_block (w:=w2) (a:=⟨c,j,none⟩) (HSK.out _ w' hg)).trans (HT2.out.fr j)
     have c0a:(w2.alloc (Obj.cells #[.int .i64 4,.string s,.int .i64 l,.int .i64 q] 116)).cell? ⟨c,0,none⟩=some (.slice p t.length cp):=(World.cell?_of_block (w:=w2) (Below.heap_alloc w2 _ _ HT2.out.clt)).trans c0
     go_wp2_with fail
     go_region_law (refine step_append_rw rfl (.tmp 78) (.tmp 80) rfl (.slice p t.length cp) t rfl (HRW.out _) (by omega) ⟨4,s,l,q⟩ ⟨w2.heap.size,0,none⟩ rfl (lit_newsV _ _ _ _ rfl) ?_;intro v' w' hrw hgr hli;obtain ⟨p',c',hv'⟩:=hrw.form;subst hv';have f0:w'.cell? ⟨c,0,none⟩=some (.slice p t.length cp):=HST.out w' hgr 0 _ c0;have f1:w'.frozen? ⟨c,0,none⟩=false:=HSF.out w' hgr 0)
     all_goals
      have X:=halfR HT2.out (by exact ⟨rfl,rfl,rfl,by simp,fun k hk=>Below.heap_alloc w2 _ _ hk⟩) hgr hrw hli HOK.out
      rw [show (t ++ [(⟨4,s,l,q⟩:Nd)]).length=t.length+1 by simp] at X
      have y0:=X.1.c0
      generalize w'.setCell ⟨c,0,none⟩ (.slice p' (t.length+1) c')=w3 at *
      have HX:=show Hid (AfterR w c (.slice p t.length cp) (t ++ [(⟨4,s,l,q⟩:Nd)]) w3) from AfterR.from_below ⟨_,X⟩ HB2.out
      clear X hrw hgr hli f0 f1 c0a HSF HST HSK HRW
      go_wp2_with fail
      go_ret2
      exact ⟨by simp,HX.out⟩
   ·have hmm:=HD2.out.1 rfl
    have hr:=HE2.out
    rw [if_pos hmm.1,← hmm.2] at hr
    subst hr
    clear hmm HE2 HD2
    go_wp2_with fail
    go_ret2
    exact ⟨rfl,AfterR.of_below HTB.out HB2.out⟩
  ·go_enter Try.func75,Try.ntmps75
   go_wp2_with fail
   rw [← hw0]
   clear hw0
   refine (KH.out _ HB.out _).mono ?_
   rintro e w1 ⟨rfl,hw1⟩
   subst w1
   rw [h2]
   have d0:=HR.out.c0;have d1:=HR.out.c1;have d2:=HR.out.c2;have d3:=HR.out.c3
   simp only at d0 d1 d2 d3
   go_wp2_with fail
   refine (KH.out _ HB.out _).mono ?_
   rintro e w1 ⟨rfl,hw1⟩
   subst w1
   rw [h3]
   clear d0 d1 d2 d3
   have d0:=HR.out.c0;have d1:=HR.out.c1;have d2:=HR.out.c2;have d3:=HR.out.c3
   simp only at d0 d1 d2 d3
   go_wp2_with fail
   refine (KF.out _ HB.out).mono ?_
   rintro e w2 ⟨rfl,hb2⟩
   have hltx:w.heap.size<w0.heap.size:=lt_of_block HR.out
   have HB2:=show Hid (Below w.heap.size w w2) from HB.out.trans (hb2.mono (by omega))
   have HR2:=show Hid (N4 w2 w.heap.size ⟨5,s,l,q⟩) from (hb2.block _ hltx).trans HR.out
   have HT2:=show Hid (Tr w2 c (.slice p t.length cp) t) from HTB.out.later HB2.out
   have hlt2:w.heap.size<w2.heap.size:=lt_of_block HR2.out
   clear hb2 hltx d0 d1 d2 d3 KF HB HR
   have c0:=HT2.out.c0
   have hr:=HE.out
   rw [if_pos (by first | rfl | trivial)] at hr
   have HE2:=show Hid _ from hr
   have HDD:=HD.out
   obtain ⟨dm,hdm⟩:∃ dm,dm=decide ((⟨5,s,l,q⟩:Nd) ∈ t):=⟨_,rfl⟩
   obtain ⟨nu,hnu⟩:∃ nu,nu=numOf t (⟨5,s,l,q⟩:Nd):=⟨_,rfl⟩
   have HD2:=show Hid ((dm=true→(⟨5,s,l,q⟩:Nd) ∈ t∧nu=(t.idxOf (⟨5,s,l,q⟩:Nd):Int))∧(dm=false→(⟨5,s,l,q⟩:Nd) ∉ t)) from HDD dm nu hdm hnu
   rw [← hdm,← hnu]
   clear hr HE ERR hdm hnu HDD HD
   cases dm
   ·have hnm:=HD2.out.2 rfl
    have HNM:=show Hid ((⟨5,s,l,q⟩:Nd) ∉ t) from hnm
    have hr:=HE2.out
    rw [if_neg hnm] at hr
    have HE3:=show Hid _ from hr
    clear hr hnm HE2 HD2
    by_cases hfull:1024≤t.length
    ·have hr:=HE3.out
     rw [if_pos hfull] at hr
     subst hr
     have hfi:(1024:Int)≤(t.length:Int):=by omega
     clear HE3
     go_wp2_with fail
     go_ret2
     exact ⟨rfl,AfterR.of_below HTB.out HB2.out⟩
    ·have hr:=HE3.out
     rw [if_neg hfull] at hr
     subst hr
     have hfi:(t.length:Int)<1024:=by omega
     have HOK:=show Hid (Fm.Ok (t ++ [(⟨5,s,l,q⟩:Nd)])) from HOK0.out (by first | rfl | trivial) HNM.out hfull
     clear HE3
     have HRW:=show Hid (∀ o,Rw (w2.drew.alloc o) (.slice p t.length cp) t) from fun o=>HT2.out.row.keep fun k hk=>Below.heap_alloc w2.drew _ _ (HT2.out.row.lt k hk).1
     have d0:=HR2.out.c0;have d1:=HR2.out.c1;have d2:=HR2.out.c2;have d3:=HR2.out.c3
     simp only at d0 d1 d2 d3
     have HSK:=show Hid (∀ (o:Obj) (w':World),(w2.drew.alloc o).grownBy w' (Value.slice p t.length cp).ownBlock→w'.heap[c]?=w2.heap[c]?) from fun o w' hg=>(hg.block c (by have:=HT2.out.clt;simp;omega) (fun e=>HT2.out.uc e.symm)).trans (Below.heap_alloc w2.drew _ _ HT2.out.clt)
     have HST:=show Hid (∀ w':World,(w2.drew.alloc (Obj.cells #[.int .i64 5,.string s,.int .i64 l,.int .i64 q] 116)).grownBy w' (Value.slice p t.length cp).ownBlock→∀ (j:Nat) (x:Value),w2.cell? ⟨c,j,none⟩=some x→w'.cell? ⟨c,j,none⟩=some x) from fun w' hg j x hx=>(World.cell?_of_block (w:=w2) (HSK.out _ w' hg)).trans hx
     have HSF:=show Hid (∀ w':World,(w2.drew.alloc (Obj.cells #[.int .i64 5,.string s,.int .i64 l,.int .i64 q] 116)).grownBy w' (Value.slice p t.length cp).ownBlock→∀ (j:Nat),w'.frozen? ⟨c,j,none⟩=false) from fun w' hg j=>(World.frozen?_of_block (w:=w2) (a:=⟨c,j,none⟩) (HSK.out _ w' hg)).trans (HT2.out.fr j)
     have c0a:(w2.alloc (Obj.cells #[.int .i64 5,.string s,.int .i64 l,.int .i64 q] 116)).cell? ⟨c,0,none⟩=some (.slice p t.length cp):=(World.cell?_of_block (w:=w2) (Below.heap_alloc w2 _ _ HT2.out.clt)).trans c0
     go_wp2_with fail
     go_region_law (refine step_append_rw rfl (.tmp 78) (.tmp 80) rfl (.slice p t.length cp) t rfl (HRW.out _) (by omega) ⟨5,s,l,q⟩ ⟨w2.heap.size,0,none⟩ rfl (lit_newsV _ _ _ _ rfl) ?_;intro v' w' hrw hgr hli;obtain ⟨p',c',hv'⟩:=hrw.form;subst hv';have f0:w'.cell? ⟨c,0,none⟩=some (.slice p t.length cp):=HST.out w' hgr 0 _ c0;have f1:w'.frozen? ⟨c,0,none⟩=false:=HSF.out w' hgr 0)
     all_goals
      have X:=halfR HT2.out (by exact ⟨rfl,rfl,rfl,by simp,fun k hk=>Below.heap_alloc w2 _ _ hk⟩) hgr hrw hli HOK.out
      rw [show (t ++ [(⟨5,s,l,q⟩:Nd)]).length=t.length+1 by simp] at X
      have y0:=X.1.c0
      generalize w'.setCell ⟨c,0,none⟩ (.slice p' (t.length+1) c')=w3 at *
      have HX:=show Hid (AfterR w c (.slice p t.length cp) (t ++ [(⟨5,s,l,q⟩:Nd)]) w3) from AfterR.from_below ⟨_,X⟩ HB2.out
      clear X hrw hgr hli f0 f1 c0a HSF HST HSK HRW
      go_wp2_with fail
      go_ret2
      exact ⟨by simp,HX.out⟩
   ·have hmm:=HD2.out.1 rfl
    have hr:=HE2.out
    rw [if_pos hmm.1,← hmm.2] at hr
    subst hr
    clear hmm HE2 HD2
    go_wp2_with fail
    go_ret2
    exact ⟨rfl,AfterR.of_below HTB.out HB2.out⟩
 ·have hr:=ERR.out (by decide)
  subst hr
  clear HE ERR HOK0 HD
  go_enter Try.func75,Try.ntmps75
  go_wp2_with fail
  go_ret2
  exact ⟨rfl,AfterR.of_below HTB.out (below_alloc _ _)⟩
end Go.Proofs.Ytoedidbbjnnpnaa
