/-
  The call Parse of layer 8: for every table that calls made and every text up to 2^40 bytes. No other condition than that the tables of layers 2 and 5 stand. (Written by genqparse.py.)
-/
import Derived.Test.YtkmmlimekachbaaGreatDoorQG5
import Derived.Test.YtkmmlimekachbaaGreatDoorQTok
import Derived.Test.YtkmmlimekachbaaGreatDoorSG5
namespace Go.Proofs.YtkmmlimekachbaaGreatDoor
open Go.RowKit Go.Shelf Go.Maps
open Fm (Nd)
open Sx (Tn T)
open Bt.Bs (Ok wd)
def parseQ (s:List UInt8) (t:List Nd):((List Nat × Int) × (Int × Tn)) × List Nd :=
 if 512<cnt (toks s) then (((Bt.Bs.zero,0),((parseR s t).1.2.1,(parseR s t).1.2.2)),(parseR s t).2)
 else
  match Sq.sidesR (toks s) with
  | .inl x=>(((Bt.Bs.zero,0),x),t)
  | .inr (ps,l)=>Sq.putQ t ps l
def sdEnd (t:List Nd):(Int × Tn) ⊕ (List (List Tn) × List Tn)→((List Nat × Int) × (Int × Tn)) × List Nd
 | .inl x=>(((Bt.Bs.zero,0),x),t)
 | .inr (ps,l)=>Sq.putQ t ps l
theorem parseQ_end (s:List UInt8) (t:List Nd):parseQ s t=if 512<cnt (toks s) then (((Bt.Bs.zero,0),((parseR s t).1.2.1,(parseR s t).1.2.2)),(parseR s t).2) else sdEnd t (Sq.sidesR (toks s)):=by
 unfold parseQ
 cases Sq.sidesR (toks s) <;> rfl
theorem goal_ne {ps:List (List Tn)} {l:List Tn} {x:Int × Tn} (h:Sq.goalR ps l=.inl x):x.1≠0:=by
 unfold Sq.goalR at h
 split at h
 ·rename_i y hy
  have:y=x:=by injection h
  rw [← this]
  exact fst_ne hy
 ·split at h
  ·cases h
  ·injection h with h
   rw [← h]
   exact (by decide:(41:Int)≠0)
theorem sides_ne {ts:List Tn} (hE:Sq.Ends ts) (h0:0<ts.length) {x:Int × Tn} (h:Sq.sidesR ts=.inl x):x.1≠0:=by
 unfold Sq.sidesR at h
 split at h
 ·exact goal_ne h
 ·split at h
  ·rename_i y hy
   have:y=x:=by injection h
   rw [← this]
   exact leftsR_ne hE h0 hy
  ·split at h
   ·cases h
   ·split at h
    ·exact goal_ne h
    ·injection h with h
     rw [← h]
     exact (by decide:(41:Int)≠0)
theorem own_cells {w:World} {B:Nat} {v:Value} {g:Nat} {qs:List (Cp × List Tn)} (h:w.ownsRow B 97 1 v qs.length (qs.map (partV g))):∃ p c,v=.slice p qs.length c∧(qs.length≤c∧c≤maxLen)∧∀ k (hk:k<qs.length),∃ gq cur,p=some ⟨gq,0,none⟩∧w.heap[gq]?=some (.cells cur 97 (0,0))∧cur[k]?=some (partV g qs[k]):=by
 rcases h.2 with ⟨h0,h1⟩ | ⟨gq,cap,cur,h1,hg,hh,h2,h3,h4,h5⟩
 ·exact ⟨none,0,by rw [h0,h1],⟨by omega,by unfold maxLen;omega⟩,fun k hk=>absurd hk (by omega)⟩
 ·refine ⟨_,cap,h1,⟨h2,h3⟩,fun k hk=>⟨gq,cur,rfl,hh,?_⟩⟩
  have e1:cur.toList[k]?=(cur.toList.take (qs.length * 1))[k]?:=by rw [List.getElem?_take,if_pos (by omega)]
  rw [← Array.getElem?_toList,e1,h5,List.getElem?_map,List.getElem?_eq_getElem hk]
  rfl
structure PsW (w wx:World) (b m:Nat) (v:Value) (t':List Nd):Prop where
 aft:After w b m v t' wx
 res:SeqAt wx w.heap.size Bt.Bs.zero 0
 flt:Fl wx (w.heap.size+1) 0 0 0 0
theorem PsW.later {w wx w2:World} {b m:Nat} {v:Value} {t':List Nd} (h:PsW w wx b m v t') (hb:Below wx.heap.size wx w2):PsW w w2 b m v t' :=
 ⟨h.aft.later hb,h.res.later hb h.res.lt,(hb.block _ h.flt.lt).trans h.flt⟩
theorem PsW.call {w wx w2:World} {b m:Nat} {v v1:Value} {t1 t2:List Nd} (h:PsW w wx b m v t1) (hT:Tb wx b m v1 t1) (hl:Lies w.heap.size v v1) (hk:Kp (Ft b m v) w wx) (ha:After wx b m v1 t2 w2):PsW w w2 b m v t2 :=
 ⟨After.trans hl hk ha,h.res.kp ha.kp (h.res.nft hT),h.flt.kp ha.kp (h.flt.nft hT)⟩
theorem PsW.fin {w wx:World} {b m:Nat} {v:Value} {t':List Nd} (h:PsW w wx b m v t') (r':List Nat) (g':Int) (e l c o:Int) :
 SeqAt (((((wx.setRow w.heap.size (cellsQ r' g')).setCell ⟨w.heap.size+1,0,none⟩ (.int .i64 e)).setCell ⟨w.heap.size+1,1,none⟩ (.int .i64 l)).setCell ⟨w.heap.size+1,2,none⟩ (.int .i64 c)).setCell ⟨w.heap.size+1,3,none⟩ (.int .i64 o)) w.heap.size r' g' ∧
 Fl (((((wx.setRow w.heap.size (cellsQ r' g')).setCell ⟨w.heap.size+1,0,none⟩ (.int .i64 e)).setCell ⟨w.heap.size+1,1,none⟩ (.int .i64 l)).setCell ⟨w.heap.size+1,2,none⟩ (.int .i64 c)).setCell ⟨w.heap.size+1,3,none⟩ (.int .i64 o)) (w.heap.size+1) e l c o ∧
 After w b m v t' (((((wx.setRow w.heap.size (cellsQ r' g')).setCell ⟨w.heap.size+1,0,none⟩ (.int .i64 e)).setCell ⟨w.heap.size+1,1,none⟩ (.int .i64 l)).setCell ⟨w.heap.size+1,2,none⟩ (.int .i64 c)).setCell ⟨w.heap.size+1,3,none⟩ (.int .i64 o)):=fin3 h.aft h.res h.flt r' g' e l c o
theorem After.tb {w wx:World} {b m:Nat} {v:Value} {t':List Nd} (h:After w b m v t' wx):∃ v1,Tb wx b m v1 t'∧Lies w.heap.size v v1∧Kp (Ft b m v) w wx:=h
theorem putL_ok:∀ (ps:List (List Tn)) (r:List Nat) (t:List Nd) (r':List Nat) (t':List Nd),Ok r→Sq.putL ps r t=.inr (r',t')→Ok r'
 | [],r,t,r',t',hr,h=>by
  injection h with h
  injection h with h1 h2
  exact h1 ▸ hr
 | p :: ps,r,t,r',t',hr,h=>by
  unfold Sq.putL at h
  split at h
  ·exact putL_ok ps _ _ r' t' (putI_ok hr _) h
  ·cases h
theorem putQ_ok (t:List Nd) (ps:List (List Tn)) (l:List Tn):Ok (Sq.putQ t ps l).1.1.1:=by
 rw [putQ_end]
 cases h:Sq.putL ps Bt.Bs.zero t with
 | inl x=>exact Bt.Bs.zero_ok
 | inr x =>
  obtain ⟨r,t1⟩:=x
  have:=putL_ok ps _ t r t1 Bt.Bs.zero_ok h
  simp only [putEnd]
  split
  ·exact this
  ·exact Bt.Bs.zero_ok
section
variable (w:World) {b m:Nat} {v:Value} {t:List Nd}
set_option maxRecDepth 100000 in
set_option maxHeartbeats 1000000 in
theorem qparse_any (hT:Tb w b m v t) (s:ByteArray) (hs:s.size≤1099511627776) (hL:Tw.Laid w) :
 Calls Tryz.prog 20 #[.pointer (some ⟨b,0,none⟩),.string s] w fun e w'=>e=.returned (putV (parseQ s.data.toList t).1)∧After w b m v (parseQ s.data.toList t).2 w':=by
 have KM:=show Hid (∀ w1,Below w.heap.size w w1→Calls Tryz.prog 47 #[.pointer (some ⟨b,0,none⟩)] w1 fun e w'=>e=.returned (.bool true)∧Below w1.heap.size w1 w') from fun w1 hb=>qmade_any w1 (hT.later hb)
 have KC:=show Hid (∀ w1,Below w.heap.size w w1→Calls Tryz.prog 48 #[.string s] w1 fun e w'=>e=.returned (.int .i64 (cnt (toks s.data.toList):Int))∧Below w1.heap.size w1 w') from fun w1 hb=>count_any w1 s hs (hL.later hb)
 have KP:=show Hid (∀ w1,Below w.heap.size w w1→Calls Tryz.prog 49 #[.pointer (some ⟨b,0,none⟩),.string s] w1 fun e w'=>e=.returned (.tuple #[.int .i64 (parseR s.data.toList t).1.1,.agg #[.int .i64 (parseR s.data.toList t).1.2.1,.int .i64 (parseR s.data.toList t).1.2.2.l,.int .i64 (parseR s.data.toList t).1.2.2.c,.int .i64 (parseR s.data.toList t).1.2.2.o]])∧After w1 b m v (parseR s.data.toList t).2 w') from fun w1 hb=>parse_any w1 (hT.later hb) s hs (hL.later hb)
 have KK:=show Hid (∀ w1,Below w.heap.size w w1→Calls Tryz.prog 51 #[.string s] w1 fun e w'=>∃ g cap,e=.returned (.slice (some ⟨g,0,none⟩) (toks s.data.toList).length cap)∧w1.heap.size≤g∧TsAt w' g ⟨cap,0⟩ (toks s.data.toList)∧Below w1.heap.size w1 w') from fun w1 hb=>qtokens_any w1 s hs (hL.later hb)
 have hend:=toks_ends s.data.toList
 have htk:=toks_ok s.data.toList
 have hsz:s.data.toList.length=s.size:=rfl
 have KD:=show Hid (∀ w1 g cap,TsAt w1 g ⟨cap,0⟩ (toks s.data.toList)→Calls Tryz.prog 50 #[.slice (some ⟨g,0,none⟩) (toks s.data.toList).length cap] w1 fun e w'=>SidesA w1 g (Sq.sidesR (toks s.data.toList)) e w'∧Below w1.heap.size w1 w') from fun w1 g cap h=>sides_any (cap:=⟨cap,0⟩) w1 h (fun x hx=>by have:=htk.2.2 x hx;omega) hend.1 hend.2 (by omega)
 have KU:=show Hid (∀ (w1:World) (t1:List Nd) (v1:Value) (g:Nat) (p:Option Addr) (c:Nat) (qs:List (Cp × List Tn)) (cl:Cp) (l:List Tn),Tb w1 b m v1 t1→PtG w1 b m v1 g p c qs→TsAt w1 g cl l→(∀ t ∈ l,t.s.size≤140737488351232)→Calls Tryz.prog 52 #[.pointer (some ⟨b,0,none⟩),.slice p qs.length c,.slice (some ⟨g,cl.o,none⟩) l.length cl.c] w1 fun e w'=>e=.returned (putV (Sq.putQ t1 (qs.map (·.2)) l).1)∧After w1 b m v1 (Sq.putQ t1 (qs.map (·.2)) l).2 w') from fun w1 t1 v1 g p c qs cl l h1 h2 h3 h4=>qput_any w1 h1 h2 h3 h4
 have HT:=show Hid (Tb w b m v t) from hT
 have HQ:=show Hid (parseQ s.data.toList t=if 512<cnt (toks s.data.toList) then (((Bt.Bs.zero,0),((parseR s.data.toList t).1.2.1,(parseR s.data.toList t).1.2.2)),(parseR s.data.toList t).2) else (sdEnd t (Sq.sidesR (toks s.data.toList)))) from parseQ_end _ _
 have HNE:=show Hid (∀ x,Sq.sidesR (toks s.data.toList)=.inl x→x.1≠0) from fun x=>sides_ne hend.1 hend.2
 generalize parseQ s.data.toList t=ans at *
 generalize parseR s.data.toList t=pr at *
 have hcl:cnt (toks s.data.toList)≤1099511627777:=by have:cnt (toks s.data.toList)≤(toks s.data.toList).length:=List.length_filter_le _ _;omega
 generalize toks s.data.toList=ts at *
 clear hT hs hL hend htk hsz
 go_enter Tryz.func20,Tryz.ntmps20
 go_wp2_with fail
 have b0:=show Hid (Below w.heap.size w ((w.alloc (.cells (cellsQ Bt.Bs.zero 0) 27)).alloc (.cells #[.int .i64 0,.int .i64 0,.int .i64 0,.int .i64 0] 52))) from Bt.below_two w _ _
 have s0:=show Hid (PsW w ((w.alloc (.cells (cellsQ Bt.Bs.zero 0) 27)).alloc (.cells #[.int .i64 0,.int .i64 0,.int .i64 0,.int .i64 0] 52)) b m v t) from ⟨After.of_below HT.out (Bt.below_two w _ _),(Bt.heap_two w _ _).1,(Bt.heap_two w _ _).2⟩
 change Calls _ _ _ ((w.alloc (.cells (cellsQ Bt.Bs.zero 0) 27)).alloc (.cells #[.int .i64 0,.int .i64 0,.int .i64 0,.int .i64 0] 52)) _
 generalize (w.alloc (.cells (cellsQ Bt.Bs.zero 0) 27)).alloc (.cells #[.int .i64 0,.int .i64 0,.int .i64 0,.int .i64 0] 52)=w0 at *
 refine (KM.out _ b0.out).mono ?_
 rintro e w1 ⟨rfl,hb1⟩
 have H1:=show Hid (PsW w w1 b m v t∧Below w.heap.size w w1) from ⟨s0.out.later hb1,b0.out.trans (hb1.mono b0.out.size)⟩
 clear hb1 b0 s0 KM
 go_wp2_with fail
 refine (KC.out _ H1.out.2).mono ?_
 rintro e w2 ⟨rfl,hb2⟩
 have H2:=show Hid (PsW w w2 b m v t∧Below w.heap.size w w2) from ⟨H1.out.1.later hb2,H1.out.2.trans (hb2.mono H1.out.2.size)⟩
 clear hb2 H1 KC
 by_cases hc:512<cnt ts
 ·have hci:(512:Int)<(cnt ts:Int):=by omega
  have hQ:=HQ.out
  rw [if_pos hc] at hQ
  obtain ⟨⟨h1,h3,h4⟩,h5⟩:=pr
  simp only at KP hQ
  clear HQ KK KD KU HNE
  go_wp2_with fail
  refine (KP.out _ H2.out.2).mono ?_
  rintro e w3 ⟨rfl,ha3⟩
  have H3:=show Hid (PsW w w3 b m v h5) from H2.out.1.call (HT.out.later H2.out.2) (Lies.refl _ _) (Kp.of_below H2.out.2) ha3
  clear ha3 KP H2
  have hb9:Below w3.heap.size w3 (w3.alloc (Obj.cells #[.int .i64 h3,.int .i64 h4.l,.int .i64 h4.c,.int .i64 h4.o] 52)):=below_alloc _ _
  obtain ⟨w9,hw9⟩:∃ w9,w9=w3.alloc (Obj.cells #[.int .i64 h3,.int .i64 h4.l,.int .i64 h4.c,.int .i64 h4.o] 52):=⟨_,rfl⟩
  have XR:=show Hid (PsW w w9 b m v h5∧Fl w9 w3.heap.size h3 h4.l h4.c h4.o) from by rw [hw9];exact ⟨H3.out.later hb9,heap_alloc_new _ _⟩
  have HANS:=show Hid (Ending.returned (.tuple #[.agg (cellsQ Bt.Bs.zero 0),.agg #[.int .i64 h3,.int .i64 h4.l,.int .i64 h4.c,.int .i64 h4.o]])=.returned (putV ans.1)∧h5=ans.2) from by rw [hQ];exact ⟨rfl,rfl⟩
  have hge:w.heap.size+1<w3.heap.size:=H3.out.flt.lt
  clear hQ hb9 H3
  go_wp2_with fail
  rw [← hw9]
  clear hw9
  go_wp2_with fail
  refine wp_region_held_drew (S:=fun wx=>Fl wx w3.heap.size h3 h4.l h4.c h4.o) (by kernel_rfl) XR.out.2.drew (fun hH => ?_)
  refine takeV 0 (some 25) (.agg (cellsQ Bt.Bs.zero 0)) rfl rfl (by kernel_rfl) (by kernel_rfl) (by kernel_rfl) (fun _ _ _ h=>h) rfl (fun wx hx=>by kernel_rfl) hH ?_
  simp only [Act.put,List.setIfInBounds_toArray,List.set_cons_zero,List.set_cons_succ]
  refine takeV 1 (some 26) (.agg #[.int .i64 h3,.int .i64 h4.l,.int .i64 h4.c,.int .i64 h4.o]) rfl rfl (by kernel_rfl) (by kernel_rfl) (by kernel_rfl) (fun _ _ _ h=>h) rfl (fun wx hx=>by have c0:=hx.c0;have c1:=hx.c1;have c2:=hx.c2;have c3:=hx.c3;go_simp) hH ?_
  simp only [Act.put,List.setIfInBounds_toArray,List.set_cons_zero,List.set_cons_succ]
  have hP1:=XR.out.1.later (Below.refl _ _).drew
  refine oneH 2 (by kernel_rfl) rfl (stepStoreQ 2 rfl rfl _ _ rfl w.heap.size rfl (r':=Bt.Bs.zero) (g':=0) rfl hP1.res zero_len zero_len ?_ (fun hH2 => ?_))
  ·exact hH.kp (setRow_kp _ _ _) (by omega)
  have hf2:Fl (w9.drew.setRow w.heap.size (cellsQ Bt.Bs.zero 0)) (w.heap.size+1) 0 0 0 0:=hP1.flt.kp (setRow_kp _ _ _) (by omega)
  have q0:=hf2.c0;have q1:=hf2.c1;have q2:=hf2.c2;have q3:=hf2.c3;have qf:=hf2.fr
  refine oneH 3 (by kernel_rfl) rfl (stepU 3 (((((w9.drew.setRow w.heap.size (cellsQ Bt.Bs.zero 0)).setCell ⟨w.heap.size+1,0,none⟩ (.int .i64 h3)).setCell ⟨w.heap.size+1,1,none⟩ (.int .i64 h4.l)).setCell ⟨w.heap.size+1,2,none⟩ (.int .i64 h4.c)).setCell ⟨w.heap.size+1,3,none⟩ (.int .i64 h4.o)) rfl rfl (by go_simp) ?_ (fun hH3 => ?_))
  ·exact hH2.kp (KpP.set (p:=w.heap.size+1) (KpP.set (KpP.set (KpP.set (Kp.refl _ _) 0 _) 1 _) 2 _) 3 _) (by omega)
  refine wpAnyH_done (by kernel_rfl) ?_ _
  obtain ⟨e1,e2,e3⟩:=hP1.fin Bt.Bs.zero 0 h3 h4.l h4.c h4.o
  go_wp2_with fail
  refine bodyPost_ret (results_seq_cell rfl _ _ w.heap.size (w.heap.size+1) _ _ _ _ _ _ _ _ rfl e1 rfl e2 Tryz.underlying27 rfl (by kernel_rfl) Tryz.underlying52 rfl (by kernel_rfl)) rfl ?_
  exact ⟨HANS.out.1,HANS.out.2 ▸ e3⟩
 ·have hci:¬ (512:Int)<(cnt ts:Int):=by omega
  have hQ:=HQ.out
  rw [if_neg hc] at hQ
  have HQ2:=show Hid (ans=sdEnd t (Sq.sidesR ts)) from hQ
  clear hQ HQ KP
  go_wp2_with fail
  refine (KK.out _ H2.out.2).mono ?_
  rintro e w3 ⟨g,cap,rfl,hg,hts,hb3⟩
  have H3:=show Hid (PsW w w3 b m v t∧Below w.heap.size w w3∧TsAt w3 g ⟨cap,0⟩ ts∧w.heap.size≤g) from ⟨H2.out.1.later hb3,H2.out.2.trans (hb3.mono H2.out.2.size),hts,by have:=H2.out.2.size;omega⟩
  clear hg hts hb3 H2 KK
  have KD1:=KD.out w3 g cap H3.out.2.2.1
  cases hS:Sq.sidesR ts with
  | inl x =>
   rw [hS] at KD1
   have hQ:=HQ2.out
   rw [hS] at hQ
   have hx3':(x.1 != 0)=true:=by simpa using HNE.out x hS
   have KD2:=show Hid (Calls Tryz.prog 50 #[.slice (some ⟨g,0,none⟩) ts.length cap] w3 fun e w'=>e=.returned (.tuple #[.slice none 0 0,.slice none 0 0,.agg #[.int .i64 x.1,.int .i64 x.2.l,.int .i64 x.2.c,.int .i64 x.2.o]])∧Below w3.heap.size w3 w') from KD1
   clear KD1 KD KU HQ2 HNE hS
   go_wp2_with fail
   refine KD2.out.mono ?_
   rintro e w4 ⟨rfl,hb4⟩
   have H4:=show Hid (PsW w w4 b m v t) from H3.out.1.later hb4
   clear hb4 H3 KD2
   have hb9:Below w4.heap.size w4 (w4.alloc (Obj.cells #[.int .i64 x.1,.int .i64 x.2.l,.int .i64 x.2.c,.int .i64 x.2.o] 52)):=below_alloc _ _
   obtain ⟨w9,hw9⟩:∃ w9,w9=w4.alloc (Obj.cells #[.int .i64 x.1,.int .i64 x.2.l,.int .i64 x.2.c,.int .i64 x.2.o] 52):=⟨_,rfl⟩
   have XR:=show Hid (PsW w w9 b m v t∧Fl w9 w4.heap.size x.1 x.2.l x.2.c x.2.o) from by rw [hw9];exact ⟨H4.out.later hb9,heap_alloc_new _ _⟩
   have HANS:=show Hid (Ending.returned (.tuple #[.agg (cellsQ Bt.Bs.zero 0),.agg #[.int .i64 x.1,.int .i64 x.2.l,.int .i64 x.2.c,.int .i64 x.2.o]])=.returned (putV ans.1)∧t=ans.2) from by rw [hQ];exact ⟨rfl,rfl⟩
   have hge:w.heap.size+1<w4.heap.size:=H4.out.flt.lt
   have sx0:=XR.out.2.c0
   clear hQ hb9 H4
   rw [hw9] at sx0
   go_wp2_with fail
   rw [← hw9]
   clear hw9 sx0
   go_wp2_with fail
   refine wp_region_held_drew (S:=fun wx=>Fl wx w4.heap.size x.1 x.2.l x.2.c x.2.o) (by kernel_rfl) XR.out.2.drew (fun hH => ?_)
   refine takeV 0 (some 37) (.agg (cellsQ Bt.Bs.zero 0)) rfl rfl (by kernel_rfl) (by kernel_rfl) (by kernel_rfl) (fun _ _ _ h=>h) rfl (fun wx hx=>by kernel_rfl) hH ?_
   simp only [Act.put,List.setIfInBounds_toArray,List.set_cons_zero,List.set_cons_succ]
   refine takeV 1 (some 38) (.agg #[.int .i64 x.1,.int .i64 x.2.l,.int .i64 x.2.c,.int .i64 x.2.o]) rfl rfl (by kernel_rfl) (by kernel_rfl) (by kernel_rfl) (fun _ _ _ h=>h) rfl (fun wx hx=>by have c0:=hx.c0;have c1:=hx.c1;have c2:=hx.c2;have c3:=hx.c3;go_simp) hH ?_
   simp only [Act.put,List.setIfInBounds_toArray,List.set_cons_zero,List.set_cons_succ]
   have hP1:=XR.out.1.later (Below.refl _ _).drew
   refine oneH 2 (by kernel_rfl) rfl (stepStoreQ 2 rfl rfl _ _ rfl w.heap.size rfl (r':=Bt.Bs.zero) (g':=0) rfl hP1.res zero_len zero_len ?_ (fun hH2 => ?_))
   ·exact hH.kp (setRow_kp _ _ _) (by omega)
   have hf2:Fl (w9.drew.setRow w.heap.size (cellsQ Bt.Bs.zero 0)) (w.heap.size+1) 0 0 0 0:=hP1.flt.kp (setRow_kp _ _ _) (by omega)
   have q0:=hf2.c0;have q1:=hf2.c1;have q2:=hf2.c2;have q3:=hf2.c3;have qf:=hf2.fr
   refine oneH 3 (by kernel_rfl) rfl (stepU 3 (((((w9.drew.setRow w.heap.size (cellsQ Bt.Bs.zero 0)).setCell ⟨w.heap.size+1,0,none⟩ (.int .i64 x.1)).setCell ⟨w.heap.size+1,1,none⟩ (.int .i64 x.2.l)).setCell ⟨w.heap.size+1,2,none⟩ (.int .i64 x.2.c)).setCell ⟨w.heap.size+1,3,none⟩ (.int .i64 x.2.o)) rfl rfl (by go_simp) ?_ (fun hH3 => ?_))
   ·exact hH2.kp (KpP.set (p:=w.heap.size+1) (KpP.set (KpP.set (KpP.set (Kp.refl _ _) 0 _) 1 _) 2 _) 3 _) (by omega)
   refine wpAnyH_done (by kernel_rfl) ?_ _
   obtain ⟨e1,e2,e3⟩:=hP1.fin Bt.Bs.zero 0 x.1 x.2.l x.2.c x.2.o
   go_wp2_with fail
   refine bodyPost_ret (results_seq_cell rfl _ _ w.heap.size (w.heap.size+1) _ _ _ _ _ _ _ _ rfl e1 rfl e2 Tryz.underlying27 rfl (by kernel_rfl) Tryz.underlying52 rfl (by kernel_rfl)) rfl ?_
   exact ⟨HANS.out.1,HANS.out.2 ▸ e3⟩
  | inr pl =>
   obtain ⟨ps,l⟩:=pl
   rw [hS] at KD1
   have hQ:=HQ2.out
   rw [hS] at hQ
   have HQ3:=show Hid (ans=Sq.putQ t ps l) from hQ
   have KD2:=show Hid (Calls Tryz.prog 50 #[.slice (some ⟨g,0,none⟩) ts.length cap] w3 fun e w'=>∃ (p:Option Addr) (c:Nat) (qs:List (Cp × List Tn)) (cl:Cp),e=.returned (.tuple #[.slice p qs.length c,.slice (some ⟨g,cl.o,none⟩) l.length cl.c,.agg #[.int .i64 0,.int .i64 0,.int .i64 0,.int .i64 0]])∧qs.map (·.2)=ps∧(∀ w9 v1,Below w'.heap.size w' w9→PtG w9 b m v1 g p c qs)∧TsAt w3 g cl l∧(∀ t ∈ l,t.s.size≤140737488351232)∧Below w3.heap.size w3 w') from KD1.mono fun e w' ⟨⟨lv,qs,cl,he,hm,ho,hp,ht,hz,hq⟩,hb⟩=>by
    obtain ⟨p,c,rfl,hc9⟩:=own_cells ho
    refine ⟨p,c,qs,cl,he,hm,fun w9 v1 h9=>⟨fun k hk => ?_,hc9.1,fun q hq'=>⟨?_,(hp q hq').2⟩⟩,ht,hz,hb⟩
    ·obtain ⟨gq,cur,h1,h2,h3⟩:=hc9.2 k hk
     exact ⟨gq,cur,h1,(h9.block _ (lt_of_block h2)).trans h2,h3⟩
    ·have h1:=(hp q hq').1
     exact (h1.laterO hb h1.glt).laterO h9 (by have:=(h1.laterO hb h1.glt).glt;exact this)
   clear KD1 KD HQ2 HNE hS hQ
   go_wp2_with fail
   refine KD2.out.mono ?_
   rintro e w4 ⟨p,c,qs,cl,rfl,hm,hG,htl,hzl,hb4⟩
   have H4:=show Hid (PsW w w4 b m v t∧Below w.heap.size w w4∧TsAt w4 g cl l∧∀ t ∈ l,t.s.size≤140737488351232) from ⟨H3.out.1.later hb4,H3.out.2.1.trans (hb4.mono H3.out.2.1.size),htl.laterO hb4 htl.glt,hzl⟩
   have HG:=show Hid (∀ w9 v1,Below w4.heap.size w4 w9→PtG w9 b m v1 g p c qs) from hG
   have HM:=show Hid (qs.map (·.2)=ps) from hm
   clear hm hG htl hzl hb4 H3 KD2
   have hb9:Below w4.heap.size w4 (w4.alloc (Obj.cells #[.int .i64 0,.int .i64 0,.int .i64 0,.int .i64 0] 52)):=below_alloc _ _
   obtain ⟨w9,hw9⟩:∃ w9,w9=w4.alloc (Obj.cells #[.int .i64 0,.int .i64 0,.int .i64 0,.int .i64 0] 52):=⟨_,rfl⟩
   have H9:=show Hid (PsW w w9 b m v t∧Below w.heap.size w w9∧TsAt w9 g cl l∧PtG w9 b m v g p c qs) from by rw [hw9];exact ⟨H4.out.1.later hb9,H4.out.2.1.trans (hb9.mono H4.out.2.1.size),H4.out.2.2.1.laterO hb9 H4.out.2.2.1.glt,HG.out _ v hb9⟩
   have HZ:=show Hid (∀ t ∈ l,t.s.size≤140737488351232) from H4.out.2.2.2
   go_wp2_with fail
   rw [← hw9]
   clear hw9 hb9 H4 HG
   refine (KU.out w9 t v g p c qs cl l (HT.out.later H9.out.2.1) H9.out.2.2.2 H9.out.2.2.1 HZ.out).mono ?_
   rintro e w5 ⟨rfl,ha5⟩
   rw [HM.out] at ha5 ⊢
   rw [← HQ3.out] at ha5 ⊢
   have HOK:=show Hid (Ok ans.1.1.1) from by rw [HQ3.out];exact putQ_ok _ _ _
   have H5:=show Hid (PsW w w5 b m v ans.2) from H9.out.1.call (HT.out.later H9.out.2.1) (Lies.refl _ _) (Kp.of_below H9.out.2.1) ha5
   clear ha5 H9 KU HM HQ3 HZ
   obtain ⟨⟨⟨ra,ga⟩,ea,na⟩,ta⟩:=ans
   have h16:ra.length=16:=HOK.out.1
   unfold putV fltA at *
   simp only at H5 HOK h16 ⊢
   obtain ⟨e1,e2,e3⟩:=H5.out.fin ra ga ea na.l na.c na.o
   have hf5:=H5.out.flt.kp (setRow_kp _ w.heap.size (cellsQ ra ga)) (by omega)
   have q0:=hf5.c0;have q1:=hf5.c1;have q2:=hf5.c2;have q3:=hf5.c3;have qf:=hf5.fr
   have HE:=show Hid _ from And.intro e1 (And.intro e2 e3)
   have HX2:=show Hid (SeqAt w5 w.heap.size Bt.Bs.zero 0) from H5.out.res
   clear e1 e2 e3 hf5 H5
   go_wp2_with (refine wpList_stQ _ rfl rfl _ _ rfl _ rfl (r':=ra) (g':=ga) rfl HX2.out zero_len h16 ?_)
   refine bodyPost_ret (results_seq_cell rfl _ _ w.heap.size (w.heap.size+1) _ _ _ _ _ _ _ _ rfl HE.out.1 rfl HE.out.2.1 Tryz.underlying27 rfl (by rw [cellsQ_size h16];exact sizeQ) Tryz.underlying52 rfl (by kernel_rfl)) rfl ?_
   exact ⟨rfl,HE.out.2.2⟩
end
structure PeW (w wx:World):Prop where
 res:SeqAt wx w.heap.size Bt.Bs.zero 0
 flt:Fl wx (w.heap.size+1) 0 0 0 0
 bel:Below w.heap.size w wx
theorem PeW.later {w wx w2:World} (h:PeW w wx) (hb:Below wx.heap.size wx w2):PeW w w2 :=
 ⟨h.res.later hb h.res.lt,(hb.block _ h.flt.lt).trans h.flt,h.bel.trans (hb.mono h.bel.size)⟩
theorem PeW.fin {w wx:World} (h:PeW w wx) (r':List Nat) (g':Int) (e l c o:Int) :
 SeqAt (((((wx.setRow w.heap.size (cellsQ r' g')).setCell ⟨w.heap.size+1,0,none⟩ (.int .i64 e)).setCell ⟨w.heap.size+1,1,none⟩ (.int .i64 l)).setCell ⟨w.heap.size+1,2,none⟩ (.int .i64 c)).setCell ⟨w.heap.size+1,3,none⟩ (.int .i64 o)) w.heap.size r' g' ∧
 Fl (((((wx.setRow w.heap.size (cellsQ r' g')).setCell ⟨w.heap.size+1,0,none⟩ (.int .i64 e)).setCell ⟨w.heap.size+1,1,none⟩ (.int .i64 l)).setCell ⟨w.heap.size+1,2,none⟩ (.int .i64 c)).setCell ⟨w.heap.size+1,3,none⟩ (.int .i64 o)) (w.heap.size+1) e l c o ∧
 Below w.heap.size w (((((wx.setRow w.heap.size (cellsQ r' g')).setCell ⟨w.heap.size+1,0,none⟩ (.int .i64 e)).setCell ⟨w.heap.size+1,1,none⟩ (.int .i64 l)).setCell ⟨w.heap.size+1,2,none⟩ (.int .i64 c)).setCell ⟨w.heap.size+1,3,none⟩ (.int .i64 o)):=by
 have k1:=setRow_kp wx w.heap.size (cellsQ r' g')
 have s1:SeqAt (wx.setRow w.heap.size (cellsQ r' g')) w.heap.size r' g':=h.res.setRow r' g'
 have f1:Fl (wx.setRow w.heap.size (cellsQ r' g')) (w.heap.size+1) 0 0 0 0:=h.flt.kp k1 (by omega)
 have k2:KpP (w.heap.size+1) (wx.setRow w.heap.size (cellsQ r' g')) (((((wx.setRow w.heap.size (cellsQ r' g')).setCell ⟨w.heap.size+1,0,none⟩ (.int .i64 e)).setCell ⟨w.heap.size+1,1,none⟩ (.int .i64 l)).setCell ⟨w.heap.size+1,2,none⟩ (.int .i64 c)).setCell ⟨w.heap.size+1,3,none⟩ (.int .i64 o)):=KpP.set (KpP.set (KpP.set (KpP.set (Kp.refl _ _) 0 _) 1 _) 2 _) 3 _
 have b1:Below w.heap.size w (wx.setRow w.heap.size (cellsQ r' g')):=below_setRow h.bel (Nat.le_refl _)
 refine ⟨s1.kp k2 (by omega),f1.s4 e l c o,(((b1.setCell ?_ _).setCell ?_ _).setCell ?_ _).setCell ?_ _⟩ <;> exact Nat.le_succ _
section
variable (w:World) {b m:Nat} {v:Value} {t:List Nd}
set_option maxRecDepth 100000 in
set_option maxHeartbeats 1000000 in
theorem qparse_err (hT:Tb w b m v t) (s:ByteArray) (hs:s.size≤1099511627776) (hL:Tw.Laid w) (hc:¬ 512<cnt (toks s.data.toList)) (x:Int × Tn) (hS:Sq.sidesR (toks s.data.toList)=.inl x) :
 Calls Tryz.prog 20 #[.pointer (some ⟨b,0,none⟩),.string s] w fun e w'=>e=.returned (putV ((Bt.Bs.zero,0),x))∧Below w.heap.size w w':=by
 have KM:=show Hid (∀ w1,Below w.heap.size w w1→Calls Tryz.prog 47 #[.pointer (some ⟨b,0,none⟩)] w1 fun e w'=>e=.returned (.bool true)∧Below w1.heap.size w1 w') from fun w1 hb=>qmade_any w1 (hT.later hb)
 have KC:=show Hid (∀ w1,Below w.heap.size w w1→Calls Tryz.prog 48 #[.string s] w1 fun e w'=>e=.returned (.int .i64 (cnt (toks s.data.toList):Int))∧Below w1.heap.size w1 w') from fun w1 hb=>count_any w1 s hs (hL.later hb)
 have KK:=show Hid (∀ w1,Below w.heap.size w w1→Calls Tryz.prog 51 #[.string s] w1 fun e w'=>∃ g cap,e=.returned (.slice (some ⟨g,0,none⟩) (toks s.data.toList).length cap)∧w1.heap.size≤g∧TsAt w' g ⟨cap,0⟩ (toks s.data.toList)∧Below w1.heap.size w1 w') from fun w1 hb=>qtokens_any w1 s hs (hL.later hb)
 have hend:=toks_ends s.data.toList
 have htk:=toks_ok s.data.toList
 have hsz:s.data.toList.length=s.size:=rfl
 have KD:=show Hid (∀ w1 g cap,TsAt w1 g ⟨cap,0⟩ (toks s.data.toList)→Calls Tryz.prog 50 #[.slice (some ⟨g,0,none⟩) (toks s.data.toList).length cap] w1 fun e w'=>SidesA w1 g (Sq.sidesR (toks s.data.toList)) e w'∧Below w1.heap.size w1 w') from fun w1 g cap h=>sides_any (cap:=⟨cap,0⟩) w1 h (fun x hx=>by have:=htk.2.2 x hx;omega) hend.1 hend.2 (by omega)
 have hne:=sides_ne hend.1 hend.2 hS
 have hcl:cnt (toks s.data.toList)≤1099511627777:=by have:cnt (toks s.data.toList)≤(toks s.data.toList).length:=List.length_filter_le _ _;omega
 generalize toks s.data.toList=ts at *
 clear hT hs hL hend htk hsz
 go_enter Tryz.func20,Tryz.ntmps20
 go_wp2_with fail
 have b0:=show Hid (Below w.heap.size w ((w.alloc (.cells (cellsQ Bt.Bs.zero 0) 27)).alloc (.cells #[.int .i64 0,.int .i64 0,.int .i64 0,.int .i64 0] 52))) from Bt.below_two w _ _
 have s0:=show Hid (PeW w ((w.alloc (.cells (cellsQ Bt.Bs.zero 0) 27)).alloc (.cells #[.int .i64 0,.int .i64 0,.int .i64 0,.int .i64 0] 52))) from ⟨(Bt.heap_two w _ _).1,(Bt.heap_two w _ _).2,Bt.below_two w _ _⟩
 change Calls _ _ _ ((w.alloc (.cells (cellsQ Bt.Bs.zero 0) 27)).alloc (.cells #[.int .i64 0,.int .i64 0,.int .i64 0,.int .i64 0] 52)) _
 generalize (w.alloc (.cells (cellsQ Bt.Bs.zero 0) 27)).alloc (.cells #[.int .i64 0,.int .i64 0,.int .i64 0,.int .i64 0] 52)=w0 at *
 refine (KM.out _ b0.out).mono ?_
 rintro e w1 ⟨rfl,hb1⟩
 have H1:=show Hid (PeW w w1∧Below w.heap.size w w1) from ⟨s0.out.later hb1,b0.out.trans (hb1.mono b0.out.size)⟩
 clear hb1 b0 s0 KM
 go_wp2_with fail
 refine (KC.out _ H1.out.2).mono ?_
 rintro e w2 ⟨rfl,hb2⟩
 have H2:=show Hid (PeW w w2∧Below w.heap.size w w2) from ⟨H1.out.1.later hb2,H1.out.2.trans (hb2.mono H1.out.2.size)⟩
 clear hb2 H1 KC
 have hci:¬ (512:Int)<(cnt ts:Int):=by omega
 go_wp2_with fail
 refine (KK.out _ H2.out.2).mono ?_
 rintro e w3 ⟨g,cap,rfl,hg,hts,hb3⟩
 have H3:=show Hid (PeW w w3∧Below w.heap.size w w3∧TsAt w3 g ⟨cap,0⟩ ts∧w.heap.size≤g) from ⟨H2.out.1.later hb3,H2.out.2.trans (hb3.mono H2.out.2.size),hts,by have:=H2.out.2.size;omega⟩
 clear hg hts hb3 H2 KK
 have KD1:=KD.out w3 g cap H3.out.2.2.1
 rw [hS] at KD1
 have hx3':(x.1 != 0)=true:=by simpa using hne
 have KD2:=show Hid (Calls Tryz.prog 50 #[.slice (some ⟨g,0,none⟩) ts.length cap] w3 fun e w'=>e=.returned (.tuple #[.slice none 0 0,.slice none 0 0,.agg #[.int .i64 x.1,.int .i64 x.2.l,.int .i64 x.2.c,.int .i64 x.2.o]])∧Below w3.heap.size w3 w') from KD1
 clear KD1 KD hS hne
 go_wp2_with fail
 refine KD2.out.mono ?_
 rintro e w4 ⟨rfl,hb4⟩
 have H4:=show Hid (PeW w w4) from H3.out.1.later hb4
 clear hb4 H3 KD2
 have hb9:Below w4.heap.size w4 (w4.alloc (Obj.cells #[.int .i64 x.1,.int .i64 x.2.l,.int .i64 x.2.c,.int .i64 x.2.o] 52)):=below_alloc _ _
 obtain ⟨w9,hw9⟩:∃ w9,w9=w4.alloc (Obj.cells #[.int .i64 x.1,.int .i64 x.2.l,.int .i64 x.2.c,.int .i64 x.2.o] 52):=⟨_,rfl⟩
 have XR:=show Hid (PeW w w9∧Fl w9 w4.heap.size x.1 x.2.l x.2.c x.2.o) from by rw [hw9];exact ⟨H4.out.later hb9,heap_alloc_new _ _⟩
 have hge:w.heap.size+1<w4.heap.size:=H4.out.flt.lt
 have sx0:=XR.out.2.c0
 clear hb9 H4
 rw [hw9] at sx0
 go_wp2_with fail
 rw [← hw9]
 clear hw9 sx0
 go_wp2_with fail
 refine wp_region_held_drew (S:=fun wx=>Fl wx w4.heap.size x.1 x.2.l x.2.c x.2.o) (by kernel_rfl) XR.out.2.drew (fun hH => ?_)
 refine takeV 0 (some 37) (.agg (cellsQ Bt.Bs.zero 0)) rfl rfl (by kernel_rfl) (by kernel_rfl) (by kernel_rfl) (fun _ _ _ h=>h) rfl (fun wx hx=>by kernel_rfl) hH ?_
 simp only [Act.put,List.setIfInBounds_toArray,List.set_cons_zero,List.set_cons_succ]
 refine takeV 1 (some 38) (.agg #[.int .i64 x.1,.int .i64 x.2.l,.int .i64 x.2.c,.int .i64 x.2.o]) rfl rfl (by kernel_rfl) (by kernel_rfl) (by kernel_rfl) (fun _ _ _ h=>h) rfl (fun wx hx=>by have c0:=hx.c0;have c1:=hx.c1;have c2:=hx.c2;have c3:=hx.c3;go_simp) hH ?_
 simp only [Act.put,List.setIfInBounds_toArray,List.set_cons_zero,List.set_cons_succ]
 have hP1:=XR.out.1.later (Below.refl _ _).drew
 refine oneH 2 (by kernel_rfl) rfl (stepStoreQ 2 rfl rfl _ _ rfl w.heap.size rfl (r':=Bt.Bs.zero) (g':=0) rfl hP1.res zero_len zero_len ?_ (fun hH2 => ?_))
 ·exact hH.kp (setRow_kp _ _ _) (by omega)
 have hf2:Fl (w9.drew.setRow w.heap.size (cellsQ Bt.Bs.zero 0)) (w.heap.size+1) 0 0 0 0:=hP1.flt.kp (setRow_kp _ _ _) (by omega)
 have q0:=hf2.c0;have q1:=hf2.c1;have q2:=hf2.c2;have q3:=hf2.c3;have qf:=hf2.fr
 refine oneH 3 (by kernel_rfl) rfl (stepU 3 (((((w9.drew.setRow w.heap.size (cellsQ Bt.Bs.zero 0)).setCell ⟨w.heap.size+1,0,none⟩ (.int .i64 x.1)).setCell ⟨w.heap.size+1,1,none⟩ (.int .i64 x.2.l)).setCell ⟨w.heap.size+1,2,none⟩ (.int .i64 x.2.c)).setCell ⟨w.heap.size+1,3,none⟩ (.int .i64 x.2.o)) rfl rfl (by go_simp) ?_ (fun hH3 => ?_))
 ·exact hH2.kp (KpP.set (p:=w.heap.size+1) (KpP.set (KpP.set (KpP.set (Kp.refl _ _) 0 _) 1 _) 2 _) 3 _) (by omega)
 refine wpAnyH_done (by kernel_rfl) ?_ _
 obtain ⟨e1,e2,e3⟩:=hP1.fin Bt.Bs.zero 0 x.1 x.2.l x.2.c x.2.o
 go_wp2_with fail
 refine bodyPost_ret (results_seq_cell rfl _ _ w.heap.size (w.heap.size+1) _ _ _ _ _ _ _ _ rfl e1 rfl e2 Tryz.underlying27 rfl (by kernel_rfl) Tryz.underlying52 rfl (by kernel_rfl)) rfl ?_
 exact ⟨rfl,e3⟩
end
end Go.Proofs.YtkmmlimekachbaaGreatDoor
