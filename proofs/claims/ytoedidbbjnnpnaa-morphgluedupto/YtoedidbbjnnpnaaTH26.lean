/-
  heads: what must come at any rate: the walk. No condition.
-/
import Derived.Test.YtoedidbbjnnpnaaTH25
import Derived.Test.YtoedidbbjnnpnaaQWBf
namespace Go.Proofs.Ytoedidbbjnnpnaa.Wm
open Go.RowKit Go.Maps
open Wd (Md Rc Ed upd vl allW inW)
set_option linter.unusedSimpArgs false
set_option linter.unusedVariables false
def Lat (w:World) (P:World→Prop):Prop:=∀ W,Below w.heap.size w W→P W
section
variable {w w':World} {P Q:World→Prop}
theorem hidL (h:Lat w P):Hid (Lat w P):=h
theorem Lat.now (h:Lat w P):P w:=h w (Below.refl _ _)
theorem Lat.next (h:Lat w P) (hb:Below w.heap.size w w'):Lat w' P:=fun W hW=>h W (hb.trans (hW.mono hb.size))
theorem Lat.and (h:Lat w P) (k:Lat w Q):Lat w fun W=>P W∧Q W:=fun W hW=>⟨h W hW,k W hW⟩
theorem lat_bel {B:Nat} {w0:World} (h:Below B w0 w) (hB:B≤w.heap.size):Lat w fun W=>Below B w0 W:=fun W hW=>h.trans (hW.mono hB)
theorem lat_box {b:Nat} {cs:Array Value} {T:TypeId} (h:Cl w b cs T):Lat w fun W=>Cl W b cs T:=fun W hW=>h.later hW
theorem lat_own {B:Nat} {v:Value} {l:List Nat} (h:OwnI B w v l):Lat w fun W=>OwnI B W v l:=fun W hW=>h.later hW
theorem isM_wide {L L':Nat} {u v:Value} {m:Md} (h:IsM w L u v m) (hL:L≤L'):IsM w L' u v m :=
 ⟨show IsS w L' (fun r x=>IsI w L' x r) u m.up from IsS.wide (IsS.keep h.up (fun _ _=>rfl) fun _ _ hx=>IsS.wide hx hL) hL,
  show IsS w L' (fun r x=>IsN w L' x r) v m.val from IsS.wide (IsS.keep h.val (fun _ _=>rfl) fun _ _ hx=>IsS.wide hx hL) hL⟩
theorem lat_isM {L:Nat} {u v:Value} {m:Md} (h:IsM w L u v m) (hL:L≤w.heap.size):Lat w fun W=>IsM W W.heap.size u v m:=fun W hW =>
 isM_wide (h.below (hW.mono hL)) (Nat.le_trans hL hW.size)
theorem lat_isI {L:Nat} {u:Value} {l:List Int} (h:IsI w L u l) (hL:L≤w.heap.size):Lat w fun W=>IsI W W.heap.size u l:=fun W hW =>
 IsS.wide (IsI.keep h fun k hk=>hW.block k (Nat.lt_of_lt_of_le hk hL)) (Nat.le_trans hL hW.size)
theorem below_box {w'':World} {b:Nat} {cs:Array Value} {T:TypeId} (hn:New w w' b cs T) (hk:Kp (fun k=>k=b) w' w''):Below w.heap.size w w'' :=
 hn.bel.trans (hk.below hn.bel.size fun k e=>by have:=hn.ge;omega)
end
theorem mapOk_dmd {q:Md} (h:q.up.length=3):mapOk dmd q [0,1,1,2]=true:=by
 unfold mapOk
 rw [h];decide
theorem bd_dmd {q:Md} {r:Bool} {er:Int} (hG:Wd.Good q) (h3:q.up.length=3) (hB:BndP dmd q [0,1,1,2]) (h:BdR dmd q [0,1,1,2] r er):r=true∧er=0:=by
 rcases h with ⟨h,_⟩ | ⟨_,h,_⟩ | ⟨_,_,h,h0⟩
 ·exact absurd ⟨good_dmd,hG⟩ h
 ·rw [mapOk_dmd h3] at h;cases h
 ·exact ⟨h.2 hB,h0⟩
theorem fit_P:Fit mdP:=⟨by decide,by decide,by simp [mdP],fun r hr=>by
 have e:r=[bp]:=by simpa [mdP] using hr
 subst e
 exact ⟨by decide,fun s hs=>by rw [List.mem_singleton.1 hs];decide⟩⟩
theorem fit_O:Fit mdO:=⟨by decide,by decide,by simp [mdO],by simp [mdO]⟩
theorem po_rows:(∀ m ∈ [mdP,mdO],Fit m)∧(∀ m ∈ [mdP,mdO],∀ r ∈ m.val,r.length * 16≤140737488355328)∧∀ m ∈ [mdP,mdO],∀ r ∈ m.up,r.length * 8≤140737488355328:=by
 refine ⟨fun m hm => ?_,fun m hm r hr => ?_,fun m hm r hr => ?_⟩
 ·rcases List.mem_cons.1 hm with rfl | hm
  ·exact fit_P
  ·rw [List.mem_singleton.1 hm];exact fit_O
 ·rcases List.mem_cons.1 hm with rfl | hm
  ·have e:r=[bp]:=by simpa [mdP] using hr
   rw [e];decide
  ·rw [List.mem_singleton.1 hm] at hr
   have e:r=[]:=by simpa [mdO] using hr
   rw [e];decide
 ·rcases List.mem_cons.1 hm with rfl | hm
  ·have e:r=[]:=by simpa [mdP] using hr
   rw [e];decide
  ·rw [List.mem_singleton.1 hm] at hr
   have e:r=[]:=by simpa [mdO] using hr
   rw [e];decide
theorem isL_two {w:World} {b:Nat} {u1 v1 u2 v2:Value} {T:TypeId} (h:Cl w b #[u1,v1,u2,v2] T) (h1:IsM w w.heap.size u1 v1 mdP) (h2:IsM w w.heap.size u2 v2 mdO):IsL w w.heap.size (.slice (some ⟨b,0,none⟩) 2 2) [mdP,mdO] :=
 ⟨_,_,rfl,fun _=>⟨b,0,h.lt,rfl,fun k hk=>by
  match k,hk with
  | 0,_=>exact ⟨u1,v1,(h.cell 0).trans rfl,(h.cell 1).trans rfl,h1⟩
  | 1,_=>exact ⟨u2,v2,(h.cell 2).trans rfl,(h.cell 3).trans rfl,h2⟩⟩⟩
set_option maxRecDepth 100000 in
set_option maxHeartbeats 8000000 in
theorem heads19_any (w:World):Calls Try.prog 21 #[] w fun e w'=>e=.returned (.bool true)∧Below w.heap.size w w':=by
 have KD:=show Hid _ from diamond_any w
 go_enter Try.func21,Try.ntmps21
 go_wp2_with fail
 refine Calls.mono KD.out ?_
 rintro e w1 ⟨uv,vv,rfl,hm1,hb1⟩
 obtain ⟨pu,cu,rfl⟩:=IsS.form hm1.up
 obtain ⟨pv,cv,rfl⟩:=IsS.form hm1.val
 have H1:=hidL ((lat_bel hb1 hb1.size).and (lat_isM hm1 (Nat.le_refl _)))
 clear hm1 hb1 KD
 go_wp2_with (refine wpList_alloc 25 rfl _ zero_md rfl ?_)
 intro w2a bD hn
 go_wp2_with (refine wpList_st 25 rfl rfl _ _ rfl bD rfl _ rfl _ _ hn.blk sizeM rfl (by simp [Value.oneCell']) ?_)
 intro w2 hc hk
 have H2:=hidL ((H1.out.next (below_box hn hk)).and (lat_box hc))
 clear H1 hn hc hk
 have K:=show Hid (Calls Try.prog 10 #[.agg #[.slice pu dmd.up.length cu,.slice pv dmd.val.length cv],.int .i64 1] w2 fun e w'=>(∃ p c q n d p2 c2,e=.returned (.tuple #[.agg #[.slice p 2 c,.slice q n d],.slice p2 2 c2,.int .i64 0])∧OwnI w2.heap.size w' (.slice p2 2 c2) [1,3])∧Below w2.heap.size w2 w') from
  (topAbove_any w2 isO_dmd (H2.out.now.1.2) fit_dmd (Nat.le_refl _) dmd_rows.1 dmd_rows.2 1 (by omega)).mono fun e w' ⟨u',v',l0,er,h1,h2,h3⟩=>by
   obtain ⟨rfl,ho,⟨p,c,rfl⟩,q,n,d,rfl⟩:=abm_dmd h2
   obtain ⟨p2,c2,rfl⟩:=ho.slice
   exact ⟨⟨p,c,q,n,d,p2,c2,h1,ho⟩,h3⟩
 have hx:=show Hid _ from H2.out.now.2
 go_wp2_with (refine wpList_ldw 25 _ rfl bD rfl _ _ hx.out rfl Try.underlying25 sizeM rfl ?_)
 clear hx
 refine Calls.mono K.out ?_
 rintro e w3 ⟨⟨pA,cA,qA,nA,dA,pl,cl,rfl,ho⟩,hb⟩
 have H3:=hidL ((H2.out.next (hb)).and (lat_own ho))
 clear H2 hb ho K
 go_wp2_with (refine wpList_alloc 25 rfl _ zero_md rfl ?_)
 intro w4a bA hn
 go_wp2_with (refine wpList_st 25 rfl rfl _ _ rfl bA rfl _ rfl _ _ hn.blk sizeM rfl (by simp [Value.oneCell']) ?_)
 intro w4 hc hk
 have H4:=hidL ((H3.out.next (below_box hn hk)).and (lat_box hc))
 clear H3 hn hc hk
 have K:=show Hid (Calls Try.prog 15 #[.agg #[.slice pu dmd.up.length cu,.slice pv dmd.val.length cv]] w4 fun e w'=>(∃ p2 c2,e=.returned (.tuple #[.slice p2 4 c2,.int .i64 0])∧OwnI w4.heap.size w' (.slice p2 4 c2) [0,1,1,2])∧Below w4.heap.size w4 w') from
  (topClasses_any w4 isO_dmd (H4.out.now.1.1.1.2) fit_dmd (Nat.le_refl _) dmd_rows.1).mono fun e w' ⟨l0,er,h1,h2,h3⟩=>by
   obtain ⟨rfl,ho⟩:=cls_dmd h2
   obtain ⟨p2,c2,rfl⟩:=ho.slice
   exact ⟨⟨p2,c2,h1,ho⟩,h3⟩
 have hx:=show Hid _ from H4.out.now.1.1.2
 go_wp2_with (refine wpList_ldw 25 _ rfl bD rfl _ _ hx.out rfl Try.underlying25 sizeM rfl ?_)
 clear hx
 refine Calls.mono K.out ?_
 rintro e w5 ⟨⟨pc,cc,rfl,ho⟩,hb⟩
 have H5:=hidL ((H4.out.next (hb)).and (lat_own ho))
 clear H4 hb ho K
 have K:=show Hid (Calls Try.prog 13 #[.agg #[.slice pu dmd.up.length cu,.slice pv dmd.val.length cv]] w5 fun e w'=>(∃ p c r n d l0,e=.returned (.tuple #[.agg #[.slice p 3 c,.slice r n d],l0,.int .i64 0])∧∃ q,IsM w' w'.heap.size (.slice p 3 c) (.slice r n d) q∧Fit q∧Wd.Good q∧q.up.length=3∧BndP dmd q [0,1,1,2])∧Below w5.heap.size w5 w') from
  (topQuotient_any w5 isO_dmd (H5.out.now.1.1.1.1.2) fit_dmd (Nat.le_refl _) dmd_rows.1).mono fun e w' ⟨u',v',l0,er,h1,h2,h3⟩=>by
   obtain ⟨rfl,q,hz,hv,hf,hG,h4,hB⟩:=quo_dmd h2
   obtain ⟨p,c,rfl⟩:=rowsZ_form hz h4
   obtain ⟨r,n,d,rfl⟩:=rowsN_form hv
   exact ⟨⟨p,c,r,n,d,l0,h1,q,⟨hz.isU,hv.isV⟩,hf,hG,h4,hB _ rfl⟩,h3⟩
 have hx:=show Hid _ from H5.out.now.1.1.1.2
 go_wp2_with (refine wpList_ldw 25 _ rfl bD rfl _ _ hx.out rfl Try.underlying25 sizeM rfl ?_)
 clear hx
 refine Calls.mono K.out ?_
 rintro e w6 ⟨⟨pQ,cQ,qQ,nQ,dQ,l0,rfl,q,hq,hqf⟩,hb⟩
 have HQ:=show Hid (Fit q∧Wd.Good q∧q.up.length=3∧BndP dmd q [0,1,1,2]) from hqf
 have H6:=hidL ((H5.out.next (hb)).and (lat_isM hq (Nat.le_refl _)))
 clear H5 hb hq hqf K
 go_wp2_with (refine wpList_alloc 25 rfl _ zero_md rfl ?_)
 intro w7a bQ hn
 go_wp2_with (refine wpList_st 25 rfl rfl _ _ rfl bQ rfl _ rfl _ _ hn.blk sizeM rfl (by simp [Value.oneCell']) ?_)
 intro w7 hc hk
 have H7:=hidL ((H6.out.next (below_box hn hk)).and (lat_box hc))
 clear H6 hn hc hk
 have K:=show Hid (Calls Try.prog 18 #[.agg #[.slice pu dmd.up.length cu,.slice pv dmd.val.length cv],.int .i64 0] w7 fun e w'=>(∃ p c q n d p2 c2,e=.returned (.tuple #[.agg #[.slice p 5 c,.slice q n d],.slice p2 5 c2,.int .i64 0])∧OwnI w7.heap.size w' (.slice p2 5 c2) [0,1,2,3,3])∧Below w7.heap.size w7 w') from
  (topUnravel_any w7 isO_dmd (H7.out.now.1.1.1.1.1.1.2) fit_dmd (Nat.le_refl _) dmd_rows.1 0 (by omega)).mono fun e w' ⟨u',v',l0,er,h1,h2,h3⟩=>by
   obtain ⟨rfl,ho,⟨p,c,rfl⟩,q,n,d,rfl⟩:=unr_dmd h2
   obtain ⟨p2,c2,rfl⟩:=ho.slice
   exact ⟨⟨p,c,q,n,d,p2,c2,h1,ho⟩,h3⟩
 have hx:=show Hid _ from H7.out.now.1.1.1.1.1.2
 go_wp2_with (refine wpList_ldw 25 _ rfl bD rfl _ _ hx.out rfl Try.underlying25 sizeM rfl ?_)
 clear hx
 refine Calls.mono K.out ?_
 rintro e w8 ⟨⟨pU,cU,qU,nU,dU,pe,ce,rfl,ho⟩,hb⟩
 have H8:=hidL ((H7.out.next (hb)).and (lat_own ho))
 clear H7 hb ho K
 go_wp2_with (refine wpList_alloc 25 rfl _ zero_md rfl ?_)
 intro w9a bU hn
 go_wp2_with (refine wpList_st 25 rfl rfl _ _ rfl bU rfl _ rfl _ _ hn.blk sizeM rfl (by simp [Value.oneCell']) ?_)
 intro w9 hc hk
 have H9:=hidL ((H8.out.next (below_box hn hk)).and (lat_box hc))
 clear H8 hn hc hk
 go_wp2_with (refine wpList_mk rfl rfl 1 #[.slice none 0 0] 27 (fun w=>by kernel_rfl) ?_)
 intro w10 b1 hn
 have H10:=hidL ((H9.out.next (hn.bel)).and (lat_box (show Cl w10 b1 #[.slice none 0 0] 27 from hn.blk)))
 clear H9 hn
 go_wp2_with (refine wpList_mk rfl rfl 1 #[.string bp] 9 (fun w=>by kernel_rfl) ?_)
 intro w11 b2 hn
 have H11:=hidL ((H10.out.next (hn.bel)).and (lat_box (show Cl w11 b2 #[.string bp] 9 from hn.blk)))
 clear H10 hn
 go_wp2_with (refine wpList_mk rfl rfl 1 #[.slice (some ⟨b2,0,none⟩) 1 1] 34 (fun w=>by kernel_rfl) ?_)
 intro w12 b3 hn
 have H12:=hidL ((H11.out.next (hn.bel)).and (lat_box (show Cl w12 b3 #[.slice (some ⟨b2,0,none⟩) 1 1] 34 from hn.blk)))
 clear H11 hn
 go_wp2_with (refine wpList_alloc 25 rfl _ zero_md rfl ?_)
 intro w13a bP hn
 go_wp2_with (refine wpList_st 25 rfl rfl _ _ rfl bP rfl _ rfl _ _ hn.blk sizeM rfl (by simp [Value.oneCell']) ?_)
 intro w13 hc hk
 have H13:=hidL ((H12.out.next (below_box hn hk)).and (lat_box hc))
 clear H12 hn hc hk
 go_wp2_with (refine wpList_mk rfl rfl 1 #[.slice none 0 0] 27 (fun w=>by kernel_rfl) ?_)
 intro w14 b4 hn
 have H14:=hidL ((H13.out.next (hn.bel)).and (lat_box (show Cl w14 b4 #[.slice none 0 0] 27 from hn.blk)))
 clear H13 hn
 go_wp2_with (refine wpList_mk rfl rfl 1 #[.slice none 0 0] 34 (fun w=>by kernel_rfl) ?_)
 intro w15 b5 hn
 have H15:=hidL ((H14.out.next (hn.bel)).and (lat_box (show Cl w15 b5 #[.slice none 0 0] 34 from hn.blk)))
 clear H14 hn
 go_wp2_with (refine wpList_alloc 25 rfl _ zero_md rfl ?_)
 intro w16a bO hn
 go_wp2_with (refine wpList_st 25 rfl rfl _ _ rfl bO rfl _ rfl _ _ hn.blk sizeM rfl (by simp [Value.oneCell']) ?_)
 intro w16 hc hk
 have H16:=hidL ((H15.out.next (below_box hn hk)).and (lat_box hc))
 clear H15 hn hc hk
 have mP:IsM w16 w16.heap.size (.slice (some ⟨b1,0,none⟩) 1 1) (.slice (some ⟨b3,0,none⟩) 1 1) mdP:=⟨isS_new (l:=mdP.up) H16.out.now.1.1.1.1.1.1.2 (H16.out.now.1.1.1.1.1.1.2).lt fun j hj=>by
  match j,hj with
  | 0,_=>exact ⟨_,rfl,isS_nil _ _ _⟩,isS_new (l:=mdP.val) H16.out.now.1.1.1.1.2 (H16.out.now.1.1.1.1.2).lt fun j hj=>by
  match j,hj with
  | 0,_=>exact ⟨_,rfl,isS_new (l:=[bp]) H16.out.now.1.1.1.1.1.2 (H16.out.now.1.1.1.1.1.2).lt fun j hj=>by
   match j,hj with
   | 0,_=>exact ⟨_,rfl,rfl⟩⟩⟩
 have mO:IsM w16 w16.heap.size (.slice (some ⟨b4,0,none⟩) 1 1) (.slice (some ⟨b5,0,none⟩) 1 1) mdO:=⟨isS_new (l:=mdO.up) H16.out.now.1.1.2 (H16.out.now.1.1.2).lt fun j hj=>by
  match j,hj with
  | 0,_=>exact ⟨_,rfl,isS_nil _ _ _⟩,isS_new (l:=mdO.val) H16.out.now.1.2 (H16.out.now.1.2).lt fun j hj=>by
  match j,hj with
  | 0,_=>exact ⟨_,rfl,isS_nil _ _ _⟩⟩
 have HPO:=show Hid (Lat w16 fun W=>IsM W W.heap.size (.slice (some ⟨b1,0,none⟩) 1 1) (.slice (some ⟨b3,0,none⟩) 1 1) mdP∧IsM W W.heap.size (.slice (some ⟨b4,0,none⟩) 1 1) (.slice (some ⟨b5,0,none⟩) 1 1) mdO) from (lat_isM mP (Nat.le_refl _)).and (lat_isM mO (Nat.le_refl _))
 have H17:=hidL (H16.out.and HPO.out)
 clear mP mO HPO H16
 have H16:=H17
 clear H17
 have hx:=show Hid _ from H16.out.now.1.1.1.1.2
 have hy:=show Hid _ from H16.out.now.1.2
 go_wp2_with (first | refine wpList_ldw 25 _ rfl bP rfl _ _ hx.out rfl Try.underlying25 sizeM rfl ?_ | refine wpList_ldw 25 _ rfl bO rfl _ _ hy.out rfl Try.underlying25 sizeM rfl ?_ | refine wpList_mk rfl rfl 2 #[.slice (some ⟨b1,0,none⟩) 1 1,.slice (some ⟨b3,0,none⟩) 1 1,.slice (some ⟨b4,0,none⟩) 1 1,.slice (some ⟨b5,0,none⟩) 1 1] 25 (fun w=>by kernel_rfl) ?_)
 clear hx hy
 intro w17 b6 hn
 have H17:=hidL ((H16.out.next (hn.bel)).and (lat_box (show Cl w17 b6 #[.slice (some ⟨b1,0,none⟩) 1 1,.slice (some ⟨b3,0,none⟩) 1 1,.slice (some ⟨b4,0,none⟩) 1 1,.slice (some ⟨b5,0,none⟩) 1 1] 25 from hn.blk)))
 clear H16 hn
 have K:=show Hid (Calls Try.prog 22 #[.slice (some ⟨b6,0,none⟩) 2 2,.slice none 0 0] w17 fun e w'=>(∃ p c q n d p2 c2,e=.returned (.tuple #[.agg #[.slice p 3 c,.slice q n d],.slice p2 2 c2,.int .i64 0])∧OwnI w17.heap.size w' (.slice p2 2 c2) [1,2])∧Below w17.heap.size w17 w') from
  (glue_any w17 (ml:=[mdP,mdO]) (atoms:=[]) (isL_two (H17.out.now.2) (H17.out.now.1.2).1 (H17.out.now.1.2).2) (isS_nil _ _ _) po_rows.1 (Nat.le_refl _) po_rows.2.1 po_rows.2.2 (by decide) (fun s hs=>absurd hs (List.not_mem_nil)) (by decide)).mono fun e w' ⟨u',v',l0,er,h1,h2,h3⟩=>by
   obtain ⟨rfl,ho,⟨p,c,rfl⟩,q,n,d,rfl⟩:=glu_two h2
   obtain ⟨p2,c2,rfl⟩:=ho.slice
   exact ⟨⟨p,c,q,n,d,p2,c2,h1,ho⟩,h3⟩
 go_wp2_with fail
 refine Calls.mono K.out ?_
 rintro e w18 ⟨⟨pX,cX,qX,nX,dX,pt,ct,rfl,ho⟩,hb⟩
 have H18:=hidL ((H17.out.next (hb)).and (lat_own ho))
 clear H17 hb ho K
 go_wp2_with (refine wpList_alloc 25 rfl _ zero_md rfl ?_)
 intro w19a bX hn
 go_wp2_with (refine wpList_st 25 rfl rfl _ _ rfl bX rfl _ rfl _ _ hn.blk sizeM rfl (by simp [Value.oneCell']) ?_)
 intro w19 hc hk
 have H19:=hidL ((H18.out.next (below_box hn hk)).and (lat_box hc))
 clear H18 hn hc hk
 have hx:=show Hid _ from H19.out.now.1.1.1.1.1.1.1.2
 have hy:=show Hid _ from H19.out.now.1.1.1.1.2
 go_wp2_with (first | refine wpList_ldw 25 _ rfl bP rfl _ _ hx.out rfl Try.underlying25 sizeM rfl ?_ | refine wpList_ldw 25 _ rfl bO rfl _ _ hy.out rfl Try.underlying25 sizeM rfl ?_ | refine wpList_mk rfl rfl 2 #[.slice (some ⟨b1,0,none⟩) 1 1,.slice (some ⟨b3,0,none⟩) 1 1,.slice (some ⟨b4,0,none⟩) 1 1,.slice (some ⟨b5,0,none⟩) 1 1] 25 (fun w=>by kernel_rfl) ?_)
 clear hx hy
 intro w20 b7 hn
 have H20:=hidL ((H19.out.next (hn.bel)).and (lat_box (show Cl w20 b7 #[.slice (some ⟨b1,0,none⟩) 1 1,.slice (some ⟨b3,0,none⟩) 1 1,.slice (some ⟨b4,0,none⟩) 1 1,.slice (some ⟨b5,0,none⟩) 1 1] 25 from hn.blk)))
 clear H19 hn
 go_wp2_with (refine wpList_mk rfl rfl 1 #[.string bp] 9 (fun w=>by kernel_rfl) ?_)
 intro w21 b8 hn
 have H21:=hidL ((H20.out.next (hn.bel)).and (lat_box (show Cl w21 b8 #[.string bp] 9 from hn.blk)))
 clear H20 hn
 have K:=show Hid (Calls Try.prog 22 #[.slice (some ⟨b7,0,none⟩) 2 2,.slice (some ⟨b8,0,none⟩) 1 1] w21 fun e w'=>e=.returned (.tuple #[.agg #[.slice none 0 0,.slice none 0 0],.slice none 0 0,.int .i64 190])∧Below w21.heap.size w21 w') from by
  have hat:IsN w21 w21.heap.size (.slice (some ⟨b8,0,none⟩) 1 1) [bp]:=isS_new (l:=[bp]) H21.out.now.2 (H21.out.now.2).lt fun j hj=>by
   match j,hj with
   | 0,_=>exact ⟨_,rfl,rfl⟩
  exact (glue_any w21 (ml:=[mdP,mdO]) (atoms:=[bp]) (isL_two (H21.out.now.1.2) (H21.out.now.1.1.1.1.1.2).1 (H21.out.now.1.1.1.1.1.2).2) hat po_rows.1 (Nat.le_refl _) po_rows.2.1 po_rows.2.2 (by decide) (fun s hs=>by rw [List.mem_singleton.1 hs];decide) (by decide)).mono fun e w' ⟨u',v',l0,er,h1,h2,h3⟩=>by
   obtain ⟨rfl,rfl,rfl,rfl⟩:=glu_bad h2
   exact ⟨h1,h3⟩
 go_wp2_with fail
 refine Calls.mono K.out ?_
 rintro e w22 ⟨rfl,hb⟩
 have H22:=hidL (H21.out.next hb)
 clear H21 hb K
 go_wp2_with (refine wpList_alloc 25 rfl _ zero_md rfl ?_)
 intro w23a bY hn
 go_wp2_with (refine wpList_st 25 rfl rfl _ _ rfl bY rfl _ rfl _ _ hn.blk sizeM rfl (by simp [Value.oneCell']) ?_)
 intro w23 hc hk
 have H23:=hidL ((H22.out.next (below_box hn hk)).and (lat_box hc))
 clear H22 hn hc hk
 have K:=show Hid (Calls Try.prog 25 #[.agg #[.slice pu dmd.up.length cu,.slice pv dmd.val.length cv],.agg #[.slice pQ 3 cQ,.slice qQ nQ dQ],.slice pc 4 cc] w23 fun e w'=>e=.returned (.tuple #[.bool true,.int .i64 0])∧Below w23.heap.size w23 w') from
  (bounded_any w23 (H23.out.now.1.1.1.1.1.1.1.1.1.1.1.1.1.1.1.1.1.1.1.1.1.1.2) fit_dmd (H23.out.now.1.1.1.1.1.1.1.1.1.1.1.1.1.1.1.1.1.2) HQ.out.1 (H23.out.now.1.1.1.1.1.1.1.1.1.1.1.1.1.1.1.1.1.1.2).isI (Nat.le_refl _) (by decide) (by decide)).mono fun e w' ⟨r,er,h1,h2,h3⟩=>by
   obtain ⟨rfl,rfl⟩:=bd_dmd HQ.out.2.1 HQ.out.2.2.1 HQ.out.2.2.2 h2
   exact ⟨h1,h3⟩
 have hx:=show Hid _ from H23.out.now.1.1.1.1.1.1.1.1.1.1.1.1.1.1.1.1.1.1.1.1.1.2
 have hy:=show Hid _ from H23.out.now.1.1.1.1.1.1.1.1.1.1.1.1.1.1.1.1.2
 go_wp2_with (first | refine wpList_ldw 25 _ rfl bD rfl _ _ hx.out rfl Try.underlying25 sizeM rfl ?_ | refine wpList_ldw 25 _ rfl bQ rfl _ _ hy.out rfl Try.underlying25 sizeM rfl ?_)
 clear hx hy
 refine Calls.mono K.out ?_
 rintro e w24 ⟨rfl,hb⟩
 have H24:=hidL (H23.out.next hb)
 clear H23 hb K HQ
 dsimp only
 go_at_K
 rename_i KK hKK
 refine hKK _ _ ?_
 iterate 18 (first | go_values | go_skip | go_guarded | go_step | go_upon)
 dsimp only [List.append]
 have hcA:w24.cell? ⟨bA,0,none⟩=some (.slice pA 2 cA):=((H24.out.now.1.1.1.1.1.1.1.1.1.1.1.1.1.1.1.1.1.1.1.2).cell 0).trans rfl
 go_wp2_with (first | refine wpList_mk rfl rfl 2 #[.int .i64 1,.int .i64 3] 3 (fun w=>by kernel_rfl) ?_ | (dsimp only [List.append];refine wpList_mk rfl rfl 2 #[.int .i64 1,.int .i64 3] 3 (fun w=>by kernel_rfl) ?_))
 intro w25 bi1 hn
 have K:=show Hid (Calls Try.prog 17 #[.slice pl 2 cl,.slice (some ⟨bi1,0,none⟩) 2 2] w25 fun e w'=>e=.returned (.bool true)∧Below w25.heap.size w25 w') from by
  have ho:=(H24.out.next hn.bel).now.1.1.1.1.1.1.1.1.1.1.1.1.1.1.1.1.1.1.1.1.2
  exact (ints_any w25 (OwnI.isI ho) (isI_new (l:=[1,3]) hn) (by decide) (by decide)).mono fun e w' ⟨⟨r,h1,h2⟩,h3⟩=>by
   refine ⟨?_,h3⟩
   rw [h1,h2.2 rfl]
 have H25:=hidL (H24.out.next hn.bel)
 clear H24 hn
 go_wp2_with fail
 refine Calls.mono K.out ?_
 rintro e w26 ⟨rfl,hb⟩
 have H26:=hidL (H25.out.next hb)
 clear H25 hb K
 go_wp2_with (first | refine wpList_mk rfl rfl 4 #[.int .i64 0,.int .i64 1,.int .i64 1,.int .i64 2] 3 (fun w=>by kernel_rfl) ?_ | (dsimp only [List.append];refine wpList_mk rfl rfl 4 #[.int .i64 0,.int .i64 1,.int .i64 1,.int .i64 2] 3 (fun w=>by kernel_rfl) ?_))
 intro w27 bi2 hn
 have K:=show Hid (Calls Try.prog 17 #[.slice pc 4 cc,.slice (some ⟨bi2,0,none⟩) 4 4] w27 fun e w'=>e=.returned (.bool true)∧Below w27.heap.size w27 w') from by
  have ho:=(H26.out.next hn.bel).now.1.1.1.1.1.1.1.1.1.1.1.1.1.1.1.1.1.1.2
  exact (ints_any w27 (OwnI.isI ho) (isI_new (l:=[0,1,1,2]) hn) (by decide) (by decide)).mono fun e w' ⟨⟨r,h1,h2⟩,h3⟩=>by
   refine ⟨?_,h3⟩
   rw [h1,h2.2 rfl]
 have H27:=hidL (H26.out.next hn.bel)
 clear H26 hn
 go_wp2_with fail
 refine Calls.mono K.out ?_
 rintro e w28 ⟨rfl,hb⟩
 have H28:=hidL (H27.out.next hb)
 clear H27 hb K
 have hcQ:w28.cell? ⟨bQ,0,none⟩=some (.slice pQ 3 cQ):=((H28.out.now.1.1.1.1.1.1.1.1.1.1.1.1.1.1.1.1.2).cell 0).trans rfl
 have hcU:w28.cell? ⟨bU,0,none⟩=some (.slice pU 5 cU):=((H28.out.now.1.1.1.1.1.1.1.1.1.1.1.1.1.1.2).cell 0).trans rfl
 go_wp2_with (first | refine wpList_mk rfl rfl 5 #[.int .i64 0,.int .i64 1,.int .i64 2,.int .i64 3,.int .i64 3] 3 (fun w=>by kernel_rfl) ?_ | (dsimp only [List.append];refine wpList_mk rfl rfl 5 #[.int .i64 0,.int .i64 1,.int .i64 2,.int .i64 3,.int .i64 3] 3 (fun w=>by kernel_rfl) ?_))
 intro w29 bi3 hn
 have K:=show Hid (Calls Try.prog 17 #[.slice pe 5 ce,.slice (some ⟨bi3,0,none⟩) 5 5] w29 fun e w'=>e=.returned (.bool true)∧Below w29.heap.size w29 w') from by
  have ho:=(H28.out.next hn.bel).now.1.1.1.1.1.1.1.1.1.1.1.1.1.1.1.2
  exact (ints_any w29 (OwnI.isI ho) (isI_new (l:=[0,1,2,3,3]) hn) (by decide) (by decide)).mono fun e w' ⟨⟨r,h1,h2⟩,h3⟩=>by
   refine ⟨?_,h3⟩
   rw [h1,h2.2 rfl]
 have H29:=hidL (H28.out.next hn.bel)
 clear H28 hn
 go_wp2_with fail
 refine Calls.mono K.out ?_
 rintro e w30 ⟨rfl,hb⟩
 have H30:=hidL (H29.out.next hb)
 clear H29 hb K
 have hcX:w30.cell? ⟨bX,0,none⟩=some (.slice pX 3 cX):=((H30.out.now.1.1.1.2).cell 0).trans rfl
 go_wp2_with (first | refine wpList_mk rfl rfl 2 #[.int .i64 1,.int .i64 2] 3 (fun w=>by kernel_rfl) ?_ | (dsimp only [List.append];refine wpList_mk rfl rfl 2 #[.int .i64 1,.int .i64 2] 3 (fun w=>by kernel_rfl) ?_))
 intro w31 bi4 hn
 have K:=show Hid (Calls Try.prog 17 #[.slice pt 2 ct,.slice (some ⟨bi4,0,none⟩) 2 2] w31 fun e w'=>e=.returned (.bool true)∧Below w31.heap.size w31 w') from by
  have ho:=(H30.out.next hn.bel).now.1.1.1.1.2
  exact (ints_any w31 (OwnI.isI ho) (isI_new (l:=[1,2]) hn) (by decide) (by decide)).mono fun e w' ⟨⟨r,h1,h2⟩,h3⟩=>by
   refine ⟨?_,h3⟩
   rw [h1,h2.2 rfl]
 have H31:=hidL (H30.out.next hn.bel)
 clear H30 hn
 go_wp2_with fail
 refine Calls.mono K.out ?_
 rintro e w32 ⟨rfl,hb⟩
 have H32:=hidL (H31.out.next hb)
 clear H31 hb K
 have HB:=show Hid (Below w.heap.size w w32) from H32.out.now.1.1.1.1.1.1.1.1.1.1.1.1.1.1.1.1.1.1.1.1.1.1.1
 go_wp2_with fail
 go_ret
 exact ⟨rfl,HB.out⟩
end Go.Proofs.Ytoedidbbjnnpnaa.Wm
/-
  A table of bools in memory, of rows of one length, that grows by a row and is written cell by cell. No condition.
-/
namespace Go.Proofs.Ytoedidbbjnnpnaa.Wm
open Go.RowKit Go.Maps
open Wd (upd)
set_option linter.unusedSimpArgs false
structure Ot (w:World) (B O r n k:Nat) (Ra:Nat→Nat) (S:Nat→Nat→Bool):Prop where
 out:Rw w O r 74 (fun j=>if j<k then .slice (some ⟨Ra j,0,none⟩) n n else .slice none 0 0)
 row:∀ j,j<k→Rw w (Ra j) n 4 (fun b=>.bool (S j b))∧B≤Ra j∧Ra j≠O
 inj:∀ i j,i<k→j<k→Ra i=Ra j→i=j
 hO:B≤O
section
variable {w w':World} {B O r n k:Nat} {Ra:Nat→Nat} {S:Nat→Nat→Bool}
theorem Ot.keep (h:Ot w B O r n k Ra S) (h1:w'.heap[O]?=w.heap[O]?) (h2:∀ j,j<k→w'.heap[Ra j]?=w.heap[Ra j]?):Ot w' B O r n k Ra S :=
 ⟨h.out.keep h1,fun j hj=>⟨(h.row j hj).1.keep (h2 j hj),(h.row j hj).2⟩,h.inj,h.hO⟩
theorem Ot.later (h:Ot w B O r n k Ra S) (hb:Below w.heap.size w w'):Ot w' B O r n k Ra S:=h.keep (hb.block _ h.out.lt) fun j hj=>hb.block _ (h.row j hj).1.lt
theorem Ot.start (w:World) (hB:B≤w.heap.size):Ot (w.alloc (.cells (madeCells #[.slice none 0 0] r) 74)) B w.heap.size r n 0 Ra S :=
 ⟨(rw_madeV w r (.slice none 0 0) 74).same fun j _=>by rw [if_neg (Nat.not_lt_zero _)],fun j hj=>absurd hj (Nat.not_lt_zero _),fun i j hi=>absurd hi (Nat.not_lt_zero _),hB⟩
theorem Ot.add (h:Ot w B O r n k Ra S) {q:Nat} {T:Nat→Bool} (hk:k<r) (hq:B≤q) (hO:q≠O) (hne:∀ j,j<k→Ra j≠q) (hr:Rw w q n 4 (fun b=>.bool (T b))) :
 Ot (w.setCell ⟨O,k,none⟩ (.slice (some ⟨q,0,none⟩) n n)) B O r n (k+1) (upd Ra k q) (upd S k T):=by
 have hkp:Kp (fun g=>g=O) w (w.setCell ⟨O,k,none⟩ (.slice (some ⟨q,0,none⟩) n n)):=(Kp.refl (fun g=>g=O) w).set (p:=O) rfl k _
 refine ⟨?_,fun j hj => ?_,fun i j hi hj e => ?_,h.hO⟩
 ·refine Rw.same (h.out.set k _) fun j hj => ?_
  unfold upd
  dsimp only
  by_cases e:j=k
  ·rw [if_pos e,if_pos (by omega),if_pos e]
  ·rw [if_neg e]
   by_cases e2:j<k
   ·rw [if_pos e2,if_pos (by omega),if_neg e]
   ·rw [if_neg e2,if_neg (by omega)]
 ·by_cases e:j=k
  ·subst e
   rw [Wd.upd_same,Wd.upd_same]
   exact ⟨hr.kp hkp hO,hq,hO⟩
  ·rw [Wd.upd_other _ _ _ e,Wd.upd_other _ _ _ e]
   exact ⟨(h.row j (by omega)).1.kp hkp (h.row j (by omega)).2.2,(h.row j (by omega)).2⟩
 ·by_cases e1:i=k
  ·by_cases e2:j=k
   ·omega
   ·rw [e1,Wd.upd_same,Wd.upd_other _ _ _ e2] at e
    exact absurd e.symm (hne j (by omega))
  ·by_cases e2:j=k
   ·rw [e2,Wd.upd_same,Wd.upd_other _ _ _ e1] at e
    exact absurd e (hne i (by omega))
   ·rw [Wd.upd_other _ _ _ e1,Wd.upd_other _ _ _ e2] at e
    exact h.inj i j (by omega) (by omega) e
theorem Ot.set (h:Ot w B O r n k Ra S) {a:Nat} (ha:a<k) (x:Nat) (z:Bool):Ot (w.setCell ⟨Ra a,x,none⟩ (.bool z)) B O r n k Ra (upd S a (upd (S a) x z)):=by
 have hk:Kp (fun g=>g=Ra a) w (w.setCell ⟨Ra a,x,none⟩ (.bool z)):=(Kp.refl (fun g=>g=Ra a) w).set (p:=Ra a) rfl x _
 refine ⟨h.out.kp hk (fun e=>(h.row a ha).2.2 e.symm),fun j hj=>⟨?_,(h.row j hj).2⟩,h.inj,h.hO⟩
 by_cases e:j=a
 ·subst e
  refine ((h.row j hj).1.set x (.bool z)).same fun b _ => ?_
  rw [Wd.upd_same]
  unfold upd
  split <;> rfl
 ·rw [Wd.upd_other _ _ _ e]
  exact (h.row j hj).1.kp hk (fun e2=>e (h.inj j a hj ha e2))
theorem Ot.same (h:Ot w B O r n k Ra S) {S':Nat→Nat→Bool} (e:∀ j,j<k→∀ b,b<n→S j b=S' j b):Ot w B O r n k Ra S' :=
 ⟨h.out,fun j hj=>⟨(h.row j hj).1.same fun b hb=>by rw [e j hj b hb],(h.row j hj).2⟩,h.inj,h.hO⟩
theorem Ot.co (h:Ot w B O r n k Ra S) {j:Nat} (hj:j<k) (hr:k≤r):w.cell? ⟨O,j,none⟩=some (.slice (some ⟨Ra j,0,none⟩) n n):=(h.out.cell (by omega)).trans (by rw [if_pos hj])
theorem Ot.cr (h:Ot w B O r n k Ra S) {j b:Nat} (hj:j<k) (hb:b<n):w.cell? ⟨Ra j,b,none⟩=some (.bool (S j b)):=(h.row j hj).1.cell hb
theorem Ot.fr (h:Ot w B O r n k Ra S) {j:Nat} (hj:j<k) (b:Nat):w.frozen? ⟨Ra j,b,none⟩=false:=(h.row j hj).1.fr b
theorem Ot.kb (h:Ot w B O r n k Ra S) (hB:B≤w.heap.size) {a:Nat} (ha:a<k) (x:Nat) (v:Value):Below B w (w.setCell ⟨Ra a,x,none⟩ v) :=
 ((Kp.refl (fun g=>g=Ra a) w).set (p:=Ra a) rfl x v).below hB fun g e=>by rw [e];exact (h.row a ha).2.1
theorem Ot.ko (h:Ot w B O r n k Ra S) (hB:B≤w.heap.size) (x:Nat) (v:Value):Below B w (w.setCell ⟨O,x,none⟩ v) :=
 ((Kp.refl (fun g=>g=O) w).set (p:=O) rfl x v).below hB fun g e=>by rw [e];exact h.hO
end
theorem run_stB {w:World} {b j:Nat} {z:Bool} {x:Value} (hc:w.cell? ⟨b,j,none⟩=some x) (hf:w.frozen? ⟨b,j,none⟩=false):(Instr.storeAt 4 (.pointer (some ⟨b,j,none⟩)) (.bool z)).run Try.prog w=.ok () (w.setCell ⟨b,j,none⟩ (.bool z)):=by
 go_simp
end Go.Proofs.Ytoedidbbjnnpnaa.Wm
