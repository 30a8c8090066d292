/-
  The call read behind Take. For every table and list of tokens. No other condition.
-/
import Derived.Test.YtkmmlimekachbaaGreatDoorSG3
import Derived.RegionDies
import Derived.Deep.RegionHeld2
import Derived.Deep.RegionHeld3
namespace Go.Proofs.YtkmmlimekachbaaGreatDoor
open Go.RowKit Go.Maps
open Fm (Nd)
open Sx (Tn T Lv)
section
variable (w:World) {b m g:Nat} {cap:Cp} {v:Value} {t:List Nd} {ts:List Tn}
theorem take1_any (w:World) (p:Nat):Calls Tryz.prog 152 #[.pointer (some ⟨p,0,none⟩)] w fun e w'=>e=.returned (.tuple #[])∧w'=w:=by
 go_enter Tryz.func152,Tryz.ntmps152
 go_wp2_with fail
 go_end0
 exact ⟨rfl,rfl⟩
set_option maxRecDepth 100000 in
set_option maxHeartbeats 8000000 in
theorem read_take (hT:Tb w b m v t) (hK:TsAt w g cap ts) (hz:∀ t ∈ ts,t.s.size≤140737488351232) :
 Calls Tryz.prog 103 #[.pointer (some ⟨b,0,none⟩),.slice (some ⟨g,cap.o,none⟩) ts.length cap.c,.func (.func 152) #[] #[]] w fun e w'=>e=.returned (wholeV (whole false ts t).1)∧After w b m v (whole false ts t).2 w':=by
 have hmf:=mkFunc
 have KL:=show Hid (∀ w1,Below w.heap.size w w1→Calls Tryz.prog 93 #[.pointer (some ⟨b,0,none⟩)] w1 fun e w'=>e=.returned (.int .i64 (t.length:Int))∧w'=w1) from fun w1 hb=>len_any w1 (hT.later hb)
 obtain ⟨o,ho,hfo⟩:=Sx.rd_total ts (8 * ts.length+5) .formula 0 0 0 (by omega) (by simp [Sx.cost])
 have HT:=show Hid (Tb w b m v t) from hT
 have KF:=show Hid (Calls Tryz.prog 144 #[.pointer (some ⟨w.heap.size+1+1+1+1+1,0,none⟩)] (rdW w b g cap ts t) fun e w'=>Read (rdW w b g cap ts t) (w.heap.size+1+1+1+1+1) b g cap ts 0 o e w') from (all_con hz (8 * ts.length+5)).1 _ (Nat.le_refl _) _ 0 0 0 o (rdW_rs w hK b t) (by omega) (by omega) (by omega) ho
 have HM:=show Hid (Mid w (rdW w b g cap ts t) b m v t) from mid_start w hT g cap ts
 have HWF:=show Hid (Sx.WfO o) from Sx.rd_wf ts _ .formula 0 0 0 o trivial ho
 have HFN:=show Hid (fin false ts=finO false ts o) from by
  show fin false ts=finO false ts o
  unfold fin
  rw [ho]
  rfl
 have HFO:=show Hid (Sx.Fine ts .formula 0 0 o) from hfo
 have HWH:=show Hid (whole false ts t=wholeO t (fin false ts)) from rfl
 generalize whole false ts t=res at *
 generalize fin false ts=fi at *
 clear hT hK hz ho hfo
 go_enter_defers Tryz.func103,Tryz.ntmps103
 go_wp2_with fail
 refine (KL.out _ ((((Below.refl _ _).alloc (Nat.le_refl _) _).alloc (by simp) _).alloc (by simp;omega) _ |>.alloc (by simp;omega) _)).mono ?_
 rintro e w1 ⟨rfl,hw1⟩
 subst w1
 go_wp2_with fail
 cases o with
 | bad er tn =>
  refine KF.out.mono ?_
  rintro e w1 ⟨rfl,hk1⟩
  have X:=show Hid (Mid w w1 b m v t) from HM.out.next HT.out hk1 HM.out.size
  clear hk1 KF HM KL
  unfold fltP fltV
  go_wp2_with fail
  refine read_caught _ w1 er tn.l tn.c tn.o rfl rfl rfl X.out.vs X.out.tb ⟨[],by simp⟩ fun w' hc => ?_
  have hfi:=HFN.out
  have hres:=HWH.out
  rw [hfi] at hres
  rw [hres]
  exact ⟨rfl,mid_caught X.out.be ⟨Lies.refl _ _,Kp.refl _ _,Nat.le_refl _⟩ hc⟩
 | ok a i n =>
  refine KF.out.mono ?_
  rintro e w1 ⟨F1,cp1,rfl,hP1,hS1,hk1⟩
  have X:=show Hid (Mid w w1 b m v t∧Pts w1 (w.heap.size+1+1+1+1+1) b a (.func (.func F1) #[] cp1)∧RS w1 (w.heap.size+1+1+1+1+1) b g cap ts i n 0) from ⟨HM.out.next HT.out hk1 HM.out.size,hP1,hS1⟩
  have hcf:=hP1.enters
  clear hk1 KF HM hP1 hS1 KL
  have KB:=show Hid (Calls Tryz.prog 152 #[.pointer (some ⟨w.heap.size+1+1+1+1+1,0,none⟩)] w1 fun e w'=>e=.returned (.tuple #[])∧w'=w1) from take1_any w1 _
  have hfi:=HFN.out
  simp only [finO,Bool.false_eq_true,false_and,if_false] at hfi
  have HF2:=show Hid (fi=.ok a i n) from hfi
  clear hfi HFN
  go_wp2_with fail
  refine KB.out.mono ?_
  rintro e w2 ⟨rfl,hw2⟩
  subst w2
  have X2:=show Hid (Mid w w1 b m v t∧Pts w1 (w.heap.size+1+1+1+1+1) b a (.func (.func F1) #[] cp1)∧RS w1 (w.heap.size+1+1+1+1+1) b g cap ts i n 0) from X.out
  obtain ⟨w2,hw2⟩:∃ w2,w2=w1:=⟨_,rfl⟩
  rw [← hw2] at X2 ⊢
  clear hw2 X KB
  have KP:=show Hid (Calls Tryz.prog F1 cp1 w2.drew fun e w'=>Putted w2.drew b m v (Sx.pt a t) e w') from pts_any a HWF.out F1 cp1 w2.drew m g cap ts.length i n 0 v t X2.out.2.1.drew (X2.out.2.2.rd.later (Below.refl _ _).drew) X2.out.1.tb.drew
  have hres:=HWH.out
  rw [HF2.out] at hres
  simp only [wholeO] at hres
  have HRES:=show Hid _ from hres
  have HPR:=show Hid (Sx.Res t (Sx.pt a t)) from Sx.pt_res a HT.out.ok HWF.out
  have c2:=X2.out.2.2.rd.c2
  clear hres HWH HF2 HFO HWF
  by_cases h0:(Sx.pt a t).2.1=0
  ·have K2:=show Hid (Calls Tryz.prog F1 cp1 w2.drew fun e w'=>e=.returned (.int .i64 (Sx.pt a t).1)∧After w2 b m v (Sx.pt a t).2.2 w') from KP.out.mono fun e w' h=>by
    rcases h with ⟨_,h1,h2⟩ | ⟨h1,_⟩
    ·exact ⟨h1,h2.undrew⟩
    ·exact absurd h0 h1
   have hres:=HRES.out
   rw [if_pos h0] at hres
   have HRES2:=show Hid _ from hres
   clear hres HRES KP h0
   generalize Sx.pt a t=r at *
   obtain ⟨r1,r2,r3⟩:=r
   simp only at *
   have HV:=show Hid (∀ w3,After w2 b m v r3 w3→Vs w3 w.heap.size b t.length∧w3.cell? ⟨w.heap.size+1+1+1+1+1,2,none⟩=some (.int .i64 (i:Int))) from fun w3 ha=>by
    refine ⟨X2.out.1.vs.keep fun k hk1 hk2=>ha.kp.block k (by have:=X2.out.1.size;omega) fun hf=>by have:=HT.out.foot k hf;omega,(X2.out.2.2.rd.after X2.out.1.tb ha.kp).c2⟩
   have c2d:w2.drew.cell? ⟨w.heap.size+1+1+1+1+1,2,none⟩=some (.int .i64 (i:Int)):=c2
   go_wp2_with fail
   refine wp_region_noPanic ?_
   go_region_held2 (fun wx=>wx.cell? ⟨w.heap.size+1+1+1+1+1,2,none⟩=some (.int .i64 (i:Int))) (first | with_reducible assumption | go_keep) (first | ((with_reducible refine Calls.mono K2.out ?_);rintro e w3 ⟨rfl,ha3⟩;have hv3:=HV.out w3 ha3;have HV3:=show Hid (Vs w3 w.heap.size b t.length∧After w2 b m v r3 w3) from ⟨hv3.1,ha3⟩;have hc3:=hv3.2;have u1:=hv3.1.v1.c0;have u2:=hv3.1.v2.c0;have u3:=hv3.1.v3.c0;have u4:=hv3.1.v3.c1;have u5:=hv3.1.v3.c2;have u6:=hv3.1.v3.c3;have f1:=hv3.1.v1.fr;have f2:=hv3.1.v2.fr;have f3:=hv3.1.v3.fr;clear hv3 ha3))
   refine NoPanic.normal ?_
   go_wp2_with fail
   have hfin:=ok_of X2.out.1 HV3.out.2 HV3.out.1 r1 (i:Int)
   unfold setG at hfin
   refine read_idle _ _ rfl rfl rfl hfin.1 hfin.2.1 hfin.2.2.1 ?_
   rw [HRES2.out]
   exact ⟨rfl,hfin.2.2.2⟩
  ·have K3:=show Hid (Calls Tryz.prog F1 cp1 w2.drew fun e w'=>e=fltP (Sx.pt a t).2.1 Sx.tz∧After w2 b m v (Sx.pt a t).2.2 w') from KP.out.mono fun e w' h=>by
    rcases h with ⟨h1,_⟩ | ⟨_,h1,h2⟩
    ·exact absurd h1 h0
    ·exact ⟨h1,h2.undrew⟩
   have hres:=HRES.out
   rw [if_neg h0] at hres
   have HRES2:=show Hid _ from hres
   have HPRE:=show Hid (∃ u,(Sx.pt a t).2.2=t ++ u) from HPR.out.pre
   clear hres HRES KP h0 HPR
   generalize Sx.pt a t=r at *
   obtain ⟨r1,r2,r3⟩:=r
   simp only at *
   have HV:=show Hid (∀ w3,After w2 b m v r3 w3→Vs w3 w.heap.size b t.length) from fun w3 ha=>X2.out.1.vs.keep fun k hk1 hk2=>ha.kp.block k (by have:=X2.out.1.size;omega) fun hf=>by have:=HT.out.foot k hf;omega
   go_wp2_with fail
   refine Code.wp_mono (Q:=PQ w.heap.size fun ch w'=>ch=[{ v:=fltV r2 Sx.tz,recovered:=false }]∧After w2 b m v r3 w') ?_ ?_
   ·rintro en a' w' hp
    cases en with
    | panic ch =>
     obtain ⟨⟨s1,s2,s3,s4⟩,rfl,ha3⟩:=hp
     show Leaves _ _ a'.tmps _ a'.defers _ w'
     rw [s4]
     obtain ⟨v3,t3,l3,k3⟩:=ha3
     refine read_caught a'.tmps w' r2 0 0 0 s1 s2 s3 (HV.out w' ⟨v3,t3,l3,k3⟩) t3 HPRE.out fun w'' hc => ?_
     rw [HRES2.out]
     exact ⟨rfl,mid_caught X2.out.1.be ⟨fun k hk=>(l3 k hk).imp id (fun h=>Nat.le_trans X2.out.1.be.size h),k3,k3.size⟩ hc⟩
    | _=>exact hp.elim
   ·refine wp_region_held_drew (S:=fun wx=>wx.cell? ⟨w.heap.size+1+1+1+1+1,2,none⟩=some (.int .i64 (i:Int))) (by kernel_rfl) c2 (fun hHeld => ?_)
    refine wpAnyH_take (i:=0) (v:=.func (.func F1) #[] cp1) rfl (by kernel_rfl) (by kernel_rfl) (by kernel_rfl) (PQ.put (by omega)) (Or.inl ⟨by rfl,fun wx hS=>by go_simp⟩) hHeld ?_
    dsimp only [Act.put]
    refine wpAnyH_take (i:=2) (v:=.pointer (some ⟨w.heap.size+1+1+1+1+1,0,none⟩)) rfl (by kernel_rfl) (by kernel_rfl) (by kernel_rfl) (PQ.put (by omega)) (Or.inl ⟨by rfl,fun wx hS=>by go_simp⟩) hHeld ?_
    dsimp only [Act.put]
    refine wpAnyH_take (i:=3) (v:=.pointer (some ⟨w.heap.size+1+1+1+1+1,0,none⟩)) rfl (by kernel_rfl) (by kernel_rfl) (by kernel_rfl) (PQ.put (by omega)) (Or.inl ⟨by rfl,fun wx hS=>by go_simp⟩) hHeld ?_
    dsimp only [Act.put]
    refine wpAnyH_take (i:=4) (v:=.pointer (some ⟨w.heap.size+1+1+1+1+1,2,none⟩)) rfl (by kernel_rfl) (by kernel_rfl) (by kernel_rfl) (PQ.put (by omega)) (Or.inl ⟨by rfl,fun wx hS=>by go_simp⟩) hHeld ?_
    dsimp only [Act.put]
    refine wpAnyH_take (i:=5) (v:=.int .i64 (i:Int)) rfl (by kernel_rfl) (by kernel_rfl) (by kernel_rfl) (PQ.put (by omega)) (Or.inl ⟨by rfl,fun wx hS=>by go_simp⟩) hHeld ?_
    dsimp only [Act.put]
    refine wpAnyH_take (i:=6) (v:=.agg #[.int .i64 0,.int .i64 0,.int .i64 0,.int .i64 0]) rfl (by kernel_rfl) (by kernel_rfl) (by kernel_rfl) (PQ.put (by omega)) (Or.inl ⟨by rfl,fun wx hS=>by go_simp⟩) hHeld ?_
    dsimp only [Act.put]
    refine wpAnyH_ready (rs:=[1]) (by kernel_rfl) (by simp) ?_
    refine AllReadyH.cons rfl (fun K hK => ?_) AllReadyH.nil
    clear hK
    go_simp
    refine K3.out.mono ?_
    rintro en w3 ⟨rfl,ha3⟩
    exact ⟨⟨rfl,rfl,rfl,rfl⟩,rfl,ha3⟩
end
end Go.Proofs.YtkmmlimekachbaaGreatDoor
/-
  The call read behind Parse. For every table and list of tokens. No other condition.
-/
namespace Go.Proofs.YtkmmlimekachbaaGreatDoor
open Go.RowKit Go.Maps
open Fm (Nd)
open Sx (Tn T Lv)
section
variable (w:World) {b m g:Nat} {cap:Cp} {v:Value} {t:List Nd} {ts:List Tn}
set_option maxRecDepth 100000 in
set_option maxHeartbeats 8000000 in
theorem read_parse (hT:Tb w b m v t) (hK:TsAt w g cap ts) (hz:∀ t ∈ ts,t.s.size≤140737488351232) :
 Calls Tryz.prog 103 #[.pointer (some ⟨b,0,none⟩),.slice (some ⟨g,cap.o,none⟩) ts.length cap.c,.func (.func 104) #[] #[]] w fun e w'=>e=.returned (wholeV (whole true ts t).1)∧After w b m v (whole true ts t).2 w':=by
 have hmf:=mkFunc
 have KL:=show Hid (∀ w1,Below w.heap.size w w1→Calls Tryz.prog 93 #[.pointer (some ⟨b,0,none⟩)] w1 fun e w'=>e=.returned (.int .i64 (t.length:Int))∧w'=w1) from fun w1 hb=>len_any w1 (hT.later hb)
 obtain ⟨o,ho,hfo⟩:=Sx.rd_total ts (8 * ts.length+5) .formula 0 0 0 (by omega) (by simp [Sx.cost])
 have HT:=show Hid (Tb w b m v t) from hT
 have KF:=show Hid (Calls Tryz.prog 144 #[.pointer (some ⟨w.heap.size+1+1+1+1+1,0,none⟩)] (rdW w b g cap ts t) fun e w'=>Read (rdW w b g cap ts t) (w.heap.size+1+1+1+1+1) b g cap ts 0 o e w') from (all_con hz (8 * ts.length+5)).1 _ (Nat.le_refl _) _ 0 0 0 o (rdW_rs w hK b t) (by omega) (by omega) (by omega) ho
 have HM:=show Hid (Mid w (rdW w b g cap ts t) b m v t) from mid_start w hT g cap ts
 have HWF:=show Hid (Sx.WfO o) from Sx.rd_wf ts _ .formula 0 0 0 o trivial ho
 have HFN:=show Hid (fin true ts=finO true ts o) from by
  show fin true ts=finO true ts o
  unfold fin
  rw [ho]
  rfl
 have HFO:=show Hid (Sx.Fine ts .formula 0 0 o) from hfo
 have HWH:=show Hid (whole true ts t=wholeO t (fin true ts)) from rfl
 generalize whole true ts t=res at *
 generalize fin true ts=fi at *
 clear hT hK hz ho hfo
 go_enter_defers Tryz.func103,Tryz.ntmps103
 go_wp2_with fail
 refine (KL.out _ ((((Below.refl _ _).alloc (Nat.le_refl _) _).alloc (by simp) _).alloc (by simp;omega) _ |>.alloc (by simp;omega) _)).mono ?_
 rintro e w1 ⟨rfl,hw1⟩
 subst w1
 go_wp2_with fail
 cases o with
 | bad er tn =>
  refine KF.out.mono ?_
  rintro e w1 ⟨rfl,hk1⟩
  have X:=show Hid (Mid w w1 b m v t) from HM.out.next HT.out hk1 HM.out.size
  clear hk1 KF HM KL
  unfold fltP fltV
  go_wp2_with fail
  refine read_caught _ w1 er tn.l tn.c tn.o rfl rfl rfl X.out.vs X.out.tb ⟨[],by simp⟩ fun w' hc => ?_
  have hfi:=HFN.out
  have hres:=HWH.out
  rw [hfi] at hres
  rw [hres]
  exact ⟨rfl,mid_caught X.out.be ⟨Lies.refl _ _,Kp.refl _ _,Nat.le_refl _⟩ hc⟩
 | ok a i n =>
  refine KF.out.mono ?_
  rintro e w1 ⟨F1,cp1,rfl,hP1,hS1,hk1⟩
  have X:=show Hid (Mid w w1 b m v t∧Pts w1 (w.heap.size+1+1+1+1+1) b a (.func (.func F1) #[] cp1)∧RS w1 (w.heap.size+1+1+1+1+1) b g cap ts i n 0) from ⟨HM.out.next HT.out hk1 HM.out.size,hP1,hS1⟩
  have hcf:=hP1.enters
  clear hk1 KF HM hP1 hS1 KL
  have KB:=show Hid (Calls Tryz.prog 104 #[.pointer (some ⟨w.heap.size+1+1+1+1+1,0,none⟩)] w1 fun e w'=>Ended w1 (w.heap.size+1+1+1+1+1) ts i n e w') from end_any w1 X.out.2.2 ((HFO.out _ _ _ rfl).2.2 (by omega)) (HFO.out _ _ _ rfl).2.1
  go_wp2_with fail
  refine KB.out.mono ?_
  rintro e w2 (⟨hk0,rfl,hb2⟩ | ⟨hk0,rfl,hk2⟩)
  case inr =>
   have X2:=show Hid (Mid w w2 b m v t) from X.out.1.next HT.out hk2 X.out.1.size
   have hfi:=HFN.out
   simp only [finO,true_and] at hfi
   rw [if_pos hk0] at hfi
   have HF2:=show Hid _ from hfi
   clear hk0 hk2 KB X hfi HFN
   generalize (if 512<Sx.up ts i n then (40:Int) else 41)=er at *
   generalize Sx.tk ts i=tn at *
   unfold fltP fltV
   go_wp2_with fail
   refine read_caught _ w2 er tn.l tn.c tn.o rfl rfl rfl X2.out.vs X2.out.tb ⟨[],by simp⟩ fun w' hc => ?_
   have hres:=HWH.out
   rw [HF2.out] at hres
   rw [hres]
   exact ⟨rfl,mid_caught X2.out.be ⟨Lies.refl _ _,Kp.refl _ _,Nat.le_refl _⟩ hc⟩
  have X2:=show Hid (Mid w w2 b m v t∧Pts w2 (w.heap.size+1+1+1+1+1) b a (.func (.func F1) #[] cp1)∧RS w2 (w.heap.size+1+1+1+1+1) b g cap ts i n 0) from ⟨X.out.1.next HT.out (KpP.of_below hb2) X.out.1.size,X.out.2.1.later hb2,X.out.2.2.later hb2⟩
  have hfi:=HFN.out
  simp only [finO,true_and] at hfi
  rw [if_neg (by simp [hk0])] at hfi
  have HF2:=show Hid (fi=.ok a i n) from hfi
  clear hk0 hb2 KB X hfi HFN
  have KP:=show Hid (Calls Tryz.prog F1 cp1 w2.drew fun e w'=>Putted w2.drew b m v (Sx.pt a t) e w') from pts_any a HWF.out F1 cp1 w2.drew m g cap ts.length i n 0 v t X2.out.2.1.drew (X2.out.2.2.rd.later (Below.refl _ _).drew) X2.out.1.tb.drew
  have hres:=HWH.out
  rw [HF2.out] at hres
  simp only [wholeO] at hres
  have HRES:=show Hid _ from hres
  have HPR:=show Hid (Sx.Res t (Sx.pt a t)) from Sx.pt_res a HT.out.ok HWF.out
  have c2:=X2.out.2.2.rd.c2
  clear hres HWH HF2 HFO HWF
  by_cases h0:(Sx.pt a t).2.1=0
  ·have K2:=show Hid (Calls Tryz.prog F1 cp1 w2.drew fun e w'=>e=.returned (.int .i64 (Sx.pt a t).1)∧After w2 b m v (Sx.pt a t).2.2 w') from KP.out.mono fun e w' h=>by
    rcases h with ⟨_,h1,h2⟩ | ⟨h1,_⟩
    ·exact ⟨h1,h2.undrew⟩
    ·exact absurd h0 h1
   have hres:=HRES.out
   rw [if_pos h0] at hres
   have HRES2:=show Hid _ from hres
   clear hres HRES KP h0
   generalize Sx.pt a t=r at *
   obtain ⟨r1,r2,r3⟩:=r
   simp only at *
   have HV:=show Hid (∀ w3,After w2 b m v r3 w3→Vs w3 w.heap.size b t.length∧w3.cell? ⟨w.heap.size+1+1+1+1+1,2,none⟩=some (.int .i64 (i:Int))) from fun w3 ha=>by
    refine ⟨X2.out.1.vs.keep fun k hk1 hk2=>ha.kp.block k (by have:=X2.out.1.size;omega) fun hf=>by have:=HT.out.foot k hf;omega,(X2.out.2.2.rd.after X2.out.1.tb ha.kp).c2⟩
   have c2d:w2.drew.cell? ⟨w.heap.size+1+1+1+1+1,2,none⟩=some (.int .i64 (i:Int)):=c2
   go_wp2_with fail
   refine wp_region_noPanic ?_
   go_region_held2 (fun wx=>wx.cell? ⟨w.heap.size+1+1+1+1+1,2,none⟩=some (.int .i64 (i:Int))) (first | with_reducible assumption | go_keep) (first | ((with_reducible refine Calls.mono K2.out ?_);rintro e w3 ⟨rfl,ha3⟩;have hv3:=HV.out w3 ha3;have HV3:=show Hid (Vs w3 w.heap.size b t.length∧After w2 b m v r3 w3) from ⟨hv3.1,ha3⟩;have hc3:=hv3.2;have u1:=hv3.1.v1.c0;have u2:=hv3.1.v2.c0;have u3:=hv3.1.v3.c0;have u4:=hv3.1.v3.c1;have u5:=hv3.1.v3.c2;have u6:=hv3.1.v3.c3;have f1:=hv3.1.v1.fr;have f2:=hv3.1.v2.fr;have f3:=hv3.1.v3.fr;clear hv3 ha3))
   refine NoPanic.normal ?_
   go_wp2_with fail
   have hfin:=ok_of X2.out.1 HV3.out.2 HV3.out.1 r1 (i:Int)
   unfold setG at hfin
   refine read_idle _ _ rfl rfl rfl hfin.1 hfin.2.1 hfin.2.2.1 ?_
   rw [HRES2.out]
   exact ⟨rfl,hfin.2.2.2⟩
  ·have K3:=show Hid (Calls Tryz.prog F1 cp1 w2.drew fun e w'=>e=fltP (Sx.pt a t).2.1 Sx.tz∧After w2 b m v (Sx.pt a t).2.2 w') from KP.out.mono fun e w' h=>by
    rcases h with ⟨h1,_⟩ | ⟨_,h1,h2⟩
    ·exact absurd h1 h0
    ·exact ⟨h1,h2.undrew⟩
   have hres:=HRES.out
   rw [if_neg h0] at hres
   have HRES2:=show Hid _ from hres
   have HPRE:=show Hid (∃ u,(Sx.pt a t).2.2=t ++ u) from HPR.out.pre
   clear hres HRES KP h0 HPR
   generalize Sx.pt a t=r at *
   obtain ⟨r1,r2,r3⟩:=r
   simp only at *
   have HV:=show Hid (∀ w3,After w2 b m v r3 w3→Vs w3 w.heap.size b t.length) from fun w3 ha=>X2.out.1.vs.keep fun k hk1 hk2=>ha.kp.block k (by have:=X2.out.1.size;omega) fun hf=>by have:=HT.out.foot k hf;omega
   go_wp2_with fail
   refine Code.wp_mono (Q:=PQ w.heap.size fun ch w'=>ch=[{ v:=fltV r2 Sx.tz,recovered:=false }]∧After w2 b m v r3 w') ?_ ?_
   ·rintro en a' w' hp
    cases en with
    | panic ch =>
     obtain ⟨⟨s1,s2,s3,s4⟩,rfl,ha3⟩:=hp
     show Leaves _ _ a'.tmps _ a'.defers _ w'
     rw [s4]
     obtain ⟨v3,t3,l3,k3⟩:=ha3
     refine read_caught a'.tmps w' r2 0 0 0 s1 s2 s3 (HV.out w' ⟨v3,t3,l3,k3⟩) t3 HPRE.out fun w'' hc => ?_
     rw [HRES2.out]
     exact ⟨rfl,mid_caught X2.out.1.be ⟨fun k hk=>(l3 k hk).imp id (fun h=>Nat.le_trans X2.out.1.be.size h),k3,k3.size⟩ hc⟩
    | _=>exact hp.elim
   ·refine wp_region_held_drew (S:=fun wx=>wx.cell? ⟨w.heap.size+1+1+1+1+1,2,none⟩=some (.int .i64 (i:Int))) (by kernel_rfl) c2 (fun hHeld => ?_)
    refine wpAnyH_take (i:=0) (v:=.func (.func F1) #[] cp1) rfl (by kernel_rfl) (by kernel_rfl) (by kernel_rfl) (PQ.put (by omega)) (Or.inl ⟨by rfl,fun wx hS=>by go_simp⟩) hHeld ?_
    dsimp only [Act.put]
    refine wpAnyH_take (i:=2) (v:=.pointer (some ⟨w.heap.size+1+1+1+1+1,0,none⟩)) rfl (by kernel_rfl) (by kernel_rfl) (by kernel_rfl) (PQ.put (by omega)) (Or.inl ⟨by rfl,fun wx hS=>by go_simp⟩) hHeld ?_
    dsimp only [Act.put]
    refine wpAnyH_take (i:=3) (v:=.pointer (some ⟨w.heap.size+1+1+1+1+1,0,none⟩)) rfl (by kernel_rfl) (by kernel_rfl) (by kernel_rfl) (PQ.put (by omega)) (Or.inl ⟨by rfl,fun wx hS=>by go_simp⟩) hHeld ?_
    dsimp only [Act.put]
    refine wpAnyH_take (i:=4) (v:=.pointer (some ⟨w.heap.size+1+1+1+1+1,2,none⟩)) rfl (by kernel_rfl) (by kernel_rfl) (by kernel_rfl) (PQ.put (by omega)) (Or.inl ⟨by rfl,fun wx hS=>by go_simp⟩) hHeld ?_
    dsimp only [Act.put]
    refine wpAnyH_take (i:=5) (v:=.int .i64 (i:Int)) rfl (by kernel_rfl) (by kernel_rfl) (by kernel_rfl) (PQ.put (by omega)) (Or.inl ⟨by rfl,fun wx hS=>by go_simp⟩) hHeld ?_
    dsimp only [Act.put]
    refine wpAnyH_take (i:=6) (v:=.agg #[.int .i64 0,.int .i64 0,.int .i64 0,.int .i64 0]) rfl (by kernel_rfl) (by kernel_rfl) (by kernel_rfl) (PQ.put (by omega)) (Or.inl ⟨by rfl,fun wx hS=>by go_simp⟩) hHeld ?_
    dsimp only [Act.put]
    refine wpAnyH_ready (rs:=[1]) (by kernel_rfl) (by simp) ?_
    refine AllReadyH.cons rfl (fun K hK => ?_) AllReadyH.nil
    clear hK
    go_simp
    refine K3.out.mono ?_
    rintro en w3 ⟨rfl,ha3⟩
    exact ⟨⟨rfl,rfl,rfl,rfl⟩,rfl,ha3⟩
end
end Go.Proofs.YtkmmlimekachbaaGreatDoor
