/-
  The document's call Count. For a text of at most 2^40 bytes that is tokens to its end. No other condition.
-/
import Derived.Test.YtkmmlimekachbaaGreatDoorQTok
import Derived.Test.YtkmmlimekachbaaGreatDoorSG5
import Derived.Test.YtkmmlimekachbaaGreatDoorRSB
import Derived.Deep.RegionHeld3
namespace Go.Proofs.YtkmmlimekachbaaGreatDoor
open Go.RowKit Go.Maps
open Sx (Tn T)
section
variable (w:World)
set_option maxHeartbeats 1000000 in
theorem dsign_any (t:Tn) (x:ByteArray) :
 Calls Tryz.prog 128 #[tnV t,.string x] w fun e w'=>e=.returned (.bool (Sx.sgn t x.data.toList))∧Below w.heap.size w w':=by
 obtain ⟨tk,tx,tn,tl,tc,to⟩:=t
 unfold tnV
 have HE:=show Hid (Sx.sgn ⟨tk,tx,tn,tl,tc,to⟩ x.data.toList=(tk == 3 && tx.data.toList == x.data.toList)) from rfl
 generalize Sx.sgn ⟨tk,tx,tn,tl,tc,to⟩ x.data.toList=r at *
 by_cases hk:tk=3
 ·subst hk
  go_enter Tryz.func128,Tryz.ntmps128
  go_wp2_with fail
  go_ret
  exact ⟨ret_bool (by rw [HE.out,← ByteArray.toList_eq,← ByteArray.toList_eq];simp),below_alloc _ _⟩
 ·have hk2:(tk == 3)=false:=beq_eq_false_iff_ne.2 hk
  go_enter Tryz.func128,Tryz.ntmps128
  go_wp2_with fail
  go_ret
  exact ⟨ret_bool (by rw [HE.out,hk2];rfl),below_alloc _ _⟩
set_option maxHeartbeats 2000000 in
theorem counted_any (t:Tn) :
 Calls Tryz.prog 75 #[tnV t] w fun e w'=>e=.returned (.bool (Sx.counts t))∧Below w.heap.size w w':=by
 have K:=show Hid (∀ (w1:World) (x:ByteArray),Calls Tryz.prog 128 #[tnV t,.string x] w1 fun e w'=>e=.returned (.bool (Sx.sgn t x.data.toList))∧Below w1.heap.size w1 w') from fun w1 x=>dsign_any w1 t x
 have HE:=show Hid (Sx.counts t=(t.k == 1 || (Sx.sgn t [126] || Sx.sgn t [38] || Sx.sgn t [124] || Sx.sgn t [45,62] || Sx.sgn t [60,45,62]))) from by
  show Sx.counts t=_
  unfold Sx.counts Sx.sgn
  cases (t.k == 3) <;> simp
 have KA:=show Hid (∀ w1:World,Calls Tryz.prog 128 #[tnV t,.string ⟨#[126]⟩] w1 fun e w'=>e=.returned (.bool (Sx.sgn t [126]))∧Below w1.heap.size w1 w') from fun w1=>K.out w1 _
 have KB:=show Hid (∀ w1:World,Calls Tryz.prog 128 #[tnV t,.string ⟨#[38]⟩] w1 fun e w'=>e=.returned (.bool (Sx.sgn t [38]))∧Below w1.heap.size w1 w') from fun w1=>K.out w1 _
 have KC:=show Hid (∀ w1:World,Calls Tryz.prog 128 #[tnV t,.string ⟨#[124]⟩] w1 fun e w'=>e=.returned (.bool (Sx.sgn t [124]))∧Below w1.heap.size w1 w') from fun w1=>K.out w1 _
 have KD:=show Hid (∀ w1:World,Calls Tryz.prog 128 #[tnV t,.string ⟨#[45,62]⟩] w1 fun e w'=>e=.returned (.bool (Sx.sgn t [45,62]))∧Below w1.heap.size w1 w') from fun w1=>K.out w1 _
 have KE:=show Hid (∀ w1:World,Calls Tryz.prog 128 #[tnV t,.string ⟨#[60,45,62]⟩] w1 fun e w'=>e=.returned (.bool (Sx.sgn t [60,45,62]))∧Below w1.heap.size w1 w') from fun w1=>K.out w1 _
 clear K
 generalize Sx.counts t=r at *
 generalize Sx.sgn t [126]=qa at *
 generalize Sx.sgn t [38]=qb at *
 generalize Sx.sgn t [124]=qc at *
 generalize Sx.sgn t [45,62]=qd at *
 generalize Sx.sgn t [60,45,62]=qe at *
 obtain ⟨tk,tx,tn,tl,tc,to⟩:=t
 unfold tnV at *
 simp only at HE
 have HB0:=show Hid (Below w.heap.size w (w.alloc (Obj.cells #[.int .i64 tk,.string tx,.int .i64 tn,.int .i64 tl,.int .i64 tc,.int .i64 to] 108))∧T6' (w.alloc (Obj.cells #[.int .i64 tk,.string tx,.int .i64 tn,.int .i64 tl,.int .i64 tc,.int .i64 to] 108)) w.heap.size (.int .i64 tk) (.string tx) (.int .i64 tn) (.int .i64 tl) (.int .i64 tc) (.int .i64 to)) from ⟨below_alloc _ _,heap_alloc_new _ _⟩
 have HN:=show Hid (∀ w1 w2:World,(Below w.heap.size w w1∧T6' w1 w.heap.size (.int .i64 tk) (.string tx) (.int .i64 tn) (.int .i64 tl) (.int .i64 tc) (.int .i64 to))→Below w1.heap.size w1 w2→(Below w.heap.size w w2∧T6' w2 w.heap.size (.int .i64 tk) (.string tx) (.int .i64 tn) (.int .i64 tl) (.int .i64 tc) (.int .i64 to))) from fun w1 w2 h hb=>⟨h.1.trans (hb.mono h.1.size),(hb.block _ (lt_of_block h.2)).trans h.2⟩
 by_cases hk:tk=1
 ·subst hk
  go_enter Tryz.func75,Tryz.ntmps75
  go_wp2_with fail
  go_ret
  exact ⟨ret_bool (by rw [HE.out];rfl),HB0.out.1⟩
 ·have hk2:(tk == 1)=false:=beq_eq_false_iff_ne.2 hk
  go_enter Tryz.func75,Tryz.ntmps75
  go_wp2_with fail
  refine (KA.out _).mono ?_
  rintro e w1 ⟨rfl,hb1⟩
  have HB1:=show Hid (Below w.heap.size w w1∧T6' w1 w.heap.size (.int .i64 tk) (.string tx) (.int .i64 tn) (.int .i64 tl) (.int .i64 tc) (.int .i64 to)) from HN.out _ _ HB0.out hb1
  have a0:=HB1.out.2.c0;have a1:=HB1.out.2.c1;have a2:=HB1.out.2.c2;have a3:=HB1.out.2.c3;have a4:=HB1.out.2.c4;have a5:=HB1.out.2.c5
  clear hb1 HB0 KA
  cases qa
  ·go_wp2_with fail
   refine (KB.out _).mono ?_
   rintro e w2 ⟨rfl,hb2⟩
   have HB2:=show Hid (Below w.heap.size w w2∧T6' w2 w.heap.size (.int .i64 tk) (.string tx) (.int .i64 tn) (.int .i64 tl) (.int .i64 tc) (.int .i64 to)) from HN.out _ _ HB1.out hb2
   clear a0 a1 a2 a3 a4 a5
   have a0:=HB2.out.2.c0;have a1:=HB2.out.2.c1;have a2:=HB2.out.2.c2;have a3:=HB2.out.2.c3;have a4:=HB2.out.2.c4;have a5:=HB2.out.2.c5
   clear hb2 HB1 KB
   cases qb
   ·go_wp2_with fail
    refine (KC.out _).mono ?_
    rintro e w3 ⟨rfl,hb3⟩
    have HB3:=show Hid (Below w.heap.size w w3∧T6' w3 w.heap.size (.int .i64 tk) (.string tx) (.int .i64 tn) (.int .i64 tl) (.int .i64 tc) (.int .i64 to)) from HN.out _ _ HB2.out hb3
    clear a0 a1 a2 a3 a4 a5
    have a0:=HB3.out.2.c0;have a1:=HB3.out.2.c1;have a2:=HB3.out.2.c2;have a3:=HB3.out.2.c3;have a4:=HB3.out.2.c4;have a5:=HB3.out.2.c5
    clear hb3 HB2 KC
    cases qc
    ·go_wp2_with fail
     refine (KD.out _).mono ?_
     rintro e w4 ⟨rfl,hb4⟩
     have HB4:=show Hid (Below w.heap.size w w4∧T6' w4 w.heap.size (.int .i64 tk) (.string tx) (.int .i64 tn) (.int .i64 tl) (.int .i64 tc) (.int .i64 to)) from HN.out _ _ HB3.out hb4
     clear a0 a1 a2 a3 a4 a5
     have a0:=HB4.out.2.c0;have a1:=HB4.out.2.c1;have a2:=HB4.out.2.c2;have a3:=HB4.out.2.c3;have a4:=HB4.out.2.c4;have a5:=HB4.out.2.c5
     clear hb4 HB3 KD
     cases qd
     ·go_wp2_with fail
      refine (KE.out _).mono ?_
      rintro e w5 ⟨rfl,hb5⟩
      have HB5:=show Hid (Below w.heap.size w w5) from (HN.out _ _ HB4.out hb5).1
      clear hb5 HB4 KE
      go_wp2_with fail
      go_ret
      exact ⟨ret_bool (by rw [HE.out,hk2];simp),HB5.out⟩
     ·go_wp2_with fail
      go_ret
      exact ⟨ret_bool (by rw [HE.out];simp),HB4.out.1⟩
    ·go_wp2_with fail
     go_ret
     exact ⟨ret_bool (by rw [HE.out];simp),HB3.out.1⟩
   ·go_wp2_with fail
    go_ret
    exact ⟨ret_bool (by rw [HE.out];simp),HB2.out.1⟩
  ·go_wp2_with fail
   go_ret
   exact ⟨ret_bool (by rw [HE.out];simp),HB1.out.1⟩
theorem TsAt.laterB {w w':World} {g:Nat} {cap:Cp} {ts:List Tn} (h:TsAt w g cap ts) (hb:Below w.heap.size w w'):TsAt w' g cap ts:=by
 obtain ⟨cur,hh,r⟩:=h
 exact ⟨cur,(hb.block _ (lt_of_block hh)).trans hh,r⟩
end
theorem Fl.laterC {w w':World} {g:Nat} {e l c o:Int} (h:Fl w g e l c o) (hb:Below w.heap.size w w'):Fl w' g e l c o:=(hb.block _ (lt_of_block h)).trans h
theorem TsAt.ne {w:World} {g k:Nat} {cap:Cp} {ts:List Tn} {e l c o:Int} (h:TsAt w g cap ts) (hf:Fl w k e l c o):g≠k:=by
 rintro rfl
 obtain ⟨cur,hh,_⟩:=h
 unfold Fl at hf
 rw [hf] at hh
 simp at hh
theorem TsAt.fset {w:World} {g k:Nat} {cap:Cp} {ts:List Tn} (h:TsAt w g cap ts) (hne:g≠k) (x y z u:Value):TsAt ((((w.setCell ⟨k,0,none⟩ x).setCell ⟨k,1,none⟩ y).setCell ⟨k,2,none⟩ z).setCell ⟨k,3,none⟩ u).drew g cap ts :=
 h.keep (by
  show ((((w.setCell ⟨k,0,none⟩ x).setCell ⟨k,1,none⟩ y).setCell ⟨k,2,none⟩ z).setCell ⟨k,3,none⟩ u).heap[g]?=_
  rw [Below.heap_setCell _ _ _ _ hne,Below.heap_setCell _ _ _ _ hne,Below.heap_setCell _ _ _ _ hne,Below.heap_setCell _ _ _ _ hne])
section
variable (w:World)
set_option maxRecDepth 100000 in
set_option maxHeartbeats 4000000 in
theorem ahead_any (s:ByteArray) (hs:s.size≤1099511627776) (h0:(Tk.scan s.data.toList).2.1=0):Calls Tryz.prog 74 #[.string s] w fun e w'=>∃ g cap:Nat,e=.returned (.tuple #[.slice (some ⟨g,0,none⟩) (toks s.data.toList).length cap,.agg #[.int .i64 0,.int .i64 0,.int .i64 0,.int .i64 0]])∧TsAt w' g cap (toks s.data.toList)∧Below w.heap.size w w':=by
 have hsz:s.data.toList.length=s.size:=rfl
 have hk:=toks_ok s.data.toList
 have K1:=show Hid (∀ w1,Calls Tryz.prog 55 #[.string s] w1 fun e w'=>∃ v,e=.returned (.tuple #[v,Tw.fltV s.data.toList (Tk.scan s.data.toList).2.1 (Tk.scan s.data.toList).2.2])∧w'.ownsRow w1.heap.size 108 6 v (Tk.scan s.data.toList).1.length (Tw.toksC s.data.toList (Tk.scan s.data.toList).1)∧Below w1.heap.size w1 w') from fun w1=>(Tw.rscan_any w1 s hs).mono fun e w' h=>by
  obtain ⟨⟨v,h1,h2⟩,h3⟩:=h
  exact ⟨v,h1,h2,h3⟩
 have b0:=show Hid (Below w.heap.size w (w.alloc (Obj.cells #[.int .i64 0,.int .i64 0,.int .i64 0,.int .i64 0] 52))) from below_alloc _ _
 have f0:=show Hid (Fl (w.alloc (Obj.cells #[.int .i64 0,.int .i64 0,.int .i64 0,.int .i64 0] 52)) w.heap.size 0 0 0 0) from fl_new _ _ _ _ _
 have ht:toks s.data.toList=(Tk.scan s.data.toList).1.map (tn s.data.toList):=by unfold toks;rw [if_pos h0]
 have HX:=show Hid (∀ v B w',w'.ownsRow B 108 6 v (Tk.scan s.data.toList).1.length (Tw.toksC s.data.toList (Tk.scan s.data.toList).1)→∃ (g cap:Nat),v=.slice (some ⟨g,0,none⟩) (toks s.data.toList).length cap∧B≤g∧TsAt w' g cap (toks s.data.toList)) from fun v B w' h=>by
  refine tsAt_of_own ?_ hk.1 (by have:=hk.2.1;omega)
  rw [ht,toksOf_map,List.length_map]
  exact h
 rw [h0] at K1
 have hfv:Tw.fltV s.data.toList 0 (Tk.scan s.data.toList).2.2=.agg #[.int .i64 0,.int .i64 0,.int .i64 0,.int .i64 0]:=rfl
 rw [hfv] at K1
 clear hs hsz ht hfv h0 hk
 go_enter Tryz.func74,Tryz.ntmps74
 go_wp2_with fail
 refine (K1.out _).mono ?_
 rintro e w1 ⟨v,rfl,ho,hb⟩
 obtain ⟨g,cap,rfl,hg,hts⟩:=HX.out v _ w1 ho
 obtain ⟨w2,hw2⟩:∃ w2,w2=w1.alloc (Obj.cells #[.int .i64 0,.int .i64 0,.int .i64 0,.int .i64 0] 52):=⟨_,rfl⟩
 have hb2:Below w1.heap.size w1 w2:=by rw [hw2];exact below_alloc _ _
 have X:=show Hid (w.heap.size≤g∧TsAt w2 g cap (toks s.data.toList)∧Below w.heap.size w w2∧Fl w2 w.heap.size 0 0 0 0∧Fl w2 w1.heap.size 0 0 0 0) from ⟨by simp at hg;omega,hts.laterB hb2,(b0.out.trans (hb.mono b0.out.size)).trans (hb2.mono (b0.out.trans (hb.mono b0.out.size)).size),(f0.out.laterC hb).laterC hb2,by rw [hw2];exact fl_new _ _ _ _ _⟩
 have hne:¬ w1.heap.size=w.heap.size:=by have:=hb.size;simp at this;omega
 have hne2:¬ w.heap.size=w1.heap.size:=fun e=>hne e.symm
 clear ho hb hg hts HX K1 hb2 b0 f0
 have r0:=X.out.2.2.2.1.c0;have r1:=X.out.2.2.2.1.c1;have r2:=X.out.2.2.2.1.c2;have r3:=X.out.2.2.2.1.c3;have rf:=X.out.2.2.2.1.fr
 have s0:=X.out.2.2.2.2.c0;have s1:=X.out.2.2.2.2.c1;have s2:=X.out.2.2.2.2.c2;have s3:=X.out.2.2.2.2.c3
 go_wp2_with fail
 rw [← hw2]
 clear hw2
 go_region
 go_wp2_with fail
 refine bodyPost_ret (results_tmp_cell rfl _ _ w.heap.size _ _ _ _ rfl (Fl.drew (X.out.2.2.2.1.s4 0 0 0 0)) Tryz.underlying52 rfl (by kernel_rfl)) rfl ?_
 exact ⟨g,cap,rfl,X.out.2.1.fset (X.out.2.1.ne X.out.2.2.2.1) _ _ _ _,((((X.out.2.2.1.setCell (Nat.le_refl _) _).setCell (Nat.le_refl _) _).setCell (Nat.le_refl _) _).setCell (Nat.le_refl _) _).drew⟩
set_option maxRecDepth 100000 in
set_option maxHeartbeats 2000000 in
theorem dcount_any (s:ByteArray) (hs:s.size≤1099511627776) (h0:(Tk.scan s.data.toList).2.1=0) :
 Calls Tryz.prog 28 #[.string s] w fun e w'=>e=.returned (.int .i64 (cnt (toks s.data.toList):Int))∧Below w.heap.size w w':=by
 have K1:=show Hid (Calls Tryz.prog 74 #[.string s] w fun e w'=>∃ g cap:Nat,e=.returned (.tuple #[.slice (some ⟨g,0,none⟩) (toks s.data.toList).length cap,.agg #[.int .i64 0,.int .i64 0,.int .i64 0,.int .i64 0]])∧TsAt w' g cap (toks s.data.toList)∧Below w.heap.size w w') from ahead_any w s hs h0
 have hlen:(toks s.data.toList).length≤1099511627777:=by
  have:=(toks_ok s.data.toList).2.1
  have:s.data.toList.length=s.size:=rfl
  omega
 generalize toks s.data.toList=ts at *
 clear hs h0
 go_enter Tryz.func28,Tryz.ntmps28
 go_wp2_with fail
 refine K1.out.mono ?_
 rintro e w1 ⟨g,cap,rfl,hT,hb⟩
 have hb2:Below w1.heap.size w1 (w1.alloc (Obj.cells #[.int .i64 0,.int .i64 0,.int .i64 0,.int .i64 0] 52)):=below_alloc _ _
 have X:=show Hid (TsAt (w1.alloc (Obj.cells #[.int .i64 0,.int .i64 0,.int .i64 0,.int .i64 0] 52)) g cap ts∧Below w.heap.size w (w1.alloc (Obj.cells #[.int .i64 0,.int .i64 0,.int .i64 0,.int .i64 0] 52))) from ⟨hT.laterB hb2,hb.trans (hb2.mono hb.size)⟩
 clear hT hb hb2 K1
 go_wp2_with fail
 go_loopw [5,6] (fun c i wr=>∃ k:Nat,k≤ts.length∧i=.int .i64 k∧(∃ cc:Nat,cc≤k∧c=.int .i64 cc∧Hid (cc=cnt (ts.take k)))∧Hid (TsAt wr g cap ts∧Below w.heap.size w wr)) (fun _ i _=>ts.length - (intOf i).toNat)
 case atStart=>exact ⟨0,by omega,rfl,⟨0,by omega,rfl,show 0=cnt (ts.take 0) from rfl⟩,X.out⟩
 case round =>
  clear X
  obtain ⟨k,hk,rfl,⟨cc,hcc,rfl,HC⟩,Y⟩:=hrel
  by_cases hlt:k<ts.length
  ·have hki:(k:Int)<(ts.length:Int):=by omega
   have hcell:=Y.out.1.cell hlt
   have d0:=hcell 0 (by omega)
   have d1:=hcell 1 (by omega)
   have d2:=hcell 2 (by omega)
   have d3:=hcell 3 (by omega)
   have d4:=hcell 4 (by omega)
   have d5:=hcell 5 (by omega)
   have HD:=show Hid _ from cnt_drop ts k hlt
   have KC:=show Hid (∀ w,Calls Tryz.prog 75 #[tnV ts[k]] w fun e w'=>e=.returned (.bool (Sx.counts ts[k]))∧Below w.heap.size w w') from fun w=>counted_any w _
   generalize Sx.counts ts[k]=q at *
   generalize ts[k]=t at *
   obtain ⟨tk,tx,tn,tl,tc,to⟩:=t
   simp only [tnC,tnV,Nat.add_zero,List.getElem?_cons_zero,List.getElem?_cons_succ] at *
   clear hcell
   go_wp2_with fail
   refine (KC.out _).mono ?_
   rintro e w2 ⟨rfl,hb2⟩
   have Z:=show Hid (TsAt w2 g cap ts∧Below w.heap.size w w2) from ⟨Y.out.1.laterB hb2,Y.out.2.trans (hb2.mono Y.out.2.size)⟩
   clear hb2 Y KC d0 d1 d2 d3 d4 d5
   cases q
   ·have HN:=show Hid (cc=cnt (ts.take (k+1))) from by
     show cc=cnt (ts.take (k+1))
     rw [HD.out,HC.out];rfl
    go_wp2_with fail
    go_roundw
    case rel=>exact ⟨k+1,by omega,by go_num,⟨cc,by omega,rfl,HN⟩,Z⟩
    case measure=>first | (simp [intOf];done) | (simp [intOf];omega)
   ·have HN:=show Hid (cc+1=cnt (ts.take (k+1))) from by
     show cc+1=cnt (ts.take (k+1))
     rw [HD.out,HC.out];rfl
    go_wp2_with fail
    go_roundw
    case rel=>exact ⟨k+1,by omega,by go_num,⟨cc+1,by omega,by go_num,HN⟩,Z⟩
    case measure=>first | (simp [intOf];done) | (simp [intOf];omega)
  ·have hke:k=ts.length:=by omega
   have hke2:¬ (k:Int)<(ts.length:Int):=by omega
   have HN:=show Hid (cc=cnt ts) from by
    show cc=cnt ts
    rw [HC.out,hke,List.take_length]
   clear hke
   go_wp2_with fail
   go_ret
   exact ⟨ret_int (by rw [HN.out]),Y.out.2⟩
end
end Go.Proofs.YtkmmlimekachbaaGreatDoor
