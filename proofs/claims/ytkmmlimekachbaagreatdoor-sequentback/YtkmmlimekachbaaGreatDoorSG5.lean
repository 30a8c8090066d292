/-
  The calls made, Parse and Take. For every table and list of tokens; texts of at most 2^40 bytes, where the tables stand as the program's text lays them.
-/
import Derived.Test.YtkmmlimekachbaaGreatDoorSTok
import Derived.Test.YtkmmlimekachbaaGreatDoorSG4
namespace Go.Proofs.YtkmmlimekachbaaGreatDoor
open Go.RowKit Go.Maps
open Fm (Nd)
open Sx (Tn T Lv)
def parseR (s:List UInt8) (t:List Nd):(Int × Int × Tn) × List Nd :=
 match over (toks s) 0 with
 | some x=>((0,40,x),t)
 | none=>(((whole true (toks s) t).1.1,(whole true (toks s) t).1.2.2.1,(whole true (toks s) t).1.2.2.2),(whole true (toks s) t).2)
def parseV (r:Int × Int × Tn):Value:=.tuple #[.int .i64 r.1,.agg #[.int .i64 r.2.1,.int .i64 r.2.2.l,.int .i64 r.2.2.c,.int .i64 r.2.2.o]]
section
variable (w:World) {b m g cap:Nat} {v:Value} {t:List Nd} {ts:List Tn}
set_option maxHeartbeats 400000 in
theorem smade_any (h:Tb w b m v t):Calls Tryz.prog 101 #[.pointer (some ⟨b,0,none⟩)] w fun e w'=>e=.returned (.bool true)∧Below w.heap.size w w':=by
 have K:=show Hid (Calls Tryz.prog 98 #[.pointer (some ⟨b,0,none⟩),.int .i64 (-1)] w fun e w'=>∃ v',e=.returned (.tuple #[v',.int .i64 31])∧Below w.heap.size w w') from (below_any w h (-1)).mono fun e w' hh=>by
  obtain ⟨v',h1,_,h3⟩:=hh
  have hb:belowR t (-1)=([],31):=by
   unfold belowR
   rw [if_neg]
   simp [Fm.has]
  rw [hb] at h1
  exact ⟨v',h1,h3⟩
 clear h
 go_enter Tryz.func101,Tryz.ntmps101
 go_wp2_with fail
 refine K.out.mono ?_
 rintro e w1 ⟨v',rfl,hb⟩
 have HB:=show Hid _ from hb
 clear hb K
 go_wp2_with fail
 go_ret
 exact ⟨rfl,HB.out⟩
theorem results_tmp_cell {P:Program} {fn:Func} {p t2:Tmp} {ty:TypeId} (h:fn.results=#[.tmp t2,.cell p ty]) (tmps:Array Value) (w:World) (g:Nat) (t:TypeId) (cs:Array Value) (fr:Nat × Nat) (d:TypeDesc)
 (hp:tmps.getD p undef=.pointer (some ⟨g,0,none⟩)) (hg:w.heap[g]?=some (.cells cs t fr))
 (hu:P.underlying ty=some d) (hd:(match d with | .struct _ | .array _ _=>true | _=>false)=true) (hi:(P.info? ty).map (·.size)=some cs.size) :
 (results fn tmps).run P w=.ok (.tuple #[tmps.getD t2 undef,.agg cs]) w:=by
 have hp':tmps[p]?.getD undef=.pointer (some ⟨g,0,none⟩):=by simpa using hp
 simp [results,h,hp',asAddr,run_loadVar_row w g t ty cs fr d hg hu hd hi,Result.andThen]
theorem Fl.drew {w:World} {g:Nat} {e l c o:Int} (h:Fl w g e l c o):Fl w.drew g e l c o:=h
theorem after_set4n {w w1:World} {b m g:Nat} {v:Value} {t:List Nd} {e l c o:Int} (h:After w b m v t w1) (hf:Fl w1 g e l c o) (_hft:∀ k,Ft b m v k→k<w.heap.size) (hg:w.heap.size≤g) (x y z u:Value):After w b m v t ((((w1.setCell ⟨g,0,none⟩ x).setCell ⟨g,1,none⟩ y).setCell ⟨g,2,none⟩ z).setCell ⟨g,3,none⟩ u):=by
 obtain ⟨v',t1,t2,t3⟩:=h
 have k2:Kp (fun k=>Ft b m v k∨w.heap.size≤k) w w1:=⟨t3.os,t3.tape,t3.output,t3.size,fun k hk hn=>t3.block k hk fun h=>hn (Or.inl h)⟩
 have k3:=(((k2.setS (g:=g) (Or.inr hg) 0 x).setS (g:=g) (Or.inr hg) 1 y).setS (g:=g) (Or.inr hg) 2 z).setS (g:=g) (Or.inr hg) 3 u
 have hT:Tb ((((w1.setCell ⟨g,0,none⟩ x).setCell ⟨g,1,none⟩ y).setCell ⟨g,2,none⟩ z).setCell ⟨g,3,none⟩ u) b m v' t:=t1.keep fun k hk=>by
  have hne:k≠g:=fun e=>hf.nft t1 (e ▸ hk)
  rw [Below.heap_setCell _ _ _ _ hne,Below.heap_setCell _ _ _ _ hne,Below.heap_setCell _ _ _ _ hne,Below.heap_setCell _ _ _ _ hne]
 generalize (((w1.setCell ⟨g,0,none⟩ x).setCell ⟨g,1,none⟩ y).setCell ⟨g,2,none⟩ z).setCell ⟨g,3,none⟩ u=ws at *
 exact ⟨v',hT,t2,⟨k3.os,k3.tape,k3.output,k3.size,fun k hk hn=>k3.block k hk fun h=>by rcases h with h | h;exact hn h;omega⟩⟩
theorem After.drew {w w1:World} {b m:Nat} {v:Value} {t:List Nd} (h:After w b m v t w1):After w b m v t w1.drew:=by
 obtain ⟨v',t1,t2,t3⟩:=h
 exact ⟨v',t1.drew,t2,t3.drew⟩
theorem fl_new (w:World) (a b c d:Int):Fl (w.alloc (Obj.cells #[.int .i64 a,.int .i64 b,.int .i64 c,.int .i64 d] 52)) w.heap.size a b c d:=heap_alloc_new _ _
theorem read_parse0 {g cap:Nat} {ts:List Tn} (hT:Tb w b m v t) (hK:TsAt w g cap ts) (hz:∀ t ∈ ts,t.s.size≤140737488351232) :
 Calls Tryz.prog 103 #[.pointer (some ⟨b,0,none⟩),.slice (some ⟨g,0,none⟩) ts.length cap,.func (.func 104) #[] #[]] w fun e w'=>e=.returned (wholeV (whole true ts t).1)∧After w b m v (whole true ts t).2 w':=read_parse (cap:=⟨cap,0⟩) w hT hK hz
theorem results_tmp2_cell {P:Program} {fn:Func} {p t2 t3:Tmp} {ty:TypeId} (h:fn.results=#[.tmp t2,.tmp t3,.cell p ty]) (tmps:Array Value) (w:World) (g:Nat) (t:TypeId) (cs:Array Value) (fr:Nat × Nat) (d:TypeDesc)
 (hp:tmps.getD p undef=.pointer (some ⟨g,0,none⟩)) (hg:w.heap[g]?=some (.cells cs t fr))
 (hu:P.underlying ty=some d) (hd:(match d with | .struct _ | .array _ _=>true | _=>false)=true) (hi:(P.info? ty).map (·.size)=some cs.size) :
 (results fn tmps).run P w=.ok (.tuple #[tmps.getD t2 undef,tmps.getD t3 undef,.agg cs]) w:=by
 have hp':tmps[p]?.getD undef=.pointer (some ⟨g,0,none⟩):=by simpa using hp
 simp [results,h,hp',asAddr,run_loadVar_row w g t ty cs fr d hg hu hd hi,Result.andThen]
set_option maxRecDepth 100000 in
set_option maxHeartbeats 2000000 in
theorem take_any {cap:Cp} (hT:Tb w b m v t) (hK:TsAt w g cap ts) (hz:∀ t ∈ ts,t.s.size≤140737488351232) :
 Calls Tryz.prog 110 #[.pointer (some ⟨b,0,none⟩),.slice (some ⟨g,cap.o,none⟩) ts.length cap.c] w fun e w'=>e=.returned (wholeV (whole false ts t).1)∧After w b m v (whole false ts t).2 w':=by
 have KM:=show Hid (∀ w1,Below w.heap.size w w1→Calls Tryz.prog 101 #[.pointer (some ⟨b,0,none⟩)] w1 fun e w'=>e=.returned (.bool true)∧Below w1.heap.size w1 w') from fun w1 hb=>smade_any w1 (hT.later hb)
 have KR:=show Hid (∀ w1,Below w.heap.size w w1→TsAt w1 g cap ts→Calls Tryz.prog 103 #[.pointer (some ⟨b,0,none⟩),.slice (some ⟨g,cap.o,none⟩) ts.length cap.c,.func (.func 152) #[] #[]] w1 fun e w'=>e=.returned (wholeV (whole false ts t).1)∧After w1 b m v (whole false ts t).2 w') from fun w1 hb h=>read_take w1 (hT.later hb) h hz
 have HK:=show Hid (TsAt w g cap ts) from hK
 have HFT:=show Hid (∀ k,Ft b m v k→k<w.heap.size) from hT.foot
 generalize whole false ts t=wh at *
 obtain ⟨⟨h1,h2,h3,h4⟩,h5⟩:=wh
 simp only [wholeV] at *
 clear hT hK hz
 go_enter Tryz.func110,Tryz.ntmps110
 go_wp2_with fail
 have b0:=show Hid (Below w.heap.size w (w.alloc (Obj.cells #[.int .i64 0,.int .i64 0,.int .i64 0,.int .i64 0] 52))) from below_alloc _ _
 refine (KM.out _ b0.out).mono ?_
 rintro e w1 ⟨rfl,hb1⟩
 have X1:=show Hid (Below w.heap.size w w1∧Fl w1 w.heap.size 0 0 0 0∧TsAt w1 g cap ts) from by
  have hB:Below w.heap.size w w1:=b0.out.trans (hb1.mono b0.out.size)
  refine ⟨hB,(hb1.block _ (by simp)).trans (fl_new _ _ _ _ _),?_⟩
  obtain ⟨cur,hh,r⟩:=HK.out
  exact ⟨cur,(hB.block _ (lt_of_block hh)).trans hh,r⟩
 clear hb1 b0 KM
 go_wp2_with fail
 refine (KR.out _ X1.out.1 X1.out.2.2).mono ?_
 rintro e w5 ⟨rfl,ha5⟩
 have X5:=show Hid (After w b m v h5 w5∧Fl w5 w.heap.size 0 0 0 0) from ⟨ha5.from_below X1.out.1,(ha5.kp.block _ X1.out.2.1.lt (fun h=>by have:=HFT.out _ h;omega)).trans X1.out.2.1⟩
 clear ha5 KR X1
 have r0:=X5.out.2.c0;have r1:=X5.out.2.c1;have r2:=X5.out.2.c2;have r3:=X5.out.2.c3;have rf:=X5.out.2.fr
 go_wp2_with fail
 refine bodyPost_ret (results_tmp2_cell rfl _ _ w.heap.size _ _ _ _ rfl (X5.out.2.s4 h3 h4.l h4.c h4.o) Tryz.underlying52 rfl (by kernel_rfl)) rfl ?_
 exact ⟨rfl,after_set4n X5.out.1 X5.out.2 HFT.out (Nat.le_refl _) _ _ _ _⟩
end
end Go.Proofs.YtkmmlimekachbaaGreatDoor
/-
  The call Parse of layer 4. For every text of at most 2^40 bytes, where the tables stand as the program's text lays them.
-/
namespace Go.Proofs.YtkmmlimekachbaaGreatDoor
open Go.RowKit Go.Maps
open Fm (Nd)
open Sx (Tn T Lv)
section
variable (w:World) {b m:Nat} {v:Value} {t:List Nd}
set_option maxRecDepth 100000 in
set_option maxHeartbeats 2000000 in
theorem parse_any (hT:Tb w b m v t) (s:ByteArray) (hs:s.size≤1099511627776) (hL:Tw.Laid w) :
 Calls Tryz.prog 49 #[.pointer (some ⟨b,0,none⟩),.string s] w fun e w'=>e=.returned (parseV (parseR s.data.toList t).1)∧After w b m v (parseR s.data.toList t).2 w':=by
 have KM:=show Hid (∀ w1,Below w.heap.size w w1→Calls Tryz.prog 101 #[.pointer (some ⟨b,0,none⟩)] w1 fun e w'=>e=.returned (.bool true)∧Below w1.heap.size w1 w') from fun w1 hb=>smade_any w1 (hT.later hb)
 have KT:=show Hid (∀ w1,Below w.heap.size w w1→Calls Tryz.prog 99 #[.string s] w1 fun e w'=>IsToks w1 s.data.toList e w') from fun w1 hb=>tokens_any w1 s hs (hL.later hb)
 have KO:=show Hid (∀ (w1:World) (g cap:Nat),TsAt w1 g cap (toks s.data.toList)→Calls Tryz.prog 102 #[.slice (some ⟨g,0,none⟩) (toks s.data.toList).length cap] w1 fun e w'=>TooMany w1 (toks s.data.toList) e w') from fun w1 g cap h=>tooMany_any w1 h
 have KR:=show Hid (∀ (w1:World) (g cap:Nat),Below w.heap.size w w1→TsAt w1 g cap (toks s.data.toList)→Calls Tryz.prog 103 #[.pointer (some ⟨b,0,none⟩),.slice (some ⟨g,0,none⟩) (toks s.data.toList).length cap,.func (.func 104) #[] #[]] w1 fun e w'=>e=.returned (wholeV (whole true (toks s.data.toList) t).1)∧After w1 b m v (whole true (toks s.data.toList) t).2 w') from fun w1 g cap hb h=>read_parse0 w1 (hT.later hb) h fun x hx=>by have:=(toks_ok s.data.toList).2.2 x hx;omega
 have HP:=show Hid (parseR s.data.toList t=match over (toks s.data.toList) 0 with | some x=>((0,40,x),t) | none=>(((whole true (toks s.data.toList) t).1.1,(whole true (toks s.data.toList) t).1.2.2.1,(whole true (toks s.data.toList) t).1.2.2.2),(whole true (toks s.data.toList) t).2)) from rfl
 have HT:=show Hid (∀ w1,Below w.heap.size w w1→After w b m v t w1) from fun w1 hb=>After.of_below hT hb
 have HFT:=show Hid (∀ k,Ft b m v k→k<w.heap.size) from hT.foot
 unfold IsToks TooMany at *
 generalize whole true (toks s.data.toList) t=wh at *
 generalize parseR s.data.toList t=pr at *
 generalize over (toks s.data.toList) 0=ov at *
 generalize toks s.data.toList=ts at *
 obtain ⟨⟨h1,h2,h3,h4⟩,h5⟩:=wh
 simp only [wholeV] at *
 clear hT hs hL
 go_enter Tryz.func49,Tryz.ntmps49
 go_wp2_with fail
 have b0:=show Hid (Below w.heap.size w (w.alloc (Obj.cells #[.int .i64 0,.int .i64 0,.int .i64 0,.int .i64 0] 52))) from below_alloc _ _
 refine (KM.out _ b0.out).mono ?_
 rintro e w1 ⟨rfl,hb1⟩
 have X1:=show Hid (Below w.heap.size w w1∧Fl w1 w.heap.size 0 0 0 0) from ⟨b0.out.trans (hb1.mono b0.out.size),(hb1.block _ (by simp)).trans (fl_new _ _ _ _ _)⟩
 clear hb1 b0 KM
 go_wp2_with fail
 refine (KT.out _ X1.out.1).mono ?_
 rintro e w2 ⟨g,cap,rfl,hg,hts,hb2⟩
 have X2:=show Hid (Below w.heap.size w w2∧Fl w2 w.heap.size 0 0 0 0∧TsAt w2 g cap ts) from ⟨X1.out.1.trans (hb2.mono X1.out.1.size),(hb2.block _ X1.out.2.lt).trans X1.out.2,hts⟩
 clear hb2 hg hts X1 KT
 go_wp2_with fail
 refine (KO.out _ _ _ X2.out.2.2).mono ?_
 rintro e w3 ⟨he,hb3⟩
 have X3:=show Hid (Below w.heap.size w w3∧Fl w3 w.heap.size 0 0 0 0∧TsAt w3 g cap ts) from ⟨X2.out.1.trans (hb3.mono X2.out.1.size),(hb3.block _ X2.out.2.1.lt).trans X2.out.2.1,by
  obtain ⟨cur,hh,r⟩:=X2.out.2.2
  exact ⟨cur,(hb3.block _ (lt_of_block hh)).trans hh,r⟩⟩
 clear hb3 X2 KO
 cases ov with
 | some x =>
  simp only at he
  subst he
  have hpr:=HP.out
  simp only at hpr
  subst hpr
  clear HP KR
  have q0:=X3.out.2.1.c0;have q1:=X3.out.2.1.c1;have q2:=X3.out.2.1.c2;have q3:=X3.out.2.1.c3;have qf:=X3.out.2.1.fr
  have hlt:=X3.out.2.1.lt
  have hne:¬ w3.heap.size=w.heap.size:=by omega
  have hne2:¬ w.heap.size=w3.heap.size:=by omega
  obtain ⟨w4,hw4⟩:∃ w4,w4=w3.alloc (Obj.cells #[.int .i64 x.l,.int .i64 x.c,.int .i64 x.o] 50):=⟨_,rfl⟩
  have hb4:Below w3.heap.size w3 w4:=by rw [hw4];exact below_alloc _ _
  have hs4:Sp w4 w3.heap.size x.l x.c x.o:=by rw [hw4];exact heap_alloc_new _ _
  have X4:=show Hid (Below w.heap.size w w4∧Fl w4 w.heap.size 0 0 0 0) from ⟨X3.out.1.trans (hb4.mono X3.out.1.size),(hb4.block _ X3.out.2.1.lt).trans X3.out.2.1⟩
  have r0:=X4.out.2.c0;have r1:=X4.out.2.c1;have r2:=X4.out.2.c2;have r3:=X4.out.2.c3;have rf:=X4.out.2.fr
  have s0:=hs4.c0;have s1:=hs4.c1;have s2:=hs4.c2
  go_wp2_with fail
  rw [← hw4]
  clear hw4 hb4 hs4 X3 q0 q1 q2 q3 qf
  go_region
  go_wp2_with fail
  refine bodyPost_ret (results_tmp_cell rfl _ _ w.heap.size _ _ _ _ rfl (Fl.drew (X4.out.2.s4 40 x.l x.c x.o)) Tryz.underlying52 rfl (by kernel_rfl)) rfl ?_
  exact ⟨rfl,HT.out _ ((((X4.out.1.setCell (Nat.le_refl _) _).setCell (Nat.le_refl _) _).setCell (Nat.le_refl _) _).setCell (Nat.le_refl _) _).drew⟩
 | none =>
  simp only at he
  subst he
  have hpr:=HP.out
  simp only at hpr
  subst hpr
  clear HP
  go_wp2_with fail
  have hb4:Below w3.heap.size w3 (w3.alloc (Obj.cells #[.int .i64 0,.int .i64 0,.int .i64 0] 50)):=below_alloc _ _
  have X4:=show Hid (Below w.heap.size w (w3.alloc (Obj.cells #[.int .i64 0,.int .i64 0,.int .i64 0] 50))∧Fl (w3.alloc (Obj.cells #[.int .i64 0,.int .i64 0,.int .i64 0] 50)) w.heap.size 0 0 0 0∧TsAt (w3.alloc (Obj.cells #[.int .i64 0,.int .i64 0,.int .i64 0] 50)) g cap ts) from ⟨X3.out.1.trans (hb4.mono X3.out.1.size),(hb4.block _ X3.out.2.1.lt).trans X3.out.2.1,by
   obtain ⟨cur,hh,r⟩:=X3.out.2.2
   exact ⟨cur,(hb4.block _ (lt_of_block hh)).trans hh,r⟩⟩
  clear hb4 X3
  refine (KR.out _ _ _ X4.out.1 X4.out.2.2).mono ?_
  rintro e w5 ⟨rfl,ha5⟩
  have X5:=show Hid (After w b m v h5 w5∧Fl w5 w.heap.size 0 0 0 0) from ⟨ha5.from_below X4.out.1,(ha5.kp.block _ X4.out.2.1.lt (fun h=>by have:=HFT.out _ h;omega)).trans X4.out.2.1⟩
  clear ha5 KR X4
  obtain ⟨w6,hw6⟩:∃ w6,w6=w5.alloc (Obj.cells #[.int .i64 h3,.int .i64 h4.l,.int .i64 h4.c,.int .i64 h4.o] 52):=⟨_,rfl⟩
  have hb6:Below w5.heap.size w5 w6:=by rw [hw6];exact below_alloc _ _
  have hs6:Fl w6 w5.heap.size h3 h4.l h4.c h4.o:=by rw [hw6];exact heap_alloc_new _ _
  have hne:¬ w5.heap.size=w.heap.size:=by have:=X5.out.2.lt;omega
  have hne2:¬ w.heap.size=w5.heap.size:=fun e=>hne e.symm
  have X6:=show Hid (After w b m v h5 w6∧Fl w6 w.heap.size 0 0 0 0) from ⟨by
   obtain ⟨v',t1,t2,t3⟩:=X5.out.1
   exact ⟨v',t1.later hb6,t2,t3.trans (Kp.of_below (S:=fun _=>False) hb6) (fun _ h=>h.elim)⟩,(hb6.block _ X5.out.2.lt).trans X5.out.2⟩
  have r0:=X6.out.2.c0;have r1:=X6.out.2.c1;have r2:=X6.out.2.c2;have r3:=X6.out.2.c3;have rf:=X6.out.2.fr
  have s0:=hs6.c0;have s1:=hs6.c1;have s2:=hs6.c2;have s3:=hs6.c3
  go_wp2_with fail
  rw [← hw6]
  clear hw6 hb6 hs6 X5
  go_region
  go_wp2_with fail
  refine bodyPost_ret (results_tmp_cell rfl _ _ w.heap.size _ _ _ _ rfl (Fl.drew (X6.out.2.s4 h3 h4.l h4.c h4.o)) Tryz.underlying52 rfl (by kernel_rfl)) rfl ?_
  exact ⟨rfl,(after_set4n X6.out.1 X6.out.2 HFT.out (Nat.le_refl _) _ _ _ _).drew⟩
end
end Go.Proofs.YtkmmlimekachbaaGreatDoor
