import Derived.Test.YtkpbpecikibohaaGreatDoorZG8
import Derived.Test.YtkpbpecikibohaaGreatDoorZG4
set_option linter.unusedSimpArgs false
set_option maxRecDepth 100000
set_option maxHeartbeats 4000000
namespace Go.Proofs.YtkpbpecikibohaaGreatDoor
open Go.RowKit Go.Shelf Go.Maps
open Fm (Nd)
open Bt.Bs (Ok wd)
attribute [local go_sem] Oper.semAt_some
theorem BA {F:Fence} {n:Nat} {P:Program} {α:Type} {g:Operand} {ps:Array Tmp} {assign body:Code} {Q:Exit->Act->World->Prop} {a:Act} {w:World}
 (hro:F.round=none) (h1:1<=n) {gf:Nat} {lb:Array Value} (hg:a.eval g=.func (.func gf) #[] lb) (hFg:F.fn gf) (eg:∀ args w,(callFunc gf args).run P w=.ok (.enter gf args) w)
 {encs:α->Array Value} {B N':Nat} {S Sp:List α->Prop} {N:Nat} {w0:World} (hseq:SeqStopsK F (n - 1) P gf lb encs (KQ B N') S Sp N w0)
 (hq:N'<=w.heap.size) (hb0:Below w0.heap.size w0 w) (hps:∀ x,(encs x).size=ps.size)
 (I:List α->World->Prop) (Ix:Code->List α->World->Prop) (hI:OwnFrom w.heap.size I) (hIx:∀ c,OwnFrom w.heap.size (Ix c)) (h0:I [] w)
 (hab:∃ a₁:α->Act,(∀ (l:Nat) (x:α) (W:World) (K:Act->World->Prop),K (a₁ x) W ->
  assign.wpIn (F.inRound l) (n - 1 - 1) P (Exit.then K (fun _ _ _=>False)) { tmps:=(ps.zip (encs x)).foldl (fun t (p,v)=>t.setIfInBounds p v) a.tmps,defers:=[] } W) /\
  (∀ (l:Nat) (pre:List α) (x:α) (W:World),I pre W->pre.length<N->body.wpIn (F.inRound l) (n - 1 - 1) P (ownPostG w.heap.size (KQ B N') I Ix (pre ++ [x]) W) (a₁ x) W))
 (hdone:∀ (D:Nat) (xs:List α) (W:World),w.heap.size<=D->S xs->I xs W->W.heap[D]?=some (.deferred (some []))->Q .normal { a with defers:={ target:=.collected D,args:=#[] } :: a.defers } W)
 (hstop:∀ (D:Nat) (c:Code) (pre:List α) (W:World),w.heap.size<=D->Sp pre->Ix c pre W->W.heap[D]?=some (.deferred (some []))->c.wpIn F n P Q { a with defers:={ target:=.collected D,args:=#[] } :: a.defers } W) :
 (Code.rangeFunc g ps assign body).wpIn F n P Q a w:=by
 obtain⟨a₁,ha,hb⟩:=hab
 exact wpIn_rangeFunc_ownG hro h1 hg hFg eg hseq ZJ (ZK hq) hb0 hps I Ix hI hIx h0 a₁ ha hb hdone hstop
structure AP (w W:World) (b3 b4 b5 b6:Nat) (r:List Nat) (g x y e:Int):Prop where
 s:bM W b3 r g
 x4:Boxed W b4 92 (.int .i64 x)
 x5:Boxed W b5 3 (.int .i64 y)
 x6:Boxed W b6 33 (.int .i64 e)
 av:Below w.heap.size w W
theorem AP.later {w W W':World} {b3 b4 b5 b6:Nat} {r:List Nat} {g x y e:Int} (h:AP w W b3 b4 b5 b6 r g x y e) (hb:Below W.heap.size W W'):AP w W' b3 b4 b5 b6 r g x y e :=
 ⟨h.s.later hb h.s.lt,eX h.x4 hb h.x4.lt,eX h.x5 hb h.x5.lt,eX h.x6 hb h.x6.lt,h.av.trans (hb.mono h.av.size)⟩
structure Qu (w:World) (b3 b4 b5 b6:Nat):Prop where
 g3:w.heap.size<=b3
 g4:b3<b4
 g5:b4<b5
 g6:b5<b6
theorem Aq {w:World} {b p:Nat} {r:List Nat} {g:Int} {v:Value} (h:bM w b r g) (hne:b≠p):bM (w.setCell ⟨p,0,none⟩ v) b r g:=(Below.heap_setCell w ⟨p,0,none⟩ v b hne).trans h
theorem AP.set {w W:World} {b3 b4 b5 b6:Nat} {r:List Nat} {g x y e:Int} (h:AP w W b3 b4 b5 b6 r g x y e) (hn:Qu w b3 b4 b5 b6) (x' y' e':Int):AP w (((W.setCell ⟨b4,0,none⟩ (.int .i64 x')).setCell ⟨b5,0,none⟩ (.int .i64 y')).setCell ⟨b6,0,none⟩ (.int .i64 e')) b3 b4 b5 b6 r g x' y' e':=by
 have:=hn.g3;have:=hn.g4;have:=hn.g5;have:=hn.g6
 exact⟨Aq (Aq (Aq h.s (by omega)) (by omega)) (by omega),((h.x4.set _).other (by omega) _).other (by omega) _,((h.x5.other (by omega) _).set _).other (by omega) _,((h.x6.other (by omega) _).other (by omega) _).set _,
  ((h.av.setCell (p:=⟨b4,0,none⟩) (by show _<=b4;omega) _).setCell (p:=⟨b5,0,none⟩) (by show _<=b5;omega) _).setCell (p:=⟨b6,0,none⟩) (by show _<=b6;omega) _⟩
theorem MS {β:Type} (w:World) {b3 b4 b5 b6:Nat} (_hn:Qu w b3 b4 b5 b6) (r:List Nat) (g:Int) (fx fy fe:β->Int) {n:Nat} (hw:w.heap.size<=n):OwnFrom n (fun (s:β) W=>AP w W b3 b4 b5 b6 r g (fx s) (fy s) (fe s)):=fun s W W' row hs hg hr=>by
 have h1:=Own.from (boxed_own (β:=β) b4 92 (fun s=>Value.int .i64 (fx s))) n s W W' row hs.x4 hg hr
 have h2:=Own.from (boxed_own (β:=β) b5 3 (fun s=>Value.int .i64 (fy s))) n s W W' row hs.x5 hg hr
 have h3:=Own.from (boxed_own (β:=β) b6 33 (fun s=>Value.int .i64 (fe s))) n s W W' row hs.x6 hg hr
 have h4:=ownFrom_below (β:=β) (n₀:=w.heap.size) (B:=n) (w₀:=w) (Nat.le_refl _) hw s W W' row hs.av hg hr
 refine⟨?_,h1,h2,h3,h4⟩
 refine(hg.block b3 hs.s.lt (fun e => ?_)).trans hs.s
 obtain⟨_,o,ho,hc⟩:=hr b3 e.symm
 rw[show W.heap[b3]?=_ from hs.s] at ho
 cases ho
 cases hc
theorem zG {fn:Func} {p4 p5 p6:Tmp} (h:fn.results=#[.cell p4 92,.cell p5 3,.cell p6 33]) (tmps:Array Value) (w:World) {b4 b5 b6:Nat} {x y e:Int} (h4:tmps[p4]?=some (.pointer (some ⟨b4,0,none⟩))) (h5:tmps[p5]?=some (.pointer (some ⟨b5,0,none⟩))) (h6:tmps[p6]?=some (.pointer (some ⟨b6,0,none⟩)))
 (x4:Boxed w b4 92 (.int .i64 x)) (x5:Boxed w b5 3 (.int .i64 y)) (x6:Boxed w b6 33 (.int .i64 e)):(results fn tmps).run Tryz.prog w=.ok (.tuple #[.int .i64 x,.int .i64 y,.int .i64 e]) w:=by
 have c4:=x4.cell
 have c5:=x5.cell
 have c6:=x6.cell
 have u4:∀ w,(isAgg 92).run Tryz.prog w=.ok false w:=fun w=>by kernel_rfl
 have u5:∀ w,(isAgg 3).run Tryz.prog w=.ok false w:=fun w=>by kernel_rfl
 have u6:∀ w,(isAgg 33).run Tryz.prog w=.ok false w:=fun w=>by kernel_rfl
 simp[results,h,h4,h5,h6,asAddr,loadVar,u4,u5,u6,go_sem,c4,c5,c6,Result.andThen]
theorem Qv {w W:World} {tmps:Array Value} {D b3 b4 b5 b6:Nat} {r:List Nat} {g x y e:Int} (h4:tmps[4]?=some (.pointer (some ⟨b4,0,none⟩))) (h5:tmps[5]?=some (.pointer (some ⟨b5,0,none⟩))) (h6:tmps[6]?=some (.pointer (some ⟨b6,0,none⟩))) (h:AP w W b3 b4 b5 b6 r g x y e) (hn:Qu w b3 b4 b5 b6) (hK:W.heap[D]?=some (.deferred (some []))) (hD:b6<D) :
 LeavesInM Fence.wide 5 Tryz.prog Tryz.f32 tmps (fun e' w'=>e'=.returned (.tuple #[.int .i64 x,.int .i64 y,.int .i64 e])/\Below w.heap.size w w') [{ target:=.collected D,args:=#[] }] .returning W:=by
 have hl:=(Array.getElem?_eq_some_iff.1 hK).1
 have:=hn.g3;have:=hn.g4;have:=hn.g5;have:=hn.g6
 refine⟨by simp,.inl ⟨_,_,rfl,run_takeDeferred hK,?_⟩⟩
 refine⟨_,zG rfl tmps _ h4 h5 h6 ((World.putObj_heap_other (by omega)).trans h.x4) ((World.putObj_heap_other (by omega)).trans h.x5) ((World.putObj_heap_other (by omega)).trans h.x6),rfl,Bv h.av (by omega) hl _⟩
def aZ (t:List Nd) (r:List Nat) (g:Int):Int × Int:=((tl1 r g (cZ t r g) iH).head?).getD (14,0)
theorem Es {t:List Nd} (hO:Fm.Ok t) {r:List Nat} (hr:Ok r) {g:Int} (h:Fm.has t g=true):cZ t r g≠[]:=by
 have hh:=Fm.dJ.1 h
 have hl:=hO.len
 obtain⟨m,rfl⟩:∃ m:Nat,g=m:=⟨g.toNat,by omega⟩
 have hm:m<1024:=by omega
 intro e
 unfold cZ at e
 have e2:=List.map_eq_nil_iff.1 e
 unfold rO Bt.Bs.nums at e2
 have:=List.filter_eq_nil_iff.1 e2 m (List.mem_range.2 hm)
 apply this
 simp only[aD]
 rw[Bt.kH r hm,Bt.Bs.j5 hr hm]
 simp
theorem yC (t:List Nd) (r:List Nat) (g:Int):(cZ t r g).length<=2000:=by
 unfold cZ rO Bt.Bs.nums
 have:=List.length_filter_le (Bt.Bs.has (aD r [g])) (List.range 1024)
 rw[List.length_range] at this
 rw[List.length_map]
 omega
theorem G9 {t:List Nd} {r:List Nat} {g:Int} (h:eP t r g=0):Fm.has t g=true:=by
 unfold eP at h
 split at h
 ·cases h
 ·split at h
  ·assumption
  ·cases h
attribute [local go_sem] Oper.semAt_some
theorem Py (w:World):(zeroValue 92).run Tryz.prog w=.ok (.int .i64 0) w:=by kernel_rfl
theorem Sr (w:World):(zeroValue 3).run Tryz.prog w=.ok (.int .i64 0) w:=by kernel_rfl
theorem Sv (w:World):(zeroValue 33).run Tryz.prog w=.ok (.int .i64 0) w:=by kernel_rfl
def AX (w W:World) (b3 b4 b5 b6:Nat) (r:List Nat) (g:Int) (c:Code) (pre:List (Int × Int)):Prop:=c=.ret/\∃ x,pre=[x]/\AP w W b3 b4 b5 b6 r g x.1 x.2 0
theorem wF (w0:World) {b m:Nat} {v:Value} {t:List Nd} (hT:Tb w0 b m v t) (hZ:Bt.Tz w0) {r:List Nat} (hr:Ok r) (g:Int) :
 Calls Tryz.prog 32 #[.pointer (some ⟨b,0,none⟩),.agg (au r g)] w0 fun e w'=>e=.returned (.tuple #[.int .i64 (if eP t r g=0 then (aZ t r g).1 else 0),.int .i64 (if eP t r g=0 then (aZ t r g).2 else 0),.int .i64 (eP t r g)])/\Below w0.heap.size w0 w':=by
 have hl:=hr.1
 have HT:=show Hid (∀ W:World,Below w0.heap.size w0 W->Tb W b m v t/\Bt.Tz W) from fun W h=>⟨hT.later h,Bt.iY hZ h⟩
 have HO:=show Hid (eP t r g=0->cZ t r g≠[]) from fun h=>Es hT.ok hr (G9 h)
 have pJ:=show Hid (aZ t r g=((tl1 r g (cZ t r g) iH).head?).getD (14,0)) from rfl
 clear hT hZ
 obtain⟨rq,hrq⟩:∃ q,q=eP t r g:=⟨_,rfl⟩
 have MG:=show Hid (eP t r g=rq) from hrq.symm
 rw[<- hrq] at HO |-
 clear hrq
 generalize aZ t r g=af at *
 refine(callsIn_wide (n:=5)).1 ?_
 refine callsIn_of_wp_marks Tryz.func32 rfl trivial ?_ rfl
 simp only[Tryz.ntmps32,List.size_toArray,List.length_cons,List.length_nil,Nat.reduceAdd,Nat.reduceSub,Array.replicate_succ,Array.replicate_zero,List.push_toArray,List.append_toArray,List.nil_append,List.cons_append]
 refine wpIn_wide.2 ?_
 go_wp2_with (refine aC 53 _ rfl _ rfl rfl ?_)
 intro w1 b3 hn1
 go_wp2_with (refine fO 92 rfl _ Py rfl rfl ?_)
 intro w2 b4 hn2
 go_wp2_with (refine fO 3 rfl _ Sr rfl rfl ?_)
 intro w3 b5 aL
 go_wp2_with (refine fO 33 rfl _ Sv rfl rfl ?_)
 intro w4 b6 fV
 have H4:=show Hid (AP w0 w4 b3 b4 b5 b6 r g 0 0 0) from
  ⟨((Cl.new (Cl.new hn1.blk hn2) aL).new fV),(Cl.new (Cl.new hn2.blk aL) fV),Cl.new aL.blk fV,fV.blk,cO (cO (cO hn1.av hn2) aL) fV⟩
 have HN:=show Hid (Qu w0 b3 b4 b5 b6) from(by
  have e1:=hn1.ge;have e2:=hn1.up;have e3:=hn2.ge;have e4:=hn2.up;have e5:=aL.ge;have e6:=aL.up;have e7:=fV.ge
  exact⟨e1,by omega,by omega,by omega⟩)
 clear hn1 hn2 aL fV
 have KR:=show Hid _ from xJ w4 (HT.out w4 H4.out.av).1 (HT.out w4 H4.out.av).2 hr g
 rw[MG.out] at KR
 go_wp2_with (refine dU _ _ rfl b3 rfl H4.out.s hl rfl ?_)
 refine Calls.mono KR.out ?_
 rintro e w5 ⟨rfl,hb5⟩
 have H5:=show Hid _ from H4.out.later hb5
 clear H4 hb5 KR
 by_cases hz:rq=0
 ·subst hz
  simp only[if_true]
  have KW:=show Hid _ from sU w5 b hr g
  clear MG
  go_wp2_with (refine dU _ _ rfl b3 rfl H5.out.s hl rfl ?_)
  refine Calls.mono KW.out ?_
  rintro e w6 ⟨k,T,wb,L,rfl,MU,pO,hb6⟩
  have H6:=show Hid (AP w0 w6 b3 b4 b5 b6 r g 0 0 0/\Made w6 k b T wb r g L) from⟨H5.out.later hb6,MU⟩
  clear H5 hb6 MU KW
  have KU:=show Hid _ from Pn w6
  go_wp2_with fail
  refine Calls.mono KU.out ?_
  rintro e w7 ⟨q,tv,rfl,htr,j4⟩
  have H7:=show Hid (AP w0 w7 b3 b4 b5 b6 r g 0 0 0/\Made w7 k b T wb r g L) from⟨H6.out.1.later j4,H6.out.2.later j4⟩
  have KF:=show Hid _ from xL w7 (HT.out w7 H7.out.1.av).1 (HT.out w7 H7.out.1.av).2 H7.out.2 hr (HO.out (by trivial)) htr
  clear H6 j4 KU htr pO
  go_wp2_with fail
  refine Calls.mono KF.out ?_
  rintro e w8 ⟨bt,bw,bm,qm,cm,rfl,Et,vk⟩
  have H8:=show Hid (AP w0 w8 b3 b4 b5 b6 r g 0 0 0/\FQ w8 w6.heap.size w8.heap.size bt bw bm q qm cm k b T wb r g L iH (cZ t r g)) from⟨H7.out.1.later vk,Et,Et.tr.fn⟩
  clear H7 Et vk KF
  go_wp2_with fail
  refine(wpIn_wide (n:=5)).1 ?_
  refine BA rfl (by omega) (gf:=95) (lb:=#[.pointer (some ⟨bt,0,none⟩),.pointer (some ⟨bw,0,none⟩),.pointer (some ⟨bm,0,none⟩)]) rfl trivial (enters_of Tryz.func95 (by kernel_rfl) rfl) (Bz (5 - 1) (by omega) hr (by decide) (yC t r g) w8 H8.out.2) (Nat.le_refl _) (Below.refl _ _) (fun _=>rfl)
   (fun pre W=>pre=[]/\AP w0 W b3 b4 b5 b6 r g 0 0 0) (fun c pre W=>AX w0 W b3 b4 b5 b6 r g c pre)
   (OwnFrom.and (ownFrom_pure _ (fun pre:List (Int × Int)=>pre=[])) (MS w0 HN.out r g (fun _=>0) (fun _=>0) (fun _=>0) H8.out.1.av.size))
   (fun c s W W' row hs hg hr'=>by
    obtain⟨h1,x,h2,h3⟩:=hs
    exact⟨h1,x,h2,MS (β:=Unit) w0 HN.out r g (fun _=>x.1) (fun _=>x.2) (fun _=>0) H8.out.1.av.size () W W' row h3 hg hr'⟩)
   ⟨rfl,H8.out.1⟩ ?ab ?done ?stop
  case ab=>
   apply Exists.intro
   refine⟨?assign,?body⟩
   case assign=>
    intro l x W K hK
    gi_wp2
    exact hK
   case body=>
    rintro l pre x W ⟨rfl,hap⟩ hlt
    have c4:=hap.x4.cell;have f4:=hap.x4.frozen
    have hne:=HN.out
    have c5:=(hap.x5.other (show b5≠b4 by have:=hne.g5;omega) (.int .i64 x.1)).cell
    have f5:=(hap.x5.other (show b5≠b4 by have:=hne.g5;omega) (.int .i64 x.1)).frozen
    have c6:=((hap.x6.other (show b6≠b4 by have:=hne.g5;have:=hne.g6;omega) (.int .i64 x.1)).other (show b6≠b5 by have:=hne.g6;omega) (.int .i64 x.2)).cell
    have f6:=((hap.x6.other (show b6≠b4 by have:=hne.g5;have:=hne.g6;omega) (.int .i64 x.1)).other (show b6≠b5 by have:=hne.g6;omega) (.int .i64 x.2)).frozen
    have VT:=show Hid (AP w0 W b3 b4 b5 b6 r g 0 0 0) from hap
    clear hap hlt hne
    gi_wp2
    exact⟨(((KeepsOthers.setCell _ _ _).trans (KeepsOthers.setCell _ _ _)).trans (KeepsOthers.setCell _ _ _)).from _,rfl,x,rfl,VT.out.set HN.out x.1 x.2 0⟩
  case done=>
   rintro D ys W hD rfl ⟨hys,hap⟩ hK
   have VU:b6<D:=by have:=H8.out.1.x6.lt;omega
   have Gf:af=(14,0):=by rw[pJ.out,hys];rfl
   subst Gf
   have c4:=hap.x4.cell;have f4:=hap.x4.frozen
   have hne:=HN.out
   have c5:=(hap.x5.other (show b5≠b4 by have:=hne.g5;omega) (.int .i64 14)).cell
   have f5:=(hap.x5.other (show b5≠b4 by have:=hne.g5;omega) (.int .i64 14)).frozen
   have c6:=((hap.x6.other (show b6≠b4 by have:=hne.g5;have:=hne.g6;omega) (.int .i64 14)).other (show b6≠b5 by have:=hne.g6;omega) (.int .i64 0)).cell
   have f6:=((hap.x6.other (show b6≠b4 by have:=hne.g5;have:=hne.g6;omega) (.int .i64 14)).other (show b6≠b5 by have:=hne.g6;omega) (.int .i64 0)).frozen
   have VT:=show Hid (AP w0 W b3 b4 b5 b6 r g 0 0 0) from hap
   clear hap hys pJ hne
   go_wp2_with fail
   have hs:=VT.out.set HN.out 14 0 0
   have hnn:=HN.out
   have:=hnn.g4;have:=hnn.g5;have:=hnn.g6
   exact Qv rfl rfl rfl hs hnn ((Below.heap_setCell _ _ _ D (by show D≠b6;omega)).trans ((Below.heap_setCell _ _ _ D (by show D≠b5;omega)).trans ((Below.heap_setCell _ _ _ D (by show D≠b4;omega)).trans hK))) VU
  case stop=>
   rintro D c pre W hD hpre ⟨rfl,x,rfl,hap⟩ hK
   have VU:b6<D:=by have:=H8.out.1.x6.lt;omega
   have Gf:af=x:=by
    rw[pJ.out]
    obtain⟨u,hu⟩:=hpre
    rw[<- hu]
    rfl
   subst Gf
   gi_wp2
   exact Qv rfl rfl rfl hap HN.out hK VU
 ·have hzb:(rq != 0)=true:=by simpa using hz
  have HZ:=show Hid (¬ rq=0) from hz
  have c4:=H5.out.x4.cell;have f4:=H5.out.x4.frozen
  have hne:=HN.out
  have c5:=(H5.out.x5.other (show b5≠b4 by have:=hne.g5;omega) (.int .i64 0)).cell
  have f5:=(H5.out.x5.other (show b5≠b4 by have:=hne.g5;omega) (.int .i64 0)).frozen
  have c6:=((H5.out.x6.other (show b6≠b4 by have:=hne.g5;have:=hne.g6;omega) (.int .i64 0)).other (show b6≠b5 by have:=hne.g6;omega) (.int .i64 0)).cell
  have f6:=((H5.out.x6.other (show b6≠b4 by have:=hne.g5;have:=hne.g6;omega) (.int .i64 0)).other (show b6≠b5 by have:=hne.g6;omega) (.int .i64 0)).frozen
  clear hne hz
  go_wp2_with fail
  have hs:=H5.out.set HN.out 0 0 rq
  exact⟨_,zG rfl _ _ rfl rfl rfl hs.x4 hs.x5 hs.x6,rfl,hs.av⟩
end Go.Proofs.YtkpbpecikibohaaGreatDoor
