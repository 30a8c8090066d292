/-
  The calls falling, slices.Compare and Less: for every two rows of numbers that a machine can hold. No other condition.
-/
import Derived.Test.YtkmmlimekachbaaGreatDoorMG1
import Derived.Test.YtkmmlimekachbaaGreatDoorPG
import Derived.Test.YtkmmlimekachbaaGreatDoorShelfA6
import Derived.Lib.OwnBridge
import Derived.Maps.OwnIn
import Derived.Sort.OwnSorted
import Derived.Test.YtkmmlimekachbaaGreatDoorFG3
import Derived.Deep.AppendSrc
namespace Go.Proofs.YtkmmlimekachbaaGreatDoor
open Go.RowKit Go.Maps Go.Sort Go.Lib
open Fm (Nd)
def cfD (x y:Int):Int:=Lib.compareInt y x
theorem ltD (x y:Int):ltOf cfD x y=decide (y<x):=by
 unfold ltOf cfD Lib.compareInt
 by_cases h1:y<x
 ·simp [h1]
 ·by_cases h2:x<y <;> simp [h1,h2]
theorem swoD:SWO (ltOf cfD) where
 irrefl x:=by rw [ltD];simp
 trans x y z h1 h2:=by rw [ltD] at *;simp at *;omega
 ntrans x y z h1 h2:=by rw [ltD] at *;simp at *;omega
theorem totD (x y:Int) (h1:ltOf cfD x y=false) (h2:ltOf cfD y x=false):x=y:=by rw [ltD] at *;simp at *;omega
theorem geD:(fun x y:Int => !ltOf cfD y x)=fun x y=>decide (y≤x):=by
 funext x y
 rw [ltD,Bool.eq_iff_iff]
 simp
set_option maxHeartbeats 1000000 in
theorem cmp_falling (x y:Int) (w:World):Calls Tryz.prog 137 #[.int .i64 x,.int .i64 y] w fun e w'=>e=.returned (.int .i64 (cfD x y))∧∃ q,w'=w.drewN q:=by
 have K:=show Hid (Calls Tryz.prog 96 #[.int .i64 y,.int .i64 x] w fun e w'=>e=.returned (.int .i64 (cfD x y))∧w'=w) from Tryz.cmp_Compare_int y x w
 generalize cfD x y=r at *
 go_enter Tryz.func137,Tryz.ntmps137
 go_wp2_with fail
 refine K.out.mono ?_
 rintro e w' ⟨rfl,rfl⟩
 go_wp2_with fail
 go_ret
 exact ⟨rfl,0,rfl⟩
theorem grown_sort {α:Type} [Inhabited α] (enc:α→Value) (w:World) (g n:Nat) (d:Array α) (os:Array Obj):w.grownBy (sortWorld enc w g 0 n d os) (some g):=by
 unfold sortWorld
 refine ⟨rfl,rfl,rfl,by simp,fun k hk hne => ?_⟩
 have hkg:g≠k:=fun e=>hne (by rw [e])
 rw [heap_grow_old _ _ (by simpa using hk)]
 simp [putRow,mapBlock,Sort.ahead,Array.getElem?_modify,hkg]
theorem isL_own {w:World} {B:Nat} {v:Value} {n:Nat} {l:List Int} (h:w.ownsRow B 3 1 v n (l.map (Value.int .i64))) (hn:n≤9223372036854775807):IsL w v l:=by
 have hl:l.length=n:=by simpa using h.1
 subst hl
 rcases h.2 with ⟨rfl,h0⟩ | ⟨g,cap,cur,rfl,hg,hh,h1,h2,h3,h4⟩
 ·obtain rfl:l=[]:=by simpa using h0
  exact ⟨_,_,rfl,hn,fun k hk=>by simp at hk⟩
 ·refine ⟨_,_,rfl,hn,fun k hk=>⟨g,0,rfl,?_⟩⟩
  rw [cell_of_row w g _ cur _ _ hh,Nat.zero_add,← Array.getElem?_toList]
  have e1:(cur.toList.take (l.length * 1))[k]?=(l.map (Value.int .i64))[k]?:=by rw [h4]
  rw [List.getElem?_take,if_pos (by omega),List.getElem?_map,List.getElem?_eq_getElem hk] at e1
  exact e1
theorem isL_sort {w:World} {g cap n:Nat} {os:Array Obj} {l:List Int} (hH:Holds (Value.int .i64) w g 0 l.toArray) (hg:g<w.heap.size) (hn:l.length≤9223372036854775807):IsL (sortWorld (Value.int .i64) w g 0 n (Ms.fall l).toArray os) (.slice (some ⟨g,0,none⟩) l.length cap) (Ms.fall l):=by
 have hs:(Ms.fall l).toArray.size=l.toArray.size:=by simp [Ms.fall_len]
 have h:=holds_sortWorld (Value.int .i64) w g 0 n l.toArray (Ms.fall l).toArray os hg hH hs
 refine ⟨_,_,by rw [Ms.fall_len],by rw [Ms.fall_len];exact hn,fun k hk=>⟨g,0,rfl,?_⟩⟩
 have:=(h k (by simpa using hk)).1
 rw [this]
 simp [getElem!_pos,hk]
def Rows1 (w:World) (l:List Int) (e:Ending) (w':World):Prop:=∃ p c,e=.returned (.slice p l.length c)∧IsL w' (.slice p l.length c) l∧Below w.heap.size w w'
set_option maxRecDepth 100000 in
set_option maxHeartbeats 2000000 in
theorem falling_any (w:World) (v:Value) (l:List Int) (hv:IsL w v l) (hl:l.length * 8≤140737488355328) :
 Calls Tryz.prog 87 #[v] w (Rows1 w (Ms.fall l)):=by
 have hv0:=hv
 obtain ⟨p,c,rfl,hlen,hcell⟩:=hv
 have KC:=show Hid (Calls Tryz.prog 135 #[.slice p l.length c] w fun e w'=>∃ v',e=.returned v'∧w'.ownsRow w.heap.size 3 1 v' l.length (l.map (Value.int .i64))∧Below w.heap.size w w') from by
  cases hp:p with
  | none =>
   have h0:l=[]:=by
    cases l with
    | nil=>rfl
    | cons x r =>
     obtain ⟨b,o,e,_⟩:=hcell 0 (by simp)
     rw [hp] at e
     cases e
   subst h0
   exact (Tryz.slices_Clone_int_nil 0 c w).mono fun e w' ⟨he,hw⟩=>⟨_,he,World.ownsRow_nil _ _ _ _,by rw [hw];exact Below.refl _ _⟩
  | some a =>
   cases l with
   | nil=>exact (Tryz.slices_Clone_int_zero a c w).mono fun e w' ⟨v',he,ho,_,hb⟩=>⟨v',he,ho,hb⟩
   | cons x r =>
    obtain ⟨b,o,e,_⟩:=hcell 0 (by simp)
    rw [hp] at e
    obtain rfl:a=⟨b,o,none⟩:=by cases e;rfl
    have:=Tryz.slices_Clone_int b o (x :: r).length c (x :: r) w (Nat.le_refl _) hl (fun j hj=>by
     obtain ⟨b2,o2,e2,h2⟩:=hcell j hj
     rw [hp] at e2
     cases e2
     rw [h2,List.getD_eq_getElem?_getD,List.getElem?_eq_getElem hj]
     rfl)
    rw [List.take_length] at this
    exact this.mono fun e w' ⟨v',he,ho,_,hb⟩=>⟨v',he,ho,hb⟩
 have KS:=show Hid (∀ w1 v1,w1.ownsRow w.heap.size 3 1 v1 l.length (l.map (Value.int .i64))→Below w.heap.size w w1→∃ p1 c1,v1=.slice p1 l.length c1∧Calls Tryz.prog 136 #[.slice p1 l.length c1,.func (.func 137) #[] #[]] w1 fun e w'=>e=.returned (.tuple #[])∧IsL w' (.slice p1 l.length c1) (Ms.fall l)∧Below w.heap.size w w') from fun w1 v1 ho hb=>by
  by_cases h0:l=[]
  ·subst h0
   have hf:Ms.fall []=[]:=by simp [Ms.fall]
   rw [hf]
   rcases ho.2 with ⟨rfl,_⟩ | ⟨g,cap,cur,rfl,_⟩
   ·exact ⟨_,_,rfl,(Tryz.slices_SortFunc_none (α:=Int) none 0 _ w1).mono fun e w' ⟨he,hw⟩=>⟨he,⟨_,_,rfl,by simp,fun k hk=>by simp at hk⟩,by rw [hw];exact hb⟩⟩
   ·exact ⟨_,_,rfl,(Tryz.slices_SortFunc_none (α:=Int) _ cap _ w1).mono fun e w' ⟨he,hw⟩=>⟨he,⟨_,_,rfl,by simp,fun k hk=>by simp at hk⟩,by rw [hw];exact hb⟩⟩
  ·have hne:v1≠.slice none 0 0:=fun e=>by
    rcases ho.2 with ⟨_,h1⟩ | ⟨g,cap,cur,h1,_⟩
    ·exact h0 (by simpa using h1)
    ·rw [e] at h1;cases h1
   obtain ⟨g,cap,rfl,hg,hlt,_,_,_,hH⟩:=holds_of_ownsRow ho hne
   refine ⟨_,_,rfl,?_⟩
   have eg:∀ args w,(callFunc 137 args).run Tryz.prog w=.ok (.enter 137 args) w:=fun _ _=>Tryz.call137 _ _
   have hcr:CmpReads Tryz.prog 137 #[] (Value.int .i64) cfD g 0 l.toArray.size w1:=fun _ _ _ _ x y=>cmp_falling x y _
   have h:=Tryz.slices_SortFunc_total (Value.int .i64) (fun _=>rfl) cfD swoD 137 #[] g 0 cap l.toArray w1 eg hcr.lays hH hlt (by simp;omega) totD
   rw [geD,List.size_toArray] at h
   refine h.mono fun e w' ⟨he,n,os,hw⟩=>⟨he,?_,?_⟩
   ·rw [hw];exact isL_sort hH hlt hlen
   ·rw [hw];exact hb.grown (grown_sort _ _ _ _ _ _) hb.size (fun j e=>by simp at e;omega)
 clear hv0 hcell
 go_enter Tryz.func87,Tryz.ntmps87
 go_wp2_with fail
 refine KC.out.mono ?_
 rintro e w1 ⟨v1,rfl,ho1,hb1⟩
 obtain ⟨p1,c1,rfl,h1⟩:=KS.out w1 v1 ho1 hb1
 have K1:=show Hid (Calls Tryz.prog 136 #[.slice p1 l.length c1,.func (.func 137) #[] #[]] w1 fun e w'=>e=.returned (.tuple #[])∧IsL w' (.slice p1 l.length c1) (Ms.fall l)∧Below w.heap.size w w') from h1
 clear h1 KS KC ho1 hb1
 go_wp2_with fail
 refine K1.out.mono ?_
 rintro e w2 ⟨rfl,hI,hb2⟩
 have HE:=show Hid (IsL w2 (.slice p1 l.length c1) (Ms.fall l)∧Below w.heap.size w w2) from ⟨hI,hb2⟩
 clear hI hb2 K1
 go_wp2_with fail
 go_ret
 refine ⟨p1,c1,?_,?_,HE.out.2⟩
 ·rw [Ms.fall_len];rfl
 ·rw [Ms.fall_len];exact HE.out.1
end Go.Proofs.YtkmmlimekachbaaGreatDoor
/-
  The calls below, Within and places: how often each row stands in a formula. For every table that calls made.
-/
namespace Go.Proofs.YtkmmlimekachbaaGreatDoor
open Go.RowKit Go.Shelf Go.Maps
open Fm (Nd)
attribute [local go_sem] Oper.semAt_some
section
variable {b m:Nat} {v:Value} {t:List Nd}
end
def Mc (W:World) (M n N:Nat) (c:Ms.C):Prop:=∃ g,Mp W M n g∧∀ j:Nat,j<N→(g (j:Int)).getD (sdV (0,0))=sdV (c j)
theorem Mc.keep {W W':World} {M n N:Nat} {c:Ms.C} (h:Mc W M n N c) (hk:W'.heap[M]?=W.heap[M]?):Mc W' M n N c:=by
 obtain ⟨g,hM,hg⟩:=h
 exact ⟨g,hM.keep hk,hg⟩
theorem Mc.later {W W':World} {M n N:Nat} {c:Ms.C} (h:Mc W M n N c) (hb:Below W.heap.size W W'):Mc W' M n N c:=by
 obtain ⟨g,hM,hg⟩:=h
 exact ⟨g,hM.later hb,hg⟩
theorem in_of {c:Ms.C} (h:Ms.Inr c) (j:Nat):In (c j):=by
 have:=h j
 unfold Ms.M at this
 exact ⟨⟨this.1,this.2.1⟩,this.2.2.1,this.2.2.2⟩
end Go.Proofs.YtkmmlimekachbaaGreatDoor
/-
  What must come at any rate: the chapter's table, its counts, atoms and order. No condition.
-/
namespace Go.Proofs.YtkmmlimekachbaaGreatDoor
open Go.RowKit Go.Maps Go.Sort Go.Lib
open Fm (Nd)
def H0:List Nd:=[⟨1,⟨#[112]⟩,0,0⟩,⟨1,⟨#[113]⟩,0,0⟩,⟨3,⟨#[]⟩,0,1⟩,⟨2,⟨#[]⟩,0,0⟩,⟨5,⟨#[]⟩,2,3⟩,⟨5,⟨#[]⟩,4,0⟩]
end Go.Proofs.YtkmmlimekachbaaGreatDoor
/-
  'append([]int{}, l...)': a row's numbers in a block of their own. For rows of at most 2^47 bytes.
-/
namespace Go.Proofs.YtkmmlimekachbaaGreatDoor
open Go.RowKit Go.Maps
theorem own_sliceI {base:Nat} {w:World} {v:Value} {k:Nat} {xs:List Value} (h:w.ownsRow base 3 1 v k xs):∃ p c,v=.slice p k c:=by
 rcases h.2 with ⟨rfl,h0⟩ | ⟨g,cap,cur,rfl,_⟩
 ·exact ⟨_,_,by rw [h0]⟩
 ·exact ⟨_,_,rfl⟩
end Go.Proofs.YtkmmlimekachbaaGreatDoor
/-
  The call Weights. For every table that calls made, every row of numbers that a machine can hold.
-/
namespace Go.Proofs.YtkmmlimekachbaaGreatDoor
open Go.RowKit Go.Maps Go.Sort Go.Lib
open Fm (Nd)
section
variable {b m:Nat} {v:Value} {t:List Nd}
set_option maxHeartbeats 1000000 in
theorem weightsM_out (w:World) (hT:Tb w b m v t) (iv:Value) (ids:List Int) (hv:IsL w iv ids) (hi:ids.all (Fm.has t)=false) :
 Calls Tryz.prog 40 #[.pointer (some ⟨b,0,none⟩),iv] w fun e w'=>e=.returned (.tuple #[.slice none 0 0,.int .i64 31])∧Below w.heap.size w w':=by
 have KR:=show Hid (Calls Tryz.prog 85 #[.pointer (some ⟨b,0,none⟩),iv] w fun e w'=>e=.returned (.int .i64 31)∧Below w.heap.size w w') from by
  have:=refused_any w hT iv ids hv
  unfold refs at this
  rw [hi] at this
  exact this
 obtain ⟨p,c,rfl,_,_⟩:=hv
 clear hT
 go_enter Tryz.func40,Tryz.ntmps40
 go_wp2_with fail
 refine KR.out.mono ?_
 rintro e w1 ⟨rfl,hb1⟩
 have HB1:=show Hid (Below w.heap.size w w1) from hb1
 clear hb1 KR
 go_wp2_with fail
 go_ret2
 exact ⟨rfl,HB1.out⟩
theorem Bx.kb {w w':World} {H b n:Nat} {z:Int} {g:Nat} (h:Bx w H b z g) (k:KB n (H+3) w w') (hn:H+5<n):Bx w' H b z g :=
 ⟨k.cell h.c0 (by omega),k.cell h.c1 (by omega),k.cell h.c2 (by omega),k.cell h.c4 (by omega),k.cell h.c5 (by omega)⟩
def wts (t:List Nd) (ids:List Int):List Int:=ids.map fun i=>Ms.weightV t i.toNat
set_option maxRecDepth 100000 in
set_option maxHeartbeats 4000000 in
theorem weightsM_in (w:World) (hT:Tb w b m v t) (iv:Value) (ids:List Int) (hv:IsL w iv ids) (hi:ids.all (Fm.has t)=true) (hl:ids.length * 8≤140737488355328) :
 Calls Tryz.prog 40 #[.pointer (some ⟨b,0,none⟩),iv] w fun e w'=>∃ p c,e=.returned (.tuple #[.slice p (Ms.fall (wts t ids)).length c,.int .i64 0])∧IsL w' (.slice p (Ms.fall (wts t ids)).length c) (Ms.fall (wts t ids))∧Below w.heap.size w w':=by
 have hok:=hT.ok
 have hlen:=hok.len
 obtain ⟨i0,hi',hz0,hz1,hz2⟩:=info_parts info_int
 have KR:=show Hid (Calls Tryz.prog 85 #[.pointer (some ⟨b,0,none⟩),iv] w fun e w'=>e=.returned (.int .i64 0)∧Below w.heap.size w w') from by
  have:=refused_any w hT iv ids hv
  unfold refs at this
  rw [hi] at this
  exact this
 have KC:=show Hid (Counts 86 1 133) from weights_any
 have HT:=show Hid (∀ w',Below w.heap.size w w'→Tb w' b m v t) from fun w' h=>hT.later h
 have HFT:=show Hid (∀ k,Ft b m v k→k<w.heap.size) from fun k hk=>hT.foot k hk
 have HAS:=show Hid (∀ k (hk:k<ids.length),∃ j:Nat,ids[k]=j∧j<t.length) from fun k hk=>by
  have h:=List.all_eq_true.1 hi _ (List.getElem_mem hk)
  obtain ⟨h0,h1⟩:=Fm.has_iff.1 h
  exact ⟨ids[k].toNat,by omega,by omega⟩
 have KA:=show Hid (∀ (H:Nat),(∀ k,Ft b m v k→k<H)→∀ j:Nat,j<t.length→∀ w,Tb w b m v t→Bx w H b 1 133→Memo w H t.length (Ms.weightV t)→Calls Tryz.prog 174 (askA H (j:Int)) w (Asked w H t.length (Ms.weightV t) j)) from fun H hF j hj w hT hB hM=>ask_any hT.ok joins_weight (fun _ _=>Tryz.call133 _ _) rfl (fun j hj=>by have h:=(Ms.weight_ref hok hj).2;exact ⟨by show (0:Int)≤Ms.weightV t j;omega,h.2⟩) hF j hj w hT hB hM
 unfold askA at KA
 have HWT:=show Hid (∀ k (hk:k<ids.length) (j:Nat),ids[k]=j→wts t (ids.take (k+1))=wts t (ids.take k) ++ [Ms.weightV t j]) from fun k hk j hj=>by
  show wts t _=_
  unfold wts
  rw [List.take_succ_eq_append_getElem hk,List.map_append]
  simp [hj]
 have HWL:=show Hid (∀ k,k≤ids.length→(wts t (ids.take k)).length=k) from fun k hk=>by show List.length _=k;unfold wts;simp;omega
 have HWE:=show Hid (wts t (ids.take ids.length)=wts t ids) from by show wts t _=_;rw [List.take_length]
 obtain ⟨p,c,rfl,hlb,hcell⟩:=hv
 have HC:=show Hid (∀ w',Below w.heap.size w w'→∀ k (hk:k<ids.length),∃ g o,p=some ⟨g,o,none⟩∧w'.cell? ⟨g,o+k,none⟩=some (.int .i64 ids[k])) from fun w' hb k hk=>by
  obtain ⟨g,o,hp,hc⟩:=hcell k hk
  exact ⟨g,o,hp,(Kp.of_below (S:=fun _=>False) hb).cell hc (fun h=>h)⟩
 clear hT hi hcell hok
 go_enter Tryz.func40,Tryz.ntmps40
 go_wp2_with fail
 refine KR.out.mono ?_
 rintro e w1 ⟨rfl,hb1⟩
 have HB1:=show Hid (Below w.heap.size w w1) from hb1
 clear hb1 KR
 go_wp2_with fail
 refine (KC.out _ _).mono ?_
 rintro e w2 ⟨rfl,hB2,hM2,hb2⟩
 have hH5:=World.block_lt_of_cell? w2 _ hB2.c5
 simp only at hH5
 have HS2:=show Hid (Bx w2 w1.heap.size b 1 133∧Memo w2 w1.heap.size t.length (Ms.weightV t)∧Below w.heap.size w w2) from ⟨hB2,hM2 _ _,HB1.out.trans (hb2.mono HB1.out.size)⟩
 have hs1:=HB1.out.size
 have HKA:=show Hid (∀ j:Nat,j<t.length→∀ w',Tb w' b m v t→Bx w' w1.heap.size b 1 133→Memo w' w1.heap.size t.length (Ms.weightV t)→Calls Tryz.prog 174 #[.int .i64 (j:Int),.pointer (some ⟨w1.heap.size+4,0,none⟩),.pointer (some ⟨w1.heap.size+1,0,none⟩),.pointer (some ⟨w1.heap.size,0,none⟩),.pointer (some ⟨w1.heap.size+2,0,none⟩),.pointer (some ⟨w1.heap.size+5,0,none⟩)] w' (Asked w' w1.heap.size t.length (Ms.weightV t) j)) from KA.out w1.heap.size (fun k hk=>by have:=HFT.out k hk;omega)
 clear hB2 hM2 hb2 KC KA
 unfold askV askC
 generalize w1.heap.size=H at *
 go_wp2_with (at_make;refine wpList_make_own _ rfl _ (.tmp 20) 28 rfl w2.heap.size 3 i0 (.int .i64 0) 1 Tryz.underlying28 hi' hz0 hz1 .i64 .i64 _ ids.length rfl rfl rfl (by rw [hz2];omega) (by unfold maxLen;omega) (Nat.le_refl _) ?_;intro w3 ho3 hg3)
 have hs3:=hg3.size
 have H3:=show Hid (KB w2.heap.size (H+3) w2 w3∧Memo w3 H t.length (Ms.weightV t)) from ⟨⟨hg3.os,hg3.tape,hg3.output,hg3.size,fun k hk _=>hg3.block k hk (fun e=>by cases e)⟩,HS2.out.2.1.same (hg3.block (H+3) (by omega) (fun e=>by cases e))⟩
 have HO3:=show Hid (w3.ownsRow w2.heap.size 3 1 (.slice (some ⟨w2.heap.size,0,none⟩) 0 ids.length) 0 []) from ho3
 clear ho3 hg3
 have hH0:w.heap.size≤H:=by omega
 go_loopw [8,24] (fun sv iv wr=>∃ (k:Nat) (q:Option Addr) (cq:Nat),k≤ids.length∧iv=.int .i64 (k:Int)∧sv=.slice q k cq∧Hid (wr.ownsRow w2.heap.size 3 1 (.slice q k cq) k ((wts t (ids.take k)).map (Value.int .i64))∧KB w2.heap.size (H+3) w2 wr∧Memo wr H t.length (Ms.weightV t))) (fun _ iv _=>ids.length - (intOf iv).toNat)
 case atStart=>exact ⟨0,_,_,by omega,rfl,rfl,HO3.out,H3.out⟩
 case round =>
  obtain ⟨k,q,cq,hk,rfl,rfl,HI⟩:=hrel
  clear HO3 H3
  have HBW:=show Hid (Below w.heap.size w wr) from HS2.out.2.2.trans (HI.out.2.1.below (by have:=HS2.out.2.2.size;omega) (fun k hk=>by have:=HS2.out.2.2.size;omega))
  by_cases hlt:k<ids.length
  ·obtain ⟨g,o,rfl,hc⟩:=HC.out wr HBW.out k hlt
   obtain ⟨j,hj,hjt⟩:=HAS.out k hlt
   have hst:=HWT.out k hlt j hj
   have HST:=show Hid (wts t (ids.take (k+1))=wts t (ids.take k) ++ [Ms.weightV t j]) from hst
   rw [hj] at hc
   have hki:(k:Int)<(ids.length:Int):=by omega
   have KJ:=show Hid (Calls Tryz.prog 174 #[.int .i64 (j:Int),.pointer (some ⟨H+4,0,none⟩),.pointer (some ⟨H+1,0,none⟩),.pointer (some ⟨H,0,none⟩),.pointer (some ⟨H+2,0,none⟩),.pointer (some ⟨H+5,0,none⟩)] wr (Asked wr H t.length (Ms.weightV t) j)) from HKA.out j hjt wr (HT.out wr HBW.out) (HS2.out.1.kb HI.out.2.1 hH5) HI.out.2.2
   clear HC HAS HWT hst HWE
   go_wp2_with fail
   refine KJ.out.mono ?_
   rintro e w4 ⟨rfl,hM4,hK4⟩
   have H4:=show Hid (w4.ownsRow w2.heap.size 3 1 (.slice q k cq) k ((wts t (ids.take k)).map (Value.int .i64))∧KB w2.heap.size (H+3) w2 w4∧Memo w4 H t.length (Ms.weightV t)) from by
    refine ⟨?_,HI.out.2.1.then (hK4.mono fun k h=>Or.inl h),hM4⟩
    refine ⟨HI.out.1.1,?_⟩
    rcases HI.out.1.2 with h2 | ⟨g2,cap,cur,hv2,hg2,hh,r⟩
    ·exact Or.inl h2
    ·exact Or.inr ⟨g2,cap,cur,hv2,hg2,(hK4.block g2 (lt_of_block hh) (by unfold At3;omega)).trans hh,r⟩
   have hs4:w2.heap.size≤w4.heap.size:=H4.out.2.1.size
   clear KJ hM4 hK4 HI
   go_wp2_with (at_builtin;refine wpList_append_own_at _ rfl (.tmp 28) (.tmp 32) 28 rfl w2.heap.size 3 i0 _ 1 8 Tryz.underlying28 hi' hz0 hz1 hz2 rfl (by decide) (.slice q k cq) k ((wts t (ids.take k)).map (Value.int .i64)) rfl (H4.out.1.alloc _) ⟨w4.heap.size,0,none⟩ 1 1 [.int .i64 (Ms.weightV t j)] rfl rfl (cell_one_new _ _ _) (ints_oneCell .i64 [Ms.weightV t j]) (by unfold maxLen;omega) (by omega) (by simp;omega) ?_)
   intro v' w5 hown hgr _ _
   obtain ⟨q',c',hv'⟩:=own_sliceI hown
   subst hv'
   have HN:=show Hid (w5.ownsRow w2.heap.size 3 1 (.slice q' (k+1) c') (k+1) ((wts t (ids.take (k+1))).map (Value.int .i64))∧KB w2.heap.size (H+3) w2 w5∧Memo w5 H t.length (Ms.weightV t)) from by
    have hne:∀ i,i<(w4.alloc (Obj.cells #[.int .i64 (Ms.weightV t j)] 3)).heap.size→¬ w2.heap.size≤i→w5.heap[i]?=(w4.alloc (Obj.cells #[.int .i64 (Ms.weightV t j)] 3)).heap[i]?:=fun i hi hn=>hgr.block i hi fun e=>hn (H4.out.1.lt i e.symm).1
    refine ⟨by rw [HST.out,List.map_append];exact hown,(H4.out.2.1.alloc _).then ⟨hgr.os,hgr.tape,hgr.output,hgr.size,fun i hi hn=>hne i hi fun h=>hn (Or.inr h)⟩,?_⟩
    exact (H4.out.2.2.later (below_alloc _ _)).same (hne (H+3) (by simp;omega) (by omega))
   clear hown hgr H4
   go_wp2_with fail
   go_roundw
   case rel=>exact ⟨k+1,q',c',by omega,by go_num,rfl,HN⟩
   case measure=>first | (simp [intOf];done) | (simp [intOf];omega)
  ·have hke:k=ids.length:=by omega
   subst hke
   have hwl:=HWL.out ids.length (Nat.le_refl _)
   rw [HWE.out] at HI hwl
   have KF:=show Hid (Calls Tryz.prog 87 #[.slice q ids.length cq] wr (Rows1 wr (Ms.fall (wts t ids)))) from falling_any wr _ (wts t ids) (isL_own HI.out.1 (by omega)) (by rw [hwl];exact hl)
   clear HC HAS HWT HWL HWE HKA HI
   go_wp2_with fail
   refine KF.out.mono ?_
   rintro e w5 ⟨p5,c5,rfl,hI5,hb5⟩
   have HE:=show Hid (IsL w5 (.slice p5 (Ms.fall (wts t ids)).length c5) (Ms.fall (wts t ids))∧Below w.heap.size w w5) from ⟨hI5,HBW.out.trans (hb5.mono HBW.out.size)⟩
   clear hI5 hb5 KF
   go_wp2_with fail
   go_ret2
   exact ⟨p5,c5,rfl,HE.out⟩
end
end Go.Proofs.YtkmmlimekachbaaGreatDoor
