/-
  The call Print. For every table and number. No other condition.
-/
import Derived.Test.YtkmmlimekachbaaGreatDoorSG8
import Derived.Test.YtkmmlimekachbaaGreatDoorSG9
import Derived.Test.YtkmmlimekachbaaGreatDoorSG2
import Derived.Test.YtkmmlimekachbaaGreatDoorShelfC
import Derived.Test.YtkmmlimekachbaaGreatDoorQG5
import Derived.Test.YtkmmlimekachbaaGreatDoorShelfA5
import Derived.Shelf.Strings.BuilderK
namespace Go.Proofs.YtkmmlimekachbaaGreatDoor
open Go.RowKit Go.Maps
open Fm (Nd)
open Pr (Pc)
def printR (t:List Nd) (i:Int):List UInt8 × Int:=if Fm.has t i then (if (Pr.text t i).length≤65536 then (Pr.text t i,0) else ([],11)) else ([],31)
theorem PS.builder {w0 w:World} {B hp ho hw b m:Nat} {v:Value} {t:List Nd} {l:List UInt8} (h:PS w0 B w hp ho hw b m v t l):Lib.IsBuilder 115 5 B ho (Lib.byteCells l) w:=by
 obtain ⟨vb,h1,h2⟩:=h.bd
 have hne:=h1.ne
 obtain ⟨p,hp,hh,hr⟩:=h1
 have hown:w.ownsRow B 5 1 vb (Lib.byteCells l).length (Lib.byteCells l):=by
  refine ⟨hr.1,?_⟩
  rcases hr.2 with h3 | ⟨g,cap,cur,rfl,_,r⟩
  ·exact Or.inl h3
  ·exact Or.inr ⟨g,cap,cur,rfl,h2 g rfl,r⟩
 rcases hp with rfl | rfl
 ·exact Or.inl ⟨h.hB,vb,hh,hown,hne⟩
 ·exact Or.inr ⟨h.hB,vb,hh,hown,hne⟩
theorem store_fun2 (w:World) (o:Obj) (fn:Fn) (a c:Array Value) (v:Value) (ty:TypeId):(store ⟨w.heap.size+1,0,none⟩ (.func fn a c)).run Tryz.prog ((w.alloc o).alloc (.cells #[v] ty))=.ok () ((w.alloc o).alloc (.cells #[.func fn a c] ty)):=by
 have h:=store_fun (w.alloc o) fn a c v ty
 rw [show (w.alloc o).heap.size=w.heap.size+1 by simp] at h
 exact h
theorem ps_start (w w2:World) {hp b m:Nat} {v:Value} {t:List Nd} (hT:Tb w2 b m v t) (hP:Box w2 hp (.pointer (some ⟨b,0,none⟩)) 222) (hb:Below w.heap.size w w2) :
 PS w w.heap.size ((w2.alloc (Obj.cells #[.pointer none,.slice none 0 0] 115)).alloc (Obj.cells #[.func (.func 167) #[] #[.pointer (some ⟨hp,0,none⟩),.pointer (some ⟨w2.heap.size,0,none⟩),.pointer (some ⟨w2.heap.size+1,0,none⟩)]] 180)) hp w2.heap.size (w2.heap.size+1) b m v t []:=by
 have h3:Below w2.heap.size w2 ((w2.alloc (Obj.cells #[.pointer none,.slice none 0 0] 115)).alloc (Obj.cells #[.func (.func 167) #[] #[.pointer (some ⟨hp,0,none⟩),.pointer (some ⟨w2.heap.size,0,none⟩),.pointer (some ⟨w2.heap.size+1,0,none⟩)]] 180)):=((Below.refl _ _).alloc (Nat.le_refl _) _).alloc (by simp) _
 refine ⟨(h3.block _ hP.lt).trans hP,heap_new_at _ _ _ (by simp),⟨.slice none 0 0,⟨.pointer none,Or.inl rfl,(Below.heap_alloc _ _ _ (by simp)).trans (heap_new_at _ _ _ rfl),?_⟩,fun k hk=>by cases hk⟩,hT.later h3,hb.trans (h3.mono hb.size),hb.size,Nat.le_trans hb.size h3.size⟩
 exact World.ownsRow_nil _ _ _ _
set_option maxRecDepth 100000 in
set_option maxHeartbeats 2000000 in
theorem print_any (w:World) {b m:Nat} {v:Value} {t:List Nd} (hT:Tb w b m v t) (i:Int) :
 Calls Tryz.prog 119 #[.pointer (some ⟨b,0,none⟩),.int .i64 i] w fun e w'=>e=.returned (.tuple #[.string ⟨(printR t i).1.toArray⟩,.int .i64 (printR t i).2])∧Below w.heap.size w w':=by
 have hmf:=mkFunc
 have hsf:=store_fun2
 have KB:=show Hid (Calls Tryz.prog 98 #[.pointer (some ⟨b,0,none⟩),.int .i64 i] w fun e w'=>∃ v',e=.returned (.tuple #[v',.int .i64 (belowR t i).2])∧IsI w' w.heap.size v' (belowR t i).1∧Below w.heap.size w w') from below_any w hT i
 have HT:=show Hid (Tb w b m v t) from hT
 by_cases hi:Fm.has t i=true
 ·have h0:=Fm.has_iff.1 hi
  obtain ⟨n,rfl⟩:∃ n:Nat,i=n:=⟨i.toNat,by omega⟩
  have hn:n<t.length:=by omega
  have hbr:belowR t (n:Int)=(Fm.below t n,0):=by unfold belowR;rw [if_pos hi];simp
  rw [hbr] at KB
  have KS:=show Hid (∀ w1 Bv vb,Tb w1 b m v t→IsI w1 Bv vb (Fm.below t n)→Calls Tryz.prog 166 #[.agg #[.pointer (some ⟨b,0,none⟩)],vb] w1 fun e w'=>e=.returned (.int .i64 (Pr.wd t (n:Int):Int))∧Below w1.heap.size w1 w') from fun w1 Bv vb h1 h2=>size_any w1 h1 n hn h2
  have KP:=show Hid (∀ (w1:World) (hp ho hw:Nat),(Pr.text t (n:Int)).length≤65536→PS w w.heap.size w1 hp ho hw b m v t []→Calls Tryz.prog 167 #[.int .i64 (n:Int),.pointer (some ⟨hp,0,none⟩),.pointer (some ⟨ho,0,none⟩),.pointer (some ⟨hw,0,none⟩)] w1 fun e w'=>e=.returned (.tuple #[])∧PS w w.heap.size w' hp ho hw b m v t (Pr.text t (n:Int))) from fun w1 hp ho hw hl h=>(print1_any (n+1) w1 [] (n:Int) (by simp) hi h (by simpa using hl)).mono fun e w' hh=>⟨hh.1,by simpa using hh.2.1⟩
  have HPR:=show Hid (printR t (n:Int)=if (Pr.text t (n:Int)).length≤65536 then (Pr.text t (n:Int),0) else ([],11)) from by show printR t (n:Int)=_;unfold printR;rw [if_pos hi]
  have HWD:=show Hid (Pr.wd t (n:Int)=min (Pr.text t (n:Int)).length 65537) from rfl
  have hwd1:Pr.wd t (n:Int)≤65537:=by unfold Pr.wd;omega
  have KST:=show Hid (∀ (w1:World) (ho:Nat),Lib.IsBuilder 115 5 w.heap.size ho (Lib.byteCells (Pr.text t (n:Int))) w1→w.heap.size≤w1.heap.size→Calls Tryz.prog 61 #[.pointer (some ⟨ho,0,none⟩)] w1 fun e w'=>e=.returned (.string ⟨(Pr.text t (n:Int)).toArray⟩)∧Below w.heap.size w1 w') from fun w1 ho h1 h2=>Tryz.Builder_String_any w.heap.size ho (Pr.text t (n:Int)) w1 h1 h2
  generalize printR t (n:Int)=pr at *
  generalize Pr.wd t (n:Int)=wn at *
  generalize Pr.text t (n:Int)=tx at *
  simp only at KB
  clear hT hi h0 hn hbr
  go_enter Tryz.func119,Tryz.ntmps119
  go_wp2_with fail
  refine KB.out.mono ?_
  rintro e w1 ⟨vb,rfl,hI,hb1⟩
  have hb1':Below w1.heap.size w1 (w1.alloc (Obj.cells #[.pointer (some ⟨b,0,none⟩)] 222)):=below_alloc _ _
  have X1:=show Hid (Below w.heap.size w (w1.alloc (Obj.cells #[.pointer (some ⟨b,0,none⟩)] 222))∧IsI (w1.alloc (Obj.cells #[.pointer (some ⟨b,0,none⟩)] 222)) w.heap.size vb (Fm.below t n)∧Box (w1.alloc (Obj.cells #[.pointer (some ⟨b,0,none⟩)] 222)) w1.heap.size (.pointer (some ⟨b,0,none⟩)) 222) from ⟨hb1.trans (hb1'.mono hb1.size),World.ownsRow.alloc hI _,heap_alloc_new _ _⟩
  clear hI hb1 hb1' KB
  go_wp2_with fail
  refine (KS.out _ _ _ (HT.out.later X1.out.1) X1.out.2.1).mono ?_
  rintro e w2 ⟨rfl,hb2⟩
  have X2:=show Hid (Below w.heap.size w w2∧Box w2 w1.heap.size (.pointer (some ⟨b,0,none⟩)) 222) from ⟨X1.out.1.trans (hb2.mono X1.out.1.size),(hb2.block _ X1.out.2.2.lt).trans X1.out.2.2⟩
  clear hb2 X1 KS
  by_cases hl:tx.length≤65536
  ·have hpr:=HPR.out
   rw [if_pos hl] at hpr
   subst hpr
   have hwn:¬ 65536<(wn:Int):=by have:=HWD.out;omega
   have hwn2:(wn:Int)≤65536:=by omega
   have HL:=show Hid (tx.length≤65536) from hl
   clear HPR hl
   have PS0:=show Hid _ from ps_start w w2 (HT.out.later X2.out.1) X2.out.2 X2.out.1
   go_wp2_with fail
   refine (KP.out _ _ _ _ HL.out PS0.out).mono ?_
   rintro e w3 ⟨rfl,h3⟩
   have X3:=show Hid (PS w w.heap.size w3 w1.heap.size w2.heap.size (w2.heap.size+1) b m v t tx) from h3
   clear h3 PS0 KP
   go_wp2_with fail
   refine (KST.out w3 _ X3.out.builder X3.out.hBw).mono ?_
   rintro e w4 ⟨rfl,hb4⟩
   have X4:=show Hid (Below w.heap.size w w4) from X3.out.be.trans hb4
   clear hb4 KST X3
   go_wp2_with fail
   go_ret2
   exact ⟨rfl,X4.out⟩
  ·have hpr:=HPR.out
   rw [if_neg hl] at hpr
   subst hpr
   have hwn:65536<(wn:Int):=by have:=HWD.out;omega
   clear HPR hl
   go_wp2_with fail
   go_ret2
   exact ⟨rfl,X2.out.1⟩
 ·have hbr:belowR t i=([],31):=by unfold belowR;rw [if_neg hi]
  have hpr:printR t i=([],31):=by unfold printR;rw [if_neg hi]
  rw [hbr] at KB
  rw [hpr]
  simp only at KB
  clear hT hi hbr hpr
  go_enter Tryz.func119,Tryz.ntmps119
  go_wp2_with fail
  refine KB.out.mono ?_
  rintro e w1 ⟨vb,rfl,hI,hb1⟩
  have X1:=show Hid (Below w.heap.size w w1) from hb1
  clear hI hb1 KB
  go_wp2_with fail
  go_ret2
  exact ⟨rfl,X1.out⟩
end Go.Proofs.YtkmmlimekachbaaGreatDoor
/-
  A Builder of one's own, and the call write of layer 8: a formula's text behind what is written. For every table that calls made. No other condition.
-/
namespace Go.Proofs.YtkmmlimekachbaaGreatDoor
open Go.RowKit Go.Shelf Go.Maps
open Fm (Nd)
open Bt.Bs (Ok wd)
def BX (B bb:Nat) (l:List UInt8) (W:World):Prop:=B≤bb∧∃ vb,Bd W bb vb (Lib.byteCells l)∧∀ k,vb.ownBlock=some k→B≤k
abbrev KX (B bb:Nat) (W W':World):Prop:=Kp (fun k=>k=bb∨(B≤k∧∃ cur,W.heap[k]?=some (.cells cur 5 (0,0)))) W W'
theorem KX.refl (B bb:Nat) (W:World):KX B bb W W:=Kp.refl _ _
theorem KX.of_below {B bb:Nat} {W W':World} (h:Below W.heap.size W W'):KX B bb W W':=Kp.of_below h
theorem KX.trans {B bb:Nat} {A W C:World} (h:KX B bb A W) (k:KX B bb W C):KX B bb A C:=by
 refine ⟨k.os.trans h.os,k.tape.trans h.tape,k.output.trans h.output,Nat.le_trans h.size k.size,fun i hi hn => ?_⟩
 have h1:=h.block i hi hn
 rw [k.block i (Nat.lt_of_lt_of_le hi h.size) ?_,h1]
 rintro (e | ⟨hB,cur,hc⟩)
 ·exact hn (Or.inl e)
 ·exact hn (Or.inr ⟨hB,cur,by rw [← h1];exact hc⟩)
theorem KX.below {B bb:Nat} {W W':World} (h:KX B bb W W') (hb:B≤bb) (hB:B≤W.heap.size):Below B W W' :=
 ⟨h.os,h.tape,h.output,h.size,fun k hk=>h.block k (by omega) (fun e=>by rcases e with e | ⟨e,_⟩ <;> omega)⟩
theorem KX.keeps {B bb:Nat} {W W':World} (h:KX B bb W W') {cur:Array Value} {ty:TypeId} {fr:Nat × Nat} (hc:W.heap[bb]?=some (.cells cur ty fr)):KeepsOthers W W':=by
 refine ⟨h.size,fun k o hk ho => ?_⟩
 rw [h.block k (Array.getElem?_eq_some_iff.1 hk).1 ?_,hk]
 rintro (e | ⟨_,cur',hc'⟩)
 ·subst e;rw [hc] at hk;cases hk;cases ho
 ·rw [hc'] at hk;cases hk;cases ho
theorem KX.cells {B bb k:Nat} {W W':World} (h:KX B bb W W') (hne:k≠bb) {cur:Array Value} {ty:TypeId} {fr:Nat × Nat} (hc:W.heap[k]?=some (.cells cur ty fr)) (hty:ty≠5):W'.heap[k]?=some (.cells cur ty fr):=by
 rw [h.block k (lt_of_block hc) ?_,hc]
 rintro (e | ⟨_,cur',hc'⟩)
 ·exact hne e
 ·rw [hc] at hc'
  injection hc' with h1
  injection h1 with _ h2 _
  exact hty h2
theorem BX.lt {B bb:Nat} {l:List UInt8} {W:World} (h:BX B bb l W):bb<W.heap.size:=by obtain ⟨_,vb,h1,_⟩:=h;exact h1.lt
theorem BX.block {B bb:Nat} {l:List UInt8} {W:World} (h:BX B bb l W):∃ cur,W.heap[bb]?=some (.cells cur 115 (0,0)):=by obtain ⟨_,vb,⟨p,_,h1,_⟩,_⟩:=h;exact ⟨_,h1⟩
theorem BX.later {B bb:Nat} {l:List UInt8} {W W':World} (h:BX B bb l W) (hb:Below W.heap.size W W'):BX B bb l W':=by
 obtain ⟨h0,vb,⟨p,hp,hh,ho⟩,h2⟩:=h
 exact ⟨h0,vb,⟨p,hp,(hb.block _ (lt_of_block hh)).trans hh,own_belowM ho hb⟩,h2⟩
theorem BX.builder {B bb:Nat} {l:List UInt8} {W:World} (h:BX B bb l W):Lib.IsBuilder 115 5 B bb (Lib.byteCells l) W:=by
 obtain ⟨h0,vb,h1,h2⟩:=h
 have hne:=h1.ne
 obtain ⟨p,hp,hh,hr⟩:=h1
 have hown:W.ownsRow B 5 1 vb (Lib.byteCells l).length (Lib.byteCells l):=by
  refine ⟨hr.1,?_⟩
  rcases hr.2 with h3 | ⟨g,cap,cur,rfl,_,r⟩
  ·exact Or.inl h3
  ·exact Or.inr ⟨g,cap,cur,rfl,h2 g rfl,r⟩
 rcases hp with rfl | rfl
 ·exact Or.inl ⟨h0,vb,hh,hown,hne⟩
 ·exact Or.inr ⟨h0,vb,hh,hown,hne⟩
theorem bx_new (W:World) {B:Nat} (hB:B≤W.heap.size):BX B W.heap.size [] (W.alloc (.cells #[.pointer none,.slice none 0 0] 115)) :=
 ⟨hB,.slice none 0 0,⟨_,Or.inl rfl,heap_alloc_new _ _,World.ownsRow_nil _ _ _ _⟩,fun k h=>by cases h⟩
theorem bytes_len (l:List UInt8):(Lib.byteCells l).length=l.length:=by simp [Lib.byteCells]
section
variable (W:World) {B bb:Nat} {l:List UInt8}
theorem blen_any (h:BX B bb l W):Calls Tryz.prog 58 #[.pointer (some ⟨bb,0,none⟩)] W fun e w'=>e=.returned (.int .i64 (l.length:Int))∧w'=W:=by
 have:=Tryz.Builder_Len B bb (Lib.byteCells l) W h.builder
 rw [bytes_len] at this
 exact this
theorem bwrite_any (h:BX B bb l W) (hB:B≤W.heap.size) (s:ByteArray) (hl:l.length+s.size≤140737488355328):Calls Tryz.prog 59 #[.pointer (some ⟨bb,0,none⟩),.string s] W fun e w'=>e=.returned (.tuple #[.int .i64 s.size,.nilIface])∧BX B bb (l ++ s.data.toList) w'∧KX B bb W w':=by
 obtain ⟨h0,vb,h1,h2⟩:=h
 refine (write_any W h1 s (by rw [bytes_len];exact hl)).mono ?_
 rintro e w' ⟨he,v',hb,ho,hk⟩
 refine ⟨he,⟨h0,v',?_,fun k hk' => ?_⟩,⟨hk.os,hk.tape,hk.output,hk.size,fun k hlt hn=>hk.block k hlt fun e=>hn ?_⟩⟩
 ·have:Lib.byteCells (l ++ s.data.toList)=Lib.byteCells l ++ Lib.strCells s:=by simp [Lib.byteCells,Lib.strCells]
  rw [this]
  exact hb
 ·rcases ho with ho | ho
  ·exact h2 k (by rw [← ho];exact hk')
  ·have:=ho k hk';omega
 ·rcases e with e | e
  ·exact Or.inl e
  ·exact Or.inr ⟨h2 k e,(h1.own k e).2⟩
def wrQ (t:List Nd) (l:List UInt8) (i:Int):List UInt8 × Int:=if (printR t i).2=0 then (if 65536<l.length+(printR t i).1.length then (l,11) else (l ++ (printR t i).1,0)) else (l,(printR t i).2)
set_option maxRecDepth 100000 in
set_option maxHeartbeats 800000 in
theorem qwrite_any {b m:Nat} {v:Value} {t:List Nd} (hT:Tb W b m v t) (h:BX B bb l W) (hB:B≤W.heap.size) (hl:l.length≤1000000) (i:Int) :
 Calls Tryz.prog 60 #[.pointer (some ⟨bb,0,none⟩),.pointer (some ⟨b,0,none⟩),.int .i64 i] W fun e w'=>e=.returned (.int .i64 (wrQ t l i).2)∧BX B bb (wrQ t l i).1 w'∧KX B bb W w':=by
 have KP:=show Hid (Calls Tryz.prog 119 #[.pointer (some ⟨b,0,none⟩),.int .i64 i] W fun e w'=>e=.returned (.tuple #[.string ⟨(printR t i).1.toArray⟩,.int .i64 (printR t i).2])∧Below W.heap.size W w') from print_any W hT i
 have HB:=show Hid (BX B bb l W) from h
 have hpl:(printR t i).1.length≤65536:=by
  unfold printR
  split
  ·split
   ·assumption
   ·simp
  ·simp
 unfold wrQ
 generalize printR t i=pr at *
 obtain ⟨x,pe⟩:=pr
 simp only at *
 clear hT h
 have KL:=show Hid (∀ w1,BX B bb l w1→Calls Tryz.prog 58 #[.pointer (some ⟨bb,0,none⟩)] w1 fun e w'=>e=.returned (.int .i64 (l.length:Int))∧w'=w1) from fun w1 h=>blen_any w1 h
 have KW:=show Hid (∀ w1,BX B bb l w1→B≤w1.heap.size→Calls Tryz.prog 59 #[.pointer (some ⟨bb,0,none⟩),.string ⟨x.toArray⟩] w1 fun e w'=>e=.returned (.tuple #[.int .i64 (⟨x.toArray⟩:ByteArray).size,.nilIface])∧BX B bb (l ++ x) w'∧KX B bb w1 w') from fun w1 h hB=>by
  have:=bwrite_any w1 h hB ⟨x.toArray⟩ (by show l.length+x.toArray.size≤_;simp;omega)
  exact this
 have hxs:(⟨x.toArray⟩:ByteArray).size=x.length:=by show x.toArray.size=_;simp
 obtain ⟨xb,hxb⟩:∃ xb:ByteArray,xb=⟨x.toArray⟩:=⟨_,rfl⟩
 rw [← hxb] at hxs KP KW
 clear hxb
 by_cases hz:pe=0
 ·subst hz
  by_cases hlong:65536<l.length+x.length
  ·have hli:(65536:Int)<(l.length:Int)+(x.length:Int):=by omega
   have hli2:(65536:Int)<(l.length:Int)+(xb.size:Int):=by omega
   simp only [if_true,if_pos hlong]
   clear KW
   go_enter Tryz.func60,Tryz.ntmps60
   go_wp2_with fail
   refine KP.out.mono ?_
   rintro e w1 ⟨rfl,hb1⟩
   have X:=show Hid (BX B bb l w1∧KX B bb W w1) from ⟨HB.out.later hb1,KX.of_below hb1⟩
   clear hb1 HB KP
   go_wp2_with fail
   refine (KL.out _ X.out.1).mono ?_
   rintro e w2 ⟨rfl,hw2⟩
   subst w2
   go_wp2_with fail
   go_ret
   exact ⟨rfl,X.out⟩
  ·have hli:¬ (65536:Int)<(l.length:Int)+(x.length:Int):=by omega
   have hli2:¬ (65536:Int)<(l.length:Int)+(xb.size:Int):=by omega
   simp only [if_true,if_neg hlong]
   go_enter Tryz.func60,Tryz.ntmps60
   go_wp2_with fail
   refine KP.out.mono ?_
   rintro e w1 ⟨rfl,hb1⟩
   have X:=show Hid (BX B bb l w1∧KX B bb W w1∧B≤w1.heap.size) from ⟨HB.out.later hb1,KX.of_below hb1,by have:=hb1.size;omega⟩
   clear hb1 HB KP
   go_wp2_with fail
   refine (KL.out _ X.out.1).mono ?_
   rintro e w2 ⟨rfl,hw2⟩
   subst w2
   go_wp2_with fail
   refine (KW.out _ X.out.1 X.out.2.2).mono ?_
   rintro e w3 ⟨rfl,hb3,hk3⟩
   have X3:=show Hid (BX B bb (l ++ x) w3∧KX B bb W w3) from ⟨hb3,X.out.2.1.trans hk3⟩
   clear hb3 hk3 X KW KL
   go_wp2_with fail
   go_ret
   exact ⟨rfl,X3.out⟩
 ·have hz':(pe != 0)=true:=by simpa using hz
  rw [if_neg hz]
  simp only
  clear KW KL
  go_enter Tryz.func60,Tryz.ntmps60
  go_wp2_with fail
  refine KP.out.mono ?_
  rintro e w1 ⟨rfl,hb1⟩
  have X:=show Hid (BX B bb l w1∧KX B bb W w1) from ⟨HB.out.later hb1,KX.of_below hb1⟩
  clear hb1 HB KP
  go_wp2_with fail
  go_ret
  exact ⟨rfl,X.out⟩
end
end Go.Proofs.YtkmmlimekachbaaGreatDoor
/-
  The call Print of layer 8: for every table that calls made and every sequent. No other condition than that the table of TrailingZeros stands.
-/
namespace Go.Proofs.YtkmmlimekachbaaGreatDoor
open Go.RowKit Go.Shelf Go.Maps
open Fm (Nd)
open Bt.Bs (Ok wd)
attribute [local go_sem] Oper.semAt_some
theorem ldQIn {F:Fence} {n:Nat} {ops:Array Oper} {rest:List Oper} {o:Oper} {a:Act} {Q:Exit→Act→World→Prop} (w:World) (x:Operand) (hop:o.op=Op.load 27 x) (b:Nat) (hx:a.eval x=.pointer (some ⟨b,0,none⟩))
 {r:List Nat} {g:Int} (h:SeqAt w b r g) (hs:r.length=16) (hg:o.guard=none) (hK:wpListIn F n Tryz.prog ops Q rest (a.put o.dst (.agg (cellsQ r g))) w):wpListIn F n Tryz.prog ops Q (o :: rest) a w:=by
 refine wpListIn_plain hg fun K' hK' => ?_
 have hrun:=loadQQ w b h hs
 unfold Oper.wpIn
 refine ⟨by simp [Oper.about,hop],?_⟩
 rw [Oper.semAt_plain F _ _ (by rw [hop];intro c hc';cases hc')]
 simp [execOp,hop,hx,hrun,Result.andThen]
 exact hK' _ _ hK
theorem ldBQIn {F:Fence} {n:Nat} {ops:Array Oper} {rest:List Oper} {o:Oper} {a:Act} {Q:Exit→Act→World→Prop} (w:World) (x:Operand) (hop:o.op=Op.load 25 x) (b:Nat) (hx:a.eval x=.pointer (some ⟨b,0,none⟩))
 {r:List Nat} {g:Int} (h:SeqAt w b r g) (hs:r.length=16) (hg:o.guard=none) (hK:wpListIn F n Tryz.prog ops Q rest (a.put o.dst (.agg (Bt.cellsB r))) w):wpListIn F n Tryz.prog ops Q (o :: rest) a w:=by
 refine wpListIn_plain hg fun K' hK' => ?_
 have hrun:=loadQ w b h hs
 unfold Oper.wpIn
 refine ⟨by simp [Oper.about,hop],?_⟩
 rw [Oper.semAt_plain F _ _ (by rw [hop];intro c hc';cases hc')]
 simp [execOp,hop,hx,hrun,Result.andThen]
 exact hK' _ _ hK
def prS (t:List Nd) (s:List UInt8 × Int) (i:Nat):List UInt8 × Int:=if s.2=0 then wrQ t (if 0<s.1.length then s.1 ++ [44,32] else s.1) (i:Int) else s
def prF (t:List Nd) (ids:List Nat):List UInt8 × Int:=ids.foldl (prS t) ([],0)
def ahQ (l:List UInt8):List UInt8:=(if 0<l.length then l ++ [32] else l) ++ [124,45,32]
def printQ (t:List Nd) (r:List Nat) (g:Int):List UInt8 × Int :=
 if chkQ t r g=0 then
  (if (prF t (Bt.Bs.nums r)).2=0 then
   (if (wrQ t (ahQ (prF t (Bt.Bs.nums r)).1) g).2=0 then ((wrQ t (ahQ (prF t (Bt.Bs.nums r)).1) g).1,0) else ([],(wrQ t (ahQ (prF t (Bt.Bs.nums r)).1) g).2))
  else ([],(prF t (Bt.Bs.nums r)).2))
 else ([],chkQ t r g)
theorem wr_len {t:List Nd} {l:List UInt8} {i:Int} (h:(wrQ t l i).2=0):(wrQ t l i).1.length≤65536:=by
 unfold wrQ at h ⊢
 by_cases h1:(printR t i).2=0
 ·rw [if_pos h1] at h ⊢
  by_cases h2:65536<l.length+(printR t i).1.length
  ·rw [if_pos h2] at h;cases h
  ·rw [if_neg h2];simp;omega
 ·rw [if_neg h1] at h;exact absurd h h1
theorem prF_snoc (t:List Nd) (pre:List Nat) (i:Nat):prF t (pre ++ [i])=prS t (prF t pre) i:=by simp [prF]
theorem prF_len0 (t:List Nd):∀ (ids:List Nat) (s:List UInt8 × Int),(s.2=0→s.1.length≤65536)→(ids.foldl (prS t) s).2=0→(ids.foldl (prS t) s).1.length≤65536
 | [],s,h=>h
 | i :: ids,s,h=>by
  refine prF_len0 t ids (prS t s i) ?_
  unfold prS
  split
  ·exact wr_len
  ·rename_i h1;intro h2;exact absurd h2 h1
theorem prF_len (t:List Nd) (pre:List Nat):(prF t pre).2=0→(prF t pre).1.length≤65536:=prF_len0 t pre ([],0) (fun _=>by simp)
theorem prF_stay (t:List Nd):∀ (suf:List Nat) (s:List UInt8 × Int),s.2≠0→suf.foldl (prS t) s=s
 | [],_,_=>rfl
 | i :: suf,s,h=>by
  have:prS t s i=s:=by unfold prS;rw [if_neg h]
  rw [List.foldl_cons,this]
  exact prF_stay t suf s h
theorem prF_stop (t:List Nd) {pre:List Nat} (h:(prF t pre).2≠0) (suf:List Nat):prF t (pre ++ suf)=prF t pre:=by
 unfold prF at h ⊢
 rw [List.foldl_append]
 exact prF_stay t suf _ h
structure PW (w W:World) (b:Nat) (r:List Nat) (g:Int) (bb:Nat) (l:List UInt8) (s0:ByteArray) (e0:Int):Prop where
 tab:Boxed W w.heap.size 29 (.pointer (some ⟨b,0,none⟩))
 seq:SeqAt W (w.heap.size+1) r g
 str:Boxed W (w.heap.size+1+1) 9 (.string s0)
 err:Boxed W (w.heap.size+1+1+1) 33 (.int .i64 e0)
 bd:BX (w.heap.size+1+1+1+1) bb l W
 bel:Below w.heap.size w W
section
variable {w W W':World} {b:Nat} {r:List Nat} {g:Int} {bb:Nat} {l:List UInt8} {s0:ByteArray} {e0:Int}
theorem PW.bge (h:PW w W b r g bb l s0 e0):w.heap.size+1+1+1+1≤bb:=h.bd.1
theorem PW.sz (h:PW w W b r g bb l s0 e0):w.heap.size+1+1+1+1≤W.heap.size:=by have:=h.bd.1;have:=h.bd.lt;omega
theorem PW.later (h:PW w W b r g bb l s0 e0) (hb:Below W.heap.size W W'):PW w W' b r g bb l s0 e0 :=
 ⟨box_later h.tab hb h.tab.lt,h.seq.later hb h.seq.lt,box_later h.str hb h.str.lt,box_later h.err hb h.err.lt,h.bd.later hb,h.bel.trans (hb.mono h.bel.size)⟩
theorem PW.kx (h:PW w W b r g bb l s0 e0) {l':List UInt8} (hk:KX (w.heap.size+1+1+1+1) bb W W') (hb:BX (w.heap.size+1+1+1+1) bb l' W'):PW w W' b r g bb l' s0 e0:=by
 have hg:=h.bge
 exact ⟨hk.cells (by omega) h.tab (by decide),hk.cells (by omega) h.seq (by decide),hk.cells (by omega) h.str (by decide),hk.cells (by omega) h.err (by decide),hb,h.bel.trans ((hk.below (by omega) h.sz).mono (by omega))⟩
theorem PW.set (h:PW w W b r g bb l s0 e0) (s1:ByteArray) (e1:Int):PW w ((W.setCell ⟨w.heap.size+1+1,0,none⟩ (.string s1)).setCell ⟨w.heap.size+1+1+1,0,none⟩ (.int .i64 e1)) b r g bb l s1 e1:=by
 have hg:=h.bge
 refine ⟨(h.tab.other (by omega) _).other (by omega) _,?_,(h.str.set _).other (by omega) _,(h.err.other (by omega) _).set _,?_,(h.bel.setCell (by show w.heap.size≤w.heap.size+1+1;omega) _).setCell (by show w.heap.size≤w.heap.size+1+1+1;omega) _⟩
 ·refine (Below.heap_setCell _ _ _ _ ?_).trans ((Below.heap_setCell _ _ _ _ ?_).trans h.seq)
  ·show w.heap.size+1≠w.heap.size+1+1+1;omega
  ·show w.heap.size+1≠w.heap.size+1+1;omega
 ·obtain ⟨h0,vb,⟨p,hp,hh,ho⟩,h2⟩:=h.bd
  refine ⟨h0,vb,⟨p,hp,?_,own_keptM ho fun k hk => ?_⟩,h2⟩
  ·refine (Below.heap_setCell _ _ _ _ ?_).trans ((Below.heap_setCell _ _ _ _ ?_).trans hh)
   ·show bb≠w.heap.size+1+1+1;omega
   ·show bb≠w.heap.size+1+1;omega
  ·have:=h2 k hk
   refine (Below.heap_setCell _ _ _ _ ?_).trans (Below.heap_setCell _ _ _ _ ?_)
   ·show k≠w.heap.size+1+1+1;omega
   ·show k≠w.heap.size+1+1;omega
end
theorem cells_kept {W W':World} {row:Option Nat} {k n:Nat} {cur:Array Value} {ty:TypeId} {fr:Nat × Nat} (hc:W.heap[k]?=some (.cells cur ty fr)) (hg:W.grownBy W' row) (hr:∀ r,row=some r→n≤r∧∃ o:Obj,W.heap[r]?=some o∧o.isCells=false):W'.heap[k]?=some (.cells cur ty fr):=by
 rw [hg.block k (lt_of_block hc) ?_,hc]
 intro e
 obtain ⟨_,o,ho,h2⟩:=hr k e.symm
 rw [hc] at ho
 cases ho
 cases h2
theorem pw_own {β:Type} (w:World) (b:Nat) (r:List Nat) (g:Int) (bb:Nat) (f:β→List UInt8) (s0:β→ByteArray) (e0:β→Int) {n:Nat} (hn:w.heap.size≤n):OwnFrom n (fun (x:β) W=>PW w W b r g bb (f x) (s0 x) (e0 x)):=fun s W W' row hs hg hr=>by
 refine ⟨cells_kept hs.tab hg hr,cells_kept hs.seq hg hr,cells_kept hs.str hg hr,cells_kept hs.err hg hr,?_,hs.bel.grown hg hs.bel.size (fun k e=>Nat.le_trans hn (hr k e).1)⟩
 obtain ⟨h0,vb,⟨p,hp,hh,ho⟩,h2⟩:=hs.bd
 refine ⟨h0,vb,⟨p,hp,cells_kept hh hg hr,own_keptM ho fun k hk => ?_⟩,h2⟩
 obtain ⟨_,_,cur,hc⟩:=own_ltM ho k hk
 rw [cells_kept hc hg hr,hc]
theorem prEndB {w W:World} {tmps:Array Value} {D:Nat} {s0:ByteArray} {e0:Int} (h4:tmps[4]?=some (.pointer (some ⟨w.heap.size+1+1,0,none⟩))) (h5:tmps[5]?=some (.pointer (some ⟨w.heap.size+1+1+1,0,none⟩))) (hs:Boxed W (w.heap.size+1+1) 9 (.string s0)) (he:Boxed W (w.heap.size+1+1+1) 33 (.int .i64 e0)) (hb:Below w.heap.size w W) (hK:W.heap[D]?=some (.deferred (some []))) (hD:w.heap.size≤D) :
 LeavesInM Fence.wide 5 Tryz.prog Tryz.f22 tmps (fun e' w'=>e'=.returned (.tuple #[.string s0,.int .i64 e0])∧Below w.heap.size w w') [{ target:=.collected D,args:=#[] }] .returning W:=by
 have hl:=(Array.getElem?_eq_some_iff.1 hK).1
 refine ⟨by simp,.inl ⟨_,_,rfl,run_takeDeferred hK,?_⟩⟩
 have n1:w.heap.size+1+1≠D:=fun e=>by have:=hs;rw [Boxed,e,hK] at this;cases this
 have n2:w.heap.size+1+1+1≠D:=fun e=>by have:=he;rw [Boxed,e,hK] at this;cases this
 have hc4:Boxed (W.putObj D (.deferred none)) (w.heap.size+1+1) 9 (.string s0):=(World.putObj_heap_other n1).trans hs
 have hc5:Boxed (W.putObj D (.deferred none)) (w.heap.size+1+1+1) 33 (.int .i64 e0):=(World.putObj_heap_other n2).trans he
 have c4:=hc4.cell
 have c5:=hc5.cell
 refine ⟨.tuple #[.string s0,.int .i64 e0],?_,rfl,below_put hb hD hl _⟩
 simp [results,Tryz.f22,go_sem,c4,c5,h4,h5]
theorem prEnd {w W:World} {tmps:Array Value} {D b bb:Nat} {r:List Nat} {g:Int} {l:List UInt8} {s0:ByteArray} {e0:Int} (h4:tmps[4]?=some (.pointer (some ⟨w.heap.size+1+1,0,none⟩))) (h5:tmps[5]?=some (.pointer (some ⟨w.heap.size+1+1+1,0,none⟩))) (h:PW w W b r g bb l s0 e0) (hK:W.heap[D]?=some (.deferred (some []))) (hD:w.heap.size≤D) :
 LeavesInM Fence.wide 5 Tryz.prog Tryz.f22 tmps (fun e' w'=>e'=.returned (.tuple #[.string s0,.int .i64 e0])∧Below w.heap.size w w') [{ target:=.collected D,args:=#[] }] .returning W:=prEndB h4 h5 h.str h.err h.bel hK hD
theorem bstring_any (W:World) {B bb:Nat} {l:List UInt8} (h:BX B bb l W) (hB:B≤W.heap.size):Calls Tryz.prog 61 #[.pointer (some ⟨bb,0,none⟩)] W fun e w'=>e=.returned (.string ⟨l.toArray⟩)∧Below B W w'∧∀ (k:Nat) (o:Obj),W.heap[k]?=some o→o.isCells=false→w'.heap[k]?=some o:=by
 obtain ⟨cur,hcur⟩:=h.block
 exact (Any.Builder_String_any_k Tryz.lays169 Tryz.Builder_Extra_169 B bb l W (Lib.IsBuilderF.of h.builder) hB).mono fun e w' ⟨he,_,hb,ho⟩=>⟨he,hb,fun k o hk hc=>ho k o hk (fun e=>by cases e;rw [hcur] at hk;cases hk;cases hc) (fun c fz e=>by subst e;cases hc)⟩
theorem prEnd0 {w W:World} {tmps:Array Value} {s0:ByteArray} {e0:Int} (h4:tmps[4]?=some (.pointer (some ⟨w.heap.size+1+1,0,none⟩))) (h5:tmps[5]?=some (.pointer (some ⟨w.heap.size+1+1+1,0,none⟩))) (hs:Boxed W (w.heap.size+1+1) 9 (.string s0)) (he:Boxed W (w.heap.size+1+1+1) 33 (.int .i64 e0)) (hb:Below w.heap.size w W) :
 LeavesInM Fence.wide 5 Tryz.prog Tryz.f22 tmps (fun e' w'=>e'=.returned (.tuple #[.string s0,.int .i64 e0])∧Below w.heap.size w w') [] .returning W:=by
 have c4:=hs.cell
 have c5:=he.cell
 refine ⟨.tuple #[.string s0,.int .i64 e0],?_,rfl,hb⟩
 simp [results,Tryz.f22,go_sem,c4,c5,h4,h5]
theorem kx_mark {B bb D:Nat} {W W':World} (h:KX B bb W W') {cur:Array Value} {ty:TypeId} {fr:Nat × Nat} (hc:W.heap[bb]?=some (.cells cur ty fr)) (hK:W.heap[D]?=some (.deferred (some []))):W'.heap[D]?=some (.deferred (some [])):=(h.keeps hc).same D _ hK rfl
theorem mark_set2 {W:World} {D p q:Nat} {x y:Value} (hK:W.heap[D]?=some (.deferred (some []))) (h1:D≠p) (h2:D≠q):((W.setCell ⟨p,0,none⟩ x).setCell ⟨q,0,none⟩ y).heap[D]?=some (.deferred (some [])):=(Below.heap_setCell _ _ _ _ h2).trans ((Below.heap_setCell _ _ _ _ h1).trans hK)
def PI (w:World) (b:Nat) (t:List Nd) (r:List Nat) (g:Int) (bb:Nat) (pre:List Nat) (W:World):Prop:=(prF t pre).2=0∧PW w W b r g bb (prF t pre).1 ⟨#[]⟩ 0
def PX (w:World) (b:Nat) (t:List Nd) (r:List Nat) (g:Int) (bb:Nat) (c:Code) (pre:List Nat) (W:World):Prop:=(c=.ret∧(prF t pre).2≠0)∧PW w W b r g bb (prF t pre).1 ⟨#[]⟩ (prF t pre).2
set_option maxRecDepth 100000 in
set_option maxHeartbeats 1000000 in
theorem qprint_any (w:World) {b m:Nat} {v:Value} {t:List Nd} (hT:Tb w b m v t) (hZ:Bt.Tz w) {r:List Nat} (hr:Ok r) (g:Int) :
 Calls Tryz.prog 22 #[.pointer (some ⟨b,0,none⟩),.agg (cellsQ r g)] w fun e w'=>e=.returned (.tuple #[.string ⟨(printQ t r g).1.toArray⟩,.int .i64 (printQ t r g).2])∧Below w.heap.size w w':=by
 have hl16:=hr.1
 have KC:=show Hid (∀ w',Below w.heap.size w w'→Calls Tryz.prog 15 #[.pointer (some ⟨b,0,none⟩),.agg (cellsQ r g)] w' fun e w''=>e=.returned (.int .i64 (chkQ t r g))∧Below w'.heap.size w' w'') from fun w' hb=>qcheck_any w' (hT.later hb) (Bt.tz_block hZ hb) hr g
 have KA:=show Hid (∀ w,Calls Tryz.prog 43 #[.agg (Bt.cellsB r)] w fun e w'=>e=.returned (.func (.func 90) #[] #[.pointer (some ⟨w.heap.size,0,none⟩)])∧w'=w.alloc (.cells (Bt.cellsB r) 25)) from fun w=>Bt.all_any w r
 have KW:=show Hid (∀ w1 B bb l i,Below w.heap.size w w1→BX B bb l w1→B≤w1.heap.size→l.length≤1000000→Calls Tryz.prog 60 #[.pointer (some ⟨bb,0,none⟩),.pointer (some ⟨b,0,none⟩),.int .i64 i] w1 fun e w'=>e=.returned (.int .i64 (wrQ t l i).2)∧BX B bb (wrQ t l i).1 w'∧KX B bb w1 w') from fun w1 B bb l i hb h1 h2 h3=>qwrite_any w1 (hT.later hb) h1 h2 h3 i
 have KS:=show Hid (∀ w1 B bb l,BX B bb l w1→B≤w1.heap.size→Calls Tryz.prog 61 #[.pointer (some ⟨bb,0,none⟩)] w1 fun e w'=>e=.returned (.string ⟨l.toArray⟩)∧Below B w1 w'∧∀ (k:Nat) (o:Obj),w1.heap[k]?=some o→o.isCells=false→w'.heap[k]?=some o) from fun w1 B bb l h1 h2=>bstring_any w1 h1 h2
 have HZ:=show Hid (Bt.Tz w) from hZ
 have HRK:=show Hid (Ok r) from hr
 have HQ:=show Hid (printQ t r g=if chkQ t r g=0 then (if (prF t (Bt.Bs.nums r)).2=0 then (if (wrQ t (ahQ (prF t (Bt.Bs.nums r)).1) g).2=0 then ((wrQ t (ahQ (prF t (Bt.Bs.nums r)).1) g).1,0) else ([],(wrQ t (ahQ (prF t (Bt.Bs.nums r)).1) g).2)) else ([],(prF t (Bt.Bs.nums r)).2)) else ([],chkQ t r g)) from rfl
 generalize printQ t r g=ans at *
 generalize chkQ t r g=ck at *
 refine (callsIn_wide (n:=5)).1 ?_
 refine callsIn_of_wp_marks Tryz.func22 rfl trivial ?_ rfl
 simp only [Tryz.ntmps22,List.size_toArray,List.length_cons,List.length_nil,Nat.reduceAdd,Nat.reduceSub,Array.replicate_succ,Array.replicate_zero,List.push_toArray,List.append_toArray,List.nil_append,List.cons_append]
 clear hT hZ hr
 obtain ⟨w0,hw0⟩:∃ w0,w0=(((w.alloc (.cells #[.pointer (some ⟨b,0,none⟩)] 29)).alloc (.cells (cellsQ r g) 27)).alloc (.cells #[.string ⟨#[]⟩] 9)).alloc (.cells #[.int .i64 0] 33):=⟨_,rfl⟩
 have hz0:w0.heap.size=w.heap.size+1+1+1+1:=by rw [hw0];simp
 have hb0:Below w.heap.size w w0:=by rw [hw0];exact ((((Below.refl _ _).alloc (Nat.le_refl _) _).alloc (by simp) _).alloc (by simp;omega) _).alloc (by simp;omega) _
 have p0:Boxed w0 w.heap.size 29 (.pointer (some ⟨b,0,none⟩)):=by rw [hw0];exact (Below.heap_alloc _ _ _ (by first | (simp;done) | (simp;omega))).trans ((Below.heap_alloc _ _ _ (by first | (simp;done) | (simp;omega))).trans ((Below.heap_alloc _ _ _ (by simp)).trans (heap_alloc_new _ _)))
 have p1:SeqAt w0 (w.heap.size+1) r g:=by rw [hw0];exact (Below.heap_alloc _ _ _ (by first | (simp;done) | (simp;omega))).trans ((Below.heap_alloc _ _ _ (by simp)).trans (heap_new_at _ _ _ (by simp)))
 have p2:Boxed w0 (w.heap.size+1+1) 9 (.string ⟨#[]⟩):=by rw [hw0];exact (Below.heap_alloc _ _ _ (by simp)).trans (heap_new_at _ _ _ (by simp))
 have p3:Boxed w0 (w.heap.size+1+1+1) 33 (.int .i64 0):=by rw [hw0];exact heap_new_at _ _ _ (by simp)
 have H0:=show Hid (Below w.heap.size w w0∧Boxed w0 w.heap.size 29 (.pointer (some ⟨b,0,none⟩))∧SeqAt w0 (w.heap.size+1) r g∧Boxed w0 (w.heap.size+1+1) 9 (.string ⟨#[]⟩)∧Boxed w0 (w.heap.size+1+1+1) 33 (.int .i64 0)) from ⟨hb0,p0,p1,p2,p3⟩
 have p1':SeqAt ((((w.alloc (.cells #[.pointer (some ⟨b,0,none⟩)] 29)).alloc (.cells (cellsQ r g) 27)).alloc (.cells #[.string ⟨#[]⟩] 9)).alloc (.cells #[.int .i64 0] 33)) (w.heap.size+1) r g:=by rw [← hw0];exact p1
 have HP1:=show Hid _ from p1'
 clear hb0 p0 p1 p2 p3 p1'
 gi_wp2_with (first | (refine ldQIn _ _ rfl _ rfl HP1.out hl16 rfl ?_))
 refine ⟨trivial,?_⟩
 rw [← hw0]
 clear hw0 HP1
 refine (callsIn_wide.2 (KC.out w0 H0.out.1)).mono ?_
 rintro e w1 ⟨rfl,hb1⟩
 have H1:=show Hid (Below w.heap.size w w1∧Boxed w1 w.heap.size 29 (.pointer (some ⟨b,0,none⟩))∧SeqAt w1 (w.heap.size+1) r g∧Boxed w1 (w.heap.size+1+1) 9 (.string ⟨#[]⟩)∧Boxed w1 (w.heap.size+1+1+1) 33 (.int .i64 0)∧w.heap.size+1+1+1+1≤w1.heap.size) from ⟨H0.out.1.trans (hb1.mono H0.out.1.size),box_later H0.out.2.1 hb1 H0.out.2.1.lt,H0.out.2.2.1.later hb1 H0.out.2.2.1.lt,box_later H0.out.2.2.2.1 hb1 H0.out.2.2.2.1.lt,box_later H0.out.2.2.2.2 hb1 H0.out.2.2.2.2.lt,by have:=hb1.size;omega⟩
 clear hb1 H0 hz0 KC
 have c4:=H1.out.2.2.2.1.cell
 have f4:=H1.out.2.2.2.1.frozen
 have c5:=H1.out.2.2.2.2.1.cell
 have f5:=H1.out.2.2.2.2.1.frozen
 by_cases hc:ck=0
 ·subst hc
  have hQ:=HQ.out
  simp only [if_true] at hQ
  have HQ2:=show Hid _ from hQ
  have HP1:=show Hid (SeqAt (w1.alloc (Obj.cells #[.pointer none,.slice none 0 0] 115)) (w.heap.size+1) r g) from H1.out.2.2.1.later (below_alloc _ _) H1.out.2.2.1.lt
  clear hQ HQ c4 f4 c5 f5
  gi_wp2_with (first | (refine ldBQIn _ _ rfl _ rfl HP1.out hl16 rfl ?_))
  refine ⟨trivial,?_⟩
  refine (callsIn_wide.2 (KA.out _)).mono ?_
  rintro e w2 ⟨rfl,hw2⟩
  have hbx:=bx_new w1 (B:=w.heap.size+1+1+1+1) H1.out.2.2.2.2.2
  have hb2:Below w1.heap.size w1 w2:=by rw [hw2];exact Bt.below_two w1 _ _
  have hq2:Bt.RowAt w2 (w1.alloc (Obj.cells #[.pointer none,.slice none 0 0] 115)).heap.size r:=by rw [hw2];exact heap_alloc_last _ _
  have H2:=show Hid (PW w w2 b r g w1.heap.size [] ⟨#[]⟩ 0) from ⟨box_later H1.out.2.1 hb2 H1.out.2.1.lt,H1.out.2.2.1.later hb2 H1.out.2.2.1.lt,box_later H1.out.2.2.2.1 hb2 H1.out.2.2.2.1.lt,box_later H1.out.2.2.2.2.1 hb2 H1.out.2.2.2.2.1.lt,by rw [hw2];exact hbx.later (below_alloc _ _),H1.out.1.trans (hb2.mono H1.out.1.size)⟩
  generalize (w1.alloc (Obj.cells #[.pointer none,.slice none 0 0] 115)).heap.size=q at *
  generalize w1.heap.size=bb at *
  have HS:=show Hid (SeqStopsK Fence.wide 4 Tryz.prog 90 #[.pointer (some ⟨q,0,none⟩)] (fun x:Nat=>#[Value.int .i64 (x:Int)]) (Below w.heap.size) (fun ys=>ys=Bt.Bs.nums r) (fun pre=>pre <+: Bt.Bs.nums r) (Bt.Bs.nums r).length w2) from Bt.all_stops 4 (by omega) q w.heap.size HRK.out w2 hq2 (Bt.tz_block HZ.out H2.out.bel) (Bt.tz_lt HZ.out)
  clear hw2 hbx hb2 hq2 H1 HP1 KA
  gi_wp2
  refine range_ex rfl (by omega) (gf:=90) (lb:=#[.pointer (some ⟨q,0,none⟩)]) rfl trivial (enters_of Tryz.func90 (by kernel_rfl) rfl) HS.out H2.out.bel.size (Below.refl _ _) (fun _=>rfl)
   (PI w b t r g bb) (PX w b t r g bb) (OwnFrom.and (ownFrom_pure _ (fun pre:List Nat=>(prF t pre).2=0)) (pw_own w b r g bb (fun pre=>(prF t pre).1) (fun _=>⟨#[]⟩) (fun _=>0) H2.out.bel.size)) (fun c=>OwnFrom.and (ownFrom_pure _ (fun pre:List Nat=>c=.ret∧(prF t pre).2≠0)) (pw_own w b r g bb (fun pre=>(prF t pre).1) (fun _=>⟨#[]⟩) (fun pre=>(prF t pre).2) H2.out.bel.size)) ⟨rfl,H2.out⟩ ?ab ?done ?stop
  case ab =>
   apply Exists.intro
   refine ⟨?assign,?body⟩
   case assign =>
    intro l x W K hK
    gi_wp2
    exact hK
   case body =>
    rintro l pre x W ⟨hp,hpw⟩ hlt
    have hln:=prF_len t pre hp
    have HF0:=show Hid (prF t (pre ++ [x])=wrQ t (if 0<(prF t pre).1.length then (prF t pre).1 ++ [44,32] else (prF t pre).1) (x:Int)) from by
     show prF t (pre ++ [x])=_
     rw [prF_snoc]
     unfold prS
     rw [if_pos hp]
    obtain ⟨L,hL⟩:∃ L,L=(prF t pre).1:=⟨_,rfl⟩
    rw [← hL] at hln HF0 hpw
    have HPW:=show Hid (PW w W b r g bb L ⟨#[]⟩ 0) from hpw
    obtain ⟨cur,hbb⟩:=hpw.bd.block
    have HBB:=show Hid (W.heap[bb]?=some (.cells cur 115 (0,0))) from hbb
    have KL:=show Hid (∀ w1:World,BX (w.heap.size+1+1+1+1) bb L w1→Calls Tryz.prog 58 #[.pointer (some ⟨bb,0,none⟩)] w1 fun e w'=>e=.returned (.int .i64 (L.length:Int))∧w'=w1) from fun w1 h=>blen_any w1 h
    have KB:=show Hid (∀ w1:World,BX (w.heap.size+1+1+1+1) bb L w1→w.heap.size+1+1+1+1≤w1.heap.size→Calls Tryz.prog 59 #[.pointer (some ⟨bb,0,none⟩),.string ⟨#[44,32]⟩] w1 fun e w'=>e=.returned (.tuple #[.int .i64 2,.nilIface])∧BX (w.heap.size+1+1+1+1) bb (L ++ [44,32]) w'∧KX (w.heap.size+1+1+1+1) bb w1 w') from fun w1 h1 h2=>bwrite_any w1 h1 h2 ⟨#[44,32]⟩ (by show L.length+2≤_;omega)
    have t0:=hpw.tab.cell
    clear hL hp hpw hbb KS HQ2 HS H2 HZ HRK
    gi_wp2
    refine ⟨trivial,?_⟩
    refine (CallsIn.inRound l (callsIn_wide.2 (KL.out _ HPW.out.bd))).mono ?_
    rintro e W1 ⟨rfl,hW1⟩
    subst W1
    by_cases h0:0<L.length
    ·have h0i:(0:Int)<(L.length:Int):=by omega
     gi_wp2
     refine ⟨trivial,?_⟩
     refine (CallsIn.inRound l (callsIn_wide.2 (KB.out _ HPW.out.bd HPW.out.sz))).mono ?_
     rintro e W2 ⟨rfl,hb2,hk2⟩
     obtain ⟨L1,hL1⟩:∃ L1,L1=L ++ [44,32]:=⟨_,rfl⟩
     have hl1:L1.length≤65538:=by rw [hL1];simp;omega
     rw [← hL1] at hb2
     have HW2:=show Hid (PW w W2 b r g bb L1 ⟨#[]⟩ 0∧KX (w.heap.size+1+1+1+1) bb W W2) from ⟨HPW.out.kx hk2 hb2,hk2⟩
     obtain ⟨qs,hq⟩:∃ qs,qs=wrQ t L1 (x:Int):=⟨_,rfl⟩
     have hf:prF t (pre ++ [x])=qs:=by rw [HF0.out,if_pos h0,← hL1,hq]
     have HF:=show Hid (prF t (pre ++ [x])=qs) from hf
     replace t0:=HW2.out.1.tab.cell
     have KW1:=show Hid (∀ w1,Below w.heap.size w w1→BX (w.heap.size+1+1+1+1) bb L1 w1→w.heap.size+1+1+1+1≤w1.heap.size→Calls Tryz.prog 60 #[.pointer (some ⟨bb,0,none⟩),.pointer (some ⟨b,0,none⟩),.int .i64 (x:Int)] w1 fun e w'=>e=.returned (.int .i64 qs.2)∧BX (w.heap.size+1+1+1+1) bb qs.1 w'∧KX (w.heap.size+1+1+1+1) bb w1 w') from fun w1 h1 h2 h3=>by rw [hq];exact KW.out w1 _ bb L1 (x:Int) h1 h2 h3 (by omega)
     clear hb2 hk2 hL1 HF0 hq hf KW
     gi_wp2
     refine ⟨trivial,?_⟩
     refine (CallsIn.inRound l (callsIn_wide.2 (KW1.out W2 HW2.out.1.bel HW2.out.1.bd HW2.out.1.sz))).mono ?_
     rintro e W3 ⟨rfl,hb3,hk3⟩
     have HW3:=show Hid (PW w W3 b r g bb qs.1 ⟨#[]⟩ 0∧KX (w.heap.size+1+1+1+1) bb W W3) from ⟨HW2.out.1.kx hk3 hb3,HW2.out.2.trans hk3⟩
     have HKO:=show Hid (KeepsOthers W W3∧Below w.heap.size W W3) from ⟨HW3.out.2.keeps HBB.out,(HW3.out.2.below HPW.out.bge HPW.out.sz).mono (by omega)⟩
     clear hb3 hk3 HW2 KW1 KL KB
     by_cases hz:qs.2=0
     ·simp only [hz]
      gi_wp2
      refine ⟨HKO.out.1,HKO.out.2,?_,?_⟩
      ·rw [HF.out];exact hz
      ·rw [HF.out];exact HW3.out.1
     ·have hzb:(qs.2 != 0)=true:=by simpa using hz
      have c4:=HW3.out.1.str.cell
      have f4:=HW3.out.1.str.frozen
      have c5:=HW3.out.1.err.cell
      have f5:=HW3.out.1.err.frozen
      gi_wp2
      refine ⟨(HKO.out.1.trans (KeepsOthers.setCell _ _ _)).trans (KeepsOthers.setCell _ _ _),⟨rfl,?_⟩,?_⟩
      ·rw [HF.out];exact hz
      ·rw [HF.out];exact HW3.out.1.set ⟨#[]⟩ qs.2
    ·have h0i:¬ (0:Int)<(L.length:Int):=by omega
     obtain ⟨L1,hL1⟩:∃ L1,L1=L:=⟨_,rfl⟩
     have hl1:L1.length≤65538:=by rw [hL1];omega
     obtain ⟨W2,hW2⟩:∃ W2,W2=W:=⟨_,rfl⟩
     have HW2:=show Hid (PW w W2 b r g bb L1 ⟨#[]⟩ 0∧KX (w.heap.size+1+1+1+1) bb W W2) from by rw [hW2,hL1];exact ⟨HPW.out,KX.refl _ _ _⟩
     obtain ⟨qs,hq⟩:∃ qs,qs=wrQ t L1 (x:Int):=⟨_,rfl⟩
     have hf:prF t (pre ++ [x])=qs:=by rw [HF0.out,if_neg h0,← hL1,hq]
     have HF:=show Hid (prF t (pre ++ [x])=qs) from hf
     have KW1:=show Hid (∀ w1,Below w.heap.size w w1→BX (w.heap.size+1+1+1+1) bb L1 w1→w.heap.size+1+1+1+1≤w1.heap.size→Calls Tryz.prog 60 #[.pointer (some ⟨bb,0,none⟩),.pointer (some ⟨b,0,none⟩),.int .i64 (x:Int)] w1 fun e w'=>e=.returned (.int .i64 qs.2)∧BX (w.heap.size+1+1+1+1) bb qs.1 w'∧KX (w.heap.size+1+1+1+1) bb w1 w') from fun w1 h1 h2 h3=>by rw [hq];exact KW.out w1 _ bb L1 (x:Int) h1 h2 h3 (by omega)
     clear hL1 HF0 hq hf KW
     gi_wp2
     rw [← hW2]
     refine ⟨trivial,?_⟩
     refine (CallsIn.inRound l (callsIn_wide.2 (KW1.out W2 HW2.out.1.bel HW2.out.1.bd HW2.out.1.sz))).mono ?_
     rintro e W3 ⟨rfl,hb3,hk3⟩
     have HW3:=show Hid (PW w W3 b r g bb qs.1 ⟨#[]⟩ 0∧KX (w.heap.size+1+1+1+1) bb W W3) from ⟨HW2.out.1.kx hk3 hb3,HW2.out.2.trans hk3⟩
     have HKO:=show Hid (KeepsOthers W W3∧Below w.heap.size W W3) from ⟨HW3.out.2.keeps HBB.out,(HW3.out.2.below HPW.out.bge HPW.out.sz).mono (by omega)⟩
     clear hb3 hk3 HW2 KW1 KL KB
     by_cases hz:qs.2=0
     ·simp only [hz]
      gi_wp2
      refine ⟨HKO.out.1,HKO.out.2,?_,?_⟩
      ·rw [HF.out];exact hz
      ·rw [HF.out];exact HW3.out.1
     ·have hzb:(qs.2 != 0)=true:=by simpa using hz
      have c4:=HW3.out.1.str.cell
      have f4:=HW3.out.1.str.frozen
      have c5:=HW3.out.1.err.cell
      have f5:=HW3.out.1.err.frozen
      gi_wp2
      refine ⟨(HKO.out.1.trans (KeepsOthers.setCell _ _ _)).trans (KeepsOthers.setCell _ _ _),⟨rfl,?_⟩,?_⟩
      ·rw [HF.out];exact hz
      ·rw [HF.out];exact HW3.out.1.set ⟨#[]⟩ qs.2
  case done =>
   rintro D ys W hD rfl ⟨hp,hpw⟩ hK
   have hln:=prF_len t _ hp
   have hQ:=HQ2.out
   rw [if_pos hp] at hQ
   obtain ⟨L,hL⟩:∃ L,L=(prF t (Bt.Bs.nums r)).1:=⟨_,rfl⟩
   rw [← hL] at hln hQ hpw
   obtain ⟨L3,hL3⟩:∃ L3,L3=ahQ L:=⟨_,rfl⟩
   rw [← hL3] at hQ
   have hl3:L3.length≤65540:=by
    rw [hL3]
    unfold ahQ
    split <;> simp <;> omega
   obtain ⟨qs,hq⟩:∃ qs,qs=wrQ t L3 g:=⟨_,rfl⟩
   rw [← hq] at hQ
   have HQ3:=show Hid (ans=if qs.2=0 then (qs.1,0) else ([],qs.2)) from hQ
   have HPW:=show Hid (PW w W b r g bb L ⟨#[]⟩ 0) from hpw
   obtain ⟨cur,hbb⟩:=hpw.bd.block
   have HBB:=show Hid (W.heap[bb]?=some (.cells cur 115 (0,0))) from hbb
   have hDn:w.heap.size+1+1≠D:=fun e=>by have:=hpw.str;rw [Boxed,e,hK] at this;cases this
   have hDn2:w.heap.size+1+1+1≠D:=fun e=>by have:=hpw.err;rw [Boxed,e,hK] at this;cases this
   have KL:=show Hid (∀ w1:World,BX (w.heap.size+1+1+1+1) bb L w1→Calls Tryz.prog 58 #[.pointer (some ⟨bb,0,none⟩)] w1 fun e w'=>e=.returned (.int .i64 (L.length:Int))∧w'=w1) from fun w1 h=>blen_any w1 h
   have KB:=show Hid (∀ w1:World,BX (w.heap.size+1+1+1+1) bb L w1→w.heap.size+1+1+1+1≤w1.heap.size→Calls Tryz.prog 59 #[.pointer (some ⟨bb,0,none⟩),.string ⟨#[32]⟩] w1 fun e w'=>e=.returned (.tuple #[.int .i64 1,.nilIface])∧BX (w.heap.size+1+1+1+1) bb (L ++ [32]) w'∧KX (w.heap.size+1+1+1+1) bb w1 w') from fun w1 h1 h2=>bwrite_any w1 h1 h2 ⟨#[32]⟩ (by show L.length+1≤_;omega)
   have t0:=hpw.tab.cell
   have KW1:=show Hid (∀ w1,Below w.heap.size w w1→BX (w.heap.size+1+1+1+1) bb L3 w1→w.heap.size+1+1+1+1≤w1.heap.size→Calls Tryz.prog 60 #[.pointer (some ⟨bb,0,none⟩),.pointer (some ⟨b,0,none⟩),.int .i64 g] w1 fun e w'=>e=.returned (.int .i64 qs.2)∧BX (w.heap.size+1+1+1+1) bb qs.1 w'∧KX (w.heap.size+1+1+1+1) bb w1 w') from fun w1 h1 h2 h3=>by rw [hq];exact KW.out w1 _ bb L3 g h1 h2 h3 (by omega)
   clear hL hp hpw hbb HQ2 HS hQ HZ HRK hq KW
   gi_wp2
   refine ⟨trivial,?_⟩
   refine (callsIn_wide.2 (KL.out _ HPW.out.bd)).mono ?_
   rintro e W1 ⟨rfl,hW1⟩
   subst W1
   by_cases h0:0<L.length
   ·have h0i:(0:Int)<(L.length:Int):=by omega
    have hL3':L3=(L ++ [32]) ++ [124,45,32]:=by rw [hL3];unfold ahQ;rw [if_pos h0]
    have KT:=show Hid (∀ w1:World,BX (w.heap.size+1+1+1+1) bb (L ++ [32]) w1→w.heap.size+1+1+1+1≤w1.heap.size→Calls Tryz.prog 59 #[.pointer (some ⟨bb,0,none⟩),.string ⟨#[124,45,32]⟩] w1 fun e w'=>e=.returned (.tuple #[.int .i64 3,.nilIface])∧BX (w.heap.size+1+1+1+1) bb L3 w'∧KX (w.heap.size+1+1+1+1) bb w1 w') from fun w1 h1 h2=>by rw [hL3'];exact bwrite_any w1 h1 h2 ⟨#[124,45,32]⟩ (by show (L ++ [32]).length+3≤_;simp;omega)
    clear hL3 hL3'
    gi_wp2
    refine ⟨trivial,?_⟩
    refine (callsIn_wide.2 (KB.out _ HPW.out.bd HPW.out.sz)).mono ?_
    rintro e W2 ⟨rfl,hb2,hk2⟩
    have HW2:=show Hid (PW w W2 b r g bb (L ++ [32]) ⟨#[]⟩ 0∧KX (w.heap.size+1+1+1+1) bb W W2) from ⟨HPW.out.kx hk2 hb2,hk2⟩
    clear hb2 hk2
    gi_wp2
    refine ⟨trivial,?_⟩
    refine (callsIn_wide.2 (KT.out W2 HW2.out.1.bd HW2.out.1.sz)).mono ?_
    rintro e W3 ⟨rfl,hb3,hk3⟩
    have HW3:=show Hid (PW w W3 b r g bb L3 ⟨#[]⟩ 0∧KX (w.heap.size+1+1+1+1) bb W W3) from ⟨HW2.out.1.kx hk3 hb3,HW2.out.2.trans hk3⟩
    have hK3:=kx_mark HW3.out.2 HBB.out hK
    replace t0:=HW3.out.1.tab.cell
    have tg:=HW3.out.1.seq.goal hl16
    clear hb3 hk3 HW2 KT
    gi_wp2
    refine ⟨trivial,?_⟩
    refine (callsIn_wide.2 (KW1.out W3 HW3.out.1.bel HW3.out.1.bd HW3.out.1.sz)).mono ?_
    rintro e W4 ⟨rfl,hb4,hk4⟩
    have HW4:=show Hid (PW w W4 b r g bb qs.1 ⟨#[]⟩ 0∧KX (w.heap.size+1+1+1+1) bb W W4) from ⟨HW3.out.1.kx hk4 hb4,HW3.out.2.trans hk4⟩
    have hK4:=kx_mark HW4.out.2 HBB.out hK
    clear hb4 hk4 HW3 KW1 hK3 t0 tg
    by_cases hz:qs.2=0
    ·simp only [hz]
     have hQ:=HQ3.out
     rw [if_pos hz] at hQ
     subst hQ
     gi_wp2
     refine ⟨trivial,?_⟩
     refine (callsIn_wide.2 (KS.out W4 _ bb qs.1 HW4.out.1.bd HW4.out.1.sz)).mono ?_
     rintro e W5 ⟨rfl,hb5,ho5⟩
     have hg:=HW4.out.1.bge
     have hs5:=box_later HW4.out.1.str hb5 (by omega)
     have he5:=box_later HW4.out.1.err hb5 (by omega)
     have HE:=show Hid (Boxed W5 (w.heap.size+1+1) 9 (.string ⟨#[]⟩)∧Boxed W5 (w.heap.size+1+1+1) 33 (.int .i64 0)∧Below w.heap.size w W5∧W5.heap[D]?=some (.deferred (some []))) from ⟨hs5,he5,HW4.out.1.bel.trans (hb5.mono (by omega)),ho5 D _ hK4 rfl⟩
     have c4:=hs5.cell
     have f4:=hs5.frozen
     have c5:=he5.cell
     have f5:=he5.frozen
     clear hb5 ho5 hs5 he5 KS
     gi_wp2
     refine prEndB rfl rfl ((HE.out.1.set _).other (by omega) _) ((HE.out.2.1.other (by omega) _).set _) ((HE.out.2.2.1.setCell (by show w.heap.size≤w.heap.size+1+1;omega) _).setCell (by show w.heap.size≤w.heap.size+1+1+1;omega) _) ?_ (by have:=H2.out.bel.size;omega)
     exact mark_set2 HE.out.2.2.2 (by omega) (by omega)
    ·have hzb:(qs.2 != 0)=true:=by simpa using hz
     have hQ:=HQ3.out
     rw [if_neg hz] at hQ
     subst hQ
     have c4:=HW4.out.1.str.cell
     have f4:=HW4.out.1.str.frozen
     have c5:=HW4.out.1.err.cell
     have f5:=HW4.out.1.err.frozen
     gi_wp2
     refine prEnd rfl rfl (HW4.out.1.set ⟨#[]⟩ qs.2) ?_ (by have:=H2.out.bel.size;omega)
     exact mark_set2 hK4 (by omega) (by omega)
   ·have h0i:¬ (0:Int)<(L.length:Int):=by omega
    have hL3':L3=L ++ [124,45,32]:=by rw [hL3];unfold ahQ;rw [if_neg h0]
    have KT:=show Hid (∀ w1:World,BX (w.heap.size+1+1+1+1) bb L w1→w.heap.size+1+1+1+1≤w1.heap.size→Calls Tryz.prog 59 #[.pointer (some ⟨bb,0,none⟩),.string ⟨#[124,45,32]⟩] w1 fun e w'=>e=.returned (.tuple #[.int .i64 3,.nilIface])∧BX (w.heap.size+1+1+1+1) bb L3 w'∧KX (w.heap.size+1+1+1+1) bb w1 w') from fun w1 h1 h2=>by rw [hL3'];exact bwrite_any w1 h1 h2 ⟨#[124,45,32]⟩ (by show L.length+3≤_;omega)
    clear hL3 hL3'
    obtain ⟨W2,hW2⟩:∃ W2,W2=W:=⟨_,rfl⟩
    have HW2:=show Hid (PW w W2 b r g bb L ⟨#[]⟩ 0∧KX (w.heap.size+1+1+1+1) bb W W2) from by rw [hW2];exact ⟨HPW.out,KX.refl _ _ _⟩
    gi_wp2
    rw [← hW2]
    refine ⟨trivial,?_⟩
    refine (callsIn_wide.2 (KT.out W2 HW2.out.1.bd HW2.out.1.sz)).mono ?_
    rintro e W3 ⟨rfl,hb3,hk3⟩
    have HW3:=show Hid (PW w W3 b r g bb L3 ⟨#[]⟩ 0∧KX (w.heap.size+1+1+1+1) bb W W3) from ⟨HW2.out.1.kx hk3 hb3,HW2.out.2.trans hk3⟩
    have hK3:=kx_mark HW3.out.2 HBB.out hK
    replace t0:=HW3.out.1.tab.cell
    have tg:=HW3.out.1.seq.goal hl16
    clear hb3 hk3 HW2 KT
    gi_wp2
    refine ⟨trivial,?_⟩
    refine (callsIn_wide.2 (KW1.out W3 HW3.out.1.bel HW3.out.1.bd HW3.out.1.sz)).mono ?_
    rintro e W4 ⟨rfl,hb4,hk4⟩
    have HW4:=show Hid (PW w W4 b r g bb qs.1 ⟨#[]⟩ 0∧KX (w.heap.size+1+1+1+1) bb W W4) from ⟨HW3.out.1.kx hk4 hb4,HW3.out.2.trans hk4⟩
    have hK4:=kx_mark HW4.out.2 HBB.out hK
    clear hb4 hk4 HW3 KW1 hK3 t0 tg
    by_cases hz:qs.2=0
    ·simp only [hz]
     have hQ:=HQ3.out
     rw [if_pos hz] at hQ
     subst hQ
     gi_wp2
     refine ⟨trivial,?_⟩
     refine (callsIn_wide.2 (KS.out W4 _ bb qs.1 HW4.out.1.bd HW4.out.1.sz)).mono ?_
     rintro e W5 ⟨rfl,hb5,ho5⟩
     have hg:=HW4.out.1.bge
     have hs5:=box_later HW4.out.1.str hb5 (by omega)
     have he5:=box_later HW4.out.1.err hb5 (by omega)
     have HE:=show Hid (Boxed W5 (w.heap.size+1+1) 9 (.string ⟨#[]⟩)∧Boxed W5 (w.heap.size+1+1+1) 33 (.int .i64 0)∧Below w.heap.size w W5∧W5.heap[D]?=some (.deferred (some []))) from ⟨hs5,he5,HW4.out.1.bel.trans (hb5.mono (by omega)),ho5 D _ hK4 rfl⟩
     have c4:=hs5.cell
     have f4:=hs5.frozen
     have c5:=he5.cell
     have f5:=he5.frozen
     clear hb5 ho5 hs5 he5 KS
     gi_wp2
     refine prEndB rfl rfl ((HE.out.1.set _).other (by omega) _) ((HE.out.2.1.other (by omega) _).set _) ((HE.out.2.2.1.setCell (by show w.heap.size≤w.heap.size+1+1;omega) _).setCell (by show w.heap.size≤w.heap.size+1+1+1;omega) _) ?_ (by have:=H2.out.bel.size;omega)
     exact mark_set2 HE.out.2.2.2 (by omega) (by omega)
    ·have hzb:(qs.2 != 0)=true:=by simpa using hz
     have hQ:=HQ3.out
     rw [if_neg hz] at hQ
     subst hQ
     have c4:=HW4.out.1.str.cell
     have f4:=HW4.out.1.str.frozen
     have c5:=HW4.out.1.err.cell
     have f5:=HW4.out.1.err.frozen
     gi_wp2
     refine prEnd rfl rfl (HW4.out.1.set ⟨#[]⟩ qs.2) ?_ (by have:=H2.out.bel.size;omega)
     exact mark_set2 hK4 (by omega) (by omega)
  case stop =>
   rintro D c pre W hD hpre ⟨⟨rfl,hne⟩,hpw⟩ hK
   obtain ⟨suf,hsuf⟩:=hpre
   have hnum:prF t (Bt.Bs.nums r)=prF t pre:=by rw [← hsuf];exact prF_stop t hne suf
   have hQ:=HQ2.out
   rw [hnum,if_neg hne] at hQ
   subst hQ
   gi_wp2
   exact prEnd rfl rfl hpw hK (by have:=H2.out.bel.size;omega)
 ·have hcb:(ck != 0)=true:=by simpa using hc
  have hQ:=HQ.out
  rw [if_neg hc] at hQ
  subst hQ
  clear HQ KA KW KS
  gi_wp2
  refine prEnd0 rfl rfl ((H1.out.2.2.2.1.set (.string ⟨#[]⟩)).other (by omega) _) ((H1.out.2.2.2.2.1.other (by omega) _).set _) ((H1.out.1.setCell (by show w.heap.size≤w.heap.size+1+1;omega) _).setCell (by show w.heap.size≤w.heap.size+1+1+1;omega) _)
end Go.Proofs.YtkmmlimekachbaaGreatDoor
