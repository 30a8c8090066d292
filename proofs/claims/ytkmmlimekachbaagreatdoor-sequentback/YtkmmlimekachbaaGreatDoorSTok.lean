/-
  The calls tokens, counts over a list, tooMany and Count. For every text of at most 2^40 bytes, where the tables stand as the program's text lays them.
-/
import Derived.Test.YtkmmlimekachbaaGreatDoorSG1
import Derived.Test.YtkmmlimekachbaaGreatDoorTG3
import Derived.Test.YtkmmlimekachbaaGreatDoorTG1
namespace Go.Proofs.YtkmmlimekachbaaGreatDoor
open Go.RowKit Go.Maps
open Fm (Nd)
open Sx (Tn T Lv)
def tn (s:List UInt8) (t:Tk.Tok × Nat):Tn:=⟨t.1.1,⟨t.1.2.1.toArray⟩,t.1.2.2,(Tk.spot s t.2).1,(Tk.spot s t.2).2,(t.2:Int)⟩
def mk (ts:List Tn):List Tn:=ts.dropLast ++ (ts.getLast?.map fun x=>{ x with k := -1 }).toList
def toks (s:List UInt8):List Tn:=if (Tk.scan s).2.1=0 then (Tk.scan s).1.map (tn s) else mk ((Tk.scan (s.take (Tk.scan s).2.2)).1.map (tn (s.take (Tk.scan s).2.2)))
theorem toksOf_map (s:List UInt8) (a:List (Tk.Tok × Nat)):toksOf (a.map (tn s))=Tw.toksC s a:=by
 unfold toksOf Tw.toksC
 rw [List.flatMap_map]
 rfl
theorem toksOf_len (ts:List Tn):(toksOf ts).length=ts.length * 6:=by
 induction ts with
 | nil=>rfl
 | cons n r ih=>show (tnC n ++ toksOf r).length=_;rw [List.length_append,ih,List.length_cons];show 6+_=_;omega
theorem tsAt_of_own {w:World} {B:Nat} {v:Value} {ts:List Tn} (h:w.ownsRow B 108 6 v ts.length (toksOf ts)) (h0:0<ts.length) (hl:ts.length≤4611686018427387904):∃ (g cap:Nat),v=.slice (some ⟨g,0,none⟩) ts.length cap∧B≤g∧TsAt w g cap ts:=by
 rcases h.2 with ⟨_,h1⟩ | ⟨g,cap,cur,rfl,hg,hh,h1,h2,h3,h4⟩
 ·omega
 ·exact ⟨g,cap,rfl,hg,cur,hh,h1,h2,h4,hl⟩
theorem mk_snoc (pre:List Tn) (x:Tn):mk (pre ++ [x])=pre ++ [{ x with k := -1 }]:=by simp [mk]
theorem tsAt_mk {w:World} {g cap:Nat} {pre:List Tn} {x:Tn} (h:TsAt w g cap (pre ++ [x])):TsAt (w.setCell ⟨g,pre.length * 6,none⟩ (.int .i64 (-1))) g cap (pre ++ [{ x with k := -1 }]):=by
 obtain ⟨cur,hh,h1,h2,h3,h4⟩:=h
 refine ⟨_,heap_setCell_same w g (pre.length * 6) _ _ _ hh,by simpa using h1,h2,?_,by simpa using h4⟩
 have hl:(pre ++ [x]).length * 6=(pre.length+1) * 6:=by simp
 have hl2:(pre ++ [{ x with k := -1 }]).length * 6=(pre.length+1) * 6:=by simp
 rw [hl2]
 rw [hl] at h3
 simp only [List.drop_zero] at h3 ⊢
 rw [Array.toList_setIfInBounds,List.take_set,h3]
 have e1:toksOf (pre ++ [x])=toksOf pre ++ tnC x:=by simp [toksOf]
 have e2:toksOf (pre ++ [{ x with k := -1 }])=toksOf pre ++ tnC { x with k := -1 }:=by simp [toksOf]
 rw [e1,e2,List.set_append_right _ _ (by rw [toksOf_len];omega)]
 rw [toksOf_len,Nat.sub_self]
 rfl
theorem toks_ok (s:List UInt8):0<(toks s).length∧(toks s).length≤s.length+1∧∀ t ∈ toks s,t.s.size≤31:=by
 unfold toks
 split
 ·rename_i h
  obtain ⟨h1,h2,h3⟩:=Tk.scan_all s
  obtain ⟨pre,o',e⟩:=h3 h
  refine ⟨by rw [e];simp,by simpa using h1,fun t ht => ?_⟩
  obtain ⟨x,hx,rfl⟩:=List.mem_map.1 ht
  exact h2 x hx
 ·rename_i h
  have hf:=Tk.scan_first s h
  obtain ⟨h1,h2,h3⟩:=Tk.scan_all (s.take (Tk.scan s).2.2)
  obtain ⟨pre,o',e⟩:=h3 hf.2
  rw [e,List.map_append,List.map_singleton,mk_snoc]
  rw [e] at h1 h2
  simp only [List.length_append,List.length_map,List.length_singleton,List.length_take] at h1 ⊢
  refine ⟨by omega,by omega,fun t ht => ?_⟩
  rcases List.mem_append.1 ht with ht | ht
  ·obtain ⟨x,hx,rfl⟩:=List.mem_map.1 ht
   exact h2 x (by simp [hx])
  ·simp only [List.mem_singleton] at ht
   subst ht
   exact (by decide:(0:Nat)≤31)
section
variable (w:World)
def IsToks (w:World) (s:List UInt8) (e:Ending) (w':World):Prop:=∃ g cap,e=.returned (.slice (some ⟨g,0,none⟩) (toks s).length cap)∧w.heap.size≤g∧TsAt w' g cap (toks s)∧Below w.heap.size w w'
set_option maxRecDepth 100000 in
set_option maxHeartbeats 2000000 in
theorem tokens_any (s:ByteArray) (hs:s.size≤1099511627776) (hL:Tw.Laid w) :
 Calls Tryz.prog 99 #[.string s] w fun e w'=>IsToks w s.data.toList e w':=by
 have hsz:s.data.toList.length=s.size:=rfl
 have K1:=show Hid (Calls Tryz.prog 109 #[.string s] w fun e w'=>∃ v,e=.returned (.tuple #[v,Tw.fltV s.data.toList (Tk.scan s.data.toList).2.1 (Tk.scan s.data.toList).2.2])∧w'.ownsRow w.heap.size 108 6 v (Tk.scan s.data.toList).1.length (Tw.toksC s.data.toList (Tk.scan s.data.toList).1)∧Below w.heap.size w w') from (Tw.scan_any w s hs hL).mono fun e w' h=>by
  obtain ⟨⟨v,h1,h2⟩,h3⟩:=h
  exact ⟨v,h1,h2,h3⟩
 have hall:=Tk.scan_all s.data.toList
 by_cases h0:(Tk.scan s.data.toList).2.1=0
 ·have ht:toks s.data.toList=(Tk.scan s.data.toList).1.map (tn s.data.toList):=by unfold toks;rw [if_pos h0]
  have HX:=show Hid (∀ v w',w'.ownsRow w.heap.size 108 6 v (Tk.scan s.data.toList).1.length (Tw.toksC s.data.toList (Tk.scan s.data.toList).1)→∃ (g cap:Nat),v=.slice (some ⟨g,0,none⟩) (toks s.data.toList).length cap∧w.heap.size≤g∧TsAt w' g cap (toks s.data.toList)) from fun v w' h=>by
   have hk:=toks_ok s.data.toList
   refine tsAt_of_own ?_ hk.1 (by have:=hk.2.1;omega)
   rw [ht,toksOf_map,List.length_map]
   exact h
  rw [h0] at K1
  have hfv:Tw.fltV s.data.toList 0 (Tk.scan s.data.toList).2.2=.agg #[.int .i64 0,.int .i64 0,.int .i64 0,.int .i64 0]:=rfl
  rw [hfv] at K1
  clear hall hL hs hsz ht hfv h0
  go_enter Tryz.func99,Tryz.ntmps99
  go_wp2_with fail
  refine K1.out.mono ?_
  rintro e w1 ⟨v,rfl,ho,hb⟩
  obtain ⟨g,cap,rfl,hg,hts⟩:=HX.out v w1 ho
  have X:=show Hid (w.heap.size≤g∧TsAt w1 g cap (toks s.data.toList)∧Below w.heap.size w w1) from ⟨hg,hts,hb⟩
  clear ho hb hg hts HX K1
  go_wp2_with fail
  go_ret
  refine ⟨g,cap,rfl,X.out.1,X.out.2.1.keep (Below.heap_alloc _ _ _ ?_),X.out.2.2.alloc X.out.2.2.size _⟩
  obtain ⟨cur,hh,_⟩:=X.out.2.1
  exact lt_of_block hh
 ·have hf:=Tk.scan_first s.data.toList h0
  obtain ⟨off,hoff⟩:∃ off,off=(Tk.scan s.data.toList).2.2:=⟨_,rfl⟩
  rw [← hoff] at hf K1
  have ht:toks s.data.toList=mk ((Tk.scan (s.data.toList.take off)).1.map (tn (s.data.toList.take off))):=by unfold toks;rw [if_neg h0,← hoff]
  obtain ⟨pre,o',hpre⟩:=(Tk.scan_all (s.data.toList.take off)).2.2 hf.2
  have hle:off≤s.size:=by rw [← hsz];exact hf.1
  have hext:s.extract 0 off=⟨(s.data.toList.take off).toArray⟩:=Tw.str_take s off
  have hexs:(s.extract 0 off).size≤1099511627776:=by simp;omega
  have K2:=show Hid (∀ w1,Below w.heap.size w w1→Calls Tryz.prog 109 #[.string (s.extract 0 off)] w1 fun e w'=>∃ v,e=.returned (.tuple #[v,.agg #[.int .i64 0,.int .i64 0,.int .i64 0,.int .i64 0]])∧w'.ownsRow w1.heap.size 108 6 v (Tk.scan (s.data.toList.take off)).1.length (Tw.toksC (s.data.toList.take off) (Tk.scan (s.data.toList.take off)).1)∧Below w1.heap.size w1 w') from fun w1 hb=>by
   refine (Tw.scan_any w1 (s.extract 0 off) hexs (hL.later hb)).mono fun e w' h => ?_
   have hlist:(s.extract 0 off).data.toList=s.data.toList.take off:=by rw [hext]
   obtain ⟨⟨v,h1,h2⟩,h3⟩:=h
   rw [hlist] at h1 h2
   rw [hf.2] at h1
   exact ⟨v,h1,h2,h3⟩
  have HX:=show Hid (∀ v w1 w',w'.ownsRow w1 108 6 v (Tk.scan (s.data.toList.take off)).1.length (Tw.toksC (s.data.toList.take off) (Tk.scan (s.data.toList.take off)).1)→∃ (g cap:Nat),v=.slice (some ⟨g,0,none⟩) (pre.length+1) cap∧w1≤g∧TsAt w' g cap (pre.map (tn (s.data.toList.take off)) ++ [tn (s.data.toList.take off) ((0,[],0),o')])) from fun v w1 w' h=>by
   have hlen:=(Tk.scan_all (s.data.toList.take off)).1
   rw [hpre,List.length_take] at hlen
   simp only [List.length_append,List.length_singleton] at hlen
   have:=tsAt_of_own (w:=w') (B:=w1) (v:=v) (ts:=pre.map (tn (s.data.toList.take off)) ++ [tn (s.data.toList.take off) ((0,[],0),o')]) ?_ (by simp) (by simp;omega)
   ·simpa using this
   ·have e1:pre.map (tn (s.data.toList.take off)) ++ [tn (s.data.toList.take off) ((0,[],0),o')]=(Tk.scan (s.data.toList.take off)).1.map (tn (s.data.toList.take off)):=by rw [hpre];simp
    rw [e1,toksOf_map,List.length_map]
    exact h
  have HT:=show Hid (toks s.data.toList=pre.map (tn (s.data.toList.take off)) ++ [{ tn (s.data.toList.take off) ((0,[],0),o') with k := -1 }]) from by
   show toks s.data.toList=_
   rw [ht,hpre,List.map_append,List.map_singleton,mk_snoc]
  have hfv:Tw.fltV s.data.toList (Tk.scan s.data.toList).2.1 off=.agg #[.int .i64 (Tk.scan s.data.toList).2.1,.int .i64 (Tk.spot s.data.toList off).1,.int .i64 (Tk.spot s.data.toList off).2,.int .i64 (off:Int)]:=by unfold Tw.fltV;rw [if_neg h0]
  rw [hfv] at K1
  have hlen2:pre.length≤1099511627776:=by
   have hlen:=(Tk.scan_all (s.data.toList.take off)).1
   rw [hpre,List.length_take] at hlen
   simp only [List.length_append,List.length_singleton] at hlen
   omega
  have h0':((Tk.scan s.data.toList).2.1 == 0)=false:=by simp [h0]
  have hle':(off:Int)≤(s.size:Int):=by omega
  have hext0:s.extract 0 off=s.extract 0 off:=rfl
  generalize (Tk.scan s.data.toList).2.1=ec at *
  generalize (Tk.scan s.data.toList).1=l1 at *
  generalize (Tk.spot s.data.toList off).1=sp1 at *
  generalize (Tk.spot s.data.toList off).2=sp2 at *
  clear hall hL hs hsz ht hfv h0 hf hpre hext hexs hoff hext0
  go_enter Tryz.func99,Tryz.ntmps99
  go_wp2_with fail
  refine K1.out.mono ?_
  rintro e w1 ⟨v,rfl,ho,hb⟩
  have X:=show Hid (Below w.heap.size w w1) from hb
  clear ho hb K1
  go_wp2_with fail
  refine (K2.out _ (X.out.alloc X.out.size _)).mono ?_
  rintro e w2 ⟨v2,rfl,ho,hb⟩
  obtain ⟨g,cap,rfl,hg,hts⟩:=HX.out v2 _ w2 ho
  have hB2:Below w.heap.size w w2:=(X.out.alloc X.out.size _).trans (hb.mono (X.out.alloc X.out.size _).size)
  have Y:=show Hid (w.heap.size≤g∧TsAt w2 g cap (pre.map (tn (s.data.toList.take off)) ++ [tn (s.data.toList.take off) ((0,[],0),o')])∧Below w.heap.size w w2) from ⟨by have:=X.out.size;simp at hg;omega,hts,hB2⟩
  have hcell:=(hts.cell (k:=pre.length) (by simp)) 0 (by omega)
  obtain ⟨cur,hcur,_⟩:=hts
  have hfr:=frozen_of_row w2 g (pre.length * 6) _ _ hcur
  have hc0:w2.cell? ⟨g,pre.length * 6,none⟩=some (.int .i64 0):=by rw [Nat.add_zero] at hcell;rw [hcell];simp [tnC,tn]
  clear ho hb hg hB2 HX K2 hcell hcur
  go_wp2_with fail
  go_ret
  refine ⟨g,cap,?_,Y.out.1,?_,Y.out.2.2.setCell Y.out.1 _⟩
  ·rw [HT.out]
   simp
  ·rw [HT.out]
   have:=tsAt_mk Y.out.2.1
   rw [List.length_map] at this
   exact this
def cnt (ts:List Tn):Nat:=(ts.filter Sx.counts).length
def over:List Tn→Nat→Option Tn
 | [],_=>none
 | t :: r,n=>if 512<(if Sx.counts t then n+1 else n) then some t else over r (if Sx.counts t then n+1 else n)
theorem cnt_le (ts:List Tn):cnt ts≤ts.length:=List.length_filter_le _ _
theorem cnt_drop (ts:List Tn) (k:Nat) (h:k<ts.length):cnt (ts.take (k+1))=(if Sx.counts ts[k] then cnt (ts.take k)+1 else cnt (ts.take k)):=by
 unfold cnt
 rw [List.take_succ_eq_append_getElem h,List.filter_append,List.length_append]
 cases hc:Sx.counts ts[k] <;> simp [hc]
set_option maxRecDepth 100000 in
set_option maxHeartbeats 2000000 in
theorem count_any (s:ByteArray) (hs:s.size≤1099511627776) (hL:Tw.Laid w) :
 Calls Tryz.prog 48 #[.string s] w fun e w'=>e=.returned (.int .i64 (cnt (toks s.data.toList):Int))∧Below w.heap.size w w':=by
 have K1:=show Hid (Calls Tryz.prog 99 #[.string s] w fun e w'=>IsToks w s.data.toList e w') from tokens_any w s hs hL
 have hlen:(toks s.data.toList).length≤1099511627777:=by have:=(toks_ok s.data.toList).2.1;have:s.data.toList.length=s.size:=rfl;omega
 unfold IsToks at K1
 generalize toks s.data.toList=ts at *
 clear hs hL
 go_enter Tryz.func48,Tryz.ntmps48
 go_wp2_with fail
 refine K1.out.mono ?_
 rintro e w1 ⟨g,cap,rfl,hg,hT,hb⟩
 have X:=show Hid (TsAt w1 g cap ts∧Below w.heap.size w w1) from ⟨hT,hb⟩
 clear hg hT hb K1
 go_wp2_with fail
 go_loopw [3,5,9] (fun c _ i wr=>∃ k:Nat,k≤ts.length∧i=.int .i64 k∧(∃ cc:Nat,cc≤k∧c=.int .i64 cc∧Hid (cc=cnt (ts.take k)))∧Hid (TsAt wr g cap ts∧Below w.heap.size w wr)) (fun _ _ i _=>ts.length - (intOf i).toNat)
 case atStart=>exact ⟨0,by omega,rfl,⟨0,by omega,rfl,show 0=cnt (ts.take 0) from rfl⟩,X.out⟩
 case round =>
  obtain ⟨k,hk,rfl,⟨cc,hcc,rfl,HC⟩,Y⟩:=hrel
  by_cases hlt:k<ts.length
  ·have hki:(k:Int)<(ts.length:Int):=by omega
   have hcell:=Y.out.1.cell hlt
   have d0:=hcell 0 (by omega)
   have d1:=hcell 1 (by omega)
   have d2:=hcell 2 (by omega)
   have d3:=hcell 3 (by omega)
   have d4:=hcell 4 (by omega)
   have d5:=hcell 5 (by omega)
   have HD:=show Hid _ from cnt_drop ts k hlt
   have KC:=show Hid (∀ w,Calls Tryz.prog 100 #[tnV ts[k]] w fun e w'=>e=.returned (.bool (Sx.counts ts[k]))∧Below w.heap.size w w') from fun w=>counts_any w _
   generalize Sx.counts ts[k]=q at *
   generalize ts[k]=t at *
   obtain ⟨tk,tx,tn,tl,tc,to⟩:=t
   simp only [tnC,tnV,Nat.add_zero,List.getElem?_cons_zero,List.getElem?_cons_succ] at *
   clear hcell
   go_wp2_with fail
   refine (KC.out _).mono ?_
   rintro e w2 ⟨rfl,hb2⟩
   have hal:Below wr.heap.size wr (wr.alloc (Obj.cells #[.int .i64 tk,.string tx,.int .i64 tn,.int .i64 tl,.int .i64 tc,.int .i64 to] 108)):=below_alloc _ _
   have Z:=show Hid (TsAt w2 g cap ts∧Below w.heap.size w w2) from by
    obtain ⟨⟨cur,hh,r⟩,hb⟩:=Y.out
    have hlt:=lt_of_block hh
    exact ⟨⟨cur,(hb2.block _ (by simp;omega)).trans ((hal.block _ hlt).trans hh),r⟩,(hb.trans (hal.mono hb.size)).trans (hb2.mono (Nat.le_trans hb.size hal.size))⟩
   clear hb2 hal Y KC d0 d1 d2 d3 d4 d5
   cases q
   ·have HN:=show Hid (cc=cnt (ts.take (k+1))) from by
     show cc=cnt (ts.take (k+1))
     rw [HD.out,HC.out];rfl
    go_wp2_with fail
    go_roundw
    case rel=>exact ⟨k+1,by omega,by go_num,⟨cc,by omega,rfl,HN⟩,Z⟩
    case measure=>first | (simp [intOf];done) | (simp [intOf];omega)
   ·have HN:=show Hid (cc+1=cnt (ts.take (k+1))) from by
     show cc+1=cnt (ts.take (k+1))
     rw [HD.out,HC.out];rfl
    go_wp2_with fail
    go_roundw
    case rel=>exact ⟨k+1,by omega,by go_num,⟨cc+1,by omega,by go_num,HN⟩,Z⟩
    case measure=>first | (simp [intOf];done) | (simp [intOf];omega)
  ·have hke:k=ts.length:=by omega
   have hke2:¬ (k:Int)<(ts.length:Int):=by omega
   have HN:=show Hid (cc=cnt ts) from by
    show cc=cnt ts
    rw [HC.out,hke,List.take_length]
   clear hke
   go_wp2_with fail
   go_ret
   exact ⟨ret_int (by rw [HN.out]),Y.out.2⟩
def TooMany (w:World) (ts:List Tn) (e:Ending) (w':World):Prop :=
 (match over ts 0 with
  | none=>e=.returned (.tuple #[.agg #[.int .i64 0,.int .i64 0,.int .i64 0],.bool false])
  | some t=>e=.returned (.tuple #[.agg #[.int .i64 t.l,.int .i64 t.c,.int .i64 t.o],.bool true]))∧Below w.heap.size w w'
theorem over_step (ts:List Tn) (k n:Nat) (h:k<ts.length):over (ts.drop k) n=if 512<(if Sx.counts ts[k] then n+1 else n) then some ts[k] else over (ts.drop (k+1)) (if Sx.counts ts[k] then n+1 else n):=by
 rw [List.drop_eq_getElem_cons h]
 rfl
def Sp (w:World) (g:Nat) (a b c:Int):Prop:=w.heap[g]?=some (.cells #[.int .i64 a,.int .i64 b,.int .i64 c] 50 (0,0))
section
variable {w w':World} {g:Nat} {a b c:Int}
theorem Sp.c0 (h:Sp w g a b c):w.cell? ⟨g,0,none⟩=some (.int .i64 a):=by rw [cell_of_row w g 0 _ _ _ h];rfl
theorem Sp.c1 (h:Sp w g a b c):w.cell? ⟨g,1,none⟩=some (.int .i64 b):=by rw [cell_of_row w g 1 _ _ _ h];rfl
theorem Sp.c2 (h:Sp w g a b c):w.cell? ⟨g,2,none⟩=some (.int .i64 c):=by rw [cell_of_row w g 2 _ _ _ h];rfl
theorem Sp.fr (h:Sp w g a b c) (j:Nat):w.frozen? ⟨g,j,none⟩=false:=frozen_of_row w g j _ _ h
theorem Sp.s3 (h:Sp w g a b c) (x y z:Int):Sp (((w.setCell ⟨g,0,none⟩ (.int .i64 x)).setCell ⟨g,1,none⟩ (.int .i64 y)).setCell ⟨g,2,none⟩ (.int .i64 z)) g x y z:=heap_setCell_same _ g 2 _ _ _ (heap_setCell_same _ g 1 _ _ _ (heap_setCell_same w g 0 _ _ _ h))
theorem Sp.lt (h:Sp w g a b c):g<w.heap.size:=lt_of_block h
end
set_option maxRecDepth 100000 in
set_option maxHeartbeats 2000000 in
theorem tooMany_any {g cap:Nat} {ts:List Tn} (hT:TsAt w g cap ts) :
 Calls Tryz.prog 102 #[.slice (some ⟨g,0,none⟩) ts.length cap] w fun e w'=>TooMany w ts e w':=by
 have hlen:ts.length≤4611686018427387904:=by obtain ⟨_,_,_,_,_,h⟩:=hT;exact h
 have hglt:g<w.heap.size:=by obtain ⟨_,h,_⟩:=hT;exact lt_of_block h
 have HX:=show Hid (∀ e w',((match over ts 0 with | none=>e=.returned (.tuple #[.agg #[.int .i64 0,.int .i64 0,.int .i64 0],.bool false]) | some t=>e=.returned (.tuple #[.agg #[.int .i64 t.l,.int .i64 t.c,.int .i64 t.o],.bool true]))∧Below w.heap.size w w')→TooMany w ts e w') from fun _ _ h=>h
 have HO:=show Hid (over ts 0=over (ts.drop 0) 0) from rfl
 generalize TooMany w ts=Q at *
 generalize over ts 0=res at *
 have X:=show Hid (TsAt (w.alloc (Obj.cells #[.int .i64 0,.int .i64 0,.int .i64 0] 50)) g cap ts∧Sp (w.alloc (Obj.cells #[.int .i64 0,.int .i64 0,.int .i64 0] 50)) w.heap.size 0 0 0∧Below w.heap.size w (w.alloc (Obj.cells #[.int .i64 0,.int .i64 0,.int .i64 0] 50))) from ⟨hT.keep (Below.heap_alloc _ _ _ hglt),heap_alloc_new _ _,below_alloc _ _⟩
 clear hT
 go_enter Tryz.func102,Tryz.ntmps102
 go_wp2_with fail
 go_loopw [4,6,9] (fun c _ i wr=>∃ k cc:Nat,k≤ts.length∧cc≤512∧i=.int .i64 k∧c=.int .i64 cc∧Hid (res=over (ts.drop k) cc)∧Hid (TsAt wr g cap ts∧Sp wr w.heap.size 0 0 0∧Below w.heap.size w wr)) (fun _ _ i _=>ts.length - (intOf i).toNat)
 case atStart=>exact ⟨0,0,by omega,by omega,rfl,rfl,HO,X⟩
 case round =>
  obtain ⟨k,cc,hk,hcc,rfl,rfl,HR,Y⟩:=hrel
  by_cases hlt:k<ts.length
  ·have hki:(k:Int)<(ts.length:Int):=by omega
   have hcell:=Y.out.1.cell hlt
   have d0:=hcell 0 (by omega)
   have d1:=hcell 1 (by omega)
   have d2:=hcell 2 (by omega)
   have d3:=hcell 3 (by omega)
   have d4:=hcell 4 (by omega)
   have d5:=hcell 5 (by omega)
   have HD:=show Hid _ from HR.out.trans (over_step ts k cc hlt)
   have KC:=show Hid (∀ w,Calls Tryz.prog 100 #[tnV ts[k]] w fun e w'=>e=.returned (.bool (Sx.counts ts[k]))∧Below w.heap.size w w') from fun w=>counts_any w _
   generalize Sx.counts ts[k]=q at *
   generalize ts[k]=t at *
   obtain ⟨tk,tx,tn,tl,tc,to⟩:=t
   simp only [tnC,tnV,Nat.add_zero,List.getElem?_cons_zero,List.getElem?_cons_succ] at *
   clear hcell
   go_wp2_with fail
   refine (KC.out _).mono ?_
   rintro e w2 ⟨rfl,hb2⟩
   have hal:Below wr.heap.size wr (wr.alloc (Obj.cells #[.int .i64 tk,.string tx,.int .i64 tn,.int .i64 tl,.int .i64 tc,.int .i64 to] 108)):=below_alloc _ _
   have Z:=show Hid (TsAt w2 g cap ts∧Sp w2 w.heap.size 0 0 0∧Below w.heap.size w w2∧T6' w2 wr.heap.size (.int .i64 tk) (.string tx) (.int .i64 tn) (.int .i64 tl) (.int .i64 tc) (.int .i64 to)) from by
    obtain ⟨⟨cur,hh,r⟩,hsp,hb⟩:=Y.out
    have hlt:=lt_of_block hh
    have hlt2:=hsp.lt
    exact ⟨⟨cur,(hb2.block _ (by simp;omega)).trans ((hal.block _ hlt).trans hh),r⟩,(hb2.block _ (by simp;omega)).trans ((hal.block _ hlt2).trans hsp),(hb.trans (hal.mono hb.size)).trans (hb2.mono (Nat.le_trans hb.size hal.size)),(hb2.block _ (by simp)).trans (heap_alloc_new _ _)⟩
   have z3:=Z.out.2.2.2.c3;have z4:=Z.out.2.2.2.c4;have z5:=Z.out.2.2.2.c5
   have y0:=Z.out.2.1.c0;have y1:=Z.out.2.1.c1;have y2:=Z.out.2.1.c2;have yf:=Z.out.2.1.fr
   clear hb2 hal Y KC d0 d1 d2 d3 d4 d5 HR
   cases q
   ·have hle:¬ 512<(cc:Int):=by omega
    have hle2:(cc:Int)≤512:=by omega
    have HN:=show Hid (res=over (ts.drop (k+1)) cc) from by
     have h:=HD.out
     simp only [Bool.false_eq_true,if_false] at h
     rw [if_neg (by omega)] at h
     exact h
    clear HD
    go_wp2_with fail
    go_roundw
    case rel=>exact ⟨k+1,cc,by omega,by omega,by go_num,rfl,HN,⟨Z.out.1,Z.out.2.1,Z.out.2.2.1⟩⟩
    case measure=>first | (simp [intOf];done) | (simp [intOf];omega)
   ·by_cases hgt:512<cc+1
    ·have hle:512<(cc:Int)+1:=by omega
     have HN:=show Hid (res=some ⟨tk,tx,tn,tl,tc,to⟩) from by
      have h:=HD.out
      simp only [if_true] at h
      rw [if_pos (by omega)] at h
      exact h
     clear HD hgt
     go_wp2_with fail
     refine bodyPost_ret (results_cell_tmp rfl _ _ w.heap.size _ _ _ _ rfl (Z.out.2.1.s3 tl tc to) Tryz.underlying50 rfl (by kernel_rfl)) rfl (HX.out _ _ ⟨?_,((Z.out.2.2.1.setCell (Nat.le_refl _) _).setCell (Nat.le_refl _) _).setCell (Nat.le_refl _) _⟩)
     rw [HN.out]
     rfl
    ·have hle:¬ 512<(cc:Int)+1:=by omega
     have hle2:(cc:Int)+1≤512:=by omega
     have HN:=show Hid (res=over (ts.drop (k+1)) (cc+1)) from by
      have h:=HD.out
      simp only [if_true] at h
      rw [if_neg (by omega)] at h
      exact h
     clear HD hgt
     go_wp2_with fail
     go_roundw
     case rel=>exact ⟨k+1,cc+1,by omega,by omega,by go_num,by go_num,HN,⟨Z.out.1,Z.out.2.1,Z.out.2.2.1⟩⟩
     case measure=>first | (simp [intOf];done) | (simp [intOf];omega)
  ·have hke2:¬ (k:Int)<(ts.length:Int):=by omega
   have HN:=show Hid (res=none) from by
    show res=none
    rw [HR.out,List.drop_eq_nil_of_le (by omega)]
    rfl
   have y0:=Y.out.2.1.c0;have y1:=Y.out.2.1.c1;have y2:=Y.out.2.1.c2;have yf:=Y.out.2.1.fr
   go_wp2_with fail
   refine bodyPost_ret (results_cell_tmp rfl _ _ w.heap.size _ _ _ _ rfl (Y.out.2.1.s3 0 0 0) Tryz.underlying50 rfl (by kernel_rfl)) rfl (HX.out _ _ ⟨?_,((Y.out.2.2.setCell (Nat.le_refl _) _).setCell (Nat.le_refl _) _).setCell (Nat.le_refl _) _⟩)
   rw [HN.out]
   rfl
end
end Go.Proofs.YtkmmlimekachbaaGreatDoor
