/-
  Sequent's own tokens of a text: for every text up to 2^40 bytes. No other condition than that the tables of layer 2 stand. (Written by genqtok.py.)
-/
import Derived.Test.YtkmmlimekachbaaGreatDoorSTok
import Derived.Test.YtkmmlimekachbaaGreatDoorQPure
namespace Go.Proofs.YtkmmlimekachbaaGreatDoor
open Go.RowKit Go.Maps
open Fm (Nd)
open Sx (Tn T)
section
variable (w:World)
set_option maxRecDepth 100000 in
set_option maxHeartbeats 2000000 in
theorem qtokens_any (s:ByteArray) (hs:s.size≤1099511627776) (hL:Tw.Laid w) :
 Calls Tryz.prog 51 #[.string s] w fun e w'=>IsToks w s.data.toList e w':=by
 have hsz:s.data.toList.length=s.size:=rfl
 have K1:=show Hid (Calls Tryz.prog 109 #[.string s] w fun e w'=>∃ v,e=.returned (.tuple #[v,Tw.fltV s.data.toList (Tk.scan s.data.toList).2.1 (Tk.scan s.data.toList).2.2])∧w'.ownsRow w.heap.size 108 6 v (Tk.scan s.data.toList).1.length (Tw.toksC s.data.toList (Tk.scan s.data.toList).1)∧Below w.heap.size w w') from (Tw.scan_any w s hs hL).mono fun e w' h=>by
  obtain ⟨⟨v,h1,h2⟩,h3⟩:=h
  exact ⟨v,h1,h2,h3⟩
 have hall:=Tk.scan_all s.data.toList
 by_cases h0:(Tk.scan s.data.toList).2.1=0
 ·have ht:toks s.data.toList=(Tk.scan s.data.toList).1.map (tn s.data.toList):=by unfold toks;rw [if_pos h0]
  have HX:=show Hid (∀ v w',w'.ownsRow w.heap.size 108 6 v (Tk.scan s.data.toList).1.length (Tw.toksC s.data.toList (Tk.scan s.data.toList).1)→∃ (g cap:Nat),v=.slice (some ⟨g,0,none⟩) (toks s.data.toList).length cap∧w.heap.size≤g∧TsAt w' g cap (toks s.data.toList)) from fun v w' h=>by
   have hk:=toks_ok s.data.toList
   refine tsAt_of_own ?_ hk.1 (by have:=hk.2.1;omega)
   rw [ht,toksOf_map,List.length_map]
   exact h
  rw [h0] at K1
  have hfv:Tw.fltV s.data.toList 0 (Tk.scan s.data.toList).2.2=.agg #[.int .i64 0,.int .i64 0,.int .i64 0,.int .i64 0]:=rfl
  rw [hfv] at K1
  clear hall hL hs hsz ht hfv h0
  go_enter Tryz.func51,Tryz.ntmps51
  go_wp2_with fail
  refine K1.out.mono ?_
  rintro e w1 ⟨v,rfl,ho,hb⟩
  obtain ⟨g,cap,rfl,hg,hts⟩:=HX.out v w1 ho
  have X:=show Hid (w.heap.size≤g∧TsAt w1 g cap (toks s.data.toList)∧Below w.heap.size w w1) from ⟨hg,hts,hb⟩
  clear ho hb hg hts HX K1
  go_wp2_with fail
  go_ret
  refine ⟨g,cap,rfl,X.out.1,X.out.2.1.keep (Below.heap_alloc _ _ _ ?_),X.out.2.2.alloc X.out.2.2.size _⟩
  obtain ⟨cur,hh,_⟩:=X.out.2.1
  exact lt_of_block hh
 ·have hf:=Tk.scan_first s.data.toList h0
  obtain ⟨off,hoff⟩:∃ off,off=(Tk.scan s.data.toList).2.2:=⟨_,rfl⟩
  rw [← hoff] at hf K1
  have ht:toks s.data.toList=mk ((Tk.scan (s.data.toList.take off)).1.map (tn (s.data.toList.take off))):=by unfold toks;rw [if_neg h0,← hoff]
  obtain ⟨pre,o',hpre⟩:=(Tk.scan_all (s.data.toList.take off)).2.2 hf.2
  have hle:off≤s.size:=by rw [← hsz];exact hf.1
  have hext:s.extract 0 off=⟨(s.data.toList.take off).toArray⟩:=Tw.str_take s off
  have hexs:(s.extract 0 off).size≤1099511627776:=by simp;omega
  have K2:=show Hid (∀ w1,Below w.heap.size w w1→Calls Tryz.prog 109 #[.string (s.extract 0 off)] w1 fun e w'=>∃ v,e=.returned (.tuple #[v,.agg #[.int .i64 0,.int .i64 0,.int .i64 0,.int .i64 0]])∧w'.ownsRow w1.heap.size 108 6 v (Tk.scan (s.data.toList.take off)).1.length (Tw.toksC (s.data.toList.take off) (Tk.scan (s.data.toList.take off)).1)∧Below w1.heap.size w1 w') from fun w1 hb=>by
   refine (Tw.scan_any w1 (s.extract 0 off) hexs (hL.later hb)).mono fun e w' h => ?_
   have hlist:(s.extract 0 off).data.toList=s.data.toList.take off:=by rw [hext]
   obtain ⟨⟨v,h1,h2⟩,h3⟩:=h
   rw [hlist] at h1 h2
   rw [hf.2] at h1
   exact ⟨v,h1,h2,h3⟩
  have HX:=show Hid (∀ v w1 w',w'.ownsRow w1 108 6 v (Tk.scan (s.data.toList.take off)).1.length (Tw.toksC (s.data.toList.take off) (Tk.scan (s.data.toList.take off)).1)→∃ (g cap:Nat),v=.slice (some ⟨g,0,none⟩) (pre.length+1) cap∧w1≤g∧TsAt w' g cap (pre.map (tn (s.data.toList.take off)) ++ [tn (s.data.toList.take off) ((0,[],0),o')])) from fun v w1 w' h=>by
   have hlen:=(Tk.scan_all (s.data.toList.take off)).1
   rw [hpre,List.length_take] at hlen
   simp only [List.length_append,List.length_singleton] at hlen
   have:=tsAt_of_own (w:=w') (B:=w1) (v:=v) (ts:=pre.map (tn (s.data.toList.take off)) ++ [tn (s.data.toList.take off) ((0,[],0),o')]) ?_ (by simp) (by simp;omega)
   ·simpa using this
   ·have e1:pre.map (tn (s.data.toList.take off)) ++ [tn (s.data.toList.take off) ((0,[],0),o')]=(Tk.scan (s.data.toList.take off)).1.map (tn (s.data.toList.take off)):=by rw [hpre];simp
    rw [e1,toksOf_map,List.length_map]
    exact h
  have HT:=show Hid (toks s.data.toList=pre.map (tn (s.data.toList.take off)) ++ [{ tn (s.data.toList.take off) ((0,[],0),o') with k := -1 }]) from by
   show toks s.data.toList=_
   rw [ht,hpre,List.map_append,List.map_singleton,mk_snoc]
  have hfv:Tw.fltV s.data.toList (Tk.scan s.data.toList).2.1 off=.agg #[.int .i64 (Tk.scan s.data.toList).2.1,.int .i64 (Tk.spot s.data.toList off).1,.int .i64 (Tk.spot s.data.toList off).2,.int .i64 (off:Int)]:=by unfold Tw.fltV;rw [if_neg h0]
  rw [hfv] at K1
  have hlen2:pre.length≤1099511627776:=by
   have hlen:=(Tk.scan_all (s.data.toList.take off)).1
   rw [hpre,List.length_take] at hlen
   simp only [List.length_append,List.length_singleton] at hlen
   omega
  have h0':((Tk.scan s.data.toList).2.1 == 0)=false:=by simp [h0]
  have hle':(off:Int)≤(s.size:Int):=by omega
  have hext0:s.extract 0 off=s.extract 0 off:=rfl
  generalize (Tk.scan s.data.toList).2.1=ec at *
  generalize (Tk.scan s.data.toList).1=l1 at *
  generalize (Tk.spot s.data.toList off).1=sp1 at *
  generalize (Tk.spot s.data.toList off).2=sp2 at *
  clear hall hL hs hsz ht hfv h0 hf hpre hext hexs hoff hext0
  go_enter Tryz.func51,Tryz.ntmps51
  go_wp2_with fail
  refine K1.out.mono ?_
  rintro e w1 ⟨v,rfl,ho,hb⟩
  have X:=show Hid (Below w.heap.size w w1) from hb
  clear ho hb K1
  go_wp2_with fail
  refine (K2.out _ (X.out.alloc X.out.size _)).mono ?_
  rintro e w2 ⟨v2,rfl,ho,hb⟩
  obtain ⟨g,cap,rfl,hg,hts⟩:=HX.out v2 _ w2 ho
  have hB2:Below w.heap.size w w2:=(X.out.alloc X.out.size _).trans (hb.mono (X.out.alloc X.out.size _).size)
  have Y:=show Hid (w.heap.size≤g∧TsAt w2 g cap (pre.map (tn (s.data.toList.take off)) ++ [tn (s.data.toList.take off) ((0,[],0),o')])∧Below w.heap.size w w2) from ⟨by have:=X.out.size;simp at hg;omega,hts,hB2⟩
  have hcell:=(hts.cell (k:=pre.length) (by simp)) 0 (by omega)
  obtain ⟨cur,hcur,_⟩:=hts
  have hfr:=frozen_of_row w2 g (pre.length * 6) _ _ hcur
  have hc0:w2.cell? ⟨g,pre.length * 6,none⟩=some (.int .i64 0):=by rw [Nat.add_zero] at hcell;rw [hcell];simp [tnC,tn]
  clear ho hb hg hB2 HX K2 hcell hcur
  go_wp2_with fail
  go_ret
  refine ⟨g,cap,?_,Y.out.1,?_,Y.out.2.2.setCell Y.out.1 _⟩
  ·rw [HT.out]
   simp
  ·rw [HT.out]
   have:=tsAt_mk Y.out.2.1
   rw [List.length_map] at this
   exact this
end
theorem toks_last (s:List UInt8):∃ pre x,toks s=pre ++ [x]∧(x.k=0∨x.k = -1):=by
 unfold toks
 by_cases h0:(Tk.scan s).2.1=0
 ·rw [if_pos h0]
  obtain ⟨pre,o',hpre⟩:=(Tk.scan_all s).2.2 h0
  rw [hpre,List.map_append,List.map_singleton]
  exact ⟨_,_,rfl,Or.inl rfl⟩
 ·rw [if_neg h0]
  have hf:=Tk.scan_first s h0
  obtain ⟨pre,o',hpre⟩:=(Tk.scan_all (s.take (Tk.scan s).2.2)).2.2 hf.2
  rw [hpre,List.map_append,List.map_singleton,mk_snoc]
  exact ⟨_,_,rfl,Or.inr rfl⟩
theorem ends_snoc {pre:List Tn} {x:Tn} (h:x.k=0∨x.k = -1):Sq.Ends (pre ++ [x]):=fun i hi=>by
 have hl:i<(pre ++ [x]).length:=Sx.tk_lt (by omega)
 rw [List.length_append,List.length_singleton] at hl ⊢
 rcases Nat.lt_or_ge i pre.length with h1 | h1
 ·omega
 ·have hip:i=pre.length:=by omega
  subst hip
  have hx:Sx.tk (pre ++ [x]) pre.length=x:=by
   unfold Sx.tk
   rw [List.getD_eq_getElem?_getD,List.getElem?_append_right (Nat.le_refl _),Nat.sub_self]
   rfl
  rw [hx] at hi
  omega
theorem toks_ends (s:List UInt8):Sq.Ends (toks s)∧0<(toks s).length:=by
 obtain ⟨pre,x,h,hx⟩:=toks_last s
 rw [h]
 exact ⟨ends_snoc hx,by simp⟩
end Go.Proofs.YtkmmlimekachbaaGreatDoor
