/-
  Plain mathematics of what is below a formula: rising, closed. No condition.
-/
import Derived.Test.YtkmmlimekachbaaGreatDoorSG6
import Derived.Test.YtkmmlimekachbaaGreatDoorFG3
namespace Go.Proofs.YtkmmlimekachbaaGreatDoor.Pr
open Go.RowKit
open Fm (Nd)
theorem getD_at {t:List Nd} {i:Nat} (h:i<t.length):t.getD i Fm.z=t[i]:=by rw [List.getD_eq_getElem?_getD,List.getElem?_eq_getElem h];rfl
theorem mark_mono (t:List Nd):∀ (n:Nat) (f:Nat→Bool) (k:Nat),f k=true→Fm.mark t n f k=true
 | 0,f,k,h=>h
 | n+1,f,k,h=>by
  rw [mark_step]
  refine mark_mono t n _ k ?_
  split
  ·unfold Fm.upd
   split
   ·rfl
   ·split
    ·rfl
    ·exact h
  ·exact h
theorem mark_high {t:List Nd} (hT:Fm.Ok t):∀ (n:Nat) (f:Nat→Bool) (k:Nat),n≤t.length→n≤k→Fm.mark t n f k=f k
 | 0,f,k,_,_=>rfl
 | n+1,f,k,hn,hk=>by
  rw [mark_step,mark_high hT n _ k (by omega) (by omega)]
  split
  ·rename_i h
   simp only [Bool.and_eq_true] at h
   rw [getD_at (by omega)] at h ⊢
   have hp:=Fm.ok_parts hT (by omega) h.2
   unfold Fm.upd
   rw [if_neg (by omega),if_neg (by omega)]
  ·rfl
theorem mark_closed {t:List Nd} (hT:Fm.Ok t):∀ (n:Nat) (f:Nat→Bool) (hn:n≤t.length) (k:Nat) (hk:k<n),Fm.mark t n f k=true→Fm.jn (t[k]'(by omega)).k=true→Fm.mark t n f (t[k]'(by omega)).l.toNat=true∧Fm.mark t n f (t[k]'(by omega)).r.toNat=true
 | 0,f,_,k,hk,_,_=>absurd hk (by omega)
 | n+1,f,hn,k,hk,hm,hj=>by
  rw [mark_step] at hm ⊢
  by_cases hkn:k<n
  ·exact mark_closed hT n _ (by omega) k hkn hm hj
  ·obtain rfl:k=n:=by omega
   rw [mark_high hT k _ k (by omega) (Nat.le_refl _)] at hm
   have hp:=Fm.ok_parts hT (i:=k) (by omega) hj
   have hfk:f k=true:=by
    split at hm
    ·rw [getD_at (by omega)] at hm
     unfold Fm.upd at hm
     rw [if_neg (by omega),if_neg (by omega)] at hm
     exact hm
    ·exact hm
   rw [getD_at (by omega),hfk,hj]
   simp only [Bool.and_self,if_true]
   refine ⟨mark_mono t k _ _ ?_,mark_mono t k _ _ ?_⟩
   ·unfold Fm.upd;split <;> simp
   ·unfold Fm.upd;simp
theorem below_closed {t:List Nd} (hT:Fm.Ok t) {i k:Nat} (hi:i<t.length) (hk:k ∈ Fm.below t i) (hkl:k<t.length) (hj:Fm.jn (t[k]).k=true):(t[k]).l.toNat ∈ Fm.below t i∧(t[k]).r.toNat ∈ Fm.below t i:=by
 unfold Fm.below at *
 simp only [List.mem_filter,List.mem_range] at hk ⊢
 have h:=mark_closed hT (i+1) _ (by omega) k hk.1 hk.2 hj
 have hp:=Fm.ok_parts hT hkl hj
 exact ⟨⟨by omega,h.1⟩,by omega,h.2⟩
theorem below_le {t:List Nd} {i k:Nat} (hk:k ∈ Fm.below t i):k≤i:=by
 unfold Fm.below at hk
 simp only [List.mem_filter,List.mem_range] at hk
 omega
theorem below_last (t:List Nd) (i:Nat):∃ pre,Fm.below t i=pre ++ [i]:=by
 have h:Fm.mark t (i+1) (Fm.upd (fun _=>false) i) i=true:=mark_mono t _ _ _ (by simp [Fm.upd])
 refine ⟨(List.range i).filter (Fm.mark t (i+1) (Fm.upd (fun _=>false) i)),?_⟩
 unfold Fm.below
 rw [List.range_succ,List.filter_append]
 simp [h]
theorem below_sorted (t:List Nd) (i:Nat):(Fm.below t i).Pairwise (·< ·):=by
 unfold Fm.below
 exact List.Pairwise.filter _ List.pairwise_lt_range
theorem below_first (t:List Nd) (i:Nat) {a:Nat} (ha:a ∈ Fm.below t i) {k:Nat} (hk:k<(Fm.below t i).length) (hlt:a<(Fm.below t i)[k]):a ∈ (Fm.below t i).take k:=by
 obtain ⟨j,hj,rfl⟩:=List.mem_iff_getElem.1 ha
 have hjk:j<k:=by
  rcases Nat.lt_or_ge j k with h | h
  ·exact h
  ·rcases Nat.lt_or_ge k j with h2 | h2
   ·have:=List.pairwise_iff_getElem.1 (below_sorted t i) k j hk hj h2
    omega
   ·obtain rfl:j=k:=by omega
    omega
 rw [List.mem_iff_getElem]
 exact ⟨j,by simp;omega,by simp⟩
end Go.Proofs.YtkmmlimekachbaaGreatDoor.Pr
/-
  The call size of a printer. For every table and number. No other condition.
-/
namespace Go.Proofs.YtkmmlimekachbaaGreatDoor
open Go.RowKit Go.Maps
open Fm (Nd)
open Pr (Pc)
def Iz (w:World) (g n:Nat) (f:Nat→Nat):Prop:=w.heap[g]?=some (.cells ((List.range n).map fun j=>Value.int .i64 (f j:Int)).toArray 3 (0,0))
def updN (f:Nat→Nat) (j x:Nat):Nat→Nat:=fun i=>if i=j then x else f i
section
variable {w w':World} {g n:Nat} {f:Nat→Nat}
theorem Iz.cell (h:Iz w g n f) {j:Nat} (hj:j<n):w.cell? ⟨g,j,none⟩=some (.int .i64 (f j:Int)):=by
 rw [cell_of_row w g j _ _ _ h]
 simp [hj]
theorem Iz.fr (h:Iz w g n f) (j:Nat):w.frozen? ⟨g,j,none⟩=false:=frozen_of_row w g j _ _ h
theorem Iz.lt (h:Iz w g n f):g<w.heap.size:=lt_of_block h
theorem Iz.set (h:Iz w g n f) (j x:Nat):Iz (w.setCell ⟨g,j,none⟩ (.int .i64 (x:Int))) g n (updN f j x):=by
 have h1:(w.setCell ⟨g,j,none⟩ (.int .i64 (x:Int))).heap[g]?=some (.cells (((List.range n).map fun j=>Value.int .i64 (f j:Int)).toArray.setIfInBounds j (.int .i64 (x:Int))) 3 (0,0)):=heap_setCell_same w g j _ _ _ h
 unfold Iz
 rw [h1]
 congr 2
 apply Array.ext'
 apply List.ext_getElem?
 intro i
 by_cases hi:i<n
 ·by_cases e:i=j
  ·subst e
   simp [updN,hi]
  ·simp [updN,hi,e,Ne.symm e]
 ·simp [hi]
end
theorem made_iz (w:World) (n:Nat):Iz (w.alloc (.cells (madeCells #[.int .i64 0] n) 3)) w.heap.size n (fun _=>0):=by
 unfold Iz
 rw [heap_alloc_new]
 congr 2
 apply Array.ext'
 rw [toList_madeCells_one]
 simp [List.map_const']
structure SS (w0:World) (B:Nat) (w:World) (hs hz g n b m:Nat) (v:Value) (t:List Nd) (f:Nat→Nat) (x:Nat):Prop where
 s:Box w hs (.int .i64 (x:Int)) 3
 z:Box w hz (.slice (some ⟨g,0,none⟩) n n) 28
 a:Iz w g n f
 ne:g≠hs
 tb:Tb w b m v t
 be:Below B w0 w
 hB:B≤hs
 hBw:B≤w.heap.size
section
variable {w0 w w':World} {B hs hz g n b m:Nat} {v:Value} {t:List Nd} {f:Nat→Nat} {x:Nat}
theorem SS.later (h:SS w0 B w hs hz g n b m v t f x) (hb:Below w.heap.size w w'):SS w0 B w' hs hz g n b m v t f x :=
 ⟨(hb.block _ h.s.lt).trans h.s,(hb.block _ h.z.lt).trans h.z,(hb.block _ h.a.lt).trans h.a,h.ne,h.tb.later hb,h.be.trans (hb.mono h.hBw),h.hB,Nat.le_trans h.hBw hb.size⟩
theorem nft_int {w:World} {g b m:Nat} {v:Value} {t:List Nd} {cs:Array Value} (h:w.heap[g]?=some (.cells cs 3 (0,0))) (hT:Tb w b m v t):¬ Ft b m v g:=by
 rintro (rfl | rfl | e)
 ·rw [hT.tab] at h;simp at h
 ·obtain ⟨D,⟨es,cl,hm,_⟩,_⟩:=hT.map
  rw [h] at hm;cases hm
 ·obtain ⟨_,cur,hh⟩:=hT.row.lt g e
  rw [h] at hh;simp at hh
theorem SS.put (h:SS w0 B w hs hz g n b m v t f x) (y:Nat):SS w0 B (w.setCell ⟨hs,0,none⟩ (.int .i64 (y:Int))) hs hz g n b m v t f y∧KW w (w.setCell ⟨hs,0,none⟩ (.int .i64 (y:Int))):=by
 have hzs:hz≠hs:=fun e=>by subst e;have h1:=h.s;have h2:=h.z;unfold Box at h1 h2;rw [h1] at h2;simp at h2
 refine ⟨⟨heap_setCell_same w hs 0 _ _ _ h.s,(Below.heap_setCell _ _ _ _ hzs).trans h.z,(Below.heap_setCell _ _ _ _ h.ne).trans h.a,h.ne,h.tb.keep fun k hk=>Below.heap_setCell _ _ _ _ (fun e=>nft_int h.s h.tb (by subst e;exact hk)),h.be.setCell h.hB _,h.hB,by simpa using h.hBw⟩,by simp,fun k cs ty fr hh ht=>Below.heap_setCell _ _ _ _ fun e => ?_⟩
 subst e
 have h1:=h.s
 unfold Box at h1
 rw [h1] at hh
 simp only [Option.some.injEq,Obj.cells.injEq] at hh
 obtain ⟨_,rfl,_⟩:=hh
 rcases ht with h | h | h | h <;> exact absurd h (by decide)
set_option maxHeartbeats 1000000 in
theorem size1_any (h:SS w0 B w hs hz g n b m v t f x) (s:ByteArray) (hx:x≤1000000) (hl:s.size≤65537) :
 Calls Tryz.prog 194 #[.string s,.pointer (some ⟨hs,0,none⟩)] w fun e w'=>e=.returned (.tuple #[])∧SS w0 B w' hs hz g n b m v t f (x+s.size)∧KW w w':=by
 have X:=show Hid _ from h.put (x+s.size)
 have c0:=h.s.c0
 have f0:=h.s.fr
 clear h
 go_enter Tryz.func194,Tryz.ntmps194
 go_wp2_with fail
 go_end0
 exact ⟨rfl,X.out.1,X.out.2⟩
set_option maxHeartbeats 1000000 in
theorem size2_any (h:SS w0 B w hs hz g n b m v t f x) (j:Nat) (hj:j<n) (_hn:n≤1025) (hx:x≤1000000) (hl:f j≤65537) :
 Calls Tryz.prog 195 #[.int .i64 (j:Int),.pointer (some ⟨hs,0,none⟩),.pointer (some ⟨hz,0,none⟩)] w fun e w'=>e=.returned (.tuple #[])∧SS w0 B w' hs hz g n b m v t f (x+f j)∧KW w w':=by
 have X:=show Hid _ from h.put (x+f j)
 have c0:=h.s.c0
 have f0:=h.s.fr
 have c1:=h.z.c0
 have c2:=h.a.cell hj
 have hji:(j:Int)<(n:Int):=by omega
 have Z:=show Hid (SS w0 B w hs hz g n b m v t f x) from h
 clear h
 go_enter Tryz.func195,Tryz.ntmps195
 go_wp2_with fail
 go_region
 go_wp2_with fail
 go_end0
 exact ⟨rfl,X.out.1.later (Below.refl _ _).drew,X.out.2.trans (KW.of_below (Below.refl _ _).drew)⟩
end
theorem IsI.at {w:World} {B:Nat} {v:Value} {l:List Nat} (h:IsI w B v l) (h0:0<l.length):∃ g cap,v=.slice (some ⟨g,0,none⟩) l.length cap∧g<w.heap.size∧l.length≤cap∧cap≤maxLen∧∀ k (hk:k<l.length),w.cell? ⟨g,k,none⟩=some (.int .i64 ((l[k]:Nat):Int)):=by
 rcases h.2 with ⟨_,h1⟩ | ⟨g,cap,cur,rfl,_,hh,h1,h2,h3,h4⟩
 ·omega
 ·refine ⟨g,cap,rfl,lt_of_block hh,h1,h2,fun k hk => ?_⟩
  rw [cell_of_row w g k _ _ _ hh]
  have h5:(cur.toList.take (l.length * 1))[k]?=some (.int .i64 ((l[k]:Nat):Int)):=by
   rw [h4]
   simp [ints,List.getElem?_eq_getElem hk]
  rw [List.getElem?_take,if_pos (by omega)] at h5
  simpa using h5
structure Sz (w wr:World) (g hz n b m:Nat) (v:Value) (t:List Nd) (f:Nat→Nat):Prop where
 p:Box wr w.heap.size (.pointer (some ⟨b,0,none⟩)) 222
 z:Box wr hz (.slice (some ⟨g,0,none⟩) n n) 28
 a:Iz wr g n f
 tb:Tb wr b m v t
 be:Below w.heap.size w wr
set_option maxRecDepth 100000 in
set_option maxHeartbeats 4000000 in
theorem size_any (w:World) {b m:Nat} {v:Value} {t:List Nd} (hT:Tb w b m v t) (id:Nat) (hid:id<t.length) {Bv:Nat} {vb:Value} (hI:IsI w Bv vb (Fm.below t id)) :
 Calls Tryz.prog 166 #[.agg #[.pointer (some ⟨b,0,none⟩)],vb] w fun e w'=>e=.returned (.int .i64 (Pr.wd t (id:Int):Int))∧Below w.heap.size w w':=by
 obtain ⟨pre,hpre⟩:=Pr.below_last t id
 have hOk:=hT.ok
 have h1024:=hOk.len
 obtain ⟨gb,cap,rfl,hgb,hlc,hcm,hcell⟩:=hI.at (by rw [hpre];simp)
 have hlen1:(Fm.below t id).length=pre.length+1:=by rw [hpre];simp
 have hlast:(Fm.below t id)[pre.length]'(by omega)=id:=by simp [hpre]
 have hleni:(Fm.below t id).length≤1024+1:=by
  have h1:(Fm.below t id).length≤(List.range (id+1)).length:=by unfold Fm.below;exact List.length_filter_le _ _
  simp at h1
  omega
 have HC:=show Hid (∀ wr k (hk:k<(Fm.below t id).length),Below w.heap.size w wr→wr.cell? ⟨gb,k,none⟩=some (.int .i64 (((Fm.below t id)[k]:Nat):Int))) from fun wr k hk hb=>(hb.cell (p:=⟨gb,k,none⟩) hgb).trans (hcell k hk)
 have HLT:=show Hid (∀ k (hk:k<(Fm.below t id).length),(Fm.below t id)[k]≤id) from fun k hk=>Pr.below_le (List.getElem_mem hk)
 have HST:=show Hid (∀ k (hk:k<(Fm.below t id).length) (f:Nat→Nat),(∀ j ∈ (Fm.below t id).take k,f j=Pr.wd t (j:Int))→∀ j,Pc.pt j ∈ Pr.pcs t (((Fm.below t id)[k]:Nat):Int)→∃ q:Nat,j=q∧q<id+1∧f q=Pr.wd t j) from fun k hk f hf j hj=>by
  have hmem:=List.getElem_mem hk
  have hle:=Pr.below_le hmem
  have hh:Fm.has t (((Fm.below t id)[k]:Nat):Int)=true:=Fm.has_iff.2 ⟨by omega,by omega⟩
  rcases Pr.pcs_mem hOk hh hj with ⟨s,hs,_⟩ | ⟨j',hj',h1,h2,h3,h4⟩
  ·cases hs
  ·cases hj'
   obtain ⟨k',hk',hk2,hn⟩:=Pr.node_at hh
   obtain rfl:k'=(Fm.below t id)[k]:=by omega
   rw [hn] at h3 h4
   have hcl:=Pr.below_closed hOk hid hmem hk2 h3
   have hj0:=Fm.has_iff.1 h1
   have hin:j.toNat ∈ Fm.below t id:=by rcases h4 with rfl | rfl;exact hcl.1;exact hcl.2
   have htk:=Pr.below_first t id hin hk (by omega)
   refine ⟨j.toNat,by omega,by omega,?_⟩
   rw [hf _ htk]
   congr 1
   omega
 have HTX:=show Hid (∀ k (hk:k<(Fm.below t id).length) s,Pc.tx s ∈ Pr.pcs t (((Fm.below t id)[k]:Nat):Int)→s.size≤31) from fun k hk s hs=>by
  have hmem:=List.getElem_mem hk
  have hle:=Pr.below_le hmem
  have hh:Fm.has t (((Fm.below t id)[k]:Nat):Int)=true:=Fm.has_iff.2 ⟨by omega,by omega⟩
  rcases Pr.pcs_mem hOk hh hs with ⟨s',hs',h1⟩ | ⟨j',hj',_⟩
  ·cases hs';exact h1
  ·cases hj'
 have HWD:=show Hid (∀ k (hk:k<(Fm.below t id).length),Pr.wd t (((Fm.below t id)[k]:Nat):Int)=min (Pr.sumW t (Pr.pcs t (((Fm.below t id)[k]:Nat):Int))) 65537) from fun k hk=>Pr.wd_sum hOk (Fm.has_iff.2 ⟨by omega,by have:=Pr.below_le (List.getElem_mem hk);omega⟩)
 have hc1:w.cell? ⟨gb,pre.length,none⟩=some (.int .i64 (id:Int)):=by rw [hcell pre.length (by omega),hlast]
 have HB:=show Hid ((Fm.below t id).take (Fm.below t id).length=Fm.below t id∧id ∈ Fm.below t id) from ⟨List.take_length,by rw [hpre];simp⟩
 have hmk:∀ w:World,(Instr.makeSlice 28 (.int .i64 ((id:Int)+1)) (.int .i64 ((id:Int)+1))).run Tryz.prog w=.ok (.slice (some ⟨w.heap.size,0,none⟩) (id+1) (id+1)) (w.alloc (.cells (madeCells #[.int .i64 0] (id+1)) 3)):=fun w=>by
  have h:=run_make_row' (P:=Tryz.prog) 28 3 (.int .i64 0) 8 Tryz.underlying28 info_int rfl .i64 .i64 (id+1) (by omega) (by omega) w
  simpa using h
 have HSN:=show Hid (∀ k (hk:k<(Fm.below t id).length),(Fm.below t id).take (k+1)=(Fm.below t id).take k ++ [(Fm.below t id)[k]]) from fun k hk=>List.take_succ_eq_append_getElem hk
 have hgb2:True:=trivial
 have HT:=show Hid (Tb w b m v t) from hT
 clear hT hI hcell hpre hlast hOk hgb2
 generalize Fm.below t id=bl at *
 generalize pre.length=L at *
 rw [hlen1] at hleni hlc ⊢
 have HLN:=show Hid (bl.length=L+1) from hlen1
 clear hlen1
 have hmf:=mkFunc
 go_enter Tryz.func166,Tryz.ntmps166
 go_wp2_with fail
 have X0:=show Hid (Sz w (((w.alloc (Obj.cells #[.pointer (some ⟨b,0,none⟩)] 222)).alloc (Obj.cells (madeCells #[.int .i64 0] (id+1)) 3)).alloc (Obj.cells #[.slice (some ⟨w.heap.size+1,0,none⟩) (id+1) (id+1)] 28)) (w.heap.size+1) (w.heap.size+1+1) (id+1) b m v t (fun _=>0)) from by
  have hb:Below w.heap.size w (((w.alloc (Obj.cells #[.pointer (some ⟨b,0,none⟩)] 222)).alloc (Obj.cells (madeCells #[.int .i64 0] (id+1)) 3)).alloc (Obj.cells #[.slice (some ⟨w.heap.size+1,0,none⟩) (id+1) (id+1)] 28)):=(((Below.refl _ _).alloc (Nat.le_refl _) _).alloc (by simp) _).alloc (by simp;omega) _
  refine ⟨(Below.heap_alloc _ _ _ (by simp;omega)).trans ((Below.heap_alloc _ _ _ (by simp)).trans (heap_new_at _ _ _ rfl)),heap_new_at _ _ _ (by simp),(Below.heap_alloc _ _ _ (by simp)).trans ?_,HT.out.later hb,hb⟩
  have:=made_iz (w.alloc (Obj.cells #[.pointer (some ⟨b,0,none⟩)] 222)) (id+1)
  unfold Iz at this
  rw [show (w.alloc (Obj.cells #[Value.pointer (some ⟨b,0,none⟩)] 222)).heap.size=w.heap.size+1 by simp] at this
  exact this
 clear HT hmk hc1
 go_loopw [8,9,21] (fun _ _ i wr=>∃ (k:Nat) (f:Nat→Nat),k≤L+1∧i=.int .i64 k∧Hid (∀ j ∈ bl.take k,f j=Pr.wd t (j:Int))∧Hid (Sz w wr (w.heap.size+1) (w.heap.size+1+1) (id+1) b m v t f)) (fun _ _ i _=>L+1 - (intOf i).toNat)
 case atStart=>exact ⟨0,fun _=>0,by omega,rfl,(by intro j hj;simp at hj),X0⟩
 case round =>
  obtain ⟨k,f,hk,rfl,HF,Y⟩:=hrel
  clear X0
  by_cases hlt':k<L+1
  ·have hlt:k<bl.length:=by rw [HLN.out];exact hlt'
   have hki:(k:Int)<(L:Int)+1:=by omega
   have hci:=HC.out wr k hlt Y.out.be
   have hle:=HLT.out k hlt
   have hst:=HST.out k hlt f HF.out
   have htx:=HTX.out k hlt
   have hwd:=HWD.out k hlt
   have hsn:=HSN.out k hlt
   generalize bl[k]=i at *
   clear hlt
   have hal:Below wr.heap.size wr (wr.alloc (Obj.cells #[.int .i64 0] 3)):=below_alloc _ _
   have S0:SS w w.heap.size (wr.alloc (Obj.cells #[.int .i64 0] 3)) wr.heap.size (w.heap.size+1+1) (w.heap.size+1) (id+1) b m v t f 0 :=
    ⟨heap_alloc_new _ _,(hal.block _ Y.out.z.lt).trans Y.out.z,(hal.block _ Y.out.a.lt).trans Y.out.a,by have:=Y.out.a.lt;omega,Y.out.tb.later hal,Y.out.be.trans (hal.mono Y.out.be.size),Y.out.be.size,by have:=Y.out.be.size;simp;omega⟩
   have WK:Wk t b m v (fun dn w'=>SS w w.heap.size w' wr.heap.size (w.heap.size+1+1) (w.heap.size+1) (id+1) b m v t f (Pr.sumW t dn)∧Pr.sumW t dn≤dn.length * 65537) 194 195 #[.pointer (some ⟨wr.heap.size,0,none⟩)] #[.pointer (some ⟨wr.heap.size,0,none⟩),.pointer (some ⟨w.heap.size+1+1,0,none⟩)]
    (fun dn x=>dn.length≤6∧(∀ s,x=.tx s→s.size≤31)∧∀ j,x=.pt j→∃ q:Nat,j=q∧q<id+1∧f q=Pr.wd t j):=by
    refine ⟨fun dn w h=>h.1.tb,fun dn w w' h hb=>⟨h.1.later hb,h.2⟩,fun dn w' s h hk => ?_,fun dn w' j h hk => ?_,fun _ _=>by simp [go_sem],fun _ _=>by simp [go_sem]⟩
    ·have h31:=hk.2.1 s rfl
     have e1:Pr.sumW t (dn ++ [.tx s])=Pr.sumW t dn+s.size:=by rw [Pr.sumW_app];simp [Pr.sumW,Pr.pw]
     have h6:=hk.1
     have h7:=h.2
     refine (size1_any h.1 s (by omega) (by omega)).mono fun e w'' hh=>⟨hh.1,⟨by rw [e1];exact hh.2.1,by rw [e1,List.length_append,List.length_singleton];omega⟩,hh.2.2⟩
    ·obtain ⟨q,rfl,hq,hfq⟩:=hk.2.2 j rfl
     have e1:Pr.sumW t (dn ++ [.pt (q:Int)])=Pr.sumW t dn+f q:=by rw [Pr.sumW_app,hfq];simp [Pr.sumW,Pr.pw]
     have h6:=hk.1
     have h7:=h.2
     have h8:f q≤65537:=by rw [hfq];unfold Pr.wd;omega
     refine (size2_any h.1 q hq (by omega) (by omega) h8).mono fun e w'' hh=>⟨hh.1,⟨by rw [e1];exact hh.2.1,by rw [e1,List.length_append,List.length_singleton];omega⟩,hh.2.2⟩
   have KW1:=show Hid (Calls Tryz.prog 168 #[.agg #[.pointer (some ⟨b,0,none⟩)],.int .i64 (i:Int),.func (.func 194) #[] #[.pointer (some ⟨wr.heap.size,0,none⟩)],.func (.func 195) #[] #[.pointer (some ⟨wr.heap.size,0,none⟩),.pointer (some ⟨w.heap.size+1+1,0,none⟩)]] (wr.alloc (Obj.cells #[.int .i64 0] 3)) fun e w'=>e=.returned (.tuple #[])∧SS w w.heap.size w' wr.heap.size (w.heap.size+1+1) (w.heap.size+1) (id+1) b m v t f (Pr.sumW t (Pr.pcs t (i:Int)))∧Box w' w.heap.size (.pointer (some ⟨b,0,none⟩)) 222∧Pr.sumW t (Pr.pcs t (i:Int))≤1000000) from by
    refine (walk_any _ WK ⟨S0,by simp [Pr.sumW]⟩ (i:Int) fun pre x post he=>⟨?_,fun s hs => ?_,fun j hj => ?_⟩).mono fun e w' hh=>⟨hh.1,hh.2.1.1,hh.2.2.box ((hal.block _ Y.out.p.lt).trans Y.out.p) (Or.inl rfl),?_⟩
    ·have h7:=Pr.pcs_len t (i:Int)
     rw [he] at h7
     simp at h7
     omega
    ·exact htx s (by rw [he,hs];simp)
    ·exact hst j (by rw [he,hj];simp)
    ·have h7:=Pr.pcs_len t (i:Int)
     have h8:=hh.2.1.2
     omega
   have HWDI:=show Hid (Pr.wd t (i:Int)=min (Pr.sumW t (Pr.pcs t (i:Int))) 65537) from hwd
   have HSNI:=show Hid (bl.take (k+1)=bl.take k ++ [i]) from hsn
   generalize Pr.sumW t (Pr.pcs t (i:Int))=sm at *
   have y0:=Box.c0 (show Box (wr.alloc (Obj.cells #[.int .i64 0] 3)) w.heap.size (.pointer (some ⟨b,0,none⟩)) 222 from (hal.block _ Y.out.p.lt).trans Y.out.p)
   clear hst htx hwd hsn hal S0 WK
   go_wp2_with fail
   refine KW1.out.mono ?_
   rintro e w3 ⟨rfl,hS3,hb3,hsm⟩
   have X3:=show Hid (SS w w.heap.size w3 wr.heap.size (w.heap.size+1+1) (w.heap.size+1) (id+1) b m v t f sm∧Box w3 w.heap.size (.pointer (some ⟨b,0,none⟩)) 222) from ⟨hS3,hb3⟩
   have r0:=hS3.s.c0
   have r1:=hS3.z.c0
   have r2:=hS3.a.cell (j:=i) (by omega)
   have rf:=hS3.a.fr
   have hii:(i:Int)<((id+1:Nat):Int):=by omega
   have HFN:=show Hid (∀ x:Nat,x=Pr.wd t (i:Int)→∀ j ∈ bl.take (k+1),updN f i x j=Pr.wd t (j:Int)) from fun x hx j hj=>by
    rw [HSNI.out] at hj
    unfold updN
    by_cases e:j=i
    ·subst e;rw [if_pos rfl];exact hx
    ·rw [if_neg e]
     rcases List.mem_append.1 hj with h | h
     ·exact HF.out j h
     ·simp at h;exact absurd h e
   have HSZ:=show Hid (∀ x:Nat,Sz w (w3.setCell ⟨w.heap.size+1,i,none⟩ (.int .i64 (x:Int))) (w.heap.size+1) (w.heap.size+1+1) (id+1) b m v t (updN f i x)) from fun x=>by
    obtain ⟨hs,hp⟩:=X3.out
    exact ⟨(Below.heap_setCell _ _ _ _ (show w.heap.size≠w.heap.size+1 by omega)).trans hp,(Below.heap_setCell _ _ _ _ (show w.heap.size+1+1≠w.heap.size+1 by omega)).trans hs.z,hs.a.set i x,hs.tb.keep fun q hq=>Below.heap_setCell _ _ _ _ (fun e=>nft_int hs.a hs.tb (by subst e;exact hq)),hs.be.setCell (show w.heap.size≤w.heap.size+1 by omega) _⟩
   clear hS3 hb3 KW1 y0 X3
   by_cases hcap:sm≤65537
   ·have hc1:(sm:Int)≤65537:=by omega
    have hc2:¬ 65537<(sm:Int):=by omega
    have HV:=show Hid (sm=Pr.wd t (i:Int)) from (by rw [HWDI.out];omega:sm=Pr.wd t (i:Int))
    clear hcap
    go_wp2_with fail
    go_roundw
    case rel=>exact ⟨k+1,updN f i sm,by omega,by go_num,HFN.out sm HV.out,HSZ.out sm⟩
    case measure=>first | (simp [intOf];done) | (simp [intOf];omega)
   ·have hc1:65537<(sm:Int):=by omega
    have hc2:¬ (sm:Int)≤65537:=by omega
    have HV:=show Hid (65537=Pr.wd t (i:Int)) from (by rw [HWDI.out];omega:65537=Pr.wd t (i:Int))
    clear hcap
    go_wp2_with fail
    go_roundw
    case rel=>exact ⟨k+1,updN f i 65537,by omega,by go_num,HFN.out 65537 HV.out,HSZ.out 65537⟩
    case measure=>first | (simp [intOf];done) | (simp [intOf];omega)
  ·have hke:¬ (k:Int)<(L:Int)+1:=by omega
   have hkk:k=bl.length:=by rw [HLN.out];omega
   have hfin:=HF.out id (by rw [hkk,HB.out.1];exact HB.out.2)
   have r1:=Y.out.z.c0
   have r2:=Y.out.a.cell (j:=id) (by omega)
   rw [hfin] at r2
   clear hkk hfin
   generalize hwi:Pr.wd t (id:Int)=wdi at *
   have HWI:=show Hid (Pr.wd t (id:Int)=wdi) from hwi
   clear hwi
   go_wp2_with fail
   go_ret
   exact ⟨ret_int (by rw [HWI.out]),Y.out.be⟩
end Go.Proofs.YtkmmlimekachbaaGreatDoor
