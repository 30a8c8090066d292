/-
  The calls made, has, joins, shaped and check of a table: for every row that a machine can hold. No other condition.
-/
import Derived.Test.YtoedidbbjnnpnaaTH5
import Derived.Shelf.SlMaps.Clone
import Derived.Deep.RegionHeld3
import Derived.Deep.OwnRows
namespace Go.Proofs.Ytoedidbbjnnpnaa
open Go.RowKit
open Fm (Nd)
theorem Rw.form {w:World} {v:Value} {t:List Nd} (h:Rw w v t):∃ p c,v=.slice p t.length c:=by
 obtain ⟨p,c,hv,_⟩:=h.isR
 exact ⟨p,c,hv⟩
theorem has_eq (t:List Nd) (i:Int):Fm.has t i=(decide (0≤i) && decide (i<t.length)):=rfl
end Go.Proofs.Ytoedidbbjnnpnaa
/-
  The calls shaped and check of a table: for every row that a machine can hold. No other condition.
-/
namespace Go.Proofs.Ytoedidbbjnnpnaa
open Go.RowKit
open Fm (Nd)
theorem eq_nd (w:World) {a b:Nd} (ha:Fm.good a) (hb:Fm.good b):(Op.equalIn 10000 116 (ndV a) (ndV b)).run Try.prog w=.ok (decide (a=b)) w:=by
 obtain ⟨r,hr,hiff⟩:=run_equal_deep (P:=Try.prog) w (m:=2) (by omega) (k:=116) (by kernel_rfl) (by kernel_rfl) (key_nd ha) (key_nd hb)
 have e:r=decide (a=b):=by
  rw [Bool.eq_iff_iff,hiff]
  simp
  exact ⟨fun h=>key_inj ha hb h,fun h=>by rw [h]⟩
 rw [← e]
 exact hr
theorem nil_bytes (s:ByteArray):(s.toList == [])=(s.size == 0):=by
 rw [ByteArray.toList_eq]
 obtain ⟨⟨l⟩⟩:=s
 show (l == [])=(l.length == 0)
 cases l <;> rfl
end Go.Proofs.Ytoedidbbjnnpnaa
/-
  The call Put of a table: for every row that a machine can hold. No other condition.
-/
namespace Go.Proofs.Ytoedidbbjnnpnaa
open Go.RowKit Go.Maps
open Fm (Nd)
def numOf (t:List Nd) (n:Nd):Int:=if n ∈ t then (t.idxOf n:Int) else 0
theorem put_eq (t:List Nd) (n:Nd):Fm.put t n=if Fm.check t n=0 then (if n ∈ t then ((t.idxOf n:Int),0,t) else if 1024≤t.length then (0,30,t) else ((t.length:Int),0,t ++ [n])) else (0,Fm.check t n,t):=rfl
end Go.Proofs.Ytoedidbbjnnpnaa
/-
  The calls Node, Find and Len of a table: for every number and row. No other condition.
-/
namespace Go.Proofs.Ytoedidbbjnnpnaa
open Go.RowKit Go.Maps
open Fm (Nd)
section
variable (w:World) {b m:Nat} {v:Value} {t:List Nd}
theorem results_cell_tmp {P:Program} {fn:Func} {p t2:Tmp} {ty:TypeId} (h:fn.results=#[.cell p ty,.tmp t2]) (tmps:Array Value) (w:World) (g:Nat) (t:TypeId) (cs:Array Value) (fr:Nat × Nat) (d:TypeDesc)
 (hp:tmps.getD p undef=.pointer (some ⟨g,0,none⟩)) (hg:w.heap[g]?=some (.cells cs t fr))
 (hu:P.underlying ty=some d) (hd:(match d with | .struct _ | .array _ _=>true | _=>false)=true) (hi:(P.info? ty).map (·.size)=some cs.size) :
 (results fn tmps).run P w=.ok (.tuple #[.agg cs,tmps.getD t2 undef]) w:=by
 have hp':tmps[p]?.getD undef=.pointer (some ⟨g,0,none⟩):=by simpa using hp
 simp [results,h,hp',asAddr,run_loadVar_row w g t ty cs fr d hg hu hd hi,Result.andThen]
def N4 (w:World) (g:Nat) (n:Nd):Prop:=w.heap[g]?=some (.cells #[.int .i64 n.k,.string n.s,.int .i64 n.l,.int .i64 n.r] 116 (0,0))
section
variable {w:World} {g:Nat} {n:Nd}
theorem N4.c0 (h:N4 w g n):w.cell? ⟨g,0,none⟩=some (.int .i64 n.k):=by rw [cell_of_row w g 0 _ _ _ h];rfl
theorem N4.c1 (h:N4 w g n):w.cell? ⟨g,1,none⟩=some (.string n.s):=by rw [cell_of_row w g 1 _ _ _ h];rfl
theorem N4.c2 (h:N4 w g n):w.cell? ⟨g,2,none⟩=some (.int .i64 n.l):=by rw [cell_of_row w g 2 _ _ _ h];rfl
theorem N4.c3 (h:N4 w g n):w.cell? ⟨g,3,none⟩=some (.int .i64 n.r):=by rw [cell_of_row w g 3 _ _ _ h];rfl
theorem N4.fr (h:N4 w g n) (j:Nat):w.frozen? ⟨g,j,none⟩=false:=frozen_of_row w g j _ _ h
theorem N4.set (h:N4 w g n) (a:Nd):N4 ((((w.setCell ⟨g,0,none⟩ (.int .i64 a.k)).setCell ⟨g,1,none⟩ (.string a.s)).setCell ⟨g,2,none⟩ (.int .i64 a.l)).setCell ⟨g,3,none⟩ (.int .i64 a.r)) g a :=
 heap_setCell_same _ g 3 _ _ _ (heap_setCell_same _ g 2 _ _ _ (heap_setCell_same _ g 1 _ _ _ (heap_setCell_same w g 0 _ _ _ h)))
end
end
end Go.Proofs.Ytoedidbbjnnpnaa
/-
  The calls Rows and Copy of a table: new memory, the same rows. No condition.
-/
namespace Go.Proofs.Ytoedidbbjnnpnaa
open Go.RowKit Go.Maps
open Fm (Nd)
section
variable (w:World) {b m:Nat} {v:Value} {t:List Nd}
theorem Rw.two {w:World} {v:Value} {t:List Nd} (h:Rw w v t):v=.slice none 0 0∨∃ a n c,v=.slice (some a) n c:=by
 rcases h with ⟨rfl,rfl⟩ | ⟨g,cap,cur,rfl,_⟩
 ·exact Or.inl rfl
 ·exact Or.inr ⟨_,_,_,rfl⟩
end
end Go.Proofs.Ytoedidbbjnnpnaa
/-
  The calls parts and Below of a table: the numbers of all rows of which one is made. No condition.
-/
namespace Go.Proofs.Ytoedidbbjnnpnaa
open Go.RowKit Go.Maps
open Fm (Nd)
def Bs (w:World) (g n:Nat) (f:Nat→Bool):Prop:=w.heap[g]?=some (.cells ((List.range n).map fun j=>Value.bool (f j)).toArray 4 (0,0))
section
variable {w w':World} {g n:Nat} {f:Nat→Bool}
theorem Bs.cell (h:Bs w g n f) {j:Nat} (hj:j<n):w.cell? ⟨g,j,none⟩=some (.bool (f j)):=by
 rw [cell_of_row w g j _ _ _ h]
 simp [hj]
theorem Bs.fr (h:Bs w g n f) (j:Nat):w.frozen? ⟨g,j,none⟩=false:=frozen_of_row w g j _ _ h
theorem Bs.set (h:Bs w g n f) (j:Nat):Bs (w.setCell ⟨g,j,none⟩ (.bool true)) g n (Fm.upd f j):=by
 have h1:(w.setCell ⟨g,j,none⟩ (.bool true)).heap[g]?=some (.cells (((List.range n).map fun j=>Value.bool (f j)).toArray.setIfInBounds j (.bool true)) 4 (0,0)):=heap_setCell_same w g j _ _ _ h
 unfold Bs
 rw [h1]
 congr 2
 apply Array.ext'
 apply List.ext_getElem?
 intro i
 by_cases hi:i<n
 ·by_cases e:i=j
  ·subst e
   simp [Fm.upd,hi]
  ·simp [Fm.upd,hi,e,Ne.symm e]
 ·simp [hi]
theorem Bs.keep {B:Nat} (h:Bs w g n f) (hb:Below B w w') (hg:g<B):Bs w' g n f:=(hb.block g hg).trans h
theorem Bs.alloc (h:Bs w g n f) (o:Obj):Bs (w.alloc o) g n f:=(Below.heap_alloc _ _ _ (lt_of_block h)).trans h
end
section
variable (w:World) {b m:Nat} {v:Value} {t:List Nd}
def ints (l:List Nat):List Value:=l.map fun (j:Nat)=>Value.int .i64 (j:Int)
def IsI (w:World) (B:Nat) (v:Value) (l:List Nat):Prop:=w.ownsRow B 3 1 v l.length (ints l)
theorem isI_nil (w:World) (B:Nat):IsI w B (.slice none 0 0) []:=World.ownsRow_nil _ _ _ _
def upto (f:Nat→Bool) (k:Nat):List Nat:=(List.range k).filter f
end
end Go.Proofs.Ytoedidbbjnnpnaa
/-
  The call From: for every slice of rows that a machine can hold. No other condition.
-/
namespace Go.Proofs.Ytoedidbbjnnpnaa
open Go.RowKit Go.Maps
open Fm (Nd)
theorem fr_step (t:List Nd) (n:Nd) (r:List Nd):Fm.fr t (n :: r)=if (Fm.put t n).2.1=0 then (if (Fm.put t n).1=t.length then Fm.fr (Fm.put t n).2.2 r else (31,[])) else ((Fm.put t n).2.1,[]):=by
 rw [Fm.fr]
theorem put_grew {t:List Nd} {n:Nd} (h1:(Fm.put t n).2.1=0) (h2:(Fm.put t n).1=t.length):(Fm.put t n).2.2.length=t.length+1:=by
 unfold Fm.put at h1 h2 ⊢
 split
 ·rename_i hc
  rw [if_pos hc] at h1 h2
  split
  ·rename_i hm
   rw [if_pos hm] at h2
   have:=List.idxOf_lt_length_iff.2 hm
   simp at h2
   omega
  ·rename_i hm
   rw [if_neg hm] at h1 h2
   split
   ·rename_i hl;rw [if_pos hl] at h1;simp at h1
   ·simp
 ·rename_i hc
  rw [if_neg hc] at h1
  exact absurd h1 hc
theorem IsR.at {w:World} {v:Value} {t:List Nd} (h:IsR w v t):∃ p c,v=.slice p t.length c∧t.length≤c∧c≤9223372036854775807∧(0<t.length→∃ b o,p=some ⟨b,o,none⟩∧∀ w',Below w.heap.size w w'→∀ k (hk:k<t.length),At4 w' b (o+k * 4) t[k]):=by
 obtain ⟨p,c,hv,h1,h2,h3⟩:=h
 refine ⟨p,c,hv,h1,h2,fun hp => ?_⟩
 obtain ⟨b,o,hbo,hc⟩:=h3 hp
 refine ⟨b,o,hbo,fun w' hb k hk => ?_⟩
 have h:=hc k hk
 have hlt:b<w.heap.size:=World.block_lt_of_cell? w _ h.c0
 exact ⟨(hb.cell (p:=⟨b,_,none⟩) hlt).trans h.c0,(hb.cell (p:=⟨b,_,none⟩) hlt).trans h.c1,(hb.cell (p:=⟨b,_,none⟩) hlt).trans h.c2,(hb.cell (p:=⟨b,_,none⟩) hlt).trans h.c3⟩
end Go.Proofs.Ytoedidbbjnnpnaa
/-
  The document's table: Has and Find. No condition.
-/
namespace Go.Proofs.Ytoedidbbjnnpnaa
open Go.RowKit Go.Maps
open Fm (Nd)
section
variable (w:World) {c:Nat} {u:Value} {t:List Nd}
set_option maxHeartbeats 400000 in
theorem rhas_any (h:Tr w c u t) (i:Int) :
 Calls Try.prog 89 #[.pointer (some ⟨c,0,none⟩),.int .i64 i] w fun e w'=>e=.returned (.bool (Fm.has t i))∧w'=w:=by
 have h0:=h.c0
 obtain ⟨p,cp,rfl⟩:=h.row.form
 have HE:=show Hid _ from has_eq t i
 generalize Fm.has t i=r at *
 have hl:=h.ok.len
 clear h
 generalize t.length=n at *
 by_cases hi:0≤i
 all_goals
  go_enter Try.func89,Try.ntmps89
  go_wp2
  go_ret
  exact ⟨ret_bool (by rw [HE.out,Bool.eq_iff_iff];simp;try omega),rfl⟩
theorem idx_first {t:List Nd} {n:Nd} {k:Nat} (hk:k<t.length) (h:∀ j (hj:j<t.length),j<k→t[j]≠n) (e:t[k]=n):numOf t n=k∧decide (n ∈ t)=true:=by
 have hm:n ∈ t:=by rw [← e];exact List.getElem_mem hk
 refine ⟨?_,decide_eq_true hm⟩
 unfold numOf
 rw [if_pos hm]
 have h1:=List.idxOf_lt_length_iff.2 hm
 have h2:t[t.idxOf n]=n:=List.getElem_idxOf h1
 have h3:¬ t.idxOf n<k:=fun hlt=>h _ h1 hlt h2
 have h4:¬ k<t.idxOf n:=fun hlt=>by
  have:=List.not_of_lt_findIdx (p:=fun x=>x == n) (xs:=t) (i:=k) hlt
  simp [e] at this
 have h5:t.idxOf n=k:=by omega
 rw [h5]
theorem idx_none {t:List Nd} {n:Nd} (h:∀ j (hj:j<t.length),t[j]≠n):numOf t n=0∧decide (n ∈ t)=false:=by
 have hm:n ∉ t:=fun hm=>by
  obtain ⟨j,hj,e⟩:=List.mem_iff_getElem.1 hm
  exact h j hj e
 exact ⟨if_neg hm,decide_eq_false hm⟩
set_option maxRecDepth 100000 in
set_option maxHeartbeats 1000000 in
theorem rfind_any (h:Tr w c u t) (n:Nd) (hn:Fm.good n) :
 Calls Try.prog 90 #[.pointer (some ⟨c,0,none⟩),ndV n] w fun e w'=>e=.returned (.tuple #[.int .i64 (numOf t n),.bool (decide (n ∈ t))])∧Below w.heap.size w w':=by
 have HGD:=show Hid (∀ x ∈ t,Fm.good x) from h.ok.gd
 have HGN:=show Hid (Fm.good n) from hn
 have hlen:=h.ok.len
 have HF:=show Hid (∀ k (hk:k<t.length),(∀ j (hj:j<t.length),j<k→t[j]≠n)→t[k]=n→numOf t n=k∧decide (n ∈ t)=true) from fun k hk h e=>idx_first hk h e
 have HO:=show Hid ((∀ j (hj:j<t.length),t[j]≠n)→numOf t n=0∧decide (n ∈ t)=false) from fun h=>idx_none h
 generalize numOf t n=nu at *
 generalize decide (n ∈ t)=dm at *
 obtain ⟨p,cp,hv,hc1,hc2,hat⟩:=h.row.isR.at
 have HAT:=show Hid (0<t.length→∃ b o,p=some ⟨b,o,none⟩∧∀ w',Below w.heap.size w w'→∀ k (hk:k<t.length),At4 w' b (o+k * 4) t[k]) from hat
 subst hv
 have HCq:=show Hid (∀ w',Below w.heap.size w w'→w'.cell? ⟨c,0,none⟩=some (.slice p t.length cp)) from fun w' hb=>(h.later hb).c0
 obtain ⟨w0,hw0⟩:∃ w0,w0=w.alloc (Obj.cells #[.int .i64 n.k,.string n.s,.int .i64 n.l,.int .i64 n.r] 116):=⟨_,rfl⟩
 have HB:=show Hid (Below w.heap.size w w0) from by rw [hw0];exact below_alloc w _
 have HR:=show Hid (N4 w0 w.heap.size n) from by rw [hw0];exact heap_alloc_new w _
 unfold ndV at *
 have HEQ:=show Hid (∀ (x:Nd),x ∈ t→∀ w,(Op.equalIn 10000 116 (.agg #[.int .i64 x.k,.string x.s,.int .i64 x.l,.int .i64 x.r]) (.agg #[.int .i64 n.k,.string n.s,.int .i64 n.l,.int .i64 n.r])).run Try.prog w=.ok (decide (x=n)) w) from fun x hx w=>eq_nd w (HGD.out x hx) hn
 clear h hn hat
 go_enter Try.func90,Try.ntmps90
 go_wp2_with fail
 rw [← hw0]
 clear hw0
 go_loopw [6] (fun i wr=>∃ k d:Nat,k≤t.length∧i=.int .i64 (k:Int)∧wr=w0.drewN d∧Hid (∀ j (hj:j<t.length),j<k→t[j]≠n)) (fun i _=>t.length - (intOf i).toNat)
 case atStart=>exact ⟨0,0,by omega,rfl,rfl,fun j hj h=>by omega⟩
 case round =>
  obtain ⟨k,d,hk,rfl,rfl,HI⟩:=hrel
  have c0:=HCq.out w0 HB.out
  have d0:=HR.out.c0;have d1:=HR.out.c1;have d2:=HR.out.c2;have d3:=HR.out.c3
  by_cases hlt:k<t.length
  ·obtain ⟨rb,ro,rfl,hat⟩:=HAT.out (by omega)
   have hA:=hat w0 HB.out k hlt
   have hki:(k:Int)<(t.length:Int):=by omega
   have heq:=HEQ.out t[k] (List.getElem_mem hlt)
   have HFK:=show Hid (t[k]=n→nu=k∧dm=true) from HF.out k hlt HI.out
   have HNK:=show Hid (t[k]≠n→∀ j (hj:j<t.length),j<k+1→t[j]≠n) from fun hne j hj h=>by
    by_cases e:j=k
    ·subst e;exact hne
    ·exact HI.out j hj (by omega)
   generalize t[k]=nd at *
   obtain ⟨q,hq⟩:∃ q,q=decide (nd=n):=⟨_,rfl⟩
   rw [← hq] at heq
   have HQ:=show Hid (q=decide (nd=n)) from hq
   have a0:=hA.c0;have a1:=hA.c1;have a2:=hA.c2;have a3:=hA.c3
   clear hq hA hat HEQ HF HO
   go_wp2_with fail
   go_quiet (fail)
   cases q
   ·have hne:nd≠n:=of_decide_eq_false HQ.out.symm
    have HN2:=show Hid (∀ j (hj:j<t.length),j<k+1→t[j]≠n) from HNK.out hne
    clear hne HNK HFK HQ
    go_wp2_with fail
    go_roundw
    case rel=>exact ⟨k+1,_,by omega,by go_num,rfl,HN2⟩
    case measure=>first | (simp [intOf];done) | (simp [intOf];omega)
   ·have he:nd=n:=of_decide_eq_true HQ.out.symm
    obtain ⟨hnu,hdm⟩:=HFK.out he
    subst hnu hdm
    clear he HNK HFK HQ
    go_wp2_with fail
    go_ret2
    exact ⟨rfl,⟨HB.out.os,HB.out.tape,HB.out.output,HB.out.size,HB.out.block⟩⟩
  ·have hki:¬ (k:Int)<(t.length:Int):=by omega
   obtain ⟨hnu,hdm⟩:=HO.out fun j hj=>HI.out j hj (by omega)
   subst hnu hdm
   clear HEQ HF HO
   go_wp2_with fail
   go_ret2
   exact ⟨rfl,⟨HB.out.os,HB.out.tape,HB.out.output,HB.out.size,HB.out.block⟩⟩
end
end Go.Proofs.Ytoedidbbjnnpnaa
/-
  The document's call Put: for every row that a machine can hold. No other condition.
-/
namespace Go.Proofs.Ytoedidbbjnnpnaa
open Go.RowKit Go.Maps
open Fm (Nd)
theorem halfR {w W w':World} {c:Nat} {u u':Value} {t t':List Nd} (h:Tr w c u t) (hW:Below w.heap.size w W) (hg:W.grownBy w' u.ownBlock) (hr:Rw w' u' t') (hl:Lies W.heap.size u u') (hok:Fm.Ok t') :
 Tr (w'.setCell ⟨c,0,none⟩ u') c u' t'∧Lies w.heap.size u u'∧Kp (Fr c u) w (w'.setCell ⟨c,0,none⟩ u'):=by
 have hb:w'.heap[c]?=some (.cells #[u] 88 (0,0)):=(hg.block c (Nat.lt_of_lt_of_le h.clt hW.size) (fun e=>h.uc e.symm)).trans ((hW.block c h.clt).trans h.tab)
 have hne:u'.ownBlock≠some c:=fun e=>by
  obtain ⟨_,cur,hh⟩:=hr.lt c e
  rw [hb] at hh
  simp at hh
 have hsz:=hW.size
 refine ⟨⟨heap_setCell_same w' c 0 _ _ _ hb,hr.keep fun k hk=>Below.heap_setCell _ _ _ _ (fun e=>hne (hk.trans (congrArg some e))),hok⟩,fun k hk=>(hl k hk).imp id (fun h'=>by omega),?_⟩
 refine ⟨hg.os.trans hW.os,hg.tape.trans hW.tape,hg.output.trans hW.output,Nat.le_trans hW.size (Nat.le_trans hg.size (by simp [World.setCell])),fun k hk hn => ?_⟩
 rw [Below.heap_setCell _ _ _ _ (fun e=>hn (Or.inl e))]
 exact (hg.block k (Nat.lt_of_lt_of_le hk hW.size) (fun e=>hn (Or.inr e.symm))).trans (hW.block k hk)
theorem check_ways (t:List Nd) (n:Nd) :
 (n.k=1∧(((n.l != 0)=true∧Fm.check t n=31)∨((n.l != 0)=false∧(n.r != 0)=true∧Fm.check t n=31)∨((n.l != 0)=false∧(n.r != 0)=false∧Fm.word n.s.data.toList=false∧Fm.check t n=32)∨((n.l != 0)=false∧(n.r != 0)=false∧Fm.word n.s.data.toList=true∧Fm.check t n=0))) ∨
 (n.k=2∧(((n.s.toList == [])=false∧Fm.check t n=31)∨((n.s.toList == [])=true∧(n.l != 0)=true∧Fm.check t n=31)∨((n.s.toList == [])=true∧(n.l != 0)=false∧(n.r != 0)=true∧Fm.check t n=31)∨((n.s.toList == [])=true∧(n.l != 0)=false∧(n.r != 0)=false∧Fm.check t n=0))) ∨
 ((n.k=3∨n.k=4∨n.k=5)∧(((n.s.toList == [])=false∧Fm.check t n=31)∨((n.s.toList == [])=true∧Fm.has t n.l=false∧Fm.check t n=31)∨((n.s.toList == [])=true∧Fm.has t n.l=true∧Fm.has t n.r=false∧Fm.check t n=31)∨((n.s.toList == [])=true∧Fm.has t n.l=true∧Fm.has t n.r=true∧Fm.check t n=0))) ∨
 ((n.k == 1)=false∧(n.k == 2)=false∧(n.k == 3)=false∧(n.k == 4)=false∧(n.k == 5)=false∧Fm.check t n=31):=by
 rw [nil_bytes]
 unfold Fm.check Fm.shaped
 obtain ⟨k,s,l,r⟩:=n
 simp only
 by_cases h1:k=1
 ·subst h1
  refine Or.inl ⟨rfl,?_⟩
  simp only [if_true]
  cases hl:(l == 0) <;> cases hr:(r == 0) <;> cases hw:Fm.word s.data.toList <;> simp_all [bne]
 ·refine Or.inr ?_
  by_cases h2:k=2
  ·subst h2
   refine Or.inl ⟨rfl,?_⟩
   cases hz:(s.size == 0) <;> cases hl:(l == 0) <;> cases hr:(r == 0) <;> simp_all [bne]
  ·refine Or.inr ?_
   by_cases h3:k=3∨k=4∨k=5
   ·have hj:Fm.jn k=true:=by
     rcases h3 with rfl | rfl | rfl <;> rfl
    refine Or.inl ⟨h3,?_⟩
    rw [if_neg h1,if_neg h2,if_pos hj]
    cases hz:(s.size == 0) <;> cases hl:Fm.has t l <;> cases hr:Fm.has t r <;> simp [h1]
   ·have hj:Fm.jn k=false:=by
     simp only [not_or] at h3
     simp [Fm.jn,h3]
    refine Or.inr ?_
    simp only [not_or] at h3
    simp [h1,h2,h3,hj]
end Go.Proofs.Ytoedidbbjnnpnaa
