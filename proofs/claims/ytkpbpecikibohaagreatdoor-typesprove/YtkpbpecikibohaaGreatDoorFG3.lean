import Derived.Test.YtkpbpecikibohaaGreatDoorFG2
import Derived.Shelf.SlMaps.Clone
import Derived.Deep.RegionHeld3
import Derived.Deep.OwnRows
set_option linter.unusedSimpArgs false
set_option maxRecDepth 100000
set_option maxHeartbeats 2000000
namespace Go.Proofs.YtkpbpecikibohaaGreatDoor
open Go.RowKit Go.Maps
open Fm (Nd)
theorem Kw {w:World} {b o c:Nat} {t:List Nd} (h:lH w (.slice (some ⟨b,o,none⟩) t.length c) t):∀ j u,(cellsOf t)[j]?=some u->w.cell? ((⟨b,o,none⟩:Addr).add j)=some u:=by
 intro j u hu
 obtain⟨hj,_⟩:=List.getElem?_eq_some_iff.1 hu
 rw[jg] at hj
 obtain⟨p,c',hv,_,_,hat⟩:=h
 obtain⟨rfl,_,_⟩:=Value.slice.inj hv
 obtain⟨b',o',vD,mG⟩:=hat (by omega)
 obtain⟨rfl,rfl,_⟩:=Addr.mk.inj (Option.some.inj vD)
 have hk:j / 4<t.length:=by omega
 have hA:=mG (j / 4) hk
 have e:=nP t (j / 4) (j % 4) hk (by omega)
 rw[show j / 4 * 4+j % 4=j by omega,hu] at e
 rw[Addr.add_lit]
 have h4:j % 4=0\/j % 4=1\/j % 4=2\/j % 4=3:=by omega
 rcases h4 with h4 | h4 | h4 | h4
 ·rw[h4] at e
  rw[show o+j=o+j / 4 * 4 by omega,hA.c0,e];rfl
 ·rw[h4] at e
  rw[show o+j=o+j / 4 * 4+1 by omega,hA.c1,e];rfl
 ·rw[h4] at e
  rw[show o+j=o+j / 4 * 4+2 by omega,hA.c2,e];rfl
 ·rw[h4] at e
  rw[show o+j=o+j / 4 * 4+3 by omega,hA.c3,e];rfl
theorem Rk {w:World} {a:Addr} {c:Nat} {t:List Nd} (h:lH w (.slice (some a) t.length c) t):∀ j u,(cellsOf t)[j]?=some u->w.cell? (a.add j)=some u:=by
 by_cases h0:t=[]
 ·subst h0
  intro j u hu
  simp[cellsOf] at hu
 ·have hp:0<t.length:=List.length_pos_iff.2 h0
  have h':=h
  obtain⟨p,c',hv,_,_,hat⟩:=h
  obtain⟨rfl,_,_⟩:=Value.slice.inj hv
  obtain⟨b',o',vD,_⟩:=hat hp
  obtain rfl:=Option.some.inj vD
  exact Kw h'
theorem Ky {w:World} {B n:Nat} {v:Value} {t:List Nd} (h:w.ownsRow B 67 4 v n (cellsOf t)):Rw w v t/\∀ k,v.ownBlock=some k->B<=k:=by
 have hn:n=t.length:=by have:=h.1;rw[jg] at this;omega
 subst hn
 rcases h.2 with ⟨rfl,h0⟩ | ⟨g,cap,cur,rfl,hg,hh,h1,h2,h3,h4⟩
 ·exact⟨Or.inl ⟨rfl,List.eq_nil_of_length_eq_zero h0⟩,fun k hk=>by simp[Value.ownBlock] at hk⟩
 ·exact⟨Or.inr ⟨g,cap,cur,rfl,hh,h1,h2,by omega,h4⟩,fun k hk=>by simp[Value.ownBlock] at hk;omega⟩
section
variable (w:World) {b m:Nat} {v:Value} {t:List Nd}
end
def Bs (w:World) (g n:Nat) (f:Nat->Bool):Prop:=w.heap[g]?=some (.cells ((List.range n).map fun j=>Value.bool (f j)).toArray 4 (0,0))
section
variable {w w':World} {g n:Nat} {f:Nat->Bool}
theorem Bs.cell (h:Bs w g n f) {j:Nat} (hj:j<n):w.cell? ⟨g,j,none⟩=some (.bool (f j)):=by
 rw[cell_of_row w g j _ _ _ h]
 simp[hj]
theorem Bs.fr (h:Bs w g n f) (j:Nat):w.frozen? ⟨g,j,none⟩=false:=frozen_of_row w g j _ _ h
theorem Bs.set (h:Bs w g n f) (j:Nat):Bs (w.setCell ⟨g,j,none⟩ (.bool true)) g n (Fm.upd f j):=by
 have h1:(w.setCell ⟨g,j,none⟩ (.bool true)).heap[g]?=some (.cells (((List.range n).map fun j=>Value.bool (f j)).toArray.setIfInBounds j (.bool true)) 4 (0,0)):=heap_setCell_same w g j _ _ _ h
 unfold Bs
 rw[h1]
 congr 2
 apply Array.ext'
 apply List.ext_getElem?
 intro i
 by_cases hi:i<n
 ·by_cases e:i=j
  ·subst e
   simp[Fm.upd,hi]
  ·simp[Fm.upd,hi,e,Ne.symm e]
 ·simp[hi]
theorem Bs.keep {B:Nat} (h:Bs w g n f) (hb:Below B w w') (hg:g<B):Bs w' g n f:=(hb.block g hg).trans h
theorem Bs.alloc (h:Bs w g n f) (o:Obj):Bs (w.alloc o) g n f:=(Below.heap_alloc _ _ _ (lt_of_block h)).trans h
end
theorem Rl (n:Nat) (f:Nat->Bool) (j:Nat):((List.range n).map fun j=>Value.bool (f j)).toArray.setIfInBounds j (.bool true)=((List.range n).map fun i=>Value.bool (Fm.upd f j i)).toArray:=by
 apply Array.ext'
 apply List.ext_getElem?
 intro i
 by_cases hi:i<n
 ·by_cases e:i=j
  ·subst e
   simp[Fm.upd,hi]
  ·simp[Fm.upd,hi,e,Ne.symm e]
 ·simp[hi]
theorem Da (n:Nat):madeCells #[.bool false] n=((List.range n).map fun j=>Value.bool ((fun _=>false) j)).toArray:=by
 apply Array.ext'
 rw[toList_madeCells_one]
 simp[List.map_const']
theorem Kz:(Tryz.prog.info? 4).map (fun i=>(i.zero,i.size,i.bytes))=some (some (.bool false),1,1):=by kernel_rfl
theorem Rm (w:World) (n:Nat):Bs (w.alloc (.cells (madeCells #[.bool false] n) 4)) w.heap.size n (fun _=>false):=by
 unfold Bs
 rw[heap_alloc_new]
 rw[Da]
theorem NR (w:World) (n j:Nat):Bs (w.alloc (.cells ((madeCells #[.bool false] n).setIfInBounds j (.bool true)) 4)) w.heap.size n (Fm.upd (fun _=>false) j):=by
 unfold Bs
 rw[heap_alloc_new,Da,Rl]
def marks (t:List Nd) (i:Nat):Nat->Bool:=Fm.mark t (i+1) (Fm.upd (fun _=>false) i)
theorem KZ (t:List Nd) (i:Nat) (f:Nat->Bool):Fm.mark t (i+1) f=Fm.mark t i (if f i && Fm.jn (t.getD i Fm.z).k then Fm.upd (Fm.upd f (t.getD i Fm.z).l.toNat) (t.getD i Fm.z).r.toNat else f):=rfl
section
variable (w:World) {b m:Nat} {v:Value} {t:List Nd}
theorem K4 (h:Tb w b m v t) (i:Nat) (hi:i<t.length) :
 Calls Tryz.prog 105 #[.pointer (some ⟨b,0,none⟩),.int .i64 (i:Int)] w fun e w'=>e=.returned (.slice (some ⟨w.heap.size,0,none⟩) (i+1) (i+1))/\Bs w' w.heap.size (i+1) (marks t i)/\Below w.heap.size w w':=by
 have hlen:=h.ok.len
 have hmk:∀ w:World,(Instr.makeSlice 195 (.int .i64 ((i:Int)+1)) (.int .i64 ((i:Int)+1))).run Tryz.prog w=.ok (.slice (some ⟨w.heap.size,0,none⟩) (i+1) (i+1)) (w.alloc (.cells (madeCells #[.bool false] (i+1)) 4)):=fun w=>by
  have h:=run_make_row' (P:=Tryz.prog) 195 4 (.bool false) 1 Tryz.underlying195 Kz rfl .i64 .i64 (i+1) (by omega) (by omega) w
  rw[show((i+1:Nat):Int)=(i:Int)+1 by omega] at h
  exact h
 have HM:=show Hid (Fm.mark t (i+1) (Fm.upd (fun _=>false) i)=marks t i) from rfl
 have HB0:=show Hid (Bs (w.alloc (.cells (madeCells #[.bool false] (i+1)) 4)) w.heap.size (i+1) (fun _=>false)) from Rm w (i+1)
 have KJ:=show Hid (∀ (k:Int) (w:World),Calls Tryz.prog 147 #[.int .i64 k] w fun e w'=>e=.returned (.bool (Fm.jn k))/\w'=w) from fun k w=>AL w k
 obtain⟨p,c,hv,hc1,hc2,hat⟩:=h.row.Ga
 obtain⟨rg,ro,rfl,mG⟩:=hat (by omega)
 subst hv
 have HR:=show Hid (∀ w',Below w.heap.size w w'->w'.cell? ⟨b,0,none⟩=some (.slice (some ⟨rg,ro,none⟩) t.length c)/\∀ k (hk:k<t.length),FZ w' rg (ro+k * 4) t[k]) from fun w' hb=>⟨(h.later hb).c0,fun k hk=>by
  have hA:=mG k hk
  have hlt:rg<w.heap.size:=World.block_lt_of_cell? w _ hA.c0
  exact⟨(hb.cell (p:=⟨rg,_,none⟩) hlt).trans hA.c0,(hb.cell (p:=⟨rg,_,none⟩) hlt).trans hA.c1,(hb.cell (p:=⟨rg,_,none⟩) hlt).trans hA.c2,(hb.cell (p:=⟨rg,_,none⟩) hlt).trans hA.c3⟩⟩
 have HP:=show Hid (∀ k (hk:k<t.length),Fm.jn t[k].k=true->(0<=t[k].l/\t[k].l<k)/\0<=t[k].r/\t[k].r<k) from fun k hk hj=>Fm.Nw h.ok hk hj
 generalize marks t i=mk at *
 have HBA:=show Hid (Below w.heap.size w (w.alloc (.cells (madeCells #[.bool false] (i+1)) 4))) from ak w _
 have b0:=HB0.out.cell (j:=i) (by omega)
 have b1:=HB0.out.fr
 have hib:(i:Int)<(i:Int)+1:=by omega
 clear h hat mG
 go_enter Tryz.func105,Tryz.ntmps105
 go_wp2_with fail
 go_loopw [6] (fun v wr=>∃ (k:Nat) (f:Nat->Bool),k<=i+1/\v=.int .i64 ((k:Int) - 1)/\Hid (Fm.mark t k f=mk)/\Hid (Bs wr w.heap.size (i+1) f)/\Hid (Below w.heap.size w wr)) (fun v _=>(intOf v+1).toNat)
 case atStart=>exact⟨i+1,Fm.upd (fun _=>false) i,by omega,by go_num,HM,NR w (i+1) i,ak _ _⟩
 case round=>
  obtain⟨k,f,hk,rfl,HK,HB,tX⟩:=hrel
  clear HM HB0 HBA b0 b1 hmk hib
  by_cases hk0:k=0
  ·subst hk0
   have HE:=show Hid (f=mk) from HK.out
   go_wp2_with fail
   go_ret
   exact⟨rfl,HE.out ▸ HB.out,tX.out⟩
  ·obtain⟨j,rfl⟩:∃ j,k=j+1:=⟨k - 1,by omega⟩
   have hj:j<t.length:=by omega
   have e1:((j+1:Nat):Int) - 1=(j:Int):=by omega
   rw[e1]
   clear e1 hk0
   have hst:=HK.out
   rw[KZ] at hst
   have hg:t.getD j Fm.z=t[j]:=by rw[List.getD_eq_getElem?_getD,List.getElem?_eq_getElem hj];rfl
   rw[hg] at hst
   have hrow:=HR.out wr tX.out
   have c0:=hrow.1
   have hA:=hrow.2 j hj
   have TN:=show Hid (Fm.jn t[j].k=true->(0<=t[j].l/\t[j].l<j)/\0<=t[j].r/\t[j].r<j) from HP.out j hj
   generalize t[j]=nd at *
   have HS:=show Hid (Fm.mark t j (if f j && Fm.jn nd.k then Fm.upd (Fm.upd f nd.l.toNat) nd.r.toNat else f)=mk) from hst
   obtain⟨nk,ns,nl,nr⟩:=nd
   have a0:=hA.c0;have a1:=hA.c1;have a2:=hA.c2;have a3:=hA.c3
   simp only at a0 a1 a2 a3 HS TN
   have hji:(j:Int)<(t.length:Int):=by omega
   have hj2:(j:Int)<(i:Int)+1:=by omega
   have hbj:∀ o,(wr.alloc o).cell? ⟨w.heap.size,j,none⟩=some (.bool (f j)):=fun o=>(HB.out.alloc o).cell (by omega)
   clear hst hg hrow hA HK
   cases hfj:f j
   ·have HS2:=HS.out
    rw[hfj] at HS2 hbj
    simp only[Bool.false_and,Bool.false_eq_true,if_false] at HS2
    have za:=show Hid (Fm.mark t j f=mk) from HS2
    clear HS HS2
    go_wp2_with fail
    go_roundw
    case rel=>exact⟨j,f,by omega,by go_num,za,HB.out.alloc _,tX.out.alloc tX.out.size _⟩
    case measure=>first|(simp[intOf];done)|(simp[intOf];omega)
   ·have HS2:=HS.out
    rw[hfj] at HS2 hbj
    simp only[Bool.true_and] at HS2
    have za:=show Hid (Fm.mark t j (if Fm.jn nk=true then Fm.upd (Fm.upd f nl.toNat) nr.toNat else f)=mk) from HS2
    clear HS HS2
    go_wp2_with fail
    refine(KJ.out _ _).mono ?_
    rintro e w' ⟨rfl,hw'⟩
    subst w'
    have bU:=show Hid (N4 (wr.alloc (Obj.cells #[.int .i64 nk,.string ns,.int .i64 nl,.int .i64 nr] 67)) wr.heap.size ⟨nk,ns,nl,nr⟩) from heap_alloc_new _ _
    have HB1:=show Hid (Bs (wr.alloc (Obj.cells #[.int .i64 nk,.string ns,.int .i64 nl,.int .i64 nr] 67)) w.heap.size (i+1) f) from HB.out.alloc _
    have TP:=show Hid (Below w.heap.size w (wr.alloc (Obj.cells #[.int .i64 nk,.string ns,.int .i64 nl,.int .i64 nr] 67))) from tX.out.alloc tX.out.size _
    have hne:w.heap.size<wr.heap.size:=lt_of_block HB.out
    generalize wr.alloc (Obj.cells #[.int .i64 nk,.string ns,.int .i64 nl,.int .i64 nr] 67)=w1 at *
    clear hbj HB tX c0 a0 a1 a2 a3
    cases hjn:Fm.jn nk
    ·have su:=za.out
     rw[hjn] at su
     simp only[Bool.false_eq_true,if_false] at su
     have Qg:=show Hid (Fm.mark t j f=mk) from su
     clear za su
     go_wp2_with fail
     go_roundw
     case rel=>exact⟨j,f,by omega,by go_num,Qg,HB1,TP⟩
     case measure=>first|(simp[intOf];done)|(simp[intOf];omega)
    ·have su:=za.out
     rw[hjn] at su
     simp only[if_true] at su
     obtain⟨⟨hl0,hl1⟩,hr0,hr1⟩:=TN.out hjn
     obtain⟨x,rfl⟩:∃ x:Nat,nl=x:=⟨nl.toNat,by omega⟩
     obtain⟨y,rfl⟩:∃ y:Nat,nr=y:=⟨nr.toNat,by omega⟩
     simp only[Int.toNat_natCast] at su
     have Qg:=show Hid (Fm.mark t j (Fm.upd (Fm.upd f x) y)=mk) from su
     have hx1:(x:Int)<(i:Int)+1:=by omega
     have hy1:(y:Int)<(i:Int)+1:=by omega
     have n2:=bU.out.c2
     have n3:=bU.out.c3
     simp only at n2 n3
     have HB2:=show Hid (Bs (w1.setCell ⟨w.heap.size,x,none⟩ (.bool true)) w.heap.size (i+1) (Fm.upd f x)) from HB1.out.set x
     have pK:=show Hid (N4 (w1.setCell ⟨w.heap.size,x,none⟩ (.bool true)) wr.heap.size ⟨nk,ns,x,y⟩) from(Below.heap_setCell _ _ _ _ (by simp;omega)).trans bU.out
     have Iy:=show Hid (Below w.heap.size w (w1.setCell ⟨w.heap.size,x,none⟩ (.bool true))) from TP.out.setCell (Nat.le_refl _) _
     have bx:=HB1.out.cell (j:=x) (by omega)
     have bf:=HB1.out.fr
     clear za su TN
     have by0:=HB1.out.cell (j:=y) (by omega)
     by_cases hxy:x=y
     ·subst hxy
      go_wp2_with fail
      go_roundw
      case rel=>exact⟨j,_,by omega,by go_num,Qg,HB2.out.set x,Iy.out.setCell (Nat.le_refl _) _⟩
      case measure=>first|(simp[intOf];done)|(simp[intOf];omega)
     ·have hyx:¬ y=x:=fun e=>hxy e.symm
      go_wp2_with fail
      go_roundw
      case rel=>exact⟨j,_,by omega,by go_num,Qg,HB2.out.set y,Iy.out.setCell (Nat.le_refl _) _⟩
      case measure=>first|(simp[intOf];done)|(simp[intOf];omega)
def ints (l:List Nat):List Value:=l.map fun (j:Nat)=>Value.int .i64 (j:Int)
def Ba (w:World) (B:Nat) (v:Value) (l:List Nat):Prop:=w.ownsRow B 3 1 v l.length (ints l)
theorem NS:(Tryz.prog.info? 3).map (fun i=>(i.zero,i.size,i.bytes))=some (some (.int .i64 0),1,8):=by kernel_rfl
theorem Gp (w:World) (B:Nat):Ba w B (.slice none 0 0) []:=World.ownsRow_nil _ _ _ _
def upto (f:Nat->Bool) (k:Nat):List Nat:=(List.range k).filter f
theorem K5 (f:Nat->Bool) (k:Nat):upto f (k+1)=if f k then upto f k ++ [k] else upto f k:=by
 unfold upto
 rw[List.range_succ,List.filter_append]
 cases h:f k <;> simp[h]
theorem NT (f:Nat->Bool) (k:Nat):(upto f k).length<=k:=by
 have:=List.length_filter_le f (List.range k)
 simpa[upto] using this
theorem K6 (l:List Nat) (k:Nat):ints (l ++ [k])=ints l ++ [.int .i64 (k:Int)]:=by simp[ints]
def q8 (t:List Nd) (i:Int):List Nat × Int:=if Fm.has t i then (Fm.below t i.toNat,0) else ([],31)
theorem Ba.K7 {w:World} {B:Nat} {v:Value} {l:List Nat} (h:Ba w B v l):∀ k,v.ownBlock=some k->B<=k/\k<w.heap.size/\∃ cur,w.heap[k]?=some (.cells cur 3 (0,0)):=by
 intro k hk
 rcases h.2 with ⟨rfl,_⟩ | ⟨g,cap,cur,rfl,hg,hh,r⟩
 ·cases hk
 ·obtain rfl:g=k:=Option.some.inj hk
  exact⟨hg,lt_of_block hh,cur,hh⟩
theorem Bb (h:Tb w b m v t) (id:Int) :
 Calls Tryz.prog 73 #[.pointer (some ⟨b,0,none⟩),.int .i64 id] w fun e w'=>∃ v',e=.returned (.tuple #[v',.int .i64 (q8 t id).2])/\Ba w' w.heap.size v' (q8 t id).1/\Below w.heap.size w w':=by
 have KM:=show Hid (∀ w',w'=w->Calls Tryz.prog 63 #[.pointer (some ⟨b,0,none⟩)] w' fun e w''=>e=.returned (.bool true)/\w''=w') from fun w' e=>by subst e;exact oI _ h
 have KH:=show Hid (Calls Tryz.prog 104 #[.pointer (some ⟨b,0,none⟩),.int .i64 id] w fun e w''=>e=.returned (.bool (Fm.has t id))/\w''=w) from zU w h id
 have HE:=show Hid (q8 t id=if Fm.has t id then (Fm.below t id.toNat,0) else ([],31)) from rfl
 generalize q8 t id=r at *
 cases hh:Fm.has t id
 ·have hr:=HE.out
  rw[hh] at hr KH
  simp only[Bool.false_eq_true,if_false] at hr
  subst hr
  clear h
  go_enter Tryz.func73,Tryz.ntmps73
  go_wp2_with fail
  refine(KM.out _ rfl).mono ?_
  rintro e w1 ⟨rfl,hw1⟩
  subst w1
  go_wp2_with fail
  refine KH.out.mono ?_
  rintro e w1 ⟨rfl,hw1⟩
  subst w1
  go_wp2_with fail
  go_ret2
  exact⟨_,rfl,Gp _ _,Below.refl _ _⟩
 ·have hr:=HE.out
  rw[hh] at hr KH
  simp only[if_true] at hr
  obtain⟨hi0,hi1⟩:=Fm.dJ.1 hh
  obtain⟨i,rfl⟩:∃ i:Nat,id=i:=⟨id.toNat,by omega⟩
  have hi:i<t.length:=by omega
  have hlen:=h.ok.len
  simp only[Int.toNat_natCast] at hr
  have hbe:Fm.below t i=upto (marks t i) (i+1):=rfl
  rw[hbe] at hr
  have KP:=show Hid (Calls Tryz.prog 105 #[.pointer (some ⟨b,0,none⟩),.int .i64 (i:Int)] w fun e w'=>e=.returned (.slice (some ⟨w.heap.size,0,none⟩) (i+1) (i+1))/\Bs w' w.heap.size (i+1) (marks t i)/\Below w.heap.size w w') from K4 w h i hi
  generalize marks t i=mk at *
  have HRR:=show Hid (r=(upto mk (i+1),0)) from hr
  obtain⟨i0,hi',hz0,hz1,hz2⟩:=info_parts NS
  clear h hr hbe
  go_enter Tryz.func73,Tryz.ntmps73
  go_wp2_with fail
  refine(KM.out _ rfl).mono ?_
  rintro e w1 ⟨rfl,hw1⟩
  subst w1
  go_wp2_with fail
  refine KH.out.mono ?_
  rintro e w1 ⟨rfl,hw1⟩
  subst w1
  go_wp2_with fail
  refine KP.out.mono ?_
  rintro e w1 ⟨rfl,hbs,hb1⟩
  have XP:=show Hid (Bs w1 w.heap.size (i+1) mk) from hbs
  have HB1:=show Hid (Below w.heap.size w w1) from hb1
  clear hbs hb1 KP KH KM
  go_wp2_with fail
  go_loopw [6,20] (fun o v wr=>∃ k:Nat,k<=i+1/\v=.int .i64 (k:Int)/\Hid (Ba wr w.heap.size o (upto mk k))/\Hid (Bs wr w.heap.size (i+1) mk)/\Hid (Below w.heap.size w wr)) (fun _ v _=>i+1 - (intOf v).toNat)
  case atStart=>exact⟨0,by omega,rfl,Gp _ _,XP,HB1⟩
  case round=>
   obtain⟨k,hk,rfl,HI,HB,tX⟩:=hrel
   clear XP HB1
   by_cases hlt:k<i+1
   ·have hki:(k:Int)<(i:Int)+1:=by omega
    have hbk:=HB.out.cell (j:=k) hlt
    have HU:=show Hid _ from K5 mk k
    have hul:=NT mk k
    cases hmk:mk k
    ·rw[hmk] at hbk
     have hu:=HU.out
     rw[hmk] at hu
     simp only[Bool.false_eq_true,if_false] at hu
     have TQ:=show Hid (upto mk (k+1)=upto mk k) from hu
     clear hu HU
     go_wp2_with fail
     go_roundw
     case rel=>exact⟨k+1,by omega,by go_num,(by rw[TQ.out];exact HI.out),HB,tX⟩
     case measure=>first|(simp[intOf];done)|(simp[intOf];omega)
    ·rw[hmk] at hbk
     have hu:=HU.out
     rw[hmk] at hu
     simp only[if_true] at hu
     have TQ:=show Hid (upto mk (k+1)=upto mk k ++ [k]) from hu
     obtain⟨xs,hxs⟩:∃ xs,xs=ints (upto mk k):=⟨_,rfl⟩
     obtain⟨n,hn⟩:∃ n,n=(upto mk k).length:=⟨_,rfl⟩
     have HOW:=show Hid (wr.ownsRow w.heap.size 3 1 u6 n xs) from by rw[hxs,hn];exact HI.out
     have Qh:=show Hid (xs=ints (upto mk k)/\n=(upto mk k).length) from⟨hxs,hn⟩
     rw[<- hn] at hul
     have hgs:w.heap.size<wr.heap.size:=lt_of_block HB.out
     clear hu HU hxs hn
     go_wp2_with (at_builtin;refine wpList_append_own_at _ rfl (.tmp 26) (.tmp 28) 37 rfl w.heap.size 3 i0 _ 1 8 Tryz.underlying37 hi' hz0 hz1 hz2 rfl (by decide) u6 n xs rfl (HOW.out.alloc _) ⟨wr.heap.size,0,none⟩ 1 1 [.int .i64 (k:Int)] rfl rfl (cell_one_new _ _ _) (ints_oneCell .i64 [(k:Int)]) (by unfold maxLen;omega) (by omega) (by simp;omega) ?_)
     intro v' w2 hown hgr hnil hat
     have hne:u6.ownBlock≠some w.heap.size:=fun e=>by
      obtain⟨_,_,cur,hc⟩:=HI.out.K7 _ e
      have h2:=HB.out
      unfold Bs at h2
      rw[h2] at hc
      simp at hc
     have HB2:=show Hid (Bs w2 w.heap.size (i+1) mk) from(hgr.block _ (by simp;omega) (fun e=>hne e.symm)).trans (HB.out.alloc _)
     have Iy:=show Hid (Below w.heap.size w w2) from(tX.out.alloc tX.out.size _).grown hgr (by simp;omega) (fun j e=>(HI.out.K7 j e).1)
     have HI2:=show Hid (Ba w2 w.heap.size v' (upto mk (k+1))) from by
      unfold Ba
      rw[TQ.out,K6,List.length_append,List.length_singleton,<- Qh.out.1,<- Qh.out.2]
      exact hown
     clear hown hgr hnil hat HI HB tX HOW
     go_wp2_with fail
     go_roundw
     case rel=>exact⟨k+1,by omega,by go_num,HI2,HB2,Iy⟩
     case measure=>first|(simp[intOf];done)|(simp[intOf];omega)
   ·have hke:k=i+1:=by omega
    subst hke
    have HF:=show Hid (∃ v',u6=v'/\Ba wr w.heap.size v' (upto mk (i+1))) from⟨_,rfl,HI.out⟩
    have hr:=HRR.out
    subst hr
    go_wp2_with fail
    go_ret2
    exact⟨_,rfl,HI.out,tX.out⟩
end
structure qG (D:DataW Unit) (t:List Nd) (j i:Nat):Prop where
 map:IsMap D
 tidy:Tidy D
 size:Maps.size D+i=t.length+j
 has:∀ n,Fm.good n->Maps.has D (kl n)=decide (n ∈ t.take j\/n ∈ t.drop i)
 num:∀ n,Fm.good n->n ∈ t.take j->∀ z,D.atKey (kl n) z=.lit (.int .i64 (t.idxOf n:Int))
theorem FC {D:DataW Unit} {t:List Nd} (h:Tied D t) (j:Nat):qG D t j j:=by
 refine⟨h.map,h.tidy,by rw[h.size],fun n hn => ?_,fun n hn hm=>h.num n hn (List.mem_of_mem_take hm)⟩
 rw[h.has n hn]
 congr 1
 rw[<- List.mem_append,List.take_append_drop]
theorem K8 {D:DataW Unit} {t:List Nd} {j:Nat} (h:qG D t j t.length) (hj:j<=t.length):Tied D (t.take j):=by
 refine⟨h.map,h.tidy,by have:=h.size;rw[List.length_take];omega,fun n hn => ?_,fun n hn hm z => ?_⟩
 ·rw[h.has n hn]
  simp
 ·rw[h.num n hn hm]
  congr 3
  have e:t=t.take j ++ t.drop j:=(List.take_append_drop j t).symm
  conv=>lhs;rw[e,List.idxOf_append,if_pos hm]
theorem Iz {D:DataW Unit} {t:List Nd} {j i:Nat} (h:qG D t j i) (hok:Fm.Ok t) (hi:i<t.length) (hji:j<=i):qG (D.del (kl t[i])) t j (i+1):=by
 have hg:Fm.good t[i]:=hok.gd _ (List.getElem_mem hi)
 have hdrop:t.drop i=t[i] :: t.drop (i+1):=List.drop_eq_getElem_cons hi
 have hpw:=List.pairwise_iff_getElem.1 hok.nd
 have hnt:t[i] ∉ t.take j:=fun hm=>by
  obtain⟨a,ha,e⟩:=List.mem_iff_getElem.1 hm
  rw[List.length_take] at ha
  rw[List.getElem_take] at e
  exact hpw a i (by omega) hi (by omega) e
 have hnd:t[i] ∉ t.drop (i+1):=fun hm=>by
  obtain⟨a,ha,e⟩:=List.mem_iff_getElem.1 hm
  rw[List.length_drop] at ha
  rw[List.getElem_drop] at e
  exact hpw i (i+1+a) hi (by omega) (by omega) e.symm
 have hhas:Maps.has D (kl t[i])=true:=by
  rw[h.has _ hg]
  exact decide_eq_true (Or.inr (by rw[hdrop];exact List.mem_cons_self))
 have hdi:∀ n,n≠t[i]->(n ∈ t.drop i ↔ n ∈ t.drop (i+1)):=fun n e=>by
  rw[hdrop]
  exact⟨fun h=>(List.mem_cons.1 h).resolve_left e,List.mem_cons_of_mem _⟩
 refine⟨h.map.del _,h.tidy.del _,?_,fun n hn => ?_,fun n hn hm z => ?_⟩
 ·have h1:=size_del h.tidy (k:=kl t[i])
  rw[hhas] at h1
  simp only[if_true] at h1
  have:=h.size
  omega
 ·by_cases e:n=t[i]
  ·subst e
   rw[has_del_same]
   simp[hnt,hnd]
  ·rw[has_del_other (fun e'=>e (key_inj hn hg e')),h.has n hn]
   simp only[hdi n e]
 ·have e:n≠t[i]:=fun e=>hnt (e ▸ hm)
  rw[atKey_del_other (fun e'=>e (key_inj hn hg e'))]
  exact h.num n hn hm z
theorem zY {ops:Array Oper} {o:Oper} {a:Act} {w:World} {K:Act->World->Prop} {Q:Exit->Act->World->Prop} {E:Prop}
 (hg:o.guard=none) (mo xo:Operand) (hop:o.op=Op.call { callee:=Callee.builtin Builtin.delete,args:=#[mo,xo],argTypes:=#[129,67] })
 (m:Nat) (D:DataW Unit) (hown:mQ w m D) (n:Nd) (hn:Fm.good n) (hm:a.eval mo=.map (some m)) (hx:a.eval xo=dY n)
 (hK:∀ w',mQ w' m (D.del (kl n))->w.grownBy w' (some m)->K (a.put o.dst (.tuple #[])) w') :
 if Region.wanted o (yielded ops a.tmps)=true then Oper.wp Tryz.prog o a w K Q else E:=by
 have hw:Region.wanted o (yielded ops a.tmps)=true:=by simp[Region.wanted,hg]
 rw[if_pos hw]
 obtain⟨w',hrun,r1,r2⟩:=hown.drop law Tryz.underlying129 (pF hn) o.type
 unfold Oper.wp
 simp[execOp,hop,resolve,invoke,builtin,hm,hx,hrun,Result.andThen]
 exact hK w' (Cq r1) r2.grown
theorem K9 (w:World):(zeroValue 67).run Tryz.prog w=.ok (.agg #[.int .i64 0,.string ⟨#[]⟩,.int .i64 0,.int .i64 0]) w:=by kernel_rfl
theorem La (n:Nat):∀ u ∈ (Builtin.zeroCells #[.int .i64 0,.string ⟨#[]⟩,.int .i64 0,.int .i64 0] n).toList,u.oneCell'=true:=by
 intro u hu
 unfold Builtin.zeroCells at hu
 simp at hu
 obtain⟨a,_,rfl⟩:=hu
 have h4:a % 4=0\/a % 4=1\/a % 4=2\/a % 4=3:=by omega
 rcases h4 with h4 | h4 | h4 | h4 <;> rw[h4] <;> rfl
theorem Db (w:World) (ty:TypeId) (g j n c:Nat) (cur:Array Value) (hg:w.heap[g]?=some (.cells cur 67 (0,0))) (hb:(j+(n+1)) * 4<=cur.size) :
 ∃ w' cur',(Builtin.clear_ #[22] ty #[.slice (some ⟨g,j * 4,none⟩) (n+1) c]).run Tryz.prog w=.ok (.tuple #[]) w'/\w'.heap[g]?=some (.cells cur' 67 (0,0))/\cur'.size=cur.size/\cur'.toList.take (j * 4)=cur.toList.take (j * 4)/\w.grownBy w' (some g):=by
 have hsz:(Builtin.zeroCells #[.int .i64 0,.string ⟨#[]⟩,.int .i64 0,.int .i64 0] (n+1)).toList.length=(n+1) * 4:=by
  rw[Array.length_toList,size_zeroCells]
  rfl
 have hone:=La (n+1)
 have hcl:∀ w':World,(storeCells ⟨g,j * 4,none⟩ (Builtin.zeroCells #[.int .i64 0,.string ⟨#[]⟩,.int .i64 0,.int .i64 0] (n+1)).toList).run Tryz.prog w=.ok () w'->(Builtin.clear_ #[22] ty #[.slice (some ⟨g,j * 4,none⟩) (n+1) c]).run Tryz.prog w=.ok (.tuple #[]) w':=by
  intro w' h
  have hz:=K9 w
  simp[Builtin.clear_,run_underlying Tryz.underlying22,hz,Value.cells,Result.andThen,h]
 generalize (Builtin.zeroCells #[.int .i64 0,.string ⟨#[]⟩,.int .i64 0,.int .i64 0] (n+1)).toList=zs at *
 have hst:=run_storeCells_at Tryz.prog g (j * 4) 67 zs 0 cur w hg (by rw[hsz];omega) hone
 simp only[Nat.add_zero] at hst
 have hl:(cur.toList.take (j * 4)).length=j * 4:=by rw[List.length_take,Array.length_toList];omega
 refine⟨_,(cur.toList.take (j * 4) ++ zs ++ cur.toList.drop (j * 4+zs.length)).toArray,hcl _ hst,setRow_heap w g cur _ 67 _ hg,?_,?_,⟨rfl,rfl,rfl,by simp,fun k _ hk=>setRow_other w g k _ (fun e=>hk (by rw[e]))⟩⟩
 ·simp only[List.size_toArray,List.length_append,List.length_drop,Array.length_toList,hl,hsz]
  omega
 ·show(cur.toList.take (j * 4) ++ zs ++ cur.toList.drop (j * 4+zs.length)).take (j * 4)=_
  rw[List.append_assoc,List.take_append_of_le_length (by omega),List.take_take,Nat.min_self]
def xW (t:List Nd) (n:Int):Int × List Nd:=if 0<=n/\n<=t.length then (0,t.take n.toNat) else (2,t)
theorem xw {w:World} {v:Value} {t:List Nd} (h:Rw w v t):(v=.slice none 0 0/\t=[])\/∃ g cap cur,v=.slice (some ⟨g,0,none⟩) t.length cap/\w.heap[g]?=some (.cells cur 67 (0,0))/\t.length<=cap/\cap<=maxLen/\cap * 4<=cur.size/\cur.toList.take (t.length * 4)=cellsOf t:=h
section
variable (w:World) {b m:Nat} {v:Value} {t:List Nd}
theorem Ro (h:Tb w b m v t) (n:Int) (hn:n<0\/t.length<n) :
 Calls Tryz.prog 34 #[.pointer (some ⟨b,0,none⟩),.int .i64 n] w fun e w'=>e=.returned (.int .i64 2)/\w'=w:=by
 have KM:=show Hid (∀ w',w'=w->Calls Tryz.prog 63 #[.pointer (some ⟨b,0,none⟩)] w' fun e w''=>e=.returned (.bool true)/\w''=w') from fun w' e=>by subst e;exact oI _ h
 have c0:=h.c0
 obtain⟨p,c,rfl⟩:=h.row.form
 clear h
 rcases hn with hn | hn
 ·go_enter Tryz.func34,Tryz.ntmps34
  go_wp2_with fail
  refine(KM.out _ rfl).mono ?_
  rintro e w1 ⟨rfl,hw1⟩
  subst w1
  go_wp2_with fail
  go_ret
  exact⟨rfl,rfl⟩
 ·have hn0:¬ n<0:=by omega
  go_enter Tryz.func34,Tryz.ntmps34
  go_wp2_with fail
  refine(KM.out _ rfl).mono ?_
  rintro e w1 ⟨rfl,hw1⟩
  subst w1
  go_wp2_with fail
  go_ret
  exact⟨rfl,rfl⟩
theorem NU (h:Tb w b m v t) (j:Nat) (hj:j<t.length) :
 Calls Tryz.prog 34 #[.pointer (some ⟨b,0,none⟩),.int .i64 (j:Int)] w fun e w'=>e=.returned (.int .i64 0)/\After w b m v (t.take j) w':=by
 have KM:=show Hid (∀ w',w'=w->Calls Tryz.prog 63 #[.pointer (some ⟨b,0,none⟩)] w' fun e w''=>e=.returned (.bool true)/\w''=w') from fun w' e=>by subst e;exact oI _ h
 have c0:=h.c0
 have HT:=show Hid (Tb w b m v t) from h
 obtain⟨D0,hD0,hT0⟩:=h.map
 have XQ:=show Hid (∃ D,mQ w m D/\qG D t j j) from⟨D0,hD0,FC hT0 j⟩
 have hlen:=h.ok.len
 rcases xw h.row with ⟨rfl,rfl⟩ | ⟨g,cap,cur,rfl,hg,hnc,hcm,hcs,htake⟩
 ·simp at hj
 have HG:=show Hid (w.heap[g]?=some (.cells cur 67 (0,0))/\cap * 4<=cur.size/\cur.toList.take (t.length * 4)=cellsOf t) from⟨hg,hcs,htake⟩
 unfold maxLen at hcm
 have hjc:j<cap:=by omega
 have hj0:¬ (j:Int)<0:=by omega
 have hj1:¬ (t.length:Int)<(j:Int):=by omega
 have hj2:(j:Int)<=(t.length:Int):=by omega
 have hjn:¬ t.length<j:=by omega
 clear h hD0 hT0 hg hcs htake
 go_enter Tryz.func34,Tryz.ntmps34
 go_wp2_with fail
 refine(KM.out _ rfl).mono ?_
 rintro e w1 ⟨rfl,hw1⟩
 subst w1
 go_wp2_with fail
 go_loopw [6,28] (fun _ v wr=>∃ k:Nat,j+k<=t.length/\v=.int .i64 (k:Int)/\Hid (∃ D,mQ wr m D/\qG D t j (j+k))/\Hid (Kp (fun x=>x=m) w wr)) (fun _ v _=>t.length - (intOf v).toNat)
 case atStart=>exact⟨0,by omega,rfl,XQ,Kp.refl _ _⟩
 case round=>
  obtain⟨k,hk,rfl,HD,HK⟩:=hrel
  have gW:=show Hid (wr.heap[b]?=some (.cells #[.slice (some ⟨g,0,none⟩) t.length cap,.map (some m)] 131 (0,0))) from(HK.out.block b HT.out.blt (fun e=>HT.out.bm e)).trans HT.out.tab
  have XR:=show Hid (wr.heap[g]?=some (.cells cur 67 (0,0))) from(HK.out.block g (lt_of_block HG.out.1) (fun e=>HT.out.vm (by rw[e];rfl))).trans HG.out.1
  have c1:wr.cell? ⟨b,1,none⟩=some (.map (some m)):=by rw[cell_of_row _ _ 1 _ _ _ gW.out];rfl
  have c00:wr.cell? ⟨b,0,none⟩=some (.slice (some ⟨g,0,none⟩) t.length cap):=by rw[cell_of_row _ _ 0 _ _ _ gW.out];rfl
  clear c0 XQ KM
  by_cases hlt:j+k<t.length
  ·have hr:Rw wr (.slice (some ⟨g,0,none⟩) t.length cap) t:=Or.inr ⟨g,cap,cur,rfl,XR.out,hnc,by unfold maxLen;omega,HG.out.2.1,HG.out.2.2⟩
   obtain⟨p',c',hv',-,-,hat⟩:=hr.Ga
   obtain⟨b',o',vD,mG⟩:=hat (by omega)
   obtain⟨hp',-,-⟩:=Value.slice.inj hv'
   rw[<- hp'] at vD
   obtain⟨rfl,rfl,-⟩:=Addr.mk.inj (Option.some.inj vD)
   have hA:=mG (j+k) hlt
   rw[show 0+(j+k) * 4=j * 4+k * 4 by omega] at hA
   have Gq:=show Hid (Fm.good t[j+k]) from HT.out.ok.gd _ (List.getElem_mem hlt)
   obtain⟨D,hD,Qi⟩:=HD.out
   have HTC:=show Hid (qG (D.del (kl t[j+k])) t j (j+k+1)) from Iz Qi HT.out.ok hlt (by omega)
   have HOW:=show Hid (mQ wr m D) from hD
   generalize t[j+k]=nd at *
   have hki:(k:Int)<((t.length - j:Nat):Int):=by omega
   have hkn:k<t.length - j:=by omega
   obtain⟨nk,ns,nl,nr⟩:=nd
   have a0:=hA.c0;have a1:=hA.c1;have a2:=hA.c2;have a3:=hA.c3
   simp only at a0 a1 a2 a3
   have c1a:∀ o,(wr.alloc o).cell? ⟨b,1,none⟩=some (.map (some m)):=fun o=>(World.cell?_of_block (w:=wr) (Below.heap_alloc wr o _ (lt_of_block gW.out))).trans c1
   have HOA:=show Hid (∀ o,mQ (wr.alloc o).drew m D) from fun o=>(hD.alloc o).drew
   have ac9:m<wr.heap.size:=hD.lt
   clear hr hv' hat mG hA hD Qi hp' vD HD
   go_wp2_with fail
   go_region_law (refine zY rfl (.tmp 35) (.tmp 36) rfl m D (HOA.out _) ⟨nk,ns,nl,nr⟩ Gq.out rfl rfl ?_;intro w' hown hgr)
   all_goals
    have Zk:=show Hid (∃ D,mQ w' m D/\qG D t j (j+k+1)) from⟨_,hown,HTC.out⟩
    have nT:=show Hid (Kp (fun x=>x=m) w w') from HK.out.trans (S':=fun x=>x=m) (b:=wr) ⟨hgr.os,hgr.tape,hgr.output,by have:=hgr.size;simp at this;omega,fun x hx hne=>(hgr.block x (by simp;omega) (fun e=>hne (Option.some.inj e))).trans (Below.heap_alloc wr _ _ hx)⟩ (fun i hi=>Or.inl hi)
    clear hown hgr
    go_wp2_with fail
    go_roundw
    case rel=>exact⟨k+1,by omega,by go_num,Zk,nT⟩
    case measure=>first|(simp[intOf];done)|(simp[intOf];omega)
  ·have hke:j+k=t.length:=by omega
   have hkn:¬ k<t.length - j:=by omega
   have HD2:=show Hid (∃ D,mQ wr m D/\qG D t j t.length) from by rw[<- hke];exact HD.out
   obtain⟨q,hq⟩:∃ q,t.length - j=q+1:=⟨t.length - j - 1,by omega⟩
   have HQ:=show Hid (t.length - j=q+1) from hq
   have hcl:∀ ty,∃ w' cur',(Builtin.clear_ #[22] ty #[.slice (some ⟨g,j * 4,none⟩) (t.length - j) (cap - j)]).run Tryz.prog wr=.ok (.tuple #[]) w'/\w'.heap[g]?=some (.cells cur' 67 (0,0))/\cur'.size=cur.size/\cur'.toList.take (j * 4)=cur.toList.take (j * 4)/\wr.grownBy w' (some g):=fun ty=>by
    rw[HQ.out]
    exact Db wr ty g j q (cap - j) cur XR.out (by have:=HG.out.2.1;have:=HQ.out;omega)
   obtain⟨w2,Dc,hcl0,hg2,hsz2,TR,NV⟩:=hcl 0
   have HG2:=show Hid (w2.heap[g]?=some (.cells Dc 67 (0,0))/\Dc.size=cur.size/\Dc.toList.take (j * 4)=cur.toList.take (j * 4)/\wr.grownBy w2 (some g)) from⟨hg2,hsz2,TR,NV⟩
   have hbg:b≠g:=fun e=>HT.out.vb (by rw[e];rfl)
   have Lc:m≠g:=fun e=>HT.out.vm (by rw[e];rfl)
   have NW:=show Hid (w2.heap[b]?=some (.cells #[.slice (some ⟨g,0,none⟩) t.length cap,.map (some m)] 131 (0,0))) from(NV.block b (lt_of_block gW.out) (fun e=>hbg (Option.some.inj e))).trans gW.out
   have XT:=show Hid (b≠g/\m≠g) from⟨hbg,Lc⟩
   have e0:w2.cell? ⟨b,0,none⟩=some (.slice (some ⟨g,0,none⟩) t.length cap):=by rw[cell_of_row _ _ 0 _ _ _ NW.out];rfl
   have ef:∀ j,w2.frozen? ⟨b,j,none⟩=false:=fun j=>frozen_of_row _ b j _ _ NW.out
   have hjl:j<=t.length:=by omega
   have ac4:(j:Int)<=(cap:Int):=by omega
   have htc:(t.length:Int)<=(cap:Int):=by omega
   clear hke hq hg2 hsz2 TR NV hcl hbg Lc
   go_wp2_with (simp only[hcl0])
   go_ret
   refine⟨rfl,.slice (some ⟨g,0,none⟩) j cap,⟨heap_setCell_same _ b 0 _ _ _ NW.out,?_,?_,Fm.QU HT.out.ok j⟩,fun k hk=>Or.inl hk,?_⟩
   ·have hlj:(t.take j).length=j:=by rw[List.length_take];omega
    refine Or.inr ⟨g,cap,Dc,by rw[hlj],(Below.heap_setCell _ _ _ _ (fun e=>XT.out.1 e.symm)).trans HG2.out.1,by rw[hlj];omega,by unfold maxLen;omega,by have:=HG.out.2.1;have:=HG2.out.2.1;omega,?_⟩
    rw[hlj,HG2.out.2.2.1,<- Cn t j hjl,<- HG.out.2.2,List.take_take,Nat.min_eq_left (by omega)]
   ·obtain⟨D,hD,Qi⟩:=HD2.out
    refine⟨D,?_,K8 Qi hjl⟩
    obtain⟨es,cl,hb,r⟩:=hD
    refine⟨es,cl,?_,r⟩
    rw[Below.heap_setCell _ _ _ _ (fun e=>HT.out.bm e.symm)]
    exact(HG2.out.2.2.2.block m (lt_of_block hb) (fun e=>XT.out.2 (Option.some.inj e))).trans hb
   ·have h1:=HK.out
    have h2:=HG2.out.2.2.2
    refine⟨h2.os.trans h1.os,h2.tape.trans h1.tape,h2.output.trans h1.output,Nat.le_trans h1.size (Nat.le_trans h2.size (by simp[World.setCell])),fun k hk hn => ?_⟩
    have hk2:k<wr.heap.size:=Nat.lt_of_lt_of_le hk h1.size
    rw[Below.heap_setCell _ _ _ _ (fun e=>hn (Or.inl e))]
    exact(h2.block k hk2 (fun e=>hn (Or.inr (Or.inr e.symm)))).trans (h1.block k hk (fun e=>hn (Or.inr (Or.inl e))))
theorem NY (h:Tb w b m v t) :
 Calls Tryz.prog 34 #[.pointer (some ⟨b,0,none⟩),.int .i64 (t.length:Int)] w fun e w'=>e=.returned (.int .i64 0)/\After w b m v t w':=by
 have KM:=show Hid (∀ w',w'=w->Calls Tryz.prog 63 #[.pointer (some ⟨b,0,none⟩)] w' fun e w''=>e=.returned (.bool true)/\w''=w') from fun w' e=>by subst e;exact oI _ h
 have c0:=h.c0
 have hf:=h.fr
 have HT:=show Hid (Tb w b m v t) from h
 have hlen:=h.ok.len
 have Gu:=show Hid (∀ (ty:TypeId) (a:Option Addr) (c:Nat) (w:World),(Builtin.clear_ #[22] ty #[.slice a 0 c]).run Tryz.prog w=.ok (.tuple #[]) w) from fun ty a c w=>by
  cases a <;> simp[Builtin.clear_,run_underlying Tryz.underlying22]
 have TS:=show Hid (After w b m v t (w.setCell ⟨b,0,none⟩ v)) from by
  refine⟨v,⟨heap_setCell_same _ b 0 _ _ _ h.tab,h.row.keep fun k hk=>Below.heap_setCell _ _ _ _ (fun e=>h.vb (hk.trans (congrArg some e))),?_,h.ok⟩,dh.refl _ _,⟨rfl,rfl,rfl,by simp[World.setCell],fun k hk hn=>Below.heap_setCell _ _ _ _ (fun e=>hn (Or.inl e))⟩⟩
  obtain⟨D,⟨es,cl,hb,r⟩,hT⟩:=h.map
  exact⟨D,⟨es,cl,(Below.heap_setCell _ _ _ _ (fun e=>h.bm e.symm)).trans hb,r⟩,hT⟩
 rcases xw h.row with ⟨rfl,rfl⟩ | ⟨g,cap,cur,rfl,-,hnc,hcm,-,-⟩
 ·have hcl:=fun ty w=>Gu.out ty none 0 w
  clear h
  go_enter Tryz.func34,Tryz.ntmps34
  go_wp2_with fail
  refine(KM.out _ rfl).mono ?_
  rintro e w1 ⟨rfl,hw1⟩
  subst w1
  go_wp2_with fail
  go_loopw [6,28] (fun _ v wr=>v=.int .i64 0/\wr=w) (fun _ _ _=>0)
  case atStart=>exact⟨rfl,rfl⟩
  case round=>
   obtain⟨rfl,rfl⟩:=hrel
   go_wp2_with (simp only[hcl])
   go_ret
   exact⟨rfl,TS.out⟩
 ·have hcl:=fun ty a c w=>Gu.out ty a c w
  unfold maxLen at hcm
  have hj0:¬ (t.length:Int)<0:=by omega
  have htc:(t.length:Int)<=(cap:Int):=by omega
  clear h
  by_cases hcc:t.length<cap
  ·have hci:(t.length:Int)<(cap:Int):=by omega
   go_enter Tryz.func34,Tryz.ntmps34
   go_wp2_with fail
   refine(KM.out _ rfl).mono ?_
   rintro e w1 ⟨rfl,hw1⟩
   subst w1
   go_wp2_with fail
   go_loopw [6,28] (fun _ v wr=>v=.int .i64 0/\wr=w) (fun _ _ _=>0)
   case atStart=>exact⟨rfl,rfl⟩
   case round=>
    obtain⟨rfl,rfl⟩:=hrel
    go_wp2_with (simp only[hcl])
    go_ret
    exact⟨rfl,TS.out⟩
  ·obtain rfl:cap=t.length:=by omega
   go_enter Tryz.func34,Tryz.ntmps34
   go_wp2_with fail
   refine(KM.out _ rfl).mono ?_
   rintro e w1 ⟨rfl,hw1⟩
   subst w1
   go_wp2_with fail
   go_loopw [6,28] (fun _ v wr=>v=.int .i64 0/\wr=w) (fun _ _ _=>0)
   case atStart=>exact⟨rfl,rfl⟩
   case round=>
    obtain⟨rfl,rfl⟩:=hrel
    go_wp2_with (simp only[hcl])
    go_ret
    exact⟨rfl,TS.out⟩
theorem Gw (h:Tb w b m v t) (n:Int) :
 Calls Tryz.prog 34 #[.pointer (some ⟨b,0,none⟩),.int .i64 n] w fun e w'=>e=.returned (.int .i64 (xW t n).1)/\After w b m v (xW t n).2 w':=by
 unfold xW
 by_cases hn:0<=n/\n<=t.length
 ·rw[if_pos hn]
  obtain⟨j,rfl⟩:∃ j:Nat,n=j:=⟨n.toNat,by omega⟩
  by_cases hj:j<t.length
  ·exact NU w h j hj
  ·obtain rfl:j=t.length:=by omega
   simp only[Int.toNat_natCast,List.take_length]
   exact NY w h
 ·rw[if_neg hn]
  refine(Ro w h n (by omega)).mono ?_
  rintro e w' ⟨rfl,rfl⟩
  exact⟨rfl,After.of_below h (Below.refl _ _)⟩
end
def Ld (w w':World) (e:Ending) (r:Int × List Nd):Prop :=
 (r.1=0/\∃ B M v,e=.returned (.tuple #[.pointer (some ⟨B,0,none⟩),.int .i64 0])/\Tb w' B M v r.2/\∀ k,Ft B M v k->w.heap.size<=k) \/
 (r.1≠0/\e=.returned (.tuple #[.pointer none,.int .i64 r.1]))
theorem Gx (t:List Nd) (n:Nd) (r:List Nd):Fm.fr t (n :: r)=if (Fm.put t n).2.1=0 then (if (Fm.put t n).1=t.length then Fm.fr (Fm.put t n).2.2 r else (31,[])) else ((Fm.put t n).2.1,[]):=by
 rw[Fm.fr]
theorem Df {t:List Nd} {n:Nd} (h1:(Fm.put t n).2.1=0) (h2:(Fm.put t n).1=t.length):(Fm.put t n).2.2.length=t.length+1:=by
 unfold Fm.put at h1 h2 |-
 split
 ·rename_i hc
  rw[if_pos hc] at h1 h2
  split
  ·rename_i hm
   rw[if_pos hm] at h2
   have:=List.idxOf_lt_length_iff.2 hm
   simp at h2
   omega
  ·rename_i hm
   rw[if_neg hm] at h1 h2
   split
   ·rename_i hl;rw[if_pos hl] at h1;simp at h1
   ·simp
 ·rename_i hc
  rw[if_neg hc] at h1
  exact absurd h1 hc
theorem lH.at {w:World} {v:Value} {t:List Nd} (h:lH w v t):∃ p c,v=.slice p t.length c/\t.length<=c/\c<=9223372036854775807/\(0<t.length->∃ b o,p=some ⟨b,o,none⟩/\∀ w',Below w.heap.size w w'->∀ k (hk:k<t.length),FZ w' b (o+k * 4) t[k]):=by
 obtain⟨p,c,hv,h1,h2,h3⟩:=h
 refine⟨p,c,hv,h1,h2,fun hp => ?_⟩
 obtain⟨b,o,vD,hc⟩:=h3 hp
 refine⟨b,o,vD,fun w' hb k hk => ?_⟩
 have h:=hc k hk
 have hlt:b<w.heap.size:=World.block_lt_of_cell? w _ h.c0
 exact⟨(hb.cell (p:=⟨b,_,none⟩) hlt).trans h.c0,(hb.cell (p:=⟨b,_,none⟩) hlt).trans h.c1,(hb.cell (p:=⟨b,_,none⟩) hlt).trans h.c2,(hb.cell (p:=⟨b,_,none⟩) hlt).trans h.c3⟩
theorem Dg (w:World) (rv:Value) (rs:List Nd) (hR:lH w rv rs) (hg:∀ n ∈ rs,Fm.good n) (hl:rs.length<=140737488351232) :
 Calls Tryz.prog 17 #[rv] w fun e w'=>Ld w w' e (Fm.fr [] rs)/\Below w.heap.size w w':=by
 have KN:=show Hid (Calls Tryz.prog 36 #[] w fun e w'=>e=.returned (.pointer (some ⟨w.heap.size+1,0,none⟩))/\Tb w' (w.heap.size+1) w.heap.size (.slice none 0 0) []/\Below w.heap.size w w') from QZ w
 have KP:=show Hid (∀ (w1:World) (b m:Nat) (v:Value) (t:List Nd),Tb w1 b m v t->∀ n,Fm.good n->Calls Tryz.prog 37 #[.pointer (some ⟨b,0,none⟩),.agg #[.int .i64 n.k,.string n.s,.int .i64 n.l,.int .i64 n.r]] w1 fun e w'=>e=.returned (.tuple #[.int .i64 (Fm.put t n).1,.int .i64 (Fm.put t n).2.1])/\After w1 b m v (Fm.put t n).2.2 w') from fun w1 b m v t h n hn=>wN w1 h n hn
 have HX:=show Hid (Fm.fr [] (rs.drop 0)=Fm.fr [] rs) from by rw[List.drop_zero];rfl
 have HG:=show Hid (∀ n ∈ rs,Fm.good n) from hg
 generalize Fm.fr [] rs=ans at *
 obtain⟨p,c,rfl,hc1,hc2,hat⟩:=hR.at
 have HA:=show Hid _ from hat
 clear hR hg hat
 go_enter Tryz.func17,Tryz.ntmps17
 go_wp2_with fail
 refine KN.out.mono ?_
 rintro e w1 ⟨rfl,hT1,hB1⟩
 have HT1:=show Hid (Tb w1 (w.heap.size+1) w.heap.size (.slice none 0 0) []) from hT1
 have HB1:=show Hid (Below w.heap.size w w1) from hB1
 clear hT1 hB1 KN
 go_wp2_with fail
 go_loopw [6,12] (fun _ i wr=>∃ (t:List Nd) (v:Value),t.length<=rs.length/\i=.int .i64 (t.length:Int)/\Hid (Fm.fr t (rs.drop t.length)=ans)/\Hid (Tb wr (w.heap.size+1) w.heap.size v t/\∀ k,v.ownBlock=some k->w.heap.size<=k)/\Hid (Below w.heap.size w wr)) (fun _ i _=>rs.length - (intOf i).toNat)
 case atStart=>exact⟨[],.slice none 0 0,by simp,rfl,HX,⟨HT1.out,fun k hk=>by simp[Value.ownBlock] at hk⟩,HB1⟩
 case round=>
  obtain⟨t,v,hk,rfl,HF,HT,HB⟩:=hrel
  clear HX HT1 HB1
  by_cases hlt:t.length<rs.length
  ·obtain⟨rb,ro,rfl,hat⟩:=HA.out (by omega)
   have hA:=hat wr HB.out t.length hlt
   have Gy:=show Hid (Fm.good rs[t.length]) from HG.out _ (List.getElem_mem hlt)
   have hst:=HF.out
   rw[List.drop_eq_getElem_cons hlt,Gx] at hst
   generalize rs[t.length]=nd at *
   have HST:=show Hid _ from hst
   have xA:=show Hid (Fm.put t nd |>.2.1=0->(Fm.put t nd).1=t.length->(Fm.put t nd).2.2.length=t.length+1) from fun h1 h2=>Df h1 h2
   obtain⟨nk,ns,nl,nr⟩:=nd
   have a0:=hA.c0;have a1:=hA.c1;have a2:=hA.c2;have a3:=hA.c3
   simp only at a0 a1 a2 a3
   have hki:(t.length:Int)<(rs.length:Int):=by omega
   clear hat hA hst HF
   have tL:=show Hid (Calls Tryz.prog 37 #[.pointer (some ⟨w.heap.size+1,0,none⟩),.agg #[.int .i64 nk,.string ns,.int .i64 nl,.int .i64 nr]] (wr.alloc (Obj.cells #[.int .i64 nk,.string ns,.int .i64 nl,.int .i64 nr] 67)) fun e w'=>e=.returned (.tuple #[.int .i64 (Fm.put t ⟨nk,ns,nl,nr⟩).1,.int .i64 (Fm.put t ⟨nk,ns,nl,nr⟩).2.1])/\After (wr.alloc (Obj.cells #[.int .i64 nk,.string ns,.int .i64 nl,.int .i64 nr] 67)) (w.heap.size+1) w.heap.size v (Fm.put t ⟨nk,ns,nl,nr⟩).2.2 w') from KP.out _ _ _ _ _ (HT.out.1.later (ak _ _)) ⟨nk,ns,nl,nr⟩ Gy.out
   generalize Fm.put t ⟨nk,ns,nl,nr⟩=pr at *
   obtain⟨p1,p2,p3⟩:=pr
   simp only at tL xA
   go_wp2_with fail
   refine tL.out.mono ?_
   rintro e w2 ⟨rfl,v2,kP,hL2,hK2⟩
   have hk2:Kp (Ft (w.heap.size+1) w.heap.size v) wr w2:=(Kp.of_below (ak wr _)).trans hK2 (fun i hi=>Or.inl hi)
   have HB2:=show Hid (Below w.heap.size w w2) from HB.out.trans (hk2.below HB.out.size (by
    rintro k (e | e | e)
    ·omega
    ·omega
    ·exact HT.out.2 k e))
   have HT2:=show Hid (Tb w2 (w.heap.size+1) w.heap.size v2 p3/\∀ k,v2.ownBlock=some k->w.heap.size<=k) from⟨kP,fun k hk=>by
    rcases hL2 k hk with h | h
    ·exact HT.out.2 k h
    ·have:=HB.out.size
     simp at h
     omega⟩
   clear kP hL2 hK2 hk2 tL HB HT
   by_cases h0:p2=0
   ·subst h0
    have hst:=HST.out
    rw[if_pos rfl] at hst
    by_cases h1:p1=t.length
    ·subst h1
     rw[if_pos rfl] at hst
     have hgw:=xA.out rfl rfl
     have tF:=show Hid (Fm.fr p3 (rs.drop p3.length)=ans) from by rw[hgw];exact hst
     have Le:=show Hid (p3.length=t.length+1) from hgw
     clear hst hgw HST xA
     go_wp2_with fail
     go_roundw
     case rel=>exact⟨p3,v2,by have:=Le.out;omega,by rw[Le.out];go_num,tF,HT2,HB2⟩
     case measure=>first|(simp[intOf];done)|(simp[intOf];omega)
    ·rw[if_neg h1] at hst
     have hne:(p1 != (t.length:Int))=true:=by simp[h1]
     subst hst
     go_wp2_with fail
     go_ret2
     exact⟨Or.inr ⟨by simp,rfl⟩,HB2.out⟩
   ·have hst:=HST.out
    rw[if_neg h0] at hst
    have hne:(p2 != 0)=true:=by simp[h0]
    subst hst
    go_wp2_with fail
    go_ret2
    exact⟨Or.inr ⟨h0,rfl⟩,HB2.out⟩
  ·have hke:t.length=rs.length:=by omega
   have hst:=HF.out
   rw[hke,List.drop_length,Fm.fr] at hst
   subst hst
   have hki:¬ (t.length:Int)<(rs.length:Int):=by omega
   clear hke
   go_wp2_with fail
   go_ret2
   refine⟨Or.inl ⟨rfl,w.heap.size+1,w.heap.size,v,rfl,HT.out.1,?_⟩,HB.out⟩
   rintro k (e | e | e)
   ·omega
   ·omega
   ·exact HT.out.2 k e
end Go.Proofs.YtkpbpecikibohaaGreatDoor
