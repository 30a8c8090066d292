/-
  Glue's whole under way, and the places beside it. No condition.
-/
import Derived.Test.YtoedidbbjnnpnaaTH22
import Derived.Test.YtoedidbbjnnpnaaTH21
namespace Go.Proofs.Ytoedidbbjnnpnaa.Wm
open Go.RowKit Go.Maps
open Wd (Md Rc Ed upd vl allW)
set_option linter.unusedSimpArgs false
set_option linter.unusedVariables false
structure GK (w0 W:World) (L b:Nat) (uv vv pv:Value) (up:List (List Int)) (val:List (List ByteArray)) (pl:List Nat) (q:Nat):Prop where
 box:Cl W b #[uv,vv] 25
 up:∃ xs,TD w0.heap.size W uv up xs∧∀ (i:Nat) (y:Value),xs[i]?=some y→∀ k,y.ownBlock=some k→pv.ownBlock≠some k∧k≠q
 val:RowsI w0 L w0.heap.size W vv val
 kp:Kp (fun k=>k=b) w0 W
 pl:OwnI w0.heap.size W pv pl
 pq:pv.ownBlock≠some q
 ql:q<W.heap.size
section
variable {w0 W W':World} {L b B:Nat} {uv vv pv v:Value} {up ls:List (List Int)} {val:List (List ByteArray)} {xs:List Value} {pl:List Nat} {q:Nat}
theorem size_set (W:World) (a:Addr) (v:Value):(W.setCell a v).heap.size=W.heap.size:=by simp [World.setCell]
theorem GK.later (h:GK w0 W L b uv vv pv up val pl q) (hb:Below W.heap.size W W'):GK w0 W' L b uv vv pv up val pl q:=by
 obtain ⟨xs,h1,h2⟩:=h.up
 obtain ⟨ys,k1,k2⟩:=h.val
 exact ⟨h.box.later hb,⟨xs,h1.keep (St.of_below hb),h2⟩,⟨ys,own_later k1 hb,k2⟩,h.kp.trans (Kp.of_below (S:=fun k=>k=b) hb) fun _ e=>Or.inl e,own_later h.pl hb,h.pq,Nat.lt_of_lt_of_le h.ql hb.size⟩
theorem GK.rows (h:GK w0 W L b uv vv pv up val pl q):RowsZ w0.heap.size W uv up:=by
 obtain ⟨xs,h1,_⟩:=h.up
 exact ⟨xs,h1.own,h1.row⟩
theorem GK.valS {W0:World} {row:List ByteArray} {xr:Value} (h:GK w0 W0 L b uv vv pv up val pl q) (h1:W0.ownsRow w0.heap.size 34 1 vv val.length xs) (h2:∀ (i:Nat) (hi:i<val.length),∃ x,xs[i]?=some x∧IsN w0 L x val[i]) (hr:IsN w0 L xr row)
 (hf:FinG W0 b 1 w0.heap.size val.length 34 vv xs (fun x _=>x=xr) W):∃ v',GK w0 W L b uv v' pv up (val ++ [row]) pl q:=by
 obtain ⟨zs,z1,z2⟩:=h.up
 obtain ⟨x,v,W1,W2,hb1,rfl,hg,ho,rfl⟩:=hf
 have hp:=h.later hb1
 have k1:=own_later h1 hb1
 have hlen:xs.length=val.length:=by have:=h1.1;omega
 have hbox:=box_int hp.box k1 (by decide) hg
 have hset:Kp (fun k=>k=b) W2 (W2.setCell ⟨b,1,none⟩ v):=(Kp.refl (fun k=>k=b) W2).set (p:=b) rfl 1 v
 refine ⟨v,heap_setCell_same W2 b 1 _ _ _ hbox,⟨zs,((z1.keep (St.of_below hb1)).keep (St.of_grow k1 hg (by decide) (by decide))).set_box hbox,z2⟩,⟨xs ++ [x],?_,fun i hi => ?_⟩,(kp_grow hp.kp k1 (Nat.le_refl _) hg).trans hset fun _ e=>Or.inl e,own_set_box hbox (by decide) (own_type hp.pl k1 hg (by decide)),h.pq,by rw [size_set];have h3:=h.ql;have h4:=hb1.size;have h5:=hg.size;omega⟩
 ·rw [List.length_append,List.length_singleton]
  exact own_set_box hbox (by decide) ho
 ·by_cases e:i<val.length
  ·obtain ⟨y,hy,hyo⟩:=h2 i e
   exact ⟨y,by rw [List.getElem?_append_left (by omega)];exact hy,by rw [List.getElem_append_left e];exact hyo⟩
  ·have e2:i=val.length:=by simp at hi;omega
   subst e2
   exact ⟨x,by rw [List.getElem?_append_right (by omega),hlen];simp,by simpa using hr⟩
theorem GK.upS {W0:World} {row:List Int} (h:GK w0 W0 L b uv vv pv up val pl q) (h1:TD w0.heap.size W0 uv up xs) (hpx:∀ (i:Nat) (y:Value),xs[i]?=some y→∀ k,y.ownBlock=some k→pv.ownBlock≠some k∧k≠q)
 (hf:FinG W0 b 0 w0.heap.size up.length 27 uv xs (fun x W=>OwnZ W0.heap.size W x row) W):∃ u',GK w0 W L b u' vv pv (up ++ [row]) val pl q:=by
 obtain ⟨x,v,W1,W2,hb1,hx,hg,ho,rfl⟩:=hf
 have hp:=h.later hb1
 have k1:=h1.keep (St.of_below (B:=w0.heap.size) (T:=27) (T':=3) hb1)
 have hlen:xs.length=up.length:=by have:=h1.own.1;omega
 obtain ⟨ys,y1,y2⟩:=hp.val
 have hbox:=box_int hp.box k1.own (by decide) hg
 have hset:Kp (fun k=>k=b) W2 (W2.setCell ⟨b,0,none⟩ v):=(Kp.refl (fun k=>k=b) W2).set (p:=b) rfl 0 v
 have hfr:∀ {i:Nat} {y:Value},xs[i]?=some y→∀ k,y.ownBlock=some k→k<W0.heap.size:=fun {i y} hy k hk=>by
  have hi:i<up.length:=by have:=(List.getElem?_eq_some_iff.1 hy).1;omega
  obtain ⟨y',hy',hyo⟩:=h1.row i hi
  obtain rfl:y'=y:=Option.some.inj (hy'.symm.trans hy)
  exact (own_blk hyo hk).2.1
 have hxf:∀ k,x.ownBlock=some k→W0.heap.size≤k:=fun k hk=>(own_blk hx hk).1
 have hsnoc:∀ {i:Nat} {y:Value},(xs ++ [x])[i]?=some y→(i<xs.length∧xs[i]?=some y)∨(i=xs.length∧y=x):=fun {i y} hy=>by
  rcases Nat.lt_or_ge i xs.length with hi | hi
  ·rw [List.getElem?_append_left hi] at hy;exact Or.inl ⟨hi,hy⟩
  ·rw [List.getElem?_append_right hi] at hy
   rcases e:i - xs.length with _ | q
   ·rw [e] at hy;exact Or.inr ⟨by omega,by simpa using hy.symm⟩
   ·rw [e] at hy;simp at hy
 have htd:TD w0.heap.size W2 v (up ++ [row]) (xs ++ [x]):=by
  refine ⟨by rw [List.length_append,List.length_singleton];exact ho,fun i hi => ?_,fun i j y z hij hy hz k hk => ?_⟩
  ·by_cases e:i<up.length
   ·obtain ⟨y,hy,hyo⟩:=k1.row i e
    exact ⟨y,by rw [List.getElem?_append_left (by omega)];exact hy,by rw [List.getElem_append_left e];exact own_type hyo k1.own hg (by decide)⟩
   ·have e2:i=up.length:=by simp at hi;omega
    subst e2
    refine ⟨x,by rw [List.getElem?_append_right (by omega),hlen];simp,?_⟩
    rw [show (up ++ [row])[up.length]'(by simp)=row from by simp]
    exact own_type (own_base hx h.kp.size) k1.own hg (by decide)
  ·rcases hsnoc hy with ⟨hi,hy9⟩ | ⟨hi,hy9⟩ <;> rcases hsnoc hz with ⟨hj,hz9⟩ | ⟨hj,hz9⟩
   ·exact h1.dis i j y z hij hy9 hz9 k hk
   ·intro e
    rw [hz9] at e
    have:=hfr hy9 k hk
    have:=hxf k e
    omega
   ·intro e
    rw [hy9] at hk
    have:=hfr hz9 k e
    have:=hxf k hk
    omega
   ·omega
 have hpv:∀ (i:Nat) (y:Value),(xs ++ [x])[i]?=some y→∀ k,y.ownBlock=some k→pv.ownBlock≠some k∧k≠q:=fun i y hy k hk=>by
  rcases hsnoc hy with ⟨_,h9⟩ | ⟨_,h9⟩
  ·exact hpx i y h9 k hk
  ·rw [h9] at hk
   have h8:=hxf k hk
   refine ⟨fun e => ?_,?_⟩
   ·have:=(own_blk h.pl e).2.1
    omega
   ·have:=h.ql
    omega
 exact ⟨v,heap_setCell_same W2 b 0 _ _ _ hbox,⟨_,htd.set_box hbox,hpv⟩,⟨ys,own_set_box hbox (by decide) (own_type y1 k1.own hg (by decide)),y2⟩,(kp_grow hp.kp k1.own (Nat.le_refl _) hg).trans hset fun _ e=>Or.inl e,own_set_box hbox (by decide) (own_type hp.pl k1.own hg (by decide)),h.pq,by rw [size_set];have h3:=h.ql;have h4:=hb1.size;have h5:=hg.size;omega⟩
theorem GK.rowS {W0:World} {G c cap:Nat} {x:Value} {l:List Int} (h:GK w0 W0 L b (.slice (some ⟨G,0,none⟩) up.length cap) vv pv up val pl q) (h1:TD w0.heap.size W0 (.slice (some ⟨G,0,none⟩) up.length cap) up xs) (hpx:∀ (i:Nat) (y:Value),xs[i]?=some y→∀ k,y.ownBlock=some k→pv.ownBlock≠some k∧k≠q) (hc:c<up.length) (hx:xs[c]?=some x)
 (hf:FinR W0 G c w0.heap.size x (up[c] ++ l) W):GK w0 W L b (.slice (some ⟨G,0,none⟩) up.length cap) vv pv (up.set c (up[c] ++ l)) val pl q:=by
 obtain ⟨v,W1,W2,hb1,hg,ho,hn,rfl⟩:=hf
 have hp:=h.later hb1
 have k1:=h1.keep (St.of_below (B:=w0.heap.size) (T:=27) (T':=3) hb1)
 have hlen:xs.length=up.length:=by have:=h1.own.1;omega
 obtain ⟨ys,y1,y2⟩:=hp.val
 obtain ⟨x',hx',hox⟩:=k1.row c hc
 obtain rfl:x'=x:=Option.some.inj (hx'.symm.trans hx)
 obtain ⟨hG0,hGs,cur,hcur⟩:=own_blk k1.own (k:=G) rfl
 have hGx:∀ k,x'.ownBlock=some k→w0.heap.size≤k∧k<W1.heap.size∧k≠G:=fun k hk=>by
  obtain ⟨q1,q2,cur',q3⟩:=own_blk hox hk
  refine ⟨q1,q2,fun e => ?_⟩
  rw [e] at q3
  have h8:=hcur.symm.trans q3
  injection h8 with h7
  injection h7 with _ h6
  exact absurd h6 (by decide)
 have hset:Kp (fun k=>k=G) W2 (W2.setCell ⟨G,c,none⟩ v):=(Kp.refl (fun k=>k=G) W2).set (p:=G) rfl c v
 have hT2:W2.ownsRow w0.heap.size 27 1 (.slice (some ⟨G,0,none⟩) up.length cap) up.length xs:=own_kp k1.own fun k cs _ hc' he=>hg.block k (lt_of_block hc') fun e=>by
  have h9:G=k:=Option.some.inj he
  exact (hGx k e.symm).2.2 h9.symm
 have hcG:∀ {e:TypeId} {y:Value} {q:Nat} {zs:List Value} {W9:World},W9.heap[G]?=some (.cells cur 27 (0,0))→e≠27→W9.ownsRow w0.heap.size e 1 y q zs→∀ k,y.ownBlock=some k→k≠G:=fun {e y q zs W9} h9 hne hy k hk e2=>by
  obtain ⟨_,_,cur',q3⟩:=own_blk hy hk
  rw [e2] at q3
  have h8:=h9.symm.trans q3
  injection h8 with h7
  injection h7 with _ h6
  exact hne h6.symm
 have hcur2:W2.heap[G]?=some (.cells cur 27 (0,0)):=(hg.block G hGs fun e=>(hGx G e.symm).2.2 rfl).trans hcur
 have hrow2:∀ (i:Nat) (hi:i<up.length),i≠c→∃ y,xs[i]?=some y∧OwnZ w0.heap.size W2 y up[i]:=fun i hi hic=>by
  obtain ⟨y,hy,hyo⟩:=k1.row i hi
  exact ⟨y,hy,own_kp hyo fun k cs _ hc' he=>hg.block k (lt_of_block hc') fun e=>h1.dis i c y x' hic hy hx k he e.symm⟩
 have kpG:∀ {e:TypeId} {y:Value} {q:Nat} {zs:List Value},e≠27→W2.ownsRow w0.heap.size e 1 y q zs→(W2.setCell ⟨G,c,none⟩ v).ownsRow w0.heap.size e 1 y q zs:=fun {e y q zs} hne hy=>own_kp hy fun k cs _ hc' he=>hset.block k (lt_of_block hc') (hcG hcur2 hne hy k he)
 have hbx:Cl W2 b #[.slice (some ⟨G,0,none⟩) up.length cap,vv] 25:=(hg.block b hp.box.lt fun e=>by
  obtain ⟨_,_,cur',q3⟩:=own_blk hox e.symm
  have h8:=(show W1.heap[b]?=_ from hp.box).symm.trans q3
  injection h8 with h7
  injection h7 with _ h6
  exact absurd h6 (by decide)).trans hp.box
 have hbG:b≠G:=fun e=>by
  have h8:=hbx
  unfold Cl at h8
  rw [e] at h8
  have h9:=h8.symm.trans hcur2
  injection h9 with h7
  injection h7 with _ h6
  exact absurd h6 (by decide)
 have hpl2:W2.ownsRow w0.heap.size 3 1 pv pl.length (intsV pl):=own_other hp.pl hg fun k hk e=>(hpx c x' hx k e).1 hk
 refine ⟨hbx.kp hset hbG,⟨xs.set c v,⟨by rw [List.length_set];exact own_set hT2 hc v,fun i hi => ?_,fun i j y z hij hy hz k hk => ?_⟩,fun i y hy k hk => ?_⟩,⟨ys,kpG (by decide) (own_kp y1 fun k cs _ hc' he=>hg.block k (lt_of_block hc') fun e => ?_),y2⟩,?_,kpG (by decide) hpl2,h.pq,by rw [size_set];have h3:=h.ql;have h4:=hb1.size;have h5:=hg.size;omega⟩
 ·rw [List.length_set] at hi
  by_cases e:i=c
  ·subst e
   exact ⟨v,by rw [List.getElem?_set_self (by omega)],by rw [List.getElem_set_self];exact kpG (by decide) ho⟩
  ·obtain ⟨y,hy,hyo⟩:=hrow2 i hi e
   exact ⟨y,by rw [List.getElem?_set_ne (fun h=>e h.symm)];exact hy,by rw [List.getElem_set_ne (fun h=>e h.symm)];exact kpG (by decide) hyo⟩
 ·have hold:∀ {i:Nat} {y:Value},i≠c→(xs.set c v)[i]?=some y→xs[i]?=some y:=fun {i y} hne hy=>by rwa [List.getElem?_set_ne (fun h=>hne h.symm)] at hy
  have hnew:∀ {y:Value},(xs.set c v)[c]?=some y→y=v:=fun {y} hy=>by
   rw [List.getElem?_set_self (by omega)] at hy
   exact (Option.some.inj hy).symm
  have hfr:∀ {i:Nat} {y:Value},i≠c→xs[i]?=some y→∀ k,v.ownBlock=some k→y.ownBlock≠some k:=fun {i y} hne hy k hk e=>by
   rcases hn with h3 | h3
   ·exact h1.dis c i x' y (fun e=>hne e.symm) hx hy k (h3.symm.trans hk) e
   ·have hi:i<up.length:=by
     have:=(List.getElem?_eq_some_iff.1 hy).1;omega
    obtain ⟨y',hy',hyo⟩:=k1.row i hi
    obtain rfl:y'=y:=Option.some.inj (hy'.symm.trans hy)
    have:=(own_blk hyo e).2.1
    rw [h3] at hk
    have:=Option.some.inj hk
    omega
  by_cases e1:i=c
  ·subst e1
   rw [hnew hy] at hk
   exact hfr (fun e=>hij e.symm) (hold (fun e=>hij e.symm) hz) k hk
  ·by_cases e2:j=c
   ·subst e2
    rw [hnew hz]
    intro h3
    exact hfr e1 (hold e1 hy) k h3 hk
   ·exact h1.dis i j y z hij (hold e1 hy) (hold e2 hz) k hk
 ·by_cases e1:i=c
  ·subst e1
   rw [List.getElem?_set_self (by omega)] at hy
   have e3:v=y:=Option.some.inj hy
   rw [← e3] at hk
   rcases hn with h3 | h3
   ·exact hpx i x' hx k (h3.symm.trans hk)
   ·rw [h3] at hk
    have h5:=Option.some.inj hk
    refine ⟨fun e4 => ?_,?_⟩
    ·have h4:=(own_blk hp.pl e4).2.1
     omega
    ·have h4:=hp.ql
     omega
  ·rw [List.getElem?_set_ne (fun h=>e1 h.symm)] at hy
   exact hpx i y hy k hk
 ·obtain ⟨_,_,cur',q3⟩:=own_blk hox e.symm
  have h8:=hc'.symm.trans q3
  injection h8 with h7
  injection h7 with _ h6
  exact absurd h6 (by decide)
 ·have hk2:Kp (fun k=>k=b) w0 W2:=kp_grow hp.kp hox (Nat.le_refl _) hg
  exact ⟨hset.os.trans hk2.os,hset.tape.trans hk2.tape,hset.output.trans hk2.output,Nat.le_trans hk2.size hset.size,fun k hk hne=>(hset.block k (Nat.lt_of_lt_of_le hk hk2.size) (by omega)).trans (hk2.block k hk hne)⟩
theorem GK.isM (h:GK w0 W L b uv vv pv up val pl q) (hL:L≤b) (hw:L≤w0.heap.size):IsM W W.heap.size uv vv ⟨up,val⟩:=by
 refine ⟨h.rows.isU,?_⟩
 obtain ⟨xs,h1,h2⟩:=h.val
 have hsz:=h.kp.size
 have hk:∀ k,k<L→W.heap[k]?=w0.heap[k]?:=fun k hk=>h.kp.block k (by omega) (by omega)
 rcases h1.2 with ⟨rfl,h0⟩ | ⟨g,cap,cur,rfl,hg,hh,_⟩
 ·have h0:val.length=0:=h0
  obtain rfl:val=[]:=List.eq_nil_of_length_eq_zero h0
  exact ⟨_,_,rfl,fun h=>absurd h (by simp)⟩
 ·refine ⟨_,_,rfl,fun h0=>⟨g,0,lt_of_block hh,rfl,fun k hk' => ?_⟩⟩
  have hk2:k<val.length:=hk'
  have hc:=h1.cellAt k (by omega)
  obtain ⟨x,hx,ho⟩:=h2 k hk'
  rw [Nat.zero_add]
  exact ⟨x,hc.trans hx,IsS.wide (IsN.keep ho hk) (by omega)⟩
theorem GK.place {x:Nat} {o:Obj} {v':Value} (h:GK w0 W L b uv vv pv up val pl q) (ho:W'.ownsRow w0.heap.size 3 1 v' (pl.length+1) (intsV pl ++ [.int .i64 (x:Int)])) (hg:(W.alloc o).grownBy W' pv.ownBlock) (hn:v'.ownBlock=pv.ownBlock∨v'.ownBlock=some (W.alloc o).heap.size):GK w0 W' L b uv vv v' up val (pl ++ [x]) q:=by
 have h0:=h.later (below_alloc W o)
 obtain ⟨xs,h1,h2⟩:=h0.up
 obtain ⟨ys,y1,y2⟩:=h0.val
 have hrow:∀ (i:Nat) (hi:i<up.length),∃ x,xs[i]?=some x∧OwnZ w0.heap.size W' x up[i]:=fun i hi=>by
  obtain ⟨y,a1,a2⟩:=h1.row i hi
  exact ⟨y,a1,own_other a2 hg fun k hk=>(h2 i y a1 k hk).1⟩
 refine ⟨box_int h0.box h0.pl (by decide) hg,⟨xs,⟨own_type h1.own h0.pl hg (by decide),hrow,h1.dis⟩,fun i y hy k hk=>⟨fun e => ?_,(h2 i y hy k hk).2⟩⟩,⟨ys,own_type y1 h0.pl hg (by decide),y2⟩,kp_grow h0.kp h0.pl (Nat.le_refl _) hg,?_,fun e => ?_,Nat.lt_of_lt_of_le h0.ql hg.size⟩
 ·rcases hn with h3 | h3
  ·exact (h2 i y hy k hk).1 (h3.symm.trans e)
  ·have hi:i<up.length:=by
    have h9:=h1.own.1
    have:=(List.getElem?_eq_some_iff.1 hy).1;omega
   obtain ⟨y',a1,a2⟩:=h1.row i hi
   obtain rfl:y'=y:=Option.some.inj (a1.symm.trans hy)
   have h4:=(own_blk a2 hk).2.1
   rw [h3] at e
   have h5:=Option.some.inj e
   omega
 ·unfold OwnI
  rw [List.length_append,List.length_singleton,intsV_snoc]
  exact ho
 ·rcases hn with h3 | h3
  ·exact h0.pq (h3.symm.trans e)
  ·rw [h3] at e
   have h5:=Option.some.inj e
   have:=h0.ql
   omega
theorem GK.other {q':Nat} (h:GK w0 W L b uv vv pv up val pl q) (hb:Below W.heap.size W W') (hq:W.heap.size≤q') (hq':q'<W'.heap.size):GK w0 W' L b uv vv pv up val pl q':=by
 have h0:=h.later hb
 obtain ⟨xs,h1,h2⟩:=h.up
 refine ⟨h0.box,⟨xs,h1.keep (St.of_below hb),fun i y hy k hk=>⟨(h2 i y hy k hk).1,fun e => ?_⟩⟩,h0.val,h0.kp,h0.pl,fun e => ?_,hq'⟩
 ·have hi:i<up.length:=by
   have h9:=h1.own.1
   have:=(List.getElem?_eq_some_iff.1 hy).1;omega
  obtain ⟨y',a1,a2⟩:=h1.row i hi
  obtain rfl:y'=y:=Option.some.inj (a1.symm.trans hy)
  have:=(own_blk a2 hk).2.1
  omega
 ·have:=(own_blk h.pl e).2.1
  omega
theorem finG_cl {W0:World} {B j n q:Nat} {T T':TypeId} {v0:Value} {cs:Array Value} {PX:Value→World→Prop} (hf:FinG W0 b j B n T v0 xs PX W) (h1:W0.ownsRow B T 1 v0 n xs) (hc:Cl W0 q cs T') (ht:T'≠T) (hq:q≠b):Cl W q cs T':=by
 obtain ⟨x,v,W1,W2,hb1,_,hg,_,rfl⟩:=hf
 have k1:=own_later h1 hb1
 have hc1:=hc.later hb1
 have hc2:Cl W2 q cs T':=(hg.block q hc1.lt fun e=>by
  obtain ⟨_,_,cur,h9⟩:=own_blk k1 e.symm
  have h8:=(show W1.heap[q]?=_ from hc1).symm.trans h9
  injection h8 with h7
  injection h7 with _ h6
  exact ht h6).trans hc1
 exact (Below.heap_setCell W2 ⟨b,j,none⟩ v q hq).trans hc2
theorem finR_cl {W0:World} {B c G q:Nat} {T':TypeId} {x:Value} {l:List Int} {cs:Array Value} (hf:FinR W0 G c B x l W) (hc:Cl W0 q cs T') (hx:x.ownBlock≠some q) (hq:q≠G):Cl W q cs T':=by
 obtain ⟨v,W1,W2,hb1,hg,_,_,rfl⟩:=hf
 have hc1:=hc.later hb1
 exact (Below.heap_setCell W2 ⟨G,c,none⟩ v q hq).trans ((hg.block q hc1.lt fun e=>hx e.symm).trans hc1)
end
section
variable {W0 W W':World} {G c B:Nat} {x v:Value} {l m:List Int}
def LJ2 (pb pa ps G:Nat) (x:Value) (i:Nat) (W W':World):Prop:=(i≠pb→i≠pa→i≠ps→W'=W)∧(i=pb→Below W.heap.size W W')∧(i=pa→W.grownBy W' x.ownBlock)∧(i=ps→Kp (fun k=>k=G) W W'∧W'.heap.size=W.heap.size)
theorem gwJ_le2 {pb pa ps i:Nat} (hb:i≠pb) (ha:i≠pa) (hl:LJ2 pb pa ps G x i W W') (h:GwJ W0 G B x l v W):GwJ W0 G B x l v W':=by
 obtain ⟨W1,W2,h1,h2,h3,h4,h5,h6⟩:=h
 by_cases es:i=ps
 ·obtain ⟨k1,k2⟩:=hl.2.2.2 es
  exact ⟨W1,W2,h1,h2,h3,h4,h5.trans k1 fun _ e=>Or.inl e,k2.trans h6⟩
 ·rw [hl.1 hb ha es];exact ⟨W1,W2,h1,h2,h3,h4,h5,h6⟩
theorem nqJ_le {pb pa ps i:Nat} (hb:i≠pb) (hG:G<W0.heap.size) (hx:∀ k,x.ownBlock=some k→k<W0.heap.size) (hl:LJ2 pb pa ps G x i W W') (h:OwnZ W0.heap.size W v m):OwnZ W0.heap.size W' v m:=by
 by_cases ea:i=pa
 ·exact own_kp h fun k cs hk hc _=>(hl.2.2.1 ea).block k (lt_of_block hc) fun e=>by have:=hx k e.symm;omega
 ·by_cases es:i=ps
  ·exact own_kp h fun k cs hk hc _=>(hl.2.2.2 es).1.block k (lt_of_block hc) (by omega)
  ·rw [hl.1 hb ea es];exact h
theorem LJ2.same {pb pa ps i:Nat} (hb:i≠pb) (ha:i≠pa) (hs:i≠ps):LJ2 pb pa ps G x i W W:=⟨fun _ _ _=>rfl,fun e=>absurd e hb,fun e=>absurd e ha,fun e=>absurd e hs⟩
end
theorem gRow0_congr {ml:List Md} {rs rs':Nat→Nat} {k:Nat} (h:∀ i,i<k→rs i=rs' i):gRow0 ml rs k=gRow0 ml rs' k:=by
 unfold gRow0
 exact List.map_congr_left fun i hi=>by rw [h i (List.mem_range.1 hi)]
end Go.Proofs.Ytoedidbbjnnpnaa.Wm
