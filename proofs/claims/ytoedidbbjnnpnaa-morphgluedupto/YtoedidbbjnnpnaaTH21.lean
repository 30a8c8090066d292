/-
  A model under way whose rows of worlds grow in their places. No condition.
-/
import Derived.Test.YtoedidbbjnnpnaaTH20
import Derived.Test.YtoedidbbjnnpnaaTH17
import Derived.Test.YtoedidbbjnnpnaaTH10
namespace Go.Proofs.Ytoedidbbjnnpnaa.Wm
open Go.RowKit Go.Maps
open Wd (Md Rc Ed upd vl allW)
set_option linter.unusedSimpArgs false
set_option linter.unusedVariables false
theorem grow_refl (w:World) (r:Option Nat):w.grownBy w r:=⟨rfl,rfl,rfl,Nat.le_refl _,fun _ _ _=>rfl⟩
theorem run_append_rows (W:World) {B B' n:Nat} {x o:Value} {xs:List Value} {l:List Int} (hx:W.ownsRow B 3 1 x n xs) (ho:OwnZ B' W o l) (hn:n+l.length≤17592186044000) (hB:B≤W.heap.size) :
 ∃ v' W2,(Builtin.append_ #[27,27] 27 #[x,o]).run Try.prog W=.ok v' W2∧W2.ownsRow B 3 1 v' (n+l.length) (xs ++ l.map (Value.int .i64))∧W.grownBy W2 x.ownBlock∧(v'.ownBlock=x.ownBlock∨v'.ownBlock=some W.heap.size):=by
 obtain ⟨i0,hi,hz0,hz1,hz2⟩:=info_parts infoI
 rcases ho.2 with ⟨rfl,h0⟩ | ⟨g,cap,cur,rfl,hg,hh,h1,h2,h3,h4⟩
 ·have h0:l.length=0:=h0
  obtain rfl:l=[]:=List.eq_nil_of_length_eq_zero h0
  exact ⟨x,W,run_append_owned_none (P:=Try.prog) W B 27 27 3 i0 1 Try.underlying27 hi x n xs hx,by simpa using hx,grow_refl _ _,Or.inl rfl⟩
 ·have hc:∀ j (hj:j<l.length),W.cell? ⟨g,j,none⟩=some (.int .i64 l[j]):=fun j hj=>by
   have:=ho.cellAt j (by omega)
   exact this.trans (by simp [hj])
  obtain ⟨v',W2,hr,h5,h6,_,h7⟩:=run_append_own_at (P:=Try.prog) (w:=W) B 27 27 3 i0 (.int .i64 0) 1 8 Try.underlying27 hi hz0 hz1 hz2 rfl (by decide) x n xs hx ⟨g,0,none⟩ l.length cap (l.map (Value.int .i64)) (by simp) (fun j u hu=>by
   have hj:j<l.length:=by
    rcases Nat.lt_or_ge j l.length with h | h
    ·exact h
    ·rw [List.getElem?_eq_none (by simp;exact h)] at hu;cases hu
   rw [List.getElem?_map,List.getElem?_eq_getElem hj] at hu
   cases hu
   have e9:(⟨g,0,none⟩:Addr).add j=⟨g,j,none⟩:=by rcases j with _ | j <;> simp [Addr.add]
   rw [e9];exact hc j hj) (fun u hu=>by obtain ⟨y,_,rfl⟩:=List.mem_map.1 hu;rfl) (by unfold maxLen;omega) (by omega) hB
  exact ⟨v',W2,hr,h5,h6,h7⟩
theorem own_set {B n c g cap:Nat} {e:TypeId} {w:World} {xs:List Value} (h:w.ownsRow B e 1 (.slice (some ⟨g,0,none⟩) n cap) n xs) (hc:c<n) (v:Value):(w.setCell ⟨g,c,none⟩ v).ownsRow B e 1 (.slice (some ⟨g,0,none⟩) n cap) n (xs.set c v):=by
 rcases h with ⟨h0,h⟩
 refine ⟨by rw [List.length_set];exact h0,Or.inr ?_⟩
 rcases h with ⟨h1,_⟩ | ⟨g',cap',cur,h1,hg,hh,k1,k2,k3,k4⟩
 ·simp at h1
 ·simp only [Value.slice.injEq,Option.some.injEq,Addr.mk.injEq,and_true,true_and] at h1
  obtain ⟨rfl,rfl⟩:=h1
  refine ⟨g,cap,cur.setIfInBounds c v,rfl,hg,heap_setCell_same w g c _ _ _ hh,k1,k2,by simpa using k3,?_⟩
  rw [Array.toList_setIfInBounds,← k4,List.take_set]
structure TD (B:Nat) (w:World) (v:Value) (ls:List (List Int)) (xs:List Value):Prop where
 own:w.ownsRow B 27 1 v ls.length xs
 row:∀ (i:Nat) (hi:i<ls.length),∃ x,xs[i]?=some x∧OwnZ B w x ls[i]
 dis:∀ (i j:Nat) (x y:Value),i≠j→xs[i]?=some x→xs[j]?=some y→∀ k,x.ownBlock=some k→y.ownBlock≠some k
structure PQ (w0 W:World) (L b:Nat) (uv vv:Value) (up:List (List Int)) (val:List (List ByteArray)):Prop where
 box:Cl W b #[uv,vv] 25
 up:∃ xs,TD w0.heap.size W uv up xs
 val:RowsI w0 L w0.heap.size W vv val
 kp:Kp (fun k=>k=b) w0 W
section
variable {w0 W W':World} {L b B:Nat} {uv vv v:Value} {up ls:List (List Int)} {val:List (List ByteArray)} {xs:List Value}
theorem TD.keep (h:TD B W v ls xs) (hs:St B 27 3 W W'):TD B W' v ls xs :=
 ⟨own_kp h.own fun k cs hk hc _=>hs k cs _ hk (Or.inl rfl) hc,fun i hi=>by
  obtain ⟨x,hx,ho⟩:=h.row i hi
  exact ⟨x,hx,own_kp ho fun k cs hk hc _=>hs k cs _ hk (Or.inr rfl) hc⟩,h.dis⟩
theorem PQ.later (h:PQ w0 W L b uv vv up val) (hb:Below W.heap.size W W'):PQ w0 W' L b uv vv up val:=by
 obtain ⟨xs,h1⟩:=h.up
 obtain ⟨ys,k1,k2⟩:=h.val
 exact ⟨h.box.later hb,⟨xs,h1.keep (St.of_below hb)⟩,⟨ys,own_later k1 hb,k2⟩,h.kp.trans (Kp.of_below (S:=fun k=>k=b) hb) fun _ e=>Or.inl e⟩
theorem PQ.pt (h:PQ w0 W L b uv vv up val):PT w0 W L b uv vv up val:=by
 obtain ⟨xs,h1⟩:=h.up
 exact ⟨h.box,⟨xs,h1.own,h1.row⟩,h.val,h.kp⟩
theorem PQ.newS {W0:World} (h:PQ w0 W0 L b uv vv up val) (hb:b<w0.heap.size) (h1:TD w0.heap.size W0 uv up xs)
 (hf:FinG W0 b 0 w0.heap.size up.length 27 uv xs (fun x _=>x=.slice none 0 0) W):∃ u',PQ w0 W L b u' vv (up ++ [[]]) val:=by
 obtain ⟨x,v,W1,W2,hb1,rfl,hg,ho,rfl⟩:=hf
 have hp:=h.later hb1
 have k1:=h1.keep (St.of_below (B:=w0.heap.size) (T:=27) (T':=3) hb1)
 have hlen:xs.length=up.length:=by have:=h1.own.1;omega
 obtain ⟨ys,y1,y2⟩:=hp.val
 have hbox:Cl W2 b #[uv,vv] 25:=(grow_old k1.own hg hb hp.kp.size).trans hp.box
 have hset:Kp (fun k=>k=b) W2 (W2.setCell ⟨b,0,none⟩ v):=(Kp.refl (fun k=>k=b) W2).set (p:=b) rfl 0 v
 have hst:St w0.heap.size 27 3 W2 (W2.setCell ⟨b,0,none⟩ v):=St.of_kp hset hb
 have ne:∀ {y:Value} {m:List Int},OwnZ w0.heap.size W1 y m→OwnZ w0.heap.size W2 y m:=fun hy=>own_kp hy fun k cs _ hc _=>hg.block k (lt_of_block hc) (fun e=>by
  obtain ⟨_,_,cur,h9⟩:=own_blk k1.own e.symm
  have h8:=h9.symm.trans hc
  injection h8 with h7
  injection h7 with _ h6
  exact absurd h6 (by decide))
 have htd:TD w0.heap.size W2 v (up ++ [[]]) (xs ++ [.slice none 0 0]):=by
  refine ⟨by rw [List.length_append,List.length_singleton];exact ho,fun i hi => ?_,fun i j x y hij hx hy k hk => ?_⟩
  ·by_cases e:i<up.length
   ·obtain ⟨y,hy,hyo⟩:=k1.row i e
    exact ⟨y,by rw [List.getElem?_append_left (by omega)];exact hy,by rw [List.getElem_append_left e];exact ne hyo⟩
   ·have e2:i=up.length:=by simp at hi;omega
    subst e2
    exact ⟨.slice none 0 0,by rw [List.getElem?_append_right (by omega),hlen];simp,by rw [show (up ++ [([]:List Int)])[up.length]'(by simp)=[] from by simp];exact World.ownsRow_nil _ _ _ _⟩
  ·rcases Nat.lt_or_ge i xs.length with hi | hi
   ·rw [List.getElem?_append_left hi] at hx
    rcases Nat.lt_or_ge j xs.length with hj | hj
    ·rw [List.getElem?_append_left hj] at hy
     exact h1.dis i j x y hij hx hy k hk
    ·rw [List.getElem?_append_right hj] at hy
     have:y=.slice none 0 0:=by
      rcases e:j - xs.length with _ | q
      ·rw [e] at hy;simpa using hy.symm
      ·rw [e] at hy;simp at hy
     rw [this];simp [Value.ownBlock]
   ·rw [List.getElem?_append_right hi] at hx
    have:x=.slice none 0 0:=by
     rcases e:i - xs.length with _ | q
     ·rw [e] at hx;simpa using hx.symm
     ·rw [e] at hx;simp at hx
    rw [this] at hk;simp [Value.ownBlock] at hk
 refine ⟨v,heap_setCell_same W2 b 0 _ _ _ hbox,⟨_,htd.keep hst⟩,⟨ys,?_,y2⟩,(kp_grow hp.kp k1.own (Nat.le_refl _) hg).trans hset fun _ e=>Or.inl e⟩
 exact own_kp (own_kp y1 fun k cs _ hc _=>hg.block k (lt_of_block hc) fun e=>by
  obtain ⟨_,_,cur,h9⟩:=own_blk k1.own e.symm
  have h8:=h9.symm.trans hc
  injection h8 with h7
  injection h7 with _ h6
  exact absurd h6 (by decide)) fun k cs hk hc _=>hset.block k (lt_of_block hc) (by omega)
theorem PQ.valS {W0:World} {row:List ByteArray} {xr:Value} (h:PQ w0 W0 L b uv vv up val) (hb:b<w0.heap.size) (h1:W0.ownsRow w0.heap.size 34 1 vv val.length xs) (h2:∀ (i:Nat) (hi:i<val.length),∃ x,xs[i]?=some x∧IsN w0 L x val[i]) (hr:IsN w0 L xr row)
 (hf:FinG W0 b 1 w0.heap.size val.length 34 vv xs (fun x _=>x=xr) W):∃ v',PQ w0 W L b uv v' up (val ++ [row]):=by
 obtain ⟨zs,z1⟩:=h.up
 obtain ⟨x,v,W1,W2,hb1,rfl,hg,ho,rfl⟩:=hf
 have hp:=h.later hb1
 have k1:=own_later h1 hb1
 have hlen:xs.length=val.length:=by have:=h1.1;omega
 have hbox:Cl W2 b #[uv,vv] 25:=(grow_old k1 hg hb (hp.kp.size)).trans hp.box
 have hset:Kp (fun k=>k=b) W2 (W2.setCell ⟨b,1,none⟩ v):=(Kp.refl (fun k=>k=b) W2).set (p:=b) rfl 1 v
 refine ⟨v,heap_setCell_same W2 b 1 _ _ _ hbox,⟨zs,((z1.keep (St.of_below hb1)).keep (St.of_grow k1 hg (by decide) (by decide))).keep (St.of_kp hset hb)⟩,⟨xs ++ [x],?_,fun i hi => ?_⟩,(kp_grow hp.kp k1 (Nat.le_refl _) hg).trans hset fun _ e=>Or.inl e⟩
 ·rw [List.length_append,List.length_singleton]
  exact own_kp ho fun k cs hk hc _=>hset.block k (lt_of_block hc) (by omega)
 ·by_cases e:i<val.length
  ·obtain ⟨y,hy,hyo⟩:=h2 i e
   exact ⟨y,by rw [List.getElem?_append_left (by omega)];exact hy,by rw [List.getElem_append_left e];exact hyo⟩
  ·have e2:i=val.length:=by simp at hi;omega
   subst e2
   exact ⟨x,by rw [List.getElem?_append_right (by omega),hlen];simp,by simpa using hr⟩
def FinR (W0:World) (G c B:Nat) (x:Value) (l:List Int) (W:World):Prop :=
 ∃ v W1 W2,Below W0.heap.size W0 W1∧W1.grownBy W2 x.ownBlock∧OwnZ B W2 v l∧(v.ownBlock=x.ownBlock∨v.ownBlock=some W1.heap.size)∧W=W2.setCell ⟨G,c,none⟩ v
theorem PQ.rowS {W0:World} {G c cap:Nat} {x:Value} {l:List Int} (h:PQ w0 W0 L b (.slice (some ⟨G,0,none⟩) up.length cap) vv up val) (h1:TD w0.heap.size W0 (.slice (some ⟨G,0,none⟩) up.length cap) up xs) (hc:c<up.length) (hx:xs[c]?=some x)
 (hf:FinR W0 G c w0.heap.size x (up[c] ++ l) W):PQ w0 W L b (.slice (some ⟨G,0,none⟩) up.length cap) vv (up.set c (up[c] ++ l)) val:=by
 obtain ⟨v,W1,W2,hb1,hg,ho,hn,rfl⟩:=hf
 have hp:=h.later hb1
 have k1:=h1.keep (St.of_below (B:=w0.heap.size) (T:=27) (T':=3) hb1)
 have hlen:xs.length=up.length:=by have:=h1.own.1;omega
 obtain ⟨ys,y1,y2⟩:=hp.val
 obtain ⟨x',hx',hox⟩:=k1.row c hc
 obtain rfl:x'=x:=Option.some.inj (hx'.symm.trans hx)
 obtain ⟨hG0,hGs,cur,hcur⟩:=own_blk k1.own (k:=G) rfl
 have hGx:∀ k,x'.ownBlock=some k→w0.heap.size≤k∧k<W1.heap.size∧k≠G:=fun k hk=>by
  obtain ⟨q1,q2,cur',q3⟩:=own_blk hox hk
  refine ⟨q1,q2,fun e => ?_⟩
  rw [e] at q3
  have h8:=hcur.symm.trans q3
  injection h8 with h7
  injection h7 with _ h6
  exact absurd h6 (by decide)
 have hset:Kp (fun k=>k=G) W2 (W2.setCell ⟨G,c,none⟩ v):=(Kp.refl (fun k=>k=G) W2).set (p:=G) rfl c v
 have hT2:W2.ownsRow w0.heap.size 27 1 (.slice (some ⟨G,0,none⟩) up.length cap) up.length xs:=own_kp k1.own fun k cs _ hc' he=>hg.block k (lt_of_block hc') fun e=>by
  have h9:G=k:=Option.some.inj he
  exact (hGx k e.symm).2.2 h9.symm
 have hcG:∀ {e:TypeId} {y:Value} {q:Nat} {zs:List Value} {W9:World},W9.heap[G]?=some (.cells cur 27 (0,0))→e≠27→W9.ownsRow w0.heap.size e 1 y q zs→∀ k,y.ownBlock=some k→k≠G:=fun {e y q zs W9} h9 hne hy k hk e2=>by
  obtain ⟨_,_,cur',q3⟩:=own_blk hy hk
  rw [e2] at q3
  have h8:=h9.symm.trans q3
  injection h8 with h7
  injection h7 with _ h6
  exact hne h6.symm
 have hcur2:W2.heap[G]?=some (.cells cur 27 (0,0)):=(hg.block G hGs fun e=>(hGx G e.symm).2.2 rfl).trans hcur
 have hrow2:∀ (i:Nat) (hi:i<up.length),i≠c→∃ y,xs[i]?=some y∧OwnZ w0.heap.size W2 y up[i]:=fun i hi hic=>by
  obtain ⟨y,hy,hyo⟩:=k1.row i hi
  exact ⟨y,hy,own_kp hyo fun k cs _ hc' he=>hg.block k (lt_of_block hc') fun e=>h1.dis i c y x' hic hy hx k he e.symm⟩
 have kpG:∀ {e:TypeId} {y:Value} {q:Nat} {zs:List Value},e≠27→W2.ownsRow w0.heap.size e 1 y q zs→(W2.setCell ⟨G,c,none⟩ v).ownsRow w0.heap.size e 1 y q zs:=fun {e y q zs} hne hy=>own_kp hy fun k cs _ hc' he=>hset.block k (lt_of_block hc') (hcG hcur2 hne hy k he)
 have hbx:Cl W2 b #[.slice (some ⟨G,0,none⟩) up.length cap,vv] 25:=(hg.block b hp.box.lt fun e=>by
  obtain ⟨_,_,cur',q3⟩:=own_blk hox e.symm
  have h8:=(show W1.heap[b]?=_ from hp.box).symm.trans q3
  injection h8 with h7
  injection h7 with _ h6
  exact absurd h6 (by decide)).trans hp.box
 have hbG:b≠G:=fun e=>by
  have h8:=hbx
  unfold Cl at h8
  rw [e] at h8
  have h9:=h8.symm.trans hcur2
  injection h9 with h7
  injection h7 with _ h6
  exact absurd h6 (by decide)
 refine ⟨hbx.kp hset hbG,⟨xs.set c v,⟨by rw [List.length_set];exact own_set hT2 hc v,fun i hi => ?_,fun i j y z hij hy hz k hk => ?_⟩⟩,⟨ys,kpG (by decide) (own_kp y1 fun k cs _ hc' he=>hg.block k (lt_of_block hc') fun e => ?_),y2⟩,?_⟩
 ·rw [List.length_set] at hi
  by_cases e:i=c
  ·subst e
   exact ⟨v,by rw [List.getElem?_set_self (by omega)],by rw [List.getElem_set_self];exact kpG (by decide) ho⟩
  ·obtain ⟨y,hy,hyo⟩:=hrow2 i hi e
   exact ⟨y,by rw [List.getElem?_set_ne (fun h=>e h.symm)];exact hy,by rw [List.getElem_set_ne (fun h=>e h.symm)];exact kpG (by decide) hyo⟩
 ·have hold:∀ {i:Nat} {y:Value},i≠c→(xs.set c v)[i]?=some y→xs[i]?=some y:=fun {i y} hne hy=>by rwa [List.getElem?_set_ne (fun h=>hne h.symm)] at hy
  have hnew:∀ {y:Value},(xs.set c v)[c]?=some y→y=v:=fun {y} hy=>by
   rw [List.getElem?_set_self (by omega)] at hy
   exact (Option.some.inj hy).symm
  have hfr:∀ {i:Nat} {y:Value},i≠c→xs[i]?=some y→∀ k,v.ownBlock=some k→y.ownBlock≠some k:=fun {i y} hne hy k hk e=>by
   rcases hn with h3 | h3
   ·exact h1.dis c i x' y (fun e=>hne e.symm) hx hy k (h3.symm.trans hk) e
   ·have hi:i<up.length:=by
     have:=(List.getElem?_eq_some_iff.1 hy).1;omega
    obtain ⟨y',hy',hyo⟩:=k1.row i hi
    obtain rfl:y'=y:=Option.some.inj (hy'.symm.trans hy)
    have:=(own_blk hyo e).2.1
    rw [h3] at hk
    have:=Option.some.inj hk
    omega
  by_cases e1:i=c
  ·subst e1
   rw [hnew hy] at hk
   exact hfr (fun e=>hij e.symm) (hold (fun e=>hij e.symm) hz) k hk
  ·by_cases e2:j=c
   ·subst e2
    rw [hnew hz]
    intro h3
    exact hfr e1 (hold e1 hy) k h3 hk
   ·exact h1.dis i j y z hij (hold e1 hy) (hold e2 hz) k hk
 ·obtain ⟨_,_,cur',q3⟩:=own_blk hox e.symm
  have h8:=hc'.symm.trans q3
  injection h8 with h7
  injection h7 with _ h6
  exact absurd h6 (by decide)
 ·have hk2:Kp (fun k=>k=b) w0 W2:=kp_grow hp.kp hox (Nat.le_refl _) hg
  exact ⟨hset.os.trans hk2.os,hset.tape.trans hk2.tape,hset.output.trans hk2.output,Nat.le_trans hk2.size hset.size,fun k hk hne=>(hset.block k (Nat.lt_of_lt_of_le hk hk2.size) (by omega)).trans (hk2.block k hk hne)⟩
end
section
variable {W0 W W':World} {G c B:Nat} {x v:Value} {l:List Int}
def SJ (pa ps:Nat) (W0:World) (G c B:Nat) (x:Value) (l:List Int) (done:Nat→Bool) (W:World):Prop :=
 (done pa=false→Below W0.heap.size W0 W)∧(done ps=false→∀ k,k<W0.heap.size→x.ownBlock≠some k→W.heap[k]?=W0.heap[k]?)∧(done ps=true→FinR W0 G c B x l W)
def LJ (pa ps G:Nat) (i:Nat) (W W':World):Prop:=(i≠pa→i≠ps→W'=W)∧(i=ps→Kp (fun k=>k=G) W W'∧W'.heap.size=W.heap.size)
def GwJ (W0:World) (G B:Nat) (x:Value) (l:List Int) (v:Value) (W:World):Prop :=
 ∃ W1 W2,Below W0.heap.size W0 W1∧W1.grownBy W2 x.ownBlock∧OwnZ B W2 v l∧(v.ownBlock=x.ownBlock∨v.ownBlock=some W1.heap.size)∧Kp (fun k=>k=G) W2 W∧W.heap.size=W2.heap.size
theorem gwJ_le {pa ps i:Nat} (ha:i≠pa) (hl:LJ pa ps G i W W') (h:GwJ W0 G B x l v W):GwJ W0 G B x l v W':=by
 obtain ⟨W1,W2,h1,h2,h3,h4,h5,h6⟩:=h
 by_cases es:i=ps
 ·obtain ⟨k1,k2⟩:=hl.2 es
  exact ⟨W1,W2,h1,h2,h3,h4,h5.trans k1 fun _ e=>Or.inl e,k2.trans h6⟩
 ·rw [hl.1 ha es];exact ⟨W1,W2,h1,h2,h3,h4,h5,h6⟩
theorem LJ.same {pa ps i:Nat} (hs:i≠ps):LJ pa ps G i W W:=⟨fun _ _=>rfl,fun e=>absurd e hs⟩
theorem gwJ_fin (h:GwJ W0 G B x l v W) (hG:G<W0.heap.size) (hx:x.ownBlock≠some G) (hk:∀ k,k<W0.heap.size→x.ownBlock≠some k→W.heap[k]?=W0.heap[k]?):FinR W0 G c B x l (W.setCell ⟨G,c,none⟩ v):=by
 obtain ⟨W1,W2,h1,h2,h3,h4,h5,h6⟩:=h
 have hsame:∀ k,k<W2.heap.size→W.heap[k]?=W2.heap[k]?:=fun k hl=>by
  by_cases e:k=G
  ·subst e
   rw [hk k hG hx,h2.block k (Nat.lt_of_lt_of_le hG h1.size) (fun e=>hx e.symm),h1.block k hG]
  ·exact h5.block k hl e
 exact ⟨v,W1,W,h1,⟨h5.os.trans h2.os,h5.tape.trans h2.tape,h5.output.trans h2.output,Nat.le_trans h2.size h5.size,fun k hl hne=>(hsame k (Nat.lt_of_lt_of_le hl h2.size)).trans (h2.block k hl hne)⟩,own_kp h3 fun k cs _ hc _=>hsame k (lt_of_block hc),h4,rfl⟩
end
end Go.Proofs.Ytoedidbbjnnpnaa.Wm
/-
  Models glued: what is put together (plain but for the list of models in memory).
-/
namespace Go.Proofs.Ytoedidbbjnnpnaa.Wm
open Go.RowKit Go.Maps
open Wd (Md Rc Ed upd vl allW inW)
set_option linter.unusedSimpArgs false
set_option linter.unusedVariables false
def IsL (w:World) (L:Nat) (v:Value) (ml:List Md):Prop:=∃ p c,v=.slice p ml.length c∧(0<ml.length→∃ b o,b<L∧p=some ⟨b,o,none⟩∧∀ (k:Nat) (hk:k<ml.length),∃ x y,w.cell? ⟨b,o+k * 2,none⟩=some x∧w.cell? ⟨b,o+k * 2+1,none⟩=some y∧IsM w L x y ml[k])
def md0:Md:=⟨[],[]⟩
def gM (ml:List Md) (k:Nat):Md:=ml.getD k md0
def gN (ml:List Md):Nat→Nat
 | 0=>1
 | k+1=>gN ml k+(gM ml k).up.length
def gRow (ml:List Md) (k:Nat):List (List Int):=(gM ml k).up.map fun r=>r.map fun u:Int=>(gN ml k:Int)+u
def gRows (ml:List Md):Nat→List (List Int)
 | 0=>[]
 | k+1=>gRows ml k ++ gRow ml k
def gVals (ml:List Md):Nat→List (List ByteArray)
 | 0=>[]
 | k+1=>gVals ml k ++ (gM ml k).val
def gRow0 (ml:List Md) (rs:Nat→Nat) (k:Nat):List Int:=(List.range k).map fun i=>((gN ml i+rs i:Nat):Int)
def gUp (ml:List Md) (rs:Nat→Nat) (k j:Nat):List (List Int):=gRow0 ml rs k :: (gRows ml k ++ (gRow ml k).take j)
def gVal (ml:List Md) (atoms:List ByteArray) (k j:Nat):List (List ByteArray):=atoms :: (gVals ml k ++ ((gM ml k).val).take j)
section
variable {ml:List Md} {rs:Nat→Nat} {atoms:List ByteArray}
theorem gM_at {k:Nat} (hk:k<ml.length):gM ml k=ml[k]:=by
 unfold gM
 rw [List.getD_eq_getElem?_getD,List.getElem?_eq_getElem hk];rfl
theorem gRow_len (k:Nat):(gRow ml k).length=(gM ml k).up.length:=by unfold gRow;rw [List.length_map]
theorem gRows_len:∀ k,(gRows ml k).length+1=gN ml k
 | 0=>rfl
 | k+1=>by
  have ih:=gRows_len k
  show (gRows ml k ++ gRow ml k).length+1=gN ml k+(gM ml k).up.length
  rw [List.length_append,gRow_len];omega
theorem gUp_len {k j:Nat} (hj:j≤(gM ml k).up.length):(gUp ml rs k j).length=gN ml k+j:=by
 have h:=gRows_len (ml:=ml) k
 unfold gUp
 rw [List.length_cons,List.length_append,List.length_take,gRow_len];omega
theorem gVals_len (hv:∀ k,k<ml.length→(gM ml k).val.length=(gM ml k).up.length):∀ k,k≤ml.length→(gVals ml k).length+1=gN ml k
 | 0,_=>rfl
 | k+1,hk=>by
  have ih:=gVals_len hv k (by omega)
  show (gVals ml k ++ (gM ml k).val).length+1=gN ml k+(gM ml k).up.length
  rw [List.length_append,hv k (by omega)];omega
theorem gVal_len (hv:∀ k,k<ml.length→(gM ml k).val.length=(gM ml k).up.length) {k j:Nat} (hk:k<ml.length) (hj:j≤(gM ml k).up.length):(gVal ml atoms k j).length=gN ml k+j:=by
 have h:=gVals_len hv k (by omega)
 have h2:=hv k hk
 unfold gVal
 rw [List.length_cons,List.length_append,List.length_take];omega
theorem gUp_step {k j:Nat} (hj:j<(gM ml k).up.length):gUp ml rs k (j+1)=gUp ml rs k j ++ [((gM ml k).up.getD j []).map fun u:Int=>(gN ml k:Int)+u]:=by
 unfold gUp
 have hj':j<(gRow ml k).length:=by rw [gRow_len];exact hj
 rw [List.take_succ_eq_append_getElem hj',← List.append_assoc,List.cons_append]
 have e:∀ h:j<(gRow ml k).length,(gRow ml k)[j]'h=((gM ml k).up.getD j []).map fun u:Int=>(gN ml k:Int)+u:=by
  unfold gRow
  intro h
  rw [List.getElem_map,List.getD_eq_getElem?_getD,List.getElem?_eq_getElem hj];rfl
 rw [e]
theorem gVal_step {k j:Nat} (hj:j<(gM ml k).val.length):gVal ml atoms k (j+1)=gVal ml atoms k j ++ [vl (gM ml k) j]:=by
 unfold gVal
 rw [List.take_succ_eq_append_getElem hj,← List.append_assoc,List.cons_append]
 congr 2
 rw [vl_at hj]
theorem gUp_next (k:Nat):gUp ml rs (k+1) 0=(gUp ml rs k (gM ml k).up.length).set 0 (gRow0 ml rs k ++ [((gN ml k+rs k:Nat):Int)]):=by
 unfold gUp
 rw [List.set_cons_zero,List.take_zero,List.append_nil]
 have e:(gRow ml k).take (gM ml k).up.length=gRow ml k:=by rw [← gRow_len,List.take_length]
 rw [e]
 congr 1
 unfold gRow0
 rw [List.range_succ,List.map_append];rfl
theorem gVal_next (k:Nat) (hv:(gM ml k).val.length=(gM ml k).up.length):gVal ml atoms (k+1) 0=gVal ml atoms k (gM ml k).up.length:=by
 unfold gVal
 rw [List.take_zero,List.append_nil,← hv,List.take_length];rfl
theorem gN_le (h:∀ k,k<ml.length→(gM ml k).up.length≤512):∀ k,k≤ml.length→gN ml k≤1+k * 512
 | 0,_=>by simp [gN]
 | k+1,hk=>by
  have ih:=gN_le h k (by omega)
  have h1:=h k (by omega)
  show gN ml k+(gM ml k).up.length≤_
  rw [Nat.succ_mul];omega
end
section
variable {ml:List Md} {rs:Nat→Nat} {atoms:List ByteArray}
theorem mem_gRows:∀ {k:Nat} {r:List Int},r ∈ gRows ml k→∃ i r0,i<k∧r0 ∈ (gM ml i).up∧r=r0.map fun u:Int=>(gN ml i:Int)+u
 | k+1,r,h=>by
  rcases List.mem_append.1 h with h | h
  ·obtain ⟨i,r0,h1,h2⟩:=mem_gRows h
   exact ⟨i,r0,by omega,h2⟩
  ·obtain ⟨r0,h1,rfl⟩:=List.mem_map.1 h
   exact ⟨k,r0,by omega,h1,rfl⟩
theorem mem_gVals:∀ {k:Nat} {r:List ByteArray},r ∈ gVals ml k→∃ i,i<k∧r ∈ (gM ml i).val
 | k+1,r,h=>by
  rcases List.mem_append.1 h with h | h
  ·obtain ⟨i,h1,h2⟩:=mem_gVals h
   exact ⟨i,by omega,h2⟩
  ·exact ⟨k,by omega,h⟩
theorem gN_mono:∀ {i k:Nat},i≤k→gN ml i≤gN ml k
 | i,0,h=>by rw [Nat.le_zero.1 h];exact Nat.le_refl _
 | i,k+1,h=>by
  by_cases e:i=k+1
  ·rw [e];exact Nat.le_refl _
  ·exact Nat.le_trans (gN_mono (i:=i) (k:=k) (by omega)) (Nat.le_add_right _ _)
theorem gFit (hml:∀ m ∈ ml,Fit m) (hg:∀ m ∈ ml,Wd.Good m) (hfl:(1+ml.length * 512) * 24≤140737488355328) (hr:∀ k,k<ml.length→rs k<(gM ml k).up.length) (ha:atoms.length≤140737488351232) (hs:∀ s ∈ atoms,s.size≤140737488351232):Fit ⟨gUp ml rs ml.length 0,gVal ml atoms ml.length 0⟩:=by
 have hmem:∀ k,k<ml.length→gM ml k ∈ ml:=fun k hk=>by rw [gM_at hk];exact List.getElem_mem hk
 have h512:∀ k,k<ml.length→(gM ml k).up.length≤512:=fun k hk=>(Wd.shaped_and (hg _ (hmem k hk)).shape).2.1
 have hvl:∀ k,k<ml.length→(gM ml k).val.length=(gM ml k).up.length:=fun k hk=>(Wd.shaped_and (hg _ (hmem k hk)).shape).2.2.1
 have hN:=gN_le h512
 have hul:(gUp ml rs ml.length 0).length=gN ml ml.length:=gUp_len (Nat.zero_le _)
 have hvl2:(gVal ml atoms ml.length 0).length=gN ml ml.length:=by
  unfold gVal
  rw [List.length_cons,List.take_zero,List.append_nil]
  exact gVals_len hvl ml.length (Nat.le_refl _)
 have hNn:=hN ml.length (Nat.le_refl _)
 refine ⟨?_,?_,fun r hr' => ?_,fun r hr' => ?_⟩
 ·show (gUp ml rs ml.length 0).length≤_
  rw [hul];omega
 ·show (gVal ml atoms ml.length 0).length≤_
  rw [hvl2];omega
 ·have hr':r ∈ gRow0 ml rs ml.length :: (gRows ml ml.length ++ (gRow ml ml.length).take 0):=hr'
  rw [List.take_zero,List.append_nil] at hr'
  rcases List.mem_cons.1 hr' with rfl | h
  ·refine ⟨by simp [gRow0];omega,fun x hx => ?_⟩
   obtain ⟨i,hi,rfl⟩:=List.mem_map.1 hx
   have hi:=List.mem_range.1 hi
   have h1:=gN_mono (ml:=ml) (Nat.le_of_lt hi)
   have h2:=hr i hi
   have h3:=h512 i hi
   omega
  ·obtain ⟨i,r0,h1,h2,rfl⟩:=mem_gRows h
   obtain ⟨_,_,f3,_⟩:=hml _ (hmem i h1)
   refine ⟨by rw [List.length_map];exact (f3 r0 h2).1,fun x hx => ?_⟩
   obtain ⟨u,hu,rfl⟩:=List.mem_map.1 hx
   have h4:=(Wd.shaped_and (hg _ (hmem i h1)).shape).2.2.2.1 r0 h2
   have h5:inW (gM ml i).up.length u=true:=List.all_eq_true.1 h4 u hu
   unfold inW at h5
   simp only [Bool.and_eq_true,decide_eq_true_eq] at h5
   have h6:=gN_mono (ml:=ml) (Nat.le_of_lt h1)
   have h7:=h512 i h1
   omega
 ·have hr':r ∈ atoms :: (gVals ml ml.length ++ ((gM ml ml.length).val).take 0):=hr'
  rw [List.take_zero,List.append_nil] at hr'
  rcases List.mem_cons.1 hr' with rfl | h
  ·exact ⟨ha,hs⟩
  ·obtain ⟨i,h1,h2⟩:=mem_gVals h
   exact (hml _ (hmem i h1)).2.2.2 r h2
end
theorem IsL.later {w W:World} {L:Nat} {v:Value} {ml:List Md} (h:IsL w L v ml) (hb:Below L w W):IsL W L v ml:=by
 obtain ⟨p,c,e,h1⟩:=h
 refine ⟨p,c,e,fun h0 => ?_⟩
 obtain ⟨b,o,hbL,e2,h2⟩:=h1 h0
 refine ⟨b,o,hbL,e2,fun k hk => ?_⟩
 obtain ⟨x,y,c1,c2,hm⟩:=h2 k hk
 exact ⟨x,y,(World.cell?_of_block (a:=⟨b,o+k * 2,none⟩) (hb.block b hbL)).trans c1,(World.cell?_of_block (a:=⟨b,o+k * 2+1,none⟩) (hb.block b hbL)).trans c2,hm.below hb⟩
theorem ldM {w:World} {b o:Nat} {x y:Value} (h0:w.cell? ⟨b,o,none⟩=some x) (h1:w.cell? ⟨b,o+1,none⟩=some y):(Instr.loadAt 25 (.pointer (some ⟨b,o,none⟩))).run Try.prog w=.ok (.agg #[x,y]) w:=by
 refine run_loadAt_mid (P:=Try.prog) w b o 25 [x,y] _ (fun i u hu => ?_) Try.underlying25 rfl (by kernel_rfl)
 match i,hu with
 | 0,hu=>cases hu;exact h0
 | 1,hu=>cases hu;exact h1
def GluR (w':World) (B:Nat) (ml:List Md) (atoms:List ByteArray) (u' v' lv:Value) (er:Int):Prop :=
 ((∃ m ∈ ml,¬ Wd.Good m)∧er=170∧u'=.slice none 0 0∧v'=.slice none 0 0∧lv=.slice none 0 0) ∨
 ((∀ m ∈ ml,Wd.Good m)∧(∃ m ∈ ml,∃ M r,IsO m.up M∧RootR M m r false)∧er=190∧u'=.slice none 0 0∧v'=.slice none 0 0∧lv=.slice none 0 0) ∨
 ((∀ m ∈ ml,Wd.Good m)∧∃ rs:Nat→Nat,(∀ k,k<ml.length→∃ M,IsO (gM ml k).up M∧RootR M (gM ml k) (rs k:Int) true) ∧
   ((¬ Wd.Good ⟨gUp ml rs ml.length 0,gVal ml atoms ml.length 0⟩∧er=190∧u'=.slice none 0 0∧v'=.slice none 0 0∧lv=.slice none 0 0) ∨
    (Wd.Good ⟨gUp ml rs ml.length 0,gVal ml atoms ml.length 0⟩∧er=0∧∃ M',IsO (gUp ml rs ml.length 0) M'∧OwnI B w' lv ((List.range ml.length).map (gN ml))∧RowsZ B w' u' (tdU M' (gUp ml rs ml.length 0).length (gUp ml rs ml.length 0).length)∧RowsN B w' v' (gVal ml atoms ml.length 0))))
end Go.Proofs.Ytoedidbbjnnpnaa.Wm
