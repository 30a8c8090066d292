/-
  A tree under way: its rows, and beside them the ways' ends and a row that grows. No condition.
-/
import Derived.Test.YtoedidbbjnnpnaaTH21
namespace Go.Proofs.Ytoedidbbjnnpnaa.Wm
open Go.RowKit Go.Maps
open Wd (Md Rc Ed upd vl allW)
set_option linter.unusedSimpArgs false
set_option linter.unusedVariables false
section
variable {B n m:Nat} {e T:TypeId} {v r:Value} {xs ys:List Value} {W W':World}
theorem own_other {rb:Option Nat} (h:W.ownsRow B e 1 v n xs) (hg:W.grownBy W' rb) (hne:∀ k,v.ownBlock=some k→rb≠some k):W'.ownsRow B e 1 v n xs :=
 own_kp h fun k cs _ hc he=>hg.block k (lt_of_block hc) fun e=>hne k he e.symm
theorem own_type (h:W.ownsRow B e 1 v n xs) (h1:W.ownsRow B T 1 r m ys) (hg:W.grownBy W' r.ownBlock) (ht:e≠T):W'.ownsRow B e 1 v n xs :=
 own_kp h fun k cs _ hc _=>hg.block k (lt_of_block hc) fun e=>by
  obtain ⟨_,_,cur,h9⟩:=own_blk h1 e.symm
  have h8:=h9.symm.trans hc
  injection h8 with h7
  injection h7 with _ h6
  exact ht h6.symm
end
structure UK (w0 W:World) (b:Nat) (uv vv ev rv:Value) (up:List (List Int)) (val:List (List ByteArray)) (ends row:List Nat):Prop where
 box:Cl W b #[uv,vv] 25
 up:∃ xs,W.ownsRow w0.heap.size 27 1 uv up.length xs∧∀ (i:Nat) (hi:i<up.length),∃ x,xs[i]?=some x∧OwnZ w0.heap.size W x up[i]∧∀ k,x.ownBlock=some k→ev.ownBlock≠some k∧rv.ownBlock≠some k
 val:RowsN w0.heap.size W vv val
 ends:OwnI w0.heap.size W ev ends
 row:OwnI w0.heap.size W rv row
 dis:∀ k,ev.ownBlock=some k→rv.ownBlock≠some k
 kp:Kp (fun k=>k=b) w0 W
section
variable {w0 W W':World} {b:Nat} {uv vv ev rv:Value} {up:List (List Int)} {val:List (List ByteArray)} {ends row:List Nat}
theorem UK.later (h:UK w0 W b uv vv ev rv up val ends row) (hb:Below W.heap.size W W'):UK w0 W' b uv vv ev rv up val ends row:=by
 obtain ⟨xs,h1,h2⟩:=h.up
 exact ⟨h.box.later hb,⟨xs,own_later h1 hb,fun i hi=>by obtain ⟨x,a1,a2,a3⟩:=h2 i hi;exact ⟨x,a1,own_later a2 hb,a3⟩⟩,h.val.keep (St.of_below hb),own_later h.ends hb,own_later h.row hb,h.dis,h.kp.trans (Kp.of_below (S:=fun k=>k=b) hb) fun _ e=>Or.inl e⟩
theorem UK.rows (h:UK w0 W b uv vv ev rv up val ends row):RowsZ w0.heap.size W uv up:=by
 obtain ⟨xs,h1,h2⟩:=h.up
 exact ⟨xs,h1,fun i hi=>by obtain ⟨x,a1,a2,_⟩:=h2 i hi;exact ⟨x,a1,a2⟩⟩
theorem box_int {v:Value} {n:Nat} {xs:List Value} {B:Nat} {e:TypeId} (hc:Cl W b #[uv,vv] 25) (h1:W.ownsRow B e 1 v n xs) (he:e≠25) (hg:W.grownBy W' v.ownBlock):Cl W' b #[uv,vv] 25:=(hg.block b hc.lt fun e2=>by
 obtain ⟨_,_,cur,h9⟩:=own_blk h1 e2.symm
 have h8:=(show W.heap[b]?=_ from hc).symm.trans h9
 injection h8 with h7
 injection h7 with _ h6
 exact he h6.symm).trans hc
theorem intsV_snoc (l:List Nat) (x:Nat):intsV (l ++ [x])=intsV l ++ [.int .i64 (x:Int)]:=by simp [intsV]
theorem UK.growRow {x:Nat} {o:Obj} {v':Value} (h:UK w0 W b uv vv ev rv up val ends row) (ho:W'.ownsRow w0.heap.size 3 1 v' (row.length+1) (intsV row ++ [.int .i64 (x:Int)])) (hg:(W.alloc o).grownBy W' rv.ownBlock) (hn:v'.ownBlock=rv.ownBlock∨v'.ownBlock=some (W.alloc o).heap.size):UK w0 W' b uv vv ev v' up val ends (row ++ [x]):=by
 have h0:=h.later (below_alloc W o)
 obtain ⟨xs,h1,h2⟩:=h0.up
 have hfr:∀ {y:Value} {q:Nat} {zs:List Value} {k:Nat},(W.alloc o).ownsRow w0.heap.size 3 1 y q zs→y.ownBlock=some k→rv.ownBlock≠some k→v'.ownBlock≠some k:=fun {y q zs k} hy hk hne e=>by
  rcases hn with h3 | h3
  ·exact hne (h3.symm.trans e)
  ·have h4:=(own_blk hy hk).2.1
   rw [h3] at e
   have h5:=Option.some.inj e
   omega
 refine ⟨box_int h0.box h0.row (by decide) hg,⟨xs,own_type h1 h0.row hg (by decide),fun i hi => ?_⟩,h0.val.keep (St.of_grow h0.row hg (by decide) (by decide)),own_other h0.ends hg h0.dis,?_,fun k hk=>hfr h0.ends hk (h0.dis k hk),kp_grow h0.kp h0.row (Nat.le_refl _) hg⟩
 ·obtain ⟨y,a1,a2,a3⟩:=h2 i hi
  exact ⟨y,a1,own_other a2 hg fun k hk=>(a3 k hk).2,fun k hk=>⟨(a3 k hk).1,hfr a2 hk (a3 k hk).2⟩⟩
 ·unfold OwnI
  rw [List.length_append,List.length_singleton,intsV_snoc]
  exact ho
theorem UK.growEnds {x:Nat} {o:Obj} {v':Value} (h:UK w0 W b uv vv ev rv up val ends row) (ho:W'.ownsRow w0.heap.size 3 1 v' (ends.length+1) (intsV ends ++ [.int .i64 (x:Int)])) (hg:(W.alloc o).grownBy W' ev.ownBlock) (hn:v'.ownBlock=ev.ownBlock∨v'.ownBlock=some (W.alloc o).heap.size):UK w0 W' b uv vv v' rv up val (ends ++ [x]) row:=by
 have h0:=h.later (below_alloc W o)
 obtain ⟨xs,h1,h2⟩:=h0.up
 have hfr:∀ {y:Value} {q:Nat} {zs:List Value} {k:Nat},(W.alloc o).ownsRow w0.heap.size 3 1 y q zs→y.ownBlock=some k→ev.ownBlock≠some k→v'.ownBlock≠some k:=fun {y q zs k} hy hk hne e=>by
  rcases hn with h3 | h3
  ·exact hne (h3.symm.trans e)
  ·have h4:=(own_blk hy hk).2.1
   rw [h3] at e
   have h5:=Option.some.inj e
   omega
 refine ⟨box_int h0.box h0.ends (by decide) hg,⟨xs,own_type h1 h0.ends hg (by decide),fun i hi => ?_⟩,h0.val.keep (St.of_grow h0.ends hg (by decide) (by decide)),?_,own_other h0.row hg fun k hk e=>h0.dis k e hk,fun k hk e => ?_,kp_grow h0.kp h0.ends (Nat.le_refl _) hg⟩
 ·obtain ⟨y,a1,a2,a3⟩:=h2 i hi
  exact ⟨y,a1,own_other a2 hg fun k hk=>(a3 k hk).1,fun k hk=>⟨hfr a2 hk (a3 k hk).1,(a3 k hk).2⟩⟩
 ·unfold OwnI
  rw [List.length_append,List.length_singleton,intsV_snoc]
  exact ho
 ·exact hfr h0.row e (fun e2=>h0.dis k e2 e) hk
theorem UK.push {W0:World} {xs:List Value} (h:UK w0 W0 b uv vv ev rv up val ends row) (hb:b<w0.heap.size) (h1:W0.ownsRow w0.heap.size 27 1 uv up.length xs) (h2:∀ (i:Nat) (hi:i<up.length),∃ x,xs[i]?=some x∧OwnZ w0.heap.size W0 x up[i]∧∀ k,x.ownBlock=some k→ev.ownBlock≠some k∧rv.ownBlock≠some k)
 (hf:FinG W0 b 0 w0.heap.size up.length 27 uv xs (fun x _=>x=rv) W):∃ u',UK w0 W b u' vv ev (.slice none 0 0) (up ++ [row.map fun n:Nat=>(n:Int)]) val ends []:=by
 obtain ⟨x,v,W1,W2,hb1,rfl,hg,ho,rfl⟩:=hf
 have hp:=h.later hb1
 have k1:=own_later h1 hb1
 have hlen:xs.length=up.length:=by have:=h1.1;omega
 have hbox:=box_int hp.box k1 (by decide) hg
 have hset:Kp (fun k=>k=b) W2 (W2.setCell ⟨b,0,none⟩ v):=(Kp.refl (fun k=>k=b) W2).set (p:=b) rfl 0 v
 have kpb:∀ {e:TypeId} {y:Value} {q:Nat} {zs:List Value},W2.ownsRow w0.heap.size e 1 y q zs→(W2.setCell ⟨b,0,none⟩ v).ownsRow w0.heap.size e 1 y q zs:=fun hy=>own_kp hy fun k cs hk hc _=>hset.block k (lt_of_block hc) (by omega)
 have kpi:∀ {y:Value} {q:Nat} {zs:List Value},W1.ownsRow w0.heap.size 3 1 y q zs→(W2.setCell ⟨b,0,none⟩ v).ownsRow w0.heap.size 3 1 y q zs:=fun hy=>kpb (own_type hy k1 hg (by decide))
 refine ⟨v,heap_setCell_same W2 b 0 _ _ _ hbox,⟨xs ++ [x],by rw [List.length_append,List.length_singleton];exact kpb ho,fun i hi => ?_⟩,(hp.val.keep (St.of_grow k1 hg (by decide) (by decide))).keep (St.of_kp hset hb),kpi hp.ends,World.ownsRow_nil _ _ _ _,fun k _=>by simp [Value.ownBlock],(kp_grow hp.kp k1 (Nat.le_refl _) hg).trans hset fun _ e=>Or.inl e⟩
 by_cases e:i<up.length
 ·obtain ⟨y,a1,a2,a3⟩:=h2 i e
  exact ⟨y,by rw [List.getElem?_append_left (by omega)];exact a1,by rw [List.getElem_append_left e];exact kpi (own_later a2 hb1),fun k hk=>⟨(a3 k hk).1,by simp [Value.ownBlock]⟩⟩
 ·have e2:i=up.length:=by simp at hi;omega
  subst e2
  refine ⟨x,by rw [List.getElem?_append_right (by omega),hlen];simp,?_,fun k hk=>⟨fun e=>h.dis k e hk,by simp [Value.ownBlock]⟩⟩
  have e3:(up ++ [row.map fun n:Nat=>(n:Int)])[up.length]'(by simp)=row.map fun n:Nat=>(n:Int):=by simp
  rw [e3]
  exact ownZ_of (kpi hp.row)
theorem UK.valN {W0:World} {xs:List Value} {nm:List ByteArray} (h:UK w0 W0 b uv vv ev rv up val ends row) (hb:b<w0.heap.size) (h1:W0.ownsRow w0.heap.size 34 1 vv val.length xs) (h2:∀ (i:Nat) (hi:i<val.length),∃ x,xs[i]?=some x∧OwnN w0.heap.size W0 x val[i])
 (hf:FinG W0 b 1 w0.heap.size val.length 34 vv xs (fun x W=>OwnN W0.heap.size W x nm) W):∃ v',UK w0 W b uv v' ev rv up (val ++ [nm]) ends row:=by
 obtain ⟨x,v,W1,W2,hb1,hx,hg,ho,rfl⟩:=hf
 have hp:=h.later hb1
 have k1:=own_later h1 hb1
 obtain ⟨zs,z1,z2⟩:=hp.up
 have hbox:=box_int hp.box k1 (by decide) hg
 have hset:Kp (fun k=>k=b) W2 (W2.setCell ⟨b,1,none⟩ v):=(Kp.refl (fun k=>k=b) W2).set (p:=b) rfl 1 v
 have kpb:∀ {e:TypeId} {y:Value} {q:Nat} {zs:List Value},W2.ownsRow w0.heap.size e 1 y q zs→(W2.setCell ⟨b,1,none⟩ v).ownsRow w0.heap.size e 1 y q zs:=fun hy=>own_kp hy fun k cs hk hc _=>hset.block k (lt_of_block hc) (by omega)
 have kpi:∀ {e:TypeId} {y:Value} {q:Nat} {zs:List Value},e≠34→W1.ownsRow w0.heap.size e 1 y q zs→(W2.setCell ⟨b,1,none⟩ v).ownsRow w0.heap.size e 1 y q zs:=fun he hy=>kpb (own_type hy k1 hg he)
 have hrow:=RowsN.snoc k1 (fun i hi=>by obtain ⟨x,e,o⟩:=h2 i hi;exact ⟨x,e,own_later o hb1⟩) (own_base hx h.kp.size) ho hg
 exact ⟨v,heap_setCell_same W2 b 1 _ _ _ hbox,⟨zs,kpi (by decide) z1,fun i hi=>by obtain ⟨y,a1,a2,a3⟩:=z2 i hi;exact ⟨y,a1,kpi (by decide) a2,a3⟩⟩,hrow.keep (St.of_kp hset hb),kpi (by decide) hp.ends,kpi (by decide) hp.row,hp.dis,(kp_grow hp.kp k1 (Nat.le_refl _) hg).trans hset fun _ e=>Or.inl e⟩
end
def uEnds (t:List (List Int)) (x:Nat):Nat→List Nat
 | 0=>[x]
 | k+1=>uEnds t x k ++ (t.getD ((uEnds t x k).getD k 0) []).map Int.toNat
def uUp (t:List (List Int)) (x:Nat):Nat→List (List Int)
 | 0=>[]
 | k+1=>uUp t x k ++ [(List.range (t.getD ((uEnds t x k).getD k 0) []).length).map fun j=>(((uEnds t x k).length+j:Nat):Int)]
theorem uUp_len (t:List (List Int)) (x:Nat):∀ k,(uUp t x k).length=k
 | 0=>rfl
 | k+1=>by show (uUp t x k ++ [_]).length=_;rw [List.length_append,uUp_len t x k];rfl
theorem uEnds_lt {t:List (List Int)} {x n:Nat} (hx:x<n) (ht:∀ a b,b ∈ t.getD a []→0≤b∧b<(n:Int)):∀ k,∀ v ∈ uEnds t x k,v<n
 | 0,v,hv=>by simp [uEnds] at hv;omega
 | k+1,v,hv=>by
  rcases List.mem_append.1 hv with h | h
  ·exact uEnds_lt hx ht k v h
  ·obtain ⟨b,hb,rfl⟩:=List.mem_map.1 h
   have:=ht _ b hb
   omega
def UnrR (w':World) (B:Nat) (m:Md) (M:Nat→Nat→Bool) (a:Int) (u' v' lv:Value) (er:Int):Prop :=
 (¬ Wd.Good m∧er=170∧u'=.slice none 0 0∧v'=.slice none 0 0∧lv=.slice none 0 0) ∨
 (Wd.Good m∧Wd.inW m.up.length a=false∧er=2∧u'=.slice none 0 0∧v'=.slice none 0 0∧lv=.slice none 0 0) ∨
 (Wd.Good m∧Wd.inW m.up.length a=true∧∃ k t,t=tdU M m.up.length m.up.length∧(∀ j,j<k→j<(uEnds t a.toNat j).length)∧(uEnds t a.toNat k).length≤512 ∧
  ((k<(uEnds t a.toNat k).length∧512<(uEnds t a.toNat (k+1)).length∧er=190∧u'=.slice none 0 0∧v'=.slice none 0 0∧lv=.slice none 0 0) ∨
   (k=(uEnds t a.toNat k).length∧er=0∧OwnI B w' lv (uEnds t a.toNat k)∧RowsZ B w' u' (uUp t a.toNat k)∧RowsN B w' v' ((uEnds t a.toNat k).map (vl m)))))
end Go.Proofs.Ytoedidbbjnnpnaa.Wm
/-
  A model under way whose box lies behind its tables. No condition.
-/
namespace Go.Proofs.Ytoedidbbjnnpnaa.Wm
open Go.RowKit Go.Maps
open Wd (Md Rc Ed upd vl allW)
set_option linter.unusedSimpArgs false
set_option linter.unusedVariables false
theorem own_set_box {W:World} {b j B n:Nat} {e:TypeId} {cs:Array Value} {x v:Value} {xs:List Value} (h:Cl W b cs 25) (he:e≠25) (ho:W.ownsRow B e 1 v n xs):(W.setCell ⟨b,j,none⟩ x).ownsRow B e 1 v n xs :=
 own_kp ho fun k cs' _ hc _=>Below.heap_setCell W ⟨b,j,none⟩ x k fun (e2:k=b)=>by
  subst e2
  have h8:=(show W.heap[k]?=_ from h).symm.trans hc
  injection h8 with h7
  injection h7 with _ h6
  exact he h6.symm
section
variable {w0 W W':World} {L b B:Nat} {uv vv v:Value} {up ls:List (List Int)} {val:List (List ByteArray)} {xs:List Value}
theorem TD.set_box {j:Nat} {cs:Array Value} {x:Value} (h:TD B W v ls xs) (hb:Cl W b cs 25):TD B (W.setCell ⟨b,j,none⟩ x) v ls xs :=
 ⟨own_set_box hb (by decide) h.own,fun i hi=>by obtain ⟨y,hy,ho⟩:=h.row i hi;exact ⟨y,hy,own_set_box hb (by decide) ho⟩,h.dis⟩
theorem PQ.valS2 {W0:World} {row:List ByteArray} {xr:Value} (h:PQ w0 W0 L b uv vv up val) (h1:W0.ownsRow w0.heap.size 34 1 vv val.length xs) (h2:∀ (i:Nat) (hi:i<val.length),∃ x,xs[i]?=some x∧IsN w0 L x val[i]) (hr:IsN w0 L xr row)
 (hf:FinG W0 b 1 w0.heap.size val.length 34 vv xs (fun x _=>x=xr) W):∃ v',PQ w0 W L b uv v' up (val ++ [row]):=by
 obtain ⟨zs,z1⟩:=h.up
 obtain ⟨x,v,W1,W2,hb1,rfl,hg,ho,rfl⟩:=hf
 have hp:=h.later hb1
 have k1:=own_later h1 hb1
 have hlen:xs.length=val.length:=by have:=h1.1;omega
 have hbox:=box_int hp.box k1 (by decide) hg
 have hset:Kp (fun k=>k=b) W2 (W2.setCell ⟨b,1,none⟩ v):=(Kp.refl (fun k=>k=b) W2).set (p:=b) rfl 1 v
 refine ⟨v,heap_setCell_same W2 b 1 _ _ _ hbox,⟨zs,((z1.keep (St.of_below hb1)).keep (St.of_grow k1 hg (by decide) (by decide))).set_box hbox⟩,⟨xs ++ [x],?_,fun i hi => ?_⟩,(kp_grow hp.kp k1 (Nat.le_refl _) hg).trans hset fun _ e=>Or.inl e⟩
 ·rw [List.length_append,List.length_singleton]
  exact own_set_box hbox (by decide) ho
 ·by_cases e:i<val.length
  ·obtain ⟨y,hy,hyo⟩:=h2 i e
   exact ⟨y,by rw [List.getElem?_append_left (by omega)];exact hy,by rw [List.getElem_append_left e];exact hyo⟩
  ·have e2:i=val.length:=by simp at hi;omega
   subst e2
   exact ⟨x,by rw [List.getElem?_append_right (by omega),hlen];simp,by simpa using hr⟩
theorem PQ.upS2 {W0:World} {row:List Int} (h:PQ w0 W0 L b uv vv up val) (h1:TD w0.heap.size W0 uv up xs)
 (hf:FinG W0 b 0 w0.heap.size up.length 27 uv xs (fun x W=>OwnZ W0.heap.size W x row) W):∃ u',PQ w0 W L b u' vv (up ++ [row]) val:=by
 obtain ⟨x,v,W1,W2,hb1,hx,hg,ho,rfl⟩:=hf
 have hp:=h.later hb1
 have k1:=h1.keep (St.of_below (B:=w0.heap.size) (T:=27) (T':=3) hb1)
 have hlen:xs.length=up.length:=by have:=h1.own.1;omega
 obtain ⟨ys,y1,y2⟩:=hp.val
 have hbox:=box_int hp.box k1.own (by decide) hg
 have hset:Kp (fun k=>k=b) W2 (W2.setCell ⟨b,0,none⟩ v):=(Kp.refl (fun k=>k=b) W2).set (p:=b) rfl 0 v
 have hfr:∀ {i:Nat} {y:Value},xs[i]?=some y→∀ k,y.ownBlock=some k→k<W0.heap.size:=fun {i y} hy k hk=>by
  have hi:i<up.length:=by have:=(List.getElem?_eq_some_iff.1 hy).1;omega
  obtain ⟨y',hy',hyo⟩:=h1.row i hi
  obtain rfl:y'=y:=Option.some.inj (hy'.symm.trans hy)
  exact (own_blk hyo hk).2.1
 have hxf:∀ k,x.ownBlock=some k→W0.heap.size≤k:=fun k hk=>(own_blk hx hk).1
 have hsnoc:∀ {i:Nat} {y:Value},(xs ++ [x])[i]?=some y→(i<xs.length∧xs[i]?=some y)∨(i=xs.length∧y=x):=fun {i y} hy=>by
  rcases Nat.lt_or_ge i xs.length with hi | hi
  ·rw [List.getElem?_append_left hi] at hy;exact Or.inl ⟨hi,hy⟩
  ·rw [List.getElem?_append_right hi] at hy
   rcases e:i - xs.length with _ | q
   ·rw [e] at hy;exact Or.inr ⟨by omega,by simpa using hy.symm⟩
   ·rw [e] at hy;simp at hy
 have htd:TD w0.heap.size W2 v (up ++ [row]) (xs ++ [x]):=by
  refine ⟨by rw [List.length_append,List.length_singleton];exact ho,fun i hi => ?_,fun i j y z hij hy hz k hk => ?_⟩
  ·by_cases e:i<up.length
   ·obtain ⟨y,hy,hyo⟩:=k1.row i e
    exact ⟨y,by rw [List.getElem?_append_left (by omega)];exact hy,by rw [List.getElem_append_left e];exact own_type hyo k1.own hg (by decide)⟩
   ·have e2:i=up.length:=by simp at hi;omega
    subst e2
    refine ⟨x,by rw [List.getElem?_append_right (by omega),hlen];simp,?_⟩
    rw [show (up ++ [row])[up.length]'(by simp)=row from by simp]
    exact own_type (own_base hx h.kp.size) k1.own hg (by decide)
  ·rcases hsnoc hy with ⟨hi,hy9⟩ | ⟨hi,hy9⟩ <;> rcases hsnoc hz with ⟨hj,hz9⟩ | ⟨hj,hz9⟩
   ·exact h1.dis i j y z hij hy9 hz9 k hk
   ·intro e
    rw [hz9] at e
    have:=hfr hy9 k hk
    have:=hxf k e
    omega
   ·intro e
    rw [hy9] at hk
    have:=hfr hz9 k e
    have:=hxf k hk
    omega
   ·omega
 exact ⟨v,heap_setCell_same W2 b 0 _ _ _ hbox,⟨_,htd.set_box hbox⟩,⟨ys,own_set_box hbox (by decide) (own_type y1 k1.own hg (by decide)),y2⟩,(kp_grow hp.kp k1.own (Nat.le_refl _) hg).trans hset fun _ e=>Or.inl e⟩
theorem PQ.isM2 (h:PQ w0 W L b uv vv up val) (hL:L≤b) (hw:L≤w0.heap.size):IsM W W.heap.size uv vv ⟨up,val⟩:=by
 refine ⟨h.pt.up.isU,?_⟩
 obtain ⟨xs,h1,h2⟩:=h.val
 have hsz:=h.kp.size
 have hk:∀ k,k<L→W.heap[k]?=w0.heap[k]?:=fun k hk=>h.kp.block k (by omega) (by omega)
 rcases h1.2 with ⟨rfl,h0⟩ | ⟨g,cap,cur,rfl,hg,hh,_⟩
 ·have h0:val.length=0:=h0
  obtain rfl:val=[]:=List.eq_nil_of_length_eq_zero h0
  exact ⟨_,_,rfl,fun h=>absurd h (by simp)⟩
 ·refine ⟨_,_,rfl,fun h0=>⟨g,0,lt_of_block hh,rfl,fun k hk' => ?_⟩⟩
  have hk2:k<val.length:=hk'
  have hc:=h1.cellAt k (by omega)
  obtain ⟨x,hx,ho⟩:=h2 k hk'
  rw [Nat.zero_add]
  exact ⟨x,hc.trans hx,IsS.wide (IsN.keep ho hk) (by omega)⟩
end
end Go.Proofs.Ytoedidbbjnnpnaa.Wm
