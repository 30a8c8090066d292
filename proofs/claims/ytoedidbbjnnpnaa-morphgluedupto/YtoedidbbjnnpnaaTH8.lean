/-
  shaped: of any model. No condition.
-/
import Derived.Test.YtoedidbbjnnpnaaQWRow
import Derived.Test.YtoedidbbjnnpnaaQWFun
namespace Go.Proofs.Ytoedidbbjnnpnaa.Wm
open Go.RowKit Go.Maps
open Wd (Md inW allW names past Sub lt)
set_option linter.unusedSimpArgs false
theorem sizeM:(Try.prog.info? 25).map (·.size)=some 2:=by kernel_rfl
theorem IsU.row {w:World} {L:Nat} {v:Value} {u:List (List Int)} (h:IsU w L v u):∃ p c,v=.slice p u.length c∧∀ (j:Nat) (hj:j<u.length),∃ b o q n,p=some ⟨b,o,none⟩∧b<L∧w.cell? ⟨b,o+j,none⟩=some (.slice q u[j].length n)∧IsI w L (.slice q u[j].length n) u[j]:=by
 obtain ⟨p,c,hv,h⟩:=h
 refine ⟨p,c,hv,fun j hj => ?_⟩
 obtain ⟨b,o,hb,hp,h⟩:=h (by omega)
 obtain ⟨x,hx,hi⟩:=h j hj
 obtain ⟨q,n,rfl⟩:=IsS.form hi
 exact ⟨b,o,q,n,hp,hb,hx,hi⟩
theorem IsV.row {w:World} {L:Nat} {v:Value} {u:List (List ByteArray)} (h:IsV w L v u):∃ p c,v=.slice p u.length c∧∀ (j:Nat) (hj:j<u.length),∃ b o q n,p=some ⟨b,o,none⟩∧b<L∧w.cell? ⟨b,o+j,none⟩=some (.slice q u[j].length n)∧IsN w L (.slice q u[j].length n) u[j]:=by
 obtain ⟨p,c,hv,h⟩:=h
 refine ⟨p,c,hv,fun j hj => ?_⟩
 obtain ⟨b,o,hb,hp,h⟩:=h (by omega)
 obtain ⟨x,hx,hi⟩:=h j hj
 obtain ⟨q,n,rfl⟩:=IsS.form hi
 exact ⟨b,o,q,n,hp,hb,hx,hi⟩
theorem shaped_few {m:Md} (h:m.up.length<1∨512<m.up.length∨m.val.length≠m.up.length):Wd.shaped m=false:=by
 unfold Wd.shaped
 rcases h with h | h | h
 ·rw [decide_eq_false (show ¬ 1≤m.up.length by omega)];rfl
 ·rw [decide_eq_false (show ¬ m.up.length≤512 by omega)];simp
 ·rw [decide_eq_false (p:=m.val.length=m.up.length) h];simp
theorem shaped_row {m:Md} {k:Nat} (hk:k<m.up.length) (hv:k<m.val.length) (h:allW m.up.length m.up[k]=false∨names none m.val[k]=false):Wd.shaped m=false:=by
 unfold Wd.shaped
 rcases h with h | h
 ·rw [show m.up.all (allW m.up.length)=false from List.all_eq_false.2 ⟨_,List.getElem_mem hk,by rw [h];simp⟩];simp
 ·rw [show m.val.all (names none)=false from List.all_eq_false.2 ⟨_,List.getElem_mem hv,by rw [h];simp⟩];simp
theorem shaped_all {m:Md} (h1:1≤m.up.length) (h2:m.up.length≤512) (h3:m.val.length=m.up.length) (h:∀ (k:Nat) (hk:k<m.up.length),allW m.up.length m.up[k]=true∧names none (m.val.getD k [])=true):Wd.shaped m=true:=by
 unfold Wd.shaped
 rw [decide_eq_true h1,decide_eq_true h2,decide_eq_true h3,show m.up.all (allW m.up.length)=true from List.all_eq_true.2 fun r hr=>by
  obtain ⟨k,hk,rfl⟩:=List.mem_iff_getElem.1 hr
  exact (h k hk).1,show m.val.all (names none)=true from List.all_eq_true.2 fun r hr=>by
  obtain ⟨k,hk,rfl⟩:=List.mem_iff_getElem.1 hr
  have:=(h k (by omega)).2
  rwa [List.getD_eq_getElem?_getD,List.getElem?_eq_getElem hk] at this]
 rfl
set_option maxRecDepth 100000 in
set_option maxHeartbeats 4000000 in
theorem shaped_any (w:World) {L:Nat} {uv vv:Value} {m:Md} (hm:IsM w L uv vv m) (hf:Fit m) (hL:L≤w.heap.size) :
 Calls Try.prog 76 #[.agg #[uv,vv]] w fun e w'=>e=.returned (.bool (Wd.shaped m))∧Below w.heap.size w w':=by
 obtain ⟨pu,cu,rfl,hu⟩:=hm.up.row
 obtain ⟨pv,cv,rfl,hv⟩:=hm.val.row
 have HU:=show Hid (∀ (j:Nat) (hj:j<m.up.length),∃ b o q n,pu=some ⟨b,o,none⟩∧b<L∧w.cell? ⟨b,o+j,none⟩=some (.slice q m.up[j].length n)∧IsI w L (.slice q m.up[j].length n) m.up[j]) from hu
 have HV:=show Hid (∀ (j:Nat) (hj:j<m.val.length),∃ b o q n,pv=some ⟨b,o,none⟩∧b<L∧w.cell? ⟨b,o+j,none⟩=some (.slice q m.val[j].length n)∧IsN w L (.slice q m.val[j].length n) m.val[j]) from hv
 have HFU:=show Hid (∀ (j:Nat) (hj:j<m.up.length),m.up[j].length≤140737488351232∧∀ i ∈ m.up[j],-9223372036854775808≤i∧i≤9223372036854775807) from fun j hj=>hf.2.2.1 _ (List.getElem_mem hj)
 have HFV:=show Hid (∀ (j:Nat) (hj:j<m.val.length),m.val[j].length≤140737488351232∧∀ i ∈ m.val[j],i.size≤140737488351232) from fun j hj=>hf.2.2.2 _ (List.getElem_mem hj)
 have hn1:=hf.1
 have hn2:=hf.2.1
 have HA:=show Hid (1≤m.up.length→m.up.length≤512→m.val.length=m.up.length→(∀ (k:Nat) (hk:k<m.up.length),allW m.up.length m.up[k]=true∧names none (m.val.getD k [])=true)→Wd.shaped m=true) from shaped_all
 have HF:=show Hid ((m.up.length<1∨512<m.up.length∨m.val.length≠m.up.length)→Wd.shaped m=false) from shaped_few
 have HR:=show Hid (∀ (k:Nat) (hk:k<m.up.length) (hv:k<m.val.length),(allW m.up.length m.up[k]=false∨names none m.val[k]=false)→Wd.shaped m=false) from fun k hk hv h=>shaped_row hk hv h
 generalize Wd.shaped m=ans at *
 clear hm hf hu hv
 obtain ⟨up,val⟩:=m
 simp only at *
 go_enter Try.func76,Try.ntmps76
 go_wp2_with (refine wpList_box 25 _ rfl _ rfl rfl ?_)
 intro w1 b1 hN
 have hc0:w1.cell? ⟨b1,0,none⟩=some (.slice pu up.length cu):=Cl.cell (T:=25) hN.blk 0
 have hc1:w1.cell? ⟨b1,1,none⟩=some (.slice pv val.length cv):=Cl.cell (T:=25) hN.blk 1
 have HB:=show Hid (Below w.heap.size w w1∧Cl w1 b1 #[.slice pu up.length cu,.slice pv val.length cv] 25) from ⟨hN.bel,hN.blk⟩
 clear hN
 by_cases h1:up.length<1
 ·have h1i:decide ((up.length:Int)<1)=true:=by simp;omega
  have HE:=show Hid (ans=false) from HF.out (Or.inl h1)
  go_wp2_with fail
  go_ret
  exact ⟨ret_bool HE.out.symm,HB.out.1⟩
 have h1i:decide ((up.length:Int)<1)=false:=by simp;omega
 by_cases h2:512<up.length
 ·have h2i:decide (512<(up.length:Int))=true:=by simp;omega
  have HE:=show Hid (ans=false) from HF.out (Or.inr (Or.inl h2))
  go_wp2_with fail
  go_ret
  exact ⟨ret_bool HE.out.symm,HB.out.1⟩
 have h2i:decide (512<(up.length:Int))=false:=by simp;omega
 by_cases h3:val.length=up.length
 ·have h3i:((val.length:Int) != (up.length:Int))=false:=by simp [h3]
  have HA2:=show Hid _ from HA.out (by omega) (by omega) h3
  have HLV:=show Hid (val.length=up.length) from h3
  clear HF HA h3
  go_wp2_with fail
  go_loopw [4,22] (fun _ i wr=>∃ k:Nat,k≤up.length∧i=.int .i64 (k:Int)∧Hid (Below w1.heap.size w1 wr∧∀ (j:Nat) (hj:j<up.length),j<k→allW up.length up[j]=true∧names none (val.getD j [])=true)) (fun _ i _=>up.length - (intOf i).toNat)
  case atStart=>exact ⟨0,Nat.zero_le _,rfl,Below.refl _ _,fun j _ h=>absurd h (Nat.not_lt_zero _)⟩
  case round =>
   obtain ⟨k,hk,rfl,HI⟩:=hrel
   by_cases hlt:k<up.length
   ·have hltv:k<val.length:=by have:=HLV.out;omega
    obtain ⟨bu,ou,qu,nu,rfl,hbu,hcu,hiu⟩:=HU.out k hlt
    obtain ⟨bv,ov,qv,nv,rfl,hbv,hcv,hiv⟩:=HV.out k hltv
    have HBW:=show Hid (Below w.heap.size w wr) from HB.out.1.trans (HI.out.1.mono HB.out.1.size)
    have hbl:∀ k,k<L→wr.heap[k]?=w.heap[k]?:=fun k hk=>HBW.out.block k (by omega)
    have hu1:wr.cell? ⟨bu,ou+k,none⟩=some (.slice qu up[k].length nu):=(HBW.out.cell (p:=⟨bu,ou+k,none⟩) (by show bu<_;omega)).trans hcu
    have hr0:wr.cell? ⟨b1,0,none⟩=some (.slice (some ⟨bu,ou,none⟩) up.length cu):=(HI.out.1.cell (p:=⟨b1,0,none⟩) HB.out.2.lt).trans hc0
    have hr1:wr.cell? ⟨b1,1,none⟩=some (.slice (some ⟨bv,ov,none⟩) val.length cv):=(HI.out.1.cell (p:=⟨b1,1,none⟩) HB.out.2.lt).trans hc1
    have KA:=show Hid _ from areWorlds_any wr (n:=up.length) (IsI.keep hiu hbl) (Nat.le_trans hL HBW.out.size) (HFU.out k hlt).1 (HFU.out k hlt).2 hn1
    have KN:=show Hid (∀ W,Below wr.heap.size wr W→Calls Try.prog 91 #[.slice qv val[k].length nv] W fun e w'=>e=.returned (.bool (names none val[k]))∧w'=W) from fun W hW=>areNames_any W (IsN.keep hiv fun k hk=>(hW.block k (by have:=HBW.out.size;omega)).trans (hbl k hk)) (HFV.out k hltv).1 (HFV.out k hltv).2
    have HCV:=show Hid (∀ W,Below wr.heap.size wr W→W.cell? ⟨b1,1,none⟩=some (.slice (some ⟨bv,ov,none⟩) val.length cv)∧W.cell? ⟨bv,ov+k,none⟩=some (.slice qv val[k].length nv)) from fun W hW=>⟨(hW.cell (p:=⟨b1,1,none⟩) (World.block_lt_of_cell? wr _ hr1)).trans hr1,by
     have h9:wr.cell? ⟨bv,ov+k,none⟩=some (.slice qv val[k].length nv):=(HBW.out.cell (p:=⟨bv,ov+k,none⟩) (by show bv<_;omega)).trans hcv
     exact (hW.cell (p:=⟨bv,ov+k,none⟩) (World.block_lt_of_cell? wr _ h9)).trans h9⟩
    have HRK:=show Hid _ from HR.out k hlt hltv
    have HS:=show Hid (allW up.length up[k]=true→names none val[k]=true→∀ (j:Nat) (hj:j<up.length),j<k+1→allW up.length up[j]=true∧names none (val.getD j [])=true) from fun h1 h2 j hj hjk=>by
     by_cases e:j=k
     ·subst e
      refine ⟨h1,?_⟩
      rw [List.getD_eq_getElem?_getD,List.getElem?_eq_getElem hltv]
      exact h2
     ·exact HI.out.2 j hj (by omega)
    have hki:(k:Int)<(up.length:Int):=by omega
    have hkv:(k:Int)<(val.length:Int):=by omega
    clear hiu hiv hcu hcv HR HU HV HFU HFV HA2 hbl hc0 hc1
    generalize allW up.length up[k]=y at *
    generalize names none val[k]=z at *
    go_wp2_with fail
    refine Calls.mono KA.out ?_
    rintro e w2 ⟨rfl,hb2⟩
    have HB2:=show Hid (Below w1.heap.size w1 w2∧Below w.heap.size w w2) from ⟨HI.out.1.trans (hb2.mono HI.out.1.size),HBW.out.trans (hb2.mono HBW.out.size)⟩
    have hv1:=(HCV.out w2 hb2).1
    have hv2:=(HCV.out w2 hb2).2
    have KN2:=show Hid _ from KN.out w2 hb2
    clear hb2 KN HCV KA HI HBW
    cases y
    ·have HE:=show Hid (ans=false) from HRK.out (Or.inl (by first | rfl | trivial))
     clear HS
     go_wp2_with fail
     go_ret
     exact ⟨ret_bool HE.out.symm,HB2.out.2⟩
    ·go_wp2_with fail
     refine Calls.mono KN2.out ?_
     rintro e w3 ⟨rfl,rfl⟩
     cases z
     ·have HE:=show Hid (ans=false) from HRK.out (Or.inr (by first | rfl | trivial))
      clear HS
      go_wp2_with fail
      go_ret
      exact ⟨ret_bool HE.out.symm,HB2.out.2⟩
     ·have HS2:=show Hid _ from HS.out (by first | rfl | trivial) (by first | rfl | trivial)
      clear HS HRK
      go_wp2_with fail
      go_roundw
      case rel=>exact ⟨k+1,by omega,val_int (by omega),HB2.out.1,HS2.out⟩
      case measure=>(simp only [intOf];omega)
   ·have HE:=show Hid (ans=true) from HA2.out fun j hj=>HI.out.2 j hj (by omega)
    go_wp2_with fail
    go_ret
    exact ⟨ret_bool HE.out.symm,HB.out.1.trans (HI.out.1.mono HB.out.1.size)⟩
 ·have h3i:((val.length:Int) != (up.length:Int))=true:=by simp;omega
  have HE:=show Hid (ans=false) from HF.out (Or.inr (Or.inr h3))
  go_wp2_with fail
  go_ret
  exact ⟨ret_bool HE.out.symm,HB.out.1⟩
end Go.Proofs.Ytoedidbbjnnpnaa.Wm
/-
  Rows of ints of the own. No condition.
-/
namespace Go.Proofs.Ytoedidbbjnnpnaa.Wm
open Go.RowKit Go.Maps
open Wd (Md)
set_option linter.unusedSimpArgs false
def OwnZ (base:Nat) (w:World) (v:Value) (l:List Int):Prop:=w.ownsRow base 3 1 v l.length (l.map (Value.int .i64))
theorem OwnZ.later {base:Nat} {w w':World} {v:Value} {l:List Int} (h:OwnZ base w v l) (hb:Below w.heap.size w w'):OwnZ base w' v l:=own_later h hb
theorem OwnZ.slice {base:Nat} {w:World} {v:Value} {l:List Int} (h:OwnZ base w v l):∃ p c,v=.slice p l.length c:=own_form h
theorem OwnZ.grow {B:Nat} {w1 w2:World} {v v':Value} {l:List Int} {k:Int} {o:Obj} (h:OwnZ B w1 v l) (ho:w2.ownsRow B 3 1 v' (l.length+1) (l.map (Value.int .i64) ++ [.int .i64 k])) (hg:(w1.alloc o).grownBy w2 v.ownBlock) (hB:B≤w1.heap.size):OwnZ B w2 v' (l ++ [k])∧Below B w1 w2:=by
 have hb1:=below_alloc w1 o
 have hb2:Below B (w1.alloc o) w2:=(Below.refl _ _).grown hg (Nat.le_trans hB hb1.size) (fun q hq=>(World.ownsRow.lt h q hq).1)
 refine ⟨?_,(hb1.mono hB).trans hb2⟩
 unfold OwnZ
 rw [List.length_append,List.length_singleton,List.map_append]
 exact ho
end Go.Proofs.Ytoedidbbjnnpnaa.Wm
/-
  Rows of rows of the own. No condition.
-/
namespace Go.Proofs.Ytoedidbbjnnpnaa.Wm
open Go.RowKit Go.Maps
open Wd (Md)
set_option linter.unusedSimpArgs false
def OwnN (base:Nat) (w:World) (v:Value) (l:List ByteArray):Prop:=w.ownsRow base 9 1 v l.length (l.map Value.string)
theorem own_kp {base n size:Nat} {e:TypeId} {w w':World} {v:Value} {xs:List Value} (h:w.ownsRow base e size v n xs) (hb:∀ k cs,base≤k→w.heap[k]?=some (.cells cs e (0,0))→v.ownBlock=some k→w'.heap[k]?=w.heap[k]?):w'.ownsRow base e size v n xs:=by
 refine ⟨h.1,?_⟩
 rcases h.2 with h2 | ⟨g,cap,cur,rfl,hg,hh,r⟩
 ·exact Or.inl h2
 ·exact Or.inr ⟨g,cap,cur,rfl,hg,(hb g cur hg hh rfl).trans hh,r⟩
theorem own_blk {base n size:Nat} {e:TypeId} {w:World} {v:Value} {xs:List Value} (h:w.ownsRow base e size v n xs) {k:Nat} (hk:v.ownBlock=some k):base≤k∧k<w.heap.size∧∃ cur,w.heap[k]?=some (.cells cur e (0,0)):=by
 rcases h.2 with ⟨rfl,_⟩ | ⟨g,cap,cur,rfl,hg,hh,_⟩
 ·cases hk
 ·obtain rfl:g=k:=Option.some.inj hk
  exact ⟨hg,lt_of_block hh,cur,hh⟩
def RowsZ (B:Nat) (w:World) (v:Value) (ls:List (List Int)):Prop:=∃ xs:List Value,w.ownsRow B 27 1 v ls.length xs∧∀ (i:Nat) (hi:i<ls.length),∃ x,xs[i]?=some x∧OwnZ B w x ls[i]
def RowsN (B:Nat) (w:World) (v:Value) (ls:List (List ByteArray)):Prop:=∃ xs:List Value,w.ownsRow B 34 1 v ls.length xs∧∀ (i:Nat) (hi:i<ls.length),∃ x,xs[i]?=some x∧OwnN B w x ls[i]
def St (B:Nat) (T T':TypeId) (w w':World):Prop:=∀ (k:Nat) (cs:Array Value) (t:TypeId),B≤k→t=T∨t=T'→w.heap[k]?=some (.cells cs t (0,0))→w'.heap[k]?=w.heap[k]?
theorem RowsZ.keep {B:Nat} {w w':World} {v:Value} {ls:List (List Int)} (h:RowsZ B w v ls) (hs:St B 27 3 w w'):RowsZ B w' v ls:=by
 obtain ⟨xs,h1,h2⟩:=h
 refine ⟨xs,own_kp h1 fun k cs hk hc _=>hs k cs _ hk (Or.inl rfl) hc,fun i hi => ?_⟩
 obtain ⟨x,hx,ho⟩:=h2 i hi
 exact ⟨x,hx,own_kp ho fun k cs hk hc _=>hs k cs _ hk (Or.inr rfl) hc⟩
theorem RowsN.keep {B:Nat} {w w':World} {v:Value} {ls:List (List ByteArray)} (h:RowsN B w v ls) (hs:St B 34 9 w w'):RowsN B w' v ls:=by
 obtain ⟨xs,h1,h2⟩:=h
 refine ⟨xs,own_kp h1 fun k cs hk hc _=>hs k cs _ hk (Or.inl rfl) hc,fun i hi => ?_⟩
 obtain ⟨x,hx,ho⟩:=h2 i hi
 exact ⟨x,hx,own_kp ho fun k cs hk hc _=>hs k cs _ hk (Or.inr rfl) hc⟩
theorem St.of_below {B:Nat} {T T':TypeId} {w w':World} (h:Below w.heap.size w w'):St B T T' w w':=fun k _ _ _ _ hc=>h.block k (lt_of_block hc)
theorem St.of_kp {B c:Nat} {T T':TypeId} {w w':World} (h:Kp (fun k=>k=c) w w') (hc:c<B):St B T T' w w':=fun k _ _ hk _ hb=>h.block k (lt_of_block hb) (by omega)
theorem RowsZ.snoc {B:Nat} {w w':World} {v v' x:Value} {ls:List (List Int)} {l:List Int} {xs:List Value} (h1:w.ownsRow B 27 1 v ls.length xs) (h2:∀ (i:Nat) (hi:i<ls.length),∃ x,xs[i]?=some x∧OwnZ B w x ls[i]) (hx:OwnZ B w x l) (ho:w'.ownsRow B 27 1 v' (ls.length+1) (xs ++ [x])) (hg:w.grownBy w' v.ownBlock):RowsZ B w' v' (ls ++ [l]):=by
 have hlen:xs.length=ls.length:=by have:=h1.1;omega
 have ne:∀ {y:Value} {m:List Int},OwnZ B w y m→OwnZ B w' y m:=fun hy=>own_kp hy fun k cs _ hc _=>hg.block k (lt_of_block hc) (fun e=>by
  obtain ⟨_,_,cur,h9⟩:=own_blk h1 e.symm
  have h8:=h9.symm.trans hc
  injection h8 with h7
  injection h7 with _ h6
  exact absurd h6 (by decide))
 refine ⟨xs ++ [x],by rw [List.length_append,List.length_singleton];exact ho,fun i hi => ?_⟩
 by_cases e:i<ls.length
 ·obtain ⟨y,hy,hyo⟩:=h2 i e
  exact ⟨y,by rw [List.getElem?_append_left (by omega)];exact hy,by rw [List.getElem_append_left e];exact ne hyo⟩
 ·have e2:i=ls.length:=by simp at hi;omega
  subst e2
  exact ⟨x,by rw [List.getElem?_append_right (by omega),hlen];simp,by simpa using ne hx⟩
theorem RowsN.snoc {B:Nat} {w w':World} {v v' x:Value} {ls:List (List ByteArray)} {l:List ByteArray} {xs:List Value} (h1:w.ownsRow B 34 1 v ls.length xs) (h2:∀ (i:Nat) (hi:i<ls.length),∃ x,xs[i]?=some x∧OwnN B w x ls[i]) (hx:OwnN B w x l) (ho:w'.ownsRow B 34 1 v' (ls.length+1) (xs ++ [x])) (hg:w.grownBy w' v.ownBlock):RowsN B w' v' (ls ++ [l]):=by
 have hlen:xs.length=ls.length:=by have:=h1.1;omega
 have ne:∀ {y:Value} {m:List ByteArray},OwnN B w y m→OwnN B w' y m:=fun hy=>own_kp hy fun k cs _ hc _=>hg.block k (lt_of_block hc) (fun e=>by
  obtain ⟨_,_,cur,h9⟩:=own_blk h1 e.symm
  have h8:=h9.symm.trans hc
  injection h8 with h7
  injection h7 with _ h6
  exact absurd h6 (by decide))
 refine ⟨xs ++ [x],by rw [List.length_append,List.length_singleton];exact ho,fun i hi => ?_⟩
 by_cases e:i<ls.length
 ·obtain ⟨y,hy,hyo⟩:=h2 i e
  exact ⟨y,by rw [List.getElem?_append_left (by omega)];exact hy,by rw [List.getElem_append_left e];exact ne hyo⟩
 ·have e2:i=ls.length:=by simp at hi;omega
  subst e2
  exact ⟨x,by rw [List.getElem?_append_right (by omega),hlen];simp,by simpa using ne hx⟩
theorem St.of_grow {B:Nat} {T T' T0:TypeId} {w w':World} {v:Value} {n:Nat} {xs:List Value} (h1:w.ownsRow B T0 1 v n xs) (hg:w.grownBy w' v.ownBlock) (h:T0≠T) (h':T0≠T'):St B T T' w w':=fun k cs t _ ht hb=>hg.block k (lt_of_block hb) (fun e=>by
 obtain ⟨_,_,cur,h9⟩:=own_blk h1 e.symm
 have h8:=h9.symm.trans hb
 injection h8 with h7
 injection h7 with _ h6
 rcases ht with rfl | rfl
 ·exact h h6
 ·exact h' h6)
theorem grow_old {B k:Nat} {T0:TypeId} {w w':World} {v:Value} {n:Nat} {xs:List Value} (h1:w.ownsRow B T0 1 v n xs) (hg:w.grownBy w' v.ownBlock) (hk:k<B) (hs:B≤w.heap.size):w'.heap[k]?=w.heap[k]?:=hg.block k (by omega) (fun e=>by have:=(own_blk h1 e.symm).1;omega)
theorem infoLI:(Try.prog.info? 27).map (fun i=>(i.zero,i.size,i.bytes))=some (some (.slice none 0 0),1,24):=by kernel_rfl
theorem infoLS:(Try.prog.info? 34).map (fun i=>(i.zero,i.size,i.bytes))=some (some (.slice none 0 0),1,24):=by kernel_rfl
theorem OwnN.isN {base:Nat} {w:World} {v:Value} {l:List ByteArray} (h:OwnN base w v l):IsN w w.heap.size v l:=by
 rcases h.2 with ⟨rfl,h0⟩ | ⟨g,cap,cur,rfl,hg,hh,h1,h2,h3,h4⟩
 ·obtain rfl:l=[]:=List.eq_nil_of_length_eq_zero h0
  exact ⟨_,_,rfl,fun h=>absurd h (by simp)⟩
 ·refine ⟨_,_,rfl,fun h0=>⟨g,0,lt_of_block hh,rfl,fun k hk => ?_⟩⟩
  have hc:=h.cellAt k (by omega)
  rw [Nat.zero_add]
  exact ⟨.string l[k],hc.trans (by simp [hk]),rfl⟩
end Go.Proofs.Ytoedidbbjnnpnaa.Wm
