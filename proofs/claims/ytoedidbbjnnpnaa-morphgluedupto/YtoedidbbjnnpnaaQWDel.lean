/-
  slices.Clone of ints and of texts, slices.DeleteFunc of ints. No condition.
-/
import Derived.Test.YtoedidbbjnnpnaaTH13
import Derived.Test.YtoedidbbjnnpnaaShelfB
namespace Go.Proofs.Ytoedidbbjnnpnaa.Wm
open Go.RowKit Go.Maps
set_option linter.unusedSimpArgs false
theorem cloneI_any (w:World) {base:Nat} {v:Value} {l:List Int} (h:OwnZ base w v l) (hl:l.length * 8≤140737488355328) :
 Calls Try.prog 83 #[v] w fun e w'=>∃ v',e=.returned v'∧OwnZ w.heap.size w' v' l∧Below w.heap.size w w':=by
 rcases h.2 with ⟨rfl,h0⟩ | ⟨g,cap,cur,rfl,hg,hh,h1,h2,h3,h4⟩
 ·obtain rfl:l=[]:=List.eq_nil_of_length_eq_zero h0
  exact (Try.slices_Clone_int_nil 0 0 w).mono fun e w' ⟨h1,h2⟩=>⟨_,h1,World.ownsRow_nil _ _ _ _,by rw [h2];exact Below.refl _ _⟩
 ·refine (Try.slices_Clone_int g 0 l.length cap l w (Nat.le_refl _) hl fun j hj => ?_).mono fun e w' ⟨v',h1,h2,_,h3⟩=>⟨v',h1,by rw [List.take_length] at h2;exact h2,h3⟩
  have hc:=h.cellAt j (by omega)
  rw [Nat.zero_add]
  exact hc.trans (by simp [hj,List.getD])
theorem infoTx:(Try.prog.info? 9).map (fun i=>(i.zero,i.size,i.bytes))=some (some (.string ⟨#[]⟩),1,16):=by kernel_rfl
set_option maxRecDepth 100000 in
set_option maxHeartbeats 1000000 in
theorem cloneN_none (w:World) (a:Addr) (c:Nat):Calls Try.prog 41 #[.slice (some a) 0 c] w fun e w'=>∃ v',e=.returned v'∧OwnN w.heap.size w' v' []∧Below w.heap.size w w':=by
 have hq:∀ (w:World) (a:Option Addr) (n c n' c':Nat),(binOp .eql 34 (.slice a n c) (.slice none n' c')).run Try.prog w=.ok (.bool a.isNone) w:=fun w a n c n' c'=>Lib.run_eql_slice_nil w _ _ a n c n' c' Try.underlying34
 obtain ⟨i0,hi,hz0,hz1,hz2⟩:=info_parts infoTx
 go_enter Try.func41,Try.ntmps41
 go_wp2_with (at_builtin;refine wpList_append_own_at _ rfl (.tmp 5) (.tmp 6) 34 rfl w.heap.size 9 i0 _ 1 16 Try.underlying34 hi hz0 hz1 hz2 rfl (by decide) (.slice (some ⟨w.heap.size,0,none⟩) 0 0) 0 [] rfl (World.ownsRow_made w #[] 0 (Nat.le_refl _) (Nat.zero_le _) rfl) a 0 c [] rfl rfl (fun j u hu=>by simp at hu) (by simp) (by unfold maxLen;omega) (by omega) (by simp) ?_)
 intro v' w1 hown hgr hnil hat
 have HOW:=show Hid (w1.ownsRow w.heap.size 9 1 v' 0 []) from hown
 have HGR:=show Hid ((w.alloc (Obj.cells #[] 9)).grownBy w1 (some w.heap.size)) from hgr
 clear hown hgr hnil hat
 go_wp2_with fail
 go_ret
 exact ⟨_,rfl,HOW.out,(below_alloc _ _).grown HGR.out (by simp) (fun k hk=>by cases hk;exact Nat.le_refl _)⟩
theorem cloneN_any (w:World) {L:Nat} {v:Value} {l:List ByteArray} (h:IsN w L v l) (hl:l.length * 16≤140737488355328) :
 Calls Try.prog 41 #[v] w fun e w'=>∃ v',e=.returned v'∧OwnN w.heap.size w' v' l∧Below w.heap.size w w':=by
 obtain ⟨p,c,rfl,hat⟩:=h
 cases p with
 | none =>
  have h0:l=[]:=by
   rcases Nat.eq_zero_or_pos l.length with e | e
   ·exact List.eq_nil_of_length_eq_zero e
   ·obtain ⟨b,o,_,hp,_⟩:=hat e
    cases hp
  subst h0
  exact (Try.slices_Clone_string_nil 0 c w).mono fun e w' ⟨h1,h2⟩=>⟨_,h1,World.ownsRow_nil _ _ _ _,by rw [h2];exact Below.refl _ _⟩
 | some a =>
  obtain ⟨b,o,n⟩:=a
  by_cases e:0<l.length
  ·obtain ⟨b',o',_,hp,hc⟩:=hat e
   obtain ⟨rfl,rfl,rfl⟩:=Addr.mk.inj (Option.some.inj hp)
   refine (Try.slices_Clone_string b o l.length c l w (Nat.le_refl _) hl fun j hj => ?_).mono fun e w' ⟨v',h1,h2,_,h3⟩=>⟨v',h1,by rw [List.take_length] at h2;exact h2,h3⟩
   obtain ⟨x,hx,rfl⟩:=hc j hj
   exact hx.trans (by simp [hj,List.getD])
  ·obtain rfl:l=[]:=List.eq_nil_of_length_eq_zero (by omega)
   exact cloneN_none w _ _
/-! ### DeleteFunc -/
def Rn (w:World) (g c:Nat) (l:List Int):Prop :=
 ∃ cur,w.heap[g]?=some (.cells cur 3 (0,0))∧cur.size=c∧∀ j (hj:j<l.length),cur[j]?=some (.int .i64 l[j])
section
variable {w w':World} {g c:Nat} {l:List Int}
theorem Rn.lt (h:Rn w g c l):g<w.heap.size:=by obtain ⟨cur,h,_⟩:=h;exact lt_of_block h
theorem Rn.later (h:Rn w g c l) (hb:Below w.heap.size w w'):Rn w' g c l:=by
 obtain ⟨cur,h1,h2⟩:=h
 exact ⟨cur,(hb.block g (lt_of_block h1)).trans h1,h2⟩
theorem Rn.cell (h:Rn w g c l) {j:Nat} (hj:j<l.length):w.cell? ⟨g,j,none⟩=some (.int .i64 l[j]):=by
 obtain ⟨cur,h1,_,h3⟩:=h
 rw [cell_of_row w g j _ _ _ h1]
 exact h3 j hj
theorem Rn.fr (h:Rn w g c l) (j:Nat):w.frozen? ⟨g,j,none⟩=false:=by
 obtain ⟨cur,h1,_⟩:=h
 exact frozen_of_row w g j _ _ h1
theorem Rn.set (h:Rn w g c l) (i:Nat) (x:Int):Rn (w.setCell ⟨g,i,none⟩ (.int .i64 x)) g c (l.set i x):=by
 obtain ⟨cur,h1,h2,h3⟩:=h
 refine ⟨_,heap_setCell_same w g i _ _ _ h1,by simpa using h2,fun j hj => ?_⟩
 have hj2:j<l.length:=by simpa using hj
 have h4:=h3 j hj2
 by_cases e:i=j
 ·subst e
  have hi:i<cur.size:=(Array.getElem?_eq_some_iff.1 h4).1
  rw [List.getElem_set_self]
  simp [hi]
 ·rw [List.getElem_set_ne e,Array.getElem?_setIfInBounds_ne e]
  exact h4
theorem Rn.own {B:Nat} (h:Rn w g c l) (hB:B≤g) (hc:l.length≤c) (hm:c≤maxLen):OwnZ B w (.slice (some ⟨g,0,none⟩) l.length c) l:=by
 obtain ⟨cur,h1,h2,h3⟩:=h
 refine ⟨by simp,Or.inr ⟨g,c,cur,rfl,hB,h1,hc,hm,by omega,?_⟩⟩
 rw [Nat.mul_one]
 apply List.ext_getElem?
 intro j
 by_cases hj:j<l.length
 ·rw [List.getElem?_take,if_pos hj,Array.getElem?_toList,h3 j hj]
  simp [hj]
 ·rw [List.getElem?_take,if_neg hj]
  exact (List.getElem?_eq_none (by rw [List.length_map];omega)).symm
theorem Rn.of {B:Nat} {cap:Nat} (h:OwnZ B w (.slice (some ⟨g,0,none⟩) l.length cap) l):Rn w g cap l∧B≤g∧l.length≤cap∧cap≤maxLen:=by
 rcases h.2 with ⟨e,_⟩ | ⟨g',cap',cur,hv,hg,hh,h1,h2,h3,h4⟩
 ·cases e
 ·have hv2:=Value.slice.inj hv
  obtain ⟨ha,_,rfl⟩:=hv2
  obtain ⟨rfl,_,_⟩:=Addr.mk.inj (Option.some.inj ha)
  refine ⟨⟨cur,hh,by omega,fun j hj => ?_⟩,hg,h1,h2⟩
  have hc:=h.cellAt j (by omega)
  have e:=cell_of_row w g j _ _ _ hh
  rw [← e]
  exact hc.trans (by simp [hj])
theorem zeroI (w:World):(zeroValue 3).run Try.prog w=.ok (.int .i64 0) w:=by kernel_rfl
theorem zerosI_one (n:Nat):∀ u ∈ (Builtin.zeroCells #[.int .i64 0] n).toList,u.oneCell'=true:=by
 intro u hu
 unfold Builtin.zeroCells at hu
 simp at hu
 obtain ⟨a,_,rfl⟩:=hu
 rw [Nat.mod_one]
 rfl
theorem setRow_kp (w:World) (b:Nat) (c:Array Value):Kp (fun k=>k=b) w (w.setRow b c):=⟨rfl,rfl,rfl,by simp,fun k _ hk=>setRow_other w b k c hk⟩
theorem Rn.clear (h:Rn w g c l) (ty:TypeId) (i c':Nat) (hi:i≤l.length) (hc:l.length≤c):∃ w',(Builtin.clear_ #[27] ty #[.slice (some ⟨g,i,none⟩) (l.length - i) c']).run Try.prog w=.ok (.tuple #[]) w'∧Rn w' g c (l.take i)∧Kp (fun k=>k=g) w w':=by
 have htk:Rn w g c (l.take i):=by
  obtain ⟨cur,h1,h2,h3⟩:=h
  refine ⟨cur,h1,h2,fun j hj => ?_⟩
  rw [List.getElem_take]
  exact h3 j (by rw [List.length_take] at hj;omega)
 by_cases e:l.length - i=0
 ·refine ⟨w,?_,htk,Kp.refl _ w⟩
  rw [e]
  simp [Builtin.clear_,run_underlying Try.underlying27]
 ·obtain ⟨n,hn⟩:∃ n,l.length - i=n+1:=⟨l.length - i - 1,by omega⟩
  obtain ⟨cur,h1,h2,h3⟩:=h
  rw [hn]
  have hsz:(Builtin.zeroCells #[.int .i64 0] (n+1)).toList.length=n+1:=by
   rw [Array.length_toList,size_zeroCells]
   simp
  have hone:=zerosI_one (n+1)
  have hcl:∀ w':World,(storeCells ⟨g,i,none⟩ (Builtin.zeroCells #[.int .i64 0] (n+1)).toList).run Try.prog w=.ok () w'→(Builtin.clear_ #[27] ty #[.slice (some ⟨g,i,none⟩) (n+1) c']).run Try.prog w=.ok (.tuple #[]) w':=by
   intro w' h
   have hz:=zeroI w
   simp [Builtin.clear_,run_underlying Try.underlying27,hz,Value.cells,Result.andThen,h]
  generalize (Builtin.zeroCells #[.int .i64 0] (n+1)).toList=zs at *
  have hst:=run_storeCells_at Try.prog g i 3 zs 0 cur w h1 (by rw [hsz];omega) hone
  simp only [Nat.add_zero] at hst
  have hl:(cur.toList.take i).length=i:=by rw [List.length_take,Array.length_toList];omega
  refine ⟨_,hcl _ hst,⟨_,setRow_heap w g cur _ 3 _ h1,?_,fun j hj => ?_⟩,setRow_kp w g _⟩
  ·simp only [List.size_toArray,List.length_append,List.length_drop,Array.length_toList,hl,hsz]
   omega
  ·have hj2:j<i:=by rw [List.length_take] at hj;omega
   have hp:(cur.toList.take i ++ zs ++ cur.toList.drop (i+zs.length)).toArray[j]?=cur[j]?:=by
    simp only [List.getElem?_toArray,List.append_assoc]
    rw [List.getElem?_append_left (by omega),List.getElem?_take,if_pos hj2]
    simp
   rw [List.getElem_take,hp]
   exact h3 j (by omega)
end
structure Del (L M:List Int) (p:Int→Bool) (i j:Nat):Prop where
 len:M.length=L.length
 ij:i<j
 jn:j≤L.length
 pre:M.take i=(L.take j).filter p
 post:M.drop j=L.drop j
theorem filter_all {p:Int→Bool} {L:List Int} (h:∀ j (hj:j<L.length),p L[j]=true):L.filter p=L:=by
 rw [List.filter_eq_self]
 intro x hx
 obtain ⟨j,hj,rfl⟩:=List.mem_iff_getElem.1 hx
 exact h j hj
theorem filter_take_succ (p:Int→Bool) (L:List Int) (j:Nat) (hj:j<L.length):(L.take (j+1)).filter p=(L.take j).filter p ++ if p L[j] then [L[j]] else []:=by
 rw [List.take_succ_eq_append_getElem hj,List.filter_append]
 congr 1
 cases h:p L[j] <;> simp [h]
theorem del_start {L:List Int} {p:Int→Bool} {i:Nat} (hi:i<L.length) (hf:p L[i]=false) (h:∀ j (hj:j<L.length),j<i→p L[j]=true):Del L L p i (i+1):=by
 refine ⟨rfl,by omega,by omega,?_,rfl⟩
 rw [filter_take_succ p L i hi,hf]
 simp only [Bool.false_eq_true,if_false,List.append_nil]
 symm
 apply filter_all
 intro j hj
 rw [List.length_take] at hj
 rw [List.getElem_take]
 exact h j (by omega) (by omega)
section
variable {L M:List Int} {p:Int→Bool} {i j:Nat}
theorem Del.at (h:Del L M p i j) (hj:j<L.length):M[j]'(by rw [h.len];exact hj)=L[j]:=by
 have hm:j<M.length:=by rw [h.len];exact hj
 have e:=h.post
 rw [List.drop_eq_getElem_cons hm,List.drop_eq_getElem_cons hj] at e
 exact (List.cons.inj e).1
theorem Del.keep (h:Del L M p i j) (hj:j<L.length) (hp:p L[j]=true):Del L (M.set i L[j]) p (i+1) (j+1):=by
 have hm:j<M.length:=by rw [h.len];exact hj
 have hi:i<M.length:=by have:=h.ij;omega
 refine ⟨by rw [List.length_set,h.len],by have:=h.ij;omega,by omega,?_,?_⟩
 ·rw [filter_take_succ p L j hj,hp,← h.pre]
  simp only [if_true]
  rw [List.take_succ_eq_append_getElem (by rw [List.length_set];exact hi),List.getElem_set_self,List.take_set_of_le (Nat.le_refl _)]
 ·have e:=h.post
  rw [List.drop_eq_getElem_cons hm,List.drop_eq_getElem_cons hj] at e
  rw [List.drop_set_of_lt (by have:=h.ij;omega)]
  exact (List.cons.inj e).2
theorem Del.skip (h:Del L M p i j) (hj:j<L.length) (hp:p L[j]=false):Del L M p i (j+1):=by
 have hm:j<M.length:=by rw [h.len];exact hj
 refine ⟨h.len,by have:=h.ij;omega,by omega,?_,?_⟩
 ·rw [filter_take_succ p L j hj,hp,← h.pre]
  simp
 ·have e:=h.post
  rw [List.drop_eq_getElem_cons hm,List.drop_eq_getElem_cons hj] at e
  exact (List.cons.inj e).2
theorem Del.done (h:Del L M p i L.length):M.take i=L.filter p:=by rw [h.pre,List.take_length]
end
theorem rn_isI {w:World} {g c:Nat} {l:List Int} (h:Rn w g c l) (c':Nat):IsI w w.heap.size (.slice (some ⟨g,0,none⟩) l.length c') l :=
 ⟨_,_,rfl,fun _=>⟨g,0,h.lt,rfl,fun j hj=>⟨_,by rw [Nat.zero_add];exact h.cell hj,rfl⟩⟩⟩
set_option maxRecDepth 100000 in
set_option maxHeartbeats 4000000 in
theorem deleteFunc_any (w:World) {B g c:Nat} {D:Int→Prop} {fv:Value} {p:Int→Bool} {L:List Int} (hP:Prd w B D fv p) (h:Rn w g c L) (hD:∀ x ∈ L,D x) (hL:L.length≤1000) (hc:L.length≤c) (_hcm:c≤maxLen) (hBg:B≤g) (hBw:B≤w.heap.size) :
 Calls Try.prog 82 #[.slice (some ⟨g,0,none⟩) L.length c,fv] w fun e w' =>
  e=.returned (.slice (some ⟨g,0,none⟩) (L.filter fun x => !p x).length c)∧Rn w' g c (L.filter fun x => !p x)∧Below B w w':=by
 have KI:=show Hid _ from indexFunc_any w hP (rn_isI h c) hD (Nat.le_refl _) hBw (by omega)
 obtain ⟨f,cs,rfl,hcf,hcx⟩:=hP
 have HCq:=show Hid (∀ (W:World) (x:Int),Below B w W→x ∈ L→Calls Try.prog f ([Value.int .i64 x] ++ cs).toArray W fun e w'=>e=.returned (.bool (p x))∧Below W.heap.size W w') from fun W x hW hx=>hcx W x hW (hD x hx)
 have HCF:=show Hid (Cf f) from hcf
 have HR:=show Hid (Rn w g c L) from h
 have HBB:=show Hid (B≤g∧B≤w.heap.size) from ⟨hBg,hBw⟩
 clear h hcx hcf hBg hBw hD
 go_enter Try.func82,Try.ntmps82
 go_wp2_with fail
 refine Calls.mono KI.out ?_
 rintro e w1 ⟨⟨r,rfl,hcase⟩,hb1⟩
 have HB1:=show Hid (Below w.heap.size w w1) from hb1
 clear hb1 KI
 rcases hcase with ⟨rfl,hall⟩ | ⟨i,hi,rfl,hf,hall⟩
 ·have HF:=show Hid (L.filter (fun x => !p x)=L) from filter_all fun j hj=>by rw [hall _ (List.getElem_mem hj)];rfl
  clear hall HCq
  go_wp2_with fail
  go_ret
  rw [HF.out]
  exact ⟨rfl,HR.out.later HB1.out,HB1.out.mono HBB.out.2⟩
 ·have HD:=show Hid (Del L L (fun x => !p x) i (i+1)) from del_start hi (by rw [hf];rfl) fun j hj hji=>by rw [hall j hji];rfl
  have hne:((i:Int) == -1)=false:=by
   rw [beq_eq_false_iff_ne]
   omega
  have HI:=show Hid (i<L.length) from hi
  have hiI0:(i:Int)<(L.length:Int):=by omega
  clear hi hf hall
  go_wp2_with fail
  go_loopw [5,6,7] (fun ni nj _ wr=>∃ (i j:Nat) (M:List Int),ni=.int .i64 (i:Int)∧nj=.int .i64 (j:Int)∧j≤L.length∧Hid (Del L M (fun x => !p x) i j∧Rn wr g c M∧Below B w wr)) (fun _ nj _ _=>L.length - (intOf nj).toNat)
  case atStart=>exact ⟨i,i+1,L,rfl,val_int (by omega),by have:=HI.out;omega,HD.out,HR.out.later HB1.out,HB1.out.mono HBB.out.2⟩
  case round =>
   obtain ⟨i,j,M,rfl,rfl,hjn,HQ⟩:=hrel
   clear HD HR HB1 HI hne
   have HBW:=show Hid (B≤wr.heap.size) from Nat.le_trans HBB.out.2 HQ.out.2.2.size
   by_cases hlt:j<L.length
   ·have hltI:(j:Int)<(L.length:Int):=by omega
    have HJM:=show Hid (j<M.length) from by show j<M.length;rw [HQ.out.1.len];exact hlt
    have HEQ:=show Hid (M[j]'HJM.out=L[j]) from HQ.out.1.at hlt
    obtain ⟨x,hx⟩:∃ x,x=L[j]:=⟨_,rfl⟩
    have hcx:wr.cell? ⟨g,j,none⟩=some (.int .i64 x):=by rw [hx,← HEQ.out];exact HQ.out.2.1.cell HJM.out
    have HIL:=show Hid (i<L.length∧i<M.length) from by have:=HQ.out.1.ij;have:=HQ.out.1.len;exact ⟨by omega,by omega⟩
    have hiI:(i:Int)<(L.length:Int):=by have:=HIL.out.1;omega
    have KX:=show Hid _ from HCq.out wr x HQ.out.2.2 (by rw [hx];exact List.getElem_mem hlt)
    have HKP:=show Hid (p x=false→Del L (M.set i x) (fun x => !p x) (i+1) (j+1)) from fun h=>by rw [hx] at h ⊢;exact HQ.out.1.keep hlt (by rw [h];rfl)
    have HSK:=show Hid (p x=true→Del L M (fun x => !p x) i (j+1)) from fun h=>by rw [hx] at h;exact HQ.out.1.skip hlt (by rw [h];rfl)
    clear hx HEQ
    go_wp2_with (refine wpList_callV rfl f _ [.tmp 27] _ rfl [.int .i64 x] cs rfl rfl HCF.out ?_)
    refine Calls.mono KX.out ?_
    rintro e w4 ⟨rfl,hb4⟩
    refine ⟨_,rfl,?_⟩
    have H4:=show Hid (Rn w4 g c M∧Below B w w4∧B≤w4.heap.size) from ⟨HQ.out.2.1.later hb4,HQ.out.2.2.trans (hb4.mono HBW.out),Nat.le_trans HBW.out hb4.size⟩
    clear hb4 KX HQ hcx
    cases hx:p x
    ·have HD2:=show Hid _ from HKP.out hx
     have hc4:w4.cell? ⟨g,i,none⟩=some (.int .i64 (M[i]'HIL.out.2)):=H4.out.1.cell HIL.out.2
     have hf4:=H4.out.1.fr i
     clear HKP HSK
     generalize M[i]'HIL.out.2=old at hc4
     go_wp2_with fail
     go_roundw
     case rel=>exact ⟨i+1,j+1,M.set i x,val_int (by omega),val_int (by omega),by omega,HD2.out,H4.out.1.set i x,H4.out.2.1.trans (Kp.below ((Kp.refl (fun k=>k=g) w4).set (p:=g) rfl i (.int .i64 x)) H4.out.2.2 fun k e=>by have:=HBB.out.1;omega)⟩
     case measure=>(simp only [intOf];omega)
    ·have HD2:=show Hid _ from HSK.out hx
     clear HKP HSK
     go_wp2_with fail
     go_roundw
     case rel=>exact ⟨i,j+1,M,rfl,val_int (by omega),by omega,HD2.out,H4.out.1,H4.out.2.1⟩
     case measure=>(simp only [intOf];omega)
   ·obtain rfl:j=L.length:=by omega
    have HT:=show Hid (M.take i=L.filter (fun x => !p x)) from HQ.out.1.done
    have HIL:=show Hid (i≤L.length∧i≤M.length∧M.length=L.length) from ⟨by have:=HQ.out.1.ij;omega,by have:=HQ.out.1.ij;have:=HQ.out.1.len;omega,HQ.out.1.len⟩
    have hil:i≤L.length:=HIL.out.1
    have hics:i<c:=by have:=HQ.out.1.ij;omega
    have hic1:¬ c=i:=by omega
    have hic2:¬ i=c:=by omega
    have hic3:¬ c - i=0:=by omega
    have hic4:¬ (c:Int)=(i:Int):=by omega
    have hic5:¬ c≤i:=by omega
    have hic:(i:Int)≤(c:Int):=by omega
    have hlc:(L.length:Int)≤(c:Int):=by omega
    have hil2:(i:Int)≤(L.length:Int):=by omega
    obtain ⟨w2,hcl,hr2,hk2⟩:=HQ.out.2.1.clear 0 i (c - i) HIL.out.2.1 (by have:=HIL.out;omega)
    rw [HIL.out.2.2] at hcl
    have H2:=show Hid (Rn w2 g c (M.take i)∧Below B w w2) from ⟨hr2,HQ.out.2.2.trans (hk2.below HBW.out fun k e=>by have:=HBB.out.1;omega)⟩
    clear hr2 hk2 HCq
    go_wp2_with (simp only [hcl])
    go_ret
    have e:(L.filter (fun x => !p x)).length=i:=by rw [← HT.out,List.length_take];have:=HIL.out;omega
    rw [e]
    exact ⟨rfl,by rw [← HT.out];exact H2.out.1,H2.out.2⟩
set_option maxRecDepth 100000 in
set_option maxHeartbeats 1000000 in
theorem deleteFunc_nil (w:World) {B:Nat} {D:Int→Prop} {fv:Value} {p:Int→Bool} (hP:Prd w B D fv p) (hBw:B≤w.heap.size) :
 Calls Try.prog 82 #[.slice none 0 0,fv] w fun e w'=>e=.returned (.slice none 0 0)∧Below B w w':=by
 have KI:=show Hid _ from indexFunc_any w hP (isS_nil w 0 _) (fun x hx=>by cases hx) (Nat.zero_le _) hBw (Nat.zero_le _)
 obtain ⟨f,cs,rfl,-,-⟩:=hP
 have HBB:=show Hid (B≤w.heap.size) from hBw
 clear hBw
 go_enter Try.func82,Try.ntmps82
 go_wp2_with fail
 refine Calls.mono KI.out ?_
 rintro e w1 ⟨⟨r,rfl,hcase⟩,hb1⟩
 obtain rfl:r = -1:=by
  rcases hcase with ⟨h,_⟩ | ⟨i,hi,_⟩
  ·exact h
  ·exact absurd hi (Nat.not_lt_zero _)
 have HB1:=show Hid (Below w.heap.size w w1) from hb1
 clear hb1 KI hcase
 go_wp2_with fail
 go_ret
 exact ⟨rfl,HB1.out.mono HBB.out⟩
theorem deleteFunc_own (w:World) {B:Nat} {D:Int→Prop} {v fv:Value} {p:Int→Bool} {L:List Int} (hP:Prd w B D fv p) (h:OwnZ B w v L) (hD:∀ x ∈ L,D x) (hL:L.length≤1000) (hBw:B≤w.heap.size) :
 Calls Try.prog 82 #[v,fv] w fun e w'=>∃ v',e=.returned v'∧OwnZ B w' v' (L.filter fun x => !p x)∧Below B w w':=by
 rcases h.2 with ⟨rfl,h0⟩ | ⟨g,cap,cur,rfl,hg,hh,h1,h2,h3,h4⟩
 ·obtain rfl:L=[]:=List.eq_nil_of_length_eq_zero h0
  exact (deleteFunc_nil w hP hBw).mono fun e w' ⟨h1,h2⟩=>⟨_,h1,World.ownsRow_nil _ _ _ _,h2⟩
 ·obtain ⟨hr,_,_,_⟩:=Rn.of h
  exact (deleteFunc_any w hP hr hD hL h1 h2 hg hBw).mono fun e w' ⟨e1,e2,e3⟩=>⟨_,e1,e2.own hg (Nat.le_trans (List.length_filter_le _ _) h1) h2,e3⟩
end Go.Proofs.Ytoedidbbjnnpnaa.Wm
