/-
  next: of any order that a function value tells. No condition.
-/
import Derived.Test.YtoedidbbjnnpnaaQWDel
namespace Go.Proofs.Ytoedidbbjnnpnaa.Wm
open Go.RowKit Go.Maps
open Wd (Md)
set_option linter.unusedSimpArgs false
def btP (M:Nat→Nat→Bool) (v:Nat) (x:Int):Bool:=decide (x≠(v:Int)) && M x.toNat v
theorem cf_next1:Cf 80:=fun _ _=>by kernel_rfl
theorem cf_next2:Cf 81:=fun _ _=>by kernel_rfl
set_option maxRecDepth 100000 in
set_option maxHeartbeats 1000000 in
theorem next2_any (w:World) {n v:Nat} {L:Nat} {fv:Value} {M:Nat→Nat→Bool} {b1 b2:Nat} (hO:Ord w L n fv M) (_hL:L≤w.heap.size) (hv:v<n) (h1:Cl w b1 #[.int .i64 (v:Int)] 3) (h2:Cl w b2 #[fv] 90) (x:Nat) (hx:x<n) (_hn:n≤512) :
 Calls Try.prog 81 #[.int .i64 (x:Int),.pointer (some ⟨b1,0,none⟩),.pointer (some ⟨b2,0,none⟩)] w fun e w'=>e=.returned (.bool (btP M v (x:Int)))∧Below w.heap.size w w':=by
 obtain ⟨f,cs,rfl,hcf,hc⟩:=hO
 have K:=show Hid _ from hc w x v (Below.refl _ _) hx hv
 have HCF:=show Hid (Cf f) from hcf
 have c1:w.cell? ⟨b1,0,none⟩=some (.int .i64 (v:Int)):=h1.cell 0
 have c2:w.cell? ⟨b2,0,none⟩=some (.func (.func f) #[] cs.toArray):=h2.cell 0
 have HP:=show Hid (btP M v (x:Int)=(decide (x≠v) && M x v)) from by
  show btP M v (x:Int)=(decide (x≠v) && M x v)
  unfold btP
  rw [Int.toNat_natCast]
  congr 1
  exact decide_eq_decide.2 (by omega)
 generalize btP M v (x:Int)=ans at *
 clear hc hcf h1 h2
 by_cases e:x=v
 ·have h1:((x:Int) != (v:Int))=false:=by simp [e]
  have HE:=show Hid (ans=false) from HP.out.trans (by simp [e])
  clear e
  go_enter Try.func81,Try.ntmps81
  go_wp2_with fail
  go_ret
  exact ⟨ret_bool HE.out.symm,Below.refl _ _⟩
 ·have h1:((x:Int) != (v:Int))=true:=by simp;omega
  have HE:=show Hid (ans=M x v) from HP.out.trans (by simp [e])
  clear e
  go_enter Try.func81,Try.ntmps81
  go_wp2_with (refine wpList_callV rfl f _ [.tmp 10,.tmp 11] _ rfl [.int .i64 (x:Int),.int .i64 (v:Int)] cs rfl rfl HCF.out ?_)
  refine Calls.mono K.out ?_
  rintro e w2 ⟨rfl,hb⟩
  refine ⟨_,rfl,?_⟩
  have HB:=show Hid (Below w.heap.size w w2) from hb
  clear K hb
  go_wp2_with fail
  go_ret
  exact ⟨ret_bool HE.out.symm,HB.out⟩
def bwP (M:Nat→Nat→Bool) (l:List Nat) (v:Int):Bool:=l.any fun x=>btP M v.toNat (x:Int)
theorem any_map (l:List Nat) (p:Int→Bool):(l.map fun n:Nat=>(n:Int)).any p=l.any fun x:Nat=>p (x:Int):=by rw [List.any_map];rfl
set_option maxRecDepth 100000 in
set_option maxHeartbeats 1000000 in
theorem next1_any (w:World) {n v:Nat} {L Lo:Nat} {fv lv:Value} {l:List Nat} {M:Nat→Nat→Bool} {b1 b2:Nat} (hO:Ord w L n fv M) (hL:L≤w.heap.size) (hv:v<n) (h1:Cl w b1 #[lv] 27) (ho:OwnI Lo w lv l) (h2:Cl w b2 #[fv] 90) (hl:∀ x ∈ l,x<n) (hle:l.length≤512) (hn:n≤512) :
 Calls Try.prog 80 #[.int .i64 (v:Int),.pointer (some ⟨b1,0,none⟩),.pointer (some ⟨b2,0,none⟩)] w fun e w'=>e=.returned (.bool (bwP M l (v:Int)))∧Below w.heap.size w w':=by
 have K:=show Hid (∀ W b3,Below w.heap.size w W→Cl W b3 #[.int .i64 (v:Int)] 3→Calls Try.prog 49 #[lv,.func (.func 81) #[] #[.pointer (some ⟨b3,0,none⟩),.pointer (some ⟨b2,0,none⟩)]] W fun e w'=>e=.returned (.bool (bwP M l (v:Int)))∧Below W.heap.size W w') from fun W b3 hW h3=>by
  have hi:=(ho.later hW).isI
  refine (containsFunc_any W (L:=W.heap.size) (D:=fun x=>0≤x∧x<(n:Int)) (p:=btP M v) ⟨_,[.pointer (some ⟨b3,0,none⟩),.pointer (some ⟨b2,0,none⟩)],rfl,cf_next2,fun W' x hW' hx => ?_⟩ hi (fun x hx => ?_) (Nat.le_refl _) (Nat.le_refl _) (by rw [List.length_map];omega)).mono fun e w' ⟨e1,e2⟩=>⟨?_,e2⟩
  ·obtain ⟨k,rfl⟩:=Int.eq_ofNat_of_zero_le hx.1
   exact next2_any W' (L:=W'.heap.size) (hO.later (hW.mono hL |>.trans (hW'.mono (by have:=hW.size;omega))) (by have:=hW.size;have:=hW'.size;omega)) (Nat.le_refl _) hv (h3.later hW') ((h2.later hW).later hW') k (by omega) hn
  ·obtain ⟨k,hk,rfl⟩:=List.mem_map.1 hx
   have:=hl k hk
   exact ⟨by omega,by omega⟩
  ·rw [e1,any_map];unfold bwP;rw [Int.toNat_natCast]
 obtain ⟨f,cs,rfl,-,-⟩:=hO
 obtain ⟨pl,cl,rfl⟩:=ho.slice
 have c1:w.cell? ⟨b1,0,none⟩=some (.slice pl l.length cl):=h1.cell 0
 have HC1:=show Hid (Cl w b1 #[.slice pl l.length cl] 27) from h1
 clear h1 h2 ho hl c1
 generalize bwP M l (v:Int)=ans at *
 go_enter Try.func80,Try.ntmps80
 go_wp2_with (refine wpList_box1 3 _ rfl _ rfl rfl rfl ?_)
 intro w1 b3 hN1
 have K1:=show Hid _ from K.out w1 b3 hN1.bel hN1.blk
 have c1:w1.cell? ⟨b1,0,none⟩=some (.slice pl l.length cl):=(HC1.out.later hN1.bel).cell 0
 have H1:=show Hid (Below w.heap.size w w1) from hN1.bel
 clear hN1 K HC1
 go_wp2_with fail
 refine Calls.mono K1.out ?_
 rintro e w2 ⟨rfl,hb2⟩
 have H2:=show Hid (Below w.heap.size w w2) from H1.out.trans (hb2.mono H1.out.size)
 clear hb2 K1 H1 c1
 go_wp2_with fail
 go_ret
 exact ⟨rfl,H2.out⟩
def nxF (M:Nat→Nat→Bool) (n a:Nat):List Nat:=(numsTo (ovP M a) n).filter fun v:Nat => !bwP M (numsTo (ovP M a) n) (v:Int)
theorem ownZ_of {B:Nat} {w:World} {v:Value} {l:List Nat} (h:OwnI B w v l):OwnZ B w v (l.map fun n:Nat=>(n:Int)):=by
 unfold OwnZ
 rw [List.length_map,List.map_map]
 exact h
theorem filter_map_cast (l:List Nat) (p:Int→Bool):(l.map fun n:Nat=>(n:Int)).filter p=(l.filter fun x:Nat=>p (x:Int)).map fun n:Nat=>(n:Int):=by rw [List.filter_map];rfl
theorem mem_numsTo {p:Int→Bool} {n x:Nat} (h:x ∈ numsTo p n):x<n:=List.mem_range.1 (List.mem_filter.1 h).1
theorem zero_li (w:World):(zeroValue 27).run Try.prog w=.ok (.slice none 0 0) w:=by kernel_rfl
set_option maxRecDepth 100000 in
set_option maxHeartbeats 2000000 in
theorem next_any (w:World) {n a:Nat} {L:Nat} {fv:Value} {M:Nat→Nat→Bool} (hO:Ord w L n fv M) (hL:L≤w.heap.size) (ha:a<n) (hn:n≤512) :
 Calls Try.prog 57 #[.int .i64 (a:Int),.int .i64 (n:Int),fv] w fun e w'=>∃ v,e=.returned v∧OwnZ w.heap.size w' v ((nxF M n a).map fun n:Nat=>(n:Int))∧Below w.heap.size w w':=by
 have KO:=show Hid (∀ W,Below w.heap.size w W→Calls Try.prog 79 #[.int .i64 (a:Int),.int .i64 (n:Int),fv] W fun e w'=>∃ v,e=.returned v∧OwnI W.heap.size w' v (numsTo (ovP M a) n)∧Below W.heap.size W w') from fun W hW=>over_any W (hO.later (hW.mono hL) (Nat.le_refl L)) (Nat.le_trans hL hW.size) ha hn
 have HLN:=show Hid ((numsTo (ovP M a) n).length≤512∧∀ x ∈ numsTo (ovP M a) n,x<n) from ⟨Nat.le_trans (numsTo_len _ n) hn,fun x hx=>mem_numsTo hx⟩
 have HNX:=show Hid (nxF M n a=(numsTo (ovP M a) n).filter fun v:Nat => !bwP M (numsTo (ovP M a) n) (v:Int)) from rfl
 generalize nxF M n a=res at *
 generalize numsTo (ovP M a) n=l at *
 have KC:=show Hid (∀ (W:World) (lv:Value) (B:Nat),OwnI B W lv l→Calls Try.prog 83 #[lv] W fun e w'=>∃ v',e=.returned v'∧OwnZ W.heap.size w' v' (l.map fun n:Nat=>(n:Int))∧Below W.heap.size W w') from fun W lv B ho=>cloneI_any W (ownZ_of ho) (by rw [List.length_map];have:=HLN.out.1;omega)
 have KD:=show Hid (∀ (W:World) (b5 b7 B:Nat) (lv cv:Value),Below w.heap.size w W→Cl W b7 #[lv] 27→OwnI w.heap.size W lv l→Cl W b5 #[fv] 90→B≤W.heap.size→w.heap.size≤B→(b5<B∧b7<B∧∀ k,lv.ownBlock=some k→k<B)→OwnZ B W cv (l.map fun n:Nat=>(n:Int))→Calls Try.prog 82 #[cv,.func (.func 80) #[] #[.pointer (some ⟨b7,0,none⟩),.pointer (some ⟨b5,0,none⟩)]] W fun e w'=>∃ v,e=.returned v∧OwnZ B w' v (res.map fun n:Nat=>(n:Int))∧Below B W w') from fun W b5 b7 B lv cv hW h7 ho h5 hB hwB hlt hz=>by
  have hd:=deleteFunc_own W (B:=B) (D:=fun x=>0≤x∧x<(n:Int)) (p:=bwP M l) ⟨_,[.pointer (some ⟨b7,0,none⟩),.pointer (some ⟨b5,0,none⟩)],rfl,cf_next1,fun W' x hW' hx=>by
   obtain ⟨k,rfl⟩:=Int.eq_ofNat_of_zero_le hx.1
   have hw:Below w.heap.size w W':=hW.trans (hW'.mono hwB)
   exact next1_any W' (L:=W'.heap.size) (hO.later (hw.mono hL) (Nat.le_trans hL hw.size)) (Nat.le_refl _) (by omega) ((hW'.block b7 hlt.2.1).trans h7) (own_kp ho fun k cs _ _ hk=>hW'.block k (hlt.2.2 k hk)) ((hW'.block b5 hlt.1).trans h5) HLN.out.2 HLN.out.1 hn⟩ hz (fun x hx=>by
   obtain ⟨k,hk,rfl⟩:=List.mem_map.1 hx
   have:=HLN.out.2 k hk
   exact ⟨by omega,by omega⟩) (by rw [List.length_map];have:=HLN.out.1;omega) hB
  refine hd.mono fun e w' ⟨v',e1,e2,e3⟩=>⟨_,e1,?_,e3⟩
  rw [filter_map_cast] at e2
  rw [HNX.out]
  exact e2
 clear HLN HNX
 obtain ⟨f,cs,rfl,-,-⟩:=hO
 go_enter Try.func57,Try.ntmps57
 go_wp2_with (refine wpList_box1 90 _ rfl _ rfl rfl rfl ?_)
 intro w1 b5 hN1
 have K1:=show Hid _ from KO.out w1 hN1.bel
 have c5:w1.cell? ⟨b5,0,none⟩=some (.func (.func f) #[] cs.toArray):=hN1.blk |> fun h=>(show Cl w1 b5 #[.func (.func f) #[] cs.toArray] 90 from h).cell 0
 have H1:=show Hid (Below w.heap.size w w1∧Cl w1 b5 #[.func (.func f) #[] cs.toArray] 90) from ⟨hN1.bel,hN1.blk⟩
 clear hN1 KO
 go_wp2_with fail
 refine Calls.mono K1.out ?_
 rintro e w2 ⟨lv,rfl,ho2,hb2⟩
 obtain ⟨pl,cl,rfl⟩:=ho2.slice
 have H2:=show Hid (Below w.heap.size w w2∧Cl w2 b5 #[.func (.func f) #[] cs.toArray] 90∧OwnI w.heap.size w2 (.slice pl l.length cl) l) from ⟨H1.out.1.trans (hb2.mono H1.out.1.size),H1.out.2.later hb2,ho2.base H1.out.1.size⟩
 clear hb2 ho2 K1 c5 H1
 go_wp2_with (refine wpList_alloc1 27 rfl _ zero_li rfl rfl ?_)
 intro w3 b7 hN3
 have hc7:w3.cell? ⟨b7,0,none⟩=some (.slice none 0 0):=(show Cl w3 b7 #[.slice none 0 0] 27 from hN3.blk).cell 0
 have hf7:w3.frozen? ⟨b7,0,none⟩=false:=(show Cl w3 b7 #[.slice none 0 0] 27 from hN3.blk).fr 0
 have H4:=show Hid (∀ W:World,W=w3.setCell ⟨b7,0,none⟩ (.slice pl l.length cl)→Below w.heap.size w W∧Cl W b5 #[.func (.func f) #[] cs.toArray] 90∧OwnI w.heap.size W (.slice pl l.length cl) l∧Cl W b7 #[.slice pl l.length cl] 27∧∀ k,(Value.slice pl l.length cl).ownBlock=some k→k<W.heap.size) from fun W e=>by
  subst e
  have hg:=hN3.ge
  have hk:Kp (fun k=>k=b7) w3 (w3.setCell ⟨b7,0,none⟩ (.slice pl l.length cl)):=(Kp.refl (fun k=>k=b7) w3).set (p:=b7) rfl 0 _
  have hb:Below w2.heap.size w2 (w3.setCell ⟨b7,0,none⟩ (.slice pl l.length cl)):=hN3.bel.trans (hk.below hN3.bel.size fun k e=>by omega)
  refine ⟨H2.out.1.trans (hb.mono H2.out.1.size),H2.out.2.1.later hb,H2.out.2.2.later hb,?_,fun k hk => ?_⟩
  ·exact (heap_setCell_same w3 b7 0 _ _ _ hN3.blk).trans rfl
  ·exact Nat.lt_of_lt_of_le (own_blk H2.out.2.2 hk).2.1 hb.size
 clear hN3 H2
 go_wp2_with fail
 obtain ⟨w4,hw4⟩:∃ W,W=w3.setCell ⟨b7,0,none⟩ (.slice pl l.length cl):=⟨_,rfl⟩
 rw [← hw4]
 have H5:=show Hid _ from H4.out w4 hw4
 clear H4 hw4 hc7 hf7
 refine Calls.mono (KC.out w4 _ _ H5.out.2.2.1) ?_
 rintro e w5 ⟨cv,rfl,hz5,hb5⟩
 obtain ⟨pc,cc,hcv⟩:=hz5.slice
 rw [List.length_map] at hcv
 subst hcv
 have K5:=show Hid _ from KD.out w5 b5 b7 w4.heap.size _ _ (H5.out.1.trans (hb5.mono H5.out.1.size)) (H5.out.2.2.2.1.later hb5) (H5.out.2.2.1.later hb5) (H5.out.2.1.later hb5) hb5.size H5.out.1.size ⟨H5.out.2.1.lt,H5.out.2.2.2.1.lt,H5.out.2.2.2.2⟩ hz5
 have H6:=show Hid (Below w.heap.size w w4∧Below w4.heap.size w4 w5) from ⟨H5.out.1,hb5⟩
 clear hz5 hb5 KC KD H5
 go_wp2_with fail
 refine Calls.mono K5.out ?_
 rintro e w6 ⟨rv,rfl,hz6,hb6⟩
 have H7:=show Hid (OwnZ w.heap.size w6 rv (res.map fun n:Nat=>(n:Int))∧Below w.heap.size w w6) from ⟨own_base hz6 H6.out.1.size,H6.out.1.trans ((H6.out.2.trans hb6).mono H6.out.1.size)⟩
 clear hz6 hb6 K5 H6
 go_wp2_with fail
 go_ret
 exact ⟨_,rfl,H7.out⟩
end Go.Proofs.Ytoedidbbjnnpnaa.Wm
/-
  A model that is being made row by row: what a statement that adds a row leaves. No condition.
-/
namespace Go.Proofs.Ytoedidbbjnnpnaa.Wm
open Go.RowKit Go.Maps
open Wd (Md)
set_option linter.unusedSimpArgs false
theorem St.trans {B:Nat} {T T':TypeId} {a b c:World} (h:St B T T' a b) (k:St B T T' b c):St B T T' a c:=fun i cs t hi ht hb=>(k i cs t hi ht ((h i cs t hi ht hb).trans hb)).trans (h i cs t hi ht hb)
structure TS (w7 W:World) (B b6:Nat) (cs:Array Value) (T T':TypeId) (d9 d11:Bool):Prop where
 m:d11=false→Cl W b6 cs 25
 old:∀ k,k<B→k≠b6→W.heap[k]?=w7.heap[k]?
 st:St B T T' w7 W
 os:W.os=w7.os
 tape:W.tape=w7.tape
 output:W.output=w7.output
 sz:w7.heap.size≤W.heap.size
 b9:d9=false→Below w7.heap.size w7 W
section
variable {w2 w3 w7 W W':World} {B b6:Nat} {cs:Array Value} {T T':TypeId} {d9 d11 d9' d11':Bool}
theorem TS.start (h:Cl w7 b6 cs 25):TS w7 w7.drew B b6 cs T T' false false :=
 ⟨fun _=>h,fun _ _ _=>rfl,fun _ _ _ _ _ _=>rfl,rfl,rfl,rfl,Nat.le_refl _,fun _=>(Below.refl _ _).drew⟩
theorem TS.later (h:TS w7 W B b6 cs T T' d9 d11) (hB:B≤w7.heap.size) (hb:Below W.heap.size W W') (e9:d9'=false→d9=false) (e11:d11'=false→d11=false):TS w7 W' B b6 cs T T' d9' d11' :=
 ⟨fun e=>(h.m (e11 e)).later hb,fun k hk hn=>(hb.block k (by have:=h.sz;omega)).trans (h.old k hk hn),h.st.trans (St.of_below hb),hb.os.trans h.os,hb.tape.trans h.tape,hb.output.trans h.output,Nat.le_trans h.sz hb.size,fun e=>(h.b9 (e9 e)).trans (hb.mono h.sz)⟩
theorem TS.grow (h:TS w7 W B b6 cs T T' d9 false) (hB:B≤w7.heap.size) (h6:b6<B) {Tg:TypeId} {v:Value} {n:Nat} {xs:List Value} (h1:W.ownsRow B Tg 1 v n xs) (hg:W.grownBy W' v.ownBlock) (ht:Tg≠T) (ht':Tg≠T'):TS w7 W' B b6 cs T T' true false:=by
 have hs:B≤W.heap.size:=Nat.le_trans hB h.sz
 exact ⟨fun _=>(grow_old h1 hg h6 hs).trans (h.m rfl),fun k hk hn=>(grow_old h1 hg hk hs).trans (h.old k hk hn),h.st.trans (St.of_grow h1 hg ht ht'),hg.os.trans h.os,hg.tape.trans h.tape,hg.output.trans h.output,Nat.le_trans h.sz hg.size,fun e=>(by cases e)⟩
theorem TS.store (h:TS w7 W B b6 cs T T' true false) (h6:b6<B) (j:Nat) (x:Value):TS w7 (W.setCell ⟨b6,j,none⟩ x) B b6 cs T T' true true:=by
 have hk:Kp (fun k=>k=b6) W (W.setCell ⟨b6,j,none⟩ x):=(Kp.refl (fun k=>k=b6) W).set (p:=b6) rfl j x
 exact ⟨fun e=>(by cases e),fun k hk2 hn=>by
  have h9:=h.old k hk2 hn
  exact (Below.heap_setCell W ⟨b6,j,none⟩ x k (fun e=>hn e)).trans h9,h.st.trans (St.of_kp hk h6),hk.os.trans h.os,hk.tape.trans h.tape,hk.output.trans h.output,Nat.le_trans h.sz hk.size,fun e=>(by cases e)⟩
theorem TS.kp (h:TS w7 W B b6 cs T T' d9 d11) (hk:Kp (fun k=>k=b6) w3 w7) (hB:w3.heap.size≤B):Kp (fun k=>k=b6) w3 W :=
 ⟨h.os.trans hk.os,h.tape.trans hk.tape,h.output.trans hk.output,Nat.le_trans hk.size h.sz,fun k hk1 hn=>(h.old k (by omega) hn).trans (hk.block k hk1 hn)⟩
end
def LeG (w7:World) (b6:Nat) (i:Nat) (W W':World):Prop:=i<12∧(i≠11→i≠9→Below W.heap.size W W')∧(i=9→∀ k,w7.heap.size≤k→k<W.heap.size→W'.heap[k]?=W.heap[k]?)∧(i=11→Kp (fun k=>k=b6) W W')
theorem LeG.fresh {w7 W W':World} {b6 i k:Nat} (h:LeG w7 b6 i W W') (hb:b6<w7.heap.size) (hk:w7.heap.size≤k) (hl:k<W.heap.size):W'.heap[k]?=W.heap[k]?:=by
 by_cases e7:i=11
 ·exact (h.2.2.2 e7).block k hl (by omega)
 ·by_cases e5:i=9
  ·exact h.2.2.1 e5 k hk hl
  ·exact (h.2.1 e7 e5).block k hl
theorem LeG.own {w7 W W':World} {b6 i n:Nat} {e:TypeId} {v:Value} {xs:List Value} (h:LeG w7 b6 i W W') (hb:b6<w7.heap.size) (ho:W.ownsRow w7.heap.size e 1 v n xs):W'.ownsRow w7.heap.size e 1 v n xs:=own_kp ho fun _ _ hk hc _=>h.fresh hb hk (lt_of_block hc)
theorem bsLI (w:World) (a:Option Addr) (n k:Nat):(Instr.buildSlice 22 1 #[(0,.slice a n k)]).run Try.prog w=.ok (.slice (some ⟨w.heap.size,0,none⟩) 1 1) (w.alloc (.cells #[.slice a n k] 27)):=by kernel_rfl
def tdU (M:Nat→Nat→Bool) (n k:Nat):List (List Int):=(List.range k).map fun a=>(nxF M n a).map fun n:Nat=>(n:Int)
theorem tdU_step (M:Nat→Nat→Bool) (n k:Nat):tdU M n (k+1)=tdU M n k ++ [(nxF M n k).map fun n:Nat=>(n:Int)]:=by
 unfold tdU
 rw [List.range_succ,List.map_append]
 rfl
theorem tdU_len (M:Nat→Nat→Bool) (n k:Nat):(tdU M n k).length=k:=by simp [tdU]
structure Td (w3 W:World) (b6:Nat) (uv vv:Value) (up:List (List Int)) (val:List (List ByteArray)):Prop where
 m:Cl W b6 #[uv,vv] 25
 up:RowsZ w3.heap.size W uv up
 val:RowsN w3.heap.size W vv val
 kp:Kp (fun k=>k=b6) w3 W
theorem Td.sz {w3 W:World} {b6:Nat} {uv vv:Value} {up:List (List Int)} {val:List (List ByteArray)} (h:Td w3 W b6 uv vv up val):w3.heap.size≤W.heap.size:=h.kp.size
end Go.Proofs.Ytoedidbbjnnpnaa.Wm
