/-
  The calls first, isSign, refuse of layer 8: the formula at the beginning of a row of tokens. For every row of tokens whose last one is none that is read. No other condition.
-/
import Derived.Test.YtkmmlimekachbaaGreatDoorQPure
import Derived.Test.YtkmmlimekachbaaGreatDoorSG5
namespace Go.Proofs.YtkmmlimekachbaaGreatDoor
open Go.RowKit Go.Maps
open Fm (Nd)
open Sx (Tn T)
def fltA (e:Int) (t:Tn):Value:=.agg #[.int .i64 e,.int .i64 t.l,.int .i64 t.c,.int .i64 t.o]
def fstV (g:Nat) (cap:Cp) (len:Nat):(Int × Tn) ⊕ Nat→Value
 | .inl x=>.tuple #[.slice none 0 0,.slice none 0 0,fltA x.1 x.2]
 | .inr n=>.tuple #[.slice (some ⟨g,cap.o,none⟩) n cap.c,.slice (some ⟨g,cap.o+n * 6,none⟩) (len - n) (cap.c - n),fltA 0 Sx.tz]
theorem TsAt.cap {w:World} {g:Nat} {cap:Cp} {ts:List Tn} (h:TsAt w g cap ts):ts.length≤cap.c∧cap.c≤maxLen∧ts.length≤4611686018427387904:=by
 obtain ⟨_,_,h1,h2,_,h3⟩:=h
 exact ⟨h1,h2,h3⟩
theorem TsAt.glt {w:World} {g:Nat} {cap:Cp} {ts:List Tn} (h:TsAt w g cap ts):g<w.heap.size:=by
 obtain ⟨cur,hh,_⟩:=h
 exact lt_of_block hh
theorem TsAt.laterO {w w':World} {g:Nat} {cap:Cp} {ts:List Tn} (h:TsAt w g cap ts) {n:Nat} (hb:Below n w w') (hn:g<n):TsAt w' g cap ts:=h.keep (hb.block _ hn)
theorem toksOf_len6 (ts:List Tn):(toksOf ts).length=ts.length * 6:=by
 induction ts with
 | nil=>rfl
 | cons t r ih =>
  show (tnC t ++ toksOf r).length=_
  rw [List.length_append,ih,List.length_cons]
  show 6+_=_
  omega
theorem toksOf_take:∀ (ts:List Tn) (n:Nat),toksOf (ts.take n)=(toksOf ts).take (n * 6)
 | [],n=>by simp [toksOf]
 | t :: r,0=>by simp [toksOf]
 | t :: r,n+1=>by
  show tnC t ++ toksOf (r.take n)=(tnC t ++ toksOf r).take ((n+1) * 6)
  rw [toksOf_take r n,List.take_append,show (tnC t).length=6 from rfl,show (n+1) * 6 - 6=n * 6 by omega,List.take_of_length_le (l:=tnC t) (by show 6≤_;omega)]
theorem toksOf_drop:∀ (ts:List Tn) (n:Nat),toksOf (ts.drop n)=(toksOf ts).drop (n * 6)
 | [],n=>by simp [toksOf]
 | t :: r,0=>by simp
 | t :: r,n+1=>by
  show toksOf (r.drop n)=(tnC t ++ toksOf r).drop ((n+1) * 6)
  rw [toksOf_drop r n,List.drop_append,show (tnC t).length=6 from rfl,show (n+1) * 6 - 6=n * 6 by omega,(List.drop_eq_nil_of_le (by show 6≤_;omega):List.drop ((n+1) * 6) (tnC t)=[]),List.nil_append]
theorem TsAt.take {w:World} {g:Nat} {cap:Cp} {ts:List Tn} (h:TsAt w g cap ts) (n:Nat):TsAt w g cap (ts.take n):=by
 obtain ⟨cur,hh,h1,h2,h3,h4⟩:=h
 refine ⟨cur,hh,?_,h2,?_,?_⟩
 ·rw [List.length_take];omega
 ·rw [toksOf_take,← h3,List.length_take,List.take_take,← Nat.mul_min_mul_right]
 ·rw [List.length_take];omega
theorem TsAt.drop {w:World} {g:Nat} {cap:Cp} {ts:List Tn} (h:TsAt w g cap ts) (n:Nat):TsAt w g ⟨cap.c - n,cap.o+n * 6⟩ (ts.drop n):=by
 obtain ⟨cur,hh,h1,h2,h3,h4⟩:=h
 refine ⟨cur,hh,?_,?_,?_,?_⟩
 ·rw [List.length_drop];show _≤cap.c - n;omega
 ·show cap.c - n≤_;omega
 ·rw [toksOf_drop,← h3,List.length_drop,List.drop_take,List.drop_drop]
  show List.take _ (List.drop (cap.o+n * 6) _)=_
  rw [Nat.sub_mul]
 ·rw [List.length_drop];omega
theorem after_new {w w1:World} {b m:Nat} {v:Value} {t':List Nd} {n:Nat} (h:After w b m v t' w1) (hf:∀ k,Ft b m v k→n≤k) (hn:n≤w.heap.size):Below n w w1:=by
 obtain ⟨v',_,_,hk⟩:=h
 exact ⟨hk.os,hk.tape,hk.output,hk.size,fun k hlt=>hk.block k (by omega) (fun h=>by have:=hf k h;omega)⟩
section
variable (w:World) {g:Nat} {cap:Cp} {ts:List Tn}
set_option maxRecDepth 100000 in
set_option maxHeartbeats 600000 in
theorem first_any (hK:TsAt w g cap ts) (hz:∀ t ∈ ts,t.s.size≤140737488351232) (hE:Sq.Ends ts) (h0:0<ts.length) :
 Calls Tryz.prog 108 #[.slice (some ⟨g,cap.o,none⟩) ts.length cap.c] w fun e w'=>e=.returned (fstV g cap ts.length (Sq.fstR ts))∧Below w.heap.size w w':=by
 have KN:=show Hid (∀ w:World,Calls Tryz.prog 35 #[] w fun e w'=>∃ b m,e=.returned (.pointer (some ⟨b,0,none⟩))∧Tb w' b m (.slice none 0 0) []∧(∀ k,Ft b m (.slice none 0 0) k→w.heap.size≤k)∧Below w.heap.size w w') from fun w=>(new_any w).mono fun e w' ⟨h1,h2,h3⟩=>⟨_,_,h1,h2,fun k hk=>(by
  rcases hk with h | h | h
  ·omega
  ·omega
  ·cases h),h3⟩
 have KT:=show Hid (∀ (w1:World) (b m:Nat) (v:Value),Tb w1 b m v []→TsAt w1 g cap ts→Calls Tryz.prog 110 #[.pointer (some ⟨b,0,none⟩),.slice (some ⟨g,cap.o,none⟩) ts.length cap.c] w1 fun e w'=>e=.returned (wholeV (whole false ts []).1)∧After w1 b m v (whole false ts []).2 w') from fun w1 b m v hT h=>take_any w1 hT h hz
 have HK:=show Hid (TsAt w g cap ts) from hK
 obtain ⟨hc1,hc2,hc3⟩:=hK.cap
 have hgw:=hK.glt
 cases hR:Sq.fstR ts with
 | inl x =>
  have hx:(whole false ts []).1.2.2.1=x.1∧(whole false ts []).1.2.2.2=x.2∧x.1≠0:=by
   unfold Sq.fstR at hR
   split at hR
   ·cases hR
   ·rename_i hne
    injection hR with hR
    subst hR
    exact ⟨rfl,rfl,hne⟩
  obtain ⟨hx1,hx2,hx3⟩:=hx
  generalize whole false ts []=wh at *
  obtain ⟨⟨h1,h2,h3,h4⟩,h5⟩:=wh
  simp only at hx1 hx2
  subst hx1 hx2
  simp only [wholeV,fstV,fltA] at *
  have hx3':(x.1 != 0)=true:=by simpa using hx3
  clear hz hE h0 hK hx3
  go_enter Tryz.func108,Tryz.ntmps108
  go_wp2_with fail
  refine (KN.out _).mono ?_
  rintro e w1 ⟨b,m,rfl,hT1,hf1,hb1⟩
  have b1:Below w.heap.size w w1:=(below_alloc w _).trans (hb1.mono (by simp))
  have f1:Fl w1 w.heap.size 0 0 0 0:=(hb1.block _ (by simp)).trans (fl_new _ _ _ _ _)
  have HF1:=show Hid (∀ k,Ft b m (.slice none 0 0) k→w.heap.size+1≤k) from fun k hk=>(by have:=hf1 k hk;simpa using this)
  have X1:=show Hid (Below w.heap.size w w1∧Fl w1 w.heap.size 0 0 0 0∧TsAt w1 g cap ts) from ⟨b1,f1,HK.out.laterO b1 hgw⟩
  have HT1:=show Hid (Tb w1 b m (.slice none 0 0) []) from hT1
  clear hT1 hb1 hf1 b1 f1 KN
  go_wp2_with fail
  refine (KT.out w1 _ _ _ HT1.out X1.out.2.2).mono ?_
  rintro e w2 ⟨rfl,ha2⟩
  have b2:Below (w.heap.size+1) w1 w2:=after_new ha2 HF1.out X1.out.2.1.lt
  have X2:=show Hid (Below w.heap.size w w2∧Fl w2 w.heap.size 0 0 0 0) from ⟨X1.out.1.trans (b2.mono (Nat.le_succ _)),(b2.block _ (Nat.lt_succ_self _)).trans X1.out.2.1⟩
  clear ha2 b2 KT HT1 HF1 X1
  obtain ⟨w3,hw3⟩:∃ w3,w3=w2.alloc (Obj.cells #[.int .i64 x.1,.int .i64 x.2.l,.int .i64 x.2.c,.int .i64 x.2.o] 52):=⟨_,rfl⟩
  have hb3:Below w2.heap.size w2 w3:=by rw [hw3];exact below_alloc _ _
  have hs3:Fl w3 w2.heap.size x.1 x.2.l x.2.c x.2.o:=by rw [hw3];exact heap_alloc_new _ _
  have X3:=show Hid (Below w.heap.size w w3∧Fl w3 w.heap.size 0 0 0 0) from ⟨X2.out.1.trans (hb3.mono X2.out.1.size),(hb3.block _ X2.out.2.lt).trans X2.out.2⟩
  have r0:=X3.out.2.c0;have r1:=X3.out.2.c1;have r2:=X3.out.2.c2;have r3:=X3.out.2.c3;have rf:=X3.out.2.fr
  have s0:=hs3.c0;have s1:=hs3.c1;have s2:=hs3.c2;have s3:=hs3.c3
  have hne:¬ w2.heap.size=w.heap.size:=by have:=X2.out.2.lt;omega
  have hne2:¬ w.heap.size=w2.heap.size:=fun e=>hne e.symm
  go_wp2_with fail
  rw [← hw3]
  clear hw3 hb3 hs3 X2
  go_wp2_with fail
  go_region
  go_wp2_with fail
  refine bodyPost_ret (results_tmp2_cell rfl _ _ w.heap.size _ _ _ _ rfl (Fl.drew (X3.out.2.s4 x.1 x.2.l x.2.c x.2.o)) Tryz.underlying52 rfl (by kernel_rfl)) rfl ?_
  exact ⟨rfl,((((X3.out.1.setCell (Nat.le_refl _) _).setCell (Nat.le_refl _) _).setCell (Nat.le_refl _) _).setCell (Nat.le_refl _) _).drew⟩
 | inr n =>
  obtain ⟨hb1,hb2,hb3,hb4⟩:=Sq.fst_bound hE h0 hR
  generalize whole false ts []=wh at *
  obtain ⟨⟨h1,h2,h3,h4⟩,h5⟩:=wh
  simp only at hb3 hb4
  subst hb3 hb4
  simp only [wholeV,fstV,fltA] at *
  clear hz hE h0 hK
  go_enter Tryz.func108,Tryz.ntmps108
  go_wp2_with fail
  refine (KN.out _).mono ?_
  rintro e w1 ⟨b,m,rfl,hT1,hf1,hb1⟩
  have b1:Below w.heap.size w w1:=(below_alloc w _).trans (hb1.mono (by simp))
  have f1:Fl w1 w.heap.size 0 0 0 0:=(hb1.block _ (by simp)).trans (fl_new _ _ _ _ _)
  have HF1:=show Hid (∀ k,Ft b m (.slice none 0 0) k→w.heap.size+1≤k) from fun k hk=>(by have:=hf1 k hk;simpa using this)
  have X1:=show Hid (Below w.heap.size w w1∧Fl w1 w.heap.size 0 0 0 0∧TsAt w1 g cap ts) from ⟨b1,f1,HK.out.laterO b1 hgw⟩
  have HT1:=show Hid (Tb w1 b m (.slice none 0 0) []) from hT1
  clear hT1 hb1 hf1 b1 f1 KN
  go_wp2_with fail
  refine (KT.out w1 _ _ _ HT1.out X1.out.2.2).mono ?_
  rintro e w2 ⟨rfl,ha2⟩
  have b2:Below (w.heap.size+1) w1 w2:=after_new ha2 HF1.out X1.out.2.1.lt
  have X2:=show Hid (Below w.heap.size w w2∧Fl w2 w.heap.size 0 0 0 0) from ⟨X1.out.1.trans (b2.mono (Nat.le_succ _)),(b2.block _ (Nat.lt_succ_self _)).trans X1.out.2.1⟩
  clear ha2 b2 KT HT1 HF1 X1
  obtain ⟨w3,hw3⟩:∃ w3,w3=w2.alloc (Obj.cells #[.int .i64 0,.int .i64 h4.l,.int .i64 h4.c,.int .i64 h4.o] 52):=⟨_,rfl⟩
  have hb3:Below w2.heap.size w2 w3:=by rw [hw3];exact below_alloc _ _
  have hs3:Fl w3 w2.heap.size 0 h4.l h4.c h4.o:=by rw [hw3];exact heap_alloc_new _ _
  have X3:=show Hid (Below w.heap.size w w3∧Fl w3 w.heap.size 0 0 0 0) from ⟨X2.out.1.trans (hb3.mono X2.out.1.size),(hb3.block _ X2.out.2.lt).trans X2.out.2⟩
  have r0:=X3.out.2.c0;have r1:=X3.out.2.c1;have r2:=X3.out.2.c2;have r3:=X3.out.2.c3;have rf:=X3.out.2.fr
  have s0:=hs3.c0;have s1:=hs3.c1;have s2:=hs3.c2;have s3:=hs3.c3
  have hne:¬ w2.heap.size=w.heap.size:=by have:=X2.out.2.lt;omega
  have hne2:¬ w.heap.size=w2.heap.size:=fun e=>hne e.symm
  go_wp2_with fail
  rw [← hw3]
  clear hw3 hb3 hs3 X2
  go_wp2_with fail
  go_region
  go_wp2_with fail
  refine bodyPost_ret (results_tmp2_cell rfl _ _ w.heap.size _ _ _ _ rfl (Fl.drew (X3.out.2.s4 0 0 0 0)) Tryz.underlying52 rfl (by kernel_rfl)) rfl ?_
  exact ⟨rfl,((((X3.out.1.setCell (Nat.le_refl _) _).setCell (Nat.le_refl _) _).setCell (Nat.le_refl _) _).setCell (Nat.le_refl _) _).drew⟩
set_option maxHeartbeats 400000 in
theorem isSign_any (t:Tn) (x:ByteArray):Calls Tryz.prog 105 #[tnV t,.string x] w fun e w'=>e=.returned (.bool (Sx.sgn t x.data.toList))∧Below w.heap.size w w':=by
 obtain ⟨tk,tx,tn,tl,tc,to⟩:=t
 unfold tnV
 go_enter Tryz.func105,Tryz.ntmps105
 go_wp2_with fail
 all_goals first | (exfalso;simp_all;done) | (go_ret;refine ⟨ret_bool ?_,below_alloc _ _⟩;simp only [Sx.sgn,← ByteArray.toList_eq];simp_all)
set_option maxHeartbeats 400000 in
theorem qrefuse_any (t:Tn):Calls Tryz.prog 107 #[tnV t] w fun e w'=>e=.returned (fltA 41 t)∧Below w.heap.size w w':=by
 obtain ⟨tk,tx,tn,tl,tc,to⟩:=t
 unfold tnV fltA
 go_enter Tryz.func107,Tryz.ntmps107
 go_wp2_with fail
 refine bodyPost_ret (results_cell_row rfl _ _ (w.heap.size+1) _ _ _ _ rfl (heap_alloc2_new w _ _) Tryz.underlying52 rfl (by kernel_rfl)) rfl ?_
 exact ⟨rfl,((Below.refl _ _).alloc (Nat.le_refl _) _).alloc (by simp) _⟩
end
end Go.Proofs.YtkmmlimekachbaaGreatDoor
/-
  The call leftSide of layer 8: the formulas at the beginning of a row of tokens, with commas between. For every row of at most 2^40 + 1 tokens whose last one is none that is read. No other condition.
-/
namespace Go.Proofs.YtkmmlimekachbaaGreatDoor
open Go.RowKit Go.Maps
open Fm (Nd)
open Sx (Tn T)
theorem own_keptM {w w':World} {B n ty k6:Nat} {v:Value} {xs:List Value} (h:w.ownsRow B ty k6 v n xs) (hk:∀ k,v.ownBlock=some k→w'.heap[k]?=w.heap[k]?):w'.ownsRow B ty k6 v n xs:=by
 refine ⟨h.1,?_⟩
 rcases h.2 with h2 | ⟨g,cap,cur,rfl,hg,hh,r⟩
 ·exact Or.inl h2
 ·exact Or.inr ⟨g,cap,cur,rfl,hg,(hk g rfl).trans hh,r⟩
theorem own_ltM {w:World} {B n ty k6:Nat} {v:Value} {xs:List Value} (h:w.ownsRow B ty k6 v n xs):∀ k,v.ownBlock=some k→B≤k∧k<w.heap.size∧∃ cur,w.heap[k]?=some (.cells cur ty (0,0)):=by
 intro k hk
 rcases h.2 with ⟨rfl,_⟩ | ⟨g,cap,cur,rfl,hg,hh,r⟩
 ·cases hk
 ·obtain rfl:g=k:=Option.some.inj hk
  exact ⟨hg,lt_of_block hh,cur,hh⟩
theorem own_belowM {w w':World} {B n ty k6:Nat} {v:Value} {xs:List Value} (h:w.ownsRow B ty k6 v n xs) (hb:Below w.heap.size w w'):w'.ownsRow B ty k6 v n xs :=
 own_keptM h fun k hk=>hb.block k (own_ltM h k hk).2.1
theorem own_lowM {w:World} {B B' n ty k6:Nat} {v:Value} {xs:List Value} (h:w.ownsRow B ty k6 v n xs) (hB:B'≤B):w.ownsRow B' ty k6 v n xs :=
 ⟨h.1,h.2.imp (fun h=>h) fun ⟨g,cap,cur,e1,hg,r⟩=>⟨g,cap,cur,e1,by omega,r⟩⟩
def partV (g:Nat) (p:Cp × List Tn):Value:=.slice (some ⟨g,p.1.o,none⟩) p.2.length p.1.c
theorem info_toks:(Tryz.prog.info? 97).map (fun i=>(i.zero,i.size,i.bytes))=some (some (Value.slice none 0 0),1,24):=by kernel_rfl
def lenOf:Value→Nat
 | .slice _ n _=>n
 | _=>0
def LeftsA (w:World) (g:Nat):(Int × Tn) ⊕ (List (List Tn) × List Tn)→Ending→World→Prop
 | .inl x,e,_=>e=.returned (.tuple #[.slice none 0 0,.slice none 0 0,fltA x.1 x.2])
 | .inr (ps,r),e,w'=>∃ (v:Value) (qs:List (Cp × List Tn)) (cr:Cp),e=.returned (.tuple #[v,.slice (some ⟨g,cr.o,none⟩) r.length cr.c,fltA 0 Sx.tz])∧qs.map (·.2)=ps∧w'.ownsRow w.heap.size 97 1 v qs.length (qs.map (partV g))∧(∀ p ∈ qs,TsAt w g p.1 p.2∧∀ t ∈ p.2,t.s.size≤140737488351232)∧TsAt w g cr r∧Sq.Ends r∧0<r.length∧(∀ t ∈ r,t.s.size≤140737488351232)∧0<qs.length∧qs.length≤1099511627777
structure LfP (w:World) (g:Nat) (f:Nat) (acc:List (Cp × List Tn)) (cr:Cp) (r:List Tn) (R:(Int × Tn) ⊕ (List (List Tn) × List Tn)):Prop where
 at_:TsAt w g cr r
 ends:Sq.Ends r
 pos:0<r.length
 fuel:r.length<f
 sz:∀ t ∈ r,t.s.size≤140737488351232
 res:Sq.lefts f (acc.map (·.2)) r=some R
 few:acc.length+r.length≤1099511627777
 parts:∀ p ∈ acc,TsAt w g p.1 p.2∧∀ t ∈ p.2,t.s.size≤140737488351232
structure LfW (w wr:World) (left:Value) (g:Nat) (acc:List (Cp × List Tn)):Prop where
 own:wr.ownsRow (w.heap.size+1) 97 1 left acc.length (acc.map (partV g))
 flt:Fl wr w.heap.size 0 0 0 0
 bel:Below w.heap.size w wr
theorem LfW.later {w wr w2:World} {left:Value} {g:Nat} {acc:List (Cp × List Tn)} (h:LfW w wr left g acc) (hb:Below wr.heap.size wr w2):LfW w w2 left g acc :=
 ⟨own_belowM h.own hb,(hb.block _ h.flt.lt).trans h.flt,h.bel.trans (hb.mono h.bel.size)⟩
section
variable (w:World) {g:Nat} {cap:Cp} {ts:List Tn}
set_option maxRecDepth 100000 in
set_option maxHeartbeats 1000000 in
theorem leftSide_any (hK:TsAt w g cap ts) (hz:∀ t ∈ ts,t.s.size≤140737488351232) (hE:Sq.Ends ts) (h0:0<ts.length) (hl:ts.length≤1099511627777) :
 Calls Tryz.prog 106 #[.slice (some ⟨g,cap.o,none⟩) ts.length cap.c] w fun e w'=>LeftsA w g (Sq.leftsR ts) e w'∧Below w.heap.size w w':=by
 obtain ⟨i0,hi,hz0,hz1,hz2⟩:=info_parts info_toks
 obtain ⟨R,hR⟩:=Sq.lefts_total (ts.length+1) [] ts hE h0 (by omega)
 have HR:=show Hid (Sq.leftsR ts=R) from by unfold Sq.leftsR;rw [hR];rfl
 have HP:=show Hid (LfP w g (ts.length+1) [] cap ts R) from ⟨hK,hE,h0,by omega,hz,hR,by simpa using hl,fun p hp=>by cases hp⟩
 have KF:=show Hid (∀ (w1:World) (cr:Cp) (r:List Tn),Below w.heap.size w w1→TsAt w g cr r→Sq.Ends r→0<r.length→(∀ t ∈ r,t.s.size≤140737488351232)→Calls Tryz.prog 108 #[.slice (some ⟨g,cr.o,none⟩) r.length cr.c] w1 fun e w'=>e=.returned (fstV g cr r.length (Sq.fstR r))∧Below w1.heap.size w1 w') from fun w1 cr r hb h1 h2 h3 h4=>first_any w1 (h1.laterO hb h1.glt) h4 h2 h3
 have KS:=show Hid (∀ (w1:World) (t:Tn),Calls Tryz.prog 105 #[tnV t,.string ⟨#[44]⟩] w1 fun e w'=>e=.returned (.bool (Sx.sgn t [44]))∧Below w1.heap.size w1 w') from fun w1 t=>isSign_any w1 t ⟨#[44]⟩
 clear hK hz hE h0 hl hR
 rw [HR.out]
 go_enter Tryz.func106,Tryz.ntmps106
 go_wp2_with fail
 go_loopw [0,5,6,7,8] (fun l left _ _ _ wr=>∃ (f:Nat) (acc:List (Cp × List Tn)) (cr:Cp) (r:List Tn),l=.slice (some ⟨g,cr.o,none⟩) r.length cr.c∧Hid (LfP w g f acc cr r R)∧Hid (LfW w wr left g acc)) (fun l _ _ _ _ _=>lenOf l)
 case atStart =>
  exact ⟨_,[],cap,ts,rfl,HP,⟨World.ownsRow_nil _ _ _ _,fl_new _ _ _ _ _,below_alloc w _⟩⟩
 case round =>
  obtain ⟨f,acc,cr,r,rfl,HPr,HW⟩:=hrel
  clear HP HR
  have hpos:=HPr.out.pos
  have hcap:=HPr.out.at_.cap
  have hfew:=HPr.out.few
  obtain ⟨f',rfl⟩:∃ f',f=f'+1:=⟨f - 1,by have:=HPr.out.fuel;omega⟩
  cases hF:Sq.fstR r with
  | inl x =>
   have hx0:x.1≠0:=by
    unfold Sq.fstR at hF
    split at hF
    ·cases hF
    ·rename_i hne
     injection hF with hF
     subst hF
     exact hne
   have hRx:R=.inl x:=by
    have:=HPr.out.res
    unfold Sq.lefts at this
    rw [hF] at this
    exact (Option.some.inj this).symm
   subst hRx
   have KF1:=show Hid (∀ w1,Below w.heap.size w w1→Calls Tryz.prog 108 #[.slice (some ⟨g,cr.o,none⟩) r.length cr.c] w1 fun e w'=>e=.returned (.tuple #[.slice none 0 0,.slice none 0 0,.agg #[.int .i64 x.1,.int .i64 x.2.l,.int .i64 x.2.c,.int .i64 x.2.o]])∧Below w1.heap.size w1 w') from fun w1 hb=>(KF.out w1 cr r hb HPr.out.at_ HPr.out.ends HPr.out.pos HPr.out.sz).mono fun e w' h=>by rw [hF] at h;exact h
   have hx3':(x.1 != 0)=true:=by simpa using hx0
   clear KF KS hF hx0 HPr
   go_wp2_with fail
   refine (KF1.out _ HW.out.bel).mono ?_
   rintro e w2 ⟨rfl,hb2⟩
   have X2:=show Hid (LfW w w2 u5 g acc) from HW.out.later hb2
   clear hb2 HW KF1
   obtain ⟨w3,hw3⟩:∃ w3,w3=w2.alloc (Obj.cells #[.int .i64 x.1,.int .i64 x.2.l,.int .i64 x.2.c,.int .i64 x.2.o] 52):=⟨_,rfl⟩
   have hb3:Below w2.heap.size w2 w3:=by rw [hw3];exact below_alloc _ _
   have hs3:Fl w3 w2.heap.size x.1 x.2.l x.2.c x.2.o:=by rw [hw3];exact heap_alloc_new _ _
   have X3:=show Hid (LfW w w3 u5 g acc) from X2.out.later hb3
   have r0:=X3.out.flt.c0;have r1:=X3.out.flt.c1;have r2:=X3.out.flt.c2;have r3:=X3.out.flt.c3;have rf:=X3.out.flt.fr
   have s0:=hs3.c0;have s1:=hs3.c1;have s2:=hs3.c2;have s3:=hs3.c3
   have hne:¬ w2.heap.size=w.heap.size:=by have:=X2.out.flt.lt;omega
   have hne2:¬ w.heap.size=w2.heap.size:=fun e=>hne e.symm
   go_wp2_with fail
   rw [← hw3]
   clear hw3 hb3 hs3 X2
   go_wp2_with fail
   go_region
   go_wp2_with fail
   refine bodyPost_ret (results_tmp2_cell rfl _ _ w.heap.size _ _ _ _ rfl (Fl.drew (X3.out.flt.s4 x.1 x.2.l x.2.c x.2.o)) Tryz.underlying52 rfl (by kernel_rfl)) rfl ?_
   exact ⟨rfl,((((X3.out.bel.setCell (Nat.le_refl _) _).setCell (Nat.le_refl _) _).setCell (Nat.le_refl _) _).setCell (Nat.le_refl _) _).drew⟩
  | inr n =>
   obtain ⟨hb1,hb2,-,-⟩:=Sq.fst_bound HPr.out.ends HPr.out.pos hF
   obtain ⟨o2,ho2⟩:∃ o2,o2=cr.o+n * 6:=⟨_,rfl⟩
   obtain ⟨l2,hl2⟩:∃ l2,l2=r.length - n:=⟨_,rfl⟩
   obtain ⟨c2,hc2⟩:∃ c2,c2=cr.c - n:=⟨_,rfl⟩
   have hl2p:0<l2:=by omega
   have hl2c:l2≤c2:=by omega
   have KF1:=show Hid (∀ w1,Below w.heap.size w w1→Calls Tryz.prog 108 #[.slice (some ⟨g,cr.o,none⟩) r.length cr.c] w1 fun e w'=>e=.returned (.tuple #[.slice (some ⟨g,cr.o,none⟩) n cr.c,.slice (some ⟨g,o2,none⟩) l2 c2,.agg #[.int .i64 0,.int .i64 0,.int .i64 0,.int .i64 0]])∧Below w1.heap.size w1 w') from fun w1 hb=>(KF.out w1 cr r hb HPr.out.at_ HPr.out.ends HPr.out.pos HPr.out.sz).mono fun e w' h=>by rw [hF] at h;rw [ho2,hl2,hc2];exact h
   have HD:=show Hid (TsAt w g ⟨c2,o2⟩ (r.drop n)∧Sq.Ends (r.drop n)∧(r.drop n).length=l2∧TsAt w g cr (r.take n)∧(r.take n).length=n∧(∀ t ∈ r.drop n,t.s.size≤140737488351232)∧(∀ t ∈ r.take n,t.s.size≤140737488351232)) from by
    refine ⟨?_,HPr.out.ends.drop n,by rw [List.length_drop,hl2],HPr.out.at_.take n,by rw [List.length_take];omega,fun t ht=>HPr.out.sz t (List.mem_of_mem_drop ht),fun t ht=>HPr.out.sz t (List.mem_of_mem_take ht)⟩
    rw [ho2,hc2]
    exact HPr.out.at_.drop n
   have HQ:=show Hid ((if Sx.sgn (Sx.tk (r.drop n) 0) [44] then Sq.lefts f' (acc.map (·.2) ++ [r.take n]) (r.drop (n+1)) else some (.inr (acc.map (·.2) ++ [r.take n],r.drop n)))=some R) from by
    have:=HPr.out.res
    unfold Sq.lefts at this
    rw [hF] at this
    exact this
   have HPS:=show Hid (∀ p ∈ acc,TsAt w g p.1 p.2∧∀ t ∈ p.2,t.s.size≤140737488351232) from HPr.out.parts
   have hacc:acc.length≤1099511627777:=by omega
   have HFW:=show Hid (acc.length+1+l2≤1099511627777∧r.length<f'+1∧l2<r.length) from ⟨by omega,HPr.out.fuel,by omega⟩
   have hcmx:c2≤maxLen:=by omega
   clear KF hF HPr hcap hfew hl2 hc2 ho2 hpos
   go_wp2_with fail
   refine (KF1.out _ HW.out.bel).mono ?_
   rintro e w2 ⟨rfl,hbw2⟩
   have X2:=show Hid (LfW w w2 u5 g acc) from HW.out.later hbw2
   clear hbw2 HW KF1
   obtain ⟨xs,hxs⟩:∃ xs,xs=acc.map (partV g):=⟨_,rfl⟩
   have HO:=show Hid (w2.ownsRow (w.heap.size+1) 97 1 u5 acc.length xs) from by rw [hxs];exact X2.out.own
   have HXS:=show Hid (acc.map (partV g)=xs) from hxs.symm
   clear hxs
   have hlt2:w.heap.size<w2.heap.size:=X2.out.flt.lt
   have HN1:=show Hid (∀ u ∈ [Value.slice (some ⟨g,cr.o,none⟩) n cr.c],u.oneCell'=true) from fun u hu=>by rw [List.mem_singleton.1 hu];rfl
   go_wp2_with (at_builtin;refine wpList_append_own _ rfl (.tmp 19) (.tmp 21) 96 rfl (w.heap.size+1) 97 i0 _ 1 24 Tryz.underlying96 hi hz0 hz1 hz2 rfl (by decide) u5 acc.length xs rfl (own_belowM (own_belowM HO.out (below_alloc _ _)) (below_alloc _ _)) ⟨w2.heap.size+1,0,none⟩ 1 1 [.slice (some ⟨g,cr.o,none⟩) n cr.c] rfl rfl (Tw.lit_newsV _ _ _ _ (by simp)) HN1.out (by unfold maxLen;omega) (by omega) (by simp;omega) ?_)
   intro v' w5 hown5 hg5 _
   have hnf:∀ k,u5.ownBlock=some k→w.heap.size+1≤k:=fun k e=>(own_ltM HO.out k e).1
   have hb2':Below w2.heap.size w2 ((w2.alloc (Obj.cells #[.int .i64 0,.int .i64 0,.int .i64 0,.int .i64 0] 52)).alloc (Obj.cells #[.slice (some ⟨g,cr.o,none⟩) n cr.c] 97)):=((Below.refl _ _).alloc (Nat.le_refl _) _).alloc (by simp) _
   have X5:=show Hid (LfW w w5 v' g (acc ++ [(cr,r.take n)])) from by
    refine ⟨?_,?_,?_⟩
    ·rw [List.length_append,List.map_append,HXS.out]
     have e1:List.map (partV g) [(cr,r.take n)]=[.slice (some ⟨g,cr.o,none⟩) n cr.c]:=by
      show [Value.slice (some ⟨g,cr.o,none⟩) (r.take n).length cr.c]=_
      rw [HD.out.2.2.2.2.1]
     rw [e1]
     exact hown5
    ·refine (hg5.block _ ?_ (fun e => ?_)).trans ((hb2'.block _ hlt2).trans X2.out.flt)
     ·have:=hb2'.size;omega
     ·have:=hnf _ e.symm;omega
    ·exact (X2.out.bel.trans (hb2'.mono X2.out.bel.size)).grown hg5 (by have:=hb2'.size;have:=X2.out.bel.size;omega) (fun k e=>by have:=hnf k e;omega)
   have hbw5:Below w.heap.size w w5:=X5.out.bel
   have hT5:=HD.out.1.laterO hbw5 HD.out.1.glt
   have hk0:0<(r.drop n).length:=by rw [HD.out.2.2.1];exact hl2p
   have hcell:=hT5.cellO hk0
   rw [← tk_get hk0] at hcell
   have HZS:=show Hid (Sx.sgn (Sx.tk (r.drop n) 0) [44]=true→1<l2) from fun h=>by
    have:=Sq.sgn_stop HD.out.2.1 h
    rw [HD.out.2.2.1] at this
    omega
   generalize Sx.tk (r.drop n) 0=z at *
   obtain ⟨zk,zs,zn,zl,zc,zo⟩:=z
   have d0:=hcell 0 (by omega);have d1:=hcell 1 (by omega);have d2:=hcell 2 (by omega);have d3:=hcell 3 (by omega);have d4:=hcell 4 (by omega);have d5:=hcell 5 (by omega)
   simp only [tnC,Nat.zero_mul,Nat.add_zero,List.getElem?_cons_zero,List.getElem?_cons_succ] at d0 d1 d2 d3 d4 d5
   have hl2i:(0:Int)<(l2:Int):=by omega
   clear hcell hT5 hk0 hbw5 hown5 hg5 hb2' hnf X2 HO HXS HN1
   go_wp2_with fail
   refine (KS.out _ ⟨zk,zs,zn,zl,zc,zo⟩).mono ?_
   rintro e w6 ⟨rfl,hb6⟩
   have X6:=show Hid (LfW w w6 v' g (acc ++ [(cr,r.take n)])) from X5.out.later hb6
   clear hb6 X5 d0 d1 d2 d3 d4 d5 KS
   have hq:=HQ.out
   have r0:=X6.out.flt.c0;have r1:=X6.out.flt.c1;have r2:=X6.out.flt.c2;have r3:=X6.out.flt.c3;have rf:=X6.out.flt.fr
   have HPQ:=show Hid (∀ p ∈ acc ++ [(cr,r.take n)],TsAt w g p.1 p.2∧∀ t ∈ p.2,t.s.size≤140737488351232) from fun p hp=>by
    rcases List.mem_append.1 hp with h | h
    ·exact HPS.out p h
    ·rw [List.mem_singleton.1 h]
     exact ⟨HD.out.2.2.2.1,HD.out.2.2.2.2.2.2⟩
   have HMP:=show Hid ((acc ++ [(cr,r.take n)]).map (·.2)=acc.map (·.2) ++ [r.take n]∧(acc ++ [(cr,r.take n)]).length=acc.length+1) from ⟨by simp,by simp⟩
   generalize acc ++ [(cr,r.take n)]=acc' at *
   cases hsg:Sx.sgn ⟨zk,zs,zn,zl,zc,zo⟩ [44]
   ·rw [hsg] at hq
    simp only [Bool.false_eq_true,if_false] at hq
    have hR:=Option.some.inj hq
    subst hR
    clear hq HQ hsg
    go_wp2_with fail
    refine bodyPost_ret (results_tmp2_cell rfl _ _ w.heap.size _ _ _ _ rfl (X6.out.flt.s4 0 0 0 0) Tryz.underlying52 rfl (by kernel_rfl)) rfl ?_
    refine ⟨⟨v',acc',⟨c2,o2⟩,?_,HMP.out.1,?_,HPQ.out,HD.out.1,HD.out.2.1,by rw [HD.out.2.2.1];exact hl2p,HD.out.2.2.2.2.2.1,by rw [HMP.out.2];omega,by rw [HMP.out.2];have:=HFW.out.1;omega⟩,(((X6.out.bel.setCell (Nat.le_refl _) _).setCell (Nat.le_refl _) _).setCell (Nat.le_refl _) _).setCell (Nat.le_refl _) _⟩
    ·rw [HD.out.2.2.1];rfl
    ·refine own_lowM (own_keptM X6.out.own fun k hk => ?_) (Nat.le_succ _)
     have hne:k≠w.heap.size:=by have:=(own_ltM X6.out.own k hk).1;omega
     rw [Below.heap_setCell _ _ _ _ hne,Below.heap_setCell _ _ _ _ hne,Below.heap_setCell _ _ _ _ hne,Below.heap_setCell _ _ _ _ hne]
   ·rw [hsg] at hq
    simp only [if_true] at hq
    have HQ2:=show Hid _ from hq
    have h1l:=HZS.out hsg
    have hc1:¬ c2=1:=by omega
    have hl1:1≤l2:=by omega
    clear hq HQ hsg HZS
    go_wp2_with fail
    have hdd:(r.drop n).drop 1=r.drop (n+1):=by rw [List.drop_drop]
    have hlen:(r.drop (n+1)).length=l2 - 1:=by rw [← hdd,List.length_drop,HD.out.2.2.1]
    have hfw:=HFW.out
    refine ⟨⟨f',acc',⟨c2 - 1,o2+1 * 6⟩,r.drop (n+1),by rw [hlen],⟨?_,?_,by omega,by omega,fun t ht=>HD.out.2.2.2.2.2.1 t (by rw [← hdd] at ht;exact List.mem_of_mem_drop ht),by rw [HMP.out.1];exact HQ2.out,by rw [HMP.out.2];omega,HPQ.out⟩,X6⟩,?_⟩
    ·rw [← hdd];exact HD.out.1.drop 1
    ·rw [← hdd];exact HD.out.2.1.drop 1
    ·show l2 - 1<r.length
     omega
end
end Go.Proofs.YtkmmlimekachbaaGreatDoor
/-
  The call sides of layer 8: the tokens of each formula of a sequent's text. For every row of at most 2^40 + 1 tokens whose last one is none that is read. No other condition. (Written by gensides.py.)
-/
namespace Go.Proofs.YtkmmlimekachbaaGreatDoor
open Go.RowKit Go.Maps
open Fm (Nd)
open Sx (Tn T)
theorem fst_ne {r:List Tn} {x:Int × Tn} (hF:Sq.fstR r=.inl x):x.1≠0:=by
 unfold Sq.fstR at hF
 split at hF
 ·cases hF
 ·rename_i hne
  injection hF with hF
  subst hF
  exact hne
theorem LfW.s4 {w wr:World} {left:Value} {g:Nat} {acc:List (Cp × List Tn)} (h:LfW w wr left g acc):LfW w ((((wr.setCell ⟨w.heap.size,0,none⟩ (.int .i64 0)).setCell ⟨w.heap.size,1,none⟩ (.int .i64 0)).setCell ⟨w.heap.size,2,none⟩ (.int .i64 0)).setCell ⟨w.heap.size,3,none⟩ (.int .i64 0)) left g acc:=by
 refine ⟨own_keptM h.own fun k hk => ?_,h.flt.s4 0 0 0 0,(((h.bel.setCell (Nat.le_refl _) _).setCell (Nat.le_refl _) _).setCell (Nat.le_refl _) _).setCell (Nat.le_refl _) _⟩
 have hne:k≠w.heap.size:=by have:=(own_ltM h.own k hk).1;omega
 rw [Below.heap_setCell _ _ _ _ hne,Below.heap_setCell _ _ _ _ hne,Below.heap_setCell _ _ _ _ hne,Below.heap_setCell _ _ _ _ hne]
theorem LfW.drew {w wr:World} {left:Value} {g:Nat} {acc:List (Cp × List Tn)} (h:LfW w wr left g acc):LfW w wr.drew left g acc:=⟨h.own,h.flt,h.bel.drew⟩
def SidesA (w:World) (g:Nat):(Int × Tn) ⊕ (List (List Tn) × List Tn)→Ending→World→Prop
 | .inl x,e,_=>e=.returned (.tuple #[.slice none 0 0,.slice none 0 0,fltA x.1 x.2])
 | .inr (ps,l),e,w'=>∃ (v:Value) (qs:List (Cp × List Tn)) (cl:Cp),e=.returned (.tuple #[v,partV g (cl,l),fltA 0 Sx.tz])∧qs.map (·.2)=ps∧w'.ownsRow w.heap.size 97 1 v qs.length (qs.map (partV g))∧(∀ p ∈ qs,TsAt w g p.1 p.2∧∀ t ∈ p.2,t.s.size≤140737488351232)∧TsAt w g cl l∧(∀ t ∈ l,t.s.size≤140737488351232)∧qs.length≤1099511627777
theorem lefts_ne:∀ (f:Nat) (acc:List (List Tn)) (ts:List Tn) (x:Int × Tn),Sq.lefts f acc ts=some (.inl x)→x.1≠0
 | 0,_,_,_,h=>by cases h
 | f+1,acc,ts,x,h=>by
  unfold Sq.lefts at h
  split at h
  ·rename_i y hy
   have:y=x:=by injection h with h;injection h
   rw [← this]
   exact fst_ne hy
  ·split at h
   ·exact lefts_ne f _ _ _ h
   ·cases h
theorem leftsR_ne {ts:List Tn} (hE:Sq.Ends ts) (h0:0<ts.length) {x:Int × Tn} (h:Sq.leftsR ts=.inl x):x.1≠0:=by
 obtain ⟨R,hR⟩:=Sq.lefts_total (ts.length+1) [] ts hE h0 (by omega)
 unfold Sq.leftsR at h
 rw [hR] at h
 have:R=.inl x:=h
 rw [this] at hR
 exact lefts_ne _ _ _ _ hR
theorem own_shape {w:World} {B n ty k6:Nat} {v:Value} {xs:List Value} (h:w.ownsRow B ty k6 v n xs) (hn:0<n):∃ gq cq cur,v=.slice (some ⟨gq,0,none⟩) n cq∧B≤gq∧w.heap[gq]?=some (.cells cur ty (0,0))∧n≤cq∧cq≤maxLen∧cur.toList.take (n * k6)=xs:=by
 rcases h.2 with ⟨_,h1⟩ | ⟨g,cap,cur,h1,hg,hh,h2,h3,h4,h5⟩
 ·omega
 ·exact ⟨g,cap,cur,h1,hg,hh,h2,h3,h5⟩
theorem cell_same {W W':World} {gq:Nat} {o:Nat} (h:W'.heap[gq]?=W.heap[gq]?):W'.cell? ⟨gq,o,none⟩=W.cell? ⟨gq,o,none⟩:=by simp only [World.cell?,h]
theorem TsAt.back {w w':World} {g:Nat} {cap:Cp} {ts:List Tn} (h:TsAt w' g cap ts) {n:Nat} (hb:Below n w w') (hn:g<n):TsAt w g cap ts:=h.keep (hb.block _ hn).symm
section
variable (w:World) {g:Nat} {cap:Cp} {ts:List Tn}
set_option maxRecDepth 100000 in
set_option maxHeartbeats 2000000 in
theorem sides_any (hK:TsAt w g cap ts) (hz:∀ t ∈ ts,t.s.size≤140737488351232) (hE:Sq.Ends ts) (h0:0<ts.length) (hl:ts.length≤1099511627777) :
 Calls Tryz.prog 50 #[.slice (some ⟨g,cap.o,none⟩) ts.length cap.c] w fun e w'=>SidesA w g (Sq.sidesR ts) e w'∧Below w.heap.size w w':=by
 have hgw:=hK.glt
 have KF:=show Hid (∀ (w1:World) (cr:Cp) (r:List Tn),Below w.heap.size w w1→TsAt w g cr r→Sq.Ends r→0<r.length→(∀ t ∈ r,t.s.size≤140737488351232)→Calls Tryz.prog 108 #[.slice (some ⟨g,cr.o,none⟩) r.length cr.c] w1 fun e w'=>e=.returned (fstV g cr r.length (Sq.fstR r))∧Below w1.heap.size w1 w') from fun w1 cr r hb h1 h2 h3 h4=>first_any w1 (h1.laterO hb h1.glt) h4 h2 h3
 have KS:=show Hid (∀ (w1:World) (t:Tn),Calls Tryz.prog 105 #[tnV t,.string ⟨#[124,45]⟩] w1 fun e w'=>e=.returned (.bool (Sx.sgn t [124,45]))∧Below w1.heap.size w1 w') from fun w1 t=>isSign_any w1 t ⟨#[124,45]⟩
 have KR:=show Hid (∀ (w1:World) (t:Tn),Calls Tryz.prog 107 #[tnV t] w1 fun e w'=>e=.returned (fltA 41 t)∧Below w1.heap.size w1 w') from fun w1 t=>qrefuse_any w1 t
 have KL:=show Hid (∀ (w1:World),Below w.heap.size w w1→Calls Tryz.prog 106 #[.slice (some ⟨g,cap.o,none⟩) ts.length cap.c] w1 fun e w'=>LeftsA w1 g (Sq.leftsR ts) e w'∧Below w1.heap.size w1 w') from fun w1 hb=>leftSide_any w1 (hK.laterO hb hgw) hz hE h0 hl
 have HW0:=show Hid (LfW w (w.alloc (Obj.cells #[.int .i64 0,.int .i64 0,.int .i64 0,.int .i64 0] 52)) (.slice none 0 0) g []) from ⟨World.ownsRow_nil _ _ _ _,fl_new _ _ _ _ _,below_alloc w _⟩
 obtain ⟨R,hR⟩:∃ R,R=Sq.sidesR ts:=⟨_,rfl⟩
 rw [← hR]
 have HG0:=show Hid (Sx.sgn (Sx.tk ts 0) [124,45]=true→R=Sq.goalR [] (ts.drop 1)) from fun h=>by rw [hR];unfold Sq.sidesR;exact if_pos h
 have HG1:=show Hid (Sx.sgn (Sx.tk ts 0) [124,45]=false→R=match Sq.leftsR ts with | .inl x=>.inl x | .inr (ps,r)=>if ps.length=1∧(Sx.tk r 0).k=0 then .inr ([],ps.headD []) else if Sx.sgn (Sx.tk r 0) [124,45] then Sq.goalR ps (r.drop 1) else .inl (41,Sx.tk r 0)) from fun h=>by rw [hR];unfold Sq.sidesR;rw [if_neg (by rw [h];decide)];rfl
 have HK:=show Hid (TsAt w g cap ts∧Sq.Ends ts∧∀ t ∈ ts,t.s.size≤140737488351232) from ⟨hK,hE,hz⟩
 have hcell:=(hK.laterO HW0.out.bel hgw).cellO h0
 rw [← tk_get h0] at hcell
 have hl0:(0:Int)<(ts.length:Int):=by omega
 obtain ⟨hc1,hc2,-⟩:=hK.cap
 clear hR hK hE hz hl
 obtain ⟨z,hzt⟩:∃ z,z=Sx.tk ts 0:=⟨_,rfl⟩
 rw [← hzt] at hcell HG0 HG1
 obtain ⟨zk,zs,zn,zl,zc,zo⟩:=z
 have d0:=hcell 0 (by omega);have d1:=hcell 1 (by omega);have d2:=hcell 2 (by omega);have d3:=hcell 3 (by omega);have d4:=hcell 4 (by omega);have d5:=hcell 5 (by omega)
 simp only [tnC,Nat.zero_mul,Nat.add_zero,List.getElem?_cons_zero,List.getElem?_cons_succ] at d0 d1 d2 d3 d4 d5
 have HZT:=show Hid (⟨zk,zs,zn,zl,zc,zo⟩=Sx.tk ts 0) from hzt
 clear hcell hzt
 go_enter Tryz.func50,Tryz.ntmps50
 go_wp2_with fail
 refine (KS.out _ ⟨zk,zs,zn,zl,zc,zo⟩).mono ?_
 rintro e w1 ⟨rfl,hbs⟩
 have HW1:=show Hid (LfW w w1 (.slice none 0 0) g []) from HW0.out.later hbs
 clear hbs HW0 d0 d1 d2 d3 d4 d5
 cases hsg:Sx.sgn ⟨zk,zs,zn,zl,zc,zo⟩ [124,45]
 ·have hR1:=HG1.out hsg
  have HNE:=show Hid (∀ x,Sq.leftsR ts=.inl x→x.1≠0) from fun x=>leftsR_ne HK.out.2.1 h0
  clear HG0 HG1 hsg HZT
  cases hLs:Sq.leftsR ts with
  | inl x =>
   rw [hLs] at hR1 KL
   simp only at hR1
   subst hR1
   simp only [LeftsA,fltA] at KL
   have hx3':(x.1 != 0)=true:=by simpa using HNE.out x hLs
   clear hLs HNE KF KS KR
   go_wp2_with fail
   refine (KL.out _ HW1.out.bel).mono ?_
   rintro e w2 ⟨rfl,hb2⟩
   have X2:=show Hid (LfW w w2 (.slice none 0 0) g []) from HW1.out.later hb2
   clear hb2 HW1 KL
   have r0:=X2.out.flt.c0;have r1:=X2.out.flt.c1;have r2:=X2.out.flt.c2;have r3:=X2.out.flt.c3;have rf:=X2.out.flt.fr
   obtain ⟨w3,hw3⟩:∃ w3,w3=(((w2.setCell ⟨w.heap.size,0,none⟩ (.int .i64 x.1)).setCell ⟨w.heap.size,1,none⟩ (.int .i64 x.2.l)).setCell ⟨w.heap.size,2,none⟩ (.int .i64 x.2.c)).setCell ⟨w.heap.size,3,none⟩ (.int .i64 x.2.o):=⟨_,rfl⟩
   have X3:=show Hid (Fl w3 w.heap.size x.1 x.2.l x.2.c x.2.o∧Below w.heap.size w w3) from by rw [hw3];exact ⟨X2.out.flt.s4 x.1 x.2.l x.2.c x.2.o,(((X2.out.bel.setCell (Nat.le_refl _) _).setCell (Nat.le_refl _) _).setCell (Nat.le_refl _) _).setCell (Nat.le_refl _) _⟩
   have q0:=X3.out.1.c0;have q1:=X3.out.1.c1;have q2:=X3.out.1.c2;have q3:=X3.out.1.c3;have qf:=X3.out.1.fr
   go_wp2_with fail
   rw [← hw3]
   clear hw3 X2 r0 r1 r2 r3 rf
   go_wp2_with fail
   go_region
   go_wp2_with fail
   refine bodyPost_ret (results_tmp2_cell rfl _ _ w.heap.size _ _ _ _ rfl (Fl.drew (X3.out.1.s4 x.1 x.2.l x.2.c x.2.o)) Tryz.underlying52 rfl (by kernel_rfl)) rfl ?_
   exact ⟨rfl,((((X3.out.2.setCell (Nat.le_refl _) _).setCell (Nat.le_refl _) _).setCell (Nat.le_refl _) _).setCell (Nat.le_refl _) _).drew⟩
  | inr pr =>
   obtain ⟨ps,r⟩:=pr
   rw [hLs] at hR1 KL
   simp only at hR1
   simp only [LeftsA,fltA,Sx.tz] at KL
   clear hLs HNE
   have hlt1:w.heap.size<w1.heap.size:=HW1.out.flt.lt
   have KL1:=show Hid (Calls Tryz.prog 106 #[.slice (some ⟨g,cap.o,none⟩) ts.length cap.c] w1 fun e w'=>∃ (gq cq:Nat) (qs:List (Cp × List Tn)) (cr:Cp),e=.returned (.tuple #[.slice (some ⟨gq,0,none⟩) qs.length cq,.slice (some ⟨g,cr.o,none⟩) r.length cr.c,.agg #[.int .i64 0,.int .i64 0,.int .i64 0,.int .i64 0]])∧w.heap.size<gq∧qs.map (·.2)=ps∧LfW w w' (.slice (some ⟨gq,0,none⟩) qs.length cq) g qs∧(∀ p ∈ qs,TsAt w g p.1 p.2∧∀ t ∈ p.2,t.s.size≤140737488351232)∧TsAt w g cr r∧Sq.Ends r∧0<r.length∧(∀ t ∈ r,t.s.size≤140737488351232)∧0<qs.length∧qs.length≤1099511627777∧qs.length≤cq∧cq≤maxLen∧(∀ (h:0<qs.length),w'.cell? ⟨gq,0,none⟩=some (partV g qs[0]))) from (KL.out w1 HW1.out.bel).mono fun e w' ⟨⟨v,qs,cr,he,hm,ho,hp,ht,hE,hr0,hz,hq0,hql⟩,hb⟩=>by
    obtain ⟨gq,cq,cur,rfl,hgq,hh,h1,h2,h3⟩:=own_shape ho hq0
    refine ⟨gq,cq,qs,cr,he,by omega,hm,⟨own_lowM ho hlt1,(hb.block _ hlt1).trans HW1.out.flt,HW1.out.bel.trans (hb.mono HW1.out.bel.size)⟩,fun p hp'=>⟨(hp p hp').1.back HW1.out.bel hgw,(hp p hp').2⟩,ht.back HW1.out.bel hgw,hE,hr0,hz,hq0,hql,h1,h2,fun h => ?_⟩
    rw [cell_of_row w' gq 0 cur _ _ hh]
    have e1:cur.toList[0]?=(cur.toList.take (qs.length * 1))[0]?:=by rw [List.getElem?_take,if_pos (by omega)]
    rw [← Array.getElem?_toList,e1,h3,List.getElem?_map,List.getElem?_eq_getElem h]
    rfl
   clear KL HK
   go_wp2_with fail
   refine KL1.out.mono ?_
   rintro e w2 ⟨gq,cq,qs,cr,rfl,hgq,hm,hW2,hpq,htr,hEr,hr0,hzr,hq0,hql,hqc,hqm,hc0⟩
   have HW2:=show Hid (LfW w w2 (.slice (some ⟨gq,0,none⟩) qs.length cq) g qs) from hW2
   have HMQ:=show Hid (qs.map (·.2)=ps∧(∀ p ∈ qs,TsAt w g p.1 p.2∧∀ t ∈ p.2,t.s.size≤140737488351232)∧qs.length≤1099511627777) from ⟨hm,hpq,hql⟩
   have HA:=show Hid (TsAt w g cr r∧Sq.Ends r∧∀ t ∈ r,t.s.size≤140737488351232) from ⟨htr,hEr,hzr⟩
   have HC0:=show Hid (∀ (h:0<qs.length),w2.cell? ⟨gq,0,none⟩=some (partV g qs[0])) from hc0
   have hri:(0:Int)<(r.length:Int):=by omega
   obtain ⟨hcr1,hcr2,-⟩:=htr.cap
   have r0:=HW2.out.flt.c0;have r1:=HW2.out.flt.c1;have r2:=HW2.out.flt.c2;have r3:=HW2.out.flt.c3;have rf:=HW2.out.flt.fr
   obtain ⟨w3,hw3⟩:∃ w3,w3=(((w2.setCell ⟨w.heap.size,0,none⟩ (.int .i64 0)).setCell ⟨w.heap.size,1,none⟩ (.int .i64 0)).setCell ⟨w.heap.size,2,none⟩ (.int .i64 0)).setCell ⟨w.heap.size,3,none⟩ (.int .i64 0):=⟨_,rfl⟩
   have HW3:=show Hid (LfW w w3 (.slice (some ⟨gq,0,none⟩) qs.length cq) g qs) from by rw [hw3];exact HW2.out.s4
   have hcell:=(htr.laterO HW2.out.bel hgw).cellO hr0
   rw [← tk_get hr0] at hcell
   have hgn:¬ g=w.heap.size:=by omega
   have hgn2:¬ w.heap.size=g:=by omega
   have hqn:¬ gq=w.heap.size:=by omega
   have hqn2:¬ w.heap.size=gq:=by omega
   obtain ⟨z,hzt⟩:∃ z,z=Sx.tk r 0:=⟨_,rfl⟩
   rw [← hzt] at hcell hR1
   obtain ⟨zk,zs,zn,zl,zc,zo⟩:=z
   have d0:=hcell 0 (by omega);have d1:=hcell 1 (by omega);have d2:=hcell 2 (by omega);have d3:=hcell 3 (by omega);have d4:=hcell 4 (by omega);have d5:=hcell 5 (by omega)
   simp only [tnC,Nat.zero_mul,Nat.add_zero,List.getElem?_cons_zero,List.getElem?_cons_succ] at d0 d1 d2 d3 d4 d5
   have HZT:=show Hid (⟨zk,zs,zn,zl,zc,zo⟩=Sx.tk r 0) from hzt
   have hpl:ps.length=qs.length:=by rw [← hm];simp
   rw [hpl] at hR1
   clear hcell hzt htr hEr hzr hW2 hm hpq hc0 HW1 KL1
   by_cases hA:qs.length=1∧zk=0
   ·obtain ⟨hA1,hA2⟩:=hA
    obtain ⟨p0,rfl⟩:=List.length_eq_one_iff.1 hA1
    rw [if_pos ⟨hA1,hA2⟩] at hR1
    subst hA2
    have hpsd:ps.headD []=p0.2:=by rw [← HMQ.out.1];rfl
    rw [hpsd] at hR1
    subst hR1
    have c3:w2.cell? ⟨gq,0,none⟩=some (.slice (some ⟨g,p0.1.o,none⟩) p0.2.length p0.1.c):=HC0.out hq0
    have q0:=HW3.out.flt.c0;have q1:=HW3.out.flt.c1;have q2:=HW3.out.flt.c2;have q3:=HW3.out.flt.c3;have qf:=HW3.out.flt.fr
    have c3':w3.cell? ⟨gq,0,none⟩=some (.slice (some ⟨g,p0.1.o,none⟩) p0.2.length p0.1.c):=by
     rw [hw3,← c3]
     refine cell_same ?_
     have hne:gq≠w.heap.size:=hqn
     rw [Below.heap_setCell _ _ _ _ hne,Below.heap_setCell _ _ _ _ hne,Below.heap_setCell _ _ _ _ hne,Below.heap_setCell _ _ _ _ hne]
    simp only [List.length_singleton] at *
    clear HC0 KF KS KR hA1
    go_wp2_with fail
    rw [← hw3]
    clear hw3 r0 r1 r2 r3 rf
    go_wp2_with fail
    go_region
    go_wp2_with fail
    refine bodyPost_ret (results_tmp2_cell rfl _ _ w.heap.size _ _ _ _ rfl (Fl.drew (HW3.out.flt.s4 0 0 0 0)) Tryz.underlying52 rfl (by kernel_rfl)) rfl ?_
    exact ⟨⟨_,[],p0.1,rfl,rfl,World.ownsRow_nil _ _ _ _,fun p hp=>(by cases hp),(HMQ.out.2.1 p0 (by simp)).1,(HMQ.out.2.1 p0 (by simp)).2,by simp⟩,((((HW3.out.bel.setCell (Nat.le_refl _) _).setCell (Nat.le_refl _) _).setCell (Nat.le_refl _) _).setCell (Nat.le_refl _) _).drew⟩
   ·rw [if_neg hA] at hR1
    by_cases h1:qs.length=1
    ·have hzk:¬ zk=0:=fun e=>hA ⟨h1,e⟩
     have hzk':(zk == 0)=false:=by simpa using hzk
     clear HC0
     have h1i:(qs.length:Int)=1:=by omega
     clear h1
     cases hsg:Sx.sgn ⟨zk,zs,zn,zl,zc,zo⟩ [124,45]
     ·rw [hsg] at hR1
      simp only [Bool.false_eq_true,if_false] at hR1
      subst hR1
      have KS1:=show Hid (∀ (w1:World),Calls Tryz.prog 105 #[.agg #[.int .i64 zk,.string zs,.int .i64 zn,.int .i64 zl,.int .i64 zc,.int .i64 zo],.string ⟨#[124,45]⟩] w1 fun e w'=>e=.returned (.bool false)∧Below w1.heap.size w1 w') from fun w1=>by have:=KS.out w1 ⟨zk,zs,zn,zl,zc,zo⟩;rw [hsg] at this;exact this
      clear hsg KS KF
      go_wp2_with fail
      rw [← hw3]
      clear hw3 r0 r1 r2 r3 rf d0 d1 d2 d3 d4 d5
      refine (KS1.out _).mono ?_
      rintro e w4 ⟨rfl,hb4⟩
      have HW4:=show Hid (LfW w w4 (.slice (some ⟨gq,0,none⟩) qs.length cq) g qs) from HW3.out.later hb4
      have hcell:=(HA.out.1.laterO HW4.out.bel hgw).cellO hr0
      rw [← tk_get hr0,← HZT.out] at hcell
      have d0:=hcell 0 (by omega);have d1:=hcell 1 (by omega);have d2:=hcell 2 (by omega);have d3:=hcell 3 (by omega);have d4:=hcell 4 (by omega);have d5:=hcell 5 (by omega)
      simp only [tnC,Nat.zero_mul,Nat.add_zero,List.getElem?_cons_zero,List.getElem?_cons_succ] at d0 d1 d2 d3 d4 d5
      clear hcell
      clear hb4 KS1 HW3 HW2
      go_wp2_with fail
      refine (KR.out _ ⟨zk,zs,zn,zl,zc,zo⟩).mono ?_
      rintro e w5 ⟨rfl,hb5⟩
      have X4:=show Hid (LfW w w5 (.slice (some ⟨gq,0,none⟩) qs.length cq) g qs) from HW4.out.later hb5
      clear hb5 HW4 d0 d1 d2 d3 d4 d5
      have q0:=X4.out.flt.c0;have q1:=X4.out.flt.c1;have q2:=X4.out.flt.c2;have q3:=X4.out.flt.c3;have qf:=X4.out.flt.fr
      unfold fltA
      go_wp2_with fail
      refine bodyPost_ret (results_tmp2_cell rfl _ _ w.heap.size _ _ _ _ rfl (X4.out.flt.s4 41 zl zc zo) Tryz.underlying52 rfl (by kernel_rfl)) rfl ?_
      exact ⟨rfl,(((X4.out.bel.setCell (Nat.le_refl _) _).setCell (Nat.le_refl _) _).setCell (Nat.le_refl _) _).setCell (Nat.le_refl _) _⟩
     ·rw [hsg] at hR1
      simp only [if_true] at hR1
      have hturn:Sx.sgn (Sx.tk r 0) [124,45]=true:=by rw [← HZT.out];exact hsg
      have HG:=show Hid (R=Sq.goalR ps (r.drop 1)) from hR1
      have KS1:=show Hid (∀ (w1:World),Calls Tryz.prog 105 #[.agg #[.int .i64 zk,.string zs,.int .i64 zn,.int .i64 zl,.int .i64 zc,.int .i64 zo],.string ⟨#[124,45]⟩] w1 fun e w'=>e=.returned (.bool true)∧Below w1.heap.size w1 w') from fun w1=>by have:=KS.out w1 ⟨zk,zs,zn,zl,zc,zo⟩;rw [hsg] at this;exact this
      clear hsg hR1
      go_wp2_with fail
      rw [← hw3]
      clear hw3 r0 r1 r2 r3 rf d0 d1 d2 d3 d4 d5
      refine (KS1.out _).mono ?_
      rintro e w4 ⟨rfl,hb4⟩
      have HW:=show Hid (LfW w w4 (.slice (some ⟨gq,0,none⟩) qs.length cq) g qs) from HW3.out.later hb4
      clear hb4 KS1 HW3 HW2 HZT hA hgn hgn2 hqn hqn2
      obtain ⟨LL,hLL⟩:∃ LL,LL=r:=⟨_,rfl⟩
      obtain ⟨cl,hcl⟩:∃ cl,cl=cr:=⟨_,rfl⟩
      rw [← hLL,← hcl] at HA
      rw [← hLL] at hturn HG
      obtain ⟨va,hva⟩:∃ va,va=Value.slice (some ⟨gq,0,none⟩) qs.length cq:=⟨_,rfl⟩
      rw [← hLL,← hcl,← hva]
      rw [← hva] at HW
      obtain ⟨KL,-⟩:∃ K:True,K=trivial:=⟨trivial,rfl⟩
      clear hLL hcl hva hcr1 hcr2 hri hr0 hpl
      have hpos:1<LL.length:=by have:=Sq.sgn_stop HA.out.2.1 hturn;omega
      have hcap:=HA.out.1.cap
      obtain ⟨o2,ho2⟩:∃ o2,o2=cl.o+6:=⟨_,rfl⟩
      obtain ⟨l2,hl2⟩:∃ l2,l2=LL.length - 1:=⟨_,rfl⟩
      obtain ⟨c2,hc2⟩:∃ c2,c2=cl.c - 1:=⟨_,rfl⟩
      have HD:=show Hid (TsAt w g ⟨c2,o2⟩ (LL.drop 1)∧Sq.Ends (LL.drop 1)∧(LL.drop 1).length=l2∧(∀ t ∈ LL.drop 1,t.s.size≤140737488351232)) from by
       refine ⟨?_,HA.out.2.1.drop 1,by rw [List.length_drop,hl2],fun t ht=>HA.out.2.2 t (List.mem_of_mem_drop ht)⟩
       rw [ho2,hc2]
       exact HA.out.1.drop 1
      have HQ:=show Hid (R=Sq.goalR ps (LL.drop 1)) from HG.out
      have hl2p:0<l2:=by omega
      have hl2c:l2≤c2:=by omega
      have hcm:cl.c≤maxLen:=hcap.2.1
      have hc1:¬ cl.c=1:=by omega
      have hl1:1≤LL.length:=by omega
      have hlc1:LL.length≤cl.c:=hcap.1
      generalize LL.drop 1=r at *
      have KF1:=show Hid (∀ w1,Below w.heap.size w w1→Calls Tryz.prog 108 #[.slice (some ⟨g,cl.o+6,none⟩) (LL.length - 1) (cl.c - 1)] w1 fun e w'=>e=.returned (fstV g ⟨c2,o2⟩ l2 (Sq.fstR r))∧Below w1.heap.size w1 w') from fun w1 hb=>by
       have:=KF.out w1 ⟨c2,o2⟩ r hb HD.out.1 HD.out.2.1 (by rw [HD.out.2.2.1];exact hl2p) HD.out.2.2.2
       rw [HD.out.2.2.1] at this
       rw [← hl2,← hc2,← ho2]
       exact this
      clear hturn hpos HA HG hcap KF
      cases hF:Sq.fstR r with
      | inl x =>
       have hx0:=fst_ne hF
       have hRx:R=.inl x:=by rw [HQ.out];unfold Sq.goalR;rw [hF]
       subst hRx
       rw [hF] at KF1
       simp only [fstV,fltA] at KF1
       have hx3':(x.1 != 0)=true:=by simpa using hx0
       clear KS KR hF hx0 HD HQ KL
       go_wp2_with fail
       refine (KF1.out _ HW.out.bel).mono ?_
       rintro e w2 ⟨rfl,hb2⟩
       have X2:=show Hid (LfW w w2 va g qs) from HW.out.later hb2
       clear hb2 HW KF1
       have r0:=X2.out.flt.c0;have r1:=X2.out.flt.c1;have r2:=X2.out.flt.c2;have r3:=X2.out.flt.c3;have rf:=X2.out.flt.fr
       obtain ⟨w3,hw3⟩:∃ w3,w3=(((w2.setCell ⟨w.heap.size,0,none⟩ (.int .i64 x.1)).setCell ⟨w.heap.size,1,none⟩ (.int .i64 x.2.l)).setCell ⟨w.heap.size,2,none⟩ (.int .i64 x.2.c)).setCell ⟨w.heap.size,3,none⟩ (.int .i64 x.2.o):=⟨_,rfl⟩
       have X3:=show Hid (Fl w3 w.heap.size x.1 x.2.l x.2.c x.2.o∧Below w.heap.size w w3) from by rw [hw3];exact ⟨X2.out.flt.s4 x.1 x.2.l x.2.c x.2.o,(((X2.out.bel.setCell (Nat.le_refl _) _).setCell (Nat.le_refl _) _).setCell (Nat.le_refl _) _).setCell (Nat.le_refl _) _⟩
       have q0:=X3.out.1.c0;have q1:=X3.out.1.c1;have q2:=X3.out.1.c2;have q3:=X3.out.1.c3;have qf:=X3.out.1.fr
       go_wp2_with fail
       rw [← hw3]
       clear hw3 X2 r0 r1 r2 r3 rf
       go_wp2_with fail
       go_region
       go_wp2_with fail
       refine bodyPost_ret (results_tmp2_cell rfl _ _ w.heap.size _ _ _ _ rfl (Fl.drew (X3.out.1.s4 x.1 x.2.l x.2.c x.2.o)) Tryz.underlying52 rfl (by kernel_rfl)) rfl ?_
       exact ⟨rfl,((((X3.out.2.setCell (Nat.le_refl _) _).setCell (Nat.le_refl _) _).setCell (Nat.le_refl _) _).setCell (Nat.le_refl _) _).drew⟩
      | inr n =>
       obtain ⟨hb1,hb2,-,-⟩:=Sq.fst_bound HD.out.2.1 (by rw [HD.out.2.2.1];exact hl2p) hF
       rw [HD.out.2.2.1] at hb2
       obtain ⟨o3,ho3⟩:∃ o3,o3=o2+n * 6:=⟨_,rfl⟩
       obtain ⟨l3,hl3⟩:∃ l3,l3=l2 - n:=⟨_,rfl⟩
       obtain ⟨c3,hc3⟩:∃ c3,c3=c2 - n:=⟨_,rfl⟩
       rw [hF] at KF1
       simp only [fstV,fltA,Sx.tz] at KF1
       rw [← ho3,← hl3,← hc3] at KF1
       have HD3:=show Hid (TsAt w g ⟨c3,o3⟩ (r.drop n)∧(r.drop n).length=l3∧TsAt w g ⟨c2,o2⟩ (r.take n)∧(r.take n).length=n∧(∀ t ∈ r.take n,t.s.size≤140737488351232)) from by
        refine ⟨?_,by rw [List.length_drop,HD.out.2.2.1,hl3],HD.out.1.take n,by rw [List.length_take,HD.out.2.2.1];omega,fun t ht=>HD.out.2.2.2 t (List.mem_of_mem_take ht)⟩
        rw [ho3,hc3]
        exact HD.out.1.drop n
       have hq3:R=(if (Sx.tk (r.drop n) 0).k=0 then .inr (ps,r.take n) else .inl (41,Sx.tk (r.drop n) 0)):=by rw [HQ.out];unfold Sq.goalR;simp only [hF]
       have HQ3:=show Hid (R=if (Sx.tk (r.drop n) 0).k=0 then .inr (ps,r.take n) else .inl (41,Sx.tk (r.drop n) 0)) from hq3
       clear hq3
       have hl3p:0<l3:=by omega
       have hl3c:l3≤c3:=by omega
       have hl3i:(0:Int)<(l3:Int):=by omega
       clear hF HD HQ KL KS hl2 hc2 ho2 hl3 hc3 ho3
       go_wp2_with fail
       refine (KF1.out _ HW.out.bel).mono ?_
       rintro e w2 ⟨rfl,hbw2⟩
       have X2:=show Hid (LfW w w2 va g qs) from HW.out.later hbw2
       clear hbw2 HW KF1
       have hT5:=HD3.out.1.laterO X2.out.bel HD3.out.1.glt
       have hk0:0<(r.drop n).length:=by rw [HD3.out.2.1];exact hl3p
       have hcell:=hT5.cellO hk0
       rw [← tk_get hk0] at hcell
       generalize Sx.tk (r.drop n) 0=z at *
       obtain ⟨zk,zs,zn,zl,zc,zo⟩:=z
       have d0:=hcell 0 (by omega);have d1:=hcell 1 (by omega);have d2:=hcell 2 (by omega);have d3:=hcell 3 (by omega);have d4:=hcell 4 (by omega);have d5:=hcell 5 (by omega)
       simp only [tnC,Nat.zero_mul,Nat.add_zero,List.getElem?_cons_zero,List.getElem?_cons_succ] at d0 d1 d2 d3 d4 d5
       clear hcell hT5 hk0
       have r0:=X2.out.flt.c0;have r1:=X2.out.flt.c1;have r2:=X2.out.flt.c2;have r3:=X2.out.flt.c3;have rf:=X2.out.flt.fr
       have hgn:¬ g=w.heap.size:=by have:=HD3.out.1.glt;omega
       have hgn2:¬ w.heap.size=g:=fun e=>hgn e.symm
       obtain ⟨w3,hw3⟩:∃ w3,w3=(((w2.setCell ⟨w.heap.size,0,none⟩ (.int .i64 0)).setCell ⟨w.heap.size,1,none⟩ (.int .i64 0)).setCell ⟨w.heap.size,2,none⟩ (.int .i64 0)).setCell ⟨w.heap.size,3,none⟩ (.int .i64 0):=⟨_,rfl⟩
       have X3:=show Hid (LfW w w3 va g qs) from by rw [hw3];exact X2.out.s4
       have hq:=HQ3.out
       by_cases hzk:zk=0
       ·subst hzk
        simp only [if_true] at hq
        subst hq
        clear HQ3
        go_wp2_with fail
        clear hw3 X3
        refine bodyPost_ret (results_tmp2_cell rfl _ _ w.heap.size _ _ _ _ rfl (X2.out.s4.flt.s4 0 0 0 0) Tryz.underlying52 rfl (by kernel_rfl)) rfl ?_
        refine ⟨⟨va,qs,⟨c2,o2⟩,?_,HMQ.out.1,own_lowM X2.out.s4.s4.own (Nat.le_succ _),HMQ.out.2.1,HD3.out.2.2.1,HD3.out.2.2.2.2,HMQ.out.2.2⟩,X2.out.s4.s4.bel⟩
        show Ending.returned (.tuple #[va,.slice (some ⟨g,o2,none⟩) n c2,_])=Ending.returned (.tuple #[va,.slice (some ⟨g,o2,none⟩) (r.take n).length c2,_])
        rw [HD3.out.2.2.2.1]
        rfl
       ·rw [if_neg hzk] at hq
        subst hq
        have hzk':(zk != 0)=true:=by simpa using hzk
        have q0:=X3.out.flt.c0;have q1:=X3.out.flt.c1;have q2:=X3.out.flt.c2;have q3:=X3.out.flt.c3;have qf:=X3.out.flt.fr
        have hT6:=HD3.out.1.laterO X3.out.bel HD3.out.1.glt
        clear HQ3
        go_wp2_with fail
        rw [← hw3]
        clear hw3 r0 r1 r2 r3 rf
        refine (KR.out _ ⟨zk,zs,zn,zl,zc,zo⟩).mono ?_
        rintro e w4 ⟨rfl,hb4⟩
        have X4:=show Hid (LfW w w4 va g qs) from X3.out.later hb4
        clear hb4 X3 X2 q0 q1 q2 q3 qf
        have q0:=X4.out.flt.c0;have q1:=X4.out.flt.c1;have q2:=X4.out.flt.c2;have q3:=X4.out.flt.c3;have qf:=X4.out.flt.fr
        unfold fltA
        go_wp2_with fail
        refine bodyPost_ret (results_tmp2_cell rfl _ _ w.heap.size _ _ _ _ rfl (X4.out.flt.s4 41 zl zc zo) Tryz.underlying52 rfl (by kernel_rfl)) rfl ?_
        exact ⟨rfl,(((X4.out.bel.setCell (Nat.le_refl _) _).setCell (Nat.le_refl _) _).setCell (Nat.le_refl _) _).setCell (Nat.le_refl _) _⟩
    ·have h1i:¬ (qs.length:Int)=1:=by omega
     clear HC0
     have h1b:((qs.length:Int) == 1)=false:=by simpa using h1i
     cases hsg:Sx.sgn ⟨zk,zs,zn,zl,zc,zo⟩ [124,45]
     ·rw [hsg] at hR1
      simp only [Bool.false_eq_true,if_false] at hR1
      subst hR1
      have KS1:=show Hid (∀ (w1:World),Calls Tryz.prog 105 #[.agg #[.int .i64 zk,.string zs,.int .i64 zn,.int .i64 zl,.int .i64 zc,.int .i64 zo],.string ⟨#[124,45]⟩] w1 fun e w'=>e=.returned (.bool false)∧Below w1.heap.size w1 w') from fun w1=>by have:=KS.out w1 ⟨zk,zs,zn,zl,zc,zo⟩;rw [hsg] at this;exact this
      clear hsg KS KF
      go_wp2_with fail
      rw [← hw3]
      clear hw3 r0 r1 r2 r3 rf d0 d1 d2 d3 d4 d5
      refine (KS1.out _).mono ?_
      rintro e w4 ⟨rfl,hb4⟩
      have HW4:=show Hid (LfW w w4 (.slice (some ⟨gq,0,none⟩) qs.length cq) g qs) from HW3.out.later hb4
      have hcell:=(HA.out.1.laterO HW4.out.bel hgw).cellO hr0
      rw [← tk_get hr0,← HZT.out] at hcell
      have d0:=hcell 0 (by omega);have d1:=hcell 1 (by omega);have d2:=hcell 2 (by omega);have d3:=hcell 3 (by omega);have d4:=hcell 4 (by omega);have d5:=hcell 5 (by omega)
      simp only [tnC,Nat.zero_mul,Nat.add_zero,List.getElem?_cons_zero,List.getElem?_cons_succ] at d0 d1 d2 d3 d4 d5
      clear hcell
      clear hb4 KS1 HW3 HW2
      go_wp2_with fail
      refine (KR.out _ ⟨zk,zs,zn,zl,zc,zo⟩).mono ?_
      rintro e w5 ⟨rfl,hb5⟩
      have X4:=show Hid (LfW w w5 (.slice (some ⟨gq,0,none⟩) qs.length cq) g qs) from HW4.out.later hb5
      clear hb5 HW4 d0 d1 d2 d3 d4 d5
      have q0:=X4.out.flt.c0;have q1:=X4.out.flt.c1;have q2:=X4.out.flt.c2;have q3:=X4.out.flt.c3;have qf:=X4.out.flt.fr
      unfold fltA
      go_wp2_with fail
      refine bodyPost_ret (results_tmp2_cell rfl _ _ w.heap.size _ _ _ _ rfl (X4.out.flt.s4 41 zl zc zo) Tryz.underlying52 rfl (by kernel_rfl)) rfl ?_
      exact ⟨rfl,(((X4.out.bel.setCell (Nat.le_refl _) _).setCell (Nat.le_refl _) _).setCell (Nat.le_refl _) _).setCell (Nat.le_refl _) _⟩
     ·rw [hsg] at hR1
      simp only [if_true] at hR1
      have hturn:Sx.sgn (Sx.tk r 0) [124,45]=true:=by rw [← HZT.out];exact hsg
      have HG:=show Hid (R=Sq.goalR ps (r.drop 1)) from hR1
      have KS1:=show Hid (∀ (w1:World),Calls Tryz.prog 105 #[.agg #[.int .i64 zk,.string zs,.int .i64 zn,.int .i64 zl,.int .i64 zc,.int .i64 zo],.string ⟨#[124,45]⟩] w1 fun e w'=>e=.returned (.bool true)∧Below w1.heap.size w1 w') from fun w1=>by have:=KS.out w1 ⟨zk,zs,zn,zl,zc,zo⟩;rw [hsg] at this;exact this
      clear hsg hR1
      go_wp2_with fail
      rw [← hw3]
      clear hw3 r0 r1 r2 r3 rf d0 d1 d2 d3 d4 d5
      refine (KS1.out _).mono ?_
      rintro e w4 ⟨rfl,hb4⟩
      have HW:=show Hid (LfW w w4 (.slice (some ⟨gq,0,none⟩) qs.length cq) g qs) from HW3.out.later hb4
      clear hb4 KS1 HW3 HW2 HZT hA hgn hgn2 hqn hqn2
      obtain ⟨LL,hLL⟩:∃ LL,LL=r:=⟨_,rfl⟩
      obtain ⟨cl,hcl⟩:∃ cl,cl=cr:=⟨_,rfl⟩
      rw [← hLL,← hcl] at HA
      rw [← hLL] at hturn HG
      obtain ⟨va,hva⟩:∃ va,va=Value.slice (some ⟨gq,0,none⟩) qs.length cq:=⟨_,rfl⟩
      rw [← hLL,← hcl,← hva]
      rw [← hva] at HW
      obtain ⟨KL,-⟩:∃ K:True,K=trivial:=⟨trivial,rfl⟩
      clear hLL hcl hva hcr1 hcr2 hri hr0 hpl
      have hpos:1<LL.length:=by have:=Sq.sgn_stop HA.out.2.1 hturn;omega
      have hcap:=HA.out.1.cap
      obtain ⟨o2,ho2⟩:∃ o2,o2=cl.o+6:=⟨_,rfl⟩
      obtain ⟨l2,hl2⟩:∃ l2,l2=LL.length - 1:=⟨_,rfl⟩
      obtain ⟨c2,hc2⟩:∃ c2,c2=cl.c - 1:=⟨_,rfl⟩
      have HD:=show Hid (TsAt w g ⟨c2,o2⟩ (LL.drop 1)∧Sq.Ends (LL.drop 1)∧(LL.drop 1).length=l2∧(∀ t ∈ LL.drop 1,t.s.size≤140737488351232)) from by
       refine ⟨?_,HA.out.2.1.drop 1,by rw [List.length_drop,hl2],fun t ht=>HA.out.2.2 t (List.mem_of_mem_drop ht)⟩
       rw [ho2,hc2]
       exact HA.out.1.drop 1
      have HQ:=show Hid (R=Sq.goalR ps (LL.drop 1)) from HG.out
      have hl2p:0<l2:=by omega
      have hl2c:l2≤c2:=by omega
      have hcm:cl.c≤maxLen:=hcap.2.1
      have hc1:¬ cl.c=1:=by omega
      have hl1:1≤LL.length:=by omega
      have hlc1:LL.length≤cl.c:=hcap.1
      generalize LL.drop 1=r at *
      have KF1:=show Hid (∀ w1,Below w.heap.size w w1→Calls Tryz.prog 108 #[.slice (some ⟨g,cl.o+6,none⟩) (LL.length - 1) (cl.c - 1)] w1 fun e w'=>e=.returned (fstV g ⟨c2,o2⟩ l2 (Sq.fstR r))∧Below w1.heap.size w1 w') from fun w1 hb=>by
       have:=KF.out w1 ⟨c2,o2⟩ r hb HD.out.1 HD.out.2.1 (by rw [HD.out.2.2.1];exact hl2p) HD.out.2.2.2
       rw [HD.out.2.2.1] at this
       rw [← hl2,← hc2,← ho2]
       exact this
      clear hturn hpos HA HG hcap KF
      cases hF:Sq.fstR r with
      | inl x =>
       have hx0:=fst_ne hF
       have hRx:R=.inl x:=by rw [HQ.out];unfold Sq.goalR;rw [hF]
       subst hRx
       rw [hF] at KF1
       simp only [fstV,fltA] at KF1
       have hx3':(x.1 != 0)=true:=by simpa using hx0
       clear KS KR hF hx0 HD HQ KL
       go_wp2_with fail
       refine (KF1.out _ HW.out.bel).mono ?_
       rintro e w2 ⟨rfl,hb2⟩
       have X2:=show Hid (LfW w w2 va g qs) from HW.out.later hb2
       clear hb2 HW KF1
       have r0:=X2.out.flt.c0;have r1:=X2.out.flt.c1;have r2:=X2.out.flt.c2;have r3:=X2.out.flt.c3;have rf:=X2.out.flt.fr
       obtain ⟨w3,hw3⟩:∃ w3,w3=(((w2.setCell ⟨w.heap.size,0,none⟩ (.int .i64 x.1)).setCell ⟨w.heap.size,1,none⟩ (.int .i64 x.2.l)).setCell ⟨w.heap.size,2,none⟩ (.int .i64 x.2.c)).setCell ⟨w.heap.size,3,none⟩ (.int .i64 x.2.o):=⟨_,rfl⟩
       have X3:=show Hid (Fl w3 w.heap.size x.1 x.2.l x.2.c x.2.o∧Below w.heap.size w w3) from by rw [hw3];exact ⟨X2.out.flt.s4 x.1 x.2.l x.2.c x.2.o,(((X2.out.bel.setCell (Nat.le_refl _) _).setCell (Nat.le_refl _) _).setCell (Nat.le_refl _) _).setCell (Nat.le_refl _) _⟩
       have q0:=X3.out.1.c0;have q1:=X3.out.1.c1;have q2:=X3.out.1.c2;have q3:=X3.out.1.c3;have qf:=X3.out.1.fr
       go_wp2_with fail
       rw [← hw3]
       clear hw3 X2 r0 r1 r2 r3 rf
       go_wp2_with fail
       go_region
       go_wp2_with fail
       refine bodyPost_ret (results_tmp2_cell rfl _ _ w.heap.size _ _ _ _ rfl (Fl.drew (X3.out.1.s4 x.1 x.2.l x.2.c x.2.o)) Tryz.underlying52 rfl (by kernel_rfl)) rfl ?_
       exact ⟨rfl,((((X3.out.2.setCell (Nat.le_refl _) _).setCell (Nat.le_refl _) _).setCell (Nat.le_refl _) _).setCell (Nat.le_refl _) _).drew⟩
      | inr n =>
       obtain ⟨hb1,hb2,-,-⟩:=Sq.fst_bound HD.out.2.1 (by rw [HD.out.2.2.1];exact hl2p) hF
       rw [HD.out.2.2.1] at hb2
       obtain ⟨o3,ho3⟩:∃ o3,o3=o2+n * 6:=⟨_,rfl⟩
       obtain ⟨l3,hl3⟩:∃ l3,l3=l2 - n:=⟨_,rfl⟩
       obtain ⟨c3,hc3⟩:∃ c3,c3=c2 - n:=⟨_,rfl⟩
       rw [hF] at KF1
       simp only [fstV,fltA,Sx.tz] at KF1
       rw [← ho3,← hl3,← hc3] at KF1
       have HD3:=show Hid (TsAt w g ⟨c3,o3⟩ (r.drop n)∧(r.drop n).length=l3∧TsAt w g ⟨c2,o2⟩ (r.take n)∧(r.take n).length=n∧(∀ t ∈ r.take n,t.s.size≤140737488351232)) from by
        refine ⟨?_,by rw [List.length_drop,HD.out.2.2.1,hl3],HD.out.1.take n,by rw [List.length_take,HD.out.2.2.1];omega,fun t ht=>HD.out.2.2.2 t (List.mem_of_mem_take ht)⟩
        rw [ho3,hc3]
        exact HD.out.1.drop n
       have hq3:R=(if (Sx.tk (r.drop n) 0).k=0 then .inr (ps,r.take n) else .inl (41,Sx.tk (r.drop n) 0)):=by rw [HQ.out];unfold Sq.goalR;simp only [hF]
       have HQ3:=show Hid (R=if (Sx.tk (r.drop n) 0).k=0 then .inr (ps,r.take n) else .inl (41,Sx.tk (r.drop n) 0)) from hq3
       clear hq3
       have hl3p:0<l3:=by omega
       have hl3c:l3≤c3:=by omega
       have hl3i:(0:Int)<(l3:Int):=by omega
       clear hF HD HQ KL KS hl2 hc2 ho2 hl3 hc3 ho3
       go_wp2_with fail
       refine (KF1.out _ HW.out.bel).mono ?_
       rintro e w2 ⟨rfl,hbw2⟩
       have X2:=show Hid (LfW w w2 va g qs) from HW.out.later hbw2
       clear hbw2 HW KF1
       have hT5:=HD3.out.1.laterO X2.out.bel HD3.out.1.glt
       have hk0:0<(r.drop n).length:=by rw [HD3.out.2.1];exact hl3p
       have hcell:=hT5.cellO hk0
       rw [← tk_get hk0] at hcell
       generalize Sx.tk (r.drop n) 0=z at *
       obtain ⟨zk,zs,zn,zl,zc,zo⟩:=z
       have d0:=hcell 0 (by omega);have d1:=hcell 1 (by omega);have d2:=hcell 2 (by omega);have d3:=hcell 3 (by omega);have d4:=hcell 4 (by omega);have d5:=hcell 5 (by omega)
       simp only [tnC,Nat.zero_mul,Nat.add_zero,List.getElem?_cons_zero,List.getElem?_cons_succ] at d0 d1 d2 d3 d4 d5
       clear hcell hT5 hk0
       have r0:=X2.out.flt.c0;have r1:=X2.out.flt.c1;have r2:=X2.out.flt.c2;have r3:=X2.out.flt.c3;have rf:=X2.out.flt.fr
       have hgn:¬ g=w.heap.size:=by have:=HD3.out.1.glt;omega
       have hgn2:¬ w.heap.size=g:=fun e=>hgn e.symm
       obtain ⟨w3,hw3⟩:∃ w3,w3=(((w2.setCell ⟨w.heap.size,0,none⟩ (.int .i64 0)).setCell ⟨w.heap.size,1,none⟩ (.int .i64 0)).setCell ⟨w.heap.size,2,none⟩ (.int .i64 0)).setCell ⟨w.heap.size,3,none⟩ (.int .i64 0):=⟨_,rfl⟩
       have X3:=show Hid (LfW w w3 va g qs) from by rw [hw3];exact X2.out.s4
       have hq:=HQ3.out
       by_cases hzk:zk=0
       ·subst hzk
        simp only [if_true] at hq
        subst hq
        clear HQ3
        go_wp2_with fail
        clear hw3 X3
        refine bodyPost_ret (results_tmp2_cell rfl _ _ w.heap.size _ _ _ _ rfl (X2.out.s4.flt.s4 0 0 0 0) Tryz.underlying52 rfl (by kernel_rfl)) rfl ?_
        refine ⟨⟨va,qs,⟨c2,o2⟩,?_,HMQ.out.1,own_lowM X2.out.s4.s4.own (Nat.le_succ _),HMQ.out.2.1,HD3.out.2.2.1,HD3.out.2.2.2.2,HMQ.out.2.2⟩,X2.out.s4.s4.bel⟩
        show Ending.returned (.tuple #[va,.slice (some ⟨g,o2,none⟩) n c2,_])=Ending.returned (.tuple #[va,.slice (some ⟨g,o2,none⟩) (r.take n).length c2,_])
        rw [HD3.out.2.2.2.1]
        rfl
       ·rw [if_neg hzk] at hq
        subst hq
        have hzk':(zk != 0)=true:=by simpa using hzk
        have q0:=X3.out.flt.c0;have q1:=X3.out.flt.c1;have q2:=X3.out.flt.c2;have q3:=X3.out.flt.c3;have qf:=X3.out.flt.fr
        have hT6:=HD3.out.1.laterO X3.out.bel HD3.out.1.glt
        clear HQ3
        go_wp2_with fail
        rw [← hw3]
        clear hw3 r0 r1 r2 r3 rf
        refine (KR.out _ ⟨zk,zs,zn,zl,zc,zo⟩).mono ?_
        rintro e w4 ⟨rfl,hb4⟩
        have X4:=show Hid (LfW w w4 va g qs) from X3.out.later hb4
        clear hb4 X3 X2 q0 q1 q2 q3 qf
        have q0:=X4.out.flt.c0;have q1:=X4.out.flt.c1;have q2:=X4.out.flt.c2;have q3:=X4.out.flt.c3;have qf:=X4.out.flt.fr
        unfold fltA
        go_wp2_with fail
        refine bodyPost_ret (results_tmp2_cell rfl _ _ w.heap.size _ _ _ _ rfl (X4.out.flt.s4 41 zl zc zo) Tryz.underlying52 rfl (by kernel_rfl)) rfl ?_
        exact ⟨rfl,(((X4.out.bel.setCell (Nat.le_refl _) _).setCell (Nat.le_refl _) _).setCell (Nat.le_refl _) _).setCell (Nat.le_refl _) _⟩
 ·have hturn:Sx.sgn (Sx.tk ts 0) [124,45]=true:=by rw [← HZT.out];exact hsg
  have HG:=show Hid (R=Sq.goalR [] (ts.drop 1)) from HG0.out hsg
  clear HG0 HG1 hsg HZT
  obtain ⟨ps,hps⟩:∃ ps:List (List Tn),ps=[]:=⟨_,rfl⟩
  obtain ⟨qs,hqs⟩:∃ qs:List (Cp × List Tn),qs=[]:=⟨_,rfl⟩
  obtain ⟨LL,hLL⟩:∃ LL,LL=ts:=⟨_,rfl⟩
  obtain ⟨cl,hcl⟩:∃ cl,cl=cap:=⟨_,rfl⟩
  rw [← hLL,← hcl] at HK
  rw [← hLL] at hturn
  rw [← hps,← hLL] at HG
  rw [← hqs] at HW1
  rw [← hLL,← hcl]
  have HMQ:=show Hid (qs.map (·.2)=ps∧(∀ p ∈ qs,TsAt w g p.1 p.2∧∀ t ∈ p.2,t.s.size≤140737488351232)∧qs.length≤1099511627777) from by rw [hps,hqs];exact ⟨rfl,fun p hp=>(by cases hp),by simp⟩
  have HA:=HK
  have HW:=HW1
  obtain ⟨va,hva⟩:∃ va,va=Value.slice none 0 0:=⟨_,rfl⟩
  rw [← hva] at HW ⊢
  clear hps hqs hLL hcl hva HK HW1 hc1 hc2 hl0
  have hpos:1<LL.length:=by have:=Sq.sgn_stop HA.out.2.1 hturn;omega
  have hcap:=HA.out.1.cap
  obtain ⟨o2,ho2⟩:∃ o2,o2=cl.o+6:=⟨_,rfl⟩
  obtain ⟨l2,hl2⟩:∃ l2,l2=LL.length - 1:=⟨_,rfl⟩
  obtain ⟨c2,hc2⟩:∃ c2,c2=cl.c - 1:=⟨_,rfl⟩
  have HD:=show Hid (TsAt w g ⟨c2,o2⟩ (LL.drop 1)∧Sq.Ends (LL.drop 1)∧(LL.drop 1).length=l2∧(∀ t ∈ LL.drop 1,t.s.size≤140737488351232)) from by
   refine ⟨?_,HA.out.2.1.drop 1,by rw [List.length_drop,hl2],fun t ht=>HA.out.2.2 t (List.mem_of_mem_drop ht)⟩
   rw [ho2,hc2]
   exact HA.out.1.drop 1
  have HQ:=show Hid (R=Sq.goalR ps (LL.drop 1)) from HG.out
  have hl2p:0<l2:=by omega
  have hl2c:l2≤c2:=by omega
  have hcm:cl.c≤maxLen:=hcap.2.1
  have hc1:¬ cl.c=1:=by omega
  have hl1:1≤LL.length:=by omega
  have hlc1:LL.length≤cl.c:=hcap.1
  generalize LL.drop 1=r at *
  have KF1:=show Hid (∀ w1,Below w.heap.size w w1→Calls Tryz.prog 108 #[.slice (some ⟨g,cl.o+6,none⟩) (LL.length - 1) (cl.c - 1)] w1 fun e w'=>e=.returned (fstV g ⟨c2,o2⟩ l2 (Sq.fstR r))∧Below w1.heap.size w1 w') from fun w1 hb=>by
   have:=KF.out w1 ⟨c2,o2⟩ r hb HD.out.1 HD.out.2.1 (by rw [HD.out.2.2.1];exact hl2p) HD.out.2.2.2
   rw [HD.out.2.2.1] at this
   rw [← hl2,← hc2,← ho2]
   exact this
  clear hturn hpos HA HG hcap KF
  cases hF:Sq.fstR r with
  | inl x =>
   have hx0:=fst_ne hF
   have hRx:R=.inl x:=by rw [HQ.out];unfold Sq.goalR;rw [hF]
   subst hRx
   rw [hF] at KF1
   simp only [fstV,fltA] at KF1
   have hx3':(x.1 != 0)=true:=by simpa using hx0
   clear KS KR hF hx0 HD HQ KL
   go_wp2_with fail
   refine (KF1.out _ HW.out.bel).mono ?_
   rintro e w2 ⟨rfl,hb2⟩
   have X2:=show Hid (LfW w w2 va g qs) from HW.out.later hb2
   clear hb2 HW KF1
   have r0:=X2.out.flt.c0;have r1:=X2.out.flt.c1;have r2:=X2.out.flt.c2;have r3:=X2.out.flt.c3;have rf:=X2.out.flt.fr
   obtain ⟨w3,hw3⟩:∃ w3,w3=(((w2.setCell ⟨w.heap.size,0,none⟩ (.int .i64 x.1)).setCell ⟨w.heap.size,1,none⟩ (.int .i64 x.2.l)).setCell ⟨w.heap.size,2,none⟩ (.int .i64 x.2.c)).setCell ⟨w.heap.size,3,none⟩ (.int .i64 x.2.o):=⟨_,rfl⟩
   have X3:=show Hid (Fl w3 w.heap.size x.1 x.2.l x.2.c x.2.o∧Below w.heap.size w w3) from by rw [hw3];exact ⟨X2.out.flt.s4 x.1 x.2.l x.2.c x.2.o,(((X2.out.bel.setCell (Nat.le_refl _) _).setCell (Nat.le_refl _) _).setCell (Nat.le_refl _) _).setCell (Nat.le_refl _) _⟩
   have q0:=X3.out.1.c0;have q1:=X3.out.1.c1;have q2:=X3.out.1.c2;have q3:=X3.out.1.c3;have qf:=X3.out.1.fr
   go_wp2_with fail
   rw [← hw3]
   clear hw3 X2 r0 r1 r2 r3 rf
   go_wp2_with fail
   go_region
   go_wp2_with fail
   refine bodyPost_ret (results_tmp2_cell rfl _ _ w.heap.size _ _ _ _ rfl (Fl.drew (X3.out.1.s4 x.1 x.2.l x.2.c x.2.o)) Tryz.underlying52 rfl (by kernel_rfl)) rfl ?_
   exact ⟨rfl,((((X3.out.2.setCell (Nat.le_refl _) _).setCell (Nat.le_refl _) _).setCell (Nat.le_refl _) _).setCell (Nat.le_refl _) _).drew⟩
  | inr n =>
   obtain ⟨hb1,hb2,-,-⟩:=Sq.fst_bound HD.out.2.1 (by rw [HD.out.2.2.1];exact hl2p) hF
   rw [HD.out.2.2.1] at hb2
   obtain ⟨o3,ho3⟩:∃ o3,o3=o2+n * 6:=⟨_,rfl⟩
   obtain ⟨l3,hl3⟩:∃ l3,l3=l2 - n:=⟨_,rfl⟩
   obtain ⟨c3,hc3⟩:∃ c3,c3=c2 - n:=⟨_,rfl⟩
   rw [hF] at KF1
   simp only [fstV,fltA,Sx.tz] at KF1
   rw [← ho3,← hl3,← hc3] at KF1
   have HD3:=show Hid (TsAt w g ⟨c3,o3⟩ (r.drop n)∧(r.drop n).length=l3∧TsAt w g ⟨c2,o2⟩ (r.take n)∧(r.take n).length=n∧(∀ t ∈ r.take n,t.s.size≤140737488351232)) from by
    refine ⟨?_,by rw [List.length_drop,HD.out.2.2.1,hl3],HD.out.1.take n,by rw [List.length_take,HD.out.2.2.1];omega,fun t ht=>HD.out.2.2.2 t (List.mem_of_mem_take ht)⟩
    rw [ho3,hc3]
    exact HD.out.1.drop n
   have hq3:R=(if (Sx.tk (r.drop n) 0).k=0 then .inr (ps,r.take n) else .inl (41,Sx.tk (r.drop n) 0)):=by rw [HQ.out];unfold Sq.goalR;simp only [hF]
   have HQ3:=show Hid (R=if (Sx.tk (r.drop n) 0).k=0 then .inr (ps,r.take n) else .inl (41,Sx.tk (r.drop n) 0)) from hq3
   clear hq3
   have hl3p:0<l3:=by omega
   have hl3c:l3≤c3:=by omega
   have hl3i:(0:Int)<(l3:Int):=by omega
   clear hF HD HQ KL KS hl2 hc2 ho2 hl3 hc3 ho3
   go_wp2_with fail
   refine (KF1.out _ HW.out.bel).mono ?_
   rintro e w2 ⟨rfl,hbw2⟩
   have X2:=show Hid (LfW w w2 va g qs) from HW.out.later hbw2
   clear hbw2 HW KF1
   have hT5:=HD3.out.1.laterO X2.out.bel HD3.out.1.glt
   have hk0:0<(r.drop n).length:=by rw [HD3.out.2.1];exact hl3p
   have hcell:=hT5.cellO hk0
   rw [← tk_get hk0] at hcell
   generalize Sx.tk (r.drop n) 0=z at *
   obtain ⟨zk,zs,zn,zl,zc,zo⟩:=z
   have d0:=hcell 0 (by omega);have d1:=hcell 1 (by omega);have d2:=hcell 2 (by omega);have d3:=hcell 3 (by omega);have d4:=hcell 4 (by omega);have d5:=hcell 5 (by omega)
   simp only [tnC,Nat.zero_mul,Nat.add_zero,List.getElem?_cons_zero,List.getElem?_cons_succ] at d0 d1 d2 d3 d4 d5
   clear hcell hT5 hk0
   have r0:=X2.out.flt.c0;have r1:=X2.out.flt.c1;have r2:=X2.out.flt.c2;have r3:=X2.out.flt.c3;have rf:=X2.out.flt.fr
   have hgn:¬ g=w.heap.size:=by have:=HD3.out.1.glt;omega
   have hgn2:¬ w.heap.size=g:=fun e=>hgn e.symm
   obtain ⟨w3,hw3⟩:∃ w3,w3=(((w2.setCell ⟨w.heap.size,0,none⟩ (.int .i64 0)).setCell ⟨w.heap.size,1,none⟩ (.int .i64 0)).setCell ⟨w.heap.size,2,none⟩ (.int .i64 0)).setCell ⟨w.heap.size,3,none⟩ (.int .i64 0):=⟨_,rfl⟩
   have X3:=show Hid (LfW w w3 va g qs) from by rw [hw3];exact X2.out.s4
   have hq:=HQ3.out
   by_cases hzk:zk=0
   ·subst hzk
    simp only [if_true] at hq
    subst hq
    clear HQ3
    go_wp2_with fail
    clear hw3 X3
    refine bodyPost_ret (results_tmp2_cell rfl _ _ w.heap.size _ _ _ _ rfl (X2.out.s4.flt.s4 0 0 0 0) Tryz.underlying52 rfl (by kernel_rfl)) rfl ?_
    refine ⟨⟨va,qs,⟨c2,o2⟩,?_,HMQ.out.1,own_lowM X2.out.s4.s4.own (Nat.le_succ _),HMQ.out.2.1,HD3.out.2.2.1,HD3.out.2.2.2.2,HMQ.out.2.2⟩,X2.out.s4.s4.bel⟩
    show Ending.returned (.tuple #[va,.slice (some ⟨g,o2,none⟩) n c2,_])=Ending.returned (.tuple #[va,.slice (some ⟨g,o2,none⟩) (r.take n).length c2,_])
    rw [HD3.out.2.2.2.1]
    rfl
   ·rw [if_neg hzk] at hq
    subst hq
    have hzk':(zk != 0)=true:=by simpa using hzk
    have q0:=X3.out.flt.c0;have q1:=X3.out.flt.c1;have q2:=X3.out.flt.c2;have q3:=X3.out.flt.c3;have qf:=X3.out.flt.fr
    have hT6:=HD3.out.1.laterO X3.out.bel HD3.out.1.glt
    clear HQ3
    go_wp2_with fail
    rw [← hw3]
    clear hw3 r0 r1 r2 r3 rf
    refine (KR.out _ ⟨zk,zs,zn,zl,zc,zo⟩).mono ?_
    rintro e w4 ⟨rfl,hb4⟩
    have X4:=show Hid (LfW w w4 va g qs) from X3.out.later hb4
    clear hb4 X3 X2 q0 q1 q2 q3 qf
    have q0:=X4.out.flt.c0;have q1:=X4.out.flt.c1;have q2:=X4.out.flt.c2;have q3:=X4.out.flt.c3;have qf:=X4.out.flt.fr
    unfold fltA
    go_wp2_with fail
    refine bodyPost_ret (results_tmp2_cell rfl _ _ w.heap.size _ _ _ _ rfl (X4.out.flt.s4 41 zl zc zo) Tryz.underlying52 rfl (by kernel_rfl)) rfl ?_
    exact ⟨rfl,(((X4.out.bel.setCell (Nat.le_refl _) _).setCell (Nat.le_refl _) _).setCell (Nat.le_refl _) _).setCell (Nat.le_refl _) _⟩
end
end Go.Proofs.YtkmmlimekachbaaGreatDoor
