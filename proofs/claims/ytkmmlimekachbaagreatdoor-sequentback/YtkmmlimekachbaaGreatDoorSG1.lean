/-
  Tokens, readers and closures in memory. No condition.
-/
import Derived.Test.YtkmmlimekachbaaGreatDoorFG3
import Derived.Test.YtkmmlimekachbaaGreatDoorFG2
import Derived.Test.YtkmmlimekachbaaGreatDoorPG
import Derived.Recover
namespace Go.Proofs.YtkmmlimekachbaaGreatDoor
open Go.RowKit Go.Maps
open Fm (Nd)
open Sx (Tn T)
def ptrV (g:Nat):Value:=.pointer (some ⟨g,0,none⟩)
def tnC (t:Tn):List Value:=[.int .i64 t.k,.string t.s,.int .i64 t.n,.int .i64 t.l,.int .i64 t.c,.int .i64 t.o]
def tnV (t:Tn):Value:=.agg #[.int .i64 t.k,.string t.s,.int .i64 t.n,.int .i64 t.l,.int .i64 t.c,.int .i64 t.o]
def toksOf (ts:List Tn):List Value:=ts.flatMap tnC
theorem toksOf_at:∀ (ts:List Tn) (k j:Nat) (hk:k<ts.length),j<6→(toksOf ts)[k * 6+j]?=(tnC ts[k])[j]?
 | [],k,j,hk,_=>absurd hk (by simp)
 | n :: ts,0,j,hk,hj=>by
  show (tnC n ++ toksOf ts)[0 * 6+j]?=_
  rw [List.getElem?_append_left (by show 0 * 6+j<6;omega),Nat.zero_mul,Nat.zero_add]
  rfl
 | n :: ts,k+1,j,hk,hj=>by
  have hl:(tnC n).length=6:=rfl
  show (tnC n ++ toksOf ts)[(k+1) * 6+j]?=_
  rw [List.getElem?_append_right (by rw [hl];omega),hl,show (k+1) * 6+j - 6=k * 6+j by omega]
  rw [toksOf_at ts k j (by simpa using hk) hj]
  rfl
structure Cp where
 c:Nat
 o:Nat
instance:Coe Nat Cp:=⟨fun c=>⟨c,0⟩⟩
def TsAt (w:World) (g:Nat) (cap:Cp) (ts:List Tn):Prop :=
 ∃ cur,w.heap[g]?=some (.cells cur 108 (0,0))∧ts.length≤cap.c∧cap.c≤maxLen∧(cur.toList.drop cap.o).take (ts.length * 6)=toksOf ts∧ts.length≤4611686018427387904
theorem TsAt.cellO {w:World} {g:Nat} {cap:Cp} {ts:List Tn} (h:TsAt w g cap ts) {k:Nat} (hk:k<ts.length):∀ j,j<6→w.cell? ⟨g,cap.o+k * 6+j,none⟩=(tnC ts[k])[j]?:=by
 intro j hj
 obtain ⟨cur,hh,_,_,ht,_⟩:=h
 rw [cell_of_row w g _ cur _ _ hh,← toksOf_at ts k j hk hj,← ht,List.getElem?_take,if_pos (by omega),List.getElem?_drop,Nat.add_assoc]
 simp
theorem TsAt.cell {w:World} {g cap:Nat} {ts:List Tn} (h:TsAt w g cap ts) {k:Nat} (hk:k<ts.length):∀ j,j<6→w.cell? ⟨g,k * 6+j,none⟩=(tnC ts[k])[j]?:=by
 intro j hj
 have:=h.cellO hk j hj
 simpa using this
theorem TsAt.keep {w w':World} {g:Nat} {cap:Cp} {ts:List Tn} (h:TsAt w g cap ts) (hk:w'.heap[g]?=w.heap[g]?):TsAt w' g cap ts:=by
 obtain ⟨cur,hh,r⟩:=h
 exact ⟨cur,hk.trans hh,r⟩
def Rdr (w:World) (p b g:Nat) (cap:Cp) (len i n d:Nat):Prop :=
 w.heap[p]?=some (.cells #[ptrV b,.slice (some ⟨g,cap.o,none⟩) len cap.c,.int .i64 (i:Int),.int .i64 (n:Int),.int .i64 (d:Int)] 204 (0,0))
section
variable {w w':World} {p b g:Nat} {cap:Cp} {len i n d:Nat}
theorem Rdr.c0 (h:Rdr w p b g cap len i n d):w.cell? ⟨p,0,none⟩=some (.pointer (some ⟨b,0,none⟩)):=by rw [cell_of_row w p 0 _ _ _ h];rfl
theorem Rdr.c1 (h:Rdr w p b g cap len i n d):w.cell? ⟨p,1,none⟩=some (.slice (some ⟨g,cap.o,none⟩) len cap.c):=by rw [cell_of_row w p 1 _ _ _ h];rfl
theorem Rdr.c2 (h:Rdr w p b g cap len i n d):w.cell? ⟨p,2,none⟩=some (.int .i64 (i:Int)):=by rw [cell_of_row w p 2 _ _ _ h];rfl
theorem Rdr.c3 (h:Rdr w p b g cap len i n d):w.cell? ⟨p,3,none⟩=some (.int .i64 (n:Int)):=by rw [cell_of_row w p 3 _ _ _ h];rfl
theorem Rdr.c4 (h:Rdr w p b g cap len i n d):w.cell? ⟨p,4,none⟩=some (.int .i64 (d:Int)):=by rw [cell_of_row w p 4 _ _ _ h];rfl
theorem Rdr.fr (h:Rdr w p b g cap len i n d) (j:Nat):w.frozen? ⟨p,j,none⟩=false:=frozen_of_row w p j _ _ h
theorem Rdr.lt (h:Rdr w p b g cap len i n d):p<w.heap.size:=lt_of_block h
theorem Rdr.s2 (h:Rdr w p b g cap len i n d) (x:Nat):Rdr (w.setCell ⟨p,2,none⟩ (.int .i64 (x:Int))) p b g cap len x n d:=heap_setCell_same w p 2 _ _ _ h
theorem Rdr.s3 (h:Rdr w p b g cap len i n d) (x:Nat):Rdr (w.setCell ⟨p,3,none⟩ (.int .i64 (x:Int))) p b g cap len i x d:=heap_setCell_same w p 3 _ _ _ h
theorem Rdr.s4 (h:Rdr w p b g cap len i n d) (x:Nat):Rdr (w.setCell ⟨p,4,none⟩ (.int .i64 (x:Int))) p b g cap len i n x:=heap_setCell_same w p 4 _ _ _ h
theorem Rdr.keep (h:Rdr w p b g cap len i n d) (hk:w'.heap[p]?=w.heap[p]?):Rdr w' p b g cap len i n d:=hk.trans h
theorem Rdr.later (h:Rdr w p b g cap len i n d) (hb:Below w.heap.size w w'):Rdr w' p b g cap len i n d:=(hb.block p h.lt).trans h
end
abbrev KpP (p:Nat) (w w':World):Prop:=Kp (fun k=>k=p) w w'
theorem KpP.trans {p:Nat} {a b c:World} (h:KpP p a b) (k:KpP p b c):KpP p a c:=Kp.trans h k fun _ e=>Or.inl e
theorem KpP.of_below {p:Nat} {a b:World} (h:Below a.heap.size a b):KpP p a b:=Kp.of_below h
theorem KpP.set {p:Nat} {a b:World} (h:KpP p a b) (j:Nat) (x:Value):KpP p a (b.setCell ⟨p,j,none⟩ x) :=
 ⟨h.os,h.tape,h.output,by simpa using h.size,fun k hk hn=>(Below.heap_setCell _ _ _ _ hn).trans (h.block k hk hn)⟩
def Box (w:World) (g:Nat) (x:Value) (ty:TypeId):Prop:=w.heap[g]?=some (.cells #[x] ty (0,0))
theorem Box.c0 {w:World} {g:Nat} {x:Value} {ty:TypeId} (h:Box w g x ty):w.cell? ⟨g,0,none⟩=some x:=by rw [cell_of_row w g 0 _ _ _ h];rfl
theorem Box.lt {w:World} {g:Nat} {x:Value} {ty:TypeId} (h:Box w g x ty):g<w.heap.size:=lt_of_block h
theorem Box.fr {w:World} {g:Nat} {x:Value} {ty:TypeId} (h:Box w g x ty) (j:Nat):w.frozen? ⟨g,j,none⟩=false:=frozen_of_row w g j _ _ h
def IsBox (w:World) (g:Nat):Prop:=∃ x ty,Box w g x ty∧(ty=169∨ty=9∨ty=205∨ty=248)
def howV (p b:Nat) (k:Int):Value :=
 if k=3 then .func (.func 67) #[ptrV b] #[] else if k=4 then .func (.func 234) #[ptrV b] #[] else if k=5 then .func (.func 69) #[ptrV b] #[] else .func (.func 181) #[ptrV p] #[]
def Pts (w:World) (p b:Nat):T→Value→Prop
 | .bot,c=>∃ g,c=.func (.func 248) #[] #[ptrV g]∧Box w g (ptrV p) 169
 | .top,c=>∃ g,c=.func (.func 249) #[] #[ptrV g]∧Box w g (ptrV p) 169
 | .atom s,c=>∃ g g2,c=.func (.func 250) #[] #[ptrV g,ptrV g2]∧Box w g (ptrV p) 169∧Box w g2 (.string s) 9
 | .neg a,c=>∃ g g2 ca,c=.func (.func 242) #[] #[ptrV g,ptrV g2]∧Box w g (ptrV p) 169∧Box w g2 ca 205∧Pts w p b a ca
 | .bin k a a2,c=>∃ g g2 g3 ca ca2,c=.func (.func 215) #[] #[ptrV g,ptrV g2,ptrV g3]∧Box w g ca 205∧Box w g2 ca2 205∧Box w g3 (howV p b k) 248∧Pts w p b a ca∧Pts w p b a2 ca2
 | .iff a a2,c=>∃ g g2 g3 ca ca2,c=.func (.func 215) #[] #[ptrV g,ptrV g2,ptrV g3]∧Box w g ca 205∧Box w g2 ca2 205∧Box w g3 (howV p b 0) 248∧Pts w p b a ca∧Pts w p b a2 ca2
theorem Pts.keep {w w':World} {p b:Nat} (hk:∀ g,IsBox w g→w'.heap[g]?=w.heap[g]?):∀ {a:T} {c:Value},Pts w p b a c→Pts w' p b a c
 | .bot,_,⟨g,h,b1⟩=>⟨g,h,(hk g ⟨_,_,b1,Or.inl rfl⟩).trans b1⟩
 | .top,_,⟨g,h,b1⟩=>⟨g,h,(hk g ⟨_,_,b1,Or.inl rfl⟩).trans b1⟩
 | .atom _,_,⟨g,g2,h,b1,b2⟩=>⟨g,g2,h,(hk g ⟨_,_,b1,Or.inl rfl⟩).trans b1,(hk g2 ⟨_,_,b2,Or.inr (Or.inl rfl)⟩).trans b2⟩
 | .neg _,_,⟨g,g2,ca,h,b1,b2,r⟩=>⟨g,g2,ca,h,(hk g ⟨_,_,b1,Or.inl rfl⟩).trans b1,(hk g2 ⟨_,_,b2,Or.inr (Or.inr (Or.inl rfl))⟩).trans b2,Pts.keep hk r⟩
 | .bin _ _ _,_,⟨g,g2,g3,ca,ca2,h,b1,b2,b3,r1,r2⟩=>⟨g,g2,g3,ca,ca2,h,(hk g ⟨_,_,b1,Or.inr (Or.inr (Or.inl rfl))⟩).trans b1,(hk g2 ⟨_,_,b2,Or.inr (Or.inr (Or.inl rfl))⟩).trans b2,(hk g3 ⟨_,_,b3,Or.inr (Or.inr (Or.inr rfl))⟩).trans b3,Pts.keep hk r1,Pts.keep hk r2⟩
 | .iff _ _,_,⟨g,g2,g3,ca,ca2,h,b1,b2,b3,r1,r2⟩=>⟨g,g2,g3,ca,ca2,h,(hk g ⟨_,_,b1,Or.inr (Or.inr (Or.inl rfl))⟩).trans b1,(hk g2 ⟨_,_,b2,Or.inr (Or.inr (Or.inl rfl))⟩).trans b2,(hk g3 ⟨_,_,b3,Or.inr (Or.inr (Or.inr rfl))⟩).trans b3,Pts.keep hk r1,Pts.keep hk r2⟩
theorem IsBox.lt {w:World} {g:Nat} (h:IsBox w g):g<w.heap.size:=by obtain ⟨x,ty,hb,_⟩:=h;exact hb.lt
theorem IsBox.ne {w:World} {g k:Nat} (h:IsBox w g) {cs:Array Value} {ty:TypeId} {fr:Nat × Nat} (hk:w.heap[k]?=some (.cells cs ty fr)) (hty:ty≠169∧ty≠9∧ty≠205∧ty≠248):g≠k:=by
 obtain ⟨x,t2,hb,hh⟩:=h
 rintro rfl
 unfold Box at hb
 rw [hb] at hk
 simp only [Option.some.injEq,Obj.cells.injEq] at hk
 obtain ⟨_,rfl,_⟩:=hk
 rcases hh with rfl | rfl | rfl | rfl
 ·exact hty.1 rfl
 ·exact hty.2.1 rfl
 ·exact hty.2.2.1 rfl
 ·exact hty.2.2.2 rfl
theorem Pts.later {w w':World} {p b:Nat} {a:T} {c:Value} (h:Pts w p b a c) (hb:Below w.heap.size w w'):Pts w' p b a c:=Pts.keep (fun _ hg=>hb.block _ hg.lt) h
theorem Pts.kpP {w w':World} {p b b2 g:Nat} {cap:Cp} {len i n d:Nat} {a:T} {c:Value} (h:Pts w p b a c) (hr:Rdr w p b2 g cap len i n d) (hk:KpP p w w'):Pts w' p b a c :=
 Pts.keep (fun _ hg=>hk.block _ hg.lt (hg.ne hr (by decide))) h
theorem IsBox.ft {w:World} {g b m:Nat} {v:Value} {t:List Nd} (h:IsBox w g) (hT:Tb w b m v t):¬ Ft b m v g:=by
 rintro (rfl | rfl | e)
 ·exact h.ne hT.tab (by decide) rfl
 ·obtain ⟨x,ty,hb,_⟩:=h
  obtain ⟨D,⟨es,cl,hm,_⟩,_⟩:=hT.map
  unfold Box at hb
  rw [hb] at hm
  cases hm
 ·obtain ⟨_,cur,hh⟩:=hT.row.lt g e
  exact h.ne hh (by decide) rfl
theorem Pts.after {w w':World} {p b m:Nat} {v:Value} {t:List Nd} {a:T} {c:Value} (h:Pts w p b a c) (hT:Tb w b m v t) (hk:Kp (Ft b m v) w w'):Pts w' p b a c :=
 Pts.keep (fun _ hg=>hk.block _ hg.lt (hg.ft hT)) h
theorem Rdr.ft {w:World} {p b0 b m g:Nat} {cap:Cp} {len i n d:Nat} {v:Value} {t:List Nd} (h:Rdr w p b0 g cap len i n d) (hT:Tb w b m v t):¬ Ft b m v p:=by
 unfold Rdr at h
 rintro (rfl | rfl | e)
 ·rw [hT.tab] at h
  simp at h
 ·obtain ⟨D,⟨es,cl,hm,_⟩,_⟩:=hT.map
  rw [h] at hm
  cases hm
 ·obtain ⟨_,cur,hh⟩:=hT.row.lt p e
  rw [h] at hh
  simp at hh
theorem Rdr.after {w w':World} {p b0 b m g:Nat} {cap:Cp} {len i n d:Nat} {v:Value} {t:List Nd} (h:Rdr w p b0 g cap len i n d) (hT:Tb w b m v t) (hk:Kp (Ft b m v) w w'):Rdr w' p b0 g cap len i n d:=(hk.block _ h.lt (h.ft hT)).trans h
def fltV (e:Int) (t:Tn):Value:=.iface 52 (.agg #[.int .i64 e,.int .i64 t.l,.int .i64 t.c,.int .i64 t.o])
def fltP (e:Int) (t:Tn):Ending:=.panicked [{ v:=fltV e t,recovered:=false }]
end Go.Proofs.YtkmmlimekachbaaGreatDoor
/-
  The reader's small calls: peek, counts, step, refuse, at, sign, end. For every list of tokens. No other condition.
-/
namespace Go.Proofs.YtkmmlimekachbaaGreatDoor
open Go.RowKit Go.Maps
open Fm (Nd)
open Sx (Tn T)
structure RS (w:World) (p b g:Nat) (cap:Cp) (ts:List Tn) (i n d:Nat):Prop where
 rd:Rdr w p b g cap ts.length i n d
 tk:TsAt w g cap ts
theorem RS.gp {w:World} {p b g:Nat} {cap:Cp} {ts:List Tn} {i n d:Nat} (h:RS w p b g cap ts i n d):g≠p:=by
 rintro rfl
 obtain ⟨cur,hh,_⟩:=h.tk
 have h2:=h.rd
 unfold Rdr at h2
 rw [h2] at hh
 simp at hh
theorem RS.glt {w:World} {p b g:Nat} {cap:Cp} {ts:List Tn} {i n d:Nat} (h:RS w p b g cap ts i n d):g<w.heap.size:=by
 obtain ⟨cur,hh,_⟩:=h.tk
 exact lt_of_block hh
theorem RS.later {w w':World} {p b g:Nat} {cap:Cp} {ts:List Tn} {i n d:Nat} (h:RS w p b g cap ts i n d) (hb:Below w.heap.size w w'):RS w' p b g cap ts i n d :=
 ⟨h.rd.later hb,h.tk.keep (hb.block _ h.glt)⟩
theorem RS.s2 {w:World} {p b g:Nat} {cap:Cp} {ts:List Tn} {i n d:Nat} (h:RS w p b g cap ts i n d) (x:Nat):RS (w.setCell ⟨p,2,none⟩ (.int .i64 (x:Int))) p b g cap ts x n d :=
 ⟨h.rd.s2 x,h.tk.keep (Below.heap_setCell _ _ _ _ h.gp)⟩
theorem RS.s3 {w:World} {p b g:Nat} {cap:Cp} {ts:List Tn} {i n d:Nat} (h:RS w p b g cap ts i n d) (x:Nat):RS (w.setCell ⟨p,3,none⟩ (.int .i64 (x:Int))) p b g cap ts i x d :=
 ⟨h.rd.s3 x,h.tk.keep (Below.heap_setCell _ _ _ _ h.gp)⟩
theorem RS.s4 {w:World} {p b g:Nat} {cap:Cp} {ts:List Tn} {i n d:Nat} (h:RS w p b g cap ts i n d) (x:Nat):RS (w.setCell ⟨p,4,none⟩ (.int .i64 (x:Int))) p b g cap ts i n x :=
 ⟨h.rd.s4 x,h.tk.keep (Below.heap_setCell _ _ _ _ h.gp)⟩
def T6' (w:World) (g:Nat) (a0 a1 a2 a3 a4 a5:Value):Prop:=w.heap[g]?=some (.cells #[a0,a1,a2,a3,a4,a5] 108 (0,0))
section
variable {w w':World} {g:Nat} {a0 a1 a2 a3 a4 a5:Value}
theorem T6'.c0 (h:T6' w g a0 a1 a2 a3 a4 a5):w.cell? ⟨g,0,none⟩=some a0:=by rw [cell_of_row w g 0 _ _ _ h];rfl
theorem T6'.c1 (h:T6' w g a0 a1 a2 a3 a4 a5):w.cell? ⟨g,1,none⟩=some a1:=by rw [cell_of_row w g 1 _ _ _ h];rfl
theorem T6'.c2 (h:T6' w g a0 a1 a2 a3 a4 a5):w.cell? ⟨g,2,none⟩=some a2:=by rw [cell_of_row w g 2 _ _ _ h];rfl
theorem T6'.c3 (h:T6' w g a0 a1 a2 a3 a4 a5):w.cell? ⟨g,3,none⟩=some a3:=by rw [cell_of_row w g 3 _ _ _ h];rfl
theorem T6'.c4 (h:T6' w g a0 a1 a2 a3 a4 a5):w.cell? ⟨g,4,none⟩=some a4:=by rw [cell_of_row w g 4 _ _ _ h];rfl
theorem T6'.c5 (h:T6' w g a0 a1 a2 a3 a4 a5):w.cell? ⟨g,5,none⟩=some a5:=by rw [cell_of_row w g 5 _ _ _ h];rfl
theorem T6'.fr (h:T6' w g a0 a1 a2 a3 a4 a5) (j:Nat):w.frozen? ⟨g,j,none⟩=false:=frozen_of_row w g j _ _ h
theorem T6'.drewN (h:T6' w g a0 a1 a2 a3 a4 a5) (n:Nat):T6' (w.drewN n) g a0 a1 a2 a3 a4 a5:=h
theorem T6'.s6 (h:T6' w g a0 a1 a2 a3 a4 a5) (x0 x1 x2 x3 x4 x5:Value):T6' ((((((w.setCell ⟨g,0,none⟩ x0).setCell ⟨g,1,none⟩ x1).setCell ⟨g,2,none⟩ x2).setCell ⟨g,3,none⟩ x3).setCell ⟨g,4,none⟩ x4).setCell ⟨g,5,none⟩ x5) g x0 x1 x2 x3 x4 x5 :=
 heap_setCell_same _ g 5 _ _ _ (heap_setCell_same _ g 4 _ _ _ (heap_setCell_same _ g 3 _ _ _ (heap_setCell_same _ g 2 _ _ _ (heap_setCell_same _ g 1 _ _ _ (heap_setCell_same w g 0 _ _ _ h)))))
end
theorem below_set6' {B:Nat} {a w:World} (h:Below B a w) {g:Nat} (hg:B≤g) (x0 x1 x2 x3 x4 x5:Value):Below B a ((((((w.setCell ⟨g,0,none⟩ x0).setCell ⟨g,1,none⟩ x1).setCell ⟨g,2,none⟩ x2).setCell ⟨g,3,none⟩ x3).setCell ⟨g,4,none⟩ x4).setCell ⟨g,5,none⟩ x5):=(((((h.setCell hg x0).setCell hg x1).setCell hg x2).setCell hg x3).setCell hg x4).setCell hg x5
theorem bdrewN {B:Nat} {a w:World} (h:Below B a w) (n:Nat):Below B a (w.drewN n):=⟨h.os,h.tape,h.output,h.size,h.block⟩
theorem tk_get {ts:List Tn} {i:Nat} (h:i<ts.length):Sx.tk ts i=ts[i]:=by
 unfold Sx.tk
 rw [List.getD_eq_getElem?_getD,List.getElem?_eq_getElem h]
 rfl
theorem tk_out {ts:List Tn} {i:Nat} (h:ts.length≤i):Sx.tk ts i=Sx.tz:=by
 unfold Sx.tk
 rw [List.getD_eq_getElem?_getD,List.getElem?_eq_none h]
 rfl
section
variable (w:World) {p b g:Nat} {cap:Cp} {ts:List Tn} {i n d:Nat}
set_option maxHeartbeats 1000000 in
theorem peek_any (h:RS w p b g cap ts i n d) :
 Calls Tryz.prog 145 #[.pointer (some ⟨p,0,none⟩)] w fun e w'=>e=.returned (tnV (Sx.tk ts i))∧Below w.heap.size w w':=by
 obtain ⟨w0,hw0⟩:∃ w0,w0=w.alloc (Obj.cells #[.int .i64 0,.string ⟨#[]⟩,.int .i64 0,.int .i64 0,.int .i64 0,.int .i64 0] 108):=⟨_,rfl⟩
 have HB:=show Hid (Below w.heap.size w w0) from by rw [hw0];exact below_alloc w _
 have HR:=show Hid (T6' w0 w.heap.size (.int .i64 0) (.string ⟨#[]⟩) (.int .i64 0) (.int .i64 0) (.int .i64 0) (.int .i64 0)) from by rw [hw0];exact heap_alloc_new w _
 have h0:=h.later HB.out
 have c1:=h0.rd.c1
 have c2:=h0.rd.c2
 have f0:=HR.out.fr
 have e0:=HR.out.c0;have e1:=HR.out.c1;have e2:=HR.out.c2;have e3:=HR.out.c3;have e4:=HR.out.c4;have e5:=HR.out.c5
 by_cases hi:i<ts.length
 ·have hlt:(i:Int)<(ts.length:Int):=by omega
  have hcell:=h0.tk.cellO hi
  have d0:=hcell 0 (by omega)
  have d1:=hcell 1 (by omega)
  have d2:=hcell 2 (by omega)
  have d3:=hcell 3 (by omega)
  have d4:=hcell 4 (by omega)
  have d5:=hcell 5 (by omega)
  rw [tk_get hi]
  generalize ts[i]=t at *
  obtain ⟨tk,tx,tn,tl,tc,to⟩:=t
  simp only [tnC,tnV,Nat.add_zero,List.getElem?_cons_zero,List.getElem?_cons_succ] at *
  clear h h0 hcell
  go_enter Tryz.func145,Tryz.ntmps145
  go_wp2_with fail
  rw [← hw0]
  clear hw0
  go_quiet (fail)
  go_wp2_with fail
  go_region
  go_wp2_with fail
  refine bodyPost_ret (results_cell_row rfl _ _ w.heap.size _ _ _ _ rfl ((HR.out.drewN (nq+1)).s6 (.int .i64 tk) (.string tx) (.int .i64 tn) (.int .i64 tl) (.int .i64 tc) (.int .i64 to)) Tryz.underlying108 rfl (by kernel_rfl)) rfl ?_
  exact ⟨rfl,below_set6' (bdrewN HB.out (nq+1)) (Nat.le_refl _) _ _ _ _ _ _⟩
 ·rw [tk_out (by omega)]
  have hlt:¬ (i:Int)<(ts.length:Int):=by omega
  clear h h0
  go_enter Tryz.func145,Tryz.ntmps145
  go_wp2_with fail
  rw [← hw0]
  clear hw0
  go_quiet (fail)
  go_wp2_with fail
  refine bodyPost_ret (results_cell_row rfl _ _ w.heap.size _ _ _ _ rfl ((HR.out.drewN nq).s6 (.int .i64 0) (.string ⟨#[]⟩) (.int .i64 0) (.int .i64 0) (.int .i64 0) (.int .i64 0)) Tryz.underlying108 rfl (by kernel_rfl)) rfl ?_
  exact ⟨rfl,below_set6' (bdrewN HB.out nq) (Nat.le_refl _) _ _ _ _ _ _⟩
set_option maxHeartbeats 1000000 in
theorem counts_any (t:Tn) :
 Calls Tryz.prog 100 #[tnV t] w fun e w'=>e=.returned (.bool (Sx.counts t))∧Below w.heap.size w w':=by
 obtain ⟨tk,tx,tn,tl,tc,to⟩:=t
 unfold tnV
 go_enter Tryz.func100,Tryz.ntmps100
 go_wp2_with fail
 all_goals first | (exfalso;simp_all;done) | (go_ret;refine ⟨ret_bool ?_,below_alloc _ _⟩;simp only [Sx.counts,← ByteArray.toList_eq];simp_all)
def Stepped (w:World) (p b g:Nat) (cap:Cp) (ts:List Tn) (i n d:Nat) (e0:Ending) (e:Ending) (w':World):Prop :=
 (512<Sx.up ts i n∧e=fltP 40 (Sx.tk ts i)∧KpP p w w')∨(Sx.up ts i n≤512∧e=e0∧RS w' p b g cap ts (i+1) (Sx.up ts i n) d∧KpP p w w')
set_option maxRecDepth 100000 in
set_option maxHeartbeats 2000000 in
theorem step_any (h:RS w p b g cap ts i n d) (hn:n≤512) (hi:i≤ts.length) :
 Calls Tryz.prog 182 #[.pointer (some ⟨p,0,none⟩)] w fun e w'=>Stepped w p b g cap ts i n d (.returned (.tuple #[])) e w':=by
 have hcl:ts.length≤4611686018427387904:=by obtain ⟨cur,_,_,_,_,h1⟩:=h.tk;exact h1
 have KP:=show Hid (Calls Tryz.prog 145 #[.pointer (some ⟨p,0,none⟩)] w fun e w'=>e=.returned (tnV (Sx.tk ts i))∧Below w.heap.size w w') from peek_any w h
 have KC:=show Hid (∀ w,Calls Tryz.prog 100 #[tnV (Sx.tk ts i)] w fun e w'=>e=.returned (.bool (Sx.counts (Sx.tk ts i)))∧Below w.heap.size w w') from fun w=>counts_any w _
 have HU:=show Hid (Sx.up ts i n=if Sx.counts (Sx.tk ts i) then n+1 else n) from rfl
 have HS:=show Hid (RS w p b g cap ts i n d) from h
 have HX:=show Hid (∀ e w',(512<Sx.up ts i n∧e=fltP 40 (Sx.tk ts i)∧KpP p w w')∨(Sx.up ts i n≤512∧e=.returned (.tuple #[])∧RS w' p b g cap ts (i+1) (Sx.up ts i n) d∧KpP p w w')→Stepped w p b g cap ts i n d (.returned (.tuple #[])) e w') from fun _ _ h=>h
 have hcl':i≤4611686018427387904:=by omega
 generalize Stepped w p b g cap ts i n d (.returned (.tuple #[]))=Q at *
 generalize Sx.up ts i n=u at *
 generalize Sx.counts (Sx.tk ts i)=cc at *
 generalize Sx.tk ts i=t at *
 obtain ⟨tk,tx,tn,tl,tc,to⟩:=t
 unfold tnV at *
 clear h hcl hi
 go_enter Tryz.func182,Tryz.ntmps182
 go_wp2_with fail
 refine KP.out.mono ?_
 rintro e w1 ⟨rfl,hb1⟩
 have HB1:=show Hid (Below w.heap.size w w1) from hb1
 have HS1:=show Hid (RS w1 p b g cap ts i n d) from HS.out.later hb1
 clear hb1 KP
 go_wp2_with fail
 refine (KC.out _).mono ?_
 rintro e w2 ⟨rfl,hb2⟩
 have hlt1:w1.heap.size<w2.heap.size:=by have:=hb2.size;simp at this;omega
 have HB2:=show Hid (Below w.heap.size w w2) from HB1.out.trans ((below_alloc w1 _).trans (hb2.mono (by simp)) |>.mono HB1.out.size)
 have HS2:=show Hid (RS w2 p b g cap ts i n d) from (HS1.out.later (below_alloc w1 _)).later hb2
 have HT:=show Hid (T6' w2 w1.heap.size (.int .i64 tk) (.string tx) (.int .i64 tn) (.int .i64 tl) (.int .i64 tc) (.int .i64 to)) from (hb2.block _ (by simp)).trans (heap_alloc_new _ _)
 have HB1s:=show Hid (w.heap.size≤w1.heap.size) from HB1.out.size
 clear hb2 KC HB1 HS1
 have c2:=HS2.out.rd.c2;have c3:=HS2.out.rd.c3;have hf:=HS2.out.rd.fr
 have t3:=HT.out.c3;have t4:=HT.out.c4;have t5:=HT.out.c5
 have hpn:¬ w1.heap.size=p:=by have:=HS.out.rd.lt;have:=HB1s.out;omega
 have hpn2:¬ p=w1.heap.size:=fun e=>hpn e.symm
 have HKP:=show Hid (KpP p w w2) from KpP.of_below HB2.out
 cases cc
 ·have hu:u=n:=HU.out
  subst hu
  have hle:(u:Int)≤512:=by omega
  have hle2:¬ 512<(u:Int):=by omega
  clear HU hn
  go_wp2_with fail
  go_end0
  exact HX.out _ _ (Or.inr ⟨by omega,rfl,HS2.out.s2 (i+1),HKP.out.set _ _⟩)
 ·have hu:u=n+1:=HU.out
  subst hu
  by_cases hgt:512<n+1
  ·have HGT:=show Hid _ from hgt
   have hle:512<((n:Int)+1):=by omega
   clear HU hgt
   go_wp2_with fail
   exact ⟨rfl,HX.out _ _ (Or.inl ⟨HGT.out,rfl,HKP.out.set _ _⟩)⟩
  ·have HGT:=show Hid _ from hgt
   have hle:((n:Int)+1)≤512:=by omega
   have hle2:¬ 512<((n:Int)+1):=by omega
   clear HU hgt hn
   go_wp2_with fail
   go_end0
   exact HX.out _ _ (Or.inr ⟨by have:=HGT.out;omega,rfl,(HS2.out.s3 (n+1)).s2 (i+1),(HKP.out.set _ _).set _ _⟩)
set_option maxRecDepth 100000 in
set_option maxHeartbeats 1000000 in
theorem refuse_any (h:RS w p b g cap ts i n d) (hn:n≤512) (hi:i≤ts.length) :
 Calls Tryz.prog 146 #[.pointer (some ⟨p,0,none⟩)] w fun e w'=>e=fltP (if 512<Sx.up ts i n then 40 else 41) (Sx.tk ts i)∧KpP p w w':=by
 have KP:=show Hid (Calls Tryz.prog 145 #[.pointer (some ⟨p,0,none⟩)] w fun e w'=>e=.returned (tnV (Sx.tk ts i))∧Below w.heap.size w w') from peek_any w h
 have KS:=show Hid (∀ w1,Below w.heap.size w w1→Calls Tryz.prog 182 #[.pointer (some ⟨p,0,none⟩)] w1 fun e w'=>Stepped w1 p b g cap ts i n d (.returned (.tuple #[])) e w') from fun w1 hb=>step_any w1 (h.later hb) hn hi
 have HS:=show Hid (RS w p b g cap ts i n d) from h
 generalize ht:Sx.tk ts i=t at *
 have HTK:=show Hid (Sx.tk ts i=t) from ht
 clear ht
 obtain ⟨tk,tx,tn,tl,tc,to⟩:=t
 unfold tnV at *
 generalize hec:(if 512<Sx.up ts i n then (40:Int) else 41)=ec at *
 have HEC:=show Hid ((if 512<Sx.up ts i n then (40:Int) else 41)=ec) from hec
 clear h hn hi hec
 go_enter Tryz.func146,Tryz.ntmps146
 go_wp2_with fail
 refine KP.out.mono ?_
 rintro e w1 ⟨rfl,hb1⟩
 have HB1:=show Hid (Below w.heap.size w w1) from hb1
 clear hb1 KP
 go_wp2_with fail
 have HBA:=show Hid (Below w.heap.size w (w1.alloc (Obj.cells #[.int .i64 tk,.string tx,.int .i64 tn,.int .i64 tl,.int .i64 tc,.int .i64 to] 108))) from HB1.out.alloc HB1.out.size _
 have HTA:=show Hid (T6' (w1.alloc (Obj.cells #[.int .i64 tk,.string tx,.int .i64 tn,.int .i64 tl,.int .i64 tc,.int .i64 to] 108)) w1.heap.size (.int .i64 tk) (.string tx) (.int .i64 tn) (.int .i64 tl) (.int .i64 tc) (.int .i64 to)) from heap_alloc_new _ _
 have hp1:¬ w1.heap.size=p:=by have:=HS.out.rd.lt;have:=HB1.out.size;omega
 refine (KS.out _ HBA.out).mono ?_
 rintro e w2 (⟨hu,rfl,hk⟩ | ⟨hu,rfl,hr,hk⟩)
 ·have HH:=show Hid _ from (⟨hu,hk⟩:_∧_)
  clear hu hk KS
  rw [HTK.out]
  unfold fltP
  go_wp2_with fail
  refine ⟨rfl,?_,(KpP.of_below HBA.out).trans HH.out.2⟩
  rw [← HEC.out,if_pos HH.out.1]
  rfl
 ·have HH:=show Hid _ from (⟨hu,hk⟩:_∧_)
  have HT2:=show Hid (T6' w2 w1.heap.size (.int .i64 tk) (.string tx) (.int .i64 tn) (.int .i64 tl) (.int .i64 tc) (.int .i64 to)) from (hk.block _ (by simp) hp1).trans HTA.out
  have t3:=HT2.out.c3;have t4:=HT2.out.c4;have t5:=HT2.out.c5
  clear hu hk hr KS
  go_wp2_with fail
  refine ⟨rfl,?_,(KpP.of_below HBA.out).trans HH.out.2⟩
  rw [← HEC.out,if_neg (by have:=HH.out.1;omega)]
  rfl
set_option maxRecDepth 100000 in
set_option maxHeartbeats 1000000 in
theorem at_any (h:RS w p b g cap ts i n d) (x:ByteArray) :
 Calls Tryz.prog 214 #[.pointer (some ⟨p,0,none⟩),.string x] w fun e w'=>e=.returned (.bool (Sx.sgn (Sx.tk ts i) x.data.toList))∧Below w.heap.size w w':=by
 have KP:=show Hid (Calls Tryz.prog 145 #[.pointer (some ⟨p,0,none⟩)] w fun e w'=>e=.returned (tnV (Sx.tk ts i))∧Below w.heap.size w w') from peek_any w h
 generalize Sx.tk ts i=t at *
 obtain ⟨tk,tx,tn,tl,tc,to⟩:=t
 unfold tnV at *
 clear h
 go_enter Tryz.func214,Tryz.ntmps214
 go_wp2_with fail
 refine KP.out.mono ?_
 rintro e w1 ⟨rfl,hb1⟩
 have HB1:=show Hid (Below w.heap.size w w1) from hb1
 clear hb1 KP
 go_wp2_with fail
 all_goals (go_ret;refine ⟨ret_bool ?_,HB1.out.alloc HB1.out.size _⟩;simp only [Sx.sgn,← ByteArray.toList_eq];simp_all)
def Signed (w:World) (p b g:Nat) (cap:Cp) (ts:List Tn) (i n d:Nat) (x:List UInt8) (e:Ending) (w':World):Prop :=
 (Sx.sgn (Sx.tk ts i) x=false∧e=.returned (.bool false)∧Below w.heap.size w w')∨(Sx.sgn (Sx.tk ts i) x=true∧Stepped w p b g cap ts i n d (.returned (.bool true)) e w')
set_option maxRecDepth 100000 in
set_option maxHeartbeats 1000000 in
theorem sign_any (h:RS w p b g cap ts i n d) (hn:n≤512) (hi:i≤ts.length) (x:ByteArray) :
 Calls Tryz.prog 179 #[.pointer (some ⟨p,0,none⟩),.string x] w fun e w'=>Signed w p b g cap ts i n d x.data.toList e w':=by
 have HX:=show Hid (∀ e w',(Sx.sgn (Sx.tk ts i) x.data.toList=false∧e=.returned (.bool false)∧Below w.heap.size w w')∨(Sx.sgn (Sx.tk ts i) x.data.toList=true∧Stepped w p b g cap ts i n d (.returned (.bool true)) e w')→Signed w p b g cap ts i n d x.data.toList e w') from fun _ _ h=>h
 generalize Signed w p b g cap ts i n d x.data.toList=Q at *
 have KA:=show Hid (Calls Tryz.prog 214 #[.pointer (some ⟨p,0,none⟩),.string x] w fun e w'=>e=.returned (.bool (Sx.sgn (Sx.tk ts i) x.data.toList))∧Below w.heap.size w w') from at_any w h x
 have KS:=show Hid (∀ w1,Below w.heap.size w w1→Calls Tryz.prog 182 #[.pointer (some ⟨p,0,none⟩)] w1 fun e w'=>Stepped w1 p b g cap ts i n d (.returned (.tuple #[])) e w') from fun w1 hb=>step_any w1 (h.later hb) hn hi
 clear h hn hi
 generalize Sx.sgn (Sx.tk ts i) x.data.toList=q at *
 go_enter Tryz.func179,Tryz.ntmps179
 go_wp2_with fail
 refine KA.out.mono ?_
 rintro e w1 ⟨rfl,hb1⟩
 have HB1:=show Hid (Below w.heap.size w w1) from hb1
 clear hb1 KA
 cases q
 ·go_wp2_with fail
  exact HX.out _ _ (Or.inl ⟨by simp,rfl,HB1.out⟩)
 ·go_wp2_with fail
  refine (KS.out _ HB1.out).mono ?_
  rintro e w2 (⟨hu,rfl,hk⟩ | ⟨hu,rfl,hr,hk⟩)
  ·have HH:=show Hid _ from (⟨hu,hk⟩:_∧_)
   clear hu hk KS
   unfold fltP
   go_wp2_with fail
   exact ⟨rfl,HX.out _ _ (Or.inr ⟨by simp,Or.inl ⟨HH.out.1,rfl,(KpP.of_below HB1.out).trans HH.out.2⟩⟩)⟩
  ·have HH:=show Hid _ from (⟨hu,hr,hk⟩:_∧_∧_)
   clear hu hk hr KS
   go_wp2_with fail
   exact HX.out _ _ (Or.inr ⟨by simp,Or.inr ⟨HH.out.1,rfl,HH.out.2.1,(KpP.of_below HB1.out).trans HH.out.2.2⟩⟩)
theorem field_tok0 (w:World) (k:Int) (s:ByteArray) (n l c o:Int):(Instr.field 108 (.agg #[.int .i64 k,.string s,.int .i64 n,.int .i64 l,.int .i64 c,.int .i64 o]) 0).run Tryz.prog w=.ok (.int .i64 k) w:=by kernel_rfl
theorem field_tok1 (w:World) (k:Int) (s:ByteArray) (n l c o:Int):(Instr.field 108 (.agg #[.int .i64 k,.string s,.int .i64 n,.int .i64 l,.int .i64 c,.int .i64 o]) 1).run Tryz.prog w=.ok (.string s) w:=by kernel_rfl
def Ended (w:World) (p:Nat) (ts:List Tn) (i n:Nat) (e:Ending) (w':World):Prop :=
 ((Sx.tk ts i).k=0∧e=.returned (.tuple #[])∧Below w.heap.size w w')∨((Sx.tk ts i).k≠0∧e=fltP (if 512<Sx.up ts i n then 40 else 41) (Sx.tk ts i)∧KpP p w w')
set_option maxRecDepth 100000 in
set_option maxHeartbeats 1000000 in
theorem end_any (h:RS w p b g cap ts i n d) (hn:n≤512) (hi:i≤ts.length) :
 Calls Tryz.prog 104 #[.pointer (some ⟨p,0,none⟩)] w fun e w'=>Ended w p ts i n e w':=by
 have HX:=show Hid (∀ e w',((Sx.tk ts i).k=0∧e=.returned (.tuple #[])∧Below w.heap.size w w')∨((Sx.tk ts i).k≠0∧e=fltP (if 512<Sx.up ts i n then 40 else 41) (Sx.tk ts i)∧KpP p w w')→Ended w p ts i n e w') from fun _ _ h=>h
 generalize Ended w p ts i n=Q at *
 have hfd:=field_tok0
 have KP:=show Hid (Calls Tryz.prog 145 #[.pointer (some ⟨p,0,none⟩)] w fun e w'=>e=.returned (tnV (Sx.tk ts i))∧Below w.heap.size w w') from peek_any w h
 have KR:=show Hid (∀ w1,Below w.heap.size w w1→Calls Tryz.prog 146 #[.pointer (some ⟨p,0,none⟩)] w1 fun e w'=>e=fltP (if 512<Sx.up ts i n then 40 else 41) (Sx.tk ts i)∧KpP p w1 w') from fun w1 hb=>refuse_any w1 (h.later hb) hn hi
 clear h hn hi
 generalize (if 512<Sx.up ts i n then (40:Int) else 41)=ec at *
 generalize Sx.tk ts i=t at *
 obtain ⟨tk,tx,tn,tl,tc,to⟩:=t
 unfold tnV at *
 go_enter Tryz.func104,Tryz.ntmps104
 go_wp2_with fail
 refine KP.out.mono ?_
 rintro e w1 ⟨rfl,hb1⟩
 have HB1:=show Hid (Below w.heap.size w w1) from hb1
 clear hb1 KP
 by_cases hk:tk=0
 ·subst hk
  go_wp2_with fail
  go_end0
  exact HX.out _ _ (Or.inl ⟨by simp,rfl,HB1.out⟩)
 ·have hk2:(tk != 0)=true:=by simp [hk]
  have HK:=show Hid _ from hk
  clear hk
  go_wp2_with fail
  refine (KR.out _ HB1.out).mono ?_
  rintro e w2 ⟨rfl,hkp⟩
  have HKP:=show Hid _ from hkp
  clear hkp KR
  unfold fltP
  go_wp2_with fail
  exact ⟨rfl,HX.out _ _ (Or.inr ⟨HK.out,rfl,(KpP.of_below HB1.out).trans HKP.out⟩)⟩
end
end Go.Proofs.YtkmmlimekachbaaGreatDoor
/-
  The calls join, named and word of a reader: closures are made. For every list of tokens. No other condition.
-/
namespace Go.Proofs.YtkmmlimekachbaaGreatDoor
open Go.RowKit Go.Maps
open Fm (Nd)
open Sx (Tn T)
theorem mkFunc (fn:Fn) (first cap:Array Value) (w:World):(Instr.makeFunc fn first cap).run Tryz.prog w=.ok (.func fn first cap) w:=rfl
theorem eql_nil (w:World):(binOp BinOp.eql 205 .nilFunc .nilFunc).run Tryz.prog w=.ok (.bool true) w:=by kernel_rfl
theorem eql_fun (fn:Fn) (first cap:Array Value) (w:World):(binOp BinOp.eql 205 (.func fn first cap) .nilFunc).run Tryz.prog w=.ok (.bool false) w:=by kernel_rfl
theorem Pts.shape {w:World} {p b:Nat}:∀ {a:T} {c:Value},Pts w p b a c→∃ F cap,c=.func (.func F) #[] cap
 | .bot,_,⟨_,h,_⟩=>⟨_,_,h⟩
 | .top,_,⟨_,h,_⟩=>⟨_,_,h⟩
 | .atom _,_,⟨_,_,h,_⟩=>⟨_,_,h⟩
 | .neg _,_,⟨_,_,_,h,_⟩=>⟨_,_,h⟩
 | .bin _ _ _,_,⟨_,_,_,_,_,h,_⟩=>⟨_,_,h⟩
 | .iff _ _,_,⟨_,_,_,_,_,h,_⟩=>⟨_,_,h⟩
theorem heap_new_at (w:World) (cs:Array Value) (ty:TypeId) {k:Nat} (h:k=w.heap.size):(w.alloc (.cells cs ty)).heap[k]?=some (.cells cs ty (0,0)):=by subst h;exact heap_alloc_new w _
def joinV (h:Nat):Value:=.func (.func 215) #[] #[ptrV h,ptrV (h+1),ptrV (h+2)]
def joinW (w:World) (c1 c2 hv:Value):World:=((w.alloc (.cells #[c1] 205)).alloc (.cells #[c2] 205)).alloc (.cells #[hv] 248)
theorem joinW_below (w:World) (c1 c2 hv:Value):Below w.heap.size w (joinW w c1 c2 hv):=(((Below.refl _ _).alloc (Nat.le_refl _) _).alloc (by simp) _).alloc (by simp;omega) _
theorem joinW_b1 (w:World) (c1 c2 hv:Value):Box (joinW w c1 c2 hv) w.heap.size c1 205 :=
 (Below.heap_alloc _ _ _ (by simp;omega)).trans ((Below.heap_alloc _ _ _ (by simp)).trans (heap_alloc_new w _))
theorem joinW_b2 (w:World) (c1 c2 hv:Value):Box (joinW w c1 c2 hv) (w.heap.size+1) c2 205 :=
 (Below.heap_alloc _ _ _ (by simp)).trans (heap_new_at _ _ _ (by simp))
theorem joinW_b3 (w:World) (c1 c2 hv:Value):Box (joinW w c1 c2 hv) (w.heap.size+2) hv 248:=heap_new_at _ _ _ (by simp)
theorem joinW_bin {w:World} {p b:Nat} {k:Int} {a a2:T} {c1 c2:Value} (h1:Pts w p b a c1) (h2:Pts w p b a2 c2):Pts (joinW w c1 c2 (howV p b k)) p b (.bin k a a2) (joinV w.heap.size) :=
 ⟨_,_,_,c1,c2,rfl,joinW_b1 _ _ _ _,joinW_b2 _ _ _ _,joinW_b3 _ _ _ _,h1.later (joinW_below _ _ _ _),h2.later (joinW_below _ _ _ _)⟩
theorem joinW_iff {w:World} {p b:Nat} {a a2:T} {c1 c2:Value} (h1:Pts w p b a c1) (h2:Pts w p b a2 c2):Pts (joinW w c1 c2 (howV p b 0)) p b (.iff a a2) (joinV w.heap.size) :=
 ⟨_,_,_,c1,c2,rfl,joinW_b1 _ _ _ _,joinW_b2 _ _ _ _,joinW_b3 _ _ _ _,h1.later (joinW_below _ _ _ _),h2.later (joinW_below _ _ _ _)⟩
section
variable (w:World) {p b g:Nat} {cap:Cp} {ts:List Tn} {i n d:Nat}
set_option maxHeartbeats 400000 in
theorem join_any (f1 f2 f3:Fn) (a1 a2 a3 p1 p2 p3:Array Value) :
 Calls Tryz.prog 180 #[.func f1 a1 p1,.func f2 a2 p2,.func f3 a3 p3] w fun e w'=>e=.returned (joinV w.heap.size)∧w'=joinW w (.func f1 a1 p1) (.func f2 a2 p2) (.func f3 a3 p3):=by
 have hmf:=mkFunc
 go_enter Tryz.func180,Tryz.ntmps180
 go_wp2_with fail
 go_ret
 exact ⟨rfl,rfl⟩
def Named (w:World) (p b:Nat) (s:ByteArray) (e:Ending) (w':World):Prop :=
 ((Sx.named s=none∧e=.returned .nilFunc)∨∃ a F cap,Sx.named s=some a∧e=.returned (.func (.func F) #[] cap)∧Pts w' p b a (.func (.func F) #[] cap))∧Below w.heap.size w w'
set_option maxHeartbeats 1000000 in
theorem named_any (s:ByteArray) (hs:s.size≤140737488351232) :
 Calls Tryz.prog 247 #[.pointer (some ⟨p,0,none⟩),.string s] w fun e w'=>Named w p b s e w':=by
 have KW:=show Hid (∀ w:World,Calls Tryz.prog 202 #[.string s] w fun e w'=>e=.returned (.bool (Fm.word s.data.toList))∧w'=w) from fun w=>word_any w s hs
 have HX:=show Hid (∀ e w',((Sx.named s=none∧e=.returned .nilFunc)∨∃ a F cap,Sx.named s=some a∧e=.returned (.func (.func F) #[] cap)∧Pts w' p b a (.func (.func F) #[] cap))∧Below w.heap.size w w'→Named w p b s e w') from fun _ _ h=>h
 generalize Named w p b s=Q at *
 have HW:=show Hid (Below w.heap.size w ((w.alloc (.cells #[ptrV p] 169)).alloc (.cells #[.string s] 9))) from ((Below.refl _ _).alloc (Nat.le_refl _) _).alloc (by simp) _
 have HB1:=show Hid (Box ((w.alloc (.cells #[ptrV p] 169)).alloc (.cells #[.string s] 9)) w.heap.size (ptrV p) 169) from (Below.heap_alloc _ _ _ (by simp)).trans (heap_alloc_new w _)
 have HB2:=show Hid (Box ((w.alloc (.cells #[ptrV p] 169)).alloc (.cells #[.string s] 9)) (w.heap.size+1) (.string s) 9) from heap_new_at _ _ _ (by simp)
 have hmf:=mkFunc
 have hts:s.toList=s.data.toList:=ByteArray.toList_eq s
 have HN:=show Hid (Sx.named s=if s.data.toList=Sx.wFalse then some .bot else if s.data.toList=Sx.wTrue then some .top else if Fm.word s.data.toList then some (.atom s) else none) from rfl
 generalize Sx.named s=nm at *
 clear hs
 by_cases h1:s.data.toList=[102,97,108,115,101]
 ·have hq:(s.toList == [102,97,108,115,101])=true:=by rw [hts,h1];rfl
  have hn:=HN.out
  rw [if_pos h1] at hn
  subst hn
  clear h1 hts HN
  go_enter Tryz.func247,Tryz.ntmps247
  go_wp2_with fail
  exact HX.out _ _ ⟨Or.inr ⟨_,_,_,rfl,rfl,⟨w.heap.size,rfl,HB1.out⟩⟩,HW.out⟩
 ·have hq:(s.toList == [102,97,108,115,101])=false:=by rw [hts];simp [h1]
  by_cases h2:s.data.toList=[116,114,117,101]
  ·have hq2:(s.toList == [116,114,117,101])=true:=by rw [hts,h2];rfl
   have hn:=HN.out
   rw [if_neg h1,if_pos h2] at hn
   subst hn
   clear h1 h2 hts HN
   go_enter Tryz.func247,Tryz.ntmps247
   go_wp2_with fail
   exact HX.out _ _ ⟨Or.inr ⟨_,_,_,rfl,rfl,⟨w.heap.size,rfl,HB1.out⟩⟩,HW.out⟩
  ·have hq2:(s.toList == [116,114,117,101])=false:=by rw [hts];simp [h2]
   have hn:=HN.out
   rw [if_neg h1,if_neg h2] at hn
   have HN2:=show Hid _ from hn
   clear h1 h2 hts HN hn
   generalize Fm.word s.data.toList=q at *
   go_enter Tryz.func247,Tryz.ntmps247
   go_wp2_with fail
   refine (KW.out _).mono ?_
   rintro e w1 ⟨rfl,hw1⟩
   subst w1
   cases q
   ·have hn:=HN2.out
    simp only [Bool.false_eq_true,if_false] at hn
    subst hn
    go_wp2_with fail
    exact HX.out _ _ ⟨Or.inl ⟨by simp,rfl⟩,HW.out⟩
   ·have hn:=HN2.out
    simp only [if_true] at hn
    subst hn
    go_wp2_with fail
    exact HX.out _ _ ⟨Or.inr ⟨_,_,_,rfl,rfl,⟨w.heap.size,w.heap.size+1,rfl,HB1.out,HB2.out⟩⟩,HW.out⟩
def Read (w:World) (p b g:Nat) (cap:Cp) (ts:List Tn) (d:Nat) (o:Sx.Out) (e:Ending) (w':World):Prop :=
 match o with
 | .ok a i n=>∃ F cp,e=.returned (.func (.func F) #[] cp)∧Pts w' p b a (.func (.func F) #[] cp)∧RS w' p b g cap ts i n d∧KpP p w w'
 | .bad er t=>e=fltP er t∧KpP p w w'
theorem read_ok {w w':World} {p b g:Nat} {cap:Cp} {ts:List Tn} {d:Nat} {o:Sx.Out} {a:T} {i n F:Nat} {cp:Array Value} (ho:o=.ok a i n) (h1:Pts w' p b a (.func (.func F) #[] cp)) (h2:RS w' p b g cap ts i n d) (h3:KpP p w w'):Read w p b g cap ts d o (.returned (.func (.func F) #[] cp)) w':=by
 subst ho
 exact ⟨F,cp,rfl,h1,h2,h3⟩
theorem read_bad {w w':World} {p b g:Nat} {cap:Cp} {ts:List Tn} {d:Nat} {o:Sx.Out} {er:Int} {t:Tn} (ho:o=.bad er t) (h3:KpP p w w'):Read w p b g cap ts d o (fltP er t) w':=by
 subst ho
 exact ⟨rfl,h3⟩
end
end Go.Proofs.YtkmmlimekachbaaGreatDoor
