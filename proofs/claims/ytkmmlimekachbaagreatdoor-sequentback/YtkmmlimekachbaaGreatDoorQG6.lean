/-
  The calls orBack; what Whole and Curry hold in memory; a range over a function whose rounds turn a table that lay before. No condition.
-/
import Derived.Test.YtkmmlimekachbaaGreatDoorQG5
import Derived.Test.YtkmmlimekachbaaGreatDoorBG5
import Derived.Test.YtkmmlimekachbaaGreatDoorSPQ
import Derived.Laws.EntriesVeiled
import Derived.Test.YtkmmlimekachbaaGreatDoorMG1
namespace Go.Proofs.YtkmmlimekachbaaGreatDoor
open Go.RowKit Go.Shelf Go.Maps
open Fm (Nd)
open Bt.Bs (Ok wd)
attribute [local go_sem] Oper.semAt_some
section
variable (w:World) {b m:Nat} {v:Value} {t:List Nd}
set_option maxHeartbeats 400000 in
theorem orBack_ok (p1 p2:Nat) (x:Int):Calls Tryz.prog 68 #[.func (.func 124) #[] #[.pointer (some ⟨p1,0,none⟩),.pointer (some ⟨p2,0,none⟩)],.int .i64 x,.int .i64 0] w fun e w'=>e=.returned (.tuple #[.int .i64 x,.int .i64 0])∧w'=w:=by
 go_enter Tryz.func68,Tryz.ntmps68
 go_wp2_with fail
 go_ret2
 exact ⟨rfl,rfl⟩
set_option maxHeartbeats 400000 in
theorem orBack_bad {p1 p2:Nat} {u:List Nd} (hT:Tb w b m v (t ++ u)) (h1:Boxed w p1 29 (.pointer (some ⟨b,0,none⟩))) (h2:Boxed w p2 3 (.int .i64 (t.length:Int))) (x ec:Int) (he:ec≠0) :
 Calls Tryz.prog 68 #[.func (.func 124) #[] #[.pointer (some ⟨p1,0,none⟩),.pointer (some ⟨p2,0,none⟩)],.int .i64 x,.int .i64 ec] w fun e w'=>e=.returned (.tuple #[.int .i64 0,.int .i64 ec])∧After w b m v t w':=by
 have K:=show Hid (Calls Tryz.prog 124 #[.pointer (some ⟨p1,0,none⟩),.pointer (some ⟨p2,0,none⟩)] w fun e w'=>e=.returned (.tuple #[])∧After w b m v t w') from restore_any w hT h1 h2
 have he':(ec != 0)=true:=by simpa using he
 clear hT h1 h2
 go_enter Tryz.func68,Tryz.ntmps68
 go_wp2_with fail
 refine K.out.mono ?_
 rintro e w1 ⟨rfl,ha⟩
 have HA:=show Hid (After w b m v t w1) from ha
 clear ha K
 go_wp2_with fail
 go_ret2
 exact ⟨rfl,HA.out⟩
end
abbrev KT (b m:Nat) (v:Value) (n:Nat):World→World→Prop:=Kp (fun k=>Ft b m v k∨n≤k)
theorem kt_t {b m n:Nat} {v:Value} {A B C:World} (h:KT b m v n A B) (k:KT b m v n B C):KT b m v n A C:=h.trans k fun _ h=>Or.inl h
theorem kt_b {b m n:Nat} {v:Value} {w:World} (hn:n≤w.heap.size) (W:World) (l:Nat) (o o':Obj) (hl:w.heap.size≤l) (_:W.heap[l]?=some o) (_:o.isCells=false) (_:o.isWalk=false):KT b m v n W (W.putObj l o') :=
 ⟨rfl,rfl,rfl,by simp,fun k _ hk=>World.putObj_heap_other (fun e=>hk (Or.inr (by omega)))⟩
theorem kt_tz {b m n:Nat} {v:Value} {W W':World} (h:KT b m v n W W') (hF:¬ Ft b m v 0) (hn:0<n) (hZ:Bt.Tz W):Bt.Tz W':=fun j hj=>by
 have hlt:=Bt.tz_lt hZ
 have:=h.block _ hlt (fun e=>e.elim hF (by omega))
 rw [cell_same this]
 exact hZ j hj
theorem range_exK {F:Fence} {n:Nat} {P:Program} {α:Type} {g:Operand} {ps:Array Tmp} {assign body:Code} {Q:Exit→Act→World→Prop} {a:Act} {w:World}
 (hro:F.round=none) (h1:1≤n) {gf:Nat} {lb:Array Value} (hg:a.eval g=.func (.func gf) #[] lb) (hFg:F.fn gf) (eg:∀ args w,(callFunc gf args).run P w=.ok (.enter gf args) w)
 {encs:α→Array Value} {b m n₁:Nat} {v:Value} {S Sp:List α→Prop} {N:Nat} {w0:World} (hseq:SeqStopsK F (n - 1) P gf lb encs (KT b m v n₁) S Sp N w0)
 (hn₁:n₁≤w.heap.size) (hb0:Below w0.heap.size w0 w) (hps:∀ x,(encs x).size=ps.size)
 (I:List α→World→Prop) (Ix:Code→List α→World→Prop) (hI:OwnFrom w.heap.size I) (hIx:∀ c,OwnFrom w.heap.size (Ix c)) (h0:I [] w)
 (hab:∃ a₁:α→Act,(∀ (l:Nat) (x:α) (W:World) (K:Act→World→Prop),K (a₁ x) W →
  assign.wpIn (F.inRound l) (n - 1 - 1) P (Exit.then K (fun _ _ _=>False)) { tmps:=(ps.zip (encs x)).foldl (fun t (p,v)=>t.setIfInBounds p v) a.tmps,defers:=[] } W) ∧
  (∀ (l:Nat) (pre:List α) (x:α) (W:World),I pre W→pre.length<N→body.wpIn (F.inRound l) (n - 1 - 1) P (ownPostG w.heap.size (KT b m v n₁) I Ix (pre ++ [x]) W) (a₁ x) W))
 (hdone:∀ (D:Nat) (xs:List α) (W:World),w.heap.size≤D→S xs→I xs W→W.heap[D]?=some (.deferred (some []))→Q .normal { a with defers:={ target:=.collected D,args:=#[] } :: a.defers } W)
 (hstop:∀ (D:Nat) (c:Code) (pre:List α) (W:World),w.heap.size≤D→Sp pre→Ix c pre W→W.heap[D]?=some (.deferred (some []))→c.wpIn F n P Q { a with defers:={ target:=.collected D,args:=#[] } :: a.defers } W) :
 (Code.rangeFunc g ps assign body).wpIn F n P Q a w:=by
 obtain ⟨a₁,ha,hb⟩:=hab
 exact wpIn_rangeFunc_ownG hro h1 hg hFg eg hseq kt_t (kt_b hn₁) hb0 hps I Ix hI hIx h0 a₁ ha hb hdone hstop
structure WW (w W:World) (b m:Nat) (v:Value) (t t':List Nd) (r:List Nat) (g:Int) (pa p1 pb pe:Nat) (x e ri re:Int):Prop where
 aft:After w b m v t' W
 pre:∃ u,t'=t ++ u
 tab:Boxed W w.heap.size 29 (.pointer (some ⟨b,0,none⟩))
 seq:SeqAt W (w.heap.size+1) r g
 ri_:Boxed W (w.heap.size+1+1) 3 (.int .i64 ri)
 re_:Boxed W (w.heap.size+1+1+1) 33 (.int .i64 re)
 all:Boxed W pa 3 (.int .i64 x)
 rt:Boxed W p1 29 (.pointer (some ⟨b,0,none⟩))
 rn:Boxed W (p1+1) 3 (.int .i64 (t.length:Int))
 bk:Boxed W pb 1 (.func (.func 124) #[] #[.pointer (some ⟨p1,0,none⟩),.pointer (some ⟨p1+1,0,none⟩)])
 er:Boxed W pe 33 (.int .i64 e)
 le:w.heap.size+1+1+1+1≤pa∧w.heap.size+1+1+1+1≤p1∧w.heap.size+1+1+1+1≤pb∧w.heap.size+1+1+1+1≤pe
 ne:pa≠p1∧pa≠p1+1∧pa≠pb∧pa≠pe∧pe≠p1∧pe≠p1+1∧pe≠pb
section
variable {w W W':World} {b m:Nat} {v:Value} {t t':List Nd} {r:List Nat} {g:Int} {pa p1 pb pe:Nat} {x e ri re:Int}
theorem WW.later (h:WW w W b m v t t' r g pa p1 pb pe x e ri re) (hb:Below W.heap.size W W'):WW w W' b m v t t' r g pa p1 pb pe x e ri re :=
 ⟨h.aft.later hb,h.pre,box_later h.tab hb h.tab.lt,h.seq.later hb h.seq.lt,box_later h.ri_ hb h.ri_.lt,box_later h.re_ hb h.re_.lt,box_later h.all hb h.all.lt,box_later h.rt hb h.rt.lt,box_later h.rn hb h.rn.lt,box_later h.bk hb h.bk.lt,box_later h.er hb h.er.lt,h.le,h.ne⟩
theorem WW.call (h:WW w W b m v t t' r g pa p1 pb pe x e ri re) {v1:Value} {t2:List Nd} (hT:Tb W b m v1 t') (hl:Lies w.heap.size v v1) (hk:Kp (Ft b m v) w W) (ha:After W b m v1 t2 W') (hp:∃ u,t2=t ++ u):WW w W' b m v t t2 r g pa p1 pb pe x e ri re:=by
 have k:=ha.kp
 exact ⟨After.trans hl hk ha,hp,box_kp h.tab k (cells_nft h.tab (by decide) (by decide) hT),h.seq.kp k (h.seq.nft hT),box_kp h.ri_ k (cells_nft h.ri_ (by decide) (by decide) hT),box_kp h.re_ k (cells_nft h.re_ (by decide) (by decide) hT),box_kp h.all k (cells_nft h.all (by decide) (by decide) hT),box_kp h.rt k (cells_nft h.rt (by decide) (by decide) hT),box_kp h.rn k (cells_nft h.rn (by decide) (by decide) hT),box_kp h.bk k (cells_nft h.bk (by decide) (by decide) hT),box_kp h.er k (cells_nft h.er (by decide) (by decide) hT),h.le,h.ne⟩
theorem box_set {W:World} {B B':Nat} {ty:TypeId} {y u:Value} (h:Boxed W B ty y) (hne:B≠B'):Boxed (W.setCell ⟨B',0,none⟩ u) B ty y:=h.other hne u
theorem WW.setAE (h:WW w W b m v t t' r g pa p1 pb pe x e ri re) (x' e':Int):WW w ((W.setCell ⟨pa,0,none⟩ (.int .i64 x')).setCell ⟨pe,0,none⟩ (.int .i64 e')) b m v t t' r g pa p1 pb pe x' e' ri re:=by
 obtain ⟨l1,l2,l3,l4⟩:=h.le
 obtain ⟨n1,n2,n3,n4,n5,n6,n7⟩:=h.ne
 have k1:KpP pa W (W.setCell ⟨pa,0,none⟩ (.int .i64 x')):=KpP.set (Kp.refl _ _) 0 _
 have k2:KpP pe (W.setCell ⟨pa,0,none⟩ (.int .i64 x')) ((W.setCell ⟨pa,0,none⟩ (.int .i64 x')).setCell ⟨pe,0,none⟩ (.int .i64 e')):=KpP.set (Kp.refl _ _) 0 _
 have e1:=box_kp h.er k1 (fun e=>n4 e.symm)
 refine ⟨(h.aft.kpP k1 (by omega) h.all (by decide) (by decide)).kpP k2 (by omega) e1 (by decide) (by decide),h.pre,box_kp (box_kp h.tab k1 (by omega)) k2 (by omega),(h.seq.kp k1 (by omega)).kp k2 (by omega),box_kp (box_kp h.ri_ k1 (by omega)) k2 (by omega),box_kp (box_kp h.re_ k1 (by omega)) k2 (by omega),box_kp (h.all.set _) k2 n4,box_kp (box_kp h.rt k1 (fun e=>n1 e.symm)) k2 (fun e=>n5 e.symm),box_kp (box_kp h.rn k1 (fun e=>n2 e.symm)) k2 (fun e=>n6 e.symm),box_kp (box_kp h.bk k1 (fun e=>n3 e.symm)) k2 (fun e=>n7 e.symm),e1.set _,h.le,h.ne⟩
theorem WW.setE (h:WW w W b m v t t' r g pa p1 pb pe x e ri re) (e':Int):WW w (W.setCell ⟨pe,0,none⟩ (.int .i64 e')) b m v t t' r g pa p1 pb pe x e' ri re:=by
 obtain ⟨l1,l2,l3,l4⟩:=h.le
 obtain ⟨n1,n2,n3,n4,n5,n6,n7⟩:=h.ne
 have k2:KpP pe W (W.setCell ⟨pe,0,none⟩ (.int .i64 e')):=KpP.set (Kp.refl _ _) 0 _
 exact ⟨h.aft.kpP k2 (by omega) h.er (by decide) (by decide),h.pre,box_kp h.tab k2 (by omega),h.seq.kp k2 (by omega),box_kp h.ri_ k2 (by omega),box_kp h.re_ k2 (by omega),box_kp h.all k2 n4,box_kp h.rt k2 (fun e=>n5 e.symm),box_kp h.rn k2 (fun e=>n6 e.symm),box_kp h.bk k2 (fun e=>n7 e.symm),h.er.set _,h.le,h.ne⟩
theorem WW.setR (h:WW w W b m v t t' r g pa p1 pb pe x e ri re) (ri' re':Int):WW w ((W.setCell ⟨w.heap.size+1+1,0,none⟩ (.int .i64 ri')).setCell ⟨w.heap.size+1+1+1,0,none⟩ (.int .i64 re')) b m v t t' r g pa p1 pb pe x e ri' re':=by
 obtain ⟨l1,l2,l3,l4⟩:=h.le
 have k1:KpP (w.heap.size+1+1) W (W.setCell ⟨w.heap.size+1+1,0,none⟩ (.int .i64 ri')):=KpP.set (Kp.refl _ _) 0 _
 have k2:KpP (w.heap.size+1+1+1) (W.setCell ⟨w.heap.size+1+1,0,none⟩ (.int .i64 ri')) ((W.setCell ⟨w.heap.size+1+1,0,none⟩ (.int .i64 ri')).setCell ⟨w.heap.size+1+1+1,0,none⟩ (.int .i64 re')):=KpP.set (Kp.refl _ _) 0 _
 have e1:=box_kp h.re_ k1 (by omega)
 exact ⟨(h.aft.kpP k1 (by omega) h.ri_ (by decide) (by decide)).kpP k2 (by omega) e1 (by decide) (by decide),h.pre,box_kp (box_kp h.tab k1 (by omega)) k2 (by omega),(h.seq.kp k1 (by omega)).kp k2 (by omega),box_kp (h.ri_.set _) k2 (by omega),e1.set _,box_kp (box_kp h.all k1 (by omega)) k2 (by omega),box_kp (box_kp h.rt k1 (by omega)) k2 (by omega),box_kp (box_kp h.rn k1 (by omega)) k2 (by omega),box_kp (box_kp h.bk k1 (by omega)) k2 (by omega),box_kp (box_kp h.er k1 (by omega)) k2 (by omega),h.le,h.ne⟩
end
theorem after_grown {w W W':World} {b m n:Nat} {v:Value} {t:List Nd} {row:Option Nat} (h:After w b m v t W) (hm:m<n) (hn:w.heap.size≤n) (hg:W.grownBy W' row) (hr:∀ r,row=some r→n≤r∧∃ o:Obj,W.heap[r]?=some o∧o.isCells=false):After w b m v t W':=by
 obtain ⟨v',h1,h2,h3⟩:=h
 refine ⟨v',h1.keep fun k hk => ?_,h2,⟨hg.os.trans h3.os,hg.tape.trans h3.tape,hg.output.trans h3.output,Nat.le_trans h3.size hg.size,fun k hlt hk => ?_⟩⟩
 ·refine hg.block k (h1.foot k hk) fun e => ?_
  obtain ⟨hge,o,ho,hc⟩:=hr k e.symm
  rcases hk with rfl | rfl | hk
  ·rw [h1.tab] at ho;cases ho;cases hc
  ·omega
  ·obtain ⟨_,cur,hh⟩:=h1.row.lt k hk
   rw [hh] at ho;cases ho;cases hc
 ·rw [hg.block k (by have:=h3.size;omega) (fun e=>by have:=(hr k e.symm).1;omega),h3.block k hlt hk]
theorem ww_own {β:Type} (w:World) (b m:Nat) (v:Value) (t:List Nd) (t':β→List Nd) (r:List Nat) (g:Int) (pa p1 pb pe:Nat) (x e ri re:β→Int) {n:Nat} (hn:w.heap.size≤n) (hm:m<n):OwnFrom n (fun (s:β) W=>WW w W b m v t (t' s) r g pa p1 pb pe (x s) (e s) (ri s) (re s)):=fun _ _ _ _ hs hg hr =>
 ⟨after_grown hs.aft hm hn hg hr,hs.pre,cells_kept hs.tab hg hr,cells_kept hs.seq hg hr,cells_kept hs.ri_ hg hr,cells_kept hs.re_ hg hr,cells_kept hs.all hg hr,cells_kept hs.rt hg hr,cells_kept hs.rn hg hr,cells_kept hs.bk hg hr,cells_kept hs.er hg hr,hs.le,hs.ne⟩
theorem after_from {W W':World} {b m n:Nat} {v:Value} {t t1:List Nd} (hT:Tb W b m v t) (h:After W b m v t1 W') (hb:b<n) (hm:m<n):KeepsFrom n W W':=by
 refine ⟨h.kp.size,fun k o hk ho hc => ?_⟩
 rw [h.kp.block k (Array.getElem?_eq_some_iff.1 ho).1 ?_,ho]
 rintro (e | e | e)
 ·omega
 ·omega
 ·obtain ⟨_,cur,hh⟩:=hT.row.lt k e
  rw [hh] at ho;cases ho;cases hc
theorem after_kt {w W W':World} {b m n:Nat} {v v1:Value} {t1:List Nd} (hl:Lies w.heap.size v v1) (hn:n≤w.heap.size) (h:After W b m v1 t1 W'):KT b m v n W W':=by
 have k:=h.kp
 refine ⟨k.os,k.tape,k.output,k.size,fun i hi hn'=>k.block i hi fun e=>hn' ?_⟩
 rcases e with e | e | e
 ·exact Or.inl (Or.inl e)
 ·exact Or.inl (Or.inr (Or.inl e))
 ·rcases hl i e with e2 | e2
  ·exact Or.inl (Or.inr (Or.inr e2))
  ·exact Or.inr (by omega)
theorem set_kt {W:World} {b m n p:Nat} {v u:Value} (hp:n≤p):KT b m v n W (W.setCell ⟨p,0,none⟩ u):=⟨rfl,rfl,rfl,by simp,fun k _ hk=>Below.heap_setCell _ _ _ _ (fun e=>hk (Or.inr (by rw [e];exact hp)))⟩
end Go.Proofs.YtkmmlimekachbaaGreatDoor
/-
  The call Whole of layer 8: for every table that calls made and every sequent. No other condition than that the table of TrailingZeros stands, apart from the program's table.
-/
namespace Go.Proofs.YtkmmlimekachbaaGreatDoor
open Go.RowKit Go.Shelf Go.Maps
open Fm (Nd)
open Bt.Bs (Ok wd)
attribute [local go_sem] Oper.semAt_some
theorem store_funQ (w:World) (fn:Fn) (a c:Array Value) (v:Value) (ty:TypeId):(store ⟨w.heap.size,0,none⟩ (.func fn a c)).run Tryz.prog (w.alloc (.cells #[v] ty))=.ok () (w.alloc (.cells #[.func fn a c] ty)):=store_fun w fn a c v ty
def andS (s:(Int × Int) × List Nd) (i:Nat):(Int × Int) × List Nd:=if s.1.2=0 then (((Fm.put s.2 (joinN 3 s.1.1 i)).1,(Fm.put s.2 (joinN 3 s.1.1 i)).2.1),(Fm.put s.2 (joinN 3 s.1.1 i)).2.2) else s
def andF (t:List Nd) (a:Int) (ids:List Nat):(Int × Int) × List Nd:=ids.foldl andS ((a,0),t)
def wholeE (t:List Nd) (g:Int) (s:(Int × Int) × List Nd):(Int × Int) × List Nd :=
 if s.1.2=0 then (if (Fm.put s.2 (joinN 5 s.1.1 g)).2.1=0 then (((Fm.put s.2 (joinN 5 s.1.1 g)).1,0),(Fm.put s.2 (joinN 5 s.1.1 g)).2.2) else ((0,(Fm.put s.2 (joinN 5 s.1.1 g)).2.1),t)) else ((0,s.1.2),t)
def wholeQ (t:List Nd) (r:List Nat) (g:Int):(Int × Int) × List Nd :=
 if chkQ t r g=0 then
  match Bt.Bs.next r 0 with
  | none=>((g,0),t)
  | some a=>wholeE t g (andF t a (Bt.Bs.nums (Bt.dropI r a)))
 else ((0,chkQ t r g),t)
def wholeN (t:List Nd) (r:List Nat) (g:Int):Option Nat→(Int × Int) × List Nd
 | none=>((g,0),t)
 | some a=>wholeE t g (andF t a (Bt.Bs.nums (Bt.dropI r a)))
theorem wholeQ_n (t:List Nd) (r:List Nat) (g:Int):wholeQ t r g=if chkQ t r g=0 then wholeN t r g (Bt.Bs.next r 0) else ((0,chkQ t r g),t):=by
 unfold wholeQ
 cases Bt.Bs.next r 0 <;> rfl
theorem andF_snoc (t:List Nd) (a:Int) (pre:List Nat) (i:Nat):andF t a (pre ++ [i])=andS (andF t a pre) i:=by simp [andF]
theorem andF_stay:∀ (suf:List Nat) (s:(Int × Int) × List Nd),s.1.2≠0→suf.foldl andS s=s
 | [],_,_=>rfl
 | i :: suf,s,h=>by
  have:andS s i=s:=by unfold andS;rw [if_neg h]
  rw [List.foldl_cons,this]
  exact andF_stay suf s h
theorem andF_stop (t:List Nd) (a:Int) {pre:List Nat} (h:(andF t a pre).1.2≠0) (suf:List Nat):andF t a (pre ++ suf)=andF t a pre:=by
 unfold andF at h ⊢
 rw [List.foldl_append]
 exact andF_stay suf _ h
theorem whEnd0 {w W:World} {tmps:Array Value} {R:Ending→World→Prop} {x e:Int} (h4:tmps[4]?=some (.pointer (some ⟨w.heap.size+1+1,0,none⟩))) (h5:tmps[5]?=some (.pointer (some ⟨w.heap.size+1+1+1,0,none⟩))) (hs:Boxed W (w.heap.size+1+1) 3 (.int .i64 x)) (he:Boxed W (w.heap.size+1+1+1) 33 (.int .i64 e)) (hR:R (.returned (.tuple #[.int .i64 x,.int .i64 e])) W) :
 LeavesInM Fence.wide 5 Tryz.prog Tryz.f24 tmps R [] .returning W:=by
 have c4:=hs.cell
 have c5:=he.cell
 refine ⟨.tuple #[.int .i64 x,.int .i64 e],?_,hR⟩
 simp [results,Tryz.f24,go_sem,c4,c5,h4,h5]
theorem after_put {w W:World} {b m D:Nat} {v:Value} {t:List Nd} {o o':Obj} (h:After w b m v t W) (hm:m<w.heap.size) (hD:w.heap.size≤D) (ho:W.heap[D]?=some o) (hc:o.isCells=false):After w b m v t (W.putObj D o') :=
 after_grown h (n:=w.heap.size) hm (Nat.le_refl _) (grownBy_putObj' W D o') (fun r e=>by cases e;exact ⟨hD,o,ho,hc⟩)
theorem whEnd {w W:World} {tmps:Array Value} {D b m:Nat} {v:Value} {t':List Nd} {x e:Int} {R:Ending→Prop} (h4:tmps[4]?=some (.pointer (some ⟨w.heap.size+1+1,0,none⟩))) (h5:tmps[5]?=some (.pointer (some ⟨w.heap.size+1+1+1,0,none⟩))) (hs:Boxed W (w.heap.size+1+1) 3 (.int .i64 x)) (he:Boxed W (w.heap.size+1+1+1) 33 (.int .i64 e)) (ha:After w b m v t' W) (hm:m<w.heap.size) (hK:W.heap[D]?=some (.deferred (some []))) (hD:w.heap.size≤D) (hR:R (.returned (.tuple #[.int .i64 x,.int .i64 e]))) :
 LeavesInM Fence.wide 5 Tryz.prog Tryz.f24 tmps (fun e' w'=>R e'∧After w b m v t' w') [{ target:=.collected D,args:=#[] }] .returning W:=by
 refine ⟨by simp,.inl ⟨_,_,rfl,run_takeDeferred hK,?_⟩⟩
 have n1:w.heap.size+1+1≠D:=fun e=>by have:=hs;rw [Boxed,e,hK] at this;cases this
 have n2:w.heap.size+1+1+1≠D:=fun e=>by have:=he;rw [Boxed,e,hK] at this;cases this
 have hc4:Boxed (W.putObj D (.deferred none)) (w.heap.size+1+1) 3 (.int .i64 x):=(World.putObj_heap_other n1).trans hs
 have hc5:Boxed (W.putObj D (.deferred none)) (w.heap.size+1+1+1) 33 (.int .i64 e):=(World.putObj_heap_other n2).trans he
 have c4:=hc4.cell
 have c5:=hc5.cell
 refine ⟨.tuple #[.int .i64 x,.int .i64 e],?_,hR,after_put ha hm hD hK rfl⟩
 simp [results,Tryz.f24,go_sem,c4,c5,h4,h5]
structure W4 (w W:World) (b:Nat) (r:List Nat) (g:Int):Prop where
 bel:Below w.heap.size w W
 tab:Boxed W w.heap.size 29 (.pointer (some ⟨b,0,none⟩))
 seq:SeqAt W (w.heap.size+1) r g
 ri_:Boxed W (w.heap.size+1+1) 3 (.int .i64 0)
 re_:Boxed W (w.heap.size+1+1+1) 33 (.int .i64 0)
theorem W4.later {w W W':World} {b:Nat} {r:List Nat} {g:Int} (h:W4 w W b r g) (hb:Below W.heap.size W W'):W4 w W' b r g :=
 ⟨h.bel.trans (hb.mono h.bel.size),box_later h.tab hb h.tab.lt,h.seq.later hb h.seq.lt,box_later h.ri_ hb h.ri_.lt,box_later h.re_ hb h.re_.lt⟩
theorem w4_new (w:World) (b:Nat) (r:List Nat) (g:Int):W4 w ((((w.alloc (.cells #[.pointer (some ⟨b,0,none⟩)] 29)).alloc (.cells (cellsQ r g) 27)).alloc (.cells #[.int .i64 0] 3)).alloc (.cells #[.int .i64 0] 33)) b r g:=by
 refine ⟨((((Below.refl _ _).alloc (Nat.le_refl _) _).alloc (by simp) _).alloc (by simp;omega) _).alloc (by simp;omega) _,?_,?_,?_,?_⟩
 ·exact (Below.heap_alloc _ _ _ (by first | (simp;done) | (simp;omega))).trans ((Below.heap_alloc _ _ _ (by first | (simp;done) | (simp;omega))).trans ((Below.heap_alloc _ _ _ (by simp)).trans (heap_alloc_new _ _)))
 ·exact (Below.heap_alloc _ _ _ (by first | (simp;done) | (simp;omega))).trans ((Below.heap_alloc _ _ _ (by simp)).trans (heap_new_at _ _ _ (by simp)))
 ·exact (Below.heap_alloc _ _ _ (by simp)).trans (heap_new_at _ _ _ (by simp))
 ·exact heap_new_at _ _ _ (by simp)
theorem dropI_ok {r:List Nat} (h:Ok r) (n:Int):Ok (Bt.dropI r n):=by
 unfold Bt.dropI
 split
 ·exact Bt.Bs.drop_ok h _
 ·exact h
theorem chk_has {t:List Nd} {r:List Nat} {g:Int} (h:chkQ t r g=0):Fm.has t g=true:=by
 unfold chkQ refQ at h
 split at h
 ·rename_i h2
  simp only [Bool.and_eq_true] at h2
  exact h2.2
 ·cases h
def andV (t:List Nd) (a:Int) (pre:List (Fin 1024)):(Int × Int) × List Nd:=andF t a (pre.map (·.val))
theorem andV_snoc (t:List Nd) (a:Int) (pre:List (Fin 1024)) (x:Fin 1024):andV t a (pre ++ [x])=andS (andV t a pre) x.val:=by unfold andV;rw [List.map_append,List.map_singleton,andF_snoc]
def WI (w:World) (b m:Nat) (v:Value) (t:List Nd) (r:List Nat) (g:Int) (pa p1 pb pe:Nat) (a:Int) (pre:List (Fin 1024)) (W:World):Prop:=((andV t a pre).1.2=0∧Fm.Ok (andV t a pre).2∧Fm.i64 (andV t a pre).1.1)∧WW w W b m v t (andV t a pre).2 r g pa p1 pb pe (andV t a pre).1.1 0 0 0
def WX (w:World) (b m:Nat) (v:Value) (t:List Nd) (r:List Nat) (g:Int) (pa p1 pb pe:Nat) (a:Int) (c:Code) (pre:List (Fin 1024)) (W:World):Prop:=(c=.ret∧(andV t a pre).1.2≠0)∧WW w W b m v t t r g pa p1 pb pe (andV t a pre).1.1 (andV t a pre).1.2 0 (andV t a pre).1.2
set_option maxRecDepth 100000 in
set_option maxHeartbeats 1000000 in
theorem qwhole_any (w:World) {b m:Nat} {v:Value} {t:List Nd} (hT:Tb w b m v t) (hZ:Bt.Tz w) (hF:¬ Ft b m v 0) {r:List Nat} (hr:Ok r) (g:Int) :
 Calls Tryz.prog 24 #[.pointer (some ⟨b,0,none⟩),.agg (cellsQ r g)] w fun e w'=>e=.returned (.tuple #[.int .i64 (wholeQ t r g).1.1,.int .i64 (wholeQ t r g).1.2])∧After w b m v (wholeQ t r g).2 w':=by
 have hl16:=hr.1
 have KC:=show Hid (∀ w',Below w.heap.size w w'→Calls Tryz.prog 15 #[.pointer (some ⟨b,0,none⟩),.agg (cellsQ r g)] w' fun e w''=>e=.returned (.int .i64 (chkQ t r g))∧Below w'.heap.size w' w'') from fun w' hb=>qcheck_any w' (hT.later hb) (Bt.tz_block hZ hb) hr g
 have KN:=show Hid (∀ w',Below w.heap.size w w'→Calls Tryz.prog 64 #[.agg (Bt.cellsB r),.int .i64 0] w' fun e w''=>e=.returned (Bt.nextV (Bt.Bs.next r 0))∧w''=w'.alloc (.cells (Bt.cellsB r) 25)) from fun w' hb=>Bt.next_any w' (Bt.tz_block hZ hb) hr 0 (by decide)
 have KR:=show Hid (∀ w1,Below w.heap.size w w1→Calls Tryz.prog 65 #[.pointer (some ⟨b,0,none⟩)] w1 fun e w'=>e=.returned (.func (.func 124) #[] #[.pointer (some ⟨w1.heap.size,0,none⟩),.pointer (some ⟨w1.heap.size+1,0,none⟩)])∧w'=(w1.alloc (.cells #[.pointer (some ⟨b,0,none⟩)] 29)).alloc (.cells #[.int .i64 (t.length:Int)] 3)) from fun w1 hb=>restoring_any w1 (hT.later hb)
 have KD:=show Hid (∀ (w:World) (n:Int),Calls Tryz.prog 66 #[.agg (Bt.cellsB r),.int .i64 n] w fun e w'=>e=.returned (.agg (Bt.cellsB (Bt.dropI r n)))∧Below w.heap.size w w') from fun w n=>Bt.drop_any w hr n
 have KA:=show Hid (∀ (w:World) (r':List Nat),Calls Tryz.prog 43 #[.agg (Bt.cellsB r')] w fun e w'=>e=.returned (.func (.func 90) #[] #[.pointer (some ⟨w.heap.size,0,none⟩)])∧w'=w.alloc (.cells (Bt.cellsB r') 25)) from fun w r'=>Bt.all_any w r'
 have HT:=show Hid (Tb w b m v t) from hT
 have HZ:=show Hid (Bt.Tz w∧¬ Ft b m v 0) from ⟨hZ,hF⟩
 have HRK:=show Hid (Ok r) from hr
 have HQ:=show Hid (wholeQ t r g=if chkQ t r g=0 then wholeN t r g (Bt.Bs.next r 0) else ((0,chkQ t r g),t)) from wholeQ_n t r g
 have HCH:=show Hid (chkQ t r g=0→Fm.has t g=true) from chk_has
 generalize wholeQ t r g=ans at *
 generalize chkQ t r g=ck at *
 refine (callsIn_wide (n:=5)).1 ?_
 refine callsIn_of_wp_marks Tryz.func24 rfl trivial ?_ rfl
 simp only [Tryz.ntmps24,List.size_toArray,List.length_cons,List.length_nil,Nat.reduceAdd,Nat.reduceSub,Array.replicate_succ,Array.replicate_zero,List.push_toArray,List.append_toArray,List.nil_append,List.cons_append]
 have hmb:m<w.heap.size∧b<w.heap.size:=⟨hT.mlt,hT.blt⟩
 clear hT hZ hr hF
 have h0:=w4_new w b r g
 have HP1:=show Hid _ from h0.seq
 obtain ⟨w0,hw0⟩:∃ w0,w0=(((w.alloc (.cells #[.pointer (some ⟨b,0,none⟩)] 29)).alloc (.cells (cellsQ r g) 27)).alloc (.cells #[.int .i64 0] 3)).alloc (.cells #[.int .i64 0] 33):=⟨_,rfl⟩
 rw [← hw0] at h0
 have H0:=show Hid (W4 w w0 b r g) from h0
 clear h0
 gi_wp2_with (first | (refine ldQIn _ _ rfl _ rfl HP1.out hl16 rfl ?_))
 refine ⟨trivial,?_⟩
 rw [← hw0]
 clear hw0 HP1
 refine (callsIn_wide.2 (KC.out w0 H0.out.bel)).mono ?_
 rintro e w1 ⟨rfl,hb1⟩
 have H1:=show Hid (W4 w w1 b r g) from H0.out.later hb1
 clear hb1 H0 KC
 have c4:=H1.out.ri_.cell
 have f4:=H1.out.ri_.frozen
 have c5:=H1.out.re_.cell
 have f5:=H1.out.re_.frozen
 by_cases hc:ck=0
 ·subst hc
  have hQ:=HQ.out
  simp only [if_true] at hQ
  have HQ2:=show Hid (ans=wholeN t r g (Bt.Bs.next r 0)) from hQ
  have hhg:=HCH.out rfl
  clear hQ HQ HCH
  gi_wp2_with (first | (refine ldBQIn _ _ rfl _ rfl H1.out.seq hl16 rfl ?_))
  refine ⟨trivial,?_⟩
  refine (callsIn_wide.2 (KN.out w1 H1.out.bel)).mono ?_
  rintro e w2 ⟨rfl,hw2⟩
  have H2:=show Hid (W4 w w2 b r g) from by rw [hw2];exact H1.out.later (below_alloc _ _)
  clear hw2 H1 KN c4 f4 c5 f5
  have c4:=H2.out.ri_.cell
  have f4:=H2.out.ri_.frozen
  have c5:=H2.out.re_.cell
  have f5:=H2.out.re_.frozen
  have cg:=H2.out.seq.goal hl16
  have hlt2:w.heap.size+1+1+1<w2.heap.size:=H2.out.re_.lt
  cases hn:Bt.Bs.next r 0 with
  | none =>
   have hQ:=HQ2.out
   rw [hn] at hQ
   simp only [wholeN] at hQ
   subst hQ
   simp only [Bt.nextV]
   have hb9:Below w2.heap.size w2 (w2.alloc (.cells #[.int .i64 0] 3)):=below_alloc _ _
   have H9:=show Hid (W4 w (w2.alloc (.cells #[.int .i64 0] 3)) b r g) from H2.out.later hb9
   clear c4 f4 c5 f5 cg
   have c4:=H9.out.ri_.cell
   have f4:=H9.out.ri_.frozen
   have c5:=H9.out.re_.cell
   have f5:=H9.out.re_.frozen
   have cg:=H9.out.seq.goal hl16
   have hne:¬ w.heap.size+1+1=w2.heap.size:=by omega
   have hne2:¬ w.heap.size+1+1+1=w2.heap.size:=by omega
   gi_wp2
   refine whEnd0 rfl rfl ((H9.out.ri_.set _).other (by omega) _) ((H9.out.re_.other (by omega) _).set _) ⟨rfl,After.of_below HT.out ?_⟩
   exact (H9.out.bel.setCell (by show w.heap.size≤w.heap.size+1+1;omega) _).setCell (by show w.heap.size≤w.heap.size+1+1+1;omega) _
  | some a =>
   have hQ:=HQ2.out
   rw [hn] at hQ
   simp only [wholeN] at hQ
   have HQ3:=show Hid (ans=wholeE t g (andF t a (Bt.Bs.nums (Bt.dropI r a)))) from hQ
   clear hQ HQ2
   simp only [Bt.nextV]
   have H9:=show Hid (W4 w (w2.alloc (.cells #[.int .i64 (a:Int)] 3)) b r g) from H2.out.later (below_alloc _ _)
   have hA9:Boxed (w2.alloc (.cells #[.int .i64 (a:Int)] 3)) w2.heap.size 3 (.int .i64 (a:Int)):=Boxed.new _ _ _
   have hz9:(w2.alloc (.cells #[.int .i64 (a:Int)] 3)).heap.size=w2.heap.size+1:=by simp
   clear c4 f4 c5 f5 cg H2
   have c0:=H9.out.tab.cell
   gi_wp2
   refine ⟨trivial,?_⟩
   refine (callsIn_wide.2 (KR.out _ H9.out.bel)).mono ?_
   rintro e w3 ⟨rfl,hw3⟩
   rw [hz9]
   have hb3:Below (w2.alloc (.cells #[.int .i64 (a:Int)] 3)).heap.size (w2.alloc (.cells #[.int .i64 (a:Int)] 3)) w3:=by rw [hw3];exact Bt.below_two _ _ _
   have hr3:Boxed w3 (w2.heap.size+1) 29 (.pointer (some ⟨b,0,none⟩))∧Boxed w3 (w2.heap.size+1+1) 3 (.int .i64 (t.length:Int)):=by rw [hw3,← hz9];exact Bt.heap_two _ _ _
   have hz3:w3.heap.size=w2.heap.size+1+1+1:=by rw [hw3];simp [hz9]
   have hA3:Boxed w3 w2.heap.size 3 (.int .i64 (a:Int)):=box_later hA9 hb3 hA9.lt
   have H3:=show Hid (W4 w w3 b r g) from H9.out.later hb3
   clear hw3 hb3 hA9 H9 c0 KR hz9
   have hsf:=store_funQ
   obtain ⟨w5,hw5⟩:∃ w5,w5=(w3.alloc (.cells #[.func (.func 124) #[] #[.pointer (some ⟨w2.heap.size+1,0,none⟩),.pointer (some ⟨w2.heap.size+1+1,0,none⟩)]] 1)).alloc (.cells #[.int .i64 0] 33):=⟨_,rfl⟩
   have hb5:Below w3.heap.size w3 w5:=by rw [hw5];exact Bt.below_two _ _ _
   have hr5:Boxed w5 (w2.heap.size+1+1+1) 1 (.func (.func 124) #[] #[.pointer (some ⟨w2.heap.size+1,0,none⟩),.pointer (some ⟨w2.heap.size+1+1,0,none⟩)])∧Boxed w5 (w2.heap.size+1+1+1+1) 33 (.int .i64 0):=by rw [hw5,← hz3];exact Bt.heap_two _ _ _
   have h5:=H3.out.later hb5
   have HWW:=show Hid (WW w w5 b m v t t r g w2.heap.size (w2.heap.size+1) (w2.heap.size+1+1+1) (w2.heap.size+1+1+1+1) a 0 0 0) from ⟨After.of_below HT.out h5.bel,⟨[],by simp⟩,h5.tab,h5.seq,h5.ri_,h5.re_,box_later hA3 hb5 hA3.lt,box_later hr3.1 hb5 hr3.1.lt,box_later hr3.2 hb5 hr3.2.lt,hr5.1,hr5.2,⟨by omega,by omega,by omega,by omega⟩,⟨by omega,by omega,by omega,by omega,by omega,by omega,by omega⟩⟩
   have HB5:=show Hid (Below w.heap.size w w5) from h5.bel
   have HP5:=show Hid (SeqAt ((w3.alloc (.cells #[.func (.func 124) #[] #[.pointer (some ⟨w2.heap.size+1,0,none⟩),.pointer (some ⟨w2.heap.size+1+1,0,none⟩)]] 1)).alloc (.cells #[.int .i64 0] 33)) (w.heap.size+1) r g) from by rw [← hw5];exact h5.seq
   have ca:=HWW.out.all.cell
   rw [hw5] at ca
   clear hb5 hr5 h5 hr3 hA3 H3
   gi_wp2_with (first | (refine ldBQIn _ _ rfl _ rfl HP5.out hl16 rfl ?_))
   refine ⟨trivial,?_⟩
   rw [← hw5]
   clear hw5 ca HP5 hsf hz3
   refine (callsIn_wide.2 (KD.out _ _)).mono ?_
   rintro e w6 ⟨rfl,hb6⟩
   have HW6:=show Hid (WW w w6 b m v t t r g w2.heap.size (w2.heap.size+1) (w2.heap.size+1+1+1) (w2.heap.size+1+1+1+1) a 0 0 0∧Below w.heap.size w w6) from ⟨HWW.out.later hb6,HB5.out.trans (hb6.mono HB5.out.size)⟩
   clear hb6 HWW HB5 KD
   gi_wp2
   refine ⟨trivial,?_⟩
   refine (callsIn_wide.2 (KA.out _ _)).mono ?_
   rintro e w7 ⟨rfl,hw7⟩
   have hq7:Bt.RowAt w7 w6.heap.size (Bt.dropI r a):=by rw [hw7];exact heap_alloc_last _ _
   have hb7:Below w6.heap.size w6 w7:=by rw [hw7];exact below_alloc _ _
   have HW7:=show Hid (WW w w7 b m v t t r g w2.heap.size (w2.heap.size+1) (w2.heap.size+1+1+1) (w2.heap.size+1+1+1+1) a 0 0 0∧Below w.heap.size w w7) from ⟨HW6.out.1.later hb7,HW6.out.2.trans (hb7.mono HW6.out.2.size)⟩
   generalize w6.heap.size=q at *
   have HRD:=show Hid (Ok (Bt.dropI r a)) from dropI_ok HRK.out _
   generalize Bt.dropI r a=rd at *
   have HS:=show Hid (SeqStopsK Fence.wide 4 Tryz.prog 90 #[.pointer (some ⟨q,0,none⟩)] Bt.encF (KT b m v w.heap.size) (fun ys=>ys.map (·.val)=Bt.Bs.nums rd) (fun pre=>pre.map (·.val) <+: Bt.Bs.nums rd) (Bt.Bs.nums rd).length w7) from Bt.all_stopsK 4 (by omega) q _ (fun W W' hk hz=>kt_tz hk HZ.out.2 (Bt.tz_lt HZ.out.1) hz) HRD.out w7 hq7 (Bt.tz_block HZ.out.1 HW7.out.2)
   generalize w2.heap.size=pa at *
   generalize pa+1+1+1+1=pe at *
   generalize pa+1+1+1=pb at *
   clear hw7 hq7 hb7 HW6 KA
   gi_wp2
   refine range_exK rfl (by omega) (gf:=90) (lb:=#[.pointer (some ⟨q,0,none⟩)]) rfl trivial (enters_of Tryz.func90 (by kernel_rfl) rfl) HS.out HW7.out.2.size (Below.refl _ _) (fun _=>rfl)
    (WI w b m v t r g pa (pa+1) pb pe a) (WX w b m v t r g pa (pa+1) pb pe a) (OwnFrom.and (ownFrom_pure _ (fun pre:List (Fin 1024)=>(andV t a pre).1.2=0∧Fm.Ok (andV t a pre).2∧Fm.i64 (andV t a pre).1.1)) (ww_own w b m v t (fun pre:List (Fin 1024)=>(andV t a pre).2) r g pa (pa+1) pb pe (fun pre:List (Fin 1024)=>(andV t a pre).1.1) (fun _:List (Fin 1024)=>0) (fun _:List (Fin 1024)=>0) (fun _:List (Fin 1024)=>0) HW7.out.2.size (Nat.lt_of_lt_of_le hmb.1 HW7.out.2.size))) (fun c=>OwnFrom.and (ownFrom_pure _ (fun pre:List (Fin 1024)=>c=.ret∧(andV t a pre).1.2≠0)) (ww_own w b m v t (fun _:List (Fin 1024)=>t) r g pa (pa+1) pb pe (fun pre:List (Fin 1024)=>(andV t a pre).1.1) (fun pre:List (Fin 1024)=>(andV t a pre).1.2) (fun _:List (Fin 1024)=>0) (fun pre:List (Fin 1024)=>(andV t a pre).1.2) HW7.out.2.size (Nat.lt_of_lt_of_le hmb.1 HW7.out.2.size))) ⟨⟨rfl,HT.out.ok,?i64⟩,HW7.out.1⟩ ?ab ?done ?stop
   case i64 =>
    have:=(Bt.Bs.next_lt hn).2.1
    exact ⟨by show (-9223372036854775808:Int)≤(a:Int);omega,by show (a:Int)≤9223372036854775807;omega⟩
   case ab =>
    apply Exists.intro
    refine ⟨?assign,?body⟩
    case assign =>
     intro l x W K hK
     gi_wp2
     exact hK
    case body =>
     rintro l pre x W ⟨hp,hww⟩ hlt
     obtain ⟨hp1,hp2,hp3⟩:=hp
     obtain ⟨v1,hT1,hl1,hk1⟩:=hww.aft
     have HF:=show Hid (andV t a (pre ++ [x])=(((Fm.put (andV t a pre).2 (joinN 3 (andV t a pre).1.1 (x.val:Int))).1,(Fm.put (andV t a pre).2 (joinN 3 (andV t a pre).1.1 (x.val:Int))).2.1),(Fm.put (andV t a pre).2 (joinN 3 (andV t a pre).1.1 (x.val:Int))).2.2)) from (by rw [andV_snoc];unfold andS;rw [if_pos hp1]:andV t a (pre ++ [x])=(((Fm.put (andV t a pre).2 (joinN 3 (andV t a pre).1.1 (x.val:Int))).1,(Fm.put (andV t a pre).2 (joinN 3 (andV t a pre).1.1 (x.val:Int))).2.1),(Fm.put (andV t a pre).2 (joinN 3 (andV t a pre).1.1 (x.val:Int))).2.2))
     have hx64:Fm.i64 (x.val:Int):=⟨by have:=x.isLt;show (-9223372036854775808:Int)≤(x.val:Int);omega,by have:=x.isLt;show (x.val:Int)≤9223372036854775807;omega⟩
     have KN:=show Hid (Calls Tryz.prog 67 #[.pointer (some ⟨b,0,none⟩),.int .i64 (andV t a pre).1.1,.int .i64 (x.val:Int)] W fun e w'=>e=.returned (.tuple #[.int .i64 (Fm.put (andV t a pre).2 (joinN 3 (andV t a pre).1.1 (x.val:Int))).1,.int .i64 (Fm.put (andV t a pre).2 (joinN 3 (andV t a pre).1.1 (x.val:Int))).2.1])∧After W b m v1 (Fm.put (andV t a pre).2 (joinN 3 (andV t a pre).1.1 (x.val:Int))).2.2 w') from and_any W hT1 _ _ hp3 hx64
     have hpl:=(Fm.put_len (andV t a pre).2 (joinN 3 (andV t a pre).1.1 (x.val:Int))).2
     have hpi:=Fm.put_id hp2 (joinN 3 (andV t a pre).1.1 (x.val:Int))
     generalize andV t a pre=s at *
     obtain ⟨⟨x',e'⟩,t'⟩:=s
     simp only at *
     generalize Fm.put t' (joinN 3 x' (x.val:Int))=qq at *
     obtain ⟨q1,q2,q3⟩:=qq
     simp only at *
     have HTT:=show Hid (Tb W b m v1 t'∧Lies w.heap.size v v1∧Kp (Ft b m v) w W) from ⟨hT1,hl1,hk1⟩
     have HWW:=show Hid (WW w W b m v t t' r g pa (pa+1) pb pe x' 0 0 0) from hww
     have HPL:=show Hid (∃ u,q3=t' ++ u) from hpl
     have t0:=hww.tab.cell
     have a0:=hww.all.cell
     clear hp1 hp2 hp3 hT1 hl1 hk1 hww hpl hx64
     gi_wp2
     refine ⟨trivial,?_⟩
     refine (CallsIn.inRound l (callsIn_wide.2 KN.out)).mono ?_
     rintro e W1 ⟨rfl,ha1⟩
     have hw1:=HWW.out.call HTT.out.1 HTT.out.2.1 HTT.out.2.2 ha1 (by obtain ⟨u,hu⟩:=HWW.out.pre;obtain ⟨u2,hu2⟩:=HPL.out;exact ⟨u ++ u2,by rw [hu2,hu,List.append_assoc]⟩)
     have HOK:=show Hid (Fm.Ok q3∧Fm.i64 q1) from ⟨by obtain ⟨v2,t2,_,_⟩:=ha1;exact t2.ok,⟨by omega,by omega⟩⟩
     have a1:=hw1.all.cell
     have a2:=hw1.all.frozen
     have e1:=hw1.er.cell
     have e2:=hw1.er.frozen
     obtain ⟨W2,hW2⟩:∃ W2,W2=(W1.setCell ⟨pa,0,none⟩ (.int .i64 q1)).setCell ⟨pe,0,none⟩ (.int .i64 q2):=⟨_,rfl⟩
     have HW2:=show Hid (WW w W2 b m v t q3 r g pa (pa+1) pb pe q1 q2 0 0) from by rw [hW2];exact hw1.setAE q1 q2
     have HK2:=show Hid (KeepsFrom w7.heap.size W W2∧KT b m v w.heap.size W W2) from by
      rw [hW2]
      have hle:=hw1.le
      exact ⟨((after_from HTT.out.1 ha1 (Nat.lt_of_lt_of_le hmb.2 HW7.out.2.size) (Nat.lt_of_lt_of_le hmb.1 HW7.out.2.size)).trans ((KeepsOthers.setCell _ _ _).from _)).trans ((KeepsOthers.setCell _ _ _).from _),kt_t (kt_t (after_kt HTT.out.2.1 (Nat.le_refl _) ha1) (set_kt (by omega))) (set_kt (by omega))⟩
     have hne:¬ pa=pe:=hw1.ne.2.2.2.1
     have hne2:¬ pe=pa:=fun e=>hne e.symm
     by_cases hz:q2=0
     ·subst hz
      gi_wp2
      rw [← hW2]
      refine ⟨HK2.out.1,HK2.out.2,⟨?_,?_,?_⟩,?_⟩
      ·rw [HF.out]
      ·rw [HF.out];exact HOK.out.1
      ·rw [HF.out];exact HOK.out.2
      ·rw [HF.out];exact HW2.out
     ·have hzb:(q2 != 0)=true:=by simpa using hz
      have b1:=HW2.out.bk.cell
      have e3:=HW2.out.er.cell
      obtain ⟨v2,hT2,hl2,hk2⟩:=HW2.out.aft
      have KO:=show Hid (Calls Tryz.prog 68 #[.func (.func 124) #[] #[.pointer (some ⟨pa+1,0,none⟩),.pointer (some ⟨pa+1+1,0,none⟩)],.int .i64 0,.int .i64 q2] W2 fun e w'=>e=.returned (.tuple #[.int .i64 0,.int .i64 q2])∧After W2 b m v2 t w') from by
       obtain ⟨u,hu⟩:=HW2.out.pre
       subst hu
       exact orBack_bad W2 hT2 HW2.out.rt HW2.out.rn 0 q2 hz
      have HT2:=show Hid (Tb W2 b m v2 q3∧Lies w.heap.size v v2∧Kp (Ft b m v) w W2) from ⟨hT2,hl2,hk2⟩
      rw [hW2] at b1 e3
      clear hT2 hl2 hk2
      gi_wp2
      refine ⟨trivial,?_⟩
      rw [← hW2]
      refine (CallsIn.inRound l (callsIn_wide.2 KO.out)).mono ?_
      rintro e W3 ⟨rfl,ha3⟩
      have hw3:=HW2.out.call HT2.out.1 HT2.out.2.1 HT2.out.2.2 ha3 ⟨[],by simp⟩
      have HW3:=show Hid (WW w W3 b m v t t r g pa (pa+1) pb pe q1 q2 0 0) from hw3
      have HK3:=show Hid (KeepsFrom w7.heap.size W W3) from HK2.out.1.trans (after_from HT2.out.1 ha3 (Nat.lt_of_lt_of_le hmb.2 HW7.out.2.size) (Nat.lt_of_lt_of_le hmb.1 HW7.out.2.size))
      clear b1 e3 KO HT2 ha3 hW2 hw1 a1 a2 e1 e2
      have c4:=hw3.ri_.cell
      have f4:=hw3.ri_.frozen
      have c5:=hw3.re_.cell
      have f5:=hw3.re_.frozen
      clear hw3
      gi_wp2
      refine ⟨(HK3.out.trans ((KeepsOthers.setCell _ _ _).from _)).trans ((KeepsOthers.setCell _ _ _).from _),⟨rfl,?_⟩,?_⟩
      ·rw [HF.out];exact hz
      ·rw [HF.out];exact HW3.out.setR 0 q2
   case done =>
    rintro D ys W hD hys ⟨hp,hww⟩ hK
    have hv:andV t a ys=andF t a (Bt.Bs.nums rd):=by unfold andV;rw [show ys.map (·.val)=Bt.Bs.nums rd from hys]
    rw [hv] at hp hww
    clear hv hys
    obtain ⟨hp1,hp2,hp3⟩:=hp
    obtain ⟨v1,hT1,hl1,hk1⟩:=hww.aft
    have hQ:=HQ3.out
    unfold wholeE at hQ
    rw [if_pos hp1] at hQ
    have hg64:Fm.i64 g:=Sx.has_i64 HT.out.ok hhg
    have KI:=show Hid (Calls Tryz.prog 69 #[.pointer (some ⟨b,0,none⟩),.int .i64 (andF t a (Bt.Bs.nums rd)).1.1,.int .i64 g] W fun e w'=>e=.returned (.tuple #[.int .i64 (Fm.put (andF t a (Bt.Bs.nums rd)).2 (joinN 5 (andF t a (Bt.Bs.nums rd)).1.1 g)).1,.int .i64 (Fm.put (andF t a (Bt.Bs.nums rd)).2 (joinN 5 (andF t a (Bt.Bs.nums rd)).1.1 g)).2.1])∧After W b m v1 (Fm.put (andF t a (Bt.Bs.nums rd)).2 (joinN 5 (andF t a (Bt.Bs.nums rd)).1.1 g)).2.2 w') from imp_any W hT1 _ _ hp3 hg64
    have hpl:=(Fm.put_len (andF t a (Bt.Bs.nums rd)).2 (joinN 5 (andF t a (Bt.Bs.nums rd)).1.1 g)).2
    generalize andF t a (Bt.Bs.nums rd)=s at *
    obtain ⟨⟨x',e'⟩,t'⟩:=s
    simp only at *
    generalize Fm.put t' (joinN 5 x' g)=qq at *
    obtain ⟨q1,q2,q3⟩:=qq
    simp only at *
    have HQ4:=show Hid (ans=if q2=0 then ((q1,0),q3) else ((0,q2),t)) from hQ
    have HTT:=show Hid (Tb W b m v1 t'∧Lies w.heap.size v v1∧Kp (Ft b m v) w W) from ⟨hT1,hl1,hk1⟩
    have HWW:=show Hid (WW w W b m v t t' r g pa (pa+1) pb pe x' 0 0 0) from hww
    have HPL:=show Hid (∃ u,q3=t' ++ u) from hpl
    have HDK:=show Hid (W.heap[D]?=some (.deferred (some []))∧w7.heap.size≤D) from ⟨hK,hD⟩
    have t0:=hww.tab.cell
    have a0:=hww.all.cell
    have g0:=hww.seq.goal hl16
    clear hp1 hp2 hp3 hT1 hl1 hk1 hww hpl hg64 hQ HQ3 hK hD HS
    gi_wp2
    refine ⟨trivial,?_⟩
    refine (callsIn_wide.2 KI.out).mono ?_
    rintro e W1 ⟨rfl,ha1⟩
    have hw1:=HWW.out.call HTT.out.1 HTT.out.2.1 HTT.out.2.2 ha1 (by obtain ⟨u,hu⟩:=HWW.out.pre;obtain ⟨u2,hu2⟩:=HPL.out;exact ⟨u ++ u2,by rw [hu2,hu,List.append_assoc]⟩)
    have hD1:=(after_from HTT.out.1 ha1 (Nat.lt_of_lt_of_le hmb.2 HW7.out.2.size) (Nat.lt_of_lt_of_le hmb.1 HW7.out.2.size)).same D _ HDK.out.2 HDK.out.1 rfl
    have e1:=hw1.er.cell
    have e2:=hw1.er.frozen
    obtain ⟨W2,hW2⟩:∃ W2,W2=W1.setCell ⟨pe,0,none⟩ (.int .i64 q2):=⟨_,rfl⟩
    have HW2:=show Hid (WW w W2 b m v t q3 r g pa (pa+1) pb pe x' q2 0 0) from by rw [hW2];exact hw1.setE q2
    have HD2:=show Hid (W2.heap[D]?=some (.deferred (some []))) from by
     rw [hW2]
     exact (Below.heap_setCell _ _ _ _ (fun e=>by have:=hw1.er;rw [Boxed,← show D=pe from e,hD1] at this;cases this)).trans hD1
    have b1:=HW2.out.bk.cell
    have e3:=HW2.out.er.cell
    have hle:=hw1.le
    rw [hW2] at b1 e3
    clear KI
    by_cases hz:q2=0
    ·subst hz
     have hQ:=HQ4.out
     simp only [if_true] at hQ
     subst hQ
     have KO:=show Hid (Calls Tryz.prog 68 #[.func (.func 124) #[] #[.pointer (some ⟨pa+1,0,none⟩),.pointer (some ⟨pa+1+1,0,none⟩)],.int .i64 q1,.int .i64 0] W2 fun e w'=>e=.returned (.tuple #[.int .i64 q1,.int .i64 0])∧w'=W2) from orBack_ok W2 _ _ q1
     gi_wp2
     refine ⟨trivial,?_⟩
     rw [← hW2]
     refine (callsIn_wide.2 KO.out).mono ?_
     rintro e W3 ⟨rfl,hW3⟩
     subst W3
     clear b1 e3 KO ha1 hW2 hw1 e1 e2
     have c4:=HW2.out.ri_.cell
     have f4:=HW2.out.ri_.frozen
     have c5:=HW2.out.re_.cell
     have f5:=HW2.out.re_.frozen
     gi_wp2
     have h9:=HW2.out.setR q1 0
     refine whEnd rfl rfl h9.ri_ h9.re_ h9.aft hmb.1 ?_ (by have:=HW7.out.2.size;have:=HDK.out.2;omega) rfl
     exact mark_set2 HD2.out (fun e=>by have:=HW2.out.ri_;rw [Boxed,← e,HD2.out] at this;cases this) (fun e=>by have:=HW2.out.re_;rw [Boxed,← e,HD2.out] at this;cases this)
    ·have hzb:(q2 != 0)=true:=by simpa using hz
     have hQ:=HQ4.out
     rw [if_neg hz] at hQ
     subst hQ
     obtain ⟨v2,hT2,hl2,hk2⟩:=HW2.out.aft
     have KO:=show Hid (Calls Tryz.prog 68 #[.func (.func 124) #[] #[.pointer (some ⟨pa+1,0,none⟩),.pointer (some ⟨pa+1+1,0,none⟩)],.int .i64 q1,.int .i64 q2] W2 fun e w'=>e=.returned (.tuple #[.int .i64 0,.int .i64 q2])∧After W2 b m v2 t w') from by
      obtain ⟨u,hu⟩:=HW2.out.pre
      subst hu
      exact orBack_bad W2 hT2 HW2.out.rt HW2.out.rn q1 q2 hz
     have HT2:=show Hid (Tb W2 b m v2 q3∧Lies w.heap.size v v2∧Kp (Ft b m v) w W2) from ⟨hT2,hl2,hk2⟩
     clear hT2 hl2 hk2
     gi_wp2
     refine ⟨trivial,?_⟩
     rw [← hW2]
     refine (callsIn_wide.2 KO.out).mono ?_
     rintro e W3 ⟨rfl,ha3⟩
     have hw3:=HW2.out.call HT2.out.1 HT2.out.2.1 HT2.out.2.2 ha3 ⟨[],by simp⟩
     have HW3:=show Hid (WW w W3 b m v t t r g pa (pa+1) pb pe x' q2 0 0) from hw3
     have HD3:=show Hid (W3.heap[D]?=some (.deferred (some []))) from (after_from HT2.out.1 ha3 (Nat.lt_of_lt_of_le hmb.2 HW7.out.2.size) (Nat.lt_of_lt_of_le hmb.1 HW7.out.2.size)).same D _ HDK.out.2 HD2.out rfl
     clear b1 e3 KO HT2 ha3 hW2 hw1 e1 e2
     have c4:=hw3.ri_.cell
     have f4:=hw3.ri_.frozen
     have c5:=hw3.re_.cell
     have f5:=hw3.re_.frozen
     clear hw3
     gi_wp2
     have h9:=HW3.out.setR 0 q2
     refine whEnd rfl rfl h9.ri_ h9.re_ h9.aft hmb.1 ?_ (by have:=HW7.out.2.size;have:=HDK.out.2;omega) rfl
     exact mark_set2 HD3.out (fun e=>by have:=HW3.out.ri_;rw [Boxed,← e,HD3.out] at this;cases this) (fun e=>by have:=HW3.out.re_;rw [Boxed,← e,HD3.out] at this;cases this)
   case stop =>
    rintro D c pre W hD hpre ⟨⟨rfl,hne⟩,hww⟩ hK
    obtain ⟨suf,hsuf⟩:=hpre
    have hnum:andF t a (Bt.Bs.nums rd)=andV t a pre:=by rw [← hsuf];exact andF_stop t a hne suf
    have hQ:=HQ3.out
    rw [hnum] at hQ
    unfold wholeE at hQ
    rw [if_neg hne] at hQ
    subst hQ
    gi_wp2
    exact whEnd rfl rfl hww.ri_ hww.re_ hww.aft hmb.1 hK (by have:=HW7.out.2.size;omega) rfl
 ·have hcb:(ck != 0)=true:=by simpa using hc
  have hQ:=HQ.out
  rw [if_neg hc] at hQ
  subst hQ
  gi_wp2
  refine whEnd0 rfl rfl ((H1.out.ri_.set _).other (by omega) _) ((H1.out.re_.other (by omega) _).set _) ⟨rfl,After.of_below HT.out ?_⟩
  exact (H1.out.bel.setCell (by show w.heap.size≤w.heap.size+1+1;omega) _).setCell (by show w.heap.size≤w.heap.size+1+1+1;omega) _
end Go.Proofs.YtkmmlimekachbaaGreatDoor
/-
  The iterator of slices.Backward, for every loop that keeps the blocks of the row. No other condition. (Written by genbackk.py.)
-/
namespace Go.Proofs.YtkmmlimekachbaaGreatDoor
open Go.RowKit Go.Shelf Go.Maps
attribute [local go_sem] Oper.semAt_some
abbrev ItB (N:Nat):=Int × Fin N
abbrev encBk {N:Nat} (x:ItB N):Array Value:=#[.int .i64 x.1,.int .i64 ((x.2.val:Nat):Int)]
structure BkS {N:Nat} (W:World) (g:Nat) (S:Nat→Prop) (L:List (ItB N)):Prop where
 box:∃ p c,W.cell? ⟨g,0,none⟩=some (.slice p L.length c)∧∀ k (hk:k<L.length),∃ b o,p=some ⟨b,o,none⟩∧W.cell? ⟨b,o+k,none⟩=some (.int .i64 ((L[k].2.val:Nat):Int))∧¬ S b
 lt:¬ S g
 idx:∀ k (hk:k<L.length),L[k].1=(k:Int)
 len:L.length≤1024
theorem BkS.kb {N:Nat} {W W':World} {g:Nat} {S:Nat→Prop} {L:List (ItB N)} (h:BkS W g S L) (k:Kp S W W'):BkS W' g S L:=by
 obtain ⟨⟨p,c,h1,h2⟩,hl,h3,h4⟩:=h
 refine ⟨⟨p,c,k.cell h1 hl,fun j hj => ?_⟩,hl,h3,h4⟩
 obtain ⟨b,o,hp,hc,hb⟩:=h2 j hj
 exact ⟨b,o,hp,k.cell hc hb,hb⟩
set_option maxRecDepth 100000 in
set_option maxHeartbeats 2000000 in
theorem back1_S {N:Nat} (n:Nat) (hn:1≤n) (l g:Nat) (S:Nat→Prop) (L:List (ItB N)) (J Jx:List (ItB N)→World→Prop)
 (hY:∀ pre x W,J pre W→pre.length<L.length→YieldAt Fence.wide (n - 1) Tryz.prog l (encBk x) W fun e W' =>
  (e=.returned (.bool true)∧J (pre ++ [x]) W'∧Kp S W W')∨(e=.returned (.bool false)∧Jx (pre ++ [x]) W'))
 (W:World) (hB:BkS W g S L) (h0:J [] W) :
 CallsIn Fence.wide n Tryz.prog 127 #[.func (.yield l) #[] #[],.pointer (some ⟨g,0,none⟩)] W fun e W'=>(∃ v,e=.returned v) ∧
  ((∃ ys,ys=L.reverse∧J ys W')∨(∃ pre,pre <+: L.reverse∧Jx pre W')):=by
 have HY:=show Hid (∀ pre x W,J pre W→pre.length<L.length→YieldAt Fence.wide (n - 1) Tryz.prog l (encBk x) W fun e W'=>(e=.returned (.bool true)∧J (pre ++ [x]) W'∧Kp S W W')∨(e=.returned (.bool false)∧Jx (pre ++ [x]) W')) from hY
 have HB:=show Hid (BkS W g S L) from hB
 have HJ0:=show Hid (J [] W) from h0
 have hlen:=hB.len
 obtain ⟨⟨p,c,hbox,_⟩,_⟩:=hB
 clear hY h0
 refine callsIn_of_wp Tryz.func127 rfl trivial ?_ rfl
 simp only [Tryz.ntmps127,List.size_toArray,List.length_cons,List.length_nil,Nat.reduceAdd,Nat.reduceSub,Array.replicate_succ,Array.replicate_zero,List.push_toArray,List.append_toArray,List.nil_append,List.cons_append]
 gi_wp2
 gi_loopw [3] (fun iv wr=>∃ k:Nat,k≤L.length∧iv=.int .i64 ((k:Int) - 1)∧Hid (BkS wr g S L∧J (L.drop k).reverse wr)) (fun iv _=>(intOf iv+1).toNat)
 case atStart=>exact ⟨L.length,Nat.le_refl _,rfl,HB.out,by rw [List.drop_length];exact HJ0.out⟩
 case round =>
  obtain ⟨k,hk,rfl,HQ⟩:=hrel
  clear HJ0 HB hbox
  by_cases hk0:k=0
  ·subst hk0
   have HE:=show Hid (J L.reverse wr) from HQ.out.2
   clear HQ HY
   gi_wp2
   go_end0
   exact ⟨⟨_,rfl⟩,.inl ⟨_,rfl,HE.out⟩⟩
  ·obtain ⟨j,rfl⟩:∃ j,k=j+1:=⟨k - 1,by omega⟩
   have hj:j<L.length:=by omega
   rw [show ((j+1:Nat):Int) - 1=(j:Int) by omega]
   obtain ⟨p2,c2,hbox,hcell⟩:=HQ.out.1.box
   obtain ⟨b,o,rfl,hc,_⟩:=hcell j hj
   have HD:=show Hid ((L.drop j).reverse=(L.drop (j+1)).reverse ++ [L[j]]) from by
    show (L.drop j).reverse=_
    rw [List.drop_eq_getElem_cons hj,List.reverse_cons]
   obtain ⟨fn,tmps,assign,body,hy,hR⟩:=HY.out (L.drop (j+1)).reverse L[j] wr HQ.out.2 (by simp;omega)
   unfold encBk at hy
   rw [HQ.out.1.idx j hj] at hy
   have hji:(j:Int)<(L.length:Int):=by omega
   clear hcell HY hk0
   generalize L[j]=x at *
   gi_wp2
   refine hR.mono ?_
   clear hR hy
   rintro e W3 (⟨rfl,hJ3,hk3⟩ | ⟨rfl,hJx3⟩)
   ·have HN:=show Hid (BkS W3 g S L∧J (L.drop j).reverse W3) from ⟨HQ.out.1.kb hk3,by rw [HD.out];exact hJ3⟩
    clear hJ3 hk3 HQ HD hbox hc
    gi_wp2
    go_roundw
    case rel=>exact ⟨j,by omega,by first | rfl | go_num,HN⟩
    case measure=>(simp only [intOf];omega)
   ·clear HQ hbox hc
    gi_wp2
    refine bodyPost_ret (results_none rfl _ _ _) rfl ?_
    exact ⟨⟨_,rfl⟩,.inr ⟨_,⟨(L.take j).reverse,by rw [← HD.out,← List.reverse_append,List.take_append_drop]⟩,hJx3⟩⟩
theorem back_stopsS {N:Nat} (n:Nat) (hn:1≤n) (g:Nat) (S:Nat→Prop) (L:List (ItB N)) (w:World) (hB:BkS w g S L) :
 SeqStopsK Fence.wide n Tryz.prog 127 #[.pointer (some ⟨g,0,none⟩)] encBk (Kp S) (fun ys=>ys=L.reverse) (fun pre=>pre <+: L.reverse) L.length w:=fun l J Jx W hW _ _ hY h0 =>
 back1_S n hn l g S L J Jx hY W (hB.kb (Kp.of_below hW)) h0
set_option maxHeartbeats 1000000 in
theorem backwardS_any (w:World) (p:Option Addr) (n c:Nat):Calls Tryz.prog 73 #[.slice p n c] w fun e w'=>e=.returned (.func (.func 127) #[] #[.pointer (some ⟨w.heap.size,0,none⟩)])∧w'=w.alloc (.cells #[.slice p n c] 28):=by
 go_enter Tryz.func73,Tryz.ntmps73
 go_wp2
 go_ret
 exact ⟨rfl,rfl⟩
end Go.Proofs.YtkmmlimekachbaaGreatDoor
/-
  The call Curry of layer 8: for every table that calls made and every sequent. No other condition than that the table of TrailingZeros stands. (Written by gencurry.py.)
-/
namespace Go.Proofs.YtkmmlimekachbaaGreatDoor
open Go.RowKit Go.Shelf Go.Maps
open Fm (Nd)
open Bt.Bs (Ok wd)
attribute [local go_sem] Oper.semAt_some
def curS (s:(Int × Int) × List Nd) (i:Nat):(Int × Int) × List Nd:=if s.1.2=0 then (((Fm.put s.2 (joinN 5 i s.1.1)).1,(Fm.put s.2 (joinN 5 i s.1.1)).2.1),(Fm.put s.2 (joinN 5 i s.1.1)).2.2) else s
def curF (t:List Nd) (g:Int) (ids:List Nat):(Int × Int) × List Nd:=ids.foldl curS ((g,0),t)
def curryE (t:List Nd) (s:(Int × Int) × List Nd):(Int × Int) × List Nd:=if s.1.2=0 then ((s.1.1,0),s.2) else ((0,s.1.2),t)
def curryQ (t:List Nd) (r:List Nat) (g:Int):(Int × Int) × List Nd:=if chkQ t r g=0 then curryE t (curF t g (Bt.Bs.nums r).reverse) else ((0,chkQ t r g),t)
theorem curF_snoc (t:List Nd) (g:Int) (pre:List Nat) (i:Nat):curF t g (pre ++ [i])=curS (curF t g pre) i:=by simp [curF]
theorem curF_stay:∀ (suf:List Nat) (s:(Int × Int) × List Nd),s.1.2≠0→suf.foldl curS s=s
 | [],_,_=>rfl
 | i :: suf,s,h=>by
  have:curS s i=s:=by unfold curS;rw [if_neg h]
  rw [List.foldl_cons,this]
  exact curF_stay suf s h
theorem curF_stop (t:List Nd) (g:Int) {pre:List Nat} (h:(curF t g pre).1.2≠0) (suf:List Nat):curF t g (pre ++ suf)=curF t g pre:=by
 unfold curF at h ⊢
 rw [List.foldl_append]
 exact curF_stay suf _ h
def valB (pre:List (ItB 1024)):List Nat:=pre.map (·.2.val)
def curV (t:List Nd) (g:Int) (pre:List (ItB 1024)):(Int × Int) × List Nd:=curF t g (valB pre)
theorem curV_snoc (t:List Nd) (g:Int) (pre:List (ItB 1024)) (x:ItB 1024):curV t g (pre ++ [x])=curS (curV t g pre) x.2.val:=by unfold curV valB;rw [List.map_append,List.map_singleton,curF_snoc]
def itemsB (r:List Nat):List (ItB 1024):=(List.finRange (Bt.Bs.nums r).length).map fun k:Fin (Bt.Bs.nums r).length=>(((k.val:Nat):Int),(⟨(Bt.Bs.nums r)[k.val],(Bt.Bs.mem_nums.1 (List.getElem_mem k.isLt)).1⟩:Fin 1024))
theorem itemsB_len (r:List Nat):(itemsB r).length=(Bt.Bs.nums r).length:=by simp [itemsB]
theorem itemsB_at (r:List Nat) (k:Nat) (hk:k<(itemsB r).length):(itemsB r)[k].1=(k:Int)∧(itemsB r)[k].2.val=(Bt.Bs.nums r)[k]'(by rw [← itemsB_len];exact hk):=by
 simp [itemsB]
theorem itemsB_val (r:List Nat):valB (itemsB r)=Bt.Bs.nums r:=by
 apply List.ext_getElem
 ·simp [valB,itemsB_len]
 ·intro k h1 h2
  have hk:k<(itemsB r).length:=by rw [itemsB_len];exact h2
  have:=(itemsB_at r k hk).2
  simp only [valB,List.getElem_map]
  rw [this]
theorem valB_rev (l:List (ItB 1024)):valB l.reverse=(valB l).reverse:=by simp [valB]
theorem tb_same {W:World} {b m:Nat} {v v':Value} {t t':List Nd} (h:Tb W b m v t) (h':Tb W b m v' t'):v=v':=by
 have h1:=h.tab
 rw [h'.tab] at h1
 injection h1 with h1
 injection h1 with h1 _ _
 have:=congrArg (fun a:Array Value=>a[0]?) h1
 simpa using this.symm
theorem own_ints {w:World} {B:Nat} {v:Value} {ns:List Nat} (h:Bt.OwnI B w v ns):∃ p c,v=.slice p ns.length c∧∀ k (hk:k<ns.length),∃ bl cur,p=some ⟨bl,0,none⟩∧B≤bl∧w.heap[bl]?=some (.cells cur 3 (0,0))∧cur[k]?=some (.int .i64 ((ns[k]:Nat):Int)):=by
 rcases h.2 with ⟨h0,h1⟩ | ⟨gq,cap,cur,h1,hg,hh,h2,h3,h4,h5⟩
 ·exact ⟨none,0,by rw [h0,h1],fun k hk=>absurd hk (by omega)⟩
 ·refine ⟨_,cap,h1,fun k hk=>⟨gq,cur,rfl,hg,hh,?_⟩⟩
  have e1:cur.toList[k]?=(cur.toList.take (ns.length * 1))[k]?:=by rw [List.getElem?_take,if_pos (by omega)]
  rw [← Array.getElem?_toList,e1,h5]
  unfold Bt.intsV
  rw [List.getElem?_map,List.getElem?_eq_getElem hk]
  rfl
theorem ks_t {S:Nat→Prop} {A B C:World} (h:Kp S A B) (k:Kp S B C):Kp S A C:=h.trans k fun _ h=>Or.inl h
theorem ks_b {S:Nat→Prop} {n:Nat} {w:World} (hn:n≤w.heap.size) (hS:∀ k,n≤k→S k) (W:World) (l:Nat) (o o':Obj) (hl:w.heap.size≤l) (_:W.heap[l]?=some o) (_:o.isCells=false) (_:o.isWalk=false):Kp S W (W.putObj l o') :=
 ⟨rfl,rfl,rfl,by simp,fun k _ hk=>World.putObj_heap_other (fun e=>hk (hS k (by omega)))⟩
theorem set_ks {S:Nat→Prop} {W:World} {p:Nat} {u:Value} (hp:S p):Kp S W (W.setCell ⟨p,0,none⟩ u):=⟨rfl,rfl,rfl,by simp,fun k _ hk=>Below.heap_setCell _ _ _ _ (fun e=>hk (by rw [e];exact hp))⟩
theorem after_ks {S:Nat→Prop} {W W':World} {b m n:Nat} {v v1:Value} {t1:List Nd} (hS:(∀ k,Ft b m v k→S k)∧∀ k,n≤k→S k) (hl:Lies n v v1) (h:After W b m v1 t1 W'):Kp S W W':=by
 have k:=h.kp
 refine ⟨k.os,k.tape,k.output,k.size,fun i hi hn'=>k.block i hi fun e=>hn' ?_⟩
 rcases e with e | e | e
 ·exact hS.1 _ (Or.inl e)
 ·exact hS.1 _ (Or.inr (Or.inl e))
 ·rcases hl i e with e2 | e2
  ·exact hS.1 _ (Or.inr (Or.inr e2))
  ·exact hS.2 _ e2
def LI (n b:Nat) (v:Value) (W:World):Prop:=(∃ v' mv,W.heap[b]?=some (.cells #[v',mv] 144 (0,0))∧Lies n v v')∧n≤W.heap.size
theorem LI.lies {n b m:Nat} {v v1:Value} {W:World} {t:List Nd} (h:LI n b v W) (hT:Tb W b m v1 t):Lies n v v1:=by
 obtain ⟨⟨v',mv,h1,h2⟩,_⟩:=h
 rw [hT.tab] at h1
 injection h1 with h1
 injection h1 with h1 _ _
 have:=congrArg (fun a:Array Value=>a[0]?) h1
 have e:v1=v':=by simpa using this
 rw [e]
 exact h2
theorem LI.call {n b m:Nat} {v v1:Value} {W W':World} {t t1:List Nd} (h:LI n b v W) (hT:Tb W b m v1 t) (ha:After W b m v1 t1 W'):LI n b v W':=by
 have hl:=h.lies hT
 obtain ⟨v2,h1,h2,h3⟩:=ha
 exact ⟨⟨v2,_,h1.tab,hl.trans h2 h.2⟩,Nat.le_trans h.2 h3.size⟩
theorem LI.set {n b p:Nat} {v u:Value} {W:World} (h:LI n b v W) (hp:b≠p):LI n b v (W.setCell ⟨p,0,none⟩ u):=by
 obtain ⟨⟨v',mv,h1,h2⟩,h3⟩:=h
 exact ⟨⟨v',mv,(Below.heap_setCell _ _ _ _ hp).trans h1,h2⟩,by simpa using h3⟩
theorem li_own {β:Type} (n b:Nat) (v:Value) (N:Nat):OwnFrom N (fun (_:β) W=>LI n b v W):=fun _ _ _ _ hs hg hr=>by
 obtain ⟨⟨v',mv,h1,h2⟩,h3⟩:=hs
 exact ⟨⟨v',mv,cells_kept h1 hg hr,h2⟩,Nat.le_trans h3 hg.size⟩
theorem range_exS {F:Fence} {n:Nat} {P:Program} {α:Type} {g:Operand} {ps:Array Tmp} {assign body:Code} {Q:Exit→Act→World→Prop} {a:Act} {w:World}
 (hro:F.round=none) (h1:1≤n) {gf:Nat} {lb:Array Value} (hg:a.eval g=.func (.func gf) #[] lb) (hFg:F.fn gf) (eg:∀ args w,(callFunc gf args).run P w=.ok (.enter gf args) w)
 {encs:α→Array Value} {n₁:Nat} {S:Nat→Prop} {T Sp:List α→Prop} {N:Nat} {w0:World} (hseq:SeqStopsK F (n - 1) P gf lb encs (Kp S) T Sp N w0)
 (hn₁:n₁≤w.heap.size) (hS:∀ k,n₁≤k→S k) (hb0:Below w0.heap.size w0 w) (hps:∀ x,(encs x).size=ps.size)
 (I:List α→World→Prop) (Ix:Code→List α→World→Prop) (hI:OwnFrom w.heap.size I) (hIx:∀ c,OwnFrom w.heap.size (Ix c)) (h0:I [] w)
 (hab:∃ a₁:α→Act,(∀ (l:Nat) (x:α) (W:World) (K:Act→World→Prop),K (a₁ x) W →
  assign.wpIn (F.inRound l) (n - 1 - 1) P (Exit.then K (fun _ _ _=>False)) { tmps:=(ps.zip (encs x)).foldl (fun t (p,v)=>t.setIfInBounds p v) a.tmps,defers:=[] } W) ∧
  (∀ (l:Nat) (pre:List α) (x:α) (W:World),I pre W→pre.length<N→body.wpIn (F.inRound l) (n - 1 - 1) P (ownPostG w.heap.size (Kp S) I Ix (pre ++ [x]) W) (a₁ x) W))
 (hdone:∀ (D:Nat) (xs:List α) (W:World),w.heap.size≤D→T xs→I xs W→W.heap[D]?=some (.deferred (some []))→Q .normal { a with defers:={ target:=.collected D,args:=#[] } :: a.defers } W)
 (hstop:∀ (D:Nat) (c:Code) (pre:List α) (W:World),w.heap.size≤D→Sp pre→Ix c pre W→W.heap[D]?=some (.deferred (some []))→c.wpIn F n P Q { a with defers:={ target:=.collected D,args:=#[] } :: a.defers } W) :
 (Code.rangeFunc g ps assign body).wpIn F n P Q a w:=by
 obtain ⟨a₁,ha,hb⟩:=hab
 exact wpIn_rangeFunc_ownG hro h1 hg hFg eg hseq ks_t (ks_b hn₁ hS) hb0 hps I Ix hI hIx h0 a₁ ha hb hdone hstop
theorem cuEnd0 {w W:World} {tmps:Array Value} {R:Ending→World→Prop} {x e:Int} (h4:tmps[4]?=some (.pointer (some ⟨w.heap.size+1+1,0,none⟩))) (h5:tmps[5]?=some (.pointer (some ⟨w.heap.size+1+1+1,0,none⟩))) (hs:Boxed W (w.heap.size+1+1) 3 (.int .i64 x)) (he:Boxed W (w.heap.size+1+1+1) 33 (.int .i64 e)) (hR:R (.returned (.tuple #[.int .i64 x,.int .i64 e])) W) :
 LeavesInM Fence.wide 5 Tryz.prog Tryz.f26 tmps R [] .returning W:=by
 have c4:=hs.cell
 have c5:=he.cell
 refine ⟨.tuple #[.int .i64 x,.int .i64 e],?_,hR⟩
 simp [results,Tryz.f26,go_sem,c4,c5,h4,h5]
theorem cuEnd {w W:World} {tmps:Array Value} {D b m:Nat} {v:Value} {t':List Nd} {x e:Int} {R:Ending→Prop} (h4:tmps[4]?=some (.pointer (some ⟨w.heap.size+1+1,0,none⟩))) (h5:tmps[5]?=some (.pointer (some ⟨w.heap.size+1+1+1,0,none⟩))) (hs:Boxed W (w.heap.size+1+1) 3 (.int .i64 x)) (he:Boxed W (w.heap.size+1+1+1) 33 (.int .i64 e)) (ha:After w b m v t' W) (hm:m<w.heap.size) (hK:W.heap[D]?=some (.deferred (some []))) (hD:w.heap.size≤D) (hR:R (.returned (.tuple #[.int .i64 x,.int .i64 e]))) :
 LeavesInM Fence.wide 5 Tryz.prog Tryz.f26 tmps (fun e' w'=>R e'∧After w b m v t' w') [{ target:=.collected D,args:=#[] }] .returning W:=by
 refine ⟨by simp,.inl ⟨_,_,rfl,run_takeDeferred hK,?_⟩⟩
 have n1:w.heap.size+1+1≠D:=fun e=>by have:=hs;rw [Boxed,e,hK] at this;cases this
 have n2:w.heap.size+1+1+1≠D:=fun e=>by have:=he;rw [Boxed,e,hK] at this;cases this
 have hc4:Boxed (W.putObj D (.deferred none)) (w.heap.size+1+1) 3 (.int .i64 x):=(World.putObj_heap_other n1).trans hs
 have hc5:Boxed (W.putObj D (.deferred none)) (w.heap.size+1+1+1) 33 (.int .i64 e):=(World.putObj_heap_other n2).trans he
 have c4:=hc4.cell
 have c5:=hc5.cell
 refine ⟨.tuple #[.int .i64 x,.int .i64 e],?_,hR,after_put ha hm hD hK rfl⟩
 simp [results,Tryz.f26,go_sem,c4,c5,h4,h5]
def CI (w:World) (b m:Nat) (v:Value) (t:List Nd) (r:List Nat) (g:Int) (pa p1 pb pe n:Nat) (pre:List (ItB 1024)) (W:World):Prop:=(((curV t g pre).1.2=0∧Fm.Ok (curV t g pre).2∧Fm.i64 (curV t g pre).1.1)∧WW w W b m v t (curV t g pre).2 r g pa p1 pb pe (curV t g pre).1.1 0 0 0)∧LI n b v W
def CX (w:World) (b m:Nat) (v:Value) (t:List Nd) (r:List Nat) (g:Int) (pa p1 pb pe:Nat) (c:Code) (pre:List (ItB 1024)) (W:World):Prop:=(c=.ret∧(curV t g pre).1.2≠0)∧WW w W b m v t t r g pa p1 pb pe (curV t g pre).1.1 (curV t g pre).1.2 0 (curV t g pre).1.2
set_option maxRecDepth 100000 in
set_option maxHeartbeats 1000000 in
theorem qcurry_any (w:World) {b m:Nat} {v:Value} {t:List Nd} (hT:Tb w b m v t) (hZ:Bt.Tz w) {r:List Nat} (hr:Ok r) (g:Int) :
 Calls Tryz.prog 26 #[.pointer (some ⟨b,0,none⟩),.agg (cellsQ r g)] w fun e w'=>e=.returned (.tuple #[.int .i64 (curryQ t r g).1.1,.int .i64 (curryQ t r g).1.2])∧After w b m v (curryQ t r g).2 w':=by
 have hl16:=hr.1
 have KC:=show Hid (∀ w',Below w.heap.size w w'→Calls Tryz.prog 15 #[.pointer (some ⟨b,0,none⟩),.agg (cellsQ r g)] w' fun e w''=>e=.returned (.int .i64 (chkQ t r g))∧Below w'.heap.size w' w'') from fun w' hb=>qcheck_any w' (hT.later hb) (Bt.tz_block hZ hb) hr g
 have KR:=show Hid (∀ w1,Below w.heap.size w w1→Calls Tryz.prog 65 #[.pointer (some ⟨b,0,none⟩)] w1 fun e w'=>e=.returned (.func (.func 124) #[] #[.pointer (some ⟨w1.heap.size,0,none⟩),.pointer (some ⟨w1.heap.size+1,0,none⟩)])∧w'=(w1.alloc (.cells #[.pointer (some ⟨b,0,none⟩)] 29)).alloc (.cells #[.int .i64 (t.length:Int)] 3)) from fun w1 hb=>restoring_any w1 (hT.later hb)
 have KLL:=show Hid (∀ w1,Below w.heap.size w w1→Calls Tryz.prog 41 #[.agg (Bt.cellsB r)] w1 fun e w'=>∃ p c,e=.returned (.slice p (Bt.Bs.nums r).length c)∧(∀ k (hk:k<(Bt.Bs.nums r).length),∃ bl cur,p=some ⟨bl,0,none⟩∧w1.heap.size≤bl∧w'.heap[bl]?=some (.cells cur 3 (0,0))∧cur[k]?=some (.int .i64 (((Bt.Bs.nums r)[k]:Nat):Int)))∧Below w1.heap.size w1 w') from fun w1 hb=>(Bt.list_any w1 (Bt.tz_block hZ hb) hr).mono fun e w' ⟨lv,he,ho,hb'⟩=>by
  obtain ⟨p,c,rfl,hc⟩:=own_ints ho
  exact ⟨p,c,he,hc,hb'⟩
 have KBW:=show Hid (∀ (w:World) p n c,Calls Tryz.prog 73 #[.slice p n c] w fun e w'=>e=.returned (.func (.func 127) #[] #[.pointer (some ⟨w.heap.size,0,none⟩)])∧w'=w.alloc (.cells #[.slice p n c] 28)) from fun w p n c=>backwardS_any w p n c
 have HT:=show Hid (Tb w b m v t) from hT
 have HQ:=show Hid (curryQ t r g=if chkQ t r g=0 then curryE t (curF t g (Bt.Bs.nums r).reverse) else ((0,chkQ t r g),t)) from rfl
 have HCH:=show Hid (chkQ t r g=0→Fm.has t g=true) from chk_has
 generalize curryQ t r g=ans at *
 generalize chkQ t r g=ck at *
 refine (callsIn_wide (n:=5)).1 ?_
 refine callsIn_of_wp_marks Tryz.func26 rfl trivial ?_ rfl
 simp only [Tryz.ntmps26,List.size_toArray,List.length_cons,List.length_nil,Nat.reduceAdd,Nat.reduceSub,Array.replicate_succ,Array.replicate_zero,List.push_toArray,List.append_toArray,List.nil_append,List.cons_append]
 have hmb:m<w.heap.size∧b<w.heap.size:=⟨hT.mlt,hT.blt⟩
 clear hT hZ hr
 have h0:=w4_new w b r g
 have HP1:=show Hid _ from h0.seq
 obtain ⟨w0,hw0⟩:∃ w0,w0=(((w.alloc (.cells #[.pointer (some ⟨b,0,none⟩)] 29)).alloc (.cells (cellsQ r g) 27)).alloc (.cells #[.int .i64 0] 3)).alloc (.cells #[.int .i64 0] 33):=⟨_,rfl⟩
 rw [← hw0] at h0
 have H0:=show Hid (W4 w w0 b r g) from h0
 clear h0
 gi_wp2_with (first | (refine ldQIn _ _ rfl _ rfl HP1.out hl16 rfl ?_))
 refine ⟨trivial,?_⟩
 rw [← hw0]
 clear hw0 HP1
 refine (callsIn_wide.2 (KC.out w0 H0.out.bel)).mono ?_
 rintro e w1 ⟨rfl,hb1⟩
 have H1:=show Hid (W4 w w1 b r g) from H0.out.later hb1
 clear hb1 H0 KC
 have c4:=H1.out.ri_.cell
 have f4:=H1.out.ri_.frozen
 have c5:=H1.out.re_.cell
 have f5:=H1.out.re_.frozen
 by_cases hc:ck=0
 ·subst hc
  have hQ:=HQ.out
  simp only [if_true] at hQ
  have HQ3:=show Hid (ans=curryE t (curF t g (Bt.Bs.nums r).reverse)) from hQ
  have hhg:=HCH.out rfl
  have c0:=H1.out.tab.cell
  have hlt1:w.heap.size+1+1+1<w1.heap.size:=H1.out.re_.lt
  clear hQ HQ HCH c4 f4 c5 f5
  gi_wp2
  refine ⟨trivial,?_⟩
  refine (callsIn_wide.2 (KR.out _ H1.out.bel)).mono ?_
  rintro e w3 ⟨rfl,hw3⟩
  have hb3:Below w1.heap.size w1 w3:=by rw [hw3];exact Bt.below_two _ _ _
  have hr3:Boxed w3 w1.heap.size 29 (.pointer (some ⟨b,0,none⟩))∧Boxed w3 (w1.heap.size+1) 3 (.int .i64 (t.length:Int)):=by rw [hw3];exact Bt.heap_two _ _ _
  have hz3:w3.heap.size=w1.heap.size+1+1:=by rw [hw3];simp
  have H3:=show Hid (W4 w w3 b r g) from H1.out.later hb3
  clear hw3 hb3 H1 c0 KR
  have hsf:=store_funQ
  have H4:=show Hid (W4 w (w3.alloc (.cells #[.func (.func 124) #[] #[.pointer (some ⟨w1.heap.size,0,none⟩),.pointer (some ⟨w1.heap.size+1,0,none⟩)]] 1)) b r g) from H3.out.later (below_alloc _ _)
  have cg:=H4.out.seq.goal hl16
  obtain ⟨w5,hw5⟩:∃ w5,w5=((w3.alloc (.cells #[.func (.func 124) #[] #[.pointer (some ⟨w1.heap.size,0,none⟩),.pointer (some ⟨w1.heap.size+1,0,none⟩)]] 1)).alloc (.cells #[.int .i64 g] 3)).alloc (.cells #[.int .i64 0] 33):=⟨_,rfl⟩
  have hb5:Below w3.heap.size w3 w5:=by rw [hw5];exact (((Below.refl _ _).alloc (Nat.le_refl _) _).alloc (by simp) _).alloc (by simp;omega) _
  have hr5:Boxed w5 (w1.heap.size+1+1) 1 (.func (.func 124) #[] #[.pointer (some ⟨w1.heap.size,0,none⟩),.pointer (some ⟨w1.heap.size+1,0,none⟩)])∧Boxed w5 (w1.heap.size+1+1+1) 3 (.int .i64 g)∧Boxed w5 (w1.heap.size+1+1+1+1) 33 (.int .i64 0):=by
   rw [hw5,← hz3]
   refine ⟨(Below.heap_alloc _ _ _ (by first | (simp;done) | (simp;omega))).trans ((Below.heap_alloc _ _ _ (by simp)).trans (heap_alloc_new _ _)),(Below.heap_alloc _ _ _ (by simp)).trans (heap_new_at _ _ _ (by simp)),heap_new_at _ _ _ (by simp)⟩
  have h5:=H3.out.later hb5
  have hz5:w5.heap.size=w1.heap.size+1+1+1+1+1:=by rw [hw5];simp [hz3]
  have HWW:=show Hid (WW w w5 b m v t t r g (w1.heap.size+1+1+1) w1.heap.size (w1.heap.size+1+1) (w1.heap.size+1+1+1+1) g 0 0 0) from ⟨After.of_below HT.out h5.bel,⟨[],by simp⟩,h5.tab,h5.seq,h5.ri_,h5.re_,hr5.2.1,box_later hr3.1 hb5 hr3.1.lt,box_later hr3.2 hb5 hr3.2.lt,hr5.1,hr5.2.2,⟨by omega,by omega,by omega,by omega⟩,⟨by omega,by omega,by omega,by omega,by omega,by omega,by omega⟩⟩
  have HB5:=show Hid (Below w.heap.size w w5) from h5.bel
  have HP5:=show Hid (SeqAt (((w3.alloc (.cells #[.func (.func 124) #[] #[.pointer (some ⟨w1.heap.size,0,none⟩),.pointer (some ⟨w1.heap.size+1,0,none⟩)]] 1)).alloc (.cells #[.int .i64 g] 3)).alloc (.cells #[.int .i64 0] 33)) (w.heap.size+1) r g) from by rw [← hw5];exact h5.seq
  clear hb5 hr5 h5 hr3 H3 H4
  gi_wp2_with (first | (refine ldBQIn _ _ rfl _ rfl HP5.out hl16 rfl ?_))
  refine ⟨trivial,?_⟩
  rw [← hw5]
  clear hw5 HP5 hsf hz3 cg
  refine (callsIn_wide.2 (KLL.out _ HB5.out)).mono ?_
  rintro e w6 ⟨lp,lc,rfl,hcl,hb6⟩
  have HW6:=show Hid (WW w w6 b m v t t r g (w1.heap.size+1+1+1) w1.heap.size (w1.heap.size+1+1) (w1.heap.size+1+1+1+1) g 0 0 0∧Below w.heap.size w w6) from ⟨HWW.out.later hb6,HB5.out.trans (hb6.mono HB5.out.size)⟩
  have hz6:=hb6.size
  have HCL:=show Hid (∀ k (hk:k<(Bt.Bs.nums r).length),∃ bl cur,lp=some ⟨bl,0,none⟩∧w5.heap.size≤bl∧w6.heap[bl]?=some (.cells cur 3 (0,0))∧cur[k]?=some (.int .i64 (((Bt.Bs.nums r)[k]:Nat):Int))) from hcl
  clear hb6 HWW HB5 KLL hcl
  gi_wp2
  refine ⟨trivial,?_⟩
  refine (callsIn_wide.2 (KBW.out _ _ _ _)).mono ?_
  rintro e w7 ⟨rfl,hw7⟩
  have hq7:Boxed w7 w6.heap.size 28 (.slice lp (Bt.Bs.nums r).length lc):=by rw [hw7];exact Boxed.new _ _ _
  have hb7:Below w6.heap.size w6 w7:=by rw [hw7];exact below_alloc _ _
  have hz7:w7.heap.size=w6.heap.size+1:=by rw [hw7];simp
  have HW7:=show Hid (WW w w7 b m v t t r g (w1.heap.size+1+1+1) w1.heap.size (w1.heap.size+1+1) (w1.heap.size+1+1+1+1) g 0 0 0∧Below w.heap.size w w7∧LI w7.heap.size b v w7) from ⟨HW6.out.1.later hb7,HW6.out.2.trans (hb7.mono HW6.out.2.size),⟨⟨v,_,(HT.out.later (HW6.out.2.trans (hb7.mono HW6.out.2.size))).tab,Lies.refl _ _⟩,Nat.le_refl _⟩⟩
  obtain ⟨S,hSd⟩:∃ S:Nat→Prop,S=fun k=>Ft b m v k∨k=w1.heap.size+1+1+1∨k=w1.heap.size+1+1+1+1∨w7.heap.size≤k:=⟨_,rfl⟩
  have hS0:=show Hid ((∀ k,Ft b m v k→S k)∧∀ k,w7.heap.size≤k→S k) from by rw [hSd];exact ⟨fun k h=>Or.inl h,fun k h=>Or.inr (Or.inr (Or.inr h))⟩
  have hS1:=show Hid (S (w1.heap.size+1+1+1)∧S (w1.heap.size+1+1+1+1)) from by rw [hSd];exact ⟨Or.inr (Or.inl rfl),Or.inr (Or.inr (Or.inl rfl))⟩
  have hfoot:=HT.out.foot
  have hbz:w.heap.size≤w1.heap.size:=by omega
  have HBK:=show Hid (BkS w7 w6.heap.size S (itemsB r)) from by
   refine ⟨⟨lp,lc,?_,fun k hk => ?_⟩,?_,fun k hk=>(itemsB_at r k hk).1,?_⟩
   ·rw [hq7.cell,itemsB_len]
   ·obtain ⟨bl,cur,hp,hge,hh,hc⟩:=HCL.out k (by rw [← itemsB_len];exact hk)
    have hlt:=lt_of_block hh
    refine ⟨bl,0,hp,?_,?_⟩
    ·have hh7:w7.heap[bl]?=some (.cells cur 3 (0,0)):=(hb7.block bl hlt).trans hh
     rw [cell_of_row w7 bl _ cur _ _ hh7,Nat.zero_add,(itemsB_at r k hk).2]
     exact hc
    ·rw [hSd]
     rintro (h | h | h | h)
     ·have:=hfoot bl h;omega
     ·omega
     ·omega
     ·omega
   ·rw [hSd]
    rintro (h | h | h | h)
    ·have:=hfoot _ h;omega
    ·omega
    ·omega
    ·omega
   ·rw [itemsB_len];exact Bt.Bs.nums_len_le r
  generalize w6.heap.size=q at *
  have HS:=show Hid (SeqStopsK Fence.wide 4 Tryz.prog 127 #[.pointer (some ⟨q,0,none⟩)] encBk (Kp S) (fun ys=>ys=(itemsB r).reverse) (fun pre=>pre <+: (itemsB r).reverse) (itemsB r).length w7) from back_stopsS 4 (by omega) q S (itemsB r) w7 HBK.out
  generalize w1.heap.size=p1 at *
  generalize hpe:p1+1+1+1+1=pe at *
  generalize hpa:p1+1+1+1=pa at *
  generalize hpb:p1+1+1=pb at *
  clear hw7 hq7 hb7 HW6 KBW HCL hSd HBK hz7 hz6 hz5 hpe hpa hpb hfoot
  gi_wp2
  refine range_exS rfl (by omega) (gf:=127) (lb:=#[.pointer (some ⟨q,0,none⟩)]) rfl trivial (enters_of Tryz.func127 (by kernel_rfl) rfl) HS.out (Nat.le_refl _) hS0.out.2 (Below.refl _ _) (fun _=>rfl)
   (CI w b m v t r g pa p1 pb pe w7.heap.size) (CX w b m v t r g pa p1 pb pe) (OwnFrom.and (OwnFrom.and (ownFrom_pure _ (fun pre:List (ItB 1024)=>(curV t g pre).1.2=0∧Fm.Ok (curV t g pre).2∧Fm.i64 (curV t g pre).1.1)) (ww_own w b m v t (fun pre:List (ItB 1024)=>(curV t g pre).2) r g pa p1 pb pe (fun pre:List (ItB 1024)=>(curV t g pre).1.1) (fun _:List (ItB 1024)=>0) (fun _:List (ItB 1024)=>0) (fun _:List (ItB 1024)=>0) HW7.out.2.1.size (Nat.lt_of_lt_of_le hmb.1 HW7.out.2.1.size))) (li_own w7.heap.size b v _)) (fun c=>OwnFrom.and (ownFrom_pure _ (fun pre:List (ItB 1024)=>c=.ret∧(curV t g pre).1.2≠0)) (ww_own w b m v t (fun _:List (ItB 1024)=>t) r g pa p1 pb pe (fun pre:List (ItB 1024)=>(curV t g pre).1.1) (fun pre:List (ItB 1024)=>(curV t g pre).1.2) (fun _:List (ItB 1024)=>0) (fun pre:List (ItB 1024)=>(curV t g pre).1.2) HW7.out.2.1.size (Nat.lt_of_lt_of_le hmb.1 HW7.out.2.1.size))) ⟨⟨⟨rfl,HT.out.ok,Sx.has_i64 HT.out.ok hhg⟩,HW7.out.1⟩,HW7.out.2.2⟩ ?ab ?done ?stop
  case ab =>
   apply Exists.intro
   refine ⟨?assign,?body⟩
   case assign =>
    intro l x W K hK
    gi_wp2
    exact hK
   case body =>
    rintro l pre x W ⟨⟨hp,hww⟩,hli⟩ hlt
    obtain ⟨hp1,hp2,hp3⟩:=hp
    obtain ⟨v1,hT1,hl1,hk1⟩:=hww.aft
    have HF:=show Hid (curV t g (pre ++ [x])=(((Fm.put (curV t g pre).2 (joinN 5 (x.2.val:Int) (curV t g pre).1.1)).1,(Fm.put (curV t g pre).2 (joinN 5 (x.2.val:Int) (curV t g pre).1.1)).2.1),(Fm.put (curV t g pre).2 (joinN 5 (x.2.val:Int) (curV t g pre).1.1)).2.2)) from (by rw [curV_snoc];unfold curS;rw [if_pos hp1]:curV t g (pre ++ [x])=(((Fm.put (curV t g pre).2 (joinN 5 (x.2.val:Int) (curV t g pre).1.1)).1,(Fm.put (curV t g pre).2 (joinN 5 (x.2.val:Int) (curV t g pre).1.1)).2.1),(Fm.put (curV t g pre).2 (joinN 5 (x.2.val:Int) (curV t g pre).1.1)).2.2))
    have hx64:Fm.i64 (x.2.val:Int):=⟨by have:=x.2.isLt;show (-9223372036854775808:Int)≤(x.2.val:Int);omega,by have:=x.2.isLt;show (x.2.val:Int)≤9223372036854775807;omega⟩
    have KN:=show Hid (Calls Tryz.prog 69 #[.pointer (some ⟨b,0,none⟩),.int .i64 (x.2.val:Int),.int .i64 (curV t g pre).1.1] W fun e w'=>e=.returned (.tuple #[.int .i64 (Fm.put (curV t g pre).2 (joinN 5 (x.2.val:Int) (curV t g pre).1.1)).1,.int .i64 (Fm.put (curV t g pre).2 (joinN 5 (x.2.val:Int) (curV t g pre).1.1)).2.1])∧After W b m v1 (Fm.put (curV t g pre).2 (joinN 5 (x.2.val:Int) (curV t g pre).1.1)).2.2 w') from imp_any W hT1 _ _ hx64 hp3
    have hpl:=(Fm.put_len (curV t g pre).2 (joinN 5 (x.2.val:Int) (curV t g pre).1.1)).2
    have hpi:=Fm.put_id hp2 (joinN 5 (x.2.val:Int) (curV t g pre).1.1)
    generalize curV t g pre=s at *
    obtain ⟨⟨x',e'⟩,t'⟩:=s
    simp only at *
    generalize Fm.put t' (joinN 5 (x.2.val:Int) x')=qq at *
    obtain ⟨q1,q2,q3⟩:=qq
    simp only at *
    have HTT:=show Hid (Tb W b m v1 t'∧Lies w.heap.size v v1∧Kp (Ft b m v) w W) from ⟨hT1,hl1,hk1⟩
    have HLI:=show Hid (LI w7.heap.size b v W) from hli
    have HWW:=show Hid (WW w W b m v t t' r g pa p1 pb pe x' 0 0 0) from hww
    have HPL:=show Hid (∃ u,q3=t' ++ u) from hpl
    have t0:=hww.tab.cell
    have a0:=hww.all.cell
    clear hp1 hp2 hp3 hT1 hl1 hk1 hww hpl hx64
    gi_wp2
    refine ⟨trivial,?_⟩
    refine (CallsIn.inRound l (callsIn_wide.2 KN.out)).mono ?_
    rintro e W1 ⟨rfl,ha1⟩
    have hw1:=HWW.out.call HTT.out.1 HTT.out.2.1 HTT.out.2.2 ha1 (by obtain ⟨u,hu⟩:=HWW.out.pre;obtain ⟨u2,hu2⟩:=HPL.out;exact ⟨u ++ u2,by rw [hu2,hu,List.append_assoc]⟩)
    have HOK:=show Hid (Fm.Ok q3∧Fm.i64 q1) from ⟨by obtain ⟨v2,t2,_,_⟩:=ha1;exact t2.ok,⟨by omega,by omega⟩⟩
    have a1:=hw1.all.cell
    have a2:=hw1.all.frozen
    have e1:=hw1.er.cell
    have e2:=hw1.er.frozen
    obtain ⟨W2,hW2⟩:∃ W2,W2=(W1.setCell ⟨pa,0,none⟩ (.int .i64 q1)).setCell ⟨pe,0,none⟩ (.int .i64 q2):=⟨_,rfl⟩
    have HW2:=show Hid (WW w W2 b m v t q3 r g pa p1 pb pe q1 q2 0 0) from by rw [hW2];exact hw1.setAE q1 q2
    have HK2:=show Hid (KeepsFrom w7.heap.size W W2∧Kp S W W2) from by
     rw [hW2]
     have hle:=hw1.le
     exact ⟨((after_from HTT.out.1 ha1 (Nat.lt_of_lt_of_le hmb.2 HW7.out.2.1.size) (Nat.lt_of_lt_of_le hmb.1 HW7.out.2.1.size)).trans ((KeepsOthers.setCell _ _ _).from _)).trans ((KeepsOthers.setCell _ _ _).from _),ks_t (ks_t (after_ks hS0.out (HLI.out.lies HTT.out.1) ha1) (set_ks hS1.out.1)) (set_ks hS1.out.2)⟩
    have hne:¬ pa=pe:=hw1.ne.2.2.2.1
    have hne2:¬ pe=pa:=fun e=>hne e.symm
    by_cases hz:q2=0
    ·subst hz
     gi_wp2
     rw [← hW2]
     refine ⟨HK2.out.1,HK2.out.2,⟨⟨?_,?_,?_⟩,?_⟩,?_⟩
     ·rw [HF.out]
     ·rw [HF.out];exact HOK.out.1
     ·rw [HF.out];exact HOK.out.2
     ·rw [HF.out];exact HW2.out
     ·rw [hW2];exact ((HLI.out.call HTT.out.1 ha1).set (by have:=hw1.le;omega)).set (by have:=hw1.le;omega)
    ·have hzb:(q2 != 0)=true:=by simpa using hz
     have b1:=HW2.out.bk.cell
     have e3:=HW2.out.er.cell
     obtain ⟨v2,hT2,hl2,hk2⟩:=HW2.out.aft
     have KO:=show Hid (Calls Tryz.prog 68 #[.func (.func 124) #[] #[.pointer (some ⟨p1,0,none⟩),.pointer (some ⟨p1+1,0,none⟩)],.int .i64 0,.int .i64 q2] W2 fun e w'=>e=.returned (.tuple #[.int .i64 0,.int .i64 q2])∧After W2 b m v2 t w') from by
      obtain ⟨u,hu⟩:=HW2.out.pre
      subst hu
      exact orBack_bad W2 hT2 HW2.out.rt HW2.out.rn 0 q2 hz
     have HT2:=show Hid (Tb W2 b m v2 q3∧Lies w.heap.size v v2∧Kp (Ft b m v) w W2) from ⟨hT2,hl2,hk2⟩
     rw [hW2] at b1 e3
     clear hT2 hl2 hk2
     gi_wp2
     refine ⟨trivial,?_⟩
     rw [← hW2]
     refine (CallsIn.inRound l (callsIn_wide.2 KO.out)).mono ?_
     rintro e W3 ⟨rfl,ha3⟩
     have hw3:=HW2.out.call HT2.out.1 HT2.out.2.1 HT2.out.2.2 ha3 ⟨[],by simp⟩
     have HW3:=show Hid (WW w W3 b m v t t r g pa p1 pb pe q1 q2 0 0) from hw3
     have HK3:=show Hid (KeepsFrom w7.heap.size W W3) from HK2.out.1.trans (after_from HT2.out.1 ha3 (Nat.lt_of_lt_of_le hmb.2 HW7.out.2.1.size) (Nat.lt_of_lt_of_le hmb.1 HW7.out.2.1.size))
     clear b1 e3 KO HT2 ha3 hW2 hw1 a1 a2 e1 e2
     have c4:=hw3.ri_.cell
     have f4:=hw3.ri_.frozen
     have c5:=hw3.re_.cell
     have f5:=hw3.re_.frozen
     clear hw3
     gi_wp2
     refine ⟨(HK3.out.trans ((KeepsOthers.setCell _ _ _).from _)).trans ((KeepsOthers.setCell _ _ _).from _),⟨rfl,?_⟩,?_⟩
     ·rw [HF.out];exact hz
     ·rw [HF.out];exact HW3.out.setR 0 q2
  case done =>
   rintro D ys W hD hys ⟨⟨hp,hww⟩,hli⟩ hK
   have hv:curV t g ys=curF t g (Bt.Bs.nums r).reverse:=by unfold curV;rw [show ys=(itemsB r).reverse from hys,valB_rev,itemsB_val]
   rw [hv] at hp hww
   have hQ:=HQ3.out
   unfold curryE at hQ
   rw [if_pos hp.1] at hQ
   generalize curF t g (Bt.Bs.nums r).reverse=s at *
   obtain ⟨⟨x',e'⟩,t'⟩:=s
   simp only at *
   subst hQ
   have HWW:=show Hid (WW w W b m v t t' r g pa p1 pb pe x' 0 0 0) from hww
   have HDK:=show Hid (W.heap[D]?=some (.deferred (some []))∧w7.heap.size≤D) from ⟨hK,hD⟩
   have a0:=hww.all.cell
   have c4:=hww.ri_.cell
   have f4:=hww.ri_.frozen
   have c5:=hww.re_.cell
   have f5:=hww.re_.frozen
   clear hp hww hli hK hD HS hv
   gi_wp2
   have h9:=HWW.out.setR x' 0
   refine cuEnd rfl rfl h9.ri_ h9.re_ h9.aft hmb.1 ?_ (by have:=HW7.out.2.1.size;have:=HDK.out.2;omega) rfl
   exact mark_set2 HDK.out.1 (fun e=>by have:=HWW.out.ri_;rw [Boxed,← e,HDK.out.1] at this;cases this) (fun e=>by have:=HWW.out.re_;rw [Boxed,← e,HDK.out.1] at this;cases this)
  case stop =>
   rintro D c pre W hD hpre ⟨⟨rfl,hne⟩,hww⟩ hK
   obtain ⟨suf,hsuf⟩:=hpre
   have hnum:curF t g (Bt.Bs.nums r).reverse=curV t g pre:=by rw [← itemsB_val,← valB_rev,← hsuf,show valB (pre ++ suf)=valB pre ++ valB suf from by simp [valB]];exact curF_stop t g hne _
   have hQ:=HQ3.out
   rw [hnum] at hQ
   unfold curryE at hQ
   rw [if_neg hne] at hQ
   subst hQ
   gi_wp2
   exact cuEnd rfl rfl hww.ri_ hww.re_ hww.aft hmb.1 hK (by have:=HW7.out.2.1.size;omega) rfl
 ·have hcb:(ck != 0)=true:=by simpa using hc
  have hQ:=HQ.out
  rw [if_neg hc] at hQ
  subst hQ
  gi_wp2
  refine cuEnd0 rfl rfl ((H1.out.ri_.set _).other (by omega) _) ((H1.out.re_.other (by omega) _).set _) ⟨rfl,After.of_below HT.out ?_⟩
  exact (H1.out.bel.setCell (by show w.heap.size≤w.heap.size+1+1;omega) _).setCell (by show w.heap.size≤w.heap.size+1+1+1;omega) _
end Go.Proofs.YtkmmlimekachbaaGreatDoor
