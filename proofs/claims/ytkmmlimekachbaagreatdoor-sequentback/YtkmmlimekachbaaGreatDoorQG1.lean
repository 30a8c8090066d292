/-
  The law of a range over a function, in which the frame of a round is found by the walk; marks of what is collected. No condition.
-/
import Derived.Test.YtkmmlimekachbaaGreatDoorBG5
import Derived.Test.YtkmmlimekachbaaGreatDoorMG1
import Derived.Test.YtkmmlimekachbaaGreatDoorFG3
import Derived.Test.YtkmmlimekachbaaGreatDoorFG2
namespace Go.Proofs.YtkmmlimekachbaaGreatDoor
open Go.RowKit Go.Shelf Go.Maps
theorem range_ex {F:Fence} {n:Nat} {P:Program} {α:Type} {g:Operand} {ps:Array Tmp} {assign body:Code} {Q:Exit→Act→World→Prop} {a:Act} {w:World}
 (hro:F.round=none) (h1:1≤n) {gf:Nat} {lb:Array Value} (hg:a.eval g=.func (.func gf) #[] lb) (hFg:F.fn gf) (eg:∀ args w,(callFunc gf args).run P w=.ok (.enter gf args) w)
 {encs:α→Array Value} {n₀:Nat} {S Sp:List α→Prop} {N:Nat} {w0:World} (hseq:SeqStopsK F (n - 1) P gf lb encs (Below n₀) S Sp N w0)
 (hn₀:n₀≤w.heap.size) (hb0:Below w0.heap.size w0 w) (hps:∀ x,(encs x).size=ps.size)
 (I:List α→World→Prop) (Ix:Code→List α→World→Prop) (hI:OwnFrom w.heap.size I) (hIx:∀ c,OwnFrom w.heap.size (Ix c)) (h0:I [] w)
 (hab:∃ a₁:α→Act,(∀ (l:Nat) (x:α) (W:World) (K:Act→World→Prop),K (a₁ x) W →
  assign.wpIn (F.inRound l) (n - 1 - 1) P (Exit.then K (fun _ _ _=>False)) { tmps:=(ps.zip (encs x)).foldl (fun t (p,v)=>t.setIfInBounds p v) a.tmps,defers:=[] } W) ∧
  (∀ (l:Nat) (pre:List α) (x:α) (W:World),I pre W→pre.length<N→body.wpIn (F.inRound l) (n - 1 - 1) P (ownPostK (Below n₀) I Ix (pre ++ [x]) W) (a₁ x) W))
 (hdone:∀ (D:Nat) (xs:List α) (W:World),w.heap.size≤D→S xs→I xs W→W.heap[D]?=some (.deferred (some []))→Q .normal { a with defers:={ target:=.collected D,args:=#[] } :: a.defers } W)
 (hstop:∀ (D:Nat) (c:Code) (pre:List α) (W:World),w.heap.size≤D→Sp pre→Ix c pre W→W.heap[D]?=some (.deferred (some []))→c.wpIn F n P Q { a with defers:={ target:=.collected D,args:=#[] } :: a.defers } W) :
 (Code.rangeFunc g ps assign body).wpIn F n P Q a w:=by
 obtain ⟨a₁,ha,hb⟩:=hab
 exact wpIn_rangeFunc_ownF hro h1 hg hFg eg hseq belowK_t (belowK_b hn₀) hb0 hps I Ix hI hIx h0 a₁ ha hb hdone hstop
theorem mark_later {W W':World} {D:Nat} (h:W.heap[D]?=some (.deferred (some []))) (hb:Below W.heap.size W W'):W'.heap[D]?=some (.deferred (some [])):=(hb.block D (Array.getElem?_eq_some_iff.1 h).1).trans h
theorem below_put {n:Nat} {w W:World} {D:Nat} (h:Below n w W) (hn:n≤D) (hD:D<W.heap.size) (o:Obj):Below n w (W.putObj D o):=h.grown (grownBy_putObj' W D o) (by omega) (fun k e=>by cases e;exact hn)
theorem box_later {W W':World} {B:Nat} {t:TypeId} {v:Value} {n:Nat} (h:Boxed W B t v) (hb:Below n W W') (hn:B<n):Boxed W' B t v:=(hb.block B hn).trans h
end Go.Proofs.YtkmmlimekachbaaGreatDoor
/-
  What is wrong with a table and the numbers of both sides of a sequent: made, and refused over any iterator that hands on just these numbers. For every table that calls made.
-/
namespace Go.Proofs.YtkmmlimekachbaaGreatDoor
open Go.RowKit Go.Shelf Go.Maps
open Fm (Nd)
attribute [local go_sem] Oper.semAt_some
section
variable {w:World} {b m:Nat} {v:Value} {t:List Nd}
set_option maxHeartbeats 400000 in
theorem qmade_any (w:World) (hT:Tb w b m v t):Calls Tryz.prog 47 #[.pointer (some ⟨b,0,none⟩)] w fun e w'=>e=.returned (.bool true)∧Below w.heap.size w w':=by
 have hh:Fm.has t (-1)=false:=by cases h:Fm.has t (-1);rfl;exact absurd (Fm.has_iff.1 h).1 (by omega)
 have K:=show Hid (Calls Tryz.prog 98 #[.pointer (some ⟨b,0,none⟩),.int .i64 (-1)] w fun e w'=>∃ v',e=.returned (.tuple #[v',.int .i64 31])∧Below w.heap.size w w') from (below_any w hT (-1)).mono fun e w' ⟨v',he,_,hb⟩=>⟨v',by rw [he];unfold belowR;rw [hh];rfl,hb⟩
 clear hT hh
 go_enter Tryz.func47,Tryz.ntmps47
 go_wp2_with fail
 refine K.out.mono ?_
 rintro e w1 ⟨v',rfl,hb⟩
 have HB:=show Hid _ from hb
 clear K hb
 go_wp2_with fail
 go_ret
 exact ⟨rfl,HB.out⟩
end
def refQ (t:List Nd) (ids:List Int) (g:Int):Int:=if ids.all (Fm.has t) && Fm.has t g then 0 else 31
structure RF (w:World) (b:Nat) (e:Int) (W:World):Prop where
 tab:Boxed W w.heap.size 29 (.pointer (some ⟨b,0,none⟩))
 ans:Boxed W (w.heap.size+1) 33 (.int .i64 e)
 bel:Below w.heap.size w W
theorem RF.later {w W W':World} {b:Nat} {e:Int} (h:RF w b e W) (hb:Below W.heap.size W W'):RF w b e W' :=
 ⟨box_later h.tab hb h.tab.lt,box_later h.ans hb h.ans.lt,h.bel.trans (hb.mono h.bel.size)⟩
theorem RF.set {w W:World} {b:Nat} {e:Int} (h:RF w b e W) (e':Int):RF w b e' (W.setCell ⟨w.heap.size+1,0,none⟩ (.int .i64 e')) :=
 ⟨h.tab.other (by omega) _,h.ans.set _,h.bel.setCell (p:=⟨w.heap.size+1,0,none⟩) (Nat.le_succ _) _⟩
theorem rf_own {β:Type} (w:World) (b:Nat) (e:Int) {n:Nat} (hn:w.heap.size≤n):OwnFrom n (fun (_:β) W=>RF w b e W):=fun s W W' row hs hg hr=>by
 have h1:=Own.from (boxed_own (β:=β) w.heap.size 29 (fun _=>Value.pointer (some ⟨b,0,none⟩))) n s W W' row hs.tab hg hr
 have h2:=Own.from (boxed_own (β:=β) (w.heap.size+1) 33 (fun _=>Value.int .i64 e)) n s W W' row hs.ans hg hr
 have h3:=ownFrom_below (β:=β) (n₀:=w.heap.size) (B:=n) (w₀:=w) (Nat.le_refl _) hn s W W' row hs.bel hg hr
 exact ⟨h1,h2,h3⟩
theorem rf_new (w:World) (b:Nat):RF w b 0 ((w.alloc (.cells #[.pointer (some ⟨b,0,none⟩)] 29)).alloc (.cells #[.int .i64 0] 33)) :=
 ⟨(Bt.heap_two w _ _).1,(Bt.heap_two w _ _).2,Bt.below_two w _ _⟩
theorem refEnd {w W:World} {tmps:Array Value} {D b:Nat} {e:Int} (h6:tmps[6]?=some (.pointer (some ⟨w.heap.size+1,0,none⟩))) (h:RF w b e W) (hK:W.heap[D]?=some (.deferred (some []))) (hD:w.heap.size+1<D) :
 LeavesInM Fence.wide 5 Tryz.prog Tryz.f36 tmps (fun e' w'=>e'=.returned (.int .i64 e)∧Below w.heap.size w w') [{ target:=.collected D,args:=#[] }] .returning W:=by
 have hl:=(Array.getElem?_eq_some_iff.1 hK).1
 refine ⟨by simp,.inl ⟨_,_,rfl,run_takeDeferred hK,?_⟩⟩
 have hc:Boxed (W.putObj D (.deferred none)) (w.heap.size+1) 33 (.int .i64 e):=(World.putObj_heap_other (by omega)).trans h.ans
 have hc5:=hc.cell
 refine ⟨.int .i64 e,?_,rfl,below_put h.bel (by omega) hl _⟩
 simp [results,Tryz.f36,go_sem,hc5,h6]
end Go.Proofs.YtkmmlimekachbaaGreatDoor
/-
  The call refused, over any iterator that hands on just these numbers. For every table that calls made.
-/
namespace Go.Proofs.YtkmmlimekachbaaGreatDoor
open Go.RowKit Go.Shelf Go.Maps
open Fm (Nd)
attribute [local go_sem] Oper.semAt_some
theorem keeps_below {W W':World} (hb:Below W.heap.size W W'):KeepsOthers W W':=⟨hb.size,fun k _ h _=>(hb.block k (Array.getElem?_eq_some_iff.1 h).1).trans h⟩
def RI {α:Type} (w:World) (b:Nat) (t:List Nd) (f:α→Int) (pre:List α) (W:World):Prop:=(∀ x ∈ pre,Fm.has t (f x)=true)∧RF w b 0 W
def RX {α:Type} (w:World) (b:Nat) (t:List Nd) (f:α→Int) (c:Code) (pre:List α) (W:World):Prop:=(c=.ret∧∃ x ∈ pre,Fm.has t (f x)=false)∧RF w b 31 W
set_option maxRecDepth 100000 in
set_option maxHeartbeats 2000000 in
theorem qrefused_any (w:World) {b m:Nat} {v:Value} {t:List Nd} (hT:Tb w b m v t) {α:Type} (f:α→Int) (ids:List α) (gf:Nat) (lb:Array Value)
 (eg:∀ args w,(callFunc gf args).run Tryz.prog w=.ok (.enter gf args) w)
 (hS:∀ w' n₀,Below w.heap.size w w'→w.heap.size≤n₀→SeqStopsK Fence.wide 4 Tryz.prog gf lb (fun x:α=>#[Value.int .i64 (f x)]) (Below n₀) (fun ys=>ys=ids) (fun pre=>pre <+: ids) ids.length w') (g:Int) :
 Calls Tryz.prog 36 #[.pointer (some ⟨b,0,none⟩),.func (.func gf) #[] lb,.int .i64 g] w fun e w'=>e=.returned (.int .i64 (refQ t (ids.map f) g))∧Below w.heap.size w w':=by
 have KM:=show Hid (∀ w',Below w.heap.size w w'→Calls Tryz.prog 47 #[.pointer (some ⟨b,0,none⟩)] w' fun e w''=>e=.returned (.bool true)∧Below w'.heap.size w' w'') from fun w' h=>qmade_any w' (hT.later h)
 have KN:=show Hid (∀ w' x,Below w.heap.size w w'→Calls Tryz.prog 81 #[.pointer (some ⟨b,0,none⟩),.int .i64 x] w' fun e w''=>∃ k s l r,e=.returned (.tuple #[.agg #[.int .i64 k,.string s,.int .i64 l,.int .i64 r],.bool (Fm.has t x)])∧Below w'.heap.size w' w'') from fun w' x h=>(node_any w' (hT.later h) x).mono fun e w'' ⟨he,hb⟩=>⟨_,_,_,_,he,hb⟩
 have HS:=show Hid _ from hS
 have HQ:=show Hid (refQ t (ids.map f) g=if (∀ x ∈ ids,Fm.has t (f x)=true)∧Fm.has t g=true then 0 else 31) from by
  show refQ t (ids.map f) g=_
  unfold refQ
  by_cases h:(∀ x ∈ ids,Fm.has t (f x)=true)∧Fm.has t g=true
  ·rw [if_pos h,if_pos]
   simp [h.2]
   exact h.1
  ·rw [if_neg h,if_neg]
   intro h2
   apply h
   simpa using h2
 generalize refQ t (ids.map f) g=rq at *
 clear hT hS
 refine (callsIn_wide (n:=5)).1 ?_
 refine callsIn_of_wp_marks Tryz.func36 rfl trivial ?_ rfl
 simp only [Tryz.ntmps36,List.size_toArray,List.length_cons,List.length_nil,Nat.reduceAdd,Nat.reduceSub,Array.replicate_succ,Array.replicate_zero,List.push_toArray,List.append_toArray,List.nil_append,List.cons_append]
 have HR0:=show Hid _ from rf_new w b
 have c0:=HR0.out.tab.cell
 have K1:=show Hid _ from KM.out _ HR0.out.bel
 gi_wp2_with (refine ⟨trivial,?_⟩;gi_at_call 47;refine (callsIn_wide.2 K1.out).mono ?_;rintro e w2 ⟨rfl,hb2⟩)
 have HR2:=show Hid (RF w b 0 w2) from HR0.out.later hb2
 clear HR0 K1 hb2 c0
 refine range_ex rfl (by omega) (gf:=gf) (lb:=lb) rfl trivial eg (HS.out w2 w.heap.size HR2.out.bel (Nat.le_refl _)) HR2.out.bel.size (Below.refl _ _) (fun _=>rfl)
  (RI w b t f) (RX w b t f) (OwnFrom.and (ownFrom_pure _ (fun pre:List α=>∀ x ∈ pre,Fm.has t (f x)=true)) (rf_own w b 0 HR2.out.bel.size)) (fun c=>OwnFrom.and (ownFrom_pure _ (fun pre:List α=>c=.ret∧∃ x ∈ pre,Fm.has t (f x)=false)) (rf_own w b 31 HR2.out.bel.size)) ⟨fun x hx=>(by cases hx),HR2.out⟩ ?ab ?done ?stop
 case ab =>
  apply Exists.intro
  refine ⟨?assign,?body⟩
  case assign =>
   intro l x W K hK
   gi_wp2
   exact hK
  case body =>
   rintro l pre x W ⟨hp,hrf⟩ hlt
   have HRW:=show Hid (RF w b 0 W) from hrf
   have c0:=hrf.tab.cell
   have KX:=show Hid _ from KN.out W (f x) hrf.bel
   have HP:=show Hid (∀ y ∈ pre,Fm.has t (f y)=true) from hp
   clear hrf hp KN KM
   cases hx:Fm.has t (f x)
   ·rw [hx] at KX
    gi_wp2_with (refine ⟨trivial,?_⟩;gi_at_call 81;refine (CallsIn.inRound l (callsIn_wide.2 KX.out)).mono ?_;rintro e W1 ⟨nk,ns,nl,nr,rfl,hb1⟩;obtain ⟨HR1⟩:Nonempty (Hid (RF w b 0 (W1.alloc (Obj.cells #[.int .i64 nk,.string ns,.int .i64 nl,.int .i64 nr] 140)))):=⟨(HRW.out.later hb1).later (below_alloc _ _)⟩;have c1:=HR1.out.ans.cell;have c2:=HR1.out.ans.frozen)
    exact ⟨((keeps_below hb1).trans (KeepsOthers.alloc _ _)).trans (KeepsOthers.setCell _ _ _),⟨rfl,x,by simp,hx⟩,HR1.out.set 31⟩
   ·rw [hx] at KX
    gi_wp2_with (refine ⟨trivial,?_⟩;gi_at_call 81;refine (CallsIn.inRound l (callsIn_wide.2 KX.out)).mono ?_;rintro e W1 ⟨nk,ns,nl,nr,rfl,hb1⟩)
    refine ⟨(keeps_below hb1).trans (KeepsOthers.alloc _ _),(hb1.mono HRW.out.bel.size).alloc (Nat.le_trans HRW.out.bel.size hb1.size) _,fun y hy => ?_,(HRW.out.later hb1).later (below_alloc _ _)⟩
    rcases List.mem_append.1 hy with h | h
    ·exact HP.out y h
    ·rw [List.mem_singleton.1 h];exact hx
 case done =>
  rintro D ys W hD rfl ⟨hp,hrf⟩ hK
  have hDg:w.heap.size+1<D:=by have:=HR2.out.ans.lt;omega
  have HRW:=show Hid (RF w b 0 W) from hrf
  have c0:=hrf.tab.cell
  have KX:=show Hid _ from KN.out W g hrf.bel
  have HQ2:=show Hid (rq=if Fm.has t g=true then 0 else 31) from by
   by_cases h:Fm.has t g=true
   ·exact (HQ.out.trans (if_pos ⟨hp,h⟩)).trans (if_pos h).symm
   ·exact (HQ.out.trans (if_neg (fun h2=>h h2.2))).trans (if_neg h).symm
  clear hrf KN KM HQ HS HR2 hp
  cases hg:Fm.has t g
  ·have hq:=HQ2.out
   rw [hg] at hq KX
   simp only [Bool.false_eq_true,if_false] at hq
   subst hq
   gi_wp2_with (refine ⟨trivial,?_⟩;gi_at_call 81;refine (callsIn_wide.2 KX.out).mono ?_;rintro e W1 ⟨nk,ns,nl,nr,rfl,hb1⟩;obtain ⟨HR1⟩:Nonempty (Hid (RF w b 0 (W1.alloc (Obj.cells #[.int .i64 nk,.string ns,.int .i64 nl,.int .i64 nr] 140)))):=⟨(HRW.out.later hb1).later (below_alloc _ _)⟩;have c1:=HR1.out.ans.cell;have c2:=HR1.out.ans.frozen)
   refine refEnd (b:=b) rfl (HR1.out.set 31) ?_ hDg
   exact (Below.heap_setCell _ _ _ D (by show D≠w.heap.size+1;omega)).trans (mark_later (mark_later hK hb1) (below_alloc _ _))
  ·have hq:=HQ2.out
   rw [hg] at hq KX
   simp only [if_true] at hq
   subst hq
   gi_wp2_with (refine ⟨trivial,?_⟩;gi_at_call 81;refine (callsIn_wide.2 KX.out).mono ?_;rintro e W1 ⟨nk,ns,nl,nr,rfl,hb1⟩;obtain ⟨HR1⟩:Nonempty (Hid (RF w b 0 (W1.alloc (Obj.cells #[.int .i64 nk,.string ns,.int .i64 nl,.int .i64 nr] 140)))):=⟨(HRW.out.later hb1).later (below_alloc _ _)⟩;have c1:=HR1.out.ans.cell;have c2:=HR1.out.ans.frozen)
   refine refEnd (b:=b) rfl (HR1.out.set 0) ?_ hDg
   exact (Below.heap_setCell _ _ _ D (by show D≠w.heap.size+1;omega)).trans (mark_later (mark_later hK hb1) (below_alloc _ _))
 case stop =>
  rintro D c pre W hD hpre ⟨⟨rfl,x,hx,hxf⟩,hrf⟩ hK
  have hDg:w.heap.size+1<D:=by have:=HR2.out.ans.lt;omega
  have hq:rq=31:=by
   rw [HQ.out,if_neg]
   intro h
   rw [h.1 x (hpre.subset hx)] at hxf
   cases hxf
  subst hq
  gi_wp2
  exact refEnd (b:=b) rfl hrf hK hDg
end Go.Proofs.YtkmmlimekachbaaGreatDoor
