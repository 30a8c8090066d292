/-
  The calls Weaker and Compare of two sequents, whatever their numbers. No condition.
-/
import Derived.Test.YtkmmlimekachbaaGreatDoorBG5
import Derived.Test.YtkmmlimekachbaaGreatDoorShelfA6
import Derived.Test.YtkmmlimekachbaaGreatDoorMG1
import Derived.Test.YtkmmlimekachbaaGreatDoorQG1
namespace Go.Proofs.YtkmmlimekachbaaGreatDoor
open Go.RowKit
open Bt.Bs (Ok wd)
theorem two_seqs (w:World) (a b:List Nat) (x y:Int):SeqAt ((w.alloc (.cells (cellsQ a x) 27)).alloc (.cells (cellsQ b y) 27)) w.heap.size a x∧SeqAt ((w.alloc (.cells (cellsQ a x) 27)).alloc (.cells (cellsQ b y) 27)) (w.heap.size+1) b y:=Bt.heap_two w _ _
set_option maxRecDepth 100000 in
set_option maxHeartbeats 1000000 in
theorem weaker_any (w:World) {a b:List Nat} (ha:Ok a) (hb:Ok b) (x y:Int) :
 Calls Tryz.prog 46 #[.agg (cellsQ a x),.agg (cellsQ b y)] w fun e w'=>e=.returned (.bool (decide (x=y) && Bt.Bs.sub b a))∧Below w.heap.size w w':=by
 have KS:=show Hid (∀ w:World,Calls Tryz.prog 97 #[.agg (Bt.cellsB b),.agg (Bt.cellsB a)] w fun e w'=>e=.returned (.bool (Bt.Bs.sub b a))∧Below w.heap.size w w') from fun w=>Bt.sub_any w hb ha
 have hla:=ha.1
 have hlb:=hb.1
 obtain ⟨s1,s2⟩:=two_seqs w a b x y
 have S1:=show Hid _ from s1
 have S2:=show Hid _ from s2
 have g1:=s1.goal hla
 have g2:=s2.goal hlb
 have HB:=show Hid _ from Bt.below_two w (.cells (cellsQ a x) 27) (.cells (cellsQ b y) 27)
 clear s1 s2 ha hb
 by_cases h:x=y
 ·subst h
  rw [decide_eq_true rfl,Bool.true_and]
  generalize Bt.Bs.sub b a=q at *
  go_enter Tryz.func46,Tryz.ntmps46
  go_wp2_with (first | (refine wpList_ldQ _ _ rfl _ rfl S2.out hlb rfl ?_) | (refine wpList_ldQ _ _ rfl _ rfl S1.out hla rfl ?_))
  refine (KS.out _).mono ?_
  rintro e w1 ⟨rfl,hb1⟩
  have H1:=show Hid _ from HB.out.trans (hb1.mono HB.out.size)
  clear hb1 g1 g2 S1 S2 HB KS
  go_wp2_with fail
  go_ret
  exact ⟨rfl,H1.out⟩
 ·have hx:(x == y)=false:=by simpa using h
  rw [decide_eq_false h,Bool.false_and]
  go_enter Tryz.func46,Tryz.ntmps46
  go_wp2_with fail
  go_ret
  exact ⟨rfl,HB.out⟩
end Go.Proofs.YtkmmlimekachbaaGreatDoor
/-
  The call Compare of two sequents, whatever their numbers, and cmp.Or of two numbers. No condition.
-/
namespace Go.Proofs.YtkmmlimekachbaaGreatDoor
open Go.RowKit Go.Maps
open Bt.Bs (Ok wd)
def orI (x y:Int):Int:=if x=0 then y else x
set_option maxRecDepth 100000 in
set_option maxHeartbeats 1000000 in
theorem cor_any (w:World) (g:Nat) (x y:Int) (h0:w.cell? ⟨g,0,none⟩=some (.int .i64 x)) (h1:w.cell? ⟨g,1,none⟩=some (.int .i64 y)) :
 Calls Tryz.prog 94 #[.slice (some ⟨g,0,none⟩) 2 2] w fun e w'=>e=.returned (.int .i64 (orI x y))∧w'=w:=by
 have HC:=show Hid (∀ k:Nat,k<2→w.cell? ⟨g,k,none⟩=some (.int .i64 (if k=0 then x else y))) from fun k hk=>by
  by_cases e:k=0
  ·subst e;exact h0
  ·have:k=1:=by omega
   subst this;exact h1
 clear h0 h1
 go_enter Tryz.func94,Tryz.ntmps94
 go_wp2_with fail
 go_loopw [8] (fun iv wr=>∃ k:Nat,k≤2∧iv=.int .i64 (k:Int)∧wr=w∧(1≤k→x=0)∧(2≤k→y=0)) (fun iv _=>2 - (intOf iv).toNat)
 case atStart=>exact ⟨0,by omega,rfl,rfl,fun h=>by omega,fun h=>by omega⟩
 case round =>
  obtain ⟨k,hk,rfl,rfl,hx,hy⟩:=hrel
  by_cases hlt:k<2
  ·have hki:(k:Int)<2:=by omega
   have c0:=HC.out k hlt
   by_cases hz:(if k=0 then x else y)=0
   ·rw [hz] at c0
    go_wp2_with fail
    go_roundw
    case rel =>
     refine ⟨k+1,by omega,by go_num,by simp,fun _ => ?_,fun h2 => ?_⟩
     ·by_cases e:k=0
      ·rw [if_pos e] at hz;exact hz
      ·exact hx (by omega)
     ·rw [if_neg (by omega)] at hz;exact hz
    case measure=>first | (simp [intOf];done) | (simp [intOf];omega)
   ·have hq:orI x y=(if k=0 then x else y):=by
     unfold orI
     by_cases e:k=0
     ·rw [if_pos e] at hz ⊢;rw [if_neg hz]
     ·rw [if_neg e] at hz ⊢;rw [if_pos (hx (by omega))]
    generalize (if k=0 then x else y)=z at *
    have hzb:(z != 0)=true:=by simpa using hz
    go_wp2_with fail
    go_ret
    first | exact ⟨rfl,rfl⟩ | exact ⟨by rw [hq];rfl,rfl⟩
  ·have hki:¬ (k:Int)<2:=by omega
   have hq:orI x y=0:=by
    unfold orI
    rw [if_pos (hx (by omega))]
    exact hy (by omega)
   go_wp2_with fail
   go_ret
   first | exact ⟨rfl,rfl⟩ | exact ⟨by rw [hq];rfl,rfl⟩
def cmpQ (a b:List Nat) (x y:Int):Int:=orI (Bt.Bs.cmp a b) (Lib.compareInt x y)
structure Q2 (w wx:World) (a b:List Nat) (x y:Int):Prop where
 one:SeqAt wx w.heap.size a x
 two:SeqAt wx (w.heap.size+1) b y
 bel:Below w.heap.size w wx
theorem Q2.later {w wx w':World} {a b:List Nat} {x y:Int} (h:Q2 w wx a b x y) (hb:Below wx.heap.size wx w'):Q2 w w' a b x y :=
 ⟨h.one.later hb h.one.lt,h.two.later hb h.two.lt,h.bel.trans (hb.mono h.bel.size)⟩
theorem Q2.drew {w wx:World} {a b:List Nat} {x y:Int} (h:Q2 w wx a b x y):Q2 w wx.drew a b x y:=⟨h.one,h.two,h.bel.drew⟩
section
variable {ops:Array Oper} {Q:Exit→Act→World→Prop} {S:World→Prop} {fuel:Nat} {listed:Array Bool} {a:Act} {w:World}
theorem takeQ {v:Value} (i:Nat) (d:Option Tmp) {oi:Oper} (hi:ops[i]?=some oi) (hd:oi.dst=d) (hs:Region.noSelect ops=true) (hf:Region.free .any ops listed i=true) (hr:(Region.ready .any ops listed).contains i=true)
 (hQ:∀ c a w,Q (.panic c) (a.put d v) w→Q (.panic c) a w) (hw:Region.wanted oi (yielded ops a.tmps)=true) (x:Operand) (ho:oi.op=.load 25 x) (b:Nat) (hx:a.eval x=.pointer (some ⟨b,0,none⟩)) (r:List Nat) (hv:v=.agg (Bt.cellsB r)) (hl:r.length=16) (hS:∀ w,S w→∃ g,SeqAt w b r g) (hSw:S w)
 (h:wpAnyH Tryz.prog .any ops Q S fuel (listed.setIfInBounds i true) (a.put d v) w):wpAnyH Tryz.prog .any ops Q S (fuel+1) listed a w:=by
 subst hd
 subst hv
 refine wpAnyH_take hi hs hf hr hQ (.inl ⟨hw,fun w hw' => ?_⟩) hSw h
 obtain ⟨g,hg⟩:=hS w hw'
 have hrun:=loadQ w b hg hl
 simp [execOp,ho,hx,hrun,Result.andThen]
end
set_option maxRecDepth 100000 in
set_option maxHeartbeats 2000000 in
theorem compare_any (w:World) {a b:List Nat} (ha:Ok a) (hb:Ok b) (x y:Int) :
 Calls Tryz.prog 45 #[.agg (cellsQ a x),.agg (cellsQ b y)] w fun e w'=>e=.returned (.int .i64 (cmpQ a b x y))∧Below w.heap.size w w':=by
 have KS:=show Hid (∀ w:World,Calls Tryz.prog 95 #[.agg (Bt.cellsB a),.agg (Bt.cellsB b)] w fun e w'=>e=.returned (.int .i64 (Bt.Bs.cmp a b))∧Below w.heap.size w w') from fun w=>Bt.cmp_any w ha hb
 have KC:=show Hid (∀ w:World,Calls Tryz.prog 96 #[.int .i64 x,.int .i64 y] w fun e w'=>e=.returned (.int .i64 (Lib.compareInt x y))∧w'=w) from fun w=>Tryz.cmp_Compare_int x y w
 have hla:=ha.1
 have hlb:=hb.1
 obtain ⟨s1,s2⟩:=two_seqs w a b x y
 have HQ:=show Hid (Q2 w _ a b x y) from ⟨s1,s2,Bt.below_two w _ _⟩
 unfold cmpQ
 generalize Bt.Bs.cmp a b=p at *
 generalize Lib.compareInt x y=q at *
 clear s1 s2 ha hb
 go_enter Tryz.func45,Tryz.ntmps45
 go_wp2_with fail
 refine wp_region_held_drew (S:=fun wx=>Q2 w wx a b x y) (by kernel_rfl) HQ.out.drew (fun hH => ?_)
 clear HQ
 refine takeV 0 (some 5) (.pointer (some ⟨w.heap.size,0,none⟩)) rfl rfl (by kernel_rfl) (by kernel_rfl) (by kernel_rfl) (fun _ _ _ h=>h) rfl (fun wx hx=>by go_simp) hH ?_
 simp only [Act.put,List.setIfInBounds_toArray,List.set_cons_zero,List.set_cons_succ]
 refine takeQ (v:=.agg (Bt.cellsB a)) 1 (some 6) rfl rfl (by kernel_rfl) (by kernel_rfl) (by kernel_rfl) (fun _ _ _ h=>h) rfl _ rfl (w.heap.size) rfl a rfl hla (fun wx hx=>⟨_,hx.one⟩) hH ?_
 simp only [Act.put,List.setIfInBounds_toArray,List.set_cons_zero,List.set_cons_succ]
 refine takeV 2 (some 7) (.pointer (some ⟨w.heap.size+1,0,none⟩)) rfl rfl (by kernel_rfl) (by kernel_rfl) (by kernel_rfl) (fun _ _ _ h=>h) rfl (fun wx hx=>by go_simp) hH ?_
 simp only [Act.put,List.setIfInBounds_toArray,List.set_cons_zero,List.set_cons_succ]
 refine takeQ (v:=.agg (Bt.cellsB b)) 3 (some 8) rfl rfl (by kernel_rfl) (by kernel_rfl) (by kernel_rfl) (fun _ _ _ h=>h) rfl _ rfl (w.heap.size+1) rfl b rfl hlb (fun wx hx=>⟨_,hx.two⟩) hH ?_
 simp only [Act.put,List.setIfInBounds_toArray,List.set_cons_zero,List.set_cons_succ]
 refine takeV 5 (some 10) (.pointer (some ⟨w.heap.size,16,none⟩)) rfl rfl (by kernel_rfl) (by kernel_rfl) (by kernel_rfl) (fun _ _ _ h=>h) rfl (fun wx hx=>by go_simp) hH ?_
 simp only [Act.put,List.setIfInBounds_toArray,List.set_cons_zero,List.set_cons_succ]
 refine takeV 6 (some 11) (.int .i64 x) rfl rfl (by kernel_rfl) (by kernel_rfl) (by kernel_rfl) (fun _ _ _ h=>h) rfl (fun wx hx=>by have hcc:=hx.one.goal hla;go_simp) hH ?_
 simp only [Act.put,List.setIfInBounds_toArray,List.set_cons_zero,List.set_cons_succ]
 refine takeV 7 (some 12) (.pointer (some ⟨w.heap.size+1,16,none⟩)) rfl rfl (by kernel_rfl) (by kernel_rfl) (by kernel_rfl) (fun _ _ _ h=>h) rfl (fun wx hx=>by go_simp) hH ?_
 simp only [Act.put,List.setIfInBounds_toArray,List.set_cons_zero,List.set_cons_succ]
 refine takeV 8 (some 13) (.int .i64 y) rfl rfl (by kernel_rfl) (by kernel_rfl) (by kernel_rfl) (fun _ _ _ h=>h) rfl (fun wx hx=>by have hcc:=hx.two.goal hlb;go_simp) hH ?_
 simp only [Act.put,List.setIfInBounds_toArray,List.set_cons_zero,List.set_cons_succ]
 refine oneH 4 (by kernel_rfl) rfl (stepC 4 (some 9) rfl rfl 95 _ _ rfl [.agg (Bt.cellsB a),.agg (Bt.cellsB b)] rfl (fun _ _=>Tryz.call95 _ _) ?_)
 refine (KS.out _).mono ?_
 rintro e w1 ⟨rfl,hb1⟩
 refine ⟨_,rfl,hH.later hb1,fun hH => ?_⟩
 simp only [Act.put,List.setIfInBounds_toArray,List.set_cons_zero,List.set_cons_succ]
 refine oneH 9 (by kernel_rfl) rfl (stepC 9 (some 14) rfl rfl 96 _ _ rfl [.int .i64 x,.int .i64 y] rfl (fun _ _=>Tryz.call96 _ _) ?_)
 refine (KC.out _).mono ?_
 rintro e w2 ⟨rfl,hw2⟩
 subst w2
 refine ⟨_,rfl,hH,fun hH => ?_⟩
 simp only [Act.put,List.setIfInBounds_toArray,List.set_cons_zero,List.set_cons_succ]
 refine oneH 10 (by kernel_rfl) rfl (stepW 10 (some 15) (.slice (some ⟨w1.heap.size,0,none⟩) 2 2) (w1.alloc (.cells #[.int .i64 p,.int .i64 q] 3)) rfl rfl (by go_simp) (hH.later (below_alloc _ _)) (fun hH => ?_))
 simp only [Act.put,List.setIfInBounds_toArray,List.set_cons_zero,List.set_cons_succ]
 refine oneH 11 (by kernel_rfl) rfl (stepC 11 (some 16) rfl rfl 94 _ _ rfl [.slice (some ⟨w1.heap.size,0,none⟩) 2 2] rfl (fun _ _=>Tryz.call94 _ _) ?_)
 refine (cor_any _ _ p q (by rw [cell_of_row _ _ _ _ _ _ (heap_alloc_last w1 _)];rfl) (by rw [cell_of_row _ _ _ _ _ _ (heap_alloc_last w1 _)];rfl)).mono ?_
 rintro e w3 ⟨rfl,hw3⟩
 subst w3
 refine ⟨_,rfl,hH,fun hH => ?_⟩
 simp only [Act.put,List.setIfInBounds_toArray,List.set_cons_zero,List.set_cons_succ]
 refine takeV 12 (some 4) (.int .i64 (orI p q)) rfl rfl (by kernel_rfl) (by kernel_rfl) (by kernel_rfl) (fun _ _ _ h=>h) rfl (fun wx hx=>by go_simp) hH ?_
 simp only [Act.put,List.setIfInBounds_toArray,List.set_cons_zero,List.set_cons_succ]
 refine wpAnyH_done (by kernel_rfl) ?_ _
 have HB:=show Hid (Below w.heap.size w _) from hH.bel
 go_wp2_with fail
 go_ret
 exact ⟨rfl,HB.out⟩
end Go.Proofs.YtkmmlimekachbaaGreatDoor
/-
  The call Check of a sequent: for every table that calls made and every sequent. No other condition than that the table of TrailingZeros stands.
-/
namespace Go.Proofs.YtkmmlimekachbaaGreatDoor
open Go.RowKit Go.Shelf Go.Maps
open Fm (Nd)
open Bt.Bs (Ok wd)
def chkQ (t:List Nd) (r:List Nat) (g:Int):Int:=refQ t ((Bt.Bs.nums r).map fun n:Nat=>(n:Int)) g
theorem refused_bits (w:World) {b m:Nat} {v:Value} {t:List Nd} (hT:Tb w b m v t) (hZ:Bt.Tz w) {r:List Nat} (hr:Ok r) {q:Nat} (hq:Bt.RowAt w q r) (g:Int) :
 Calls Tryz.prog 36 #[.pointer (some ⟨b,0,none⟩),.func (.func 90) #[] #[.pointer (some ⟨q,0,none⟩)],.int .i64 g] w fun e w'=>e=.returned (.int .i64 (chkQ t r g))∧Below w.heap.size w w' :=
 qrefused_any w hT (fun n:Nat=>(n:Int)) (Bt.Bs.nums r) 90 _ (enters_of Tryz.func90 (by kernel_rfl) rfl)
  (fun w' n₀ hb hn=>Bt.all_stops 4 (by omega) q n₀ hr w' (hq.keep hb hq.lt) (Bt.tz_block hZ hb) (Nat.lt_of_lt_of_le (Bt.tz_lt hZ) hn)) g
structure CK (w wx:World) (r:List Nat) (g:Int):Prop where
 seq:SeqAt wx w.heap.size r g
 bel:Below w.heap.size w wx
set_option maxRecDepth 100000 in
set_option maxHeartbeats 2000000 in
theorem qcheck_any (w:World) {b m:Nat} {v:Value} {t:List Nd} (hT:Tb w b m v t) (hZ:Bt.Tz w) {r:List Nat} (hr:Ok r) (g:Int) :
 Calls Tryz.prog 15 #[.pointer (some ⟨b,0,none⟩),.agg (cellsQ r g)] w fun e w'=>e=.returned (.int .i64 (chkQ t r g))∧Below w.heap.size w w':=by
 have hl:=hr.1
 have KA:=show Hid (∀ w,Calls Tryz.prog 43 #[.agg (Bt.cellsB r)] w fun e w'=>e=.returned (.func (.func 90) #[] #[.pointer (some ⟨w.heap.size,0,none⟩)])∧w'=w.alloc (.cells (Bt.cellsB r) 25)) from fun w=>Bt.all_any w r
 have KR:=show Hid (∀ w' q,Below w.heap.size w w'→Bt.RowAt w' q r→Calls Tryz.prog 36 #[.pointer (some ⟨b,0,none⟩),.func (.func 90) #[] #[.pointer (some ⟨q,0,none⟩)],.int .i64 g] w' fun e w''=>e=.returned (.int .i64 (chkQ t r g))∧Below w'.heap.size w' w'') from fun w' q hb hq=>refused_bits w' (hT.later hb) (Bt.tz_block hZ hb) hr hq g
 have HC:=show Hid (CK w (w.alloc (.cells (cellsQ r g) 27)) r g) from ⟨seq_new w r g,below_alloc w _⟩
 clear hT hZ hr
 generalize chkQ t r g=rq at *
 go_enter Tryz.func15,Tryz.ntmps15
 go_wp2_with fail
 refine wp_region_held_drew (S:=fun wx=>CK w wx r g) (by kernel_rfl) ⟨HC.out.seq,HC.out.bel.drew⟩ (fun hH => ?_)
 clear HC
 refine takeV 0 (some 5) (.pointer (some ⟨b,0,none⟩)) rfl rfl (by kernel_rfl) (by kernel_rfl) (by kernel_rfl) (fun _ _ _ h=>h) rfl (fun wx hx=>by go_simp) hH ?_
 simp only [Act.put,List.setIfInBounds_toArray,List.set_cons_zero,List.set_cons_succ]
 refine takeV 1 (some 6) (.pointer (some ⟨w.heap.size,0,none⟩)) rfl rfl (by kernel_rfl) (by kernel_rfl) (by kernel_rfl) (fun _ _ _ h=>h) rfl (fun wx hx=>by go_simp) hH ?_
 simp only [Act.put,List.setIfInBounds_toArray,List.set_cons_zero,List.set_cons_succ]
 refine takeQ (v:=.agg (Bt.cellsB r)) 2 (some 7) rfl rfl (by kernel_rfl) (by kernel_rfl) (by kernel_rfl) (fun _ _ _ h=>h) rfl _ rfl (w.heap.size) rfl r rfl hl (fun wx hx=>⟨_,hx.seq⟩) hH ?_
 simp only [Act.put,List.setIfInBounds_toArray,List.set_cons_zero,List.set_cons_succ]
 refine takeV 4 (some 9) (.pointer (some ⟨w.heap.size,16,none⟩)) rfl rfl (by kernel_rfl) (by kernel_rfl) (by kernel_rfl) (fun _ _ _ h=>h) rfl (fun wx hx=>by go_simp) hH ?_
 simp only [Act.put,List.setIfInBounds_toArray,List.set_cons_zero,List.set_cons_succ]
 refine takeV 5 (some 10) (.int .i64 g) rfl rfl (by kernel_rfl) (by kernel_rfl) (by kernel_rfl) (fun _ _ _ h=>h) rfl (fun wx hx=>by have hcc:=hx.seq.goal hl;go_simp) hH ?_
 simp only [Act.put,List.setIfInBounds_toArray,List.set_cons_zero,List.set_cons_succ]
 refine oneH 3 (by kernel_rfl) rfl (stepC 3 (some 8) rfl rfl 43 _ _ rfl [.agg (Bt.cellsB r)] rfl (fun _ _=>Tryz.call43 _ _) ?_)
 refine (KA.out _).mono ?_
 rintro e w1 ⟨rfl,hw1⟩
 have hq:Bt.RowAt w1 (w.alloc (Obj.cells (cellsQ r g) 27)).drew.heap.size r:=by rw [hw1];exact heap_alloc_last _ _
 have hH1:CK w w1 r g:=by rw [hw1];exact ⟨hH.seq.later (below_alloc _ _) hH.seq.lt,hH.bel.alloc hH.bel.size _⟩
 clear hw1
 refine ⟨_,rfl,hH1,fun _ => ?_⟩
 simp only [Act.put,List.setIfInBounds_toArray,List.set_cons_zero,List.set_cons_succ]
 refine oneH 6 (by kernel_rfl) rfl (stepC 6 (some 11) rfl rfl 36 _ _ rfl [.pointer (some ⟨b,0,none⟩),.func (.func 90) #[] #[.pointer (some ⟨_,0,none⟩)],.int .i64 g] rfl (fun _ _=>Tryz.call36 _ _) ?_)
 refine (KR.out w1 _ hH1.bel hq).mono ?_
 rintro e w2 ⟨rfl,hb2⟩
 have hH2:CK w w2 r g:=⟨hH1.seq.later hb2 hH1.seq.lt,hH1.bel.trans (hb2.mono hH1.bel.size)⟩
 refine ⟨_,rfl,hH2,fun _ => ?_⟩
 simp only [Act.put,List.setIfInBounds_toArray,List.set_cons_zero,List.set_cons_succ]
 refine takeV 7 (some 4) (.int .i64 rq) rfl rfl (by kernel_rfl) (by kernel_rfl) (by kernel_rfl) (fun _ _ _ h=>h) rfl (fun wx hx=>by go_simp) hH2 ?_
 simp only [Act.put,List.setIfInBounds_toArray,List.set_cons_zero,List.set_cons_succ]
 refine wpAnyH_done (by kernel_rfl) ?_ _
 have HB:=show Hid (Below w.heap.size w w2) from hH2.bel
 clear hH hH1 hH2 hb2 hq KR KA
 go_wp2_with fail
 go_ret
 exact ⟨rfl,HB.out⟩
end Go.Proofs.YtkmmlimekachbaaGreatDoor
