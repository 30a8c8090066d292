import Derived.Test.YtkejippimkjjaaaGreatDoorZR1
import Derived.Test.YtkejippimkjjaaaGreatDoorZH1
import Derived.Test.YtkejippimkjjaaaGreatDoorZG6
import Derived.Test.YtkejippimkjjaaaGreatDoorZG9
import Derived.Test.YtkejippimkjjaaaGreatDoorZR3
import Derived.Test.YtkejippimkjjaaaGreatDoorBG6
set_option linter.unusedSimpArgs false
set_option maxRecDepth 100000
set_option maxHeartbeats 2000000
namespace Go.Proofs.YtkejippimkjjaaaGreatDoor
open Go.RowKit Go.Shelf Go.Maps
open Fm (Nd)
open Bt.Bs (Ok wd)
def dh (t:List Nd) (a b c d:Int):(Int × Int × Int) × List Nd :=
 if (Fm.put t (ay 5 a b)).2.1≠0 then ((0,0,(Fm.put t (ay 5 a b)).2.1),(Fm.put t (ay 5 a b)).2.2)
 else if (Fm.put (Fm.put t (ay 5 a b)).2.2 (ay 5 (if c<0 then (Fm.put t (ay 5 a b)).1 else c) (if d<0 then (Fm.put t (ay 5 a b)).1 else d))).2.1≠0
 then ((0,0,(Fm.put (Fm.put t (ay 5 a b)).2.2 (ay 5 (if c<0 then (Fm.put t (ay 5 a b)).1 else c) (if d<0 then (Fm.put t (ay 5 a b)).1 else d))).2.1),t)
 else (((Fm.put t (ay 5 a b)).1,(Fm.put (Fm.put t (ay 5 a b)).2.2 (ay 5 (if c<0 then (Fm.put t (ay 5 a b)).1 else c) (if d<0 then (Fm.put t (ay 5 a b)).1 else d))).1,0),(Fm.put (Fm.put t (ay 5 a b)).2.2 (ay 5 (if c<0 then (Fm.put t (ay 5 a b)).1 else c) (if d<0 then (Fm.put t (ay 5 a b)).1 else d))).2.2)
theorem Dk (w:World) {k:Nat} {u:Value} {t:List Nd} (h:Tr w k u t) (a b c d:Int) (ha:Fm.i64 a) (hb:Fm.i64 b) (hc:Fm.i64 c) (hd:Fm.i64 d) :
 Calls Tryz.prog 59 #[.pointer (some ⟨k,0,none⟩),.int .i64 a,.int .i64 b,.int .i64 c,.int .i64 d] w fun e w'=>e=.returned (.tuple #[.int .i64 (dh t a b c d).1.1,.int .i64 (dh t a b c d).1.2.1,.int .i64 (dh t a b c d).1.2.2])/\aO w k u (dh t a b c d).2 w':=by
 have c0:=h.c0
 have Ng:=Fm.Iu h.ok (ay 5 a b)
 obtain⟨s,hs⟩:=(Fm.vM t (ay 5 a b)).2
 have K1:=show Hid _ from xE w h a b ha hb
 have nX:(t.length:Int)<=1024:=by have:=h.ok.len;omega
 obtain⟨p0,TH,hu,-⟩:=h.row.gT
 subst hu
 clear h
 obtain⟨R,hR⟩:∃ R,R=dh t a b c d:=⟨_,rfl⟩
 rw[<- hR]
 have HR:=show Hid _ from hR
 clear hR
 unfold dh at HR
 generalize Fm.put t (ay 5 a b)=p at *
 go_enter Tryz.func59,Tryz.ntmps59
 go_wp2_with fail
 refine Calls.mono K1.out ?_
 rintro e w1 ⟨rfl,u1,hT1,hL1,hK1⟩
 have H1:=show Hid _ from And.intro hT1 (And.intro hL1 hK1)
 clear hT1 hL1 hK1 K1
 by_cases hz:p.2.1=0
 ·have hzb:(p.2.1 != 0)=false:=by simpa using hz
  have hi1:Fm.i64 p.1:=Fm.eU Ng.1 Ng.2
  have HC:=show Hid (∀ c' d':Int,c'=(if c<0 then p.1 else c)->d'=(if d<0 then p.1 else d)->Calls Tryz.prog 61 #[.pointer (some ⟨k,0,none⟩),.int .i64 c',.int .i64 d'] w1 fun e w'=>e=.returned (.tuple #[.int .i64 (Fm.put p.2.2 (ay 5 (if c<0 then p.1 else c) (if d<0 then p.1 else d))).1,.int .i64 (Fm.put p.2.2 (ay 5 (if c<0 then p.1 else c) (if d<0 then p.1 else d))).2.1])/\aO w1 k u1 (Fm.put p.2.2 (ay 5 (if c<0 then p.1 else c) (if d<0 then p.1 else d))).2.2 w') from fun c' d' e1 e2=>by
   subst e1 e2
   refine xE w1 H1.out.1 _ _ ?_ ?_
   ·split
    ·exact hi1
    ·exact hc
   ·split
    ·exact hi1
    ·exact hd
  obtain⟨s2,hs2⟩:=(Fm.vM p.2.2 (ay 5 (if c<0 then p.1 else c) (if d<0 then p.1 else d))).2
  have hpre:(Fm.put p.2.2 (ay 5 (if c<0 then p.1 else c) (if d<0 then p.1 else d))).2.2=t ++ (s ++ s2):=by rw[hs2,hs,List.append_assoc]
  rw[if_neg (by simpa using hz)] at HR
  clear hi1 hs2 Ng hs
  generalize Fm.put p.2.2 (ay 5 (if c<0 then p.1 else c) (if d<0 then p.1 else d))=q at *
  obtain⟨q1,q2,q3⟩:=q
  simp only at hpre HC HR
  subst hpre
  have oL:=show Hid (∀ w2,aO w1 k u1 (t ++ (s ++ s2)) w2->∃ u2,Tr w2 k u2 (t ++ (s ++ s2))/\bQ w.heap.size (.slice p0 t.length TH) u2/\Kp (Fr k (.slice p0 t.length TH)) w w2) from fun w2 h2=>aO.trans H1.out.2.1 H1.out.2.2 h2
  clear H1
  by_cases hz2:q2=0
  ·subst hz2
   rw[if_neg (by simp)] at HR
   obtain rfl:=HR.out
   clear HR
   by_cases hcn:c<0
   ·by_cases hdn:d<0
    ·have KI:=show Hid _ from HC.out p.1 p.1 (by rw[if_pos hcn]) (by rw[if_pos hdn])
     clear HC
     go_wp2_with fail
     refine Calls.mono KI.out ?_
     rintro e w2 ⟨rfl,hA⟩
     have HA:=show Hid _ from oL.out w2 hA
     clear hA oL KI
     go_wp2_with fail
     exact bodyPost_ret (dZ rfl _ _) rfl ⟨rfl,HA.out⟩
    ·have KI:=show Hid _ from HC.out p.1 d (by rw[if_pos hcn]) (by rw[if_neg hdn])
     clear HC
     go_wp2_with fail
     refine Calls.mono KI.out ?_
     rintro e w2 ⟨rfl,hA⟩
     have HA:=show Hid _ from oL.out w2 hA
     clear hA oL KI
     go_wp2_with fail
     exact bodyPost_ret (dZ rfl _ _) rfl ⟨rfl,HA.out⟩
   ·by_cases hdn:d<0
    ·have KI:=show Hid _ from HC.out c p.1 (by rw[if_neg hcn]) (by rw[if_pos hdn])
     clear HC
     go_wp2_with fail
     refine Calls.mono KI.out ?_
     rintro e w2 ⟨rfl,hA⟩
     have HA:=show Hid _ from oL.out w2 hA
     clear hA oL KI
     go_wp2_with fail
     exact bodyPost_ret (dZ rfl _ _) rfl ⟨rfl,HA.out⟩
    ·have KI:=show Hid _ from HC.out c d (by rw[if_neg hcn]) (by rw[if_neg hdn])
     clear HC
     go_wp2_with fail
     refine Calls.mono KI.out ?_
     rintro e w2 ⟨rfl,hA⟩
     have HA:=show Hid _ from oL.out w2 hA
     clear hA oL KI
     go_wp2_with fail
     exact bodyPost_ret (dZ rfl _ _) rfl ⟨rfl,HA.out⟩
  ·have hq2:(q2 != 0)=true:=by simpa using hz2
   rw[if_pos hz2] at HR
   obtain rfl:=HR.out
   clear HR
   have wh:=show Hid (∀ w2,aO w1 k u1 (t ++ (s ++ s2)) w2->Calls Tryz.prog 19 #[.pointer (some ⟨k,0,none⟩),.int .i64 (t.length:Int)] w2 fun e w'=>e=.returned (.int .i64 0)/\aO w k (.slice p0 t.length TH) t w') from fun w2 h2=>by
    obtain⟨u2,h3,h4,h5⟩:=oL.out w2 h2
    have:=Dg w2 h3 (t.length:Int)
    rw[ED] at this
    exact this.mono fun e w' h=>⟨h.1,aO.trans h4 h5 h.2⟩
   clear oL
   by_cases hcn:c<0
   ·by_cases hdn:d<0
    ·have KI:=show Hid _ from HC.out p.1 p.1 (by rw[if_pos hcn]) (by rw[if_pos hdn])
     clear HC
     go_wp2_with fail
     refine Calls.mono KI.out ?_
     rintro e w2 ⟨rfl,hA⟩
     have HA:=show Hid _ from wh.out w2 hA
     clear hA wh KI
     go_wp2_with fail
     refine Calls.mono HA.out ?_
     rintro e w3 ⟨rfl,hA3⟩
     have HX:=show Hid _ from hA3
     clear HA hA3
     go_wp2_with fail
     exact bodyPost_ret (dZ rfl _ _) rfl ⟨rfl,HX.out⟩
    ·have KI:=show Hid _ from HC.out p.1 d (by rw[if_pos hcn]) (by rw[if_neg hdn])
     clear HC
     go_wp2_with fail
     refine Calls.mono KI.out ?_
     rintro e w2 ⟨rfl,hA⟩
     have HA:=show Hid _ from wh.out w2 hA
     clear hA wh KI
     go_wp2_with fail
     refine Calls.mono HA.out ?_
     rintro e w3 ⟨rfl,hA3⟩
     have HX:=show Hid _ from hA3
     clear HA hA3
     go_wp2_with fail
     exact bodyPost_ret (dZ rfl _ _) rfl ⟨rfl,HX.out⟩
   ·by_cases hdn:d<0
    ·have KI:=show Hid _ from HC.out c p.1 (by rw[if_neg hcn]) (by rw[if_pos hdn])
     clear HC
     go_wp2_with fail
     refine Calls.mono KI.out ?_
     rintro e w2 ⟨rfl,hA⟩
     have HA:=show Hid _ from wh.out w2 hA
     clear hA wh KI
     go_wp2_with fail
     refine Calls.mono HA.out ?_
     rintro e w3 ⟨rfl,hA3⟩
     have HX:=show Hid _ from hA3
     clear HA hA3
     go_wp2_with fail
     exact bodyPost_ret (dZ rfl _ _) rfl ⟨rfl,HX.out⟩
    ·have KI:=show Hid _ from HC.out c d (by rw[if_neg hcn]) (by rw[if_neg hdn])
     clear HC
     go_wp2_with fail
     refine Calls.mono KI.out ?_
     rintro e w2 ⟨rfl,hA⟩
     have HA:=show Hid _ from wh.out w2 hA
     clear hA wh KI
     go_wp2_with fail
     refine Calls.mono HA.out ?_
     rintro e w3 ⟨rfl,hA3⟩
     have HX:=show Hid _ from hA3
     clear HA hA3
     go_wp2_with fail
     exact bodyPost_ret (dZ rfl _ _) rfl ⟨rfl,HX.out⟩
 ·have hzb:(p.2.1 != 0)=true:=by simpa using hz
  rw[if_pos hz] at HR
  obtain rfl:=HR.out
  clear HR hz
  go_wp2_with fail
  exact bodyPost_ret (dZ rfl _ _) rfl ⟨rfl,⟨u1,by rw[<- hs];exact H1.out⟩⟩
section
variable {ops:Array Oper} {rest:List Oper} {o:Oper} {a:Act} {Q:Exit->Act->World->Prop}
theorem jX (w:World) (hg:Region.wanted o (yielded ops a.tmps)=true) (x:Operand) (hop:o.op=Op.buildSlice 100 1 #[(0,x)]) {r:List Nat} {g:Int} (hx:a.eval x=.agg (ak r g)) (hr:r.length=16)
 (hK:wpList Tryz.prog ops Q rest (a.put o.dst (.slice (some ⟨w.heap.size,0,none⟩) 1 1)) (w.alloc (.cells (bH [(r,g)]) 27))):wpList Tryz.prog ops Q (o :: rest) a w:=by
 refine Bt.wpList_want hg fun K' hK' => ?_
 have hrun:=wC w hr g
 unfold Oper.wp
 simp[execOp,hop,hx,hrun,Result.andThen]
 exact hK' _ _ hK
end
structure RP (w W:World) (c:Nat) (u:Value) (t:List Nd) (b5 b10 b11:Nat) (r aG:List Nat) (g:Int) (n:Nd):Prop where
 tr:Tr W c u t
 s:aX W b5 r g
 n:Cl W b10 (bq n).toArray 54
 z:aX W b11 aG g
 au:Below w.heap.size w W
section
variable {w W W':World} {c:Nat} {u:Value} {t:List Nd} {b5 b10 b11:Nat} {r aG:List Nat} {g:Int} {n:Nd}
theorem RP.later (h:RP w W c u t b5 b10 b11 r aG g n) (hb:Below W.heap.size W W'):RP w W' c u t b5 b10 b11 r aG g n:=⟨h.tr.later hb,h.s.later hb h.s.lt,h.n.later hb,h.z.later hb h.z.lt,h.au.trans (hb.mono h.au.size)⟩
theorem RP.drew (h:RP w W c u t b5 b10 b11 r aG g n):RP w W.drew c u t b5 b10 b11 r aG g n:=h.later ((Below.refl _ _).drew)
end
end Go.Proofs.YtkejippimkjjaaaGreatDoor
