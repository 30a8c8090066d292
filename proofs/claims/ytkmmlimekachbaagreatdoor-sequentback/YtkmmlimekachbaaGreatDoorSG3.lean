/-
  The closures that put what was read. For every tree and table. No other condition.
-/
import Derived.Test.YtkmmlimekachbaaGreatDoorSG2
import Derived.Deep.RegionHeld2
import Derived.RegionDies
import Derived.Deep.RegionHeld3
import Derived.Recover
namespace Go.Proofs.YtkmmlimekachbaaGreatDoor
open Go.RowKit Go.Maps
open Fm (Nd)
open Sx (Tn T Lv)
def Putted (w:World) (b m:Nat) (v:Value) (r:Int × Int × List Nd) (e:Ending) (w':World):Prop :=
 (r.2.1=0∧e=.returned (.int .i64 r.1)∧After w b m v r.2.2 w')∨(r.2.1≠0∧e=fltP r.2.1 Sx.tz∧After w b m v r.2.2 w')
theorem putted_ok {w w':World} {b m:Nat} {v:Value} {r:Int × Int × List Nd} {x:Int} (h0:r.2.1=0) (hx:x=r.1) (ha:After w b m v r.2.2 w'):Putted w b m v r (.returned (.int .i64 x)) w':=by
 subst hx
 exact Or.inl ⟨h0,rfl,ha⟩
theorem putted_bad {w w':World} {b m:Nat} {v:Value} {r:Int × Int × List Nd} {ec:Int} (h0:r.2.1≠0) (hx:ec=r.2.1) (ha:After w b m v r.2.2 w'):Putted w b m v r (fltP ec Sx.tz) w':=by
 subst hx
 exact Or.inr ⟨h0,rfl,ha⟩
theorem After.undrew {w w':World} {b m:Nat} {v:Value} {t:List Nd} (h:After w.drew b m v t w'):After w b m v t w':=by
 obtain ⟨v',h1,h2,h3⟩:=h
 exact ⟨v',h1,h2,⟨h3.os,h3.tape,h3.output,h3.size,h3.block⟩⟩
theorem Box.after {w w':World} {g b m:Nat} {x:Value} {ty:TypeId} {v:Value} {t:List Nd} (h:Box w g x ty) (hty:ty=169∨ty=9∨ty=205∨ty=248) (hT:Tb w b m v t) (hk:Kp (Ft b m v) w w'):Box w' g x ty :=
 (hk.block _ h.lt (IsBox.ft ⟨x,ty,h,hty⟩ hT)).trans h
theorem leave_one {G:Prop} {S:World→Prop} {A K:Act→World→Prop} (_hK:Shut (∀ a w,S w→(S w→A a w)→K a w)) (hG:G) (a:Act) (w:World) (_:False→K a w):G:=hG
section
variable (w:World) {p b m g g2 gt:Nat} {cap:Cp} {len i n d:Nat} {v:Value} {t:List Nd}
set_option maxHeartbeats 400000 in
theorem sure_ok (x:Int):Calls Tryz.prog 216 #[.int .i64 x,.int .i64 0] w fun e w'=>e=.returned (.int .i64 x)∧w'=w:=by
 go_enter Tryz.func216,Tryz.ntmps216
 go_wp2_with fail
 go_ret
 exact ⟨rfl,rfl⟩
set_option maxHeartbeats 400000 in
theorem sure_bad (x ec:Int) (h:ec≠0):Calls Tryz.prog 216 #[.int .i64 x,.int .i64 ec] w fun e w'=>e=fltP ec Sx.tz∧w'=w:=by
 have h0:(ec != 0)=true:=by simp [h]
 clear h
 go_enter Tryz.func216,Tryz.ntmps216
 go_wp2_with fail
 exact ⟨rfl,rfl,rfl⟩
set_option maxHeartbeats 1000000 in
theorem named1_any (hB:Box w g (ptrV p) 169) (hR:Rdr w p b gt cap len i n d) (hT:Tb w b m v t) :
 Calls Tryz.prog 248 #[ptrV g] w fun e w'=>Putted w b m v (Fm.put t Fm.bot) e w':=by
 have K:=show Hid (Calls Tryz.prog 246 #[.pointer (some ⟨b,0,none⟩)] w fun e w'=>e=.returned (.tuple #[.int .i64 (Fm.put t Fm.bot).1,.int .i64 (Fm.put t Fm.bot).2.1])∧After w b m v (Fm.put t Fm.bot).2.2 w') from bot_any w hT
 generalize Fm.put t Fm.bot=r at *
 have c0:=hB.c0
 have hp:=hR.c0
 unfold ptrV at *
 clear hB hT hR
 go_enter Tryz.func248,Tryz.ntmps248
 go_wp2_with fail
 refine K.out.mono ?_
 rintro e w1 ⟨rfl,ha⟩
 have HA:=show Hid _ from ha
 clear ha K
 obtain ⟨r1,r2,r3⟩:=r
 simp only at *
 by_cases h0:r2=0
 ·subst h0
  go_wp2_with fail
  refine (sure_ok w1 r1).mono ?_
  rintro e w2 ⟨rfl,hw2⟩
  subst w2
  go_wp2_with fail
  go_ret
  exact putted_ok rfl rfl HA.out
 ·have H0:=show Hid _ from h0
  clear h0
  go_wp2_with fail
  refine (sure_bad w1 r1 r2 H0.out).mono ?_
  rintro e w2 ⟨rfl,hw2⟩
  subst w2
  unfold fltP
  go_wp2_with fail
  exact ⟨rfl,putted_bad H0.out rfl HA.out⟩
set_option maxHeartbeats 2000000 in
theorem named3_any (hB:Box w g (ptrV p) 169) (s:ByteArray) (hs:s.size≤140737488351232) (hB2:Box w g2 (.string s) 9) (hR:Rdr w p b gt cap len i n d) (hT:Tb w b m v t) :
 Calls Tryz.prog 250 #[ptrV g,ptrV g2] w fun e w'=>Putted w b m v (Fm.put t (atomN s)) e w':=by
 have K:=show Hid (Calls Tryz.prog 251 #[.pointer (some ⟨b,0,none⟩),.string s] w.drew fun e w'=>e=.returned (.tuple #[.int .i64 (Fm.put t (atomN s)).1,.int .i64 (Fm.put t (atomN s)).2.1])∧(After w b m v (Fm.put t (atomN s)).2.2 w'∧(w'.cell? ⟨g,0,none⟩=some (.pointer (some ⟨p,0,none⟩))∧w'.cell? ⟨g2,0,none⟩=some (.string s)∧w'.cell? ⟨p,0,none⟩=some (.pointer (some ⟨b,0,none⟩))))) from
  (atom_any w.drew hT.drew s hs).mono fun e w' h=>by
   have ha:=h.2.undrew
   obtain ⟨v',h1,h2,h3⟩:=ha
   exact ⟨h.1,h.2.undrew,(hB.after (Or.inl rfl) hT h3).c0,(hB2.after (Or.inr (Or.inl rfl)) hT h3).c0,(hR.after hT h3).c0⟩
 generalize Fm.put t (atomN s)=r at *
 have c0:=hB.c0
 have c2:=hB2.c0
 have hp:=hR.c0
 unfold ptrV at *
 have HS0:w.drew.cell? ⟨g,0,none⟩=some (.pointer (some ⟨p,0,none⟩))∧w.drew.cell? ⟨g2,0,none⟩=some (.string s)∧w.drew.cell? ⟨p,0,none⟩=some (.pointer (some ⟨b,0,none⟩)):=⟨c0,c2,hp⟩
 clear hB hB2 hT hR hs
 obtain ⟨r1,r2,r3⟩:=r
 simp only at *
 by_cases h0:r2=0
 ·subst h0
  go_enter Tryz.func250,Tryz.ntmps250
  go_wp2_with fail
  go_region_held3 (fun wx=>wx.cell? ⟨g,0,none⟩=some (.pointer (some ⟨p,0,none⟩))∧wx.cell? ⟨g2,0,none⟩=some (.string s)∧wx.cell? ⟨p,0,none⟩=some (.pointer (some ⟨b,0,none⟩))) (first | assumption) (first | (go_at_call 251;refine K.out.mono ?_;rintro e w1 ⟨rfl,ha,hS1⟩) | (go_at_call 216;refine (sure_ok _ r1).mono ?_;rintro e w2 ⟨rfl,hw2⟩;subst w2))
  go_wp2_with fail
  go_ret
  exact putted_ok rfl rfl ha
 ·have H0:=show Hid _ from h0
  clear h0
  go_enter Tryz.func250,Tryz.ntmps250
  go_wp2_with fail
  go_region_held2 (fun wx=>wx.cell? ⟨g,0,none⟩=some (.pointer (some ⟨p,0,none⟩))∧wx.cell? ⟨g2,0,none⟩=some (.string s)∧wx.cell? ⟨p,0,none⟩=some (.pointer (some ⟨b,0,none⟩))) (first | assumption | contradiction) (first | (go_at_call 251;refine K.out.mono ?_;rintro e w1 ⟨rfl,ha,hS1⟩) | (go_at_call 216;refine (sure_bad _ r1 r2 H0.out).mono ?_;rintro e w2 ⟨rfl,hw2⟩;subst w2;refine leave_one (by assumption) ⟨rfl,putted_bad H0.out rfl ha⟩ ⟨#[],[]⟩ w (fun hF => ?_)))
  all_goals contradiction
theorem Pts.enters {w:World} {p b F:Nat} {cp:Array Value}:∀ {a:T},Pts w p b a (.func (.func F) #[] cp)→∀ w':World,(callFunc F cp).run Tryz.prog w'=.ok (.enter F cp) w':=by
 intro a h w'
 cases a with
 | bot=>obtain ⟨_,h,_⟩:=h;cases h;simp [go_sem]
 | top=>obtain ⟨_,h,_⟩:=h;cases h;simp [go_sem]
 | atom s=>obtain ⟨_,_,h,_⟩:=h;cases h;simp [go_sem]
 | neg a=>obtain ⟨_,_,_,h,_⟩:=h;cases h;simp [go_sem]
 | bin k a a2=>obtain ⟨_,_,_,_,_,h,_⟩:=h;cases h;simp [go_sem]
 | iff a a2=>obtain ⟨_,_,_,_,_,h,_⟩:=h;cases h;simp [go_sem]
theorem After.kp {w w':World} {b m:Nat} {v:Value} {t:List Nd} (h:After w b m v t w'):Kp (Ft b m v) w w':=by obtain ⟨_,_,_,h⟩:=h;exact h
theorem After.next {w w1 w2:World} {b m:Nat} {v:Value} {t1 t2:List Nd} (h:After w b m v t1 w1) (k:∀ v1,Tb w1 b m v1 t1→After w1 b m v1 t2 w2):After w b m v t2 w2:=by
 obtain ⟨v1,h1,h2,h3⟩:=h
 exact After.trans h2 h3 (k v1 h1)
set_option maxRecDepth 100000 in
set_option maxHeartbeats 4000000 in
theorem single1_any {Fa:Nat} {cpa:Array Value} {a:T} (hB:Box w g (ptrV p) 169) (hB2:Box w g2 (.func (.func Fa) #[] cpa) 205) (hP:Pts w p b a (.func (.func Fa) #[] cpa)) (hR:Rdr w p b gt cap len i n d) (hT:Tb w b m v t) (ha:Sx.Res t (Sx.pt a t))
 (IH:Calls Tryz.prog Fa cpa w.drew fun e w'=>Putted w.drew b m v (Sx.pt a t) e w') :
 Calls Tryz.prog 242 #[ptrV g,ptrV g2] w fun e w'=>Putted w b m v (Sx.pt (.neg a) t) e w':=by
 have hcf:=hP.enters
 have HR:=show Hid (Sx.pt (.neg a) t=Sx.thn (Sx.pt a t) fun x t=>Fm.notp t x) from rfl
 have KN:=show Hid (∀ w1,After w b m v (Sx.pt a t).2.2 w1→(Sx.pt a t).2.1=0→Calls Tryz.prog 243 #[.pointer (some ⟨b,0,none⟩),.int .i64 (Sx.pt a t).1] w1 fun e w'=>e=.returned (.tuple #[.int .i64 (Fm.notp (Sx.pt a t).2.2 (Sx.pt a t).1).1,.int .i64 (Fm.notp (Sx.pt a t).2.2 (Sx.pt a t).1).2.1])∧After w b m v (Fm.notp (Sx.pt a t).2.2 (Sx.pt a t).1).2.2 w') from fun w1 ha1 h0=>by
  obtain ⟨v1,h1,h2,h3⟩:=ha1
  exact (not_any w1 h1 _ ha.i64).mono fun e w' h=>⟨h.1,After.trans h2 h3 h.2⟩
 have HC:=show Hid (∀ (t':List Nd) w1,After w b m v t' w1→w1.cell? ⟨g,0,none⟩=some (.pointer (some ⟨p,0,none⟩))∧w1.cell? ⟨g2,0,none⟩=some (.func (.func Fa) #[] cpa)∧w1.cell? ⟨p,0,none⟩=some (.pointer (some ⟨b,0,none⟩))) from fun _ w1 ha1=>⟨(hB.after (Or.inl rfl) hT ha1.kp).c0,(hB2.after (Or.inr (Or.inr (Or.inl rfl))) hT ha1.kp).c0,(hR.after hT ha1.kp).c0⟩
 have HIB:=show Hid ((Sx.pt a t).2.1≠0→Calls Tryz.prog Fa cpa w.drew fun e w'=>e=fltP (Sx.pt a t).2.1 Sx.tz∧After w b m v (Sx.pt a t).2.2 w') from fun h0=>IH.mono fun e w' h=>by
  rcases h with ⟨h1,_⟩ | ⟨_,h1,h2⟩
  ·exact absurd h1 h0
  ·exact ⟨h1,h2.undrew⟩
 have HIO:=show Hid ((Sx.pt a t).2.1=0→Calls Tryz.prog Fa cpa w.drew fun e w'=>e=.returned (.int .i64 (Sx.pt a t).1)∧After w b m v (Sx.pt a t).2.2 w') from fun h0=>IH.mono fun e w' h=>by
  rcases h with ⟨_,h1,h2⟩ | ⟨h1,_⟩
  ·exact ⟨h1,h2.undrew⟩
  ·exact absurd h0 h1
 have HN:=show Hid (Sx.pt (.neg a) t=if (Sx.pt a t).2.1=0 then Fm.notp (Sx.pt a t).2.2 (Sx.pt a t).1 else Sx.pt a t) from rfl
 generalize Fm.notp (Sx.pt a t).2.2 (Sx.pt a t).1=r' at *
 generalize Sx.pt (.neg a) t=rr at *
 generalize Sx.pt a t=r at *
 have c0:=hB.c0
 have c2:=hB2.c0
 have hp:=hR.c0
 unfold ptrV at *
 have HS0:w.drew.cell? ⟨g,0,none⟩=some (.pointer (some ⟨p,0,none⟩))∧w.drew.cell? ⟨g2,0,none⟩=some (.func (.func Fa) #[] cpa)∧w.drew.cell? ⟨p,0,none⟩=some (.pointer (some ⟨b,0,none⟩)):=⟨c0,c2,hp⟩
 clear hB hB2 hP hR hT ha IH HR
 obtain ⟨r1,r2,r3⟩:=r
 obtain ⟨q1,q2,q3⟩:=r'
 simp only at *
 by_cases h0:r2=0
 ·subst h0
  have hrr:=HN.out
  rw [if_pos rfl] at hrr
  subst hrr
  have K1:=show Hid (Calls Tryz.prog Fa cpa w.drew fun e w'=>e=.returned (.int .i64 r1)∧After w b m v r3 w') from HIO.out rfl
  have K2:=show Hid (∀ w1,After w b m v r3 w1→Calls Tryz.prog 243 #[.pointer (some ⟨b,0,none⟩),.int .i64 r1] w1 fun e w'=>e=.returned (.tuple #[.int .i64 q1,.int .i64 q2])∧After w b m v q3 w') from fun w1 h=>KN.out w1 h rfl
  clear HN HIO HIB KN
  by_cases h1:q2=0
  ·subst h1
   go_enter Tryz.func242,Tryz.ntmps242
   go_wp2_with fail
   go_region_held2 (fun wx=>wx.cell? ⟨g,0,none⟩=some (.pointer (some ⟨p,0,none⟩))∧wx.cell? ⟨g2,0,none⟩=some (.func (.func Fa) #[] cpa)∧wx.cell? ⟨p,0,none⟩=some (.pointer (some ⟨b,0,none⟩))) (first | assumption) (first | (go_at_call 243;refine (K2.out _ (by assumption)).mono ?_;rintro e w2 ⟨rfl,ha2⟩;have hS2:=HC.out _ w2 ha2) | (go_at_call 216;refine (sure_ok _ q1).mono ?_;rintro e w3 ⟨rfl,hw3⟩;subst w3) | (with_reducible refine Calls.mono K1.out ?_;rintro e w1 ⟨rfl,ha1⟩;have hS1:=HC.out _ w1 ha1))
   go_wp2_with fail
   go_ret
   exact putted_ok rfl rfl ha2
  ·have H0:=show Hid _ from h1
   clear h1
   go_enter Tryz.func242,Tryz.ntmps242
   go_wp2_with fail
   go_region_held2 (fun wx=>wx.cell? ⟨g,0,none⟩=some (.pointer (some ⟨p,0,none⟩))∧wx.cell? ⟨g2,0,none⟩=some (.func (.func Fa) #[] cpa)∧wx.cell? ⟨p,0,none⟩=some (.pointer (some ⟨b,0,none⟩))) (first | assumption | contradiction) (first | (go_at_call 243;refine (K2.out _ (by assumption)).mono ?_;rintro e w2 ⟨rfl,ha2⟩;have hS2:=HC.out _ w2 ha2) | (go_at_call 216;refine (sure_bad _ q1 q2 H0.out).mono ?_;rintro e w3 ⟨rfl,hw3⟩;subst w3;refine leave_one (by assumption) ⟨rfl,putted_bad H0.out rfl ha2⟩ ⟨#[],[]⟩ w (fun hF => ?_)) | (with_reducible refine Calls.mono K1.out ?_;rintro e w1 ⟨rfl,ha1⟩;have hS1:=HC.out _ w1 ha1))
   all_goals contradiction
 ·have hrr:=HN.out
  rw [if_neg h0] at hrr
  subst hrr
  have K1:=show Hid (Calls Tryz.prog Fa cpa w.drew fun e w'=>e=fltP r2 Sx.tz∧After w b m v r3 w') from HIB.out h0
  have H0:=show Hid _ from h0
  clear HN HIO HIB KN h0
  go_enter Tryz.func242,Tryz.ntmps242
  go_wp2_with fail
  obtain ⟨d0,d2,dp⟩:=HS0
  go_region_dies
  all_goals
   refine K1.out.mono ?_
   rintro e w1 ⟨rfl,ha1⟩
   exact ⟨rfl,putted_bad H0.out rfl ha1⟩
end
end Go.Proofs.YtkmmlimekachbaaGreatDoor
/-
  The closure that puts true; and all closures together. For every tree and table. No other condition.
-/
namespace Go.Proofs.YtkmmlimekachbaaGreatDoor
open Go.RowKit Go.Maps
open Fm (Nd)
open Sx (Tn T Lv)
section
variable (w:World) {p b m g g2 gt:Nat} {cap:Cp} {len i n d:Nat} {v:Value} {t:List Nd}
set_option maxRecDepth 100000 in
set_option maxHeartbeats 4000000 in
theorem named2_any (hB:Box w g (ptrV p) 169) (hR:Rdr w p b gt cap len i n d) (hT:Tb w b m v t) :
 Calls Tryz.prog 249 #[ptrV g] w fun e w'=>Putted w b m v (Sx.pt .top t) e w':=by
 have ha:=Sx.bot_res hT.ok
 have HR:=show Hid (Sx.pt .top t=if (Fm.put t Fm.bot).2.1=0 then Fm.notp (Fm.put t Fm.bot).2.2 (Fm.put t Fm.bot).1 else Fm.put t Fm.bot) from rfl
 have K1:=show Hid (Calls Tryz.prog 246 #[.pointer (some ⟨b,0,none⟩)] w.drew fun e w'=>e=.returned (.tuple #[.int .i64 (Fm.put t Fm.bot).1,.int .i64 (Fm.put t Fm.bot).2.1])∧After w b m v (Fm.put t Fm.bot).2.2 w') from (bot_any w.drew hT.drew).mono fun e w' h=>⟨h.1,h.2.undrew⟩
 have KN:=show Hid (∀ w1,After w b m v (Fm.put t Fm.bot).2.2 w1→Calls Tryz.prog 243 #[.pointer (some ⟨b,0,none⟩),.int .i64 (Fm.put t Fm.bot).1] w1 fun e w'=>e=.returned (.tuple #[.int .i64 (Fm.notp (Fm.put t Fm.bot).2.2 (Fm.put t Fm.bot).1).1,.int .i64 (Fm.notp (Fm.put t Fm.bot).2.2 (Fm.put t Fm.bot).1).2.1])∧After w b m v (Fm.notp (Fm.put t Fm.bot).2.2 (Fm.put t Fm.bot).1).2.2 w') from fun w1 ha1=>by
  obtain ⟨v1,h1,h2,h3⟩:=ha1
  exact (not_any w1 h1 _ ha.i64).mono fun e w' h=>⟨h.1,After.trans h2 h3 h.2⟩
 have HC:=show Hid (∀ (t':List Nd) w1,After w b m v t' w1→w1.cell? ⟨g,0,none⟩=some (.pointer (some ⟨p,0,none⟩))∧w1.cell? ⟨p,0,none⟩=some (.pointer (some ⟨b,0,none⟩))) from fun _ w1 ha1=>⟨(hB.after (Or.inl rfl) hT ha1.kp).c0,(hR.after hT ha1.kp).c0⟩
 generalize Fm.notp (Fm.put t Fm.bot).2.2 (Fm.put t Fm.bot).1=r' at *
 generalize Sx.pt .top t=rr at *
 generalize Fm.put t Fm.bot=r at *
 have c0:=hB.c0
 have hp:=hR.c0
 unfold ptrV at *
 have HS0:w.drew.cell? ⟨g,0,none⟩=some (.pointer (some ⟨p,0,none⟩))∧w.drew.cell? ⟨p,0,none⟩=some (.pointer (some ⟨b,0,none⟩)):=⟨c0,hp⟩
 clear hB hR hT ha
 obtain ⟨r1,r2,r3⟩:=r
 obtain ⟨q1,q2,q3⟩:=r'
 simp only at *
 by_cases h0:r2=0
 ·subst h0
  have hrr:=HR.out
  rw [if_pos rfl] at hrr
  subst hrr
  clear HR
  by_cases h1:q2=0
  ·subst h1
   go_enter Tryz.func249,Tryz.ntmps249
   go_wp2_with fail
   go_region_held2 (fun wx=>wx.cell? ⟨g,0,none⟩=some (.pointer (some ⟨p,0,none⟩))∧wx.cell? ⟨p,0,none⟩=some (.pointer (some ⟨b,0,none⟩))) (first | assumption) (first | (go_at_call 246;refine K1.out.mono ?_;rintro e w1 ⟨rfl,ha1⟩;have hS1:=HC.out _ w1 ha1) | (go_at_call 243;refine (KN.out _ (by assumption)).mono ?_;rintro e w2 ⟨rfl,ha2⟩;have hS2:=HC.out _ w2 ha2) | (go_at_call 216;refine (sure_ok _ _).mono ?_;rintro e w3 ⟨rfl,hw3⟩;subst w3))
   go_wp2_with fail
   go_ret
   exact putted_ok rfl rfl ha2
  ·have H0:=show Hid _ from h1
   clear h1
   go_enter Tryz.func249,Tryz.ntmps249
   go_wp2_with fail
   go_region_held2 (fun wx=>wx.cell? ⟨g,0,none⟩=some (.pointer (some ⟨p,0,none⟩))∧wx.cell? ⟨p,0,none⟩=some (.pointer (some ⟨b,0,none⟩))) (first | assumption | contradiction) (first | (go_at_call 246;refine K1.out.mono ?_;rintro e w1 ⟨rfl,ha1⟩;have hS1:=HC.out _ w1 ha1) | (go_at_call 243;refine (KN.out _ (by assumption)).mono ?_;rintro e w2 ⟨rfl,ha2⟩;have hS2:=HC.out _ w2 ha2) | (go_at_call 216;refine (sure_bad _ q1 q2 H0.out).mono ?_;rintro e w3 ⟨rfl,hw3⟩;subst w3;refine leave_one (by assumption) ⟨rfl,putted_bad H0.out rfl ha2⟩ ⟨#[],[]⟩ w (fun hF => ?_)) | (go_at_call 216;refine (sure_ok _ _).mono ?_;rintro e w3 ⟨rfl,hw3⟩;subst w3))
   all_goals contradiction
 ·have hrr:=HR.out
  rw [if_neg h0] at hrr
  subst hrr
  have H0:=show Hid _ from h0
  clear HR h0
  go_enter Tryz.func249,Tryz.ntmps249
  go_wp2_with fail
  go_region_held2 (fun wx=>wx.cell? ⟨g,0,none⟩=some (.pointer (some ⟨p,0,none⟩))∧wx.cell? ⟨p,0,none⟩=some (.pointer (some ⟨b,0,none⟩))) (first | assumption | contradiction) (first | (go_at_call 246;refine K1.out.mono ?_;rintro e w1 ⟨rfl,ha1⟩;have hS1:=HC.out _ w1 ha1) | (go_at_call 216;refine (sure_bad _ r1 r2 H0.out).mono ?_;rintro e w3 ⟨rfl,hw3⟩;subst w3;refine leave_one (by assumption) ⟨rfl,putted_bad H0.out rfl ha1⟩ ⟨#[.tuple #[.int .i64 0,.int .i64 0],.tuple #[.int .i64 0,.int .i64 0],.tuple #[.int .i64 0,.int .i64 0],.tuple #[.int .i64 0,.int .i64 0],.tuple #[.int .i64 0,.int .i64 0],.tuple #[.int .i64 0,.int .i64 0],.tuple #[.int .i64 0,.int .i64 0],.tuple #[.int .i64 0,.int .i64 0],.tuple #[.int .i64 0,.int .i64 0],.tuple #[.int .i64 0,.int .i64 0],.tuple #[.int .i64 0,.int .i64 0],.tuple #[.int .i64 0,.int .i64 0],.tuple #[.int .i64 0,.int .i64 0],.tuple #[.int .i64 0,.int .i64 0],.tuple #[.int .i64 0,.int .i64 0],.tuple #[.int .i64 0,.int .i64 0],.tuple #[.int .i64 0,.int .i64 0],.tuple #[.int .i64 0,.int .i64 0]],[]⟩ w (fun hF => ?_)) | (go_at_call 243;refine leave_one (by assumption) (by contradiction) ⟨#[.tuple #[.int .i64 0,.int .i64 0],.tuple #[.int .i64 0,.int .i64 0],.tuple #[.int .i64 0,.int .i64 0],.tuple #[.int .i64 0,.int .i64 0],.tuple #[.int .i64 0,.int .i64 0],.tuple #[.int .i64 0,.int .i64 0],.tuple #[.int .i64 0,.int .i64 0],.tuple #[.int .i64 0,.int .i64 0],.tuple #[.int .i64 0,.int .i64 0],.tuple #[.int .i64 0,.int .i64 0],.tuple #[.int .i64 0,.int .i64 0],.tuple #[.int .i64 0,.int .i64 0],.tuple #[.int .i64 0,.int .i64 0],.tuple #[.int .i64 0,.int .i64 0],.tuple #[.int .i64 0,.int .i64 0],.tuple #[.int .i64 0,.int .i64 0],.tuple #[.int .i64 0,.int .i64 0],.tuple #[.int .i64 0,.int .i64 0]],[]⟩ w (fun hF => ?_)) | (go_at_call 216;refine leave_one (by assumption) (by contradiction) ⟨#[.tuple #[.int .i64 0,.int .i64 0],.tuple #[.int .i64 0,.int .i64 0],.tuple #[.int .i64 0,.int .i64 0],.tuple #[.int .i64 0,.int .i64 0],.tuple #[.int .i64 0,.int .i64 0],.tuple #[.int .i64 0,.int .i64 0],.tuple #[.int .i64 0,.int .i64 0],.tuple #[.int .i64 0,.int .i64 0],.tuple #[.int .i64 0,.int .i64 0],.tuple #[.int .i64 0,.int .i64 0],.tuple #[.int .i64 0,.int .i64 0],.tuple #[.int .i64 0,.int .i64 0],.tuple #[.int .i64 0,.int .i64 0],.tuple #[.int .i64 0,.int .i64 0],.tuple #[.int .i64 0,.int .i64 0],.tuple #[.int .i64 0,.int .i64 0],.tuple #[.int .i64 0,.int .i64 0],.tuple #[.int .i64 0,.int .i64 0]],[]⟩ w (fun hF => ?_)))
  all_goals contradiction
end
end Go.Proofs.YtkmmlimekachbaaGreatDoor
/-
  The closure that joins two; and all closures together. For every tree and table. No other condition.
-/
namespace Go.Proofs.YtkmmlimekachbaaGreatDoor
open Go.RowKit Go.Maps
open Fm (Nd)
open Sx (Tn T Lv)
section
variable (w:World) {p b m g g2 g3 gt:Nat} {cap:Cp} {len i n d:Nat} {v:Value} {t:List Nd}
def Joined (w:World) (b m:Nat) (v:Value) (r:Int × Int × List Nd) (e:Ending) (w':World):Prop :=
 (e=.returned (.tuple #[.int .i64 r.1,.int .i64 r.2.1])∨(r.2.1≠0∧e=fltP r.2.1 Sx.tz))∧After w b m v r.2.2 w'
set_option maxRecDepth 100000 in
set_option maxHeartbeats 2000000 in
theorem mutual_any (hR:Rdr w p b gt cap len i n d) (hT:Tb w b m v t) (x y:Int) (hx:Fm.has t x=true) (hy:Fm.has t y=true) :
 Calls Tryz.prog 181 #[.pointer (some ⟨p,0,none⟩),.int .i64 x,.int .i64 y] w fun e w'=>Joined w b m v (Sx.mutu t x y) e w':=by
 have hix:=Sx.has_i64 hT.ok hx
 have hiy:=Sx.has_i64 hT.ok hy
 have R1:=Sx.join_res hT.ok (k:=5) (by omega) hx hy
 have R2:=fun h1=>Sx.join_res (t:=(Fm.put t ⟨5,⟨#[]⟩,x,y⟩).2.2) h1 (k:=5) (by omega) (R1.has hy) (R1.has hx)
 have K1:=show Hid (Calls Tryz.prog 69 #[.pointer (some ⟨b,0,none⟩),.int .i64 x,.int .i64 y] w fun e w'=>e=.returned (.tuple #[.int .i64 (Fm.put t (joinN 5 x y)).1,.int .i64 (Fm.put t (joinN 5 x y)).2.1])∧After w b m v (Fm.put t (joinN 5 x y)).2.2 w'∧w'.cell? ⟨p,0,none⟩=some (.pointer (some ⟨b,0,none⟩))) from (imp_any w hT x y hix hiy).mono fun e w' h=>⟨h.1,h.2,(hR.after hT h.2.kp).c0⟩
 have K2:=show Hid (∀ w1,After w b m v (Fm.put t (joinN 5 x y)).2.2 w1→Calls Tryz.prog 69 #[.pointer (some ⟨b,0,none⟩),.int .i64 y,.int .i64 x] w1 fun e w'=>e=.returned (.tuple #[.int .i64 (Fm.put (Fm.put t (joinN 5 x y)).2.2 (joinN 5 y x)).1,.int .i64 (Fm.put (Fm.put t (joinN 5 x y)).2.2 (joinN 5 y x)).2.1])∧After w b m v (Fm.put (Fm.put t (joinN 5 x y)).2.2 (joinN 5 y x)).2.2 w'∧w'.cell? ⟨p,0,none⟩=some (.pointer (some ⟨b,0,none⟩))) from fun w1 ha=>by
  obtain ⟨v1,h1,h2,h3⟩:=ha
  exact (imp_any w1 h1 y x hiy hix).mono fun e w' h=>⟨h.1,After.trans h2 h3 h.2,(hR.after hT (After.trans h2 h3 h.2).kp).c0⟩
 have K3:=show Hid (∀ w1,After w b m v (Fm.put (Fm.put t (joinN 5 x y)).2.2 (joinN 5 y x)).2.2 w1→Calls Tryz.prog 67 #[.pointer (some ⟨b,0,none⟩),.int .i64 (Fm.put t (joinN 5 x y)).1,.int .i64 (Fm.put (Fm.put t (joinN 5 x y)).2.2 (joinN 5 y x)).1] w1 fun e w'=>e=.returned (.tuple #[.int .i64 (Fm.put (Fm.put (Fm.put t (joinN 5 x y)).2.2 (joinN 5 y x)).2.2 (joinN 3 (Fm.put t (joinN 5 x y)).1 (Fm.put (Fm.put t (joinN 5 x y)).2.2 (joinN 5 y x)).1)).1,.int .i64 (Fm.put (Fm.put (Fm.put t (joinN 5 x y)).2.2 (joinN 5 y x)).2.2 (joinN 3 (Fm.put t (joinN 5 x y)).1 (Fm.put (Fm.put t (joinN 5 x y)).2.2 (joinN 5 y x)).1)).2.1])∧After w b m v (Fm.put (Fm.put (Fm.put t (joinN 5 x y)).2.2 (joinN 5 y x)).2.2 (joinN 3 (Fm.put t (joinN 5 x y)).1 (Fm.put (Fm.put t (joinN 5 x y)).2.2 (joinN 5 y x)).1)).2.2 w') from fun w1 ha=>by
  obtain ⟨v1,h1,h2,h3⟩:=ha
  exact (and_any w1 h1 _ _ R1.i64 (R2 R1.ok).i64).mono fun e w' h=>⟨h.1,After.trans h2 h3 h.2⟩
 have HM:=show Hid (Sx.mutu t x y=if (Fm.put t (joinN 5 x y)).2.1=0 then (if (Fm.put (Fm.put t (joinN 5 x y)).2.2 (joinN 5 y x)).2.1=0 then Fm.put (Fm.put (Fm.put t (joinN 5 x y)).2.2 (joinN 5 y x)).2.2 (joinN 3 (Fm.put t (joinN 5 x y)).1 (Fm.put (Fm.put t (joinN 5 x y)).2.2 (joinN 5 y x)).1) else Fm.put (Fm.put t (joinN 5 x y)).2.2 (joinN 5 y x)) else Fm.put t (joinN 5 x y)) from rfl
 have hp:=hR.c0
 clear hix hiy R1 R2 hx hy hR hT
 generalize Fm.put (Fm.put (Fm.put t (joinN 5 x y)).2.2 (joinN 5 y x)).2.2 (joinN 3 (Fm.put t (joinN 5 x y)).1 (Fm.put (Fm.put t (joinN 5 x y)).2.2 (joinN 5 y x)).1)=s3 at *
 generalize Fm.put (Fm.put t (joinN 5 x y)).2.2 (joinN 5 y x)=s2 at *
 generalize Fm.put t (joinN 5 x y)=s1 at *
 generalize Sx.mutu t x y=rr at *
 obtain ⟨a1,a2,a3⟩:=s1
 obtain ⟨b1,b2,b3⟩:=s2
 obtain ⟨c1,c2,c3⟩:=s3
 simp only at *
 go_enter Tryz.func181,Tryz.ntmps181
 go_wp2_with fail
 refine K1.out.mono ?_
 rintro e w1 ⟨rfl,ha1,hp1⟩
 have HA1:=show Hid _ from ha1
 clear ha1 K1
 by_cases h0:a2=0
 ·subst h0
  have hrr:=HM.out
  rw [if_pos rfl] at hrr
  have HM2:=show Hid _ from hrr
  clear hrr HM
  go_wp2_with fail
  refine (sure_ok w1 a1).mono ?_
  rintro e w2 ⟨rfl,hw2⟩
  subst w2
  go_wp2_with fail
  refine (K2.out w1 HA1.out).mono ?_
  rintro e w2 ⟨rfl,ha2,hp2⟩
  have HA2:=show Hid _ from ha2
  clear ha2 K2
  by_cases h1:b2=0
  ·subst h1
   have hrr:=HM2.out
   rw [if_pos rfl] at hrr
   subst hrr
   clear HM2
   go_wp2_with fail
   refine (sure_ok w2 b1).mono ?_
   rintro e w3 ⟨rfl,hw3⟩
   subst w3
   go_wp2_with fail
   refine (K3.out w2 HA2.out).mono ?_
   rintro e w3 ⟨rfl,ha3⟩
   have HA3:=show Hid _ from ha3
   clear ha3 K3
   go_wp2_with fail
   go_ret2
   exact ⟨Or.inl rfl,HA3.out⟩
  ·have H0:=show Hid _ from h1
   have hrr:=HM2.out
   rw [if_neg h1] at hrr
   subst hrr
   clear h1 HM2
   go_wp2_with fail
   refine (sure_bad w2 b1 b2 H0.out).mono ?_
   rintro e w3 ⟨rfl,hw3⟩
   subst w3
   unfold fltP
   go_wp2_with fail
   exact ⟨rfl,Or.inr ⟨H0.out,rfl⟩,HA2.out⟩
 ·have H0:=show Hid _ from h0
  have hrr:=HM.out
  rw [if_neg h0] at hrr
  subst hrr
  clear h0 HM
  go_wp2_with fail
  refine (sure_bad w1 a1 a2 H0.out).mono ?_
  rintro e w2 ⟨rfl,hw2⟩
  subst w2
  unfold fltP
  go_wp2_with fail
  exact ⟨rfl,Or.inr ⟨H0.out,rfl⟩,HA1.out⟩
theorem how_any (p b:Nat) (k:Int) (hk:k=0∨k=3∨k=4∨k=5) :
 ∃ F rec,howV p b k=.func (.func F) #[.pointer (some ⟨rec,0,none⟩)] #[]∧(∀ (args:Array Value) (w':World),(callFunc F args).run Tryz.prog w'=.ok (.enter F args) w') ∧
  ∀ (w:World) (m gt:Nat) (cap:Cp) (len i n d:Nat) (v:Value) (t:List Nd),Rdr w p b gt cap len i n d→Tb w b m v t→∀ x y:Int,Fm.has t x=true→Fm.has t y=true →
   Calls Tryz.prog F #[.pointer (some ⟨rec,0,none⟩),.int .i64 x,.int .i64 y] w fun e w'=>Joined w b m v (if k=0 then Sx.mutu t x y else Fm.put t ⟨k,⟨#[]⟩,x,y⟩) e w':=by
 rcases hk with rfl | rfl | rfl | rfl
 ·exact ⟨_,p,rfl,fun _ _=>by simp [go_sem],fun w m gt cap len i n d v t hR hT x y hx hy=>mutual_any w hR hT x y hx hy⟩
 ·exact ⟨_,b,rfl,fun _ _=>by simp [go_sem],fun w m gt cap len i n d v t hR hT x y hx hy=>(and_any w hT x y (Sx.has_i64 hT.ok hx) (Sx.has_i64 hT.ok hy)).mono fun e w' h=>⟨Or.inl h.1,h.2⟩⟩
 ·exact ⟨_,b,rfl,fun _ _=>by simp [go_sem],fun w m gt cap len i n d v t hR hT x y hx hy=>(or_any w hT x y (Sx.has_i64 hT.ok hx) (Sx.has_i64 hT.ok hy)).mono fun e w' h=>⟨Or.inl h.1,h.2⟩⟩
 ·exact ⟨_,b,rfl,fun _ _=>by simp [go_sem],fun w m gt cap len i n d v t hR hT x y hx hy=>(imp_any w hT x y (Sx.has_i64 hT.ok hx) (Sx.has_i64 hT.ok hy)).mono fun e w' h=>⟨Or.inl h.1,h.2⟩⟩
def PC (p b:Nat) (a:T) (F:Nat) (cp:Array Value):Prop :=
 ∀ (w:World) (m gt:Nat) (cap:Cp) (len i n d:Nat) (v:Value) (t:List Nd),Pts w p b a (.func (.func F) #[] cp)→Rdr w p b gt cap len i n d→Tb w b m v t→Calls Tryz.prog F cp w fun e w'=>Putted w b m v (Sx.pt a t) e w'
theorem res_zero {t:List Nd} {r:Int × Int × List Nd} (h:Sx.Res t r) (h0:r.2.1=0):Fm.has r.2.2 r.1=true:=by
 rcases h.out with ⟨_,h1⟩ | ⟨h1,_⟩
 ·exact h1
 ·omega
set_option maxRecDepth 100000 in
set_option maxHeartbeats 2000000 in
theorem join1_any {a a2:T} {Fa Fb:Nat} {cpa cpb:Array Value} (k:Int) (hk:k=0∨k=3∨k=4∨k=5) (wa:Sx.Wf a) (wb:Sx.Wf a2) (IA:PC p b a Fa cpa) (IB:PC p b a2 Fb cpb)
 (hB:Box w g (.func (.func Fa) #[] cpa) 205) (hB2:Box w g2 (.func (.func Fb) #[] cpb) 205) (hB3:Box w g3 (howV p b k) 248)
 (hPa:Pts w p b a (.func (.func Fa) #[] cpa)) (hPb:Pts w p b a2 (.func (.func Fb) #[] cpb)) (hR:Rdr w p b gt cap len i n d) (hT:Tb w b m v t) :
 Calls Tryz.prog 215 #[ptrV g,ptrV g2,ptrV g3] w fun e w'=>Putted w b m v (Sx.thn (Sx.pt a t) fun x t=>Sx.thn (Sx.pt a2 t) fun y t=>if k=0 then Sx.mutu t x y else Fm.put t ⟨k,⟨#[]⟩,x,y⟩) e w':=by
 obtain ⟨Fh,rec,hhv,hcfh,KH⟩:=how_any p b k hk
 rw [hhv] at hB3
 have hcfa:=hPa.enters
 have hcfb:=hPb.enters
 have ra:=Sx.pt_res a hT.ok wa
 have rb:=fun h=>Sx.pt_res a2 (t:=(Sx.pt a t).2.2) h wb
 have K1:=show Hid (Calls Tryz.prog Fa cpa w fun e w'=>Putted w b m v (Sx.pt a t) e w') from IA w m gt cap len i n d v t hPa hR hT
 have K2:=show Hid (∀ w1,After w b m v (Sx.pt a t).2.2 w1→Calls Tryz.prog Fb cpb w1 fun e w'=>Putted w b m v (Sx.pt a2 (Sx.pt a t).2.2) e w') from fun w1 ha=>by
  obtain ⟨v1,h1,h2,h3⟩:=ha
  refine (IB w1 m gt cap len i n d v1 _ (hPb.after hT h3) (hR.after hT h3) h1).mono fun e w' h => ?_
  rcases h with ⟨x1,x2,x3⟩ | ⟨x1,x2,x3⟩
  ·exact Or.inl ⟨x1,x2,After.trans h2 h3 x3⟩
  ·exact Or.inr ⟨x1,x2,After.trans h2 h3 x3⟩
 have K3:=show Hid (∀ w1,(Sx.pt a t).2.1=0→(Sx.pt a2 (Sx.pt a t).2.2).2.1=0→After w b m v (Sx.pt a2 (Sx.pt a t).2.2).2.2 w1→Calls Tryz.prog Fh #[.pointer (some ⟨rec,0,none⟩),.int .i64 (Sx.pt a t).1,.int .i64 (Sx.pt a2 (Sx.pt a t).2.2).1] w1 fun e w'=>Joined w b m v (if k=0 then Sx.mutu (Sx.pt a2 (Sx.pt a t).2.2).2.2 (Sx.pt a t).1 (Sx.pt a2 (Sx.pt a t).2.2).1 else Fm.put (Sx.pt a2 (Sx.pt a t).2.2).2.2 ⟨k,⟨#[]⟩,(Sx.pt a t).1,(Sx.pt a2 (Sx.pt a t).2.2).1⟩) e w') from fun w1 e1 e2 ha=>by
  obtain ⟨v1,h1,h2,h3⟩:=ha
  exact (KH w1 m gt cap len i n d v1 _ (hR.after hT h3) h1 _ _ ((rb ra.ok).has (res_zero ra e1)) (res_zero (rb ra.ok) e2)).mono fun e w' h=>⟨h.1,After.trans h2 h3 h.2⟩
 have HC:=show Hid (∀ (t':List Nd) w1,After w b m v t' w1→w1.cell? ⟨g2,0,none⟩=some (.func (.func Fb) #[] cpb)∧w1.cell? ⟨g3,0,none⟩=some (.func (.func Fh) #[.pointer (some ⟨rec,0,none⟩)] #[])) from fun _ w1 ha1=>⟨(hB2.after (Or.inr (Or.inr (Or.inl rfl))) hT ha1.kp).c0,(hB3.after (Or.inr (Or.inr (Or.inr rfl))) hT ha1.kp).c0⟩
 have HM:=show Hid ((Sx.thn (Sx.pt a t) fun x t=>Sx.thn (Sx.pt a2 t) fun y t=>if k=0 then Sx.mutu t x y else Fm.put t ⟨k,⟨#[]⟩,x,y⟩)=if (Sx.pt a t).2.1=0 then (if (Sx.pt a2 (Sx.pt a t).2.2).2.1=0 then (if k=0 then Sx.mutu (Sx.pt a2 (Sx.pt a t).2.2).2.2 (Sx.pt a t).1 (Sx.pt a2 (Sx.pt a t).2.2).1 else Fm.put (Sx.pt a2 (Sx.pt a t).2.2).2.2 ⟨k,⟨#[]⟩,(Sx.pt a t).1,(Sx.pt a2 (Sx.pt a t).2.2).1⟩) else Sx.pt a2 (Sx.pt a t).2.2) else Sx.pt a t) from rfl
 have c0:=hB.c0
 clear ra rb IA IB hB hB2 hB3 hPa hPb hR hT wa wb hhv KH
 generalize (if k=0 then Sx.mutu (Sx.pt a2 (Sx.pt a t).2.2).2.2 (Sx.pt a t).1 (Sx.pt a2 (Sx.pt a t).2.2).1 else Fm.put (Sx.pt a2 (Sx.pt a t).2.2).2.2 ⟨k,⟨#[]⟩,(Sx.pt a t).1,(Sx.pt a2 (Sx.pt a t).2.2).1⟩)=s3 at *
 generalize (Sx.thn (Sx.pt a t) fun x t=>Sx.thn (Sx.pt a2 t) fun y t=>if k=0 then Sx.mutu t x y else Fm.put t ⟨k,⟨#[]⟩,x,y⟩)=rr at *
 generalize Sx.pt a2 (Sx.pt a t).2.2=s2 at *
 generalize Sx.pt a t=s1 at *
 obtain ⟨a1,a2',a3⟩:=s1
 obtain ⟨b1,b2,b3⟩:=s2
 obtain ⟨c1,c2,c3⟩:=s3
 simp only at *
 unfold ptrV at *
 go_enter Tryz.func215,Tryz.ntmps215
 go_wp2_with fail
 refine K1.out.mono ?_
 rintro e w1 (⟨h0,rfl,ha1⟩ | ⟨h0,rfl,ha1⟩)
 ·simp only at h0
  subst h0
  have hrr:=HM.out
  rw [if_pos rfl] at hrr
  have HM2:=show Hid _ from hrr
  have HA1:=show Hid (After w b m v a3 w1) from ha1
  have d2:=(HC.out _ w1 ha1).1
  clear hrr HM ha1 K1
  go_wp2_with fail
  refine (K2.out w1 HA1.out).mono ?_
  rintro e w2 (⟨h0,rfl,ha2⟩ | ⟨h0,rfl,ha2⟩)
  ·simp only at h0
   subst h0
   have hrr:=HM2.out
   rw [if_pos rfl] at hrr
   subst hrr
   have HA2:=show Hid (After w b m v b3 w2) from ha2
   have d3:=(HC.out _ w2 ha2).2
   clear HM2 ha2 K2
   go_wp2_with fail
   refine (K3.out w2 (by simp) (by simp) HA2.out).mono ?_
   rintro e w3 ⟨he,ha3⟩
   have HA3:=show Hid (After w b m v c3 w3) from ha3
   clear ha3 K3
   rcases he with rfl | ⟨hne,rfl⟩
   ·by_cases h1:c2=0
    ·subst h1
     go_wp2_with fail
     refine (sure_ok w3 c1).mono ?_
     rintro e w4 ⟨rfl,hw4⟩
     subst w4
     go_wp2_with fail
     go_ret
     exact putted_ok rfl rfl HA3.out
    ·have H0:=show Hid _ from h1
     clear h1
     go_wp2_with fail
     refine (sure_bad w3 c1 c2 H0.out).mono ?_
     rintro e w4 ⟨rfl,hw4⟩
     subst w4
     unfold fltP
     go_wp2_with fail
     exact ⟨rfl,putted_bad H0.out rfl HA3.out⟩
   ·have H0:=show Hid _ from hne
    clear hne
    unfold fltP
    go_wp2_with fail
    exact ⟨rfl,putted_bad H0.out rfl HA3.out⟩
  ·have hrr:=HM2.out
   rw [if_neg h0] at hrr
   subst hrr
   have H0:=show Hid _ from (⟨h0,ha2⟩:_∧_)
   clear HM2 ha2 K2 h0
   unfold fltP
   go_wp2_with fail
   exact ⟨rfl,putted_bad H0.out.1 rfl H0.out.2⟩
 ·have hrr:=HM.out
  rw [if_neg h0] at hrr
  subst hrr
  have H0:=show Hid _ from (⟨h0,ha1⟩:_∧_)
  clear HM ha1 K1 h0
  unfold fltP
  go_wp2_with fail
  exact ⟨rfl,putted_bad H0.out.1 rfl H0.out.2⟩
end
theorem Putted.undrew {w w':World} {b m:Nat} {v:Value} {r:Int × Int × List Nd} {e:Ending} (h:Putted w b m v r e w'):Putted w.drew b m v r e w':=by
 rcases h with ⟨h1,h2,h3⟩ | ⟨h1,h2,h3⟩
 ·obtain ⟨v',x1,x2,x3⟩:=h3
  exact Or.inl ⟨h1,h2,v',x1,x2,⟨x3.os,x3.tape,x3.output,x3.size,x3.block⟩⟩
 ·obtain ⟨v',x1,x2,x3⟩:=h3
  exact Or.inr ⟨h1,h2,v',x1,x2,⟨x3.os,x3.tape,x3.output,x3.size,x3.block⟩⟩
theorem Pts.drew {w:World} {p b:Nat} {a:T} {c:Value} (h:Pts w p b a c):Pts w.drew p b a c:=h.later (Below.refl _ _).drew
theorem pts_any {p b:Nat}:∀ (a:T),Sx.Wf a→∀ (F:Nat) (cp:Array Value),PC p b a F cp
 | .bot,_,F,cp=>fun w m gt cap len i n d v t hP hR hT=>by
  obtain ⟨g,h,hb⟩:=hP
  cases h
  exact named1_any w hb hR hT
 | .top,_,F,cp=>fun w m gt cap len i n d v t hP hR hT=>by
  obtain ⟨g,h,hb⟩:=hP
  cases h
  exact named2_any w hb hR hT
 | .atom s,hw,F,cp=>fun w m gt cap len i n d v t hP hR hT=>by
  obtain ⟨g,g2,h,hb,hb2⟩:=hP
  cases h
  exact named3_any w hb s (by have:=Sx.word_len hw;omega) hb2 hR hT
 | .neg a,hw,F,cp=>fun w m gt cap len i n d v t hP hR hT=>by
  obtain ⟨g,g2,ca,h,hb,hb2,hp⟩:=hP
  cases h
  obtain ⟨Fa,cpa,rfl⟩:=hp.shape
  exact single1_any w hb hb2 hp hR hT (Sx.pt_res a hT.ok hw) (pts_any a hw Fa cpa w.drew m gt cap len i n d v t hp.drew (hR.later (Below.refl _ _).drew) hT.drew)
 | .bin k a a2,hw,F,cp=>fun w m gt cap len i n d v t hP hR hT=>by
  obtain ⟨g,g2,g3,ca,ca2,h,hb,hb2,hb3,hp,hp2⟩:=hP
  cases h
  obtain ⟨Fa,cpa,rfl⟩:=hp.shape
  obtain ⟨Fb,cpb,rfl⟩:=hp2.shape
  have hk0:k≠0:=by have:=hw.1;omega
  have:=join1_any w k (Or.inr hw.1) hw.2.1 hw.2.2 (pts_any a hw.2.1 Fa cpa) (pts_any a2 hw.2.2 Fb cpb) hb hb2 hb3 hp hp2 hR hT
  simp only [if_neg hk0] at this
  exact this
 | .iff a a2,hw,F,cp=>fun w m gt cap len i n d v t hP hR hT=>by
  obtain ⟨g,g2,g3,ca,ca2,h,hb,hb2,hb3,hp,hp2⟩:=hP
  cases h
  obtain ⟨Fa,cpa,rfl⟩:=hp.shape
  obtain ⟨Fb,cpb,rfl⟩:=hp2.shape
  exact join1_any w 0 (Or.inl rfl) hw.1 hw.2 (pts_any a hw.1 Fa cpa) (pts_any a2 hw.2 Fb cpb) hb hb2 hb3 hp hp2 hR hT
end Go.Proofs.YtkmmlimekachbaaGreatDoor
/-
  The deferred closure of read: idle, or it catches a fault. No condition.
-/
namespace Go.Proofs.YtkmmlimekachbaaGreatDoor
open Go.RowKit Go.Maps
open Fm (Nd)
open Sx (Tn T Lv)
def Fl (w:World) (g:Nat) (e l c o:Int):Prop:=w.heap[g]?=some (.cells #[.int .i64 e,.int .i64 l,.int .i64 c,.int .i64 o] 52 (0,0))
section
variable {w w':World} {g:Nat} {e l c o:Int}
theorem Fl.c0 (h:Fl w g e l c o):w.cell? ⟨g,0,none⟩=some (.int .i64 e):=by rw [cell_of_row w g 0 _ _ _ h];rfl
theorem Fl.c1 (h:Fl w g e l c o):w.cell? ⟨g,1,none⟩=some (.int .i64 l):=by rw [cell_of_row w g 1 _ _ _ h];rfl
theorem Fl.c2 (h:Fl w g e l c o):w.cell? ⟨g,2,none⟩=some (.int .i64 c):=by rw [cell_of_row w g 2 _ _ _ h];rfl
theorem Fl.c3 (h:Fl w g e l c o):w.cell? ⟨g,3,none⟩=some (.int .i64 o):=by rw [cell_of_row w g 3 _ _ _ h];rfl
theorem Fl.fr (h:Fl w g e l c o) (j:Nat):w.frozen? ⟨g,j,none⟩=false:=frozen_of_row w g j _ _ h
theorem Fl.s4 (h:Fl w g e l c o) (x y z u:Int):Fl ((((w.setCell ⟨g,0,none⟩ (.int .i64 x)).setCell ⟨g,1,none⟩ (.int .i64 y)).setCell ⟨g,2,none⟩ (.int .i64 z)).setCell ⟨g,3,none⟩ (.int .i64 u)) g x y z u :=
 heap_setCell_same _ g 3 _ _ _ (heap_setCell_same _ g 2 _ _ _ (heap_setCell_same _ g 1 _ _ _ (heap_setCell_same w g 0 _ _ _ h)))
theorem Fl.lt (h:Fl w g e l c o):g<w.heap.size:=lt_of_block h
end
theorem Box.set {w:World} {g:Nat} {x:Value} {ty:TypeId} (h:Box w g x ty) (y:Value):Box (w.setCell ⟨g,0,none⟩ y) g y ty:=heap_setCell_same w g 0 _ _ _ h
theorem neq_nil (w:World):(binOp BinOp.neq 20 .nilIface .nilIface).run Tryz.prog w=.ok (.bool false) w:=by kernel_rfl
theorem neq_flt (w:World) (e l c o:Int):(binOp BinOp.neq 20 (.iface 52 (.agg #[.int .i64 e,.int .i64 l,.int .i64 c,.int .i64 o])) .nilIface).run Tryz.prog w=.ok (.bool true) w:=by kernel_rfl
theorem assert_flt (w:World) (e l c o:Int):(Instr.typeAssert (.iface 52 (.agg #[.int .i64 e,.int .i64 l,.int .i64 c,.int .i64 o])) 20 52 true).run Tryz.prog w=.ok (.tuple #[.agg #[.int .i64 e,.int .i64 l,.int .i64 c,.int .i64 o],.bool true]) w:=by kernel_rfl
set_option maxHeartbeats 400000 in
theorem catch_idle (a0 a1 a2 a3 a4:Value) (w:World) :
 CallsD Tryz.prog 143 #[a0,a1,a2,a3,a4] .returning w fun e u' w'=>e=.returned (.tuple #[])∧u'=.returning∧w'=w:=by
 have hn:=neq_nil
 refine callsD_of_wpS Tryz.func143 rfl fun c₀ cs hu => ?_
 simp only [Tryz.ntmps143,List.size_toArray,List.length_cons,List.length_nil,Nat.reduceAdd,Nat.reduceSub,Array.replicate_succ,Array.replicate_zero,List.push_toArray,List.append_toArray,List.nil_append,List.cons_append]
 apply wpS_seq
 apply wpS_region
 simp [wpOpsS,go_sem,recoverD,hu,Exit.thenS]
 refine wpS_of_wp (Code.wp_mono (Q:=fun e a w'=>e=.normal∧a.defers=[]∧w'=w) ?_ ?_)
 ·rintro e a w' ⟨rfl,h1,rfl⟩
  cases c₀
  simp_all [bodyPostS,results,Tryz.results143]
 ·clear hu c₀ cs
  go_wp2_with fail
def Caught (w:World) (b m:Nat) (v:Value) (t:List Nd) (g2 g3 g4:Nat) (e l c o:Int) (w':World):Prop :=
 Box w' g2 (.int .i64 0) 3∧Box w' g3 (.int .i64 0) 3∧Fl w' g4 e l c o∧∃ v',Tb w' b m v' t∧Lies w.heap.size v v'∧Kp (fun k=>Ft b m v k∨k=g2∨k=g3∨k=g4) w w'
theorem Box.nft {w:World} {g b m:Nat} {x:Value} {v:Value} {t:List Nd} (h:Box w g x 3) (hT:Tb w b m v t):¬ Ft b m v g:=by
 unfold Box at h
 rintro (rfl | rfl | e)
 ·rw [hT.tab] at h;simp at h
 ·obtain ⟨D,⟨es,cl,hm,_⟩,_⟩:=hT.map
  rw [h] at hm;cases hm
 ·obtain ⟨_,cur,hh⟩:=hT.row.lt g e
  rw [h] at hh;simp at hh
theorem Fl.nft {w:World} {g b m:Nat} {e l c o:Int} {v:Value} {t:List Nd} (h:Fl w g e l c o) (hT:Tb w b m v t):¬ Ft b m v g:=by
 unfold Fl at h
 rintro (rfl | rfl | e)
 ·rw [hT.tab] at h;simp at h
 ·obtain ⟨D,⟨es,cl,hm,_⟩,_⟩:=hT.map
  rw [h] at hm;cases hm
 ·obtain ⟨_,cur,hh⟩:=hT.row.lt g e
  rw [h] at hh;simp at hh
theorem Box.tab {w:World} {g b m:Nat} {v:Value} {t:List Nd} {x:Value} (h:Box w g x 29) (hT:Tb w b m v t):¬ Ft b m v g:=by
 unfold Box at h
 rintro (rfl | rfl | e)
 ·rw [hT.tab] at h;simp at h
 ·obtain ⟨D,⟨es,cl,hm,_⟩,_⟩:=hT.map
  rw [h] at hm;cases hm
 ·obtain ⟨_,cur,hh⟩:=hT.row.lt g e
  rw [h] at hh;simp at hh
def setF (w:World) (g2 g3 g4:Nat) (e l c o:Int):World :=
 (((((w.setCell ⟨g2,0,none⟩ (.int .i64 0)).setCell ⟨g3,0,none⟩ (.int .i64 0)).setCell ⟨g4,0,none⟩ (.int .i64 e)).setCell ⟨g4,1,none⟩ (.int .i64 l)).setCell ⟨g4,2,none⟩ (.int .i64 c)).setCell ⟨g4,3,none⟩ (.int .i64 o)
theorem Box.other {w:World} {g g':Nat} {x:Value} {ty:TypeId} (h:Box w g x ty) (hne:g≠g') (j:Nat) (y:Value):Box (w.setCell ⟨g',j,none⟩ y) g x ty:=(Below.heap_setCell _ _ _ _ hne).trans h
theorem Fl.other {w:World} {g g':Nat} {e l c o:Int} (h:Fl w g e l c o) (hne:g≠g') (j:Nat) (y:Value):Fl (w.setCell ⟨g',j,none⟩ y) g e l c o:=(Below.heap_setCell _ _ _ _ hne).trans h
theorem setF_other (w:World) (g2 g3 g4:Nat) (e l c o:Int) {k:Nat} (h2:k≠g2) (h3:k≠g3) (h4:k≠g4):(setF w g2 g3 g4 e l c o).heap[k]?=w.heap[k]?:=by
 unfold setF
 rw [Below.heap_setCell _ _ _ _ h4,Below.heap_setCell _ _ _ _ h4,Below.heap_setCell _ _ _ _ h4,Below.heap_setCell _ _ _ _ h4,Below.heap_setCell _ _ _ _ h3,Below.heap_setCell _ _ _ _ h2]
theorem Kp.setS {S:Nat→Prop} {a b:World} (h:Kp S a b) {g:Nat} (hg:S g) (j:Nat) (x:Value):Kp S a (b.setCell ⟨g,j,none⟩ x) :=
 ⟨h.os,h.tape,h.output,by simpa using h.size,fun k hk hn=>(Below.heap_setCell _ _ _ _ (fun e=>hn (by subst e;exact hg))).trans (h.block k hk hn)⟩
theorem setF_kp {S:Nat→Prop} {a w:World} (h:Kp S a w) {g2 g3 g4:Nat} (h2:S g2) (h3:S g3) (h4:S g4) (e l c o:Int):Kp S a (setF w g2 g3 g4 e l c o) :=
 (((((h.setS h2 _ _).setS h3 _ _).setS h4 _ _).setS h4 _ _).setS h4 _ _).setS h4 _ _
theorem caught_of {w w1:World} {b m g2 g3 g4:Nat} {v:Value} {t:List Nd} {x y e0 l0 c0 o0 e l c o:Int} (ha:After w b m v t w1) (h2:Box w1 g2 (.int .i64 x) 3) (h3:Box w1 g3 (.int .i64 y) 3) (h4:Fl w1 g4 e0 l0 c0 o0)
 (n23:g2≠g3) (n24:g2≠g4) (n34:g3≠g4):Caught w b m v t g2 g3 g4 e l c o (setF w1 g2 g3 g4 e l c o).drew:=by
 obtain ⟨v',hT,hL,hK⟩:=ha
 have hf2:Box (setF w1 g2 g3 g4 e l c o) g2 (.int .i64 0) 3:=by
  unfold setF
  exact (((((h2.set _).other n23 _ _).other n24 _ _).other n24 _ _).other n24 _ _).other n24 _ _
 have hf3:Box (setF w1 g2 g3 g4 e l c o) g3 (.int .i64 0) 3:=by
  unfold setF
  exact ((((Box.set (h3.other (Ne.symm n23) 0 (.int .i64 0)) _).other n34 _ _).other n34 _ _).other n34 _ _).other n34 _ _
 have hf4:Fl (setF w1 g2 g3 g4 e l c o) g4 e l c o:=by
  unfold setF
  exact ((h4.other (Ne.symm n24) 0 (.int .i64 0)).other (Ne.symm n34) 0 (.int .i64 0)).s4 e l c o
 have hT':Tb (setF w1 g2 g3 g4 e l c o) b m v' t:=hT.keep fun k hk=>setF_other _ _ _ _ _ _ _ _ (fun h=>h2.nft hT (h ▸ hk)) (fun h=>h3.nft hT (h ▸ hk)) (fun h=>h4.nft hT (h ▸ hk))
 have hK2:Kp (fun k=>Ft b m v k∨k=g2∨k=g3∨k=g4) w w1:=⟨hK.os,hK.tape,hK.output,hK.size,fun k hk hs=>hK.block k hk fun h=>hs (Or.inl h)⟩
 have hK3:=setF_kp hK2 (Or.inr (Or.inl rfl)) (Or.inr (Or.inr (Or.inl rfl))) (Or.inr (Or.inr (Or.inr rfl))) e l c o
 generalize setF w1 g2 g3 g4 e l c o=ws at *
 exact ⟨hf2,hf3,hf4,v',hT'.drew,hL,hK3.drew⟩
set_option maxRecDepth 100000 in
set_option maxHeartbeats 2000000 in
theorem catch_bad (e l c o:Int) (w:World) {b m g0 g1 g2 g3 g4:Nat} {v:Value} {t t':List Nd} {x y e0 l0 c0 o0:Int} (hT:Tb w b m v t') (ht:∃ u,t'=t ++ u) (h0:Box w g0 (ptrV b) 29) (h1:Box w g1 (.int .i64 (t.length:Int)) 3)
 (h2:Box w g2 (.int .i64 x) 3) (h3:Box w g3 (.int .i64 y) 3) (h4:Fl w g4 e0 l0 c0 o0) (h23:g2≠g3) :
 CallsD Tryz.prog 143 #[.pointer (some ⟨g0,0,none⟩),.pointer (some ⟨g1,0,none⟩),.pointer (some ⟨g2,0,none⟩),.pointer (some ⟨g3,0,none⟩),.pointer (some ⟨g4,0,none⟩)] (.panicking [{ v:=.iface 52 (.agg #[.int .i64 e,.int .i64 l,.int .i64 c,.int .i64 o]),recovered:=false }]) w fun en u' w' =>
  en=.returned (.tuple #[])∧u'=.panicking [{ v:=.iface 52 (.agg #[.int .i64 e,.int .i64 l,.int .i64 c,.int .i64 o]),recovered:=true }]∧Caught w b m v t g2 g3 g4 e l c o w':=by
 have hn:=neq_flt
 have hta:=assert_flt
 have hcr:cutR t' (t.length:Int)=((0:Int),t):=by
  obtain ⟨u,rfl⟩:=ht
  unfold cutR
  rw [if_pos (by simp;omega)]
  simp
 have hwa:Below w.heap.size w (w.alloc (Obj.cells #[.int .i64 e,.int .i64 l,.int .i64 c,.int .i64 o] 52)):=below_alloc w _
 have K:=show Hid (Calls Tryz.prog 125 #[.pointer (some ⟨b,0,none⟩),.int .i64 (t.length:Int)] (w.alloc (Obj.cells #[.int .i64 e,.int .i64 l,.int .i64 c,.int .i64 o] 52)) fun e' w'=>e'=.returned (.int .i64 0)∧After w b m v t w'∧Fl w' w.heap.size e l c o∧Box w' g2 (.int .i64 x) 3∧Box w' g3 (.int .i64 y) 3∧Fl w' g4 e0 l0 c0 o0) from by
  refine (cut_any _ (hT.later hwa) (t.length:Int)).mono fun e' w' h => ?_
  rw [hcr] at h
  have hft:¬ Ft b m v w.heap.size:=fun hf=>by have:=hT.foot _ hf;omega
  have hk:=h.2.kp
  refine ⟨h.1,h.2.from_below hwa,?_,?_,?_,?_⟩
  ·exact (hk.block _ (by simp) hft).trans (heap_alloc_new _ _)
  ·exact (hk.block _ (by have:=h2.lt;simp;omega) (h2.nft hT)).trans ((hwa.block _ h2.lt).trans h2)
  ·exact (hk.block _ (by have:=h3.lt;simp;omega) (h3.nft hT)).trans ((hwa.block _ h3.lt).trans h3)
  ·exact (hk.block _ (by have:=h4.lt;simp;omega) (h4.nft hT)).trans ((hwa.block _ h4.lt).trans h4)
 have HD:=show Hid (g2≠g3∧g2≠g4∧g3≠g4∧g2<w.heap.size∧g3<w.heap.size∧g4<w.heap.size∧(¬ Ft b m v g2∧¬ Ft b m v g3∧¬ Ft b m v g4)) from
  ⟨h23,fun e=>by subst e;unfold Box at h2;unfold Fl at h4;rw [h2] at h4;simp at h4,fun e=>by subst e;unfold Box at h3;unfold Fl at h4;rw [h3] at h4;simp at h4,h2.lt,h3.lt,h4.lt,h2.nft hT,h3.nft hT,h4.nft hT⟩
 have k0:=(show Box (w.alloc (Obj.cells #[.int .i64 e,.int .i64 l,.int .i64 c,.int .i64 o] 52)) g0 (ptrV b) 29 from (hwa.block _ h0.lt).trans h0).c0
 have k1:=(show Box (w.alloc (Obj.cells #[.int .i64 e,.int .i64 l,.int .i64 c,.int .i64 o] 52)) g1 _ 3 from (hwa.block _ h1.lt).trans h1).c0
 unfold ptrV at k0
 refine callsD_of_wpS Tryz.func143 rfl fun c₀ cs hu => ?_
 simp only [Tryz.ntmps143,List.size_toArray,List.length_cons,List.length_nil,Nat.reduceAdd,Nat.reduceSub,Array.replicate_succ,Array.replicate_zero,List.push_toArray,List.append_toArray,List.nil_append,List.cons_append]
 apply wpS_seq
 apply wpS_region
 simp [wpOpsS,go_sem,recoverD,hu,Exit.thenS]
 refine wpS_of_wp (Code.wp_mono (Q:=fun en a w'=>en=.normal∧a.defers=[]∧Caught w b m v t g2 g3 g4 e l c o w') ?_ ?_)
 ·rintro en a w' ⟨rfl,h1,hc⟩
  cases c₀
  exact ⟨h1,_,rfl,_,by simp [results,Tryz.results143],rfl,rfl,hc⟩
 ·clear hu c₀ cs hT ht h0 h1 h2 h3 h4 h23 hcr hwa
  go_wp2_with fail
  refine K.out.mono ?_
  rintro e' w1 ⟨rfl,ha,hf,hb2,hb3,hb4⟩
  have X:=show Hid (After w b m v t w1∧Box w1 g2 (.int .i64 x) 3∧Box w1 g3 (.int .i64 y) 3∧Fl w1 g4 e0 l0 c0 o0) from ⟨ha,hb2,hb3,hb4⟩
  have q2:=hb2.fr;have q3:=hb3.fr;have q4:=hb4.fr
  have p2:=hb2.c0;have p3:=hb3.c0
  have r0:=hb4.c0;have r1:=hb4.c1;have r2:=hb4.c2;have r3:=hb4.c3
  have f0:=hf.c0;have f1:=hf.c1;have f2:=hf.c2;have f3:=hf.c3
  have n1:¬ w.heap.size=g2:=by have:=HD.out;omega
  have n2:¬ w.heap.size=g3:=by have:=HD.out;omega
  have n3:¬ w.heap.size=g4:=by have:=HD.out;omega
  have n4:¬ g2=g3:=HD.out.1
  have n5:¬ g2=g4:=HD.out.2.1
  have n6:¬ g3=g4:=HD.out.2.2.1
  have n7:¬ g3=g2:=fun e=>n4 e.symm
  have n8:¬ g4=g2:=fun e=>n5 e.symm
  have n9:¬ g4=g3:=fun e=>n6 e.symm
  clear ha hf hb2 hb3 hb4 K k0 k1
  go_wp2_with fail
  go_region
  have hfin:=caught_of (e:=e) (l:=l) (c:=c) (o:=o) X.out.1 X.out.2.1 X.out.2.2.1 X.out.2.2.2 HD.out.1 HD.out.2.1 HD.out.2.2.1
  unfold setF at hfin
  exact ⟨rfl,rfl,hfin⟩
end Go.Proofs.YtkmmlimekachbaaGreatDoor
/-
  The call read. For every table and list of tokens. No other condition.
-/
namespace Go.Proofs.YtkmmlimekachbaaGreatDoor
open Go.RowKit Go.Maps
open Fm (Nd)
open Sx (Tn T Lv)
def finO (z:Bool) (ts:List Tn):Sx.Out→Sx.Out
 | .bad e t=>.bad e t
 | .ok a i n=>if z=true∧(Sx.tk ts i).k≠0 then .bad (if 512<Sx.up ts i n then 40 else 41) (Sx.tk ts i) else .ok a i n
def fin (z:Bool) (ts:List Tn):Sx.Out:=finO z ts ((Sx.rd ts (8 * ts.length+5) .formula 0 0 0).getD (.bad 0 Sx.tz))
def wholeO (t:List Nd):Sx.Out→(Int × Int × Int × Tn) × List Nd
 | .bad e tn=>((0,0,e,tn),t)
 | .ok a i _=>if (Sx.pt a t).2.1=0 then (((Sx.pt a t).1,(i:Int),0,Sx.tz),(Sx.pt a t).2.2) else ((0,0,(Sx.pt a t).2.1,Sx.tz),t)
def whole (z:Bool) (ts:List Tn) (t:List Nd):(Int × Int × Int × Tn) × List Nd:=wholeO t (fin z ts)
def wholeV (r:Int × Int × Int × Tn):Value:=.tuple #[.int .i64 r.1,.int .i64 r.2.1,.agg #[.int .i64 r.2.2.1,.int .i64 r.2.2.2.l,.int .i64 r.2.2.2.c,.int .i64 r.2.2.2.o]]
theorem load_int (w:World) (g:Nat) (x:Int) (h:Box w g (.int .i64 x) 3):(loadVar 3 ⟨g,0,none⟩).run Tryz.prog w=.ok (.int .i64 x) w:=by
 have:=h.c0
 simp [loadVar,go_sem,this]
theorem results3 (tmps:Array Value) (w:World) {g1 g2 g3:Nat} {x y e l c o:Int} (h6:tmps.getD 6 undef=.pointer (some ⟨g1,0,none⟩)) (h7:tmps.getD 7 undef=.pointer (some ⟨g2,0,none⟩)) (h8:tmps.getD 8 undef=.pointer (some ⟨g3,0,none⟩))
 (b1:Box w g1 (.int .i64 x) 3) (b2:Box w g2 (.int .i64 y) 3) (hf:Fl w g3 e l c o) :
 (results Tryz.f103 tmps).run Tryz.prog w=.ok (.tuple #[.int .i64 x,.int .i64 y,.agg #[.int .i64 e,.int .i64 l,.int .i64 c,.int .i64 o]]) w:=by
 have h6':tmps[6]?.getD undef=.pointer (some ⟨g1,0,none⟩):=by simpa using h6
 have h7':tmps[7]?.getD undef=.pointer (some ⟨g2,0,none⟩):=by simpa using h7
 have h8':tmps[8]?.getD undef=.pointer (some ⟨g3,0,none⟩):=by simpa using h8
 have l1:=load_int w g1 x b1
 have l2:=load_int w g2 y b2
 have l3:=run_loadVar_row (P:=Tryz.prog) w g3 52 52 #[.int .i64 e,.int .i64 l,.int .i64 c,.int .i64 o] (0,0) _ hf Tryz.underlying52 rfl (by kernel_rfl)
 simp [results,Tryz.results103,h6',h7',h8',asAddr,l1,l2,l3,Result.andThen]
structure Vs (w:World) (h b n:Nat):Prop where
 v0:Box w h (ptrV b) 29
 v1:Box w (h+1) (.int .i64 0) 3
 v2:Box w (h+1+1) (.int .i64 0) 3
 v3:Fl w (h+1+1+1) 0 0 0 0
 v4:Box w (h+1+1+1+1) (.int .i64 (n:Int)) 3
theorem Vs.keep {w w':World} {h b n:Nat} (hv:Vs w h b n) (hk:∀ k,h≤k→k<h+5→w'.heap[k]?=w.heap[k]?):Vs w' h b n :=
 ⟨(hk _ (by omega) (by omega)).trans hv.v0,(hk _ (by omega) (by omega)).trans hv.v1,(hk _ (by omega) (by omega)).trans hv.v2,(hk _ (by omega) (by omega)).trans hv.v3,(hk _ (by omega) (by omega)).trans hv.v4⟩
abbrev dfr (h:Nat):Deferred:={ target:=.fn (.func 143) #[.pointer (some ⟨h,0,none⟩),.pointer (some ⟨h+1+1+1+1,0,none⟩),.pointer (some ⟨h+1,0,none⟩),.pointer (some ⟨h+1+1,0,none⟩),.pointer (some ⟨h+1+1+1,0,none⟩)],args:=#[] }
set_option maxHeartbeats 1000000 in
theorem read_caught (tmps:Array Value) (w:World) {h b m:Nat} {v:Value} {t t':List Nd} (e l c o:Int) {R:Ending→World→Prop} (h6:tmps.getD 6 undef=.pointer (some ⟨h+1,0,none⟩)) (h7:tmps.getD 7 undef=.pointer (some ⟨h+1+1,0,none⟩)) (h8:tmps.getD 8 undef=.pointer (some ⟨h+1+1+1,0,none⟩))
 (hv:Vs w h b t.length) (hT:Tb w b m v t') (ht:∃ u,t'=t ++ u)
 (hR:∀ w',Caught w b m v t (h+1) (h+1+1) (h+1+1+1) e l c o w'→R (.returned (.tuple #[.int .i64 0,.int .i64 0,.agg #[.int .i64 e,.int .i64 l,.int .i64 c,.int .i64 o]])) w') :
 Leaves Tryz.prog Tryz.f103 tmps R [dfr h] (.panicking [{ v:=.iface 52 (.agg #[.int .i64 e,.int .i64 l,.int .i64 c,.int .i64 o]),recovered:=false }]) w:=by
 refine leaves_cons (f:=143) (args:=#[.pointer (some ⟨h,0,none⟩),.pointer (some ⟨h+1+1+1+1,0,none⟩),.pointer (some ⟨h+1,0,none⟩),.pointer (some ⟨h+1+1,0,none⟩),.pointer (some ⟨h+1+1+1,0,none⟩)]) (by simp) (by simp [go_sem]) ?_
 refine (catch_bad e l c o w hT ht hv.v0 hv.v4 hv.v1 hv.v2 hv.v3 (by omega)).mono ?_
 rintro en u' w' ⟨rfl,rfl,hc⟩
 exact ⟨_,results3 tmps w' h6 h7 h8 hc.1 hc.2.1 hc.2.2.1,hR w' hc⟩
set_option maxHeartbeats 1000000 in
theorem read_idle (tmps:Array Value) (w:World) {h:Nat} {x y e l c o:Int} {R:Ending→World→Prop} (h6:tmps.getD 6 undef=.pointer (some ⟨h+1,0,none⟩)) (h7:tmps.getD 7 undef=.pointer (some ⟨h+1+1,0,none⟩)) (h8:tmps.getD 8 undef=.pointer (some ⟨h+1+1+1,0,none⟩))
 (b1:Box w (h+1) (.int .i64 x) 3) (b2:Box w (h+1+1) (.int .i64 y) 3) (hf:Fl w (h+1+1+1) e l c o)
 (hR:R (.returned (.tuple #[.int .i64 x,.int .i64 y,.agg #[.int .i64 e,.int .i64 l,.int .i64 c,.int .i64 o]])) w) :
 Leaves Tryz.prog Tryz.f103 tmps R [dfr h] .returning w:=by
 refine leaves_cons (f:=143) (args:=#[.pointer (some ⟨h,0,none⟩),.pointer (some ⟨h+1+1+1+1,0,none⟩),.pointer (some ⟨h+1,0,none⟩),.pointer (some ⟨h+1+1,0,none⟩),.pointer (some ⟨h+1+1+1,0,none⟩)]) (by simp) (by simp [go_sem]) ?_
 refine (catch_idle _ _ _ _ _ w).mono ?_
 rintro en u' w' ⟨rfl,rfl,rfl⟩
 exact ⟨_,results3 tmps w' h6 h7 h8 b1 b2 hf,hR⟩
section
variable (w:World) {b m g:Nat} {cap:Cp} {v:Value} {t:List Nd} {ts:List Tn}
def rdW (w:World) (b g:Nat) (cap:Cp) (ts:List Tn) (t:List Nd):World :=
 (((((w.alloc (.cells #[.pointer (some ⟨b,0,none⟩)] 29)).alloc (.cells #[.int .i64 0] 3)).alloc (.cells #[.int .i64 0] 3)).alloc (.cells #[.int .i64 0,.int .i64 0,.int .i64 0,.int .i64 0] 52)).alloc (.cells #[.int .i64 (t.length:Int)] 3)).alloc
   (.cells #[.pointer (some ⟨b,0,none⟩),.slice (some ⟨g,cap.o,none⟩) ts.length cap.c,.int .i64 0,.int .i64 0,.int .i64 0] 204)
theorem rdW_below (w:World) (b g:Nat) (cap:Cp) (ts:List Tn) (t:List Nd):Below w.heap.size w (rdW w b g cap ts t) :=
 ((((((Below.refl _ _).alloc (Nat.le_refl _) _).alloc (by simp) _).alloc (by simp;omega) _).alloc (by simp;omega) _).alloc (by simp;omega) _).alloc (by simp;omega) _
theorem rdW_vs (w:World) (b g:Nat) (cap:Cp) (ts:List Tn) (t:List Nd):Vs (rdW w b g cap ts t) w.heap.size b t.length:=by
 refine ⟨?_,?_,?_,?_,?_⟩
 ·exact (Below.heap_alloc _ _ _ (by first | (simp;done) | (simp;omega))).trans ((Below.heap_alloc _ _ _ (by first | (simp;done) | (simp;omega))).trans ((Below.heap_alloc _ _ _ (by first | (simp;done) | (simp;omega))).trans ((Below.heap_alloc _ _ _ (by first | (simp;done) | (simp;omega))).trans ((Below.heap_alloc _ _ _ (by simp)).trans (heap_new_at _ _ _ rfl)))))
 ·exact (Below.heap_alloc _ _ _ (by first | (simp;done) | (simp;omega))).trans ((Below.heap_alloc _ _ _ (by first | (simp;done) | (simp;omega))).trans ((Below.heap_alloc _ _ _ (by first | (simp;done) | (simp;omega))).trans ((Below.heap_alloc _ _ _ (by simp)).trans (heap_new_at _ _ _ (by simp)))))
 ·exact (Below.heap_alloc _ _ _ (by first | (simp;done) | (simp;omega))).trans ((Below.heap_alloc _ _ _ (by first | (simp;done) | (simp;omega))).trans ((Below.heap_alloc _ _ _ (by simp)).trans (heap_new_at _ _ _ (by simp))))
 ·exact (Below.heap_alloc _ _ _ (by first | (simp;done) | (simp;omega))).trans ((Below.heap_alloc _ _ _ (by simp)).trans (heap_new_at _ _ _ (by simp)))
 ·exact (Below.heap_alloc _ _ _ (by simp)).trans (heap_new_at _ _ _ (by simp))
theorem rdW_rs (hK:TsAt w g cap ts) (b:Nat) (t:List Nd):RS (rdW w b g cap ts t) (w.heap.size+1+1+1+1+1) b g cap ts 0 0 0:=by
 refine ⟨heap_new_at _ _ _ (by simp),hK.keep ((rdW_below w b g cap ts t).block _ ?_)⟩
 obtain ⟨cur,hh,_⟩:=hK
 exact lt_of_block hh
structure Mid (w w1:World) (b m:Nat) (v:Value) (t:List Nd):Prop where
 vs:Vs w1 w.heap.size b t.length
 tb:Tb w1 b m v t
 be:Below w.heap.size w w1
theorem mid_start (hT:Tb w b m v t) (g:Nat) (cap:Cp) (ts:List Tn):Mid w (rdW w b g cap ts t) b m v t:=⟨rdW_vs w b g cap ts t,hT.later (rdW_below w b g cap ts t),rdW_below w b g cap ts t⟩
theorem Mid.next {w w1 w2:World} (h:Mid w w1 b m v t) (hT:Tb w b m v t) (hk:KpP (w.heap.size+1+1+1+1+1) w1 w2) (hs:w.heap.size+5≤w1.heap.size):Mid w w2 b m v t:=by
 refine ⟨h.vs.keep fun k _ h2=>hk.block k (by omega) (by omega),h.tb.keep fun k hf => ?_,h.be.trans (Kp.below hk h.be.size (fun k e=>by omega))⟩
 have:=hT.foot k hf
 exact hk.block k (by omega) (by omega)
theorem Mid.size {w w1:World} (h:Mid w w1 b m v t):w.heap.size+5≤w1.heap.size:=by have:=h.vs.v4.lt;omega
theorem mid_caught {w w1 w2 w':World} {v2:Value} (h:Below w.heap.size w w1) (hk:Lies w.heap.size v v2∧Kp (Ft b m v) w1 w2∧w1.heap.size≤w2.heap.size) {e l c o:Int} (hc:Caught w2 b m v2 t (w.heap.size+1) (w.heap.size+1+1) (w.heap.size+1+1+1) e l c o w'):After w b m v t w':=by
 obtain ⟨_,_,_,v3,hT3,hL3,hK3⟩:=hc
 have hs1:=h.size
 refine ⟨v3,hT3,hk.1.trans hL3 (by omega),⟨hK3.os.trans (hk.2.1.os.trans h.os),hK3.tape.trans (hk.2.1.tape.trans h.tape),hK3.output.trans (hk.2.1.output.trans h.output),by have:=hK3.size;omega,fun k hlt hn => ?_⟩⟩
 rw [hK3.block k (by omega) ?_,hk.2.1.block k (by omega) hn,h.block k hlt]
 rintro ((e | e | e) | e | e | e)
 ·exact hn (Or.inl e)
 ·exact hn (Or.inr (Or.inl e))
 ·rcases hk.1 k e with h1 | h1
  ·exact hn (Or.inr (Or.inr h1))
  ·omega
 ·omega
 ·omega
 ·omega
def setG (w:World) (g2 g3 g4:Nat) (x y:Int):World :=
 (((((w.setCell ⟨g2,0,none⟩ (.int .i64 x)).setCell ⟨g3,0,none⟩ (.int .i64 y)).setCell ⟨g4,0,none⟩ (.int .i64 0)).setCell ⟨g4,1,none⟩ (.int .i64 0)).setCell ⟨g4,2,none⟩ (.int .i64 0)).setCell ⟨g4,3,none⟩ (.int .i64 0)
theorem setG_other (w:World) (g2 g3 g4:Nat) (x y:Int) {k:Nat} (h2:k≠g2) (h3:k≠g3) (h4:k≠g4):(setG w g2 g3 g4 x y).heap[k]?=w.heap[k]?:=by
 unfold setG
 rw [Below.heap_setCell _ _ _ _ h4,Below.heap_setCell _ _ _ _ h4,Below.heap_setCell _ _ _ _ h4,Below.heap_setCell _ _ _ _ h4,Below.heap_setCell _ _ _ _ h3,Below.heap_setCell _ _ _ _ h2]
theorem setG_kp {S:Nat→Prop} {a w:World} (h:Kp S a w) {g2 g3 g4:Nat} (h2:S g2) (h3:S g3) (h4:S g4) (x y:Int):Kp S a (setG w g2 g3 g4 x y) :=
 (((((h.setS h2 _ _).setS h3 _ _).setS h4 _ _).setS h4 _ _).setS h4 _ _).setS h4 _ _
theorem ok_of {w w2 w3:World} {r3:List Nd} {n:Nat} (hM:Mid w w2 b m v t) (ha:After w2 b m v r3 w3) (hv:Vs w3 w.heap.size b n) (x y:Int) :
 Box (setG w3 (w.heap.size+1) (w.heap.size+1+1) (w.heap.size+1+1+1) x y) (w.heap.size+1) (.int .i64 x) 3∧Box (setG w3 (w.heap.size+1) (w.heap.size+1+1) (w.heap.size+1+1+1) x y) (w.heap.size+1+1) (.int .i64 y) 3 ∧
  Fl (setG w3 (w.heap.size+1) (w.heap.size+1+1) (w.heap.size+1+1+1) x y) (w.heap.size+1+1+1) 0 0 0 0∧After w b m v r3 (setG w3 (w.heap.size+1) (w.heap.size+1+1) (w.heap.size+1+1+1) x y):=by
 obtain ⟨v',hT,hL,hK⟩:=ha
 have n23:w.heap.size+1≠w.heap.size+1+1:=by omega
 have n24:w.heap.size+1≠w.heap.size+1+1+1:=by omega
 have n34:w.heap.size+1+1≠w.heap.size+1+1+1:=by omega
 have hf2:Box (setG w3 (w.heap.size+1) (w.heap.size+1+1) (w.heap.size+1+1+1) x y) (w.heap.size+1) (.int .i64 x) 3:=by
  unfold setG
  exact (((((hv.v1.set _).other n23 _ _).other n24 _ _).other n24 _ _).other n24 _ _).other n24 _ _
 have hf3:Box (setG w3 (w.heap.size+1) (w.heap.size+1+1) (w.heap.size+1+1+1) x y) (w.heap.size+1+1) (.int .i64 y) 3:=by
  unfold setG
  exact ((((Box.set (hv.v2.other (Ne.symm n23) 0 (.int .i64 x)) _).other n34 _ _).other n34 _ _).other n34 _ _).other n34 _ _
 have hf4:Fl (setG w3 (w.heap.size+1) (w.heap.size+1+1) (w.heap.size+1+1+1) x y) (w.heap.size+1+1+1) 0 0 0 0:=by
  unfold setG
  exact ((hv.v3.other (Ne.symm n24) 0 (.int .i64 x)).other (Ne.symm n34) 0 (.int .i64 y)).s4 0 0 0 0
 have hT':Tb (setG w3 (w.heap.size+1) (w.heap.size+1+1) (w.heap.size+1+1+1) x y) b m v' r3:=hT.keep fun k hk=>setG_other _ _ _ _ _ _ (fun h=>hv.v1.nft hT (h ▸ hk)) (fun h=>hv.v2.nft hT (h ▸ hk)) (fun h=>hv.v3.nft hT (h ▸ hk))
 have hs:=hM.be.size
 have hK2:Kp (fun k=>Ft b m v k∨w.heap.size≤k) w w3:=⟨hK.os.trans hM.be.os,hK.tape.trans hM.be.tape,hK.output.trans hM.be.output,Nat.le_trans hs hK.size,fun k hk hs'=>(hK.block k (by omega) fun h=>hs' (Or.inl h)).trans (hM.be.block k hk)⟩
 have hK3:=setG_kp hK2 (g2:=w.heap.size+1) (g3:=w.heap.size+1+1) (g4:=w.heap.size+1+1+1) (Or.inr (by omega)) (Or.inr (by omega)) (Or.inr (by omega)) x y
 generalize setG w3 (w.heap.size+1) (w.heap.size+1+1) (w.heap.size+1+1+1) x y=ws at *
 exact ⟨hf2,hf3,hf4,v',hT',fun k hk=>(hL k hk).imp id (fun h=>Nat.le_trans hs h),⟨hK3.os,hK3.tape,hK3.output,hK3.size,fun k hk hn=>hK3.block k hk fun h=>by rcases h with h | h;exact hn h;omega⟩⟩
def Slots (h:Nat) (a:Act):Prop:=a.tmps.getD 6 undef=.pointer (some ⟨h+1,0,none⟩)∧a.tmps.getD 7 undef=.pointer (some ⟨h+1+1,0,none⟩)∧a.tmps.getD 8 undef=.pointer (some ⟨h+1+1+1,0,none⟩)∧a.defers=[dfr h]
theorem getD_put (ts:Array Value) (k j:Nat) (x:Value) (hk:k≠j):(ts.setIfInBounds k x).getD j undef=ts.getD j undef:=by
 simp only [Array.getD_eq_getD_getElem?]
 rw [Array.getElem?_setIfInBounds_ne hk]
theorem Slots.put {h k:Nat} (hk:9≤k) {a:Act} {x:Value} (hs:Slots h (a.put (some k) x)):Slots h a:=by
 obtain ⟨h1,h2,h3,h4⟩:=hs
 refine ⟨?_,?_,?_,h4⟩
 ·rw [← h1];exact (getD_put _ _ _ _ (by omega)).symm
 ·rw [← h2];exact (getD_put _ _ _ _ (by omega)).symm
 ·rw [← h3];exact (getD_put _ _ _ _ (by omega)).symm
def PQ (h:Nat) (G:List PanicEntry→World→Prop):Exit→Act→World→Prop
 | .panic ch,a,w=>Slots h a∧G ch w
 | _,_,_=>False
theorem PQ.put {h k:Nat} (hk:9≤k) {G:List PanicEntry→World→Prop} {x:Value}:∀ (c:List PanicEntry) (a:Act) (w:World),PQ h G (.panic c) (a.put (some k) x) w→PQ h G (.panic c) a w:=fun _ _ _ hp=>⟨Slots.put hk hp.1,hp.2⟩
end
end Go.Proofs.YtkmmlimekachbaaGreatDoor
