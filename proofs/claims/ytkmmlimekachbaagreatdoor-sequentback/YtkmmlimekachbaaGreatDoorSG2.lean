/-
  The reader's calls formula, implied, joined, both, chain, single, enclosed, word: what is read of every list of tokens. No other condition.
-/
import Derived.Test.YtkmmlimekachbaaGreatDoorSG1
import Derived.RegionDies
import Derived.Deep.RegionHeld3
namespace Go.Proofs.YtkmmlimekachbaaGreatDoor
open Go.RowKit Go.Maps
open Fm (Nd)
open Sx (Tn T Lv)
def Con (p b g:Nat) (cap:Cp) (ts:List Tn) (F:Nat) (lv:Lv) (f:Nat):Prop :=
 ∀ (w:World) (i n d:Nat) (o:Sx.Out),RS w p b g cap ts i n d→i≤ts.length→n≤512→d≤1024→Sx.rd ts f lv i n d=some o →
  Calls Tryz.prog F #[.pointer (some ⟨p,0,none⟩)] w fun e w'=>Read w p b g cap ts d o e w'
section
variable {p b g:Nat} {cap:Cp} {ts:List Tn}
theorem cellp {w w':World} {q:Addr} {v:Value} (h:w.cell? q=some v) (hb:Below w.heap.size w w'):w'.cell? q=some v:=(hb.cell (World.block_lt_of_cell? w _ h)).trans h
set_option maxRecDepth 100000 in
set_option maxHeartbeats 2000000 in
theorem formula_con (f:Nat) (h1:Con p b g cap ts 178 .implied f) (h2:Con p b g cap ts 144 .formula f):Con p b g cap ts 144 .formula (f+1):=by
 intro w i n d o hS hi hn hd hr
 have hmf:=mkFunc
 rcases Sx.bnd_cases hr with ⟨er,t,hx,rfl⟩ | ⟨a,i1,n1,hx,hk⟩
 ·have K1:=show Hid (Calls Tryz.prog 178 #[.pointer (some ⟨p,0,none⟩)] w fun e w'=>Read w p b g cap ts d (.bad er t) e w') from h1 w i n d _ hS hi hn hd hx
  clear h1 h2 hS hi hn hd hr hx
  go_enter Tryz.func144,Tryz.ntmps144
  go_wp2_with fail
  refine K1.out.mono ?_
  rintro e w1 ⟨rfl,hk⟩
  have HK:=show Hid _ from hk
  clear hk K1
  unfold fltP
  go_wp2_with fail
  exact ⟨rfl,read_bad rfl HK.out⟩
 ·have K1:=show Hid (Calls Tryz.prog 178 #[.pointer (some ⟨p,0,none⟩)] w fun e w'=>Read w p b g cap ts d (.ok a i1 n1) e w') from h1 w i n d _ hS hi hn hd hx
  have hf:=Sx.rd_fine ts f .implied i n d _ hi hx _ _ _ rfl
  have hn1:=hf.2.2 hn
  have HC:=show Hid (∀ w1,RS w1 p b g cap ts i1 n1 d→Calls Tryz.prog 179 #[.pointer (some ⟨p,0,none⟩),.string ⟨#[60,45,62]⟩] w1 fun e w'=>Signed w1 p b g cap ts i1 n1 d [60,45,62] e w') from fun w1 hS1=>sign_any w1 hS1 hn1 hf.2.1 ⟨#[60,45,62]⟩
  have HK:=show Hid _ from hk
  have H2:=show Hid (Con p b g cap ts 144 .formula f) from h2
  have HF:=show Hid (i1≤ts.length∧n1≤512∧d≤1024) from ⟨hf.2.1,hn1,hd⟩
  clear h1 h2 hS hi hn hd hr hx hf hn1 hk
  go_enter Tryz.func144,Tryz.ntmps144
  go_wp2_with fail
  refine K1.out.mono ?_
  rintro e w1 ⟨F1,cp1,rfl,hP1,hS1,hk1⟩
  have X1:=show Hid (Pts w1 p b a (.func (.func F1) #[] cp1)∧RS w1 p b g cap ts i1 n1 d∧KpP p w w1) from ⟨hP1,hS1,hk1⟩
  clear hP1 hS1 hk1 K1
  go_wp2_with fail
  refine (HC.out _ X1.out.2.1).mono ?_
  rintro e w2 (⟨hs,rfl,hb2⟩ | ⟨hs,⟨hu,rfl,hk2⟩ | ⟨hu,rfl,hS2,hk2⟩⟩)
  ·have hk:=HK.out
   rw [hs] at hk
   simp only [Bool.false_eq_true,if_false,Option.some.injEq] at hk
   have X2:=show Hid (Pts w2 p b a (.func (.func F1) #[] cp1)∧RS w2 p b g cap ts i1 n1 d∧KpP p w w2) from ⟨X1.out.1.later hb2,X1.out.2.1.later hb2,X1.out.2.2.trans (KpP.of_below hb2)⟩
   have HO:=show Hid _ from hk
   clear hs hb2 hk X1 HC HK
   go_wp2_with fail
   go_ret
   exact read_ok HO.out.symm X2.out.1 X2.out.2.1 X2.out.2.2
  ·have hk:=HK.out
   rw [hs] at hk
   simp only [if_true] at hk
   rcases Sx.stp_cases hk with ⟨_,ho⟩ | ⟨hu',_⟩
   ·have HO:=show Hid (_∧_) from ⟨ho,X1.out.2.2.trans hk2⟩
    clear hs hk hu hk2 ho HC HK X1
    unfold fltP
    go_wp2_with fail
    exact ⟨rfl,read_bad HO.out.1 HO.out.2⟩
   ·omega
  ·have hk:=HK.out
   rw [hs] at hk
   simp only [if_true] at hk
   rcases Sx.stp_cases hk with ⟨hu',_⟩ | ⟨_,hk⟩
   ·omega
   have hl:=Sx.sgn_lt hs
   rcases Sx.bnd_cases hk with ⟨er,t,hx,rfl⟩ | ⟨a2,i2,n2,hx,hk⟩
   ·have K2:=show Hid (Calls Tryz.prog 144 #[.pointer (some ⟨p,0,none⟩)] w2 fun e w'=>Read w2 p b g cap ts d (.bad er t) e w') from H2.out w2 _ _ d _ hS2 (by omega) hu HF.out.2.2 hx
    have X2:=show Hid (KpP p w w2) from X1.out.2.2.trans hk2
    clear hs hk hu hk2 HC HK X1 hS2 hx hl H2 HF
    go_wp2_with fail
    refine K2.out.mono ?_
    rintro e w3 ⟨rfl,hk⟩
    have HK:=show Hid _ from X2.out.trans hk
    clear hk K2 X2
    unfold fltP
    go_wp2_with fail
    exact ⟨rfl,read_bad rfl HK.out⟩
   ·have K2:=show Hid (Calls Tryz.prog 144 #[.pointer (some ⟨p,0,none⟩)] w2 fun e w'=>Read w2 p b g cap ts d (.ok a2 i2 n2) e w') from H2.out w2 _ _ d _ hS2 (by omega) hu HF.out.2.2 hx
    have X2:=show Hid (Pts w2 p b a (.func (.func F1) #[] cp1)∧RS w2 p b g cap ts (i1+1) (Sx.up ts i1 n1) d∧KpP p w w2) from ⟨X1.out.1.kpP X1.out.2.1.rd hk2,hS2,X1.out.2.2.trans hk2⟩
    have HO:=show Hid _ from Option.some.inj hk
    clear hs hk hu hk2 HC HK X1 hS2 hx hl H2 HF
    go_wp2_with fail
    refine K2.out.mono ?_
    rintro e w3 ⟨F2,cp2,rfl,hP3,hS3,hk3⟩
    have X3:=show Hid (Pts w3 p b a (.func (.func F1) #[] cp1)∧Pts w3 p b a2 (.func (.func F2) #[] cp2)∧RS w3 p b g cap ts i2 n2 d∧KpP p w w3) from ⟨X2.out.1.kpP X2.out.2.1.rd hk3,hP3,hS3,X2.out.2.2.trans hk3⟩
    clear hP3 hS3 hk3 K2 X2
    go_wp2_with fail
    refine (join_any w3 _ _ _ _ _ _ _ _ _).mono ?_
    rintro e w4 ⟨rfl,hw4⟩
    have HW4:=show Hid _ from hw4
    clear hw4
    go_wp2_with fail
    go_ret
    rw [HW4.out]
    exact read_ok (F:=215) HO.out.symm (joinW_iff X3.out.1 X3.out.2.1) (X3.out.2.2.1.later (joinW_below _ _ _ _)) (X3.out.2.2.2.trans (KpP.of_below (joinW_below _ _ _ _)))
set_option maxRecDepth 100000 in
set_option maxHeartbeats 2000000 in
theorem implied_con (f:Nat) (h1:Con p b g cap ts 213 .joined f) (h2:Con p b g cap ts 178 .implied f):Con p b g cap ts 178 .implied (f+1):=by
 intro w i n d o hS hi hn hd hr
 have hmf:=mkFunc
 rcases Sx.bnd_cases hr with ⟨er,t,hx,rfl⟩ | ⟨a,i1,n1,hx,hk⟩
 ·have K1:=show Hid (Calls Tryz.prog 213 #[.pointer (some ⟨p,0,none⟩)] w fun e w'=>Read w p b g cap ts d (.bad er t) e w') from h1 w i n d _ hS hi hn hd hx
  clear h1 h2 hS hi hn hd hr hx
  go_enter Tryz.func178,Tryz.ntmps178
  go_wp2_with fail
  refine K1.out.mono ?_
  rintro e w1 ⟨rfl,hk⟩
  have HK:=show Hid _ from hk
  clear hk K1
  unfold fltP
  go_wp2_with fail
  exact ⟨rfl,read_bad rfl HK.out⟩
 ·have K1:=show Hid (Calls Tryz.prog 213 #[.pointer (some ⟨p,0,none⟩)] w fun e w'=>Read w p b g cap ts d (.ok a i1 n1) e w') from h1 w i n d _ hS hi hn hd hx
  have hf:=Sx.rd_fine ts f .joined i n d _ hi hx _ _ _ rfl
  have hn1:=hf.2.2 hn
  have HC:=show Hid (∀ w1,RS w1 p b g cap ts i1 n1 d→Calls Tryz.prog 179 #[.pointer (some ⟨p,0,none⟩),.string ⟨#[45,62]⟩] w1 fun e w'=>Signed w1 p b g cap ts i1 n1 d [45,62] e w') from fun w1 hS1=>sign_any w1 hS1 hn1 hf.2.1 ⟨#[45,62]⟩
  have HK:=show Hid _ from hk
  have H2:=show Hid (Con p b g cap ts 178 .implied f) from h2
  have HF:=show Hid (i1≤ts.length∧n1≤512∧d≤1024) from ⟨hf.2.1,hn1,hd⟩
  clear h1 h2 hS hi hn hd hr hx hf hn1 hk
  go_enter Tryz.func178,Tryz.ntmps178
  go_wp2_with fail
  refine K1.out.mono ?_
  rintro e w1 ⟨F1,cp1,rfl,hP1,hS1,hk1⟩
  have X1:=show Hid (Pts w1 p b a (.func (.func F1) #[] cp1)∧RS w1 p b g cap ts i1 n1 d∧KpP p w w1) from ⟨hP1,hS1,hk1⟩
  clear hP1 hS1 hk1 K1
  go_wp2_with fail
  refine (HC.out _ X1.out.2.1).mono ?_
  rintro e w2 (⟨hs,rfl,hb2⟩ | ⟨hs,⟨hu,rfl,hk2⟩ | ⟨hu,rfl,hS2,hk2⟩⟩)
  ·have hk:=HK.out
   rw [hs] at hk
   simp only [Bool.false_eq_true,if_false,Option.some.injEq] at hk
   have X2:=show Hid (Pts w2 p b a (.func (.func F1) #[] cp1)∧RS w2 p b g cap ts i1 n1 d∧KpP p w w2) from ⟨X1.out.1.later hb2,X1.out.2.1.later hb2,X1.out.2.2.trans (KpP.of_below hb2)⟩
   have HO:=show Hid _ from hk
   clear hs hb2 hk X1 HC HK
   go_wp2_with fail
   go_ret
   exact read_ok HO.out.symm X2.out.1 X2.out.2.1 X2.out.2.2
  ·have hk:=HK.out
   rw [hs] at hk
   simp only [if_true] at hk
   rcases Sx.stp_cases hk with ⟨_,ho⟩ | ⟨hu',_⟩
   ·have HO:=show Hid (_∧_) from ⟨ho,X1.out.2.2.trans hk2⟩
    clear hs hk hu hk2 ho HC HK X1
    unfold fltP
    go_wp2_with fail
    exact ⟨rfl,read_bad HO.out.1 HO.out.2⟩
   ·omega
  ·have hk:=HK.out
   rw [hs] at hk
   simp only [if_true] at hk
   rcases Sx.stp_cases hk with ⟨hu',_⟩ | ⟨_,hk⟩
   ·omega
   have hl:=Sx.sgn_lt hs
   rcases Sx.bnd_cases hk with ⟨er,t,hx,rfl⟩ | ⟨a2,i2,n2,hx,hk⟩
   ·have K2:=show Hid (Calls Tryz.prog 178 #[.pointer (some ⟨p,0,none⟩)] w2 fun e w'=>Read w2 p b g cap ts d (.bad er t) e w') from H2.out w2 _ _ d _ hS2 (by omega) hu HF.out.2.2 hx
    have K2':=show Hid (∀ wx,Below w2.heap.size w2 wx→Calls Tryz.prog 178 #[.pointer (some ⟨p,0,none⟩)] wx fun e w'=>Read wx p b g cap ts d (.bad er t) e w') from fun wx hb=>H2.out wx _ _ d _ (hS2.later hb) (by omega) hu HF.out.2.2 hx
    have X2:=show Hid (KpP p w w2) from X1.out.2.2.trans hk2
    have c0:=hS2.rd.c0
    have c0d:w2.drew.cell? ⟨p,0,none⟩=some (.pointer (some ⟨b,0,none⟩)):=c0
    clear hs hk hu hk2 HC HK X1 hS2 hx hl H2 HF K2
    go_wp2_with fail
    go_region_dies
    all_goals
     refine (K2'.out _ (Below.refl _ _).drew).mono ?_
     rintro e w3 ⟨rfl,hk⟩
     exact ⟨rfl,read_bad rfl (X2.out.trans ⟨hk.os,hk.tape,hk.output,hk.size,hk.block⟩)⟩
   ·have K2:=show Hid (Calls Tryz.prog 178 #[.pointer (some ⟨p,0,none⟩)] w2 fun e w'=>Read w2 p b g cap ts d (.ok a2 i2 n2) e w') from H2.out w2 _ _ d _ hS2 (by omega) hu HF.out.2.2 hx
    have X2:=show Hid (Pts w2 p b a (.func (.func F1) #[] cp1)∧RS w2 p b g cap ts (i1+1) (Sx.up ts i1 n1) d∧KpP p w w2) from ⟨X1.out.1.kpP X1.out.2.1.rd hk2,hS2,X1.out.2.2.trans hk2⟩
    have K2':=show Hid (∀ wx,Below w2.heap.size w2 wx→Calls Tryz.prog 178 #[.pointer (some ⟨p,0,none⟩)] wx fun e w'=>Read wx p b g cap ts d (.ok a2 i2 n2) e w') from fun wx hb=>H2.out wx _ _ d _ (hS2.later hb) (by omega) hu HF.out.2.2 hx
    have HO:=show Hid _ from Option.some.inj hk
    have c0:=hS2.rd.c0
    have c0d:w2.drew.cell? ⟨p,0,none⟩=some (.pointer (some ⟨b,0,none⟩)):=c0
    clear hs hk hu hk2 HC HK X1 hS2 hx hl H2 HF K2
    go_wp2_with fail
    go_region_held3 (fun wx=>wx.cell? ⟨p,0,none⟩=some (.pointer (some ⟨b,0,none⟩))) (first | assumption | go_keep | exact cellp (by assumption) (joinW_below _ _ _ _)) (first | (go_at_call 178;refine (K2'.out _ (Below.refl _ _).drew).mono ?_;rintro e w3 ⟨F2,cp2,rfl,hP3,hS3,hk3⟩;have c3:=hS3.rd.c0) | (go_at_call 180;refine (join_any _ _ _ _ _ _ _ _ _ _).mono ?_;rintro e w4 ⟨rfl,rfl⟩))
    all_goals
     have X3:=show Hid (Pts w3 p b a (.func (.func F1) #[] cp1)∧Pts w3 p b a2 (.func (.func F2) #[] cp2)∧RS w3 p b g cap ts i2 n2 d∧KpP p w w3) from ⟨X2.out.1.kpP X2.out.2.1.rd ⟨hk3.os,hk3.tape,hk3.output,hk3.size,hk3.block⟩,hP3,hS3,X2.out.2.2.trans ⟨hk3.os,hk3.tape,hk3.output,hk3.size,hk3.block⟩⟩
     clear hP3 hS3 hk3 K2' X2
     go_wp2_with fail
     go_ret
     exact read_ok (F:=215) HO.out.symm (joinW_bin (k:=5) X3.out.1 X3.out.2.1) (X3.out.2.2.1.later (joinW_below _ _ _ _)) (X3.out.2.2.2.trans (KpP.of_below (joinW_below _ _ _ _)))
end
end Go.Proofs.YtkmmlimekachbaaGreatDoor
/-
  The reader's calls formula, implied, joined, both, chain, single, enclosed, word: what is read of every list of tokens. No other condition.
-/
namespace Go.Proofs.YtkmmlimekachbaaGreatDoor
open Go.RowKit Go.Maps
open Fm (Nd)
open Sx (Tn T Lv)
section
variable {p b g:Nat} {cap:Cp} {ts:List Tn}
set_option maxRecDepth 100000 in
set_option maxHeartbeats 4000000 in
theorem chain_joined (f:Nat) (hp:∀ f'≤f,Con p b g cap ts 233 .both f') (w:World) (i n d:Nat) (o:Sx.Out) (hS:RS w p b g cap ts i n d) (hi:i≤ts.length) (hn:n≤512) (hd:d≤1024) (hr:Sx.rd ts (f+1) .joined i n d=some o) :
 Calls Tryz.prog 232 #[.pointer (some ⟨p,0,none⟩),.string ⟨#[124]⟩,.func (.func 233) #[.pointer (some ⟨p,0,none⟩)] #[],.func (.func 234) #[.pointer (some ⟨b,0,none⟩)] #[]] w fun e w'=>Read w p b g cap ts d o e w':=by
 have HP:=show Hid (∀ f'≤f,Con p b g cap ts 233 .both f') from hp
 have HD:=show Hid (d≤1024) from hd
 rcases Sx.bnd_cases hr with ⟨er,t,hx,rfl⟩ | ⟨a,i1,n1,hx,hk⟩
 ·have K1:=show Hid (Calls Tryz.prog 233 #[.pointer (some ⟨p,0,none⟩)] w fun e w'=>Read w p b g cap ts d (.bad er t) e w') from hp f (Nat.le_refl _) w i n d _ hS hi hn hd hx
  clear hp hS hi hn hd hr hx HP
  go_enter Tryz.func232,Tryz.ntmps232
  go_wp2_with fail
  refine K1.out.mono ?_
  rintro e w1 ⟨rfl,hk⟩
  have HK:=show Hid _ from hk
  clear hk K1
  unfold fltP
  go_wp2_with fail
  exact ⟨rfl,read_bad rfl HK.out⟩
 ·have K1:=show Hid (Calls Tryz.prog 233 #[.pointer (some ⟨p,0,none⟩)] w fun e w'=>Read w p b g cap ts d (.ok a i1 n1) e w') from hp f (Nat.le_refl _) w i n d _ hS hi hn hd hx
  have hf:=Sx.rd_fine ts f .both i n d _ hi hx _ _ _ rfl
  have HF:=show Hid (i1≤ts.length∧n1≤512∧Sx.rd ts f (.ors a) i1 n1 d=some o) from ⟨hf.2.1,hf.2.2 hn,hk⟩
  clear hp hS hi hn hd hr hx hf hk
  go_enter Tryz.func232,Tryz.ntmps232
  go_wp2_with fail
  refine K1.out.mono ?_
  rintro e w1 ⟨F1,cp1,rfl,hP1,hS1,hk1⟩
  have X1:=show Hid (Pts w1 p b a (.func (.func F1) #[] cp1)∧RS w1 p b g cap ts i1 n1 d∧KpP p w w1) from ⟨hP1,hS1,hk1⟩
  clear hP1 hS1 hk1 K1
  go_wp2_with fail
  go_loopw [9] (fun v wr=>∃ (a:T) (i n f' F1:Nat) (cp:Array Value),v=.func (.func F1) #[] cp∧Hid (f'≤f∧Sx.rd ts f' (.ors a) i n d=some o)∧Hid (Pts wr p b a (.func (.func F1) #[] cp)∧RS wr p b g cap ts i n d∧KpP p w wr)∧Hid (i≤ts.length∧n≤512)) (fun _ wr=>ts.length - (intOf ((wr.cell? ⟨p,2,none⟩).getD (.bool false))).toNat)
  case atStart=>exact ⟨a,i1,n1,f,F1,cp1,rfl,⟨Nat.le_refl _,HF.out.2.2⟩,X1.out,⟨HF.out.1,HF.out.2.1⟩⟩
  case round =>
   clear X1 HF
   obtain ⟨a,i,n,f',F1,cp1,rfl,HR,X,HI⟩:=hrel
   have HM:=show Hid ((intOf ((wr.cell? ⟨p,2,none⟩).getD (.bool false))).toNat=i) from by rw [X.out.2.1.rd.c2];rfl
   have HC:=show Hid (Calls Tryz.prog 179 #[.pointer (some ⟨p,0,none⟩),.string ⟨#[124]⟩] wr fun e w'=>Signed wr p b g cap ts i n d [124] e w') from sign_any wr X.out.2.1 HI.out.2 HI.out.1 ⟨#[124]⟩
   obtain ⟨f'',HR2⟩:∃ f'',Hid (f''≤f∧(if Sx.sgn (Sx.tk ts i) [124] then Sx.stp ts i n fun n=>Sx.bnd (Sx.rd ts f'' .both (i+1) n d) fun b i n=>Sx.rd ts f'' (.ors (.bin 4 a b)) i n d else some (.ok a i n))=some o):=by
    have hr:=HR.out
    cases f' with
    | zero=>exact absurd hr.2 (by simp [Sx.rd])
    | succ f''=>exact ⟨f'',by omega,hr.2⟩
   clear HR
   go_wp2_with fail
   refine HC.out.mono ?_
   rintro e w2 (⟨hs,rfl,hb2⟩ | ⟨hs,⟨hu,rfl,hk2⟩ | ⟨hu,rfl,hS2,hk2⟩⟩)
   ·have hk:=HR2.out.2
    rw [hs] at hk
    simp only [Bool.false_eq_true,if_false,Option.some.injEq] at hk
    have X2:=show Hid (Pts w2 p b a (.func (.func F1) #[] cp1)∧RS w2 p b g cap ts i n d∧KpP p w w2) from ⟨X.out.1.later hb2,X.out.2.1.later hb2,X.out.2.2.trans (KpP.of_below hb2)⟩
    have HO:=show Hid _ from hk
    clear hs hb2 hk X HC HR2
    go_wp2_with fail
    go_ret
    exact read_ok HO.out.symm X2.out.1 X2.out.2.1 X2.out.2.2
   ·have hk:=HR2.out.2
    rw [hs] at hk
    simp only [if_true] at hk
    rcases Sx.stp_cases hk with ⟨_,ho⟩ | ⟨hu',_⟩
    ·have HO:=show Hid (_∧_) from ⟨ho,X.out.2.2.trans hk2⟩
     clear hs hk hu hk2 ho HC HR2 X
     unfold fltP
     go_wp2_with fail
     exact ⟨rfl,read_bad HO.out.1 HO.out.2⟩
    ·omega
   ·have hk:=HR2.out.2
    rw [hs] at hk
    simp only [if_true] at hk
    rcases Sx.stp_cases hk with ⟨hu',_⟩ | ⟨_,hk⟩
    ·omega
    have hl:=Sx.sgn_lt hs
    rcases Sx.bnd_cases hk with ⟨er,t,hx,rfl⟩ | ⟨a2,i2,n2,hx,hk⟩
    ·have K2:=show Hid (Calls Tryz.prog 233 #[.pointer (some ⟨p,0,none⟩)] w2 fun e w'=>Read w2 p b g cap ts d (.bad er t) e w') from HP.out f'' HR2.out.1 w2 _ _ d _ hS2 (by omega) hu HD.out hx
     have X2:=show Hid (KpP p w w2) from X.out.2.2.trans hk2
     clear hs hk hu hk2 HC HR2 X hS2 hx hl HP HD
     go_wp2_with fail
     refine K2.out.mono ?_
     rintro e w3 ⟨rfl,hk⟩
     have HK:=show Hid _ from X2.out.trans hk
     clear hk K2 X2
     unfold fltP
     go_wp2_with fail
     exact ⟨rfl,read_bad rfl HK.out⟩
    ·have K2:=show Hid (Calls Tryz.prog 233 #[.pointer (some ⟨p,0,none⟩)] w2 fun e w'=>Read w2 p b g cap ts d (.ok a2 i2 n2) e w') from HP.out f'' HR2.out.1 w2 _ _ d _ hS2 (by omega) hu HD.out hx
     have X2:=show Hid (Pts w2 p b a (.func (.func F1) #[] cp1)∧RS w2 p b g cap ts (i+1) (Sx.up ts i n) d∧KpP p w w2) from ⟨X.out.1.kpP X.out.2.1.rd hk2,hS2,X.out.2.2.trans hk2⟩
     have hf:=Sx.rd_fine ts f'' .both (i+1) _ d _ (by omega) hx _ _ _ rfl
     have HF:=show Hid (i<i2∧i2≤ts.length∧n2≤512∧f''≤f∧Sx.rd ts f'' (.ors (.bin 4 a a2)) i2 n2 d=some o) from ⟨by have:=hf.1;simp only [Sx.adv] at this;omega,hf.2.1,hf.2.2 hu,HR2.out.1,hk⟩
     clear hs hk hu hk2 HC HR2 X hS2 hx hl hf
     go_wp2_with fail
     refine K2.out.mono ?_
     rintro e w3 ⟨F2,cp2,rfl,hP3,hS3,hk3⟩
     have X3:=show Hid (Pts w3 p b a (.func (.func F1) #[] cp1)∧Pts w3 p b a2 (.func (.func F2) #[] cp2)∧RS w3 p b g cap ts i2 n2 d∧KpP p w w3) from ⟨X2.out.1.kpP X2.out.2.1.rd hk3,hP3,hS3,X2.out.2.2.trans hk3⟩
     clear hP3 hS3 hk3 K2 X2
     go_wp2_with fail
     refine (join_any w3 _ _ _ _ _ _ _ _ _).mono ?_
     rintro e w4 ⟨rfl,hw4⟩
     have HW4:=show Hid (RS w4 p b g cap ts i2 n2 d∧Pts w4 p b (.bin 4 a a2) (joinV w3.heap.size)∧KpP p w w4) from by
      rw [hw4]
      exact ⟨X3.out.2.2.1.later (joinW_below _ _ _ _),joinW_bin (k:=4) X3.out.1 X3.out.2.1,X3.out.2.2.2.trans (KpP.of_below (joinW_below _ _ _ _))⟩
     have HM2:=show Hid ((intOf ((w4.cell? ⟨p,2,none⟩).getD (.bool false))).toNat=i2) from by rw [HW4.out.1.rd.c2];rfl
     clear hw4 X3
     unfold joinV ptrV at *
     go_wp2_with fail
     go_roundw
     case rel=>exact ⟨.bin 4 a a2,i2,n2,f'',215,_,rfl,⟨HF.out.2.2.2.1,HF.out.2.2.2.2⟩,⟨HW4.out.2.1,HW4.out.1,HW4.out.2.2⟩,⟨HF.out.2.1,HF.out.2.2.1⟩⟩
     case measure =>
      have h1:=HM.out
      have h2:=HM2.out
      have h3:=HF.out
      rw [h1,h2]
      omega
set_option maxRecDepth 100000 in
set_option maxHeartbeats 1000000 in
theorem joined_con (f:Nat) (hp:∀ f'≤f,Con p b g cap ts 233 .both f'):Con p b g cap ts 213 .joined (f+1):=by
 intro w i n d o hS hi hn hd hr
 have hmf:=mkFunc
 have K:=show Hid (Calls Tryz.prog 232 #[.pointer (some ⟨p,0,none⟩),.string ⟨#[124]⟩,.func (.func 233) #[.pointer (some ⟨p,0,none⟩)] #[],.func (.func 234) #[.pointer (some ⟨b,0,none⟩)] #[]] w fun e w'=>Read w p b g cap ts d o e w') from chain_joined f hp w i n d o hS hi hn hd hr
 have c0:=hS.rd.c0
 clear hp hS hi hn hd hr
 cases o with
 | ok a i1 n1 =>
  go_enter Tryz.func213,Tryz.ntmps213
  go_wp2_with fail
  refine K.out.mono ?_
  rintro e w1 ⟨F1,cp1,rfl,hP1,hS1,hk1⟩
  have X1:=show Hid (Pts w1 p b a (.func (.func F1) #[] cp1)∧RS w1 p b g cap ts i1 n1 d∧KpP p w w1) from ⟨hP1,hS1,hk1⟩
  clear hP1 hS1 hk1 K
  go_wp2_with fail
  go_ret
  exact read_ok rfl X1.out.1 X1.out.2.1 X1.out.2.2
 | bad er t =>
  go_enter Tryz.func213,Tryz.ntmps213
  go_wp2_with fail
  refine K.out.mono ?_
  rintro e w1 ⟨rfl,hk⟩
  have HK:=show Hid _ from hk
  clear hk K
  unfold fltP
  go_wp2_with fail
  exact ⟨rfl,read_bad rfl HK.out⟩
set_option maxRecDepth 100000 in
set_option maxHeartbeats 4000000 in
theorem chain_both (f:Nat) (hp:∀ f'≤f,Con p b g cap ts 240 .single f') (w:World) (i n d:Nat) (o:Sx.Out) (hS:RS w p b g cap ts i n d) (hi:i≤ts.length) (hn:n≤512) (hd:d≤1024) (hr:Sx.rd ts (f+1) .both i n d=some o) :
 Calls Tryz.prog 232 #[.pointer (some ⟨p,0,none⟩),.string ⟨#[38]⟩,.func (.func 240) #[.pointer (some ⟨p,0,none⟩)] #[],.func (.func 67) #[.pointer (some ⟨b,0,none⟩)] #[]] w fun e w'=>Read w p b g cap ts d o e w':=by
 have HP:=show Hid (∀ f'≤f,Con p b g cap ts 240 .single f') from hp
 have HD:=show Hid (d≤1024) from hd
 rcases Sx.bnd_cases hr with ⟨er,t,hx,rfl⟩ | ⟨a,i1,n1,hx,hk⟩
 ·have K1:=show Hid (Calls Tryz.prog 240 #[.pointer (some ⟨p,0,none⟩)] w fun e w'=>Read w p b g cap ts d (.bad er t) e w') from hp f (Nat.le_refl _) w i n d _ hS hi hn hd hx
  clear hp hS hi hn hd hr hx HP
  go_enter Tryz.func232,Tryz.ntmps232
  go_wp2_with fail
  refine K1.out.mono ?_
  rintro e w1 ⟨rfl,hk⟩
  have HK:=show Hid _ from hk
  clear hk K1
  unfold fltP
  go_wp2_with fail
  exact ⟨rfl,read_bad rfl HK.out⟩
 ·have K1:=show Hid (Calls Tryz.prog 240 #[.pointer (some ⟨p,0,none⟩)] w fun e w'=>Read w p b g cap ts d (.ok a i1 n1) e w') from hp f (Nat.le_refl _) w i n d _ hS hi hn hd hx
  have hf:=Sx.rd_fine ts f .single i n d _ hi hx _ _ _ rfl
  have HF:=show Hid (i1≤ts.length∧n1≤512∧Sx.rd ts f (.ands a) i1 n1 d=some o) from ⟨hf.2.1,hf.2.2 hn,hk⟩
  clear hp hS hi hn hd hr hx hf hk
  go_enter Tryz.func232,Tryz.ntmps232
  go_wp2_with fail
  refine K1.out.mono ?_
  rintro e w1 ⟨F1,cp1,rfl,hP1,hS1,hk1⟩
  have X1:=show Hid (Pts w1 p b a (.func (.func F1) #[] cp1)∧RS w1 p b g cap ts i1 n1 d∧KpP p w w1) from ⟨hP1,hS1,hk1⟩
  clear hP1 hS1 hk1 K1
  go_wp2_with fail
  go_loopw [9] (fun v wr=>∃ (a:T) (i n f' F1:Nat) (cp:Array Value),v=.func (.func F1) #[] cp∧Hid (f'≤f∧Sx.rd ts f' (.ands a) i n d=some o)∧Hid (Pts wr p b a (.func (.func F1) #[] cp)∧RS wr p b g cap ts i n d∧KpP p w wr)∧Hid (i≤ts.length∧n≤512)) (fun _ wr=>ts.length - (intOf ((wr.cell? ⟨p,2,none⟩).getD (.bool false))).toNat)
  case atStart=>exact ⟨a,i1,n1,f,F1,cp1,rfl,⟨Nat.le_refl _,HF.out.2.2⟩,X1.out,⟨HF.out.1,HF.out.2.1⟩⟩
  case round =>
   clear X1 HF
   obtain ⟨a,i,n,f',F1,cp1,rfl,HR,X,HI⟩:=hrel
   have HM:=show Hid ((intOf ((wr.cell? ⟨p,2,none⟩).getD (.bool false))).toNat=i) from by rw [X.out.2.1.rd.c2];rfl
   have HC:=show Hid (Calls Tryz.prog 179 #[.pointer (some ⟨p,0,none⟩),.string ⟨#[38]⟩] wr fun e w'=>Signed wr p b g cap ts i n d [38] e w') from sign_any wr X.out.2.1 HI.out.2 HI.out.1 ⟨#[38]⟩
   obtain ⟨f'',HR2⟩:∃ f'',Hid (f''≤f∧(if Sx.sgn (Sx.tk ts i) [38] then Sx.stp ts i n fun n=>Sx.bnd (Sx.rd ts f'' .single (i+1) n d) fun b i n=>Sx.rd ts f'' (.ands (.bin 3 a b)) i n d else some (.ok a i n))=some o):=by
    have hr:=HR.out
    cases f' with
    | zero=>exact absurd hr.2 (by simp [Sx.rd])
    | succ f''=>exact ⟨f'',by omega,hr.2⟩
   clear HR
   go_wp2_with fail
   refine HC.out.mono ?_
   rintro e w2 (⟨hs,rfl,hb2⟩ | ⟨hs,⟨hu,rfl,hk2⟩ | ⟨hu,rfl,hS2,hk2⟩⟩)
   ·have hk:=HR2.out.2
    rw [hs] at hk
    simp only [Bool.false_eq_true,if_false,Option.some.injEq] at hk
    have X2:=show Hid (Pts w2 p b a (.func (.func F1) #[] cp1)∧RS w2 p b g cap ts i n d∧KpP p w w2) from ⟨X.out.1.later hb2,X.out.2.1.later hb2,X.out.2.2.trans (KpP.of_below hb2)⟩
    have HO:=show Hid _ from hk
    clear hs hb2 hk X HC HR2
    go_wp2_with fail
    go_ret
    exact read_ok HO.out.symm X2.out.1 X2.out.2.1 X2.out.2.2
   ·have hk:=HR2.out.2
    rw [hs] at hk
    simp only [if_true] at hk
    rcases Sx.stp_cases hk with ⟨_,ho⟩ | ⟨hu',_⟩
    ·have HO:=show Hid (_∧_) from ⟨ho,X.out.2.2.trans hk2⟩
     clear hs hk hu hk2 ho HC HR2 X
     unfold fltP
     go_wp2_with fail
     exact ⟨rfl,read_bad HO.out.1 HO.out.2⟩
    ·omega
   ·have hk:=HR2.out.2
    rw [hs] at hk
    simp only [if_true] at hk
    rcases Sx.stp_cases hk with ⟨hu',_⟩ | ⟨_,hk⟩
    ·omega
    have hl:=Sx.sgn_lt hs
    rcases Sx.bnd_cases hk with ⟨er,t,hx,rfl⟩ | ⟨a2,i2,n2,hx,hk⟩
    ·have K2:=show Hid (Calls Tryz.prog 240 #[.pointer (some ⟨p,0,none⟩)] w2 fun e w'=>Read w2 p b g cap ts d (.bad er t) e w') from HP.out f'' HR2.out.1 w2 _ _ d _ hS2 (by omega) hu HD.out hx
     have X2:=show Hid (KpP p w w2) from X.out.2.2.trans hk2
     clear hs hk hu hk2 HC HR2 X hS2 hx hl HP HD
     go_wp2_with fail
     refine K2.out.mono ?_
     rintro e w3 ⟨rfl,hk⟩
     have HK:=show Hid _ from X2.out.trans hk
     clear hk K2 X2
     unfold fltP
     go_wp2_with fail
     exact ⟨rfl,read_bad rfl HK.out⟩
    ·have K2:=show Hid (Calls Tryz.prog 240 #[.pointer (some ⟨p,0,none⟩)] w2 fun e w'=>Read w2 p b g cap ts d (.ok a2 i2 n2) e w') from HP.out f'' HR2.out.1 w2 _ _ d _ hS2 (by omega) hu HD.out hx
     have X2:=show Hid (Pts w2 p b a (.func (.func F1) #[] cp1)∧RS w2 p b g cap ts (i+1) (Sx.up ts i n) d∧KpP p w w2) from ⟨X.out.1.kpP X.out.2.1.rd hk2,hS2,X.out.2.2.trans hk2⟩
     have hf:=Sx.rd_fine ts f'' .single (i+1) _ d _ (by omega) hx _ _ _ rfl
     have HF:=show Hid (i<i2∧i2≤ts.length∧n2≤512∧f''≤f∧Sx.rd ts f'' (.ands (.bin 3 a a2)) i2 n2 d=some o) from ⟨by have:=hf.1;simp only [Sx.adv] at this;omega,hf.2.1,hf.2.2 hu,HR2.out.1,hk⟩
     clear hs hk hu hk2 HC HR2 X hS2 hx hl hf
     go_wp2_with fail
     refine K2.out.mono ?_
     rintro e w3 ⟨F2,cp2,rfl,hP3,hS3,hk3⟩
     have X3:=show Hid (Pts w3 p b a (.func (.func F1) #[] cp1)∧Pts w3 p b a2 (.func (.func F2) #[] cp2)∧RS w3 p b g cap ts i2 n2 d∧KpP p w w3) from ⟨X2.out.1.kpP X2.out.2.1.rd hk3,hP3,hS3,X2.out.2.2.trans hk3⟩
     clear hP3 hS3 hk3 K2 X2
     go_wp2_with fail
     refine (join_any w3 _ _ _ _ _ _ _ _ _).mono ?_
     rintro e w4 ⟨rfl,hw4⟩
     have HW4:=show Hid (RS w4 p b g cap ts i2 n2 d∧Pts w4 p b (.bin 3 a a2) (joinV w3.heap.size)∧KpP p w w4) from by
      rw [hw4]
      exact ⟨X3.out.2.2.1.later (joinW_below _ _ _ _),joinW_bin (k:=3) X3.out.1 X3.out.2.1,X3.out.2.2.2.trans (KpP.of_below (joinW_below _ _ _ _))⟩
     have HM2:=show Hid ((intOf ((w4.cell? ⟨p,2,none⟩).getD (.bool false))).toNat=i2) from by rw [HW4.out.1.rd.c2];rfl
     clear hw4 X3
     unfold joinV ptrV at *
     go_wp2_with fail
     go_roundw
     case rel=>exact ⟨.bin 3 a a2,i2,n2,f'',215,_,rfl,⟨HF.out.2.2.2.1,HF.out.2.2.2.2⟩,⟨HW4.out.2.1,HW4.out.1,HW4.out.2.2⟩,⟨HF.out.2.1,HF.out.2.2.1⟩⟩
     case measure =>
      have h1:=HM.out
      have h2:=HM2.out
      have h3:=HF.out
      rw [h1,h2]
      omega
set_option maxRecDepth 100000 in
set_option maxHeartbeats 1000000 in
theorem both_con (f:Nat) (hp:∀ f'≤f,Con p b g cap ts 240 .single f'):Con p b g cap ts 233 .both (f+1):=by
 intro w i n d o hS hi hn hd hr
 have hmf:=mkFunc
 have K:=show Hid (Calls Tryz.prog 232 #[.pointer (some ⟨p,0,none⟩),.string ⟨#[38]⟩,.func (.func 240) #[.pointer (some ⟨p,0,none⟩)] #[],.func (.func 67) #[.pointer (some ⟨b,0,none⟩)] #[]] w fun e w'=>Read w p b g cap ts d o e w') from chain_both f hp w i n d o hS hi hn hd hr
 have c0:=hS.rd.c0
 clear hp hS hi hn hd hr
 cases o with
 | ok a i1 n1 =>
  go_enter Tryz.func233,Tryz.ntmps233
  go_wp2_with fail
  refine K.out.mono ?_
  rintro e w1 ⟨F1,cp1,rfl,hP1,hS1,hk1⟩
  have X1:=show Hid (Pts w1 p b a (.func (.func F1) #[] cp1)∧RS w1 p b g cap ts i1 n1 d∧KpP p w w1) from ⟨hP1,hS1,hk1⟩
  clear hP1 hS1 hk1 K
  go_wp2_with fail
  go_ret
  exact read_ok rfl X1.out.1 X1.out.2.1 X1.out.2.2
 | bad er t =>
  go_enter Tryz.func233,Tryz.ntmps233
  go_wp2_with fail
  refine K.out.mono ?_
  rintro e w1 ⟨rfl,hk⟩
  have HK:=show Hid _ from hk
  clear hk K
  unfold fltP
  go_wp2_with fail
  exact ⟨rfl,read_bad rfl HK.out⟩
end
end Go.Proofs.YtkmmlimekachbaaGreatDoor
/-
  The reader's calls word, enclosed, single; and all of them together. For every list of tokens. No other condition.
-/
namespace Go.Proofs.YtkmmlimekachbaaGreatDoor
open Go.RowKit Go.Maps
open Fm (Nd)
open Sx (Tn T Lv)
theorem store_fun (w:World) (fn:Fn) (a c:Array Value) (v:Value) (ty:TypeId):(store ⟨w.heap.size,0,none⟩ (.func fn a c)).run Tryz.prog (w.alloc (.cells #[v] ty))=.ok () (w.alloc (.cells #[.func fn a c] ty)):=by
 rw [run_store Tryz.prog _ _ _ _ rfl]
 simp [go_sem]
section
variable {p b g:Nat} {cap:Cp} {ts:List Tn}
theorem refuse_eq (ts:List Tn) (i n:Nat):Sx.refuse ts i n=.bad (if 512<Sx.up ts i n then 40 else 41) (Sx.tk ts i):=by
 unfold Sx.refuse
 split <;> rfl
theorem tk_size {ts:List Tn} (hz:∀ t ∈ ts,t.s.size≤140737488351232) (i:Nat):(Sx.tk ts i).s.size≤140737488351232:=by
 by_cases h:i<ts.length
 ·rw [tk_get h];exact hz _ (List.getElem_mem h)
 ·rw [tk_out (by omega)];exact Nat.zero_le _
set_option maxRecDepth 100000 in
set_option maxHeartbeats 1000000 in
theorem word_con (hz:∀ t ∈ ts,t.s.size≤140737488351232) (w:World) (i n d:Nat) (o:Sx.Out) (hS:RS w p b g cap ts i n d) (hi:i≤ts.length) (hn:n≤512)
 (hr:(match Sx.named (Sx.tk ts i).s with | none=>some (Sx.refuse ts i n) | some a=>Sx.stp ts i n fun n=>some (.ok a (i+1) n))=some o) :
 Calls Tryz.prog 245 #[.pointer (some ⟨p,0,none⟩)] w fun e w'=>Read w p b g cap ts d o e w':=by
 have KP:=show Hid (Calls Tryz.prog 145 #[.pointer (some ⟨p,0,none⟩)] w fun e w'=>e=.returned (tnV (Sx.tk ts i))∧Below w.heap.size w w') from peek_any w hS
 have KN:=show Hid (∀ w,Calls Tryz.prog 247 #[.pointer (some ⟨p,0,none⟩),.string (Sx.tk ts i).s] w fun e w'=>Named w p b (Sx.tk ts i).s e w') from fun w=>named_any w (Sx.tk ts i).s (tk_size hz i)
 have KS:=show Hid (∀ w1,Below w.heap.size w w1→Calls Tryz.prog 182 #[.pointer (some ⟨p,0,none⟩)] w1 fun e w'=>Stepped w1 p b g cap ts i n d (.returned (.tuple #[])) e w') from fun w1 hb=>step_any w1 (hS.later hb) hn hi
 have KR:=show Hid (∀ w1,Below w.heap.size w w1→Calls Tryz.prog 146 #[.pointer (some ⟨p,0,none⟩)] w1 fun e w'=>e=fltP (if 512<Sx.up ts i n then 40 else 41) (Sx.tk ts i)∧KpP p w1 w') from fun w1 hb=>refuse_any w1 (hS.later hb) hn hi
 have HR:=show Hid _ from hr
 have hfd:=field_tok1
 have hen:=eql_nil
 have hef:=eql_fun
 have HS:=show Hid (RS w p b g cap ts i n d) from hS
 clear hS hi hn hz hr
 generalize htk:Sx.tk ts i=t at *
 have HTK:=show Hid _ from htk
 clear htk
 obtain ⟨tk,tx,tn,tl,tc,to⟩:=t
 simp only at *
 unfold tnV at *
 go_enter Tryz.func245,Tryz.ntmps245
 go_wp2_with fail
 refine KP.out.mono ?_
 rintro e w1 ⟨rfl,hb1⟩
 have HB1:=show Hid (Below w.heap.size w w1) from hb1
 clear hb1 KP
 go_wp2_with fail
 refine (KN.out _).mono ?_
 rintro e w2 ⟨⟨hn,rfl⟩ | ⟨a,F,cp,hn,rfl,hP⟩,hb2⟩
 ·have HB2:=show Hid (Below w.heap.size w w2) from HB1.out.trans (hb2.mono HB1.out.size)
  have hk:=HR.out
  rw [hn] at hk
  simp only [Option.some.injEq] at hk
  rw [refuse_eq,HTK.out] at hk
  have HO:=show Hid _ from hk
  clear hb2 hn hk HB1 KN HR
  go_wp2_with fail
  refine (KR.out _ HB2.out).mono ?_
  rintro e w3 ⟨rfl,hk3⟩
  have HK3:=show Hid _ from hk3
  clear hk3 KR
  generalize (if 512<Sx.up ts i n then (40:Int) else 41)=ec at *
  unfold fltP
  go_wp2_with fail
  exact ⟨rfl,read_bad HO.out.symm ((KpP.of_below (p:=p) HB2.out).trans HK3.out)⟩
 ·have HB2:=show Hid (Below w.heap.size w w2∧Pts w2 p b a (.func (.func F) #[] cp)) from ⟨HB1.out.trans (hb2.mono HB1.out.size),hP⟩
  have hk:=HR.out
  rw [hn] at hk
  simp only at hk
  have HK:=show Hid _ from hk
  clear hb2 hn hk HB1 KN HR hP
  go_wp2_with fail
  refine (KS.out _ HB2.out.1).mono ?_
  rintro e w3 (⟨hu,rfl,hk3⟩ | ⟨hu,rfl,hS3,hk3⟩)
  ·rcases Sx.stp_cases HK.out with ⟨_,ho⟩ | ⟨hu',_⟩
   ·have HO:=show Hid (_∧_) from ⟨ho,(KpP.of_below (p:=p) HB2.out.1).trans hk3⟩
    clear hu hk3 ho HK KS HB2
    unfold fltP
    go_wp2_with fail
    exact ⟨rfl,read_bad HO.out.1 HO.out.2⟩
   ·omega
  ·rcases Sx.stp_cases HK.out with ⟨hu',_⟩ | ⟨_,ho⟩
   ·omega
   have X:=show Hid (Pts w3 p b a (.func (.func F) #[] cp)∧RS w3 p b g cap ts (i+1) (Sx.up ts i n) d∧KpP p w w3) from ⟨HB2.out.2.kpP (HS.out.later HB2.out.1).rd hk3,hS3,(KpP.of_below (p:=p) HB2.out.1).trans hk3⟩
   have HO:=show Hid _ from Option.some.inj ho
   clear hu hk3 ho HK KS HB2 hS3
   go_wp2_with fail
   go_ret
   exact read_ok HO.out.symm X.out.1 X.out.2.1 X.out.2.2
set_option maxRecDepth 100000 in
set_option maxHeartbeats 2000000 in
theorem enclosed_con (f:Nat) (hf:Con p b g cap ts 144 .formula f) (w:World) (i n d:Nat) (o:Sx.Out) (hS:RS w p b g cap ts i n d) (hi:i<ts.length) (hn:n≤512) (hd:d≤1024)
 (hr:(if d=1024 then some (Sx.refuse ts i n) else Sx.stp ts i n fun n=>Sx.bnd (Sx.rd ts f .formula (i+1) n (d+1)) fun a i n=>if Sx.sgn (Sx.tk ts i) Sx.sShut then Sx.stp ts i n fun n=>some (.ok a (i+1) n) else some (Sx.refuse ts i n))=some o) :
 Calls Tryz.prog 244 #[.pointer (some ⟨p,0,none⟩)] w fun e w'=>Read w p b g cap ts d o e w':=by
 have KR:=show Hid (∀ w1 i n d,RS w1 p b g cap ts i n d→n≤512→i≤ts.length→Calls Tryz.prog 146 #[.pointer (some ⟨p,0,none⟩)] w1 fun e w'=>e=fltP (if 512<Sx.up ts i n then 40 else 41) (Sx.tk ts i)∧KpP p w1 w') from fun w1 i n d h hn hi=>refuse_any w1 h hn hi
 have KS:=show Hid (Calls Tryz.prog 182 #[.pointer (some ⟨p,0,none⟩)] w fun e w'=>Stepped w p b g cap ts i n d (.returned (.tuple #[])) e w') from step_any w hS hn (by omega)
 have HS:=show Hid (RS w p b g cap ts i n d∧n≤512∧i<ts.length) from ⟨hS,hn,hi⟩
 have HF:=show Hid (Con p b g cap ts 144 .formula f) from hf
 have c4:=hS.rd.c4
 clear hS hi hn hf
 by_cases hd1:d=1024
 ·rw [if_pos hd1,Option.some.injEq,refuse_eq] at hr
  have HO:=show Hid _ from hr
  subst hd1
  clear hr hd
  go_enter Tryz.func244,Tryz.ntmps244
  go_wp2_with fail
  refine (KR.out w i n 1024 HS.out.1 HS.out.2.1 (by have:=HS.out.2.2;omega)).mono ?_
  rintro e w3 ⟨rfl,hk3⟩
  have HK3:=show Hid _ from hk3
  clear hk3 KR KS
  generalize (if 512<Sx.up ts i n then (40:Int) else 41)=ec at *
  unfold fltP
  go_wp2_with fail
  exact ⟨rfl,read_bad HO.out.symm HK3.out⟩
 ·rw [if_neg hd1] at hr
  have HK:=show Hid _ from hr
  have hd2:((d:Int) == 1024)=false:=by simp;omega
  have hd3:(d:Int)≤1023:=by omega
  have hd4:0≤(d:Int):=by omega
  have HD:=show Hid (d≤1023) from (by omega:d≤1023)
  clear hr hd hd1
  go_enter Tryz.func244,Tryz.ntmps244
  go_wp2_with fail
  refine KS.out.mono ?_
  rintro e w1 (⟨hu,rfl,hk1⟩ | ⟨hu,rfl,hS1,hk1⟩)
  ·rcases Sx.stp_cases HK.out with ⟨_,ho⟩ | ⟨hu',_⟩
   ·have HO:=show Hid (_∧_) from ⟨ho,hk1⟩
    clear hu hk1 ho HK KS KR
    unfold fltP
    go_wp2_with fail
    exact ⟨rfl,read_bad HO.out.1 HO.out.2⟩
   ·omega
  ·rcases Sx.stp_cases HK.out with ⟨hu',_⟩ | ⟨_,hk⟩
   ·omega
   have d4:=hS1.rd.c4
   have df:=hS1.rd.fr
   have X1:=show Hid (RS (w1.setCell ⟨p,4,none⟩ (.int .i64 (d+1:Nat))) p b g cap ts (i+1) (Sx.up ts i n) (d+1)∧KpP p w (w1.setCell ⟨p,4,none⟩ (.int .i64 (d+1:Nat)))) from ⟨hS1.s4 (d+1),hk1.set _ _⟩
   have hcast:((d+1:Nat):Int)=(d:Int)+1:=by omega
   rw [hcast] at X1
   clear hcast
   rcases Sx.bnd_cases hk with ⟨er,t,hx,rfl⟩ | ⟨a,i2,n2,hx,hk⟩
   ·have K2:=show Hid (Calls Tryz.prog 144 #[.pointer (some ⟨p,0,none⟩)] (w1.setCell ⟨p,4,none⟩ (.int .i64 ((d:Int)+1))) fun e w'=>Read (w1.setCell ⟨p,4,none⟩ (.int .i64 ((d:Int)+1))) p b g cap ts (d+1) (.bad er t) e w') from HF.out _ _ _ _ _ X1.out.1 (by have:=HS.out.2.2;omega) hu (by have:=HD.out;omega) hx
    clear hu hk1 hS1 HK KS KR hk hx HF HS HD
    go_wp2_with fail
    refine K2.out.mono ?_
    rintro e w3 ⟨rfl,hk⟩
    have HK:=show Hid _ from X1.out.2.trans hk
    clear hk K2 X1
    unfold fltP
    go_wp2_with fail
    exact ⟨rfl,read_bad rfl HK.out⟩
   ·have K2:=show Hid (Calls Tryz.prog 144 #[.pointer (some ⟨p,0,none⟩)] (w1.setCell ⟨p,4,none⟩ (.int .i64 ((d:Int)+1))) fun e w'=>Read (w1.setCell ⟨p,4,none⟩ (.int .i64 ((d:Int)+1))) p b g cap ts (d+1) (.ok a i2 n2) e w') from HF.out _ _ _ _ _ X1.out.1 (by have:=HS.out.2.2;omega) hu (by have:=HD.out;omega) hx
    have hfi:=Sx.rd_fine ts f .formula (i+1) _ (d+1) _ (by have:=HS.out.2.2;omega) hx _ _ _ rfl
    have HFI:=show Hid (i2≤ts.length∧n2≤512) from ⟨hfi.2.1,hfi.2.2 hu⟩
    have HK2:=show Hid _ from hk
    clear hu hk1 hS1 HK KS hk hx HF HS hfi
    go_wp2_with fail
    clear d4 df
    refine K2.out.mono ?_
    rintro e w3 ⟨F2,cp2,rfl,hP3,hS3,hk3⟩
    have X3:=show Hid (Pts w3 p b a (.func (.func F2) #[] cp2)∧RS w3 p b g cap ts i2 n2 (d+1)∧KpP p w w3) from ⟨hP3,hS3,X1.out.2.trans hk3⟩
    clear hP3 hS3 hk3 K2 X1
    have HC:=show Hid (Calls Tryz.prog 179 #[.pointer (some ⟨p,0,none⟩),.string ⟨#[41]⟩] w3 fun e w'=>Signed w3 p b g cap ts i2 n2 (d+1) [41] e w') from sign_any w3 X3.out.2.1 HFI.out.2 HFI.out.1 ⟨#[41]⟩
    go_wp2_with fail
    refine HC.out.mono ?_
    rintro e w4 (⟨hs,rfl,hb4⟩ | ⟨hs,⟨hu,rfl,hk4⟩ | ⟨hu,rfl,hS4,hk4⟩⟩)
    ·have hk:=HK2.out
     rw [show Sx.sShut=[41] from rfl,hs] at hk
     simp only [Bool.false_eq_true,if_false,Option.some.injEq] at hk
     rw [refuse_eq] at hk
     have HO:=show Hid (_∧KpP p w w4∧RS w4 p b g cap ts i2 n2 (d+1)) from ⟨hk,X3.out.2.2.trans (KpP.of_below hb4),X3.out.2.1.later hb4⟩
     clear hs hb4 hk X3 HC HK2
     go_wp2_with fail
     refine (KR.out w4 i2 n2 (d+1) HO.out.2.2 HFI.out.2 HFI.out.1).mono ?_
     rintro e w5 ⟨rfl,hk5⟩
     have HK5:=show Hid _ from hk5
     clear hk5 KR
     generalize (if 512<Sx.up ts i2 n2 then (40:Int) else 41)=ec at *
     unfold fltP
     go_wp2_with fail
     exact ⟨rfl,read_bad HO.out.1.symm (HO.out.2.1.trans HK5.out)⟩
    ·have hk:=HK2.out
     rw [show Sx.sShut=[41] from rfl,hs] at hk
     simp only [if_true] at hk
     rcases Sx.stp_cases hk with ⟨_,ho⟩ | ⟨hu',_⟩
     ·have HO:=show Hid (_∧_) from ⟨ho,X3.out.2.2.trans hk4⟩
      clear hs hk hu hk4 ho HC HK2 X3 KR
      unfold fltP
      go_wp2_with fail
      exact ⟨rfl,read_bad HO.out.1 HO.out.2⟩
     ·omega
    ·have hk:=HK2.out
     rw [show Sx.sShut=[41] from rfl,hs] at hk
     simp only [if_true] at hk
     rcases Sx.stp_cases hk with ⟨hu',_⟩ | ⟨_,ho⟩
     ·omega
     have d4:=hS4.rd.c4
     have df:=hS4.rd.fr
     have hcast:((d+1:Nat):Int)=(d:Int)+1:=by omega
     rw [hcast] at d4
     clear hcast
     have X4:=show Hid (Pts (w4.setCell ⟨p,4,none⟩ (.int .i64 (d:Nat))) p b a (.func (.func F2) #[] cp2)∧RS (w4.setCell ⟨p,4,none⟩ (.int .i64 (d:Nat))) p b g cap ts (i2+1) (Sx.up ts i2 n2) d∧KpP p w (w4.setCell ⟨p,4,none⟩ (.int .i64 (d:Nat)))) from ⟨X3.out.1.kpP X3.out.2.1.rd (hk4.set _ _),hS4.s4 d,(X3.out.2.2.trans hk4).set _ _⟩
     have HO:=show Hid _ from Option.some.inj ho
     clear hs hk hu hk4 ho HC HK2 X3 KR hS4
     go_wp2_with fail
     go_ret
     exact read_ok HO.out.symm X4.out.1 X4.out.2.1 X4.out.2.2
set_option maxRecDepth 100000 in
set_option maxHeartbeats 4000000 in
theorem single_con (hz:∀ t ∈ ts,t.s.size≤140737488351232) (f:Nat) (h1:Con p b g cap ts 240 .single f) (h2:Con p b g cap ts 144 .formula f):Con p b g cap ts 240 .single (f+1):=by
 intro w i n d o hS hi hn hd hr
 have hmf:=mkFunc
 have hfd:=field_tok0
 have hsf:=store_fun
 have HZ:=show Hid (∀ t ∈ ts,t.s.size≤140737488351232) from hz
 have H1:=show Hid (Con p b g cap ts 240 .single f) from h1
 have H2:=show Hid (Con p b g cap ts 144 .formula f) from h2
 unfold Sx.rd at hr
 obtain ⟨w0,hw0⟩:∃ w0,w0=w.alloc (Obj.cells #[.pointer (some ⟨p,0,none⟩)] 169):=⟨_,rfl⟩
 have hb0:Below w.heap.size w w0:=by rw [hw0];exact below_alloc w _
 have hx0:Box w0 w.heap.size (ptrV p) 169:=by rw [hw0];exact heap_alloc_new w _
 have hS0:=hS.later hb0
 have hne:w.heap.size≠p:=by have:=hS.rd.lt;omega
 have HX0:=show Hid (Below w.heap.size w w0∧Box w0 w.heap.size (ptrV p) 169∧w.heap.size≠p) from ⟨hb0,hx0,hne⟩
 have x0:=hx0.c0
 unfold ptrV at x0
 have HC:=show Hid (Calls Tryz.prog 179 #[.pointer (some ⟨p,0,none⟩),.string ⟨#[126]⟩] w0 fun e w'=>Signed w0 p b g cap ts i n d [126] e w') from sign_any w0 hS0 hn hi ⟨#[126]⟩
 have HI:=show Hid (i≤ts.length∧n≤512∧d≤1024∧RS w0 p b g cap ts i n d) from ⟨hi,hn,hd,hS0⟩
 have HR:=show Hid _ from hr
 clear h1 h2 hS hS0 hi hn hd hr hz hb0 hx0 hne
 go_enter Tryz.func240,Tryz.ntmps240
 go_wp2_with fail
 rw [← hw0]
 clear hw0
 refine HC.out.mono ?_
 rintro e w1 (⟨hs,rfl,hb1⟩ | ⟨hs,⟨hu,rfl,hk1⟩ | ⟨hu,rfl,hS1,hk1⟩⟩)
 ·have hr:=HR.out
  rw [show Sx.sNot=[126] from rfl,hs] at hr
  simp only [Bool.false_eq_true,if_false] at hr
  have hx1:Box w1 w.heap.size (ptrV p) 169:=(hb1.block _ HX0.out.2.1.lt).trans HX0.out.2.1
  have X1:=show Hid (RS w1 p b g cap ts i n d∧Box w1 w.heap.size (ptrV p) 169∧Below w.heap.size w w1) from ⟨HI.out.2.2.2.later hb1,hx1,HX0.out.1.trans (hb1.mono HX0.out.1.size)⟩
  have y0:=hx1.c0
  unfold ptrV at y0
  have KA:=show Hid (Calls Tryz.prog 214 #[.pointer (some ⟨p,0,none⟩),.string ⟨#[40]⟩] w1 fun e w'=>e=.returned (.bool (Sx.sgn (Sx.tk ts i) [40]))∧Below w1.heap.size w1 w') from at_any w1 X1.out.1 ⟨#[40]⟩
  have HR2:=show Hid _ from hr
  clear hs hb1 hx1 hr HR HC x0
  generalize hq:Sx.sgn (Sx.tk ts i) [40]=q at *
  have HQ:=show Hid _ from hq
  clear hq
  go_wp2_with fail
  refine KA.out.mono ?_
  rintro e w2 ⟨rfl,hb2⟩
  have hx2:Box w2 w.heap.size (ptrV p) 169:=(hb2.block _ X1.out.2.1.lt).trans X1.out.2.1
  have X2:=show Hid (RS w2 p b g cap ts i n d∧Box w2 w.heap.size (ptrV p) 169∧Below w.heap.size w w2) from ⟨X1.out.1.later hb2,hx2,X1.out.2.2.trans (hb2.mono X1.out.2.2.size)⟩
  have z0:=hx2.c0
  unfold ptrV at z0
  clear hb2 hx2 KA X1 y0
  cases q
  ·have hr:=HR2.out
   simp only [Bool.false_eq_true,if_false] at hr
   have KP:=show Hid (Calls Tryz.prog 145 #[.pointer (some ⟨p,0,none⟩)] w2 fun e w'=>e=.returned (tnV (Sx.tk ts i))∧Below w2.heap.size w2 w') from peek_any w2 X2.out.1
   have HR3:=show Hid _ from hr
   clear hr HR2
   generalize htk:Sx.tk ts i=t at *
   have HTK:=show Hid _ from htk
   clear htk
   obtain ⟨tk,tx,tn,tl,tc,to⟩:=t
   unfold tnV at *
   go_wp2_with fail
   refine KP.out.mono ?_
   rintro e w3 ⟨rfl,hb3⟩
   have hx3:Box w3 w.heap.size (ptrV p) 169:=(hb3.block _ X2.out.2.1.lt).trans X2.out.2.1
   have X3:=show Hid (RS w3 p b g cap ts i n d∧Below w.heap.size w w3) from ⟨X2.out.1.later hb3,X2.out.2.2.trans (hb3.mono X2.out.2.2.size)⟩
   have v0:=hx3.c0
   unfold ptrV at v0
   clear hb3 hx3 KP X2 z0
   by_cases hk:tk=1
   ·subst hk
    have hr:=HR3.out
    rw [if_pos rfl] at hr
    have KW:=show Hid (Calls Tryz.prog 245 #[.pointer (some ⟨p,0,none⟩)] w3 fun e w'=>Read w3 p b g cap ts d o e w') from word_con HZ.out w3 i n d o X3.out.1 HI.out.1 HI.out.2.1 (by rw [HTK.out];exact hr)
    clear hr HR3
    go_wp2_with fail
    cases o with
    | ok a i4 n4 =>
     refine KW.out.mono ?_
     rintro e w4 ⟨F4,cp4,rfl,hP4,hS4,hk4⟩
     have X4:=show Hid (Pts w4 p b a (.func (.func F4) #[] cp4)∧RS w4 p b g cap ts i4 n4 d∧KpP p w w4) from ⟨hP4,hS4,(KpP.of_below (p:=p) X3.out.2).trans hk4⟩
     clear hP4 hS4 hk4 KW
     go_wp2_with fail
     go_ret
     exact read_ok rfl X4.out.1 X4.out.2.1 X4.out.2.2
    | bad er t =>
     refine KW.out.mono ?_
     rintro e w4 ⟨rfl,hk4⟩
     have HK4:=show Hid _ from (KpP.of_below (p:=p) X3.out.2).trans hk4
     clear hk4 KW
     unfold fltP
     go_wp2_with fail
     exact ⟨rfl,read_bad rfl HK4.out⟩
   ·have hr:=HR3.out
    rw [if_neg hk,Option.some.injEq,refuse_eq,HTK.out] at hr
    have hk2:(tk == 1)=false:=by simp [hk]
    have KR:=show Hid (Calls Tryz.prog 146 #[.pointer (some ⟨p,0,none⟩)] w3 fun e w'=>e=fltP (if 512<Sx.up ts i n then 40 else 41) (Sx.tk ts i)∧KpP p w3 w') from refuse_any w3 X3.out.1 HI.out.2.1 HI.out.1
    have HO:=show Hid _ from hr
    clear hr HR3 hk
    rw [HTK.out] at KR
    generalize (if 512<Sx.up ts i n then (40:Int) else 41)=ec at *
    go_wp2_with fail
    refine KR.out.mono ?_
    rintro e w4 ⟨rfl,hk4⟩
    have HK4:=show Hid _ from (KpP.of_below (p:=p) X3.out.2).trans hk4
    clear hk4 KR
    unfold fltP
    go_wp2_with fail
    exact ⟨rfl,read_bad HO.out.symm HK4.out⟩
  ·have hr:=HR2.out
   simp only [if_true] at hr
   have KE:=show Hid (Calls Tryz.prog 244 #[.pointer (some ⟨p,0,none⟩)] w2 fun e w'=>Read w2 p b g cap ts d o e w') from enclosed_con f H2.out w2 i n d o X2.out.1 (Sx.sgn_lt HQ.out) HI.out.2.1 HI.out.2.2.1 hr
   clear hr HR2
   go_wp2_with fail
   cases o with
   | ok a i4 n4 =>
    refine KE.out.mono ?_
    rintro e w4 ⟨F4,cp4,rfl,hP4,hS4,hk4⟩
    have X4:=show Hid (Pts w4 p b a (.func (.func F4) #[] cp4)∧RS w4 p b g cap ts i4 n4 d∧KpP p w w4) from ⟨hP4,hS4,(KpP.of_below (p:=p) X2.out.2.2).trans hk4⟩
    clear hP4 hS4 hk4 KE
    go_wp2_with fail
    go_ret
    exact read_ok rfl X4.out.1 X4.out.2.1 X4.out.2.2
   | bad er t =>
    refine KE.out.mono ?_
    rintro e w4 ⟨rfl,hk4⟩
    have HK4:=show Hid _ from (KpP.of_below (p:=p) X2.out.2.2).trans hk4
    clear hk4 KE
    unfold fltP
    go_wp2_with fail
    exact ⟨rfl,read_bad rfl HK4.out⟩
 ·have hr:=HR.out
  rw [show Sx.sNot=[126] from rfl,hs] at hr
  simp only [if_true] at hr
  rcases Sx.stp_cases hr with ⟨_,ho⟩ | ⟨hu',_⟩
  ·have HO:=show Hid (_∧_) from ⟨ho,(KpP.of_below (p:=p) HX0.out.1).trans hk1⟩
   clear hs hr hu hk1 ho HC HR
   unfold fltP
   go_wp2_with fail
   exact ⟨rfl,read_bad HO.out.1 HO.out.2⟩
  ·omega
 ·have hr:=HR.out
  rw [show Sx.sNot=[126] from rfl,hs] at hr
  simp only [if_true] at hr
  rcases Sx.stp_cases hr with ⟨hu',_⟩ | ⟨_,hk⟩
  ·omega
  have hl:=Sx.sgn_lt hs
  have hx1:Box w1 w.heap.size (ptrV p) 169:=(hk1.block _ HX0.out.2.1.lt HX0.out.2.2).trans HX0.out.2.1
  have X1:=show Hid (Box w1 w.heap.size (ptrV p) 169∧KpP p w w1) from ⟨hx1,(KpP.of_below (p:=p) HX0.out.1).trans hk1⟩
  have y0:=hx1.c0
  unfold ptrV at y0
  rcases Sx.bnd_cases hk with ⟨er,t,hx,rfl⟩ | ⟨a,i2,n2,hx,hk⟩
  ·have K2:=show Hid (Calls Tryz.prog 240 #[.pointer (some ⟨p,0,none⟩)] w1 fun e w'=>Read w1 p b g cap ts d (.bad er t) e w') from H1.out w1 _ _ d _ hS1 (by omega) hu HI.out.2.2.1 hx
   clear hs hr hu hk1 hk HC HR hx hl hS1 hx1 x0
   go_wp2_with fail
   refine K2.out.mono ?_
   rintro e w3 ⟨rfl,hk⟩
   have HK:=show Hid _ from X1.out.2.trans hk
   clear hk K2 X1
   unfold fltP
   go_wp2_with fail
   exact ⟨rfl,read_bad rfl HK.out⟩
  ·have K2:=show Hid (Calls Tryz.prog 240 #[.pointer (some ⟨p,0,none⟩)] w1 fun e w'=>Read w1 p b g cap ts d (.ok a i2 n2) e w') from H1.out w1 _ _ d _ hS1 (by omega) hu HI.out.2.2.1 hx
   have HO:=show Hid _ from Option.some.inj hk
   clear hs hr hu hk1 hk HC HR hx hl hS1 hx1 x0
   go_wp2_with fail
   refine K2.out.mono ?_
   rintro e w3 ⟨F3,cp3,rfl,hP3,hS3,hk3⟩
   have hlt3:w.heap.size<w3.heap.size:=Nat.lt_of_lt_of_le X1.out.1.lt hk3.size
   have hb4:Below w3.heap.size w3 (w3.alloc (Obj.cells #[.func (.func F3) #[] cp3] 205)):=below_alloc _ _
   have X3:=show Hid (Pts (w3.alloc (Obj.cells #[.func (.func F3) #[] cp3] 205)) p b (.neg a) (.func (.func 242) #[] #[ptrV w.heap.size,ptrV w3.heap.size])∧RS (w3.alloc (Obj.cells #[.func (.func F3) #[] cp3] 205)) p b g cap ts i2 n2 d∧KpP p w (w3.alloc (Obj.cells #[.func (.func F3) #[] cp3] 205))) from
    ⟨⟨w.heap.size,w3.heap.size,_,rfl,(hb4.block _ hlt3).trans ((hk3.block _ X1.out.1.lt HX0.out.2.2).trans X1.out.1),heap_alloc_new _ _,hP3.later hb4⟩,hS3.later hb4,(X1.out.2.trans hk3).trans (KpP.of_below hb4)⟩
   clear hP3 hS3 hk3 K2 X1 hb4 y0
   go_wp2_with fail
   go_ret
   exact read_ok HO.out.symm X3.out.1 X3.out.2.1 X3.out.2.2
theorem all_con (hz:∀ t ∈ ts,t.s.size≤140737488351232):∀ f:Nat,(∀ f'≤f,Con p b g cap ts 144 .formula f')∧(∀ f'≤f,Con p b g cap ts 178 .implied f')∧(∀ f'≤f,Con p b g cap ts 213 .joined f')∧(∀ f'≤f,Con p b g cap ts 233 .both f')∧∀ f'≤f,Con p b g cap ts 240 .single f'
 | 0=>by
  have h0:∀ F lv,Con p b g cap ts F lv 0:=fun F lv w i n d o _ _ _ _ h=>by cases h
  refine ⟨?_,?_,?_,?_,?_⟩ <;> (intro f' hf';obtain rfl:f'=0:=(by omega);exact h0 _ _)
 | f+1=>by
  obtain ⟨h1,h2,h3,h4,h5⟩:=all_con hz f
  refine ⟨?_,?_,?_,?_,?_⟩ <;> intro f' hf' <;> by_cases he:f'≤f
  ·exact h1 f' he
  ·obtain rfl:f'=f+1:=by omega
   exact formula_con f (h2 f (Nat.le_refl _)) (h1 f (Nat.le_refl _))
  ·exact h2 f' he
  ·obtain rfl:f'=f+1:=by omega
   exact implied_con f (h3 f (Nat.le_refl _)) (h2 f (Nat.le_refl _))
  ·exact h3 f' he
  ·obtain rfl:f'=f+1:=by omega
   exact joined_con f h4
  ·exact h4 f' he
  ·obtain rfl:f'=f+1:=by omega
   exact both_con f h5
  ·exact h5 f' he
  ·obtain rfl:f'=f+1:=by omega
   exact single_con hz f (h5 f (Nat.le_refl _)) (h1 f (Nat.le_refl _))
end
end Go.Proofs.YtkmmlimekachbaaGreatDoor
