/-
  The document's fine: are a world's names names that rise? No condition.
-/
import Derived.Test.YtoedidbbjnnpnaaTH16
namespace Go.Proofs.Ytoedidbbjnnpnaa.Wm
open Go.RowKit Go.Maps
open Wd (names lt)
set_option linter.unusedSimpArgs false
theorem wanted_undef {ops:Array Oper} {o:Oper} {a:Act} {j t:Nat} {want:Bool} (hg:o.guard=some (j,want)) (hj:(ops[j]?).bind (·.dst)=some t) (ht:a.tmps[t]?=some undef):Region.wanted o (yielded ops a.tmps)=false:=by
 have hy:yielded ops a.tmps j=none:=by
  unfold yielded
  rw [hj]
  show (match a.tmps[t]? with | some (.bool b)=>some b | _=>none)=none
  rw [ht]
  rfl
 simp only [Region.wanted,hg,hy]
 cases want <;> rfl
theorem bgeq (x y:ByteArray):(!Op.bytesLess x.toList y.toList) = !lt x y:=by rw [bless]
set_option maxRecDepth 100000 in
set_option maxHeartbeats 4000000 in
theorem fine_any (w:World) {Ls:Nat} {v:Value} {l:List ByteArray} (hl:IsN w Ls v l) (hLs:Ls≤w.heap.size) (hlen:l.length≤140737488351232) (hx:∀ x ∈ l,x.size≤140737488351232) :
 Calls Try.prog 59 #[v] w fun e w'=>e=.returned (.bool (names none l))∧Below w.heap.size w w':=by
 obtain ⟨q,c,rfl,hat⟩:=hl
 have HA:=show Hid (0<l.length→∃ b o,b<w.heap.size∧q=some ⟨b,o,none⟩∧∀ (j:Nat) (hj:j<l.length),w.cell? ⟨b,o+j,none⟩=some (.string l[j])) from fun h=>by
  obtain ⟨b,o,hb,hq,h⟩:=hat h
  exact ⟨b,o,by omega,hq,fun j hj=>by obtain ⟨x,hx,rfl⟩:=h j hj;exact hx⟩
 have HX:=show Hid (∀ (j:Nat) (hj:j<l.length) (W:World),Calls Try.prog 47 #[.string l[j]] W fun e w'=>e=.returned (.bool (Fm.word l[j].data.toList))∧Below W.heap.size W w') from fun j hj W=>rword_any W l[j] (hx _ (List.getElem_mem hj))
 have HT:=show Hid ((∀ (k:Nat) (hk:k<l.length),Fm.word l[k].data.toList=true∧(0<k→lt (l[k - 1]'(by omega)) l[k]=true))→names none l=true) from names_yes (fun _=>rfl)
 have HF:=show Hid (∀ (k:Nat) (hk:k<l.length),(Fm.word l[k].data.toList=false∨(0<k∧lt (l[k - 1]'(by omega)) l[k]=false))→names none l=false) from names_no
 generalize names none l=ans at *
 clear hat hx
 go_enter Try.func59,Try.ntmps59
 go_wp2_with fail
 go_loopw [3] (fun i wr=>∃ k:Nat,k≤l.length∧i=.int .i64 (k:Int)∧Hid (Below w.heap.size w wr)∧Hid (∀ (j:Nat) (hk:j<l.length),j<k→Fm.word l[j].data.toList=true∧(0<j→lt (l[j - 1]'(by omega)) l[j]=true))) (fun i _=>l.length - (intOf i).toNat)
 case atStart=>exact ⟨0,Nat.zero_le _,rfl,Below.refl _ _,fun j _ h=>absurd h (Nat.not_lt_zero _)⟩
 case round =>
  obtain ⟨k,hk,rfl,HB,HI⟩:=hrel
  obtain ⟨w3,hw3⟩:∃ w3,w3=wr:=⟨_,rfl⟩
  rw [← hw3] at HB ⊢
  clear hw3
  by_cases hlt:k<l.length
  ·obtain ⟨b,o,hb,rfl,hat⟩:=HA.out (by omega)
   have KW:=show Hid _ from HX.out k hlt
   have HFK:=show Hid _ from HF.out k hlt
   have HS:=show Hid (Fm.word l[k].data.toList=true→(0<k→lt (l[k - 1]'(by omega)) l[k]=true)→∀ (j:Nat) (hk:j<l.length),j<k+1→Fm.word l[j].data.toList=true∧(0<j→lt (l[j - 1]'(by omega)) l[j]=true)) from fun h1 h2 j hj hk=>by
    by_cases e:j=k
    ·subst e;exact ⟨h1,h2⟩
    ·exact HI.out j hj (by omega)
   have hki:(k:Int)<(l.length:Int):=by omega
   have HCX:=show Hid (∀ W,Below w3.heap.size w3 W→W.cell? ⟨b,o+k,none⟩=some (.string l[k])) from fun W hW=>((HB.out.trans (hW.mono HB.out.size)).cell (p:=⟨b,o+k,none⟩) hb).trans (hat k hlt)
   have hcx:w3.cell? ⟨b,o+k,none⟩=some (.string l[k]):=HCX.out w3 (Below.refl _ _)
   by_cases hk0:0<k
   ·have HCY:=show Hid (∀ W,Below w3.heap.size w3 W→W.cell? ⟨b,o+(k - 1),none⟩=some (.string (l[k - 1]'(by omega)))) from fun W hW=>((HB.out.trans (hW.mono HB.out.size)).cell (p:=⟨b,o+(k - 1),none⟩) hb).trans (hat (k - 1) (by omega))
    have hd:decide (0<(k:Int))=true:=by simp;omega
    have hk1:((k:Int) - 1).toNat=k - 1:=by omega
    have hk2:1≤(k:Int):=by omega
    have hk4:IntKind.i64.wrap ((k:Int) - 1)=(k:Int) - 1:=by rw [IntKind.wrap_i64];omega
    have hk3:¬ ((l.length:Int)≤(k:Int) - 1):=by omega
    have HBL:=show Hid _ from bgeq (l[k - 1]'(by omega)) l[k]
    have HS3:=show Hid (Fm.word l[k].data.toList=true→lt (l[k - 1]'(by omega)) l[k]=true→_) from fun h1 h2=>HS.out h1 (fun _=>h2)
    have HF3:=show Hid (lt (l[k - 1]'(by omega)) l[k]=false→ans=false) from fun h=>HFK.out (Or.inr ⟨hk0,h⟩)
    have HF4:=show Hid (Fm.word l[k].data.toList=false→ans=false) from fun h=>HFK.out (Or.inl h)
    clear hat HA HX HF HFK HS HI
    generalize l[k - 1]=y at *
    generalize l[k]=x at *
    generalize Fm.word x.data.toList=wx at *
    cases wx
    ·go_wp2_with fail
     refine wp_region_one (by kernel_rfl) 4 [some 10,some 11,some 12,some 13,some 14,some 15,some 16,some 17,some 18,some 19,some 20,some 21,some 22,some 23,some 24,some 25,some 26,some 27,some 28,some 29,some 30,some 31] [[],[],[0,1],[2],[3],[4],[5],[6],[7,6],[8,6],[9],[9],[11,9],[10,12,9],[13,9],[9],[9],[15,16,9],[17,9],[14,18,9],[9,19,6],[6,20]] [[],[],[0,1],[2,0,1],[3,2,0,1],[4,3,2,0,1],[5,4,3,2,0,1],[6,5,4,3,2,0,1],[7,6,5,4,3,2,0,1],[8,7,6,5,4,3,2,0,1],[9,8,7,6,5,4,3,2,0,1],[9,8,7,6,5,4,3,2,0,1],[11,9,8,7,6,5,4,3,2,0,1],[10,9,8,7,6,5,4,3,2,0,1,12,11],[13,10,9,8,7,6,5,4,3,2,0,1,12,11],[9,8,7,6,5,4,3,2,0,1],[9,8,7,6,5,4,3,2,0,1],[15,9,8,7,6,5,4,3,2,0,1,16],[17,15,9,8,7,6,5,4,3,2,0,1,16],[14,13,10,9,8,7,6,5,4,3,2,0,1,12,11,18,17,15,16],[9,8,7,6,5,4,3,2,0,1,19,14,13,10,12,11,18,17,15,16],[6,5,4,3,2,0,1,20,9,8,7,19,14,13,10,12,11,18,17,15,16]] (by kernel_rfl) (by decide) (fun ii vv w1=>match ii with | 0=>vv=.slice (some ⟨b,o,none⟩) l.length c | 1=>vv=.int .i64 (k:Int) | 2=>vv=.pointer (some ⟨b,o+k,none⟩) | 3=>vv=.string x | 4=>vv=.bool false∧Below w3.heap.size w3 w1 | 5=>vv=.bool true∧Below w3.heap.size w3 w1 | 6=>vv=.bool true∧Below w3.heap.size w3 w1 | 7=>vv=undef∧Below w3.heap.size w3 w1 | 8=>vv=undef∧Below w3.heap.size w3 w1 | 9=>vv=undef∧Below w3.heap.size w3 w1 | 10=>vv=undef∧Below w3.heap.size w3 w1 | 11=>vv=undef∧Below w3.heap.size w3 w1 | 12=>vv=undef∧Below w3.heap.size w3 w1 | 13=>vv=undef∧Below w3.heap.size w3 w1 | 14=>vv=undef∧Below w3.heap.size w3 w1 | 15=>vv=undef∧Below w3.heap.size w3 w1 | 16=>vv=undef∧Below w3.heap.size w3 w1 | 17=>vv=undef∧Below w3.heap.size w3 w1 | 18=>vv=undef∧Below w3.heap.size w3 w1 | 19=>vv=undef∧Below w3.heap.size w3 w1 | 20=>vv=undef∧Below w3.heap.size w3 w1 | 21=>vv=.bool true∧Below w3.heap.size w3 w1 | _=>True) ?hfree (allLt 22 ?steps) ?fin
     case hfree =>
      intro j v w1 w2 hj hn h
      match j,h,hj,hn with
      | 0,h,_,_=>exact h
      | 1,h,_,_=>exact h
      | 2,h,_,_=>exact h
      | 3,h,_,_=>exact h
      | 4,_,hj,_=>exact absurd rfl hj
      | 5,_,_,hn=>exact absurd (by decide) hn
      | 6,_,_,hn=>exact absurd (by decide) hn
      | 7,_,_,hn=>exact absurd (by decide) hn
      | 8,_,_,hn=>exact absurd (by decide) hn
      | 9,_,_,hn=>exact absurd (by decide) hn
      | 10,_,_,hn=>exact absurd (by decide) hn
      | 11,_,_,hn=>exact absurd (by decide) hn
      | 12,_,_,hn=>exact absurd (by decide) hn
      | 13,_,_,hn=>exact absurd (by decide) hn
      | 14,_,_,hn=>exact absurd (by decide) hn
      | 15,_,_,hn=>exact absurd (by decide) hn
      | 16,_,_,hn=>exact absurd (by decide) hn
      | 17,_,_,hn=>exact absurd (by decide) hn
      | 18,_,_,hn=>exact absurd (by decide) hn
      | 19,_,_,hn=>exact absurd (by decide) hn
      | 20,_,_,hn=>exact absurd (by decide) hn
      | 21,_,_,hn=>exact absurd (by decide) hn
      | _+22,_,_,_=>trivial
     case steps =>
      refine ⟨⟨⟨⟨⟨⟨⟨⟨⟨⟨⟨⟨⟨⟨⟨⟨⟨⟨⟨⟨⟨⟨trivial,?s0⟩,?s1⟩,?s2⟩,?s3⟩,?s4⟩,?s5⟩,?s6⟩,?s7⟩,?s8⟩,?s9⟩,?s10⟩,?s11⟩,?s12⟩,?s13⟩,?s14⟩,?s15⟩,?s16⟩,?s17⟩,?s18⟩,?s19⟩,?s20⟩,?s21⟩
      case s0 =>
       intro a w1 hw hO hN
       obtain rfl:w1=w3.drew:=hw (by decide)
       have o0:a.tmps[0]?=some (.slice (some ⟨b,o,none⟩) l.length c):=(hO.out 0 (by decide)).trans rfl
       exact relVal rfl (.slice (some ⟨b,o,none⟩) l.length c) _ rfl (by go_simp) ⟨_,rfl,rfl,fun _=>rfl⟩
      case s1 =>
       intro a w1 hw hO hN
       obtain rfl:w1=w3.drew:=hw (by decide)
       have o3:a.tmps[3]?=some (.int .i64 (k:Int)):=(hO.out 3 (by decide)).trans rfl
       exact relVal rfl (.int .i64 (k:Int)) _ rfl (by go_simp) ⟨_,rfl,rfl,fun _=>rfl⟩
      case s2 =>
       intro a w1 hw hO hN
       obtain rfl:w1=w3.drew:=hw (by decide)
       obtain ⟨v0,g0,r0⟩:=hN 0 (by decide)
       have g0:a.tmps[10]?=some v0:=g0
       have e0:v0=.slice (some ⟨b,o,none⟩) l.length c:=r0
       rw [e0] at g0
       obtain ⟨v1,g1,r1⟩:=hN 1 (by decide)
       have g1:a.tmps[11]?=some v1:=g1
       have e1:v1=.int .i64 (k:Int):=r1
       rw [e1] at g1
       exact relVal rfl (.pointer (some ⟨b,o+k,none⟩)) _ rfl (by go_simp) ⟨_,rfl,rfl,fun _=>rfl⟩
      case s3 =>
       intro a w1 hw hO hN
       obtain rfl:w1=w3.drew:=hw (by decide)
       obtain ⟨v2,g2,r2⟩:=hN 2 (by decide)
       have g2:a.tmps[12]?=some v2:=g2
       have e2:v2=.pointer (some ⟨b,o+k,none⟩):=r2
       rw [e2] at g2
       exact relVal rfl (.string x) _ rfl (by go_simp) ⟨_,rfl,rfl,fun _=>rfl⟩
      case s4 =>
       intro a w1 hw hO hN
       obtain rfl:w1=w3.drew:=hw (by decide)
       obtain ⟨v3,g3,r3⟩:=hN 3 (by decide)
       have g3:a.tmps[13]?=some v3:=g3
       have e3:v3=.string x:=r3
       rw [e3] at g3
       refine relCallF rfl rfl 47 [.tmp 13] #[9] rfl [.string x] (by simp [Act.eval,g3]) (enters_of Try.func47 (by kernel_rfl) rfl) (Calls.mono (KW.out w3.drew) ?_)
       rintro e w5 ⟨rfl,hb5⟩
       exact ⟨_,rfl,_,rfl,⟨rfl,(Below.refl _ _).drew.trans hb5⟩,fun h=>absurd rfl h⟩
      case s5 =>
       intro a w1 hw hO hN
       obtain ⟨v4,g4,r4⟩:=hN 4 (by decide)
       have g4:a.tmps[14]?=some v4:=g4
       obtain ⟨e4,hb4⟩:=r4
       rw [e4] at g4
       exact relVal rfl (.bool true) _ rfl (by go_simp) ⟨_,rfl,⟨rfl,hb4⟩,fun _=>rfl⟩
      case s6 =>
       intro a w1 hw hO hN
       obtain ⟨v5,g5,r5⟩:=hN 5 (by decide)
       have g5:a.tmps[15]?=some v5:=g5
       obtain ⟨e5,hb5⟩:=r5
       rw [e5] at g5
       exact relVal rfl (.bool true) _ rfl (by go_simp) ⟨_,rfl,⟨rfl,hb5⟩,fun _=>rfl⟩
      case s7 =>
       intro a w1 hw hO hN
       obtain ⟨v6,g6,r6⟩:=hN 6 (by decide)
       have g6:a.tmps[16]?=some v6:=g6
       obtain ⟨e6,hb6⟩:=r6
       rw [e6] at g6
       have o3:a.tmps[3]?=some (.int .i64 (k:Int)):=(hO.out 3 (by decide)).trans rfl
       exact relNo rfl ((wanted_is rfl rfl g6).trans rfl) ⟨_,rfl,⟨rfl,hb6⟩,fun _=>rfl⟩
      case s8 =>
       intro a w1 hw hO hN
       obtain ⟨v7,g7,r7⟩:=hN 7 (by decide)
       have g7:a.tmps[17]?=some v7:=g7
       obtain ⟨e7,hb7⟩:=r7
       rw [e7] at g7
       obtain ⟨v6,g6,r6⟩:=hN 6 (by decide)
       have g6:a.tmps[16]?=some v6:=g6
       obtain ⟨e6,hb6⟩:=r6
       rw [e6] at g6
       exact relNo rfl ((wanted_is rfl rfl g6).trans rfl) ⟨_,rfl,⟨rfl,hb7⟩,fun _=>rfl⟩
      case s9 =>
       intro a w1 hw hO hN
       obtain ⟨v8,g8,r8⟩:=hN 8 (by decide)
       have g8:a.tmps[18]?=some v8:=g8
       obtain ⟨e8,hb8⟩:=r8
       rw [e8] at g8
       obtain ⟨v6,g6,r6⟩:=hN 6 (by decide)
       have g6:a.tmps[16]?=some v6:=g6
       obtain ⟨e6,hb6⟩:=r6
       rw [e6] at g6
       exact relNo rfl ((wanted_is rfl rfl g6).trans rfl) ⟨_,rfl,⟨rfl,hb8⟩,fun _=>rfl⟩
      case s10 =>
       intro a w1 hw hO hN
       obtain ⟨v9,g9,r9⟩:=hN 9 (by decide)
       have g9:a.tmps[19]?=some v9:=g9
       obtain ⟨e9,hb9⟩:=r9
       rw [e9] at g9
       have o0:a.tmps[0]?=some (.slice (some ⟨b,o,none⟩) l.length c):=(hO.out 0 (by decide)).trans rfl
       exact relNo rfl (wanted_undef rfl rfl g9) ⟨_,rfl,⟨rfl,hb9⟩,fun _=>rfl⟩
      case s11 =>
       intro a w1 hw hO hN
       obtain ⟨v9,g9,r9⟩:=hN 9 (by decide)
       have g9:a.tmps[19]?=some v9:=g9
       obtain ⟨e9,hb9⟩:=r9
       rw [e9] at g9
       have o3:a.tmps[3]?=some (.int .i64 (k:Int)):=(hO.out 3 (by decide)).trans rfl
       exact relNo rfl (wanted_undef rfl rfl g9) ⟨_,rfl,⟨rfl,hb9⟩,fun _=>rfl⟩
      case s12 =>
       intro a w1 hw hO hN
       obtain ⟨v11,g11,r11⟩:=hN 11 (by decide)
       have g11:a.tmps[21]?=some v11:=g11
       obtain ⟨e11,hb11⟩:=r11
       rw [e11] at g11
       obtain ⟨v9,g9,r9⟩:=hN 9 (by decide)
       have g9:a.tmps[19]?=some v9:=g9
       obtain ⟨e9,hb9⟩:=r9
       rw [e9] at g9
       exact relNo rfl (wanted_undef rfl rfl g9) ⟨_,rfl,⟨rfl,hb11⟩,fun _=>rfl⟩
      case s13 =>
       intro a w1 hw hO hN
       obtain ⟨v10,g10,r10⟩:=hN 10 (by decide)
       have g10:a.tmps[20]?=some v10:=g10
       obtain ⟨e10,hb10⟩:=r10
       rw [e10] at g10
       obtain ⟨v12,g12,r12⟩:=hN 12 (by decide)
       have g12:a.tmps[22]?=some v12:=g12
       obtain ⟨e12,hb12⟩:=r12
       rw [e12] at g12
       obtain ⟨v9,g9,r9⟩:=hN 9 (by decide)
       have g9:a.tmps[19]?=some v9:=g9
       obtain ⟨e9,hb9⟩:=r9
       rw [e9] at g9
       exact relNo rfl (wanted_undef rfl rfl g9) ⟨_,rfl,⟨rfl,hb10⟩,fun _=>rfl⟩
      case s14 =>
       intro a w1 hw hO hN
       obtain ⟨v13,g13,r13⟩:=hN 13 (by decide)
       have g13:a.tmps[23]?=some v13:=g13
       obtain ⟨e13,hb13⟩:=r13
       rw [e13] at g13
       obtain ⟨v9,g9,r9⟩:=hN 9 (by decide)
       have g9:a.tmps[19]?=some v9:=g9
       obtain ⟨e9,hb9⟩:=r9
       rw [e9] at g9
       exact relNo rfl (wanted_undef rfl rfl g9) ⟨_,rfl,⟨rfl,hb13⟩,fun _=>rfl⟩
      case s15 =>
       intro a w1 hw hO hN
       obtain ⟨v9,g9,r9⟩:=hN 9 (by decide)
       have g9:a.tmps[19]?=some v9:=g9
       obtain ⟨e9,hb9⟩:=r9
       rw [e9] at g9
       have o0:a.tmps[0]?=some (.slice (some ⟨b,o,none⟩) l.length c):=(hO.out 0 (by decide)).trans rfl
       exact relNo rfl (wanted_undef rfl rfl g9) ⟨_,rfl,⟨rfl,hb9⟩,fun _=>rfl⟩
      case s16 =>
       intro a w1 hw hO hN
       obtain ⟨v9,g9,r9⟩:=hN 9 (by decide)
       have g9:a.tmps[19]?=some v9:=g9
       obtain ⟨e9,hb9⟩:=r9
       rw [e9] at g9
       have o3:a.tmps[3]?=some (.int .i64 (k:Int)):=(hO.out 3 (by decide)).trans rfl
       exact relNo rfl (wanted_undef rfl rfl g9) ⟨_,rfl,⟨rfl,hb9⟩,fun _=>rfl⟩
      case s17 =>
       intro a w1 hw hO hN
       obtain ⟨v15,g15,r15⟩:=hN 15 (by decide)
       have g15:a.tmps[25]?=some v15:=g15
       obtain ⟨e15,hb15⟩:=r15
       rw [e15] at g15
       obtain ⟨v16,g16,r16⟩:=hN 16 (by decide)
       have g16:a.tmps[26]?=some v16:=g16
       obtain ⟨e16,hb16⟩:=r16
       rw [e16] at g16
       obtain ⟨v9,g9,r9⟩:=hN 9 (by decide)
       have g9:a.tmps[19]?=some v9:=g9
       obtain ⟨e9,hb9⟩:=r9
       rw [e9] at g9
       exact relNo rfl (wanted_undef rfl rfl g9) ⟨_,rfl,⟨rfl,hb15⟩,fun _=>rfl⟩
      case s18 =>
       intro a w1 hw hO hN
       obtain ⟨v17,g17,r17⟩:=hN 17 (by decide)
       have g17:a.tmps[27]?=some v17:=g17
       obtain ⟨e17,hb17⟩:=r17
       rw [e17] at g17
       obtain ⟨v9,g9,r9⟩:=hN 9 (by decide)
       have g9:a.tmps[19]?=some v9:=g9
       obtain ⟨e9,hb9⟩:=r9
       rw [e9] at g9
       exact relNo rfl (wanted_undef rfl rfl g9) ⟨_,rfl,⟨rfl,hb17⟩,fun _=>rfl⟩
      case s19 =>
       intro a w1 hw hO hN
       obtain ⟨v14,g14,r14⟩:=hN 14 (by decide)
       have g14:a.tmps[24]?=some v14:=g14
       obtain ⟨e14,hb14⟩:=r14
       rw [e14] at g14
       obtain ⟨v18,g18,r18⟩:=hN 18 (by decide)
       have g18:a.tmps[28]?=some v18:=g18
       obtain ⟨e18,hb18⟩:=r18
       rw [e18] at g18
       obtain ⟨v9,g9,r9⟩:=hN 9 (by decide)
       have g9:a.tmps[19]?=some v9:=g9
       obtain ⟨e9,hb9⟩:=r9
       rw [e9] at g9
       exact relNo rfl (wanted_undef rfl rfl g9) ⟨_,rfl,⟨rfl,hb14⟩,fun _=>rfl⟩
      case s20 =>
       intro a w1 hw hO hN
       obtain ⟨v9,g9,r9⟩:=hN 9 (by decide)
       have g9:a.tmps[19]?=some v9:=g9
       obtain ⟨e9,hb9⟩:=r9
       rw [e9] at g9
       obtain ⟨v19,g19,r19⟩:=hN 19 (by decide)
       have g19:a.tmps[29]?=some v19:=g19
       obtain ⟨e19,hb19⟩:=r19
       rw [e19] at g19
       obtain ⟨v6,g6,r6⟩:=hN 6 (by decide)
       have g6:a.tmps[16]?=some v6:=g6
       obtain ⟨e6,hb6⟩:=r6
       rw [e6] at g6
       exact relNo rfl ((wanted_is rfl rfl g6).trans rfl) ⟨_,rfl,⟨rfl,hb9⟩,fun _=>rfl⟩
      case s21 =>
       intro a w1 hw hO hN
       obtain ⟨v6,g6,r6⟩:=hN 6 (by decide)
       have g6:a.tmps[16]?=some v6:=g6
       obtain ⟨e6,hb6⟩:=r6
       rw [e6] at g6
       obtain ⟨v20,g20,r20⟩:=hN 20 (by decide)
       have g20:a.tmps[30]?=some v20:=g20
       obtain ⟨e20,hb20⟩:=r20
       rw [e20] at g20
       exact relVal rfl (.bool true) _ rfl (by go_simp) ⟨_,rfl,⟨rfl,hb6⟩,fun _=>rfl⟩
     case fin =>
      intro vs w1 hV
      obtain ⟨e21,hb9⟩:vs 21=.bool true∧Below w3.heap.size w3 w1:=hV 21 (by decide)
      have HB9:=show Hid (Below w.heap.size w w1) from HB.out.trans (hb9.mono HB.out.size)
      simp only [putAll,Act.put,List.setIfInBounds_toArray,List.set_cons_zero,List.set_cons_succ,e21]
      clear hV e21 hb9 KW HB HCX hcx
      go_wp2_with fail
      go_ret
      exact ⟨ret_bool (HF4.out (by first | rfl | trivial)).symm,HB9.out⟩
    ·have hbl:=HBL.out
     cases hz:lt y x
     ·rw [hz] at hbl
      clear HS3 HBL
      go_wp2_with fail
      refine wp_region_one (by kernel_rfl) 4 [some 10,some 11,some 12,some 13,some 14,some 15,some 16,some 17,some 18,some 19,some 20,some 21,some 22,some 23,some 24,some 25,some 26,some 27,some 28,some 29,some 30,some 31] [[],[],[0,1],[2],[3],[4],[5],[6],[7,6],[8,6],[9],[9],[11,9],[10,12,9],[13,9],[9],[9],[15,16,9],[17,9],[14,18,9],[9,19,6],[6,20]] [[],[],[0,1],[2,0,1],[3,2,0,1],[4,3,2,0,1],[5,4,3,2,0,1],[6,5,4,3,2,0,1],[7,6,5,4,3,2,0,1],[8,7,6,5,4,3,2,0,1],[9,8,7,6,5,4,3,2,0,1],[9,8,7,6,5,4,3,2,0,1],[11,9,8,7,6,5,4,3,2,0,1],[10,9,8,7,6,5,4,3,2,0,1,12,11],[13,10,9,8,7,6,5,4,3,2,0,1,12,11],[9,8,7,6,5,4,3,2,0,1],[9,8,7,6,5,4,3,2,0,1],[15,9,8,7,6,5,4,3,2,0,1,16],[17,15,9,8,7,6,5,4,3,2,0,1,16],[14,13,10,9,8,7,6,5,4,3,2,0,1,12,11,18,17,15,16],[9,8,7,6,5,4,3,2,0,1,19,14,13,10,12,11,18,17,15,16],[6,5,4,3,2,0,1,20,9,8,7,19,14,13,10,12,11,18,17,15,16]] (by kernel_rfl) (by decide) (fun ii vv w1=>match ii with | 0=>vv=.slice (some ⟨b,o,none⟩) l.length c | 1=>vv=.int .i64 (k:Int) | 2=>vv=.pointer (some ⟨b,o+k,none⟩) | 3=>vv=.string x | 4=>vv=.bool true∧Below w3.heap.size w3 w1 | 5=>vv=.bool false∧Below w3.heap.size w3 w1 | 6=>vv=.bool false∧Below w3.heap.size w3 w1 | 7=>vv=.int .i64 (k:Int)∧Below w3.heap.size w3 w1 | 8=>vv=.bool true∧Below w3.heap.size w3 w1 | 9=>vv=.bool true∧Below w3.heap.size w3 w1 | 10=>vv=.slice (some ⟨b,o,none⟩) l.length c∧Below w3.heap.size w3 w1 | 11=>vv=.int .i64 (k:Int)∧Below w3.heap.size w3 w1 | 12=>vv=.int .i64 ((k:Int) - 1)∧Below w3.heap.size w3 w1 | 13=>vv=.pointer (some ⟨b,o+(k - 1),none⟩)∧Below w3.heap.size w3 w1 | 14=>vv=.string y∧Below w3.heap.size w3 w1 | 15=>vv=.slice (some ⟨b,o,none⟩) l.length c∧Below w3.heap.size w3 w1 | 16=>vv=.int .i64 (k:Int)∧Below w3.heap.size w3 w1 | 17=>vv=.pointer (some ⟨b,o+k,none⟩)∧Below w3.heap.size w3 w1 | 18=>vv=.string x∧Below w3.heap.size w3 w1 | 19=>vv=.bool true∧Below w3.heap.size w3 w1 | 20=>vv=.bool true∧Below w3.heap.size w3 w1 | 21=>vv=.bool true∧Below w3.heap.size w3 w1 | _=>True) ?hfree (allLt 22 ?steps) ?fin
      case hfree =>
       intro j v w1 w2 hj hn h
       match j,h,hj,hn with
       | 0,h,_,_=>exact h
       | 1,h,_,_=>exact h
       | 2,h,_,_=>exact h
       | 3,h,_,_=>exact h
       | 4,_,hj,_=>exact absurd rfl hj
       | 5,_,_,hn=>exact absurd (by decide) hn
       | 6,_,_,hn=>exact absurd (by decide) hn
       | 7,_,_,hn=>exact absurd (by decide) hn
       | 8,_,_,hn=>exact absurd (by decide) hn
       | 9,_,_,hn=>exact absurd (by decide) hn
       | 10,_,_,hn=>exact absurd (by decide) hn
       | 11,_,_,hn=>exact absurd (by decide) hn
       | 12,_,_,hn=>exact absurd (by decide) hn
       | 13,_,_,hn=>exact absurd (by decide) hn
       | 14,_,_,hn=>exact absurd (by decide) hn
       | 15,_,_,hn=>exact absurd (by decide) hn
       | 16,_,_,hn=>exact absurd (by decide) hn
       | 17,_,_,hn=>exact absurd (by decide) hn
       | 18,_,_,hn=>exact absurd (by decide) hn
       | 19,_,_,hn=>exact absurd (by decide) hn
       | 20,_,_,hn=>exact absurd (by decide) hn
       | 21,_,_,hn=>exact absurd (by decide) hn
       | _+22,_,_,_=>trivial
      case steps =>
       refine ⟨⟨⟨⟨⟨⟨⟨⟨⟨⟨⟨⟨⟨⟨⟨⟨⟨⟨⟨⟨⟨⟨trivial,?s0⟩,?s1⟩,?s2⟩,?s3⟩,?s4⟩,?s5⟩,?s6⟩,?s7⟩,?s8⟩,?s9⟩,?s10⟩,?s11⟩,?s12⟩,?s13⟩,?s14⟩,?s15⟩,?s16⟩,?s17⟩,?s18⟩,?s19⟩,?s20⟩,?s21⟩
       case s0 =>
        intro a w1 hw hO hN
        obtain rfl:w1=w3.drew:=hw (by decide)
        have o0:a.tmps[0]?=some (.slice (some ⟨b,o,none⟩) l.length c):=(hO.out 0 (by decide)).trans rfl
        exact relVal rfl (.slice (some ⟨b,o,none⟩) l.length c) _ rfl (by go_simp) ⟨_,rfl,rfl,fun _=>rfl⟩
       case s1 =>
        intro a w1 hw hO hN
        obtain rfl:w1=w3.drew:=hw (by decide)
        have o3:a.tmps[3]?=some (.int .i64 (k:Int)):=(hO.out 3 (by decide)).trans rfl
        exact relVal rfl (.int .i64 (k:Int)) _ rfl (by go_simp) ⟨_,rfl,rfl,fun _=>rfl⟩
       case s2 =>
        intro a w1 hw hO hN
        obtain rfl:w1=w3.drew:=hw (by decide)
        obtain ⟨v0,g0,r0⟩:=hN 0 (by decide)
        have g0:a.tmps[10]?=some v0:=g0
        have e0:v0=.slice (some ⟨b,o,none⟩) l.length c:=r0
        rw [e0] at g0
        obtain ⟨v1,g1,r1⟩:=hN 1 (by decide)
        have g1:a.tmps[11]?=some v1:=g1
        have e1:v1=.int .i64 (k:Int):=r1
        rw [e1] at g1
        exact relVal rfl (.pointer (some ⟨b,o+k,none⟩)) _ rfl (by go_simp) ⟨_,rfl,rfl,fun _=>rfl⟩
       case s3 =>
        intro a w1 hw hO hN
        obtain rfl:w1=w3.drew:=hw (by decide)
        obtain ⟨v2,g2,r2⟩:=hN 2 (by decide)
        have g2:a.tmps[12]?=some v2:=g2
        have e2:v2=.pointer (some ⟨b,o+k,none⟩):=r2
        rw [e2] at g2
        exact relVal rfl (.string x) _ rfl (by go_simp) ⟨_,rfl,rfl,fun _=>rfl⟩
       case s4 =>
        intro a w1 hw hO hN
        obtain rfl:w1=w3.drew:=hw (by decide)
        obtain ⟨v3,g3,r3⟩:=hN 3 (by decide)
        have g3:a.tmps[13]?=some v3:=g3
        have e3:v3=.string x:=r3
        rw [e3] at g3
        refine relCallF rfl rfl 47 [.tmp 13] #[9] rfl [.string x] (by simp [Act.eval,g3]) (enters_of Try.func47 (by kernel_rfl) rfl) (Calls.mono (KW.out w3.drew) ?_)
        rintro e w5 ⟨rfl,hb5⟩
        exact ⟨_,rfl,_,rfl,⟨rfl,(Below.refl _ _).drew.trans hb5⟩,fun h=>absurd rfl h⟩
       case s5 =>
        intro a w1 hw hO hN
        obtain ⟨v4,g4,r4⟩:=hN 4 (by decide)
        have g4:a.tmps[14]?=some v4:=g4
        obtain ⟨e4,hb4⟩:=r4
        rw [e4] at g4
        exact relVal rfl (.bool false) _ rfl (by go_simp) ⟨_,rfl,⟨rfl,hb4⟩,fun _=>rfl⟩
       case s6 =>
        intro a w1 hw hO hN
        obtain ⟨v5,g5,r5⟩:=hN 5 (by decide)
        have g5:a.tmps[15]?=some v5:=g5
        obtain ⟨e5,hb5⟩:=r5
        rw [e5] at g5
        exact relVal rfl (.bool false) _ rfl (by go_simp) ⟨_,rfl,⟨rfl,hb5⟩,fun _=>rfl⟩
       case s7 =>
        intro a w1 hw hO hN
        obtain ⟨v6,g6,r6⟩:=hN 6 (by decide)
        have g6:a.tmps[16]?=some v6:=g6
        obtain ⟨e6,hb6⟩:=r6
        rw [e6] at g6
        have o3:a.tmps[3]?=some (.int .i64 (k:Int)):=(hO.out 3 (by decide)).trans rfl
        exact relValW rfl (.int .i64 (k:Int)) _ ((wanted_is rfl rfl g6).trans rfl) (by go_simp) ⟨_,rfl,⟨rfl,hb6⟩,fun _=>rfl⟩
       case s8 =>
        intro a w1 hw hO hN
        obtain ⟨v7,g7,r7⟩:=hN 7 (by decide)
        have g7:a.tmps[17]?=some v7:=g7
        obtain ⟨e7,hb7⟩:=r7
        rw [e7] at g7
        obtain ⟨v6,g6,r6⟩:=hN 6 (by decide)
        have g6:a.tmps[16]?=some v6:=g6
        obtain ⟨e6,hb6⟩:=r6
        rw [e6] at g6
        exact relValW rfl (.bool true) _ ((wanted_is rfl rfl g6).trans rfl) (by go_simp) ⟨_,rfl,⟨rfl,hb7⟩,fun _=>rfl⟩
       case s9 =>
        intro a w1 hw hO hN
        obtain ⟨v8,g8,r8⟩:=hN 8 (by decide)
        have g8:a.tmps[18]?=some v8:=g8
        obtain ⟨e8,hb8⟩:=r8
        rw [e8] at g8
        obtain ⟨v6,g6,r6⟩:=hN 6 (by decide)
        have g6:a.tmps[16]?=some v6:=g6
        obtain ⟨e6,hb6⟩:=r6
        rw [e6] at g6
        exact relValW rfl (.bool true) _ ((wanted_is rfl rfl g6).trans rfl) (by go_simp) ⟨_,rfl,⟨rfl,hb8⟩,fun _=>rfl⟩
       case s10 =>
        intro a w1 hw hO hN
        obtain ⟨v9,g9,r9⟩:=hN 9 (by decide)
        have g9:a.tmps[19]?=some v9:=g9
        obtain ⟨e9,hb9⟩:=r9
        rw [e9] at g9
        have o0:a.tmps[0]?=some (.slice (some ⟨b,o,none⟩) l.length c):=(hO.out 0 (by decide)).trans rfl
        exact relValW rfl (.slice (some ⟨b,o,none⟩) l.length c) _ ((wanted_is rfl rfl g9).trans rfl) (by go_simp) ⟨_,rfl,⟨rfl,hb9⟩,fun _=>rfl⟩
       case s11 =>
        intro a w1 hw hO hN
        obtain ⟨v9,g9,r9⟩:=hN 9 (by decide)
        have g9:a.tmps[19]?=some v9:=g9
        obtain ⟨e9,hb9⟩:=r9
        rw [e9] at g9
        have o3:a.tmps[3]?=some (.int .i64 (k:Int)):=(hO.out 3 (by decide)).trans rfl
        exact relValW rfl (.int .i64 (k:Int)) _ ((wanted_is rfl rfl g9).trans rfl) (by go_simp) ⟨_,rfl,⟨rfl,hb9⟩,fun _=>rfl⟩
       case s12 =>
        intro a w1 hw hO hN
        obtain ⟨v11,g11,r11⟩:=hN 11 (by decide)
        have g11:a.tmps[21]?=some v11:=g11
        obtain ⟨e11,hb11⟩:=r11
        rw [e11] at g11
        obtain ⟨v9,g9,r9⟩:=hN 9 (by decide)
        have g9:a.tmps[19]?=some v9:=g9
        obtain ⟨e9,hb9⟩:=r9
        rw [e9] at g9
        exact relValW rfl (.int .i64 ((k:Int) - 1)) _ ((wanted_is rfl rfl g9).trans rfl) (by go_simp) ⟨_,rfl,⟨rfl,hb11⟩,fun _=>rfl⟩
       case s13 =>
        intro a w1 hw hO hN
        obtain ⟨v10,g10,r10⟩:=hN 10 (by decide)
        have g10:a.tmps[20]?=some v10:=g10
        obtain ⟨e10,hb10⟩:=r10
        rw [e10] at g10
        obtain ⟨v12,g12,r12⟩:=hN 12 (by decide)
        have g12:a.tmps[22]?=some v12:=g12
        obtain ⟨e12,hb12⟩:=r12
        rw [e12] at g12
        obtain ⟨v9,g9,r9⟩:=hN 9 (by decide)
        have g9:a.tmps[19]?=some v9:=g9
        obtain ⟨e9,hb9⟩:=r9
        rw [e9] at g9
        exact relValW rfl (.pointer (some ⟨b,o+(k - 1),none⟩)) _ ((wanted_is rfl rfl g9).trans rfl) (by go_simp) ⟨_,rfl,⟨rfl,hb10⟩,fun _=>rfl⟩
       case s14 =>
        intro a w1 hw hO hN
        obtain ⟨v13,g13,r13⟩:=hN 13 (by decide)
        have g13:a.tmps[23]?=some v13:=g13
        obtain ⟨e13,hb13⟩:=r13
        rw [e13] at g13
        obtain ⟨v9,g9,r9⟩:=hN 9 (by decide)
        have g9:a.tmps[19]?=some v9:=g9
        obtain ⟨e9,hb9⟩:=r9
        rw [e9] at g9
        have hcx1:=HCX.out w1 hb13
        have hcy1:=HCY.out w1 hb13
        exact relValW rfl (.string y) _ ((wanted_is rfl rfl g9).trans rfl) (by go_simp) ⟨_,rfl,⟨rfl,hb13⟩,fun _=>rfl⟩
       case s15 =>
        intro a w1 hw hO hN
        obtain ⟨v9,g9,r9⟩:=hN 9 (by decide)
        have g9:a.tmps[19]?=some v9:=g9
        obtain ⟨e9,hb9⟩:=r9
        rw [e9] at g9
        have o0:a.tmps[0]?=some (.slice (some ⟨b,o,none⟩) l.length c):=(hO.out 0 (by decide)).trans rfl
        exact relValW rfl (.slice (some ⟨b,o,none⟩) l.length c) _ ((wanted_is rfl rfl g9).trans rfl) (by go_simp) ⟨_,rfl,⟨rfl,hb9⟩,fun _=>rfl⟩
       case s16 =>
        intro a w1 hw hO hN
        obtain ⟨v9,g9,r9⟩:=hN 9 (by decide)
        have g9:a.tmps[19]?=some v9:=g9
        obtain ⟨e9,hb9⟩:=r9
        rw [e9] at g9
        have o3:a.tmps[3]?=some (.int .i64 (k:Int)):=(hO.out 3 (by decide)).trans rfl
        exact relValW rfl (.int .i64 (k:Int)) _ ((wanted_is rfl rfl g9).trans rfl) (by go_simp) ⟨_,rfl,⟨rfl,hb9⟩,fun _=>rfl⟩
       case s17 =>
        intro a w1 hw hO hN
        obtain ⟨v15,g15,r15⟩:=hN 15 (by decide)
        have g15:a.tmps[25]?=some v15:=g15
        obtain ⟨e15,hb15⟩:=r15
        rw [e15] at g15
        obtain ⟨v16,g16,r16⟩:=hN 16 (by decide)
        have g16:a.tmps[26]?=some v16:=g16
        obtain ⟨e16,hb16⟩:=r16
        rw [e16] at g16
        obtain ⟨v9,g9,r9⟩:=hN 9 (by decide)
        have g9:a.tmps[19]?=some v9:=g9
        obtain ⟨e9,hb9⟩:=r9
        rw [e9] at g9
        exact relValW rfl (.pointer (some ⟨b,o+k,none⟩)) _ ((wanted_is rfl rfl g9).trans rfl) (by go_simp) ⟨_,rfl,⟨rfl,hb15⟩,fun _=>rfl⟩
       case s18 =>
        intro a w1 hw hO hN
        obtain ⟨v17,g17,r17⟩:=hN 17 (by decide)
        have g17:a.tmps[27]?=some v17:=g17
        obtain ⟨e17,hb17⟩:=r17
        rw [e17] at g17
        obtain ⟨v9,g9,r9⟩:=hN 9 (by decide)
        have g9:a.tmps[19]?=some v9:=g9
        obtain ⟨e9,hb9⟩:=r9
        rw [e9] at g9
        have hcx1:=HCX.out w1 hb17
        have hcy1:=HCY.out w1 hb17
        exact relValW rfl (.string x) _ ((wanted_is rfl rfl g9).trans rfl) (by go_simp) ⟨_,rfl,⟨rfl,hb17⟩,fun _=>rfl⟩
       case s19 =>
        intro a w1 hw hO hN
        obtain ⟨v14,g14,r14⟩:=hN 14 (by decide)
        have g14:a.tmps[24]?=some v14:=g14
        obtain ⟨e14,hb14⟩:=r14
        rw [e14] at g14
        obtain ⟨v18,g18,r18⟩:=hN 18 (by decide)
        have g18:a.tmps[28]?=some v18:=g18
        obtain ⟨e18,hb18⟩:=r18
        rw [e18] at g18
        obtain ⟨v9,g9,r9⟩:=hN 9 (by decide)
        have g9:a.tmps[19]?=some v9:=g9
        obtain ⟨e9,hb9⟩:=r9
        rw [e9] at g9
        exact relValW rfl (.bool true) _ ((wanted_is rfl rfl g9).trans rfl) (by go_simp) ⟨_,rfl,⟨rfl,hb14⟩,fun _=>rfl⟩
       case s20 =>
        intro a w1 hw hO hN
        obtain ⟨v9,g9,r9⟩:=hN 9 (by decide)
        have g9:a.tmps[19]?=some v9:=g9
        obtain ⟨e9,hb9⟩:=r9
        rw [e9] at g9
        obtain ⟨v19,g19,r19⟩:=hN 19 (by decide)
        have g19:a.tmps[29]?=some v19:=g19
        obtain ⟨e19,hb19⟩:=r19
        rw [e19] at g19
        obtain ⟨v6,g6,r6⟩:=hN 6 (by decide)
        have g6:a.tmps[16]?=some v6:=g6
        obtain ⟨e6,hb6⟩:=r6
        rw [e6] at g6
        exact relValW rfl (.bool true) _ ((wanted_is rfl rfl g6).trans rfl) (by go_simp) ⟨_,rfl,⟨rfl,hb9⟩,fun _=>rfl⟩
       case s21 =>
        intro a w1 hw hO hN
        obtain ⟨v6,g6,r6⟩:=hN 6 (by decide)
        have g6:a.tmps[16]?=some v6:=g6
        obtain ⟨e6,hb6⟩:=r6
        rw [e6] at g6
        obtain ⟨v20,g20,r20⟩:=hN 20 (by decide)
        have g20:a.tmps[30]?=some v20:=g20
        obtain ⟨e20,hb20⟩:=r20
        rw [e20] at g20
        exact relVal rfl (.bool true) _ rfl (by go_simp) ⟨_,rfl,⟨rfl,hb6⟩,fun _=>rfl⟩
      case fin =>
       intro vs w1 hV
       obtain ⟨e21,hb9⟩:vs 21=.bool true∧Below w3.heap.size w3 w1:=hV 21 (by decide)
       have HB9:=show Hid (Below w.heap.size w w1) from HB.out.trans (hb9.mono HB.out.size)
       simp only [putAll,Act.put,List.setIfInBounds_toArray,List.set_cons_zero,List.set_cons_succ,e21]
       clear hV e21 hb9 KW HB HCX hcx HCY
       go_wp2_with fail
       go_ret
       exact ⟨ret_bool (HF3.out hz).symm,HB9.out⟩
     ·rw [hz] at hbl
      have HS4:=show Hid _ from HS3.out (by first | rfl | trivial) hz
      clear HS3 HBL HF3 HF4
      go_wp2_with fail
      refine wp_region_one (by kernel_rfl) 4 [some 10,some 11,some 12,some 13,some 14,some 15,some 16,some 17,some 18,some 19,some 20,some 21,some 22,some 23,some 24,some 25,some 26,some 27,some 28,some 29,some 30,some 31] [[],[],[0,1],[2],[3],[4],[5],[6],[7,6],[8,6],[9],[9],[11,9],[10,12,9],[13,9],[9],[9],[15,16,9],[17,9],[14,18,9],[9,19,6],[6,20]] [[],[],[0,1],[2,0,1],[3,2,0,1],[4,3,2,0,1],[5,4,3,2,0,1],[6,5,4,3,2,0,1],[7,6,5,4,3,2,0,1],[8,7,6,5,4,3,2,0,1],[9,8,7,6,5,4,3,2,0,1],[9,8,7,6,5,4,3,2,0,1],[11,9,8,7,6,5,4,3,2,0,1],[10,9,8,7,6,5,4,3,2,0,1,12,11],[13,10,9,8,7,6,5,4,3,2,0,1,12,11],[9,8,7,6,5,4,3,2,0,1],[9,8,7,6,5,4,3,2,0,1],[15,9,8,7,6,5,4,3,2,0,1,16],[17,15,9,8,7,6,5,4,3,2,0,1,16],[14,13,10,9,8,7,6,5,4,3,2,0,1,12,11,18,17,15,16],[9,8,7,6,5,4,3,2,0,1,19,14,13,10,12,11,18,17,15,16],[6,5,4,3,2,0,1,20,9,8,7,19,14,13,10,12,11,18,17,15,16]] (by kernel_rfl) (by decide) (fun ii vv w1=>match ii with | 0=>vv=.slice (some ⟨b,o,none⟩) l.length c | 1=>vv=.int .i64 (k:Int) | 2=>vv=.pointer (some ⟨b,o+k,none⟩) | 3=>vv=.string x | 4=>vv=.bool true∧Below w3.heap.size w3 w1 | 5=>vv=.bool false∧Below w3.heap.size w3 w1 | 6=>vv=.bool false∧Below w3.heap.size w3 w1 | 7=>vv=.int .i64 (k:Int)∧Below w3.heap.size w3 w1 | 8=>vv=.bool true∧Below w3.heap.size w3 w1 | 9=>vv=.bool true∧Below w3.heap.size w3 w1 | 10=>vv=.slice (some ⟨b,o,none⟩) l.length c∧Below w3.heap.size w3 w1 | 11=>vv=.int .i64 (k:Int)∧Below w3.heap.size w3 w1 | 12=>vv=.int .i64 ((k:Int) - 1)∧Below w3.heap.size w3 w1 | 13=>vv=.pointer (some ⟨b,o+(k - 1),none⟩)∧Below w3.heap.size w3 w1 | 14=>vv=.string y∧Below w3.heap.size w3 w1 | 15=>vv=.slice (some ⟨b,o,none⟩) l.length c∧Below w3.heap.size w3 w1 | 16=>vv=.int .i64 (k:Int)∧Below w3.heap.size w3 w1 | 17=>vv=.pointer (some ⟨b,o+k,none⟩)∧Below w3.heap.size w3 w1 | 18=>vv=.string x∧Below w3.heap.size w3 w1 | 19=>vv=.bool false∧Below w3.heap.size w3 w1 | 20=>vv=.bool false∧Below w3.heap.size w3 w1 | 21=>vv=.bool false∧Below w3.heap.size w3 w1 | _=>True) ?hfree (allLt 22 ?steps) ?fin
      case hfree =>
       intro j v w1 w2 hj hn h
       match j,h,hj,hn with
       | 0,h,_,_=>exact h
       | 1,h,_,_=>exact h
       | 2,h,_,_=>exact h
       | 3,h,_,_=>exact h
       | 4,_,hj,_=>exact absurd rfl hj
       | 5,_,_,hn=>exact absurd (by decide) hn
       | 6,_,_,hn=>exact absurd (by decide) hn
       | 7,_,_,hn=>exact absurd (by decide) hn
       | 8,_,_,hn=>exact absurd (by decide) hn
       | 9,_,_,hn=>exact absurd (by decide) hn
       | 10,_,_,hn=>exact absurd (by decide) hn
       | 11,_,_,hn=>exact absurd (by decide) hn
       | 12,_,_,hn=>exact absurd (by decide) hn
       | 13,_,_,hn=>exact absurd (by decide) hn
       | 14,_,_,hn=>exact absurd (by decide) hn
       | 15,_,_,hn=>exact absurd (by decide) hn
       | 16,_,_,hn=>exact absurd (by decide) hn
       | 17,_,_,hn=>exact absurd (by decide) hn
       | 18,_,_,hn=>exact absurd (by decide) hn
       | 19,_,_,hn=>exact absurd (by decide) hn
       | 20,_,_,hn=>exact absurd (by decide) hn
       | 21,_,_,hn=>exact absurd (by decide) hn
       | _+22,_,_,_=>trivial
      case steps =>
       refine ⟨⟨⟨⟨⟨⟨⟨⟨⟨⟨⟨⟨⟨⟨⟨⟨⟨⟨⟨⟨⟨⟨trivial,?s0⟩,?s1⟩,?s2⟩,?s3⟩,?s4⟩,?s5⟩,?s6⟩,?s7⟩,?s8⟩,?s9⟩,?s10⟩,?s11⟩,?s12⟩,?s13⟩,?s14⟩,?s15⟩,?s16⟩,?s17⟩,?s18⟩,?s19⟩,?s20⟩,?s21⟩
       case s0 =>
        intro a w1 hw hO hN
        obtain rfl:w1=w3.drew:=hw (by decide)
        have o0:a.tmps[0]?=some (.slice (some ⟨b,o,none⟩) l.length c):=(hO.out 0 (by decide)).trans rfl
        exact relVal rfl (.slice (some ⟨b,o,none⟩) l.length c) _ rfl (by go_simp) ⟨_,rfl,rfl,fun _=>rfl⟩
       case s1 =>
        intro a w1 hw hO hN
        obtain rfl:w1=w3.drew:=hw (by decide)
        have o3:a.tmps[3]?=some (.int .i64 (k:Int)):=(hO.out 3 (by decide)).trans rfl
        exact relVal rfl (.int .i64 (k:Int)) _ rfl (by go_simp) ⟨_,rfl,rfl,fun _=>rfl⟩
       case s2 =>
        intro a w1 hw hO hN
        obtain rfl:w1=w3.drew:=hw (by decide)
        obtain ⟨v0,g0,r0⟩:=hN 0 (by decide)
        have g0:a.tmps[10]?=some v0:=g0
        have e0:v0=.slice (some ⟨b,o,none⟩) l.length c:=r0
        rw [e0] at g0
        obtain ⟨v1,g1,r1⟩:=hN 1 (by decide)
        have g1:a.tmps[11]?=some v1:=g1
        have e1:v1=.int .i64 (k:Int):=r1
        rw [e1] at g1
        exact relVal rfl (.pointer (some ⟨b,o+k,none⟩)) _ rfl (by go_simp) ⟨_,rfl,rfl,fun _=>rfl⟩
       case s3 =>
        intro a w1 hw hO hN
        obtain rfl:w1=w3.drew:=hw (by decide)
        obtain ⟨v2,g2,r2⟩:=hN 2 (by decide)
        have g2:a.tmps[12]?=some v2:=g2
        have e2:v2=.pointer (some ⟨b,o+k,none⟩):=r2
        rw [e2] at g2
        exact relVal rfl (.string x) _ rfl (by go_simp) ⟨_,rfl,rfl,fun _=>rfl⟩
       case s4 =>
        intro a w1 hw hO hN
        obtain rfl:w1=w3.drew:=hw (by decide)
        obtain ⟨v3,g3,r3⟩:=hN 3 (by decide)
        have g3:a.tmps[13]?=some v3:=g3
        have e3:v3=.string x:=r3
        rw [e3] at g3
        refine relCallF rfl rfl 47 [.tmp 13] #[9] rfl [.string x] (by simp [Act.eval,g3]) (enters_of Try.func47 (by kernel_rfl) rfl) (Calls.mono (KW.out w3.drew) ?_)
        rintro e w5 ⟨rfl,hb5⟩
        exact ⟨_,rfl,_,rfl,⟨rfl,(Below.refl _ _).drew.trans hb5⟩,fun h=>absurd rfl h⟩
       case s5 =>
        intro a w1 hw hO hN
        obtain ⟨v4,g4,r4⟩:=hN 4 (by decide)
        have g4:a.tmps[14]?=some v4:=g4
        obtain ⟨e4,hb4⟩:=r4
        rw [e4] at g4
        exact relVal rfl (.bool false) _ rfl (by go_simp) ⟨_,rfl,⟨rfl,hb4⟩,fun _=>rfl⟩
       case s6 =>
        intro a w1 hw hO hN
        obtain ⟨v5,g5,r5⟩:=hN 5 (by decide)
        have g5:a.tmps[15]?=some v5:=g5
        obtain ⟨e5,hb5⟩:=r5
        rw [e5] at g5
        exact relVal rfl (.bool false) _ rfl (by go_simp) ⟨_,rfl,⟨rfl,hb5⟩,fun _=>rfl⟩
       case s7 =>
        intro a w1 hw hO hN
        obtain ⟨v6,g6,r6⟩:=hN 6 (by decide)
        have g6:a.tmps[16]?=some v6:=g6
        obtain ⟨e6,hb6⟩:=r6
        rw [e6] at g6
        have o3:a.tmps[3]?=some (.int .i64 (k:Int)):=(hO.out 3 (by decide)).trans rfl
        exact relValW rfl (.int .i64 (k:Int)) _ ((wanted_is rfl rfl g6).trans rfl) (by go_simp) ⟨_,rfl,⟨rfl,hb6⟩,fun _=>rfl⟩
       case s8 =>
        intro a w1 hw hO hN
        obtain ⟨v7,g7,r7⟩:=hN 7 (by decide)
        have g7:a.tmps[17]?=some v7:=g7
        obtain ⟨e7,hb7⟩:=r7
        rw [e7] at g7
        obtain ⟨v6,g6,r6⟩:=hN 6 (by decide)
        have g6:a.tmps[16]?=some v6:=g6
        obtain ⟨e6,hb6⟩:=r6
        rw [e6] at g6
        exact relValW rfl (.bool true) _ ((wanted_is rfl rfl g6).trans rfl) (by go_simp) ⟨_,rfl,⟨rfl,hb7⟩,fun _=>rfl⟩
       case s9 =>
        intro a w1 hw hO hN
        obtain ⟨v8,g8,r8⟩:=hN 8 (by decide)
        have g8:a.tmps[18]?=some v8:=g8
        obtain ⟨e8,hb8⟩:=r8
        rw [e8] at g8
        obtain ⟨v6,g6,r6⟩:=hN 6 (by decide)
        have g6:a.tmps[16]?=some v6:=g6
        obtain ⟨e6,hb6⟩:=r6
        rw [e6] at g6
        exact relValW rfl (.bool true) _ ((wanted_is rfl rfl g6).trans rfl) (by go_simp) ⟨_,rfl,⟨rfl,hb8⟩,fun _=>rfl⟩
       case s10 =>
        intro a w1 hw hO hN
        obtain ⟨v9,g9,r9⟩:=hN 9 (by decide)
        have g9:a.tmps[19]?=some v9:=g9
        obtain ⟨e9,hb9⟩:=r9
        rw [e9] at g9
        have o0:a.tmps[0]?=some (.slice (some ⟨b,o,none⟩) l.length c):=(hO.out 0 (by decide)).trans rfl
        exact relValW rfl (.slice (some ⟨b,o,none⟩) l.length c) _ ((wanted_is rfl rfl g9).trans rfl) (by go_simp) ⟨_,rfl,⟨rfl,hb9⟩,fun _=>rfl⟩
       case s11 =>
        intro a w1 hw hO hN
        obtain ⟨v9,g9,r9⟩:=hN 9 (by decide)
        have g9:a.tmps[19]?=some v9:=g9
        obtain ⟨e9,hb9⟩:=r9
        rw [e9] at g9
        have o3:a.tmps[3]?=some (.int .i64 (k:Int)):=(hO.out 3 (by decide)).trans rfl
        exact relValW rfl (.int .i64 (k:Int)) _ ((wanted_is rfl rfl g9).trans rfl) (by go_simp) ⟨_,rfl,⟨rfl,hb9⟩,fun _=>rfl⟩
       case s12 =>
        intro a w1 hw hO hN
        obtain ⟨v11,g11,r11⟩:=hN 11 (by decide)
        have g11:a.tmps[21]?=some v11:=g11
        obtain ⟨e11,hb11⟩:=r11
        rw [e11] at g11
        obtain ⟨v9,g9,r9⟩:=hN 9 (by decide)
        have g9:a.tmps[19]?=some v9:=g9
        obtain ⟨e9,hb9⟩:=r9
        rw [e9] at g9
        exact relValW rfl (.int .i64 ((k:Int) - 1)) _ ((wanted_is rfl rfl g9).trans rfl) (by go_simp) ⟨_,rfl,⟨rfl,hb11⟩,fun _=>rfl⟩
       case s13 =>
        intro a w1 hw hO hN
        obtain ⟨v10,g10,r10⟩:=hN 10 (by decide)
        have g10:a.tmps[20]?=some v10:=g10
        obtain ⟨e10,hb10⟩:=r10
        rw [e10] at g10
        obtain ⟨v12,g12,r12⟩:=hN 12 (by decide)
        have g12:a.tmps[22]?=some v12:=g12
        obtain ⟨e12,hb12⟩:=r12
        rw [e12] at g12
        obtain ⟨v9,g9,r9⟩:=hN 9 (by decide)
        have g9:a.tmps[19]?=some v9:=g9
        obtain ⟨e9,hb9⟩:=r9
        rw [e9] at g9
        exact relValW rfl (.pointer (some ⟨b,o+(k - 1),none⟩)) _ ((wanted_is rfl rfl g9).trans rfl) (by go_simp) ⟨_,rfl,⟨rfl,hb10⟩,fun _=>rfl⟩
       case s14 =>
        intro a w1 hw hO hN
        obtain ⟨v13,g13,r13⟩:=hN 13 (by decide)
        have g13:a.tmps[23]?=some v13:=g13
        obtain ⟨e13,hb13⟩:=r13
        rw [e13] at g13
        obtain ⟨v9,g9,r9⟩:=hN 9 (by decide)
        have g9:a.tmps[19]?=some v9:=g9
        obtain ⟨e9,hb9⟩:=r9
        rw [e9] at g9
        have hcx1:=HCX.out w1 hb13
        have hcy1:=HCY.out w1 hb13
        exact relValW rfl (.string y) _ ((wanted_is rfl rfl g9).trans rfl) (by go_simp) ⟨_,rfl,⟨rfl,hb13⟩,fun _=>rfl⟩
       case s15 =>
        intro a w1 hw hO hN
        obtain ⟨v9,g9,r9⟩:=hN 9 (by decide)
        have g9:a.tmps[19]?=some v9:=g9
        obtain ⟨e9,hb9⟩:=r9
        rw [e9] at g9
        have o0:a.tmps[0]?=some (.slice (some ⟨b,o,none⟩) l.length c):=(hO.out 0 (by decide)).trans rfl
        exact relValW rfl (.slice (some ⟨b,o,none⟩) l.length c) _ ((wanted_is rfl rfl g9).trans rfl) (by go_simp) ⟨_,rfl,⟨rfl,hb9⟩,fun _=>rfl⟩
       case s16 =>
        intro a w1 hw hO hN
        obtain ⟨v9,g9,r9⟩:=hN 9 (by decide)
        have g9:a.tmps[19]?=some v9:=g9
        obtain ⟨e9,hb9⟩:=r9
        rw [e9] at g9
        have o3:a.tmps[3]?=some (.int .i64 (k:Int)):=(hO.out 3 (by decide)).trans rfl
        exact relValW rfl (.int .i64 (k:Int)) _ ((wanted_is rfl rfl g9).trans rfl) (by go_simp) ⟨_,rfl,⟨rfl,hb9⟩,fun _=>rfl⟩
       case s17 =>
        intro a w1 hw hO hN
        obtain ⟨v15,g15,r15⟩:=hN 15 (by decide)
        have g15:a.tmps[25]?=some v15:=g15
        obtain ⟨e15,hb15⟩:=r15
        rw [e15] at g15
        obtain ⟨v16,g16,r16⟩:=hN 16 (by decide)
        have g16:a.tmps[26]?=some v16:=g16
        obtain ⟨e16,hb16⟩:=r16
        rw [e16] at g16
        obtain ⟨v9,g9,r9⟩:=hN 9 (by decide)
        have g9:a.tmps[19]?=some v9:=g9
        obtain ⟨e9,hb9⟩:=r9
        rw [e9] at g9
        exact relValW rfl (.pointer (some ⟨b,o+k,none⟩)) _ ((wanted_is rfl rfl g9).trans rfl) (by go_simp) ⟨_,rfl,⟨rfl,hb15⟩,fun _=>rfl⟩
       case s18 =>
        intro a w1 hw hO hN
        obtain ⟨v17,g17,r17⟩:=hN 17 (by decide)
        have g17:a.tmps[27]?=some v17:=g17
        obtain ⟨e17,hb17⟩:=r17
        rw [e17] at g17
        obtain ⟨v9,g9,r9⟩:=hN 9 (by decide)
        have g9:a.tmps[19]?=some v9:=g9
        obtain ⟨e9,hb9⟩:=r9
        rw [e9] at g9
        have hcx1:=HCX.out w1 hb17
        have hcy1:=HCY.out w1 hb17
        exact relValW rfl (.string x) _ ((wanted_is rfl rfl g9).trans rfl) (by go_simp) ⟨_,rfl,⟨rfl,hb17⟩,fun _=>rfl⟩
       case s19 =>
        intro a w1 hw hO hN
        obtain ⟨v14,g14,r14⟩:=hN 14 (by decide)
        have g14:a.tmps[24]?=some v14:=g14
        obtain ⟨e14,hb14⟩:=r14
        rw [e14] at g14
        obtain ⟨v18,g18,r18⟩:=hN 18 (by decide)
        have g18:a.tmps[28]?=some v18:=g18
        obtain ⟨e18,hb18⟩:=r18
        rw [e18] at g18
        obtain ⟨v9,g9,r9⟩:=hN 9 (by decide)
        have g9:a.tmps[19]?=some v9:=g9
        obtain ⟨e9,hb9⟩:=r9
        rw [e9] at g9
        exact relValW rfl (.bool false) _ ((wanted_is rfl rfl g9).trans rfl) (by go_simp) ⟨_,rfl,⟨rfl,hb14⟩,fun _=>rfl⟩
       case s20 =>
        intro a w1 hw hO hN
        obtain ⟨v9,g9,r9⟩:=hN 9 (by decide)
        have g9:a.tmps[19]?=some v9:=g9
        obtain ⟨e9,hb9⟩:=r9
        rw [e9] at g9
        obtain ⟨v19,g19,r19⟩:=hN 19 (by decide)
        have g19:a.tmps[29]?=some v19:=g19
        obtain ⟨e19,hb19⟩:=r19
        rw [e19] at g19
        obtain ⟨v6,g6,r6⟩:=hN 6 (by decide)
        have g6:a.tmps[16]?=some v6:=g6
        obtain ⟨e6,hb6⟩:=r6
        rw [e6] at g6
        exact relValW rfl (.bool false) _ ((wanted_is rfl rfl g6).trans rfl) (by go_simp) ⟨_,rfl,⟨rfl,hb9⟩,fun _=>rfl⟩
       case s21 =>
        intro a w1 hw hO hN
        obtain ⟨v6,g6,r6⟩:=hN 6 (by decide)
        have g6:a.tmps[16]?=some v6:=g6
        obtain ⟨e6,hb6⟩:=r6
        rw [e6] at g6
        obtain ⟨v20,g20,r20⟩:=hN 20 (by decide)
        have g20:a.tmps[30]?=some v20:=g20
        obtain ⟨e20,hb20⟩:=r20
        rw [e20] at g20
        exact relVal rfl (.bool false) _ rfl (by go_simp) ⟨_,rfl,⟨rfl,hb6⟩,fun _=>rfl⟩
      case fin =>
       intro vs w1 hV
       obtain ⟨e21,hb9⟩:vs 21=.bool false∧Below w3.heap.size w3 w1:=hV 21 (by decide)
       have HB9:=show Hid (Below w.heap.size w w1) from HB.out.trans (hb9.mono HB.out.size)
       simp only [putAll,Act.put,List.setIfInBounds_toArray,List.set_cons_zero,List.set_cons_succ,e21]
       clear hV e21 hb9 KW HB HCX hcx HCY
       go_wp2_with fail
       go_roundw
       case rel=>exact ⟨k+1,by omega,val_int (by omega),HB9,HS4⟩
       case measure=>(simp only [intOf];omega)
   ·have hd:decide (0<(k:Int))=false:=by simp;omega
    have HS3:=show Hid (Fm.word l[k].data.toList=true→_) from fun h1=>HS.out h1 (fun h=>absurd h hk0)
    have HF4:=show Hid (Fm.word l[k].data.toList=false→ans=false) from fun h=>HFK.out (Or.inl h)
    clear hat HA HX HF HFK HS HI
    generalize l[k]=x at *
    generalize Fm.word x.data.toList=wx at *
    cases wx
    ·go_wp2_with fail
     refine wp_region_one (by kernel_rfl) 4 [some 10,some 11,some 12,some 13,some 14,some 15,some 16,some 17,some 18,some 19,some 20,some 21,some 22,some 23,some 24,some 25,some 26,some 27,some 28,some 29,some 30,some 31] [[],[],[0,1],[2],[3],[4],[5],[6],[7,6],[8,6],[9],[9],[11,9],[10,12,9],[13,9],[9],[9],[15,16,9],[17,9],[14,18,9],[9,19,6],[6,20]] [[],[],[0,1],[2,0,1],[3,2,0,1],[4,3,2,0,1],[5,4,3,2,0,1],[6,5,4,3,2,0,1],[7,6,5,4,3,2,0,1],[8,7,6,5,4,3,2,0,1],[9,8,7,6,5,4,3,2,0,1],[9,8,7,6,5,4,3,2,0,1],[11,9,8,7,6,5,4,3,2,0,1],[10,9,8,7,6,5,4,3,2,0,1,12,11],[13,10,9,8,7,6,5,4,3,2,0,1,12,11],[9,8,7,6,5,4,3,2,0,1],[9,8,7,6,5,4,3,2,0,1],[15,9,8,7,6,5,4,3,2,0,1,16],[17,15,9,8,7,6,5,4,3,2,0,1,16],[14,13,10,9,8,7,6,5,4,3,2,0,1,12,11,18,17,15,16],[9,8,7,6,5,4,3,2,0,1,19,14,13,10,12,11,18,17,15,16],[6,5,4,3,2,0,1,20,9,8,7,19,14,13,10,12,11,18,17,15,16]] (by kernel_rfl) (by decide) (fun ii vv w1=>match ii with | 0=>vv=.slice (some ⟨b,o,none⟩) l.length c | 1=>vv=.int .i64 (k:Int) | 2=>vv=.pointer (some ⟨b,o+k,none⟩) | 3=>vv=.string x | 4=>vv=.bool false∧Below w3.heap.size w3 w1 | 5=>vv=.bool true∧Below w3.heap.size w3 w1 | 6=>vv=.bool true∧Below w3.heap.size w3 w1 | 7=>vv=undef∧Below w3.heap.size w3 w1 | 8=>vv=undef∧Below w3.heap.size w3 w1 | 9=>vv=undef∧Below w3.heap.size w3 w1 | 10=>vv=undef∧Below w3.heap.size w3 w1 | 11=>vv=undef∧Below w3.heap.size w3 w1 | 12=>vv=undef∧Below w3.heap.size w3 w1 | 13=>vv=undef∧Below w3.heap.size w3 w1 | 14=>vv=undef∧Below w3.heap.size w3 w1 | 15=>vv=undef∧Below w3.heap.size w3 w1 | 16=>vv=undef∧Below w3.heap.size w3 w1 | 17=>vv=undef∧Below w3.heap.size w3 w1 | 18=>vv=undef∧Below w3.heap.size w3 w1 | 19=>vv=undef∧Below w3.heap.size w3 w1 | 20=>vv=undef∧Below w3.heap.size w3 w1 | 21=>vv=.bool true∧Below w3.heap.size w3 w1 | _=>True) ?hfree (allLt 22 ?steps) ?fin
     case hfree =>
      intro j v w1 w2 hj hn h
      match j,h,hj,hn with
      | 0,h,_,_=>exact h
      | 1,h,_,_=>exact h
      | 2,h,_,_=>exact h
      | 3,h,_,_=>exact h
      | 4,_,hj,_=>exact absurd rfl hj
      | 5,_,_,hn=>exact absurd (by decide) hn
      | 6,_,_,hn=>exact absurd (by decide) hn
      | 7,_,_,hn=>exact absurd (by decide) hn
      | 8,_,_,hn=>exact absurd (by decide) hn
      | 9,_,_,hn=>exact absurd (by decide) hn
      | 10,_,_,hn=>exact absurd (by decide) hn
      | 11,_,_,hn=>exact absurd (by decide) hn
      | 12,_,_,hn=>exact absurd (by decide) hn
      | 13,_,_,hn=>exact absurd (by decide) hn
      | 14,_,_,hn=>exact absurd (by decide) hn
      | 15,_,_,hn=>exact absurd (by decide) hn
      | 16,_,_,hn=>exact absurd (by decide) hn
      | 17,_,_,hn=>exact absurd (by decide) hn
      | 18,_,_,hn=>exact absurd (by decide) hn
      | 19,_,_,hn=>exact absurd (by decide) hn
      | 20,_,_,hn=>exact absurd (by decide) hn
      | 21,_,_,hn=>exact absurd (by decide) hn
      | _+22,_,_,_=>trivial
     case steps =>
      refine ⟨⟨⟨⟨⟨⟨⟨⟨⟨⟨⟨⟨⟨⟨⟨⟨⟨⟨⟨⟨⟨⟨trivial,?s0⟩,?s1⟩,?s2⟩,?s3⟩,?s4⟩,?s5⟩,?s6⟩,?s7⟩,?s8⟩,?s9⟩,?s10⟩,?s11⟩,?s12⟩,?s13⟩,?s14⟩,?s15⟩,?s16⟩,?s17⟩,?s18⟩,?s19⟩,?s20⟩,?s21⟩
      case s0 =>
       intro a w1 hw hO hN
       obtain rfl:w1=w3.drew:=hw (by decide)
       have o0:a.tmps[0]?=some (.slice (some ⟨b,o,none⟩) l.length c):=(hO.out 0 (by decide)).trans rfl
       exact relVal rfl (.slice (some ⟨b,o,none⟩) l.length c) _ rfl (by go_simp) ⟨_,rfl,rfl,fun _=>rfl⟩
      case s1 =>
       intro a w1 hw hO hN
       obtain rfl:w1=w3.drew:=hw (by decide)
       have o3:a.tmps[3]?=some (.int .i64 (k:Int)):=(hO.out 3 (by decide)).trans rfl
       exact relVal rfl (.int .i64 (k:Int)) _ rfl (by go_simp) ⟨_,rfl,rfl,fun _=>rfl⟩
      case s2 =>
       intro a w1 hw hO hN
       obtain rfl:w1=w3.drew:=hw (by decide)
       obtain ⟨v0,g0,r0⟩:=hN 0 (by decide)
       have g0:a.tmps[10]?=some v0:=g0
       have e0:v0=.slice (some ⟨b,o,none⟩) l.length c:=r0
       rw [e0] at g0
       obtain ⟨v1,g1,r1⟩:=hN 1 (by decide)
       have g1:a.tmps[11]?=some v1:=g1
       have e1:v1=.int .i64 (k:Int):=r1
       rw [e1] at g1
       exact relVal rfl (.pointer (some ⟨b,o+k,none⟩)) _ rfl (by go_simp) ⟨_,rfl,rfl,fun _=>rfl⟩
      case s3 =>
       intro a w1 hw hO hN
       obtain rfl:w1=w3.drew:=hw (by decide)
       obtain ⟨v2,g2,r2⟩:=hN 2 (by decide)
       have g2:a.tmps[12]?=some v2:=g2
       have e2:v2=.pointer (some ⟨b,o+k,none⟩):=r2
       rw [e2] at g2
       exact relVal rfl (.string x) _ rfl (by go_simp) ⟨_,rfl,rfl,fun _=>rfl⟩
      case s4 =>
       intro a w1 hw hO hN
       obtain rfl:w1=w3.drew:=hw (by decide)
       obtain ⟨v3,g3,r3⟩:=hN 3 (by decide)
       have g3:a.tmps[13]?=some v3:=g3
       have e3:v3=.string x:=r3
       rw [e3] at g3
       refine relCallF rfl rfl 47 [.tmp 13] #[9] rfl [.string x] (by simp [Act.eval,g3]) (enters_of Try.func47 (by kernel_rfl) rfl) (Calls.mono (KW.out w3.drew) ?_)
       rintro e w5 ⟨rfl,hb5⟩
       exact ⟨_,rfl,_,rfl,⟨rfl,(Below.refl _ _).drew.trans hb5⟩,fun h=>absurd rfl h⟩
      case s5 =>
       intro a w1 hw hO hN
       obtain ⟨v4,g4,r4⟩:=hN 4 (by decide)
       have g4:a.tmps[14]?=some v4:=g4
       obtain ⟨e4,hb4⟩:=r4
       rw [e4] at g4
       exact relVal rfl (.bool true) _ rfl (by go_simp) ⟨_,rfl,⟨rfl,hb4⟩,fun _=>rfl⟩
      case s6 =>
       intro a w1 hw hO hN
       obtain ⟨v5,g5,r5⟩:=hN 5 (by decide)
       have g5:a.tmps[15]?=some v5:=g5
       obtain ⟨e5,hb5⟩:=r5
       rw [e5] at g5
       exact relVal rfl (.bool true) _ rfl (by go_simp) ⟨_,rfl,⟨rfl,hb5⟩,fun _=>rfl⟩
      case s7 =>
       intro a w1 hw hO hN
       obtain ⟨v6,g6,r6⟩:=hN 6 (by decide)
       have g6:a.tmps[16]?=some v6:=g6
       obtain ⟨e6,hb6⟩:=r6
       rw [e6] at g6
       have o3:a.tmps[3]?=some (.int .i64 (k:Int)):=(hO.out 3 (by decide)).trans rfl
       exact relNo rfl ((wanted_is rfl rfl g6).trans rfl) ⟨_,rfl,⟨rfl,hb6⟩,fun _=>rfl⟩
      case s8 =>
       intro a w1 hw hO hN
       obtain ⟨v7,g7,r7⟩:=hN 7 (by decide)
       have g7:a.tmps[17]?=some v7:=g7
       obtain ⟨e7,hb7⟩:=r7
       rw [e7] at g7
       obtain ⟨v6,g6,r6⟩:=hN 6 (by decide)
       have g6:a.tmps[16]?=some v6:=g6
       obtain ⟨e6,hb6⟩:=r6
       rw [e6] at g6
       exact relNo rfl ((wanted_is rfl rfl g6).trans rfl) ⟨_,rfl,⟨rfl,hb7⟩,fun _=>rfl⟩
      case s9 =>
       intro a w1 hw hO hN
       obtain ⟨v8,g8,r8⟩:=hN 8 (by decide)
       have g8:a.tmps[18]?=some v8:=g8
       obtain ⟨e8,hb8⟩:=r8
       rw [e8] at g8
       obtain ⟨v6,g6,r6⟩:=hN 6 (by decide)
       have g6:a.tmps[16]?=some v6:=g6
       obtain ⟨e6,hb6⟩:=r6
       rw [e6] at g6
       exact relNo rfl ((wanted_is rfl rfl g6).trans rfl) ⟨_,rfl,⟨rfl,hb8⟩,fun _=>rfl⟩
      case s10 =>
       intro a w1 hw hO hN
       obtain ⟨v9,g9,r9⟩:=hN 9 (by decide)
       have g9:a.tmps[19]?=some v9:=g9
       obtain ⟨e9,hb9⟩:=r9
       rw [e9] at g9
       have o0:a.tmps[0]?=some (.slice (some ⟨b,o,none⟩) l.length c):=(hO.out 0 (by decide)).trans rfl
       exact relNo rfl (wanted_undef rfl rfl g9) ⟨_,rfl,⟨rfl,hb9⟩,fun _=>rfl⟩
      case s11 =>
       intro a w1 hw hO hN
       obtain ⟨v9,g9,r9⟩:=hN 9 (by decide)
       have g9:a.tmps[19]?=some v9:=g9
       obtain ⟨e9,hb9⟩:=r9
       rw [e9] at g9
       have o3:a.tmps[3]?=some (.int .i64 (k:Int)):=(hO.out 3 (by decide)).trans rfl
       exact relNo rfl (wanted_undef rfl rfl g9) ⟨_,rfl,⟨rfl,hb9⟩,fun _=>rfl⟩
      case s12 =>
       intro a w1 hw hO hN
       obtain ⟨v11,g11,r11⟩:=hN 11 (by decide)
       have g11:a.tmps[21]?=some v11:=g11
       obtain ⟨e11,hb11⟩:=r11
       rw [e11] at g11
       obtain ⟨v9,g9,r9⟩:=hN 9 (by decide)
       have g9:a.tmps[19]?=some v9:=g9
       obtain ⟨e9,hb9⟩:=r9
       rw [e9] at g9
       exact relNo rfl (wanted_undef rfl rfl g9) ⟨_,rfl,⟨rfl,hb11⟩,fun _=>rfl⟩
      case s13 =>
       intro a w1 hw hO hN
       obtain ⟨v10,g10,r10⟩:=hN 10 (by decide)
       have g10:a.tmps[20]?=some v10:=g10
       obtain ⟨e10,hb10⟩:=r10
       rw [e10] at g10
       obtain ⟨v12,g12,r12⟩:=hN 12 (by decide)
       have g12:a.tmps[22]?=some v12:=g12
       obtain ⟨e12,hb12⟩:=r12
       rw [e12] at g12
       obtain ⟨v9,g9,r9⟩:=hN 9 (by decide)
       have g9:a.tmps[19]?=some v9:=g9
       obtain ⟨e9,hb9⟩:=r9
       rw [e9] at g9
       exact relNo rfl (wanted_undef rfl rfl g9) ⟨_,rfl,⟨rfl,hb10⟩,fun _=>rfl⟩
      case s14 =>
       intro a w1 hw hO hN
       obtain ⟨v13,g13,r13⟩:=hN 13 (by decide)
       have g13:a.tmps[23]?=some v13:=g13
       obtain ⟨e13,hb13⟩:=r13
       rw [e13] at g13
       obtain ⟨v9,g9,r9⟩:=hN 9 (by decide)
       have g9:a.tmps[19]?=some v9:=g9
       obtain ⟨e9,hb9⟩:=r9
       rw [e9] at g9
       exact relNo rfl (wanted_undef rfl rfl g9) ⟨_,rfl,⟨rfl,hb13⟩,fun _=>rfl⟩
      case s15 =>
       intro a w1 hw hO hN
       obtain ⟨v9,g9,r9⟩:=hN 9 (by decide)
       have g9:a.tmps[19]?=some v9:=g9
       obtain ⟨e9,hb9⟩:=r9
       rw [e9] at g9
       have o0:a.tmps[0]?=some (.slice (some ⟨b,o,none⟩) l.length c):=(hO.out 0 (by decide)).trans rfl
       exact relNo rfl (wanted_undef rfl rfl g9) ⟨_,rfl,⟨rfl,hb9⟩,fun _=>rfl⟩
      case s16 =>
       intro a w1 hw hO hN
       obtain ⟨v9,g9,r9⟩:=hN 9 (by decide)
       have g9:a.tmps[19]?=some v9:=g9
       obtain ⟨e9,hb9⟩:=r9
       rw [e9] at g9
       have o3:a.tmps[3]?=some (.int .i64 (k:Int)):=(hO.out 3 (by decide)).trans rfl
       exact relNo rfl (wanted_undef rfl rfl g9) ⟨_,rfl,⟨rfl,hb9⟩,fun _=>rfl⟩
      case s17 =>
       intro a w1 hw hO hN
       obtain ⟨v15,g15,r15⟩:=hN 15 (by decide)
       have g15:a.tmps[25]?=some v15:=g15
       obtain ⟨e15,hb15⟩:=r15
       rw [e15] at g15
       obtain ⟨v16,g16,r16⟩:=hN 16 (by decide)
       have g16:a.tmps[26]?=some v16:=g16
       obtain ⟨e16,hb16⟩:=r16
       rw [e16] at g16
       obtain ⟨v9,g9,r9⟩:=hN 9 (by decide)
       have g9:a.tmps[19]?=some v9:=g9
       obtain ⟨e9,hb9⟩:=r9
       rw [e9] at g9
       exact relNo rfl (wanted_undef rfl rfl g9) ⟨_,rfl,⟨rfl,hb15⟩,fun _=>rfl⟩
      case s18 =>
       intro a w1 hw hO hN
       obtain ⟨v17,g17,r17⟩:=hN 17 (by decide)
       have g17:a.tmps[27]?=some v17:=g17
       obtain ⟨e17,hb17⟩:=r17
       rw [e17] at g17
       obtain ⟨v9,g9,r9⟩:=hN 9 (by decide)
       have g9:a.tmps[19]?=some v9:=g9
       obtain ⟨e9,hb9⟩:=r9
       rw [e9] at g9
       exact relNo rfl (wanted_undef rfl rfl g9) ⟨_,rfl,⟨rfl,hb17⟩,fun _=>rfl⟩
      case s19 =>
       intro a w1 hw hO hN
       obtain ⟨v14,g14,r14⟩:=hN 14 (by decide)
       have g14:a.tmps[24]?=some v14:=g14
       obtain ⟨e14,hb14⟩:=r14
       rw [e14] at g14
       obtain ⟨v18,g18,r18⟩:=hN 18 (by decide)
       have g18:a.tmps[28]?=some v18:=g18
       obtain ⟨e18,hb18⟩:=r18
       rw [e18] at g18
       obtain ⟨v9,g9,r9⟩:=hN 9 (by decide)
       have g9:a.tmps[19]?=some v9:=g9
       obtain ⟨e9,hb9⟩:=r9
       rw [e9] at g9
       exact relNo rfl (wanted_undef rfl rfl g9) ⟨_,rfl,⟨rfl,hb14⟩,fun _=>rfl⟩
      case s20 =>
       intro a w1 hw hO hN
       obtain ⟨v9,g9,r9⟩:=hN 9 (by decide)
       have g9:a.tmps[19]?=some v9:=g9
       obtain ⟨e9,hb9⟩:=r9
       rw [e9] at g9
       obtain ⟨v19,g19,r19⟩:=hN 19 (by decide)
       have g19:a.tmps[29]?=some v19:=g19
       obtain ⟨e19,hb19⟩:=r19
       rw [e19] at g19
       obtain ⟨v6,g6,r6⟩:=hN 6 (by decide)
       have g6:a.tmps[16]?=some v6:=g6
       obtain ⟨e6,hb6⟩:=r6
       rw [e6] at g6
       exact relNo rfl ((wanted_is rfl rfl g6).trans rfl) ⟨_,rfl,⟨rfl,hb9⟩,fun _=>rfl⟩
      case s21 =>
       intro a w1 hw hO hN
       obtain ⟨v6,g6,r6⟩:=hN 6 (by decide)
       have g6:a.tmps[16]?=some v6:=g6
       obtain ⟨e6,hb6⟩:=r6
       rw [e6] at g6
       obtain ⟨v20,g20,r20⟩:=hN 20 (by decide)
       have g20:a.tmps[30]?=some v20:=g20
       obtain ⟨e20,hb20⟩:=r20
       rw [e20] at g20
       exact relVal rfl (.bool true) _ rfl (by go_simp) ⟨_,rfl,⟨rfl,hb6⟩,fun _=>rfl⟩
     case fin =>
      intro vs w1 hV
      obtain ⟨e21,hb9⟩:vs 21=.bool true∧Below w3.heap.size w3 w1:=hV 21 (by decide)
      have HB9:=show Hid (Below w.heap.size w w1) from HB.out.trans (hb9.mono HB.out.size)
      simp only [putAll,Act.put,List.setIfInBounds_toArray,List.set_cons_zero,List.set_cons_succ,e21]
      clear hV e21 hb9 KW HB HCX hcx
      go_wp2_with fail
      go_ret
      exact ⟨ret_bool (HF4.out (by first | rfl | trivial)).symm,HB9.out⟩
    ·have HS4:=show Hid _ from HS3.out (by first | rfl | trivial)
     clear HS3 HF4
     go_wp2_with fail
     refine wp_region_one (by kernel_rfl) 4 [some 10,some 11,some 12,some 13,some 14,some 15,some 16,some 17,some 18,some 19,some 20,some 21,some 22,some 23,some 24,some 25,some 26,some 27,some 28,some 29,some 30,some 31] [[],[],[0,1],[2],[3],[4],[5],[6],[7,6],[8,6],[9],[9],[11,9],[10,12,9],[13,9],[9],[9],[15,16,9],[17,9],[14,18,9],[9,19,6],[6,20]] [[],[],[0,1],[2,0,1],[3,2,0,1],[4,3,2,0,1],[5,4,3,2,0,1],[6,5,4,3,2,0,1],[7,6,5,4,3,2,0,1],[8,7,6,5,4,3,2,0,1],[9,8,7,6,5,4,3,2,0,1],[9,8,7,6,5,4,3,2,0,1],[11,9,8,7,6,5,4,3,2,0,1],[10,9,8,7,6,5,4,3,2,0,1,12,11],[13,10,9,8,7,6,5,4,3,2,0,1,12,11],[9,8,7,6,5,4,3,2,0,1],[9,8,7,6,5,4,3,2,0,1],[15,9,8,7,6,5,4,3,2,0,1,16],[17,15,9,8,7,6,5,4,3,2,0,1,16],[14,13,10,9,8,7,6,5,4,3,2,0,1,12,11,18,17,15,16],[9,8,7,6,5,4,3,2,0,1,19,14,13,10,12,11,18,17,15,16],[6,5,4,3,2,0,1,20,9,8,7,19,14,13,10,12,11,18,17,15,16]] (by kernel_rfl) (by decide) (fun ii vv w1=>match ii with | 0=>vv=.slice (some ⟨b,o,none⟩) l.length c | 1=>vv=.int .i64 (k:Int) | 2=>vv=.pointer (some ⟨b,o+k,none⟩) | 3=>vv=.string x | 4=>vv=.bool true∧Below w3.heap.size w3 w1 | 5=>vv=.bool false∧Below w3.heap.size w3 w1 | 6=>vv=.bool false∧Below w3.heap.size w3 w1 | 7=>vv=.int .i64 (k:Int)∧Below w3.heap.size w3 w1 | 8=>vv=.bool false∧Below w3.heap.size w3 w1 | 9=>vv=.bool false∧Below w3.heap.size w3 w1 | 10=>vv=undef∧Below w3.heap.size w3 w1 | 11=>vv=undef∧Below w3.heap.size w3 w1 | 12=>vv=undef∧Below w3.heap.size w3 w1 | 13=>vv=undef∧Below w3.heap.size w3 w1 | 14=>vv=undef∧Below w3.heap.size w3 w1 | 15=>vv=undef∧Below w3.heap.size w3 w1 | 16=>vv=undef∧Below w3.heap.size w3 w1 | 17=>vv=undef∧Below w3.heap.size w3 w1 | 18=>vv=undef∧Below w3.heap.size w3 w1 | 19=>vv=undef∧Below w3.heap.size w3 w1 | 20=>vv=.bool false∧Below w3.heap.size w3 w1 | 21=>vv=.bool false∧Below w3.heap.size w3 w1 | _=>True) ?hfree (allLt 22 ?steps) ?fin
     case hfree =>
      intro j v w1 w2 hj hn h
      match j,h,hj,hn with
      | 0,h,_,_=>exact h
      | 1,h,_,_=>exact h
      | 2,h,_,_=>exact h
      | 3,h,_,_=>exact h
      | 4,_,hj,_=>exact absurd rfl hj
      | 5,_,_,hn=>exact absurd (by decide) hn
      | 6,_,_,hn=>exact absurd (by decide) hn
      | 7,_,_,hn=>exact absurd (by decide) hn
      | 8,_,_,hn=>exact absurd (by decide) hn
      | 9,_,_,hn=>exact absurd (by decide) hn
      | 10,_,_,hn=>exact absurd (by decide) hn
      | 11,_,_,hn=>exact absurd (by decide) hn
      | 12,_,_,hn=>exact absurd (by decide) hn
      | 13,_,_,hn=>exact absurd (by decide) hn
      | 14,_,_,hn=>exact absurd (by decide) hn
      | 15,_,_,hn=>exact absurd (by decide) hn
      | 16,_,_,hn=>exact absurd (by decide) hn
      | 17,_,_,hn=>exact absurd (by decide) hn
      | 18,_,_,hn=>exact absurd (by decide) hn
      | 19,_,_,hn=>exact absurd (by decide) hn
      | 20,_,_,hn=>exact absurd (by decide) hn
      | 21,_,_,hn=>exact absurd (by decide) hn
      | _+22,_,_,_=>trivial
     case steps =>
      refine ⟨⟨⟨⟨⟨⟨⟨⟨⟨⟨⟨⟨⟨⟨⟨⟨⟨⟨⟨⟨⟨⟨trivial,?s0⟩,?s1⟩,?s2⟩,?s3⟩,?s4⟩,?s5⟩,?s6⟩,?s7⟩,?s8⟩,?s9⟩,?s10⟩,?s11⟩,?s12⟩,?s13⟩,?s14⟩,?s15⟩,?s16⟩,?s17⟩,?s18⟩,?s19⟩,?s20⟩,?s21⟩
      case s0 =>
       intro a w1 hw hO hN
       obtain rfl:w1=w3.drew:=hw (by decide)
       have o0:a.tmps[0]?=some (.slice (some ⟨b,o,none⟩) l.length c):=(hO.out 0 (by decide)).trans rfl
       exact relVal rfl (.slice (some ⟨b,o,none⟩) l.length c) _ rfl (by go_simp) ⟨_,rfl,rfl,fun _=>rfl⟩
      case s1 =>
       intro a w1 hw hO hN
       obtain rfl:w1=w3.drew:=hw (by decide)
       have o3:a.tmps[3]?=some (.int .i64 (k:Int)):=(hO.out 3 (by decide)).trans rfl
       exact relVal rfl (.int .i64 (k:Int)) _ rfl (by go_simp) ⟨_,rfl,rfl,fun _=>rfl⟩
      case s2 =>
       intro a w1 hw hO hN
       obtain rfl:w1=w3.drew:=hw (by decide)
       obtain ⟨v0,g0,r0⟩:=hN 0 (by decide)
       have g0:a.tmps[10]?=some v0:=g0
       have e0:v0=.slice (some ⟨b,o,none⟩) l.length c:=r0
       rw [e0] at g0
       obtain ⟨v1,g1,r1⟩:=hN 1 (by decide)
       have g1:a.tmps[11]?=some v1:=g1
       have e1:v1=.int .i64 (k:Int):=r1
       rw [e1] at g1
       exact relVal rfl (.pointer (some ⟨b,o+k,none⟩)) _ rfl (by go_simp) ⟨_,rfl,rfl,fun _=>rfl⟩
      case s3 =>
       intro a w1 hw hO hN
       obtain rfl:w1=w3.drew:=hw (by decide)
       obtain ⟨v2,g2,r2⟩:=hN 2 (by decide)
       have g2:a.tmps[12]?=some v2:=g2
       have e2:v2=.pointer (some ⟨b,o+k,none⟩):=r2
       rw [e2] at g2
       exact relVal rfl (.string x) _ rfl (by go_simp) ⟨_,rfl,rfl,fun _=>rfl⟩
      case s4 =>
       intro a w1 hw hO hN
       obtain rfl:w1=w3.drew:=hw (by decide)
       obtain ⟨v3,g3,r3⟩:=hN 3 (by decide)
       have g3:a.tmps[13]?=some v3:=g3
       have e3:v3=.string x:=r3
       rw [e3] at g3
       refine relCallF rfl rfl 47 [.tmp 13] #[9] rfl [.string x] (by simp [Act.eval,g3]) (enters_of Try.func47 (by kernel_rfl) rfl) (Calls.mono (KW.out w3.drew) ?_)
       rintro e w5 ⟨rfl,hb5⟩
       exact ⟨_,rfl,_,rfl,⟨rfl,(Below.refl _ _).drew.trans hb5⟩,fun h=>absurd rfl h⟩
      case s5 =>
       intro a w1 hw hO hN
       obtain ⟨v4,g4,r4⟩:=hN 4 (by decide)
       have g4:a.tmps[14]?=some v4:=g4
       obtain ⟨e4,hb4⟩:=r4
       rw [e4] at g4
       exact relVal rfl (.bool false) _ rfl (by go_simp) ⟨_,rfl,⟨rfl,hb4⟩,fun _=>rfl⟩
      case s6 =>
       intro a w1 hw hO hN
       obtain ⟨v5,g5,r5⟩:=hN 5 (by decide)
       have g5:a.tmps[15]?=some v5:=g5
       obtain ⟨e5,hb5⟩:=r5
       rw [e5] at g5
       exact relVal rfl (.bool false) _ rfl (by go_simp) ⟨_,rfl,⟨rfl,hb5⟩,fun _=>rfl⟩
      case s7 =>
       intro a w1 hw hO hN
       obtain ⟨v6,g6,r6⟩:=hN 6 (by decide)
       have g6:a.tmps[16]?=some v6:=g6
       obtain ⟨e6,hb6⟩:=r6
       rw [e6] at g6
       have o3:a.tmps[3]?=some (.int .i64 (k:Int)):=(hO.out 3 (by decide)).trans rfl
       exact relValW rfl (.int .i64 (k:Int)) _ ((wanted_is rfl rfl g6).trans rfl) (by go_simp) ⟨_,rfl,⟨rfl,hb6⟩,fun _=>rfl⟩
      case s8 =>
       intro a w1 hw hO hN
       obtain ⟨v7,g7,r7⟩:=hN 7 (by decide)
       have g7:a.tmps[17]?=some v7:=g7
       obtain ⟨e7,hb7⟩:=r7
       rw [e7] at g7
       obtain ⟨v6,g6,r6⟩:=hN 6 (by decide)
       have g6:a.tmps[16]?=some v6:=g6
       obtain ⟨e6,hb6⟩:=r6
       rw [e6] at g6
       exact relValW rfl (.bool false) _ ((wanted_is rfl rfl g6).trans rfl) (by go_simp) ⟨_,rfl,⟨rfl,hb7⟩,fun _=>rfl⟩
      case s9 =>
       intro a w1 hw hO hN
       obtain ⟨v8,g8,r8⟩:=hN 8 (by decide)
       have g8:a.tmps[18]?=some v8:=g8
       obtain ⟨e8,hb8⟩:=r8
       rw [e8] at g8
       obtain ⟨v6,g6,r6⟩:=hN 6 (by decide)
       have g6:a.tmps[16]?=some v6:=g6
       obtain ⟨e6,hb6⟩:=r6
       rw [e6] at g6
       exact relValW rfl (.bool false) _ ((wanted_is rfl rfl g6).trans rfl) (by go_simp) ⟨_,rfl,⟨rfl,hb8⟩,fun _=>rfl⟩
      case s10 =>
       intro a w1 hw hO hN
       obtain ⟨v9,g9,r9⟩:=hN 9 (by decide)
       have g9:a.tmps[19]?=some v9:=g9
       obtain ⟨e9,hb9⟩:=r9
       rw [e9] at g9
       have o0:a.tmps[0]?=some (.slice (some ⟨b,o,none⟩) l.length c):=(hO.out 0 (by decide)).trans rfl
       exact relNo rfl ((wanted_is rfl rfl g9).trans rfl) ⟨_,rfl,⟨rfl,hb9⟩,fun _=>rfl⟩
      case s11 =>
       intro a w1 hw hO hN
       obtain ⟨v9,g9,r9⟩:=hN 9 (by decide)
       have g9:a.tmps[19]?=some v9:=g9
       obtain ⟨e9,hb9⟩:=r9
       rw [e9] at g9
       have o3:a.tmps[3]?=some (.int .i64 (k:Int)):=(hO.out 3 (by decide)).trans rfl
       exact relNo rfl ((wanted_is rfl rfl g9).trans rfl) ⟨_,rfl,⟨rfl,hb9⟩,fun _=>rfl⟩
      case s12 =>
       intro a w1 hw hO hN
       obtain ⟨v11,g11,r11⟩:=hN 11 (by decide)
       have g11:a.tmps[21]?=some v11:=g11
       obtain ⟨e11,hb11⟩:=r11
       rw [e11] at g11
       obtain ⟨v9,g9,r9⟩:=hN 9 (by decide)
       have g9:a.tmps[19]?=some v9:=g9
       obtain ⟨e9,hb9⟩:=r9
       rw [e9] at g9
       exact relNo rfl ((wanted_is rfl rfl g9).trans rfl) ⟨_,rfl,⟨rfl,hb11⟩,fun _=>rfl⟩
      case s13 =>
       intro a w1 hw hO hN
       obtain ⟨v10,g10,r10⟩:=hN 10 (by decide)
       have g10:a.tmps[20]?=some v10:=g10
       obtain ⟨e10,hb10⟩:=r10
       rw [e10] at g10
       obtain ⟨v12,g12,r12⟩:=hN 12 (by decide)
       have g12:a.tmps[22]?=some v12:=g12
       obtain ⟨e12,hb12⟩:=r12
       rw [e12] at g12
       obtain ⟨v9,g9,r9⟩:=hN 9 (by decide)
       have g9:a.tmps[19]?=some v9:=g9
       obtain ⟨e9,hb9⟩:=r9
       rw [e9] at g9
       exact relNo rfl ((wanted_is rfl rfl g9).trans rfl) ⟨_,rfl,⟨rfl,hb10⟩,fun _=>rfl⟩
      case s14 =>
       intro a w1 hw hO hN
       obtain ⟨v13,g13,r13⟩:=hN 13 (by decide)
       have g13:a.tmps[23]?=some v13:=g13
       obtain ⟨e13,hb13⟩:=r13
       rw [e13] at g13
       obtain ⟨v9,g9,r9⟩:=hN 9 (by decide)
       have g9:a.tmps[19]?=some v9:=g9
       obtain ⟨e9,hb9⟩:=r9
       rw [e9] at g9
       exact relNo rfl ((wanted_is rfl rfl g9).trans rfl) ⟨_,rfl,⟨rfl,hb13⟩,fun _=>rfl⟩
      case s15 =>
       intro a w1 hw hO hN
       obtain ⟨v9,g9,r9⟩:=hN 9 (by decide)
       have g9:a.tmps[19]?=some v9:=g9
       obtain ⟨e9,hb9⟩:=r9
       rw [e9] at g9
       have o0:a.tmps[0]?=some (.slice (some ⟨b,o,none⟩) l.length c):=(hO.out 0 (by decide)).trans rfl
       exact relNo rfl ((wanted_is rfl rfl g9).trans rfl) ⟨_,rfl,⟨rfl,hb9⟩,fun _=>rfl⟩
      case s16 =>
       intro a w1 hw hO hN
       obtain ⟨v9,g9,r9⟩:=hN 9 (by decide)
       have g9:a.tmps[19]?=some v9:=g9
       obtain ⟨e9,hb9⟩:=r9
       rw [e9] at g9
       have o3:a.tmps[3]?=some (.int .i64 (k:Int)):=(hO.out 3 (by decide)).trans rfl
       exact relNo rfl ((wanted_is rfl rfl g9).trans rfl) ⟨_,rfl,⟨rfl,hb9⟩,fun _=>rfl⟩
      case s17 =>
       intro a w1 hw hO hN
       obtain ⟨v15,g15,r15⟩:=hN 15 (by decide)
       have g15:a.tmps[25]?=some v15:=g15
       obtain ⟨e15,hb15⟩:=r15
       rw [e15] at g15
       obtain ⟨v16,g16,r16⟩:=hN 16 (by decide)
       have g16:a.tmps[26]?=some v16:=g16
       obtain ⟨e16,hb16⟩:=r16
       rw [e16] at g16
       obtain ⟨v9,g9,r9⟩:=hN 9 (by decide)
       have g9:a.tmps[19]?=some v9:=g9
       obtain ⟨e9,hb9⟩:=r9
       rw [e9] at g9
       exact relNo rfl ((wanted_is rfl rfl g9).trans rfl) ⟨_,rfl,⟨rfl,hb15⟩,fun _=>rfl⟩
      case s18 =>
       intro a w1 hw hO hN
       obtain ⟨v17,g17,r17⟩:=hN 17 (by decide)
       have g17:a.tmps[27]?=some v17:=g17
       obtain ⟨e17,hb17⟩:=r17
       rw [e17] at g17
       obtain ⟨v9,g9,r9⟩:=hN 9 (by decide)
       have g9:a.tmps[19]?=some v9:=g9
       obtain ⟨e9,hb9⟩:=r9
       rw [e9] at g9
       exact relNo rfl ((wanted_is rfl rfl g9).trans rfl) ⟨_,rfl,⟨rfl,hb17⟩,fun _=>rfl⟩
      case s19 =>
       intro a w1 hw hO hN
       obtain ⟨v14,g14,r14⟩:=hN 14 (by decide)
       have g14:a.tmps[24]?=some v14:=g14
       obtain ⟨e14,hb14⟩:=r14
       rw [e14] at g14
       obtain ⟨v18,g18,r18⟩:=hN 18 (by decide)
       have g18:a.tmps[28]?=some v18:=g18
       obtain ⟨e18,hb18⟩:=r18
       rw [e18] at g18
       obtain ⟨v9,g9,r9⟩:=hN 9 (by decide)
       have g9:a.tmps[19]?=some v9:=g9
       obtain ⟨e9,hb9⟩:=r9
       rw [e9] at g9
       exact relNo rfl ((wanted_is rfl rfl g9).trans rfl) ⟨_,rfl,⟨rfl,hb14⟩,fun _=>rfl⟩
      case s20 =>
       intro a w1 hw hO hN
       obtain ⟨v9,g9,r9⟩:=hN 9 (by decide)
       have g9:a.tmps[19]?=some v9:=g9
       obtain ⟨e9,hb9⟩:=r9
       rw [e9] at g9
       obtain ⟨v19,g19,r19⟩:=hN 19 (by decide)
       have g19:a.tmps[29]?=some v19:=g19
       obtain ⟨e19,hb19⟩:=r19
       rw [e19] at g19
       obtain ⟨v6,g6,r6⟩:=hN 6 (by decide)
       have g6:a.tmps[16]?=some v6:=g6
       obtain ⟨e6,hb6⟩:=r6
       rw [e6] at g6
       exact relValW rfl (.bool false) _ ((wanted_is rfl rfl g6).trans rfl) (by go_simp) ⟨_,rfl,⟨rfl,hb9⟩,fun _=>rfl⟩
      case s21 =>
       intro a w1 hw hO hN
       obtain ⟨v6,g6,r6⟩:=hN 6 (by decide)
       have g6:a.tmps[16]?=some v6:=g6
       obtain ⟨e6,hb6⟩:=r6
       rw [e6] at g6
       obtain ⟨v20,g20,r20⟩:=hN 20 (by decide)
       have g20:a.tmps[30]?=some v20:=g20
       obtain ⟨e20,hb20⟩:=r20
       rw [e20] at g20
       exact relVal rfl (.bool false) _ rfl (by go_simp) ⟨_,rfl,⟨rfl,hb6⟩,fun _=>rfl⟩
     case fin =>
      intro vs w1 hV
      obtain ⟨e21,hb9⟩:vs 21=.bool false∧Below w3.heap.size w3 w1:=hV 21 (by decide)
      have HB9:=show Hid (Below w.heap.size w w1) from HB.out.trans (hb9.mono HB.out.size)
      simp only [putAll,Act.put,List.setIfInBounds_toArray,List.set_cons_zero,List.set_cons_succ,e21]
      clear hV e21 hb9 KW HB HCX hcx
      go_wp2_with fail
      go_roundw
      case rel=>exact ⟨k+1,by omega,val_int (by omega),HB9,HS4⟩
      case measure=>(simp only [intOf];omega)
  ·obtain rfl:k=l.length:=by omega
   have HE:=show Hid (ans=true) from HT.out fun j hj=>HI.out j hj hj
   go_wp2_with fail
   go_ret
   exact ⟨ret_bool HE.out.symm,HB.out⟩
end Go.Proofs.Ytoedidbbjnnpnaa.Wm
