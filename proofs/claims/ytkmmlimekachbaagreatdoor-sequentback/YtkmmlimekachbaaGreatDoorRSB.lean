/-
  Runes of logic, told by their bytes: as the model decodes them. Plain; nothing of the program is named here. No condition.
-/
import Derived.Test.YtkmmlimekachbaaGreatDoorTG1
import Derived.Test.YtkmmlimekachbaaGreatDoorRSA
import Derived.BigRegion
import Derived.Test.YtkmmlimekachbaaGreatDoorTG3
set_option linter.unusedSimpArgs false
namespace Go.Proofs.YtkmmlimekachbaaGreatDoor.Tk
def specials:List (List UInt8 × Int × List UInt8):=[([194,172],3,[126]),([226,136,167],3,[38]),([226,136,168],3,[124]),([226,134,146],3,[45,62]),([226,134,148],3,[60,45,62]),([226,138,162],3,[124,45]),([226,137,164],3,[60,61]),([226,138,164],1,[116,114,117,101]),([226,138,165],1,[102,97,108,115,101])]
def specIn:List (List UInt8 × Int × List UInt8)→List UInt8→Cut
 | [],l=>signIn signs l
 | g :: r,l=>if g.1.isPrefixOf l then ((g.2.1,g.2.2,0),g.1.length,0) else specIn r l
theorem dec_two (l:List UInt8) (r:Nat) (h:(dec l).1=r) (h1:128≤r) (h2:r<2048):1<l.length∧byt l 0=192+r / 64∧byt l 1=128+r % 64:=by
 have hc:con l 1=true→1<l.length∧128≤byt l 1∧byt l 1<192:=fun hc=>by
  have h3:=con_lt hc
  simp only [con,Bool.and_eq_true,decide_eq_true_eq,beq_iff_eq] at hc
  exact ⟨h3,by omega,by omega⟩
 have h0:=(l.getD 0 0).toNat_lt
 have e0:(l.getD 0 0).toNat=byt l 0:=rfl
 revert h
 unfold dec decF
 cases hcc:con l 1
 ·simp only [Bool.and_false,Bool.false_and,Bool.false_eq_true,if_false]
  split
  ·intro h;simp only at h;omega
  ·intro h;simp only at h;omega
 ·have hc':=hc hcc
  simp only [Bool.and_true,Bool.and_eq_true,decide_eq_true_eq,beq_iff_eq,ge_iff_le]
  repeat' split
  all_goals (intro h;simp only at h)
  all_goals first | omega | (refine ⟨hc'.1,?_,?_⟩ <;> omega)
theorem dec_three (l:List UInt8) (r:Nat) (h:(dec l).1=r) (h1:2048≤r) (h2:r<65533):2<l.length∧byt l 0=224+r / 4096∧byt l 1=128+r / 64 % 64∧byt l 2=128+r % 64:=by
 have hc:∀ k,con l k=true→k<l.length∧128≤byt l k∧byt l k<192:=fun k hc=>by
  have h3:=con_lt hc
  simp only [con,Bool.and_eq_true,decide_eq_true_eq,beq_iff_eq] at hc
  exact ⟨h3,by omega,by omega⟩
 have h0:=(l.getD 0 0).toNat_lt
 have e0:(l.getD 0 0).toNat=byt l 0:=rfl
 revert h
 unfold dec decF
 cases hcc:con l 1
 ·simp only [Bool.and_false,Bool.false_and,Bool.false_eq_true,if_false]
  split
  ·intro h;simp only at h;omega
  ·intro h;simp only at h;omega
 ·have hc1:=hc 1 hcc
  cases hcc2:con l 2
  ·simp only [Bool.and_true,Bool.and_false,Bool.false_and,Bool.false_eq_true,if_false,Bool.and_eq_true,decide_eq_true_eq,beq_iff_eq,ge_iff_le]
   repeat' split
   all_goals (intro h;simp only at h)
   all_goals omega
  ·have hc2:=hc 2 hcc2
   simp only [Bool.and_true,Bool.and_eq_true,decide_eq_true_eq,beq_iff_eq,ge_iff_le]
   repeat' split
   all_goals (intro h;simp only at h)
   all_goals first | omega | (refine ⟨hc2.1,?_,?_,?_⟩ <;> omega)
theorem pre_two (l:List UInt8) (a b:UInt8) (h:1<l.length) (h0:byt l 0=a.toNat) (h1:byt l 1=b.toNat):[a,b].isPrefixOf l=true:=by
 match l,h with
 | x :: y :: t,_ =>
  have e0:x=a:=UInt8.toNat_inj.1 h0
  have e1:y=b:=UInt8.toNat_inj.1 h1
  subst e0;subst e1
  simp
theorem pre_three (l:List UInt8) (a b c:UInt8) (h:2<l.length) (h0:byt l 0=a.toNat) (h1:byt l 1=b.toNat) (h2:byt l 2=c.toNat):[a,b,c].isPrefixOf l=true:=by
 match l,h with
 | x :: y :: z :: t,_ =>
  have e0:x=a:=UInt8.toNat_inj.1 h0
  have e1:y=b:=UInt8.toNat_inj.1 h1
  have e2:z=c:=UInt8.toNat_inj.1 h2
  subst e0;subst e1;subst e2
  simp
theorem pre_dec (g l:List UInt8) (r:Nat) (hp:g.isPrefixOf l=true) (hg:dec g=(r,g.length)) (hr:r≠65533):dec l=(r,g.length):=by
 refine dec_ext l r g.length ?_ hr
 have:=List.prefix_iff_eq_take.1 (List.isPrefixOf_iff_prefix.1 hp)
 rw [← this]
 exact hg
theorem sign_high (c:UInt8) (r:List UInt8) (h:128≤c.toNat):∀ gs:List (List UInt8),(∀ g ∈ gs,g≠[]∧∀ c ∈ g,c.toNat<128)→signIn gs (c :: r)=bad 20
 | [],_=>rfl
 | g :: gs,H=>by
  unfold signIn
  have hg:=H g (by simp)
  rw [if_neg,sign_high c r h gs fun g hg=>H g (by simp [hg])]
  intro hp
  match g,hg with
  | x :: t,hg =>
   rw [List.isPrefixOf_cons_cons,Bool.and_eq_true,beq_iff_eq] at hp
   have:=hg.2 x (by simp)
   rw [hp.1] at this
   omega
theorem spec_low (c:UInt8) (r:List UInt8) (h:c.toNat<128):∀ gs:List (List UInt8 × Int × List UInt8),(∀ g ∈ gs,∃ x t,g.1=x :: t∧128≤x.toNat)→specIn gs (c :: r)=cutSign (c :: r)
 | [],_=>rfl
 | g :: gs,H=>by
  unfold specIn
  obtain ⟨x,t,hx,h1⟩:=H g (by simp)
  rw [if_neg,spec_low c r h gs fun g hg=>H g (by simp [hg])]
  intro hp
  rw [hx,List.isPrefixOf_cons_cons,Bool.and_eq_true,beq_iff_eq] at hp
  rw [hp.1] at h1
  omega
theorem specials_high:∀ g ∈ specials,∃ x t,g.1=x :: t∧128≤x.toNat:=by
 intro g hg
 simp only [specials,List.mem_cons,List.not_mem_nil,or_false] at hg
 rcases hg with rfl | rfl | rfl | rfl | rfl | rfl | rfl | rfl | rfl <;> exact ⟨_,_,rfl,by decide⟩
theorem spec_rune (c:UInt8) (r:List UInt8) (h:128≤c.toNat):specIn specials (c :: r)=cutRune (c :: r):=by
 unfold cutRune
 have key:∀ (g:List UInt8) (v:Nat),g.isPrefixOf (c :: r)=true→dec g=(v,g.length)→v≠65533→dec (c :: r)=(v,g.length):=fun g v hp hg hv=>pre_dec g (c :: r) v hp hg hv
 have s0:=fun hp=>key [194,172] 172 hp (by decide) (by decide)
 have s1:=fun hp=>key [226,136,167] 8743 hp (by decide) (by decide)
 have s2:=fun hp=>key [226,136,168] 8744 hp (by decide) (by decide)
 have s3:=fun hp=>key [226,134,146] 8594 hp (by decide) (by decide)
 have s4:=fun hp=>key [226,134,148] 8596 hp (by decide) (by decide)
 have s5:=fun hp=>key [226,138,162] 8866 hp (by decide) (by decide)
 have s6:=fun hp=>key [226,137,164] 8804 hp (by decide) (by decide)
 have s7:=fun hp=>key [226,138,164] 8868 hp (by decide) (by decide)
 have s8:=fun hp=>key [226,138,165] 8869 hp (by decide) (by decide)
 simp only [specials,specIn]
 split
 ·rename_i hp;rw [s0 hp];rfl
 ·rename_i n0
  split
  ·rename_i hp;rw [s1 hp];rfl
  ·rename_i n1
   split
   ·rename_i hp;rw [s2 hp];rfl
   ·rename_i n2
    split
    ·rename_i hp;rw [s3 hp];rfl
    ·rename_i n3
     split
     ·rename_i hp;rw [s4 hp];rfl
     ·rename_i n4
      split
      ·rename_i hp;rw [s5 hp];rfl
      ·rename_i n5
       split
       ·rename_i hp;rw [s6 hp];rfl
       ·rename_i n6
        split
        ·rename_i hp;rw [s7 hp];rfl
        ·rename_i n7
         split
         ·rename_i hp;rw [s8 hp];rfl
         ·rename_i n8
          rw [sign_high c r h signs signs_ok,if_pos]
          unfold meaning
          have two:=fun v hv h1 h2=>dec_two (c :: r) v hv h1 h2
          have three:=fun v hv h1 h2=>dec_three (c :: r) v hv h1 h2
          rw [if_neg,if_neg,if_neg,if_neg,if_neg,if_neg,if_neg,if_neg,if_neg]
          ·intro hv;obtain ⟨a,b,c',d⟩:=three 8869 hv (by omega) (by omega);exact n8 (pre_three _ _ _ _ a b c' d)
          ·intro hv;obtain ⟨a,b,c',d⟩:=three 8868 hv (by omega) (by omega);exact n7 (pre_three _ _ _ _ a b c' d)
          ·intro hv;obtain ⟨a,b,c',d⟩:=three 8804 hv (by omega) (by omega);exact n6 (pre_three _ _ _ _ a b c' d)
          ·intro hv;obtain ⟨a,b,c',d⟩:=three 8866 hv (by omega) (by omega);exact n5 (pre_three _ _ _ _ a b c' d)
          ·intro hv;obtain ⟨a,b,c',d⟩:=three 8596 hv (by omega) (by omega);exact n4 (pre_three _ _ _ _ a b c' d)
          ·intro hv;obtain ⟨a,b,c',d⟩:=three 8594 hv (by omega) (by omega);exact n3 (pre_three _ _ _ _ a b c' d)
          ·intro hv;obtain ⟨a,b,c',d⟩:=three 8744 hv (by omega) (by omega);exact n2 (pre_three _ _ _ _ a b c' d)
          ·intro hv;obtain ⟨a,b,c',d⟩:=three 8743 hv (by omega) (by omega);exact n1 (pre_three _ _ _ _ a b c' d)
          ·intro hv;obtain ⟨a,b,c'⟩:=two 172 hv (by omega) (by omega);exact n0 (pre_two _ _ _ a b c')
theorem cut_spec (c:UInt8) (r:List UInt8):cut (c :: r)=if isBeg c=true then cutName (c :: r) else if isDig c=true then cutNum (c :: r) else specIn specials (c :: r):=by
 show (if isBeg c=true then cutName (c :: r) else if isDig c=true then cutNum (c :: r) else if c.toNat<128 then cutSign (c :: r) else cutRune (c :: r))=_
 by_cases h:c.toNat<128
 ·rw [if_pos h,spec_low c r h specials specials_high]
 ·rw [if_neg h,spec_rune c r (by omega)]
end Go.Proofs.YtkmmlimekachbaaGreatDoor.Tk
/-
  The document's calls specials, Signs and one: the token at a place: for every text and every place. No condition beyond the text's size.
-/
namespace Go.Proofs.YtkmmlimekachbaaGreatDoor.Tw
open Go.RowKit
def specV:Array Value:=(Tk.specials.flatMap fun g=>[Value.string ⟨g.1.toArray⟩,.int .i64 g.2.1,.string ⟨g.2.2.toArray⟩]).toArray
set_option maxHeartbeats 1000000 in
theorem specials_any (w:World) :
 Calls Tryz.prog 162 #[] w fun e w'=>e=.returned (.slice (some ⟨w.heap.size,0,none⟩) 9 9)∧w'=w.alloc (.cells specV 217):=by
 go_enter Tryz.func162,Tryz.ntmps162
 go_wp2
 go_ret
 exact ⟨rfl,rfl⟩
set_option maxHeartbeats 1000000 in
theorem signs_any (w:World) :
 Calls Tryz.prog 164 #[] w fun e w'=>e=.returned (.slice (some ⟨w.heap.size,0,none⟩) 20 20)∧w'=w.alloc (.cells sigV 9):=by
 go_enter Tryz.func164,Tryz.ntmps164
 go_wp2
 go_ret
 exact ⟨rfl,rfl⟩
theorem spec_cells (k:Nat) (h:k<9):specV[k * 3]?=some (.string ⟨(Tk.specials[k]'h).1.toArray⟩)∧specV[k * 3+1]?=some (.int .i64 (Tk.specials[k]'h).2.1)∧specV[k * 3+2]?=some (.string ⟨(Tk.specials[k]'h).2.2.toArray⟩):=by
 match k,h with
 | 0,_=>exact ⟨rfl,rfl,rfl⟩
 | 1,_=>exact ⟨rfl,rfl,rfl⟩
 | 2,_=>exact ⟨rfl,rfl,rfl⟩
 | 3,_=>exact ⟨rfl,rfl,rfl⟩
 | 4,_=>exact ⟨rfl,rfl,rfl⟩
 | 5,_=>exact ⟨rfl,rfl,rfl⟩
 | 6,_=>exact ⟨rfl,rfl,rfl⟩
 | 7,_=>exact ⟨rfl,rfl,rfl⟩
 | 8,_=>exact ⟨rfl,rfl,rfl⟩
theorem spec_small:∀ g ∈ Tk.specials,g.1.length≤3:=by decide
theorem sign_small:∀ g ∈ Tk.signs,g.length≤3:=by decide
theorem sig_cells (k:Nat) (h:k<20):sigV[k]?=some (Value.string ⟨(Tk.signs[k]'h).toArray⟩):=by
 simp only [sigV,List.getElem?_toArray,List.getElem?_map]
 rw [List.getElem?_eq_getElem (by exact h)]
 rfl
theorem mk_size (g:List UInt8):(⟨g.toArray⟩:ByteArray).size=g.length:=by show g.toArray.size=_;simp
theorem row_drew {w:World} {g:Nat} {a0 a1 a2 a3 a4 a5:Value} (h:T6 w g a0 a1 a2 a3 a4 a5):w.drew.heap[g]?=some (.cells #[a0,a1,a2,a3,a4,a5] 108 (0,0)):=h
set_option maxRecDepth 100000 in
set_option maxHeartbeats 8000000 in
theorem rone_rest (w:World) (s:ByteArray) (i:Nat) (hs:s.size≤140737488355328) (hi:i<s.size) (hb:Tk.isBeg s[i]=false) (hd:Tk.isDig s[i]=false) :
 Calls Tryz.prog 117 #[.string s,.int .i64 (i:Int)] w fun e w'=>IsOne i (Tk.specIn Tk.specials (s.data.toList.drop i)) e∧Below w.heap.size w w':=by
 have KL:=show Hid (∀ w:World,Calls Tryz.prog 158 #[.int .u8 ((s[i]).toNat:Int)] w fun e w'=>e=.returned (.bool false)∧w'=w) from fun w=>by have:=rletter_any w s[i];rw [hb] at this;exact this
 have KD:=show Hid (∀ w:World,Calls Tryz.prog 160 #[.int .u8 ((s[i]).toNat:Int)] w fun e w'=>e=.returned (.bool false)∧w'=w) from fun w=>by have:=rdigit_any w s[i];rw [hd] at this;exact this
 have KA:=show Hid (∀ (w:World) (g:List UInt8),g.length≤3→Calls Tryz.prog 163 #[.string s,.int .i64 (i:Int),.string ⟨g.toArray⟩] w fun e w'=>e=.returned (.bool (g.isPrefixOf (s.data.toList.drop i)))∧w'=w) from fun w g hg=>by
  have:=rat2_any w s i ⟨g.toArray⟩ hs (by rw [mk_size];omega) (by omega)
  simpa using this
 have HX:Hid (Tk.specIn (Tk.specials.drop 0) (s.data.toList.drop i)=Tk.specIn Tk.specials (s.data.toList.drop i)):=rfl
 generalize Tk.specIn Tk.specials (s.data.toList.drop i)=ans at *
 clear hb hd
 have KS:=show Hid (∀ w:World,Calls Tryz.prog 162 #[] w fun e w'=>e=.returned (.slice (some ⟨w.heap.size,0,none⟩) 9 9)∧w'=w.alloc (.cells specV 217)) from specials_any
 have KG:=show Hid (∀ w:World,Calls Tryz.prog 164 #[] w fun e w'=>e=.returned (.slice (some ⟨w.heap.size,0,none⟩) 20 20)∧w'=w.alloc (.cells sigV 9)) from signs_any
 go_enter Tryz.func117,Tryz.ntmps117
 go_wp2_with fail
 refine (KL.out _).mono ?_
 rintro e w0 ⟨rfl,rfl⟩
 go_wp2_with fail
 refine (KD.out _).mono ?_
 rintro e w0 ⟨rfl,rfl⟩
 go_wp2_with fail
 have HT0:Hid (T6 (w.alloc tok0) w.heap.size (.int .i64 0) (.string ⟨#[]⟩) (.int .i64 0) (.int .i64 0) (.int .i64 0) (.int .i64 0)):=heap_alloc_new _ _
 refine (KS.out (w.alloc tok0)).mono ?_
 rintro e w1 ⟨rfl,rfl⟩
 have hsz:(w.alloc tok0).heap.size=w.heap.size+1:=by simp
 rw [hsz]
 have HT1:=show Hid (T6 ((w.alloc tok0).alloc (.cells specV 217)) w.heap.size (.int .i64 0) (.string ⟨#[]⟩) (.int .i64 0) (.int .i64 0) (.int .i64 0) (.int .i64 0)) from (Below.heap_alloc _ _ _ (by simp)).trans HT0.out
 have HS1:=show Hid (((w.alloc tok0).alloc (.cells specV 217)).heap[w.heap.size+1]?=some (.cells specV 217 (0,0))) from heap_alloc2_new _ _ _
 have HB1:=show Hid (Below w.heap.size w ((w.alloc tok0).alloc (.cells specV 217))) from below_alloc2 _ _ _
 generalize (w.alloc tok0).alloc (.cells specV 217)=w1 at *
 clear hsz HT0 KL KD KS
 go_wp2_with fail
 go_loopw [9] (fun v wr=>∃ k:Nat,k≤9∧v=.int .i64 k∧Hid (Tk.specIn (Tk.specials.drop k) (s.data.toList.drop i)=ans)∧wr=w1) (fun v _=>9 - (intOf v).toNat)
 case atStart=>exact ⟨0,by omega,rfl,HX,rfl⟩
 case round =>
  obtain ⟨k,hk,rfl,HK,rfl⟩:=hrel
  clear HX
  by_cases hlt:k<9
  ·have hcell:=spec_cells k hlt
   have hK:=HK.out
   rw [List.drop_eq_getElem_cons (show k<Tk.specials.length from hlt),Tk.specIn] at hK
   have hsm:=spec_small (Tk.specials[k]'hlt) (List.getElem_mem _)
   generalize Tk.specials[k]'hlt=g at *
   obtain ⟨gr,gk,gt⟩:=g
   simp only at hcell hsm hK
   have hc0:wr.cell? ⟨w.heap.size+1,k * 3,none⟩=some (.string ⟨gr.toArray⟩):=by rw [cell_of_row _ _ _ _ _ _ HS1.out];exact hcell.1
   have hc1:wr.cell? ⟨w.heap.size+1,k * 3+1,none⟩=some (.int .i64 gk):=by rw [cell_of_row _ _ _ _ _ _ HS1.out];exact hcell.2.1
   have hc2:wr.cell? ⟨w.heap.size+1,k * 3+2,none⟩=some (.string ⟨gt.toArray⟩):=by rw [cell_of_row _ _ _ _ _ _ HS1.out];exact hcell.2.2
   have hgl:=mk_size gr
   have HSM:=show Hid (gr.length≤3) from hsm
   have HK2:=show Hid _ from hK
   clear hcell hK HK
   go_wp2_with fail
   refine (KA.out _ gr HSM.out).mono ?_
   rintro e w2 ⟨rfl,rfl⟩
   cases hp:gr.isPrefixOf (s.data.toList.drop i) with
   | true =>
    have hA:=HK2.out
    rw [if_pos hp] at hA
    subst hA
    have t0:=HT1.out.c0;have t1:=HT1.out.c1;have t2:=HT1.out.c2;have t3:=HT1.out.c3;have t4:=HT1.out.c4;have t5:=HT1.out.c5;have tf:=HT1.out.fr
    clear HK2 KA hp
    go_wp2_with fail
    go_region
    go_wp2_with fail
    have hfin:=row_drew (HT1.out.s6 (.int .i64 gk) (.string ⟨gt.toArray⟩) (.int .i64 0) (.int .i64 0) (.int .i64 0) (.int .i64 0))
    unfold set6 at hfin
    refine bodyPost_ret (results_cell2_row rfl _ _ w.heap.size _ _ _ _ rfl hfin Tryz.underlying108 rfl (by kernel_rfl)) rfl ?_
    refine ⟨⟨i+gr.length,?_,fun _=>rfl⟩,(below_set6 HB1.out (Nat.le_refl _) _ _ _ _ _ _).drew⟩
    show Ending.returned (.tuple #[.agg #[.int .i64 gk,.string ⟨gt.toArray⟩,.int .i64 0,.int .i64 0,.int .i64 0,.int .i64 0],.int .i64 ((i:Int)+(gr.length:Int)),.int .i64 0])=Ending.returned (.tuple #[.agg (tokV (gk,gt,0)),.int .i64 ((i+gr.length:Nat):Int),.int .i64 0])
    rw [show ((i+gr.length:Nat):Int)=(i:Int)+(gr.length:Int) by omega]
    rfl
   | false =>
    have hA:=HK2.out
    rw [if_neg (by rw [hp];simp)] at hA
    have HK3:=show Hid (Tk.specIn (Tk.specials.drop (k+1)) (s.data.toList.drop i)=ans) from hA
    clear HK2 hA hp hc0 hc1 hc2
    go_wp2_with fail
    go_roundw
    case rel=>exact ⟨k+1,by omega,by go_num,HK3,trivial⟩
    case measure=>simp [intOf];omega
  ·obtain rfl:k=9:=by omega
   have HX2:=show Hid (Tk.signIn (Tk.signs.drop 0) (s.data.toList.drop i)=ans) from HK.out
   clear HK
   go_wp2_with fail
   refine (KG.out _).mono ?_
   rintro e w3 ⟨rfl,rfl⟩
   have HT3:=show Hid (T6 (wr.alloc (.cells sigV 9)) w.heap.size (.int .i64 0) (.string ⟨#[]⟩) (.int .i64 0) (.int .i64 0) (.int .i64 0) (.int .i64 0)) from (Below.heap_alloc _ _ _ (lt_of_block HT1.out)).trans HT1.out
   have HS3:Hid ((wr.alloc (.cells sigV 9)).heap[wr.heap.size]?=some (.cells sigV 9 (0,0))):=heap_alloc_new _ _
   have HB3:=show Hid (Below w.heap.size w (wr.alloc (.cells sigV 9))) from HB1.out.alloc HB1.out.size _
   generalize wr.alloc (.cells sigV 9)=w3 at *
   obtain ⟨gs,hgs⟩:∃ gs,gs=wr.heap.size:=⟨_,rfl⟩
   have hgne:gs≠w.heap.size:=by rw [hgs];have:=lt_of_block HT1.out;omega
   rw [← hgs] at HS3 ⊢
   clear hgs HT1 HS1 HB1 KG
   go_wp2_with fail
   go_loopw [11] (fun v wx=>∃ j:Nat,j≤20∧v=.int .i64 j∧Hid (Tk.signIn (Tk.signs.drop j) (s.data.toList.drop i)=ans)∧wx=w3) (fun v _=>20 - (intOf v).toNat)
   case atStart=>exact ⟨0,by omega,rfl,HX2,rfl⟩
   case round =>
    obtain ⟨j,hj,rfl,HJ,rfl⟩:=hrel
    clear HX2
    by_cases hjl:j<20
    ·have hcell:=sig_cells j hjl
     have hJ:=HJ.out
     rw [List.drop_eq_getElem_cons (show j<Tk.signs.length from hjl),Tk.signIn] at hJ
     have hsm:=sign_small (Tk.signs[j]'hjl) (List.getElem_mem _)
     generalize Tk.signs[j]'hjl=g at *
     have hc0:wr.cell? ⟨gs,j,none⟩=some (.string ⟨g.toArray⟩):=by rw [cell_of_row _ _ _ _ _ _ HS3.out];exact hcell
     have hgl:=mk_size g
     have HSM:=show Hid (g.length≤3) from hsm
     have HJ2:=show Hid _ from hJ
     clear hcell hJ HJ
     go_wp2_with fail
     refine (KA.out _ g HSM.out).mono ?_
     rintro e w4 ⟨rfl,rfl⟩
     cases hp:g.isPrefixOf (s.data.toList.drop i) with
     | true =>
      have hA:=HJ2.out
      rw [if_pos hp] at hA
      subst hA
      have t0:=HT3.out.c0;have t1:=HT3.out.c1;have t2:=HT3.out.c2;have t3:=HT3.out.c3;have t4:=HT3.out.c4;have t5:=HT3.out.c5;have tf:=HT3.out.fr
      clear HJ2 KA hp
      go_wp2_with fail
      go_region
      go_wp2_with fail
      have hfin:=row_drew (HT3.out.s6 (.int .i64 3) (.string ⟨g.toArray⟩) (.int .i64 0) (.int .i64 0) (.int .i64 0) (.int .i64 0))
      unfold set6 at hfin
      refine bodyPost_ret (results_cell2_row rfl _ _ w.heap.size _ _ _ _ rfl hfin Tryz.underlying108 rfl (by kernel_rfl)) rfl ?_
      refine ⟨⟨i+g.length,?_,fun _=>rfl⟩,(below_set6 HB3.out (Nat.le_refl _) _ _ _ _ _ _).drew⟩
      show Ending.returned (.tuple #[.agg #[.int .i64 3,.string ⟨g.toArray⟩,.int .i64 0,.int .i64 0,.int .i64 0,.int .i64 0],.int .i64 ((i:Int)+(g.length:Int)),.int .i64 0])=Ending.returned (.tuple #[.agg (tokV (3,g,0)),.int .i64 ((i+g.length:Nat):Int),.int .i64 0])
      rw [show ((i+g.length:Nat):Int)=(i:Int)+(g.length:Int) by omega]
      rfl
     | false =>
      have hA:=HJ2.out
      rw [if_neg (by rw [hp];simp)] at hA
      have HJ3:=show Hid (Tk.signIn (Tk.signs.drop (j+1)) (s.data.toList.drop i)=ans) from hA
      clear HJ2 hA hp hc0
      go_wp2_with fail
      go_roundw
      case rel=>exact ⟨j+1,by omega,by go_num,HJ3,trivial⟩
      case measure=>simp [intOf];omega
    ·obtain rfl:j=20:=by omega
     have hA:Tk.bad 20=ans:=HJ.out
     subst hA
     have t0:=HT3.out.c0;have t1:=HT3.out.c1;have t2:=HT3.out.c2;have t3:=HT3.out.c3;have t4:=HT3.out.c4;have t5:=HT3.out.c5;have tf:=HT3.out.fr
     clear HJ
     go_wp2_with fail
     refine bodyPost_ret (results_cell2_row rfl _ _ w.heap.size _ _ _ _ rfl (HT3.out.s6 (.int .i64 0) (.string ⟨#[]⟩) (.int .i64 0) (.int .i64 0) (.int .i64 0) (.int .i64 0)) Tryz.underlying108 rfl (by kernel_rfl)) rfl ?_
     exact ⟨⟨i,rfl,fun h=>absurd h (by decide)⟩,below_set6 HB3.out (Nat.le_refl _) _ _ _ _ _ _⟩
end Go.Proofs.YtkmmlimekachbaaGreatDoor.Tw
/-
  The document's call one, whole: the token at a place: for every text and every place in it or at its end. No condition beyond the text's size.
-/
namespace Go.Proofs.YtkmmlimekachbaaGreatDoor.Tw
open Go.RowKit
theorem bytes_mk (s:ByteArray):(⟨s.data.toList.toArray⟩:ByteArray)=s:=by cases s;simp
set_option maxRecDepth 100000 in
set_option maxHeartbeats 4000000 in
theorem rone_end (w:World) (s:ByteArray) (i:Nat) (_hs:s.size≤140737488355328) (hi:i=s.size) :
 Calls Tryz.prog 117 #[.string s,.int .i64 (i:Int)] w fun e w'=>IsOne i ((0,[],0),0,0) e∧Below w.heap.size w w':=by
 subst hi
 go_enter Tryz.func117,Tryz.ntmps117
 go_wp2_with fail
 refine bodyPost_ret (results_cell2_row rfl _ _ w.heap.size _ _ _ _ rfl (heap_alloc_new _ _) Tryz.underlying108 rfl (by kernel_rfl)) rfl ?_
 exact ⟨⟨s.size,rfl,fun _=>rfl⟩,below_alloc _ _⟩
set_option maxRecDepth 100000 in
set_option maxHeartbeats 4000000 in
theorem rone_num (w:World) (s:ByteArray) (i:Nat) (hs:s.size≤140737488355328) (hi:i<s.size) (hb:Tk.isBeg s[i]=false) (hd:Tk.isDig s[i]=true) :
 Calls Tryz.prog 117 #[.string s,.int .i64 (i:Int)] w fun e w'=>IsOne i (Tk.cutNum (s.data.toList.drop i)) e∧Below w.heap.size w w':=by
 have KL:=show Hid (∀ w:World,Calls Tryz.prog 158 #[.int .u8 ((s[i]).toNat:Int)] w fun e w'=>e=.returned (.bool false)∧w'=w) from fun w=>by have:=rletter_any w s[i];rw [hb] at this;exact this
 have KD:=show Hid (∀ w:World,Calls Tryz.prog 160 #[.int .u8 ((s[i]).toNat:Int)] w fun e w'=>e=.returned (.bool true)∧w'=w) from fun w=>by have:=rdigit_any w s[i];rw [hd] at this;exact this
 have KN:=show Hid (∀ w:World,Calls Tryz.prog 161 #[.string s,.int .i64 (i:Int)] w fun e w'=>IsOne i (Tk.cutNum (s.data.toList.drop i)) e∧Below w.heap.size w w') from fun w=>rnum_any w s i hs hi
 generalize Tk.cutNum (s.data.toList.drop i)=ans at *
 have HZ:Hid (T6 (w.alloc tok0) w.heap.size (.int .i64 0) (.string ⟨#[]⟩) (.int .i64 0) (.int .i64 0) (.int .i64 0) (.int .i64 0)):=heap_alloc_new _ _
 clear hb hd
 go_enter Tryz.func117,Tryz.ntmps117
 go_wp2_with fail
 refine (KL.out _).mono ?_
 rintro e w0 ⟨rfl,rfl⟩
 go_wp2_with fail
 refine (KD.out _).mono ?_
 rintro e w0 ⟨rfl,rfl⟩
 go_wp2_with fail
 refine (KN.out (w.alloc tok0)).mono ?_
 rintro e w1 ⟨⟨k,rfl,hk⟩,hb1⟩
 have HB:=show Hid (Below w.heap.size w w1) from (below_alloc _ _).trans (hb1.mono (by simp))
 have HR:=show Hid (T6 w1 w.heap.size (.int .i64 0) (.string ⟨#[]⟩) (.int .i64 0) (.int .i64 0) (.int .i64 0) (.int .i64 0)) from (hb1.block _ (by simp)).trans HZ.out
 have HK:=show Hid (ans.2.2=0→k=i+ans.2.1) from hk
 have hc0:=HR.out.c0;have hc1:=HR.out.c1;have hc2:=HR.out.c2;have hc3:=HR.out.c3;have hc4:=HR.out.c4;have hc5:=HR.out.c5;have hcf:=HR.out.fr
 clear hb1 KN KL KD hk
 obtain ⟨⟨tk,tt,ti⟩,tn,te⟩:=ans
 unfold tokV
 go_wp2_with fail
 have hfin:=HR.out.s6 (.int .i64 tk) (.string ⟨tt.toArray⟩) (.int .i64 ti) (.int .i64 0) (.int .i64 0) (.int .i64 0)
 unfold set6 at hfin
 refine bodyPost_ret (results_cell2_row rfl _ _ w.heap.size _ _ _ _ rfl hfin Tryz.underlying108 rfl (by kernel_rfl)) rfl ?_
 exact ⟨⟨k,rfl,HK.out⟩,below_set6 HB.out (Nat.le_refl _) _ _ _ _ _ _⟩
set_option maxRecDepth 100000 in
set_option maxHeartbeats 4000000 in
theorem rone_name (w:World) (s:ByteArray) (i:Nat) (hs:s.size≤140737488355328) (hi:i<s.size) (hb:Tk.isBeg s[i]=true) :
 Calls Tryz.prog 117 #[.string s,.int .i64 (i:Int)] w fun e w'=>IsOne i (Tk.cutName (s.data.toList.drop i)) e∧Below w.heap.size w w':=by
 have HSL:=show Hid (s.data.toList.length=s.size) from rfl
 have KL:=show Hid (∀ w:World,Calls Tryz.prog 158 #[.int .u8 ((s[i]).toNat:Int)] w fun e w'=>e=.returned (.bool true)∧w'=w) from fun w=>by have:=rletter_any w s[i];rw [hb] at this;exact this
 have KW:=show Hid (∀ (w:World) (c:UInt8),Calls Tryz.prog 159 #[.int .u8 (c.toNat:Int)] w fun e w'=>e=.returned (.bool (Tk.isIn c))∧w'=w) from rwithin_any
 obtain ⟨n,hn⟩:∃ n,n=Tk.run Tk.isIn (s.data.toList.drop i):=⟨_,rfl⟩
 have HNL:=show Hid (i+n≤s.size) from by
  have:=Tk.run_le Tk.isIn (s.data.toList.drop i)
  rw [List.length_drop,HSL.out] at this
  show _≤_
  omega
 have HX:=show Hid (i+Tk.run Tk.isIn (s.data.toList.drop i)=i+n) from by rw [hn];rfl
 have HA:=show Hid (Tk.cutName (s.data.toList.drop i)=if 31<n then Tk.bad 22 else ((1,(s.data.toList.drop i).take n,0),n,0)) from by rw [hn];rfl
 clear hn hb
 generalize Tk.cutName (s.data.toList.drop i)=ans at *
 go_enter Tryz.func117,Tryz.ntmps117
 go_wp2_with fail
 refine (KL.out _).mono ?_
 rintro e w0 ⟨rfl,rfl⟩
 go_wp2_with fail
 go_loopw [7] (fun v wr=>∃ k:Nat,i≤k∧k≤s.size∧v=.int .i64 k∧Hid (k+Tk.run Tk.isIn (s.data.toList.drop k)=i+n)∧wr=w.alloc (Obj.cells #[.int .i64 0,.string ⟨#[]⟩,.int .i64 0,.int .i64 0,.int .i64 0,.int .i64 0] 108)) (fun v _=>s.size - (intOf v).toNat)
 case atStart=>exact ⟨i,Nat.le_refl _,by omega,rfl,HX,rfl⟩
 case round =>
  obtain ⟨k,hik,hk,rfl,HK,rfl⟩:=hrel
  clear HX
  by_cases hlt:k<s.size
  ·cases hin:Tk.isIn s[k] with
   | true =>
    have HK2:=show Hid (k+1+Tk.run Tk.isIn (s.data.toList.drop (k+1))=i+n) from by
     have:=HK.out
     rw [run_drop_at _ s k hlt hin] at this
     show _=_
     omega
    have HIN:=show Hid (Tk.isIn s[k]=true) from hin
    clear HK hin
    go_wp2_with fail
    refine (KW.out _ s[k]).mono ?_
    rintro e w1 ⟨rfl,rfl⟩
    rw [HIN.out]
    go_wp2_with fail
    go_roundw
    case rel=>exact ⟨k+1,by omega,by omega,by go_num,HK2,trivial⟩
    case measure=>simp [intOf];omega
   | false =>
    have HKN:=show Hid (k=i+n) from by
     have:=HK.out
     rw [run_drop_not _ s k hlt hin] at this
     exact this
    have HIN:=show Hid (Tk.isIn s[k]=false) from hin
    clear HK hin
    go_wp2_with fail
    refine (KW.out _ s[k]).mono ?_
    rintro e w1 ⟨rfl,rfl⟩
    rw [HIN.out]
    clear HIN
    by_cases h31:31<n
    ·have hA:=HA.out
     rw [if_pos h31] at hA
     subst hA
     have q:decide (31<(k:Int) - (i:Int))=true:=decide_eq_true (by have:=HKN.out;omega)
     clear HA h31
     go_wp2_with fail
     refine bodyPost_ret (results_cell2_row rfl _ _ w.heap.size _ _ _ _ rfl (heap_alloc_new _ _) Tryz.underlying108 rfl (by kernel_rfl)) rfl ?_
     exact ⟨⟨k,rfl,fun h=>absurd h (by decide)⟩,below_alloc _ _⟩
    ·have hA:=HA.out
     rw [if_neg h31] at hA
     subst hA
     have q:decide (31<(k:Int) - (i:Int))=false:=decide_eq_false (by have:=HKN.out;omega)
     have HT:=show Hid (s.extract i k=⟨((s.data.toList.drop i).take n).toArray⟩) from by
      rw [← bytes_mk (s.extract i k),HKN.out,ext_take];rfl
     clear HA h31
     go_wp2_with fail
     refine bodyPost_ret (results_cell2_row rfl _ _ w.heap.size _ _ _ _ rfl (heap_alloc_new _ _) Tryz.underlying108 rfl (by kernel_rfl)) rfl ?_
     exact ⟨⟨k,by rw [HT.out];rfl,fun _=>HKN.out⟩,below_alloc _ _⟩
  ·have HKN:=show Hid (k=i+n) from by
    have:=HK.out
    rw [List.drop_eq_nil_of_le (by rw [HSL.out];omega)] at this
    exact this
   clear HK
   by_cases h31:31<n
   ·have hA:=HA.out
    rw [if_pos h31] at hA
    subst hA
    have q:decide (31<(k:Int) - (i:Int))=true:=decide_eq_true (by have:=HKN.out;omega)
    clear HA h31
    go_wp2_with fail
    refine bodyPost_ret (results_cell2_row rfl _ _ w.heap.size _ _ _ _ rfl (heap_alloc_new _ _) Tryz.underlying108 rfl (by kernel_rfl)) rfl ?_
    exact ⟨⟨k,rfl,fun h=>absurd h (by decide)⟩,below_alloc _ _⟩
   ·have hA:=HA.out
    rw [if_neg h31] at hA
    subst hA
    have q:decide (31<(k:Int) - (i:Int))=false:=decide_eq_false (by have:=HKN.out;omega)
    have HT:=show Hid (s.extract i k=⟨((s.data.toList.drop i).take n).toArray⟩) from by
     rw [← bytes_mk (s.extract i k),HKN.out,ext_take];rfl
    clear HA h31
    go_wp2_with fail
    refine bodyPost_ret (results_cell2_row rfl _ _ w.heap.size _ _ _ _ rfl (heap_alloc_new _ _) Tryz.underlying108 rfl (by kernel_rfl)) rfl ?_
    exact ⟨⟨k,by rw [HT.out];rfl,fun _=>HKN.out⟩,below_alloc _ _⟩
theorem rone_any (w:World) (s:ByteArray) (i:Nat) (hs:s.size≤140737488355328) (hi:i≤s.size) :
 Calls Tryz.prog 117 #[.string s,.int .i64 (i:Int)] w fun e w'=>IsOne i (Tk.cut (s.data.toList.drop i)) e∧Below w.heap.size w w':=by
 by_cases h:i<s.size
 ·have e:=Tk.cut_spec s[i] (s.data.toList.drop (i+1))
  rw [← drop_byte s i h] at e
  rw [e]
  cases hb:Tk.isBeg s[i] with
  | true=>exact rone_name w s i hs h hb
  | false =>
   cases hd:Tk.isDig s[i] with
   | true=>exact rone_num w s i hs h hb hd
   | false=>exact rone_rest w s i hs h hb hd
 ·rw [List.drop_eq_nil_of_le (by show s.size≤i;omega)]
  exact rone_end w s i hs (by omega)
end Go.Proofs.YtkmmlimekachbaaGreatDoor.Tw
/-
  The document's call Scan: the tokens of a text, or its first fault: for every text of at most 2^40 bytes. No other condition.
-/
namespace Go.Proofs.YtkmmlimekachbaaGreatDoor.Tw
open Go.RowKit
theorem own_ne_s {w:World} {B n g:Nat} {v:Value} {xs:List Value} {a b c:Int} (h:w.ownsRow B 108 6 v n xs) (hc:S3 w g a b c):∀ k,v.ownBlock=some k→k≠g:=by
 intro k hk e
 obtain ⟨_,_,cur,hh⟩:=own_lt h k hk
 subst e
 unfold S3 at hc
 rw [hc] at hh
 simp at hh
set_option maxRecDepth 100000 in
set_option maxHeartbeats 4000000 in
theorem rscan_any (w:World) (s:ByteArray) (hs:s.size≤1099511627776) :
 Calls Tryz.prog 55 #[.string s] w fun e w'=>IsScan s.data.toList (Tk.scan s.data.toList) w' w.heap.size e∧Below w.heap.size w w':=by
 obtain ⟨i0,hi,hz0,hz1,hz2⟩:=info_parts info_tok
 have HSL:=show Hid (s.data.toList.length=s.size) from rfl
 have HX:Hid (Tk.scanF (s.size+1) s.data.toList 0 []=Tk.scan s.data.toList):=rfl
 generalize Tk.scan s.data.toList=ans at *
 have HF0:Hid (F4 ((w.alloc flt0).alloc (Obj.cells #[.int .i64 1,.int .i64 1,.int .i64 0] 50)) w.heap.size 0 0 0 0):=heap_alloc2_old _ _ _
 have HS0:Hid (S3 ((w.alloc flt0).alloc (Obj.cells #[.int .i64 1,.int .i64 1,.int .i64 0] 50)) (w.heap.size+1) 1 1 0):=heap_alloc2_new _ _ _
 have HB0:Hid (Below w.heap.size w ((w.alloc flt0).alloc (Obj.cells #[.int .i64 1,.int .i64 1,.int .i64 0] 50))):=below_alloc2 _ _ _
 go_enter Tryz.func55,Tryz.ntmps55
 go_wp2_with fail
 go_loopw [4,5,8,9] (fun v v5 _ _ wr=>∃ (o oa f:Nat) (l c:Int) (a:List (Tk.Tok × Nat)),v5=.int .i64 o∧oa≤o∧o≤s.size∧Hid (s.size<o+f)∧a.length≤o∧Hid (Tk.scanF f s.data.toList o a=ans)∧Hid (Tk.Bnd s.data.toList o∧Tk.Bnd s.data.toList oa∧Tk.spot s.data.toList oa=(l,c))∧Hid (wr.ownsRow w.heap.size 108 6 v a.length (toksC s.data.toList a))∧Hid (S3 wr (w.heap.size+1) l c oa)∧Hid (F4 wr w.heap.size 0 0 0 0)∧Hid (Below w.heap.size w wr)) (fun _ v5 _ _ _=>s.size - (intOf v5).toNat)
 case atStart =>
  exact ⟨0,0,s.size+1,1,1,[],rfl,Nat.le_refl _,by omega,show s.size<0+(s.size+1) by omega,by simp,HX,⟨Tk.Bnd.nil _,Tk.Bnd.nil _,Tk.go_done _ _ _ (Or.inl rfl)⟩,World.ownsRow_nil _ _ _ _,HS0,HF0,HB0⟩
 case round =>
  obtain ⟨o,oa,f,l,c,a,rfl,hoa,ho,HFu,hal,HS,HP,HO,HC,HFr,HB⟩:=hrel
  clear HX HF0 HS0 HB0
  obtain ⟨i,hid⟩:∃ i,i=o+Tk.skip (s.data.toList.drop o):=⟨_,rfl⟩
  have hio:i≤s.size:=by
   have h1:=Tk.skip_le _ (s.data.toList.drop o) (Nat.le_refl _)
   rw [List.length_drop,HSL.out] at h1
   omega
  have hoi:o≤i:=by omega
  have CS:=show Hid (∀ w:World,Calls Tryz.prog 115 #[.string s,.int .i64 (o:Int)] w fun e w'=>e=.returned (.int .i64 (i:Int))∧w'=w) from fun w=>by
   have:=rskip_any w s o (by omega) ho
   rw [← hid] at this
   exact this
  have hsp:Tk.go (s.data.toList.drop oa) (i - oa) (l,c)=Tk.spot s.data.toList i:=by
   have h:=Tk.go_add HP.out.2.1 (i - oa) (1,1)
   rw [show oa+(i - oa)=i by omega] at h
   show _=Tk.go s.data.toList i (1,1)
   rw [h]
   show _=Tk.go _ _ (Tk.spot s.data.toList oa)
   rw [HP.out.2.2]
  have CO:=show Hid (∀ w:World,Calls Tryz.prog 116 #[.string s,.agg #[.int .i64 l,.int .i64 c,.int .i64 (oa:Int)],.int .i64 (i:Int)] w fun e w'=>e=.returned (.agg #[.int .i64 (Tk.spot s.data.toList i).1,.int .i64 (Tk.spot s.data.toList i).2,.int .i64 (i:Int)])∧Below w.heap.size w w') from fun w=>by
   have:=on_any w s l c oa i (by omega) (by omega) hio
   rw [hsp] at this
   exact this
  have HP2:=show Hid (Tk.Bnd s.data.toList i) from by rw [hid];exact HP.out.1.add (Tk.skip_bnd _ _ (Nat.le_refl _))
  have hst:=HS.out
  rw [show f=(f - 1)+1 by have:=HFu.out;omega,Tk.scanF_step,← hid] at hst
  have HS2:=show Hid _ from hst
  have CC:=show Hid (∀ w:World,Calls Tryz.prog 117 #[.string s,.int .i64 (i:Int)] w fun e w'=>IsOne i (Tk.cut (s.data.toList.drop i)) e∧Below w.heap.size w w') from fun w=>rone_any w s i (by omega) hio
  have HCG:=show Hid (s.data.toList.drop i≠[]→(Tk.cut (s.data.toList.drop i)).2.2=0→1≤(Tk.cut (s.data.toList.drop i)).2.1∧Tk.Good (s.data.toList.drop i) (Tk.cut (s.data.toList.drop i)).2.1∧(Tk.cut (s.data.toList.drop i)).1.1≠0) from Tk.cut_good _
  have HCE:=show Hid (s.data.toList.drop i=[]→(Tk.cut (s.data.toList.drop i)).1.1=0) from fun h=>by rw [h];rfl
  generalize Tk.cut (s.data.toList.drop i)=ct at *
  obtain ⟨⟨tk,tt,ti⟩,tn,te⟩:=ct
  clear hst HS hsp hid
  have hs0:=HC.out.c0;have hs1:=HC.out.c1;have hs2:=HC.out.c2;have hsf:=HC.out.fr
  go_wp2_with fail
  refine (CS.out _).mono ?_
  rintro e w2 ⟨rfl,rfl⟩
  go_wp2_with fail
  refine (CO.out _).mono ?_
  rintro e w3 ⟨rfl,hb3⟩
  have HC3:=show Hid (S3 w3 (w.heap.size+1) l c oa) from HC.out.keep hb3 (lt_of_block HC.out)
  have HO3:=show Hid (w3.ownsRow w.heap.size 108 6 u4 a.length (toksC s.data.toList a)) from own_below HO.out hb3
  have HF3:=show Hid (F4 w3 w.heap.size 0 0 0 0) from HFr.out.keep hb3 (lt_of_block HFr.out)
  have HB3:=show Hid (Below w.heap.size w w3) from HB.out.trans (hb3.mono HB.out.size)
  have hr0:=HC3.out.c0;have hr1:=HC3.out.c1;have hr2:=HC3.out.c2;have hrf:=HC3.out.fr
  have HSS:=show Hid (S3 (((w3.setCell ⟨w.heap.size+1,0,none⟩ (.int .i64 (Tk.spot s.data.toList i).1)).setCell ⟨w.heap.size+1,1,none⟩ (.int .i64 (Tk.spot s.data.toList i).2)).setCell ⟨w.heap.size+1,2,none⟩ (.int .i64 (i:Int))) (w.heap.size+1) (Tk.spot s.data.toList i).1 (Tk.spot s.data.toList i).2 i) from HC3.out.s3 _ _ _
  have HSO:=show Hid ((((w3.setCell ⟨w.heap.size+1,0,none⟩ (.int .i64 (Tk.spot s.data.toList i).1)).setCell ⟨w.heap.size+1,1,none⟩ (.int .i64 (Tk.spot s.data.toList i).2)).setCell ⟨w.heap.size+1,2,none⟩ (.int .i64 (i:Int))).ownsRow w.heap.size 108 6 u4 a.length (toksC s.data.toList a)) from own_kept HO3.out fun k hk=>by
   have hne:=own_ne_s HO3.out HC3.out k hk
   exact (Below.heap_setCell _ _ _ _ hne).trans ((Below.heap_setCell _ _ _ _ hne).trans (Below.heap_setCell _ _ _ _ hne))
  have HSF:=show Hid (F4 (((w3.setCell ⟨w.heap.size+1,0,none⟩ (.int .i64 (Tk.spot s.data.toList i).1)).setCell ⟨w.heap.size+1,1,none⟩ (.int .i64 (Tk.spot s.data.toList i).2)).setCell ⟨w.heap.size+1,2,none⟩ (.int .i64 (i:Int))) w.heap.size 0 0 0 0) from by
   have hne:w.heap.size≠w.heap.size+1:=by omega
   exact (Below.heap_setCell _ _ _ _ hne).trans ((Below.heap_setCell _ _ _ _ hne).trans ((Below.heap_setCell _ _ _ _ hne).trans HF3.out))
  have HSB:=show Hid (Below w.heap.size w (((w3.setCell ⟨w.heap.size+1,0,none⟩ (.int .i64 (Tk.spot s.data.toList i).1)).setCell ⟨w.heap.size+1,1,none⟩ (.int .i64 (Tk.spot s.data.toList i).2)).setCell ⟨w.heap.size+1,2,none⟩ (.int .i64 (i:Int)))) from below_set3 HB3.out (by omega) _ _ _
  clear hb3 CS CO HO HC HFr HB hs0 hs1 hs2 hsf HC3 HO3 HF3 HB3
  go_wp2_with fail
  generalize ((w3.setCell ⟨w.heap.size+1,0,none⟩ (.int .i64 (Tk.spot s.data.toList i).1)).setCell ⟨w.heap.size+1,1,none⟩ (.int .i64 (Tk.spot s.data.toList i).2)).setCell ⟨w.heap.size+1,2,none⟩ (.int .i64 (i:Int))=wS at *
  refine (CC.out _).mono ?_
  rintro e w4 ⟨⟨kk,rfl,hkk⟩,hb4⟩
  have HKK:=show Hid (te=0→kk=i+tn) from hkk
  have HC4:=show Hid (S3 w4 (w.heap.size+1) (Tk.spot s.data.toList i).1 (Tk.spot s.data.toList i).2 i) from HSS.out.keep hb4 (lt_of_block HSS.out)
  have HO4:=show Hid (w4.ownsRow w.heap.size 108 6 u4 a.length (toksC s.data.toList a)) from own_below HSO.out hb4
  have HF4:=show Hid (F4 w4 w.heap.size 0 0 0 0) from HSF.out.keep hb4 (lt_of_block HSF.out)
  have HB4:=show Hid (Below w.heap.size w w4) from HSB.out.trans (hb4.mono HSB.out.size)
  clear hb4 CC HSS HSO HSF HSB hkk hr0 hr1 hr2 hrf
  unfold tokV
  have hlt4:w.heap.size+1<w4.heap.size:=lt_of_block HC4.out
  by_cases hte:te=0
  ·subst hte
   have hc0:=HC4.out.c0;have hc1:=HC4.out.c1;have hc2:=HC4.out.c2
   obtain ⟨sl,hsl⟩:∃ sl,sl=(Tk.spot s.data.toList i).1:=⟨_,rfl⟩
   obtain ⟨sc,hsc⟩:∃ sc,sc=(Tk.spot s.data.toList i).2:=⟨_,rfl⟩
   rw [← hsl] at hc0
   rw [← hsc] at hc1
   have HTC:=show Hid (tokC s.data.toList ((tk,tt,ti),i)=[.int .i64 tk,.string ⟨tt.toArray⟩,.int .i64 ti,.int .i64 sl,.int .i64 sc,.int .i64 (i:Int)]) from by rw [hsl,hsc];rfl
   have HSLC:=show Hid (sl=(Tk.spot s.data.toList i).1∧sc=(Tk.spot s.data.toList i).2) from ⟨hsl,hsc⟩
   clear hsl hsc
   obtain ⟨xs,hxs⟩:∃ xs,xs=toksC s.data.toList a:=⟨_,rfl⟩
   rw [← hxs] at HO4
   have HXS:=show Hid (toksC s.data.toList a=xs) from hxs.symm
   clear hxs
   have hal2:a.length≤1099511627777:=by omega
   have HN1:=show Hid (∀ u ∈ [Value.int .i64 tk,.string ⟨tt.toArray⟩,.int .i64 ti,.int .i64 sl,.int .i64 sc,.int .i64 (i:Int)],u.oneCell'=true) from by
    have:=tokC_one s.data.toList ((tk,tt,ti),i)
    rw [HTC.out] at this
    exact this
   go_wp2_with (at_builtin;refine wpList_append_own _ rfl (.tmp 32) (.tmp 34) 97 rfl w.heap.size 108 i0 _ 6 56 Tryz.underlying97 hi hz0 hz1 hz2 rfl (by decide) u4 a.length xs rfl (own_below (own_below HO4.out (below_alloc _ _)) (below_alloc _ _)) ⟨w4.heap.size+1,0,none⟩ 1 1 [.int .i64 tk,.string ⟨tt.toArray⟩,.int .i64 ti,.int .i64 sl,.int .i64 sc,.int .i64 (i:Int)] rfl rfl (lit_newsV _ _ _ _ (by simp)) HN1.out (by unfold maxLen;omega) (by omega) (by simp;omega) ?_)
   intro v' w5 hown5 hg5 _
   have hv5:u4.ownBlock≠some w4.heap.size:=fun e=>by have:=(own_lt HO4.out _ e).2.1;omega
   have hvc:u4.ownBlock≠some (w.heap.size+1):=fun e=>own_ne_s HO4.out HC4.out _ e rfl
   have hvf:u4.ownBlock≠some w.heap.size:=fun e=>own_ne_f HO4.out HF4.out _ e rfl
   have HT5:=show Hid (T6 w5 w4.heap.size (.int .i64 tk) (.string ⟨tt.toArray⟩) (.int .i64 ti) (.int .i64 sl) (.int .i64 sc) (.int .i64 (i:Int))) from (hg5.block _ (by simp;omega) (fun e=>hv5 e.symm)).trans (heap_alloc2_old _ _ _)
   have HC5:=show Hid (S3 w5 (w.heap.size+1) (Tk.spot s.data.toList i).1 (Tk.spot s.data.toList i).2 i) from (hg5.block _ (by simp;omega) (fun e=>hvc e.symm)).trans ((Below.heap_alloc _ _ _ (by simp;omega)).trans ((Below.heap_alloc _ _ _ hlt4).trans HC4.out))
   have HF5:=show Hid (F4 w5 w.heap.size 0 0 0 0) from (hg5.block _ (by simp;omega) (fun e=>hvf e.symm)).trans ((Below.heap_alloc _ _ _ (by simp;omega)).trans ((Below.heap_alloc _ _ _ (by omega)).trans HF4.out))
   have HB5:=show Hid (Below w.heap.size w w5) from ((HB4.out.alloc (by omega) _).alloc (by simp;omega) _).grown hg5 (by simp;omega) (fun k e=>(own_lt HO4.out k e).1)
   have HO5:=show Hid (w5.ownsRow w.heap.size 108 6 v' (a ++ [((tk,tt,ti),i)]).length (toksC s.data.toList (a ++ [((tk,tt,ti),i)]))) from by
    rw [toksC_snoc,HTC.out,List.length_append,List.length_singleton,HXS.out]
    exact hown5
   have ht0:=HT5.out.c0
   clear hown5 hg5 HO4 HC4 HF4 HB4 hc0 hc1 hc2 hv5 hvc hvf
   have hst:=HS2.out
   rw [if_neg (by simp)] at hst
   by_cases htk:tk=0
   ·subst htk
    rw [if_pos rfl] at hst
    subst hst
    clear HS2
    have hf0:=HF5.out.c0;have hf1:=HF5.out.c1;have hf2:=HF5.out.c2;have hf3:=HF5.out.c3;have hff:=HF5.out.fr
    obtain ⟨pv,nv,cv,hv'⟩:∃ pv nv cv,v'=.slice pv nv cv:=by
     rcases HO5.out.2 with ⟨h,_⟩ | ⟨g,cap,cur,h,_⟩
     ·exact ⟨_,_,_,h⟩
     ·exact ⟨_,_,_,h⟩
    subst hv'
    go_wp2_with fail
    refine bodyPost_ret (results_tmp_row rfl _ _ w.heap.size _ _ _ _ rfl (HF5.out.s4 0 0 0 0) Tryz.underlying52 rfl (by kernel_rfl)) rfl ?_
    refine ⟨⟨.slice pv nv cv,rfl,?_⟩,below_set4 HB5.out (Nat.le_refl _) _ _ _ _⟩
    refine own_kept HO5.out fun k hk => ?_
    have hne:=own_ne_f HO5.out HF5.out k hk
    exact (Below.heap_setCell _ _ _ _ hne).trans ((Below.heap_setCell _ _ _ _ hne).trans ((Below.heap_setCell _ _ _ _ hne).trans (Below.heap_setCell _ _ _ _ hne)))
   ·have htk0:(tk == 0)=false:=beq_eq_false_iff_ne.2 htk
    rw [if_neg htk] at hst
    have HS3:=show Hid (Tk.scanF (f - 1) s.data.toList (i+tn) (a ++ [((tk,tt,ti),i)])=ans) from hst
    have hne:s.data.toList.drop i≠[]:=fun h=>htk (HCE.out h)
    have hgd:=HCG.out hne (by first | rfl | trivial)
    have hgl:=hgd.2.1.le
    rw [List.length_drop,HSL.out] at hgl
    have htn:1≤tn:=hgd.1
    have HBN:=show Hid (Tk.Bnd s.data.toList (i+tn)∧Tk.Bnd s.data.toList i) from ⟨HP2.out.add hgd.2.1.bnd,HP2.out⟩
    have hkk:=HKK.out (by first | rfl | trivial)
    subst hkk
    clear hst HS2 hne hgd htk HCG HCE HP2 HKK
    go_wp2_with fail
    go_roundw
    case rel =>
     refine ⟨i+tn,i,f - 1,_,_,a ++ [((tk,tt,ti),i)],by go_num,by omega,by omega,?_,?_,HS3,⟨HBN.out.1,HBN.out.2,rfl⟩,HO5,HC5,HF5,HB5⟩
     ·show s.size<i+tn+(f - 1)
      have:=HFu.out
      omega
     ·simp;omega
    case measure=>simp [intOf];omega
  ·have hte0:(te != 0)=true:=by simp [hte]
   go_wp2_with fail
   generalize hw5:w4.alloc _=w5 at *
   have HC5:=show Hid (S3 w5 (w.heap.size+1) (Tk.spot s.data.toList i).1 (Tk.spot s.data.toList i).2 i) from by rw [← hw5];exact (Below.heap_alloc _ _ _ hlt4).trans HC4.out
   have HF5:=show Hid (F4 w5 w.heap.size 0 0 0 0) from by rw [← hw5];exact (Below.heap_alloc _ _ _ (by omega)).trans HF4.out
   have HB5:=show Hid (Below w.heap.size w w5) from by rw [← hw5];exact HB4.out.alloc (by omega) _
   have hc1:=HC5.out.c0;have hc2:=HC5.out.c1;have hc3:=HC5.out.c2
   have hf0:=HF5.out.c0;have hf1:=HF5.out.c1;have hf2:=HF5.out.c2;have hf3:=HF5.out.c3;have hff:=HF5.out.fr
   clear hw5
   go_region
   go_wp2_with fail
   have hA:=HS2.out
   rw [if_pos hte] at hA
   subst hA
   refine bodyPost_ret (results_tmp_row rfl _ _ w.heap.size _ _ _ _ rfl (HF5.out.s4 te (Tk.spot s.data.toList i).1 (Tk.spot s.data.toList i).2 (i:Int)) Tryz.underlying52 rfl (by kernel_rfl)) rfl ?_
   refine ⟨⟨.slice none 0 0,?_,World.ownsRow_nil _ _ _ _⟩,(below_set4 HB5.out (Nat.le_refl _) _ _ _ _).drew⟩
   show _=Ending.returned (.tuple #[.slice none 0 0,fltV s.data.toList te i])
   unfold fltV
   rw [if_neg hte]
   rfl
end Go.Proofs.YtkmmlimekachbaaGreatDoor.Tw
