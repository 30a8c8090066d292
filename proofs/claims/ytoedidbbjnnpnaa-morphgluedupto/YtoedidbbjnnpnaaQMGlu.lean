/-
  Glue: of any models. Its condition is what a machine can hold.
-/
import Derived.Test.YtoedidbbjnnpnaaTH21
import Derived.Test.YtoedidbbjnnpnaaQMGluK
import Derived.Test.YtoedidbbjnnpnaaTH20
import Derived.Test.YtoedidbbjnnpnaaQMAbv
namespace Go.Proofs.Ytoedidbbjnnpnaa.Wm
open Go.RowKit Go.Maps
open Wd (Md Rc Ed upd vl allW inW)
set_option linter.unusedSimpArgs false
set_option linter.unusedVariables false
theorem cf_glu1:Cf 45:=fun _ _=>by kernel_rfl
set_option maxRecDepth 100000 in
set_option maxHeartbeats 16000000 in
theorem glue_any (w:World) {L:Nat} {lv av:Value} {ml:List Md} {atoms:List ByteArray} (hl:IsL w L lv ml) (ha:IsN w L av atoms) (hf:∀ m ∈ ml,Fit m) (hL:L≤w.heap.size) (hfv:∀ m ∈ ml,∀ r ∈ m.val,r.length * 16≤140737488355328) (hfu:∀ m ∈ ml,∀ r ∈ m.up,r.length * 8≤140737488355328) (hfa:atoms.length * 16≤140737488355328) (hfs:∀ s ∈ atoms,s.size≤140737488351232) (hfl:(1+ml.length * 512) * 24≤140737488355328) :
 Calls Try.prog 22 #[lv,av] w fun e w'=>∃ u' v' pv er,e=.returned (.tuple #[.agg #[u',v'],pv,.int .i64 er])∧GluR w' w.heap.size ml atoms u' v' pv er∧Below w.heap.size w w':=by
 have HF:=show Hid ((∀ m ∈ ml,Fit m)∧(∀ m ∈ ml,∀ r ∈ m.val,r.length * 16≤140737488355328)∧(∀ m ∈ ml,∀ r ∈ m.up,r.length * 8≤140737488355328)∧atoms.length * 16≤140737488355328∧∀ s ∈ atoms,s.size≤140737488351232) from ⟨hf,hfv,hfu,hfa,hfs⟩
 obtain ⟨pl,cl,rfl,hat⟩:=hl
 obtain ⟨pa,ca,rfl⟩:=IsS.form ha
 have HA:=show Hid (IsN w w.heap.size (.slice pa atoms.length ca) atoms) from IsS.wide ha hL
 have HLC:=show Hid (∀ W,Below w.heap.size w W→∀ k (hk:k<ml.length),∃ b o x y,pl=some ⟨b,o,none⟩∧W.cell? ⟨b,o+k * 2,none⟩=some x∧W.cell? ⟨b,o+k * 2+1,none⟩=some y∧IsM W w.heap.size x y ml[k]) from fun W hW k hk=>by
  obtain ⟨b,o,hb,e,h⟩:=hat (by omega)
  obtain ⟨x,y,c1,c2,hm⟩:=h k hk
  exact ⟨b,o,x,y,e,(World.cell?_of_block (a:=⟨b,o+k * 2,none⟩) (hW.block b (by omega))).trans c1,(World.cell?_of_block (a:=⟨b,o+k * 2+1,none⟩) (hW.block b (by omega))).trans c2,by
   have h1:=hm.below (hW.mono hL)
   exact ⟨(IsS.keep (R':=fun r x=>IsI W w.heap.size x r) h1.up (fun _ _=>rfl) fun _ _ h=>IsS.wide h hL).wide hL,(IsS.keep (R':=fun r x=>IsN W w.heap.size x r) h1.val (fun _ _=>rfl) fun _ _ h=>IsS.wide h hL).wide hL⟩⟩
 have HCK:=show Hid (∀ W k (hk:k<ml.length) x y,Below w.heap.size w W→IsM W w.heap.size x y ml[k]→Calls Try.prog 43 #[.agg #[x,y]] W fun e w'=>∃ er:Int,e=.returned (.int .i64 er)∧((Wd.Good ml[k]∧er=0)∨(¬ Wd.Good ml[k]∧er=170))∧Below W.heap.size W w') from fun W k hk x y hW hM =>
  check_any W hM (HF.out.1 _ (List.getElem_mem hk)) hW.size
 have hll:ml.length≤1000000000000:=by omega
 have HFL:=show Hid ((1+ml.length * 512) * 24≤140737488355328) from hfl
 clear hat ha hf hfv hfu hfa hfs hfl
 go_enter Try.func22,Try.ntmps22
 go_wp2_with (refine wpList_alloc 25 rfl _ zero_md rfl ?_)
 intro w1 b4 hN1
 have H1:=show Hid (Below w.heap.size w w1∧Cl w1 b4 #[.slice none 0 0,.slice none 0 0] 25∧w.heap.size≤b4) from ⟨hN1.bel,hN1.blk,hN1.ge⟩
 clear hN1
 go_wp2_with fail
 go_loopw [8,9,22] (fun _ _ i wr=>∃ k:Nat,k≤ml.length∧i=.int .i64 (k:Int)∧Hid (∀ j (hj:j<ml.length),j<k→Wd.Good ml[j])∧Hid (Below w1.heap.size w1 wr)) (fun _ _ i _=>ml.length - (intOf i).toNat)
 case atStart=>exact ⟨0,Nat.zero_le _,rfl,fun j _ h=>absurd h (Nat.not_lt_zero _),Below.refl _ _⟩
 case round =>
  obtain ⟨k,hk,rfl,HJ,HB⟩:=hrel
  by_cases hlt:k<ml.length
  ·have hbw:Below w.heap.size w wr:=H1.out.1.trans (HB.out.mono H1.out.1.size)
   obtain ⟨bl,ol,x,y,rfl,c1,c2,hm⟩:=HLC.out wr hbw k hlt
   have hld:=ldM c1 c2
   have HM:=show Hid (IsM wr w.heap.size x y ml[k]∧Below w.heap.size w wr) from ⟨hm,hbw⟩
   obtain ⟨px,cx,rfl⟩:=IsS.form hm.up
   obtain ⟨py,cy,rfl⟩:=IsS.form hm.val
   have hki:(k:Int)<(ml.length:Int):=by omega
   clear hm hbw c1 c2
   generalize ml[k].up.length=lx at *
   generalize ml[k].val.length=ly at *
   go_wp2_with (first | (refine wpList_ldR _ _ rfl _ rfl _ hld rfl ?_) | (refine wpList_alloc 25 rfl _ zero_md rfl ?_))
   intro w2 b8 hN2
   go_wp2_with (refine wpList_st 25 rfl rfl _ _ rfl b8 rfl _ rfl _ _ hN2.blk sizeM rfl (by simp [Value.oneCell']) ?_)
   intro w3 hc3 hk3
   have H3:=show Hid (Below w1.heap.size w1 w3∧Cl w3 b8 #[.slice px lx cx,.slice py ly cy] 25∧IsM w3 w.heap.size (.slice px lx cx) (.slice py ly cy) ml[k]∧Below w.heap.size w w3) from by
    have hge:=hN2.ge
    have hb:Below wr.heap.size wr w3:=hN2.bel.trans (hk3.below hN2.bel.size fun k e=>by omega)
    exact ⟨HB.out.trans (hb.mono HB.out.size),hc3,HM.out.1.below (hb.mono HM.out.2.size),HM.out.2.trans (hb.mono HM.out.2.size)⟩
   clear hN2 hc3 hk3 HM hld HB
   go_wp2_with (refine wpList_ldw 25 _ rfl b8 rfl _ _ H3.out.2.1 rfl Try.underlying25 sizeM rfl ?_)
   refine Calls.mono (HCK.out w3 k hlt _ _ H3.out.2.2.2 H3.out.2.2.1) ?_
   rintro e w4 ⟨er,rfl,hg,hb4⟩
   have H4:=show Hid (Below w1.heap.size w1 w4) from H3.out.1.trans (hb4.mono H3.out.1.size)
   clear hb4 H3
   rcases hg with ⟨hg,rfl⟩ | ⟨hg,rfl⟩
   ·have HG:=show Hid (∀ j (hj:j<ml.length),j<k+1→Wd.Good ml[j]) from fun j hj h=>by
     by_cases e:j=k
     ·subst e;exact hg
     ·exact HJ.out j hj (by omega)
    clear hg
    go_wp2_with fail
    go_roundw
    case rel=>exact ⟨k+1,by omega,val_int (by omega),HG.out,H4.out⟩
    case measure=>(simp only [intOf];omega)
   ·have HG:=show Hid (∃ m ∈ ml,¬ Wd.Good m) from ⟨_,List.getElem_mem hlt,hg⟩
    have HC4:=show Hid (Cl w4 b4 #[.slice none 0 0,.slice none 0 0] 25∧Below w.heap.size w w4) from ⟨H1.out.2.1.later H4.out,H1.out.1.trans (H4.out.mono H1.out.1.size)⟩
    clear hg H4
    go_wp2_with (refine wpList_st 25 rfl rfl _ _ rfl b4 rfl _ rfl _ _ HC4.out.1 sizeM rfl (by simp [Value.oneCell']) ?_)
    intro w5 hc5 hk5
    have H5:=show Hid (Cl w5 b4 #[.slice none 0 0,.slice none 0 0] 25∧Below w.heap.size w w5) from ⟨hc5,HC4.out.2.trans (hk5.below HC4.out.2.size fun k e=>by have:=H1.out.2.2;omega)⟩
    clear hc5 hk5
    go_wp2_with fail
    refine bodyPost_ret (results_m_tt rfl _ _ b4 rfl H5.out.1) rfl ?_
    exact ⟨_,_,_,_,rfl,Or.inl ⟨HG.out,rfl,rfl,rfl,rfl⟩,H5.out.2⟩
  ·have hki:¬ (k:Int)<(ml.length:Int):=by omega
   have HAG:=show Hid (∀ m ∈ ml,Wd.Good m) from fun m hm=>by
    obtain ⟨j,hj,rfl⟩:=List.mem_iff_getElem.1 hm
    exact HJ.out j hj (by omega)
   have HGM:=show Hid (∀ k,k<ml.length→gM ml k ∈ ml∧(gM ml k).up.length≤512∧(gM ml k).val.length=(gM ml k).up.length) from fun k hk=>by
    rw [gM_at hk]
    have hg:=Wd.shaped_and (HAG.out _ (List.getElem_mem hk)).shape
    exact ⟨List.getElem_mem hk,hg.2.1,hg.2.2.1⟩
   have HR:=show Hid (Below w.heap.size w wr∧Cl wr b4 #[.slice none 0 0,.slice none 0 0] 25) from ⟨H1.out.1.trans (HB.out.mono H1.out.1.size),H1.out.2.1.later HB.out⟩
   clear HJ HB HCK hk hlt
   go_wp2_with (refine wpList_alloc 25 rfl _ zero_md rfl ?_)
   intro w5 b10 hN5
   go_wp2_with (refine wpList_st 25 rfl rfl _ _ rfl b10 rfl _ rfl _ _ hN5.blk sizeM rfl (by simp [Value.oneCell']) ?_)
   intro w6 hc6 hk6
   have HK0:=show Hid (GK wr w6 w.heap.size b10 (.slice (some ⟨wr.heap.size,0,none⟩) 1 1) (.slice (some ⟨wr.heap.size+1,0,none⟩) 1 1) (.slice none 0 0) (gUp ml (fun _=>0) 0 0) (gVal ml atoms 0 0) ((List.range 0).map (gN ml)) b10∧w.heap.size≤b10∧b4<b10∧w.heap.size≤wr.heap.size∧wr.heap.size≤b10) from by
    have a1:=below_alloc wr (.cells #[.slice none 0 0] 27)
    have a2:=below_alloc (wr.alloc (.cells #[.slice none 0 0] 27)) (.cells #[.slice pa atoms.length ca] 34)
    have s1:(wr.alloc (.cells #[.slice none 0 0] 27)).heap.size=wr.heap.size+1:=by simp
    have hge:=hN5.ge
    have hsz2:=a2.size
    have hb26:Below ((wr.alloc (.cells #[.slice none 0 0] 27)).alloc (.cells #[.slice pa atoms.length ca] 34)).heap.size ((wr.alloc (.cells #[.slice none 0 0] 27)).alloc (.cells #[.slice pa atoms.length ca] 34)) w6:=hN5.bel.trans (hk6.below hN5.bel.size fun k e=>by omega)
    have hb16:Below (wr.alloc (.cells #[.slice none 0 0] 27)).heap.size (wr.alloc (.cells #[.slice none 0 0] 27)) w6:=a2.trans (hb26.mono a2.size)
    have hb06:Below wr.heap.size wr w6:=a1.trans (hb16.mono a1.size)
    have hU:w6.ownsRow wr.heap.size 27 1 (.slice (some ⟨wr.heap.size,0,none⟩) 1 1) 1 [.slice none 0 0]:=own_later (World.ownsRow_lit wr #[.slice none 0 0] 1 (Nat.le_refl _) (by unfold maxLen;omega) rfl) hb16
    have hV:w6.ownsRow wr.heap.size 34 1 (.slice (some ⟨wr.heap.size+1,0,none⟩) 1 1) 1 [.slice pa atoms.length ca]:=by
     have h9:=World.ownsRow_lit (e:=34) (size:=1) (base:=wr.heap.size) (wr.alloc (.cells #[.slice none 0 0] 27)) #[.slice pa atoms.length ca] 1 (by omega) (by unfold maxLen;omega) rfl
     rw [s1] at h9
     exact own_later h9 hb26
    have hwr:=HR.out.1.size
    refine ⟨⟨hc6,⟨[.slice none 0 0],⟨hU,fun i hi => ?_,fun i j x y hij hx hy => ?_⟩,fun i y hy k hk=>by
     rcases i with _ | i
     ·simp at hy;subst hy;simp [Value.ownBlock] at hk
     ·simp at hy⟩,⟨[.slice pa atoms.length ca],hV,fun i hi => ?_⟩,?_,World.ownsRow_nil _ _ _ _,by simp [Value.ownBlock],Cl.lt hc6⟩,by omega,?_,hwr,by omega⟩
    ·have e:i=0:=by simp [gUp] at hi;simp [gRows] at hi;omega
     subst e
     exact ⟨_,rfl,World.ownsRow_nil _ _ _ _⟩
    ·have hx':=(List.getElem?_eq_some_iff.1 hx).1
     have hy':=(List.getElem?_eq_some_iff.1 hy).1
     simp at hx' hy';omega
    ·have e:i=0:=by simp [gVal] at hi;simp [gVals] at hi;omega
     subst e
     exact ⟨_,rfl,HA.out.keep fun k hk=>HR.out.1.block k hk⟩
    ·exact ⟨hb06.os,hb06.tape,hb06.output,hb06.size,fun k hk _=>hb06.block k hk⟩
    ·have:=HR.out.2.lt;omega
   clear hN5 hc6 hk6
   have HB10:=show Hid (w.heap.size≤b10∧b4<b10∧w.heap.size≤wr.heap.size∧wr.heap.size≤b10∧w.heap.size≤b4∧b4<wr.heap.size) from ⟨HK0.out.2.1,HK0.out.2.2.1,HK0.out.2.2.2.1,HK0.out.2.2.2.2,H1.out.2.2,HR.out.2.lt⟩
   have HRT:=show Hid (∀ W k (hk:k<ml.length) x y,Below w.heap.size w W→IsM W w.heap.size x y ml[k]→∃ M,IsO ml[k].up M∧Calls Try.prog 44 #[.agg #[x,y]] W fun e w'=>∃ (r:Int) (ok:Bool),e=.returned (.tuple #[.int .i64 r,.bool ok])∧RootR M ml[k] r ok∧Below W.heap.size W w') from fun W k hk x y hW hM=>by
    obtain ⟨M,hO⟩:=isO_ex ml[k].up
    exact ⟨M,hO,root_any W hO hM (HF.out.1 _ (List.getElem_mem hk)) hW.size⟩
   go_wp2_with fail
   obtain ⟨wb,rfl⟩:∃ z:World,z=wr:=⟨wr,rfl⟩
   go_loopw [11,13,14,15,16,17,18,39] (fun pv _ _ _ _ _ _ i w7=>∃ (k:Nat) (uv2 vv2:Value) (rs:Nat→Nat),k≤ml.length∧i=.int .i64 (k:Int)∧Hid (∀ j,j<k→∃ M,IsO (gM ml j).up M∧RootR M (gM ml j) (rs j:Int) true)∧Hid (∃ q,GK wb w7 w.heap.size b10 uv2 vv2 pv (gUp ml rs k 0) (gVal ml atoms k 0) ((List.range k).map (gN ml)) q)) (fun _ _ _ _ _ _ _ i _=>ml.length - (intOf i).toNat)
   case atStart=>exact ⟨0,_,_,fun _=>0,Nat.zero_le _,rfl,fun j h=>absurd h (Nat.not_lt_zero _),b10,HK0.out.1⟩
   case round =>
    clear HK0
    obtain ⟨k,uv2,vv2,rs,hk,rfl,HRS,HP0⟩:=hrel
    by_cases hlt:k<ml.length
    ·obtain ⟨q0,hp0⟩:=HP0.out
     have hbw:=fun {W:World} (h:Kp (fun k=>k=b10) wb W)=>HR.out.1.trans (h.below HR.out.1.size fun k e=>by have:=HB10.out;omega)
     obtain ⟨bl,ol,x,y,rfl,c1,c2,hm⟩:=HLC.out _ (hbw hp0.kp) k hlt
     have hld:=ldM c1 c2
     obtain ⟨px,cx,rfl⟩:=IsS.form hm.up
     obtain ⟨py,cy,rfl⟩:=IsS.form hm.val
     have HM:=show Hid _ from hm
     rw [← gM_at hlt] at HM hld
     obtain ⟨xs0,hx0,-⟩:=hp0.up
     obtain ⟨pu0,cu0,rfl⟩:=own_form hx0.own
     obtain ⟨ys0,hy0,-⟩:=hp0.val
     obtain ⟨pv0,cv0,rfl⟩:=own_form hy0
     obtain ⟨pls,hpls⟩:∃ z,z=(List.range k).map (gN ml):=⟨_,rfl⟩
     have HPL:=show Hid (pls=(List.range k).map (gN ml)∧pls.length=k) from ⟨hpls,by rw [hpls];simp⟩
     rw [← hpls] at hp0
     obtain ⟨pp,cp,rfl⟩:=hp0.pl.slice
     have hgl:(gUp ml rs k 0).length=gN ml k:=gUp_len (Nat.zero_le _)
     have hvl0:(gVal ml atoms k 0).length=gN ml k:=gVal_len (fun k hk=>(HGM.out k hk).2.2) hlt (Nat.zero_le _)
     rw [hgl,hvl0] at hp0
     have HQ0:=show Hid (GK wb wr w.heap.size b10 (.slice pu0 (gN ml k) cu0) (.slice pv0 (gN ml k) cv0) (.slice pp pls.length cp) (gUp ml rs k 0) (gVal ml atoms k 0) pls q0) from hp0
     have HGN:=show Hid (gN ml k+(gM ml k).up.length≤1+ml.length * 512∧(gM ml k).up.length≤512∧(gM ml k).val.length=(gM ml k).up.length∧gM ml k ∈ ml) from by
      have h1:=gN_le (fun k hk=>(HGM.out k hk).2.1) (k+1) (by omega)
      have h2:(k+1) * 512≤ml.length * 512:=Nat.mul_le_mul_right _ (by omega)
      refine ⟨?_,(HGM.out k hlt).2.1,(HGM.out k hlt).2.2,(HGM.out k hlt).1⟩
      show gN ml (k+1)≤_
      omega
     have HBW:=show Hid (∀ W,Kp (fun k=>k=b10) wb W→Below w.heap.size w W) from fun W h=>hbw h
     have hki:(k:Int)<(ml.length:Int):=by omega
     have hgn1:=HGN.out.1
     have hgn2:=HGN.out.2.1
     have hgfl:=HFL.out
     clear hm c1 c2 hp0 HP0 hx0 hy0 hpls hbw hgl hvl0
     go_wp2_with (first | (refine wpList_ldR _ _ rfl _ rfl _ hld rfl ?_) | (refine wpList_alloc 25 rfl _ zero_md rfl ?_))
     intro w8 b13 hN8
     go_wp2_with (refine wpList_st 25 rfl rfl _ _ rfl b13 rfl _ rfl _ _ hN8.blk sizeM rfl (by simp [Value.oneCell']) ?_)
     intro w9 hc9 hk9
     have H9:=show Hid (GK wb w9 w.heap.size b10 (.slice pu0 (gN ml k) cu0) (.slice pv0 (gN ml k) cv0) (.slice pp pls.length cp) (gUp ml rs k 0) (gVal ml atoms k 0) pls q0∧Cl w9 b13 #[.slice px (gM ml k).up.length cx,.slice py (gM ml k).val.length cy] 25∧IsM w9 w.heap.size (.slice px (gM ml k).up.length cx) (.slice py (gM ml k).val.length cy) (gM ml k)∧b10<b13) from by
      have hge:=hN8.ge
      have hb:Below wr.heap.size wr w9:=hN8.bel.trans (hk9.below hN8.bel.size fun k e=>by omega)
      have hwr:=(HBW.out wr HQ0.out.kp).size
      exact ⟨HQ0.out.later hb,hc9,HM.out.below (hb.mono hwr),Nat.lt_of_lt_of_le HQ0.out.box.lt hge⟩
     clear hN8 hc9 hk9 hld HM HQ0
     have hx2:=HRT.out w9 k hlt _ _ (HBW.out w9 H9.out.1.kp) (by rw [← gM_at hlt];exact H9.out.2.2.1)
     rw [← gM_at hlt] at hx2
     obtain ⟨M,hO,KRT0⟩:=hx2
     have KRT:=show Hid _ from KRT0
     have HO:=show Hid (IsO (gM ml k).up M) from hO
     clear KRT0 hO
     go_wp2_with (refine wpList_ldw 25 _ rfl b13 rfl _ _ H9.out.2.1 rfl Try.underlying25 sizeM rfl ?_)
     refine Calls.mono KRT.out ?_
     rintro e w10 ⟨r,ok,rfl,hroot,hb10⟩
     have H10:=show Hid (GK wb w10 w.heap.size b10 (.slice pu0 (gN ml k) cu0) (.slice pv0 (gN ml k) cv0) (.slice pp pls.length cp) (gUp ml rs k 0) (gVal ml atoms k 0) pls q0∧Cl w10 b13 #[.slice px (gM ml k).up.length cx,.slice py (gM ml k).val.length cy] 25∧IsM w10 w.heap.size (.slice px (gM ml k).up.length cx) (.slice py (gM ml k).val.length cy) (gM ml k)∧b10<b13) from
      ⟨H9.out.1.later hb10,H9.out.2.1.later hb10,H9.out.2.2.1.below (hb10.mono (HBW.out w9 H9.out.1.kp).size),H9.out.2.2.2⟩
     have HRO:=show Hid (RootR M (gM ml k) r ok) from hroot
     clear hroot hb10 KRT H9
     cases ok
     ·have HE:=show Hid (∃ m ∈ ml,∃ M r,IsO m.up M∧RootR M m r false) from ⟨gM ml k,HGN.out.2.2.2,M,r,HO.out,HRO.out⟩
      have HC4:=show Hid (Cl w10 b4 #[.slice none 0 0,.slice none 0 0] 25∧Below w.heap.size w w10) from ⟨HR.out.2.kp H10.out.1.kp (by have:=HB10.out;omega),HBW.out w10 H10.out.1.kp⟩
      clear H10
      go_wp2_with (refine wpList_st 25 rfl rfl _ _ rfl b4 rfl _ rfl _ _ HC4.out.1 sizeM rfl (by simp [Value.oneCell']) ?_)
      intro w11 hc11 hk11
      have H11:=show Hid (Cl w11 b4 #[.slice none 0 0,.slice none 0 0] 25∧Below w.heap.size w w11) from ⟨hc11,HC4.out.2.trans (hk11.below HC4.out.2.size fun k e=>by have:=HB10.out;omega)⟩
      clear hc11 hk11
      go_wp2_with fail
      refine bodyPost_ret (results_m_tt rfl _ _ b4 rfl H11.out.1) rfl ?_
      exact ⟨_,_,_,_,rfl,Or.inr (Or.inl ⟨HAG.out,HE.out,rfl,rfl,rfl,rfl⟩),H11.out.2⟩
     ·obtain ⟨r0,hr0,rfl⟩:∃ r0:Nat,r0<(gM ml k).up.length∧r=(r0:Int):=by
       rcases HRO.out with ⟨_,_,h⟩ | ⟨_,_,h,_⟩ | ⟨q,_,h1,h2,_⟩
       ·cases h
       ·cases h
       ·exact ⟨q,h1,h2⟩
      have hb11:=below_alloc w10 (.cells #[.int .i64 (gN ml k:Int)] 3)
      have H11:=show Hid (GK wb (w10.alloc (.cells #[.int .i64 (gN ml k:Int)] 3)) w.heap.size b10 (.slice pu0 (gN ml k) cu0) (.slice pv0 (gN ml k) cv0) (.slice pp pls.length cp) (gUp ml rs k 0) (gVal ml atoms k 0) pls w10.heap.size∧Cl (w10.alloc (.cells #[.int .i64 (gN ml k:Int)] 3)) b13 #[.slice px (gM ml k).up.length cx,.slice py (gM ml k).val.length cy] 25∧Cl (w10.alloc (.cells #[.int .i64 (gN ml k:Int)] 3)) w10.heap.size #[.int .i64 (gN ml k:Int)] 3∧IsM (w10.alloc (.cells #[.int .i64 (gN ml k:Int)] 3)) w.heap.size (.slice px (gM ml k).up.length cx) (.slice py (gM ml k).val.length cy) (gM ml k)∧b10<b13∧b10<w10.heap.size∧Below w.heap.size w (w10.alloc (.cells #[.int .i64 (gN ml k:Int)] 3))) from
       ⟨H10.out.1.other hb11 (Nat.le_refl _) (by simp),H10.out.2.1.later hb11,heap_alloc_new _ _,H10.out.2.2.1.below (hb11.mono (HBW.out w10 H10.out.1.kp).size),H10.out.2.2.2,H10.out.1.box.lt,HBW.out _ (H10.out.1.later hb11).kp⟩
      have c10:w10.cell? ⟨b10,0,none⟩=some (.slice pu0 (gN ml k) cu0):=H10.out.1.box.cell 0
      have c13:(w10.alloc (.cells #[.int .i64 (gN ml k:Int)] 3)).cell? ⟨b13,0,none⟩=some (.slice px (gM ml k).up.length cx):=H11.out.2.1.cell 0
      have HRR:=show Hid (r0<(gM ml k).up.length) from hr0
      clear hb11 H10 hr0
      go_wp2_with fail
      clear c10 c13
      generalize hW11:w10.alloc (.cells #[.int .i64 (gN ml k:Int)] 3)=W11 at *
      generalize w10.heap.size=b16 at *
      clear hW11
      have HB13:=show Hid (b13≠b10∧b16≠b10∧b10<b16) from by
       have h1:=H11.out.2.2.2.2
       exact ⟨by omega,by omega,by omega⟩
      have hn1:0<(gM ml k).up.length:=Nat.lt_of_le_of_lt (Nat.zero_le _) HRR.out
      obtain ⟨bu,ou,hbu,rfl,hatu⟩:=(IsS.at H11.out.2.2.2.1.up).2 hn1
      obtain ⟨bv,ov,hbv,rfl,hatv⟩:=(IsS.at H11.out.2.2.2.1.val).2 (by rw [HGN.out.2.2.1];exact hn1)
      have HRJ:=show Hid (∀ j,j<(gM ml k).up.length→∃ qu nu qv nv,∀ W,Kp (fun k=>k=b10) wb W→W.cell? ⟨bu,ou+j,none⟩=some (.slice qu ((gM ml k).up.getD j []).length nu)∧W.cell? ⟨bv,ov+j,none⟩=some (.slice qv (vl (gM ml k) j).length nv)∧IsI W w.heap.size (.slice qu ((gM ml k).up.getD j []).length nu) ((gM ml k).up.getD j [])∧IsN W w.heap.size (.slice qv (vl (gM ml k) j).length nv) (vl (gM ml k) j)) from fun j hj=>by
       obtain ⟨x1,h1,h2⟩:=hatu j hj
       obtain ⟨x2,h3,h4⟩:=hatv j (by rw [HGN.out.2.2.1];exact hj)
       have e1:(gM ml k).up.getD j []=(gM ml k).up[j]:=by rw [List.getD_eq_getElem?_getD,List.getElem?_eq_getElem hj];rfl
       have e2:vl (gM ml k) j=(gM ml k).val[j]'(by rw [HGN.out.2.2.1];exact hj):=vl_at _
       rw [e1,e2]
       obtain ⟨qu,nu,rfl⟩:=IsS.form h2
       obtain ⟨qv,nv,rfl⟩:=IsS.form h4
       refine ⟨qu,nu,qv,nv,fun W hW => ?_⟩
       have hb:=fun k (hk:k<w.heap.size)=>((HBW.out W hW).block k hk).trans (H11.out.2.2.2.2.2.2.block k hk).symm
       exact ⟨(World.cell?_of_block (a:=⟨bu,ou+j,none⟩) (hb bu hbu)).trans h1,(World.cell?_of_block (a:=⟨bv,ov+j,none⟩) (hb bv hbv)).trans h3,h2.keep hb,h4.keep hb⟩
      have HK3:=show Hid (GK wb W11 w.heap.size b10 (.slice pu0 (gN ml k) cu0) (.slice pv0 (gN ml k) cv0) (.slice pp pls.length cp) (gUp ml rs k 0) (gVal ml atoms k 0) pls b16∧Cl W11 b13 #[.slice (some ⟨bu,ou,none⟩) (gM ml k).up.length cx,.slice (some ⟨bv,ov,none⟩) (gM ml k).val.length cy] 25∧Cl W11 b16 #[.int .i64 (gN ml k:Int)] 3) from ⟨H11.out.1,H11.out.2.1,H11.out.2.2.1⟩
      clear hatu hatv hbu hbv H11 hn1
      go_loopw [17,18,57] (fun _ _ i w12=>∃ (j:Nat) (uv2 vv2:Value),j≤(gM ml k).up.length∧i=.int .i64 (j:Int)∧Hid (GK wb w12 w.heap.size b10 uv2 vv2 (.slice pp pls.length cp) (gUp ml rs k j) (gVal ml atoms k j) pls b16∧Cl w12 b13 #[.slice (some ⟨bu,ou,none⟩) (gM ml k).up.length cx,.slice (some ⟨bv,ov,none⟩) (gM ml k).val.length cy] 25∧Cl w12 b16 #[.int .i64 (gN ml k:Int)] 3)) (fun _ _ i _=>(gM ml k).up.length - (intOf i).toNat)
      case atStart=>exact ⟨0,_,_,Nat.zero_le _,rfl,HK3.out⟩
      case round =>
       clear HK3
       obtain ⟨j,uv2,vv2,hj,rfl,HQ⟩:=hrel
       by_cases hjl:j<(gM ml k).up.length
       ·obtain ⟨qu,nu,qv,nv,hrc⟩:=HRJ.out j hjl
        have HRC:=show Hid _ from hrc
        have hjv:j<(gM ml k).val.length:=by rw [HGN.out.2.2.1];exact hjl
        have HST:=show Hid (gUp ml rs k (j+1)=gUp ml rs k j ++ [((gM ml k).up.getD j []).map fun u:Int=>(gN ml k:Int)+u]∧gVal ml atoms k (j+1)=gVal ml atoms k j ++ [vl (gM ml k) j]) from ⟨gUp_step hjl,gVal_step hjv⟩
        have hmem:(gM ml k).up.getD j [] ∈ (gM ml k).up:=by
         rw [List.getD_eq_getElem?_getD,List.getElem?_eq_getElem hjl];exact List.getElem_mem hjl
        have hrw:∀ u ∈ (gM ml k).up.getD j [],0≤u∧u<((gM ml k).up.length:Int):=fun u hu=>by
         have h1:=(Wd.shaped_and (HAG.out _ HGN.out.2.2.2).shape).2.2.2.1 _ hmem
         have h2:inW (gM ml k).up.length u=true:=List.all_eq_true.1 h1 u hu
         unfold inW at h2
         simp only [Bool.and_eq_true,decide_eq_true_eq] at h2
         exact h2
        have KR:=show Hid (∀ W,Below wr.heap.size wr W→Calls Try.prog 31 #[.slice qu ((gM ml k).up.getD j []).length nu,.func (.func 45) #[] #[.pointer (some ⟨b16,0,none⟩)]] W fun e w'=>∃ v',e=.returned v'∧OwnZ W.heap.size w' v' (((gM ml k).up.getD j []).map fun u:Int=>(gN ml k:Int)+u)∧Below W.heap.size W w') from fun W hW=>by
         have hp:=(HQ.out.1.later hW).kp
         exact renumbered_any W (L:=W.heap.size) (Ls:=w.heap.size) (D:=fun u=>0≤u∧u<((gM ml k).up.length:Int)) (g:=fun u=>(gN ml k:Int)+u)
          ⟨45,[.pointer (some ⟨b16,0,none⟩)],rfl,cf_glu1,fun W2 u hW2 hu=>glue1_any W2 ((HQ.out.2.2.later hW).later hW2) (by have:=hu.1;have:=hu.2;omega)⟩
          (HRC.out W hp).2.2.1 hrw (HBW.out W hp).size (Nat.le_refl _) (HF.out.2.2.1 _ HGN.out.2.2.2 _ hmem)
        have HRV:=show Hid (IsN wb w.heap.size (.slice qv (vl (gM ml k) j).length nv) (vl (gM ml k) j)) from (HRC.out wb (Kp.refl _ _)).2.2.2
        have HUL:=show Hid ((gUp ml rs k j).length=gN ml k+j∧(gVal ml atoms k j).length=gN ml k+j) from ⟨gUp_len (by omega),gVal_len (fun k hk=>(HGM.out k hk).2.2) hlt (by omega)⟩
        have cu9:=(HRC.out wr HQ.out.1.kp).1
        have hji:(j:Int)<((gM ml k).up.length:Int):=by omega
        have hjvi:(j:Int)<((gM ml k).val.length:Int):=by omega
        have c139:wr.cell? ⟨b13,0,none⟩=some (.slice (some ⟨bu,ou,none⟩) (gM ml k).up.length cx):=HQ.out.2.1.cell 0
        generalize gUp ml rs k j=up at *
        generalize gVal ml atoms k j=val at *
        obtain ⟨xs,hx1,hx2⟩:=HQ.out.1.up
        obtain ⟨ys0,hy1,-⟩:=HQ.out.1.val
        obtain ⟨pu2,cu2,rfl⟩:=own_form hx1.own
        obtain ⟨pv2,cv2,rfl⟩:=own_form hy1
        have HP:=show Hid (GK wb wr w.heap.size b10 (.slice pu2 up.length cu2) (.slice pv2 val.length cv2) (.slice pp pls.length cp) up val pls b16) from HQ.out.1
        have HC:=show Hid (Cl wr b13 #[.slice (some ⟨bu,ou,none⟩) (gM ml k).up.length cx,.slice (some ⟨bv,ov,none⟩) (gM ml k).val.length cy] 25∧Cl wr b16 #[.int .i64 (gN ml k:Int)] 3) from HQ.out.2
        have HXS:=show Hid (TD wb.heap.size wr (.slice pu2 up.length cu2) up xs∧∀ (i:Nat) (y:Value),xs[i]?=some y→∀ k,y.ownBlock=some k→(Value.slice pp pls.length cp).ownBlock≠some k∧k≠b16) from ⟨hx1,hx2⟩
        have hul:up.length<1+ml.length * 512:=by have:=HUL.out.1;omega
        have hvl:val.length<1+ml.length * 512:=by have:=HUL.out.2;omega
        obtain ⟨i9,hi9,hz90,hz91,hz92⟩:=info_parts infoLI
        obtain ⟨iS,hiS,hzS0,hzS1,hzS2⟩:=info_parts infoLS
        clear hx1 hx2 hy1 HQ hrc hmem hrw
        generalize hrm:((gM ml k).up.getD j []).map (fun u:Int=>(gN ml k:Int)+u)=rm at *
        generalize (gM ml k).up.getD j []=rj at *
        generalize hnr:vl (gM ml k) j=nr at *
        clear hrm hnr
        go_wp2_with fail
        refine wp_region_dep (by kernel_rfl) [some 62,some 63,some 64,some 65,some 66,some 67,some 68,some 69,none] [[],[0],[],[],[2,3],[4],[1,5],[],[7,6]] [[],[0],[],[],[2,3],[4,2,3],[1,0,5,4,2,3],[],[7,6,1,0,5,4,2,3]] (by kernel_rfl) (by decide) (fun zi zv zW=>match zi with | 0=>zv=.pointer (some ⟨b10,0,none⟩) | 1=>zv=(.slice pu2 up.length cu2) | 2=>zv=.slice qu rj.length nu | 3=>zv=.func (.func 45) #[] #[.pointer (some ⟨b16,0,none⟩)] | 4=>(fun x W=>OwnZ wr.heap.size W x rm) zv zW | 5=>NqG b10 27 (.slice pu2 up.length cu2) (fun x W=>OwnZ wr.heap.size W x rm) zv zW | 6=>GwG wr b10 0 wb.heap.size up.length 27 (.slice pu2 up.length cu2) xs (fun x W=>OwnZ wr.heap.size W x rm) zv zW | 7=>zv=.pointer (some ⟨b10,0,none⟩) | 8=>True | _=>True) (SG 6 8 wr b10 0 wb.heap.size up.length 27 #[(.slice pu2 up.length cu2),(.slice pv2 val.length cv2)] (.slice pu2 up.length cu2) xs (fun x W=>OwnZ wr.heap.size W x rm)) (LG 4 5 6 8 b10 0 27 (.slice pu2 up.length cu2)) ?hle ⟨fun _=>(Below.refl _ _).drew,fun _=>HP.out.box,fun h=>(by cases h)⟩ (allLt 9 ?steps) ?fin
        case hle =>
         intro i j v W W' hij hn hl h
         match j,h with
         | 0,h=>exact h
         | 1,h=>exact h
         | 2,h=>exact h
         | 3,h=>exact h
         | 4,h=>exact (fun _ _ _ h ho=>KT.own h (by decide) (by decide) ho) v W W' hl.1 h
         | 5,h=>exact nqG_le (fun _ _ _ h ho=>KT.own h (by decide) (by decide) ho) hl h
         | 6,h=>exact gwG_le (fun e=>hn (by subst e;decide)) (fun e=>hn (by subst e;decide)) hij hl h
         | 7,h=>exact h
         | 8,_=>trivial
         | _+9,_=>trivial
        case steps =>
         refine ⟨⟨⟨⟨⟨⟨⟨⟨⟨trivial,?s0⟩,?s1⟩,?s2⟩,?s3⟩,?s4⟩,?s5⟩,?s6⟩,?s7⟩,?s8⟩
         case s0 =>
          intro done a W hW hd hnd hno hO hN
          have o10:a.tmps[10]?=some (.pointer (some ⟨b10,0,none⟩)):=(hO.out 10 (by decide)).trans rfl
          have hB:=hW.1 (hno 6 (by decide))
          have hCb:=hW.2.1 (hno 8 (by decide))
          exact relVal rfl (.pointer (some ⟨b10,0,none⟩)) _ rfl (by go_simp) ⟨_,rfl,rfl,⟨fun h=>hW.1 (by simpa using h),fun h=>hW.2.1 (by simpa using h),fun h=>hW.2.2 (by simpa using h)⟩,LG.same (by decide) (by decide)⟩
         case s1 =>
          intro done a W hW hd hnd hno hO hN
          obtain ⟨v0,g0,r0⟩:=hN 0 (by decide)
          have g0:a.tmps[62]?=some v0:=g0
          have e0:v0=.pointer (some ⟨b10,0,none⟩):=r0
          rw [e0] at g0
          have hB:=hW.1 (hno 6 (by decide))
          have hCb:=hW.2.1 (hno 8 (by decide))
          have c0:W.cell? ⟨b10,0,none⟩=some ((.slice pu2 up.length cu2)):=Cl.cell hCb 0
          exact relVal rfl ((.slice pu2 up.length cu2)) _ rfl (by go_simp) ⟨_,rfl,rfl,⟨fun h=>hW.1 (by simpa using h),fun h=>hW.2.1 (by simpa using h),fun h=>hW.2.2 (by simpa using h)⟩,LG.same (by decide) (by decide)⟩
         case s2 =>
          intro done a W hW hd hnd hno hO hN
          have o18:a.tmps[18]?=some (.slice qu rj.length nu):=(hO.out 18 (by decide)).trans rfl
          have hB:=hW.1 (hno 6 (by decide))
          have hCb:=hW.2.1 (hno 8 (by decide))
          exact relVal rfl (.slice qu rj.length nu) _ rfl (by go_simp) ⟨_,rfl,rfl,⟨fun h=>hW.1 (by simpa using h),fun h=>hW.2.1 (by simpa using h),fun h=>hW.2.2 (by simpa using h)⟩,LG.same (by decide) (by decide)⟩
         case s3 =>
          intro done a W hW hd hnd hno hO hN
          have o16:a.tmps[16]?=some (.pointer (some ⟨b16,0,none⟩)):=(hO.out 16 (by decide)).trans rfl
          have hB:=hW.1 (hno 6 (by decide))
          have hCb:=hW.2.1 (hno 8 (by decide))
          exact relVal rfl (.func (.func 45) #[] #[.pointer (some ⟨b16,0,none⟩)]) _ rfl (by go_simp) ⟨_,rfl,rfl,⟨fun h=>hW.1 (by simpa using h),fun h=>hW.2.1 (by simpa using h),fun h=>hW.2.2 (by simpa using h)⟩,LG.same (by decide) (by decide)⟩
         case s4 =>
          intro done a W hW hd hnd hno hO hN
          obtain ⟨v2,g2,r2⟩:=hN 2 (by decide)
          have g2:a.tmps[64]?=some v2:=g2
          have e2:v2=.slice qu rj.length nu:=r2
          rw [e2] at g2
          obtain ⟨v3,g3,r3⟩:=hN 3 (by decide)
          have g3:a.tmps[65]?=some v3:=g3
          have e3:v3=.func (.func 45) #[] #[.pointer (some ⟨b16,0,none⟩)]:=r3
          rw [e3] at g3
          have hB:=hW.1 (hno 6 (by decide))
          have hCb:=hW.2.1 (hno 8 (by decide))
          refine relCallF rfl rfl 31 [.tmp 64,.tmp 65] #[27,65] rfl [.slice qu rj.length nu,.func (.func 45) #[] #[.pointer (some ⟨b16,0,none⟩)]] (by simp [Act.eval,g2,g3]) (fun _ _=>by kernel_rfl) (Calls.mono (KR.out W hB) ?_)
          rintro e W2 ⟨v',rfl,h1,hb2⟩
          exact ⟨_,rfl,v',rfl,own_base h1 hB.size,⟨fun _=>hB.trans ((hb2).mono hB.size),fun _=>Cl.later (hW.2.1 (hno 8 (by decide))) (hb2),fun h=>absurd (h.symm.trans (by simpa using hno 8 (by decide))) (by decide)⟩,LG.made (by decide) (by decide) (Or.inl rfl) hb2⟩
         case s5 =>
          intro done a W hW hd hnd hno hO hN
          obtain ⟨v4,g4,r4⟩:=hN 4 (by decide)
          have g4:a.tmps[66]?=some v4:=g4
          have hB:=hW.1 (hno 6 (by decide))
          have hCb:=hW.2.1 (hno 8 (by decide))
          have r4:OwnZ wr.heap.size W v4 rm:=r4
          obtain ⟨pq,cq,ex⟩:=OwnZ.slice r4
          rw [ex] at g4 r4
          have hbs:=bsLI W pq rm.length cq
          exact relVal rfl (.slice (some ⟨W.heap.size,0,none⟩) 1 1) (W.alloc (.cells #[(.slice pq rm.length cq)] 27)) rfl (by simp [execOp,Act.eval,g4,hbs,Result.andThen]) ⟨_,rfl,⟨W.heap.size,(.slice pq rm.length cq),rfl,fun e=>by have:=Cl.lt hCb;omega,fun e=>by have:=(own_blk (own_later (HXS.out.1.own) hB) e).2.1;omega,heap_alloc_new _ _,own_later r4 (below_alloc W _),rfl⟩,⟨fun _=>hB.trans ((below_alloc W _).mono hB.size),fun _=>Cl.later (hW.2.1 (hno 8 (by decide))) (below_alloc W _),fun h=>absurd (h.symm.trans (by simpa using hno 8 (by decide))) (by decide)⟩,LG.made (by decide) (by decide) (Or.inr rfl) (below_alloc W _)⟩
         case s6 =>
          intro done a W hW hd hnd hno hO hN
          obtain ⟨v1,g1,r1⟩:=hN 1 (by decide)
          have g1:a.tmps[63]?=some v1:=g1
          have e1:v1=(.slice pu2 up.length cu2):=r1
          rw [e1] at g1
          obtain ⟨v5,g5,r5⟩:=hN 5 (by decide)
          have g5:a.tmps[67]?=some v5:=g5
          have hCb:=hW.2.1 (hno 8 (by decide))
          have hB:=hW.1 hd
          obtain ⟨q,x,e5,hqb,hqV,hcq,hpx,hox⟩:=r5
          rw [e5] at g5
          have hrow:=own_later (HXS.out.1.own) hB
          obtain ⟨v',W2,hrun,ho',hgr,_,hblk⟩:=run_append_own_at (P:=Try.prog) (w:=W) (wb.heap.size) 22 22 27 i9 (.slice none 0 0) 1 24 Try.underlying22 hi9 hz90 hz91 hz92 rfl (by decide) _ _ _ hrow ⟨q,0,none⟩ 1 1 [x] rfl (cell_one (hcq.cell 0)) (by intro u hu;simp at hu;subst hu;exact hox) (by unfold maxLen;omega) (by omega) (Nat.le_trans (HP.out.kp.size) hB.size)
          exact relVal rfl v' W2 rfl (by simp [execOp,Act.eval,resolve,invoke,builtin,g1,g5,hrun,Result.andThen]) ⟨_,rfl,⟨x,W,W2,hB,hpx,hgr,ho',Or.inl rfl⟩,⟨fun h=>(by simp at h),fun _=>box_int (hW.2.1 (hno 8 (by decide))) hrow (by decide) hgr,fun h=>absurd (h.symm.trans (by simpa using hno 8 (by decide))) (by decide)⟩,LG.grew (by decide) hrow hgr⟩
         case s7 =>
          intro done a W hW hd hnd hno hO hN
          have o10:a.tmps[10]?=some (.pointer (some ⟨b10,0,none⟩)):=(hO.out 10 (by decide)).trans rfl
          have hCb:=hW.2.1 (hno 8 (by decide))
          exact relVal rfl (.pointer (some ⟨b10,0,none⟩)) _ rfl (by go_simp) ⟨_,rfl,rfl,⟨fun h=>hW.1 (by simpa using h),fun h=>hW.2.1 (by simpa using h),fun h=>hW.2.2 (by simpa using h)⟩,LG.same (by decide) (by decide)⟩
         case s8 =>
          intro done a W hW hd hnd hno hO hN
          obtain ⟨v7,g7,r7⟩:=hN 7 (by decide)
          have g7:a.tmps[69]?=some v7:=g7
          have e7:v7=.pointer (some ⟨b10,0,none⟩):=r7
          rw [e7] at g7
          obtain ⟨v6,g6,r6⟩:=hN 6 (by decide)
          have g6:a.tmps[68]?=some v6:=g6
          have hcl:=hW.2.1 hd
          obtain ⟨x,W1,W2,hb1,hpx,hg,ho,hor⟩:=r6
          have cG:W.cell? ⟨b10,0,none⟩=some ((.slice pu2 up.length cu2)):=Cl.cell hcl 0
          have fG:W.frozen? ⟨b10,0,none⟩=false:=Cl.fr hcl 0
          rcases hor with rfl | hne
          ·obtain ⟨pp,np,e8⟩:=own_form ho
           rw [e8] at g6
           have hlen:v6≠(.slice pu2 up.length cu2):=fun e=>by
            obtain ⟨p0,c0,e0⟩:=own_form (HXS.out.1.own)
            rw [e8,e0] at e
            have h9:up.length+1=up.length:=(Value.slice.inj e).2.1
            omega
           refine relSkip rfl (W.setCell ⟨b10,0,none⟩ (.slice pp (up.length+1) np)) rfl (by go_simp) ⟨.bool true,rfl,trivial,⟨fun h=>absurd ((hnd 6 (by decide)).symm.trans (by simpa using h)) (by decide),fun h=>(by simp at h),fun _=>⟨x,v6,W1,W,hb1,hpx,hg,ho,by rw [e8]⟩⟩,⟨KT.of_set hcl,fun h=>absurd h (by decide),fun _=>⟨fun h => ?_,fun b' hb'=>Below.heap_setCell _ ⟨b10,0,none⟩ _ b' hb'⟩,fun _ h=>absurd rfl h,fun _ _ _ h=>absurd rfl h⟩⟩
           have h0:=show Cl (W.setCell ⟨b10,0,none⟩ (.slice pp (up.length+1) np)) b10 _ 25 from heap_setCell_same W b10 0 _ _ _ hcl
           have h1:(W.setCell ⟨b10,0,none⟩ (.slice pp (up.length+1) np)).cell? ⟨b10,0,none⟩=some (.slice pp (up.length+1) np):=(Cl.cell h0 0).trans rfl
           rw [h1] at h
           exact hlen (e8.trans (Option.some.inj h))
          ·exact absurd cG hne
        case fin =>
         intro vs done w14 hdone hS hV
         have hF:=hS.2.2 (hdone 8 (by decide))
         obtain ⟨u',hPT⟩:=HP.out.upS HXS.out.1 HXS.out.2 hF
         have HP9:=show Hid (GK wb w14 w.heap.size b10 u' (.slice pv2 val.length cv2) (.slice pp pls.length cp) (up ++ [rm]) val pls b16) from hPT
         have HC9:=show Hid (Cl w14 b13 #[.slice (some ⟨bu,ou,none⟩) (gM ml k).up.length cx,.slice (some ⟨bv,ov,none⟩) (gM ml k).val.length cy] 25∧Cl w14 b16 #[.int .i64 (gN ml k:Int)] 3) from ⟨finG_cl hF HXS.out.1.own HC.out.1 (by decide) HB13.out.1,finG_cl hF HXS.out.1.own HC.out.2 (by decide) HB13.out.2.1⟩
         simp only [putAll,Act.put,List.setIfInBounds_toArray,List.set_cons_zero,List.set_cons_succ,Nat.reduceAdd]
         clear hV hS hF hPT HXS HP KR HC
         obtain ⟨ys,hy1,hy2⟩:=HP9.out.val
         have HYS:=show Hid (w14.ownsRow wb.heap.size 34 1 (.slice pv2 val.length cv2) val.length ys∧∀ (i:Nat) (hi:i<val.length),∃ x,ys[i]?=some x∧IsN wb w.heap.size x val[i]) from ⟨hy1,hy2⟩
         clear hy1 hy2
         go_wp2_with fail
         refine wp_region_dep (by kernel_rfl) [some 70,some 71,some 72,some 73,some 74,some 75,some 76,some 77,some 78,some 79,none] [[],[0],[],[2],[],[3,4],[5],[6],[1,7],[],[9,8]] [[],[0],[],[2],[],[3,2,4],[5,3,2,4],[6,5,3,2,4],[1,0,7,6,5,3,2,4],[],[9,8,1,0,7,6,5,3,2,4]] (by kernel_rfl) (by decide) (fun zi zv zW=>match zi with | 0=>zv=.pointer (some ⟨b10,1,none⟩) | 1=>zv=(.slice pv2 val.length cv2) | 2=>zv=.pointer (some ⟨b13,1,none⟩) | 3=>zv=.slice (some ⟨bv,ov,none⟩) (gM ml k).val.length cy | 4=>zv=.int .i64 (j:Int) | 5=>zv=.pointer (some ⟨bv,ov+j,none⟩) | 6=>zv=.slice qv nr.length nv | 7=>NqG b10 34 (.slice pv2 val.length cv2) (fun x _=>x=.slice qv nr.length nv) zv zW | 8=>GwG w14 b10 1 wb.heap.size val.length 34 (.slice pv2 val.length cv2) ys (fun x _=>x=.slice qv nr.length nv) zv zW | 9=>zv=.pointer (some ⟨b10,1,none⟩) | 10=>True | _=>True) (SG 8 10 w14 b10 1 wb.heap.size val.length 34 #[u',(.slice pv2 val.length cv2)] (.slice pv2 val.length cv2) ys (fun x _=>x=.slice qv nr.length nv)) (LG 6 7 8 10 b10 1 34 (.slice pv2 val.length cv2)) ?hle ⟨fun _=>(Below.refl _ _).drew,fun _=>HP9.out.box,fun h=>(by cases h)⟩ (allLt 11 ?steps) ?fin
         case hle =>
          intro i j v W W' hij hn hl h
          match j,h with
          | 0,h=>exact h
          | 1,h=>exact h
          | 2,h=>exact h
          | 3,h=>exact h
          | 4,h=>exact h
          | 5,h=>exact h
          | 6,h=>exact h
          | 7,h=>exact nqG_le (fun _ _ _ _ h=>h) hl h
          | 8,h=>exact gwG_le (fun e=>hn (by subst e;decide)) (fun e=>hn (by subst e;decide)) hij hl h
          | 9,h=>exact h
          | 10,_=>trivial
          | _+11,_=>trivial
         case steps =>
          refine ⟨⟨⟨⟨⟨⟨⟨⟨⟨⟨⟨trivial,?s0⟩,?s1⟩,?s2⟩,?s3⟩,?s4⟩,?s5⟩,?s6⟩,?s7⟩,?s8⟩,?s9⟩,?s10⟩
          case s0 =>
           intro done a W hW hd hnd hno hO hN
           have o10:a.tmps[10]?=some (.pointer (some ⟨b10,0,none⟩)):=(hO.out 10 (by decide)).trans rfl
           have hB:=hW.1 (hno 8 (by decide))
           have hCb:=hW.2.1 (hno 10 (by decide))
           exact relVal rfl (.pointer (some ⟨b10,1,none⟩)) _ rfl (by go_simp) ⟨_,rfl,rfl,⟨fun h=>hW.1 (by simpa using h),fun h=>hW.2.1 (by simpa using h),fun h=>hW.2.2 (by simpa using h)⟩,LG.same (by decide) (by decide)⟩
          case s1 =>
           intro done a W hW hd hnd hno hO hN
           obtain ⟨v0,g0,r0⟩:=hN 0 (by decide)
           have g0:a.tmps[70]?=some v0:=g0
           have e0:v0=.pointer (some ⟨b10,1,none⟩):=r0
           rw [e0] at g0
           have hB:=hW.1 (hno 8 (by decide))
           have hCb:=hW.2.1 (hno 10 (by decide))
           have c0:W.cell? ⟨b10,1,none⟩=some ((.slice pv2 val.length cv2)):=Cl.cell hCb 1
           exact relVal rfl ((.slice pv2 val.length cv2)) _ rfl (by go_simp) ⟨_,rfl,rfl,⟨fun h=>hW.1 (by simpa using h),fun h=>hW.2.1 (by simpa using h),fun h=>hW.2.2 (by simpa using h)⟩,LG.same (by decide) (by decide)⟩
          case s2 =>
           intro done a W hW hd hnd hno hO hN
           have o13:a.tmps[13]?=some (.pointer (some ⟨b13,0,none⟩)):=(hO.out 13 (by decide)).trans rfl
           have hB:=hW.1 (hno 8 (by decide))
           have hCb:=hW.2.1 (hno 10 (by decide))
           exact relVal rfl (.pointer (some ⟨b13,1,none⟩)) _ rfl (by go_simp) ⟨_,rfl,rfl,⟨fun h=>hW.1 (by simpa using h),fun h=>hW.2.1 (by simpa using h),fun h=>hW.2.2 (by simpa using h)⟩,LG.same (by decide) (by decide)⟩
          case s3 =>
           intro done a W hW hd hnd hno hO hN
           obtain ⟨v2,g2,r2⟩:=hN 2 (by decide)
           have g2:a.tmps[72]?=some v2:=g2
           have e2:v2=.pointer (some ⟨b13,1,none⟩):=r2
           rw [e2] at g2
           have hB:=hW.1 (hno 8 (by decide))
           have hCb:=hW.2.1 (hno 10 (by decide))
           have c0:W.cell? ⟨b13,1,none⟩=some (.slice (some ⟨bv,ov,none⟩) (gM ml k).val.length cy):=(HC9.out.1.later hB).cell 1
           exact relVal rfl (.slice (some ⟨bv,ov,none⟩) (gM ml k).val.length cy) _ rfl (by go_simp) ⟨_,rfl,rfl,⟨fun h=>hW.1 (by simpa using h),fun h=>hW.2.1 (by simpa using h),fun h=>hW.2.2 (by simpa using h)⟩,LG.same (by decide) (by decide)⟩
          case s4 =>
           intro done a W hW hd hnd hno hO hN
           have o17:a.tmps[17]?=some (.int .i64 (j:Int)):=(hO.out 17 (by decide)).trans rfl
           have hB:=hW.1 (hno 8 (by decide))
           have hCb:=hW.2.1 (hno 10 (by decide))
           exact relVal rfl (.int .i64 (j:Int)) _ rfl (by go_simp) ⟨_,rfl,rfl,⟨fun h=>hW.1 (by simpa using h),fun h=>hW.2.1 (by simpa using h),fun h=>hW.2.2 (by simpa using h)⟩,LG.same (by decide) (by decide)⟩
          case s5 =>
           intro done a W hW hd hnd hno hO hN
           obtain ⟨v3,g3,r3⟩:=hN 3 (by decide)
           have g3:a.tmps[73]?=some v3:=g3
           have e3:v3=.slice (some ⟨bv,ov,none⟩) (gM ml k).val.length cy:=r3
           rw [e3] at g3
           obtain ⟨v4,g4,r4⟩:=hN 4 (by decide)
           have g4:a.tmps[74]?=some v4:=g4
           have e4:v4=.int .i64 (j:Int):=r4
           rw [e4] at g4
           have hB:=hW.1 (hno 8 (by decide))
           have hCb:=hW.2.1 (hno 10 (by decide))
           exact relVal rfl (.pointer (some ⟨bv,ov+j,none⟩)) _ rfl (by go_simp) ⟨_,rfl,rfl,⟨fun h=>hW.1 (by simpa using h),fun h=>hW.2.1 (by simpa using h),fun h=>hW.2.2 (by simpa using h)⟩,LG.same (by decide) (by decide)⟩
          case s6 =>
           intro done a W hW hd hnd hno hO hN
           obtain ⟨v5,g5,r5⟩:=hN 5 (by decide)
           have g5:a.tmps[75]?=some v5:=g5
           have e5:v5=.pointer (some ⟨bv,ov+j,none⟩):=r5
           rw [e5] at g5
           have hB:=hW.1 (hno 8 (by decide))
           have hCb:=hW.2.1 (hno 10 (by decide))
           have c0:=(HRC.out W (HP9.out.later hB).kp).2.1
           exact relVal rfl (.slice qv nr.length nv) _ rfl (by go_simp) ⟨_,rfl,rfl,⟨fun h=>hW.1 (by simpa using h),fun h=>hW.2.1 (by simpa using h),fun h=>hW.2.2 (by simpa using h)⟩,LG.same (by decide) (by decide)⟩
          case s7 =>
           intro done a W hW hd hnd hno hO hN
           obtain ⟨v6,g6,r6⟩:=hN 6 (by decide)
           have g6:a.tmps[76]?=some v6:=g6
           have e6:v6=.slice qv nr.length nv:=r6
           rw [e6] at g6
           have hB:=hW.1 (hno 8 (by decide))
           have hCb:=hW.2.1 (hno 10 (by decide))
           have hbs:=bsLS W qv nr.length nv
           exact relVal rfl (.slice (some ⟨W.heap.size,0,none⟩) 1 1) (W.alloc (.cells #[(.slice qv nr.length nv)] 34)) rfl (by simp [execOp,Act.eval,g6,hbs,Result.andThen]) ⟨_,rfl,⟨W.heap.size,(.slice qv nr.length nv),rfl,fun e=>by have:=Cl.lt hCb;omega,fun e=>by have:=(own_blk (own_later (HYS.out.1) hB) e).2.1;omega,heap_alloc_new _ _,rfl,rfl⟩,⟨fun _=>hB.trans ((below_alloc W _).mono hB.size),fun _=>Cl.later (hW.2.1 (hno 10 (by decide))) (below_alloc W _),fun h=>absurd (h.symm.trans (by simpa using hno 10 (by decide))) (by decide)⟩,LG.made (by decide) (by decide) (Or.inr rfl) (below_alloc W _)⟩
          case s8 =>
           intro done a W hW hd hnd hno hO hN
           obtain ⟨v1,g1,r1⟩:=hN 1 (by decide)
           have g1:a.tmps[71]?=some v1:=g1
           have e1:v1=(.slice pv2 val.length cv2):=r1
           rw [e1] at g1
           obtain ⟨v7,g7,r7⟩:=hN 7 (by decide)
           have g7:a.tmps[77]?=some v7:=g7
           have hCb:=hW.2.1 (hno 10 (by decide))
           have hB:=hW.1 hd
           obtain ⟨q,x,e7,hqb,hqV,hcq,hpx,hox⟩:=r7
           rw [e7] at g7
           have hrow:=own_later (HYS.out.1) hB
           obtain ⟨v',W2,hrun,ho',hgr,_,hblk⟩:=run_append_own_at (P:=Try.prog) (w:=W) (wb.heap.size) 23 23 34 iS (.slice none 0 0) 1 24 Try.underlying23 hiS hzS0 hzS1 hzS2 rfl (by decide) _ _ _ hrow ⟨q,0,none⟩ 1 1 [x] rfl (cell_one (hcq.cell 0)) (by intro u hu;simp at hu;subst hu;exact hox) (by unfold maxLen;omega) (by omega) (Nat.le_trans (HP9.out.kp.size) hB.size)
           exact relVal rfl v' W2 rfl (by simp [execOp,Act.eval,resolve,invoke,builtin,g1,g7,hrun,Result.andThen]) ⟨_,rfl,⟨x,W,W2,hB,hpx,hgr,ho',Or.inl rfl⟩,⟨fun h=>(by simp at h),fun _=>box_int (hW.2.1 (hno 10 (by decide))) hrow (by decide) hgr,fun h=>absurd (h.symm.trans (by simpa using hno 10 (by decide))) (by decide)⟩,LG.grew (by decide) hrow hgr⟩
          case s9 =>
           intro done a W hW hd hnd hno hO hN
           have o10:a.tmps[10]?=some (.pointer (some ⟨b10,0,none⟩)):=(hO.out 10 (by decide)).trans rfl
           have hCb:=hW.2.1 (hno 10 (by decide))
           exact relVal rfl (.pointer (some ⟨b10,1,none⟩)) _ rfl (by go_simp) ⟨_,rfl,rfl,⟨fun h=>hW.1 (by simpa using h),fun h=>hW.2.1 (by simpa using h),fun h=>hW.2.2 (by simpa using h)⟩,LG.same (by decide) (by decide)⟩
          case s10 =>
           intro done a W hW hd hnd hno hO hN
           obtain ⟨v9,g9,r9⟩:=hN 9 (by decide)
           have g9:a.tmps[79]?=some v9:=g9
           have e9:v9=.pointer (some ⟨b10,1,none⟩):=r9
           rw [e9] at g9
           obtain ⟨v8,g8,r8⟩:=hN 8 (by decide)
           have g8:a.tmps[78]?=some v8:=g8
           have hcl:=hW.2.1 hd
           obtain ⟨x,W1,W2,hb1,hpx,hg,ho,hor⟩:=r8
           have cG:W.cell? ⟨b10,1,none⟩=some ((.slice pv2 val.length cv2)):=Cl.cell hcl 1
           have fG:W.frozen? ⟨b10,1,none⟩=false:=Cl.fr hcl 1
           rcases hor with rfl | hne
           ·obtain ⟨pp,np,e8⟩:=own_form ho
            rw [e8] at g8
            have hlen:v8≠(.slice pv2 val.length cv2):=fun e=>by
             obtain ⟨p0,c0,e0⟩:=own_form (HYS.out.1)
             rw [e8,e0] at e
             have h9:val.length+1=val.length:=(Value.slice.inj e).2.1
             omega
            refine relSkip rfl (W.setCell ⟨b10,1,none⟩ (.slice pp (val.length+1) np)) rfl (by go_simp) ⟨.bool true,rfl,trivial,⟨fun h=>absurd ((hnd 8 (by decide)).symm.trans (by simpa using h)) (by decide),fun h=>(by simp at h),fun _=>⟨x,v8,W1,W,hb1,hpx,hg,ho,by rw [e8]⟩⟩,⟨KT.of_set hcl,fun h=>absurd h (by decide),fun _=>⟨fun h => ?_,fun b' hb'=>Below.heap_setCell _ ⟨b10,1,none⟩ _ b' hb'⟩,fun _ h=>absurd rfl h,fun _ _ _ h=>absurd rfl h⟩⟩
            have h0:=show Cl (W.setCell ⟨b10,1,none⟩ (.slice pp (val.length+1) np)) b10 _ 25 from heap_setCell_same W b10 1 _ _ _ hcl
            have h1:(W.setCell ⟨b10,1,none⟩ (.slice pp (val.length+1) np)).cell? ⟨b10,1,none⟩=some (.slice pp (val.length+1) np):=(Cl.cell h0 1).trans rfl
            rw [h1] at h
            exact hlen (e8.trans (Option.some.inj h))
           ·exact absurd cG hne
         case fin =>
          intro vs done w15 hdone hS hV
          have hF:=hS.2.2 (hdone 10 (by decide))
          obtain ⟨v'',hPT⟩:=HP9.out.valS HYS.out.1 HYS.out.2 HRV.out hF
          have HPX:=show Hid (GK wb w15 w.heap.size b10 u' v'' (.slice pp pls.length cp) (gUp ml rs k (j+1)) (gVal ml atoms k (j+1)) pls b16∧Cl w15 b13 #[.slice (some ⟨bu,ou,none⟩) (gM ml k).up.length cx,.slice (some ⟨bv,ov,none⟩) (gM ml k).val.length cy] 25∧Cl w15 b16 #[.int .i64 (gN ml k:Int)] 3) from by
           rw [HST.out.1,HST.out.2]
           exact ⟨hPT,finG_cl hF HYS.out.1 HC9.out.1 (by decide) HB13.out.1,finG_cl hF HYS.out.1 HC9.out.2 (by decide) HB13.out.2.1⟩
          simp only [putAll,Act.put,List.setIfInBounds_toArray,List.set_cons_zero,List.set_cons_succ,Nat.reduceAdd]
          clear hV hS hF hPT HYS HP9
          go_wp2_with fail
          go_roundw
          case rel=>exact ⟨j+1,_,_,by omega,val_int (by omega),HPX.out⟩
          case measure=>(simp only [intOf];omega)
       ·obtain rfl:j=(gM ml k).up.length:=by omega
        have hji:¬ ((gM ml k).up.length:Int)<((gM ml k).up.length:Int):=by omega
        have HST:=show Hid (gUp ml (upd rs k r0) (k+1) 0=(gUp ml rs k (gM ml k).up.length).set 0 (gRow0 ml rs k ++ [(gN ml k:Int)+(r0:Int)])∧gVal ml atoms (k+1) 0=gVal ml atoms k (gM ml k).up.length∧(gUp ml rs k (gM ml k).up.length)[0]?=some (gRow0 ml rs k)) from by
         refine ⟨?_,gVal_next k HGN.out.2.2.1,rfl⟩
         have e1:gRow0 ml (upd rs k r0) k=gRow0 ml rs k:=gRow0_congr fun i hi=>Wd.upd_other _ _ _ (by omega)
         have e2:=gUp_next (ml:=ml) (rs:=upd rs k r0) k
         rw [e1,Wd.upd_same] at e2
         rw [e2]
         unfold gUp
         rw [List.set_cons_zero,List.set_cons_zero,Int.natCast_add]
        have HUL:=show Hid ((gUp ml rs k (gM ml k).up.length).length=gN ml k+(gM ml k).up.length∧(gRow0 ml rs k).length=k) from ⟨gUp_len (Nat.le_refl _),by simp [gRow0]⟩
        have HRS2:=show Hid (∀ j,j<k+1→∃ M,IsO (gM ml j).up M∧RootR M (gM ml j) ((upd rs k r0 j:Nat):Int) true) from fun j hj=>by
         by_cases e:j=k
         ·subst e
          rw [Wd.upd_same]
          exact ⟨M,HO.out,HRO.out⟩
         ·rw [Wd.upd_other _ _ _ e]
          exact HRS.out j (by omega)
        have hr0:=HRR.out
        generalize gUp ml rs k (gM ml k).up.length=up at *
        generalize gVal ml atoms k (gM ml k).up.length=val at *
        generalize gRow0 ml rs k=r0w at *
        have HCL:=show Hid (0<up.length) from by have:=HUL.out.1;show 0<up.length;rw [this];have h9:=HRR.out;omega
        obtain ⟨xs,hx1,hx2⟩:=HQ.out.1.up
        obtain ⟨x0,hx0,hxo⟩:=hx1.row 0 HCL.out
        obtain ⟨G,cap,eG,hGl,hGc⟩:∃ G cap,uv2=.slice (some ⟨G,0,none⟩) up.length cap∧G<wr.heap.size∧wr.cell? ⟨G,0,none⟩=some x0:=by
         rcases hx1.own.2 with ⟨_,h0⟩ | ⟨g,cap,cur,e,_,hh,_⟩
         ·have:=HCL.out;omega
         ·have hc9:=hx1.own
          rw [e] at hc9
          have h9:=hc9.cellAt 0 (by have:=HCL.out;omega)
          exact ⟨g,cap,e,lt_of_block hh,h9.trans hx0⟩
        subst eG
        have e0:up[0]'HCL.out=r0w:=by
         have h1:=HST.out.2.2
         rw [List.getElem?_eq_getElem HCL.out] at h1
         exact Option.some.inj h1
        rw [e0] at hxo
        have H12:=show Hid (GK wb wr w.heap.size b10 (.slice (some ⟨G,0,none⟩) up.length cap) vv2 (.slice pp pls.length cp) up val pls b16∧TD wb.heap.size wr (.slice (some ⟨G,0,none⟩) up.length cap) up xs∧xs[0]?=some x0∧OwnZ wb.heap.size wr x0 r0w∧G<wr.heap.size∧wr.cell? ⟨G,0,none⟩=some x0∧(∀ (i:Nat) (y:Value),xs[i]?=some y→∀ k,y.ownBlock=some k→(Value.slice pp pls.length cp).ownBlock≠some k∧k≠b16)∧Cl wr b16 #[.int .i64 (gN ml k:Int)] 3∧up[0]'HCL.out=r0w∧b16<wr.heap.size) from ⟨HQ.out.1,hx1,hx0,hxo,hGl,hGc,hx2,HQ.out.2.2,e0,HQ.out.2.2.lt⟩
        have H13:=show Hid (x0.ownBlock≠some G∧x0.ownBlock≠some b10∧x0.ownBlock≠some b16∧wr.frozen? ⟨G,0,none⟩=false∧b16≠G∧b10<wr.heap.size∧∀ k,x0.ownBlock=some k→k<wr.heap.size) from by
         obtain ⟨_,_,cur,hcur⟩:=own_blk hx1.own (k:=G) rfl
         refine ⟨fun e => ?_,fun e => ?_,fun e=>(hx2 0 x0 hx0 b16 e).2 rfl,frozen_of_row wr G 0 _ _ hcur,fun e => ?_,HQ.out.1.box.lt,fun k hk=>(own_blk hxo hk).2.1⟩
         ·obtain ⟨_,_,cur2,hc2⟩:=own_blk hxo e
          have h8:=hcur.symm.trans hc2
          injection h8 with h7
          injection h7 with _ h6
          exact absurd h6 (by decide)
         ·obtain ⟨_,_,cur2,hc2⟩:=own_blk hxo e
          have h8:=(show wr.heap[b10]?=_ from HQ.out.1.box).symm.trans hc2
          injection h8 with h7
          injection h7 with _ h6
          exact absurd h6 (by decide)
         ·have h8:=show wr.heap[b16]?=_ from HQ.out.2.2
          rw [e] at h8
          have h9:=h8.symm.trans hcur
          injection h9 with h7
          injection h7 with _ h6
          exact absurd h6 (by decide)
        obtain ⟨px0,cx0,ex0⟩:=OwnZ.slice hxo
        subst ex0
        have hup0:0<up.length:=HCL.out
        have hupi:(0:Int)<(up.length:Int):=by omega
        have hrl:r0w.length≤100000000000000:=by have:=HUL.out.2;omega
        have hadd:IntKind.i64.wrap ((gN ml k:Int)+(r0:Int))=(gN ml k:Int)+(r0:Int):=by rw [IntKind.wrap_i64];omega
        clear hx1 hx2 hx0 hxo hGl hGc e0 HQ HRJ
        go_wp2_with fail
        refine wp_region_dep (by kernel_rfl) [some 81,some 82,some 83,some 84,some 85,some 86,some 87,some 88,some 89,some 90,some 91,some 92,none] [[],[0],[],[2],[3],[4],[],[],[6,7],[8],[5,9],[1],[11,10]] [[],[0],[],[2],[3,2],[4,3,2],[],[],[6,7],[8,6,7],[5,4,3,2,9,8,6,7],[1,0],[11,1,0,10,5,4,3,2,9,8,6,7]] (by kernel_rfl) (by decide) (fun zi zv zW=>match zi with | 0=>zv=.pointer (some ⟨b10,0,none⟩) | 1=>zv=.slice (some ⟨G,0,none⟩) up.length cap | 2=>zv=.pointer (some ⟨b10,0,none⟩) | 3=>zv=.slice (some ⟨G,0,none⟩) up.length cap | 4=>zv=.pointer (some ⟨G,0,none⟩) | 5=>zv=(.slice px0 r0w.length cx0) | 6=>zv=.int .i64 (gN ml k:Int) | 7=>zv=.int .i64 (r0:Int) | 8=>zv=.int .i64 ((gN ml k:Int)+(r0:Int)) | 9=>OwnZ wr.heap.size zW zv [(gN ml k:Int)+(r0:Int)] | 10=>GwJ wr G wb.heap.size (.slice px0 r0w.length cx0) (r0w ++ [(gN ml k:Int)+(r0:Int)]) zv zW | 11=>zv=.pointer (some ⟨G,0,none⟩) | 12=>True | _=>True) (SJ 10 12 wr G 0 wb.heap.size (.slice px0 r0w.length cx0) (r0w ++ [(gN ml k:Int)+(r0:Int)])) (LJ2 9 10 12 G (.slice px0 r0w.length cx0)) ?hle ⟨fun _=>(Below.refl _ _).drew,fun _ _ _ _=>rfl,fun h=>(by cases h)⟩ (allLt 13 ?steps) ?fin
        case hle =>
         intro i j v W W' hij hn hl h
         match j,h with
         | 0,h=>exact h
         | 1,h=>exact h
         | 2,h=>exact h
         | 3,h=>exact h
         | 4,h=>exact h
         | 5,h=>exact h
         | 6,h=>exact h
         | 7,h=>exact h
         | 8,h=>exact h
         | 9,h=>exact nqJ_le hij (H12.out.2.2.2.2.1) (H13.out.2.2.2.2.2.2) hl h
         | 10,h=>exact gwJ_le2 (fun e=>hn (by subst e;decide)) hij hl h
         | 11,h=>exact h
         | 12,_=>trivial
         | _+13,_=>trivial
        case steps =>
         refine ⟨⟨⟨⟨⟨⟨⟨⟨⟨⟨⟨⟨⟨trivial,?s0⟩,?s1⟩,?s2⟩,?s3⟩,?s4⟩,?s5⟩,?s6⟩,?s7⟩,?s8⟩,?s9⟩,?s10⟩,?s11⟩,?s12⟩
         case s0 =>
          intro done a W hW hd hnd hno hO hN
          have o10:a.tmps[10]?=some (.pointer (some ⟨b10,0,none⟩)):=(hO.out 10 (by decide)).trans rfl
          have hK:=hW.2.1 (hno 12 (by decide))
          exact relVal rfl (.pointer (some ⟨b10,0,none⟩)) _ rfl (by go_simp) ⟨_,rfl,rfl,⟨fun h=>hW.1 (by simpa using h),fun h=>hW.2.1 (by simpa using h),fun h=>hW.2.2 (by simpa using h)⟩,LJ2.same (by decide) (by decide) (by decide)⟩
         case s1 =>
          intro done a W hW hd hnd hno hO hN
          obtain ⟨v0,g0,r0⟩:=hN 0 (by decide)
          have g0:a.tmps[81]?=some v0:=g0
          have e0:v0=.pointer (some ⟨b10,0,none⟩):=r0
          rw [e0] at g0
          have hK:=hW.2.1 (hno 12 (by decide))
          have c0:W.cell? ⟨b10,0,none⟩=some (.slice (some ⟨G,0,none⟩) up.length cap):=(World.cell?_of_block (a:=⟨b10,0,none⟩) (hK b10 H13.out.2.2.2.2.2.1 H13.out.2.1)).trans (H12.out.1.box.cell 0)
          exact relVal rfl (.slice (some ⟨G,0,none⟩) up.length cap) _ rfl (by go_simp) ⟨_,rfl,rfl,⟨fun h=>hW.1 (by simpa using h),fun h=>hW.2.1 (by simpa using h),fun h=>hW.2.2 (by simpa using h)⟩,LJ2.same (by decide) (by decide) (by decide)⟩
         case s2 =>
          intro done a W hW hd hnd hno hO hN
          have o10:a.tmps[10]?=some (.pointer (some ⟨b10,0,none⟩)):=(hO.out 10 (by decide)).trans rfl
          have hK:=hW.2.1 (hno 12 (by decide))
          exact relVal rfl (.pointer (some ⟨b10,0,none⟩)) _ rfl (by go_simp) ⟨_,rfl,rfl,⟨fun h=>hW.1 (by simpa using h),fun h=>hW.2.1 (by simpa using h),fun h=>hW.2.2 (by simpa using h)⟩,LJ2.same (by decide) (by decide) (by decide)⟩
         case s3 =>
          intro done a W hW hd hnd hno hO hN
          obtain ⟨v2,g2,r2⟩:=hN 2 (by decide)
          have g2:a.tmps[83]?=some v2:=g2
          have e2:v2=.pointer (some ⟨b10,0,none⟩):=r2
          rw [e2] at g2
          have hK:=hW.2.1 (hno 12 (by decide))
          have c0:W.cell? ⟨b10,0,none⟩=some (.slice (some ⟨G,0,none⟩) up.length cap):=(World.cell?_of_block (a:=⟨b10,0,none⟩) (hK b10 H13.out.2.2.2.2.2.1 H13.out.2.1)).trans (H12.out.1.box.cell 0)
          exact relVal rfl (.slice (some ⟨G,0,none⟩) up.length cap) _ rfl (by go_simp) ⟨_,rfl,rfl,⟨fun h=>hW.1 (by simpa using h),fun h=>hW.2.1 (by simpa using h),fun h=>hW.2.2 (by simpa using h)⟩,LJ2.same (by decide) (by decide) (by decide)⟩
         case s4 =>
          intro done a W hW hd hnd hno hO hN
          obtain ⟨v3,g3,r3⟩:=hN 3 (by decide)
          have g3:a.tmps[84]?=some v3:=g3
          have e3:v3=.slice (some ⟨G,0,none⟩) up.length cap:=r3
          rw [e3] at g3
          have hK:=hW.2.1 (hno 12 (by decide))
          exact relVal rfl (.pointer (some ⟨G,0,none⟩)) _ rfl (by go_simp) ⟨_,rfl,rfl,⟨fun h=>hW.1 (by simpa using h),fun h=>hW.2.1 (by simpa using h),fun h=>hW.2.2 (by simpa using h)⟩,LJ2.same (by decide) (by decide) (by decide)⟩
         case s5 =>
          intro done a W hW hd hnd hno hO hN
          obtain ⟨v4,g4,r4⟩:=hN 4 (by decide)
          have g4:a.tmps[85]?=some v4:=g4
          have e4:v4=.pointer (some ⟨G,0,none⟩):=r4
          rw [e4] at g4
          have hK:=hW.2.1 (hno 12 (by decide))
          have c0:W.cell? ⟨G,0,none⟩=some ((.slice px0 r0w.length cx0)):=(World.cell?_of_block (a:=⟨G,0,none⟩) (hK G H12.out.2.2.2.2.1 H13.out.1)).trans H12.out.2.2.2.2.2.1
          exact relVal rfl ((.slice px0 r0w.length cx0)) _ rfl (by go_simp) ⟨_,rfl,rfl,⟨fun h=>hW.1 (by simpa using h),fun h=>hW.2.1 (by simpa using h),fun h=>hW.2.2 (by simpa using h)⟩,LJ2.same (by decide) (by decide) (by decide)⟩
         case s6 =>
          intro done a W hW hd hnd hno hO hN
          have o16:a.tmps[16]?=some (.pointer (some ⟨b16,0,none⟩)):=(hO.out 16 (by decide)).trans rfl
          have hK:=hW.2.1 (hno 12 (by decide))
          have c0:W.cell? ⟨b16,0,none⟩=some (.int .i64 (gN ml k:Int)):=(World.cell?_of_block (a:=⟨b16,0,none⟩) (hK b16 H12.out.2.2.2.2.2.2.2.2.2 H13.out.2.2.1)).trans (Cl.cell H12.out.2.2.2.2.2.2.2.1 0)
          exact relVal rfl (.int .i64 (gN ml k:Int)) _ rfl (by go_simp) ⟨_,rfl,rfl,⟨fun h=>hW.1 (by simpa using h),fun h=>hW.2.1 (by simpa using h),fun h=>hW.2.2 (by simpa using h)⟩,LJ2.same (by decide) (by decide) (by decide)⟩
         case s7 =>
          intro done a W hW hd hnd hno hO hN
          have o14:a.tmps[14]?=some (.int .i64 (r0:Int)):=(hO.out 14 (by decide)).trans rfl
          have hK:=hW.2.1 (hno 12 (by decide))
          exact relVal rfl (.int .i64 (r0:Int)) _ rfl (by go_simp) ⟨_,rfl,rfl,⟨fun h=>hW.1 (by simpa using h),fun h=>hW.2.1 (by simpa using h),fun h=>hW.2.2 (by simpa using h)⟩,LJ2.same (by decide) (by decide) (by decide)⟩
         case s8 =>
          intro done a W hW hd hnd hno hO hN
          obtain ⟨v6,g6,r6⟩:=hN 6 (by decide)
          have g6:a.tmps[87]?=some v6:=g6
          have e6:v6=.int .i64 (gN ml k:Int):=r6
          rw [e6] at g6
          obtain ⟨v7,g7,r7⟩:=hN 7 (by decide)
          have g7:a.tmps[88]?=some v7:=g7
          have e7:v7=.int .i64 (r0:Int):=r7
          rw [e7] at g7
          have hK:=hW.2.1 (hno 12 (by decide))
          exact relVal rfl (.int .i64 ((gN ml k:Int)+(r0:Int))) _ rfl (by go_simp) ⟨_,rfl,rfl,⟨fun h=>hW.1 (by simpa using h),fun h=>hW.2.1 (by simpa using h),fun h=>hW.2.2 (by simpa using h)⟩,LJ2.same (by decide) (by decide) (by decide)⟩
         case s9 =>
          intro done a W hW hd hnd hno hO hN
          obtain ⟨v8,g8,r8⟩:=hN 8 (by decide)
          have g8:a.tmps[89]?=some v8:=g8
          have e8:v8=.int .i64 ((gN ml k:Int)+(r0:Int)):=r8
          rw [e8] at g8
          have hK:=hW.2.1 (hno 12 (by decide))
          have hB:=hW.1 (hno 10 (by decide))
          have hbs:=bsI W ((gN ml k:Int)+(r0:Int))
          exact relVal rfl (.slice (some ⟨W.heap.size,0,none⟩) 1 1) (W.alloc (.cells #[.int .i64 ((gN ml k:Int)+(r0:Int))] 3)) rfl (by simp [execOp,Act.eval,g8,hbs,Result.andThen]) ⟨_,rfl,World.ownsRow_lit W #[.int .i64 ((gN ml k:Int)+(r0:Int))] 1 hB.size (by unfold maxLen;omega) rfl,⟨fun _=>hB.trans ((below_alloc W _).mono hB.size),fun _ k hk hx=>((below_alloc W _).block k (Nat.lt_of_lt_of_le hk hB.size)).trans (hB.block k hk),fun h=>absurd (h.symm.trans (by simpa using hno 12 (by decide))) (by decide)⟩,⟨fun h=>absurd rfl h,fun _=>below_alloc W _,fun h=>absurd h (by decide),fun h=>absurd h (by decide)⟩⟩
         case s10 =>
          intro done a W hW hd hnd hno hO hN
          obtain ⟨v5,g5,r5⟩:=hN 5 (by decide)
          have g5:a.tmps[86]?=some v5:=g5
          have e5:v5=(.slice px0 r0w.length cx0):=r5
          rw [e5] at g5
          obtain ⟨v9,g9,r9⟩:=hN 9 (by decide)
          have g9:a.tmps[90]?=some v9:=g9
          have hK:=hW.2.1 (hno 12 (by decide))
          have hB:=hW.1 hd
          obtain ⟨v',W2,hrun,ho',hgr,hblk⟩:=run_append_rows W (own_later (H12.out.2.2.2.1) hB) r9 (by simp;have:=HUL.out.2;omega) (Nat.le_trans (H12.out.1.kp.size) hB.size)
          have hoz:OwnZ wb.heap.size W2 v' (r0w ++ [(gN ml k:Int)+(r0:Int)]):=by
           unfold OwnZ
           rw [List.length_append,List.map_append]
           exact ho'
          exact relVal rfl v' W2 rfl (by simp [execOp,Act.eval,resolve,invoke,builtin,g5,g9,hrun,Result.andThen]) ⟨_,rfl,⟨W,W2,hB,hgr,hoz,hblk,Kp.refl _ _,rfl⟩,⟨fun h=>(by simp at h),fun _ k hk hx=>(hgr.block k (Nat.lt_of_lt_of_le hk hB.size) (fun e=>hx e.symm)).trans (hB.block k hk),fun h=>absurd (h.symm.trans (by simpa using hno 12 (by decide))) (by decide)⟩,⟨fun _ h=>absurd rfl h,fun h=>absurd h (by decide),fun _=>hgr,fun h=>absurd h (by decide)⟩⟩
         case s11 =>
          intro done a W hW hd hnd hno hO hN
          obtain ⟨v1,g1,r1⟩:=hN 1 (by decide)
          have g1:a.tmps[82]?=some v1:=g1
          have e1:v1=.slice (some ⟨G,0,none⟩) up.length cap:=r1
          rw [e1] at g1
          have hK:=hW.2.1 (hno 12 (by decide))
          exact relVal rfl (.pointer (some ⟨G,0,none⟩)) _ rfl (by go_simp) ⟨_,rfl,rfl,⟨fun h=>hW.1 (by simpa using h),fun h=>hW.2.1 (by simpa using h),fun h=>hW.2.2 (by simpa using h)⟩,LJ2.same (by decide) (by decide) (by decide)⟩
         case s12 =>
          intro done a W hW hd hnd hno hO hN
          obtain ⟨v11,g11,r11⟩:=hN 11 (by decide)
          have g11:a.tmps[92]?=some v11:=g11
          have e11:v11=.pointer (some ⟨G,0,none⟩):=r11
          rw [e11] at g11
          obtain ⟨v10,g10,r10⟩:=hN 10 (by decide)
          have g10:a.tmps[91]?=some v10:=g10
          have hK:=hW.2.1 hd
          have cG:W.cell? ⟨G,0,none⟩=some ((.slice px0 r0w.length cx0)):=(World.cell?_of_block (a:=⟨G,0,none⟩) (hK G (H12.out.2.2.2.2.1) (H13.out.1))).trans (H12.out.2.2.2.2.2.1)
          have fG:W.frozen? ⟨G,0,none⟩=false:=(World.frozen?_of_block (a:=⟨G,0,none⟩) (hK G (H12.out.2.2.2.2.1) (H13.out.1))).trans (H13.out.2.2.2.1)
          have hfin:=gwJ_fin (c:=0) r10 (H12.out.2.2.2.2.1) (H13.out.1) hK
          obtain ⟨pp9,np,e8⟩:∃ p9 c9,v10=.slice p9 ((r0w ++ [(gN ml k:Int)+(r0:Int)]).length) c9:=by
           obtain ⟨W1,W2,_,_,ho,_⟩:=r10
           exact own_form ho
          rw [e8] at g10 hfin
          exact relSkip rfl (W.setCell ⟨G,0,none⟩ (.slice pp9 ((r0w ++ [(gN ml k:Int)+(r0:Int)]).length) np)) rfl (by go_simp) ⟨.bool true,rfl,trivial,⟨fun h=>absurd ((hnd 10 (by decide)).symm.trans (by simpa using h)) (by decide),fun h=>(by simp at h),fun _=>hfin⟩,⟨fun _ _ h=>absurd rfl h,fun h=>absurd h (by decide),fun h=>absurd h (by decide),fun _=>⟨(Kp.refl (fun k=>k=G) W).set (p:=G) rfl _ _,by simp [World.setCell]⟩⟩⟩
        case fin =>
         intro vs done w9 hdone hS hV
         have hF:=hS.2.2 (hdone 12 (by decide))
         have hF2:FinR wr G 0 wb.heap.size (.slice px0 r0w.length cx0) (up[0]'HCL.out ++ [(gN ml k:Int)+(r0:Int)]) w9:=by rw [H12.out.2.2.2.2.2.2.2.2.1];exact hF
         have hGK:=GK.rowS H12.out.1 H12.out.2.1 H12.out.2.2.2.2.2.2.1 HCL.out H12.out.2.2.1 hF2
         rw [H12.out.2.2.2.2.2.2.2.2.1,← HST.out.1,← HST.out.2.1] at hGK
         have H14:=show Hid (GK wb w9 w.heap.size b10 (.slice (some ⟨G,0,none⟩) up.length cap) vv2 (.slice pp pls.length cp) (gUp ml (upd rs k r0) (k+1) 0) (gVal ml atoms (k+1) 0) pls b16∧Cl w9 b16 #[.int .i64 (gN ml k:Int)] 3) from ⟨hGK,finR_cl hF H12.out.2.2.2.2.2.2.2.1 H13.out.2.2.1 H13.out.2.2.2.2.1⟩
         simp only [putAll,Act.put,List.setIfInBounds_toArray,List.set_cons_zero,List.set_cons_succ,Nat.reduceAdd]
         clear hV hS hF hF2 hGK H12 H13
         have c16:w9.cell? ⟨b16,0,none⟩=some (.int .i64 (gN ml k:Int)):=H14.out.2.cell 0
         have hbase:=H14.out.1.kp.size
         have hpl2:pls.length≤1000000000000:=by have:=HPL.out.2;omega
         obtain ⟨i0,hi,hz0,hz1,hz2⟩:=info_parts infoI
         go_wp2_with (at_builtin;refine wpList_append_own_at _ rfl (.tmp 93) (.tmp 95) 27 rfl wb.heap.size 3 i0 (.int .i64 0) 1 8 Try.underlying27 hi hz0 hz1 hz2 rfl (by decide) _ pls.length (intsV pls) rfl (own_later H14.out.1.pl (below_alloc w9 _)) ⟨w9.heap.size,0,none⟩ 1 1 [.int .i64 (gN ml k:Int)] rfl rfl (cell_one_new _ _ _) (by simp [Value.oneCell']) (by unfold maxLen;omega) (by omega) (by simp;omega) ?_)
         intro v13 w20 ho20 hg20 _ hn20
         have H20:=show Hid (GK wb w20 w.heap.size b10 (.slice (some ⟨G,0,none⟩) up.length cap) vv2 v13 (gUp ml (upd rs k r0) (k+1) 0) (gVal ml atoms (k+1) 0) ((List.range (k+1)).map (gN ml)) b16) from by
          have h:=H14.out.1.place ho20 hg20 (by simpa using hn20)
          rw [HPL.out.1] at h
          rw [List.range_succ,List.map_append]
          exact h
         clear ho20 hg20 hn20 H14 c16
         go_wp2_with fail
         go_roundw
         case rel=>exact ⟨k+1,_,_,upd rs k r0,by omega,val_int (by omega),HRS2.out,b16,H20.out⟩
         case measure=>(simp only [intOf];omega)
    ·obtain rfl:k=ml.length:=by omega
     have hki:¬ (ml.length:Int)<(ml.length:Int):=by omega
     obtain ⟨q0,hp0⟩:=HP0.out
     have hrl:∀ j,j<ml.length→rs j<(gM ml j).up.length:=fun j hj=>by
      obtain ⟨M,_,h⟩:=HRS.out j hj
      rcases h with ⟨_,_,h⟩ | ⟨_,_,h,_⟩ | ⟨q,_,h1,h2,_⟩
      ·cases h
      ·cases h
      ·omega
     have hfa:=HF.out.2.2.2.1
     have hgf:=gFit (ml:=ml) (rs:=rs) (atoms:=atoms) HF.out.1 HAG.out HFL.out hrl (by omega) HF.out.2.2.2.2
     obtain ⟨M',hO'⟩:=isO_ex (gUp ml rs ml.length 0)
     have KT0:=tidy_any wr (m:=⟨gUp ml rs ml.length 0,gVal ml atoms ml.length 0⟩) hO' (hp0.isM HB10.out.1 HB10.out.2.2.1) hgf (Nat.le_refl _) (fun r hr'=>by
      have hr':r ∈ atoms :: (gVals ml ml.length ++ ((gM ml ml.length).val).take 0):=hr'
      rw [List.take_zero,List.append_nil] at hr'
      rcases List.mem_cons.1 hr' with rfl | h
      ·exact hfa
      ·obtain ⟨i,h1,h2⟩:=mem_gVals h
       exact HF.out.2.1 _ (HGM.out i h1).1 r h2)
     have KT:=show Hid _ from KT0
     have HO:=show Hid (IsO (gUp ml rs ml.length 0) M') from hO'
     have HQ:=show Hid _ from hp0
     obtain ⟨pp,cp,rfl⟩:=hp0.pl.slice
     simp only [List.length_map,List.length_range]
     have HBW:=show Hid (∀ W,Kp (fun k=>k=b10) wb W→Below w.heap.size w W) from fun W h=>HR.out.1.trans (h.below HR.out.1.size fun k e=>by have:=HB10.out;omega)
     obtain ⟨gu,hgu⟩:∃ z,z=gUp ml rs ml.length 0:=⟨_,rfl⟩
     obtain ⟨gv,hgv⟩:∃ z,z=gVal ml atoms ml.length 0:=⟨_,rfl⟩
     have HGE:=show Hid (gu=gUp ml rs ml.length 0∧gv=gVal ml atoms ml.length 0) from ⟨hgu,hgv⟩
     rw [← hgu,← hgv] at KT HQ
     rw [← hgu] at HO
     clear hp0 HP0 hgf KT0 hO' hrl hgu hgv
     go_wp2_with (refine wpList_ldw 25 _ rfl b10 rfl _ _ HQ.out.box rfl Try.underlying25 sizeM rfl ?_)
     refine Calls.mono KT.out ?_
     rintro e w6 ⟨u',v',er,rfl,hR,hb6⟩
     have H6:=show Hid (Cl w6 b10 #[uv2,vv2] 25∧Kp (fun k=>k=b10) wb w6∧OwnI wb.heap.size w6 (.slice pp ((List.range ml.length).map (gN ml)).length cp) ((List.range ml.length).map (gN ml))∧b10<wr.heap.size∧((¬ Wd.Good ⟨gu,gv⟩∧er=170∧u'=.slice none 0 0∧v'=.slice none 0 0)∨(Wd.Good ⟨gu,gv⟩∧er=0∧RowsZ wr.heap.size w6 u' (tdU M' gu.length gu.length)∧RowsN wr.heap.size w6 v' gv))) from
      ⟨HQ.out.box.later hb6,(HQ.out.later hb6).kp,own_later HQ.out.pl hb6,HQ.out.box.lt,hR⟩
     obtain ⟨pt,nt,ct,rfl⟩:∃ p n c,u'=.slice p n c:=by
      rcases hR with ⟨_,_,rfl,_⟩ | ⟨_,_,⟨xs,h1,_⟩,_⟩
      ·exact ⟨_,_,_,rfl⟩
      ·obtain ⟨p,c,e⟩:=own_form h1;exact ⟨p,_,c,e⟩
     obtain ⟨pz,nz,cz,rfl⟩:∃ p n c,v'=.slice p n c:=by
      rcases hR with ⟨_,_,_,rfl⟩ | ⟨_,_,_,⟨xs,h1,_⟩⟩
      ·exact ⟨_,_,_,rfl⟩
      ·obtain ⟨p,c,e⟩:=own_form h1;exact ⟨p,_,c,e⟩
     clear hR hb6 KT HQ
     go_wp2_with (refine wpList_st 25 rfl rfl _ _ rfl b10 rfl _ rfl _ _ H6.out.1 sizeM rfl (by simp [Value.oneCell']) ?_)
     intro w7 hc7 hk7
     have H7:=show Hid (Cl w7 b10 #[.slice pt nt ct,.slice pz nz cz] 25∧Kp (fun k=>k=b10) wb w7∧Kp (fun k=>k=b10) w6 w7∧Cl w7 b4 #[.slice none 0 0,.slice none 0 0] 25∧Below w.heap.size w w7) from by
      have hk:=H6.out.2.1.trans hk7 fun _ e=>Or.inl e
      exact ⟨hc7,hk,hk7,HR.out.2.kp hk (by have:=HB10.out;omega),HBW.out w7 hk⟩
     clear hc7 hk7
     rcases H6.out.2.2.2.2 with ⟨g,rfl,e1,e2⟩ | ⟨g,rfl,hU,hV⟩
     ·have HX:=show Hid (¬ Wd.Good ⟨gUp ml rs ml.length 0,gVal ml atoms ml.length 0⟩) from by rw [← HGE.out.1,← HGE.out.2];exact g
      clear g e1 e2 H6
      go_wp2_with (refine wpList_st 25 rfl rfl _ _ rfl b4 rfl _ rfl _ _ H7.out.2.2.2.1 sizeM rfl (by simp [Value.oneCell']) ?_)
      intro w8 hc8 hk8
      have H8:=show Hid (Cl w8 b4 #[.slice none 0 0,.slice none 0 0] 25∧Below w.heap.size w w8) from ⟨hc8,H7.out.2.2.2.2.trans (hk8.below H7.out.2.2.2.2.size fun k e=>by have:=HB10.out;omega)⟩
      clear hc8 hk8
      go_wp2_with fail
      refine bodyPost_ret (results_m_tt rfl _ _ b4 rfl H8.out.1) rfl ?_
      exact ⟨_,_,_,_,rfl,Or.inr (Or.inr ⟨HAG.out,rs,HRS.out,Or.inl ⟨HX.out,rfl,rfl,rfl,rfl⟩⟩),H8.out.2⟩
     ·have HX:=show Hid (Wd.Good ⟨gUp ml rs ml.length 0,gVal ml atoms ml.length 0⟩) from by rw [← HGE.out.1,← HGE.out.2];exact g
      have HUV:=show Hid (RowsZ wr.heap.size w6 (.slice pt nt ct) (tdU M' gu.length gu.length)∧RowsN wr.heap.size w6 (.slice pz nz cz) gv) from ⟨hU,hV⟩
      clear g hU hV
      go_wp2_with (first | (refine wpList_ldw 25 _ rfl b10 rfl _ _ H7.out.1 rfl Try.underlying25 sizeM rfl ?_) | (refine wpList_st 25 rfl rfl _ _ rfl b4 rfl _ rfl _ _ H7.out.2.2.2.1 sizeM rfl (by simp [Value.oneCell']) ?_))
      intro w8 hc8 hk8
      have H8:=show Hid (Cl w8 b4 #[.slice pt nt ct,.slice pz nz cz] 25∧Below w.heap.size w w8∧OwnI w.heap.size w8 (.slice pp ml.length cp) ((List.range ml.length).map (gN ml))∧RowsZ w.heap.size w8 (.slice pt nt ct) (tdU M' gu.length gu.length)∧RowsN w.heap.size w8 (.slice pz nz cz) gv) from by
       have hb:=HB10.out
       have h10:b10<wr.heap.size:=H6.out.2.2.2.1
       have h4:b4<wr.heap.size:=by omega
       have hww:w.heap.size≤wr.heap.size:=by omega
       have hpl:=H6.out.2.2.1
       simp only [List.length_map,List.length_range] at hpl
       refine ⟨hc8,H7.out.2.2.2.2.trans (hk8.below H7.out.2.2.2.2.size fun k e=>by omega),OwnI.base (own_kp (own_kp hpl fun k cs _ hc _=>H7.out.2.2.1.block k (lt_of_block hc) fun e => ?_) fun k cs _ hc _=>hk8.block k (lt_of_block hc) fun e => ?_) hb.2.2.1,((HUV.out.1.keep (St.of_kp H7.out.2.2.1 h10)).keep (St.of_kp hk8 h4)).base hww,((HUV.out.2.keep (St.of_kp H7.out.2.2.1 h10)).keep (St.of_kp hk8 h4)).base hww⟩
       ·subst e
        have h8:=(show w6.heap[k]?=_ from H6.out.1).symm.trans hc
        injection h8 with h9
        injection h9 with _ h10
        exact absurd h10 (by decide)
       ·subst e
        have h8:=(show w7.heap[k]?=_ from H7.out.2.2.2.1).symm.trans hc
        injection h8 with h9
        injection h9 with _ h10
        exact absurd h10 (by decide)
      clear hc8 hk8 H7 H6 HUV
      go_wp2_with fail
      refine bodyPost_ret (results_m_tt rfl _ _ b4 rfl H8.out.1) rfl ?_
      refine ⟨_,_,_,_,rfl,Or.inr (Or.inr ⟨HAG.out,rs,HRS.out,Or.inr ⟨HX.out,rfl,M',?_,H8.out.2.2.1,?_,?_⟩⟩),H8.out.2.1⟩
      ·rw [← HGE.out.1];exact HO.out
      ·rw [← HGE.out.1];exact H8.out.2.2.2.1
      ·rw [← HGE.out.2];exact H8.out.2.2.2.2
end Go.Proofs.Ytoedidbbjnnpnaa.Wm
