/-
  Tidy: of any model. No condition.
-/
import Derived.Test.YtoedidbbjnnpnaaTH14
namespace Go.Proofs.Ytoedidbbjnnpnaa.Wm
open Go.RowKit Go.Maps
open Wd (Md)
set_option linter.unusedSimpArgs false
set_option maxRecDepth 100000 in
set_option maxHeartbeats 4000000 in
theorem tidy_any (w:World) {M:Nat→Nat→Bool} {L:Nat} {uv vv:Value} {m:Md} (hO:IsO m.up M) (hm:IsM w L uv vv m) (hf:Fit m) (hL:L≤w.heap.size) (hfv:∀ r ∈ m.val,r.length * 16≤140737488355328) :
 Calls Try.prog 33 #[.agg #[uv,vv]] w fun e w'=>∃ u' v' er,e=.returned (.tuple #[.agg #[u',v'],.int .i64 er])∧((¬ Wd.Good m∧er=170∧u'=.slice none 0 0∧v'=.slice none 0 0)∨(Wd.Good m∧er=0∧RowsZ w.heap.size w' u' (tdU M m.up.length m.up.length)∧RowsN w.heap.size w' v' m.val))∧Below w.heap.size w w':=by
 have K:=show Hid (∀ W,Below w.heap.size w W→Calls Try.prog 54 #[.agg #[uv,vv],.slice none 0 0] W fun e w'=>∃ fv er,e=.returned (.tuple #[fv,.int .i64 er])∧Rek w' M m [] fv er∧Below W.heap.size W w') from fun W hW=>reckoned_any W hO (hm.keep fun k hk=>hW.block k (by omega)) hf (Nat.le_trans hL hW.size) (isI_nil W) (Nat.zero_le _) (by simp) (by simp)
 obtain ⟨pu,cu,rfl⟩:=IsS.form hm.up
 obtain ⟨pv,cv,rfl,hv⟩:=hm.val.row
 have HVR:=show Hid (∀ (j:Nat) (hj:j<m.val.length),∃ b o q n,pv=some ⟨b,o,none⟩∧b<L∧w.cell? ⟨b,o+j,none⟩=some (.slice q m.val[j].length n)∧IsN w L (.slice q m.val[j].length n) m.val[j]) from hv
 have HFV:=show Hid (∀ r ∈ m.val,r.length * 16≤140737488355328) from hfv
 have HSH:=show Hid (Wd.Good m→m.up.length≤512∧m.val.length=m.up.length) from fun g=>⟨(Wd.shaped_and g.shape).2.1,(Wd.shaped_and g.shape).2.2.1⟩
 have HL:=show Hid (L≤w.heap.size) from hL
 clear hm hf hv hfv hL
 go_enter Try.func33,Try.ntmps33
 go_wp2_with (refine wpList_box 25 _ rfl _ rfl rfl ?_)
 intro w1 b1 hN1
 have H1:=show Hid (Below w.heap.size w w1∧Cl w1 b1 #[.slice pu m.up.length cu,.slice pv m.val.length cv] 25) from ⟨hN1.bel,hN1.blk⟩
 clear hN1
 go_wp2_with (refine wpList_alloc 25 rfl _ zero_md rfl ?_)
 intro w2 b2 hN2
 have H2:=show Hid (Below w.heap.size w w2∧Cl w2 b1 #[.slice pu m.up.length cu,.slice pv m.val.length cv] 25∧Cl w2 b2 #[.slice none 0 0,.slice none 0 0] 25∧w.heap.size≤b2) from ⟨H1.out.1.trans (hN2.bel.mono H1.out.1.size),H1.out.2.later hN2.bel,hN2.blk,Nat.le_trans H1.out.1.size hN2.ge⟩
 have K2:=show Hid _ from K.out w2 H2.out.1
 clear hN2 H1 K
 go_wp2_with (refine wpList_ldw 25 _ rfl b1 rfl _ _ H2.out.2.1 rfl Try.underlying25 sizeM rfl ?_)
 refine Calls.mono K2.out ?_
 rintro e w3 ⟨fv,er,rfl,hR,hb3⟩
 have H3:=show Hid (Below w.heap.size w w3∧Cl w3 b1 #[.slice pu m.up.length cu,.slice pv m.val.length cv] 25∧Cl w3 b2 #[.slice none 0 0,.slice none 0 0] 25∧w.heap.size≤b2) from ⟨H2.out.1.trans (hb3.mono H2.out.1.size),H2.out.2.1.later hb3,H2.out.2.2.1.later hb3,H2.out.2.2.2⟩
 clear hb3 K2 H2
 rcases hR with ⟨hG,rfl,rfl⟩ | ⟨_,h,_⟩ | ⟨hG,_,hOrd,rfl⟩
 ·have HNG:=show Hid (¬ Wd.Good m) from hG
  clear hG
  have r20:w3.cell? ⟨b2,0,none⟩=some (.slice none 0 0):=H3.out.2.2.1.cell 0
  have r21:w3.cell? ⟨b2,1,none⟩=some (.slice none 0 0):=H3.out.2.2.1.cell 1
  have f20:w3.frozen? ⟨b2,0,none⟩=false:=H3.out.2.2.1.fr 0
  have f21:w3.frozen? ⟨b2,1,none⟩=false:=H3.out.2.2.1.fr 1
  have HS2:=show Hid _ from set2 H3.out.2.2.1 (.slice none 0 0) (.slice none 0 0)
  go_wp2_with fail
  refine bodyPost_ret (results_m_tmp rfl _ _ b2 rfl HS2.out.1) rfl ?_
  exact ⟨_,_,170,rfl,Or.inl ⟨HNG.out,rfl,rfl,rfl⟩,H3.out.1.trans (HS2.out.2.below H3.out.1.size fun k e=>by have:=H3.out.2.2.2;omega)⟩
 ·exact absurd h (by simp [Wd.allW])
 ·have HG:=show Hid (Wd.Good m) from hG
  have HOR:=show Hid (Ord w3 w3.heap.size m.up.length fv M) from hOrd
  have hn5:m.up.length≤512:=(HSH.out hG).1
  have HVN:=show Hid (m.val.length=m.up.length) from (HSH.out hG).2
  obtain ⟨f,cs,rfl,-,-⟩:=hOrd
  clear hG HSH
  go_wp2_with (refine wpList_alloc 25 rfl _ zero_md rfl ?_)
  intro wA b6 hNA
  have HKB:=show Hid (∀ W,Kp (fun k=>k=b6) wA W→Below w3.heap.size w3 W) from fun W hk=>by
   have:=hNA.ge
   exact hNA.bel.trans (hk.below hNA.bel.size fun k e=>by omega)
  have HA6:=show Hid (b6<wA.heap.size) from (show Cl wA b6 #[.slice none 0 0,.slice none 0 0] 25 from hNA.blk).lt
  have HTA:=show Hid (Td wA wA b6 (.slice none 0 0) (.slice none 0 0) (tdU M m.up.length 0) (m.val.take 0)) from ⟨hNA.blk,⟨[],World.ownsRow_nil _ _ _ _,fun i hi=>absurd hi (Nat.not_lt_zero _)⟩,⟨[],World.ownsRow_nil _ _ _ _,fun i hi=>absurd hi (by simp)⟩,Kp.refl _ _⟩
  have HB1:=show Hid (∀ W,Below w3.heap.size w3 W→W.cell? ⟨b1,0,none⟩=some (.slice pu m.up.length cu)∧W.cell? ⟨b1,1,none⟩=some (.slice pv m.val.length cv)) from fun W hW=>⟨(H3.out.2.1.later hW).cell 0,(H3.out.2.1.later hW).cell 1⟩
  have HB2:=show Hid (b2≠b6∧b2<wA.heap.size) from by
   have h1:=H3.out.2.2.1.lt
   have h2:=hNA.ge
   have h3:=hNA.bel.size
   exact ⟨by omega,by omega⟩
  have cA:=(HB1.out wA hNA.bel).1
  clear hNA
  go_wp2_with fail
  clear cA
  go_loopw [7,20] (fun _ i wr=>∃ k:Nat,k≤m.up.length∧i=.int .i64 (k:Int)∧Hid (∃ uk vk,Td wA wr b6 uk vk (tdU M m.up.length k) (m.val.take k))) (fun _ i _=>m.up.length - (intOf i).toNat)
  case atStart=>exact ⟨0,Nat.zero_le _,rfl,_,_,HTA.out⟩
  case round =>
   obtain ⟨k,hk,rfl,HI⟩:=hrel
   clear HTA
   by_cases hlt:k<m.up.length
   ·obtain ⟨uk,vk,hTD⟩:=HI.out
    have KX:=show Hid (∀ W,Below w3.heap.size w3 W→Calls Try.prog 57 #[.int .i64 (k:Int),.int .i64 (m.up.length:Int),.func (.func f) #[] cs.toArray] W fun e w'=>∃ v,e=.returned v∧OwnZ W.heap.size w' v ((nxF M m.up.length k).map fun n:Nat=>(n:Int))∧Below W.heap.size W w') from fun W hW=>next_any W (HOR.out.later hW (Nat.le_refl _)) hW.size hlt hn5
    have HSTU:=show Hid (tdU M m.up.length (k+1)=tdU M m.up.length k ++ [(nxF M m.up.length k).map fun n:Nat=>(n:Int)]) from tdU_step M _ k
    have hkv:k<m.val.length:=by rw [HVN.out];exact hlt
    have HSTV:=show Hid (m.val.take (k+1)=m.val.take k ++ [m.val[k]]) from List.take_succ_eq_append_getElem hkv
    have HULN:=show Hid ((tdU M m.up.length k).length≤512∧(m.val.take k).length≤512) from ⟨by rw [tdU_len];omega,by rw [List.length_take];omega⟩
    obtain ⟨bq,oq,qr,nr,rfl,hbq,hcq,hnq⟩:=HVR.out k hkv
    have HCQ:=show Hid (∀ W,Below w3.heap.size w3 W→W.cell? ⟨bq,oq+k,none⟩=some (.slice qr m.val[k].length nr)) from fun W hW=>by
     have h1:=HL.out
     have h2:=H3.out.1
     exact (World.cell?_of_block (a:=⟨bq,oq+k,none⟩) ((hW.block bq (by have:=h2.size;omega)).trans (h2.block bq (by omega)))).trans hcq
    have KY:=show Hid (∀ W,Below w3.heap.size w3 W→Calls Try.prog 41 #[.slice qr m.val[k].length nr] W fun e w'=>∃ v',e=.returned v'∧OwnN W.heap.size w' v' m.val[k]∧Below W.heap.size W w') from fun W hW=>by
     have h2:=H3.out.1.trans (hW.mono H3.out.1.size)
     exact cloneN_any W (hnq.keep fun j hj=>h2.block j (by have:=HL.out;omega)) (HFV.out _ (List.getElem_mem hkv))
    have hki:(k:Int)<(m.up.length:Int):=by omega
    have hkvi:(k:Int)<(m.val.length:Int):=by omega
    clear hcq hnq hbq HVR HI
    generalize hup:tdU M m.up.length k=up at HSTU HULN hTD
    generalize (nxF M m.up.length k).map (fun n:Nat=>(n:Int))=row at KX HSTU
    generalize hva:m.val.take k=val at HSTV HULN hTD
    generalize m.val[k]=nm at HSTV HCQ KY
    clear hup hva
    obtain ⟨xs0,hx0,-⟩:=id hTD.up
    obtain ⟨pk,ck,rfl⟩:=own_form hx0
    have HTD:=show Hid (Td wA wr b6 (.slice pk up.length ck) vk up val) from hTD
    have HVB:=show Hid (∀ j,(Value.slice pk up.length ck).ownBlock=some j→j<wr.heap.size) from fun j hj=>(own_blk hx0 hj).2.1
    have HROWS:=show Hid (RowsZ wA.heap.size wr (.slice pk up.length ck) up) from hTD.up
    have HVL:=show Hid (up.length≤512) from HULN.out.1
    have HB6:=show Hid (b6<wr.heap.size) from hTD.m.lt
    clear hx0 hTD
    go_wp2_with fail
    refine wp_region_dep (by kernel_rfl) [some 23,some 24,some 25,some 26,some 27,some 28,some 29,some 30,some 31,some 32,some 33,none] [[],[0],[],[],[3],[4],[],[2,5,6],[7],[1,8],[],[10,9]] [[],[0],[],[],[3],[4,3],[],[2,5,4,3,6],[7,2,5,4,3,6],[1,0,8,7,2,5,4,3,6],[],[10,9,1,0,8,7,2,5,4,3,6]] (by kernel_rfl) (by decide) (fun i v W=>match i with | 0=>v=.pointer (some ⟨b6,0,none⟩) | 1=>v=.slice pk up.length ck | 2=>v=.int .i64 (k:Int) | 3=>v=.pointer (some ⟨b1,0,none⟩) | 4=>v=.slice pu m.up.length cu | 5=>v=.int .i64 (m.up.length:Int) | 6=>v=.func (.func f) #[] cs.toArray | 7=>OwnZ wr.heap.size W v row∧∃ p n c,v=.slice p n c | 8=>∃ q p n c,v=.slice (some ⟨q,0,none⟩) 1 1∧wr.heap.size≤q∧W.cell? ⟨q,0,none⟩=some (.slice p n c)∧OwnZ wr.heap.size W (.slice p n c) row | 9=>RowsZ wA.heap.size W v (up ++ [row])∧∃ p n c,v=.slice p n c | 10=>v=.pointer (some ⟨b6,0,none⟩) | 11=>∃ v2,Cl W b6 #[v2,vk] 25∧RowsZ wA.heap.size W v2 (up ++ [row]) | _=>True) (fun done W=>TS wr W wA.heap.size b6 #[.slice pk up.length ck,vk] 34 9 (done 9) (done 11)) (fun i W W'=>LeG wr b6 i W W') ?hle (TS.start HTD.out.m) (allLt 12 ?steps) ?fin
    case hle =>
     intro i j v W W' hij hn hl h
     match j,h,hij,hn with
     | 0,h,_,_=>exact h
     | 1,h,_,_=>exact h
     | 2,h,_,_=>exact h
     | 3,h,_,_=>exact h
     | 4,h,_,_=>exact h
     | 5,h,_,_=>exact h
     | 6,h,_,_=>exact h
     | 10,h,_,_=>exact h
     | 7,⟨h1,h2⟩,_,_=>exact ⟨hl.own HB6.out h1,h2⟩
     | 8,⟨q,p,n,c,h1,h2,h3,h4⟩,_,_=>exact ⟨q,p,n,c,h1,h2,(World.cell?_of_block (a:=⟨q,0,none⟩) (hl.fresh HB6.out h2 (World.block_lt_of_cell? W _ h3))).trans h3,hl.own HB6.out h4⟩
     | 9,⟨h1,h2⟩,hij,hn =>
      match i,hij,hn,hl with
      | 0,_,hn,_=>exact absurd (by decide) hn
      | 1,_,hn,_=>exact absurd (by decide) hn
      | 2,_,hn,_=>exact absurd (by decide) hn
      | 3,_,hn,_=>exact absurd (by decide) hn
      | 4,_,hn,_=>exact absurd (by decide) hn
      | 5,_,hn,_=>exact absurd (by decide) hn
      | 6,_,hn,_=>exact absurd (by decide) hn
      | 7,_,hn,_=>exact absurd (by decide) hn
      | 8,_,hn,_=>exact absurd (by decide) hn
      | 9,hij,_,_=>exact absurd rfl hij
      | 10,_,_,hl=>exact ⟨h1.keep (St.of_below (hl.2.1 (by decide) (by decide))),h2⟩
      | 11,_,_,hl=>exact ⟨h1.keep (St.of_kp (hl.2.2.2 rfl) HA6.out),h2⟩
      | i+12,_,_,hl=>exact absurd hl.1 (by omega)
     | 11,h,hij,hn =>
      match i,hij,hn,hl with
      | 0,_,hn,_=>exact absurd (by decide) hn
      | 1,_,hn,_=>exact absurd (by decide) hn
      | 2,_,hn,_=>exact absurd (by decide) hn
      | 3,_,hn,_=>exact absurd (by decide) hn
      | 4,_,hn,_=>exact absurd (by decide) hn
      | 5,_,hn,_=>exact absurd (by decide) hn
      | 6,_,hn,_=>exact absurd (by decide) hn
      | 7,_,hn,_=>exact absurd (by decide) hn
      | 8,_,hn,_=>exact absurd (by decide) hn
      | 9,_,hn,_=>exact absurd (by decide) hn
      | 10,_,hn,_=>exact absurd (by decide) hn
      | 11,hij,_,_=>exact absurd rfl hij
      | i+12,_,_,hl=>exact absurd hl.1 (by omega)
     | j+12,_,_,_=>trivial
    case steps =>
     refine ⟨⟨⟨⟨⟨⟨⟨⟨⟨⟨⟨⟨trivial,?s0⟩,?s1⟩,?s2⟩,?s3⟩,?s4⟩,?s5⟩,?s6⟩,?s7⟩,?s8⟩,?s9⟩,?s10⟩,?s11⟩
     case s0 =>
      intro done a W hS hd hnd hno hO hN
      have o6:a.tmps[6]?=some (.pointer (some ⟨b6,0,none⟩)):=(hO.out 6 (by decide)).trans rfl
      exact relVal rfl (.pointer (some ⟨b6,0,none⟩)) _ rfl (by go_simp) ⟨_,rfl,rfl,hS.later HTD.out.sz (Below.refl _ _) (fun e=>by simpa using e) (fun e=>by simpa using e),⟨by decide,fun _ _=>Below.refl _ _,fun h=>absurd h (by decide),fun h=>absurd h (by decide)⟩⟩
     case s1 =>
      intro done a W hS hd hnd hno hO hN
      obtain ⟨v0,g0,r0⟩:=hN 0 (by decide)
      have g0:a.tmps[23]?=some v0:=g0
      have e0:v0=.pointer (some ⟨b6,0,none⟩):=r0
      rw [e0] at g0
      have hcl:W.cell? ⟨b6,0,none⟩=some (.slice pk up.length ck):=Cl.cell (T:=25) (hS.m (hno 11 (by decide))) 0
      exact relVal rfl (.slice pk up.length ck) _ rfl (by go_simp) ⟨_,rfl,rfl,hS.later HTD.out.sz (Below.refl _ _) (fun e=>by simpa using e) (fun e=>by simpa using e),⟨by decide,fun _ _=>Below.refl _ _,fun h=>absurd h (by decide),fun h=>absurd h (by decide)⟩⟩
     case s2 =>
      intro done a W hS hd hnd hno hO hN
      have o7:a.tmps[7]?=some (.int .i64 (k:Int)):=(hO.out 7 (by decide)).trans rfl
      exact relVal rfl (.int .i64 (k:Int)) _ rfl (by go_simp) ⟨_,rfl,rfl,hS.later HTD.out.sz (Below.refl _ _) (fun e=>by simpa using e) (fun e=>by simpa using e),⟨by decide,fun _ _=>Below.refl _ _,fun h=>absurd h (by decide),fun h=>absurd h (by decide)⟩⟩
     case s3 =>
      intro done a W hS hd hnd hno hO hN
      have o1:a.tmps[1]?=some (.pointer (some ⟨b1,0,none⟩)):=(hO.out 1 (by decide)).trans rfl
      exact relVal rfl (.pointer (some ⟨b1,0,none⟩)) _ rfl (by go_simp) ⟨_,rfl,rfl,hS.later HTD.out.sz (Below.refl _ _) (fun e=>by simpa using e) (fun e=>by simpa using e),⟨by decide,fun _ _=>Below.refl _ _,fun h=>absurd h (by decide),fun h=>absurd h (by decide)⟩⟩
     case s4 =>
      intro done a W hS hd hnd hno hO hN
      obtain ⟨v3,g3,r3⟩:=hN 3 (by decide)
      have g3:a.tmps[26]?=some v3:=g3
      have e3:v3=.pointer (some ⟨b1,0,none⟩):=r3
      rw [e3] at g3
      have hcl:=(HB1.out W (HKB.out W (hS.kp HTD.out.kp (Nat.le_refl _)))).1
      exact relVal rfl (.slice pu m.up.length cu) _ rfl (by go_simp) ⟨_,rfl,rfl,hS.later HTD.out.sz (Below.refl _ _) (fun e=>by simpa using e) (fun e=>by simpa using e),⟨by decide,fun _ _=>Below.refl _ _,fun h=>absurd h (by decide),fun h=>absurd h (by decide)⟩⟩
     case s5 =>
      intro done a W hS hd hnd hno hO hN
      obtain ⟨v4,g4,r4⟩:=hN 4 (by decide)
      have g4:a.tmps[27]?=some v4:=g4
      have e4:v4=.slice pu m.up.length cu:=r4
      rw [e4] at g4
      exact relVal rfl (.int .i64 (m.up.length:Int)) _ rfl (by go_simp) ⟨_,rfl,rfl,hS.later HTD.out.sz (Below.refl _ _) (fun e=>by simpa using e) (fun e=>by simpa using e),⟨by decide,fun _ _=>Below.refl _ _,fun h=>absurd h (by decide),fun h=>absurd h (by decide)⟩⟩
     case s6 =>
      intro done a W hS hd hnd hno hO hN
      have o4:a.tmps[4]?=some (.func (.func f) #[] cs.toArray):=(hO.out 4 (by decide)).trans rfl
      exact relVal rfl (.func (.func f) #[] cs.toArray) _ rfl (by go_simp) ⟨_,rfl,rfl,hS.later HTD.out.sz (Below.refl _ _) (fun e=>by simpa using e) (fun e=>by simpa using e),⟨by decide,fun _ _=>Below.refl _ _,fun h=>absurd h (by decide),fun h=>absurd h (by decide)⟩⟩
     case s7 =>
      intro done a W hS hd hnd hno hO hN
      obtain ⟨v2,g2,r2⟩:=hN 2 (by decide)
      have g2:a.tmps[25]?=some v2:=g2
      have e2:v2=.int .i64 (k:Int):=r2
      rw [e2] at g2
      obtain ⟨v5,g5,r5⟩:=hN 5 (by decide)
      have g5:a.tmps[28]?=some v5:=g5
      have e5:v5=.int .i64 (m.up.length:Int):=r5
      rw [e5] at g5
      obtain ⟨v6,g6,r6⟩:=hN 6 (by decide)
      have g6:a.tmps[29]?=some v6:=g6
      have e6:v6=.func (.func f) #[] cs.toArray:=r6
      rw [e6] at g6
      refine relCallF rfl rfl 57 [.tmp 25,.tmp 28,.tmp 29] #[3,3,90] rfl [.int .i64 (k:Int),.int .i64 (m.up.length:Int),.func (.func f) #[] cs.toArray] (by simp [Act.eval,g2,g5,g6]) (fun _ _=>by kernel_rfl) (Calls.mono (KX.out W (HKB.out W (hS.kp HTD.out.kp (Nat.le_refl _)))) ?_)
      rintro e W2 ⟨v,rfl,ho,hfb⟩
      exact ⟨_,rfl,_,rfl,⟨own_base ho hS.sz,own_form3 ho⟩,hS.later HTD.out.sz hfb (fun e=>by simpa using e) (fun e=>by simpa using e),⟨by decide,fun _ _=>hfb,fun h=>absurd h (by decide),fun h=>absurd h (by decide)⟩⟩
     case s8 =>
      intro done a W hS hd hnd hno hO hN
      obtain ⟨v7,g7,r7⟩:=hN 7 (by decide)
      have g7:a.tmps[30]?=some v7:=g7
      obtain ⟨h7,p,n,c,e7⟩:=r7
      rw [e7] at g7 h7
      have hb:=bsLI W p n c
      exact relVal rfl (.slice (some ⟨W.heap.size,0,none⟩) 1 1) (W.alloc (.cells #[.slice p n c] 27)) rfl (by simp [execOp,Act.eval,g7,hb,Result.andThen]) ⟨_,rfl,⟨W.heap.size,p,n,c,rfl,hS.sz,by rw [World.cell?_alloc_new];rfl,own_later h7 (below_alloc W _)⟩,hS.later HTD.out.sz (below_alloc W _) (fun e=>by simpa using e) (fun e=>by simpa using e),⟨by decide,fun _ _=>below_alloc W _,fun h=>absurd h (by decide),fun h=>absurd h (by decide)⟩⟩
     case s9 =>
      intro done a W hS hd hnd hno hO hN
      obtain ⟨v1,g1,r1⟩:=hN 1 (by decide)
      have g1:a.tmps[24]?=some v1:=g1
      have e1:v1=.slice pk up.length ck:=r1
      rw [e1] at g1
      obtain ⟨v8,g8,r8⟩:=hN 8 (by decide)
      have g8:a.tmps[31]?=some v8:=g8
      obtain ⟨q,p,n,c,e8,hq,hcq,ho8⟩:=r8
      rw [e8] at g8
      obtain ⟨i0,hi,hz0,hz1,hz2⟩:=info_parts infoLI
      obtain ⟨ys,hy1,hy2⟩:=HROWS.out.keep (St.of_below (hS.b9 hd))
      have hd11:=hno 11 (by decide)
      rw [hd,hd11] at hS
      obtain ⟨v',W2,hrun,ho',hgr,_,hblk⟩:=run_append_own_at (P:=Try.prog) (w:=W) wA.heap.size 22 22 27 i0 _ 1 24 Try.underlying22 hi hz0 hz1 hz2 rfl (by decide) _ up.length _ hy1 ⟨q,0,none⟩ 1 1 [.slice p n c] rfl (cell_one hcq) (by intro u hu;simp at hu;subst hu;rfl) (by unfold maxLen;have:=HVL.out;omega) (by have:=HVL.out;omega) (Nat.le_trans HTD.out.sz hS.sz)
      have hrow:=RowsZ.snoc hy1 hy2 (own_base ho8 HTD.out.sz) ho' hgr
      refine relVal rfl v' W2 rfl (by simp [execOp,Act.eval,resolve,invoke,builtin,g1,g8,hrun,Result.andThen]) ⟨_,rfl,⟨hrow,own_form3 ho'⟩,?_,⟨by decide,fun _ h=>absurd rfl h,fun _ k hk hl=>hgr.block k hl (fun e => ?_),fun h=>absurd h (by decide)⟩⟩
      ·have hg:=hS.grow HTD.out.sz HA6.out hy1 hgr (by decide) (by decide)
       simpa [hd11] using hg
      ·have:=HVB.out k e.symm
       omega
     case s10 =>
      intro done a W hS hd hnd hno hO hN
      have o6:a.tmps[6]?=some (.pointer (some ⟨b6,0,none⟩)):=(hO.out 6 (by decide)).trans rfl
      exact relVal rfl (.pointer (some ⟨b6,0,none⟩)) _ rfl (by go_simp) ⟨_,rfl,rfl,hS.later HTD.out.sz (Below.refl _ _) (fun e=>by simpa using e) (fun e=>by simpa using e),⟨by decide,fun _ _=>Below.refl _ _,fun h=>absurd h (by decide),fun h=>absurd h (by decide)⟩⟩
     case s11 =>
      intro done a W hS hd hnd hno hO hN
      obtain ⟨v10,g10,r10⟩:=hN 10 (by decide)
      have g10:a.tmps[33]?=some v10:=g10
      have e10:v10=.pointer (some ⟨b6,0,none⟩):=r10
      rw [e10] at g10
      obtain ⟨v9,g9,r9⟩:=hN 9 (by decide)
      have g9:a.tmps[32]?=some v9:=g9
      obtain ⟨hrow,pp,nn,cc,e9⟩:=r9
      rw [e9] at g9 hrow
      have hd9:=hnd 9 (by decide)
      rw [hd,hd9] at hS
      have hcl:W.cell? ⟨b6,0,none⟩=some (.slice pk up.length ck):=Cl.cell (T:=25) (hS.m rfl) 0
      have hfr:W.frozen? ⟨b6,0,none⟩=false:=Cl.fr (T:=25) (hS.m rfl) 0
      have hkp:Kp (fun k=>k=b6) W (W.setCell ⟨b6,0,none⟩ (.slice pp nn cc)):=(Kp.refl (fun k=>k=b6) W).set (p:=b6) rfl 0 _
      have hst:=hS.store HA6.out 0 (.slice pp nn cc)
      refine relSkip rfl _ rfl (by go_simp) ⟨_,rfl,⟨_,heap_setCell_same W b6 0 _ _ _ (hS.m rfl),hrow.keep (St.of_kp hkp HA6.out)⟩,?_,⟨by decide,fun h=>absurd rfl h,fun h=>absurd h (by decide),fun _=>hkp⟩⟩
      simpa [hd9] using hst
    case fin =>
     intro vs done w8 hdone hS hV
     obtain ⟨v2,hm9,hv9⟩:∃ v2,Cl w8 b6 #[v2,vk] 25∧RowsZ wA.heap.size w8 v2 (up ++ [row]):=hV 11 (by decide)
     have HTD8:=show Hid (Td wA w8 b6 v2 vk (up ++ [row]) val) from ⟨hm9,hv9,HTD.out.val.keep hS.st,hS.kp HTD.out.kp (Nat.le_refl _)⟩
     clear hS hV hm9 hv9
     simp only [putAll,Act.put,List.setIfInBounds_toArray,List.set_cons_zero,List.set_cons_succ]
     clear HTD HVB HROWS HVL HB6
     generalize up ++ [row]=upp at *
     have HB6:=show Hid (b6<w8.heap.size) from HTD8.out.m.lt
     obtain ⟨ys0,hy0,-⟩:=id HTD8.out.val
     obtain ⟨pl,cl,rfl⟩:=own_form hy0
     have HTD:=show Hid (Td wA w8 b6 v2 (.slice pl val.length cl) upp val) from HTD8.out
     have HVB:=show Hid (∀ j,(Value.slice pl val.length cl).ownBlock=some j→j<w8.heap.size) from fun j hj=>(own_blk hy0 hj).2.1
     have HROWS:=show Hid (RowsN wA.heap.size w8 (.slice pl val.length cl) val) from HTD8.out.val
     have HVL:=show Hid (val.length≤512) from HULN.out.2
     rename Value=>uk
     clear hy0 HTD8
     go_wp2_with fail
     refine wp_region_dep (by kernel_rfl) [some 34,some 35,some 36,some 37,some 38,some 39,some 40,some 41,some 42,some 43,some 44,none] [[],[0],[],[2],[],[3,4],[5],[6],[7],[1,8],[],[10,9]] [[],[0],[],[2],[],[3,2,4],[5,3,2,4],[6,5,3,2,4],[7,6,5,3,2,4],[1,0,8,7,6,5,3,2,4],[],[10,9,1,0,8,7,6,5,3,2,4]] (by kernel_rfl) (by decide) (fun i v W=>match i with | 0=>v=.pointer (some ⟨b6,1,none⟩) | 1=>v=.slice pl val.length cl | 2=>v=.pointer (some ⟨b1,1,none⟩) | 3=>v=.slice (some ⟨bq,oq,none⟩) m.val.length cv | 4=>v=.int .i64 (k:Int) | 5=>v=.pointer (some ⟨bq,oq+k,none⟩) | 6=>v=.slice qr nm.length nr | 7=>OwnN w8.heap.size W v nm∧∃ p n c,v=.slice p n c | 8=>∃ q p n c,v=.slice (some ⟨q,0,none⟩) 1 1∧w8.heap.size≤q∧W.cell? ⟨q,0,none⟩=some (.slice p n c)∧OwnN w8.heap.size W (.slice p n c) nm | 9=>RowsN wA.heap.size W v (val ++ [nm])∧∃ p n c,v=.slice p n c | 10=>v=.pointer (some ⟨b6,1,none⟩) | 11=>∃ v2,Cl W b6 #[uk,v2] 25∧RowsN wA.heap.size W v2 (val ++ [nm]) | _=>True) (fun done W=>TS w8 W wA.heap.size b6 #[uk,.slice pl val.length cl] 27 3 (done 9) (done 11)) (fun i W W'=>LeG w8 b6 i W W') ?hle (TS.start HTD.out.m) (allLt 12 ?steps) ?fin
     case hle =>
      intro i j v W W' hij hn hl h
      match j,h,hij,hn with
      | 0,h,_,_=>exact h
      | 1,h,_,_=>exact h
      | 2,h,_,_=>exact h
      | 3,h,_,_=>exact h
      | 4,h,_,_=>exact h
      | 5,h,_,_=>exact h
      | 6,h,_,_=>exact h
      | 10,h,_,_=>exact h
      | 7,⟨h1,h2⟩,_,_=>exact ⟨hl.own HB6.out h1,h2⟩
      | 8,⟨q,p,n,c,h1,h2,h3,h4⟩,_,_=>exact ⟨q,p,n,c,h1,h2,(World.cell?_of_block (a:=⟨q,0,none⟩) (hl.fresh HB6.out h2 (World.block_lt_of_cell? W _ h3))).trans h3,hl.own HB6.out h4⟩
      | 9,⟨h1,h2⟩,hij,hn =>
       match i,hij,hn,hl with
       | 0,_,hn,_=>exact absurd (by decide) hn
       | 1,_,hn,_=>exact absurd (by decide) hn
       | 2,_,hn,_=>exact absurd (by decide) hn
       | 3,_,hn,_=>exact absurd (by decide) hn
       | 4,_,hn,_=>exact absurd (by decide) hn
       | 5,_,hn,_=>exact absurd (by decide) hn
       | 6,_,hn,_=>exact absurd (by decide) hn
       | 7,_,hn,_=>exact absurd (by decide) hn
       | 8,_,hn,_=>exact absurd (by decide) hn
       | 9,hij,_,_=>exact absurd rfl hij
       | 10,_,_,hl=>exact ⟨h1.keep (St.of_below (hl.2.1 (by decide) (by decide))),h2⟩
       | 11,_,_,hl=>exact ⟨h1.keep (St.of_kp (hl.2.2.2 rfl) HA6.out),h2⟩
       | i+12,_,_,hl=>exact absurd hl.1 (by omega)
      | 11,h,hij,hn =>
       match i,hij,hn,hl with
       | 0,_,hn,_=>exact absurd (by decide) hn
       | 1,_,hn,_=>exact absurd (by decide) hn
       | 2,_,hn,_=>exact absurd (by decide) hn
       | 3,_,hn,_=>exact absurd (by decide) hn
       | 4,_,hn,_=>exact absurd (by decide) hn
       | 5,_,hn,_=>exact absurd (by decide) hn
       | 6,_,hn,_=>exact absurd (by decide) hn
       | 7,_,hn,_=>exact absurd (by decide) hn
       | 8,_,hn,_=>exact absurd (by decide) hn
       | 9,_,hn,_=>exact absurd (by decide) hn
       | 10,_,hn,_=>exact absurd (by decide) hn
       | 11,hij,_,_=>exact absurd rfl hij
       | i+12,_,_,hl=>exact absurd hl.1 (by omega)
      | j+12,_,_,_=>trivial
     case steps =>
      refine ⟨⟨⟨⟨⟨⟨⟨⟨⟨⟨⟨⟨trivial,?s0⟩,?s1⟩,?s2⟩,?s3⟩,?s4⟩,?s5⟩,?s6⟩,?s7⟩,?s8⟩,?s9⟩,?s10⟩,?s11⟩
      case s0 =>
       intro done a W hS hd hnd hno hO hN
       have o6:a.tmps[6]?=some (.pointer (some ⟨b6,0,none⟩)):=(hO.out 6 (by decide)).trans rfl
       exact relVal rfl (.pointer (some ⟨b6,1,none⟩)) _ rfl (by go_simp) ⟨_,rfl,rfl,hS.later HTD.out.sz (Below.refl _ _) (fun e=>by simpa using e) (fun e=>by simpa using e),⟨by decide,fun _ _=>Below.refl _ _,fun h=>absurd h (by decide),fun h=>absurd h (by decide)⟩⟩
      case s1 =>
       intro done a W hS hd hnd hno hO hN
       obtain ⟨v0,g0,r0⟩:=hN 0 (by decide)
       have g0:a.tmps[34]?=some v0:=g0
       have e0:v0=.pointer (some ⟨b6,1,none⟩):=r0
       rw [e0] at g0
       have hcl:W.cell? ⟨b6,1,none⟩=some (.slice pl val.length cl):=Cl.cell (T:=25) (hS.m (hno 11 (by decide))) 1
       exact relVal rfl (.slice pl val.length cl) _ rfl (by go_simp) ⟨_,rfl,rfl,hS.later HTD.out.sz (Below.refl _ _) (fun e=>by simpa using e) (fun e=>by simpa using e),⟨by decide,fun _ _=>Below.refl _ _,fun h=>absurd h (by decide),fun h=>absurd h (by decide)⟩⟩
      case s2 =>
       intro done a W hS hd hnd hno hO hN
       have o1:a.tmps[1]?=some (.pointer (some ⟨b1,0,none⟩)):=(hO.out 1 (by decide)).trans rfl
       exact relVal rfl (.pointer (some ⟨b1,1,none⟩)) _ rfl (by go_simp) ⟨_,rfl,rfl,hS.later HTD.out.sz (Below.refl _ _) (fun e=>by simpa using e) (fun e=>by simpa using e),⟨by decide,fun _ _=>Below.refl _ _,fun h=>absurd h (by decide),fun h=>absurd h (by decide)⟩⟩
      case s3 =>
       intro done a W hS hd hnd hno hO hN
       obtain ⟨v2,g2,r2⟩:=hN 2 (by decide)
       have g2:a.tmps[36]?=some v2:=g2
       have e2:v2=.pointer (some ⟨b1,1,none⟩):=r2
       rw [e2] at g2
       have hcl:=(HB1.out W (HKB.out W (hS.kp HTD.out.kp (Nat.le_refl _)))).2
       exact relVal rfl (.slice (some ⟨bq,oq,none⟩) m.val.length cv) _ rfl (by go_simp) ⟨_,rfl,rfl,hS.later HTD.out.sz (Below.refl _ _) (fun e=>by simpa using e) (fun e=>by simpa using e),⟨by decide,fun _ _=>Below.refl _ _,fun h=>absurd h (by decide),fun h=>absurd h (by decide)⟩⟩
      case s4 =>
       intro done a W hS hd hnd hno hO hN
       have o7:a.tmps[7]?=some (.int .i64 (k:Int)):=(hO.out 7 (by decide)).trans rfl
       exact relVal rfl (.int .i64 (k:Int)) _ rfl (by go_simp) ⟨_,rfl,rfl,hS.later HTD.out.sz (Below.refl _ _) (fun e=>by simpa using e) (fun e=>by simpa using e),⟨by decide,fun _ _=>Below.refl _ _,fun h=>absurd h (by decide),fun h=>absurd h (by decide)⟩⟩
      case s5 =>
       intro done a W hS hd hnd hno hO hN
       obtain ⟨v3,g3,r3⟩:=hN 3 (by decide)
       have g3:a.tmps[37]?=some v3:=g3
       have e3:v3=.slice (some ⟨bq,oq,none⟩) m.val.length cv:=r3
       rw [e3] at g3
       obtain ⟨v4,g4,r4⟩:=hN 4 (by decide)
       have g4:a.tmps[38]?=some v4:=g4
       have e4:v4=.int .i64 (k:Int):=r4
       rw [e4] at g4
       exact relVal rfl (.pointer (some ⟨bq,oq+k,none⟩)) _ rfl (by go_simp) ⟨_,rfl,rfl,hS.later HTD.out.sz (Below.refl _ _) (fun e=>by simpa using e) (fun e=>by simpa using e),⟨by decide,fun _ _=>Below.refl _ _,fun h=>absurd h (by decide),fun h=>absurd h (by decide)⟩⟩
      case s6 =>
       intro done a W hS hd hnd hno hO hN
       obtain ⟨v5,g5,r5⟩:=hN 5 (by decide)
       have g5:a.tmps[39]?=some v5:=g5
       have e5:v5=.pointer (some ⟨bq,oq+k,none⟩):=r5
       rw [e5] at g5
       have hcl:W.cell? ⟨bq,oq+k,none⟩=some (.slice qr nm.length nr):=HCQ.out W (HKB.out W (hS.kp HTD.out.kp (Nat.le_refl _)))
       exact relVal rfl (.slice qr nm.length nr) _ rfl (by go_simp) ⟨_,rfl,rfl,hS.later HTD.out.sz (Below.refl _ _) (fun e=>by simpa using e) (fun e=>by simpa using e),⟨by decide,fun _ _=>Below.refl _ _,fun h=>absurd h (by decide),fun h=>absurd h (by decide)⟩⟩
      case s7 =>
       intro done a W hS hd hnd hno hO hN
       obtain ⟨v6,g6,r6⟩:=hN 6 (by decide)
       have g6:a.tmps[40]?=some v6:=g6
       have e6:v6=.slice qr nm.length nr:=r6
       rw [e6] at g6
       refine relCallF rfl rfl 41 [.tmp 40] #[34] rfl [.slice qr nm.length nr] (by simp [Act.eval,g6]) (fun _ _=>by kernel_rfl) (Calls.mono (KY.out W (HKB.out W (hS.kp HTD.out.kp (Nat.le_refl _)))) ?_)
       rintro e W2 ⟨v,rfl,ho,hfb⟩
       exact ⟨_,rfl,_,rfl,⟨own_base ho hS.sz,own_form3 ho⟩,hS.later HTD.out.sz hfb (fun e=>by simpa using e) (fun e=>by simpa using e),⟨by decide,fun _ _=>hfb,fun h=>absurd h (by decide),fun h=>absurd h (by decide)⟩⟩
      case s8 =>
       intro done a W hS hd hnd hno hO hN
       obtain ⟨v7,g7,r7⟩:=hN 7 (by decide)
       have g7:a.tmps[41]?=some v7:=g7
       obtain ⟨h7,p,n,c,e7⟩:=r7
       rw [e7] at g7 h7
       have hb:=bsLS W p n c
       exact relVal rfl (.slice (some ⟨W.heap.size,0,none⟩) 1 1) (W.alloc (.cells #[.slice p n c] 34)) rfl (by simp [execOp,Act.eval,g7,hb,Result.andThen]) ⟨_,rfl,⟨W.heap.size,p,n,c,rfl,hS.sz,by rw [World.cell?_alloc_new];rfl,own_later h7 (below_alloc W _)⟩,hS.later HTD.out.sz (below_alloc W _) (fun e=>by simpa using e) (fun e=>by simpa using e),⟨by decide,fun _ _=>below_alloc W _,fun h=>absurd h (by decide),fun h=>absurd h (by decide)⟩⟩
      case s9 =>
       intro done a W hS hd hnd hno hO hN
       obtain ⟨v1,g1,r1⟩:=hN 1 (by decide)
       have g1:a.tmps[35]?=some v1:=g1
       have e1:v1=.slice pl val.length cl:=r1
       rw [e1] at g1
       obtain ⟨v8,g8,r8⟩:=hN 8 (by decide)
       have g8:a.tmps[42]?=some v8:=g8
       obtain ⟨q,p,n,c,e8,hq,hcq,ho8⟩:=r8
       rw [e8] at g8
       obtain ⟨i0,hi,hz0,hz1,hz2⟩:=info_parts infoLS
       obtain ⟨ys,hy1,hy2⟩:=HROWS.out.keep (St.of_below (hS.b9 hd))
       have hd11:=hno 11 (by decide)
       rw [hd,hd11] at hS
       obtain ⟨v',W2,hrun,ho',hgr,_,hblk⟩:=run_append_own_at (P:=Try.prog) (w:=W) wA.heap.size 23 23 34 i0 _ 1 24 Try.underlying23 hi hz0 hz1 hz2 rfl (by decide) _ val.length _ hy1 ⟨q,0,none⟩ 1 1 [.slice p n c] rfl (cell_one hcq) (by intro u hu;simp at hu;subst hu;rfl) (by unfold maxLen;have:=HVL.out;omega) (by have:=HVL.out;omega) (Nat.le_trans HTD.out.sz hS.sz)
       have hrow:=RowsN.snoc hy1 hy2 (own_base ho8 HTD.out.sz) ho' hgr
       refine relVal rfl v' W2 rfl (by simp [execOp,Act.eval,resolve,invoke,builtin,g1,g8,hrun,Result.andThen]) ⟨_,rfl,⟨hrow,own_form3 ho'⟩,?_,⟨by decide,fun _ h=>absurd rfl h,fun _ k hk hl=>hgr.block k hl (fun e => ?_),fun h=>absurd h (by decide)⟩⟩
       ·have hg:=hS.grow HTD.out.sz HA6.out hy1 hgr (by decide) (by decide)
        simpa [hd11] using hg
       ·have:=HVB.out k e.symm
        omega
      case s10 =>
       intro done a W hS hd hnd hno hO hN
       have o6:a.tmps[6]?=some (.pointer (some ⟨b6,0,none⟩)):=(hO.out 6 (by decide)).trans rfl
       exact relVal rfl (.pointer (some ⟨b6,1,none⟩)) _ rfl (by go_simp) ⟨_,rfl,rfl,hS.later HTD.out.sz (Below.refl _ _) (fun e=>by simpa using e) (fun e=>by simpa using e),⟨by decide,fun _ _=>Below.refl _ _,fun h=>absurd h (by decide),fun h=>absurd h (by decide)⟩⟩
      case s11 =>
       intro done a W hS hd hnd hno hO hN
       obtain ⟨v10,g10,r10⟩:=hN 10 (by decide)
       have g10:a.tmps[44]?=some v10:=g10
       have e10:v10=.pointer (some ⟨b6,1,none⟩):=r10
       rw [e10] at g10
       obtain ⟨v9,g9,r9⟩:=hN 9 (by decide)
       have g9:a.tmps[43]?=some v9:=g9
       obtain ⟨hrow,pp,nn,cc,e9⟩:=r9
       rw [e9] at g9 hrow
       have hd9:=hnd 9 (by decide)
       rw [hd,hd9] at hS
       have hcl:W.cell? ⟨b6,1,none⟩=some (.slice pl val.length cl):=Cl.cell (T:=25) (hS.m rfl) 1
       have hfr:W.frozen? ⟨b6,1,none⟩=false:=Cl.fr (T:=25) (hS.m rfl) 1
       have hkp:Kp (fun k=>k=b6) W (W.setCell ⟨b6,1,none⟩ (.slice pp nn cc)):=(Kp.refl (fun k=>k=b6) W).set (p:=b6) rfl 1 _
       have hst:=hS.store HA6.out 1 (.slice pp nn cc)
       refine relSkip rfl _ rfl (by go_simp) ⟨_,rfl,⟨_,heap_setCell_same W b6 1 _ _ _ (hS.m rfl),hrow.keep (St.of_kp hkp HA6.out)⟩,?_,⟨by decide,fun h=>absurd rfl h,fun h=>absurd h (by decide),fun _=>hkp⟩⟩
       simpa [hd9] using hst
     case fin =>
      intro vs done w9 hdone hS hV
      obtain ⟨v2,hm9,hv9⟩:∃ v2,Cl w9 b6 #[uk,v2] 25∧RowsN wA.heap.size w9 v2 (val ++ [nm]):=hV 11 (by decide)
      have HTD9:=show Hid (Td wA w9 b6 uk v2 upp (val ++ [nm])) from ⟨hm9,HTD.out.up.keep hS.st,hv9,hS.kp HTD.out.kp (Nat.le_refl _)⟩
      clear hS hV hm9 hv9
      simp only [putAll,Act.put,List.setIfInBounds_toArray,List.set_cons_zero,List.set_cons_succ]
      clear HTD HVB HROWS HVL HB6
      have HNEW:=show Hid (Td wA w9 b6 uk v2 (tdU M m.up.length (k+1)) (m.val.take (k+1))) from by
       have h:=HTD9.out
       rw [← HSTU.out,← HSTV.out] at h
       exact h
      clear HTD9 HSTU HSTV HCQ KY KX
      go_wp2_with fail
      go_roundw
      case rel=>exact ⟨k+1,by omega,val_int (by omega),_,_,HNEW.out⟩
      case measure=>(simp only [intOf];omega)
   ·obtain rfl:k=m.up.length:=by omega
    obtain ⟨uk,vk,hTD⟩:=HI.out
    obtain ⟨xs0,hx0,-⟩:=id hTD.up
    obtain ⟨p1,n1,c1,rfl⟩:=own_form3 hx0
    obtain ⟨ys0,hy0,-⟩:=id hTD.val
    obtain ⟨p2,n2,c2,rfl⟩:=own_form3 hy0
    have HTD:=show Hid (Td wA wr b6 (.slice p1 n1 c1) (.slice p2 n2 c2) (tdU M m.up.length m.up.length) m.val) from by
     have h:=hTD
     rw [← HVN.out,List.take_length,HVN.out] at h
     exact h
    have HC2:=show Hid (Cl wr b2 #[.slice none 0 0,.slice none 0 0] 25) from (H3.out.2.2.1.later (HKB.out wr hTD.kp))
    have HBW:=show Hid (Below w.heap.size w wr∧w.heap.size≤wA.heap.size) from by
     have h:=HKB.out wr hTD.kp
     refine ⟨H3.out.1.trans (h.mono H3.out.1.size),?_⟩
     have h1:=(HKB.out wA (Kp.refl _ _)).size
     have h2:=H3.out.1.size
     omega
    clear hTD hx0 hy0 HI HVR
    go_wp2_with (first | (refine wpList_ldw 25 _ rfl b6 rfl _ _ HTD.out.m rfl Try.underlying25 sizeM rfl ?_) | (refine wpList_st 25 rfl rfl _ _ rfl b2 rfl _ rfl _ _ HC2.out sizeM rfl (by simp [Value.oneCell']) ?_))
    intro w5 hc5 hk5
    have H5:=show Hid (Cl w5 b2 #[.slice p1 n1 c1,.slice p2 n2 c2] 25∧RowsZ w.heap.size w5 (.slice p1 n1 c1) (tdU M m.up.length m.up.length)∧RowsN w.heap.size w5 (.slice p2 n2 c2) m.val∧Below w.heap.size w w5) from ⟨hc5,(HTD.out.up.keep (St.of_kp hk5 HB2.out.2)).base HBW.out.2,(HTD.out.val.keep (St.of_kp hk5 HB2.out.2)).base HBW.out.2,HBW.out.1.trans (hk5.below HBW.out.1.size fun k e=>by have:=H3.out.2.2.2;omega)⟩
    clear hc5 hk5 HTD HC2 HBW
    go_wp2_with fail
    refine bodyPost_ret (results_m_tmp rfl _ _ b2 rfl H5.out.1) rfl ?_
    exact ⟨_,_,0,rfl,Or.inr ⟨HG.out,rfl,H5.out.2.1,H5.out.2.2.1⟩,H5.out.2.2.2⟩
end Go.Proofs.Ytoedidbbjnnpnaa.Wm
