/-
  The document's Same: two models alike are told alike. No condition.
-/
import Derived.Test.YtoedidbbjnnpnaaQWTidy
namespace Go.Proofs.Ytoedidbbjnnpnaa.Wm
open Go.RowKit Go.Maps
open Wd (Md)
set_option linter.unusedSimpArgs false
set_option maxRecDepth 100000 in
set_option maxHeartbeats 4000000 in
theorem same_any (w:World) {La Lb:Nat} {u v u' v':Value} {m:Md} (ha:IsM w La u v m) (hb:IsM w Lb u' v' m) (hf:Fit m) (hLa:La≤w.heap.size) (hLb:Lb≤w.heap.size) :
 Calls Try.prog 20 #[.agg #[u,v],.agg #[u',v']] w fun e w'=>e=.returned (.bool true)∧Below w.heap.size w w':=by
 obtain ⟨pa,ca,rfl,hau⟩:=ha.up.row
 obtain ⟨pb,cb,rfl,hbu⟩:=hb.up.row
 obtain ⟨sa,da,rfl,hav⟩:=ha.val.row
 obtain ⟨sb,db,rfl,hbv⟩:=hb.val.row
 have HU:=show Hid (∀ (j:Nat) (hj:j<m.up.length),∃ b o q n b' o' q' n',pa=some ⟨b,o,none⟩∧pb=some ⟨b',o',none⟩∧(∀ W,Below w.heap.size w W→W.cell? ⟨b,o+j,none⟩=some (.slice q m.up[j].length n)∧W.cell? ⟨b',o'+j,none⟩=some (.slice q' m.up[j].length n')∧Calls Try.prog 17 #[.slice q m.up[j].length n,.slice q' m.up[j].length n'] W fun e w'=>e=.returned (.bool true)∧Below W.heap.size W w')) from fun j hj=>by
  obtain ⟨b,o,q,n,e1,h1,h2,h3⟩:=hau j hj
  obtain ⟨b',o',q',n',e2,k1,k2,k3⟩:=hbu j hj
  refine ⟨b,o,q,n,b',o',q',n',e1,e2,fun W hW=>⟨(World.cell?_of_block (a:=⟨b,o+j,none⟩) (hW.block b (by omega))).trans h2,(World.cell?_of_block (a:=⟨b',o'+j,none⟩) (hW.block b' (by omega))).trans k2,?_⟩⟩
  have hl:=(hf.2.2.1 _ (List.getElem_mem hj)).1
  exact (ints_any W (IsI.keep h3 fun i hi=>hW.block i (by omega)) (IsI.keep k3 fun i hi=>hW.block i (by omega)) hl hl).mono fun e w' ⟨⟨r,e1,e2⟩,e3⟩=>⟨by rw [e1,e2.2 rfl],e3⟩
 have HV:=show Hid (∀ (j:Nat) (hj:j<m.val.length),∃ b o q n b' o' q' n',sa=some ⟨b,o,none⟩∧sb=some ⟨b',o',none⟩∧(∀ W,Below w.heap.size w W→W.cell? ⟨b,o+j,none⟩=some (.slice q m.val[j].length n)∧W.cell? ⟨b',o'+j,none⟩=some (.slice q' m.val[j].length n')∧Calls Try.prog 24 #[.slice q m.val[j].length n,.slice q' m.val[j].length n'] W fun e w'=>e=.returned (.bool true)∧Below W.heap.size W w')) from fun j hj=>by
  obtain ⟨b,o,q,n,e1,h1,h2,h3⟩:=hav j hj
  obtain ⟨b',o',q',n',e2,k1,k2,k3⟩:=hbv j hj
  refine ⟨b,o,q,n,b',o',q',n',e1,e2,fun W hW=>⟨(World.cell?_of_block (a:=⟨b,o+j,none⟩) (hW.block b (by omega))).trans h2,(World.cell?_of_block (a:=⟨b',o'+j,none⟩) (hW.block b' (by omega))).trans k2,?_⟩⟩
  have hl:=(hf.2.2.2 _ (List.getElem_mem hj)).1
  exact (rnames_any W (IsN.keep h3 fun i hi=>hW.block i (by omega)) (IsN.keep k3 fun i hi=>hW.block i (by omega)) hl hl).mono fun e w' ⟨⟨r,e1,e2⟩,e3⟩=>⟨by rw [e1,e2.2 rfl],e3⟩
 have hlu:=hf.1
 have hlv:=hf.2.1
 clear hau hbu hav hbv ha hb hf
 go_enter Try.func20,Try.ntmps20
 go_wp2_with (refine wpList_box 25 _ rfl _ rfl rfl ?_)
 intro w1 b1 hN1
 have H1:=show Hid (Below w.heap.size w w1∧Cl w1 b1 #[.slice pa m.up.length ca,.slice sa m.val.length da] 25) from ⟨hN1.bel,hN1.blk⟩
 clear hN1
 go_wp2_with (refine wpList_box 25 _ rfl _ rfl rfl ?_)
 intro w2 b2 hN2
 have HCq:=show Hid (∀ W,Below w2.heap.size w2 W→W.cell? ⟨b1,0,none⟩=some (.slice pa m.up.length ca)∧W.cell? ⟨b1,1,none⟩=some (.slice sa m.val.length da)∧W.cell? ⟨b2,0,none⟩=some (.slice pb m.up.length cb)∧W.cell? ⟨b2,1,none⟩=some (.slice sb m.val.length db)) from fun W hW=>by
  have h1:=(H1.out.2.later hN2.bel).later hW
  have h2:=(show Cl w2 b2 #[.slice pb m.up.length cb,.slice sb m.val.length db] 25 from hN2.blk).later hW
  exact ⟨h1.cell 0,h1.cell 1,h2.cell 0,h2.cell 1⟩
 have HW:=show Hid (∀ W,Below w2.heap.size w2 W→Below w.heap.size w W) from fun W hW=>(H1.out.1.trans (hN2.bel.mono H1.out.1.size)).trans (hW.mono (Nat.le_trans H1.out.1.size hN2.bel.size))
 obtain ⟨d1,d2,d3,d4⟩:=HCq.out w2 (Below.refl _ _)
 clear hN2 H1
 go_wp2_with fail
 clear d1 d2 d3 d4
 go_loopw [5] (fun i wr=>∃ k:Nat,k≤m.up.length∧i=.int .i64 (k:Int)∧Hid (Below w2.heap.size w2 wr)) (fun i _=>m.up.length - (intOf i).toNat)
 case atStart=>exact ⟨0,Nat.zero_le _,rfl,Below.refl _ _⟩
 case round =>
  obtain ⟨k,hk,rfl,HB3⟩:=hrel
  obtain ⟨w3,hw3⟩:∃ w3,w3=wr:=⟨_,rfl⟩
  rw [← hw3] at HB3 ⊢
  clear hw3
  have a3:=(HCq.out w3 HB3.out).1
  by_cases hlt:k<m.up.length
  ·obtain ⟨ar,oa,qa,na,br,ob,qb,nb,rfl,rfl,hcc⟩:=HU.out k hlt
   have a4:=(HCq.out w3 HB3.out).2.2.1
   obtain ⟨a5,a6,-⟩:=hcc w3 (HW.out w3 HB3.out)
   have KX:=show Hid (∀ W,Below w3.heap.size w3 W→Calls Try.prog 17 #[.slice qa m.up[k].length na,.slice qb m.up[k].length nb] W fun e w'=>e=.returned (.bool true)∧Below W.heap.size W w') from fun W hW=>(hcc W (HW.out W (HB3.out.trans (hW.mono HB3.out.size)))).2.2
   have hki:(k:Int)<(m.up.length:Int):=by omega
   clear hcc
   generalize m.up[k]=rw at *
   go_wp2_with fail
   refine wp_region_one (by kernel_rfl) 10 [some 30,some 31,some 32,some 33,some 34,some 35,some 36,some 37,some 38,some 39,some 40,some 41] [[],[0],[],[1,2],[3],[],[5],[],[6,7],[8],[4,9],[10]] [[],[0],[],[1,0,2],[3,1,0,2],[],[5],[],[6,5,7],[8,6,5,7],[4,3,1,0,2,9,8,6,5,7],[10,4,3,1,0,2,9,8,6,5,7]] (by kernel_rfl) (by decide) (fun ii vv w1=>match ii with | 0=>vv=.pointer (some ⟨b1,0,none⟩) | 1=>vv=.slice (some ⟨ar,oa,none⟩) m.up.length ca | 2=>vv=.int .i64 (k:Int) | 3=>vv=.pointer (some ⟨ar,oa+k,none⟩) | 4=>vv=.slice qa rw.length na | 5=>vv=.pointer (some ⟨b2,0,none⟩) | 6=>vv=.slice (some ⟨br,ob,none⟩) m.up.length cb | 7=>vv=.int .i64 (k:Int) | 8=>vv=.pointer (some ⟨br,ob+k,none⟩) | 9=>vv=.slice qb rw.length nb | 10=>vv=.bool true∧Below w3.heap.size w3 w1 | 11=>vv=.bool false∧Below w3.heap.size w3 w1 | _=>True) ?hfree (allLt 12 ?steps) ?fin
   case hfree =>
    intro j v w1 w2 hj hn h
    match j,h,hj,hn with
    | 0,h,_,_=>exact h
    | 1,h,_,_=>exact h
    | 2,h,_,_=>exact h
    | 3,h,_,_=>exact h
    | 4,h,_,_=>exact h
    | 5,h,_,_=>exact h
    | 6,h,_,_=>exact h
    | 7,h,_,_=>exact h
    | 8,h,_,_=>exact h
    | 9,h,_,_=>exact h
    | 10,_,hj,_=>exact absurd rfl hj
    | 11,_,_,hn=>exact absurd (by decide) hn
    | _+12,_,_,_=>trivial
   case steps =>
    refine ⟨⟨⟨⟨⟨⟨⟨⟨⟨⟨⟨⟨trivial,?s0⟩,?s1⟩,?s2⟩,?s3⟩,?s4⟩,?s5⟩,?s6⟩,?s7⟩,?s8⟩,?s9⟩,?s10⟩,?s11⟩
    case s0 =>
     intro a w1 hw hO hN
     obtain rfl:w1=w3.drew:=hw (by decide)
     have o2:a.tmps[2]?=some (.pointer (some ⟨b1,0,none⟩)):=(hO.out 2 (by decide)).trans rfl
     exact relVal rfl (.pointer (some ⟨b1,0,none⟩)) _ rfl (by go_simp) ⟨_,rfl,rfl,fun _=>rfl⟩
    case s1 =>
     intro a w1 hw hO hN
     obtain rfl:w1=w3.drew:=hw (by decide)
     obtain ⟨v0,g0,r0⟩:=hN 0 (by decide)
     have g0:a.tmps[30]?=some v0:=g0
     have e0:v0=.pointer (some ⟨b1,0,none⟩):=r0
     rw [e0] at g0
     exact relVal rfl (.slice (some ⟨ar,oa,none⟩) m.up.length ca) _ rfl (by go_simp) ⟨_,rfl,rfl,fun _=>rfl⟩
    case s2 =>
     intro a w1 hw hO hN
     obtain rfl:w1=w3.drew:=hw (by decide)
     have o5:a.tmps[5]?=some (.int .i64 (k:Int)):=(hO.out 5 (by decide)).trans rfl
     exact relVal rfl (.int .i64 (k:Int)) _ rfl (by go_simp) ⟨_,rfl,rfl,fun _=>rfl⟩
    case s3 =>
     intro a w1 hw hO hN
     obtain rfl:w1=w3.drew:=hw (by decide)
     obtain ⟨v1,g1,r1⟩:=hN 1 (by decide)
     have g1:a.tmps[31]?=some v1:=g1
     have e1:v1=.slice (some ⟨ar,oa,none⟩) m.up.length ca:=r1
     rw [e1] at g1
     obtain ⟨v2,g2,r2⟩:=hN 2 (by decide)
     have g2:a.tmps[32]?=some v2:=g2
     have e2:v2=.int .i64 (k:Int):=r2
     rw [e2] at g2
     exact relVal rfl (.pointer (some ⟨ar,oa+k,none⟩)) _ rfl (by go_simp) ⟨_,rfl,rfl,fun _=>rfl⟩
    case s4 =>
     intro a w1 hw hO hN
     obtain rfl:w1=w3.drew:=hw (by decide)
     obtain ⟨v3,g3,r3⟩:=hN 3 (by decide)
     have g3:a.tmps[33]?=some v3:=g3
     have e3:v3=.pointer (some ⟨ar,oa+k,none⟩):=r3
     rw [e3] at g3
     exact relVal rfl (.slice qa rw.length na) _ rfl (by go_simp) ⟨_,rfl,rfl,fun _=>rfl⟩
    case s5 =>
     intro a w1 hw hO hN
     obtain rfl:w1=w3.drew:=hw (by decide)
     have o3:a.tmps[3]?=some (.pointer (some ⟨b2,0,none⟩)):=(hO.out 3 (by decide)).trans rfl
     exact relVal rfl (.pointer (some ⟨b2,0,none⟩)) _ rfl (by go_simp) ⟨_,rfl,rfl,fun _=>rfl⟩
    case s6 =>
     intro a w1 hw hO hN
     obtain rfl:w1=w3.drew:=hw (by decide)
     obtain ⟨v5,g5,r5⟩:=hN 5 (by decide)
     have g5:a.tmps[35]?=some v5:=g5
     have e5:v5=.pointer (some ⟨b2,0,none⟩):=r5
     rw [e5] at g5
     exact relVal rfl (.slice (some ⟨br,ob,none⟩) m.up.length cb) _ rfl (by go_simp) ⟨_,rfl,rfl,fun _=>rfl⟩
    case s7 =>
     intro a w1 hw hO hN
     obtain rfl:w1=w3.drew:=hw (by decide)
     have o5:a.tmps[5]?=some (.int .i64 (k:Int)):=(hO.out 5 (by decide)).trans rfl
     exact relVal rfl (.int .i64 (k:Int)) _ rfl (by go_simp) ⟨_,rfl,rfl,fun _=>rfl⟩
    case s8 =>
     intro a w1 hw hO hN
     obtain rfl:w1=w3.drew:=hw (by decide)
     obtain ⟨v6,g6,r6⟩:=hN 6 (by decide)
     have g6:a.tmps[36]?=some v6:=g6
     have e6:v6=.slice (some ⟨br,ob,none⟩) m.up.length cb:=r6
     rw [e6] at g6
     obtain ⟨v7,g7,r7⟩:=hN 7 (by decide)
     have g7:a.tmps[37]?=some v7:=g7
     have e7:v7=.int .i64 (k:Int):=r7
     rw [e7] at g7
     exact relVal rfl (.pointer (some ⟨br,ob+k,none⟩)) _ rfl (by go_simp) ⟨_,rfl,rfl,fun _=>rfl⟩
    case s9 =>
     intro a w1 hw hO hN
     obtain rfl:w1=w3.drew:=hw (by decide)
     obtain ⟨v8,g8,r8⟩:=hN 8 (by decide)
     have g8:a.tmps[38]?=some v8:=g8
     have e8:v8=.pointer (some ⟨br,ob+k,none⟩):=r8
     rw [e8] at g8
     exact relVal rfl (.slice qb rw.length nb) _ rfl (by go_simp) ⟨_,rfl,rfl,fun _=>rfl⟩
    case s10 =>
     intro a w1 hw hO hN
     obtain rfl:w1=w3.drew:=hw (by decide)
     obtain ⟨v4,g4,r4⟩:=hN 4 (by decide)
     have g4:a.tmps[34]?=some v4:=g4
     have e4:v4=.slice qa rw.length na:=r4
     rw [e4] at g4
     obtain ⟨v9,g9,r9⟩:=hN 9 (by decide)
     have g9:a.tmps[39]?=some v9:=g9
     have e9:v9=.slice qb rw.length nb:=r9
     rw [e9] at g9
     refine relCallF rfl rfl 17 [.tmp 34,.tmp 39] #[27,27] rfl [.slice qa rw.length na,.slice qb rw.length nb] (by simp [Act.eval,g4,g9]) (enters_of Try.func17 (by kernel_rfl) rfl) (Calls.mono (KX.out w3.drew (Below.refl _ _).drew) ?_)
     rintro e w5 ⟨rfl,hb5⟩
     exact ⟨_,rfl,_,rfl,⟨rfl,(Below.refl _ _).drew.trans hb5⟩,fun h=>absurd rfl h⟩
    case s11 =>
     intro a w1 hw hO hN
     obtain ⟨v10,g10,r10⟩:=hN 10 (by decide)
     have g10:a.tmps[40]?=some v10:=g10
     obtain ⟨e10,hb5⟩:=r10
     rw [e10] at g10
     exact relVal rfl (.bool false) _ rfl (by go_simp) ⟨_,rfl,⟨rfl,hb5⟩,fun _=>rfl⟩
   case fin =>
    intro vs w1 hV
    obtain ⟨e11,hb9⟩:vs 11=.bool false∧Below w3.heap.size w3 w1:=hV 11 (by decide)
    have HB9:=show Hid (Below w2.heap.size w2 w1) from HB3.out.trans (hb9.mono HB3.out.size)
    simp only [putAll,Act.put,List.setIfInBounds_toArray,List.set_cons_zero,List.set_cons_succ,e11]
    clear hV e11 hb9 KX HB3 a3 a4 a5 a6
    go_wp2_with fail
    go_roundw
    case rel=>exact ⟨k+1,by omega,val_int (by omega),HB9.out⟩
    case measure=>(simp only [intOf];omega)
  ·obtain rfl:k=m.up.length:=by omega
   go_wp2_with fail
   clear a3
   go_loopw [6] (fun i wr=>∃ k:Nat,k≤m.val.length∧i=.int .i64 (k:Int)∧Hid (Below w2.heap.size w2 wr)) (fun i _=>m.val.length - (intOf i).toNat)
   case atStart=>exact ⟨0,Nat.zero_le _,rfl,HB3.out⟩
   case round =>
    obtain ⟨k,hk,rfl,HB3⟩:=hrel
    obtain ⟨w3,hw3⟩:∃ w3,w3=wr:=⟨_,rfl⟩
    rw [← hw3] at HB3 ⊢
    clear hw3
    have a3:=(HCq.out w3 HB3.out).2.1
    by_cases hlt:k<m.val.length
    ·obtain ⟨ar,oa,qa,na,br,ob,qb,nb,rfl,rfl,hcc⟩:=HV.out k hlt
     have a4:=(HCq.out w3 HB3.out).2.2.2
     obtain ⟨a5,a6,-⟩:=hcc w3 (HW.out w3 HB3.out)
     have KX:=show Hid (∀ W,Below w3.heap.size w3 W→Calls Try.prog 24 #[.slice qa m.val[k].length na,.slice qb m.val[k].length nb] W fun e w'=>e=.returned (.bool true)∧Below W.heap.size W w') from fun W hW=>(hcc W (HW.out W (HB3.out.trans (hW.mono HB3.out.size)))).2.2
     have hki:(k:Int)<(m.val.length:Int):=by omega
     clear hcc
     generalize m.val[k]=rw at *
     go_wp2_with fail
     refine wp_region_one (by kernel_rfl) 10 [some 49,some 50,some 51,some 52,some 53,some 54,some 55,some 56,some 57,some 58,some 59,some 60] [[],[0],[],[1,2],[3],[],[5],[],[6,7],[8],[4,9],[10]] [[],[0],[],[1,0,2],[3,1,0,2],[],[5],[],[6,5,7],[8,6,5,7],[4,3,1,0,2,9,8,6,5,7],[10,4,3,1,0,2,9,8,6,5,7]] (by kernel_rfl) (by decide) (fun ii vv w1=>match ii with | 0=>vv=.pointer (some ⟨b1,1,none⟩) | 1=>vv=.slice (some ⟨ar,oa,none⟩) m.val.length da | 2=>vv=.int .i64 (k:Int) | 3=>vv=.pointer (some ⟨ar,oa+k,none⟩) | 4=>vv=.slice qa rw.length na | 5=>vv=.pointer (some ⟨b2,1,none⟩) | 6=>vv=.slice (some ⟨br,ob,none⟩) m.val.length db | 7=>vv=.int .i64 (k:Int) | 8=>vv=.pointer (some ⟨br,ob+k,none⟩) | 9=>vv=.slice qb rw.length nb | 10=>vv=.bool true∧Below w3.heap.size w3 w1 | 11=>vv=.bool false∧Below w3.heap.size w3 w1 | _=>True) ?hfree (allLt 12 ?steps) ?fin
     case hfree =>
      intro j v w1 w2 hj hn h
      match j,h,hj,hn with
      | 0,h,_,_=>exact h
      | 1,h,_,_=>exact h
      | 2,h,_,_=>exact h
      | 3,h,_,_=>exact h
      | 4,h,_,_=>exact h
      | 5,h,_,_=>exact h
      | 6,h,_,_=>exact h
      | 7,h,_,_=>exact h
      | 8,h,_,_=>exact h
      | 9,h,_,_=>exact h
      | 10,_,hj,_=>exact absurd rfl hj
      | 11,_,_,hn=>exact absurd (by decide) hn
      | _+12,_,_,_=>trivial
     case steps =>
      refine ⟨⟨⟨⟨⟨⟨⟨⟨⟨⟨⟨⟨trivial,?s0⟩,?s1⟩,?s2⟩,?s3⟩,?s4⟩,?s5⟩,?s6⟩,?s7⟩,?s8⟩,?s9⟩,?s10⟩,?s11⟩
      case s0 =>
       intro a w1 hw hO hN
       obtain rfl:w1=w3.drew:=hw (by decide)
       have o2:a.tmps[2]?=some (.pointer (some ⟨b1,0,none⟩)):=(hO.out 2 (by decide)).trans rfl
       exact relVal rfl (.pointer (some ⟨b1,1,none⟩)) _ rfl (by go_simp) ⟨_,rfl,rfl,fun _=>rfl⟩
      case s1 =>
       intro a w1 hw hO hN
       obtain rfl:w1=w3.drew:=hw (by decide)
       obtain ⟨v0,g0,r0⟩:=hN 0 (by decide)
       have g0:a.tmps[49]?=some v0:=g0
       have e0:v0=.pointer (some ⟨b1,1,none⟩):=r0
       rw [e0] at g0
       exact relVal rfl (.slice (some ⟨ar,oa,none⟩) m.val.length da) _ rfl (by go_simp) ⟨_,rfl,rfl,fun _=>rfl⟩
      case s2 =>
       intro a w1 hw hO hN
       obtain rfl:w1=w3.drew:=hw (by decide)
       have o6:a.tmps[6]?=some (.int .i64 (k:Int)):=(hO.out 6 (by decide)).trans rfl
       exact relVal rfl (.int .i64 (k:Int)) _ rfl (by go_simp) ⟨_,rfl,rfl,fun _=>rfl⟩
      case s3 =>
       intro a w1 hw hO hN
       obtain rfl:w1=w3.drew:=hw (by decide)
       obtain ⟨v1,g1,r1⟩:=hN 1 (by decide)
       have g1:a.tmps[50]?=some v1:=g1
       have e1:v1=.slice (some ⟨ar,oa,none⟩) m.val.length da:=r1
       rw [e1] at g1
       obtain ⟨v2,g2,r2⟩:=hN 2 (by decide)
       have g2:a.tmps[51]?=some v2:=g2
       have e2:v2=.int .i64 (k:Int):=r2
       rw [e2] at g2
       exact relVal rfl (.pointer (some ⟨ar,oa+k,none⟩)) _ rfl (by go_simp) ⟨_,rfl,rfl,fun _=>rfl⟩
      case s4 =>
       intro a w1 hw hO hN
       obtain rfl:w1=w3.drew:=hw (by decide)
       obtain ⟨v3,g3,r3⟩:=hN 3 (by decide)
       have g3:a.tmps[52]?=some v3:=g3
       have e3:v3=.pointer (some ⟨ar,oa+k,none⟩):=r3
       rw [e3] at g3
       exact relVal rfl (.slice qa rw.length na) _ rfl (by go_simp) ⟨_,rfl,rfl,fun _=>rfl⟩
      case s5 =>
       intro a w1 hw hO hN
       obtain rfl:w1=w3.drew:=hw (by decide)
       have o3:a.tmps[3]?=some (.pointer (some ⟨b2,0,none⟩)):=(hO.out 3 (by decide)).trans rfl
       exact relVal rfl (.pointer (some ⟨b2,1,none⟩)) _ rfl (by go_simp) ⟨_,rfl,rfl,fun _=>rfl⟩
      case s6 =>
       intro a w1 hw hO hN
       obtain rfl:w1=w3.drew:=hw (by decide)
       obtain ⟨v5,g5,r5⟩:=hN 5 (by decide)
       have g5:a.tmps[54]?=some v5:=g5
       have e5:v5=.pointer (some ⟨b2,1,none⟩):=r5
       rw [e5] at g5
       exact relVal rfl (.slice (some ⟨br,ob,none⟩) m.val.length db) _ rfl (by go_simp) ⟨_,rfl,rfl,fun _=>rfl⟩
      case s7 =>
       intro a w1 hw hO hN
       obtain rfl:w1=w3.drew:=hw (by decide)
       have o6:a.tmps[6]?=some (.int .i64 (k:Int)):=(hO.out 6 (by decide)).trans rfl
       exact relVal rfl (.int .i64 (k:Int)) _ rfl (by go_simp) ⟨_,rfl,rfl,fun _=>rfl⟩
      case s8 =>
       intro a w1 hw hO hN
       obtain rfl:w1=w3.drew:=hw (by decide)
       obtain ⟨v6,g6,r6⟩:=hN 6 (by decide)
       have g6:a.tmps[55]?=some v6:=g6
       have e6:v6=.slice (some ⟨br,ob,none⟩) m.val.length db:=r6
       rw [e6] at g6
       obtain ⟨v7,g7,r7⟩:=hN 7 (by decide)
       have g7:a.tmps[56]?=some v7:=g7
       have e7:v7=.int .i64 (k:Int):=r7
       rw [e7] at g7
       exact relVal rfl (.pointer (some ⟨br,ob+k,none⟩)) _ rfl (by go_simp) ⟨_,rfl,rfl,fun _=>rfl⟩
      case s9 =>
       intro a w1 hw hO hN
       obtain rfl:w1=w3.drew:=hw (by decide)
       obtain ⟨v8,g8,r8⟩:=hN 8 (by decide)
       have g8:a.tmps[57]?=some v8:=g8
       have e8:v8=.pointer (some ⟨br,ob+k,none⟩):=r8
       rw [e8] at g8
       exact relVal rfl (.slice qb rw.length nb) _ rfl (by go_simp) ⟨_,rfl,rfl,fun _=>rfl⟩
      case s10 =>
       intro a w1 hw hO hN
       obtain rfl:w1=w3.drew:=hw (by decide)
       obtain ⟨v4,g4,r4⟩:=hN 4 (by decide)
       have g4:a.tmps[53]?=some v4:=g4
       have e4:v4=.slice qa rw.length na:=r4
       rw [e4] at g4
       obtain ⟨v9,g9,r9⟩:=hN 9 (by decide)
       have g9:a.tmps[58]?=some v9:=g9
       have e9:v9=.slice qb rw.length nb:=r9
       rw [e9] at g9
       refine relCallF rfl rfl 24 [.tmp 53,.tmp 58] #[34,34] rfl [.slice qa rw.length na,.slice qb rw.length nb] (by simp [Act.eval,g4,g9]) (enters_of Try.func24 (by kernel_rfl) rfl) (Calls.mono (KX.out w3.drew (Below.refl _ _).drew) ?_)
       rintro e w5 ⟨rfl,hb5⟩
       exact ⟨_,rfl,_,rfl,⟨rfl,(Below.refl _ _).drew.trans hb5⟩,fun h=>absurd rfl h⟩
      case s11 =>
       intro a w1 hw hO hN
       obtain ⟨v10,g10,r10⟩:=hN 10 (by decide)
       have g10:a.tmps[59]?=some v10:=g10
       obtain ⟨e10,hb5⟩:=r10
       rw [e10] at g10
       exact relVal rfl (.bool false) _ rfl (by go_simp) ⟨_,rfl,⟨rfl,hb5⟩,fun _=>rfl⟩
     case fin =>
      intro vs w1 hV
      obtain ⟨e11,hb9⟩:vs 11=.bool false∧Below w3.heap.size w3 w1:=hV 11 (by decide)
      have HB9:=show Hid (Below w2.heap.size w2 w1) from HB3.out.trans (hb9.mono HB3.out.size)
      simp only [putAll,Act.put,List.setIfInBounds_toArray,List.set_cons_zero,List.set_cons_succ,e11]
      clear hV e11 hb9 KX HB3 a3 a4 a5 a6
      go_wp2_with fail
      go_roundw
      case rel=>exact ⟨k+1,by omega,val_int (by omega),HB9.out⟩
      case measure=>(simp only [intOf];omega)
    ·obtain rfl:k=m.val.length:=by omega
     go_wp2_with fail
     go_ret
     exact ⟨rfl,HW.out _ HB3.out⟩
end Go.Proofs.Ytoedidbbjnnpnaa.Wm
