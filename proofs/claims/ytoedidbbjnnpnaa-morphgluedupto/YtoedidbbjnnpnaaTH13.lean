/-
  The document's comparisons: Ints, Names, Same. No condition.
-/
import Derived.Test.YtoedidbbjnnpnaaTH10
namespace Go.Proofs.Ytoedidbbjnnpnaa.Wm
open Go.RowKit Go.Maps
open Wd (Md)
set_option linter.unusedSimpArgs false
set_option maxRecDepth 100000 in
set_option maxHeartbeats 2000000 in
theorem ints_any (w:World) {La Lb:Nat} {u v:Value} {a b:List Int} (ha:IsI w La u a) (hb:IsI w Lb v b) (hla:a.length≤140737488351232) (hlb:b.length≤140737488351232) :
 Calls Try.prog 17 #[u,v] w fun e w'=>(∃ r:Bool,e=.returned (.bool r)∧(r=true ↔ a=b))∧Below w.heap.size w w':=by
 obtain ⟨p,c,rfl,hat⟩:=ha
 obtain ⟨q,d,rfl,hbt⟩:=hb
 have HA:=show Hid (∀ (j:Nat) (hj:j<a.length),∃ bb o,bb<w.heap.size∧p=some ⟨bb,o,none⟩∧w.cell? ⟨bb,o+j,none⟩=some (.int .i64 a[j])) from fun j hj=>by
  obtain ⟨bb,o,_,h1,h2⟩:=hat (by omega)
  obtain ⟨x,hx,rfl⟩:=h2 j hj
  exact ⟨bb,o,World.block_lt_of_cell? w _ hx,h1,hx⟩
 have HB:=show Hid (∀ (j:Nat) (hj:j<b.length),∃ bb o,bb<w.heap.size∧q=some ⟨bb,o,none⟩∧w.cell? ⟨bb,o+j,none⟩=some (.int .i64 b[j])) from fun j hj=>by
  obtain ⟨bb,o,_,h1,h2⟩:=hbt (by omega)
  obtain ⟨x,hx,rfl⟩:=h2 j hj
  exact ⟨bb,o,World.block_lt_of_cell? w _ hx,h1,hx⟩
 clear hat hbt
 by_cases hl:a.length=b.length
 ·have hli:((a.length:Int) != (b.length:Int))=false:=by simp [hl]
  have HL:=show Hid (a.length=b.length) from hl
  clear hl
  go_enter Try.func17,Try.ntmps17
  go_wp2_with fail
  go_loopw [5] (fun i wr=>∃ k:Nat,k≤a.length∧i=.int .i64 (k:Int)∧Hid (Below w.heap.size w wr∧∀ (j:Nat) (h1:j<a.length) (h2:j<b.length),j<k→a[j]=b[j])) (fun i _=>a.length - (intOf i).toNat)
  case atStart=>exact ⟨0,Nat.zero_le _,rfl,Below.refl _ _,fun _ _ _ h=>absurd h (Nat.not_lt_zero _)⟩
  case round =>
   obtain ⟨k,hk,rfl,HI⟩:=hrel
   by_cases hlt:k<a.length
   ·have hltb:k<b.length:=by have:=HL.out;omega
    obtain ⟨ba,oa,hba,rfl,hca⟩:=HA.out k hlt
    obtain ⟨bb,ob,hbb,rfl,hcb⟩:=HB.out k hltb
    have ha2:wr.cell? ⟨ba,oa+k,none⟩=some (.int .i64 a[k]):=(HI.out.1.cell (p:=⟨ba,oa+k,none⟩) hba).trans hca
    have hb2:wr.cell? ⟨bb,ob+k,none⟩=some (.int .i64 b[k]):=(HI.out.1.cell (p:=⟨bb,ob+k,none⟩) hbb).trans hcb
    have HS:=show Hid (a[k]=b[k]→∀ (j:Nat) (h1:j<a.length) (h2:j<b.length),j<k+1→a[j]=b[j]) from fun h j h1 h2 hj=>by
     by_cases e:j=k
     ·subst e;exact h
     ·exact HI.out.2 j h1 h2 (by omega)
    have HN:=show Hid (a[k]≠b[k]→¬ a=b) from fun h e=>h (by subst e;rfl)
    have HBL:=show Hid (Below w.heap.size w wr) from HI.out.1
    have hki:(k:Int)<(a.length:Int):=by omega
    have hkj:(k:Int)<(b.length:Int):=by omega
    clear hca hcb HA HB HI
    generalize a[k]=x at *
    generalize b[k]=y at *
    by_cases exy:x=y
    ·have HS2:=show Hid _ from HS.out exy
     have hne:(x != y)=false:=by simp [exy]
     clear HS HN exy
     go_wp2_with fail
     go_region
     go_wp2_with fail
     go_roundw
     case rel=>exact ⟨k+1,by omega,val_int (by omega),HBL.out.drew,HS2.out⟩
     case measure=>(simp only [intOf];omega)
    ·have HN2:=show Hid _ from HN.out exy
     have hne:(x != y)=true:=by simpa using exy
     clear HS HN exy
     go_wp2_with fail
     go_region
     go_wp2_with fail
     go_ret
     first | exact ⟨⟨false,rfl,⟨fun h=>(by cases h),fun h=>absurd h HN2.out⟩⟩,HBL.out.drew⟩ | exact ⟨Or.inl ⟨rfl,HN2.out⟩,HBL.out.drew⟩
   ·have HE:=show Hid (a=b) from List.ext_getElem HL.out fun j h1 h2=>HI.out.2 j h1 h2 (by omega)
    go_wp2_with fail
    go_ret
    first | exact ⟨⟨true,rfl,⟨fun _=>HE.out,fun _=>rfl⟩⟩,HI.out.1⟩ | exact ⟨Or.inr ⟨rfl,HE.out⟩,HI.out.1⟩
 ·have hli:((a.length:Int) != (b.length:Int))=true:=by simp;omega
  have HN:=show Hid (¬ a=b) from fun e=>hl (by rw [e])
  clear hl
  go_enter Try.func17,Try.ntmps17
  go_wp2_with fail
  go_ret
  first | exact ⟨⟨false,rfl,⟨fun h=>(by cases h),fun h=>absurd h HN.out⟩⟩,Below.refl _ _⟩ | exact ⟨Or.inl ⟨rfl,HN.out⟩,Below.refl _ _⟩
set_option maxRecDepth 100000 in
set_option maxHeartbeats 2000000 in
theorem rnames_any (w:World) {La Lb:Nat} {u v:Value} {a b:List ByteArray} (ha:IsN w La u a) (hb:IsN w Lb v b) (hla:a.length≤140737488351232) (hlb:b.length≤140737488351232) :
 Calls Try.prog 24 #[u,v] w fun e w'=>(∃ r:Bool,e=.returned (.bool r)∧(r=true ↔ a=b))∧Below w.heap.size w w':=by
 obtain ⟨p,c,rfl,hat⟩:=ha
 obtain ⟨q,d,rfl,hbt⟩:=hb
 have HA:=show Hid (∀ (j:Nat) (hj:j<a.length),∃ bb o,bb<w.heap.size∧p=some ⟨bb,o,none⟩∧w.cell? ⟨bb,o+j,none⟩=some (.string a[j])) from fun j hj=>by
  obtain ⟨bb,o,_,h1,h2⟩:=hat (by omega)
  obtain ⟨x,hx,rfl⟩:=h2 j hj
  exact ⟨bb,o,World.block_lt_of_cell? w _ hx,h1,hx⟩
 have HB:=show Hid (∀ (j:Nat) (hj:j<b.length),∃ bb o,bb<w.heap.size∧q=some ⟨bb,o,none⟩∧w.cell? ⟨bb,o+j,none⟩=some (.string b[j])) from fun j hj=>by
  obtain ⟨bb,o,_,h1,h2⟩:=hbt (by omega)
  obtain ⟨x,hx,rfl⟩:=h2 j hj
  exact ⟨bb,o,World.block_lt_of_cell? w _ hx,h1,hx⟩
 clear hat hbt
 by_cases hl:a.length=b.length
 ·have hli:((a.length:Int) != (b.length:Int))=false:=by simp [hl]
  have HL:=show Hid (a.length=b.length) from hl
  clear hl
  go_enter Try.func24,Try.ntmps24
  go_wp2_with fail
  go_loopw [5] (fun i wr=>∃ k:Nat,k≤a.length∧i=.int .i64 (k:Int)∧Hid (Below w.heap.size w wr∧∀ (j:Nat) (h1:j<a.length) (h2:j<b.length),j<k→a[j]=b[j])) (fun i _=>a.length - (intOf i).toNat)
  case atStart=>exact ⟨0,Nat.zero_le _,rfl,Below.refl _ _,fun _ _ _ h=>absurd h (Nat.not_lt_zero _)⟩
  case round =>
   obtain ⟨k,hk,rfl,HI⟩:=hrel
   by_cases hlt:k<a.length
   ·have hltb:k<b.length:=by have:=HL.out;omega
    obtain ⟨ba,oa,hba,rfl,hca⟩:=HA.out k hlt
    obtain ⟨bb,ob,hbb,rfl,hcb⟩:=HB.out k hltb
    have ha2:wr.cell? ⟨ba,oa+k,none⟩=some (.string a[k]):=(HI.out.1.cell (p:=⟨ba,oa+k,none⟩) hba).trans hca
    have hb2:wr.cell? ⟨bb,ob+k,none⟩=some (.string b[k]):=(HI.out.1.cell (p:=⟨bb,ob+k,none⟩) hbb).trans hcb
    have HS:=show Hid (a[k]=b[k]→∀ (j:Nat) (h1:j<a.length) (h2:j<b.length),j<k+1→a[j]=b[j]) from fun h j h1 h2 hj=>by
     by_cases e:j=k
     ·subst e;exact h
     ·exact HI.out.2 j h1 h2 (by omega)
    have HN:=show Hid (a[k]≠b[k]→¬ a=b) from fun h e=>h (by subst e;rfl)
    have HBL:=show Hid (Below w.heap.size w wr) from HI.out.1
    have hki:(k:Int)<(a.length:Int):=by omega
    have hkj:(k:Int)<(b.length:Int):=by omega
    clear hca hcb HA HB HI
    generalize a[k]=x at *
    generalize b[k]=y at *
    by_cases exy:x=y
    ·have HS2:=show Hid _ from HS.out exy
     have hne:=beqS_eq exy
     clear HS HN exy
     go_wp2_with fail
     go_region
     go_wp2_with fail
     go_roundw
     case rel=>exact ⟨k+1,by omega,val_int (by omega),HBL.out.drew,HS2.out⟩
     case measure=>(simp only [intOf];omega)
    ·have HN2:=show Hid _ from HN.out exy
     have hne:=beqS_ne exy
     clear HS HN exy
     go_wp2_with fail
     go_region
     go_wp2_with fail
     go_ret
     first | exact ⟨⟨false,rfl,⟨fun h=>(by cases h),fun h=>absurd h HN2.out⟩⟩,HBL.out.drew⟩ | exact ⟨Or.inl ⟨rfl,HN2.out⟩,HBL.out.drew⟩
   ·have HE:=show Hid (a=b) from List.ext_getElem HL.out fun j h1 h2=>HI.out.2 j h1 h2 (by omega)
    go_wp2_with fail
    go_ret
    first | exact ⟨⟨true,rfl,⟨fun _=>HE.out,fun _=>rfl⟩⟩,HI.out.1⟩ | exact ⟨Or.inr ⟨rfl,HE.out⟩,HI.out.1⟩
 ·have hli:((a.length:Int) != (b.length:Int))=true:=by simp;omega
  have HN:=show Hid (¬ a=b) from fun e=>hl (by rw [e])
  clear hl
  go_enter Try.func24,Try.ntmps24
  go_wp2_with fail
  go_ret
  first | exact ⟨⟨false,rfl,⟨fun h=>(by cases h),fun h=>absurd h HN.out⟩⟩,Below.refl _ _⟩ | exact ⟨Or.inl ⟨rfl,HN.out⟩,Below.refl _ _⟩
end Go.Proofs.Ytoedidbbjnnpnaa.Wm
/-
  What must come at any rate: heads answers true. The tables that the library reads stand.
-/
namespace Go.Proofs.Ytoedidbbjnnpnaa.Wm
open Go.RowKit Go.Maps
open Wd (Md vl)
set_option linter.unusedSimpArgs false
section
variable {ops:Array Oper} {rest:List Oper} {o:Oper} {a:Act} {Q:Exit→Act→World→Prop} {w:World}
theorem wpList_mk {T0:TypeId} {k0:Nat} {xs:Array (Nat × Operand)} (_:o.op=Op.buildSlice T0 k0 xs) (hg:Region.wanted o (yielded ops a.tmps)=true) (n:Nat) (cs:Array Value) (E:TypeId) (hr:∀ w:World,(execOp a.eval o).run Try.prog w=.ok (.value (.slice (some ⟨w.heap.size,0,none⟩) n n)) (w.alloc (.cells cs E)))
 (hK:∀ w' q,New w w' q cs E→wpList Try.prog ops Q rest (a.put o.dst (.slice (some ⟨q,0,none⟩) n n)) w'):wpList Try.prog ops Q (o :: rest) a w:=by
 refine wpList_want hg fun K' hK' => ?_
 unfold Oper.wp
 rw [hr w,Oper.upon_value]
 exact hK' _ _ (hK _ _ (new_alloc w _ _))
end
theorem isS_new {α:Type} {w:World} {L b:Nat} {cs:Array Value} {T:TypeId} {R:α→Value→Prop} {l:List α} (hb:Cl w b cs T) (hL:b<L) (h:∀ (j:Nat) (hj:j<l.length),∃ x,cs[j]?=some x∧R l[j] x):IsS w L R (.slice (some ⟨b,0,none⟩) l.length l.length) l :=
 ⟨_,_,rfl,fun _=>⟨b,0,hL,rfl,fun j hj=>by
  obtain ⟨x,hx,hr⟩:=h j hj
  exact ⟨x,by rw [Nat.zero_add];exact (hb.cell j).trans hx,hr⟩⟩⟩
theorem isS_nil {α:Type} (w:World) (L:Nat) (R:α→Value→Prop):IsS w L R (.slice none 0 0) []:=⟨none,0,rfl,fun h=>absurd h (by simp)⟩
set_option maxRecDepth 100000 in
set_option maxHeartbeats 2000000 in
theorem diamond_any (w:World):Calls Try.prog 42 #[] w fun e w'=>∃ uv vv,e=.returned (.agg #[uv,vv])∧IsM w' w'.heap.size uv vv dmd∧Below w.heap.size w w':=by
 go_enter Try.func42,Try.ntmps42
 go_wp2_with (refine wpList_alloc 25 rfl _ zero_md rfl ?_)
 intro w0 b0 hn0
 go_wp2_with (refine wpList_mk rfl rfl 2 #[.int .i64 1,.int .i64 2] 3 (fun w=>by kernel_rfl) ?_)
 intro w1 b1 hn1
 go_wp2_with (refine wpList_mk rfl rfl 1 #[.int .i64 3] 3 (fun w=>by kernel_rfl) ?_)
 intro w2 b2 hn2
 go_wp2_with (refine wpList_mk rfl rfl 1 #[.int .i64 3] 3 (fun w=>by kernel_rfl) ?_)
 intro w3 b3 hn3
 go_wp2_with (refine wpList_mk rfl rfl 4 #[.slice (some ⟨b1,0,none⟩) 2 2,.slice (some ⟨b2,0,none⟩) 1 1,.slice (some ⟨b3,0,none⟩) 1 1,.slice none 0 0] 27 (fun w=>by kernel_rfl) ?_)
 intro w4 b4 hn4
 go_wp2_with (refine wpList_mk rfl rfl 1 #[.string bp] 9 (fun w=>by kernel_rfl) ?_)
 intro w5 b5 hn5
 go_wp2_with (refine wpList_mk rfl rfl 1 #[.string bp] 9 (fun w=>by kernel_rfl) ?_)
 intro w6 b6 hn6
 go_wp2_with (refine wpList_mk rfl rfl 2 #[.string bp,.string bq] 9 (fun w=>by kernel_rfl) ?_)
 intro w7 b7 hn7
 go_wp2_with (refine wpList_mk rfl rfl 4 #[.slice none 0 0,.slice (some ⟨b5,0,none⟩) 1 1,.slice (some ⟨b6,0,none⟩) 1 1,.slice (some ⟨b7,0,none⟩) 2 2] 34 (fun w=>by kernel_rfl) ?_)
 intro w8 b8 hn8
 have HB:=show Hid (Below w.heap.size w w8) from by
  have h:=hn0.bel
  have h:=h.trans (hn1.bel.mono h.size)
  have h:=h.trans (hn2.bel.mono h.size)
  have h:=h.trans (hn3.bel.mono h.size)
  have h:=h.trans (hn4.bel.mono h.size)
  have h:=h.trans (hn5.bel.mono h.size)
  have h:=h.trans (hn6.bel.mono h.size)
  have h:=h.trans (hn7.bel.mono h.size)
  have h:=h.trans (hn8.bel.mono h.size)
  exact h
 have k1:Cl w8 b1 #[.int .i64 1,.int .i64 2] 3:=(Cl.later (Cl.later (Cl.later (Cl.later (Cl.later (Cl.later (Cl.later (show Cl w1 b1 #[.int .i64 1,.int .i64 2] 3 from hn1.blk) hn2.bel) hn3.bel) hn4.bel) hn5.bel) hn6.bel) hn7.bel) hn8.bel)
 have k2:Cl w8 b2 #[.int .i64 3] 3:=(Cl.later (Cl.later (Cl.later (Cl.later (Cl.later (Cl.later (show Cl w2 b2 #[.int .i64 3] 3 from hn2.blk) hn3.bel) hn4.bel) hn5.bel) hn6.bel) hn7.bel) hn8.bel)
 have k3:Cl w8 b3 #[.int .i64 3] 3:=(Cl.later (Cl.later (Cl.later (Cl.later (Cl.later (show Cl w3 b3 #[.int .i64 3] 3 from hn3.blk) hn4.bel) hn5.bel) hn6.bel) hn7.bel) hn8.bel)
 have k4:Cl w8 b4 #[.slice (some ⟨b1,0,none⟩) 2 2,.slice (some ⟨b2,0,none⟩) 1 1,.slice (some ⟨b3,0,none⟩) 1 1,.slice none 0 0] 27:=(Cl.later (Cl.later (Cl.later (Cl.later (show Cl w4 b4 #[.slice (some ⟨b1,0,none⟩) 2 2,.slice (some ⟨b2,0,none⟩) 1 1,.slice (some ⟨b3,0,none⟩) 1 1,.slice none 0 0] 27 from hn4.blk) hn5.bel) hn6.bel) hn7.bel) hn8.bel)
 have k5:Cl w8 b5 #[.string bp] 9:=(Cl.later (Cl.later (Cl.later (show Cl w5 b5 #[.string bp] 9 from hn5.blk) hn6.bel) hn7.bel) hn8.bel)
 have k6:Cl w8 b6 #[.string bp] 9:=(Cl.later (Cl.later (show Cl w6 b6 #[.string bp] 9 from hn6.blk) hn7.bel) hn8.bel)
 have k7:Cl w8 b7 #[.string bp,.string bq] 9:=(Cl.later (show Cl w7 b7 #[.string bp,.string bq] 9 from hn7.blk) hn8.bel)
 have k8:Cl w8 b8 #[.slice none 0 0,.slice (some ⟨b5,0,none⟩) 1 1,.slice (some ⟨b6,0,none⟩) 1 1,.slice (some ⟨b7,0,none⟩) 2 2] 34:=(show Cl w8 b8 #[.slice none 0 0,.slice (some ⟨b5,0,none⟩) 1 1,.slice (some ⟨b6,0,none⟩) 1 1,.slice (some ⟨b7,0,none⟩) 2 2] 34 from hn8.blk)
 have k0:Cl w8 b0 #[.slice none 0 0,.slice none 0 0] 25:=(Cl.later (Cl.later (Cl.later (Cl.later (Cl.later (Cl.later (Cl.later (Cl.later (show Cl w0 b0 #[.slice none 0 0,.slice none 0 0] 25 from hn0.blk) hn1.bel) hn2.bel) hn3.bel) hn4.bel) hn5.bel) hn6.bel) hn7.bel) hn8.bel)
 have hne:∀ j,j ∈ [b1,b2,b3,b4,b5,b6,b7,b8]→j≠b0:=by
  have e0:=hn0.up
  have e1:=hn1.eq;have e2:=hn1.up;have e3:=hn2.eq;have e4:=hn2.up;have e5:=hn3.eq;have e6:=hn3.up;have e7:=hn4.eq;have e8:=hn4.up;have e9:=hn5.eq;have e10:=hn5.up;have e11:=hn6.eq;have e12:=hn6.up;have e13:=hn7.eq;have e14:=hn7.up;have e15:=hn8.eq
  intro j hj
  simp only [List.mem_cons,List.not_mem_nil,or_false] at hj
  omega
 have HK0:=show Hid (Cl w8 b0 #[.slice none 0 0,.slice none 0 0] 25∧w.heap.size≤b0) from ⟨k0,hn0.ge⟩
 have HM:=show Hid (∀ W:World,Kp (fun k=>k=b0) w8 W→IsM W W.heap.size (.slice (some ⟨b4,0,none⟩) 4 4) (.slice (some ⟨b8,0,none⟩) 4 4) dmd) from fun W hk=>by
  have hl:∀ {j:Nat} {cs:Array Value} {T:TypeId},Cl w8 j cs T→j≠b0→Cl W j cs T∧j<W.heap.size:=fun h hj=>⟨h.kp hk hj,(h.kp hk hj).lt⟩
  have m1:=hl k1 (hne b1 (by simp));have m2:=hl k2 (hne b2 (by simp));have m3:=hl k3 (hne b3 (by simp));have m4:=hl k4 (hne b4 (by simp))
  have m5:=hl k5 (hne b5 (by simp));have m6:=hl k6 (hne b6 (by simp));have m7:=hl k7 (hne b7 (by simp));have m8:=hl k8 (hne b8 (by simp))
  refine ⟨isS_new (l:=dmd.up) m4.1 m4.2 fun j hj => ?_,isS_new (l:=dmd.val) m8.1 m8.2 fun j hj => ?_⟩
  ·match j,hj with
   | 0,_=>exact ⟨_,rfl,isS_new (l:=[1,2]) m1.1 m1.2 fun j hj=>by
    match j,hj with
    | 0,_=>exact ⟨_,rfl,rfl⟩
    | 1,_=>exact ⟨_,rfl,rfl⟩⟩
   | 1,_=>exact ⟨_,rfl,isS_new (l:=[3]) m2.1 m2.2 fun j hj=>by
    match j,hj with
    | 0,_=>exact ⟨_,rfl,rfl⟩⟩
   | 2,_=>exact ⟨_,rfl,isS_new (l:=[3]) m3.1 m3.2 fun j hj=>by
    match j,hj with
    | 0,_=>exact ⟨_,rfl,rfl⟩⟩
   | 3,_=>exact ⟨_,rfl,isS_nil _ _ _⟩
  ·match j,hj with
   | 0,_=>exact ⟨_,rfl,isS_nil _ _ _⟩
   | 1,_=>exact ⟨_,rfl,isS_new (l:=[bp]) m5.1 m5.2 fun j hj=>by
    match j,hj with
    | 0,_=>exact ⟨_,rfl,rfl⟩⟩
   | 2,_=>exact ⟨_,rfl,isS_new (l:=[bp]) m6.1 m6.2 fun j hj=>by
    match j,hj with
    | 0,_=>exact ⟨_,rfl,rfl⟩⟩
   | 3,_=>exact ⟨_,rfl,isS_new (l:=[bp,bq]) m7.1 m7.2 fun j hj=>by
    match j,hj with
    | 0,_=>exact ⟨_,rfl,rfl⟩
    | 1,_=>exact ⟨_,rfl,rfl⟩⟩
 clear hne k0 k1 k2 k3 k4 k5 k6 k7 k8 hn0 hn1 hn2 hn3 hn4 hn5 hn6 hn7 hn8
 go_wp2_with (refine wpList_st 25 rfl rfl _ _ rfl b0 rfl _ rfl _ _ HK0.out.1 sizeM rfl (by simp [Value.oneCell']) ?_)
 intro w9 hc9 hk9
 have H9:=show Hid (Cl w9 b0 #[.slice (some ⟨b4,0,none⟩) 4 4,.slice (some ⟨b8,0,none⟩) 4 4] 25∧Below w.heap.size w w9) from ⟨hc9,HB.out.trans (hk9.below HB.out.size fun k e=>by have:=HK0.out.2;omega)⟩
 have HM9:=show Hid _ from HM.out w9 hk9
 clear hc9 hk9 HM
 go_wp2_with fail
 refine bodyPost_ret (results_cell_row rfl _ w9 b0 _ _ _ _ rfl H9.out.1 Try.underlying25 rfl sizeM) rfl ?_
 exact ⟨_,_,rfl,HM9.out,H9.out.2⟩
end Go.Proofs.Ytoedidbbjnnpnaa.Wm
