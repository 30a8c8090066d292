/-
  parted: the statement by which a class's row of least worlds grows in its place. No condition.
-/
import Derived.Test.YtoedidbbjnnpnaaTH18
import Derived.Test.YtoedidbbjnnpnaaTH14
namespace Go.Proofs.Ytoedidbbjnnpnaa.Wm
open Go.RowKit Go.Maps
open Wd (upd)
set_option linter.unusedSimpArgs false
set_option linter.unusedVariables false
section
variable {wr:World} {B G n c k b8:Nat} {V:Nat→Value} {F:Nat→List Nat} {fv:Value} {fl:List Nat}
def Gw (wr:World) (B G n c k:Nat) (V:Nat→Value) (F:Nat→List Nat) (v:Value) (W:World):Prop :=
 ∃ W1 W2,Below wr.heap.size wr W1∧W1.grownBy W2 (V c).ownBlock∧W2.ownsRow B 3 1 v ((F c).length+1) (intsV (F c) ++ [.int .i64 (k:Int)])∧(v.ownBlock=(V c).ownBlock∨v.ownBlock=some W1.heap.size)∧(W=W2∨W.cell? ⟨G,c,none⟩≠some (V c))
def LeP (G c:Nat) (V:Nat→Value) (i:Nat) (W W':World):Prop :=
 (i≠7→i≠8→i≠10→W'=W)∧(i=7→Below W.heap.size W W')∧(i=8→W.grownBy W' (V c).ownBlock)∧(i=10→W'.cell? ⟨G,c,none⟩≠some (V c)∧∀ b,b≠G→W'.heap[b]?=W.heap[b]?)
def Nq (G c k:Nat) (V:Nat→Value) (v:Value) (W:World):Prop:=∃ q,v=.slice (some ⟨q,0,none⟩) 1 1∧q≠G∧(V c).ownBlock≠some q∧Cl W q #[.int .i64 (k:Int)] 3
end
structure PJ (w:World) (b3 G n k:Nat) (fv:Value) (E:Nat→Nat→Bool) (cls:Nat→Nat) (V:Nat→Value) (v5:Value) (W:World):Prop where
 bel:Below w.heap.size w W
 box:Cl W b3 #[fv] 90
 mem:PM W (G+1) G n V (fun c=>leastF E cls c k) v5 ((List.range k).map (cnF E))
theorem leastF_len {E:Nat→Nat→Bool} {cls:Nat→Nat} (c k:Nat):(leastF E cls c k).length≤k:=by
 unfold leastF
 have:=List.length_filter_le (fun r=>isRep E r && cls r == c) (List.range k)
 rwa [List.length_range] at this
section
variable {w W W':World} {b3 G n k:Nat} {fv:Value} {E:Nat→Nat→Bool} {cls:Nat→Nat} {V:Nat→Value} {v5:Value}
theorem PJ.later (h:PJ w b3 G n k fv E cls V v5 W) (hb:Below W.heap.size W W'):PJ w b3 G n k fv E cls V v5 W' :=
 ⟨h.bel.trans (hb.mono h.bel.size),h.box.later hb,h.mem.later hb⟩
theorem PJ.G_lt (h:PJ w b3 G n k fv E cls V v5 W):G<W.heap.size:=h.mem.tab.lt
theorem PJ.old (h:PJ w b3 G n k fv E cls V v5 W) (hw:w.heap.size≤b3) (h3:b3<G) {x:Nat} (hx:x=cnF E k) (hr:isRep E k=false) {v':Value} {o:Obj} (ho:W'.ownsRow (G+1) 3 1 v' (((List.range k).map (cnF E)).length+1) (intsV ((List.range k).map (cnF E)) ++ [.int .i64 (x:Int)])) (hg:(W.alloc o).grownBy W' v5.ownBlock) (hn:v'.ownBlock=v5.ownBlock∨v'.ownBlock=some (W.alloc o).heap.size):PJ w b3 G n (k+1) fv E cls V v' W':=by
 have h1:=h.later (below_alloc W o)
 have h2:=h1.mem.growF (xs:=[]) ho hg hn
 have hge:∀ q,v5.ownBlock=some q→G+1≤q:=fun q hq=>(own_blk h1.mem.fin hq).1
 have h3':Cl W' b3 #[fv] 90:=(hg.block b3 h1.box.lt fun e=>by have:=hge _ e.symm;omega).trans h1.box
 refine ⟨h1.bel.grown hg h1.bel.size fun q hq=>by have:=hge q hq;omega,h3',?_⟩
 have e:(fun c=>leastF E cls c (k+1))=fun c=>leastF E cls c k:=by
  funext c
  rw [leastF_succ,hr]
  simp
 rw [e,List.range_succ,List.map_append,List.map_singleton,← hx]
 exact h2
def Fin (W0:World) (B G c k:Nat) (V:Nat→Value) (F:Nat→List Nat) (W:World):Prop :=
 ∃ v W1 W2,Below W0.heap.size W0 W1∧W1.grownBy W2 (V c).ownBlock∧W2.ownsRow B 3 1 v ((F c).length+1) (intsV (F c) ++ [.int .i64 (k:Int)])∧(v.ownBlock=(V c).ownBlock∨v.ownBlock=some W1.heap.size)∧W=W2.setCell ⟨G,c,none⟩ v
theorem PJ.row (h:PJ w b3 G n k fv E cls V v5 W) (hw:w.heap.size≤b3) (h3:b3<G) {c:Nat} (hc:c<n) (hf:Fin W (G+1) G c k V (fun c=>leastF E cls c k) W') :
 ∃ V',Below w.heap.size w W'∧Cl W' b3 #[fv] 90∧PM W' (G+1) G n V' (upd (fun c=>leastF E cls c k) c (leastF E cls c k ++ [k])) v5 ((List.range k).map (cnF E)):=by
 obtain ⟨v,W1,W2,hb,hg,ho,hn,rfl⟩:=hf
 have h1:=h.later hb
 have h2:=h1.mem.growR hc (by have:=h1.G_lt;omega) ho hg hn
 have hge:∀ q,(V c).ownBlock=some q→G+1≤q:=fun q hq=>(own_blk (h1.mem.row c hc) hq).1
 have hB:Below w.heap.size w W2:=h1.bel.grown hg h1.bel.size fun q hq=>by have:=hge q hq;omega
 refine ⟨_,hB.setCell (p:=⟨G,c,none⟩) (by show _≤G;omega) v,?_,h2⟩
 exact (Below.heap_setCell W2 ⟨G,c,none⟩ v b3 (by show b3≠G;omega)).trans ((hg.block b3 h1.box.lt fun e=>by have:=hge _ e.symm;omega).trans h1.box)
theorem PJ.new (hbel:Below w.heap.size w W) (hbox:Cl W b3 #[fv] 90) (hmem:PM W (G+1) G n V (upd (fun c=>leastF E cls c k) (cls k) (leastF E cls (cls k) k ++ [k])) v5 ((List.range k).map (cnF E)))
 (hw:w.heap.size≤b3) (h3:b3<G) (hr:isRep E k=true) {v':Value} {o:Obj} (ho:W'.ownsRow (G+1) 3 1 v' (((List.range k).map (cnF E)).length+1) (intsV ((List.range k).map (cnF E)) ++ [.int .i64 (repsTo E k:Int)])) (hg:(W.alloc o).grownBy W' v5.ownBlock) (hn:v'.ownBlock=v5.ownBlock∨v'.ownBlock=some (W.alloc o).heap.size):PJ w b3 G n (k+1) fv E cls V v' W':=by
 have hb1:=below_alloc W o
 have hm1:=hmem.later hb1
 have h2:=hm1.growF (xs:=[]) ho hg hn
 have hge:∀ q,v5.ownBlock=some q→G+1≤q:=fun q hq=>(own_blk hm1.fin hq).1
 have hbx:=hbox.later hb1
 have hbl:=hbel.trans (hb1.mono hbel.size)
 refine ⟨hbl.grown hg hbl.size fun q hq=>by have:=hge q hq;omega,(hg.block b3 hbx.lt fun e=>by have:=hge _ e.symm;omega).trans hbx,?_⟩
 have e:(fun c=>leastF E cls c (k+1))=upd (fun c=>leastF E cls c k) (cls k) (leastF E cls (cls k) k ++ [k]):=by
  funext c
  rw [leastF_succ,hr]
  by_cases e:c=cls k
  ·subst e
   rw [Wd.upd_same];simp
  ·rw [Wd.upd_other _ _ _ e]
   have:(cls k == c)=false:=by simp;exact fun h=>e h.symm
   rw [this];simp
 rw [e,List.range_succ,List.map_append,List.map_singleton,cn_new hr]
 exact h2
end
theorem nq_le {G c k i:Nat} {V:Nat→Value} {v:Value} {W W':World} (hij:i≠7) (hl:LeP G c V i W W') (h:Nq G c k V v W):Nq G c k V v W':=by
 obtain ⟨q,e,h1,h2,h3⟩:=h
 refine ⟨q,e,h1,h2,?_⟩
 by_cases e8:i=8
 ·exact ((hl.2.2.1 e8).block q h3.lt fun e=>h2 e.symm).trans h3
 ·by_cases e10:i=10
  ·exact ((hl.2.2.2 e10).2 q h1).trans h3
  ·rw [hl.1 hij e8 e10];exact h3
theorem gw_le {wr:World} {B G n c k i:Nat} {V:Nat→Value} {F:Nat→List Nat} {v:Value} {W W':World} (hij:i≠8) (h7:i≠7) (hl:LeP G c V i W W') (h:Gw wr B G n c k V F v W):Gw wr B G n c k V F v W':=by
 obtain ⟨W1,W2,h1,h2,h3,h4,h5⟩:=h
 refine ⟨W1,W2,h1,h2,h3,h4,?_⟩
 by_cases e10:i=10
 ·exact Or.inr (hl.2.2.2 e10).1
 ·rw [hl.1 h7 hij e10];exact h5
theorem bsI (w:World) (n:Int):(Instr.buildSlice 27 1 #[(0,.int .i64 n)]).run Try.prog w=.ok (.slice (some ⟨w.heap.size,0,none⟩) 1 1) (w.alloc (.cells #[.int .i64 n] 3)):=by kernel_rfl
theorem part_find {cls:Nat→Nat} {P:Nat→Nat→Bool} (hE:Eqv (fineE cls P)) (k:Nat) (l:List Int) (hl:l=(leastF (fineE cls P) cls (cls k) k).map fun n:Nat=>(n:Int)) {r:Int}
 (hr:(r = -1∧∀ x ∈ l,(!P x.toNat k)=false)∨∃ (i:Nat) (hi:i<l.length),r=(i:Int)∧(!P (l[i]).toNat k)=true∧∀ (j:Nat) (hj:j<i),(!P (l[j]'(by omega)).toNat k)=false) :
 (r = -1∧isRep (fineE cls P) k=true)∨∃ i v:Nat,r=(i:Int)∧isRep (fineE cls P) k=false∧v<k∧cnF (fineE cls P) v=cnF (fineE cls P) k∧(leastF (fineE cls P) cls (cls k) k)[i]?=some v:=by
 subst hl
 rcases hr with ⟨rfl,h⟩ | ⟨i,hi,rfl,h,_⟩
 ·left
  refine ⟨rfl,?_⟩
  rcases least_find hE k with ⟨h1,_⟩ | ⟨h1,h2,h3⟩
  ·exact h1
  ·exfalso
   obtain ⟨s1,s2,s3⟩:=rep_spec hE k
   have hc:cls (repF (fineE cls P) k)=cls k:=by
    unfold fineE at s2
    simp only [Bool.and_eq_true,beq_iff_eq] at s2
    exact s2.1
   have hm:repF (fineE cls P) k ∈ leastF (fineE cls P) cls (cls k) k:=mem_leastF.2 ⟨h2,s3,hc⟩
   have h4:=h _ (List.mem_map.2 ⟨_,hm,rfl⟩)
   rw [Int.toNat_natCast,(h3 _ hm).2 rfl] at h4
   cases h4
 ·right
  rw [List.length_map] at hi
  have e:((leastF (fineE cls P) cls (cls k) k).map fun n:Nat=>(n:Int))[i]'(by rw [List.length_map];exact hi)=((leastF (fineE cls P) cls (cls k) k)[i]:Int):=by rw [List.getElem_map]
  rw [e,Int.toNat_natCast] at h
  have hm:=List.getElem_mem hi
  generalize hv:(leastF (fineE cls P) cls (cls k) k)[i]=v at h hm
  have hp:P v k=false:=by cases h9:P v k
                          ·rfl
                          ·rw [h9] at h;cases h
  rcases least_find hE k with ⟨_,h2⟩ | ⟨h1,h2,h3⟩
  ·rw [h2 v hm] at hp;cases hp
  ·refine ⟨i,v,rfl,h1,(mem_leastF.1 hm).1,?_,by rw [List.getElem?_eq_getElem hi,hv]⟩
   rw [(h3 v hm).1 hp]
   exact (cn_eq hE).2 (rep_spec hE k).2.1
set_option maxRecDepth 100000 in
set_option maxHeartbeats 8000000 in
theorem parted_any (w:World) {L n:Nat} {cv fv:Value} {cl:List Int} {P:Nat→Nat→Bool} (hc:IsI w L cv cl) (hcl:cl.length=n) (hcb:∀ x ∈ cl,0≤x∧x<(n:Int)) (hO:Ord w L n fv P) (hL:L≤w.heap.size) (hE:Eqv (fineE (numF cl) P)) (hn:n≤512) :
 Calls Try.prog 62 #[cv,fv] w fun e w'=>∃ v,e=.returned v∧OwnI w.heap.size w' v ((List.range n).map (cnF (fineE (numF cl) P)))∧Below w.heap.size w w':=by
 obtain ⟨i0,hi,hz0,hz1,hz2⟩:=info_parts infoI
 obtain ⟨pc,cc,rfl⟩:=IsS.form hc
 subst hcl
 have HE:=show Hid (Eqv (fineE (numF cl) P)) from hE
 have hfc:fv.cells=#[fv]:=by obtain ⟨f,cs,rfl,_⟩:=hO;rfl
 have HC:=show Hid (∀ k (hk:k<cl.length),∃ b o,b<w.heap.size∧pc=some ⟨b,o,none⟩∧w.cell? ⟨b,o+k,none⟩=some (.int .i64 (numF cl k:Int))∧numF cl k<cl.length) from fun k hk=>by
  obtain ⟨b,o,_,h1,h2⟩:=(IsS.at hc).2 (by omega)
  obtain ⟨x,hx,rfl⟩:=h2 k hk
  have h3:=hcb _ (List.getElem_mem hk)
  have h4:((numF cl k:Nat):Int)=cl[k]:=by rw [numF_at hk];omega
  exact ⟨b,o,World.block_lt_of_cell? w _ hx,h1,by rw [h4];exact hx,by omega⟩
 have HO:=show Hid (Ord w w.heap.size cl.length fv P) from hO.later (Below.refl _ _) hL
 have HMA:=show Hid (∀ W:World,(Instr.makeSlice 22 (.int .i64 (cl.length:Int)) (.int .i64 (cl.length:Int))).run Try.prog W=.ok (.slice (some ⟨W.heap.size,0,none⟩) cl.length cl.length) (W.alloc (.cells (madeCells #[.slice none 0 0] cl.length) 27))) from fun W=>by
  obtain ⟨i0,hi,hz0,hz1,hz2⟩:=info_parts infoLI
  have h:=run_makeSlice (P:=Try.prog) W 22 27 i0 _ Try.underlying22 hi hz0 .i64 .i64 (cl.length:Int) (cl.length:Int) (by omega) (Int.le_refl _) (by rw [hz1];omega) (by rw [hz2];omega) (by omega)
  simp only [Int.toNat_natCast,hz1,Nat.mul_one] at h
  exact h
 generalize hEE:fineE (numF cl) P=E at *
 have HFE:=show Hid (fineE (numF cl) P=E) from hEE
 clear hc hcb hO hE hEE
 go_enter Try.func62,Try.ntmps62
 go_wp2_with (refine wpList_box1 90 _ rfl _ rfl hfc rfl ?_)
 intro w1 b3 hN1
 have hms:=HMA.out w1
 have HX:=show Hid (w.heap.size≤b3∧b3<w1.heap.size∧PJ w b3 w1.heap.size cl.length 0 fv E (numF cl) (fun _=>.slice none 0 0) (.slice none 0 0) (w1.alloc (.cells (madeCells #[.slice none 0 0] cl.length) 27))) from by
  have a1:=below_alloc w1 (.cells (madeCells #[.slice none 0 0] cl.length) 27)
  refine ⟨hN1.ge,lt_of_block hN1.blk,hN1.bel.trans (a1.mono hN1.bel.size),(show Cl w1 b3 #[fv] 90 from hN1.blk).later a1,rw_madeL w1 cl.length,fun c _ => ?_,World.ownsRow_nil _ _ _ _,fun c d _ _ _ b h=>by simp [Value.ownBlock] at h,fun c _ b h=>by simp [Value.ownBlock] at h⟩
  exact World.ownsRow_nil _ _ _ _
 clear hN1
 go_wp2_with (simp only [hms])
 clear hms HMA
 generalize hW0:w1.alloc (.cells (madeCells #[.slice none 0 0] cl.length) 27)=W0 at *
 generalize w1.heap.size=G at *
 clear hW0
 have hkn:=hn
 go_loopw [5,6,8,9,10,16] (fun v5 m _ _ _ i wr=>∃ (k:Nat) (V:Nat→Value),k≤cl.length∧i=.int .i64 (k:Int)∧m=.int .i64 (repsTo E k:Int)∧Hid (PJ w b3 G cl.length k fv E (numF cl) V v5 wr)) (fun _ _ _ _ _ i _=>cl.length - (intOf i).toNat)
 case atStart=>exact ⟨0,_,Nat.zero_le _,rfl,rfl,HX.out.2.2⟩
 case round =>
  obtain ⟨k,V,hk,rfl,rfl,HJ⟩:=hrel
  have HG:=show Hid (w.heap.size≤b3∧b3<G) from ⟨HX.out.1,HX.out.2.1⟩
  clear HX
  by_cases hlt:k<cl.length
  ·obtain ⟨b,o,hb,rfl,hx,hcn⟩:=HC.out k hlt
   have cC:wr.cell? ⟨b,o+k,none⟩=some (.int .i64 (numF cl k:Int)):=(HJ.out.bel.cell (p:=⟨b,o+k,none⟩) hb).trans hx
   have HCL:=show Hid (numF cl k=numF cl k) from rfl
   generalize hcc:numF cl k=c at *
   have HCC:=show Hid (numF cl k=c) from hcc
   obtain ⟨p5,c5,rfl⟩:=HJ.out.mem.fin.slice
   simp only [List.length_map,List.length_range] at *
   have hki:(k:Int)<(cl.length:Int):=by omega
   have hci:(c:Int)<(cl.length:Int):=by omega
   clear hx HCL hcc HC
   have hb8:=below_alloc wr (.cells #[.int .i64 (k:Int)] 3)
   have h8:Cl (wr.alloc (.cells #[.int .i64 (k:Int)] 3)) wr.heap.size #[.int .i64 (k:Int)] 3:=heap_alloc_new wr _
   have hJ8:=HJ.out.later hb8
   have cG:(wr.alloc (.cells #[.int .i64 (k:Int)] 3)).cell? ⟨G,c,none⟩=some (V c):=hJ8.mem.tab.cell (by omega)
   have H8:=show Hid (PJ w b3 G cl.length k fv E (numF cl) V (.slice p5 k c5) (wr.alloc (.cells #[.int .i64 (k:Int)] 3))∧Cl (wr.alloc (.cells #[.int .i64 (k:Int)] 3)) wr.heap.size #[.int .i64 (k:Int)] 3∧(V c).ownBlock≠some wr.heap.size∧G≠wr.heap.size∧G<wr.heap.size) from by
    refine ⟨hJ8,h8,fun e => ?_,?_,?_⟩
    ·have:=(own_blk (HJ.out.mem.row c (by omega)) e).2.1;omega
    ·have:=HJ.out.G_lt;omega
    ·exact HJ.out.G_lt
   have KX:=show Hid _ from indexFunc_any (wr.alloc (.cells #[.int .i64 (k:Int)] 3)) (L:=(wr.alloc (.cells #[.int .i64 (k:Int)] 3)).heap.size) (D:=fun x=>0≤x∧x<(cl.length:Int)) (fv:=.func (.func 84) #[] #[.pointer (some ⟨b3,0,none⟩),.pointer (some ⟨wr.heap.size,0,none⟩)]) (p:=fun x => !P x.toNat k)
    ⟨84,[.pointer (some ⟨b3,0,none⟩),.pointer (some ⟨wr.heap.size,0,none⟩)],rfl,cf_part1,fun W x hW hx=>part1_any W ((HO.out.later (hJ8.bel) hJ8.bel.size).later hW (Nat.le_refl _)) hW.size (hJ8.box.later hW) (h8.later hW) hx hlt⟩
    (hJ8.mem.row c (by omega)).isI (fun x hx=>by
     obtain ⟨r,hr,rfl⟩:=List.mem_map.1 hx
     have:=(mem_leastF.1 hr).1
     show 0≤(r:Int)∧(r:Int)<(cl.length:Int)
     omega) (Nat.le_refl _) (Nat.le_refl _) (by
     have:=leastF_len (E:=E) (cls:=numF cl) c k
     simp only [List.length_map];omega)
   clear hJ8 h8 hb8 HJ
   go_wp2_with fail
   refine Calls.mono KX.out ?_
   rintro e w4 ⟨⟨r,rfl,hr⟩,hb4⟩
   clear KX
   have H4:=show Hid (PJ w b3 G cl.length k fv E (numF cl) V (.slice p5 k c5) w4∧Cl w4 wr.heap.size #[.int .i64 (k:Int)] 3∧(V c).ownBlock≠some wr.heap.size∧G≠wr.heap.size∧G<w4.heap.size) from ⟨H8.out.1.later hb4,H8.out.2.1.later hb4,H8.out.2.2.1,H8.out.2.2.2.1,(H8.out.1.later hb4).G_lt⟩
   have hp:=part_find (cls:=numF cl) (P:=P) (by rw [HFE.out];exact HE.out) k _ rfl (by rw [HFE.out,HCC.out];exact hr)
   rw [HFE.out,HCC.out] at hp
   clear hr hb4 H8 cG cC
   generalize wr.heap.size=b8 at *
   rcases hp with ⟨rfl,hrep⟩ | ⟨i,v,rfl,hrep,hvk,hcv,hiv⟩
   ·have HR:=show Hid (isRep E k=true) from hrep
    clear hrep
    have hcl:c<cl.length:=by omega
    have HLL:=show Hid ((leastF E (numF cl) c k).length≤512) from by
     have:=leastF_len (E:=E) (cls:=numF cl) c k
     show (leastF E (numF cl) c k).length≤512
     omega
    go_wp2_with fail
    refine wp_region_dep (by kernel_rfl) [some 42,some 43,some 44,some 45,some 46,some 47,some 48,some 49,some 50,some 51,none] [[],[],[],[],[2,3],[4],[],[6],[5,7],[0,1],[9,8]] [[],[],[],[],[2,3],[4,2,3],[],[6],[5,4,2,3,7,6],[0,1],[9,0,1,8,5,4,2,3,7,6]] (by kernel_rfl) (by decide) (fun i v W=>match i with | 0=>v=.slice (some ⟨G,0,none⟩) cl.length cl.length | 1=>v=.int .i64 (c:Int) | 2=>v=.slice (some ⟨G,0,none⟩) cl.length cl.length | 3=>v=.int .i64 (c:Int) | 4=>v=.pointer (some ⟨G,c,none⟩) | 5=>v=V c | 6=>v=.int .i64 (k:Int) | 9=>v=.pointer (some ⟨G,c,none⟩) | 7=>Nq G c k V v W | 8=>Gw w4 (G+1) G cl.length c k V (fun c=>leastF E (numF cl) c k) v W | _=>True) (fun done W=>(done 8=false→Below w4.heap.size w4 W)∧(done 10=false→Rw W G cl.length 27 V)∧(done 10=true→Fin w4 (G+1) G c k V (fun c=>leastF E (numF cl) c k) W)) (LeP G c V) ?hle ⟨fun _=>(Below.refl _ _).drew,fun _=>H4.out.1.mem.tab,fun h=>(by cases h)⟩ (allLt 11 ?steps) ?fin
    case hle =>
     intro i j v W W' hij hn hl h
     match j,h with
     | 0,h=>exact h
     | 1,h=>exact h
     | 2,h=>exact h
     | 3,h=>exact h
     | 4,h=>exact h
     | 5,h=>exact h
     | 6,h=>exact h
     | 7,h=>exact nq_le hij hl h
     | 8,h=>exact gw_le hij (fun e=>hn (by subst e;decide)) hl h
     | 9,h=>exact h
     | 10,_=>trivial
     | _+11,_=>trivial
    case steps =>
     refine ⟨⟨⟨⟨⟨⟨⟨⟨⟨⟨⟨trivial,?s0⟩,?s1⟩,?s2⟩,?s3⟩,?s4⟩,?s5⟩,?s6⟩,?s7⟩,?s8⟩,?s9⟩,?s10⟩
     case s0 =>
      intro done a W hW hd hnd hno hO hN
      have o7:a.tmps[7]?=some (.slice (some ⟨G,0,none⟩) cl.length cl.length):=(hO.out 7 (by decide)).trans rfl
      exact relVal rfl (.slice (some ⟨G,0,none⟩) cl.length cl.length) _ rfl (by go_simp) ⟨_,rfl,rfl,⟨fun h=>hW.1 (by simpa using h),fun h=>hW.2.1 (by simpa using h),fun h=>hW.2.2 (by simpa using h)⟩,⟨fun _ _ _=>rfl,fun h=>absurd h (by decide),fun h=>absurd h (by decide),fun h=>absurd h (by decide)⟩⟩
     case s1 =>
      intro done a W hW hd hnd hno hO hN
      have o9:a.tmps[9]?=some (.int .i64 (c:Int)):=(hO.out 9 (by decide)).trans rfl
      exact relVal rfl (.int .i64 (c:Int)) _ rfl (by go_simp) ⟨_,rfl,rfl,⟨fun h=>hW.1 (by simpa using h),fun h=>hW.2.1 (by simpa using h),fun h=>hW.2.2 (by simpa using h)⟩,⟨fun _ _ _=>rfl,fun h=>absurd h (by decide),fun h=>absurd h (by decide),fun h=>absurd h (by decide)⟩⟩
     case s2 =>
      intro done a W hW hd hnd hno hO hN
      have o7:a.tmps[7]?=some (.slice (some ⟨G,0,none⟩) cl.length cl.length):=(hO.out 7 (by decide)).trans rfl
      exact relVal rfl (.slice (some ⟨G,0,none⟩) cl.length cl.length) _ rfl (by go_simp) ⟨_,rfl,rfl,⟨fun h=>hW.1 (by simpa using h),fun h=>hW.2.1 (by simpa using h),fun h=>hW.2.2 (by simpa using h)⟩,⟨fun _ _ _=>rfl,fun h=>absurd h (by decide),fun h=>absurd h (by decide),fun h=>absurd h (by decide)⟩⟩
     case s3 =>
      intro done a W hW hd hnd hno hO hN
      have o9:a.tmps[9]?=some (.int .i64 (c:Int)):=(hO.out 9 (by decide)).trans rfl
      exact relVal rfl (.int .i64 (c:Int)) _ rfl (by go_simp) ⟨_,rfl,rfl,⟨fun h=>hW.1 (by simpa using h),fun h=>hW.2.1 (by simpa using h),fun h=>hW.2.2 (by simpa using h)⟩,⟨fun _ _ _=>rfl,fun h=>absurd h (by decide),fun h=>absurd h (by decide),fun h=>absurd h (by decide)⟩⟩
     case s4 =>
      intro done a W hW hd hnd hno hO hN
      obtain ⟨v2,g2,r2⟩:=hN 2 (by decide)
      have g2:a.tmps[44]?=some v2:=g2
      have e2:v2=.slice (some ⟨G,0,none⟩) cl.length cl.length:=r2
      rw [e2] at g2
      obtain ⟨v3,g3,r3⟩:=hN 3 (by decide)
      have g3:a.tmps[45]?=some v3:=g3
      have e3:v3=.int .i64 (c:Int):=r3
      rw [e3] at g3
      exact relVal rfl (.pointer (some ⟨G,c,none⟩)) _ rfl (by go_simp) ⟨_,rfl,rfl,⟨fun h=>hW.1 (by simpa using h),fun h=>hW.2.1 (by simpa using h),fun h=>hW.2.2 (by simpa using h)⟩,⟨fun _ _ _=>rfl,fun h=>absurd h (by decide),fun h=>absurd h (by decide),fun h=>absurd h (by decide)⟩⟩
     case s5 =>
      intro done a W hW hd hnd hno hO hN
      obtain ⟨v4,g4,r4⟩:=hN 4 (by decide)
      have g4:a.tmps[46]?=some v4:=g4
      have e4:v4=.pointer (some ⟨G,c,none⟩):=r4
      rw [e4] at g4
      have cG:W.cell? ⟨G,c,none⟩=some (V c):=(hW.2.1 (hno 10 (by decide))).cell hcl
      exact relVal rfl (V c) _ rfl (by go_simp) ⟨_,rfl,rfl,⟨fun h=>hW.1 (by simpa using h),fun h=>hW.2.1 (by simpa using h),fun h=>hW.2.2 (by simpa using h)⟩,⟨fun _ _ _=>rfl,fun h=>absurd h (by decide),fun h=>absurd h (by decide),fun h=>absurd h (by decide)⟩⟩
     case s6 =>
      intro done a W hW hd hnd hno hO hN
      have o8:a.tmps[8]?=some (.pointer (some ⟨b8,0,none⟩)):=(hO.out 8 (by decide)).trans rfl
      have c8:W.cell? ⟨b8,0,none⟩=some (.int .i64 (k:Int)):=(H4.out.2.1.later (hW.1 (hno 8 (by decide)))).cell 0
      exact relVal rfl (.int .i64 (k:Int)) _ rfl (by go_simp) ⟨_,rfl,rfl,⟨fun h=>hW.1 (by simpa using h),fun h=>hW.2.1 (by simpa using h),fun h=>hW.2.2 (by simpa using h)⟩,⟨fun _ _ _=>rfl,fun h=>absurd h (by decide),fun h=>absurd h (by decide),fun h=>absurd h (by decide)⟩⟩
     case s7 =>
      intro done a W hW hd hnd hno hO hN
      obtain ⟨v6,g6,r6⟩:=hN 6 (by decide)
      have g6:a.tmps[48]?=some v6:=g6
      have e6:v6=.int .i64 (k:Int):=r6
      rw [e6] at g6
      have hB:=hW.1 (hno 8 (by decide))
      have hT:=hW.2.1 (hno 10 (by decide))
      have hb:=bsI W (k:Int)
      have hs:W.heap.size≠G:=by have:=hT.lt;omega
      exact relVal rfl (.slice (some ⟨W.heap.size,0,none⟩) 1 1) (W.alloc (.cells #[.int .i64 (k:Int)] 3)) rfl (by simp [execOp,Act.eval,g6,hb,Result.andThen]) ⟨_,rfl,⟨W.heap.size,rfl,hs,fun e=>by have h1:=(own_blk ((H4.out.1.later hB).mem.row c hcl) e).2.1;omega,heap_alloc_new _ _⟩,⟨fun _=>hB.trans ((below_alloc W _).mono hB.size),fun _=>hT.keep ((below_alloc W _).block G hT.lt),fun h=>absurd (h.symm.trans (by simpa using hno 10 (by decide))) (by decide)⟩,⟨fun h=>absurd rfl h,fun _=>below_alloc W _,fun h=>absurd h (by decide),fun h=>absurd h (by decide)⟩⟩
     case s8 =>
      intro done a W hW hd hnd hno hO hN
      obtain ⟨v5,g5,r5⟩:=hN 5 (by decide)
      have g5:a.tmps[47]?=some v5:=g5
      have e5:v5=V c:=r5
      rw [e5] at g5
      obtain ⟨v7,g7,r7⟩:=hN 7 (by decide)
      have g7:a.tmps[49]?=some v7:=g7
      have hB:=hW.1 hd
      have hT:=hW.2.1 (hno 10 (by decide))
      obtain ⟨q,e7,hqG,hqV,hcq⟩:=r7
      rw [e7] at g7
      have hrow:=(H4.out.1.later hB).mem.row c hcl
      unfold OwnI at hrow
      obtain ⟨v',W2,hrun,ho',hgr,_,hblk⟩:=run_append_own_at (P:=Try.prog) (w:=W) (G+1) 27 27 3 i0 (.int .i64 0) 1 8 Try.underlying27 hi hz0 hz1 hz2 rfl (by decide) _ _ _ hrow ⟨q,0,none⟩ 1 1 [.int .i64 (k:Int)] rfl (cell_one (hcq.cell 0)) (by intro u hu;simp at hu;subst hu;rfl) (by have:=HLL.out;unfold maxLen;omega) (by have:=HLL.out;omega) (by have:=hT.lt;omega)
      exact relVal rfl v' W2 rfl (by simp [execOp,Act.eval,resolve,invoke,builtin,g5,g7,hrun,Result.andThen]) ⟨_,rfl,⟨W,W2,hB,hgr,ho',hblk,Or.inl rfl⟩,⟨fun h=>(by simp at h),fun _=>rw_grow hT hrow hgr,fun h=>absurd (h.symm.trans (by simpa using hno 10 (by decide))) (by decide)⟩,⟨fun _ h=>absurd rfl h,fun h=>absurd h (by decide),fun _=>hgr,fun h=>absurd h (by decide)⟩⟩
     case s9 =>
      intro done a W hW hd hnd hno hO hN
      obtain ⟨v0,g0,r0⟩:=hN 0 (by decide)
      have g0:a.tmps[42]?=some v0:=g0
      have e0:v0=.slice (some ⟨G,0,none⟩) cl.length cl.length:=r0
      rw [e0] at g0
      obtain ⟨v1,g1,r1⟩:=hN 1 (by decide)
      have g1:a.tmps[43]?=some v1:=g1
      have e1:v1=.int .i64 (c:Int):=r1
      rw [e1] at g1
      exact relVal rfl (.pointer (some ⟨G,c,none⟩)) _ rfl (by go_simp) ⟨_,rfl,rfl,⟨fun h=>hW.1 (by simpa using h),fun h=>hW.2.1 (by simpa using h),fun h=>hW.2.2 (by simpa using h)⟩,⟨fun _ _ _=>rfl,fun h=>absurd h (by decide),fun h=>absurd h (by decide),fun h=>absurd h (by decide)⟩⟩
     case s10 =>
      intro done a W hW hd hnd hno hO hN
      obtain ⟨v9,g9,r9⟩:=hN 9 (by decide)
      have g9:a.tmps[51]?=some v9:=g9
      have e9:v9=.pointer (some ⟨G,c,none⟩):=r9
      rw [e9] at g9
      obtain ⟨v8,g8,r8⟩:=hN 8 (by decide)
      have g8:a.tmps[50]?=some v8:=g8
      have hT:=hW.2.1 hd
      obtain ⟨W1,W2,hb,hg,ho,hn,hor⟩:=r8
      have cG:W.cell? ⟨G,c,none⟩=some (V c):=hT.cell hcl
      have fG:=hT.fr c
      rcases hor with rfl | hne
      ·obtain ⟨pp,np,e8⟩:=own_form ho
       rw [e8] at g8
       have hlen:v8≠V c:=fun e=>by
        obtain ⟨p0,c0,e0⟩:=(H4.out.1.mem.row c hcl).slice
        rw [e8,e0] at e
        have h9:(leastF E (numF cl) c k).length+1=(leastF E (numF cl) c k).length:=(Value.slice.inj e).2.1
        omega
       refine relSkip rfl (W.setCell ⟨G,c,none⟩ (.slice pp ((leastF E (numF cl) c k).length+1) np)) rfl (by go_simp) ⟨.bool true,rfl,trivial,⟨fun h=>absurd ((hnd 8 (by decide)).symm.trans (by simpa using h)) (by decide),fun h=>(by simp at h),fun _=>⟨v8,W1,W,hb,hg,ho,hn,by rw [e8]⟩⟩,⟨fun _ _ h=>absurd rfl h,fun h=>absurd h (by decide),fun h=>absurd h (by decide),fun _=>⟨fun h => ?_,fun b hb=>Below.heap_setCell _ ⟨G,c,none⟩ _ b hb⟩⟩⟩
       have h1:=(hT.set c (.slice pp ((leastF E (numF cl) c k).length+1) np)).cell hcl
       rw [Wd.upd_same] at h1
       rw [h1,← e8] at h
       exact hlen (Option.some.inj h)
      ·exact absurd cG hne
    case fin =>
     intro vs done w5 hdone hS hV
     obtain ⟨V',hbl,hbx,hm⟩:=H4.out.1.row HG.out.1 HG.out.2 hcl (hS.2.2 (hdone 10 (by decide)))
     have HM:=show Hid (Below w.heap.size w w5∧Cl w5 b3 #[fv] 90∧PM w5 (G+1) G cl.length V' (upd (fun c=>leastF E (numF cl) c k) c (leastF E (numF cl) c k ++ [k])) (.slice p5 k c5) ((List.range k).map (cnF E))) from ⟨hbl,hbx,hm⟩
     simp only [putAll,Act.put,List.setIfInBounds_toArray,List.set_cons_zero,List.set_cons_succ,Nat.reduceAdd]
     clear hV hS hbl hbx hm H4 HLL
     have hqk:=repsTo_le (E:=E) k
     have HQ:=show Hid (repsTo E (k+1)=repsTo E k+1) from by
      show repsTo E (k+1)=repsTo E k+1
      rw [repsTo_succ,HR.out];rfl
     go_wp2_with (at_builtin;refine wpList_append_own_at _ rfl (.tmp 52) (.tmp 54) 27 rfl (G+1) 3 i0 (.int .i64 0) 1 8 Try.underlying27 hi hz0 hz1 hz2 rfl (by decide) _ k (intsV ((List.range k).map (cnF E))) rfl ((by have h:=HM.out.2.2.fin;unfold OwnI at h;rw [List.length_map,List.length_range] at h;exact own_later h (below_alloc w5 _))) ⟨w5.heap.size,0,none⟩ 1 1 [.int .i64 (repsTo E k:Int)] rfl rfl (cell_one_new _ _ _) (by simp [Value.oneCell']) (by unfold maxLen;omega) (by omega) (by have:=HM.out.2.2.tab.lt;simp;omega) ?_)
     intro v' w6 ho6 hg6 _ hn6
     have HN:=show Hid (PJ w b3 G cl.length (k+1) fv E (numF cl) V' v' w6) from by
      have hm:=HM.out.2.2
      rw [← HCC.out] at hm
      exact PJ.new HM.out.1 HM.out.2.1 hm HG.out.1 HG.out.2 HR.out (by rw [List.length_map,List.length_range];exact ho6) hg6 (by simpa using hn6)
     clear ho6 hg6 hn6 HM
     have hmn:((repsTo E k:Nat):Int)+1=((repsTo E (k+1):Nat):Int):=by rw [HQ.out];omega
     go_wp2_with fail
     go_roundw
     case rel=>exact ⟨k+1,V',by omega,val_int (by omega),val_int (by omega),HN.out⟩
     case measure=>(simp only [intOf];omega)
   ·obtain ⟨hil,hiv⟩:=List.getElem?_eq_some_iff.1 hiv
    obtain ⟨pv,cv,eV⟩:=(H4.out.1.mem.row c (by omega)).slice
    have hrI:=(H4.out.1.mem.row c (by omega)).isI
    rw [eV] at hrI
    obtain ⟨bv,ov,_,rfl,hat⟩:=(IsS.at hrI).2 (by rw [List.length_map];omega)
    obtain ⟨x,cv4,hx4⟩:=hat i (by rw [List.length_map];exact hil)
    have ex:x=.int .i64 (v:Int):=by
     rw [List.getElem_map,hiv] at hx4
     exact hx4
    rw [ex] at cv4
    have cG:w4.cell? ⟨G,c,none⟩=some (.slice (some ⟨bv,ov,none⟩) (leastF E (numF cl) c k).length cv):=by
     rw [← eV];exact H4.out.1.mem.tab.cell (by omega)
    have hfI:=H4.out.1.mem.fin.isI
    simp only [List.map_map] at hfI
    obtain ⟨bf,of,_,rfl,hatf⟩:=(IsS.at hfI).2 (by simp;omega)
    obtain ⟨y,cf4,hy4⟩:=hatf v (by simp;omega)
    have ey:y=.int .i64 (cnF E k:Int):=by
     simp only [List.getElem_map,List.getElem_range,Function.comp] at hy4
     rw [← hcv]
     exact hy4
    rw [ey] at cf4
    have HX:=show Hid (cnF E k=cnF E k∧isRep E k=false) from ⟨rfl,hrep⟩
    have HCN:=show Hid (cnF E v=cnF E k) from hcv
    have hii:(i:Int)<((leastF E (numF cl) c k).length:Int):=by omega
    have hvi:(v:Int)<(k:Int):=by omega
    clear hat hatf hx4 hy4 hrI hfI ex ey hcv hrep hiv eV
    generalize (leastF E (numF cl) c k).length=ll at *
    go_wp2_with (at_builtin;refine wpList_append_own_at _ rfl (.tmp 29) (.tmp 40) 27 rfl (G+1) 3 i0 (.int .i64 0) 1 8 Try.underlying27 hi hz0 hz1 hz2 rfl (by decide) _ k (intsV ((List.range k).map (cnF E))) rfl ((by have h:=H4.out.1.mem.fin;unfold OwnI at h;rw [List.length_map,List.length_range] at h;exact own_later h (below_alloc w4 _))) ⟨w4.heap.size,0,none⟩ 1 1 [.int .i64 (cnF E k:Int)] rfl rfl (cell_one_new _ _ _) (by simp [Value.oneCell']) (by unfold maxLen;omega) (by omega) (by have:=H4.out.2.2.2.2;simp;omega) ?_)
    intro v' w5 ho5 hg5 _ hn5
    have HN:=show Hid (PJ w b3 G cl.length (k+1) fv E (numF cl) V v' w5) from
     H4.out.1.old HG.out.1 HG.out.2 rfl HX.out.2 (by rw [List.length_map,List.length_range];exact ho5) hg5 (by simpa using hn5)
    have HQ:=show Hid (repsTo E (k+1)=repsTo E k) from by
     show repsTo E (k+1)=repsTo E k
     rw [repsTo_succ,HX.out.2];rfl
    clear ho5 hg5 hn5 H4
    go_wp2_with fail
    go_roundw
    case rel=>exact ⟨k+1,V,by omega,val_int (by omega),by rw [HQ.out],HN.out⟩
    case measure=>(simp only [intOf];omega)
  ·obtain rfl:k=cl.length:=by omega
   have hki:¬ (cl.length:Int)<(cl.length:Int):=by omega
   clear HC
   go_wp2_with fail
   go_ret
   exact ⟨_,rfl,HJ.out.mem.fin.base (by have:=HG.out;omega),HJ.out.bel⟩
end Go.Proofs.Ytoedidbbjnnpnaa.Wm
