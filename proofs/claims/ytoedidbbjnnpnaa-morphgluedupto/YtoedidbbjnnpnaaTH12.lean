/-
  seen: of any well-formed model and any numbers below 512. No condition.
-/
import Derived.Test.YtoedidbbjnnpnaaQMSeen
import Derived.Test.YtoedidbbjnnpnaaTH11
import Derived.Test.YtoedidbbjnnpnaaTH13
import Derived.Deep.MidRow
import Derived.ChangeKeysEq
namespace Go.Proofs.Ytoedidbbjnnpnaa.Wm
open Go.RowKit Go.Maps
open Wd (Md Rc Ed upd vl allW)
set_option linter.unusedSimpArgs false
set_option linter.unusedVariables false
theorem seen_all {L M Q S F A:Nat} {uv vv nv:Value} {m:Md} {nl:List Int} (h5:m.up.length≤512) (hall:∀ r ∈ m.up,allW m.up.length r=true) (hf:Fit m) (hnl:nl.length=m.up.length) (hnb:∀ i ∈ nl,0≤i∧i<512) (anti:∀ a b,Rc m.up a b→Rc m.up b a→a=b) (N:Nat):SeenC N L M Q S F A uv vv nv m nl:=by
 induction N using Nat.strongRecOn with
 | _ N ih=>exact seen_step h5 hall hf hnl hnb anti fun N' h=>ih N' h
theorem infoM:(Try.prog.info? 103).map (fun i=>(i.zero,i.size,i.bytes))=some (some (.agg #[.int .u64 0,.int .u64 0,.int .u64 0,.int .u64 0,.int .u64 0,.int .u64 0,.int .u64 0,.int .u64 0]),8,64):=by kernel_rfl
theorem ms_made (w:World) (n:Nat):Ws (w.alloc (.cells (madeCells #[.int .u64 0,.int .u64 0,.int .u64 0,.int .u64 0,.int .u64 0,.int .u64 0,.int .u64 0,.int .u64 0] (n * 8)) 103)) w.heap.size (n * 8) 103 (fun _=>0):=by
 refine ⟨?_,fun _=>by decide⟩
 unfold Rw
 rw [heap_alloc_new]
 congr 2
 apply Array.ext
 ·simp [madeCells]
 ·intro i h1 h2
  simp only [madeCells,wdV,Array.getElem_map,List.getElem_toArray,List.getElem_map,List.getElem_range,Array.getElem_range]
  have h3:i % 8<8:=Nat.mod_lt _ (by decide)
  show (#[Value.int .u64 0,.int .u64 0,.int .u64 0,.int .u64 0,.int .u64 0,.int .u64 0,.int .u64 0,.int .u64 0]:Array Value)[i % 8]! = _
  generalize i % 8=j at *
  match j,h3 with
  | 0,_=>rfl
  | 1,_=>rfl
  | 2,_=>rfl
  | 3,_=>rfl
  | 4,_=>rfl
  | 5,_=>rfl
  | 6,_=>rfl
  | 7,_=>rfl
theorem anti_all {m:Md} (hG:Wd.Good m):∀ a b,Rc m.up a b→Rc m.up b a→a=b:=fun a b h k=>by
 cases h with
 | refl=>rfl
 | step e r=>exact hG.anti a b (Wd.ed_from e) (.step e r) k
set_option maxRecDepth 100000 in
set_option maxHeartbeats 8000000 in
theorem seen_any (w:World) {L:Nat} {uv vv nv:Value} {m:Md} {nl:List Int} (hm:IsM w L uv vv m) (hf:Fit m) (hG:Wd.Good m) (hi:IsI w L nv nl) (hL:L≤w.heap.size) (hnl:nl.length=m.up.length) (hnb:∀ i ∈ nl,0≤i∧i<512) :
 Calls Try.prog 65 #[.agg #[uv,vv],nv] w fun e w'=>∃ A,e=.returned (.slice (some ⟨A,0,none⟩) m.up.length m.up.length)∧∃ ws,Ws w' A (m.up.length * 8) 103 ws ∧
  (∀ a c,a<m.up.length→(abW ws a c=true ↔ ∃ b,Rc m.up a b∧numF nl b=c))∧w.heap.size≤A∧Below w.heap.size w w':=by
 obtain ⟨h1,h5,-,hall0,-⟩:=Wd.shaped_and hG.shape
 have HSC:=show Hid (∀ N M Q S F A,SeenC N w.heap.size M Q S F A uv vv nv m nl) from fun N M Q S F A=>seen_all h5 hall0 hf hnl hnb (anti_all hG) N
 have HM:=show Hid (IsM w w.heap.size uv vv m∧IsI w w.heap.size nv nl) from ⟨⟨(IsS.keep (R':=fun r x=>IsI w w.heap.size x r) hm.up (fun _ _=>rfl) fun _ _ h=>IsS.wide h hL).wide hL,(IsS.keep (R':=fun r x=>IsN w w.heap.size x r) hm.val (fun _ _=>rfl) fun _ _ h=>IsS.wide h hL).wide hL⟩,IsS.wide hi hL⟩
 obtain ⟨pu,cu,rfl⟩:=IsS.form hm.up
 obtain ⟨pv,cv,rfl⟩:=IsS.form hm.val
 obtain ⟨pn,cn,rfl⟩:=IsS.form hi
 obtain ⟨n,hn⟩:∃ n,n=m.up.length:=⟨_,rfl⟩
 have HMA:=show Hid (∀ W:World,(Instr.makeSlice 99 (.int .i64 (m.up.length:Int)) (.int .i64 (m.up.length:Int))).run Try.prog W=.ok (.slice (some ⟨W.heap.size,0,none⟩) m.up.length m.up.length) (W.alloc (.cells (madeCells #[.int .u64 0,.int .u64 0,.int .u64 0,.int .u64 0,.int .u64 0,.int .u64 0,.int .u64 0,.int .u64 0] (m.up.length * 8)) 103))) from fun W=>by
  obtain ⟨i0,hi,hz0,hz1,hz2⟩:=info_parts infoM
  have h:=run_makeSlice (P:=Try.prog) W 99 103 i0 _ Try.underlying99 hi hz0 .i64 .i64 (m.up.length:Int) (m.up.length:Int) (by omega) (Int.le_refl _) (by rw [hz1];omega) (by rw [hz2];omega) (by omega)
  simp only [Int.toNat_natCast,hz1] at h
  exact h
 clear hm hf hG hi hL hnl hnb hall0 hn
 go_enter Try.func65,Try.ntmps65
 go_wp2_with (refine wpList_box 25 _ rfl _ rfl rfl ?_)
 intro w1 b2 hN1
 have H1:=show Hid (Below w.heap.size w w1∧Cl w1 b2 #[.slice pu m.up.length cu,.slice pv m.val.length cv] 25∧w.heap.size≤b2) from ⟨hN1.bel,hN1.blk,hN1.ge⟩
 clear hN1
 go_wp2_with (refine wpList_box1 27 _ rfl _ rfl rfl rfl ?_)
 intro w2 b3 hN2
 have H2:=show Hid (Below w.heap.size w w2∧Cl w2 b2 #[.slice pu m.up.length cu,.slice pv m.val.length cv] 25∧Cl w2 b3 #[.slice pn nl.length cn] 27∧w.heap.size≤b2∧w.heap.size≤b3) from ⟨H1.out.1.trans (hN2.bel.mono H1.out.1.size),H1.out.2.1.later hN2.bel,hN2.blk,H1.out.2.2,Nat.le_trans H1.out.1.size hN2.ge⟩
 have c2:w2.cell? ⟨b2,0,none⟩=some (.slice pu m.up.length cu):=H2.out.2.1.cell 0
 have hms:=HMA.out w2
 have HX:=show Hid (Sk (((w2.alloc (.cells (madeCells #[.int .u64 0,.int .u64 0,.int .u64 0,.int .u64 0,.int .u64 0,.int .u64 0,.int .u64 0,.int .u64 0] (m.up.length * 8)) 103)).alloc (.cells #[.slice (some ⟨w2.heap.size,0,none⟩) m.up.length m.up.length] 99)).alloc (.cells #[.func (.func 85) #[] #[.pointer (some ⟨w2.heap.size+1,0,none⟩),.pointer (some ⟨b3,0,none⟩),.pointer (some ⟨b2,0,none⟩),.pointer (some ⟨w2.heap.size+1+1,0,none⟩)]] 122)) w.heap.size b2 b3 (w2.heap.size+1) (w2.heap.size+1+1) w2.heap.size (.slice pu m.up.length cu) (.slice pv m.val.length cv) (.slice pn nl.length cn) m nl (fun _=>0)∧Below w.heap.size w (((w2.alloc (.cells (madeCells #[.int .u64 0,.int .u64 0,.int .u64 0,.int .u64 0,.int .u64 0,.int .u64 0,.int .u64 0,.int .u64 0] (m.up.length * 8)) 103)).alloc (.cells #[.slice (some ⟨w2.heap.size,0,none⟩) m.up.length m.up.length] 99)).alloc (.cells #[.func (.func 85) #[] #[.pointer (some ⟨w2.heap.size+1,0,none⟩),.pointer (some ⟨b3,0,none⟩),.pointer (some ⟨b2,0,none⟩),.pointer (some ⟨w2.heap.size+1+1,0,none⟩)]] 122))∧w.heap.size≤w2.heap.size) from by
  have a1:=below_alloc w2 (.cells (madeCells #[.int .u64 0,.int .u64 0,.int .u64 0,.int .u64 0,.int .u64 0,.int .u64 0,.int .u64 0,.int .u64 0] (m.up.length * 8)) 103)
  have a2:=below_alloc (w2.alloc (.cells (madeCells #[.int .u64 0,.int .u64 0,.int .u64 0,.int .u64 0,.int .u64 0,.int .u64 0,.int .u64 0,.int .u64 0] (m.up.length * 8)) 103)) (.cells #[.slice (some ⟨w2.heap.size,0,none⟩) m.up.length m.up.length] 99)
  have a3:=below_alloc ((w2.alloc (.cells (madeCells #[.int .u64 0,.int .u64 0,.int .u64 0,.int .u64 0,.int .u64 0,.int .u64 0,.int .u64 0,.int .u64 0] (m.up.length * 8)) 103)).alloc (.cells #[.slice (some ⟨w2.heap.size,0,none⟩) m.up.length m.up.length] 99)) (.cells #[.func (.func 85) #[] #[.pointer (some ⟨w2.heap.size+1,0,none⟩),.pointer (some ⟨b3,0,none⟩),.pointer (some ⟨b2,0,none⟩),.pointer (some ⟨w2.heap.size+1+1,0,none⟩)]] 122)
  have s1:(w2.alloc (.cells (madeCells #[.int .u64 0,.int .u64 0,.int .u64 0,.int .u64 0,.int .u64 0,.int .u64 0,.int .u64 0,.int .u64 0] (m.up.length * 8)) 103)).heap.size=w2.heap.size+1:=by simp
  have s2:((w2.alloc (.cells (madeCells #[.int .u64 0,.int .u64 0,.int .u64 0,.int .u64 0,.int .u64 0,.int .u64 0,.int .u64 0,.int .u64 0] (m.up.length * 8)) 103)).alloc (.cells #[.slice (some ⟨w2.heap.size,0,none⟩) m.up.length m.up.length] 99)).heap.size=w2.heap.size+1+1:=by simp
  have hb:=a1.trans ((a2.trans (a3.mono a2.size)).mono a1.size)
  have l2:=H2.out.2.1.lt
  have l3:=H2.out.2.2.1.lt
  have hsz:=H2.out.1.size
  have hbw:=H2.out.1.trans (hb.mono hsz)
  refine ⟨⟨H2.out.2.1.later hb,H2.out.2.2.1.later hb,?_,?_,((ms_made w2 m.up.length).keep (a2.block _ (by omega))).keep (a3.block _ (by omega)),HM.out.1.keep fun k hk=>hbw.block k hk,HM.out.2.keep fun k hk=>hbw.block k hk,hsz,by omega,by omega,by omega,by omega⟩,hbw,hsz⟩
  ·have h9:=heap_alloc_last (w2.alloc (.cells (madeCells #[.int .u64 0,.int .u64 0,.int .u64 0,.int .u64 0,.int .u64 0,.int .u64 0,.int .u64 0,.int .u64 0] (m.up.length * 8)) 103)) (.cells #[.slice (some ⟨w2.heap.size,0,none⟩) m.up.length m.up.length] 99)
   rw [s1] at h9
   exact (a3.block _ (by omega)).trans h9
  ·have h9:=heap_alloc_last ((w2.alloc (.cells (madeCells #[.int .u64 0,.int .u64 0,.int .u64 0,.int .u64 0,.int .u64 0,.int .u64 0,.int .u64 0,.int .u64 0] (m.up.length * 8)) 103)).alloc (.cells #[.slice (some ⟨w2.heap.size,0,none⟩) m.up.length m.up.length] 99)) (.cells #[.func (.func 85) #[] #[.pointer (some ⟨w2.heap.size+1,0,none⟩),.pointer (some ⟨b3,0,none⟩),.pointer (some ⟨b2,0,none⟩),.pointer (some ⟨w2.heap.size+1+1,0,none⟩)]] 122)
   rw [s2] at h9
   exact h9
 have cX:(((w2.alloc (.cells (madeCells #[.int .u64 0,.int .u64 0,.int .u64 0,.int .u64 0,.int .u64 0,.int .u64 0,.int .u64 0,.int .u64 0] (m.up.length * 8)) 103)).alloc (.cells #[.slice (some ⟨w2.heap.size,0,none⟩) m.up.length m.up.length] 99)).alloc (.cells #[.func (.func 85) #[] #[.pointer (some ⟨w2.heap.size+1,0,none⟩),.pointer (some ⟨b3,0,none⟩),.pointer (some ⟨b2,0,none⟩),.pointer (some ⟨w2.heap.size+1+1,0,none⟩)]] 122)).cell? ⟨b2,0,none⟩=some (.slice pu m.up.length cu):=HX.out.1.bm.cell 0
 clear hN2 H1 H2
 go_wp2_with (simp only [hms])
 clear hms HMA cX c2
 have HST:=show Hid (∃ st ws,Sk (((w2.alloc (.cells (madeCells #[.int .u64 0,.int .u64 0,.int .u64 0,.int .u64 0,.int .u64 0,.int .u64 0,.int .u64 0,.int .u64 0] (m.up.length * 8)) 103)).alloc (.cells #[.slice (some ⟨w2.heap.size,0,none⟩) m.up.length m.up.length] 99)).alloc (.cells #[.func (.func 85) #[] #[.pointer (some ⟨w2.heap.size+1,0,none⟩),.pointer (some ⟨b3,0,none⟩),.pointer (some ⟨b2,0,none⟩),.pointer (some ⟨w2.heap.size+1+1,0,none⟩)]] 122)) w.heap.size b2 b3 (w2.heap.size+1) (w2.heap.size+1+1) w2.heap.size (.slice pu m.up.length cu) (.slice pv m.val.length cv) (.slice pn nl.length cn) m nl ws∧SI m.up (numF nl) st (abW ws)∧(∀ a,st a≤2)∧(∀ a,st a≠1)∧(∀ a,a<0→st a=2)∧Below w.heap.size w (((w2.alloc (.cells (madeCells #[.int .u64 0,.int .u64 0,.int .u64 0,.int .u64 0,.int .u64 0,.int .u64 0,.int .u64 0,.int .u64 0] (m.up.length * 8)) 103)).alloc (.cells #[.slice (some ⟨w2.heap.size,0,none⟩) m.up.length m.up.length] 99)).alloc (.cells #[.func (.func 85) #[] #[.pointer (some ⟨w2.heap.size+1,0,none⟩),.pointer (some ⟨b3,0,none⟩),.pointer (some ⟨b2,0,none⟩),.pointer (some ⟨w2.heap.size+1+1,0,none⟩)]] 122))) from
  ⟨fun _=>0,_,HX.out.1,by rw [abW_zero];exact SI.start _ _,fun _=>Nat.zero_le _,fun _=>Nat.zero_ne_one,fun a h=>absurd h (Nat.not_lt_zero _),HX.out.2.1⟩
 have HA:=show Hid (w.heap.size≤w2.heap.size) from HX.out.2.2
 clear HX HM
 generalize (((w2.alloc (.cells (madeCells #[.int .u64 0,.int .u64 0,.int .u64 0,.int .u64 0,.int .u64 0,.int .u64 0,.int .u64 0,.int .u64 0] (m.up.length * 8)) 103)).alloc (.cells #[.slice (some ⟨w2.heap.size,0,none⟩) m.up.length m.up.length] 99)).alloc (.cells #[.func (.func 85) #[] #[.pointer (some ⟨w2.heap.size+1,0,none⟩),.pointer (some ⟨b3,0,none⟩),.pointer (some ⟨b2,0,none⟩),.pointer (some ⟨w2.heap.size+1+1,0,none⟩)]] 122))=W3 at *
 generalize w2.heap.size=A at *
 go_loopw [7,16] (fun _ i wr=>∃ k:Nat,k≤m.up.length∧i=.int .i64 (k:Int)∧Hid (∃ st ws,Sk wr w.heap.size b2 b3 (A+1) (A+1+1) A (.slice pu m.up.length cu) (.slice pv m.val.length cv) (.slice pn nl.length cn) m nl ws∧SI m.up (numF nl) st (abW ws)∧(∀ a,st a≤2)∧(∀ a,st a≠1)∧(∀ a,a<k→st a=2)∧Below w.heap.size w wr)) (fun _ i _=>m.up.length - (intOf i).toNat)
 case atStart=>exact ⟨0,Nat.zero_le _,rfl,HST.out⟩
 case round =>
  clear HST
  obtain ⟨k,hk,rfl,HI⟩:=hrel
  by_cases hlt:k<m.up.length
  ·have hki:(k:Int)<(m.up.length:Int):=by omega
   obtain ⟨st,ws,hS,hI,hle,hno,hdn,hb⟩:=HI.out
   have f0:wr.cell? ⟨A+1+1,0,none⟩=some (.func (.func 85) #[] #[.pointer (some ⟨A+1,0,none⟩),.pointer (some ⟨b3,0,none⟩),.pointer (some ⟨b2,0,none⟩),.pointer (some ⟨A+1+1,0,none⟩)]):=hS.bf.cell 0
   have KC:=show Hid _ from HSC.out _ b2 b3 (A+1) (A+1+1) A wr st ws k hS hI hle hlt (fun g hg=>absurd hg (hno g)) (Nat.le_refl _)
   have HPR:=show Hid ((∀ a,st a≠1)∧(∀ a,a<k→st a=2)∧Below w.heap.size w wr∧(∀ a,st a≤2)) from ⟨hno,hdn,hb,hle⟩
   clear hS hI hle hno hdn hb HI
   go_wp2_with fail
   refine Calls.mono KC.out ?_
   rintro e w4 ⟨rfl,st4,ws4,hS4,hI4,hl4,hv4,hA4,hK4⟩
   have HN:=show Hid (∃ st ws,Sk w4 w.heap.size b2 b3 (A+1) (A+1+1) A (.slice pu m.up.length cu) (.slice pv m.val.length cv) (.slice pn nl.length cn) m nl ws∧SI m.up (numF nl) st (abW ws)∧(∀ a,st a≤2)∧(∀ a,st a≠1)∧(∀ a,a<k+1→st a=2)∧Below w.heap.size w w4) from by
    obtain ⟨q1,q2,q3,q4⟩:=HPR.out
    have hno4:∀ a,st4 a≠1:=fun a=>by
     by_cases h0:st a=0
     ·rcases hA4.hz a h0 with h | h <;> rw [h] <;> decide
     ·rw [hA4.hst a h0];exact q1 a
    refine ⟨st4,ws4,hS4,hI4,hl4,hno4,fun a ha => ?_,q3.trans (hK4.below q3.size fun i hi=>by have:=HA.out;omega)⟩
    by_cases e:a=k
    ·subst e
     have:=hl4 a
     have:=hno4 a
     omega
    ·have h2:=q2 a (by omega)
     rw [hA4.hst a (by rw [h2];decide)];exact h2
   clear hS4 hI4 hl4 hv4 hA4 hK4 KC HPR f0
   go_wp2_with fail
   go_roundw
   case rel=>exact ⟨k+1,by omega,val_int (by omega),HN.out⟩
   case measure=>(simp only [intOf];omega)
  ·obtain rfl:k=m.up.length:=by omega
   have hki:¬ (m.up.length:Int)<(m.up.length:Int):=by omega
   have HR:=show Hid (∃ ws,wr.cell? ⟨A+1,0,none⟩=some (.slice (some ⟨A,0,none⟩) m.up.length m.up.length)∧Ws wr A (m.up.length * 8) 103 ws∧(∀ a c,a<m.up.length→(abW ws a c=true ↔ ∃ b,Rc m.up a b∧numF nl b=c))∧Below w.heap.size w wr) from by
    obtain ⟨st,ws,hS,hI,hle,hno,hdn,hb⟩:=HI.out
    exact ⟨ws,hS.bs.cell 0,hS.abv,fun a c ha=>⟨hI.snd a c,fun ⟨b,h1,h2⟩=>by rw [← h2];exact hI.cmp a (hdn a ha) b h1⟩,hb⟩
   clear HI
   obtain ⟨ws,g0,g1,g2,g3⟩:=HR.out
   have HG:=show Hid (Ws wr A (m.up.length * 8) 103 ws∧(∀ a c,a<m.up.length→(abW ws a c=true ↔ ∃ b,Rc m.up a b∧numF nl b=c))∧Below w.heap.size w wr) from ⟨g1,g2,g3⟩
   clear g1 g2 g3 HR
   go_wp2_with fail
   go_ret
   exact ⟨A,rfl,ws,HG.out.1,HG.out.2.1,HA.out,HG.out.2.2⟩
end Go.Proofs.Ytoedidbbjnnpnaa.Wm
/-
  slices.Equal of rows of ints and of texts; upTo. No condition but what a machine can hold.
-/
namespace Go.Proofs.Ytoedidbbjnnpnaa.Wm
open Go.RowKit Go.Maps
set_option linter.unusedSimpArgs false
set_option linter.unusedVariables false
set_option maxRecDepth 100000 in
set_option maxHeartbeats 2000000 in
theorem eqlI_any (w:World) {La Lb:Nat} {u v:Value} {a b:List Int} (ha:IsI w La u a) (hb:IsI w Lb v b) (hla:a.length≤140737488351232) (hlb:b.length≤140737488351232) :
 Calls Try.prog 67 #[u,v] w fun e w'=>(∃ r:Bool,e=.returned (.bool r)∧(r=true ↔ a=b))∧Below w.heap.size w w':=by
 obtain ⟨p,c,rfl,hat⟩:=ha
 obtain ⟨q,d,rfl,hbt⟩:=hb
 have HA:=show Hid (∀ (j:Nat) (hj:j<a.length),∃ bb o,bb<w.heap.size∧p=some ⟨bb,o,none⟩∧w.cell? ⟨bb,o+j,none⟩=some (.int .i64 a[j])) from fun j hj=>by
  obtain ⟨bb,o,_,h1,h2⟩:=hat (by omega)
  obtain ⟨x,hx,rfl⟩:=h2 j hj
  exact ⟨bb,o,World.block_lt_of_cell? w _ hx,h1,hx⟩
 have HB:=show Hid (∀ (j:Nat) (hj:j<b.length),∃ bb o,bb<w.heap.size∧q=some ⟨bb,o,none⟩∧w.cell? ⟨bb,o+j,none⟩=some (.int .i64 b[j])) from fun j hj=>by
  obtain ⟨bb,o,_,h1,h2⟩:=hbt (by omega)
  obtain ⟨x,hx,rfl⟩:=h2 j hj
  exact ⟨bb,o,World.block_lt_of_cell? w _ hx,h1,hx⟩
 clear hat hbt
 by_cases hl:a.length=b.length
 ·have hli:((a.length:Int) != (b.length:Int))=false:=by simp [hl]
  have HL:=show Hid (a.length=b.length) from hl
  clear hl
  go_enter Try.func67,Try.ntmps67
  go_wp2_with fail
  go_loopw [5,13] (fun _ i wr=>∃ k:Nat,k≤a.length∧i=.int .i64 (k:Int)∧Hid (Below w.heap.size w wr∧∀ (j:Nat) (h1:j<a.length) (h2:j<b.length),j<k→a[j]=b[j])) (fun _ i _=>a.length - (intOf i).toNat)
  case atStart=>exact ⟨0,Nat.zero_le _,rfl,Below.refl _ _,fun _ _ _ h=>absurd h (Nat.not_lt_zero _)⟩
  case round =>
   obtain ⟨k,hk,rfl,HI⟩:=hrel
   by_cases hlt:k<a.length
   ·have hltb:k<b.length:=by have:=HL.out;omega
    obtain ⟨ba,oa,hba,rfl,hca⟩:=HA.out k hlt
    obtain ⟨bb,ob,hbb,rfl,hcb⟩:=HB.out k hltb
    have ha2:wr.cell? ⟨ba,oa+k,none⟩=some (.int .i64 a[k]):=(HI.out.1.cell (p:=⟨ba,oa+k,none⟩) hba).trans hca
    have hb2:wr.cell? ⟨bb,ob+k,none⟩=some (.int .i64 b[k]):=(HI.out.1.cell (p:=⟨bb,ob+k,none⟩) hbb).trans hcb
    have HS:=show Hid (a[k]=b[k]→∀ (j:Nat) (h1:j<a.length) (h2:j<b.length),j<k+1→a[j]=b[j]) from fun h j h1 h2 hj=>by
     by_cases e:j=k
     ·subst e;exact h
     ·exact HI.out.2 j h1 h2 (by omega)
    have HN:=show Hid (a[k]≠b[k]→¬ a=b) from fun h e=>h (by subst e;rfl)
    have HBL:=show Hid (Below w.heap.size w wr) from HI.out.1
    have hki:(k:Int)<(a.length:Int):=by omega
    have hkj:(k:Int)<(b.length:Int):=by omega
    clear hca hcb HA HB HI
    generalize a[k]=x at *
    generalize b[k]=y at *
    by_cases exy:x=y
    ·have HS2:=show Hid _ from HS.out exy
     have hne:(x != y)=false:=by simp [exy]
     clear HS HN exy
     go_wp2_with fail
     go_region
     go_wp2_with fail
     go_roundw
     case rel=>exact ⟨k+1,by omega,val_int (by omega),HBL.out.drew,HS2.out⟩
     case measure=>(simp only [intOf];omega)
    ·have HN2:=show Hid _ from HN.out exy
     have hne:(x != y)=true:=by simpa using exy
     clear HS HN exy
     go_wp2_with fail
     go_region
     go_wp2_with fail
     go_ret
     first | exact ⟨⟨false,rfl,⟨fun h=>(by cases h),fun h=>absurd h HN2.out⟩⟩,HBL.out.drew⟩ | exact ⟨Or.inl ⟨rfl,HN2.out⟩,HBL.out.drew⟩
   ·have HE:=show Hid (a=b) from List.ext_getElem HL.out fun j h1 h2=>HI.out.2 j h1 h2 (by omega)
    go_wp2_with fail
    go_ret
    first | exact ⟨⟨true,rfl,⟨fun _=>HE.out,fun _=>rfl⟩⟩,HI.out.1⟩ | exact ⟨Or.inr ⟨rfl,HE.out⟩,HI.out.1⟩
 ·have hli:((a.length:Int) != (b.length:Int))=true:=by simp;omega
  have HN:=show Hid (¬ a=b) from fun e=>hl (by rw [e])
  clear hl
  go_enter Try.func67,Try.ntmps67
  go_wp2_with fail
  go_ret
  first | exact ⟨⟨false,rfl,⟨fun h=>(by cases h),fun h=>absurd h HN.out⟩⟩,Below.refl _ _⟩ | exact ⟨Or.inl ⟨rfl,HN.out⟩,Below.refl _ _⟩
set_option maxRecDepth 100000 in
set_option maxHeartbeats 2000000 in
theorem eqlN_any (w:World) {La Lb:Nat} {u v:Value} {a b:List ByteArray} (ha:IsN w La u a) (hb:IsN w Lb v b) (hla:a.length≤140737488351232) (hlb:b.length≤140737488351232) :
 Calls Try.prog 64 #[u,v] w fun e w'=>(∃ r:Bool,e=.returned (.bool r)∧(r=true ↔ a=b))∧Below w.heap.size w w':=by
 obtain ⟨p,c,rfl,hat⟩:=ha
 obtain ⟨q,d,rfl,hbt⟩:=hb
 have HA:=show Hid (∀ (j:Nat) (hj:j<a.length),∃ bb o,bb<w.heap.size∧p=some ⟨bb,o,none⟩∧w.cell? ⟨bb,o+j,none⟩=some (.string a[j])) from fun j hj=>by
  obtain ⟨bb,o,_,h1,h2⟩:=hat (by omega)
  obtain ⟨x,hx,rfl⟩:=h2 j hj
  exact ⟨bb,o,World.block_lt_of_cell? w _ hx,h1,hx⟩
 have HB:=show Hid (∀ (j:Nat) (hj:j<b.length),∃ bb o,bb<w.heap.size∧q=some ⟨bb,o,none⟩∧w.cell? ⟨bb,o+j,none⟩=some (.string b[j])) from fun j hj=>by
  obtain ⟨bb,o,_,h1,h2⟩:=hbt (by omega)
  obtain ⟨x,hx,rfl⟩:=h2 j hj
  exact ⟨bb,o,World.block_lt_of_cell? w _ hx,h1,hx⟩
 clear hat hbt
 by_cases hl:a.length=b.length
 ·have hli:((a.length:Int) != (b.length:Int))=false:=by simp [hl]
  have HL:=show Hid (a.length=b.length) from hl
  clear hl
  go_enter Try.func64,Try.ntmps64
  go_wp2_with fail
  go_loopw [5,13] (fun _ i wr=>∃ k:Nat,k≤a.length∧i=.int .i64 (k:Int)∧Hid (Below w.heap.size w wr∧∀ (j:Nat) (h1:j<a.length) (h2:j<b.length),j<k→a[j]=b[j])) (fun _ i _=>a.length - (intOf i).toNat)
  case atStart=>exact ⟨0,Nat.zero_le _,rfl,Below.refl _ _,fun _ _ _ h=>absurd h (Nat.not_lt_zero _)⟩
  case round =>
   obtain ⟨k,hk,rfl,HI⟩:=hrel
   by_cases hlt:k<a.length
   ·have hltb:k<b.length:=by have:=HL.out;omega
    obtain ⟨ba,oa,hba,rfl,hca⟩:=HA.out k hlt
    obtain ⟨bb,ob,hbb,rfl,hcb⟩:=HB.out k hltb
    have ha2:wr.cell? ⟨ba,oa+k,none⟩=some (.string a[k]):=(HI.out.1.cell (p:=⟨ba,oa+k,none⟩) hba).trans hca
    have hb2:wr.cell? ⟨bb,ob+k,none⟩=some (.string b[k]):=(HI.out.1.cell (p:=⟨bb,ob+k,none⟩) hbb).trans hcb
    have HS:=show Hid (a[k]=b[k]→∀ (j:Nat) (h1:j<a.length) (h2:j<b.length),j<k+1→a[j]=b[j]) from fun h j h1 h2 hj=>by
     by_cases e:j=k
     ·subst e;exact h
     ·exact HI.out.2 j h1 h2 (by omega)
    have HN:=show Hid (a[k]≠b[k]→¬ a=b) from fun h e=>h (by subst e;rfl)
    have HBL:=show Hid (Below w.heap.size w wr) from HI.out.1
    have hki:(k:Int)<(a.length:Int):=by omega
    have hkj:(k:Int)<(b.length:Int):=by omega
    clear hca hcb HA HB HI
    generalize a[k]=x at *
    generalize b[k]=y at *
    by_cases exy:x=y
    ·have HS2:=show Hid _ from HS.out exy
     have hne:=beqS_eq exy
     clear HS HN exy
     go_wp2_with fail
     go_region
     go_wp2_with fail
     go_roundw
     case rel=>exact ⟨k+1,by omega,val_int (by omega),HBL.out.drew,HS2.out⟩
     case measure=>(simp only [intOf];omega)
    ·have HN2:=show Hid _ from HN.out exy
     have hne:=beqS_ne exy
     clear HS HN exy
     go_wp2_with fail
     go_region
     go_wp2_with fail
     go_ret
     first | exact ⟨⟨false,rfl,⟨fun h=>(by cases h),fun h=>absurd h HN2.out⟩⟩,HBL.out.drew⟩ | exact ⟨Or.inl ⟨rfl,HN2.out⟩,HBL.out.drew⟩
   ·have HE:=show Hid (a=b) from List.ext_getElem HL.out fun j h1 h2=>HI.out.2 j h1 h2 (by omega)
    go_wp2_with fail
    go_ret
    first | exact ⟨⟨true,rfl,⟨fun _=>HE.out,fun _=>rfl⟩⟩,HI.out.1⟩ | exact ⟨Or.inr ⟨rfl,HE.out⟩,HI.out.1⟩
 ·have hli:((a.length:Int) != (b.length:Int))=true:=by simp;omega
  have HN:=show Hid (¬ a=b) from fun e=>hl (by rw [e])
  clear hl
  go_enter Try.func64,Try.ntmps64
  go_wp2_with fail
  go_ret
  first | exact ⟨⟨false,rfl,⟨fun h=>(by cases h),fun h=>absurd h HN.out⟩⟩,Below.refl _ _⟩ | exact ⟨Or.inl ⟨rfl,HN.out⟩,Below.refl _ _⟩
set_option maxRecDepth 100000 in
set_option maxHeartbeats 2000000 in
theorem upTo_any (w:World) (n:Nat) (hn:n≤512) :
 Calls Try.prog 74 #[.int .i64 (n:Int)] w fun e w'=>∃ v,e=.returned v∧OwnZ w.heap.size w' v ((List.range n).map fun k:Nat=>(k:Int))∧Below w.heap.size w w':=by
 obtain ⟨i0,hi,hz0,hz1,hz2⟩:=info_parts infoI
 go_enter Try.func74,Try.ntmps74
 go_wp2_with fail
 go_loopw [3,4,6] (fun v _ i wr=>∃ k:Nat,k≤n∧i=.int .i64 (k:Int)∧Hid (OwnZ w.heap.size wr v ((List.range k).map fun k:Nat=>(k:Int))∧Below w.heap.size w wr)) (fun _ _ i _=>n - (intOf i).toNat)
 case atStart=>exact ⟨0,Nat.zero_le _,rfl,World.ownsRow_nil _ _ _ _,Below.refl _ _⟩
 case round =>
  obtain ⟨k,hk,rfl,HI⟩:=hrel
  by_cases hlt:k<n
  ·have hki:(k:Int)<(n:Int):=by omega
   have HST:=show Hid ((List.range (k+1)).map (fun k:Nat=>(k:Int))=(List.range k).map (fun k:Nat=>(k:Int)) ++ [(k:Int)]) from by
    show (List.range (k+1)).map (fun k:Nat=>(k:Int))=(List.range k).map (fun k:Nat=>(k:Int)) ++ [(k:Int)]
    rw [List.range_succ,List.map_append];rfl
   have hlen:((List.range k).map fun k:Nat=>(k:Int)).length≤512:=by simp;omega
   generalize (List.range k).map (fun k:Nat=>(k:Int))=l at *
   obtain ⟨pl,cl,rfl⟩:=HI.out.1.slice
   go_wp2_with (at_builtin;refine wpList_append_own _ rfl (.tmp 9) (.tmp 11) 27 rfl w.heap.size 3 i0 (.int .i64 0) 1 8 Try.underlying27 hi hz0 hz1 hz2 rfl (by decide) _ l.length (l.map (Value.int .i64)) rfl (HI.out.1.later (below_alloc wr _)) ⟨wr.heap.size,0,none⟩ 1 1 [.int .i64 (k:Int)] rfl rfl (cell_one_new _ _ _) (by simp [Value.oneCell']) (by unfold maxLen;omega) (by omega) (by have:=HI.out.2.size;simp;omega) ?_)
   intro v' w8 ho3 hg3 _
   have HQ:=show Hid (OwnZ w.heap.size w8 v' ((List.range (k+1)).map fun k:Nat=>(k:Int))∧Below w.heap.size w w8) from by
    have:=HI.out.1.grow ho3 hg3 HI.out.2.size
    exact ⟨by rw [HST.out];exact this.1,HI.out.2.trans this.2⟩
   clear ho3 hg3 HI HST
   go_wp2_with fail
   go_roundw
   case rel=>exact ⟨k+1,by omega,val_int (by omega),HQ.out⟩
   case measure=>(simp only [intOf];omega)
  ·obtain rfl:k=n:=by omega
   have hki:¬ (k:Int)<(k:Int):=by omega
   go_wp2_with fail
   go_ret
   exact ⟨_,rfl,HI.out⟩
end Go.Proofs.Ytoedidbbjnnpnaa.Wm
/-
  A whole set of numbers loaded out of a row of them; two compared whole. No condition.
-/
namespace Go.Proofs.Ytoedidbbjnnpnaa.Wm
open Go.RowKit Go.Maps
set_option linter.unusedSimpArgs false
set_option linter.unusedVariables false
def c8 (ws:Nat→Nat) (a:Nat):List Value:=(List.range 8).map fun q=>wdV ws (a * 8+q)
theorem c8_at (ws:Nat→Nat) (a:Nat) {i:Nat} (h:i<8):(c8 ws a).toArray[i]?=some (wdV ws (a * 8+i)):=by
 simp [c8,h]
theorem ldSet {w:World} {A n:Nat} {T:TypeId} {ws:Nat→Nat} (h:Ws w A n T ws) {a:Nat} (ha:a * 8+8≤n):(Instr.loadAt 103 (.pointer (some ⟨A,a * 8,none⟩))).run Try.prog w=.ok (.agg (c8 ws a).toArray) w:=by
 refine run_loadAt_mid (P:=Try.prog) w A (a * 8) 103 (c8 ws a) _ (fun i v hv => ?_) Try.underlying103 rfl (by kernel_rfl)
 have hi:i<8:=by
  rcases Nat.lt_or_ge i 8 with h | h
  ·exact h
  ·rw [List.getElem?_eq_none (by simp [c8];omega)] at hv;cases hv
 have e:(c8 ws a)[i]?=some (wdV ws (a * 8+i)):=by simp [c8,hi]
 rw [e] at hv
 cases hv
 exact h.row.cell (by omega)
theorem underU:Try.prog.underlying 101=some (.int .u64):=by kernel_rfl
theorem cellsU:Try.prog.cellsOf 101=1:=by kernel_rfl
theorem aggU (w:World):(isAgg 101).run Try.prog w=.ok false w:=by
 simp [isAgg,run_underlying underU]
theorem part_set (w:World) (ws:Nat→Nat) (a:Nat) {i:Nat} (hi:i<8):(part 101 (c8 ws a).toArray i).run Try.prog w=.ok (wdV ws (a * 8+i)) w:=by
 simp only [part,Sem.run_bind,aggU,Result.andThen_ok,Bool.false_eq_true,if_false,c8_at ws a hi]
 rfl
theorem eqItems_set (w:World) (d:Nat) (ws ws':Nat→Nat) (a b:Nat):∀ is:List Nat,(∀ i ∈ is,i<8)→(Op.eqItems (d+1) 101 1 (c8 ws a).toArray (c8 ws' b).toArray is).run Try.prog w=.ok (is.all fun i=>ws (a * 8+i) == ws' (b * 8+i)) w
 | [],_=>rfl
 | i :: is,h=>by
  have hi:=h i List.mem_cons_self
  have ih:=eqItems_set w d ws ws' a b is (fun j hj=>h j (List.mem_cons_of_mem _ hj))
  have e1:(Op.equalIn (d+1) 101 (wdV ws (a * 8+i)) (wdV ws' (b * 8+i))).run Try.prog w=.ok (ws (a * 8+i) == ws' (b * 8+i)) w:=by
   simp only [wdV,Op.equalIn,Sem.run_bind,run_underlying underU,Result.andThen_ok,if_true,Sem.run_pure]
   congr 1
   rw [Bool.eq_iff_iff]
   simp only [beq_iff_eq]
   omega
  simp only [Op.eqItems,Sem.run_bind,Nat.mul_one,part_set w ws a hi,part_set w ws' b hi,Result.andThen_ok,e1]
  cases h1:(ws (a * 8+i) == ws' (b * 8+i))
  ·simp [h1]
  ·simp only [Bool.not_true,Bool.false_eq_true,if_false,ih,List.all_cons,h1,Bool.true_and]
def same8 (ws ws':Nat→Nat) (a b:Nat):Bool:=(List.range 8).all fun i=>ws (a * 8+i) == ws' (b * 8+i)
theorem equal_set (w:World) (ws ws':Nat→Nat) (a b:Nat):(Op.equal 103 (.agg (c8 ws a).toArray) (.agg (c8 ws' b).toArray)).run Try.prog w=.ok (same8 ws ws' a b) w:=by
 obtain ⟨i0,hi0⟩:∃ i0,Try.prog.info? 101=some i0:=by
  cases h:Try.prog.info? 101 with
  | none=>have:=cellsU;simp [Program.cellsOf,h] at this
  | some i=>exact ⟨i,rfl⟩
 show (Op.equalIn (9998+1+1) _ _ _).run Try.prog w=_
 rw [run_equalIn_array w (9998+1) (c8 ws a).toArray (c8 ws' b).toArray Try.underlying103 hi0,cellsU,eqItems_set w 9998 ws ws' a b _ (fun i hi=>List.mem_range.1 hi)]
 rfl
theorem same8_iff {ws ws':Nat→Nat} {a b:Nat} (h1:∀ k,ws k<18446744073709551616) (h2:∀ k,ws' k<18446744073709551616):same8 ws ws' a b=true ↔ ∀ c,c<512→abW ws a c=abW ws' b c:=by
 unfold same8
 rw [List.all_eq_true]
 constructor
 ·intro h c hc
  have h3:=h (c / 64) (List.mem_range.2 (by omega))
  rw [beq_iff_eq] at h3
  unfold abW bit
  rw [h3]
 ·intro h i hi
  rw [List.mem_range] at hi
  rw [beq_iff_eq]
  apply Nat.eq_of_testBit_eq
  intro k
  by_cases hk:k<64
  ·have h3:=h (i * 64+k) (by omega)
   unfold abW bit at h3
   rw [decide_eq_true (show i * 64+k<512 by omega),Bool.true_and,Bool.true_and,show (i * 64+k) / 64=i by omega,show (i * 64+k) % 64=k by omega] at h3
   exact h3
  ·have e1:∀ x,x<18446744073709551616→x.testBit k=false:=fun x hx=>Nat.testBit_lt_two_pow (Nat.lt_of_lt_of_le hx (by
    have:2 ^ 64≤2 ^ k:=Nat.pow_le_pow_right (by decide) (by omega)
    omega))
   rw [e1 _ (h1 _),e1 _ (h2 _)]
end Go.Proofs.Ytoedidbbjnnpnaa.Wm
