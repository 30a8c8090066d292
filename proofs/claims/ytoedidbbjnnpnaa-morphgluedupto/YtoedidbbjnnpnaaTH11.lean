/-
  reckoned: of any model and any numbers. No condition.
-/
import Derived.Test.YtoedidbbjnnpnaaQWOrd
namespace Go.Proofs.Ytoedidbbjnnpnaa.Wm
open Go.RowKit Go.Maps
open Wd (Md Mid Rc Ed Sub upd vl allW names)
set_option linter.unusedSimpArgs false
def IsO (u:List (List Int)) (M:Nat→Nat→Bool):Prop:=∀ a b,M a b=true ↔ Rc u a b
theorem isO_ex (u:List (List Int)):∃ M,IsO u M:=⟨fun a b=>@decide (Rc u a b) (Classical.propDecidable _),fun _ _=>@decide_eq_true_iff _ (Classical.propDecidable _)⟩
theorem cf_leq:Cf 93:=fun _ _=>by kernel_rfl
set_option maxRecDepth 100000 in
theorem leq1_any (w:World) {L R A S:Nat} {uv vv:Value} {m:Md} {st ws:Nat→Nat} (h:Rk w L R A S uv vv m st ws) (hn:m.up.length≤512) (a b:Nat) (ha:a<m.up.length) (hb:b<m.up.length) :
 Calls Try.prog 93 #[.int .i64 (a:Int),.int .i64 (b:Int),.pointer (some ⟨R,0,none⟩)] w fun e w'=>e=.returned (.bool (abW ws a b))∧Below w.heap.size w w':=by
 have K:=show Hid _ from has_any w h.abv (a * 8) b (by omega) (by omega)
 have HA:=show Hid (bit ws (a * 8) b=abW ws a b) from by
  show bit ws (a * 8) b=abW ws a b
  unfold abW;rw [decide_eq_true (by omega)];rfl
 have c2:=h.c2
 have hai:(a:Int)<(m.up.length:Int):=by omega
 clear h
 go_enter Try.func93,Try.ntmps93
 go_wp2_with fail
 refine Calls.mono K.out ?_
 rintro e w2 ⟨rfl,rfl⟩
 clear K
 go_wp2_with fail
 go_ret
 exact ⟨ret_bool HA.out,(Below.refl _ _).drew⟩
def Rek (w':World) (M:Nat→Nat→Bool) (m:Md) (ls:List Int) (fv:Value) (er:Int):Prop :=
 (¬ Wd.Good m∧fv=.nilFunc∧er=170)∨(Wd.Good m∧allW m.up.length ls=false∧fv=.nilFunc∧er=2)∨(Wd.Good m∧allW m.up.length ls=true∧Ord w' w'.heap.size m.up.length fv M∧er=0)
set_option maxRecDepth 100000 in
set_option maxHeartbeats 2000000 in
theorem reckoned_any (w:World) {M:Nat→Nat→Bool} {L Ls:Nat} {uv vv sv:Value} {m:Md} {ls:List Int} (hO:IsO m.up M) (hm:IsM w L uv vv m) (hf:Fit m) (hL:L≤w.heap.size) (hl:IsI w Ls sv ls) (hLs:Ls≤w.heap.size) (hlen:ls.length≤140737488351232) (hx:∀ x ∈ ls,-9223372036854775808≤x∧x≤9223372036854775807) :
 Calls Try.prog 54 #[.agg #[uv,vv],sv] w fun e w'=>∃ fv er,e=.returned (.tuple #[fv,.int .i64 er])∧Rek w' M m ls fv er∧Below w.heap.size w w':=by
 obtain ⟨pu,cu,rfl⟩:=IsS.form hm.up
 obtain ⟨pv,cv,rfl⟩:=IsS.form hm.val
 obtain ⟨ps,c2,rfl⟩:=IsS.form hl
 have KS:=show Hid (∀ W,Below w.heap.size w W→Calls Try.prog 76 #[.agg #[.slice pu m.up.length cu,.slice pv m.val.length cv]] W fun e w'=>e=.returned (.bool (Wd.shaped m))∧Below W.heap.size W w') from fun W hW=>shaped_any W (hm.keep fun k hk=>hW.block k (by omega)) hf (Nat.le_trans hL hW.size)
 have KO:=show Hid (Wd.shaped m=true→∀ W,Below w.heap.size w W→Calls Try.prog 77 #[.agg #[.slice pu m.up.length cu,.slice pv m.val.length cv]] W fun e w'=>Below W.heap.size W w'∧((e=.returned (.tuple #[.nilFunc,.bool false])∧¬ Wd.Good m) ∨
  ∃ R A S st ws,e=.returned (.tuple #[.func (.func 93) #[] #[.pointer (some ⟨R,0,none⟩)],.bool true])∧Rk w' L R A S (.slice pu m.up.length cu) (.slice pv m.val.length cv) m st ws∧Wd.Good m∧Wd.Inv m st (abW ws)∧(∀ a,a<m.up.length→st a=2)∧W.heap.size≤R∧W.heap.size≤A∧W.heap.size≤S)) from fun hs W hW=>ordered_any W (hm.keep fun k hk=>hW.block k (by omega)) hs hf (Nat.le_trans hL hW.size)
 have KA:=show Hid (∀ W,Below w.heap.size w W→Calls Try.prog 78 #[.slice ps ls.length c2,.int .i64 (m.up.length:Int)] W fun e w'=>e=.returned (.bool (allW m.up.length ls))∧Below W.heap.size W w') from fun W hW=>areWorlds_any W (IsI.keep hl fun k hk=>hW.block k (by omega)) (Nat.le_trans hLs hW.size) hlen hx hf.1
 have HNS:=show Hid (Wd.shaped m=false→¬ Wd.Good m) from fun h g=>by rw [g.shape] at h;cases h
 have HN5:=show Hid (Wd.Good m→m.up.length≤512) from fun g=>(Wd.shaped_and g.shape).2.1
 have hLw:=hL
 clear hm hf hl hx hlen hLs
 go_enter Try.func54,Try.ntmps54
 go_wp2_with (refine wpList_box 25 _ rfl _ rfl rfl ?_)
 intro w1 b1 hN
 have H1:=show Hid (Below w.heap.size w w1∧Cl w1 b1 #[.slice pu m.up.length cu,.slice pv m.val.length cv] 25) from ⟨hN.bel,hN.blk⟩
 have K1:=show Hid _ from KS.out w1 hN.bel
 clear hN KS
 go_wp2_with (refine wpList_ldw 25 _ rfl b1 rfl _ _ H1.out.2 rfl Try.underlying25 sizeM rfl ?_)
 refine Calls.mono K1.out ?_
 rintro e w2 ⟨rfl,hb2⟩
 have H2:=show Hid (Below w.heap.size w w2∧Cl w2 b1 #[.slice pu m.up.length cu,.slice pv m.val.length cv] 25) from ⟨H1.out.1.trans (hb2.mono H1.out.1.size),H1.out.2.later hb2⟩
 clear hb2 K1 H1
 cases hsh:Wd.shaped m
 ·have HX:=show Hid (¬ Wd.Good m) from HNS.out hsh
  clear hsh KO
  go_wp2_with fail
  go_ret2
  exact ⟨_,_,rfl,Or.inl ⟨HX.out,rfl,rfl⟩,H2.out.1⟩
 ·have K2:=show Hid _ from KO.out hsh w2 H2.out.1
  clear hsh KO
  go_wp2_with (refine wpList_ldw 25 _ rfl b1 rfl _ _ H2.out.2 rfl Try.underlying25 sizeM rfl ?_)
  refine Calls.mono K2.out ?_
  rintro e w3 ⟨hb3,hc3⟩
  have H3:=show Hid (Below w.heap.size w w3∧Cl w3 b1 #[.slice pu m.up.length cu,.slice pv m.val.length cv] 25∧Below w2.heap.size w2 w3) from ⟨H2.out.1.trans (hb3.mono H2.out.1.size),H2.out.2.later hb3,hb3⟩
  clear hb3 K2
  rcases hc3 with ⟨rfl,hbad⟩ | ⟨R,A,S,st,ws,rfl,hR,hG,hI,h2,hR2,hA2,hS2⟩
  ·have HX:=show Hid (¬ Wd.Good m) from hbad
   clear hbad
   go_wp2_with fail
   go_ret2
   exact ⟨_,_,rfl,Or.inl ⟨HX.out,rfl,rfl⟩,H3.out.1⟩
  ·have HG:=show Hid (Wd.Good m) from hG
   have HO:=show Hid (∀ W,Below w3.heap.size w3 W→Ord W W.heap.size m.up.length (.func (.func 93) #[] #[.pointer (some ⟨R,0,none⟩)]) M) from fun W hW=>⟨_,[.pointer (some ⟨R,0,none⟩)],rfl,cf_leq,fun W' a b hW' ha hb=>by
    have h9:M a b=abW ws a b:=by
     rw [Bool.eq_iff_iff,hO a b]
     exact (hI.abv a (h2 a ha) b).symm
    rw [h9]
    have hlt:=hR.abv.row.lt
    have hlt2:=hR.stg.lt
    have hlt3:=hR.blk.lt
    have hsz:=hW.size
    exact leq1_any W' (hR.keep fun k hk=>((hW'.block k (by have:=H3.out.1.size;omega)).trans (hW.block k (by have:=H3.out.1.size;omega)))) (HN5.out hG) a b ha hb⟩
   have c0:w3.cell? ⟨b1,0,none⟩=some (.slice pu m.up.length cu):=Cl.cell (T:=25) H3.out.2.1 0
   have K3:=show Hid _ from KA.out w3 H3.out.1
   clear hR hG hI h2 hR2 hA2 hS2 KA
   go_wp2_with fail
   refine Calls.mono K3.out ?_
   rintro e w4 ⟨rfl,hb4⟩
   have H4:=show Hid (Below w.heap.size w w4∧Below w3.heap.size w3 w4) from ⟨H3.out.1.trans (hb4.mono H3.out.1.size),hb4⟩
   clear hb4 K3 c0
   cases hal:allW m.up.length ls
   ·have HAL:=show Hid (allW m.up.length ls=false) from hal
    clear hal
    go_wp2_with fail
    go_ret2
    exact ⟨_,_,rfl,Or.inr (Or.inl ⟨HG.out,HAL.out,rfl,rfl⟩),H4.out.1⟩
   ·have HAL:=show Hid (allW m.up.length ls=true) from hal
    have HOW:=show Hid _ from HO.out w4 H4.out.2
    clear hal HO
    go_wp2_with fail
    go_ret2
    exact ⟨_,_,rfl,Or.inr (Or.inr ⟨HG.out,HAL.out,HOW.out,rfl⟩),H4.out.1⟩
end Go.Proofs.Ytoedidbbjnnpnaa.Wm
/-
  over, height: of any order that a function value tells. No condition.
-/
namespace Go.Proofs.Ytoedidbbjnnpnaa.Wm
open Go.RowKit Go.Maps
open Wd (Md Mid Rc Ed Sub upd vl allW names)
set_option linter.unusedSimpArgs false
def ovP (M:Nat→Nat→Bool) (a:Nat) (x:Int):Bool:=decide (x≠(a:Int)) && M a x.toNat
theorem cf_over1:Cf 96:=fun _ _=>by kernel_rfl
set_option maxRecDepth 100000 in
set_option maxHeartbeats 1000000 in
theorem over1_any (w:World) {n a:Nat} {L:Nat} {fv:Value} {M:Nat→Nat→Bool} {b1 b2:Nat} (hO:Ord w L n fv M) (_hL:L≤w.heap.size) (ha:a<n) (h1:Cl w b1 #[.int .i64 (a:Int)] 3) (h2:Cl w b2 #[fv] 90) (x:Nat) (hx:x<n) (_hn:n≤512) :
 Calls Try.prog 96 #[.int .i64 (x:Int),.pointer (some ⟨b1,0,none⟩),.pointer (some ⟨b2,0,none⟩)] w fun e w'=>e=.returned (.bool (ovP M a (x:Int)))∧Below w.heap.size w w':=by
 obtain ⟨f,cs,rfl,hcf,hc⟩:=hO
 have K:=show Hid _ from hc w a x (Below.refl _ _) ha hx
 have HCF:=show Hid (Cf f) from hcf
 have c1:w.cell? ⟨b1,0,none⟩=some (.int .i64 (a:Int)):=h1.cell 0
 have c2:w.cell? ⟨b2,0,none⟩=some (.func (.func f) #[] cs.toArray):=h2.cell 0
 have HP:=show Hid (ovP M a (x:Int)=(decide (x≠a) && M a x)) from by
  show ovP M a (x:Int)=(decide (x≠a) && M a x)
  unfold ovP
  rw [Int.toNat_natCast]
  congr 1
  exact decide_eq_decide.2 (by omega)
 generalize ovP M a (x:Int)=ans at *
 clear hc hcf h1 h2
 by_cases e:x=a
 ·have h1:((x:Int) != (a:Int))=false:=by simp [e]
  have HE:=show Hid (ans=false) from HP.out.trans (by simp [e])
  clear e
  go_enter Try.func96,Try.ntmps96
  go_wp2_with fail
  go_ret
  exact ⟨ret_bool HE.out.symm,Below.refl _ _⟩
 ·have h1:((x:Int) != (a:Int))=true:=by simp;omega
  have HE:=show Hid (ans=M a x) from HP.out.trans (by simp [e])
  clear e
  go_enter Try.func96,Try.ntmps96
  go_wp2_with (refine wpList_callV rfl f _ [.tmp 10,.tmp 11] _ rfl [.int .i64 (a:Int),.int .i64 (x:Int)] cs rfl rfl HCF.out ?_)
  refine Calls.mono K.out ?_
  rintro e w2 ⟨rfl,hb⟩
  refine ⟨_,rfl,?_⟩
  have HB:=show Hid (Below w.heap.size w w2) from hb
  clear K hb
  go_wp2_with fail
  go_ret
  exact ⟨ret_bool HE.out.symm,HB.out⟩
set_option maxRecDepth 100000 in
set_option maxHeartbeats 1000000 in
theorem over_any (w:World) {n a:Nat} {L:Nat} {fv:Value} {M:Nat→Nat→Bool} (hO:Ord w L n fv M) (hL:L≤w.heap.size) (ha:a<n) (hn:n≤512) :
 Calls Try.prog 79 #[.int .i64 (a:Int),.int .i64 (n:Int),fv] w fun e w'=>∃ v,e=.returned v∧OwnI w.heap.size w' v (numsTo (ovP M a) n)∧Below w.heap.size w w':=by
 have K:=show Hid (∀ W b1 b2,Below w.heap.size w W→Cl W b1 #[.int .i64 (a:Int)] 3→Cl W b2 #[fv] 90→Calls Try.prog 55 #[.int .i64 (n:Int),.func (.func 96) #[] #[.pointer (some ⟨b1,0,none⟩),.pointer (some ⟨b2,0,none⟩)]] W fun e w'=>∃ v,e=.returned v∧OwnI W.heap.size w' v (numsTo (ovP M a) n)∧Below W.heap.size W w') from fun W b1 b2 hW h1 h2 =>
  chosen_any W (L:=W.heap.size) (D:=fun x=>0≤x∧x<(n:Int)) ⟨_,[.pointer (some ⟨b1,0,none⟩),.pointer (some ⟨b2,0,none⟩)],rfl,cf_over1,fun W' x hW' hx=>by
   obtain ⟨k,rfl⟩:=Int.eq_ofNat_of_zero_le hx.1
   exact over1_any W' (L:=W'.heap.size) (hO.later (hW.mono hL |>.trans (hW'.mono (by have:=hW.size;omega))) (by have:=hW.size;have:=hW'.size;omega)) (Nat.le_refl _) ha (h1.later hW') (h2.later hW') k (by omega) hn⟩ (fun k hk=>⟨by omega,by omega⟩) (Nat.le_refl _) hn
 obtain ⟨f,cs,rfl,-,-⟩:=hO
 go_enter Try.func79,Try.ntmps79
 go_wp2_with (refine wpList_box1 3 _ rfl _ rfl rfl rfl ?_)
 intro w1 b1 hN1
 have H1:=show Hid (Below w.heap.size w w1∧Cl w1 b1 #[.int .i64 (a:Int)] 3) from ⟨hN1.bel,hN1.blk⟩
 clear hN1
 go_wp2_with (refine wpList_box1 90 _ rfl _ rfl rfl rfl ?_)
 intro w2 b2 hN2
 have K2:=show Hid _ from K.out w2 b1 b2 (H1.out.1.trans (hN2.bel.mono H1.out.1.size)) (H1.out.2.later hN2.bel) hN2.blk
 have H2:=show Hid (Below w.heap.size w w2) from H1.out.1.trans (hN2.bel.mono H1.out.1.size)
 clear hN2 H1 K
 go_wp2_with fail
 refine Calls.mono K2.out ?_
 rintro e w3 ⟨v,rfl,ho,hb⟩
 have H3:=show Hid (OwnI w.heap.size w3 v (numsTo (ovP M a) n)∧Below w.heap.size w w3) from ⟨ho.base H2.out.size,H2.out.trans (hb.mono H2.out.size)⟩
 clear ho hb K2
 go_wp2_with fail
 go_ret
 exact ⟨_,rfl,H3.out⟩
/-! Heights. -/
def mxL (h:Nat→Nat) (l:List Nat):Nat:=l.foldl (fun m v=>max m (h v)) 0
theorem mxL_snoc (h:Nat→Nat) (l:List Nat) (v:Nat):mxL h (l ++ [v])=max (mxL h l) (h v):=by simp [mxL]
theorem fold_ge (h:Nat→Nat):∀ (l:List Nat) (m:Nat),m≤l.foldl (fun m v=>max m (h v)) m
 | [],_=>Nat.le_refl _
 | x :: r,m=>Nat.le_trans (Nat.le_max_left m (h x)) (fold_ge h r _)
theorem fold_in (h:Nat→Nat):∀ (l:List Nat) (m v:Nat),v ∈ l→h v≤l.foldl (fun m v=>max m (h v)) m
 | x :: r,m,v,hv=>by
  rcases List.mem_cons.1 hv with rfl | hv
  ·exact Nat.le_trans (Nat.le_max_right m (h v)) (fold_ge h r _)
  ·exact fold_in h r _ v hv
theorem fold_le (h:Nat→Nat) (B:Nat):∀ (l:List Nat) (m:Nat),m≤B→(∀ v ∈ l,h v≤B)→l.foldl (fun m v=>max m (h v)) m≤B
 | [],_,hm,_=>hm
 | x :: r,m,hm,hv=>fold_le h B r _ (Nat.max_le.2 ⟨hm,hv x (by simp)⟩) fun v hv'=>hv v (by simp [hv'])
theorem mxL_in {h:Nat→Nat} {l:List Nat} {v:Nat} (hv:v ∈ l):h v≤mxL h l:=fold_in h l 0 v hv
structure Hg (M:Nat→Nat→Bool) (n:Nat) (h:Nat→Nat):Prop where
 eq:∀ a,a<n→h a=mxL h (numsTo (ovP M a) n)+1
 le:∀ a,a<n→h a≤512
section
variable {w0 w w':World} {L n:Nat} {fv:Value} {M:Nat→Nat→Bool} {h:Nat→Nat} {b5 b2 b3 b6 G:Nat} {kn:Nat→Nat}
end
end Go.Proofs.Ytoedidbbjnnpnaa.Wm
/-
  Check, Leq, Above, Root, True, Height: of any model. No condition.
-/
namespace Go.Proofs.Ytoedidbbjnnpnaa.Wm
open Go.RowKit Go.Maps
open Wd (Md Mid Rc Ed Sub upd vl allW inW names)
set_option linter.unusedSimpArgs false
theorem isI_nil (w:World):IsI w 0 (.slice none 0 0) []:=⟨none,0,rfl,fun h=>absurd h (by simp)⟩
theorem isI_new {w w':World} {b:Nat} {l:List Int} (hN:New w w' b (l.map (Value.int .i64)).toArray 3):IsI w' w'.heap.size (.slice (some ⟨b,0,none⟩) l.length l.length) l:=by
 refine ⟨_,_,rfl,fun h0=>⟨b,0,by rw [hN.up];omega,rfl,fun j hj=>⟨.int .i64 l[j],?_,rfl⟩⟩⟩
 rw [Nat.zero_add]
 have h:w'.cell? ⟨b,j,none⟩=((l.map (Value.int .i64)).toArray)[j]?:=Cl.cell (T:=3) hN.blk j
 rw [h]
 simp [hj]
section
variable {ops:Array Oper} {rest:List Oper} {o:Oper} {a:Act} {Q:Exit→Act→World→Prop} {w:World}
theorem bs1 (w:World) (n:Int):(Instr.buildSlice 27 1 #[(0,.int .i64 n)]).run Try.prog w=.ok (.slice (some ⟨w.heap.size,0,none⟩) 1 1) (w.alloc (.cells #[.int .i64 n] 3)):=by kernel_rfl
theorem bs2 (w:World) (n k:Int):(Instr.buildSlice 27 2 #[(0,.int .i64 n),(1,.int .i64 k)]).run Try.prog w=.ok (.slice (some ⟨w.heap.size,0,none⟩) 2 2) (w.alloc (.cells #[.int .i64 n,.int .i64 k] 3)):=by kernel_rfl
theorem wpList_bs1 (hg:o.guard=none) (x:Operand) (hop:o.op=Op.buildSlice 27 1 #[(0,x)]) (n:Int) (hx:a.eval x=.int .i64 n)
 (hK:∀ w' q,New w w' q #[.int .i64 n] 3→wpList Try.prog ops Q rest (a.put o.dst (.slice (some ⟨q,0,none⟩) 1 1)) w'):wpList Try.prog ops Q (o :: rest) a w:=by
 refine wpList_plain hg fun K' hK' => ?_
 have hrun:=bs1 w n
 unfold Oper.wp
 simp [execOp,hop,hx,hrun,Result.andThen]
 exact hK' _ _ (hK _ _ (new_alloc w _ _))
theorem wpList_bs2 (hg:o.guard=none) (x y:Operand) (hop:o.op=Op.buildSlice 27 2 #[(0,x),(1,y)]) (n k:Int) (hx:a.eval x=.int .i64 n) (hy:a.eval y=.int .i64 k)
 (hK:∀ w' q,New w w' q #[.int .i64 n,.int .i64 k] 3→wpList Try.prog ops Q rest (a.put o.dst (.slice (some ⟨q,0,none⟩) 2 2)) w'):wpList Try.prog ops Q (o :: rest) a w:=by
 refine wpList_plain hg fun K' hK' => ?_
 have hrun:=bs2 w n k
 unfold Oper.wp
 simp [execOp,hop,hx,hy,hrun,Result.andThen]
 exact hK' _ _ (hK _ _ (new_alloc w _ _))
end
set_option maxRecDepth 100000 in
set_option maxHeartbeats 1000000 in
theorem check_any (w:World) {L:Nat} {uv vv:Value} {m:Md} (hm:IsM w L uv vv m) (hf:Fit m) (hL:L≤w.heap.size) :
 Calls Try.prog 43 #[.agg #[uv,vv]] w fun e w'=>∃ er:Int,e=.returned (.int .i64 er)∧((Wd.Good m∧er=0)∨(¬ Wd.Good m∧er=170))∧Below w.heap.size w w':=by
 obtain ⟨M,hO⟩:=isO_ex m.up
 have K:=show Hid (∀ W,Below w.heap.size w W→Calls Try.prog 54 #[.agg #[uv,vv],.slice none 0 0] W fun e w'=>∃ fv er,e=.returned (.tuple #[fv,.int .i64 er])∧Rek w' M m [] fv er∧Below W.heap.size W w') from fun W hW=>reckoned_any W hO (hm.keep fun k hk=>hW.block k (by omega)) hf (Nat.le_trans hL hW.size) (isI_nil W) (Nat.zero_le _) (by simp) (by simp)
 obtain ⟨pu,cu,rfl⟩:=IsS.form hm.up
 obtain ⟨pv,cv,rfl⟩:=IsS.form hm.val
 clear hm hf
 go_enter Try.func43,Try.ntmps43
 go_wp2_with (refine wpList_box 25 _ rfl _ rfl rfl ?_)
 intro w1 b1 hN
 have H1:=show Hid (Below w.heap.size w w1∧Cl w1 b1 #[.slice pu m.up.length cu,.slice pv m.val.length cv] 25) from ⟨hN.bel,hN.blk⟩
 have K1:=show Hid _ from K.out w1 hN.bel
 clear hN K
 go_wp2_with (refine wpList_ldw 25 _ rfl b1 rfl _ _ H1.out.2 rfl Try.underlying25 sizeM rfl ?_)
 refine Calls.mono K1.out ?_
 rintro e w2 ⟨fv,er,rfl,hR,hb⟩
 have H2:=show Hid (Below w.heap.size w w2∧((Wd.Good m∧er=0)∨(¬ Wd.Good m∧er=170))) from ⟨H1.out.1.trans (hb.mono H1.out.1.size),by
  rcases hR with ⟨h1,_,h2⟩ | ⟨_,h,_⟩ | ⟨h1,_,_,h2⟩
  ·exact Or.inr ⟨h1,h2⟩
  ·cases h
  ·exact Or.inl ⟨h1,h2⟩⟩
 clear hR hb K1
 go_wp2_with fail
 go_ret
 exact ⟨_,rfl,H2.out.2,H2.out.1⟩
end Go.Proofs.Ytoedidbbjnnpnaa.Wm
/-
  Above, Root, True, Height: of any model. No condition.
-/
namespace Go.Proofs.Ytoedidbbjnnpnaa.Wm
open Go.RowKit Go.Maps
open Wd (Md Mid Rc Ed Sub upd vl allW inW names)
set_option linter.unusedSimpArgs false
def abP (M:Nat→Nat→Bool) (a:Nat) (x:Int):Bool:=M a x.toNat
theorem cf_above1:Cf 56:=fun _ _=>by kernel_rfl
set_option maxRecDepth 100000 in
theorem above1_any (w:World) {n a:Nat} {fv:Value} {M:Nat→Nat→Bool} {b1 b2:Nat} (hO:Ord w w.heap.size n fv M) (ha:a<n) (h1:Cl w b1 #[fv] 90) (h2:Cl w b2 #[.int .i64 (a:Int)] 3) (x:Nat) (hx:x<n) :
 Calls Try.prog 56 #[.int .i64 (x:Int),.pointer (some ⟨b1,0,none⟩),.pointer (some ⟨b2,0,none⟩)] w fun e w'=>e=.returned (.bool (abP M a (x:Int)))∧Below w.heap.size w w':=by
 obtain ⟨f,cs,rfl,hcf,hc⟩:=hO
 have K:=show Hid _ from hc w a x (Below.refl _ _) ha hx
 have HCF:=show Hid (Cf f) from hcf
 have c1:w.cell? ⟨b1,0,none⟩=some (.func (.func f) #[] cs.toArray):=h1.cell 0
 have c2:w.cell? ⟨b2,0,none⟩=some (.int .i64 (a:Int)):=h2.cell 0
 have HP:=show Hid (M a x=abP M a (x:Int)) from rfl
 generalize abP M a (x:Int)=ans at *
 clear hc hcf h1 h2
 go_enter Try.func56,Try.ntmps56
 go_wp2_with (refine wpList_callV rfl f _ [.tmp 6,.tmp 7] _ rfl [.int .i64 (a:Int),.int .i64 (x:Int)] cs rfl rfl HCF.out ?_)
 refine Calls.mono K.out ?_
 rintro e w2 ⟨rfl,hb⟩
 refine ⟨_,rfl,?_⟩
 have HB:=show Hid (Below w.heap.size w w2) from hb
 clear K hb
 go_wp2_with fail
 go_ret
 exact ⟨ret_bool HP.out,HB.out⟩
def AbvR (w:World) (B:Nat) (M:Nat→Nat→Bool) (m:Md) (a:Int) (v:Value) (er:Int):Prop :=
 (¬ Wd.Good m∧v=.slice none 0 0∧er=170)∨(Wd.Good m∧inW m.up.length a=false∧v=.slice none 0 0∧er=2)∨(Wd.Good m∧inW m.up.length a=true∧OwnI B w v (numsTo (abP M a.toNat) m.up.length)∧er=0)
theorem zero_fn2 (w:World):(zeroValue 90).run Try.prog w=.ok .nilFunc w:=by kernel_rfl
set_option maxRecDepth 100000 in
set_option maxHeartbeats 2000000 in
theorem above_any (w:World) {M:Nat→Nat→Bool} {L:Nat} {uv vv:Value} {m:Md} (hO:IsO m.up M) (hm:IsM w L uv vv m) (hf:Fit m) (hL:L≤w.heap.size) (a:Int) (ha : -9223372036854775808≤a∧a≤9223372036854775807) :
 Calls Try.prog 30 #[.agg #[uv,vv],.int .i64 a] w fun e w'=>∃ (v:Value) (er:Int),e=.returned (.tuple #[v,.int .i64 er])∧AbvR w' w.heap.size M m a v er∧Below w.heap.size w w':=by
 have K:=show Hid (∀ W w1 q,Below w.heap.size w w1→New w1 W q #[.int .i64 a] 3→Calls Try.prog 54 #[.agg #[uv,vv],.slice (some ⟨q,0,none⟩) 1 1] W fun e w'=>∃ fv er,e=.returned (.tuple #[fv,.int .i64 er])∧Rek w' M m [a] fv er∧Below W.heap.size W w') from fun W w1 q hW hN=>reckoned_any W hO (hm.keep fun k hk=>(hN.bel.block k (by have:=hW.size;omega)).trans (hW.block k (by omega))) hf (Nat.le_trans hL (Nat.le_trans hW.size hN.bel.size)) (isI_new (l:=[a]) hN) (Nat.le_refl _) (by simp) (fun x hx=>by
  simp only [List.mem_cons,List.not_mem_nil,or_false] at hx
  rw [hx];exact ha)
 have HN5:=show Hid (Wd.Good m→m.up.length≤512) from fun g=>(Wd.shaped_and g.shape).2.1
 obtain ⟨pu,cu,rfl⟩:=IsS.form hm.up
 obtain ⟨pv,cv,rfl⟩:=IsS.form hm.val
 clear hm hf
 go_enter Try.func30,Try.ntmps30
 go_wp2_with (refine wpList_box 25 _ rfl _ rfl rfl ?_)
 intro w1 b1 hN
 have H1:=show Hid (Below w.heap.size w w1∧Cl w1 b1 #[.slice pu m.up.length cu,.slice pv m.val.length cv] 25) from ⟨hN.bel,hN.blk⟩
 clear hN
 go_wp2_with (refine wpList_box1 3 _ rfl _ rfl rfl rfl ?_)
 intro w2 b2 hN
 have H2:=show Hid (Below w.heap.size w w2∧Cl w2 b1 #[.slice pu m.up.length cu,.slice pv m.val.length cv] 25∧Cl w2 b2 #[.int .i64 a] 3) from ⟨H1.out.1.trans (hN.bel.mono H1.out.1.size),H1.out.2.later hN.bel,hN.blk⟩
 have c2:w2.cell? ⟨b2,0,none⟩=some (.int .i64 a):=H2.out.2.2.cell 0
 clear hN H1
 go_wp2_with (first | (refine wpList_ldw 25 _ rfl b1 rfl _ _ H2.out.2.1 rfl Try.underlying25 sizeM rfl ?_) | (refine wpList_bs1 rfl _ rfl _ rfl ?_))
 intro w3 q hN
 have K1:=show Hid _ from K.out w3 w2 q H2.out.1 hN
 have H3:=show Hid (Below w.heap.size w w3∧Cl w3 b1 #[.slice pu m.up.length cu,.slice pv m.val.length cv] 25∧Cl w3 b2 #[.int .i64 a] 3) from ⟨H2.out.1.trans (hN.bel.mono H2.out.1.size),H2.out.2.1.later hN.bel,H2.out.2.2.later hN.bel⟩
 clear hN K H2 c2
 go_wp2_with fail
 refine Calls.mono K1.out ?_
 rintro e w4 ⟨fv,er,rfl,hR,hb⟩
 have H4:=show Hid (Below w.heap.size w w4∧Cl w4 b1 #[.slice pu m.up.length cu,.slice pv m.val.length cv] 25∧Cl w4 b2 #[.int .i64 a] 3) from ⟨H3.out.1.trans (hb.mono H3.out.1.size),H3.out.2.1.later hb,H3.out.2.2.later hb⟩
 clear hb K1 H3
 have hall:allW m.up.length [a]=inW m.up.length a:=by simp [allW]
 rw [Rek,hall] at hR
 rcases hR with ⟨h1,rfl,rfl⟩ | ⟨h1,h2,rfl,rfl⟩ | ⟨h1,h2,h3,rfl⟩
 ·have HG:=show Hid (¬ Wd.Good m) from h1
  clear h1 hall
  go_wp2_with fail
  go_ret2
  exact ⟨_,170,rfl,Or.inl ⟨HG.out,rfl,rfl⟩,H4.out.1.trans ((below_alloc _ _).mono H4.out.1.size)⟩
 ·have HG:=show Hid (Wd.Good m∧inW m.up.length a=false) from ⟨h1,h2⟩
  clear h1 h2 hall
  go_wp2_with fail
  go_ret2
  exact ⟨_,2,rfl,Or.inr (Or.inl ⟨HG.out.1,HG.out.2,rfl,rfl⟩),H4.out.1.trans ((below_alloc _ _).mono H4.out.1.size)⟩
 ·have HG:=show Hid (Wd.Good m∧inW m.up.length a=true) from ⟨h1,h2⟩
  have HO:=show Hid (Ord w4 w4.heap.size m.up.length fv M) from h3
  have hn5:=HN5.out h1
  simp only [Bool.and_eq_true,inW,decide_eq_true_eq] at h2
  obtain ⟨k,rfl⟩:=Int.eq_ofNat_of_zero_le h2.1
  have hk:k<m.up.length:=by omega
  obtain ⟨f,cs,rfl,-,-⟩:=h3
  have KC:=show Hid (∀ W,Below w4.heap.size w4 W→∀ b6,Cl W b6 #[.func (.func f) #[] cs.toArray] 90→Calls Try.prog 55 #[.int .i64 (m.up.length:Int),.func (.func 56) #[] #[.pointer (some ⟨b6,0,none⟩),.pointer (some ⟨b2,0,none⟩)]] W fun e w'=>∃ v,e=.returned v∧OwnI W.heap.size w' v (numsTo (abP M k) m.up.length)∧Below W.heap.size W w') from fun W hW b6 h6 =>
   chosen_any W (L:=W.heap.size) (D:=fun x=>0≤x∧x<(m.up.length:Int)) ⟨_,[.pointer (some ⟨b6,0,none⟩),.pointer (some ⟨b2,0,none⟩)],rfl,cf_above1,fun W' x hW' hx=>by
    obtain ⟨j,rfl⟩:=Int.eq_ofNat_of_zero_le hx.1
    have hW2:=hW.trans (hW'.mono hW.size)
    exact above1_any W' (HO.out.later hW2 hW2.size) hk (h6.later hW') (H4.out.2.2.later hW2) j (by omega)⟩ (fun j hj=>⟨by omega,by omega⟩) (Nat.le_refl _) hn5
  clear h1 h2 hall
  have c1:(w4.alloc (.cells #[.func (.func f) #[] cs.toArray] 90)).cell? ⟨b1,0,none⟩=some (.slice pu m.up.length cu):=Cl.cell (T:=25) (H4.out.2.1.later (below_alloc _ _)) 0
  have K5:=show Hid _ from KC.out (w4.alloc (.cells #[.func (.func f) #[] cs.toArray] 90)) (below_alloc _ _) w4.heap.size (heap_alloc_last w4 _)
  clear KC
  go_wp2_with fail
  refine Calls.mono K5.out ?_
  rintro e w5 ⟨v,rfl,ho,hb5⟩
  have H5:=show Hid (OwnI w.heap.size w5 v (numsTo (abP M k) m.up.length)∧Below w.heap.size w w5) from by
   have h9:=H4.out.1.trans ((below_alloc w4 (.cells #[.func (.func f) #[] cs.toArray] 90)).mono H4.out.1.size)
   exact ⟨ho.base h9.size,h9.trans (hb5.mono h9.size)⟩
  clear ho hb5 K5
  go_wp2_with fail
  go_ret2
  exact ⟨_,0,rfl,Or.inr (Or.inr ⟨HG.out.1,HG.out.2,H5.out.1,rfl⟩),H5.out.2⟩
end Go.Proofs.Ytoedidbbjnnpnaa.Wm
/-
  height: of any order that a function value tells. No condition.
-/
namespace Go.Proofs.Ytoedidbbjnnpnaa.Wm
open Go.RowKit Go.Maps
open Wd (Md Mid Rc Ed Sub upd vl allW names)
set_option linter.unusedSimpArgs false
end Go.Proofs.Ytoedidbbjnnpnaa.Wm
