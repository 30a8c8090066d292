/-
  keeps, walked where the map is a bounded morphism. No condition.
-/
import Derived.Test.YtoedidbbjnnpnaaQMFcd
import Derived.Test.YtoedidbbjnnpnaaTH23
namespace Go.Proofs.Ytoedidbbjnnpnaa.Wm
open Go.RowKit Go.Maps
open Wd (Md Rc Ed upd vl allW inW)
open Fm (Nd)
set_option linter.unusedSimpArgs false
set_option linter.unusedVariables false
theorem lat_ot {w:World} {B O r n k:Nat} {Ra:Nat→Nat} {S:Nat→Nat→Bool} (h:Ot w B O r n k Ra S):Lat w fun W=>Ot W B O r n k Ra S:=fun W hW=>h.later hW
theorem lat_isT {w:World} {v:Value} {t:List Nd} (h:IsT w v t):Lat w fun W=>IsT W v t:=fun W hW=>h.later hW
theorem mapOk_in {m n:Md} {fl:List Int} (h:mapOk m n fl=true):fl.length=m.up.length∧∀ k (hk:k<fl.length),fl[k]=(numF fl k:Int)∧numF fl k<n.up.length:=by
 unfold mapOk at h
 simp only [Bool.and_eq_true,decide_eq_true_eq,List.all_eq_true] at h
 refine ⟨h.1,fun k hk => ?_⟩
 have h1:=inW_ok.1 (h.2 fl[k] (List.getElem_mem hk))
 have h2:=numF_at hk
 rw [h2]
 omega
set_option maxRecDepth 100000 in
set_option maxHeartbeats 8000000 in
theorem keeps_any (w:World) {L:Nat} {um vm un vn fv rv:Value} {m n:Md} {fl:List Int} {t:List Nd} (hm:IsM w L um vm m) (hmf:Fit m) (hn:IsM w L un vn n) (hnf:Fit n) (hf:IsI w L fv fl) (hT:IsT w rv t) (hL:L≤w.heap.size) (hG:Wd.Good m) (hN:Wd.Good n) (hok:mapOk m n fl=true) (hb:BndP m n fl) :
 Calls Try.prog 28 #[.agg #[um,vm],.agg #[un,vn],fv,rv] w fun e w'=>e=.returned (.bool true)∧Below w.heap.size w w':=by
 obtain ⟨M,hO⟩:=isO_ex m.up
 obtain ⟨P,hP⟩:=isO_ex n.up
 obtain ⟨pm,cm,rfl⟩:=IsS.form hm.up
 obtain ⟨pvm,cvm,rfl⟩:=IsS.form hm.val
 obtain ⟨pn,cn,rfl⟩:=IsS.form hn.up
 obtain ⟨pvn,cvn,rfl⟩:=IsS.form hn.val
 obtain ⟨pf,cf,rfl⟩:=IsS.form hf
 obtain ⟨pt,ct,rfl,_⟩:=hT.nd
 obtain ⟨hlen,hfa⟩:=mapOk_in hok
 have HF:=show Hid (IsO m.up M∧IsO n.up P∧Fit m∧Fit n∧Wd.Good m∧Wd.Good n) from ⟨hO,hP,hmf,hnf,hG,hN⟩
 have HLN:=show Hid (fl.length=m.up.length) from hlen
 have htl:=hT.2.len
 have hm5:1≤m.up.length∧m.up.length≤512:=⟨(Wd.shaped_and hG.shape).1,(Wd.shaped_and hG.shape).2.1⟩
 have hn5:n.up.length≤512:=(Wd.shaped_and hN.shape).2.1
 have HSE:=show Hid (∀ i a,a<m.up.length→sF P n.up.length (vl n) t i (numF fl a)=sF M m.up.length (vl m) t i a) from fun i a ha=>(sF_keep hb hG hN hO hP (fun a ha=>(hfa a (by omega)).2) t i a ha).symm
 have HFC:=show Hid (∃ bf of,pf=some ⟨bf,of,none⟩∧∀ W,Below w.heap.size w W→∀ (j:Nat) (hj:j<m.up.length),W.cell? ⟨bf,of+j,none⟩=some (.int .i64 (numF fl j:Int))∧numF fl j<n.up.length) from by
  obtain ⟨e0,h0⟩:=IsS.at (show IsS w L isI (.slice pf fl.length cf) fl from hf)
  obtain ⟨bf,of,hbf,e1,h1⟩:=h0 (by omega)
  refine ⟨bf,of,e1,fun W hW j hj => ?_⟩
  obtain ⟨x,hx,rfl⟩:=h1 j (by omega)
  have h2:=hfa j (by omega)
  rw [← h2.1]
  exact ⟨(World.cell?_of_block (a:=⟨bf,of+j,none⟩) (hW.block bf (by omega))).trans hx,h2.2⟩
 obtain ⟨bf,of,rfl,hfc⟩:=HFC.out
 have HFC:=show Hid (∀ W,Below w.heap.size w W→∀ (j:Nat) (hj:j<m.up.length),W.cell? ⟨bf,of+j,none⟩=some (.int .i64 (numF fl j:Int))∧numF fl j<n.up.length) from hfc
 have H0:=hidL ((((lat_bel (Below.refl w.heap.size w) (Nat.le_refl _)).and (lat_isM hm hL)).and (lat_isM hn hL)).and (lat_isT hT))
 clear hm hmf hn hnf hf hL hT hG hN hok hb hlen hfa hO hP hfc
 generalize numF fl=F at *
 go_enter Try.func28,Try.ntmps28
 go_wp2_with (refine wpList_box 25 _ rfl _ rfl rfl ?_)
 intro w1 bM hn
 have H1:=hidL ((H0.out.next (hn.bel)).and (lat_box hn.blk))
 clear H0 hn
 go_wp2_with (refine wpList_box 25 _ rfl _ rfl rfl ?_)
 intro w2 bN hn
 have H2:=hidL ((H1.out.next (hn.bel)).and (lat_box hn.blk))
 clear H1 hn
 have K:=show Hid (Calls Try.prog 34 #[.agg #[.slice pm m.up.length cm,.slice pvm m.val.length cvm]] w2 fun e w'=>(∃ O Ra,e=.returned (.tuple #[.slice (some ⟨O,0,none⟩) m.up.length m.up.length,.bool true])∧∀ W,Below w'.heap.size w' W→Oc W O m.up.length Ra M)∧Below w2.heap.size w2 w') from
  (right_any w2 HF.out.1 (H2.out.now.1.1.1.1.2) HF.out.2.2.1 (Nat.le_refl _)).mono fun e w' ⟨h1,h2⟩=>by
   rcases h1 with ⟨O,Ra,e1,h3,_⟩ | ⟨_,h3⟩
   ·exact ⟨⟨O,Ra,e1,lat_oc h3⟩,h2⟩
   ·exact absurd HF.out.2.2.2.2.1 h3
 have hx0:=show Hid _ from (H2.out.now.1.2)
 go_wp2_with (first | refine wpList_ldw 25 _ rfl bM rfl _ _ hx0.out rfl Try.underlying25 sizeM rfl ?_)
 clear hx0
 refine Calls.mono K.out ?_
 rintro e w3 ⟨⟨O,Ra,rfl,ho⟩,hb⟩
 have H3:=hidL ((H2.out.next (hb)).and (show Lat w3 fun W=>Oc W O m.up.length Ra M from ho))
 clear H2 hb ho K
 have K:=show Hid (Calls Try.prog 34 #[.agg #[.slice pn n.up.length cn,.slice pvn n.val.length cvn]] w3 fun e w'=>(∃ O Ra,e=.returned (.tuple #[.slice (some ⟨O,0,none⟩) n.up.length n.up.length,.bool true])∧∀ W,Below w'.heap.size w' W→Oc W O n.up.length Ra P)∧Below w3.heap.size w3 w') from
  (right_any w3 HF.out.2.1 (H3.out.now.1.1.1.1.2) HF.out.2.2.2.1 (Nat.le_refl _)).mono fun e w' ⟨h1,h2⟩=>by
   rcases h1 with ⟨O,Ra,e1,h3,_⟩ | ⟨_,h3⟩
   ·exact ⟨⟨O,Ra,e1,lat_oc h3⟩,h2⟩
   ·exact absurd HF.out.2.2.2.2.2 h3
 have hx0:=show Hid _ from (H3.out.now.1.2)
 go_wp2_with (first | refine wpList_ldw 25 _ rfl bN rfl _ _ hx0.out rfl Try.underlying25 sizeM rfl ?_)
 clear hx0
 refine Calls.mono K.out ?_
 rintro e w4 ⟨⟨Q,Rb,rfl,ho⟩,hb⟩
 have H4:=hidL ((H3.out.next (hb)).and (show Lat w4 fun W=>Oc W Q n.up.length Rb P from ho))
 clear H3 hb ho K
 have hflI:((fl.length:Int) != (m.up.length:Int))=false:=by have:=HLN.out;simp [this]
 have K:=show Hid _ from forced_any w4 (H4.out.now.1.1.1.1.1.1.2) HF.out.2.2.1 HF.out.2.2.2.2.1 (fun W hW=>(H4.out W hW).1.2) (H4.out.now.1.1.1.1.2) (Nat.le_refl _)
 have hx0:=show Hid _ from (H4.out.now.1.1.1.2)
 go_wp2_with (first | refine wpList_ldw 25 _ rfl bM rfl _ _ hx0.out rfl Try.underlying25 sizeM rfl ?_)
 clear hx0
 refine Calls.mono K.out ?_
 rintro e w5 ⟨G,R1,rfl,ho,hb⟩
 have H5:=hidL ((H4.out.next (hb)).and (lat_ot ho))
 clear H4 hb ho K
 have K:=show Hid _ from forced_any w5 (H5.out.now.1.1.1.1.1.1.2) HF.out.2.2.2.1 HF.out.2.2.2.2.2 (fun W hW=>(H5.out W hW).1.2) (H5.out.now.1.1.1.1.1.2) (Nat.le_refl _)
 have hx0:=show Hid _ from (H5.out.now.1.1.1.2)
 go_wp2_with (first | refine wpList_ldw 25 _ rfl bN rfl _ _ hx0.out rfl Try.underlying25 sizeM rfl ?_)
 clear hx0
 refine Calls.mono K.out ?_
 rintro e w6 ⟨J,R2,rfl,ho,hb⟩
 have H6:=hidL ((H5.out.next (hb)).and (lat_ot ho))
 clear H5 hb ho K
 generalize sF M m.up.length (vl m) t=S at *
 generalize sF P n.up.length (vl n) t=S2 at *
 go_wp2_with fail
 go_loopw [15] (fun iv wr=>∃ zi:Nat,zi≤t.length∧iv=.int .i64 (zi:Int)∧Hid (Below w6.heap.size w6 wr)) (fun iv _=>t.length - (intOf iv).toNat)
 case atStart=>exact ⟨0,Nat.zero_le _,rfl,Below.refl _ _⟩
 case round =>
  obtain ⟨zi,hi,rfl,HB1⟩:=hrel
  by_cases hlt:zi<t.length
  ·skip
   have hii:(zi:Int)<(t.length:Int):=by omega
   go_wp2_with fail
   go_loopw [16] (fun av wr=>∃ a:Nat,a≤m.up.length∧av=.int .i64 (a:Int)∧Hid (Below w6.heap.size w6 wr)) (fun av _=>m.up.length - (intOf av).toNat)
   case atStart=>exact ⟨0,Nat.zero_le _,rfl,HB1.out⟩
   case round =>
    clear HB1
    obtain ⟨a,ha,rfl,HB2⟩:=hrel
    by_cases hla:a<m.up.length
    ·skip
     have hai:(a:Int)<(m.up.length:Int):=by omega
     have hafi:(a:Int)<(fl.length:Int):=by have:=HLN.out;omega
     have HC:=show Hid (∀ W,Below wr.heap.size wr W→W.cell? ⟨bf,of+a,none⟩=some (.int .i64 ((F a:Nat):Int))∧W.cell? ⟨G,zi,none⟩=some (.slice (some ⟨R1 zi,0,none⟩) m.up.length m.up.length)∧W.cell? ⟨R1 zi,a,none⟩=some (.bool (S zi a))∧W.cell? ⟨J,zi,none⟩=some (.slice (some ⟨R2 zi,0,none⟩) n.up.length n.up.length)∧W.cell? ⟨R2 zi,F a,none⟩=some (.bool (S zi a))∧F a<n.up.length) from fun W hW=>by
      have h:=H6.out W (HB2.out.trans (hW.mono HB2.out.size))
      obtain ⟨h1,h2⟩:=HFC.out W h.1.1.1.1.1.1.1.1.1 a hla
      refine ⟨h1,(h.1.2).co hlt (Nat.le_refl _),(h.1.2).cr hlt hla,(h.2).co hlt (Nat.le_refl _),?_,h2⟩
      have h3:=(h.2).cr hlt h2
      rw [HSE.out zi a hla] at h3
      exact h3
     have hcn:F a<n.up.length:=(HC.out wr (Below.refl _ _)).2.2.2.2.2
     have hcni:((F a:Nat):Int)<(n.up.length:Int):=by omega
     have hc0:¬ ((F a:Nat):Int)<0:=by omega
     have hc1:¬ (n.up.length:Int)≤((F a:Nat):Int):=by omega
     generalize S zi a=z at *
     go_wp2_with fail
     refine wp_region_dep (by kernel_rfl) [some 60,some 61,some 62,some 63,some 64,some 65,some 66,some 67,some 68,some 69,some 70,some 71,some 72,some 73,some 74,some 75,some 76,some 77,some 78,some 79,some 80,some 81,some 82,some 83,some 84,some 85,some 86,some 87,some 88,some 89,some 90,some 91,some 92,some 93] [[],[],[0,1],[2],[3],[4],[5],[5],[6,7,5],[8,5],[5],[10,5],[9,11,5],[5,12],[13],[14],[14],[15,16,14],[17,14],[14],[18,19,14],[20,14],[14],[14],[22,23,14],[24,14],[14],[14],[26,27,14],[28,14],[25,29,14],[30,14],[21,31,14],[14,32]] [[],[],[0,1],[2,0,1],[3,2,0,1],[4,3,2,0,1],[5,4,3,2,0,1],[5,4,3,2,0,1],[6,5,4,3,2,0,1,7],[8,6,5,4,3,2,0,1,7],[5,4,3,2,0,1],[10,5,4,3,2,0,1],[9,8,6,5,4,3,2,0,1,7,11,10],[5,4,3,2,0,1,12,9,8,6,7,11,10],[13,5,4,3,2,0,1,12,9,8,6,7,11,10],[14,13,5,4,3,2,0,1,12,9,8,6,7,11,10],[14,13,5,4,3,2,0,1,12,9,8,6,7,11,10],[15,14,13,5,4,3,2,0,1,12,9,8,6,7,11,10,16],[17,15,14,13,5,4,3,2,0,1,12,9,8,6,7,11,10,16],[14,13,5,4,3,2,0,1,12,9,8,6,7,11,10],[18,17,15,14,13,5,4,3,2,0,1,12,9,8,6,7,11,10,16,19],[20,18,17,15,14,13,5,4,3,2,0,1,12,9,8,6,7,11,10,16,19],[14,13,5,4,3,2,0,1,12,9,8,6,7,11,10],[14,13,5,4,3,2,0,1,12,9,8,6,7,11,10],[22,14,13,5,4,3,2,0,1,12,9,8,6,7,11,10,23],[24,22,14,13,5,4,3,2,0,1,12,9,8,6,7,11,10,23],[14,13,5,4,3,2,0,1,12,9,8,6,7,11,10],[14,13,5,4,3,2,0,1,12,9,8,6,7,11,10],[26,14,13,5,4,3,2,0,1,12,9,8,6,7,11,10,27],[28,26,14,13,5,4,3,2,0,1,12,9,8,6,7,11,10,27],[25,24,22,14,13,5,4,3,2,0,1,12,9,8,6,7,11,10,23,29,28,26,27],[30,25,24,22,14,13,5,4,3,2,0,1,12,9,8,6,7,11,10,23,29,28,26,27],[21,20,18,17,15,14,13,5,4,3,2,0,1,12,9,8,6,7,11,10,16,19,31,30,25,24,22,23,29,28,26,27],[14,13,5,4,3,2,0,1,12,9,8,6,7,11,10,32,21,20,18,17,15,16,19,31,30,25,24,22,23,29,28,26,27]] (by kernel_rfl) (by decide) (fun i v W=>match i with | 0=>v=.slice (some ⟨bf,of,none⟩) fl.length cf | 1=>v=.int .i64 (a:Int) | 2=>v=.pointer (some ⟨bf,of+a,none⟩) | 3=>v=.int .i64 ((F a:Nat):Int) | 4=>v=.bool false | 5=>v=.bool false | 6=>v=.slice (some ⟨bf,of,none⟩) fl.length cf | 7=>v=.int .i64 (a:Int) | 8=>v=.pointer (some ⟨bf,of+a,none⟩) | 9=>v=.int .i64 ((F a:Nat):Int) | 10=>v=.slice (some ⟨Q,0,none⟩) n.up.length n.up.length | 11=>v=.int .i64 (n.up.length:Int) | 12=>v=.bool false | 13=>v=.bool false | 14=>v=.bool false | 15=>v=.slice (some ⟨G,0,none⟩) t.length t.length | 16=>v=.int .i64 (zi:Int) | 17=>v=.pointer (some ⟨G,zi,none⟩) | 18=>v=.slice (some ⟨R1 zi,0,none⟩) m.up.length m.up.length | 19=>v=.int .i64 (a:Int) | 20=>v=.pointer (some ⟨R1 zi,a,none⟩) | 21=>v=.bool z | 22=>v=.slice (some ⟨J,0,none⟩) t.length t.length | 23=>v=.int .i64 (zi:Int) | 24=>v=.pointer (some ⟨J,zi,none⟩) | 25=>v=.slice (some ⟨R2 zi,0,none⟩) n.up.length n.up.length | 26=>v=.slice (some ⟨bf,of,none⟩) fl.length cf | 27=>v=.int .i64 (a:Int) | 28=>v=.pointer (some ⟨bf,of+a,none⟩) | 29=>v=.int .i64 ((F a:Nat):Int) | 30=>v=.pointer (some ⟨R2 zi,F a,none⟩) | 31=>v=.bool z | 32=>v=.bool (z != z) | 33=>v=.bool (z != z) | _=>True) (fun _ W=>Below wr.heap.size wr W) (fun _ W W'=>Below W.heap.size W W') ?hle ((Below.refl _ _).drew) (allLt 34 ?steps) ?fin
     case hle =>
      intro i j v W W' hij hn hl h
      match j,h with
      | 0,h=>exact h
      | 1,h=>exact h
      | 2,h=>exact h
      | 3,h=>exact h
      | 4,h=>exact h
      | 5,h=>exact h
      | 6,h=>exact h
      | 7,h=>exact h
      | 8,h=>exact h
      | 9,h=>exact h
      | 10,h=>exact h
      | 11,h=>exact h
      | 12,h=>exact h
      | 13,h=>exact h
      | 14,h=>exact h
      | 15,h=>exact h
      | 16,h=>exact h
      | 17,h=>exact h
      | 18,h=>exact h
      | 19,h=>exact h
      | 20,h=>exact h
      | 21,h=>exact h
      | 22,h=>exact h
      | 23,h=>exact h
      | 24,h=>exact h
      | 25,h=>exact h
      | 26,h=>exact h
      | 27,h=>exact h
      | 28,h=>exact h
      | 29,h=>exact h
      | 30,h=>exact h
      | 31,h=>exact h
      | 32,h=>exact h
      | 33,h=>exact h
      | _+34,_=>trivial
     case steps =>
      refine ⟨⟨⟨⟨⟨⟨⟨⟨⟨⟨⟨⟨⟨⟨⟨⟨⟨⟨⟨⟨⟨⟨⟨⟨⟨⟨⟨⟨⟨⟨⟨⟨⟨⟨trivial,?s0⟩,?s1⟩,?s2⟩,?s3⟩,?s4⟩,?s5⟩,?s6⟩,?s7⟩,?s8⟩,?s9⟩,?s10⟩,?s11⟩,?s12⟩,?s13⟩,?s14⟩,?s15⟩,?s16⟩,?s17⟩,?s18⟩,?s19⟩,?s20⟩,?s21⟩,?s22⟩,?s23⟩,?s24⟩,?s25⟩,?s26⟩,?s27⟩,?s28⟩,?s29⟩,?s30⟩,?s31⟩,?s32⟩,?s33⟩
      case s0 =>
       intro done ax W hW hd hnd hno hO hN
       have o2:ax.tmps[2]?=some (.slice (some ⟨bf,of,none⟩) fl.length cf):=(hO.out 2 (by decide)).trans rfl
       exact relVal rfl (.slice (some ⟨bf,of,none⟩) fl.length cf) _ rfl (by go_simp) ⟨_,rfl,rfl,hW,Below.refl _ _⟩
      case s1 =>
       intro done ax W hW hd hnd hno hO hN
       have o16:ax.tmps[16]?=some (.int .i64 (a:Int)):=(hO.out 16 (by decide)).trans rfl
       exact relVal rfl (.int .i64 (a:Int)) _ rfl (by go_simp) ⟨_,rfl,rfl,hW,Below.refl _ _⟩
      case s2 =>
       intro done ax W hW hd hnd hno hO hN
       obtain ⟨v0,g0,r0⟩:=hN 0 (by decide)
       have g0:ax.tmps[60]?=some v0:=g0
       have e0:v0=.slice (some ⟨bf,of,none⟩) fl.length cf:=r0
       rw [e0] at g0
       obtain ⟨v1,g1,r1⟩:=hN 1 (by decide)
       have g1:ax.tmps[61]?=some v1:=g1
       have e1:v1=.int .i64 (a:Int):=r1
       rw [e1] at g1
       exact relVal rfl (.pointer (some ⟨bf,of+a,none⟩)) _ rfl (by go_simp) ⟨_,rfl,rfl,hW,Below.refl _ _⟩
      case s3 =>
       intro done ax W hW hd hnd hno hO hN
       obtain ⟨v2,g2,r2⟩:=hN 2 (by decide)
       have g2:ax.tmps[62]?=some v2:=g2
       have e2:v2=.pointer (some ⟨bf,of+a,none⟩):=r2
       rw [e2] at g2
       have c0:W.cell? ⟨bf,of+a,none⟩=some (.int .i64 ((F a:Nat):Int)):=(HC.out W hW).1
       exact relVal rfl (.int .i64 ((F a:Nat):Int)) _ rfl (by go_simp) ⟨_,rfl,rfl,hW,Below.refl _ _⟩
      case s4 =>
       intro done ax W hW hd hnd hno hO hN
       obtain ⟨v3,g3,r3⟩:=hN 3 (by decide)
       have g3:ax.tmps[63]?=some v3:=g3
       have e3:v3=.int .i64 ((F a:Nat):Int):=r3
       rw [e3] at g3
       exact relVal rfl (.bool false) _ rfl (by go_simp) ⟨_,rfl,rfl,hW,Below.refl _ _⟩
      case s5 =>
       intro done ax W hW hd hnd hno hO hN
       obtain ⟨v4,g4,r4⟩:=hN 4 (by decide)
       have g4:ax.tmps[64]?=some v4:=g4
       have e4:v4=.bool false:=r4
       rw [e4] at g4
       exact relVal rfl (.bool false) _ rfl (by go_simp) ⟨_,rfl,rfl,hW,Below.refl _ _⟩
      case s6 =>
       intro done ax W hW hd hnd hno hO hN
       obtain ⟨v5,g5,r5⟩:=hN 5 (by decide)
       have g5:ax.tmps[65]?=some v5:=g5
       have e5:v5=.bool false:=r5
       rw [e5] at g5
       have o2:ax.tmps[2]?=some (.slice (some ⟨bf,of,none⟩) fl.length cf):=(hO.out 2 (by decide)).trans rfl
       exact relValW rfl (.slice (some ⟨bf,of,none⟩) fl.length cf) _ ((wanted_is rfl rfl g5).trans rfl) (by go_simp) ⟨_,rfl,rfl,hW,Below.refl _ _⟩
      case s7 =>
       intro done ax W hW hd hnd hno hO hN
       obtain ⟨v5,g5,r5⟩:=hN 5 (by decide)
       have g5:ax.tmps[65]?=some v5:=g5
       have e5:v5=.bool false:=r5
       rw [e5] at g5
       have o16:ax.tmps[16]?=some (.int .i64 (a:Int)):=(hO.out 16 (by decide)).trans rfl
       exact relValW rfl (.int .i64 (a:Int)) _ ((wanted_is rfl rfl g5).trans rfl) (by go_simp) ⟨_,rfl,rfl,hW,Below.refl _ _⟩
      case s8 =>
       intro done ax W hW hd hnd hno hO hN
       obtain ⟨v6,g6,r6⟩:=hN 6 (by decide)
       have g6:ax.tmps[66]?=some v6:=g6
       have e6:v6=.slice (some ⟨bf,of,none⟩) fl.length cf:=r6
       rw [e6] at g6
       obtain ⟨v7,g7,r7⟩:=hN 7 (by decide)
       have g7:ax.tmps[67]?=some v7:=g7
       have e7:v7=.int .i64 (a:Int):=r7
       rw [e7] at g7
       obtain ⟨v5,g5,r5⟩:=hN 5 (by decide)
       have g5:ax.tmps[65]?=some v5:=g5
       have e5:v5=.bool false:=r5
       rw [e5] at g5
       exact relValW rfl (.pointer (some ⟨bf,of+a,none⟩)) _ ((wanted_is rfl rfl g5).trans rfl) (by go_simp) ⟨_,rfl,rfl,hW,Below.refl _ _⟩
      case s9 =>
       intro done ax W hW hd hnd hno hO hN
       obtain ⟨v8,g8,r8⟩:=hN 8 (by decide)
       have g8:ax.tmps[68]?=some v8:=g8
       have e8:v8=.pointer (some ⟨bf,of+a,none⟩):=r8
       rw [e8] at g8
       obtain ⟨v5,g5,r5⟩:=hN 5 (by decide)
       have g5:ax.tmps[65]?=some v5:=g5
       have e5:v5=.bool false:=r5
       rw [e5] at g5
       have c0:W.cell? ⟨bf,of+a,none⟩=some (.int .i64 ((F a:Nat):Int)):=(HC.out W hW).1
       exact relValW rfl (.int .i64 ((F a:Nat):Int)) _ ((wanted_is rfl rfl g5).trans rfl) (by go_simp) ⟨_,rfl,rfl,hW,Below.refl _ _⟩
      case s10 =>
       intro done ax W hW hd hnd hno hO hN
       obtain ⟨v5,g5,r5⟩:=hN 5 (by decide)
       have g5:ax.tmps[65]?=some v5:=g5
       have e5:v5=.bool false:=r5
       rw [e5] at g5
       have o11:ax.tmps[11]?=some (.slice (some ⟨Q,0,none⟩) n.up.length n.up.length):=(hO.out 11 (by decide)).trans rfl
       exact relValW rfl (.slice (some ⟨Q,0,none⟩) n.up.length n.up.length) _ ((wanted_is rfl rfl g5).trans rfl) (by go_simp) ⟨_,rfl,rfl,hW,Below.refl _ _⟩
      case s11 =>
       intro done ax W hW hd hnd hno hO hN
       obtain ⟨v10,g10,r10⟩:=hN 10 (by decide)
       have g10:ax.tmps[70]?=some v10:=g10
       have e10:v10=.slice (some ⟨Q,0,none⟩) n.up.length n.up.length:=r10
       rw [e10] at g10
       obtain ⟨v5,g5,r5⟩:=hN 5 (by decide)
       have g5:ax.tmps[65]?=some v5:=g5
       have e5:v5=.bool false:=r5
       rw [e5] at g5
       exact relValW rfl (.int .i64 (n.up.length:Int)) _ ((wanted_is rfl rfl g5).trans rfl) (by go_simp) ⟨_,rfl,rfl,hW,Below.refl _ _⟩
      case s12 =>
       intro done ax W hW hd hnd hno hO hN
       obtain ⟨v9,g9,r9⟩:=hN 9 (by decide)
       have g9:ax.tmps[69]?=some v9:=g9
       have e9:v9=.int .i64 ((F a:Nat):Int):=r9
       rw [e9] at g9
       obtain ⟨v11,g11,r11⟩:=hN 11 (by decide)
       have g11:ax.tmps[71]?=some v11:=g11
       have e11:v11=.int .i64 (n.up.length:Int):=r11
       rw [e11] at g11
       obtain ⟨v5,g5,r5⟩:=hN 5 (by decide)
       have g5:ax.tmps[65]?=some v5:=g5
       have e5:v5=.bool false:=r5
       rw [e5] at g5
       exact relValW rfl (.bool false) _ ((wanted_is rfl rfl g5).trans rfl) (by go_simp) ⟨_,rfl,rfl,hW,Below.refl _ _⟩
      case s13 =>
       intro done ax W hW hd hnd hno hO hN
       obtain ⟨v5,g5,r5⟩:=hN 5 (by decide)
       have g5:ax.tmps[65]?=some v5:=g5
       have e5:v5=.bool false:=r5
       rw [e5] at g5
       obtain ⟨v12,g12,r12⟩:=hN 12 (by decide)
       have g12:ax.tmps[72]?=some v12:=g12
       have e12:v12=.bool false:=r12
       rw [e12] at g12
       exact relVal rfl (.bool false) _ rfl (by go_simp) ⟨_,rfl,rfl,hW,Below.refl _ _⟩
      case s14 =>
       intro done ax W hW hd hnd hno hO hN
       obtain ⟨v13,g13,r13⟩:=hN 13 (by decide)
       have g13:ax.tmps[73]?=some v13:=g13
       have e13:v13=.bool false:=r13
       rw [e13] at g13
       exact relVal rfl (.bool false) _ rfl (by go_simp) ⟨_,rfl,rfl,hW,Below.refl _ _⟩
      case s15 =>
       intro done ax W hW hd hnd hno hO hN
       obtain ⟨v14,g14,r14⟩:=hN 14 (by decide)
       have g14:ax.tmps[74]?=some v14:=g14
       have e14:v14=.bool false:=r14
       rw [e14] at g14
       have o13:ax.tmps[13]?=some (.slice (some ⟨G,0,none⟩) t.length t.length):=(hO.out 13 (by decide)).trans rfl
       exact relValW rfl (.slice (some ⟨G,0,none⟩) t.length t.length) _ ((wanted_is rfl rfl g14).trans rfl) (by go_simp) ⟨_,rfl,rfl,hW,Below.refl _ _⟩
      case s16 =>
       intro done ax W hW hd hnd hno hO hN
       obtain ⟨v14,g14,r14⟩:=hN 14 (by decide)
       have g14:ax.tmps[74]?=some v14:=g14
       have e14:v14=.bool false:=r14
       rw [e14] at g14
       have o15:ax.tmps[15]?=some (.int .i64 (zi:Int)):=(hO.out 15 (by decide)).trans rfl
       exact relValW rfl (.int .i64 (zi:Int)) _ ((wanted_is rfl rfl g14).trans rfl) (by go_simp) ⟨_,rfl,rfl,hW,Below.refl _ _⟩
      case s17 =>
       intro done ax W hW hd hnd hno hO hN
       obtain ⟨v15,g15,r15⟩:=hN 15 (by decide)
       have g15:ax.tmps[75]?=some v15:=g15
       have e15:v15=.slice (some ⟨G,0,none⟩) t.length t.length:=r15
       rw [e15] at g15
       obtain ⟨v16,g16,r16⟩:=hN 16 (by decide)
       have g16:ax.tmps[76]?=some v16:=g16
       have e16:v16=.int .i64 (zi:Int):=r16
       rw [e16] at g16
       obtain ⟨v14,g14,r14⟩:=hN 14 (by decide)
       have g14:ax.tmps[74]?=some v14:=g14
       have e14:v14=.bool false:=r14
       rw [e14] at g14
       exact relValW rfl (.pointer (some ⟨G,zi,none⟩)) _ ((wanted_is rfl rfl g14).trans rfl) (by go_simp) ⟨_,rfl,rfl,hW,Below.refl _ _⟩
      case s18 =>
       intro done ax W hW hd hnd hno hO hN
       obtain ⟨v17,g17,r17⟩:=hN 17 (by decide)
       have g17:ax.tmps[77]?=some v17:=g17
       have e17:v17=.pointer (some ⟨G,zi,none⟩):=r17
       rw [e17] at g17
       obtain ⟨v14,g14,r14⟩:=hN 14 (by decide)
       have g14:ax.tmps[74]?=some v14:=g14
       have e14:v14=.bool false:=r14
       rw [e14] at g14
       have c0:W.cell? ⟨G,zi,none⟩=some (.slice (some ⟨R1 zi,0,none⟩) m.up.length m.up.length):=(HC.out W hW).2.1
       exact relValW rfl (.slice (some ⟨R1 zi,0,none⟩) m.up.length m.up.length) _ ((wanted_is rfl rfl g14).trans rfl) (by go_simp) ⟨_,rfl,rfl,hW,Below.refl _ _⟩
      case s19 =>
       intro done ax W hW hd hnd hno hO hN
       obtain ⟨v14,g14,r14⟩:=hN 14 (by decide)
       have g14:ax.tmps[74]?=some v14:=g14
       have e14:v14=.bool false:=r14
       rw [e14] at g14
       have o16:ax.tmps[16]?=some (.int .i64 (a:Int)):=(hO.out 16 (by decide)).trans rfl
       exact relValW rfl (.int .i64 (a:Int)) _ ((wanted_is rfl rfl g14).trans rfl) (by go_simp) ⟨_,rfl,rfl,hW,Below.refl _ _⟩
      case s20 =>
       intro done ax W hW hd hnd hno hO hN
       obtain ⟨v18,g18,r18⟩:=hN 18 (by decide)
       have g18:ax.tmps[78]?=some v18:=g18
       have e18:v18=.slice (some ⟨R1 zi,0,none⟩) m.up.length m.up.length:=r18
       rw [e18] at g18
       obtain ⟨v19,g19,r19⟩:=hN 19 (by decide)
       have g19:ax.tmps[79]?=some v19:=g19
       have e19:v19=.int .i64 (a:Int):=r19
       rw [e19] at g19
       obtain ⟨v14,g14,r14⟩:=hN 14 (by decide)
       have g14:ax.tmps[74]?=some v14:=g14
       have e14:v14=.bool false:=r14
       rw [e14] at g14
       exact relValW rfl (.pointer (some ⟨R1 zi,a,none⟩)) _ ((wanted_is rfl rfl g14).trans rfl) (by go_simp) ⟨_,rfl,rfl,hW,Below.refl _ _⟩
      case s21 =>
       intro done ax W hW hd hnd hno hO hN
       obtain ⟨v20,g20,r20⟩:=hN 20 (by decide)
       have g20:ax.tmps[80]?=some v20:=g20
       have e20:v20=.pointer (some ⟨R1 zi,a,none⟩):=r20
       rw [e20] at g20
       obtain ⟨v14,g14,r14⟩:=hN 14 (by decide)
       have g14:ax.tmps[74]?=some v14:=g14
       have e14:v14=.bool false:=r14
       rw [e14] at g14
       have c0:W.cell? ⟨R1 zi,a,none⟩=some (.bool z):=(HC.out W hW).2.2.1
       exact relValW rfl (.bool z) _ ((wanted_is rfl rfl g14).trans rfl) (by go_simp) ⟨_,rfl,rfl,hW,Below.refl _ _⟩
      case s22 =>
       intro done ax W hW hd hnd hno hO hN
       obtain ⟨v14,g14,r14⟩:=hN 14 (by decide)
       have g14:ax.tmps[74]?=some v14:=g14
       have e14:v14=.bool false:=r14
       rw [e14] at g14
       have o14:ax.tmps[14]?=some (.slice (some ⟨J,0,none⟩) t.length t.length):=(hO.out 14 (by decide)).trans rfl
       exact relValW rfl (.slice (some ⟨J,0,none⟩) t.length t.length) _ ((wanted_is rfl rfl g14).trans rfl) (by go_simp) ⟨_,rfl,rfl,hW,Below.refl _ _⟩
      case s23 =>
       intro done ax W hW hd hnd hno hO hN
       obtain ⟨v14,g14,r14⟩:=hN 14 (by decide)
       have g14:ax.tmps[74]?=some v14:=g14
       have e14:v14=.bool false:=r14
       rw [e14] at g14
       have o15:ax.tmps[15]?=some (.int .i64 (zi:Int)):=(hO.out 15 (by decide)).trans rfl
       exact relValW rfl (.int .i64 (zi:Int)) _ ((wanted_is rfl rfl g14).trans rfl) (by go_simp) ⟨_,rfl,rfl,hW,Below.refl _ _⟩
      case s24 =>
       intro done ax W hW hd hnd hno hO hN
       obtain ⟨v22,g22,r22⟩:=hN 22 (by decide)
       have g22:ax.tmps[82]?=some v22:=g22
       have e22:v22=.slice (some ⟨J,0,none⟩) t.length t.length:=r22
       rw [e22] at g22
       obtain ⟨v23,g23,r23⟩:=hN 23 (by decide)
       have g23:ax.tmps[83]?=some v23:=g23
       have e23:v23=.int .i64 (zi:Int):=r23
       rw [e23] at g23
       obtain ⟨v14,g14,r14⟩:=hN 14 (by decide)
       have g14:ax.tmps[74]?=some v14:=g14
       have e14:v14=.bool false:=r14
       rw [e14] at g14
       exact relValW rfl (.pointer (some ⟨J,zi,none⟩)) _ ((wanted_is rfl rfl g14).trans rfl) (by go_simp) ⟨_,rfl,rfl,hW,Below.refl _ _⟩
      case s25 =>
       intro done ax W hW hd hnd hno hO hN
       obtain ⟨v24,g24,r24⟩:=hN 24 (by decide)
       have g24:ax.tmps[84]?=some v24:=g24
       have e24:v24=.pointer (some ⟨J,zi,none⟩):=r24
       rw [e24] at g24
       obtain ⟨v14,g14,r14⟩:=hN 14 (by decide)
       have g14:ax.tmps[74]?=some v14:=g14
       have e14:v14=.bool false:=r14
       rw [e14] at g14
       have c0:W.cell? ⟨J,zi,none⟩=some (.slice (some ⟨R2 zi,0,none⟩) n.up.length n.up.length):=(HC.out W hW).2.2.2.1
       exact relValW rfl (.slice (some ⟨R2 zi,0,none⟩) n.up.length n.up.length) _ ((wanted_is rfl rfl g14).trans rfl) (by go_simp) ⟨_,rfl,rfl,hW,Below.refl _ _⟩
      case s26 =>
       intro done ax W hW hd hnd hno hO hN
       obtain ⟨v14,g14,r14⟩:=hN 14 (by decide)
       have g14:ax.tmps[74]?=some v14:=g14
       have e14:v14=.bool false:=r14
       rw [e14] at g14
       have o2:ax.tmps[2]?=some (.slice (some ⟨bf,of,none⟩) fl.length cf):=(hO.out 2 (by decide)).trans rfl
       exact relValW rfl (.slice (some ⟨bf,of,none⟩) fl.length cf) _ ((wanted_is rfl rfl g14).trans rfl) (by go_simp) ⟨_,rfl,rfl,hW,Below.refl _ _⟩
      case s27 =>
       intro done ax W hW hd hnd hno hO hN
       obtain ⟨v14,g14,r14⟩:=hN 14 (by decide)
       have g14:ax.tmps[74]?=some v14:=g14
       have e14:v14=.bool false:=r14
       rw [e14] at g14
       have o16:ax.tmps[16]?=some (.int .i64 (a:Int)):=(hO.out 16 (by decide)).trans rfl
       exact relValW rfl (.int .i64 (a:Int)) _ ((wanted_is rfl rfl g14).trans rfl) (by go_simp) ⟨_,rfl,rfl,hW,Below.refl _ _⟩
      case s28 =>
       intro done ax W hW hd hnd hno hO hN
       obtain ⟨v26,g26,r26⟩:=hN 26 (by decide)
       have g26:ax.tmps[86]?=some v26:=g26
       have e26:v26=.slice (some ⟨bf,of,none⟩) fl.length cf:=r26
       rw [e26] at g26
       obtain ⟨v27,g27,r27⟩:=hN 27 (by decide)
       have g27:ax.tmps[87]?=some v27:=g27
       have e27:v27=.int .i64 (a:Int):=r27
       rw [e27] at g27
       obtain ⟨v14,g14,r14⟩:=hN 14 (by decide)
       have g14:ax.tmps[74]?=some v14:=g14
       have e14:v14=.bool false:=r14
       rw [e14] at g14
       exact relValW rfl (.pointer (some ⟨bf,of+a,none⟩)) _ ((wanted_is rfl rfl g14).trans rfl) (by go_simp) ⟨_,rfl,rfl,hW,Below.refl _ _⟩
      case s29 =>
       intro done ax W hW hd hnd hno hO hN
       obtain ⟨v28,g28,r28⟩:=hN 28 (by decide)
       have g28:ax.tmps[88]?=some v28:=g28
       have e28:v28=.pointer (some ⟨bf,of+a,none⟩):=r28
       rw [e28] at g28
       obtain ⟨v14,g14,r14⟩:=hN 14 (by decide)
       have g14:ax.tmps[74]?=some v14:=g14
       have e14:v14=.bool false:=r14
       rw [e14] at g14
       have c0:W.cell? ⟨bf,of+a,none⟩=some (.int .i64 ((F a:Nat):Int)):=(HC.out W hW).1
       exact relValW rfl (.int .i64 ((F a:Nat):Int)) _ ((wanted_is rfl rfl g14).trans rfl) (by go_simp) ⟨_,rfl,rfl,hW,Below.refl _ _⟩
      case s30 =>
       intro done ax W hW hd hnd hno hO hN
       obtain ⟨v25,g25,r25⟩:=hN 25 (by decide)
       have g25:ax.tmps[85]?=some v25:=g25
       have e25:v25=.slice (some ⟨R2 zi,0,none⟩) n.up.length n.up.length:=r25
       rw [e25] at g25
       obtain ⟨v29,g29,r29⟩:=hN 29 (by decide)
       have g29:ax.tmps[89]?=some v29:=g29
       have e29:v29=.int .i64 ((F a:Nat):Int):=r29
       rw [e29] at g29
       obtain ⟨v14,g14,r14⟩:=hN 14 (by decide)
       have g14:ax.tmps[74]?=some v14:=g14
       have e14:v14=.bool false:=r14
       rw [e14] at g14
       exact relValW rfl (.pointer (some ⟨R2 zi,F a,none⟩)) _ ((wanted_is rfl rfl g14).trans rfl) (by go_simp) ⟨_,rfl,rfl,hW,Below.refl _ _⟩
      case s31 =>
       intro done ax W hW hd hnd hno hO hN
       obtain ⟨v30,g30,r30⟩:=hN 30 (by decide)
       have g30:ax.tmps[90]?=some v30:=g30
       have e30:v30=.pointer (some ⟨R2 zi,F a,none⟩):=r30
       rw [e30] at g30
       obtain ⟨v14,g14,r14⟩:=hN 14 (by decide)
       have g14:ax.tmps[74]?=some v14:=g14
       have e14:v14=.bool false:=r14
       rw [e14] at g14
       have c0:W.cell? ⟨R2 zi,F a,none⟩=some (.bool z):=(HC.out W hW).2.2.2.2.1
       exact relValW rfl (.bool z) _ ((wanted_is rfl rfl g14).trans rfl) (by go_simp) ⟨_,rfl,rfl,hW,Below.refl _ _⟩
      case s32 =>
       intro done ax W hW hd hnd hno hO hN
       obtain ⟨v21,g21,r21⟩:=hN 21 (by decide)
       have g21:ax.tmps[81]?=some v21:=g21
       have e21:v21=.bool z:=r21
       rw [e21] at g21
       obtain ⟨v31,g31,r31⟩:=hN 31 (by decide)
       have g31:ax.tmps[91]?=some v31:=g31
       have e31:v31=.bool z:=r31
       rw [e31] at g31
       obtain ⟨v14,g14,r14⟩:=hN 14 (by decide)
       have g14:ax.tmps[74]?=some v14:=g14
       have e14:v14=.bool false:=r14
       rw [e14] at g14
       exact relValW rfl (.bool (z != z)) _ ((wanted_is rfl rfl g14).trans rfl) (by go_simp) ⟨_,rfl,rfl,hW,Below.refl _ _⟩
      case s33 =>
       intro done ax W hW hd hnd hno hO hN
       obtain ⟨v14,g14,r14⟩:=hN 14 (by decide)
       have g14:ax.tmps[74]?=some v14:=g14
       have e14:v14=.bool false:=r14
       rw [e14] at g14
       obtain ⟨v32,g32,r32⟩:=hN 32 (by decide)
       have g32:ax.tmps[92]?=some v32:=g32
       have e32:v32=.bool (z != z):=r32
       rw [e32] at g32
       exact relVal rfl (.bool (z != z)) _ rfl (by go_simp) ⟨_,rfl,rfl,hW,Below.refl _ _⟩
     case fin =>
      intro vs done w1 hdone hS hV
      have e33:vs 33=.bool (z != z):=hV 33 (by decide)
      rw [show (z != z)=false by simp] at e33
      have HB3:=show Hid (Below w6.heap.size w6 w1) from HB2.out.trans (hS.mono HB2.out.size)
      simp only [putAll,Act.put,List.setIfInBounds_toArray,List.set_cons_zero,List.set_cons_succ,Nat.reduceAdd,e33]
      clear hV hS e33 HB2 HC
      go_wp2_with fail
      go_roundw
      case rel=>exact ⟨a+1,by omega,val_int (by omega),HB3.out⟩
      case measure=>(simp only [intOf];omega)
    ·skip
     obtain rfl:a=m.up.length:=by omega
     have hai:¬ (m.up.length:Int)<(m.up.length:Int):=by omega
     go_wp2_with fail
     go_roundw
     case rel=>exact ⟨zi+1,by omega,val_int (by omega),HB2.out⟩
     case measure=>(simp only [intOf];omega)
  ·skip
   obtain rfl:zi=t.length:=by omega
   have hii:¬ (t.length:Int)<(t.length:Int):=by omega
   have HB:=show Hid (Below w.heap.size w wr) from (H6.out wr HB1.out).1.1.1.1.1.1.1.1.1
   go_wp2_with fail
   go_ret
   exact ⟨rfl,HB.out⟩
end Go.Proofs.Ytoedidbbjnnpnaa.Wm
