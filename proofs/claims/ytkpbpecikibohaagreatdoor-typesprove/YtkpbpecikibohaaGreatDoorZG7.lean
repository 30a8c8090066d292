import Derived.Test.YtkpbpecikibohaaGreatDoorBG5
import Derived.Test.YtkpbpecikibohaaGreatDoorMG1
import Derived.Test.YtkpbpecikibohaaGreatDoorZG2
import Derived.Maps.OwnIn
set_option linter.unusedSimpArgs false
set_option maxRecDepth 100000
set_option maxHeartbeats 4000000
namespace Go.Proofs.YtkpbpecikibohaaGreatDoor
open Go.RowKit Go.Shelf Go.Maps
theorem Pf {F:Fence} {n:Nat} {P:Program} {α:Type} {g:Operand} {ps:Array Tmp} {assign body:Code} {Q:Exit->Act->World->Prop} {a:Act} {w:World}
 (hro:F.round=none) (h1:1<=n) {gf:Nat} {lb:Array Value} (hg:a.eval g=.func (.func gf) #[] lb) (hFg:F.fn gf) (eg:∀ args w,(callFunc gf args).run P w=.ok (.enter gf args) w)
 {encs:α->Array Value} {n₀:Nat} {S Sp:List α->Prop} {N:Nat} {w0:World} (hseq:SeqStopsK F (n - 1) P gf lb encs (Below n₀) S Sp N w0)
 (hn₀:n₀<=w.heap.size) (hb0:Below w0.heap.size w0 w) (hps:∀ x,(encs x).size=ps.size)
 (I:List α->World->Prop) (Ix:Code->List α->World->Prop) (hI:OwnFrom w.heap.size I) (hIx:∀ c,OwnFrom w.heap.size (Ix c)) (h0:I [] w)
 (hab:∃ a₁:α->Act,(∀ (l:Nat) (x:α) (W:World) (K:Act->World->Prop),K (a₁ x) W ->
  assign.wpIn (F.inRound l) (n - 1 - 1) P (Exit.then K (fun _ _ _=>False)) { tmps:=(ps.zip (encs x)).foldl (fun t (p,v)=>t.setIfInBounds p v) a.tmps,defers:=[] } W) /\
  (∀ (l:Nat) (pre:List α) (x:α) (W:World),I pre W->pre.length<N->body.wpIn (F.inRound l) (n - 1 - 1) P (ownPostK (Below n₀) I Ix (pre ++ [x]) W) (a₁ x) W))
 (hdone:∀ (D:Nat) (xs:List α) (W:World),w.heap.size<=D->S xs->I xs W->W.heap[D]?=some (.deferred (some []))->Q .normal { a with defers:={ target:=.collected D,args:=#[] } :: a.defers } W)
 (hstop:∀ (D:Nat) (c:Code) (pre:List α) (W:World),w.heap.size<=D->Sp pre->Ix c pre W->W.heap[D]?=some (.deferred (some []))->c.wpIn F n P Q { a with defers:={ target:=.collected D,args:=#[] } :: a.defers } W) :
 (Code.rangeFunc g ps assign body).wpIn F n P Q a w:=by
 obtain⟨a₁,ha,hb⟩:=hab
 exact wpIn_rangeFunc_ownF hro h1 hg hFg eg hseq belowK_t (belowK_b hn₀) hb0 hps I Ix hI hIx h0 a₁ ha hb hdone hstop
theorem Bv {n:Nat} {w W:World} {D:Nat} (h:Below n w W) (hn:n<=D) (hD:D<W.heap.size) (o:Obj):Below n w (W.putObj D o):=h.grown (grownBy_putObj' W D o) (by omega) (fun k e=>by cases e;exact hn)
theorem eX {W W':World} {B:Nat} {t:TypeId} {v:Value} {n:Nat} (h:Boxed W B t v) (hb:Below n W W') (hn:B<n):Boxed W' B t v:=(hb.block B hn).trans h
open Fm (Nd)
open Bt.Bs (Ok wd)
attribute [local go_sem] Oper.semAt_some
def cellsS (l:List Sh):List Value:=l.flatMap fun m=>(bB m).toList
theorem FP (l:List Sh) (m:Sh):cellsS (l ++ [m])=cellsS l ++ (bB m).toList:=by simp[cellsS]
def rO (r:List Nat) (g:Int):List Nat:=Bt.Bs.nums (aD r [g])
def cZ (t:List Nd) (r:List Nat) (g:Int):List Sh:=(rO r g).map fun n:Nat=>bO t (n:Int)
theorem Pg (w:World) (r0 r1 r2 r3 r4 r5 r6 r7 r8 r9 bS bW dB dD dF dP:Nat) (g:Int):(Instr.field 53 (.agg (au [r0,r1,r2,r3,r4,r5,r6,r7,r8,r9,bS,bW,dB,dD,dF,dP] g)) 0).run Tryz.prog w=.ok (.agg (Bt.aG [r0,r1,r2,r3,r4,r5,r6,r7,r8,r9,bS,bW,dB,dD,dF,dP])) w:=by kernel_rfl
theorem VG (w:World) {r:List Nat} (hr:r.length=16) (g:Int):(Instr.field 53 (.agg (au r g)) 0).run Tryz.prog w=.ok (.agg (Bt.aG r)) w:=by
 match r,hr with
 | [r0,r1,r2,r3,r4,r5,r6,r7,r8,r9,bS,bW,dB,dD,dF,dP],_=>exact Pg ..
theorem JD:(Tryz.prog.info? 182).map (fun i=>(i.zero,i.size,i.bytes))=some (some (.agg (bB kT)),7,56):=by kernel_rfl
def VH (v:Value) (r:List Nat) (w:World):Prop:=∃ q,v=.func (.func 158) #[] #[.pointer (some ⟨q,0,none⟩)]/\Bt.dK w q r
structure SI (w W:World) (k:Nat):Prop where
 gU:Boxed W w.heap.size 136 (.pointer (some ⟨k,0,none⟩))
 av:Below w.heap.size w W
theorem SI.later {w W W':World} {k:Nat} (h:SI w W k) (hb:Below W.heap.size W W'):SI w W' k:=⟨eX h.gU hb h.gU.lt,h.av.trans (hb.mono h.av.size)⟩
theorem VI {β:Type} (w:World) (k:Nat) {n:Nat} (hn:w.heap.size<=n):OwnFrom n (fun (_:β) W=>SI w W k):=fun s W W' row hs hg hr=>by
 have h1:=Own.from (boxed_own (β:=β) w.heap.size 136 (fun _=>Value.pointer (some ⟨k,0,none⟩))) n s W W' row hs.gU hg hr
 have h3:=ownFrom_below (β:=β) (n₀:=w.heap.size) (B:=n) (w₀:=w) (Nat.le_refl _) hn s W W' row hs.av hg hr
 exact⟨h1,h3⟩
def Ph (base:Nat) (w:World) (v:Value) (l:List Sh):Prop:=w.ownsRow base 182 7 v l.length (cellsS l)
theorem sN {base n:Nat} {w w':World} {e:TypeId} {size:Nat} {v:Value} {xs:List Value} (h:w.ownsRow base e size v n xs) (hb:Below w.heap.size w w'):w'.ownsRow base e size v n xs:=by
 refine⟨h.1,?_⟩
 rcases h.2 with h2 | ⟨g,cap,cur,rfl,hg,hh,r⟩
 ·exact Or.inl h2
 ·exact Or.inr ⟨g,cap,cur,rfl,hg,(hb.block g (lt_of_block hh)).trans hh,r⟩
theorem Ep {W W':World} (hb:Below W.heap.size W W'):KeepsOthers W W':=⟨hb.size,fun k _ h _=>(hb.block k (Array.getElem?_eq_some_iff.1 h).1).trans h⟩
theorem MP (w0:World) {b mm:Nat} {v:Value} {t:List Nd} (hT:Tb w0 b mm v t) (hZ:Bt.Tz w0) {k:Nat} {r:List Nat} {g:Int} {tv:Value} {fl:Bool} (hW:Wk w0 k b r g tv fl) (hr:Ok r) :
 Calls Tryz.prog 94 #[.pointer (some ⟨k,0,none⟩)] w0 fun e w'=>∃ v',e=.returned v'/\Ph w0.heap.size w' v' (cZ t r g)/\Below w0.heap.size w0 w':=by
 have hr2:=gK [g] hr
 have HW:=show Hid (∀ W:World,Below w0.heap.size w0 W->Wk W k b r g tv fl) from fun W h=>hW.later h
 have KS:=show Hid (∀ (W:World) (x:Int),Below w0.heap.size w0 W->Calls Tryz.prog 140 #[.pointer (some ⟨b,0,none⟩),.int .i64 x] W fun e w'=>e=.returned (.tuple #[fB (bO t x),.bool (Fm.has t x)])/\Below W.heap.size W w') from fun W x h=>xH W (hT.later h) x
 have HZ0:=show Hid (2<w0.heap.size) from Bt.qL hZ
 have HN:=show Hid ((Bt.Bs.nums (aD r [g])).length<=1024) from by
  have:=List.length_filter_le (Bt.Bs.has (aD r [g])) (List.range 1024)
  rwa [List.length_range] at this
 have H1:=show Hid (SI w0 ((w0.alloc (.cells #[.pointer (some ⟨k,0,none⟩)] 136)).alloc (.cells #[.slice none 0 0] 176)) k/\Boxed ((w0.alloc (.cells #[.pointer (some ⟨k,0,none⟩)] 136)).alloc (.cells #[.slice none 0 0] 176)) (w0.heap.size+1) 176 (.slice none 0 0)/\Bt.Tz ((w0.alloc (.cells #[.pointer (some ⟨k,0,none⟩)] 136)).alloc (.cells #[.slice none 0 0] 176))) from
  ⟨⟨(Bt.eD w0 _ _).1,Bt.jk w0 _ _⟩,(Bt.eD w0 _ _).2,Bt.iY hZ (Bt.jk w0 _ _)⟩
 clear hW hT hZ
 obtain⟨i0,hi,hz0,hz1,hz2⟩:=info_parts JD
 refine(callsIn_wide (n:=5)).1 ?_
 refine callsIn_of_wp_marks Tryz.func94 rfl trivial ?_ rfl
 simp only[Tryz.ntmps94,List.size_toArray,List.length_cons,List.length_nil,Nat.reduceAdd,Nat.reduceSub,Array.replicate_succ,Array.replicate_zero,List.push_toArray,List.append_toArray,List.nil_append,List.cons_append]
 gi_wp2
 generalize ((w0.alloc (.cells #[.pointer (some ⟨k,0,none⟩)] 136)).alloc (.cells #[.slice none 0 0] 176))=w1 at *
 refine wpIn_wide.2 ?_
 refine bK (by kernel_rfl) [some 7,some 8,some 9,some 10,some 11,some 12,some 13,some 14,some 15,some 16,some 17,some 18,some 19] [[],[0],[1],[2],[],[4],[5],[6],[7],[8],[3,9],[10],[11]] (by kernel_rfl) (fun i v w=>match i with | 0=>v=.pointer (some ⟨k,0,none⟩) | 1=>v=.pointer (some ⟨k,0,none⟩) | 2=>v=.pointer (some ⟨k,1,none⟩) | 3=>v=.agg (au r g) | 4=>v=.pointer (some ⟨k,0,none⟩) | 5=>v=.pointer (some ⟨k,0,none⟩) | 6=>v=.pointer (some ⟨k,1,none⟩) | 7=>v=.pointer (some ⟨k,17,none⟩) | 8=>v=.int .i64 g | 9=>I1 v g w | 10=>v=.agg (au (aD r [g]) g) | 11=>v=.agg (Bt.aG (aD r [g])) | 12=>VH v (aD r [g]) w | _=>True) (fun _ W=>Below w1.heap.size w1 W) (fun W W'=>Below W.heap.size W W') ?hle ((Below.refl _ _).drew) (dL 13 ?steps) ?fin
 case hle=>
  intro i v w w1 hl h
  match i,h with
  | 0,h=>exact h
  | 1,h=>exact h
  | 2,h=>exact h
  | 3,h=>exact h
  | 4,h=>exact h
  | 5,h=>exact h
  | 6,h=>exact h
  | 7,h=>exact h
  | 8,h=>exact h
  | 9,h=>exact I1.later h hl
  | 10,h=>exact h
  | 11,h=>exact h
  | 12,h=>exact(by obtain⟨q,hv,hq⟩:=h;exact⟨q,hv,hq.keep hl hq.lt⟩)
  | _+13,h=>trivial
 case steps=>
  refine⟨⟨⟨⟨⟨⟨⟨⟨⟨⟨⟨⟨⟨trivial,?s0⟩,?s1⟩,?s2⟩,?s3⟩,?s4⟩,?s5⟩,?s6⟩,?s7⟩,?s8⟩,?s9⟩,?s10⟩,?s11⟩,?s12⟩
  case s0=>
   intro done a w hS h0 hd hn hO hN
   have o1:a.tmps[1]?=some (.pointer (some ⟨w0.heap.size,0,none⟩)):=outs hO 1 rfl
   have hc:w.cell? ⟨w0.heap.size,0,none⟩=some (.pointer (some ⟨k,0,none⟩)):=(H1.out.1.later hS).gU.cell
   refine ah rfl (.pointer (some ⟨k,0,none⟩)) w rfl (by go_simp) ⟨_,rfl,rfl,hS,Below.refl _ _⟩
  case s1=>
   intro done a w hS h0 hd hn hO hN
   obtain⟨v0,g0,r0⟩:=aj hN 0 7
   obtain rfl:v0=.pointer (some ⟨k,0,none⟩):=r0
   refine ah rfl (.pointer (some ⟨k,0,none⟩)) w rfl (by go_simp) ⟨_,rfl,rfl,hS,Below.refl _ _⟩
  case s2=>
   intro done a w hS h0 hd hn hO hN
   obtain⟨v1,g1,r1⟩:=aj hN 1 8
   obtain rfl:v1=.pointer (some ⟨k,0,none⟩):=r1
   refine ah rfl (.pointer (some ⟨k,1,none⟩)) w rfl (by go_simp) ⟨_,rfl,rfl,hS,Below.refl _ _⟩
  case s3=>
   intro done a w hS h0 hd hn hO hN
   obtain⟨v2,g2,r2⟩:=aj hN 2 9
   obtain rfl:v2=.pointer (some ⟨k,1,none⟩):=r2
   have hl:=j6 w k 1 (HW.out w (H1.out.1.av.trans (hS.mono H1.out.1.av.size))).seq hr.1
   refine ah rfl (.agg (au r g)) w rfl (by simp[execOp,Act.eval,g2,hl,Result.andThen]) ⟨_,rfl,rfl,hS,Below.refl _ _⟩
  case s4=>
   intro done a w hS h0 hd hn hO hN
   have o1:a.tmps[1]?=some (.pointer (some ⟨w0.heap.size,0,none⟩)):=outs hO 1 rfl
   have hc:w.cell? ⟨w0.heap.size,0,none⟩=some (.pointer (some ⟨k,0,none⟩)):=(H1.out.1.later hS).gU.cell
   refine ah rfl (.pointer (some ⟨k,0,none⟩)) w rfl (by go_simp) ⟨_,rfl,rfl,hS,Below.refl _ _⟩
  case s5=>
   intro done a w hS h0 hd hn hO hN
   obtain⟨v4,g4,r4⟩:=aj hN 4 11
   obtain rfl:v4=.pointer (some ⟨k,0,none⟩):=r4
   refine ah rfl (.pointer (some ⟨k,0,none⟩)) w rfl (by go_simp) ⟨_,rfl,rfl,hS,Below.refl _ _⟩
  case s6=>
   intro done a w hS h0 hd hn hO hN
   obtain⟨v5,g5,r5⟩:=aj hN 5 12
   obtain rfl:v5=.pointer (some ⟨k,0,none⟩):=r5
   refine ah rfl (.pointer (some ⟨k,1,none⟩)) w rfl (by go_simp) ⟨_,rfl,rfl,hS,Below.refl _ _⟩
  case s7=>
   intro done a w hS h0 hd hn hO hN
   obtain⟨v6,g6,r6⟩:=aj hN 6 13
   obtain rfl:v6=.pointer (some ⟨k,1,none⟩):=r6
   refine ah rfl (.pointer (some ⟨k,17,none⟩)) w rfl (by go_simp) ⟨_,rfl,rfl,hS,Below.refl _ _⟩
  case s8=>
   intro done a w hS h0 hd hn hO hN
   obtain⟨v7,g7,r7⟩:=aj hN 7 14
   obtain rfl:v7=.pointer (some ⟨k,17,none⟩):=r7
   have hc:=(HW.out w (H1.out.1.av.trans (hS.mono H1.out.1.av.size))).goal hr.1
   refine ah rfl (.int .i64 g) w rfl (by go_simp) ⟨_,rfl,rfl,hS,Below.refl _ _⟩
  case s9=>
   intro done a w hS h0 hd hn hO hN
   obtain⟨v8,g8,r8⟩:=aj hN 8 15
   obtain rfl:v8=.int .i64 g:=r8
   refine ah rfl (.slice (some ⟨w.heap.size,0,none⟩) 1 1) (w.alloc (.cells #[.int .i64 g] 3)) rfl (by go_simp) ⟨_,rfl,DT w g _,hS.alloc hS.size _,ak w _⟩
  case s10=>
   intro done a w hS h0 hd hn hO hN
   obtain⟨v3,g3,r3⟩:=aj hN 3 10
   obtain rfl:v3=.agg (au r g):=r3
   obtain⟨v9,g9,r9⟩:=aj hN 9 16
   refine aW rfl rfl 123 [.tmp 10,.tmp 16] #[53,37] rfl [.agg (au r g),v9] (by simp[Act.eval,g3,g9]) (enters_of Tryz.func123 (by kernel_rfl) rfl) (Calls.mono (iR w hr g v9 [g] r9.gP) ?_)
   rintro e w1 ⟨rfl,hb⟩
   exact⟨_,rfl,_,rfl,rfl,hS.trans (hb.mono hS.size),hb⟩
  case s11=>
   intro done a w hS h0 hd hn hO hN
   obtain⟨v10,g10,bS⟩:=aj hN 10 17
   obtain rfl:v10=.agg (au (aD r [g]) g):=bS
   have hq:=VG w hr2.1 g
   refine ah rfl (.agg (Bt.aG (aD r [g]))) w rfl (by simp[execOp,Act.eval,g10,hq,Result.andThen]) ⟨_,rfl,rfl,hS,Below.refl _ _⟩
  case s12=>
   intro done a w hS h0 hd hn hO hN
   obtain⟨v11,g11,bW⟩:=aj hN 11 18
   obtain rfl:v11=.agg (Bt.aG (aD r [g])):=bW
   refine aW rfl rfl 139 [.tmp 18] #[51] rfl [.agg (Bt.aG (aD r [g]))] (by simp[Act.eval,g11]) (enters_of Tryz.func139 (by kernel_rfl) rfl) (Calls.mono (Bt.RI w (aD r [g])) ?_)
   rintro e w1 ⟨rfl,rfl⟩
   exact⟨_,rfl,_,rfl,⟨w.heap.size,rfl,heap_alloc_last w _⟩,hS.alloc hS.size _,ak w _⟩
 case fin=>
  intro vs done w hdone hS hR
  simp only[bn,Act.put,List.setIfInBounds_toArray,List.set_cons_zero,List.set_cons_succ]
  obtain⟨q,hv,hq⟩:VH (vs 12) (aD r [g]) w:=hR 12 (by decide)
  rw[hv]
  have HS2:=show Hid (SI w0 w k/\Boxed w (w0.heap.size+1) 176 (.slice none 0 0)/\Bt.Tz w/\Bt.dK w q (aD r [g])) from⟨H1.out.1.later hS,eX H1.out.2.1 hS H1.out.2.1.lt,Bt.iY H1.out.2.2 hS,hq⟩
  clear hS hR hdone hv hq H1
  gi_wp2
  refine Pf rfl (by omega) (gf:=158) (lb:=#[.pointer (some ⟨q,0,none⟩)]) rfl trivial (enters_of Tryz.func158 (by kernel_rfl) rfl) (Bt.all_stops (5 - 1) (by omega) q w0.heap.size hr2 w HS2.out.2.2.2 HS2.out.2.2.1 HZ0.out) HS2.out.1.av.size (Below.refl _ _) (fun _=>rfl)
   (fun pre W=>(∃ v,Boxed W (w0.heap.size+1) 176 v/\W.ownsRow w0.heap.size 182 7 v pre.length (cellsS (pre.map fun n:Nat=>bO t (n:Int)))/\True)/\SI w0 W k)
   (fun _ _ _=>False)
   (OwnFrom.and (Own.from (holdsRow_own w0.heap.size (w0.heap.size+1) 176 182 7 (fun pre:List Nat=>pre.length) (fun pre=>cellsS (pre.map fun n:Nat=>bO t (n:Int))) (fun _ _=>True)) _) (VI w0 k HS2.out.1.av.size))
   (fun _ _ _ _ _ hs _ _=>hs)
   ⟨⟨_,HS2.out.2.1,⟨rfl,Or.inl ⟨rfl,rfl⟩⟩,trivial⟩,HS2.out.1⟩ ?ab ?done ?stop
  case ab=>
   apply Exists.intro
   refine⟨?assign,?body⟩
   case assign=>
    intro l x W K hK
    gi_wp2
    exact hK
   case body=>
    rintro l pre x W ⟨⟨v,hv,hrow,-⟩,hsi⟩ hlt
    have hN:pre.length<1024:=Nat.lt_of_lt_of_le hlt HN.out
    have c1:=hsi.gU.cell
    have c2:=(HW.out W hsi.av).tab
    have KX:=show Hid _ from KS.out W (x:Int) hsi.av
    have HI:=show Hid (Boxed W (w0.heap.size+1) 176 v/\W.ownsRow w0.heap.size 182 7 v pre.length (cellsS (pre.map fun n:Nat=>bO t (n:Int)))/\SI w0 W k) from⟨hv,hrow,hsi⟩
    clear hv hrow hsi hlt KS HW
    generalize hm:bO t (x:Int)=m at *
    have HM:=show Hid (bO t (x:Int)=m) from hm
    clear hm
    obtain⟨m1,m2,m3,m4,m5,m6,m7⟩:=m
    simp only[fB,bB] at KX
    gi_wp2_with (first
     | (refine⟨trivial,?_⟩;gi_at_call 140;refine(CallsIn.inRound l (callsIn_wide.2 KX.out)).mono ?_;rintro e W1 ⟨rfl,hb1⟩;obtain⟨HI1⟩:Nonempty (Hid (Boxed (W1.alloc (Obj.cells #[.int .i64 m1,.int .i64 m2,.int .i64 m3,.int .i64 m4,.int .i64 m5,.int .i64 m6,.int .i64 m7] 182)) (w0.heap.size+1) 176 v/\(W1.alloc (Obj.cells #[.int .i64 m1,.int .i64 m2,.int .i64 m3,.int .i64 m4,.int .i64 m5,.int .i64 m6,.int .i64 m7] 182)).ownsRow w0.heap.size 182 7 v pre.length (cellsS (pre.map fun n:Nat=>bO t (n:Int)))/\SI w0 (W1.alloc (Obj.cells #[.int .i64 m1,.int .i64 m2,.int .i64 m3,.int .i64 m4,.int .i64 m5,.int .i64 m6,.int .i64 m7] 182)) k/\Below W.heap.size W W1)):=⟨eX (eX HI.out.1 hb1 HI.out.1.lt) (ak _ _) (eX HI.out.1 hb1 HI.out.1.lt).lt,sN (sN HI.out.2.1 hb1) (ak _ _),(HI.out.2.2.later hb1).later (ak _ _),hb1⟩;have hc3:=HI1.out.1.cell)
     | (gi_at_builtin;refine wpListIn_append_own _ rfl (.tmp 30) (.tmp 32) 176 rfl w0.heap.size 182 i0 (.agg (bB kT)) 7 56 Tryz.underlying176 hi hz0 hz1 hz2 rfl (by decide) v pre.length _ rfl (HI1.out.2.1.alloc _) ⟨W1.heap.size+1,0,none⟩ 1 1 [.int .i64 m1,.int .i64 m2,.int .i64 m3,.int .i64 m4,.int .i64 m5,.int .i64 m6,.int .i64 m7] rfl rfl (lI _ _ _ _ (by simp)) (by simp[Value.oneCell']) (by unfold maxLen;omega) (by omega) (by have:=HI1.out.2.2.1.av.size;simp at this |-;omega) ?_;intro v' w1' hown' hgrow _;obtain⟨g',cap',rfl⟩:=ownsRow_succ hown';obtain⟨hv1,hv2,hr2',hk2,hb2⟩:=HI1.out.1.appended (by decide) HI1.out.2.1 (by have:=HI1.out.2.2.1.av.size;simpa using this) (by omega) hown' hgrow;have hc1:=hv1.cell;have hf1:=hv1.frozen))
    refine⟨((Ep HI1.out.2.2.2).trans (KeepsOthers.alloc _ _)).trans hk2,(HI1.out.2.2.2.mono HI.out.2.2.av.size).trans (((Below.refl _ _).alloc (by have:=HI.out.2.2.av.size;have:=HI1.out.2.2.2.size;omega) _).trans hb2),⟨_,hv2,?_,trivial⟩,⟨?_,?_⟩⟩
    ·rw[List.map_append,List.map_singleton,FP,List.length_append,List.length_singleton,HM.out]
     exact hr2'
    ·exact((HI1.out.2.2.1.gU.alloc _).kept hgrow (HI1.out.2.2.1.gU.not_row (by decide) HI1.out.2.1)).other (by omega) _
    ·exact HI1.out.2.2.1.av.trans hb2
  case done=>
   rintro D ys W hD rfl ⟨⟨v,hv,hrow,-⟩,hsi⟩ hK
   have hc:=hv.cell
   gi_wp2
   refine⟨by simp,.inl ⟨_,_,rfl,run_takeDeferred hK,?_⟩⟩
   refine⟨_,results_tmp rfl _ _ _,v,rfl,?_,hsi.av.trans (belowK_b (w:=w0) (Nat.le_refl _) W D _ _ (by have:=HS2.out.1.av.size;omega) hK rfl rfl)⟩
   have e:(Bt.Bs.nums (aD r [g])).length=(cZ t r g).length:=by simp[cZ,rO]
   have hrow2:=ownsRow_putObj hrow (.deferred none) hK rfl
   rw[e] at hrow2
   exact hrow2
  case stop=>
   rintro D c pre W _ _ h _
   exact h.elim
end Go.Proofs.YtkpbpecikibohaaGreatDoor
