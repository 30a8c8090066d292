import Derived.Test.YtkpbpecikibohaaGreatDoorZG1
import Derived.Test.YtkpbpecikibohaaGreatDoorFG3
import Derived.Test.YtkpbpecikibohaaGreatDoorBG3
import Derived.Test.YtkpbpecikibohaaGreatDoorZFind
set_option linter.unusedSimpArgs false
set_option maxRecDepth 100000
set_option maxHeartbeats 2000000
namespace Go.Proofs.YtkpbpecikibohaaGreatDoor
open Go.RowKit Go.Shelf Go.Maps
open Fm (Nd)
open Bt.Bs (Ok wd)
def eP (t:List Nd) (r:List Nat) (g:Int):Int:=if (Bt.sF r (t.length:Int)).isSome then 31 else if Fm.has t g then 0 else 31
structure sI (w W:World) (b:Nat) (r:List Nat) (g:Int):Prop where
 s:bM W b r g
 av:Below w.heap.size w W
 ge:w.heap.size<=b
theorem sI.later {w W W':World} {b:Nat} {r:List Nat} {g:Int} (h:sI w W b r g) (hb:Below W.heap.size W W'):sI w W' b r g:=⟨h.s.later hb h.s.lt,h.av.trans (hb.mono h.av.size),h.ge⟩
theorem sI.drew {w W:World} {b:Nat} {r:List Nat} {g:Int} (h:sI w W b r g):sI w W.drew b r g:=⟨h.s,h.av.drew,h.ge⟩
theorem xJ (w0:World) {b m:Nat} {v:Value} {t:List Nd} (hT:Tb w0 b m v t) (hZ:Bt.Tz w0) {r:List Nat} (hr:Ok r) (g:Int):Calls Tryz.prog 65 #[.pointer (some ⟨b,0,none⟩),.agg (au r g)] w0 fun e w'=>e=.returned (.int .i64 (eP t r g))/\Below w0.heap.size w0 w':=by
 have hh:Fm.has t (-1)=false:=by cases h:Fm.has t (-1);rfl;exact absurd (Fm.dJ.1 h).1 (by omega)
 have KB:=show Hid (∀ w',Below w0.heap.size w0 w'->Calls Tryz.prog 73 #[.pointer (some ⟨b,0,none⟩),.int .i64 (-1)] w' fun e w''=>∃ v',e=.returned (.tuple #[v',.int .i64 31])/\Below w'.heap.size w' w'') from fun w' h=>(Bb w' (hT.later h) (-1)).mono fun e w'' ⟨v',he,_,hb⟩=>⟨v',by rw[he];unfold q8;rw[hh];rfl,hb⟩
 have KN:=show Hid (∀ w' x,Below w0.heap.size w0 w'->Calls Tryz.prog 76 #[.pointer (some ⟨b,0,none⟩),.int .i64 x] w' fun e w''=>e=.returned (.tuple #[dY (ay t x),.bool (Fm.has t x)])/\Below w'.heap.size w' w'') from fun w' x h=>uF w' (hT.later h) x
 have HT:=show Hid (∀ w',Below w0.heap.size w0 w'->Tb w' b m v t) from fun w' h=>hT.later h
 have HN:=show Hid (∀ w',Below w0.heap.size w0 w'->Calls Tryz.prog 92 #[.agg (Bt.aG r),.int .i64 (t.length:Int)] w' fun e w''=>e=.returned (Bt.zm (Bt.sF r (t.length:Int)))/\Below w'.heap.size w' w'') from fun w' h=>(Bt.Og w' (Bt.iY hZ h) hr (t.length:Int) (by have:=hT.ok.len;omega)).mono fun e w'' ⟨he,hw⟩=>⟨he,by rw[hw];exact ak _ _⟩
 have HQ:=show Hid (eP t r g=if (Bt.sF r (t.length:Int)).isSome then 31 else if Fm.has t g then 0 else 31) from rfl
 clear hT hh hZ
 generalize eP t r g=rq at *
 go_enter Tryz.func65,Tryz.ntmps65
 go_wp2_with (refine aC _ _ rfl _ rfl rfl ?_)
 intro w1 b3 hn1
 have H1:=show Hid (sI w0 w1 b3 r g) from⟨hn1.blk,hn1.av,hn1.ge⟩
 clear hn1
 go_wp2_with fail
 refine Calls.mono (KB.out w1 H1.out.av) ?_
 rintro e w2 ⟨v',rfl,hb2⟩
 have H2:=show Hid _ from H1.out.later hb2
 clear H1 hb2 KB
 go_wp2_with fail
 cases hx:Bt.sF r (t.length:Int) with
 | none=>
  rw[hx] at HN HQ
  simp only[Option.isSome_none,Bool.false_eq_true,if_false] at HQ
  simp only[Bt.zm] at HN
  refine bK (by kernel_rfl) [some 19,some 20,some 21,some 22,some 23,some 18,some 24,some 25,some 7,some 8] [[],[0],[],[2],[1,3],[4],[5],[5],[6],[7]] (by kernel_rfl) (fun i v w=>match i with | 0=>v=.pointer (some ⟨b3,0,none⟩) | 1=>v=.agg (Bt.aG r) | 2=>v=.pointer (some ⟨b,0,none⟩) | 3=>v=.int .i64 (t.length:Int) | 4=>v=.tuple #[.int .i64 0,.bool false] | 5=>v=.tuple #[.int .i64 0,.bool false] | 6=>v=.int .i64 0 | 7=>v=.bool false | 8=>v=.int .i64 0 | 9=>v=.bool false | _=>True) (fun _ W=>sI w0 W b3 r g) (fun _ _=>True) ?hle (H2.out.drew) (dL 10 ?steps) ?fin
  case hle=>
   intro i v w w1 hl h
   match i,h with
   | 0,h=>exact h
   | 1,h=>exact h
   | 2,h=>exact h
   | 3,h=>exact h
   | 4,h=>exact h
   | 5,h=>exact h
   | 6,h=>exact h
   | 7,h=>exact h
   | 8,h=>exact h
   | 9,h=>exact h
   | _+10,h=>trivial
  case steps=>
   refine⟨⟨⟨⟨⟨⟨⟨⟨⟨⟨trivial,?s0⟩,?s1⟩,?s2⟩,?s3⟩,?s4⟩,?s5⟩,?s6⟩,?s7⟩,?s8⟩,?s9⟩
   case s0=>
    intro done a w hS h0 hd hn hO hN
    have o3:a.tmps[3]?=some (.pointer (some ⟨b3,0,none⟩)):=outs hO 3 rfl
    refine ah rfl (.pointer (some ⟨b3,0,none⟩)) w rfl (by go_simp) ⟨_,rfl,rfl,by simpa[h0] using hS,trivial⟩
   case s1=>
    intro done a w hS h0 hd hn hO hN
    obtain⟨v0,g0,r0⟩:=aj hN 0 19
    obtain rfl:v0=.pointer (some ⟨b3,0,none⟩):=r0
    have hl:=Cc w b3 hS.s hr.1
    refine ah rfl (.agg (Bt.aG r)) w rfl (by simp[execOp,Act.eval,g0,hl,Result.andThen]) ⟨_,rfl,rfl,by simpa[h0] using hS,trivial⟩
   case s2=>
    intro done a w hS h0 hd hn hO hN
    have o0:a.tmps[0]?=some (.pointer (some ⟨b,0,none⟩)):=outs hO 0 rfl
    refine ah rfl (.pointer (some ⟨b,0,none⟩)) w rfl (by go_simp) ⟨_,rfl,rfl,by simpa[h0] using hS,trivial⟩
   case s3=>
    intro done a w hS h0 hd hn hO hN
    obtain⟨v2,g2,r2⟩:=aj hN 2 21
    obtain rfl:v2=.pointer (some ⟨b,0,none⟩):=r2
    refine aW rfl rfl 30 [.tmp 21] #[28] rfl [.pointer (some ⟨b,0,none⟩)] (by simp[Act.eval,g2]) (enters_of Tryz.func30 (by kernel_rfl) rfl) (Calls.mono (wO w (HT.out w hS.av)) ?_)
    rintro e w1 ⟨rfl,rfl⟩
    exact⟨_,rfl,_,rfl,rfl,hS,trivial⟩
   case s4=>
    intro done a w hS h0 hd hn hO hN
    obtain⟨v1,g1,r1⟩:=aj hN 1 20
    obtain rfl:v1=.agg (Bt.aG r):=r1
    obtain⟨v3,g3,r3⟩:=aj hN 3 22
    obtain rfl:v3=.int .i64 (t.length:Int):=r3
    refine aW rfl rfl 92 [.tmp 20,.tmp 22] #[51,3] rfl [.agg (Bt.aG r),.int .i64 (t.length:Int)] (by simp[Act.eval,g1,g3]) (enters_of Tryz.func92 (by kernel_rfl) rfl) (Calls.mono (HN.out w hS.av) ?_)
    rintro e w1 ⟨rfl,hb⟩
    exact⟨_,rfl,_,rfl,rfl,hS.later hb,trivial⟩
   case s5=>
    intro done a w hS h0 hd hn hO hN
    obtain⟨v4,g4,r4⟩:=aj hN 4 23
    obtain rfl:v4=.tuple #[.int .i64 0,.bool false]:=r4
    refine ah rfl (.tuple #[.int .i64 0,.bool false]) w rfl (by go_simp) ⟨_,rfl,rfl,by simpa[h0] using hS,trivial⟩
   case s6=>
    intro done a w hS h0 hd hn hO hN
    obtain⟨v5,g5,r5⟩:=aj hN 5 18
    obtain rfl:v5=.tuple #[.int .i64 0,.bool false]:=r5
    refine ah rfl (.int .i64 0) w rfl (by go_simp) ⟨_,rfl,rfl,by simpa[h0] using hS,trivial⟩
   case s7=>
    intro done a w hS h0 hd hn hO hN
    obtain⟨v5,g5,r5⟩:=aj hN 5 18
    obtain rfl:v5=.tuple #[.int .i64 0,.bool false]:=r5
    refine ah rfl (.bool false) w rfl (by go_simp) ⟨_,rfl,rfl,by simpa[h0] using hS,trivial⟩
   case s8=>
    intro done a w hS h0 hd hn hO hN
    obtain⟨v6,g6,r6⟩:=aj hN 6 24
    obtain rfl:v6=.int .i64 0:=r6
    refine ah rfl (.int .i64 0) w rfl (by go_simp) ⟨_,rfl,rfl,by simpa[h0] using hS,trivial⟩
   case s9=>
    intro done a w hS h0 hd hn hO hN
    obtain⟨v7,g7,r7⟩:=aj hN 7 25
    obtain rfl:v7=.bool false:=r7
    refine ah rfl (.bool false) w rfl (by go_simp) ⟨_,rfl,rfl,by simpa[h0] using hS,trivial⟩
  case fin=>
   intro vs done w hdone hS hR
   simp only[bn,Act.put,List.setIfInBounds_toArray,List.set_cons_zero,List.set_cons_succ]
   have MF:vs 8=.int .i64 0:=hR 8 (by decide)
   have nI:vs 9=.bool false:=hR 9 (by decide)
   rw[MF,nI]
   have HZ:=show Hid (sI w0 w b3 r g) from hS
   have cg:=hS.s.goal hr.1
   have KX:=show Hid _ from KN.out w g hS.av
   clear hS hR hdone MF nI KN HN HT H2
   cases hg:Fm.has t g
   ·rw[hg] at KX HQ
    simp only[Bool.false_eq_true,if_false] at HQ
    obtain rfl:=HQ.out
    go_wp2_with fail
    refine Calls.mono KX.out ?_
    rintro e w3 ⟨rfl,hb3⟩
    have H3:=show Hid _ from HZ.out.later hb3
    clear HZ hb3 KX HQ cg
    generalize ay t g=n2
    unfold dY
    go_wp2_with (refine aN _ rfl _ Cg rfl ?_)
    intro w4 b4 fV
    go_wp2_with (refine aQ _ rfl rfl _ _ rfl _ rfl _ rfl _ _ fV.blk Ce rfl (by simp[Value.oneCell']) ?_)
    intro w5 jZ hk5
    go_wp2_with fail
    go_ret
    exact⟨rfl,bR (cO H3.out.av fV) hk5 (by have:=H3.out.av.size;have:=fV.ge;omega)⟩
   ·rw[hg] at KX HQ
    simp only[if_true] at HQ
    obtain rfl:=HQ.out
    go_wp2_with fail
    refine Calls.mono KX.out ?_
    rintro e w3 ⟨rfl,hb3⟩
    have H3:=show Hid _ from HZ.out.later hb3
    clear HZ hb3 KX HQ cg
    generalize ay t g=n2
    unfold dY
    go_wp2_with (refine aN _ rfl _ Cg rfl ?_)
    intro w4 b4 fV
    go_wp2_with (refine aQ _ rfl rfl _ _ rfl _ rfl _ rfl _ _ fV.blk Ce rfl (by simp[Value.oneCell']) ?_)
    intro w5 jZ hk5
    go_wp2_with fail
    go_ret
    exact⟨rfl,bR (cO H3.out.av fV) hk5 (by have:=H3.out.av.size;have:=fV.ge;omega)⟩
 | some x=>
  rw[hx] at HN HQ
  simp only[Option.isSome_some,if_true] at HQ
  simp only[Bt.zm] at HN
  refine bK (by kernel_rfl) [some 19,some 20,some 21,some 22,some 23,some 18,some 24,some 25,some 7,some 8] [[],[0],[],[2],[1,3],[4],[5],[5],[6],[7]] (by kernel_rfl) (fun i v w=>match i with | 0=>v=.pointer (some ⟨b3,0,none⟩) | 1=>v=.agg (Bt.aG r) | 2=>v=.pointer (some ⟨b,0,none⟩) | 3=>v=.int .i64 (t.length:Int) | 4=>v=.tuple #[.int .i64 (x:Int),.bool true] | 5=>v=.tuple #[.int .i64 (x:Int),.bool true] | 6=>v=.int .i64 (x:Int) | 7=>v=.bool true | 8=>v=.int .i64 (x:Int) | 9=>v=.bool true | _=>True) (fun _ W=>sI w0 W b3 r g) (fun _ _=>True) ?hle (H2.out.drew) (dL 10 ?steps) ?fin
  case hle=>
   intro i v w w1 hl h
   match i,h with
   | 0,h=>exact h
   | 1,h=>exact h
   | 2,h=>exact h
   | 3,h=>exact h
   | 4,h=>exact h
   | 5,h=>exact h
   | 6,h=>exact h
   | 7,h=>exact h
   | 8,h=>exact h
   | 9,h=>exact h
   | _+10,h=>trivial
  case steps=>
   refine⟨⟨⟨⟨⟨⟨⟨⟨⟨⟨trivial,?s0⟩,?s1⟩,?s2⟩,?s3⟩,?s4⟩,?s5⟩,?s6⟩,?s7⟩,?s8⟩,?s9⟩
   case s0=>
    intro done a w hS h0 hd hn hO hN
    have o3:a.tmps[3]?=some (.pointer (some ⟨b3,0,none⟩)):=outs hO 3 rfl
    refine ah rfl (.pointer (some ⟨b3,0,none⟩)) w rfl (by go_simp) ⟨_,rfl,rfl,by simpa[h0] using hS,trivial⟩
   case s1=>
    intro done a w hS h0 hd hn hO hN
    obtain⟨v0,g0,r0⟩:=aj hN 0 19
    obtain rfl:v0=.pointer (some ⟨b3,0,none⟩):=r0
    have hl:=Cc w b3 hS.s hr.1
    refine ah rfl (.agg (Bt.aG r)) w rfl (by simp[execOp,Act.eval,g0,hl,Result.andThen]) ⟨_,rfl,rfl,by simpa[h0] using hS,trivial⟩
   case s2=>
    intro done a w hS h0 hd hn hO hN
    have o0:a.tmps[0]?=some (.pointer (some ⟨b,0,none⟩)):=outs hO 0 rfl
    refine ah rfl (.pointer (some ⟨b,0,none⟩)) w rfl (by go_simp) ⟨_,rfl,rfl,by simpa[h0] using hS,trivial⟩
   case s3=>
    intro done a w hS h0 hd hn hO hN
    obtain⟨v2,g2,r2⟩:=aj hN 2 21
    obtain rfl:v2=.pointer (some ⟨b,0,none⟩):=r2
    refine aW rfl rfl 30 [.tmp 21] #[28] rfl [.pointer (some ⟨b,0,none⟩)] (by simp[Act.eval,g2]) (enters_of Tryz.func30 (by kernel_rfl) rfl) (Calls.mono (wO w (HT.out w hS.av)) ?_)
    rintro e w1 ⟨rfl,rfl⟩
    exact⟨_,rfl,_,rfl,rfl,hS,trivial⟩
   case s4=>
    intro done a w hS h0 hd hn hO hN
    obtain⟨v1,g1,r1⟩:=aj hN 1 20
    obtain rfl:v1=.agg (Bt.aG r):=r1
    obtain⟨v3,g3,r3⟩:=aj hN 3 22
    obtain rfl:v3=.int .i64 (t.length:Int):=r3
    refine aW rfl rfl 92 [.tmp 20,.tmp 22] #[51,3] rfl [.agg (Bt.aG r),.int .i64 (t.length:Int)] (by simp[Act.eval,g1,g3]) (enters_of Tryz.func92 (by kernel_rfl) rfl) (Calls.mono (HN.out w hS.av) ?_)
    rintro e w1 ⟨rfl,hb⟩
    exact⟨_,rfl,_,rfl,rfl,hS.later hb,trivial⟩
   case s5=>
    intro done a w hS h0 hd hn hO hN
    obtain⟨v4,g4,r4⟩:=aj hN 4 23
    obtain rfl:v4=.tuple #[.int .i64 (x:Int),.bool true]:=r4
    refine ah rfl (.tuple #[.int .i64 (x:Int),.bool true]) w rfl (by go_simp) ⟨_,rfl,rfl,by simpa[h0] using hS,trivial⟩
   case s6=>
    intro done a w hS h0 hd hn hO hN
    obtain⟨v5,g5,r5⟩:=aj hN 5 18
    obtain rfl:v5=.tuple #[.int .i64 (x:Int),.bool true]:=r5
    refine ah rfl (.int .i64 (x:Int)) w rfl (by go_simp) ⟨_,rfl,rfl,by simpa[h0] using hS,trivial⟩
   case s7=>
    intro done a w hS h0 hd hn hO hN
    obtain⟨v5,g5,r5⟩:=aj hN 5 18
    obtain rfl:v5=.tuple #[.int .i64 (x:Int),.bool true]:=r5
    refine ah rfl (.bool true) w rfl (by go_simp) ⟨_,rfl,rfl,by simpa[h0] using hS,trivial⟩
   case s8=>
    intro done a w hS h0 hd hn hO hN
    obtain⟨v6,g6,r6⟩:=aj hN 6 24
    obtain rfl:v6=.int .i64 (x:Int):=r6
    refine ah rfl (.int .i64 (x:Int)) w rfl (by go_simp) ⟨_,rfl,rfl,by simpa[h0] using hS,trivial⟩
   case s9=>
    intro done a w hS h0 hd hn hO hN
    obtain⟨v7,g7,r7⟩:=aj hN 7 25
    obtain rfl:v7=.bool true:=r7
    refine ah rfl (.bool true) w rfl (by go_simp) ⟨_,rfl,rfl,by simpa[h0] using hS,trivial⟩
  case fin=>
   intro vs done w hdone hS hR
   simp only[bn,Act.put,List.setIfInBounds_toArray,List.set_cons_zero,List.set_cons_succ]
   have MF:vs 8=.int .i64 (x:Int):=hR 8 (by decide)
   have nI:vs 9=.bool true:=hR 9 (by decide)
   rw[MF,nI]
   have HZ:=show Hid (sI w0 w b3 r g) from hS
   clear hS hR hdone MF nI KN HN HT H2
   obtain rfl:=HQ.out
   go_wp2_with fail
   go_ret
   exact⟨rfl,HZ.out.av⟩
end Go.Proofs.YtkpbpecikibohaaGreatDoor
