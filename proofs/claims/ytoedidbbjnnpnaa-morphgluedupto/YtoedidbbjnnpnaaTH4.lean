/-
  Rows of formulas in memory; tables of the program's and of the document's; what a call leaves as it was. No condition.
-/
import Derived.Test.YtoedidbbjnnpnaaProg
import Derived.Test.YtoedidbbjnnpnaaTH1
import Derived.WalkKit
import Derived.WalkLawsBesides
import Derived.WalkSpells
import Derived.ProofKit
import Derived.BigQuiet
import Derived.Laws.RangeAny
import Derived.Maps.OwnSet
import Derived.Maps.AppendAt
import Derived.DeepKeys4
import Derived.Deep.RegionLaw
namespace Go.Proofs.Ytoedidbbjnnpnaa
open Go.RowKit Go.Maps
open Fm (Nd)
theorem ret_int {k:IntKind} {a b:Int} (h:a=b):Ending.returned (.int k a)=.returned (.int k b):=by rw [h]
theorem val_int {k:IntKind} {a b:Int} (h:a=b):Value.int k a=.int k b:=by rw [h]
theorem ret_bool {a b:Bool} (h:a=b):Ending.returned (.bool a)=.returned (.bool b):=by rw [h]
theorem below_alloc (w:World) (o:Obj):Below w.heap.size w (w.alloc o):=(Below.refl _ _).alloc (Nat.le_refl _) _
theorem lt_of_block {w:World} {g:Nat} {o:Obj} (h:w.heap[g]?=some o):g<w.heap.size:=(Array.getElem?_eq_some_iff.1 h).1
theorem laidOut:laidOutB Try.prog=true:=by kernel_rfl
def ndC (n:Nd):List Value:=[.int .i64 n.k,.string n.s,.int .i64 n.l,.int .i64 n.r]
def ndV (n:Nd):Value:=.agg #[.int .i64 n.k,.string n.s,.int .i64 n.l,.int .i64 n.r]
def cellsOf (t:List Nd):List Value:=t.flatMap ndC
theorem ndC_one (n:Nd):∀ u ∈ ndC n,u.oneCell'=true:=by
 intro u hu
 simp only [ndC,List.mem_cons,List.not_mem_nil,or_false] at hu
 rcases hu with rfl | rfl | rfl | rfl <;> rfl
theorem cellsOf_snoc (t:List Nd) (n:Nd):cellsOf (t ++ [n])=cellsOf t ++ ndC n:=by simp [cellsOf]
theorem cellsOf_len (t:List Nd):(cellsOf t).length=t.length * 4:=by
 induction t with
 | nil=>rfl
 | cons n r ih=>show (ndC n ++ cellsOf r).length=_;rw [List.length_append,ih,List.length_cons];show 4+_=_;omega
theorem cellsOf_at:∀ (t:List Nd) (k j:Nat) (hk:k<t.length),j<4→(cellsOf t)[k * 4+j]?=(ndC t[k])[j]?
 | [],k,j,hk,_=>absurd hk (by simp)
 | n :: t,0,j,hk,hj=>by
  show (ndC n ++ cellsOf t)[0 * 4+j]?=_
  rw [List.getElem?_append_left (by show 0 * 4+j<4;omega),Nat.zero_mul,Nat.zero_add]
  rfl
 | n :: t,k+1,j,hk,hj=>by
  have hl:(ndC n).length=4:=rfl
  show (ndC n ++ cellsOf t)[(k+1) * 4+j]?=_
  rw [List.getElem?_append_right (by rw [hl];omega),hl,show (k+1) * 4+j - 4=k * 4+j by omega]
  rw [cellsOf_at t k j (by simpa using hk) hj]
  rfl
structure At4 (w:World) (b o:Nat) (n:Nd):Prop where
 c0:w.cell? ⟨b,o,none⟩=some (.int .i64 n.k)
 c1:w.cell? ⟨b,o+1,none⟩=some (.string n.s)
 c2:w.cell? ⟨b,o+2,none⟩=some (.int .i64 n.l)
 c3:w.cell? ⟨b,o+3,none⟩=some (.int .i64 n.r)
def IsR (w:World) (v:Value) (t:List Nd):Prop :=
 ∃ p c,v=.slice p t.length c∧t.length≤c∧c≤9223372036854775807∧(0<t.length→∃ b o,p=some ⟨b,o,none⟩∧∀ k (hk:k<t.length),At4 w b (o+k * 4) t[k])
def Rw (w:World) (v:Value) (t:List Nd):Prop :=
 (v=.slice none 0 0∧t=[])∨∃ g cap cur,v=.slice (some ⟨g,0,none⟩) t.length cap∧w.heap[g]?=some (.cells cur 116 (0,0))∧t.length≤cap∧cap≤maxLen∧cap * 4≤cur.size∧cur.toList.take (t.length * 4)=cellsOf t
theorem rw_nil (w:World):Rw w (.slice none 0 0) []:=Or.inl ⟨rfl,rfl⟩
theorem Rw.isR {w:World} {v:Value} {t:List Nd} (h:Rw w v t):IsR w v t:=by
 rcases h with ⟨rfl,rfl⟩ | ⟨g,cap,cur,rfl,hh,h1,h2,h3,h4⟩
 ·exact ⟨none,0,rfl,by simp,by omega,fun hp=>by simp at hp⟩
 ·refine ⟨_,cap,rfl,h1,by unfold maxLen at h2;omega,fun _=>⟨g,0,rfl,fun k hk => ?_⟩⟩
  have hc:∀ j,j<4→w.cell? ⟨g,k * 4+j,none⟩=(ndC t[k])[j]?:=fun j hj=>by
   rw [cell_of_row w g _ cur _ _ hh,← cellsOf_at t k j hk hj,← h4,List.getElem?_take,if_pos (by omega)]
   simp
  rw [Nat.zero_add]
  exact ⟨hc 0 (by omega),hc 1 (by omega),hc 2 (by omega),hc 3 (by omega)⟩
theorem Rw.lt {w:World} {v:Value} {t:List Nd} (h:Rw w v t):∀ k,v.ownBlock=some k→k<w.heap.size∧∃ cur,w.heap[k]?=some (.cells cur 116 (0,0)):=by
 intro k hk
 rcases h with ⟨rfl,rfl⟩ | ⟨g,cap,cur,rfl,hh,_⟩
 ·cases hk
 ·obtain rfl:g=k:=Option.some.inj hk
  exact ⟨lt_of_block hh,cur,hh⟩
theorem Rw.keep {w w':World} {v:Value} {t:List Nd} (h:Rw w v t) (hk:∀ k,v.ownBlock=some k→w'.heap[k]?=w.heap[k]?):Rw w' v t:=by
 rcases h with ⟨rfl,rfl⟩ | ⟨g,cap,cur,rfl,hh,r⟩
 ·exact Or.inl ⟨rfl,rfl⟩
 ·exact Or.inr ⟨g,cap,cur,rfl,(hk g rfl).trans hh,r⟩
theorem IsR.later {w w':World} {v:Value} {t:List Nd} (h:IsR w v t) (hb:Below w.heap.size w w'):IsR w' v t:=by
 obtain ⟨p,c,hv,h1,h2,h3⟩:=h
 refine ⟨p,c,hv,h1,h2,fun hp => ?_⟩
 obtain ⟨b,o,hbo,hc⟩:=h3 hp
 refine ⟨b,o,hbo,fun k hk => ?_⟩
 have h:=hc k hk
 have hlt:b<w.heap.size:=World.block_lt_of_cell? w _ h.c0
 exact ⟨(hb.cell (p:=⟨b,_,none⟩) hlt).trans h.c0,(hb.cell (p:=⟨b,_,none⟩) hlt).trans h.c1,(hb.cell (p:=⟨b,_,none⟩) hlt).trans h.c2,(hb.cell (p:=⟨b,_,none⟩) hlt).trans h.c3⟩
structure Kp (S:Nat→Prop) (w w':World):Prop where
 os:w'.os=w.os
 tape:w'.tape=w.tape
 output:w'.output=w.output
 size:w.heap.size≤w'.heap.size
 block:∀ k,k<w.heap.size→¬ S k→w'.heap[k]?=w.heap[k]?
theorem Kp.refl (S:Nat→Prop) (w:World):Kp S w w:=⟨rfl,rfl,rfl,Nat.le_refl _,fun _ _ _=>rfl⟩
theorem Kp.of_below {S:Nat→Prop} {w w':World} (h:Below w.heap.size w w'):Kp S w w':=⟨h.os,h.tape,h.output,h.size,fun k hk _=>h.block k hk⟩
theorem Kp.trans {S S':Nat→Prop} {a b c:World} (h:Kp S a b) (k:Kp S' b c) (hS:∀ i,S' i→S i∨a.heap.size≤i):Kp S a c :=
 ⟨k.os.trans h.os,k.tape.trans h.tape,k.output.trans h.output,Nat.le_trans h.size k.size,fun i hi hn=>(k.block i (Nat.lt_of_lt_of_le hi h.size) (fun h'=>by rcases hS i h' with h1 | h1;exact hn h1;omega)).trans (h.block i hi hn)⟩
theorem Kp.below {S:Nat→Prop} {w w':World} {B:Nat} (h:Kp S w w') (hB:B≤w.heap.size) (hS:∀ k,S k→B≤k):Below B w w' :=
 ⟨h.os,h.tape,h.output,h.size,fun k hk=>h.block k (by omega) (fun h'=>by have:=hS k h';omega)⟩
theorem Kp.drew {S:Nat→Prop} {w w':World} (h:Kp S w w'):Kp S w w'.drew:=⟨h.os,h.tape,h.output,h.size,h.block⟩
def Lies (H:Nat) (v v':Value):Prop:=∀ k,v'.ownBlock=some k→v.ownBlock=some k∨H≤k
theorem Lies.refl (H:Nat) (v:Value):Lies H v v:=fun _ h=>Or.inl h
theorem Lies.trans {H H':Nat} {a b c:Value} (h:Lies H a b) (k:Lies H' b c) (hH:H≤H'):Lies H a c:=fun i hi=>by
 rcases k i hi with h1 | h1
 ·exact h i h1
 ·exact Or.inr (by omega)
/-! ### keys -/
def kl (n:Nd):Lit:=.string (keyBytes [.int .i64 n.k,.string n.s.data.toList,.int .i64 n.l,.int .i64 n.r])
theorem law:Keyed Try.prog 116:=Keyed.of_law (deep_law_laid (m:=2) laidOut (by omega) (of_decide_eq_true (by kernel_rfl)) (by kernel_rfl) (by kernel_rfl))
theorem wf64 {x:Int} (h:Fm.i64 x):(Lit.int .i64 x).wf=true:=WalkArith.wf_i64 (by have:=h.1;have:=h.2;omega)
theorem cells_node:Try.prog.cellsOf 116=4:=by kernel_rfl
theorem cells_kind:Try.prog.cellsOf 114=1:=by kernel_rfl
theorem cells_int:Try.prog.cellsOf 3=1:=by kernel_rfl
theorem cells_str:Try.prog.cellsOf 9=1:=by kernel_rfl
theorem keyLits_nd (d:Nat) {n:Nd} (h0:(Lit.int .i64 n.k).wf=true) (h1:n.s.size≤maxLen) (h2:(Lit.int .i64 n.l).wf=true) (h3:(Lit.int .i64 n.r).wf=true) :
 Try.prog.keyLits (d+1+1) 116 [.int .i64 n.k,.string n.s,.int .i64 n.l,.int .i64 n.r]=some [.int .i64 n.k,.string n.s.data.toList,.int .i64 n.l,.int .i64 n.r]:=by
 simp [Program.keyLits,Try.underlying116,Try.underlying114,Try.underlying9,Try.underlying3,cells_node,cells_kind,cells_int,cells_str,h0,h1,h2,h3]
theorem key_nd {n:Nd} (h:Fm.good n):keyOf Try.prog 116 (ndV n)=some (kl n):=by
 have h0:=wf64 h.1
 have h2:=wf64 h.2.2.1
 have h3:=wf64 h.2.2.2
 have h1:n.s.size≤maxLen:=by have:=h.2.1;unfold maxLen;omega
 have hts:Try.prog.types.size+1=150+1+1:=by kernel_rfl
 have hkt:Try.prog.keyType 116=true:=by kernel_rfl
 unfold keyOf
 simp only [Try.underlying116,hkt,Bool.true_and]
 rw [if_pos (by simp [Value.formed,ndV,Try.underlying116,cells_node])]
 rw [hts]
 show (Try.prog.keyLits (150+1+1) 116 [.int .i64 n.k,.string n.s,.int .i64 n.l,.int .i64 n.r]).map _=_
 rw [keyLits_nd 150 h0 h1 h2 h3]
 rfl
theorem key_inj {a b:Nd} (ha:Fm.good a) (hb:Fm.good b) (h:kl a=kl b):a=b:=by
 have e:=law.inj (key_nd ha) (h ▸ key_nd hb)
 unfold ndV at e
 obtain ⟨k,s,l,r⟩:=a
 obtain ⟨k',s',l',r'⟩:=b
 simp at e
 obtain ⟨rfl,rfl,rfl,rfl⟩:=e
 rfl
end Go.Proofs.Ytoedidbbjnnpnaa
/-
  Tables of the program's and of the document's in memory, what stays of them, and append onto a table's slice. No condition.
-/
namespace Go.Proofs.Ytoedidbbjnnpnaa
open Go.RowKit Go.Maps
open Fm (Nd)
structure Tied (D:DataW Unit) (t:List Nd):Prop where
 map:IsMap D
 tidy:Tidy D
 size:Maps.size D=t.length
 has:∀ n,Fm.good n→Maps.has D (kl n)=decide (n ∈ t)
 num:∀ n,Fm.good n→n ∈ t→∀ z,D.atKey (kl n) z=.lit (.int .i64 (t.idxOf n:Int))
theorem kl_key {n:Nd} (h:Fm.good n):WideAt.IsKeyLit (kl n):=law.key (key_nd h)
theorem Tied.put {D:DataW Unit} {t:List Nd} (h:Tied D t) {n:Nd} (hn:Fm.good n) (hm:n ∉ t):Tied (D.put (kl n) (.lit (.int .i64 (t.length:Int)))) (t ++ [n]):=by
 have hk:=kl_key hn
 have hh:Maps.has D (kl n)=false:=by rw [h.has n hn];simp [hm]
 refine ⟨h.map.put _ _,h.tidy.put hk _,?_,fun x hx => ?_,fun x hx hmem z => ?_⟩
 ·rw [size_put h.tidy,hh,h.size];simp
 ·by_cases e:x=n
  ·subst e
   rw [has_put_same h.map hk]
   simp
  ·rw [has_put_other (fun e'=>e (key_inj hx hn e')),h.has x hx]
   simp [e]
 ·by_cases e:x=n
  ·subst e
   rw [atKey_put_same h.map hk,List.idxOf_append,if_neg hm]
   simp
  ·rw [atKey_put_other (fun e'=>e (key_inj hx hn e'))]
   have hxt:x ∈ t:=by
    rcases List.mem_append.1 hmem with h' | h'
    ·exact h'
    ·exact absurd (by simpa using h') e
   rw [h.num x hx hxt,List.idxOf_append,if_pos hxt]
structure Tr (w:World) (c:Nat) (u:Value) (t:List Nd):Prop where
 tab:w.heap[c]?=some (.cells #[u] 88 (0,0))
 row:Rw w u t
 ok:Fm.Ok t
def Fr (c:Nat) (u:Value) (k:Nat):Prop:=k=c∨u.ownBlock=some k
def AfterR (w:World) (c:Nat) (u:Value) (t':List Nd) (w':World):Prop:=∃ u',Tr w' c u' t'∧Lies w.heap.size u u'∧Kp (Fr c u) w w'
section
variable {w w':World} {b m c:Nat} {v u:Value} {t t':List Nd}
theorem Tr.c0 (h:Tr w c u t):w.cell? ⟨c,0,none⟩=some u:=by rw [cell_of_row w c 0 _ _ _ h.tab];rfl
theorem Tr.fr (h:Tr w c u t) (j:Nat):w.frozen? ⟨c,j,none⟩=false:=frozen_of_row w c j _ _ h.tab
theorem Tr.clt (h:Tr w c u t):c<w.heap.size:=lt_of_block h.tab
theorem Tr.uc (h:Tr w c u t):u.ownBlock≠some c:=by
 intro e
 obtain ⟨_,cur,hh⟩:=h.row.lt c e
 rw [h.tab] at hh
 simp at hh
theorem Tr.keep (h:Tr w c u t) (hk:∀ k,Fr c u k→w'.heap[k]?=w.heap[k]?):Tr w' c u t :=
 ⟨(hk c (Or.inl rfl)).trans h.tab,h.row.keep fun k e=>hk k (Or.inr e),h.ok⟩
theorem Tr.foot (h:Tr w c u t):∀ k,Fr c u k→k<w.heap.size:=by
 rintro k (rfl | e)
 ·exact h.clt
 ·exact (h.row.lt k e).1
theorem Tr.later (h:Tr w c u t) (hb:Below w.heap.size w w'):Tr w' c u t:=h.keep fun k hk=>hb.block k (h.foot k hk)
theorem Tr.drew (h:Tr w c u t):Tr w.drew c u t:=h.keep fun _ _=>rfl
theorem AfterR.of_below (h:Tr w c u t) (hb:Below w.heap.size w w'):AfterR w c u t w':=⟨u,h.later hb,Lies.refl _ _,Kp.of_below hb⟩
theorem AfterR.trans {w1 w2:World} {u1:Value} (h1:Lies w.heap.size u u1) (hk:Kp (Fr c u) w w1) (h2:AfterR w1 c u1 t' w2):AfterR w c u t' w2:=by
 obtain ⟨v2,ht,hl,hk2⟩:=h2
 refine ⟨v2,ht,h1.trans hl hk.size,hk.trans hk2 ?_⟩
 rintro i (e | e)
 ·exact Or.inl (Or.inl e)
 ·rcases h1 i e with h | h
  ·exact Or.inl (Or.inr h)
  ·exact Or.inr h
theorem AfterR.from_below {w1 w2:World} (h:AfterR w1 c u t' w2) (hb:Below w.heap.size w w1):AfterR w c u t' w2:=AfterR.trans (Lies.refl _ _) (Kp.of_below hb) h
end
theorem lit_newsV (w:World) (cs:Array Value) (t:TypeId) (g:Nat) (hg:g=w.heap.size):∀ j u,cs.toList[j]?=some u→(w.alloc (.cells cs t)).cell? ((⟨g,0,none⟩:Addr).add j)=some u:=by
 intro j u hu
 subst hg
 rw [Addr.add_lit,Nat.zero_add,World.cell?_alloc_new,← Array.getElem?_toList]
 exact hu
/-! ### append -/
theorem info_node:(Try.prog.info? 116).map (fun i=>(i.zero,i.size,i.bytes))=some (some (.agg #[.int .i64 0,.string ⟨#[]⟩,.int .i64 0,.int .i64 0]),4,40):=by kernel_rfl
theorem run_append_rw (w:World) (ty:TypeId) {v:Value} {t:List Nd} (hR:Rw w v t) (hl:t.length≤1048576) (n:Nd) (a:Addr) (hn:∀ j u,(ndC n)[j]?=some u→w.cell? (a.add j)=some u) :
 ∃ v' w',(Builtin.append_ #[55,55] ty #[v,.slice (some a) 1 1]).run Try.prog w=.ok v' w'∧Rw w' v' (t ++ [n])∧w.grownBy w' v.ownBlock∧Lies w.heap.size v v':=by
 obtain ⟨i,hi,hz0,hz1,hz2⟩:=info_parts info_node
 have hgen:∀ (old:Nat),old<t.length+1→∀ (row:Option Nat),
  Rw (w.drew.alloc (.cells ((cellsOf t).toArray ++ (ndC n).toArray ++ Builtin.zeroCells (Value.cells (.agg #[.int .i64 0,.string ⟨#[]⟩,.int .i64 0,.int .i64 0])) (grownCap w (t.length+1) old 116 - (t.length+1))) 116))
   (.slice (some ⟨w.heap.size,0,none⟩) (t.length+1) (grownCap w (t.length+1) old 116)) (t ++ [n]) ∧
  w.grownBy (w.drew.alloc (.cells ((cellsOf t).toArray ++ (ndC n).toArray ++ Builtin.zeroCells (Value.cells (.agg #[.int .i64 0,.string ⟨#[]⟩,.int .i64 0,.int .i64 0])) (grownCap w (t.length+1) old 116 - (t.length+1))) 116)) row:=by
  intro old ho row
  have hge:=grownCap_ge w (t.length+1) old 116
  have hcm:grownCap w (t.length+1) old 116≤maxLen:=grownCap_le_maxLen w (t.length+1) old 116 (by unfold maxLen;omega)
  refine ⟨Or.inr ⟨w.heap.size,_,_,by rw [List.length_append,List.length_singleton],heap_alloc_new w.drew _,by rw [List.length_append,List.length_singleton];exact hge,hcm,?_,?_⟩,⟨rfl,rfl,rfl,by simp,fun k hk _=>Below.heap_alloc w.drew _ k hk⟩⟩
  ·simp only [Array.size_append,List.size_toArray,size_zeroCells,cellsOf_len]
   show _≤t.length * 4+4+_ * 4
   omega
  ·simp only [Array.toList_append,List.append_assoc]
   rw [cellsOf_snoc,← List.append_assoc,List.length_append,List.length_singleton]
   have hlen:(cellsOf t ++ ndC n).length=(t.length+1) * 4:=by rw [List.length_append,cellsOf_len];show _+4=_;omega
   rw [← hlen]
   exact List.take_left
 rcases hR with ⟨rfl,rfl⟩ | ⟨g,cap,cur,rfl,hg,hnc,hcm,hcs,htake⟩
 ·have hr:=run_append_nil (P:=Try.prog) w 55 ty 116 i _ Try.underlying55 hi hz0 a 1 1 (ndC n) (by rw [hz1];rfl) hn (by omega) (by omega) (by rw [hz2];omega)
  have hgr:=hgen 0 (by omega) none
  exact ⟨_,_,hr,hgr.1,hgr.2,fun k hk=>Or.inr (by simp [Value.ownBlock] at hk;omega)⟩
 ·by_cases hroom:t.length+1≤cap
  ·have hr:=run_append_room (P:=Try.prog) w 55 ty 116 i Try.underlying55 hi g t.length cap cur hg a 1 1 (ndC n) (by rw [hz1];rfl) hn (ndC_one n) hroom (by rw [hz1];show _+4≤_;omega)
   rw [hz1] at hr
   refine ⟨_,_,hr,Or.inr ⟨g,cap,_,by rw [List.length_append,List.length_singleton],setRow_heap w g cur _ 116 _ hg,by rw [List.length_append,List.length_singleton];exact hroom,hcm,?_,?_⟩,⟨rfl,rfl,rfl,by simp,fun k _ hk=>setRow_other w g k _ (fun e=>hk (by simp [Value.ownBlock,e]))⟩,fun k hk=>Or.inl hk⟩
   ·have:(ndC n).length=4:=rfl
    simp only [List.size_toArray,List.length_append,List.length_take,List.length_drop,Array.length_toList]
    omega
   ·rw [htake,cellsOf_snoc,List.length_append,List.length_singleton]
    have hlen:(cellsOf t ++ ndC n).length=(t.length+1) * 4:=by rw [List.length_append,cellsOf_len];show _+4=_;omega
    rw [← hlen]
    exact List.take_left
  ·have holds:∀ j u,(cellsOf t)[j]?=some u→w.cell? ((⟨g,0,none⟩:Addr).add j)=some u:=by
    intro j u hu
    have hadd:(⟨g,0,none⟩:Addr).add j=⟨g,j,none⟩:=by unfold Addr.add;split <;> simp_all
    rw [hadd,cell_of_row w g j cur _ _ hg]
    rw [← htake,List.getElem?_take] at hu
    split at hu
    ·simpa using hu
    ·cases hu
   have hr:=run_append_grow (P:=Try.prog) w 55 ty 116 i _ Try.underlying55 hi hz0 ⟨g,0,none⟩ t.length cap (cellsOf t) (by rw [hz1];exact cellsOf_len t) holds a 1 1 (ndC n) (by rw [hz1];rfl) hn (by omega) (by omega) (growslice_fits (by omega) (by rw [hz2];omega))
   have hgr:=hgen cap (by omega) (some g)
   exact ⟨_,_,hr,hgr.1,hgr.2,fun k hk=>Or.inr (by simp [Value.ownBlock] at hk;omega)⟩
theorem step_append_rw {ops:Array Oper} {o:Oper} {a:Act} {w:World} {K:Act→World→Prop} {Q:Exit→Act→World→Prop} {E:Prop}
 (hg:o.guard=none) (s x:Operand) (hop:o.op=Op.call { callee:=Callee.builtin Builtin.append,args:=#[s,x],argTypes:=#[55,55] })
 (v:Value) (t:List Nd) (hs:a.eval s=v) (hR:Rw w v t) (hl:t.length≤1048576) (n:Nd) (ad:Addr) (hx:a.eval x=.slice (some ad) 1 1) (hn:∀ j u,(ndC n)[j]?=some u→w.cell? (ad.add j)=some u)
 (hK:∀ v' w',Rw w' v' (t ++ [n])→w.grownBy w' v.ownBlock→Lies w.heap.size v v'→K (a.put o.dst v') w') :
 if Region.wanted o (yielded ops a.tmps)=true then Oper.wp Try.prog o a w K Q else E:=by
 have hw:Region.wanted o (yielded ops a.tmps)=true:=by simp [Region.wanted,hg]
 rw [if_pos hw]
 obtain ⟨v',w',hrun,r1,r2,r3⟩:=run_append_rw w o.type hR hl n ad hn
 unfold Oper.wp
 simp [execOp,hop,resolve,invoke,builtin,hs,hx,hrun,Result.andThen]
 exact hK v' w' r1 r2 r3
end Go.Proofs.Ytoedidbbjnnpnaa
