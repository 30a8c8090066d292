/-
  The document's calls level, needs and round: for every formula of a table. No other condition.
-/
import Derived.Test.YtkmmlimekachbaaGreatDoorRG1
import Derived.Test.YtkmmlimekachbaaGreatDoorSG6
import Derived.Test.YtkmmlimekachbaaGreatDoorSG9
namespace Go.Proofs.YtkmmlimekachbaaGreatDoor
open Go.RowKit Go.Maps
open Fm (Nd)
namespace Rp
end Rp
theorem Tr.reads {w:World} {c:Nat} {u:Value} {t:List Nd} (h:Tr w c u t) (hn:0<t.length):∃ b o cp,u=.slice (some ⟨b,o,none⟩) t.length cp∧t.length≤cp∧cp≤9223372036854775807∧(∀ w',Below w.heap.size w w'→w'.cell? ⟨c,0,none⟩=some (.slice (some ⟨b,o,none⟩) t.length cp))∧∀ w',Below w.heap.size w w'→∀ k,k<t.length→At4 w' b (o+k * 4) (nodeOf t (k:Int)):=by
 obtain ⟨p,cp,rfl,h1,h2,hat⟩:=h.row.isR.at
 obtain ⟨b,o,rfl,hat2⟩:=hat hn
 refine ⟨b,o,cp,rfl,h1,h2,fun w' hb=>(h.later hb).c0,fun w' hb k hk => ?_⟩
 obtain ⟨k',e,hk',hnn⟩:=Pr.node_at (t:=t) (i:=(k:Int)) (Fm.has_iff.2 ⟨by omega,by omega⟩)
 have:k'=k:=by omega
 subst this
 rw [hnn]
 exact hat2 w' hb k' hk
theorem parts_has {t:List Nd} (hT:Fm.Ok t) {i:Int} (hi:Fm.has t i=true) (hj:Fm.jn (nodeOf t i).k=true):(Fm.has t (nodeOf t i).l=true∧(nodeOf t i).l<i)∧(Fm.has t (nodeOf t i).r=true∧(nodeOf t i).r<i):=by
 obtain ⟨k,rfl,hk,hn⟩:=Pr.node_at hi
 rw [hn] at hj ⊢
 have hp:=Fm.ok_parts hT hk hj
 exact ⟨⟨Fm.has_iff.2 ⟨hp.1.1,by omega⟩,hp.1.2⟩,Fm.has_iff.2 ⟨hp.2.1,by omega⟩,hp.2.2⟩
section
variable (w:World) {c:Nat} {u:Value} {t:List Nd}
end
end Go.Proofs.YtkmmlimekachbaaGreatDoor
/-
  The document's calls part and text: for every formula of a table whose text is not too long. No other condition.
-/
namespace Go.Proofs.YtkmmlimekachbaaGreatDoor
open Go.RowKit Go.Maps
open Fm (Nd)
namespace Rp
section
variable {t:List Nd}
theorem ok_bot (hT:Fm.Ok t) {i:Int} (hi:Fm.has t i=true) (hk:(nodeOf t i).k=2):nodeOf t i=Fm.bot:=by
 obtain ⟨k,rfl,h,hn⟩:=Pr.node_at hi
 rw [hn] at hk ⊢
 have:=Fm.check_shaped (hT.chk k h)
 unfold Fm.shaped at this
 rw [if_neg (by omega),if_pos hk] at this
 generalize t[k]=n at *
 obtain ⟨nk,ns,nl,nr⟩:=n
 simp only at hk this
 subst hk
 simp at this
 obtain ⟨⟨h1,h2⟩,h3⟩:=this
 subst h2 h3
 unfold Fm.bot
 congr
end
end Rp
end Go.Proofs.YtkmmlimekachbaaGreatDoor
/-
  The document's calls part and text: for every formula of a table whose text is not too long. No other condition.
-/
namespace Go.Proofs.YtkmmlimekachbaaGreatDoor
open Go.RowKit Go.Maps
open Fm (Nd)
section
variable (w:World) {c:Nat} {u:Value} {t:List Nd}
end
end Go.Proofs.YtkmmlimekachbaaGreatDoor
/-
  The document's call Widths: for every table. No other condition.
-/
namespace Go.Proofs.YtkmmlimekachbaaGreatDoor
open Go.RowKit Go.Maps
open Fm (Nd)
namespace Rp
end Rp
theorem Iz.other {w:World} {g n:Nat} {f:Nat→Nat} (h:Iz w g n f) {k l:Nat} (hl:l<n) (hne:l≠k) (v:Value):(w.setCell ⟨g,k,none⟩ v).cell? ⟨g,l,none⟩=some (.int .i64 (f l:Int)):=by
 rw [cell_of_row _ g l _ _ _ (heap_setCell_same w g k _ _ _ h)]
 simp [hl,Ne.symm hne]
structure Wz (w wr:World) (c n:Nat) (u:Value) (t:List Nd) (f:Nat→Nat):Prop where
 a:Iz wr w.heap.size n f
 tr:Tr wr c u t
 be:Below w.heap.size w wr
theorem Wz.later {w wr w':World} {c n:Nat} {u:Value} {t:List Nd} {f:Nat→Nat} (h:Wz w wr c n u t f) (hb:Below wr.heap.size wr w'):Wz w w' c n u t f :=
 ⟨(hb.block _ h.a.lt).trans h.a,h.tr.later hb,h.be.trans (hb.mono h.be.size)⟩
theorem nfr_int {w:World} {g c:Nat} {u:Value} {t:List Nd} {cs:Array Value} (h:w.heap[g]?=some (.cells cs 3 (0,0))) (hT:Tr w c u t):¬ Fr c u g:=by
 rintro (rfl | e)
 ·rw [hT.tab] at h;simp at h
 ·obtain ⟨_,cur,hh⟩:=hT.row.lt g e
  rw [h] at hh;simp at hh
theorem Wz.set {w wr:World} {c n:Nat} {u:Value} {t:List Nd} {f:Nat→Nat} (h:Wz w wr c n u t f) (j x:Nat):Wz w (wr.setCell ⟨w.heap.size,j,none⟩ (.int .i64 (x:Int))) c n u t (updN f j x) :=
 ⟨h.a.set j x,h.tr.keep fun k hk=>Below.heap_setCell _ _ _ _ (fun e=>nfr_int h.a h.tr (by subst e;exact hk)),h.be.setCell (Nat.le_refl _) _⟩
end Go.Proofs.YtkmmlimekachbaaGreatDoor
/-
  The document's call Widths: for every table. No other condition.
-/
namespace Go.Proofs.YtkmmlimekachbaaGreatDoor
open Go.RowKit Go.Maps
open Fm (Nd)
end Go.Proofs.YtkmmlimekachbaaGreatDoor
