/-
  The premises of all rules: what their functions answer, told plainly. For every work over a table that calls made. (Written beside genzprm.py.)
-/
import Derived.Test.YtpddfooeaecekaaDoorZPrm2
import Derived.Test.YtpddfooeaecekaaDoorZPrm3
import Derived.Test.YtpddfooeaecekaaDoorZPrm4
import Derived.Test.YtpddfooeaecekaaDoorZRef
namespace Go.Proofs.YtpddfooeaecekaaDoor
open Go.RowKit Go.Shelf Go.Maps
open Fm (Nd)
open Bt.Bs (Ok wd)
set_option linter.unusedSimpArgs false

def prmF (i : Nat) (t : List Nd) (r : List Nat) (g : Int) (m : Sh) : List SQ × List Nd × Bool := match i with
  | 2 => ([(withF (Bt.dropI r m.id) [m.a, m.b], g)], t, false)
  | 3 => ([(withF (Bt.dropI r m.id) [m.b], g)], t, false)
  | 4 => ([(Bt.dropI r m.id, g)], t, false)
  | 5 => ([(withF (Bt.dropI r m.id) [(Fm.put (Fm.put t (joinN 5 m.d m.b)).2.2 (joinN 5 m.c (Fm.put t (joinN 5 m.d m.b)).1)).1], g)], (Fm.put (Fm.put t (joinN 5 m.d m.b)).2.2 (joinN 5 m.c (Fm.put t (joinN 5 m.d m.b)).1)).2.2, ((false || ((Fm.put t (joinN 5 m.d m.b)).2.1 != 0)) || ((Fm.put (Fm.put t (joinN 5 m.d m.b)).2.2 (joinN 5 m.c (Fm.put t (joinN 5 m.d m.b)).1)).2.1 != 0)))
  | 6 => ([(withF (Bt.dropI r m.id) [(Fm.put t (joinN 5 m.c m.b)).1, (Fm.put (Fm.put t (joinN 5 m.c m.b)).2.2 (joinN 5 m.d m.b)).1], g)], (Fm.put (Fm.put t (joinN 5 m.c m.b)).2.2 (joinN 5 m.d m.b)).2.2, ((false || ((Fm.put t (joinN 5 m.c m.b)).2.1 != 0)) || ((Fm.put (Fm.put t (joinN 5 m.c m.b)).2.2 (joinN 5 m.d m.b)).2.1 != 0)))
  | 7 => ([(withF r [m.a], m.b)], t, false)
  | 8 => ([(r, m.a), (r, m.b)], t, false)
  | 9 => ([(withF (Bt.dropI r m.id) [m.a], g), (withF (Bt.dropI r m.id) [m.b], g)], t, false)
  | 10 => ([(r, m.a)], t, false)
  | 11 => ([(r, m.b)], t, false)
  | 12 => ([(withF (Bt.dropI r m.id) [(Fm.put t (joinN 5 m.d m.b)).1], m.a), (withF (Bt.dropI r m.id) [m.b], g)], (Fm.put t (joinN 5 m.d m.b)).2.2, (false || ((Fm.put t (joinN 5 m.d m.b)).2.1 != 0)))
  | _ => ([], t, false)
def SqR (sv : Value) (l : List SQ) (w : World) : Prop := (l = [] ∧ sv = .slice none 0 0) ∨ SqL sv l w
theorem pe_below {w0 w : World} {b m k : Nat} {v tv : Value} {r : List Nat} {g : Int} {t : List Nd} (hT : Tb w0 b m v t) (hW : Wk w0 k b r g tv false) (hb : Below w0.heap.size w0 w) : PE w0 w b m v k r g tv t false := ⟨⟨v, hT.later hb, Lies.refl _ _⟩, hW.later hb, Kp.of_below hb⟩
theorem prm_all (w0 : World) {b m : Nat} {v : Value} {t : List Nd} (hT : Tb w0 b m v t) {k wb : Nat} {r : List Nat} {g : Int} {tv : Value} (hW : Wk w0 k b r g tv false) (hr : Ok r) (hwb : Cl w0 wb #[.pointer (some ⟨k, 0, none⟩)] 86) (mm : Sh) (hgb : Fm.i64 mm.b) (hgc : Fm.i64 mm.c) (hgd : Fm.i64 mm.d) :
    ∀ i, i < 13 → ∃ (gf : Nat) (cs : List Value), PrmF wb i = .func (.func gf) #[] cs.toArray ∧ (∀ vs w, (callFunc gf vs).run Tryd.prog w = .ok (.enter gf vs) w) ∧ Calls Tryd.prog gf ([shV mm] ++ cs).toArray w0 fun e w' => ∃ sv, e = .returned sv ∧ SqR sv (prmF i t r g mm).1 w' ∧ PE w0 w' b m v k r g tv (prmF i t r g mm).2.1 (prmF i t r g mm).2.2 := by
  refine allLt 13 ⟨⟨⟨⟨⟨⟨⟨⟨⟨⟨⟨⟨⟨trivial, ?c0⟩, ?c1⟩, ?c2⟩, ?c3⟩, ?c4⟩, ?c5⟩, ?c6⟩, ?c7⟩, ?c8⟩, ?c9⟩, ?c10⟩, ?c11⟩, ?c12⟩
  case c0 => exact ⟨_, [], rfl, enters_of Tryd.func61 (by kernel_rfl) rfl, (prm1_any w0 mm).mono fun e w' h => ⟨_, h.1, Or.inl ⟨rfl, rfl⟩, pe_below hT hW h.2⟩⟩
  case c1 => exact ⟨_, [], rfl, enters_of Tryd.func61 (by kernel_rfl) rfl, (prm1_any w0 mm).mono fun e w' h => ⟨_, h.1, Or.inl ⟨rfl, rfl⟩, pe_below hT hW h.2⟩⟩
  case c2 => exact ⟨_, [.pointer (some ⟨wb, 0, none⟩)], rfl, enters_of Tryd.func66 (by kernel_rfl) rfl, (prm3_any w0 hT hW hr hwb mm rfl).mono fun e w' ⟨sv, h1, h2, h3⟩ => ⟨sv, h1, Or.inr h2, h3⟩⟩
  case c3 => exact ⟨_, [.pointer (some ⟨wb, 0, none⟩)], rfl, enters_of Tryd.func70 (by kernel_rfl) rfl, (prm5_any w0 hT hW hr hwb mm rfl).mono fun e w' ⟨sv, h1, h2, h3⟩ => ⟨sv, h1, Or.inr h2, h3⟩⟩
  case c4 => exact ⟨_, [.pointer (some ⟨wb, 0, none⟩)], rfl, enters_of Tryd.func71 (by kernel_rfl) rfl, (prm6_any w0 hT hW hr hwb mm rfl).mono fun e w' ⟨sv, h1, h2, h3⟩ => ⟨sv, h1, Or.inr h2, h3⟩⟩
  case c5 => exact ⟨_, [.pointer (some ⟨wb, 0, none⟩)], rfl, enters_of Tryd.func72 (by kernel_rfl) rfl, (prm7_any w0 hT hW hr hwb mm hgb hgc hgd rfl rfl rfl).mono fun e w' ⟨sv, h1, h2, h3⟩ => ⟨sv, h1, Or.inr h2, h3⟩⟩
  case c6 => exact ⟨_, [.pointer (some ⟨wb, 0, none⟩)], rfl, enters_of Tryd.func74 (by kernel_rfl) rfl, (prm8_any w0 hT hW hr hwb mm hgb hgc hgd rfl rfl rfl).mono fun e w' ⟨sv, h1, h2, h3⟩ => ⟨sv, h1, Or.inr h2, h3⟩⟩
  case c7 => exact ⟨_, [.pointer (some ⟨wb, 0, none⟩)], rfl, enters_of Tryd.func76 (by kernel_rfl) rfl, (prm9_any w0 hT hW hr hwb mm rfl).mono fun e w' ⟨sv, h1, h2, h3⟩ => ⟨sv, h1, Or.inr h2, h3⟩⟩
  case c8 => exact ⟨_, [.pointer (some ⟨wb, 0, none⟩)], rfl, enters_of Tryd.func78 (by kernel_rfl) rfl, (prm10_any w0 hT hW hr hwb mm rfl).mono fun e w' ⟨sv, h1, h2, h3⟩ => ⟨sv, h1, Or.inr h2, h3⟩⟩
  case c9 => exact ⟨_, [.pointer (some ⟨wb, 0, none⟩)], rfl, enters_of Tryd.func79 (by kernel_rfl) rfl, (prm11_any w0 hT hW hr hwb mm rfl).mono fun e w' ⟨sv, h1, h2, h3⟩ => ⟨sv, h1, Or.inr h2, h3⟩⟩
  case c10 => exact ⟨_, [.pointer (some ⟨wb, 0, none⟩)], rfl, enters_of Tryd.func80 (by kernel_rfl) rfl, (prm12_any w0 hT hW hr hwb mm rfl).mono fun e w' ⟨sv, h1, h2, h3⟩ => ⟨sv, h1, Or.inr h2, h3⟩⟩
  case c11 => exact ⟨_, [.pointer (some ⟨wb, 0, none⟩)], rfl, enters_of Tryd.func81 (by kernel_rfl) rfl, (prm13_any w0 hT hW hr hwb mm rfl).mono fun e w' ⟨sv, h1, h2, h3⟩ => ⟨sv, h1, Or.inr h2, h3⟩⟩
  case c12 => exact ⟨_, [.pointer (some ⟨wb, 0, none⟩)], rfl, enters_of Tryd.func82 (by kernel_rfl) rfl, (prm14_any w0 hT hW hr hwb mm hgb hgc hgd rfl rfl).mono fun e w' ⟨sv, h1, h2, h3⟩ => ⟨sv, h1, Or.inr h2, h3⟩⟩
theorem shp_i64 {t : List Nd} (hO : Fm.Ok t) (i : Int) : Fm.i64 (shp t i).b ∧ Fm.i64 (shp t i).c ∧ Fm.i64 (shp t i).d := by
  have hz : Fm.i64 0 := Fm.i64_small (by omega) (by omega)
  have hn : ∀ j, Fm.i64 (nodeOf t j).l ∧ Fm.i64 (nodeOf t j).r := fun j => by
    unfold nodeOf
    split
    · rename_i h
      have hh := Fm.has_iff.1 h
      have hj : j.toNat < t.length := by omega
      have e : t.getD j.toNat Fm.z = t[j.toNat] := by simp [List.getD, hj]
      rw [e]
      have := hO.gd _ (List.getElem_mem hj)
      exact ⟨this.2.2.1, this.2.2.2⟩
    · exact ⟨hz, hz⟩
  refine ⟨(hn i).2, ?_, ?_⟩
  · show Fm.i64 (if (nodeOf t i).k = 5 then (nodeOf t (nodeOf t i).l).l else 0)
    split
    · exact (hn _).1
    · exact hz
  · show Fm.i64 (if (nodeOf t i).k = 5 then (nodeOf t (nodeOf t i).l).r else 0)
    split
    · exact (hn _).2
    · exact hz
theorem prm_pre {i : Nat} {t : List Nd} {r : List Nat} {g : Int} {m : Sh} : ∃ u, (prmF i t r g m).2.1 = t ++ u := by
  have p1 : ∀ (t : List Nd) (n : Nd), ∃ u, (Fm.put t n).2.2 = t ++ u := fun t n => (Fm.put_len t n).2
  have p2 : ∀ (t : List Nd) (n n2 : Nd), ∃ u, (Fm.put (Fm.put t n).2.2 n2).2.2 = t ++ u := fun t n n2 => by
    obtain ⟨u, hu⟩ := p1 t n
    obtain ⟨u2, hu2⟩ := p1 (Fm.put t n).2.2 n2
    exact ⟨u ++ u2, by rw [hu2, hu, List.append_assoc]⟩
  unfold prmF
  split
  case h_4 => exact p2 t _ _
  case h_5 => exact p2 t _ _
  case h_11 => exact p1 t _
  all_goals exact ⟨[], by simp⟩
end Go.Proofs.YtpddfooeaecekaaDoor
