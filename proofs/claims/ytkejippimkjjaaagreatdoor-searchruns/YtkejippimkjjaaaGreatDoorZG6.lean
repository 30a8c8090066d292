/-
  The premises' functions of the rules that ask for nothing, or only for what is left. (Behind ZPrm.)
-/
import Derived.Test.YtkejippimkjjaaaGreatDoorZG5
import Derived.Test.YtkejippimkjjaaaGreatDoorZPrm3
import Derived.Test.YtkejippimkjjaaaGreatDoorZG4
import Derived.Test.YtkejippimkjjaaaGreatDoorFG3
import Derived.Test.YtkejippimkjjaaaGreatDoorFG2
namespace Go.Proofs.YtkejippimkjjaaaGreatDoor
open Go.RowKit Go.Shelf Go.Maps
open Fm (Nd)
open Bt.Bs (Ok wd)
set_option linter.unusedSimpArgs false

theorem wpList_run {ops : Array Oper} {rest : List Oper} {o : Oper} {a : Act} {Q : Exit → Act → World → Prop} {w : World} (v : Value) (w' : World) (hg : o.guard = none) (hrun : (execOp a.eval o).run Tryz.prog w = .ok (.value v) w') (hK : wpList Tryz.prog ops Q rest (a.put o.dst v) w') : wpList Tryz.prog ops Q (o :: rest) a w := by
  refine wpList_plain hg fun K' hK' => ?_
  unfold Oper.wp
  rw [hrun, Oper.upon_value]
  exact hK' _ _ hK
set_option maxRecDepth 100000 in
set_option maxHeartbeats 1000000 in
theorem prm1_any (w0 : World) (mm : Sh) : Calls Tryz.prog 70 #[shV mm] w0 fun e w' => e = .returned (.slice none 0 0) ∧ Below w0.heap.size w0 w' := by
  unfold shV
  go_enter Tryz.func70, Tryz.ntmps70
  go_wp2_with (refine wpList_box 123 _ rfl _ rfl rfl ?_)
  intro w1 b2 hn1
  go_wp2_with fail
  go_ret
  exact ⟨rfl, hn1.bel⟩
set_option maxRecDepth 100000 in
set_option maxHeartbeats 1000000 in
theorem prm6_any (w0 : World) {b m : Nat} {v : Value} {t : List Nd} (hT : Tb w0 b m v t) {k wb : Nat} {r : List Nat} {g : Int} {tv : Value} (hW : Wk w0 k b r g tv false) (hr : Ok r) (hwb : Cl w0 wb #[.pointer (some ⟨k, 0, none⟩)] 84) (mm : Sh) {rst : List Nat} (hrst : rst = Bt.dropI r mm.id) :
    Calls Tryz.prog 80 #[shV mm, .pointer (some ⟨wb, 0, none⟩)] w0 fun e w' => ∃ sv, e = .returned sv ∧ SqL sv [(rst, g)] w' ∧ PE w0 w' b m v k r g tv t false := by
  have hrs : Ok rst := by rw [hrst]; exact dropI_okZ hr mm.id
  have KR := show Hid (∀ W : World, Below w0.heap.size w0 W → Calls Tryz.prog 77 #[.pointer (some ⟨k, 0, none⟩), .agg (shC mm)] W fun e w' => e = .returned (.agg (cellsQ rst g)) ∧ Below W.heap.size W w') from fun W h => by rw [hrst]; exact rest_any W (hW.later h) hr mm
  have HT := show Hid (Tb w0 b m v t ∧ Wk w0 k b r g tv false) from ⟨hT, hW⟩
  have HW := show Hid (∀ W : World, Below w0.heap.size w0 W → W.cell? ⟨wb, 0, none⟩ = some (.pointer (some ⟨k, 0, none⟩))) from fun W h => (hwb.later h).cell 0
  clear hT hW hwb hrst
  unfold shV
  go_enter Tryz.func80, Tryz.ntmps80
  go_wp2_with (refine wpList_box 123 _ rfl _ rfl rfl ?_)
  intro w1 b2 hn1
  have c1 := HW.out w1 hn1.bel
  have H1 := show Hid (Below w0.heap.size w0 w1 ∧ Cl w1 b2 (shC mm) 123) from ⟨hn1.bel, hn1.blk⟩
  clear hn1 HW
  go_wp2_with (refine wpList_ldw 123 _ rfl b2 rfl _ _ H1.out.2 rfl Tryz.underlying123 sizeS rfl ?_)
  refine Calls.mono (KR.out w1 H1.out.1) ?_
  rintro e w2 ⟨rfl, hb2⟩
  have hq := bq1 w2 hrs.1 g
  have H2 := show Hid (Below w0.heap.size w0 w2) from H1.out.1.trans (hb2.mono H1.out.1.size)
  clear hb2 H1 KR c1
  go_wp2_with (refine wpList_run (.slice (some ⟨w2.heap.size, 0, none⟩) 1 1) (w2.alloc (.cells (cellsQs [(rst, g)]) 27)) rfl (by simp [execOp, Act.eval, hq, Result.andThen]) ?_)
  go_ret
  have hn := new_alloc w2 (cellsQs [(rst, g)]) 27
  have hb3 := bel_new H2.out hn
  exact ⟨_, rfl, ⟨w2.heap.size, rfl, hn.blk⟩, ⟨v, HT.out.1.later hb3, Lies.refl _ _⟩, HT.out.2.later hb3, Kp.of_below hb3⟩
end Go.Proofs.YtkejippimkjjaaaGreatDoor
/-
  The premises of all rules: what their functions answer, told plainly. For every work over a table that calls made. (Written beside genzprm.py.)
-/
namespace Go.Proofs.YtkejippimkjjaaaGreatDoor
open Go.RowKit Go.Shelf Go.Maps
open Fm (Nd)
open Bt.Bs (Ok wd)
set_option linter.unusedSimpArgs false

def prmF (i : Nat) (t : List Nd) (r : List Nat) (g : Int) (m : Sh) : List SQ × List Nd × Bool := match i with
  | 2 => ([(withF (Bt.dropI r m.id) [m.a, m.b], g)], t, false)
  | 3 => ([(withF (Bt.dropI r m.id) [m.b], g)], t, false)
  | 4 => ([(Bt.dropI r m.id, g)], t, false)
  | 5 => ([(withF (Bt.dropI r m.id) [(Fm.put (Fm.put t (joinN 5 m.d m.b)).2.2 (joinN 5 m.c (Fm.put t (joinN 5 m.d m.b)).1)).1], g)], (Fm.put (Fm.put t (joinN 5 m.d m.b)).2.2 (joinN 5 m.c (Fm.put t (joinN 5 m.d m.b)).1)).2.2, ((false || ((Fm.put t (joinN 5 m.d m.b)).2.1 != 0)) || ((Fm.put (Fm.put t (joinN 5 m.d m.b)).2.2 (joinN 5 m.c (Fm.put t (joinN 5 m.d m.b)).1)).2.1 != 0)))
  | 6 => ([(withF (Bt.dropI r m.id) [(Fm.put t (joinN 5 m.c m.b)).1, (Fm.put (Fm.put t (joinN 5 m.c m.b)).2.2 (joinN 5 m.d m.b)).1], g)], (Fm.put (Fm.put t (joinN 5 m.c m.b)).2.2 (joinN 5 m.d m.b)).2.2, ((false || ((Fm.put t (joinN 5 m.c m.b)).2.1 != 0)) || ((Fm.put (Fm.put t (joinN 5 m.c m.b)).2.2 (joinN 5 m.d m.b)).2.1 != 0)))
  | 7 => ([(withF r [m.a], m.b)], t, false)
  | 8 => ([(r, m.a), (r, m.b)], t, false)
  | 9 => ([(withF (Bt.dropI r m.id) [m.a], g), (withF (Bt.dropI r m.id) [m.b], g)], t, false)
  | 10 => ([(r, m.a)], t, false)
  | 11 => ([(r, m.b)], t, false)
  | 12 => ([(withF (Bt.dropI r m.id) [(Fm.put t (joinN 5 m.d m.b)).1], m.a), (withF (Bt.dropI r m.id) [m.b], g)], (Fm.put t (joinN 5 m.d m.b)).2.2, (false || ((Fm.put t (joinN 5 m.d m.b)).2.1 != 0)))
  | _ => ([], t, false)
def SqR (sv : Value) (l : List SQ) (w : World) : Prop := (l = [] ∧ sv = .slice none 0 0) ∨ SqL sv l w
theorem pe_below {w0 w : World} {b m k : Nat} {v tv : Value} {r : List Nat} {g : Int} {t : List Nd} (hT : Tb w0 b m v t) (hW : Wk w0 k b r g tv false) (hb : Below w0.heap.size w0 w) : PE w0 w b m v k r g tv t false := ⟨⟨v, hT.later hb, Lies.refl _ _⟩, hW.later hb, Kp.of_below hb⟩
theorem prm_all (w0 : World) {b m : Nat} {v : Value} {t : List Nd} (hT : Tb w0 b m v t) {k wb : Nat} {r : List Nat} {g : Int} {tv : Value} (hW : Wk w0 k b r g tv false) (hr : Ok r) (hwb : Cl w0 wb #[.pointer (some ⟨k, 0, none⟩)] 84) (mm : Sh) (hgb : Fm.i64 mm.b) (hgc : Fm.i64 mm.c) (hgd : Fm.i64 mm.d) :
    ∀ i, i < 13 → ∃ (gf : Nat) (cs : List Value), PrmF wb i = .func (.func gf) #[] cs.toArray ∧ (∀ vs w, (callFunc gf vs).run Tryz.prog w = .ok (.enter gf vs) w) ∧ Calls Tryz.prog gf ([shV mm] ++ cs).toArray w0 fun e w' => ∃ sv, e = .returned sv ∧ SqR sv (prmF i t r g mm).1 w' ∧ PE w0 w' b m v k r g tv (prmF i t r g mm).2.1 (prmF i t r g mm).2.2 := by
  refine allLt 13 ⟨⟨⟨⟨⟨⟨⟨⟨⟨⟨⟨⟨⟨trivial, ?c0⟩, ?c1⟩, ?c2⟩, ?c3⟩, ?c4⟩, ?c5⟩, ?c6⟩, ?c7⟩, ?c8⟩, ?c9⟩, ?c10⟩, ?c11⟩, ?c12⟩
  case c0 => exact ⟨_, [], rfl, enters_of Tryz.func70 (by kernel_rfl) rfl, (prm1_any w0 mm).mono fun e w' h => ⟨_, h.1, Or.inl ⟨rfl, rfl⟩, pe_below hT hW h.2⟩⟩
  case c1 => exact ⟨_, [], rfl, enters_of Tryz.func70 (by kernel_rfl) rfl, (prm1_any w0 mm).mono fun e w' h => ⟨_, h.1, Or.inl ⟨rfl, rfl⟩, pe_below hT hW h.2⟩⟩
  case c2 => exact ⟨_, [.pointer (some ⟨wb, 0, none⟩)], rfl, enters_of Tryz.func75 (by kernel_rfl) rfl, (prm3_any w0 hT hW hr hwb mm rfl).mono fun e w' ⟨sv, h1, h2, h3⟩ => ⟨sv, h1, Or.inr h2, h3⟩⟩
  case c3 => exact ⟨_, [.pointer (some ⟨wb, 0, none⟩)], rfl, enters_of Tryz.func79 (by kernel_rfl) rfl, (prm5_any w0 hT hW hr hwb mm rfl).mono fun e w' ⟨sv, h1, h2, h3⟩ => ⟨sv, h1, Or.inr h2, h3⟩⟩
  case c4 => exact ⟨_, [.pointer (some ⟨wb, 0, none⟩)], rfl, enters_of Tryz.func80 (by kernel_rfl) rfl, (prm6_any w0 hT hW hr hwb mm rfl).mono fun e w' ⟨sv, h1, h2, h3⟩ => ⟨sv, h1, Or.inr h2, h3⟩⟩
  case c5 => exact ⟨_, [.pointer (some ⟨wb, 0, none⟩)], rfl, enters_of Tryz.func81 (by kernel_rfl) rfl, (prm7_any w0 hT hW hr hwb mm hgb hgc hgd rfl rfl rfl).mono fun e w' ⟨sv, h1, h2, h3⟩ => ⟨sv, h1, Or.inr h2, h3⟩⟩
  case c6 => exact ⟨_, [.pointer (some ⟨wb, 0, none⟩)], rfl, enters_of Tryz.func83 (by kernel_rfl) rfl, (prm8_any w0 hT hW hr hwb mm hgb hgc hgd rfl rfl rfl).mono fun e w' ⟨sv, h1, h2, h3⟩ => ⟨sv, h1, Or.inr h2, h3⟩⟩
  case c7 => exact ⟨_, [.pointer (some ⟨wb, 0, none⟩)], rfl, enters_of Tryz.func85 (by kernel_rfl) rfl, (prm9_any w0 hT hW hr hwb mm rfl).mono fun e w' ⟨sv, h1, h2, h3⟩ => ⟨sv, h1, Or.inr h2, h3⟩⟩
  case c8 => exact ⟨_, [.pointer (some ⟨wb, 0, none⟩)], rfl, enters_of Tryz.func87 (by kernel_rfl) rfl, (prm10_any w0 hT hW hr hwb mm rfl).mono fun e w' ⟨sv, h1, h2, h3⟩ => ⟨sv, h1, Or.inr h2, h3⟩⟩
  case c9 => exact ⟨_, [.pointer (some ⟨wb, 0, none⟩)], rfl, enters_of Tryz.func88 (by kernel_rfl) rfl, (prm11_any w0 hT hW hr hwb mm rfl).mono fun e w' ⟨sv, h1, h2, h3⟩ => ⟨sv, h1, Or.inr h2, h3⟩⟩
  case c10 => exact ⟨_, [.pointer (some ⟨wb, 0, none⟩)], rfl, enters_of Tryz.func89 (by kernel_rfl) rfl, (prm12_any w0 hT hW hr hwb mm rfl).mono fun e w' ⟨sv, h1, h2, h3⟩ => ⟨sv, h1, Or.inr h2, h3⟩⟩
  case c11 => exact ⟨_, [.pointer (some ⟨wb, 0, none⟩)], rfl, enters_of Tryz.func90 (by kernel_rfl) rfl, (prm13_any w0 hT hW hr hwb mm rfl).mono fun e w' ⟨sv, h1, h2, h3⟩ => ⟨sv, h1, Or.inr h2, h3⟩⟩
  case c12 => exact ⟨_, [.pointer (some ⟨wb, 0, none⟩)], rfl, enters_of Tryz.func91 (by kernel_rfl) rfl, (prm14_any w0 hT hW hr hwb mm hgb hgc hgd rfl rfl).mono fun e w' ⟨sv, h1, h2, h3⟩ => ⟨sv, h1, Or.inr h2, h3⟩⟩
theorem shp_i64 {t : List Nd} (hO : Fm.Ok t) (i : Int) : Fm.i64 (shp t i).b ∧ Fm.i64 (shp t i).c ∧ Fm.i64 (shp t i).d := by
  have hz : Fm.i64 0 := Fm.i64_small (by omega) (by omega)
  have hn : ∀ j, Fm.i64 (nodeOf t j).l ∧ Fm.i64 (nodeOf t j).r := fun j => by
    unfold nodeOf
    split
    · rename_i h
      have hh := Fm.has_iff.1 h
      have hj : j.toNat < t.length := by omega
      have e : t.getD j.toNat Fm.z = t[j.toNat] := by simp [List.getD, hj]
      rw [e]
      have := hO.gd _ (List.getElem_mem hj)
      exact ⟨this.2.2.1, this.2.2.2⟩
    · exact ⟨hz, hz⟩
  refine ⟨(hn i).2, ?_, ?_⟩
  · show Fm.i64 (if (nodeOf t i).k = 5 then (nodeOf t (nodeOf t i).l).l else 0)
    split
    · exact (hn _).1
    · exact hz
  · show Fm.i64 (if (nodeOf t i).k = 5 then (nodeOf t (nodeOf t i).l).r else 0)
    split
    · exact (hn _).2
    · exact hz
theorem prm_pre {i : Nat} {t : List Nd} {r : List Nat} {g : Int} {m : Sh} : ∃ u, (prmF i t r g m).2.1 = t ++ u := by
  have p1 : ∀ (t : List Nd) (n : Nd), ∃ u, (Fm.put t n).2.2 = t ++ u := fun t n => (Fm.put_len t n).2
  have p2 : ∀ (t : List Nd) (n n2 : Nd), ∃ u, (Fm.put (Fm.put t n).2.2 n2).2.2 = t ++ u := fun t n n2 => by
    obtain ⟨u, hu⟩ := p1 t n
    obtain ⟨u2, hu2⟩ := p1 (Fm.put t n).2.2 n2
    exact ⟨u ++ u2, by rw [hu2, hu, List.append_assoc]⟩
  unfold prmF
  split
  case h_4 => exact p2 t _ _
  case h_5 => exact p2 t _ _
  case h_11 => exact p1 t _
  all_goals exact ⟨[], by simp⟩
end Go.Proofs.YtkejippimkjjaaaGreatDoor
/-
  The call Premises: for every table that calls made, every sequent, every number of a rule and of a formula. No other condition than that the table of TrailingZeros stands.
-/
namespace Go.Proofs.YtkejippimkjjaaaGreatDoor
open Go.RowKit Go.Shelf Go.Maps
open Fm (Nd)
open Bt.Bs (Ok wd)
set_option linter.unusedSimpArgs false

def premF (t : List Nd) (r : List Nat) (g : Int) (ru main : Int) : List SQ × List Nd × Int :=
  if refZ t r g ≠ 0 then ([], t, refZ t r g) else if findF t r g ru main = false then ([], t, 90)
  else if (prmF (ru - 1).toNat t r g (shp t main)).2.2 = true then ([], t, 30) else ((prmF (ru - 1).toNat t r g (shp t main)).1, (prmF (ru - 1).toNat t r g (shp t main)).2.1, 0)
theorem findF_rng {t : List Nd} {r : List Nat} {g ru main : Int} (h : findF t r g ru main = true) : (ru - 1).toNat < 13 := by
  unfold findF at h
  simp at h
  have := h.1.2
  omega
theorem cut_pre {t u : List Nd} : cutR (t ++ u) (t.length : Int) = (0, t) := by
  unfold cutR
  rw [if_pos ⟨by omega, by simp; omega⟩]
  simp
theorem pe_after {w0 w1 W : World} {b m k : Nat} {v tv : Value} {r : List Nat} {g : Int} {t' : List Nd} {fl : Bool} (h1 : Below w0.heap.size w0 w1) (hk : w0.heap.size ≤ k) (h : PE w1 W b m v k r g tv t' fl) : ∃ v', Tb W b m v' t' ∧ Lies w0.heap.size v v' ∧ Kp (Ft b m v) w0 W := by
  obtain ⟨v', h2, h3⟩ := h.tb
  refine ⟨v', h2, fun i hi => ?_, (Kp.of_below (S := Ft b m v) h1).trans h.kp fun i hi => ?_⟩
  · rcases h3 i hi with e | e
    · exact Or.inl e
    · exact Or.inr (Nat.le_trans h1.size e)
  · rcases hi with e | e
    · exact Or.inl e
    · exact Or.inr (by omega)
theorem c3_form {w : World} {k b T wb : Nat} {r : List Nat} {g : Int} {L : List T3} (h : Made w k b T wb r g L) {i : Nat} (hi : i < 13) : ∃ n fv, (c3 (L.getD i t30)).toArray = #[.int .i64 n, fv, PrmF wb i] := by
  have hl : i < L.length := by rw [h.len]; exact hi
  have e : L.getD i t30 = L[i] := by simp [List.getD, hl]
  exact ⟨_, _, by rw [e, ← h.prm i hl]; rfl⟩
set_option maxRecDepth 100000 in
set_option maxHeartbeats 4000000 in
theorem prem_any (w0 : World) {b m : Nat} {v : Value} {t : List Nd} (hT : Tb w0 b m v t) (hZ : Bt.Tz w0) {r : List Nat} (hr : Ok r) (g ru main : Int) :
    Calls Tryz.prog 51 #[.pointer (some ⟨b, 0, none⟩), .agg (cellsQ r g), .int .i64 ru, .int .i64 main] w0 fun e w' => ∃ sv, e = .returned (.tuple #[sv, .int .i64 (premF t r g ru main).2.2]) ∧ SqR sv (premF t r g ru main).1 w' ∧ After w0 b m v (premF t r g ru main).2.1 w' := by
  have hl := hr.1
  have HT := show Hid (∀ W : World, Below w0.heap.size w0 W → Tb W b m v t ∧ Bt.Tz W) from fun W h => ⟨hT.later h, Bt.tz_block hZ h⟩
  have HA := show Hid (∀ W : World, Below w0.heap.size w0 W → After w0 b m v t W) from fun W h => After.of_below hT h
  have HI := show Hid (Fm.i64 (shp t main).b ∧ Fm.i64 (shp t main).c ∧ Fm.i64 (shp t main).d) from shp_i64 hT.ok main
  clear hT hZ
  obtain ⟨rq, hrq⟩ : ∃ q, q = refZ t r g := ⟨_, rfl⟩
  have HRQ := show Hid (refZ t r g = rq) from hrq.symm
  obtain ⟨ff, hff⟩ : ∃ q, q = findF t r g ru main := ⟨_, rfl⟩
  have HFF := show Hid (findF t r g ru main = ff) from hff.symm
  obtain ⟨P, hP⟩ : ∃ q, q = premF t r g ru main := ⟨_, rfl⟩
  have HP := show Hid (P = if rq ≠ 0 then ([], t, rq) else if ff = false then ([], t, 90) else if (prmF (ru - 1).toNat t r g (shp t main)).2.2 = true then ([], t, 30) else ((prmF (ru - 1).toNat t r g (shp t main)).1, (prmF (ru - 1).toNat t r g (shp t main)).2.1, 0)) from by rw [hP, hrq, hff]; rfl
  rw [← hP]
  clear hrq hff hP
  go_enter Tryz.func51, Tryz.ntmps51
  go_wp2_with (refine wpList_box 27 _ rfl _ rfl rfl ?_)
  intro w1 b5 hn1
  have H1 := show Hid (RS1 w0 w1 b5 r g) from ⟨hn1.blk, hn1.bel, hn1.ge⟩
  clear hn1
  have KR := show Hid _ from refused_any w1 (HT.out w1 H1.out.bel).1 (HT.out w1 H1.out.bel).2 hr g
  rw [HRQ.out] at KR
  go_wp2_with (refine wpList_ldQQ _ _ rfl b5 rfl H1.out.s hl rfl ?_)
  refine Calls.mono KR.out ?_
  rintro e w2 ⟨rfl, hb2⟩
  have H2 := show Hid _ from H1.out.later hb2
  clear H1 hb2 KR HRQ
  by_cases hz : rq = 0
  · subst hz
    have KW := show Hid _ from newWork_any w2 b hr g
    go_wp2_with (refine wpList_ldQQ _ _ rfl b5 rfl H2.out.s hl rfl ?_)
    refine Calls.mono KW.out ?_
    rintro e w3 ⟨k, T, wb, L, rfl, hM3, hk3, hb3⟩
    have H3 := show Hid _ from H2.out.later hb3
    have KF := show Hid _ from find_any w3 (HT.out w3 H3.out.bel).1 hM3 hr ru main
    have HM := show Hid (Made w3 k b T wb r g L ∧ w0.heap.size ≤ k) from ⟨hM3, Nat.le_trans H2.out.bel.size hk3⟩
    rw [HFF.out] at KF
    clear hM3 hk3 KW H2 hb3
    cases ff
    · obtain rfl : P = ([], t, 90) := by rw [HP.out]; rfl
      clear HP HFF
      go_wp2_with fail
      refine Calls.mono KF.out ?_
      rintro e w4 ⟨rfl, hb4⟩
      have H4 := show Hid _ from H3.out.later hb4
      clear H3 hb4 KF HM
      unfold shV
      rw [if_neg Bool.false_ne_true, if_neg Bool.false_ne_true]
      go_wp2_with (refine wpList_alloc 127 rfl zT zeroT3 rfl ?_)
      intro w5 b11 hn5
      go_wp2_with (refine wpList_alloc 123 rfl _ zeroS rfl ?_)
      intro w6 b12 hn6
      go_wp2_with (refine wpList_st 127 rfl rfl _ _ rfl b11 rfl zT rfl _ _ (Cl.new hn5.blk hn6) sizeT rfl zT_all ?_)
      intro w7 hc7 hk7
      go_wp2_with (refine wpList_st 123 rfl rfl _ _ rfl b12 rfl (shC sh0) rfl _ _ (Cl.kp hn6.blk hk7 (by have := Cl.lt hn5.blk; have := hn6.ge; omega)) sizeS rfl (shC_one sh0) ?_)
      intro w8 hc8 hk8
      go_wp2_with fail
      go_ret2
      have e5 := H4.out.bel.size; have e6 := hn5.ge; have e7 := hn6.ge; have e8 := hn5.bel.size
      exact ⟨_, rfl, Or.inl ⟨rfl, rfl⟩, HA.out _ (bel_kp (bel_kp (bel_new (bel_new H4.out.bel hn5) hn6) hk7 (by omega)) hk8 (by omega))⟩
    · have hrng := findF_rng HFF.out
      obtain ⟨n3, fv3, e3⟩ := c3_form HM.out.1 hrng
      obtain ⟨i, hi⟩ : ∃ i, i = (ru - 1).toNat := ⟨_, rfl⟩
      rw [← hi] at hrng e3 HP
      rw [← hi] at KF
      have KF2 := show Hid (Calls Tryz.prog 99 #[.pointer (some ⟨k, 0, none⟩), .int .i64 ru, .int .i64 main] w3 fun e w' => e = .returned (.tuple #[.agg #[.int .i64 n3, fv3, PrmF wb i], shV (shp t main), .bool true]) ∧ Below w3.heap.size w3 w') from by
        have := KF.out
        rw [if_pos rfl, if_pos rfl, e3] at this
        exact this
      have HCA := show Hid ((#[.int .i64 n3, fv3, PrmF wb i] : Array Value).all (·.oneCell') = true) from by rw [← e3]; exact c3_all _
      have HPR := show Hid (∀ W : World, Below w3.heap.size w3 W → ∃ (gf : Nat) (cs : List Value), PrmF wb i = .func (.func gf) #[] cs.toArray ∧ (∀ (vs : Array Value) (w : World), (callFunc gf vs).run Tryz.prog w = .ok (.enter gf vs) w) ∧ Calls Tryz.prog gf ([Value.agg (shC (shp t main))] ++ cs).toArray W fun e w' => ∃ sv, e = .returned sv ∧ SqR sv (prmF i t r g (shp t main)).1 w' ∧ PE W w' b m v k r g (.slice (some ⟨T, 0, none⟩) 13 13) (prmF i t r g (shp t main)).2.1 (prmF i t r g (shp t main)).2.2) from fun W h => prm_all W (HT.out W (H3.out.bel.trans (h.mono H3.out.bel.size))).1 (HM.out.1.wk.later h) hr (HM.out.1.wbx.later h) (shp t main) HI.out.1 HI.out.2.1 HI.out.2.2 i hrng
      have HPU := show Hid (∃ u, (prmF i t r g (shp t main)).2.1 = t ++ u) from prm_pre
      clear KF HFF hi e3 HI
      generalize shp t main = mm at *
      generalize prmF i t r g mm = X at *
      generalize PrmF wb i = pv at *
      go_wp2_with fail
      refine Calls.mono KF2.out ?_
      rintro e w4 ⟨rfl, hb4⟩
      have H4 := show Hid _ from H3.out.later hb4
      have HB4 := show Hid (Below w3.heap.size w3 w4) from hb4
      clear H3 hb4 KF2
      unfold shV
      go_wp2_with (refine wpList_alloc 127 rfl zT zeroT3 rfl ?_)
      intro w5 b11 hn5
      go_wp2_with (refine wpList_alloc 123 rfl _ zeroS rfl ?_)
      intro w6 b12 hn6
      go_wp2_with (refine wpList_st 127 rfl rfl _ _ rfl b11 rfl _ rfl _ _ (Cl.new hn5.blk hn6) sizeT rfl HCA.out ?_)
      intro w7 hc7 hk7
      go_wp2_with (refine wpList_st 123 rfl rfl _ _ rfl b12 rfl (shC mm) rfl _ _ (Cl.kp hn6.blk hk7 (by have := Cl.lt hn5.blk; have := hn6.ge; omega)) sizeS rfl (shC_one mm) ?_)
      intro w8 hc8 hk8
      have e5 := H4.out.bel.size; have e6 := hn5.ge; have e7 := hn6.ge; have e8 := hn5.bel.size
      have e9 := HB4.out.size; have e10 := Cl.lt hn5.blk
      have H8 := show Hid (Below w0.heap.size w0 w8 ∧ Below w3.heap.size w3 w8 ∧ Cl w8 b11 #[.int .i64 n3, fv3, pv] 127 ∧ Cl w8 b12 (shC mm) 123) from ⟨bel_kp (bel_kp (bel_new (bel_new H4.out.bel hn5) hn6) hk7 (by omega)) hk8 (by omega), bel_kp (bel_kp (bel_new (bel_new HB4.out hn5) hn6) hk7 (by omega)) hk8 (by omega), Cl.kp hc7 hk8 (by omega), hc8⟩
      have KLN := show Hid _ from len_any w8 (HT.out w8 H8.out.1).1
      clear H4 HB4 hn5 hn6 hc7 hk7 hc8 hk8 HCA e5 e6 e7 e8 e9 e10
      go_wp2_with fail
      refine Calls.mono KLN.out ?_
      rintro e w9 ⟨rfl, hw9⟩
      subst w9
      clear KLN
      have cpv : w8.cell? ⟨b11, 2, none⟩ = some pv := H8.out.2.2.1.cell 2
      obtain ⟨gf, cs, rfl, hcf, KP⟩ := HPR.out w8 H8.out.2.1
      have KPH := show Hid _ from KP
      clear KP HPR
      go_wp2_with (first | (refine wpList_ldw 123 _ rfl b12 rfl _ _ H8.out.2.2.2 rfl Tryz.underlying123 sizeS rfl ?_) | (refine wpList_callV rfl gf _ [.tmp 40] _ rfl [Value.agg (shC mm)] cs rfl rfl hcf ?_))
      refine Calls.mono KPH.out ?_
      rintro e w10 ⟨sv, rfl, hS, hE⟩
      have HE := show Hid _ from hE
      have HS := show Hid _ from hS
      have c19 := hE.wk.at19 hl
      clear hS hE KPH
      refine ⟨_, rfl, ?_⟩
      obtain ⟨l, t', fl⟩ := X
      simp only at HE HS HP HPU c19
      cases fl
      · obtain rfl : P = (l, t', 0) := by rw [HP.out]; rfl
        clear HP
        go_wp2_with fail
        go_ret2
        exact ⟨_, rfl, HS.out, pe_after H8.out.1 HM.out.2 HE.out⟩
      · obtain rfl : P = ([], t, 30) := by rw [HP.out]; rfl
        clear HP
        obtain ⟨u, rfl⟩ := HPU.out
        obtain ⟨v', hT', hL', hK'⟩ := pe_after H8.out.1 HM.out.2 HE.out
        have KC := show Hid _ from cut_any w10 hT' (t.length : Int)
        rw [cut_pre] at KC
        have HL := show Hid _ from And.intro hL' hK'
        clear hT' hL' hK' HE HS
        go_wp2_with fail
        refine Calls.mono KC.out ?_
        rintro e w11 ⟨rfl, hA⟩
        have HX := show Hid _ from After.trans HL.out.1 HL.out.2 hA
        clear hA KC HL
        go_wp2_with fail
        go_ret2
        exact ⟨_, rfl, Or.inl ⟨rfl, rfl⟩, HX.out⟩
  · have hzb : (rq != 0) = true := by simpa using hz
    obtain rfl : P = ([], t, rq) := by rw [HP.out, if_pos hz]
    clear hz HP
    go_wp2_with fail
    go_ret2
    exact ⟨_, rfl, Or.inl ⟨rfl, rfl⟩, HA.out _ H2.out.bel⟩
end Go.Proofs.YtkejippimkjjaaaGreatDoor
