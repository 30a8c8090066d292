/-
  The calls Atoms and Signs. For every table that calls made, every number.
-/
import Derived.Test.YthdcppkohalkmaaGreatMName
namespace Go.Proofs.YthdcppkohalkmaaGreat
open Go.RowKit Go.Maps Go.Sort Go.Lib
open Fm (Nd)

section
variable {b m : Nat} {v : Value} {t : List Nd}
theorem field0 (w : World) (a b' : Int) : (Instr.field 80 (.agg #[.int .i64 a, .int .i64 b']) 0).run Tryz.prog w = .ok (.int .i64 a) w := by kernel_rfl
theorem field1 (w : World) (a b' : Int) : (Instr.field 80 (.agg #[.int .i64 a, .int .i64 b']) 1).run Tryz.prog w = .ok (.int .i64 b') w := by kernel_rfl
/-- A function value in a box that tells the counts of rows. -/
structure Stb (w : World) (Bs N : Nat) (c : Ms.C) : Prop where
  ex : ∃ B M n, w.cell? ⟨Bs, 0, none⟩ = some (.func (.func 76) #[] #[.pointer (some ⟨B, 0, none⟩)]) ∧ w.cell? ⟨B, 0, none⟩ = some (.map (some M)) ∧ Mc w M n N c
theorem Stb.later {w w' : World} {Bs N : Nat} {c : Ms.C} (h : Stb w Bs N c) (hb : Below w.heap.size w w') : Stb w' Bs N c := by
  obtain ⟨B, M, n, h1, h2, h3⟩ := h.ex
  exact ⟨B, M, n, (Kp.of_below (S := fun _ => False) hb).cell h1 (fun h => h), (Kp.of_below (S := fun _ => False) hb).cell h2 (fun h => h), h3.later hb⟩
theorem gtr_dec (x : Int) : (x > 0 : Bool) = decide (0 < x) := rfl
set_option maxHeartbeats 1000000 in
theorem wants_all (w : World) (N : Nat) : Wants w 49 #[] N (fun _ => true) := by
  intro w' _ j _
  show Calls Tryz.prog 49 #[.int .i64 (j : Int)] w' _
  go_enter Tryz.func49, Tryz.ntmps49
  go_wp2
  go_ret
  exact ⟨rfl, Below.refl _ _⟩
set_option maxRecDepth 100000 in
set_option maxHeartbeats 1000000 in
theorem wants_pos (w : World) {Bs N : Nat} {c : Ms.C} (h : Stb w Bs N c) (hN : N ≤ 1024) : Wants w 51 #[.pointer (some ⟨Bs, 0, none⟩)] N (fun j => decide (0 < (c j).1)) := by
  intro w' hb j hj
  obtain ⟨B, M, n, h1, h2, h3⟩ := (h.later hb).ex
  have hf0 := fun w => field0 w (c j).1 (c j).2
  have hf1 := fun w => field1 w (c j).1 (c j).2
  have K := show Hid (Calls Tryz.prog 76 #[.int .i64 (j : Int), .pointer (some ⟨B, 0, none⟩)] w' fun e w'' => e = .returned (.agg #[.int .i64 (c j).1, .int .i64 (c j).2]) ∧ Below w'.heap.size w' w'') from stands_any w' h2 h3 hN j hj
  clear h2 h3 h hb
  show Calls Tryz.prog 51 #[.int .i64 (j : Int), .pointer (some ⟨Bs, 0, none⟩)] w' _
  go_enter Tryz.func51, Tryz.ntmps51
  go_wp2_with fail
  refine K.out.mono ?_
  rintro e w2 ⟨rfl, hb2⟩
  have HB := show Hid (Below w'.heap.size w' w2) from hb2
  clear hb2 K h1
  go_wp2_with fail
  go_ret
  exact ⟨by first | rfl | simp, HB.out⟩
set_option maxRecDepth 100000 in
set_option maxHeartbeats 1000000 in
theorem wants_neg (w : World) {Bs N : Nat} {c : Ms.C} (h : Stb w Bs N c) (hN : N ≤ 1024) : Wants w 52 #[.pointer (some ⟨Bs, 0, none⟩)] N (fun j => decide (0 < (c j).2)) := by
  intro w' hb j hj
  obtain ⟨B, M, n, h1, h2, h3⟩ := (h.later hb).ex
  have hf0 := fun w => field0 w (c j).1 (c j).2
  have hf1 := fun w => field1 w (c j).1 (c j).2
  have K := show Hid (Calls Tryz.prog 76 #[.int .i64 (j : Int), .pointer (some ⟨B, 0, none⟩)] w' fun e w'' => e = .returned (.agg #[.int .i64 (c j).1, .int .i64 (c j).2]) ∧ Below w'.heap.size w' w'') from stands_any w' h2 h3 hN j hj
  clear h2 h3 h hb
  show Calls Tryz.prog 52 #[.int .i64 (j : Int), .pointer (some ⟨Bs, 0, none⟩)] w' _
  go_enter Tryz.func52, Tryz.ntmps52
  go_wp2_with fail
  refine K.out.mono ?_
  rintro e w2 ⟨rfl, hb2⟩
  have HB := show Hid (Below w'.heap.size w' w2) from hb2
  clear hb2 K h1
  go_wp2_with fail
  go_ret
  exact ⟨by first | rfl | simp, HB.out⟩
theorem refs_one (t : List Nd) (i : Int) : refs t [i] = if Fm.has t i then 0 else 31 := by unfold refs; simp
/-- What Signs tells: the two lists of names. -/
def posN (t : List Nd) (id : Nat) : List (List UInt8) := namesS t (fun j => decide (0 < (Ms.plc t id j).1)) (Fm.below t id)
def negN (t : List Nd) (id : Nat) : List (List UInt8) := namesS t (fun j => decide (0 < (Ms.plc t id j).2)) (Fm.below t id)
set_option maxRecDepth 100000 in
set_option maxHeartbeats 2000000 in
theorem signs_in (w : World) (hT : Tb w b m v t) (id : Nat) (hid : id < t.length) :
    Calls Tryz.prog 23 #[.pointer (some ⟨b, 0, none⟩), .int .i64 (id : Int)] w fun e w' => ∃ q c q2 c2 w1, e = .returned (.tuple #[.slice q (posN t id).length c, .slice q2 (negN t id).length c2, .int .i64 0]) ∧ w.heap.size ≤ w1 ∧ w'.ownsRow w.heap.size 9 1 (.slice q (posN t id).length c) (posN t id).length ((posN t id).map encStr) ∧ (∀ k, Value.ownBlock (.slice q (posN t id).length c) = some k → k < w1) ∧ w'.ownsRow w1 9 1 (.slice q2 (negN t id).length c2) (negN t id).length ((negN t id).map encStr) ∧ Below w.heap.size w w' := by
  have hlen := hT.ok.len
  have hhas : Fm.has t (id : Int) = true := Fm.has_iff.2 ⟨by omega, by omega⟩
  have KR := show Hid (Calls Tryz.prog 47 #[.pointer (some ⟨b, 0, none⟩), .slice (some ⟨w.heap.size, 0, none⟩) 1 1] (w.alloc (Obj.cells #[.int .i64 (id : Int)] 3)) fun e w' => e = .returned (.int .i64 0) ∧ Below w.heap.size w w') from by
    have := refused_any _ (hT.later (below_alloc w (Obj.cells #[.int .i64 (id : Int)] 3))) _ _ (isL1 w (id : Int))
    rw [refs_one, hhas] at this
    exact this.mono fun e w' ⟨he, hb⟩ => ⟨he, (below_alloc w _).trans (hb.mono (below_alloc w _).size)⟩
  have KP := show Hid (∀ w1, Below w.heap.size w w1 → Calls Tryz.prog 50 #[.pointer (some ⟨b, 0, none⟩), .int .i64 (id : Int)] w1 (Plcd w1 t.length (Ms.plc t id))) from fun w1 hb => places_any w1 (hT.later hb) id hid
  have KN := show Hid (∀ w1 g ca p, Below w.heap.size w w1 → (∀ vs w, (callFunc g vs).run Tryz.prog w = .ok (.enter g vs) w) → Wants w1 g ca t.length p → Calls Tryz.prog 48 #[.pointer (some ⟨b, 0, none⟩), .int .i64 (id : Int), .func (.func g) #[] ca] w1 (Nmd w1 (namesS t p (Fm.below t id)))) from fun w1 g ca p hb hcg hW => names_any w1 (hT.later hb) id hid g ca p hcg hW
  have HPN := show Hid (posN t id = namesS t (fun j => decide (0 < (Ms.plc t id j).1)) (Fm.below t id) ∧ negN t id = namesS t (fun j => decide (0 < (Ms.plc t id j).2)) (Fm.below t id)) from ⟨rfl, rfl⟩
  generalize posN t id = pos at *
  generalize negN t id = neg at *
  generalize Ms.plc t id = c at *
  clear hhas
  clear hT
  go_enter Tryz.func23, Tryz.ntmps23
  go_wp2_with fail
  refine KR.out.mono ?_
  rintro e w1 ⟨rfl, hb1⟩
  have KP1 := show Hid (Calls Tryz.prog 50 #[.pointer (some ⟨b, 0, none⟩), .int .i64 (id : Int)] w1 (Plcd w1 t.length c)) from KP.out w1 hb1
  have HB1 := show Hid (Below w.heap.size w w1) from hb1
  clear hb1 KR KP
  go_wp2_with fail
  refine KP1.out.mono ?_
  rintro e w2 ⟨B, M, n, rfl, hc2, hM2, hb2⟩
  obtain ⟨w3, hw3⟩ : ∃ w3, w3 = w2.alloc (Obj.cells #[.func (.func 76) #[] #[.pointer (some ⟨B, 0, none⟩)]] 77) := ⟨_, rfl⟩
  have hb23 : Below w2.heap.size w2 w3 := by rw [hw3]; exact below_alloc _ _
  have HB3 := show Hid (Below w.heap.size w w3) from (HB1.out.trans (hb2.mono HB1.out.size)).trans (hb23.mono (HB1.out.trans (hb2.mono HB1.out.size)).size)
  have HS3 := show Hid (Stb w3 w2.heap.size t.length c) from ⟨B, M, n, by rw [hw3]; exact cell_newE _ _ rfl _ _, (Kp.of_below (S := fun _ => False) hb23).cell hc2 (fun h => h), hM2.later hb23⟩
  have K1 := show Hid (Calls Tryz.prog 48 #[.pointer (some ⟨b, 0, none⟩), .int .i64 (id : Int), .func (.func 51) #[] #[.pointer (some ⟨w2.heap.size, 0, none⟩)]] w3 (Nmd w3 pos)) from by
    rw [HPN.out.1]
    exact KN.out w3 _ _ _ HB3.out (fun _ _ => Tryz.call51 _ _) (wants_pos w3 HS3.out hlen)
  clear hc2 hM2 hb2 hb23 KP1 HB1
  go_wp2_with fail
  rw [← hw3]
  refine K1.out.mono ?_
  rintro e w4 ⟨q4, c4, rfl, hO4, hb4⟩
  have HB4 := show Hid (Below w.heap.size w w4) from HB3.out.trans (hb4.mono HB3.out.size)
  have K2 := show Hid (Calls Tryz.prog 48 #[.pointer (some ⟨b, 0, none⟩), .int .i64 (id : Int), .func (.func 52) #[] #[.pointer (some ⟨w2.heap.size, 0, none⟩)]] w4 (Nmd w4 neg)) from by
    rw [HPN.out.2]
    exact KN.out w4 _ _ _ HB4.out (fun _ _ => Tryz.call52 _ _) (wants_neg w4 (HS3.out.later hb4) hlen)
  have HO4 := show Hid (w4.ownsRow w3.heap.size 9 1 (.slice q4 pos.length c4) pos.length (pos.map encStr)) from hO4
  have hs3 := HB3.out.size
  clear hO4 hb4 K1 hw3 HS3 KN
  go_wp2_with fail
  refine K2.out.mono ?_
  rintro e w5 ⟨q5, c5, rfl, hO5, hb5⟩
  have HE := show Hid (w5.ownsRow w.heap.size 9 1 (.slice q4 pos.length c4) pos.length (pos.map encStr) ∧ w5.ownsRow w4.heap.size 9 1 (.slice q5 neg.length c5) neg.length (neg.map encStr) ∧ Below w.heap.size w w5) from ⟨own_base (own_later HO4.out hb5) hs3, hO5, HB4.out.trans (hb5.mono HB4.out.size)⟩
  clear hO5 hb5 K2
  go_wp2_with fail
  refine bodyPost_ret (results_three rfl _ _ ()) rfl ?_
  exact ⟨q4, c4, q5, c5, w4.heap.size, rfl, HB4.out.size, HE.out.1, fun k hk => (HO4.out.lt k hk).2, HE.out.2.1, HE.out.2.2⟩
end
end Go.Proofs.YthdcppkohalkmaaGreat
