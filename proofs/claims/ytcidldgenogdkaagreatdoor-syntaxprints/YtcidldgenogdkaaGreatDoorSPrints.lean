/-
  The law SyntaxPrints, as the program walks it: true for every row that a machine can hold and every number, where the tables stand as the program's text lays them.
-/
import Derived.Test.YtcidldgenogdkaaGreatDoorRPrint
import Derived.Test.YtcidldgenogdkaaGreatDoorSHeads
namespace Go.Proofs.YtcidldgenogdkaaGreatDoor
open Go.RowKit Go.Maps
open Fm (Nd)

set_option maxRecDepth 100000 in
set_option maxHeartbeats 4000000 in
theorem syntaxPrints_any (w : World) (rv : Value) (rs : List Nd) (i : Int) (hR : IsR w rv rs) (hg : ∀ n ∈ rs, Fm.good n) (hl : rs.length * 40 ≤ 140737488351232) (hv : rv = .slice none 0 0 ∨ ∃ a n c, rv = .slice (some a) n c) (hL : Tw.Laid w) :
    Calls Tryz.prog 5 #[rv, .int .i64 i] w fun e w' => e = .returned (.bool true) ∧ Below w.heap.size w w' := by
  have KT := show Hid (Calls Tryz.prog 8 #[rv] w fun e w' => ∃ B M v C u, e = .returned (.tuple #[.pointer (some ⟨B, 0, none⟩), .pointer (some ⟨C, 0, none⟩)]) ∧ Pair w w' B M v C u (tabOf rs) (tabOf rs)) from tables_any w rv rs hR hg hl hv
  have KP := show Hid (∀ (w1 : World) (B M : Nat) (v : Value), Tb w1 B M v (tabOf rs) → Calls Tryz.prog 17 #[.pointer (some ⟨B, 0, none⟩), .int .i64 i] w1 fun e w' => e = .returned (.tuple #[.string ⟨(printR (tabOf rs) i).1.toArray⟩, .int .i64 (printR (tabOf rs) i).2]) ∧ Below w1.heap.size w1 w') from fun w1 B M v h => print_any w1 h i
  have KR := show Hid (∀ (w1 : World) (C : Nat) (u : Value), Tr w1 C u (tabOf rs) → Calls Tryz.prog 18 #[.pointer (some ⟨C, 0, none⟩), .int .i64 i] w1 fun e w' => e = .returned (.tuple #[.string ⟨(printR (tabOf rs) i).1.toArray⟩, .int .i64 (printR (tabOf rs) i).2]) ∧ Below w1.heap.size w1 w') from fun w1 C u h => rprint_any w1 h i
  have KM := show Hid (∀ (w1 : World) (x : Int), Calls Tryz.prog 19 #[.int .i64 x] w1 fun e w' => e = .returned (.int .i64 x) ∧ w' = w1) from fun w1 x => num_any w1 x
  have KL := show Hid (∀ (w1 : World) (B M C : Nat) (v u : Value), Pair w w1 B M v C u (tabOf rs) (tabOf rs) → Calls Tryz.prog 11 #[.pointer (some ⟨B, 0, none⟩), .pointer (some ⟨C, 0, none⟩)] w1 fun e w' => e = .returned (.bool true) ∧ Below w1.heap.size w1 w') from fun w1 B M C v u h => like_any w w1 h
  have KH := show Hid (∀ w' : World, Below w.heap.size w w' → Calls Tryz.prog 14 #[] w' fun e w'' => e = .returned (.bool true) ∧ Below w'.heap.size w' w'') from fun w' hb => heads_any w' (hL.later hb)
  generalize printR (tabOf rs) i = pr at *
  generalize tabOf rs = tt at *
  clear hR hg hl hL
  have hsl : ∃ p n cc, rv = .slice p n cc := by
    rcases hv with rfl | ⟨a, n, cc, rfl⟩
    · exact ⟨_, _, _, rfl⟩
    · exact ⟨_, _, _, rfl⟩
  obtain ⟨p, n, cc, rfl⟩ := hsl
  clear hv
  obtain ⟨tx, ec⟩ := pr
  simp only at KP KR
  go_enter Tryz.func5, Tryz.ntmps5
  go_wp2_with fail
  refine KT.out.mono ?_
  rintro e w1 ⟨B, M, v, C, u, rfl, hp⟩
  have P1 := show Hid (Pair w w1 B M v C u tt tt) from hp
  clear hp KT
  go_wp2_with fail
  refine (KP.out _ _ _ _ P1.out.tb).mono ?_
  rintro e w2 ⟨rfl, hb2⟩
  have P2 := show Hid (Pair w w2 B M v C u tt tt) from P1.out.later hb2
  clear hb2 P1 KP
  go_wp2_with fail
  refine (KR.out _ _ _ P2.out.tr).mono ?_
  rintro e w3 ⟨rfl, hb3⟩
  have P3 := show Hid (Pair w w3 B M v C u tt tt) from P2.out.later hb3
  clear hb3 P2 KR
  go_wp2_with fail
  refine (KM.out _ _).mono ?_
  rintro e w4 ⟨rfl, hw⟩
  subst w4
  go_wp2_with fail
  refine (KL.out _ _ _ _ _ _ P3.out).mono ?_
  rintro e w5 ⟨rfl, hb5⟩
  have P5 := show Hid (Pair w w5 B M v C u tt tt) from P3.out.later hb5
  clear hb5 P3 KL
  go_wp2_with fail
  refine (KH.out _ P5.out.bel).mono ?_
  rintro e w6 ⟨rfl, hb6⟩
  have HB6 := show Hid (Below w.heap.size w w6) from P5.out.bel.trans (hb6.mono P5.out.bel.size)
  clear hb6 P5 KH
  go_wp2_with fail
  go_ret
  exact ⟨rfl, HB6.out⟩
end Go.Proofs.YtcidldgenogdkaaGreatDoor
