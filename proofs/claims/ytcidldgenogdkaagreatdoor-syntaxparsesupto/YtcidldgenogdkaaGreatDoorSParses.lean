/-
  The law SyntaxParses, as the program walks it: true for every row that a machine can hold and every text of at most 2^40 bytes, where the tables stand as the program's text lays them.
-/
import Derived.Test.YtcidldgenogdkaaGreatDoorSBack
import Derived.Test.YtcidldgenogdkaaGreatDoorDParseF
namespace Go.Proofs.YtcidldgenogdkaaGreatDoor
open Go.RowKit Go.Maps
open Fm (Nd)
open Sx (Tn)

theorem Fl.afterR {w w' : World} {g c : Nat} {e l k o : Int} {u : Value} {t t' : List Nd} (h : Fl w g e l k o) (hT : Tr w c u t) (ha : AfterR w c u t' w') : Fl w' g e l k o := by
  obtain ⟨_, _, _, hK⟩ := ha
  refine (hK.block _ h.lt ?_).trans h
  unfold Fl at h
  rintro (rfl | e2)
  · rw [hT.tab] at h; simp at h
  · obtain ⟨_, cur, hh⟩ := hT.row.lt g e2
    rw [hh] at h; simp at h
set_option maxRecDepth 100000 in
set_option maxHeartbeats 4000000 in
theorem syntaxParses_any (w : World) (rv : Value) (rs : List Nd) (s : ByteArray) (hR : IsR w rv rs) (hg : ∀ n ∈ rs, Fm.good n) (hl : rs.length * 40 ≤ 140737488351232) (hv : rv = .slice none 0 0 ∨ ∃ a n c, rv = .slice (some a) n c) (hs : s.size ≤ 1099511627776) (hL : Tw.Laid w) :
    Calls Tryz.prog 3 #[rv, .string s] w fun e w' => e = .returned (.bool true) ∧ Below w.heap.size w w' := by
  have KT := show Hid (Calls Tryz.prog 8 #[rv] w fun e w' => ∃ B M v C u, e = .returned (.tuple #[.pointer (some ⟨B, 0, none⟩), .pointer (some ⟨C, 0, none⟩)]) ∧ Pair w w' B M v C u (tabOf rs) (tabOf rs)) from tables_any w rv rs hR hg hl hv
  have KP := show Hid (∀ (w1 : World) (B M C : Nat) (v u : Value) (t : List Nd), Pair w w1 B M v C u (tabOf rs) t → Calls Tryz.prog 9 #[.pointer (some ⟨B, 0, none⟩), .string s] w1 fun e w' => e = .returned (parseV (parseR s.data.toList (tabOf rs)).1) ∧ After w1 B M v (parseR s.data.toList (tabOf rs)).2 w') from fun w1 B M C v u t h => parse_any w1 h.tb s hs (hL.later h.bel)
  have KR := show Hid (∀ (w1 : World) (B M C : Nat) (v u : Value) (t : List Nd), Pair w w1 B M v C u t (tabOf rs) → Calls Tryz.prog 10 #[.pointer (some ⟨C, 0, none⟩), .string s] w1 fun e w' => e = .returned (parseV (parseR s.data.toList (tabOf rs)).1) ∧ AfterR w1 C u (parseR s.data.toList (tabOf rs)).2 w') from fun w1 B M C v u t h => dparse_any w1 h.tr s hs
  have KL := show Hid (∀ (w1 : World) (B M C : Nat) (v u : Value) (t : List Nd), Pair w w1 B M v C u t t → Calls Tryz.prog 11 #[.pointer (some ⟨B, 0, none⟩), .pointer (some ⟨C, 0, none⟩)] w1 fun e w' => e = .returned (.bool true) ∧ Below w1.heap.size w1 w') from fun w1 B M C v u t h => like_any w w1 h
  have KC := show Hid (∀ (w1 : World), Below w.heap.size w w1 → Calls Tryz.prog 12 #[.string s] w1 fun e w' => e = .returned (.int .i64 (cnt (toks s.data.toList) : Int)) ∧ Below w1.heap.size w1 w') from fun w1 hb => count_any w1 s hs (hL.later hb)
  have KD := show Hid (∀ (w1 : World), Calls Tryz.prog 13 #[.string s] w1 fun e w' => e = .returned (.int .i64 (cnt (toks s.data.toList) : Int)) ∧ Below w1.heap.size w1 w') from fun w1 => dcount_any w1 s hs
  have KH := show Hid (∀ w' : World, Below w.heap.size w w' → Calls Tryz.prog 14 #[] w' fun e w'' => e = .returned (.bool true) ∧ Below w'.heap.size w' w'') from fun w' hb => heads_any w' (hL.later hb)
  generalize parseR s.data.toList (tabOf rs) = pr at *
  generalize cnt (toks s.data.toList) = cn at *
  generalize tabOf rs = tt at *
  clear hR hg hl hL hs
  have hsl : ∃ p n cc, rv = .slice p n cc := by
    rcases hv with rfl | ⟨a, n, cc, rfl⟩
    · exact ⟨_, _, _, rfl⟩
    · exact ⟨_, _, _, rfl⟩
  obtain ⟨p, n, cc, rfl⟩ := hsl
  clear hv
  obtain ⟨⟨pa, pe, ⟨tk, tx, tn, tl, tc, to⟩⟩, t'⟩ := pr
  unfold parseV at *
  simp only at KP KR
  go_enter Tryz.func3, Tryz.ntmps3
  go_wp2_with fail
  refine KT.out.mono ?_
  rintro e w1 ⟨B, M, v, C, u, rfl, hp⟩
  have P1 := show Hid (Pair w w1 B M v C u tt tt) from hp
  clear hp KT
  go_wp2_with fail
  refine (KP.out _ _ _ _ _ _ _ P1.out).mono ?_
  rintro e w2 ⟨rfl, ha⟩
  obtain ⟨v2, h2⟩ := P1.out.stepT ha
  have hb2 : Below w2.heap.size w2 (w2.alloc (Obj.cells #[.int .i64 pe, .int .i64 tl, .int .i64 tc, .int .i64 to] 31)) := below_alloc _ _
  have P2 := show Hid (Pair w (w2.alloc (Obj.cells #[.int .i64 pe, .int .i64 tl, .int .i64 tc, .int .i64 to] 31)) B M v2 C u t' tt ∧ Fl (w2.alloc (Obj.cells #[.int .i64 pe, .int .i64 tl, .int .i64 tc, .int .i64 to] 31)) w2.heap.size pe tl tc to) from ⟨h2.later hb2, fl_new _ _ _ _ _⟩
  clear ha h2 hb2 P1 KP
  go_wp2_with fail
  refine (KR.out _ _ _ _ _ _ _ P2.out.1).mono ?_
  rintro e w3 ⟨rfl, ha⟩
  obtain ⟨u3, h3⟩ := P2.out.1.stepR ha
  have hf3 := P2.out.2.afterR P2.out.1.tr ha
  have hb3 : Below w3.heap.size w3 (w3.alloc (Obj.cells #[.int .i64 pe, .int .i64 tl, .int .i64 tc, .int .i64 to] 31)) := below_alloc _ _
  have P3 := show Hid (Pair w (w3.alloc (Obj.cells #[.int .i64 pe, .int .i64 tl, .int .i64 tc, .int .i64 to] 31)) B M v2 C u3 t' t' ∧ Fl (w3.alloc (Obj.cells #[.int .i64 pe, .int .i64 tl, .int .i64 tc, .int .i64 to] 31)) w2.heap.size pe tl tc to ∧ Fl (w3.alloc (Obj.cells #[.int .i64 pe, .int .i64 tl, .int .i64 tc, .int .i64 to] 31)) w3.heap.size pe tl tc to) from ⟨h3.later hb3, hf3.later hb3, fl_new _ _ _ _ _⟩
  clear ha h3 hb3 hf3 P2 KR
  have a0 := P3.out.2.1.c0; have a1 := P3.out.2.1.c1; have a2 := P3.out.2.1.c2; have a3 := P3.out.2.1.c3
  go_wp2_with fail
  refine (KL.out _ _ _ _ _ _ _ P3.out.1).mono ?_
  rintro e w4 ⟨rfl, hb4⟩
  have P4 := show Hid (Below w.heap.size w w4) from P3.out.1.bel.trans (hb4.mono P3.out.1.bel.size)
  clear hb4 KL a0 a1 a2 a3 P3
  go_wp2_with fail
  refine (KC.out _ P4.out).mono ?_
  rintro e w5 ⟨rfl, hb5⟩
  have P5 := show Hid (Below w.heap.size w w5) from P4.out.trans (hb5.mono P4.out.size)
  clear hb5 KC P4
  go_wp2_with fail
  refine (KD.out _).mono ?_
  rintro e w6 ⟨rfl, hb6⟩
  have P6 := show Hid (Below w.heap.size w w6) from P5.out.trans (hb6.mono P5.out.size)
  clear hb6 KD P5
  go_wp2_with fail
  refine (KH.out _ P6.out).mono ?_
  rintro e w7 ⟨rfl, hb7⟩
  have P7 := show Hid (Below w.heap.size w w7) from P6.out.trans (hb7.mono P6.out.size)
  clear hb7 KH P6
  go_wp2_with fail
  go_ret
  exact ⟨rfl, P7.out⟩
end Go.Proofs.YtcidldgenogdkaaGreatDoor
