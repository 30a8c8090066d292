/-
  The law FormulaWords, as the program walks it: true for every text that a machine can hold.
-/
import Derived.Test.YtphoeedccknihaaLHeads
import Derived.Test.YtphoeedccknihaaRWord
namespace Go.Proofs.Ytphoeedccknihaa
open Go.RowKit Go.Maps
open Fm (Nd)

theorem put_atom (s : ByteArray) : (Fm.put [] (atomN s)).2.1 = if Fm.word s.data.toList then 0 else 32 := by
  have hc : Fm.check [] (atomN s) = if Fm.word s.data.toList then 0 else 32 := rfl
  unfold Fm.put
  rw [hc]
  cases Fm.word s.data.toList <;> rfl
set_option maxRecDepth 100000 in
set_option maxHeartbeats 2000000 in
theorem words_any (w : World) (s : ByteArray) (hs : s.size ≤ 140737488351232) :
    Calls Try.prog 5 #[.string s] w fun e w' => e = .returned (.bool true) ∧ Below w.heap.size w w' := by
  have KN := show Hid (Calls Try.prog 9 #[] w fun e w' => e = .returned (.pointer (some ⟨w.heap.size + 1, 0, none⟩)) ∧ Tb w' (w.heap.size + 1) w.heap.size (.slice none 0 0) [] ∧ Below w.heap.size w w') from new_any w
  have K1 := show Hid (∀ (w1 : World) (v : Value), OwnT w w1 (w.heap.size + 1) w.heap.size v [] → Calls Try.prog 18 #[.pointer (some ⟨w.heap.size + 1, 0, none⟩), .string s] w1 fun e w' => e = .returned (.tuple #[.int .i64 (Fm.put [] (atomN s)).1, .int .i64 (Fm.put [] (atomN s)).2.1]) ∧ Below w.heap.size w w') from fun w1 v h => by
    refine (atom_any w1 h.1 s hs).mono ?_
    rintro e w' ⟨rfl, ha⟩
    obtain ⟨v', h'⟩ := h.after ha
    exact ⟨rfl, h'.2.2⟩
  have KW := show Hid (∀ w' : World, Calls Try.prog 19 #[.string s] w' fun e w'' => e = .returned (.bool (Fm.word s.data.toList)) ∧ w'' = w') from fun w' => word_any w' s hs
  have KR := show Hid (∀ w' : World, Calls Try.prog 20 #[.string s] w' fun e w'' => e = .returned (.bool (Fm.word s.data.toList)) ∧ Below w'.heap.size w' w'') from fun w' => rword_any w' s hs
  have KH := show Hid (∀ w' : World, Calls Try.prog 15 #[] w' fun e w'' => e = .returned (.bool true) ∧ Below w'.heap.size w' w'') from fun w' => heads_any w'
  rw [put_atom] at K1
  generalize (Fm.put [] (atomN s)).1 = p1 at *
  generalize Fm.word s.data.toList = wd at *
  cases wd
  all_goals
    simp only [Bool.false_eq_true, if_false, if_true] at K1
    go_enter Try.func5, Try.ntmps5
    go_wp2_with fail
    refine KN.out.mono ?_
    rintro e w1 ⟨rfl, hT, hB⟩
    have H1 := show Hid (OwnT w w1 (w.heap.size + 1) w.heap.size (.slice none 0 0) []) from ⟨hT, by rintro k (e | e | e) <;> first | omega | (simp [Value.ownBlock] at e), hB⟩
    clear hT hB KN
    go_wp2_with fail
    refine (K1.out _ _ H1.out).mono ?_
    rintro e w2 ⟨rfl, hb2⟩
    have HB2 := show Hid (Below w.heap.size w w2) from hb2
    clear hb2 K1 H1
    go_wp2_with fail
    refine (KW.out _).mono ?_
    rintro e w3 ⟨rfl, hw⟩
    subst w3
    go_wp2_with fail
    refine (KR.out _).mono ?_
    rintro e w3 ⟨rfl, hb3⟩
    have HB3 := show Hid (Below w.heap.size w w3) from HB2.out.trans (hb3.mono HB2.out.size)
    clear hb3
    go_wp2_with fail
    refine (KR.out _).mono ?_
    rintro e w4 ⟨rfl, hb4⟩
    have HB4 := show Hid (Below w.heap.size w w4) from HB3.out.trans (hb4.mono HB3.out.size)
    clear hb4
    go_wp2_with fail
    refine (KH.out _).mono ?_
    rintro e w5 ⟨rfl, hb5⟩
    have HB5 := show Hid (Below w.heap.size w w5) from HB4.out.trans (hb5.mono HB4.out.size)
    clear hb5
    go_wp2_with fail
    go_ret
    exact ⟨rfl, HB5.out⟩
end Go.Proofs.Ytphoeedccknihaa
