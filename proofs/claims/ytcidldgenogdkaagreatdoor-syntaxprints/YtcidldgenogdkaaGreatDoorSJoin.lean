/-
  The calls join, named and word of a reader: closures are made. For every list of tokens. No other condition.
-/
import Derived.Test.YtcidldgenogdkaaGreatDoorSRd
namespace Go.Proofs.YtcidldgenogdkaaGreatDoor
open Go.RowKit Go.Maps
open Fm (Nd)
open Sx (Tn T)

theorem mkFunc (fn : Fn) (first cap : Array Value) (w : World) : (Instr.makeFunc fn first cap).run Tryz.prog w = .ok (.func fn first cap) w := rfl
theorem eql_nil (w : World) : (binOp BinOp.eql 113 .nilFunc .nilFunc).run Tryz.prog w = .ok (.bool true) w := by kernel_rfl
theorem eql_fun (fn : Fn) (first cap : Array Value) (w : World) : (binOp BinOp.eql 113 (.func fn first cap) .nilFunc).run Tryz.prog w = .ok (.bool false) w := by kernel_rfl
theorem Pts.shape {w : World} {p b : Nat} : ∀ {a : T} {c : Value}, Pts w p b a c → ∃ F cap, c = .func (.func F) #[] cap
  | .bot, _, ⟨_, h, _⟩ => ⟨_, _, h⟩
  | .top, _, ⟨_, h, _⟩ => ⟨_, _, h⟩
  | .atom _, _, ⟨_, _, h, _⟩ => ⟨_, _, h⟩
  | .neg _, _, ⟨_, _, _, h, _⟩ => ⟨_, _, h⟩
  | .bin _ _ _, _, ⟨_, _, _, _, _, h, _⟩ => ⟨_, _, h⟩
  | .iff _ _, _, ⟨_, _, _, _, _, h, _⟩ => ⟨_, _, h⟩
theorem heap_new_at (w : World) (cs : Array Value) (ty : TypeId) {k : Nat} (h : k = w.heap.size) : (w.alloc (.cells cs ty)).heap[k]? = some (.cells cs ty (0, 0)) := by subst h; exact heap_alloc_new w _
/-- The closure that joins two. -/
def joinV (h : Nat) : Value := .func (.func 113) #[] #[ptrV h, ptrV (h + 1), ptrV (h + 2)]
def joinW (w : World) (c1 c2 hv : Value) : World := ((w.alloc (.cells #[c1] 113)).alloc (.cells #[c2] 113)).alloc (.cells #[hv] 156)
theorem joinW_below (w : World) (c1 c2 hv : Value) : Below w.heap.size w (joinW w c1 c2 hv) := (((Below.refl _ _).alloc (Nat.le_refl _) _).alloc (by simp) _).alloc (by simp; omega) _
theorem joinW_b1 (w : World) (c1 c2 hv : Value) : Box (joinW w c1 c2 hv) w.heap.size c1 113 :=
  (Below.heap_alloc _ _ _ (by simp; omega)).trans ((Below.heap_alloc _ _ _ (by simp)).trans (heap_alloc_new w _))
theorem joinW_b2 (w : World) (c1 c2 hv : Value) : Box (joinW w c1 c2 hv) (w.heap.size + 1) c2 113 :=
  (Below.heap_alloc _ _ _ (by simp)).trans (heap_new_at _ _ _ (by simp))
theorem joinW_b3 (w : World) (c1 c2 hv : Value) : Box (joinW w c1 c2 hv) (w.heap.size + 2) hv 156 := heap_new_at _ _ _ (by simp)
theorem joinW_bin {w : World} {p b : Nat} {k : Int} {a a2 : T} {c1 c2 : Value} (h1 : Pts w p b a c1) (h2 : Pts w p b a2 c2) : Pts (joinW w c1 c2 (howV p b k)) p b (.bin k a a2) (joinV w.heap.size) :=
  ⟨_, _, _, c1, c2, rfl, joinW_b1 _ _ _ _, joinW_b2 _ _ _ _, joinW_b3 _ _ _ _, h1.later (joinW_below _ _ _ _), h2.later (joinW_below _ _ _ _)⟩
theorem joinW_iff {w : World} {p b : Nat} {a a2 : T} {c1 c2 : Value} (h1 : Pts w p b a c1) (h2 : Pts w p b a2 c2) : Pts (joinW w c1 c2 (howV p b 0)) p b (.iff a a2) (joinV w.heap.size) :=
  ⟨_, _, _, c1, c2, rfl, joinW_b1 _ _ _ _, joinW_b2 _ _ _ _, joinW_b3 _ _ _ _, h1.later (joinW_below _ _ _ _), h2.later (joinW_below _ _ _ _)⟩
section
variable (w : World) {p b g cap : Nat} {ts : List Tn} {i n d : Nat}
set_option maxHeartbeats 400000 in
theorem join_any (f1 f2 f3 : Fn) (a1 a2 a3 p1 p2 p3 : Array Value) :
    Calls Tryz.prog 88 #[.func f1 a1 p1, .func f2 a2 p2, .func f3 a3 p3] w fun e w' => e = .returned (joinV w.heap.size) ∧ w' = joinW w (.func f1 a1 p1) (.func f2 a2 p2) (.func f3 a3 p3) := by
  have hmf := mkFunc
  go_enter Tryz.func88, Tryz.ntmps88
  go_wp2_with fail
  go_ret
  exact ⟨rfl, rfl⟩
/-- What named answers. -/
def Named (w : World) (p b : Nat) (s : ByteArray) (e : Ending) (w' : World) : Prop :=
  ((Sx.named s = none ∧ e = .returned .nilFunc) ∨ ∃ a F cap, Sx.named s = some a ∧ e = .returned (.func (.func F) #[] cap) ∧ Pts w' p b a (.func (.func F) #[] cap)) ∧ Below w.heap.size w w'
set_option maxHeartbeats 1000000 in
theorem named_any (s : ByteArray) (hs : s.size ≤ 140737488351232) :
    Calls Tryz.prog 152 #[.pointer (some ⟨p, 0, none⟩), .string s] w fun e w' => Named w p b s e w' := by
  have KW := show Hid (∀ w : World, Calls Tryz.prog 128 #[.string s] w fun e w' => e = .returned (.bool (Fm.word s.data.toList)) ∧ w' = w) from fun w => word_any w s hs
  have HX := show Hid (∀ e w', ((Sx.named s = none ∧ e = .returned .nilFunc) ∨ ∃ a F cap, Sx.named s = some a ∧ e = .returned (.func (.func F) #[] cap) ∧ Pts w' p b a (.func (.func F) #[] cap)) ∧ Below w.heap.size w w' → Named w p b s e w') from fun _ _ h => h
  generalize Named w p b s = Q at *
  have HW := show Hid (Below w.heap.size w ((w.alloc (.cells #[ptrV p] 68)).alloc (.cells #[.string s] 9))) from ((Below.refl _ _).alloc (Nat.le_refl _) _).alloc (by simp) _
  have HB1 := show Hid (Box ((w.alloc (.cells #[ptrV p] 68)).alloc (.cells #[.string s] 9)) w.heap.size (ptrV p) 68) from (Below.heap_alloc _ _ _ (by simp)).trans (heap_alloc_new w _)
  have HB2 := show Hid (Box ((w.alloc (.cells #[ptrV p] 68)).alloc (.cells #[.string s] 9)) (w.heap.size + 1) (.string s) 9) from heap_new_at _ _ _ (by simp)
  have hmf := mkFunc
  have hts : s.toList = s.data.toList := ByteArray.toList_eq s
  have HN := show Hid (Sx.named s = if s.data.toList = Sx.wFalse then some .bot else if s.data.toList = Sx.wTrue then some .top else if Fm.word s.data.toList then some (.atom s) else none) from rfl
  generalize Sx.named s = nm at *
  clear hs
  by_cases h1 : s.data.toList = [102, 97, 108, 115, 101]
  · have hq : (s.toList == [102, 97, 108, 115, 101]) = true := by rw [hts, h1]; rfl
    have hn := HN.out
    rw [if_pos h1] at hn
    subst hn
    clear h1 hts HN
    go_enter Tryz.func152, Tryz.ntmps152
    go_wp2_with fail
    exact HX.out _ _ ⟨Or.inr ⟨_, _, _, rfl, rfl, ⟨w.heap.size, rfl, HB1.out⟩⟩, HW.out⟩
  · have hq : (s.toList == [102, 97, 108, 115, 101]) = false := by rw [hts]; simp [h1]
    by_cases h2 : s.data.toList = [116, 114, 117, 101]
    · have hq2 : (s.toList == [116, 114, 117, 101]) = true := by rw [hts, h2]; rfl
      have hn := HN.out
      rw [if_neg h1, if_pos h2] at hn
      subst hn
      clear h1 h2 hts HN
      go_enter Tryz.func152, Tryz.ntmps152
      go_wp2_with fail
      exact HX.out _ _ ⟨Or.inr ⟨_, _, _, rfl, rfl, ⟨w.heap.size, rfl, HB1.out⟩⟩, HW.out⟩
    · have hq2 : (s.toList == [116, 114, 117, 101]) = false := by rw [hts]; simp [h2]
      have hn := HN.out
      rw [if_neg h1, if_neg h2] at hn
      have HN2 := show Hid _ from hn
      clear h1 h2 hts HN hn
      generalize Fm.word s.data.toList = q at *
      go_enter Tryz.func152, Tryz.ntmps152
      go_wp2_with fail
      refine (KW.out _).mono ?_
      rintro e w1 ⟨rfl, hw1⟩
      subst w1
      cases q
      · have hn := HN2.out
        simp only [Bool.false_eq_true, if_false] at hn
        subst hn
        go_wp2_with fail
        exact HX.out _ _ ⟨Or.inl ⟨by simp, rfl⟩, HW.out⟩
      · have hn := HN2.out
        simp only [if_true] at hn
        subst hn
        go_wp2_with fail
        exact HX.out _ _ ⟨Or.inr ⟨_, _, _, rfl, rfl, ⟨w.heap.size, w.heap.size + 1, rfl, HB1.out, HB2.out⟩⟩, HW.out⟩
/-- What reading answers. -/
def Read (w : World) (p b g cap : Nat) (ts : List Tn) (d : Nat) (o : Sx.Out) (e : Ending) (w' : World) : Prop :=
  match o with
  | .ok a i n => ∃ F cp, e = .returned (.func (.func F) #[] cp) ∧ Pts w' p b a (.func (.func F) #[] cp) ∧ RS w' p b g cap ts i n d ∧ KpP p w w'
  | .bad er t => e = fltP er t ∧ KpP p w w'
theorem read_ok {w w' : World} {p b g cap : Nat} {ts : List Tn} {d : Nat} {o : Sx.Out} {a : T} {i n F : Nat} {cp : Array Value} (ho : o = .ok a i n) (h1 : Pts w' p b a (.func (.func F) #[] cp)) (h2 : RS w' p b g cap ts i n d) (h3 : KpP p w w') : Read w p b g cap ts d o (.returned (.func (.func F) #[] cp)) w' := by
  subst ho
  exact ⟨F, cp, rfl, h1, h2, h3⟩
theorem read_bad {w w' : World} {p b g cap : Nat} {ts : List Tn} {d : Nat} {o : Sx.Out} {er : Int} {t : Tn} (ho : o = .bad er t) (h3 : KpP p w w') : Read w p b g cap ts d o (fltP er t) w' := by
  subst ho
  exact ⟨rfl, h3⟩
end
end Go.Proofs.YtcidldgenogdkaaGreatDoor
