/-
  The law's call heads: true, where the tables stand as the program's text lays them. No other condition.
-/
import Derived.Test.YtcidldgenogdkaaGreatDoorSFace
import Derived.Test.YtcidldgenogdkaaGreatDoorSPrintC
namespace Go.Proofs.YtcidldgenogdkaaGreatDoor
open Go.RowKit Go.Maps
open Fm (Nd)
open Sx (Tn T Lv)

/-- A table of the call's own, made since the world w. -/
def OwnT (w wi : World) (b m : Nat) (v : Value) (t : List Nd) : Prop := Tb wi b m v t ∧ (∀ k, Ft b m v k → w.heap.size ≤ k) ∧ Below w.heap.size w wi
theorem OwnT.after {w wi w2 : World} {b m : Nat} {v : Value} {t t' : List Nd} (h : OwnT w wi b m v t) (ha : After wi b m v t' w2) : ∃ v', OwnT w w2 b m v' t' := by
  obtain ⟨v', hT, hL, hK⟩ := ha
  refine ⟨v', hT, ?_, h.2.2.trans (hK.below h.2.2.size h.2.1)⟩
  rintro k (e | e | e)
  · exact h.2.1 k (Or.inl e)
  · exact h.2.1 k (Or.inr (Or.inl e))
  · rcases hL k e with h1 | h1
    · exact h.2.1 k (Or.inr (Or.inr h1))
    · exact Nat.le_trans h.2.2.size h1
theorem OwnT.later {w wi w2 : World} {b m : Nat} {v : Value} {t : List Nd} (h : OwnT w wi b m v t) (hb : Below wi.heap.size wi w2) : OwnT w w2 b m v t := ⟨h.1.later hb, h.2.1, h.2.2.trans (hb.mono h.2.2.size)⟩
theorem Fl.after {w w' : World} {g b m : Nat} {e l c o : Int} {v : Value} {t t' : List Nd} (h : Fl w g e l c o) (hT : Tb w b m v t) (ha : After w b m v t' w') : Fl w' g e l c o := (ha.kp.block _ h.lt (h.nft hT)).trans h
theorem Fl.later {w w' : World} {g : Nat} {e l c o : Int} (h : Fl w g e l c o) (hb : Below w.heap.size w w') : Fl w' g e l c o := (hb.block _ h.lt).trans h
def P0 : Nd := atomN ⟨#[112]⟩
def Q0 : Nd := atomN ⟨#[113]⟩
def T4 : List Nd := [P0, Q0, joinN 3 1 0, joinN 5 0 2]
def T6 : List Nd := [P0, Q0, joinN 3 1 0, joinN 5 0 2, Fm.bot, joinN 5 0 4]
def T9 : List Nd := [P0, Q0, joinN 3 1 0, joinN 5 0 2, Fm.bot, joinN 5 0 4, joinN 5 0 1, joinN 5 1 0, joinN 3 6 7]
theorem h1 : parseR [112, 32, 45, 62, 32, 113, 32, 38, 32, 112] [] = ((3, 0, Sx.tz), T4) := by decide +kernel
theorem h2 : parseR [126, 112] T4 = ((5, 0, Sx.tz), T6) := by decide +kernel
theorem h3 : parseR [112, 32, 60, 45, 62, 32, 113] T6 = ((8, 0, Sx.tz), T9) := by decide +kernel
theorem h4 : printR T9 8 = ([40, 112, 32, 45, 62, 32, 113, 41, 32, 38, 32, 40, 113, 32, 45, 62, 32, 112, 41], 0) := by decide +kernel
theorem h5 : (parseR [112, 32, 38, 32, 38, 32, 36] T9).1.1 = 0 ∧ (parseR [112, 32, 38, 32, 38, 32, 36] T9).1.2.1 = 41 ∧ (parseR [112, 32, 38, 32, 38, 32, 36] T9).1.2.2.l = 1 ∧ (parseR [112, 32, 38, 32, 38, 32, 36] T9).1.2.2.c = 5 ∧ (parseR [112, 32, 38, 32, 38, 32, 36] T9).1.2.2.o = 4 ∧ (parseR [112, 32, 38, 32, 38, 32, 36] T9).2 = T9 := by decide +kernel
def two : List Tn := [⟨1, ⟨#[112]⟩, 0, 0, 0, 0⟩, ⟨3, ⟨#[44]⟩, 0, 0, 0, 0⟩]
theorem h6 : whole false two T9 = ((0, 1, 0, Sx.tz), T9) := by decide +kernel
theorem h7 : cnt (toks [112, 32, 38, 32, 126, 113, 32, 36, 32, 114]) = 4 := by decide +kernel
set_option maxHeartbeats 400000 in
theorem num_any (w : World) (x : Int) : Calls Tryz.prog 19 #[.int .i64 x] w fun e w' => e = .returned (.int .i64 x) ∧ w' = w := by
  go_enter Tryz.func19, Tryz.ntmps19
  go_wp2_with fail
  go_ret
  exact ⟨rfl, rfl⟩
theorem two_at (w : World) : TsAt (w.alloc (Obj.cells #[.int .i64 1, .string ⟨#[112]⟩, .int .i64 0, .int .i64 0, .int .i64 0, .int .i64 0, .int .i64 3, .string ⟨#[44]⟩, .int .i64 0, .int .i64 0, .int .i64 0, .int .i64 0] 45)) w.heap.size 2 two := ⟨_, heap_alloc_new _ _, by decide, by decide, rfl, by decide⟩
set_option maxRecDepth 100000 in
set_option maxHeartbeats 8000000 in
theorem heads_any (w : World) (hL : Tw.Laid w) :
    Calls Tryz.prog 14 #[] w fun e w' => e = .returned (.bool true) ∧ Below w.heap.size w w' := by
  have KN := show Hid (Calls Tryz.prog 24 #[] w fun e w' => e = .returned (.pointer (some ⟨w.heap.size + 1, 0, none⟩)) ∧ Tb w' (w.heap.size + 1) w.heap.size (.slice none 0 0) [] ∧ Below w.heap.size w w') from new_any w
  have K1 := show Hid (∀ (w1 : World) (v : Value), OwnT w w1 (w.heap.size + 1) w.heap.size v [] → Calls Tryz.prog 9 #[.pointer (some ⟨w.heap.size + 1, 0, none⟩), .string ⟨#[112, 32, 45, 62, 32, 113, 32, 38, 32, 112]⟩] w1 fun e w' => e = .returned (.tuple #[.int .i64 3, .agg #[.int .i64 0, .int .i64 0, .int .i64 0, .int .i64 0]]) ∧ After w1 (w.heap.size + 1) w.heap.size v T4 w') from fun w1 v h => by
    refine (parse_any w1 h.1 ⟨#[112, 32, 45, 62, 32, 113, 32, 38, 32, 112]⟩ (by decide) (hL.later h.2.2)).mono ?_
    rintro e w' ⟨rfl, ha⟩
    rw [show (⟨#[112, 32, 45, 62, 32, 113, 32, 38, 32, 112]⟩ : ByteArray).data.toList = [112, 32, 45, 62, 32, 113, 32, 38, 32, 112] from rfl, h1] at ha ⊢
    exact ⟨rfl, ha⟩
  have K2 := show Hid (∀ (w1 : World) (v : Value), OwnT w w1 (w.heap.size + 1) w.heap.size v T4 → Calls Tryz.prog 9 #[.pointer (some ⟨w.heap.size + 1, 0, none⟩), .string ⟨#[126, 112]⟩] w1 fun e w' => e = .returned (.tuple #[.int .i64 5, .agg #[.int .i64 0, .int .i64 0, .int .i64 0, .int .i64 0]]) ∧ After w1 (w.heap.size + 1) w.heap.size v T6 w') from fun w1 v h => by
    refine (parse_any w1 h.1 ⟨#[126, 112]⟩ (by decide) (hL.later h.2.2)).mono ?_
    rintro e w' ⟨rfl, ha⟩
    rw [show (⟨#[126, 112]⟩ : ByteArray).data.toList = [126, 112] from rfl, h2] at ha ⊢
    exact ⟨rfl, ha⟩
  have K3 := show Hid (∀ (w1 : World) (v : Value), OwnT w w1 (w.heap.size + 1) w.heap.size v T6 → Calls Tryz.prog 9 #[.pointer (some ⟨w.heap.size + 1, 0, none⟩), .string ⟨#[112, 32, 60, 45, 62, 32, 113]⟩] w1 fun e w' => e = .returned (.tuple #[.int .i64 8, .agg #[.int .i64 0, .int .i64 0, .int .i64 0, .int .i64 0]]) ∧ After w1 (w.heap.size + 1) w.heap.size v T9 w') from fun w1 v h => by
    refine (parse_any w1 h.1 ⟨#[112, 32, 60, 45, 62, 32, 113]⟩ (by decide) (hL.later h.2.2)).mono ?_
    rintro e w' ⟨rfl, ha⟩
    rw [show (⟨#[112, 32, 60, 45, 62, 32, 113]⟩ : ByteArray).data.toList = [112, 32, 60, 45, 62, 32, 113] from rfl, h3] at ha ⊢
    exact ⟨rfl, ha⟩
  have K4 := show Hid (∀ (w1 : World) (v : Value), OwnT w w1 (w.heap.size + 1) w.heap.size v T9 → Calls Tryz.prog 17 #[.pointer (some ⟨w.heap.size + 1, 0, none⟩), .int .i64 8] w1 fun e w' => e = .returned (.tuple #[.string ⟨#[40, 112, 32, 45, 62, 32, 113, 41, 32, 38, 32, 40, 113, 32, 45, 62, 32, 112, 41]⟩, .int .i64 0]) ∧ Below w1.heap.size w1 w') from fun w1 v h => by
    refine (print_any w1 h.1 8).mono ?_
    rintro e w' ⟨rfl, ha⟩
    rw [h4]
    exact ⟨rfl, ha⟩
  have K5 := show Hid (∀ (w1 : World) (v : Value), OwnT w w1 (w.heap.size + 1) w.heap.size v T9 → Calls Tryz.prog 9 #[.pointer (some ⟨w.heap.size + 1, 0, none⟩), .string ⟨#[112, 32, 38, 32, 38, 32, 36]⟩] w1 fun e w' => e = .returned (.tuple #[.int .i64 0, .agg #[.int .i64 41, .int .i64 1, .int .i64 5, .int .i64 4]]) ∧ After w1 (w.heap.size + 1) w.heap.size v T9 w') from fun w1 v h => by
    refine (parse_any w1 h.1 ⟨#[112, 32, 38, 32, 38, 32, 36]⟩ (by decide) (hL.later h.2.2)).mono ?_
    rintro e w' ⟨rfl, ha⟩
    rw [show (⟨#[112, 32, 38, 32, 38, 32, 36]⟩ : ByteArray).data.toList = [112, 32, 38, 32, 38, 32, 36] from rfl] at ha ⊢
    obtain ⟨q1, q2, q3, q4, q5, q6⟩ := h5
    rw [q6] at ha
    refine ⟨?_, ha⟩
    unfold parseV
    rw [q1, q2, q3, q4, q5]
  have K6 := show Hid (∀ (w1 : World) (v : Value) (g : Nat), OwnT w w1 (w.heap.size + 1) w.heap.size v T9 → TsAt w1 g 2 two → Calls Tryz.prog 15 #[.pointer (some ⟨w.heap.size + 1, 0, none⟩), .slice (some ⟨g, 0, none⟩) 2 2] w1 fun e w' => e = .returned (.tuple #[.int .i64 0, .int .i64 1, .agg #[.int .i64 0, .int .i64 0, .int .i64 0, .int .i64 0]]) ∧ After w1 (w.heap.size + 1) w.heap.size v T9 w') from fun w1 v g h hk => by
    refine (take_any (ts := two) w1 h.1 hk (by decide)).mono ?_
    rw [h6]
    rintro e w' ⟨rfl, ha⟩
    exact ⟨rfl, ha⟩
  have KL := show Hid (∀ (w1 : World) (v : Value), OwnT w w1 (w.heap.size + 1) w.heap.size v T9 → Calls Tryz.prog 20 #[.pointer (some ⟨w.heap.size + 1, 0, none⟩)] w1 fun e w' => e = .returned (.int .i64 9) ∧ w' = w1) from fun w1 v h => len_any w1 h.1
  have KC := show Hid (∀ (w1 : World), Below w.heap.size w w1 → Calls Tryz.prog 12 #[.string ⟨#[112, 32, 38, 32, 126, 113, 32, 36, 32, 114]⟩] w1 fun e w' => e = .returned (.int .i64 4) ∧ Below w1.heap.size w1 w') from fun w1 hb => by
    refine (count_any w1 ⟨#[112, 32, 38, 32, 126, 113, 32, 36, 32, 114]⟩ (by decide) (hL.later hb)).mono ?_
    rintro e w' ⟨rfl, ha⟩
    rw [show (⟨#[112, 32, 38, 32, 126, 113, 32, 36, 32, 114]⟩ : ByteArray).data.toList = [112, 32, 38, 32, 126, 113, 32, 36, 32, 114] from rfl, h7]
    exact ⟨rfl, ha⟩
  have KM := show Hid (∀ (w1 : World), Calls Tryz.prog 19 #[.int .i64 0] w1 fun e w' => e = .returned (.int .i64 0) ∧ w' = w1) from fun w1 => num_any w1 0
  clear hL
  go_enter Tryz.func14, Tryz.ntmps14
  go_wp2_with fail
  refine KN.out.mono ?_
  rintro e w1 ⟨rfl, hT, hB⟩
  have H1 := show Hid (OwnT w w1 (w.heap.size + 1) w.heap.size (.slice none 0 0) []) from ⟨hT, by rintro k (e | e | e) <;> first | omega | (simp [Value.ownBlock] at e), hB⟩
  clear hT hB KN
  go_wp2_with fail
  refine (K1.out _ _ H1.out).mono ?_
  rintro e w2 ⟨rfl, ha⟩
  obtain ⟨v2, h2⟩ := H1.out.after ha
  have H2 := show Hid (OwnT w (w2.alloc (Obj.cells #[.int .i64 0, .int .i64 0, .int .i64 0, .int .i64 0] 31)) (w.heap.size + 1) w.heap.size v2 T4 ∧ Fl (w2.alloc (Obj.cells #[.int .i64 0, .int .i64 0, .int .i64 0, .int .i64 0] 31)) w2.heap.size 0 0 0 0) from ⟨h2.later (below_alloc _ _), fl_new _ _ _ _ _⟩
  clear ha h2 K1 H1
  go_wp2_with fail
  refine (K2.out _ _ H2.out.1).mono ?_
  rintro e w3 ⟨rfl, ha⟩
  obtain ⟨v3, h3⟩ := H2.out.1.after ha
  have H3 := show Hid (OwnT w (w3.alloc (Obj.cells #[.int .i64 0, .int .i64 0, .int .i64 0, .int .i64 0] 31)) (w.heap.size + 1) w.heap.size v3 T6 ∧ Fl (w3.alloc (Obj.cells #[.int .i64 0, .int .i64 0, .int .i64 0, .int .i64 0] 31)) w2.heap.size 0 0 0 0 ∧ Fl (w3.alloc (Obj.cells #[.int .i64 0, .int .i64 0, .int .i64 0, .int .i64 0] 31)) w3.heap.size 0 0 0 0) from ⟨h3.later (below_alloc _ _), (H2.out.2.after H2.out.1.1 ha).later (below_alloc _ _), fl_new _ _ _ _ _⟩
  clear ha h3 K2 H2
  go_wp2_with fail
  refine (K3.out _ _ H3.out.1).mono ?_
  rintro e w4 ⟨rfl, ha⟩
  obtain ⟨v4, h4⟩ := H3.out.1.after ha
  have H4 := show Hid (OwnT w (w4.alloc (Obj.cells #[.int .i64 0, .int .i64 0, .int .i64 0, .int .i64 0] 31)) (w.heap.size + 1) w.heap.size v4 T9 ∧ Fl (w4.alloc (Obj.cells #[.int .i64 0, .int .i64 0, .int .i64 0, .int .i64 0] 31)) w2.heap.size 0 0 0 0 ∧ Fl (w4.alloc (Obj.cells #[.int .i64 0, .int .i64 0, .int .i64 0, .int .i64 0] 31)) w3.heap.size 0 0 0 0 ∧ Fl (w4.alloc (Obj.cells #[.int .i64 0, .int .i64 0, .int .i64 0, .int .i64 0] 31)) w4.heap.size 0 0 0 0) from ⟨h4.later (below_alloc _ _), (H3.out.2.1.after H3.out.1.1 ha).later (below_alloc _ _), (H3.out.2.2.after H3.out.1.1 ha).later (below_alloc _ _), fl_new _ _ _ _ _⟩
  clear ha h4 K3 H3
  go_wp2_with fail
  refine (K4.out _ _ H4.out.1).mono ?_
  rintro e w5 ⟨rfl, hb⟩
  have H5 := show Hid (OwnT w w5 (w.heap.size + 1) w.heap.size v4 T9 ∧ Fl w5 w2.heap.size 0 0 0 0 ∧ Fl w5 w3.heap.size 0 0 0 0 ∧ Fl w5 w4.heap.size 0 0 0 0) from ⟨H4.out.1.later hb, H4.out.2.1.later hb, H4.out.2.2.1.later hb, H4.out.2.2.2.later hb⟩
  clear hb K4 H4
  go_wp2_with fail
  refine (K5.out _ _ H5.out.1).mono ?_
  rintro e w6 ⟨rfl, ha⟩
  obtain ⟨v6, h6⟩ := H5.out.1.after ha
  have H6 := show Hid (OwnT w (w6.alloc (Obj.cells #[.int .i64 41, .int .i64 1, .int .i64 5, .int .i64 4] 31)) (w.heap.size + 1) w.heap.size v6 T9 ∧ Fl (w6.alloc (Obj.cells #[.int .i64 41, .int .i64 1, .int .i64 5, .int .i64 4] 31)) w2.heap.size 0 0 0 0 ∧ Fl (w6.alloc (Obj.cells #[.int .i64 41, .int .i64 1, .int .i64 5, .int .i64 4] 31)) w3.heap.size 0 0 0 0 ∧ Fl (w6.alloc (Obj.cells #[.int .i64 41, .int .i64 1, .int .i64 5, .int .i64 4] 31)) w4.heap.size 0 0 0 0 ∧ Fl (w6.alloc (Obj.cells #[.int .i64 41, .int .i64 1, .int .i64 5, .int .i64 4] 31)) w6.heap.size 41 1 5 4) from ⟨h6.later (below_alloc _ _), (H5.out.2.1.after H5.out.1.1 ha).later (below_alloc _ _), (H5.out.2.2.1.after H5.out.1.1 ha).later (below_alloc _ _), (H5.out.2.2.2.after H5.out.1.1 ha).later (below_alloc _ _), fl_new _ _ _ _ _⟩
  clear ha h6 K5 H5
  go_wp2_with fail
  have hsz : (w6.alloc (Obj.cells #[.int .i64 41, .int .i64 1, .int .i64 5, .int .i64 4] 31)).heap.size = w6.heap.size + 1 := by simp
  have htw := two_at (w6.alloc (Obj.cells #[.int .i64 41, .int .i64 1, .int .i64 5, .int .i64 4] 31))
  rw [hsz] at htw
  have hbt : Below (w6.alloc (Obj.cells #[.int .i64 41, .int .i64 1, .int .i64 5, .int .i64 4] 31)).heap.size (w6.alloc (Obj.cells #[.int .i64 41, .int .i64 1, .int .i64 5, .int .i64 4] 31)) ((w6.alloc (Obj.cells #[.int .i64 41, .int .i64 1, .int .i64 5, .int .i64 4] 31)).alloc (Obj.cells #[.int .i64 1, .string ⟨#[112]⟩, .int .i64 0, .int .i64 0, .int .i64 0, .int .i64 0, .int .i64 3, .string ⟨#[44]⟩, .int .i64 0, .int .i64 0, .int .i64 0, .int .i64 0] 45)) := below_alloc _ _
  refine (K6.out _ _ _ (H6.out.1.later hbt) htw).mono ?_
  rintro e w8 ⟨rfl, ha⟩
  obtain ⟨v8, h8⟩ := (H6.out.1.later hbt).after ha
  have hbf : Below w8.heap.size w8 (w8.alloc (Obj.cells #[.int .i64 0, .int .i64 0, .int .i64 0, .int .i64 0] 31)) := below_alloc _ _
  have g1 := ((H6.out.2.1.later hbt).after (H6.out.1.later hbt).1 ha).later hbf
  have g2 := ((H6.out.2.2.1.later hbt).after (H6.out.1.later hbt).1 ha).later hbf
  have g3 := ((H6.out.2.2.2.1.later hbt).after (H6.out.1.later hbt).1 ha).later hbf
  have g4 := ((H6.out.2.2.2.2.later hbt).after (H6.out.1.later hbt).1 ha).later hbf
  have g5 := fl_new w8 0 0 0 0
  have H8 := show Hid (OwnT w (w8.alloc (Obj.cells #[.int .i64 0, .int .i64 0, .int .i64 0, .int .i64 0] 31)) (w.heap.size + 1) w.heap.size v8 T9) from h8.later hbf
  obtain ⟨w9, hw9⟩ : ∃ w9, w9 = w8.alloc (Obj.cells #[.int .i64 0, .int .i64 0, .int .i64 0, .int .i64 0] 31) := ⟨_, rfl⟩
  rw [← hw9] at g1 g2 g3 g4 g5 H8
  have a0 := g1.c0; have a1 := g1.c1; have a2 := g1.c2; have a3 := g1.c3
  have b0 := g2.c0; have b1 := g2.c1; have b2 := g2.c2; have b3 := g2.c3
  have c0 := g3.c0; have c1 := g3.c1; have c2 := g3.c2; have c3 := g3.c3
  have d0 := g4.c0; have d1 := g4.c1; have d2 := g4.c2; have d3 := g4.c3
  have f0 := g5.c0; have f1 := g5.c1; have f2 := g5.c2; have f3 := g5.c3
  subst hw9
  clear ha h8 hbf hbt htw hsz K6 H6 g1 g2 g3 g4 g5
  go_wp2_with fail
  refine (KM.out _).mono ?_
  rintro e w10 ⟨rfl, hw10⟩
  subst w10
  go_wp2_with fail
  refine (KL.out _ _ H8.out).mono ?_
  rintro e w10 ⟨rfl, hw10⟩
  subst w10
  go_wp2_with fail
  refine (KC.out _ H8.out.2.2).mono ?_
  rintro e w11 ⟨rfl, hb11⟩
  have X := show Hid (Below w.heap.size w w11) from H8.out.2.2.trans (hb11.mono H8.out.2.2.size)
  clear hb11 KC
  go_wp2_with fail
  go_ret
  exact ⟨rfl, X.out⟩
end Go.Proofs.YtcidldgenogdkaaGreatDoor
