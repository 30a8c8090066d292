/-
  The document's call Write: for every token. No condition beyond sizes and the library's table as its text lays it.
-/
import Derived.Test.YtgcoalcfhflfiaaDoorWriteP
import Derived.Test.YtgcoalcfhflfiaaDoorROneA
namespace Go.Proofs.YtgcoalcfhflfiaaDoor
open Go.RowKit Go.Sort

/-- What is told of the text rt of the token t. -/
def told (rt : List UInt8) (t : Tk.Tok) : List UInt8 × Int := if (Tk.cut rt).2.2 = 0 ∧ (Tk.cut rt).2.1 = rt.length ∧ (Tk.cut rt).1 = t then (rt, 0) else ([], 2)
set_option maxRecDepth 100000 in
set_option maxHeartbeats 4000000 in
theorem rwrite_1 (w : World) (tt : ByteArray) (ti l c o : Int) (hs : tt.size ≤ 140737488355328) :
    Calls Tryd.prog 18 #[.agg #[.int .i64 1, .string tt, .int .i64 ti, .int .i64 l, .int .i64 c, .int .i64 o]] w fun e w' => e = .returned (.tuple #[.string ⟨(told tt.data.toList (1, tt.data.toList, ti)).1.toArray⟩, .int .i64 (told tt.data.toList (1, tt.data.toList, ti)).2]) ∧ Below w.heap.size w w' := by
  have HX := show Hid (told tt.data.toList (1, tt.data.toList, ti) = if (Tk.cut tt.data.toList).2.2 = 0 ∧ (Tk.cut tt.data.toList).2.1 = tt.size ∧ (Tk.cut tt.data.toList).1 = (1, tt.data.toList, ti) then (tt.data.toList, 0) else ([], 2)) from rfl
  have CC := show Hid (∀ w1 : World, Calls Tryd.prog 33 #[.string tt, .int .i64 0] w1 fun e w' => IsOne 0 (Tk.cut tt.data.toList) e ∧ Below w1.heap.size w1 w') from fun w1 => by
    have := rone_any w1 tt 0 hs (by omega)
    rw [List.drop_zero] at this
    exact this
  generalize told tt.data.toList (1, tt.data.toList, ti) = ans at *
  generalize Tk.cut tt.data.toList = ct at *
  obtain ⟨⟨ck, cs, ci⟩, cn, ce⟩ := ct
  go_enter Tryd.func18, Tryd.ntmps18
  go_wp2_with fail
  refine (CC.out _).mono ?_
  rintro e w1 ⟨⟨kk, rfl, hkk⟩, hb⟩
  have HKK := show Hid (ce = 0 → kk = 0 + cn) from hkk
  have HB := show Hid (Below w.heap.size w w1) from (below_alloc _ _).trans (hb.mono (by simp))
  have HT := show Hid (T6 w1 w.heap.size (.int .i64 1) (.string tt) (.int .i64 ti) (.int .i64 l) (.int .i64 c) (.int .i64 o)) from (hb.block _ (by simp)).trans (heap_alloc_new _ _)
  have hlt := lt_of_block HT.out
  clear hb CC hkk
  unfold tokV
  have hc0 := HT.out.c0; have hc1 := HT.out.c1; have hc2 := HT.out.c2; have hc3 := HT.out.c3; have hc4 := HT.out.c4; have hc5 := HT.out.c5
  by_cases hall : ce = 0 ∧ cn = tt.size ∧ ((ck, cs, ci) : Tk.Tok) = (1, tt.data.toList, ti)
  · have hA := HX.out
    rw [if_pos hall] at hA
    subst hA
    obtain ⟨hce, hcn, hct⟩ := hall
    simp only [Prod.mk.injEq] at hct
    obtain ⟨rfl, rfl, rfl⟩ := hct
    subst hce
    have hkk := HKK.out rfl
    rw [Nat.zero_add, hcn] at hkk
    subst hkk
    clear HX HKK hcn
    have hq : (tt.data.toList == tt.toList) = true := by rw [Lib.toList_data]; simp
    go_wp2_with fail
    go_ret2
    exact ⟨by rw [bytes_back]; rfl, HB.out.alloc (by omega) _⟩
  · have hA := HX.out
    rw [if_neg hall] at hA
    subst hA
    clear HX
    by_cases hce : ce = 0
    · subst hce
      have hkk := HKK.out rfl
      rw [Nat.zero_add] at hkk
      have HNE := show Hid (¬ (kk = tt.size ∧ ck = 1 ∧ cs = tt.toList ∧ ci = ti)) from by
        rw [Lib.toList_data]
        rintro ⟨a, b, c, d⟩
        exact hall ⟨rfl, by rw [← a]; exact hkk.symm, by rw [b, c, d]⟩
      clear hall HKK hkk
      by_cases h1 : kk = tt.size
      · have q1 : ((kk : Int) != (tt.size : Int)) = false := by simp [h1]
        by_cases h2 : ck = 1
        · have q2 : (ck != 1) = false := by simp [h2]
          by_cases h3 : cs = tt.toList
          · have q3 : (cs == tt.toList) = true := by simp [h3]
            have h4 : ci ≠ ti := fun h4 => HNE.out ⟨h1, h2, h3, h4⟩
            have q4 : (ci != ti) = true := by simp [h4]
            clear h1 h2 h3 h4
            go_wp2_with fail
            go_ret2
            exact ⟨rfl, HB.out.alloc (by omega) _⟩
          · have q3 : (cs == tt.toList) = false := beq_eq_false_iff_ne.2 h3
            clear h1 h2 h3
            go_wp2_with fail
            go_ret2
            exact ⟨rfl, HB.out.alloc (by omega) _⟩
        · have q2 : (ck != 1) = true := by simp [h2]
          clear h1 h2
          go_wp2_with fail
          go_ret2
          exact ⟨rfl, HB.out.alloc (by omega) _⟩
      · have q1 : ((kk : Int) != (tt.size : Int)) = true := by simp; omega
        clear h1
        go_wp2_with fail
        go_ret2
        exact ⟨rfl, HB.out.alloc (by omega) _⟩
    · have hce0 : (ce != 0) = true := by simp [hce]
      clear hall HKK
      go_wp2_with fail
      go_ret2
      exact ⟨rfl, HB.out.alloc (by omega) _⟩
set_option maxRecDepth 100000 in
set_option maxHeartbeats 4000000 in
theorem rwrite_3 (w : World) (tt : ByteArray) (ti l c o : Int) (hs : tt.size ≤ 140737488355328) :
    Calls Tryd.prog 18 #[.agg #[.int .i64 3, .string tt, .int .i64 ti, .int .i64 l, .int .i64 c, .int .i64 o]] w fun e w' => e = .returned (.tuple #[.string ⟨(told tt.data.toList (3, tt.data.toList, ti)).1.toArray⟩, .int .i64 (told tt.data.toList (3, tt.data.toList, ti)).2]) ∧ Below w.heap.size w w' := by
  have HX := show Hid (told tt.data.toList (3, tt.data.toList, ti) = if (Tk.cut tt.data.toList).2.2 = 0 ∧ (Tk.cut tt.data.toList).2.1 = tt.size ∧ (Tk.cut tt.data.toList).1 = (3, tt.data.toList, ti) then (tt.data.toList, 0) else ([], 2)) from rfl
  have CC := show Hid (∀ w1 : World, Calls Tryd.prog 33 #[.string tt, .int .i64 0] w1 fun e w' => IsOne 0 (Tk.cut tt.data.toList) e ∧ Below w1.heap.size w1 w') from fun w1 => by
    have := rone_any w1 tt 0 hs (by omega)
    rw [List.drop_zero] at this
    exact this
  generalize told tt.data.toList (3, tt.data.toList, ti) = ans at *
  generalize Tk.cut tt.data.toList = ct at *
  obtain ⟨⟨ck, cs, ci⟩, cn, ce⟩ := ct
  go_enter Tryd.func18, Tryd.ntmps18
  go_wp2_with fail
  refine (CC.out _).mono ?_
  rintro e w1 ⟨⟨kk, rfl, hkk⟩, hb⟩
  have HKK := show Hid (ce = 0 → kk = 0 + cn) from hkk
  have HB := show Hid (Below w.heap.size w w1) from (below_alloc _ _).trans (hb.mono (by simp))
  have HT := show Hid (T6 w1 w.heap.size (.int .i64 3) (.string tt) (.int .i64 ti) (.int .i64 l) (.int .i64 c) (.int .i64 o)) from (hb.block _ (by simp)).trans (heap_alloc_new _ _)
  have hlt := lt_of_block HT.out
  clear hb CC hkk
  unfold tokV
  have hc0 := HT.out.c0; have hc1 := HT.out.c1; have hc2 := HT.out.c2; have hc3 := HT.out.c3; have hc4 := HT.out.c4; have hc5 := HT.out.c5
  by_cases hall : ce = 0 ∧ cn = tt.size ∧ ((ck, cs, ci) : Tk.Tok) = (3, tt.data.toList, ti)
  · have hA := HX.out
    rw [if_pos hall] at hA
    subst hA
    obtain ⟨hce, hcn, hct⟩ := hall
    simp only [Prod.mk.injEq] at hct
    obtain ⟨rfl, rfl, rfl⟩ := hct
    subst hce
    have hkk := HKK.out rfl
    rw [Nat.zero_add, hcn] at hkk
    subst hkk
    clear HX HKK hcn
    have hq : (tt.data.toList == tt.toList) = true := by rw [Lib.toList_data]; simp
    go_wp2_with fail
    go_ret2
    exact ⟨by rw [bytes_back]; rfl, HB.out.alloc (by omega) _⟩
  · have hA := HX.out
    rw [if_neg hall] at hA
    subst hA
    clear HX
    by_cases hce : ce = 0
    · subst hce
      have hkk := HKK.out rfl
      rw [Nat.zero_add] at hkk
      have HNE := show Hid (¬ (kk = tt.size ∧ ck = 3 ∧ cs = tt.toList ∧ ci = ti)) from by
        rw [Lib.toList_data]
        rintro ⟨a, b, c, d⟩
        exact hall ⟨rfl, by rw [← a]; exact hkk.symm, by rw [b, c, d]⟩
      clear hall HKK hkk
      by_cases h1 : kk = tt.size
      · have q1 : ((kk : Int) != (tt.size : Int)) = false := by simp [h1]
        by_cases h2 : ck = 3
        · have q2 : (ck != 3) = false := by simp [h2]
          by_cases h3 : cs = tt.toList
          · have q3 : (cs == tt.toList) = true := by simp [h3]
            have h4 : ci ≠ ti := fun h4 => HNE.out ⟨h1, h2, h3, h4⟩
            have q4 : (ci != ti) = true := by simp [h4]
            clear h1 h2 h3 h4
            go_wp2_with fail
            go_ret2
            exact ⟨rfl, HB.out.alloc (by omega) _⟩
          · have q3 : (cs == tt.toList) = false := beq_eq_false_iff_ne.2 h3
            clear h1 h2 h3
            go_wp2_with fail
            go_ret2
            exact ⟨rfl, HB.out.alloc (by omega) _⟩
        · have q2 : (ck != 3) = true := by simp [h2]
          clear h1 h2
          go_wp2_with fail
          go_ret2
          exact ⟨rfl, HB.out.alloc (by omega) _⟩
      · have q1 : ((kk : Int) != (tt.size : Int)) = true := by simp; omega
        clear h1
        go_wp2_with fail
        go_ret2
        exact ⟨rfl, HB.out.alloc (by omega) _⟩
    · have hce0 : (ce != 0) = true := by simp [hce]
      clear hall HKK
      go_wp2_with fail
      go_ret2
      exact ⟨rfl, HB.out.alloc (by omega) _⟩
set_option maxRecDepth 100000 in
set_option maxHeartbeats 4000000 in
theorem rwrite_0 (w : World) (tt : ByteArray) (ti l c o : Int) :
    Calls Tryd.prog 18 #[.agg #[.int .i64 0, .string tt, .int .i64 ti, .int .i64 l, .int .i64 c, .int .i64 o]] w fun e w' => e = .returned (.tuple #[.string ⟨(told [] (0, tt.data.toList, ti)).1.toArray⟩, .int .i64 (told [] (0, tt.data.toList, ti)).2]) ∧ Below w.heap.size w w' := by
  have HX := show Hid (told [] (0, tt.data.toList, ti) = if tt.data.toList = [] ∧ ti = 0 then ([], 0) else ([], 2)) from by
    show (if (0 : Int) = 0 ∧ (0 : Nat) = 0 ∧ ((0, [], 0) : Tk.Tok) = (0, tt.data.toList, ti) then (([] : List UInt8), (0 : Int)) else ([], 2)) = _
    by_cases h : tt.data.toList = [] ∧ ti = 0
    · rw [if_pos h, if_pos ⟨rfl, rfl, by rw [h.1, h.2]⟩]
    · rw [if_neg h, if_neg]
      rintro ⟨_, _, h'⟩
      simp only [Prod.mk.injEq, true_and] at h'
      exact h ⟨h'.1.symm, h'.2.symm⟩
  have CC := show Hid (∀ w1 : World, Calls Tryd.prog 33 #[.string ⟨#[]⟩, .int .i64 0] w1 fun e w' => e = .returned (.tuple #[.agg #[.int .i64 0, .string ⟨#[]⟩, .int .i64 0, .int .i64 0, .int .i64 0, .int .i64 0], .int .i64 0, .int .i64 0]) ∧ Below w1.heap.size w1 w') from fun w1 => by
    refine (rone_any w1 ⟨#[]⟩ 0 (by decide) (by decide)).mono ?_
    rintro e w' ⟨⟨k, rfl, hk⟩, hb⟩
    have h0 : k = 0 := hk rfl
    subst h0
    exact ⟨rfl, hb⟩
  generalize told [] (0, tt.data.toList, ti) = ans at *
  go_enter Tryd.func18, Tryd.ntmps18
  go_wp2_with fail
  refine (CC.out _).mono ?_
  rintro e w1 ⟨rfl, hb⟩
  have HB := show Hid (Below w.heap.size w w1) from (below_alloc _ _).trans (hb.mono (by simp))
  have HT := show Hid (T6 w1 w.heap.size (.int .i64 0) (.string tt) (.int .i64 ti) (.int .i64 l) (.int .i64 c) (.int .i64 o)) from (hb.block _ (by simp)).trans (heap_alloc_new _ _)
  have hlt := lt_of_block HT.out
  clear hb CC
  have hc0 := HT.out.c0; have hc1 := HT.out.c1; have hc2 := HT.out.c2; have hc3 := HT.out.c3; have hc4 := HT.out.c4; have hc5 := HT.out.c5
  by_cases h1 : tt.data.toList = []
  · have e1 : tt = ⟨#[]⟩ := by rw [← bytes_back tt, h1]
    subst e1
    by_cases h2 : ti = 0
    · subst h2
      have hA := HX.out
      rw [if_pos ⟨h1, rfl⟩] at hA
      subst hA
      clear HX h1
      go_wp2_with fail
      go_ret2
      exact ⟨rfl, HB.out.alloc (by omega) _⟩
    · have hA := HX.out
      rw [if_neg (fun h => h2 h.2)] at hA
      subst hA
      clear HX h1
      have q : ((0 : Int) != ti) = true := by simp; omega
      go_wp2_with fail
      all_goals go_ret2
      all_goals exact ⟨rfl, HB.out.alloc (by omega) _⟩
  · have hA := HX.out
    rw [if_neg (fun h => h1 h.1)] at hA
    subst hA
    have q : ([] == tt.toList) = false := by
      rw [Lib.toList_data]
      exact beq_eq_false_iff_ne.2 (fun h => h1 h.symm)
    have q2 : tt.toList.isEmpty = false := by
      rw [Lib.toList_data]
      cases hd : tt.data.toList with
      | nil => exact absurd hd h1
      | cons a t => rfl
    clear HX h1
    go_wp2_with fail
    all_goals go_ret2
    all_goals exact ⟨rfl, HB.out.alloc (by omega) _⟩
set_option maxRecDepth 100000 in
set_option maxHeartbeats 4000000 in
theorem rwrite_2 (w : World) (tt : ByteArray) (ti l c o : Int) (rt : ByteArray) (CI : Hid (∀ w1, Below w.heap.size w w1 → Calls Tryd.prog 34 #[.int .i64 ti] w1 fun e w' => e = .returned (.string rt) ∧ Below w1.heap.size w1 w')) (hs : rt.size ≤ 140737488355328) :
    Calls Tryd.prog 18 #[.agg #[.int .i64 2, .string tt, .int .i64 ti, .int .i64 l, .int .i64 c, .int .i64 o]] w fun e w' => e = .returned (.tuple #[.string ⟨(told rt.data.toList (2, tt.data.toList, ti)).1.toArray⟩, .int .i64 (told rt.data.toList (2, tt.data.toList, ti)).2]) ∧ Below w.heap.size w w' := by
  have HX := show Hid (told rt.data.toList (2, tt.data.toList, ti) = if (Tk.cut rt.data.toList).2.2 = 0 ∧ (Tk.cut rt.data.toList).2.1 = rt.size ∧ (Tk.cut rt.data.toList).1 = (2, tt.data.toList, ti) then (rt.data.toList, 0) else ([], 2)) from rfl
  have CC := show Hid (∀ w1 : World, Calls Tryd.prog 33 #[.string rt, .int .i64 0] w1 fun e w' => IsOne 0 (Tk.cut rt.data.toList) e ∧ Below w1.heap.size w1 w') from fun w1 => by
    have := rone_any w1 rt 0 hs (by omega)
    rw [List.drop_zero] at this
    exact this
  generalize told rt.data.toList (2, tt.data.toList, ti) = ans at *
  generalize Tk.cut rt.data.toList = ct at *
  obtain ⟨⟨ck, cs, ci⟩, cn, ce⟩ := ct
  go_enter Tryd.func18, Tryd.ntmps18
  go_wp2_with fail
  refine (CI.out _ (below_alloc _ _)).mono ?_
  rintro e w0 ⟨rfl, hb0⟩
  have HB0 := show Hid (Below w.heap.size w w0) from (below_alloc _ _).trans (hb0.mono (by simp))
  have HT0 := show Hid (T6 w0 w.heap.size (.int .i64 2) (.string tt) (.int .i64 ti) (.int .i64 l) (.int .i64 c) (.int .i64 o)) from (hb0.block _ (by simp)).trans (heap_alloc_new _ _)
  clear hb0 CI
  go_wp2_with fail
  refine (CC.out _).mono ?_
  rintro e w1 ⟨⟨kk, rfl, hkk⟩, hb⟩
  have HKK := show Hid (ce = 0 → kk = 0 + cn) from hkk
  have HB := show Hid (Below w.heap.size w w1) from HB0.out.trans (hb.mono HB0.out.size)
  have HT := show Hid (T6 w1 w.heap.size (.int .i64 2) (.string tt) (.int .i64 ti) (.int .i64 l) (.int .i64 c) (.int .i64 o)) from (hb.block _ (lt_of_block HT0.out)).trans HT0.out
  have hlt := lt_of_block HT.out
  clear hb CC hkk
  unfold tokV
  have hc0 := HT.out.c0; have hc1 := HT.out.c1; have hc2 := HT.out.c2; have hc3 := HT.out.c3; have hc4 := HT.out.c4; have hc5 := HT.out.c5
  by_cases hall : ce = 0 ∧ cn = rt.size ∧ ((ck, cs, ci) : Tk.Tok) = (2, tt.data.toList, ti)
  · have hA := HX.out
    rw [if_pos hall] at hA
    subst hA
    obtain ⟨hce, hcn, hct⟩ := hall
    simp only [Prod.mk.injEq] at hct
    obtain ⟨rfl, rfl, rfl⟩ := hct
    subst hce
    have hkk := HKK.out rfl
    rw [Nat.zero_add, hcn] at hkk
    subst hkk
    clear HX HKK hcn
    have hq : (tt.data.toList == tt.toList) = true := by rw [Lib.toList_data]; simp
    go_wp2_with fail
    go_ret2
    exact ⟨by rw [bytes_back]; rfl, HB.out.alloc (by omega) _⟩
  · have hA := HX.out
    rw [if_neg hall] at hA
    subst hA
    clear HX
    by_cases hce : ce = 0
    · subst hce
      have hkk := HKK.out rfl
      rw [Nat.zero_add] at hkk
      have HNE := show Hid (¬ (kk = rt.size ∧ ck = 2 ∧ cs = tt.toList ∧ ci = ti)) from by
        rw [Lib.toList_data]
        rintro ⟨a, b, c, d⟩
        exact hall ⟨rfl, by rw [← a]; exact hkk.symm, by rw [b, c, d]⟩
      clear hall HKK hkk
      by_cases h1 : kk = rt.size
      · have q1 : ((kk : Int) != (rt.size : Int)) = false := by simp [h1]
        by_cases h2 : ck = 2
        · have q2 : (ck != 2) = false := by simp [h2]
          by_cases h3 : cs = tt.toList
          · have q3 : (cs == tt.toList) = true := by simp [h3]
            have h4 : ci ≠ ti := fun h4 => HNE.out ⟨h1, h2, h3, h4⟩
            have q4 : (ci != ti) = true := by simp [h4]
            clear h1 h2 h3 h4
            go_wp2_with fail
            go_ret2
            exact ⟨rfl, HB.out.alloc (by omega) _⟩
          · have q3 : (cs == tt.toList) = false := beq_eq_false_iff_ne.2 h3
            clear h1 h2 h3
            go_wp2_with fail
            go_ret2
            exact ⟨rfl, HB.out.alloc (by omega) _⟩
        · have q2 : (ck != 2) = true := by simp [h2]
          clear h1 h2
          go_wp2_with fail
          go_ret2
          exact ⟨rfl, HB.out.alloc (by omega) _⟩
      · have q1 : ((kk : Int) != (rt.size : Int)) = true := by simp; omega
        clear h1
        go_wp2_with fail
        go_ret2
        exact ⟨rfl, HB.out.alloc (by omega) _⟩
    · have hce0 : (ce != 0) = true := by simp [hce]
      clear hall HKK
      go_wp2_with fail
      go_ret2
      exact ⟨rfl, HB.out.alloc (by omega) _⟩
set_option maxHeartbeats 1000000 in
theorem rwrite_x (w : World) (tk : Int) (tt : ByteArray) (ti l c o : Int) (h0 : tk ≠ 0) (h1 : tk ≠ 1) (h3 : tk ≠ 3) (h2 : tk ≠ 2) :
    Calls Tryd.prog 18 #[.agg #[.int .i64 tk, .string tt, .int .i64 ti, .int .i64 l, .int .i64 c, .int .i64 o]] w fun e w' => e = .returned (.tuple #[.string ⟨#[]⟩, .int .i64 2]) ∧ Below w.heap.size w w' := by
  have q0 : (tk == 0) = false := beq_eq_false_iff_ne.2 h0
  have q1 : (tk == 1) = false := beq_eq_false_iff_ne.2 h1
  have q3 : (tk == 3) = false := beq_eq_false_iff_ne.2 h3
  have q2 : (tk == 2) = false := beq_eq_false_iff_ne.2 h2
  clear h0 h1 h2 h3
  go_enter Tryd.func18, Tryd.ntmps18
  go_wp2_with fail
  go_ret2
  exact ⟨rfl, below_alloc _ _⟩
theorem rwrite_any (w : World) (tk : Int) (tt : ByteArray) (ti l c o : Int) (hs : tt.size ≤ 140737488355328) (h0 : -9223372036854775808 ≤ ti) (h1 : ti ≤ 9223372036854775807) (hP : Pows w) :
    Calls Tryd.prog 18 #[.agg #[.int .i64 tk, .string tt, .int .i64 ti, .int .i64 l, .int .i64 c, .int .i64 o]] w fun e w' => e = .returned (.tuple #[.string ⟨(wrt (tk, tt.data.toList, ti)).1.toArray⟩, .int .i64 (wrt (tk, tt.data.toList, ti)).2]) ∧ Below w.heap.size w w' := by
  rw [← wrtR_eq]
  by_cases k0 : tk = 0
  · subst k0
    exact rwrite_0 w tt ti l c o
  · by_cases k1 : tk = 1
    · subst k1
      exact rwrite_1 w tt ti l c o hs
    · by_cases k3 : tk = 3
      · subst k3
        exact rwrite_3 w tt ti l c o hs
      · by_cases k2 : tk = 2
        · subst k2
          have e : (⟨(Lib.itoa ti).toArray⟩ : ByteArray).data.toList = Lib.itoa ti := by simp
          have := rwrite_2 w tt ti l c o ⟨(Lib.itoa ti).toArray⟩ (fun w1 hb => by
            refine (Tryd.strconv_Itoa ti h0 h1 w1 (hP.later hb)).mono ?_
            rintro e w' ⟨rfl, k, os, rfl⟩
            exact ⟨rfl, below_grow _ _ _⟩) (by
            have h := Lib.itoa_length_le ti h0 h1
            show (Lib.itoa ti).toArray.size ≤ _
            simp
            omega)
          rw [e] at this
          exact this
        · have hw : wrtR (tk, tt.data.toList, ti) = ([], 2) := by
            unfold wrtR
            rw [if_neg]
            rintro (h | h | h | h)
            · exact k0 h
            · exact k1 h
            · exact k3 h
            · exact k2 h
          rw [hw]
          exact rwrite_x w tk tt ti l c o k0 k1 k3 k2
end Go.Proofs.YtgcoalcfhflfiaaDoor
