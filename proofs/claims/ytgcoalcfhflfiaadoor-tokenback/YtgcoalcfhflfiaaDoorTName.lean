/-
  The calls Name and Write: for every text, every token. No condition beyond sizes and the tables as the program's text lays them.
-/
import Derived.Test.YtgcoalcfhflfiaaDoorTScan
import Derived.Test.YtgcoalcfhflfiaaDoorShelfB
import Derived.Lib.ItoaLen
namespace Go.Proofs.YtgcoalcfhflfiaaDoor
open Go.RowKit Go.Sort

def isName (l : List UInt8) : Bool := decide ((Tk.cut l).1.1 = 1) && ((Tk.cut l).1.2.1 == l)
set_option maxHeartbeats 1000000 in
theorem name_any (w : World) (s : ByteArray) (hs : s.size ≤ 140737488355328) (hL : Laid w) :
    Calls Tryd.prog 11 #[.string s] w fun e w' => e = .returned (.bool (isName s.data.toList)) ∧ Below w.heap.size w w' := by
  have C1 := show Hid (Calls Tryd.prog 26 #[.string s] w fun e w' => e = .returned (cutV (Tk.cut s.data.toList)) ∧ Below w.heap.size w w') from cut_any w s hs hL
  have HX : Hid (isName s.data.toList = (decide ((Tk.cut s.data.toList).1.1 = 1) && ((Tk.cut s.data.toList).1.2.1 == s.data.toList))) := rfl
  generalize isName s.data.toList = ans at *
  generalize Tk.cut s.data.toList = ct at *
  obtain ⟨⟨tk, tt, ti⟩, tn, te⟩ := ct
  have hbq : (tt == s.toList) = (tt == s.data.toList) := by rw [Lib.toList_data]
  generalize (tt == s.data.toList) = b2 at *
  have hk : (tk == 1) = decide (tk = 1) := rfl
  generalize decide (tk = 1) = b1 at *
  go_enter Tryd.func11, Tryd.ntmps11
  go_wp2_with fail
  refine C1.out.mono ?_
  rintro e w1 ⟨rfl, hb⟩
  unfold cutV tokV
  clear C1
  have HB := show Hid (Below w.heap.size w w1) from hb
  clear hb
  cases b1
  all_goals
    go_wp2_with fail
    go_ret
    exact ⟨by rw [HX.out]; rfl, HB.out.alloc HB.out.size _⟩
def Pows (w : World) : Prop := Lib.TabIs Tryd.prog w "internal/strconv.uint64pow10" .u64 Lib.pow10Tab
theorem pow_global : Tryd.prog.globalNamed "internal/strconv.uint64pow10" = some 3 := by kernel_rfl
theorem Pows.later {w w' : World} (h : Pows w) (hb : Below w.heap.size w w') : Pows w' := by
  have h' := h
  unfold Pows Lib.TabIs World.var? at h' ⊢
  simp only [pow_global, Option.bind_some] at h' ⊢
  have hlt : 3 < w.heap.size := by
    rcases Nat.lt_or_ge 3 w.heap.size with hh | hh
    · exact hh
    · simp [Array.getElem?_eq_none hh] at h'
  rw [hb.block _ hlt]
  exact h'
theorem below_grow (w : World) (q : Nat) (os : Array Obj) : Below w.heap.size w (grow (w.drewN q) os) :=
  ⟨rfl, rfl, rfl, by simp [grow], fun k hk => by simp [grow, Array.getElem?_append, hk]⟩
/-- The text of a token, before it is cut again. -/
def rawText (t : Tk.Tok) : List UInt8 := if t.1 = 2 then Lib.itoa t.2.2 else t.2.1
/-- What Write answers. -/
def wrt (t : Tk.Tok) : List UInt8 × Int := if (Tk.cut (rawText t)).2.2 = 0 ∧ (Tk.cut (rawText t)).1 = t then (rawText t, 0) else ([], 2)
theorem tup_wrt {a b : List UInt8 × Int} (h : a = b) : Ending.returned (.tuple #[.string ⟨a.1.toArray⟩, .int .i64 a.2]) = Ending.returned (.tuple #[.string ⟨b.1.toArray⟩, .int .i64 b.2]) := by rw [h]
theorem bytes_back (s : ByteArray) : (⟨s.data.toList.toArray⟩ : ByteArray) = s := by cases s; simp
set_option maxRecDepth 100000 in
set_option maxHeartbeats 2000000 in
theorem write_any (w : World) (tk : Int) (tt : ByteArray) (ti l c o : Int) (hs : tt.size ≤ 140737488355328) (h0 : -9223372036854775808 ≤ ti) (h1 : ti ≤ 9223372036854775807) (hL : Laid w) (hP : Pows w) :
    Calls Tryd.prog 17 #[.agg #[.int .i64 tk, .string tt, .int .i64 ti, .int .i64 l, .int .i64 c, .int .i64 o]] w fun e w' => e = .returned (.tuple #[.string ⟨(wrt (tk, tt.data.toList, ti)).1.toArray⟩, .int .i64 (wrt (tk, tt.data.toList, ti)).2]) ∧ Below w.heap.size w w' := by
  have HL := show Hid (Laid w) from hL
  have HP := show Hid (Pows w) from hP
  clear hL hP
  obtain ⟨rt, hrt⟩ : ∃ rt : ByteArray, rt.data.toList = rawText (tk, tt.data.toList, ti) := ⟨⟨(rawText (tk, tt.data.toList, ti)).toArray⟩, by simp⟩
  have hrs : rt.size ≤ 140737488355328 := by
    have e : rt.data.toList.length = rt.size := rfl
    rw [← e, hrt]
    unfold rawText
    split
    · have h := Lib.itoa_length_le ti h0 h1
      show (Lib.itoa ti).length ≤ _
      omega
    · exact hs
  have HX := show Hid (wrt (tk, tt.data.toList, ti) = if (Tk.cut rt.data.toList).2.2 = 0 ∧ (Tk.cut rt.data.toList).1 = (tk, tt.data.toList, ti) then (rt.data.toList, 0) else ([], 2)) from by
    show wrt _ = _
    unfold wrt
    rw [← hrt]
  have CC := show Hid (∀ w1, Below w.heap.size w w1 → Calls Tryd.prog 26 #[.string rt] w1 fun e w' => e = .returned (cutV (Tk.cut rt.data.toList)) ∧ Below w1.heap.size w1 w') from fun w1 hb => cut_any w1 rt hrs (HL.out.later hb)
  have CI := show Hid (tk = 2 → ∀ w1, Below w.heap.size w w1 → Calls Tryd.prog 34 #[.int .i64 ti] w1 fun e w' => e = .returned (.string rt) ∧ Below w1.heap.size w1 w') from fun h w1 hb => by
    have hr : (⟨(Lib.itoa ti).toArray⟩ : ByteArray) = rt := by
      rw [← bytes_back rt, hrt]
      unfold rawText
      rw [if_pos h]
    have := Tryd.strconv_Itoa ti h0 h1 w1 (HP.out.later hb)
    rw [hr] at this
    refine this.mono ?_
    rintro e w' ⟨rfl, k, os, rfl⟩
    exact ⟨rfl, below_grow _ _ _⟩
  have HR2 := show Hid (tk ≠ 2 → rt = tt) from fun h => by
    rw [← bytes_back rt, hrt]
    unfold rawText
    rw [if_neg h]
  clear hrt hrs h0 h1
  generalize wrt (tk, tt.data.toList, ti) = ans at *
  generalize Tk.cut rt.data.toList = ct at *
  obtain ⟨⟨ck, cs, ci⟩, cn, ce⟩ := ct
  by_cases h2 : tk = 2
  · subst h2
    have CI2 := show Hid (∀ w1, Below w.heap.size w w1 → Calls Tryd.prog 34 #[.int .i64 ti] w1 fun e w' => e = .returned (.string rt) ∧ Below w1.heap.size w1 w') from CI.out rfl
    clear HR2 CI
    go_enter Tryd.func17, Tryd.ntmps17
    go_wp2_with fail
    refine (CI2.out _ (below_alloc _ _)).mono ?_
    rintro e w0 ⟨rfl, hb0⟩
    have HB0 := show Hid (Below w.heap.size w w0) from (below_alloc _ _).trans (hb0.mono (by simp))
    have HT0 := show Hid (T6 w0 w.heap.size (.int .i64 2) (.string tt) (.int .i64 ti) (.int .i64 0) (.int .i64 0) (.int .i64 0)) from (hb0.block _ (by simp)).trans (heap_alloc_new _ _)
    clear hb0 CI2
    go_wp2_with fail
    refine (CC.out _ HB0.out).mono ?_
    rintro e w1 ⟨rfl, hb⟩
    have HB := show Hid (Below w.heap.size w w1) from HB0.out.trans (hb.mono HB0.out.size)
    have HT := show Hid (T6 w1 w.heap.size (.int .i64 2) (.string tt) (.int .i64 ti) (.int .i64 0) (.int .i64 0) (.int .i64 0)) from (hb.block _ (lt_of_block HT0.out)).trans HT0.out
    have hlt := lt_of_block HT.out
    clear hb CC HB0 HT0
    unfold cutV tokV
    have hc0 := HT.out.c0; have hc1 := HT.out.c1; have hc2 := HT.out.c2; have hc3 := HT.out.c3; have hc4 := HT.out.c4; have hc5 := HT.out.c5
    by_cases hall : ce = 0 ∧ ((ck, cs, ci) : Tk.Tok) = (2, tt.data.toList, ti)
    · have hA := HX.out
      rw [if_pos hall] at hA
      subst hA
      obtain ⟨hce, hct⟩ := hall
      simp only [Prod.mk.injEq] at hct
      obtain ⟨rfl, rfl, rfl⟩ := hct
      subst hce
      clear HX
      have hq : (tt.data.toList == tt.toList) = true := by rw [Lib.toList_data]; simp
      go_wp2_with fail
      go_ret2
      exact ⟨by rw [bytes_back]; rfl, HB.out.alloc (by omega) _⟩
    · have hA := HX.out
      rw [if_neg hall] at hA
      subst hA
      clear HX
      have HNE := show Hid (¬ (ce = 0 ∧ ck = 2 ∧ cs = tt.toList ∧ ci = ti)) from by
        rw [Lib.toList_data]
        rintro ⟨a, b, c, d⟩
        exact hall ⟨a, by rw [b, c, d]⟩
      clear hall
      by_cases hce : ce = 0
      · subst hce
        go_wp2_with fail
        all_goals
          go_ret2
          first
          | exact ⟨rfl, HB.out.alloc (by omega) _⟩
          | exact absurd ⟨by first | rfl | trivial, by first | assumption | rfl | trivial, by first | assumption | rfl | trivial, by first | assumption | rfl | trivial⟩ HNE.out
      · have hce0 : (ce != 0) = true := by simp [hce]
        go_wp2_with fail
        go_ret2
        exact ⟨rfl, HB.out.alloc (by omega) _⟩
  · have hk2 : (tk == 2) = false := beq_eq_false_iff_ne.2 h2
    have hr2 := HR2.out h2
    subst hr2
    clear HR2 CI
    go_enter Tryd.func17, Tryd.ntmps17
    go_wp2_with fail
    refine (CC.out _ (below_alloc _ _)).mono ?_
    rintro e w1 ⟨rfl, hb⟩
    have HB := show Hid (Below w.heap.size w w1) from (below_alloc _ _).trans (hb.mono (by simp))
    have HT := show Hid (T6 w1 w.heap.size (.int .i64 tk) (.string rt) (.int .i64 ti) (.int .i64 0) (.int .i64 0) (.int .i64 0)) from (hb.block _ (by simp)).trans (heap_alloc_new _ _)
    have hlt := lt_of_block HT.out
    clear hb CC
    unfold cutV tokV
    have hc0 := HT.out.c0; have hc1 := HT.out.c1; have hc2 := HT.out.c2; have hc3 := HT.out.c3; have hc4 := HT.out.c4; have hc5 := HT.out.c5
    by_cases hall : ce = 0 ∧ ((ck, cs, ci) : Tk.Tok) = (tk, rt.data.toList, ti)
    · have hA := HX.out
      rw [if_pos hall] at hA
      subst hA
      obtain ⟨hce, hct⟩ := hall
      simp only [Prod.mk.injEq] at hct
      obtain ⟨rfl, rfl, rfl⟩ := hct
      subst hce
      clear HX
      have hq : (rt.data.toList == rt.toList) = true := by rw [Lib.toList_data]; simp
      go_wp2_with fail
      go_ret2
      exact ⟨by rw [bytes_back]; rfl, HB.out.alloc (by omega) _⟩
    · have hA := HX.out
      rw [if_neg hall] at hA
      subst hA
      clear HX
      have HNE := show Hid (¬ (ce = 0 ∧ ck = tk ∧ cs = rt.toList ∧ ci = ti)) from by
        rw [Lib.toList_data]
        rintro ⟨a, b, c, d⟩
        exact hall ⟨a, by rw [b, c, d]⟩
      clear hall
      by_cases hce : ce = 0
      · subst hce
        go_wp2_with fail
        all_goals
          go_ret2
          first
          | exact ⟨rfl, HB.out.alloc (by omega) _⟩
          | exact absurd ⟨by first | rfl | trivial, by first | assumption | rfl | trivial, by first | assumption | rfl | trivial, by first | assumption | rfl | trivial⟩ HNE.out
      · have hce0 : (ce != 0) = true := by simp [hce]
        go_wp2_with fail
        go_ret2
        exact ⟨rfl, HB.out.alloc (by omega) _⟩
end Go.Proofs.YtgcoalcfhflfiaaDoor
