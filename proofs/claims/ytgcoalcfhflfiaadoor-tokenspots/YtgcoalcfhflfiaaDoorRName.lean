/-
  The document's calls At and Name: for every text and every place. No condition beyond the text's size.
-/
import Derived.Test.YtgcoalcfhflfiaaDoorROn
import Derived.Test.YtgcoalcfhflfiaaDoorTName
namespace Go.Proofs.YtgcoalcfhflfiaaDoor
open Go.RowKit Go.Sort

set_option maxRecDepth 100000 in
set_option maxHeartbeats 1000000 in
theorem rat_any (w : World) (s : ByteArray) (off : Int) (hs : s.size ≤ 140737488355328) :
    Calls Tryd.prog 10 #[.string s, .int .i64 off] w fun e w' => e = .returned (.agg #[.int .i64 (Tk.spot s.data.toList (atOff s off)).1, .int .i64 (Tk.spot s.data.toList (atOff s off)).2, .int .i64 (atOff s off : Int)]) ∧ Below w.heap.size w w' := by
  have HR1 : Hid (S3 (w.alloc (Obj.cells #[.int .i64 0, .int .i64 0, .int .i64 0] 23)) w.heap.size 0 0 0) := heap_alloc_new _ _
  have KO := show Hid (∀ (n : Nat) (x : Int), x = (n : Int) → n ≤ s.size → Calls Tryd.prog 25 #[.string s, .agg #[.int .i64 1, .int .i64 1, .int .i64 0], .int .i64 x] (w.alloc (Obj.cells #[.int .i64 0, .int .i64 0, .int .i64 0] 23)) fun e w' => e = .returned (.agg #[.int .i64 (Tk.spot s.data.toList n).1, .int .i64 (Tk.spot s.data.toList n).2, .int .i64 (n : Int)]) ∧ Below (w.alloc (Obj.cells #[.int .i64 0, .int .i64 0, .int .i64 0] 23)).heap.size (w.alloc (Obj.cells #[.int .i64 0, .int .i64 0, .int .i64 0] 23)) w') from fun n x hx hn => by
    rw [hx]
    exact on_any _ s 1 1 0 n hs (by omega) hn
  obtain ⟨n, hn⟩ : ∃ n, n = atOff s off := ⟨_, rfl⟩
  rw [← hn]
  have hnle : n ≤ s.size := by
    rw [hn]; unfold atOff
    split
    · omega
    · split <;> omega
  have hor : (off < 0 ∧ n = 0) ∨ ((s.size : Int) < off ∧ n = s.size ∧ 0 ≤ off) ∨ (off = (n : Int)) := by
    rw [hn]; unfold atOff
    by_cases h1 : off < 0
    · rw [if_pos h1]; exact Or.inl ⟨h1, rfl⟩
    · rw [if_neg h1]
      by_cases h2 : (s.size : Int) < off
      · rw [if_pos h2]; exact Or.inr (Or.inl ⟨h2, rfl, by omega⟩)
      · rw [if_neg h2]; exact Or.inr (Or.inr (by omega))
  clear hn
  have C : ∀ x : Int, x = (n : Int) → Hid (Calls Tryd.prog 25 #[.string s, .agg #[.int .i64 1, .int .i64 1, .int .i64 0], .int .i64 x] (w.alloc (Obj.cells #[.int .i64 0, .int .i64 0, .int .i64 0] 23)) fun e w' => e = .returned (.agg #[.int .i64 (Tk.spot s.data.toList n).1, .int .i64 (Tk.spot s.data.toList n).2, .int .i64 (n : Int)]) ∧ Below (w.alloc (Obj.cells #[.int .i64 0, .int .i64 0, .int .i64 0] 23)).heap.size (w.alloc (Obj.cells #[.int .i64 0, .int .i64 0, .int .i64 0] 23)) w') := fun x hx => KO.out n x hx hnle
  have HC := show Hid _ from C
  clear C KO
  generalize Tk.spot s.data.toList n = sp at *
  rcases hor with ⟨h1, h2⟩ | ⟨h1, h2, h3⟩ | h1
  · have HN := show Hid ((0 : Int) = (n : Int)) from by rw [h2]; rfl
    clear h2
    go_enter Tryd.func10, Tryd.ntmps10
    go_wp2_with fail
    refine (HC.out _ HN.out).out.mono ?_
    rintro e w1 ⟨rfl, hb⟩
    have HB := show Hid (Below w.heap.size w w1) from (below_alloc _ _).trans (hb.mono (by simp))
    have HR := show Hid (S3 w1 w.heap.size 0 0 0) from HR1.out.keep hb (by simp)
    have hr0 := HR.out.c0; have hr1 := HR.out.c1; have hr2 := HR.out.c2; have hrf := HR.out.fr
    clear hb HC HR1
    go_wp2_with fail
    refine bodyPost_ret (results_cell_row rfl _ _ w.heap.size _ _ _ _ rfl (HR.out.s3 _ _ _) Tryd.underlying23 rfl (by kernel_rfl)) rfl ?_
    exact ⟨rfl, below_set3 HB.out (Nat.le_refl _) _ _ _⟩
  · have HN := show Hid ((s.size : Int) = (n : Int)) from by rw [h2]; rfl
    clear h2
    go_enter Tryd.func10, Tryd.ntmps10
    go_wp2_with fail
    refine (HC.out _ HN.out).out.mono ?_
    rintro e w1 ⟨rfl, hb⟩
    have HB := show Hid (Below w.heap.size w w1) from (below_alloc _ _).trans (hb.mono (by simp))
    have HR := show Hid (S3 w1 w.heap.size 0 0 0) from HR1.out.keep hb (by simp)
    have hr0 := HR.out.c0; have hr1 := HR.out.c1; have hr2 := HR.out.c2; have hrf := HR.out.fr
    clear hb HC HR1
    go_wp2_with fail
    refine bodyPost_ret (results_cell_row rfl _ _ w.heap.size _ _ _ _ rfl (HR.out.s3 _ _ _) Tryd.underlying23 rfl (by kernel_rfl)) rfl ?_
    exact ⟨rfl, below_set3 HB.out (Nat.le_refl _) _ _ _⟩
  · subst h1
    go_enter Tryd.func10, Tryd.ntmps10
    go_wp2_with fail
    refine (HC.out _ rfl).out.mono ?_
    rintro e w1 ⟨rfl, hb⟩
    have HB := show Hid (Below w.heap.size w w1) from (below_alloc _ _).trans (hb.mono (by simp))
    have HR := show Hid (S3 w1 w.heap.size 0 0 0) from HR1.out.keep hb (by simp)
    have hr0 := HR.out.c0; have hr1 := HR.out.c1; have hr2 := HR.out.c2; have hrf := HR.out.fr
    clear hb HC HR1
    go_wp2_with fail
    refine bodyPost_ret (results_cell_row rfl _ _ w.heap.size _ _ _ _ rfl (HR.out.s3 _ _ _) Tryd.underlying23 rfl (by kernel_rfl)) rfl ?_
    exact ⟨rfl, below_set3 HB.out (Nat.le_refl _) _ _ _⟩
/-- Is it a name, by the document's own rule? -/
def isNameR (l : List UInt8) : Bool := match l with | [] => false | c :: r => decide ((c :: r).length ≤ 31) && Tk.isBeg c && (c :: r).all Tk.isIn
theorem run_all (f : UInt8 → Bool) : ∀ (l : List UInt8), Tk.run f l = l.length ↔ l.all f = true
  | [] => by simp [Tk.run]
  | c :: r => by
    rw [Tk.run_cons, List.all_cons, List.length_cons]
    cases hf : f c
    · simp
    · simp only [if_true, Bool.true_and]
      rw [← run_all f r]
      omega
theorem sign_kind (l : List UInt8) : ∀ gs : List (List UInt8), (Tk.signIn gs l).1.1 ≠ 1
  | [] => by simp [Tk.signIn, Tk.bad]
  | g :: gs => by
    unfold Tk.signIn
    split
    · simp
    · exact sign_kind l gs
theorem meaning_head (r : Nat) (c : UInt8) (t : List UInt8) (h : (Tk.meaning r).2 = c :: t) : c.toNat < 128 := by
  unfold Tk.meaning at h
  repeat' split at h
  all_goals first | (cases h; done) | (simp only [List.cons.injEq] at h; rw [← h.1]; decide)
theorem isName_eq (l : List UInt8) : isName l = isNameR l := by
  cases l with
  | nil => rfl
  | cons c r =>
    unfold isName isNameR
    simp only
    rw [cut_cons]
    cases hb : Tk.isBeg c with
    | true =>
      simp only [if_true]
      unfold Tk.cutName
      have hle := Tk.run_le Tk.isIn (c :: r)
      by_cases h31 : 31 < Tk.run Tk.isIn (c :: r)
      · rw [if_pos h31]
        have : ¬ (c :: r).length ≤ 31 := by omega
        simp [Tk.bad]
        intro h
        simp only [List.length_cons] at this
        omega
      · rw [if_neg h31]
        rw [Bool.eq_iff_iff]
        simp only [Bool.and_eq_true, decide_eq_true_eq, beq_iff_eq, and_true, true_and]
        rw [← run_all Tk.isIn (c :: r)]
        constructor
        · intro h
          have hl := congrArg List.length h
          rw [List.length_take] at hl
          exact ⟨by omega, by omega⟩
        · rintro ⟨h1, h2⟩
          rw [h2, List.take_length]
    | false =>
      simp only [Bool.false_eq_true, if_false, Bool.and_false, Bool.false_and]
      cases hd : Tk.isDig c with
      | true =>
        simp only [if_true]
        unfold Tk.cutNum
        split <;> simp [Tk.bad]
      | false =>
        simp only [Bool.false_eq_true, if_false]
        split
        · unfold Tk.cutSign
          rw [decide_eq_false (sign_kind _ _), Bool.false_and]
        · rename_i hc
          unfold Tk.cutRune
          split
          · simp [Tk.bad]
          · cases hq : ((Tk.meaning (Tk.dec (c :: r)).1).2 == c :: r) with
            | false => simp only [Bool.and_false]
            | true => exact absurd (meaning_head _ _ _ (beq_iff_eq.1 hq)) hc
set_option maxRecDepth 100000 in
set_option maxHeartbeats 1000000 in
theorem rname_any (w : World) (s : ByteArray) (hs : s.size ≤ 140737488355328) :
    Calls Tryd.prog 12 #[.string s] w fun e w' => e = .returned (.bool (isNameR s.data.toList)) ∧ w' = w := by
  have HSL := show Hid (s.data.toList.length = s.size) from rfl
  have KL := show Hid (∀ (w : World) (c : UInt8), Calls Tryd.prog 27 #[.int .u8 (c.toNat : Int)] w fun e w' => e = .returned (.bool (Tk.isBeg c)) ∧ w' = w) from rletter_any
  have KW := show Hid (∀ (w : World) (c : UInt8), Calls Tryd.prog 28 #[.int .u8 (c.toNat : Int)] w fun e w' => e = .returned (.bool (Tk.isIn c)) ∧ w' = w) from rwithin_any
  by_cases h0 : 0 < s.size
  · have HX := show Hid (isNameR s.data.toList = (decide (s.size ≤ 31) && Tk.isBeg s[0] && s.data.toList.all Tk.isIn)) from by
      have e := drop_byte s 0 h0
      rw [List.drop_zero] at e
      have h2 : isNameR s.data.toList = (decide (s.data.toList.length ≤ 31) && Tk.isBeg s[0] && s.data.toList.all Tk.isIn) := by
        rw [e]; rfl
      rw [HSL.out] at h2
      exact h2
    have q0 : ((s.size : Int) == 0) = false := beq_eq_false_iff_ne.2 (by omega)
    generalize isNameR s.data.toList = ans at *
    by_cases h31 : 31 < s.size
    · have q1 : decide (31 < (s.size : Int)) = true := decide_eq_true (by omega)
      rw [decide_eq_false (by omega), Bool.false_and, Bool.false_and] at HX
      have hA := HX.out
      subst hA
      clear HX h31
      go_enter Tryd.func12, Tryd.ntmps12
      go_wp2_with fail
      go_ret
      exact ⟨rfl, rfl⟩
    · have q1 : decide (31 < (s.size : Int)) = false := decide_eq_false (by omega)
      rw [decide_eq_true (by omega), Bool.true_and] at HX
      cases hb : Tk.isBeg s[0] with
      | false =>
        rw [hb, Bool.false_and] at HX
        have hA := HX.out
        subst hA
        have HBG := show Hid (Tk.isBeg s[0] = false) from hb
        clear HX hb
        go_enter Tryd.func12, Tryd.ntmps12
        go_wp2_with fail
        refine (KL.out _ s[0]).mono ?_
        rintro e w1 ⟨rfl, rfl⟩
        rw [HBG.out]
        go_wp2_with fail
        go_ret
        exact ⟨rfl, rfl⟩
      | true =>
        rw [hb, Bool.true_and] at HX
        have HX2 := show Hid ((s.data.toList.drop 0).all Tk.isIn = ans) from HX.out.symm
        have HBG := show Hid (Tk.isBeg s[0] = true) from hb
        clear HX hb
        go_enter Tryd.func12, Tryd.ntmps12
        go_wp2_with fail
        refine (KL.out _ s[0]).mono ?_
        rintro e w1 ⟨rfl, rfl⟩
        rw [HBG.out]
        go_wp2_with fail
        go_loopw [3] (fun i wr => ∃ k : Nat, k ≤ s.size ∧ i = .int .i64 k ∧ Hid ((s.data.toList.drop k).all Tk.isIn = ans) ∧ wr = w1) (fun i _ => s.size - (intOf i).toNat)
        case atStart => exact ⟨0, by omega, rfl, HX2, rfl⟩
        case round =>
          obtain ⟨k, hk, rfl, HK, rfl⟩ := hrel
          clear HX2
          by_cases hlt : k < s.size
          · have hK := HK.out
            rw [drop_byte s k hlt, List.all_cons] at hK
            cases hin : Tk.isIn s[k] with
            | true =>
              rw [hin, Bool.true_and] at hK
              have HK2 := show Hid ((s.data.toList.drop (k + 1)).all Tk.isIn = ans) from hK
              have HIN := show Hid (Tk.isIn s[k] = true) from hin
              clear hK HK hin
              go_wp2_with fail
              refine (KW.out _ s[k]).mono ?_
              rintro e w2 ⟨rfl, rfl⟩
              rw [HIN.out]
              go_wp2_with fail
              go_roundw
              case rel => exact ⟨k + 1, by omega, by go_num, HK2, trivial⟩
              case measure => simp [intOf]; omega
            | false =>
              rw [hin, Bool.false_and] at hK
              subst hK
              have HIN := show Hid (Tk.isIn s[k] = false) from hin
              clear HK hin
              go_wp2_with fail
              refine (KW.out _ s[k]).mono ?_
              rintro e w2 ⟨rfl, rfl⟩
              rw [HIN.out]
              go_wp2_with fail
              go_ret
              exact ⟨rfl, rfl⟩
          · have hK := HK.out
            rw [List.drop_eq_nil_of_le (by rw [HSL.out]; omega)] at hK
            have hK2 : true = ans := hK
            subst hK2
            clear HK hK
            go_wp2_with fail
            go_ret
            exact ⟨rfl, rfl⟩
  · have hl : s.data.toList = [] := List.eq_nil_of_length_eq_zero (by rw [HSL.out]; omega)
    rw [hl]
    have hz : s.size = 0 := by omega
    have q0 : ((s.size : Int) == 0) = true := by rw [hz]; rfl
    clear hl hz h0
    go_enter Tryd.func12, Tryd.ntmps12
    go_wp2_with fail
    go_ret
    exact ⟨rfl, rfl⟩
end Go.Proofs.YtgcoalcfhflfiaaDoor
