/-
  strings.Cut at one sign: for every text. No condition.
-/
import Derived.Test.YthkolkmcnpafiaaDoorBUndec
import Derived.Test.YthkolkmcnpafiaaDoorBParse2
namespace Go.Proofs.YthkolkmcnpafiaaDoor
open Go.RowKit
open Bs (Ok wd)

theorem results_three {P : Program} {fn : Func} {p q r : Tmp} (h : fn.results = #[.tmp p, .tmp q, .tmp r]) (tmps : Array Value) (w : World) (_u : Unit) : (results fn tmps).run P w = .ok (.tuple #[tmps.getD p undef, tmps.getD q undef, tmps.getD r undef]) w := by
  simp [results, h]
set_option maxRecDepth 100000 in
set_option maxHeartbeats 2000000 in
theorem index_any (w : World) (s : ByteArray) (c : UInt8) : Calls Tryd.prog 61 #[.string s, .string ⟨#[c]⟩] w fun e w' => e = .returned (.int .i64 (Lib.indexByte s.data.toList c)) ∧ w' = w := by
  have KB := show Hid (Calls Tryd.prog 63 #[.string s, .int .u8 (c.toNat : Int)] w fun e w' => e = .returned (.int .i64 (Lib.indexByte s.data.toList c)) ∧ w' = w) from by
    have := Tryd.stringslite_IndexByte s (c.toNat : Int) w
    rwa [show ((c.toNat : Int)).toNat.toUInt8 = c by simp] at this
  go_enter Tryd.func61, Tryd.ntmps61
  go_wp2_with fail
  · go_ret
    have h : [c] = s.toList := by simpa using ‹([c] == s.toList) = true›
    refine ⟨ret_int ?_, rfl⟩
    rw [← ByteArray.toList_eq s, ← h]
    simp [Lib.indexByte]
  · refine KB.out.mono ?_
    rintro e w' ⟨rfl, rfl⟩
    go_wp2_with fail
    go_ret
    exact ⟨rfl, rfl⟩
theorem index_cut (c : UInt8) : ∀ l : List UInt8, (Lib.indexByte l c = -1 ∧ Bs.cutAt c l = (l, [], false)) ∨ ∃ k, k < l.length ∧ Lib.indexByte l c = (k : Int) ∧ Bs.cutAt c l = (l.take k, l.drop (k + 1), true)
  | [] => Or.inl ⟨rfl, rfl⟩
  | x :: l => by
    by_cases h : x = c
    · exact Or.inr ⟨0, by simp, by simp [Lib.indexByte, h], by simp [Bs.cutAt, h]⟩
    · have hx : (x == c) = false := by simpa using h
      rcases index_cut c l with ⟨h1, h2⟩ | ⟨k, h1, h2, h3⟩
      · exact Or.inl ⟨by simp [Lib.indexByte, hx, h1], by rw [Bs.cutAt, if_neg h, h2]⟩
      · refine Or.inr ⟨k + 1, by simpa using h1, ?_, by rw [Bs.cutAt, if_neg h, h3]; rfl⟩
        have hk : ((k : Int) == -1) = false := by rw [beq_eq_false_iff_ne]; omega
        simp only [Lib.indexByte, hx, h2, hk, Bool.false_eq_true, if_false]
        omega
/-- A text as a value. -/
def strB (l : List UInt8) : ByteArray := ⟨l.toArray⟩
theorem strB_self (s : ByteArray) : strB s.data.toList = s := by
  cases s
  simp [strB]
theorem ext_take (s : ByteArray) (k : Nat) : s.extract 0 k = strB (s.data.toList.take k) := by
  apply ByteArray.ext
  show (s.extract 0 k).data = _
  rw [ByteArray.data_extract]
  apply Array.toList_inj.1
  simp [strB]
theorem ext_drop (s : ByteArray) (k : Nat) : s.extract k s.size = strB (s.data.toList.drop k) := by
  apply ByteArray.ext
  show (s.extract k s.size).data = _
  rw [ByteArray.data_extract]
  apply Array.toList_inj.1
  have : s.size = s.data.toList.length := rfl
  rw [this]
  simp [strB]
  exact List.take_of_length_le (by rw [List.length_drop]; exact Nat.le_refl _)
set_option maxRecDepth 100000 in
set_option maxHeartbeats 2000000 in
theorem cutI_any (w : World) (s : ByteArray) (c : UInt8) (hs : s.size ≤ 9223372036854775807) : Calls Tryd.prog 57 #[.string s, .string ⟨#[c]⟩] w fun e w' => e = .returned (.tuple #[.string (strB (Bs.cutAt c s.data.toList).1), .string (strB (Bs.cutAt c s.data.toList).2.1), .bool (Bs.cutAt c s.data.toList).2.2]) ∧ Below w.heap.size w w' := by
  have K := show Hid (Calls Tryd.prog 61 #[.string s, .string ⟨#[c]⟩] w fun e w' => e = .returned (.int .i64 (Lib.indexByte s.data.toList c)) ∧ w' = w) from index_any w s c
  rcases index_cut c s.data.toList with ⟨h1, h2⟩ | ⟨k, h1, h2, h3⟩
  · rw [h1] at K
    have HE := show Hid (strB s.data.toList = s) from strB_self s
    rw [h2]
    clear h1 h2
    go_enter Tryd.func57, Tryd.ntmps57
    go_wp2_with (go_at_call 61; refine K.out.mono ?_; rintro e w' ⟨rfl, rfl⟩)
    refine bodyPost_ret (results_three rfl _ _ ()) rfl ?_
    exact ⟨by rw [HE.out]; rfl, Below.refl _ _⟩
  · rw [h2] at K
    have hk : k < s.size := h1
    have HE := show Hid (s.extract 0 k = strB (s.data.toList.take k) ∧ s.extract (k + 1) s.size = strB (s.data.toList.drop (k + 1))) from ⟨ext_take s k, ext_drop s (k + 1)⟩
    rw [h3]
    clear h1 h2 h3
    go_enter Tryd.func57, Tryd.ntmps57
    go_wp2_with (go_at_call 61; refine K.out.mono ?_; rintro e w' ⟨rfl, rfl⟩)
    go_region
    all_goals go_wp2
    refine bodyPost_ret (results_three rfl _ _ ()) rfl ?_
    exact ⟨by rw [← HE.out.1, ← HE.out.2]; rfl, (Below.refl _ _).drew⟩
set_option maxRecDepth 100000 in
theorem cut_any (w : World) (s : ByteArray) (c : UInt8) (hs : s.size ≤ 9223372036854775807) : Calls Tryd.prog 50 #[.string s, .string ⟨#[c]⟩] w fun e w' => e = .returned (.tuple #[.string (strB (Bs.cutAt c s.data.toList).1), .string (strB (Bs.cutAt c s.data.toList).2.1), .bool (Bs.cutAt c s.data.toList).2.2]) ∧ Below w.heap.size w w' := by
  have K := show Hid (Calls Tryd.prog 57 #[.string s, .string ⟨#[c]⟩] w fun e w' => e = .returned (.tuple #[.string (strB (Bs.cutAt c s.data.toList).1), .string (strB (Bs.cutAt c s.data.toList).2.1), .bool (Bs.cutAt c s.data.toList).2.2]) ∧ Below w.heap.size w w') from cutI_any w s c hs
  generalize strB (Bs.cutAt c s.data.toList).1 = a at *
  generalize strB (Bs.cutAt c s.data.toList).2.1 = b at *
  generalize (Bs.cutAt c s.data.toList).2.2 = f at *
  go_enter Tryd.func50, Tryd.ntmps50
  go_wp2_with (go_at_call 57; refine K.out.mono ?_; rintro e w1 ⟨rfl, hb⟩; have HB := show Hid (Below w.heap.size w w1) from hb; clear hb)
  refine bodyPost_ret (results_three rfl _ _ ()) rfl ?_
  exact ⟨rfl, HB.out⟩
/-! Numbers. -/
theorem digs_val : ∀ (l : List UInt8) (acc : Nat), digs acc l = if l.all Bs.dg = true then some (l.foldl (fun v c => v * 10 + (c.toNat - 48)) acc) else none
  | [], acc => rfl
  | c :: l, acc => by
    rw [digs]
    by_cases h : c.toNat < 48 ∨ 57 < c.toNat
    · have : Bs.dg c = false := by
        unfold Bs.dg
        rcases h with h | h
        · rw [decide_eq_false (show ¬ 48 ≤ c.toNat by omega)]; rfl
        · rw [decide_eq_false (show ¬ c.toNat ≤ 57 by omega)]; simp
      rw [if_pos h, List.all_cons, this]
      rfl
    · have : Bs.dg c = true := by
        unfold Bs.dg
        rw [decide_eq_true (show 48 ≤ c.toNat by omega), decide_eq_true (show c.toNat ≤ 57 by omega)]; rfl
      rw [if_neg h, digs_val l, List.all_cons, this, Bool.true_and, List.foldl_cons]
def numR (o : Option Nat) : Int × Int := match o with
  | none => (0, 2)
  | some n => ((n : Int), 0)
theorem undec_num (s : ByteArray) : undecB s 1023 = numR (Bs.num s.data.toList) := by
  have hsz : s.size = s.data.toList.length := rfl
  have hd := digs_val s.data.toList 0
  unfold undecB Bs.num
  rw [hsz, hd]
  generalize s.data.toList = l at *
  by_cases h1 : l.length = 0 ∨ 10 < l.length
  · rw [if_pos h1, if_neg]
    · rfl
    · rintro ⟨q1, q2, _⟩
      rcases h1 with h | h
      · exact q1 (List.eq_nil_of_length_eq_zero h)
      · omega
  · rw [if_neg h1]
    have hne : l ≠ [] := fun e => h1 (Or.inl (by rw [e]; rfl))
    by_cases h2 : 2 ≤ l.length ∧ (l.getD 0 0).toNat = 48
    · rw [if_pos h2, if_neg]
      · rfl
      · rintro ⟨_, _, _, q4, _⟩
        rcases q4 with h | h
        · omega
        · cases l with
          | nil => exact hne rfl
          | cons c r =>
            apply h
            have : c.toNat = 48 := h2.2
            rw [List.head?_cons]
            exact congrArg some (UInt8.toNat_inj.1 this)
    · rw [if_neg h2]
      have hhd : l.length = 1 ∨ l.head? ≠ some 48 := by
        by_cases h : l.length = 1
        · exact Or.inl h
        · right
          intro e
          cases l with
          | nil => exact hne rfl
          | cons c r =>
            rw [List.head?_cons] at e
            have := Option.some.inj e
            subst this
            exact h2 ⟨by simp at h ⊢; cases r with | nil => exact absurd rfl h | cons _ _ => simp, rfl⟩
      by_cases h3 : l.all Bs.dg = true
      · rw [if_pos h3]
        by_cases h4 : Bs.val l ≤ 1023
        · rw [if_pos ⟨hne, by omega, h3, hhd, h4⟩]
          show (if (1023 : Int) < ((Bs.val l : Nat) : Int) then _ else _) = _
          rw [if_neg (by omega)]
          rfl
        · rw [if_neg (fun q => h4 q.2.2.2.2)]
          show (if (1023 : Int) < ((Bs.val l : Nat) : Int) then _ else _) = _
          rw [if_pos (by omega)]
          rfl
      · rw [if_neg h3, if_neg (fun q => h3 q.2.2.1)]
        rfl
end Go.Proofs.YthkolkmcnpafiaaDoor
