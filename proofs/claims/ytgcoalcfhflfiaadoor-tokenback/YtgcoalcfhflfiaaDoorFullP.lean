/-
  Rows of tokens of whatever size a machine can hold: at most 2^47 - 4096 bytes, so at most 2513169434843 tokens of 56 bytes; what is written of one is at most 31 bytes long.
-/
import Derived.Test.YtgcoalcfhflfiaaDoorBackP
namespace Go.Proofs.YtgcoalcfhflfiaaDoor
open Go.RowKit Go.Sort

def Rt.okF (t : Rt) : Prop := t.s.size ≤ 140737488351232 ∧ -9223372036854775808 ≤ t.n ∧ t.n ≤ 9223372036854775807
def SmallF (ts : List Rt) : Prop := ts.length ≤ 2513169434843 ∧ ∀ t ∈ ts, t.okF
theorem wrt_lengthF (t : Rt) (hk : t.okF) : (wrt t.tok).1.length ≤ 31 := by
  by_cases h : (wrt t.tok).2 = 0
  · obtain ⟨hx, hc⟩ := wrt_ok t.tok (wrt t.tok).1 (by rw [← h])
    generalize (wrt t.tok).1 = x at *
    cases x with
    | nil => simp
    | cons c y =>
      have hlow := raw_low t.tok c y hx.symm (by rw [hc]) (by rw [hc])
      have hn : (Tk.cut (c :: y)).2.1 = (c :: y).length := by rw [hc]
      have he : (Tk.cut (c :: y)).2.2 = 0 := by rw [hc]
      have h1 : (Tk.cut (c :: y)).1 = t.tok := by rw [hc]
      rw [cut_cons] at hn he h1
      rw [← hn]
      split
      · rename_i hb
        rw [if_pos hb] at he
        unfold Tk.cutName at he ⊢
        split
        · simp [Tk.bad]
        · rename_i h31
          show Tk.run Tk.isIn (c :: y) ≤ 31
          omega
      · rename_i hb
        rw [if_neg hb] at he h1 hn
        split
        · rename_i hd
          rw [if_pos hd] at he h1 hn
          rw [hn]
          have h2 : t.tok.1 = 2 := by
            rw [← h1]
            unfold Tk.cutNum at he ⊢
            split
            · rename_i hbad; rw [if_pos hbad] at he; exact absurd he (by simp [Tk.bad])
            · rfl
          unfold rawText at hx
          rw [if_pos h2] at hx
          rw [hx]
          have := Lib.itoa_length_le t.n hk.2.1 hk.2.2
          show (Lib.itoa t.n).length ≤ 31
          omega
        · have := sign_len (c :: y) Tk.signs (by decide)
          show (Tk.signIn Tk.signs (c :: y)).2.1 ≤ 31
          omega
  · rcases wrt_code t.tok with h2 | h2
    · exact absurd h2 h
    · rw [h2.2]; simp
theorem join_leF (xs : List (List UInt8)) (hn : xs.length ≤ 2513169434843) (h : ∀ x ∈ xs, x.length ≤ 31) : (Lib.join xs [32]).length ≤ 140737488355328 := by
  cases xs with
  | nil => simp [Lib.join_nil]
  | cons x r =>
    rw [Lib.join_cons, List.length_append, Lib.joinTail_length]
    have h1 := lens_le 31 r fun y hy => h y (by simp [hy])
    have h2 := h x (by simp)
    simp only [List.length_cons] at hn
    simp only [List.length_singleton, Nat.one_mul]
    omega
end Go.Proofs.YtgcoalcfhflfiaaDoor
