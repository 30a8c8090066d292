/-
  Layer 12's levels, at any term, without a map of what is known. No condition.
-/
import Derived.Test.YtkpbpecikibohaaDoorYNodes
namespace Go.Proofs.YtkpbpecikibohaaDoor.Ya
open Go.RowKit Go.Maps
open Fm (Nd)
open Ty (Tm levF levL)
set_option linter.unusedSimpArgs false

theorem levF_eq (x : Tm) (m : Nat) : levF x m = levL x.sub m 0 + 1 := by cases x; rw [levF]; rfl
theorem levL_bd : ∀ (s : List Tm) (m d : Nat), d + 1 ≤ m → levL s m d + 1 ≤ m
  | [], m, d, h => by rw [levL]; exact h
  | x :: r, m, d, h => by
    rw [levL]
    split
    · exact h
    · exact levL_bd r m _ (by omega)
theorem neq_nil (w : World) : (binOp .neq 124 (.map none) (.map none)).run Tryd.prog w = .ok (.bool false) w := by kernel_rfl
theorem look_nil (a : Addr) (w : World) : (Instr.lookup 124 (.map none) (.pointer (some a)) true).run Tryd.prog w = .ok (.tuple #[.int .i64 0, .bool false]) w := by kernel_rfl
set_option maxRecDepth 100000 in
set_option maxHeartbeats 2000000 in
theorem levels_any : ∀ (sz : Nat) (x : Tm), x.rk < sz → ∀ (w : World) (L : Nat) (sv : Value), Kid w L x sv → Gt x → L ≤ w.heap.size → ∀ m : Nat, 1 ≤ m → m ≤ 1025 →
    Calls Tryd.prog 50 #[sv, .int .i64 (m : Int), .map none] w fun e w' => e = .returned (.int .i64 (levF x m : Int)) ∧ Below w.heap.size w w'
  | 0, _, h, _, _, _, _, _, _, _, _, _ => absurd h (Nat.not_lt_zero _)
  | sz + 1, x, hsz, w, L, sv, hK, hG, hL, m, h1, h2 => by
    have KC := show Hid (∀ y ∈ x.sub, ∀ (W : World) (kv : Value), Kid W L y kv → L ≤ W.heap.size → ∀ q : Nat, 1 ≤ q → q ≤ 1025 → Calls Tryd.prog 50 #[kv, .int .i64 (q : Int), .map none] W fun e w' => e = .returned (.int .i64 (levF y q : Int)) ∧ Below W.heap.size W w') from
      fun y hy W kv hk hl q a b => levels_any sz y (by have := Ty.rk_sub hy; omega) W L kv hk (hG.sub.2 y hy) hl q a b
    obtain ⟨p, c, rfl, hat⟩ := hK.subs
    have HA := show Hid _ from hat
    have hlen : x.sub.length ≤ 140737488351232 := hG.sub.1
    have HN := show Hid (levL (x.sub.drop 0) m 0 + 1 = levF x m) from by rw [List.drop_zero]; exact (levF_eq x m).symm
    generalize levF x m = ans at *
    clear hK hat hG
    generalize x.sub = s at *
    go_enter Tryd.func50, Tryd.ntmps50
    go_wp2_with fail
    go_loopw [7, 8, 9, 10, 13] (fun y _ _ _ i wr => ∃ (j d : Nat), j ≤ s.length ∧ i = .int .i64 (j : Int) ∧ y = .int .i64 (d : Int) ∧ d + 1 ≤ m ∧ Hid (levL (s.drop j) m d + 1 = ans) ∧ Hid (Below w.heap.size w wr)) (fun _ _ _ _ i _ => s.length - (intOf i).toNat)
    case atStart => exact ⟨0, 0, Nat.zero_le _, rfl, rfl, h1, HN, Below.refl _ _⟩
    case round =>
      obtain ⟨j, d, hj, rfl, rfl, hd, HF, HB⟩ := hrel
      clear HN
      by_cases hlt : j < s.length
      · obtain ⟨b, o, hbl, rfl, hat⟩ := HA.out (by omega)
        have hBL : Below L w wr := HB.out.mono hL
        obtain ⟨kv, h5, hkid⟩ := hat wr hBL j hlt
        have hmem : s[j] ∈ s := List.getElem_mem hlt
        have hst := HF.out
        rw [List.drop_eq_getElem_cons hlt, levL] at hst
        have HST := show Hid _ from hst
        have hsz := HB.out.size
        have KC2 := show Hid (∀ q : Nat, 1 ≤ q → q ≤ 1025 → Calls Tryd.prog 50 #[kv, .int .i64 (q : Int), .map none] wr fun e w' => e = .returned (.int .i64 (levF s[j] q : Int)) ∧ Below wr.heap.size wr w') from
          fun q a1 a2 => KC.out s[j] hmem wr kv hkid (by omega) q a1 a2
        generalize s[j] = y at *
        obtain ⟨a0, a1, a2, a3, a4⟩ := h5
        have hji : (j : Int) < (s.length : Int) := by omega
        clear hst HF hat hkid hmem hBL KC
        by_cases hdm : d + 1 = m
        · have hst := HST.out
          rw [if_pos hdm] at hst
          subst hdm
          subst hst
          clear HST
          have e1 : ((d + 1 : Nat) : Int) - 1 = (d : Int) := by omega
          go_wp2_with fail
          go_ret
          exact ⟨ret_int (by omega), HB.out⟩
        · have hst := HST.out
          rw [if_neg hdm] at hst
          have hne : ((d : Int) == (m : Int) - 1) = false := by simp; omega
          have HF2 := show Hid _ from hst
          have he1 : (m : Int) - 1 = ((m - 1 : Nat) : Int) := by omega
          have HE1 := show Hid ((m : Int) - 1 = ((m - 1 : Nat) : Int)) from he1
          have hlk := fun a => look_nil a wr
          clear hst HST he1
          go_wp2_with fail
          rw [HE1.out]
          refine Calls.mono (KC2.out (m - 1) (by omega) (by omega)) ?_
          rintro e w2 ⟨rfl, hb2⟩
          have HBN := show Hid (Below w.heap.size w w2) from HB.out.trans (hb2.mono hsz)
          generalize levF y (m - 1) = q at *
          have hnm := neq_nil w2
          clear hb2 HB KC2 a0 a1 a2 a3 a4 HE1 hlk
          go_wp2_with fail
          go_roundw
          case rel => exact ⟨j + 1, max d (min q (m - 1)), by omega, by go_num, by go_num, by omega, HF2, HBN⟩
          case measure => first | (simp [intOf]; done) | (simp [intOf]; omega)
      · have hje : j = s.length := by omega
        have hst := HF.out
        rw [hje, List.drop_length, levL] at hst
        subst hst
        have hji : ¬ (j : Int) < (s.length : Int) := by omega
        clear hje HF
        go_wp2_with fail
        go_ret
        exact ⟨ret_int (by omega), HB.out⟩
end Go.Proofs.YtkpbpecikibohaaDoor.Ya
