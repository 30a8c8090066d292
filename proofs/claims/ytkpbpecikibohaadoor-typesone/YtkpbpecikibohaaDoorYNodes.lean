/-
  Layer 12's nodes and Size, at any term. No condition.
-/
import Derived.Test.YtkpbpecikibohaaDoorYTm
namespace Go.Proofs.YtkpbpecikibohaaDoor.Ya
open Go.RowKit Go.Maps
open Fm (Nd)
open Ty (Tm nodesF nodesL)
set_option linter.unusedSimpArgs false

mutual
theorem nodes_bd : ∀ (x : Tm) (m : Nat), 1 ≤ m → 1 ≤ nodesF x m ∧ nodesF x m ≤ m
  | .mk _ _ _ _ s, m, hm => by
    rw [nodesF]
    exact nodesL_bd s m 1 (Nat.le_refl _) hm
theorem nodesL_bd : ∀ (s : List Tm) (m k : Nat), 1 ≤ k → k ≤ m → 1 ≤ nodesL s m k ∧ nodesL s m k ≤ m
  | [], m, k, h1, h2 => by rw [nodesL]; exact ⟨h1, h2⟩
  | x :: r, m, k, h1, h2 => by
    rw [nodesL]
    split
    · exact ⟨h1, h2⟩
    · have := nodes_bd x (m - k) (by omega)
      exact nodesL_bd r m _ (by omega) (by omega)
end
theorem nodesF_eq (x : Tm) (m : Nat) : nodesF x m = nodesL x.sub m 1 := by cases x; rw [nodesF]; rfl
set_option maxRecDepth 100000 in
set_option maxHeartbeats 2000000 in
theorem nodes_any : ∀ (sz : Nat) (x : Tm), x.rk < sz → ∀ (w : World) (L : Nat) (sv : Value), Kid w L x sv → Gt x → L ≤ w.heap.size → ∀ m : Nat, 1 ≤ m → m ≤ 65537 →
    Calls Tryd.prog 67 #[tmV x sv, .int .i64 (m : Int)] w fun e w' => e = .returned (.int .i64 (nodesF x m : Int)) ∧ Below w.heap.size w w'
  | 0, _, h, _, _, _, _, _, _, _, _, _ => absurd h (Nat.not_lt_zero _)
  | sz + 1, x, hsz, w, L, sv, hK, hG, hL, m, h1, h2 => by
    have KC := show Hid (∀ y ∈ x.sub, ∀ (W : World) (kv : Value), Kid W L y kv → L ≤ W.heap.size → ∀ q : Nat, 1 ≤ q → q ≤ 65537 → Calls Tryd.prog 67 #[tmV y kv, .int .i64 (q : Int)] W fun e w' => e = .returned (.int .i64 (nodesF y q : Int)) ∧ Below W.heap.size W w') from
      fun y hy W kv hk hl q a b => nodes_any sz y (by have := Ty.rk_sub hy; omega) W L kv hk (hG.sub.2 y hy) hl q a b
    have HBD := show Hid (∀ (y : Tm) (q : Nat), 1 ≤ q → 1 ≤ nodesF y q ∧ nodesF y q ≤ q) from nodes_bd
    obtain ⟨p, c, rfl, hat⟩ := hK.subs
    have HA := show Hid _ from hat
    have hlen : x.sub.length ≤ 140737488351232 := hG.sub.1
    have HN := show Hid (nodesL (x.sub.drop 0) m 1 = nodesF x m) from by rw [List.drop_zero]; exact (nodesF_eq x m).symm
    generalize nodesF x m = ans at *
    clear hK hat hG
    unfold tmV
    generalize x.k = xk at *
    generalize x.n = xn at *
    generalize x.o = xo at *
    generalize x.f = xf at *
    generalize x.sub = s at *
    go_enter Tryd.func67, Tryd.ntmps67
    go_wp2_with fail
    go_loopw [5, 7, 11] (fun y _ i wr => ∃ (j k : Nat), j ≤ s.length ∧ i = .int .i64 (j : Int) ∧ y = .int .i64 (k : Int) ∧ 1 ≤ k ∧ k ≤ m ∧ Hid (nodesL (s.drop j) m k = ans) ∧ Hid (Below w.heap.size w wr)) (fun _ _ i _ => s.length - (intOf i).toNat)
    case atStart => exact ⟨0, 1, Nat.zero_le _, rfl, rfl, Nat.le_refl _, h1, HN, below_alloc _ _⟩
    case round =>
      obtain ⟨j, k, hj, rfl, rfl, hk1, hkm, HF, HB⟩ := hrel
      clear HN
      by_cases hlt : j < s.length
      · obtain ⟨b, o, hbl, rfl, hat⟩ := HA.out (by omega)
        have hBL : Below L w wr := HB.out.mono hL
        obtain ⟨kv, h5, hkid⟩ := hat wr hBL j hlt
        have hmem : s[j] ∈ s := List.getElem_mem hlt
        have hst := HF.out
        rw [List.drop_eq_getElem_cons hlt, nodesL] at hst
        have HST := show Hid _ from hst
        have hsz := HB.out.size
        have KC2 := show Hid (∀ W : World, Below wr.heap.size wr W → ∀ q : Nat, 1 ≤ q → q ≤ 65537 → Calls Tryd.prog 67 #[tmV s[j] kv, .int .i64 (q : Int)] W fun e w' => e = .returned (.int .i64 (nodesF s[j] q : Int)) ∧ Below W.heap.size W w') from
          fun W hW q a1 a2 => KC.out s[j] hmem W kv (hkid.below (hW.mono (by omega))) (by have := hW.size; omega) q a1 a2
        have HB2 := show Hid (1 ≤ m - k → 1 ≤ nodesF s[j] (m - k) ∧ nodesF s[j] (m - k) ≤ m - k) from HBD.out s[j] (m - k)
        obtain ⟨kp, kn, kc, rfl⟩ := hkid.form
        generalize s[j] = y at *
        unfold tmV at KC2
        obtain ⟨a0, a1, a2, a3, a4⟩ := h5
        generalize y.k = yk at *
        generalize y.n = yn at *
        generalize y.o = yo at *
        generalize y.f = yf at *
        have hji : (j : Int) < (s.length : Int) := by omega
        clear hst HF hat hkid hmem hBL KC HBD
        by_cases hkm2 : k = m
        · have hst := HST.out
          rw [if_pos hkm2] at hst
          subst hkm2
          subst hst
          clear HST
          go_wp2_with fail
          go_ret
          exact ⟨rfl, HB.out.trans ((below_alloc _ _).mono hsz)⟩
        · have hst := HST.out
          rw [if_neg hkm2] at hst
          have hne : ((k : Int) == (m : Int)) = false := by simp; omega
          have e1 : (m : Int) - (k : Int) = ((m - k : Nat) : Int) := by omega
          have HF2 := show Hid _ from hst
          have HE1 := show Hid ((m : Int) - (k : Int) = ((m - k : Nat) : Int)) from e1
          clear hst HST e1
          go_wp2_with fail
          rw [HE1.out]
          refine Calls.mono (KC2.out _ (below_alloc _ _) (m - k) (by omega) (by omega)) ?_
          rintro e w2 ⟨rfl, hb2⟩
          have HBN := show Hid (Below w.heap.size w w2) from HB.out.trans (((below_alloc _ _).trans (hb2.mono (by simp))).mono hsz)
          obtain ⟨hn1, hn2⟩ := HB2.out (by omega)
          generalize nodesF y (m - k) = q at *
          clear hb2 HB2 HB KC2 a0 a1 a2 a3 a4 HE1
          go_wp2_with fail
          go_roundw
          case rel => exact ⟨j + 1, k + q, by omega, by go_num, by go_num, by omega, by omega, HF2, HBN⟩
          case measure => first | (simp [intOf]; done) | (simp [intOf]; omega)
      · have hje : j = s.length := by omega
        have hst := HF.out
        rw [hje, List.drop_length, nodesL] at hst
        subst hst
        have hji : ¬ (j : Int) < (s.length : Int) := by omega
        clear hje HF
        go_wp2_with fail
        go_ret
        exact ⟨rfl, HB.out⟩
set_option maxRecDepth 100000 in
theorem size_any (x : Tm) (w : World) (L : Nat) (sv : Value) (hK : Kid w L x sv) (hG : Gt x) (hL : L ≤ w.heap.size) :
    Calls Tryd.prog 49 #[tmV x sv] w fun e w' => e = .returned (.int .i64 (nodesF x 65537 : Int)) ∧ Below w.heap.size w w' := by
  have KC := show Hid (∀ W : World, Below w.heap.size w W → Calls Tryd.prog 67 #[tmV x sv, .int .i64 ((65537 : Nat) : Int)] W fun e w' => e = .returned (.int .i64 (nodesF x 65537 : Int)) ∧ Below W.heap.size W w') from
    fun W hW => nodes_any _ x (Nat.lt_succ_self _) W L sv (hK.below (hW.mono hL)) hG (Nat.le_trans hL hW.size) 65537 (by decide) (by decide)
  obtain ⟨p, n, c, rfl⟩ := hK.form
  generalize nodesF x 65537 = ans at *
  unfold tmV at KC ⊢
  clear hK hG
  generalize x.k = xk at *
  generalize x.n = xn at *
  generalize x.o = xo at *
  generalize x.f = xf at *
  go_enter Tryd.func49, Tryd.ntmps49
  go_wp2_with fail
  refine Calls.mono (KC.out _ (below_alloc _ _)) ?_
  rintro e w2 ⟨rfl, hb2⟩
  have hb := (below_alloc _ _).trans (hb2.mono (by simp))
  clear KC hb2
  go_wp2_with fail
  go_ret
  exact ⟨rfl, hb⟩
end Go.Proofs.YtkpbpecikibohaaDoor.Ya
