/-
  Sets of worlds: has, put, join, at a place in a row of words. No condition.
-/
import Derived.Test.YtjbnbaiidpdpoaaDoorWKit
namespace Go.Proofs.YtjbnbaiidpdpoaaDoor.Wm
open Go.RowKit Go.Maps
set_option linter.unusedSimpArgs false

def wdV (ws : Nat → Nat) (k : Nat) : Value := .int .u64 (ws k : Int)
structure Ws (w : World) (g n : Nat) (T : TypeId) (ws : Nat → Nat) : Prop where
  row : Rw w g n T (wdV ws)
  lt : ∀ k, ws k < 18446744073709551616
theorem Ws.set {w : World} {g n : Nat} {T : TypeId} {ws : Nat → Nat} (h : Ws w g n T ws) (j : Nat) {x : Nat} (hx : x < 18446744073709551616) : Ws (w.setCell ⟨g, j, none⟩ (.int .u64 (x : Int))) g n T (Wd.upd ws j x) := by
  refine ⟨(h.row.set j _).same fun k _ => ?_, fun k => ?_⟩
  · by_cases e : k = j
    · subst e; simp [Wd.upd, wdV]
    · simp [Wd.upd, wdV, e]
  · by_cases e : k = j
    · subst e; simpa [Wd.upd] using hx
    · simpa [Wd.upd, e] using h.lt k
theorem Ws.keep {w w' : World} {g n : Nat} {T : TypeId} {ws : Nat → Nat} (h : Ws w g n T ws) (hb : w'.heap[g]? = w.heap[g]?) : Ws w' g n T ws := ⟨h.row.keep hb, h.lt⟩
def bit (ws : Nat → Nat) (o b : Nat) : Bool := (ws (o + b / 64)).testBit (b % 64)
theorem pow_lt {k : Nat} (hk : k < 64) : 2 ^ k < 18446744073709551616 := Nat.pow_lt_pow_right (a := 2) (by omega) hk
theorem or_lt {a b : Nat} (ha : a < 18446744073709551616) (hb : b < 18446744073709551616) : a ||| b < 18446744073709551616 := Nat.or_lt_two_pow (n := 64) ha hb
theorem and_pow (x c : Nat) : (x &&& 2 ^ c = 0) ↔ x.testBit c = false := by
  constructor
  · intro h
    have : (x &&& 2 ^ c).testBit c = false := by rw [h]; simp
    rw [Nat.testBit_and, Nat.testBit_two_pow_self] at this
    simpa using this
  · intro h
    apply Nat.eq_of_testBit_eq
    intro j
    rw [Nat.testBit_and, Nat.testBit_two_pow, Nat.zero_testBit]
    by_cases e : c = j
    · subst e; rw [h]; rfl
    · rw [decide_eq_false e]; simp
theorem and_ne (x s : Nat) : ((((x &&& 2 ^ s : Nat) : Int)) != 0) = x.testBit s := by
  cases h : x.testBit s
  · rw [(and_pow _ _).2 h]; rfl
  · have : ¬ (x &&& 2 ^ s = 0) := fun e => by
      rw [(and_pow _ _).1 e] at h; cases h
    simpa using this
theorem pow64 (n : Nat) : IntKind.u64.wrap (2 ^ (n % 64)) = ((2 ^ (n % 64) : Nat) : Int) := by
  have := pow_lt (Nat.mod_lt n (show 64 > 0 by omega))
  rw [IntKind.wrap_u64, show (2 : Int) ^ (n % 64) = ((2 ^ (n % 64) : Nat) : Int) by simp]
  generalize 2 ^ (n % 64) = p at *
  omega
set_option maxRecDepth 100000 in
set_option maxHeartbeats 1000000 in
theorem has_any (w : World) {g n : Nat} {T : TypeId} {ws : Nat → Nat} (h : Ws w g n T ws) (o b : Nat) (hb : b < 512) (ho : o + 8 ≤ n) :
    Calls Tryd.prog 72 #[.pointer (some ⟨g, o, none⟩), .int .i64 (b : Int)] w fun e w' => e = .returned (.bool (bit ws o b)) ∧ w' = w.drew := by
  have hc : w.cell? ⟨g, o + b / 64, none⟩ = some (.int .u64 (ws (o + b / 64) : Int)) := h.row.cell (by omega)
  have ha := u64_and_nat (ws (o + b / 64)) (2 ^ (b % 64)) (h.lt _) (pow_lt (Nat.mod_lt _ (by omega)))
  rw [← pow64] at ha
  have HB := show Hid ((((ws (o + b / 64) &&& 2 ^ (b % 64) : Nat) : Int) != 0) = bit ws o b) from and_ne _ _
  go_enter Tryd.func72, Tryd.ntmps72
  go_wp2_with fail
  go_region
  go_wp2
  go_ret
  refine ⟨ret_bool ?_, rfl⟩
  rw [← HB.out]
set_option maxRecDepth 100000 in
set_option maxHeartbeats 1000000 in
theorem put_any (w : World) {g n : Nat} {T : TypeId} {ws : Nat → Nat} (h : Ws w g n T ws) (o b : Nat) (hb : b < 512) (ho : o + 8 ≤ n) :
    Calls Tryd.prog 83 #[.pointer (some ⟨g, o, none⟩), .int .i64 (b : Int)] w fun e w' => e = .returned (.tuple #[]) ∧ Ws w' g n T (Wd.upd ws (o + b / 64) (ws (o + b / 64) ||| 2 ^ (b % 64))) ∧ Kp (fun k => k = g) w w' := by
  have hc : w.cell? ⟨g, o + b / 64, none⟩ = some (.int .u64 (ws (o + b / 64) : Int)) := h.row.cell (by omega)
  have hf : w.frozen? ⟨g, o + b / 64, none⟩ = false := h.row.fr _
  have ha := u64_or_nat (ws (o + b / 64)) (2 ^ (b % 64)) (h.lt _) (pow_lt (Nat.mod_lt _ (by omega)))
  rw [← pow64] at ha
  have HS := show Hid (Ws (w.setCell ⟨g, o + b / 64, none⟩ (.int .u64 ((ws (o + b / 64) ||| 2 ^ (b % 64) : Nat) : Int))) g n T (Wd.upd ws (o + b / 64) (ws (o + b / 64) ||| 2 ^ (b % 64)))) from h.set _ (or_lt (h.lt _) (pow_lt (Nat.mod_lt _ (by omega))))
  go_enter Tryd.func83, Tryd.ntmps83
  go_wp2_with fail
  go_region
  go_wp2
  go_end0
  exact ⟨rfl, HS.out.keep rfl, ((Kp.refl (fun k => k = g) w).set (p := g) rfl _ _).drew⟩
def joinW (ws : Nat → Nat) (o1 o2 j : Nat) (k : Nat) : Nat := if o1 ≤ k ∧ k < o1 + j then ws k ||| ws (o2 + (k - o1)) else ws k
theorem join_upd (ws : Nat → Nat) {o1 o2 j : Nat} (hd : o1 + 8 ≤ o2 ∨ o2 + 8 ≤ o1) (hj : j < 8) : Wd.upd (joinW ws o1 o2 j) (o1 + j) (joinW ws o1 o2 j (o1 + j) ||| joinW ws o1 o2 j (o2 + j)) = joinW ws o1 o2 (j + 1) := by
  funext k
  have e1 : joinW ws o1 o2 j (o1 + j) = ws (o1 + j) := if_neg (by omega)
  have e2 : joinW ws o1 o2 j (o2 + j) = ws (o2 + j) := if_neg (by omega)
  rw [e1, e2]
  by_cases e : k = o1 + j
  · subst e
    rw [Wd.upd_same, joinW, if_pos (by omega), show o1 + j - o1 = j by omega]
  · rw [Wd.upd_other _ _ _ e]
    unfold joinW
    by_cases h : o1 ≤ k ∧ k < o1 + j
    · rw [if_pos h, if_pos (by omega)]
    · rw [if_neg h, if_neg (by omega)]
set_option maxRecDepth 100000 in
set_option maxHeartbeats 2000000 in
theorem join_any (w : World) {g n : Nat} {T : TypeId} {ws : Nat → Nat} (h : Ws w g n T ws) (o1 o2 : Nat) (h1 : o1 + 8 ≤ n) (h2 : o2 + 8 ≤ n) (hd : o1 + 8 ≤ o2 ∨ o2 + 8 ≤ o1) :
    Calls Tryd.prog 85 #[.pointer (some ⟨g, o1, none⟩), .pointer (some ⟨g, o2, none⟩)] w fun e w' => e = .returned (.tuple #[]) ∧ Ws w' g n T (joinW ws o1 o2 8) ∧ Kp (fun k => k = g) w w' := by
  have H0 := show Hid (Ws w g n T (joinW ws o1 o2 0) ∧ Kp (fun k => k = g) w w) from ⟨by
    have : joinW ws o1 o2 0 = ws := by funext k; exact if_neg (by omega)
    rw [this]; exact h, Kp.refl _ _⟩
  clear h
  go_enter Tryd.func85, Tryd.ntmps85
  go_wp2_with fail
  go_loopw [4, 5, 7] (fun _ _ i wr => ∃ j : Nat, j ≤ 8 ∧ i = .int .i64 (j : Int) ∧ Hid (Ws wr g n T (joinW ws o1 o2 j) ∧ Kp (fun k => k = g) w wr)) (fun _ _ i _ => 8 - (intOf i).toNat)
  case atStart => exact ⟨0, Nat.zero_le _, rfl, H0⟩
  case round =>
    obtain ⟨j, hj, rfl, HI⟩ := hrel
    clear H0
    by_cases hlt : j < 8
    · have hji : (j : Int) < 8 := by omega
      obtain ⟨hW, hK⟩ := HI.out
      have HU := show Hid (Wd.upd (joinW ws o1 o2 j) (o1 + j) (joinW ws o1 o2 j (o1 + j) ||| joinW ws o1 o2 j (o2 + j)) = joinW ws o1 o2 (j + 1)) from join_upd ws hd hlt
      generalize joinW ws o1 o2 j = wj at *
      have hc1 : wr.cell? ⟨g, o1 + j, none⟩ = some (.int .u64 (wj (o1 + j) : Int)) := hW.row.cell (by omega)
      have hc2 : wr.cell? ⟨g, o2 + j, none⟩ = some (.int .u64 (wj (o2 + j) : Int)) := hW.row.cell (by omega)
      have hf : wr.frozen? ⟨g, o1 + j, none⟩ = false := hW.row.fr _
      have ha := u64_or_nat (wj (o1 + j)) (wj (o2 + j)) (hW.lt _) (hW.lt _)
      have HS := show Hid (Ws (wr.setCell ⟨g, o1 + j, none⟩ (.int .u64 ((wj (o1 + j) ||| wj (o2 + j) : Nat) : Int))) g n T (Wd.upd wj (o1 + j) (wj (o1 + j) ||| wj (o2 + j)))) from hW.set _ (or_lt (hW.lt _) (hW.lt _))
      have HK := show Hid (Kp (fun k => k = g) w (wr.setCell ⟨g, o1 + j, none⟩ (.int .u64 ((wj (o1 + j) ||| wj (o2 + j) : Nat) : Int)))) from hK.set rfl _ _
      clear hW hK HI
      go_wp2_with fail
      go_region
      go_wp2_with fail
      go_region
      go_wp2_with fail
      go_roundw
      case rel => exact ⟨j + 1, by omega, by go_num, by rw [← HU.out]; exact HS.out.keep rfl, HK.out.drew.drew⟩
      case measure => first | (simp [intOf]; done) | (simp [intOf]; omega)
    · obtain rfl : j = 8 := by omega
      go_wp2_with fail
      go_end0
      exact ⟨rfl, HI.out⟩
end Go.Proofs.YtjbnbaiidpdpoaaDoor.Wm
