/-
  Digits that are read, as plain functions on lists of bytes; and that they read what was written. Nothing of the program is walked here. No condition.
-/
import Derived.Test.YthmfgoclkioncaaDoorHex
namespace Go.Proofs.YthmfgoclkioncaaDoor

def hexv (c : Nat) : Option Nat := if 48 ≤ c ∧ c ≤ 57 then some (c - 48) else if 97 ≤ c ∧ c ≤ 102 then some (c - 87) else none
def okc (c : UInt8) : Bool := (hexv c.toNat).isSome
def hx (c : UInt8) : Nat := (hexv c.toNat).getD 0
def pairs (l : List UInt8) (j : Nat) : List UInt8 := (List.range j).map fun i => UInt8.ofNat (16 * hx (l.getD (2 * i) 0) + hx (l.getD (2 * i + 1) 0))
def unhexOk (l : List UInt8) : Bool := decide (l.length % 2 = 0) && l.all okc
theorem pairs_length (l : List UInt8) (j : Nat) : (pairs l j).length = j := by simp [pairs]
theorem pairs_succ (l : List UInt8) (j : Nat) : pairs l (j + 1) = pairs l j ++ [UInt8.ofNat (16 * hx (l.getD (2 * j) 0) + hx (l.getD (2 * j + 1) 0))] := by
  simp [pairs, List.range_succ]
theorem hexv_lt {c x : Nat} (h : hexv c = some x) : x < 16 := by
  unfold hexv at h
  split at h
  · have := Option.some.inj h; omega
  · split at h
    · have := Option.some.inj h; omega
    · cases h
theorem hx_lt (c : UInt8) : hx c < 16 := by
  unfold hx
  cases h : hexv c.toNat with
  | none => simp
  | some x => exact hexv_lt h
theorem hx_some {c : UInt8} {x : Nat} (h : hexv c.toNat = some x) : hx c = x ∧ okc c = true := by simp [hx, okc, h]
theorem hexd_okc : ∀ n, n < 16 → okc (hexd n) = true ∧ hx (hexd n) = n := by decide
theorem pairs_cons (a b : UInt8) (t : List UInt8) (j : Nat) : pairs (a :: b :: t) (j + 1) = UInt8.ofNat (16 * hx a + hx b) :: pairs t j := by
  simp only [pairs, List.range_succ_eq_map, List.map_cons, List.map_map]
  refine congr (congrArg _ (by simp)) (List.map_congr_left fun i _ => ?_)
  simp only [Function.comp]
  have e1 : (a :: b :: t).getD (2 * (i + 1)) 0 = t.getD (2 * i) 0 := by simp [List.getD, show 2 * (i + 1) = 2 * i + 1 + 1 by omega]
  have e2 : (a :: b :: t).getD (2 * (i + 1) + 1) 0 = t.getD (2 * i + 1) 0 := by simp [List.getD, show 2 * (i + 1) + 1 = 2 * i + 1 + 1 + 1 by omega]
  rw [Nat.succ_eq_add_one, e1, e2]
theorem pairs_hex : ∀ l : List UInt8, pairs (hexOf l) l.length = l
  | [] => rfl
  | c :: r => by
    have hc := c.toNat_lt
    have h1 := hexd_okc (c.toNat / 16) (by omega)
    have h2 := hexd_okc (c.toNat % 16) (by omega)
    show pairs (hexd (c.toNat / 16) :: hexd (c.toNat % 16) :: hexOf r) (r.length + 1) = c :: r
    rw [pairs_cons, pairs_hex r, h1.2, h2.2]
    congr 1
    rw [show 16 * (c.toNat / 16) + c.toNat % 16 = c.toNat by omega]
    exact UInt8.ofNat_toNat
theorem hex_all : ∀ l : List UInt8, (hexOf l).all okc = true
  | [] => rfl
  | c :: r => by
    have hc := c.toNat_lt
    have h1 := hexd_okc (c.toNat / 16) (by omega)
    have h2 := hexd_okc (c.toNat % 16) (by omega)
    show (hexd (c.toNat / 16) :: hexd (c.toNat % 16) :: hexOf r).all okc = true
    simp only [List.all_cons, h1.1, h2.1, hex_all r, Bool.true_and]
theorem unhexOk_hex (l : List UInt8) : unhexOk (hexOf l) = true := by
  simp [unhexOk, hex_all, hexOf_length]
theorem all_take (l : List UInt8) (h : ∀ i (hi : i < l.length), okc l[i] = true) : l.all okc = true := by
  rw [List.all_eq_true]
  intro c hc
  obtain ⟨i, hi, rfl⟩ := List.mem_iff_getElem.1 hc
  exact h i hi
theorem not_all (l : List UInt8) (k : Nat) (hk : k < l.length) (h : okc l[k] = false) : unhexOk l = false := by
  cases ha : l.all okc with
  | false => simp [unhexOk, ha]
  | true =>
    rw [List.all_eq_true] at ha
    rw [ha _ (List.getElem_mem hk)] at h
    cases h
theorem or_nibble : ∀ x : Nat, x < 16 → ∀ y : Nat, y < 16 → 16 * x ||| y = 16 * x + y := by decide +kernel
end Go.Proofs.YthmfgoclkioncaaDoor
