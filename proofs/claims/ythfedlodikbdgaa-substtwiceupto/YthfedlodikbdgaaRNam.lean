/-
  The document's call named: for every row of names and formulas. No condition.
-/
import Derived.Test.YthfedlodikbdgaaUName
namespace Go.Proofs.Ythfedlodikbdgaa
open Go.RowKit Go.Maps
open Fm (Nd)

theorem look_take {l : Sb.Hs} {s : ByteArray} {k : Nat} (hk : k < l.length) (hn : Sb.look (l.take k) s = none) : Sb.look (l.take (k + 1)) s = if l[k].1 = s then some l[k].2 else none := by
  rw [List.take_succ_eq_append_getElem hk]
  unfold Sb.look at *
  rw [List.find?_append]
  cases hf : (l.take k).find? (fun h => decide (h.1 = s)) with
  | some x => rw [hf] at hn; cases hn
  | none =>
    by_cases e : l[k].1 = s
    · simp [e]
    · simp [e]
theorem look_more {l : Sb.Hs} {s : ByteArray} {k : Nat} {x : Int} (h : Sb.look (l.take k) s = some x) : Sb.look l s = some x := by
  unfold Sb.look at *
  cases hf : (l.take k).find? (fun h => decide (h.1 = s)) with
  | none => rw [hf] at h; cases h
  | some y =>
    rw [hf] at h
    have e : l = l.take k ++ l.drop k := (List.take_append_drop k l).symm
    rw [e, List.find?_append, hf]
    exact h
theorem bytes_eq (a b : ByteArray) : (a.toList == b.toList) = decide (a = b) := by
  by_cases e : a = b
  · subst e; simp
  · rw [decide_eq_false e]
    have : a.toList ≠ b.toList := fun h => e (by
      rw [ByteArray.toList_eq, ByteArray.toList_eq] at h
      exact ByteArray.ext (Array.ext' h))
    simpa using this
set_option maxRecDepth 100000 in
set_option maxHeartbeats 2000000 in
theorem rnamed_any (w : World) (hv : Value) (l : Sb.Hs) (hH : IsH w hv l) (s : ByteArray) :
    Calls Try.prog 42 #[hv, .string s] w fun e w' => e = .returned (.tuple #[.int .i64 ((Sb.look l s).getD 0), .bool (Sb.look l s).isSome]) ∧ w' = w := by
  obtain ⟨p, c, rfl, hl, hc⟩ := hH
  have HC := show Hid (∀ k (hk : k < l.length), ∃ b o, p = some ⟨b, o, none⟩ ∧ w.cell? ⟨b, o + k * 2, none⟩ = some (.string l[k].1) ∧ w.cell? ⟨b, o + k * 2 + 1, none⟩ = some (.int .i64 l[k].2)) from hc
  have HT := show Hid (∀ k (hk : k < l.length), Sb.look (l.take k) s = none → (Sb.look (l.take (k + 1)) s = if l[k].1 = s then some l[k].2 else none) ∧ (l[k].1 = s → Sb.look l s = some l[k].2)) from fun k hk hn => by
    have h := look_take hk hn
    exact ⟨h, fun e => by rw [if_pos e] at h; exact look_more h⟩
  have HL := show Hid (Sb.look (l.take l.length) s = none → Sb.look l s = none) from fun h => by rw [List.take_length] at h; exact h
  generalize Sb.look l s = ans at *
  clear hc
  go_enter Try.func42, Try.ntmps42
  go_wp2_with fail
  go_loopw [6] (fun i wr => ∃ k : Nat, k ≤ l.length ∧ i = .int .i64 (k : Int) ∧ Hid (Sb.look (l.take k) s = none) ∧ wr = w) (fun i _ => l.length - (intOf i).toNat)
  case atStart => exact ⟨0, by omega, rfl, rfl, rfl⟩
  case round =>
    obtain ⟨k, hk, rfl, HN, rfl⟩ := hrel
    by_cases hlt : k < l.length
    · obtain ⟨b, o, rfl, c0, c1⟩ := HC.out k hlt
      have hki : (k : Int) < (l.length : Int) := by omega
      have HK := show Hid _ from HT.out k hlt HN.out
      clear HC HT HN HL
      generalize l[k] = x at *
      obtain ⟨xs, xi⟩ := x
      simp only at c0 c1 HK
      have hb := bytes_eq xs s
      by_cases e : xs = s
      · rw [decide_eq_true e] at hb
        have ha := HK.out.2 e
        subst ha
        clear HK e
        go_wp2_with fail
        go_ret2
        exact ⟨rfl, rfl⟩
      · rw [decide_eq_false e] at hb
        have HN2 := show Hid (Sb.look (l.take (k + 1)) s = none) from by show Sb.look (l.take (k + 1)) s = none; rw [HK.out.1, if_neg e]
        clear HK e
        go_wp2_with fail
        go_roundw
        case rel => exact ⟨k + 1, by omega, by go_num, HN2, by first | rfl | trivial⟩
        case measure => first | (simp [intOf]; done) | (simp [intOf]; omega)
    · have hke : k = l.length := by omega
      subst hke
      have ha := HL.out HN.out
      subst ha
      clear HC HT HN HL
      go_wp2_with fail
      go_ret2
      exact ⟨rfl, rfl⟩
end Go.Proofs.Ythfedlodikbdgaa
