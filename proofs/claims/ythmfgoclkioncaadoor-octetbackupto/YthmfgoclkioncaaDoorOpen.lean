/-
  The call Open: what bears its sum is handed back without it, in new memory; else the number of the error: for every row of bytes of at most 2^47 bytes.
-/
import Derived.Test.YthmfgoclkioncaaDoorSeal
import Derived.Test.YthmfgoclkioncaaDoorShelf
namespace Go.Proofs.YthmfgoclkioncaaDoor
open Go.RowKit

theorem take_ints (l : List UInt8) (n : Nat) (h : n ≤ l.length) : (l.take n).length = n := by simp; omega
theorem IsB.take {w : World} {b o c : Nat} {l : List UInt8} (h1 : l.length ≤ c) (h2 : c ≤ 9223372036854775807) (hc : ∀ k (hk : k < l.length), w.cell? ⟨b, o + k, none⟩ = some (.int .u8 ((l[k]).toNat : Int))) (n : Nat) (hn : n ≤ l.length) :
    IsB w (.slice (some ⟨b, o, none⟩) n c) (l.take n) := by
  refine ⟨some ⟨b, o, none⟩, c, by rw [take_ints l n hn], by rw [take_ints l n hn]; omega, h2, fun e => (nomatch e), bytes_of_cell fun k hk => ?_⟩
  have hk' : k < n := by simpa [Nat.min_eq_left hn] using hk
  rw [hc k (by omega)]
  simp
theorem bytesOf_ints (l : List UInt8) : Lib.bytesOf (ints l) = l := by
  rw [Lib.bytesOf, ints, List.map_map]
  have : ((fun n => UInt8.ofNat n.toNat) ∘ fun b : UInt8 => (b.toNat : Int)) = id := by funext b; simp
  rw [this, List.map_id]
set_option maxHeartbeats 400000 in
theorem open_short (w : World) (v : Value) (l : List UInt8) (hv : IsB w v l) (h4 : l.length < 4) :
    Calls Tryd.prog 24 #[v] w fun e w' => e = .returned (.tuple #[.slice none 0 0, .int .i64 10]) ∧ w' = w := by
  obtain ⟨p, c, rfl, hc1, hc2, hpn, hb⟩ := hv
  clear hb hpn
  go_enter Tryd.func24, Tryd.ntmps24
  go_wp2
  go_ret2
  exact ⟨rfl, rfl⟩
set_option maxHeartbeats 400000 in
theorem open_any (w : World) (v : Value) (l : List UInt8) (hv : IsB w v l) (hm : l.length ≤ 140737488355328) (h4 : 4 ≤ l.length) :
    Calls Tryd.prog 24 #[v] w fun e w' => Below w.heap.size w w' ∧ ((Oct.sealed (l.take (l.length - 4)) = l ∧
        ∃ g, e = .returned (.tuple #[.slice (some ⟨g, 0, none⟩) (l.length - 4) (l.length - 4), .int .i64 0]) ∧ w'.ownsRow w.heap.size 5 1 (.slice (some ⟨g, 0, none⟩) l.length l.length) l.length (vals l)) ∨
      (Oct.sealed (l.take (l.length - 4)) ≠ l ∧ e = .returned (.tuple #[.slice none 0 0, .int .i64 13]))) := by
  obtain ⟨p, c, rfl, hc1, hc2, hpn, hb⟩ := hv
  obtain ⟨b, o, rfl, hc⟩ := bytes_cell hb (by omega)
  clear hpn
  obtain ⟨n, hn⟩ : ∃ n, l.length = n + 4 := ⟨l.length - 4, by omega⟩
  have e4 : l.length - 4 = n := by omega
  have ht := IsB.take hc1 hc2 hc n (by omega)
  have htl := take_ints l n (by omega)
  rw [e4]
  rw [hn] at hb hc1 hm ⊢
  have HL := show Hid (l.length = n + 4) from hn
  have HTL := show Hid ((l.take n).length = n) from htl
  have cS := seal_any w _ (l.take n) ht (by omega)
  rw [htl] at cS
  have CS := show Hid (Calls Tryd.prog 20 #[.slice (some ⟨b, o, none⟩) n c] w fun e w' => ∃ g, e = .returned (.slice (some ⟨g, 0, none⟩) (n + 4) (n + 4)) ∧
      w'.ownsRow w.heap.size 5 1 (.slice (some ⟨g, 0, none⟩) (n + 4) (n + 4)) (n + 4) (vals (Oct.sealed (l.take n))) ∧ Below w.heap.size w w') from cS
  clear hn e4 htl h4 hc ht cS
  go_enter Tryd.func24, Tryd.ntmps24
  go_wp2_with fail
  refine CS.out.mono ?_
  rintro e w1 ⟨g, rfl, hown, hbel⟩
  have hb1 := bytes_later hbel hb
  have hs1 := IsB.of_owns hown
  have hlen : (Oct.sealed (l.take n)).length = n + 4 := by rw [Oct.sealed_length, HTL.out]
  have hin : Lib.BytesIn w1 (some ⟨g, 0, none⟩) (n + 4) (ints (Oct.sealed (l.take n))) := by
    obtain ⟨p', c', hv', _, _, _, hb'⟩ := hs1
    obtain ⟨rfl, _, _⟩ := Value.slice.inj hv'
    rw [← hlen]
    exact hb'
  have cE := Tryd.bytes_Equal_all (some ⟨g, 0, none⟩) (some ⟨b, o, none⟩) (n + 4) (n + 4) (n + 4) c (ints (Oct.sealed (l.take n))) (ints l) w1 (by rw [ints_length]; exact hlen) (by rw [ints_length]; exact HL.out) hin hb1
  rw [bytesOf_ints, bytesOf_ints] at cE
  clear hb1 hs1 hlen hin hb CS
  by_cases hE : Oct.sealed (l.take n) = l
  · rw [hE] at hown cE
    have HE := show Hid (Oct.sealed (l.take n) = l) from hE
    clear hE
    have hq : (l == l) = true := by simp
    rw [hq] at cE
    clear hq
    have CE := show Hid (Calls Tryd.prog 45 #[.slice (some ⟨g, 0, none⟩) (n + 4) (n + 4), .slice (some ⟨b, o, none⟩) (n + 4) c] w1 fun e w' => e = .returned (.bool true) ∧ w' = w1) from cE
    clear cE
    go_wp2_with fail
    refine CE.out.mono ?_
    rintro e w2 ⟨rfl, rfl⟩
    go_wp2
    go_ret2
    exact ⟨hbel, Or.inl ⟨HE.out, g, rfl, hown⟩⟩
  · have hq : (Oct.sealed (l.take n) == l) = false := by simp [hE]
    rw [hq] at cE
    clear hq
    have HE := show Hid (¬ Oct.sealed (l.take n) = l) from hE
    have CE := show Hid (Calls Tryd.prog 45 #[.slice (some ⟨g, 0, none⟩) (n + 4) (n + 4), .slice (some ⟨b, o, none⟩) (n + 4) c] w1 fun e w' => e = .returned (.bool false) ∧ w' = w1) from cE
    clear cE hE
    go_wp2_with fail
    refine CE.out.mono ?_
    rintro e w2 ⟨rfl, rfl⟩
    go_wp2
    go_ret2
    exact ⟨hbel, Or.inr ⟨HE.out, rfl⟩⟩
end Go.Proofs.YthmfgoclkioncaaDoor
