/-
  The law's own call write: a piece by the Writer and by the document: for every piece whose text is at most 2^62 bytes, where what the Writer holds stays below 2^45 bytes and the library's tables stand as the program's text lays them.
-/
import Derived.Test.YthmfgoclkioncaaDoorRefNum
namespace Go.Proofs.YthmfgoclkioncaaDoor
open Go.RowKit

/-- What a piece writes, and its error. -/
def pieceB (z : Int) (n : Nat) (s : ByteArray) : List UInt8 := if z = 0 then [UInt8.ofNat n] else if z = 1 then Oct.num n else if z = 2 then textOf s.data.toList else []
def pieceE (z : Int) (s : ByteArray) : Int := if z = 2 then textErr s.data.toList else 0
theorem IsB.keep {w w' : World} {v : Value} {l : List UInt8} (h : IsB w v l) (hk : ∀ k, v.ownBlock = some k → w'.heap[k]? = w.heap[k]?) : IsB w' v l := by
  obtain ⟨p, c, rfl, h1, h2, h3, h4⟩ := h
  refine ⟨p, c, rfl, h1, h2, h3, fun hn => ?_⟩
  obtain ⟨b, o, rfl, hc⟩ := h4 hn
  refine ⟨b, o, rfl, fun i hi => ?_⟩
  rw [World.cell?_of_block (w := w) (a := ⟨b, o + i, none⟩) (hk b rfl)]
  exact hc i hi
theorem box_cells {w w' : World} {a b c : Value} {t : TypeId} (h : w'.heap[w.heap.size]? = (w.alloc (.cells #[a, b, c] t)).heap[w.heap.size]?) :
    w'.cell? ⟨w.heap.size, 0, none⟩ = some a ∧ w'.cell? ⟨w.heap.size, 1, none⟩ = some b ∧ w'.cell? ⟨w.heap.size, 2, none⟩ = some c := by
  rw [heap_alloc_new] at h
  exact ⟨by simp [World.cell?, h], by simp [World.cell?, h], by simp [World.cell?, h]⟩
set_option maxRecDepth 100000 in
set_option maxHeartbeats 2000000 in
theorem write_any (B : Nat) (pb : Nat) (l : List UInt8) (z : Int) (n : Nat) (s : ByteArray) (w : World) (v0 : Value) (h : WrV B w pb l v0) (hB0 : B ≤ w.heap.size) (hm : l.length ≤ 35184372088832) (hn : n < 18446744073709551616) (hs : s.size ≤ 4611686018427387904) (hT : Tabs w) :
    Calls Tryd.prog 9 #[.pointer (some ⟨pb, 0, none⟩), .agg #[.int .i64 z, .int .u64 (n : Int), .string s]] w fun e w' => ∃ p m c, e = .returned (.tuple #[.slice p m c, .int .i64 (pieceE z s), .int .i64 (pieceE z s)]) ∧
      ∃ v', WrV B w' pb (l ++ pieceB z n s) v' ∧ Stp B w w' pb v0 v' ∧ IsB w' (.slice p m c) (pieceB z n s) := by
  have hlt : pb < w.heap.size := by obtain ⟨t, _, h2, _⟩ := h; exact lt_of_block h2
  have hol : ∀ k, v0.ownBlock = some k → k < w.heap.size := fun k hk => by obtain ⟨t, _, _, _, h4⟩ := h; exact (h4.lt k hk).2
  have HOL := show Hid (∀ k, v0.ownBlock = some k → k < w.heap.size) from hol
  have HA := show Hid (WrV B (w.alloc (.cells #[.int .i64 z, .int .u64 (n : Int), .string s] 31)) pb l v0) from h.later (below_alloc _ _)
  have HSA := show Hid (Stp B w (w.alloc (.cells #[.int .i64 z, .int .u64 (n : Int), .string s] 31)) pb v0 v0) from Stp.of_below (below_alloc _ _) hB0
  have HKA := show Hid (∀ w' v', Stp B (w.alloc (.cells #[.int .i64 z, .int .u64 (n : Int), .string s] 31)) w' pb v0 v' → w'.cell? ⟨w.heap.size, 0, none⟩ = some (.int .i64 z) ∧ w'.cell? ⟨w.heap.size, 1, none⟩ = some (.int .u64 (n : Int)) ∧ w'.cell? ⟨w.heap.size, 2, none⟩ = some (.string s)) from fun w' v' hst =>
    box_cells (hst.keeps w.heap.size (by simp) (by omega) (fun e => by have := hol _ e; omega))
  have HT := show Hid (Tabs (w.alloc (.cells #[.int .i64 z, .int .u64 (n : Int), .string s] 31))) from hT.later (below_alloc _ _)
  clear h hT hol
  by_cases h0 : z = 0
  · have e1 : pieceB z n s = [UInt8.ofNat n] := by rw [pieceB, if_pos h0]
    have e2 : pieceE z s = 0 := by rw [pieceE, if_neg (by omega)]
    rw [e1, e2]
    subst h0
    have ec : ((UInt8.ofNat n).toNat : Int) = (n : Int) % 256 := by rw [Oct.ofNat_toNat]; omega
    have cU := wU8_fr B pb l (UInt8.ofNat n) _ v0 HA.out (by omega)
    rw [ec] at cU
    have CU := show Hid (Calls Tryd.prog 34 #[.pointer (some ⟨pb, 0, none⟩), .int .u8 ((n : Int) % 256)] (w.alloc (.cells #[.int .i64 0, .int .u64 (n : Int), .string s] 31)) fun e w' => e = .returned (.tuple #[]) ∧ ∃ v', WrV B w' pb (l ++ [UInt8.ofNat n]) v' ∧ Stp B (w.alloc (.cells #[.int .i64 0, .int .u64 (n : Int), .string s] 31)) w' pb v0 v') from cU
    have HL := show Hid (#[Value.int .u8 ((n : Int) % 256)].toList = vals [UInt8.ofNat n]) from by
      show [Value.int .u8 ((n : Int) % 256)] = [Value.int .u8 ((UInt8.ofNat n).toNat : Int)]
      rw [ec]
    clear e1 e2 cU ec
    generalize UInt8.ofNat n = ch at *
    go_enter Tryd.func9, Tryd.ntmps9
    go_wp2_with fail
    refine CU.out.mono ?_
    rintro e w1 ⟨rfl, v', hw1, hst1⟩
    have hk := (HKA.out w1 v' hst1).2.1
    have HW1 := show Hid (WrV B w1 pb (l ++ [ch]) v') from hw1
    have HS1 := show Hid (Stp B w w1 pb v0 v') from HSA.out.trans hst1
    clear hw1 hst1 CU HA HSA
    go_wp2
    go_ret3
    have hB1 : B ≤ w1.heap.size := Nat.le_trans hB0 HS1.out.size
    exact ⟨_, _, _, rfl, v', HW1.out.later (below_alloc _ _), HS1.out.trans (Stp.of_below (below_alloc _ _) hB1), ⟨_, _, rfl, by simp, by omega, fun e => (nomatch e), lit_bytes w1 _ _ [ch] HL.out⟩⟩
  · by_cases h1 : z = 1
    · have e1 : pieceB z n s = Oct.num n := by rw [pieceB, if_neg h0, if_pos h1]
      have e2 : pieceE z s = 0 := by rw [pieceE, if_neg (by omega)]
      rw [e1, e2]
      subst h1
      have CU := show Hid (Calls Tryd.prog 35 #[.pointer (some ⟨pb, 0, none⟩), .int .u64 (n : Int)] (w.alloc (.cells #[.int .i64 1, .int .u64 (n : Int), .string s] 31)) fun e w' => e = .returned (.tuple #[]) ∧ ∃ v', WrV B w' pb (l ++ Oct.num n) v' ∧ Stp B (w.alloc (.cells #[.int .i64 1, .int .u64 (n : Int), .string s] 31)) w' pb v0 v') from wNum_fr B pb l n _ v0 HA.out (by omega) hn
      have CR := show Hid (∀ W, Calls Tryd.prog 36 #[.int .u64 (n : Int)] W fun e w' => ∃ p m c, e = .returned (.slice p m c) ∧ w'.ownsRow W.heap.size 5 1 (.slice p m c) (Oct.num n).length (vals (Oct.num n)) ∧ Below W.heap.size W w') from fun W => rnum_any W n hn
      generalize Oct.num n = nm at *
      clear e1 e2 h0
      go_enter Tryd.func9, Tryd.ntmps9
      go_wp2_with fail
      refine CU.out.mono ?_
      rintro e w1 ⟨rfl, v', hw1, hst1⟩
      have hk := (HKA.out w1 v' hst1).2.1
      have HW1 := show Hid (WrV B w1 pb (l ++ nm) v') from hw1
      have HS1 := show Hid (Stp B w w1 pb v0 v') from HSA.out.trans hst1
      clear hw1 hst1 CU HA HSA
      go_wp2_with fail
      refine (CR.out w1).mono ?_
      rintro e w2 ⟨p2, m2, c2, rfl, hown2, hb2⟩
      have HI2 := show Hid (IsB w2 (.slice p2 m2 c2) nm) from IsB.of_owns hown2
      have HB2 := show Hid (Below w1.heap.size w1 w2) from hb2
      clear hown2 hb2 CR
      go_wp2
      go_ret3
      have hB1 : B ≤ w1.heap.size := Nat.le_trans hB0 HS1.out.size
      exact ⟨_, _, _, rfl, v', HW1.out.later HB2.out, HS1.out.trans (Stp.of_below HB2.out hB1), HI2.out⟩
    · by_cases h2 : z = 2
      · have e1 : pieceB z n s = textOf s.data.toList := by rw [pieceB, if_neg h0, if_neg h1, if_pos h2]
        have e2 : pieceE z s = textErr s.data.toList := by rw [pieceE, if_pos h2]
        rw [e1, e2]
        subst h2
        have CR := show Hid (∀ W, Calls Tryd.prog 37 #[.string s] W fun e w' => ∃ p m c, e = .returned (.tuple #[.slice p m c, .int .i64 (textErr s.data.toList)]) ∧ w'.ownsRow W.heap.size 5 1 (.slice p m c) (textOf s.data.toList).length (vals (textOf s.data.toList)) ∧ Below W.heap.size W w') from fun W => rtext_any W s hs
        have CU := show Hid (∀ W, WrV B W pb l v0 → B ≤ W.heap.size → Tabs W → Calls Tryd.prog 38 #[.pointer (some ⟨pb, 0, none⟩), .string s] W fun e w' => e = .returned (.int .i64 (textErr s.data.toList)) ∧ ∃ v', WrV B w' pb (l ++ textOf s.data.toList) v' ∧ Stp B W w' pb v0 v') from fun W hW hBW hTW => wText_fr B pb l s W v0 hW hBW hm (by omega) hTW
        generalize textErr s.data.toList = er at *
        generalize textOf s.data.toList = tx at *
        clear e1 e2 h0 h1
        go_enter Tryd.func9, Tryd.ntmps9
        go_wp2_with fail
        refine (CR.out _).mono ?_
        rintro e w1 ⟨p2, m2, c2, rfl, hown1, hb1⟩
        have HS1 := show Hid (Stp B (w.alloc (.cells #[.int .i64 2, .int .u64 (n : Int), .string s] 31)) w1 pb v0 v0) from Stp.of_below hb1 (by simp; omega)
        have hk := (HKA.out w1 v0 HS1.out).2.2
        have HW1 := show Hid (WrV B w1 pb l v0) from HA.out.later hb1
        have HT1 := show Hid (Tabs w1) from HT.out.later hb1
        have HI1 := show Hid (IsB w1 (.slice p2 m2 c2) tx) from IsB.of_owns hown1
        have HF1 := show Hid (∀ k, Value.ownBlock (.slice p2 m2 c2) = some k → w.heap.size < k ∧ k < w1.heap.size) from fun k hk => by have := hown1.lt k hk; simp at this; omega
        have hB1 : B ≤ w1.heap.size := by have := HS1.out.size; simp at this; omega
        clear hown1 hb1 CR HA
        go_wp2_with fail
        refine (CU.out w1 HW1.out hB1 HT1.out).mono ?_
        rintro e w2 ⟨rfl, v', hw2, hst2⟩
        have HW2 := show Hid (WrV B w2 pb (l ++ tx) v') from hw2
        have HS2 := show Hid (Stp B w1 w2 pb v0 v') from hst2
        clear hw2 hst2 CU
        go_wp2
        go_ret3
        refine ⟨_, _, _, rfl, v', HW2.out, (HSA.out.trans HS1.out).trans HS2.out, HI1.out.keep fun k hk => ?_⟩
        have hf := HF1.out k hk
        exact HS2.out.keeps k hf.2 (by omega) (fun e => by have := HOL.out k e; omega)
      · have e1 : pieceB z n s = [] := by rw [pieceB, if_neg h0, if_neg h1, if_neg h2]
        have e2 : pieceE z s = 0 := by rw [pieceE, if_neg h2]
        rw [e1, e2, List.append_nil]
        have z0 : (z == 0) = false := by simp [h0]
        have z1 : (z == 1) = false := by simp [h1]
        have z2 : (z == 2) = false := by simp [h2]
        clear e1 e2 h0 h1 h2
        go_enter Tryd.func9, Tryd.ntmps9
        go_wp2
        go_ret3
        exact ⟨_, _, _, rfl, v0, HA.out, HSA.out, IsB.nil _⟩
end Go.Proofs.YthmfgoclkioncaaDoor
