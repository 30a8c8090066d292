/-
  readRun and span: for every text, every two numbers of the row. No condition.
-/
import Derived.Test.YthkolkmcnpafiaaDoorBCut
import Derived.Test.YthkolkmcnpafiaaDoorBStep
namespace Go.Proofs.YthkolkmcnpafiaaDoor
open Go.RowKit
open Bs (Ok wd)

def rdR (o : Option (Nat × Nat)) : Value := match o with
  | none => .tuple #[.int .i64 0, .int .i64 0, .bool false]
  | some p => .tuple #[.int .i64 (p.1 : Int), .int .i64 (p.2 : Int), .bool true]
theorem undec1023 (w : World) (s : ByteArray) (hs : s.size ≤ 9223372036854775807) : Calls Tryd.prog 58 #[.string s, .int .i64 1023] w fun e w' => e = .returned (.tuple #[.int .i64 (numR (Bs.num s.data.toList)).1, .int .i64 (numR (Bs.num s.data.toList)).2]) ∧ Below w.heap.size w w' := by
  have := undec_all w s 1023 hs
  rwa [undec_num] at this
theorem cut_size (c : UInt8) (l : List UInt8) : (Bs.cutAt c l).1.length ≤ l.length ∧ (Bs.cutAt c l).2.1.length ≤ l.length := by
  obtain ⟨j1, j2, _⟩ := Bs.cutAt_join c l
  cases h : (Bs.cutAt c l).2.2
  · have := j2 h
    exact ⟨Nat.le_of_eq (congrArg List.length this.1.symm), by rw [this.2]; simp⟩
  · have := congrArg List.length (j1 h)
    rw [List.length_append, List.length_cons] at this
    omega
theorem strB_data (l : List UInt8) : (strB l).data.toList = l := rfl
set_option maxRecDepth 100000 in
set_option maxHeartbeats 2000000 in
theorem readRun_any (w : World) (s : ByteArray) (hs : s.size ≤ 9223372036854775807) : Calls Tryd.prog 51 #[.string s] w fun e w' => e = .returned (rdR (Bs.rdRun s.data.toList)) ∧ Below w.heap.size w w' := by
  have hcs := cut_size 45 s.data.toList
  have hsz : s.size = s.data.toList.length := rfl
  have KC := show Hid (Calls Tryd.prog 50 #[.string s, .string ⟨#[45]⟩] w fun e w' => e = .returned (.tuple #[.string (strB (Bs.cutAt 45 s.data.toList).1), .string (strB (Bs.cutAt 45 s.data.toList).2.1), .bool (Bs.cutAt 45 s.data.toList).2.2]) ∧ Below w.heap.size w w') from cut_any w s 45 hs
  have K1 := show Hid (∀ w, Calls Tryd.prog 58 #[.string (strB (Bs.cutAt 45 s.data.toList).1), .int .i64 1023] w fun e w' => e = .returned (.tuple #[.int .i64 (numR (Bs.num (Bs.cutAt 45 s.data.toList).1)).1, .int .i64 (numR (Bs.num (Bs.cutAt 45 s.data.toList).1)).2]) ∧ Below w.heap.size w w') from fun w => undec1023 w (strB (Bs.cutAt 45 s.data.toList).1) (by show (Bs.cutAt 45 s.data.toList).1.length ≤ _; omega)
  have K2 := show Hid (∀ w, Calls Tryd.prog 58 #[.string (strB (Bs.cutAt 45 s.data.toList).2.1), .int .i64 1023] w fun e w' => e = .returned (.tuple #[.int .i64 (numR (Bs.num (Bs.cutAt 45 s.data.toList).2.1)).1, .int .i64 (numR (Bs.num (Bs.cutAt 45 s.data.toList).2.1)).2]) ∧ Below w.heap.size w w') from fun w => undec1023 w (strB (Bs.cutAt 45 s.data.toList).2.1) (by show (Bs.cutAt 45 s.data.toList).2.1.length ≤ _; omega)
  have HR := show Hid (Bs.rdRun s.data.toList = match Bs.num (Bs.cutAt 45 s.data.toList).1 with | none => none | some f => if (Bs.cutAt 45 s.data.toList).2.2 = false then some (f, f) else match Bs.num (Bs.cutAt 45 s.data.toList).2.1 with | none => none | some e => if e ≤ f then none else some (f, e)) from rfl
  clear hcs hsz hs
  generalize Bs.rdRun s.data.toList = R at *
  generalize Bs.num (Bs.cutAt 45 s.data.toList).1 = n1 at *
  generalize Bs.num (Bs.cutAt 45 s.data.toList).2.1 = n2 at *
  generalize strB (Bs.cutAt 45 s.data.toList).1 = s1 at *
  generalize strB (Bs.cutAt 45 s.data.toList).2.1 = s2 at *
  generalize (Bs.cutAt 45 s.data.toList).2.2 = fd at *
  cases n1 with
  | none =>
    have HE := show Hid (R = none) from HR.out
    clear HR K2
    simp only [numR] at K1
    go_enter Tryd.func51, Tryd.ntmps51
    go_wp2_with (first | (go_at_call 50; refine KC.out.mono ?_; rintro e w1 ⟨rfl, hb⟩; have HB := show Hid (Below w.heap.size w w1) from hb; clear hb) | (go_at_call 58; refine (K1.out _).mono ?_; rintro e w2 ⟨rfl, hb⟩; have HB2 := show Hid (Below w.heap.size w w2) from HB.out.trans (hb.mono HB.out.size); clear hb))
    go_ret3
    exact ⟨by rw [HE.out]; rfl, HB2.out⟩
  | some f =>
    simp only [numR] at K1
    cases fd with
    | false =>
      have HE := show Hid (R = some (f, f)) from HR.out
      clear HR K2
      go_enter Tryd.func51, Tryd.ntmps51
      go_wp2_with (first | (go_at_call 50; refine KC.out.mono ?_; rintro e w1 ⟨rfl, hb⟩; have HB := show Hid (Below w.heap.size w w1) from hb; clear hb) | (go_at_call 58; refine (K1.out _).mono ?_; rintro e w2 ⟨rfl, hb⟩; have HB2 := show Hid (Below w.heap.size w w2) from HB.out.trans (hb.mono HB.out.size); clear hb))
      go_ret3
      exact ⟨by rw [HE.out]; rfl, HB2.out⟩
    | true =>
      cases n2 with
      | none =>
        have HE := show Hid (R = none) from HR.out
        clear HR
        simp only [numR] at K2
        go_enter Tryd.func51, Tryd.ntmps51
        go_wp2_with (first | (go_at_call 50; refine KC.out.mono ?_; rintro e w1 ⟨rfl, hb⟩; have HB := show Hid (Below w.heap.size w w1) from hb; clear hb) | (go_at_call 58; refine (K1.out _).mono ?_; clear K1; rintro e w2 ⟨rfl, hb⟩; have HB2 := show Hid (Below w.heap.size w w2) from HB.out.trans (hb.mono HB.out.size); clear hb) | (go_at_call 58; refine (K2.out _).mono ?_; rintro e w3 ⟨rfl, hb⟩; have HB3 := show Hid (Below w.heap.size w w3) from HB2.out.trans (hb.mono HB2.out.size); clear hb))
        go_ret3
        exact ⟨by rw [HE.out]; rfl, HB3.out⟩
      | some e2 =>
        simp only [numR] at K2
        by_cases hle : e2 ≤ f
        · have HE := show Hid (R = none) from by
            have := HR.out
            simp only [if_pos hle] at this
            exact this
          clear HR
          go_enter Tryd.func51, Tryd.ntmps51
          go_wp2_with (first | (go_at_call 50; refine KC.out.mono ?_; rintro e w1 ⟨rfl, hb⟩; have HB := show Hid (Below w.heap.size w w1) from hb; clear hb) | (go_at_call 58; refine (K1.out _).mono ?_; clear K1; rintro e w2 ⟨rfl, hb⟩; have HB2 := show Hid (Below w.heap.size w w2) from HB.out.trans (hb.mono HB.out.size); clear hb) | (go_at_call 58; refine (K2.out _).mono ?_; rintro e w3 ⟨rfl, hb⟩; have HB3 := show Hid (Below w.heap.size w w3) from HB2.out.trans (hb.mono HB2.out.size); clear hb))
          go_ret3
          exact ⟨by rw [HE.out]; rfl, HB3.out⟩
        · have HE := show Hid (R = some (f, e2)) from by
            have := HR.out
            simp only [if_neg hle] at this
            exact this
          clear HR
          go_enter Tryd.func51, Tryd.ntmps51
          go_wp2_with (first | (go_at_call 50; refine KC.out.mono ?_; rintro e w1 ⟨rfl, hb⟩; have HB := show Hid (Below w.heap.size w w1) from hb; clear hb) | (go_at_call 58; refine (K1.out _).mono ?_; clear K1; rintro e w2 ⟨rfl, hb⟩; have HB2 := show Hid (Below w.heap.size w w2) from HB.out.trans (hb.mono HB.out.size); clear hb) | (go_at_call 58; refine (K2.out _).mono ?_; rintro e w3 ⟨rfl, hb⟩; have HB3 := show Hid (Below w.heap.size w w3) from HB2.out.trans (hb.mono HB2.out.size); clear hb))
          go_ret3
          exact ⟨by rw [HE.out]; rfl, HB3.out⟩
set_option maxRecDepth 100000 in
set_option maxHeartbeats 2000000 in
theorem span_any (w : World) {f e : Nat} (h1 : f ≤ e) (h2 : e < 1024) : Calls Tryd.prog 52 #[.int .i64 (f : Int), .int .i64 (e : Int)] w fun e' w' => e' = .returned (.agg (cellsB (Bs.span f e))) ∧ Below w.heap.size w w' := by
  have KP := show Hid (∀ (n : Nat) w, n < 1024 → Calls Tryd.prog 39 #[.int .i64 (n : Int)] w fun e w' => e = .returned (.tuple #[.int .i64 ((n / 64 : Nat) : Int), .int .u64 ((2 ^ (n % 64) : Nat) : Int)]) ∧ w' = w.drew) from fun n w hn => place_any w n hn
  -- the set behind k numbers
  obtain ⟨P, hP0, hPS, hPO, hPE⟩ : ∃ P : Nat → List Nat, P 0 = Bs.zero ∧ (∀ k, P (k + 1) = Bs.put (P k) (f + k)) ∧ (∀ k, Ok (P k)) ∧ P (e - f + 1) = Bs.span f e := by
    refine ⟨fun k => match k with | 0 => Bs.zero | d + 1 => Bs.putAll Bs.zero f d, rfl, fun k => ?_, fun k => ?_, rfl⟩
    · cases k <;> rfl
    · cases k with
      | zero => exact Bs.zero_ok
      | succ d => exact Bs.putAll_ok Bs.zero_ok f d
  have H0 := show Hid (P 0 = Bs.zero) from hP0
  have HS := show Hid (∀ k, P (k + 1) = Bs.put (P k) (f + k)) from hPS
  have HO := show Hid (∀ k, Ok (P k)) from hPO
  have HE := show Hid (P (e - f + 1) = Bs.span f e) from hPE
  have HLE := show Hid ((Bs.span f e).length = 16) from (Bs.span_ok f e).1
  clear hP0 hPS hPO hPE
  generalize Bs.span f e = R at *
  have HT := show Hid (RowAt ((w.alloc (.cells #[.int .u64 0, .int .u64 0, .int .u64 0, .int .u64 0, .int .u64 0, .int .u64 0, .int .u64 0, .int .u64 0, .int .u64 0, .int .u64 0, .int .u64 0, .int .u64 0, .int .u64 0, .int .u64 0, .int .u64 0, .int .u64 0] 25)).alloc (.cells #[.int .u64 0, .int .u64 0, .int .u64 0, .int .u64 0, .int .u64 0, .int .u64 0, .int .u64 0, .int .u64 0, .int .u64 0, .int .u64 0, .int .u64 0, .int .u64 0, .int .u64 0, .int .u64 0, .int .u64 0, .int .u64 0] 25)) w.heap.size Bs.zero ∧ RowAt ((w.alloc (.cells #[.int .u64 0, .int .u64 0, .int .u64 0, .int .u64 0, .int .u64 0, .int .u64 0, .int .u64 0, .int .u64 0, .int .u64 0, .int .u64 0, .int .u64 0, .int .u64 0, .int .u64 0, .int .u64 0, .int .u64 0, .int .u64 0] 25)).alloc (.cells #[.int .u64 0, .int .u64 0, .int .u64 0, .int .u64 0, .int .u64 0, .int .u64 0, .int .u64 0, .int .u64 0, .int .u64 0, .int .u64 0, .int .u64 0, .int .u64 0, .int .u64 0, .int .u64 0, .int .u64 0, .int .u64 0] 25)) (w.heap.size + 1) Bs.zero) from heap_two w _ _
  go_enter Tryd.func52, Tryd.ntmps52
  go_wp2
  go_loopw [6] (fun n wr => ∃ k : Nat, k ≤ e - f + 1 ∧ n = .int .i64 ((f + k : Nat) : Int) ∧ Hid (RowAt wr w.heap.size Bs.zero ∧ RowAt wr (w.heap.size + 1) (P k) ∧ Below w.heap.size w wr)) (fun n _ => 1025 - (intOf n).toNat)
  case atStart => exact ⟨0, by omega, rfl, HT.out.1, by rw [H0.out]; exact HT.out.2, below_two w _ _⟩
  case round =>
    obtain ⟨k, hk, rfl, HR⟩ := hrel
    clear HT H0
    by_cases hlt : k < e - f + 1
    · have hm : f + k < 1024 := by omega
      have hle : f + k ≤ e := by omega
      have KP2 := show Hid (∀ w, Calls Tryd.prog 39 #[.int .i64 ((f + k : Nat) : Int)] w fun e w' => e = .returned (.tuple #[.int .i64 (((f + k) / 64 : Nat) : Int), .int .u64 ((2 ^ ((f + k) % 64) : Nat) : Int)]) ∧ w' = w.drew) from fun w => KP.out _ w hm
      have hq : (f + k) / 64 < 16 := by omega
      have hcl := HR.out.2.1.cell (i := (f + k) / 64) (by rw [(HO.out k).1]; exact hq)
      have hor := u64_or_nat (wd (P k) ((f + k) / 64)) (2 ^ ((f + k) % 64)) (Bs.wd_lt (HO.out k) _) (Bs.pow_lt (Nat.mod_lt _ (by omega)))
      have hfr := HR.out.2.1.fr ((f + k) / 64)
      have HN := show Hid (RowAt (wr.drew.setCell ⟨w.heap.size + 1, (f + k) / 64, none⟩ (.int .u64 ((wd (P k) ((f + k) / 64) ||| 2 ^ ((f + k) % 64) : Nat) : Int))) (w.heap.size + 1) (P (k + 1))) from by
        have h3 : RowAt wr.drew (w.heap.size + 1) (P k) := HR.out.2.1
        have := h3.setCell ((f + k) / 64) (wd (P k) ((f + k) / 64) ||| 2 ^ ((f + k) % 64))
        rw [HS.out k]
        exact this
      clear KP HS HE
      generalize wd (P k) ((f + k) / 64) ||| 2 ^ ((f + k) % 64) = z at *
      generalize wd (P k) ((f + k) / 64) = x at *
      generalize (f + k) / 64 = q at *
      generalize 2 ^ ((f + k) % 64) = p at *
      generalize hfk : f + k = m at *
      go_wp2_with (go_at_call 39; refine (KP2.out _).mono ?_; rintro e w' ⟨rfl, rfl⟩)
      go_roundw
      case rel => exact ⟨k + 1, by omega, val_int (by omega), HR.out.1.other (by show w.heap.size ≠ w.heap.size + 1; omega) _, HN.out, HR.out.2.2.drew.setCell (p := ⟨w.heap.size + 1, q, none⟩) (Nat.le_succ _) _⟩
      case measure => (simp only [intOf]; omega)
    · have hgt : ¬ f + k ≤ e := by omega
      have HK := show Hid (P k = R) from by rw [show k = e - f + 1 by omega]; exact HE.out
      have HR2 := show Hid (RowAt wr (w.heap.size + 1) R) from by rw [← HK.out]; exact HR.out.2.1
      clear KP HS HE HK
      generalize hfk : f + k = m at *
      go_wp2_with (first | (refine wpList_load16 _ rfl _ rfl _ rfl (r := R) HR2.out HLE.out ?_) | (refine wpList_store16 _ rfl rfl _ _ rfl _ rfl rfl (r := Bs.zero) HR.out.1 Bs.zero_ok.1 HLE.out ?_))
      refine bodyPost_ret (results_bits rfl _ _ w.heap.size (r := R) rfl (RowAt.setRow (r := Bs.zero) HR.out.1 R) HLE.out) rfl ?_
      exact ⟨rfl, below_setRow HR.out.2.2 (Nat.le_refl _) _⟩
end Go.Proofs.YthkolkmcnpafiaaDoor
