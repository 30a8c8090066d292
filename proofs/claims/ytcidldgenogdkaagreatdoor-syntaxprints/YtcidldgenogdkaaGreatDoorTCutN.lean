/-
  The call cutName: the name with which a text begins: for every text. No condition beyond the text's size.
-/
import Derived.Test.YtcidldgenogdkaaGreatDoorTByte
namespace Go.Proofs.YtcidldgenogdkaaGreatDoor.Tw
open Go.RowKit

/-- A token as a value, without its spot. -/
def tokV (t : Tk.Tok) : Array Value := #[.int .i64 t.1, .string ⟨t.2.1.toArray⟩, .int .i64 t.2.2, .int .i64 0, .int .i64 0, .int .i64 0]
def cutV (c : Tk.Cut) : Value := .tuple #[.agg (tokV c.1), .int .i64 (c.2.1 : Int), .int .i64 c.2.2]
theorem run_at (f : UInt8 → Bool) (l : List UInt8) (k : Nat) (h : k < l.length) (hf : f l[k] = true) : Tk.run f (l.drop k) = Tk.run f (l.drop (k + 1)) + 1 := by
  rw [List.drop_eq_getElem_cons h, Tk.run_cons, if_pos hf]
theorem run_not (f : UInt8 → Bool) (l : List UInt8) (k : Nat) (h : k < l.length) (hf : f l[k] = false) : Tk.run f (l.drop k) = 0 := by
  rw [List.drop_eq_getElem_cons h, Tk.run_cons, if_neg (by rw [hf]; simp)]
theorem bytes_at (s : ByteArray) (k : Nat) (h : k < s.size) : s.data.toList[k]'h = s[k]'h := by
  show s.data.toList[k] = s.data[k]
  simp
theorem str_take (s : ByteArray) (n : Nat) : s.extract 0 n = ⟨(s.data.toList.take n).toArray⟩ := by
  apply ByteArray.ext
  rw [ByteArray.data_extract]
  apply Array.ext'
  simp [Array.toList_extract]
theorem cutV_mk {a b : Tk.Cut} (h : a = b) : Ending.returned (cutV a) = .returned (cutV b) := by rw [h]
set_option maxHeartbeats 1000000 in
theorem cutName_any (w : World) (s : ByteArray) (hs : s.size ≤ 140737488355328) :
    Calls Tryz.prog 104 #[.string s] w fun e w' => e = .returned (cutV (Tk.cutName s.data.toList)) ∧ Below w.heap.size w w' := by
  have hsz : s.data.toList.length = s.size := rfl
  have HSZ := show Hid (s.data.toList.length = s.size) from hsz
  clear hsz
  have HX : Hid (0 + Tk.run Tk.isIn (s.data.toList.drop 0) = Tk.run Tk.isIn s.data.toList) := by rw [List.drop_zero]; exact Nat.zero_add _
  obtain ⟨n, hn⟩ : ∃ n, n = Tk.run Tk.isIn s.data.toList := ⟨_, rfl⟩
  have HA := show Hid (Tk.cutName s.data.toList = if 31 < n then Tk.bad 22 else ((1, s.data.toList.take n, 0), n, 0)) from by rw [hn]; rfl
  rw [← hn] at HX
  have HN := show Hid (n ≤ s.size) from by rw [hn]; exact Tk.run_le _ _
  clear hn
  generalize Tk.cutName s.data.toList = ans at *
  have C1 := show Hid (∀ (w : World) (c : UInt8), Calls Tryz.prog 130 #[.int .u8 (c.toNat : Int)] w fun e w' => e = .returned (.bool (Tk.isIn c)) ∧ w' = w) from within_any
  go_enter Tryz.func104, Tryz.ntmps104
  go_wp2_with fail
  go_loopw [5] (fun i wr => ∃ k : Nat, k ≤ s.size ∧ i = .int .i64 k ∧ Hid (k + Tk.run Tk.isIn (s.data.toList.drop k) = n) ∧ wr = w.alloc (Obj.cells #[.int .i64 0, .string ⟨#[]⟩, .int .i64 0, .int .i64 0, .int .i64 0, .int .i64 0] 45)) (fun i _ => s.size - (intOf i).toNat)
  case atStart => exact ⟨0, by omega, rfl, HX, rfl⟩
  case round =>
    obtain ⟨k, hk, rfl, HK, rfl⟩ := hrel
    clear HX
    by_cases hlt : k < s.size
    · cases hin : Tk.isIn s[k] with
      | true =>
        have HK2 := show Hid (k + 1 + Tk.run Tk.isIn (s.data.toList.drop (k + 1)) = n) from by
          have := HK.out
          rw [run_at _ _ _ (by rw [HSZ.out]; exact hlt) (by rw [bytes_at s k hlt]; exact hin)] at this
          show _ = _
          omega
        have HIN := show Hid (Tk.isIn s[k] = true) from hin
        clear HK hin
        go_wp2_with fail
        refine (C1.out _ s[k]).mono ?_
        rintro e w1 ⟨rfl, rfl⟩
        rw [HIN.out]
        go_wp2_with fail
        go_roundw
        case rel => exact ⟨k + 1, by omega, by go_num, HK2, trivial⟩
        case measure => simp [intOf]; omega
      | false =>
        have HIN := show Hid (Tk.isIn s[k] = false) from hin
        have hkn : k = n := by
          have := HK.out
          rw [run_not _ _ _ (by rw [HSZ.out]; exact hlt) (by rw [bytes_at s k hlt]; exact hin)] at this
          omega
        subst hkn
        clear HK hin
        go_wp2_with fail
        refine (C1.out _ s[k]).mono ?_
        rintro e w1 ⟨rfl, rfl⟩
        rw [HIN.out]
        by_cases h31 : 31 < k
        · have hA := HA.out
          rw [if_pos h31] at hA
          subst hA
          clear HA
          go_wp2_with fail
          refine bodyPost_ret (results_cell2_row rfl _ _ w.heap.size _ _ _ _ rfl (heap_alloc_new _ _) Tryz.underlying45 rfl (by kernel_rfl)) rfl ?_
          exact ⟨rfl, below_alloc _ _⟩
        · have hA := HA.out
          rw [if_neg h31] at hA
          subst hA
          clear HA
          have HT := show Hid (s.extract 0 k = ⟨(s.data.toList.take k).toArray⟩) from str_take s k
          go_wp2_with fail
          refine bodyPost_ret (results_cell2_row rfl _ _ w.heap.size _ _ _ _ rfl (heap_alloc_new _ _) Tryz.underlying45 rfl (by kernel_rfl)) rfl ?_
          exact ⟨by rw [HT.out]; rfl, below_alloc _ _⟩
    · have hkn : k = n := by
        have := HK.out
        rw [List.drop_eq_nil_of_le (by rw [HSZ.out]; omega)] at this
        exact this
      subst hkn
      clear HK
      by_cases h31 : 31 < k
      · have hA := HA.out
        rw [if_pos h31] at hA
        subst hA
        clear HA
        go_wp2_with fail
        refine bodyPost_ret (results_cell2_row rfl _ _ w.heap.size _ _ _ _ rfl (heap_alloc_new _ _) Tryz.underlying45 rfl (by kernel_rfl)) rfl ?_
        exact ⟨rfl, below_alloc _ _⟩
      · have hA := HA.out
        rw [if_neg h31] at hA
        subst hA
        clear HA
        have HT := show Hid (s.extract 0 k = ⟨(s.data.toList.take k).toArray⟩) from str_take s k
        go_wp2_with fail
        refine bodyPost_ret (results_cell2_row rfl _ _ w.heap.size _ _ _ _ rfl (heap_alloc_new _ _) Tryz.underlying45 rfl (by kernel_rfl)) rfl ?_
        exact ⟨by rw [HT.out]; rfl, below_alloc _ _⟩
end Go.Proofs.YtcidldgenogdkaaGreatDoor.Tw
