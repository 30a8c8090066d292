/-
  The Reader's calls: NewReader keeps a copy of the bytes; the number at the beginning (leadingNum); Num, Left, End, U8; a Reader that no call made answers with its error: for every row of bytes of at most 2^47 bytes.
-/
import Derived.Test.YthmfgoclkioncaaDoorOpen
import Derived.Test.YthmfgoclkioncaaDoorWriter
namespace Go.Proofs.YthmfgoclkioncaaDoor
open Go.RowKit

/-- The Reader at block pr has the bytes l left. -/
def Rd (w : World) (pr : Nat) (l : List UInt8) : Prop :=
  ∃ v t, t ≠ 5 ∧ w.heap[pr]? = some (.cells #[v, .bool true] t (0, 0)) ∧ IsB w v l ∧ (∀ k, v.ownBlock = some k → k ≠ pr)

set_option maxHeartbeats 400000 in
theorem usable_nil (w : World) : Calls Tryd.prog 40 #[.pointer none] w fun e w' => e = .returned (.bool false) ∧ w' = w := by
  go_enter Tryd.func40, Tryd.ntmps40
  go_wp2
  go_ret
  exact ⟨rfl, rfl⟩
set_option maxHeartbeats 400000 in
theorem usable_at (w : World) (pr : Nat) (b : Bool) (h : w.cell? ⟨pr, 1, none⟩ = some (.bool b)) : Calls Tryd.prog 40 #[.pointer (some ⟨pr, 0, none⟩)] w fun e w' => e = .returned (.bool b) ∧ w' = w := by
  go_enter Tryd.func40, Tryd.ntmps40
  go_wp2
  go_ret
  exact ⟨rfl, rfl⟩
/-- A Reader that no call made: nil, or one whose mark is not set. -/
def NoRd (w : World) (v : Value) : Prop := v = .pointer none ∨ ∃ pr, v = .pointer (some ⟨pr, 0, none⟩) ∧ w.cell? ⟨pr, 1, none⟩ = some (.bool false)
theorem usable_no (w : World) (v : Value) (h : NoRd w v) : Calls Tryd.prog 40 #[v] w fun e w' => e = .returned (.bool false) ∧ w' = w := by
  rcases h with rfl | ⟨pr, rfl, hc⟩
  · exact usable_nil w
  · exact usable_at w pr false hc
set_option maxHeartbeats 400000 in
theorem rU8_no (w : World) (v : Value) (h : NoRd w v) : Calls Tryd.prog 13 #[v] w fun e w' => e = .returned (.tuple #[.int .u8 0, .int .i64 1]) ∧ w' = w := by
  have C := show Hid (Calls Tryd.prog 40 #[v] w fun e w' => e = .returned (.bool false) ∧ w' = w) from usable_no w v h
  clear h
  go_enter Tryd.func13, Tryd.ntmps13
  go_wp2_with fail
  refine C.out.mono ?_
  rintro e w1 ⟨rfl, rfl⟩
  go_wp2
  go_ret2
  exact ⟨rfl, rfl⟩
set_option maxHeartbeats 400000 in
theorem rNum_no (w : World) (v : Value) (h : NoRd w v) : Calls Tryd.prog 14 #[v] w fun e w' => e = .returned (.tuple #[.int .u64 0, .int .i64 1]) ∧ w' = w := by
  have C := show Hid (Calls Tryd.prog 40 #[v] w fun e w' => e = .returned (.bool false) ∧ w' = w) from usable_no w v h
  clear h
  go_enter Tryd.func14, Tryd.ntmps14
  go_wp2_with fail
  refine C.out.mono ?_
  rintro e w1 ⟨rfl, rfl⟩
  go_wp2
  go_ret2
  exact ⟨rfl, rfl⟩
set_option maxHeartbeats 400000 in
theorem rText_no (w : World) (v : Value) (h : NoRd w v) : Calls Tryd.prog 16 #[v] w fun e w' => e = .returned (.tuple #[.string ⟨#[]⟩, .int .i64 1]) ∧ w' = w := by
  have C := show Hid (Calls Tryd.prog 40 #[v] w fun e w' => e = .returned (.bool false) ∧ w' = w) from usable_no w v h
  clear h
  go_enter Tryd.func16, Tryd.ntmps16
  go_wp2_with fail
  refine C.out.mono ?_
  rintro e w1 ⟨rfl, rfl⟩
  go_wp2
  go_ret2
  exact ⟨rfl, rfl⟩
set_option maxHeartbeats 400000 in
theorem rEnd_no (w : World) (v : Value) (h : NoRd w v) : Calls Tryd.prog 19 #[v] w fun e w' => e = .returned (.int .i64 1) ∧ w' = w := by
  have C := show Hid (Calls Tryd.prog 40 #[v] w fun e w' => e = .returned (.bool false) ∧ w' = w) from usable_no w v h
  clear h
  go_enter Tryd.func19, Tryd.ntmps19
  go_wp2_with fail
  refine C.out.mono ?_
  rintro e w1 ⟨rfl, rfl⟩
  go_wp2
  go_ret
  exact ⟨rfl, rfl⟩
set_option maxHeartbeats 400000 in
theorem rLeft_no (w : World) (v : Value) (h : NoRd w v) : Calls Tryd.prog 18 #[v] w fun e w' => e = .returned (.int .i64 0) ∧ w' = w := by
  have C := show Hid (Calls Tryd.prog 40 #[v] w fun e w' => e = .returned (.bool false) ∧ w' = w) from usable_no w v h
  clear h
  go_enter Tryd.func18, Tryd.ntmps18
  go_wp2_with fail
  refine C.out.mono ?_
  rintro e w1 ⟨rfl, rfl⟩
  go_wp2
  go_ret
  exact ⟨rfl, rfl⟩
set_option maxHeartbeats 400000 in
theorem rLeft_any (w : World) (pr : Nat) (l : List UInt8) (h : Rd w pr l) : Calls Tryd.prog 18 #[.pointer (some ⟨pr, 0, none⟩)] w fun e w' => e = .returned (.int .i64 (l.length : Int)) ∧ w' = w := by
  obtain ⟨v, t, ht, hv, ⟨p, c, rfl, hc1, hc2, hpn, hb⟩, hne⟩ := h
  have h0 : w.cell? ⟨pr, 0, none⟩ = some (.slice p l.length c) := by simp [World.cell?, hv]
  have h1 : w.cell? ⟨pr, 1, none⟩ = some (.bool true) := by simp [World.cell?, hv]
  have C := show Hid (Calls Tryd.prog 40 #[.pointer (some ⟨pr, 0, none⟩)] w fun e w' => e = .returned (.bool true) ∧ w' = w) from usable_at w pr true h1
  clear hv hne hb hpn
  go_enter Tryd.func18, Tryd.ntmps18
  go_wp2_with fail
  refine C.out.mono ?_
  rintro e w1 ⟨rfl, rfl⟩
  go_wp2
  go_ret
  exact ⟨rfl, rfl⟩
set_option maxHeartbeats 400000 in
theorem newReader_any (w : World) (v : Value) (l : List UInt8) (hv : IsB w v l) (hm : l.length ≤ 140737488355328) :
    Calls Tryd.prog 12 #[v] w fun e w' => ∃ pr, e = .returned (.pointer (some ⟨pr, 0, none⟩)) ∧ w.heap.size ≤ pr ∧ Rd w' pr l ∧ Below w.heap.size w w' := by
  have cC : Calls Tryd.prog 39 #[v] w fun e w' => ∃ v', e = .returned v' ∧ w'.ownsRow w.heap.size 5 1 v' l.length (vals l) ∧ Below w.heap.size w w' := by
    obtain ⟨p, c, rfl, hc1, hc2, hpn, hb⟩ := hv
    cases p with
    | none =>
      have h0 : l.length = 0 := by have := hpn rfl; omega
      refine (Tryd.bytes_Clone_nil l.length c w).mono ?_
      rintro e w1 ⟨rfl, rfl⟩
      obtain rfl : l = [] := List.eq_nil_of_length_eq_zero h0
      exact ⟨_, rfl, World.ownsRow_nil _ _ _ _, Below.refl _ _⟩
    | some a =>
      refine (Tryd.bytes_Clone_at a l.length c (ints l) w (ints_length l) hm (fun i hi => ?_)).mono ?_
      · obtain ⟨b, o, hp, hc⟩ := hb (by omega)
        obtain rfl := Option.some.inj hp
        rw [Addr.add_lit]
        exact hc i hi
      · rintro e w1 ⟨v', rfl, h1, _, h2⟩
        rw [← vals_eq] at h1
        exact ⟨v', rfl, h1, h2⟩
  have CC := show Hid (Calls Tryd.prog 39 #[v] w fun e w' => ∃ v', e = .returned v' ∧ w'.ownsRow w.heap.size 5 1 v' l.length (vals l) ∧ Below w.heap.size w w') from cC
  clear cC hv
  go_enter Tryd.func12, Tryd.ntmps12
  go_wp2_with fail
  refine CC.out.mono ?_
  rintro e w1 ⟨v', rfl, hown, hb⟩
  obtain ⟨pv, nv, cv, hv'⟩ : ∃ pv nv cv, v' = .slice pv nv cv := by
    rcases hown.2 with ⟨h, _⟩ | ⟨g, cap, cur, h, _⟩
    · exact ⟨_, _, _, h⟩
    · exact ⟨_, _, _, h⟩
  subst hv'
  have hsz := hb.size
  clear CC
  go_wp2
  go_ret
  refine ⟨w1.heap.size, rfl, hsz, ⟨_, _, ?_, heap_alloc_new _ _, (IsB.of_owns hown).alloc _, fun k hk => ?_⟩, hb.alloc hsz _⟩
  · decide
  · have := (hown.lt k hk).2; omega
end Go.Proofs.YthmfgoclkioncaaDoor
