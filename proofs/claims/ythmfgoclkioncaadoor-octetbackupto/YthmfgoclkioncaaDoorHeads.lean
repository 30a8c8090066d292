/-
  What must come at any rate (heads): it answers true, wherever the library's tables stand as the program's text lays them; what was in memory stays.
-/
import Derived.Test.YthmfgoclkioncaaDoorText
import Derived.Test.YthmfgoclkioncaaDoorReadNum
import Derived.Test.YthmfgoclkioncaaDoorSame
import Derived.Test.YthmfgoclkioncaaDoorUndec
import Derived.Test.YthmfgoclkioncaaDoorHex
import Derived.Lib.SlBytesConst
namespace Go.Proofs.YthmfgoclkioncaaDoor
open Go.RowKit Go.Sort

def Pows (w : World) : Prop := Lib.TabIs Tryd.prog w "internal/strconv.uint64pow10" .u64 Lib.pow10Tab
theorem pow_global : Tryd.prog.globalNamed "internal/strconv.uint64pow10" = some 2 := by kernel_rfl
theorem Pows.later {w w' : World} (h : Pows w) (hb : Below w.heap.size w w') : Pows w' := by
  have h' := h
  unfold Pows Lib.TabIs World.var? at h' ⊢
  simp only [pow_global, Option.bind_some] at h' ⊢
  have hlt : 2 < w.heap.size := by
    rcases Nat.lt_or_ge 2 w.heap.size with hh | hh
    · exact hh
    · simp [Array.getElem?_eq_none hh] at h'
  rw [hb.block _ hlt]
  exact h'
theorem below_grow (w : World) (q : Nat) (os : Array Obj) : Below w.heap.size w (grow (w.drewN q) os) :=
  ⟨rfl, rfl, rfl, by simp [grow], fun k hk => by simp [grow, Array.getElem?_append, hk]⟩
theorem below_drewN (w : World) (q : Nat) : Below w.heap.size w (w.drewN q) := ⟨rfl, rfl, rfl, Nat.le_refl _, fun _ _ => rfl⟩
set_option maxHeartbeats 400000 in
theorem dec_any (w : World) (n : Int) (h0 : -9223372036854775808 ≤ n) (h1 : n ≤ 9223372036854775807) (hP : Pows w) :
    Calls Tryd.prog 31 #[.int .i64 n] w fun e w' => e = .returned (.string ⟨(Lib.itoa n).toArray⟩) ∧ Below w.heap.size w w' := by
  have C := show Hid (Calls Tryd.prog 48 #[.int .i64 n] w fun e w' => e = .returned (.string ⟨(Lib.itoa n).toArray⟩) ∧ ∃ k os, w' = grow (w.drewN k) os) from Tryd.strconv_Itoa n h0 h1 w hP
  clear h0 h1 hP
  go_enter Tryd.func31, Tryd.ntmps31
  go_wp2_with fail
  refine C.out.mono ?_
  rintro e w1 ⟨rfl, k, os, hw⟩
  have hb : Below w.heap.size w w1 := by rw [hw]; exact below_grow w k os
  clear hw
  go_wp2
  go_ret
  exact ⟨rfl, hb⟩
theorem lit_isB (w : World) (cs : Array Value) (t : TypeId) (l : List UInt8) (n : Nat) (h : cs.toList = vals l) (hn : l.length = n) (hm : n ≤ 100) : IsB (w.alloc (.cells cs t)) (.slice (some ⟨w.heap.size, 0, none⟩) n n) l := by
  subst hn
  exact ⟨_, _, rfl, Nat.le_refl _, by omega, fun e => (nomatch e), lit_bytes w cs t l h⟩

theorem Rd.later {w w' : World} {pr : Nat} {l : List UInt8} (h : Rd w pr l) (hb : Below w.heap.size w w') : Rd w' pr l := by
  obtain ⟨v, t, ht, hv, hB, hne⟩ := h
  exact ⟨v, t, ht, by rw [hb.block pr (lt_of_block hv)]; exact hv, hB.later hb, hne⟩
theorem conv_at {P : Program} (w : World) (t e : TypeId) (C : Array Value) (n c g : Nat) (hg : g = w.heap.size) (ht : P.underlying t = some (.slice e)) (he : P.underlying e = some (.int .u8)) :
    (convert t t (.slice (some ⟨g, 0, none⟩) n c)).run P (w.alloc (.cells C e)) = .ok (.slice (some ⟨g, 0, none⟩) n c) (w.alloc (.cells C e (C.size, C.size + 1))) := by
  subst hg
  exact Lib.run_convert_bytes_const w t e C n c ht he
theorem mark_isB (w : World) (cs : Array Value) (t : TypeId) (fr : Nat × Nat) (l : List UInt8) (n : Nat) (h : cs.toList = vals l) (hn : l.length = n) (hm : n ≤ 100) : IsB (w.alloc (.cells cs t fr)) (.slice (some ⟨w.heap.size, 0, none⟩) n n) l := by
  subst hn
  refine ⟨_, _, rfl, Nat.le_refl _, by omega, fun e => (nomatch e), bytes_of_cell fun k hk => ?_⟩
  rw [Nat.zero_add, World.cell?_alloc_mark, ← Array.getElem?_toList, h]
  simp [vals, hk]
theorem num_300 : Oct.num 300 = [172, 2] := by decide
theorem text_p : textErr [112] = 0 ∧ textOf [112] = [1, 112] := by decide +kernel
theorem lead_long : Oct.lead [172, 130, 0] = (0, 0, 11) := by decide
theorem hex_0a : hexOf [10] = [48, 97] := by decide
theorem itoa_7 : Lib.itoa (-7) = [45, 55] := by decide +kernel
theorem undec_12 : digs 0 [49, 50] = some 12 := by decide
theorem sealed_5 : Oct.sealed ((Oct.sealed [5]).take ((Oct.sealed [5]).length - 4)) = Oct.sealed [5] := by decide +kernel

set_option maxRecDepth 100000 in
set_option maxHeartbeats 4000000 in
theorem heads_any (w : World) (hT : Tabs w) (hP : Pows w) :
    Calls Tryd.prog 11 #[] w fun e w' => e = .returned (.bool true) ∧ Below w.heap.size w w' := by
  have HT := show Hid (Tabs w) from hT
  have HP := show Hid (Pows w) from hP
  clear hT hP
  have HW0 : Hid (Wr w.heap.size (w.alloc (Obj.cells #[Value.slice none 0 0] 26)) w.heap.size []) := ⟨_, _, by decide, heap_alloc_new _ _, Nat.le_refl _, World.ownsRow_nil _ _ _ _⟩
  have HB0 : Hid (Below w.heap.size w (w.alloc (Obj.cells #[Value.slice none 0 0] 26))) := below_alloc _ _
  have C1 := show Hid (Calls Tryd.prog 34 #[.pointer (some ⟨w.heap.size, 0, none⟩), .int .u8 9] (w.alloc (Obj.cells #[Value.slice none 0 0] 26)) fun e w' => e = .returned (.tuple #[]) ∧ Wr w.heap.size w' w.heap.size [9] ∧ Below w.heap.size (w.alloc (Obj.cells #[Value.slice none 0 0] 26)) w') from wU8_any w.heap.size w.heap.size [] 9 _ HW0.out (by simp)
  go_enter Tryd.func11, Tryd.ntmps11
  go_wp2_with fail
  refine C1.out.mono ?_
  rintro e w1 ⟨rfl, hw1, hb1⟩
  have HB1 := show Hid (Below w.heap.size w w1) from HB0.out.trans hb1
  have C2 := show Hid (Calls Tryd.prog 35 #[.pointer (some ⟨w.heap.size, 0, none⟩), .int .u64 300] w1 fun e w' => e = .returned (.tuple #[]) ∧ Wr w.heap.size w' w.heap.size [9, 172, 2] ∧ Below w.heap.size w1 w') from by
    have := wNum_any w.heap.size w.heap.size [9] 300 w1 hw1 (by simp) (by omega)
    rw [num_300] at this
    exact this
  clear C1 HW0 HB0 hw1 hb1
  go_wp2_with fail
  refine C2.out.mono ?_
  rintro e w2 ⟨rfl, hw2, hb2⟩
  have HB2 := show Hid (Below w.heap.size w w2) from HB1.out.trans hb2
  have C3 := show Hid (Calls Tryd.prog 38 #[.pointer (some ⟨w.heap.size, 0, none⟩), .string ⟨#[112]⟩] w2 fun e w' => e = .returned (.int .i64 0) ∧ Wr w.heap.size w' w.heap.size [9, 172, 2, 1, 112] ∧ Below w.heap.size w2 w') from by
    have := wText_any w.heap.size w.heap.size [9, 172, 2] ⟨#[112]⟩ w2 hw2 HB2.out.size (by simp) (by decide) (HT.out.later HB2.out)
    have e1 : (⟨#[112]⟩ : ByteArray).data.toList = [112] := rfl
    rw [e1, text_p.1, text_p.2] at this
    exact this
  clear C2 HB1 hw2 hb2
  go_wp2_with fail
  refine C3.out.mono ?_
  rintro e w3 ⟨rfl, hw3, hb3⟩
  have HB3 := show Hid (Below w.heap.size w w3) from HB2.out.trans hb3
  have HW3 := show Hid (Wr w.heap.size w3 w.heap.size [9, 172, 2, 1, 112]) from hw3
  have C4 := show Hid (Calls Tryd.prog 12 #[.slice (some ⟨w3.heap.size, 0, none⟩) 3 3] (w3.alloc (Obj.cells #[Value.int IntKind.u8 172, Value.int IntKind.u8 130, Value.int IntKind.u8 0] 5)) fun e w' => ∃ pr, e = .returned (.pointer (some ⟨pr, 0, none⟩)) ∧ (w3.alloc (Obj.cells #[Value.int IntKind.u8 172, Value.int IntKind.u8 130, Value.int IntKind.u8 0] 5)).heap.size ≤ pr ∧ Rd w' pr [172, 130, 0] ∧ Below (w3.alloc (Obj.cells #[Value.int IntKind.u8 172, Value.int IntKind.u8 130, Value.int IntKind.u8 0] 5)).heap.size (w3.alloc (Obj.cells #[Value.int IntKind.u8 172, Value.int IntKind.u8 130, Value.int IntKind.u8 0] 5)) w') from newReader_any _ _ [172, 130, 0] (lit_isB _ _ _ _ 3 rfl rfl (by omega)) (by simp)
  clear C3 HB2 hw3 hb3
  go_wp2_with fail
  refine C4.out.mono ?_
  rintro e w4 ⟨pr, rfl, hpr, hrd4, hb4⟩
  have hq4 : Below w3.heap.size w3 w4 := (below_alloc _ _).trans (hb4.mono (by simp))
  have HB4 := show Hid (Below w.heap.size w w4) from HB3.out.trans (hq4.mono HB3.out.size)
  have HW4 := show Hid (Wr w.heap.size w4 w.heap.size [9, 172, 2, 1, 112]) from HW3.out.later hq4
  have HR4 := show Hid (Rd w4 pr [172, 130, 0]) from hrd4
  have C5 := show Hid (Calls Tryd.prog 14 #[.pointer (some ⟨pr, 0, none⟩)] w4 fun e w' => e = .returned (.tuple #[.int .u64 0, .int .i64 11]) ∧ w' = w4) from by
    have := rNum_bad w4 pr [172, 130, 0] hrd4 (by rw [lead_long]; decide)
    rw [lead_long] at this
    exact this
  clear C4 HB3 HW3 hrd4 hb4 hq4 hpr
  go_wp2_with fail
  refine C5.out.mono ?_
  rintro e w5 ⟨rfl, hw5⟩
  subst hw5
  have C6 := show Hid (Calls Tryd.prog 20 #[.slice (some ⟨w5.heap.size, 0, none⟩) 1 1] (w5.alloc (Obj.cells #[Value.int IntKind.u8 5] 5)) fun e w' => ∃ g, e = .returned (.slice (some ⟨g, 0, none⟩) 5 5) ∧ IsB w' (.slice (some ⟨g, 0, none⟩) 5 5) (Oct.sealed [5]) ∧ Below w5.heap.size w5 w') from by
    refine (seal_any (w5.alloc (Obj.cells #[Value.int IntKind.u8 5] 5)) _ [5] (lit_isB _ _ _ _ 1 rfl rfl (by omega)) (by simp)).mono ?_
    rintro e w' ⟨g, rfl, hown, hb⟩
    exact ⟨g, rfl, IsB.of_owns hown, (below_alloc _ _).trans (hb.mono (by simp))⟩
  clear C5
  go_wp2_with fail
  refine C6.out.mono ?_
  rintro e w6 ⟨g, rfl, hs6, hb6⟩
  have HB6 := show Hid (Below w.heap.size w w6) from HB4.out.trans (hb6.mono HB4.out.size)
  have HW6 := show Hid (Wr w.heap.size w6 w.heap.size [9, 172, 2, 1, 112]) from HW4.out.later hb6
  have HR6 := show Hid (Rd w6 pr [172, 130, 0]) from HR4.out.later hb6
  have C7 := show Hid (Calls Tryd.prog 24 #[.slice (some ⟨g, 0, none⟩) 5 5] w6 fun e w' => ∃ g2, e = .returned (.tuple #[.slice (some ⟨g2, 0, none⟩) 1 1, .int .i64 0]) ∧ IsB w' (.slice (some ⟨g2, 0, none⟩) 1 1) [5] ∧ Below w6.heap.size w6 w') from by
    have hl : (Oct.sealed [5]).length = 5 := Oct.sealed_length _
    refine (open_any w6 _ (Oct.sealed [5]) hs6 (by omega) (by omega)).mono ?_
    rintro e w' ⟨hb, ⟨_, g2, rfl, hown⟩ | ⟨hno, _⟩⟩
    · refine ⟨g2, by rw [hl], ?_, hb⟩
      obtain ⟨p', c', hv', h1', h2', _, hb'⟩ := IsB.of_owns hown
      obtain ⟨rfl, _, rfl⟩ := Value.slice.inj hv'
      obtain ⟨b, o, hp, hc⟩ := bytes_cell hb' (by omega)
      obtain ⟨rfl, rfl⟩ : g2 = b ∧ 0 = o := by simpa using hp
      have := IsB.take (c := 1) (l := [5]) (by simp) (by omega) (w := w') (b := g2) (o := 0) (fun k hk => by
        obtain rfl : k = 0 := by simp at hk; exact hk
        exact hc 0 (by omega)) 1 (by simp)
      exact this
    · exact absurd sealed_5 hno
  clear C6 HB4 HW4 HR4 hs6 hb6
  go_wp2_with fail
  refine C7.out.mono ?_
  rintro e w7 ⟨g2, rfl, hs7, hb7⟩
  have HB7 := show Hid (Below w.heap.size w w7) from HB6.out.trans (hb7.mono HB6.out.size)
  have HW7 := show Hid (Wr w.heap.size w7 w.heap.size [9, 172, 2, 1, 112]) from HW6.out.later hb7
  have HR7 := show Hid (Rd w7 pr [172, 130, 0]) from HR6.out.later hb7
  have HS7 := show Hid (IsB w7 (.slice (some ⟨g2, 0, none⟩) 1 1) [5]) from hs7
  have C8 := show Hid (Calls Tryd.prog 29 #[.string ⟨#[49, 50]⟩, .int .i64 12] w7 fun e w' => e = .returned (.tuple #[.int .i64 12, .int .i64 0]) ∧ Below w7.heap.size w7 w') from by
    refine (undec_loop w7 ⟨#[49, 50]⟩ 12 (by decide) (by decide) (Or.inl (by decide))).mono ?_
    rintro e w' ⟨hb, he⟩
    have e1 : (⟨#[49, 50]⟩ : ByteArray).data.toList = [49, 50] := rfl
    rw [e1, undec_12] at he
    exact ⟨he, hb⟩
  clear C7 HB6 HW6 HR6 hs7 hb7
  go_wp2_with fail
  refine C8.out.mono ?_
  rintro e w8 ⟨rfl, hb8⟩
  have HB8 := show Hid (Below w.heap.size w w8) from HB7.out.trans (hb8.mono HB7.out.size)
  have HW8 := show Hid (Wr w.heap.size w8 w.heap.size [9, 172, 2, 1, 112]) from HW7.out.later hb8
  have HR8 := show Hid (Rd w8 pr [172, 130, 0]) from HR7.out.later hb8
  have HS8 := show Hid (IsB w8 (.slice (some ⟨g2, 0, none⟩) 1 1) [5]) from HS7.out.later hb8
  obtain ⟨v, hcell, hv⟩ := HW8.out.isB
  have HV := show Hid (IsB w8 v [9, 172, 2, 1, 112]) from hv
  have C9 := show Hid (Calls Tryd.prog 10 #[v, .slice (some ⟨w8.heap.size, 0, none⟩) 5 5] (w8.alloc (Obj.cells #[Value.int IntKind.u8 9, Value.int IntKind.u8 172, Value.int IntKind.u8 2, Value.int IntKind.u8 1, Value.int IntKind.u8 112] 5)) fun e w' => e = .returned (.bool true) ∧ Below w8.heap.size w8 w') from by
    refine (same_any _ _ _ [9, 172, 2, 1, 112] [9, 172, 2, 1, 112] (hv.alloc _) (lit_isB _ _ _ _ 5 rfl rfl (by omega))).mono ?_
    rintro e w' ⟨rfl, n, rfl⟩
    exact ⟨ret_bool (by decide), (below_alloc _ _).trans ((below_drewN _ _).mono (by simp))⟩
  clear C8 HB7 HW7 HR7 HS7 hb8 hv HV HW8
  go_wp2_with fail
  refine C9.out.mono ?_
  rintro e w9 ⟨rfl, hb9⟩
  have HB9 := show Hid (Below w.heap.size w w9) from HB8.out.trans (hb9.mono HB8.out.size)
  have HR9 := show Hid (Rd w9 pr [172, 130, 0]) from HR8.out.later hb9
  have HS9 := show Hid (IsB w9 (.slice (some ⟨g2, 0, none⟩) 1 1) [5]) from HS8.out.later hb9
  have C10 := show Hid (Calls Tryd.prog 18 #[.pointer (some ⟨pr, 0, none⟩)] w9 fun e w' => e = .returned (.int .i64 3) ∧ w' = w9) from rLeft_any w9 pr [172, 130, 0] HR9.out
  clear C9 HB8 HR8 HS8 hb9 hcell
  go_wp2_with fail
  refine C10.out.mono ?_
  rintro e w10 ⟨rfl, hw10⟩
  subst hw10
  clear C10 HR9
  have kc1 := Lib.run_convert_bytes_const (P := Tryd.prog) w10 24 5 #[Value.int IntKind.u8 49, Value.int IntKind.u8 50, Value.int IntKind.u8 51, Value.int IntKind.u8 52] 4 4 Tryd.underlying24 Tryd.underlying5
  have kc2 := conv_at (P := Tryd.prog) (w10.alloc (.cells #[Value.int IntKind.u8 49, Value.int IntKind.u8 50, Value.int IntKind.u8 51, Value.int IntKind.u8 52] 5 (4, 5))) 24 5 #[Value.int IntKind.u8 53, Value.int IntKind.u8 54, Value.int IntKind.u8 55, Value.int IntKind.u8 56, Value.int IntKind.u8 57] 5 5 (w10.heap.size + 1) (by simp) Tryd.underlying24 Tryd.underlying5
  go_wp2_with fail
  clear kc1 kc2
  obtain ⟨wa, hwa⟩ : ∃ wa, wa = w10.alloc (Obj.cells #[Value.int IntKind.u8 49, Value.int IntKind.u8 50, Value.int IntKind.u8 51, Value.int IntKind.u8 52] 5 (4, 5)) := ⟨_, rfl⟩
  have hwas : wa.heap.size = w10.heap.size + 1 := by rw [hwa]; simp
  have hia : IsB wa (.slice (some ⟨w10.heap.size, 0, none⟩) 4 4) [49, 50, 51, 52] := by rw [hwa]; exact mark_isB _ _ _ _ _ 4 rfl rfl (by omega)
  have hba : Below w10.heap.size w10 wa := by rw [hwa]; exact below_alloc _ _
  rw [← hwa]
  obtain ⟨wb, hwb⟩ : ∃ wb, wb = wa.alloc (Obj.cells #[Value.int IntKind.u8 53, Value.int IntKind.u8 54, Value.int IntKind.u8 55, Value.int IntKind.u8 56, Value.int IntKind.u8 57] 5 (5, 6)) := ⟨_, rfl⟩
  have hwbs : wb.heap.size = w10.heap.size + 1 + 1 := by rw [hwb]; simp [hwas]
  have hib : IsB wb (.slice (some ⟨w10.heap.size + 1, 0, none⟩) 5 5) [53, 54, 55, 56, 57] := by rw [hwb, ← hwas]; exact mark_isB _ _ _ _ _ 5 rfl rfl (by omega)
  have hbb : Below wa.heap.size wa wb := by rw [hwb]; exact below_alloc _ _
  rw [← hwb, ← hwbs]
  have hia2 := hia.later hbb
  have C11 := show Hid (Calls Tryd.prog 22 #[.slice (some ⟨wb.heap.size, 0, none⟩) 2 2] (wb.alloc (Obj.cells #[Value.slice (some ⟨w10.heap.size, 0, none⟩) 4 4, Value.slice (some ⟨w10.heap.size + 1, 0, none⟩) 5 5] 24)) fun e w' => e = .returned (.int .u32 3808858755) ∧ Below w10.heap.size w10 w') from by
    refine (sum_two _ wb.heap.size 0 2 (.slice (some ⟨w10.heap.size, 0, none⟩) 4 4) (.slice (some ⟨w10.heap.size + 1, 0, none⟩) 5 5) [49, 50, 51, 52] [53, 54, 55, 56, 57] (by simp) (by simp) (hia2.alloc _) (hib.alloc _)).mono ?_
    rintro e w' ⟨rfl, rfl⟩
    refine ⟨ret_int ?_, (hba.trans (hbb.mono hba.size)).trans ((below_alloc _ _).mono (Nat.le_trans hba.size hbb.size))⟩
    rw [show ([49, 50, 51, 52] ++ [53, 54, 55, 56, 57] : List UInt8) = [49, 50, 51, 52, 53, 54, 55, 56, 57] from rfl, Oct.sum_known]
    rfl
  clear hwa hwb hia hib hia2 hba hbb
  refine C11.out.mono ?_
  rintro e w11 ⟨rfl, hb11⟩
  have HB11 := show Hid (Below w.heap.size w w11) from HB9.out.trans (hb11.mono HB9.out.size)
  have HS11 := show Hid (IsB w11 (.slice (some ⟨g2, 0, none⟩) 1 1) [5]) from HS9.out.later hb11
  have C12 := show Hid (Calls Tryd.prog 10 #[.slice (some ⟨g2, 0, none⟩) 1 1, .slice (some ⟨w11.heap.size, 0, none⟩) 1 1] (w11.alloc (Obj.cells #[Value.int IntKind.u8 5] 5)) fun e w' => e = .returned (.bool true) ∧ Below w11.heap.size w11 w') from by
    refine (same_any _ _ _ [5] [5] (HS11.out.alloc _) (lit_isB _ _ _ _ 1 rfl rfl (by omega))).mono ?_
    rintro e w' ⟨rfl, n, rfl⟩
    exact ⟨ret_bool (by decide), (below_alloc _ _).trans ((below_drewN _ _).mono (by simp))⟩
  clear C11 HB9 HS9 hb11 HS11 hwas hwbs
  go_wp2_with fail
  refine C12.out.mono ?_
  rintro e w12 ⟨rfl, hb12⟩
  have HB12 := show Hid (Below w.heap.size w w12) from HB11.out.trans (hb12.mono HB11.out.size)
  have C13 := show Hid (Calls Tryd.prog 26 #[.slice (some ⟨w12.heap.size, 0, none⟩) 1 1] (w12.alloc (Obj.cells #[Value.int IntKind.u8 10] 5)) fun e w' => e = .returned (.string ⟨#[48, 97]⟩) ∧ Below w12.heap.size w12 w') from by
    refine (hex_any _ _ [10] (lit_isB _ _ _ _ 1 rfl rfl (by omega)) (by simp)).mono ?_
    rintro e w' ⟨rfl, hb⟩
    rw [hex_0a]
    exact ⟨rfl, (below_alloc _ _).trans (hb.mono (by simp))⟩
  clear C12 HB11 hb12
  go_wp2_with fail
  refine C13.out.mono ?_
  rintro e w13 ⟨rfl, hb13⟩
  have HB13 := show Hid (Below w.heap.size w w13) from HB12.out.trans (hb13.mono HB12.out.size)
  have C14 := show Hid (Calls Tryd.prog 31 #[.int .i64 (-7)] w13 fun e w' => e = .returned (.string ⟨#[45, 55]⟩) ∧ Below w13.heap.size w13 w') from by
    refine (dec_any w13 (-7) (by omega) (by omega) (HP.out.later HB13.out)).mono ?_
    rintro e w' ⟨rfl, hb⟩
    rw [itoa_7]
    exact ⟨rfl, hb⟩
  clear C13 HB12 hb13
  go_wp2_with fail
  refine C14.out.mono ?_
  rintro e w14 ⟨rfl, hb14⟩
  have HB14 := show Hid (Below w.heap.size w w14) from HB13.out.trans (hb14.mono HB13.out.size)
  clear C14 HB13 hb14
  go_wp2
  go_ret
  exact ⟨rfl, HB14.out⟩
end Go.Proofs.YthmfgoclkioncaaDoor
