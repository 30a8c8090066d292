/-
  The calls cutSign, cutRune and cut: the token with which a text begins: for every text, where the tables stand as the program's text lays them. No condition beyond the text's size.
-/
import Derived.Test.YtcidldgenogdkaaGreatDoorTCutI
import Derived.Test.YtcidldgenogdkaaGreatDoorShelfA
namespace Go.Proofs.YtcidldgenogdkaaGreatDoor.Tw
open Go.RowKit

def sigV : Array Value := (Tk.signs.map fun g => Value.string ⟨g.toArray⟩).toArray
/-- The table of signs stands as it is laid. -/
def Sigs (w : World) : Prop := ∃ t fr, w.heap[0]? = some (.cells sigV t fr)
theorem Sigs.later {w w' : World} (h : Sigs w) (hb : Below w.heap.size w w') : Sigs w' := by
  obtain ⟨t, fr, h⟩ := h
  exact ⟨t, fr, (hb.block _ (lt_of_block h)).trans h⟩
theorem run_index_signs (w : World) (sa : Array Value) (k : Nat) (v : ByteArray) (hk : k < 20) (hs : sa.size = 20) (h : sa[k]? = some (.string v)) :
    (Instr.index 166 (.agg sa) (.int .i64 (k : Int))).run Tryz.prog w = .ok (.string v) w := by
  have h1 : (0 : Int) ≤ (k : Int) ∧ (k : Int) < 20 := by omega
  have h2 : sa[k]'(by omega) = .string v := by
    rw [Array.getElem?_eq_getElem (by omega)] at h
    exact Option.some.inj h
  simp [Instr.index, run_underlying Tryz.underlying166, asIntOf, h1, part, go_sem, h, Tryz.isAgg9, Tryz.sizeOf9, hk]
set_option maxRecDepth 100000 in
set_option maxHeartbeats 2000000 in
theorem cutSign_any (w : World) (s : ByteArray) (hS : Sigs w) :
    Calls Tryz.prog 107 #[.string s] w fun e w' => e = .returned (cutV (Tk.cutSign s.data.toList)) ∧ Below w.heap.size w w' := by
  obtain ⟨t, fr, hS⟩ := hS
  have hS2 : (w.alloc (Obj.cells #[.int .i64 0, .string ⟨#[]⟩, .int .i64 0, .int .i64 0, .int .i64 0, .int .i64 0] 45)).heap[0]? = some (.cells sigV t fr) := (Below.heap_alloc _ _ _ (lt_of_block hS)).trans hS
  have HS2 := show Hid ((w.alloc (Obj.cells #[.int .i64 0, .string ⟨#[]⟩, .int .i64 0, .int .i64 0, .int .i64 0, .int .i64 0] 45)).heap[0]? = some (.cells sigV t fr)) from hS2
  clear hS hS2
  have HX : Hid (Tk.signIn (Tk.signs.drop 0) s.data.toList = Tk.cutSign s.data.toList) := rfl
  generalize Tk.cutSign s.data.toList = ans at *
  go_enter Tryz.func107, Tryz.ntmps107
  go_wp2_with (refine wpList_load_row rfl 166 (.global 0) rfl 0 rfl t sigV fr _ HS2.out Tryz.underlying166 rfl (by kernel_rfl) ?_)
  have HG := show Hid (∀ k (h : k < 20), sigV[k]? = some (Value.string ⟨(Tk.signs[k]'h).toArray⟩)) from fun k h => by
    simp only [sigV, List.getElem?_toArray, List.getElem?_map]
    rw [List.getElem?_eq_getElem (by exact h)]
    rfl
  have HZ : Hid (sigV.size = 20) := rfl
  generalize sigV = sa at *
  go_loopw [6, 8] (fun _ i wr => ∃ k : Nat, k ≤ 20 ∧ i = .int .i64 k ∧ Hid (Tk.signIn (Tk.signs.drop k) s.data.toList = ans) ∧ wr = w.alloc (Obj.cells #[.int .i64 0, .string ⟨#[]⟩, .int .i64 0, .int .i64 0, .int .i64 0, .int .i64 0] 45)) (fun _ i _ => 20 - (intOf i).toNat)
  case atStart => exact ⟨0, by omega, rfl, HX, rfl⟩
  case round =>
    obtain ⟨k, hk, rfl, HK, rfl⟩ := hrel
    clear HX
    by_cases hlt : k < 20
    · have hidx := HG.out k hlt
      have hK := HK.out
      rw [List.drop_eq_getElem_cons (show k < Tk.signs.length from hlt), Tk.signIn] at hK
      generalize Tk.signs[k]'hlt = g at *
      have hsa := HZ.out
      have C1 := show Hid (∀ w, Calls Tryz.prog 131 #[.string s, .string ⟨g.toArray⟩] w fun e w' => e = .returned (.bool (Lib.hasPrefix s.data.toList (⟨g.toArray⟩ : ByteArray).data.toList)) ∧ w' = w) from fun w => Tryz.strings_HasPrefix s ⟨g.toArray⟩ w
      have HK2 := show Hid _ from hK
      have hix := fun w => run_index_signs w sa k _ hlt hsa hidx
      clear hK HK hidx hsa
      go_wp2_with fail
      refine (C1.out _).mono ?_
      rintro e w1 ⟨rfl, rfl⟩
      have hgl : (⟨g.toArray⟩ : ByteArray).size = g.length := by show g.toArray.size = _; simp
      cases hp : Lib.hasPrefix s.data.toList g with
      | true =>
        have hA := HK2.out
        rw [if_pos (show g.isPrefixOf s.data.toList = true from hp)] at hA
        subst hA
        clear HK2 C1
        go_wp2_with fail
        refine bodyPost_ret (results_cell2_row rfl _ _ w.heap.size _ _ _ _ rfl (heap_alloc_new _ _) Tryz.underlying45 rfl (by kernel_rfl)) rfl ?_
        exact ⟨rfl, below_alloc _ _⟩
      | false =>
        have hA := HK2.out
        rw [if_neg (by rw [show g.isPrefixOf s.data.toList = false from hp]; simp)] at hA
        have HK3 := show Hid (Tk.signIn (Tk.signs.drop (k + 1)) s.data.toList = ans) from hA
        clear HK2 hA C1
        go_wp2_with fail
        go_roundw
        case rel => exact ⟨k + 1, by omega, by go_num, HK3, trivial⟩
        case measure => simp [intOf]; omega
    · obtain rfl : k = 20 := by omega
      have hA := HK.out
      have hA2 : Tk.bad 20 = ans := hA
      subst hA2
      clear HK hA
      go_wp2_with fail
      refine bodyPost_ret (results_cell2_row rfl _ _ w.heap.size _ _ _ _ rfl (heap_alloc_new _ _) Tryz.underlying45 rfl (by kernel_rfl)) rfl ?_
      exact ⟨rfl, below_alloc _ _⟩
def Tabs (w : World) : Prop := Lib.Utf8Tabs 1 2 w
theorem Tabs.later {w w' : World} (h : Tabs w) (hb : Below w.heap.size w w') : Tabs w' :=
  ⟨fun c hc => cell_later hb (h.1 c hc), fun i hi => ⟨cell_later hb (h.2 i hi).1, cell_later hb (h.2 i hi).2⟩⟩
theorem decodeGo_eq (s : ByteArray) (h : 0 < s.size) : Lib.decodeGo s = Tk.dec s.data.toList := by
  have e := Tk.decode_eq s 0 (by omega)
  rw [List.drop_zero] at e
  rw [← e]
  unfold Lib.decodeGo
  rw [if_neg (by omega)]
set_option maxHeartbeats 1000000 in
theorem cutRune_any (w : World) (s : ByteArray) (_hs : s.size ≤ 140737488355328) (h0 : 0 < s.size) (hT : Tabs w) :
    Calls Tryz.prog 108 #[.string s] w fun e w' => e = .returned (cutV (Tk.cutRune s.data.toList)) ∧ Below w.heap.size w w' := by
  have HT := show Hid (Tabs (w.alloc (Obj.cells #[.int .i64 0, .string ⟨#[]⟩, .int .i64 0, .int .i64 0, .int .i64 0, .int .i64 0] 45))) from hT.later (below_alloc _ _)
  clear hT
  have C1 := show Hid (Calls Tryz.prog 132 #[.string s] (w.alloc (Obj.cells #[.int .i64 0, .string ⟨#[]⟩, .int .i64 0, .int .i64 0, .int .i64 0, .int .i64 0] 45)) fun e w' => e = .returned (.tuple #[.int .i32 ((Tk.dec s.data.toList).1 : Int), .int .i64 ((Tk.dec s.data.toList).2 : Int)]) ∧ Below (w.alloc (Obj.cells #[.int .i64 0, .string ⟨#[]⟩, .int .i64 0, .int .i64 0, .int .i64 0, .int .i64 0] 45)).heap.size (w.alloc (Obj.cells #[.int .i64 0, .string ⟨#[]⟩, .int .i64 0, .int .i64 0, .int .i64 0, .int .i64 0] 45)) w') from by
    have := Tryz.utf8_DecodeRuneInString s _ HT.out
    rw [decodeGo_eq s h0] at this
    exact this
  have HX : Hid (Tk.cutRune s.data.toList = if (Tk.meaning (Tk.dec s.data.toList).1).1 = 0 then Tk.bad 20 else (((Tk.meaning (Tk.dec s.data.toList).1).1, (Tk.meaning (Tk.dec s.data.toList).1).2, 0), (Tk.dec s.data.toList).2, 0)) := rfl
  generalize Tk.cutRune s.data.toList = ans at *
  generalize Tk.dec s.data.toList = dd at *
  have C2 := show Hid (∀ w, Calls Tryz.prog 133 #[.int .i32 (dd.1 : Int)] w fun e w' => e = .returned (.tuple #[.int .i64 (Tk.meaning dd.1).1, .string ⟨(Tk.meaning dd.1).2.toArray⟩]) ∧ w' = w) from fun w => meaning_any w dd.1
  generalize Tk.meaning dd.1 = mm at *
  obtain ⟨mk, mt⟩ := mm
  go_enter Tryz.func108, Tryz.ntmps108
  go_wp2_with fail
  refine C1.out.mono ?_
  rintro e w1 ⟨rfl, hb⟩
  have HB := show Hid (Below w.heap.size w w1) from (below_alloc _ _).trans (hb.mono (by simp))
  have HR := show Hid (T6 w1 w.heap.size (.int .i64 0) (.string ⟨#[]⟩) (.int .i64 0) (.int .i64 0) (.int .i64 0) (.int .i64 0)) from (hb.block _ (by simp)).trans (heap_alloc_new _ _)
  clear hb C1 HT
  go_wp2_with fail
  refine (C2.out _).mono ?_
  rintro e w1' ⟨rfl, rfl⟩
  have hc0 := HR.out.c0; have hc1 := HR.out.c1; have hc2 := HR.out.c2; have hc3 := HR.out.c3; have hc4 := HR.out.c4; have hc5 := HR.out.c5; have hcf := HR.out.fr
  by_cases hm : mk = 0
  · subst hm
    have hA := HX.out
    rw [if_pos rfl] at hA
    subst hA
    clear HX
    go_wp2_with fail
    refine bodyPost_ret (results_cell2_row rfl _ _ w.heap.size _ _ _ _ rfl (HR.out.s6 (.int .i64 0) (.string ⟨#[]⟩) (.int .i64 0) (.int .i64 0) (.int .i64 0) (.int .i64 0)) Tryz.underlying45 rfl (by kernel_rfl)) rfl ?_
    exact ⟨rfl, below_set6 HB.out (Nat.le_refl _) _ _ _ _ _ _⟩
  · have hm0 : (mk == 0) = false := beq_eq_false_iff_ne.2 hm
    have hA := HX.out
    rw [if_neg hm] at hA
    subst hA
    clear HX hm
    go_wp2_with fail
    refine bodyPost_ret (results_cell2_row rfl _ _ w.heap.size _ _ _ _ rfl (HR.out.s6 (.int .i64 mk) (.string ⟨mt.toArray⟩) (.int .i64 0) (.int .i64 0) (.int .i64 0) (.int .i64 0)) Tryz.underlying45 rfl (by kernel_rfl)) rfl ?_
    exact ⟨rfl, below_set6 HB.out (Nat.le_refl _) _ _ _ _ _ _⟩
/-- What is laid: signs and the tables of utf8. -/
def Laid (w : World) : Prop := Sigs w ∧ Tabs w
theorem Laid.later {w w' : World} (h : Laid w) (hb : Below w.heap.size w w') : Laid w' := ⟨h.1.later hb, h.2.later hb⟩
theorem cut_cons (c : UInt8) (r : List UInt8) : Tk.cut (c :: r) = if Tk.isBeg c = true then Tk.cutName (c :: r) else if Tk.isDig c = true then Tk.cutNum (c :: r) else if c.toNat < 128 then Tk.cutSign (c :: r) else Tk.cutRune (c :: r) := rfl
theorem cut_at (s : ByteArray) (h : 0 < s.size) : Tk.cut s.data.toList = if Tk.isBeg s[0] = true then Tk.cutName s.data.toList else if Tk.isDig s[0] = true then Tk.cutNum s.data.toList else if (s[0]).toNat < 128 then Tk.cutSign s.data.toList else Tk.cutRune s.data.toList := by
  have hsz : s.data.toList.length = s.size := rfl
  have e : s.data.toList = s[0] :: s.data.toList.drop 1 := by
    have := List.drop_eq_getElem_cons (l := s.data.toList) (i := 0) (by omega)
    rw [List.drop_zero, bytes_at s 0 h] at this
    exact this
  generalize s.data.toList = l at *
  rw [e, cut_cons]
def tok0 : Obj := .cells #[.int .i64 0, .string ⟨#[]⟩, .int .i64 0, .int .i64 0, .int .i64 0, .int .i64 0] 45
set_option maxHeartbeats 2000000 in
theorem cut_any (w : World) (s : ByteArray) (hs : s.size ≤ 140737488355328) (hL : Laid w) :
    Calls Tryz.prog 83 #[.string s] w fun e w' => e = .returned (cutV (Tk.cut s.data.toList)) ∧ Below w.heap.size w w' := by
  have HL := show Hid (Laid (w.alloc tok0)) from hL.later (below_alloc _ _)
  have HZ : Hid (T6 (w.alloc tok0) w.heap.size (.int .i64 0) (.string ⟨#[]⟩) (.int .i64 0) (.int .i64 0) (.int .i64 0) (.int .i64 0)) := heap_alloc_new _ _
  clear hL
  by_cases h0 : 0 < s.size
  · have C1 := show Hid (∀ (w : World) (c : UInt8), Calls Tryz.prog 103 #[.int .u8 (c.toNat : Int)] w fun e w' => e = .returned (.bool (Tk.isBeg c)) ∧ w' = w) from begins_any
    have C2 := show Hid (∀ (w : World) (c : UInt8), Calls Tryz.prog 105 #[.int .u8 (c.toNat : Int)] w fun e w' => e = .returned (.bool (Tk.isDig c)) ∧ w' = w) from isDigit_any
    have hem : s.toList.isEmpty = false := by
      rw [Lib.toList_data]
      cases hd : s.data.toList with
      | nil =>
        have hsz : s.data.toList.length = s.size := rfl
        rw [hd] at hsz
        simp at hsz
        omega
      | cons a t => rfl
    have HX := show Hid _ from cut_at s h0
    generalize Tk.cut s.data.toList = ans at *
    go_enter Tryz.func83, Tryz.ntmps83
    go_wp2_with fail
    refine (C1.out _ s[0]).mono ?_
    rintro e w1 ⟨rfl, rfl⟩
    cases hb : Tk.isBeg s[0] with
    | true =>
      have hA := HX.out; rw [if_pos hb] at hA
      have CC := show Hid (Calls Tryz.prog 104 #[.string s] (w.alloc tok0) fun e w' => e = .returned (cutV ans) ∧ Below (w.alloc tok0).heap.size (w.alloc tok0) w') from by rw [hA]; exact cutName_any _ s hs
      clear HX hA
      go_wp2_with fail
      refine CC.out.mono ?_
      rintro e w1 ⟨rfl, hb⟩
      have HB := show Hid (Below w.heap.size w w1) from (below_alloc _ _).trans (hb.mono (by simp))
      have HR := show Hid (T6 w1 w.heap.size (.int .i64 0) (.string ⟨#[]⟩) (.int .i64 0) (.int .i64 0) (.int .i64 0) (.int .i64 0)) from (hb.block _ (by simp)).trans HZ.out
      have hc0 := HR.out.c0; have hc1 := HR.out.c1; have hc2 := HR.out.c2; have hc3 := HR.out.c3; have hc4 := HR.out.c4; have hc5 := HR.out.c5; have hcf := HR.out.fr
      clear hb CC
      obtain ⟨⟨tk, tt, ti⟩, tn, te⟩ := ans
      unfold cutV tokV
      go_wp2_with fail
      refine bodyPost_ret (results_cell2_row rfl _ _ w.heap.size _ _ _ _ rfl (HR.out.s6 (.int .i64 tk) (.string ⟨tt.toArray⟩) (.int .i64 ti) (.int .i64 0) (.int .i64 0) (.int .i64 0)) Tryz.underlying45 rfl (by kernel_rfl)) rfl ?_
      exact ⟨rfl, below_set6 HB.out (Nat.le_refl _) _ _ _ _ _ _⟩
    | false =>
      go_wp2_with fail
      refine (C2.out _ s[0]).mono ?_
      rintro e w1 ⟨rfl, rfl⟩
      cases hd : Tk.isDig s[0] with
      | true =>
        have hA := HX.out; rw [if_neg (by rw [hb]; simp), if_pos hd] at hA
        have CC := show Hid (Calls Tryz.prog 106 #[.string s] (w.alloc tok0) fun e w' => e = .returned (cutV ans) ∧ Below (w.alloc tok0).heap.size (w.alloc tok0) w') from by rw [hA]; exact cutNum_any _ s hs h0
        clear HX hA
        go_wp2_with fail
        refine CC.out.mono ?_
        rintro e w1 ⟨rfl, hb⟩
        have HB := show Hid (Below w.heap.size w w1) from (below_alloc _ _).trans (hb.mono (by simp))
        have HR := show Hid (T6 w1 w.heap.size (.int .i64 0) (.string ⟨#[]⟩) (.int .i64 0) (.int .i64 0) (.int .i64 0) (.int .i64 0)) from (hb.block _ (by simp)).trans HZ.out
        have hc0 := HR.out.c0; have hc1 := HR.out.c1; have hc2 := HR.out.c2; have hc3 := HR.out.c3; have hc4 := HR.out.c4; have hc5 := HR.out.c5; have hcf := HR.out.fr
        clear hb CC
        obtain ⟨⟨tk, tt, ti⟩, tn, te⟩ := ans
        unfold cutV tokV
        go_wp2_with fail
        refine bodyPost_ret (results_cell2_row rfl _ _ w.heap.size _ _ _ _ rfl (HR.out.s6 (.int .i64 tk) (.string ⟨tt.toArray⟩) (.int .i64 ti) (.int .i64 0) (.int .i64 0) (.int .i64 0)) Tryz.underlying45 rfl (by kernel_rfl)) rfl ?_
        exact ⟨rfl, below_set6 HB.out (Nat.le_refl _) _ _ _ _ _ _⟩
      | false =>
        by_cases h128 : (s[0]).toNat < 128
        · have q128 : decide ((((s[0]).toNat : Nat) : Int) < 128) = true := decide_eq_true (by omega)
          have hA := HX.out; rw [if_neg (by rw [hb]; simp), if_neg (by rw [hd]; simp), if_pos h128] at hA
          have CC := show Hid (Calls Tryz.prog 107 #[.string s] (w.alloc tok0) fun e w' => e = .returned (cutV ans) ∧ Below (w.alloc tok0).heap.size (w.alloc tok0) w') from by rw [hA]; exact cutSign_any _ s HL.out.1
          clear HX hA h128
          go_wp2_with fail
          refine CC.out.mono ?_
          rintro e w1 ⟨rfl, hb⟩
          have HB := show Hid (Below w.heap.size w w1) from (below_alloc _ _).trans (hb.mono (by simp))
          have HR := show Hid (T6 w1 w.heap.size (.int .i64 0) (.string ⟨#[]⟩) (.int .i64 0) (.int .i64 0) (.int .i64 0) (.int .i64 0)) from (hb.block _ (by simp)).trans HZ.out
          have hc0 := HR.out.c0; have hc1 := HR.out.c1; have hc2 := HR.out.c2; have hc3 := HR.out.c3; have hc4 := HR.out.c4; have hc5 := HR.out.c5; have hcf := HR.out.fr
          clear hb CC
          obtain ⟨⟨tk, tt, ti⟩, tn, te⟩ := ans
          unfold cutV tokV
          go_wp2_with fail
          refine bodyPost_ret (results_cell2_row rfl _ _ w.heap.size _ _ _ _ rfl (HR.out.s6 (.int .i64 tk) (.string ⟨tt.toArray⟩) (.int .i64 ti) (.int .i64 0) (.int .i64 0) (.int .i64 0)) Tryz.underlying45 rfl (by kernel_rfl)) rfl ?_
          exact ⟨rfl, below_set6 HB.out (Nat.le_refl _) _ _ _ _ _ _⟩
        · have q128 : decide ((((s[0]).toNat : Nat) : Int) < 128) = false := decide_eq_false (by omega)
          have hA := HX.out; rw [if_neg (by rw [hb]; simp), if_neg (by rw [hd]; simp), if_neg h128] at hA
          have CC := show Hid (Calls Tryz.prog 108 #[.string s] (w.alloc tok0) fun e w' => e = .returned (cutV ans) ∧ Below (w.alloc tok0).heap.size (w.alloc tok0) w') from by rw [hA]; exact cutRune_any _ s hs h0 HL.out.2
          clear HX hA h128
          go_wp2_with fail
          refine CC.out.mono ?_
          rintro e w1 ⟨rfl, hb⟩
          have HB := show Hid (Below w.heap.size w w1) from (below_alloc _ _).trans (hb.mono (by simp))
          have HR := show Hid (T6 w1 w.heap.size (.int .i64 0) (.string ⟨#[]⟩) (.int .i64 0) (.int .i64 0) (.int .i64 0) (.int .i64 0)) from (hb.block _ (by simp)).trans HZ.out
          have hc0 := HR.out.c0; have hc1 := HR.out.c1; have hc2 := HR.out.c2; have hc3 := HR.out.c3; have hc4 := HR.out.c4; have hc5 := HR.out.c5; have hcf := HR.out.fr
          clear hb CC
          obtain ⟨⟨tk, tt, ti⟩, tn, te⟩ := ans
          unfold cutV tokV
          go_wp2_with fail
          refine bodyPost_ret (results_cell2_row rfl _ _ w.heap.size _ _ _ _ rfl (HR.out.s6 (.int .i64 tk) (.string ⟨tt.toArray⟩) (.int .i64 ti) (.int .i64 0) (.int .i64 0) (.int .i64 0)) Tryz.underlying45 rfl (by kernel_rfl)) rfl ?_
          exact ⟨rfl, below_set6 HB.out (Nat.le_refl _) _ _ _ _ _ _⟩
  · have hemp : s = ⟨#[]⟩ := by
      apply ByteArray.ext
      exact Array.eq_empty_of_size_eq_zero (show s.data.size = 0 from by show s.size = 0; omega)
    subst hemp
    clear h0 hs
    go_enter Tryz.func83, Tryz.ntmps83
    go_wp2_with fail
    refine bodyPost_ret (results_cell2_row rfl _ _ w.heap.size _ _ _ _ rfl (heap_alloc_new _ _) Tryz.underlying45 rfl (by kernel_rfl)) rfl ?_
    exact ⟨rfl, below_alloc _ _⟩
end Go.Proofs.YtcidldgenogdkaaGreatDoor.Tw
