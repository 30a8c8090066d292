/-
  The Writer's call Text: a text is put behind what the Writer holds, its length first; what is no UTF-8 or too long is refused: for every text of at most 2^47 bytes, where the library's tables stand as the program's text lays them.
-/
import Derived.Test.YthmfgoclkioncaaDoorWriter
import Derived.Test.YthmfgoclkioncaaDoorShelfV
import Derived.Lib.AppendStr
namespace Go.Proofs.YthmfgoclkioncaaDoor
open Go.RowKit

def Tabs (w : World) : Prop := Lib.Utf8Tabs (Tryd.lays196_ren.g 3) (Tryd.lays196_ren.g 4) w
theorem Tabs.later {w w' : World} (h : Tabs w) (hb : Below w.heap.size w w') : Tabs w' :=
  ⟨fun c hc => cell_later hb (h.1 c hc), fun i hi => ⟨cell_later hb (h.2 i hi).1, cell_later hb (h.2 i hi).2⟩⟩
/-- What Text answers. -/
def textErr (s : List UInt8) : Int := if Lib.validD s = false then 12 else if 65536 < s.length then 11 else 0
def textOf (s : List UInt8) : List UInt8 := if textErr s = 0 then Oct.num s.length ++ s else []

set_option maxHeartbeats 400000 in
theorem wText_nil (s : ByteArray) (w : World) :
    Calls Tryd.prog 38 #[.pointer none, .string s] w fun e w' => e = .returned (.int .i64 1) ∧ w' = w := by
  go_enter Tryd.func38, Tryd.ntmps38
  go_wp2
  go_ret
  exact ⟨rfl, rfl⟩
set_option maxRecDepth 100000 in
set_option maxHeartbeats 1000000 in
theorem wText_any (B : Nat) (pb : Nat) (l : List UInt8) (s : ByteArray) (w : World) (h : Wr B w pb l) (hB0 : B ≤ w.heap.size) (hm : l.length ≤ 35184372088832) (hs : s.size ≤ 9223372036854775807) (hT : Tabs w) :
    Calls Tryd.prog 38 #[.pointer (some ⟨pb, 0, none⟩), .string s] w fun e w' => e = .returned (.int .i64 (textErr s.data.toList)) ∧ Wr B w' pb (l ++ textOf s.data.toList) ∧ Below B w w' := by
  obtain ⟨i0, hi, hz0, hz1, hz2⟩ := info_parts info_u8
  have hsz : s.data.toList.length = s.size := rfl
  have HC := show Hid (Calls Tryd.prog 42 #[.string s] w fun e w' => e = .returned (.bool (Lib.validD s.data.toList)) ∧ Below w.heap.size w w') from Tryd.utf8_ValidString s w hs hT
  cases hV : Lib.validD s.data.toList with
  | false =>
    have e1 : textErr s.data.toList = 12 := by simp [textErr, hV]
    have e2 : textOf s.data.toList = [] := by simp [textOf, e1]
    rw [e1, e2, List.append_nil]
    rw [hV] at HC
    clear e1 e2 hV hsz
    go_enter Tryd.func38, Tryd.ntmps38
    go_wp2_with fail
    refine HC.out.mono ?_
    rintro e w1 ⟨rfl, hb⟩
    go_wp2
    go_ret
    exact ⟨rfl, h.later hb, hb.mono hB0⟩
  | true =>
    by_cases hl : 65536 < s.size
    · have e1 : textErr s.data.toList = 11 := by simp only [textErr, hV, hsz]; simp [hl]
      have e2 : textOf s.data.toList = [] := by simp [textOf, e1]
      rw [e1, e2, List.append_nil]
      rw [hV] at HC
      clear e1 e2 hV hsz
      go_enter Tryd.func38, Tryd.ntmps38
      go_wp2_with fail
      refine HC.out.mono ?_
      rintro e w1 ⟨rfl, hb⟩
      go_wp2
      go_ret
      exact ⟨rfl, h.later hb, hb.mono hB0⟩
    · have e1 : textErr s.data.toList = 0 := by simp only [textErr, hV, hsz]; simp [hl]
      have e2 : textOf s.data.toList = Oct.num s.size ++ s.data.toList := by simp only [textOf, e1, hsz]; simp
      rw [e1, e2]
      rw [hV] at HC
      clear e1 e2 hV hsz
      have hl' : s.size ≤ 65536 := by omega
      clear hl
      have hnl := Oct.num_length s.size
      generalize hnum : Oct.num s.size = nm at *
      have HN := show Hid (Oct.num s.size = nm) from hnum
      clear hnum
      go_enter Tryd.func38, Tryd.ntmps38
      go_wp2_with fail
      refine HC.out.mono ?_
      rintro e w1 ⟨rfl, hb⟩
      have hw1 := h.later hb
      have hb1 := hb.mono hB0
      have CN := show Hid (Calls Tryd.prog 35 #[.pointer (some ⟨pb, 0, none⟩), .int .u64 (s.size : Int)] w1 fun e w' => e = .returned (.tuple #[]) ∧ Wr B w' pb (l ++ nm) ∧ Below B w1 w') from by
        have := wNum_any B pb l s.size w1 hw1 (by omega) (by omega)
        rw [HN.out] at this
        exact this
      clear HC h hb
      go_wp2_with fail
      refine CN.out.mono ?_
      rintro e w2 ⟨rfl, hw2, hb2⟩
      obtain ⟨v, t, ht, hv, hB, hown⟩ := hw2
      have hcell := cell_of_one hv
      have hlt := lt_of_block hv
      have HV := show Hid (w2.heap[pb]? = some (.cells #[v] t (0, 0))) from hv
      have hll : (l ++ nm).length ≤ 70368744177664 := by simp; omega
      obtain ⟨q, hq⟩ : ∃ q, q = l ++ nm := ⟨_, rfl⟩
      rw [← hq] at hown hll
      have HQ := show Hid (q = l ++ nm) from hq
      clear hq hv CN hw1
      go_wp2_with (at_builtin; refine Lib.wpList_append_own_string _ rfl (.tmp 22) (.tmp 23) 24 9 rfl B 5 i0 Tryd.underlying24 Tryd.underlying9 hi hz0 hz1 hz2 v q.length (vals q) rfl hown s rfl (by unfold maxLen; omega) (by omega) (by omega) ?_)
      intro v' w3 hown' hg _
      have R := wr_step0 (l := q) (r := s.data.toList) ht HV.out hB hown hg (by simp) hown'
      have hc1 := cell_of_one R.1
      have hf1 := free_of_one R.1
      have HR := show Hid (Wr B (w3.setCell ⟨pb, 0, none⟩ v') pb (q ++ s.data.toList) ∧ Below B w2 (w3.setCell ⟨pb, 0, none⟩ v')) from R.2
      obtain ⟨pv, nv, cv, hv'⟩ : ∃ pv nv cv, v' = .slice pv nv cv := by
        rcases hown'.2 with ⟨h, _⟩ | ⟨g, cap, cur, h, _⟩
        · exact ⟨_, _, _, h⟩
        · exact ⟨_, _, _, h⟩
      subst hv'
      clear R hown' hg hown hcell
      go_wp2
      go_ret
      refine ⟨rfl, ?_, (hb1.trans hb2).trans HR.out.2⟩
      rw [← List.append_assoc, ← HQ.out]
      exact HR.out.1
end Go.Proofs.YthmfgoclkioncaaDoor
