/-
  The call Seal: a row of bytes and its check sum behind it, in new memory: for every row of bytes of at most 2^47 bytes.
-/
import Derived.Test.YthmfgoclkioncaaDoorSum
namespace Go.Proofs.YthmfgoclkioncaaDoor
open Go.RowKit

theorem info_u8 : (Tryd.prog.info? 5).map (fun i => (i.zero, i.size, i.bytes)) = some (some (.int .u8 0), 1, 1) := by kernel_rfl
theorem le4_vals (t : Nat) (h : t < 4294967296) : #[Value.int IntKind.u8 ((t : Int) % 256), Value.int IntKind.u8 ((t : Int) / 256 % 256), Value.int IntKind.u8 ((t : Int) / 65536 % 256), Value.int IntKind.u8 ((t : Int) / 16777216)].toList = vals (Oct.le4 t) := by
  simp only [vals, Oct.le4, List.map_cons, List.map_nil, Oct.ofNat_toNat]
  have e : (t : Int) / 16777216 = ((t / 16777216 % 256 : Nat) : Int) := by omega
  rw [e]
  simp
set_option maxHeartbeats 400000 in
theorem seal_any (w : World) (v : Value) (l : List UInt8) (hv : IsB w v l) (hm : l.length ≤ 140737488355328) :
    Calls Tryd.prog 20 #[v] w fun e w' => ∃ g, e = .returned (.slice (some ⟨g, 0, none⟩) (l.length + 4) (l.length + 4)) ∧
      w'.ownsRow w.heap.size 5 1 (.slice (some ⟨g, 0, none⟩) (l.length + 4) (l.length + 4)) (l.length + 4) (vals (Oct.sealed l)) ∧ Below w.heap.size w w' := by
  have hv0 := hv
  obtain ⟨p, c, rfl, hc1, hc2, hpn, hb⟩ := hv
  obtain ⟨i0, hi, hz0, hz1, hz2⟩ := info_parts info_u8
  have hs := Oct.sum_lt l
  generalize hsum : Oct.sum l = t at *
  have HT := show Hid (Oct.sum l = t) from hsum
  clear hsum
  go_enter Tryd.func20, Tryd.ntmps20
  go_wp2_with fail
  refine (sum_one _ _ _ _ _ l (by simp) (hv0.alloc _)).mono ?_
  rintro e w1 ⟨rfl, hw1⟩
  have hw1' := show Hid (w1 = w.alloc (Obj.cells #[Value.slice p l.length c] 24)) from hw1
  have hs1 : w1.heap.size = w.heap.size + 1 := by rw [hw1]; simp
  have hb1 : Below w.heap.size w w1 := by rw [hw1]; exact below_alloc _ _
  rw [HT.out]
  clear hw1 hv0
  go_wp2_with (at_make; refine wpList_make_own _ rfl _ _ 24 rfl (w.heap.size) 5 i0 (.int .u8 0) 1 Tryd.underlying24 hi hz0 hz1 _ _ _ (l.length + 4) rfl rfl (by omega) (by rw [hz2]; omega) (by unfold maxLen; omega) (by omega) ?_)
  intro w2 hown2 hg2
  have hb2 : Lib.BytesIn w2 p l.length (ints l) := bytes_later (hb1.grown hg2 (by omega) (fun k e => (nomatch e))) hb
  have hB2 : Below w.heap.size w w2 := hb1.grown hg2 (by omega) (fun k e => (nomatch e))
  have hs2 : w.heap.size + 1 ≤ w2.heap.size := by have := hg2.size; omega
  have hpn' : p = none → l.length = 0 ∧ c = 0 := fun e => ⟨by have := hpn e; omega, hpn e⟩
  have hnews := news_of hb2
  have HN := show Hid (∀ ad, p = some ad → ∀ j u, (vals l)[j]? = some u → w2.cell? (ad.add j) = some u) from hnews
  have HP := show Hid (p = none → l.length = 0 ∧ c = 0) from hpn'
  clear hnews hpn' hpn hb hb2
  go_wp2_with (at_builtin; refine wpList_append_fits_any _ rfl (.tmp 12) (.tmp 13) 24 rfl w.heap.size 5 i0 1 Tryd.underlying24 hi hz1 (w.heap.size + 1) 0 (l.length + 4) [] rfl hown2 p l.length c (vals l) rfl (by simp [vals_length]) HP.out HN.out (vals_one l) (by omega) ?_)
  intro w3 hown3 hg3
  have hB3 : Below w.heap.size w w3 := hB2.grown hg3 (by omega) (fun k e => by have := Option.some.inj e; omega)
  have hs3 : w2.heap.size ≤ w3.heap.size := hg3.size
  clear hown2 HN HP hg3 hg2
  go_wp2_with (at_builtin; refine wpList_append_fits _ rfl (.tmp 15) (.tmp 27) 24 rfl w.heap.size 5 i0 1 Tryd.underlying24 hi hz1 (w.heap.size + 1) l.length (l.length + 4) (vals l) rfl (hown3.alloc _) ⟨w3.heap.size, 0, none⟩ 4 4 (vals (Oct.le4 t)) rfl rfl ?c1 (vals_one _) (by omega) ?_)
  case c1 => exact lit_news _ _ _ _ (le4_vals t hs)
  intro w4 hown4 hg4
  go_wp2
  go_ret
  refine ⟨w.heap.size + 1, rfl, ?_, ?_⟩
  · rw [Oct.sealed, vals_append, HT.out]
    exact hown4
  · exact (hB3.alloc (by omega) _).grown hg4 (by simp; omega) (fun k e => by have := Option.some.inj e; omega)
end Go.Proofs.YthmfgoclkioncaaDoor
