/-
  The Writer's calls U8 and Num: bytes are put behind what the Writer holds; a Writer that is nil takes nothing: for every byte and every number, where what the Writer holds stays below 2^46 bytes.
-/
import Derived.Test.YthmfgoclkioncaaDoorSeal
namespace Go.Proofs.YthmfgoclkioncaaDoor
open Go.RowKit

/-- The Writer at block pb holds the bytes l, in rows of the call's own (blocks from B on). -/
def Wr (B : Nat) (w : World) (pb : Nat) (l : List UInt8) : Prop :=
  ∃ v t, t ≠ 5 ∧ w.heap[pb]? = some (.cells #[v] t (0, 0)) ∧ B ≤ pb ∧ w.ownsRow B 5 1 v l.length (vals l)
theorem own_ne {w : World} {B n pb : Nat} {v u : Value} {t : TypeId} {xs : List Value} (ht : t ≠ 5) (hv : w.heap[pb]? = some (.cells #[u] t (0, 0))) (h : w.ownsRow B 5 1 v n xs) : v.ownBlock ≠ some pb := by
  rcases h.2 with ⟨rfl, _⟩ | ⟨g, cap, cur, rfl, _, hh, _⟩
  · exact fun e => (nomatch e)
  · intro e
    obtain rfl : g = pb := Option.some.inj e
    rw [hh] at hv
    simp at hv
    exact ht hv.2.symm
theorem wr_step {B : Nat} {w w1 : World} {pb : Nat} {l r : List UInt8} {v v' : Value} {t : TypeId} {n : Nat} (o : Obj) (ht : t ≠ 5) (hv : w.heap[pb]? = some (.cells #[v] t (0, 0))) (hB : B ≤ pb)
    (hown : w.ownsRow B 5 1 v l.length (vals l)) (hg : (w.alloc o).grownBy w1 v.ownBlock) (hn : n = (l ++ r).length) (hown' : w1.ownsRow B 5 1 v' n (vals l ++ vals r)) :
    w1.heap[pb]? = some (.cells #[v] t (0, 0)) ∧ Wr B (w1.setCell ⟨pb, 0, none⟩ v') pb (l ++ r) ∧ Below B w (w1.setCell ⟨pb, 0, none⟩ v') := by
  have hlt := lt_of_block hv
  have hne := own_ne ht hv hown
  have h1 : w1.heap[pb]? = some (.cells #[v] t (0, 0)) := by
    rw [hg.block pb (by simp; omega) (fun e => hne e.symm), Below.heap_alloc _ _ _ hlt]
    exact hv
  have hne' := own_ne ht h1 hown'
  refine ⟨h1, ⟨v', t, ht, one_setCell h1, hB, ?_⟩, ?_⟩
  · rw [vals_append, ← hn]
    exact ownsRow_setCell_other hown' hne' _
  · refine Below.setCell ?_ hB _
    refine (Below.alloc (Below.refl _ _) (by omega) o).grown hg (by simp; omega) (fun k e => ?_)
    exact (hown.lt k e).1
theorem wr_step0 {B : Nat} {w w1 : World} {pb : Nat} {l r : List UInt8} {v v' : Value} {t : TypeId} {n : Nat} (ht : t ≠ 5) (hv : w.heap[pb]? = some (.cells #[v] t (0, 0))) (hB : B ≤ pb)
    (hown : w.ownsRow B 5 1 v l.length (vals l)) (hg : w.grownBy w1 v.ownBlock) (hn : n = (l ++ r).length) (hown' : w1.ownsRow B 5 1 v' n (vals l ++ vals r)) :
    w1.heap[pb]? = some (.cells #[v] t (0, 0)) ∧ Wr B (w1.setCell ⟨pb, 0, none⟩ v') pb (l ++ r) ∧ Below B w (w1.setCell ⟨pb, 0, none⟩ v') := by
  have hlt := lt_of_block hv
  have hne := own_ne ht hv hown
  have h1 : w1.heap[pb]? = some (.cells #[v] t (0, 0)) := by
    rw [hg.block pb hlt (fun e => hne e.symm)]
    exact hv
  have hne' := own_ne ht h1 hown'
  refine ⟨h1, ⟨v', t, ht, one_setCell h1, hB, ?_⟩, ?_⟩
  · rw [vals_append, ← hn]
    exact ownsRow_setCell_other hown' hne' _
  · refine Below.setCell ?_ hB _
    refine (Below.refl _ _).grown hg (by omega) (fun k e => ?_)
    exact (hown.lt k e).1
theorem Wr.later {B : Nat} {w w' : World} {pb : Nat} {l : List UInt8} (h : Wr B w pb l) (hb : Below w.heap.size w w') : Wr B w' pb l := by
  obtain ⟨v, t, ht, hv, hB, hown⟩ := h
  refine ⟨v, t, ht, by rw [hb.block pb (lt_of_block hv)]; exact hv, hB, hown.1, ?_⟩
  rcases hown.2 with h | ⟨g, cap, cur, h1, h2, h3, h4⟩
  · exact Or.inl h
  · exact Or.inr ⟨g, cap, cur, h1, h2, by rw [hb.block g (lt_of_block h3)]; exact h3, h4⟩
theorem Wr.isB {B : Nat} {w : World} {pb : Nat} {l : List UInt8} (h : Wr B w pb l) : ∃ v, w.cell? ⟨pb, 0, none⟩ = some v ∧ IsB w v l := by
  obtain ⟨v, t, ht, hv, hB, hown⟩ := h
  exact ⟨v, cell_of_one hv, IsB.of_owns hown⟩
theorem vals_sing (c : UInt8) : vals [c] = [.int .u8 (c.toNat : Int)] := rfl

set_option maxHeartbeats 400000 in
theorem wU8_nil (x : Int) (w : World) :
    Calls Tryd.prog 34 #[.pointer none, .int .u8 x] w fun e w' => e = .returned (.tuple #[]) ∧ w' = w := by
  go_enter Tryd.func34, Tryd.ntmps34
  go_wp2
  first | go_end0 | (refine bodyPost_ret (results_none rfl _ _ _) rfl ?_) | go_show
  exact ⟨rfl, rfl⟩
set_option maxHeartbeats 400000 in
theorem wNum_nil (x : Int) (w : World) :
    Calls Tryd.prog 35 #[.pointer none, .int .u64 x] w fun e w' => e = .returned (.tuple #[]) ∧ w' = w := by
  go_enter Tryd.func35, Tryd.ntmps35
  go_wp2
  first | go_end0 | (refine bodyPost_ret (results_none rfl _ _ _) rfl ?_) | go_show
  exact ⟨rfl, rfl⟩
set_option maxHeartbeats 400000 in
theorem wU8_any (B : Nat) (pb : Nat) (l : List UInt8) (x : UInt8) (w : World) (h : Wr B w pb l) (hm : l.length ≤ 70368744177664) :
    Calls Tryd.prog 34 #[.pointer (some ⟨pb, 0, none⟩), .int .u8 (x.toNat : Int)] w fun e w' => e = .returned (.tuple #[]) ∧ Wr B w' pb (l ++ [x]) ∧ Below B w w' := by
  obtain ⟨v, t, ht, hv, hB, hown⟩ := h
  obtain ⟨i0, hi, hz0, hz1, hz2⟩ := info_parts info_u8
  have hcell := cell_of_one hv
  have hlt := lt_of_block hv
  have HV := show Hid (w.heap[pb]? = some (.cells #[v] t (0, 0))) from hv
  clear hv
  go_enter Tryd.func34, Tryd.ntmps34
  go_wp2_with (at_builtin; refine wpList_append_own _ rfl (.tmp 10) (.tmp 12) 24 rfl B 5 i0 (.int .u8 0) 1 1 Tryd.underlying24 hi hz0 hz1 hz2 rfl (by decide) v l.length (vals l) rfl (hown.alloc _) ⟨w.heap.size, 0, none⟩ 1 1 (vals [x]) rfl rfl (lit_news _ _ _ _ rfl) (vals_one _) (by unfold maxLen; omega) (by omega) (by simp; omega) ?_)
  intro v' w1 hown' hg _
  have R := wr_step (l := l) (r := [x]) _ ht HV.out hB hown hg (by simp) hown'
  have hc1 := cell_of_one R.1
  have hf1 := free_of_one R.1
  have HR := show Hid (Wr B (w1.setCell ⟨pb, 0, none⟩ v') pb (l ++ [x]) ∧ Below B w (w1.setCell ⟨pb, 0, none⟩ v')) from R.2
  obtain ⟨pv, nv, cv, hv'⟩ : ∃ pv nv cv, v' = .slice pv nv cv := by
    rcases hown'.2 with ⟨h, _⟩ | ⟨g, cap, cur, h, _⟩
    · exact ⟨_, _, _, h⟩
    · exact ⟨_, _, _, h⟩
  subst hv'
  clear R hown' hg hown hcell
  go_wp2
  go_end0
  exact ⟨rfl, HR.out⟩

theorem or_128 : ∀ m : Nat, m < 256 → m ||| 128 = m % 128 + 128 := by decide +kernel
theorem more_byte (n : Nat) : #[Value.int IntKind.u8 (bits .or .u8 ((n : Int) % 256) 128)].toList = vals [UInt8.ofNat (n % 128 + 128)] := by
  have h := u8_or_nat (n % 256) 128 (by omega) (by omega)
  rw [or_128 _ (by omega)] at h
  have e : ((n % 256 : Nat) : Int) = (n : Int) % 256 := by omega
  rw [e] at h
  show [Value.int IntKind.u8 (bits .or .u8 ((n : Int) % 256) ((128 : Nat) : Int))] = _
  rw [h]
  simp only [vals, List.map_cons, List.map_nil, Oct.ofNat_toNat]
  congr 2
  omega
theorem last_byte (n : Nat) (h : n < 128) : #[Value.int IntKind.u8 (n : Int)].toList = vals [UInt8.ofNat n] := by
  simp only [vals, List.map_cons, List.map_nil, Oct.ofNat_toNat]
  rw [Nat.mod_eq_of_lt (by omega)]
set_option maxRecDepth 100000 in
set_option maxHeartbeats 1000000 in
theorem wNum_any (B : Nat) (pb : Nat) (l : List UInt8) (x : Nat) (w : World) (h : Wr B w pb l) (hm : l.length ≤ 70368744177600) (hx : x < 18446744073709551616) :
    Calls Tryd.prog 35 #[.pointer (some ⟨pb, 0, none⟩), .int .u64 (x : Int)] w fun e w' => e = .returned (.tuple #[]) ∧ Wr B w' pb (l ++ Oct.num x) ∧ Below B w w' := by
  obtain ⟨i0, hi, hz0, hz1, hz2⟩ := info_parts info_u8
  have HX : Hid ([] ++ Oct.numF 10 x = Oct.num x) := rfl
  have HXL := show Hid (x < 18446744073709551616) from hx
  clear hx
  go_enter Tryd.func35, Tryd.ntmps35
  go_wp2
  go_loopw [1] (fun s wr => ∃ (f n : Nat) (pre : List UInt8), s = .int .u64 (n : Int) ∧ Hid (n < 18446744073709551616) ∧ Hid (n < 128 ^ f) ∧ pre.length + f = 10 ∧ Hid (pre ++ Oct.numF f n = Oct.num x) ∧ Wr B wr pb (l ++ pre) ∧ Below B w wr) (fun s _ => (intOf s).toNat)
  case atStart => exact ⟨10, x, [], rfl, HXL, show x < 128 ^ 10 from by have := HXL.out; omega, rfl, HX, by simpa using h, Below.refl _ _⟩
  case round =>
    obtain ⟨f, n, pre, rfl, hn, hf, hpl, hp, hw, hb⟩ := hrel
    clear h HX
    obtain ⟨v, t, ht, hv, hB, hown⟩ := hw
    have hcell := cell_of_one hv
    have hlt := lt_of_block hv
    have hll : (l ++ pre).length ≤ 70368744177664 := by simp; omega
    obtain ⟨q, hq⟩ : ∃ q, q = l ++ pre := ⟨_, rfl⟩
    rw [← hq] at hown hll
    have HQ := show Hid (q = l ++ pre) from hq
    clear hq
    have HV := show Hid (wr.heap[pb]? = some (.cells #[v] t (0, 0))) from hv
    have HF := hf
    have HPL := show Hid (pre.length + f = 10) from hpl
    clear hv hf hpl
    by_cases h128 : 128 ≤ n
    · obtain ⟨c, hc⟩ : ∃ c, c = UInt8.ofNat (n % 128 + 128) := ⟨_, rfl⟩
      have hm1 := more_byte n
      rw [← hc] at hm1
      have HC := show Hid (c = UInt8.ofNat (n % 128 + 128)) from hc
      have HM := show Hid (#[Value.int IntKind.u8 (bits .or .u8 ((n : Int) % 256) 128)].toList = vals [c]) from hm1
      clear hc hm1
      go_wp2_with (at_builtin; refine wpList_append_own _ rfl (.tmp 12) (.tmp 16) 24 rfl B 5 i0 (.int .u8 0) 1 1 Tryd.underlying24 hi hz0 hz1 hz2 rfl (by decide) v q.length (vals q) rfl (hown.alloc _) ⟨wr.heap.size, 0, none⟩ 1 1 (vals [c]) rfl rfl (lit_news _ _ _ _ HM.out) (vals_one _) (by unfold maxLen; omega) (by omega) (by simp; omega) ?_)
      intro v' w1 hown' hg _
      have R := wr_step (l := q) (r := [c]) _ ht HV.out hB hown hg (by simp) hown'
      have hc1 := cell_of_one R.1
      have hf1 := free_of_one R.1
      have HR := show Hid (Wr B (w1.setCell ⟨pb, 0, none⟩ v') pb (q ++ [c]) ∧ Below B wr (w1.setCell ⟨pb, 0, none⟩ v')) from R.2
      obtain ⟨pv, nv, cv, hv'⟩ : ∃ pv nv cv, v' = .slice pv nv cv := by
        rcases hown'.2 with ⟨h, _⟩ | ⟨g, cap, cur, h, _⟩
        · exact ⟨_, _, _, h⟩
        · exact ⟨_, _, _, h⟩
      subst hv'
      clear R hown' hg hown hcell
      go_wp2
      go_roundw
      case rel =>
        obtain ⟨f', rfl⟩ : ∃ f', f = f' + 1 := by
          cases f with
          | zero => have := HF.out; simp at this; omega
          | succ f' => exact ⟨f', rfl⟩
        refine ⟨f', n / 128, pre ++ [c], by go_num, show n / 128 < 18446744073709551616 from by have := hn.out; omega, ?_, by have := HPL.out; simp; omega, ?_, by rw [← List.append_assoc, ← HQ.out]; exact HR.out.1, hb.trans HR.out.2⟩
        · show n / 128 < 128 ^ f'
          have := HF.out
          rw [Nat.pow_succ] at this
          exact Nat.div_lt_of_lt_mul (by omega)
        · have := hp.out
          rw [Oct.numF_more f' n h128, ← HC.out] at this
          show (pre ++ [c]) ++ Oct.numF f' (n / 128) = Oct.num x
          rw [← this]
          simp
      case measure => simp [intOf]; omega
    · have hn128 : n < 128 := by omega
      clear h128
      obtain ⟨c, hc⟩ : ∃ c, c = UInt8.ofNat n := ⟨_, rfl⟩
      have hm1 := last_byte n hn128
      rw [← hc] at hm1
      have HC := show Hid (c = UInt8.ofNat n) from hc
      have HM := show Hid (#[Value.int IntKind.u8 (n : Int)].toList = vals [c]) from hm1
      clear hc hm1
      go_wp2_with (at_builtin; refine wpList_append_own _ rfl (.tmp 26) (.tmp 29) 24 rfl B 5 i0 (.int .u8 0) 1 1 Tryd.underlying24 hi hz0 hz1 hz2 rfl (by decide) v q.length (vals q) rfl (hown.alloc _) ⟨wr.heap.size, 0, none⟩ 1 1 (vals [c]) rfl rfl (lit_news _ _ _ _ HM.out) (vals_one _) (by unfold maxLen; omega) (by omega) (by simp; omega) ?_)
      intro v' w1 hown' hg _
      have R := wr_step (l := q) (r := [c]) _ ht HV.out hB hown hg (by simp) hown'
      have hc1 := cell_of_one R.1
      have hf1 := free_of_one R.1
      have HR := show Hid (Wr B (w1.setCell ⟨pb, 0, none⟩ v') pb (q ++ [c]) ∧ Below B wr (w1.setCell ⟨pb, 0, none⟩ v')) from R.2
      obtain ⟨pv, nv, cv, hv'⟩ : ∃ pv nv cv, v' = .slice pv nv cv := by
        rcases hown'.2 with ⟨h, _⟩ | ⟨g, cap, cur, h, _⟩
        · exact ⟨_, _, _, h⟩
        · exact ⟨_, _, _, h⟩
      subst hv'
      clear R hown' hg hown hcell
      go_wp2
      go_end0
      have hq := hp.out
      rw [Oct.numF_last f n hn128, ← HC.out] at hq
      refine ⟨rfl, ?_, hb.trans HR.out.2⟩
      rw [← hq, ← List.append_assoc, ← HQ.out]
      exact HR.out.1
end Go.Proofs.YthmfgoclkioncaaDoor
