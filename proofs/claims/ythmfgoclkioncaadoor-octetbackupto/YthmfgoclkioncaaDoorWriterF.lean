/-
  The Writer's calls U8, Num and Text once more, with all that they leave as it was: whatever lies in no block of the Writer's own: for every byte, number and text, where what the Writer holds stays below 2^45 bytes.
-/
import Derived.Test.YthmfgoclkioncaaDoorText
import Derived.Maps.AppendAt
namespace Go.Proofs.YthmfgoclkioncaaDoor
open Go.RowKit

/-- The Writer at block pb holds the value v, which has the bytes l. -/
def WrV (B : Nat) (w : World) (pb : Nat) (l : List UInt8) (v : Value) : Prop :=
  ∃ t, t ≠ 5 ∧ w.heap[pb]? = some (.cells #[v] t (0, 0)) ∧ B ≤ pb ∧ w.ownsRow B 5 1 v l.length (vals l)
theorem WrV.wr {B : Nat} {w : World} {pb : Nat} {l : List UInt8} {v : Value} (h : WrV B w pb l v) : Wr B w pb l := by
  obtain ⟨t, h1, h2, h3, h4⟩ := h
  exact ⟨v, t, h1, h2, h3, h4⟩
theorem WrV.later {B : Nat} {w w' : World} {pb : Nat} {l : List UInt8} {v : Value} (h : WrV B w pb l v) (hb : Below w.heap.size w w') : WrV B w' pb l v := by
  obtain ⟨t, ht, hv, hB, hown⟩ := h
  refine ⟨t, ht, by rw [hb.block pb (lt_of_block hv)]; exact hv, hB, hown.1, ?_⟩
  rcases hown.2 with h | ⟨g, cap, cur, h1, h2, h3, h4⟩
  · exact Or.inl h
  · exact Or.inr ⟨g, cap, cur, h1, h2, by rw [hb.block g (lt_of_block h3)]; exact h3, h4⟩
/-- From w to w' only the Writer's own blocks have turned, and new ones have come. -/
structure Stp (B : Nat) (w w' : World) (pb : Nat) (v v' : Value) : Prop where
  below : Below B w w'
  size : w.heap.size ≤ w'.heap.size
  keeps : ∀ k, k < w.heap.size → k ≠ pb → v.ownBlock ≠ some k → w'.heap[k]? = w.heap[k]?
  next : v'.ownBlock = v.ownBlock ∨ ∀ k, v'.ownBlock = some k → w.heap.size ≤ k
theorem Stp.of_below {B : Nat} {w w' : World} {pb : Nat} {v : Value} (h : Below w.heap.size w w') (hB : B ≤ w.heap.size) : Stp B w w' pb v v :=
  ⟨h.mono hB, h.size, fun k hk _ _ => h.block k hk, Or.inl rfl⟩
theorem Stp.trans {B : Nat} {w w1 w2 : World} {pb : Nat} {v v1 v2 : Value} (h : Stp B w w1 pb v v1) (h' : Stp B w1 w2 pb v1 v2) : Stp B w w2 pb v v2 := by
  have hs := h.size
  refine ⟨h.below.trans h'.below, Nat.le_trans hs h'.size, fun k hk h1 h2 => ?_, ?_⟩
  · rw [h'.keeps k (by omega) h1 (fun e => ?_), h.keeps k hk h1 h2]
    rcases h.next with hn | hn
    · exact h2 (hn ▸ e)
    · have := hn k e; omega
  · rcases h'.next with hn | hn
    · rw [hn]; exact h.next
    · exact Or.inr fun k e => Nat.le_trans hs (hn k e)
theorem stp_step {B : Nat} {w w1 : World} {pb : Nat} {l r : List UInt8} {v v' : Value} {t : TypeId} {n : Nat} (o : Obj) (ht : t ≠ 5) (hv : w.heap[pb]? = some (.cells #[v] t (0, 0))) (hB : B ≤ pb)
    (hown : w.ownsRow B 5 1 v l.length (vals l)) (hg : (w.alloc o).grownBy w1 v.ownBlock) (hn : n = (l ++ r).length) (hown' : w1.ownsRow B 5 1 v' n (vals l ++ vals r))
    (hat : v'.ownBlock = v.ownBlock ∨ v'.ownBlock = some (w.heap.size + 1)) :
    w1.heap[pb]? = some (.cells #[v] t (0, 0)) ∧ WrV B (w1.setCell ⟨pb, 0, none⟩ v') pb (l ++ r) v' ∧ Stp B w (w1.setCell ⟨pb, 0, none⟩ v') pb v v' := by
  obtain ⟨h1, h2, h3⟩ := wr_step (l := l) (r := r) o ht hv hB hown hg hn hown'
  have hlt := lt_of_block hv
  have hsz := hg.size
  simp at hsz
  have hne' := own_ne ht h1 hown'
  refine ⟨h1, ⟨t, ht, one_setCell h1, hB, ?_⟩, ⟨h3, by simp; omega, fun k hk hp ho => ?_, ?_⟩⟩
  · rw [vals_append, ← hn]
    exact ownsRow_setCell_other hown' hne' _
  · rw [Below.heap_setCell _ _ _ _ hp, hg.block k (by simp; omega) (fun e => ho e.symm), Below.heap_alloc _ _ _ hk]
  · rcases hat with h | h
    · exact Or.inl h
    · exact Or.inr fun k e => by rw [h] at e; have := Option.some.inj e; omega
theorem stp_step0 {B : Nat} {w w1 : World} {pb : Nat} {l r : List UInt8} {v v' : Value} {t : TypeId} {n : Nat} (ht : t ≠ 5) (hv : w.heap[pb]? = some (.cells #[v] t (0, 0))) (hB : B ≤ pb)
    (hown : w.ownsRow B 5 1 v l.length (vals l)) (hg : w.grownBy w1 v.ownBlock) (hn : n = (l ++ r).length) (hown' : w1.ownsRow B 5 1 v' n (vals l ++ vals r))
    (hat : v'.ownBlock = v.ownBlock ∨ ∀ k, v'.ownBlock = some k → w.heap.size ≤ k) :
    w1.heap[pb]? = some (.cells #[v] t (0, 0)) ∧ WrV B (w1.setCell ⟨pb, 0, none⟩ v') pb (l ++ r) v' ∧ Stp B w (w1.setCell ⟨pb, 0, none⟩ v') pb v v' := by
  obtain ⟨h1, h2, h3⟩ := wr_step0 (l := l) (r := r) ht hv hB hown hg hn hown'
  have hlt := lt_of_block hv
  have hsz := hg.size
  have hne' := own_ne ht h1 hown'
  refine ⟨h1, ⟨t, ht, one_setCell h1, hB, ?_⟩, ⟨h3, by simp; omega, fun k hk hp ho => ?_, hat⟩⟩
  · rw [vals_append, ← hn]
    exact ownsRow_setCell_other hown' hne' _
  · rw [Below.heap_setCell _ _ _ _ hp, hg.block k hk (fun e => ho e.symm)]
/-- Where the bytes of a text lie that was put behind a row: in the row's own block, or in a new one. -/
theorem str_at {P : Program} {w : World} {base : Nat} {t u ty e : TypeId} {i : TypeInfo} (ht : P.underlying t = some (.slice e)) (hu : P.underlying u = some .string) (hi : P.info? e = some i) (hz : i.zero = some (.int .u8 0))
    (hsize : i.size = 1) (hby : i.bytes = 1) {v : Value} {n : Nat} {xs : List Value} (hown : w.ownsRow base e 1 v n xs) {s : ByteArray} (h63 : n + s.size ≤ maxLen) (hbytes : n + s.size ≤ 140737488355328)
    {v' : Value} {w' : World} (hr : (Builtin.append_ #[t, u] ty #[v, .string s]).run P w = .ok v' w') : v'.ownBlock = v.ownBlock ∨ ∀ k, v'.ownBlock = some k → w.heap.size ≤ k := by
  rcases hown.2 with ⟨rfl, rfl⟩ | ⟨g, cap, cur, rfl, hbg, hg, hnc, hcm, hcs, htake⟩
  · right
    obtain ⟨v2, w2, hr2, ho2, _, _⟩ := Lib.run_append_own_string (P := P) w w.heap.size t u ty e i ht hu hi hz hsize hby _ 0 [] (World.ownsRow_nil w w.heap.size e 1) s h63 hbytes (Nat.le_refl _)
    rw [hr2] at hr
    obtain ⟨rfl, rfl⟩ := Result.ok.inj hr
    exact fun k hk => (ho2.lt k hk).1
  · by_cases hroom : n + s.size ≤ cap
    · left
      have hcc : cur.size = cap := by simpa using hcs
      have hr2 := Lib.run_append_room_string (P := P) w t u ty e i ht hu hi hsize g n cap cur hg s hroom (by omega)
      rw [hr2] at hr
      obtain ⟨rfl, rfl⟩ := Result.ok.inj hr
      rfl
    · right
      have hxl : xs.length = n := by simpa using hown.1
      have holds : ∀ j u, xs[j]? = some u → w.cell? ((⟨g, 0, none⟩ : Addr).add j) = some u := hown.cells (g := g) rfl
      have hr2 := Lib.run_append_grow_string (P := P) w t u ty e i (.int .u8 0) ht hu hi hz ⟨g, 0, none⟩ n cap xs (by rw [hsize]; simpa using hxl) holds s (by omega) (by simp only [maxLen] at h63; omega) (by rw [hby]; exact growslice_fits (by omega) (by omega))
      rw [hr2] at hr
      obtain ⟨rfl, rfl⟩ := Result.ok.inj hr
      intro k hk
      have : w.heap.size = k := Option.some.inj hk
      omega
theorem append_str_at {P : Program} (w : World) {ops : Array Oper} {rest : List Oper} {o : Oper} {a : Act} {Q : Exit → Act → World → Prop} (hgd : o.guard = none) (sl x : Operand) (t u : TypeId)
    (ho : o.op = .call { callee := .builtin .append, args := #[sl, x], argTypes := #[t, u] })
    (base : Nat) (e : TypeId) (i : TypeInfo) (ht : P.underlying t = some (.slice e)) (hu : P.underlying u = some .string) (hi : P.info? e = some i) (hz : i.zero = some (.int .u8 0)) (hsize : i.size = 1) (hby : i.bytes = 1)
    (v : Value) (n : Nat) (xs : List Value) (hs : a.eval sl = v) (hown : w.ownsRow base e 1 v n xs) (s : ByteArray) (hx : a.eval x = .string s)
    (h63 : n + s.size ≤ maxLen) (hbytes : n + s.size ≤ 140737488355328) (hbase : base ≤ w.heap.size)
    (h : ∀ v' w', w'.ownsRow base e 1 v' (n + s.size) (xs ++ Lib.strCells s) → w.grownBy w' v.ownBlock → (v'.ownBlock = v.ownBlock ∨ ∀ k, v'.ownBlock = some k → w.heap.size ≤ k) → wpList P ops Q rest (a.put o.dst v') w') : wpList P ops Q (o :: rest) a w := by
  refine wpList_plain hgd fun K hK => ?_
  obtain ⟨v', w', hr, h2, h3, _⟩ := Lib.run_append_own_string (P := P) w base t u o.type e i ht hu hi hz hsize hby v n xs hown s h63 hbytes hbase
  have h5 := str_at ht hu hi hz hsize hby hown h63 hbytes hr
  unfold Oper.wp execOp
  simp only [ho, resolve, invoke, builtin, Sem.run_bind, Sem.run_pure, Result.andThen_ok, List.map_toArray, List.map_cons, List.map_nil, hs, hx, hr]
  exact hK _ _ (h v' w' h2 h3 h5)

set_option maxHeartbeats 400000 in
theorem wU8_fr (B : Nat) (pb : Nat) (l : List UInt8) (x : UInt8) (w : World) (v : Value) (h : WrV B w pb l v) (hm : l.length ≤ 70368744177664) :
    Calls Tryd.prog 34 #[.pointer (some ⟨pb, 0, none⟩), .int .u8 (x.toNat : Int)] w fun e w' => e = .returned (.tuple #[]) ∧ ∃ v', WrV B w' pb (l ++ [x]) v' ∧ Stp B w w' pb v v' := by
  obtain ⟨t, ht, hv, hB, hown⟩ := h
  obtain ⟨i0, hi, hz0, hz1, hz2⟩ := info_parts info_u8
  have hcell := cell_of_one hv
  have hlt := lt_of_block hv
  have HV := show Hid (w.heap[pb]? = some (.cells #[v] t (0, 0))) from hv
  clear hv
  go_enter Tryd.func34, Tryd.ntmps34
  go_wp2_with (at_builtin; refine wpList_append_own_at _ rfl (.tmp 10) (.tmp 12) 24 rfl B 5 i0 (.int .u8 0) 1 1 Tryd.underlying24 hi hz0 hz1 hz2 rfl (by decide) v l.length (vals l) rfl (hown.alloc _) ⟨w.heap.size, 0, none⟩ 1 1 (vals [x]) rfl rfl (lit_news _ _ _ _ rfl) (vals_one _) (by unfold maxLen; omega) (by omega) (by simp; omega) ?_)
  intro v' w1 hown' hg _ hat
  have R := stp_step (l := l) (r := [x]) _ ht HV.out hB hown hg (by simp) hown' hat
  have hc1 := cell_of_one R.1
  have hf1 := free_of_one R.1
  have HR := show Hid (WrV B (w1.setCell ⟨pb, 0, none⟩ v') pb (l ++ [x]) v' ∧ Stp B w (w1.setCell ⟨pb, 0, none⟩ v') pb v v') from R.2
  obtain ⟨pv, nv, cv, hv'⟩ : ∃ pv nv cv, v' = .slice pv nv cv := by
    rcases hown'.2 with ⟨h, _⟩ | ⟨g, cap, cur, h, _⟩
    · exact ⟨_, _, _, h⟩
    · exact ⟨_, _, _, h⟩
  subst hv'
  clear R hown' hg hown hcell hat
  go_wp2
  go_end0
  exact ⟨rfl, _, HR.out⟩
set_option maxRecDepth 100000 in
set_option maxHeartbeats 1000000 in
theorem wNum_fr (B : Nat) (pb : Nat) (l : List UInt8) (x : Nat) (w : World) (v0 : Value) (h : WrV B w pb l v0) (hm : l.length ≤ 70368744177600) (hx : x < 18446744073709551616) :
    Calls Tryd.prog 35 #[.pointer (some ⟨pb, 0, none⟩), .int .u64 (x : Int)] w fun e w' => e = .returned (.tuple #[]) ∧ ∃ v', WrV B w' pb (l ++ Oct.num x) v' ∧ Stp B w w' pb v0 v' := by
  obtain ⟨i0, hi, hz0, hz1, hz2⟩ := info_parts info_u8
  have HX : Hid ([] ++ Oct.numF 10 x = Oct.num x) := rfl
  have HXL := show Hid (x < 18446744073709551616) from hx
  have HS0 := show Hid (Stp B w w pb v0 v0) from ⟨Below.refl _ _, Nat.le_refl _, fun _ _ _ _ => rfl, Or.inl rfl⟩
  clear hx
  go_enter Tryd.func35, Tryd.ntmps35
  go_wp2
  go_loopw [1] (fun s wr => ∃ (f n : Nat) (pre : List UInt8) (v : Value), s = .int .u64 (n : Int) ∧ Hid (n < 18446744073709551616) ∧ Hid (n < 128 ^ f) ∧ pre.length + f = 10 ∧ Hid (pre ++ Oct.numF f n = Oct.num x) ∧ WrV B wr pb (l ++ pre) v ∧ Hid (Stp B w wr pb v0 v)) (fun s _ => (intOf s).toNat)
  case atStart => exact ⟨10, x, [], v0, rfl, HXL, show x < 128 ^ 10 from by have := HXL.out; omega, rfl, HX, by simpa using h, HS0⟩
  case round =>
    obtain ⟨f, n, pre, v, rfl, hn, hf, hpl, hp, hw, hst⟩ := hrel
    clear h HX HS0
    obtain ⟨t, ht, hv, hB, hown⟩ := hw
    have hcell := cell_of_one hv
    have hlt := lt_of_block hv
    have hll : (l ++ pre).length ≤ 70368744177664 := by simp; omega
    obtain ⟨q, hq⟩ : ∃ q, q = l ++ pre := ⟨_, rfl⟩
    rw [← hq] at hown hll
    have HQ := show Hid (q = l ++ pre) from hq
    clear hq
    have HV := show Hid (wr.heap[pb]? = some (.cells #[v] t (0, 0))) from hv
    have HF := hf
    have HPL := show Hid (pre.length + f = 10) from hpl
    clear hv hf hpl
    by_cases h128 : 128 ≤ n
    · obtain ⟨c, hc⟩ : ∃ c, c = UInt8.ofNat (n % 128 + 128) := ⟨_, rfl⟩
      have hm1 := more_byte n
      rw [← hc] at hm1
      have HC := show Hid (c = UInt8.ofNat (n % 128 + 128)) from hc
      have HM := show Hid (#[Value.int IntKind.u8 (bits .or .u8 ((n : Int) % 256) 128)].toList = vals [c]) from hm1
      clear hc hm1
      go_wp2_with (at_builtin; refine wpList_append_own_at _ rfl (.tmp 12) (.tmp 16) 24 rfl B 5 i0 (.int .u8 0) 1 1 Tryd.underlying24 hi hz0 hz1 hz2 rfl (by decide) v q.length (vals q) rfl (hown.alloc _) ⟨wr.heap.size, 0, none⟩ 1 1 (vals [c]) rfl rfl (lit_news _ _ _ _ HM.out) (vals_one _) (by unfold maxLen; omega) (by omega) (by simp; omega) ?_)
      intro v' w1 hown' hg _ hat
      have R := stp_step (l := q) (r := [c]) _ ht HV.out hB hown hg (by simp) hown' hat
      have hc1 := cell_of_one R.1
      have hf1 := free_of_one R.1
      have HR := show Hid (WrV B (w1.setCell ⟨pb, 0, none⟩ v') pb (q ++ [c]) v' ∧ Stp B wr (w1.setCell ⟨pb, 0, none⟩ v') pb v v') from R.2
      obtain ⟨pv, nv, cv, hv'⟩ : ∃ pv nv cv, v' = .slice pv nv cv := by
        rcases hown'.2 with ⟨h, _⟩ | ⟨g, cap, cur, h, _⟩
        · exact ⟨_, _, _, h⟩
        · exact ⟨_, _, _, h⟩
      subst hv'
      clear R hown' hg hown hcell hat
      go_wp2
      go_roundw
      case rel =>
        obtain ⟨f', rfl⟩ : ∃ f', f = f' + 1 := by
          cases f with
          | zero => have := HF.out; simp at this; omega
          | succ f' => exact ⟨f', rfl⟩
        refine ⟨f', n / 128, pre ++ [c], _, by go_num, show n / 128 < 18446744073709551616 from by have := hn.out; omega, ?_, by have := HPL.out; simp; omega, ?_, by rw [← List.append_assoc, ← HQ.out]; exact HR.out.1, hst.out.trans HR.out.2⟩
        · show n / 128 < 128 ^ f'
          have := HF.out
          rw [Nat.pow_succ] at this
          exact Nat.div_lt_of_lt_mul (by omega)
        · have := hp.out
          rw [Oct.numF_more f' n h128, ← HC.out] at this
          show (pre ++ [c]) ++ Oct.numF f' (n / 128) = Oct.num x
          rw [← this]
          simp
      case measure => simp [intOf]; omega
    · have hn128 : n < 128 := by omega
      clear h128
      obtain ⟨c, hc⟩ : ∃ c, c = UInt8.ofNat n := ⟨_, rfl⟩
      have hm1 := last_byte n hn128
      rw [← hc] at hm1
      have HC := show Hid (c = UInt8.ofNat n) from hc
      have HM := show Hid (#[Value.int IntKind.u8 (n : Int)].toList = vals [c]) from hm1
      clear hc hm1
      go_wp2_with (at_builtin; refine wpList_append_own_at _ rfl (.tmp 26) (.tmp 29) 24 rfl B 5 i0 (.int .u8 0) 1 1 Tryd.underlying24 hi hz0 hz1 hz2 rfl (by decide) v q.length (vals q) rfl (hown.alloc _) ⟨wr.heap.size, 0, none⟩ 1 1 (vals [c]) rfl rfl (lit_news _ _ _ _ HM.out) (vals_one _) (by unfold maxLen; omega) (by omega) (by simp; omega) ?_)
      intro v' w1 hown' hg _ hat
      have R := stp_step (l := q) (r := [c]) _ ht HV.out hB hown hg (by simp) hown' hat
      have hc1 := cell_of_one R.1
      have hf1 := free_of_one R.1
      have HR := show Hid (WrV B (w1.setCell ⟨pb, 0, none⟩ v') pb (q ++ [c]) v' ∧ Stp B wr (w1.setCell ⟨pb, 0, none⟩ v') pb v v') from R.2
      obtain ⟨pv, nv, cv, hv'⟩ : ∃ pv nv cv, v' = .slice pv nv cv := by
        rcases hown'.2 with ⟨h, _⟩ | ⟨g, cap, cur, h, _⟩
        · exact ⟨_, _, _, h⟩
        · exact ⟨_, _, _, h⟩
      subst hv'
      clear R hown' hg hown hcell hat
      go_wp2
      go_end0
      have hq := hp.out
      rw [Oct.numF_last f n hn128, ← HC.out] at hq
      refine ⟨rfl, _, ?_, hst.out.trans HR.out.2⟩
      rw [← hq, ← List.append_assoc, ← HQ.out]
      exact HR.out.1
set_option maxRecDepth 100000 in
set_option maxHeartbeats 1000000 in
theorem wText_fr (B : Nat) (pb : Nat) (l : List UInt8) (s : ByteArray) (w : World) (v0 : Value) (h : WrV B w pb l v0) (hB0 : B ≤ w.heap.size) (hm : l.length ≤ 35184372088832) (hs : s.size ≤ 9223372036854775807) (hT : Tabs w) :
    Calls Tryd.prog 38 #[.pointer (some ⟨pb, 0, none⟩), .string s] w fun e w' => e = .returned (.int .i64 (textErr s.data.toList)) ∧ ∃ v', WrV B w' pb (l ++ textOf s.data.toList) v' ∧ Stp B w w' pb v0 v' := by
  obtain ⟨i0, hi, hz0, hz1, hz2⟩ := info_parts info_u8
  have hsz : s.data.toList.length = s.size := rfl
  have HC := show Hid (Calls Tryd.prog 42 #[.string s] w fun e w' => e = .returned (.bool (Lib.validD s.data.toList)) ∧ Below w.heap.size w w') from Tryd.utf8_ValidString s w hs hT
  cases hV : Lib.validD s.data.toList with
  | false =>
    have e1 : textErr s.data.toList = 12 := by simp [textErr, hV]
    have e2 : textOf s.data.toList = [] := by simp [textOf, e1]
    rw [e1, e2, List.append_nil]
    rw [hV] at HC
    clear e1 e2 hV hsz
    go_enter Tryd.func38, Tryd.ntmps38
    go_wp2_with fail
    refine HC.out.mono ?_
    rintro e w1 ⟨rfl, hb⟩
    go_wp2
    go_ret
    exact ⟨rfl, _, h.later hb, Stp.of_below hb hB0⟩
  | true =>
    by_cases hl : 65536 < s.size
    · have e1 : textErr s.data.toList = 11 := by simp only [textErr, hV, hsz]; simp [hl]
      have e2 : textOf s.data.toList = [] := by simp [textOf, e1]
      rw [e1, e2, List.append_nil]
      rw [hV] at HC
      clear e1 e2 hV hsz
      go_enter Tryd.func38, Tryd.ntmps38
      go_wp2_with fail
      refine HC.out.mono ?_
      rintro e w1 ⟨rfl, hb⟩
      go_wp2
      go_ret
      exact ⟨rfl, _, h.later hb, Stp.of_below hb hB0⟩
    · have e1 : textErr s.data.toList = 0 := by simp only [textErr, hV, hsz]; simp [hl]
      have e2 : textOf s.data.toList = Oct.num s.size ++ s.data.toList := by simp only [textOf, e1, hsz]; simp
      rw [e1, e2]
      rw [hV] at HC
      clear e1 e2 hV hsz
      have hl' : s.size ≤ 65536 := by omega
      clear hl
      have hnl := Oct.num_length s.size
      generalize hnum : Oct.num s.size = nm at *
      have HN := show Hid (Oct.num s.size = nm) from hnum
      clear hnum
      go_enter Tryd.func38, Tryd.ntmps38
      go_wp2_with fail
      refine HC.out.mono ?_
      rintro e w1 ⟨rfl, hb⟩
      have hw1 := h.later hb
      have HS1 := show Hid (Stp B w w1 pb v0 v0) from Stp.of_below hb hB0
      have CN := show Hid (Calls Tryd.prog 35 #[.pointer (some ⟨pb, 0, none⟩), .int .u64 (s.size : Int)] w1 fun e w' => e = .returned (.tuple #[]) ∧ ∃ v', WrV B w' pb (l ++ nm) v' ∧ Stp B w1 w' pb v0 v') from by
        have := wNum_fr B pb l s.size w1 v0 hw1 (by omega) (by omega)
        rw [HN.out] at this
        exact this
      clear HC h hb
      go_wp2_with fail
      refine CN.out.mono ?_
      rintro e w2 ⟨rfl, v, hw2, hst2⟩
      have HS2 := show Hid (Stp B w w2 pb v0 v) from HS1.out.trans hst2
      obtain ⟨t, ht, hv, hB, hown⟩ := hw2
      have hcell := cell_of_one hv
      have hlt := lt_of_block hv
      have HV := show Hid (w2.heap[pb]? = some (.cells #[v] t (0, 0))) from hv
      have hll : (l ++ nm).length ≤ 70368744177664 := by simp; omega
      obtain ⟨q, hq⟩ : ∃ q, q = l ++ nm := ⟨_, rfl⟩
      rw [← hq] at hown hll
      have HQ := show Hid (q = l ++ nm) from hq
      clear hq hv CN hw1 hst2 HS1
      go_wp2_with (at_builtin; refine append_str_at _ rfl (.tmp 22) (.tmp 23) 24 9 rfl B 5 i0 Tryd.underlying24 Tryd.underlying9 hi hz0 hz1 hz2 v q.length (vals q) rfl hown s rfl (by unfold maxLen; omega) (by omega) (by omega) ?_)
      intro v' w3 hown' hg hat
      have R := stp_step0 (l := q) (r := s.data.toList) ht HV.out hB hown hg (by simp) hown' hat
      have hc1 := cell_of_one R.1
      have hf1 := free_of_one R.1
      have HR := show Hid (WrV B (w3.setCell ⟨pb, 0, none⟩ v') pb (q ++ s.data.toList) v' ∧ Stp B w2 (w3.setCell ⟨pb, 0, none⟩ v') pb v v') from R.2
      obtain ⟨pv, nv, cv, hv'⟩ : ∃ pv nv cv, v' = .slice pv nv cv := by
        rcases hown'.2 with ⟨h, _⟩ | ⟨g, cap, cur, h, _⟩
        · exact ⟨_, _, _, h⟩
        · exact ⟨_, _, _, h⟩
      subst hv'
      clear R hown' hg hown hcell hat
      go_wp2
      go_ret
      refine ⟨rfl, _, ?_, HS2.out.trans HR.out.2⟩
      rw [← List.append_assoc, ← HQ.out]
      exact HR.out.1
end Go.Proofs.YthmfgoclkioncaaDoor
