/-
  The trials of some rules: slices.IndexFunc, slices.DeleteFunc at trials, and the call of. For every row of rules. No other condition.
-/
import Derived.Test.YtpddfooeaecekaaDoorZOf1
import Derived.Test.YtpddfooeaecekaaDoorZOfK
namespace Go.Proofs.YtpddfooeaecekaaDoor
open Go.RowKit Go.Shelf Go.Maps
open Fm (Nd)
open Bt.Bs (Ok wd)
set_option linter.unusedSimpArgs false

def keepT (xs : List Int) (x : T3) : Bool := xs.contains x.n
structure Cap (w : World) (rb : Nat) (rv : Value) (xs : List Int) : Prop where
  box : Cl w rb #[rv] 68
  isl : Bt.IsL w rv xs
theorem Cap.later {w w' : World} {rb : Nat} {rv : Value} {xs : List Int} (h : Cap w rb rv xs) (hb : Below w.heap.size w w') : Cap w' rb rv xs := ⟨h.box.later hb, h.isl.later hb⟩
section
variable {ops : Array Oper} {rest : List Oper} {o : Oper} {a : Act} {Q : Exit → Act → World → Prop} {w : World}
theorem wpList_ldT (x : Operand) (hop : o.op = Op.load 96 x) (g j : Nat) (hx : a.eval x = .pointer (some ⟨g, j * 3, none⟩)) {L : List T3} (h : Rt w g L) (hj : j < L.length) (hg : Region.wanted o (yielded ops a.tmps) = true) (hK : wpList Tryd.prog ops Q rest (a.put o.dst (.agg (c3 L[j]).toArray)) w) : wpList Tryd.prog ops Q (o :: rest) a w := by
  refine Bt.wpList_want hg fun K' hK' => ?_
  have hrun := h.load hj
  unfold Oper.wp
  simp [execOp, hop, hx, hrun, Result.andThen]
  exact hK' _ _ hK
theorem wpList_ldR (x : Operand) (T : TypeId) (hop : o.op = Op.load T x) (p : Value) (hx : a.eval x = p) (v : Value) (hrun : (Instr.loadAt T p).run Tryd.prog w = .ok v w) (hg : Region.wanted o (yielded ops a.tmps) = true) (hK : wpList Tryd.prog ops Q rest (a.put o.dst v) w) : wpList Tryd.prog ops Q (o :: rest) a w := by
  refine Bt.wpList_want hg fun K' hK' => ?_
  unfold Oper.wp
  simp [execOp, hop, hx, hrun, Result.andThen]
  exact hK' _ _ hK
theorem c3_all (x : T3) : (c3 x).toArray.all (·.oneCell') = true := by simp [c3, Value.oneCell', T3.fv, T3.pv]
theorem wpList_stT (hg : o.guard = none) (hd : o.dst = none) (x y : Operand) (hop : o.op = Op.store 96 x y) (g j : Nat) (hx : a.eval x = .pointer (some ⟨g, j * 3, none⟩)) (z : T3) (hy : a.eval y = .agg (c3 z).toArray) {L : List T3} (h : Rt w g L) (hj : j < L.length) (hK : ∀ w', Rt w' g (L.set j z) → KpP g w w' → wpList Tryd.prog ops Q rest a w') : wpList Tryd.prog ops Q (o :: rest) a w := by
  refine wpList_plain hg fun K' hK' => ?_
  obtain ⟨w', hrun, h1, h2⟩ := h.set hj z
  unfold Oper.wp
  simp [execOp, hop, hx, hy, hrun, Result.andThen]
  rw [Oper.upon_skip, hd]
  exact hK' _ _ (hK w' h1 h2)
end
set_option maxRecDepth 100000 in
set_option maxHeartbeats 2000000 in
theorem indexFuncT_any (w : World) {g c rb : Nat} {rv : Value} {xs : List Int} {L : List T3} (h : Rt w g L) (hL : L.length ≤ 1000) (hC : Cap w rb rv xs) :
    Calls Tryd.prog 99 #[.slice (some ⟨g, 0, none⟩) L.length c, .func (.func 86) #[] #[.pointer (some ⟨rb, 0, none⟩)]] w fun e w' =>
      ((e = .returned (.int .i64 (-1)) ∧ ∀ j (hj : j < L.length), keepT xs L[j] = true) ∨ (∃ i : Nat, ∃ hi : i < L.length, e = .returned (.int .i64 (i : Int)) ∧ keepT xs L[i] = false ∧ ∀ j (hj : j < L.length), j < i → keepT xs L[j] = true)) ∧ Below w.heap.size w w' := by
  have HR := show Hid (∀ W : World, Below w.heap.size w W → Rt W g L) from fun W hb => h.later hb
  have KO := show Hid (∀ (W : World) (x : T3), Below w.heap.size w W → Calls Tryd.prog 86 #[.agg (c3 x).toArray, .pointer (some ⟨rb, 0, none⟩)] W fun e w' => e = .returned (.bool (!xs.contains x.n)) ∧ Below W.heap.size W w') from fun W x hb => of1_any W xs (hC.later hb).box (hC.later hb).isl x
  clear h hC
  go_enter Tryd.func99, Tryd.ntmps99
  go_wp2_with fail
  go_loopw [8] (fun n wr => ∃ (k : Nat), k ≤ L.length ∧ n = .int .i64 (k : Int) ∧ Hid ((∀ j (hj : j < L.length), j < k → keepT xs L[j] = true) ∧ Below w.heap.size w wr)) (fun n _ => L.length - (intOf n).toNat)
  case atStart => exact ⟨0, by omega, rfl, fun j _ h => by omega, Below.refl _ _⟩
  case round =>
    obtain ⟨k, hk, rfl, HI⟩ := hrel
    by_cases hlt : k < L.length
    · have hltI : (k : Int) < (L.length : Int) := by omega
      have HR2 := show Hid _ from HR.out wr HI.out.2
      have KX := show Hid _ from KO.out wr L[k] HI.out.2
      have HK := show Hid (keepT xs L[k] = xs.contains L[k].n) from rfl
      have HLT := show Hid (k < L.length) from hlt
      clear HR KO
      go_wp2_with (refine wpList_ldT _ rfl g k (by simp [Act.eval]) HR2.out HLT.out rfl ?_)
      refine Calls.mono KX.out ?_
      rintro e w1 ⟨rfl, hb1⟩
      have HB1 := show Hid (Below w.heap.size w w1) from HI.out.2.trans (hb1.mono HI.out.2.size)
      clear KX hb1 HR2
      cases hx : xs.contains L[k].n
      · have HX := show Hid (keepT xs L[k] = false) from hx
        clear hx
        go_wp2_with fail
        go_ret
        exact ⟨Or.inr ⟨k, HLT.out, rfl, HX.out, fun j hj h => HI.out.1 j hj h⟩, HB1.out⟩
      · have HI2 := show Hid (∀ j (hj : j < L.length), j < k + 1 → keepT xs L[j] = true) from fun j hj h => by
          by_cases e : j = k
          · subst e; exact hx
          · exact HI.out.1 j hj (by omega)
        clear hx
        go_wp2_with fail
        go_roundw
        case rel => exact ⟨k + 1, by omega, val_int (by omega), HI2.out, HB1.out⟩
        case measure => (simp only [intOf]; omega)
    · obtain rfl : k = L.length := by omega
      clear HR KO
      go_wp2_with fail
      go_ret
      exact ⟨Or.inl ⟨rfl, fun j hj => HI.out.1 j hj hj⟩, HI.out.2⟩
/-! ### DeleteFunc -/
structure Del (L M : List T3) (p : T3 → Bool) (i j : Nat) : Prop where
  len : M.length = L.length
  ij : i < j
  jn : j ≤ L.length
  pre : M.take i = (L.take j).filter p
  post : M.drop j = L.drop j
theorem filter_all {p : T3 → Bool} {L : List T3} (h : ∀ j (hj : j < L.length), p L[j] = true) : L.filter p = L := by
  rw [List.filter_eq_self]
  intro x hx
  obtain ⟨j, hj, rfl⟩ := List.mem_iff_getElem.1 hx
  exact h j hj
theorem filter_take_succ (p : T3 → Bool) (L : List T3) (j : Nat) (hj : j < L.length) : (L.take (j + 1)).filter p = (L.take j).filter p ++ if p L[j] then [L[j]] else [] := by
  rw [List.take_succ_eq_append_getElem hj, List.filter_append]
  congr 1
  cases h : p L[j] <;> simp [h]
theorem del_start {L : List T3} {p : T3 → Bool} {i : Nat} (hi : i < L.length) (hf : p L[i] = false) (h : ∀ j (hj : j < L.length), j < i → p L[j] = true) : Del L L p i (i + 1) := by
  refine ⟨rfl, by omega, by omega, ?_, rfl⟩
  rw [filter_take_succ p L i hi, hf]
  simp only [Bool.false_eq_true, if_false, List.append_nil]
  symm
  apply filter_all
  intro j hj
  rw [List.length_take] at hj
  rw [List.getElem_take]
  exact h j (by omega) (by omega)
theorem Del.at {L M : List T3} {p : T3 → Bool} {i j : Nat} (h : Del L M p i j) (hj : j < L.length) : M[j]'(by rw [h.len]; exact hj) = L[j] := by
  have hm : j < M.length := by rw [h.len]; exact hj
  have e := h.post
  rw [List.drop_eq_getElem_cons hm, List.drop_eq_getElem_cons hj] at e
  exact (List.cons.inj e).1
theorem Del.keep {L M : List T3} {p : T3 → Bool} {i j : Nat} (h : Del L M p i j) (hj : j < L.length) (hp : p L[j] = true) : Del L (M.set i L[j]) p (i + 1) (j + 1) := by
  have hm : j < M.length := by rw [h.len]; exact hj
  have hi : i < M.length := by have := h.ij; omega
  refine ⟨by rw [List.length_set, h.len], by have := h.ij; omega, by omega, ?_, ?_⟩
  · rw [filter_take_succ p L j hj, hp, ← h.pre]
    simp only [if_true]
    rw [List.take_succ_eq_append_getElem (by rw [List.length_set]; exact hi), List.getElem_set_self, List.take_set_of_le (Nat.le_refl _)]
  · have e := h.post
    rw [List.drop_eq_getElem_cons hm, List.drop_eq_getElem_cons hj] at e
    rw [List.drop_set_of_lt (by have := h.ij; omega)]
    exact (List.cons.inj e).2
theorem Del.skip {L M : List T3} {p : T3 → Bool} {i j : Nat} (h : Del L M p i j) (hj : j < L.length) (hp : p L[j] = false) : Del L M p i (j + 1) := by
  have hm : j < M.length := by rw [h.len]; exact hj
  refine ⟨h.len, by have := h.ij; omega, by omega, ?_, ?_⟩
  · rw [filter_take_succ p L j hj, hp, ← h.pre]
    simp
  · have e := h.post
    rw [List.drop_eq_getElem_cons hm, List.drop_eq_getElem_cons hj] at e
    exact (List.cons.inj e).2
theorem Del.done {L M : List T3} {p : T3 → Bool} {i : Nat} (h : Del L M p i L.length) : M.take i = L.filter p := by rw [h.pre, List.take_length]
theorem below_kp {B : Nat} {w0 w w' : World} {g : Nat} (h : Below B w0 w) (hk : KpP g w w') (hB : B ≤ g) (hs : B ≤ w.heap.size) : Below B w0 w' :=
  ⟨hk.os.trans h.os, hk.tape.trans h.tape, hk.output.trans h.output, Nat.le_trans h.size hk.size, fun k hk2 => (hk.block k (by omega) (by omega)).trans (h.block k hk2)⟩
theorem below_more {B : Nat} {w0 w w' : World} (h : Below B w0 w) (hb : Below w.heap.size w w') (hs : B ≤ w.heap.size) : Below B w0 w' := h.trans (hb.mono hs)
set_option maxRecDepth 100000 in
set_option maxHeartbeats 4000000 in
theorem deleteFuncT_any (w : World) {B g c rb : Nat} {rv : Value} {xs : List Int} {L : List T3} (h : Rt w g L) (hL : L.length ≤ 1000) (hc : L.length ≤ c) (_hcm : c ≤ maxLen) (hBg : B ≤ g) (hBw : B ≤ w.heap.size) (hC : ∀ W, Below B w W → Cap W rb rv xs) :
    Calls Tryd.prog 84 #[.slice (some ⟨g, 0, none⟩) L.length c, .func (.func 86) #[] #[.pointer (some ⟨rb, 0, none⟩)]] w fun e w' =>
      e = .returned (.slice (some ⟨g, 0, none⟩) (L.filter (keepT xs)).length c) ∧ Rt w' g (L.filter (keepT xs)) ∧ Below B w w' := by
  have KI := show Hid _ from indexFuncT_any (c := c) w h hL (hC w (Below.refl _ _))
  have KO := show Hid (∀ (W : World) (x : T3), Below B w W → Calls Tryd.prog 86 #[.agg (c3 x).toArray, .pointer (some ⟨rb, 0, none⟩)] W fun e w' => e = .returned (.bool (!xs.contains x.n)) ∧ Below W.heap.size W w') from fun W x hb => of1_any W xs (hC W hb).box (hC W hb).isl x
  have HR := show Hid (Rt w g L) from h
  have HBB := show Hid (B ≤ g ∧ B ≤ w.heap.size) from ⟨hBg, hBw⟩
  clear h hC hBg hBw
  go_enter Tryd.func84, Tryd.ntmps84
  go_wp2_with fail
  refine Calls.mono KI.out ?_
  rintro e w1 ⟨hcase, hb1⟩
  have HB1 := show Hid (Below w.heap.size w w1) from hb1
  clear hb1 KI
  rcases hcase with ⟨rfl, hall⟩ | ⟨i, hi, rfl, hf, hall⟩
  · have HF := show Hid (L.filter (keepT xs) = L) from filter_all hall
    clear hall KO
    go_wp2_with fail
    go_ret
    rw [HF.out]
    exact ⟨rfl, HR.out.later HB1.out, HB1.out.mono HBB.out.2⟩
  · have HD := show Hid (Del L L (keepT xs) i (i + 1)) from del_start hi hf hall
    have hne : ((i : Int) == -1) = false := by
      rw [beq_eq_false_iff_ne]
      omega
    have HI := show Hid (i < L.length) from hi
    have hiI0 : (i : Int) < (L.length : Int) := by omega
    clear hi hf hall
    go_wp2_with fail
    go_loopw [5, 6] (fun ni nj wr => ∃ (i j : Nat) (M : List T3), ni = .int .i64 (i : Int) ∧ nj = .int .i64 (j : Int) ∧ j ≤ L.length ∧ Hid (Del L M (keepT xs) i j ∧ Rt wr g M ∧ Below B w wr)) (fun _ nj _ => L.length - (intOf nj).toNat)
    case atStart => exact ⟨i, i + 1, L, rfl, val_int (by omega), by have := HI.out; omega, HD.out, HR.out.later HB1.out, HB1.out.mono HBB.out.2⟩
    case round =>
      obtain ⟨i, j, M, rfl, rfl, hjn, HQ⟩ := hrel
      clear HD HR HB1 HI hne
      have HBW := show Hid (B ≤ wr.heap.size) from Nat.le_trans HBB.out.2 HQ.out.2.2.size
      by_cases hlt : j < L.length
      · have hltI : (j : Int) < (L.length : Int) := by omega
        have HJM := show Hid (j < M.length) from by show j < M.length; rw [HQ.out.1.len]; exact hlt
        have HEQ := show Hid (M[j]'HJM.out = L[j]) from HQ.out.1.at hlt
        obtain ⟨x, hx⟩ : ∃ x, x = L[j] := ⟨_, rfl⟩
        have HX := show Hid (x = L[j]) from hx
        have HLD := show Hid ((Instr.loadAt 96 (.pointer (some ⟨g, j * 3, none⟩))).run Tryd.prog wr = .ok (.agg (c3 x).toArray) wr) from by
          show (Instr.loadAt 96 (.pointer (some ⟨g, j * 3, none⟩))).run Tryd.prog wr = .ok (.agg (c3 x).toArray) wr
          rw [hx, ← HEQ.out]
          exact HQ.out.2.1.load HJM.out
        have HIL := show Hid (i < L.length ∧ i < M.length) from by have := HQ.out.1.ij; have := HQ.out.1.len; exact ⟨by omega, by omega⟩
        have hiI : (i : Int) < (L.length : Int) := by have := HIL.out.1; omega
        have HKP := show Hid (keepT xs x = true → Del L (M.set i x) (keepT xs) (i + 1) (j + 1)) from fun h => by rw [hx] at h ⊢; exact HQ.out.1.keep hlt h
        have HSK := show Hid (keepT xs x = false → Del L M (keepT xs) i (j + 1)) from fun h => by rw [hx] at h; exact HQ.out.1.skip hlt h
        clear hx HEQ HX
        go_wp2_with (first | (refine wpList_ldR _ _ rfl _ rfl _ HLD.out rfl ?_) | (refine wpList_alloc 96 rfl _ zeroT3 rfl ?_))
        intro w2 b7 hn2
        go_wp2_with (refine wpList_st 96 rfl rfl _ _ rfl b7 rfl _ rfl _ _ hn2.blk sizeT rfl (c3_all x) ?_)
        intro w3 hc3 hk3
        have H3 := show Hid (Cl w3 b7 (c3 x).toArray 96 ∧ Rt w3 g M ∧ Below B w w3 ∧ B ≤ w3.heap.size ∧ b7 ≠ g) from by
          have hg := HQ.out.2.1.lt
          have hge := hn2.ge
          have hbw := HBW.out
          refine ⟨hc3, (HQ.out.2.1.later hn2.bel).keep (hk3.block g (Nat.lt_of_lt_of_le hg hn2.bel.size) (by omega)), below_kp (below_more HQ.out.2.2 hn2.bel hbw) hk3 (by omega) (Nat.le_trans hbw hn2.bel.size), Nat.le_trans hbw (Nat.le_trans hn2.bel.size hk3.size), by omega⟩
        have KX := show Hid _ from KO.out w3 x H3.out.2.2.1
        clear hn2 hc3 hk3
        go_wp2_with (refine wpList_ldw 96 _ rfl b7 rfl _ _ H3.out.1 rfl Tryd.underlying96 sizeT rfl ?_)
        refine Calls.mono KX.out ?_
        rintro e w4 ⟨rfl, hb4⟩
        have H4 := show Hid (Cl w4 b7 (c3 x).toArray 96 ∧ Rt w4 g M ∧ Below B w w4 ∧ B ≤ w4.heap.size ∧ b7 ≠ g) from ⟨H3.out.1.later hb4, H3.out.2.1.later hb4, below_more H3.out.2.2.1 hb4 H3.out.2.2.2.1, Nat.le_trans H3.out.2.2.2.1 hb4.size, H3.out.2.2.2.2⟩
        clear hb4 H3 KX
        cases hx : xs.contains x.n
        · have HD2 := show Hid _ from HSK.out hx
          clear hx HKP HSK HLD
          go_wp2_with fail
          go_roundw
          case rel => exact ⟨i, j + 1, M, rfl, val_int (by omega), by omega, HD2.out, H4.out.2.1, H4.out.2.2.1⟩
          case measure => (simp only [intOf]; omega)
        · have HD2 := show Hid _ from HKP.out hx
          clear hx HKP HSK HLD
          go_wp2_with (first | (refine wpList_ldw 96 _ rfl b7 rfl _ _ H4.out.1 rfl Tryd.underlying96 sizeT rfl ?_) | (refine wpList_stT rfl rfl _ _ rfl g i rfl x rfl H4.out.2.1 HIL.out.2 ?_))
          intro w5 hr5 hk5
          have H5 := show Hid (Rt w5 g (M.set i x) ∧ Below B w w5) from ⟨hr5, below_kp H4.out.2.2.1 hk5 HBB.out.1 H4.out.2.2.2.1⟩
          clear hr5 hk5 H4
          go_wp2_with fail
          go_roundw
          case rel => exact ⟨i + 1, j + 1, M.set i x, val_int (by omega), val_int (by omega), by omega, HD2.out, H5.out.1, H5.out.2⟩
          case measure => (simp only [intOf]; omega)
      · obtain rfl : j = L.length := by omega
        have HT := show Hid (M.take i = L.filter (keepT xs)) from HQ.out.1.done
        have HIL := show Hid (i ≤ L.length ∧ i ≤ M.length ∧ M.length = L.length) from ⟨by have := HQ.out.1.ij; omega, by have := HQ.out.1.ij; have := HQ.out.1.len; omega, HQ.out.1.len⟩
        have hil : i ≤ L.length := HIL.out.1
        have hics : i < c := by have := HQ.out.1.ij; omega
        have hic1 : ¬ c = i := by omega
        have hic2 : ¬ i = c := by omega
        have hic3 : ¬ c - i = 0 := by omega
        have hic4 : ¬ (c : Int) = (i : Int) := by omega
        have hic5 : ¬ c ≤ i := by omega
        have hic : (i : Int) ≤ (c : Int) := by omega
        have hlc : (L.length : Int) ≤ (c : Int) := by omega
        have hil2 : (i : Int) ≤ (L.length : Int) := by omega
        obtain ⟨w2, hcl, hr2, hk2⟩ := HQ.out.2.1.clear 0 i (c - i) HIL.out.2.1
        rw [HIL.out.2.2] at hcl
        have H2 := show Hid (Rt w2 g (M.take i) ∧ Below B w w2) from ⟨hr2, below_kp HQ.out.2.2 hk2 HBB.out.1 HBW.out⟩
        clear hr2 hk2 KO
        go_wp2_with (simp only [hcl])
        go_ret
        have e : (L.filter (keepT xs)).length = i := by rw [← HT.out, List.length_take]; have := HIL.out; omega
        rw [e]
        exact ⟨rfl, by rw [← HT.out]; exact H2.out.1, H2.out.2⟩
end Go.Proofs.YtpddfooeaecekaaDoor
