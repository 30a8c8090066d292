/-
  The document's calls without and Less: for every two rows of numbers of at most 2^47 bytes. No other condition.
-/
import Derived.Test.YthdcppkohalkmaaGreatRRow
namespace Go.Proofs.YthdcppkohalkmaaGreat
open Go.RowKit Go.Maps
open Fm (Nd)

/-- What is left of a row, each number once, that is not used. -/
def remF (b : List Int) (f : Nat → Bool) (i : Nat) : List Int := match b with | [] => [] | y :: r => (if f i then [] else [y]) ++ remF r f (i + 1)
theorem remF_none (b : List Int) : ∀ i, remF b (fun _ => false) i = b := by
  induction b with
  | nil => intro i; rfl
  | cons y r ih => intro i; unfold remF; rw [ih]; rfl
theorem remF_ext {f g : Nat → Bool} : ∀ (b : List Int) (i : Nat), (∀ j, i ≤ j → f j = g j) → remF b f i = remF b g i
  | [], _, _ => rfl
  | y :: r, i, h => by
    unfold remF
    rw [h i (Nat.le_refl _), remF_ext r (i + 1) (fun j hj => h j (by omega))]
theorem remF_first {x : Int} {f : Nat → Bool} : ∀ (b : List Int) (i m : Nat) (hm : m < b.length), f (i + m) = false → b[m] = x → (∀ j (hj : j < b.length), j < m → f (i + j) = true ∨ b[j] ≠ x) → x ∈ remF b f i ∧ (remF b f i).erase x = remF b (Fm.upd f (i + m)) i
  | [], _, m, hm, _, _, _ => absurd hm (by simp)
  | y :: r, i, 0, _, hf, hx, _ => by
    have hx' : y = x := hx
    subst hx'
    rw [Nat.add_zero] at hf ⊢
    unfold remF
    rw [hf, show Fm.upd f i i = true from by simp [Fm.upd]]
    refine ⟨by simp, ?_⟩
    simp only [Bool.false_eq_true, if_false, if_true, List.nil_append]
    rw [List.singleton_append, List.erase_cons_head]
    exact remF_ext r (i + 1) fun j hj => by simp [Fm.upd]; omega
  | y :: r, i, m + 1, hm, hf, hx, hn => by
    have ih := remF_first r (i + 1) m (by simpa using hm) (by rw [show i + 1 + m = i + (m + 1) from by omega]; exact hf) (by simpa using hx) (fun j hj hjm => by
      have := hn (j + 1) (by simpa using hj) (by omega)
      rw [show i + 1 + j = i + (j + 1) from by omega]
      simpa using this)
    rw [show i + 1 + m = i + (m + 1) from by omega] at ih
    have h0 := hn 0 (by simp) (by omega)
    unfold remF
    rw [show Fm.upd f (i + (m + 1)) i = f i from by simp [Fm.upd]]
    cases hfi : f i with
    | true =>
      simp only [if_true, List.nil_append]
      exact ih
    | false =>
      rw [Nat.add_zero, hfi] at h0
      have hyx : y ≠ x := by simpa using h0
      simp only [Bool.false_eq_true, if_false, List.singleton_append]
      refine ⟨List.mem_cons_of_mem _ ih.1, ?_⟩
      rw [List.erase_cons_tail (by simpa using hyx), ih.2]
theorem remF_no {x : Int} {f : Nat → Bool} : ∀ (b : List Int) (i : Nat), (∀ j (hj : j < b.length), f (i + j) = true ∨ b[j] ≠ x) → x ∉ remF b f i
  | [], _, _ => by unfold remF; simp
  | y :: r, i, h => by
    have ih := remF_no r (i + 1) (fun j hj => by
      have := h (j + 1) (by simpa using hj)
      rw [show i + 1 + j = i + (j + 1) from by omega]
      simpa using this)
    have h0 := h 0 (by simp)
    rw [Nat.add_zero] at h0
    unfold remF
    cases hfi : f i with
    | true => simpa using ih
    | false =>
      rw [hfi] at h0
      have hyx : y ≠ x := by simpa using h0
      simp only [Bool.false_eq_true, if_false, List.singleton_append, List.mem_cons, not_or]
      exact ⟨fun e => hyx e.symm, ih⟩
theorem wo_lenle : ∀ a b : List Int, (Ms.wo a b).length ≤ a.length
  | [], _ => by simp [Ms.wo]
  | x :: a, b => by
    unfold Ms.wo
    split
    · have := wo_lenle a (b.erase x); simp; omega
    · have := wo_lenle a b; simp; omega
theorem own_keepI {W W' : World} {B n : Nat} {sv : Value} {xs : List Value} (h : W.ownsRow B 3 1 sv n xs) (hk : ∀ j, B ≤ j → j < W.heap.size → W'.heap[j]? = W.heap[j]?) : W'.ownsRow B 3 1 sv n xs := by
  rcases h with ⟨hl, ⟨rfl, hn⟩ | ⟨g, cap, cur, rfl, hg1, hh, r⟩⟩
  · exact ⟨hl, Or.inl ⟨rfl, hn⟩⟩
  · exact ⟨hl, Or.inr ⟨g, cap, cur, rfl, hg1, (hk g hg1 (lt_of_block hh)).trans hh, r⟩⟩
theorem wo_in {x : Int} {a r : List Int} (h : x ∈ r) : Ms.wo (x :: a) r = Ms.wo a (r.erase x) := by
  show (if x ∈ r then Ms.wo a (r.erase x) else x :: Ms.wo a r) = _
  rw [if_pos h]
theorem wo_out {x : Int} {a r : List Int} (h : x ∉ r) : Ms.wo (x :: a) r = x :: Ms.wo a r := by
  show (if x ∈ r then Ms.wo a (r.erase x) else x :: Ms.wo a r) = _
  rw [if_neg h]
set_option maxRecDepth 100000 in
set_option maxHeartbeats 2400000 in
theorem rwithout_any (w : World) (va vb : Value) (a b : List Int) (ha : IsL w va a) (hb : IsL w vb b) (hla : a.length * 8 ≤ 140737488351232) (hlb : b.length * 8 ≤ 140737488351232) :
    Calls Tryz.prog 57 #[va, vb] w fun e w' => ∃ p c, e = .returned (.slice p (Ms.wo a b).length c) ∧ IsL w' (.slice p (Ms.wo a b).length c) (Ms.wo a b) ∧ Below w.heap.size w w' := by
  obtain ⟨pa, ca, rfl, hka, hca⟩ := ha
  obtain ⟨pb, cb, rfl, hkb, hcb⟩ := hb
  have HA := show Hid (∀ w', Below w.heap.size w w' → ∀ k (hk : k < a.length), ∃ g o, pa = some ⟨g, o, none⟩ ∧ w'.cell? ⟨g, o + k, none⟩ = some (.int .i64 a[k])) from fun w' hb k hk => by
    obtain ⟨g, o, hp, hc⟩ := hca k hk
    exact ⟨g, o, hp, (hb.cell (p := ⟨g, _, none⟩) (World.block_lt_of_cell? w _ hc)).trans hc⟩
  have HB := show Hid (∀ w', Below w.heap.size w w' → ∀ k (hk : k < b.length), ∃ g o, pb = some ⟨g, o, none⟩ ∧ w'.cell? ⟨g, o + k, none⟩ = some (.int .i64 b[k])) from fun w' hb k hk => by
    obtain ⟨g, o, hp, hc⟩ := hcb k hk
    exact ⟨g, o, hp, (hb.cell (p := ⟨g, _, none⟩) (World.block_lt_of_cell? w _ hc)).trans hc⟩
  have hmk : ∀ w : World, (Instr.makeSlice 91 (.int .i64 (b.length : Int)) (.int .i64 (b.length : Int))).run Tryz.prog w = .ok (.slice (some ⟨w.heap.size, 0, none⟩) b.length b.length) (w.alloc (.cells (madeCells #[.bool false] b.length) 4)) := fun w => by
    have h := run_make_row' (P := Tryz.prog) 91 4 (.bool false) 1 Tryz.underlying91 info_bool rfl .i64 .i64 b.length (by omega) (by omega) w
    exact h
  have hmk1 := hmk w
  have HM0 := show Hid (Bs (w.alloc (.cells (madeCells #[.bool false] b.length) 4)) w.heap.size b.length (fun _ => false) ∧ Below w.heap.size w (w.alloc (.cells (madeCells #[.bool false] b.length) 4)) ∧ w.heap.size < (w.alloc (.cells (madeCells #[.bool false] b.length) 4)).heap.size) from ⟨made_bs w b.length, below_alloc _ _, by simp⟩
  have HDA := show Hid (∀ k (hk : k < a.length), a.drop k = a[k] :: a.drop (k + 1)) from fun k hk => List.drop_eq_getElem_cons hk
  have HWL := show Hid ((Ms.wo a b).length ≤ a.length) from wo_lenle a b
  have HS0 := show Hid (Ms.wo a b = [] ++ Ms.wo (a.drop 0) (remF b (fun _ => false) 0)) from (by rw [remF_none]; rfl : Ms.wo a b = [] ++ Ms.wo (a.drop 0) (remF b (fun _ => false) 0))
  obtain ⟨i0, hi', hz0, hz1, hz2⟩ := info_parts info_int
  generalize Ms.wo a b = res at *
  clear hca hcb hmk
  go_enter Tryz.func57, Tryz.ntmps57
  go_wp2_with fail
  generalize w.alloc (.cells (madeCells #[.bool false] b.length) 4) = w1 at *
  go_loopw [6, 7] (fun lv i wr => ∃ (k : Nat) (f : Nat → Bool) (out : List Int), k ≤ a.length ∧ i = .int .i64 (k : Int) ∧ out.length ≤ k ∧ Hid (Bs wr w.heap.size b.length f ∧ wr.ownsRow w1.heap.size 3 1 lv out.length (out.map (Value.int .i64)) ∧ Below w.heap.size w wr ∧ w1.heap.size ≤ wr.heap.size ∧ res = out ++ Ms.wo (a.drop k) (remF b f 0))) (fun _ i _ => a.length - (intOf i).toNat)
  case atStart => exact ⟨0, fun _ => false, [], by omega, rfl, by simp, HM0.out.1, World.ownsRow_nil _ _ _ _, HM0.out.2.1, Nat.le_refl _, HS0.out⟩
  case round =>
    obtain ⟨k, f, out, hk, rfl, hol, HI⟩ := hrel
    clear HS0
    by_cases hlt : k < a.length
    · have hki : (k : Int) < (a.length : Int) := by omega
      have hda := HDA.out k hlt
      have HR := show Hid (res = out ++ Ms.wo (a[k] :: a.drop (k + 1)) (remF b f 0)) from by rw [← hda]; exact HI.out.2.2.2.2
      have HAK := show Hid (∀ w', Below w.heap.size w w' → ∃ g o, pa = some ⟨g, o, none⟩ ∧ w'.cell? ⟨g, o + k, none⟩ = some (.int .i64 a[k])) from fun w' hb => HA.out w' hb k hlt
      have HI1 := show Hid (wr.ownsRow w1.heap.size 3 1 u6 out.length (out.map (Value.int .i64)) ∧ w1.heap.size ≤ wr.heap.size) from ⟨HI.out.2.1, HI.out.2.2.2.1⟩
      have HI0 := show Hid (Bs wr w.heap.size b.length f ∧ Below w.heap.size w wr) from ⟨HI.out.1, HI.out.2.2.1⟩
      clear HI hda
      generalize a[k] = x at *
      go_wp2_with fail
      go_loopw [8, 9] (fun gv i wq => ∃ (m : Nat) (q : Bool) (f' : Nat → Bool), m ≤ b.length ∧ i = .int .i64 (m : Int) ∧ gv = .bool q ∧ Hid (Bs wq w.heap.size b.length f' ∧ Below w.heap.size w wq ∧ wq.ownsRow w1.heap.size 3 1 u6 out.length (out.map (Value.int .i64)) ∧ w1.heap.size ≤ wq.heap.size ∧ (q = false → f' = f ∧ ∀ j (hj : j < b.length), j < m → f j = true ∨ b[j] ≠ x) ∧ (q = true → x ∈ remF b f 0 ∧ remF b f' 0 = (remF b f 0).erase x))) (fun gv i _ => b.length - (intOf i).toNat)
      case atStart => exact ⟨0, false, f, by omega, rfl, rfl, HI0.out.1, HI0.out.2, HI1.out.1, HI1.out.2, (fun _ => ⟨rfl, fun j hj h => by omega⟩), (fun h => by cases h)⟩
      case round =>
        obtain ⟨m, q, f', hm, rfl, rfl, HQ⟩ := hrel
        clear HI0 HI1
        cases q with
        | true =>
          obtain ⟨hxm, hre⟩ := HQ.out.2.2.2.2.2 rfl
          have HN := show Hid (Bs wr w.heap.size b.length f' ∧ wr.ownsRow w1.heap.size 3 1 u6 out.length (out.map (Value.int .i64)) ∧ Below w.heap.size w wr ∧ w1.heap.size ≤ wr.heap.size ∧ res = out ++ Ms.wo (a.drop (k + 1)) (remF b f' 0)) from ⟨HQ.out.1, HQ.out.2.2.1, HQ.out.2.1, HQ.out.2.2.2.1, by rw [HR.out, wo_in hxm, hre]⟩
          clear HQ HR hxm hre HAK HB HA HDA HWL
          by_cases hmb : m < b.length
          · have hmi : (m : Int) < (b.length : Int) := by omega
            go_wp2_with fail
            go_roundw
            case rel => exact ⟨k + 1, f', out, by omega, by go_num, by omega, HN⟩
            case measure => first | (simp [intOf]; done) | (simp [intOf]; omega)
          · have hmi : ¬ (m : Int) < (b.length : Int) := by omega
            go_wp2_with fail
            go_roundw
            case rel => exact ⟨k + 1, f', out, by omega, by go_num, by omega, HN⟩
            case measure => first | (simp [intOf]; done) | (simp [intOf]; omega)
        | false =>
          obtain ⟨hff, hfi⟩ := HQ.out.2.2.2.2.1 rfl
          subst hff
          by_cases hmb : m < b.length
          · have hmi : (m : Int) < (b.length : Int) := by omega
            obtain ⟨ga, oa, hpa, c0⟩ := HAK.out wr HQ.out.2.1
            obtain ⟨gb, ob, hpb, c1⟩ := HB.out wr HQ.out.2.1 m hmb
            have b0 := HQ.out.1.cell (j := m) hmb
            have bf := HQ.out.1.fr
            have HFI := show Hid (∀ j (hj : j < b.length), j < m → f' j = true ∨ b[j] ≠ x) from hfi
            subst hpa
            subst hpb
            have HBM := show Hid (f' m = false → b[m] = x → x ∈ remF b f' 0 ∧ remF b (Fm.upd f' m) 0 = (remF b f' 0).erase x) from fun h1 h2 => by
              have h := remF_first (f := f') b 0 m hmb (by rw [Nat.zero_add]; exact h1) h2 (fun j hj hjm => by rw [Nat.zero_add]; exact hfi j hj hjm)
              rw [Nat.zero_add] at h
              exact ⟨h.1, h.2.symm⟩
            have HNX := show Hid ((f' m = true ∨ b[m] ≠ x) → ∀ j (hj : j < b.length), j < m + 1 → f' j = true ∨ b[j] ≠ x) from fun h j hj hjm => by
              by_cases e : j = m
              · subst e; exact h
              · exact hfi j hj (by omega)
            have HQ2 := show Hid (Bs wr.drew w.heap.size b.length f' ∧ Below w.heap.size w wr.drew ∧ wr.drew.ownsRow w1.heap.size 3 1 u6 out.length (out.map (Value.int .i64)) ∧ w1.heap.size ≤ wr.drew.heap.size) from ⟨HQ.out.1, HQ.out.2.1.drew, own_keepI HQ.out.2.2.1 (fun _ _ _ => rfl), HQ.out.2.2.2.1⟩
            have HQ3 := show Hid (Bs (wr.drew.setCell ⟨w.heap.size, m, none⟩ (.bool true)) w.heap.size b.length (Fm.upd f' m) ∧ Below w.heap.size w (wr.drew.setCell ⟨w.heap.size, m, none⟩ (.bool true)) ∧ (wr.drew.setCell ⟨w.heap.size, m, none⟩ (.bool true)).ownsRow w1.heap.size 3 1 u6 out.length (out.map (Value.int .i64)) ∧ w1.heap.size ≤ (wr.drew.setCell ⟨w.heap.size, m, none⟩ (.bool true)).heap.size) from ⟨HQ2.out.1.set m, HQ2.out.2.1.setCell (Nat.le_refl _) _, own_keepI HQ2.out.2.2.1 (fun j hj _ => Below.heap_setCell _ _ _ _ (fun e => by have h1 := HM0.out.2.2; have e2 : j = w.heap.size := e; omega)), by have := HQ2.out.2.2.2; simpa [World.setCell] using this⟩
            clear HQ hfi HFI HAK HB HA HDA HWL
            cases hfm : f' m with
            | true =>
              rw [hfm] at b0
              have HN := show Hid _ from HNX.out (Or.inl hfm)
              clear HNX HBM HQ3 hfm
              generalize b[m] = y at *
              go_wp2_with fail
              go_region
              go_wp2_with fail
              go_roundw
              case rel => exact ⟨m + 1, false, f', by omega, by go_num, rfl, HQ2.out.1, HQ2.out.2.1, HQ2.out.2.2.1, HQ2.out.2.2.2, (fun _ => ⟨rfl, HN.out⟩), (fun h => by cases h)⟩
              case measure => first | (simp [intOf]; done) | (simp [intOf]; omega)
            | false =>
              rw [hfm] at b0
              by_cases hbx : b[m] = x
              · have HE := show Hid _ from HBM.out hfm hbx
                rw [hbx] at c1
                clear HNX HBM HQ2 hfm hbx
                go_wp2_with fail
                go_region
                go_wp2_with fail
                go_roundw
                case rel => exact ⟨m + 1, true, Fm.upd f' m, by omega, by go_num, rfl, HQ3.out.1, HQ3.out.2.1, HQ3.out.2.2.1, HQ3.out.2.2.2, (fun h => by cases h), (fun _ => HE.out)⟩
                case measure => first | (simp [intOf]; done) | (simp [intOf]; omega)
              · have HN := show Hid _ from HNX.out (Or.inr hbx)
                have hbq : (b[m] == x) = false := by simpa using hbx
                clear HNX HBM HQ3 hfm hbx
                generalize b[m] = y at *
                go_wp2_with fail
                go_region
                go_wp2_with fail
                go_roundw
                case rel => exact ⟨m + 1, false, f', by omega, by go_num, rfl, HQ2.out.1, HQ2.out.2.1, HQ2.out.2.2.1, HQ2.out.2.2.2, (fun _ => ⟨rfl, HN.out⟩), (fun h => by cases h)⟩
                case measure => first | (simp [intOf]; done) | (simp [intOf]; omega)
          · have hme : m = b.length := by omega
            have hmi : ¬ (m : Int) < (b.length : Int) := by omega
            have hno : x ∉ remF b f' 0 := remF_no b 0 (fun j hj => by rw [Nat.zero_add]; exact hfi j hj (by omega))
            have HR2 := show Hid (res = (out ++ [x]) ++ Ms.wo (a.drop (k + 1)) (remF b f' 0)) from (by rw [HR.out, wo_out hno]; simp : res = (out ++ [x]) ++ Ms.wo (a.drop (k + 1)) (remF b f' 0))
            obtain ⟨ga, oa, hpa, c0⟩ := HAK.out wr HQ.out.2.1
            have HQ1 := show Hid (Bs wr w.heap.size b.length f' ∧ Below w.heap.size w wr ∧ wr.ownsRow w1.heap.size 3 1 u6 out.length (out.map (Value.int .i64)) ∧ w1.heap.size ≤ wr.heap.size) from ⟨HQ.out.1, HQ.out.2.1, HQ.out.2.2.1, HQ.out.2.2.2.1⟩
            have hws : w1.heap.size ≤ wr.heap.size := HQ.out.2.2.2.1
            subst hpa
            clear HQ HR hno hfi HAK HB HA HDA HWL hme
            obtain ⟨xs, hxs⟩ : ∃ xs, xs = out.map (Value.int .i64) := ⟨_, rfl⟩
            obtain ⟨nn, hnn⟩ : ∃ n, n = out.length := ⟨_, rfl⟩
            have HOW := show Hid (wr.ownsRow w1.heap.size 3 1 u6 nn xs) from by rw [hxs, hnn]; exact HQ1.out.2.2.1
            have HXN := show Hid (xs = out.map (Value.int .i64) ∧ nn = out.length) from ⟨hxs, hnn⟩
            have hn1 : nn ≤ k := by rw [hnn]; exact hol
            clear hxs hnn
            go_wp2_with (at_builtin; refine wpList_append_own_at _ rfl (.tmp 50) (.tmp 55) 33 rfl w1.heap.size 3 i0 _ 1 8 Tryz.underlying33 hi' hz0 hz1 hz2 rfl (by decide) u6 nn xs rfl (HOW.out.alloc _) ⟨wr.heap.size, 0, none⟩ 1 1 [.int .i64 x] rfl rfl (cell_one_new _ _ _) (ints_oneCell .i64 [x]) (by unfold maxLen; omega) (by omega) (by simp; omega) ?_)
            intro v2 w2 hown hgr hnil hat
            have HN := show Hid (Bs w2 w.heap.size b.length f' ∧ w2.ownsRow w1.heap.size 3 1 v2 (out ++ [x]).length ((out ++ [x]).map (Value.int .i64)) ∧ Below w.heap.size w w2 ∧ w1.heap.size ≤ w2.heap.size ∧ res = (out ++ [x]) ++ Ms.wo (a.drop (k + 1)) (remF b f' 0)) from by
              have hge : ∀ j, u6.ownBlock = some j → w1.heap.size ≤ j := fun j e => by
                rcases HOW.out.2 with ⟨e1, _⟩ | ⟨g2, cap2, cur, e1, e2, _⟩
                · rw [e1] at e; cases e
                · rw [e1] at e; cases e; exact e2
              have hlt1 := HM0.out.2.2
              have hz2 := hgr.size
              refine ⟨(hgr.block _ (by simp; omega) (fun e => by have := hge _ e.symm; omega)).trans (HQ1.out.1.alloc _), ?_, (HQ1.out.2.1.alloc HQ1.out.2.1.size _).grown hgr (HQ1.out.2.1.alloc HQ1.out.2.1.size _).size (fun j e => by have := hge j e; omega), by simp at hz2; omega, HR2.out⟩
              rw [List.length_append, List.length_singleton, List.map_append, ← HXN.out.1, ← HXN.out.2]
              exact hown
            clear hown hgr hnil hat HOW HXN HQ1 HR2
            go_wp2_with fail
            go_roundw
            case rel => exact ⟨k + 1, f', out ++ [x], by omega, by go_num, by simp; omega, HN⟩
            case measure => first | (simp [intOf]; done) | (simp [intOf]; omega)
    · have hke : k = a.length := by omega
      subst hke
      have hr := HI.out.2.2.2.2
      rw [List.drop_length, show Ms.wo [] (remF b f 0) = [] from rfl, List.append_nil] at hr
      have hI := HI.out.2.1
      obtain ⟨pl, cl, hle⟩ := own_sliceI hI
      have HF := show Hid (IsL wr (.slice pl res.length cl) res ∧ Below w.heap.size w wr) from by
        rw [hr, ← hle]
        exact ⟨isL_own hI (by omega), HI.out.2.2.1⟩
      rw [← hr] at hle
      subst hle
      clear HI hI HA HB HDA HWL hr HM0
      go_wp2_with fail
      go_ret
      exact ⟨_, _, rfl, HF.out⟩
set_option maxRecDepth 100000 in
set_option maxHeartbeats 2400000 in
theorem rless_any (w : World) (va vb : Value) (a b : List Int) (ha : IsL w va a) (hb : IsL w vb b) (hla : a.length * 8 ≤ 140737488351232) (hlb : b.length * 8 ≤ 140737488351232) :
    Calls Tryz.prog 31 #[va, vb] w fun e w' => e = .returned (.bool (Ms.less a b)) ∧ Below w.heap.size w w' := by
  have K1 := show Hid (Calls Tryz.prog 57 #[va, vb] w fun e w' => ∃ p c, e = .returned (.slice p (Ms.wo a b).length c) ∧ IsL w' (.slice p (Ms.wo a b).length c) (Ms.wo a b) ∧ Below w.heap.size w w') from rwithout_any w va vb a b ha hb hla hlb
  have K2 := show Hid (∀ w1, Below w.heap.size w w1 → Calls Tryz.prog 57 #[vb, va] w1 fun e w' => ∃ p c, e = .returned (.slice p (Ms.wo b a).length c) ∧ IsL w' (.slice p (Ms.wo b a).length c) (Ms.wo b a) ∧ Below w1.heap.size w1 w') from fun w1 hw => rwithout_any w1 vb va b a (hb.later hw) (ha.later hw) hlb hla
  have HE := show Hid (Ms.less a b = ((Ms.wo b a) != [] && (Ms.wo a b).all fun x => (Ms.wo b a).any fun y => decide (x < y))) from by rw [Ms.less_eq]; rfl
  obtain ⟨pa, ca, rfl, -, -⟩ := ha
  obtain ⟨pb, cb, rfl, -, -⟩ := hb
  generalize Ms.less a b = ans at *
  generalize Ms.wo a b = X at *
  generalize Ms.wo b a = Y at *
  go_enter Tryz.func31, Tryz.ntmps31
  go_wp2_with fail
  refine K1.out.mono ?_
  rintro e w1 ⟨p1, c1, rfl, hX, hb1⟩
  have K3 := show Hid _ from K2.out w1 hb1
  have HX1 := show Hid (IsL w1 (.slice p1 X.length c1) X ∧ Below w.heap.size w w1) from ⟨hX, hb1⟩
  clear K1 K2 hX hb1
  go_wp2_with fail
  refine Calls.mono K3.out ?_
  rintro e w2 ⟨p2, c2, rfl, hY, hb2⟩
  have HB2 := show Hid (Below w.heap.size w w2) from HX1.out.2.trans (hb2.mono HX1.out.2.size)
  have hX2 := HX1.out.1.later hb2
  obtain ⟨q1, d1, e1, hlx, hcx⟩ := hX2
  obtain ⟨rfl, -, rfl⟩ := Value.slice.inj e1
  obtain ⟨q2, d2, e2, hly, hcy⟩ := hY
  obtain ⟨rfl, -, rfl⟩ := Value.slice.inj e2
  have HCX := show Hid (∀ k (hk : k < X.length), ∃ g o, p1 = some ⟨g, o, none⟩ ∧ w2.cell? ⟨g, o + k, none⟩ = some (.int .i64 X[k])) from hcx
  have HCY := show Hid (∀ k (hk : k < Y.length), ∃ g o, p2 = some ⟨g, o, none⟩ ∧ w2.cell? ⟨g, o + k, none⟩ = some (.int .i64 Y[k])) from hcy
  clear K3 HX1 hb2 e1 e2 hcx hcy
  by_cases hY0 : Y.length = 0
  · have hYn : Y = [] := List.eq_nil_of_length_eq_zero hY0
    subst hYn
    have ha0 : ans = false := by rw [HE.out]; rfl
    subst ha0
    clear HE HCX HCY
    go_wp2_with fail
    go_ret
    exact ⟨rfl, HB2.out⟩
  · have hYi : ((Y.length : Int) == 0) = false := by simpa using hY0
    have HYN := show Hid (Y ≠ []) from fun h => hY0 (by rw [h]; rfl)
    have HTR := show Hid ((X.all fun x => Y.any fun y => decide (x < y)) = ans) from by
      have h := HE.out
      rw [show (Y != []) = true from by simpa using HYN.out, Bool.true_and] at h
      exact h.symm
    clear HE HYN
    go_wp2_with fail
    go_loopw [7] (fun i wr => ∃ k n : Nat, k ≤ X.length ∧ i = .int .i64 (k : Int) ∧ wr = w2.drewN n ∧ Hid ((X.take k).all (fun x => Y.any fun y => decide (x < y)) = true)) (fun i _ => X.length - (intOf i).toNat)
    case atStart => exact ⟨0, 0, by omega, rfl, rfl, rfl⟩
    case round =>
      obtain ⟨k, n, hk, rfl, rfl, HI⟩ := hrel
      by_cases hlt : k < X.length
      · have hki : (k : Int) < (X.length : Int) := by omega
        obtain ⟨gx, ox, hpx, c0⟩ := HCX.out k hlt
        have HST := show Hid ((X.take (k + 1)).all (fun x => Y.any fun y => decide (x < y)) = ((X.take k).all (fun x => Y.any fun y => decide (x < y)) && Y.any fun y => decide (X[k] < y))) from (by rw [List.take_succ_eq_append_getElem hlt, List.all_append]; simp : (X.take (k + 1)).all (fun x => Y.any fun y => decide (x < y)) = ((X.take k).all (fun x => Y.any fun y => decide (x < y)) && Y.any fun y => decide (X[k] < y)))
        have HNO := show Hid ((Y.any fun y => decide (X[k] < y)) = false → (X.all fun x => Y.any fun y => decide (x < y)) = false) from fun h => by
          cases hq : (X.all fun x => Y.any fun y => decide (x < y)) with
          | false => rfl
          | true => have := List.all_eq_true.1 hq _ (List.getElem_mem hlt); rw [h] at this; cases this
        subst hpx
        clear HCX
        generalize X[k] = x at *
        go_wp2_with fail
        go_loopw [8, 9] (fun qv i wr => ∃ m n : Nat, m ≤ Y.length ∧ i = .int .i64 (m : Int) ∧ qv = .bool ((Y.take m).any fun y => decide (x < y)) ∧ wr = w2.drewN n) (fun _ i _ => Y.length - (intOf i).toNat)
        case atStart => exact ⟨0, n, by omega, rfl, rfl, rfl⟩
        case round =>
          obtain ⟨m, n2, hm, rfl, rfl, rfl⟩ := hrel
          by_cases hlt2 : m < Y.length
          · have hmi : (m : Int) < (Y.length : Int) := by omega
            obtain ⟨gy, oy, hpy, d0⟩ := HCY.out m hlt2
            have HAN := show Hid (((Y.take (m + 1)).any fun y => decide (x < y)) = (((Y.take m).any fun y => decide (x < y)) || decide (x < Y[m]))) from (by rw [List.take_succ_eq_append_getElem hlt2, List.any_append]; simp : ((Y.take (m + 1)).any fun y => decide (x < y)) = (((Y.take m).any fun y => decide (x < y)) || decide (x < Y[m])))
            subst hpy
            clear HCY HI HST HNO HTR
            generalize Y[m] = y at *
            generalize ((Y.take m).any fun y => decide (x < y)) = q at *
            cases q with
            | true =>
              go_wp2_with fail
              go_region
              go_wp2_with fail
              go_roundw
              case rel => exact ⟨m + 1, n2 + 1, by omega, by go_num, by rw [HAN.out]; simp, rfl⟩
              case measure => first | (simp [intOf]; done) | (simp [intOf]; omega)
            | false =>
              go_wp2_with fail
              go_region
              go_wp2_with fail
              go_roundw
              case rel => exact ⟨m + 1, n2 + 1, by omega, by go_num, by rw [HAN.out]; simp, rfl⟩
              case measure => first | (simp [intOf]; done) | (simp [intOf]; omega)
          · have hme : m = Y.length := by omega
            subst hme
            rw [List.take_length]
            clear HCY
            cases hq : (Y.any fun y => decide (x < y)) with
            | true =>
              have HI2 := show Hid ((X.take (k + 1)).all (fun x => Y.any fun y => decide (x < y)) = true) from by
                show (X.take (k + 1)).all _ = true
                rw [HST.out, HI.out, hq]; rfl
              clear HST HNO HTR HI hq
              go_wp2_with fail
              go_roundw
              case rel => exact ⟨k + 1, n2, by omega, by go_num, rfl, HI2⟩
              case measure => first | (simp [intOf]; done) | (simp [intOf]; omega)
            | false =>
              have ha0 : ans = false := by rw [← HTR.out]; exact HNO.out hq
              subst ha0
              clear HST HNO HTR HI hq
              go_wp2_with fail
              go_ret
              exact ⟨rfl, below_drewN HB2.out _⟩
      · have hke : k = X.length := by omega
        subst hke
        have ha0 : ans = true := by
          have h := HI.out
          rw [List.take_length] at h
          rw [← HTR.out]; exact h
        subst ha0
        clear HI HTR HCX HCY
        go_wp2_with fail
        go_ret
        exact ⟨rfl, below_drewN HB2.out _⟩
end Go.Proofs.YthdcppkohalkmaaGreat
