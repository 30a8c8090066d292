/-
  A row of words in a block of its own; weights, told plainly; the order of falling rows. No condition.
-/
import Derived.Test.YtpddfooeaecekaaDoorZT1
namespace Go.Proofs.YtpddfooeaecekaaDoor
open Go.RowKit Go.Shelf Go.Maps
open Fm (Nd)
open Bt.Bs (Ok wd)
set_option linter.unusedSimpArgs false

def wcs (n : Nat) (h : Nat → Nat) : Array Value := ((List.range n).map fun j => Value.int .u64 (h j : Int)).toArray
def WR (w : World) (b n : Nat) (h : Nat → Nat) : Prop := Cl w b (wcs n h) 23
def updN (h : Nat → Nat) (i x : Nat) : Nat → Nat := fun j => if j = i then x else h j
theorem updN_at (h : Nat → Nat) (i x : Nat) : updN h i x i = x := by unfold updN; rw [if_pos rfl]
theorem updN_ne {h : Nat → Nat} {i x j : Nat} (e : j ≠ i) : updN h i x j = h j := by unfold updN; rw [if_neg e]
theorem WR.cell {w : World} {b n : Nat} {h : Nat → Nat} (hW : WR w b n h) {j : Nat} (hj : j < n) : w.cell? ⟨b, j, none⟩ = some (.int .u64 (h j : Int)) := by
  rw [Cl.cell hW j]
  simp [wcs, hj]
theorem WR.set {w : World} {b n : Nat} {h : Nat → Nat} (hW : WR w b n h) (i x : Nat) : WR (w.setCell ⟨b, i, none⟩ (.int .u64 (x : Int))) b n (updN h i x) := by
  have h1 : (w.setCell ⟨b, i, none⟩ (.int .u64 (x : Int))).heap[b]? = some (.cells ((wcs n h).setIfInBounds i (.int .u64 (x : Int))) 23 (0, 0)) := heap_setCell_same w b i _ _ _ hW
  show (w.setCell ⟨b, i, none⟩ (.int .u64 (x : Int))).heap[b]? = _
  rw [h1]
  congr 2
  apply Array.ext'
  apply List.ext_getElem?
  intro j
  unfold wcs
  by_cases hj : j < n
  · by_cases e : j = i
    · subst e
      simp [updN, hj]
    · simp [updN, hj, e, Ne.symm e]
  · simp [hj]
theorem setCell_kp (w : World) (b i : Nat) (v : Value) : KpP b w (w.setCell ⟨b, i, none⟩ v) := ⟨rfl, rfl, rfl, by simp [World.setCell], fun k _ hk => Below.heap_setCell _ _ _ _ hk⟩
theorem run_stU {w : World} {b n : Nat} {h : Nat → Nat} (hW : WR w b n h) {i : Nat} (hi : i < n) (x : Nat) : (Instr.storeAt 23 (.pointer (some ⟨b, i, none⟩)) (.int .u64 (x : Int))).run Tryd.prog w = .ok () (w.setCell ⟨b, i, none⟩ (.int .u64 (x : Int))) := by
  have hc := hW.cell hi
  have hf := Cl.fr hW i
  go_simp
theorem wpList_stU {ops : Array Oper} {rest : List Oper} {o : Oper} {a : Act} {Q : Exit → Act → World → Prop} {w : World} (hg : o.guard = none) (hd : o.dst = none) (x y : Operand) (hop : o.op = Op.store 23 x y) (b i : Nat) (hx : a.eval x = .pointer (some ⟨b, i, none⟩)) (v : Nat) (hy : a.eval y = .int .u64 (v : Int)) {n : Nat} {h : Nat → Nat} (hW : WR w b n h) (hi : i < n)
    (hK : ∀ w', WR w' b n (updN h i v) → KpP b w w' → wpList Tryd.prog ops Q rest a w') : wpList Tryd.prog ops Q (o :: rest) a w := by
  refine wpList_plain hg fun K' hK' => ?_
  have hrun := run_stU hW hi v
  unfold Oper.wp
  simp [execOp, hop, hx, hy, hrun, Result.andThen]
  rw [Oper.upon_skip, hd]
  exact hK' _ _ (hK _ (hW.set i v) (setCell_kp w b i _))
def wtOf (n : Nd) (f : Nat → Nat) : Nat := if n.k = 1 ∨ n.k = 2 then 1 else min 4611686018427387904 (f n.l.toNat + f n.r.toNat + (if n.k = 3 then 2 else 1))
def Wtp (t : List Nd) (f : Nat → Nat) : Prop := ∀ j : Nat, j < t.length → f j = wtOf (nodeOf t (j : Int)) f
theorem wtOf_cong {t : List Nd} (hO : Fm.Ok t) {j : Nat} (hj : j < t.length) {f f' : Nat → Nat} (h : ∀ k, k < j → f k = f' k) : wtOf (nodeOf t (j : Int)) f = wtOf (nodeOf t (j : Int)) f' := by
  rw [nodeOf_nat hj]
  unfold wtOf
  by_cases h2 : t[j].k = 1 ∨ t[j].k = 2
  · rw [if_pos h2, if_pos h2]
  · rw [if_neg h2, if_neg h2]
    have h3 : t[j].k = 3 ∨ t[j].k = 4 ∨ t[j].k = 5 := by
      rcases Fm.ok_kind hO hj with e | e | e
      · exact absurd (Or.inl e) h2
      · exact absurd (Or.inr e) h2
      · simp only [Fm.jn, Bool.or_eq_true, beq_iff_eq] at e
        omega
    obtain ⟨x, y, ex, ey, lx, ly⟩ := kids hO hj h3
    rw [ex, ey, Int.toNat_natCast, Int.toNat_natCast, h x lx, h y ly]
theorem wt_ex {t : List Nd} (hO : Fm.Ok t) : ∃ f, Wtp t f := by
  have key : ∀ k, k ≤ t.length → ∃ f : Nat → Nat, ∀ j : Nat, j < k → f j = wtOf (nodeOf t (j : Int)) f := fun k => by
    induction k with
    | zero => exact fun _ => ⟨fun _ => 0, fun j h => by omega⟩
    | succ k ih =>
      intro hk
      obtain ⟨f, hf⟩ := ih (by omega)
      refine ⟨updN f k (wtOf (nodeOf t (k : Int)) f), fun j hj => ?_⟩
      rw [wtOf_cong hO (f' := f) (show j < t.length by omega) (fun i hi => updN_ne (by omega))]
      by_cases e : j = k
      · subst e
        rw [updN_at]
      · rw [updN_ne e]
        exact hf j (by omega)
  obtain ⟨f, hf⟩ := key t.length (Nat.le_refl _)
  exact ⟨f, hf⟩
theorem Wtp.le {t : List Nd} {f : Nat → Nat} (h : Wtp t f) {j : Nat} (hj : j < t.length) : f j ≤ 4611686018427387904 := by
  rw [h j hj]
  unfold wtOf
  split
  · omega
  · exact Nat.min_le_left _ _
theorem Wtp.ext {t t1 : List Nd} {f : Nat → Nat} (h : Wtp t1 f) (e : Ext t t1) : Wtp t f := fun j hj => by
  have := h j (Nat.lt_of_lt_of_le hj e.len)
  rwa [e.nod j hj] at this
theorem Wtp.join {t : List Nd} {f : Nat → Nat} (h : Wtp t f) {j x y : Nat} {k : Int} (hk : k = 3 ∨ k = 4 ∨ k = 5) (hj : j < t.length) (hn : nodeOf t (j : Int) = joinN k x y) : f j = min 4611686018427387904 (f x + f y + (if k = 3 then 2 else 1)) := by
  have h1 := h j hj
  rw [hn] at h1
  unfold wtOf joinN at h1
  rw [if_neg (by simp only; omega)] at h1
  simpa using h1
def lessL : List Nat → List Nat → Bool
  | [], b => !b.isEmpty
  | _ :: _, [] => false
  | x :: a, y :: b => if x = y then lessL a b else decide (x < y)
theorem less_count : ∀ {a b : List Nat} {m : Nat}, a.Pairwise (fun x y => y ≤ x) → b.Pairwise (fun x y => y ≤ x) → (∀ v, m ≤ v → a.count v ≤ b.count v) → a.count m < b.count m → lessL a b = true
  | [], [], m, _, _, _, h2 => by simp at h2
  | [], y :: b, m, _, _, _, _ => rfl
  | x :: a, [], m, _, _, _, h2 => by simp at h2
  | x :: a, y :: b, m, ha, hb, h1, h2 => by
    unfold lessL
    rw [List.pairwise_cons] at ha hb
    by_cases e : x = y
    · subst e
      rw [if_pos rfl]
      refine less_count ha.2 hb.2 (m := m) (fun v hv => ?_) ?_
      · have := h1 v hv
        rw [List.count_cons, List.count_cons] at this
        omega
      · rw [List.count_cons, List.count_cons] at h2
        omega
    · rw [if_neg e]
      apply decide_eq_true
      apply Classical.byContradiction
      intro hge
      have hgt : y < x := by omega
      have hm : m ∈ y :: b := List.count_pos_iff.1 (by omega)
      have hmy : m ≤ y := by
        rcases List.mem_cons.1 hm with e | e
        · omega
        · exact hb.1 m e
      have h3 := h1 x (by omega)
      have h4 : 0 < (x :: a).count x := by rw [List.count_cons]; simp
      have hx : x ∈ y :: b := List.count_pos_iff.1 (by omega)
      rcases List.mem_cons.1 hx with e2 | e2
      · exact e e2
      · have := hb.1 x e2
        omega
theorem countP_one {p p' : Nat → Bool} {n : Nat} : ∀ {l : List Nat}, l.Nodup → (∀ m, m ≠ n → p' m = p m) → l.countP p' + (if n ∈ l ∧ p n = true then 1 else 0) = l.countP p + (if n ∈ l ∧ p' n = true then 1 else 0)
  | [], _, _ => by simp
  | a :: l, hn, h => by
    rw [List.nodup_cons] at hn
    have ih := countP_one hn.2 h
    rw [List.countP_cons, List.countP_cons]
    by_cases e : a = n
    · subst e
      have hnl : ¬ a ∈ l := hn.1
      simp only [hnl, false_and, if_false, Nat.add_zero] at ih
      simp only [List.mem_cons, true_or, true_and]
      omega
    · rw [h a e]
      have e2 : (n ∈ a :: l) ↔ n ∈ l := by
        rw [List.mem_cons]
        exact ⟨fun h => h.resolve_left (fun e' => e e'.symm), Or.inr⟩
      simp only [e2]
      omega
def cnt (f : Nat → Nat) (r : List Nat) (v : Nat) : Nat := ((Bt.Bs.nums r).map f).count v
theorem cnt_is (f : Nat → Nat) (r : List Nat) (v : Nat) : cnt f r v = (List.range 1024).countP fun n => Bt.Bs.has r n && (f n == v) := by
  unfold cnt Bt.Bs.nums
  rw [List.count, List.countP_map, List.countP_filter]
  refine List.countP_congr fun n _ => ?_
  simp [and_comm]
theorem cnt_drop {f : Nat → Nat} {r : List Nat} (hr : Ok r) {n : Nat} (hn : n < 1024) (hm : Bt.Bs.has r n = true) (v : Nat) : cnt f (Bt.Bs.drop r n) v + (if f n = v then 1 else 0) = cnt f r v := by
  rw [cnt_is, cnt_is]
  have h := countP_one (p := fun m => Bt.Bs.has r m && (f m == v)) (p' := fun m => Bt.Bs.has (Bt.Bs.drop r n) m && (f m == v)) (n := n) (l := List.range 1024) List.nodup_range (fun m e => by
    rw [Bt.Bs.has_drop hr hn]
    simp [e])
  simp only [List.mem_range, hn, true_and, hm, Bool.true_and, beq_iff_eq] at h
  rw [Bt.Bs.has_drop hr hn] at h
  simpa using h
theorem cnt_put {f : Nat → Nat} {r : List Nat} (hr : Ok r) {n : Nat} (hn : n < 1024) {v : Nat} (hv : f n ≠ v) : cnt f (Bt.Bs.put r n) v = cnt f r v := by
  rw [cnt_is, cnt_is]
  have h := countP_one (p := fun m => Bt.Bs.has r m && (f m == v)) (p' := fun m => Bt.Bs.has (Bt.Bs.put r n) m && (f m == v)) (n := n) (l := List.range 1024) List.nodup_range (fun m e => by
    rw [Bt.Bs.has_put hr hn]
    simp [e])
  have h2 : (f n == v) = false := by simpa using hv
  simp only [h2, Bool.and_false, Bool.false_eq_true, and_false, if_false, Nat.add_zero] at h
  exact h
def cnS (f : Nat → Nat) (s : SQ) (v : Nat) : Nat := cnt f s.1 v + (if f s.2.toNat = v then 1 else 0)
def idsW (f : Nat → Nat) (s : SQ) : List Nat := (Bt.Bs.nums s.1).map f ++ [f s.2.toNat]
theorem cnS_is (f : Nat → Nat) (s : SQ) (v : Nat) : (idsW f s).count v = cnS f s v := by
  unfold idsW cnS cnt
  rw [List.count_append]
  congr 1
  rw [List.count_cons, List.count_nil, Nat.zero_add]
  by_cases h : f s.2.toNat = v
  · simp [h]
  · simp [h]
section
variable {t : List Nd} {r : List Nat} {g : Int} {i : Nat} {ru : Int} {l : List SQ} {t' : List Nd} {f : Nat → Nat}
theorem pc_in (hr : Ok r) (hi : i < 1024) (h : PC t r g i ru l t') : 0 < cnS f (r, g) (f i) := by
  have hL : Bt.Bs.has r i = true → 0 < cnS f (r, g) (f i) := fun hm => by
    have := cnt_drop (f := f) hr hi hm (f i)
    rw [if_pos rfl] at this
    unfold cnS
    simp only
    omega
  have hG : g = (i : Int) → 0 < cnS f (r, g) (f i) := fun hg => by
    subst hg
    unfold cnS
    simp only [Int.toNat_natCast, if_pos]
    omega
  cases h with
  | bot hk hm => exact hL hm
  | same hg hm => exact hL hm
  | andL x y hn hx hy hm => exact hL hm
  | atom x y hn hx hy hm ha => exact hL hm
  | nix x y hn hx hy hm hk => exact hL hm
  | andI x y c d hn hx hy hm => exact hL hm
  | orI x y c d hn hx hy hm => exact hL hm
  | impR x y hn hx hy hg => exact hG hg
  | andR x y hn hx hy hg => exact hG hg
  | orL x y hn hx hy hm => exact hL hm
  | orR1 x y hn hx hy hg => exact hG hg
  | orR2 x y hn hx hy hg => exact hG hg
  | impI x y c d hn hx hy hm => exact hL hm
def Fal (f : Nat → Nat) (m : Nat) (s' s : SQ) : Prop := (∀ v, m ≤ v → cnS f s' v ≤ cnS f s v) ∧ cnS f s' m < cnS f s m
theorem fal_left (hr : Ok r) (hi : i < 1024) (hm : Bt.Bs.has r i = true) {r' : List Nat} (h : ∀ v, f i ≤ v → cnt f r' v = cnt f (Bt.Bs.drop r i) v) {g' : Int} (hg : g' = g ∨ f g'.toNat < f i) : Fal f (f i) (r', g') (r, g) := by
  have key : ∀ v, f i ≤ v → cnS f (r', g') v + (if f i = v then 1 else 0) ≤ cnS f (r, g) v := fun v hv => by
    have h1 := cnt_drop (f := f) hr hi hm v
    have h2 := h v hv
    unfold cnS
    simp only
    rcases hg with rfl | hg
    · omega
    · rw [if_neg (show ¬ f g'.toNat = v by omega)]
      omega
  refine ⟨fun v hv => by have := key v hv; omega, ?_⟩
  have := key (f i) (Nat.le_refl _)
  rw [if_pos rfl] at this
  omega
theorem fal_goal (hg : g = (i : Int)) {r' : List Nat} (h : ∀ v, f i ≤ v → cnt f r' v = cnt f r v) {g' : Int} (hg' : f g'.toNat < f i) : Fal f (f i) (r', g') (r, g) := by
  subst hg
  have key : ∀ v, f i ≤ v → cnS f (r', g') v + (if f i = v then 1 else 0) ≤ cnS f (r, (i : Int)) v := fun v hv => by
    have h2 := h v hv
    unfold cnS
    simp only [Int.toNat_natCast]
    rw [if_neg (show ¬ f g'.toNat = v by omega)]
    omega
  refine ⟨fun v hv => by have := key v hv; omega, ?_⟩
  have := key (f i) (Nat.le_refl _)
  rw [if_pos rfl] at this
  omega
theorem pc_falls (hO' : Fm.Ok t') (hr : Ok r) (hi : i < t.length) (h : PC t r g i ru l t') (hW : Wtp t' f) (hb : f i < 1152921504606846976) {s : SQ} (hs : s ∈ l) : Fal f (f i) s (r, g) := by
  have hlen := hO'.len
  have hex := pc_ext h
  have hxl := hex.len
  have hW0 := hW.ext hex
  have hi2 : i < 1024 := by omega
  have hd := drop_ok hr hi2
  have tn : ∀ n : Nat, (n : Int).toNat = n := fun n => Int.toNat_natCast n
  cases h with
  | bot hk hm => cases hs
  | same hg hm => cases hs
  | andL x y hn hx hy hm =>
    obtain rfl := List.mem_singleton.1 hs
    have e := hW0.join (Or.inl rfl) hi hn
    rw [if_pos rfl] at e
    exact fal_left hr hi2 hm (fun v hv => by rw [cnt_put (Bt.Bs.put_ok hd _) (by omega) (by omega), cnt_put hd (by omega) (by omega)]) (Or.inl rfl)
  | atom x y hn hx hy hm ha =>
    obtain rfl := List.mem_singleton.1 hs
    have e := hW0.join (Or.inr (Or.inr rfl)) hi hn
    rw [if_neg (by decide)] at e
    exact fal_left hr hi2 hm (fun v hv => by rw [cnt_put hd (by omega) (by omega)]) (Or.inl rfl)
  | nix x y hn hx hy hm hk =>
    obtain rfl := List.mem_singleton.1 hs
    exact fal_left hr hi2 hm (fun v hv => rfl) (Or.inl rfl)
  | andI x y c d hn hx hy hm hn2 hc hdd f1 f2 t1 t2 e1 e2 l1 l2 n1 n2 =>
    obtain rfl := List.mem_singleton.1 hs
    have a1 := hW0.join (Or.inr (Or.inr rfl)) hi hn
    have a2 := hW0.join (Or.inl rfl) (show x < t.length by omega) hn2
    have a3 := (hW.ext e2).join (Or.inr (Or.inr rfl)) l1 n1
    have a4 := hW.join (Or.inr (Or.inr rfl)) l2 n2
    rw [if_neg (by decide)] at a1 a3 a4
    rw [if_pos rfl] at a2
    exact fal_left hr hi2 hm (fun v hv => by rw [cnt_put hd (by omega) (by omega)]) (Or.inl rfl)
  | orI x y c d hn hx hy hm hn2 hc hdd f1 f2 t1 t2 e1 e2 l1 l2 n1 n2 =>
    obtain rfl := List.mem_singleton.1 hs
    have a1 := hW0.join (Or.inr (Or.inr rfl)) hi hn
    have a2 := hW0.join (Or.inr (Or.inl rfl)) (show x < t.length by omega) hn2
    have a3 := (hW.ext e2).join (Or.inr (Or.inr rfl)) l1 n1
    have a4 := hW.join (Or.inr (Or.inr rfl)) l2 n2
    rw [if_neg (by decide)] at a1 a2 a3 a4
    have := e2.len
    exact fal_left hr hi2 hm (fun v hv => by rw [cnt_put (Bt.Bs.put_ok hd _) (by omega) (by omega), cnt_put hd (by omega) (by omega)]) (Or.inl rfl)
  | impR x y hn hx hy hg =>
    obtain rfl := List.mem_singleton.1 hs
    have e := hW0.join (Or.inr (Or.inr rfl)) hi hn
    rw [if_neg (by decide)] at e
    exact fal_goal hg (fun v hv => cnt_put hr (by omega) (by omega)) (by rw [tn]; omega)
  | andR x y hn hx hy hg =>
    have e := hW0.join (Or.inl rfl) hi hn
    rw [if_pos rfl] at e
    rcases List.mem_cons.1 hs with rfl | hs
    · exact fal_goal hg (fun v hv => rfl) (by rw [tn]; omega)
    · obtain rfl := List.mem_singleton.1 hs
      exact fal_goal hg (fun v hv => rfl) (by rw [tn]; omega)
  | orL x y hn hx hy hm =>
    have e := hW0.join (Or.inr (Or.inl rfl)) hi hn
    rw [if_neg (by decide)] at e
    rcases List.mem_cons.1 hs with rfl | hs
    · exact fal_left hr hi2 hm (fun v hv => by rw [cnt_put hd (by omega) (by omega)]) (Or.inl rfl)
    · obtain rfl := List.mem_singleton.1 hs
      exact fal_left hr hi2 hm (fun v hv => by rw [cnt_put hd (by omega) (by omega)]) (Or.inl rfl)
  | orR1 x y hn hx hy hg =>
    obtain rfl := List.mem_singleton.1 hs
    have e := hW0.join (Or.inr (Or.inl rfl)) hi hn
    rw [if_neg (by decide)] at e
    exact fal_goal hg (fun v hv => rfl) (by rw [tn]; omega)
  | orR2 x y hn hx hy hg =>
    obtain rfl := List.mem_singleton.1 hs
    have e := hW0.join (Or.inr (Or.inl rfl)) hi hn
    rw [if_neg (by decide)] at e
    exact fal_goal hg (fun v hv => rfl) (by rw [tn]; omega)
  | impI x y c d hn hx hy hm hn2 hc hdd f1 t1 e1 l1 n1 =>
    have a1 := hW0.join (Or.inr (Or.inr rfl)) hi hn
    have a2 := hW0.join (Or.inr (Or.inr rfl)) (show x < t.length by omega) hn2
    have a3 := hW.join (Or.inr (Or.inr rfl)) l1 n1
    rw [if_neg (by decide)] at a1 a2 a3
    rcases List.mem_cons.1 hs with rfl | hs
    · exact fal_left hr hi2 hm (fun v hv => by rw [cnt_put hd (by omega) (by omega)]) (Or.inr (by rw [tn]; omega))
    · obtain rfl := List.mem_singleton.1 hs
      exact fal_left hr hi2 hm (fun v hv => by rw [cnt_put hd (by omega) (by omega)]) (Or.inl rfl)
end
end Go.Proofs.YtpddfooeaecekaaDoor
