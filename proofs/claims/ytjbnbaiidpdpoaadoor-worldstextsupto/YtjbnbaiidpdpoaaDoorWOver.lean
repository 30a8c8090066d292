/-
  over, height: of any order that a function value tells. No condition.
-/
import Derived.Test.YtjbnbaiidpdpoaaDoorWReck
namespace Go.Proofs.YtjbnbaiidpdpoaaDoor.Wm
open Go.RowKit Go.Maps
open Wd (Md Mid Rc Ed Sub upd vl allW names)
set_option linter.unusedSimpArgs false

def ovP (M : Nat → Nat → Bool) (a : Nat) (x : Int) : Bool := decide (x ≠ (a : Int)) && M a x.toNat
theorem cf_over1 : Cf 75 := fun _ _ => by kernel_rfl
set_option maxRecDepth 100000 in
set_option maxHeartbeats 1000000 in
theorem over1_any (w : World) {n a : Nat} {L : Nat} {fv : Value} {M : Nat → Nat → Bool} {b1 b2 : Nat} (hO : Ord w L n fv M) (_hL : L ≤ w.heap.size) (ha : a < n) (h1 : Cl w b1 #[.int .i64 (a : Int)] 3) (h2 : Cl w b2 #[fv] 66) (x : Nat) (hx : x < n) (_hn : n ≤ 512) :
    Calls Tryd.prog 75 #[.int .i64 (x : Int), .pointer (some ⟨b1, 0, none⟩), .pointer (some ⟨b2, 0, none⟩)] w fun e w' => e = .returned (.bool (ovP M a (x : Int))) ∧ Below w.heap.size w w' := by
  obtain ⟨f, cs, rfl, hcf, hc⟩ := hO
  have K := show Hid _ from hc w a x (Below.refl _ _) ha hx
  have HCF := show Hid (Cf f) from hcf
  have c1 : w.cell? ⟨b1, 0, none⟩ = some (.int .i64 (a : Int)) := h1.cell 0
  have c2 : w.cell? ⟨b2, 0, none⟩ = some (.func (.func f) #[] cs.toArray) := h2.cell 0
  have HP := show Hid (ovP M a (x : Int) = (decide (x ≠ a) && M a x)) from by
    show ovP M a (x : Int) = (decide (x ≠ a) && M a x)
    unfold ovP
    rw [Int.toNat_natCast]
    congr 1
    exact decide_eq_decide.2 (by omega)
  generalize ovP M a (x : Int) = ans at *
  clear hc hcf h1 h2
  by_cases e : x = a
  · have h1 : ((x : Int) != (a : Int)) = false := by simp [e]
    have HE := show Hid (ans = false) from HP.out.trans (by simp [e])
    clear e
    go_enter Tryd.func75, Tryd.ntmps75
    go_wp2_with fail
    go_ret
    exact ⟨ret_bool HE.out.symm, Below.refl _ _⟩
  · have h1 : ((x : Int) != (a : Int)) = true := by simp; omega
    have HE := show Hid (ans = M a x) from HP.out.trans (by simp [e])
    clear e
    go_enter Tryd.func75, Tryd.ntmps75
    go_wp2_with (refine wpList_callV rfl f _ [.tmp 10, .tmp 11] _ rfl [.int .i64 (a : Int), .int .i64 (x : Int)] cs rfl rfl HCF.out ?_)
    refine Calls.mono K.out ?_
    rintro e w2 ⟨rfl, hb⟩
    refine ⟨_, rfl, ?_⟩
    have HB := show Hid (Below w.heap.size w w2) from hb
    clear K hb
    go_wp2_with fail
    go_ret
    exact ⟨ret_bool HE.out.symm, HB.out⟩
set_option maxRecDepth 100000 in
set_option maxHeartbeats 1000000 in
theorem over_any (w : World) {n a : Nat} {L : Nat} {fv : Value} {M : Nat → Nat → Bool} (hO : Ord w L n fv M) (hL : L ≤ w.heap.size) (ha : a < n) (hn : n ≤ 512) :
    Calls Tryd.prog 52 #[.int .i64 (a : Int), .int .i64 (n : Int), fv] w fun e w' => ∃ v, e = .returned v ∧ OwnI w.heap.size w' v (numsTo (ovP M a) n) ∧ Below w.heap.size w w' := by
  have K := show Hid (∀ W b1 b2, Below w.heap.size w W → Cl W b1 #[.int .i64 (a : Int)] 3 → Cl W b2 #[fv] 66 → Calls Tryd.prog 49 #[.int .i64 (n : Int), .func (.func 75) #[] #[.pointer (some ⟨b1, 0, none⟩), .pointer (some ⟨b2, 0, none⟩)]] W fun e w' => ∃ v, e = .returned v ∧ OwnI W.heap.size w' v (numsTo (ovP M a) n) ∧ Below W.heap.size W w') from fun W b1 b2 hW h1 h2 =>
    chosen_any W (L := W.heap.size) (D := fun x => 0 ≤ x ∧ x < (n : Int)) ⟨_, [.pointer (some ⟨b1, 0, none⟩), .pointer (some ⟨b2, 0, none⟩)], rfl, cf_over1, fun W' x hW' hx => by
      obtain ⟨k, rfl⟩ := Int.eq_ofNat_of_zero_le hx.1
      exact over1_any W' (L := W'.heap.size) (hO.later (hW.mono hL |>.trans (hW'.mono (by have := hW.size; omega))) (by have := hW.size; have := hW'.size; omega)) (Nat.le_refl _) ha (h1.later hW') (h2.later hW') k (by omega) hn⟩ (fun k hk => ⟨by omega, by omega⟩) (Nat.le_refl _) hn
  obtain ⟨f, cs, rfl, -, -⟩ := hO
  go_enter Tryd.func52, Tryd.ntmps52
  go_wp2_with (refine wpList_box1 3 _ rfl _ rfl rfl rfl ?_)
  intro w1 b1 hN1
  have H1 := show Hid (Below w.heap.size w w1 ∧ Cl w1 b1 #[.int .i64 (a : Int)] 3) from ⟨hN1.bel, hN1.blk⟩
  clear hN1
  go_wp2_with (refine wpList_box1 66 _ rfl _ rfl rfl rfl ?_)
  intro w2 b2 hN2
  have K2 := show Hid _ from K.out w2 b1 b2 (H1.out.1.trans (hN2.bel.mono H1.out.1.size)) (H1.out.2.later hN2.bel) hN2.blk
  have H2 := show Hid (Below w.heap.size w w2) from H1.out.1.trans (hN2.bel.mono H1.out.1.size)
  clear hN2 H1 K
  go_wp2_with fail
  refine Calls.mono K2.out ?_
  rintro e w3 ⟨v, rfl, ho, hb⟩
  have H3 := show Hid (OwnI w.heap.size w3 v (numsTo (ovP M a) n) ∧ Below w.heap.size w w3) from ⟨ho.base H2.out.size, H2.out.trans (hb.mono H2.out.size)⟩
  clear ho hb K2
  go_wp2_with fail
  go_ret
  exact ⟨_, rfl, H3.out⟩
/-! Heights. -/
def mxL (h : Nat → Nat) (l : List Nat) : Nat := l.foldl (fun m v => max m (h v)) 0
theorem mxL_snoc (h : Nat → Nat) (l : List Nat) (v : Nat) : mxL h (l ++ [v]) = max (mxL h l) (h v) := by simp [mxL]
theorem fold_ge (h : Nat → Nat) : ∀ (l : List Nat) (m : Nat), m ≤ l.foldl (fun m v => max m (h v)) m
  | [], _ => Nat.le_refl _
  | x :: r, m => Nat.le_trans (Nat.le_max_left m (h x)) (fold_ge h r _)
theorem fold_in (h : Nat → Nat) : ∀ (l : List Nat) (m v : Nat), v ∈ l → h v ≤ l.foldl (fun m v => max m (h v)) m
  | x :: r, m, v, hv => by
    rcases List.mem_cons.1 hv with rfl | hv
    · exact Nat.le_trans (Nat.le_max_right m (h v)) (fold_ge h r _)
    · exact fold_in h r _ v hv
theorem fold_le (h : Nat → Nat) (B : Nat) : ∀ (l : List Nat) (m : Nat), m ≤ B → (∀ v ∈ l, h v ≤ B) → l.foldl (fun m v => max m (h v)) m ≤ B
  | [], _, hm, _ => hm
  | x :: r, m, hm, hv => fold_le h B r _ (Nat.max_le.2 ⟨hm, hv x (by simp)⟩) fun v hv' => hv v (by simp [hv'])
theorem mxL_in {h : Nat → Nat} {l : List Nat} {v : Nat} (hv : v ∈ l) : h v ≤ mxL h l := fold_in h l 0 v hv
structure Hg (M : Nat → Nat → Bool) (n : Nat) (h : Nat → Nat) : Prop where
  eq : ∀ a, a < n → h a = mxL h (numsTo (ovP M a) n) + 1
  le : ∀ a, a < n → h a ≤ 512
structure Hs (w0 w : World) (L n : Nat) (fv : Value) (M : Nat → Nat → Bool) (h : Nat → Nat) (b5 b2 b3 b6 G : Nat) (kn : Nat → Nat) : Prop where
  k5 : Cl w b5 #[.slice (some ⟨G, 0, none⟩) n n] 42
  k2 : Cl w b2 #[.int .i64 (n : Int)] 3
  k3 : Cl w b3 #[fv] 66
  k6 : Cl w b6 #[.func (.func 74) #[] #[.pointer (some ⟨b5, 0, none⟩), .pointer (some ⟨b2, 0, none⟩), .pointer (some ⟨b3, 0, none⟩), .pointer (some ⟨b6, 0, none⟩)]] 117
  row : Rw w G n 3 (fun k => .int .i64 (kn k : Int))
  kn : ∀ v, v < n → kn v = 0 ∨ kn v = h v
  bel : Below L w0 w
  lG : L ≤ G
  n5 : b5 ≠ G
  n2 : b2 ≠ G
  n3 : b3 ≠ G
  n6 : b6 ≠ G
  hL : L ≤ w.heap.size
section
variable {w0 w w' : World} {L n : Nat} {fv : Value} {M : Nat → Nat → Bool} {h : Nat → Nat} {b5 b2 b3 b6 G : Nat} {kn : Nat → Nat}
theorem Hs.later (H : Hs w0 w L n fv M h b5 b2 b3 b6 G kn) (hb : Below w.heap.size w w') : Hs w0 w' L n fv M h b5 b2 b3 b6 G kn :=
  ⟨H.k5.later hb, H.k2.later hb, H.k3.later hb, H.k6.later hb, H.row.below hb H.row.lt, H.kn, H.bel.trans (hb.mono H.hL), H.lG, H.n5, H.n2, H.n3, H.n6, Nat.le_trans H.hL hb.size⟩
theorem Hs.set (H : Hs w0 w L n fv M h b5 b2 b3 b6 G kn) (x : Nat) : Hs w0 (w.setCell ⟨G, x, none⟩ (.int .i64 (h x : Int))) L n fv M h b5 b2 b3 b6 G (upd kn x (h x)) := by
  have hk : Kp (fun k => k = G) w (w.setCell ⟨G, x, none⟩ (.int .i64 (h x : Int))) := (Kp.refl (fun k => k = G) w).set (p := G) rfl x _
  refine ⟨H.k5.kp hk H.n5, H.k2.kp hk H.n2, H.k3.kp hk H.n3, H.k6.kp hk H.n6, (H.row.set x _).same fun j _ => ?_, fun v hv => ?_, H.bel.trans (hk.below H.hL fun k e => by have := H.lG; subst e; exact this), H.lG, H.n5, H.n2, H.n3, H.n6, Nat.le_trans H.hL hk.size⟩
  · unfold upd; split <;> rfl
  · by_cases e : v = x
    · right; rw [e, Wd.upd_same]
    · rw [Wd.upd_other _ _ _ e]; exact H.kn v hv
end
theorem cf_h1 : Cf 74 := fun _ _ => by kernel_rfl
def HC (w0 : World) (L n : Nat) (fv : Value) (M : Nat → Nat → Bool) (h : Nat → Nat) (b5 b2 b3 b6 G N : Nat) : Prop :=
  ∀ (w : World) (kn : Nat → Nat) (x : Nat), Hs w0 w L n fv M h b5 b2 b3 b6 G kn → x < n → h x ≤ N →
    Calls Tryd.prog 74 #[.int .i64 (x : Int), .pointer (some ⟨b5, 0, none⟩), .pointer (some ⟨b2, 0, none⟩), .pointer (some ⟨b3, 0, none⟩), .pointer (some ⟨b6, 0, none⟩)] w fun e w' => e = .returned (.int .i64 (h x : Int)) ∧ Kp (fun k => k = G) w w' ∧ ∃ kn', Hs w0 w' L n fv M h b5 b2 b3 b6 G kn'
set_option maxRecDepth 100000 in
set_option maxHeartbeats 4000000 in
theorem height1_step {w0 : World} {L n : Nat} {fv : Value} {M : Nat → Nat → Bool} {h : Nat → Nat} {b5 b2 b3 b6 G N : Nat} (hO : Ord w0 L n fv M) (hg : Hg M n h) (hn : n ≤ 512) (IH : HC w0 L n fv M h b5 b2 b3 b6 G N) : HC w0 L n fv M h b5 b2 b3 b6 G (N + 1) := by
  intro w kn x H hx hN
  have c5 : w.cell? ⟨b5, 0, none⟩ = some (.slice (some ⟨G, 0, none⟩) n n) := H.k5.cell 0
  have cg : w.cell? ⟨G, x, none⟩ = some (.int .i64 (kn x : Int)) := H.row.cell hx
  have hxi : (x : Int) < (n : Int) := by omega
  have hle := hg.le x hx
  have h1 : 1 ≤ h x := by rw [hg.eq x hx]; omega
  by_cases hk : kn x = 0
  · have e0 : ((kn x : Int) == 0) = true := by simp [hk]
    have KO := show Hid _ from over_any w (hO.later H.bel (Nat.le_refl L)) H.hL hx hn
    have c2 : w.cell? ⟨b2, 0, none⟩ = some (.int .i64 (n : Int)) := H.k2.cell 0
    obtain ⟨f, cs, rfl, -, -⟩ := hO
    have c3 : w.cell? ⟨b3, 0, none⟩ = some (.func (.func f) #[] cs.toArray) := H.k3.cell 0
    have HL := show Hid (∀ v ∈ numsTo (ovP M x) n, v < n ∧ h v ≤ N) from fun v hv => by
      have hv1 : v < n := by
        have := (List.mem_filter.1 hv).1
        exact List.mem_range.1 this
      exact ⟨hv1, by have := mxL_in (h := h) hv; have := hg.eq x hx; omega⟩
    have HLE := show Hid (∀ j, mxL h ((numsTo (ovP M x) n).take j) ≤ 511) from fun j => by
      refine fold_le h 511 _ 0 (by omega) fun v hv => ?_
      have := mxL_in (h := h) (List.mem_of_mem_take hv)
      have := hg.eq x hx
      omega
    have HEQ := show Hid (h x = mxL h (numsTo (ovP M x) n) + 1) from hg.eq x hx
    have hln : (numsTo (ovP M x) n).length ≤ 512 := Nat.le_trans (numsTo_len _ _) hn
    have HH := show Hid _ from H
    have HIH := show Hid _ from IH
    clear hk H IH hg
    generalize numsTo (ovP M x) n = l at *
    go_enter Tryd.func74, Tryd.ntmps74
    go_wp2_with fail
    refine Calls.mono KO.out ?_
    rintro e w2 ⟨v, rfl, ho, hb⟩
    obtain ⟨pv, cv, rfl⟩ := ho.slice
    have H2 := show Hid (OwnI w.heap.size w2 (.slice pv l.length cv) l ∧ Kp (fun k => k = G) w w2 ∧ ∃ kn', Hs w0 w2 L n (.func (.func f) #[] cs.toArray) M h b5 b2 b3 b6 G kn') from ⟨ho, Kp.of_below hb, _, HH.out.later hb⟩
    have HGW := show Hid (G < w.heap.size) from HH.out.row.lt
    clear KO ho hb HH c5 cg c2 c3 e0
    go_wp2_with fail
    go_loopw [7, 9, 20] (fun t _ i wr => ∃ j : Nat, j ≤ l.length ∧ i = .int .i64 (j : Int) ∧ t = .int .i64 (mxL h (l.take j) : Int) ∧ Hid (OwnI w.heap.size wr (.slice pv l.length cv) l ∧ Kp (fun k => k = G) w wr ∧ ∃ kn', Hs w0 wr L n (.func (.func f) #[] cs.toArray) M h b5 b2 b3 b6 G kn')) (fun _ _ i _ => l.length - (intOf i).toNat)
    case atStart => exact ⟨0, Nat.zero_le _, rfl, rfl, H2.out⟩
    case round =>
      obtain ⟨j, hj, rfl, rfl, H3⟩ := hrel
      clear H2
      by_cases hlt : j < l.length
      · obtain ⟨hv1, hv2⟩ := HL.out l[j] (List.getElem_mem hlt)
        obtain ⟨kn3, hs3⟩ := H3.out.2.2
        have K3 := show Hid _ from HIH.out wr kn3 l[j] hs3 hv1 hv2
        have c6 : wr.cell? ⟨b6, 0, none⟩ = some (.func (.func 74) #[] ([.pointer (some ⟨b5, 0, none⟩), .pointer (some ⟨b2, 0, none⟩), .pointer (some ⟨b3, 0, none⟩), .pointer (some ⟨b6, 0, none⟩)] : List Value).toArray) := hs3.k6.cell 0
        have hrow := (IsS.at H3.out.1.isI).2 (by rw [List.length_map]; omega)
        obtain ⟨bl, ol, hbl, rfl, hat⟩ := hrow
        obtain ⟨y, hy, hy2⟩ := hat j (by rw [List.length_map]; exact hlt)
        have cl : wr.cell? ⟨bl, ol + j, none⟩ = some (.int .i64 (l[j] : Int)) := by
          rw [hy]
          rw [List.getElem_map] at hy2
          rw [show y = _ from hy2]
        have HLT := show Hid (mxL h (l.take (j + 1)) = max (mxL h (l.take j)) (h l[j])) from by
          show mxL h (l.take (j + 1)) = max (mxL h (l.take j)) (h l[j])
          rw [List.take_succ_eq_append_getElem hlt, mxL_snoc]
        have hm1 := HLE.out j
        have hji : (j : Int) < (l.length : Int) := by omega
        have hvle := hv2
        clear hat hy hy2 hs3 hv2
        generalize l[j] = v at *
        go_wp2_with (refine wpList_callV rfl 74 _ [.tmp 26] _ rfl [.int .i64 (v : Int)] _ rfl rfl cf_h1 ?_)
        refine Calls.mono K3.out ?_
        rintro e w4 ⟨rfl, hk4, hs4⟩
        refine ⟨_, rfl, ?_⟩
        have H4 := show Hid (OwnI w.heap.size w4 (.slice (some ⟨bl, ol, none⟩) l.length cv) l ∧ Kp (fun k => k = G) w w4 ∧ ∃ kn', Hs w0 w4 L n (.func (.func f) #[] cs.toArray) M h b5 b2 b3 b6 G kn') from ⟨by
          have ho := H3.out.1
          refine ⟨ho.1, ?_⟩
          rcases ho.2 with h9 | ⟨g, cap, cur, hs, hgb, hh, r⟩
          · exact Or.inl h9
          · exact Or.inr ⟨g, cap, cur, hs, hgb, (hk4.block g (lt_of_block hh) (by have := HGW.out; omega)).trans hh, r⟩, H3.out.2.1.trans hk4 fun _ h => Or.inl h, hs4⟩
        clear hk4 hs4 K3 H3 c6 cl
        go_wp2_with fail
        go_roundw
        case rel => exact ⟨j + 1, by omega, val_int (by omega), by rw [HLT.out]; exact val_int (by split <;> omega), H4⟩
        case measure => (simp only [intOf]; omega)
      · obtain rfl : j = l.length := by omega
        obtain ⟨kn3, hs3⟩ := H3.out.2.2
        have HQ := show Hid (((mxL h (l.take l.length) : Nat) : Int) + 1 = (h x : Int)) from by
          show ((mxL h (l.take l.length) : Nat) : Int) + 1 = (h x : Int)
          rw [List.take_length, HEQ.out]; omega
        have hq5 : mxL h (l.take l.length) ≤ 511 := HLE.out _
        generalize mxL h (l.take l.length) = q at *
        have H5 := show Hid (Kp (fun k => k = G) w (wr.setCell ⟨G, x, none⟩ (.int .i64 ((q : Int) + 1))) ∧ ∃ kn', Hs w0 (wr.setCell ⟨G, x, none⟩ (.int .i64 ((q : Int) + 1))) L n (.func (.func f) #[] cs.toArray) M h b5 b2 b3 b6 G kn') from ⟨H3.out.2.1.set (p := G) rfl _ _, _, by rw [HQ.out]; exact hs3.set x⟩
        have d5 : wr.cell? ⟨b5, 0, none⟩ = some (.slice (some ⟨G, 0, none⟩) n n) := hs3.k5.cell 0
        have dg : wr.cell? ⟨G, x, none⟩ = some (.int .i64 (kn3 x : Int)) := hs3.row.cell hx
        have df : wr.frozen? ⟨G, x, none⟩ = false := hs3.row.fr x
        have d6 : (wr.setCell ⟨G, x, none⟩ (.int .i64 ((q : Int) + 1))).cell? ⟨b5, 0, none⟩ = some (.slice (some ⟨G, 0, none⟩) n n) := by
          obtain ⟨k5, h5⟩ := H5.out.2
          exact h5.k5.cell 0
        have d7 : (wr.setCell ⟨G, x, none⟩ (.int .i64 ((q : Int) + 1))).cell? ⟨G, x, none⟩ = some (.int .i64 ((q : Int) + 1)) := by
          have h9 := (hs3.row.set x (.int .i64 ((q : Int) + 1))).cell hx
          rwa [Wd.upd_same] at h9
        clear hs3 H3 HIH HL HLE HEQ
        go_wp2_with fail
        go_ret
        exact ⟨ret_int HQ.out, H5.out⟩
  · have e0 : ((kn x : Int) == 0) = false := by simp; omega
    have hkx : kn x = h x := by rcases H.kn x hx with h9 | h9; exact absurd h9 hk; exact h9
    have H5 := show Hid (Hs w0 w L n fv M h b5 b2 b3 b6 G kn) from H
    have HQ := show Hid ((kn x : Int) = (h x : Int)) from congrArg (fun k : Nat => (k : Int)) hkx
    clear hkx hk H IH
    go_enter Tryd.func74, Tryd.ntmps74
    go_wp2_with fail
    go_ret
    exact ⟨ret_int HQ.out, Kp.refl _ _, kn, H5.out⟩
theorem height1_all {w0 : World} {L n : Nat} {fv : Value} {M : Nat → Nat → Bool} {h : Nat → Nat} {b5 b2 b3 b6 G : Nat} (hO : Ord w0 L n fv M) (hg : Hg M n h) (hn : n ≤ 512) : ∀ N, HC w0 L n fv M h b5 b2 b3 b6 G N
  | 0 => fun _ _ x _ hx hN => by have := hg.eq x hx; omega
  | N + 1 => height1_step hO hg hn (height1_all hO hg hn N)
end Go.Proofs.YtjbnbaiidpdpoaaDoor.Wm
