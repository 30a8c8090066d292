/-
  Above, Root, True, Height: of any model. No condition.
-/
import Derived.Test.YtjbnbaiidpdpoaaDoorWTop
namespace Go.Proofs.YtjbnbaiidpdpoaaDoor.Wm
open Go.RowKit Go.Maps
open Wd (Md Mid Rc Ed Sub upd vl allW inW names)
set_option linter.unusedSimpArgs false

def abP (M : Nat → Nat → Bool) (a : Nat) (x : Int) : Bool := M a x.toNat
theorem cf_above1 : Cf 50 := fun _ _ => by kernel_rfl
set_option maxRecDepth 100000 in
theorem above1_any (w : World) {n a : Nat} {fv : Value} {M : Nat → Nat → Bool} {b1 b2 : Nat} (hO : Ord w w.heap.size n fv M) (ha : a < n) (h1 : Cl w b1 #[fv] 66) (h2 : Cl w b2 #[.int .i64 (a : Int)] 3) (x : Nat) (hx : x < n) :
    Calls Tryd.prog 50 #[.int .i64 (x : Int), .pointer (some ⟨b1, 0, none⟩), .pointer (some ⟨b2, 0, none⟩)] w fun e w' => e = .returned (.bool (abP M a (x : Int))) ∧ Below w.heap.size w w' := by
  obtain ⟨f, cs, rfl, hcf, hc⟩ := hO
  have K := show Hid _ from hc w a x (Below.refl _ _) ha hx
  have HCF := show Hid (Cf f) from hcf
  have c1 : w.cell? ⟨b1, 0, none⟩ = some (.func (.func f) #[] cs.toArray) := h1.cell 0
  have c2 : w.cell? ⟨b2, 0, none⟩ = some (.int .i64 (a : Int)) := h2.cell 0
  have HP := show Hid (M a x = abP M a (x : Int)) from rfl
  generalize abP M a (x : Int) = ans at *
  clear hc hcf h1 h2
  go_enter Tryd.func50, Tryd.ntmps50
  go_wp2_with (refine wpList_callV rfl f _ [.tmp 6, .tmp 7] _ rfl [.int .i64 (a : Int), .int .i64 (x : Int)] cs rfl rfl HCF.out ?_)
  refine Calls.mono K.out ?_
  rintro e w2 ⟨rfl, hb⟩
  refine ⟨_, rfl, ?_⟩
  have HB := show Hid (Below w.heap.size w w2) from hb
  clear K hb
  go_wp2_with fail
  go_ret
  exact ⟨ret_bool HP.out, HB.out⟩
def AbvR (w : World) (B : Nat) (M : Nat → Nat → Bool) (m : Md) (a : Int) (v : Value) (er : Int) : Prop :=
  (¬ Wd.Good m ∧ v = .slice none 0 0 ∧ er = 170) ∨ (Wd.Good m ∧ inW m.up.length a = false ∧ v = .slice none 0 0 ∧ er = 2) ∨ (Wd.Good m ∧ inW m.up.length a = true ∧ OwnI B w v (numsTo (abP M a.toNat) m.up.length) ∧ er = 0)
theorem zero_fn2 (w : World) : (zeroValue 66).run Tryd.prog w = .ok .nilFunc w := by kernel_rfl
set_option maxRecDepth 100000 in
set_option maxHeartbeats 2000000 in
theorem above_any (w : World) {M : Nat → Nat → Bool} {L : Nat} {uv vv : Value} {m : Md} (hO : IsO m.up M) (hm : IsM w L uv vv m) (hf : Fit m) (hL : L ≤ w.heap.size) (a : Int) (ha : -9223372036854775808 ≤ a ∧ a ≤ 9223372036854775807) :
    Calls Tryd.prog 33 #[.agg #[uv, vv], .int .i64 a] w fun e w' => ∃ (v : Value) (er : Int), e = .returned (.tuple #[v, .int .i64 er]) ∧ AbvR w' w.heap.size M m a v er ∧ Below w.heap.size w w' := by
  have K := show Hid (∀ W w1 q, Below w.heap.size w w1 → New w1 W q #[.int .i64 a] 3 → Calls Tryd.prog 29 #[.agg #[uv, vv], .slice (some ⟨q, 0, none⟩) 1 1] W fun e w' => ∃ fv er, e = .returned (.tuple #[fv, .int .i64 er]) ∧ Rek w' M m [a] fv er ∧ Below W.heap.size W w') from fun W w1 q hW hN => reckoned_any W hO (hm.keep fun k hk => (hN.bel.block k (by have := hW.size; omega)).trans (hW.block k (by omega))) hf (Nat.le_trans hL (Nat.le_trans hW.size hN.bel.size)) (isI_new (l := [a]) hN) (Nat.le_refl _) (by simp) (fun x hx => by
    simp only [List.mem_cons, List.not_mem_nil, or_false] at hx
    rw [hx]; exact ha)
  have HN5 := show Hid (Wd.Good m → m.up.length ≤ 512) from fun g => (Wd.shaped_and g.shape).2.1
  obtain ⟨pu, cu, rfl⟩ := IsS.form hm.up
  obtain ⟨pv, cv, rfl⟩ := IsS.form hm.val
  clear hm hf
  go_enter Tryd.func33, Tryd.ntmps33
  go_wp2_with (refine wpList_box 25 _ rfl _ rfl rfl ?_)
  intro w1 b1 hN
  have H1 := show Hid (Below w.heap.size w w1 ∧ Cl w1 b1 #[.slice pu m.up.length cu, .slice pv m.val.length cv] 25) from ⟨hN.bel, hN.blk⟩
  clear hN
  go_wp2_with (refine wpList_box1 3 _ rfl _ rfl rfl rfl ?_)
  intro w2 b2 hN
  have H2 := show Hid (Below w.heap.size w w2 ∧ Cl w2 b1 #[.slice pu m.up.length cu, .slice pv m.val.length cv] 25 ∧ Cl w2 b2 #[.int .i64 a] 3) from ⟨H1.out.1.trans (hN.bel.mono H1.out.1.size), H1.out.2.later hN.bel, hN.blk⟩
  have c2 : w2.cell? ⟨b2, 0, none⟩ = some (.int .i64 a) := H2.out.2.2.cell 0
  clear hN H1
  go_wp2_with (first | (refine wpList_ldw 25 _ rfl b1 rfl _ _ H2.out.2.1 rfl Tryd.underlying25 sizeM rfl ?_) | (refine wpList_bs1 rfl _ rfl _ rfl ?_))
  intro w3 q hN
  have K1 := show Hid _ from K.out w3 w2 q H2.out.1 hN
  have H3 := show Hid (Below w.heap.size w w3 ∧ Cl w3 b1 #[.slice pu m.up.length cu, .slice pv m.val.length cv] 25 ∧ Cl w3 b2 #[.int .i64 a] 3) from ⟨H2.out.1.trans (hN.bel.mono H2.out.1.size), H2.out.2.1.later hN.bel, H2.out.2.2.later hN.bel⟩
  clear hN K H2 c2
  go_wp2_with fail
  refine Calls.mono K1.out ?_
  rintro e w4 ⟨fv, er, rfl, hR, hb⟩
  have H4 := show Hid (Below w.heap.size w w4 ∧ Cl w4 b1 #[.slice pu m.up.length cu, .slice pv m.val.length cv] 25 ∧ Cl w4 b2 #[.int .i64 a] 3) from ⟨H3.out.1.trans (hb.mono H3.out.1.size), H3.out.2.1.later hb, H3.out.2.2.later hb⟩
  clear hb K1 H3
  have hall : allW m.up.length [a] = inW m.up.length a := by simp [allW]
  rw [Rek, hall] at hR
  rcases hR with ⟨h1, rfl, rfl⟩ | ⟨h1, h2, rfl, rfl⟩ | ⟨h1, h2, h3, rfl⟩
  · have HG := show Hid (¬ Wd.Good m) from h1
    clear h1 hall
    go_wp2_with fail
    go_ret2
    exact ⟨_, 170, rfl, Or.inl ⟨HG.out, rfl, rfl⟩, H4.out.1.trans ((below_alloc _ _).mono H4.out.1.size)⟩
  · have HG := show Hid (Wd.Good m ∧ inW m.up.length a = false) from ⟨h1, h2⟩
    clear h1 h2 hall
    go_wp2_with fail
    go_ret2
    exact ⟨_, 2, rfl, Or.inr (Or.inl ⟨HG.out.1, HG.out.2, rfl, rfl⟩), H4.out.1.trans ((below_alloc _ _).mono H4.out.1.size)⟩
  · have HG := show Hid (Wd.Good m ∧ inW m.up.length a = true) from ⟨h1, h2⟩
    have HO := show Hid (Ord w4 w4.heap.size m.up.length fv M) from h3
    have hn5 := HN5.out h1
    simp only [Bool.and_eq_true, inW, decide_eq_true_eq] at h2
    obtain ⟨k, rfl⟩ := Int.eq_ofNat_of_zero_le h2.1
    have hk : k < m.up.length := by omega
    obtain ⟨f, cs, rfl, -, -⟩ := h3
    have KC := show Hid (∀ W, Below w4.heap.size w4 W → ∀ b6, Cl W b6 #[.func (.func f) #[] cs.toArray] 66 → Calls Tryd.prog 49 #[.int .i64 (m.up.length : Int), .func (.func 50) #[] #[.pointer (some ⟨b6, 0, none⟩), .pointer (some ⟨b2, 0, none⟩)]] W fun e w' => ∃ v, e = .returned v ∧ OwnI W.heap.size w' v (numsTo (abP M k) m.up.length) ∧ Below W.heap.size W w') from fun W hW b6 h6 =>
      chosen_any W (L := W.heap.size) (D := fun x => 0 ≤ x ∧ x < (m.up.length : Int)) ⟨_, [.pointer (some ⟨b6, 0, none⟩), .pointer (some ⟨b2, 0, none⟩)], rfl, cf_above1, fun W' x hW' hx => by
        obtain ⟨j, rfl⟩ := Int.eq_ofNat_of_zero_le hx.1
        have hW2 := hW.trans (hW'.mono hW.size)
        exact above1_any W' (HO.out.later hW2 hW2.size) hk (h6.later hW') (H4.out.2.2.later hW2) j (by omega)⟩ (fun j hj => ⟨by omega, by omega⟩) (Nat.le_refl _) hn5
    clear h1 h2 hall
    have c1 : (w4.alloc (.cells #[.func (.func f) #[] cs.toArray] 66)).cell? ⟨b1, 0, none⟩ = some (.slice pu m.up.length cu) := Cl.cell (T := 25) (H4.out.2.1.later (below_alloc _ _)) 0
    have K5 := show Hid _ from KC.out (w4.alloc (.cells #[.func (.func f) #[] cs.toArray] 66)) (below_alloc _ _) w4.heap.size (heap_alloc_last w4 _)
    clear KC
    go_wp2_with fail
    refine Calls.mono K5.out ?_
    rintro e w5 ⟨v, rfl, ho, hb5⟩
    have H5 := show Hid (OwnI w.heap.size w5 v (numsTo (abP M k) m.up.length) ∧ Below w.heap.size w w5) from by
      have h9 := H4.out.1.trans ((below_alloc w4 (.cells #[.func (.func f) #[] cs.toArray] 66)).mono H4.out.1.size)
      exact ⟨ho.base h9.size, h9.trans (hb5.mono h9.size)⟩
    clear ho hb5 K5
    go_wp2_with fail
    go_ret2
    exact ⟨_, 0, rfl, Or.inr (Or.inr ⟨HG.out.1, HG.out.2, H5.out.1, rfl⟩), H5.out.2⟩
end Go.Proofs.YtjbnbaiidpdpoaaDoor.Wm
