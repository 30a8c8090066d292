/-
  Heights, plain: they are there, and reckoned turn by turn. No condition.
-/
import Derived.Test.YtjbnbaiidpdpoaaGreatDoorWQ1
namespace Go.Proofs.YtjbnbaiidpdpoaaGreatDoor.Wm
open Wd (Md Rc upd)

def hF (M : Nat → Nat → Bool) (n : Nat) : Nat → Nat → Nat
  | 0, _ => 0
  | f + 1, a => mxL (hF M n f) (numsTo (ovP M a) n) + 1
structure Po (M : Nat → Nat → Bool) (n : Nat) : Prop where
  anti : ∀ a b, a < n → b < n → M a b = true → M b a = true → a = b
  trans : ∀ a b c, M a b = true → M b c = true → M a c = true
theorem po_of {m : Md} {M : Nat → Nat → Bool} (hO : IsO m.up M) (hG : Wd.Good m) : Po M m.up.length :=
  ⟨fun a b ha _ h1 h2 => hG.anti a b ha ((hO a b).1 h1) ((hO b a).1 h2), fun a b c h1 h2 => (hO a c).2 (((hO a b).1 h1).trans ((hO b c).1 h2))⟩
section
variable {M : Nat → Nat → Bool} {n : Nat}
theorem mem_ov {a b : Nat} : b ∈ numsTo (ovP M a) n ↔ b < n ∧ b ≠ a ∧ M a b = true := by
  unfold numsTo ovP
  rw [List.mem_filter, List.mem_range]
  simp only [Bool.and_eq_true, decide_eq_true_eq, Int.toNat_natCast]
  constructor
  · rintro ⟨h1, h2, h3⟩
    exact ⟨h1, fun e => h2 (by rw [e]), h3⟩
  · rintro ⟨h1, h2, h3⟩
    exact ⟨h1, fun e => h2 (by omega), h3⟩
theorem nodup_ov (p : Int → Bool) (n : Nat) : (numsTo p n).Nodup := List.Pairwise.filter _ (List.nodup_range (n := n))
theorem mxL_congr {h h' : Nat → Nat} : ∀ {l : List Nat} (m : Nat), (∀ v ∈ l, h v = h' v) → l.foldl (fun m v => max m (h v)) m = l.foldl (fun m v => max m (h' v)) m
  | [], _, _ => rfl
  | x :: r, m, e => by
    rw [List.foldl_cons, List.foldl_cons, e x (List.mem_cons_self)]
    exact mxL_congr _ fun v hv => e v (List.mem_cons_of_mem _ hv)
theorem mxL_eq {h h' : Nat → Nat} {l : List Nat} (e : ∀ v ∈ l, h v = h' v) : mxL h l = mxL h' l := mxL_congr 0 e
def rk (M : Nat → Nat → Bool) (n a : Nat) : Nat := (numsTo (ovP M a) n).length
theorem rk_lt (hP : Po M n) {a b : Nat} (ha : a < n) (hb : b ∈ numsTo (ovP M a) n) : rk M n b < rk M n a := by
  obtain ⟨h1, h2, h3⟩ := mem_ov.1 hb
  have h4 : (b :: numsTo (ovP M b) n).length ≤ (numsTo (ovP M a) n).length := le_of_sub _ _ (List.nodup_cons.2 ⟨fun h => (mem_ov.1 h).2.1 rfl, nodup_ov _ _⟩) fun x hx => by
    rcases List.mem_cons.1 hx with rfl | hx
    · exact hb
    · obtain ⟨q1, q2, q3⟩ := mem_ov.1 hx
      refine mem_ov.2 ⟨q1, fun e => ?_, hP.trans _ _ _ h3 q3⟩
      subst e
      exact h2 (hP.anti b x h1 ha q3 h3)
  exact h4
theorem rk_n {a : Nat} (ha : a < n) : rk M n a < n := by
  have h4 : (a :: numsTo (ovP M a) n).length ≤ (List.range n).length := le_of_sub _ _ (List.nodup_cons.2 ⟨fun h => (mem_ov.1 h).2.1 rfl, nodup_ov _ _⟩) fun x hx => by
    rcases List.mem_cons.1 hx with rfl | hx
    · exact List.mem_range.2 ha
    · exact List.mem_range.2 (mem_ov.1 hx).1
  rw [List.length_range] at h4
  exact h4
theorem hF_stable (hP : Po M n) : ∀ f a, a < n → rk M n a < f → hF M n (f + 1) a = hF M n f a
  | 0, _, _, h => absurd h (Nat.not_lt_zero _)
  | f + 1, a, ha, h => by
    rw [hF, hF]
    rw [mxL_eq (h := hF M n (f + 1)) (h' := hF M n f)]
    intro b hb
    exact hF_stable hP f b (mem_ov.1 hb).1 (by have := rk_lt hP ha hb; omega)
theorem hF_le : ∀ f a, hF M n f a ≤ f
  | 0, _ => Nat.le_refl _
  | f + 1, a => by
    rw [hF]
    have : mxL (hF M n f) (numsTo (ovP M a) n) ≤ f := fold_le _ _ _ 0 (Nat.zero_le _) fun v _ => hF_le f v
    omega
theorem hg_ex (hP : Po M n) (hn : n ≤ 512) : Hg M n (hF M n n) :=
  ⟨fun a ha => by
    have := hF_stable hP n a ha (rk_n ha)
    rw [← this]
    exact rfl, fun a _ => Nat.le_trans (hF_le n a) hn⟩
structure Tn (M : Nat → Nat → Bool) (n : Nat) (h hv : Nat → Nat) (t k : Nat) : Prop where
  or : ∀ a, a < n → hv a = 0 ∨ hv a = h a
  all : ∀ a, a < n → h a ≤ t → hv a = h a
  now : ∀ a, a < k → h a ≤ t + 1 → hv a = h a
theorem tn_start {h : Nat → Nat} (hg : Hg M n h) : Tn M n h (fun _ => 0) 0 0 :=
  ⟨fun _ _ => Or.inl rfl, fun a ha h0 => by have := hg.eq a ha; omega, fun _ h => absurd h (Nat.not_lt_zero _)⟩
theorem Tn.turn {h hv : Nat → Nat} {t : Nat} (T : Tn M n h hv t n) : Tn M n h hv (t + 1) 0 :=
  ⟨T.or, fun a ha h0 => T.now a ha h0, fun _ h => absurd h (Nat.not_lt_zero _)⟩
theorem Tn.skip {h hv : Nat → Nat} {t k : Nat} (T : Tn M n h hv t k) (hk : k < n) (hs : hv k ≠ 0) : Tn M n h hv t (k + 1) :=
  ⟨T.or, T.all, fun a ha h0 => by
    by_cases e : a = k
    · subst e
      exact (T.or a hk).resolve_left hs
    · exact T.now a (by omega) h0⟩
theorem Tn.wait {h hv : Nat → Nat} {t k : Nat} (hg : Hg M n h) (T : Tn M n h hv t k) (hk : k < n) {b : Nat} (hb : b ∈ numsTo (ovP M k) n) (hs : hv b = 0) : Tn M n h hv t (k + 1) :=
  ⟨T.or, T.all, fun a ha h0 => by
    by_cases e : a = k
    · subst e
      have h1 := mxL_in (h := h) hb
      have h2 := hg.eq a hk
      have hbn := (mem_ov.1 hb).1
      have h3 := T.all b hbn (by omega)
      have h4 := hg.eq b hbn
      omega
    · exact T.now a (by omega) h0⟩
theorem Tn.set {h hv : Nat → Nat} {t k : Nat} (hg : Hg M n h) (T : Tn M n h hv t k) (hk : k < n) (hr : ∀ b ∈ numsTo (ovP M k) n, hv b ≠ 0) : mxL hv (numsTo (ovP M k) n) + 1 = h k ∧ Tn M n h (upd hv k (mxL hv (numsTo (ovP M k) n) + 1)) t (k + 1) := by
  have e : mxL hv (numsTo (ovP M k) n) + 1 = h k := by
    rw [hg.eq k hk, mxL_eq (h := hv) (h' := h)]
    intro b hb
    exact (T.or b (mem_ov.1 hb).1).resolve_left (hr b hb)
  refine ⟨e, ?_⟩
  rw [e]
  refine ⟨fun a ha => ?_, fun a ha h0 => ?_, fun a ha h0 => ?_⟩
  · by_cases e : a = k
    · subst e; rw [Wd.upd_same]; exact Or.inr rfl
    · rw [Wd.upd_other _ _ _ e]; exact T.or a ha
  · by_cases e : a = k
    · subst e; rw [Wd.upd_same]
    · rw [Wd.upd_other _ _ _ e]; exact T.all a ha h0
  · by_cases e : a = k
    · subst e; rw [Wd.upd_same]
    · rw [Wd.upd_other _ _ _ e]; exact T.now a (by omega) h0
theorem Tn.done {h hv : Nat → Nat} (T : Tn M n h hv n 0) (hl : ∀ a, a < n → h a ≤ n) : ∀ a, a < n → hv a = h a := fun a ha => T.all a ha (hl a ha)
theorem mxTo_step (hv : Nat → Nat) (a k : Nat) : mxL hv (numsTo (ovP M a) (k + 1)) = if (decide (k ≠ a) && M a k) = true then max (mxL hv (numsTo (ovP M a) k)) (hv k) else mxL hv (numsTo (ovP M a) k) := by
  rw [numsTo_step]
  have e : ovP M a (k : Int) = (decide (k ≠ a) && M a k) := by
    unfold ovP
    rw [Int.toNat_natCast]
    congr 1
    by_cases e : k = a
    · simp [e]
    · simp [e]; omega
  rw [e]
  cases (decide (k ≠ a) && M a k)
  · simp
  · simp only [if_true, mxL_snoc]
end
end Go.Proofs.YtjbnbaiidpdpoaaGreatDoor.Wm
/-
  The document's ready, Heights, Height: of any model. No condition.
-/
namespace Go.Proofs.YtjbnbaiidpdpoaaGreatDoor.Wm
open Go.RowKit Go.Maps
open Wd (Md allW inW names Sub Rc vl upd)
set_option linter.unusedSimpArgs false

def hvV (hv : Nat → Nat) (k : Nat) : Value := .int .i64 (hv k : Int)
def Oc (w : World) (O n : Nat) (Ra : Nat → Nat) (M : Nat → Nat → Bool) : Prop := ∀ a, a < n → w.cell? ⟨O, a, none⟩ = some (.slice (some ⟨Ra a, 0, none⟩) n n) ∧ ∀ b, b < n → w.cell? ⟨Ra a, b, none⟩ = some (.bool (M a b))
theorem Ob.oc {w : World} {B O n : Nat} {Ra : Nat → Nat} {M : Nat → Nat → Bool} (h : Ob w B O n n Ra M) : Oc w O n Ra M := fun a ha => ⟨(h.out.cell ha).trans (by rw [if_pos ha]), fun _ hb => (h.row a ha).1.cell hb⟩
set_option maxRecDepth 100000 in
set_option maxHeartbeats 4000000 in
theorem ready_any (w : World) {O n g : Nat} {Ra hv : Nat → Nat} {M : Nat → Nat → Bool} (hO : Oc w O n Ra M) (hr : Rw w g n 3 (hvV hv)) (hn : n ≤ 512) (aw : Nat) (ha : aw < n) :
    Calls Tryz.prog 47 #[.slice (some ⟨O, 0, none⟩) n n, .slice (some ⟨g, 0, none⟩) n n, .int .i64 (aw : Int)] w fun e w' => ((e = .returned (.bool true) ∧ ∀ b ∈ numsTo (ovP M aw) n, hv b ≠ 0) ∨ (e = .returned (.bool false) ∧ ∃ b ∈ numsTo (ovP M aw) n, hv b = 0)) ∧ w' = w := by
  have HQ := show Hid (∀ b, b < n → w.cell? ⟨O, aw, none⟩ = some (.slice (some ⟨Ra aw, 0, none⟩) n n) ∧ w.cell? ⟨Ra aw, b, none⟩ = some (.bool (M aw b)) ∧ w.cell? ⟨g, b, none⟩ = some (.int .i64 (hv b : Int))) from fun b hb => ⟨(hO aw ha).1, (hO aw ha).2 b hb, hr.cell hb⟩
  clear hO hr
  go_enter Tryz.func47, Tryz.ntmps47
  go_wp2_with fail
  go_loop [7] (fun i => ∃ k : Nat, k ≤ n ∧ i = .int .i64 (k : Int) ∧ Hid (∀ b, b < k → b ≠ aw → M aw b = true → hv b ≠ 0)) (fun i => n - (intOf i).toNat)
  case atStart => exact ⟨0, Nat.zero_le _, rfl, fun b h => absurd h (Nat.not_lt_zero _)⟩
  case round =>
    obtain ⟨b, hb, rfl, HI⟩ := hrel
    by_cases hlb : b < n
    · have hbi : (b : Int) < (n : Int) := by omega
      have hai : (aw : Int) < (n : Int) := by omega
      obtain ⟨c1, c2, c3⟩ := HQ.out b hlb
      have HN := show Hid ((b ≠ aw → M aw b = true → hv b ≠ 0) → ∀ x, x < b + 1 → x ≠ aw → M aw x = true → hv x ≠ 0) from fun h x hx => by
        by_cases e : x = b
        · subst e; exact h
        · exact HI.out x (by omega)
      clear HI
      by_cases eab : aw = b
      · have e1 : ((aw : Int) != (b : Int)) = false := by simp; omega
        have HN2 := show Hid _ from HN.out (fun h => absurd eab.symm h)
        clear HN eab
        go_wp2_with fail
        go_round
        case rel => exact ⟨b + 1, by omega, val_int (by omega), HN2⟩
        case measure => (simp only [intOf]; omega)
      · have e1 : ((aw : Int) != (b : Int)) = true := by simp; omega
        cases hab : M aw b
        · rw [hab] at c2
          have HN2 := show Hid _ from HN.out (fun _ h => by rw [hab] at h; cases h)
          clear HN hab eab
          go_wp2_with fail
          go_round
          case rel => exact ⟨b + 1, by omega, val_int (by omega), HN2⟩
          case measure => (simp only [intOf]; omega)
        · rw [hab] at c2
          by_cases hz : hv b = 0
          · have e2 : ((hv b : Int) == 0) = true := by simp; omega
            have HX := show Hid (∃ b ∈ numsTo (ovP M aw) n, hv b = 0) from ⟨b, mem_ov.2 ⟨hlb, fun e => eab e.symm, hab⟩, hz⟩
            clear HN hab eab hz
            go_wp2_with fail
            go_ret
            exact ⟨Or.inr ⟨rfl, HX.out⟩, rfl⟩
          · have e2 : ((hv b : Int) == 0) = false := by simp; omega
            have HN2 := show Hid _ from HN.out (fun _ _ => hz)
            clear HN hab eab hz
            go_wp2_with fail
            go_round
            case rel => exact ⟨b + 1, by omega, val_int (by omega), HN2⟩
            case measure => (simp only [intOf]; omega)
    · obtain rfl : b = n := by omega
      have HX := show Hid (∀ x ∈ numsTo (ovP M aw) b, hv x ≠ 0) from fun x hx => by
        obtain ⟨h1, h2, h3⟩ := mem_ov.1 hx
        exact HI.out x h1 h2 h3
      go_wp2_with fail
      go_ret
      exact ⟨Or.inl ⟨rfl, HX.out⟩, rfl⟩
set_option maxRecDepth 100000 in
set_option maxHeartbeats 4000000 in
theorem heights_any (w : World) {O n : Nat} {Ra h : Nat → Nat} {M : Nat → Nat → Bool} (hO : Oc w O n Ra M) (hOl : O < w.heap.size) (hRl : ∀ a, a < n → Ra a < w.heap.size) (hg : Hg M n h) (hl : ∀ a, a < n → h a ≤ n) (hn : n ≤ 512) :
    Calls Tryz.prog 32 #[.slice (some ⟨O, 0, none⟩) n n] w fun e w' => ∃ g, e = .returned (.slice (some ⟨g, 0, none⟩) n n) ∧ Rw w' g n 3 (hvV h) ∧ Below w.heap.size w w' := by
  have hmk := run_make_row' (P := Tryz.prog) 27 3 (.int .i64 0) 8 Tryz.underlying27 (by kernel_rfl) rfl .i64 .i64 n (by omega) (by omega) w
  have HG := show Hid (Hg M n h ∧ ∀ a, a < n → h a ≤ n) from ⟨hg, hl⟩
  have HOC := show Hid (∀ W, Below w.heap.size w W → Oc W O n Ra M) from fun W hW a ha => ⟨(hW.cell (p := ⟨O, a, none⟩) hOl).trans (hO a ha).1, fun b hb => (hW.cell (p := ⟨Ra a, b, none⟩) (hRl a ha)).trans ((hO a ha).2 b hb)⟩
  clear hO hg hl hOl hRl
  go_enter Tryz.func32, Tryz.ntmps32
  go_wp2_with (simp only [hmk])
  have HS0 := show Hid (∃ hv, Rw (w.alloc (.cells (madeCells #[.int .i64 0] n) 3)) w.heap.size n 3 (hvV hv) ∧ Tn M n h hv 0 0 ∧ Below w.heap.size w (w.alloc (.cells (madeCells #[.int .i64 0] n) 3))) from ⟨fun _ => 0, rw_madeV w n _ _, tn_start HG.out.1, below_alloc w _⟩
  clear hmk
  generalize w.alloc (.cells (madeCells #[.int .i64 0] n) 3) = w1 at *
  obtain ⟨g, hgg⟩ : ∃ g, g = w.heap.size := ⟨_, rfl⟩
  have HGG := show Hid (g = w.heap.size) from hgg
  rw [← hgg] at HS0 ⊢
  clear hgg
  have HOC2 := show Hid (∀ W, Below g w W → Oc W O n Ra M) from fun W hW => HOC.out W (by rw [← HGG.out]; exact hW)
  clear HOC
  go_loopw [5, 6, 7, 8] (fun t _ _ _ wr => ∃ k : Nat, k ≤ n ∧ t = .int .i64 (k : Int) ∧ Hid (∃ hv, Rw wr g n 3 (hvV hv) ∧ Tn M n h hv k 0 ∧ Below g w wr)) (fun t _ _ _ _ => n - (intOf t).toNat)
  case atStart => exact ⟨0, Nat.zero_le _, rfl, HS0.out⟩
  case round =>
    obtain ⟨t, ht, rfl, HT⟩ := hrel
    clear HS0
    by_cases hlt : t < n
    · have hti : (t : Int) < (n : Int) := by omega
      go_wp2_with fail
      go_loopw [6, 7, 8] (fun i _ _ wr => ∃ k : Nat, k ≤ n ∧ i = .int .i64 (k : Int) ∧ Hid (∃ hv, Rw wr g n 3 (hvV hv) ∧ Tn M n h hv t k ∧ Below g w wr)) (fun i _ _ _ => n - (intOf i).toNat)
      case atStart => exact ⟨0, Nat.zero_le _, rfl, HT.out⟩
      case round =>
        obtain ⟨aw, haw, rfl, HA⟩ := hrel
        clear HT
        by_cases hla : aw < n
        · have hai : (aw : Int) < (n : Int) := by omega
          obtain ⟨hv, hrw, htn, hbw⟩ := HA.out
          have HW := show Hid (Rw wr g n 3 (hvV hv) ∧ Tn M n h hv t aw ∧ Below g w wr) from ⟨hrw, htn, hbw⟩
          have hvb : ∀ b, b < n → hv b ≤ 512 := fun b hb => by
            rcases htn.or b hb with e | e
            · omega
            · have := HG.out.1.le b hb; omega
          have HVB := show Hid (∀ b, b < n → hv b ≤ 512) from hvb
          have HMX := show Hid (∀ k, k ≤ n → mxL hv (numsTo (ovP M aw) k) ≤ 512) from fun k hk => fold_le _ _ _ 0 (Nat.zero_le _) fun v hv' => hvb v (Nat.lt_of_lt_of_le (mem_ov.1 hv').1 hk)
          have HC := show Hid (wr.cell? ⟨O, aw, none⟩ = some (.slice (some ⟨Ra aw, 0, none⟩) n n) ∧ ∀ b, b < n → wr.cell? ⟨Ra aw, b, none⟩ = some (.bool (M aw b)) ∧ wr.cell? ⟨g, b, none⟩ = some (.int .i64 (hv b : Int))) from ⟨(HOC2.out wr hbw aw hla).1, fun b hb => ⟨(HOC2.out wr hbw aw hla).2 b hb, hrw.cell hb⟩⟩
          obtain ⟨w3, hw3⟩ : ∃ w3, w3 = wr := ⟨_, rfl⟩
          rw [← hw3] at HW HC ⊢
          clear hrw htn hbw hvb HA hw3 wr
          go_wp2_with fail
          go_loop [7, 8] (fun v i => ∃ k : Nat, k ≤ n ∧ i = .int .i64 (k : Int) ∧ v = .int .i64 ((mxL hv (numsTo (ovP M aw) k) : Nat) : Int)) (fun _ i => n - (intOf i).toNat)
          case atStart => exact ⟨0, Nat.zero_le _, rfl, rfl⟩
          case round =>
            obtain ⟨b, hb, rfl, rfl⟩ := hrel
            by_cases hlb : b < n
            · have hbi : (b : Int) < (n : Int) := by omega
              have c1 := HC.out.1
              obtain ⟨c2, c3⟩ := HC.out.2 b hlb
              have HST := show Hid _ from mxTo_step (M := M) hv aw b
              have hm5 := HMX.out b (by omega)
              have hv5 := HVB.out b hlb
              generalize mxL hv (numsTo (ovP M aw) b) = q at *
              by_cases eab : aw = b
              · have e1 : ((aw : Int) != (b : Int)) = false := by simp; omega
                have HST2 := show Hid (mxL hv (numsTo (ovP M aw) (b + 1)) = q) from by
                  show mxL hv (numsTo (ovP M aw) (b + 1)) = q
                  rw [HST.out, decide_eq_false (fun h : b ≠ aw => h eab.symm)]
                  rfl
                clear HST eab
                go_wp2_with fail
                go_round
                case rel => exact ⟨b + 1, by omega, val_int (by omega), by rw [HST2.out]⟩
                case measure => (simp only [intOf]; omega)
              · have e1 : ((aw : Int) != (b : Int)) = true := by simp; omega
                cases hab : M aw b
                · rw [hab] at c2
                  have HST2 := show Hid (mxL hv (numsTo (ovP M aw) (b + 1)) = q) from by
                    show mxL hv (numsTo (ovP M aw) (b + 1)) = q
                    rw [HST.out, hab, Bool.and_false]
                    rfl
                  clear HST eab hab
                  go_wp2_with fail
                  go_round
                  case rel => exact ⟨b + 1, by omega, val_int (by omega), by rw [HST2.out]⟩
                  case measure => (simp only [intOf]; omega)
                · rw [hab] at c2
                  have HST2 := show Hid (mxL hv (numsTo (ovP M aw) (b + 1)) = max q (hv b)) from by
                    show mxL hv (numsTo (ovP M aw) (b + 1)) = max q (hv b)
                    rw [HST.out, hab, decide_eq_true (show b ≠ aw from fun h => eab h.symm)]
                    rfl
                  clear HST eab hab
                  go_wp2_with fail
                  go_round
                  case rel => exact ⟨b + 1, by omega, val_int (by omega), by rw [HST2.out]; exact val_int (by first | omega | (split <;> omega))⟩
                  case measure => (simp only [intOf]; omega)
            · obtain rfl : b = n := by omega
              have c1 := HC.out.1
              have c3 := (HC.out.2 aw hla).2
              have hm5 := HMX.out b (by omega)
              by_cases hz : hv aw = 0
              · have e2 : ((hv aw : Int) == 0) = true := by simp; omega
                have KR := show Hid _ from ready_any w3 (HOC2.out w3 HW.out.2.2) HW.out.1 hn aw hla
                clear hz
                go_wp2_with fail
                refine Calls.mono KR.out ?_
                rintro e w4 ⟨hr, rfl⟩
                clear KR
                rcases hr with ⟨rfl, hr⟩ | ⟨rfl, x, hx, hxz⟩
                · obtain ⟨hs1, hs2⟩ := Tn.set HG.out.1 HW.out.2.1 hla hr
                  have HN := show Hid (Rw (w4.setCell ⟨g, aw, none⟩ (.int .i64 ((mxL hv (numsTo (ovP M aw) b) : Int) + 1))) g b 3 (hvV (upd hv aw (mxL hv (numsTo (ovP M aw) b) + 1))) ∧ Tn M b h (upd hv aw (mxL hv (numsTo (ovP M aw) b) + 1)) t (aw + 1) ∧ Below g w (w4.setCell ⟨g, aw, none⟩ (.int .i64 ((mxL hv (numsTo (ovP M aw) b) : Int) + 1)))) from by
                    refine ⟨(HW.out.1.set aw _).same fun j _ => ?_, hs2, HW.out.2.2.trans (((Kp.refl (fun k => k = g) w4).set (p := g) rfl aw _).below (by rw [HGG.out]; exact HW.out.2.2.size) fun k e => by omega)⟩
                    unfold hvV upd
                    by_cases e : j = aw
                    · simp [e]
                    · simp [e]
                  have ff : w4.frozen? ⟨g, aw, none⟩ = false := HW.out.1.fr aw
                  generalize mxL hv (numsTo (ovP M aw) b) = q at *
                  clear hr hs1 hs2 HC
                  go_wp2_with fail
                  go_roundw
                  case rel => exact ⟨aw + 1, by omega, val_int (by omega), _, HN.out⟩
                  case measure => (simp only [intOf]; omega)
                · have HN := show Hid (Tn M b h hv t (aw + 1)) from HW.out.2.1.wait HG.out.1 hla hx hxz
                  clear hx hxz HC
                  go_wp2_with fail
                  go_roundw
                  case rel => exact ⟨aw + 1, by omega, val_int (by omega), hv, HW.out.1, HN.out, HW.out.2.2⟩
                  case measure => (simp only [intOf]; omega)
              · have e2 : ((hv aw : Int) == 0) = false := by simp; omega
                have HN := show Hid (Tn M b h hv t (aw + 1)) from HW.out.2.1.skip hla hz
                clear hz HC
                go_wp2_with fail
                go_roundw
                case rel => exact ⟨aw + 1, by omega, val_int (by omega), hv, HW.out.1, HN.out, HW.out.2.2⟩
                case measure => (simp only [intOf]; omega)
        · obtain rfl : aw = n := by omega
          obtain ⟨hv, hrw, htn, hbw⟩ := HA.out
          have HN := show Hid (∃ hv, Rw wr g aw 3 (hvV hv) ∧ Tn M aw h hv (t + 1) 0 ∧ Below g w wr) from ⟨hv, hrw, htn.turn, hbw⟩
          clear hrw htn hbw HA
          go_wp2_with fail
          go_roundw
          case rel => exact ⟨t + 1, by omega, val_int (by omega), HN⟩
          case measure => (simp only [intOf]; omega)
    · obtain rfl : t = n := by omega
      obtain ⟨hv, hrw, htn, hbw⟩ := HT.out
      have HE := show Hid (Rw wr g t 3 (hvV h) ∧ Below w.heap.size w wr) from ⟨hrw.same fun j hj => by unfold hvV; rw [htn.done HG.out.2 j hj], by rw [← HGG.out]; exact hbw⟩
      clear hrw htn hbw HT
      go_wp2_with fail
      go_ret
      exact ⟨g, rfl, HE.out⟩
set_option maxRecDepth 100000 in
set_option maxHeartbeats 4000000 in
theorem rheight_any (w : World) {M : Nat → Nat → Bool} {L : Nat} {uv vv : Value} {m : Md} (hO : IsO m.up M) (hm : IsM w L uv vv m) (hf : Fit m) (hL : L ≤ w.heap.size) :
    Calls Tryz.prog 18 #[.agg #[uv, vv]] w fun e w' => ∃ r er : Int, e = .returned (.tuple #[.int .i64 r, .int .i64 er]) ∧ ((¬ Wd.Good m ∧ r = 0 ∧ er = 170) ∨ (Wd.Good m ∧ r = (mxL (hF M m.up.length m.up.length) (List.range m.up.length) : Int) ∧ er = 0)) ∧ Below w.heap.size w w' := by
  have K := show Hid (∀ W, Below w.heap.size w W → Calls Tryz.prog 27 #[.agg #[uv, vv]] W fun e w' => ((∃ O Ra, e = .returned (.tuple #[.slice (some ⟨O, 0, none⟩) m.up.length m.up.length, .bool true]) ∧ Ob w' W.heap.size O m.up.length m.up.length Ra M ∧ Wd.Good m) ∨ (e = .returned (.tuple #[.slice none 0 0, .bool false]) ∧ ¬ Wd.Good m)) ∧ Below W.heap.size W w') from fun W hW => right_any W hO (hm.below (hW.mono hL)) hf (Nat.le_trans hL hW.size)
  have HO := show Hid (IsO m.up M) from hO
  obtain ⟨h, hh⟩ : ∃ h, h = hF M m.up.length m.up.length := ⟨_, rfl⟩
  rw [← hh]
  have HH := show Hid (h = hF M m.up.length m.up.length) from hh
  clear hm hf hO hh
  go_enter Tryz.func18, Tryz.ntmps18
  go_wp2_with (refine wpList_box 25 _ rfl _ rfl rfl ?_)
  intro w1 b1 hN
  have HB1 := show Hid (Below w.heap.size w w1 ∧ Cl w1 b1 #[uv, vv] 25) from ⟨hN.bel, hN.blk⟩
  have K1 := show Hid _ from K.out w1 hN.bel
  clear hN K
  go_wp2_with (refine wpList_ldw 25 _ rfl b1 rfl _ _ HB1.out.2 rfl Tryz.underlying25 sizeM rfl ?_)
  go_wp2_with fail
  refine Calls.mono K1.out ?_
  rintro e w2 ⟨hr, hb2⟩
  have HB2 := show Hid (Below w.heap.size w w2) from HB1.out.1.trans (hb2.mono HB1.out.1.size)
  clear K1 hb2
  rcases hr with ⟨O, Ra, rfl, hob, hg⟩ | ⟨rfl, hg⟩
  · have hn := (Wd.shaped_and hg.shape).2.1
    have HG := show Hid (Wd.Good m ∧ Hg M m.up.length h) from ⟨hg, by rw [HH.out]; exact hg_ex (po_of HO.out hg) hn⟩
    have KH := show Hid _ from heights_any w2 hob.oc hob.out.lt (fun a ha => (hob.row a ha).1.lt) HG.out.2 (fun a _ => by rw [HH.out]; exact hF_le _ a) hn
    clear hg hob HB1 HO
    go_wp2_with fail
    refine Calls.mono KH.out ?_
    rintro e w3 ⟨g, rfl, hrw, hb3⟩
    have HB3 := show Hid (Below w.heap.size w w3) from HB2.out.trans (hb3.mono HB2.out.size)
    have HC := show Hid (∀ b, b < m.up.length → w3.cell? ⟨g, b, none⟩ = some (.int .i64 (h b : Int))) from fun b hb => hrw.cell hb
    have HMX := show Hid (∀ k, k ≤ m.up.length → mxL h (List.range k) ≤ 512) from fun k hk => fold_le _ _ _ 0 (Nat.zero_le _) fun v hv' => HG.out.2.le v (Nat.lt_of_lt_of_le (List.mem_range.1 hv') hk)
    clear hrw hb3 KH
    go_wp2_with fail
    go_loop [6, 8] (fun v i => ∃ k : Nat, k ≤ m.up.length ∧ i = .int .i64 (k : Int) ∧ v = .int .i64 ((mxL h (List.range k) : Nat) : Int)) (fun _ i => m.up.length - (intOf i).toNat)
    case atStart => exact ⟨0, Nat.zero_le _, rfl, rfl⟩
    case round =>
      obtain ⟨b, hb, rfl, rfl⟩ := hrel
      by_cases hlb : b < m.up.length
      · have hbi : (b : Int) < (m.up.length : Int) := by omega
        have c1 := HC.out b hlb
        have HST := show Hid (mxL h (List.range (b + 1)) = max (mxL h (List.range b)) (h b)) from by
          show mxL h (List.range (b + 1)) = max (mxL h (List.range b)) (h b)
          rw [List.range_succ, mxL_snoc]
        have hm5 := HMX.out b (by omega)
        have hv5 := HG.out.2.le b hlb
        generalize mxL h (List.range b) = q at *
        go_wp2_with fail
        go_round
        case rel => exact ⟨b + 1, by omega, val_int (by omega), by rw [HST.out]; exact val_int (by first | omega | (split <;> omega))⟩
        case measure => (simp only [intOf]; omega)
      · obtain rfl : b = m.up.length := by omega
        go_wp2_with fail
        go_ret2
        exact ⟨_, 0, rfl, Or.inr ⟨HG.out.1, rfl, rfl⟩, HB3.out⟩
  · have HG := show Hid _ from hg
    clear hg
    go_wp2_with fail
    go_ret2
    exact ⟨0, 170, rfl, Or.inl ⟨HG.out, rfl, rfl⟩, HB2.out⟩
end Go.Proofs.YtjbnbaiidpdpoaaGreatDoor.Wm
