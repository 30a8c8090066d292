/-
  The call with of a sequent: for every sequent and every row of numbers. No condition.
-/
import Derived.Test.YtpddfooeaecekaaDoorZTo
namespace Go.Proofs.YtpddfooeaecekaaDoor
open Go.RowKit Go.Shelf Go.Maps
open Fm (Nd)
open Bt.Bs (Ok wd)
set_option linter.unusedSimpArgs false

def withF : List Nat → List Int → List Nat
  | r, [] => r
  | r, x :: l => withF (Bt.putI r x).1 l
theorem putI_okZ {r : List Nat} (h : Ok r) (n : Int) : Ok (Bt.putI r n).1 := by
  unfold Bt.putI
  split
  · exact Bt.Bs.put_ok h _
  · exact Bt.Bs.zero_ok
theorem withF_ok : ∀ (l : List Int) {r : List Nat}, Ok r → Ok (withF r l)
  | [], _, h => h
  | x :: l, _, h => withF_ok l (putI_okZ h x)
theorem withF_drop (r : List Nat) (l : List Int) (k : Nat) (hk : k < l.length) : withF r (l.drop k) = withF (Bt.putI r l[k]).1 (l.drop (k + 1)) := by
  rw [List.drop_eq_getElem_cons hk, withF]
set_option maxRecDepth 100000 in
set_option maxHeartbeats 2000000 in
theorem withq_any (w : World) {r : List Nat} (hr : Ok r) (g : Int) (v : Value) (xs : List Int) (hv : Bt.IsL w v xs) : Calls Tryd.prog 67 #[.agg (cellsQ r g), v] w fun e w' => e = .returned (.agg (cellsQ (withF r xs) g)) ∧ Below w.heap.size w w' := by
  obtain ⟨p, c, rfl, hlen, hcell⟩ := hv
  have KP := show Hid (∀ (b : List Nat) (x : Int) w, Ok b → Calls Tryd.prog 94 #[.agg (Bt.cellsB b), .int .i64 x] w fun e w' => e = .returned (.tuple #[.agg (Bt.cellsB (Bt.putI b x).1), .int .i64 (Bt.putI b x).2]) ∧ Below w.heap.size w w') from fun b x w hb => Bt.put_any w hb x
  have HC := show Hid (∀ k (hk : k < xs.length), ∃ b o, p = some ⟨b, o, none⟩ ∧ w.cell? ⟨b, o + k, none⟩ = some (.int .i64 xs[k])) from hcell
  have HD := show Hid (∀ k (hk : k < xs.length) b, withF b (xs.drop k) = withF (Bt.putI b xs[k]).1 (xs.drop (k + 1))) from fun k hk b => withF_drop b xs k hk
  have HN := show Hid (∀ b, withF b (xs.drop xs.length) = b) from fun b => by
    show withF b (xs.drop xs.length) = b
    rw [List.drop_length]; rfl
  have H0 := show Hid (withF r (xs.drop 0) = withF r xs) from rfl
  have HR := show Hid (Ok r) from hr
  clear hcell hr
  generalize withF r xs = R at *
  go_enter Tryd.func67, Tryd.ntmps67
  go_wp2_with (refine wpList_box _ _ rfl _ rfl rfl ?_)
  intro w1 b1 hn1
  go_wp2_with (refine wpList_alloc _ rfl _ zeroValQ rfl ?_)
  intro w2 b2 hn2
  obtain ⟨rfl, rfl, hq⟩ := two_new hn1 hn2
  have HQ := show Hid _ from hq
  clear hn1 hn2 hq
  go_wp2_with fail
  go_loopw [9] (fun n wr => ∃ (k : Nat) (b : List Nat), k ≤ xs.length ∧ n = .int .i64 (k : Int) ∧ Hid (Ok b ∧ Q2 w wr b g ∧ withF b (xs.drop k) = R)) (fun n _ => xs.length - (intOf n).toNat)
  case atStart => exact ⟨0, r, by omega, rfl, HR.out, HQ.out, H0.out⟩
  case round =>
    obtain ⟨k, b, hk, rfl, HI⟩ := hrel
    clear HQ H0 HR
    have hl := HI.out.1.1
    by_cases hlt : k < xs.length
    · obtain ⟨bb, o, rfl, hc0⟩ := HC.out k hlt
      have hc : wr.cell? ⟨bb, o + k, none⟩ = some (.int .i64 xs[k]) := cell_later HI.out.2.1.bel hc0
      have hltI : (k : Int) < (xs.length : Int) := by omega
      have KX := show Hid _ from KP.out b xs[k] wr HI.out.1
      have HD2 := show Hid _ from HD.out k hlt b
      have HO2 := show Hid _ from putI_okZ HI.out.1 xs[k]
      clear HC HD HN hc0 KP
      generalize xs[k] = x at *
      go_wp2_with (refine wpList_ldQ _ _ rfl _ rfl HI.out.2.1.s hl rfl ?_)
      refine Calls.mono KX.out ?_
      rintro e w1 ⟨rfl, hb1⟩
      have HQ1 := show Hid _ from HI.out.2.1.later hb1
      have HR2 := show Hid (withF (Bt.putI b x).1 (xs.drop (k + 1)) = R) from HD2.out.symm.trans HI.out.2.2
      generalize (Bt.putI b x).1 = b' at *
      clear KX hb1 HD2 hc
      go_wp2_with (refine wpList_stBQ _ rfl rfl _ _ rfl _ rfl rfl HQ1.out.s hl HO2.out.1 ?_)
      intro w3 hs3 hk3
      have HQ3 := show Hid _ from HQ1.out.put hs3 hk3
      clear hs3 hk3 HQ1
      go_wp2_with fail
      go_roundw
      case rel => exact ⟨k + 1, b', by omega, val_int (by omega), HO2.out, HQ3.out, HR2.out⟩
      case measure => (simp only [intOf]; omega)
    · obtain rfl : k = xs.length := by omega
      have hR := HN.out b
      rw [HI.out.2.2] at hR
      subst hR
      clear HC HD HN KP
      go_wp2_with (first | (refine wpList_ldQQ _ _ rfl _ rfl HI.out.2.1.s hl rfl ?_) | (refine wpList_stQ _ rfl rfl _ _ rfl _ rfl rfl HI.out.2.1.z zero_len hl ?_))
      refine bodyPost_ret (results_seq1 rfl _ _ (w.heap.size + 1) rfl (HI.out.2.1.z.setRow _ _) hl) rfl ?_
      exact ⟨rfl, below_setRow HI.out.2.1.bel (Nat.le_succ _)⟩
end Go.Proofs.YtpddfooeaecekaaDoor
