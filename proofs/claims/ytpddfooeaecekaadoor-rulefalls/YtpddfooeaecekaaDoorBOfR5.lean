/-
  The document's Of: for every list of numbers. No condition.
-/
import Derived.Test.YtpddfooeaecekaaDoorBG4
namespace Go.Proofs.YtpddfooeaecekaaDoor.Bt
open Go.RowKit
open Bs (Ok wd)

theorem takeValS {ops : Array Oper} {Q : Exit → Act → World → Prop} {S : World → Prop} {fuel : Nat} {listed : Array Bool} {a : Act} {w : World} (i : Nat) (d : Option Tmp) {oi : Oper} (v : Value) (hi : ops[i]? = some oi) (hd : oi.dst = d) (hs : Region.noSelect ops = true) (hf : Region.free .any ops listed i = true) (hr : (Region.ready .any ops listed).contains i = true)
    (hQ : ∀ c a w, Q (.panic c) (a.put d v) w → Q (.panic c) a w) (hw : Region.wanted oi (yielded ops a.tmps) = true) (hrun : ∀ w, S w → (execOp a.eval oi).run Tryd.prog w = .ok (.value v) w) (hSw : S w)
    (h : wpAnyH Tryd.prog .any ops Q S fuel (listed.setIfInBounds i true) (a.put d v) w) : wpAnyH Tryd.prog .any ops Q S (fuel + 1) listed a w := by
  subst hd
  exact wpAnyH_take hi hs hf hr hQ (.inl ⟨hw, fun w hw' => hrun w hw'⟩) hSw h
set_option maxRecDepth 100000 in
set_option maxHeartbeats 4000000 in
theorem rof_any (w : World) (v : Value) (l : List Int) (hv : IsL w v l) : Calls Tryd.prog 35 #[v] w fun e w' => e = .returned (.tuple #[.agg (cellsB (ofR l Bs.zero).1), .int .i64 (ofR l Bs.zero).2]) ∧ Below w.heap.size w w' := by
  obtain ⟨p, c, rfl, hlen, hcell⟩ := hv
  have HC := show Hid (∀ k (hk : k < l.length), ∃ b o, p = some ⟨b, o, none⟩ ∧ w.cell? ⟨b, o + k, none⟩ = some (.int .i64 l[k])) from hcell
  have KW := show Hid (∀ (b : List Nat) (m : Nat) w, Ok b → m < 1024 → Calls Tryd.prog 51 #[.agg (cellsB b), .int .i64 (m : Int)] w fun e w' => e = .returned (.agg (cellsB (Bs.put b m))) ∧ Below w.heap.size w w') from fun b m w hb hm => with_any w hb m hm
  have HST := show Hid (∀ k (hk : k < l.length) b, ofR (l.drop k) b = if 0 ≤ l[k] ∧ l[k] < 1024 then ofR (l.drop (k + 1)) (Bs.put b (l[k]).toNat) else (Bs.zero, 50)) from fun k hk b => ofR_step l k hk b
  have HT := show Hid (PQ w ((w.alloc (.cells #[.int .u64 0, .int .u64 0, .int .u64 0, .int .u64 0, .int .u64 0, .int .u64 0, .int .u64 0, .int .u64 0, .int .u64 0, .int .u64 0, .int .u64 0, .int .u64 0, .int .u64 0, .int .u64 0, .int .u64 0, .int .u64 0] 25)).alloc (.cells (cellsB Bs.zero) 25)) Bs.zero) from ⟨(heap_two w _ _).1, (heap_two w _ _).2, below_two w _ _⟩
  have hsz1 : (w.alloc (.cells #[.int .u64 0, .int .u64 0, .int .u64 0, .int .u64 0, .int .u64 0, .int .u64 0, .int .u64 0, .int .u64 0, .int .u64 0, .int .u64 0, .int .u64 0, .int .u64 0, .int .u64 0, .int .u64 0, .int .u64 0, .int .u64 0] 25)).heap.size = w.heap.size + 1 := by simp
  have HZL := show Hid (Bs.zero.length = 16) from Bs.zero_ok.1
  have H0 := show Hid (ofR (l.drop 0) Bs.zero = ofR l Bs.zero) from rfl
  have HN := show Hid (∀ b, ofR (l.drop l.length) b = (b, 0)) from fun b => by
    show ofR (l.drop l.length) b = (b, 0)
    rw [List.drop_length]; rfl
  generalize ofR l Bs.zero = R at *
  clear hcell
  go_enter Tryd.func35, Tryd.ntmps35
  go_wp2_with (refine wpList_st (w.alloc (.cells #[.int .u64 0, .int .u64 0, .int .u64 0, .int .u64 0, .int .u64 0, .int .u64 0, .int .u64 0, .int .u64 0, .int .u64 0, .int .u64 0, .int .u64 0, .int .u64 0, .int .u64 0, .int .u64 0, .int .u64 0, .int .u64 0] 25)) _ _ _ rfl rfl rfl rfl (by rw [hsz1]; rfl) (r' := Bs.zero) rfl HZL.out ?_)
  clear hsz1
  generalize ((w.alloc (.cells #[.int .u64 0, .int .u64 0, .int .u64 0, .int .u64 0, .int .u64 0, .int .u64 0, .int .u64 0, .int .u64 0, .int .u64 0, .int .u64 0, .int .u64 0, .int .u64 0, .int .u64 0, .int .u64 0, .int .u64 0, .int .u64 0] 25)).alloc (.cells (cellsB Bs.zero) 25)) = w0 at *
  go_loopw [5] (fun n wr => ∃ (k : Nat) (b : List Nat), k ≤ l.length ∧ n = .int .i64 (k : Int) ∧ Hid (Ok b ∧ PQ w wr b ∧ ofR (l.drop k) b = R)) (fun n _ => l.length - (intOf n).toNat)
  case atStart => exact ⟨0, Bs.zero, by omega, rfl, Bs.zero_ok, HT.out, H0.out⟩
  case round =>
    obtain ⟨k, b, hk, rfl, HQ⟩ := hrel
    clear HT H0
    have HLB := show Hid (b.length = 16) from HQ.out.1.1
    by_cases hlt : k < l.length
    · obtain ⟨bb, o, rfl, hc0⟩ := HC.out k hlt
      have hc : wr.cell? ⟨bb, o + k, none⟩ = some (.int .i64 l[k]) := cell_later HQ.out.2.1.2.2 hc0
      have HS := HST.out k hlt b
      have hltI : (k : Int) < (l.length : Int) := by omega
      clear HC HST
      generalize l[k] = n at *
      by_cases hn : 0 ≤ n ∧ n < 1024
      · obtain ⟨m, rfl⟩ := Int.eq_ofNat_of_zero_le hn.1
        have hm : m < 1024 := by omega
        have HR := show Hid (ofR (l.drop (k + 1)) (Bs.put b m) = R) from by
          have := HQ.out.2.2
          rw [HS, if_pos hn] at this
          exact this
        have HPO := show Hid (Ok (Bs.put b m)) from Bs.put_ok HQ.out.1 m
        have KW2 := show Hid (∀ w, Calls Tryd.prog 51 #[.agg (cellsB b), .int .i64 (m : Int)] w fun e w' => e = .returned (.agg (cellsB (Bs.put b m))) ∧ Below w.heap.size w w') from fun w => KW.out b m w HQ.out.1 hm
        have HCC := show Hid (∀ wx, Below w.heap.size w wx → wx.cell? ⟨bb, o + k, none⟩ = some (.int .i64 (m : Int))) from fun wx h => cell_later h hc0
        clear KW HS hn hc0
        generalize Bs.put b m = b2 at *
        go_wp2
        clear hc
        refine wp_region_held_drew (S := fun wx => Below w.heap.size w wx) (by kernel_rfl) HQ.out.2.1.2.2.drew (fun hH => ?_)
        refine takeVal 1 (some 27) (.slice (some ⟨bb, o, none⟩) l.length c) rfl rfl (by kernel_rfl) (by kernel_rfl) (by kernel_rfl) (fun _ _ _ h => h) rfl (fun _ => rfl) hH ?_
        simp only [Act.put, List.setIfInBounds_toArray, List.set_cons_zero, List.set_cons_succ]
        refine takeVal 2 (some 28) (.int .i64 (k : Int)) rfl rfl (by kernel_rfl) (by kernel_rfl) (by kernel_rfl) (fun _ _ _ h => h) rfl (fun _ => rfl) hH ?_
        simp only [Act.put, List.setIfInBounds_toArray, List.set_cons_zero, List.set_cons_succ]
        refine takeVal 3 (some 29) (.pointer (some ⟨bb, o + k, none⟩)) rfl rfl (by kernel_rfl) (by kernel_rfl) (by kernel_rfl) (fun _ _ _ h => h) rfl (fun _ => by go_simp) hH ?_
        simp only [Act.put, List.setIfInBounds_toArray, List.set_cons_zero, List.set_cons_succ]
        refine takeValS 4 (some 30) (.int .i64 (m : Int)) rfl rfl (by kernel_rfl) (by kernel_rfl) (by kernel_rfl) (fun _ _ _ h => h) rfl (fun wx hx => by have hcc := HCC.out wx hx; go_simp) hH ?_
        simp only [Act.put, List.setIfInBounds_toArray, List.set_cons_zero, List.set_cons_succ]
        refine oneH 0 (by kernel_rfl) rfl ?_
        refine stepLoad 0 (some 26) rfl rfl _ rfl (w.heap.size + 1) rfl (r := b) HQ.out.2.1.2.1 HLB.out hH (fun _ => ?_)
        simp only [Act.put, List.setIfInBounds_toArray, List.set_cons_zero, List.set_cons_succ]
        refine oneH 5 (by kernel_rfl) rfl ?_
        refine stepCall 5 (some 31) rfl rfl 51 _ _ rfl [.agg (cellsB b), .int .i64 (m : Int)] rfl (fun _ _ => Tryd.call51 _ _) ?_
        refine (KW2.out _).mono ?_
        rintro e w3 ⟨rfl, hb⟩
        have HQ3 := show Hid (PQ w w3 b) from PQ.later (w := w) (wr := wr.drew) ⟨HQ.out.2.1.1, HQ.out.2.1.2.1, HQ.out.2.1.2.2.drew⟩ hb
        clear hb
        refine ⟨_, rfl, HQ3.out.2.2, fun hH3 => ?_⟩
        simp only [Act.put, List.setIfInBounds_toArray, List.set_cons_zero, List.set_cons_succ]
        refine oneH 6 (by kernel_rfl) rfl ?_
        refine stepStore 6 rfl rfl _ _ rfl (w.heap.size + 1) rfl (r' := b2) rfl (r := b) HQ3.out.2.1 HLB.out HPO.out.1 (below_setRow HQ3.out.2.2 (Nat.le_succ _) _) (fun hH5 => ?_)
        refine wpAnyH_done (by kernel_rfl) ?_ _
        have HQ5 := show Hid (PQ w (w3.setRow (w.heap.size + 1) (cellsB b2)) b2) from ⟨(setRow_other w3 (w.heap.size + 1) w.heap.size _ (by omega)).trans HQ3.out.1, HQ3.out.2.1.setRow b2, hH5⟩
        generalize w3.setRow (w.heap.size + 1) (cellsB b2) = w5 at *
        clear hH hH3 hH5 HQ3 KW2 HCC
        go_wp2
        go_roundw
        case rel => exact ⟨k + 1, b2, by omega, val_int (by omega), HPO.out, HQ5.out, HR.out⟩
        case measure => (simp only [intOf]; omega)
      · have HR := show Hid (R = (Bs.zero, 50)) from by
          have := HQ.out.2.2
          rw [HS, if_neg hn] at this
          exact this.symm
        clear KW HS hc0
        by_cases h0 : 0 ≤ n
        · have h1 : ¬ n < 1024 := fun h => hn ⟨h0, h⟩
          clear hn
          go_wp2_with (refine wpList_store16 _ rfl rfl _ _ rfl _ rfl (r' := Bs.zero) rfl (r := Bs.zero) HQ.out.2.1.1 Bs.zero_ok.1 Bs.zero_ok.1 ?_)
          refine bodyPost_ret (results_bits_tmp rfl _ _ w.heap.size (r := Bs.zero) rfl (RowAt.setRow (r := Bs.zero) HQ.out.2.1.1 Bs.zero) Bs.zero_ok.1) rfl ?_
          exact ⟨by rw [HR.out]; rfl, below_setRow HQ.out.2.1.2.2 (Nat.le_refl _) _⟩
        · clear hn
          go_wp2_with (refine wpList_store16 _ rfl rfl _ _ rfl _ rfl (r' := Bs.zero) rfl (r := Bs.zero) HQ.out.2.1.1 Bs.zero_ok.1 Bs.zero_ok.1 ?_)
          refine bodyPost_ret (results_bits_tmp rfl _ _ w.heap.size (r := Bs.zero) rfl (RowAt.setRow (r := Bs.zero) HQ.out.2.1.1 Bs.zero) Bs.zero_ok.1) rfl ?_
          exact ⟨by rw [HR.out]; rfl, below_setRow HQ.out.2.1.2.2 (Nat.le_refl _) _⟩
    · have HR := show Hid (R = (b, 0)) from by
        have := HQ.out.2.2
        rw [show k = l.length by omega, HN.out b] at this
        exact this.symm
      have hge : ¬ (k : Int) < (l.length : Int) := by omega
      clear KW HST HC
      go_wp2_with (first | (refine wpList_ld _ _ rfl _ rfl (r := b) HQ.out.2.1.2.1 HLB.out rfl ?_) | (refine wpList_store16 _ rfl rfl _ _ rfl _ rfl rfl (r := Bs.zero) HQ.out.2.1.1 Bs.zero_ok.1 HLB.out ?_))
      refine bodyPost_ret (results_bits_tmp rfl _ _ w.heap.size (r := b) rfl (RowAt.setRow (r := Bs.zero) HQ.out.2.1.1 b) HLB.out) rfl ?_
      exact ⟨by rw [HR.out]; rfl, below_setRow HQ.out.2.1.2.2 (Nat.le_refl _) _⟩
end Go.Proofs.YtpddfooeaecekaaDoor.Bt
