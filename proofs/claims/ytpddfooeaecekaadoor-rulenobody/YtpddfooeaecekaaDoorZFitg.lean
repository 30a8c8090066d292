/-
  fitting's function: it goes through the rules that fit, turn by turn, formula by formula, for every loop that keeps what it reads. No other condition.
-/
import Derived.Test.YtpddfooeaecekaaDoorZFitP
namespace Go.Proofs.YtpddfooeaecekaaDoor
open Go.RowKit Go.Shelf Go.Maps
open Fm (Nd)
open Bt.Bs (Ok wd)
set_option linter.unusedSimpArgs false
attribute [local go_sem] Oper.semAt_some

theorem undef_noZ {b : Bool} {p : Prop} (h : some undef = some (Value.bool b)) : p := by cases h
abbrev encP (x : Int × Int) : Array Value := #[Value.int .i64 x.1, Value.int .i64 x.2]
set_option maxRecDepth 100000 in
set_option maxHeartbeats 4000000 in
theorem fit1_any (n : Nat) (hn : 1 ≤ n) (l : Nat) {B N bt bw bm q qm cm k b T wb : Nat} {r : List Nat} (hr : Ok r) {g : Int} {L : List T3} {ts : List (List Int)} {ms : List Sh} (hts : ts.length ≤ 1000) (hms : ms.length ≤ 2000) (J Jx : List (Int × Int) → World → Prop)
    (hJ : ∀ pre W W', J pre W → Below W.heap.size W W' → J pre W')
    (hY : ∀ pre x W, J pre W → pre.length < (tl1 r g ms ts).length → YieldAt Fence.wide (n - 1) Tryd.prog l (encP x) W fun e W' =>
      (e = .returned (.bool true) ∧ J (pre ++ [x]) W' ∧ KQ B N W W') ∨ (e = .returned (.bool false) ∧ Jx (pre ++ [x]) W'))
    (W : World) (hM : FQ W B N bt bw bm q qm cm k b T wb r g L ts ms) (h0 : J [] W) :
    CallsIn Fence.wide n Tryd.prog 49 #[.func (.yield l) #[] #[], .pointer (some ⟨bt, 0, none⟩), .pointer (some ⟨bw, 0, none⟩), .pointer (some ⟨bm, 0, none⟩)] W fun e W' => (∃ v, e = .returned v) ∧
      ((∃ ys, ys = tl1 r g ms ts ∧ J ys W') ∨ (∃ pre, pre <+: tl1 r g ms ts ∧ Jx pre W')) := by
  have HJ := show Hid (∀ (pre : List (Int × Int)) (W W' : World), J pre W → Below W.heap.size W W' → J pre W') from hJ
  have HYY := show Hid (∀ (pre : List (Int × Int)) (x : Int × Int) (W : World), J pre W → pre.length < (tl1 r g ms ts).length → YieldAt Fence.wide (n - 1) Tryd.prog l (encP x) W fun e W' => (e = .returned (.bool true) ∧ J (pre ++ [x]) W' ∧ KQ B N W W') ∨ (e = .returned (.bool false) ∧ Jx (pre ++ [x]) W')) from hY
  have H0 := show Hid (J [] W ∧ FQ W B N bt bw bm q qm cm k b T wb r g L ts ms) from ⟨h0, hM⟩
  have HD1 := show Hid (∀ i, i < ts.length → tl1 r g ms (ts.drop i) = tl2 r g (plcs (ts.getD i [])) ms ++ tl1 r g ms (ts.drop (i + 1))) from fun i hi => tl1_drop r g ms ts i hi
  have HE1 := show Hid (tl1 r g ms (ts.drop ts.length) = []) from by show tl1 r g ms (ts.drop ts.length) = []; rw [List.drop_length]; rfl
  have HS1 := show Hid (tl1 r g ms (ts.drop 0) = tl1 r g ms ts) from rfl
  have c0 : W.cell? ⟨bt, 0, none⟩ = some (.slice (some ⟨q, 0, none⟩) ts.length ts.length) := hM.1.tb.cell 0
  clear hJ hY h0 hM
  obtain ⟨full, hfull⟩ : ∃ full, full = tl1 r g ms ts := ⟨_, rfl⟩
  rw [← hfull] at HYY HS1 ⊢
  clear hfull
  refine callsIn_of_wp Tryd.func49 rfl trivial ?_ rfl
  simp only [Tryd.ntmps49, List.size_toArray, List.length_cons, List.length_nil, Nat.reduceAdd, Nat.reduceSub, Array.replicate_succ, Array.replicate_zero, List.push_toArray, List.append_toArray, List.nil_append, List.cons_append]
  gi_wp2
  gi_loopw [14] (fun iv wr => ∃ (i : Nat) (pre : List (Int × Int)), i ≤ ts.length ∧ iv = .int .i64 (i : Int) ∧ Hid (full = pre ++ tl1 r g ms (ts.drop i) ∧ J pre wr ∧ FQ wr B N bt bw bm q qm cm k b T wb r g L ts ms)) (fun iv _ => ts.length - (intOf iv).toNat)
  case atStart => exact ⟨0, [], by omega, rfl, HS1.out.symm, H0.out⟩
  case round =>
    obtain ⟨i, pre, hi, rfl, HQ⟩ := hrel
    clear H0 HS1 c0
    by_cases hlt : i < ts.length
    · have hltI : (i : Int) < (ts.length : Int) := by omega
      obtain ⟨rv, hc1, hrv⟩ := HQ.out.2.2.1.tr.row i hlt
      have HD := show Hid _ from HD1.out i hlt
      have c1 : wr.cell? ⟨bw, 0, none⟩ = some (.pointer (some ⟨k, 0, none⟩)) := HQ.out.2.2.1.bx.cell 0
      have KO := show Hid _ from of_any wr HQ.out.2.2.1.md hr rv (ts.getD i []) hrv.isL
      clear HE1 hrv
      generalize ts.getD i [] = u at *
      gi_wp2_with (refine ⟨trivial, ?_⟩; gi_at_call 50; refine (callsIn_wide.2 KO.out).mono ?_; rintro e w2 ⟨q2, c2, rfl, hrt2, hq2, hb2⟩; have c3 : w2.cell? ⟨bm, 0, none⟩ = some (.slice (some ⟨qm, 0, none⟩) ms.length cm) := (HQ.out.2.2.later hb2).1.mb.cell 0)
      have H2 := show Hid (full = pre ++ tl2 r g (plcs u) (ms.drop 0) ++ tl1 r g ms (ts.drop (i + 1)) ∧ J pre w2 ∧ FQ w2 B N bt bw bm q qm cm k b T wb r g L ts ms ∧ Rt w2 q2 ((plcs u).map fun i => L.getD i t30)) from
        ⟨by rw [HQ.out.1, HD.out]; simp, HJ.out _ _ _ HQ.out.2.1 hb2, HQ.out.2.2.later hb2, hrt2⟩
      clear HQ hb2 hrt2 hq2 KO hc1 c1 c3 HD
      gi_loopw [23] (fun jv wr => ∃ (j : Nat) (pre : List (Int × Int)), j ≤ ms.length ∧ jv = .int .i64 (j : Int) ∧ Hid (full = pre ++ tl2 r g (plcs u) (ms.drop j) ++ tl1 r g ms (ts.drop (i + 1)) ∧ J pre wr ∧ FQ wr B N bt bw bm q qm cm k b T wb r g L ts ms ∧ Rt wr q2 ((plcs u).map fun i => L.getD i t30))) (fun jv _ => ms.length - (intOf jv).toNat)
      case atStart => exact ⟨0, pre, by omega, rfl, H2.out⟩
      case round =>
        obtain ⟨j, pre, hj, rfl, HQ⟩ := hrel
        clear H2
        by_cases hltj : j < ms.length
        · have hltJ : (j : Int) < (ms.length : Int) := by omega
          have HLD := show Hid _ from HQ.out.2.2.1.1.ml.load hltj
          have HD := show Hid _ from tl2_drop r g (plcs u) ms j hltj
          generalize ms[j] = m at *
          gi_wp2_with (first | (refine inLd 98 _ rfl _ rfl _ HLD.out rfl ?_) | (refine inAlloc 98 rfl _ zeroS rfl ?_))
          intro w3 b9 hn3
          gi_wp2_with (refine inSt 98 rfl rfl _ _ rfl b9 rfl (shC m) rfl _ _ hn3.blk sizeS rfl (shC_one m) ?_)
          intro w4 hc4 hk4
          have hb4 := bel_kp hn3.bel hk4 hn3.ge
          have H4 := show Hid (full = pre ++ tl3 r g m ((plcs u).drop 0) ++ (tl2 r g (plcs u) (ms.drop (j + 1)) ++ tl1 r g ms (ts.drop (i + 1))) ∧ J pre w4 ∧ FQ w4 B N bt bw bm q qm cm k b T wb r g L ts ms ∧ Rt w4 q2 ((plcs u).map fun i => L.getD i t30) ∧ Cl w4 b9 (shC m) 98) from
            ⟨by rw [HQ.out.1, HD.out]; simp, HJ.out _ _ _ HQ.out.2.1 hb4, HQ.out.2.2.1.later hb4, HQ.out.2.2.2.later hb4, hc4⟩
          clear HQ HD HLD hn3 hc4 hk4 hb4
          gi_wp2
          gi_loopw [29] (fun pv wr => ∃ (p : Nat) (pre : List (Int × Int)), p ≤ (plcs u).length ∧ pv = .int .i64 (p : Int) ∧ Hid (full = pre ++ tl3 r g m ((plcs u).drop p) ++ (tl2 r g (plcs u) (ms.drop (j + 1)) ++ tl1 r g ms (ts.drop (i + 1))) ∧ J pre wr ∧ FQ wr B N bt bw bm q qm cm k b T wb r g L ts ms ∧ Rt wr q2 ((plcs u).map fun i => L.getD i t30) ∧ Cl wr b9 (shC m) 98)) (fun pv _ => (plcs u).length - (intOf pv).toNat)
          case atStart => exact ⟨0, pre, by omega, rfl, H4.out⟩
          case round =>
            obtain ⟨p, pre, hp, rfl, HQ⟩ := hrel
            clear H4
            by_cases hltp : p < (plcs u).length
            · have hltP : (p : Int) < ((plcs u).length : Int) := by omega
              have hip := plcs_lt u p hltp
              have hpl := plcs_le u
              have HD := show Hid _ from tl3_drop r g m (plcs u) p hltp
              have hmp : p < ((plcs u).map fun i => L.getD i t30).length := by simpa using hltp
              have HLD := show Hid _ from HQ.out.2.2.2.1.load hmp
              have hil : (plcs u)[p] < L.length := by rw [HQ.out.2.2.1.1.md.len]; exact hip
              have hxe : ((plcs u).map fun i => L.getD i t30)[p] = L[(plcs u)[p]] := by
                rw [List.getElem_map]
                simp [List.getD, hil]
              rw [hxe] at HLD
              have HFX := show Hid _ from (HQ.out.2.2.1.1.md.fit _ hil).x
              have HXN := show Hid (L[(plcs u)[p]].n = (((plcs u)[p] : Nat) : Int) + 1) from HQ.out.2.2.1.1.md.num _ hil
              clear hxe hmp
              generalize L[(plcs u)[p]] = x at *
              generalize (plcs u)[p] = ip at *
              have HL9 := show Hid _ from ldS HQ.out.2.2.2.2
              gi_wp2_with (first | (refine inLd 96 _ rfl _ rfl _ HLD.out rfl ?_) | (refine inAlloc 96 rfl _ zeroT3 rfl ?_))
              intro w5 b11 hn5
              gi_wp2_with (refine inSt 96 rfl rfl _ _ rfl b11 rfl (c3 x).toArray rfl _ _ hn5.blk sizeT rfl (c3_all x) ?_)
              intro w6 hc6 hk6
              have hb6 := bel_kp hn5.bel hk6 hn5.ge
              have H6 := show Hid (J pre w6 ∧ FQ w6 B N bt bw bm q qm cm k b T wb r g L ts ms ∧ Rt w6 q2 ((plcs u).map fun i => L.getD i t30) ∧ Cl w6 b9 (shC m) 98 ∧ Cl w6 b11 (c3 x).toArray 96 ∧ Same wr w6) from
                ⟨HJ.out _ _ _ HQ.out.2.1 hb6, HQ.out.2.2.1.later hb6, HQ.out.2.2.2.1.later hb6, HQ.out.2.2.2.2.later hb6, hc6, Same.of_below hb6⟩
              have HF := show Hid (full = pre ++ (oneF r g m ip ++ tl3 r g m ((plcs u).drop (p + 1))) ++ (tl2 r g (plcs u) (ms.drop (j + 1)) ++ tl1 r g ms (ts.drop (i + 1)))) from by
                show full = _
                rw [HQ.out.1, HD.out]
              have KF := show Hid _ from HFX.out.2 w6 m H6.out.2.2.2.2.2
              have d1 : w6.cell? ⟨b11, 1, none⟩ = some x.fv := Cl.cell hc6 1
              have HL9b := show Hid _ from ldS H6.out.2.2.2.1
              clear HQ HD HLD hn5 hc6 hk6 hb6 HL9
              unfold shV at KF
              gi_wp2_with (first | (refine inLd 98 _ rfl _ rfl _ HL9b.out rfl ?_) | (refine inCallV rfl x.gf (.tmp 34) [.tmp 35] _ rfl [.agg (shC m)] x.cs rfl rfl HFX.out.1 ?_))
              refine Calls.mono KF.out ?_
              rintro e w7 ⟨rfl, hb7⟩
              refine ⟨_, rfl, ?_⟩
              have H7 := show Hid (J pre w7 ∧ FQ w7 B N bt bw bm q qm cm k b T wb r g L ts ms ∧ Rt w7 q2 ((plcs u).map fun i => L.getD i t30) ∧ Cl w7 b9 (shC m) 98 ∧ Cl w7 b11 (c3 x).toArray 96) from
                ⟨HJ.out _ _ _ H6.out.1 hb7, H6.out.2.1.later hb7, H6.out.2.2.1.later hb7, H6.out.2.2.2.1.later hb7, H6.out.2.2.2.2.1.later hb7⟩
              clear hb7 KF H6 d1 HL9b HFX
              cases hfit : fitS r g ip m
              · have H8 := show Hid (full = pre ++ tl3 r g m ((plcs u).drop (p + 1)) ++ (tl2 r g (plcs u) (ms.drop (j + 1)) ++ tl1 r g ms (ts.drop (i + 1)))) from by
                  show full = _
                  have := HF.out
                  unfold oneF at this
                  rw [hfit] at this
                  simpa using this
                clear HF hfit
                gi_wp2
                refine ⟨fun _ h => (by cases h), ?_⟩
                gi_wp2_with fail
                all_goals (first | exact undef_noZ (by assumption) | skip)
                go_roundw
                case rel => exact ⟨p + 1, pre, by omega, val_int (by omega), H8.out, H7.out.1, H7.out.2.1, H7.out.2.2.1, H7.out.2.2.2.1⟩
                case measure => (simp only [intOf]; omega)
              · have H8 := show Hid (full = (pre ++ [(x.n, m.id)]) ++ tl3 r g m ((plcs u).drop (p + 1)) ++ (tl2 r g (plcs u) (ms.drop (j + 1)) ++ tl1 r g ms (ts.drop (i + 1)))) from by
                  show full = _
                  have := HF.out
                  unfold oneF at this
                  rw [hfit, ← HXN.out] at this
                  simpa using this
                have e0 : w7.cell? ⟨b11, 0, none⟩ = some (.int .i64 x.n) := Cl.cell H7.out.2.2.2.2 0
                have e9 : w7.cell? ⟨b9, 0, none⟩ = some (.int .i64 m.id) := Cl.cell H7.out.2.2.2.1 0
                obtain ⟨fn, tmps, assign, body, hy, hR⟩ := HYY.out pre (x.n, m.id) w7 H7.out.1 (by rw [H8.out]; simp)
                simp only [encP] at hy
                clear HF hfit
                gi_wp2
                refine hR.mono ?_
                clear hR
                rintro e w8 (⟨rfl, hJ8, hk8⟩ | ⟨rfl, hJx8⟩)
                · have H9 := show Hid (J (pre ++ [(x.n, m.id)]) w8 ∧ FQ w8 B N bt bw bm q qm cm k b T wb r g L ts ms ∧ Rt w8 q2 ((plcs u).map fun i => L.getD i t30) ∧ Cl w8 b9 (shC m) 98) from
                    ⟨hJ8, H7.out.2.1.keep hk8, H7.out.2.2.1.same hk8.1, H7.out.2.2.2.1.same (by decide) (by decide) hk8.1⟩
                  clear hJ8 hk8 H7 e0 e9
                  gi_wp2
                  go_roundw
                  case rel => exact ⟨p + 1, pre ++ [(x.n, m.id)], by omega, val_int (by omega), H8.out, H9.out⟩
                  case measure => (simp only [intOf]; omega)
                · gi_wp2
                  refine bodyPost_ret (results_none rfl _ _ _) rfl ?_
                  exact ⟨⟨_, rfl⟩, .inr ⟨pre ++ [(x.n, m.id)], ⟨tl3 r g m ((plcs u).drop (p + 1)) ++ (tl2 r g (plcs u) (ms.drop (j + 1)) ++ tl1 r g ms (ts.drop (i + 1))), by rw [H8.out]; simp⟩, hJx8⟩⟩
            · obtain rfl : p = (plcs u).length := by omega
              have H5 := show Hid (full = pre ++ tl2 r g (plcs u) (ms.drop (j + 1)) ++ tl1 r g ms (ts.drop (i + 1)) ∧ J pre wr ∧ FQ wr B N bt bw bm q qm cm k b T wb r g L ts ms ∧ Rt wr q2 ((plcs u).map fun i => L.getD i t30)) from
                ⟨by have := HQ.out.1; rw [List.drop_length] at this; simpa [tl3] using this, HQ.out.2.1, HQ.out.2.2.1, HQ.out.2.2.2.1⟩
              clear HQ
              gi_wp2
              go_roundw
              case rel => exact ⟨j + 1, pre, by omega, val_int (by omega), H5.out⟩
              case measure => (simp only [intOf]; omega)
        · obtain rfl : j = ms.length := by omega
          have H5 := show Hid (full = pre ++ tl1 r g ms (ts.drop (i + 1)) ∧ J pre wr ∧ FQ wr B N bt bw bm q qm cm k b T wb r g L ts ms) from
            ⟨by have := HQ.out.1; rw [List.drop_length] at this; simpa [tl2] using this, HQ.out.2.1, HQ.out.2.2.1⟩
          clear HQ
          gi_wp2
          go_roundw
          case rel => exact ⟨i + 1, pre, by omega, val_int (by omega), H5.out⟩
          case measure => (simp only [intOf]; omega)
    · obtain rfl : i = ts.length := by omega
      have HK := show Hid (full = pre) from by
        have := HQ.out.1
        rw [HE1.out, List.append_nil] at this
        exact this
      clear HYY
      gi_wp2
      go_end0
      exact ⟨⟨_, rfl⟩, .inl ⟨pre, HK.out.symm, HQ.out.2.1⟩⟩
theorem fit_stops (n : Nat) (hn : 1 ≤ n) {B N bt bw bm q qm cm k b T wb : Nat} {r : List Nat} (hr : Ok r) {g : Int} {L : List T3} {ts : List (List Int)} {ms : List Sh} (hts : ts.length ≤ 1000) (hms : ms.length ≤ 2000) (w : World) (hM : FQ w B N bt bw bm q qm cm k b T wb r g L ts ms) :
    SeqStopsK Fence.wide n Tryd.prog 49 #[.pointer (some ⟨bt, 0, none⟩), .pointer (some ⟨bw, 0, none⟩), .pointer (some ⟨bm, 0, none⟩)] encP (KQ B N) (fun ys => ys = tl1 r g ms ts) (fun pre => pre <+: tl1 r g ms ts) (tl1 r g ms ts).length w := fun l J Jx W hW hJ _ hY h0 =>
  fit1_any n hn l hr hts hms J Jx (fun pre W W' h hb => hJ pre W W' none h ⟨hb.os, hb.tape, hb.output, hb.size, fun k hk _ => hb.block k hk⟩ (fun r e => by cases e)) hY W (hM.later hW) h0
end Go.Proofs.YtpddfooeaecekaaDoor
