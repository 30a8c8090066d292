/-
  The document's Parse: of any text. No condition but what a machine can hold.
-/
import Derived.Test.YtjbnbaiidpdpoaaDoorTG1
import Derived.Test.YtjbnbaiidpdpoaaDoorTG2
import Derived.Test.YtjbnbaiidpdpoaaDoorWTid
namespace Go.Proofs.YtjbnbaiidpdpoaaDoor.Wm
open Go.RowKit Go.Maps
open Wd (Md)
set_option linter.unusedSimpArgs false
set_option linter.unusedVariables false

theorem OwnN.keep {B : Nat} {w w' : World} {v : Value} {l : List ByteArray} {T : TypeId} (h : OwnN B w v l) (hs : St B T 9 w w') : OwnN B w' v l := own_kp h fun k cs hk hc _ => hs k cs _ hk (Or.inr rfl) hc
theorem OwnZ.keep {B : Nat} {w w' : World} {v : Value} {l : List Int} {T : TypeId} (h : OwnZ B w v l) (hs : St B T 3 w w') : OwnZ B w' v l := own_kp h fun k cs hk hc _ => hs k cs _ hk (Or.inr rfl) hc
theorem run_ldM' {w : World} {b : Nat} {u v : Value} (h : Cl w b #[u, v] 25) : (Instr.loadAt 25 (.pointer (some ⟨b, 0, none⟩))).run Tryd.prog w = .ok (.agg #[u, v]) w := by
  simp only [Instr.loadAt, Instr.sureAddr, Sem.run_bind, Sem.run_pure, Result.andThen]
  exact run_loadVar_row w b 25 25 #[u, v] _ _ h Tryd.underlying25 rfl sizeM
theorem check_det' (m : Md) : ∃ er : Int, ∀ er', ((Wd.Good m ∧ er' = 0) ∨ (¬ Wd.Good m ∧ er' = 170)) → er' = er := by
  by_cases hG : Wd.Good m
  · exact ⟨0, fun er' h => h.elim (fun h => h.2) fun h => absurd hG h.1⟩
  · exact ⟨170, fun er' h => h.elim (fun h => absurd h.1 hG) fun h => h.2⟩
theorem beq_is {x : ByteArray} {l : List UInt8} (h : x = baOf l) : (x.toList == l) = true := by
  rw [h, ByteArray.toList_eq]
  exact beq_self_eq_true l
theorem beq_no {x : ByteArray} {l : List UInt8} (h : ¬ x = baOf l) : (x.toList == l) = false := by
  rw [beq_eq_false_iff_ne, ByteArray.toList_eq]
  exact fun e => h (ba_ext e)
theorem par_no {w W : World} {b2 : Nat} {s : ByteArray} (hc : Cl W b2 #[.slice none 0 0, .slice none 0 0] 25) (h2 : w.heap.size ≤ b2) (hb : Below w.heap.size w W) (hn : ¬ PO s) :
    Cl ((W.setCell ⟨b2, 0, none⟩ (.slice none 0 0)).setCell ⟨b2, 1, none⟩ (.slice none 0 0)) b2 #[.slice none 0 0, .slice none 0 0] 25 ∧ ParR ((W.setCell ⟨b2, 0, none⟩ (.slice none 0 0)).setCell ⟨b2, 1, none⟩ (.slice none 0 0)) w.heap.size s (.slice none 0 0) (.slice none 0 0) 170 ∧ Below w.heap.size w ((W.setCell ⟨b2, 0, none⟩ (.slice none 0 0)).setCell ⟨b2, 1, none⟩ (.slice none 0 0)) := by
  have h := set2 hc (.slice none 0 0) (.slice none 0 0)
  exact ⟨h.1, Or.inr ⟨hn, rfl, rfl, rfl⟩, hb.trans (h.2.below hb.size fun k e => by omega)⟩
set_option maxRecDepth 100000 in
set_option maxHeartbeats 16000000 in
theorem rparse_any (w : World) (s : ByteArray) :
    Calls Tryd.prog 7 #[.string s] w fun e w' => ∃ uv vv er, e = .returned (.tuple #[.agg #[uv, vv], .int .i64 er]) ∧ ParR w' w.heap.size s uv vv er ∧ Below w.heap.size w w' := by
  obtain ⟨i0, hi, hz0, hz1, hz2⟩ := info_parts infoI
  obtain ⟨iT, hiT, hT0, hT1, hT2⟩ := info_parts infoT
  obtain ⟨i9, hi9, hz90, hz91, hz92⟩ := info_parts infoLI
  obtain ⟨iS, hiS, hS0, hS1, hS2⟩ := info_parts infoLS
  go_enter Tryd.func7, Tryd.ntmps7
  go_wp2_with (refine wpList_alloc 25 rfl _ zero_md rfl ?_)
  intro w1 b2 hn1
  have H1 := show Hid (Cl w1 b2 #[.slice none 0 0, .slice none 0 0] 25 ∧ Below w.heap.size w w1 ∧ w.heap.size ≤ b2) from ⟨hn1.blk, hn1.bel, hn1.ge⟩
  clear hn1
  by_cases hs : s.size ≤ 65536
  · have hsi : decide (65536 < (s.size : Int)) = false := decide_eq_false (by omega)
    go_wp2_with (refine wpList_alloc 25 rfl _ zero_md rfl ?_)
    intro w2 b4 hn2
    have H2 := show Hid (Cl w2 b2 #[.slice none 0 0, .slice none 0 0] 25 ∧ Cl w2 b4 #[.slice none 0 0, .slice none 0 0] 25 ∧ Below w.heap.size w w2 ∧ b2 < b4 ∧ w.heap.size ≤ b2) from ⟨H1.out.1.later hn2.bel, hn2.blk, H1.out.2.1.trans (hn2.bel.mono H1.out.2.1.size), by have := hn2.ge; have := H1.out.1.lt; omega, H1.out.2.2⟩
    clear hn2 H1
    go_wp2_with (refine wpList_st 25 rfl rfl _ _ rfl b4 rfl _ rfl _ _ H2.out.2.1 sizeM rfl (by simp [Value.oneCell']) ?_)
    intro wA hcA hkA
    have HT0 := show Hid (Td wA wA b4 (.slice none 0 0) (.slice none 0 0) [] []) from ⟨hcA, ⟨[], World.ownsRow_nil _ _ _ _, fun i hi => absurd hi (Nat.not_lt_zero _)⟩, ⟨[], World.ownsRow_nil _ _ _ _, fun i hi => absurd hi (by simp)⟩, Kp.refl _ _⟩
    -- what stands behind the loop's start
    have HB := show Hid (∀ W, Kp (fun k => k = b4) wA W → Cl W b2 #[.slice none 0 0, .slice none 0 0] 25 ∧ Below w.heap.size w W) from fun W hW => by
      have hk := hkA.trans hW fun _ h => Or.inl h
      obtain ⟨x1, x2, x3, x4, x5⟩ := H2.out
      exact ⟨x1.kp hk (by omega), x3.trans (hk.below x3.size fun k e => by omega)⟩
    have HN4 := show Hid (b4 < wA.heap.size ∧ b2 < b4 ∧ w.heap.size ≤ b2) from ⟨hcA.lt, H2.out.2.2.2⟩
    have HS := show Hid (s.size ≤ 65536) from hs
    clear hcA hkA H2
    go_wp2_with fail
    go_loopw [5, 6, 7, 8, 9, 10, 11, 12, 13] (fun at' i _ _ _ _ _ _ _ wr => ∃ (k j : Nat) (U : List (List Int)) (V : List (List ByteArray)), at' = .int .i64 (j : Int) ∧ i = .int .i64 (k : Int) ∧ k ≤ s.size ∧ Hid (LI s k j U V) ∧ Hid (∃ uk vk, Td wA wr b4 uk vk U V)) (fun _ i _ _ _ _ _ _ _ _ => s.size - (intOf i).toNat)
    case atStart => exact ⟨0, 0, [], [], rfl, rfl, Nat.zero_le _, LI.start s, _, _, HT0.out⟩
    case round =>
      clear HT0
      obtain ⟨k, j, U, V, rfl, rfl, hk, HI, HTD⟩ := hrel
      by_cases hlt : k < s.size
      · have hlti : (k : Int) < (s.size : Int) := by omega
        have hjk := HI.out.hj
        by_cases hc : ((s[k].toNat : Int) == 10) = true
        · have hcn : ((s[k].toNat : Int) != 10) = false := by simp only [bne, hc, Bool.not_true]
          have hex : (s.extract j k).size ≤ 65536 := by rw [ByteArray.size_extract]; omega
          have KW := show Hid _ from words_any wr (s.extract j k) hex
          have HLC := show Hid (((s[k].toNat : Int) == 10) = true) from hc
          clear hc
          go_wp2_with fail
          refine Calls.mono KW.out ?_
          rintro e w7 ⟨vw, rfl, ho7, hb7⟩
          obtain ⟨uk, vk, hTD⟩ := HTD.out
          have HTD7 := show Hid (Td wA w7 b4 uk vk U V) from ⟨hTD.m.later hb7, hTD.up.keep (St.of_below hb7), hTD.val.keep (St.of_below hb7), hTD.kp.trans (Kp.of_below (S := fun _ => False) hb7) fun _ h => h.elim⟩
          have HKB := show Hid (∀ W, Below w7.heap.size w7 W → Cl W b2 #[.slice none 0 0, .slice none 0 0] 25 ∧ Below w.heap.size w W) from fun W hW => HB.out W (HTD7.out.kp.trans (Kp.of_below (S := fun _ => False) hW) fun _ h => h.elim)
          obtain ⟨ws, hws⟩ : ∃ ws, ws = wordsB (s.extract j k).data.toList := ⟨_, rfl⟩
          have HWS := show Hid (wordsB (s.extract j k).data.toList = ws) from hws.symm
          have HOK := show Hid (1 ≤ ws.length ∧ ws.length ≤ 65537 ∧ ∀ y ∈ ws, y.size ≤ 65536) from by
            have h := wordsB_ok (x := (s.extract j k).data.toList) hex
            rw [← hws] at h
            exact h
          rw [← hws] at ho7
          have hwl := HOK.out.2.1
          obtain ⟨pw, cw, rfl⟩ := ho7.slice
          have HWN := show Hid (∀ W, Below w7.heap.size w7 W → ∀ (q : Nat) (hq : q < ws.length), ∃ bw ow, pw = some ⟨bw, ow, none⟩ ∧ W.cell? ⟨bw, ow + q, none⟩ = some (.string ws[q])) from fun W hW q hq => by
            obtain ⟨b, o, hb, e, h⟩ := (IsS.at (OwnN.isN ho7)).2 (by omega)
            obtain ⟨x, hx, rfl⟩ := h q hq
            exact ⟨b, o, e, (World.cell?_of_block (a := ⟨b, o + q, none⟩) (hW.block b hb)).trans hx⟩
          clear hws ho7 hb7 hTD HTD KW hex
          go_wp2_with fail
          go_loopw [8, 9, 10, 11, 12, 13] (fun u v nm q _ _ wr => ∃ (qq : Nat) (ul : List Int) (vl : List ByteArray) (n : Bool), nm = .bool n ∧ q = .int .i64 (qq : Int) ∧ qq ≤ ws.length ∧ Hid (WI ws qq ul vl n) ∧ Hid (OwnZ w7.heap.size wr u ul ∧ OwnN w7.heap.size wr v vl ∧ Below w7.heap.size w7 wr)) (fun _ _ _ q _ _ _ => ws.length - (intOf q).toNat)
          case atStart => exact ⟨1, [], [], false, rfl, rfl, HOK.out.1, WI.start ws, World.ownsRow_nil _ _ _ _, World.ownsRow_nil _ _ _ _, Below.refl _ _⟩
          case round =>
            obtain ⟨q, ul, vl, n, rfl, rfl, hq, HWI, HO⟩ := hrel
            by_cases hql : q < ws.length
            · have hqi : (q : Int) < (ws.length : Int) := by omega
              obtain ⟨bw, ow, rfl, hcw⟩ := HWN.out _ HO.out.2.2 q hql
              have hxs := HOK.out.2.2 _ (List.getElem_mem hql)
              have HC := show Hid (ws[q] = baOf [58] → WI ws (q + 1) ul vl true) from HWI.out.colon hql
              have HNM := show Hid (n = true → ¬ ws[q] = baOf [58] → WI ws (q + 1) ul (vl ++ [ws[q]]) true) from fun hn h => WI.name (by rw [← hn]; exact HWI.out) hql h hxs
              have HAR := show Hid (n = false → ¬ ws[q] = baOf [58] → ws[q] = baOf [62] → WI ws (q + 1) ul vl false) from fun hn h h' => WI.arrow (by rw [← hn]; exact HWI.out) hql h h'
              have HNU := show Hid (n = false → ¬ ws[q] = baOf [58] → ¬ ws[q] = baOf [62] → ((undecB ws[q] 512).2 = 0 ∧ 0 ≤ (undecB ws[q] 512).1 ∧ (undecB ws[q] 512).1 ≤ 512) → WI ws (q + 1) (ul ++ [(undecB ws[q] 512).1]) vl false) from fun hn h h' hu => WI.num (by rw [← hn]; exact HWI.out) hql h h' hu
              have HNN := show Hid (n = false → ¬ ws[q] = baOf [58] → ¬ ws[q] = baOf [62] → (undecB ws[q] 512).2 = 2 → ¬ PO s) from fun hn h h' hu => po_no (HI.out.bad hlt HLC.out (by rw [HWS.out]; exact WI.none (by rw [← hn]; exact HWI.out) hql h h' hu))
              have hul := HWI.out.lu
              have hvl := HWI.out.lv
              clear HWI HTD7
              generalize ws[q] = x at *
              have hwr := HO.out.2.2.size
              by_cases hx : x = baOf [58]
              · have q1 := beq_is hx
                have HN := show Hid _ from HC.out hx
                clear hx HC HNM HAR HNU HNN hul hvl
                go_wp2_with fail
                go_roundw
                case rel => exact ⟨q + 1, ul, vl, true, rfl, val_int (by omega), by omega, HN.out, HO.out⟩
                case measure => (simp only [intOf]; omega)
              · have q1 := beq_no hx
                cases hn : n
                · rw [hn] at HNM HAR HNU HNN
                  by_cases hy : x = baOf [62]
                  · have q2 := beq_is hy
                    have HN := show Hid _ from HAR.out rfl hx hy
                    clear hx hy HC HNM HAR HNU HNN hul hvl hn
                    go_wp2_with fail
                    go_roundw
                    case rel => exact ⟨q + 1, ul, vl, false, rfl, val_int (by omega), by omega, HN.out, HO.out⟩
                    case measure => (simp only [intOf]; omega)
                  · have q2 := beq_no hy
                    have KU := show Hid _ from rundec_all wr x 512 (by omega)
                    have HNU2 := show Hid _ from HNU.out rfl hx hy
                    have HNN2 := show Hid _ from HNN.out rfl hx hy
                    have hfit := undec_fits x 512
                    clear hx hy HC HNM HAR HNU HNN hn
                    generalize (undecB x 512).1 = r at *
                    generalize (undecB x 512).2 = er at *
                    go_wp2_with fail
                    refine Calls.mono KU.out ?_
                    rintro e w8 ⟨rfl, hb8⟩
                    have HO8 := show Hid (OwnZ w7.heap.size w8 _ ul ∧ OwnN w7.heap.size w8 _ vl ∧ Below w7.heap.size w7 w8) from ⟨HO.out.1.later hb8, HO.out.2.1.later hb8, HO.out.2.2.trans (hb8.mono HO.out.2.2.size)⟩
                    clear hb8 KU HO hwr
                    rcases hfit with ⟨h1, h2, h3⟩ | h1
                    · have HN := show Hid _ from HNU2.out ⟨h1, h2, h3⟩
                      subst h1
                      obtain ⟨pz, cz, rfl⟩ := HO8.out.1.slice
                      go_wp2_with (at_builtin; refine wpList_append_own _ rfl (.tmp 74) (.tmp 76) 42 rfl w7.heap.size 3 i0 (.int .i64 0) 1 8 Tryd.underlying42 hi hz0 hz1 hz2 rfl (by decide) _ ul.length (ul.map (Value.int .i64)) rfl (HO8.out.1.later (below_alloc w8 _)) ⟨w8.heap.size, 0, none⟩ 1 1 [.int .i64 r] rfl rfl (cell_one_new _ _ _) (by simp [Value.oneCell']) (by unfold maxLen; omega) (by omega) (by have := HO8.out.2.2.size; simp; omega) ?_)
                      intro v' w9 ho3 hg3 _
                      have HQ := show Hid (OwnZ w7.heap.size w9 v' (ul ++ [r]) ∧ OwnN w7.heap.size w9 _ vl ∧ Below w7.heap.size w7 w9) from by
                        have h := HO8.out.1.grow ho3 hg3 HO8.out.2.2.size
                        exact ⟨h.1, (HO8.out.2.1.later (below_alloc w8 _)).keep (T := 39) (St.of_grow (HO8.out.1.later (below_alloc w8 _)) hg3 (by decide) (by decide)), HO8.out.2.2.trans h.2⟩
                      clear ho3 hg3 HO8
                      go_wp2_with fail
                      go_roundw
                      case rel => exact ⟨q + 1, _, vl, false, rfl, val_int (by omega), by omega, HN.out, HQ.out⟩
                      case measure => (simp only [intOf]; omega)
                    · have HNO := show Hid _ from HNN2.out h1
                      subst h1
                      have r20 : w8.cell? ⟨b2, 0, none⟩ = some (.slice none 0 0) := (HKB.out w8 HO8.out.2.2).1.cell 0
                      have r21 : w8.cell? ⟨b2, 1, none⟩ = some (.slice none 0 0) := (HKB.out w8 HO8.out.2.2).1.cell 1
                      have f20 : w8.frozen? ⟨b2, 0, none⟩ = false := (HKB.out w8 HO8.out.2.2).1.fr 0
                      have f21 : w8.frozen? ⟨b2, 1, none⟩ = false := (HKB.out w8 HO8.out.2.2).1.fr 1
                      have HE := show Hid _ from par_no (HKB.out w8 HO8.out.2.2).1 HN4.out.2.2 (HKB.out w8 HO8.out.2.2).2 HNO.out
                      go_wp2_with fail
                      refine bodyPost_ret (results_m_tmp rfl _ _ b2 rfl HE.out.1) rfl ?_
                      exact ⟨_, _, 170, rfl, HE.out.2.1, HE.out.2.2⟩
                · rw [hn] at HNM
                  have HN := show Hid _ from HNM.out rfl hx
                  clear hx HC HNM HAR HNU HNN hn
                  obtain ⟨pv, cv, rfl⟩ := HO.out.2.1.slice
                  go_wp2_with (at_builtin; refine wpList_append_own _ rfl (.tmp 50) (.tmp 55) 39 rfl w7.heap.size 9 iT (.string ⟨#[]⟩) 1 16 Tryd.underlying39 hiT hT0 hT1 hT2 rfl (by decide) _ vl.length (vl.map Value.string) rfl (HO.out.2.1.later (below_alloc wr _)) ⟨wr.heap.size, 0, none⟩ 1 1 [.string x] rfl rfl (cell_one_new _ _ _) (by simp [Value.oneCell']) (by unfold maxLen; omega) (by omega) (by have := HO.out.2.2.size; simp; omega) ?_)
                  intro v' w9 ho3 hg3 _
                  have HQ := show Hid (OwnZ w7.heap.size w9 _ ul ∧ OwnN w7.heap.size w9 v' (vl ++ [x]) ∧ Below w7.heap.size w7 w9) from by
                    have h := HO.out.2.1.grow ho3 hg3 HO.out.2.2.size
                    exact ⟨(HO.out.1.later (below_alloc wr _)).keep (T := 42) (St.of_grow (HO.out.2.1.later (below_alloc wr _)) hg3 (by decide) (by decide)), h.1, HO.out.2.2.trans h.2⟩
                  clear ho3 hg3 HO
                  go_wp2_with fail
                  go_roundw
                  case rel => exact ⟨q + 1, ul, _, true, rfl, val_int (by omega), by omega, HN.out, HQ.out⟩
                  case measure => (simp only [intOf]; omega)
            · obtain rfl : q = ws.length := by omega
              have hqi : ¬ (ws.length : Int) < (ws.length : Int) := by omega
              have HRU := show Hid (runW [] [] false ((wordsB (s.extract j k).data.toList).drop 1) = some (ul, vl)) from by
                rw [HWS.out]
                exact HWI.out.fin (Nat.le_refl _)
              have HFU := show Hid ((ul.length ≤ 65538 ∧ ∀ i ∈ ul, 0 ≤ i ∧ i ≤ 512) ∧ (vl.length ≤ 65538 ∧ ∀ y ∈ vl, y.size ≤ 65536)) from ⟨⟨by have := HWI.out.lu; omega, HWI.out.fu⟩, ⟨by have := HWI.out.lv; omega, HWI.out.fv⟩⟩
              obtain ⟨pz, cz, rfl⟩ := HO.out.1.slice
              obtain ⟨pn, cn, rfl⟩ := HO.out.2.1.slice
              have hTD : Td wA wr b4 uk vk U V := ⟨HTD7.out.m.later HO.out.2.2, HTD7.out.up.keep (St.of_below HO.out.2.2), HTD7.out.val.keep (St.of_below HO.out.2.2), HTD7.out.kp.trans (Kp.of_below (S := fun _ => False) HO.out.2.2) fun _ h => h.elim⟩
              have HWS2 := show Hid (wA.heap.size ≤ wr.heap.size ∧ wA.heap.size ≤ w7.heap.size) from ⟨Nat.le_trans HTD7.out.sz HO.out.2.2.size, HTD7.out.sz⟩
              have HOW := show Hid (OwnZ w7.heap.size wr (.slice pz ul.length cz) ul ∧ OwnN w7.heap.size wr (.slice pn vl.length cn) vl) from ⟨HO.out.1, HO.out.2.1⟩
              have hul := HI.out.le
              have HLN := show Hid (V.length = U.length) from HI.out.len
              have HZ6 := show Hid (b4 < wA.heap.size) from HN4.out.1
              clear HTD7 HO HWI
              have hTDa : Td wA (wr.alloc (.cells #[.slice pz ul.length cz] 42)) b4 uk vk U V := ⟨hTD.m.later (below_alloc wr _), hTD.up.keep (St.of_below (below_alloc wr _)), hTD.val.keep (St.of_below (below_alloc wr _)), hTD.kp.trans (Kp.of_below (S := fun _ => False) (below_alloc wr _)) fun _ h => h.elim⟩
              obtain ⟨xs0, hx0, hx2⟩ := hTDa.up
              obtain ⟨pk, ck, rfl⟩ := own_form hx0
              have HDA := show Hid (Td wA (wr.alloc (.cells #[.slice pz ul.length cz] 42)) b4 (.slice pk U.length ck) vk U V ∧ (∀ (i : Nat) (hi : i < U.length), ∃ x, xs0[i]? = some x ∧ OwnZ wA.heap.size (wr.alloc (.cells #[.slice pz ul.length cz] 42)) x U[i])) from ⟨hTDa, hx2⟩
              have hcb : wr.cell? ⟨b4, 0, none⟩ = some (.slice pk U.length ck) := hTD.m.cell 0
              clear hTD hTDa hx2
              go_wp2_with (at_builtin; refine wpList_append_own_at _ rfl (.tmp 79) (.tmp 81) 22 rfl wA.heap.size 42 i9 _ 1 24 Tryd.underlying22 hi9 hz90 hz91 hz92 rfl (by decide) _ U.length xs0 rfl hx0 ⟨wr.heap.size, 0, none⟩ 1 1 [.slice pz ul.length cz] rfl rfl (cell_one_new _ _ _) (by simp [Value.oneCell']) (by unfold maxLen; omega) (by omega) (by have := HWS2.out.1; simp; omega) ?_)
              intro v' w8 ho3 hg3 _ _
              obtain ⟨pp, nn, cc, rfl⟩ := own_form3 ho3
              have hnn : nn = U.length + 1 := by
                obtain ⟨p', c', e⟩ := own_form ho3
                cases e; rfl
              subst hnn
              have HRW := show Hid (RowsZ wA.heap.size w8 (.slice pp (U.length + 1) cc) (U ++ [ul])) from RowsZ.snoc hx0 HDA.out.2 (own_base (HOW.out.1.later (below_alloc wr _)) HWS2.out.2) ho3 hg3
              have HTS := show Hid (TS (wr.alloc (.cells #[.slice pz ul.length cz] 42)) w8 wA.heap.size b4 #[.slice pk U.length ck, vk] 39 9 true false) from
                TS.grow (d9 := false) ⟨fun _ => HDA.out.1.m, fun _ _ _ => rfl, fun _ _ _ _ _ _ => rfl, rfl, rfl, rfl, Nat.le_refl _, fun _ => Below.refl _ _⟩ HDA.out.1.sz HZ6.out hx0 hg3 (by decide) (by decide)
              have hcl : w8.cell? ⟨b4, 0, none⟩ = some (.slice pk U.length ck) := Cl.cell (T := 25) (HTS.out.m rfl) 0
              have hfr : w8.frozen? ⟨b4, 0, none⟩ = false := Cl.fr (T := 25) (HTS.out.m rfl) 0
              have HTD9 := show Hid (Td wA (w8.setCell ⟨b4, 0, none⟩ (.slice pp (U.length + 1) cc)) b4 (.slice pp (U.length + 1) cc) vk (U ++ [ul]) V ∧ OwnN wA.heap.size (w8.setCell ⟨b4, 0, none⟩ (.slice pp (U.length + 1) cc)) (.slice pn vl.length cn) vl ∧ wr.heap.size ≤ (w8.setCell ⟨b4, 0, none⟩ (.slice pp (U.length + 1) cc)).heap.size) from by
                have hst := HTS.out.store HZ6.out 0 (.slice pp (U.length + 1) cc)
                have hkp : Kp (fun k => k = b4) w8 (w8.setCell ⟨b4, 0, none⟩ (.slice pp (U.length + 1) cc)) := (Kp.refl (fun k => k = b4) w8).set (p := b4) rfl 0 _
                have hsz := hst.sz
                refine ⟨⟨heap_setCell_same w8 b4 0 _ _ _ (HTS.out.m rfl), HRW.out.keep (St.of_kp hkp HZ6.out), HDA.out.1.val.keep hst.st, hst.kp HDA.out.1.kp (Nat.le_refl _)⟩, OwnN.keep (own_base (HOW.out.2.later (below_alloc wr _)) HWS2.out.2) hst.st, ?_⟩
                exact Nat.le_trans (below_alloc wr _).size hsz
              clear ho3 hg3 hx0 HDA HRW HTS hcb HOW
              go_upto_region 27 with fail
              clear hcl hfr
              generalize w8.setCell ⟨b4, 0, none⟩ (.slice pp (U.length + 1) cc) = w9 at *
              have hTDb : Td wA (w9.alloc (.cells #[.slice pn vl.length cn] 39)) b4 (.slice pp (U.length + 1) cc) vk (U ++ [ul]) V := ⟨HTD9.out.1.m.later (below_alloc w9 _), HTD9.out.1.up.keep (St.of_below (below_alloc w9 _)), HTD9.out.1.val.keep (St.of_below (below_alloc w9 _)), HTD9.out.1.kp.trans (Kp.of_below (S := fun _ => False) (below_alloc w9 _)) fun _ h => h.elim⟩
              obtain ⟨ys0, hy0, hy2⟩ := hTDb.val
              obtain ⟨pk2, ck2, rfl⟩ := own_form hy0
              have HDB := show Hid (Td wA (w9.alloc (.cells #[.slice pn vl.length cn] 39)) b4 (.slice pp (U.length + 1) cc) (.slice pk2 V.length ck2) (U ++ [ul]) V ∧ (∀ (i : Nat) (hi : i < V.length), ∃ x, ys0[i]? = some x ∧ OwnN wA.heap.size (w9.alloc (.cells #[.slice pn vl.length cn] 39)) x V[i])) from ⟨hTDb, hy2⟩
              have hcb : w9.cell? ⟨b4, 1, none⟩ = some (.slice pk2 V.length ck2) := HTD9.out.1.m.cell 1
              have hvl : V.length ≤ 512 := by rw [HLN.out]; exact hul
              clear hTDb hy2
              go_wp2_with (at_builtin; refine wpList_append_own_at _ rfl (.tmp 85) (.tmp 87) 23 rfl wA.heap.size 39 iS _ 1 24 Tryd.underlying23 hiS hS0 hS1 hS2 rfl (by decide) _ V.length ys0 rfl hy0 ⟨w9.heap.size, 0, none⟩ 1 1 [.slice pn vl.length cn] rfl rfl (cell_one_new _ _ _) (by simp [Value.oneCell']) (by unfold maxLen; omega) (by omega) (by have := HWS2.out.1; have := HTD9.out.2.2; simp; omega) ?_)
              intro v2 wB ho4 hg4 _ _
              obtain ⟨pp2, nn2, cc2, rfl⟩ := own_form3 ho4
              have HRN := show Hid (RowsN wA.heap.size wB (.slice pp2 nn2 cc2) (V ++ [vl])) from RowsN.snoc hy0 HDB.out.2 (own_later HTD9.out.2.1 (below_alloc w9 _)) ho4 hg4
              have HTS := show Hid (TS (w9.alloc (.cells #[.slice pn vl.length cn] 39)) wB wA.heap.size b4 #[.slice pp (U.length + 1) cc, .slice pk2 V.length ck2] 42 3 true false) from
                TS.grow (d9 := false) ⟨fun _ => HDB.out.1.m, fun _ _ _ => rfl, fun _ _ _ _ _ _ => rfl, rfl, rfl, rfl, Nat.le_refl _, fun _ => Below.refl _ _⟩ HDB.out.1.sz HZ6.out hy0 hg4 (by decide) (by decide)
              have hcl : wB.cell? ⟨b4, 1, none⟩ = some (.slice pk2 V.length ck2) := Cl.cell (T := 25) (HTS.out.m rfl) 1
              have hfr : wB.frozen? ⟨b4, 1, none⟩ = false := Cl.fr (T := 25) (HTS.out.m rfl) 1
              have HTDB := show Hid (Td wA (wB.setCell ⟨b4, 1, none⟩ (.slice pp2 nn2 cc2)) b4 (.slice pp (U.length + 1) cc) (.slice pp2 nn2 cc2) (U ++ [ul]) (V ++ [vl])) from by
                have hst := HTS.out.store HZ6.out 1 (.slice pp2 nn2 cc2)
                have hkp : Kp (fun k => k = b4) wB (wB.setCell ⟨b4, 1, none⟩ (.slice pp2 nn2 cc2)) := (Kp.refl (fun k => k = b4) wB).set (p := b4) rfl 1 _
                exact ⟨heap_setCell_same wB b4 1 _ _ _ (HTS.out.m rfl), HDB.out.1.up.keep hst.st, HRN.out.keep (St.of_kp hkp HZ6.out), hst.kp HDB.out.1.kp (Nat.le_refl _)⟩
              clear ho4 hg4 hy0 HDB HRN HTS hcb HTD9
              go_upto_region 28 with fail
              clear hcl hfr
              generalize wB.setCell ⟨b4, 1, none⟩ (.slice pp2 nn2 cc2) = wC at *
              have hcc : wC.cell? ⟨b4, 0, none⟩ = some (.slice pp (U.length + 1) cc) := HTDB.out.m.cell 0
              by_cases hm : 512 < U.length + 1
              · have hmi : (512 : Int) < ((U.length + 1 : Nat) : Int) := by omega
                have HNO := show Hid (¬ PO s) from po_no (HI.out.many hlt HLC.out HRU.out hm)
                have HBC := show Hid _ from HB.out wC HTDB.out.kp
                have r20 : wC.cell? ⟨b2, 0, none⟩ = some (.slice none 0 0) := HBC.out.1.cell 0
                have r21 : wC.cell? ⟨b2, 1, none⟩ = some (.slice none 0 0) := HBC.out.1.cell 1
                have f20 : wC.frozen? ⟨b2, 0, none⟩ = false := HBC.out.1.fr 0
                have f21 : wC.frozen? ⟨b2, 1, none⟩ = false := HBC.out.1.fr 1
                have HE := show Hid _ from par_no HBC.out.1 HN4.out.2.2 HBC.out.2 HNO.out
                clear hm
                go_wp2_with fail
                refine bodyPost_ret (results_m_tmp rfl _ _ b2 rfl HE.out.1) rfl ?_
                exact ⟨_, _, 170, rfl, HE.out.2.1, HE.out.2.2⟩
              · have hmi : ¬ (512 : Int) < ((U.length + 1 : Nat) : Int) := by omega
                have HLN2 := show Hid (LI s (k + 1) (k + 1) (U ++ [ul]) (V ++ [vl])) from HI.out.next hlt HLC.out HRU.out hm HFU.out.1 HFU.out.2
                clear hm HI
                go_wp2_with fail
                go_roundw
                case rel => exact ⟨k + 1, k + 1, _, _, val_int (by omega), val_int (by omega), by omega, HLN2.out, _, _, HTDB.out⟩
                case measure => (simp only [intOf]; omega)
        · have hcn : ((s[k].toNat : Int) != 10) = true := by simp only [bne]; simpa using hc
          have HN := show Hid (LI s (k + 1) j U V) from HI.out.skip hlt (by simpa using hc)
          clear HI hc
          go_wp2_with fail
          go_roundw
          case rel => exact ⟨k + 1, j, U, V, rfl, val_int (by omega), by omega, HN.out, HTD.out⟩
          case measure => (simp only [intOf]; omega)
      · obtain rfl : k = s.size := by omega
        have hki : ¬ (s.size : Int) < (s.size : Int) := by omega
        have HR := show Hid (docR s.data.toList = some ⟨U, V⟩) from HI.out.fin
        have HFT := show Hid (Fit ⟨U, V⟩ ∧ (textF ⟨U, V⟩).length ≤ 140737488351232) from ⟨fit_doc HI.out.len HI.out.le HI.out.fu HI.out.fv, text_small HI.out.le HI.out.fu HI.out.fv⟩
        obtain ⟨uk, vk, hTD⟩ := HTD.out
        obtain ⟨pu, cu, rfl⟩ : ∃ p c, uk = .slice p U.length c := by obtain ⟨xs, h1, _⟩ := hTD.up; exact own_form h1
        obtain ⟨pv, cv, rfl⟩ : ∃ p c, vk = .slice p V.length c := by obtain ⟨xs, h1, _⟩ := hTD.val; exact own_form h1
        obtain ⟨wE, hwE⟩ : ∃ wE, wE = wr := ⟨_, rfl⟩
        rw [← hwE] at hTD ⊢
        have HTE := show Hid (Td wA wE b4 (.slice pu U.length cu) (.slice pv V.length cv) U V) from hTD
        clear hTD HTD HI hwE
        have HBE := show Hid (∀ W, Below wE.heap.size wE W → Cl W b2 #[.slice none 0 0, .slice none 0 0] 25 ∧ Below w.heap.size w W) from fun W hW => HB.out W (HTE.out.kp.trans (Kp.of_below (S := fun _ => False) hW) fun _ h => h.elim)
        have HWE := show Hid (∀ W, Below wE.heap.size wE W → Cl W b4 #[.slice pu U.length cu, .slice pv V.length cv] 25 ∧ RowsZ wA.heap.size W (.slice pu U.length cu) U ∧ RowsN wA.heap.size W (.slice pv V.length cv) V ∧ IsM W W.heap.size (.slice pu U.length cu) (.slice pv V.length cv) ⟨U, V⟩) from fun W hW => by
          have h1 := HTE.out.up.keep (St.of_below (T := 42) (T' := 3) hW)
          have h2 := HTE.out.val.keep (St.of_below (T := 39) (T' := 9) hW)
          exact ⟨HTE.out.m.later hW, h1, h2, h1.isU, h2.isV⟩
        have KT := show Hid (∀ W, Below wE.heap.size wE W → Calls Tryd.prog 8 #[.agg #[.slice pu U.length cu, .slice pv V.length cv]] W fun e w' => e = .returned (.string ⟨(textF ⟨U, V⟩).toArray⟩) ∧ Below W.heap.size W w') from fun W hW => rtext_any W (HWE.out W hW).2.2.2 HFT.out.1 (Nat.le_refl _) HFT.out.2
        obtain ⟨ec, hec⟩ := check_det' ⟨U, V⟩
        have HEC := show Hid ((Wd.Good ⟨U, V⟩ ∧ ec = 0) ∨ (¬ Wd.Good ⟨U, V⟩ ∧ ec = 170)) from by
          by_cases hG : Wd.Good ⟨U, V⟩
          · exact Or.inl ⟨hG, (hec 0 (Or.inl ⟨hG, rfl⟩)).symm⟩
          · exact Or.inr ⟨hG, (hec 170 (Or.inr ⟨hG, rfl⟩)).symm⟩
        have KC := show Hid (∀ W, Below wE.heap.size wE W → Calls Tryd.prog 25 #[.agg #[.slice pu U.length cu, .slice pv V.length cv]] W fun e w' => e = .returned (.int .i64 ec) ∧ Below W.heap.size W w') from fun W hW => (rcheck_any W (HWE.out W hW).2.2.2 HFT.out.1 (Nat.le_refl _)).mono fun e w' ⟨er, h1, h2, h3⟩ => ⟨by rw [h1, hec _ h2], h3⟩
        clear hec
        obtain ⟨tx, htx⟩ : ∃ tx, tx = (⟨(textF ⟨U, V⟩).toArray⟩ : ByteArray) := ⟨_, rfl⟩
        rw [← htx] at KT
        have HTX := show Hid (tx.data.toList = textF ⟨U, V⟩) from by rw [htx]; rfl
        clear htx
        go_upto_region 30 with fail
        have K1 := show Hid _ from KT.out wE (Below.refl _ _)
        go_wp2_with (refine wpList_ldw 25 _ rfl b4 rfl _ _ (HWE.out wE (Below.refl _ _)).1 rfl Tryd.underlying25 sizeM rfl ?_)
        refine Calls.mono K1.out ?_
        rintro e wF ⟨rfl, hbF⟩
        have HBF := show Hid (Below wE.heap.size wE wF) from hbF
        clear hbF K1 KT
        by_cases ht : tx = s
        · have hne := beqS_eq ht
          have HTS := show Hid (textF ⟨U, V⟩ = s.data.toList) from by
            show textF ⟨U, V⟩ = s.data.toList
            rw [← HTX.out, ht]
          clear ht HTX
          have K2 := show Hid _ from KC.out wF HBF.out
          go_wp2_with (refine wpList_ldw 25 _ rfl b4 rfl _ _ (HWE.out wF HBF.out).1 rfl Tryd.underlying25 sizeM rfl ?_)
          refine Calls.mono K2.out ?_
          rintro e wG ⟨rfl, hbG⟩
          have HBG := show Hid (Below wE.heap.size wE wG) from HBF.out.trans (hbG.mono HBF.out.size)
          clear hbG K2 KC HBF
          rcases HEC.out with ⟨hG, h0⟩ | ⟨hG, h0⟩
          · subst h0
            have HDO := show Hid (DO s ⟨U, V⟩) from ⟨HS.out, HR.out, HTS.out, hG⟩
            clear hG HEC
            have r20 : wG.cell? ⟨b2, 0, none⟩ = some (.slice none 0 0) := (HBE.out wG HBG.out).1.cell 0
            have r21 : wG.cell? ⟨b2, 1, none⟩ = some (.slice none 0 0) := (HBE.out wG HBG.out).1.cell 1
            have f20 : wG.frozen? ⟨b2, 0, none⟩ = false := (HBE.out wG HBG.out).1.fr 0
            have f21 : wG.frozen? ⟨b2, 1, none⟩ = false := (HBE.out wG HBG.out).1.fr 1
            have HS2 := show Hid _ from set2 (HBE.out wG HBG.out).1 (.slice pu U.length cu) (.slice pv V.length cv)
            go_wp2_with (refine wpList_ldw 25 _ rfl b4 rfl _ _ (HWE.out wG HBG.out).1 rfl Tryd.underlying25 sizeM rfl ?_)
            refine bodyPost_ret (results_m_tmp rfl _ _ b2 rfl HS2.out.1) rfl ?_
            have hst : ∀ T T', St wA.heap.size T T' wG ((wG.setCell ⟨b2, 0, none⟩ (.slice pu U.length cu)).setCell ⟨b2, 1, none⟩ (.slice pv V.length cv)) := fun T T' k cs t hk _ hb => HS2.out.2.block k (lt_of_block hb) (by have := HN4.out; omega)
            have hwA : w.heap.size ≤ wA.heap.size := by have := HN4.out; omega
            have hp := doc_po HDO.out
            exact ⟨_, _, 0, rfl, Or.inl ⟨hp.1, rfl, by rw [hp.2]; exact ((HWE.out wG HBG.out).2.1.keep (hst _ _)).base hwA, by rw [hp.2]; exact ((HWE.out wG HBG.out).2.2.1.keep (hst _ _)).base hwA⟩, (HBE.out wG HBG.out).2.trans (HS2.out.2.below (HBE.out wG HBG.out).2.size fun k e => by have := HN4.out; omega)⟩
          · subst h0
            have HNO := show Hid (¬ PO s) from fun hp => hG (po_one HR.out hp).2.2
            clear hG HEC
            have r20 : wG.cell? ⟨b2, 0, none⟩ = some (.slice none 0 0) := (HBE.out wG HBG.out).1.cell 0
            have r21 : wG.cell? ⟨b2, 1, none⟩ = some (.slice none 0 0) := (HBE.out wG HBG.out).1.cell 1
            have f20 : wG.frozen? ⟨b2, 0, none⟩ = false := (HBE.out wG HBG.out).1.fr 0
            have f21 : wG.frozen? ⟨b2, 1, none⟩ = false := (HBE.out wG HBG.out).1.fr 1
            have HE := show Hid _ from par_no (HBE.out wG HBG.out).1 HN4.out.2.2 (HBE.out wG HBG.out).2 HNO.out
            go_wp2_with fail
            refine bodyPost_ret (results_m_tmp rfl _ _ b2 rfl HE.out.1) rfl ?_
            exact ⟨_, _, 170, rfl, HE.out.2.1, HE.out.2.2⟩
        · have hne := beqS_ne ht
          have HNO := show Hid (¬ PO s) from fun hp => ht (ba_ext (by rw [HTX.out]; exact (po_one HR.out hp).2.1))
          clear ht
          have r20 : wF.cell? ⟨b2, 0, none⟩ = some (.slice none 0 0) := (HBE.out wF HBF.out).1.cell 0
          have r21 : wF.cell? ⟨b2, 1, none⟩ = some (.slice none 0 0) := (HBE.out wF HBF.out).1.cell 1
          have f20 : wF.frozen? ⟨b2, 0, none⟩ = false := (HBE.out wF HBF.out).1.fr 0
          have f21 : wF.frozen? ⟨b2, 1, none⟩ = false := (HBE.out wF HBF.out).1.fr 1
          have HE := show Hid _ from par_no (HBE.out wF HBF.out).1 HN4.out.2.2 (HBE.out wF HBF.out).2 HNO.out
          go_wp2_with fail
          refine bodyPost_ret (results_m_tmp rfl _ _ b2 rfl HE.out.1) rfl ?_
          exact ⟨_, _, 170, rfl, HE.out.2.1, HE.out.2.2⟩
  · have hsi : decide (65536 < (s.size : Int)) = true := decide_eq_true (by omega)
    have HNO := show Hid (¬ PO s) from fun h => hs h.1
    have r20 : w1.cell? ⟨b2, 0, none⟩ = some (.slice none 0 0) := H1.out.1.cell 0
    have r21 : w1.cell? ⟨b2, 1, none⟩ = some (.slice none 0 0) := H1.out.1.cell 1
    have f20 : w1.frozen? ⟨b2, 0, none⟩ = false := H1.out.1.fr 0
    have f21 : w1.frozen? ⟨b2, 1, none⟩ = false := H1.out.1.fr 1
    have HE := show Hid _ from par_no H1.out.1 H1.out.2.2 H1.out.2.1 HNO.out
    go_wp2_with fail
    refine bodyPost_ret (results_m_tmp rfl _ _ b2 rfl HE.out.1) rfl ?_
    exact ⟨_, _, 170, rfl, HE.out.2.1, HE.out.2.2⟩
end Go.Proofs.YtjbnbaiidpdpoaaDoor.Wm
