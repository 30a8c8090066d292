/-
  The document's calls on and At: spots: for every text and every place. No condition beyond the text's size.
-/
import Derived.Test.YtgcoalcfhflfiaaDoorRSize
import Derived.Test.YtgcoalcfhflfiaaDoorRByte
namespace Go.Proofs.YtgcoalcfhflfiaaDoor
open Go.RowKit

theorem dec_lf (s : ByteArray) (i : Nat) (hi : i < s.size) : ((Tk.dec (s.data.toList.drop i)).1 = 10) ↔ (s[i]).toNat = 10 := by
  rw [← Tk.decode_eq s i (by omega)]
  by_cases h : (s[i]).toNat < 128
  · rw [decode_ascii s i hi h]
  · have := (decode_high s i hi (by omega)).1
    omega
set_option maxRecDepth 100000 in
set_option maxHeartbeats 2000000 in
theorem on_any (w : World) (s : ByteArray) (l c : Int) (o n : Nat) (hs : s.size ≤ 140737488355328) (hon : o ≤ n) (hn : n ≤ s.size) :
    Calls Tryd.prog 25 #[.string s, .agg #[.int .i64 l, .int .i64 c, .int .i64 (o : Int)], .int .i64 (n : Int)] w fun e w' => e = .returned (.agg #[.int .i64 (Tk.go (s.data.toList.drop o) (n - o) (l, c)).1, .int .i64 (Tk.go (s.data.toList.drop o) (n - o) (l, c)).2, .int .i64 (n : Int)]) ∧ Below w.heap.size w w' := by
  have HSL := show Hid (s.data.toList.length = s.size) from rfl
  obtain ⟨ans, hans⟩ : ∃ ans, ans = Tk.go (s.data.toList.drop o) (n - o) (l, c) := ⟨_, rfl⟩
  rw [← hans]
  have HA := show Hid (Tk.go (s.data.toList.drop o) (n - o) (l, c) = ans) from hans.symm
  clear hans
  have KS := show Hid (∀ (w : World) (i : Nat), i < s.size → Calls Tryd.prog 36 #[.string s, .int .i64 (i : Int)] w fun e w' => e = .returned (.int .i64 ((Tk.dec (s.data.toList.drop i)).2 : Int)) ∧ w' = w) from fun w i hi => size_any w s i hs hi
  have HP1 : Hid (S3 ((w.alloc (Obj.cells #[.int .i64 l, .int .i64 c, .int .i64 (o : Int)] 23)).alloc (Obj.cells #[.int .i64 0, .int .i64 0, .int .i64 0] 23)) w.heap.size l c o) := heap_alloc2_old _ _ _
  have HR1 : Hid (S3 ((w.alloc (Obj.cells #[.int .i64 l, .int .i64 c, .int .i64 (o : Int)] 23)).alloc (Obj.cells #[.int .i64 0, .int .i64 0, .int .i64 0] 23)) (w.heap.size + 1) 0 0 0) := heap_alloc2_new _ _ _
  have HB1 : Hid (Below w.heap.size w ((w.alloc (Obj.cells #[.int .i64 l, .int .i64 c, .int .i64 (o : Int)] 23)).alloc (Obj.cells #[.int .i64 0, .int .i64 0, .int .i64 0] 23))) := below_alloc2 _ _ _
  go_enter Tryd.func25, Tryd.ntmps25
  go_wp2_with fail
  go_loopw [7] (fun i wr => ∃ (k : Nat) (l' c' : Int), o ≤ k ∧ i = .int .i64 k ∧ k ≤ s.size ∧ Hid (Tk.go (s.data.toList.drop k) (n - k) (l', c') = ans) ∧ Hid (S3 wr w.heap.size l' c' o) ∧ Hid (S3 wr (w.heap.size + 1) 0 0 0) ∧ Hid (Below w.heap.size w wr)) (fun i _ => s.size - (intOf i).toNat)
  case atStart => exact ⟨o, l, c, Nat.le_refl _, rfl, by omega, HA, HP1, HR1, HB1⟩
  case round =>
    obtain ⟨k, l', c', hok, rfl, hks, HG, HP, HR, HB⟩ := hrel
    have hp0 := HP.out.c0; have hp1 := HP.out.c1; have hp2 := HP.out.c2; have hpf := HP.out.fr
    have hr0 := HR.out.c0; have hr1 := HR.out.c1; have hr2 := HR.out.c2; have hrf := HR.out.fr
    by_cases hlt : k < n
    · have hl : s.data.toList.drop k ≠ [] := by
        intro h
        have := congrArg List.length h
        rw [List.length_drop, HSL.out, List.length_nil] at this
        omega
      have hdp := Tk.dec_pos (s.data.toList.drop k)
      have hdl := Tk.dec_le (s.data.toList.drop k) hl
      rw [List.length_drop, HSL.out] at hdl
      have hks2 : k < s.size := by omega
      have hlf := dec_lf s k hks2
      have hg := HG.out
      rw [Tk.go_step _ _ _ (by omega) hl, List.drop_drop, Nat.sub_sub] at hg
      have KS2 := show Hid (∀ w : World, Calls Tryd.prog 36 #[.string s, .int .i64 (k : Int)] w fun e w' => e = .returned (.int .i64 ((Tk.dec (s.data.toList.drop k)).2 : Int)) ∧ w' = w) from fun w => KS.out w k hks2
      clear HG HA HP1 HR1 HB1 hl
      generalize Tk.dec (s.data.toList.drop k) = dd at *
      obtain ⟨dr, dn⟩ := dd
      simp only at hdp hdl hlf hg KS2
      by_cases h10 : (s[k]).toNat = 10
      · have q10 : (((s[k]).toNat : Int) == 10) = true := beq_iff_eq.2 (by omega)
        have e : Tk.beh (l', c') dr = (Tk.bump l', 1) := if_pos (hlf.2 h10)
        rw [e] at hg
        have HG2 := show Hid _ from hg
        clear hg hlf h10 e
        go_wp2_with fail
        refine (KS2.out _).mono ?_
        rintro e w1 ⟨rfl, rfl⟩
        go_wp2_with fail
        go_roundw
        case rel => exact ⟨k + dn, Tk.bump l', 1, by omega, by go_num, by omega, HG2, ((HP.out.s1 _).s0 _).s1 _, ((HR.out.other (by omega) _).other (by omega) _).other (by omega) _, ((HB.out.setCell (Nat.le_refl _) _).setCell (Nat.le_refl _) _).setCell (Nat.le_refl _) _⟩
        case measure => simp [intOf]; omega
      · have q10 : (((s[k]).toNat : Int) == 10) = false := beq_eq_false_iff_ne.2 (by omega)
        have e : Tk.beh (l', c') dr = (l', Tk.bump c') := if_neg (fun h => h10 (hlf.1 h))
        rw [e] at hg
        have HG2 := show Hid _ from hg
        clear hg hlf h10 e
        go_wp2_with fail
        refine (KS2.out _).mono ?_
        rintro e w1 ⟨rfl, rfl⟩
        go_wp2_with fail
        go_roundw
        case rel => exact ⟨k + dn, l', Tk.bump c', by omega, by go_num, by omega, HG2, HP.out.s1 _, HR.out.other (by omega) _, HB.out.setCell (Nat.le_refl _) _⟩
        case measure => simp [intOf]; omega
    · have hg := HG.out
      rw [show n - k = 0 by omega, Tk.go_done _ _ _ (Or.inl rfl)] at hg
      subst hg
      clear HA HG HP1 HR1 HB1
      go_wp2_with fail
      have hf := (HR.out.other (g' := w.heap.size) (k := 2) (by omega) (.int .i64 (n : Int))).s3 l' c' n
      refine bodyPost_ret (results_cell_row rfl _ _ (w.heap.size + 1) _ _ _ _ rfl hf Tryd.underlying23 rfl (by kernel_rfl)) rfl ?_
      exact ⟨rfl, below_set3 (HB.out.setCell (Nat.le_refl _) _) (by omega) _ _ _⟩
end Go.Proofs.YtgcoalcfhflfiaaDoor
