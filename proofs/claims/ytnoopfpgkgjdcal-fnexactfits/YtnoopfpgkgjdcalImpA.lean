/- Chapter 3, the landed code: the parts of a text, numbers, parts of what stands behind a version, versions that are right. -/
import Derived.Test.YtnoopfpgkgjdcalRune
import Derived.Test.YtnoopfpgkgjdcalVerP
namespace Go.Proofs.Ytnoopfpgkgjdcal.Ver
open Go.RowKit Go.Proofs.Ytnoopfpgkgjdcal.Mem Go.Proofs.Ytnoopfpgkgjdcal.Laws Go.Proofs.Ytnoopfpgkgjdcal.Bytes Go.Proofs.Ytnoopfpgkgjdcal.Sha
set_option linter.unusedVariables false
set_option linter.unusedSimpArgs false

theorem Own.none (w : World) (lo hi : Nat) (e : TypeId) : Own w lo hi e (.slice none 0 0) [] :=
  ⟨⟨rfl, .inl ⟨rfl, rfl⟩⟩, fun g hg => by simp [Value.ownBlock] at hg⟩

set_option maxRecDepth 1000000 in
set_option maxHeartbeats 1000000 in
theorem parts_impl (w : World) (s : ByteArray) (b : Int) (hb0 : 0 ≤ b) (hb1 : b < 128) (hs : s.size ≤ 1000000000000) :
    Calls Try.prog 47 #[.string s, .int .i32 b] w fun e w' => ∃ v', e = .returned v' ∧ Own w' w.heap.size w'.heap.size 9 v' (ss (splitT b s)) ∧ Below w.heap.size w w' := by
  obtain ⟨i0, hi, hz0, hz1, hz2⟩ := info_parts info9v
  go_enter Try.func47, Try.ntmps47
  go_wp2
  go_loopw [5, 6] (fun o fr wr => ∃ (k f : Nat) (P : List (List Int)), fr = .int .i64 (f : Int) ∧ P.length ≤ k ∧ k ≤ s.size ∧ f ≤ k ∧ Hid (P ++ splitL b (((sb s).drop f).take (k - f)) ((sb s).drop k) = split b (sb s)) ∧ Own wr (w.heap.size + 1) wr.heap.size 9 o (ss (P.map Plain.txt)) ∧ wr.heap[w.heap.size]? = some (.stringIter s k) ∧ Below w.heap.size w wr) (fun _ _ wr => s.size - wr.iterPos w.heap.size)
  case atStart => exact ⟨0, 0, [], rfl, Nat.le_refl _, by omega, by omega, rfl, Own.none _ _ _ _, World.iter_heap w s 0, (Below.refl _ _).alloc (Nat.le_refl _) _⟩
  case round =>
    obtain ⟨k, f, P, rfl, hPl, hk, hf, HI, ho, hit, hb⟩ := hrel
    have hsz := hb.size
    have hlt0 : w.heap.size < wr.heap.size := (Array.getElem?_eq_some_iff.1 hit).1
    have hpos : wr.iterPos w.heap.size = k := by unfold World.iterPos; rw [hit]
    have HP : Hid (wr.iterPos w.heap.size = k) := hpos
    have hl : (ss (P.map Plain.txt)).length = P.length := by rw [ss_len, List.length_map]
    have c2 : (ss (P.map Plain.txt)).length + 1 ≤ maxLen := by rw [hl]; unfold maxLen; omega
    have c3 : ((ss (P.map Plain.txt)).length + 1) * 16 ≤ 140737488355328 := by rw [hl]; omega
    by_cases hp : k < s.size
    · have hE := HI.out
      have HX : Hid (s.extract f k = Plain.txt (((sb s).drop f).take (k - f))) := ext_txt s f k
      have HS : Hid (ss ((P ++ [((sb s).drop f).take (k - f)]).map Plain.txt) = ss (P.map Plain.txt) ++ [.string (s.extract f k)]) := by
        show _ = _
        rw [List.map_append, ss_app, HX.out]
        rfl
      have hg := sb_get s k hp
      by_cases ha : (s[k]'hp).toNat < 128
      · have hnx : ∀ ty, (Instr.next (.pointer (some ⟨w.heap.size, 0, none⟩)) true ty).run Try.prog wr = _ := fun ty => Lib.run_next_ascii_at wr w.heap.size s k ty hit hp ha
        have HO : Hid (Own (wr.iterAt w.heap.size s (k + 1)) (w.heap.size + 1) (wr.iterAt w.heap.size s (k + 1)).heap.size 9 u5 (ss (P.map Plain.txt))) := Own.iter ho (Nat.lt_succ_self w.heap.size) s (k + 1)
        have HIt : Hid ((wr.iterAt w.heap.size s (k + 1)).heap[w.heap.size]? = some (.stringIter s (k + 1))) := Lib.iterAt_heap _ _ _ _ _ hit
        have HB : Hid (Below w.heap.size w (wr.iterAt w.heap.size s (k + 1))) := Lib.below_iterAt hb (Nat.le_refl _) s (k + 1)
        have HL : Hid (w.heap.size < (wr.iterAt w.heap.size s (k + 1)).heap.size) := by show _ < _; rw [Lib.iterAt_size]; exact hlt0
        have HM : Hid ((wr.iterAt w.heap.size s (k + 1)).iterPos w.heap.size = k + 1) := by show _ = _; unfold World.iterPos; rw [HIt.out]
        rw [drop_consI hg, splitL] at hE
        have HG : Hid ((sb s)[k]? = some (s[k].toNat : Int)) := hg
        clear hg hit ho hb hl hpos HI
        by_cases hc : (s[k].toNat : Int) = b
        · rw [if_pos hc] at hE
          have HN : Hid ((P ++ [((sb s).drop f).take (k - f)]) ++ splitL b (((sb s).drop (k + 1)).take (k + 1 - (k + 1))) ((sb s).drop (k + 1)) = split b (sb s)) := by
            show _ = _
            rw [← hE, Nat.sub_self, List.take_zero, List.append_assoc]
            rfl
          have hd2 : ((s[k].toNat : Int) == b) = true := by simpa using hc
          clear hE hc
          have c4 : ∀ o, w.heap.size + 1 ≤ ((wr.iterAt w.heap.size s (k + 1)).alloc o).heap.size := fun o => by have := HL.out; simp; omega
          go_wp2_with (at_builtin; go_must (refine wpl_app _ rfl (.tmp 18) (.tmp 23) 32 rfl 9 i0 (.string ⟨#[]⟩) 16 Try.underlying32 hi hz0 hz1 hz2 rfl (w.heap.size + 1) _ (ss (P.map Plain.txt)) rfl (HO.out.alloc _) _ rfl [.string (s.extract f k)] (Sl.one _ _ _) (one_strv _) c2 c3 (c4 _) ?_); intro v3 w3 ho3 hb3 hg3)
          rw [← HS.out] at ho3
          have hb4 : Below w.heap.size w w3 := (HB.out.alloc (Nat.le_of_lt HL.out) _).trans (hb3.mono (Nat.le_succ _))
          have hit4 : w3.heap[w.heap.size]? = some (.stringIter s (k + 1)) := by
            rw [hb3.block _ (Nat.lt_succ_self _), heap_alloc_old _ _ HL.out]
            exact HIt.out
          have hps4 : w3.iterPos w.heap.size = k + 1 := by unfold World.iterPos; rw [hit4]
          go_roundw
          case rel => exact ⟨k + 1, k + 1, P ++ [((sb s).drop f).take (k - f)], by go_num, by simp; omega, by omega, by omega, HN, ho3, hit4, hb4⟩
          case measure => rw [hps4, HP.out]; omega
        · rw [if_neg hc, ← cur_snoc hf HG.out] at hE
          have HN : Hid (P ++ splitL b (((sb s).drop f).take (k + 1 - f)) ((sb s).drop (k + 1)) = split b (sb s)) := hE
          have hd2 : ((s[k].toNat : Int) == b) = false := by simpa using hc
          clear hE hc
          go_wp2
          go_roundw
          case rel => exact ⟨k + 1, f, P, by go_num, by omega, by omega, by omega, HN, HO.out, HIt.out, HB.out⟩
          case measure => rw [HM.out, HP.out]; omega
      · obtain ⟨r1, r2, r3, r4⟩ := rune_high s k hp (by omega)
        have r5 := rune_bytes s k hp (by omega) b hb1
        obtain ⟨r, n, hdec⟩ : ∃ r n, Utf8.decode s k = (r, n) := ⟨_, _, rfl⟩
        have hnx0 : ∀ ty, (Instr.next (.pointer (some ⟨w.heap.size, 0, none⟩)) true ty).run Try.prog wr = _ := fun ty => Lib.run_next_any_at wr w.heap.size s k ty hit hp
        rw [hdec] at r1 r2 r3 r4 r5 hnx0
        simp only at r1 r2 r3 r4 r5 hnx0
        have hnx : ∀ ty, (Instr.next (.pointer (some ⟨w.heap.size, 0, none⟩)) true ty).run Try.prog wr = .ok (.tuple #[.bool true, .int .i64 k, .int .i32 r]) (wr.iterAt w.heap.size s (k + n)) := hnx0
        have HO : Hid (Own (wr.iterAt w.heap.size s (k + n)) (w.heap.size + 1) (wr.iterAt w.heap.size s (k + n)).heap.size 9 u5 (ss (P.map Plain.txt))) := Own.iter ho (Nat.lt_succ_self w.heap.size) s (k + n)
        have HIt : Hid ((wr.iterAt w.heap.size s (k + n)).heap[w.heap.size]? = some (.stringIter s (k + n))) := Lib.iterAt_heap _ _ _ _ _ hit
        have HB : Hid (Below w.heap.size w (wr.iterAt w.heap.size s (k + n))) := Lib.below_iterAt hb (Nat.le_refl _) s (k + n)
        have HM : Hid ((wr.iterAt w.heap.size s (k + n)).iterPos w.heap.size = k + n) := by show _ = _; unfold World.iterPos; rw [HIt.out]
        have HN : Hid (P ++ splitL b (((sb s).drop f).take (k + n - f)) ((sb s).drop (k + n)) = split b (sb s)) := by
          show _ = _
          rw [← hE, splitL_skip b n _ _ r5, cur_more hf, List.drop_drop]
        have hd2 : ((r : Int) == b) = false := by simp; omega
        clear hg hit ho hb hl hpos HI hE hnx0 hdec r4 r5
        go_wp2
        go_roundw
        case rel => exact ⟨k + n, f, P, by go_num, by omega, by omega, by omega, HN, HO.out, HIt.out, HB.out⟩
        case measure => rw [HM.out, HP.out]; omega
    · have hke : k = s.size := by omega
      have HX : Hid (s.extract f s.size = Plain.txt (((sb s).drop f).take (s.size - f))) := ext_txt s f s.size
      have HN : Hid (ss (splitT b s) = ss (P.map Plain.txt) ++ [.string (s.extract f s.size)]) := by
        show _ = _
        unfold splitT
        have hE := HI.out
        rw [hke, List.drop_eq_nil_of_le (show (sb s).length ≤ s.size by rw [sb_len]; omega), splitL] at hE
        rw [← hE, List.map_append, ss_app, HX.out]
        rfl
      have hnx : ∀ ty, (Instr.next (.pointer (some ⟨w.heap.size, 0, none⟩)) true ty).run Try.prog wr = _ := fun ty => Lib.run_next_end_at wr w.heap.size s k ty hit hp
      have c4 : ∀ o, w.heap.size + 1 ≤ (wr.alloc o).heap.size := fun o => by simp; omega
      have hfs : f ≤ s.size := by omega
      clear hl hpos HI hit hke
      go_wp2_with (at_builtin; go_must (refine wpl_app _ rfl (.tmp 27) (.tmp 31) 32 rfl 9 i0 (.string ⟨#[]⟩) 16 Try.underlying32 hi hz0 hz1 hz2 rfl (w.heap.size + 1) _ (ss (P.map Plain.txt)) rfl (ho.alloc _) _ rfl [.string (s.extract f s.size)] (Sl.one _ _ _) (one_strv _) c2 c3 (c4 _) ?_); intro v3 w3 ho3 hb3 hg3)
      rw [← HN.out] at ho3
      go_ret
      exact ⟨_, rfl, ho3.mono (Nat.le_succ _) (Nat.le_refl _), (hb.alloc hsz _).trans (hb3.mono (Nat.le_succ _))⟩

end Go.Proofs.Ytnoopfpgkgjdcal.Ver
