/- Chapter 3, the specification's side: a text's parts; what stands behind a version; versions that are right. -/
import Derived.Test.YtnoopfpgkgjdcalVer1
namespace Go.Proofs.Ytnoopfpgkgjdcal.Ver
open Go.RowKit Go.Proofs.Ytnoopfpgkgjdcal.Mem Go.Proofs.Ytnoopfpgkgjdcal.Laws Go.Proofs.Ytnoopfpgkgjdcal.Bytes Go.Proofs.Ytnoopfpgkgjdcal.Sha
set_option linter.unusedVariables false
set_option linter.unusedSimpArgs false

theorem info9v : (Try.prog.info? 9).map (fun i => (i.zero, i.size, i.bytes)) = some (some (.string ⟨#[]⟩), 1, 16) := by kernel_rfl
theorem one_strv (s : ByteArray) : ∀ u ∈ [Value.string s], u.oneCell' = true := by
  intro u hu
  rw [List.mem_singleton] at hu
  rw [hu]
  rfl
theorem emptySv (w : World) (lo : Nat) (h : lo ≤ w.heap.size) : Own (w.alloc (.cells #[] 9)) lo (w.alloc (.cells #[] 9)).heap.size 9 (.slice (some ⟨w.heap.size, 0, none⟩) 0 0) (ss []) :=
  Own.of (World.ownsRow_lit w #[] 0 h (Nat.zero_le _) rfl)

/-- the parts of a text, with a sign between -/
def splitL (b : Int) : List Int → List Int → List (List Int)
  | cur, [] => [cur]
  | cur, c :: r => if c = b then cur :: splitL b [] r else splitL b (cur ++ [c]) r
def split (b : Int) (l : List Int) : List (List Int) := splitL b [] l
def splitT (b : Int) (s : ByteArray) : List ByteArray := (split b (sb s)).map Plain.txt

theorem splitL_len (b : Int) : ∀ (l cur : List Int), (splitL b cur l).length ≤ l.length + 1 := by
  intro l
  induction l with
  | nil => intro cur; simp [splitL]
  | cons c r ih =>
    intro cur
    unfold splitL
    split
    · have := ih []; simp only [List.length_cons]; omega
    · have := ih (cur ++ [c]); simp only [List.length_cons]; omega
theorem splitT_len (b : Int) (s : ByteArray) : (splitT b s).length ≤ s.size + 1 := by
  unfold splitT split
  rw [List.length_map]
  have := splitL_len b (sb s) []
  rw [sb_len] at this
  exact this

theorem u8s_sb (s : ByteArray) : Plain.u8s (sb s) = s.data.toList := by
  unfold Plain.u8s sb
  rw [List.map_map]
  conv => rhs; rw [← List.map_id s.data.toList]
  apply List.map_congr_left
  intro b _
  simp
theorem ext_txt (s : ByteArray) (f k : Nat) : s.extract f k = Plain.txt (((sb s).drop f).take (k - f)) := by
  apply ByteArray.ext
  apply Array.ext'
  rw [ByteArray.data_extract, Array.toList_extract]
  show _ = Plain.u8s (((sb s).drop f).take (k - f))
  have h : Plain.u8s (((sb s).drop f).take (k - f)) = ((Plain.u8s (sb s)).drop f).take (k - f) := by
    unfold Plain.u8s
    rw [← List.map_drop, ← List.map_take]
  rw [h, u8s_sb]

theorem cur_snoc {l : List Int} {f k : Nat} {c : Int} (hf : f ≤ k) (hc : l[k]? = some c) : (l.drop f).take (k + 1 - f) = (l.drop f).take (k - f) ++ [c] := by
  rw [show k + 1 - f = (k - f) + 1 by omega]
  refine take_snoc ?_
  rw [List.getElem?_drop, show f + (k - f) = k by omega]
  exact hc
theorem drop_consI {l : List Int} {k : Nat} {c : Int} (hc : l[k]? = some c) : l.drop k = c :: l.drop (k + 1) := by
  obtain ⟨hk, rfl⟩ := List.getElem?_eq_some_iff.1 hc
  rw [List.drop_eq_getElem_cons hk]

set_option maxRecDepth 1000000 in
set_option maxHeartbeats 1000000 in
theorem split_spec (w : World) (s : ByteArray) (b : Int) (hb0 : 0 ≤ b) (hb1 : b ≤ 255) (hs : s.size ≤ 1000000000000) :
    Calls Try.prog 17 #[.string s, .int .u8 b] w fun e w' => ∃ v', e = .returned v' ∧ Own w' w.heap.size w'.heap.size 9 v' (ss (splitT b s)) ∧ Below w.heap.size w w' := by
  obtain ⟨i0, hi, hz0, hz1, hz2⟩ := info_parts info9v
  have ho0 := emptySv w w.heap.size (Nat.le_refl _)
  have hbe : Below w.heap.size w (w.alloc (.cells #[] 9)) := (Below.refl _ _).alloc (Nat.le_refl _) _
  go_enter Try.func17, Try.ntmps17
  go_wp2
  go_loopw [5, 6, 7] (fun o fr i wr => ∃ (k f : Nat) (P : List (List Int)), i = .int .i64 (k : Int) ∧ fr = .int .i64 (f : Int) ∧ P.length ≤ k ∧ k ≤ s.size + 1 ∧ Hid ((k ≤ s.size ∧ f ≤ k ∧ P ++ splitL b (((sb s).drop f).take (k - f)) ((sb s).drop k) = split b (sb s)) ∨ (k = s.size + 1 ∧ P = split b (sb s))) ∧ Own wr w.heap.size wr.heap.size 9 o (ss (P.map Plain.txt)) ∧ Below w.heap.size w wr) (fun _ _ i _ => s.size + 1 - (intOf i).toNat)
  case atStart => exact ⟨0, 0, [], rfl, rfl, Nat.le_refl _, by omega, .inl ⟨by omega, by omega, rfl⟩, ho0, hbe⟩
  case round =>
    obtain ⟨k, f, P, rfl, rfl, hPl, hk, HI, ho, hb⟩ := hrel
    have hsz := hb.size
    clear ho0 hbe
    by_cases hle : k ≤ s.size
    · obtain ⟨_, hf, hE⟩ : k ≤ s.size ∧ f ≤ k ∧ P ++ splitL b (((sb s).drop f).take (k - f)) ((sb s).drop k) = split b (sb s) := by
        rcases HI.out with h | h
        · exact h
        · omega
      have hl : (ss (P.map Plain.txt)).length = P.length := by rw [ss_len, List.length_map]
      have c2 : (ss (P.map Plain.txt)).length + 1 ≤ maxLen := by rw [hl]; unfold maxLen; omega
      have c3 : ((ss (P.map Plain.txt)).length + 1) * 16 ≤ 140737488355328 := by rw [hl]; omega
      have c4 : ∀ o, w.heap.size ≤ (wr.alloc o).heap.size := fun o => by simp; omega
      have HX : Hid (s.extract f k = Plain.txt (((sb s).drop f).take (k - f))) := ext_txt s f k
      have HS : Hid (ss ((P ++ [((sb s).drop f).take (k - f)]).map Plain.txt) = ss (P.map Plain.txt) ++ [.string (s.extract f k)]) := by
        show _ = _
        rw [List.map_append, ss_app, HX.out]
        rfl
      clear hl HI
      by_cases hend : k = s.size
      · have HN : Hid (P ++ [((sb s).drop f).take (k - f)] = split b (sb s)) := by
          show _ = _
          rw [← hE, List.drop_eq_nil_of_le (show (sb s).length ≤ k by rw [sb_len]; omega), splitL]
        have hd : ((k : Int) == (s.size : Int)) = true := by simp; omega
        have hge : s.size ≤ k := by omega
        clear hE hend
        go_wp2_with (at_builtin; go_must (refine wpl_app _ rfl (.tmp 26) (.tmp 31) 32 rfl 9 i0 (.string ⟨#[]⟩) 16 Try.underlying32 hi hz0 hz1 hz2 rfl w.heap.size _ (ss (P.map Plain.txt)) rfl (ho.alloc _) _ rfl [.string (s.extract f k)] (Sl.one _ _ _) (one_strv _) c2 c3 (c4 _) ?_); intro v3 w3 ho3 hb3 hg3)
        rw [← HS.out] at ho3
        have hb4 : Below w.heap.size w w3 := (hb.alloc hsz _).trans hb3
        go_roundw
        case rel => exact ⟨k + 1, k + 1, P ++ [((sb s).drop f).take (k - f)], by go_num, by go_num, by simp; omega, by omega, .inr ⟨by omega, HN.out⟩, ho3, hb4⟩
        case measure => simp [intOf]; omega
      · have hlt : k < s.size := by omega
        have hd : ((k : Int) == (s.size : Int)) = false := by simp; omega
        have hg := sb_get s k hlt
        have HG : Hid ((sb s)[k]? = some (s[k].toNat : Int)) := hg
        have hcb := (sb_byt s).at hg
        rw [drop_consI hg, splitL] at hE
        clear hg hend
        by_cases hc : (s[k].toNat : Int) = b
        · rw [if_pos hc] at hE
          have HN : Hid ((P ++ [((sb s).drop f).take (k - f)]) ++ splitL b (((sb s).drop (k + 1)).take (k + 1 - (k + 1))) ((sb s).drop (k + 1)) = split b (sb s)) := by
            show _ = _
            rw [← hE, Nat.sub_self, List.take_zero, List.append_assoc]
            rfl
          have hd2 : ((s[k].toNat : Int) == b) = true := by simpa using hc
          clear hE hc
          go_wp2_with (at_builtin; go_must (refine wpl_app _ rfl (.tmp 26) (.tmp 31) 32 rfl 9 i0 (.string ⟨#[]⟩) 16 Try.underlying32 hi hz0 hz1 hz2 rfl w.heap.size _ (ss (P.map Plain.txt)) rfl (ho.alloc _) _ rfl [.string (s.extract f k)] (Sl.one _ _ _) (one_strv _) c2 c3 (c4 _) ?_); intro v3 w3 ho3 hb3 hg3)
          rw [← HS.out] at ho3
          have hb4 : Below w.heap.size w w3 := (hb.alloc hsz _).trans hb3
          go_roundw
          case rel => exact ⟨k + 1, k + 1, P ++ [((sb s).drop f).take (k - f)], by go_num, by go_num, by simp; omega, by omega, .inl ⟨by omega, by omega, HN.out⟩, ho3, hb4⟩
          case measure => simp [intOf]; omega
        · rw [if_neg hc, ← cur_snoc hf HG.out] at hE
          have HN : Hid (P ++ splitL b (((sb s).drop f).take (k + 1 - f)) ((sb s).drop (k + 1)) = split b (sb s)) := hE
          have hd2 : ((s[k].toNat : Int) == b) = false := by simpa using hc
          clear hE hc
          go_wp2
          go_roundw
          case rel => exact ⟨k + 1, f, P, by go_num, by go_num, by omega, by omega, .inl ⟨by omega, by omega, HN.out⟩, ho, hb⟩
          case measure => simp [intOf]; omega
    · have HN : Hid (P = split b (sb s)) := by
        rcases HI.out with h | h
        · omega
        · exact h.2
      go_wp2
      go_ret
      exact ⟨_, rfl, by show Own _ _ _ _ _ (ss ((split b (sb s)).map Plain.txt)); rw [← HN.out]; exact ho, hb⟩

end Go.Proofs.Ytnoopfpgkgjdcal.Ver
