/- Chapter 4, the landed code: a copy of a text; a path cut before its last part. -/
import Derived.Test.YtnoopfpgkgjdcalModT
namespace Go.Proofs.Ytnoopfpgkgjdcal.Mod
open Go.RowKit Go.Proofs.Ytnoopfpgkgjdcal.Mem Go.Proofs.Ytnoopfpgkgjdcal.Laws Go.Proofs.Ytnoopfpgkgjdcal.Bytes Go.Proofs.Ytnoopfpgkgjdcal.Sha Go.Proofs.Ytnoopfpgkgjdcal.Ver
set_option linter.unusedVariables false
set_option linter.unusedSimpArgs false

set_option maxHeartbeats 4000000 in
set_option maxRecDepth 100000 in
theorem clone_lite (w : World) (s : ByteArray) (hlim : s.size ≤ 1000000000000) :
    Calls Try.prog 39 #[.string s] w fun e w' => e = .returned (.string s) ∧ Below w.heap.size w w' := by
  by_cases h0 : s.size = 0
  · have hs : s = ⟨#[]⟩ := by
      apply ByteArray.ext
      exact Array.eq_empty_of_size_eq_zero h0
    subst hs
    go_enter Try.func39, Try.ntmps39
    go_wp2
    go_ret
    exact ⟨rfl, Below.refl _ _⟩
  · obtain ⟨i0, hi, hz0, hz1, hz2⟩ := info_parts info5
    have hinfo : (Try.prog.info? 5).map (·.size) = some 1 := by rw [hi]; simp [hz1]
    have hco : Try.prog.cellsOf 5 = 1 := by simp [Program.cellsOf, hi, hz1]
    obtain ⟨M, hM⟩ : ∃ M, M = madeCells (Value.int .u8 0).cells (((s.size : Nat) : Int).toNat * i0.size) := ⟨_, rfl⟩
    have hMs : M.size = s.size := by rw [hM, size_madeCells, hz1]; simp
    have hmk : ∀ W : World, (Instr.makeSlice 50 (.int .i64 (s.size : Int)) (.int .i64 (s.size : Int))).run Try.prog W = .ok (.slice (some ⟨W.heap.size, 0, none⟩) s.size s.size) (W.alloc (.cells M 5)) := fun W => by
      have h := run_make (P := Try.prog) W 50 5 i0 (.int .u8 0) Try.underlying50 hi hz0 .i64 .i64 (s.size : Int) (s.size : Int) (by omega) (by omega) (by rw [hz2]; omega) (by omega)
      rw [← hM] at h
      simpa using h
    clear hM
    have hcp := Lib.run_copy_row_string (P := Try.prog) (w.alloc (.cells M 5)) 50 9 3 5 w.heap.size 0 s.size s.size s M 5 Try.underlying50 hinfo (heap_alloc_new w _) (Nat.le_refl _) (by omega)
    obtain ⟨Y, hY⟩ : ∃ Y, Y = (M.toList.take 0 ++ Lib.byteCells s.data.toList ++ M.toList.drop (0 + s.size)).toArray := ⟨_, rfl⟩
    rw [← hY] at hcp
    have hYl : Y.toList = Lib.byteCells s.data.toList := by
      rw [hY, List.toList_toArray, List.take_zero, List.nil_append, List.drop_of_length_le (by rw [Array.length_toList]; omega), List.append_nil]
    have hYs : Y.size = s.size := by rw [← Array.length_toList, hYl, Lib.byteCells_length, ← Lib.size_eq]
    have hgY : ((w.alloc (.cells M 5)).setRow w.heap.size Y).heap[w.heap.size]? = some (.cells Y 5 (0, 0)) := setRow_heap _ _ M _ 5 (0, 0) (heap_alloc_new w _)
    have hne : s.data.toList ≠ [] := fun e => h0 (by rw [Lib.size_eq, e]; rfl)
    have hUS := Lib.run_unsafeString_row (P := Try.prog) ((w.alloc (.cells M 5)).setRow w.heap.size Y) 52 3 9 5 Try.underlying52 hco w.heap.size Y.size (by unfold World.shape?; rw [hgY]) s.data.toList hne (by rw [← Lib.size_eq]; omega) (by rw [← Lib.size_eq]; omega)
      (fun j x hx => Lib.cells_of_row hgY Y.size j _ (by rw [List.take_of_length_le (by rw [Array.length_toList]; exact Nat.le_refl _), hYl]; simp [Lib.byteCells, hx]))
    rw [← Lib.size_eq] at hUS
    clear hY
    go_enter Try.func39, Try.ntmps39
    go_wp2
    go_ret
    have hb1 : Below w.heap.size w (w.alloc (.cells M 5)) := (Below.refl _ w).alloc (Nat.le_refl _) _
    have hb2 : Below w.heap.size (w.alloc (.cells M 5)) ((w.alloc (.cells M 5)).setRow w.heap.size Y) := ⟨rfl, rfl, rfl, by simp, fun k hk => setRow_other _ _ _ _ (by omega)⟩
    exact ⟨rfl, Lib.below_freeze (hb1.trans hb2) (p := ⟨w.heap.size, 0, none⟩) (Nat.le_refl _) _⟩

set_option maxRecDepth 100000 in
theorem clone_impl (w : World) (s : ByteArray) (hlim : s.size ≤ 1000000000000) :
    Calls Try.prog 26 #[.string s] w fun e w' => e = .returned (.string s) ∧ Below w.heap.size w w' := by
  have q := clone_lite w s hlim
  go_enter Try.func26, Try.ntmps26
  go_wp2_with (go_at_call 39; refine q.mono ?_; rintro e w' ⟨rfl, b1⟩)
  go_ret
  exact ⟨rfl, b1⟩

/-- what the landed code cuts a path into -/
def cutB (s : ByteArray) : ByteArray := if maj4 s = 0 then s else s.extract 0 (s.size - (1 + (lastT s).size))
def cutN (s : ByteArray) : Int := if maj4 s = 0 then 1 else maj4 s

theorem cutB_base {s : ByteArray} (hp : path4 (sb s) = true) : base4 s = cutB s := by
  unfold base4 cutB
  rw [if_pos hp]
  by_cases h0 : maj4 s = 0
  · rw [if_pos h0, if_pos h0]
  · rw [if_neg h0, if_neg h0]
    obtain ⟨q, d, h1, h2, h3, h4, _⟩ := maj4_form h0
    have hlast : sb (lastT s) = [118] ++ d := by
      have hT := splitT_sb 47 s
      have h5 : ((splitT 47 s).map sb).getLast? = some ([118] ++ d) := by rw [hT, h2]; simp
      rw [List.getLast?_map] at h5
      unfold lastT
      cases hg : (splitT 47 s).getLast? with
      | none => rw [hg] at h5; simp at h5
      | some x => rw [hg] at h5; simpa using h5
    have hz : (lastT s).size = d.length + 1 := by rw [← sb_len, hlast]; simp
    rw [h4, hz]
    congr 1
    omega

/-- the number by the landed code's tests -/
theorem maj4_tests (s : ByteArray) : maj4 s = if 2 ≤ (splitT 47 s).length ∧ vAt (lastT s) = true ∧ (upTo (sb (vOff (lastT s))) 1000).2 = true ∧ 2 ≤ (upTo (sb (vOff (lastT s))) 1000).1 then (upTo (sb (vOff (lastT s))) 1000).1 else 0 := by
  unfold maj4
  by_cases h1 : 2 ≤ (splitT 47 s).length
  · by_cases h2 : vAt (lastT s) = true
    · have h2' : (sb (lastT s)).head? = some 118 := by unfold vAt at h2; exact of_decide_eq_true h2
      have h3 : vOff (lastT s) = (lastT s).extract 1 (lastT s).size := by unfold vOff; rw [if_pos h2]
      rw [if_neg (by rintro (h | h); omega; exact h h2'), in4_upTo, h3]
      by_cases h4 : (upTo (sb ((lastT s).extract 1 (lastT s).size)) 1000).2 = true ∧ 2 ≤ (upTo (sb ((lastT s).extract 1 (lastT s).size)) 1000).1
      · rw [if_pos h4, if_pos ⟨h1, h2, h4⟩]
      · rw [if_neg h4, if_neg (fun h => h4 h.2.2)]
    · have h2' : (sb (lastT s)).head? ≠ some 118 := by intro h; apply h2; unfold vAt; exact decide_eq_true h
      rw [if_pos (.inr h2'), if_neg (fun h => h2 h.2.1)]
  · rw [if_pos (.inl (by omega)), if_neg (fun h => h1 h.1)]

def slashed (t : ByteArray) : ByteArray := ⟨#[47]⟩ ++ t
theorem slashed_size (t : ByteArray) : (slashed t).size = 1 + t.size := by unfold slashed; simp; rfl
theorem slashed_sb (t : ByteArray) : sb (slashed t) = [47] ++ sb t := by unfold slashed sb; simp

theorem suffix_of {s : ByteArray} {q : List Int} (h : sb s = q ++ [47] ++ sb (lastT s)) : (slashed (lastT s)).size ≤ s.size ∧ s.extract (s.size - (slashed (lastT s)).size) s.size = slashed (lastT s) := by
  have hz := slashed_size (lastT s)
  have hl := congrArg List.length h
  rw [sb_len] at hl
  simp [sb_len] at hl
  refine ⟨by omega, ?_⟩
  have e : s.size - (slashed (lastT s)).size = q.length := by omega
  rw [e, ext_txt]
  have h2 : ((sb s).drop q.length).take (s.size - q.length) = sb (slashed (lastT s)) := by
    rw [slashed_sb, h, List.append_assoc, List.drop_left, List.take_of_length_le]
    simp [sb_len]
    omega
  rw [h2]
  exact txt_sbv _

end Go.Proofs.Ytnoopfpgkgjdcal.Mod
