/- Chapter 6, the specification's side: leaves, nodes, roots. -/
import Derived.Test.YteemblfjghnooaaTr1
import Derived.Test.YteemblfjghnooaaSha4
import Derived.Deep.RegionHeld3
namespace Go.Proofs.Yteemblfjghnooaa.Tr
open Go.RowKit Go.Proofs.Yteemblfjghnooaa.Mem Go.Proofs.Yteemblfjghnooaa.Laws Go.Proofs.Yteemblfjghnooaa.Bytes Go.Proofs.Yteemblfjghnooaa.Sha
set_option linter.unusedVariables false
set_option linter.unusedSimpArgs false

theorem oneB (w : World) (lo : Nat) (x : Int) (h : lo ≤ w.heap.size) : Own (w.alloc (.cells #[.int .u8 x] 5)) lo (w.alloc (.cells #[.int .u8 x] 5)).heap.size 5 (.slice (some ⟨w.heap.size, 0, none⟩) 1 1) (bs [x]) := by
  exact Own.of (World.ownsRow_lit (e := 5) (base := lo) (size := 1) w #[.int .u8 x] 1 h (by unfold maxLen; omega) rfl)

set_option maxRecDepth 1000000 in
set_option maxHeartbeats 1000000 in
theorem half_spec (w : World) (n : Nat) (hn : n ≤ 1000000000000) : Calls Try.prog 73 #[.int .i64 (n : Int)] w fun e w' => e = .returned (.int .i64 (half n : Int)) ∧ w' = w := by
  go_enter Try.func73, Try.ntmps73
  go_wp2
  go_loopw [3] (fun i wr => ∃ k f : Nat, i = .int .i64 (k : Int) ∧ 1 ≤ k ∧ k ≤ n + 1 ∧ n ≤ k + f ∧ Hid (halfF f k n = half n) ∧ wr = w) (fun i _ => n + 1 - (intOf i).toNat)
  case atStart => exact ⟨1, n, rfl, Nat.le_refl _, by omega, by omega, rfl, rfl⟩
  case round =>
    obtain ⟨k, f, rfl, hk1, hk2, hf, HH, rfl⟩ := hrel
    by_cases hlt : 2 * k < n
    · obtain ⟨g, rfl⟩ : ∃ g, f = g + 1 := ⟨f - 1, by omega⟩
      have HN : Hid (halfF g (2 * k) n = half n) := by
        show _ = _
        rw [← HH.out, halfF, if_pos hlt]
      have hlt' : (2 : Int) * (k : Int) < (n : Int) := by omega
      clear HH
      go_wp2
      go_roundw
      case rel => exact ⟨2 * k, g, by go_num, by omega, by omega, by omega, HN, by trivial⟩
      case measure => simp [intOf]; omega
    · have HN : Hid (half n = k) := by
        show _ = _
        rw [← HH.out]
        cases f with
        | zero => rfl
        | succ f => rw [halfF, if_neg hlt]
      have hlt' : ¬ (2 : Int) * (k : Int) < (n : Int) := by omega
      clear HH
      go_wp2
      go_ret
      exact ⟨by rw [HN.out]; rfl, rfl⟩

set_option maxRecDepth 1000000 in
set_option maxHeartbeats 1000000 in
theorem leaf_spec (w : World) (s : ByteArray) (hs : s.size ≤ 100000000000) : Calls Try.prog 72 #[.string s] w fun e w' => e = .returned (.string (leafH s)) ∧ Below w.heap.size w w' := by
  obtain ⟨i0, hi, hz0, hz1, hz2⟩ := info_parts info5
  have ho := oneB w w.heap.size 0 (Nat.le_refl _)
  have hB : Below w.heap.size w (w.alloc (.cells #[.int .u8 0] 5)) := (Below.refl _ _).alloc (Nat.le_refl _) _
  have hsz : w.heap.size ≤ (w.alloc (.cells #[.int .u8 0] 5)).heap.size := by simp
  have c1 : ([0] : List Int).length + s.size ≤ 140737488355328 := by simp; omega
  go_enter Try.func72, Try.ntmps72
  go_wp2_with (at_builtin; go_must (refine wpl_str _ rfl (.tmp 3) (.tmp 4) 22 9 rfl 5 i0 Try.underlying22 Try.underlying9 hi hz0 hz1 hz2 w.heap.size _ _ rfl ho s rfl c1 hsz ?_))
  intro v2 w2 ho2 hb2
  have q := digest_spec w2 v2 ([0] ++ sb s) ho2.sl (Byt.app (by intro x hx; simp at hx; omega) (sb_byt s)) (by rw [List.length_append, sb_len]; simp; omega)
  have HB2 : Hid (Below w.heap.size w w2) := hB.trans hb2
  clear ho ho2 hb2 hB
  go_wp2_with fail
  refine q.mono ?_
  rintro e w3 ⟨rfl, b3⟩
  have hB3 : Below w.heap.size w w3 := HB2.out.trans (b3.mono HB2.out.size)
  go_wp2
  go_ret
  exact ⟨rfl, hB3⟩

set_option maxRecDepth 1000000 in
set_option maxHeartbeats 1000000 in
theorem node_spec (w : World) (a b : ByteArray) (ha : a.size ≤ 100000000000) (hb : b.size ≤ 100000000000) : Calls Try.prog 74 #[.string a, .string b] w fun e w' => e = .returned (.string (nodeH a b)) ∧ Below w.heap.size w w' := by
  obtain ⟨i0, hi, hz0, hz1, hz2⟩ := info_parts info5
  have ho := oneB w w.heap.size 1 (Nat.le_refl _)
  have hB : Below w.heap.size w (w.alloc (.cells #[.int .u8 1] 5)) := (Below.refl _ _).alloc (Nat.le_refl _) _
  have hsz : w.heap.size ≤ (w.alloc (.cells #[.int .u8 1] 5)).heap.size := by simp
  have c1 : ([1] : List Int).length + a.size ≤ 140737488355328 := by simp; omega
  have c2 : ([1] ++ sb a : List Int).length + b.size ≤ 140737488355328 := by rw [List.length_append, sb_len]; simp; omega
  go_enter Try.func74, Try.ntmps74
  go_wp2_with (at_builtin; go_must (refine wpl_str _ rfl (.tmp 5) (.tmp 6) 22 9 rfl 5 i0 Try.underlying22 Try.underlying9 hi hz0 hz1 hz2 w.heap.size _ _ rfl ho a rfl c1 hsz ?_))
  intro v2 w2 ho2 hb2
  have hsz2 := Nat.le_trans hsz hb2.size
  go_wp2_with (at_builtin; go_must (refine wpl_str _ rfl (.tmp 7) (.tmp 8) 22 9 rfl 5 i0 Try.underlying22 Try.underlying9 hi hz0 hz1 hz2 w.heap.size _ _ rfl ho2 b rfl c2 hsz2 ?_))
  intro v3 w3 ho3 hb3
  have q := digest_spec w3 v3 ([1] ++ sb a ++ sb b) ho3.sl (Byt.app (Byt.app (by intro x hx; simp at hx; omega) (sb_byt a)) (sb_byt b)) (by rw [List.length_append, List.length_append, sb_len, sb_len]; simp; omega)
  have HB3 : Hid (Below w.heap.size w w3) := (hB.trans hb2).trans hb3
  clear ho2 ho3 hb2 hb3 hB
  go_wp2_with fail
  refine q.mono ?_
  rintro e w4 ⟨rfl, b4⟩
  have hB4 : Below w.heap.size w w4 := HB3.out.trans (b4.mono HB3.out.size)
  go_wp2
  go_ret
  exact ⟨rfl, hB4⟩

end Go.Proofs.Yteemblfjghnooaa.Tr
