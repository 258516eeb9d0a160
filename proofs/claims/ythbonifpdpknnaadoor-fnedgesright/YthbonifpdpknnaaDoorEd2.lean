/- Chapter 7, the specification's side: what is right; one more. -/
import Derived.Test.YthbonifpdpknnaaDoorEd1
import Derived.Test.YthbonifpdpknnaaDoorTr8
import Derived.Test.YthbonifpdpknnaaDoorRec
import Derived.Deep.RegionHeld3
namespace Go.Proofs.YthbonifpdpknnaaDoor.Ed
open Go.RowKit Go.Proofs.YthbonifpdpknnaaDoor.Mem Go.Proofs.YthbonifpdpknnaaDoor.Laws Go.Proofs.YthbonifpdpknnaaDoor.Bytes Go.Proofs.YthbonifpdpknnaaDoor.Sha Go.Proofs.YthbonifpdpknnaaDoor.Tr
set_option linter.unusedVariables false
set_option linter.unusedSimpArgs false

theorem and_one : ∀ m : Fin 256, bits .and .i64 (m.val : Int) 1 = ((m.val % 2 : Nat) : Int) := by decide +kernel

set_option maxRecDepth 1000000 in
set_option maxHeartbeats 1000000 in
theorem bits_spec (w : World) (n : Nat) (hn : n ≤ 255) : Calls Tryd.prog 67 #[.int .i64 (n : Int)] w fun e w' => e = .returned (.int .i64 (popc n : Int)) ∧ w = w' := by
  go_enter Tryd.func67, Tryd.ntmps67
  go_wp2
  go_loopw [0, 3] (fun a b wr => ∃ m k : Nat, a = .int .i64 (m : Int) ∧ b = .int .i64 (k : Int) ∧ m ≤ n ∧ k ≤ n ∧ m + k ≤ n ∧ Hid (k + popc m = popc n) ∧ wr = w) (fun a _ _ => (intOf a).toNat)
  case atStart => exact ⟨n, 0, rfl, rfl, Nat.le_refl _, Nat.zero_le _, Nat.le_refl _, by show _ = _; omega, rfl⟩
  case round =>
    obtain ⟨m, k, rfl, rfl, hm, hk, hmk, HE, rfl⟩ := hrel
    by_cases h0 : m = 0
    · subst h0
      have HN : Hid (popc n = k) := by
        show _ = _
        rw [← HE.out, popc_zero]; rfl
      clear HE
      go_wp2
      go_ret
      exact ⟨by rw [HN.out]; rfl, rfl⟩
    · have HN : Hid (k + m % 2 + popc (m / 2) = popc n) := by
        show _ = _
        rw [← HE.out, popc_step h0]; omega
      have ha := and_one ⟨m, by omega⟩
      have h1 : (0 : Int) < (m : Int) := by omega
      simp only at ha
      clear HE
      go_wp2
      go_roundw
      case rel => exact ⟨m / 2, k + m % 2, by go_num, by go_num, by omega, by omega, by omega, HN, by trivial⟩
      case measure => simp [intOf]; omega

/-- an edge's cells -/
def ee (n : Int) (v : Value) : Array Value := #[.int .i64 n, v]
theorem sizeEd (n : Int) (v : Value) : (Tryd.prog.info? 34).map (·.size) = some (ee n v).size := by
  show _ = some 2
  kernel_rfl
theorem oneEd (n : Int) {v : Value} (h : v.oneCell' = true) : (ee n v).all (·.oneCell') = true := by
  simp [ee, Value.oneCell']
  exact h

theorem okE_no {n : Int} {hs : List ByteArray} (h : ¬ ((0 ≤ n ∧ n ≤ 200) ∧ hs.length = popc n.toNat ∧ ∀ s ∈ hs, s.size = 32)) : okE n hs = false := by
  cases e : okE n hs with
  | false => rfl
  | true => exact absurd (okE_iff.1 e) h

set_option maxRecDepth 1000000 in
set_option maxHeartbeats 2000000 in
theorem ok_spec (w : World) (n : Int) (v : Value) (hs : List ByteArray) (h : Sl w v (ss hs)) (hl : hs.length ≤ 1000000000000) :
    Calls Tryd.prog 50 #[.agg #[.int .i64 n, v]] w fun e w' => e = .returned (.bool (okE n hs)) ∧ Below w.heap.size w w' := by
  have hB : Below w.heap.size w (w.alloc (.cells #[.int .i64 n, v] 34)) := (Below.refl _ _).alloc (Nat.le_refl _) _
  have r0 : (w.alloc (.cells #[.int .i64 n, v] 34)).heap[w.heap.size]? = some (.cells #[.int .i64 n, v] 34 (0, 0)) := heap_alloc_new w _
  have c0 : (w.alloc (.cells #[.int .i64 n, v] 34)).cell? ⟨w.heap.size, 0, none⟩ = some (.int .i64 n) := row_at r0 0
  have c1 : (w.alloc (.cells #[.int .i64 n, v] 34)).cell? ⟨w.heap.size, 1, none⟩ = some v := row_at r0 1
  have HB : Hid _ := hB
  have HC1 : Hid _ := c1
  have HS : Hid (Sl w v (ss hs)) := h
  obtain ⟨ao, cap, rfl, hcap⟩ := h.form
  rw [ss_len] at *
  clear r0 hB
  by_cases hin : 0 ≤ n ∧ n ≤ 200
  · obtain ⟨i1, i2⟩ := hin
    obtain ⟨m, rfl⟩ : ∃ m : Nat, n = (m : Int) := ⟨n.toNat, by omega⟩
    have q1 : ∀ W, _ := fun W => in6t W (n := (m : Int)) (a := 0) (b := 200) ⟨i1, i2⟩
    have q2 : ∀ W, _ := fun W => bits_spec W m (by omega)
    by_cases hp : hs.length = popc m
    · have dN : ((hs.length : Int) != (popc m : Int)) = false := by rw [hp]; simp
      have HP : Hid (hs.length = popc m) := hp
      clear hp
      go_enter Tryd.func50, Tryd.ntmps50
      go_wp2_with fail
      go_quiet (first | (go_at_call 66; exact quietE (q1 _)) | (go_at_call 67; exact quietE (q2 _)))
      clear q1 q2
      go_wp2
      go_loopw [3] (fun i wr => ∃ k : Nat, k ≤ hs.length ∧ i = .int .i64 (k : Int) ∧ Hid (∀ s ∈ hs.take k, s.size = 32) ∧ Hid (wr.cell? ⟨w.heap.size, 1, none⟩ = some (.slice ao hs.length cap)) ∧ Hid (Below w.heap.size w wr)) (fun i _ => hs.length - (intOf i).toNat)
      case atStart => exact ⟨0, Nat.zero_le _, rfl, fun s hs' => (by simp at hs'), HC1.out, below_drewN HB.out _⟩
      case round =>
        obtain ⟨k, hk, rfl, HA, HC, HBr⟩ := hrel
        have cc := HC.out
        by_cases hlt : k < hs.length
        · obtain ⟨s, hs0⟩ : ∃ s, hs[k]? = some s := ⟨hs[k], by simp⟩
          have hlt' : (k : Int) < (hs.length : Int) := by omega
          obtain ⟨b, off, rfl, hcell⟩ : ∃ b off, ao = some ⟨b, off, none⟩ ∧ wr.cell? ⟨b, off + k, none⟩ = some (.string s) := by
            obtain ⟨ao', c', he, _, _, hr⟩ := HS.out.later HBr.out
            rw [ss_len] at he hr
            simp only [Value.slice.injEq] at he
            obtain ⟨rfl, _, rfl⟩ := he
            obtain ⟨b, off, he, hc⟩ := hr (by omega)
            exact ⟨b, off, he, by rw [hc k hlt]; simp [ss, hs0]⟩
          by_cases h32 : s.size = 32
          · have HA' : Hid (∀ t ∈ hs.take (k + 1), t.size = 32) := by
              intro t ht
              rw [List.take_add_one, hs0] at ht
              rcases List.mem_append.1 ht with ht | ht
              · exact HA.out t ht
              · simp at ht; rw [ht]; exact h32
            have d32 : ((s.size : Int) != 32) = false := by simp; omega
            clear hs0 HA h32
            go_wp2
            go_roundw
            case rel => exact ⟨k + 1, by omega, by go_num, HA', HC, HBr⟩
            case measure => simp [intOf]; omega
          · have HN : Hid (okE (m : Int) hs = false) := okE_no fun hh => h32 (hh.2.2 s (List.mem_of_getElem? hs0))
            have d32 : ((s.size : Int) != 32) = true := by simp; omega
            clear hs0 HA h32
            go_wp2
            go_ret
            exact ⟨by rw [HN.out]; rfl, HBr.out⟩
        · have HN : Hid (okE (m : Int) hs = true) := okE_iff.2 ⟨⟨i1, i2⟩, by rw [Int.toNat_natCast]; exact HP.out, by
            have := HA.out
            rwa [List.take_of_length_le (by omega)] at this⟩
          have hlt' : ¬ (k : Int) < (hs.length : Int) := by omega
          clear HA
          go_wp2
          go_ret
          exact ⟨by rw [HN.out]; rfl, HBr.out⟩
    · have HN : Hid (okE (m : Int) hs = false) := okE_no fun hh => hp (by have := hh.2.1; rwa [Int.toNat_natCast] at this)
      have dN : ((hs.length : Int) != (popc m : Int)) = true := by simp; omega
      clear hp
      go_enter Tryd.func50, Tryd.ntmps50
      go_wp2_with fail
      go_quiet (first | (go_at_call 66; exact quietE (q1 _)) | (go_at_call 67; exact quietE (q2 _)))
      clear q1 q2
      go_wp2
      go_ret
      exact ⟨by rw [HN.out]; rfl, below_drewN HB.out _⟩
  · have q1 : ∀ W, _ := fun W => in6f W (n := n) (a := 0) (b := 200) hin
    have HN : Hid (okE n hs = false) := okE_no fun hh => hin hh.1
    clear hin
    go_enter Tryd.func50, Tryd.ntmps50
    go_wp2_with fail
    go_quiet (first | (go_at_call 66; exact quietE (q1 _)))
    clear q1
    go_wp2
    go_ret
    exact ⟨by rw [HN.out]; rfl, below_drewN HB.out _⟩

set_option maxRecDepth 1000000 in
set_option maxHeartbeats 2000000 in
theorem copy_spec (w : World) (n : Int) (v : Value) (hs : List ByteArray) (h : Sl w v (ss hs)) (hl : hs.length ≤ 1000000000) :
    Calls Tryd.prog 51 #[.agg #[.int .i64 n, v]] w fun e w' => ∃ v', e = .returned (.agg #[.int .i64 n, v']) ∧ Own w' w.heap.size w'.heap.size 9 v' (ss hs) ∧ Below w.heap.size w w' := by
  obtain ⟨i0, hi, hz0, hz1, hz2⟩ := info_parts info9t
  obtain ⟨W, hW⟩ : ∃ W, W = (w.alloc (.cells #[.int .i64 n, v] 34)).alloc (.cells #[.int .i64 0, .slice none 0 0] 34) := ⟨_, rfl⟩
  have r0 : W.heap[w.heap.size]? = some (.cells #[.int .i64 n, v] 34 (0, 0)) := by rw [hW]; exact heap_alloc2_old w _ _
  have r1 : W.heap[w.heap.size + 1]? = some (.cells #[.int .i64 0, .slice none 0 0] 34 (0, 0)) := by
    rw [hW]
    have := heap_alloc_new (w.alloc (.cells #[.int .i64 n, v] 34)) (.cells #[.int .i64 0, .slice none 0 0] 34)
    simpa using this
  have hB : Below w.heap.size w W := by rw [hW]; exact ((Below.refl _ _).alloc (Nat.le_refl _) _).alloc (by simp) _
  have hz : W.heap.size = w.heap.size + 2 := by rw [hW]; simp
  have c0 := row_at r0 0
  have c1 := row_at r0 1
  simp at c0 c1
  have HS : Hid (Sl W v (ss hs)) := h.later hB
  have HR1 : Hid _ := r1
  have HB : Hid _ := hB
  have HZ : Hid _ := hz
  have HW : Hid _ := hW
  obtain ⟨ao, cap, rfl, hcap⟩ := h.form
  rw [ss_len] at *
  clear hW r0 r1 hB hz
  have c6 : (ss []).length + (ss hs).length ≤ maxLen := by rw [ss_len, ss_len]; unfold maxLen; simp; omega
  have c7 : ((ss []).length + (ss hs).length) * 16 ≤ 140737488355328 := by rw [ss_len, ss_len]; simp; omega
  go_enter Tryd.func51, Tryd.ntmps51
  go_wp2_with fail
  rw [← HW.out]
  refine wp_region_held_drew (S := fun w' => w'.cell? ⟨w.heap.size, 0, none⟩ = some (.int .i64 n) ∧ w'.cell? ⟨w.heap.size, 1, none⟩ = some (.slice ao hs.length cap)) (by kernel_rfl) ⟨c0, c1⟩ (fun hHeld => ?_)
  (refine wpAnyH_take (i := 0) (v := ?v0x1) rfl (by kernel_rfl) (by kernel_rfl) (by kernel_rfl) (fun _ _ _ h => h) (Or.inl ⟨by rfl, ?hy0x1⟩) (by assumption) ?rest0x1; case hy0x1 => (intro w hSw; (try dsimp only at hSw); go_split_ands; go_simp; (try with_reducible rfl)))
  try simp only [Act.put, List.setIfInBounds_toArray, List.set_cons_zero, List.set_cons_succ, List.getElem_toArray, List.getElem_cons_zero, List.getElem_cons_succ]
  (refine wpAnyH_take (i := 1) (v := ?v1x2) rfl (by kernel_rfl) (by kernel_rfl) (by kernel_rfl) (fun _ _ _ h => h) (Or.inl ⟨by rfl, ?hy1x2⟩) (by assumption) ?rest1x2; case hy1x2 => (intro w hSw; (try dsimp only at hSw); go_split_ands; go_simp; (try with_reducible rfl)))
  try simp only [Act.put, List.setIfInBounds_toArray, List.set_cons_zero, List.set_cons_succ, List.getElem_toArray, List.getElem_cons_zero, List.getElem_cons_succ]
  (refine wpAnyH_take (i := 3) (v := ?v3x3) rfl (by kernel_rfl) (by kernel_rfl) (by kernel_rfl) (fun _ _ _ h => h) (Or.inl ⟨by rfl, ?hy3x3⟩) (by assumption) ?rest3x3; case hy3x3 => (intro w hSw; (try dsimp only at hSw); go_split_ands; go_simp; (try with_reducible rfl)))
  try simp only [Act.put, List.setIfInBounds_toArray, List.set_cons_zero, List.set_cons_succ, List.getElem_toArray, List.getElem_cons_zero, List.getElem_cons_succ]
  (refine wpAnyH_take (i := 4) (v := ?v4x4) rfl (by kernel_rfl) (by kernel_rfl) (by kernel_rfl) (fun _ _ _ h => h) (Or.inl ⟨by rfl, ?hy4x4⟩) (by assumption) ?rest4x4; case hy4x4 => (intro w hSw; (try dsimp only at hSw); go_split_ands; go_simp; (try with_reducible rfl)))
  try simp only [Act.put, List.setIfInBounds_toArray, List.set_cons_zero, List.set_cons_succ, List.getElem_toArray, List.getElem_cons_zero, List.getElem_cons_succ]
  refine wpAnyH_ready (rs := [2]) (by kernel_rfl) (by simp) ?_
  refine AllReadyH.cons rfl (fun K hK => ?_) AllReadyH.nil
  go_simp
  refine hK.out _ _ ⟨keepR (W := W.drew) hHeld.1 ((Below.refl _ _).alloc (Nat.le_refl _) _), keepR (W := W.drew) hHeld.2 ((Below.refl _ _).alloc (Nat.le_refl _) _)⟩ (fun hHeld => ?_)
  clear hK K
  try simp only [Act.put, List.setIfInBounds_toArray, List.set_cons_zero, List.set_cons_succ, List.getElem_toArray, List.getElem_cons_zero, List.getElem_cons_succ]
  refine wpAnyH_ready (rs := [5]) (by kernel_rfl) (by simp) ?_
  refine AllReadyH.cons rfl (fun K hK => ?_) AllReadyH.nil
  refine step_app (by rfl) (.tmp 5) (.tmp 7) 24 (by rfl) 9 i0 (.string ⟨#[]⟩) 16 Tryd.underlying24 hi hz0 hz1 hz2 rfl (w.heap.size + 2) _ _ (by rfl) (emptyT W.drew (w.heap.size + 2) (by show _ ≤ W.heap.size; rw [HZ.out]; exact Nat.le_refl _)) _ (by rfl) (ss hs) (Sl.later (w := W.drew) HS.out ((Below.refl _ _).alloc (Nat.le_refl _) _)) (ss_one hs) c6 c7 (by show _ ≤ (W.heap.push _).size; rw [Array.size_push, HZ.out]; omega) ?_
  intro v5 w5 o5 b5
  refine hK.out _ _ ⟨(b5.cell (by show w.heap.size < w.heap.size + 2; omega)).trans hHeld.1, (b5.cell (by show w.heap.size < w.heap.size + 2; omega)).trans hHeld.2⟩ (fun hHeld => ?_)
  clear hK K
  try simp only [Act.put, List.setIfInBounds_toArray, List.set_cons_zero, List.set_cons_succ, List.getElem_toArray, List.getElem_cons_zero, List.getElem_cons_succ]
  have o5 : Own w5 (w.heap.size + 2) w5.heap.size 9 v5 (ss hs) := o5
  obtain ⟨ao5, L5, cap5, rfl, _, _⟩ := o5.form
  (refine wpAnyH_take (i := 6) (v := ?v6x5) rfl (by kernel_rfl) (by kernel_rfl) (by kernel_rfl) (fun _ _ _ h => h) (Or.inl ⟨by rfl, ?hy6x5⟩) (by assumption) ?rest6x5; case hy6x5 => (intro w hSw; (try dsimp only at hSw); go_split_ands; go_simp; (try with_reducible rfl)))
  try simp only [Act.put, List.setIfInBounds_toArray, List.set_cons_zero, List.set_cons_succ, List.getElem_toArray, List.getElem_cons_zero, List.getElem_cons_succ]
  have J1 : w5.heap[w.heap.size + 1]? = some (.cells #[.int .i64 0, .slice none 0 0] 34 (0, 0)) := (b5.block (w.heap.size + 1) (by omega)).trans ((heap_alloc_old W.drew _ (by show _ < W.heap.size; rw [HZ.out]; omega)).trans HR1.out)
  have JB : Below w.heap.size w w5 := ((Below.drew HB.out).alloc (by show _ ≤ W.heap.size; rw [HZ.out]; omega) _).trans (b5.mono (by omega))
  have hne : w.heap.size ≠ w.heap.size + 1 := by omega
  refine wpAnyH_ready (rs := [7]) (by kernel_rfl) (by simp) ?_
  refine AllReadyH.cons rfl (fun K hK => ?_) AllReadyH.nil
  rw [if_pos (by rfl)]
  refine wp_store_row 34 _ _ rfl (w.heap.size + 1) (ee n (.slice ao5 L5 cap5)) rfl rfl 34 _ J1 (sizeEd _ _) rfl (oneEd _ (Own.one (by assumption))) ?_
  refine hK.out _ _ ⟨cell_row (by exact hne) hHeld.1, cell_row (by exact hne) hHeld.2⟩ (fun hHeld => ?_)
  clear hK K
  try simp only [Act.put, List.setIfInBounds_toArray, List.set_cons_zero, List.set_cons_succ, List.getElem_toArray, List.getElem_cons_zero, List.getElem_cons_succ]
  refine wpAnyH_done (by kernel_rfl) ?_ _
  clear hHeld
  go_wp2
  refine bodyPost_ret (v := .agg (ee n (.slice ao5 L5 cap5))) (results_cell_row rfl _ _ (w.heap.size + 1) 34 _ (0, 0) _ rfl (setRow_heap _ _ _ _ _ (0, 0) J1) Tryd.underlying34 rfl (sizeEd n _)) rfl ⟨_, rfl, ?_, below_setRow JB (by omega) _⟩
  exact (o5.setRow _ (by omega)).mono (by omega) (by simp)

end Go.Proofs.YthbonifpdpknnaaDoor.Ed
