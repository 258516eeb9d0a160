/- Chapter 7, the landed code: how many bits; what is right. -/
import Derived.Test.YthbonifpdpknnaaDoorEd2
import Derived.Test.YthbonifpdpknnaaDoorCln
import Derived.BigQuiet
namespace Go.Proofs.YthbonifpdpknnaaDoor.Ed
open Go.RowKit Go.Proofs.YthbonifpdpknnaaDoor.Mem Go.Proofs.YthbonifpdpknnaaDoor.Laws Go.Proofs.YthbonifpdpknnaaDoor.Bytes Go.Proofs.YthbonifpdpknnaaDoor.Sha Go.Proofs.YthbonifpdpknnaaDoor.Tr
set_option linter.unusedVariables false
set_option linter.unusedSimpArgs false

set_option maxRecDepth 1000000 in
set_option maxHeartbeats 4000000 in
theorem ones64_any (w : World) (x : Nat) (hx : x ≤ 255) : Calls Tryd.prog 64 #[.int .u64 (x : Int)] w fun e w' => e = .returned (.int .i64 (popc x : Int)) ∧ w' = w := by
  obtain ⟨y, rfl⟩ : ∃ y : Fin 256, x = y.val := ⟨⟨x, by omega⟩, rfl⟩
  go_enter Tryd.func64, Tryd.ntmps64
  go_wp2
  go_ret
  refine ⟨congrArg (fun z => Ending.returned (Value.int .i64 z)) ?_, rfl⟩
  clear hx
  revert y
  decide +kernel

set_option maxRecDepth 1000000 in
set_option maxHeartbeats 1000000 in
theorem ones_any (w : World) (x : Nat) (hx : x ≤ 255) : Calls Tryd.prog 45 #[.int .u64 (x : Int)] w fun e w' => e = .returned (.int .i64 (popc x : Int)) ∧ w = w' := by
  have q := ones64_any w x hx
  have e2 : IntKind.u64.wrap (x : Int) = (x : Int) := by rw [IntKind.wrap_u64]; omega
  go_enter Tryd.func45, Tryd.ntmps45
  go_wp2_with fail
  refine q.mono ?_
  rintro e w1 ⟨rfl, hw1⟩
  have hw1 := hw1.symm
  subst hw1
  go_wp2
  go_ret
  exact ⟨rfl, rfl⟩

set_option maxRecDepth 1000000 in
set_option maxHeartbeats 2000000 in
theorem ok_impl (w : World) (n : Int) (v : Value) (hs : List ByteArray) (h : Sl w v (ss hs)) (hl : hs.length ≤ 1000000000000) :
    Calls Tryd.prog 21 #[.agg #[.int .i64 n, v]] w fun e w' => e = .returned (.bool (okE n hs)) ∧ Below w.heap.size w w' := by
  have hB : Below w.heap.size w (w.alloc (.cells #[.int .i64 n, v] 34)) := (Below.refl _ _).alloc (Nat.le_refl _) _
  have r0 : (w.alloc (.cells #[.int .i64 n, v] 34)).heap[w.heap.size]? = some (.cells #[.int .i64 n, v] 34 (0, 0)) := heap_alloc_new w _
  have c0 : (w.alloc (.cells #[.int .i64 n, v] 34)).cell? ⟨w.heap.size, 0, none⟩ = some (.int .i64 n) := row_at r0 0
  have c1 : (w.alloc (.cells #[.int .i64 n, v] 34)).cell? ⟨w.heap.size, 1, none⟩ = some v := row_at r0 1
  have HB : Hid _ := hB
  have HC1 : Hid _ := c1
  have HS : Hid (Sl w v (ss hs)) := h
  obtain ⟨ao, cap, rfl, hcap⟩ := h.form
  rw [ss_len] at *
  clear r0 hB
  by_cases hin : 0 ≤ n ∧ n ≤ 200
  · obtain ⟨i1, i2⟩ := hin
    obtain ⟨m, rfl⟩ : ∃ m : Nat, n = (m : Int) := ⟨n.toNat, by omega⟩
    have q2 : ∀ W, _ := fun W => ones_any W m (by omega)
    have e2 : IntKind.u64.wrap (m : Int) = (m : Int) := by rw [IntKind.wrap_u64]; omega
    have i3 : ¬ (m : Int) < 0 := by omega
    have i4 : ¬ (200 : Int) < (m : Int) := by omega
    by_cases hp : hs.length = popc m
    · have dN : ((hs.length : Int) != (popc m : Int)) = false := by rw [hp]; simp
      have HP : Hid (hs.length = popc m) := hp
      clear hp
      go_enter Tryd.func21, Tryd.ntmps21
      go_wp2_with fail
      go_quiet (first | (go_at_call 45; exact quietE (q2 _)))
      clear q2
      go_wp2
      go_loopw [26] (fun i wr => ∃ k : Nat, k ≤ hs.length ∧ i = .int .i64 (k : Int) ∧ Hid (∀ s ∈ hs.take k, s.size = 32) ∧ Hid (Below w.heap.size w wr)) (fun i _ => hs.length - (intOf i).toNat)
      case atStart => exact ⟨0, Nat.zero_le _, rfl, fun s hs' => (by simp at hs'), below_drewN HB.out _⟩
      case round =>
        obtain ⟨k, hk, rfl, HA, HBr⟩ := hrel
        by_cases hlt : k < hs.length
        · obtain ⟨s, hs0⟩ : ∃ s, hs[k]? = some s := ⟨hs[k], by simp⟩
          have hlt' : (k : Int) < (hs.length : Int) := by omega
          obtain ⟨b, off, rfl, hcell⟩ : ∃ b off, ao = some ⟨b, off, none⟩ ∧ wr.cell? ⟨b, off + k, none⟩ = some (.string s) := by
            obtain ⟨ao', c', he, _, _, hr⟩ := HS.out.later HBr.out
            rw [ss_len] at he hr
            simp only [Value.slice.injEq] at he
            obtain ⟨rfl, _, rfl⟩ := he
            obtain ⟨b, off, he, hc⟩ := hr (by omega)
            exact ⟨b, off, he, by rw [hc k hlt]; simp [ss, hs0]⟩
          by_cases h32 : s.size = 32
          · have HA' : Hid (∀ t ∈ hs.take (k + 1), t.size = 32) := by
              intro t ht
              rw [List.take_add_one, hs0] at ht
              rcases List.mem_append.1 ht with ht | ht
              · exact HA.out t ht
              · simp at ht; rw [ht]; exact h32
            have d32 : ((s.size : Int) != 32) = false := by simp; omega
            clear hs0 HA h32
            go_wp2
            go_roundw
            case rel => exact ⟨k + 1, by omega, by go_num, HA', HBr⟩
            case measure => simp [intOf]; omega
          · have HN : Hid (okE (m : Int) hs = false) := okE_no fun hh => h32 (hh.2.2 s (List.mem_of_getElem? hs0))
            have d32 : ((s.size : Int) != 32) = true := by simp; omega
            clear hs0 HA h32
            go_wp2
            go_ret
            exact ⟨by rw [HN.out]; rfl, HBr.out⟩
        · have HN : Hid (okE (m : Int) hs = true) := okE_iff.2 ⟨⟨i1, i2⟩, by rw [Int.toNat_natCast]; exact HP.out, by
            have := HA.out
            rwa [List.take_of_length_le (by omega)] at this⟩
          have hlt' : ¬ (k : Int) < (hs.length : Int) := by omega
          clear HA
          go_wp2
          go_ret
          exact ⟨by rw [HN.out]; rfl, HBr.out⟩
    · have HN : Hid (okE (m : Int) hs = false) := okE_no fun hh => hp (by have := hh.2.1; rwa [Int.toNat_natCast] at this)
      have dN : ((hs.length : Int) != (popc m : Int)) = true := by simp; omega
      clear hp
      go_enter Tryd.func21, Tryd.ntmps21
      go_wp2_with fail
      go_quiet (first | (go_at_call 45; exact quietE (q2 _)))
      clear q2
      go_wp2
      go_ret
      exact ⟨by rw [HN.out]; rfl, below_drewN HB.out _⟩
  · have HN : Hid (okE n hs = false) := okE_no fun hh => hin hh.1
    by_cases h0 : n < 0
    · clear hin
      go_enter Tryd.func21, Tryd.ntmps21
      go_wp2_with fail
      go_quiet (fail)
      go_wp2
      go_ret
      exact ⟨by rw [HN.out]; rfl, below_drewN HB.out _⟩
    · have h1 : (200 : Int) < n := by omega
      clear hin
      go_enter Tryd.func21, Tryd.ntmps21
      go_wp2_with fail
      go_quiet (fail)
      go_wp2
      go_ret
      exact ⟨by rw [HN.out]; rfl, below_drewN HB.out _⟩

end Go.Proofs.YthbonifpdpknnaaDoor.Ed
