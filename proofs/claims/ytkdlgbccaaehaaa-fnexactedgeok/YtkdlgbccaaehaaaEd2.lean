/- Chapter 7, the specification's side: what is right; one more. -/
import Derived.Test.YtkdlgbccaaehaaaEd1
import Derived.Test.YtkdlgbccaaehaaaTr8
import Derived.Test.YtkdlgbccaaehaaaRec
import Derived.Deep.RegionHeld3
namespace Go.Proofs.Ytkdlgbccaaehaaa.Ed
open Go.RowKit Go.Proofs.Ytkdlgbccaaehaaa.Mem Go.Proofs.Ytkdlgbccaaehaaa.Laws Go.Proofs.Ytkdlgbccaaehaaa.Bytes Go.Proofs.Ytkdlgbccaaehaaa.Sha Go.Proofs.Ytkdlgbccaaehaaa.Tr
set_option linter.unusedVariables false
set_option linter.unusedSimpArgs false

theorem and_one : ∀ m : Fin 256, bits .and .i64 (m.val : Int) 1 = ((m.val % 2 : Nat) : Int) := by decide +kernel

set_option maxRecDepth 1000000 in
set_option maxHeartbeats 1000000 in
theorem bits_spec (w : World) (n : Nat) (hn : n ≤ 255) : Calls Try.prog 11 #[.int .i64 (n : Int)] w fun e w' => e = .returned (.int .i64 (popc n : Int)) ∧ w = w' := by
  go_enter Try.func11, Try.ntmps11
  go_wp2
  go_loopw [0, 3] (fun a b wr => ∃ m k : Nat, a = .int .i64 (m : Int) ∧ b = .int .i64 (k : Int) ∧ m ≤ n ∧ k ≤ n ∧ m + k ≤ n ∧ Hid (k + popc m = popc n) ∧ wr = w) (fun a _ _ => (intOf a).toNat)
  case atStart => exact ⟨n, 0, rfl, rfl, Nat.le_refl _, Nat.zero_le _, Nat.le_refl _, by show _ = _; omega, rfl⟩
  case round =>
    obtain ⟨m, k, rfl, rfl, hm, hk, hmk, HE, rfl⟩ := hrel
    by_cases h0 : m = 0
    · subst h0
      have HN : Hid (popc n = k) := by
        show _ = _
        rw [← HE.out, popc_zero]; rfl
      clear HE
      go_wp2
      go_ret
      exact ⟨by rw [HN.out]; rfl, rfl⟩
    · have HN : Hid (k + m % 2 + popc (m / 2) = popc n) := by
        show _ = _
        rw [← HE.out, popc_step h0]; omega
      have ha := and_one ⟨m, by omega⟩
      have h1 : (0 : Int) < (m : Int) := by omega
      simp only at ha
      clear HE
      go_wp2
      go_roundw
      case rel => exact ⟨m / 2, k + m % 2, by go_num, by go_num, by omega, by omega, by omega, HN, by trivial⟩
      case measure => simp [intOf]; omega

/-- an edge's cells -/
def ee (n : Int) (v : Value) : Array Value := #[.int .i64 n, v]
theorem sizeEd (n : Int) (v : Value) : (Try.prog.info? 27).map (·.size) = some (ee n v).size := by
  show _ = some 2
  kernel_rfl
theorem oneEd (n : Int) {v : Value} (h : v.oneCell' = true) : (ee n v).all (·.oneCell') = true := by
  simp [ee, Value.oneCell']
  exact h

theorem okE_no {n : Int} {hs : List ByteArray} (h : ¬ ((0 ≤ n ∧ n ≤ 200) ∧ hs.length = popc n.toNat ∧ ∀ s ∈ hs, s.size = 32)) : okE n hs = false := by
  cases e : okE n hs with
  | false => rfl
  | true => exact absurd (okE_iff.1 e) h

set_option maxRecDepth 1000000 in
set_option maxHeartbeats 2000000 in
theorem ok_spec (w : World) (n : Int) (v : Value) (hs : List ByteArray) (h : Sl w v (ss hs)) (hl : hs.length ≤ 1000000000000) :
    Calls Try.prog 5 #[.agg #[.int .i64 n, v]] w fun e w' => e = .returned (.bool (okE n hs)) ∧ Below w.heap.size w w' := by
  have hB : Below w.heap.size w (w.alloc (.cells #[.int .i64 n, v] 27)) := (Below.refl _ _).alloc (Nat.le_refl _) _
  have r0 : (w.alloc (.cells #[.int .i64 n, v] 27)).heap[w.heap.size]? = some (.cells #[.int .i64 n, v] 27 (0, 0)) := heap_alloc_new w _
  have c0 : (w.alloc (.cells #[.int .i64 n, v] 27)).cell? ⟨w.heap.size, 0, none⟩ = some (.int .i64 n) := row_at r0 0
  have c1 : (w.alloc (.cells #[.int .i64 n, v] 27)).cell? ⟨w.heap.size, 1, none⟩ = some v := row_at r0 1
  have HB : Hid _ := hB
  have HC1 : Hid _ := c1
  have HS : Hid (Sl w v (ss hs)) := h
  obtain ⟨ao, cap, rfl, hcap⟩ := h.form
  rw [ss_len] at *
  clear r0 hB
  by_cases hin : 0 ≤ n ∧ n ≤ 200
  · obtain ⟨i1, i2⟩ := hin
    obtain ⟨m, rfl⟩ : ∃ m : Nat, n = (m : Int) := ⟨n.toNat, by omega⟩
    have q1 : ∀ W, _ := fun W => in6t W (n := (m : Int)) (a := 0) (b := 200) ⟨i1, i2⟩
    have q2 : ∀ W, _ := fun W => bits_spec W m (by omega)
    by_cases hp : hs.length = popc m
    · have dN : ((hs.length : Int) != (popc m : Int)) = false := by rw [hp]; simp
      have HP : Hid (hs.length = popc m) := hp
      clear hp
      go_enter Try.func5, Try.ntmps5
      go_wp2_with fail
      go_quiet (first | (go_at_call 10; exact quietE (q1 _)) | (go_at_call 11; exact quietE (q2 _)))
      clear q1 q2
      go_wp2
      go_loopw [3] (fun i wr => ∃ k : Nat, k ≤ hs.length ∧ i = .int .i64 (k : Int) ∧ Hid (∀ s ∈ hs.take k, s.size = 32) ∧ Hid (wr.cell? ⟨w.heap.size, 1, none⟩ = some (.slice ao hs.length cap)) ∧ Hid (Below w.heap.size w wr)) (fun i _ => hs.length - (intOf i).toNat)
      case atStart => exact ⟨0, Nat.zero_le _, rfl, fun s hs' => (by simp at hs'), HC1.out, below_drewN HB.out _⟩
      case round =>
        obtain ⟨k, hk, rfl, HA, HC, HBr⟩ := hrel
        have cc := HC.out
        by_cases hlt : k < hs.length
        · obtain ⟨s, hs0⟩ : ∃ s, hs[k]? = some s := ⟨hs[k], by simp⟩
          have hlt' : (k : Int) < (hs.length : Int) := by omega
          obtain ⟨b, off, rfl, hcell⟩ : ∃ b off, ao = some ⟨b, off, none⟩ ∧ wr.cell? ⟨b, off + k, none⟩ = some (.string s) := by
            obtain ⟨ao', c', he, _, _, hr⟩ := HS.out.later HBr.out
            rw [ss_len] at he hr
            simp only [Value.slice.injEq] at he
            obtain ⟨rfl, _, rfl⟩ := he
            obtain ⟨b, off, he, hc⟩ := hr (by omega)
            exact ⟨b, off, he, by rw [hc k hlt]; simp [ss, hs0]⟩
          by_cases h32 : s.size = 32
          · have HA' : Hid (∀ t ∈ hs.take (k + 1), t.size = 32) := by
              intro t ht
              rw [List.take_add_one, hs0] at ht
              rcases List.mem_append.1 ht with ht | ht
              · exact HA.out t ht
              · simp at ht; rw [ht]; exact h32
            have d32 : ((s.size : Int) != 32) = false := by simp; omega
            clear hs0 HA h32
            go_wp2
            go_roundw
            case rel => exact ⟨k + 1, by omega, by go_num, HA', HC, HBr⟩
            case measure => simp [intOf]; omega
          · have HN : Hid (okE (m : Int) hs = false) := okE_no fun hh => h32 (hh.2.2 s (List.mem_of_getElem? hs0))
            have d32 : ((s.size : Int) != 32) = true := by simp; omega
            clear hs0 HA h32
            go_wp2
            go_ret
            exact ⟨by rw [HN.out]; rfl, HBr.out⟩
        · have HN : Hid (okE (m : Int) hs = true) := okE_iff.2 ⟨⟨i1, i2⟩, by rw [Int.toNat_natCast]; exact HP.out, by
            have := HA.out
            rwa [List.take_of_length_le (by omega)] at this⟩
          have hlt' : ¬ (k : Int) < (hs.length : Int) := by omega
          clear HA
          go_wp2
          go_ret
          exact ⟨by rw [HN.out]; rfl, HBr.out⟩
    · have HN : Hid (okE (m : Int) hs = false) := okE_no fun hh => hp (by have := hh.2.1; rwa [Int.toNat_natCast] at this)
      have dN : ((hs.length : Int) != (popc m : Int)) = true := by simp; omega
      clear hp
      go_enter Try.func5, Try.ntmps5
      go_wp2_with fail
      go_quiet (first | (go_at_call 10; exact quietE (q1 _)) | (go_at_call 11; exact quietE (q2 _)))
      clear q1 q2
      go_wp2
      go_ret
      exact ⟨by rw [HN.out]; rfl, below_drewN HB.out _⟩
  · have q1 : ∀ W, _ := fun W => in6f W (n := n) (a := 0) (b := 200) hin
    have HN : Hid (okE n hs = false) := okE_no fun hh => hin hh.1
    clear hin
    go_enter Try.func5, Try.ntmps5
    go_wp2_with fail
    go_quiet (first | (go_at_call 10; exact quietE (q1 _)))
    clear q1
    go_wp2
    go_ret
    exact ⟨by rw [HN.out]; rfl, below_drewN HB.out _⟩

end Go.Proofs.Ytkdlgbccaaehaaa.Ed
