/- Chapter 4, the landed code: a number up to 1000. -/
import Derived.Test.YtnoopfpgkgjdcalImpB
namespace Go.Proofs.Ytnoopfpgkgjdcal.Ver
open Go.RowKit Go.Proofs.Ytnoopfpgkgjdcal.Mem Go.Proofs.Ytnoopfpgkgjdcal.Laws Go.Proofs.Ytnoopfpgkgjdcal.Bytes Go.Proofs.Ytnoopfpgkgjdcal.Sha
set_option linter.unusedVariables false
set_option linter.unusedSimpArgs false

set_option maxRecDepth 1000 in
set_option maxHeartbeats 1000000 in
theorem upto4_impl (w : World) (s : ByteArray) (hs : s.size ≤ 1000000000000) :
    Calls Try.prog 35 #[.string s, .int .i64 1000] w fun e w' => e = .returned (.tuple #[.int .i64 (upTo (sb s) 1000).1, .bool (upTo (sb s) 1000).2]) ∧ Below w.heap.size w w' := by
  have q := number_impl w s hs
  obtain ⟨x, hx⟩ : ∃ x, isNum (sb s) = x := ⟨_, rfl⟩
  rw [hx] at q
  have HX : Hid (isNum (sb s) = x) := hx
  clear hx
  cases x
  · have HN : Hid (upTo (sb s) 1000 = (0, false)) := by show _ = _; unfold upTo; rw [HX.out]; simp
    go_enter Try.func35, Try.ntmps35
    go_wp2_with (go_at_call 45; refine q.mono ?_; rintro e w1 ⟨rfl, b1⟩)
    go_ret2
    exact ⟨by rw [HN.out]; rfl, b1⟩
  · have HA : Hid ((sb s).all isd = true) := by
      show _ = _
      have h := HX.out
      unfold isNum at h
      rw [Bool.and_eq_true] at h
      exact h.1
    go_enter Try.func35, Try.ntmps35
    go_wp2_with (go_at_call 45; refine q.mono ?_; rintro e w1 ⟨rfl, b1⟩)
    have s1 := b1.size
    have HB : Hid (Below w.heap.size w w1) := b1
    clear q b1
    go_loopw [6] (fun n wr => ∃ (k : Nat) (m : Int), k ≤ s.size ∧ n = .int .i64 m ∧ Hid (m = numv ((sb s).take k)) ∧ 0 ≤ m ∧ m ≤ 1000 ∧ wr = w1.iter s k) (fun _ wr => s.size - wr.iterPos w1.heap.size)
    case atStart => exact ⟨0, 0, Nat.zero_le _, rfl, rfl, by omega, by omega, rfl⟩
    case round =>
      obtain ⟨k, m, hk, rfl, HM, m0, m1, rfl⟩ := hrel
      by_cases hp : k < s.size
      · have hg := sb_get s k hp
        have hd : isd (s[k].toNat : Int) = true := List.all_eq_true.1 HA.out _ (List.mem_of_getElem? hg)
        have hc : 48 ≤ (s[k].toNat : Int) ∧ (s[k].toNat : Int) ≤ 57 := by simpa [isd] using hd
        have hnx : ∀ ty, (Instr.next (.pointer (some ⟨w1.heap.size, 0, none⟩)) true ty).run Try.prog (w1.iter s k) = _ := fun ty => run_next_ascii w1 s k ty hp (by omega)
        have HN : Hid (m * 10 + ((s[k].toNat : Int) - 48) = numv ((sb s).take (k + 1))) := by
          show _ = _
          rw [take_snoc hg, numv_snoc, HM.out]
        have HT := numv_take HA.out (k + 1)
        rw [← HN.out] at HT
        have HT' : Hid (m * 10 + ((s[k].toNat : Int) - 48) ≤ numv (sb s)) := HT
        obtain ⟨c, hcc⟩ : ∃ c : Int, c = (s[k].toNat : Int) := ⟨_, rfl⟩
        have hBk : Below w.heap.size w (w1.iter s (k + 1)) := HB.out.alloc s1 _
        rw [← hcc] at hnx hc HN HT'
        clear hg hd HT hcc
        by_cases hgt : 1000 < m * 10 + (c - 48)
        · have HE : Hid (upTo (sb s) 1000 = (0, false)) := by
            show _ = _
            unfold upTo
            rw [if_neg (fun h => by have := h.2; have := HT'.out; omega)]
          go_wp2
          go_ret2
          exact ⟨by rw [HE.out]; rfl, hBk⟩
        · go_wp2
          go_roundw
          case rel => exact ⟨k + 1, m * 10 + (c - 48), by omega, by go_num, HN, by omega, by omega, rfl⟩
          case measure => simp; omega
      · have hnx : ∀ ty, (Instr.next (.pointer (some ⟨w1.heap.size, 0, none⟩)) true ty).run Try.prog (w1.iter s k) = _ := fun ty => run_next_end w1 s k ty hp
        have HE : Hid (upTo (sb s) 1000 = (m, true)) := by
          show _ = _
          have h := HM.out
          rw [List.take_of_length_le (by rw [sb_len]; omega)] at h
          unfold upTo
          rw [if_pos ⟨HX.out, by omega⟩, h]
        have hBk : Below w.heap.size w (w1.iter s k) := HB.out.alloc s1 _
        go_wp2
        go_ret2
        exact ⟨by rw [HE.out]; rfl, hBk⟩

end Go.Proofs.Ytnoopfpgkgjdcal.Ver
