/- Chapter 10, the landed code: whether a head is right; how two heads stand to each other; a copy of a head. -/
import Derived.Test.YteemblfjghnooaaHe3
import Derived.Test.YteemblfjghnooaaCln
namespace Go.Proofs.Yteemblfjghnooaa.He
open Go.RowKit Go.Proofs.Yteemblfjghnooaa.Mem Go.Proofs.Yteemblfjghnooaa.Laws Go.Proofs.Yteemblfjghnooaa.Bytes Go.Proofs.Yteemblfjghnooaa.Sha Go.Proofs.Yteemblfjghnooaa.Tr
set_option linter.unusedVariables false
set_option linter.unusedSimpArgs false

set_option maxRecDepth 1000000 in
set_option maxHeartbeats 1000000 in
theorem ok_impl (w : World) (h : Hd) (hz : h.r.size ≤ 1000000000000) : Calls Try.prog 65 #[.agg #[.int .i64 h.n, .string h.r]] w fun e w' => e = .returned (.bool (okH h)) ∧ Below w.heap.size w w' := by
  have HB : Hid (Below w.heap.size w (w.alloc (.cells #[.int .i64 h.n, .string h.r] 25))) := (Below.refl _ _).alloc (Nat.le_refl _) _
  by_cases h0 : 0 ≤ h.n
  · by_cases h2 : h.n ≤ 200
    · obtain ⟨t, ht⟩ : ∃ t, ((h.r.size : Int) == 32) = t := ⟨_, rfl⟩
      have HN : Hid (okH h = t) := by
        show _ = _
        rw [← ht]
        unfold okH
        by_cases h32 : h.r.size = 32
        · rw [decide_eq_true ⟨⟨h0, h2⟩, h32⟩, h32]; rfl
        · rw [decide_eq_false (fun c => h32 c.2)]
          exact (beq_eq_false_iff_ne.2 (by omega)).symm
      go_enter Try.func65, Try.ntmps65
      go_wp2
      go_ret
      exact ⟨by rw [HN.out]; rfl, HB.out⟩
    · have HN : Hid (okH h = false) := by show _ = _; unfold okH; rw [decide_eq_false (fun c => h2 c.1.2)]
      go_enter Try.func65, Try.ntmps65
      go_wp2
      go_ret
      exact ⟨by rw [HN.out]; rfl, HB.out⟩
  · have HN : Hid (okH h = false) := by show _ = _; unfold okH; rw [decide_eq_false (fun c => h0 c.1.1)]
    go_enter Try.func65, Try.ntmps65
    go_wp2
    go_ret
    exact ⟨by rw [HN.out]; rfl, HB.out⟩

/-- how two heads stand to each other: 1 the same, 2 of one size, 0 else -/
def pk (a b : Hd) : Int := if eqH a b = true then 1 else if a.n = b.n then 2 else 0

end Go.Proofs.Yteemblfjghnooaa.He
