/- Texts in one: Ver7. -/
import Derived.Test.YtlhmemnaiobgkaaGreatDoorPk8
/- Chapter 3, the specification's side: versions in order, and what is bumped. -/
namespace Go.Proofs.YtlhmemnaiobgkaaGreatDoor.Ver
set_option linter.unusedVariables false
set_option linter.unusedSimpArgs false
open Go.RowKit Go.Proofs.YtlhmemnaiobgkaaGreatDoor.Mem Go.Proofs.YtlhmemnaiobgkaaGreatDoor.Laws Go.Proofs.YtlhmemnaiobgkaaGreatDoor.Bytes Go.Proofs.YtlhmemnaiobgkaaGreatDoor.Sha

def lessV (a1 b1 c1 : Int) (p1 : ByteArray) (a2 b2 c2 : Int) (p2 : ByteArray) : Bool :=
  if a1 ≠ a2 then decide (a1 < a2) else if b1 ≠ b2 then decide (b1 < b2) else if c1 ≠ c2 then decide (c1 < c2)
  else if eqT p1 p2 = true ∨ p1.size = 0 then false else if p2.size = 0 then true else lessPre p1 p2

set_option maxRecDepth 1000000 in
set_option maxHeartbeats 1000000 in
theorem less_spec (w : World) (a1 b1 c1 : Int) (p1 : ByteArray) (a2 b2 c2 : Int) (p2 : ByteArray) (h1 : p1.size ≤ 1000000000000) (h2 : p2.size ≤ 1000000000000) :
    Calls Tryz.prog 81 #[ver a1 b1 c1 p1, ver a2 b2 c2 p2] w fun e w' => e = .returned (.bool (lessV a1 b1 c1 p1 a2 b2 c2 p2)) ∧ Below w.heap.size w w' := by
  have q := lessPre_spec ((w.alloc (.cells #[.int .i64 a1, .int .i64 b1, .int .i64 c1, .string p1] 32)).alloc (.cells #[.int .i64 a2, .int .i64 b2, .int .i64 c2, .string p2] 32)) p1 p2 h1 h2
  have HB : Hid (Below w.heap.size w ((w.alloc (.cells #[.int .i64 a1, .int .i64 b1, .int .i64 c1, .string p1] 32)).alloc (.cells #[.int .i64 a2, .int .i64 b2, .int .i64 c2, .string p2] 32))) := ((Below.refl _ _).alloc (Nat.le_refl _) _).alloc (by simp) _
  have HL : Hid (lessV a1 b1 c1 p1 a2 b2 c2 p2 = if a1 ≠ a2 then decide (a1 < a2) else if b1 ≠ b2 then decide (b1 < b2) else if c1 ≠ c2 then decide (c1 < c2)
    else if eqT p1 p2 = true ∨ p1.size = 0 then false else if p2.size = 0 then true else lessPre p1 p2) := rfl
  unfold ver
  by_cases e1 : a1 = a2
  · have d1 : (a1 != a2) = false := by simpa using e1
    by_cases e2 : b1 = b2
    · have d2 : (b1 != b2) = false := by simpa using e2
      by_cases e3 : c1 = c2
      · have d3 : (c1 != c2) = false := by simpa using e3
        by_cases e4 : eqT p1 p2 = true
        · have d4 : (p1.toList == p2.toList) = true := e4
          have HF : Hid (lessV a1 b1 c1 p1 a2 b2 c2 p2 = false) := by show _ = _; rw [HL.out, if_neg (by simpa using e1), if_neg (by simpa using e2), if_neg (by simpa using e3), if_pos (.inl e4)]
          clear HL e1 e2 e3 e4 q
          go_enter Tryz.func81, Tryz.ntmps81
          go_wp2
          go_ret
          exact ⟨by rw [HF.out]; rfl, HB.out⟩
        · have d4 : (p1.toList == p2.toList) = false := by simpa [eqT] using e4
          by_cases e5 : p1.size = 0
          · have d5 : p1.toList.isEmpty = true := by rw [toList_empty]; simp [e5]
            have HF : Hid (lessV a1 b1 c1 p1 a2 b2 c2 p2 = false) := by show _ = _; rw [HL.out, if_neg (by simpa using e1), if_neg (by simpa using e2), if_neg (by simpa using e3), if_pos (.inr e5)]
            clear HL e1 e2 e3 e4 e5 q
            go_enter Tryz.func81, Tryz.ntmps81
            go_wp2
            go_ret
            exact ⟨by rw [HF.out]; rfl, HB.out⟩
          · have d5 : p1.toList.isEmpty = false := by rw [toList_empty]; simp [e5]
            by_cases e6 : p2.size = 0
            · have d6 : p2.toList.isEmpty = true := by rw [toList_empty]; simp [e6]
              have HF : Hid (lessV a1 b1 c1 p1 a2 b2 c2 p2 = true) := by show _ = _; rw [HL.out, if_neg (by simpa using e1), if_neg (by simpa using e2), if_neg (by simpa using e3), if_neg (by rintro (h | h); exact e4 h; exact e5 h), if_pos e6]
              clear HL e1 e2 e3 e4 e5 e6 q
              go_enter Tryz.func81, Tryz.ntmps81
              go_wp2
              go_ret
              exact ⟨by rw [HF.out]; rfl, HB.out⟩
            · have d6 : p2.toList.isEmpty = false := by rw [toList_empty]; simp [e6]
              have HF : Hid (lessV a1 b1 c1 p1 a2 b2 c2 p2 = lessPre p1 p2) := by show _ = _; rw [HL.out, if_neg (by simpa using e1), if_neg (by simpa using e2), if_neg (by simpa using e3), if_neg (by rintro (h | h); exact e4 h; exact e5 h), if_neg e6]
              clear HL e1 e2 e3 e4 e5 e6
              go_enter Tryz.func81, Tryz.ntmps81
              go_wp2_with (go_at_call 101; refine q.mono ?_; rintro e w5 ⟨rfl, b5⟩)
              go_ret
              exact ⟨by rw [HF.out]; rfl, HB.out.trans (b5.mono (by simp; omega))⟩
      · have d3 : (c1 != c2) = true := by simpa using e3
        have HF : Hid (lessV a1 b1 c1 p1 a2 b2 c2 p2 = decide (c1 < c2)) := by show _ = _; rw [HL.out, if_neg (by simpa using e1), if_neg (by simpa using e2), if_pos e3]
        clear HL e1 e2 e3 q
        go_enter Tryz.func81, Tryz.ntmps81
        go_wp2
        go_ret
        exact ⟨by rw [HF.out]; rfl, HB.out⟩
    · have d2 : (b1 != b2) = true := by simpa using e2
      have HF : Hid (lessV a1 b1 c1 p1 a2 b2 c2 p2 = decide (b1 < b2)) := by show _ = _; rw [HL.out, if_neg (by simpa using e1), if_pos e2]
      clear HL e1 e2 q
      go_enter Tryz.func81, Tryz.ntmps81
      go_wp2
      go_ret
      exact ⟨by rw [HF.out]; rfl, HB.out⟩
  · have d1 : (a1 != a2) = true := by simpa using e1
    have HF : Hid (lessV a1 b1 c1 p1 a2 b2 c2 p2 = decide (a1 < a2)) := by show _ = _; rw [HL.out, if_pos e1]
    clear HL e1 q
    go_enter Tryz.func81, Tryz.ntmps81
    go_wp2
    go_ret
    exact ⟨by rw [HF.out]; rfl, HB.out⟩

end Go.Proofs.YtlhmemnaiobgkaaGreatDoor.Ver
