/- Chapter 4, the specification's side: parts of a path, paths. -/
import Derived.Test.YtnoopfpgkgjdcalVer3
namespace Go.Proofs.Ytnoopfpgkgjdcal.Ver
open Go.RowKit Go.Proofs.Ytnoopfpgkgjdcal.Mem Go.Proofs.Ytnoopfpgkgjdcal.Laws Go.Proofs.Ytnoopfpgkgjdcal.Bytes Go.Proofs.Ytnoopfpgkgjdcal.Sha
set_option linter.unusedVariables false
set_option linter.unusedSimpArgs false

/-- a sign that may begin a part of a path -/
def plain4 (c : Int) : Bool := decide (97 ≤ c ∧ c ≤ 122) || decide (48 ≤ c ∧ c ≤ 57)
/-- a sign of a part of a path, at place i -/
def sign4 (i : Nat) (c : Int) : Bool := plain4 c || (decide (i ≠ 0) && (decide (c = 45) || decide (c = 46) || decide (c = 95)))
def signs4 : Nat → List Int → Bool
  | _, [] => true
  | i, c :: r => sign4 i c && signs4 (i + 1) r
def part4 (l : List Int) : Bool := signs4 0 l && decide (1 ≤ l.length ∧ l.length ≤ 20)
def path4 (l : List Int) : Bool := (split 47 l).all part4 && decide ((split 47 l).length ≤ 6) && decide (l.length ≤ 60)

theorem signs4_app : ∀ (l r : List Int) (i : Nat), signs4 i (l ++ r) = (signs4 i l && signs4 (i + l.length) r) := by
  intro l
  induction l with
  | nil => intro r i; simp [signs4]
  | cons c l ih =>
    intro r i
    simp only [List.cons_append, signs4, ih, List.length_cons, Bool.and_assoc]
    rw [show i + 1 + l.length = i + (l.length + 1) by omega]
theorem signs4_step {l : List Int} {k : Nat} {c : Int} (hc : l[k]? = some c) : signs4 0 (l.take (k + 1)) = (signs4 0 (l.take k) && sign4 k c) := by
  have hk : k < l.length := (List.getElem?_eq_some_iff.1 hc).1
  rw [take_snoc hc, signs4_app]
  simp [signs4, Nat.min_eq_left (Nat.le_of_lt hk)]
theorem signs4_bad {l : List Int} {k : Nat} {c : Int} (hc : l[k]? = some c) (hb : sign4 k c = false) : signs4 0 l = false := by
  have hk : k < l.length := (List.getElem?_eq_some_iff.1 hc).1
  have h := signs4_step hc
  rw [hb, Bool.and_false] at h
  have e : l = l.take (k + 1) ++ l.drop (k + 1) := (List.take_append_drop _ _).symm
  rw [e, signs4_app, h]
  rfl

set_option maxRecDepth 1000000 in
set_option maxHeartbeats 1000000 in
theorem part4_spec (w : World) (s : ByteArray) (hs : s.size ≤ 1000000000000) : Calls Try.prog 18 #[.string s] w fun e w' => e = .returned (.bool (part4 (sb s))) ∧ w = w' := by
  have HP : Hid (part4 (sb s) = (signs4 0 (sb s) && decide (1 ≤ s.size ∧ s.size ≤ 20))) := by show _ = _; unfold part4; rw [sb_len]
  go_enter Try.func18, Try.ntmps18
  go_wp2
  go_loopw [3] (fun i wr => ∃ k : Nat, k ≤ s.size ∧ i = .int .i64 (k : Int) ∧ Hid (signs4 0 ((sb s).take k) = true) ∧ w = wr) (fun i _ => s.size - (intOf i).toNat)
  case atStart => exact ⟨0, Nat.zero_le _, rfl, rfl, by first | rfl | trivial⟩
  case round =>
    obtain ⟨k, hk, rfl, HA, rfl⟩ := hrel
    by_cases hp : k < s.size
    · have hg := sb_get s k hp
      have hcb := (sb_byt s).at hg
      have HS : Hid (signs4 0 ((sb s).take (k + 1)) = (signs4 0 ((sb s).take k) && sign4 k (s[k].toNat : Int))) := signs4_step hg
      have HB : Hid (sign4 k (s[k].toNat : Int) = false → signs4 0 (sb s) = false) := signs4_bad hg
      obtain ⟨b1, e1⟩ : ∃ x, decide ((97 : Int) ≤ (s[k].toNat : Int) ∧ (s[k].toNat : Int) ≤ 122) = x := ⟨_, rfl⟩
      obtain ⟨b2, e2⟩ : ∃ x, decide ((48 : Int) ≤ (s[k].toNat : Int) ∧ (s[k].toNat : Int) ≤ 57) = x := ⟨_, rfl⟩
      have E1 : Hid (decide ((97 : Int) ≤ (s[k].toNat : Int) ∧ (s[k].toNat : Int) ≤ 122) = b1) := e1
      have E2 : Hid (decide ((48 : Int) ≤ (s[k].toNat : Int) ∧ (s[k].toNat : Int) ≤ 57) = b2) := e2
      clear hg
      cases b1
      · cases b2
        · by_cases h0 : k = 0
          · have d0 : ((k : Int) == 0) = true := by simp; omega
            have HN : Hid (part4 (sb s) = false) := by
              show _ = _
              rw [HP.out, HB.out (by unfold sign4 plain4; rw [E1.out, E2.out]; simp [h0])]
              rfl
            clear h0
            go_wp2_with (go_at_call 27; refine (in_spec _ _ _ _).mono ?_; rintro e w' ⟨rfl, rfl⟩; first | rw [e1] | rw [e2])
            go_ret
            exact ⟨by rw [HN.out]; rfl, rfl⟩
          · have d0 : ((k : Int) == 0) = false := by simp; omega
            by_cases h1 : (s[k].toNat : Int) = 45
            · have d1 : ((s[k].toNat : Int) != 45) = false := by simpa using h1
              have HN : Hid (signs4 0 ((sb s).take (k + 1)) = true) := by show _ = _; rw [HS.out, HA.out]; unfold sign4; simp [h0, h1]
              clear h0 h1
              go_wp2_with (go_at_call 27; refine (in_spec _ _ _ _).mono ?_; rintro e w' ⟨rfl, rfl⟩; first | rw [e1] | rw [e2])
              go_roundw
              case rel => exact ⟨k + 1, by omega, by go_num, HN, by first | rfl | trivial⟩
              case measure => simp [intOf]; omega
            · have d1 : ((s[k].toNat : Int) != 45) = true := by simpa using h1
              by_cases h2 : (s[k].toNat : Int) = 46
              · have d2 : ((s[k].toNat : Int) != 46) = false := by simpa using h2
                have HN : Hid (signs4 0 ((sb s).take (k + 1)) = true) := by show _ = _; rw [HS.out, HA.out]; unfold sign4; simp [h0, h2]
                clear h0 h1 h2
                go_wp2_with (go_at_call 27; refine (in_spec _ _ _ _).mono ?_; rintro e w' ⟨rfl, rfl⟩; first | rw [e1] | rw [e2])
                go_roundw
                case rel => exact ⟨k + 1, by omega, by go_num, HN, by first | rfl | trivial⟩
                case measure => simp [intOf]; omega
              · have d2 : ((s[k].toNat : Int) != 46) = true := by simpa using h2
                by_cases h3 : (s[k].toNat : Int) = 95
                · have d3 : ((s[k].toNat : Int) != 95) = false := by simpa using h3
                  have HN : Hid (signs4 0 ((sb s).take (k + 1)) = true) := by show _ = _; rw [HS.out, HA.out]; unfold sign4; simp [h0, h3]
                  clear h0 h1 h2 h3
                  go_wp2_with (go_at_call 27; refine (in_spec _ _ _ _).mono ?_; rintro e w' ⟨rfl, rfl⟩; first | rw [e1] | rw [e2])
                  go_roundw
                  case rel => exact ⟨k + 1, by omega, by go_num, HN, by first | rfl | trivial⟩
                  case measure => simp [intOf]; omega
                · have d3 : ((s[k].toNat : Int) != 95) = true := by simpa using h3
                  have HN : Hid (part4 (sb s) = false) := by
                    show _ = _
                    rw [HP.out, HB.out (by unfold sign4 plain4; rw [E1.out, E2.out]; simp [h1, h2, h3])]
                    rfl
                  clear h0 h1 h2 h3
                  go_wp2_with (go_at_call 27; refine (in_spec _ _ _ _).mono ?_; rintro e w' ⟨rfl, rfl⟩; first | rw [e1] | rw [e2])
                  go_ret
                  exact ⟨by rw [HN.out]; rfl, rfl⟩
        · have HN : Hid (signs4 0 ((sb s).take (k + 1)) = true) := by show _ = _; rw [HS.out, HA.out]; unfold sign4 plain4; rw [E2.out]; simp
          go_wp2_with (go_at_call 27; refine (in_spec _ _ _ _).mono ?_; rintro e w' ⟨rfl, rfl⟩; first | rw [e1] | rw [e2])
          go_roundw
          case rel => exact ⟨k + 1, by omega, by go_num, HN, by first | rfl | trivial⟩
          case measure => simp [intOf]; omega
      · have HN : Hid (signs4 0 ((sb s).take (k + 1)) = true) := by show _ = _; rw [HS.out, HA.out]; unfold sign4 plain4; rw [E1.out]; simp
        go_wp2_with (go_at_call 27; refine (in_spec _ _ _ _).mono ?_; rintro e w' ⟨rfl, rfl⟩; first | rw [e1] | rw [e2])
        go_roundw
        case rel => exact ⟨k + 1, by omega, by go_num, HN, by first | rfl | trivial⟩
        case measure => simp [intOf]; omega
    · have HN : Hid (part4 (sb s) = decide ((1 : Int) ≤ (s.size : Int) ∧ (s.size : Int) ≤ 20)) := by
        show _ = _
        have h1 := HA.out
        rw [List.take_of_length_le (by rw [sb_len]; omega)] at h1
        rw [HP.out, h1, Bool.true_and]
        apply decide_eq_decide.2
        omega
      go_wp2_with (go_at_call 27; refine (in_spec _ _ _ _).mono ?_; rintro e w' ⟨rfl, rfl⟩)
      go_ret
      exact ⟨by rw [HN.out]; simp, rfl⟩

end Go.Proofs.Ytnoopfpgkgjdcal.Ver
