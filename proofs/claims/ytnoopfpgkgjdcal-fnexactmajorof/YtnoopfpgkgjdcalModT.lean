/- Chapter 4, the landed code: what the library cuts off behind, and what it copies; plain facts of a path's last part. -/
import Derived.Test.YtnoopfpgkgjdcalModS
import Derived.Test.YtnoopfpgkgjdcalModU
import Derived.Lib.Strings
import Derived.Lib.Walk
import Derived.Lib.BufferWrite
import Derived.Lib.UnsafeStr
import Derived.Lib.Hide
import Derived.Laws.MakeOwn
namespace Go.Proofs.Ytnoopfpgkgjdcal.Mod
open Go.RowKit Go.Proofs.Ytnoopfpgkgjdcal.Mem Go.Proofs.Ytnoopfpgkgjdcal.Laws Go.Proofs.Ytnoopfpgkgjdcal.Bytes Go.Proofs.Ytnoopfpgkgjdcal.Sha Go.Proofs.Ytnoopfpgkgjdcal.Ver
set_option linter.unusedVariables false
set_option linter.unusedSimpArgs false

theorem isNum_digs4 {l : List Int} (h : isNum l = true) : l.all isd = true ∧ l ≠ [] ∧ (1 < l.length → l.head? ≠ some 48) := by
  unfold isNum at h
  rw [Bool.and_eq_true, Bool.or_eq_true] at h
  obtain ⟨h1, h2⟩ := h
  refine ⟨h1, ?_, ?_⟩
  · rintro rfl
    simp at h2
  · intro hl
    rcases h2 with h2 | h2
    · have : l = [48] := by simpa using h2
      rw [this] at hl
      simp at hl
    · simp at h2
      exact h2.2
/-- the number that a last part tells, by the landed code's reading -/
theorem in4_upTo (l : List Int) : in4 (number l) = if (upTo l 1000).2 = true ∧ 2 ≤ (upTo l 1000).1 then (upTo l 1000).1 else 0 := by
  by_cases hn : isNum l = true
  · obtain ⟨ha, h0, hh⟩ := isNum_digs4 hn
    have hp : 0 < l.length := List.length_pos_iff.2 h0
    by_cases h8 : l.length ≤ 8
    · have hnum : number l = numv l := by
        unfold number digs
        rw [if_neg]
        rw [ha, List.isEmpty_eq_false_iff.2 h0]
        rintro (h | h | h)
        · simp at h
        · omega
        · exact hh h.1 h.2
      by_cases hm : numv l ≤ 1000
      · have hu : upTo l 1000 = (numv l, true) := by unfold upTo; rw [if_pos ⟨hn, hm⟩]
        rw [hu, hnum]
        unfold in4
        by_cases h2 : 2 ≤ numv l
        · rw [if_pos ⟨h2, hm⟩, if_pos ⟨rfl, h2⟩]
        · rw [if_neg (fun h => h2 h.1), if_neg (fun h => h2 h.2)]
      · have hu : upTo l 1000 = (0, false) := by unfold upTo; rw [if_neg (fun h => hm h.2)]
        rw [hu, hnum]
        unfold in4
        rw [if_neg (fun h => hm h.2), if_neg (by simp)]
    · have hb := numv_big (l.length - 1) l (by omega) ha (hh (by omega))
      have h8' : (10 : Int) ^ 8 ≤ 10 ^ (l.length - 1) := pow_le (by omega)
      have hu : upTo l 1000 = (0, false) := by unfold upTo; rw [if_neg (fun h => by have := h.2; omega)]
      have hnum : number l = -1 := by unfold number; rw [if_pos (.inr (.inl (by omega)))]
      rw [hu, hnum]
      rfl
  · have hu : upTo l 1000 = (0, false) := by unfold upTo; rw [if_neg (fun h => hn h.1)]
    have hnum : number l < 0 := by
      by_cases h8 : l.length ≤ 8
      · have := isNum_number h8
        rw [Bool.eq_false_iff.2 hn] at this
        have := of_decide_eq_false this.symm
        omega
      · unfold number
        rw [if_pos (.inr (.inl (by omega)))]
        omega
    rw [hu]
    unfold in4
    rw [if_neg (by omega), if_neg (by simp)]

/-- a text's last part, and what stands before it -/
theorem last_form (s : ByteArray) : ((splitT 47 s).length < 2 ∧ (lastT s).size = s.size) ∨ (2 ≤ (splitT 47 s).length ∧ ∃ q, sb s = q ++ [47] ++ sb (lastT s)) := by
  have hT := splitT_sb 47 s
  by_cases hin : (47 : Int) ∈ sb s
  · right
    obtain ⟨q, r, hs, hr⟩ := last_of 47 _ hin
    have hsp : split 47 (sb s) = split 47 q ++ [r] := by
      unfold split
      rw [hs, splitL_app, splitL_none 47 r [] hr]
      simp
    have hlast : sb (lastT s) = r := by
      have h4 : (splitT 47 s).map sb = split 47 q ++ [r] := by rw [hT, hsp]
      have h5 : ((splitT 47 s).map sb).getLast? = some r := by rw [h4]; simp
      rw [List.getLast?_map] at h5
      unfold lastT
      cases hg : (splitT 47 s).getLast? with
      | none => rw [hg] at h5; simp at h5
      | some x => rw [hg] at h5; simpa using h5
    have hl : (splitT 47 s).length = (split 47 q).length + 1 := by rw [← List.length_map (f := sb), hT, hsp]; simp
    have hq : 0 < (split 47 q).length := by
      have := splitT_pos 47 (Plain.txt q)
      have hb : Byt q := by
        have := sb_byt s
        rw [hs] at this
        exact fun x hx => this x (by simp [hx])
      have h6 := splitT_sb 47 (Plain.txt q)
      rw [sb_txtv hb] at h6
      rw [← h6, List.length_map]
      exact this
    exact ⟨by omega, q, by rw [hlast]; exact hs⟩
  · left
    have : split 47 (sb s) = [sb s] := by
      unfold split
      rw [splitL_none 47 _ _ (fun x hx e => hin (e ▸ hx))]
      simp
    have h3 : splitT 47 s = [s] := by unfold splitT; rw [this]; simp [txt_sbv]
    refine ⟨by rw [h3]; simp, ?_⟩
    unfold lastT
    rw [h3]
    rfl

set_option maxRecDepth 1000000 in
set_option maxHeartbeats 1000000 in
theorem hassuf_no (w : World) (s t : ByteArray) (hs : s.size ≤ 1000000000000) (h : s.size < t.size) (ht : t.size ≤ 1000000000000) : Calls Try.prog 50 #[.string s, .string t] w fun e w' => e = .returned (.bool false) ∧ w' = w := by
  have h1 : ¬ t.size ≤ s.size := by omega
  go_enter Try.func50, Try.ntmps50
  go_wp2
  go_ret
  exact ⟨rfl, rfl⟩

set_option maxRecDepth 1000000 in
set_option maxHeartbeats 1000000 in
theorem hassuf_yes (w : World) (s t : ByteArray) (hs : s.size ≤ 1000000000000) (h : t.size ≤ s.size) (he : s.extract (s.size - t.size) s.size = t) : Calls Try.prog 50 #[.string s, .string t] w fun e w' => e = .returned (.bool true) ∧ w' = w := by
  have e1 : ((s.size : Int) - (t.size : Int)).toNat = s.size - t.size := by omega
  have e2 : ((s.extract (s.size - t.size) s.size).toList == t.toList) = true := by rw [he]; simp
  clear he
  go_enter Try.func50, Try.ntmps50
  go_wp2
  go_ret
  exact ⟨rfl, rfl⟩

set_option maxRecDepth 1000000 in
set_option maxHeartbeats 1000000 in
theorem cuts_no (w : World) (s t : ByteArray) (hs : s.size ≤ 1000000000000) (h : s.size < t.size) (ht : t.size ≤ 1000000000000) : Calls Try.prog 33 #[.string s, .string t] w fun e w' => e = .returned (.tuple #[.string s, .bool false]) ∧ w' = w := by
  have q := hassuf_no w s t hs h ht
  go_enter Try.func33, Try.ntmps33
  go_wp2_with (first | (go_at_call 50; refine q.mono ?_; rintro e w' ⟨rfl, rfl⟩) | go_in)
  go_ret2
  exact ⟨rfl, rfl⟩

set_option maxRecDepth 1000000 in
set_option maxHeartbeats 1000000 in
theorem cuts_yes (w : World) (s t : ByteArray) (hs : s.size ≤ 1000000000000) (h : t.size ≤ s.size) (he : s.extract (s.size - t.size) s.size = t) : Calls Try.prog 33 #[.string s, .string t] w fun e w' => e = .returned (.tuple #[.string (s.extract 0 (s.size - t.size)), .bool true]) ∧ w' = w := by
  have q := hassuf_yes w s t hs h he
  have e1 : ((s.size : Int) - (t.size : Int)).toNat = s.size - t.size := by omega
  clear he
  go_enter Try.func33, Try.ntmps33
  go_wp2_with (first | (go_at_call 50; refine q.mono ?_; rintro e w' ⟨rfl, rfl⟩) | go_in)
  go_ret2
  exact ⟨rfl, rfl⟩

end Go.Proofs.Ytnoopfpgkgjdcal.Mod
