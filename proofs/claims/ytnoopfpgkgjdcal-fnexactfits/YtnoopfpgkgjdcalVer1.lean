/- Chapter 3, the specification's side: digits, numbers, parts of a text, as plain functions of lists of bytes. -/
import Derived.Test.YtnoopfpgkgjdcalSha
namespace Go.Proofs.Ytnoopfpgkgjdcal.Ver
open Go.RowKit Go.Proofs.Ytnoopfpgkgjdcal.Mem Go.Proofs.Ytnoopfpgkgjdcal.Laws Go.Proofs.Ytnoopfpgkgjdcal.Bytes Go.Proofs.Ytnoopfpgkgjdcal.Sha
set_option linter.unusedVariables false
set_option linter.unusedSimpArgs false

/-- a digit -/
def isd (c : Int) : Bool := decide (48 ≤ c ∧ c ≤ 57)
/-- digits alone, and one at least -/
def digs (l : List Int) : Bool := l.all isd && !l.isEmpty
def numv (l : List Int) : Int := l.foldl (fun n c => n * 10 + (c - 48)) 0
/-- a number of at most eight digits without a needless nought; below 0: it is none -/
def number (l : List Int) : Int := if digs l = false ∨ 8 < l.length ∨ (1 < l.length ∧ l.head? = some 48) then -1 else numv l
/-- a sign of a part -/
def psign (c : Int) : Bool := decide (97 ≤ c ∧ c ≤ 122) || decide (65 ≤ c ∧ c ≤ 90) || decide (48 ≤ c ∧ c ≤ 57) || decide (c = 45)
def part (l : List Int) : Bool := l.all psign && decide (1 ≤ l.length ∧ l.length ≤ 8) && (!digs l || decide (0 ≤ number l))

theorem all_take {p : Int → Bool} {l : List Int} {k : Nat} {c : Int} (h : (l.take k).all p = true) (hc : l[k]? = some c) (hp : p c = true) : (l.take (k + 1)).all p = true := by
  rw [take_snoc hc, List.all_append, h]
  simp [hp]
theorem all_bad {p : Int → Bool} {l : List Int} {k : Nat} {c : Int} (hc : l[k]? = some c) (hp : p c = false) : l.all p = false := by
  rw [List.all_eq_false]
  exact ⟨c, List.mem_of_getElem? hc, by simp [hp]⟩

theorem loop_nil (s : ByteArray) (h : s.size = 0) : s.toList = [] := by
  unfold ByteArray.toList
  unfold ByteArray.toList.loop
  simp [h]
theorem loop_ge (s : ByteArray) (n : Nat) : ∀ i r, s.size - i = n → r ≠ [] → ByteArray.toList.loop s i r ≠ [] := by
  induction n with
  | zero => intro i r h hr; unfold ByteArray.toList.loop; rw [if_neg (by omega)]; simpa using hr
  | succ n ih => intro i r h hr; unfold ByteArray.toList.loop; rw [if_pos (by omega)]; exact ih _ _ (by omega) (by simp)
theorem loop_pos (s : ByteArray) (h : 0 < s.size) : s.toList ≠ [] := by
  unfold ByteArray.toList
  unfold ByteArray.toList.loop
  rw [if_pos (by omega)]
  exact loop_ge s _ _ _ rfl (by simp)
theorem toList_empty (s : ByteArray) : s.toList.isEmpty = decide (s.size = 0) := by
  by_cases h : s.size = 0
  · rw [loop_nil s h]; simp [h]
  · have := loop_pos s (by omega)
    rw [List.isEmpty_eq_false_iff.2 this]
    simp [h]
theorem sb_empty (s : ByteArray) : (sb s).isEmpty = decide (s.size = 0) := by
  have h := sb_len s
  cases hb : sb s with
  | nil => rw [hb] at h; simp at h; simp [← h]
  | cons x r =>
    rw [hb] at h
    simp only [List.length_cons] at h
    rw [decide_eq_false (by omega)]
    rfl

set_option maxRecDepth 1000000 in
set_option maxHeartbeats 1000000 in
theorem digits_spec (w : World) (s : ByteArray) (hs : s.size ≤ 10000000000000) : Calls Try.prog 42 #[.string s] w fun e w' => e = .returned (.bool (digs (sb s))) ∧ w = w' := by
  go_enter Try.func42, Try.ntmps42
  go_wp2
  go_loopw [3] (fun i wr => ∃ k : Nat, k ≤ s.size ∧ i = .int .i64 (k : Int) ∧ Hid (((sb s).take k).all isd = true) ∧ w = wr) (fun i _ => s.size - (intOf i).toNat)
  case atStart => exact ⟨0, Nat.zero_le _, rfl, rfl, rfl⟩
  case round =>
    obtain ⟨k, hk, rfl, HA, rfl⟩ := hrel
    by_cases hlt : k < s.size
    · have hg := sb_get s k hlt
      have hcb := (sb_byt s).at hg
      have HG : Hid ((sb s)[k]? = some (s[k].toNat : Int)) := hg
      clear hg
      by_cases hd : isd (s[k].toNat : Int) = true
      · have hd' : decide ((48 : Int) ≤ (s[k].toNat : Int) ∧ (s[k].toNat : Int) ≤ 57) = true := hd
        have HN : Hid (((sb s).take (k + 1)).all isd = true) := all_take HA.out HG.out hd
        clear hd
        go_wp2_with (go_at_call 27; refine (in_spec _ _ _ _).mono ?_; rintro e w' ⟨rfl, rfl⟩; rw [hd'])
        go_roundw
        case rel => exact ⟨k + 1, by omega, by go_num, HN, by first | rfl | trivial⟩
        case measure => simp [intOf]; omega
      · have hd0 : isd (s[k].toNat : Int) = false := by simpa using hd
        have hd' : decide ((48 : Int) ≤ (s[k].toNat : Int) ∧ (s[k].toNat : Int) ≤ 57) = false := hd0
        have HN : Hid (digs (sb s) = false) := by show _ = _; unfold digs; rw [all_bad HG.out hd0]; rfl
        clear hd hd0
        go_wp2_with (go_at_call 27; refine (in_spec _ _ _ _).mono ?_; rintro e w' ⟨rfl, rfl⟩; rw [hd'])
        go_ret
        exact ⟨by rw [HN.out]; rfl, rfl⟩
    · have HN : Hid (digs (sb s) = !(sb s).isEmpty) := by
        show _ = _
        have h1 := HA.out
        rw [List.take_of_length_le (by rw [sb_len]; omega)] at h1
        unfold digs
        rw [h1]
        rfl
      by_cases h0 : s.size = 0
      · have he : s.toList.isEmpty = true := by rw [toList_empty]; simp [h0]
        have HM : Hid (digs (sb s) = false) := by show _ = _; rw [HN.out, sb_empty]; simp [h0]
        go_wp2
        go_ret
        exact ⟨by rw [HM.out]; rfl, rfl⟩
      · have he : s.toList.isEmpty = false := by rw [toList_empty]; simp [h0]
        have HM : Hid (digs (sb s) = true) := by show _ = _; rw [HN.out, sb_empty]; simp [h0]
        go_wp2
        go_ret
        exact ⟨by rw [HM.out]; rfl, rfl⟩

theorem or4 {b1 b2 b3 : Bool} {p : Prop} [Decidable p] (h : false = (b1 || b2 || b3 || decide p)) : b1 = false ∧ b2 = false ∧ b3 = false ∧ ¬ p := by
  cases b1 <;> cases b2 <;> cases b3 <;> simp_all

theorem numv_snoc (l : List Int) (c : Int) : numv (l ++ [c]) = numv l * 10 + (c - 48) := by simp [numv]
theorem numv_bd (n : Nat) : ∀ l : List Int, l.length ≤ n → l.all isd = true → 0 ≤ numv l ∧ numv l < 10 ^ n := by
  induction n with
  | zero => intro l h _; have : l = [] := List.eq_nil_of_length_eq_zero (by omega); subst this; simp [numv]
  | succ n ih =>
    intro l h ha
    rcases List.eq_nil_or_concat l with rfl | ⟨r, c, rfl⟩
    · have : (0 : Int) < 10 ^ (n + 1) := Int.pow_pos (by decide)
      exact ⟨by simp [numv], by simpa [numv] using this⟩
    · rw [List.concat_eq_append] at *
      rw [List.all_append, Bool.and_eq_true] at ha
      have hr := ih r (by simp at h; omega) ha.1
      have hc : 48 ≤ c ∧ c ≤ 57 := by have := ha.2; simp [isd] at this; exact this
      rw [numv_snoc, Int.pow_succ]
      omega

set_option maxRecDepth 1000000 in
set_option maxHeartbeats 1000000 in
theorem number_spec (w : World) (s : ByteArray) (hs : s.size ≤ 10000000000000) : Calls Try.prog 31 #[.string s] w fun e w' => e = .returned (.int .i64 (number (sb s))) ∧ w = w' := by
  have q : ∀ w, _ := fun w => digits_spec w s hs
  obtain ⟨dg, hdg⟩ : ∃ d, digs (sb s) = d := ⟨_, rfl⟩
  rw [hdg] at q
  by_cases hbad : digs (sb s) = false ∨ 8 < (sb s).length ∨ (1 < (sb s).length ∧ (sb s).head? = some 48)
  · have HN : Hid (number (sb s) = -1) := by show _ = _; unfold number; rw [if_pos hbad]
    rw [hdg, sb_len] at hbad
    by_cases h1 : dg = false
    · subst h1
      go_enter Try.func31, Try.ntmps31
      go_wp2_with (go_at_call 42; refine (q _).mono ?_; rintro e w' ⟨rfl, rfl⟩)
      go_ret
      exact ⟨by rw [HN.out]; rfl, rfl⟩
    · have h1' : dg = true := by simpa using h1
      subst h1'
      by_cases h2 : 8 < s.size
      · have hd2 : decide (8 < (s.size : Int)) = true := by simp; omega
        go_enter Try.func31, Try.ntmps31
        go_wp2_with (go_at_call 42; refine (q _).mono ?_; rintro e w' ⟨rfl, rfl⟩)
        go_ret
        exact ⟨by rw [HN.out]; rfl, rfl⟩
      · have h3 : 1 < s.size ∧ (sb s).head? = some 48 := by rcases hbad with h | h | h; cases h; exact absurd h h2; exact h
        have hd2 : decide (8 < (s.size : Int)) = false := by simp; omega
        have hd3 : decide (1 < (s.size : Int)) = true := by simp; omega
        have h0 : 0 < s.size := by omega
        have hg := sb_get s 0 h0
        have hc : (s[0].toNat : Int) = 48 := by
          rw [← List.head?_eq_getElem?] at hg
          rw [h3.2] at hg
          simpa using hg.symm
        have hd4 : ((s[0].toNat : Int) == 48) = true := by simpa using hc
        clear hg hbad
        go_enter Try.func31, Try.ntmps31
        go_wp2_with (go_at_call 42; refine (q _).mono ?_; rintro e w' ⟨rfl, rfl⟩)
        go_ret
        exact ⟨by rw [HN.out]; rfl, rfl⟩
  · have HN : Hid (number (sb s) = numv (sb s)) := by show _ = _; unfold number; rw [if_neg hbad]
    have hdt : digs (sb s) = true := by
      cases h : digs (sb s) with
      | true => rfl
      | false => exact absurd (.inl h) hbad
    have h2 : ¬ 8 < s.size := fun h => hbad (.inr (.inl (by rw [sb_len]; exact h)))
    have HA : Hid ((sb s).all isd = true) := by have := hdt; unfold digs at this; rw [Bool.and_eq_true] at this; exact this.1
    have h1 : dg = true := by rw [← hdg]; exact hdt
    subst h1
    have hd2 : decide (8 < (s.size : Int)) = false := by simp; omega
    have h0 : 0 < s.size := by
      rcases Nat.eq_zero_or_pos s.size with h | h
      · exfalso
        have h4 := hdt
        unfold digs at h4
        rw [sb_empty, decide_eq_true h] at h4
        simp at h4
      · exact h
    have HB : Hid (∀ k, k ≤ 8 → 0 ≤ numv ((sb s).take k) ∧ numv ((sb s).take k) < 10 ^ 8) := fun k hk => by
      have h := numv_bd 8 ((sb s).take k) (by simp; omega) (List.all_eq_true.2 fun x hx => List.all_eq_true.1 HA.out x (List.mem_of_mem_take hx))
      exact h
    by_cases h3 : 1 < s.size
    · have hd3 : decide (1 < (s.size : Int)) = true := by simp; omega
      have hg := sb_get s 0 h0
      have hc : ¬ (s[0].toNat : Int) = 48 := fun hc => hbad (.inr (.inr ⟨by rw [sb_len]; exact h3, by rw [List.head?_eq_getElem?, hg, hc]⟩))
      have hd4 : ((s[0].toNat : Int) == 48) = false := by simpa using hc
      clear hg hc hbad hdg hdt
      go_enter Try.func31, Try.ntmps31
      go_wp2_with (go_at_call 42; refine (q _).mono ?_; rintro e w' ⟨rfl, rfl⟩)
      go_loopw [3, 4] (fun n i wr => ∃ k : Nat, k ≤ s.size ∧ i = .int .i64 (k : Int) ∧ n = .int .i64 (numv ((sb s).take k)) ∧ w = wr) (fun _ i _ => s.size - (intOf i).toNat)
      case atStart => exact ⟨0, Nat.zero_le _, rfl, rfl, by first | rfl | trivial⟩
      case round =>
        obtain ⟨k, hk, rfl, rfl, rfl⟩ := hrel
        clear q
        by_cases hlt : k < s.size
        · have hg := sb_get s k hlt
          have hcb : 48 ≤ (s[k].toNat : Int) ∧ (s[k].toNat : Int) ≤ 57 := by
            have := List.all_eq_true.1 HA.out _ (List.mem_of_getElem? hg)
            simpa [isd] using this
          have HX : Hid (numv ((sb s).take (k + 1)) = numv ((sb s).take k) * 10 + ((s[k].toNat : Int) - 48)) := by
            show _ = _; rw [take_snoc hg, numv_snoc]
          have hb := HB.out k (by omega)
          obtain ⟨n, hn⟩ : ∃ n, numv ((sb s).take k) = n := ⟨_, rfl⟩
          rw [hn] at HX hb ⊢
          have hb2 : n < 100000000 := hb.2
          have hb1 := hb.1
          clear hg hb hn
          go_wp2
          go_roundw
          case rel => exact ⟨k + 1, by omega, by go_num, by rw [HX.out], by first | rfl | trivial⟩
          case measure => simp [intOf]; omega
        · rw [List.take_of_length_le (by rw [sb_len]; omega)]
          go_wp2
          go_ret
          exact ⟨by rw [HN.out]; rfl, rfl⟩
    · have hd3 : decide (1 < (s.size : Int)) = false := by simp; omega
      clear hbad hdg hdt
      go_enter Try.func31, Try.ntmps31
      go_wp2_with (go_at_call 42; refine (q _).mono ?_; rintro e w' ⟨rfl, rfl⟩)
      go_loopw [3, 4] (fun n i wr => ∃ k : Nat, k ≤ s.size ∧ i = .int .i64 (k : Int) ∧ n = .int .i64 (numv ((sb s).take k)) ∧ w = wr) (fun _ i _ => s.size - (intOf i).toNat)
      case atStart => exact ⟨0, Nat.zero_le _, rfl, rfl, by first | rfl | trivial⟩
      case round =>
        obtain ⟨k, hk, rfl, rfl, rfl⟩ := hrel
        clear q
        by_cases hlt : k < s.size
        · have hg := sb_get s k hlt
          have hcb : 48 ≤ (s[k].toNat : Int) ∧ (s[k].toNat : Int) ≤ 57 := by
            have := List.all_eq_true.1 HA.out _ (List.mem_of_getElem? hg)
            simpa [isd] using this
          have HX : Hid (numv ((sb s).take (k + 1)) = numv ((sb s).take k) * 10 + ((s[k].toNat : Int) - 48)) := by
            show _ = _; rw [take_snoc hg, numv_snoc]
          have hb := HB.out k (by omega)
          obtain ⟨n, hn⟩ : ∃ n, numv ((sb s).take k) = n := ⟨_, rfl⟩
          rw [hn] at HX hb ⊢
          have hb2 : n < 100000000 := hb.2
          have hb1 := hb.1
          clear hg hb hn
          go_wp2
          go_roundw
          case rel => exact ⟨k + 1, by omega, by go_num, by rw [HX.out], by first | rfl | trivial⟩
          case measure => simp [intOf]; omega
        · rw [List.take_of_length_le (by rw [sb_len]; omega)]
          go_wp2
          go_ret
          exact ⟨by rw [HN.out]; rfl, rfl⟩

set_option maxRecDepth 1000000 in
set_option maxHeartbeats 1000000 in
theorem part_spec (w : World) (s : ByteArray) (hs : s.size ≤ 10000000000000) : Calls Try.prog 46 #[.string s] w fun e w' => e = .returned (.bool (part (sb s))) ∧ w = w' := by
  have q : ∀ w, _ := fun w => digits_spec w s hs
  have p : ∀ w, _ := fun w => number_spec w s hs
  obtain ⟨dg, hdg⟩ : ∃ d, digs (sb s) = d := ⟨_, rfl⟩
  obtain ⟨nm, hnm⟩ : ∃ d, number (sb s) = d := ⟨_, rfl⟩
  rw [hdg] at q
  rw [hnm] at p
  have HD : Hid (digs (sb s) = dg ∧ number (sb s) = nm) := ⟨hdg, hnm⟩
  clear hdg hnm
  go_enter Try.func46, Try.ntmps46
  go_wp2
  go_loopw [3] (fun i wr => ∃ k : Nat, k ≤ s.size ∧ i = .int .i64 (k : Int) ∧ Hid (((sb s).take k).all psign = true) ∧ w = wr) (fun i _ => s.size - (intOf i).toNat)
  case atStart => exact ⟨0, Nat.zero_le _, rfl, rfl, rfl⟩
  case round =>
    obtain ⟨k, hk, rfl, HA, rfl⟩ := hrel
    by_cases hlt : k < s.size
    · have hg := sb_get s k hlt
      have hcb := (sb_byt s).at hg
      have HG : Hid ((sb s)[k]? = some (s[k].toNat : Int)) := hg
      clear hg q p
      obtain ⟨b1, e1⟩ : ∃ b, decide ((97 : Int) ≤ (s[k].toNat : Int) ∧ (s[k].toNat : Int) ≤ 122) = b := ⟨_, rfl⟩
      obtain ⟨b2, e2⟩ : ∃ b, decide ((65 : Int) ≤ (s[k].toNat : Int) ∧ (s[k].toNat : Int) ≤ 90) = b := ⟨_, rfl⟩
      obtain ⟨b3, e3⟩ : ∃ b, decide ((48 : Int) ≤ (s[k].toNat : Int) ∧ (s[k].toNat : Int) ≤ 57) = b := ⟨_, rfl⟩
      have HP : Hid (psign (s[k].toNat : Int) = (b1 || b2 || b3 || decide ((s[k].toNat : Int) = 45))) := by show _ = _; unfold psign; rw [e1, e2, e3]
      by_cases hd : psign (s[k].toNat : Int) = true
      · have HN : Hid (((sb s).take (k + 1)).all psign = true) := all_take HA.out HG.out hd
        clear hd
        cases b1
        · cases b2
          · cases b3
            · have hd4 : ((s[k].toNat : Int) != 45) = false := by
                have := HP.out
                have h2 : psign (s[k].toNat : Int) = true := by
                  have := List.all_eq_true.1 HN.out _ (by rw [take_snoc HG.out]; exact List.mem_append_right _ (List.mem_singleton.2 rfl))
                  exact this
                rw [h2] at this
                simp at this
                simp [this]
              go_wp2_with (go_at_call 27; refine (in_spec _ _ _ _).mono ?_; rintro e w' ⟨rfl, rfl⟩; first | rw [e1] | rw [e2] | rw [e3])
              go_roundw
              case rel => exact ⟨k + 1, by omega, by go_num, HN, by first | rfl | trivial⟩
              case measure => simp [intOf]; omega
            · go_wp2_with (go_at_call 27; refine (in_spec _ _ _ _).mono ?_; rintro e w' ⟨rfl, rfl⟩; first | rw [e1] | rw [e2] | rw [e3])
              go_roundw
              case rel => exact ⟨k + 1, by omega, by go_num, HN, by first | rfl | trivial⟩
              case measure => simp [intOf]; omega
          · go_wp2_with (go_at_call 27; refine (in_spec _ _ _ _).mono ?_; rintro e w' ⟨rfl, rfl⟩; first | rw [e1] | rw [e2] | rw [e3])
            go_roundw
            case rel => exact ⟨k + 1, by omega, by go_num, HN, by first | rfl | trivial⟩
            case measure => simp [intOf]; omega
        · go_wp2_with (go_at_call 27; refine (in_spec _ _ _ _).mono ?_; rintro e w' ⟨rfl, rfl⟩; first | rw [e1] | rw [e2] | rw [e3])
          go_roundw
          case rel => exact ⟨k + 1, by omega, by go_num, HN, by first | rfl | trivial⟩
          case measure => simp [intOf]; omega
      · have hd0 : psign (s[k].toNat : Int) = false := by simpa using hd
        have HN : Hid (part (sb s) = false) := by show _ = _; unfold part; rw [all_bad HG.out hd0]; rfl
        have h5 := HP.out
        rw [hd0] at h5
        obtain ⟨rfl, rfl, rfl, h7⟩ := or4 h5
        have hd4 : ((s[k].toNat : Int) != 45) = true := by rw [bne_iff_ne]; exact h7
        clear hd hd0 h5 h7
        go_wp2_with (go_at_call 27; refine (in_spec _ _ _ _).mono ?_; rintro e w' ⟨rfl, rfl⟩; first | rw [e1] | rw [e2] | rw [e3])
        go_ret
        exact ⟨by rw [HN.out]; rfl, rfl⟩
    · have h1 := HA.out
      rw [List.take_of_length_le (by rw [sb_len]; omega)] at h1
      obtain ⟨b1, e1⟩ : ∃ b, decide ((1 : Int) ≤ (s.size : Int) ∧ (s.size : Int) ≤ 8) = b := ⟨_, rfl⟩
      have HP : Hid (part (sb s) = (b1 && (!dg || decide (0 ≤ nm)))) := by
        show _ = _
        unfold part
        have e5 : decide (1 ≤ s.size ∧ s.size ≤ 8) = decide ((1 : Int) ≤ (s.size : Int) ∧ (s.size : Int) ≤ 8) := decide_eq_decide.2 (by omega)
        rw [h1, HD.out.1, HD.out.2, sb_len, e5, e1]
        rfl
      clear h1
      cases b1
      · go_wp2_with (go_at_call 27; refine (in_spec _ _ _ _).mono ?_; rintro e w' ⟨rfl, rfl⟩; rw [e1])
        go_ret
        exact ⟨by rw [HP.out]; rfl, rfl⟩
      · cases dg
        · go_wp2_with (first | (go_at_call 27; refine (in_spec _ _ _ _).mono ?_; rintro e w' ⟨rfl, rfl⟩; rw [e1]) | (go_at_call 42; refine (q _).mono ?_; rintro e w' ⟨rfl, rfl⟩) | (go_at_call 31; refine (p _).mono ?_; rintro e w' ⟨rfl, rfl⟩))
          go_ret
          exact ⟨by rw [HP.out]; rfl, rfl⟩
        · go_wp2_with (first | (go_at_call 27; refine (in_spec _ _ _ _).mono ?_; rintro e w' ⟨rfl, rfl⟩; rw [e1]) | (go_at_call 42; refine (q _).mono ?_; rintro e w' ⟨rfl, rfl⟩) | (go_at_call 31; refine (p _).mono ?_; rintro e w' ⟨rfl, rfl⟩))
          go_ret
          exact ⟨by rw [HP.out]; rfl, rfl⟩

end Go.Proofs.Ytnoopfpgkgjdcal.Ver
