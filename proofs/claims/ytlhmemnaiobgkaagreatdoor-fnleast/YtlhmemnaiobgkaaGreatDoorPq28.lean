/- Texts in one: ModC. -/
import Derived.Test.YtlhmemnaiobgkaaGreatDoorPq9
import Derived.Lib.Strings
import Derived.Lib.Bytealg
/- Chapter 4, the landed code: what the library cuts off a text: what stands behind the first /, a v ahead. -/
namespace Go.Proofs.YtlhmemnaiobgkaaGreatDoor.Mod
open Go.RowKit Go.Proofs.YtlhmemnaiobgkaaGreatDoor.Mem Go.Proofs.YtlhmemnaiobgkaaGreatDoor.Laws Go.Proofs.YtlhmemnaiobgkaaGreatDoor.Bytes Go.Proofs.YtlhmemnaiobgkaaGreatDoor.Sha Go.Proofs.YtlhmemnaiobgkaaGreatDoor.Ver
set_option linter.unusedVariables false
set_option linter.unusedSimpArgs false

/-- the place of the first /, or -1; what stands before it and behind -/
def slash (t : ByteArray) : Int := match (sb t).findIdx? (fun c => c == 47) with
  | some i => (i : Int)
  | none => -1
def cutS (t : ByteArray) : ByteArray × ByteArray := match (sb t).findIdx? (fun c => c == 47) with
  | some i => (t.extract 0 i, t.extract (i + 1) t.size)
  | none => (t, ⟨#[]⟩)
theorem indexByte_slash : ∀ l : List UInt8, Lib.indexByte l 47 = match (l.map fun b => (b.toNat : Int)).findIdx? (fun c => c == 47) with
    | some i => (i : Int)
    | none => -1 := by
  intro l
  induction l with
  | nil => rfl
  | cons b r ih =>
    by_cases h : b = 47
    · subst h; simp [Lib.indexByte, List.findIdx?_cons]
    · have h2 : ((b.toNat : Int) == 47) = false := by
        rw [beq_eq_false_iff_ne]
        intro h3
        apply h
        apply UInt8.toNat_inj.1
        have : (47 : UInt8).toNat = 47 := rfl
        omega
      have h4 : (b == 47) = false := by simpa using h
      rw [List.map_cons, List.findIdx?_cons, h2]
      unfold Lib.indexByte
      simp only [h4, Bool.false_eq_true, if_false, ih]
      cases (r.map fun b => (b.toNat : Int)).findIdx? (fun c => c == 47) with
      | none => simp
      | some i => simp

set_option maxRecDepth 1000000 in
set_option maxHeartbeats 1000000 in
theorem ib_impl (w : World) (s : ByteArray) : Calls Tryz.prog 168 #[.string s, .int .u8 47] w fun e w' => e = .returned (.int .i64 (slash s)) ∧ w' = w := by
  have HD : Hid (Lib.indexByte s.data.toList (47 : Int).toNat.toUInt8 = slash s) := indexByte_slash s.data.toList
  go_enter Tryz.func168, Tryz.ntmps168
  go_wp2
  rw [run_callFunc_extern Tryz.func172 (by kernel_rfl) (by kernel_rfl) (by kernel_rfl) (e := Extern.BytealgIndexByte.indexByte) (by kernel_rfl), Lib.run_indexByteString, HD.out]
  simp only [Result.andThen]
  rw [Oper.upon_value]
  go_wp2
  go_ret
  exact ⟨rfl, rfl⟩

set_option maxRecDepth 1000000 in
set_option maxHeartbeats 2000000 in
theorem ix_impl (w : World) (s : ByteArray) : Calls Tryz.prog 165 #[.string s, .string ⟨#[47]⟩] w fun e w' => e = .returned (.int .i64 (slash s)) ∧ w' = w := by
  have q := ib_impl w s
  by_cases h : s.toList = [47]
  · have h1 : ([47] == s.toList) = true := by simp [h]
    have HD : Hid (slash s = 0) := by
      show _ = _
      unfold slash
      rw [show sb s = [47] by unfold sb; rw [← ByteArray.toList_eq, h]; rfl]
      rfl
    clear h
    go_enter Tryz.func165, Tryz.ntmps165
    go_wp2_with (go_at_call 168; refine q.mono ?_; rintro e w' ⟨rfl, rfl⟩)
    go_ret
    exact ⟨by rw [HD.out]; rfl, rfl⟩
  · have h1 : ([47] == s.toList) = false := by
      rw [beq_eq_false_iff_ne]
      exact fun e => h e.symm
    clear h
    obtain ⟨d, hd⟩ : ∃ d, slash s = d := ⟨_, rfl⟩
    rw [hd] at q ⊢
    clear hd
    go_enter Tryz.func165, Tryz.ntmps165
    go_wp2_with (go_at_call 168; refine q.mono ?_; rintro e w' ⟨rfl, rfl⟩)
    go_ret
    exact ⟨rfl, rfl⟩

theorem slash_some {s : ByteArray} {i : Nat} (h : (sb s).findIdx? (fun c => c == 47) = some i) : i < s.size := by
  have := (List.findIdx?_eq_some_iff_getElem.1 h).1
  rw [sb_len] at this
  exact this

set_option maxRecDepth 1000000 in
set_option maxHeartbeats 1000000 in
theorem cutl_impl (w : World) (s : ByteArray) (hs : s.size ≤ 1000000000000) : Calls Tryz.prog 160 #[.string s, .string ⟨#[47]⟩] w fun e w' => e = .returned (.tuple #[.string (cutS s).1, .string (cutS s).2, .bool (decide (0 ≤ slash s))]) ∧ Below w.heap.size w w' := by
  have q := ix_impl w s
  cases hd : (sb s).findIdx? (fun c => c == 47) with
  | none =>
    have e1 : slash s = -1 := by unfold slash; rw [hd]
    have HC : Hid ((cutS s).1 = s ∧ (cutS s).2 = ⟨#[]⟩) := by show _ ∧ _; unfold cutS; rw [hd]; exact ⟨rfl, rfl⟩
    rw [e1] at q
    have HE : Hid (decide (0 ≤ slash s) = false) := by show _ = _; rw [e1]; rfl
    clear e1 hd
    go_enter Tryz.func160, Tryz.ntmps160
    go_wp2_with (go_at_call 165; refine q.mono ?_; rintro e w' ⟨rfl, rfl⟩)
    go_ret3
    exact ⟨by rw [HC.out.1, HC.out.2, HE.out]; rfl, Below.refl _ _⟩
  | some i =>
    have e1 : slash s = (i : Int) := by unfold slash; rw [hd]
    have hi := slash_some hd
    have HC : Hid ((cutS s).1 = s.extract 0 i ∧ (cutS s).2 = s.extract (i + 1) s.size) := by show _ ∧ _; unfold cutS; rw [hd]; exact ⟨rfl, rfl⟩
    rw [e1] at q
    have HE : Hid (decide (0 ≤ slash s) = true) := by show _ = _; rw [e1]; simp
    clear e1 hd
    have h0 : (0 : Int) ≤ (i : Int) := by omega
    have h1 : i ≤ s.size := by omega
    have h2 : i + 1 ≤ s.size := by omega
    go_enter Tryz.func160, Tryz.ntmps160
    go_wp2_with (go_at_call 165; refine q.mono ?_; rintro e w' ⟨rfl, rfl⟩)
    go_quiet (fail)
    go_wp2
    go_ret3
    exact ⟨by rw [HC.out.1, HC.out.2, HE.out]; rfl, ⟨rfl, rfl, rfl, Nat.le_refl _, fun _ _ => rfl⟩⟩

set_option maxRecDepth 1000000 in
set_option maxHeartbeats 1000000 in
theorem cut_impl (w : World) (s : ByteArray) (hs : s.size ≤ 1000000000000) : Calls Tryz.prog 148 #[.string s, .string ⟨#[47]⟩] w fun e w' => e = .returned (.tuple #[.string (cutS s).1, .string (cutS s).2, .bool (decide (0 ≤ slash s))]) ∧ Below w.heap.size w w' := by
  have q := cutl_impl w s hs
  obtain ⟨x, hx⟩ : ∃ x, (cutS s).1 = x := ⟨_, rfl⟩
  obtain ⟨y, hy⟩ : ∃ x, (cutS s).2 = x := ⟨_, rfl⟩
  obtain ⟨z, hz⟩ : ∃ x, decide (0 ≤ slash s) = x := ⟨_, rfl⟩
  rw [hx, hy, hz] at q ⊢
  clear hx hy hz
  go_enter Tryz.func148, Tryz.ntmps148
  go_wp2_with (go_at_call 160; refine q.mono ?_; rintro e w' ⟨rfl, b1⟩)
  go_ret3
  exact ⟨rfl, b1⟩

/-- does the text begin with a v? -/
def vAt (s : ByteArray) : Bool := decide ((sb s).head? = some 118)
def vOff (s : ByteArray) : ByteArray := if vAt s = true then s.extract 1 s.size else s

theorem vAt_nil {s : ByteArray} (h : s.size = 0) : vAt s = false := by
  have := sb_len s
  cases hb : sb s with
  | nil => unfold vAt; rw [hb]; rfl
  | cons x y => rw [hb] at this; simp at this; omega
theorem vAt_pos {s : ByteArray} (h : 0 < s.size) : ((s.extract 0 1).toList == [118]) = vAt s := by
  have hg := sb_get s 0 h
  rw [ByteArray.toList_eq, ByteArray.data_extract, Array.toList_extract]
  unfold vAt
  have hl : 0 < s.data.toList.length := by simpa using h
  cases hd : s.data.toList with
  | nil => rw [hd] at hl; simp at hl
  | cons x y =>
    have hs : sb s = (x.toNat : Int) :: y.map fun b => (b.toNat : Int) := by unfold sb; rw [hd]; rfl
    rw [hs]
    simp only [List.head?_cons, Option.some.injEq]
    rw [Bool.eq_iff_iff]
    simp
    constructor
    · rintro rfl; rfl
    · intro h3
      apply UInt8.toNat_inj.1
      have : (118 : UInt8).toNat = 118 := rfl
      omega

set_option maxRecDepth 1000000 in
set_option maxHeartbeats 1000000 in
theorem hasp_impl (w : World) (s : ByteArray) (hs : s.size ≤ 1000000000000) : Calls Tryz.prog 167 #[.string s, .string ⟨#[118]⟩] w fun e w' => e = .returned (.bool (vAt s)) ∧ w' = w := by
  by_cases h0 : s.size = 0
  · have HN : Hid (vAt s = false) := vAt_nil h0
    have h1 : ¬ 1 ≤ s.size := by omega
    have h2 : s.size < 1 := by omega
    clear h0
    go_enter Tryz.func167, Tryz.ntmps167
    go_wp2
    go_ret
    exact ⟨by rw [HN.out]; rfl, rfl⟩
  · have h1 : 1 ≤ s.size := by omega
    have hv := vAt_pos (s := s) (by omega)
    obtain ⟨x, hx⟩ : ∃ x, vAt s = x := ⟨_, rfl⟩
    rw [hx] at hv ⊢
    clear hx h0
    go_enter Tryz.func167, Tryz.ntmps167
    go_wp2
    go_ret
    exact ⟨by simp [hv], rfl⟩

set_option maxRecDepth 1000000 in
set_option maxHeartbeats 1000000 in
theorem cutp_impl (w : World) (s : ByteArray) (hs : s.size ≤ 1000000000000) : Calls Tryz.prog 153 #[.string s, .string ⟨#[118]⟩] w fun e w' => e = .returned (.tuple #[.string (vOff s), .bool (vAt s)]) ∧ w' = w := by
  have q := hasp_impl w s hs
  cases hx : vAt s with
  | false =>
    have HV : Hid (vOff s = s) := by show _ = _; unfold vOff; rw [hx]; rfl
    rw [hx] at q
    clear hx
    go_enter Tryz.func153, Tryz.ntmps153
    go_wp2_with (first | (go_at_call 167; refine q.mono ?_; rintro e w' ⟨rfl, rfl⟩) | go_in)
    go_ret2
    exact ⟨by rw [HV.out]; rfl, rfl⟩
  | true =>
    have h1 : 1 ≤ s.size := by
      by_cases h0 : s.size = 0
      · rw [vAt_nil h0] at hx; cases hx
      · omega
    have HV : Hid (vOff s = s.extract 1 s.size) := by show _ = _; unfold vOff; rw [hx]; rfl
    rw [hx] at q
    clear hx
    go_enter Tryz.func153, Tryz.ntmps153
    go_wp2_with (first | (go_at_call 167; refine q.mono ?_; rintro e w' ⟨rfl, rfl⟩) | go_in)
    go_ret2
    exact ⟨by rw [HV.out]; rfl, rfl⟩

end Go.Proofs.YtlhmemnaiobgkaaGreatDoor.Mod
