/- Texts in one: ModC, ModB, ModU. -/
import Derived.Test.YtlhmemnaiobgkabGreatDoorPk8
import Derived.Test.YtlhmemnaiobgkabGreatDoorPk26
import Derived.Lib.Strings
import Derived.Lib.Bytealg
/- Chapter 4, the landed code: what the library cuts off a text: what stands behind the first /, a v ahead. -/
namespace Go.Proofs.YtlhmemnaiobgkabGreatDoor.Mod
open Go.RowKit Go.Proofs.YtlhmemnaiobgkabGreatDoor.Mem Go.Proofs.YtlhmemnaiobgkabGreatDoor.Laws Go.Proofs.YtlhmemnaiobgkabGreatDoor.Bytes Go.Proofs.YtlhmemnaiobgkabGreatDoor.Sha Go.Proofs.YtlhmemnaiobgkabGreatDoor.Ver
set_option linter.unusedVariables false
set_option linter.unusedSimpArgs false

/-- the place of the first /, or -1; what stands before it and behind -/
def slash (t : ByteArray) : Int := match (sb t).findIdx? (fun c => c == 47) with
  | some i => (i : Int)
  | none => -1

def cutS (t : ByteArray) : ByteArray × ByteArray := match (sb t).findIdx? (fun c => c == 47) with
  | some i => (t.extract 0 i, t.extract (i + 1) t.size)
  | none => (t, ⟨#[]⟩)

theorem indexByte_slash : ∀ l : List UInt8, Lib.indexByte l 47 = match (l.map fun b => (b.toNat : Int)).findIdx? (fun c => c == 47) with
    | some i => (i : Int)
    | none => -1 := by
  intro l
  induction l with
  | nil => rfl
  | cons b r ih =>
    by_cases h : b = 47
    · subst h; simp [Lib.indexByte, List.findIdx?_cons]
    · have h2 : ((b.toNat : Int) == 47) = false := by
        rw [beq_eq_false_iff_ne]
        intro h3
        apply h
        apply UInt8.toNat_inj.1
        have : (47 : UInt8).toNat = 47 := rfl
        omega
      have h4 : (b == 47) = false := by simpa using h
      rw [List.map_cons, List.findIdx?_cons, h2]
      unfold Lib.indexByte
      simp only [h4, Bool.false_eq_true, if_false, ih]
      cases (r.map fun b => (b.toNat : Int)).findIdx? (fun c => c == 47) with
      | none => simp
      | some i => simp

set_option maxRecDepth 1000000 in
set_option maxHeartbeats 1000000 in
theorem ib_impl (w : World) (s : ByteArray) : Calls Tryz.prog 139 #[.string s, .int .u8 47] w fun e w' => e = .returned (.int .i64 (slash s)) ∧ w' = w := by
  have HD : Hid (Lib.indexByte s.data.toList (47 : Int).toNat.toUInt8 = slash s) := indexByte_slash s.data.toList
  go_enter Tryz.func139, Tryz.ntmps139
  go_wp2
  rw [run_callFunc_extern Tryz.func143 (by kernel_rfl) (by kernel_rfl) (by kernel_rfl) (e := Extern.BytealgIndexByte.indexByte) (by kernel_rfl), Lib.run_indexByteString, HD.out]
  simp only [Result.andThen]
  rw [Oper.upon_value]
  go_wp2
  go_ret
  exact ⟨rfl, rfl⟩

set_option maxRecDepth 1000000 in
set_option maxHeartbeats 2000000 in
theorem ix_impl (w : World) (s : ByteArray) : Calls Tryz.prog 136 #[.string s, .string ⟨#[47]⟩] w fun e w' => e = .returned (.int .i64 (slash s)) ∧ w' = w := by
  have q := ib_impl w s
  by_cases h : s.toList = [47]
  · have h1 : ([47] == s.toList) = true := by simp [h]
    have HD : Hid (slash s = 0) := by
      show _ = _
      unfold slash
      rw [show sb s = [47] by unfold sb; rw [← ByteArray.toList_eq, h]; rfl]
      rfl
    clear h
    go_enter Tryz.func136, Tryz.ntmps136
    go_wp2_with (go_at_call 139; refine q.mono ?_; rintro e w' ⟨rfl, rfl⟩)
    go_ret
    exact ⟨by rw [HD.out]; rfl, rfl⟩
  · have h1 : ([47] == s.toList) = false := by
      rw [beq_eq_false_iff_ne]
      exact fun e => h e.symm
    clear h
    obtain ⟨d, hd⟩ : ∃ d, slash s = d := ⟨_, rfl⟩
    rw [hd] at q ⊢
    clear hd
    go_enter Tryz.func136, Tryz.ntmps136
    go_wp2_with (go_at_call 139; refine q.mono ?_; rintro e w' ⟨rfl, rfl⟩)
    go_ret
    exact ⟨rfl, rfl⟩

theorem slash_some {s : ByteArray} {i : Nat} (h : (sb s).findIdx? (fun c => c == 47) = some i) : i < s.size := by
  have := (List.findIdx?_eq_some_iff_getElem.1 h).1
  rw [sb_len] at this
  exact this

set_option maxRecDepth 1000000 in
set_option maxHeartbeats 1000000 in
theorem cutl_impl (w : World) (s : ByteArray) (hs : s.size ≤ 1000000000000) : Calls Tryz.prog 131 #[.string s, .string ⟨#[47]⟩] w fun e w' => e = .returned (.tuple #[.string (cutS s).1, .string (cutS s).2, .bool (decide (0 ≤ slash s))]) ∧ Below w.heap.size w w' := by
  have q := ix_impl w s
  cases hd : (sb s).findIdx? (fun c => c == 47) with
  | none =>
    have e1 : slash s = -1 := by unfold slash; rw [hd]
    have HC : Hid ((cutS s).1 = s ∧ (cutS s).2 = ⟨#[]⟩) := by show _ ∧ _; unfold cutS; rw [hd]; exact ⟨rfl, rfl⟩
    rw [e1] at q
    have HE : Hid (decide (0 ≤ slash s) = false) := by show _ = _; rw [e1]; rfl
    clear e1 hd
    go_enter Tryz.func131, Tryz.ntmps131
    go_wp2_with (go_at_call 136; refine q.mono ?_; rintro e w' ⟨rfl, rfl⟩)
    go_ret3
    exact ⟨by rw [HC.out.1, HC.out.2, HE.out]; rfl, Below.refl _ _⟩
  | some i =>
    have e1 : slash s = (i : Int) := by unfold slash; rw [hd]
    have hi := slash_some hd
    have HC : Hid ((cutS s).1 = s.extract 0 i ∧ (cutS s).2 = s.extract (i + 1) s.size) := by show _ ∧ _; unfold cutS; rw [hd]; exact ⟨rfl, rfl⟩
    rw [e1] at q
    have HE : Hid (decide (0 ≤ slash s) = true) := by show _ = _; rw [e1]; simp
    clear e1 hd
    have h0 : (0 : Int) ≤ (i : Int) := by omega
    have h1 : i ≤ s.size := by omega
    have h2 : i + 1 ≤ s.size := by omega
    go_enter Tryz.func131, Tryz.ntmps131
    go_wp2_with (go_at_call 136; refine q.mono ?_; rintro e w' ⟨rfl, rfl⟩)
    go_quiet (fail)
    go_wp2
    go_ret3
    exact ⟨by rw [HC.out.1, HC.out.2, HE.out]; rfl, ⟨rfl, rfl, rfl, Nat.le_refl _, fun _ _ => rfl⟩⟩

set_option maxRecDepth 1000000 in
set_option maxHeartbeats 1000000 in
theorem cut_impl (w : World) (s : ByteArray) (hs : s.size ≤ 1000000000000) : Calls Tryz.prog 121 #[.string s, .string ⟨#[47]⟩] w fun e w' => e = .returned (.tuple #[.string (cutS s).1, .string (cutS s).2, .bool (decide (0 ≤ slash s))]) ∧ Below w.heap.size w w' := by
  have q := cutl_impl w s hs
  obtain ⟨x, hx⟩ : ∃ x, (cutS s).1 = x := ⟨_, rfl⟩
  obtain ⟨y, hy⟩ : ∃ x, (cutS s).2 = x := ⟨_, rfl⟩
  obtain ⟨z, hz⟩ : ∃ x, decide (0 ≤ slash s) = x := ⟨_, rfl⟩
  rw [hx, hy, hz] at q ⊢
  clear hx hy hz
  go_enter Tryz.func121, Tryz.ntmps121
  go_wp2_with (go_at_call 131; refine q.mono ?_; rintro e w' ⟨rfl, b1⟩)
  go_ret3
  exact ⟨rfl, b1⟩

/-- does the text begin with a v? -/
def vAt (s : ByteArray) : Bool := decide ((sb s).head? = some 118)

def vOff (s : ByteArray) : ByteArray := if vAt s = true then s.extract 1 s.size else s

theorem vAt_nil {s : ByteArray} (h : s.size = 0) : vAt s = false := by
  have := sb_len s
  cases hb : sb s with
  | nil => unfold vAt; rw [hb]; rfl
  | cons x y => rw [hb] at this; simp at this; omega

theorem vAt_pos {s : ByteArray} (h : 0 < s.size) : ((s.extract 0 1).toList == [118]) = vAt s := by
  have hg := sb_get s 0 h
  rw [ByteArray.toList_eq, ByteArray.data_extract, Array.toList_extract]
  unfold vAt
  have hl : 0 < s.data.toList.length := by simpa using h
  cases hd : s.data.toList with
  | nil => rw [hd] at hl; simp at hl
  | cons x y =>
    have hs : sb s = (x.toNat : Int) :: y.map fun b => (b.toNat : Int) := by unfold sb; rw [hd]; rfl
    rw [hs]
    simp only [List.head?_cons, Option.some.injEq]
    rw [Bool.eq_iff_iff]
    simp
    constructor
    · rintro rfl; rfl
    · intro h3
      apply UInt8.toNat_inj.1
      have : (118 : UInt8).toNat = 118 := rfl
      omega

set_option maxRecDepth 1000000 in
set_option maxHeartbeats 1000000 in
theorem hasp_impl (w : World) (s : ByteArray) (hs : s.size ≤ 1000000000000) : Calls Tryz.prog 138 #[.string s, .string ⟨#[118]⟩] w fun e w' => e = .returned (.bool (vAt s)) ∧ w' = w := by
  by_cases h0 : s.size = 0
  · have HN : Hid (vAt s = false) := vAt_nil h0
    have h1 : ¬ 1 ≤ s.size := by omega
    have h2 : s.size < 1 := by omega
    clear h0
    go_enter Tryz.func138, Tryz.ntmps138
    go_wp2
    go_ret
    exact ⟨by rw [HN.out]; rfl, rfl⟩
  · have h1 : 1 ≤ s.size := by omega
    have hv := vAt_pos (s := s) (by omega)
    obtain ⟨x, hx⟩ : ∃ x, vAt s = x := ⟨_, rfl⟩
    rw [hx] at hv ⊢
    clear hx h0
    go_enter Tryz.func138, Tryz.ntmps138
    go_wp2
    go_ret
    exact ⟨by simp [hv], rfl⟩

set_option maxRecDepth 1000000 in
set_option maxHeartbeats 1000000 in
theorem cutp_impl (w : World) (s : ByteArray) (hs : s.size ≤ 1000000000000) : Calls Tryz.prog 126 #[.string s, .string ⟨#[118]⟩] w fun e w' => e = .returned (.tuple #[.string (vOff s), .bool (vAt s)]) ∧ w' = w := by
  have q := hasp_impl w s hs
  cases hx : vAt s with
  | false =>
    have HV : Hid (vOff s = s) := by show _ = _; unfold vOff; rw [hx]; rfl
    rw [hx] at q
    clear hx
    go_enter Tryz.func126, Tryz.ntmps126
    go_wp2_with (first | (go_at_call 138; refine q.mono ?_; rintro e w' ⟨rfl, rfl⟩) | go_in)
    go_ret2
    exact ⟨by rw [HV.out]; rfl, rfl⟩
  | true =>
    have h1 : 1 ≤ s.size := by
      by_cases h0 : s.size = 0
      · rw [vAt_nil h0] at hx; cases hx
      · omega
    have HV : Hid (vOff s = s.extract 1 s.size) := by show _ = _; unfold vOff; rw [hx]; rfl
    rw [hx] at q
    clear hx
    go_enter Tryz.func126, Tryz.ntmps126
    go_wp2_with (first | (go_at_call 138; refine q.mono ?_; rintro e w' ⟨rfl, rfl⟩) | go_in)
    go_ret2
    exact ⟨by rw [HV.out]; rfl, rfl⟩

end Go.Proofs.YtlhmemnaiobgkabGreatDoor.Mod

/- Chapter 4, the landed code: a part of a path. -/
namespace Go.Proofs.YtlhmemnaiobgkabGreatDoor.Mod
open Go.RowKit Go.Proofs.YtlhmemnaiobgkabGreatDoor.Mem Go.Proofs.YtlhmemnaiobgkabGreatDoor.Laws Go.Proofs.YtlhmemnaiobgkabGreatDoor.Bytes Go.Proofs.YtlhmemnaiobgkabGreatDoor.Sha Go.Proofs.YtlhmemnaiobgkabGreatDoor.Ver
set_option linter.unusedVariables false
set_option linter.unusedSimpArgs false

set_option maxRecDepth 1000000 in
set_option maxHeartbeats 1000000 in
theorem begins_impl (w : World) (r : Int) : Calls Tryz.prog 122 #[.int .i32 r] w fun e w' => e = .returned (.bool (plain4 r)) ∧ w' = w := by
  have HD : Hid (plain4 r = (decide (97 ≤ r ∧ r ≤ 122) || isd r)) := rfl
  have q := digit_impl w r
  obtain ⟨d, hd⟩ : ∃ d, isd r = d := ⟨_, rfl⟩
  rw [hd] at q HD
  clear hd
  by_cases h1 : 97 ≤ r
  · by_cases h2 : r ≤ 122
    · have HN : Hid (plain4 r = true) := by show _ = _; rw [HD.out]; simp [h1, h2]
      go_enter Tryz.func122, Tryz.ntmps122
      go_wp2
      go_ret
      exact ⟨by rw [HN.out]; rfl, rfl⟩
    · have HN : Hid (plain4 r = d) := by show _ = _; rw [HD.out]; simp [h2]
      go_enter Tryz.func122, Tryz.ntmps122
      go_wp2_with (go_at_call 132; refine q.mono ?_; rintro e w' ⟨rfl, rfl⟩)
      go_ret
      exact ⟨by rw [HN.out]; rfl, rfl⟩
  · have HN : Hid (plain4 r = d) := by show _ = _; rw [HD.out]; simp [h1]
    go_enter Tryz.func122, Tryz.ntmps122
    go_wp2_with (go_at_call 132; refine q.mono ?_; rintro e w' ⟨rfl, rfl⟩)
    go_ret
    exact ⟨by rw [HN.out]; rfl, rfl⟩

set_option maxRecDepth 1000000 in
set_option maxHeartbeats 2000000 in
theorem part_impl4 (w : World) (s : ByteArray) (hs : s.size ≤ 1000000000000) :
    Calls Tryz.prog 106 #[.string s] w fun e w' => e = .returned (.bool (part4 (sb s))) ∧ Below w.heap.size w w' := by
  have HP : Hid (part4 (sb s) = (signs4 0 (sb s) && decide (1 ≤ s.size ∧ s.size ≤ 20))) := by show _ = _; unfold part4; rw [sb_len]
  by_cases h0 : s.size = 0
  · have he : s.toList.isEmpty = true := by rw [toList_empty]; exact decide_eq_true h0
    have HN : Hid (part4 (sb s) = false) := by show _ = _; rw [HP.out]; simp [h0]
    clear h0 HP
    go_enter Tryz.func106, Tryz.ntmps106
    go_wp2
    go_ret
    exact ⟨by rw [HN.out]; rfl, Below.refl _ _⟩
  have he : s.toList.isEmpty = false := by rw [toList_empty]; exact decide_eq_false h0
  by_cases h20 : 20 < s.size
  · have d20 : decide ((20 : Int) < (s.size : Int)) = true := by simp; omega
    have HN : Hid (part4 (sb s) = false) := by show _ = _; rw [HP.out, decide_eq_false (by omega), Bool.and_false]
    clear h0 HP
    go_enter Tryz.func106, Tryz.ntmps106
    go_wp2
    go_ret
    exact ⟨by rw [HN.out]; rfl, Below.refl _ _⟩
  have d20 : decide ((20 : Int) < (s.size : Int)) = false := by simp; omega
  have HQ : Hid (part4 (sb s) = signs4 0 (sb s)) := by show _ = _; rw [HP.out, decide_eq_true (by omega), Bool.and_true]
  clear HP h0
  go_enter Tryz.func106, Tryz.ntmps106
  go_wp2
  clear he d20
  go_loopw [] (fun wr => ∃ k : Nat, k ≤ s.size ∧ Hid (signs4 0 ((sb s).take k) = true) ∧ wr = w.iter s k) (fun wr => s.size - wr.iterPos w.heap.size)
  case atStart => exact ⟨0, Nat.zero_le _, rfl, rfl⟩
  case round =>
    obtain ⟨k, hk, HA, rfl⟩ := hrel
    have hB : Below w.heap.size w (w.iter s k) := (Below.refl _ _).alloc (Nat.le_refl _) _
    by_cases hp : k < s.size
    · have hg := sb_get s k hp
      by_cases ha : (s[k]'hp).toNat < 128
      · have hnx : ∀ ty, (Instr.next (.pointer (some ⟨w.heap.size, 0, none⟩)) true ty).run Tryz.prog (w.iter s k) = _ := fun ty => run_next_ascii w s k ty hp ha
        have hB1 : Below w.heap.size w (w.iter s (k + 1)) := (Below.refl _ _).alloc (Nat.le_refl _) _
        have HS : Hid (signs4 0 ((sb s).take (k + 1)) = (signs4 0 ((sb s).take k) && sign4 k (s[k].toNat : Int))) := signs4_step hg
        have HB : Hid (sign4 k (s[k].toNat : Int) = false → signs4 0 (sb s) = false) := signs4_bad hg
        have q := begins_impl (w.iter s (k + 1)) (s[k].toNat : Int)
        obtain ⟨c, hc⟩ : ∃ c : Int, (s[k].toNat : Int) = c := ⟨_, rfl⟩
        rw [hc] at q HS HB hnx
        obtain ⟨x, hx⟩ : ∃ x, plain4 c = x := ⟨_, rfl⟩
        rw [hx] at q
        have HX : Hid (plain4 c = x) := hx
        clear hx hg hc
        cases x
        · by_cases h0 : k = 0
          · have d0 : ((k : Int) == 0) = true := by simp; omega
            have HN : Hid (part4 (sb s) = false) := by
              show _ = _
              rw [HQ.out, HB.out (by unfold sign4; rw [HX.out]; simp [h0])]
            clear h0
            go_wp2_with (go_at_call 122; refine q.mono ?_; rintro e w' ⟨rfl, rfl⟩)
            go_ret
            exact ⟨by rw [HN.out]; rfl, hB1⟩
          · have d0 : ((k : Int) == 0) = false := by simp; omega
            by_cases h1 : c = 45
            · have d1 : (c != 45) = false := by simpa using h1
              have HN : Hid (signs4 0 ((sb s).take (k + 1)) = true) := by show _ = _; rw [HS.out, HA.out]; unfold sign4; simp [h0, h1]
              clear h0 h1 HX HS HB
              go_wp2_with (go_at_call 122; refine q.mono ?_; rintro e w' ⟨rfl, rfl⟩)
              go_roundw
              case rel => exact ⟨k + 1, by omega, HN, rfl⟩
              case measure => simp; omega
            have d1 : (c != 45) = true := by simpa using h1
            by_cases h2 : c = 46
            · have d2 : (c != 46) = false := by simpa using h2
              have HN : Hid (signs4 0 ((sb s).take (k + 1)) = true) := by show _ = _; rw [HS.out, HA.out]; unfold sign4; simp [h0, h2]
              clear h0 h1 h2 HX HS HB
              go_wp2_with (go_at_call 122; refine q.mono ?_; rintro e w' ⟨rfl, rfl⟩)
              go_roundw
              case rel => exact ⟨k + 1, by omega, HN, rfl⟩
              case measure => simp; omega
            have d2 : (c != 46) = true := by simpa using h2
            by_cases h3 : c = 95
            · have d3 : (c != 95) = false := by simpa using h3
              have HN : Hid (signs4 0 ((sb s).take (k + 1)) = true) := by show _ = _; rw [HS.out, HA.out]; unfold sign4; simp [h0, h3]
              clear h0 h1 h2 h3 HX HS HB
              go_wp2_with (go_at_call 122; refine q.mono ?_; rintro e w' ⟨rfl, rfl⟩)
              go_roundw
              case rel => exact ⟨k + 1, by omega, HN, rfl⟩
              case measure => simp; omega
            have d3 : (c != 95) = true := by simpa using h3
            have HN : Hid (part4 (sb s) = false) := by
              show _ = _
              rw [HQ.out, HB.out (by unfold sign4; rw [HX.out]; simp [h1, h2, h3])]
            clear h0 h1 h2 h3
            go_wp2_with (go_at_call 122; refine q.mono ?_; rintro e w' ⟨rfl, rfl⟩)
            go_ret
            exact ⟨by rw [HN.out]; rfl, hB1⟩
        · have HN : Hid (signs4 0 ((sb s).take (k + 1)) = true) := by show _ = _; rw [HS.out, HA.out]; unfold sign4; rw [HX.out]; rfl
          go_wp2_with (go_at_call 122; refine q.mono ?_; rintro e w' ⟨rfl, rfl⟩)
          go_roundw
          case rel => exact ⟨k + 1, by omega, HN, rfl⟩
          case measure => simp; omega
      · obtain ⟨r1, r2, r3, r4⟩ := rune_high s k hp (by omega)
        have HN : Hid (part4 (sb s) = false) := by
          show _ = _
          rw [HQ.out]
          refine signs4_bad hg ?_
          unfold sign4 plain4
          simp
          omega
        obtain ⟨r, n, hdec⟩ : ∃ r n, Utf8.decode s k = (r, n) := ⟨_, _, rfl⟩
        have hnx0 : ∀ ty, (Instr.next (.pointer (some ⟨w.heap.size, 0, none⟩)) true ty).run Tryz.prog (w.iter s k) = _ := fun ty => run_next_any w s k ty hp
        rw [hdec] at r1 r2 r3 r4 hnx0
        simp only at r1 r2 r3 r4 hnx0
        have hnx : ∀ ty, (Instr.next (.pointer (some ⟨w.heap.size, 0, none⟩)) true ty).run Tryz.prog (w.iter s k) = .ok (.tuple #[.bool true, .int .i64 k, .int .i32 r]) (w.iter s (k + n)) := hnx0
        have hB1 : Below w.heap.size w (w.iter s (k + n)) := (Below.refl _ _).alloc (Nat.le_refl _) _
        have q := begins_impl (w.iter s (k + n)) (r : Int)
        rw [show plain4 (r : Int) = false by unfold plain4; simp; omega] at q
        have d1 : ((r : Int) != 45) = true := by simp; omega
        have d2 : ((r : Int) != 46) = true := by simp; omega
        have d3 : ((r : Int) != 95) = true := by simp; omega
        clear hg hnx0 hdec r4
        by_cases h0 : k = 0
        · have d0 : ((k : Int) == 0) = true := by simp; omega
          clear h0
          go_wp2_with (go_at_call 122; refine q.mono ?_; rintro e w' ⟨rfl, rfl⟩)
          go_ret
          exact ⟨by rw [HN.out]; rfl, hB1⟩
        · have d0 : ((k : Int) == 0) = false := by simp; omega
          clear h0
          go_wp2_with (go_at_call 122; refine q.mono ?_; rintro e w' ⟨rfl, rfl⟩)
          go_ret
          exact ⟨by rw [HN.out]; rfl, hB1⟩
    · have hnx : ∀ ty, (Instr.next (.pointer (some ⟨w.heap.size, 0, none⟩)) true ty).run Tryz.prog (w.iter s k) = _ := fun ty => run_next_end w s k ty hp
      have HN : Hid (part4 (sb s) = true) := by
        show _ = _
        have h1 := HA.out
        rw [List.take_of_length_le (by rw [sb_len]; omega)] at h1
        rw [HQ.out, h1]
      go_wp2
      go_ret
      exact ⟨by rw [HN.out]; rfl, hB⟩

end Go.Proofs.YtlhmemnaiobgkabGreatDoor.Mod

/- Chapter 4, the landed code: a number up to 1000. -/
namespace Go.Proofs.YtlhmemnaiobgkabGreatDoor.Ver
open Go.RowKit Go.Proofs.YtlhmemnaiobgkabGreatDoor.Mem Go.Proofs.YtlhmemnaiobgkabGreatDoor.Laws Go.Proofs.YtlhmemnaiobgkabGreatDoor.Bytes Go.Proofs.YtlhmemnaiobgkabGreatDoor.Sha
set_option linter.unusedVariables false
set_option linter.unusedSimpArgs false

set_option maxRecDepth 1000 in
set_option maxHeartbeats 1000000 in
theorem upto4_impl (w : World) (s : ByteArray) (hs : s.size ≤ 1000000000000) :
    Calls Tryz.prog 127 #[.string s, .int .i64 1000] w fun e w' => e = .returned (.tuple #[.int .i64 (upTo (sb s) 1000).1, .bool (upTo (sb s) 1000).2]) ∧ Below w.heap.size w w' := by
  have q := number_impl w s hs
  obtain ⟨x, hx⟩ : ∃ x, isNum (sb s) = x := ⟨_, rfl⟩
  rw [hx] at q
  have HX : Hid (isNum (sb s) = x) := hx
  clear hx
  cases x
  · have HN : Hid (upTo (sb s) 1000 = (0, false)) := by show _ = _; unfold upTo; rw [HX.out]; simp
    go_enter Tryz.func127, Tryz.ntmps127
    go_wp2_with (go_at_call 129; refine q.mono ?_; rintro e w1 ⟨rfl, b1⟩)
    go_ret2
    exact ⟨by rw [HN.out]; rfl, b1⟩
  · have HA : Hid ((sb s).all isd = true) := by
      show _ = _
      have h := HX.out
      unfold isNum at h
      rw [Bool.and_eq_true] at h
      exact h.1
    go_enter Tryz.func127, Tryz.ntmps127
    go_wp2_with (go_at_call 129; refine q.mono ?_; rintro e w1 ⟨rfl, b1⟩)
    have s1 := b1.size
    have HB : Hid (Below w.heap.size w w1) := b1
    clear q b1
    go_loopw [6] (fun n wr => ∃ (k : Nat) (m : Int), k ≤ s.size ∧ n = .int .i64 m ∧ Hid (m = numv ((sb s).take k)) ∧ 0 ≤ m ∧ m ≤ 1000 ∧ wr = w1.iter s k) (fun _ wr => s.size - wr.iterPos w1.heap.size)
    case atStart => exact ⟨0, 0, Nat.zero_le _, rfl, rfl, by omega, by omega, rfl⟩
    case round =>
      obtain ⟨k, m, hk, rfl, HM, m0, m1, rfl⟩ := hrel
      by_cases hp : k < s.size
      · have hg := sb_get s k hp
        have hd : isd (s[k].toNat : Int) = true := List.all_eq_true.1 HA.out _ (List.mem_of_getElem? hg)
        have hc : 48 ≤ (s[k].toNat : Int) ∧ (s[k].toNat : Int) ≤ 57 := by simpa [isd] using hd
        have hnx : ∀ ty, (Instr.next (.pointer (some ⟨w1.heap.size, 0, none⟩)) true ty).run Tryz.prog (w1.iter s k) = _ := fun ty => run_next_ascii w1 s k ty hp (by omega)
        have HN : Hid (m * 10 + ((s[k].toNat : Int) - 48) = numv ((sb s).take (k + 1))) := by
          show _ = _
          rw [take_snoc hg, numv_snoc, HM.out]
        have HT := numv_take HA.out (k + 1)
        rw [← HN.out] at HT
        have HT' : Hid (m * 10 + ((s[k].toNat : Int) - 48) ≤ numv (sb s)) := HT
        obtain ⟨c, hcc⟩ : ∃ c : Int, c = (s[k].toNat : Int) := ⟨_, rfl⟩
        have hBk : Below w.heap.size w (w1.iter s (k + 1)) := HB.out.alloc s1 _
        rw [← hcc] at hnx hc HN HT'
        clear hg hd HT hcc
        by_cases hgt : 1000 < m * 10 + (c - 48)
        · have HE : Hid (upTo (sb s) 1000 = (0, false)) := by
            show _ = _
            unfold upTo
            rw [if_neg (fun h => by have := h.2; have := HT'.out; omega)]
          go_wp2
          go_ret2
          exact ⟨by rw [HE.out]; rfl, hBk⟩
        · go_wp2
          go_roundw
          case rel => exact ⟨k + 1, m * 10 + (c - 48), by omega, by go_num, HN, by omega, by omega, rfl⟩
          case measure => simp; omega
      · have hnx : ∀ ty, (Instr.next (.pointer (some ⟨w1.heap.size, 0, none⟩)) true ty).run Tryz.prog (w1.iter s k) = _ := fun ty => run_next_end w1 s k ty hp
        have HE : Hid (upTo (sb s) 1000 = (m, true)) := by
          show _ = _
          have h := HM.out
          rw [List.take_of_length_le (by rw [sb_len]; omega)] at h
          unfold upTo
          rw [if_pos ⟨HX.out, by omega⟩, h]
        have hBk : Below w.heap.size w (w1.iter s k) := HB.out.alloc s1 _
        go_wp2
        go_ret2
        exact ⟨by rw [HE.out]; rfl, hBk⟩

end Go.Proofs.YtlhmemnaiobgkabGreatDoor.Ver
