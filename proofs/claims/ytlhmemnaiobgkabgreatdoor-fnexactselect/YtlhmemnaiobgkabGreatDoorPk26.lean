/- Texts in one: Rune, ImpA, ImpB, ImpC, ImpD, ImpF, SeH, LatA, ImpG. -/
import Derived.Test.YtlhmemnaiobgkabGreatDoorPk7
import Derived.Test.YtlhmemnaiobgkabGreatDoorPk25
import Derived.Test.YtlhmemnaiobgkabGreatDoorPk9
import Derived.Test.YtlhmemnaiobgkabGreatDoorPk20
import Derived.Test.YtlhmemnaiobgkabGreatDoorPk17
import Derived.Lib.OthersKept
import Derived.Laws.RangeAny
/- A text read rune by rune: what the width of a rune says of its bytes; a split that passes over them; a world whose iterator moves on. No program is named here. -/
namespace Go.Proofs.YtlhmemnaiobgkabGreatDoor.Ver
open Go.RowKit Go.Proofs.YtlhmemnaiobgkabGreatDoor.Mem Go.Proofs.YtlhmemnaiobgkabGreatDoor.Laws Go.Proofs.YtlhmemnaiobgkabGreatDoor.Bytes Go.Proofs.YtlhmemnaiobgkabGreatDoor.Sha
set_option linter.unusedVariables false
set_option linter.unusedSimpArgs false

theorem rune_high (s : ByteArray) (pos : Nat) (h : pos < s.size) (ha : 128 ≤ (s[pos]'h).toNat) :
    128 ≤ (Utf8.decode s pos).1 ∧ 1 ≤ (Utf8.decode s pos).2 ∧ pos + (Utf8.decode s pos).2 ≤ s.size ∧ ∀ j, j < (Utf8.decode s pos).2 → 128 ≤ (s.get! (pos + j)).toNat := by
  refine ⟨(decode_high s pos h ha).1, (decode_high s pos h ha).2, ?_⟩
  have hn : ¬ (s[pos]'h).toNat < 128 := by omega
  have h0 : 128 ≤ (s.get! (pos + 0)).toNat := by rw [get_at s pos h]; exact ha
  simp only [Utf8.decode, get_at s pos h, hn, if_false]
  repeat' split
  all_goals simp_all
  all_goals first | omega | refine ⟨by omega, fun j hj => ?_⟩
  all_goals (rcases j with _ | _ | _ | _ | j <;> first | omega | (simp at h0 ⊢; omega))

theorem sb_get! (s : ByteArray) (k : Nat) (h : k < s.size) : (sb s)[k]? = some ((s.get! k).toNat : Int) := by
  rw [sb_get s k h]
  have := get_at s k h
  rw [Nat.add_zero] at this
  rw [this]

/-- no byte of a rune of several bytes is below 128 -/
theorem rune_bytes (s : ByteArray) (pos : Nat) (h : pos < s.size) (ha : 128 ≤ (s[pos]'h).toNat) (b : Int) (hb : b < 128) :
    ∀ x ∈ ((sb s).drop pos).take (Utf8.decode s pos).2, x ≠ b := by
  obtain ⟨h1, h2, h3, h4⟩ := rune_high s pos h ha
  intro x hx
  obtain ⟨j, hj⟩ := List.getElem?_of_mem hx
  rw [List.getElem?_take] at hj
  split at hj
  · rename_i hlt
    rw [List.getElem?_drop, sb_get! s (pos + j) (by omega)] at hj
    have := h4 j hlt
    simp at hj
    omega
  · simp at hj

theorem splitL_skip (b : Int) : ∀ (n : Nat) (l cur : List Int), (∀ x ∈ l.take n, x ≠ b) → splitL b cur l = splitL b (cur ++ l.take n) (l.drop n) := by
  intro n
  induction n with
  | zero => intro l cur _; simp
  | succ n ih =>
    intro l cur h
    cases l with
    | nil => simp
    | cons c r =>
      have hc : c ≠ b := h c (by simp)
      rw [splitL, if_neg hc, ih r (cur ++ [c]) (fun x hx => h x (by simp [hx]))]
      simp

theorem cur_more {l : List Int} {f k n : Nat} (hf : f ≤ k) : (l.drop f).take (k - f) ++ ((l.drop k).take n) = (l.drop f).take (k + n - f) := by
  rw [show k + n - f = (k - f) + n by omega, List.take_add, List.drop_drop, show f + (k - f) = k by omega]

theorem iter_below {B : Nat} {a w : World} (h : Below B a w) {k : Nat} (hk : B ≤ k) (s : ByteArray) (pos : Nat) : Below B a (w.iterAt k s pos) := Lib.below_iterAt h hk s pos

theorem Own.iter {w : World} {lo : Nat} {e : TypeId} {v : Value} {cs : List Value} (h : Own w lo w.heap.size e v cs) {k : Nat} (hk : k < lo) (s : ByteArray) (pos : Nat) :
    Own (w.iterAt k s pos) lo (w.iterAt k s pos).heap.size e v cs := by
  rw [Lib.iterAt_size]
  exact h.keep fun j h1 h2 => Lib.iterAt_other w k j s pos (by omega)

theorem iter_stay {w w' : World} {B k : Nat} {o : Obj} (h : w.heap[k]? = some o) (hb : Below B w w') (hk : k < B) : w'.heap[k]? = some o := by
  rw [hb.block k hk]; exact h

end Go.Proofs.YtlhmemnaiobgkabGreatDoor.Ver

/- Chapter 3, the landed code: the parts of a text, numbers, parts of what stands behind a version, versions that are right. -/
namespace Go.Proofs.YtlhmemnaiobgkabGreatDoor.Ver
open Go.RowKit Go.Proofs.YtlhmemnaiobgkabGreatDoor.Mem Go.Proofs.YtlhmemnaiobgkabGreatDoor.Laws Go.Proofs.YtlhmemnaiobgkabGreatDoor.Bytes Go.Proofs.YtlhmemnaiobgkabGreatDoor.Sha
set_option linter.unusedVariables false
set_option linter.unusedSimpArgs false

theorem Own.none (w : World) (lo hi : Nat) (e : TypeId) : Own w lo hi e (.slice none 0 0) [] :=
  ⟨⟨rfl, .inl ⟨rfl, rfl⟩⟩, fun g hg => by simp [Value.ownBlock] at hg⟩

set_option maxRecDepth 1000000 in
set_option maxHeartbeats 1000000 in
theorem parts_impl (w : World) (s : ByteArray) (b : Int) (hb0 : 0 ≤ b) (hb1 : b < 128) (hs : s.size ≤ 1000000000000) :
    Calls Tryz.prog 118 #[.string s, .int .i32 b] w fun e w' => ∃ v', e = .returned v' ∧ Own w' w.heap.size w'.heap.size 9 v' (ss (splitT b s)) ∧ Below w.heap.size w w' := by
  obtain ⟨i0, hi, hz0, hz1, hz2⟩ := info_parts info9v
  go_enter Tryz.func118, Tryz.ntmps118
  go_wp2
  go_loopw [5, 6] (fun o fr wr => ∃ (k f : Nat) (P : List (List Int)), fr = .int .i64 (f : Int) ∧ P.length ≤ k ∧ k ≤ s.size ∧ f ≤ k ∧ Hid (P ++ splitL b (((sb s).drop f).take (k - f)) ((sb s).drop k) = split b (sb s)) ∧ Own wr (w.heap.size + 1) wr.heap.size 9 o (ss (P.map Plain.txt)) ∧ wr.heap[w.heap.size]? = some (.stringIter s k) ∧ Below w.heap.size w wr) (fun _ _ wr => s.size - wr.iterPos w.heap.size)
  case atStart => exact ⟨0, 0, [], rfl, Nat.le_refl _, by omega, by omega, rfl, Own.none _ _ _ _, World.iter_heap w s 0, (Below.refl _ _).alloc (Nat.le_refl _) _⟩
  case round =>
    obtain ⟨k, f, P, rfl, hPl, hk, hf, HI, ho, hit, hb⟩ := hrel
    have hsz := hb.size
    have hlt0 : w.heap.size < wr.heap.size := (Array.getElem?_eq_some_iff.1 hit).1
    have hpos : wr.iterPos w.heap.size = k := by unfold World.iterPos; rw [hit]
    have HP : Hid (wr.iterPos w.heap.size = k) := hpos
    have hl : (ss (P.map Plain.txt)).length = P.length := by rw [ss_len, List.length_map]
    have c2 : (ss (P.map Plain.txt)).length + 1 ≤ maxLen := by rw [hl]; unfold maxLen; omega
    have c3 : ((ss (P.map Plain.txt)).length + 1) * 16 ≤ 140737488355328 := by rw [hl]; omega
    by_cases hp : k < s.size
    · have hE := HI.out
      have HX : Hid (s.extract f k = Plain.txt (((sb s).drop f).take (k - f))) := ext_txt s f k
      have HS : Hid (ss ((P ++ [((sb s).drop f).take (k - f)]).map Plain.txt) = ss (P.map Plain.txt) ++ [.string (s.extract f k)]) := by
        show _ = _
        rw [List.map_append, ss_app, HX.out]
        rfl
      have hg := sb_get s k hp
      by_cases ha : (s[k]'hp).toNat < 128
      · have hnx : ∀ ty, (Instr.next (.pointer (some ⟨w.heap.size, 0, none⟩)) true ty).run Tryz.prog wr = _ := fun ty => Lib.run_next_ascii_at wr w.heap.size s k ty hit hp ha
        have HO : Hid (Own (wr.iterAt w.heap.size s (k + 1)) (w.heap.size + 1) (wr.iterAt w.heap.size s (k + 1)).heap.size 9 u5 (ss (P.map Plain.txt))) := Own.iter ho (Nat.lt_succ_self w.heap.size) s (k + 1)
        have HIt : Hid ((wr.iterAt w.heap.size s (k + 1)).heap[w.heap.size]? = some (.stringIter s (k + 1))) := Lib.iterAt_heap _ _ _ _ _ hit
        have HB : Hid (Below w.heap.size w (wr.iterAt w.heap.size s (k + 1))) := Lib.below_iterAt hb (Nat.le_refl _) s (k + 1)
        have HL : Hid (w.heap.size < (wr.iterAt w.heap.size s (k + 1)).heap.size) := by show _ < _; rw [Lib.iterAt_size]; exact hlt0
        have HM : Hid ((wr.iterAt w.heap.size s (k + 1)).iterPos w.heap.size = k + 1) := by show _ = _; unfold World.iterPos; rw [HIt.out]
        rw [drop_consI hg, splitL] at hE
        have HG : Hid ((sb s)[k]? = some (s[k].toNat : Int)) := hg
        clear hg hit ho hb hl hpos HI
        by_cases hc : (s[k].toNat : Int) = b
        · rw [if_pos hc] at hE
          have HN : Hid ((P ++ [((sb s).drop f).take (k - f)]) ++ splitL b (((sb s).drop (k + 1)).take (k + 1 - (k + 1))) ((sb s).drop (k + 1)) = split b (sb s)) := by
            show _ = _
            rw [← hE, Nat.sub_self, List.take_zero, List.append_assoc]
            rfl
          have hd2 : ((s[k].toNat : Int) == b) = true := by simpa using hc
          clear hE hc
          have c4 : ∀ o, w.heap.size + 1 ≤ ((wr.iterAt w.heap.size s (k + 1)).alloc o).heap.size := fun o => by have := HL.out; simp; omega
          go_wp2_with (at_builtin; go_must (refine wpl_app _ rfl (.tmp 18) (.tmp 23) 72 rfl 9 i0 (.string ⟨#[]⟩) 16 Tryz.underlying72 hi hz0 hz1 hz2 rfl (w.heap.size + 1) _ (ss (P.map Plain.txt)) rfl (HO.out.alloc _) _ rfl [.string (s.extract f k)] (Sl.one _ _ _) (one_strv _) c2 c3 (c4 _) ?_); intro v3 w3 ho3 hb3 hg3)
          rw [← HS.out] at ho3
          have hb4 : Below w.heap.size w w3 := (HB.out.alloc (Nat.le_of_lt HL.out) _).trans (hb3.mono (Nat.le_succ _))
          have hit4 : w3.heap[w.heap.size]? = some (.stringIter s (k + 1)) := by
            rw [hb3.block _ (Nat.lt_succ_self _), heap_alloc_old _ _ HL.out]
            exact HIt.out
          have hps4 : w3.iterPos w.heap.size = k + 1 := by unfold World.iterPos; rw [hit4]
          go_roundw
          case rel => exact ⟨k + 1, k + 1, P ++ [((sb s).drop f).take (k - f)], by go_num, by simp; omega, by omega, by omega, HN, ho3, hit4, hb4⟩
          case measure => rw [hps4, HP.out]; omega
        · rw [if_neg hc, ← cur_snoc hf HG.out] at hE
          have HN : Hid (P ++ splitL b (((sb s).drop f).take (k + 1 - f)) ((sb s).drop (k + 1)) = split b (sb s)) := hE
          have hd2 : ((s[k].toNat : Int) == b) = false := by simpa using hc
          clear hE hc
          go_wp2
          go_roundw
          case rel => exact ⟨k + 1, f, P, by go_num, by omega, by omega, by omega, HN, HO.out, HIt.out, HB.out⟩
          case measure => rw [HM.out, HP.out]; omega
      · obtain ⟨r1, r2, r3, r4⟩ := rune_high s k hp (by omega)
        have r5 := rune_bytes s k hp (by omega) b hb1
        obtain ⟨r, n, hdec⟩ : ∃ r n, Utf8.decode s k = (r, n) := ⟨_, _, rfl⟩
        have hnx0 : ∀ ty, (Instr.next (.pointer (some ⟨w.heap.size, 0, none⟩)) true ty).run Tryz.prog wr = _ := fun ty => Lib.run_next_any_at wr w.heap.size s k ty hit hp
        rw [hdec] at r1 r2 r3 r4 r5 hnx0
        simp only at r1 r2 r3 r4 r5 hnx0
        have hnx : ∀ ty, (Instr.next (.pointer (some ⟨w.heap.size, 0, none⟩)) true ty).run Tryz.prog wr = .ok (.tuple #[.bool true, .int .i64 k, .int .i32 r]) (wr.iterAt w.heap.size s (k + n)) := hnx0
        have HO : Hid (Own (wr.iterAt w.heap.size s (k + n)) (w.heap.size + 1) (wr.iterAt w.heap.size s (k + n)).heap.size 9 u5 (ss (P.map Plain.txt))) := Own.iter ho (Nat.lt_succ_self w.heap.size) s (k + n)
        have HIt : Hid ((wr.iterAt w.heap.size s (k + n)).heap[w.heap.size]? = some (.stringIter s (k + n))) := Lib.iterAt_heap _ _ _ _ _ hit
        have HB : Hid (Below w.heap.size w (wr.iterAt w.heap.size s (k + n))) := Lib.below_iterAt hb (Nat.le_refl _) s (k + n)
        have HM : Hid ((wr.iterAt w.heap.size s (k + n)).iterPos w.heap.size = k + n) := by show _ = _; unfold World.iterPos; rw [HIt.out]
        have HN : Hid (P ++ splitL b (((sb s).drop f).take (k + n - f)) ((sb s).drop (k + n)) = split b (sb s)) := by
          show _ = _
          rw [← hE, splitL_skip b n _ _ r5, cur_more hf, List.drop_drop]
        have hd2 : ((r : Int) == b) = false := by simp; omega
        clear hg hit ho hb hl hpos HI hE hnx0 hdec r4 r5
        go_wp2
        go_roundw
        case rel => exact ⟨k + n, f, P, by go_num, by omega, by omega, by omega, HN, HO.out, HIt.out, HB.out⟩
        case measure => rw [HM.out, HP.out]; omega
    · have hke : k = s.size := by omega
      have HX : Hid (s.extract f s.size = Plain.txt (((sb s).drop f).take (s.size - f))) := ext_txt s f s.size
      have HN : Hid (ss (splitT b s) = ss (P.map Plain.txt) ++ [.string (s.extract f s.size)]) := by
        show _ = _
        unfold splitT
        have hE := HI.out
        rw [hke, List.drop_eq_nil_of_le (show (sb s).length ≤ s.size by rw [sb_len]; omega), splitL] at hE
        rw [← hE, List.map_append, ss_app, HX.out]
        rfl
      have hnx : ∀ ty, (Instr.next (.pointer (some ⟨w.heap.size, 0, none⟩)) true ty).run Tryz.prog wr = _ := fun ty => Lib.run_next_end_at wr w.heap.size s k ty hit hp
      have c4 : ∀ o, w.heap.size + 1 ≤ (wr.alloc o).heap.size := fun o => by simp; omega
      have hfs : f ≤ s.size := by omega
      clear hl hpos HI hit hke
      go_wp2_with (at_builtin; go_must (refine wpl_app _ rfl (.tmp 27) (.tmp 31) 72 rfl 9 i0 (.string ⟨#[]⟩) 16 Tryz.underlying72 hi hz0 hz1 hz2 rfl (w.heap.size + 1) _ (ss (P.map Plain.txt)) rfl (ho.alloc _) _ rfl [.string (s.extract f s.size)] (Sl.one _ _ _) (one_strv _) c2 c3 (c4 _) ?_); intro v3 w3 ho3 hb3 hg3)
      rw [← HN.out] at ho3
      go_ret
      exact ⟨_, rfl, ho3.mono (Nat.le_succ _) (Nat.le_refl _), (hb.alloc hsz _).trans (hb3.mono (Nat.le_succ _))⟩

end Go.Proofs.YtlhmemnaiobgkabGreatDoor.Ver

/- Chapter 3, the landed code: numbers, parts of what stands behind a version, versions that are right. -/
namespace Go.Proofs.YtlhmemnaiobgkabGreatDoor.Ver
open Go.RowKit Go.Proofs.YtlhmemnaiobgkabGreatDoor.Mem Go.Proofs.YtlhmemnaiobgkabGreatDoor.Laws Go.Proofs.YtlhmemnaiobgkabGreatDoor.Bytes Go.Proofs.YtlhmemnaiobgkabGreatDoor.Sha
set_option linter.unusedVariables false
set_option linter.unusedSimpArgs false

set_option maxRecDepth 1000000 in
theorem digit_impl (w : World) (r : Int) : Calls Tryz.prog 132 #[.int .i32 r] w fun e w' => e = .returned (.bool (isd r)) ∧ w' = w := by
  by_cases h1 : 48 ≤ r
  · by_cases h2 : r ≤ 57
    · have HR : Hid (isd r = true) := by show _ = _; simp [isd, h1, h2]
      go_enter Tryz.func132, Tryz.ntmps132
      go_wp2
      go_ret
      exact ⟨by rw [HR.out]; simp [h2], rfl⟩
    · have HR : Hid (isd r = false) := by show _ = _; simp [isd, h2]
      go_enter Tryz.func132, Tryz.ntmps132
      go_wp2
      go_ret
      exact ⟨by rw [HR.out]; simp [h2], rfl⟩
  · have HR : Hid (isd r = false) := by show _ = _; simp [isd, h1]
    go_enter Tryz.func132, Tryz.ntmps132
    go_wp2
    go_ret
    exact ⟨by rw [HR.out]; rfl, rfl⟩

theorem sb_list (s : ByteArray) : sb s = s.toList.map fun b => (b.toNat : Int) := by rw [ByteArray.toList_eq]; rfl

theorem isNum_one {s : ByteArray} (h : s.toList = [48]) : isNum (sb s) = true := by rw [sb_list, h]; decide

theorem isNum_nil {s : ByteArray} (h : s.toList = []) : isNum (sb s) = false := by rw [sb_list, h]; decide

theorem isNum_more {s : ByteArray} (hall : (sb s).all isd = true) (h1 : ¬ s.toList = [48]) (h0 : 0 < s.size) : isNum (sb s) = ((s[0].toNat : Int) != 48) := by
  unfold isNum
  rw [hall]
  have hg := sb_get s 0 h0
  have hne : decide (sb s = [48]) = false := by
    rw [decide_eq_false_iff_not]
    intro he
    apply h1
    have h2 : s.toList.map (fun b => (b.toNat : Int)) = [48] := by rw [← sb_list]; exact he
    cases ht : s.toList with
    | nil => rw [ht] at h2; simp at h2
    | cons x y =>
      rw [ht] at h2
      simp at h2
      obtain ⟨h3, rfl⟩ := h2
      have h4 : x.toNat = (48 : UInt8).toNat := by have : (48 : UInt8).toNat = 48 := rfl; omega
      rw [UInt8.toNat_inj.1 h4]
  rw [hne]
  cases hb : sb s with
  | nil => rw [hb] at hg; simp at hg
  | cons x y =>
    rw [hb] at hg
    simp at hg
    simp [hg]
    rw [Bool.eq_iff_iff]
    simp

set_option maxRecDepth 1000000 in
set_option maxHeartbeats 1000000 in
theorem number_impl (w : World) (s : ByteArray) (hs : s.size ≤ 1000000000000) :
    Calls Tryz.prog 129 #[.string s] w fun e w' => e = .returned (.bool (isNum (sb s))) ∧ Below w.heap.size w w' := by
  go_enter Tryz.func129, Tryz.ntmps129
  go_wp2
  go_loopw [] (fun wr => ∃ k : Nat, k ≤ s.size ∧ Hid (((sb s).take k).all isd = true) ∧ wr = w.iter s k) (fun wr => s.size - wr.iterPos w.heap.size)
  case atStart => exact ⟨0, Nat.zero_le _, rfl, rfl⟩
  case round =>
    obtain ⟨k, hk, HA, rfl⟩ := hrel
    have hB : Below w.heap.size w (w.iter s k) := (Below.refl _ _).alloc (Nat.le_refl _) _
    by_cases hp : k < s.size
    · have hg := sb_get s k hp
      by_cases ha : (s[k]'hp).toNat < 128
      · have hnx : ∀ ty, (Instr.next (.pointer (some ⟨w.heap.size, 0, none⟩)) true ty).run Tryz.prog (w.iter s k) = _ := fun ty => run_next_ascii w s k ty hp ha
        have hB1 : Below w.heap.size w (w.iter s (k + 1)) := (Below.refl _ _).alloc (Nat.le_refl _) _
        obtain ⟨x, hx⟩ : ∃ x, isd (s[k].toNat : Int) = x := ⟨_, rfl⟩
        have q := digit_impl (w.iter s (k + 1)) (s[k].toNat : Int)
        rw [hx] at q
        cases x
        · have HN : Hid (isNum (sb s) = false) := by
            show _ = _
            unfold isNum
            rw [all_bad hg hx]
            rfl
          clear hx hg
          go_wp2_with (go_at_call 132; refine q.mono ?_; rintro e w' ⟨rfl, rfl⟩)
          go_ret
          exact ⟨by rw [HN.out]; rfl, hB1⟩
        · have HN : Hid (((sb s).take (k + 1)).all isd = true) := all_take HA.out hg hx
          clear hx hg
          go_wp2_with (go_at_call 132; refine q.mono ?_; rintro e w' ⟨rfl, rfl⟩)
          go_roundw
          case rel => exact ⟨k + 1, by omega, HN, rfl⟩
          case measure => simp; omega
      · obtain ⟨r1, r2, r3, r4⟩ := rune_high s k hp (by omega)
        have hx : isd (s[k].toNat : Int) = false := by simp [isd]; omega
        have HN : Hid (isNum (sb s) = false) := by
          show _ = _
          unfold isNum
          rw [all_bad hg hx]
          rfl
        obtain ⟨r, n, hdec⟩ : ∃ r n, Utf8.decode s k = (r, n) := ⟨_, _, rfl⟩
        have hnx0 : ∀ ty, (Instr.next (.pointer (some ⟨w.heap.size, 0, none⟩)) true ty).run Tryz.prog (w.iter s k) = _ := fun ty => run_next_any w s k ty hp
        rw [hdec] at r1 r2 r3 r4 hnx0
        simp only at r1 r2 r3 r4 hnx0
        have hnx : ∀ ty, (Instr.next (.pointer (some ⟨w.heap.size, 0, none⟩)) true ty).run Tryz.prog (w.iter s k) = .ok (.tuple #[.bool true, .int .i64 k, .int .i32 r]) (w.iter s (k + n)) := hnx0
        have hB1 : Below w.heap.size w (w.iter s (k + n)) := (Below.refl _ _).alloc (Nat.le_refl _) _
        have q := digit_impl (w.iter s (k + n)) (r : Int)
        rw [show isd (r : Int) = false by simp [isd]; omega] at q
        clear hx hg hnx0 hdec r4
        go_wp2_with (go_at_call 132; refine q.mono ?_; rintro e w' ⟨rfl, rfl⟩)
        go_ret
        exact ⟨by rw [HN.out]; rfl, hB1⟩
    · have hnx : ∀ ty, (Instr.next (.pointer (some ⟨w.heap.size, 0, none⟩)) true ty).run Tryz.prog (w.iter s k) = _ := fun ty => run_next_end w s k ty hp
      have HT : Hid ((sb s).all isd = true) := by
        have h := HA.out
        rw [List.take_of_length_le (by rw [sb_len]; omega)] at h
        exact h
      clear HA
      by_cases h1 : s.toList = [48]
      · have HN : Hid (isNum (sb s) = true) := isNum_one h1
        go_wp2
        go_ret
        exact ⟨by rw [HN.out]; rfl, hB⟩
      · by_cases h2 : s.toList = []
        · have HN : Hid (isNum (sb s) = false) := isNum_nil h2
          go_wp2
          go_ret
          exact ⟨by rw [HN.out]; rfl, hB⟩
        · have h0 : 0 < s.size := by
            have h3 := toList_empty s
            by_cases h4 : s.size = 0
            · rw [decide_eq_true h4] at h3
              exact absurd (List.isEmpty_iff.1 h3) h2
            · omega
          have HN : Hid (isNum (sb s) = ((s[0].toNat : Int) != 48)) := isNum_more HT.out h1 h0
          obtain ⟨x, hx⟩ : ∃ x, ((s[0].toNat : Int) != 48) = x := ⟨_, rfl⟩
          have HX : Hid (((s[0].toNat : Int) != 48) = x) := hx
          go_wp2
          go_ret
          have b1 : (s.toList == [48]) = false := by simpa using h1
          have b2 : s.toList.isEmpty = false := by simpa using h2
          exact ⟨by rw [HN.out, HX.out]; simp [b1, b2], hB⟩

end Go.Proofs.YtlhmemnaiobgkabGreatDoor.Ver

/- Chapter 3, the landed code: parts of what stands behind a version, versions that are right. -/
namespace Go.Proofs.YtlhmemnaiobgkabGreatDoor.Ver
open Go.RowKit Go.Proofs.YtlhmemnaiobgkabGreatDoor.Mem Go.Proofs.YtlhmemnaiobgkabGreatDoor.Laws Go.Proofs.YtlhmemnaiobgkabGreatDoor.Bytes Go.Proofs.YtlhmemnaiobgkabGreatDoor.Sha
set_option linter.unusedVariables false
set_option linter.unusedSimpArgs false

/-- a letter -/
def isl (c : Int) : Bool := decide (97 ≤ c ∧ c ≤ 122) || decide (65 ≤ c ∧ c ≤ 90)

theorem psign_of (c : Int) : psign c = (isd c || isl c || decide (c = 45)) := by
  unfold psign isd isl
  generalize decide (97 ≤ c ∧ c ≤ 122) = x
  generalize decide (65 ≤ c ∧ c ≤ 90) = y
  generalize decide (48 ≤ c ∧ c ≤ 57) = z
  generalize decide (c = 45) = u
  cases x <;> cases y <;> cases z <;> rfl

set_option maxRecDepth 1000000 in
theorem letter_impl (w : World) (r : Int) : Calls Tryz.prog 133 #[.int .i32 r] w fun e w' => e = .returned (.bool (isl r)) ∧ w' = w := by
  by_cases h1 : 97 ≤ r
  · by_cases h2 : r ≤ 122
    · have HR : Hid (isl r = true) := by show _ = _; simp [isl, h1, h2]
      go_enter Tryz.func133, Tryz.ntmps133
      go_wp2
      go_ret
      exact ⟨by rw [HR.out]; rfl, rfl⟩
    · have HR : Hid (isl r = false) := by show _ = _; simp [isl]; omega
      have h3 : 65 ≤ r := by omega
      have h4 : ¬ r ≤ 90 := by omega
      go_enter Tryz.func133, Tryz.ntmps133
      go_wp2
      go_ret
      exact ⟨by rw [HR.out]; rfl, rfl⟩
  · by_cases h3 : 65 ≤ r
    · by_cases h4 : r ≤ 90
      · have HR : Hid (isl r = true) := by show _ = _; simp [isl, h3, h4]
        go_enter Tryz.func133, Tryz.ntmps133
        go_wp2
        go_ret
        exact ⟨by rw [HR.out]; rfl, rfl⟩
      · have HR : Hid (isl r = false) := by show _ = _; simp [isl]; omega
        go_enter Tryz.func133, Tryz.ntmps133
        go_wp2
        go_ret
        exact ⟨by rw [HR.out]; rfl, rfl⟩
    · have HR : Hid (isl r = false) := by show _ = _; simp [isl]; omega
      go_enter Tryz.func133, Tryz.ntmps133
      go_wp2
      go_ret
      exact ⟨by rw [HR.out]; rfl, rfl⟩

theorem allt {p : Int → Bool} {l : List Int} {k : Nat} {c : Int} (hc : l[k]? = some c) : (l.take (k + 1)).all p = ((l.take k).all p && p c) := by
  rw [take_snoc hc, List.all_append]
  simp

set_option maxRecDepth 1000000 in
set_option maxHeartbeats 2000000 in
theorem part_impl (w : World) (s : ByteArray) (hs : s.size ≤ 1000000000000) :
    Calls Tryz.prog 123 #[.string s] w fun e w' => e = .returned (.bool (part (sb s))) ∧ Below w.heap.size w w' := by
  have HPI : Hid (part (sb s) = (decide (1 ≤ s.size ∧ s.size ≤ 8) && (sb s).all psign && (!((sb s).all isd) || isNum (sb s)))) := by
    show _ = _
    rw [part_imp, sb_len]
  by_cases hz : s.size = 0
  · have b2 : s.toList.isEmpty = true := by rw [toList_empty]; simp [hz]
    have HN : Hid (part (sb s) = false) := by show _ = _; rw [HPI.out]; simp [hz]
    clear hz
    go_enter Tryz.func123, Tryz.ntmps123
    go_wp2
    go_ret
    exact ⟨by rw [HN.out]; rfl, Below.refl _ _⟩
  have b2 : s.toList.isEmpty = false := by rw [toList_empty]; simp [hz]
  by_cases h8 : 8 < s.size
  · have HN : Hid (part (sb s) = false) := by show _ = _; rw [HPI.out]; simp [h8]; omega
    go_enter Tryz.func123, Tryz.ntmps123
    go_wp2
    go_ret
    exact ⟨by rw [HN.out]; rfl, Below.refl _ _⟩
  have hz1 : 1 ≤ s.size := by omega
  have h81 : s.size ≤ 8 := by omega
  clear hz
  go_enter Tryz.func123, Tryz.ntmps123
  go_wp2
  go_loopw [3] (fun d wr => ∃ k : Nat, k ≤ s.size ∧ d = .bool (((sb s).take k).all isd) ∧ Hid (((sb s).take k).all psign = true) ∧ wr = w.iter s k) (fun _ wr => s.size - wr.iterPos w.heap.size)
  case atStart => exact ⟨0, Nat.zero_le _, rfl, rfl, rfl⟩
  case round =>
    obtain ⟨k, hk, rfl, HA, rfl⟩ := hrel
    have hB : Below w.heap.size w (w.iter s k) := (Below.refl _ _).alloc (Nat.le_refl _) _
    obtain ⟨dv, hdv⟩ : ∃ x, ((sb s).take k).all isd = x := ⟨_, rfl⟩
    have HD : Hid (((sb s).take k).all isd = dv) := hdv
    rw [hdv]
    clear hdv
    by_cases hp : k < s.size
    · have hg := sb_get s k hp
      by_cases ha : (s[k]'hp).toNat < 128
      · have hnx : ∀ ty, (Instr.next (.pointer (some ⟨w.heap.size, 0, none⟩)) true ty).run Tryz.prog (w.iter s k) = _ := fun ty => run_next_ascii w s k ty hp ha
        have hB1 : Below w.heap.size w (w.iter s (k + 1)) := (Below.refl _ _).alloc (Nat.le_refl _) _
        obtain ⟨x1, hx1⟩ : ∃ x, isd (s[k].toNat : Int) = x := ⟨_, rfl⟩
        obtain ⟨x2, hx2⟩ : ∃ x, isl (s[k].toNat : Int) = x := ⟨_, rfl⟩
        have q1 := digit_impl (w.iter s (k + 1)) (s[k].toNat : Int)
        have q2 := letter_impl (w.iter s (k + 1)) (s[k].toNat : Int)
        rw [hx1] at q1
        rw [hx2] at q2
        have HT : Hid (((sb s).take (k + 1)).all isd = (dv && x1)) := by show _ = _; rw [allt hg, HD.out, hx1]
        have HS : Hid (((sb s).take (k + 1)).all psign = (x1 || x2 || decide ((s[k].toNat : Int) = 45))) := by show _ = _; rw [allt hg, HA.out, psign_of, hx1, hx2, Bool.true_and]
        have HW : Hid ((x1 || x2 || decide ((s[k].toNat : Int) = 45)) = false → part (sb s) = false) := by
          intro hf
          rw [HPI.out]
          have : (sb s).all psign = false := all_bad hg (by rw [psign_of, hx1, hx2]; exact hf)
          rw [this]
          simp
        clear hg hx1 hx2
        cases dv
        · cases x1
          · cases x2
            · by_cases h45 : (s[k].toNat : Int) = 45
              · have d45 : ((s[k].toNat : Int) != 45) = false := by simpa using h45
                have HC : Hid ((s[k].toNat : Int) = 45) := h45
                clear h45
                go_wp2_with (first | (go_at_call 132; refine q1.mono ?_; rintro e w' ⟨rfl, rfl⟩) | (go_at_call 133; refine q2.mono ?_; rintro e w' ⟨rfl, rfl⟩))
                go_roundw
                case rel => exact ⟨k + 1, by omega, by rw [HT.out]; rfl, by show _ = _; rw [HS.out]; simp [HC.out], rfl⟩
                case measure => simp; omega
              · have d45 : ((s[k].toNat : Int) != 45) = true := by simpa using h45
                have HN : Hid (part (sb s) = false) := HW.out (by simp [h45])
                clear h45
                go_wp2_with (first | (go_at_call 132; refine q1.mono ?_; rintro e w' ⟨rfl, rfl⟩) | (go_at_call 133; refine q2.mono ?_; rintro e w' ⟨rfl, rfl⟩))
                go_ret
                exact ⟨by rw [HN.out]; rfl, hB1⟩
            · have HC : Hid True := trivial
              go_wp2_with (first | (go_at_call 132; refine q1.mono ?_; rintro e w' ⟨rfl, rfl⟩) | (go_at_call 133; refine q2.mono ?_; rintro e w' ⟨rfl, rfl⟩))
              go_roundw
              case rel => exact ⟨k + 1, by omega, by rw [HT.out]; rfl, by show _ = _; rw [HS.out]; simp [HC.out], rfl⟩
              case measure => simp; omega
          · have HC : Hid True := trivial
            go_wp2_with (first | (go_at_call 132; refine q1.mono ?_; rintro e w' ⟨rfl, rfl⟩) | (go_at_call 133; refine q2.mono ?_; rintro e w' ⟨rfl, rfl⟩))
            go_roundw
            case rel => exact ⟨k + 1, by omega, by rw [HT.out]; rfl, by show _ = _; rw [HS.out]; simp [HC.out], rfl⟩
            case measure => simp; omega
        · cases x1
          · cases x2
            · by_cases h45 : (s[k].toNat : Int) = 45
              · have d45 : ((s[k].toNat : Int) != 45) = false := by simpa using h45
                have HC : Hid ((s[k].toNat : Int) = 45) := h45
                clear h45
                go_wp2_with (first | (go_at_call 132; refine q1.mono ?_; rintro e w' ⟨rfl, rfl⟩) | (go_at_call 133; refine q2.mono ?_; rintro e w' ⟨rfl, rfl⟩))
                go_roundw
                case rel => exact ⟨k + 1, by omega, by rw [HT.out]; rfl, by show _ = _; rw [HS.out]; simp [HC.out], rfl⟩
                case measure => simp; omega
              · have d45 : ((s[k].toNat : Int) != 45) = true := by simpa using h45
                have HN : Hid (part (sb s) = false) := HW.out (by simp [h45])
                clear h45
                go_wp2_with (first | (go_at_call 132; refine q1.mono ?_; rintro e w' ⟨rfl, rfl⟩) | (go_at_call 133; refine q2.mono ?_; rintro e w' ⟨rfl, rfl⟩))
                go_ret
                exact ⟨by rw [HN.out]; rfl, hB1⟩
            · have HC : Hid True := trivial
              go_wp2_with (first | (go_at_call 132; refine q1.mono ?_; rintro e w' ⟨rfl, rfl⟩) | (go_at_call 133; refine q2.mono ?_; rintro e w' ⟨rfl, rfl⟩))
              go_roundw
              case rel => exact ⟨k + 1, by omega, by rw [HT.out]; rfl, by show _ = _; rw [HS.out]; simp [HC.out], rfl⟩
              case measure => simp; omega
          · have HC : Hid True := trivial
            go_wp2_with (first | (go_at_call 132; refine q1.mono ?_; rintro e w' ⟨rfl, rfl⟩) | (go_at_call 133; refine q2.mono ?_; rintro e w' ⟨rfl, rfl⟩))
            go_roundw
            case rel => exact ⟨k + 1, by omega, by rw [HT.out]; rfl, by show _ = _; rw [HS.out]; simp [HC.out], rfl⟩
            case measure => simp; omega
      · obtain ⟨r1, r2, r3, r4⟩ := rune_high s k hp (by omega)
        have HN : Hid (part (sb s) = false) := by
          show _ = _
          rw [HPI.out]
          have : (sb s).all psign = false := all_bad hg (by rw [psign_of]; simp [isd, isl]; omega)
          rw [this]
          simp
        obtain ⟨r, n, hdec⟩ : ∃ r n, Utf8.decode s k = (r, n) := ⟨_, _, rfl⟩
        have hnx0 : ∀ ty, (Instr.next (.pointer (some ⟨w.heap.size, 0, none⟩)) true ty).run Tryz.prog (w.iter s k) = _ := fun ty => run_next_any w s k ty hp
        rw [hdec] at r1 r2 r3 r4 hnx0
        simp only at r1 r2 r3 r4 hnx0
        have hnx : ∀ ty, (Instr.next (.pointer (some ⟨w.heap.size, 0, none⟩)) true ty).run Tryz.prog (w.iter s k) = .ok (.tuple #[.bool true, .int .i64 k, .int .i32 r]) (w.iter s (k + n)) := hnx0
        have hB1 : Below w.heap.size w (w.iter s (k + n)) := (Below.refl _ _).alloc (Nat.le_refl _) _
        have q1 := digit_impl (w.iter s (k + n)) (r : Int)
        rw [show isd (r : Int) = false by simp [isd]; omega] at q1
        have q2 := letter_impl (w.iter s (k + n)) (r : Int)
        rw [show isl (r : Int) = false by simp [isl]; omega] at q2
        have d45 : ((r : Int) != 45) = true := by simp; omega
        clear hg hnx0 hdec r4
        go_wp2_with (first | (go_at_call 132; refine q1.mono ?_; rintro e w' ⟨rfl, rfl⟩) | (go_at_call 133; refine q2.mono ?_; rintro e w' ⟨rfl, rfl⟩))
        go_ret
        exact ⟨by rw [HN.out]; rfl, hB1⟩
    · have hnx : ∀ ty, (Instr.next (.pointer (some ⟨w.heap.size, 0, none⟩)) true ty).run Tryz.prog (w.iter s k) = _ := fun ty => run_next_end w s k ty hp
      have HN : Hid (part (sb s) = (!dv || isNum (sb s))) := by
        show _ = _
        have h1 := HA.out
        have h2 := HD.out
        rw [List.take_of_length_le (by rw [sb_len]; omega)] at h1 h2
        rw [HPI.out, h1, h2]
        simp [hz1, h81]
      clear HA HD
      have q := number_impl (w.iter s k) s hs
      cases dv
      · go_wp2_with (go_at_call 129; refine q.mono ?_; rintro e w' ⟨rfl, bq⟩)
        go_ret
        exact ⟨by rw [HN.out]; rfl, hB⟩
      · go_wp2_with (go_at_call 129; refine q.mono ?_; rintro e w' ⟨rfl, bq⟩)
        go_ret
        exact ⟨by rw [HN.out]; rfl, hB.trans (bq.mono hB.size)⟩

end Go.Proofs.YtlhmemnaiobgkabGreatDoor.Ver

/- Chapter 3, the landed code: versions that are right. -/
namespace Go.Proofs.YtlhmemnaiobgkabGreatDoor.Ver
open Go.RowKit Go.Proofs.YtlhmemnaiobgkabGreatDoor.Mem Go.Proofs.YtlhmemnaiobgkabGreatDoor.Laws Go.Proofs.YtlhmemnaiobgkabGreatDoor.Bytes Go.Proofs.YtlhmemnaiobgkabGreatDoor.Sha
set_option linter.unusedVariables false
set_option linter.unusedSimpArgs false

set_option maxRecDepth 1000000 in
set_option maxHeartbeats 1000000 in
theorem pre_impl (w : World) (s : ByteArray) (hs : s.size ≤ 1000000000000) :
    Calls Tryz.prog 108 #[.string s] w fun e w' => e = .returned (.bool (pre (sb s))) ∧ Below w.heap.size w w' := by
  go_enter Tryz.func108, Tryz.ntmps108
  go_wp2_with fail
  refine (parts_impl w s 46 (by omega) (by omega) hs).mono ?_
  rintro e w1 ⟨v1, rfl, o1, b1⟩
  obtain ⟨T, hT⟩ : ∃ T, T = splitT 46 s := ⟨_, rfl⟩
  have hTs := splitT_size 46 s
  have hTl := splitT_len 46 s
  have hTm := splitT_sb 46 s
  rw [← hT] at o1 hTs hTl hTm
  have hT0 : 0 < T.length := by
    have := splitL_pos 46 (sb s) []
    have h2 : T.length = (split 46 (sb s)).length := by rw [← hTm, List.length_map]
    rw [h2]; exact this
  have HP : Hid (pre (sb s) = (T.all (fun t => part (sb t)) && decide (T.length ≤ 4))) := by
    show _ = _
    unfold pre
    rw [← hTm, List.all_map, List.length_map]
    rfl
  obtain ⟨g, cap, rfl, hg1, hg2, hcap, hc⟩ := ownForm o1 (by rw [ss_len]; exact hT0)
  rw [ss_len] at hcap hc
  rw [ss_len]
  have HC : Hid (∀ j, j < T.length → w1.cell? ⟨g, j, none⟩ = (ss T)[j]?) := hc
  have HTs : Hid (∀ t ∈ T, t.size ≤ s.size) := hTs
  clear hT hTs hTm hc o1
  by_cases h4 : 4 < T.length
  · have HN : Hid (pre (sb s) = false) := by
      show _ = _
      rw [HP.out, decide_eq_false (by omega)]
      simp
    go_wp2
    go_ret
    exact ⟨by rw [HN.out]; rfl, b1⟩
  have h41 : T.length ≤ 4 := by omega
  go_wp2
  go_loopw [13] (fun i wr => ∃ k : Nat, k ≤ T.length ∧ i = .int .i64 (k : Int) ∧ Hid ((T.take k).all (fun t => part (sb t)) = true) ∧ Below w1.heap.size w1 wr) (fun i _ => T.length - (intOf i).toNat)
  case atStart => exact ⟨0, Nat.zero_le _, rfl, rfl, Below.refl _ _⟩
  case round =>
    obtain ⟨k, hk, rfl, HA, hb⟩ := hrel
    have s1 := hb.size
    have s2 := b1.size
    by_cases hlt : k < T.length
    · obtain ⟨t, ht⟩ : ∃ t, T[k]? = some t := ⟨T[k], by simp [hlt]⟩
      have hcell : wr.cell? ⟨g, k, none⟩ = some (.string t) := by rw [hb.cell (p := ⟨g, k, none⟩) hg2, HC.out k hlt, ss_get, ht]; rfl
      have htm := HTs.out t (List.mem_of_getElem? ht)
      have HT : Hid (T[k]? = some t) := ht
      have q := part_impl wr t (by omega)
      obtain ⟨pb, hpb⟩ : ∃ b, part (sb t) = b := ⟨_, rfl⟩
      have HB : Hid (part (sb t) = pb) := hpb
      rw [hpb] at q
      clear ht hpb
      cases pb
      · have HN : Hid (pre (sb s) = false) := by
          show _ = _
          rw [HP.out]
          have : T.all (fun t => part (sb t)) = false := by
            rw [List.all_eq_false]
            exact ⟨t, List.mem_of_getElem? HT.out, by simp [HB.out]⟩
          rw [this]; rfl
        go_wp2_with (go_at_call 123; refine q.mono ?_; rintro e w' ⟨rfl, bq⟩)
        go_ret
        exact ⟨by rw [HN.out]; rfl, (b1.trans (hb.mono s2)).trans (bq.mono (Nat.le_trans s2 s1))⟩
      · have HN : Hid ((T.take (k + 1)).all (fun t => part (sb t)) = true) := by
          show _ = _
          rw [List.take_succ_eq_append_getElem hlt, List.all_append, HA.out]
          have : T[k] = t := by have := HT.out; rw [List.getElem?_eq_getElem hlt] at this; simpa using this
          simp [this, HB.out]
        go_wp2_with (go_at_call 123; refine q.mono ?_; rintro e w' ⟨rfl, bq⟩)
        go_roundw
        case rel => exact ⟨k + 1, by omega, by go_num, HN, hb.trans (bq.mono s1)⟩
        case measure => simp [intOf]; omega
    · have HN : Hid (pre (sb s) = true) := by
        show _ = _
        have h1 := HA.out
        rw [List.take_of_length_le (by omega)] at h1
        rw [HP.out, h1, decide_eq_true h41]
        rfl
      go_wp2
      go_ret
      exact ⟨by rw [HN.out]; rfl, b1.trans (hb.mono s2)⟩

set_option maxRecDepth 1000000 in
theorem partok_impl (w : World) (r : Int) : Calls Tryz.prog 107 #[.int .i64 r] w fun e w' => e = .returned (.bool (decide (0 ≤ r ∧ r ≤ 1000000))) ∧ w' = w := by
  by_cases h1 : 0 ≤ r
  · by_cases h2 : r ≤ 1000000
    · have HR : Hid (decide (0 ≤ r ∧ r ≤ 1000000) = true) := by show _ = _; simp [h1, h2]
      go_enter Tryz.func107, Tryz.ntmps107
      go_wp2
      go_ret
      exact ⟨by simp [h1, h2], rfl⟩
    · have HR : Hid (decide (0 ≤ r ∧ r ≤ 1000000) = false) := by show _ = _; simp [h2]
      go_enter Tryz.func107, Tryz.ntmps107
      go_wp2
      go_ret
      exact ⟨by simp [h1, h2], rfl⟩
  · have HR : Hid (decide (0 ≤ r ∧ r ≤ 1000000) = false) := by show _ = _; simp [h1]
    go_enter Tryz.func107, Tryz.ntmps107
    go_wp2
    go_ret
    exact ⟨by simp [h1]; omega, rfl⟩

set_option maxRecDepth 1000000 in
set_option maxHeartbeats 1000000 in
theorem ok_impl (w : World) (a b c : Int) (p : ByteArray) (hp : p.size ≤ 1000000000000) :
    Calls Tryz.prog 83 #[ver a b c p] w fun e w' => e = .returned (.bool (okV a b c p)) ∧ Below w.heap.size w w' := by
  obtain ⟨b1, e1⟩ : ∃ x, decide ((0 : Int) ≤ a ∧ a ≤ 1000000) = x := ⟨_, rfl⟩
  obtain ⟨b2, e2⟩ : ∃ x, decide ((0 : Int) ≤ b ∧ b ≤ 1000000) = x := ⟨_, rfl⟩
  obtain ⟨b3, e3⟩ : ∃ x, decide ((0 : Int) ≤ c ∧ c ≤ 1000000) = x := ⟨_, rfl⟩
  obtain ⟨b4, e4⟩ : ∃ x, decide (p.size = 0) = x := ⟨_, rfl⟩
  have he : p.toList.isEmpty = b4 := by rw [toList_empty, e4]
  obtain ⟨b5, e5⟩ : ∃ x, pre (sb p) = x := ⟨_, rfl⟩
  have HO : Hid (okV a b c p = (b1 && b2 && b3 && (b4 || b5))) := by show _ = _; unfold okV inM; rw [e1, e2, e3, e4, e5]
  have q := pre_impl (w.alloc (.cells #[.int .i64 a, .int .i64 b, .int .i64 c, .string p] 46)) p hp
  rw [e5] at q
  have hB : Below w.heap.size w (w.alloc (.cells #[.int .i64 a, .int .i64 b, .int .i64 c, .string p] 46)) := (Below.refl _ _).alloc (Nat.le_refl _) _
  have HB : Hid _ := hB
  clear e4 e5 hB
  unfold ver
  cases b1
  · go_enter Tryz.func83, Tryz.ntmps83
    go_wp2_with (go_at_call 107; refine (partok_impl _ _).mono ?_; rintro e w' ⟨rfl, rfl⟩; first | rw [e1] | rw [e2] | rw [e3])
    go_ret
    exact ⟨by rw [HO.out]; rfl, HB.out⟩
  · cases b2
    · go_enter Tryz.func83, Tryz.ntmps83
      go_wp2_with (go_at_call 107; refine (partok_impl _ _).mono ?_; rintro e w' ⟨rfl, rfl⟩; first | rw [e1] | rw [e2] | rw [e3])
      go_ret
      exact ⟨by rw [HO.out]; rfl, HB.out⟩
    · cases b3
      · go_enter Tryz.func83, Tryz.ntmps83
        go_wp2_with (go_at_call 107; refine (partok_impl _ _).mono ?_; rintro e w' ⟨rfl, rfl⟩; first | rw [e1] | rw [e2] | rw [e3])
        go_ret
        exact ⟨by rw [HO.out]; rfl, HB.out⟩
      · cases b4
        · go_enter Tryz.func83, Tryz.ntmps83
          go_wp2_with (first | (go_at_call 107; refine (partok_impl _ _).mono ?_; rintro e w' ⟨rfl, rfl⟩; first | rw [e1] | rw [e2] | rw [e3]) | (go_at_call 108; refine q.mono ?_; rintro e w' ⟨rfl, bq⟩))
          go_ret
          exact ⟨by rw [HO.out]; rfl, HB.out.trans (bq.mono (by simp))⟩
        · go_enter Tryz.func83, Tryz.ntmps83
          go_wp2_with (go_at_call 107; refine (partok_impl _ _).mono ?_; rintro e w' ⟨rfl, rfl⟩; first | rw [e1] | rw [e2] | rw [e3])
          go_ret
          exact ⟨by rw [HO.out]; rfl, HB.out⟩

end Go.Proofs.YtlhmemnaiobgkabGreatDoor.Ver

/- Chapter 3, the landed code: which of two versions is less, down to the library's comparisons. -/
namespace Go.Proofs.YtlhmemnaiobgkabGreatDoor.Ver
open Go.RowKit Go.Proofs.YtlhmemnaiobgkabGreatDoor.Mem Go.Proofs.YtlhmemnaiobgkabGreatDoor.Laws Go.Proofs.YtlhmemnaiobgkabGreatDoor.Bytes Go.Proofs.YtlhmemnaiobgkabGreatDoor.Sha
set_option linter.unusedVariables false
set_option linter.unusedSimpArgs false

def cmpI (x y : Int) : Int := if x < y then -1 else if y < x then 1 else 0

def cmpT (a b : ByteArray) : Int := if ltT a b = true then -1 else if eqT a b = true then 0 else 1

/-- the first that is not 0 -/
def orL : List Int → Int
  | [] => 0
  | x :: r => if x = 0 then orL r else x

def cmpPart (a b : ByteArray) : Int :=
  if isNum (sb a) = true then (if isNum (sb b) = true then orL [cmpI a.size b.size, cmpT a b] else -1) else (if isNum (sb b) = true then 1 else cmpT a b)

def cmpL : List ByteArray → List ByteArray → Int
  | [], [] => 0
  | [], _ :: _ => -1
  | _ :: _, [] => 1
  | t :: r, u :: q => if cmpPart t u = 0 then cmpL r q else cmpPart t u

def cmpPre (a b : ByteArray) : Int := if eqT a b = true then 0 else if a.size = 0 then 1 else if b.size = 0 then -1 else cmpL (splitT 46 a) (splitT 46 b)

def cmpV (a1 b1 c1 : Int) (p1 : ByteArray) (a2 b2 c2 : Int) (p2 : ByteArray) : Int := orL [cmpI a1 a2, cmpI b1 b2, cmpI c1 c2, cmpPre p1 p2]

set_option maxRecDepth 1000000 in
theorem compare_int (w : World) (x y : Int) : Calls Tryz.prog 97 #[.int .i64 x, .int .i64 y] w fun e w' => e = .returned (.int .i64 (cmpI x y)) ∧ w' = w := by
  have n1 : (x != x) = false := by simp
  have n2 : (y != y) = false := by simp
  by_cases h1 : x < y
  · have d1 : decide (x < y) = true := by simpa using h1
    have HR : Hid (cmpI x y = -1) := by show _ = _; simp [cmpI, h1]
    go_enter Tryz.func97, Tryz.ntmps97
    go_wp2
    go_ret
    exact ⟨by rw [HR.out]; rfl, rfl⟩
  · by_cases h2 : y < x
    · have HR : Hid (cmpI x y = 1) := by show _ = _; simp [cmpI, h1, h2]
      go_enter Tryz.func97, Tryz.ntmps97
      go_wp2
      go_ret
      exact ⟨by rw [HR.out]; rfl, rfl⟩
    · have HR : Hid (cmpI x y = 0) := by show _ = _; simp [cmpI, h1, h2]
      go_enter Tryz.func97, Tryz.ntmps97
      go_wp2
      go_ret
      exact ⟨by rw [HR.out]; rfl, rfl⟩

theorem gtr_str (t : TypeId) (a b : ByteArray) : binOp .gtr t (.string a) (.string b) = pure (.bool !(ltT a b || eqT a b)) := by simp [binOp, Op.stringOp, ltT, eqT]

theorem lss_str (t : TypeId) (a b : ByteArray) : binOp .lss t (.string a) (.string b) = pure (.bool (ltT a b)) := by simp [binOp, Op.stringOp, ltT]

set_option maxRecDepth 1000000 in
theorem compare_str (w : World) (x y : ByteArray) : Calls Tryz.prog 130 #[.string x, .string y] w fun e w' => e = .returned (.int .i64 (cmpT x y)) ∧ w' = w := by
  have n1 : (x.toList == x.toList) = true := by simp
  have n2 : (y.toList == y.toList) = true := by simp
  obtain ⟨l, hl⟩ : ∃ l, ltT x y = l := ⟨_, rfl⟩
  obtain ⟨q, hq⟩ : ∃ q, eqT x y = q := ⟨_, rfl⟩
  have g1 := gtr_str 9 x y
  have HR : Hid (cmpT x y = if l = true then -1 else if q = true then 0 else 1) := by show _ = _; unfold cmpT; rw [hl, hq]
  have hl' : Op.bytesLess x.toList y.toList = l := hl
  rw [hl, hq] at g1
  clear hl hq
  cases l
  · cases q
    · go_enter Tryz.func130, Tryz.ntmps130
      go_wp2
      go_ret
      exact ⟨by rw [HR.out]; rfl, rfl⟩
    · go_enter Tryz.func130, Tryz.ntmps130
      go_wp2
      go_ret
      exact ⟨by rw [HR.out]; rfl, rfl⟩
  · go_enter Tryz.func130, Tryz.ntmps130
    go_wp2
    go_ret
    exact ⟨by rw [HR.out]; rfl, rfl⟩

end Go.Proofs.YtlhmemnaiobgkabGreatDoor.Ver

/- Chapter 16: of two versions that are right the landed code and the specification tell the same one less; plain facts. -/
namespace Go.Proofs.YtlhmemnaiobgkabGreatDoor.Se
open Go.RowKit Go.Proofs.YtlhmemnaiobgkabGreatDoor.Mem Go.Proofs.YtlhmemnaiobgkabGreatDoor.Laws Go.Proofs.YtlhmemnaiobgkabGreatDoor.Ver Go.Proofs.YtlhmemnaiobgkabGreatDoor.Ent Go.Proofs.YtlhmemnaiobgkabGreatDoor.Fe
set_option linter.unusedVariables false
set_option linter.unusedSimpArgs false

theorem numv_acc16 : ∀ (l : List Int) (n : Int), l.foldl (fun n c => n * 10 + (c - 48)) n = n * 10 ^ l.length + numv l := by
  intro l
  induction l with
  | nil => intro n; simp [numv]
  | cons c r ih =>
    intro n
    have e : numv (c :: r) = (0 * 10 + (c - 48)) * 10 ^ r.length + numv r := ih _
    rw [List.foldl_cons, ih, e, List.length_cons, Int.pow_succ, Int.add_mul, Int.zero_mul, Int.zero_add]
    have e1 : n * 10 * 10 ^ r.length = n * (10 ^ r.length * 10) := by rw [Int.mul_assoc, Int.mul_comm 10]
    rw [e1]
    omega

theorem numv_cons16 (c : Int) (r : List Int) : numv (c :: r) = (c - 48) * 10 ^ r.length + numv r := by
  have := numv_acc16 r (c - 48)
  unfold numv at this ⊢
  rw [List.foldl_cons]
  simpa using this

/-- digits of one length: the lesser number is the lesser text -/
theorem numv_lex16 : ∀ (a b : List UInt8), a.length = b.length → (a.map fun b => (b.toNat : Int)).all isd = true → (b.map fun b => (b.toNat : Int)).all isd = true →
    (numv (a.map fun b => (b.toNat : Int)) < numv (b.map fun b => (b.toNat : Int)) ↔ Op.bytesLess a b = true) := by
  intro a
  induction a with
  | nil => intro b hl _ _; cases b with
    | nil => simp [Op.bytesLess]
    | cons y b => cases hl
  | cons x a ih =>
    intro b hl ha hb
    cases b with
    | nil => cases hl
    | cons y b =>
      simp only [List.map_cons, List.all_cons, Bool.and_eq_true] at ha hb
      have hl' : a.length = b.length := by simpa using hl
      have ih' := ih b hl' ha.2 hb.2
      obtain ⟨a0, a1⟩ := numv_bd _ _ (Nat.le_refl _) ha.2
      obtain ⟨b0, b1⟩ := numv_bd _ _ (Nat.le_refl _) hb.2
      rw [List.map_cons, List.map_cons, numv_cons16, numv_cons16]
      simp only [List.length_map] at a1 b1 ⊢
      rw [← hl'] at b1 ⊢
      obtain ⟨p, hp⟩ : ∃ p : Int, p = 10 ^ a.length := ⟨_, rfl⟩
      rw [← hp] at a1 b1 ⊢
      simp only [Op.bytesLess, Bool.or_eq_true, Bool.and_eq_true, decide_eq_true_eq, beq_iff_eq]
      have hlt : x < y ↔ (x.toNat : Int) < y.toNat := by rw [UInt8.lt_iff_toNat_lt]; omega
      have heq : x = y ↔ (x.toNat : Int) = y.toNat := by rw [← UInt8.toNat_inj]; omega
      rw [hlt, heq, ← ih']
      obtain ⟨X, hX⟩ : ∃ X : Int, X = x.toNat := ⟨_, rfl⟩
      obtain ⟨Y, hY⟩ : ∃ Y : Int, Y = y.toNat := ⟨_, rfl⟩
      rw [← hX, ← hY]
      have hp0 : 0 ≤ p := by omega
      constructor
      · intro h
        rcases Int.lt_trichotomy X Y with h1 | h1 | h1
        · exact .inl h1
        · subst h1; exact .inr ⟨rfl, by omega⟩
        · exfalso
          have := Int.mul_le_mul_of_nonneg_right (show Y - 48 + 1 ≤ X - 48 by omega) hp0
          rw [Int.add_mul, Int.one_mul] at this
          omega
      · rintro (h1 | ⟨h1, h2⟩)
        · have := Int.mul_le_mul_of_nonneg_right (show X - 48 + 1 ≤ Y - 48 by omega) hp0
          rw [Int.add_mul, Int.one_mul] at this
          omega
        · subst h1; omega

theorem numv_big16 {c : Int} {r : List Int} (ha : (c :: r).all isd = true) (hc : c ≠ 48) : (10 : Int) ^ r.length ≤ numv (c :: r) := by
  simp only [List.all_cons, Bool.and_eq_true] at ha
  have h1 : 48 ≤ c ∧ c ≤ 57 := by simpa [isd] using ha.1
  obtain ⟨h0, _⟩ := numv_bd _ _ (Nat.le_refl _) ha.2
  rw [numv_cons16]
  have hp0 : (0 : Int) ≤ 10 ^ r.length := Int.pow_nonneg (by decide)
  have := Int.mul_le_mul_of_nonneg_right (show 1 ≤ c - 48 by omega) hp0
  rw [Int.one_mul] at this
  omega

theorem isNum_form16 {l : List Int} (h : isNum l = true) : l.all isd = true ∧ (l = [48] ∨ ∃ c r, l = c :: r ∧ c ≠ 48) := by
  unfold isNum at h
  simp only [Bool.and_eq_true, Bool.or_eq_true, decide_eq_true_eq] at h
  refine ⟨h.1, h.2.imp id fun h2 => ?_⟩
  cases l with
  | nil => simp at h2
  | cons c r => exact ⟨c, r, rfl, by simpa using h2.2⟩

/-- a longer number is greater -/
theorem numv_len16 {l m : List Int} (hl : l.all isd = true) (hm : isNum m = true) (h : l.length < m.length) (h0 : l ≠ []) : numv l < numv m := by
  obtain ⟨ha, hf⟩ := isNum_form16 hm
  obtain ⟨_, h1⟩ := numv_bd _ _ (Nat.le_refl _) hl
  rcases hf with rfl | ⟨c, r, rfl, hc⟩
  · cases l with
    | nil => exact absurd rfl h0
    | cons x l => simp at h
  · have := numv_big16 ha hc
    have h2 : l.length ≤ r.length := by simp at h; omega
    have h4 := Nat.pow_le_pow_right (n := 10) (by decide) h2
    have e : ∀ k : Nat, (10 : Int) ^ k = ((10 ^ k : Nat) : Int) := fun k => by rw [Int.natCast_pow]; rfl
    have h3 : (10 : Int) ^ l.length ≤ 10 ^ r.length := by rw [e, e]; omega
    omega

theorem eqT_sb16 {a b : ByteArray} : eqT a b = true ↔ a = b := eqT_same a b

theorem cmpT_zero {a b : ByteArray} : cmpT a b = 0 ↔ a = b := by
  unfold cmpT
  cases h : ltT a b with
  | true =>
    rw [if_pos rfl]
    constructor
    · intro h2; cases h2
    · rintro rfl; rw [lt_irr] at h; cases h
  | false =>
    rw [if_neg (by simp)]
    by_cases he : eqT a b = true
    · rw [if_pos he]; simp [(eqT_same a b).1 he]
    · rw [if_neg he]
      constructor
      · intro h2; cases h2
      · intro h2; exact absurd ((eqT_same a b).2 h2) he

theorem cmpT_neg {a b : ByteArray} : cmpT a b < 0 ↔ ltT a b = true := by
  unfold cmpT
  cases h : ltT a b with
  | true => simp
  | false =>
    rw [if_neg (by simp)]
    split <;> simp

theorem cmpPart_zero {a b : ByteArray} : cmpPart a b = 0 ↔ a = b := by
  unfold cmpPart
  constructor
  · intro h
    split at h
    · split at h
      · simp only [orL] at h
        split at h
        · rename_i h2
          split at h
          · rename_i h3; exact cmpT_zero.1 h3
          · rename_i h3; exact absurd h h3
        · rename_i h2; exact absurd h h2
      · cases h
    · split at h
      · cases h
      · exact cmpT_zero.1 h
  · rintro rfl
    have h0 : cmpT a a = 0 := cmpT_zero.2 rfl
    split
    · simp [orL, cmpI, h0]
    · exact h0

theorem orL2 (x y : Int) : orL [x, y] < 0 ↔ x < 0 ∨ x = 0 ∧ y < 0 := by
  simp only [orL]
  by_cases h : x = 0
  · subst h
    by_cases h2 : y = 0
    · subst h2; simp
    · simp [h2]
  · simp [h]

theorem cmpI_neg (x y : Int) : cmpI x y < 0 ↔ x < y := by
  unfold cmpI; split
  · simp [*]
  · split <;> omega

theorem cmpI_zero (x y : Int) : cmpI x y = 0 ↔ x = y := by
  unfold cmpI; split
  · omega
  · split <;> omega

theorem number_pos16 {l : List Int} (h : 0 ≤ number l) : number l = numv l := by
  unfold number at h ⊢
  split at h
  · exact absurd h (by decide)
  · rename_i hc; rw [if_neg hc]

/-- of two parts that are right -/
theorem lessPart16 {a b : ByteArray} (ha : Ver.part (sb a) = true) (hb : Ver.part (sb b) = true) : lessPart a b = decide (cmpPart a b < 0) := by
  have la : (sb a).length ≤ 8 := by unfold Ver.part at ha; simp only [Bool.and_eq_true, decide_eq_true_eq] at ha; exact ha.1.2.2
  have lb : (sb b).length ≤ 8 := by unfold Ver.part at hb; simp only [Bool.and_eq_true, decide_eq_true_eq] at hb; exact hb.1.2.2
  have na := isNum_number la
  have nb := isNum_number lb
  unfold lessPart cmpPart
  simp only [na, nb, decide_eq_true_eq]
  by_cases h1 : 0 ≤ number (sb a)
  · simp only [if_pos h1]
    by_cases h2 : 0 ≤ number (sb b)
    · simp only [if_pos h2]
      have ia : isNum (sb a) = true := by rw [na]; simpa using h1
      have ib : isNum (sb b) = true := by rw [nb]; simpa using h2
      have va := number_pos16 h1
      have vb := number_pos16 h2
      obtain ⟨da, fa⟩ := isNum_form16 ia
      obtain ⟨db, fb⟩ := isNum_form16 ib
      have za : sb a ≠ [] := by rcases fa with h | ⟨c, r, h, _⟩ <;> rw [h] <;> simp
      have zb : sb b ≠ [] := by rcases fb with h | ⟨c, r, h, _⟩ <;> rw [h] <;> simp
      rw [va, vb]
      apply decide_eq_decide.2
      rw [orL2, cmpI_neg, cmpI_zero, cmpT_neg]
      rw [← sb_len, ← sb_len]
      rcases Nat.lt_trichotomy (sb a).length (sb b).length with h | h | h
      · have := numv_len16 da ib h za
        constructor
        · intro _; exact .inl (by omega)
        · intro _; exact this
      · have h9 := numv_lex16 a.data.toList b.data.toList (by simpa [sb] using h) da db
        have e1 : numv (sb a) < numv (sb b) ↔ ltT a b = true := by unfold ltT; rw [ByteArray.toList_eq, ByteArray.toList_eq]; exact h9
        rw [e1]
        constructor
        · intro h3; exact .inr ⟨by omega, h3⟩
        · rintro (h3 | ⟨_, h3⟩)
          · omega
          · exact h3
      · have := numv_len16 db ia h zb
        constructor
        · intro h3; omega
        · rintro (h3 | ⟨h3, _⟩) <;> omega
    · simp only [if_neg h2]
      rfl
  · simp only [if_neg h1]
    by_cases h2 : 0 ≤ number (sb b)
    · simp only [if_pos h2]
      rfl
    · simp only [if_neg h2]
      have := @cmpT_neg a b
      cases hlt : ltT a b with
      | true => rw [hlt] at this; exact (decide_eq_true (this.2 rfl)).symm
      | false => rw [hlt] at this; exact (decide_eq_false (fun h => by have := this.1 h; cases this)).symm

theorem lessL16 : ∀ (l m : List ByteArray), (∀ t ∈ l, Ver.part (sb t) = true) → (∀ t ∈ m, Ver.part (sb t) = true) → lessL l m = decide (cmpL l m < 0) := by
  intro l
  induction l with
  | nil => intro m _ _; cases m <;> rfl
  | cons t r ih =>
    intro m hl hm
    cases m with
    | nil => rfl
    | cons u q =>
      show (if eqT t u = true then lessL r q else lessPart t u) = decide ((if cmpPart t u = 0 then cmpL r q else cmpPart t u) < 0)
      by_cases h : t = u
      · rw [if_pos ((eqT_same t u).2 h), if_pos (cmpPart_zero.2 h)]
        exact ih q (fun t ht => hl t (by simp [ht])) (fun t ht => hm t (by simp [ht]))
      · rw [if_neg (fun h2 => h ((eqT_same t u).1 h2)), if_neg (fun h2 => h (cmpPart_zero.1 h2))]
        exact lessPart16 (hl t (by simp)) (hm u (by simp))

theorem parts16 {p : ByteArray} (h : Ver.pre (sb p) = true) : ∀ t ∈ splitT 46 p, Ver.part (sb t) = true := by
  intro t ht
  unfold Ver.pre at h
  rw [Bool.and_eq_true, List.all_eq_true] at h
  refine h.1 _ ?_
  rw [← splitT_sb]
  exact List.mem_map_of_mem ht

/-- of two versions that are right: what the landed code says is what the specification says -/
theorem less_same16 {a1 b1 c1 : Int} {p1 : ByteArray} {a2 b2 c2 : Int} {p2 : ByteArray} (h1 : okV a1 b1 c1 p1 = true) (h2 : okV a2 b2 c2 p2 = true) :
    lessV a1 b1 c1 p1 a2 b2 c2 p2 = decide (cmpV a1 b1 c1 p1 a2 b2 c2 p2 < 0) := by
  have hp : (if eqT p1 p2 = true ∨ p1.size = 0 then false else if p2.size = 0 then true else lessPre p1 p2) = decide (cmpPre p1 p2 < 0) := by
    unfold cmpPre
    by_cases he : eqT p1 p2 = true
    · rw [if_pos (.inl he), if_pos he]; rfl
    · rw [if_neg he]
      by_cases z1 : p1.size = 0
      · rw [if_pos (.inr z1), if_pos z1]; rfl
      · rw [if_neg (by simp [he, z1]), if_neg z1]
        by_cases z2 : p2.size = 0
        · rw [if_pos z2, if_pos z2]; rfl
        · rw [if_neg z2, if_neg z2]
          unfold okV at h1 h2
          rw [Bool.and_eq_true, Bool.or_eq_true, decide_eq_true_eq] at h1 h2
          exact lessL16 _ _ (parts16 (h1.2.resolve_left z1)) (parts16 (h2.2.resolve_left z2))
  unfold lessV cmpV
  rw [hp]
  by_cases e1 : a1 = a2
  · have x1 : cmpI a1 a2 = 0 := (cmpI_zero _ _).2 e1
    rw [if_neg (by simpa using e1), x1]
    by_cases e2 : b1 = b2
    · have x2 : cmpI b1 b2 = 0 := (cmpI_zero _ _).2 e2
      rw [if_neg (by simpa using e2), x2]
      by_cases e3 : c1 = c2
      · have x3 : cmpI c1 c2 = 0 := (cmpI_zero _ _).2 e3
        rw [if_neg (by simpa using e3), x3]
        simp only [orL, if_pos]
        by_cases h : cmpPre p1 p2 = 0
        · simp [h]
        · simp [h]
      · have x3 : cmpI c1 c2 ≠ 0 := fun h => e3 ((cmpI_zero _ _).1 h)
        rw [if_pos (by simpa using e3)]
        simp only [orL, if_pos, if_neg x3]
        exact decide_eq_decide.2 (cmpI_neg _ _).symm
    · have x2 : cmpI b1 b2 ≠ 0 := fun h => e2 ((cmpI_zero _ _).1 h)
      rw [if_pos (by simpa using e2)]
      simp only [orL, if_pos, if_neg x2]
      exact decide_eq_decide.2 (cmpI_neg _ _).symm
  · have x1 : cmpI a1 a2 ≠ 0 := fun h => e1 ((cmpI_zero _ _).1 h)
    rw [if_pos (by simpa using e1)]
    simp only [orL, if_neg x1]
    exact decide_eq_decide.2 (cmpI_neg _ _).symm

end Go.Proofs.YtlhmemnaiobgkabGreatDoor.Se

/- Chapter 3: lists of versions: what a row of them holds; a drawn list. -/
namespace Go.Proofs.YtlhmemnaiobgkabGreatDoor.Ver
open Go.RowKit Go.Proofs.YtlhmemnaiobgkabGreatDoor.Mem Go.Proofs.YtlhmemnaiobgkabGreatDoor.Laws Go.Proofs.YtlhmemnaiobgkabGreatDoor.Bytes Go.Proofs.YtlhmemnaiobgkabGreatDoor.Sha Go.Proofs.YtlhmemnaiobgkabGreatDoor.Draw
set_option linter.unusedVariables false
set_option linter.unusedSimpArgs false

/-- versions as cells, four each -/
def vs : List (Int × Int × Int × ByteArray) → List Value
  | [] => []
  | q :: r => .int .i64 q.1 :: .int .i64 q.2.1 :: .int .i64 q.2.2.1 :: .string q.2.2.2 :: vs r

theorem vs_len : ∀ l, (vs l).length = l.length * 4 := by
  intro l
  induction l with
  | nil => rfl
  | cons q r ih => simp [vs, ih]; omega

theorem vs_app (l m : List (Int × Int × Int × ByteArray)) : vs (l ++ m) = vs l ++ vs m := by
  induction l with
  | nil => rfl
  | cons q r ih => simp [vs, ih]

theorem vs_one : ∀ l, ∀ u ∈ vs l, u.oneCell' = true := by
  intro l
  induction l with
  | nil => intro u hu; cases hu
  | cons q r ih =>
    intro u hu
    simp only [vs, List.mem_cons] at hu
    rcases hu with rfl | rfl | rfl | rfl | hu
    · rfl
    · rfl
    · rfl
    · rfl
    · exact ih u hu

theorem vs_get : ∀ (l : List (Int × Int × Int × ByteArray)) (k : Nat) (q : Int × Int × Int × ByteArray), l[k]? = some q →
    (vs l)[4 * k]? = some (.int .i64 q.1) ∧ (vs l)[4 * k + 1]? = some (.int .i64 q.2.1) ∧ (vs l)[4 * k + 2]? = some (.int .i64 q.2.2.1) ∧ (vs l)[4 * k + 3]? = some (.string q.2.2.2) := by
  intro l
  induction l with
  | nil => intro k q h; simp at h
  | cons x r ih =>
    intro k q h
    cases k with
    | zero => simp at h; subst h; exact ⟨rfl, rfl, rfl, rfl⟩
    | succ k =>
      have := ih k q (by simpa using h)
      have e : 4 * (k + 1) = 4 * k + 4 := by omega
      rw [e]
      exact this

/-- block g holds the versions l, from its beginning on -/
def Cv (w : World) (g : Nat) (l : List (Int × Int × Int × ByteArray)) : Prop :=
  ∀ (k : Nat) (q : Int × Int × Int × ByteArray), l[k]? = some q → w.cell? ⟨g, 4 * k, none⟩ = some (.int .i64 q.1) ∧ w.cell? ⟨g, 4 * k + 1, none⟩ = some (.int .i64 q.2.1) ∧ w.cell? ⟨g, 4 * k + 2, none⟩ = some (.int .i64 q.2.2.1) ∧ w.cell? ⟨g, 4 * k + 3, none⟩ = some (.string q.2.2.2)

theorem Cv.later {w w' : World} {g : Nat} {l : List (Int × Int × Int × ByteArray)} (h : Cv w g l) (hb : Below w.heap.size w w') : Cv w' g l := by
  intro k q hq
  obtain ⟨h1, h2, h3, h4⟩ := h k q hq
  have hl : g < w.heap.size := World.block_lt_of_cell? w _ h1
  exact ⟨(hb.cell (p := ⟨g, 4 * k, none⟩) hl).trans h1, (hb.cell (p := ⟨g, 4 * k + 1, none⟩) hl).trans h2, (hb.cell (p := ⟨g, 4 * k + 2, none⟩) hl).trans h3, (hb.cell (p := ⟨g, 4 * k + 3, none⟩) hl).trans h4⟩

/-- v owns the versions l -/
def Ov (w : World) (lo hi : Nat) (v : Value) (l : List (Int × Int × Int × ByteArray)) : Prop :=
  w.ownsRow lo 46 4 v l.length (vs l) ∧ (∃ g cap, v = .slice (some ⟨g, 0, none⟩) l.length cap ∧ l.length ≤ cap ∧ g < hi)

theorem Ov.cv {w : World} {lo hi : Nat} {v : Value} {l : List (Int × Int × Int × ByteArray)} (h : Ov w lo hi v l) : ∃ g cap, v = .slice (some ⟨g, 0, none⟩) l.length cap ∧ l.length ≤ cap ∧ g < hi ∧ Cv w g l := by
  obtain ⟨h1, g, cap, rfl, hc, hg⟩ := h
  refine ⟨g, cap, rfl, hc, hg, fun k q hq => ?_⟩
  have hk : k < l.length := (List.getElem?_eq_some_iff.1 hq).1
  obtain ⟨a1, a2, a3, a4⟩ := vs_get l k q hq
  exact ⟨by rw [h1.cellAt _ (by omega)]; exact a1, by rw [h1.cellAt _ (by omega)]; exact a2, by rw [h1.cellAt _ (by omega)]; exact a3, by rw [h1.cellAt _ (by omega)]; exact a4⟩

theorem Ov.keep {w w' : World} {lo hi : Nat} {v : Value} {l : List (Int × Int × Int × ByteArray)} (h : Ov w lo hi v l) (hk : ∀ k, lo ≤ k → k < hi → w'.heap[k]? = w.heap[k]?) : Ov w' lo hi v l := by
  obtain ⟨⟨h1, h2⟩, g, cap, rfl, hc, hg⟩ := h
  refine ⟨⟨h1, ?_⟩, g, cap, rfl, hc, hg⟩
  rcases h2 with h2 | ⟨g', cap', cur, he, hb, hh, r⟩
  · exact .inl h2
  · have : g' = g := by simp at he; exact he.1.symm
    subst this
    exact .inr ⟨g', cap', cur, he, hb, by rw [hk g' hb hg]; exact hh, r⟩

theorem infoVv : (Tryz.prog.info? 46).map (fun i => (i.zero, i.size, i.bytes)) = some (some (.agg #[.int .i64 0, .int .i64 0, .int .i64 0, .string ⟨#[]⟩]), 4, 40) := by kernel_rfl

end Go.Proofs.YtlhmemnaiobgkabGreatDoor.Ver

/- Chapter 3, the landed code: the first answer that is not 0; parts compared; lists of parts compared. -/
namespace Go.Proofs.YtlhmemnaiobgkabGreatDoor.Ver
open Go.RowKit Go.Proofs.YtlhmemnaiobgkabGreatDoor.Mem Go.Proofs.YtlhmemnaiobgkabGreatDoor.Laws Go.Proofs.YtlhmemnaiobgkabGreatDoor.Bytes Go.Proofs.YtlhmemnaiobgkabGreatDoor.Sha
set_option linter.unusedVariables false
set_option linter.unusedSimpArgs false

def is64 (l : List Int) : List Value := l.map (Value.int .i64)

theorem is64_len (l : List Int) : (is64 l).length = l.length := by simp [is64]

theorem is64_get (l : List Int) (j : Nat) : (is64 l)[j]? = (l[j]?).map (Value.int .i64) := by simp [is64]

set_option maxRecDepth 1000000 in
set_option maxHeartbeats 1000000 in
theorem or_impl (w : World) (v : Value) (l : List Int) (hsl : Sl w v (is64 l)) (hl : l.length ≤ 1000) :
    Calls Tryz.prog 96 #[v] w fun e w' => e = .returned (.int .i64 (orL l)) ∧ w' = w := by
  obtain ⟨ao, cap, rfl, hc, hn, hr⟩ := hsl
  rw [is64_len] at hc hr ⊢
  have HR : Hid (0 < l.length → ∃ b off, ao = some ⟨b, off, none⟩ ∧ ∀ j, j < l.length → w.cell? ⟨b, off + j, none⟩ = (is64 l)[j]?) := hr
  clear hr hn
  go_enter Tryz.func96, Tryz.ntmps96
  go_wp2
  go_loopw [8] (fun i wr => ∃ k : Nat, k ≤ l.length ∧ i = .int .i64 (k : Int) ∧ Hid (orL l = orL (l.drop k)) ∧ w = wr) (fun i _ => l.length - (intOf i).toNat)
  case atStart => exact ⟨0, Nat.zero_le _, rfl, rfl, by first | rfl | trivial⟩
  case round =>
    obtain ⟨k, hk, rfl, HA, rfl⟩ := hrel
    by_cases hlt : k < l.length
    · obtain ⟨b, off, rfl, hcell0⟩ := HR.out (by omega)
      obtain ⟨x, hx⟩ : ∃ x, l[k]? = some x := ⟨l[k], by simp [hlt]⟩
      have hcell : w.cell? ⟨b, off + k, none⟩ = some (.int .i64 x) := by rw [hcell0 k hlt, is64_get, hx]; rfl
      have hd : l.drop k = x :: l.drop (k + 1) := by
        obtain ⟨hk', rfl⟩ := List.getElem?_eq_some_iff.1 hx
        rw [List.drop_eq_getElem_cons hk']
      have HO : Hid (orL l = if x = 0 then orL (l.drop (k + 1)) else x) := by show _ = _; rw [HA.out, hd, orL]
      clear hcell0 hd hx HR
      by_cases h0 : x = 0
      · have d0 : (x != 0) = false := by simpa using h0
        have HN : Hid (orL l = orL (l.drop (k + 1))) := by show _ = _; rw [HO.out, if_pos h0]
        clear h0
        go_wp2
        go_roundw
        case rel => exact ⟨k + 1, by omega, by go_num, HN, by first | rfl | trivial⟩
        case measure => simp [intOf]; omega
      · have d0 : (x != 0) = true := by simpa using h0
        have HN : Hid (orL l = x) := by show _ = _; rw [HO.out, if_neg h0]
        clear h0
        go_wp2
        go_ret
        exact ⟨by rw [HN.out]; rfl, rfl⟩
    · have HN : Hid (orL l = 0) := by
        show _ = _
        rw [HA.out, List.drop_eq_nil_of_le (by omega)]
        rfl
      go_wp2
      go_ret
      exact ⟨by rw [HN.out]; rfl, rfl⟩

set_option maxRecDepth 1000000 in
set_option maxHeartbeats 1000000 in
theorem cpart_impl (w : World) (a b : ByteArray) (ha : a.size ≤ 1000000000000) (hb : b.size ≤ 1000000000000) :
    Calls Tryz.prog 119 #[.string a, .string b] w fun e w' => e = .returned (.int .i64 (cmpPart a b)) ∧ Below w.heap.size w w' := by
  obtain ⟨x, hx⟩ : ∃ x, isNum (sb a) = x := ⟨_, rfl⟩
  obtain ⟨y, hy⟩ : ∃ y, isNum (sb b) = y := ⟨_, rfl⟩
  have HC : Hid (cmpPart a b = if x = true then (if y = true then orL [cmpI a.size b.size, cmpT a b] else -1) else (if y = true then 1 else cmpT a b)) := by
    show _ = _
    unfold cmpPart
    rw [hx, hy]
  have q1 := number_impl w a ha
  rw [hx] at q1
  have q2 := fun W => number_impl W b hb
  rw [hy] at q2
  clear hx hy
  go_enter Tryz.func119, Tryz.ntmps119
  go_wp2_with fail
  refine q1.mono ?_
  rintro e w1 ⟨rfl, b1⟩
  go_wp2_with fail
  refine (q2 w1).mono ?_
  rintro e w2 ⟨rfl, b2⟩
  have hb2 : Below w.heap.size w w2 := b1.trans (b2.mono b1.size)
  have hs2 := hb2.size
  clear q1 q2
  cases x
  · cases y
    · have HN : Hid (cmpPart a b = cmpT a b) := by show _ = _; rw [HC.out]; rfl
      have q3 := compare_str w2 a b
      obtain ⟨r, hr⟩ : ∃ r, cmpT a b = r := ⟨_, rfl⟩
      have HE : Hid (cmpT a b = r) := hr
      rw [hr] at q3
      clear hr
      go_wp2_with (go_at_call 130; refine q3.mono ?_; rintro e w' ⟨rfl, rfl⟩)
      go_ret
      exact ⟨by rw [HN.out, HE.out]; rfl, hb2⟩
    · have HN : Hid (cmpPart a b = 1) := by show _ = _; rw [HC.out]; rfl
      go_wp2_with fail
      go_ret
      exact ⟨by rw [HN.out]; rfl, hb2⟩
  · cases y
    · have HN : Hid (cmpPart a b = -1) := by show _ = _; rw [HC.out]; rfl
      go_wp2_with fail
      go_ret
      exact ⟨by rw [HN.out]; rfl, hb2⟩
    · have HN : Hid (cmpPart a b = orL [cmpI a.size b.size, cmpT a b]) := by show _ = _; rw [HC.out]; rfl
      have q3 := compare_str w2 a b
      obtain ⟨r, hr⟩ : ∃ r, cmpT a b = r := ⟨_, rfl⟩
      have q4 := compare_int w2 (a.size : Int) (b.size : Int)
      obtain ⟨t, ht⟩ : ∃ t, cmpI (a.size : Int) (b.size : Int) = t := ⟨_, rfl⟩
      have HE : Hid (orL [cmpI a.size b.size, cmpT a b] = orL [t, r]) := by show _ = _; rw [hr, ht]
      rw [hr] at q3
      rw [ht] at q4
      clear hr ht
      obtain ⟨z, hz⟩ : ∃ z, orL [t, r] = z := ⟨_, rfl⟩
      have hsl : Sl (w2.alloc (.cells #[.int .i64 t, .int .i64 r] 3)) (.slice (some ⟨w2.heap.size, 0, none⟩) 2 2) (is64 [t, r]) := by
        refine ⟨some ⟨w2.heap.size, 0, none⟩, 2, rfl, Nat.le_refl _, fun h => (by cases h), fun _ => ⟨w2.heap.size, 0, rfl, fun j hj => ?_⟩⟩
        rw [Nat.zero_add, cell_of_row _ w2.heap.size j #[.int .i64 t, .int .i64 r] 3 (0, 0) (heap_alloc_new w2 _)]
        simp [is64]
      have q5 := or_impl _ _ _ hsl (by simp)
      rw [hz] at q5
      have HZ : Hid (orL [t, r] = z) := hz
      have hb3 : Below w.heap.size w (w2.alloc (.cells #[.int .i64 t, .int .i64 r] 3)) := hb2.alloc hs2 _
      clear hz hsl
      go_wp2_with (first | (go_at_call 130; refine q3.mono ?_; rintro e w' ⟨rfl, rfl⟩) | (go_at_call 97; refine q4.mono ?_; rintro e w' ⟨rfl, rfl⟩) | (go_at_call 96; refine q5.mono ?_; rintro e w' ⟨rfl, rfl⟩))
      go_ret
      exact ⟨by rw [HN.out, HE.out, HZ.out]; rfl, hb3⟩

end Go.Proofs.YtlhmemnaiobgkabGreatDoor.Ver
