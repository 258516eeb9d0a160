/- Texts in one: Rune, VerP, ImpA, ImpB, ImpC, ImpD. -/
import Derived.Test.YtbopliahafkecaaGreatDoorPk7
import Derived.Test.YtbopliahafkecaaGreatDoorPk8
import Derived.Lib.OthersKept
import Derived.Laws.RangeAny
/- A text read rune by rune: what the width of a rune says of its bytes; a split that passes over them; a world whose iterator moves on. No program is named here. -/
namespace Go.Proofs.YtbopliahafkecaaGreatDoor.Ver
open Go.RowKit Go.Proofs.YtbopliahafkecaaGreatDoor.Mem Go.Proofs.YtbopliahafkecaaGreatDoor.Laws Go.Proofs.YtbopliahafkecaaGreatDoor.Bytes Go.Proofs.YtbopliahafkecaaGreatDoor.Sha
set_option linter.unusedVariables false
set_option linter.unusedSimpArgs false

theorem rune_high (s : ByteArray) (pos : Nat) (h : pos < s.size) (ha : 128 ≤ (s[pos]'h).toNat) :
    128 ≤ (Utf8.decode s pos).1 ∧ 1 ≤ (Utf8.decode s pos).2 ∧ pos + (Utf8.decode s pos).2 ≤ s.size ∧ ∀ j, j < (Utf8.decode s pos).2 → 128 ≤ (s.get! (pos + j)).toNat := by
  refine ⟨(decode_high s pos h ha).1, (decode_high s pos h ha).2, ?_⟩
  have hn : ¬ (s[pos]'h).toNat < 128 := by omega
  have h0 : 128 ≤ (s.get! (pos + 0)).toNat := by rw [get_at s pos h]; exact ha
  simp only [Utf8.decode, get_at s pos h, hn, if_false]
  repeat' split
  all_goals simp_all
  all_goals first | omega | refine ⟨by omega, fun j hj => ?_⟩
  all_goals (rcases j with _ | _ | _ | _ | j <;> first | omega | (simp at h0 ⊢; omega))

theorem sb_get! (s : ByteArray) (k : Nat) (h : k < s.size) : (sb s)[k]? = some ((s.get! k).toNat : Int) := by
  rw [sb_get s k h]
  have := get_at s k h
  rw [Nat.add_zero] at this
  rw [this]

/-- no byte of a rune of several bytes is below 128 -/
theorem rune_bytes (s : ByteArray) (pos : Nat) (h : pos < s.size) (ha : 128 ≤ (s[pos]'h).toNat) (b : Int) (hb : b < 128) :
    ∀ x ∈ ((sb s).drop pos).take (Utf8.decode s pos).2, x ≠ b := by
  obtain ⟨h1, h2, h3, h4⟩ := rune_high s pos h ha
  intro x hx
  obtain ⟨j, hj⟩ := List.getElem?_of_mem hx
  rw [List.getElem?_take] at hj
  split at hj
  · rename_i hlt
    rw [List.getElem?_drop, sb_get! s (pos + j) (by omega)] at hj
    have := h4 j hlt
    simp at hj
    omega
  · simp at hj

theorem splitL_skip (b : Int) : ∀ (n : Nat) (l cur : List Int), (∀ x ∈ l.take n, x ≠ b) → splitL b cur l = splitL b (cur ++ l.take n) (l.drop n) := by
  intro n
  induction n with
  | zero => intro l cur _; simp
  | succ n ih =>
    intro l cur h
    cases l with
    | nil => simp
    | cons c r =>
      have hc : c ≠ b := h c (by simp)
      rw [splitL, if_neg hc, ih r (cur ++ [c]) (fun x hx => h x (by simp [hx]))]
      simp

theorem cur_more {l : List Int} {f k n : Nat} (hf : f ≤ k) : (l.drop f).take (k - f) ++ ((l.drop k).take n) = (l.drop f).take (k + n - f) := by
  rw [show k + n - f = (k - f) + n by omega, List.take_add, List.drop_drop, show f + (k - f) = k by omega]

theorem iter_below {B : Nat} {a w : World} (h : Below B a w) {k : Nat} (hk : B ≤ k) (s : ByteArray) (pos : Nat) : Below B a (w.iterAt k s pos) := Lib.below_iterAt h hk s pos
theorem Own.iter {w : World} {lo : Nat} {e : TypeId} {v : Value} {cs : List Value} (h : Own w lo w.heap.size e v cs) {k : Nat} (hk : k < lo) (s : ByteArray) (pos : Nat) :
    Own (w.iterAt k s pos) lo (w.iterAt k s pos).heap.size e v cs := by
  rw [Lib.iterAt_size]
  exact h.keep fun j h1 h2 => Lib.iterAt_other w k j s pos (by omega)
theorem iter_stay {w w' : World} {B k : Nat} {o : Obj} (h : w.heap[k]? = some o) (hb : Below B w w') (hk : k < B) : w'.heap[k]? = some o := by
  rw [hb.block k hk]; exact h

end Go.Proofs.YtbopliahafkecaaGreatDoor.Ver

/- Chapter 3: numbers and parts as the landed code tells them, against the specification's; plain facts alone. -/
namespace Go.Proofs.YtbopliahafkecaaGreatDoor.Ver
open Go.RowKit Go.Proofs.YtbopliahafkecaaGreatDoor.Mem Go.Proofs.YtbopliahafkecaaGreatDoor.Laws Go.Proofs.YtbopliahafkecaaGreatDoor.Bytes Go.Proofs.YtbopliahafkecaaGreatDoor.Sha
set_option linter.unusedVariables false
set_option linter.unusedSimpArgs false

/-- digits without a needless nought, of any length -/
def isNum (l : List Int) : Bool := l.all isd && (decide (l = [48]) || (!l.isEmpty && !decide (l.head? = some 48)))

theorem numv_acc : ∀ (l : List Int) (n : Int), l.all isd = true → 0 ≤ n → n ≤ l.foldl (fun n c => n * 10 + (c - 48)) n := by
  intro l
  induction l with
  | nil => intro n _ _; simp
  | cons c r ih =>
    intro n h hn
    simp only [List.all_cons, Bool.and_eq_true] at h
    have hc : 48 ≤ c ∧ c ≤ 57 := by simpa [isd] using h.1
    simp only [List.foldl_cons]
    have := ih (n * 10 + (c - 48)) h.2 (by omega)
    omega
theorem numv_nonneg {l : List Int} (h : l.all isd = true) : 0 ≤ numv l := by
  have := numv_acc l 0 h (by omega)
  exact this
theorem numv_take {l : List Int} (h : l.all isd = true) (k : Nat) : numv (l.take k) ≤ numv l := by
  have hsp : l = l.take k ++ l.drop k := (List.take_append_drop k l).symm
  have h1 : (l.take k).all isd = true := by rw [hsp, List.all_append, Bool.and_eq_true] at h; exact h.1
  have h2 : (l.drop k).all isd = true := by rw [hsp, List.all_append, Bool.and_eq_true] at h; exact h.2
  have := numv_acc (l.drop k) (numv (l.take k)) h2 (numv_nonneg h1)
  conv => rhs; rw [hsp]
  unfold numv at this ⊢
  rw [List.foldl_append]
  exact this

theorem isNum_number {l : List Int} (h8 : l.length ≤ 8) : isNum l = decide (0 ≤ number l) := by
  unfold isNum number digs
  cases hd : l.all isd with
  | false => simp [hd]
  | true =>
    have hv := numv_nonneg hd
    cases l with
    | nil => simp
    | cons c r =>
      by_cases hc : c = 48
      · subst hc
        cases r with
        | nil => simp [hv, hd]
        | cons x y => simp [hd]
      · simp [hd, hc, h8, hv]
        simp at h8
        split <;> omega
theorem part_imp (l : List Int) : part l = (decide (1 ≤ l.length ∧ l.length ≤ 8) && l.all psign && (!(l.all isd) || isNum l)) := by
  unfold part
  by_cases h : 1 ≤ l.length ∧ l.length ≤ 8
  · rw [isNum_number h.2]
    have hne : l.isEmpty = false := by cases l with
      | nil => simp at h
      | cons => rfl
    unfold digs
    rw [hne]
    simp [h]
  · simp [h]
theorem isd_psign {c : Int} (h : isd c = true) : psign c = true := by
  simp [isd] at h
  simp [psign, h]

/-- a number up to a greatest one -/
def upTo (l : List Int) (m : Int) : Int × Bool := if isNum l = true ∧ numv l ≤ m then (numv l, true) else (0, false)

end Go.Proofs.YtbopliahafkecaaGreatDoor.Ver

/- Chapter 3, the landed code: the parts of a text, numbers, parts of what stands behind a version, versions that are right. -/
namespace Go.Proofs.YtbopliahafkecaaGreatDoor.Ver
open Go.RowKit Go.Proofs.YtbopliahafkecaaGreatDoor.Mem Go.Proofs.YtbopliahafkecaaGreatDoor.Laws Go.Proofs.YtbopliahafkecaaGreatDoor.Bytes Go.Proofs.YtbopliahafkecaaGreatDoor.Sha
set_option linter.unusedVariables false
set_option linter.unusedSimpArgs false

theorem Own.none (w : World) (lo hi : Nat) (e : TypeId) : Own w lo hi e (.slice none 0 0) [] :=
  ⟨⟨rfl, .inl ⟨rfl, rfl⟩⟩, fun g hg => by simp [Value.ownBlock] at hg⟩

set_option maxRecDepth 1000000 in
set_option maxHeartbeats 1000000 in
theorem parts_impl (w : World) (s : ByteArray) (b : Int) (hb0 : 0 ≤ b) (hb1 : b < 128) (hs : s.size ≤ 1000000000000) :
    Calls Tryz.prog 127 #[.string s, .int .i32 b] w fun e w' => ∃ v', e = .returned v' ∧ Own w' w.heap.size w'.heap.size 9 v' (ss (splitT b s)) ∧ Below w.heap.size w w' := by
  obtain ⟨i0, hi, hz0, hz1, hz2⟩ := info_parts info9v
  go_enter Tryz.func127, Tryz.ntmps127
  go_wp2
  go_loopw [5, 6] (fun o fr wr => ∃ (k f : Nat) (P : List (List Int)), fr = .int .i64 (f : Int) ∧ P.length ≤ k ∧ k ≤ s.size ∧ f ≤ k ∧ Hid (P ++ splitL b (((sb s).drop f).take (k - f)) ((sb s).drop k) = split b (sb s)) ∧ Own wr (w.heap.size + 1) wr.heap.size 9 o (ss (P.map Plain.txt)) ∧ wr.heap[w.heap.size]? = some (.stringIter s k) ∧ Below w.heap.size w wr) (fun _ _ wr => s.size - wr.iterPos w.heap.size)
  case atStart => exact ⟨0, 0, [], rfl, Nat.le_refl _, by omega, by omega, rfl, Own.none _ _ _ _, World.iter_heap w s 0, (Below.refl _ _).alloc (Nat.le_refl _) _⟩
  case round =>
    obtain ⟨k, f, P, rfl, hPl, hk, hf, HI, ho, hit, hb⟩ := hrel
    have hsz := hb.size
    have hlt0 : w.heap.size < wr.heap.size := (Array.getElem?_eq_some_iff.1 hit).1
    have hpos : wr.iterPos w.heap.size = k := by unfold World.iterPos; rw [hit]
    have HP : Hid (wr.iterPos w.heap.size = k) := hpos
    have hl : (ss (P.map Plain.txt)).length = P.length := by rw [ss_len, List.length_map]
    have c2 : (ss (P.map Plain.txt)).length + 1 ≤ maxLen := by rw [hl]; unfold maxLen; omega
    have c3 : ((ss (P.map Plain.txt)).length + 1) * 16 ≤ 140737488355328 := by rw [hl]; omega
    by_cases hp : k < s.size
    · have hE := HI.out
      have HX : Hid (s.extract f k = Plain.txt (((sb s).drop f).take (k - f))) := ext_txt s f k
      have HS : Hid (ss ((P ++ [((sb s).drop f).take (k - f)]).map Plain.txt) = ss (P.map Plain.txt) ++ [.string (s.extract f k)]) := by
        show _ = _
        rw [List.map_append, ss_app, HX.out]
        rfl
      have hg := sb_get s k hp
      by_cases ha : (s[k]'hp).toNat < 128
      · have hnx : ∀ ty, (Instr.next (.pointer (some ⟨w.heap.size, 0, none⟩)) true ty).run Tryz.prog wr = _ := fun ty => Lib.run_next_ascii_at wr w.heap.size s k ty hit hp ha
        have HO : Hid (Own (wr.iterAt w.heap.size s (k + 1)) (w.heap.size + 1) (wr.iterAt w.heap.size s (k + 1)).heap.size 9 u5 (ss (P.map Plain.txt))) := Own.iter ho (Nat.lt_succ_self w.heap.size) s (k + 1)
        have HIt : Hid ((wr.iterAt w.heap.size s (k + 1)).heap[w.heap.size]? = some (.stringIter s (k + 1))) := Lib.iterAt_heap _ _ _ _ _ hit
        have HB : Hid (Below w.heap.size w (wr.iterAt w.heap.size s (k + 1))) := Lib.below_iterAt hb (Nat.le_refl _) s (k + 1)
        have HL : Hid (w.heap.size < (wr.iterAt w.heap.size s (k + 1)).heap.size) := by show _ < _; rw [Lib.iterAt_size]; exact hlt0
        have HM : Hid ((wr.iterAt w.heap.size s (k + 1)).iterPos w.heap.size = k + 1) := by show _ = _; unfold World.iterPos; rw [HIt.out]
        rw [drop_consI hg, splitL] at hE
        have HG : Hid ((sb s)[k]? = some (s[k].toNat : Int)) := hg
        clear hg hit ho hb hl hpos HI
        by_cases hc : (s[k].toNat : Int) = b
        · rw [if_pos hc] at hE
          have HN : Hid ((P ++ [((sb s).drop f).take (k - f)]) ++ splitL b (((sb s).drop (k + 1)).take (k + 1 - (k + 1))) ((sb s).drop (k + 1)) = split b (sb s)) := by
            show _ = _
            rw [← hE, Nat.sub_self, List.take_zero, List.append_assoc]
            rfl
          have hd2 : ((s[k].toNat : Int) == b) = true := by simpa using hc
          clear hE hc
          have c4 : ∀ o, w.heap.size + 1 ≤ ((wr.iterAt w.heap.size s (k + 1)).alloc o).heap.size := fun o => by have := HL.out; simp; omega
          go_wp2_with (at_builtin; go_must (refine wpl_app _ rfl (.tmp 18) (.tmp 23) 40 rfl 9 i0 (.string ⟨#[]⟩) 16 Tryz.underlying40 hi hz0 hz1 hz2 rfl (w.heap.size + 1) _ (ss (P.map Plain.txt)) rfl (HO.out.alloc _) _ rfl [.string (s.extract f k)] (Sl.one _ _ _) (one_strv _) c2 c3 (c4 _) ?_); intro v3 w3 ho3 hb3 hg3)
          rw [← HS.out] at ho3
          have hb4 : Below w.heap.size w w3 := (HB.out.alloc (Nat.le_of_lt HL.out) _).trans (hb3.mono (Nat.le_succ _))
          have hit4 : w3.heap[w.heap.size]? = some (.stringIter s (k + 1)) := by
            rw [hb3.block _ (Nat.lt_succ_self _), heap_alloc_old _ _ HL.out]
            exact HIt.out
          have hps4 : w3.iterPos w.heap.size = k + 1 := by unfold World.iterPos; rw [hit4]
          go_roundw
          case rel => exact ⟨k + 1, k + 1, P ++ [((sb s).drop f).take (k - f)], by go_num, by simp; omega, by omega, by omega, HN, ho3, hit4, hb4⟩
          case measure => rw [hps4, HP.out]; omega
        · rw [if_neg hc, ← cur_snoc hf HG.out] at hE
          have HN : Hid (P ++ splitL b (((sb s).drop f).take (k + 1 - f)) ((sb s).drop (k + 1)) = split b (sb s)) := hE
          have hd2 : ((s[k].toNat : Int) == b) = false := by simpa using hc
          clear hE hc
          go_wp2
          go_roundw
          case rel => exact ⟨k + 1, f, P, by go_num, by omega, by omega, by omega, HN, HO.out, HIt.out, HB.out⟩
          case measure => rw [HM.out, HP.out]; omega
      · obtain ⟨r1, r2, r3, r4⟩ := rune_high s k hp (by omega)
        have r5 := rune_bytes s k hp (by omega) b hb1
        obtain ⟨r, n, hdec⟩ : ∃ r n, Utf8.decode s k = (r, n) := ⟨_, _, rfl⟩
        have hnx0 : ∀ ty, (Instr.next (.pointer (some ⟨w.heap.size, 0, none⟩)) true ty).run Tryz.prog wr = _ := fun ty => Lib.run_next_any_at wr w.heap.size s k ty hit hp
        rw [hdec] at r1 r2 r3 r4 r5 hnx0
        simp only at r1 r2 r3 r4 r5 hnx0
        have hnx : ∀ ty, (Instr.next (.pointer (some ⟨w.heap.size, 0, none⟩)) true ty).run Tryz.prog wr = .ok (.tuple #[.bool true, .int .i64 k, .int .i32 r]) (wr.iterAt w.heap.size s (k + n)) := hnx0
        have HO : Hid (Own (wr.iterAt w.heap.size s (k + n)) (w.heap.size + 1) (wr.iterAt w.heap.size s (k + n)).heap.size 9 u5 (ss (P.map Plain.txt))) := Own.iter ho (Nat.lt_succ_self w.heap.size) s (k + n)
        have HIt : Hid ((wr.iterAt w.heap.size s (k + n)).heap[w.heap.size]? = some (.stringIter s (k + n))) := Lib.iterAt_heap _ _ _ _ _ hit
        have HB : Hid (Below w.heap.size w (wr.iterAt w.heap.size s (k + n))) := Lib.below_iterAt hb (Nat.le_refl _) s (k + n)
        have HM : Hid ((wr.iterAt w.heap.size s (k + n)).iterPos w.heap.size = k + n) := by show _ = _; unfold World.iterPos; rw [HIt.out]
        have HN : Hid (P ++ splitL b (((sb s).drop f).take (k + n - f)) ((sb s).drop (k + n)) = split b (sb s)) := by
          show _ = _
          rw [← hE, splitL_skip b n _ _ r5, cur_more hf, List.drop_drop]
        have hd2 : ((r : Int) == b) = false := by simp; omega
        clear hg hit ho hb hl hpos HI hE hnx0 hdec r4 r5
        go_wp2
        go_roundw
        case rel => exact ⟨k + n, f, P, by go_num, by omega, by omega, by omega, HN, HO.out, HIt.out, HB.out⟩
        case measure => rw [HM.out, HP.out]; omega
    · have hke : k = s.size := by omega
      have HX : Hid (s.extract f s.size = Plain.txt (((sb s).drop f).take (s.size - f))) := ext_txt s f s.size
      have HN : Hid (ss (splitT b s) = ss (P.map Plain.txt) ++ [.string (s.extract f s.size)]) := by
        show _ = _
        unfold splitT
        have hE := HI.out
        rw [hke, List.drop_eq_nil_of_le (show (sb s).length ≤ s.size by rw [sb_len]; omega), splitL] at hE
        rw [← hE, List.map_append, ss_app, HX.out]
        rfl
      have hnx : ∀ ty, (Instr.next (.pointer (some ⟨w.heap.size, 0, none⟩)) true ty).run Tryz.prog wr = _ := fun ty => Lib.run_next_end_at wr w.heap.size s k ty hit hp
      have c4 : ∀ o, w.heap.size + 1 ≤ (wr.alloc o).heap.size := fun o => by simp; omega
      have hfs : f ≤ s.size := by omega
      clear hl hpos HI hit hke
      go_wp2_with (at_builtin; go_must (refine wpl_app _ rfl (.tmp 27) (.tmp 31) 40 rfl 9 i0 (.string ⟨#[]⟩) 16 Tryz.underlying40 hi hz0 hz1 hz2 rfl (w.heap.size + 1) _ (ss (P.map Plain.txt)) rfl (ho.alloc _) _ rfl [.string (s.extract f s.size)] (Sl.one _ _ _) (one_strv _) c2 c3 (c4 _) ?_); intro v3 w3 ho3 hb3 hg3)
      rw [← HN.out] at ho3
      go_ret
      exact ⟨_, rfl, ho3.mono (Nat.le_succ _) (Nat.le_refl _), (hb.alloc hsz _).trans (hb3.mono (Nat.le_succ _))⟩

end Go.Proofs.YtbopliahafkecaaGreatDoor.Ver

/- Chapter 3, the landed code: numbers, parts of what stands behind a version, versions that are right. -/
namespace Go.Proofs.YtbopliahafkecaaGreatDoor.Ver
open Go.RowKit Go.Proofs.YtbopliahafkecaaGreatDoor.Mem Go.Proofs.YtbopliahafkecaaGreatDoor.Laws Go.Proofs.YtbopliahafkecaaGreatDoor.Bytes Go.Proofs.YtbopliahafkecaaGreatDoor.Sha
set_option linter.unusedVariables false
set_option linter.unusedSimpArgs false

set_option maxRecDepth 1000000 in
theorem digit_impl (w : World) (r : Int) : Calls Tryz.prog 115 #[.int .i32 r] w fun e w' => e = .returned (.bool (isd r)) ∧ w' = w := by
  by_cases h1 : 48 ≤ r
  · by_cases h2 : r ≤ 57
    · have HR : Hid (isd r = true) := by show _ = _; simp [isd, h1, h2]
      go_enter Tryz.func115, Tryz.ntmps115
      go_wp2
      go_ret
      exact ⟨by rw [HR.out]; simp [h2], rfl⟩
    · have HR : Hid (isd r = false) := by show _ = _; simp [isd, h2]
      go_enter Tryz.func115, Tryz.ntmps115
      go_wp2
      go_ret
      exact ⟨by rw [HR.out]; simp [h2], rfl⟩
  · have HR : Hid (isd r = false) := by show _ = _; simp [isd, h1]
    go_enter Tryz.func115, Tryz.ntmps115
    go_wp2
    go_ret
    exact ⟨by rw [HR.out]; rfl, rfl⟩

theorem sb_list (s : ByteArray) : sb s = s.toList.map fun b => (b.toNat : Int) := by rw [ByteArray.toList_eq]; rfl
theorem isNum_one {s : ByteArray} (h : s.toList = [48]) : isNum (sb s) = true := by rw [sb_list, h]; decide
theorem isNum_nil {s : ByteArray} (h : s.toList = []) : isNum (sb s) = false := by rw [sb_list, h]; decide
theorem isNum_more {s : ByteArray} (hall : (sb s).all isd = true) (h1 : ¬ s.toList = [48]) (h0 : 0 < s.size) : isNum (sb s) = ((s[0].toNat : Int) != 48) := by
  unfold isNum
  rw [hall]
  have hg := sb_get s 0 h0
  have hne : decide (sb s = [48]) = false := by
    rw [decide_eq_false_iff_not]
    intro he
    apply h1
    have h2 : s.toList.map (fun b => (b.toNat : Int)) = [48] := by rw [← sb_list]; exact he
    cases ht : s.toList with
    | nil => rw [ht] at h2; simp at h2
    | cons x y =>
      rw [ht] at h2
      simp at h2
      obtain ⟨h3, rfl⟩ := h2
      have h4 : x.toNat = (48 : UInt8).toNat := by have : (48 : UInt8).toNat = 48 := rfl; omega
      rw [UInt8.toNat_inj.1 h4]
  rw [hne]
  cases hb : sb s with
  | nil => rw [hb] at hg; simp at hg
  | cons x y =>
    rw [hb] at hg
    simp at hg
    simp [hg]
    rw [Bool.eq_iff_iff]
    simp

set_option maxRecDepth 1000000 in
set_option maxHeartbeats 1000000 in
theorem number_impl (w : World) (s : ByteArray) (hs : s.size ≤ 1000000000000) :
    Calls Tryz.prog 92 #[.string s] w fun e w' => e = .returned (.bool (isNum (sb s))) ∧ Below w.heap.size w w' := by
  go_enter Tryz.func92, Tryz.ntmps92
  go_wp2
  go_loopw [] (fun wr => ∃ k : Nat, k ≤ s.size ∧ Hid (((sb s).take k).all isd = true) ∧ wr = w.iter s k) (fun wr => s.size - wr.iterPos w.heap.size)
  case atStart => exact ⟨0, Nat.zero_le _, rfl, rfl⟩
  case round =>
    obtain ⟨k, hk, HA, rfl⟩ := hrel
    have hB : Below w.heap.size w (w.iter s k) := (Below.refl _ _).alloc (Nat.le_refl _) _
    by_cases hp : k < s.size
    · have hg := sb_get s k hp
      by_cases ha : (s[k]'hp).toNat < 128
      · have hnx : ∀ ty, (Instr.next (.pointer (some ⟨w.heap.size, 0, none⟩)) true ty).run Tryz.prog (w.iter s k) = _ := fun ty => run_next_ascii w s k ty hp ha
        have hB1 : Below w.heap.size w (w.iter s (k + 1)) := (Below.refl _ _).alloc (Nat.le_refl _) _
        obtain ⟨x, hx⟩ : ∃ x, isd (s[k].toNat : Int) = x := ⟨_, rfl⟩
        have q := digit_impl (w.iter s (k + 1)) (s[k].toNat : Int)
        rw [hx] at q
        cases x
        · have HN : Hid (isNum (sb s) = false) := by
            show _ = _
            unfold isNum
            rw [all_bad hg hx]
            rfl
          clear hx hg
          go_wp2_with (go_at_call 115; refine q.mono ?_; rintro e w' ⟨rfl, rfl⟩)
          go_ret
          exact ⟨by rw [HN.out]; rfl, hB1⟩
        · have HN : Hid (((sb s).take (k + 1)).all isd = true) := all_take HA.out hg hx
          clear hx hg
          go_wp2_with (go_at_call 115; refine q.mono ?_; rintro e w' ⟨rfl, rfl⟩)
          go_roundw
          case rel => exact ⟨k + 1, by omega, HN, rfl⟩
          case measure => simp; omega
      · obtain ⟨r1, r2, r3, r4⟩ := rune_high s k hp (by omega)
        have hx : isd (s[k].toNat : Int) = false := by simp [isd]; omega
        have HN : Hid (isNum (sb s) = false) := by
          show _ = _
          unfold isNum
          rw [all_bad hg hx]
          rfl
        obtain ⟨r, n, hdec⟩ : ∃ r n, Utf8.decode s k = (r, n) := ⟨_, _, rfl⟩
        have hnx0 : ∀ ty, (Instr.next (.pointer (some ⟨w.heap.size, 0, none⟩)) true ty).run Tryz.prog (w.iter s k) = _ := fun ty => run_next_any w s k ty hp
        rw [hdec] at r1 r2 r3 r4 hnx0
        simp only at r1 r2 r3 r4 hnx0
        have hnx : ∀ ty, (Instr.next (.pointer (some ⟨w.heap.size, 0, none⟩)) true ty).run Tryz.prog (w.iter s k) = .ok (.tuple #[.bool true, .int .i64 k, .int .i32 r]) (w.iter s (k + n)) := hnx0
        have hB1 : Below w.heap.size w (w.iter s (k + n)) := (Below.refl _ _).alloc (Nat.le_refl _) _
        have q := digit_impl (w.iter s (k + n)) (r : Int)
        rw [show isd (r : Int) = false by simp [isd]; omega] at q
        clear hx hg hnx0 hdec r4
        go_wp2_with (go_at_call 115; refine q.mono ?_; rintro e w' ⟨rfl, rfl⟩)
        go_ret
        exact ⟨by rw [HN.out]; rfl, hB1⟩
    · have hnx : ∀ ty, (Instr.next (.pointer (some ⟨w.heap.size, 0, none⟩)) true ty).run Tryz.prog (w.iter s k) = _ := fun ty => run_next_end w s k ty hp
      have HT : Hid ((sb s).all isd = true) := by
        have h := HA.out
        rw [List.take_of_length_le (by rw [sb_len]; omega)] at h
        exact h
      clear HA
      by_cases h1 : s.toList = [48]
      · have HN : Hid (isNum (sb s) = true) := isNum_one h1
        go_wp2
        go_ret
        exact ⟨by rw [HN.out]; rfl, hB⟩
      · by_cases h2 : s.toList = []
        · have HN : Hid (isNum (sb s) = false) := isNum_nil h2
          go_wp2
          go_ret
          exact ⟨by rw [HN.out]; rfl, hB⟩
        · have h0 : 0 < s.size := by
            have h3 := toList_empty s
            by_cases h4 : s.size = 0
            · rw [decide_eq_true h4] at h3
              exact absurd (List.isEmpty_iff.1 h3) h2
            · omega
          have HN : Hid (isNum (sb s) = ((s[0].toNat : Int) != 48)) := isNum_more HT.out h1 h0
          obtain ⟨x, hx⟩ : ∃ x, ((s[0].toNat : Int) != 48) = x := ⟨_, rfl⟩
          have HX : Hid (((s[0].toNat : Int) != 48) = x) := hx
          go_wp2
          go_ret
          have b1 : (s.toList == [48]) = false := by simpa using h1
          have b2 : s.toList.isEmpty = false := by simpa using h2
          exact ⟨by rw [HN.out, HX.out]; simp [b1, b2], hB⟩

end Go.Proofs.YtbopliahafkecaaGreatDoor.Ver

/- Chapter 3, the landed code: parts of what stands behind a version, versions that are right. -/
namespace Go.Proofs.YtbopliahafkecaaGreatDoor.Ver
open Go.RowKit Go.Proofs.YtbopliahafkecaaGreatDoor.Mem Go.Proofs.YtbopliahafkecaaGreatDoor.Laws Go.Proofs.YtbopliahafkecaaGreatDoor.Bytes Go.Proofs.YtbopliahafkecaaGreatDoor.Sha
set_option linter.unusedVariables false
set_option linter.unusedSimpArgs false

/-- a letter -/
def isl (c : Int) : Bool := decide (97 ≤ c ∧ c ≤ 122) || decide (65 ≤ c ∧ c ≤ 90)
theorem psign_of (c : Int) : psign c = (isd c || isl c || decide (c = 45)) := by
  unfold psign isd isl
  generalize decide (97 ≤ c ∧ c ≤ 122) = x
  generalize decide (65 ≤ c ∧ c ≤ 90) = y
  generalize decide (48 ≤ c ∧ c ≤ 57) = z
  generalize decide (c = 45) = u
  cases x <;> cases y <;> cases z <;> rfl

set_option maxRecDepth 1000000 in
theorem letter_impl (w : World) (r : Int) : Calls Tryz.prog 138 #[.int .i32 r] w fun e w' => e = .returned (.bool (isl r)) ∧ w' = w := by
  by_cases h1 : 97 ≤ r
  · by_cases h2 : r ≤ 122
    · have HR : Hid (isl r = true) := by show _ = _; simp [isl, h1, h2]
      go_enter Tryz.func138, Tryz.ntmps138
      go_wp2
      go_ret
      exact ⟨by rw [HR.out]; rfl, rfl⟩
    · have HR : Hid (isl r = false) := by show _ = _; simp [isl]; omega
      have h3 : 65 ≤ r := by omega
      have h4 : ¬ r ≤ 90 := by omega
      go_enter Tryz.func138, Tryz.ntmps138
      go_wp2
      go_ret
      exact ⟨by rw [HR.out]; rfl, rfl⟩
  · by_cases h3 : 65 ≤ r
    · by_cases h4 : r ≤ 90
      · have HR : Hid (isl r = true) := by show _ = _; simp [isl, h3, h4]
        go_enter Tryz.func138, Tryz.ntmps138
        go_wp2
        go_ret
        exact ⟨by rw [HR.out]; rfl, rfl⟩
      · have HR : Hid (isl r = false) := by show _ = _; simp [isl]; omega
        go_enter Tryz.func138, Tryz.ntmps138
        go_wp2
        go_ret
        exact ⟨by rw [HR.out]; rfl, rfl⟩
    · have HR : Hid (isl r = false) := by show _ = _; simp [isl]; omega
      go_enter Tryz.func138, Tryz.ntmps138
      go_wp2
      go_ret
      exact ⟨by rw [HR.out]; rfl, rfl⟩

theorem allt {p : Int → Bool} {l : List Int} {k : Nat} {c : Int} (hc : l[k]? = some c) : (l.take (k + 1)).all p = ((l.take k).all p && p c) := by
  rw [take_snoc hc, List.all_append]
  simp

set_option maxRecDepth 1000000 in
set_option maxHeartbeats 2000000 in
theorem part_impl (w : World) (s : ByteArray) (hs : s.size ≤ 1000000000000) :
    Calls Tryz.prog 128 #[.string s] w fun e w' => e = .returned (.bool (part (sb s))) ∧ Below w.heap.size w w' := by
  have HPI : Hid (part (sb s) = (decide (1 ≤ s.size ∧ s.size ≤ 8) && (sb s).all psign && (!((sb s).all isd) || isNum (sb s)))) := by
    show _ = _
    rw [part_imp, sb_len]
  by_cases hz : s.size = 0
  · have b2 : s.toList.isEmpty = true := by rw [toList_empty]; simp [hz]
    have HN : Hid (part (sb s) = false) := by show _ = _; rw [HPI.out]; simp [hz]
    clear hz
    go_enter Tryz.func128, Tryz.ntmps128
    go_wp2
    go_ret
    exact ⟨by rw [HN.out]; rfl, Below.refl _ _⟩
  have b2 : s.toList.isEmpty = false := by rw [toList_empty]; simp [hz]
  by_cases h8 : 8 < s.size
  · have HN : Hid (part (sb s) = false) := by show _ = _; rw [HPI.out]; simp [h8]; omega
    go_enter Tryz.func128, Tryz.ntmps128
    go_wp2
    go_ret
    exact ⟨by rw [HN.out]; rfl, Below.refl _ _⟩
  have hz1 : 1 ≤ s.size := by omega
  have h81 : s.size ≤ 8 := by omega
  clear hz
  go_enter Tryz.func128, Tryz.ntmps128
  go_wp2
  go_loopw [3] (fun d wr => ∃ k : Nat, k ≤ s.size ∧ d = .bool (((sb s).take k).all isd) ∧ Hid (((sb s).take k).all psign = true) ∧ wr = w.iter s k) (fun _ wr => s.size - wr.iterPos w.heap.size)
  case atStart => exact ⟨0, Nat.zero_le _, rfl, rfl, rfl⟩
  case round =>
    obtain ⟨k, hk, rfl, HA, rfl⟩ := hrel
    have hB : Below w.heap.size w (w.iter s k) := (Below.refl _ _).alloc (Nat.le_refl _) _
    obtain ⟨dv, hdv⟩ : ∃ x, ((sb s).take k).all isd = x := ⟨_, rfl⟩
    have HD : Hid (((sb s).take k).all isd = dv) := hdv
    rw [hdv]
    clear hdv
    by_cases hp : k < s.size
    · have hg := sb_get s k hp
      by_cases ha : (s[k]'hp).toNat < 128
      · have hnx : ∀ ty, (Instr.next (.pointer (some ⟨w.heap.size, 0, none⟩)) true ty).run Tryz.prog (w.iter s k) = _ := fun ty => run_next_ascii w s k ty hp ha
        have hB1 : Below w.heap.size w (w.iter s (k + 1)) := (Below.refl _ _).alloc (Nat.le_refl _) _
        obtain ⟨x1, hx1⟩ : ∃ x, isd (s[k].toNat : Int) = x := ⟨_, rfl⟩
        obtain ⟨x2, hx2⟩ : ∃ x, isl (s[k].toNat : Int) = x := ⟨_, rfl⟩
        have q1 := digit_impl (w.iter s (k + 1)) (s[k].toNat : Int)
        have q2 := letter_impl (w.iter s (k + 1)) (s[k].toNat : Int)
        rw [hx1] at q1
        rw [hx2] at q2
        have HT : Hid (((sb s).take (k + 1)).all isd = (dv && x1)) := by show _ = _; rw [allt hg, HD.out, hx1]
        have HS : Hid (((sb s).take (k + 1)).all psign = (x1 || x2 || decide ((s[k].toNat : Int) = 45))) := by show _ = _; rw [allt hg, HA.out, psign_of, hx1, hx2, Bool.true_and]
        have HW : Hid ((x1 || x2 || decide ((s[k].toNat : Int) = 45)) = false → part (sb s) = false) := by
          intro hf
          rw [HPI.out]
          have : (sb s).all psign = false := all_bad hg (by rw [psign_of, hx1, hx2]; exact hf)
          rw [this]
          simp
        clear hg hx1 hx2
        cases dv
        · cases x1
          · cases x2
            · by_cases h45 : (s[k].toNat : Int) = 45
              · have d45 : ((s[k].toNat : Int) != 45) = false := by simpa using h45
                have HC : Hid ((s[k].toNat : Int) = 45) := h45
                clear h45
                go_wp2_with (first | (go_at_call 115; refine q1.mono ?_; rintro e w' ⟨rfl, rfl⟩) | (go_at_call 138; refine q2.mono ?_; rintro e w' ⟨rfl, rfl⟩))
                go_roundw
                case rel => exact ⟨k + 1, by omega, by rw [HT.out]; rfl, by show _ = _; rw [HS.out]; simp [HC.out], rfl⟩
                case measure => simp; omega
              · have d45 : ((s[k].toNat : Int) != 45) = true := by simpa using h45
                have HN : Hid (part (sb s) = false) := HW.out (by simp [h45])
                clear h45
                go_wp2_with (first | (go_at_call 115; refine q1.mono ?_; rintro e w' ⟨rfl, rfl⟩) | (go_at_call 138; refine q2.mono ?_; rintro e w' ⟨rfl, rfl⟩))
                go_ret
                exact ⟨by rw [HN.out]; rfl, hB1⟩
            · have HC : Hid True := trivial
              go_wp2_with (first | (go_at_call 115; refine q1.mono ?_; rintro e w' ⟨rfl, rfl⟩) | (go_at_call 138; refine q2.mono ?_; rintro e w' ⟨rfl, rfl⟩))
              go_roundw
              case rel => exact ⟨k + 1, by omega, by rw [HT.out]; rfl, by show _ = _; rw [HS.out]; simp [HC.out], rfl⟩
              case measure => simp; omega
          · have HC : Hid True := trivial
            go_wp2_with (first | (go_at_call 115; refine q1.mono ?_; rintro e w' ⟨rfl, rfl⟩) | (go_at_call 138; refine q2.mono ?_; rintro e w' ⟨rfl, rfl⟩))
            go_roundw
            case rel => exact ⟨k + 1, by omega, by rw [HT.out]; rfl, by show _ = _; rw [HS.out]; simp [HC.out], rfl⟩
            case measure => simp; omega
        · cases x1
          · cases x2
            · by_cases h45 : (s[k].toNat : Int) = 45
              · have d45 : ((s[k].toNat : Int) != 45) = false := by simpa using h45
                have HC : Hid ((s[k].toNat : Int) = 45) := h45
                clear h45
                go_wp2_with (first | (go_at_call 115; refine q1.mono ?_; rintro e w' ⟨rfl, rfl⟩) | (go_at_call 138; refine q2.mono ?_; rintro e w' ⟨rfl, rfl⟩))
                go_roundw
                case rel => exact ⟨k + 1, by omega, by rw [HT.out]; rfl, by show _ = _; rw [HS.out]; simp [HC.out], rfl⟩
                case measure => simp; omega
              · have d45 : ((s[k].toNat : Int) != 45) = true := by simpa using h45
                have HN : Hid (part (sb s) = false) := HW.out (by simp [h45])
                clear h45
                go_wp2_with (first | (go_at_call 115; refine q1.mono ?_; rintro e w' ⟨rfl, rfl⟩) | (go_at_call 138; refine q2.mono ?_; rintro e w' ⟨rfl, rfl⟩))
                go_ret
                exact ⟨by rw [HN.out]; rfl, hB1⟩
            · have HC : Hid True := trivial
              go_wp2_with (first | (go_at_call 115; refine q1.mono ?_; rintro e w' ⟨rfl, rfl⟩) | (go_at_call 138; refine q2.mono ?_; rintro e w' ⟨rfl, rfl⟩))
              go_roundw
              case rel => exact ⟨k + 1, by omega, by rw [HT.out]; rfl, by show _ = _; rw [HS.out]; simp [HC.out], rfl⟩
              case measure => simp; omega
          · have HC : Hid True := trivial
            go_wp2_with (first | (go_at_call 115; refine q1.mono ?_; rintro e w' ⟨rfl, rfl⟩) | (go_at_call 138; refine q2.mono ?_; rintro e w' ⟨rfl, rfl⟩))
            go_roundw
            case rel => exact ⟨k + 1, by omega, by rw [HT.out]; rfl, by show _ = _; rw [HS.out]; simp [HC.out], rfl⟩
            case measure => simp; omega
      · obtain ⟨r1, r2, r3, r4⟩ := rune_high s k hp (by omega)
        have HN : Hid (part (sb s) = false) := by
          show _ = _
          rw [HPI.out]
          have : (sb s).all psign = false := all_bad hg (by rw [psign_of]; simp [isd, isl]; omega)
          rw [this]
          simp
        obtain ⟨r, n, hdec⟩ : ∃ r n, Utf8.decode s k = (r, n) := ⟨_, _, rfl⟩
        have hnx0 : ∀ ty, (Instr.next (.pointer (some ⟨w.heap.size, 0, none⟩)) true ty).run Tryz.prog (w.iter s k) = _ := fun ty => run_next_any w s k ty hp
        rw [hdec] at r1 r2 r3 r4 hnx0
        simp only at r1 r2 r3 r4 hnx0
        have hnx : ∀ ty, (Instr.next (.pointer (some ⟨w.heap.size, 0, none⟩)) true ty).run Tryz.prog (w.iter s k) = .ok (.tuple #[.bool true, .int .i64 k, .int .i32 r]) (w.iter s (k + n)) := hnx0
        have hB1 : Below w.heap.size w (w.iter s (k + n)) := (Below.refl _ _).alloc (Nat.le_refl _) _
        have q1 := digit_impl (w.iter s (k + n)) (r : Int)
        rw [show isd (r : Int) = false by simp [isd]; omega] at q1
        have q2 := letter_impl (w.iter s (k + n)) (r : Int)
        rw [show isl (r : Int) = false by simp [isl]; omega] at q2
        have d45 : ((r : Int) != 45) = true := by simp; omega
        clear hg hnx0 hdec r4
        go_wp2_with (first | (go_at_call 115; refine q1.mono ?_; rintro e w' ⟨rfl, rfl⟩) | (go_at_call 138; refine q2.mono ?_; rintro e w' ⟨rfl, rfl⟩))
        go_ret
        exact ⟨by rw [HN.out]; rfl, hB1⟩
    · have hnx : ∀ ty, (Instr.next (.pointer (some ⟨w.heap.size, 0, none⟩)) true ty).run Tryz.prog (w.iter s k) = _ := fun ty => run_next_end w s k ty hp
      have HN : Hid (part (sb s) = (!dv || isNum (sb s))) := by
        show _ = _
        have h1 := HA.out
        have h2 := HD.out
        rw [List.take_of_length_le (by rw [sb_len]; omega)] at h1 h2
        rw [HPI.out, h1, h2]
        simp [hz1, h81]
      clear HA HD
      have q := number_impl (w.iter s k) s hs
      cases dv
      · go_wp2_with (go_at_call 92; refine q.mono ?_; rintro e w' ⟨rfl, bq⟩)
        go_ret
        exact ⟨by rw [HN.out]; rfl, hB⟩
      · go_wp2_with (go_at_call 92; refine q.mono ?_; rintro e w' ⟨rfl, bq⟩)
        go_ret
        exact ⟨by rw [HN.out]; rfl, hB.trans (bq.mono hB.size)⟩

end Go.Proofs.YtbopliahafkecaaGreatDoor.Ver

/- Chapter 3, the landed code: versions that are right. -/
namespace Go.Proofs.YtbopliahafkecaaGreatDoor.Ver
open Go.RowKit Go.Proofs.YtbopliahafkecaaGreatDoor.Mem Go.Proofs.YtbopliahafkecaaGreatDoor.Laws Go.Proofs.YtbopliahafkecaaGreatDoor.Bytes Go.Proofs.YtbopliahafkecaaGreatDoor.Sha
set_option linter.unusedVariables false
set_option linter.unusedSimpArgs false

set_option maxRecDepth 1000000 in
set_option maxHeartbeats 1000000 in
theorem pre_impl (w : World) (s : ByteArray) (hs : s.size ≤ 1000000000000) :
    Calls Tryz.prog 107 #[.string s] w fun e w' => e = .returned (.bool (pre (sb s))) ∧ Below w.heap.size w w' := by
  go_enter Tryz.func107, Tryz.ntmps107
  go_wp2_with fail
  refine (parts_impl w s 46 (by omega) (by omega) hs).mono ?_
  rintro e w1 ⟨v1, rfl, o1, b1⟩
  obtain ⟨T, hT⟩ : ∃ T, T = splitT 46 s := ⟨_, rfl⟩
  have hTs := splitT_size 46 s
  have hTl := splitT_len 46 s
  have hTm := splitT_sb 46 s
  rw [← hT] at o1 hTs hTl hTm
  have hT0 : 0 < T.length := by
    have := splitL_pos 46 (sb s) []
    have h2 : T.length = (split 46 (sb s)).length := by rw [← hTm, List.length_map]
    rw [h2]; exact this
  have HP : Hid (pre (sb s) = (T.all (fun t => part (sb t)) && decide (T.length ≤ 4))) := by
    show _ = _
    unfold pre
    rw [← hTm, List.all_map, List.length_map]
    rfl
  obtain ⟨g, cap, rfl, hg1, hg2, hcap, hc⟩ := ownForm o1 (by rw [ss_len]; exact hT0)
  rw [ss_len] at hcap hc
  rw [ss_len]
  have HC : Hid (∀ j, j < T.length → w1.cell? ⟨g, j, none⟩ = (ss T)[j]?) := hc
  have HTs : Hid (∀ t ∈ T, t.size ≤ s.size) := hTs
  clear hT hTs hTm hc o1
  by_cases h4 : 4 < T.length
  · have HN : Hid (pre (sb s) = false) := by
      show _ = _
      rw [HP.out, decide_eq_false (by omega)]
      simp
    go_wp2
    go_ret
    exact ⟨by rw [HN.out]; rfl, b1⟩
  have h41 : T.length ≤ 4 := by omega
  go_wp2
  go_loopw [13] (fun i wr => ∃ k : Nat, k ≤ T.length ∧ i = .int .i64 (k : Int) ∧ Hid ((T.take k).all (fun t => part (sb t)) = true) ∧ Below w1.heap.size w1 wr) (fun i _ => T.length - (intOf i).toNat)
  case atStart => exact ⟨0, Nat.zero_le _, rfl, rfl, Below.refl _ _⟩
  case round =>
    obtain ⟨k, hk, rfl, HA, hb⟩ := hrel
    have s1 := hb.size
    have s2 := b1.size
    by_cases hlt : k < T.length
    · obtain ⟨t, ht⟩ : ∃ t, T[k]? = some t := ⟨T[k], by simp [hlt]⟩
      have hcell : wr.cell? ⟨g, k, none⟩ = some (.string t) := by rw [hb.cell (p := ⟨g, k, none⟩) hg2, HC.out k hlt, ss_get, ht]; rfl
      have htm := HTs.out t (List.mem_of_getElem? ht)
      have HT : Hid (T[k]? = some t) := ht
      have q := part_impl wr t (by omega)
      obtain ⟨pb, hpb⟩ : ∃ b, part (sb t) = b := ⟨_, rfl⟩
      have HB : Hid (part (sb t) = pb) := hpb
      rw [hpb] at q
      clear ht hpb
      cases pb
      · have HN : Hid (pre (sb s) = false) := by
          show _ = _
          rw [HP.out]
          have : T.all (fun t => part (sb t)) = false := by
            rw [List.all_eq_false]
            exact ⟨t, List.mem_of_getElem? HT.out, by simp [HB.out]⟩
          rw [this]; rfl
        go_wp2_with (go_at_call 128; refine q.mono ?_; rintro e w' ⟨rfl, bq⟩)
        go_ret
        exact ⟨by rw [HN.out]; rfl, (b1.trans (hb.mono s2)).trans (bq.mono (Nat.le_trans s2 s1))⟩
      · have HN : Hid ((T.take (k + 1)).all (fun t => part (sb t)) = true) := by
          show _ = _
          rw [List.take_succ_eq_append_getElem hlt, List.all_append, HA.out]
          have : T[k] = t := by have := HT.out; rw [List.getElem?_eq_getElem hlt] at this; simpa using this
          simp [this, HB.out]
        go_wp2_with (go_at_call 128; refine q.mono ?_; rintro e w' ⟨rfl, bq⟩)
        go_roundw
        case rel => exact ⟨k + 1, by omega, by go_num, HN, hb.trans (bq.mono s1)⟩
        case measure => simp [intOf]; omega
    · have HN : Hid (pre (sb s) = true) := by
        show _ = _
        have h1 := HA.out
        rw [List.take_of_length_le (by omega)] at h1
        rw [HP.out, h1, decide_eq_true h41]
        rfl
      go_wp2
      go_ret
      exact ⟨by rw [HN.out]; rfl, b1.trans (hb.mono s2)⟩

set_option maxRecDepth 1000000 in
theorem partok_impl (w : World) (r : Int) : Calls Tryz.prog 106 #[.int .i64 r] w fun e w' => e = .returned (.bool (decide (0 ≤ r ∧ r ≤ 1000000))) ∧ w' = w := by
  by_cases h1 : 0 ≤ r
  · by_cases h2 : r ≤ 1000000
    · have HR : Hid (decide (0 ≤ r ∧ r ≤ 1000000) = true) := by show _ = _; simp [h1, h2]
      go_enter Tryz.func106, Tryz.ntmps106
      go_wp2
      go_ret
      exact ⟨by simp [h1, h2], rfl⟩
    · have HR : Hid (decide (0 ≤ r ∧ r ≤ 1000000) = false) := by show _ = _; simp [h2]
      go_enter Tryz.func106, Tryz.ntmps106
      go_wp2
      go_ret
      exact ⟨by simp [h1, h2], rfl⟩
  · have HR : Hid (decide (0 ≤ r ∧ r ≤ 1000000) = false) := by show _ = _; simp [h1]
    go_enter Tryz.func106, Tryz.ntmps106
    go_wp2
    go_ret
    exact ⟨by simp [h1]; omega, rfl⟩

set_option maxRecDepth 1000000 in
set_option maxHeartbeats 1000000 in
theorem ok_impl (w : World) (a b c : Int) (p : ByteArray) (hp : p.size ≤ 1000000000000) :
    Calls Tryz.prog 83 #[ver a b c p] w fun e w' => e = .returned (.bool (okV a b c p)) ∧ Below w.heap.size w w' := by
  obtain ⟨b1, e1⟩ : ∃ x, decide ((0 : Int) ≤ a ∧ a ≤ 1000000) = x := ⟨_, rfl⟩
  obtain ⟨b2, e2⟩ : ∃ x, decide ((0 : Int) ≤ b ∧ b ≤ 1000000) = x := ⟨_, rfl⟩
  obtain ⟨b3, e3⟩ : ∃ x, decide ((0 : Int) ≤ c ∧ c ≤ 1000000) = x := ⟨_, rfl⟩
  obtain ⟨b4, e4⟩ : ∃ x, decide (p.size = 0) = x := ⟨_, rfl⟩
  have he : p.toList.isEmpty = b4 := by rw [toList_empty, e4]
  obtain ⟨b5, e5⟩ : ∃ x, pre (sb p) = x := ⟨_, rfl⟩
  have HO : Hid (okV a b c p = (b1 && b2 && b3 && (b4 || b5))) := by show _ = _; unfold okV inM; rw [e1, e2, e3, e4, e5]
  have q := pre_impl (w.alloc (.cells #[.int .i64 a, .int .i64 b, .int .i64 c, .string p] 45)) p hp
  rw [e5] at q
  have hB : Below w.heap.size w (w.alloc (.cells #[.int .i64 a, .int .i64 b, .int .i64 c, .string p] 45)) := (Below.refl _ _).alloc (Nat.le_refl _) _
  have HB : Hid _ := hB
  clear e4 e5 hB
  unfold ver
  cases b1
  · go_enter Tryz.func83, Tryz.ntmps83
    go_wp2_with (go_at_call 106; refine (partok_impl _ _).mono ?_; rintro e w' ⟨rfl, rfl⟩; first | rw [e1] | rw [e2] | rw [e3])
    go_ret
    exact ⟨by rw [HO.out]; rfl, HB.out⟩
  · cases b2
    · go_enter Tryz.func83, Tryz.ntmps83
      go_wp2_with (go_at_call 106; refine (partok_impl _ _).mono ?_; rintro e w' ⟨rfl, rfl⟩; first | rw [e1] | rw [e2] | rw [e3])
      go_ret
      exact ⟨by rw [HO.out]; rfl, HB.out⟩
    · cases b3
      · go_enter Tryz.func83, Tryz.ntmps83
        go_wp2_with (go_at_call 106; refine (partok_impl _ _).mono ?_; rintro e w' ⟨rfl, rfl⟩; first | rw [e1] | rw [e2] | rw [e3])
        go_ret
        exact ⟨by rw [HO.out]; rfl, HB.out⟩
      · cases b4
        · go_enter Tryz.func83, Tryz.ntmps83
          go_wp2_with (first | (go_at_call 106; refine (partok_impl _ _).mono ?_; rintro e w' ⟨rfl, rfl⟩; first | rw [e1] | rw [e2] | rw [e3]) | (go_at_call 107; refine q.mono ?_; rintro e w' ⟨rfl, bq⟩))
          go_ret
          exact ⟨by rw [HO.out]; rfl, HB.out.trans (bq.mono (by simp))⟩
        · go_enter Tryz.func83, Tryz.ntmps83
          go_wp2_with (go_at_call 106; refine (partok_impl _ _).mono ?_; rintro e w' ⟨rfl, rfl⟩; first | rw [e1] | rw [e2] | rw [e3])
          go_ret
          exact ⟨by rw [HO.out]; rfl, HB.out⟩

end Go.Proofs.YtbopliahafkecaaGreatDoor.Ver
