/- Texts in one: ModT, ModV, ModW, ModY. -/
import Derived.Test.YtljlcelbhlkmcabGreatDoorPk30
import Derived.Test.YtljlcelbhlkmcabGreatDoorPk23
import Derived.Test.YtljlcelbhlkmcabGreatDoorPk20
import Derived.Test.YtljlcelbhlkmcabGreatDoorPk7
import Derived.Lib.Strings
import Derived.Lib.Walk
import Derived.Lib.BufferWrite
import Derived.Lib.UnsafeStr
import Derived.Lib.Hide
import Derived.Laws.MakeOwn
/- Chapter 4, the landed code: what the library cuts off behind, and what it copies; plain facts of a path's last part. -/
namespace Go.Proofs.YtljlcelbhlkmcabGreatDoor.Mod
open Go.RowKit Go.Proofs.YtljlcelbhlkmcabGreatDoor.Mem Go.Proofs.YtljlcelbhlkmcabGreatDoor.Laws Go.Proofs.YtljlcelbhlkmcabGreatDoor.Bytes Go.Proofs.YtljlcelbhlkmcabGreatDoor.Sha Go.Proofs.YtljlcelbhlkmcabGreatDoor.Ver
set_option linter.unusedVariables false
set_option linter.unusedSimpArgs false

theorem isNum_digs4 {l : List Int} (h : isNum l = true) : l.all isd = true ∧ l ≠ [] ∧ (1 < l.length → l.head? ≠ some 48) := by
  unfold isNum at h
  rw [Bool.and_eq_true, Bool.or_eq_true] at h
  obtain ⟨h1, h2⟩ := h
  refine ⟨h1, ?_, ?_⟩
  · rintro rfl
    simp at h2
  · intro hl
    rcases h2 with h2 | h2
    · have : l = [48] := by simpa using h2
      rw [this] at hl
      simp at hl
    · simp at h2
      exact h2.2
/-- the number that a last part tells, by the landed code's reading -/
theorem in4_upTo (l : List Int) : in4 (number l) = if (upTo l 1000).2 = true ∧ 2 ≤ (upTo l 1000).1 then (upTo l 1000).1 else 0 := by
  by_cases hn : isNum l = true
  · obtain ⟨ha, h0, hh⟩ := isNum_digs4 hn
    have hp : 0 < l.length := List.length_pos_iff.2 h0
    by_cases h8 : l.length ≤ 8
    · have hnum : number l = numv l := by
        unfold number digs
        rw [if_neg]
        rw [ha, List.isEmpty_eq_false_iff.2 h0]
        rintro (h | h | h)
        · simp at h
        · omega
        · exact hh h.1 h.2
      by_cases hm : numv l ≤ 1000
      · have hu : upTo l 1000 = (numv l, true) := by unfold upTo; rw [if_pos ⟨hn, hm⟩]
        rw [hu, hnum]
        unfold in4
        by_cases h2 : 2 ≤ numv l
        · rw [if_pos ⟨h2, hm⟩, if_pos ⟨rfl, h2⟩]
        · rw [if_neg (fun h => h2 h.1), if_neg (fun h => h2 h.2)]
      · have hu : upTo l 1000 = (0, false) := by unfold upTo; rw [if_neg (fun h => hm h.2)]
        rw [hu, hnum]
        unfold in4
        rw [if_neg (fun h => hm h.2), if_neg (by simp)]
    · have hb := numv_big (l.length - 1) l (by omega) ha (hh (by omega))
      have h8' : (10 : Int) ^ 8 ≤ 10 ^ (l.length - 1) := pow_le (by omega)
      have hu : upTo l 1000 = (0, false) := by unfold upTo; rw [if_neg (fun h => by have := h.2; omega)]
      have hnum : number l = -1 := by unfold number; rw [if_pos (.inr (.inl (by omega)))]
      rw [hu, hnum]
      rfl
  · have hu : upTo l 1000 = (0, false) := by unfold upTo; rw [if_neg (fun h => hn h.1)]
    have hnum : number l < 0 := by
      by_cases h8 : l.length ≤ 8
      · have := isNum_number h8
        rw [Bool.eq_false_iff.2 hn] at this
        have := of_decide_eq_false this.symm
        omega
      · unfold number
        rw [if_pos (.inr (.inl (by omega)))]
        omega
    rw [hu]
    unfold in4
    rw [if_neg (by omega), if_neg (by simp)]

/-- a text's last part, and what stands before it -/
theorem last_form (s : ByteArray) : ((splitT 47 s).length < 2 ∧ (lastT s).size = s.size) ∨ (2 ≤ (splitT 47 s).length ∧ ∃ q, sb s = q ++ [47] ++ sb (lastT s)) := by
  have hT := splitT_sb 47 s
  by_cases hin : (47 : Int) ∈ sb s
  · right
    obtain ⟨q, r, hs, hr⟩ := last_of 47 _ hin
    have hsp : split 47 (sb s) = split 47 q ++ [r] := by
      unfold split
      rw [hs, splitL_app, splitL_none 47 r [] hr]
      simp
    have hlast : sb (lastT s) = r := by
      have h4 : (splitT 47 s).map sb = split 47 q ++ [r] := by rw [hT, hsp]
      have h5 : ((splitT 47 s).map sb).getLast? = some r := by rw [h4]; simp
      rw [List.getLast?_map] at h5
      unfold lastT
      cases hg : (splitT 47 s).getLast? with
      | none => rw [hg] at h5; simp at h5
      | some x => rw [hg] at h5; simpa using h5
    have hl : (splitT 47 s).length = (split 47 q).length + 1 := by rw [← List.length_map (f := sb), hT, hsp]; simp
    have hq : 0 < (split 47 q).length := by
      have := splitT_pos 47 (Plain.txt q)
      have hb : Byt q := by
        have := sb_byt s
        rw [hs] at this
        exact fun x hx => this x (by simp [hx])
      have h6 := splitT_sb 47 (Plain.txt q)
      rw [sb_txtv hb] at h6
      rw [← h6, List.length_map]
      exact this
    exact ⟨by omega, q, by rw [hlast]; exact hs⟩
  · left
    have : split 47 (sb s) = [sb s] := by
      unfold split
      rw [splitL_none 47 _ _ (fun x hx e => hin (e ▸ hx))]
      simp
    have h3 : splitT 47 s = [s] := by unfold splitT; rw [this]; simp [txt_sbv]
    refine ⟨by rw [h3]; simp, ?_⟩
    unfold lastT
    rw [h3]
    rfl

set_option maxRecDepth 1000000 in
set_option maxHeartbeats 1000000 in
theorem hassuf_no (w : World) (s t : ByteArray) (hs : s.size ≤ 1000000000000) (h : s.size < t.size) (ht : t.size ≤ 1000000000000) : Calls Tryz.prog 127 #[.string s, .string t] w fun e w' => e = .returned (.bool false) ∧ w' = w := by
  have h1 : ¬ t.size ≤ s.size := by omega
  go_enter Tryz.func127, Tryz.ntmps127
  go_wp2
  go_ret
  exact ⟨rfl, rfl⟩

set_option maxRecDepth 1000000 in
set_option maxHeartbeats 1000000 in
theorem hassuf_yes (w : World) (s t : ByteArray) (hs : s.size ≤ 1000000000000) (h : t.size ≤ s.size) (he : s.extract (s.size - t.size) s.size = t) : Calls Tryz.prog 127 #[.string s, .string t] w fun e w' => e = .returned (.bool true) ∧ w' = w := by
  have e1 : ((s.size : Int) - (t.size : Int)).toNat = s.size - t.size := by omega
  have e2 : ((s.extract (s.size - t.size) s.size).toList == t.toList) = true := by rw [he]; simp
  clear he
  go_enter Tryz.func127, Tryz.ntmps127
  go_wp2
  go_ret
  exact ⟨rfl, rfl⟩

set_option maxRecDepth 1000000 in
set_option maxHeartbeats 1000000 in
theorem cuts_no (w : World) (s t : ByteArray) (hs : s.size ≤ 1000000000000) (h : s.size < t.size) (ht : t.size ≤ 1000000000000) : Calls Tryz.prog 115 #[.string s, .string t] w fun e w' => e = .returned (.tuple #[.string s, .bool false]) ∧ w' = w := by
  have q := hassuf_no w s t hs h ht
  go_enter Tryz.func115, Tryz.ntmps115
  go_wp2_with (first | (go_at_call 127; refine q.mono ?_; rintro e w' ⟨rfl, rfl⟩) | go_in)
  go_ret2
  exact ⟨rfl, rfl⟩

set_option maxRecDepth 1000000 in
set_option maxHeartbeats 1000000 in
theorem cuts_yes (w : World) (s t : ByteArray) (hs : s.size ≤ 1000000000000) (h : t.size ≤ s.size) (he : s.extract (s.size - t.size) s.size = t) : Calls Tryz.prog 115 #[.string s, .string t] w fun e w' => e = .returned (.tuple #[.string (s.extract 0 (s.size - t.size)), .bool true]) ∧ w' = w := by
  have q := hassuf_yes w s t hs h he
  have e1 : ((s.size : Int) - (t.size : Int)).toNat = s.size - t.size := by omega
  clear he
  go_enter Tryz.func115, Tryz.ntmps115
  go_wp2_with (first | (go_at_call 127; refine q.mono ?_; rintro e w' ⟨rfl, rfl⟩) | go_in)
  go_ret2
  exact ⟨rfl, rfl⟩

end Go.Proofs.YtljlcelbhlkmcabGreatDoor.Mod

/- Chapter 4, the landed code: a copy of a text; a path cut before its last part. -/
namespace Go.Proofs.YtljlcelbhlkmcabGreatDoor.Mod
open Go.RowKit Go.Proofs.YtljlcelbhlkmcabGreatDoor.Mem Go.Proofs.YtljlcelbhlkmcabGreatDoor.Laws Go.Proofs.YtljlcelbhlkmcabGreatDoor.Bytes Go.Proofs.YtljlcelbhlkmcabGreatDoor.Sha Go.Proofs.YtljlcelbhlkmcabGreatDoor.Ver
set_option linter.unusedVariables false
set_option linter.unusedSimpArgs false

set_option maxHeartbeats 4000000 in
set_option maxRecDepth 100000 in
theorem clone_lite (w : World) (s : ByteArray) (hlim : s.size ≤ 1000000000000) :
    Calls Tryz.prog 60 #[.string s] w fun e w' => e = .returned (.string s) ∧ Below w.heap.size w w' := by
  by_cases h0 : s.size = 0
  · have hs : s = ⟨#[]⟩ := by
      apply ByteArray.ext
      exact Array.eq_empty_of_size_eq_zero h0
    subst hs
    go_enter Tryz.func60, Tryz.ntmps60
    go_wp2
    go_ret
    exact ⟨rfl, Below.refl _ _⟩
  · obtain ⟨i0, hi, hz0, hz1, hz2⟩ := info_parts info5
    have hinfo : (Tryz.prog.info? 5).map (·.size) = some 1 := by rw [hi]; simp [hz1]
    have hco : Tryz.prog.cellsOf 5 = 1 := by simp [Program.cellsOf, hi, hz1]
    obtain ⟨M, hM⟩ : ∃ M, M = madeCells (Value.int .u8 0).cells (((s.size : Nat) : Int).toNat * i0.size) := ⟨_, rfl⟩
    have hMs : M.size = s.size := by rw [hM, size_madeCells, hz1]; simp
    have hmk : ∀ W : World, (Instr.makeSlice 22 (.int .i64 (s.size : Int)) (.int .i64 (s.size : Int))).run Tryz.prog W = .ok (.slice (some ⟨W.heap.size, 0, none⟩) s.size s.size) (W.alloc (.cells M 5)) := fun W => by
      have h := run_make (P := Tryz.prog) W 22 5 i0 (.int .u8 0) Tryz.underlying22 hi hz0 .i64 .i64 (s.size : Int) (s.size : Int) (by omega) (by omega) (by rw [hz2]; omega) (by omega)
      rw [← hM] at h
      simpa using h
    clear hM
    have hcp := Lib.run_copy_row_string (P := Tryz.prog) (w.alloc (.cells M 5)) 22 9 3 5 w.heap.size 0 s.size s.size s M 5 Tryz.underlying22 hinfo (heap_alloc_new w _) (Nat.le_refl _) (by omega)
    obtain ⟨Y, hY⟩ : ∃ Y, Y = (M.toList.take 0 ++ Lib.byteCells s.data.toList ++ M.toList.drop (0 + s.size)).toArray := ⟨_, rfl⟩
    rw [← hY] at hcp
    have hYl : Y.toList = Lib.byteCells s.data.toList := by
      rw [hY, List.toList_toArray, List.take_zero, List.nil_append, List.drop_of_length_le (by rw [Array.length_toList]; omega), List.append_nil]
    have hYs : Y.size = s.size := by rw [← Array.length_toList, hYl, Lib.byteCells_length, ← Lib.size_eq]
    have hgY : ((w.alloc (.cells M 5)).setRow w.heap.size Y).heap[w.heap.size]? = some (.cells Y 5 (0, 0)) := setRow_heap _ _ M _ 5 (0, 0) (heap_alloc_new w _)
    have hne : s.data.toList ≠ [] := fun e => h0 (by rw [Lib.size_eq, e]; rfl)
    have hUS := Lib.run_unsafeString_row (P := Tryz.prog) ((w.alloc (.cells M 5)).setRow w.heap.size Y) 116 3 9 5 Tryz.underlying116 hco w.heap.size Y.size (by unfold World.shape?; rw [hgY]) s.data.toList hne (by rw [← Lib.size_eq]; omega) (by rw [← Lib.size_eq]; omega)
      (fun j x hx => Lib.cells_of_row hgY Y.size j _ (by rw [List.take_of_length_le (by rw [Array.length_toList]; exact Nat.le_refl _), hYl]; simp [Lib.byteCells, hx]))
    rw [← Lib.size_eq] at hUS
    clear hY
    go_enter Tryz.func60, Tryz.ntmps60
    go_wp2
    go_ret
    have hb1 : Below w.heap.size w (w.alloc (.cells M 5)) := (Below.refl _ w).alloc (Nat.le_refl _) _
    have hb2 : Below w.heap.size (w.alloc (.cells M 5)) ((w.alloc (.cells M 5)).setRow w.heap.size Y) := ⟨rfl, rfl, rfl, by simp, fun k hk => setRow_other _ _ _ _ (by omega)⟩
    exact ⟨rfl, Lib.below_freeze (hb1.trans hb2) (p := ⟨w.heap.size, 0, none⟩) (Nat.le_refl _) _⟩

set_option maxRecDepth 100000 in
theorem clone_impl (w : World) (s : ByteArray) (hlim : s.size ≤ 1000000000000) :
    Calls Tryz.prog 30 #[.string s] w fun e w' => e = .returned (.string s) ∧ Below w.heap.size w w' := by
  have q := clone_lite w s hlim
  go_enter Tryz.func30, Tryz.ntmps30
  go_wp2_with (go_at_call 60; refine q.mono ?_; rintro e w' ⟨rfl, b1⟩)
  go_ret
  exact ⟨rfl, b1⟩

/-- what the landed code cuts a path into -/
def cutB (s : ByteArray) : ByteArray := if maj4 s = 0 then s else s.extract 0 (s.size - (1 + (lastT s).size))
def cutN (s : ByteArray) : Int := if maj4 s = 0 then 1 else maj4 s

theorem cutB_base {s : ByteArray} (hp : path4 (sb s) = true) : base4 s = cutB s := by
  unfold base4 cutB
  rw [if_pos hp]
  by_cases h0 : maj4 s = 0
  · rw [if_pos h0, if_pos h0]
  · rw [if_neg h0, if_neg h0]
    obtain ⟨q, d, h1, h2, h3, h4, _⟩ := maj4_form h0
    have hlast : sb (lastT s) = [118] ++ d := by
      have hT := splitT_sb 47 s
      have h5 : ((splitT 47 s).map sb).getLast? = some ([118] ++ d) := by rw [hT, h2]; simp
      rw [List.getLast?_map] at h5
      unfold lastT
      cases hg : (splitT 47 s).getLast? with
      | none => rw [hg] at h5; simp at h5
      | some x => rw [hg] at h5; simpa using h5
    have hz : (lastT s).size = d.length + 1 := by rw [← sb_len, hlast]; simp
    rw [h4, hz]
    congr 1
    omega

/-- the number by the landed code's tests -/
theorem maj4_tests (s : ByteArray) : maj4 s = if 2 ≤ (splitT 47 s).length ∧ vAt (lastT s) = true ∧ (upTo (sb (vOff (lastT s))) 1000).2 = true ∧ 2 ≤ (upTo (sb (vOff (lastT s))) 1000).1 then (upTo (sb (vOff (lastT s))) 1000).1 else 0 := by
  unfold maj4
  by_cases h1 : 2 ≤ (splitT 47 s).length
  · by_cases h2 : vAt (lastT s) = true
    · have h2' : (sb (lastT s)).head? = some 118 := by unfold vAt at h2; exact of_decide_eq_true h2
      have h3 : vOff (lastT s) = (lastT s).extract 1 (lastT s).size := by unfold vOff; rw [if_pos h2]
      rw [if_neg (by rintro (h | h); omega; exact h h2'), in4_upTo, h3]
      by_cases h4 : (upTo (sb ((lastT s).extract 1 (lastT s).size)) 1000).2 = true ∧ 2 ≤ (upTo (sb ((lastT s).extract 1 (lastT s).size)) 1000).1
      · rw [if_pos h4, if_pos ⟨h1, h2, h4⟩]
      · rw [if_neg h4, if_neg (fun h => h4 h.2.2)]
    · have h2' : (sb (lastT s)).head? ≠ some 118 := by intro h; apply h2; unfold vAt; exact decide_eq_true h
      rw [if_pos (.inr h2'), if_neg (fun h => h2 h.2.1)]
  · rw [if_pos (.inl (by omega)), if_neg (fun h => h1 h.1)]

def slashed (t : ByteArray) : ByteArray := ⟨#[47]⟩ ++ t
theorem slashed_size (t : ByteArray) : (slashed t).size = 1 + t.size := by unfold slashed; simp; rfl
theorem slashed_sb (t : ByteArray) : sb (slashed t) = [47] ++ sb t := by unfold slashed sb; simp

theorem suffix_of {s : ByteArray} {q : List Int} (h : sb s = q ++ [47] ++ sb (lastT s)) : (slashed (lastT s)).size ≤ s.size ∧ s.extract (s.size - (slashed (lastT s)).size) s.size = slashed (lastT s) := by
  have hz := slashed_size (lastT s)
  have hl := congrArg List.length h
  rw [sb_len] at hl
  simp [sb_len] at hl
  refine ⟨by omega, ?_⟩
  have e : s.size - (slashed (lastT s)).size = q.length := by omega
  rw [e, ext_txt]
  have h2 : ((sb s).drop q.length).take (s.size - q.length) = sb (slashed (lastT s)) := by
    rw [slashed_sb, h, List.append_assoc, List.drop_left, List.take_of_length_le]
    simp [sb_len]
    omega
  rw [h2]
  exact txt_sbv _

end Go.Proofs.YtljlcelbhlkmcabGreatDoor.Mod

/- Chapter 4, the landed code: a path cut before its last part; a path's number, its base, what fits it. -/
namespace Go.Proofs.YtljlcelbhlkmcabGreatDoor.Mod
open Go.RowKit Go.Proofs.YtljlcelbhlkmcabGreatDoor.Mem Go.Proofs.YtljlcelbhlkmcabGreatDoor.Laws Go.Proofs.YtljlcelbhlkmcabGreatDoor.Bytes Go.Proofs.YtljlcelbhlkmcabGreatDoor.Sha Go.Proofs.YtljlcelbhlkmcabGreatDoor.Ver
set_option linter.unusedVariables false
set_option linter.unusedSimpArgs false

theorem suf_impl (s : ByteArray) (hs : s.size ≤ 60) : ∃ (f : ByteArray) (m : Bool), (∀ W, Calls Tryz.prog 115 #[.string s, .string (⟨#[47]⟩ ++ lastT s)] W fun e w' => e = .returned (.tuple #[.string f, .bool m]) ∧ w' = W) ∧
    ((m = false ∧ ¬ 2 ≤ (splitT 47 s).length) ∨ (m = true ∧ 2 ≤ (splitT 47 s).length ∧ f = s.extract 0 (s.size - (1 + (lastT s).size)))) := by
  have hz := slashed_size (lastT s)
  rcases last_form s with ⟨h1, h2⟩ | ⟨h1, q, h2⟩
  · exact ⟨s, false, fun W => cuts_no W s (slashed (lastT s)) (by omega) (by omega) (by omega), .inl ⟨rfl, by omega⟩⟩
  · obtain ⟨h3, h4⟩ := suffix_of h2
    refine ⟨_, true, fun W => cuts_yes W s (slashed (lastT s)) (by omega) h3 h4, .inr ⟨rfl, h1, by rw [hz]⟩⟩

theorem lastT_size (s : ByteArray) : (lastT s).size ≤ s.size := by
  rcases last_form s with ⟨h1, h2⟩ | ⟨h1, q, h2⟩
  · omega
  · have hl := congrArg List.length h2
    rw [sb_len] at hl
    simp [sb_len] at hl
    omega
theorem vOff_size (t : ByteArray) : (vOff t).size ≤ t.size := by
  unfold vOff
  split
  · simp
  · exact Nat.le_refl _

set_option maxRecDepth 1000000 in
set_option maxHeartbeats 2000000 in
theorem cutm_impl (w : World) (s : ByteArray) (hs : s.size ≤ 60) :
    Calls Tryz.prog 94 #[.string s] w fun e w' => e = .returned (.tuple #[.string (cutB s), .int .i64 (cutN s)]) ∧ Below w.heap.size w w' := by
  obtain ⟨f, m, q2, hfm⟩ := suf_impl s hs
  have q1 := last_impl w s hs
  have ht := lastT_size s
  have hu := vOff_size (lastT s)
  have q3 : ∀ W, _ := fun W => cutp_impl W (lastT s) (by omega)
  have q4 : ∀ W, _ := fun W => upto4_impl W (vOff (lastT s)) (by omega)
  have HM : Hid (maj4 s = if 2 ≤ (splitT 47 s).length ∧ vAt (lastT s) = true ∧ (upTo (sb (vOff (lastT s))) 1000).2 = true ∧ 2 ≤ (upTo (sb (vOff (lastT s))) 1000).1 then (upTo (sb (vOff (lastT s))) 1000).1 else 0) := maj4_tests s
  have HB : Hid (cutB s = if maj4 s = 0 then s else s.extract 0 (s.size - (1 + (lastT s).size))) := rfl
  have HC : Hid (cutN s = if maj4 s = 0 then 1 else maj4 s) := rfl
  obtain ⟨t, hT⟩ : ∃ t, lastT s = t := ⟨_, rfl⟩
  rw [hT] at q1 ht hu HM HB hfm
  simp only [hT] at q2 q3 q4
  obtain ⟨u, hU⟩ : ∃ u, vOff t = u := ⟨_, rfl⟩
  obtain ⟨k, hK⟩ : ∃ k, vAt t = k := ⟨_, rfl⟩
  rw [hU] at hu
  rw [hU, hK] at HM
  simp only [hU, hK] at q3 q4
  obtain ⟨n, hN⟩ : ∃ n, (upTo (sb u) 1000).1 = n := ⟨_, rfl⟩
  obtain ⟨o, hO⟩ : ∃ n, (upTo (sb u) 1000).2 = n := ⟨_, rfl⟩
  rw [hN, hO] at HM
  simp only [hN, hO] at q4
  clear hT hU hK hN hO
  have HF : Hid ((m = false ∧ ¬ 2 ≤ (splitT 47 s).length) ∨ (m = true ∧ 2 ≤ (splitT 47 s).length ∧ f = s.extract 0 (s.size - (1 + t.size)))) := hfm
  clear hfm
  go_enter Tryz.func94, Tryz.ntmps94
  go_wp2_with fail
  refine q1.mono ?_
  rintro e w1 ⟨rfl, b1⟩
  go_wp2_with fail
  refine (q2 _).mono ?_
  rintro e w2 ⟨rfl, rfl⟩
  go_wp2_with fail
  refine (q3 _).mono ?_
  rintro e w3 ⟨rfl, rfl⟩
  go_wp2_with fail
  refine (q4 _).mono ?_
  rintro e w4 ⟨rfl, b4⟩
  have hB : Below w.heap.size w w4 := b1.trans (b4.mono b1.size)
  clear q1 q2 q3 q4 b1 b4
  have no : ¬ (m = true ∧ k = true ∧ o = true ∧ 2 ≤ n) → Hid (cutB s = s ∧ cutN s = 1) := by
    intro h
    have h0 : maj4 s = 0 := by
      rw [HM.out, if_neg]
      rintro ⟨h1, h2, h3, h4⟩
      apply h
      refine ⟨?_, h2, h3, h4⟩
      rcases HF.out with ⟨_, h5⟩ | ⟨h5, _⟩
      · exact absurd h1 h5
      · exact h5
    exact ⟨by rw [HB.out, if_pos h0], by rw [HC.out, if_pos h0]⟩
  cases m
  · have HN := no (by simp)
    clear no
    go_wp2
    go_ret2
    exact ⟨by rw [HN.out.1, HN.out.2]; rfl, hB⟩
  cases k
  · have HN := no (by simp)
    clear no
    go_wp2
    go_ret2
    exact ⟨by rw [HN.out.1, HN.out.2]; rfl, hB⟩
  cases o
  · have HN := no (by simp)
    clear no
    go_wp2
    go_ret2
    exact ⟨by rw [HN.out.1, HN.out.2]; rfl, hB⟩
  by_cases h2 : n < 2
  · have HN := no (by rintro ⟨_, _, _, h⟩; omega)
    clear no
    go_wp2
    go_ret2
    exact ⟨by rw [HN.out.1, HN.out.2]; rfl, hB⟩
  · have HN : Hid (cutB s = f ∧ cutN s = n) := by
      rcases HF.out with ⟨h5, _⟩ | ⟨_, h6, h7⟩
      · cases h5
      · have h0 : maj4 s = n := by rw [HM.out, if_pos ⟨h6, rfl, rfl, by omega⟩]
        have h1 : n ≠ 0 := by omega
        exact ⟨by rw [HB.out, h0, if_neg h1, h7], by rw [HC.out, h0, if_neg h1]⟩
    clear no
    go_wp2
    go_ret2
    exact ⟨by rw [HN.out.1, HN.out.2]; rfl, hB⟩

theorem path60 {s : ByteArray} (h : path4 (sb s) = true) : s.size ≤ 60 := by
  unfold path4 at h
  rw [Bool.and_eq_true, sb_len] at h
  exact of_decide_eq_true h.2

set_option maxRecDepth 1000000 in
set_option maxHeartbeats 1000000 in
theorem major_impl (w : World) (s : ByteArray) (hs : s.size ≤ 1000000000000) :
    Calls Tryz.prog 64 #[.string s] w fun e w' => e = .returned (.int .i64 (major4 s)) ∧ Below w.heap.size w w' := by
  have q1 := path_impl w s hs
  have HM : Hid (major4 s = if path4 (sb s) = true then cutN s else 0) := rfl
  have H6 : Hid (path4 (sb s) = true → s.size ≤ 60) := path60
  obtain ⟨ok, hok⟩ : ∃ b, path4 (sb s) = b := ⟨_, rfl⟩
  rw [hok] at q1 HM H6
  clear hok
  go_enter Tryz.func64, Tryz.ntmps64
  go_wp2_with fail
  refine q1.mono ?_
  rintro e w1 ⟨rfl, b1⟩
  cases ok
  · have HN : Hid (major4 s = 0) := HM.out
    clear HM
    go_wp2
    go_ret
    exact ⟨by rw [HN.out]; rfl, b1⟩
  · have HN : Hid (major4 s = cutN s) := HM.out
    have q2 := cutm_impl w1 s (H6.out rfl)
    obtain ⟨n, hn⟩ : ∃ n, cutN s = n := ⟨_, rfl⟩
    obtain ⟨c, hc⟩ : ∃ n, cutB s = n := ⟨_, rfl⟩
    rw [hn] at HN
    simp only [hn, hc] at q2
    clear hn hc HM H6
    go_wp2_with fail
    refine q2.mono ?_
    rintro e w2 ⟨rfl, b2⟩
    have hB : Below w.heap.size w w2 := b1.trans (b2.mono b1.size)
    go_wp2
    go_ret
    exact ⟨by rw [HN.out]; rfl, hB⟩

end Go.Proofs.YtljlcelbhlkmcabGreatDoor.Mod

/- Chapter 4, the landed code: what fits a path. -/
namespace Go.Proofs.YtljlcelbhlkmcabGreatDoor.Mod
open Go.RowKit Go.Proofs.YtljlcelbhlkmcabGreatDoor.Mem Go.Proofs.YtljlcelbhlkmcabGreatDoor.Laws Go.Proofs.YtljlcelbhlkmcabGreatDoor.Bytes Go.Proofs.YtljlcelbhlkmcabGreatDoor.Sha Go.Proofs.YtljlcelbhlkmcabGreatDoor.Ver
set_option linter.unusedVariables false
set_option linter.unusedSimpArgs false

theorem major4_pos (s : ByteArray) : path4 (sb s) = decide (0 < major4 s) := by
  unfold major4
  have := maj4_bd s
  cases path4 (sb s)
  · rfl
  · rw [if_pos rfl]
    symm
    apply decide_eq_true
    split <;> omega

set_option maxRecDepth 1000000 in
set_option maxHeartbeats 2000000 in
theorem fits_impl (w : World) (s : ByteArray) (a b c : Int) (p : ByteArray) (hs : s.size ≤ 1000000000000) (hp : p.size ≤ 1000000000000) :
    Calls Tryz.prog 32 #[.string s, ver a b c p] w fun e w' => e = .returned (.bool (fits4 s a b c p)) ∧ Below w.heap.size w w' := by
  have q1 := path_impl (w.alloc (.cells #[.int .i64 a, .int .i64 b, .int .i64 c, .string p] 25)) s hs
  have q2 : ∀ W, _ := fun W => ok_impl W a b c p hp
  have q3 : ∀ W, _ := fun W => major_impl W s hs
  have HM : Hid (fits4 s a b c p = (path4 (sb s) && okV a b c p && (decide (a = major4 s) || (decide (major4 s = 1) && decide (a = 0))))) := by show _ = _; unfold fits4; rw [major4_pos]
  obtain ⟨pk, hpk⟩ : ∃ m, path4 (sb s) = m := ⟨_, rfl⟩
  obtain ⟨m, hm⟩ : ∃ m, major4 s = m := ⟨_, rfl⟩
  obtain ⟨ok, hok⟩ : ∃ m, okV a b c p = m := ⟨_, rfl⟩
  rw [hpk] at q1
  simp only [hok] at q2
  simp only [hm] at q3
  rw [hm, hok, hpk] at HM
  clear hm hok hpk
  have HR0 : Hid (Vr (w.alloc (.cells #[.int .i64 a, .int .i64 b, .int .i64 c, .string p] 25)) w.heap.size a b c p) := heap_alloc_new w _
  have HB : Hid (Below w.heap.size w (w.alloc (.cells #[.int .i64 a, .int .i64 b, .int .i64 c, .string p] 25))) := (Below.refl _ _).alloc (Nat.le_refl _) _
  unfold ver at q2 ⊢
  go_enter Tryz.func32, Tryz.ntmps32
  go_wp2_with fail
  refine q1.mono ?_
  rintro e w1 ⟨rfl, b1⟩
  have r1 := Vr.same HR0.out b1
  have hb1 : Below w.heap.size w w1 := HB.out.trans (b1.mono (by simp))
  obtain ⟨k0, k1, k2, k3⟩ := Vr.cells r1
  clear HR0 HB q1 b1
  cases pk
  · have HN : Hid (fits4 s a b c p = false) := HM.out
    clear HM
    go_wp2
    go_ret
    exact ⟨by rw [HN.out]; rfl, hb1⟩
  go_wp2_with fail
  refine (q2 _).mono ?_
  rintro e w2 ⟨rfl, b2⟩
  have r2 := Vr.same r1 b2
  have hb2 : Below w.heap.size w w2 := hb1.trans (b2.mono hb1.size)
  clear k0 k1 k2 k3 r1 b2 q2
  cases ok
  · have HN : Hid (fits4 s a b c p = false) := HM.out
    clear HM
    go_wp2
    go_ret
    exact ⟨by rw [HN.out]; rfl, hb2⟩
  go_wp2_with fail
  refine (q3 _).mono ?_
  rintro e w3 ⟨rfl, b3⟩
  have r3 := Vr.same r2 b3
  have hb3 : Below w.heap.size w w3 := hb2.trans (b3.mono hb2.size)
  clear r2 b3 q3
  obtain ⟨k0, k1, k2, k3⟩ := Vr.cells r3
  replace HM : Hid (fits4 s a b c p = (decide (a = m) || (decide (m = 1) && decide (a = 0)))) := HM.out
  by_cases h1 : a = m
  · have d1 : (a == m) = true := by simpa using h1
    have HN : Hid (fits4 s a b c p = true) := by show _ = _; rw [HM.out]; simp [h1]
    clear HM h1
    go_wp2
    go_ret
    exact ⟨by rw [HN.out]; rfl, hb3⟩
  have d1 : (a == m) = false := by simpa using h1
  by_cases h2 : m = 1
  · by_cases h3 : a = 0
    · have d2 : (m == 1) = true := by simpa using h2
      have d3 : (a == 0) = true := by simpa using h3
      have HN : Hid (fits4 s a b c p = true) := by show _ = _; rw [HM.out]; simp [h2, h3]
      clear HM h1 h2 h3
      go_wp2
      go_ret
      exact ⟨by rw [HN.out]; rfl, hb3⟩
    · have d2 : (m == 1) = true := by simpa using h2
      have d3 : (a == 0) = false := by simpa using h3
      have HN : Hid (fits4 s a b c p = false) := by show _ = _; rw [HM.out]; simp [h1, h3]
      clear HM h1 h2 h3
      go_wp2
      go_ret
      exact ⟨by rw [HN.out]; rfl, hb3⟩
  · have d2 : (m == 1) = false := by simpa using h2
    have HN : Hid (fits4 s a b c p = false) := by show _ = _; rw [HM.out]; simp [h1, h2]
    clear HM h1 h2
    go_wp2
    go_ret
    exact ⟨by rw [HN.out]; rfl, hb3⟩

end Go.Proofs.YtljlcelbhlkmcabGreatDoor.Mod
