/- Chapter 6, the landed code: leaves and nodes. -/
import Derived.Test.YtccnhhdcdamgmaaDoorTr2
import Derived.Test.YtccnhhdcdamgmaaDoorShaI
namespace Go.Proofs.YtccnhhdcdamgmaaDoor.Tr
open Go.RowKit Go.Proofs.YtccnhhdcdamgmaaDoor.Mem Go.Proofs.YtccnhhdcdamgmaaDoor.Laws Go.Proofs.YtccnhhdcdamgmaaDoor.Bytes Go.Proofs.YtccnhhdcdamgmaaDoor.Sha
set_option linter.unusedVariables false
set_option linter.unusedSimpArgs false

/-- the bytes of texts, one behind the other -/
def cats : List ByteArray → List Int
  | [] => []
  | s :: r => sb s ++ cats r
theorem cats_byt : ∀ l, Byt (cats l)
  | [] => by intro x hx; simp [cats] at hx
  | s :: r => (sb_byt s).app (cats_byt r)

set_option maxRecDepth 1000000 in
set_option maxHeartbeats 1000000 in
theorem marked_any (w : World) (m : Int) (vt : Value) (l : List ByteArray) (ht : Sl w vt (ss l)) (hx : (cats l).length ≤ 300000000000) (hl : l.length ≤ 1000000) :
    Calls Tryd.prog 90 #[.int .u8 m, vt] w fun e w' => ∃ v', e = .returned v' ∧ Own w' w.heap.size w'.heap.size 5 v' (bs (m :: cats l)) ∧ Below w.heap.size w w' := by
  obtain ⟨i0, hi, hz0, hz1, hz2⟩ := info_parts info5
  have ho := oneB w w.heap.size m (Nat.le_refl _)
  have hB : Below w.heap.size w (w.alloc (.cells #[.int .u8 m] 5)) := (Below.refl _ _).alloc (Nat.le_refl _) _
  have ht0 := ht
  obtain ⟨ao, cap, rfl, hc, hn, -⟩ := ht
  rw [ss_len] at ht0 ⊢
  go_enter Tryd.func90, Tryd.ntmps90
  go_wp2
  go_loopw [5, 12] (fun b i wr => ∃ (k : Nat) (ys : List Int), k ≤ l.length ∧ i = .int .i64 k ∧ Hid (ys ++ cats (l.drop k) = m :: cats l) ∧ Own wr w.heap.size wr.heap.size 5 b (bs ys) ∧ Below w.heap.size w wr) (fun _ i _ => l.length - (intOf i).toNat)
  case atStart => exact ⟨0, [m], Nat.zero_le _, rfl, rfl, ho, hB⟩
  case round =>
    obtain ⟨k, ys, hk, rfl, HE, hor, hb⟩ := hrel
    have hsz := hb.size
    by_cases hlt : k < l.length
    · obtain ⟨s, hs0⟩ : ∃ s, l[k]? = some s := ⟨l[k], by simp⟩
      have HD : Hid (l.drop k = s :: l.drop (k + 1)) := by
        obtain ⟨hk', rfl⟩ := List.getElem?_eq_some_iff.1 hs0
        exact List.drop_eq_getElem_cons hk'
      have hlen : ys.length + s.size ≤ 300000000001 := by
        have h1 := congrArg List.length HE.out
        rw [HD.out] at h1
        simp only [cats, List.length_append, List.length_cons, sb_len] at h1
        omega
      have hcl : ∃ b off, ao = some ⟨b, off, none⟩ ∧ wr.cell? ⟨b, off + k, none⟩ = some (.string s) := by
        obtain ⟨ao', cap', he, _, _, hr'⟩ := ht0.later hb
        rw [ss_len] at he hr'
        simp only [Value.slice.injEq] at he
        obtain ⟨rfl, _, rfl⟩ := he
        obtain ⟨b, off, he, hc⟩ := hr' (by omega)
        exact ⟨b, off, he, by rw [hc k hlt]; simp [ss, hs0]⟩
      obtain ⟨b, off, rfl, hcell⟩ := hcl
      have HN : Hid ((ys ++ sb s) ++ cats (l.drop (k + 1)) = m :: cats l) := by
        show _ = _; rw [← HE.out, HD.out, List.append_assoc]; rfl
      have c1 : ys.length + s.size ≤ 140737488355328 := by omega
      clear hs0 HD HE ht0 ho hB
      go_wp2_with (at_builtin; go_must (refine wpl_str _ rfl (.tmp 16) (.tmp 17) 22 9 rfl 5 i0 Tryd.underlying22 Tryd.underlying9 hi hz0 hz1 hz2 w.heap.size _ _ rfl hor s rfl c1 hsz ?_); intro v2 w2 ho2 hb2)
      have hb3 : Below w.heap.size w w2 := hb.trans hb2
      go_roundw
      case rel => exact ⟨k + 1, ys ++ sb s, by omega, by go_num, HN, ho2, hb3⟩
      case measure => simp [intOf]; omega
    · have h1 := HE.out
      rw [List.drop_eq_nil_of_le (by omega)] at h1
      simp only [cats, List.append_nil] at h1
      rw [h1] at hor
      have HO : Hid (Own wr w.heap.size wr.heap.size 5 _ (bs (m :: cats l))) := hor
      have HB : Hid (Below w.heap.size w wr) := hb
      clear HE h1 hor hb ht0 ho hB
      go_wp2
      go_ret
      exact ⟨_, rfl, HO.out, HB.out⟩

theorem cats_one (s : ByteArray) : cats [s] = sb s := by simp [cats]
theorem cats_two (a b : ByteArray) : cats [a, b] = sb a ++ sb b := by simp [cats]
theorem mark_byt (m : Int) (h0 : 0 ≤ m) (h1 : m ≤ 255) (l : List ByteArray) : Byt (m :: cats l) := by
  intro x hx
  rcases List.mem_cons.1 hx with rfl | hx
  · exact ⟨h0, h1⟩
  · exact cats_byt l x hx

set_option maxRecDepth 1000000 in
set_option maxHeartbeats 1000000 in
theorem leaf_impl (w : World) (s : ByteArray) (hG : Glob w) (hs : s.size ≤ 100000000000) : Calls Tryd.prog 68 #[.string s] w fun e w' => e = .returned (.string (leafH s)) ∧ Below w.heap.size w w' := by
  have hB : Below w.heap.size w (w.alloc (.cells #[.string s] 9)) := (Below.refl _ _).alloc (Nat.le_refl _) _
  have q := marked_any _ 0 _ [s] (Laws.Sl.one w (.string s) 9) (by simp [cats, sb_len]; omega) (by simp)
  have hq : Byt (0 :: cats [s]) := mark_byt 0 (by omega) (by omega) _
  have hl : (0 :: cats [s]).length ≤ 1000000000000 := by rw [cats_one, List.length_cons, sb_len]; omega
  have q2 : ∀ W v, Below w.heap.size w W → Sl W v (bs (0 :: cats [s])) → _ := fun W v hW h => digest_impl W v (0 :: cats [s]) (hG.later hW) h hq (by omega)
  have HB : Hid (Below w.heap.size w (w.alloc (.cells #[.string s] 9))) := hB
  simp only [cats_one] at q q2
  have HL : Hid (leafH s = Plain.txt (digest (0 :: sb s))) := rfl
  obtain ⟨D, hD⟩ : ∃ D, 0 :: sb s = D := ⟨_, rfl⟩
  simp only [hD] at q q2 HL
  clear hB hq hl hD
  go_enter Tryd.func68, Tryd.ntmps68
  go_wp2_with fail
  refine q.mono ?_
  rintro e w2 ⟨v2, rfl, o2, b2⟩
  have hB2 : Below w.heap.size w w2 := HB.out.trans (b2.mono HB.out.size)
  have q3 := q2 w2 v2 hB2 o2.sl
  have HB2 : Hid (Below w.heap.size w w2) := hB2
  clear o2 b2 q2 hB2
  go_wp2_with fail
  refine q3.mono ?_
  rintro e w3 ⟨rfl, b3⟩
  have hB3 : Below w.heap.size w w3 := HB2.out.trans (b3.mono HB2.out.size)
  go_wp2
  go_ret
  exact ⟨by rw [HL.out]; rfl, hB3⟩

theorem Sl.two (w : World) (a b : ByteArray) : Sl (w.alloc (.cells #[.string a, .string b] 9)) (.slice (some ⟨w.heap.size, 0, none⟩) 2 2) (ss [a, b]) :=
  (Own.of (World.ownsRow_lit (e := 9) (base := w.heap.size) (size := 1) w #[.string a, .string b] 2 (Nat.le_refl _) (by unfold maxLen; omega) rfl)).sl

set_option maxRecDepth 1000000 in
set_option maxHeartbeats 1000000 in
theorem node_impl (w : World) (a b : ByteArray) (hG : Glob w) (ha : a.size ≤ 100000000000) (hb : b.size ≤ 100000000000) : Calls Tryd.prog 71 #[.string a, .string b] w fun e w' => e = .returned (.string (nodeH a b)) ∧ Below w.heap.size w w' := by
  have hB : Below w.heap.size w (w.alloc (.cells #[.string a, .string b] 9)) := (Below.refl _ _).alloc (Nat.le_refl _) _
  have q := marked_any _ 1 _ [a, b] (Sl.two w a b) (by simp [cats, sb_len]; omega) (by simp)
  have hq : Byt (1 :: cats [a, b]) := mark_byt 1 (by omega) (by omega) _
  have hl : (1 :: cats [a, b]).length ≤ 1000000000000 := by rw [cats_two, List.length_cons, List.length_append, sb_len, sb_len]; omega
  have q2 : ∀ W v, Below w.heap.size w W → Sl W v (bs (1 :: cats [a, b])) → _ := fun W v hW h => digest_impl W v (1 :: cats [a, b]) (hG.later hW) h hq (by omega)
  have HB : Hid (Below w.heap.size w (w.alloc (.cells #[.string a, .string b] 9))) := hB
  simp only [cats_two] at q q2
  have HL : Hid (nodeH a b = Plain.txt (digest (1 :: (sb a ++ sb b)))) := rfl
  obtain ⟨D, hD⟩ : ∃ D, 1 :: (sb a ++ sb b) = D := ⟨_, rfl⟩
  simp only [hD] at q q2 HL
  clear hB hq hl hD
  go_enter Tryd.func71, Tryd.ntmps71
  go_wp2_with fail
  refine q.mono ?_
  rintro e w2 ⟨v2, rfl, o2, b2⟩
  have hB2 : Below w.heap.size w w2 := HB.out.trans (b2.mono HB.out.size)
  have q3 := q2 w2 v2 hB2 o2.sl
  have HB2 : Hid (Below w.heap.size w w2) := hB2
  clear o2 b2 q2 hB2
  go_wp2_with fail
  refine q3.mono ?_
  rintro e w3 ⟨rfl, b3⟩
  have hB3 : Below w.heap.size w w3 := HB2.out.trans (b3.mono HB2.out.size)
  go_wp2
  go_ret
  exact ⟨by rw [HL.out]; rfl, hB3⟩

end Go.Proofs.YtccnhhdcdamgmaaDoor.Tr
