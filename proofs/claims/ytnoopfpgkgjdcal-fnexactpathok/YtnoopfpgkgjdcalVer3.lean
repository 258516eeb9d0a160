/- Chapter 3, the specification's side: what stands behind a version; versions that are right; a number's text. -/
import Derived.Test.YtnoopfpgkgjdcalVer2
import Derived.Deep.RegionWith
namespace Go.Proofs.Ytnoopfpgkgjdcal.Ver
open Go.RowKit Go.Proofs.Ytnoopfpgkgjdcal.Mem Go.Proofs.Ytnoopfpgkgjdcal.Laws Go.Proofs.Ytnoopfpgkgjdcal.Bytes Go.Proofs.Ytnoopfpgkgjdcal.Sha
set_option linter.unusedVariables false
set_option linter.unusedSimpArgs false

/-- one to four parts -/
def pre (l : List Int) : Bool := (split 46 l).all part && decide ((split 46 l).length ≤ 4)

theorem ownForm {w : World} {lo hi : Nat} {e : TypeId} {v : Value} {cs : List Value} (h : Own w lo hi e v cs) (hp : 0 < cs.length) :
    ∃ g cap, v = .slice (some ⟨g, 0, none⟩) cs.length cap ∧ lo ≤ g ∧ g < hi ∧ cs.length ≤ cap ∧ ∀ j, j < cs.length → w.cell? ⟨g, j, none⟩ = cs[j]? := by
  have hsl := h.sl
  obtain ⟨⟨h1, h2⟩, h3⟩ := h
  rcases h2 with ⟨rfl, h0⟩ | ⟨g, cap, cur, rfl, hb, hg, hnc, hcm, hcs, ht⟩
  · omega
  · refine ⟨g, cap, rfl, hb, h3 g rfl, hnc, ?_⟩
    obtain ⟨ao, cap', he, _, _, hr⟩ := hsl
    obtain ⟨b, off, hao, hcell⟩ := hr hp
    simp only [Value.slice.injEq] at he
    rw [← he.1] at hao
    simp only [Option.some.injEq, Addr.mk.injEq, and_true] at hao
    obtain ⟨rfl, rfl⟩ := hao
    intro j hj
    have := hcell j hj
    rw [Nat.zero_add] at this
    exact this
theorem splitL_pos (b : Int) : ∀ (l cur : List Int), 0 < (splitL b cur l).length := by
  intro l
  induction l with
  | nil => intro cur; simp [splitL]
  | cons c r ih => intro cur; unfold splitL; split; simp; exact ih _
theorem splitL_byt (b : Int) : ∀ (l cur : List Int), Byt l → Byt cur → ∀ p ∈ splitL b cur l, Byt p := by
  intro l
  induction l with
  | nil => intro cur hl hc p hp; simp [splitL] at hp; rw [hp]; exact hc
  | cons c r ih =>
    intro cur hl hc p hp
    have hr : Byt r := fun x hx => hl x (List.mem_cons_of_mem _ hx)
    unfold splitL at hp
    split at hp
    · rcases List.mem_cons.1 hp with rfl | hp
      · exact hc
      · exact ih [] hr (fun x hx => (by cases hx)) p hp
    · refine ih _ hr (hc.app fun x hx => ?_) p hp
      rw [List.mem_singleton] at hx
      rw [hx]
      exact hl c (List.mem_cons_self ..)
theorem sb_txtv {l : List Int} (h : Byt l) : sb (Plain.txt l) = l := by
  unfold sb Plain.txt Plain.u8s
  simp only [List.map_map]
  have e : ∀ x ∈ l, ((fun b : UInt8 => (b.toNat : Int)) ∘ fun x : Int => UInt8.ofNat x.toNat) x = x := fun x hx => Plain.u8_back (h x hx)
  rw [List.map_congr_left e]
  simp
theorem splitT_sb (b : Int) (s : ByteArray) : (splitT b s).map sb = split b (sb s) := by
  unfold splitT
  rw [List.map_map]
  conv => rhs; rw [← List.map_id (split b (sb s))]
  apply List.map_congr_left
  intro p hp
  exact sb_txtv (splitL_byt b (sb s) [] (sb_byt s) (fun x hx => (by cases hx)) p hp)
theorem splitL_size (b : Int) : ∀ (l cur : List Int), ∀ p ∈ splitL b cur l, p.length ≤ cur.length + l.length := by
  intro l
  induction l with
  | nil => intro cur p hp; simp [splitL] at hp; rw [hp]; simp
  | cons c r ih =>
    intro cur p hp
    unfold splitL at hp
    split at hp
    · rcases List.mem_cons.1 hp with rfl | hp
      · simp
      · have := ih [] p hp; simp at this; simp; omega
    · have := ih _ p hp; simp at this; simp; omega
theorem splitT_size (b : Int) (s : ByteArray) : ∀ t ∈ splitT b s, t.size ≤ s.size := by
  intro t ht
  unfold splitT at ht
  obtain ⟨p, hp, rfl⟩ := List.mem_map.1 ht
  have := splitL_size b (sb s) [] p hp
  rw [sb_len] at this
  show (Plain.txt p).data.size ≤ _
  simp [Plain.txt, Plain.u8s]
  simpa using this

set_option maxRecDepth 1000000 in
set_option maxHeartbeats 1000000 in
theorem pre_spec (w : World) (s : ByteArray) (hs : s.size ≤ 1000000000000) :
    Calls Try.prog 36 #[.string s] w fun e w' => e = .returned (.bool (pre (sb s))) ∧ Below w.heap.size w w' := by
  go_enter Try.func36, Try.ntmps36
  go_wp2_with fail
  refine (split_spec w s 46 (by omega) (by omega) hs).mono ?_
  rintro e w1 ⟨v1, rfl, o1, b1⟩
  obtain ⟨T, hT⟩ : ∃ T, T = splitT 46 s := ⟨_, rfl⟩
  have hTs := splitT_size 46 s
  have hTl := splitT_len 46 s
  have hTm := splitT_sb 46 s
  rw [← hT] at o1 hTs hTl hTm
  have hT0 : 0 < T.length := by
    have := splitL_pos 46 (sb s) []
    have h2 : T.length = (split 46 (sb s)).length := by rw [← hTm, List.length_map]
    rw [h2]; exact this
  have HP : Hid (pre (sb s) = (T.all (fun t => part (sb t)) && decide (T.length ≤ 4))) := by
    show _ = _
    unfold pre
    rw [← hTm, List.all_map, List.length_map]
    rfl
  obtain ⟨g, cap, rfl, hg1, hg2, hcap, hc⟩ := ownForm o1 (by rw [ss_len]; exact hT0)
  rw [ss_len] at hcap hc
  rw [ss_len]
  have HC : Hid (∀ j, j < T.length → w1.cell? ⟨g, j, none⟩ = (ss T)[j]?) := hc
  have HTs : Hid (∀ t ∈ T, t.size ≤ s.size) := hTs
  clear hT hTs hTm hc o1
  go_wp2
  go_loopw [4] (fun i wr => ∃ k : Nat, k ≤ T.length ∧ i = .int .i64 (k : Int) ∧ Hid ((T.take k).all (fun t => part (sb t)) = true) ∧ w1 = wr) (fun i _ => T.length - (intOf i).toNat)
  case atStart => exact ⟨0, Nat.zero_le _, rfl, rfl, by first | rfl | trivial⟩
  case round =>
    obtain ⟨k, hk, rfl, HA, rfl⟩ := hrel
    by_cases hlt : k < T.length
    · obtain ⟨t, ht⟩ : ∃ t, T[k]? = some t := ⟨T[k], by simp [hlt]⟩
      have hcell : w1.cell? ⟨g, k, none⟩ = some (.string t) := by rw [HC.out k hlt, ss_get, ht]; rfl
      have htm := HTs.out t (List.mem_of_getElem? ht)
      have HT : Hid (T[k]? = some t) := ht
      have q := part_spec w1 t (by omega)
      obtain ⟨pb, hpb⟩ : ∃ b, part (sb t) = b := ⟨_, rfl⟩
      have HB : Hid (part (sb t) = pb) := hpb
      rw [hpb] at q
      clear ht hpb
      cases pb
      · have HN : Hid (pre (sb s) = false) := by
          show _ = _
          rw [HP.out]
          have : T.all (fun t => part (sb t)) = false := by
            rw [List.all_eq_false]
            exact ⟨t, List.mem_of_getElem? HT.out, by simp [HB.out]⟩
          rw [this]; rfl
        go_wp2_with (go_at_call 46; refine q.mono ?_; rintro e w' ⟨rfl, rfl⟩)
        go_ret
        exact ⟨by rw [HN.out]; rfl, b1⟩
      · have HN : Hid ((T.take (k + 1)).all (fun t => part (sb t)) = true) := by
          show _ = _
          rw [List.take_succ_eq_append_getElem hlt, List.all_append, HA.out]
          have : T[k] = t := by have := HT.out; rw [List.getElem?_eq_getElem hlt] at this; simpa using this
          simp [this, HB.out]
        go_wp2_with (go_at_call 46; refine q.mono ?_; rintro e w' ⟨rfl, rfl⟩)
        go_roundw
        case rel => exact ⟨k + 1, by omega, by go_num, HN, by first | rfl | trivial⟩
        case measure => simp [intOf]; omega
    · have HN : Hid (pre (sb s) = decide ((T.length : Int) ≤ 4)) := by
        show _ = _
        have h1 := HA.out
        rw [List.take_of_length_le (by omega)] at h1
        rw [HP.out, h1, Bool.true_and, decide_eq_decide]
        omega
      go_wp2
      go_ret
      exact ⟨by rw [HN.out]; rfl, b1⟩

/-- a version as a value -/
def ver (a b c : Int) (p : ByteArray) : Value := .agg #[.int .i64 a, .int .i64 b, .int .i64 c, .string p]
def inM (a : Int) : Bool := decide (0 ≤ a ∧ a ≤ 1000000)
def okV (a b c : Int) (p : ByteArray) : Bool := inM a && inM b && inM c && (decide (p.size = 0) || pre (sb p))

set_option maxRecDepth 1000000 in
set_option maxHeartbeats 1000000 in
theorem ok_spec (w : World) (a b c : Int) (p : ByteArray) (hp : p.size ≤ 1000000000000) :
    Calls Try.prog 23 #[ver a b c p] w fun e w' => e = .returned (.bool (okV a b c p)) ∧ Below w.heap.size w w' := by
  obtain ⟨b1, e1⟩ : ∃ x, decide ((0 : Int) ≤ a ∧ a ≤ 1000000) = x := ⟨_, rfl⟩
  obtain ⟨b2, e2⟩ : ∃ x, decide ((0 : Int) ≤ b ∧ b ≤ 1000000) = x := ⟨_, rfl⟩
  obtain ⟨b3, e3⟩ : ∃ x, decide ((0 : Int) ≤ c ∧ c ≤ 1000000) = x := ⟨_, rfl⟩
  obtain ⟨b4, e4⟩ : ∃ x, decide (p.size = 0) = x := ⟨_, rfl⟩
  have he : p.toList.isEmpty = b4 := by rw [toList_empty, e4]
  obtain ⟨b5, e5⟩ : ∃ x, pre (sb p) = x := ⟨_, rfl⟩
  have HO : Hid (okV a b c p = (b1 && b2 && b3 && (b4 || b5))) := by show _ = _; unfold okV inM; rw [e1, e2, e3, e4, e5]
  have q := pre_spec (w.alloc (.cells #[.int .i64 a, .int .i64 b, .int .i64 c, .string p] 28)) p hp
  rw [e5] at q
  have hB : Below w.heap.size w (w.alloc (.cells #[.int .i64 a, .int .i64 b, .int .i64 c, .string p] 28)) := (Below.refl _ _).alloc (Nat.le_refl _) _
  have HB : Hid _ := hB
  clear e4 e5 hB
  unfold ver
  cases b1
  · go_enter Try.func23, Try.ntmps23
    go_wp2_with (go_at_call 27; refine (in_spec _ _ _ _).mono ?_; rintro e w' ⟨rfl, rfl⟩; first | rw [e1] | rw [e2] | rw [e3])
    go_ret
    exact ⟨by rw [HO.out]; rfl, HB.out⟩
  · cases b2
    · go_enter Try.func23, Try.ntmps23
      go_wp2_with (go_at_call 27; refine (in_spec _ _ _ _).mono ?_; rintro e w' ⟨rfl, rfl⟩; first | rw [e1] | rw [e2] | rw [e3])
      go_ret
      exact ⟨by rw [HO.out]; rfl, HB.out⟩
    · cases b3
      · go_enter Try.func23, Try.ntmps23
        go_wp2_with (go_at_call 27; refine (in_spec _ _ _ _).mono ?_; rintro e w' ⟨rfl, rfl⟩; first | rw [e1] | rw [e2] | rw [e3])
        go_ret
        exact ⟨by rw [HO.out]; rfl, HB.out⟩
      · cases b4
        · go_enter Try.func23, Try.ntmps23
          go_wp2_with (first | (go_at_call 27; refine (in_spec _ _ _ _).mono ?_; rintro e w' ⟨rfl, rfl⟩; first | rw [e1] | rw [e2] | rw [e3]) | (go_at_call 36; refine q.mono ?_; rintro e w' ⟨rfl, bq⟩))
          go_ret
          exact ⟨by rw [HO.out]; rfl, HB.out.trans (bq.mono (by simp))⟩
        · go_enter Try.func23, Try.ntmps23
          go_wp2_with (go_at_call 27; refine (in_spec _ _ _ _).mono ?_; rintro e w' ⟨rfl, rfl⟩; first | rw [e1] | rw [e2] | rw [e3])
          go_ret
          exact ⟨by rw [HO.out]; rfl, HB.out⟩

end Go.Proofs.Ytnoopfpgkgjdcal.Ver
