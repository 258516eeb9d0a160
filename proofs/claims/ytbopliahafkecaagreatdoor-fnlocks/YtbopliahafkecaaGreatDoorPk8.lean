/- Texts in one: Ver3, Mod1, Mod2, Ver4, Ver5, Ver6, Mod3, Mod4, Mod5. -/
import Derived.Test.YtbopliahafkecaaGreatDoorPk7
import Derived.Deep.RegionWith
import Derived.BigQuiet
import Derived.Deep.RegionHeld3
import Derived.Deep.QuietTactic
/- Chapter 3, the specification's side: what stands behind a version; versions that are right; a number's text. -/
namespace Go.Proofs.YtbopliahafkecaaGreatDoor.Ver
open Go.RowKit Go.Proofs.YtbopliahafkecaaGreatDoor.Mem Go.Proofs.YtbopliahafkecaaGreatDoor.Laws Go.Proofs.YtbopliahafkecaaGreatDoor.Bytes Go.Proofs.YtbopliahafkecaaGreatDoor.Sha
set_option linter.unusedVariables false
set_option linter.unusedSimpArgs false

/-- one to four parts -/
def pre (l : List Int) : Bool := (split 46 l).all part && decide ((split 46 l).length ≤ 4)

theorem ownForm {w : World} {lo hi : Nat} {e : TypeId} {v : Value} {cs : List Value} (h : Own w lo hi e v cs) (hp : 0 < cs.length) :
    ∃ g cap, v = .slice (some ⟨g, 0, none⟩) cs.length cap ∧ lo ≤ g ∧ g < hi ∧ cs.length ≤ cap ∧ ∀ j, j < cs.length → w.cell? ⟨g, j, none⟩ = cs[j]? := by
  have hsl := h.sl
  obtain ⟨⟨h1, h2⟩, h3⟩ := h
  rcases h2 with ⟨rfl, h0⟩ | ⟨g, cap, cur, rfl, hb, hg, hnc, hcm, hcs, ht⟩
  · omega
  · refine ⟨g, cap, rfl, hb, h3 g rfl, hnc, ?_⟩
    obtain ⟨ao, cap', he, _, _, hr⟩ := hsl
    obtain ⟨b, off, hao, hcell⟩ := hr hp
    simp only [Value.slice.injEq] at he
    rw [← he.1] at hao
    simp only [Option.some.injEq, Addr.mk.injEq, and_true] at hao
    obtain ⟨rfl, rfl⟩ := hao
    intro j hj
    have := hcell j hj
    rw [Nat.zero_add] at this
    exact this
theorem splitL_pos (b : Int) : ∀ (l cur : List Int), 0 < (splitL b cur l).length := by
  intro l
  induction l with
  | nil => intro cur; simp [splitL]
  | cons c r ih => intro cur; unfold splitL; split; simp; exact ih _
theorem splitL_byt (b : Int) : ∀ (l cur : List Int), Byt l → Byt cur → ∀ p ∈ splitL b cur l, Byt p := by
  intro l
  induction l with
  | nil => intro cur hl hc p hp; simp [splitL] at hp; rw [hp]; exact hc
  | cons c r ih =>
    intro cur hl hc p hp
    have hr : Byt r := fun x hx => hl x (List.mem_cons_of_mem _ hx)
    unfold splitL at hp
    split at hp
    · rcases List.mem_cons.1 hp with rfl | hp
      · exact hc
      · exact ih [] hr (fun x hx => (by cases hx)) p hp
    · refine ih _ hr (hc.app fun x hx => ?_) p hp
      rw [List.mem_singleton] at hx
      rw [hx]
      exact hl c (List.mem_cons_self ..)
theorem sb_txtv {l : List Int} (h : Byt l) : sb (Plain.txt l) = l := by
  unfold sb Plain.txt Plain.u8s
  simp only [List.map_map]
  have e : ∀ x ∈ l, ((fun b : UInt8 => (b.toNat : Int)) ∘ fun x : Int => UInt8.ofNat x.toNat) x = x := fun x hx => Plain.u8_back (h x hx)
  rw [List.map_congr_left e]
  simp
theorem splitT_sb (b : Int) (s : ByteArray) : (splitT b s).map sb = split b (sb s) := by
  unfold splitT
  rw [List.map_map]
  conv => rhs; rw [← List.map_id (split b (sb s))]
  apply List.map_congr_left
  intro p hp
  exact sb_txtv (splitL_byt b (sb s) [] (sb_byt s) (fun x hx => (by cases hx)) p hp)
theorem splitL_size (b : Int) : ∀ (l cur : List Int), ∀ p ∈ splitL b cur l, p.length ≤ cur.length + l.length := by
  intro l
  induction l with
  | nil => intro cur p hp; simp [splitL] at hp; rw [hp]; simp
  | cons c r ih =>
    intro cur p hp
    unfold splitL at hp
    split at hp
    · rcases List.mem_cons.1 hp with rfl | hp
      · simp
      · have := ih [] p hp; simp at this; simp; omega
    · have := ih _ p hp; simp at this; simp; omega
theorem splitT_size (b : Int) (s : ByteArray) : ∀ t ∈ splitT b s, t.size ≤ s.size := by
  intro t ht
  unfold splitT at ht
  obtain ⟨p, hp, rfl⟩ := List.mem_map.1 ht
  have := splitL_size b (sb s) [] p hp
  rw [sb_len] at this
  show (Plain.txt p).data.size ≤ _
  simp [Plain.txt, Plain.u8s]
  simpa using this

set_option maxRecDepth 1000000 in
set_option maxHeartbeats 1000000 in
theorem pre_spec (w : World) (s : ByteArray) (hs : s.size ≤ 1000000000000) :
    Calls Tryz.prog 110 #[.string s] w fun e w' => e = .returned (.bool (pre (sb s))) ∧ Below w.heap.size w w' := by
  go_enter Tryz.func110, Tryz.ntmps110
  go_wp2_with fail
  refine (split_spec w s 46 (by omega) (by omega) hs).mono ?_
  rintro e w1 ⟨v1, rfl, o1, b1⟩
  obtain ⟨T, hT⟩ : ∃ T, T = splitT 46 s := ⟨_, rfl⟩
  have hTs := splitT_size 46 s
  have hTl := splitT_len 46 s
  have hTm := splitT_sb 46 s
  rw [← hT] at o1 hTs hTl hTm
  have hT0 : 0 < T.length := by
    have := splitL_pos 46 (sb s) []
    have h2 : T.length = (split 46 (sb s)).length := by rw [← hTm, List.length_map]
    rw [h2]; exact this
  have HP : Hid (pre (sb s) = (T.all (fun t => part (sb t)) && decide (T.length ≤ 4))) := by
    show _ = _
    unfold pre
    rw [← hTm, List.all_map, List.length_map]
    rfl
  obtain ⟨g, cap, rfl, hg1, hg2, hcap, hc⟩ := ownForm o1 (by rw [ss_len]; exact hT0)
  rw [ss_len] at hcap hc
  rw [ss_len]
  have HC : Hid (∀ j, j < T.length → w1.cell? ⟨g, j, none⟩ = (ss T)[j]?) := hc
  have HTs : Hid (∀ t ∈ T, t.size ≤ s.size) := hTs
  clear hT hTs hTm hc o1
  go_wp2
  go_loopw [4] (fun i wr => ∃ k : Nat, k ≤ T.length ∧ i = .int .i64 (k : Int) ∧ Hid ((T.take k).all (fun t => part (sb t)) = true) ∧ w1 = wr) (fun i _ => T.length - (intOf i).toNat)
  case atStart => exact ⟨0, Nat.zero_le _, rfl, rfl, by first | rfl | trivial⟩
  case round =>
    obtain ⟨k, hk, rfl, HA, rfl⟩ := hrel
    by_cases hlt : k < T.length
    · obtain ⟨t, ht⟩ : ∃ t, T[k]? = some t := ⟨T[k], by simp [hlt]⟩
      have hcell : w1.cell? ⟨g, k, none⟩ = some (.string t) := by rw [HC.out k hlt, ss_get, ht]; rfl
      have htm := HTs.out t (List.mem_of_getElem? ht)
      have HT : Hid (T[k]? = some t) := ht
      have q := part_spec w1 t (by omega)
      obtain ⟨pb, hpb⟩ : ∃ b, part (sb t) = b := ⟨_, rfl⟩
      have HB : Hid (part (sb t) = pb) := hpb
      rw [hpb] at q
      clear ht hpb
      cases pb
      · have HN : Hid (pre (sb s) = false) := by
          show _ = _
          rw [HP.out]
          have : T.all (fun t => part (sb t)) = false := by
            rw [List.all_eq_false]
            exact ⟨t, List.mem_of_getElem? HT.out, by simp [HB.out]⟩
          rw [this]; rfl
        go_wp2_with (go_at_call 131; refine q.mono ?_; rintro e w' ⟨rfl, rfl⟩)
        go_ret
        exact ⟨by rw [HN.out]; rfl, b1⟩
      · have HN : Hid ((T.take (k + 1)).all (fun t => part (sb t)) = true) := by
          show _ = _
          rw [List.take_succ_eq_append_getElem hlt, List.all_append, HA.out]
          have : T[k] = t := by have := HT.out; rw [List.getElem?_eq_getElem hlt] at this; simpa using this
          simp [this, HB.out]
        go_wp2_with (go_at_call 131; refine q.mono ?_; rintro e w' ⟨rfl, rfl⟩)
        go_roundw
        case rel => exact ⟨k + 1, by omega, by go_num, HN, by first | rfl | trivial⟩
        case measure => simp [intOf]; omega
    · have HN : Hid (pre (sb s) = decide ((T.length : Int) ≤ 4)) := by
        show _ = _
        have h1 := HA.out
        rw [List.take_of_length_le (by omega)] at h1
        rw [HP.out, h1, Bool.true_and, decide_eq_decide]
        omega
      go_wp2
      go_ret
      exact ⟨by rw [HN.out]; rfl, b1⟩

/-- a version as a value -/
def ver (a b c : Int) (p : ByteArray) : Value := .agg #[.int .i64 a, .int .i64 b, .int .i64 c, .string p]
def inM (a : Int) : Bool := decide (0 ≤ a ∧ a ≤ 1000000)
def okV (a b c : Int) (p : ByteArray) : Bool := inM a && inM b && inM c && (decide (p.size = 0) || pre (sb p))

set_option maxRecDepth 1000000 in
set_option maxHeartbeats 1000000 in
theorem ok_spec (w : World) (a b c : Int) (p : ByteArray) (hp : p.size ≤ 1000000000000) :
    Calls Tryz.prog 86 #[ver a b c p] w fun e w' => e = .returned (.bool (okV a b c p)) ∧ Below w.heap.size w w' := by
  obtain ⟨b1, e1⟩ : ∃ x, decide ((0 : Int) ≤ a ∧ a ≤ 1000000) = x := ⟨_, rfl⟩
  obtain ⟨b2, e2⟩ : ∃ x, decide ((0 : Int) ≤ b ∧ b ≤ 1000000) = x := ⟨_, rfl⟩
  obtain ⟨b3, e3⟩ : ∃ x, decide ((0 : Int) ≤ c ∧ c ≤ 1000000) = x := ⟨_, rfl⟩
  obtain ⟨b4, e4⟩ : ∃ x, decide (p.size = 0) = x := ⟨_, rfl⟩
  have he : p.toList.isEmpty = b4 := by rw [toList_empty, e4]
  obtain ⟨b5, e5⟩ : ∃ x, pre (sb p) = x := ⟨_, rfl⟩
  have HO : Hid (okV a b c p = (b1 && b2 && b3 && (b4 || b5))) := by show _ = _; unfold okV inM; rw [e1, e2, e3, e4, e5]
  have q := pre_spec (w.alloc (.cells #[.int .i64 a, .int .i64 b, .int .i64 c, .string p] 45)) p hp
  rw [e5] at q
  have hB : Below w.heap.size w (w.alloc (.cells #[.int .i64 a, .int .i64 b, .int .i64 c, .string p] 45)) := (Below.refl _ _).alloc (Nat.le_refl _) _
  have HB : Hid _ := hB
  clear e4 e5 hB
  unfold ver
  cases b1
  · go_enter Tryz.func86, Tryz.ntmps86
    go_wp2_with (go_at_call 59; refine (in_spec _ _ _ _).mono ?_; rintro e w' ⟨rfl, rfl⟩; first | rw [e1] | rw [e2] | rw [e3])
    go_ret
    exact ⟨by rw [HO.out]; rfl, HB.out⟩
  · cases b2
    · go_enter Tryz.func86, Tryz.ntmps86
      go_wp2_with (go_at_call 59; refine (in_spec _ _ _ _).mono ?_; rintro e w' ⟨rfl, rfl⟩; first | rw [e1] | rw [e2] | rw [e3])
      go_ret
      exact ⟨by rw [HO.out]; rfl, HB.out⟩
    · cases b3
      · go_enter Tryz.func86, Tryz.ntmps86
        go_wp2_with (go_at_call 59; refine (in_spec _ _ _ _).mono ?_; rintro e w' ⟨rfl, rfl⟩; first | rw [e1] | rw [e2] | rw [e3])
        go_ret
        exact ⟨by rw [HO.out]; rfl, HB.out⟩
      · cases b4
        · go_enter Tryz.func86, Tryz.ntmps86
          go_wp2_with (first | (go_at_call 59; refine (in_spec _ _ _ _).mono ?_; rintro e w' ⟨rfl, rfl⟩; first | rw [e1] | rw [e2] | rw [e3]) | (go_at_call 110; refine q.mono ?_; rintro e w' ⟨rfl, bq⟩))
          go_ret
          exact ⟨by rw [HO.out]; rfl, HB.out.trans (bq.mono (by simp))⟩
        · go_enter Tryz.func86, Tryz.ntmps86
          go_wp2_with (go_at_call 59; refine (in_spec _ _ _ _).mono ?_; rintro e w' ⟨rfl, rfl⟩; first | rw [e1] | rw [e2] | rw [e3])
          go_ret
          exact ⟨by rw [HO.out]; rfl, HB.out⟩

end Go.Proofs.YtbopliahafkecaaGreatDoor.Ver

/- Chapter 4, the specification's side: parts of a path, paths. -/
namespace Go.Proofs.YtbopliahafkecaaGreatDoor.Ver
open Go.RowKit Go.Proofs.YtbopliahafkecaaGreatDoor.Mem Go.Proofs.YtbopliahafkecaaGreatDoor.Laws Go.Proofs.YtbopliahafkecaaGreatDoor.Bytes Go.Proofs.YtbopliahafkecaaGreatDoor.Sha
set_option linter.unusedVariables false
set_option linter.unusedSimpArgs false

/-- a sign that may begin a part of a path -/
def plain4 (c : Int) : Bool := decide (97 ≤ c ∧ c ≤ 122) || decide (48 ≤ c ∧ c ≤ 57)
/-- a sign of a part of a path, at place i -/
def sign4 (i : Nat) (c : Int) : Bool := plain4 c || (decide (i ≠ 0) && (decide (c = 45) || decide (c = 46) || decide (c = 95)))
def signs4 : Nat → List Int → Bool
  | _, [] => true
  | i, c :: r => sign4 i c && signs4 (i + 1) r
def part4 (l : List Int) : Bool := signs4 0 l && decide (1 ≤ l.length ∧ l.length ≤ 20)
def path4 (l : List Int) : Bool := (split 47 l).all part4 && decide ((split 47 l).length ≤ 6) && decide (l.length ≤ 60)

theorem signs4_app : ∀ (l r : List Int) (i : Nat), signs4 i (l ++ r) = (signs4 i l && signs4 (i + l.length) r) := by
  intro l
  induction l with
  | nil => intro r i; simp [signs4]
  | cons c l ih =>
    intro r i
    simp only [List.cons_append, signs4, ih, List.length_cons, Bool.and_assoc]
    rw [show i + 1 + l.length = i + (l.length + 1) by omega]
theorem signs4_step {l : List Int} {k : Nat} {c : Int} (hc : l[k]? = some c) : signs4 0 (l.take (k + 1)) = (signs4 0 (l.take k) && sign4 k c) := by
  have hk : k < l.length := (List.getElem?_eq_some_iff.1 hc).1
  rw [take_snoc hc, signs4_app]
  simp [signs4, Nat.min_eq_left (Nat.le_of_lt hk)]
theorem signs4_bad {l : List Int} {k : Nat} {c : Int} (hc : l[k]? = some c) (hb : sign4 k c = false) : signs4 0 l = false := by
  have hk : k < l.length := (List.getElem?_eq_some_iff.1 hc).1
  have h := signs4_step hc
  rw [hb, Bool.and_false] at h
  have e : l = l.take (k + 1) ++ l.drop (k + 1) := (List.take_append_drop _ _).symm
  rw [e, signs4_app, h]
  rfl

set_option maxRecDepth 1000000 in
set_option maxHeartbeats 1000000 in
theorem part4_spec (w : World) (s : ByteArray) (hs : s.size ≤ 1000000000000) : Calls Tryz.prog 99 #[.string s] w fun e w' => e = .returned (.bool (part4 (sb s))) ∧ w = w' := by
  have HP : Hid (part4 (sb s) = (signs4 0 (sb s) && decide (1 ≤ s.size ∧ s.size ≤ 20))) := by show _ = _; unfold part4; rw [sb_len]
  go_enter Tryz.func99, Tryz.ntmps99
  go_wp2
  go_loopw [3] (fun i wr => ∃ k : Nat, k ≤ s.size ∧ i = .int .i64 (k : Int) ∧ Hid (signs4 0 ((sb s).take k) = true) ∧ w = wr) (fun i _ => s.size - (intOf i).toNat)
  case atStart => exact ⟨0, Nat.zero_le _, rfl, rfl, by first | rfl | trivial⟩
  case round =>
    obtain ⟨k, hk, rfl, HA, rfl⟩ := hrel
    by_cases hp : k < s.size
    · have hg := sb_get s k hp
      have hcb := (sb_byt s).at hg
      have HS : Hid (signs4 0 ((sb s).take (k + 1)) = (signs4 0 ((sb s).take k) && sign4 k (s[k].toNat : Int))) := signs4_step hg
      have HB : Hid (sign4 k (s[k].toNat : Int) = false → signs4 0 (sb s) = false) := signs4_bad hg
      obtain ⟨b1, e1⟩ : ∃ x, decide ((97 : Int) ≤ (s[k].toNat : Int) ∧ (s[k].toNat : Int) ≤ 122) = x := ⟨_, rfl⟩
      obtain ⟨b2, e2⟩ : ∃ x, decide ((48 : Int) ≤ (s[k].toNat : Int) ∧ (s[k].toNat : Int) ≤ 57) = x := ⟨_, rfl⟩
      have E1 : Hid (decide ((97 : Int) ≤ (s[k].toNat : Int) ∧ (s[k].toNat : Int) ≤ 122) = b1) := e1
      have E2 : Hid (decide ((48 : Int) ≤ (s[k].toNat : Int) ∧ (s[k].toNat : Int) ≤ 57) = b2) := e2
      clear hg
      cases b1
      · cases b2
        · by_cases h0 : k = 0
          · have d0 : ((k : Int) == 0) = true := by simp; omega
            have HN : Hid (part4 (sb s) = false) := by
              show _ = _
              rw [HP.out, HB.out (by unfold sign4 plain4; rw [E1.out, E2.out]; simp [h0])]
              rfl
            clear h0
            go_wp2_with (go_at_call 59; refine (in_spec _ _ _ _).mono ?_; rintro e w' ⟨rfl, rfl⟩; first | rw [e1] | rw [e2])
            go_ret
            exact ⟨by rw [HN.out]; rfl, rfl⟩
          · have d0 : ((k : Int) == 0) = false := by simp; omega
            by_cases h1 : (s[k].toNat : Int) = 45
            · have d1 : ((s[k].toNat : Int) != 45) = false := by simpa using h1
              have HN : Hid (signs4 0 ((sb s).take (k + 1)) = true) := by show _ = _; rw [HS.out, HA.out]; unfold sign4; simp [h0, h1]
              clear h0 h1
              go_wp2_with (go_at_call 59; refine (in_spec _ _ _ _).mono ?_; rintro e w' ⟨rfl, rfl⟩; first | rw [e1] | rw [e2])
              go_roundw
              case rel => exact ⟨k + 1, by omega, by go_num, HN, by first | rfl | trivial⟩
              case measure => simp [intOf]; omega
            · have d1 : ((s[k].toNat : Int) != 45) = true := by simpa using h1
              by_cases h2 : (s[k].toNat : Int) = 46
              · have d2 : ((s[k].toNat : Int) != 46) = false := by simpa using h2
                have HN : Hid (signs4 0 ((sb s).take (k + 1)) = true) := by show _ = _; rw [HS.out, HA.out]; unfold sign4; simp [h0, h2]
                clear h0 h1 h2
                go_wp2_with (go_at_call 59; refine (in_spec _ _ _ _).mono ?_; rintro e w' ⟨rfl, rfl⟩; first | rw [e1] | rw [e2])
                go_roundw
                case rel => exact ⟨k + 1, by omega, by go_num, HN, by first | rfl | trivial⟩
                case measure => simp [intOf]; omega
              · have d2 : ((s[k].toNat : Int) != 46) = true := by simpa using h2
                by_cases h3 : (s[k].toNat : Int) = 95
                · have d3 : ((s[k].toNat : Int) != 95) = false := by simpa using h3
                  have HN : Hid (signs4 0 ((sb s).take (k + 1)) = true) := by show _ = _; rw [HS.out, HA.out]; unfold sign4; simp [h0, h3]
                  clear h0 h1 h2 h3
                  go_wp2_with (go_at_call 59; refine (in_spec _ _ _ _).mono ?_; rintro e w' ⟨rfl, rfl⟩; first | rw [e1] | rw [e2])
                  go_roundw
                  case rel => exact ⟨k + 1, by omega, by go_num, HN, by first | rfl | trivial⟩
                  case measure => simp [intOf]; omega
                · have d3 : ((s[k].toNat : Int) != 95) = true := by simpa using h3
                  have HN : Hid (part4 (sb s) = false) := by
                    show _ = _
                    rw [HP.out, HB.out (by unfold sign4 plain4; rw [E1.out, E2.out]; simp [h1, h2, h3])]
                    rfl
                  clear h0 h1 h2 h3
                  go_wp2_with (go_at_call 59; refine (in_spec _ _ _ _).mono ?_; rintro e w' ⟨rfl, rfl⟩; first | rw [e1] | rw [e2])
                  go_ret
                  exact ⟨by rw [HN.out]; rfl, rfl⟩
        · have HN : Hid (signs4 0 ((sb s).take (k + 1)) = true) := by show _ = _; rw [HS.out, HA.out]; unfold sign4 plain4; rw [E2.out]; simp
          go_wp2_with (go_at_call 59; refine (in_spec _ _ _ _).mono ?_; rintro e w' ⟨rfl, rfl⟩; first | rw [e1] | rw [e2])
          go_roundw
          case rel => exact ⟨k + 1, by omega, by go_num, HN, by first | rfl | trivial⟩
          case measure => simp [intOf]; omega
      · have HN : Hid (signs4 0 ((sb s).take (k + 1)) = true) := by show _ = _; rw [HS.out, HA.out]; unfold sign4 plain4; rw [E1.out]; simp
        go_wp2_with (go_at_call 59; refine (in_spec _ _ _ _).mono ?_; rintro e w' ⟨rfl, rfl⟩; first | rw [e1] | rw [e2])
        go_roundw
        case rel => exact ⟨k + 1, by omega, by go_num, HN, by first | rfl | trivial⟩
        case measure => simp [intOf]; omega
    · have HN : Hid (part4 (sb s) = decide ((1 : Int) ≤ (s.size : Int) ∧ (s.size : Int) ≤ 20)) := by
        show _ = _
        have h1 := HA.out
        rw [List.take_of_length_le (by rw [sb_len]; omega)] at h1
        rw [HP.out, h1, Bool.true_and]
        apply decide_eq_decide.2
        omega
      go_wp2_with (go_at_call 59; refine (in_spec _ _ _ _).mono ?_; rintro e w' ⟨rfl, rfl⟩)
      go_ret
      exact ⟨by rw [HN.out]; simp, rfl⟩

end Go.Proofs.YtbopliahafkecaaGreatDoor.Ver

/- Chapter 4, the specification's side: paths. -/
namespace Go.Proofs.YtbopliahafkecaaGreatDoor.Ver
open Go.RowKit Go.Proofs.YtbopliahafkecaaGreatDoor.Mem Go.Proofs.YtbopliahafkecaaGreatDoor.Laws Go.Proofs.YtbopliahafkecaaGreatDoor.Bytes Go.Proofs.YtbopliahafkecaaGreatDoor.Sha
set_option linter.unusedVariables false
set_option linter.unusedSimpArgs false

set_option maxRecDepth 1000000 in
set_option maxHeartbeats 1000000 in
theorem path_spec (w : World) (s : ByteArray) (hs : s.size ≤ 1000000000000) :
    Calls Tryz.prog 79 #[.string s] w fun e w' => e = .returned (.bool (path4 (sb s))) ∧ Below w.heap.size w w' := by
  go_enter Tryz.func79, Tryz.ntmps79
  go_wp2_with fail
  refine (split_spec w s 47 (by omega) (by omega) hs).mono ?_
  rintro e w1 ⟨v1, rfl, o1, b1⟩
  obtain ⟨T, hT⟩ : ∃ T, T = splitT 47 s := ⟨_, rfl⟩
  have hTs := splitT_size 47 s
  have hTl := splitT_len 47 s
  have hTm := splitT_sb 47 s
  rw [← hT] at o1 hTs hTl hTm
  have hT0 : 0 < T.length := by
    have := splitL_pos 47 (sb s) []
    have h2 : T.length = (split 47 (sb s)).length := by rw [← hTm, List.length_map]
    rw [h2]; exact this
  have HP : Hid (path4 (sb s) = (T.all (fun t => part4 (sb t)) && decide (T.length ≤ 6) && decide (s.size ≤ 60))) := by
    show _ = _
    unfold path4
    rw [← hTm, List.all_map, List.length_map, sb_len]
    rfl
  obtain ⟨g, cap, rfl, hg1, hg2, hcap, hc⟩ := ownForm o1 (by rw [ss_len]; exact hT0)
  rw [ss_len] at hcap hc
  rw [ss_len]
  have HC : Hid (∀ j, j < T.length → w1.cell? ⟨g, j, none⟩ = (ss T)[j]?) := hc
  have HTs : Hid (∀ t ∈ T, t.size ≤ s.size) := hTs
  clear hT hTs hTm hc o1
  go_wp2
  go_loopw [4] (fun i wr => ∃ k : Nat, k ≤ T.length ∧ i = .int .i64 (k : Int) ∧ Hid ((T.take k).all (fun t => part4 (sb t)) = true) ∧ w1 = wr) (fun i _ => T.length - (intOf i).toNat)
  case atStart => exact ⟨0, Nat.zero_le _, rfl, rfl, by first | rfl | trivial⟩
  case round =>
    obtain ⟨k, hk, rfl, HA, rfl⟩ := hrel
    by_cases hlt : k < T.length
    · obtain ⟨t, ht⟩ : ∃ t, T[k]? = some t := ⟨T[k], by simp [hlt]⟩
      have hcell : w1.cell? ⟨g, k, none⟩ = some (.string t) := by rw [HC.out k hlt, ss_get, ht]; rfl
      have htm := HTs.out t (List.mem_of_getElem? ht)
      have HT : Hid (T[k]? = some t) := ht
      have q := part4_spec w1 t (by omega)
      obtain ⟨pb, hpb⟩ : ∃ b, part4 (sb t) = b := ⟨_, rfl⟩
      have HB : Hid (part4 (sb t) = pb) := hpb
      rw [hpb] at q
      clear ht hpb
      cases pb
      · have HN : Hid (path4 (sb s) = false) := by
          show _ = _
          rw [HP.out]
          have : T.all (fun t => part4 (sb t)) = false := by
            rw [List.all_eq_false]
            exact ⟨t, List.mem_of_getElem? HT.out, by simp [HB.out]⟩
          rw [this]; rfl
        go_wp2_with (go_at_call 99; refine q.mono ?_; rintro e w' ⟨rfl, rfl⟩)
        go_ret
        exact ⟨by rw [HN.out]; rfl, b1⟩
      · have HN : Hid ((T.take (k + 1)).all (fun t => part4 (sb t)) = true) := by
          show _ = _
          rw [List.take_succ_eq_append_getElem hlt, List.all_append, HA.out]
          have : T[k] = t := by have := HT.out; rw [List.getElem?_eq_getElem hlt] at this; simpa using this
          simp [this, HB.out]
        go_wp2_with (go_at_call 99; refine q.mono ?_; rintro e w' ⟨rfl, rfl⟩)
        go_roundw
        case rel => exact ⟨k + 1, by omega, by go_num, HN, by first | rfl | trivial⟩
        case measure => simp [intOf]; omega
    · have h1 := HA.out
      rw [List.take_of_length_le (by omega)] at h1
      have HN : Hid (path4 (sb s) = (decide (T.length ≤ 6) && decide (s.size ≤ 60))) := by
        show _ = _
        rw [HP.out, h1, Bool.true_and]
      clear h1
      by_cases h6 : T.length ≤ 6
      · have d6 : decide ((T.length : Int) ≤ 6) = true := by simp; omega
        have HN2 : Hid (path4 (sb s) = decide ((s.size : Int) ≤ 60)) := by
          show _ = _
          rw [HN.out, decide_eq_true h6, Bool.true_and, decide_eq_decide]
          omega
        go_wp2
        go_ret
        exact ⟨by rw [HN2.out]; rfl, b1⟩
      · have d6 : decide ((T.length : Int) ≤ 6) = false := by simp; omega
        have HN2 : Hid (path4 (sb s) = false) := by
          show _ = _
          rw [HN.out, decide_eq_false h6, Bool.false_and]
        go_wp2
        go_ret
        exact ⟨by rw [HN2.out]; rfl, b1⟩

end Go.Proofs.YtbopliahafkecaaGreatDoor.Ver

/- Chapter 3, the specification's side: a number's text, a version's text. -/
namespace Go.Proofs.YtbopliahafkecaaGreatDoor.Ver
open Go.RowKit Go.Proofs.YtbopliahafkecaaGreatDoor.Mem Go.Proofs.YtbopliahafkecaaGreatDoor.Laws Go.Proofs.YtbopliahafkecaaGreatDoor.Bytes Go.Proofs.YtbopliahafkecaaGreatDoor.Sha
set_option linter.unusedVariables false
set_option linter.unusedSimpArgs false

/-- a number's digits (at most f + 1 of them) -/
def digF : Nat → Nat → List Int
  | 0, n => [48 + (n : Int)]
  | f + 1, n => if n < 10 then [48 + (n : Int)] else digF f (n / 10) ++ [48 + ((n % 10 : Nat) : Int)]
theorem digF_byt (f : Nat) : ∀ n, n < 10 ^ (f + 1) → Byt (digF f n) := by
  induction f with
  | zero => intro n hn x hx; simp [digF] at hx; omega
  | succ f ih =>
    intro n hn
    unfold digF
    split
    · intro x hx; simp at hx; omega
    · refine (ih _ ?_).app (fun x hx => ?_)
      · rw [Nat.pow_succ] at hn; omega
      · rw [List.mem_singleton] at hx; omega
theorem digF_len (f : Nat) : ∀ n, 1 ≤ (digF f n).length ∧ (digF f n).length ≤ f + 1 := by
  induction f with
  | zero => intro n; simp [digF]
  | succ f ih =>
    intro n
    unfold digF
    split
    · simp
    · have := ih (n / 10); simp; omega
theorem txt_app (a b : List Int) : Plain.txt (a ++ b) = Plain.txt a ++ Plain.txt b := by
  apply ByteArray.ext
  rw [ByteArray.data_append]
  simp [Plain.txt, Plain.u8s]

theorem txt_sizev (l : List Int) : (Plain.txt l).size = l.length := by
  show (Plain.txt l).data.size = _
  simp [Plain.txt, Plain.u8s]

theorem conv_new (W : World) (x : Int) (h0 : 0 ≤ x) (h1 : x ≤ 255) : (convert 22 9 (.slice (some ⟨W.heap.size, 0, none⟩) 1 1)).run Tryz.prog (W.alloc (.cells #[.int .u8 x] 5)) = .ok (.string (Plain.txt [x])) (W.alloc (.cells #[.int .u8 x] 5)) :=
  conv_sl (zs := [x]) (Sl.one W (.int .u8 x) 5) (fun y hy => by rw [List.mem_singleton] at hy; omega)
theorem conv_late {W w5 : World} {x : Int} (h0 : 0 ≤ x) (h1 : x ≤ 255) (b5 : Below (W.alloc (.cells #[.int .u8 x] 5)).drew.heap.size (W.alloc (.cells #[.int .u8 x] 5)).drew w5) : (convert 22 9 (.slice (some ⟨W.heap.size, 0, none⟩) 1 1)).run Tryz.prog w5 = .ok (.string (Plain.txt [x])) w5 :=
  conv_sl (zs := [x]) (Sl.later (w := (W.alloc (.cells #[.int .u8 x] 5)).drew) (Sl.one W (.int .u8 x) 5) b5) (fun y hy => by rw [List.mem_singleton] at hy; omega)

set_option maxRecDepth 1000000 in
set_option maxHeartbeats 1000000 in
theorem text_spec (f : Nat) : ∀ (w : World) (n : Nat), f ≤ 17 → n < 10 ^ (f + 1) → Calls Tryz.prog 32 #[.int .i64 (n : Int)] w fun e w' => e = .returned (.string (Plain.txt (digF f n))) ∧ Below w.heap.size w w' := by
  induction f with
  | zero =>
    intro w n hf hn
    have hn' : n < 10 := by simpa using hn
    have hd : decide ((n : Int) < 10) = true := by simp; omega
    have hconv := conv_sl (zs := [48 + (n : Int)]) (Sl.one w (.int .u8 (48 + (n : Int))) 5) (fun x hx => by rw [List.mem_singleton] at hx; omega)
    clear hn
    go_enter Tryz.func32, Tryz.ntmps32
    go_wp2
    go_ret
    exact ⟨rfl, (Below.refl _ _).alloc (Nat.le_refl _) _⟩
  | succ f ih =>
    intro w n hf hn
    have hnb : n < 1000000000000000000 := Nat.lt_of_lt_of_le hn (by
      have : (10 : Nat) ^ (f + 1 + 1) ≤ 10 ^ 18 := Nat.pow_le_pow_right (by decide) (by omega)
      rw [show (10 : Nat) ^ 18 = 1000000000000000000 by decide] at this
      exact this)
    have hn2 : n / 10 < 10 ^ (f + 1) := by rw [Nat.pow_succ] at hn; omega
    by_cases hlt : n < 10
    · have HF : Hid (digF (f + 1) n = [48 + (n : Int)]) := by show _ = _; unfold digF; rw [if_pos hlt]
      have hd : decide ((n : Int) < 10) = true := by simp; omega
      have hconv := conv_sl (zs := [48 + (n : Int)]) (Sl.one w (.int .u8 (48 + (n : Int))) 5) (fun x hx => by rw [List.mem_singleton] at hx; omega)
      clear hn ih hn2
      go_enter Tryz.func32, Tryz.ntmps32
      go_wp2
      go_ret
      exact ⟨by rw [HF.out]; rfl, (Below.refl _ _).alloc (Nat.le_refl _) _⟩
    · have HF : Hid (Plain.txt (digF (f + 1) n) = Plain.txt (digF f (n / 10)) ++ Plain.txt [48 + ((n % 10 : Nat) : Int)]) := by
        show _ = _
        rw [show digF (f + 1) n = digF f (n / 10) ++ [48 + ((n % 10 : Nat) : Int)] by rw [digF, if_neg hlt], txt_app]
      have hd : decide ((n : Int) < 10) = false := by simp; omega
      have q : ∀ W, _ := fun W => ih W (n / 10) (by omega) hn2
      have e1 : ((n : Int)).tdiv 10 = ((n / 10 : Nat) : Int) := by rw [Int.tdiv_eq_ediv_of_nonneg (by omega)]; omega
      have e2 : ((n : Int)).tmod 10 = ((n % 10 : Nat) : Int) := by rw [Int.tmod_eq_emod_of_nonneg (by omega)]; omega
      have e3 : IntKind.i64.wrap (48 + ((n % 10 : Nat) : Int)) = 48 + ((n % 10 : Nat) : Int) := by rw [IntKind.wrap_i64]; omega
      have e4 : IntKind.u8.wrap (48 + ((n % 10 : Nat) : Int)) = 48 + ((n % 10 : Nat) : Int) := by rw [IntKind.wrap_u8]; omega
      have e5 : IntKind.i64.wrap ((n / 10 : Nat) : Int) = ((n / 10 : Nat) : Int) := by rw [IntKind.wrap_i64]; omega
      obtain ⟨m, hm⟩ : ∃ m, n / 10 = m := ⟨_, rfl⟩
      obtain ⟨r, hr⟩ : ∃ r, n % 10 = r := ⟨_, rfl⟩
      have hr10 : r < 10 := by omega
      rw [hm] at q e1 e5 HF
      rw [hr] at e2 e3 e4 HF
      have hcv : ∀ W : World, (convert 22 9 (.slice (some ⟨W.heap.size, 0, none⟩) 1 1)).run Tryz.prog (W.alloc (.cells #[.int .u8 (48 + (r : Int))] 5)) = .ok (.string (Plain.txt [48 + (r : Int)])) (W.alloc (.cells #[.int .u8 (48 + (r : Int))] 5)) := fun W => conv_new W _ (by omega) (by omega)
      have sz1 : (Plain.txt (digF f m)).size ≤ 20 := by rw [txt_sizev]; have := digF_len f m; omega
      have sz2 : (Plain.txt [48 + (r : Int)]).size = 1 := by rw [txt_sizev]; rfl
      have hcd : (convert 22 9 (.slice (some ⟨w.heap.size, 0, none⟩) 1 1)).run Tryz.prog (w.alloc (.cells #[.int .u8 (48 + (r : Int))] 5)).drew = .ok (.string (Plain.txt [48 + (r : Int)])) (w.alloc (.cells #[.int .u8 (48 + (r : Int))] 5)).drew := conv_sl (zs := [48 + (r : Int)]) (w := (w.alloc (.cells #[.int .u8 (48 + (r : Int))] 5)).drew) (Sl.one w (.int .u8 (48 + (r : Int))) 5) (fun y hy => by rw [List.mem_singleton] at hy; omega)
      clear hn ih hn2 hm hr
      go_enter Tryz.func32, Tryz.ntmps32
      go_wp2
      go_region_with (go_at_call 32; refine (q _).mono ?_; rintro e5 w5 ⟨rfl, b5⟩; try (have hc5 := conv_late (W := w) (x := 48 + (r : Int)) (by omega) (by omega) b5))
      all_goals go_wp2
      all_goals go_ret
      all_goals refine ⟨by rw [HF.out]; rfl, ?_⟩
      all_goals first | exact ((Below.drew (Below.refl w.heap.size w)).trans b5).alloc (by exact b5.size) _ | exact (Below.drew ((Below.refl w.heap.size w).alloc (Nat.le_refl _) _)).trans (b5.mono (by simp))

theorem keepCell {W W' : World} {p : Addr} {x : Value} (h : W.cell? p = some x) (b : Below W.heap.size W W') : W'.cell? p = some x := by
  rw [b.cell (World.block_lt_of_cell? W p h)]; exact h
theorem txt_sbv (s : ByteArray) : Plain.txt (sb s) = s := by
  apply ByteArray.ext
  apply Array.ext'
  show Plain.u8s (sb s) = _
  exact u8s_sb s

/-- a version's text -/
def vt (a b c : Int) (p : ByteArray) : List Int := [118] ++ digF 6 a.toNat ++ [46] ++ digF 6 b.toNat ++ [46] ++ digF 6 c.toNat ++ (if p.size = 0 then [] else [45] ++ sb p)
def verText (a b c : Int) (p : ByteArray) : List Int := if okV a b c p = true then vt a b c p else []

theorem inM_nat {a : Int} (h : inM a = true) : ∃ n : Nat, a = (n : Int) ∧ n ≤ 1000000 := by
  unfold inM at h
  have := of_decide_eq_true h
  exact ⟨a.toNat, by omega, by omega⟩

end Go.Proofs.YtbopliahafkecaaGreatDoor.Ver

/- Chapter 3, the specification's side: a version's text. -/
namespace Go.Proofs.YtbopliahafkecaaGreatDoor.Ver
set_option linter.unusedVariables false
set_option linter.unusedSimpArgs false
open Go.RowKit Go.Proofs.YtbopliahafkecaaGreatDoor.Mem Go.Proofs.YtbopliahafkecaaGreatDoor.Laws Go.Proofs.YtbopliahafkecaaGreatDoor.Bytes Go.Proofs.YtbopliahafkecaaGreatDoor.Sha

set_option maxRecDepth 1000000 in
set_option maxHeartbeats 2000000 in
theorem vtext_spec (w : World) (a b c : Int) (p : ByteArray) (hp : p.size ≤ 1000000000000) :
    Calls Tryz.prog 62 #[ver a b c p] w fun e w' => e = .returned (.string (Plain.txt (verText a b c p))) ∧ Below w.heap.size w w' := by
  have q0 := ok_spec (w.alloc (.cells #[.int .i64 a, .int .i64 b, .int .i64 c, .string p] 45)) a b c p hp
  have hB : Below w.heap.size w (w.alloc (.cells #[.int .i64 a, .int .i64 b, .int .i64 c, .string p] 45)) := (Below.refl _ _).alloc (Nat.le_refl _) _
  have HB : Hid _ := hB
  unfold ver at q0
  obtain ⟨ok, hok⟩ : ∃ x, okV a b c p = x := ⟨_, rfl⟩
  rw [hok] at q0
  have HO : Hid (okV a b c p = ok) := hok
  clear hok hB
  unfold ver
  cases ok
  · have HT : Hid (verText a b c p = []) := by show _ = _; unfold verText; rw [HO.out]; rfl
    go_enter Tryz.func62, Tryz.ntmps62
    go_wp2_with (go_at_call 86; refine q0.mono ?_; rintro e w1 ⟨rfl, b1⟩)
    go_ret
    exact ⟨by rw [HT.out]; rfl, HB.out.trans (b1.mono (by simp))⟩
  · have HT : Hid (verText a b c p = vt a b c p) := by show _ = _; unfold verText; rw [HO.out]; rfl
    have h3 := HO.out
    unfold okV at h3
    simp only [Bool.and_eq_true] at h3
    obtain ⟨na, rfl, hna⟩ := inM_nat h3.1.1.1
    obtain ⟨nb', rfl, hnb⟩ := inM_nat h3.1.1.2
    obtain ⟨nc, rfl, hnc⟩ := inM_nat h3.1.2
    have q1 : ∀ W, _ := fun W => text_spec 6 W na (by omega) (by omega)
    have q2 : ∀ W, _ := fun W => text_spec 6 W nb' (by omega) (by omega)
    have q3 : ∀ W, _ := fun W => text_spec 6 W nc (by omega) (by omega)
    have sA := digF_len 6 na
    have sB := digF_len 6 nb'
    have sC := digF_len 6 nc
    rw [← txt_sizev] at sA sB sC
    have HV : Hid (vt na nb' nc p = [118] ++ digF 6 na ++ [46] ++ digF 6 nb' ++ [46] ++ digF 6 nc ++ (if p.size = 0 then [] else [45] ++ sb p)) := rfl
    obtain ⟨tA, hA⟩ : ∃ t, Plain.txt (digF 6 na) = t := ⟨_, rfl⟩
    obtain ⟨tB, hB⟩ : ∃ t, Plain.txt (digF 6 nb') = t := ⟨_, rfl⟩
    obtain ⟨tC, hC⟩ : ∃ t, Plain.txt (digF 6 nc) = t := ⟨_, rfl⟩
    rw [hA] at q1 sA
    rw [hB] at q2 sB
    rw [hC] at q3 sC
    have HS : Hid (Plain.txt (digF 6 na) = tA ∧ Plain.txt (digF 6 nb') = tB ∧ Plain.txt (digF 6 nc) = tC) := ⟨hA, hB, hC⟩
    clear hA hB hC h3 HO
    obtain ⟨x1, hx1⟩ : ∃ x, (⟨#[118]⟩ : ByteArray) ++ tA = x := ⟨_, rfl⟩
    obtain ⟨x2, hx2⟩ : ∃ x, x1 ++ (⟨#[46]⟩ : ByteArray) = x := ⟨_, rfl⟩
    obtain ⟨x3, hx3⟩ : ∃ x, x2 ++ tB = x := ⟨_, rfl⟩
    obtain ⟨x4, hx4⟩ : ∃ x, x3 ++ (⟨#[46]⟩ : ByteArray) = x := ⟨_, rfl⟩
    obtain ⟨x5, hx5⟩ : ∃ x, x4 ++ tC = x := ⟨_, rfl⟩
    obtain ⟨x6, hx6⟩ : ∃ x, x5 ++ (⟨#[45]⟩ : ByteArray) = x := ⟨_, rfl⟩
    have n1 : x1.size ≤ 8 := by rw [← hx1, ByteArray.size_append]; show 1 + tA.size ≤ 8; omega
    have n2 : x2.size ≤ 9 := by rw [← hx2, ByteArray.size_append]; show x1.size + 1 ≤ 9; omega
    have n3 : x3.size ≤ 16 := by rw [← hx3, ByteArray.size_append]; omega
    have n4 : x4.size ≤ 17 := by rw [← hx4, ByteArray.size_append]; show x3.size + 1 ≤ 17; omega
    have n5 : x5.size ≤ 24 := by rw [← hx5, ByteArray.size_append]; omega
    have n6 : x6.size ≤ 25 := by rw [← hx6, ByteArray.size_append]; show x5.size + 1 ≤ 25; omega
    have g1 : 1 + tA.size ≤ 9223372036854775807 := by omega
    have g2 : x1.size ≤ 9223372036854775806 := by omega
    have g3 : x2.size + tB.size ≤ 9223372036854775807 := by omega
    have g4 : x3.size ≤ 9223372036854775806 := by omega
    have g5 : x4.size + tC.size ≤ 9223372036854775807 := by omega
    have g6 : x5.size ≤ 9223372036854775806 := by omega
    have g7 : x6.size + p.size ≤ 9223372036854775807 := by omega
    have HX : Hid (x5 = Plain.txt ([118] ++ digF 6 na ++ [46] ++ digF 6 nb' ++ [46] ++ digF 6 nc) ∧ x6 ++ p = Plain.txt ([118] ++ digF 6 na ++ [46] ++ digF 6 nb' ++ [46] ++ digF 6 nc ++ ([45] ++ sb p))) := by
      have h5 : x5 = Plain.txt ([118] ++ digF 6 na ++ [46] ++ digF 6 nb' ++ [46] ++ digF 6 nc) := by
        rw [← hx5, ← hx4, ← hx3, ← hx2, ← hx1, ← HS.out.1, ← HS.out.2.1, ← HS.out.2.2]
        simp only [txt_app]
        rfl
      refine ⟨h5, ?_⟩
      rw [← hx6, h5, txt_app (_ ++ digF 6 nc), txt_app [45], txt_sbv, ← ByteArray.append_assoc]
      rfl
    clear n1 n2 n3 n4
    go_enter Tryz.func62, Tryz.ntmps62
    go_wp2_with (go_at_call 86; refine q0.mono ?_; rintro e w1 ⟨rfl, b1⟩)
    have k0 : w1.cell? ⟨w.heap.size, 0, none⟩ = some (.int .i64 (na : Int)) := keepCell (by simp) b1
    have k1 : w1.cell? ⟨w.heap.size, 1, none⟩ = some (.int .i64 (nb' : Int)) := keepCell (by simp) b1
    have k2 : w1.cell? ⟨w.heap.size, 2, none⟩ = some (.int .i64 (nc : Int)) := keepCell (by simp) b1
    have k3 : w1.cell? ⟨w.heap.size, 3, none⟩ = some (.string p) := keepCell (by simp) b1
    have r1 : ¬ 9223372036854775807 < 1 + tA.size := by omega
    have r2 : ¬ 9223372036854775807 < x1.size + 1 := by omega
    have r3 : ¬ 9223372036854775807 < x2.size + tB.size := by omega
    have r4 : ¬ 9223372036854775807 < x3.size + 1 := by omega
    have r5 : ¬ 9223372036854775807 < x4.size + tC.size := by omega
    have r6 : ¬ 9223372036854775806 < x1.size := by omega
    have r7 : ¬ 9223372036854775806 < x3.size := by omega
    go_region_held3 (fun w' => w'.cell? ⟨w.heap.size, 0, none⟩ = some (.int .i64 (na : Int)) ∧ w'.cell? ⟨w.heap.size, 1, none⟩ = some (.int .i64 (nb' : Int)) ∧ w'.cell? ⟨w.heap.size, 2, none⟩ = some (.int .i64 (nc : Int)) ∧ w'.cell? ⟨w.heap.size, 3, none⟩ = some (.string p))
      (first | go_keep | (go_split_ands; refine ⟨keepCell ?_ bb5, keepCell ?_ bb5, keepCell ?_ bb5, keepCell ?_ bb5⟩ <;> assumption) | (go_split_ands; refine ⟨keepCell ?_ bb6, keepCell ?_ bb6, keepCell ?_ bb6, keepCell ?_ bb6⟩ <;> assumption) | (go_split_ands; refine ⟨keepCell ?_ bb7, keepCell ?_ bb7, keepCell ?_ bb7, keepCell ?_ bb7⟩ <;> assumption))
      (first | (go_at_call_of 32 na; refine (q1 _).mono ?_; rintro e5 w5 ⟨rfl, bb5⟩) | (go_at_call_of 32 nb'; refine (q2 _).mono ?_; rintro e6 w6 ⟨rfl, bb6⟩) | (go_at_call_of 32 nc; refine (q3 _).mono ?_; rintro e7 w7 ⟨rfl, bb7⟩))
    have k9 : w7.cell? ⟨w.heap.size, 3, none⟩ = some (.string p) := keepCell (keepCell (keepCell (W := w1.drew) k3 bb5) bb6) bb7
    have B1 : Below w.heap.size w w1 := HB.out.trans (b1.mono (by simp))
    have B5 : Below w.heap.size w w5 := (Below.drew B1).trans (bb5.mono B1.size)
    have B6 : Below w.heap.size w w6 := B5.trans (bb6.mono B5.size)
    have hbw : Below w.heap.size w w7 := B6.trans (bb7.mono B6.size)
    clear B1 B5 B6 bb5 bb6 bb7 b1 k0 k1 k2 k3 q0 q1 q2 q3 r1 r2 r3 r4 r5 r6 r7
    by_cases h0 : p.size = 0
    · have he : p.toList.isEmpty = true := by rw [toList_empty]; simp [h0]
      have HF : Hid (x5 = Plain.txt (verText na nb' nc p)) := by show _ = _; rw [HT.out, HV.out, if_pos h0, List.append_nil]; exact HX.out.1
      clear hx1 hx2 hx3 hx4 hx5 hx6
      go_wp2
      go_ret
      exact ⟨by rw [← HF.out]; rfl, hbw⟩
    · have he : p.toList.isEmpty = false := by rw [toList_empty]; simp [h0]
      have HF : Hid (x6 ++ p = Plain.txt (verText na nb' nc p)) := by show _ = _; rw [HT.out, HV.out, if_neg h0]; exact HX.out.2
      clear hx1 hx2 hx3 hx4 hx5
      go_wp2
      go_ret
      exact ⟨by rw [← HF.out]; rfl, hbw⟩

end Go.Proofs.YtbopliahafkecaaGreatDoor.Ver

/- Chapter 3, the specification's side: which of two versions is less. -/
namespace Go.Proofs.YtbopliahafkecaaGreatDoor.Ver
set_option linter.unusedVariables false
set_option linter.unusedSimpArgs false
open Go.RowKit Go.Proofs.YtbopliahafkecaaGreatDoor.Mem Go.Proofs.YtbopliahafkecaaGreatDoor.Laws Go.Proofs.YtbopliahafkecaaGreatDoor.Bytes Go.Proofs.YtbopliahafkecaaGreatDoor.Sha

/-- two texts: byte by byte less; the same -/
def ltT (a b : ByteArray) : Bool := Op.bytesLess a.toList b.toList
def eqT (a b : ByteArray) : Bool := a.toList == b.toList
def lessPart (a b : ByteArray) : Bool :=
  if 0 ≤ number (sb a) then (if 0 ≤ number (sb b) then decide (number (sb a) < number (sb b)) else true) else (if 0 ≤ number (sb b) then false else ltT a b)
def lessL : List ByteArray → List ByteArray → Bool
  | [], [] => false
  | [], _ :: _ => true
  | _ :: _, [] => false
  | t :: r, u :: q => if eqT t u = true then lessL r q else lessPart t u
def lessPre (a b : ByteArray) : Bool := lessL (splitT 46 a) (splitT 46 b)

theorem quiet_eqv {P : Program} {f : FuncId} {args : Array Value} {w : World} {n : Nat} {v : Value}
    (h : Calls P f args (w.drewN n) fun e w' => e = .returned v ∧ w.drewN n = w') : Calls P f args (w.drewN n) fun e w'' => e = .returned v ∧ ∃ m, w'' = w.drewN m :=
  h.mono fun _ _ ⟨he, hm⟩ => ⟨he, n, hm.symm⟩

theorem drop_consS {l : List ByteArray} {k : Nat} {c : ByteArray} (hc : l[k]? = some c) : l.drop k = c :: l.drop (k + 1) := by
  obtain ⟨hk, rfl⟩ := List.getElem?_eq_some_iff.1 hc
  rw [List.drop_eq_getElem_cons hk]
theorem splitT_pos (b : Int) (s : ByteArray) : 0 < (splitT b s).length := by
  unfold splitT
  rw [List.length_map]
  exact splitL_pos b (sb s) []
theorem lessL_end {T U : List ByteArray} {k : Nat} (h : T.length ≤ k ∨ U.length ≤ k) : lessL (T.drop k) (U.drop k) = decide ((T.drop k).length < (U.drop k).length) := by
  rcases h with h | h
  · rw [List.drop_eq_nil_of_le h]
    cases U.drop k with
    | nil => rfl
    | cons x r => simp [lessL]
  · rw [List.drop_eq_nil_of_le h]
    cases T.drop k with
    | nil => rfl
    | cons x r => simp [lessL]

end Go.Proofs.YtbopliahafkecaaGreatDoor.Ver

/- Chapter 4, the specification's side: the number that a path's last part tells. -/
namespace Go.Proofs.YtbopliahafkecaaGreatDoor.Ver
open Go.RowKit Go.Proofs.YtbopliahafkecaaGreatDoor.Mem Go.Proofs.YtbopliahafkecaaGreatDoor.Laws Go.Proofs.YtbopliahafkecaaGreatDoor.Bytes Go.Proofs.YtbopliahafkecaaGreatDoor.Sha
set_option linter.unusedVariables false
set_option linter.unusedSimpArgs false

/-- a path's last part; the number that it tells, 0 if none -/
def lastT (s : ByteArray) : ByteArray := (splitT 47 s).getLast?.getD ⟨#[]⟩
def in4 (n : Int) : Int := if 2 ≤ n ∧ n ≤ 1000 then n else 0
def maj4 (s : ByteArray) : Int :=
  if (splitT 47 s).length < 2 ∨ (sb (lastT s)).head? ≠ some 118 then 0 else in4 (number (sb ((lastT s).extract 1 (lastT s).size)))
def major4 (s : ByteArray) : Int := if path4 (sb s) = true then (if maj4 s = 0 then 1 else maj4 s) else 0

theorem maj4_bd (s : ByteArray) : maj4 s = 0 ∨ (2 ≤ maj4 s ∧ maj4 s ≤ 1000) := by
  unfold maj4 in4
  split
  · exact .inl rfl
  · split
    · rename_i h; exact .inr h
    · exact .inl rfl

theorem head_none {t : ByteArray} (h : t.size = 0) : (sb t).head? = none := by
  have : sb t = [] := List.eq_nil_of_length_eq_zero (by rw [sb_len]; exact h)
  rw [this]; rfl
theorem head_get {t : ByteArray} (h : 0 < t.size) : (sb t).head? = some (t[0].toNat : Int) := by
  rw [List.head?_eq_getElem?, sb_get t 0 h]

set_option maxRecDepth 1000000 in
set_option maxHeartbeats 1000000 in
theorem maj_spec (w : World) (s : ByteArray) (hs : s.size ≤ 1000000000000) :
    Calls Tryz.prog 80 #[.string s] w fun e w' => e = .returned (.int .i64 (maj4 s)) ∧ Below w.heap.size w w' := by
  go_enter Tryz.func80, Tryz.ntmps80
  go_wp2_with fail
  refine (split_spec w s 47 (by omega) (by omega) hs).mono ?_
  rintro e w1 ⟨v1, rfl, o1, b1⟩
  have hTs := splitT_size 47 s
  have hTl := splitT_len 47 s
  have hT0 := splitT_pos 47 s
  have HM : Hid (maj4 s = if (splitT 47 s).length < 2 ∨ (sb (lastT s)).head? ≠ some 118 then 0 else in4 (number (sb ((lastT s).extract 1 (lastT s).size)))) := rfl
  have HL : Hid (lastT s = (splitT 47 s).getLast?.getD ⟨#[]⟩) := rfl
  obtain ⟨T, hT⟩ : ∃ T, splitT 47 s = T := ⟨_, rfl⟩
  rw [hT] at o1 hTs hTl hT0 HM HL
  clear hT
  obtain ⟨t, ht⟩ : ∃ t, T[T.length - 1]? = some t := ⟨T[T.length - 1], by rw [List.getElem?_eq_getElem (by omega)]⟩
  have hlast : lastT s = t := by rw [HL.out, List.getLast?_eq_getElem?, ht]; rfl
  rw [hlast] at HM
  have hts := hTs t (List.mem_of_getElem? ht)
  obtain ⟨g, cap, rfl, hg1, hg2, hcap, hc⟩ := ownForm o1 (by rw [ss_len]; exact hT0)
  rw [ss_len] at hcap hc
  rw [ss_len]
  have hcell : w1.cell? ⟨g, T.length - 1, none⟩ = some (.string t) := by rw [hc _ (by omega), ss_get, ht]; rfl
  clear hc ht hTs HL hlast o1
  have dn : ((T.length : Int) - 1).toNat = T.length - 1 := by omega
  have v0 : (0 : Int) ≤ (T.length : Int) - 1 := by omega
  have v1 : (T.length : Int) - 1 < (T.length : Int) := by omega
  by_cases h2 : T.length < 2
  · have d2 : decide ((T.length : Int) < 2) = true := by simp; omega
    have HN : Hid (maj4 s = 0) := by show _ = _; rw [HM.out, if_pos (.inl h2)]
    clear HM
    go_wp2
    go_ret
    exact ⟨by rw [HN.out]; rfl, b1⟩
  · have d2 : decide ((T.length : Int) < 2) = false := by simp; omega
    by_cases h0 : t.size = 0
    · have he : t.toList.isEmpty = true := by rw [toList_empty]; exact decide_eq_true h0
      have HN : Hid (maj4 s = 0) := by show _ = _; rw [HM.out, if_pos (.inr (by rw [head_none h0]; simp))]
      clear HM
      go_wp2
      go_ret
      exact ⟨by rw [HN.out]; rfl, b1⟩
    · have he : t.toList.isEmpty = false := by rw [toList_empty]; exact decide_eq_false h0
      have hp : 0 < t.size := by omega
      have hh := head_get hp
      by_cases hv : (t[0].toNat : Int) = 118
      · have dv : ((t[0].toNat : Int) != 118) = false := by simpa using hv
        have HN : Hid (maj4 s = in4 (number (sb (t.extract 1 t.size)))) := by
          show _ = _
          rw [HM.out, if_neg (by rintro (h | h); exact h2 h; exact h (by rw [hh, hv]))]
        have hu : (t.extract 1 t.size).size ≤ s.size := by simp; omega
        have q : ∀ W, _ := fun W => number_spec W (t.extract 1 t.size) (by omega)
        obtain ⟨u, hu'⟩ : ∃ u, t.extract 1 t.size = u := ⟨_, rfl⟩
        rw [hu'] at HN hu
        simp only [hu'] at q
        obtain ⟨n, hn⟩ : ∃ n, number (sb u) = n := ⟨_, rfl⟩
        rw [hn] at HN
        simp only [hn] at q
        clear HM hh hv hn
        by_cases hr : 2 ≤ n ∧ n ≤ 1000
        · have dr : decide ((2 : Int) ≤ n ∧ n ≤ 1000) = true := by simpa using hr
          have HN2 : Hid (maj4 s = n) := by show _ = _; rw [HN.out]; unfold in4; rw [if_pos hr]
          clear HN
          go_wp2_with (first | (go_at_call 42; refine (q _).mono ?_; rintro e w' ⟨rfl, rfl⟩) | (go_at_call 59; refine (in_spec _ _ _ _).mono ?_; rintro e w' ⟨rfl, rfl⟩; rw [dr]))
          go_ret
          exact ⟨by rw [HN2.out]; rfl, b1⟩
        · have dr : decide ((2 : Int) ≤ n ∧ n ≤ 1000) = false := by simpa using hr
          have HN2 : Hid (maj4 s = 0) := by show _ = _; rw [HN.out]; unfold in4; rw [if_neg hr]
          clear HN
          go_wp2_with (first | (go_at_call 42; refine (q _).mono ?_; rintro e w' ⟨rfl, rfl⟩) | (go_at_call 59; refine (in_spec _ _ _ _).mono ?_; rintro e w' ⟨rfl, rfl⟩; rw [dr]))
          go_ret
          exact ⟨by rw [HN2.out]; rfl, b1⟩
      · have dv : ((t[0].toNat : Int) != 118) = true := by simpa using hv
        have HN : Hid (maj4 s = 0) := by
          show _ = _
          rw [HM.out, if_pos (.inr (by rw [hh]; simpa using hv))]
        clear HM hh hv
        go_wp2
        go_ret
        exact ⟨by rw [HN.out]; rfl, b1⟩

end Go.Proofs.YtbopliahafkecaaGreatDoor.Ver

/- Chapter 4, the specification's side: a path's major number, what fits it, its base. -/
namespace Go.Proofs.YtbopliahafkecaaGreatDoor.Ver
open Go.RowKit Go.Proofs.YtbopliahafkecaaGreatDoor.Mem Go.Proofs.YtbopliahafkecaaGreatDoor.Laws Go.Proofs.YtbopliahafkecaaGreatDoor.Bytes Go.Proofs.YtbopliahafkecaaGreatDoor.Sha
set_option linter.unusedVariables false
set_option linter.unusedSimpArgs false

def fits4 (s : ByteArray) (a b c : Int) (p : ByteArray) : Bool :=
  decide (0 < major4 s) && okV a b c p && (decide (a = major4 s) || (decide (major4 s = 1) && decide (a = 0)))
def base4 (s : ByteArray) : ByteArray :=
  if path4 (sb s) = true then (if maj4 s = 0 then s else s.extract 0 (s.size - 2 - (digF 6 (maj4 s).toNat).length)) else ⟨#[]⟩

set_option maxRecDepth 1000000 in
set_option maxHeartbeats 1000000 in
theorem major_spec (w : World) (s : ByteArray) (hs : s.size ≤ 1000000000000) :
    Calls Tryz.prog 51 #[.string s] w fun e w' => e = .returned (.int .i64 (major4 s)) ∧ Below w.heap.size w w' := by
  have HM : Hid (major4 s = if path4 (sb s) = true then (if maj4 s = 0 then 1 else maj4 s) else 0) := rfl
  have q1 := path_spec w s hs
  have q2 : ∀ W, _ := fun W => maj_spec W s hs
  obtain ⟨ok, hok⟩ : ∃ b, path4 (sb s) = b := ⟨_, rfl⟩
  obtain ⟨n, hn⟩ : ∃ n, maj4 s = n := ⟨_, rfl⟩
  rw [hok, hn] at HM
  rw [hok] at q1
  simp only [hn] at q2
  clear hok hn
  go_enter Tryz.func51, Tryz.ntmps51
  go_wp2_with fail
  refine q1.mono ?_
  rintro e w1 ⟨rfl, b1⟩
  cases ok
  · have HN : Hid (major4 s = 0) := HM.out
    clear HM
    go_wp2
    go_ret
    exact ⟨by rw [HN.out]; rfl, b1⟩
  · replace HM : Hid (major4 s = if n = 0 then 1 else n) := HM.out
    go_wp2_with fail
    refine (q2 _).mono ?_
    rintro e w2 ⟨rfl, b2⟩
    have hb2 : Below w.heap.size w w2 := b1.trans (b2.mono b1.size)
    by_cases h0 : n = 0
    · have d0 : (n == 0) = true := by simpa using h0
      have HN : Hid (major4 s = 1) := by show _ = _; rw [HM.out, if_pos h0]
      clear HM
      go_wp2
      go_ret
      exact ⟨by rw [HN.out]; rfl, hb2⟩
    · have d0 : (n == 0) = false := by simpa using h0
      have HN : Hid (major4 s = n) := by show _ = _; rw [HM.out, if_neg h0]
      clear HM
      go_wp2
      go_ret
      exact ⟨by rw [HN.out]; rfl, hb2⟩

theorem major4_bd (s : ByteArray) : 0 ≤ major4 s ∧ major4 s ≤ 1000 := by
  unfold major4
  have := maj4_bd s
  split
  · split <;> omega
  · omega

end Go.Proofs.YtbopliahafkecaaGreatDoor.Ver

/- Chapter 4: paths and their last parts; plain facts alone. -/
namespace Go.Proofs.YtbopliahafkecaaGreatDoor.Mod
open Go.RowKit Go.Proofs.YtbopliahafkecaaGreatDoor.Mem Go.Proofs.YtbopliahafkecaaGreatDoor.Laws Go.Proofs.YtbopliahafkecaaGreatDoor.Bytes Go.Proofs.YtbopliahafkecaaGreatDoor.Sha Go.Proofs.YtbopliahafkecaaGreatDoor.Ver
set_option linter.unusedVariables false
set_option linter.unusedSimpArgs false

theorem pow_one (n : Nat) : (1 : Int) ≤ 10 ^ n := by
  induction n with
  | zero => simp
  | succ n ih => rw [Int.pow_succ]; omega
theorem pow_up (m : Nat) : ∀ k : Nat, (10 : Int) ^ m ≤ 10 ^ (m + k) := by
  intro k
  induction k with
  | zero => simp
  | succ k ih =>
    have := pow_one (m + k)
    rw [← Nat.add_assoc, Int.pow_succ]
    omega
theorem pow_le {m n : Nat} (h : m ≤ n) : (10 : Int) ^ m ≤ 10 ^ n := by
  have := pow_up m (n - m)
  rw [show m + (n - m) = n by omega] at this
  exact this
theorem snoc_of {l : List Int} (h : l ≠ []) : ∃ l' c, l = l' ++ [c] := ⟨l.dropLast, l.getLast h, (List.dropLast_concat_getLast h).symm⟩
/-- digits whose first is no nought are no less than a power of ten -/
theorem numv_big : ∀ (n : Nat) (l : List Int), l.length = n + 1 → l.all isd = true → l.head? ≠ some 48 → (10 : Int) ^ n ≤ numv l := by
  intro n
  induction n with
  | zero =>
    intro l hl ha hh
    match l, hl with
    | [c], _ =>
      simp [isd] at ha
      simp at hh
      simp [numv]
      omega
  | succ n ih =>
    intro l hl ha hh
    obtain ⟨l', c, rfl⟩ := snoc_of (l := l) (by intro h; rw [h] at hl; simp at hl)
    have hl' : l'.length = n + 1 := by simp at hl; omega
    rw [List.all_append, Bool.and_eq_true] at ha
    have hc : 48 ≤ c ∧ c ≤ 57 := by simpa [isd] using ha.2
    have h2 : l'.head? ≠ some 48 := by
      cases l' with
      | nil => simp at hl'
      | cons x y => simpa using hh
    have := ih l' hl' ha.1 h2
    rw [numv_snoc, Int.pow_succ]
    omega

theorem digF_back : ∀ (f : Nat) (l : List Int), (l.all isd = true ∧ l ≠ [] ∧ (1 < l.length → l.head? ≠ some 48)) → numv l < 10 ^ (f + 1) → digF f (numv l).toNat = l := by
  intro f
  induction f with
  | zero =>
    intro l hn hv
    obtain ⟨ha, h0, hh⟩ := hn
    have hp : 0 < l.length := List.length_pos_iff.2 h0
    have h1 : l.length = 1 := by
      by_cases h : l.length = 1
      · exact h
      · have hb := numv_big (l.length - 1) l (by omega) ha (hh (by omega))
        have : (10 : Int) ^ 1 ≤ 10 ^ (l.length - 1) := pow_le (by omega)
        simp at hv this
        omega
    match l, h1 with
    | [c], _ =>
      have hc : 48 ≤ c ∧ c ≤ 57 := by simpa [isd] using ha
      simp [digF, numv]
      omega
  | succ f ih =>
    intro l hn hv
    obtain ⟨ha, h0, hh⟩ := hn
    have hp : 0 < l.length := List.length_pos_iff.2 h0
    by_cases h1 : l.length = 1
    · match l, h1 with
      | [c], _ =>
        have hc : 48 ≤ c ∧ c ≤ 57 := by simpa [isd] using ha
        have : (numv [c]).toNat < 10 := by simp [numv]; omega
        unfold digF
        rw [if_pos this]
        simp [numv]
        omega
    · obtain ⟨l', c, rfl⟩ := snoc_of h0
      have hl1 : 0 < l'.length := by simp at h1; exact List.length_pos_iff.2 h1
      have hh2 : l'.head? ≠ some 48 := by
        have := hh (by simp; omega)
        cases l' with
        | nil => simp at hl1
        | cons x y => simpa using this
      rw [List.all_append, Bool.and_eq_true] at ha
      have hc : 48 ≤ c ∧ c ≤ 57 := by simpa [isd] using ha.2
      have hn' : l'.all isd = true ∧ l' ≠ [] ∧ (1 < l'.length → l'.head? ≠ some 48) := ⟨ha.1, List.length_pos_iff.1 hl1, fun _ => hh2⟩
      have hb := numv_big (l'.length - 1) l' (by omega) ha.1 hh2
      have hpos : (1 : Int) ≤ 10 ^ (l'.length - 1) := pow_one _
      have hs := numv_snoc l' c
      have hv' : numv l' < 10 ^ (f + 1) := by rw [hs, Int.pow_succ] at hv; omega
      have hr := ih l' hn' hv'
      rw [hs]
      have e1 : (numv l' * 10 + (c - 48)).toNat / 10 = (numv l').toNat := by omega
      have e2 : (((numv l' * 10 + (c - 48)).toNat % 10 : Nat) : Int) = c - 48 := by omega
      unfold digF
      rw [if_neg (by omega), e1, e2, hr]
      simp
      omega

/-- a number's text is the one that it was read of -/
theorem number_back {l : List Int} (h : 0 ≤ number l) (h2 : number l ≤ 1000000) : digF 6 (number l).toNat = l := by
  unfold number at h h2 ⊢
  split at h
  · omega
  · rename_i hc
    rw [if_neg hc] at h2 ⊢
    rw [not_or, not_or] at hc
    obtain ⟨h3, h4, h5⟩ := hc
    have h6 : digs l = true := by simpa using h3
    unfold digs at h6
    rw [Bool.and_eq_true] at h6
    refine digF_back 6 l ⟨h6.1, ?_, fun hl hh => h5 ⟨hl, hh⟩⟩ (by simp; omega)
    have := h6.2
    simpa using this

theorem splitL_app (b : Int) (r : List Int) : ∀ (q cur : List Int), splitL b cur (q ++ [b] ++ r) = splitL b cur q ++ splitL b [] r := by
  intro q
  induction q with
  | nil => intro cur; simp [splitL]
  | cons c q ih =>
    intro cur
    simp only [List.cons_append]
    rw [splitL.eq_2 b cur c (q ++ [b] ++ r), splitL.eq_2 b cur c q]
    split
    · rw [ih]; simp
    · rw [ih]
theorem splitL_none (b : Int) : ∀ (r cur : List Int), (∀ x ∈ r, x ≠ b) → splitL b cur r = [cur ++ r] := by
  intro r
  induction r with
  | nil => intro cur _; simp [splitL]
  | cons c r ih =>
    intro cur h
    unfold splitL
    rw [if_neg (h c (by simp)), ih _ (fun x hx => h x (by simp [hx]))]
    simp
/-- a list that holds b: what stands before its last b, and behind -/
theorem last_of (b : Int) : ∀ l : List Int, b ∈ l → ∃ q r, l = q ++ [b] ++ r ∧ ∀ x ∈ r, x ≠ b := by
  intro l
  induction l with
  | nil => intro h; simp at h
  | cons c l ih =>
    intro h
    by_cases hb : b ∈ l
    · obtain ⟨q, r, rfl, hr⟩ := ih hb
      exact ⟨c :: q, r, by simp, hr⟩
    · have : b = c := by simpa [hb] using h
      subst this
      exact ⟨[], l, by simp, fun x hx e => hb (e ▸ hx)⟩

/-- a path whose last part tells a number -/
theorem maj4_form {s : ByteArray} (h : maj4 s ≠ 0) : ∃ q d : List Int, sb s = q ++ [47] ++ ([118] ++ d) ∧ split 47 (sb s) = split 47 q ++ [[118] ++ d] ∧ number d = maj4 s ∧ digF 6 (maj4 s).toNat = d ∧ 2 ≤ maj4 s ∧ maj4 s ≤ 1000 ∧ ∀ x ∈ d, x ≠ 47 := by
  have hbd := maj4_bd s
  have hm : maj4 s = if (splitT 47 s).length < 2 ∨ (sb (lastT s)).head? ≠ some 118 then 0 else in4 (number (sb ((lastT s).extract 1 (lastT s).size))) := rfl
  split at hm
  · exact absurd hm h
  · rename_i hc
    rw [not_or] at hc
    obtain ⟨h1, h2⟩ := hc
    have hT := splitT_sb 47 s
    have hin : (47 : Int) ∈ sb s := by
      apply Classical.byContradiction
      intro hn
      have : split 47 (sb s) = [sb s] := by
        unfold split
        rw [splitL_none 47 _ _ (fun x hx e => hn (e ▸ hx))]
        simp
      have h3 : (splitT 47 s).length = 1 := by rw [← List.length_map (f := sb), hT, this]; rfl
      omega
    obtain ⟨q, r, hs, hr⟩ := last_of 47 _ hin
    have hsp : split 47 (sb s) = split 47 q ++ [r] := by
      unfold split
      rw [hs, splitL_app, splitL_none 47 r [] hr]
      simp
    have hlast : sb (lastT s) = r := by
      have h4 : (splitT 47 s).map sb = split 47 q ++ [r] := by rw [hT, hsp]
      have h5 : ((splitT 47 s).map sb).getLast? = some r := by rw [h4]; simp
      rw [List.getLast?_map] at h5
      unfold lastT
      cases hg : (splitT 47 s).getLast? with
      | none => rw [hg] at h5; simp at h5
      | some x => rw [hg] at h5; simpa using h5
    rw [hlast] at h2
    have h2' : r.head? = some 118 := by simpa using h2
    obtain ⟨d, rfl⟩ : ∃ d, r = [118] ++ d := by
      cases r with
      | nil => simp at h2'
      | cons x d => simp at h2'; exact ⟨d, by rw [h2']; rfl⟩
    have hd : sb ((lastT s).extract 1 (lastT s).size) = d := by
      rw [ext_txt, hlast]
      have hz : (lastT s).size = d.length + 1 := by rw [← sb_len, hlast]; simp
      rw [hz]
      have hB : Byt d := by
        have := sb_byt (lastT s)
        rw [hlast] at this
        exact fun x hx => this x (by simp [hx])
      rw [show ((([118] ++ d : List Int).drop 1).take (d.length + 1 - 1)) = d by simp]
      exact sb_txtv hB
    rw [hd] at hm
    have hn : number d = maj4 s := by
      rw [hm]
      unfold in4
      split
      · rfl
      · rename_i hc
        exfalso
        apply h
        rw [hm]
        unfold in4
        rw [if_neg hc]
    refine ⟨q, d, hs, hsp, hn, ?_, by omega, by omega, fun x hx => hr x (by simp [hx])⟩
    rw [← hn]
    exact number_back (by omega) (by omega)

theorem maj4_len {s : ByteArray} (h : maj4 s ≠ 0) : 2 + (digF 6 (maj4 s).toNat).length ≤ s.size := by
  obtain ⟨q, d, h1, h2, h3, h4, _⟩ := maj4_form h
  have := congrArg List.length h1
  rw [sb_len] at this
  rw [h4]
  simp at this
  omega
/-- a path's base: the path, or what stands before the last part -/
theorem base4_form {s : ByteArray} (hp : path4 (sb s) = true) : path4 (sb (base4 s)) = true ∧ (base4 s).size ≤ s.size ∧ s.extract 0 (base4 s).size = base4 s ∧ (maj4 s = 0 → base4 s = s) := by
  unfold base4
  rw [if_pos hp]
  by_cases h0 : maj4 s = 0
  · rw [if_pos h0]
    refine ⟨hp, Nat.le_refl _, ?_, fun _ => rfl⟩
    apply ByteArray.ext
    simp
  · rw [if_neg h0]
    obtain ⟨q, d, h1, h2, h3, h4, _⟩ := maj4_form h0
    have hl := congrArg List.length h1
    rw [sb_len] at hl
    rw [h4]
    have e : s.size - 2 - d.length = q.length := by simp at hl; omega
    rw [e]
    have hx : s.extract 0 q.length = Plain.txt q := by rw [ext_txt, h1]; simp
    have hq : Byt q := by
      have := sb_byt s
      rw [h1] at this
      exact fun x hx => this x (by simp [hx])
    have hz : (Plain.txt q).size = q.length := txt_sizev q
    rw [hx, hz, sb_txtv hq]
    refine ⟨?_, by simp at hl; omega, hx, fun h => absurd h h0⟩
    unfold path4 at hp ⊢
    rw [h2] at hp
    rw [h1] at hp
    simp only [Bool.and_eq_true, decide_eq_true_eq, List.all_append, List.length_append] at hp ⊢
    refine ⟨⟨hp.1.1.1, by omega⟩, by omega⟩

end Go.Proofs.YtbopliahafkecaaGreatDoor.Mod
