/- Texts in one: ShaA, LmG. -/
import Derived.Test.YtbopliahafkecaaGreatDoorPk7
import Derived.Test.YtbopliahafkecaaGreatDoorPk26
import Derived.Test.YtbopliahafkecaaGreatDoorPk6
import Derived.Test.YtbopliahafkecaaGreatDoorPk24
import Derived.Laws.CopyOwn
import Derived.Laws.OwnMore
import Derived.BigQuiet
/- Contracts of the program's Padded, HexOf and UnHex: the same plain functions as the specification's. -/
namespace Go.Proofs.YtbopliahafkecaaGreatDoor.Sha
open Go.RowKit Go.Proofs.YtbopliahafkecaaGreatDoor.Mem Go.Proofs.YtbopliahafkecaaGreatDoor.Laws Go.Proofs.YtbopliahafkecaaGreatDoor.Bytes
set_option linter.unusedVariables false
set_option linter.unusedSimpArgs false

theorem set_mid {α : Type} (A : List α) (k : Nat) (z c : α) (B : List α) (p : Nat) (hp : p = A.length + k) : (A ++ List.replicate (k + 1) z ++ B).set p c = A ++ List.replicate k z ++ (c :: B) := by
  subst hp
  rw [List.append_assoc, List.set_append_right _ _ (by omega), Nat.add_sub_cancel_left, List.replicate_succ', List.append_assoc, List.set_append_right _ _ (by simp)]
  simp
theorem drop_be8 (n t : Nat) (ht : t < 8) : (be8 n).drop (8 - (t + 1)) = ((n : Int) / 2 ^ (8 * t) % 256) :: (be8 n).drop (8 - t) := by
  have h := be8_get n (8 - (t + 1)) (by omega)
  obtain ⟨h1, h2⟩ := List.getElem?_eq_some_iff.1 h
  rw [List.drop_eq_getElem_cons h1, h2, show 56 - 8 * (8 - (t + 1)) = 8 * t by omega, show 8 - (t + 1) + 1 = 8 - t by omega]

set_option maxRecDepth 1000000 in
set_option maxHeartbeats 2000000 in
theorem hex_impl (w : World) (s : ByteArray) (hs : s.size ≤ 10000000000000) :
    Calls Tryz.prog 26 #[.string s] w fun e w' => e = .returned (.string (Plain.txt (hexs (sb s)))) ∧ Below w.heap.size w w' := by
  obtain ⟨i0, hi, hz0, hz1, hz2⟩ := info_parts info5
  obtain ⟨N, hN⟩ : ∃ N : Nat, 2 * (s.size : Int) = (N : Int) := ⟨2 * s.size, by omega⟩
  have hNb : N ≤ 20000000000000 := by omega
  go_enter Tryz.func26, Tryz.ntmps26
  go_wp2_with (first | (at_make; refine wpList_make_own _ rfl _ _ 22 rfl w.heap.size 5 i0 (.int .u8 0) 1 Tryz.underlying22 hi hz0 hz1 _ _ _ N rfl rfl rfl (by rw [hz2]; omega) (by unfold maxLen; omega) (Nat.le_refl _) ?_))
  intro w1 hown hgrow
  have hb0 : Below w.heap.size w w1 := (Below.refl _ _).grown hgrow (Nat.le_refl _) (by simp)
  have ho0 : Own w1 w.heap.size w1.heap.size 5 (.slice (some ⟨w.heap.size, 0, none⟩) 0 N) (bs []) := Own.of hown
  clear hown hgrow
  go_wp2
  go_loopw [3, 11] (fun b i wr => ∃ k : Nat, k ≤ s.size ∧ i = .int .i64 k ∧ Own wr w.heap.size wr.heap.size 5 b (bs (hexs ((sb s).take k))) ∧ Below w.heap.size w wr) (fun _ i _ => s.size - (intOf i).toNat)
  case atStart => exact ⟨0, Nat.zero_le _, rfl, ho0, hb0⟩
  case round =>
    obtain ⟨k, hk, rfl, ho, hb⟩ := hrel
    have hsz := hb.size
    clear ho0 hb0
    by_cases hlt : k < s.size
    · have hlt' : (k : Int) < (s.size : Int) := by omega
      have hg0 := sb_get s k hlt
      have hcb := (sb_byt s).at hg0
      have b1 : (0 : Int) ≤ (s[k].toNat : Int) / 16 := by omega
      have b2 : (s[k].toNat : Int) / 16 < 16 := by omega
      have b3 : (0 : Int) ≤ (s[k].toNat : Int) % 16 := by omega
      have b4 : (s[k].toNat : Int) % 16 < 16 := by omega
      have hw1 : IntKind.u8.wrap ((s[k].toNat : Int) / 16) = (s[k].toNat : Int) / 16 := by rw [IntKind.wrap_u8]; omega
      have hw2 : ((s[k].toNat : Int)).tmod 16 = (s[k].toNat : Int) % 16 := Int.tmod_eq_emod_of_nonneg hcb.1
      have HG : Hid ((sb s)[k]? = some (s[k].toNat : Int)) := hg0
      have hl : (bs (hexs ((sb s).take k))).length ≤ 2 * s.size := by rw [bs_len, hexs_len]; simp; omega
      have c2 : ∀ a b : Int, (bs (hexs ((sb s).take k))).length + (bs [a, b]).length ≤ maxLen := fun a b => by simp only [bs_len, List.length_cons, List.length_nil] at *; unfold maxLen; omega
      have c3 : ∀ a b : Int, ((bs (hexs ((sb s).take k))).length + (bs [a, b]).length) * 1 ≤ 140737488355328 := fun a b => by simp only [bs_len, List.length_cons, List.length_nil] at *; omega
      have c4 : ∀ o, w.heap.size ≤ (wr.drew.alloc o).heap.size := fun o => by simp; omega
      have ho' : ∀ o, Own (wr.drew.alloc o) w.heap.size (wr.drew.alloc o).heap.size 5 _ (bs (hexs ((sb s).take k))) := fun o => Own.alloc (w := wr.drew) ho o
      clear hg0 hl
      go_wp2
      go_region_law (first | (refine step_app rfl (.tmp 14) (.tmp 25) 22 rfl 5 i0 (.int .u8 0) 1 Tryz.underlying22 hi hz0 hz1 hz2 rfl w.heap.size _ _ rfl (ho' _) _ rfl _ (Sl.two wr.drew _ _ _) (bs_one _) (c2 _ _) (c3 _ _) (c4 _) ?_; intro v3 w3 ho3 hb3))
      all_goals
        have hb4 : Below w.heap.size w w3 := (Below.alloc (w := wr.drew) (Below.drew hb) hsz _).trans hb3
        have ho4 : Own w3 w.heap.size w3.heap.size 5 v3 (bs (hexs ((sb s).take (k + 1)))) := by
          rw [take_snoc HG.out, hexs_app, hexs_one, bs_app, ← lit_get _ b1 b2 (by show _ < 16; omega), ← lit_get _ b3 b4 (by show _ < 16; omega)]
          exact ho3
        clear ho3 hb3 ho' c2 c3 c4 hw1 hw2
        go_wp2
        go_roundw
        case rel => exact ⟨k + 1, by omega, by go_num, ho4, hb4⟩
        case measure => simp [intOf]; omega
    · rw [List.take_of_length_le (by rw [sb_len]; omega)] at ho
      have hconv := conv_sl ho.sl (hexs_byt _ (sb_byt s))
      go_wp2
      go_ret
      exact ⟨rfl, hb⟩

set_option maxRecDepth 1000000 in
set_option maxHeartbeats 1000000 in
theorem digit_impl (w : World) (c : Int) (h0 : 0 ≤ c) (h1 : c ≤ 255) : Calls Tryz.prog 93 #[.int .u8 c] w fun e w' => e = .returned (.int .i64 (undig c)) ∧ w = w' := by
  by_cases ha : 48 ≤ c ∧ c ≤ 57
  · have HU : Hid (undig c = c - 48) := by show _ = _; unfold undig; rw [if_pos ha]
    have hd1 : decide (48 ≤ c) = true := by simpa using ha.1
    have hd2 : decide (c ≤ 57) = true := by simpa using ha.2
    go_enter Tryz.func93, Tryz.ntmps93
    go_wp2
    all_goals go_ret
    all_goals exact ⟨by rw [HU.out]; rfl, rfl⟩
  · by_cases hb : 97 ≤ c ∧ c ≤ 102
    · have HU : Hid (undig c = c - 97 + 10) := by show _ = _; unfold undig; rw [if_neg ha, if_pos hb]; omega
      have hd1 : decide (48 ≤ c) = true := by simp; omega
      have hd2 : decide (c ≤ 57) = false := by simp; omega
      have hd3 : decide (97 ≤ c) = true := by simp; omega
      have hd4 : decide (c ≤ 102) = true := by simp; omega
      go_enter Tryz.func93, Tryz.ntmps93
      go_wp2
      all_goals go_ret
      all_goals exact ⟨by rw [HU.out]; rfl, rfl⟩
    · have HU : Hid (undig c = -1) := by show _ = _; unfold undig; rw [if_neg ha, if_neg hb]
      by_cases k1 : 48 ≤ c
      · have hd1 : decide (48 ≤ c) = true := by simpa using k1
        have hd2 : decide (c ≤ 57) = false := by simp; omega
        by_cases k2 : 97 ≤ c
        · have hd3 : decide (97 ≤ c) = true := by simpa using k2
          have hd4 : decide (c ≤ 102) = false := by simp; omega
          go_enter Tryz.func93, Tryz.ntmps93
          go_wp2
          all_goals go_ret
          all_goals exact ⟨by rw [HU.out]; rfl, rfl⟩
        · have hd3 : decide (97 ≤ c) = false := by simpa using k2
          go_enter Tryz.func93, Tryz.ntmps93
          go_wp2
          all_goals go_ret
          all_goals exact ⟨by rw [HU.out]; rfl, rfl⟩
      · have hd1 : decide (48 ≤ c) = false := by simpa using k1
        have hd3 : decide (97 ≤ c) = false := by simp; omega
        go_enter Tryz.func93, Tryz.ntmps93
        go_wp2
        all_goals go_ret
        all_goals exact ⟨by rw [HU.out]; rfl, rfl⟩

theorem quiet_eq {P : Program} {f : FuncId} {args : Array Value} {w : World} {n : Nat} {v : Value}
    (h : Calls P f args (w.drewN n) fun e w' => e = .returned v ∧ w.drewN n = w') : Calls P f args (w.drewN n) fun e w'' => e = .returned v ∧ ∃ m, w'' = w.drewN m :=
  h.mono fun _ _ ⟨he, hm⟩ => ⟨he, n, hm.symm⟩

theorem unhex_odd_n (n : Nat) : ∀ l : List Int, l.length ≤ n → l.length % 2 = 1 → unhex l = none := by
  induction n with
  | zero => intro l h1 h2; omega
  | succ n ih =>
    intro l h1 h2
    match l, h1, h2 with
    | [], _, h2 => simp at h2
    | [_], _, _ => rfl
    | a :: b :: r, h1, h2 =>
      simp only [List.length_cons] at h1 h2
      have hr := ih r (by omega) (by omega)
      by_cases hb : undig a < 0 ∨ undig b < 0
      · exact unhex_bad hb
      · rw [unhex_good hb, hr]; rfl
theorem unhex_odd (l : List Int) (h : l.length % 2 = 1) : unhex l = none := unhex_odd_n _ l (Nat.le_refl _) h

set_option maxRecDepth 1000000 in
set_option maxHeartbeats 1000000 in
theorem unhex_impl (w : World) (s : ByteArray) (hs : s.size ≤ 10000000000000) :
    Calls Tryz.prog 68 #[.string s] w fun e w' => e = .returned (.tuple #[.string (unHex s).1, .bool (unHex s).2]) ∧ Below w.heap.size w w' := by
  obtain ⟨i0, hi, hz0, hz1, hz2⟩ := info_parts info5
  by_cases hodd : s.size % 2 = 1
  · have HG : Hid (unHex s = (⟨#[]⟩, false)) := unHex_none (unhex_odd _ (by rw [sb_len]; exact hodd))
    have hd : ((s.size : Int) % 2 != 0) = true := by simp; omega
    go_enter Tryz.func68, Tryz.ntmps68
    go_wp2
    go_ret2
    exact ⟨by rw [HG.out]; rfl, Below.refl _ _⟩
  · have hd : ((s.size : Int) % 2 != 0) = false := by simp; omega
    obtain ⟨N, hN⟩ : ∃ N : Nat, (s.size : Int) / 2 = (N : Int) := ⟨s.size / 2, by omega⟩
    have hNb : N ≤ 20000000000000 := by omega
    go_enter Tryz.func68, Tryz.ntmps68
    go_wp2_with (first | (at_make; refine wpList_make_own _ rfl _ _ 22 rfl w.heap.size 5 i0 (.int .u8 0) 1 Tryz.underlying22 hi hz0 hz1 _ _ _ N rfl rfl rfl (by rw [hz2]; omega) (by unfold maxLen; omega) (Nat.le_refl _) ?_))
    intro w1 hown hgrow
    have hb0 : Below w.heap.size w w1 := (Below.refl _ _).grown hgrow (Nat.le_refl _) (by simp)
    have ho0 : Own w1 w.heap.size w1.heap.size 5 (.slice (some ⟨w.heap.size, 0, none⟩) 0 N) (bs []) := Own.of hown
    clear hown hgrow
    go_wp2
    go_loopw [4, 5] (fun b i wr => ∃ (k : Nat) (acc : List Int), 2 * k ≤ s.size ∧ i = .int .i64 (2 * (k : Int)) ∧ acc.length = k ∧ Byt acc ∧ unhex (sb s) = (unhex ((sb s).drop (2 * k))).map (fun l => acc ++ l) ∧ Own wr w.heap.size wr.heap.size 5 b (bs acc) ∧ Below w.heap.size w wr) (fun _ i _ => s.size + 2 - (intOf i).toNat)
    case atStart => exact ⟨0, [], by omega, rfl, rfl, fun x hx => (by cases hx), by simp, ho0, hb0⟩
    case round =>
      obtain ⟨k, acc, hk, rfl, hacc, hab, hE0, ho, hb⟩ := hrel
      have HE : Hid (acc.length = k ∧ Byt acc ∧ unhex (sb s) = (unhex ((sb s).drop (2 * k))).map (fun l => acc ++ l)) := ⟨hacc, hab, hE0⟩
      have hsz := hb.size
      clear ho0 hb0 hacc hab hE0 hd
      by_cases hlt : 2 * k < s.size
      · have hlt2 : 2 * k + 1 < s.size := by omega
        have hg1 := sb_get s (2 * k) hlt
        have hg2 := sb_get s (2 * k + 1) hlt2
        have hc1 := (sb_byt s).at hg1
        have hc2 := (sb_byt s).at hg2
        have HD : Hid ((sb s).drop (2 * k) = _) := drop_two hg1 hg2
        clear hg1 hg2
        have bd1 := undig_bd (s[2 * k].toNat : Int)
        have bd2 := undig_bd (s[2 * k + 1].toNat : Int)
        have q1 : ∀ w, _ := fun w => digit_impl w (s[2 * k].toNat : Int) hc1.1 hc1.2
        have q2 : ∀ w, _ := fun w => digit_impl w (s[2 * k + 1].toNat : Int) hc2.1 hc2.2
        have p1 : (2 * (k : Int)).toNat = 2 * k := by omega
        have p2 : (2 * (k : Int) + 1).toNat = 2 * k + 1 := by omega
        have p3 : (0 : Int) ≤ 2 * (k : Int) := by omega
        have p4 : 2 * (k : Int) < (s.size : Int) := by omega
        have p5 : (0 : Int) ≤ 2 * (k : Int) + 1 := by omega
        have p6 : 2 * (k : Int) + 1 < (s.size : Int) := by omega
        have p7 : IntKind.i64.wrap (2 * (k : Int) + 1) = 2 * (k : Int) + 1 := by rw [IntKind.wrap_i64]; omega
        obtain ⟨da, hda⟩ : ∃ d, undig (s[2 * k].toNat : Int) = d := ⟨_, rfl⟩
        obtain ⟨db, hdb⟩ : ∃ d, undig (s[2 * k + 1].toNat : Int) = d := ⟨_, rfl⟩
        obtain ⟨ca, hca⟩ : ∃ c, (s[2 * k].toNat : Int) = c := ⟨_, rfl⟩
        obtain ⟨cb, hcb⟩ : ∃ c, (s[2 * k + 1].toNat : Int) = c := ⟨_, rfl⟩
        rw [hca] at hda q1 bd1 hc1
        rw [hcb] at hdb q2 bd2 hc2
        rw [hca, hcb] at HD
        by_cases hbad : undig ca < 0 ∨ undig cb < 0
        · have HG : Hid (unHex s = (⟨#[]⟩, false)) := unHex_none (by rw [HE.out.2.2, HD.out, unhex_bad hbad]; rfl)
          clear HE HD
          rw [hda] at q1 bd1 hbad
          rw [hdb] at q2 bd2 hbad
          clear hda hdb
          go_wp2_with fail
          go_quiet (first | (go_at_call_of 93 ca; exact quiet_eq (q1 _)) | (go_at_call_of 93 cb; exact quiet_eq (q2 _)))
          clear q1 q2
          by_cases hna : da < 0
          · have hdd : decide (da < 0) = true := by simpa using hna
            go_wp2
            go_ret2
            exact ⟨by rw [HG.out]; rfl, below_drewN hb _⟩
          · have hnb : db < 0 := by omega
            have hdd : decide (da < 0) = false := by simpa using hna
            have hdd2 : decide (db < 0) = true := by simpa using hnb
            go_wp2
            go_ret2
            exact ⟨by rw [HG.out]; rfl, below_drewN hb _⟩
        · have HN : Hid ((acc ++ [da * 16 + db]).length = k + 1 ∧ Byt (acc ++ [da * 16 + db]) ∧ unhex (sb s) = (unhex ((sb s).drop (2 * (k + 1)))).map (fun l => (acc ++ [da * 16 + db]) ++ l)) := by
            refine ⟨by rw [List.length_append, HE.out.1]; rfl, HE.out.2.1.app (fun x hx => by rw [List.mem_singleton] at hx; omega), ?_⟩
            rw [HE.out.2.2, HD.out, unhex_good hbad, hda, hdb, show 2 * (k + 1) = 2 * k + 2 by omega, Option.map_map]
            simp [Function.comp_def]
          rw [hda] at q1 bd1 hbad
          rw [hdb] at q2 bd2 hbad
          have hl : (bs acc).length = k := by rw [bs_len]; exact HE.out.1
          have c2 : (bs acc).length + 1 ≤ maxLen := by rw [hl]; unfold maxLen; omega
          have c3 : ((bs acc).length + 1) * 1 ≤ 140737488355328 := by rw [hl]; omega
          have hna : ¬ da < 0 := fun h => hbad (.inl h)
          have hnb : ¬ db < 0 := fun h => hbad (.inr h)
          have hdd1 : decide (da < 0) = false := by simpa using hna
          have hdd2 : decide (db < 0) = false := by simpa using hnb
          clear hl HE HD hda hdb hbad
          go_wp2_with fail
          go_quiet (first | (go_at_call_of 93 ca; exact quiet_eq (q1 _)) | (go_at_call_of 93 cb; exact quiet_eq (q2 _)))
          clear q1 q2
          obtain ⟨wz, hwz⟩ : ∃ z, z = wr.drewN nq := ⟨_, rfl⟩
          have hbz : Below w.heap.size w wz := by rw [hwz]; exact below_drewN hb _
          have hoz : Own wz w.heap.size wz.heap.size 5 u4 (bs acc) := by rw [hwz]; exact ho.quiet nq
          have hszz := hbz.size
          have c4 : ∀ o, w.heap.size ≤ (wz.alloc o).heap.size := fun o => by simp; omega
          rw [← hwz]
          clear hwz ho hb hsz
          go_wp2_with (first | (at_builtin; go_must (refine wpl_app _ rfl (.tmp 37) (.tmp 43) 22 rfl 5 i0 (.int .u8 0) 1 Tryz.underlying22 hi hz0 hz1 hz2 rfl w.heap.size _ (bs acc) rfl (hoz.alloc _) _ rfl [.int .u8 (da * 16 + db)] (Sl.one _ _ _) (one_byte _) c2 c3 (c4 _) ?_); intro v3 w3 ho3 hb3 hg3))
          have hb4 : Below w.heap.size w w3 := (hbz.alloc hszz _).trans hb3
          have ho4 : Own w3 w.heap.size w3.heap.size 5 v3 (bs (acc ++ [da * 16 + db])) := by rw [bs_app]; exact ho3
          go_roundw
          case rel => exact ⟨k + 1, acc ++ [da * 16 + db], by omega, by go_num, HN.out.1, HN.out.2.1, HN.out.2.2, ho4, hb4⟩
          case measure => simp [intOf]; omega
      · have HG : Hid (unHex s = (Plain.txt acc, true)) := unHex_some (by rw [HE.out.2.2, List.drop_eq_nil_of_le (by rw [sb_len]; omega)]; simp [unhex])
        have hconv := conv_sl ho.sl HE.out.2.1
        clear HE
        go_wp2
        go_ret2
        exact ⟨by rw [HG.out]; rfl, hb⟩

end Go.Proofs.YtbopliahafkecaaGreatDoor.Sha

/- Chapter 17, the landed code: the head that a first line is read as. -/
namespace Go.Proofs.YtbopliahafkecaaGreatDoor.Lm
open Go.RowKit Go.Proofs.YtbopliahafkecaaGreatDoor.Mem Go.Proofs.YtbopliahafkecaaGreatDoor.Laws Go.Proofs.YtbopliahafkecaaGreatDoor.Bytes Go.Proofs.YtbopliahafkecaaGreatDoor.Sha Go.Proofs.YtbopliahafkecaaGreatDoor.Ver Go.Proofs.YtbopliahafkecaaGreatDoor.Mod Go.Proofs.YtbopliahafkecaaGreatDoor.Ent Go.Proofs.YtbopliahafkecaaGreatDoor.He Go.Proofs.YtbopliahafkecaaGreatDoor.Lk
set_option linter.unusedVariables false
set_option linter.unusedSimpArgs false

set_option maxRecDepth 1000000 in
set_option maxHeartbeats 4000000 in
theorem readhead_impl (w : World) (t : ByteArray) (ht : t.size ≤ 1048576) :
    Calls Tryz.prog 36 #[.string t] w fun e w' => e = .returned (.tuple #[.agg #[.int .i64 (rdHead t).1.n, .string (rdHead t).1.r], .bool (rdHead t).2]) ∧ Below w.heap.size w w' := by
  obtain ⟨W1, HW1, b1, y1, hS1, r1⟩ := Ke.l1 w #[.int .i64 0, .string ⟨#[]⟩] 25
  have q1 : ∀ W, _ := fun W => cutp_impl W t (by omega)
  have hbz := behind_size t
  have hcz := cut1_size 32 (behind t)
  have q2 : ∀ W, _ := fun W => cutB_impl W (behind t) (by omega)
  have q3 : ∀ W, _ := fun W => upto17_impl W (cut1 32 (behind t)).1 (by omega)
  have q4 : ∀ W, _ := fun W => unhex_impl W (cut1 32 (behind t)).2 (by omega)
  obtain ⟨m, hm⟩ : ∃ m, mark t = m := ⟨_, rfl⟩
  obtain ⟨N, k, hs⟩ : ∃ N k, size1 t = (N, k) := ⟨_, _, rfl⟩
  obtain ⟨rt, o, hr⟩ : ∃ rt o, root1 t = (rt, o) := ⟨_, _, rfl⟩
  have HH : Hid (rdHead t = (⟨N, rt⟩, m && k && o)) := by show _ = _; unfold rdHead; rw [hm, hs, hr]
  have hs' : upTo (sb (cut1 32 (behind t)).1) 200 = (N, k) := hs
  have hr' : unHex (cut1 32 (behind t)).2 = (rt, o) := hr
  simp only [hm] at q1
  simp only [hs'] at q3
  simp only [hr'] at q4
  rw [HH.out]
  clear hs' hr' hs hr hm HH
  obtain ⟨x, hx⟩ : ∃ x, behind t = x := ⟨_, rfl⟩
  simp only [hx] at q1 q2 q3 q4 hcz hbz
  clear hx
  obtain ⟨⟨y, z⟩, hy⟩ : ∃ c, cut1 32 x = c := ⟨_, rfl⟩
  simp only [hy] at q2 q3 q4 hcz
  clear hy
  obtain ⟨c, hc9⟩ : ∃ c, decide (0 ≤ at1 32 x) = c := ⟨_, rfl⟩
  simp only [hc9] at q2
  clear hc9
  go_enter Tryz.func36, Tryz.ntmps36
  go_wp2_with fail
  rw [HW1.out]
  refine (q1 _).mono ?_
  rintro e w1 ⟨rfl, rfl⟩
  go_wp2_with fail
  refine (q2 _).mono ?_
  rintro e W2 ⟨rfl, b2⟩
  have r2 := Ke.r r1 b2
  have B2 : Hid (Below w.heap.size w W2) := b1.trans (b2.mono b1.size)
  clear q1 q2 r1 b2 HW1 hS1
  go_wp2_with fail
  refine (q3 _).mono ?_
  rintro e W3 ⟨rfl, b3⟩
  have r3 := Ke.r r2 b3
  have B3 := Ke.b B2 b3
  clear q3 r2 B2 b3
  go_wp2_with fail
  refine (q4 _).mono ?_
  rintro e W4 ⟨rfl, b4⟩
  have r4 := Ke.r r3 b4
  have B4 := Ke.b B3 b4
  clear q4 r3 B3 b4
  cases m <;> cases k
  all_goals
    go_wp2_with (refine wpList_store_row rfl 25 _ _ rfl w.heap.size (hc ⟨N, rt⟩) rfl rfl 25 _ r4.out (sizeH _) rfl (oneH _) ?_)
    go_wp2
    exact bodyPost_ret (results_row_tmp rfl _ _ w.heap.size 25 (hc ⟨N, rt⟩) (0, 0) _ rfl (setRow_heap _ _ _ _ _ (0, 0) r4.out) Tryz.underlying25 rfl (sizeH _)) rfl ⟨rfl, below_setRow B4.out (Nat.le_refl _) _⟩

end Go.Proofs.YtbopliahafkecaaGreatDoor.Lm
