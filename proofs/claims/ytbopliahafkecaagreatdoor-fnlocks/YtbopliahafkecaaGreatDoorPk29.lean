/- Texts in one: ImpT. -/
import Derived.Test.YtbopliahafkecaaGreatDoorPk16
import Derived.Test.YtbopliahafkecaaGreatDoorPk28
import Derived.Test.YtbopliahafkecaaGreatDoorPk10
import Derived.Deep.RegionHeld3
/- Chapter 3, the landed code: a version's text. -/
namespace Go.Proofs.YtbopliahafkecaaGreatDoor.Ver
set_option linter.unusedVariables false
set_option linter.unusedSimpArgs false
open Go.RowKit Go.Proofs.YtbopliahafkecaaGreatDoor.Mem Go.Proofs.YtbopliahafkecaaGreatDoor.Laws Go.Proofs.YtbopliahafkecaaGreatDoor.Bytes Go.Proofs.YtbopliahafkecaaGreatDoor.Sha

set_option maxRecDepth 1000000 in
set_option maxHeartbeats 2000000 in
theorem vtext_impl (w : World) (a b c : Int) (p : ByteArray) (hp : p.size ≤ 1000000000000) (hG : Glob w) :
    Calls Tryz.prog 55 #[ver a b c p] w fun e w' => e = .returned (.string (Plain.txt (verText a b c p))) ∧ Below w.heap.size w w' := by
  have q0 := ok_impl (w.alloc (.cells #[.int .i64 a, .int .i64 b, .int .i64 c, .string p] 45)) a b c p hp
  have hB : Below w.heap.size w (w.alloc (.cells #[.int .i64 a, .int .i64 b, .int .i64 c, .string p] 45)) := (Below.refl _ _).alloc (Nat.le_refl _) _
  have HB : Hid _ := hB
  unfold ver at q0
  obtain ⟨ok, hok⟩ : ∃ x, okV a b c p = x := ⟨_, rfl⟩
  rw [hok] at q0
  have HO : Hid (okV a b c p = ok) := hok
  clear hok hB
  unfold ver
  cases ok
  · have HT : Hid (verText a b c p = []) := by show _ = _; unfold verText; rw [HO.out]; rfl
    go_enter Tryz.func55, Tryz.ntmps55
    go_wp2_with (go_at_call 83; refine q0.mono ?_; rintro e w1 ⟨rfl, b1⟩)
    go_ret
    exact ⟨by rw [HT.out]; rfl, HB.out.trans (b1.mono (by simp))⟩
  · have HT : Hid (verText a b c p = vt a b c p) := by show _ = _; unfold verText; rw [HO.out]; rfl
    have h3 := HO.out
    unfold okV at h3
    simp only [Bool.and_eq_true] at h3
    obtain ⟨na, rfl, hna⟩ := inM_nat h3.1.1.1
    obtain ⟨nb', rfl, hnb⟩ := inM_nat h3.1.1.2
    obtain ⟨nc, rfl, hnc⟩ := inM_nat h3.1.2
    have q1 : ∀ W, Glob W → _ := fun W hW => itoa_impl W na hna hW
    have q2 : ∀ W, Glob W → _ := fun W hW => itoa_impl W nb' hnb hW
    have q3 : ∀ W, Glob W → _ := fun W hW => itoa_impl W nc hnc hW
    have sA := digF_len 6 na
    have sB := digF_len 6 nb'
    have sC := digF_len 6 nc
    rw [← txt_sizev] at sA sB sC
    have HV : Hid (vt na nb' nc p = [118] ++ digF 6 na ++ [46] ++ digF 6 nb' ++ [46] ++ digF 6 nc ++ (if p.size = 0 then [] else [45] ++ sb p)) := rfl
    obtain ⟨tA, hA⟩ : ∃ t, Plain.txt (digF 6 na) = t := ⟨_, rfl⟩
    obtain ⟨tB, hB⟩ : ∃ t, Plain.txt (digF 6 nb') = t := ⟨_, rfl⟩
    obtain ⟨tC, hC⟩ : ∃ t, Plain.txt (digF 6 nc) = t := ⟨_, rfl⟩
    rw [hA] at q1 sA
    rw [hB] at q2 sB
    rw [hC] at q3 sC
    have HS : Hid (Plain.txt (digF 6 na) = tA ∧ Plain.txt (digF 6 nb') = tB ∧ Plain.txt (digF 6 nc) = tC) := ⟨hA, hB, hC⟩
    clear hA hB hC h3 HO
    obtain ⟨x1, hx1⟩ : ∃ x, (⟨#[118]⟩ : ByteArray) ++ tA = x := ⟨_, rfl⟩
    obtain ⟨x2, hx2⟩ : ∃ x, x1 ++ (⟨#[46]⟩ : ByteArray) = x := ⟨_, rfl⟩
    obtain ⟨x3, hx3⟩ : ∃ x, x2 ++ tB = x := ⟨_, rfl⟩
    obtain ⟨x4, hx4⟩ : ∃ x, x3 ++ (⟨#[46]⟩ : ByteArray) = x := ⟨_, rfl⟩
    obtain ⟨x5, hx5⟩ : ∃ x, x4 ++ tC = x := ⟨_, rfl⟩
    obtain ⟨x6, hx6⟩ : ∃ x, x5 ++ (⟨#[45]⟩ : ByteArray) = x := ⟨_, rfl⟩
    have n1 : x1.size ≤ 8 := by rw [← hx1, ByteArray.size_append]; show 1 + tA.size ≤ 8; omega
    have n2 : x2.size ≤ 9 := by rw [← hx2, ByteArray.size_append]; show x1.size + 1 ≤ 9; omega
    have n3 : x3.size ≤ 16 := by rw [← hx3, ByteArray.size_append]; omega
    have n4 : x4.size ≤ 17 := by rw [← hx4, ByteArray.size_append]; show x3.size + 1 ≤ 17; omega
    have n5 : x5.size ≤ 24 := by rw [← hx5, ByteArray.size_append]; omega
    have n6 : x6.size ≤ 25 := by rw [← hx6, ByteArray.size_append]; show x5.size + 1 ≤ 25; omega
    have g1 : 1 + tA.size ≤ 9223372036854775807 := by omega
    have g2 : x1.size ≤ 9223372036854775806 := by omega
    have g3 : x2.size + tB.size ≤ 9223372036854775807 := by omega
    have g4 : x3.size ≤ 9223372036854775806 := by omega
    have g5 : x4.size + tC.size ≤ 9223372036854775807 := by omega
    have g6 : x5.size ≤ 9223372036854775806 := by omega
    have g7 : x6.size + p.size ≤ 9223372036854775807 := by omega
    have HX : Hid (x5 = Plain.txt ([118] ++ digF 6 na ++ [46] ++ digF 6 nb' ++ [46] ++ digF 6 nc) ∧ x6 ++ p = Plain.txt ([118] ++ digF 6 na ++ [46] ++ digF 6 nb' ++ [46] ++ digF 6 nc ++ ([45] ++ sb p))) := by
      have h5 : x5 = Plain.txt ([118] ++ digF 6 na ++ [46] ++ digF 6 nb' ++ [46] ++ digF 6 nc) := by
        rw [← hx5, ← hx4, ← hx3, ← hx2, ← hx1, ← HS.out.1, ← HS.out.2.1, ← HS.out.2.2]
        simp only [txt_app]
        rfl
      refine ⟨h5, ?_⟩
      rw [← hx6, h5, txt_app (_ ++ digF 6 nc), txt_app [45], txt_sbv, ← ByteArray.append_assoc]
      rfl
    clear n1 n2 n3 n4
    go_enter Tryz.func55, Tryz.ntmps55
    go_wp2_with (go_at_call 83; refine q0.mono ?_; rintro e w1 ⟨rfl, b1⟩)
    have kG : Glob w1 := Glob.later (Glob.later hG ((Below.refl _ _).alloc (Nat.le_refl _) _)) b1
    have k0 : w1.cell? ⟨w.heap.size, 0, none⟩ = some (.int .i64 (na : Int)) := keepCell (by simp) b1
    have k1 : w1.cell? ⟨w.heap.size, 1, none⟩ = some (.int .i64 (nb' : Int)) := keepCell (by simp) b1
    have k2 : w1.cell? ⟨w.heap.size, 2, none⟩ = some (.int .i64 (nc : Int)) := keepCell (by simp) b1
    have k3 : w1.cell? ⟨w.heap.size, 3, none⟩ = some (.string p) := keepCell (by simp) b1
    have r1 : ¬ 9223372036854775807 < 1 + tA.size := by omega
    have r2 : ¬ 9223372036854775807 < x1.size + 1 := by omega
    have r3 : ¬ 9223372036854775807 < x2.size + tB.size := by omega
    have r4 : ¬ 9223372036854775807 < x3.size + 1 := by omega
    have r5 : ¬ 9223372036854775807 < x4.size + tC.size := by omega
    have r6 : ¬ 9223372036854775806 < x1.size := by omega
    have r7 : ¬ 9223372036854775806 < x3.size := by omega
    go_region_held3 (fun w' => w'.cell? ⟨w.heap.size, 0, none⟩ = some (.int .i64 (na : Int)) ∧ w'.cell? ⟨w.heap.size, 1, none⟩ = some (.int .i64 (nb' : Int)) ∧ w'.cell? ⟨w.heap.size, 2, none⟩ = some (.int .i64 (nc : Int)) ∧ w'.cell? ⟨w.heap.size, 3, none⟩ = some (.string p) ∧ Glob w')
      (first | exact ⟨k0, k1, k2, k3, kG⟩ | go_keep | (go_split_ands; refine ⟨keepCell ?_ bb5, keepCell ?_ bb5, keepCell ?_ bb5, keepCell ?_ bb5, Glob.later ?_ bb5⟩ <;> assumption) | (go_split_ands; refine ⟨keepCell ?_ bb6, keepCell ?_ bb6, keepCell ?_ bb6, keepCell ?_ bb6, Glob.later ?_ bb6⟩ <;> assumption) | (go_split_ands; refine ⟨keepCell ?_ bb7, keepCell ?_ bb7, keepCell ?_ bb7, keepCell ?_ bb7, Glob.later ?_ bb7⟩ <;> assumption))
      (first | (go_at_call_of 25 na; refine (q1 _ (by first | assumption | (go_split_ands; assumption))).mono ?_; rintro e5 w5 ⟨rfl, bb5⟩) | (go_at_call_of 25 nb'; refine (q2 _ (by first | assumption | (go_split_ands; assumption))).mono ?_; rintro e6 w6 ⟨rfl, bb6⟩) | (go_at_call_of 25 nc; refine (q3 _ (by first | assumption | (go_split_ands; assumption))).mono ?_; rintro e7 w7 ⟨rfl, bb7⟩))
    have k9 : w7.cell? ⟨w.heap.size, 3, none⟩ = some (.string p) := keepCell (keepCell (keepCell (W := w1.drew) k3 bb5) bb6) bb7
    have B1 : Below w.heap.size w w1 := HB.out.trans (b1.mono (by simp))
    have B5 : Below w.heap.size w w5 := (Below.drew B1).trans (bb5.mono B1.size)
    have B6 : Below w.heap.size w w6 := B5.trans (bb6.mono B5.size)
    have hbw : Below w.heap.size w w7 := B6.trans (bb7.mono B6.size)
    clear B1 B5 B6 bb5 bb6 bb7 b1 k0 k1 k2 k3 q0 q1 q2 q3 r1 r2 r3 r4 r5 r6 r7
    by_cases h0 : p.size = 0
    · have he : p.toList.isEmpty = true := by rw [toList_empty]; simp [h0]
      have HF : Hid (x5 = Plain.txt (verText na nb' nc p)) := by show _ = _; rw [HT.out, HV.out, if_pos h0, List.append_nil]; exact HX.out.1
      clear hx1 hx2 hx3 hx4 hx5 hx6
      go_wp2
      go_ret
      exact ⟨by rw [← HF.out]; rfl, hbw⟩
    · have he : p.toList.isEmpty = false := by rw [toList_empty]; simp [h0]
      have HF : Hid (x6 ++ p = Plain.txt (verText na nb' nc p)) := by show _ = _; rw [HT.out, HV.out, if_neg h0]; exact HX.out.2
      clear hx1 hx2 hx3 hx4 hx5
      go_wp2
      go_ret
      exact ⟨by rw [← HF.out]; rfl, hbw⟩

end Go.Proofs.YtbopliahafkecaaGreatDoor.Ver
