/- Texts in one: ImpT, EfC. -/
import Derived.Test.YtljlcelbhlkmcabGreatDoorPk20
import Derived.Test.YtljlcelbhlkmcabGreatDoorPk26
import Derived.Test.YtljlcelbhlkmcabGreatDoorPk7
import Derived.Test.YtljlcelbhlkmcabGreatDoorPk23
import Derived.Deep.RegionHeld3
/- Chapter 3, the landed code: a version's text. -/
namespace Go.Proofs.YtljlcelbhlkmcabGreatDoor.Ver
set_option linter.unusedVariables false
set_option linter.unusedSimpArgs false
open Go.RowKit Go.Proofs.YtljlcelbhlkmcabGreatDoor.Mem Go.Proofs.YtljlcelbhlkmcabGreatDoor.Laws Go.Proofs.YtljlcelbhlkmcabGreatDoor.Bytes Go.Proofs.YtljlcelbhlkmcabGreatDoor.Sha

set_option maxRecDepth 1000000 in
set_option maxHeartbeats 2000000 in
theorem vtext_impl (w : World) (a b c : Int) (p : ByteArray) (hp : p.size ≤ 1000000000000) (hG : Glob w) :
    Calls Tryz.prog 33 #[ver a b c p] w fun e w' => e = .returned (.string (Plain.txt (verText a b c p))) ∧ Below w.heap.size w w' := by
  have q0 := ok_impl (w.alloc (.cells #[.int .i64 a, .int .i64 b, .int .i64 c, .string p] 25)) a b c p hp
  have hB : Below w.heap.size w (w.alloc (.cells #[.int .i64 a, .int .i64 b, .int .i64 c, .string p] 25)) := (Below.refl _ _).alloc (Nat.le_refl _) _
  have HB : Hid _ := hB
  unfold ver at q0
  obtain ⟨ok, hok⟩ : ∃ x, okV a b c p = x := ⟨_, rfl⟩
  rw [hok] at q0
  have HO : Hid (okV a b c p = ok) := hok
  clear hok hB
  unfold ver
  cases ok
  · have HT : Hid (verText a b c p = []) := by show _ = _; unfold verText; rw [HO.out]; rfl
    go_enter Tryz.func33, Tryz.ntmps33
    go_wp2_with (go_at_call 63; refine q0.mono ?_; rintro e w1 ⟨rfl, b1⟩)
    go_ret
    exact ⟨by rw [HT.out]; rfl, HB.out.trans (b1.mono (by simp))⟩
  · have HT : Hid (verText a b c p = vt a b c p) := by show _ = _; unfold verText; rw [HO.out]; rfl
    have h3 := HO.out
    unfold okV at h3
    simp only [Bool.and_eq_true] at h3
    obtain ⟨na, rfl, hna⟩ := inM_nat h3.1.1.1
    obtain ⟨nb', rfl, hnb⟩ := inM_nat h3.1.1.2
    obtain ⟨nc, rfl, hnc⟩ := inM_nat h3.1.2
    have q1 : ∀ W, Glob W → _ := fun W hW => itoa_impl W na hna hW
    have q2 : ∀ W, Glob W → _ := fun W hW => itoa_impl W nb' hnb hW
    have q3 : ∀ W, Glob W → _ := fun W hW => itoa_impl W nc hnc hW
    have sA := digF_len 6 na
    have sB := digF_len 6 nb'
    have sC := digF_len 6 nc
    rw [← txt_sizev] at sA sB sC
    have HV : Hid (vt na nb' nc p = [118] ++ digF 6 na ++ [46] ++ digF 6 nb' ++ [46] ++ digF 6 nc ++ (if p.size = 0 then [] else [45] ++ sb p)) := rfl
    obtain ⟨tA, hA⟩ : ∃ t, Plain.txt (digF 6 na) = t := ⟨_, rfl⟩
    obtain ⟨tB, hB⟩ : ∃ t, Plain.txt (digF 6 nb') = t := ⟨_, rfl⟩
    obtain ⟨tC, hC⟩ : ∃ t, Plain.txt (digF 6 nc) = t := ⟨_, rfl⟩
    rw [hA] at q1 sA
    rw [hB] at q2 sB
    rw [hC] at q3 sC
    have HS : Hid (Plain.txt (digF 6 na) = tA ∧ Plain.txt (digF 6 nb') = tB ∧ Plain.txt (digF 6 nc) = tC) := ⟨hA, hB, hC⟩
    clear hA hB hC h3 HO
    obtain ⟨x1, hx1⟩ : ∃ x, (⟨#[118]⟩ : ByteArray) ++ tA = x := ⟨_, rfl⟩
    obtain ⟨x2, hx2⟩ : ∃ x, x1 ++ (⟨#[46]⟩ : ByteArray) = x := ⟨_, rfl⟩
    obtain ⟨x3, hx3⟩ : ∃ x, x2 ++ tB = x := ⟨_, rfl⟩
    obtain ⟨x4, hx4⟩ : ∃ x, x3 ++ (⟨#[46]⟩ : ByteArray) = x := ⟨_, rfl⟩
    obtain ⟨x5, hx5⟩ : ∃ x, x4 ++ tC = x := ⟨_, rfl⟩
    obtain ⟨x6, hx6⟩ : ∃ x, x5 ++ (⟨#[45]⟩ : ByteArray) = x := ⟨_, rfl⟩
    have n1 : x1.size ≤ 8 := by rw [← hx1, ByteArray.size_append]; show 1 + tA.size ≤ 8; omega
    have n2 : x2.size ≤ 9 := by rw [← hx2, ByteArray.size_append]; show x1.size + 1 ≤ 9; omega
    have n3 : x3.size ≤ 16 := by rw [← hx3, ByteArray.size_append]; omega
    have n4 : x4.size ≤ 17 := by rw [← hx4, ByteArray.size_append]; show x3.size + 1 ≤ 17; omega
    have n5 : x5.size ≤ 24 := by rw [← hx5, ByteArray.size_append]; omega
    have n6 : x6.size ≤ 25 := by rw [← hx6, ByteArray.size_append]; show x5.size + 1 ≤ 25; omega
    have g1 : 1 + tA.size ≤ 9223372036854775807 := by omega
    have g2 : x1.size ≤ 9223372036854775806 := by omega
    have g3 : x2.size + tB.size ≤ 9223372036854775807 := by omega
    have g4 : x3.size ≤ 9223372036854775806 := by omega
    have g5 : x4.size + tC.size ≤ 9223372036854775807 := by omega
    have g6 : x5.size ≤ 9223372036854775806 := by omega
    have g7 : x6.size + p.size ≤ 9223372036854775807 := by omega
    have HX : Hid (x5 = Plain.txt ([118] ++ digF 6 na ++ [46] ++ digF 6 nb' ++ [46] ++ digF 6 nc) ∧ x6 ++ p = Plain.txt ([118] ++ digF 6 na ++ [46] ++ digF 6 nb' ++ [46] ++ digF 6 nc ++ ([45] ++ sb p))) := by
      have h5 : x5 = Plain.txt ([118] ++ digF 6 na ++ [46] ++ digF 6 nb' ++ [46] ++ digF 6 nc) := by
        rw [← hx5, ← hx4, ← hx3, ← hx2, ← hx1, ← HS.out.1, ← HS.out.2.1, ← HS.out.2.2]
        simp only [txt_app]
        rfl
      refine ⟨h5, ?_⟩
      rw [← hx6, h5, txt_app (_ ++ digF 6 nc), txt_app [45], txt_sbv, ← ByteArray.append_assoc]
      rfl
    clear n1 n2 n3 n4
    go_enter Tryz.func33, Tryz.ntmps33
    go_wp2_with (go_at_call 63; refine q0.mono ?_; rintro e w1 ⟨rfl, b1⟩)
    have kG : Glob w1 := Glob.later (Glob.later hG ((Below.refl _ _).alloc (Nat.le_refl _) _)) b1
    have k0 : w1.cell? ⟨w.heap.size, 0, none⟩ = some (.int .i64 (na : Int)) := keepCell (by simp) b1
    have k1 : w1.cell? ⟨w.heap.size, 1, none⟩ = some (.int .i64 (nb' : Int)) := keepCell (by simp) b1
    have k2 : w1.cell? ⟨w.heap.size, 2, none⟩ = some (.int .i64 (nc : Int)) := keepCell (by simp) b1
    have k3 : w1.cell? ⟨w.heap.size, 3, none⟩ = some (.string p) := keepCell (by simp) b1
    have r1 : ¬ 9223372036854775807 < 1 + tA.size := by omega
    have r2 : ¬ 9223372036854775807 < x1.size + 1 := by omega
    have r3 : ¬ 9223372036854775807 < x2.size + tB.size := by omega
    have r4 : ¬ 9223372036854775807 < x3.size + 1 := by omega
    have r5 : ¬ 9223372036854775807 < x4.size + tC.size := by omega
    have r6 : ¬ 9223372036854775806 < x1.size := by omega
    have r7 : ¬ 9223372036854775806 < x3.size := by omega
    go_region_held3 (fun w' => w'.cell? ⟨w.heap.size, 0, none⟩ = some (.int .i64 (na : Int)) ∧ w'.cell? ⟨w.heap.size, 1, none⟩ = some (.int .i64 (nb' : Int)) ∧ w'.cell? ⟨w.heap.size, 2, none⟩ = some (.int .i64 (nc : Int)) ∧ w'.cell? ⟨w.heap.size, 3, none⟩ = some (.string p) ∧ Glob w')
      (first | exact ⟨k0, k1, k2, k3, kG⟩ | go_keep | (go_split_ands; refine ⟨keepCell ?_ bb5, keepCell ?_ bb5, keepCell ?_ bb5, keepCell ?_ bb5, Glob.later ?_ bb5⟩ <;> assumption) | (go_split_ands; refine ⟨keepCell ?_ bb6, keepCell ?_ bb6, keepCell ?_ bb6, keepCell ?_ bb6, Glob.later ?_ bb6⟩ <;> assumption) | (go_split_ands; refine ⟨keepCell ?_ bb7, keepCell ?_ bb7, keepCell ?_ bb7, keepCell ?_ bb7, Glob.later ?_ bb7⟩ <;> assumption))
      (first | (go_at_call_of 65 na; refine (q1 _ (by first | assumption | (go_split_ands; assumption))).mono ?_; rintro e5 w5 ⟨rfl, bb5⟩) | (go_at_call_of 65 nb'; refine (q2 _ (by first | assumption | (go_split_ands; assumption))).mono ?_; rintro e6 w6 ⟨rfl, bb6⟩) | (go_at_call_of 65 nc; refine (q3 _ (by first | assumption | (go_split_ands; assumption))).mono ?_; rintro e7 w7 ⟨rfl, bb7⟩))
    have k9 : w7.cell? ⟨w.heap.size, 3, none⟩ = some (.string p) := keepCell (keepCell (keepCell (W := w1.drew) k3 bb5) bb6) bb7
    have B1 : Below w.heap.size w w1 := HB.out.trans (b1.mono (by simp))
    have B5 : Below w.heap.size w w5 := (Below.drew B1).trans (bb5.mono B1.size)
    have B6 : Below w.heap.size w w6 := B5.trans (bb6.mono B5.size)
    have hbw : Below w.heap.size w w7 := B6.trans (bb7.mono B6.size)
    clear B1 B5 B6 bb5 bb6 bb7 b1 k0 k1 k2 k3 q0 q1 q2 q3 r1 r2 r3 r4 r5 r6 r7
    by_cases h0 : p.size = 0
    · have he : p.toList.isEmpty = true := by rw [toList_empty]; simp [h0]
      have HF : Hid (x5 = Plain.txt (verText na nb' nc p)) := by show _ = _; rw [HT.out, HV.out, if_pos h0, List.append_nil]; exact HX.out.1
      clear hx1 hx2 hx3 hx4 hx5 hx6
      go_wp2
      go_ret
      exact ⟨by rw [← HF.out]; rfl, hbw⟩
    · have he : p.toList.isEmpty = false := by rw [toList_empty]; simp [h0]
      have HF : Hid (x6 ++ p = Plain.txt (verText na nb' nc p)) := by show _ = _; rw [HT.out, HV.out, if_neg h0]; exact HX.out.2
      clear hx1 hx2 hx3 hx4 hx5
      go_wp2
      go_ret
      exact ⟨by rw [← HF.out]; rfl, hbw⟩

end Go.Proofs.YtljlcelbhlkmcabGreatDoor.Ver

/- Chapter 5, the landed code: a text cut at the first @. -/
namespace Go.Proofs.YtljlcelbhlkmcabGreatDoor.Mod
open Go.RowKit Go.Proofs.YtljlcelbhlkmcabGreatDoor.Mem Go.Proofs.YtljlcelbhlkmcabGreatDoor.Laws Go.Proofs.YtljlcelbhlkmcabGreatDoor.Bytes Go.Proofs.YtljlcelbhlkmcabGreatDoor.Sha Go.Proofs.YtljlcelbhlkmcabGreatDoor.Ver
set_option linter.unusedVariables false
set_option linter.unusedSimpArgs false

/-- the place of the first @, or -1; what stands before it and behind -/
def ats (t : ByteArray) : Int := match (sb t).findIdx? (fun c => c == 64) with
  | some i => (i : Int)
  | none => -1
def cutA (t : ByteArray) : ByteArray × ByteArray := match (sb t).findIdx? (fun c => c == 64) with
  | some i => (t.extract 0 i, t.extract (i + 1) t.size)
  | none => (t, ⟨#[]⟩)
theorem indexByte_ats : ∀ l : List UInt8, Lib.indexByte l 64 = match (l.map fun b => (b.toNat : Int)).findIdx? (fun c => c == 64) with
    | some i => (i : Int)
    | none => -1 := by
  intro l
  induction l with
  | nil => rfl
  | cons b r ih =>
    by_cases h : b = 64
    · subst h; simp [Lib.indexByte, List.findIdx?_cons]
    · have h2 : ((b.toNat : Int) == 64) = false := by
        rw [beq_eq_false_iff_ne]
        intro h3
        apply h
        apply UInt8.toNat_inj.1
        have : (64 : UInt8).toNat = 64 := rfl
        omega
      have h4 : (b == 64) = false := by simpa using h
      rw [List.map_cons, List.findIdx?_cons, h2]
      unfold Lib.indexByte
      simp only [h4, Bool.false_eq_true, if_false, ih]
      cases (r.map fun b => (b.toNat : Int)).findIdx? (fun c => c == 64) with
      | none => simp
      | some i => simp

set_option maxRecDepth 1000000 in
set_option maxHeartbeats 1000000 in
theorem ibA_impl (w : World) (s : ByteArray) : Calls Tryz.prog 105 #[.string s, .int .u8 64] w fun e w' => e = .returned (.int .i64 (ats s)) ∧ w' = w := by
  have HD : Hid (Lib.indexByte s.data.toList (64 : Int).toNat.toUInt8 = ats s) := indexByte_ats s.data.toList
  go_enter Tryz.func105, Tryz.ntmps105
  go_wp2
  rw [run_callFunc_extern Tryz.func117 (by kernel_rfl) (by kernel_rfl) (by kernel_rfl) (e := Extern.BytealgIndexByte.indexByte) (by kernel_rfl), Lib.run_indexByteString, HD.out]
  simp only [Result.andThen]
  rw [Oper.upon_value]
  go_wp2
  go_ret
  exact ⟨rfl, rfl⟩

set_option maxRecDepth 1000000 in
set_option maxHeartbeats 2000000 in
theorem ixA_impl (w : World) (s : ByteArray) : Calls Tryz.prog 86 #[.string s, .string ⟨#[64]⟩] w fun e w' => e = .returned (.int .i64 (ats s)) ∧ w' = w := by
  have q := ibA_impl w s
  by_cases h : s.toList = [64]
  · have h1 : ([64] == s.toList) = true := by simp [h]
    have HD : Hid (ats s = 0) := by
      show _ = _
      unfold ats
      rw [show sb s = [64] by unfold sb; rw [← ByteArray.toList_eq, h]; rfl]
      rfl
    clear h
    go_enter Tryz.func86, Tryz.ntmps86
    go_wp2_with (go_at_call 105; refine q.mono ?_; rintro e w' ⟨rfl, rfl⟩)
    go_ret
    exact ⟨by rw [HD.out]; rfl, rfl⟩
  · have h1 : ([64] == s.toList) = false := by
      rw [beq_eq_false_iff_ne]
      exact fun e => h e.symm
    clear h
    obtain ⟨d, hd⟩ : ∃ d, ats s = d := ⟨_, rfl⟩
    rw [hd] at q ⊢
    clear hd
    go_enter Tryz.func86, Tryz.ntmps86
    go_wp2_with (go_at_call 105; refine q.mono ?_; rintro e w' ⟨rfl, rfl⟩)
    go_ret
    exact ⟨rfl, rfl⟩

theorem ats_some {s : ByteArray} {i : Nat} (h : (sb s).findIdx? (fun c => c == 64) = some i) : i < s.size := by
  have := (List.findIdx?_eq_some_iff_getElem.1 h).1
  rw [sb_len] at this
  exact this

set_option maxRecDepth 1000000 in
set_option maxHeartbeats 1000000 in
theorem cutlA_impl (w : World) (s : ByteArray) (hs : s.size ≤ 1000000000000) : Calls Tryz.prog 59 #[.string s, .string ⟨#[64]⟩] w fun e w' => e = .returned (.tuple #[.string (cutA s).1, .string (cutA s).2, .bool (decide (0 ≤ ats s))]) ∧ Below w.heap.size w w' := by
  have q := ixA_impl w s
  cases hd : (sb s).findIdx? (fun c => c == 64) with
  | none =>
    have e1 : ats s = -1 := by unfold ats; rw [hd]
    have HC : Hid ((cutA s).1 = s ∧ (cutA s).2 = ⟨#[]⟩) := by show _ ∧ _; unfold cutA; rw [hd]; exact ⟨rfl, rfl⟩
    rw [e1] at q
    have HE : Hid (decide (0 ≤ ats s) = false) := by show _ = _; rw [e1]; rfl
    clear e1 hd
    go_enter Tryz.func59, Tryz.ntmps59
    go_wp2_with (go_at_call 86; refine q.mono ?_; rintro e w' ⟨rfl, rfl⟩)
    go_ret3
    exact ⟨by rw [HC.out.1, HC.out.2, HE.out]; rfl, Below.refl _ _⟩
  | some i =>
    have e1 : ats s = (i : Int) := by unfold ats; rw [hd]
    have hi := ats_some hd
    have HC : Hid ((cutA s).1 = s.extract 0 i ∧ (cutA s).2 = s.extract (i + 1) s.size) := by show _ ∧ _; unfold cutA; rw [hd]; exact ⟨rfl, rfl⟩
    rw [e1] at q
    have HE : Hid (decide (0 ≤ ats s) = true) := by show _ = _; rw [e1]; simp
    clear e1 hd
    have h0 : (0 : Int) ≤ (i : Int) := by omega
    have h1 : i ≤ s.size := by omega
    have h2 : i + 1 ≤ s.size := by omega
    go_enter Tryz.func59, Tryz.ntmps59
    go_wp2_with (go_at_call 86; refine q.mono ?_; rintro e w' ⟨rfl, rfl⟩)
    go_quiet (fail)
    go_wp2
    go_ret3
    exact ⟨by rw [HC.out.1, HC.out.2, HE.out]; rfl, ⟨rfl, rfl, rfl, Nat.le_refl _, fun _ _ => rfl⟩⟩

set_option maxRecDepth 1000000 in
set_option maxHeartbeats 1000000 in
theorem cutA_impl (w : World) (s : ByteArray) (hs : s.size ≤ 1000000000000) : Calls Tryz.prog 29 #[.string s, .string ⟨#[64]⟩] w fun e w' => e = .returned (.tuple #[.string (cutA s).1, .string (cutA s).2, .bool (decide (0 ≤ ats s))]) ∧ Below w.heap.size w w' := by
  have q := cutlA_impl w s hs
  obtain ⟨x, hx⟩ : ∃ x, (cutA s).1 = x := ⟨_, rfl⟩
  obtain ⟨y, hy⟩ : ∃ x, (cutA s).2 = x := ⟨_, rfl⟩
  obtain ⟨z, hz⟩ : ∃ x, decide (0 ≤ ats s) = x := ⟨_, rfl⟩
  rw [hx, hy, hz] at q ⊢
  clear hx hy hz
  go_enter Tryz.func29, Tryz.ntmps29
  go_wp2_with (go_at_call 59; refine q.mono ?_; rintro e w' ⟨rfl, b1⟩)
  go_ret3
  exact ⟨rfl, b1⟩

end Go.Proofs.YtljlcelbhlkmcabGreatDoor.Mod
