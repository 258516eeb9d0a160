/- Texts in one: ImpT, EfC, ImpJ, ImpK, ImpM, ImpN. -/
import Derived.Test.YtepcpnnnhdbjgamGreatDoorPk17
import Derived.Test.YtepcpnnnhdbjgamGreatDoorPk20
import Derived.Test.YtepcpnnnhdbjgamGreatDoorPk7
import Derived.Test.YtepcpnnnhdbjgamGreatDoorPk16
import Derived.Test.YtepcpnnnhdbjgamGreatDoorPk10
import Derived.Deep.RegionHeld3
import Derived.Lib.Strings
import Derived.Lib.Bytealg
import Derived.Laws.Rows
/- Chapter 3, the landed code: a version's text. -/
namespace Go.Proofs.YtepcpnnnhdbjgamGreatDoor.Ver
set_option linter.unusedVariables false
set_option linter.unusedSimpArgs false
open Go.RowKit Go.Proofs.YtepcpnnnhdbjgamGreatDoor.Mem Go.Proofs.YtepcpnnnhdbjgamGreatDoor.Laws Go.Proofs.YtepcpnnnhdbjgamGreatDoor.Bytes Go.Proofs.YtepcpnnnhdbjgamGreatDoor.Sha

set_option maxRecDepth 1000000 in
set_option maxHeartbeats 2000000 in
theorem vtext_impl (w : World) (a b c : Int) (p : ByteArray) (hp : p.size ≤ 1000000000000) (hG : Glob w) :
    Calls Tryz.prog 43 #[ver a b c p] w fun e w' => e = .returned (.string (Plain.txt (verText a b c p))) ∧ Below w.heap.size w w' := by
  have q0 := ok_impl (w.alloc (.cells #[.int .i64 a, .int .i64 b, .int .i64 c, .string p] 29)) a b c p hp
  have hB : Below w.heap.size w (w.alloc (.cells #[.int .i64 a, .int .i64 b, .int .i64 c, .string p] 29)) := (Below.refl _ _).alloc (Nat.le_refl _) _
  have HB : Hid _ := hB
  unfold ver at q0
  obtain ⟨ok, hok⟩ : ∃ x, okV a b c p = x := ⟨_, rfl⟩
  rw [hok] at q0
  have HO : Hid (okV a b c p = ok) := hok
  clear hok hB
  unfold ver
  cases ok
  · have HT : Hid (verText a b c p = []) := by show _ = _; unfold verText; rw [HO.out]; rfl
    go_enter Tryz.func43, Tryz.ntmps43
    go_wp2_with (go_at_call 61; refine q0.mono ?_; rintro e w1 ⟨rfl, b1⟩)
    go_ret
    exact ⟨by rw [HT.out]; rfl, HB.out.trans (b1.mono (by simp))⟩
  · have HT : Hid (verText a b c p = vt a b c p) := by show _ = _; unfold verText; rw [HO.out]; rfl
    have h3 := HO.out
    unfold okV at h3
    simp only [Bool.and_eq_true] at h3
    obtain ⟨na, rfl, hna⟩ := inM_nat h3.1.1.1
    obtain ⟨nb', rfl, hnb⟩ := inM_nat h3.1.1.2
    obtain ⟨nc, rfl, hnc⟩ := inM_nat h3.1.2
    have q1 : ∀ W, Glob W → _ := fun W hW => itoa_impl W na hna hW
    have q2 : ∀ W, Glob W → _ := fun W hW => itoa_impl W nb' hnb hW
    have q3 : ∀ W, Glob W → _ := fun W hW => itoa_impl W nc hnc hW
    have sA := digF_len 6 na
    have sB := digF_len 6 nb'
    have sC := digF_len 6 nc
    rw [← txt_sizev] at sA sB sC
    have HV : Hid (vt na nb' nc p = [118] ++ digF 6 na ++ [46] ++ digF 6 nb' ++ [46] ++ digF 6 nc ++ (if p.size = 0 then [] else [45] ++ sb p)) := rfl
    obtain ⟨tA, hA⟩ : ∃ t, Plain.txt (digF 6 na) = t := ⟨_, rfl⟩
    obtain ⟨tB, hB⟩ : ∃ t, Plain.txt (digF 6 nb') = t := ⟨_, rfl⟩
    obtain ⟨tC, hC⟩ : ∃ t, Plain.txt (digF 6 nc) = t := ⟨_, rfl⟩
    rw [hA] at q1 sA
    rw [hB] at q2 sB
    rw [hC] at q3 sC
    have HS : Hid (Plain.txt (digF 6 na) = tA ∧ Plain.txt (digF 6 nb') = tB ∧ Plain.txt (digF 6 nc) = tC) := ⟨hA, hB, hC⟩
    clear hA hB hC h3 HO
    obtain ⟨x1, hx1⟩ : ∃ x, (⟨#[118]⟩ : ByteArray) ++ tA = x := ⟨_, rfl⟩
    obtain ⟨x2, hx2⟩ : ∃ x, x1 ++ (⟨#[46]⟩ : ByteArray) = x := ⟨_, rfl⟩
    obtain ⟨x3, hx3⟩ : ∃ x, x2 ++ tB = x := ⟨_, rfl⟩
    obtain ⟨x4, hx4⟩ : ∃ x, x3 ++ (⟨#[46]⟩ : ByteArray) = x := ⟨_, rfl⟩
    obtain ⟨x5, hx5⟩ : ∃ x, x4 ++ tC = x := ⟨_, rfl⟩
    obtain ⟨x6, hx6⟩ : ∃ x, x5 ++ (⟨#[45]⟩ : ByteArray) = x := ⟨_, rfl⟩
    have n1 : x1.size ≤ 8 := by rw [← hx1, ByteArray.size_append]; show 1 + tA.size ≤ 8; omega
    have n2 : x2.size ≤ 9 := by rw [← hx2, ByteArray.size_append]; show x1.size + 1 ≤ 9; omega
    have n3 : x3.size ≤ 16 := by rw [← hx3, ByteArray.size_append]; omega
    have n4 : x4.size ≤ 17 := by rw [← hx4, ByteArray.size_append]; show x3.size + 1 ≤ 17; omega
    have n5 : x5.size ≤ 24 := by rw [← hx5, ByteArray.size_append]; omega
    have n6 : x6.size ≤ 25 := by rw [← hx6, ByteArray.size_append]; show x5.size + 1 ≤ 25; omega
    have g1 : 1 + tA.size ≤ 9223372036854775807 := by omega
    have g2 : x1.size ≤ 9223372036854775806 := by omega
    have g3 : x2.size + tB.size ≤ 9223372036854775807 := by omega
    have g4 : x3.size ≤ 9223372036854775806 := by omega
    have g5 : x4.size + tC.size ≤ 9223372036854775807 := by omega
    have g6 : x5.size ≤ 9223372036854775806 := by omega
    have g7 : x6.size + p.size ≤ 9223372036854775807 := by omega
    have HX : Hid (x5 = Plain.txt ([118] ++ digF 6 na ++ [46] ++ digF 6 nb' ++ [46] ++ digF 6 nc) ∧ x6 ++ p = Plain.txt ([118] ++ digF 6 na ++ [46] ++ digF 6 nb' ++ [46] ++ digF 6 nc ++ ([45] ++ sb p))) := by
      have h5 : x5 = Plain.txt ([118] ++ digF 6 na ++ [46] ++ digF 6 nb' ++ [46] ++ digF 6 nc) := by
        rw [← hx5, ← hx4, ← hx3, ← hx2, ← hx1, ← HS.out.1, ← HS.out.2.1, ← HS.out.2.2]
        simp only [txt_app]
        rfl
      refine ⟨h5, ?_⟩
      rw [← hx6, h5, txt_app (_ ++ digF 6 nc), txt_app [45], txt_sbv, ← ByteArray.append_assoc]
      rfl
    clear n1 n2 n3 n4
    go_enter Tryz.func43, Tryz.ntmps43
    go_wp2_with (go_at_call 61; refine q0.mono ?_; rintro e w1 ⟨rfl, b1⟩)
    have kG : Glob w1 := Glob.later (Glob.later hG ((Below.refl _ _).alloc (Nat.le_refl _) _)) b1
    have k0 : w1.cell? ⟨w.heap.size, 0, none⟩ = some (.int .i64 (na : Int)) := keepCell (by simp) b1
    have k1 : w1.cell? ⟨w.heap.size, 1, none⟩ = some (.int .i64 (nb' : Int)) := keepCell (by simp) b1
    have k2 : w1.cell? ⟨w.heap.size, 2, none⟩ = some (.int .i64 (nc : Int)) := keepCell (by simp) b1
    have k3 : w1.cell? ⟨w.heap.size, 3, none⟩ = some (.string p) := keepCell (by simp) b1
    have r1 : ¬ 9223372036854775807 < 1 + tA.size := by omega
    have r2 : ¬ 9223372036854775807 < x1.size + 1 := by omega
    have r3 : ¬ 9223372036854775807 < x2.size + tB.size := by omega
    have r4 : ¬ 9223372036854775807 < x3.size + 1 := by omega
    have r5 : ¬ 9223372036854775807 < x4.size + tC.size := by omega
    have r6 : ¬ 9223372036854775806 < x1.size := by omega
    have r7 : ¬ 9223372036854775806 < x3.size := by omega
    go_region_held3 (fun w' => w'.cell? ⟨w.heap.size, 0, none⟩ = some (.int .i64 (na : Int)) ∧ w'.cell? ⟨w.heap.size, 1, none⟩ = some (.int .i64 (nb' : Int)) ∧ w'.cell? ⟨w.heap.size, 2, none⟩ = some (.int .i64 (nc : Int)) ∧ w'.cell? ⟨w.heap.size, 3, none⟩ = some (.string p) ∧ Glob w')
      (first | exact ⟨k0, k1, k2, k3, kG⟩ | go_keep | (go_split_ands; refine ⟨keepCell ?_ bb5, keepCell ?_ bb5, keepCell ?_ bb5, keepCell ?_ bb5, Glob.later ?_ bb5⟩ <;> assumption) | (go_split_ands; refine ⟨keepCell ?_ bb6, keepCell ?_ bb6, keepCell ?_ bb6, keepCell ?_ bb6, Glob.later ?_ bb6⟩ <;> assumption) | (go_split_ands; refine ⟨keepCell ?_ bb7, keepCell ?_ bb7, keepCell ?_ bb7, keepCell ?_ bb7, Glob.later ?_ bb7⟩ <;> assumption))
      (first | (go_at_call_of 63 na; refine (q1 _ (by first | assumption | (go_split_ands; assumption))).mono ?_; rintro e5 w5 ⟨rfl, bb5⟩) | (go_at_call_of 63 nb'; refine (q2 _ (by first | assumption | (go_split_ands; assumption))).mono ?_; rintro e6 w6 ⟨rfl, bb6⟩) | (go_at_call_of 63 nc; refine (q3 _ (by first | assumption | (go_split_ands; assumption))).mono ?_; rintro e7 w7 ⟨rfl, bb7⟩))
    have k9 : w7.cell? ⟨w.heap.size, 3, none⟩ = some (.string p) := keepCell (keepCell (keepCell (W := w1.drew) k3 bb5) bb6) bb7
    have B1 : Below w.heap.size w w1 := HB.out.trans (b1.mono (by simp))
    have B5 : Below w.heap.size w w5 := (Below.drew B1).trans (bb5.mono B1.size)
    have B6 : Below w.heap.size w w6 := B5.trans (bb6.mono B5.size)
    have hbw : Below w.heap.size w w7 := B6.trans (bb7.mono B6.size)
    clear B1 B5 B6 bb5 bb6 bb7 b1 k0 k1 k2 k3 q0 q1 q2 q3 r1 r2 r3 r4 r5 r6 r7
    by_cases h0 : p.size = 0
    · have he : p.toList.isEmpty = true := by rw [toList_empty]; simp [h0]
      have HF : Hid (x5 = Plain.txt (verText na nb' nc p)) := by show _ = _; rw [HT.out, HV.out, if_pos h0, List.append_nil]; exact HX.out.1
      clear hx1 hx2 hx3 hx4 hx5 hx6
      go_wp2
      go_ret
      exact ⟨by rw [← HF.out]; rfl, hbw⟩
    · have he : p.toList.isEmpty = false := by rw [toList_empty]; simp [h0]
      have HF : Hid (x6 ++ p = Plain.txt (verText na nb' nc p)) := by show _ = _; rw [HT.out, HV.out, if_neg h0]; exact HX.out.2
      clear hx1 hx2 hx3 hx4 hx5
      go_wp2
      go_ret
      exact ⟨by rw [← HF.out]; rfl, hbw⟩

end Go.Proofs.YtepcpnnnhdbjgamGreatDoor.Ver

/- Chapter 5, the landed code: a text cut at the first @. -/
namespace Go.Proofs.YtepcpnnnhdbjgamGreatDoor.Mod
open Go.RowKit Go.Proofs.YtepcpnnnhdbjgamGreatDoor.Mem Go.Proofs.YtepcpnnnhdbjgamGreatDoor.Laws Go.Proofs.YtepcpnnnhdbjgamGreatDoor.Bytes Go.Proofs.YtepcpnnnhdbjgamGreatDoor.Sha Go.Proofs.YtepcpnnnhdbjgamGreatDoor.Ver
set_option linter.unusedVariables false
set_option linter.unusedSimpArgs false

/-- the place of the first @, or -1; what stands before it and behind -/
def ats (t : ByteArray) : Int := match (sb t).findIdx? (fun c => c == 64) with
  | some i => (i : Int)
  | none => -1
def cutA (t : ByteArray) : ByteArray × ByteArray := match (sb t).findIdx? (fun c => c == 64) with
  | some i => (t.extract 0 i, t.extract (i + 1) t.size)
  | none => (t, ⟨#[]⟩)
theorem indexByte_ats : ∀ l : List UInt8, Lib.indexByte l 64 = match (l.map fun b => (b.toNat : Int)).findIdx? (fun c => c == 64) with
    | some i => (i : Int)
    | none => -1 := by
  intro l
  induction l with
  | nil => rfl
  | cons b r ih =>
    by_cases h : b = 64
    · subst h; simp [Lib.indexByte, List.findIdx?_cons]
    · have h2 : ((b.toNat : Int) == 64) = false := by
        rw [beq_eq_false_iff_ne]
        intro h3
        apply h
        apply UInt8.toNat_inj.1
        have : (64 : UInt8).toNat = 64 := rfl
        omega
      have h4 : (b == 64) = false := by simpa using h
      rw [List.map_cons, List.findIdx?_cons, h2]
      unfold Lib.indexByte
      simp only [h4, Bool.false_eq_true, if_false, ih]
      cases (r.map fun b => (b.toNat : Int)).findIdx? (fun c => c == 64) with
      | none => simp
      | some i => simp

set_option maxRecDepth 1000000 in
set_option maxHeartbeats 1000000 in
theorem ibA_impl (w : World) (s : ByteArray) : Calls Tryz.prog 123 #[.string s, .int .u8 64] w fun e w' => e = .returned (.int .i64 (ats s)) ∧ w' = w := by
  have HD : Hid (Lib.indexByte s.data.toList (64 : Int).toNat.toUInt8 = ats s) := indexByte_ats s.data.toList
  go_enter Tryz.func123, Tryz.ntmps123
  go_wp2
  rw [run_callFunc_extern Tryz.func129 (by kernel_rfl) (by kernel_rfl) (by kernel_rfl) (e := Extern.BytealgIndexByte.indexByte) (by kernel_rfl), Lib.run_indexByteString, HD.out]
  simp only [Result.andThen]
  rw [Oper.upon_value]
  go_wp2
  go_ret
  exact ⟨rfl, rfl⟩

set_option maxRecDepth 1000000 in
set_option maxHeartbeats 2000000 in
theorem ixA_impl (w : World) (s : ByteArray) : Calls Tryz.prog 115 #[.string s, .string ⟨#[64]⟩] w fun e w' => e = .returned (.int .i64 (ats s)) ∧ w' = w := by
  have q := ibA_impl w s
  by_cases h : s.toList = [64]
  · have h1 : ([64] == s.toList) = true := by simp [h]
    have HD : Hid (ats s = 0) := by
      show _ = _
      unfold ats
      rw [show sb s = [64] by unfold sb; rw [← ByteArray.toList_eq, h]; rfl]
      rfl
    clear h
    go_enter Tryz.func115, Tryz.ntmps115
    go_wp2_with (go_at_call 123; refine q.mono ?_; rintro e w' ⟨rfl, rfl⟩)
    go_ret
    exact ⟨by rw [HD.out]; rfl, rfl⟩
  · have h1 : ([64] == s.toList) = false := by
      rw [beq_eq_false_iff_ne]
      exact fun e => h e.symm
    clear h
    obtain ⟨d, hd⟩ : ∃ d, ats s = d := ⟨_, rfl⟩
    rw [hd] at q ⊢
    clear hd
    go_enter Tryz.func115, Tryz.ntmps115
    go_wp2_with (go_at_call 123; refine q.mono ?_; rintro e w' ⟨rfl, rfl⟩)
    go_ret
    exact ⟨rfl, rfl⟩

theorem ats_some {s : ByteArray} {i : Nat} (h : (sb s).findIdx? (fun c => c == 64) = some i) : i < s.size := by
  have := (List.findIdx?_eq_some_iff_getElem.1 h).1
  rw [sb_len] at this
  exact this

set_option maxRecDepth 1000000 in
set_option maxHeartbeats 1000000 in
theorem cutlA_impl (w : World) (s : ByteArray) (hs : s.size ≤ 1000000000000) : Calls Tryz.prog 103 #[.string s, .string ⟨#[64]⟩] w fun e w' => e = .returned (.tuple #[.string (cutA s).1, .string (cutA s).2, .bool (decide (0 ≤ ats s))]) ∧ Below w.heap.size w w' := by
  have q := ixA_impl w s
  cases hd : (sb s).findIdx? (fun c => c == 64) with
  | none =>
    have e1 : ats s = -1 := by unfold ats; rw [hd]
    have HC : Hid ((cutA s).1 = s ∧ (cutA s).2 = ⟨#[]⟩) := by show _ ∧ _; unfold cutA; rw [hd]; exact ⟨rfl, rfl⟩
    rw [e1] at q
    have HE : Hid (decide (0 ≤ ats s) = false) := by show _ = _; rw [e1]; rfl
    clear e1 hd
    go_enter Tryz.func103, Tryz.ntmps103
    go_wp2_with (go_at_call 115; refine q.mono ?_; rintro e w' ⟨rfl, rfl⟩)
    go_ret3
    exact ⟨by rw [HC.out.1, HC.out.2, HE.out]; rfl, Below.refl _ _⟩
  | some i =>
    have e1 : ats s = (i : Int) := by unfold ats; rw [hd]
    have hi := ats_some hd
    have HC : Hid ((cutA s).1 = s.extract 0 i ∧ (cutA s).2 = s.extract (i + 1) s.size) := by show _ ∧ _; unfold cutA; rw [hd]; exact ⟨rfl, rfl⟩
    rw [e1] at q
    have HE : Hid (decide (0 ≤ ats s) = true) := by show _ = _; rw [e1]; simp
    clear e1 hd
    have h0 : (0 : Int) ≤ (i : Int) := by omega
    have h1 : i ≤ s.size := by omega
    have h2 : i + 1 ≤ s.size := by omega
    go_enter Tryz.func103, Tryz.ntmps103
    go_wp2_with (go_at_call 115; refine q.mono ?_; rintro e w' ⟨rfl, rfl⟩)
    go_quiet (fail)
    go_wp2
    go_ret3
    exact ⟨by rw [HC.out.1, HC.out.2, HE.out]; rfl, ⟨rfl, rfl, rfl, Nat.le_refl _, fun _ _ => rfl⟩⟩

set_option maxRecDepth 1000000 in
set_option maxHeartbeats 1000000 in
theorem cutA_impl (w : World) (s : ByteArray) (hs : s.size ≤ 1000000000000) : Calls Tryz.prog 86 #[.string s, .string ⟨#[64]⟩] w fun e w' => e = .returned (.tuple #[.string (cutA s).1, .string (cutA s).2, .bool (decide (0 ≤ ats s))]) ∧ Below w.heap.size w w' := by
  have q := cutlA_impl w s hs
  obtain ⟨x, hx⟩ : ∃ x, (cutA s).1 = x := ⟨_, rfl⟩
  obtain ⟨y, hy⟩ : ∃ x, (cutA s).2 = x := ⟨_, rfl⟩
  obtain ⟨z, hz⟩ : ∃ x, decide (0 ≤ ats s) = x := ⟨_, rfl⟩
  rw [hx, hy, hz] at q ⊢
  clear hx hy hz
  go_enter Tryz.func86, Tryz.ntmps86
  go_wp2_with (go_at_call 103; refine q.mono ?_; rintro e w' ⟨rfl, b1⟩)
  go_ret3
  exact ⟨rfl, b1⟩

end Go.Proofs.YtepcpnnnhdbjgamGreatDoor.Mod

/- Chapter 3, the landed code: what the library cuts off a text: a v ahead, and what stands behind the first sign -. -/
namespace Go.Proofs.YtepcpnnnhdbjgamGreatDoor.Ver
open Go.RowKit Go.Proofs.YtepcpnnnhdbjgamGreatDoor.Mem Go.Proofs.YtepcpnnnhdbjgamGreatDoor.Laws Go.Proofs.YtepcpnnnhdbjgamGreatDoor.Bytes Go.Proofs.YtepcpnnnhdbjgamGreatDoor.Sha
set_option linter.unusedVariables false
set_option linter.unusedSimpArgs false

/-- the place of the first sign -, or -1 -/
def dash (t : ByteArray) : Int := match (sb t).findIdx? (fun c => c == 45) with
  | some i => (i : Int)
  | none => -1
theorem indexByte_dash : ∀ l : List UInt8, Lib.indexByte l 45 = match (l.map fun b => (b.toNat : Int)).findIdx? (fun c => c == 45) with
    | some i => (i : Int)
    | none => -1 := by
  intro l
  induction l with
  | nil => rfl
  | cons b r ih =>
    by_cases h : b = 45
    · subst h; simp [Lib.indexByte, List.findIdx?_cons]
    · have h2 : ((b.toNat : Int) == 45) = false := by
        rw [beq_eq_false_iff_ne]
        intro h3
        apply h
        apply UInt8.toNat_inj.1
        have : (45 : UInt8).toNat = 45 := rfl
        omega
      have h4 : (b == 45) = false := by simpa using h
      rw [List.map_cons, List.findIdx?_cons, h2]
      unfold Lib.indexByte
      simp only [h4, Bool.false_eq_true, if_false, ih]
      cases (r.map fun b => (b.toNat : Int)).findIdx? (fun c => c == 45) with
      | none => simp
      | some i => simp

set_option maxRecDepth 1000000 in
set_option maxHeartbeats 1000000 in
theorem ib_impl (w : World) (s : ByteArray) : Calls Tryz.prog 123 #[.string s, .int .u8 45] w fun e w' => e = .returned (.int .i64 (dash s)) ∧ w' = w := by
  have HD : Hid (Lib.indexByte s.data.toList (45 : Int).toNat.toUInt8 = dash s) := indexByte_dash s.data.toList
  go_enter Tryz.func123, Tryz.ntmps123
  go_wp2
  rw [run_callFunc_extern Tryz.func129 (by kernel_rfl) (by kernel_rfl) (by kernel_rfl) (e := Extern.BytealgIndexByte.indexByte) (by kernel_rfl), Lib.run_indexByteString, HD.out]
  simp only [Result.andThen]
  rw [Oper.upon_value]
  go_wp2
  go_ret
  exact ⟨rfl, rfl⟩

set_option maxRecDepth 1000000 in
set_option maxHeartbeats 2000000 in
theorem ix_impl (w : World) (s : ByteArray) : Calls Tryz.prog 115 #[.string s, .string ⟨#[45]⟩] w fun e w' => e = .returned (.int .i64 (dash s)) ∧ w' = w := by
  have q := ib_impl w s
  by_cases h : s.toList = [45]
  · have h1 : ([45] == s.toList) = true := by simp [h]
    have HD : Hid (dash s = 0) := by
      show _ = _
      unfold dash
      rw [show sb s = [45] by unfold sb; rw [← ByteArray.toList_eq, h]; rfl]
      rfl
    clear h
    go_enter Tryz.func115, Tryz.ntmps115
    go_wp2_with (go_at_call 123; refine q.mono ?_; rintro e w' ⟨rfl, rfl⟩)
    go_ret
    exact ⟨by rw [HD.out]; rfl, rfl⟩
  · have h1 : ([45] == s.toList) = false := by
      rw [beq_eq_false_iff_ne]
      exact fun e => h e.symm
    clear h
    obtain ⟨d, hd⟩ : ∃ d, dash s = d := ⟨_, rfl⟩
    rw [hd] at q ⊢
    clear hd
    go_enter Tryz.func115, Tryz.ntmps115
    go_wp2_with (go_at_call 123; refine q.mono ?_; rintro e w' ⟨rfl, rfl⟩)
    go_ret
    exact ⟨rfl, rfl⟩

theorem dash_some {s : ByteArray} {i : Nat} (h : (sb s).findIdx? (fun c => c == 45) = some i) : i < s.size := by
  have := (List.findIdx?_eq_some_iff_getElem.1 h).1
  rw [sb_len] at this
  exact this

set_option maxRecDepth 1000000 in
set_option maxHeartbeats 1000000 in
theorem cutl_impl (w : World) (s : ByteArray) (hs : s.size ≤ 1000000000000) : Calls Tryz.prog 103 #[.string s, .string ⟨#[45]⟩] w fun e w' => e = .returned (.tuple #[.string (cut s).1, .string (cut s).2, .bool (decide (0 ≤ dash s))]) ∧ Below w.heap.size w w' := by
  have q := ix_impl w s
  cases hd : (sb s).findIdx? (fun c => c == 45) with
  | none =>
    have e1 : dash s = -1 := by unfold dash; rw [hd]
    have HC : Hid ((cut s).1 = s ∧ (cut s).2 = ⟨#[]⟩) := by show _ ∧ _; unfold cut; rw [hd]; exact ⟨rfl, rfl⟩
    rw [e1] at q
    have HE : Hid (decide (0 ≤ dash s) = false) := by show _ = _; rw [e1]; rfl
    clear e1 hd
    go_enter Tryz.func103, Tryz.ntmps103
    go_wp2_with (go_at_call 115; refine q.mono ?_; rintro e w' ⟨rfl, rfl⟩)
    go_ret3
    exact ⟨by rw [HC.out.1, HC.out.2, HE.out]; rfl, Below.refl _ _⟩
  | some i =>
    have e1 : dash s = (i : Int) := by unfold dash; rw [hd]
    have hi := dash_some hd
    have HC : Hid ((cut s).1 = s.extract 0 i ∧ (cut s).2 = s.extract (i + 1) s.size) := by show _ ∧ _; unfold cut; rw [hd]; exact ⟨rfl, rfl⟩
    rw [e1] at q
    have HE : Hid (decide (0 ≤ dash s) = true) := by show _ = _; rw [e1]; simp
    clear e1 hd
    have h0 : (0 : Int) ≤ (i : Int) := by omega
    have h1 : i ≤ s.size := by omega
    have h2 : i + 1 ≤ s.size := by omega
    go_enter Tryz.func103, Tryz.ntmps103
    go_wp2_with (go_at_call 115; refine q.mono ?_; rintro e w' ⟨rfl, rfl⟩)
    go_quiet (fail)
    go_wp2
    go_ret3
    exact ⟨by rw [HC.out.1, HC.out.2, HE.out]; rfl, ⟨rfl, rfl, rfl, Nat.le_refl _, fun _ _ => rfl⟩⟩

set_option maxRecDepth 1000000 in
set_option maxHeartbeats 1000000 in
theorem cut_impl (w : World) (s : ByteArray) (hs : s.size ≤ 1000000000000) : Calls Tryz.prog 86 #[.string s, .string ⟨#[45]⟩] w fun e w' => e = .returned (.tuple #[.string (cut s).1, .string (cut s).2, .bool (decide (0 ≤ dash s))]) ∧ Below w.heap.size w w' := by
  have q := cutl_impl w s hs
  obtain ⟨x, hx⟩ : ∃ x, (cut s).1 = x := ⟨_, rfl⟩
  obtain ⟨y, hy⟩ : ∃ x, (cut s).2 = x := ⟨_, rfl⟩
  obtain ⟨z, hz⟩ : ∃ x, decide (0 ≤ dash s) = x := ⟨_, rfl⟩
  rw [hx, hy, hz] at q ⊢
  clear hx hy hz
  go_enter Tryz.func86, Tryz.ntmps86
  go_wp2_with (go_at_call 103; refine q.mono ?_; rintro e w' ⟨rfl, b1⟩)
  go_ret3
  exact ⟨rfl, b1⟩

/-- does the text begin with a v? -/
def vAt (s : ByteArray) : Bool := decide ((sb s).head? = some 118)
def vOff (s : ByteArray) : ByteArray := if vAt s = true then s.extract 1 s.size else s

theorem vAt_nil {s : ByteArray} (h : s.size = 0) : vAt s = false := by
  have := sb_len s
  cases hb : sb s with
  | nil => unfold vAt; rw [hb]; rfl
  | cons x y => rw [hb] at this; simp at this; omega
theorem vAt_pos {s : ByteArray} (h : 0 < s.size) : ((s.extract 0 1).toList == [118]) = vAt s := by
  have hg := sb_get s 0 h
  rw [ByteArray.toList_eq, ByteArray.data_extract, Array.toList_extract]
  unfold vAt
  have hl : 0 < s.data.toList.length := by simpa using h
  cases hd : s.data.toList with
  | nil => rw [hd] at hl; simp at hl
  | cons x y =>
    have hs : sb s = (x.toNat : Int) :: y.map fun b => (b.toNat : Int) := by unfold sb; rw [hd]; rfl
    rw [hs]
    simp only [List.head?_cons, Option.some.injEq]
    rw [Bool.eq_iff_iff]
    simp
    constructor
    · rintro rfl; rfl
    · intro h3
      apply UInt8.toNat_inj.1
      have : (118 : UInt8).toNat = 118 := rfl
      omega

set_option maxRecDepth 1000000 in
set_option maxHeartbeats 1000000 in
theorem hasp_impl (w : World) (s : ByteArray) (hs : s.size ≤ 1000000000000) : Calls Tryz.prog 117 #[.string s, .string ⟨#[118]⟩] w fun e w' => e = .returned (.bool (vAt s)) ∧ w' = w := by
  by_cases h0 : s.size = 0
  · have HN : Hid (vAt s = false) := vAt_nil h0
    have h1 : ¬ 1 ≤ s.size := by omega
    have h2 : s.size < 1 := by omega
    clear h0
    go_enter Tryz.func117, Tryz.ntmps117
    go_wp2
    go_ret
    exact ⟨by rw [HN.out]; rfl, rfl⟩
  · have h1 : 1 ≤ s.size := by omega
    have hv := vAt_pos (s := s) (by omega)
    obtain ⟨x, hx⟩ : ∃ x, vAt s = x := ⟨_, rfl⟩
    rw [hx] at hv ⊢
    clear hx h0
    go_enter Tryz.func117, Tryz.ntmps117
    go_wp2
    go_ret
    exact ⟨by simp [hv], rfl⟩

set_option maxRecDepth 1000000 in
set_option maxHeartbeats 1000000 in
theorem cutp_impl (w : World) (s : ByteArray) (hs : s.size ≤ 1000000000000) : Calls Tryz.prog 100 #[.string s, .string ⟨#[118]⟩] w fun e w' => e = .returned (.tuple #[.string (vOff s), .bool (vAt s)]) ∧ w' = w := by
  have q := hasp_impl w s hs
  cases hx : vAt s with
  | false =>
    have HV : Hid (vOff s = s) := by show _ = _; unfold vOff; rw [hx]; rfl
    rw [hx] at q
    clear hx
    go_enter Tryz.func100, Tryz.ntmps100
    go_wp2_with (first | (go_at_call 117; refine q.mono ?_; rintro e w' ⟨rfl, rfl⟩) | go_in)
    go_ret2
    exact ⟨by rw [HV.out]; rfl, rfl⟩
  | true =>
    have h1 : 1 ≤ s.size := by
      by_cases h0 : s.size = 0
      · rw [vAt_nil h0] at hx; cases hx
      · omega
    have HV : Hid (vOff s = s.extract 1 s.size) := by show _ = _; unfold vOff; rw [hx]; rfl
    rw [hx] at q
    clear hx
    go_enter Tryz.func100, Tryz.ntmps100
    go_wp2_with (first | (go_at_call 117; refine q.mono ?_; rintro e w' ⟨rfl, rfl⟩) | go_in)
    go_ret2
    exact ⟨by rw [HV.out]; rfl, rfl⟩

end Go.Proofs.YtepcpnnnhdbjgamGreatDoor.Ver

/- Chapter 3, the landed code: a number up to a greatest one. -/
namespace Go.Proofs.YtepcpnnnhdbjgamGreatDoor.Ver
open Go.RowKit Go.Proofs.YtepcpnnnhdbjgamGreatDoor.Mem Go.Proofs.YtepcpnnnhdbjgamGreatDoor.Laws Go.Proofs.YtepcpnnnhdbjgamGreatDoor.Bytes Go.Proofs.YtepcpnnnhdbjgamGreatDoor.Sha
set_option linter.unusedVariables false
set_option linter.unusedSimpArgs false

set_option maxRecDepth 1000000 in
set_option maxHeartbeats 1000000 in
theorem upto_impl (w : World) (s : ByteArray) (hs : s.size ≤ 1000000000000) :
    Calls Tryz.prog 101 #[.string s, .int .i64 1000000] w fun e w' => e = .returned (.tuple #[.int .i64 (upTo (sb s) 1000000).1, .bool (upTo (sb s) 1000000).2]) ∧ Below w.heap.size w w' := by
  have q := number_impl w s hs
  obtain ⟨x, hx⟩ : ∃ x, isNum (sb s) = x := ⟨_, rfl⟩
  rw [hx] at q
  have HX : Hid (isNum (sb s) = x) := hx
  clear hx
  cases x
  · have HN : Hid (upTo (sb s) 1000000 = (0, false)) := by show _ = _; unfold upTo; rw [HX.out]; simp
    go_enter Tryz.func101, Tryz.ntmps101
    go_wp2_with (go_at_call 108; refine q.mono ?_; rintro e w1 ⟨rfl, b1⟩)
    go_ret2
    exact ⟨by rw [HN.out]; rfl, b1⟩
  · have HA : Hid ((sb s).all isd = true) := by
      show _ = _
      have h := HX.out
      unfold isNum at h
      rw [Bool.and_eq_true] at h
      exact h.1
    go_enter Tryz.func101, Tryz.ntmps101
    go_wp2_with (go_at_call 108; refine q.mono ?_; rintro e w1 ⟨rfl, b1⟩)
    have s1 := b1.size
    have HB : Hid (Below w.heap.size w w1) := b1
    clear q b1
    go_loopw [6] (fun n wr => ∃ (k : Nat) (m : Int), k ≤ s.size ∧ n = .int .i64 m ∧ Hid (m = numv ((sb s).take k)) ∧ 0 ≤ m ∧ m ≤ 1000000 ∧ wr = w1.iter s k) (fun _ wr => s.size - wr.iterPos w1.heap.size)
    case atStart => exact ⟨0, 0, Nat.zero_le _, rfl, rfl, by omega, by omega, rfl⟩
    case round =>
      obtain ⟨k, m, hk, rfl, HM, m0, m1, rfl⟩ := hrel
      by_cases hp : k < s.size
      · have hg := sb_get s k hp
        have hd : isd (s[k].toNat : Int) = true := List.all_eq_true.1 HA.out _ (List.mem_of_getElem? hg)
        have hc : 48 ≤ (s[k].toNat : Int) ∧ (s[k].toNat : Int) ≤ 57 := by simpa [isd] using hd
        have hnx : ∀ ty, (Instr.next (.pointer (some ⟨w1.heap.size, 0, none⟩)) true ty).run Tryz.prog (w1.iter s k) = _ := fun ty => run_next_ascii w1 s k ty hp (by omega)
        have HN : Hid (m * 10 + ((s[k].toNat : Int) - 48) = numv ((sb s).take (k + 1))) := by
          show _ = _
          rw [take_snoc hg, numv_snoc, HM.out]
        have HT := numv_take HA.out (k + 1)
        rw [← HN.out] at HT
        have HT' : Hid (m * 10 + ((s[k].toNat : Int) - 48) ≤ numv (sb s)) := HT
        obtain ⟨c, hcc⟩ : ∃ c : Int, c = (s[k].toNat : Int) := ⟨_, rfl⟩
        have hBk : Below w.heap.size w (w1.iter s (k + 1)) := HB.out.alloc s1 _
        rw [← hcc] at hnx hc HN HT'
        clear hg hd HT hcc
        by_cases hgt : 1000000 < m * 10 + (c - 48)
        · have HE : Hid (upTo (sb s) 1000000 = (0, false)) := by
            show _ = _
            unfold upTo
            rw [if_neg (fun h => by have := h.2; have := HT'.out; omega)]
          go_wp2
          go_ret2
          exact ⟨by rw [HE.out]; rfl, hBk⟩
        · go_wp2
          go_roundw
          case rel => exact ⟨k + 1, m * 10 + (c - 48), by omega, by go_num, HN, by omega, by omega, rfl⟩
          case measure => simp; omega
      · have hnx : ∀ ty, (Instr.next (.pointer (some ⟨w1.heap.size, 0, none⟩)) true ty).run Tryz.prog (w1.iter s k) = _ := fun ty => run_next_end w1 s k ty hp
        have HE : Hid (upTo (sb s) 1000000 = (m, true)) := by
          show _ = _
          have h := HM.out
          rw [List.take_of_length_le (by rw [sb_len]; omega)] at h
          unfold upTo
          rw [if_pos ⟨HX.out, by omega⟩, h]
        have hBk : Below w.heap.size w (w1.iter s k) := HB.out.alloc s1 _
        go_wp2
        go_ret2
        exact ⟨by rw [HE.out]; rfl, hBk⟩

end Go.Proofs.YtepcpnnnhdbjgamGreatDoor.Ver

/- Chapter 3, the landed code: a version that is read of a text. -/
namespace Go.Proofs.YtepcpnnnhdbjgamGreatDoor.Ver
open Go.RowKit Go.Proofs.YtepcpnnnhdbjgamGreatDoor.Mem Go.Proofs.YtepcpnnnhdbjgamGreatDoor.Laws Go.Proofs.YtepcpnnnhdbjgamGreatDoor.Bytes Go.Proofs.YtepcpnnnhdbjgamGreatDoor.Sha
set_option linter.unusedVariables false
set_option linter.unusedSimpArgs false

/-- three numbers and what stands behind them, if they are a right version's -/
def read3 (T : List ByteArray) (pr : ByteArray) : Option (Int × Int × Int × ByteArray) := match T with
  | [x, y, z] => if (upTo (sb x) 1000000).2 = true ∧ (upTo (sb y) 1000000).2 = true ∧ (upTo (sb z) 1000000).2 = true ∧ okV (upTo (sb x) 1000000).1 (upTo (sb y) 1000000).1 (upTo (sb z) 1000000).1 pr = true
      then some ((upTo (sb x) 1000000).1, (upTo (sb y) 1000000).1, (upTo (sb z) 1000000).1, pr) else none
  | _ => none
def readI (s : ByteArray) : Option (Int × Int × Int × ByteArray) :=
  if vAt s = true ∧ ¬ (0 ≤ dash (vOff s) ∧ (cut (vOff s)).2.size = 0) then read3 (splitT 46 (cut (vOff s)).1) (cut (vOff s)).2 else none
def ifaceQ : Option (Int × Int × Int × ByteArray) → Value
  | none => .nilIface
  | some q => .iface 29 (verQ q)

theorem read3_no {T : List ByteArray} (pr : ByteArray) (h : T.length ≠ 3) : read3 T pr = none := by
  match T, h with
  | [], _ => rfl
  | [_], _ => rfl
  | [_, _], _ => rfl
  | [_, _, _], h => exact absurd rfl h
  | _ :: _ :: _ :: _ :: _, _ => rfl
theorem read3_three (x y z pr : ByteArray) : read3 [x, y, z] pr = if (upTo (sb x) 1000000).2 = true ∧ (upTo (sb y) 1000000).2 = true ∧ (upTo (sb z) 1000000).2 = true ∧ okV (upTo (sb x) 1000000).1 (upTo (sb y) 1000000).1 (upTo (sb z) 1000000).1 pr = true
      then some ((upTo (sb x) 1000000).1, (upTo (sb y) 1000000).1, (upTo (sb z) 1000000).1, pr) else none := rfl
theorem three {T : List ByteArray} (h : T.length = 3) : ∃ x y z, T = [x, y, z] := by
  match T, h with
  | [x, y, z], _ => exact ⟨x, y, z, rfl⟩

/-- three numbers as cells -/
def r3 (x y z : Int) : Array Value := #[.int .i64 x, .int .i64 y, .int .i64 z]
def R3 (w : World) (g : Nat) (x y z : Int) : Prop := w.heap[g]? = some (.cells (r3 x y z) 154 (0, 0))
theorem R3.lt {w : World} {g : Nat} {x y z : Int} (h : R3 w g x y z) : g < w.heap.size := (Array.getElem?_eq_some_iff.1 h).1
theorem R3.same {w w' : World} {g : Nat} {x y z : Int} (h : R3 w g x y z) (hb : Below w.heap.size w w') : R3 w' g x y z := (hb.block g h.lt).trans h
theorem R3.cells {w : World} {g : Nat} {x y z : Int} (h : R3 w g x y z) : w.cell? ⟨g, 0, none⟩ = some (.int .i64 x) ∧ w.cell? ⟨g, 1, none⟩ = some (.int .i64 y) ∧ w.cell? ⟨g, 2, none⟩ = some (.int .i64 z) :=
  ⟨(cell_of_row w g 0 _ _ _ h).trans rfl, (cell_of_row w g 1 _ _ _ h).trans rfl, (cell_of_row w g 2 _ _ _ h).trans rfl⟩
theorem R3.frozen {w : World} {g : Nat} {x y z : Int} (h : R3 w g x y z) (i : Nat) : w.frozen? ⟨g, i, none⟩ = false := by
  have h' : w.heap[g]? = some (.cells (r3 x y z) 154 (0, 0)) := h
  simp [World.frozen?, h']
theorem R3.set {w : World} {g : Nat} {x y z : Int} (h : R3 w g x y z) (i : Nat) (v : Value) : (w.setCell ⟨g, i, none⟩ v).heap[g]? = some (.cells ((r3 x y z).setIfInBounds i v) 154 (0, 0)) := by
  have h' : w.heap[g]? = some (.cells (r3 x y z) 154 (0, 0)) := h
  simp [World.setCell, Array.getElem?_modify, h']

theorem R3.at {w : World} {g : Nat} {x y z : Int} (h : R3 w g x y z) {k : Nat} (hk : k < 3) : ∃ v, w.cell? ⟨g, k, none⟩ = some (.int .i64 v) := by
  obtain ⟨c0, c1, c2⟩ := h.cells
  match k, hk with
  | 0, _ => exact ⟨_, c0⟩
  | 1, _ => exact ⟨_, c1⟩
  | 2, _ => exact ⟨_, c2⟩
theorem R3.step {w : World} {g : Nat} {n1 n2 n3 n : Int} {k : Nat} (h : R3 w g (if 0 < k then n1 else 0) (if 1 < k then n2 else 0) (if 2 < k then n3 else 0)) (hk : k < 3) (hn : [n1, n2, n3][k]? = some n) :
    R3 (w.setCell ⟨g, k, none⟩ (.int .i64 n)) g (if 0 < k + 1 then n1 else 0) (if 1 < k + 1 then n2 else 0) (if 2 < k + 1 then n3 else 0) := by
  have hs := R3.set h k (.int .i64 n)
  match k, hk with
  | 0, _ => simp at hn; subst hn; exact hs
  | 1, _ => simp at hn; subst hn; exact hs
  | 2, _ => simp at hn; subst hn; exact hs

set_option maxRecDepth 1000000 in
set_option maxHeartbeats 4000000 in
theorem readv_impl (w : World) (s : ByteArray) (hs : s.size ≤ 1048576) :
    Calls Tryz.prog 105 #[.string s] w fun e w' => e = .returned (ifaceQ (readI s)) ∧ Below w.heap.size w w' := by
  have hrz : (vOff s).size ≤ s.size := by
    unfold vOff
    split
    · simp
    · exact Nat.le_refl _
  have hcz : (cut (vOff s)).1.size ≤ (vOff s).size ∧ (cut (vOff s)).2.size ≤ (vOff s).size := by
    unfold cut
    split
    · simp; omega
    · exact ⟨Nat.le_refl _, Nat.zero_le _⟩
  have HI : Hid (readI s = if vAt s = true ∧ ¬ (0 ≤ dash (vOff s) ∧ (cut (vOff s)).2.size = 0) then read3 (splitT 46 (cut (vOff s)).1) (cut (vOff s)).2 else none) := rfl
  have q1 := cutp_impl w s (by omega)
  have q2 := cut_impl w (vOff s) (by omega)
  obtain ⟨va, hva⟩ : ∃ x, vAt s = x := ⟨_, rfl⟩
  obtain ⟨rest, hrest⟩ : ∃ x, vOff s = x := ⟨_, rfl⟩
  rw [hva, hrest] at q1
  rw [hrest] at q2 hcz hrz
  rw [hva, hrest] at HI
  clear hva hrest
  obtain ⟨da, hda⟩ : ∃ x, decide (0 ≤ dash rest) = x := ⟨_, rfl⟩
  obtain ⟨fr, hfr⟩ : ∃ x, (cut rest).1 = x := ⟨_, rfl⟩
  obtain ⟨pr, hpr⟩ : ∃ x, (cut rest).2 = x := ⟨_, rfl⟩
  rw [hda, hfr, hpr] at q2
  rw [hfr, hpr] at HI hcz
  have HI2 : Hid (readI s = if va = true ∧ ¬ (da = true ∧ pr.size = 0) then read3 (splitT 46 fr) pr else none) := by
    show _ = _
    rw [HI.out, ← hda]
    simp
  clear hda hfr hpr HI
  have q3 := fun W => parts_impl W fr 46 (by omega) (by omega) (by omega)
  have hTs := splitT_size 46 fr
  have hTl := splitT_len 46 fr
  have hT0 : 0 < (splitT 46 fr).length := by
    unfold splitT
    rw [List.length_map]
    exact splitL_pos 46 (sb fr) []
  obtain ⟨T, hT⟩ : ∃ T, T = splitT 46 fr := ⟨_, rfl⟩
  rw [← hT] at q3 hTs hTl hT0 HI2
  clear hT
  obtain ⟨pe, hpe⟩ : ∃ x, pr.toList.isEmpty = x := ⟨_, rfl⟩
  have HP : Hid (decide (pr.size = 0) = pe) := by show _ = _; rw [← hpe, toList_empty]
  have hprz : pr.size ≤ 1048576 := by omega
  have hfrz : fr.size ≤ 1048576 := by omega
  have HTs : Hid (∀ t ∈ T, t.size ≤ fr.size) := hTs
  clear hTs hcz
  cases va
  · have HN : Hid (readI s = none) := by show _ = _; rw [HI2.out]; simp
    go_enter Tryz.func105, Tryz.ntmps105
    go_wp2_with fail
    refine q1.mono ?_
    rintro e w0 ⟨rfl, rfl⟩
    go_wp2_with fail
    refine q2.mono ?_
    rintro e w2 ⟨rfl, b2⟩
    go_wp2_with fail
    refine (q3 w2).mono ?_
    rintro e w3 ⟨v3, rfl, o3, b3⟩
    have hb3 : Below w0.heap.size w0 w3 := b2.trans (b3.mono b2.size)
    obtain ⟨ao3, cap3, hv3⟩ := o3.len
    subst hv3
    rw [ss_len]
    clear o3
    go_wp2
    go_ret
    exact ⟨by rw [HN.out]; rfl, hb3⟩
  · cases da
    · have HI3 : Hid (readI s = read3 T pr) := by show _ = _; rw [HI2.out]; simp
      by_cases h3 : T.length = 3
      · obtain ⟨x, y, z, rfl⟩ := three h3
        have hx := HTs.out x (by simp)
        have hy := HTs.out y (by simp)
        have hz := HTs.out z (by simp)
        go_enter Tryz.func105, Tryz.ntmps105
        go_wp2_with fail
        refine q1.mono ?_
        rintro e w0 ⟨rfl, rfl⟩
        go_wp2_with fail
        refine q2.mono ?_
        rintro e w2 ⟨rfl, b2⟩
        go_wp2_with fail
        refine (q3 w2).mono ?_
        rintro e w3 ⟨v3, rfl, o3, b3⟩
        have hb3 : Below w0.heap.size w0 w3 := b2.trans (b3.mono b2.size)
        obtain ⟨g, cap, rfl, hg1, hg2, hcap, hc⟩ := ownForm o3 (by simp [ss])
        have hl3 : (ss [x, y, z]).length = 3 := rfl
        rw [hl3] at hcap hc
        rw [hl3]
        obtain ⟨n1, o1, e1⟩ : ∃ a b, upTo (sb x) 1000000 = (a, b) := ⟨_, _, rfl⟩
        obtain ⟨n2, o2, e2⟩ : ∃ a b, upTo (sb y) 1000000 = (a, b) := ⟨_, _, rfl⟩
        obtain ⟨n3, o3', e3⟩ : ∃ a b, upTo (sb z) 1000000 = (a, b) := ⟨_, _, rfl⟩
        have HI4 : Hid (readI s = if o1 = true ∧ o2 = true ∧ o3' = true ∧ okV n1 n2 n3 pr = true then some (n1, n2, n3, pr) else none) := by
          show _ = _
          rw [HI3.out]
          rw [read3_three]
          rw [e1, e2, e3]
        have HQ : Hid (∀ (k : Nat) (t : ByteArray), [x, y, z][k]? = some t → ∃ n o, upTo (sb t) 1000000 = (n, o) ∧ [n1, n2, n3][k]? = some n ∧ [o1, o2, o3'][k]? = some o ∧ t.size ≤ 1048576) := by
          intro k t ht
          match k, ht with
          | 0, ht => simp at ht; subst ht; exact ⟨n1, o1, e1, rfl, rfl, by omega⟩
          | 1, ht => simp at ht; subst ht; exact ⟨n2, o2, e2, rfl, rfl, by omega⟩
          | 2, ht => simp at ht; subst ht; exact ⟨n3, o3', e3, rfl, rfl, by omega⟩
          | k + 3, ht => simp at ht
        have HC : Hid (∀ j, j < 3 → w3.cell? ⟨g, j, none⟩ = (ss [x, y, z])[j]?) := hc
        have HB3 : Hid (Below w0.heap.size w0 w3) := hb3
        have hs3 := hb3.size
        have qk : ∀ W, _ := fun W => ok_impl W n1 n2 n3 pr (by omega)
        unfold ver at qk
        obtain ⟨G, hG⟩ : ∃ G, G = w3.heap.size := ⟨_, rfl⟩
        have hGr : R3 (w3.alloc (.cells #[.int .i64 0, .int .i64 0, .int .i64 0] 154)) w3.heap.size 0 0 0 := heap_alloc_new w3 _
        have hGb : Below w3.heap.size w3 (w3.alloc (.cells #[.int .i64 0, .int .i64 0, .int .i64 0] 154)) := (Below.refl _ _).alloc (Nat.le_refl _) _
        clear e1 e2 e3 hc o3 hb3 b2 b3 hl3 q1 q2 q3 hx hy hz
        go_wp2
        go_loopw [44] (fun i wr => ∃ k : Nat, k ≤ 3 ∧ i = .int .i64 (k : Int) ∧ Hid ((0 < k → o1 = true) ∧ (1 < k → o2 = true) ∧ (2 < k → o3' = true)) ∧ R3 wr w3.heap.size (if 0 < k then n1 else 0) (if 1 < k then n2 else 0) (if 2 < k then n3 else 0) ∧ Below w3.heap.size w3 wr) (fun i _ => 3 - (intOf i).toNat)
        case atStart => exact ⟨0, by omega, rfl, ⟨fun h => absurd h (by omega), fun h => absurd h (by omega), fun h => absurd h (by omega)⟩, hGr, hGb⟩
        case round =>
          obtain ⟨k, hk, rfl, HA, hR, hb⟩ := hrel
          have hsz := hb.size
          have hB : Below w0.heap.size w0 wr := HB3.out.trans (hb.mono hs3)
          clear hGr hGb
          by_cases hlt : k < 3
          · obtain ⟨t, ht⟩ : ∃ t, [x, y, z][k]? = some t := ⟨[x, y, z][k]'(by simpa using hlt), List.getElem?_eq_getElem (by simpa using hlt)⟩
            obtain ⟨n, o, hu, hn, ho, htz⟩ := HQ.out k t ht
            have hcell : wr.cell? ⟨g, k, none⟩ = some (.string t) := by rw [hb.cell (p := ⟨g, k, none⟩) hg2, HC.out k hlt, ss_get, ht]; rfl
            have q := upto_impl wr t (by omega)
            rw [hu] at q
            simp only at q
            have HN1 : Hid ([n1, n2, n3][k]? = some n) := hn
            have HR : Hid (R3 wr w3.heap.size (if 0 < k then n1 else 0) (if 1 < k then n2 else 0) (if 2 < k then n3 else 0)) := hR
            have HOk : Hid ([o1, o2, o3'][k]? = some o) := ho
            clear hu hn ho hR ht
            cases o
            · have HN : Hid (readI s = none) := by
                show _ = _
                rw [HI4.out, if_neg]
                rintro ⟨h1, h2, h3, _⟩
                have := HOk.out
                subst h1 h2 h3
                match k, hlt with
                | 0, _ => simp at this
                | 1, _ => simp at this
                | 2, _ => simp at this
              go_wp2_with (go_at_call 101; refine q.mono ?_; rintro e w5 ⟨rfl, b5⟩)
              go_ret
              exact ⟨by rw [HN.out]; rfl, hB.trans (b5.mono hB.size)⟩
            · go_wp2_with fail
              refine q.mono ?_
              rintro e w5 ⟨rfl, b5⟩
              have r5 := R3.same HR.out b5
              obtain ⟨old, hold⟩ := R3.at r5 hlt
              have hfz := R3.frozen r5 k
              have HR5 : Hid (R3 w5 w3.heap.size (if 0 < k then n1 else 0) (if 1 < k then n2 else 0) (if 2 < k then n3 else 0)) := r5
              have HB5 : Hid (Below w3.heap.size w3 w5) := hb.trans (b5.mono hsz)
              clear r5 q b5 HR
              go_wp2
              go_roundw
              case rel =>
                refine ⟨k + 1, by omega, by go_num, ?_, R3.step HR5.out hlt HN1.out, HB5.out.setCell (p := ⟨w3.heap.size, k, none⟩) (Nat.le_refl _) _⟩
                have := HOk.out
                obtain ⟨h1, h2, h3⟩ := HA.out
                match k, hlt with
                | 0, _ => simp at this; exact ⟨fun _ => this, fun h => absurd h (by omega), fun h => absurd h (by omega)⟩
                | 1, _ => simp at this; exact ⟨fun _ => h1 (by omega), fun _ => this, fun h => absurd h (by omega)⟩
                | 2, _ => simp at this; exact ⟨fun _ => h1 (by omega), fun _ => h2 (by omega), fun _ => this⟩
              case measure => simp [intOf]; omega
          · have hk3 : k = 3 := by omega
            have hR' : R3 wr w3.heap.size n1 n2 n3 := by subst hk3; exact hR
            have HO : Hid (o1 = true ∧ o2 = true ∧ o3' = true) := by
              obtain ⟨h1, h2, h3⟩ := HA.out
              exact ⟨h1 (by omega), h2 (by omega), h3 (by omega)⟩
            obtain ⟨c0, c1, c2⟩ := R3.cells hR'
            have V6 : Hid (Vr (wr.alloc (.cells (vc n1 n2 n3 pr) 29)) wr.heap.size n1 n2 n3 pr) := heap_alloc_new wr _
            have B6 : Hid (Below w0.heap.size w0 (wr.alloc (.cells (vc n1 n2 n3 pr) 29))) := hB.alloc hB.size _
            clear hR hR' hk3
            obtain ⟨ok, hok⟩ : ∃ b, okV n1 n2 n3 pr = b := ⟨_, rfl⟩
            have HI5 : Hid (readI s = if ok = true then some (n1, n2, n3, pr) else none) := by
              show _ = _
              rw [HI4.out, HO.out.1, HO.out.2.1, HO.out.2.2, hok]
              simp
            rw [hok] at qk
            clear hok
            go_wp2_with fail
            refine (qk _).mono ?_
            rintro e w7 ⟨rfl, b7⟩
            have V7 : Vr w7 wr.heap.size n1 n2 n3 pr := Vr.same V6.out b7
            have B7 : Below w0.heap.size w0 w7 := B6.out.trans (b7.mono B6.out.size)
            clear V6 B6 b7 qk c0 c1 c2
            cases ok
            · go_wp2_with fail
              go_ret
              exact ⟨by rw [HI5.out]; rfl, B7⟩
            · go_wp2_with (refine wpList_load_row rfl 29 _ rfl wr.heap.size rfl 29 (vc n1 n2 n3 pr) (0, 0) _ V7 Tryz.underlying29 rfl (sizeV n1 n2 n3 pr) ?_)
              go_ret
              exact ⟨by rw [HI5.out]; rfl, B7⟩
      · have HN : Hid (readI s = none) := by show _ = _; rw [HI2.out, read3_no pr h3]; simp
        have d3 : ((T.length : Int) != 3) = true := by simp; omega
        clear h3
        go_enter Tryz.func105, Tryz.ntmps105
        go_wp2_with fail
        refine q1.mono ?_
        rintro e w0 ⟨rfl, rfl⟩
        go_wp2_with fail
        refine q2.mono ?_
        rintro e w2 ⟨rfl, b2⟩
        go_wp2_with fail
        refine (q3 w2).mono ?_
        rintro e w3 ⟨v3, rfl, o3, b3⟩
        have hb3 : Below w0.heap.size w0 w3 := b2.trans (b3.mono b2.size)
        obtain ⟨ao3, cap3, hv3⟩ := o3.len
        subst hv3
        rw [ss_len]
        clear o3
        go_wp2
        go_ret
        exact ⟨by rw [HN.out]; rfl, hb3⟩
    · cases pe
      · have HI3 : Hid (readI s = read3 T pr) := by
          show _ = _
          have := HP.out
          rw [HI2.out]
          simp at this
          simp [this]
        by_cases h3 : T.length = 3
        · obtain ⟨x, y, z, rfl⟩ := three h3
          have hx := HTs.out x (by simp)
          have hy := HTs.out y (by simp)
          have hz := HTs.out z (by simp)
          go_enter Tryz.func105, Tryz.ntmps105
          go_wp2_with fail
          refine q1.mono ?_
          rintro e w0 ⟨rfl, rfl⟩
          go_wp2_with fail
          refine q2.mono ?_
          rintro e w2 ⟨rfl, b2⟩
          go_wp2_with fail
          refine (q3 w2).mono ?_
          rintro e w3 ⟨v3, rfl, o3, b3⟩
          have hb3 : Below w0.heap.size w0 w3 := b2.trans (b3.mono b2.size)
          obtain ⟨g, cap, rfl, hg1, hg2, hcap, hc⟩ := ownForm o3 (by simp [ss])
          have hl3 : (ss [x, y, z]).length = 3 := rfl
          rw [hl3] at hcap hc
          rw [hl3]
          obtain ⟨n1, o1, e1⟩ : ∃ a b, upTo (sb x) 1000000 = (a, b) := ⟨_, _, rfl⟩
          obtain ⟨n2, o2, e2⟩ : ∃ a b, upTo (sb y) 1000000 = (a, b) := ⟨_, _, rfl⟩
          obtain ⟨n3, o3', e3⟩ : ∃ a b, upTo (sb z) 1000000 = (a, b) := ⟨_, _, rfl⟩
          have HI4 : Hid (readI s = if o1 = true ∧ o2 = true ∧ o3' = true ∧ okV n1 n2 n3 pr = true then some (n1, n2, n3, pr) else none) := by
            show _ = _
            rw [HI3.out]
            rw [read3_three]
            rw [e1, e2, e3]
          have HQ : Hid (∀ (k : Nat) (t : ByteArray), [x, y, z][k]? = some t → ∃ n o, upTo (sb t) 1000000 = (n, o) ∧ [n1, n2, n3][k]? = some n ∧ [o1, o2, o3'][k]? = some o ∧ t.size ≤ 1048576) := by
            intro k t ht
            match k, ht with
            | 0, ht => simp at ht; subst ht; exact ⟨n1, o1, e1, rfl, rfl, by omega⟩
            | 1, ht => simp at ht; subst ht; exact ⟨n2, o2, e2, rfl, rfl, by omega⟩
            | 2, ht => simp at ht; subst ht; exact ⟨n3, o3', e3, rfl, rfl, by omega⟩
            | k + 3, ht => simp at ht
          have HC : Hid (∀ j, j < 3 → w3.cell? ⟨g, j, none⟩ = (ss [x, y, z])[j]?) := hc
          have HB3 : Hid (Below w0.heap.size w0 w3) := hb3
          have hs3 := hb3.size
          have qk : ∀ W, _ := fun W => ok_impl W n1 n2 n3 pr (by omega)
          unfold ver at qk
          obtain ⟨G, hG⟩ : ∃ G, G = w3.heap.size := ⟨_, rfl⟩
          have hGr : R3 (w3.alloc (.cells #[.int .i64 0, .int .i64 0, .int .i64 0] 154)) w3.heap.size 0 0 0 := heap_alloc_new w3 _
          have hGb : Below w3.heap.size w3 (w3.alloc (.cells #[.int .i64 0, .int .i64 0, .int .i64 0] 154)) := (Below.refl _ _).alloc (Nat.le_refl _) _
          clear e1 e2 e3 hc o3 hb3 b2 b3 hl3 q1 q2 q3 hx hy hz
          go_wp2
          go_loopw [44] (fun i wr => ∃ k : Nat, k ≤ 3 ∧ i = .int .i64 (k : Int) ∧ Hid ((0 < k → o1 = true) ∧ (1 < k → o2 = true) ∧ (2 < k → o3' = true)) ∧ R3 wr w3.heap.size (if 0 < k then n1 else 0) (if 1 < k then n2 else 0) (if 2 < k then n3 else 0) ∧ Below w3.heap.size w3 wr) (fun i _ => 3 - (intOf i).toNat)
          case atStart => exact ⟨0, by omega, rfl, ⟨fun h => absurd h (by omega), fun h => absurd h (by omega), fun h => absurd h (by omega)⟩, hGr, hGb⟩
          case round =>
            obtain ⟨k, hk, rfl, HA, hR, hb⟩ := hrel
            have hsz := hb.size
            have hB : Below w0.heap.size w0 wr := HB3.out.trans (hb.mono hs3)
            clear hGr hGb
            by_cases hlt : k < 3
            · obtain ⟨t, ht⟩ : ∃ t, [x, y, z][k]? = some t := ⟨[x, y, z][k]'(by simpa using hlt), List.getElem?_eq_getElem (by simpa using hlt)⟩
              obtain ⟨n, o, hu, hn, ho, htz⟩ := HQ.out k t ht
              have hcell : wr.cell? ⟨g, k, none⟩ = some (.string t) := by rw [hb.cell (p := ⟨g, k, none⟩) hg2, HC.out k hlt, ss_get, ht]; rfl
              have q := upto_impl wr t (by omega)
              rw [hu] at q
              simp only at q
              have HN1 : Hid ([n1, n2, n3][k]? = some n) := hn
              have HR : Hid (R3 wr w3.heap.size (if 0 < k then n1 else 0) (if 1 < k then n2 else 0) (if 2 < k then n3 else 0)) := hR
              have HOk : Hid ([o1, o2, o3'][k]? = some o) := ho
              clear hu hn ho hR ht
              cases o
              · have HN : Hid (readI s = none) := by
                  show _ = _
                  rw [HI4.out, if_neg]
                  rintro ⟨h1, h2, h3, _⟩
                  have := HOk.out
                  subst h1 h2 h3
                  match k, hlt with
                  | 0, _ => simp at this
                  | 1, _ => simp at this
                  | 2, _ => simp at this
                go_wp2_with (go_at_call 101; refine q.mono ?_; rintro e w5 ⟨rfl, b5⟩)
                go_ret
                exact ⟨by rw [HN.out]; rfl, hB.trans (b5.mono hB.size)⟩
              · go_wp2_with fail
                refine q.mono ?_
                rintro e w5 ⟨rfl, b5⟩
                have r5 := R3.same HR.out b5
                obtain ⟨old, hold⟩ := R3.at r5 hlt
                have hfz := R3.frozen r5 k
                have HR5 : Hid (R3 w5 w3.heap.size (if 0 < k then n1 else 0) (if 1 < k then n2 else 0) (if 2 < k then n3 else 0)) := r5
                have HB5 : Hid (Below w3.heap.size w3 w5) := hb.trans (b5.mono hsz)
                clear r5 q b5 HR
                go_wp2
                go_roundw
                case rel =>
                  refine ⟨k + 1, by omega, by go_num, ?_, R3.step HR5.out hlt HN1.out, HB5.out.setCell (p := ⟨w3.heap.size, k, none⟩) (Nat.le_refl _) _⟩
                  have := HOk.out
                  obtain ⟨h1, h2, h3⟩ := HA.out
                  match k, hlt with
                  | 0, _ => simp at this; exact ⟨fun _ => this, fun h => absurd h (by omega), fun h => absurd h (by omega)⟩
                  | 1, _ => simp at this; exact ⟨fun _ => h1 (by omega), fun _ => this, fun h => absurd h (by omega)⟩
                  | 2, _ => simp at this; exact ⟨fun _ => h1 (by omega), fun _ => h2 (by omega), fun _ => this⟩
                case measure => simp [intOf]; omega
            · have hk3 : k = 3 := by omega
              have hR' : R3 wr w3.heap.size n1 n2 n3 := by subst hk3; exact hR
              have HO : Hid (o1 = true ∧ o2 = true ∧ o3' = true) := by
                obtain ⟨h1, h2, h3⟩ := HA.out
                exact ⟨h1 (by omega), h2 (by omega), h3 (by omega)⟩
              obtain ⟨c0, c1, c2⟩ := R3.cells hR'
              have V6 : Hid (Vr (wr.alloc (.cells (vc n1 n2 n3 pr) 29)) wr.heap.size n1 n2 n3 pr) := heap_alloc_new wr _
              have B6 : Hid (Below w0.heap.size w0 (wr.alloc (.cells (vc n1 n2 n3 pr) 29))) := hB.alloc hB.size _
              clear hR hR' hk3
              obtain ⟨ok, hok⟩ : ∃ b, okV n1 n2 n3 pr = b := ⟨_, rfl⟩
              have HI5 : Hid (readI s = if ok = true then some (n1, n2, n3, pr) else none) := by
                show _ = _
                rw [HI4.out, HO.out.1, HO.out.2.1, HO.out.2.2, hok]
                simp
              rw [hok] at qk
              clear hok
              go_wp2_with fail
              refine (qk _).mono ?_
              rintro e w7 ⟨rfl, b7⟩
              have V7 : Vr w7 wr.heap.size n1 n2 n3 pr := Vr.same V6.out b7
              have B7 : Below w0.heap.size w0 w7 := B6.out.trans (b7.mono B6.out.size)
              clear V6 B6 b7 qk c0 c1 c2
              cases ok
              · go_wp2_with fail
                go_ret
                exact ⟨by rw [HI5.out]; rfl, B7⟩
              · go_wp2_with (refine wpList_load_row rfl 29 _ rfl wr.heap.size rfl 29 (vc n1 n2 n3 pr) (0, 0) _ V7 Tryz.underlying29 rfl (sizeV n1 n2 n3 pr) ?_)
                go_ret
                exact ⟨by rw [HI5.out]; rfl, B7⟩
        · have HN : Hid (readI s = none) := by show _ = _; rw [HI2.out, read3_no pr h3]; simp
          have d3 : ((T.length : Int) != 3) = true := by simp; omega
          clear h3
          go_enter Tryz.func105, Tryz.ntmps105
          go_wp2_with fail
          refine q1.mono ?_
          rintro e w0 ⟨rfl, rfl⟩
          go_wp2_with fail
          refine q2.mono ?_
          rintro e w2 ⟨rfl, b2⟩
          go_wp2_with fail
          refine (q3 w2).mono ?_
          rintro e w3 ⟨v3, rfl, o3, b3⟩
          have hb3 : Below w0.heap.size w0 w3 := b2.trans (b3.mono b2.size)
          obtain ⟨ao3, cap3, hv3⟩ := o3.len
          subst hv3
          rw [ss_len]
          clear o3
          go_wp2
          go_ret
          exact ⟨by rw [HN.out]; rfl, hb3⟩
      · have HN : Hid (readI s = none) := by
          show _ = _
          have := HP.out
          rw [HI2.out]
          simp at this
          simp [this]
        go_enter Tryz.func105, Tryz.ntmps105
        go_wp2_with fail
        refine q1.mono ?_
        rintro e w0 ⟨rfl, rfl⟩
        go_wp2_with fail
        refine q2.mono ?_
        rintro e w2 ⟨rfl, b2⟩
        go_wp2_with fail
        refine (q3 w2).mono ?_
        rintro e w3 ⟨v3, rfl, o3, b3⟩
        have hb3 : Below w0.heap.size w0 w3 := b2.trans (b3.mono b2.size)
        obtain ⟨ao3, cap3, hv3⟩ := o3.len
        subst hv3
        rw [ss_len]
        clear o3
        go_wp2
        go_ret
        exact ⟨by rw [HN.out]; rfl, hb3⟩

end Go.Proofs.YtepcpnnnhdbjgamGreatDoor.Ver

/- Chapter 3, the landed code: a version that is read of a text, and whether it is one. -/
namespace Go.Proofs.YtepcpnnnhdbjgamGreatDoor.Ver
open Go.RowKit Go.Proofs.YtepcpnnnhdbjgamGreatDoor.Mem Go.Proofs.YtepcpnnnhdbjgamGreatDoor.Laws Go.Proofs.YtepcpnnnhdbjgamGreatDoor.Bytes Go.Proofs.YtepcpnnnhdbjgamGreatDoor.Sha
set_option linter.unusedVariables false
set_option linter.unusedSimpArgs false

def parseI (s : ByteArray) : (Int × Int × Int × ByteArray) × Bool := match readI s with
  | none => ((0, 0, 0, ⟨#[]⟩), false)
  | some q => (q, true)

theorem zeroV : (Tryz.prog.info? 29).map (·.zero) = some (some (.agg #[.int .i64 0, .int .i64 0, .int .i64 0, .string ⟨#[]⟩])) := by kernel_rfl
theorem ta_nil (w : World) : (Instr.typeAssert .nilIface 20 29 true).run Tryz.prog w = .ok (.tuple #[.agg #[.int .i64 0, .int .i64 0, .int .i64 0, .string ⟨#[]⟩], .bool false]) w := by
  obtain ⟨i, hi, hz⟩ := Option.map_eq_some_iff.1 zeroV
  simp [Instr.typeAssert, run_underlying Tryz.underlying29, zeroValue, typeInfo, hi, hz, go_sem]
theorem ta_ok (w : World) (v : Value) : (Instr.typeAssert (.iface 29 v) 20 29 true).run Tryz.prog w = .ok (.tuple #[v, .bool true]) w := by
  simp [Instr.typeAssert, run_underlying Tryz.underlying29, go_sem]

set_option maxRecDepth 1000000 in
set_option maxHeartbeats 1000000 in
theorem parse_impl (w : World) (s : ByteArray) (hs : s.size ≤ 1048576) :
    Calls Tryz.prog 88 #[.string s] w fun e w' => e = .returned (.tuple #[verQ (parseI s).1, .bool (parseI s).2]) ∧ Below w.heap.size w w' := by
  have HB : Hid (Below w.heap.size w (w.alloc (.cells (vc 0 0 0 ⟨#[]⟩) 29))) := (Below.refl _ _).alloc (Nat.le_refl _) _
  have HV : Hid (Vr (w.alloc (.cells (vc 0 0 0 ⟨#[]⟩) 29)) w.heap.size 0 0 0 ⟨#[]⟩) := heap_alloc_new w _
  have q := readv_impl (w.alloc (.cells (vc 0 0 0 ⟨#[]⟩) 29)) s hs
  cases hr : readI s with
  | none =>
    have HP : Hid (parseI s = ((0, 0, 0, ⟨#[]⟩), false)) := by show _ = _; unfold parseI; rw [hr]
    rw [hr] at q
    unfold ifaceQ at q
    clear hr
    go_enter Tryz.func88, Tryz.ntmps88
    go_wp2_with fail
    refine q.mono ?_
    rintro e w1 ⟨rfl, b1⟩
    have V1 : Vr (w1.alloc (.cells (vc 0 0 0 ⟨#[]⟩) 29)) w.heap.size 0 0 0 ⟨#[]⟩ := Vr.same (Vr.same HV.out b1) ((Below.refl _ _).alloc (Nat.le_refl _) _)
    have V2 : Vr (w1.alloc (.cells (vc 0 0 0 ⟨#[]⟩) 29)) w1.heap.size 0 0 0 ⟨#[]⟩ := heap_alloc_new w1 _
    have B1 : Below w.heap.size w w1 := HB.out.trans (b1.mono HB.out.size)
    have B2 : Below w.heap.size w (w1.alloc (.cells (vc 0 0 0 ⟨#[]⟩) 29)) := B1.alloc B1.size _
    have ht := ta_nil
    clear q b1 HB HV
    go_wp2_with (first | (refine wpList_load_row rfl 29 _ rfl w1.heap.size rfl 29 (vc 0 0 0 ⟨#[]⟩) (0, 0) _ V2 Tryz.underlying29 rfl (sizeV 0 0 0 ⟨#[]⟩) ?_) | (refine wpList_store_row rfl 29 _ _ rfl w.heap.size (vc 0 0 0 ⟨#[]⟩) rfl rfl 29 (vc 0 0 0 ⟨#[]⟩) V1 (sizeV 0 0 0 ⟨#[]⟩) rfl (oneV 0 0 0 ⟨#[]⟩) ?_))
    exact bodyPost_ret (results_row_tmp rfl _ _ w.heap.size 29 (vc 0 0 0 ⟨#[]⟩) (0, 0) _ rfl (Vr.row V1 0 0 0 ⟨#[]⟩) Tryz.underlying29 rfl (sizeV 0 0 0 ⟨#[]⟩)) rfl ⟨by rw [HP.out]; rfl, below_setRow B2 (by omega) _⟩
  | some v =>
    obtain ⟨a, b, c, p⟩ := v
    have HP : Hid (parseI s = ((a, b, c, p), true)) := by show _ = _; unfold parseI; rw [hr]
    rw [hr] at q
    unfold ifaceQ verQ ver at q
    clear hr
    go_enter Tryz.func88, Tryz.ntmps88
    go_wp2_with fail
    refine q.mono ?_
    rintro e w1 ⟨rfl, b1⟩
    have V1 : Vr (w1.alloc (.cells (vc a b c p) 29)) w.heap.size 0 0 0 ⟨#[]⟩ := Vr.same (Vr.same HV.out b1) ((Below.refl _ _).alloc (Nat.le_refl _) _)
    have V2 : Vr (w1.alloc (.cells (vc a b c p) 29)) w1.heap.size a b c p := heap_alloc_new w1 _
    have B1 : Below w.heap.size w w1 := HB.out.trans (b1.mono HB.out.size)
    have B2 : Below w.heap.size w (w1.alloc (.cells (vc a b c p) 29)) := B1.alloc B1.size _
    have ht := fun w => ta_ok w (.agg #[.int .i64 a, .int .i64 b, .int .i64 c, .string p])
    clear q b1 HB HV
    go_wp2_with (first | (refine wpList_load_row rfl 29 _ rfl w1.heap.size rfl 29 (vc a b c p) (0, 0) _ V2 Tryz.underlying29 rfl (sizeV a b c p) ?_) | (refine wpList_store_row rfl 29 _ _ rfl w.heap.size (vc a b c p) rfl rfl 29 (vc 0 0 0 ⟨#[]⟩) V1 (sizeV a b c p) rfl (oneV a b c p) ?_))
    exact bodyPost_ret (results_row_tmp rfl _ _ w.heap.size 29 (vc a b c p) (0, 0) _ rfl (Vr.row V1 a b c p) Tryz.underlying29 rfl (sizeV a b c p)) rfl ⟨by rw [HP.out]; rfl, below_setRow B2 (by omega) _⟩

end Go.Proofs.YtepcpnnnhdbjgamGreatDoor.Ver
