/- Texts in one: LhD, LhE. -/
import Derived.Test.YtfpaichdkddglaaGreatDoorPm35
import Derived.Test.YtfpaichdkddglaaGreatDoorPm36
import Derived.Test.YtfpaichdkddglaaGreatDoorPm11
namespace Go.Proofs.YtfpaichdkddglaaGreatDoor.Lg
open Go.RowKit Go.Proofs.YtfpaichdkddglaaGreatDoor.Mem Go.Proofs.YtfpaichdkddglaaGreatDoor.Laws Go.Proofs.YtfpaichdkddglaaGreatDoor.Bytes Go.Proofs.YtfpaichdkddglaaGreatDoor.Sha Go.Proofs.YtfpaichdkddglaaGreatDoor.Tr Go.Proofs.YtfpaichdkddglaaGreatDoor.He
set_option linter.unusedVariables false
set_option linter.unusedSimpArgs false
def why (a0 a1 a2 a3 : Addr) (c : Int) (a : Addr) : Prop := (c = 1 ∧ a = a0) ∨ (c = 2 ∧ a = a1) ∨ (c = 3 ∧ a = a2) ∨ (c = 4 ∧ a = a3)
theorem globLt {w : World} {g : Nat} {a : Addr} (h : Is.At w g a) : g < w.heap.size := World.block_lt_of_cell? w _ h.1
set_option maxRecDepth 1000000 in
set_option maxHeartbeats 8000000 in
theorem extended_impl (w : World) (v vt vx : Value) (l x : List ByteArray) (hd h : Hd) (t : List Hd) {a0 a1 a2 a3 : Addr} (hG : Glob w) (hF : Is.Four w a0 a1 a2 a3) (hs : Sl w v (ss l)) (ht : Sh w vt t) (hsx : Sl w vx (ss x)) (hl : l.length ≤ 1000000000) (htl : t.length ≤ 1000000000) (hx : x.length ≤ 1000000000) (hz : ∀ s ∈ l, s.size ≤ 10000000000) (hzx : ∀ s ∈ x, s.size ≤ 10000000000) (hhr : h.r.size ≤ 1000000000000) :
  Calls Tryz.prog 28 #[.agg #[v, .int .i64 hd.n, .string hd.r], vt, .agg #[.int .i64 h.n, .string h.r], vx] w fun e w' => ((∃ c a, why a0 a1 a2 a3 c a ∧ extend l hd t h x = (l, hd, c) ∧ e = .returned (.tuple #[.agg #[.slice none 0 0, .int .i64 0, .string ⟨#[]⟩], Is.refV h.n h.r a])) ∨
   (∃ v', extend l hd t h x = (l ++ x, h, 0) ∧ e = .returned (.tuple #[.agg #[v', .int .i64 h.n, .string h.r], .nilIface]) ∧ Own w' w.heap.size w'.heap.size 9 v' (ss (l ++ x)))) ∧ Below w.heap.size w w' := by
 have HS : Hid (Sl w v (ss l)) := hs
 have HSX : Hid (Sl w vx (ss x)) := hsx
 have HT : Hid (Sh w vt t) := ht
 have HG : Hid (Glob w) := hG
 have HF : Hid (Is.Four w a0 a1 a2 a3) := hF
 obtain ⟨ao0, cap0, rfl, hc0⟩ := hs.form
 obtain ⟨ao1, cap1, rfl, hc1⟩ := hsx.form
 obtain ⟨ao2, cap2, rfl, hc2⟩ := ht.form
 simp only [ss_len] at *
 clear hs hsx ht hG hF
 have B0 : Hid (Below w.heap.size w w) := Below.refl _ _
 obtain ⟨i9, hi9, hz9a, hz9b, hz9c⟩ := info_parts info9t
 obtain ⟨W1, HW1, b1, y1, hS1, r_a1, r_h1, r_res1⟩ : ∃ X, Hid ((((w.alloc (.cells #[.slice ao0 l.length cap0, .int .i64 hd.n, .string hd.r] 31)).alloc (.cells #[.int .i64 h.n, .string h.r] 28)).alloc (.cells #[.slice none 0 0, .int .i64 0, .string ⟨#[]⟩] 31)) = X) ∧ Below w.heap.size w X ∧ w.heap.size + 3 ≤ X.heap.size ∧ Hid (X.heap.size = w.heap.size + 1 + 1 + 1) ∧ Hid (X.heap[w.heap.size]? = some (.cells #[.slice ao0 l.length cap0, .int .i64 hd.n, .string hd.r] 31 (0, 0))) ∧ Hid (X.heap[w.heap.size + 1]? = some (.cells #[.int .i64 h.n, .string h.r] 28 (0, 0))) ∧ Hid (X.heap[w.heap.size + 1 + 1]? = some (.cells #[.slice none 0 0, .int .i64 0, .string ⟨#[]⟩] 31 (0, 0))) := ⟨_, rfl, ((((Below.refl _ _).alloc (Nat.le_refl _) _).alloc (by simp) _).alloc (by simp; omega) _), by simp, by show _ = _; simp, (by show _ = _; exact alloc_nth3_0 w _ _ _), (by show _ = _; exact alloc_nth3_1 w _ _ _), (by show _ = _; exact alloc_nth3_2 w _ _ _)⟩
 have B1 : Hid (Below w.heap.size w W1) := B0.out.trans (b1.mono B0.out.size)
 have hqA : ∀ W v1, Glob W → Sl W v1 (ss l) → _ := fun W v1 h0 h1 => logok_impl W v1 l hd h0 h1 (by omega) hz
 have hqO : ∀ W v1, Glob W → Sl W v1 (ss (l ++ x)) → _ := fun W v1 h0 h1 => logof_impl W v1 (l ++ x) h0 h1 (by rw [List.length_append]; omega) (size_app hz hzx)
 have hqH : ∀ W, _ := fun W => ok_impl W h hhr
 have hqS : ∀ W v1, Sh W v1 t → _ := fun W v1 h1 => signed_impl W v1 t h h1 (by omega)
 have hqT : ∀ W v1, Sl W v1 (ss l) → _ := fun W v1 h1 => Ed.texts_impl W v1 l h1 hl (fun s hs => by have := hz s hs; omega)
 have hqU : ∀ W v1, Sl W v1 (ss x) → _ := fun W v1 h1 => Ed.texts_impl W v1 x h1 hx (fun s hs => by have := hzx s hs; omega)
 have hall : ((l ++ x).length : Int) = ((l.length + x.length : Nat) : Int) := by rw [List.length_append]
 have HALL : Hid (((l ++ x).length : Int) = ((l.length + x.length : Nat) : Int)) := hall
 clear hall
 have hwr : IntKind.i64.wrap ((l.length : Int) + (x.length : Int)) = (l.length : Int) + (x.length : Int) := by rw [IntKind.wrap_i64]; omega
 obtain ⟨A, hA⟩ : ∃ A, logOk l hd = A := ⟨_, rfl⟩
 obtain ⟨C, hC⟩ : ∃ A, okH h = A := ⟨_, rfl⟩
 obtain ⟨D, hD⟩ : ∃ A, signed t h = A := ⟨_, rfl⟩
 obtain ⟨M, hM⟩ : ∃ A, headOf (l ++ x) = A := ⟨_, rfl⟩
 obtain ⟨E, hE⟩ : ∃ A, eqH h M = A := ⟨_, rfl⟩
 have hE2 : eqH M h = E := by
  rw [← hE]
  by_cases e9 : h = M
  ·
   rw [e9]
  ·
   have e8 : ¬ eqH h M = true := fun q => e9 ((eqH_iff _ _).1 q)
   have e7 : ¬ eqH M h = true := fun q => e9 ((eqH_iff _ _).1 q).symm
   rw [Bool.not_eq_true] at e8 e7
   rw [e8, e7]
 have e1 : ∀ W, _ := fun W => neqH W M h
 have e2 : ∀ W op y z xs ys, _ := fun W op y z xs ys => grdH W op y z xs ys
 simp only [hA] at hqA
 simp only [hC] at hqH
 simp only [hD] at hqS
 simp only [hM] at hqO
 simp only [hE2] at e1
 have HA : Hid (logOk l hd = A) := hA
 have HC : Hid (okH h = C) := hC
 have HD : Hid (signed t h = D) := hD
 have HE : Hid (eqH h (headOf (l ++ x)) = E) := by show _ = _; rw [hM]; exact hE
 have HM : Hid (headOf (l ++ x) = M) := hM
 clear hA hC hD hM hE hE2 hz hzx hhr
 obtain ⟨R, hR⟩ : ∃ R, extend l hd t h x = R := ⟨_, rfl⟩
 have HR : Hid (extend l hd t h x = R) := hR
 rw [hR]
 clear hR
 have hg3 := globLt HF.out.2.2.2.1
 go_enter Tryz.func28, Tryz.ntmps28
 go_wp2_with fail
 rw [HW1.out]
 refine (hqA W1 _ (HG.out.later B1.out) (HS.out.later B1.out)).mono ?_
 rintro e W2 ⟨rfl, b2⟩
 have z2 : W1.heap.size ≤ W2.heap.size := b2.size
 have B2 : Hid (Below w.heap.size w W2) := B1.out.trans (b2.mono B1.out.size)
 have r_a2 : Hid (W2.heap[w.heap.size]? = some (.cells #[.slice ao0 l.length cap0, .int .i64 hd.n, .string hd.r] 31 (0, 0))) := rowKeep r_a1.out b2
 have r_h2 : Hid (W2.heap[w.heap.size + 1]? = some (.cells #[.int .i64 h.n, .string h.r] 28 (0, 0))) := rowKeep r_h1.out b2
 have r_res2 : Hid (W2.heap[w.heap.size + 1 + 1]? = some (.cells #[.slice none 0 0, .int .i64 0, .string ⟨#[]⟩] 31 (0, 0))) := rowKeep r_res1.out b2
 have c_h2_0 : W2.cell? ⟨w.heap.size + 1, 0, none⟩ = some (.int .i64 h.n) := row_at r_h2.out 0
 have c_h2_1 : W2.cell? ⟨w.heap.size + 1, 1, none⟩ = some (.string h.r) := row_at r_h2.out 1
 clear r_a1 r_h1 r_res1
 cases A
 ·
  have hA := HA.out
  have HN : Hid (R = (l, hd, 1)) := by show _ = _; rw [← HR.out]; exact extend1 (fun hk => by rw [hA] at hk; exact absurd hk.1 (by simp)) t
  go_wp2_with fail
  have cg : W2.cell? ⟨0, 0, none⟩ = some (.iface 169 (.pointer (some a0))) := (HF.out.later B2.out).1.1
  refine wp_region_held_drew (S := fun w' => w'.cell? ⟨w.heap.size + 1, 0, none⟩ = some (.int .i64 h.n) ∧ w'.cell? ⟨w.heap.size + 1, 1, none⟩ = some (.string h.r) ∧ w'.cell? ⟨0, 0, none⟩ = some (.iface 169 (.pointer (some a0)))) (by kernel_rfl) ⟨c_h2_0, c_h2_1, cg⟩ (fun hHeld => ?_)
  (refine wpAnyH_take (i := 0) (v := ?v0x1) rfl (by kernel_rfl) (by kernel_rfl) (by kernel_rfl) (fun _ _ _ h => h) (Or.inl ⟨by rfl, ?hy0x1⟩) (by assumption) ?rest0x1; case hy0x1 => (intro w hSw; (try dsimp only at hSw); go_split_ands; go_simp; (try with_reducible rfl)))
  try simp only [Act.put, pu1, pu2, pu3, pu4, pu5, pu6]
  (refine wpAnyH_take (i := 1) (v := ?v1x2) rfl (by kernel_rfl) (by kernel_rfl) (by kernel_rfl) (fun _ _ _ h => h) (Or.inl ⟨by rfl, ?hy1x2⟩) (by assumption) ?rest1x2; case hy1x2 => (intro w hSw; (try dsimp only at hSw); go_split_ands; go_simp; (try with_reducible rfl)))
  try simp only [Act.put, pu1, pu2, pu3, pu4, pu5, pu6]
  (refine wpAnyH_take (i := 2) (v := ?v2x3) rfl (by kernel_rfl) (by kernel_rfl) (by kernel_rfl) (fun _ _ _ h => h) (Or.inl ⟨by rfl, ?hy2x3⟩) (by assumption) ?rest2x3; case hy2x3 => (intro w hSw; (try dsimp only at hSw); go_split_ands; go_simp; (try with_reducible rfl)))
  try simp only [Act.put, pu1, pu2, pu3, pu4, pu5, pu6]
  (refine wpAnyH_take (i := 3) (v := ?v3x4) rfl (by kernel_rfl) (by kernel_rfl) (by kernel_rfl) (fun _ _ _ h => h) (Or.inl ⟨by rfl, ?hy3x4⟩) (by assumption) ?rest3x4; case hy3x4 => (intro w hSw; (try dsimp only at hSw); go_split_ands; go_simp; (try with_reducible rfl)))
  try simp only [Act.put, pu1, pu2, pu3, pu4, pu5, pu6]
  (refine wpAnyH_take (i := 4) (v := ?v4x5) rfl (by kernel_rfl) (by kernel_rfl) (by kernel_rfl) (fun _ _ _ h => h) (Or.inl ⟨by rfl, ?hy4x5⟩) (by assumption) ?rest4x5; case hy4x5 => (intro w hSw; (try dsimp only at hSw); go_split_ands; go_simp; (try with_reducible rfl)))
  try simp only [Act.put, pu1, pu2, pu3, pu4, pu5, pu6]
  refine wpAnyH_ready (rs := [5]) (by kernel_rfl) (by simp) ?_
  refine AllReadyH.cons rfl (fun K hK => ?_) AllReadyH.nil
  rw [if_pos (by rfl)]
  refine wp_store_row 31 _ _ rfl (w.heap.size + 1 + 1) (lc (.slice none 0 0) hd0) rfl rfl 31 _ r_res2.out (sizeL _ _) rfl (oneL _ rfl) ?_
  refine hK.out _ _ ⟨(cell_row (by show w.heap.size + 1 ≠ w.heap.size + 1 + 1; omega) hHeld.1), (cell_row (by show w.heap.size + 1 ≠ w.heap.size + 1 + 1; omega) hHeld.2.1), (cell_row (by show 0 ≠ w.heap.size + 1 + 1; omega) hHeld.2.2)⟩ (fun hHeld => ?_)
  clear hK K
  try simp only [Act.put, pu1, pu2, pu3, pu4, pu5, pu6]
  (refine wpAnyH_take (i := 6) (v := ?v6x6) rfl (by kernel_rfl) (by kernel_rfl) (by kernel_rfl) (fun _ _ _ h => h) (Or.inl ⟨by rfl, ?hy6x6⟩) (by assumption) ?rest6x6; case hy6x6 => (intro w hSw; (try dsimp only at hSw); go_split_ands; go_simp; (try with_reducible rfl)))
  try simp only [Act.put, pu1, pu2, pu3, pu4, pu5, pu6]
  refine wpAnyH_done (by kernel_rfl) ?_ _
  clear hHeld
  go_wp2
  refine bodyPost_ret (res_row_tmp rfl _ _ (w.heap.size + 1 + 1) 31 (lc (.slice none 0 0) hd0) (0, 0) _ rfl (setRow_heap _ _ _ _ _ (0, 0) r_res2.out) Tryz.underlying31 rfl (sizeL _ _)) rfl ⟨Or.inl ⟨1, a0, ?_, HN.out, rfl⟩, below_setRow (Below.drew B2.out) (by omega) _⟩
  unfold why
  simp
 ·
  go_wp2_with fail
  refine (hqH W2).mono ?_
  rintro e W3 ⟨rfl, b3⟩
  have z3 : W2.heap.size ≤ W3.heap.size := b3.size
  have B3 : Hid (Below w.heap.size w W3) := B2.out.trans (b3.mono B2.out.size)
  have r_a3 : Hid (W3.heap[w.heap.size]? = some (.cells #[.slice ao0 l.length cap0, .int .i64 hd.n, .string hd.r] 31 (0, 0))) := rowKeep r_a2.out b3
  have r_h3 : Hid (W3.heap[w.heap.size + 1]? = some (.cells #[.int .i64 h.n, .string h.r] 28 (0, 0))) := rowKeep r_h2.out b3
  have r_res3 : Hid (W3.heap[w.heap.size + 1 + 1]? = some (.cells #[.slice none 0 0, .int .i64 0, .string ⟨#[]⟩] 31 (0, 0))) := rowKeep r_res2.out b3
  have c_a3_0 : W3.cell? ⟨w.heap.size, 0, none⟩ = some (.slice ao0 l.length cap0) := row_at r_a3.out 0
  have c_h3_0 : W3.cell? ⟨w.heap.size + 1, 0, none⟩ = some (.int .i64 h.n) := row_at r_h3.out 0
  have c_h3_1 : W3.cell? ⟨w.heap.size + 1, 1, none⟩ = some (.string h.r) := row_at r_h3.out 1
  clear r_a2 r_h2 c_h2_0 c_h2_1 r_res2
  cases C
  ·
   have hC := HC.out
   have HN : Hid (R = (l, hd, 1)) := by show _ = _; rw [← HR.out]; exact extend1 (fun hk => by rw [hC] at hk; exact absurd hk.2.1 (by simp)) t
   go_wp2_with fail
   have cg : W3.cell? ⟨0, 0, none⟩ = some (.iface 169 (.pointer (some a0))) := (HF.out.later B3.out).1.1
   refine wp_region_held_drew (S := fun w' => w'.cell? ⟨w.heap.size + 1, 0, none⟩ = some (.int .i64 h.n) ∧ w'.cell? ⟨w.heap.size + 1, 1, none⟩ = some (.string h.r) ∧ w'.cell? ⟨0, 0, none⟩ = some (.iface 169 (.pointer (some a0)))) (by kernel_rfl) ⟨c_h3_0, c_h3_1, cg⟩ (fun hHeld => ?_)
   (refine wpAnyH_take (i := 0) (v := ?v0x7) rfl (by kernel_rfl) (by kernel_rfl) (by kernel_rfl) (fun _ _ _ h => h) (Or.inl ⟨by rfl, ?hy0x7⟩) (by assumption) ?rest0x7; case hy0x7 => (intro w hSw; (try dsimp only at hSw); go_split_ands; go_simp; (try with_reducible rfl)))
   try simp only [Act.put, pu1, pu2, pu3, pu4, pu5, pu6]
   (refine wpAnyH_take (i := 1) (v := ?v1x8) rfl (by kernel_rfl) (by kernel_rfl) (by kernel_rfl) (fun _ _ _ h => h) (Or.inl ⟨by rfl, ?hy1x8⟩) (by assumption) ?rest1x8; case hy1x8 => (intro w hSw; (try dsimp only at hSw); go_split_ands; go_simp; (try with_reducible rfl)))
   try simp only [Act.put, pu1, pu2, pu3, pu4, pu5, pu6]
   (refine wpAnyH_take (i := 2) (v := ?v2x9) rfl (by kernel_rfl) (by kernel_rfl) (by kernel_rfl) (fun _ _ _ h => h) (Or.inl ⟨by rfl, ?hy2x9⟩) (by assumption) ?rest2x9; case hy2x9 => (intro w hSw; (try dsimp only at hSw); go_split_ands; go_simp; (try with_reducible rfl)))
   try simp only [Act.put, pu1, pu2, pu3, pu4, pu5, pu6]
   (refine wpAnyH_take (i := 3) (v := ?v3x10) rfl (by kernel_rfl) (by kernel_rfl) (by kernel_rfl) (fun _ _ _ h => h) (Or.inl ⟨by rfl, ?hy3x10⟩) (by assumption) ?rest3x10; case hy3x10 => (intro w hSw; (try dsimp only at hSw); go_split_ands; go_simp; (try with_reducible rfl)))
   try simp only [Act.put, pu1, pu2, pu3, pu4, pu5, pu6]
   (refine wpAnyH_take (i := 4) (v := ?v4x11) rfl (by kernel_rfl) (by kernel_rfl) (by kernel_rfl) (fun _ _ _ h => h) (Or.inl ⟨by rfl, ?hy4x11⟩) (by assumption) ?rest4x11; case hy4x11 => (intro w hSw; (try dsimp only at hSw); go_split_ands; go_simp; (try with_reducible rfl)))
   try simp only [Act.put, pu1, pu2, pu3, pu4, pu5, pu6]
   refine wpAnyH_ready (rs := [5]) (by kernel_rfl) (by simp) ?_
   refine AllReadyH.cons rfl (fun K hK => ?_) AllReadyH.nil
   rw [if_pos (by rfl)]
   refine wp_store_row 31 _ _ rfl (w.heap.size + 1 + 1) (lc (.slice none 0 0) hd0) rfl rfl 31 _ r_res3.out (sizeL _ _) rfl (oneL _ rfl) ?_
   refine hK.out _ _ ⟨(cell_row (by show w.heap.size + 1 ≠ w.heap.size + 1 + 1; omega) hHeld.1), (cell_row (by show w.heap.size + 1 ≠ w.heap.size + 1 + 1; omega) hHeld.2.1), (cell_row (by show 0 ≠ w.heap.size + 1 + 1; omega) hHeld.2.2)⟩ (fun hHeld => ?_)
   clear hK K
   try simp only [Act.put, pu1, pu2, pu3, pu4, pu5, pu6]
   (refine wpAnyH_take (i := 6) (v := ?v6x12) rfl (by kernel_rfl) (by kernel_rfl) (by kernel_rfl) (fun _ _ _ h => h) (Or.inl ⟨by rfl, ?hy6x12⟩) (by assumption) ?rest6x12; case hy6x12 => (intro w hSw; (try dsimp only at hSw); go_split_ands; go_simp; (try with_reducible rfl)))
   try simp only [Act.put, pu1, pu2, pu3, pu4, pu5, pu6]
   refine wpAnyH_done (by kernel_rfl) ?_ _
   clear hHeld
   go_wp2
   refine bodyPost_ret (res_row_tmp rfl _ _ (w.heap.size + 1 + 1) 31 (lc (.slice none 0 0) hd0) (0, 0) _ rfl (setRow_heap _ _ _ _ _ (0, 0) r_res3.out) Tryz.underlying31 rfl (sizeL _ _)) rfl ⟨Or.inl ⟨1, a0, ?_, HN.out, rfl⟩, below_setRow (Below.drew B3.out) (by omega) _⟩
   unfold why
   simp
  ·
   by_cases hn : h.n = (l.length : Int) + (x.length : Int)
   ·
    have HK : Hid (logOk l hd = true ∧ okH h = true ∧ h.n = ((l ++ x).length : Int)) := ⟨HA.out, HC.out, by rw [HALL.out, hn]; omega⟩
    have nn : (h.n != (l.length : Int) + (x.length : Int)) = false := by simp [hn]
    have ne : (h.n == (l.length : Int) + (x.length : Int)) = true := by simp [hn]
    clear hn
    go_wp2_with fail
    refine (hqS W3 _ (HT.out.later B3.out)).mono ?_
    rintro e W4 ⟨rfl, b4⟩
    have z4 : W3.heap.size ≤ W4.heap.size := b4.size
    have B4 : Hid (Below w.heap.size w W4) := B3.out.trans (b4.mono B3.out.size)
    have r_a4 : Hid (W4.heap[w.heap.size]? = some (.cells #[.slice ao0 l.length cap0, .int .i64 hd.n, .string hd.r] 31 (0, 0))) := rowKeep r_a3.out b4
    have r_h4 : Hid (W4.heap[w.heap.size + 1]? = some (.cells #[.int .i64 h.n, .string h.r] 28 (0, 0))) := rowKeep r_h3.out b4
    have r_res4 : Hid (W4.heap[w.heap.size + 1 + 1]? = some (.cells #[.slice none 0 0, .int .i64 0, .string ⟨#[]⟩] 31 (0, 0))) := rowKeep r_res3.out b4
    have c_a4_0 : W4.cell? ⟨w.heap.size, 0, none⟩ = some (.slice ao0 l.length cap0) := row_at r_a4.out 0
    have c_h4_0 : W4.cell? ⟨w.heap.size + 1, 0, none⟩ = some (.int .i64 h.n) := row_at r_h4.out 0
    have c_h4_1 : W4.cell? ⟨w.heap.size + 1, 1, none⟩ = some (.string h.r) := row_at r_h4.out 1
    clear r_a3 c_a3_0 r_h3 c_h3_0 c_h3_1 r_res3
    cases D
    ·
     have HN : Hid (R = (l, hd, 2)) := by show _ = _; rw [← HR.out]; exact extend2 HK.out HD.out
     go_wp2_with fail
     have cg : W4.cell? ⟨1, 0, none⟩ = some (.iface 169 (.pointer (some a1))) := (HF.out.later B4.out).2.1.1
     refine wp_region_held_drew (S := fun w' => w'.cell? ⟨w.heap.size + 1, 0, none⟩ = some (.int .i64 h.n) ∧ w'.cell? ⟨w.heap.size + 1, 1, none⟩ = some (.string h.r) ∧ w'.cell? ⟨1, 0, none⟩ = some (.iface 169 (.pointer (some a1)))) (by kernel_rfl) ⟨c_h4_0, c_h4_1, cg⟩ (fun hHeld => ?_)
     (refine wpAnyH_take (i := 0) (v := ?v0x13) rfl (by kernel_rfl) (by kernel_rfl) (by kernel_rfl) (fun _ _ _ h => h) (Or.inl ⟨by rfl, ?hy0x13⟩) (by assumption) ?rest0x13; case hy0x13 => (intro w hSw; (try dsimp only at hSw); go_split_ands; go_simp; (try with_reducible rfl)))
     try simp only [Act.put, pu1, pu2, pu3, pu4, pu5, pu6]
     (refine wpAnyH_take (i := 1) (v := ?v1x14) rfl (by kernel_rfl) (by kernel_rfl) (by kernel_rfl) (fun _ _ _ h => h) (Or.inl ⟨by rfl, ?hy1x14⟩) (by assumption) ?rest1x14; case hy1x14 => (intro w hSw; (try dsimp only at hSw); go_split_ands; go_simp; (try with_reducible rfl)))
     try simp only [Act.put, pu1, pu2, pu3, pu4, pu5, pu6]
     (refine wpAnyH_take (i := 2) (v := ?v2x15) rfl (by kernel_rfl) (by kernel_rfl) (by kernel_rfl) (fun _ _ _ h => h) (Or.inl ⟨by rfl, ?hy2x15⟩) (by assumption) ?rest2x15; case hy2x15 => (intro w hSw; (try dsimp only at hSw); go_split_ands; go_simp; (try with_reducible rfl)))
     try simp only [Act.put, pu1, pu2, pu3, pu4, pu5, pu6]
     (refine wpAnyH_take (i := 3) (v := ?v3x16) rfl (by kernel_rfl) (by kernel_rfl) (by kernel_rfl) (fun _ _ _ h => h) (Or.inl ⟨by rfl, ?hy3x16⟩) (by assumption) ?rest3x16; case hy3x16 => (intro w hSw; (try dsimp only at hSw); go_split_ands; go_simp; (try with_reducible rfl)))
     try simp only [Act.put, pu1, pu2, pu3, pu4, pu5, pu6]
     (refine wpAnyH_take (i := 4) (v := ?v4x17) rfl (by kernel_rfl) (by kernel_rfl) (by kernel_rfl) (fun _ _ _ h => h) (Or.inl ⟨by rfl, ?hy4x17⟩) (by assumption) ?rest4x17; case hy4x17 => (intro w hSw; (try dsimp only at hSw); go_split_ands; go_simp; (try with_reducible rfl)))
     try simp only [Act.put, pu1, pu2, pu3, pu4, pu5, pu6]
     refine wpAnyH_ready (rs := [5]) (by kernel_rfl) (by simp) ?_
     refine AllReadyH.cons rfl (fun K hK => ?_) AllReadyH.nil
     rw [if_pos (by rfl)]
     refine wp_store_row 31 _ _ rfl (w.heap.size + 1 + 1) (lc (.slice none 0 0) hd0) rfl rfl 31 _ r_res4.out (sizeL _ _) rfl (oneL _ rfl) ?_
     refine hK.out _ _ ⟨(cell_row (by show w.heap.size + 1 ≠ w.heap.size + 1 + 1; omega) hHeld.1), (cell_row (by show w.heap.size + 1 ≠ w.heap.size + 1 + 1; omega) hHeld.2.1), (cell_row (by show 1 ≠ w.heap.size + 1 + 1; omega) hHeld.2.2)⟩ (fun hHeld => ?_)
     clear hK K
     try simp only [Act.put, pu1, pu2, pu3, pu4, pu5, pu6]
     (refine wpAnyH_take (i := 6) (v := ?v6x18) rfl (by kernel_rfl) (by kernel_rfl) (by kernel_rfl) (fun _ _ _ h => h) (Or.inl ⟨by rfl, ?hy6x18⟩) (by assumption) ?rest6x18; case hy6x18 => (intro w hSw; (try dsimp only at hSw); go_split_ands; go_simp; (try with_reducible rfl)))
     try simp only [Act.put, pu1, pu2, pu3, pu4, pu5, pu6]
     refine wpAnyH_done (by kernel_rfl) ?_ _
     clear hHeld
     go_wp2
     refine bodyPost_ret (res_row_tmp rfl _ _ (w.heap.size + 1 + 1) 31 (lc (.slice none 0 0) hd0) (0, 0) _ rfl (setRow_heap _ _ _ _ _ (0, 0) r_res4.out) Tryz.underlying31 rfl (sizeL _ _)) rfl ⟨Or.inl ⟨2, a1, ?_, HN.out, rfl⟩, below_setRow (Below.drew B4.out) (by omega) _⟩
     unfold why
     simp
    ·
     by_cases hx0 : x.length = 0
     ·
      have gx : (x.length : Int) = 0 := by omega
      have HX0 : Hid (x.length = 0) := hx0
      clear hx0
      have HN : Hid (R = (l, hd, 3)) := by show _ = _; rw [← HR.out]; exact extend3 HK.out HD.out HX0.out
      go_wp2_with fail
      have cg : W4.cell? ⟨2, 0, none⟩ = some (.iface 169 (.pointer (some a2))) := (HF.out.later B4.out).2.2.1.1
      refine wp_region_held_drew (S := fun w' => w'.cell? ⟨w.heap.size + 1, 0, none⟩ = some (.int .i64 h.n) ∧ w'.cell? ⟨w.heap.size + 1, 1, none⟩ = some (.string h.r) ∧ w'.cell? ⟨2, 0, none⟩ = some (.iface 169 (.pointer (some a2)))) (by kernel_rfl) ⟨c_h4_0, c_h4_1, cg⟩ (fun hHeld => ?_)
      (refine wpAnyH_take (i := 0) (v := ?v0x19) rfl (by kernel_rfl) (by kernel_rfl) (by kernel_rfl) (fun _ _ _ h => h) (Or.inl ⟨by rfl, ?hy0x19⟩) (by assumption) ?rest0x19; case hy0x19 => (intro w hSw; (try dsimp only at hSw); go_split_ands; go_simp; (try with_reducible rfl)))
      try simp only [Act.put, pu1, pu2, pu3, pu4, pu5, pu6]
      (refine wpAnyH_take (i := 1) (v := ?v1x20) rfl (by kernel_rfl) (by kernel_rfl) (by kernel_rfl) (fun _ _ _ h => h) (Or.inl ⟨by rfl, ?hy1x20⟩) (by assumption) ?rest1x20; case hy1x20 => (intro w hSw; (try dsimp only at hSw); go_split_ands; go_simp; (try with_reducible rfl)))
      try simp only [Act.put, pu1, pu2, pu3, pu4, pu5, pu6]
      (refine wpAnyH_take (i := 2) (v := ?v2x21) rfl (by kernel_rfl) (by kernel_rfl) (by kernel_rfl) (fun _ _ _ h => h) (Or.inl ⟨by rfl, ?hy2x21⟩) (by assumption) ?rest2x21; case hy2x21 => (intro w hSw; (try dsimp only at hSw); go_split_ands; go_simp; (try with_reducible rfl)))
      try simp only [Act.put, pu1, pu2, pu3, pu4, pu5, pu6]
      (refine wpAnyH_take (i := 3) (v := ?v3x22) rfl (by kernel_rfl) (by kernel_rfl) (by kernel_rfl) (fun _ _ _ h => h) (Or.inl ⟨by rfl, ?hy3x22⟩) (by assumption) ?rest3x22; case hy3x22 => (intro w hSw; (try dsimp only at hSw); go_split_ands; go_simp; (try with_reducible rfl)))
      try simp only [Act.put, pu1, pu2, pu3, pu4, pu5, pu6]
      (refine wpAnyH_take (i := 4) (v := ?v4x23) rfl (by kernel_rfl) (by kernel_rfl) (by kernel_rfl) (fun _ _ _ h => h) (Or.inl ⟨by rfl, ?hy4x23⟩) (by assumption) ?rest4x23; case hy4x23 => (intro w hSw; (try dsimp only at hSw); go_split_ands; go_simp; (try with_reducible rfl)))
      try simp only [Act.put, pu1, pu2, pu3, pu4, pu5, pu6]
      refine wpAnyH_ready (rs := [5]) (by kernel_rfl) (by simp) ?_
      refine AllReadyH.cons rfl (fun K hK => ?_) AllReadyH.nil
      rw [if_pos (by rfl)]
      refine wp_store_row 31 _ _ rfl (w.heap.size + 1 + 1) (lc (.slice none 0 0) hd0) rfl rfl 31 _ r_res4.out (sizeL _ _) rfl (oneL _ rfl) ?_
      refine hK.out _ _ ⟨(cell_row (by show w.heap.size + 1 ≠ w.heap.size + 1 + 1; omega) hHeld.1), (cell_row (by show w.heap.size + 1 ≠ w.heap.size + 1 + 1; omega) hHeld.2.1), (cell_row (by show 2 ≠ w.heap.size + 1 + 1; omega) hHeld.2.2)⟩ (fun hHeld => ?_)
      clear hK K
      try simp only [Act.put, pu1, pu2, pu3, pu4, pu5, pu6]
      (refine wpAnyH_take (i := 6) (v := ?v6x24) rfl (by kernel_rfl) (by kernel_rfl) (by kernel_rfl) (fun _ _ _ h => h) (Or.inl ⟨by rfl, ?hy6x24⟩) (by assumption) ?rest6x24; case hy6x24 => (intro w hSw; (try dsimp only at hSw); go_split_ands; go_simp; (try with_reducible rfl)))
      try simp only [Act.put, pu1, pu2, pu3, pu4, pu5, pu6]
      refine wpAnyH_done (by kernel_rfl) ?_ _
      clear hHeld
      go_wp2
      refine bodyPost_ret (res_row_tmp rfl _ _ (w.heap.size + 1 + 1) 31 (lc (.slice none 0 0) hd0) (0, 0) _ rfl (setRow_heap _ _ _ _ _ (0, 0) r_res4.out) Tryz.underlying31 rfl (sizeL _ _)) rfl ⟨Or.inl ⟨3, a2, ?_, HN.out, rfl⟩, below_setRow (Below.drew B4.out) (by omega) _⟩
      unfold why
      simp
     ·
      have gx : ¬ (x.length : Int) = 0 := by omega
      go_wp2_with fail
      refine (hqT W4 _ (HS.out.later B4.out)).mono ?_
      rintro e W5 ⟨v_p, rfl, o_p5, b5⟩
      obtain ⟨ao_p, L_p, cap_p, rfl, hL_p, hM_p⟩ := o_p5.form
      have o_p5 : Hid (Own W5 W4.heap.size W5.heap.size 9 (.slice ao_p L_p cap_p) (ss l)) := o_p5
      clear hL_p hM_p
      have z5 : W4.heap.size ≤ W5.heap.size := b5.size
      have B5 : Hid (Below w.heap.size w W5) := B4.out.trans (b5.mono B4.out.size)
      have r_h5 : Hid (W5.heap[w.heap.size + 1]? = some (.cells #[.int .i64 h.n, .string h.r] 28 (0, 0))) := rowKeep r_h4.out b5
      have r_res5 : Hid (W5.heap[w.heap.size + 1 + 1]? = some (.cells #[.slice none 0 0, .int .i64 0, .string ⟨#[]⟩] 31 (0, 0))) := rowKeep r_res4.out b5
      clear r_a4 c_a4_0 r_h4 c_h4_0 c_h4_1 r_res4
      go_wp2_with fail
      refine (hqU W5 _ (HSX.out.later B5.out)).mono ?_
      rintro e W6 ⟨v_q, rfl, o_q6, b6⟩
      obtain ⟨ao_q, L_q, cap_q, rfl, hL_q, hM_q⟩ := o_q6.form
      have o_q6 : Hid (Own W6 W5.heap.size W6.heap.size 9 (.slice ao_q L_q cap_q) (ss x)) := o_q6
      clear hL_q hM_q
      have z6 : W5.heap.size ≤ W6.heap.size := b6.size
      have B6 : Hid (Below w.heap.size w W6) := B5.out.trans (b6.mono B5.out.size)
      have r_h6 : Hid (W6.heap[w.heap.size + 1]? = some (.cells #[.int .i64 h.n, .string h.r] 28 (0, 0))) := rowKeep r_h5.out b6
      have r_res6 : Hid (W6.heap[w.heap.size + 1 + 1]? = some (.cells #[.slice none 0 0, .int .i64 0, .string ⟨#[]⟩] 31 (0, 0))) := rowKeep r_res5.out b6
      have o_p6 : Hid (Own W6 (W4.heap.size) (W5.heap.size) 9 (.slice ao_p L_p cap_p) (ss l)) := Own.later o_p5.out b6 (by omega)
      clear r_h5 r_res5 o_p5
      have c6_7 : (ss l).length + (ss x).length ≤ maxLen := by rw [ss_len, ss_len]; unfold maxLen; (try simp only [List.length_nil]); omega
      have c7_7 : ((ss l).length + (ss x).length) * 16 ≤ 140737488355328 := by rw [ss_len, ss_len]; (try simp only [List.length_nil]); omega
      have sE7 : Hid (Sl W6 _ (ss x)) := o_q6.out.sl
      go_wp2_with (at_builtin; go_must (refine wpl_app _ rfl (.tmp 54) (.tmp 56) 24 rfl 9 i9 (.string ⟨#[]⟩) 16 Tryz.underlying24 hi9 hz9a hz9b hz9c rfl (W4.heap.size) _ (ss l) rfl (Own.mono o_p6.out (Nat.le_refl _) (by omega)) _ rfl (ss x) sE7.out (ss_one x) c6_7 c7_7 (by omega) ?_))
      intro v_all W7 o_all7 _ g7
      have o_all7 : Own W7 (W4.heap.size) W7.heap.size 9 v_all (ss (l ++ x)) := by show Own _ _ _ _ _ _; rw [ss_app]; exact o_all7
      have o_all7h : Hid (Own W7 (W4.heap.size) W7.heap.size 9 v_all (ss (l ++ x))) := o_all7
      clear o_all7
      have o_all7 := o_all7h
      clear o_all7h
      obtain ⟨ao_all, L_all, cap_all, rfl, _, _⟩ := Mem.Own.form o_all7.out
      have B7 : Hid (Below w.heap.size w W7) := belowGro B6.out g7 B6.out.size (Own.low o_p6.out (by have := B6.out.size; omega))
      have r_h7 : Hid (W7.heap[w.heap.size + 1]? = some (.cells #[.int .i64 h.n, .string h.r] 28 (0, 0))) := rowGro r_h6.out g7 (Own.neRow o_p6.out r_h6.out (by decide))
      have r_res7 : Hid (W7.heap[w.heap.size + 1 + 1]? = some (.cells #[.slice none 0 0, .int .i64 0, .string ⟨#[]⟩] 31 (0, 0))) := rowGro r_res6.out g7 (Own.neRow o_p6.out r_res6.out (by decide))
      clear r_h6 r_res6 o_p6 o_q6
      clear g7 sE7 c6_7 c7_7
      go_wp2_with fail
      refine (hqO W7 _ (HG.out.later B7.out) o_all7.out.sl).mono ?_
      rintro e W8 ⟨rfl, b8⟩
      have z8 : W7.heap.size ≤ W8.heap.size := b8.size
      have B8 : Hid (Below w.heap.size w W8) := B7.out.trans (b8.mono B7.out.size)
      have r_h8 : Hid (W8.heap[w.heap.size + 1]? = some (.cells #[.int .i64 h.n, .string h.r] 28 (0, 0))) := rowKeep r_h7.out b8
      have r_res8 : Hid (W8.heap[w.heap.size + 1 + 1]? = some (.cells #[.slice none 0 0, .int .i64 0, .string ⟨#[]⟩] 31 (0, 0))) := rowKeep r_res7.out b8
      have o_all8 : Hid (Own W8 (W4.heap.size) (W7.heap.size) 9 (.slice ao_all L_all cap_all) (ss (l ++ x))) := Own.later o_all7.out b8 (by omega)
      have c_h8_0 : W8.cell? ⟨w.heap.size + 1, 0, none⟩ = some (.int .i64 h.n) := row_at r_h8.out 0
      have c_h8_1 : W8.cell? ⟨w.heap.size + 1, 1, none⟩ = some (.string h.r) := row_at r_h8.out 1
      clear r_h7 r_res7 o_all7
      have a_h8_0 : ∀ o, (W8.alloc o).cell? ⟨w.heap.size + 1, 0, none⟩ = some (.int .i64 h.n) := fun o => keepR c_h8_0 ((Below.refl _ _).alloc (Nat.le_refl _) o)
      have a_h8_1 : ∀ o, (W8.alloc o).cell? ⟨w.heap.size + 1, 1, none⟩ = some (.string h.r) := fun o => keepR c_h8_1 ((Below.refl _ _).alloc (Nat.le_refl _) o)
      obtain ⟨W9, HW9, b9, y9, hS9, r_new9⟩ : ∃ X, Hid ((W8.alloc (.cells #[.slice ao_all L_all cap_all, .int .i64 M.n, .string M.r] 31)) = X) ∧ Below W8.heap.size W8 X ∧ W8.heap.size + 1 ≤ X.heap.size ∧ Hid (X.heap.size = W8.heap.size + 1) ∧ Hid (X.heap[W8.heap.size]? = some (.cells #[.slice ao_all L_all cap_all, .int .i64 M.n, .string M.r] 31 (0, 0))) := ⟨_, rfl, ((Below.refl _ _).alloc (Nat.le_refl _) _), by simp, by show _ = _; simp, (by show _ = _; exact alloc_nth1_0 W8 _)⟩
      have B9 : Hid (Below w.heap.size w W9) := B8.out.trans (b9.mono B8.out.size)
      have r_h9 : Hid (W9.heap[w.heap.size + 1]? = some (.cells #[.int .i64 h.n, .string h.r] 28 (0, 0))) := rowKeep r_h8.out b9
      have r_res9 : Hid (W9.heap[w.heap.size + 1 + 1]? = some (.cells #[.slice none 0 0, .int .i64 0, .string ⟨#[]⟩] 31 (0, 0))) := rowKeep r_res8.out b9
      have o_all9 : Hid (Own W9 (W4.heap.size) (W7.heap.size) 9 (.slice ao_all L_all cap_all) (ss (l ++ x))) := Own.later o_all8.out b9 (by omega)
      have c_h9_0 : W9.cell? ⟨w.heap.size + 1, 0, none⟩ = some (.int .i64 h.n) := row_at r_h9.out 0
      have c_h9_1 : W9.cell? ⟨w.heap.size + 1, 1, none⟩ = some (.string h.r) := row_at r_h9.out 1
      clear r_h8 c_h8_0 c_h8_1 r_res8 o_all8
      cases E
      ·
       have HN : Hid (R = (l, hd, 4)) := by show _ = _; rw [← HR.out]; exact extend4 HK.out HD.out hx0 HE.out
       go_wp2_with fail
       rw [HW9.out]
       clear a_h8_0 a_h8_1
       have cg : W9.cell? ⟨3, 0, none⟩ = some (.iface 169 (.pointer (some a3))) := (HF.out.later B9.out).2.2.2.1.1
       refine wp_region_held_drew (S := fun w' => w'.cell? ⟨w.heap.size + 1, 0, none⟩ = some (.int .i64 h.n) ∧ w'.cell? ⟨w.heap.size + 1, 1, none⟩ = some (.string h.r) ∧ w'.cell? ⟨3, 0, none⟩ = some (.iface 169 (.pointer (some a3)))) (by kernel_rfl) ⟨c_h9_0, c_h9_1, cg⟩ (fun hHeld => ?_)
       (refine wpAnyH_take (i := 0) (v := ?v0x25) rfl (by kernel_rfl) (by kernel_rfl) (by kernel_rfl) (fun _ _ _ h => h) (Or.inl ⟨by rfl, ?hy0x25⟩) (by assumption) ?rest0x25; case hy0x25 => (intro w hSw; (try dsimp only at hSw); go_split_ands; go_simp; (try with_reducible rfl)))
       try simp only [Act.put, pu1, pu2, pu3, pu4, pu5, pu6]
       (refine wpAnyH_take (i := 1) (v := ?v1x26) rfl (by kernel_rfl) (by kernel_rfl) (by kernel_rfl) (fun _ _ _ h => h) (Or.inl ⟨by rfl, ?hy1x26⟩) (by assumption) ?rest1x26; case hy1x26 => (intro w hSw; (try dsimp only at hSw); go_split_ands; go_simp; (try with_reducible rfl)))
       try simp only [Act.put, pu1, pu2, pu3, pu4, pu5, pu6]
       (refine wpAnyH_take (i := 2) (v := ?v2x27) rfl (by kernel_rfl) (by kernel_rfl) (by kernel_rfl) (fun _ _ _ h => h) (Or.inl ⟨by rfl, ?hy2x27⟩) (by assumption) ?rest2x27; case hy2x27 => (intro w hSw; (try dsimp only at hSw); go_split_ands; go_simp; (try with_reducible rfl)))
       try simp only [Act.put, pu1, pu2, pu3, pu4, pu5, pu6]
       (refine wpAnyH_take (i := 3) (v := ?v3x28) rfl (by kernel_rfl) (by kernel_rfl) (by kernel_rfl) (fun _ _ _ h => h) (Or.inl ⟨by rfl, ?hy3x28⟩) (by assumption) ?rest3x28; case hy3x28 => (intro w hSw; (try dsimp only at hSw); go_split_ands; go_simp; (try with_reducible rfl)))
       try simp only [Act.put, pu1, pu2, pu3, pu4, pu5, pu6]
       (refine wpAnyH_take (i := 4) (v := ?v4x29) rfl (by kernel_rfl) (by kernel_rfl) (by kernel_rfl) (fun _ _ _ h => h) (Or.inl ⟨by rfl, ?hy4x29⟩) (by assumption) ?rest4x29; case hy4x29 => (intro w hSw; (try dsimp only at hSw); go_split_ands; go_simp; (try with_reducible rfl)))
       try simp only [Act.put, pu1, pu2, pu3, pu4, pu5, pu6]
       refine wpAnyH_ready (rs := [5]) (by kernel_rfl) (by simp) ?_
       refine AllReadyH.cons rfl (fun K hK => ?_) AllReadyH.nil
       rw [if_pos (by rfl)]
       refine wp_store_row 31 _ _ rfl (w.heap.size + 1 + 1) (lc (.slice none 0 0) hd0) rfl rfl 31 _ r_res9.out (sizeL _ _) rfl (oneL _ rfl) ?_
       refine hK.out _ _ ⟨(cell_row (by show w.heap.size + 1 ≠ w.heap.size + 1 + 1; omega) hHeld.1), (cell_row (by show w.heap.size + 1 ≠ w.heap.size + 1 + 1; omega) hHeld.2.1), (cell_row (by show 3 ≠ w.heap.size + 1 + 1; omega) hHeld.2.2)⟩ (fun hHeld => ?_)
       clear hK K
       try simp only [Act.put, pu1, pu2, pu3, pu4, pu5, pu6]
       (refine wpAnyH_take (i := 6) (v := ?v6x30) rfl (by kernel_rfl) (by kernel_rfl) (by kernel_rfl) (fun _ _ _ h => h) (Or.inl ⟨by rfl, ?hy6x30⟩) (by assumption) ?rest6x30; case hy6x30 => (intro w hSw; (try dsimp only at hSw); go_split_ands; go_simp; (try with_reducible rfl)))
       try simp only [Act.put, pu1, pu2, pu3, pu4, pu5, pu6]
       refine wpAnyH_done (by kernel_rfl) ?_ _
       clear hHeld
       go_wp2
       refine bodyPost_ret (res_row_tmp rfl _ _ (w.heap.size + 1 + 1) 31 (lc (.slice none 0 0) hd0) (0, 0) _ rfl (setRow_heap _ _ _ _ _ (0, 0) r_res9.out) Tryz.underlying31 rfl (sizeL _ _)) rfl ⟨Or.inl ⟨4, a3, ?_, HN.out, rfl⟩, below_setRow (Below.drew B9.out) (by omega) _⟩
       unfold why
       simp
      ·
       have HN : Hid (R = (l ++ x, h, 0)) := by show _ = _; rw [← HR.out]; exact extend0 HK.out HD.out hx0 HE.out
       have hMh : M = h := by
        have h9 := (eqH_iff _ _).1 HE.out
        rw [HM.out] at h9
        exact h9.symm
       subst hMh
       go_wp2_with (first | ((try rw [HW9.out]); refine wpList_load_row rfl 31 _ rfl (W8.heap.size) rfl 31 (lc (.slice ao_all L_all cap_all) M) (0, 0) _ r_new9.out Tryz.underlying31 rfl (sizeL _ _) ?_) | (refine wpList_store_row rfl 31 _ _ rfl (w.heap.size + 1 + 1) (lc (.slice ao_all L_all cap_all) M) rfl rfl 31 _ r_res9.out (sizeL _ _) rfl (oneL _ rfl) ?_))
       refine bodyPost_ret (res_row_tmp rfl _ _ (w.heap.size + 1 + 1) 31 (lc (.slice ao_all L_all cap_all) M) (0, 0) _ rfl (setRow_heap _ _ _ _ _ (0, 0) r_res9.out) Tryz.underlying31 rfl (sizeL _ _)) rfl ⟨Or.inr ⟨.slice ao_all L_all cap_all, HN.out, rfl, ?_⟩, below_setRow B9.out (by omega) _⟩
       exact (Own.setRow o_all9.out _ (by omega)).mono (by omega) (by rw [size_setRow]; omega)
   ·
    have nn : (h.n != (l.length : Int) + (x.length : Int)) = true := by simp [hn]
    have HN : Hid (R = (l, hd, 1)) := by show _ = _; rw [← HR.out]; exact extend1 (fun hk => hn (by rw [hk.2.2, HALL.out]; omega)) t
    go_wp2_with fail
    have cg : W3.cell? ⟨0, 0, none⟩ = some (.iface 169 (.pointer (some a0))) := (HF.out.later B3.out).1.1
    refine wp_region_held_drew (S := fun w' => w'.cell? ⟨w.heap.size + 1, 0, none⟩ = some (.int .i64 h.n) ∧ w'.cell? ⟨w.heap.size + 1, 1, none⟩ = some (.string h.r) ∧ w'.cell? ⟨0, 0, none⟩ = some (.iface 169 (.pointer (some a0)))) (by kernel_rfl) ⟨c_h3_0, c_h3_1, cg⟩ (fun hHeld => ?_)
    (refine wpAnyH_take (i := 0) (v := ?v0x31) rfl (by kernel_rfl) (by kernel_rfl) (by kernel_rfl) (fun _ _ _ h => h) (Or.inl ⟨by rfl, ?hy0x31⟩) (by assumption) ?rest0x31; case hy0x31 => (intro w hSw; (try dsimp only at hSw); go_split_ands; go_simp; (try with_reducible rfl)))
    try simp only [Act.put, pu1, pu2, pu3, pu4, pu5, pu6]
    (refine wpAnyH_take (i := 1) (v := ?v1x32) rfl (by kernel_rfl) (by kernel_rfl) (by kernel_rfl) (fun _ _ _ h => h) (Or.inl ⟨by rfl, ?hy1x32⟩) (by assumption) ?rest1x32; case hy1x32 => (intro w hSw; (try dsimp only at hSw); go_split_ands; go_simp; (try with_reducible rfl)))
    try simp only [Act.put, pu1, pu2, pu3, pu4, pu5, pu6]
    (refine wpAnyH_take (i := 2) (v := ?v2x33) rfl (by kernel_rfl) (by kernel_rfl) (by kernel_rfl) (fun _ _ _ h => h) (Or.inl ⟨by rfl, ?hy2x33⟩) (by assumption) ?rest2x33; case hy2x33 => (intro w hSw; (try dsimp only at hSw); go_split_ands; go_simp; (try with_reducible rfl)))
    try simp only [Act.put, pu1, pu2, pu3, pu4, pu5, pu6]
    (refine wpAnyH_take (i := 3) (v := ?v3x34) rfl (by kernel_rfl) (by kernel_rfl) (by kernel_rfl) (fun _ _ _ h => h) (Or.inl ⟨by rfl, ?hy3x34⟩) (by assumption) ?rest3x34; case hy3x34 => (intro w hSw; (try dsimp only at hSw); go_split_ands; go_simp; (try with_reducible rfl)))
    try simp only [Act.put, pu1, pu2, pu3, pu4, pu5, pu6]
    (refine wpAnyH_take (i := 4) (v := ?v4x35) rfl (by kernel_rfl) (by kernel_rfl) (by kernel_rfl) (fun _ _ _ h => h) (Or.inl ⟨by rfl, ?hy4x35⟩) (by assumption) ?rest4x35; case hy4x35 => (intro w hSw; (try dsimp only at hSw); go_split_ands; go_simp; (try with_reducible rfl)))
    try simp only [Act.put, pu1, pu2, pu3, pu4, pu5, pu6]
    refine wpAnyH_ready (rs := [5]) (by kernel_rfl) (by simp) ?_
    refine AllReadyH.cons rfl (fun K hK => ?_) AllReadyH.nil
    rw [if_pos (by rfl)]
    refine wp_store_row 31 _ _ rfl (w.heap.size + 1 + 1) (lc (.slice none 0 0) hd0) rfl rfl 31 _ r_res3.out (sizeL _ _) rfl (oneL _ rfl) ?_
    refine hK.out _ _ ⟨(cell_row (by show w.heap.size + 1 ≠ w.heap.size + 1 + 1; omega) hHeld.1), (cell_row (by show w.heap.size + 1 ≠ w.heap.size + 1 + 1; omega) hHeld.2.1), (cell_row (by show 0 ≠ w.heap.size + 1 + 1; omega) hHeld.2.2)⟩ (fun hHeld => ?_)
    clear hK K
    try simp only [Act.put, pu1, pu2, pu3, pu4, pu5, pu6]
    (refine wpAnyH_take (i := 6) (v := ?v6x36) rfl (by kernel_rfl) (by kernel_rfl) (by kernel_rfl) (fun _ _ _ h => h) (Or.inl ⟨by rfl, ?hy6x36⟩) (by assumption) ?rest6x36; case hy6x36 => (intro w hSw; (try dsimp only at hSw); go_split_ands; go_simp; (try with_reducible rfl)))
    try simp only [Act.put, pu1, pu2, pu3, pu4, pu5, pu6]
    refine wpAnyH_done (by kernel_rfl) ?_ _
    clear hHeld
    go_wp2
    refine bodyPost_ret (res_row_tmp rfl _ _ (w.heap.size + 1 + 1) 31 (lc (.slice none 0 0) hd0) (0, 0) _ rfl (setRow_heap _ _ _ _ _ (0, 0) r_res3.out) Tryz.underlying31 rfl (sizeL _ _)) rfl ⟨Or.inl ⟨1, a0, ?_, HN.out, rfl⟩, below_setRow (Below.drew B3.out) (by omega) _⟩
    unfold why
    simp
set_option maxRecDepth 1000000 in
set_option maxHeartbeats 8000000 in
theorem extend_impl (w : World) (v vt vx : Value) (l x : List ByteArray) (hd h : Hd) (t : List Hd) {a0 a1 a2 a3 : Addr} (hG : Glob w) (hF : Is.Four w a0 a1 a2 a3) (hs : Sl w v (ss l)) (ht : Sh w vt t) (hsx : Sl w vx (ss x)) (hl : l.length ≤ 1000000000) (htl : t.length ≤ 1000000000) (hx : x.length ≤ 1000000000) (hz : ∀ s ∈ l, s.size ≤ 10000000000) (hzx : ∀ s ∈ x, s.size ≤ 10000000000) (hdr : hd.r.size ≤ 1000000000000) (hhr : h.r.size ≤ 1000000000000) :
  Calls Tryz.prog 9 #[.agg #[v, .int .i64 hd.n, .string hd.r], vt, .agg #[.int .i64 h.n, .string h.r], vx] w fun e w' => ∃ v', e = .returned (.tuple #[.agg #[v', .int .i64 (extend l hd t h x).2.1.n, .string (extend l hd t h x).2.1.r], .int .i64 (extend l hd t h x).2.2]) ∧ Own w' w.heap.size w'.heap.size 9 v' (ss (extend l hd t h x).1) ∧ Below w.heap.size w w' := by
 have HS : Hid (Sl w v (ss l)) := hs
 have HSX : Hid (Sl w vx (ss x)) := hsx
 have HT : Hid (Sh w vt t) := ht
 have HG : Hid (Glob w) := hG
 have HF : Hid (Is.Four w a0 a1 a2 a3) := hF
 obtain ⟨ao0, cap0, rfl, hc0⟩ := hs.form
 obtain ⟨ao1, cap1, rfl, hc1⟩ := hsx.form
 obtain ⟨ao2, cap2, rfl, hc2⟩ := ht.form
 simp only [ss_len] at *
 clear hs hsx ht hG hF
 have B0 : Hid (Below w.heap.size w w) := Below.refl _ _
 obtain ⟨W1, HW1, b1, y1, hS1, r_a1, r_h1, r_res1⟩ : ∃ X, Hid ((((w.alloc (.cells #[.slice ao0 l.length cap0, .int .i64 hd.n, .string hd.r] 31)).alloc (.cells #[.int .i64 h.n, .string h.r] 28)).alloc (.cells #[.slice none 0 0, .int .i64 0, .string ⟨#[]⟩] 31)) = X) ∧ Below w.heap.size w X ∧ w.heap.size + 3 ≤ X.heap.size ∧ Hid (X.heap.size = w.heap.size + 1 + 1 + 1) ∧ Hid (X.heap[w.heap.size]? = some (.cells #[.slice ao0 l.length cap0, .int .i64 hd.n, .string hd.r] 31 (0, 0))) ∧ Hid (X.heap[w.heap.size + 1]? = some (.cells #[.int .i64 h.n, .string h.r] 28 (0, 0))) ∧ Hid (X.heap[w.heap.size + 1 + 1]? = some (.cells #[.slice none 0 0, .int .i64 0, .string ⟨#[]⟩] 31 (0, 0))) := ⟨_, rfl, ((((Below.refl _ _).alloc (Nat.le_refl _) _).alloc (by simp) _).alloc (by simp; omega) _), by simp, by show _ = _; simp, (by show _ = _; exact alloc_nth3_0 w _ _ _), (by show _ = _; exact alloc_nth3_1 w _ _ _), (by show _ = _; exact alloc_nth3_2 w _ _ _)⟩
 have z1 : w.heap.size ≤ W1.heap.size := b1.size
 have B1 : Hid (Below w.heap.size w W1) := B0.out.trans (b1.mono B0.out.size)
 have q1 : ∀ W v1 v2 v3, Glob W → Is.Four W a0 a1 a2 a3 → Sl W v1 (ss l) → Sh W v2 t → Sl W v3 (ss x) → _ := fun W v1 v2 v3 g1 g2 h1 h2 h3 => extended_impl W v1 v2 v3 l x hd h t g1 g2 h1 h2 h3 hl htl hx hz hzx hhr
 have q2 : ∀ W v1, Sl W v1 (ss l) → _ := fun W v1 h1 => ownlog_impl W v1 l hd h1 hl (fun s hs => by have := hz s hs; omega) hdr
 obtain ⟨R, hR⟩ : ∃ R, extend l hd t h x = R := ⟨_, rfl⟩
 simp only [hR] at q1
 rw [hR]
 clear hR hz hzx hdr hhr
 go_enter Tryz.func9, Tryz.ntmps9
 go_wp2_with fail
 rw [HW1.out]
 refine (q1 W1 _ _ _ (HG.out.later B1.out) (HF.out.later B1.out) (HS.out.later B1.out) (HT.out.later B1.out) (HSX.out.later B1.out)).mono ?_
 rintro e W2 ⟨hor, b2⟩
 have z2 : W1.heap.size ≤ W2.heap.size := b2.size
 have B2 : Hid (Below w.heap.size w W2) := B1.out.trans (b2.mono B1.out.size)
 have r_a2 : Hid (W2.heap[w.heap.size]? = some (.cells #[.slice ao0 l.length cap0, .int .i64 hd.n, .string hd.r] 31 (0, 0))) := rowKeep r_a1.out b2
 have r_res2 : Hid (W2.heap[w.heap.size + 1 + 1]? = some (.cells #[.slice none 0 0, .int .i64 0, .string ⟨#[]⟩] 31 (0, 0))) := rowKeep r_res1.out b2
 clear r_a1 r_h1 r_res1
 rcases hor with ⟨c, a, hw, hR, rfl⟩ | ⟨v_n, hR, rfl, o_n2⟩
 ·
  have HN : Hid (R = (l, hd, c)) := hR
  clear hR
  obtain ⟨W3, HW3, b3, y3, hS3, r_new3⟩ : ∃ X, Hid ((W2.alloc (.cells #[.slice none 0 0, .int .i64 0, .string ⟨#[]⟩] 31)) = X) ∧ Below W2.heap.size W2 X ∧ W2.heap.size + 1 ≤ X.heap.size ∧ Hid (X.heap.size = W2.heap.size + 1) ∧ Hid (X.heap[W2.heap.size]? = some (.cells #[.slice none 0 0, .int .i64 0, .string ⟨#[]⟩] 31 (0, 0))) := ⟨_, rfl, ((Below.refl _ _).alloc (Nat.le_refl _) _), by simp, by show _ = _; simp, (by show _ = _; exact alloc_nth1_0 W2 _)⟩
  have B3 : Hid (Below w.heap.size w W3) := B2.out.trans (b3.mono B2.out.size)
  have r_a3 : Hid (W3.heap[w.heap.size]? = some (.cells #[.slice ao0 l.length cap0, .int .i64 hd.n, .string hd.r] 31 (0, 0))) := rowKeep r_a2.out b3
  have r_res3 : Hid (W3.heap[w.heap.size + 1 + 1]? = some (.cells #[.slice none 0 0, .int .i64 0, .string ⟨#[]⟩] 31 (0, 0))) := rowKeep r_res2.out b3
  clear r_a2 r_res2
  have hq : ∀ W, Is.Four W a0 a1 a2 a3 → Calls Tryz.prog 29 #[Is.refV h.n h.r a] W fun e w' => e = .returned (.int .i64 c) ∧ Below W.heap.size W w' := by
   intro W g
   rcases hw with ⟨rfl, rfl⟩ | ⟨rfl, rfl⟩ | ⟨rfl, rfl⟩ | ⟨rfl, rfl⟩
   ·
    exact Is.code1 W _ _ g
   ·
    exact Is.code2 W _ _ g
   ·
    exact Is.code3 W _ _ g
   ·
    exact Is.code4 W _ _ g
  have hc0 : ¬ c = 0 := by
   rcases hw with ⟨rfl, _⟩ | ⟨rfl, _⟩ | ⟨rfl, _⟩ | ⟨rfl, _⟩ <;> omega
  clear hw
  have cn : (c == 0) = false := by rw [beq_eq_false_iff_ne]; exact hc0
  have cm : (c != 0) = true := by rw [bne, cn]; rfl
  go_wp2_with fail
  rw [HW3.out]
  refine (hq W3 (HF.out.later B3.out)).mono ?_
  rintro e W4 ⟨rfl, b4⟩
  have z4 : W3.heap.size ≤ W4.heap.size := b4.size
  have B4 : Hid (Below w.heap.size w W4) := B3.out.trans (b4.mono B3.out.size)
  have r_a4 : Hid (W4.heap[w.heap.size]? = some (.cells #[.slice ao0 l.length cap0, .int .i64 hd.n, .string hd.r] 31 (0, 0))) := rowKeep r_a3.out b4
  have r_res4 : Hid (W4.heap[w.heap.size + 1 + 1]? = some (.cells #[.slice none 0 0, .int .i64 0, .string ⟨#[]⟩] 31 (0, 0))) := rowKeep r_res3.out b4
  have c_a4_0 : W4.cell? ⟨w.heap.size, 0, none⟩ = some (.slice ao0 l.length cap0) := row_at r_a4.out 0
  have c_a4_1 : W4.cell? ⟨w.heap.size, 1, none⟩ = some (.int .i64 hd.n) := row_at r_a4.out 1
  have c_a4_2 : W4.cell? ⟨w.heap.size, 2, none⟩ = some (.string hd.r) := row_at r_a4.out 2
  clear r_a3 r_res3 r_new3
  go_wp2_with fail
  refine (q2 W4 _ (HS.out.later B4.out)).mono ?_
  rintro e W5 ⟨v_s, rfl, o_s5, b5⟩
  obtain ⟨ao_s, L_s, cap_s, rfl, hL_s, hM_s⟩ := o_s5.form
  have o_s5 : Hid (Own W5 W4.heap.size W5.heap.size 9 (.slice ao_s L_s cap_s) (ss l)) := o_s5
  clear hL_s hM_s
  have B5 : Hid (Below w.heap.size w W5) := B4.out.trans (b5.mono B4.out.size)
  have r_res5 : Hid (W5.heap[w.heap.size + 1 + 1]? = some (.cells #[.slice none 0 0, .int .i64 0, .string ⟨#[]⟩] 31 (0, 0))) := rowKeep r_res4.out b5
  clear r_a4 c_a4_0 c_a4_1 c_a4_2 r_res4
  go_wp2_with (refine wpList_store_row rfl 31 _ _ rfl (w.heap.size + 1 + 1) (lc (.slice ao_s L_s cap_s) hd) rfl rfl 31 _ r_res5.out (sizeL _ _) rfl (oneL _ rfl) ?_)
  refine bodyPost_ret (res_row_tmp rfl _ _ (w.heap.size + 1 + 1) 31 (lc (.slice ao_s L_s cap_s) hd) (0, 0) _ rfl (setRow_heap _ _ _ _ _ (0, 0) r_res5.out) Tryz.underlying31 rfl (sizeL _ _)) rfl ⟨.slice ao_s L_s cap_s, by rw [HN.out]; rfl, ?_, below_setRow B5.out (by omega) _⟩
  rw [HN.out]
  exact (Own.setRow o_s5.out _ (by omega)).mono (by omega) (by rw [size_setRow]; omega)
 ·
  have HN : Hid (R = (l ++ x, h, 0)) := hR
  clear hR
  obtain ⟨ao_n, L_n, cap_n, rfl, hL_n, hM_n⟩ := o_n2.form
  have o_n2 : Hid (Own W2 W1.heap.size W2.heap.size 9 (.slice ao_n L_n cap_n) (ss (l ++ x))) := o_n2
  clear hL_n hM_n
  obtain ⟨W3, HW3, b3, y3, hS3, r_new3⟩ : ∃ X, Hid ((W2.alloc (.cells #[.slice ao_n L_n cap_n, .int .i64 h.n, .string h.r] 31)) = X) ∧ Below W2.heap.size W2 X ∧ W2.heap.size + 1 ≤ X.heap.size ∧ Hid (X.heap.size = W2.heap.size + 1) ∧ Hid (X.heap[W2.heap.size]? = some (.cells #[.slice ao_n L_n cap_n, .int .i64 h.n, .string h.r] 31 (0, 0))) := ⟨_, rfl, ((Below.refl _ _).alloc (Nat.le_refl _) _), by simp, by show _ = _; simp, (by show _ = _; exact alloc_nth1_0 W2 _)⟩
  have z3 : W2.heap.size ≤ W3.heap.size := b3.size
  have B3 : Hid (Below w.heap.size w W3) := B2.out.trans (b3.mono B2.out.size)
  have r_res3 : Hid (W3.heap[w.heap.size + 1 + 1]? = some (.cells #[.slice none 0 0, .int .i64 0, .string ⟨#[]⟩] 31 (0, 0))) := rowKeep r_res2.out b3
  have o_n3 : Hid (Own W3 (W1.heap.size) (W2.heap.size) 9 (.slice ao_n L_n cap_n) (ss (l ++ x))) := Own.later o_n2.out b3 (by omega)
  clear r_a2 r_res2 o_n2
  go_wp2_with fail
  rw [HW3.out]
  refine (Is.code0 W3 (HF.out.later B3.out)).mono ?_
  rintro e W4 ⟨rfl, b4⟩
  have z4 : W3.heap.size ≤ W4.heap.size := b4.size
  have B4 : Hid (Below w.heap.size w W4) := B3.out.trans (b4.mono B3.out.size)
  have r_res4 : Hid (W4.heap[w.heap.size + 1 + 1]? = some (.cells #[.slice none 0 0, .int .i64 0, .string ⟨#[]⟩] 31 (0, 0))) := rowKeep r_res3.out b4
  have r_new4 : Hid (W4.heap[W2.heap.size]? = some (.cells #[.slice ao_n L_n cap_n, .int .i64 h.n, .string h.r] 31 (0, 0))) := rowKeep r_new3.out b4
  have o_n4 : Hid (Own W4 (W1.heap.size) (W2.heap.size) 9 (.slice ao_n L_n cap_n) (ss (l ++ x))) := Own.later o_n3.out b4 (by omega)
  clear r_res3 r_new3 o_n3
  go_wp2_with (first | (refine wpList_load_row rfl 31 _ rfl (W2.heap.size) rfl 31 (lc (.slice ao_n L_n cap_n) h) (0, 0) _ r_new4.out Tryz.underlying31 rfl (sizeL _ _) ?_) | (refine wpList_store_row rfl 31 _ _ rfl (w.heap.size + 1 + 1) (lc (.slice ao_n L_n cap_n) h) rfl rfl 31 _ r_res4.out (sizeL _ _) rfl (oneL _ rfl) ?_))
  refine bodyPost_ret (res_row_tmp rfl _ _ (w.heap.size + 1 + 1) 31 (lc (.slice ao_n L_n cap_n) h) (0, 0) _ rfl (setRow_heap _ _ _ _ _ (0, 0) r_res4.out) Tryz.underlying31 rfl (sizeL _ _)) rfl ⟨.slice ao_n L_n cap_n, by rw [HN.out]; rfl, ?_, below_setRow B4.out (by omega) _⟩
  rw [HN.out]
  exact (Own.setRow o_n4.out _ (by omega)).mono (by omega) (by rw [size_setRow]; omega)
end Go.Proofs.YtfpaichdkddglaaGreatDoor.Lg
