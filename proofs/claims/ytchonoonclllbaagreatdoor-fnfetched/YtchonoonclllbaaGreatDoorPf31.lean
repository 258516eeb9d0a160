/- Texts in one: LhD, LhE, KpI. -/
import Derived.Test.YtchonoonclllbaaGreatDoorPf29
namespace Go.Proofs.YtchonoonclllbaaGreatDoor.Lg
open Go.RowKit Go.Proofs.YtchonoonclllbaaGreatDoor.Mem Go.Proofs.YtchonoonclllbaaGreatDoor.Laws Go.Proofs.YtchonoonclllbaaGreatDoor.Bytes Go.Proofs.YtchonoonclllbaaGreatDoor.Sha Go.Proofs.YtchonoonclllbaaGreatDoor.Tr Go.Proofs.YtchonoonclllbaaGreatDoor.He
set_option linter.unusedVariables false
set_option linter.unusedSimpArgs false
def why (a0 a1 a2 a3 : Addr) (c : Int) (a : Addr) : Prop := (c = 1 ∧ a = a0) ∨ (c = 2 ∧ a = a1) ∨ (c = 3 ∧ a = a2) ∨ (c = 4 ∧ a = a3)
theorem globLt {w : World} {g : Nat} {a : Addr} (h : Is.At w g a) : g < w.heap.size := World.block_lt_of_cell? w _ h.1
set_option maxRecDepth 1000000 in
set_option maxHeartbeats 8000000 in
theorem extended_impl (w : World) (v vt vx : Value) (l x : List ByteArray) (hd h : Hd) (t : List Hd) {a0 a1 a2 a3 : Addr} (hG : Glob w) (hF : Is.Four w a0 a1 a2 a3) (hs : Sl w v (ss l)) (ht : Sh w vt t) (hsx : Sl w vx (ss x)) (hl : l.length ≤ 1000000000) (htl : t.length ≤ 1000000000) (hx : x.length ≤ 1000000000) (hz : ∀ s ∈ l, s.size ≤ 10000000000) (hzx : ∀ s ∈ x, s.size ≤ 10000000000) (hhr : h.r.size ≤ 1000000000000) :
  Calls Tryz.prog 148 #[.agg #[v, .int .i64 hd.n, .string hd.r], vt, .agg #[.int .i64 h.n, .string h.r], vx] w fun e w' => ((∃ c a, why a0 a1 a2 a3 c a ∧ extend l hd t h x = (l, hd, c) ∧ e = .returned (.tuple #[.agg #[.slice none 0 0, .int .i64 0, .string ⟨#[]⟩], Is.refV h.n h.r a])) ∨
   (∃ v', extend l hd t h x = (l ++ x, h, 0) ∧ e = .returned (.tuple #[.agg #[v', .int .i64 h.n, .string h.r], .nilIface]) ∧ Own w' w.heap.size w'.heap.size 9 v' (ss (l ++ x)))) ∧ Below w.heap.size w w' := by
 have HS : Hid (Sl w v (ss l)) := hs
 have HSX : Hid (Sl w vx (ss x)) := hsx
 have HT : Hid (Sh w vt t) := ht
 have HG : Hid (Glob w) := hG
 have HF : Hid (Is.Four w a0 a1 a2 a3) := hF
 obtain ⟨ao0, cap0, rfl, hc0⟩ := hs.form
 obtain ⟨ao1, cap1, rfl, hc1⟩ := hsx.form
 obtain ⟨ao2, cap2, rfl, hc2⟩ := ht.form
 simp only [ss_len] at *
 clear hs hsx ht hG hF
 have B0 : Hid (Below w.heap.size w w) := Below.refl _ _
 obtain ⟨i9, hi9, hz9a, hz9b, hz9c⟩ := info_parts info9t
 obtain ⟨W1, HW1, b1, y1, hS1, r_a1, r_h1, r_res1⟩ := Ke.l3 w #[.slice ao0 l.length cap0, .int .i64 hd.n, .string hd.r] 28 #[.int .i64 h.n, .string h.r] 26 #[.slice none 0 0, .int .i64 0, .string ⟨#[]⟩] 28
 have z1 := b1.size
 have B1 := Ke.b B0 b1
 have hqA : ∀ W v1, Glob W → Sl W v1 (ss l) → _ := fun W v1 h0 h1 => logok_impl W v1 l hd h0 h1 (by omega) hz
 have hqO : ∀ W v1, Glob W → Sl W v1 (ss (l ++ x)) → _ := fun W v1 h0 h1 => logof_impl W v1 (l ++ x) h0 h1 (by rw [List.length_append]; omega) (size_app hz hzx)
 have hqH : ∀ W, _ := fun W => ok_impl W h hhr
 have hqS : ∀ W v1, Sh W v1 t → _ := fun W v1 h1 => signed_impl W v1 t h h1 (by omega)
 have hqT : ∀ W v1, Sl W v1 (ss l) → _ := fun W v1 h1 => Ed.texts_impl W v1 l h1 hl (fun s hs => by have := hz s hs; omega)
 have hqU : ∀ W v1, Sl W v1 (ss x) → _ := fun W v1 h1 => Ed.texts_impl W v1 x h1 hx (fun s hs => by have := hzx s hs; omega)
 have hall : ((l ++ x).length : Int) = ((l.length + x.length : Nat) : Int) := by rw [List.length_append]
 have HALL : Hid (((l ++ x).length : Int) = ((l.length + x.length : Nat) : Int)) := hall
 clear hall
 have hwr : IntKind.i64.wrap ((l.length : Int) + (x.length : Int)) = (l.length : Int) + (x.length : Int) := by rw [IntKind.wrap_i64]; omega
 obtain ⟨A, hA⟩ : ∃ A, logOk l hd = A := ⟨_, rfl⟩
 obtain ⟨C, hC⟩ : ∃ A, okH h = A := ⟨_, rfl⟩
 obtain ⟨D, hD⟩ : ∃ A, signed t h = A := ⟨_, rfl⟩
 obtain ⟨M, hM⟩ : ∃ A, headOf (l ++ x) = A := ⟨_, rfl⟩
 obtain ⟨E, hE⟩ : ∃ A, eqH h M = A := ⟨_, rfl⟩
 have hE2 : eqH M h = E := by
  rw [← hE]
  by_cases e9 : h = M
  ·
   rw [e9]
  ·
   have e8 : ¬ eqH h M = true := fun q => e9 ((eqH_iff _ _).1 q)
   have e7 : ¬ eqH M h = true := fun q => e9 ((eqH_iff _ _).1 q).symm
   rw [Bool.not_eq_true] at e8 e7
   rw [e8, e7]
 have e1 : ∀ W, _ := fun W => neqH W M h
 have e2 : ∀ W op y z xs ys, _ := fun W op y z xs ys => grdH W op y z xs ys
 simp only [hA] at hqA
 simp only [hC] at hqH
 simp only [hD] at hqS
 simp only [hM] at hqO
 simp only [hE2] at e1
 have HA : Hid (logOk l hd = A) := hA
 have HC : Hid (okH h = C) := hC
 have HD : Hid (signed t h = D) := hD
 have HE : Hid (eqH h (headOf (l ++ x)) = E) := by show _ = _; rw [hM]; exact hE
 have HM : Hid (headOf (l ++ x) = M) := hM
 clear hA hC hD hM hE hE2 hz hzx hhr
 obtain ⟨R, hR⟩ : ∃ R, extend l hd t h x = R := ⟨_, rfl⟩
 have HR : Hid (extend l hd t h x = R) := hR
 rw [hR]
 clear hR
 have hg0 := globLt HF.out.1
 have hg1 := globLt HF.out.2.1
 have hg2 := globLt HF.out.2.2.1
 have hg3 := globLt HF.out.2.2.2.1
 go_enter Tryz.func148, Tryz.ntmps148
 go_wp2_with fail
 rw [HW1.out]
 refine (hqA W1 _ (HG.out.later B1.out) (HS.out.later B1.out)).mono ?_
 rintro e W2 ⟨rfl, b2⟩
 have z2 := b2.size
 have B2 := Ke.b B1 b2
 have r_a2 := Ke.r r_a1 b2
 have r_h2 := Ke.r r_h1 b2
 have r_res2 := Ke.r r_res1 b2
 have c_h2 := Ke.c r_h2
 clear r_a1 r_h1 r_res1
 cases A
 ·
  have hA := HA.out
  have HN : Hid (R = (l, hd, 1)) := by show _ = _; rw [← HR.out]; exact extend1 (fun hk => by rw [hA] at hk; exact absurd hk.1 (by simp)) t
  go_wp2_with fail
  have cg : W2.cell? ⟨1, 0, none⟩ = some (.iface 238 (.pointer (some a0))) := (HF.out.later B2.out).1.1
  refine wp_region_held_drew (S := fun w' => w'.cell? ⟨w.heap.size + 1, 0, none⟩ = some (.int .i64 h.n) ∧ w'.cell? ⟨w.heap.size + 1, 1, none⟩ = some (.string h.r) ∧ w'.cell? ⟨1, 0, none⟩ = some (.iface 238 (.pointer (some a0)))) (by kernel_rfl) ⟨(c_h2 0), (c_h2 1), cg⟩ (fun hHeld => ?_)
  refine Ke.y 0 rfl (fun _ _ _ h => h) ?_
  try simp only [Act.put, pu1, pu2, pu3, pu4, pu5, pu6]
  refine Ke.y 1 rfl (fun _ _ _ h => h) ?_
  try simp only [Act.put, pu1, pu2, pu3, pu4, pu5, pu6]
  refine Ke.y 2 rfl (fun _ _ _ h => h) ?_
  try simp only [Act.put, pu1, pu2, pu3, pu4, pu5, pu6]
  refine Ke.y 3 rfl (fun _ _ _ h => h) ?_
  try simp only [Act.put, pu1, pu2, pu3, pu4, pu5, pu6]
  refine Ke.y 4 rfl (fun _ _ _ h => h) ?_
  try simp only [Act.put, pu1, pu2, pu3, pu4, pu5, pu6]
  refine Ke.z 5 rfl (fun K hK => ?_)
  rw [if_pos (by rfl)]
  refine wp_store_row 28 _ _ rfl (w.heap.size + 1 + 1) (lc (.slice none 0 0) hd0) rfl rfl 28 _ r_res2.out (sizeL _ _) rfl (oneL _ rfl) ?_
  refine hK.out _ _ ⟨(cell_row (by show w.heap.size + 1 ≠ w.heap.size + 1 + 1; omega) hHeld.1), (cell_row (by show w.heap.size + 1 ≠ w.heap.size + 1 + 1; omega) hHeld.2.1), (cell_row (by show 1 ≠ w.heap.size + 1 + 1; omega) hHeld.2.2)⟩ (fun hHeld => ?_)
  clear hK K
  try simp only [Act.put, pu1, pu2, pu3, pu4, pu5, pu6]
  refine Ke.y 6 rfl (fun _ _ _ h => h) ?_
  try simp only [Act.put, pu1, pu2, pu3, pu4, pu5, pu6]
  refine wpAnyH_done (by kernel_rfl) ?_ _
  clear hHeld
  go_wp2
  refine bodyPost_ret (res_row_tmp rfl _ _ (w.heap.size + 1 + 1) 28 (lc (.slice none 0 0) hd0) (0, 0) _ rfl (setRow_heap _ _ _ _ _ (0, 0) r_res2.out) Tryz.underlying28 rfl (sizeL _ _)) rfl ⟨Or.inl ⟨1, a0, ?_, HN.out, rfl⟩, below_setRow (Below.drew B2.out) (by omega) _⟩
  unfold why
  simp
 ·
  go_wp2_with fail
  refine (hqH W2).mono ?_
  rintro e W3 ⟨rfl, b3⟩
  have z3 := b3.size
  have B3 := Ke.b B2 b3
  have r_a3 := Ke.r r_a2 b3
  have r_h3 := Ke.r r_h2 b3
  have r_res3 := Ke.r r_res2 b3
  have c_a3 := Ke.c r_a3
  have c_h3 := Ke.c r_h3
  clear r_a2 r_h2 c_h2 r_res2
  cases C
  ·
   have hC := HC.out
   have HN : Hid (R = (l, hd, 1)) := by show _ = _; rw [← HR.out]; exact extend1 (fun hk => by rw [hC] at hk; exact absurd hk.2.1 (by simp)) t
   go_wp2_with fail
   have cg : W3.cell? ⟨1, 0, none⟩ = some (.iface 238 (.pointer (some a0))) := (HF.out.later B3.out).1.1
   refine wp_region_held_drew (S := fun w' => w'.cell? ⟨w.heap.size + 1, 0, none⟩ = some (.int .i64 h.n) ∧ w'.cell? ⟨w.heap.size + 1, 1, none⟩ = some (.string h.r) ∧ w'.cell? ⟨1, 0, none⟩ = some (.iface 238 (.pointer (some a0)))) (by kernel_rfl) ⟨(c_h3 0), (c_h3 1), cg⟩ (fun hHeld => ?_)
   refine Ke.y 0 rfl (fun _ _ _ h => h) ?_
   try simp only [Act.put, pu1, pu2, pu3, pu4, pu5, pu6]
   refine Ke.y 1 rfl (fun _ _ _ h => h) ?_
   try simp only [Act.put, pu1, pu2, pu3, pu4, pu5, pu6]
   refine Ke.y 2 rfl (fun _ _ _ h => h) ?_
   try simp only [Act.put, pu1, pu2, pu3, pu4, pu5, pu6]
   refine Ke.y 3 rfl (fun _ _ _ h => h) ?_
   try simp only [Act.put, pu1, pu2, pu3, pu4, pu5, pu6]
   refine Ke.y 4 rfl (fun _ _ _ h => h) ?_
   try simp only [Act.put, pu1, pu2, pu3, pu4, pu5, pu6]
   refine Ke.z 5 rfl (fun K hK => ?_)
   rw [if_pos (by rfl)]
   refine wp_store_row 28 _ _ rfl (w.heap.size + 1 + 1) (lc (.slice none 0 0) hd0) rfl rfl 28 _ r_res3.out (sizeL _ _) rfl (oneL _ rfl) ?_
   refine hK.out _ _ ⟨(cell_row (by show w.heap.size + 1 ≠ w.heap.size + 1 + 1; omega) hHeld.1), (cell_row (by show w.heap.size + 1 ≠ w.heap.size + 1 + 1; omega) hHeld.2.1), (cell_row (by show 1 ≠ w.heap.size + 1 + 1; omega) hHeld.2.2)⟩ (fun hHeld => ?_)
   clear hK K
   try simp only [Act.put, pu1, pu2, pu3, pu4, pu5, pu6]
   refine Ke.y 6 rfl (fun _ _ _ h => h) ?_
   try simp only [Act.put, pu1, pu2, pu3, pu4, pu5, pu6]
   refine wpAnyH_done (by kernel_rfl) ?_ _
   clear hHeld
   go_wp2
   refine bodyPost_ret (res_row_tmp rfl _ _ (w.heap.size + 1 + 1) 28 (lc (.slice none 0 0) hd0) (0, 0) _ rfl (setRow_heap _ _ _ _ _ (0, 0) r_res3.out) Tryz.underlying28 rfl (sizeL _ _)) rfl ⟨Or.inl ⟨1, a0, ?_, HN.out, rfl⟩, below_setRow (Below.drew B3.out) (by omega) _⟩
   unfold why
   simp
  ·
   by_cases hn : h.n = (l.length : Int) + (x.length : Int)
   ·
    have HK : Hid (logOk l hd = true ∧ okH h = true ∧ h.n = ((l ++ x).length : Int)) := ⟨HA.out, HC.out, by rw [HALL.out, hn]; omega⟩
    have nn : (h.n != (l.length : Int) + (x.length : Int)) = false := by simp [hn]
    have ne : (h.n == (l.length : Int) + (x.length : Int)) = true := by simp [hn]
    clear hn
    go_wp2_with fail
    refine (hqS W3 _ (HT.out.later B3.out)).mono ?_
    rintro e W4 ⟨rfl, b4⟩
    have z4 := b4.size
    have B4 := Ke.b B3 b4
    have r_a4 := Ke.r r_a3 b4
    have r_h4 := Ke.r r_h3 b4
    have r_res4 := Ke.r r_res3 b4
    have c_a4 := Ke.c r_a4
    have c_h4 := Ke.c r_h4
    clear r_a3 c_a3 r_h3 c_h3 r_res3
    cases D
    ·
     have HN : Hid (R = (l, hd, 2)) := by show _ = _; rw [← HR.out]; exact extend2 HK.out HD.out
     go_wp2_with fail
     have cg : W4.cell? ⟨2, 0, none⟩ = some (.iface 238 (.pointer (some a1))) := (HF.out.later B4.out).2.1.1
     refine wp_region_held_drew (S := fun w' => w'.cell? ⟨w.heap.size + 1, 0, none⟩ = some (.int .i64 h.n) ∧ w'.cell? ⟨w.heap.size + 1, 1, none⟩ = some (.string h.r) ∧ w'.cell? ⟨2, 0, none⟩ = some (.iface 238 (.pointer (some a1)))) (by kernel_rfl) ⟨(c_h4 0), (c_h4 1), cg⟩ (fun hHeld => ?_)
     refine Ke.y 0 rfl (fun _ _ _ h => h) ?_
     try simp only [Act.put, pu1, pu2, pu3, pu4, pu5, pu6]
     refine Ke.y 1 rfl (fun _ _ _ h => h) ?_
     try simp only [Act.put, pu1, pu2, pu3, pu4, pu5, pu6]
     refine Ke.y 2 rfl (fun _ _ _ h => h) ?_
     try simp only [Act.put, pu1, pu2, pu3, pu4, pu5, pu6]
     refine Ke.y 3 rfl (fun _ _ _ h => h) ?_
     try simp only [Act.put, pu1, pu2, pu3, pu4, pu5, pu6]
     refine Ke.y 4 rfl (fun _ _ _ h => h) ?_
     try simp only [Act.put, pu1, pu2, pu3, pu4, pu5, pu6]
     refine Ke.z 5 rfl (fun K hK => ?_)
     rw [if_pos (by rfl)]
     refine wp_store_row 28 _ _ rfl (w.heap.size + 1 + 1) (lc (.slice none 0 0) hd0) rfl rfl 28 _ r_res4.out (sizeL _ _) rfl (oneL _ rfl) ?_
     refine hK.out _ _ ⟨(cell_row (by show w.heap.size + 1 ≠ w.heap.size + 1 + 1; omega) hHeld.1), (cell_row (by show w.heap.size + 1 ≠ w.heap.size + 1 + 1; omega) hHeld.2.1), (cell_row (by show 2 ≠ w.heap.size + 1 + 1; omega) hHeld.2.2)⟩ (fun hHeld => ?_)
     clear hK K
     try simp only [Act.put, pu1, pu2, pu3, pu4, pu5, pu6]
     refine Ke.y 6 rfl (fun _ _ _ h => h) ?_
     try simp only [Act.put, pu1, pu2, pu3, pu4, pu5, pu6]
     refine wpAnyH_done (by kernel_rfl) ?_ _
     clear hHeld
     go_wp2
     refine bodyPost_ret (res_row_tmp rfl _ _ (w.heap.size + 1 + 1) 28 (lc (.slice none 0 0) hd0) (0, 0) _ rfl (setRow_heap _ _ _ _ _ (0, 0) r_res4.out) Tryz.underlying28 rfl (sizeL _ _)) rfl ⟨Or.inl ⟨2, a1, ?_, HN.out, rfl⟩, below_setRow (Below.drew B4.out) (by omega) _⟩
     unfold why
     simp
    ·
     by_cases hx0 : x.length = 0
     ·
      have gx : (x.length : Int) = 0 := by omega
      have HX0 : Hid (x.length = 0) := hx0
      clear hx0
      have HN : Hid (R = (l, hd, 3)) := by show _ = _; rw [← HR.out]; exact extend3 HK.out HD.out HX0.out
      go_wp2_with fail
      have cg : W4.cell? ⟨3, 0, none⟩ = some (.iface 238 (.pointer (some a2))) := (HF.out.later B4.out).2.2.1.1
      refine wp_region_held_drew (S := fun w' => w'.cell? ⟨w.heap.size + 1, 0, none⟩ = some (.int .i64 h.n) ∧ w'.cell? ⟨w.heap.size + 1, 1, none⟩ = some (.string h.r) ∧ w'.cell? ⟨3, 0, none⟩ = some (.iface 238 (.pointer (some a2)))) (by kernel_rfl) ⟨(c_h4 0), (c_h4 1), cg⟩ (fun hHeld => ?_)
      refine Ke.y 0 rfl (fun _ _ _ h => h) ?_
      try simp only [Act.put, pu1, pu2, pu3, pu4, pu5, pu6]
      refine Ke.y 1 rfl (fun _ _ _ h => h) ?_
      try simp only [Act.put, pu1, pu2, pu3, pu4, pu5, pu6]
      refine Ke.y 2 rfl (fun _ _ _ h => h) ?_
      try simp only [Act.put, pu1, pu2, pu3, pu4, pu5, pu6]
      refine Ke.y 3 rfl (fun _ _ _ h => h) ?_
      try simp only [Act.put, pu1, pu2, pu3, pu4, pu5, pu6]
      refine Ke.y 4 rfl (fun _ _ _ h => h) ?_
      try simp only [Act.put, pu1, pu2, pu3, pu4, pu5, pu6]
      refine Ke.z 5 rfl (fun K hK => ?_)
      rw [if_pos (by rfl)]
      refine wp_store_row 28 _ _ rfl (w.heap.size + 1 + 1) (lc (.slice none 0 0) hd0) rfl rfl 28 _ r_res4.out (sizeL _ _) rfl (oneL _ rfl) ?_
      refine hK.out _ _ ⟨(cell_row (by show w.heap.size + 1 ≠ w.heap.size + 1 + 1; omega) hHeld.1), (cell_row (by show w.heap.size + 1 ≠ w.heap.size + 1 + 1; omega) hHeld.2.1), (cell_row (by show 3 ≠ w.heap.size + 1 + 1; omega) hHeld.2.2)⟩ (fun hHeld => ?_)
      clear hK K
      try simp only [Act.put, pu1, pu2, pu3, pu4, pu5, pu6]
      refine Ke.y 6 rfl (fun _ _ _ h => h) ?_
      try simp only [Act.put, pu1, pu2, pu3, pu4, pu5, pu6]
      refine wpAnyH_done (by kernel_rfl) ?_ _
      clear hHeld
      go_wp2
      refine bodyPost_ret (res_row_tmp rfl _ _ (w.heap.size + 1 + 1) 28 (lc (.slice none 0 0) hd0) (0, 0) _ rfl (setRow_heap _ _ _ _ _ (0, 0) r_res4.out) Tryz.underlying28 rfl (sizeL _ _)) rfl ⟨Or.inl ⟨3, a2, ?_, HN.out, rfl⟩, below_setRow (Below.drew B4.out) (by omega) _⟩
      unfold why
      simp
     ·
      have gx : ¬ (x.length : Int) = 0 := by omega
      go_wp2_with fail
      refine (hqT W4 _ (HS.out.later B4.out)).mono ?_
      rintro e W5 ⟨v_p, rfl, o_p5, b5⟩
      obtain ⟨ao_p, L_p, cap_p, rfl, hL_p, hM_p⟩ := o_p5.form
      have o_p5 : Hid (Own W5 W4.heap.size W5.heap.size 9 (.slice ao_p L_p cap_p) (ss l)) := o_p5
      clear hL_p hM_p
      have z5 := b5.size
      have B5 := Ke.b B4 b5
      have r_h5 := Ke.r r_h4 b5
      have r_res5 := Ke.r r_res4 b5
      clear r_a4 c_a4 r_h4 c_h4 r_res4
      go_wp2_with fail
      refine (hqU W5 _ (HSX.out.later B5.out)).mono ?_
      rintro e W6 ⟨v_q, rfl, o_q6, b6⟩
      obtain ⟨ao_q, L_q, cap_q, rfl, hL_q, hM_q⟩ := o_q6.form
      have o_q6 : Hid (Own W6 W5.heap.size W6.heap.size 9 (.slice ao_q L_q cap_q) (ss x)) := o_q6
      clear hL_q hM_q
      have z6 := b6.size
      have B6 := Ke.b B5 b6
      have r_h6 := Ke.r r_h5 b6
      have r_res6 := Ke.r r_res5 b6
      have o_p6 := Ke.o o_p5 b6
      clear r_h5 r_res5 o_p5
      have c6_7 : (ss l).length + (ss x).length ≤ maxLen := by rw [ss_len, ss_len]; unfold maxLen; (try simp only [List.length_nil]); omega
      have c7_7 : ((ss l).length + (ss x).length) * 16 ≤ 140737488355328 := by rw [ss_len, ss_len]; (try simp only [List.length_nil]); omega
      have sE7 : Hid (Sl W6 _ (ss x)) := o_q6.out.sl
      go_wp2_with (at_builtin; go_must (refine wpl_app _ rfl (.tmp 54) (.tmp 56) 24 rfl 9 i9 (.string ⟨#[]⟩) 16 Tryz.underlying24 hi9 hz9a hz9b hz9c rfl (W4.heap.size) _ (ss l) rfl (Own.mono o_p6.out (Nat.le_refl _) (by omega)) _ rfl (ss x) sE7.out (ss_one x) c6_7 c7_7 (by omega) ?_))
      intro v_all W7 o_all7 _ g7
      have o_all7 : Own W7 (W4.heap.size) W7.heap.size 9 v_all (ss (l ++ x)) := by show Own _ _ _ _ _ _; rw [ss_app]; exact o_all7
      have o_all7h : Hid (Own W7 (W4.heap.size) W7.heap.size 9 v_all (ss (l ++ x))) := o_all7
      clear o_all7
      have o_all7 := o_all7h
      clear o_all7h
      obtain ⟨ao_all, L_all, cap_all, rfl, _, _⟩ := Mem.Own.form o_all7.out
      have z7 := g7.size
      have B7 : Hid (Below w.heap.size w W7) := belowGro B6.out g7 B6.out.size (Own.low o_p6.out (by have := B6.out.size; omega))
      have r_h7 := Ke.n r_h6 o_p6 g7
      have r_res7 := Ke.n r_res6 o_p6 g7
      clear r_h6 r_res6 o_p6 o_q6
      clear g7 sE7 c6_7 c7_7
      go_wp2_with fail
      refine (hqO W7 _ (HG.out.later B7.out) o_all7.out.sl).mono ?_
      rintro e W8 ⟨rfl, b8⟩
      have z8 := b8.size
      have B8 := Ke.b B7 b8
      have r_h8 := Ke.r r_h7 b8
      have r_res8 := Ke.r r_res7 b8
      have o_all8 := Ke.o o_all7 b8
      have c_h8 := Ke.c r_h8
      clear r_h7 r_res7 o_all7
      have a_h8 := Ke.a r_h8
      obtain ⟨W9, HW9, b9, y9, hS9, r_new9⟩ := Ke.l1 W8 #[.slice ao_all L_all cap_all, .int .i64 M.n, .string M.r] 28
      have z9 := b9.size
      have B9 := Ke.b B8 b9
      have r_h9 := Ke.r r_h8 b9
      have r_res9 := Ke.r r_res8 b9
      have o_all9 := Ke.o o_all8 b9
      have c_h9 := Ke.c r_h9
      clear r_h8 c_h8 r_res8 o_all8
      cases E
      ·
       have HN : Hid (R = (l, hd, 4)) := by show _ = _; rw [← HR.out]; exact extend4 HK.out HD.out hx0 HE.out
       go_wp2_with fail
       rw [HW9.out]
       clear a_h8
       have cg : W9.cell? ⟨4, 0, none⟩ = some (.iface 238 (.pointer (some a3))) := (HF.out.later B9.out).2.2.2.1.1
       refine wp_region_held_drew (S := fun w' => w'.cell? ⟨w.heap.size + 1, 0, none⟩ = some (.int .i64 h.n) ∧ w'.cell? ⟨w.heap.size + 1, 1, none⟩ = some (.string h.r) ∧ w'.cell? ⟨4, 0, none⟩ = some (.iface 238 (.pointer (some a3)))) (by kernel_rfl) ⟨(c_h9 0), (c_h9 1), cg⟩ (fun hHeld => ?_)
       refine Ke.y 0 rfl (fun _ _ _ h => h) ?_
       try simp only [Act.put, pu1, pu2, pu3, pu4, pu5, pu6]
       refine Ke.y 1 rfl (fun _ _ _ h => h) ?_
       try simp only [Act.put, pu1, pu2, pu3, pu4, pu5, pu6]
       refine Ke.y 2 rfl (fun _ _ _ h => h) ?_
       try simp only [Act.put, pu1, pu2, pu3, pu4, pu5, pu6]
       refine Ke.y 3 rfl (fun _ _ _ h => h) ?_
       try simp only [Act.put, pu1, pu2, pu3, pu4, pu5, pu6]
       refine Ke.y 4 rfl (fun _ _ _ h => h) ?_
       try simp only [Act.put, pu1, pu2, pu3, pu4, pu5, pu6]
       refine Ke.z 5 rfl (fun K hK => ?_)
       rw [if_pos (by rfl)]
       refine wp_store_row 28 _ _ rfl (w.heap.size + 1 + 1) (lc (.slice none 0 0) hd0) rfl rfl 28 _ r_res9.out (sizeL _ _) rfl (oneL _ rfl) ?_
       refine hK.out _ _ ⟨(cell_row (by show w.heap.size + 1 ≠ w.heap.size + 1 + 1; omega) hHeld.1), (cell_row (by show w.heap.size + 1 ≠ w.heap.size + 1 + 1; omega) hHeld.2.1), (cell_row (by show 4 ≠ w.heap.size + 1 + 1; omega) hHeld.2.2)⟩ (fun hHeld => ?_)
       clear hK K
       try simp only [Act.put, pu1, pu2, pu3, pu4, pu5, pu6]
       refine Ke.y 6 rfl (fun _ _ _ h => h) ?_
       try simp only [Act.put, pu1, pu2, pu3, pu4, pu5, pu6]
       refine wpAnyH_done (by kernel_rfl) ?_ _
       clear hHeld
       go_wp2
       refine bodyPost_ret (res_row_tmp rfl _ _ (w.heap.size + 1 + 1) 28 (lc (.slice none 0 0) hd0) (0, 0) _ rfl (setRow_heap _ _ _ _ _ (0, 0) r_res9.out) Tryz.underlying28 rfl (sizeL _ _)) rfl ⟨Or.inl ⟨4, a3, ?_, HN.out, rfl⟩, below_setRow (Below.drew B9.out) (by omega) _⟩
       unfold why
       simp
      ·
       have HN : Hid (R = (l ++ x, h, 0)) := by show _ = _; rw [← HR.out]; exact extend0 HK.out HD.out hx0 HE.out
       have hMh : M = h := by
        have h9 := (eqH_iff _ _).1 HE.out
        rw [HM.out] at h9
        exact h9.symm
       subst hMh
       go_wp2_with (first | ((try rw [HW9.out]); refine wpList_load_row rfl 28 _ rfl (W8.heap.size) rfl 28 (lc (.slice ao_all L_all cap_all) M) (0, 0) _ r_new9.out Tryz.underlying28 rfl (sizeL _ _) ?_) | (refine wpList_store_row rfl 28 _ _ rfl (w.heap.size + 1 + 1) (lc (.slice ao_all L_all cap_all) M) rfl rfl 28 _ r_res9.out (sizeL _ _) rfl (oneL _ rfl) ?_))
       refine bodyPost_ret (res_row_tmp rfl _ _ (w.heap.size + 1 + 1) 28 (lc (.slice ao_all L_all cap_all) M) (0, 0) _ rfl (setRow_heap _ _ _ _ _ (0, 0) r_res9.out) Tryz.underlying28 rfl (sizeL _ _)) rfl ⟨Or.inr ⟨.slice ao_all L_all cap_all, HN.out, rfl, ?_⟩, below_setRow B9.out (by omega) _⟩
       exact (Own.setRow o_all9.out _ (by omega)).mono (by omega) (by rw [size_setRow]; omega)
   ·
    have nn : (h.n != (l.length : Int) + (x.length : Int)) = true := by simp [hn]
    have ne : (h.n == (l.length : Int) + (x.length : Int)) = false := by simp [hn]
    have HN : Hid (R = (l, hd, 1)) := by show _ = _; rw [← HR.out]; exact extend1 (fun hk => hn (by rw [hk.2.2, HALL.out]; omega)) t
    go_wp2_with fail
    have cg : W3.cell? ⟨1, 0, none⟩ = some (.iface 238 (.pointer (some a0))) := (HF.out.later B3.out).1.1
    refine wp_region_held_drew (S := fun w' => w'.cell? ⟨w.heap.size + 1, 0, none⟩ = some (.int .i64 h.n) ∧ w'.cell? ⟨w.heap.size + 1, 1, none⟩ = some (.string h.r) ∧ w'.cell? ⟨1, 0, none⟩ = some (.iface 238 (.pointer (some a0)))) (by kernel_rfl) ⟨(c_h3 0), (c_h3 1), cg⟩ (fun hHeld => ?_)
    refine Ke.y 0 rfl (fun _ _ _ h => h) ?_
    try simp only [Act.put, pu1, pu2, pu3, pu4, pu5, pu6]
    refine Ke.y 1 rfl (fun _ _ _ h => h) ?_
    try simp only [Act.put, pu1, pu2, pu3, pu4, pu5, pu6]
    refine Ke.y 2 rfl (fun _ _ _ h => h) ?_
    try simp only [Act.put, pu1, pu2, pu3, pu4, pu5, pu6]
    refine Ke.y 3 rfl (fun _ _ _ h => h) ?_
    try simp only [Act.put, pu1, pu2, pu3, pu4, pu5, pu6]
    refine Ke.y 4 rfl (fun _ _ _ h => h) ?_
    try simp only [Act.put, pu1, pu2, pu3, pu4, pu5, pu6]
    refine Ke.z 5 rfl (fun K hK => ?_)
    rw [if_pos (by rfl)]
    refine wp_store_row 28 _ _ rfl (w.heap.size + 1 + 1) (lc (.slice none 0 0) hd0) rfl rfl 28 _ r_res3.out (sizeL _ _) rfl (oneL _ rfl) ?_
    refine hK.out _ _ ⟨(cell_row (by show w.heap.size + 1 ≠ w.heap.size + 1 + 1; omega) hHeld.1), (cell_row (by show w.heap.size + 1 ≠ w.heap.size + 1 + 1; omega) hHeld.2.1), (cell_row (by show 1 ≠ w.heap.size + 1 + 1; omega) hHeld.2.2)⟩ (fun hHeld => ?_)
    clear hK K
    try simp only [Act.put, pu1, pu2, pu3, pu4, pu5, pu6]
    refine Ke.y 6 rfl (fun _ _ _ h => h) ?_
    try simp only [Act.put, pu1, pu2, pu3, pu4, pu5, pu6]
    refine wpAnyH_done (by kernel_rfl) ?_ _
    clear hHeld
    go_wp2
    refine bodyPost_ret (res_row_tmp rfl _ _ (w.heap.size + 1 + 1) 28 (lc (.slice none 0 0) hd0) (0, 0) _ rfl (setRow_heap _ _ _ _ _ (0, 0) r_res3.out) Tryz.underlying28 rfl (sizeL _ _)) rfl ⟨Or.inl ⟨1, a0, ?_, HN.out, rfl⟩, below_setRow (Below.drew B3.out) (by omega) _⟩
    unfold why
    simp
set_option maxRecDepth 1000000 in
set_option maxHeartbeats 8000000 in
theorem extend_impl (w : World) (v vt vx : Value) (l x : List ByteArray) (hd h : Hd) (t : List Hd) {a0 a1 a2 a3 : Addr} (hG : Glob w) (hF : Is.Four w a0 a1 a2 a3) (hs : Sl w v (ss l)) (ht : Sh w vt t) (hsx : Sl w vx (ss x)) (hl : l.length ≤ 1000000000) (htl : t.length ≤ 1000000000) (hx : x.length ≤ 1000000000) (hz : ∀ s ∈ l, s.size ≤ 10000000000) (hzx : ∀ s ∈ x, s.size ≤ 10000000000) (hdr : hd.r.size ≤ 1000000000000) (hhr : h.r.size ≤ 1000000000000) :
  Calls Tryz.prog 106 #[.agg #[v, .int .i64 hd.n, .string hd.r], vt, .agg #[.int .i64 h.n, .string h.r], vx] w fun e w' => ∃ v', e = .returned (.tuple #[.agg #[v', .int .i64 (extend l hd t h x).2.1.n, .string (extend l hd t h x).2.1.r], .int .i64 (extend l hd t h x).2.2]) ∧ Own w' w.heap.size w'.heap.size 9 v' (ss (extend l hd t h x).1) ∧ Below w.heap.size w w' := by
 have HS : Hid (Sl w v (ss l)) := hs
 have HSX : Hid (Sl w vx (ss x)) := hsx
 have HT : Hid (Sh w vt t) := ht
 have HG : Hid (Glob w) := hG
 have HF : Hid (Is.Four w a0 a1 a2 a3) := hF
 obtain ⟨ao0, cap0, rfl, hc0⟩ := hs.form
 obtain ⟨ao1, cap1, rfl, hc1⟩ := hsx.form
 obtain ⟨ao2, cap2, rfl, hc2⟩ := ht.form
 simp only [ss_len] at *
 clear hs hsx ht hG hF
 have B0 : Hid (Below w.heap.size w w) := Below.refl _ _
 obtain ⟨W1, HW1, b1, y1, hS1, r_a1, r_h1, r_res1⟩ := Ke.l3 w #[.slice ao0 l.length cap0, .int .i64 hd.n, .string hd.r] 28 #[.int .i64 h.n, .string h.r] 26 #[.slice none 0 0, .int .i64 0, .string ⟨#[]⟩] 28
 have z1 := b1.size
 have B1 := Ke.b B0 b1
 have q1 : ∀ W v1 v2 v3, Glob W → Is.Four W a0 a1 a2 a3 → Sl W v1 (ss l) → Sh W v2 t → Sl W v3 (ss x) → _ := fun W v1 v2 v3 g1 g2 h1 h2 h3 => extended_impl W v1 v2 v3 l x hd h t g1 g2 h1 h2 h3 hl htl hx hz hzx hhr
 have q2 : ∀ W v1, Sl W v1 (ss l) → _ := fun W v1 h1 => ownlog_impl W v1 l hd h1 hl (fun s hs => by have := hz s hs; omega) hdr
 obtain ⟨R, hR⟩ : ∃ R, extend l hd t h x = R := ⟨_, rfl⟩
 simp only [hR] at q1
 rw [hR]
 clear hR hz hzx hdr hhr
 go_enter Tryz.func106, Tryz.ntmps106
 go_wp2_with fail
 rw [HW1.out]
 refine (q1 W1 _ _ _ (HG.out.later B1.out) (HF.out.later B1.out) (HS.out.later B1.out) (HT.out.later B1.out) (HSX.out.later B1.out)).mono ?_
 rintro e W2 ⟨hor, b2⟩
 have z2 := b2.size
 have B2 := Ke.b B1 b2
 have r_a2 := Ke.r r_a1 b2
 have r_res2 := Ke.r r_res1 b2
 clear r_a1 r_h1 r_res1
 rcases hor with ⟨c, a, hw, hR, rfl⟩ | ⟨v_n, hR, rfl, o_n2⟩
 ·
  have HN : Hid (R = (l, hd, c)) := hR
  clear hR
  obtain ⟨W3, HW3, b3, y3, hS3, r_new3⟩ := Ke.l1 W2 #[.slice none 0 0, .int .i64 0, .string ⟨#[]⟩] 28
  have z3 := b3.size
  have B3 := Ke.b B2 b3
  have r_a3 := Ke.r r_a2 b3
  have r_res3 := Ke.r r_res2 b3
  clear r_a2 r_res2
  have hq : ∀ W, Is.Four W a0 a1 a2 a3 → Calls Tryz.prog 149 #[Is.refV h.n h.r a] W fun e w' => e = .returned (.int .i64 c) ∧ Below W.heap.size W w' := by
   intro W g
   rcases hw with ⟨rfl, rfl⟩ | ⟨rfl, rfl⟩ | ⟨rfl, rfl⟩ | ⟨rfl, rfl⟩
   ·
    exact Is.code1 W _ _ g
   ·
    exact Is.code2 W _ _ g
   ·
    exact Is.code3 W _ _ g
   ·
    exact Is.code4 W _ _ g
  have hc0 : ¬ c = 0 := by
   rcases hw with ⟨rfl, _⟩ | ⟨rfl, _⟩ | ⟨rfl, _⟩ | ⟨rfl, _⟩ <;> omega
  clear hw
  have cn : (c == 0) = false := by rw [beq_eq_false_iff_ne]; exact hc0
  have cm : (c != 0) = true := by rw [bne, cn]; rfl
  go_wp2_with fail
  rw [HW3.out]
  refine (hq W3 (HF.out.later B3.out)).mono ?_
  rintro e W4 ⟨rfl, b4⟩
  have z4 := b4.size
  have B4 := Ke.b B3 b4
  have r_a4 := Ke.r r_a3 b4
  have r_res4 := Ke.r r_res3 b4
  have r_new4 := Ke.r r_new3 b4
  have c_a4 := Ke.c r_a4
  clear r_a3 r_res3 r_new3
  go_wp2_with fail
  refine (q2 W4 _ (HS.out.later B4.out)).mono ?_
  rintro e W5 ⟨v_s, rfl, o_s5, b5⟩
  obtain ⟨ao_s, L_s, cap_s, rfl, hL_s, hM_s⟩ := o_s5.form
  have o_s5 : Hid (Own W5 W4.heap.size W5.heap.size 9 (.slice ao_s L_s cap_s) (ss l)) := o_s5
  clear hL_s hM_s
  have z5 := b5.size
  have B5 := Ke.b B4 b5
  have r_res5 := Ke.r r_res4 b5
  clear r_a4 c_a4 r_res4 r_new4
  go_wp2_with (refine wpList_store_row rfl 28 _ _ rfl (w.heap.size + 1 + 1) (lc (.slice ao_s L_s cap_s) hd) rfl rfl 28 _ r_res5.out (sizeL _ _) rfl (oneL _ rfl) ?_)
  refine bodyPost_ret (res_row_tmp rfl _ _ (w.heap.size + 1 + 1) 28 (lc (.slice ao_s L_s cap_s) hd) (0, 0) _ rfl (setRow_heap _ _ _ _ _ (0, 0) r_res5.out) Tryz.underlying28 rfl (sizeL _ _)) rfl ⟨.slice ao_s L_s cap_s, by rw [HN.out]; rfl, ?_, below_setRow B5.out (by omega) _⟩
  rw [HN.out]
  exact (Own.setRow o_s5.out _ (by omega)).mono (by omega) (by rw [size_setRow]; omega)
 ·
  have HN : Hid (R = (l ++ x, h, 0)) := hR
  clear hR
  obtain ⟨ao_n, L_n, cap_n, rfl, hL_n, hM_n⟩ := o_n2.form
  have o_n2 : Hid (Own W2 W1.heap.size W2.heap.size 9 (.slice ao_n L_n cap_n) (ss (l ++ x))) := o_n2
  clear hL_n hM_n
  obtain ⟨W3, HW3, b3, y3, hS3, r_new3⟩ := Ke.l1 W2 #[.slice ao_n L_n cap_n, .int .i64 h.n, .string h.r] 28
  have z3 := b3.size
  have B3 := Ke.b B2 b3
  have r_a3 := Ke.r r_a2 b3
  have r_res3 := Ke.r r_res2 b3
  have o_n3 := Ke.o o_n2 b3
  clear r_a2 r_res2 o_n2
  go_wp2_with fail
  rw [HW3.out]
  refine (Is.code0 W3 (HF.out.later B3.out)).mono ?_
  rintro e W4 ⟨rfl, b4⟩
  have z4 := b4.size
  have B4 := Ke.b B3 b4
  have r_a4 := Ke.r r_a3 b4
  have r_res4 := Ke.r r_res3 b4
  have r_new4 := Ke.r r_new3 b4
  have o_n4 := Ke.o o_n3 b4
  have c_a4 := Ke.c r_a4
  clear r_a3 r_res3 r_new3 o_n3
  go_wp2_with (first | (refine wpList_load_row rfl 28 _ rfl (W2.heap.size) rfl 28 (lc (.slice ao_n L_n cap_n) h) (0, 0) _ r_new4.out Tryz.underlying28 rfl (sizeL _ _) ?_) | (refine wpList_store_row rfl 28 _ _ rfl (w.heap.size + 1 + 1) (lc (.slice ao_n L_n cap_n) h) rfl rfl 28 _ r_res4.out (sizeL _ _) rfl (oneL _ rfl) ?_))
  refine bodyPost_ret (res_row_tmp rfl _ _ (w.heap.size + 1 + 1) 28 (lc (.slice ao_n L_n cap_n) h) (0, 0) _ rfl (setRow_heap _ _ _ _ _ (0, 0) r_res4.out) Tryz.underlying28 rfl (sizeL _ _)) rfl ⟨.slice ao_n L_n cap_n, by rw [HN.out]; rfl, ?_, below_setRow B4.out (by omega) _⟩
  rw [HN.out]
  exact (Own.setRow o_n4.out _ (by omega)).mono (by omega) (by rw [size_setRow]; omega)
end Go.Proofs.YtchonoonclllbaaGreatDoor.Lg
namespace Go.Proofs.YtchonoonclllbaaGreatDoor.Sr
open Go.RowKit Go.Proofs.YtchonoonclllbaaGreatDoor.Mem Go.Proofs.YtchonoonclllbaaGreatDoor.Laws Go.Proofs.YtchonoonclllbaaGreatDoor.Bytes Go.Proofs.YtchonoonclllbaaGreatDoor.Sha Go.Proofs.YtchonoonclllbaaGreatDoor.Tr Go.Proofs.YtchonoonclllbaaGreatDoor.He Go.Proofs.YtchonoonclllbaaGreatDoor.Lg
set_option linter.unusedVariables false
set_option linter.unusedSimpArgs false
set_option maxRecDepth 1000000 in
set_option maxHeartbeats 8000000 in
theorem withc_impl (w : World) (v vb vt vx : Value) (st : Sto) (t : List Hd) (hd : Hd) (x : List ByteArray) {a0 a1 a2 a3 : Addr} (hG : Glob w) (hF : Is.Four w a0 a1 a2 a3) (hs : Sl w v (ss st.l)) (hb : Sl w vb (bs st.b)) (hst : Sh w vt t) (hsx : Sl w vx (ss x)) (hl : st.l.length ≤ 1000000000) (hbl : st.b.length ≤ 1000000000) (htl : t.length ≤ 1000000000) (hxl : x.length ≤ 1000000000)
  (hz : ∀ s ∈ st.l, s.size ≤ 10000000000) (hzx : ∀ s ∈ x, s.size ≤ 10000000000) (htx : Puts.tot x ≤ 100000000000) (hdr : hd.r.size ≤ 100000000000) (hhr : st.h.r.size ≤ 1000000000000) :
  Calls Tryz.prog 59 #[.agg #[v, .int .i64 st.h.n, .string st.h.r, vb, .int .i64 st.s], vt, .agg #[.int .i64 hd.n, .string hd.r], vx] w fun e w' => ∃ v' vb', e = .returned (.tuple #[.agg #[v', .int .i64 (commitQ st t hd x).1.h.n, .string (commitQ st t hd x).1.h.r, vb', .int .i64 (commitQ st t hd x).1.s], .int .i64 (commitQ st t hd x).2]) ∧ Own w' w.heap.size w'.heap.size 9 v' (ss (commitQ st t hd x).1.l) ∧ Own w' w.heap.size w'.heap.size 5 vb' (bs (commitQ st t hd x).1.b) ∧ Below w.heap.size w w' := by
 obtain ⟨R, hR⟩ : ∃ R, commitQ st t hd x = R := ⟨_, rfl⟩
 have HR : Hid (commitQ st t hd x = R) := hR
 rw [hR]
 have HG : Hid (Glob w) := hG
 have HF : Hid (Is.Four w a0 a1 a2 a3) := hF
 obtain ⟨l, h, b, s⟩ := st
 simp only at *
 have HS : Hid (Sl w v (ss l)) := hs
 have HSB : Hid (Sl w vb (bs b)) := hb
 have HT : Hid (Sh w vt t) := hst
 have HX : Hid (Sl w vx (ss x)) := hsx
 obtain ⟨ao0, cap0, rfl, hc0⟩ := hs.form
 obtain ⟨ao1, cap1, rfl, hc1⟩ := hb.form
 obtain ⟨ao2, cap2, rfl, hc2⟩ := hst.form
 obtain ⟨ao3, cap3, rfl, hc3⟩ := hsx.form
 simp only [ss_len, bs_len] at *
 clear hs hb hst hsx hR hG hF
 have B0 : Hid (Below w.heap.size w w) := Below.refl _ _
 obtain ⟨W1, HW1, b1, y1, hS1, r_a1, r_h1, r_res1⟩ := Ke.l3 w #[.slice ao0 l.length cap0, .int .i64 h.n, .string h.r, .slice ao1 b.length cap1, .int .i64 s] 30 #[.int .i64 hd.n, .string hd.r] 26 #[.slice none 0 0, .int .i64 0, .string ⟨#[]⟩, .slice none 0 0, .int .i64 0] 30
 have z1 := b1.size
 have B1 := Ke.b B0 b1
 have c_a1 := Ke.c r_a1
 have c_h1 := Ke.c r_h1
 have q1 : ∀ W v1 v2, Sl W v1 (ss l) → Sl W v2 (bs b) → _ := fun W v1 v2 h1 h2 => ownstore_impl W v1 v2 ⟨l, h, b, s⟩ h1 h2 hl hbl (fun s hs => Nat.le_trans (hz s hs) (by omega)) hhr
 have q2 : ∀ W v1 v2 v3, Glob W → Is.Four W a0 a1 a2 a3 → Sl W v1 (ss l) → Sh W v2 t → Sl W v3 (ss x) → _ := fun W v1 v2 v3 g0 g1 h1 h2 h3 => extend_impl W v1 v2 v3 l x h hd t g0 g1 h1 h2 h3 hl htl hxl hz hzx hhr (by omega)
 have q3 : ∀ W v1, Glob W → Sl W v1 (ss x) → _ := fun W v1 g0 h1 => putc_impl W hd v1 x g0 h1 hxl htx hdr
 obtain ⟨E, hE⟩ : ∃ E, extend l h t hd x = E := ⟨_, rfl⟩
 simp only [hE] at q2
 have HE : Hid (extend l h t hd x = E) := hE
 obtain ⟨L, H, C⟩ := E
 simp only at q1 q2
 obtain ⟨Pb, hPb⟩ : ∃ P, putC hd x = P := ⟨_, rfl⟩
 have hPl : Pb.length ≤ 500000000000 := by rw [← hPb]; have h9 := put_len hd x; have h8 := body_len hd x; unfold putC; split; omega; simp
 simp only [hPb] at q3
 have HP : Hid (putC hd x = Pb) := hPb
 clear hPb hE hz hzx htx hdr
 have HH : Hid (b.length + Pb.length ≤ 60000 → C = 0 → R = (⟨L, H, b ++ Pb, s⟩, 0)) := by
  intro h6 hC
  obtain ⟨_, h2, _, h4, h5, _, h7⟩ := extend_good (l := l) (x := x) (hd := h) (h := hd) (t := t) (by rw [HE.out]; exact hC)
  rw [List.length_append] at h5
  have h8 : putC hd x = put hd x := putC_yes h2 h4 (by omega)
  rw [← HR.out]
  unfold commitQ commit1
  simp only
  rw [HE.out, HP.out, if_pos h6, if_pos hC, ← h8, HP.out]
 have HJ : Hid (b.length + Pb.length ≤ 60000 → ¬ C = 0 → R = (⟨l, h, b, s⟩, C)) := by
  intro h6 hC
  rw [← HR.out]
  unfold commitQ commit1
  simp only
  rw [HE.out, HP.out, if_pos h6, if_neg hC]
 have HI : Hid (¬ b.length + Pb.length ≤ 60000 → R = (⟨l, h, b, s⟩, 1)) := by
  intro h6
  rw [← HR.out]
  unfold commitQ
  simp only
  rw [HP.out, if_neg h6]
 go_enter Tryz.func59, Tryz.ntmps59
 go_wp2_with fail
 rw [HW1.out]
 refine wp_region_held_drew (S := fun w' => w'.cell? ⟨w.heap.size, 0, none⟩ = some (.slice ao0 l.length cap0) ∧ w'.cell? ⟨w.heap.size, 1, none⟩ = some (.int .i64 h.n) ∧ w'.cell? ⟨w.heap.size, 2, none⟩ = some (.string h.r) ∧ w'.cell? ⟨w.heap.size, 3, none⟩ = some (.slice ao1 b.length cap1) ∧ w'.cell? ⟨w.heap.size, 4, none⟩ = some (.int .i64 s) ∧ w'.cell? ⟨w.heap.size + 1, 0, none⟩ = some (.int .i64 hd.n) ∧ w'.cell? ⟨w.heap.size + 1, 1, none⟩ = some (.string hd.r)) (by kernel_rfl) ⟨(c_a1 0), (c_a1 1), (c_a1 2), (c_a1 3), (c_a1 4), (c_h1 0), (c_h1 1)⟩ (fun hHeld => ?_)
 refine Ke.y 0 rfl (fun _ _ _ h => h) ?_
 try simp only [Act.put, pu1, pu2, pu3, pu4, pu5, pu6]
 refine Ke.y 1 rfl (fun _ _ _ h => h) ?_
 try simp only [Act.put, pu1, pu2, pu3, pu4, pu5, pu6]
 refine Ke.y 2 rfl (fun _ _ _ h => h) ?_
 try simp only [Act.put, pu1, pu2, pu3, pu4, pu5, pu6]
 refine Ke.y 3 rfl (fun _ _ _ h => h) ?_
 try simp only [Act.put, pu1, pu2, pu3, pu4, pu5, pu6]
 refine Ke.z 4 rfl (fun K hK => ?_)
 go_simp
 refine (q3 W1.drew _ (HG.out.later (Below.drew B1.out)) (Sl.later (w := W1) (HX.out.later B1.out) (Below.drew (Below.refl _ _)))).mono ?_
 rintro e W2 ⟨v_u, rfl, o_u2, b2⟩
 have b2 : Below W1.heap.size W1 W2 := (Below.drew (Below.refl _ _)).trans b2
 refine hK.out _ _ ⟨(keepR (W := W1) hHeld.1 b2), (keepR (W := W1) hHeld.2.1 b2), (keepR (W := W1) hHeld.2.2.1 b2), (keepR (W := W1) hHeld.2.2.2.1 b2), (keepR (W := W1) hHeld.2.2.2.2.1 b2), (keepR (W := W1) hHeld.2.2.2.2.2.1 b2), (keepR (W := W1) hHeld.2.2.2.2.2.2 b2)⟩ (fun hHeld => ?_)
 clear hK K
 try simp only [Act.put, pu1, pu2, pu3, pu4, pu5, pu6]
 have o_u2 : Own W2 W1.heap.size W2.heap.size 5 _ _ := o_u2
 obtain ⟨ao_u, L_u, cap_u, rfl, hL_u, hM_u⟩ := o_u2.form
 have o_u2 : Hid (Own W2 W1.heap.size W2.heap.size 5 (.slice ao_u L_u cap_u) (bs Pb)) := o_u2
 clear hL_u hM_u
 have z2 := b2.size
 have B2 := Ke.b B1 b2
 have r_a2 := Ke.r r_a1 b2
 have r_h2 := Ke.r r_h1 b2
 have r_res2 := Ke.r r_res1 b2
 clear r_a1 c_a1 r_h1 c_h1 r_res1
 refine Ke.z 5 rfl (fun K hK => ?_)
 go_simp
 refine hK.out _ _ ⟨(keepR (W := W2) hHeld.1 ((Below.refl _ _).alloc (Nat.le_refl _) _)), (keepR (W := W2) hHeld.2.1 ((Below.refl _ _).alloc (Nat.le_refl _) _)), (keepR (W := W2) hHeld.2.2.1 ((Below.refl _ _).alloc (Nat.le_refl _) _)), (keepR (W := W2) hHeld.2.2.2.1 ((Below.refl _ _).alloc (Nat.le_refl _) _)), (keepR (W := W2) hHeld.2.2.2.2.1 ((Below.refl _ _).alloc (Nat.le_refl _) _)), (keepR (W := W2) hHeld.2.2.2.2.2.1 ((Below.refl _ _).alloc (Nat.le_refl _) _)), (keepR (W := W2) hHeld.2.2.2.2.2.2 ((Below.refl _ _).alloc (Nat.le_refl _) _))⟩ (fun hHeld => ?_)
 clear hK K
 try simp only [Act.put, pu1, pu2, pu3, pu4, pu5, pu6]
 obtain ⟨W3, HW3, b3, ff3⟩ : ∃ X, Hid ((W2.alloc (.cells #[.slice ao1 b.length cap1, .slice ao_u L_u cap_u] 22)) = X) ∧ Below W2.heap.size W2 X ∧ Hid (Sl X (.slice (some ⟨W2.heap.size, 0, none⟩) 2 2) [.slice ao1 b.length cap1, .slice ao_u L_u cap_u]) := ⟨_, rfl, ((Below.refl _ _).alloc (Nat.le_refl _) _), slAlloc W2 [.slice ao1 b.length cap1, .slice ao_u L_u cap_u] 22⟩
 have HHW3 := HW3.out
 rw [HHW3] at hHeld ⊢
 clear HHW3
 have z3 := b3.size
 have B3 := Ke.b B2 b3
 have r_a3 := Ke.r r_a2 b3
 have r_h3 := Ke.r r_h2 b3
 have r_res3 := Ke.r r_res2 b3
 have o_u3 := Ke.o o_u2 b3
 clear r_a2 r_h2 r_res2 o_u2
 have f_ps3 : Hid (Sl W3 (.slice (some ⟨W2.heap.size, 0, none⟩) 2 2) [.slice ao1 b.length cap1, .slice ao_u L_u cap_u]) := ff3.out
 clear ff3
 have qj := joined_impl W3 _ _ [b, Pb] f_ps3.out rfl (part2 (HSB.out.later B3.out) o_u3.out.sl) (by simp) (by simp; omega)
 have e9 : [b, Pb].flatten = b ++ Pb := by simp
 rw [e9] at qj
 clear e9
 refine Ke.z 6 rfl (fun K hK => ?_)
 go_simp
 refine (qj).mono ?_
 rintro e W4 ⟨v_z, rfl, o_z4, b4⟩
 refine hK.out _ _ ⟨(keepR (W := W3) hHeld.1 b4), (keepR (W := W3) hHeld.2.1 b4), (keepR (W := W3) hHeld.2.2.1 b4), (keepR (W := W3) hHeld.2.2.2.1 b4), (keepR (W := W3) hHeld.2.2.2.2.1 b4), (keepR (W := W3) hHeld.2.2.2.2.2.1 b4), (keepR (W := W3) hHeld.2.2.2.2.2.2 b4)⟩ (fun hHeld => ?_)
 clear hK K
 try simp only [Act.put, pu1, pu2, pu3, pu4, pu5, pu6]
 obtain ⟨ao_z, L_z, cap_z, rfl, hL_z, hM_z⟩ := o_z4.form
 have o_z4 : Hid (Own W4 W3.heap.size W4.heap.size 5 (.slice ao_z L_z cap_z) (bs (b ++ Pb))) := o_z4
 clear hL_z hM_z
 have z4 := b4.size
 have B4 := Ke.b B3 b4
 have r_a4 := Ke.r r_a3 b4
 have r_h4 := Ke.r r_h3 b4
 have r_res4 := Ke.r r_res3 b4
 have c_a4 := Ke.c r_a4
 have c_h4 := Ke.c r_h4
 clear r_a3 r_h3 r_res3 o_u3
 clear f_ps3
 refine Ke.y 7 rfl (fun _ _ _ h => h) ?_
 try simp only [Act.put, pu1, pu2, pu3, pu4, pu5, pu6]
 refine wpAnyH_done (by kernel_rfl) ?_ _
 clear hHeld
 have hLz : L_z ≤ b.length + Pb.length ∧ b.length + Pb.length ≤ L_z := by obtain ⟨a9, L9, c9, he, h1, h2⟩ := Mem.Own.form o_z4.out; injection he with _ he2 _; rw [bs_len, List.length_append] at h1 h2; omega
 skip
 by_cases h6 : (60000 : Int) < (L_z : Int)
 ·
  have HN : Hid (R = (⟨l, h, b, s⟩, 1)) := HI.out (by omega)
  clear o_z4
  go_wp2_with fail
  refine (q1 W4 _ _ (HS.out.later B4.out) (HSB.out.later B4.out)).mono ?_
  rintro e W5 ⟨v_s, v_p, rfl, o_s5, o_p5, b5⟩
  obtain ⟨lo_s, hi_s, lo_p, hi_p, d1_s, d2_s, d3_s, d4_s, d5_s, d6_s, d7_s, oo_s, oo_p⟩ := Sr.pairN o_s5 o_p5 b5.size
  clear o_s5 o_p5
  obtain ⟨ao_s, L_s, cap_s, rfl, _, _⟩ := oo_s.form
  obtain ⟨ao_p, L_p, cap_p, rfl, _, _⟩ := oo_p.form
  have o_s5 : Hid (Own W5 lo_s hi_s 9 (.slice ao_s L_s cap_s) (ss l)) := oo_s
  have o_p5 : Hid (Own W5 lo_p hi_p 5 (.slice ao_p L_p cap_p) (bs b)) := oo_p
  clear oo_s oo_p
  have z5 := b5.size
  have B5 := Ke.b B4 b5
  have r_a5 := Ke.r r_a4 b5
  have r_res5 := Ke.r r_res4 b5
  have c_a5 := Ke.c r_a5
  clear r_a4 c_a4 r_h4 c_h4 r_res4
  go_wp2_with (refine wpList_store_row rfl 30 _ _ rfl (w.heap.size + 1 + 1) (sc (.slice ao_s L_s cap_s) h (.slice ao_p L_p cap_p) s) rfl rfl 30 _ r_res5.out (sizeS _ _ _ _) rfl (oneS _ _ rfl rfl) ?_)
  refine bodyPost_ret (res_row_tmp rfl _ _ (w.heap.size + 1 + 1) 30 (sc (.slice ao_s L_s cap_s) h (.slice ao_p L_p cap_p) s) (0, 0) _ rfl (setRow_heap _ _ _ _ _ (0, 0) r_res5.out) Tryz.underlying30 rfl (sizeS _ _ _ _)) rfl ⟨.slice ao_s L_s cap_s, .slice ao_p L_p cap_p, by rw [HN.out]; rfl, ?_, ?_, below_setRow B5.out (by omega) _⟩
  ·
   rw [HN.out]
   exact (Own.setRow o_s5.out _ (by omega)).mono (by omega) (by rw [size_setRow]; omega)
  ·
   rw [HN.out]
   exact (Own.setRow o_p5.out _ (by omega)).mono (by omega) (by rw [size_setRow]; omega)
 ·
  have h7 : b.length + Pb.length ≤ 60000 := by omega
  go_wp2_with fail
  refine (q2 W4 _ _ _ (HG.out.later B4.out) (HF.out.later B4.out) (HS.out.later B4.out) (HT.out.later B4.out) (HX.out.later B4.out)).mono ?_
  rintro e W5 ⟨v_n, rfl, o_n5, b5⟩
  obtain ⟨ao_n, L_n, cap_n, rfl, hL_n, hM_n⟩ := o_n5.form
  have o_n5 : Hid (Own W5 W4.heap.size W5.heap.size 9 (.slice ao_n L_n cap_n) (ss L)) := o_n5
  clear hL_n hM_n
  have z5 := b5.size
  have B5 := Ke.b B4 b5
  have r_a5 := Ke.r r_a4 b5
  have r_res5 := Ke.r r_res4 b5
  have o_z5 := Ke.o o_z4 b5
  have c_a5 := Ke.c r_a5
  clear r_a4 c_a4 r_h4 c_h4 r_res4 o_z4
  have a_a5 := Ke.a r_a5
  obtain ⟨W6, HW6, b6, y6, hS6, r_l6⟩ := Ke.l1 W5 #[.slice ao_n L_n cap_n, .int .i64 H.n, .string H.r] 28
  have z6 := b6.size
  have B6 := Ke.b B5 b6
  have r_res6 := Ke.r r_res5 b6
  have o_z6 := Ke.o o_z5 b6
  have o_n6 := Ke.o o_n5 b6
  clear r_a5 c_a5 r_res5 o_z5 o_n5
  by_cases hC : C = 0
  ·
   have HN : Hid (R = (⟨L, H, b ++ Pb, s⟩, 0)) := HH.out h7 hC
   subst hC
   go_wp2_with ((try rw [HW6.out]); refine wpList_store_row rfl 30 _ _ rfl (w.heap.size + 1 + 1) (sc (.slice ao_n L_n cap_n) H (.slice ao_z L_z cap_z) s) rfl rfl 30 _ r_res6.out (sizeS _ _ _ _) rfl (oneS _ _ rfl rfl) ?_)
   refine bodyPost_ret (res_row_tmp rfl _ _ (w.heap.size + 1 + 1) 30 (sc (.slice ao_n L_n cap_n) H (.slice ao_z L_z cap_z) s) (0, 0) _ rfl (setRow_heap _ _ _ _ _ (0, 0) r_res6.out) Tryz.underlying30 rfl (sizeS _ _ _ _)) rfl ⟨.slice ao_n L_n cap_n, .slice ao_z L_z cap_z, by rw [HN.out]; rfl, ?_, ?_, below_setRow B6.out (by omega) _⟩
   ·
    rw [HN.out]
    exact (Own.setRow o_n6.out _ (by omega)).mono (by omega) (by rw [size_setRow]; omega)
   ·
    rw [HN.out]
    exact (Own.setRow o_z6.out _ (by omega)).mono (by omega) (by rw [size_setRow]; omega)
  ·
   have cn : (C == 0) = false := by rw [beq_eq_false_iff_ne]; exact hC
   have cm : (C != 0) = true := by rw [bne, cn]; rfl
   have HN : Hid (R = (⟨l, h, b, s⟩, C)) := HJ.out h7 hC
   go_wp2_with fail
   rw [HW6.out]
   clear a_a5
   refine (q1 W6 _ _ (HS.out.later B6.out) (HSB.out.later B6.out)).mono ?_
   rintro e W7 ⟨v_s, v_p, rfl, o_s7, o_p7, b7⟩
   obtain ⟨lo_s, hi_s, lo_p, hi_p, d1_s, d2_s, d3_s, d4_s, d5_s, d6_s, d7_s, oo_s, oo_p⟩ := Sr.pairN o_s7 o_p7 b7.size
   clear o_s7 o_p7
   obtain ⟨ao_s, L_s, cap_s, rfl, _, _⟩ := oo_s.form
   obtain ⟨ao_p, L_p, cap_p, rfl, _, _⟩ := oo_p.form
   have o_s7 : Hid (Own W7 lo_s hi_s 9 (.slice ao_s L_s cap_s) (ss l)) := oo_s
   have o_p7 : Hid (Own W7 lo_p hi_p 5 (.slice ao_p L_p cap_p) (bs b)) := oo_p
   clear oo_s oo_p
   have z7 := b7.size
   have B7 := Ke.b B6 b7
   have r_res7 := Ke.r r_res6 b7
   clear r_res6 r_l6 o_z6 o_n6
   go_wp2_with (refine wpList_store_row rfl 30 _ _ rfl (w.heap.size + 1 + 1) (sc (.slice ao_s L_s cap_s) h (.slice ao_p L_p cap_p) s) rfl rfl 30 _ r_res7.out (sizeS _ _ _ _) rfl (oneS _ _ rfl rfl) ?_)
   refine bodyPost_ret (res_row_tmp rfl _ _ (w.heap.size + 1 + 1) 30 (sc (.slice ao_s L_s cap_s) h (.slice ao_p L_p cap_p) s) (0, 0) _ rfl (setRow_heap _ _ _ _ _ (0, 0) r_res7.out) Tryz.underlying30 rfl (sizeS _ _ _ _)) rfl ⟨.slice ao_s L_s cap_s, .slice ao_p L_p cap_p, by rw [HN.out]; rfl, ?_, ?_, below_setRow B7.out (by omega) _⟩
   ·
    rw [HN.out]
    exact (Own.setRow o_s7.out _ (by omega)).mono (by omega) (by rw [size_setRow]; omega)
   ·
    rw [HN.out]
    exact (Own.setRow o_p7.out _ (by omega)).mono (by omega) (by rw [size_setRow]; omega)
set_option maxRecDepth 1000000 in
set_option maxHeartbeats 8000000 in
theorem commit_impl (w : World) (v vb vt vx : Value) (st : Sto) (t : List Hd) (hd : Hd) (x : List ByteArray) {a0 a1 a2 a3 : Addr} (hG : Glob w) (hN : NoC w) (hF : Is.Four w a0 a1 a2 a3) (hs : Sl w v (ss st.l)) (hb : Sl w vb (bs st.b)) (hby : Byt st.b) (hst : Sh w vt t) (hsx : Sl w vx (ss x)) (hl : st.l.length ≤ 1000000000) (hbl : st.b.length ≤ 1000000000) (htl : t.length ≤ 1000000000) (hxl : x.length ≤ 1000000000)
  (hz : ∀ s ∈ st.l, s.size ≤ 10000000000) (hzx : ∀ s ∈ x, s.size ≤ 10000000000) (htx : Puts.tot x ≤ 100000000000) (hdr : hd.r.size ≤ 100000000000) (hhr : st.h.r.size ≤ 1000000000000) :
  Calls Tryz.prog 18 #[.agg #[v, .int .i64 st.h.n, .string st.h.r, vb, .int .i64 st.s], vt, .agg #[.int .i64 hd.n, .string hd.r], vx] w fun e w' => ∃ v' vb', e = .returned (.tuple #[.agg #[v', .int .i64 (commitP st t hd x).1.h.n, .string (commitP st t hd x).1.h.r, vb', .int .i64 (commitP st t hd x).1.s], .int .i64 (commitP st t hd x).2]) ∧ Own w' w.heap.size w'.heap.size 9 v' (ss (commitP st t hd x).1.l) ∧ Own w' w.heap.size w'.heap.size 5 vb' (bs (commitP st t hd x).1.b) ∧ Below w.heap.size w w' := by
 obtain ⟨R, hR⟩ : ∃ R, commitP st t hd x = R := ⟨_, rfl⟩
 have HR : Hid (commitP st t hd x = R) := hR
 rw [hR]
 have HG : Hid (Glob w) := hG
 have HF : Hid (Is.Four w a0 a1 a2 a3) := hF
 have HNC : Hid (NoC w) := hN
 obtain ⟨l, h, b, s⟩ := st
 simp only at *
 have HS : Hid (Sl w v (ss l)) := hs
 have HSB : Hid (Sl w vb (bs b)) := hb
 have HBY : Hid (Byt b) := hby
 have HT : Hid (Sh w vt t) := hst
 have HX : Hid (Sl w vx (ss x)) := hsx
 obtain ⟨ao0, cap0, rfl, hc0⟩ := hs.form
 obtain ⟨ao1, cap1, rfl, hc1⟩ := hb.form
 obtain ⟨ao2, cap2, rfl, hc2⟩ := hst.form
 obtain ⟨ao3, cap3, rfl, hc3⟩ := hsx.form
 simp only [ss_len, bs_len] at *
 clear hs hb hst hsx hR hG hF hby hN
 have B0 : Hid (Below w.heap.size w w) := Below.refl _ _
 obtain ⟨W1, HW1, b1, y1, hS1, r_a1, r_h1, r_res1⟩ := Ke.l3 w #[.slice ao0 l.length cap0, .int .i64 h.n, .string h.r, .slice ao1 b.length cap1, .int .i64 s] 30 #[.int .i64 hd.n, .string hd.r] 26 #[.slice none 0 0, .int .i64 0, .string ⟨#[]⟩, .slice none 0 0, .int .i64 0] 30
 have z1 := b1.size
 have B1 := Ke.b B0 b1
 have q0 : ∀ W v1 v2, Glob W → NoC W → Sl W v1 (ss l) → Sl W v2 (bs b) → _ := fun W v1 v2 g0 g1 h1 h2 => storeok_impl W v1 v2 ⟨l, h, b, s⟩ g0 g1 h1 h2 HBY.out hl hbl hz
 have q1 : ∀ W v1 v2, Sl W v1 (ss l) → Sl W v2 (bs b) → _ := fun W v1 v2 h1 h2 => ownstore_impl W v1 v2 ⟨l, h, b, s⟩ h1 h2 hl hbl (fun s hs => Nat.le_trans (hz s hs) (by omega)) hhr
 have q2 : ∀ W v1 v2 v3 v4, Glob W → Is.Four W a0 a1 a2 a3 → Sl W v1 (ss l) → Sl W v2 (bs b) → Sh W v3 t → Sl W v4 (ss x) → _ := fun W v1 v2 v3 v4 g0 g1 h1 h2 h3 h4 => withc_impl W v1 v2 v3 v4 ⟨l, h, b, s⟩ t hd x g0 g1 h1 h2 h3 h4 hl hbl htl hxl hz hzx htx hdr hhr
 obtain ⟨A, hA⟩ : ∃ A, storeOk ⟨l, h, b, s⟩ = A := ⟨_, rfl⟩
 simp only [hA] at q0
 have HA : Hid (storeOk ⟨l, h, b, s⟩ = A) := hA
 obtain ⟨E, hE⟩ : ∃ E, commitQ ⟨l, h, b, s⟩ t hd x = E := ⟨_, rfl⟩
 simp only [hE] at q2
 have HE : Hid (commitQ ⟨l, h, b, s⟩ t hd x = E) := hE
 obtain ⟨⟨L, H, B, S⟩, C⟩ := E
 simp only at q0 q1 q2
 clear hE hA hz hzx htx hdr
 go_enter Tryz.func18, Tryz.ntmps18
 go_wp2_with fail
 rw [HW1.out]
 refine (q0 W1 _ _ (HG.out.later B1.out) (HNC.out.later B1.out) (HS.out.later B1.out) (HSB.out.later B1.out)).mono ?_
 rintro e W2 ⟨rfl, b2⟩
 have z2 := b2.size
 have B2 := Ke.b B1 b2
 have r_a2 := Ke.r r_a1 b2
 have r_h2 := Ke.r r_h1 b2
 have r_res2 := Ke.r r_res1 b2
 have c_a2 := Ke.c r_a2
 have c_h2 := Ke.c r_h2
 clear r_a1 r_h1 r_res1
 cases A
 ·
  have HN : Hid (R = (⟨l, h, b, s⟩, 1)) := by show _ = _; rw [← HR.out]; unfold commitP; rw [HA.out]; rfl
  go_wp2_with fail
  refine (q1 W2 _ _ (HS.out.later B2.out) (HSB.out.later B2.out)).mono ?_
  rintro e W3 ⟨v_s, v_p, rfl, o_s3, o_p3, b3⟩
  obtain ⟨lo_s, hi_s, lo_p, hi_p, d1_s, d2_s, d3_s, d4_s, d5_s, d6_s, d7_s, oo_s, oo_p⟩ := Sr.pairN o_s3 o_p3 b3.size
  clear o_s3 o_p3
  obtain ⟨ao_s, L_s, cap_s, rfl, _, _⟩ := oo_s.form
  obtain ⟨ao_p, L_p, cap_p, rfl, _, _⟩ := oo_p.form
  have o_s3 : Hid (Own W3 lo_s hi_s 9 (.slice ao_s L_s cap_s) (ss l)) := oo_s
  have o_p3 : Hid (Own W3 lo_p hi_p 5 (.slice ao_p L_p cap_p) (bs b)) := oo_p
  clear oo_s oo_p
  have z3 := b3.size
  have B3 := Ke.b B2 b3
  have r_res3 := Ke.r r_res2 b3
  clear r_a2 c_a2 r_h2 c_h2 r_res2
  go_wp2_with (refine wpList_store_row rfl 30 _ _ rfl (w.heap.size + 1 + 1) (sc (.slice ao_s L_s cap_s) h (.slice ao_p L_p cap_p) s) rfl rfl 30 _ r_res3.out (sizeS _ _ _ _) rfl (oneS _ _ rfl rfl) ?_)
  refine bodyPost_ret (res_row_tmp rfl _ _ (w.heap.size + 1 + 1) 30 (sc (.slice ao_s L_s cap_s) h (.slice ao_p L_p cap_p) s) (0, 0) _ rfl (setRow_heap _ _ _ _ _ (0, 0) r_res3.out) Tryz.underlying30 rfl (sizeS _ _ _ _)) rfl ⟨.slice ao_s L_s cap_s, .slice ao_p L_p cap_p, by rw [HN.out]; rfl, ?_, ?_, below_setRow B3.out (by omega) _⟩
  ·
   rw [HN.out]
   exact (Own.setRow o_s3.out _ (by omega)).mono (by omega) (by rw [size_setRow]; omega)
  ·
   rw [HN.out]
   exact (Own.setRow o_p3.out _ (by omega)).mono (by omega) (by rw [size_setRow]; omega)
 ·
  have HN : Hid (R = (⟨L, H, B, S⟩, C)) := by show _ = _; rw [← HR.out]; unfold commitP; rw [HA.out, if_pos rfl]; exact HE.out
  go_wp2_with fail
  refine (q2 W2 _ _ _ _ (HG.out.later B2.out) (HF.out.later B2.out) (HS.out.later B2.out) (HSB.out.later B2.out) (HT.out.later B2.out) (HX.out.later B2.out)).mono ?_
  rintro e W3 ⟨v_s, v_p, rfl, o_s3, o_p3, b3⟩
  obtain ⟨lo_s, hi_s, lo_p, hi_p, d1_s, d2_s, d3_s, d4_s, d5_s, d6_s, d7_s, oo_s, oo_p⟩ := Sr.pairN o_s3 o_p3 b3.size
  clear o_s3 o_p3
  obtain ⟨ao_s, L_s, cap_s, rfl, _, _⟩ := oo_s.form
  obtain ⟨ao_p, L_p, cap_p, rfl, _, _⟩ := oo_p.form
  have o_s3 : Hid (Own W3 lo_s hi_s 9 (.slice ao_s L_s cap_s) (ss L)) := oo_s
  have o_p3 : Hid (Own W3 lo_p hi_p 5 (.slice ao_p L_p cap_p) (bs B)) := oo_p
  clear oo_s oo_p
  have z3 := b3.size
  have B3 := Ke.b B2 b3
  have r_res3 := Ke.r r_res2 b3
  clear r_a2 c_a2 r_h2 c_h2 r_res2
  go_wp2_with (refine wpList_store_row rfl 30 _ _ rfl (w.heap.size + 1 + 1) (sc (.slice ao_s L_s cap_s) H (.slice ao_p L_p cap_p) S) rfl rfl 30 _ r_res3.out (sizeS _ _ _ _) rfl (oneS _ _ rfl rfl) ?_)
  refine bodyPost_ret (res_row_tmp rfl _ _ (w.heap.size + 1 + 1) 30 (sc (.slice ao_s L_s cap_s) H (.slice ao_p L_p cap_p) S) (0, 0) _ rfl (setRow_heap _ _ _ _ _ (0, 0) r_res3.out) Tryz.underlying30 rfl (sizeS _ _ _ _)) rfl ⟨.slice ao_s L_s cap_s, .slice ao_p L_p cap_p, by rw [HN.out]; rfl, ?_, ?_, below_setRow B3.out (by omega) _⟩
  ·
   rw [HN.out]
   exact (Own.setRow o_s3.out _ (by omega)).mono (by omega) (by rw [size_setRow]; omega)
  ·
   rw [HN.out]
   exact (Own.setRow o_p3.out _ (by omega)).mono (by omega) (by rw [size_setRow]; omega)
end Go.Proofs.YtchonoonclllbaaGreatDoor.Sr
