/- Texts in one: ImpI, SeH, LatA, LatB, SeI. -/
import Derived.Test.YtlhmemnaiobgkaaPk25
import Derived.Test.YtlhmemnaiobgkaaPk6
import Derived.Test.YtlhmemnaiobgkaaPk18
import Derived.Test.YtlhmemnaiobgkaaPk13
/- Chapter 3, the landed code: which of two versions is less. -/
namespace Go.Proofs.Ytlhmemnaiobgkaa.Ver
open Go.RowKit Go.Proofs.Ytlhmemnaiobgkaa.Mem Go.Proofs.Ytlhmemnaiobgkaa.Laws Go.Proofs.Ytlhmemnaiobgkaa.Bytes Go.Proofs.Ytlhmemnaiobgkaa.Sha
set_option linter.unusedVariables false
set_option linter.unusedSimpArgs false

theorem orCall (W : World) (x1 x2 x3 x4 z : Int) (hz : orL [x1, x2, x3, x4] = z) : Calls Try.prog 44 #[.slice (some ⟨W.heap.size, 0, none⟩) 4 4] (W.alloc (.cells #[.int .i64 x1, .int .i64 x2, .int .i64 x3, .int .i64 x4] 3))
    fun e w' => e = .returned (.int .i64 z) ∧ w' = (W.alloc (.cells #[.int .i64 x1, .int .i64 x2, .int .i64 x3, .int .i64 x4] 3)) := by
  have hsl : Sl (W.alloc (.cells #[.int .i64 x1, .int .i64 x2, .int .i64 x3, .int .i64 x4] 3)) (.slice (some ⟨W.heap.size, 0, none⟩) 4 4) (is64 [x1, x2, x3, x4]) := by
    refine ⟨some ⟨W.heap.size, 0, none⟩, 4, rfl, Nat.le_refl _, fun h => (by cases h), fun _ => ⟨W.heap.size, 0, rfl, fun j hj => ?_⟩⟩
    rw [Nat.zero_add, cell_of_row _ W.heap.size j #[.int .i64 x1, .int .i64 x2, .int .i64 x3, .int .i64 x4] 3 (0, 0) (heap_alloc_new W _)]
    simp [is64]
  refine (or_impl _ _ _ hsl (by simp)).mono ?_
  rintro e w' ⟨rfl, rfl⟩
  exact ⟨by rw [hz], rfl⟩

set_option maxRecDepth 1000000 in
set_option maxHeartbeats 2000000 in
theorem cver_impl (w : World) (a1 b1 c1 : Int) (p1 : ByteArray) (a2 b2 c2 : Int) (p2 : ByteArray) (h1 : p1.size ≤ 1000000000000) (h2 : p2.size ≤ 1000000000000) :
    Calls Try.prog 31 #[ver a1 b1 c1 p1, ver a2 b2 c2 p2] w fun e w' => e = .returned (.int .i64 (cmpV a1 b1 c1 p1 a2 b2 c2 p2)) ∧ Below w.heap.size w w' := by
  unfold ver
  obtain ⟨z, hz⟩ : ∃ z, cmpV a1 b1 c1 p1 a2 b2 c2 p2 = z := ⟨_, rfl⟩
  rw [hz]
  unfold cmpV at hz
  obtain ⟨x1, hx1⟩ : ∃ z, cmpI a1 a2 = z := ⟨_, rfl⟩
  obtain ⟨x2, hx2⟩ : ∃ z, cmpI b1 b2 = z := ⟨_, rfl⟩
  obtain ⟨x3, hx3⟩ : ∃ z, cmpI c1 c2 = z := ⟨_, rfl⟩
  obtain ⟨x4, hx4⟩ : ∃ z, cmpPre p1 p2 = z := ⟨_, rfl⟩
  have q1 := fun W => compare_int W a1 a2
  have q2 := fun W => compare_int W b1 b2
  have q3 := fun W => compare_int W c1 c2
  have q4 := fun W => cpre_impl W p1 p2 h1 h2
  rw [hx1] at hz q1
  rw [hx2] at hz q2
  rw [hx3] at hz q3
  rw [hx4] at hz q4
  have q5 := fun W => orCall W x1 x2 x3 x4 z hz
  have f0 : Vr ((w.alloc (.cells #[.int .i64 a1, .int .i64 b1, .int .i64 c1, .string p1] 29)).alloc (.cells #[.int .i64 a2, .int .i64 b2, .int .i64 c2, .string p2] 29)) w.heap.size a1 b1 c1 p1 := heap_alloc2_old w _ _
  have f1 : Vr ((w.alloc (.cells #[.int .i64 a1, .int .i64 b1, .int .i64 c1, .string p1] 29)).alloc (.cells #[.int .i64 a2, .int .i64 b2, .int .i64 c2, .string p2] 29)) (w.heap.size + 1) a2 b2 c2 p2 := heap_alloc2_new w _ _
  obtain ⟨y0, y1, y2, y3⟩ := Vr.cells f0
  obtain ⟨z0, z1, z2, z3⟩ := Vr.cells f1
  have HB : Hid (Below w.heap.size w ((w.alloc (.cells #[.int .i64 a1, .int .i64 b1, .int .i64 c1, .string p1] 29)).alloc (.cells #[.int .i64 a2, .int .i64 b2, .int .i64 c2, .string p2] 29))) := ((Below.refl _ _).alloc (Nat.le_refl _) _).alloc (by simp) _
  clear hx1 hx2 hx3 hx4 hz f0 f1
  go_enter Try.func31, Try.ntmps31
  go_wp2_with fail
  go_region_held3 (fun w' => w'.cell? ⟨w.heap.size, 0, none⟩ = some (.int .i64 a1) ∧ w'.cell? ⟨w.heap.size, 1, none⟩ = some (.int .i64 b1) ∧ w'.cell? ⟨w.heap.size, 2, none⟩ = some (.int .i64 c1) ∧ w'.cell? ⟨w.heap.size, 3, none⟩ = some (.string p1) ∧ w'.cell? ⟨w.heap.size + 1, 0, none⟩ = some (.int .i64 a2) ∧ w'.cell? ⟨w.heap.size + 1, 1, none⟩ = some (.int .i64 b2) ∧ w'.cell? ⟨w.heap.size + 1, 2, none⟩ = some (.int .i64 c2) ∧ w'.cell? ⟨w.heap.size + 1, 3, none⟩ = some (.string p2))
    (first | go_keep | (go_split_ands; refine ⟨keepCell ?_ bb5, keepCell ?_ bb5, keepCell ?_ bb5, keepCell ?_ bb5, keepCell ?_ bb5, keepCell ?_ bb5, keepCell ?_ bb5, keepCell ?_ bb5⟩ <;> assumption))
    (first | (go_at_call_of 45 a1; refine (q1 _).mono ?_; rintro e w' ⟨rfl, rfl⟩) | (go_at_call_of 45 b1; refine (q2 _).mono ?_; rintro e w' ⟨rfl, rfl⟩) | (go_at_call_of 45 c1; refine (q3 _).mono ?_; rintro e w' ⟨rfl, rfl⟩) | (go_at_call 46; refine (q4 _).mono ?_; rintro e5 w5 ⟨rfl, bb5⟩) | (go_at_call 44; refine (q5 _).mono ?_; rintro e6 w6 ⟨rfl, rfl⟩))
  have B1 := HB.out
  have B5 : Below w.heap.size w w5 := (Below.drew B1).trans (bb5.mono B1.size)
  have B6 := B5.alloc B5.size (.cells #[.int .i64 x1, .int .i64 x2, .int .i64 x3, .int .i64 x4] 3)
  clear y0 y1 y2 y3 z0 z1 z2 z3 q1 q2 q3 q4 q5 B1 B5 bb5
  go_wp2
  go_ret
  exact ⟨rfl, B6⟩

set_option maxRecDepth 1000000 in
set_option maxHeartbeats 1000000 in
theorem less_impl (w : World) (a1 b1 c1 : Int) (p1 : ByteArray) (a2 b2 c2 : Int) (p2 : ByteArray) (h1 : p1.size ≤ 1000000000000) (h2 : p2.size ≤ 1000000000000) :
    Calls Try.prog 18 #[ver a1 b1 c1 p1, ver a2 b2 c2 p2] w fun e w' => e = .returned (.bool (decide (cmpV a1 b1 c1 p1 a2 b2 c2 p2 < 0))) ∧ Below w.heap.size w w' := by
  have q := cver_impl ((w.alloc (.cells #[.int .i64 a1, .int .i64 b1, .int .i64 c1, .string p1] 29)).alloc (.cells #[.int .i64 a2, .int .i64 b2, .int .i64 c2, .string p2] 29)) a1 b1 c1 p1 a2 b2 c2 p2 h1 h2
  have HB : Hid (Below w.heap.size w ((w.alloc (.cells #[.int .i64 a1, .int .i64 b1, .int .i64 c1, .string p1] 29)).alloc (.cells #[.int .i64 a2, .int .i64 b2, .int .i64 c2, .string p2] 29))) := ((Below.refl _ _).alloc (Nat.le_refl _) _).alloc (by simp) _
  obtain ⟨z, hz⟩ : ∃ z, cmpV a1 b1 c1 p1 a2 b2 c2 p2 = z := ⟨_, rfl⟩
  rw [hz] at q ⊢
  clear hz
  unfold ver at q ⊢
  go_enter Try.func18, Try.ntmps18
  go_wp2_with (go_at_call 31; refine q.mono ?_; rintro e w5 ⟨rfl, b5⟩)
  go_ret
  exact ⟨rfl, HB.out.trans (b5.mono HB.out.size)⟩

end Go.Proofs.Ytlhmemnaiobgkaa.Ver

/- Chapter 16: of two versions that are right the landed code and the specification tell the same one less; plain facts. -/
namespace Go.Proofs.Ytlhmemnaiobgkaa.Se
open Go.RowKit Go.Proofs.Ytlhmemnaiobgkaa.Mem Go.Proofs.Ytlhmemnaiobgkaa.Laws Go.Proofs.Ytlhmemnaiobgkaa.Ver Go.Proofs.Ytlhmemnaiobgkaa.Ent Go.Proofs.Ytlhmemnaiobgkaa.Fe
set_option linter.unusedVariables false
set_option linter.unusedSimpArgs false

theorem numv_acc16 : ∀ (l : List Int) (n : Int), l.foldl (fun n c => n * 10 + (c - 48)) n = n * 10 ^ l.length + numv l := by
  intro l
  induction l with
  | nil => intro n; simp [numv]
  | cons c r ih =>
    intro n
    have e : numv (c :: r) = (0 * 10 + (c - 48)) * 10 ^ r.length + numv r := ih _
    rw [List.foldl_cons, ih, e, List.length_cons, Int.pow_succ, Int.add_mul, Int.zero_mul, Int.zero_add]
    have e1 : n * 10 * 10 ^ r.length = n * (10 ^ r.length * 10) := by rw [Int.mul_assoc, Int.mul_comm 10]
    rw [e1]
    omega
theorem numv_cons16 (c : Int) (r : List Int) : numv (c :: r) = (c - 48) * 10 ^ r.length + numv r := by
  have := numv_acc16 r (c - 48)
  unfold numv at this ⊢
  rw [List.foldl_cons]
  simpa using this
/-- digits of one length: the lesser number is the lesser text -/
theorem numv_lex16 : ∀ (a b : List UInt8), a.length = b.length → (a.map fun b => (b.toNat : Int)).all isd = true → (b.map fun b => (b.toNat : Int)).all isd = true →
    (numv (a.map fun b => (b.toNat : Int)) < numv (b.map fun b => (b.toNat : Int)) ↔ Op.bytesLess a b = true) := by
  intro a
  induction a with
  | nil => intro b hl _ _; cases b with
    | nil => simp [Op.bytesLess]
    | cons y b => cases hl
  | cons x a ih =>
    intro b hl ha hb
    cases b with
    | nil => cases hl
    | cons y b =>
      simp only [List.map_cons, List.all_cons, Bool.and_eq_true] at ha hb
      have hl' : a.length = b.length := by simpa using hl
      have ih' := ih b hl' ha.2 hb.2
      obtain ⟨a0, a1⟩ := numv_bd _ _ (Nat.le_refl _) ha.2
      obtain ⟨b0, b1⟩ := numv_bd _ _ (Nat.le_refl _) hb.2
      rw [List.map_cons, List.map_cons, numv_cons16, numv_cons16]
      simp only [List.length_map] at a1 b1 ⊢
      rw [← hl'] at b1 ⊢
      obtain ⟨p, hp⟩ : ∃ p : Int, p = 10 ^ a.length := ⟨_, rfl⟩
      rw [← hp] at a1 b1 ⊢
      simp only [Op.bytesLess, Bool.or_eq_true, Bool.and_eq_true, decide_eq_true_eq, beq_iff_eq]
      have hlt : x < y ↔ (x.toNat : Int) < y.toNat := by rw [UInt8.lt_iff_toNat_lt]; omega
      have heq : x = y ↔ (x.toNat : Int) = y.toNat := by rw [← UInt8.toNat_inj]; omega
      rw [hlt, heq, ← ih']
      obtain ⟨X, hX⟩ : ∃ X : Int, X = x.toNat := ⟨_, rfl⟩
      obtain ⟨Y, hY⟩ : ∃ Y : Int, Y = y.toNat := ⟨_, rfl⟩
      rw [← hX, ← hY]
      have hp0 : 0 ≤ p := by omega
      constructor
      · intro h
        rcases Int.lt_trichotomy X Y with h1 | h1 | h1
        · exact .inl h1
        · subst h1; exact .inr ⟨rfl, by omega⟩
        · exfalso
          have := Int.mul_le_mul_of_nonneg_right (show Y - 48 + 1 ≤ X - 48 by omega) hp0
          rw [Int.add_mul, Int.one_mul] at this
          omega
      · rintro (h1 | ⟨h1, h2⟩)
        · have := Int.mul_le_mul_of_nonneg_right (show X - 48 + 1 ≤ Y - 48 by omega) hp0
          rw [Int.add_mul, Int.one_mul] at this
          omega
        · subst h1; omega
theorem numv_big16 {c : Int} {r : List Int} (ha : (c :: r).all isd = true) (hc : c ≠ 48) : (10 : Int) ^ r.length ≤ numv (c :: r) := by
  simp only [List.all_cons, Bool.and_eq_true] at ha
  have h1 : 48 ≤ c ∧ c ≤ 57 := by simpa [isd] using ha.1
  obtain ⟨h0, _⟩ := numv_bd _ _ (Nat.le_refl _) ha.2
  rw [numv_cons16]
  have hp0 : (0 : Int) ≤ 10 ^ r.length := Int.pow_nonneg (by decide)
  have := Int.mul_le_mul_of_nonneg_right (show 1 ≤ c - 48 by omega) hp0
  rw [Int.one_mul] at this
  omega
theorem isNum_form16 {l : List Int} (h : isNum l = true) : l.all isd = true ∧ (l = [48] ∨ ∃ c r, l = c :: r ∧ c ≠ 48) := by
  unfold isNum at h
  simp only [Bool.and_eq_true, Bool.or_eq_true, decide_eq_true_eq] at h
  refine ⟨h.1, h.2.imp id fun h2 => ?_⟩
  cases l with
  | nil => simp at h2
  | cons c r => exact ⟨c, r, rfl, by simpa using h2.2⟩
/-- a longer number is greater -/
theorem numv_len16 {l m : List Int} (hl : l.all isd = true) (hm : isNum m = true) (h : l.length < m.length) (h0 : l ≠ []) : numv l < numv m := by
  obtain ⟨ha, hf⟩ := isNum_form16 hm
  obtain ⟨_, h1⟩ := numv_bd _ _ (Nat.le_refl _) hl
  rcases hf with rfl | ⟨c, r, rfl, hc⟩
  · cases l with
    | nil => exact absurd rfl h0
    | cons x l => simp at h
  · have := numv_big16 ha hc
    have h2 : l.length ≤ r.length := by simp at h; omega
    have h4 := Nat.pow_le_pow_right (n := 10) (by decide) h2
    have e : ∀ k : Nat, (10 : Int) ^ k = ((10 ^ k : Nat) : Int) := fun k => by rw [Int.natCast_pow]; rfl
    have h3 : (10 : Int) ^ l.length ≤ 10 ^ r.length := by rw [e, e]; omega
    omega
theorem eqT_sb16 {a b : ByteArray} : eqT a b = true ↔ a = b := eqT_same a b
theorem cmpT_zero {a b : ByteArray} : cmpT a b = 0 ↔ a = b := by
  unfold cmpT
  cases h : ltT a b with
  | true =>
    rw [if_pos rfl]
    constructor
    · intro h2; cases h2
    · rintro rfl; rw [lt_irr] at h; cases h
  | false =>
    rw [if_neg (by simp)]
    by_cases he : eqT a b = true
    · rw [if_pos he]; simp [(eqT_same a b).1 he]
    · rw [if_neg he]
      constructor
      · intro h2; cases h2
      · intro h2; exact absurd ((eqT_same a b).2 h2) he
theorem cmpT_neg {a b : ByteArray} : cmpT a b < 0 ↔ ltT a b = true := by
  unfold cmpT
  cases h : ltT a b with
  | true => simp
  | false =>
    rw [if_neg (by simp)]
    split <;> simp
theorem cmpPart_zero {a b : ByteArray} : cmpPart a b = 0 ↔ a = b := by
  unfold cmpPart
  constructor
  · intro h
    split at h
    · split at h
      · simp only [orL] at h
        split at h
        · rename_i h2
          split at h
          · rename_i h3; exact cmpT_zero.1 h3
          · rename_i h3; exact absurd h h3
        · rename_i h2; exact absurd h h2
      · cases h
    · split at h
      · cases h
      · exact cmpT_zero.1 h
  · rintro rfl
    have h0 : cmpT a a = 0 := cmpT_zero.2 rfl
    split
    · simp [orL, cmpI, h0]
    · exact h0
theorem orL2 (x y : Int) : orL [x, y] < 0 ↔ x < 0 ∨ x = 0 ∧ y < 0 := by
  simp only [orL]
  by_cases h : x = 0
  · subst h
    by_cases h2 : y = 0
    · subst h2; simp
    · simp [h2]
  · simp [h]
theorem cmpI_neg (x y : Int) : cmpI x y < 0 ↔ x < y := by
  unfold cmpI; split
  · simp [*]
  · split <;> omega
theorem cmpI_zero (x y : Int) : cmpI x y = 0 ↔ x = y := by
  unfold cmpI; split
  · omega
  · split <;> omega
theorem number_pos16 {l : List Int} (h : 0 ≤ number l) : number l = numv l := by
  unfold number at h ⊢
  split at h
  · exact absurd h (by decide)
  · rename_i hc; rw [if_neg hc]
/-- of two parts that are right -/
theorem lessPart16 {a b : ByteArray} (ha : Ver.part (sb a) = true) (hb : Ver.part (sb b) = true) : lessPart a b = decide (cmpPart a b < 0) := by
  have la : (sb a).length ≤ 8 := by unfold Ver.part at ha; simp only [Bool.and_eq_true, decide_eq_true_eq] at ha; exact ha.1.2.2
  have lb : (sb b).length ≤ 8 := by unfold Ver.part at hb; simp only [Bool.and_eq_true, decide_eq_true_eq] at hb; exact hb.1.2.2
  have na := isNum_number la
  have nb := isNum_number lb
  unfold lessPart cmpPart
  simp only [na, nb, decide_eq_true_eq]
  by_cases h1 : 0 ≤ number (sb a)
  · simp only [if_pos h1]
    by_cases h2 : 0 ≤ number (sb b)
    · simp only [if_pos h2]
      have ia : isNum (sb a) = true := by rw [na]; simpa using h1
      have ib : isNum (sb b) = true := by rw [nb]; simpa using h2
      have va := number_pos16 h1
      have vb := number_pos16 h2
      obtain ⟨da, fa⟩ := isNum_form16 ia
      obtain ⟨db, fb⟩ := isNum_form16 ib
      have za : sb a ≠ [] := by rcases fa with h | ⟨c, r, h, _⟩ <;> rw [h] <;> simp
      have zb : sb b ≠ [] := by rcases fb with h | ⟨c, r, h, _⟩ <;> rw [h] <;> simp
      rw [va, vb]
      apply decide_eq_decide.2
      rw [orL2, cmpI_neg, cmpI_zero, cmpT_neg]
      rw [← sb_len, ← sb_len]
      rcases Nat.lt_trichotomy (sb a).length (sb b).length with h | h | h
      · have := numv_len16 da ib h za
        constructor
        · intro _; exact .inl (by omega)
        · intro _; exact this
      · have h9 := numv_lex16 a.data.toList b.data.toList (by simpa [sb] using h) da db
        have e1 : numv (sb a) < numv (sb b) ↔ ltT a b = true := by unfold ltT; rw [ByteArray.toList_eq, ByteArray.toList_eq]; exact h9
        rw [e1]
        constructor
        · intro h3; exact .inr ⟨by omega, h3⟩
        · rintro (h3 | ⟨_, h3⟩)
          · omega
          · exact h3
      · have := numv_len16 db ia h zb
        constructor
        · intro h3; omega
        · rintro (h3 | ⟨h3, _⟩) <;> omega
    · simp only [if_neg h2]
      rfl
  · simp only [if_neg h1]
    by_cases h2 : 0 ≤ number (sb b)
    · simp only [if_pos h2]
      rfl
    · simp only [if_neg h2]
      have := @cmpT_neg a b
      cases hlt : ltT a b with
      | true => rw [hlt] at this; exact (decide_eq_true (this.2 rfl)).symm
      | false => rw [hlt] at this; exact (decide_eq_false (fun h => by have := this.1 h; cases this)).symm
theorem lessL16 : ∀ (l m : List ByteArray), (∀ t ∈ l, Ver.part (sb t) = true) → (∀ t ∈ m, Ver.part (sb t) = true) → lessL l m = decide (cmpL l m < 0) := by
  intro l
  induction l with
  | nil => intro m _ _; cases m <;> rfl
  | cons t r ih =>
    intro m hl hm
    cases m with
    | nil => rfl
    | cons u q =>
      show (if eqT t u = true then lessL r q else lessPart t u) = decide ((if cmpPart t u = 0 then cmpL r q else cmpPart t u) < 0)
      by_cases h : t = u
      · rw [if_pos ((eqT_same t u).2 h), if_pos (cmpPart_zero.2 h)]
        exact ih q (fun t ht => hl t (by simp [ht])) (fun t ht => hm t (by simp [ht]))
      · rw [if_neg (fun h2 => h ((eqT_same t u).1 h2)), if_neg (fun h2 => h (cmpPart_zero.1 h2))]
        exact lessPart16 (hl t (by simp)) (hm u (by simp))
theorem parts16 {p : ByteArray} (h : Ver.pre (sb p) = true) : ∀ t ∈ splitT 46 p, Ver.part (sb t) = true := by
  intro t ht
  unfold Ver.pre at h
  rw [Bool.and_eq_true, List.all_eq_true] at h
  refine h.1 _ ?_
  rw [← splitT_sb]
  exact List.mem_map_of_mem ht
/-- of two versions that are right: what the landed code says is what the specification says -/
theorem less_same16 {a1 b1 c1 : Int} {p1 : ByteArray} {a2 b2 c2 : Int} {p2 : ByteArray} (h1 : okV a1 b1 c1 p1 = true) (h2 : okV a2 b2 c2 p2 = true) :
    lessV a1 b1 c1 p1 a2 b2 c2 p2 = decide (cmpV a1 b1 c1 p1 a2 b2 c2 p2 < 0) := by
  have hp : (if eqT p1 p2 = true ∨ p1.size = 0 then false else if p2.size = 0 then true else lessPre p1 p2) = decide (cmpPre p1 p2 < 0) := by
    unfold cmpPre
    by_cases he : eqT p1 p2 = true
    · rw [if_pos (.inl he), if_pos he]; rfl
    · rw [if_neg he]
      by_cases z1 : p1.size = 0
      · rw [if_pos (.inr z1), if_pos z1]; rfl
      · rw [if_neg (by simp [he, z1]), if_neg z1]
        by_cases z2 : p2.size = 0
        · rw [if_pos z2, if_pos z2]; rfl
        · rw [if_neg z2, if_neg z2]
          unfold okV at h1 h2
          rw [Bool.and_eq_true, Bool.or_eq_true, decide_eq_true_eq] at h1 h2
          exact lessL16 _ _ (parts16 (h1.2.resolve_left z1)) (parts16 (h2.2.resolve_left z2))
  unfold lessV cmpV
  rw [hp]
  by_cases e1 : a1 = a2
  · have x1 : cmpI a1 a2 = 0 := (cmpI_zero _ _).2 e1
    rw [if_neg (by simpa using e1), x1]
    by_cases e2 : b1 = b2
    · have x2 : cmpI b1 b2 = 0 := (cmpI_zero _ _).2 e2
      rw [if_neg (by simpa using e2), x2]
      by_cases e3 : c1 = c2
      · have x3 : cmpI c1 c2 = 0 := (cmpI_zero _ _).2 e3
        rw [if_neg (by simpa using e3), x3]
        simp only [orL, if_pos]
        by_cases h : cmpPre p1 p2 = 0
        · simp [h]
        · simp [h]
      · have x3 : cmpI c1 c2 ≠ 0 := fun h => e3 ((cmpI_zero _ _).1 h)
        rw [if_pos (by simpa using e3)]
        simp only [orL, if_pos, if_neg x3]
        exact decide_eq_decide.2 (cmpI_neg _ _).symm
    · have x2 : cmpI b1 b2 ≠ 0 := fun h => e2 ((cmpI_zero _ _).1 h)
      rw [if_pos (by simpa using e2)]
      simp only [orL, if_pos, if_neg x2]
      exact decide_eq_decide.2 (cmpI_neg _ _).symm
  · have x1 : cmpI a1 a2 ≠ 0 := fun h => e1 ((cmpI_zero _ _).1 h)
    rw [if_pos (by simpa using e1)]
    simp only [orL, if_neg x1]
    exact decide_eq_decide.2 (cmpI_neg _ _).symm

end Go.Proofs.Ytlhmemnaiobgkaa.Se

/- Chapter 3: lists of versions: what a row of them holds; a drawn list. -/
namespace Go.Proofs.Ytlhmemnaiobgkaa.Ver
open Go.RowKit Go.Proofs.Ytlhmemnaiobgkaa.Mem Go.Proofs.Ytlhmemnaiobgkaa.Laws Go.Proofs.Ytlhmemnaiobgkaa.Bytes Go.Proofs.Ytlhmemnaiobgkaa.Sha Go.Proofs.Ytlhmemnaiobgkaa.Draw
set_option linter.unusedVariables false
set_option linter.unusedSimpArgs false

/-- versions as cells, four each -/
def vs : List (Int × Int × Int × ByteArray) → List Value
  | [] => []
  | q :: r => .int .i64 q.1 :: .int .i64 q.2.1 :: .int .i64 q.2.2.1 :: .string q.2.2.2 :: vs r
theorem vs_len : ∀ l, (vs l).length = l.length * 4 := by
  intro l
  induction l with
  | nil => rfl
  | cons q r ih => simp [vs, ih]; omega
theorem vs_app (l m : List (Int × Int × Int × ByteArray)) : vs (l ++ m) = vs l ++ vs m := by
  induction l with
  | nil => rfl
  | cons q r ih => simp [vs, ih]
theorem vs_one : ∀ l, ∀ u ∈ vs l, u.oneCell' = true := by
  intro l
  induction l with
  | nil => intro u hu; cases hu
  | cons q r ih =>
    intro u hu
    simp only [vs, List.mem_cons] at hu
    rcases hu with rfl | rfl | rfl | rfl | hu
    · rfl
    · rfl
    · rfl
    · rfl
    · exact ih u hu
theorem vs_get : ∀ (l : List (Int × Int × Int × ByteArray)) (k : Nat) (q : Int × Int × Int × ByteArray), l[k]? = some q →
    (vs l)[4 * k]? = some (.int .i64 q.1) ∧ (vs l)[4 * k + 1]? = some (.int .i64 q.2.1) ∧ (vs l)[4 * k + 2]? = some (.int .i64 q.2.2.1) ∧ (vs l)[4 * k + 3]? = some (.string q.2.2.2) := by
  intro l
  induction l with
  | nil => intro k q h; simp at h
  | cons x r ih =>
    intro k q h
    cases k with
    | zero => simp at h; subst h; exact ⟨rfl, rfl, rfl, rfl⟩
    | succ k =>
      have := ih k q (by simpa using h)
      have e : 4 * (k + 1) = 4 * k + 4 := by omega
      rw [e]
      exact this

/-- block g holds the versions l, from its beginning on -/
def Cv (w : World) (g : Nat) (l : List (Int × Int × Int × ByteArray)) : Prop :=
  ∀ (k : Nat) (q : Int × Int × Int × ByteArray), l[k]? = some q → w.cell? ⟨g, 4 * k, none⟩ = some (.int .i64 q.1) ∧ w.cell? ⟨g, 4 * k + 1, none⟩ = some (.int .i64 q.2.1) ∧ w.cell? ⟨g, 4 * k + 2, none⟩ = some (.int .i64 q.2.2.1) ∧ w.cell? ⟨g, 4 * k + 3, none⟩ = some (.string q.2.2.2)
theorem Cv.later {w w' : World} {g : Nat} {l : List (Int × Int × Int × ByteArray)} (h : Cv w g l) (hb : Below w.heap.size w w') : Cv w' g l := by
  intro k q hq
  obtain ⟨h1, h2, h3, h4⟩ := h k q hq
  have hl : g < w.heap.size := World.block_lt_of_cell? w _ h1
  exact ⟨(hb.cell (p := ⟨g, 4 * k, none⟩) hl).trans h1, (hb.cell (p := ⟨g, 4 * k + 1, none⟩) hl).trans h2, (hb.cell (p := ⟨g, 4 * k + 2, none⟩) hl).trans h3, (hb.cell (p := ⟨g, 4 * k + 3, none⟩) hl).trans h4⟩

/-- v owns the versions l -/
def Ov (w : World) (lo hi : Nat) (v : Value) (l : List (Int × Int × Int × ByteArray)) : Prop :=
  w.ownsRow lo 29 4 v l.length (vs l) ∧ (∃ g cap, v = .slice (some ⟨g, 0, none⟩) l.length cap ∧ l.length ≤ cap ∧ g < hi)
theorem Ov.cv {w : World} {lo hi : Nat} {v : Value} {l : List (Int × Int × Int × ByteArray)} (h : Ov w lo hi v l) : ∃ g cap, v = .slice (some ⟨g, 0, none⟩) l.length cap ∧ l.length ≤ cap ∧ g < hi ∧ Cv w g l := by
  obtain ⟨h1, g, cap, rfl, hc, hg⟩ := h
  refine ⟨g, cap, rfl, hc, hg, fun k q hq => ?_⟩
  have hk : k < l.length := (List.getElem?_eq_some_iff.1 hq).1
  obtain ⟨a1, a2, a3, a4⟩ := vs_get l k q hq
  exact ⟨by rw [h1.cellAt _ (by omega)]; exact a1, by rw [h1.cellAt _ (by omega)]; exact a2, by rw [h1.cellAt _ (by omega)]; exact a3, by rw [h1.cellAt _ (by omega)]; exact a4⟩
theorem Ov.keep {w w' : World} {lo hi : Nat} {v : Value} {l : List (Int × Int × Int × ByteArray)} (h : Ov w lo hi v l) (hk : ∀ k, lo ≤ k → k < hi → w'.heap[k]? = w.heap[k]?) : Ov w' lo hi v l := by
  obtain ⟨⟨h1, h2⟩, g, cap, rfl, hc, hg⟩ := h
  refine ⟨⟨h1, ?_⟩, g, cap, rfl, hc, hg⟩
  rcases h2 with h2 | ⟨g', cap', cur, he, hb, hh, r⟩
  · exact .inl h2
  · have : g' = g := by simp at he; exact he.1.symm
    subst this
    exact .inr ⟨g', cap', cur, he, hb, by rw [hk g' hb hg]; exact hh, r⟩
theorem infoVv : (Try.prog.info? 29).map (fun i => (i.zero, i.size, i.bytes)) = some (some (.agg #[.int .i64 0, .int .i64 0, .int .i64 0, .string ⟨#[]⟩]), 4, 40) := by kernel_rfl

end Go.Proofs.Ytlhmemnaiobgkaa.Ver

/- Chapter 3, the landed code: the latest of a list. -/
namespace Go.Proofs.Ytlhmemnaiobgkaa.Ver
open Go.RowKit Go.Proofs.Ytlhmemnaiobgkaa.Mem Go.Proofs.Ytlhmemnaiobgkaa.Laws Go.Proofs.Ytlhmemnaiobgkaa.Bytes Go.Proofs.Ytlhmemnaiobgkaa.Sha
set_option linter.unusedVariables false
set_option linter.unusedSimpArgs false

def lessQ (q r : Int × Int × Int × ByteArray) : Bool := decide (cmpV q.1 q.2.1 q.2.2.1 q.2.2.2 r.1 r.2.1 r.2.2.1 r.2.2.2 < 0)
def latF (q : Int × Int × Int × ByteArray) (l : List (Int × Int × Int × ByteArray)) : Int × Int × Int × ByteArray := l.foldl (fun b v => if lessQ b v = true then v else b) q

end Go.Proofs.Ytlhmemnaiobgkaa.Ver

/- Chapter 16: the latest of each path by groups, as the landed code gathers them; plain facts. -/
namespace Go.Proofs.Ytlhmemnaiobgkaa.Se
open Go.RowKit Go.Proofs.Ytlhmemnaiobgkaa.Mem Go.Proofs.Ytlhmemnaiobgkaa.Laws Go.Proofs.Ytlhmemnaiobgkaa.Ver Go.Proofs.Ytlhmemnaiobgkaa.Ent Go.Proofs.Ytlhmemnaiobgkaa.Fe
set_option linter.unusedVariables false
set_option linter.unusedSimpArgs false

/-- the best of a path so far -/
def stp (p : ByteArray) (o : Option Nd) (n : Nd) : Option Nd := if eqT n.path p = true then (match o with | none => some n | some b => if lv b n = true then some n else some b) else o
def bst (p : ByteArray) (row : List Nd) : Option Nd := row.foldl (stp p) none
theorem bst_snoc (p : ByteArray) (row : List Nd) (n : Nd) : bst p (row ++ [n]) = stp p (bst p row) n := by unfold bst; rw [List.foldl_append]; rfl
theorem snoc_ind {α : Type} {P : List α → Prop} (h0 : P []) (h1 : ∀ l x, P l → P (l ++ [x])) (l : List α) : P l := by
  have : ∀ r : List α, P r.reverse := by
    intro r
    induction r with
    | nil => exact h0
    | cons x r ih => rw [List.reverse_cons]; exact h1 _ _ ih
  have := this l.reverse
  rwa [List.reverse_reverse] at this
theorem bst_path {p : ByteArray} (row : List Nd) : ∀ x, bst p row = some x → x.path = p ∧ x ∈ row := by
  refine snoc_ind (P := fun row => ∀ x, bst p row = some x → x.path = p ∧ x ∈ row) ?_ ?_ row
  · intro x h; cases h
  · intro l n ih x h
    rw [bst_snoc] at h
    unfold stp at h
    split at h
    · rename_i he
      have he := (eqT_same _ _).1 he
      cases hb : bst p l with
      | none =>
        rw [hb] at h
        simp only [Option.some.injEq] at h
        subst h
        exact ⟨he, by simp⟩
      | some b =>
        rw [hb] at h
        simp only at h
        split at h
        · simp only [Option.some.injEq] at h; subst h; exact ⟨he, by simp⟩
        · simp only [Option.some.injEq] at h; subst h; exact ⟨(ih _ hb).1, by simp [(ih _ hb).2]⟩
    · exact ⟨(ih _ h).1, by simp [(ih _ h).2]⟩
theorem max_bst {row out : List Nd} {n : Nd} (hu : Up out) (hm : ∀ x, x ∈ out ↔ bst x.path row = some x) : Up (max16 out n) ∧ ∀ x, x ∈ max16 out n ↔ bst x.path (row ++ [n]) = some x := by
  unfold max16
  cases ha : out.any (cov1 n) with
  | true =>
    rw [if_pos rfl]
    obtain ⟨y, hy, hc⟩ := List.any_eq_true.1 ha
    obtain ⟨h1, h2⟩ := cov1_iff.1 hc
    refine ⟨hu, fun x => ?_⟩
    rw [hm, bst_snoc]
    unfold stp
    by_cases hp : eqT n.path x.path = true
    · rw [if_pos hp]
      have hp' := (eqT_same _ _).1 hp
      have hb := (hm y).1 hy
      rw [h1, hp'] at hb
      rw [hb]
      simp [h2]
    · rw [if_neg hp]
  | false =>
    rw [if_neg (by simp)]
    refine ⟨hu.ins n, fun x => ?_⟩
    rw [ins_iff, bst_snoc]
    unfold stp
    by_cases hp : eqT n.path x.path = true
    · have hp' := (eqT_same _ _).1 hp
      rw [if_pos hp]
      have e : (match bst x.path row with | none => some n | some b => if lv b n = true then some n else some b) = some n := by
        cases hb : bst x.path row with
        | none => rfl
        | some b =>
          obtain ⟨h1, h2⟩ := bst_path row b hb
          have hbo : b ∈ out := (hm b).2 (by rw [h1]; exact hb)
          have h3 := List.any_eq_false.1 ha b hbo
          have h4 : lv b n = true := by
            cases h5 : lv b n with
            | true => rfl
            | false => exact absurd (cov1_iff.2 ⟨by rw [h1, hp'], h5⟩) h3
          simp [h4]
      rw [e]
      constructor
      · rintro (rfl | ⟨_, h⟩)
        · rfl
        · exact absurd hp'.symm h
      · intro h
        simp only [Option.some.injEq] at h
        exact .inl h.symm
    · rw [if_neg hp]
      have hp' : n.path ≠ x.path := fun h => hp ((eqT_same _ _).2 h)
      constructor
      · rintro (rfl | ⟨h, _⟩)
        · exact absurd rfl hp'
        · exact (hm x).1 h
      · intro h
        exact .inr ⟨(hm x).2 h, fun h9 => hp' h9.symm⟩
theorem sel_bst (row : List Nd) : Up (sel16 row) ∧ ∀ x, x ∈ sel16 row ↔ bst x.path row = some x := by
  refine snoc_ind (P := fun row => Up (sel16 row) ∧ ∀ x, x ∈ sel16 row ↔ bst x.path row = some x) ?_ ?_ row
  · refine ⟨List.Pairwise.nil, fun x => ?_⟩
    show x ∈ [] ↔ (none : Option Nd) = some x
    simp
  · intro l n ih
    have := max_bst (n := n) ih.1 ih.2
    unfold sel16 at this ⊢
    rw [List.foldl_append]
    exact this
/-- the version alone; a need of a path and a version -/
abbrev Q4 := Int × Int × Int × ByteArray
def ver4 (n : Nd) : Q4 := (n.a, n.b, n.c, n.pre)
def mk4 (p : ByteArray) (q : Q4) : Nd := ⟨p, q.1, q.2.1, q.2.2.1, q.2.2.2⟩
def okN (n : Nd) : Prop := okV n.a n.b n.c n.pre = true
/-- the versions of a path -/
def vers (p : ByteArray) (row : List Nd) : List Q4 := (row.filter fun n => eqT n.path p).map ver4
theorem vers_snoc (p : ByteArray) (row : List Nd) (n : Nd) : vers p (row ++ [n]) = vers p row ++ (if eqT n.path p = true then [ver4 n] else []) := by
  unfold vers
  rw [List.filter_append, List.map_append]
  congr 1
  by_cases h : eqT n.path p = true
  · rw [if_pos h]; simp [h]
  · rw [if_neg h]; simp [h]
theorem vers_mem {p : ByteArray} {row : List Nd} {q : Q4} (h : q ∈ vers p row) : ∃ n ∈ row, n.path = p ∧ ver4 n = q := by
  unfold vers at h
  obtain ⟨n, h1, h2⟩ := List.mem_map.1 h
  obtain ⟨h3, h4⟩ := List.mem_filter.1 h1
  exact ⟨n, h3, (eqT_same _ _).1 h4, h2⟩
theorem vers_len (p : ByteArray) (row : List Nd) : (vers p row).length ≤ row.length := by unfold vers; rw [List.length_map]; exact List.length_filter_le _ _
/-- the latest of these versions -/
def lat4 : List Q4 → Q4
  | [] => (0, 0, 0, ⟨#[]⟩)
  | q :: l => latF q l
theorem latF_mem : ∀ (l : List Q4) (q : Q4), latF q l ∈ q :: l := by
  intro l
  induction l with
  | nil => intro q; simp [latF]
  | cons v r ih =>
    intro q
    have h := ih (if lessQ q v = true then v else q)
    unfold latF at h ⊢
    rw [List.foldl_cons]
    rcases List.mem_cons.1 h with h | h
    · rw [h]; split <;> simp
    · simp [h]
theorem lat4_mem {l : List Q4} (h : l ≠ []) : lat4 l ∈ l := by
  cases l with
  | nil => exact absurd rfl h
  | cons q l => exact latF_mem l q
theorem lat4_snoc {l : List Q4} (h : l ≠ []) (v : Q4) : lat4 (l ++ [v]) = if lessQ (lat4 l) v = true then v else lat4 l := by
  cases l with
  | nil => exact absurd rfl h
  | cons q l => show latF q (l ++ [v]) = if lessQ (latF q l) v = true then v else latF q l; unfold latF; rw [List.foldl_append]; rfl
theorem less_lv {x y : Nd} (hx : okN x) (hy : okN y) : lessQ (ver4 x) (ver4 y) = lv x y := by
  unfold lessQ lv
  exact (less_same16 hx hy).symm
theorem bst_vers {row : List Nd} (p : ByteArray) : (∀ x ∈ row, okN x) → bst p row = if vers p row = [] then none else some (mk4 p (lat4 (vers p row))) := by
  refine snoc_ind (P := fun row => (∀ x ∈ row, okN x) → bst p row = if vers p row = [] then none else some (mk4 p (lat4 (vers p row)))) ?_ ?_ row
  · intro _; rfl
  · intro l n ih hok
    have ih := ih fun x hx => hok x (by simp [hx])
    have hn := hok n (by simp)
    rw [bst_snoc, vers_snoc, ih]
    unfold stp
    by_cases hp : eqT n.path p = true
    · have hp' := (eqT_same _ _).1 hp
      rw [if_pos hp, if_pos hp]
      by_cases hv : vers p l = []
      · rw [if_pos hv, hv]
        show some n = some (mk4 p (ver4 n))
        rw [← hp']
        rfl
      · rw [if_neg hv, if_neg (show ¬ (vers p l ++ [ver4 n] = []) by simp), lat4_snoc hv]
        obtain ⟨m, m1, m2, m3⟩ := vers_mem (lat4_mem hv)
        have hm := hok m (by simp [m1])
        have em : mk4 p (lat4 (vers p l)) = m := by rw [← m3, ← m2]; rfl
        have el := less_lv hm hn
        rw [m3] at el
        rw [em, el]
        show (if lv m n = true then some n else some m) = _
        by_cases hl : lv m n = true
        · rw [if_pos hl, if_pos hl, ← hp']; rfl
        · rw [if_neg hl, if_neg hl, em]
    · rw [if_neg hp, if_neg hp, List.append_nil]
/-- a list that rises by its paths and has of each path the latest -/
theorem sel_groups {row out : List Nd} (hok : ∀ x ∈ row, okN x) (hu : Up out) (hm : ∀ x, x ∈ out ↔ vers x.path row ≠ [] ∧ x = mk4 x.path (lat4 (vers x.path row))) : out = sel16 row := by
  obtain ⟨h1, h2⟩ := sel_bst row
  refine hu.same h1 fun x => ?_
  rw [hm, h2, bst_vers x.path hok]
  constructor
  · rintro ⟨h3, h4⟩
    rw [if_neg h3, ← h4]
  · intro h
    split at h
    · cases h
    · rename_i h3
      simp only [Option.some.injEq] at h
      exact ⟨h3, h.symm⟩
theorem vers_some {p : ByteArray} {row : List Nd} : vers p row ≠ [] ↔ p ∈ row.map Nd.path := by
  unfold vers
  constructor
  · intro h
    obtain ⟨q, hq⟩ := List.exists_mem_of_ne_nil _ h
    obtain ⟨n, h1, _⟩ := List.mem_map.1 hq
    obtain ⟨h3, h4⟩ := List.mem_filter.1 h1
    exact List.mem_map.2 ⟨n, h3, (eqT_same _ _).1 h4⟩
  · intro h he
    obtain ⟨n, h1, h2⟩ := List.mem_map.1 h
    have : ver4 n ∈ ((row.filter fun n => eqT n.path p).map ver4) := List.mem_map_of_mem (List.mem_filter.2 ⟨h1, (eqT_same _ _).2 h2⟩)
    rw [he] at this
    cases this
/-- the paths in the order in which they first came -/
def keys16 (row : List Nd) : List ByteArray := row.foldl (fun K n => if K.any (fun p => eqT p n.path) = true then K else K ++ [n.path]) []
theorem keys_snoc (row : List Nd) (n : Nd) : keys16 (row ++ [n]) = if (keys16 row).any (fun p => eqT p n.path) = true then keys16 row else keys16 row ++ [n.path] := by unfold keys16; rw [List.foldl_append]; rfl
theorem any_key {K : List ByteArray} {p : ByteArray} : K.any (fun x => eqT x p) = true ↔ p ∈ K := by
  rw [List.any_eq_true]
  constructor
  · rintro ⟨x, h1, h2⟩; rw [← (eqT_same _ _).1 h2]; exact h1
  · intro h; exact ⟨p, h, (eqT_same _ _).2 rfl⟩
theorem keys_facts (row : List Nd) : (keys16 row).Nodup ∧ (∀ p, p ∈ keys16 row ↔ p ∈ row.map Nd.path) ∧ (keys16 row).length ≤ row.length := by
  refine snoc_ind (P := fun row => (keys16 row).Nodup ∧ (∀ p, p ∈ keys16 row ↔ p ∈ row.map Nd.path) ∧ (keys16 row).length ≤ row.length) ?_ ?_ row
  · exact ⟨List.nodup_nil, fun p => Iff.rfl, Nat.le_refl _⟩
  · rintro l n ⟨h1, h2, h3⟩
    rw [keys_snoc]
    by_cases h : (keys16 l).any (fun p => eqT p n.path) = true
    · rw [if_pos h]
      have hk := (h2 _).1 (any_key.1 h)
      refine ⟨h1, fun p => ?_, by simp; omega⟩
      rw [h2, List.map_append, List.mem_append]
      constructor
      · exact .inl
      · rintro (h4 | h4)
        · exact h4
        · rw [List.mem_singleton.1 h4]; exact hk
    · rw [if_neg h]
      have hk : n.path ∉ keys16 l := fun h9 => h (any_key.2 h9)
      refine ⟨List.nodup_append.2 ⟨h1, by simp, fun a ha b hb e => ?_⟩, fun p => ?_, by simp; omega⟩
      · rw [List.mem_singleton.1 hb] at e; rw [e] at ha; exact hk ha
      · rw [List.mem_append, h2, List.map_append, List.mem_append]; rfl

end Go.Proofs.Ytlhmemnaiobgkaa.Se
