/- Chapter 3, the specification's side: what is bumped. -/
import Derived.Test.YtnoopfpgkgjdcabVer7
import Derived.Laws.Rows
import Derived.Laws.CopyOwn
namespace Go.Proofs.Ytnoopfpgkgjdcab.Ver
set_option linter.unusedVariables false
set_option linter.unusedSimpArgs false
open Go.RowKit Go.Proofs.Ytnoopfpgkgjdcab.Mem Go.Proofs.Ytnoopfpgkgjdcab.Laws Go.Proofs.Ytnoopfpgkgjdcab.Bytes Go.Proofs.Ytnoopfpgkgjdcab.Sha

/-- what is bumped -/
def bump (a b c : Int) (p : ByteArray) (part : Int) : Int × Int × Int × ByteArray :=
  if okV a b c p = true then
    (if part = 0 then (if okV (a + 1) 0 0 ⟨#[]⟩ = true then (a + 1, 0, 0, ⟨#[]⟩) else (a, b, c, p))
     else if part = 1 then (if okV a (b + 1) 0 ⟨#[]⟩ = true then (a, b + 1, 0, ⟨#[]⟩) else (a, b, c, p))
     else if part = 2 then (if okV a b (c + 1) ⟨#[]⟩ = true then (a, b, c + 1, ⟨#[]⟩) else (a, b, c, p))
     else (a, b, c, p))
  else (a, b, c, p)
def verQ (q : Int × Int × Int × ByteArray) : Value := ver q.1 q.2.1 q.2.2.1 q.2.2.2

/-- a version's cells -/
def vc (a b c : Int) (p : ByteArray) : Array Value := #[.int .i64 a, .int .i64 b, .int .i64 c, .string p]
/-- block g holds a version -/
def Vr (w : World) (g : Nat) (a b c : Int) (p : ByteArray) : Prop := w.heap[g]? = some (.cells (vc a b c p) 25 (0, 0))
theorem Vr.lt {w : World} {g : Nat} {a b c : Int} {p : ByteArray} (h : Vr w g a b c p) : g < w.heap.size := (Array.getElem?_eq_some_iff.1 h).1
theorem Vr.same {w w' : World} {g : Nat} {a b c : Int} {p : ByteArray} (h : Vr w g a b c p) (hb : Below w.heap.size w w') : Vr w' g a b c p := (hb.block g h.lt).trans h
theorem Vr.cells {w : World} {g : Nat} {a b c : Int} {p : ByteArray} (h : Vr w g a b c p) : w.cell? ⟨g, 0, none⟩ = some (.int .i64 a) ∧ w.cell? ⟨g, 1, none⟩ = some (.int .i64 b) ∧ w.cell? ⟨g, 2, none⟩ = some (.int .i64 c) ∧ w.cell? ⟨g, 3, none⟩ = some (.string p) :=
  ⟨(cell_of_row w g 0 _ _ _ h).trans rfl, (cell_of_row w g 1 _ _ _ h).trans rfl, (cell_of_row w g 2 _ _ _ h).trans rfl, (cell_of_row w g 3 _ _ _ h).trans rfl⟩
theorem sizeV (a b c : Int) (p : ByteArray) : (Try.prog.info? 25).map (·.size) = some (vc a b c p).size := by
  show _ = some 4
  kernel_rfl
theorem oneV (a b c : Int) (p : ByteArray) : (vc a b c p).all (·.oneCell') = true := by unfold vc; simp [Value.oneCell']
theorem Vr.row {w : World} {g : Nat} {a b c : Int} {p : ByteArray} (h : Vr w g a b c p) (a' b' c' : Int) (p' : ByteArray) : Vr (w.setRow g (vc a' b' c' p')) g a' b' c' p' := setRow_heap w g _ _ _ _ h

set_option maxRecDepth 1000000 in
set_option maxHeartbeats 1000000 in
theorem bump_no (w : World) (a b c : Int) (p : ByteArray) (part : Int) (hp : p.size ≤ 1000000000000) (hok : okV a b c p = false) :
    Calls Try.prog 14 #[ver a b c p, .int .i64 part] w fun e w' => e = .returned (ver a b c p) ∧ Below w.heap.size w w' := by
  have q := ok_spec ((w.alloc (.cells #[.int .i64 a, .int .i64 b, .int .i64 c, .string p] 25)).alloc (.cells #[.int .i64 0, .int .i64 0, .int .i64 0, .string ⟨#[]⟩] 25)) a b c p hp
  rw [hok] at q
  have HR0 : Hid (Vr ((w.alloc (.cells #[.int .i64 a, .int .i64 b, .int .i64 c, .string p] 25)).alloc (.cells #[.int .i64 0, .int .i64 0, .int .i64 0, .string ⟨#[]⟩] 25)) w.heap.size a b c p) := Vr.same (w := w.alloc (.cells (vc a b c p) 25)) (heap_alloc_new w _) ((Below.refl _ _).alloc (Nat.le_refl _) _)
  have HR1 : Hid (Vr ((w.alloc (.cells #[.int .i64 a, .int .i64 b, .int .i64 c, .string p] 25)).alloc (.cells #[.int .i64 0, .int .i64 0, .int .i64 0, .string ⟨#[]⟩] 25)) (w.heap.size + 1) 0 0 0 ⟨#[]⟩) := heap_alloc2_new w _ _
  have HB : Hid (Below w.heap.size w ((w.alloc (.cells #[.int .i64 a, .int .i64 b, .int .i64 c, .string p] 25)).alloc (.cells #[.int .i64 0, .int .i64 0, .int .i64 0, .string ⟨#[]⟩] 25))) := ((Below.refl _ _).alloc (Nat.le_refl _) _).alloc (by simp) _
  unfold ver at q ⊢
  clear hok
  go_enter Try.func14, Try.ntmps14
  go_wp2_with fail
  refine q.mono ?_
  rintro e w5 ⟨rfl, b5⟩
  have r0 := Vr.same HR0.out b5
  have r1 := Vr.same HR1.out b5
  have hb5 : Below w.heap.size w w5 := HB.out.trans (b5.mono (by simp; omega))
  clear HR0 HR1 HB q b5
  go_wp2_with (first | (refine wpList_load_row rfl 25 _ rfl w.heap.size rfl 25 (vc a b c p) (0, 0) _ r0 Try.underlying25 rfl (sizeV a b c p) ?_) | (refine wpList_store_row rfl 25 _ _ rfl (w.heap.size + 1) (vc a b c p) rfl rfl 25 (vc 0 0 0 ⟨#[]⟩) r1 (sizeV a b c p) rfl (oneV a b c p) ?_))
  exact bodyPost_ret (v := .agg (vc a b c p)) (results_cell_row rfl _ _ (w.heap.size + 1) 25 _ (0, 0) _ rfl (Vr.row r1 a b c p) Try.underlying25 rfl (sizeV a b c p)) rfl ⟨rfl, below_setRow hb5 (by omega) _⟩

set_option maxRecDepth 1000000 in
set_option maxHeartbeats 1000000 in
theorem bump_0 (w : World) (a b c : Int) (p : ByteArray) (part : Int) (hp : p.size ≤ 1000000000000) (hok : okV a b c p = true) (h0 : part = 0) :
    Calls Try.prog 14 #[ver a b c p, .int .i64 part] w fun e w' => e = .returned (if okV (a + 1) 0 0 ⟨#[]⟩ = true then ver (a + 1) 0 0 ⟨#[]⟩ else ver a b c p) ∧ Below w.heap.size w w' := by
  have q2 : ∀ W, _ := fun W => ok_spec W (a + 1) 0 0 ⟨#[]⟩ (by show (0 : Nat) ≤ _; omega)
  obtain ⟨ok2, hok2⟩ : ∃ x, okV (a + 1) 0 0 ⟨#[]⟩ = x := ⟨_, rfl⟩
  rw [hok2] at q2 ⊢
  clear hok2
  unfold ver at q2 ⊢
  have d0 : (part == 0) = true := by simpa using h0
  clear h0
  obtain ⟨hA, hB', hC⟩ : (∃ n : Nat, a = (n : Int) ∧ n ≤ 1000000) ∧ (∃ n : Nat, b = (n : Int) ∧ n ≤ 1000000) ∧ (∃ n : Nat, c = (n : Int) ∧ n ≤ 1000000) := by
    have h3 := hok
    unfold okV at h3
    simp only [Bool.and_eq_true] at h3
    exact ⟨inM_nat h3.1.1.1, inM_nat h3.1.1.2, inM_nat h3.1.2⟩
  have qa : 0 ≤ a ∧ a ≤ 1000000 := by obtain ⟨n, rfl, h⟩ := hA; omega
  have qb : 0 ≤ b ∧ b ≤ 1000000 := by obtain ⟨n, rfl, h⟩ := hB'; omega
  have qc : 0 ≤ c ∧ c ≤ 1000000 := by obtain ⟨n, rfl, h⟩ := hC; omega
  have q := ok_spec ((w.alloc (.cells #[.int .i64 a, .int .i64 b, .int .i64 c, .string p] 25)).alloc (.cells #[.int .i64 0, .int .i64 0, .int .i64 0, .string ⟨#[]⟩] 25)) a b c p hp
  rw [hok] at q
  have HR0 : Hid (Vr ((w.alloc (.cells #[.int .i64 a, .int .i64 b, .int .i64 c, .string p] 25)).alloc (.cells #[.int .i64 0, .int .i64 0, .int .i64 0, .string ⟨#[]⟩] 25)) w.heap.size a b c p) := Vr.same (w := w.alloc (.cells (vc a b c p) 25)) (heap_alloc_new w _) ((Below.refl _ _).alloc (Nat.le_refl _) _)
  have HR1 : Hid (Vr ((w.alloc (.cells #[.int .i64 a, .int .i64 b, .int .i64 c, .string p] 25)).alloc (.cells #[.int .i64 0, .int .i64 0, .int .i64 0, .string ⟨#[]⟩] 25)) (w.heap.size + 1) 0 0 0 ⟨#[]⟩) := heap_alloc2_new w _ _
  have HB : Hid (Below w.heap.size w ((w.alloc (.cells #[.int .i64 a, .int .i64 b, .int .i64 c, .string p] 25)).alloc (.cells #[.int .i64 0, .int .i64 0, .int .i64 0, .string ⟨#[]⟩] 25))) := ((Below.refl _ _).alloc (Nat.le_refl _) _).alloc (by simp) _
  unfold ver at q
  clear hok hA hB' hC
  go_enter Try.func14, Try.ntmps14
  go_wp2_with fail
  refine q.mono ?_
  rintro e w5 ⟨rfl, b5⟩
  have r0 := Vr.same HR0.out b5
  have r1 := Vr.same HR1.out b5
  have hb5 : Below w.heap.size w w5 := HB.out.trans (b5.mono (by simp; omega))
  have hs5 := hb5.size
  obtain ⟨y0, y1, y2, y3⟩ := Vr.cells r0
  have HR0' : Hid (Vr w5 w.heap.size a b c p) := r0
  have HR1' : Hid (Vr w5 (w.heap.size + 1) 0 0 0 ⟨#[]⟩) := r1
  have l0 := Vr.lt r0
  have l1 := Vr.lt r1
  clear HR0 HR1 HB q b5 r0 r1
  go_wp2_with fail
  refine (q2 _).mono ?_
  rintro e w6 ⟨rfl, b6⟩
  have s0 : Vr w6 w.heap.size a b c p := Vr.same (Vr.same HR0'.out ((Below.refl _ _).alloc (Nat.le_refl _) _)) b6
  have s1 : Vr w6 (w.heap.size + 1) 0 0 0 ⟨#[]⟩ := Vr.same (Vr.same HR1'.out ((Below.refl _ _).alloc (Nat.le_refl _) _)) b6
  have s5 : Vr w6 w5.heap.size (a + 1) 0 0 ⟨#[]⟩ := Vr.same (w := w5.alloc (.cells (vc (a + 1) 0 0 ⟨#[]⟩) 25)) (heap_alloc_new w5 _) b6
  have hb6 : Below w.heap.size w w6 := (hb5.alloc hs5 _).trans (b6.mono (by simp; omega))
  clear q2 y0 y1 y2 y3 HR0' HR1' b6
  cases ok2
  · have hx := hb6
    go_wp2_with (first | (refine wpList_load_row rfl 25 _ rfl w.heap.size rfl 25 (vc a b c p) (0, 0) _ s0 Try.underlying25 rfl (sizeV a b c p) ?_) | (refine wpList_store_row rfl 25 _ _ rfl (w.heap.size + 1) (vc a b c p) rfl rfl 25 (vc 0 0 0 ⟨#[]⟩) s1 (sizeV a b c p) rfl (oneV a b c p) ?_))
    exact bodyPost_ret (v := .agg (vc a b c p)) (results_cell_row rfl _ _ (w.heap.size + 1) 25 _ (0, 0) _ rfl (Vr.row s1 a b c p) Try.underlying25 rfl (sizeV a b c p)) rfl ⟨rfl, below_setRow hb6 (by omega) _⟩
  · have hx := hb6
    go_wp2_with (first | (refine wpList_load_row rfl 25 _ rfl w5.heap.size rfl 25 (vc (a + 1) 0 0 ⟨#[]⟩) (0, 0) _ s5 Try.underlying25 rfl (sizeV (a + 1) 0 0 ⟨#[]⟩) ?_) | (refine wpList_store_row rfl 25 _ _ rfl (w.heap.size + 1) (vc (a + 1) 0 0 ⟨#[]⟩) rfl rfl 25 (vc 0 0 0 ⟨#[]⟩) s1 (sizeV (a + 1) 0 0 ⟨#[]⟩) rfl (oneV (a + 1) 0 0 ⟨#[]⟩) ?_))
    exact bodyPost_ret (v := .agg (vc (a + 1) 0 0 ⟨#[]⟩)) (results_cell_row rfl _ _ (w.heap.size + 1) 25 _ (0, 0) _ rfl (Vr.row s1 (a + 1) 0 0 ⟨#[]⟩) Try.underlying25 rfl (sizeV (a + 1) 0 0 ⟨#[]⟩)) rfl ⟨rfl, below_setRow hb6 (by omega) _⟩

set_option maxRecDepth 1000000 in
set_option maxHeartbeats 1000000 in
theorem bump_1 (w : World) (a b c : Int) (p : ByteArray) (part : Int) (hp : p.size ≤ 1000000000000) (hok : okV a b c p = true) (h0 : part = 1) :
    Calls Try.prog 14 #[ver a b c p, .int .i64 part] w fun e w' => e = .returned (if okV a (b + 1) 0 ⟨#[]⟩ = true then ver a (b + 1) 0 ⟨#[]⟩ else ver a b c p) ∧ Below w.heap.size w w' := by
  have q2 : ∀ W, _ := fun W => ok_spec W a (b + 1) 0 ⟨#[]⟩ (by show (0 : Nat) ≤ _; omega)
  obtain ⟨ok2, hok2⟩ : ∃ x, okV a (b + 1) 0 ⟨#[]⟩ = x := ⟨_, rfl⟩
  rw [hok2] at q2 ⊢
  clear hok2
  unfold ver at q2 ⊢
  have d0 : (part == 0) = false := by simp; omega
  have d1 : (part == 1) = true := by simpa using h0
  clear h0
  obtain ⟨hA, hB', hC⟩ : (∃ n : Nat, a = (n : Int) ∧ n ≤ 1000000) ∧ (∃ n : Nat, b = (n : Int) ∧ n ≤ 1000000) ∧ (∃ n : Nat, c = (n : Int) ∧ n ≤ 1000000) := by
    have h3 := hok
    unfold okV at h3
    simp only [Bool.and_eq_true] at h3
    exact ⟨inM_nat h3.1.1.1, inM_nat h3.1.1.2, inM_nat h3.1.2⟩
  have qa : 0 ≤ a ∧ a ≤ 1000000 := by obtain ⟨n, rfl, h⟩ := hA; omega
  have qb : 0 ≤ b ∧ b ≤ 1000000 := by obtain ⟨n, rfl, h⟩ := hB'; omega
  have qc : 0 ≤ c ∧ c ≤ 1000000 := by obtain ⟨n, rfl, h⟩ := hC; omega
  have q := ok_spec ((w.alloc (.cells #[.int .i64 a, .int .i64 b, .int .i64 c, .string p] 25)).alloc (.cells #[.int .i64 0, .int .i64 0, .int .i64 0, .string ⟨#[]⟩] 25)) a b c p hp
  rw [hok] at q
  have HR0 : Hid (Vr ((w.alloc (.cells #[.int .i64 a, .int .i64 b, .int .i64 c, .string p] 25)).alloc (.cells #[.int .i64 0, .int .i64 0, .int .i64 0, .string ⟨#[]⟩] 25)) w.heap.size a b c p) := Vr.same (w := w.alloc (.cells (vc a b c p) 25)) (heap_alloc_new w _) ((Below.refl _ _).alloc (Nat.le_refl _) _)
  have HR1 : Hid (Vr ((w.alloc (.cells #[.int .i64 a, .int .i64 b, .int .i64 c, .string p] 25)).alloc (.cells #[.int .i64 0, .int .i64 0, .int .i64 0, .string ⟨#[]⟩] 25)) (w.heap.size + 1) 0 0 0 ⟨#[]⟩) := heap_alloc2_new w _ _
  have HB : Hid (Below w.heap.size w ((w.alloc (.cells #[.int .i64 a, .int .i64 b, .int .i64 c, .string p] 25)).alloc (.cells #[.int .i64 0, .int .i64 0, .int .i64 0, .string ⟨#[]⟩] 25))) := ((Below.refl _ _).alloc (Nat.le_refl _) _).alloc (by simp) _
  unfold ver at q
  clear hok hA hB' hC
  go_enter Try.func14, Try.ntmps14
  go_wp2_with fail
  refine q.mono ?_
  rintro e w5 ⟨rfl, b5⟩
  have r0 := Vr.same HR0.out b5
  have r1 := Vr.same HR1.out b5
  have hb5 : Below w.heap.size w w5 := HB.out.trans (b5.mono (by simp; omega))
  have hs5 := hb5.size
  obtain ⟨y0, y1, y2, y3⟩ := Vr.cells r0
  have HR0' : Hid (Vr w5 w.heap.size a b c p) := r0
  have HR1' : Hid (Vr w5 (w.heap.size + 1) 0 0 0 ⟨#[]⟩) := r1
  have l0 := Vr.lt r0
  have l1 := Vr.lt r1
  clear HR0 HR1 HB q b5 r0 r1
  go_wp2_with fail
  refine (q2 _).mono ?_
  rintro e w6 ⟨rfl, b6⟩
  have s0 : Vr w6 w.heap.size a b c p := Vr.same (Vr.same HR0'.out ((Below.refl _ _).alloc (Nat.le_refl _) _)) b6
  have s1 : Vr w6 (w.heap.size + 1) 0 0 0 ⟨#[]⟩ := Vr.same (Vr.same HR1'.out ((Below.refl _ _).alloc (Nat.le_refl _) _)) b6
  have s5 : Vr w6 w5.heap.size a (b + 1) 0 ⟨#[]⟩ := Vr.same (w := w5.alloc (.cells (vc a (b + 1) 0 ⟨#[]⟩) 25)) (heap_alloc_new w5 _) b6
  have hb6 : Below w.heap.size w w6 := (hb5.alloc hs5 _).trans (b6.mono (by simp; omega))
  clear q2 y0 y1 y2 y3 HR0' HR1' b6
  cases ok2
  · have hx := hb6
    go_wp2_with (first | (refine wpList_load_row rfl 25 _ rfl w.heap.size rfl 25 (vc a b c p) (0, 0) _ s0 Try.underlying25 rfl (sizeV a b c p) ?_) | (refine wpList_store_row rfl 25 _ _ rfl (w.heap.size + 1) (vc a b c p) rfl rfl 25 (vc 0 0 0 ⟨#[]⟩) s1 (sizeV a b c p) rfl (oneV a b c p) ?_))
    exact bodyPost_ret (v := .agg (vc a b c p)) (results_cell_row rfl _ _ (w.heap.size + 1) 25 _ (0, 0) _ rfl (Vr.row s1 a b c p) Try.underlying25 rfl (sizeV a b c p)) rfl ⟨rfl, below_setRow hb6 (by omega) _⟩
  · have hx := hb6
    go_wp2_with (first | (refine wpList_load_row rfl 25 _ rfl w5.heap.size rfl 25 (vc a (b + 1) 0 ⟨#[]⟩) (0, 0) _ s5 Try.underlying25 rfl (sizeV a (b + 1) 0 ⟨#[]⟩) ?_) | (refine wpList_store_row rfl 25 _ _ rfl (w.heap.size + 1) (vc a (b + 1) 0 ⟨#[]⟩) rfl rfl 25 (vc 0 0 0 ⟨#[]⟩) s1 (sizeV a (b + 1) 0 ⟨#[]⟩) rfl (oneV a (b + 1) 0 ⟨#[]⟩) ?_))
    exact bodyPost_ret (v := .agg (vc a (b + 1) 0 ⟨#[]⟩)) (results_cell_row rfl _ _ (w.heap.size + 1) 25 _ (0, 0) _ rfl (Vr.row s1 a (b + 1) 0 ⟨#[]⟩) Try.underlying25 rfl (sizeV a (b + 1) 0 ⟨#[]⟩)) rfl ⟨rfl, below_setRow hb6 (by omega) _⟩

set_option maxRecDepth 1000000 in
set_option maxHeartbeats 1000000 in
theorem bump_2 (w : World) (a b c : Int) (p : ByteArray) (part : Int) (hp : p.size ≤ 1000000000000) (hok : okV a b c p = true) (h0 : part = 2) :
    Calls Try.prog 14 #[ver a b c p, .int .i64 part] w fun e w' => e = .returned (if okV a b (c + 1) ⟨#[]⟩ = true then ver a b (c + 1) ⟨#[]⟩ else ver a b c p) ∧ Below w.heap.size w w' := by
  have q2 : ∀ W, _ := fun W => ok_spec W a b (c + 1) ⟨#[]⟩ (by show (0 : Nat) ≤ _; omega)
  obtain ⟨ok2, hok2⟩ : ∃ x, okV a b (c + 1) ⟨#[]⟩ = x := ⟨_, rfl⟩
  rw [hok2] at q2 ⊢
  clear hok2
  unfold ver at q2 ⊢
  have d0 : (part == 0) = false := by simp; omega
  have d1 : (part == 1) = false := by simp; omega
  have d2 : (part == 2) = true := by simpa using h0
  clear h0
  obtain ⟨hA, hB', hC⟩ : (∃ n : Nat, a = (n : Int) ∧ n ≤ 1000000) ∧ (∃ n : Nat, b = (n : Int) ∧ n ≤ 1000000) ∧ (∃ n : Nat, c = (n : Int) ∧ n ≤ 1000000) := by
    have h3 := hok
    unfold okV at h3
    simp only [Bool.and_eq_true] at h3
    exact ⟨inM_nat h3.1.1.1, inM_nat h3.1.1.2, inM_nat h3.1.2⟩
  have qa : 0 ≤ a ∧ a ≤ 1000000 := by obtain ⟨n, rfl, h⟩ := hA; omega
  have qb : 0 ≤ b ∧ b ≤ 1000000 := by obtain ⟨n, rfl, h⟩ := hB'; omega
  have qc : 0 ≤ c ∧ c ≤ 1000000 := by obtain ⟨n, rfl, h⟩ := hC; omega
  have q := ok_spec ((w.alloc (.cells #[.int .i64 a, .int .i64 b, .int .i64 c, .string p] 25)).alloc (.cells #[.int .i64 0, .int .i64 0, .int .i64 0, .string ⟨#[]⟩] 25)) a b c p hp
  rw [hok] at q
  have HR0 : Hid (Vr ((w.alloc (.cells #[.int .i64 a, .int .i64 b, .int .i64 c, .string p] 25)).alloc (.cells #[.int .i64 0, .int .i64 0, .int .i64 0, .string ⟨#[]⟩] 25)) w.heap.size a b c p) := Vr.same (w := w.alloc (.cells (vc a b c p) 25)) (heap_alloc_new w _) ((Below.refl _ _).alloc (Nat.le_refl _) _)
  have HR1 : Hid (Vr ((w.alloc (.cells #[.int .i64 a, .int .i64 b, .int .i64 c, .string p] 25)).alloc (.cells #[.int .i64 0, .int .i64 0, .int .i64 0, .string ⟨#[]⟩] 25)) (w.heap.size + 1) 0 0 0 ⟨#[]⟩) := heap_alloc2_new w _ _
  have HB : Hid (Below w.heap.size w ((w.alloc (.cells #[.int .i64 a, .int .i64 b, .int .i64 c, .string p] 25)).alloc (.cells #[.int .i64 0, .int .i64 0, .int .i64 0, .string ⟨#[]⟩] 25))) := ((Below.refl _ _).alloc (Nat.le_refl _) _).alloc (by simp) _
  unfold ver at q
  clear hok hA hB' hC
  go_enter Try.func14, Try.ntmps14
  go_wp2_with fail
  refine q.mono ?_
  rintro e w5 ⟨rfl, b5⟩
  have r0 := Vr.same HR0.out b5
  have r1 := Vr.same HR1.out b5
  have hb5 : Below w.heap.size w w5 := HB.out.trans (b5.mono (by simp; omega))
  have hs5 := hb5.size
  obtain ⟨y0, y1, y2, y3⟩ := Vr.cells r0
  have HR0' : Hid (Vr w5 w.heap.size a b c p) := r0
  have HR1' : Hid (Vr w5 (w.heap.size + 1) 0 0 0 ⟨#[]⟩) := r1
  have l0 := Vr.lt r0
  have l1 := Vr.lt r1
  clear HR0 HR1 HB q b5 r0 r1
  go_wp2_with fail
  refine (q2 _).mono ?_
  rintro e w6 ⟨rfl, b6⟩
  have s0 : Vr w6 w.heap.size a b c p := Vr.same (Vr.same HR0'.out ((Below.refl _ _).alloc (Nat.le_refl _) _)) b6
  have s1 : Vr w6 (w.heap.size + 1) 0 0 0 ⟨#[]⟩ := Vr.same (Vr.same HR1'.out ((Below.refl _ _).alloc (Nat.le_refl _) _)) b6
  have s5 : Vr w6 w5.heap.size a b (c + 1) ⟨#[]⟩ := Vr.same (w := w5.alloc (.cells (vc a b (c + 1) ⟨#[]⟩) 25)) (heap_alloc_new w5 _) b6
  have hb6 : Below w.heap.size w w6 := (hb5.alloc hs5 _).trans (b6.mono (by simp; omega))
  clear q2 y0 y1 y2 y3 HR0' HR1' b6
  cases ok2
  · have hx := hb6
    go_wp2_with (first | (refine wpList_load_row rfl 25 _ rfl w.heap.size rfl 25 (vc a b c p) (0, 0) _ s0 Try.underlying25 rfl (sizeV a b c p) ?_) | (refine wpList_store_row rfl 25 _ _ rfl (w.heap.size + 1) (vc a b c p) rfl rfl 25 (vc 0 0 0 ⟨#[]⟩) s1 (sizeV a b c p) rfl (oneV a b c p) ?_))
    exact bodyPost_ret (v := .agg (vc a b c p)) (results_cell_row rfl _ _ (w.heap.size + 1) 25 _ (0, 0) _ rfl (Vr.row s1 a b c p) Try.underlying25 rfl (sizeV a b c p)) rfl ⟨rfl, below_setRow hb6 (by omega) _⟩
  · have hx := hb6
    go_wp2_with (first | (refine wpList_load_row rfl 25 _ rfl w5.heap.size rfl 25 (vc a b (c + 1) ⟨#[]⟩) (0, 0) _ s5 Try.underlying25 rfl (sizeV a b (c + 1) ⟨#[]⟩) ?_) | (refine wpList_store_row rfl 25 _ _ rfl (w.heap.size + 1) (vc a b (c + 1) ⟨#[]⟩) rfl rfl 25 (vc 0 0 0 ⟨#[]⟩) s1 (sizeV a b (c + 1) ⟨#[]⟩) rfl (oneV a b (c + 1) ⟨#[]⟩) ?_))
    exact bodyPost_ret (v := .agg (vc a b (c + 1) ⟨#[]⟩)) (results_cell_row rfl _ _ (w.heap.size + 1) 25 _ (0, 0) _ rfl (Vr.row s1 a b (c + 1) ⟨#[]⟩) Try.underlying25 rfl (sizeV a b (c + 1) ⟨#[]⟩)) rfl ⟨rfl, below_setRow hb6 (by omega) _⟩

set_option maxRecDepth 1000000 in
set_option maxHeartbeats 1000000 in
theorem bump_x (w : World) (a b c : Int) (p : ByteArray) (part : Int) (hp : p.size ≤ 1000000000000) (hok : okV a b c p = true) (h0 : ¬ part = 0) (h1 : ¬ part = 1) (h2 : ¬ part = 2) :
    Calls Try.prog 14 #[ver a b c p, .int .i64 part] w fun e w' => e = .returned (ver a b c p) ∧ Below w.heap.size w w' := by
  unfold ver
  have d0 : (part == 0) = false := by simpa using h0
  have d1 : (part == 1) = false := by simpa using h1
  have d2 : (part == 2) = false := by simpa using h2
  clear h0 h1 h2
  obtain ⟨hA, hB', hC⟩ : (∃ n : Nat, a = (n : Int) ∧ n ≤ 1000000) ∧ (∃ n : Nat, b = (n : Int) ∧ n ≤ 1000000) ∧ (∃ n : Nat, c = (n : Int) ∧ n ≤ 1000000) := by
    have h3 := hok
    unfold okV at h3
    simp only [Bool.and_eq_true] at h3
    exact ⟨inM_nat h3.1.1.1, inM_nat h3.1.1.2, inM_nat h3.1.2⟩
  have qa : 0 ≤ a ∧ a ≤ 1000000 := by obtain ⟨n, rfl, h⟩ := hA; omega
  have qb : 0 ≤ b ∧ b ≤ 1000000 := by obtain ⟨n, rfl, h⟩ := hB'; omega
  have qc : 0 ≤ c ∧ c ≤ 1000000 := by obtain ⟨n, rfl, h⟩ := hC; omega
  have q := ok_spec ((w.alloc (.cells #[.int .i64 a, .int .i64 b, .int .i64 c, .string p] 25)).alloc (.cells #[.int .i64 0, .int .i64 0, .int .i64 0, .string ⟨#[]⟩] 25)) a b c p hp
  rw [hok] at q
  have HR0 : Hid (Vr ((w.alloc (.cells #[.int .i64 a, .int .i64 b, .int .i64 c, .string p] 25)).alloc (.cells #[.int .i64 0, .int .i64 0, .int .i64 0, .string ⟨#[]⟩] 25)) w.heap.size a b c p) := Vr.same (w := w.alloc (.cells (vc a b c p) 25)) (heap_alloc_new w _) ((Below.refl _ _).alloc (Nat.le_refl _) _)
  have HR1 : Hid (Vr ((w.alloc (.cells #[.int .i64 a, .int .i64 b, .int .i64 c, .string p] 25)).alloc (.cells #[.int .i64 0, .int .i64 0, .int .i64 0, .string ⟨#[]⟩] 25)) (w.heap.size + 1) 0 0 0 ⟨#[]⟩) := heap_alloc2_new w _ _
  have HB : Hid (Below w.heap.size w ((w.alloc (.cells #[.int .i64 a, .int .i64 b, .int .i64 c, .string p] 25)).alloc (.cells #[.int .i64 0, .int .i64 0, .int .i64 0, .string ⟨#[]⟩] 25))) := ((Below.refl _ _).alloc (Nat.le_refl _) _).alloc (by simp) _
  unfold ver at q
  clear hok hA hB' hC
  go_enter Try.func14, Try.ntmps14
  go_wp2_with fail
  refine q.mono ?_
  rintro e w5 ⟨rfl, b5⟩
  have r0 := Vr.same HR0.out b5
  have r1 := Vr.same HR1.out b5
  have hb5 : Below w.heap.size w w5 := HB.out.trans (b5.mono (by simp; omega))
  have hs5 := hb5.size
  obtain ⟨y0, y1, y2, y3⟩ := Vr.cells r0
  have HR0' : Hid (Vr w5 w.heap.size a b c p) := r0
  have HR1' : Hid (Vr w5 (w.heap.size + 1) 0 0 0 ⟨#[]⟩) := r1
  have l0 := Vr.lt r0
  have l1 := Vr.lt r1
  clear HR0 HR1 HB q b5 r0 r1
  have s0 : Vr (w5.alloc (.cells #[.int .i64 a, .int .i64 b, .int .i64 (c + 1), .string ⟨#[]⟩] 25)) w.heap.size a b c p := Vr.same HR0'.out ((Below.refl _ _).alloc (Nat.le_refl _) _)
  have s1 : Vr (w5.alloc (.cells #[.int .i64 a, .int .i64 b, .int .i64 (c + 1), .string ⟨#[]⟩] 25)) (w.heap.size + 1) 0 0 0 ⟨#[]⟩ := Vr.same HR1'.out ((Below.refl _ _).alloc (Nat.le_refl _) _)
  have hb6 : Below w.heap.size w (w5.alloc (.cells #[.int .i64 a, .int .i64 b, .int .i64 (c + 1), .string ⟨#[]⟩] 25)) := hb5.alloc hs5 _
  go_wp2_with (first | (refine wpList_load_row rfl 25 _ rfl w.heap.size rfl 25 (vc a b c p) (0, 0) _ s0 Try.underlying25 rfl (sizeV a b c p) ?_) | (refine wpList_store_row rfl 25 _ _ rfl (w.heap.size + 1) (vc a b c p) rfl rfl 25 (vc 0 0 0 ⟨#[]⟩) s1 (sizeV a b c p) rfl (oneV a b c p) ?_))
  exact bodyPost_ret (v := .agg (vc a b c p)) (results_cell_row rfl _ _ (w.heap.size + 1) 25 _ (0, 0) _ rfl (Vr.row s1 a b c p) Try.underlying25 rfl (sizeV a b c p)) rfl ⟨rfl, below_setRow hb6 (by omega) _⟩

theorem bump_spec (w : World) (a b c : Int) (p : ByteArray) (part : Int) (hp : p.size ≤ 1000000000000) :
    Calls Try.prog 14 #[ver a b c p, .int .i64 part] w fun e w' => e = .returned (verQ (bump a b c p part)) ∧ Below w.heap.size w w' := by
  by_cases hok : okV a b c p = true
  · by_cases h0 : part = 0
    · refine (bump_0 w a b c p part hp hok h0).mono fun e w' h => ⟨h.1.trans ?_, h.2⟩
      unfold bump
      rw [if_pos hok, if_pos h0]
      split <;> rfl
    · by_cases h1 : part = 1
      · refine (bump_1 w a b c p part hp hok h1).mono fun e w' h => ⟨h.1.trans ?_, h.2⟩
        unfold bump
        rw [if_pos hok, if_neg h0, if_pos h1]
        split <;> rfl
      · by_cases h2 : part = 2
        · refine (bump_2 w a b c p part hp hok h2).mono fun e w' h => ⟨h.1.trans ?_, h.2⟩
          unfold bump
          rw [if_pos hok, if_neg h0, if_neg h1, if_pos h2]
          split <;> rfl
        · refine (bump_x w a b c p part hp hok h0 h1 h2).mono fun e w' h => ⟨h.1.trans ?_, h.2⟩
          unfold bump
          rw [if_pos hok, if_neg h0, if_neg h1, if_neg h2]
          rfl
  · refine (bump_no w a b c p part hp (by simpa using hok)).mono fun e w' h => ⟨h.1.trans ?_, h.2⟩
    unfold bump
    rw [if_neg hok]
    rfl

end Go.Proofs.Ytnoopfpgkgjdcab.Ver
