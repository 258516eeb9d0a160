/- Texts in one: EntD, EntQ, VerL, Ent3, Ent4, Ent5, Ent6, Puts. -/
import Derived.Test.YtljlcelbhlkmcabGreatDoorPk11
import Derived.Test.YtljlcelbhlkmcabGreatDoorPk7
import Derived.Test.YtljlcelbhlkmcabGreatDoorPk10
import Derived.Test.YtljlcelbhlkmcabGreatDoorPk8
import Derived.Test.YtljlcelbhlkmcabGreatDoorPk9
import Derived.Test.YtljlcelbhlkmcabGreatDoorPk2
import Derived.Test.YtljlcelbhlkmcabGreatDoorPk3
import Derived.Laws.CopyOwn
/- Chapter 5, draws: a need. -/
namespace Go.Proofs.YtljlcelbhlkmcabGreatDoor.Ent
open Go.RowKit Go.Proofs.YtljlcelbhlkmcabGreatDoor.Mem Go.Proofs.YtljlcelbhlkmcabGreatDoor.Laws Go.Proofs.YtljlcelbhlkmcabGreatDoor.Bytes Go.Proofs.YtljlcelbhlkmcabGreatDoor.Sha Go.Proofs.YtljlcelbhlkmcabGreatDoor.Ver Go.Proofs.YtljlcelbhlkmcabGreatDoor.Mod Go.Proofs.YtljlcelbhlkmcabGreatDoor.Draw
set_option linter.unusedVariables false
set_option linter.unusedSimpArgs false

theorem pathL_ok : ∀ s ∈ pathL, path4 (sb s) = true ∧ (major4 s = 1 ∨ major4 s = 2) := by decide +kernel
theorem preL_ok : ∀ p ∈ preL, (decide (p.size = 0) || Ver.pre (sb p)) = true := by decide +kernel
theorem rowApart {w w' : World} {g q : Nat} {o : Obj} (h : w.heap[q]? = some o) (ha : Apart g (g + 1) w w') (hne : q ≠ g) : w'.heap[q]? = some o := (ha.block q (Array.getElem?_eq_some_iff.1 h).1 (by omega)).trans h

/-- what a drawn need is -/
def Dn (n : Nd) : Prop := n.path ∈ pathL ∧ n.ok = true ∧ n.pre ∈ preL
theorem Dn.size {n : Nd} (h : Dn n) : n.path.size ≤ 60 ∧ n.pre.size ≤ 9 := ⟨pathL_size _ h.1, Nat.le_trans (preL_size _ h.2.2) (by omega)⟩
theorem dn_of {s : ByteArray} {a b c : Int} {p : ByteArray} (hs : s ∈ pathL) (hd : Dv a b c p) {m : Int} (hm : m = major4 s ∨ (major4 s = 1 ∧ m = 0)) : Dn ⟨s, m, b, c, p⟩ := by
  obtain ⟨h1, h2⟩ := pathL_ok s hs
  obtain ⟨_, hb, hc, hp⟩ := hd
  refine ⟨hs, ?_, hp⟩
  have hok : okV m b c p = true := by
    unfold okV inM
    rw [preL_ok p hp]
    simp
    omega
  show fits4 s m b c p = true
  unfold fits4
  rw [hok]
  simp
  omega

set_option maxRecDepth 1000000 in
set_option maxHeartbeats 2000000 in
theorem need_any (W0 w : World) (g : Nat) (vb : Value) (xs : List Int) (hs : Sl W0 vb (bs xs)) (hby : Byt xs) (hx : xs.length ≤ 140737488355328) (hB : Below W0.heap.size W0 w) (hg : W0.heap.size ≤ g) (hc : Cur w g vb xs.length) :
    Calls Tryz.prog 42 #[.pointer (some ⟨g, 0, none⟩)] w fun e w' => ∃ n : Nd, e = .returned (.agg #[.string n.path, .int .i64 n.a, .int .i64 n.b, .int .i64 n.c, .string n.pre]) ∧ Dn n ∧ Drawn W0 w g vb xs w' := by
  have hgw := hc.lt
  obtain ⟨W1, HW1, HR1, HD1⟩ : ∃ W1, Hid (w.alloc (.cells #[.string ⟨#[]⟩, .int .i64 0, .int .i64 0, .int .i64 0, .string ⟨#[]⟩] 35) = W1) ∧ Hid (W1.heap[w.heap.size]? = some (.cells (nc5 nil5) 35 (0, 0))) ∧ Hid (Drawn W0 w g vb xs W1) :=
    ⟨_, rfl, heap_alloc_new w _, (Drawn.refl hB hc).on hg hgw ((Below.refl _ _).alloc (Nat.le_refl _) _)⟩
  have q1 := path_any W0 W1 g vb xs hs hby hx HD1.out.below hg HD1.out.cur
  rw [← HW1.out] at q1
  go_enter Tryz.func42, Tryz.ntmps42
  go_wp2_with fail
  refine q1.mono ?_
  rw [HW1.out]
  rintro e w2 ⟨s, rfl, hsm, d2⟩
  have D2 : Hid (Drawn W0 w g vb xs w2) := HD1.out.and d2
  have R2 : Hid (w2.heap[w.heap.size]? = some (.cells (nc5 nil5) 35 (0, 0))) := rowApart HR1.out d2.apart (by omega)
  have q2 := draw_agg W0 w2 g vb xs hs hby hx D2.out.below hg D2.out.cur
  clear q1 HW1 HR1 HD1 d2
  go_wp2_with fail
  refine q2.mono ?_
  rintro e w3 ⟨a, b, c, p, rfl, hdv, d3⟩
  have D3 : Drawn W0 w g vb xs w3 := D2.out.and d3
  have hlt3 : w.heap.size < w3.heap.size := Nat.lt_of_lt_of_le (Array.getElem?_eq_some_iff.1 R2.out).1 d3.apart.size
  have hsz := pathL_size s hsm
  obtain ⟨W4, HW4, HR4, HN4, HD4⟩ : ∃ W4, Hid (w3.alloc (.cells #[.string s, .int .i64 a, .int .i64 b, .int .i64 c, .string p] 35) = W4) ∧ Hid (W4.heap[w.heap.size]? = some (.cells (nc5 nil5) 35 (0, 0))) ∧ Hid (Nr W4 w3.heap.size ⟨s, a, b, c, p⟩) ∧ Hid (Drawn W0 w g vb xs W4) :=
    ⟨_, rfl, rowKeep (rowApart R2.out d3.apart (by omega)) ((Below.refl _ _).alloc (Nat.le_refl _) _), heap_alloc_new w3 _, D3.on hg hgw ((Below.refl _ _).alloc (by omega) _)⟩
  have q3 := major_spec W4 s (by omega)
  rw [← HW4.out] at q3
  clear q2 R2 D2 d3 D3
  go_wp2_with fail
  refine q3.mono ?_
  rw [HW4.out]
  rintro e w5 ⟨rfl, b5⟩
  have R5 : Hid (w5.heap[w.heap.size]? = some (.cells (nc5 nil5) 35 (0, 0))) := rowKeep HR4.out b5
  have N5 : Nr w5 w3.heap.size ⟨s, a, b, c, p⟩ := rowKeep HN4.out b5
  have D5 : Hid (Drawn W0 w g vb xs w5) := HD4.out.on hg hgw (b5.mono (Nat.le_trans (by omega) (Nat.le_of_lt (Array.getElem?_eq_some_iff.1 HN4.out).1)))
  obtain ⟨k0, k1, k2, k3, k4⟩ := Nr.cells N5
  have f1 : w5.frozen? ⟨w3.heap.size, 1, none⟩ = false := frozen_of_row w5 _ 1 _ _ N5
  have hmj := pathL_ok s hsm
  obtain ⟨m, hm⟩ : ∃ m, major4 s = m := ⟨_, rfl⟩
  rw [hm]
  have HM : Hid (major4 s = m) := hm
  obtain ⟨W6, HW6, HR6, HN6, HD6⟩ : ∃ W6, Hid (w5.setCell ⟨w3.heap.size, 1, none⟩ (.int .i64 m) = W6) ∧ Hid (W6.heap[w.heap.size]? = some (.cells (nc5 nil5) 35 (0, 0))) ∧ Hid (Nr W6 w3.heap.size ⟨s, m, b, c, p⟩) ∧ Hid (Drawn W0 w g vb xs W6) := by
    refine ⟨_, rfl, (heap_setCell_other w5 ⟨w3.heap.size, 1, none⟩ _ _ (by show w.heap.size ≠ w3.heap.size; omega)).trans R5.out, ?_, D5.out.on hg hgw ((Below.refl _ _).setCell (p := ⟨w3.heap.size, 1, none⟩) (by show _ ≤ w3.heap.size; omega) _)⟩
    show (w5.setCell _ _).heap[w3.heap.size]? = _
    rw [heap_setCell_same w5 _ 1 _ _ _ N5]
    rfl
  have c1 : (w5.setCell ⟨w3.heap.size, 1, none⟩ (.int .i64 m)).cell? ⟨w3.heap.size, 1, none⟩ = some (.int .i64 m) := by rw [HW6.out]; exact (Nr.cells HN6.out).2.1
  clear q3 HW4 HR4 HN4 HD4 R5 N5 D5 k2 k3 k4 b5 hm
  by_cases hm1 : m = 1
  · have q4 := once_any W0 W6 g vb xs 4 (by omega) (by omega) hs hby hx HD6.out.below hg HD6.out.cur
    rw [← HW6.out] at q4
    have dm : (m == 1) = true := by simpa using hm1
    have HM1 : Hid (m = 1) := hm1
    clear hm1
    go_wp2_with fail
    refine q4.mono ?_
    rw [HW6.out]
    rintro e w7 ⟨on, rfl, d7⟩
    have R7 : Hid (w7.heap[w.heap.size]? = some (.cells (nc5 nil5) 35 (0, 0))) := rowApart HR6.out d7.apart (by omega)
    have N7 : Nr w7 w3.heap.size ⟨s, m, b, c, p⟩ := rowApart HN6.out d7.apart (by omega)
    have D7 : Hid (Drawn W0 w g vb xs w7) := HD6.out.and d7
    clear q4 c1 k0 k1 f1 HW6 HR6 HN6 HD6 d7
    cases on
    · have HDn : Hid (Dn ⟨s, m, b, c, p⟩) := dn_of hsm hdv (.inl HM.out.symm)
      have N7' : Hid _ := N7
      clear N7
      go_wp2_with (first | (refine wpList_load_row rfl 35 _ rfl w3.heap.size rfl 35 (nc5 ⟨s, m, b, c, p⟩) (0, 0) _ N7'.out Tryz.underlying35 rfl (sizeN5 _) ?_) | (refine wpList_store_row rfl 35 _ _ rfl w.heap.size (nc5 ⟨s, m, b, c, p⟩) rfl rfl 35 _ R7.out (sizeN5 _) rfl (oneN5 _) ?_))
      exact bodyPost_ret (v := .agg (nc5 ⟨s, m, b, c, p⟩)) (results_cell_row rfl _ _ w.heap.size 35 _ (0, 0) _ rfl (setRow_heap _ _ _ _ _ (0, 0) R7.out) Tryz.underlying35 rfl (sizeN5 _)) rfl ⟨⟨s, m, b, c, p⟩, rfl, HDn.out, (D7.out).on hg hgw (below_setRow (Below.refl _ _) (Nat.le_refl _) _)⟩
    · have HDn : Hid (Dn ⟨s, 0, b, c, p⟩) := dn_of hsm hdv (.inr ⟨by rw [HM.out, HM1.out], rfl⟩)
      have k1 := (Nr.cells N7).2.1
      have f1 : w7.frozen? ⟨w3.heap.size, 1, none⟩ = false := frozen_of_row w7 _ 1 _ _ N7
      have HN8 : Hid (Nr (w7.setCell ⟨w3.heap.size, 1, none⟩ (.int .i64 0)) w3.heap.size ⟨s, 0, b, c, p⟩) := by
        show (w7.setCell _ _).heap[w3.heap.size]? = _
        rw [heap_setCell_same w7 _ 1 _ _ _ N7]
        rfl
      have HR8 : Hid ((w7.setCell ⟨w3.heap.size, 1, none⟩ (.int .i64 0)).heap[w.heap.size]? = some (.cells (nc5 nil5) 35 (0, 0))) := (heap_setCell_other w7 ⟨w3.heap.size, 1, none⟩ _ _ (by show w.heap.size ≠ w3.heap.size; omega)).trans R7.out
      have HD8 : Hid (Drawn W0 w g vb xs (w7.setCell ⟨w3.heap.size, 1, none⟩ (.int .i64 0))) := D7.out.on hg hgw ((Below.refl _ _).setCell (p := ⟨w3.heap.size, 1, none⟩) (by show _ ≤ w3.heap.size; omega) _)
      clear N7 R7 D7
      go_wp2_with (first | (refine wpList_load_row rfl 35 _ rfl w3.heap.size rfl 35 (nc5 ⟨s, 0, b, c, p⟩) (0, 0) _ HN8.out Tryz.underlying35 rfl (sizeN5 _) ?_) | (refine wpList_store_row rfl 35 _ _ rfl w.heap.size (nc5 ⟨s, 0, b, c, p⟩) rfl rfl 35 _ HR8.out (sizeN5 _) rfl (oneN5 _) ?_))
      exact bodyPost_ret (v := .agg (nc5 ⟨s, 0, b, c, p⟩)) (results_cell_row rfl _ _ w.heap.size 35 _ (0, 0) _ rfl (setRow_heap _ _ _ _ _ (0, 0) HR8.out) Tryz.underlying35 rfl (sizeN5 _)) rfl ⟨⟨s, 0, b, c, p⟩, rfl, HDn.out, (HD8.out).on hg hgw (below_setRow (Below.refl _ _) (Nat.le_refl _) _)⟩
  · have dm : (m == 1) = false := by simpa using hm1
    have HDn : Hid (Dn ⟨s, m, b, c, p⟩) := dn_of hsm hdv (.inl HM.out.symm)
    rw [← HW6.out] at HR6 HN6 HD6
    clear hm1 k0
    go_wp2_with (first | (refine wpList_load_row rfl 35 _ rfl w3.heap.size rfl 35 (nc5 ⟨s, m, b, c, p⟩) (0, 0) _ HN6.out Tryz.underlying35 rfl (sizeN5 _) ?_) | (refine wpList_store_row rfl 35 _ _ rfl w.heap.size (nc5 ⟨s, m, b, c, p⟩) rfl rfl 35 _ HR6.out (sizeN5 _) rfl (oneN5 _) ?_))
    exact bodyPost_ret (v := .agg (nc5 ⟨s, m, b, c, p⟩)) (results_cell_row rfl _ _ w.heap.size 35 _ (0, 0) _ rfl (setRow_heap _ _ _ _ _ (0, 0) HR6.out) Tryz.underlying35 rfl (sizeN5 _)) rfl ⟨⟨s, m, b, c, p⟩, rfl, HDn.out, (HD6.out).on hg hgw (below_setRow (Below.refl _ _) (Nat.le_refl _) _)⟩

end Go.Proofs.YtljlcelbhlkmcabGreatDoor.Ent

/- Chapter 5, draws: a need put in order; plain facts alone. -/
namespace Go.Proofs.YtljlcelbhlkmcabGreatDoor.Ent
open Go.RowKit Go.Proofs.YtljlcelbhlkmcabGreatDoor.Mem Go.Proofs.YtljlcelbhlkmcabGreatDoor.Laws Go.Proofs.YtljlcelbhlkmcabGreatDoor.Bytes Go.Proofs.YtljlcelbhlkmcabGreatDoor.Sha Go.Proofs.YtljlcelbhlkmcabGreatDoor.Ver Go.Proofs.YtljlcelbhlkmcabGreatDoor.Mod Go.Proofs.YtljlcelbhlkmcabGreatDoor.Draw
set_option linter.unusedVariables false
set_option linter.unusedSimpArgs false

/-- one round of putting n in order -/
def stepA (n : Nd) (s : List Nd × Bool) (x : Nd) : List Nd × Bool := if (!s.2 && !ltT x.path n.path) = true then (s.1 ++ [n], true) else s
def stepB (n : Nd) (s : List Nd × Bool) (x : Nd) : List Nd × Bool := if eqT x.path n.path = false then (s.1 ++ [x], s.2) else s
def stepN (n : Nd) (s : List Nd × Bool) (x : Nd) : List Nd × Bool := stepB n (stepA n s x) x
def insN (l : List Nd) (n : Nd) : List Nd := if (l.foldl (stepN n) ([], false)).2 = true then (l.foldl (stepN n) ([], false)).1 else (l.foldl (stepN n) ([], false)).1 ++ [n]

theorem stepN_len (n : Nd) (s : List Nd × Bool) (x : Nd) : (stepN n s x).1.length ≤ s.1.length + 2 := by
  unfold stepN stepB stepA
  split <;> split <;> simp <;> omega
theorem fold_len (n : Nd) : ∀ (l : List Nd) (s : List Nd × Bool), (l.foldl (stepN n) s).1.length ≤ s.1.length + 2 * l.length := by
  intro l
  induction l with
  | nil => intro s; simp
  | cons x r ih =>
    intro s
    have h1 := ih (stepN n s x)
    have h2 := stepN_len n s x
    simp only [List.foldl_cons, List.length_cons]
    omega
theorem stepA_mem {n : Nd} {s : List Nd × Bool} {x y : Nd} (h : y ∈ (stepA n s x).1) : y ∈ s.1 ∨ y = n := by
  unfold stepA at h
  split at h
  · rcases List.mem_append.1 h with h | h
    · exact .inl h
    · simp at h; exact .inr h
  · exact .inl h
theorem stepN_mem {n : Nd} {s : List Nd × Bool} {x y : Nd} (h : y ∈ (stepN n s x).1) : y ∈ s.1 ∨ y = n ∨ y = x := by
  unfold stepN stepB at h
  split at h
  · rcases List.mem_append.1 h with h | h
    · rcases stepA_mem h with h | h
      · exact .inl h
      · exact .inr (.inl h)
    · simp at h; exact .inr (.inr h)
  · rcases stepA_mem h with h | h
    · exact .inl h
    · exact .inr (.inl h)
theorem fold_mem {n : Nd} : ∀ (l : List Nd) (s : List Nd × Bool) (y : Nd), y ∈ (l.foldl (stepN n) s).1 → y ∈ s.1 ∨ y = n ∨ y ∈ l := by
  intro l
  induction l with
  | nil => intro s y h; exact .inl h
  | cons x r ih =>
    intro s y h
    rcases ih _ _ h with h | h | h
    · rcases stepN_mem h with h | h | h
      · exact .inl h
      · exact .inr (.inl h)
      · exact .inr (.inr (by simp [h]))
    · exact .inr (.inl h)
    · exact .inr (.inr (by simp [h]))
theorem ins_mem {l : List Nd} {n y : Nd} (h : y ∈ insN l n) : y = n ∨ y ∈ l := by
  unfold insN at h
  split at h
  · rcases fold_mem _ _ _ h with h | h
    · cases h
    · exact h
  · rcases List.mem_append.1 h with h | h
    · rcases fold_mem _ _ _ h with h | h
      · cases h
      · exact h
    · simp at h; exact .inl h

def lts (n : Nd) (x : Nd) : Bool := ltT x.path n.path
def nes (n : Nd) (x : Nd) : Bool := !eqT x.path n.path
theorem fold_true (n : Nd) : ∀ (l out : List Nd), l.foldl (stepN n) (out, true) = (out ++ l.filter (nes n), true) := by
  intro l
  induction l with
  | nil => intro out; simp
  | cons x r ih =>
    intro out
    rw [List.foldl_cons]
    have hA : stepA n (out, true) x = (out, true) := by unfold stepA; simp
    rw [show stepN n (out, true) x = stepB n (stepA n (out, true) x) x from rfl, hA]
    cases he : eqT x.path n.path
    · have hB : stepB n (out, true) x = (out ++ [x], true) := by unfold stepB; rw [he]; simp
      rw [hB, ih, List.filter_cons_of_pos (by unfold nes; rw [he]; rfl)]
      simp
    · have hB : stepB n (out, true) x = (out, true) := by unfold stepB; rw [he]; simp
      rw [hB, ih, List.filter_cons_of_neg (by unfold nes; rw [he]; simp)]
theorem fold_false (n : Nd) : ∀ (l out : List Nd), (∀ x ∈ l, ltT x.path n.path = true → eqT x.path n.path = false) → l.foldl (stepN n) (out, false) = if (l.dropWhile (lts n)) = [] then (out ++ l, false) else (out ++ l.takeWhile (lts n) ++ [n] ++ (l.dropWhile (lts n)).filter (nes n), true) := by
  intro l
  induction l with
  | nil => intro out _; simp
  | cons x r ih =>
    intro out hirr
    rw [List.foldl_cons]
    cases hl : ltT x.path n.path
    · have hA : stepA n (out, false) x = (out ++ [n], true) := by unfold stepA; rw [hl]; simp
      have hd : (x :: r).dropWhile (lts n) = x :: r := by rw [List.dropWhile_cons_of_neg (by unfold lts; rw [hl]; simp)]
      have ht : (x :: r).takeWhile (lts n) = [] := by rw [List.takeWhile_cons_of_neg (by unfold lts; rw [hl]; simp)]
      rw [hd, ht, if_neg (by simp), show stepN n (out, false) x = stepB n (stepA n (out, false) x) x from rfl, hA]
      cases he : eqT x.path n.path
      · have hB : stepB n (out ++ [n], true) x = (out ++ [n] ++ [x], true) := by unfold stepB; rw [he]; simp
        rw [hB, fold_true, List.filter_cons_of_pos (by unfold nes; rw [he]; rfl)]
        simp
      · have hB : stepB n (out ++ [n], true) x = (out ++ [n], true) := by unfold stepB; rw [he]; simp
        rw [hB, fold_true, List.filter_cons_of_neg (by unfold nes; rw [he]; simp)]
        simp
    · have hA : stepA n (out, false) x = (out, false) := by unfold stepA; rw [hl]; simp
      have hB : stepB n (out, false) x = (out ++ [x], false) := by unfold stepB; rw [hirr x (by simp) hl]; simp
      have hd : (x :: r).dropWhile (lts n) = r.dropWhile (lts n) := by rw [List.dropWhile_cons_of_pos (by unfold lts; rw [hl])]
      have ht : (x :: r).takeWhile (lts n) = x :: r.takeWhile (lts n) := by rw [List.takeWhile_cons_of_pos (by unfold lts; rw [hl])]
      rw [hd, ht, show stepN n (out, false) x = stepB n (stepA n (out, false) x) x from rfl, hA, hB, ih _ (fun y hy => hirr y (by simp [hy]))]
      by_cases hn : r.dropWhile (lts n) = []
      · rw [if_pos hn, if_pos hn]; simp
      · rw [if_neg hn, if_neg hn]; simp

theorem pathL_lt : ∀ a ∈ pathL, ∀ b ∈ pathL, (ltT a b = true → eqT a b = false) ∧ (ltT a b = true ∨ eqT a b = true ∨ ltT b a = true) ∧ (eqT a b = true → ∀ c ∈ pathL, ltT a c = ltT b c) ∧ ∀ c ∈ pathL, ltT a b = true → ltT b c = true → ltT a c = true := by decide +kernel

/-- needs in order, with drawn paths -/
def Srt (l : List Nd) : Prop := (∀ x ∈ l, Dn x) ∧ l.Pairwise fun x y => ltT x.path y.path = true
theorem mem_drop_head {α : Type} (p : α → Bool) : ∀ (l : List α) (z : α) (r : List α), l.dropWhile p = z :: r → p z = false ∧ ∃ a, l = a ++ z :: r := by
  intro l
  induction l with
  | nil => intro z r h; simp at h
  | cons x l ih =>
    intro z r h
    cases hp : p x
    · rw [List.dropWhile_cons_of_neg (by simp [hp])] at h
      simp only [List.cons.injEq] at h
      obtain ⟨rfl, rfl⟩ := h
      exact ⟨hp, [], rfl⟩
    · rw [List.dropWhile_cons_of_pos hp] at h
      obtain ⟨h1, a, h2⟩ := ih z r h
      exact ⟨h1, x :: a, by rw [h2]; rfl⟩
theorem take_lt {α : Type} (p : α → Bool) : ∀ (l : List α), ∀ x ∈ l.takeWhile p, p x = true ∧ x ∈ l := by
  intro l
  induction l with
  | nil => intro x hx; cases hx
  | cons y l ih =>
    intro x hx
    cases hp : p y
    · rw [List.takeWhile_cons_of_neg (by simp [hp])] at hx; cases hx
    · rw [List.takeWhile_cons_of_pos hp] at hx
      rcases List.mem_cons.1 hx with rfl | hx
      · exact ⟨hp, by simp⟩
      · have := ih x hx
        exact ⟨this.1, by simp [this.2]⟩
theorem drop_gt {l : List Nd} {n : Nd} (hl : Srt l) (hn : Dn n) : ∀ y ∈ (l.dropWhile (lts n)).filter (nes n), y ∈ l ∧ ltT n.path y.path = true := by
  intro y hy
  obtain ⟨hy1, hy2⟩ := List.mem_filter.1 hy
  cases hd : l.dropWhile (lts n) with
  | nil => rw [hd] at hy1; cases hy1
  | cons z r =>
    obtain ⟨hz, a, ha⟩ := mem_drop_head _ _ _ _ hd
    rw [hd] at hy1
    have hzl : z ∈ l := by rw [ha]; simp
    have hyl : y ∈ l := by rw [ha]; exact List.mem_append_right _ hy1
    have hzy : y = z ∨ ltT z.path y.path = true := by
      rcases List.mem_cons.1 hy1 with h | h
      · exact .inl h
      · have hp := hl.2
        rw [ha, List.pairwise_append] at hp
        exact .inr ((List.pairwise_cons.1 hp.2.1).1 y h)
    have hze : eqT y.path n.path = false := by unfold nes at hy2; simpa using hy2
    have pz := (hl.1 z hzl).1
    have py := (hl.1 y hyl).1
    have pn := hn.1
    refine ⟨hyl, ?_⟩
    have hz' : ltT z.path n.path = false := hz
    rcases (pathL_lt z.path pz n.path pn).2.1 with h | h | h
    · rw [hz'] at h; cases h
    · rcases hzy with rfl | h2
      · rw [hze] at h; cases h
      · rw [← (pathL_lt z.path pz n.path pn).2.2.1 h y.path py]; exact h2
    · rcases hzy with rfl | h2
      · exact h
      · exact (pathL_lt n.path pn z.path pz).2.2.2 y.path py h h2
/-- a need put in order: they stay in order -/
theorem ins_srt {l : List Nd} {n : Nd} (hl : Srt l) (hn : Dn n) : Srt (insN l n) ∧ (insN l n).length ≤ l.length + 1 := by
  have hm : ∀ x ∈ insN l n, Dn x := by
    intro x hx
    rcases ins_mem hx with rfl | h
    · exact hn
    · exact hl.1 x h
  have hf := fold_false n l [] (fun x hx => (pathL_lt x.path (hl.1 x hx).1 n.path hn.1).1)
  have hall : ∀ x ∈ l.takeWhile (lts n), ltT x.path n.path = true ∧ x ∈ l := take_lt (lts n) l
  have htd : l.takeWhile (lts n) ++ l.dropWhile (lts n) = l := List.takeWhile_append_dropWhile
  have hlen : (l.takeWhile (lts n)).length + (l.dropWhile (lts n)).length = l.length := by rw [← List.length_append, htd]
  by_cases hd : l.dropWhile (lts n) = []
  · rw [if_pos hd] at hf
    have hi : insN l n = l ++ [n] := by unfold insN; rw [hf]; simp
    have ht : l.takeWhile (lts n) = l := by rw [hd, List.append_nil] at htd; exact htd
    rw [ht] at hall
    refine ⟨⟨hm, ?_⟩, by rw [hi]; simp⟩
    rw [hi, List.pairwise_append]
    exact ⟨hl.2, by simp, fun a ha b hb => by simp at hb; subst hb; exact (hall a ha).1⟩
  · rw [if_neg hd] at hf
    have hi : insN l n = l.takeWhile (lts n) ++ [n] ++ (l.dropWhile (lts n)).filter (nes n) := by unfold insN; rw [hf]; simp
    have hgt := drop_gt hl hn
    refine ⟨⟨hm, ?_⟩, ?_⟩
    · rw [hi, List.pairwise_append, List.pairwise_append]
      refine ⟨⟨hl.2.sublist (List.takeWhile_sublist _), by simp, fun a ha b hb => by simp at hb; subst hb; exact (hall a ha).1⟩, (hl.2.sublist (List.dropWhile_sublist _)).sublist List.filter_sublist, ?_⟩
      intro a ha b hb
      obtain ⟨hbl, hbn⟩ := hgt b hb
      rcases List.mem_append.1 ha with ha | ha
      · obtain ⟨h1, h2⟩ := hall a ha
        exact (pathL_lt a.path (hl.1 a h2).1 n.path hn.1).2.2.2 b.path (hl.1 b hbl).1 h1 hbn
      · simp at ha; subst ha; exact hbn
    · rw [hi]
      have := List.length_filter_le (nes n) (l.dropWhile (lts n))
      simp
      omega
theorem srt_rise : ∀ l : List Nd, Srt l → rise l = true := by
  intro l
  induction l with
  | nil => intro _; rfl
  | cons x r ih =>
    intro h
    have hr : Srt r := ⟨fun y hy => h.1 y (by simp [hy]), (List.pairwise_cons.1 h.2).2⟩
    cases r with
    | nil => exact (h.1 x (by simp)).2.1
    | cons y r =>
      show (x.ok && ltT x.path y.path && rise (y :: r)) = true
      rw [(h.1 x (by simp)).2.1, (List.pairwise_cons.1 h.2).1 y (by simp), ih hr]
      rfl

end Go.Proofs.YtljlcelbhlkmcabGreatDoor.Ent

/- The laws' helpers of chapter 3: a version's size, its turning, whether two are the same. -/
namespace Go.Proofs.YtljlcelbhlkmcabGreatDoor.Ver
open Go.RowKit Go.Proofs.YtljlcelbhlkmcabGreatDoor.Mem Go.Proofs.YtljlcelbhlkmcabGreatDoor.Laws Go.Proofs.YtljlcelbhlkmcabGreatDoor.Bytes Go.Proofs.YtljlcelbhlkmcabGreatDoor.Sha
set_option linter.unusedVariables false
set_option linter.unusedSimpArgs false

end Go.Proofs.YtljlcelbhlkmcabGreatDoor.Ver

/- Chapter 5, the laws' helpers: a need's size, its turning, whether two are the same; lists of needs. -/
namespace Go.Proofs.YtljlcelbhlkmcabGreatDoor.Ent
open Go.RowKit Go.Proofs.YtljlcelbhlkmcabGreatDoor.Mem Go.Proofs.YtljlcelbhlkmcabGreatDoor.Laws Go.Proofs.YtljlcelbhlkmcabGreatDoor.Bytes Go.Proofs.YtljlcelbhlkmcabGreatDoor.Sha Go.Proofs.YtljlcelbhlkmcabGreatDoor.Ver Go.Proofs.YtljlcelbhlkmcabGreatDoor.Mod
set_option linter.unusedVariables false
set_option linter.unusedSimpArgs false

def nc (n : Nd) : Array Value := #[.string n.path, .int .i64 n.a, .int .i64 n.b, .int .i64 n.c, .string n.pre]
theorem sizeN (n : Nd) : (Tryz.prog.info? 35).map (·.size) = some (nc n).size := by
  show _ = some 5
  kernel_rfl
theorem sizeV4 (a b c : Int) (p : ByteArray) : (Tryz.prog.info? 25).map (·.size) = some (vc a b c p).size := by
  show _ = some 4
  kernel_rfl
theorem oneN (n : Nd) : (nc n).all (·.oneCell') = true := by simp [nc, Value.oneCell']
theorem row_cells {w : World} {g : Nat} {cs : Array Value} {t : TypeId} {fr : Nat × Nat} (h : w.heap[g]? = some (.cells cs t fr)) (j : Nat) : w.cell? ⟨g, j, none⟩ = cs[j]? := by simp [World.cell?, h]

theorem infoN : (Tryz.prog.info? 35).map (fun i => (i.zero, i.size, i.bytes)) = some (some (.agg #[.string ⟨#[]⟩, .int .i64 0, .int .i64 0, .int .i64 0, .string ⟨#[]⟩]), 5, 56) := by kernel_rfl

end Go.Proofs.YtljlcelbhlkmcabGreatDoor.Ent

/- Chapter 5, the laws' helpers: whether two lists of needs are the same. -/
namespace Go.Proofs.YtljlcelbhlkmcabGreatDoor.Ent
open Go.RowKit Go.Proofs.YtljlcelbhlkmcabGreatDoor.Mem Go.Proofs.YtljlcelbhlkmcabGreatDoor.Laws Go.Proofs.YtljlcelbhlkmcabGreatDoor.Bytes Go.Proofs.YtljlcelbhlkmcabGreatDoor.Sha Go.Proofs.YtljlcelbhlkmcabGreatDoor.Ver Go.Proofs.YtljlcelbhlkmcabGreatDoor.Mod
set_option linter.unusedVariables false
set_option linter.unusedSimpArgs false

end Go.Proofs.YtljlcelbhlkmcabGreatDoor.Ent

/- Chapter 5, the laws' helpers: an entry's size, its turning, whether two are the same. -/
namespace Go.Proofs.YtljlcelbhlkmcabGreatDoor.Ent
open Go.RowKit Go.Proofs.YtljlcelbhlkmcabGreatDoor.Mem Go.Proofs.YtljlcelbhlkmcabGreatDoor.Laws Go.Proofs.YtljlcelbhlkmcabGreatDoor.Bytes Go.Proofs.YtljlcelbhlkmcabGreatDoor.Sha Go.Proofs.YtljlcelbhlkmcabGreatDoor.Ver Go.Proofs.YtljlcelbhlkmcabGreatDoor.Mod
set_option linter.unusedVariables false
set_option linter.unusedSimpArgs false

/-- an entry's cells: a need's, and a slice of needs -/
def ec (n : Nd) (v : Value) : Array Value := #[.string n.path, .int .i64 n.a, .int .i64 n.b, .int .i64 n.c, .string n.pre, v]
theorem sizeE (n : Nd) (v : Value) : (Tryz.prog.info? 28).map (·.size) = some (ec n v).size := by
  show _ = some 6
  kernel_rfl
theorem oneE (n : Nd) {v : Value} (h : v.oneCell' = true) : (ec n v).all (·.oneCell') = true := by
  simp [ec, Value.oneCell']
  exact h
theorem one_slice (ao : Option Addr) (m cap : Nat) : (Value.slice ao m cap).oneCell' = true := rfl
theorem Od.keep {w w' : World} {lo hi : Nat} {v : Value} {l : List Nd} (h : Od w lo hi v l) (hk : ∀ k, lo ≤ k → k < hi → w'.heap[k]? = w.heap[k]?) : Od w' lo hi v l := On.keep h hk
theorem Od.slice {w : World} {lo hi : Nat} {v : Value} {l : List Nd} (h : Od w lo hi v l) : ∃ ao cap, v = .slice ao l.length cap := by
  obtain ⟨_, ao, cap, rfl, _⟩ := h.sd
  exact ⟨ao, cap, rfl⟩

end Go.Proofs.YtljlcelbhlkmcabGreatDoor.Ent

/- Chapter 5, the specification's side: is an entry right. -/
namespace Go.Proofs.YtljlcelbhlkmcabGreatDoor.Ent
open Go.RowKit Go.Proofs.YtljlcelbhlkmcabGreatDoor.Mem Go.Proofs.YtljlcelbhlkmcabGreatDoor.Laws Go.Proofs.YtljlcelbhlkmcabGreatDoor.Bytes Go.Proofs.YtljlcelbhlkmcabGreatDoor.Sha Go.Proofs.YtljlcelbhlkmcabGreatDoor.Ver Go.Proofs.YtljlcelbhlkmcabGreatDoor.Mod
set_option linter.unusedVariables false
set_option linter.unusedSimpArgs false

/-- does it need itself -/
def self5 (n : Nd) (l : List Nd) : Bool := l.any fun x => eqT x.path n.path
def entry5 (n : Nd) (l : List Nd) : Bool := !self5 n l && n.ok && decide (l.length ≤ 8) && rise l

theorem self5_take {n x : Nd} {l : List Nd} {k : Nat} (h : l[k]? = some x) : self5 n (l.take (k + 1)) = (self5 n (l.take k) || eqT x.path n.path) := by
  unfold self5
  rw [List.take_add_one, h, List.any_append]
  simp
theorem self5_bad {n x : Nd} {l : List Nd} {k : Nat} (h : l[k]? = some x) (he : eqT x.path n.path = true) : self5 n l = true := by
  unfold self5
  rw [List.any_eq_true]
  exact ⟨x, List.mem_of_getElem? h, he⟩

set_option maxRecDepth 1000000 in
set_option maxHeartbeats 2000000 in
theorem entryok_spec (w : World) (n : Nd) (v : Value) (l : List Nd) (h : Sd w v l) (hl : l.length ≤ 1000000000000) (hp : n.path.size ≤ 1000000000000) (hq : n.pre.size ≤ 1000000000000) (hz : ∀ n ∈ l, n.path.size ≤ 1000000000000 ∧ n.pre.size ≤ 1000000000000) :
    Calls Tryz.prog 8 #[.agg #[.string n.path, .int .i64 n.a, .int .i64 n.b, .int .i64 n.c, .string n.pre, v]] w fun e w' => e = .returned (.bool (entry5 n l)) ∧ Below w.heap.size w w' := by
  have HD : Hid (entry5 n l = (!self5 n l && n.ok && decide (l.length ≤ 8) && rise l)) := rfl
  have q1 : ∀ W, _ := fun W => fits_spec W n.path n.a n.b n.c n.pre hp hq
  unfold Ver.ver at q1
  have q2 : ∀ W, Below w.heap.size w W → _ := fun W hW => rising_spec W v l (h.later hW) hl hz
  have HR : Hid ((w.alloc (.cells #[.string n.path, .int .i64 n.a, .int .i64 n.b, .int .i64 n.c, .string n.pre, v] 28)).heap[w.heap.size]? = some (.cells (ec n v) 28 (0, 0))) := heap_alloc_new w _
  have HB : Hid (Below w.heap.size w (w.alloc (.cells #[.string n.path, .int .i64 n.a, .int .i64 n.b, .int .i64 n.c, .string n.pre, v] 28))) := (Below.refl _ _).alloc (Nat.le_refl _) _
  have HS : Hid (Sd w v l) := h
  obtain ⟨hcl, ao, cap, rfl, hcap, hnn, _⟩ := h
  clear hz
  go_enter Tryz.func8, Tryz.ntmps8
  go_wp2
  go_loopw [3] (fun i wr => ∃ k : Nat, k ≤ l.length ∧ i = .int .i64 (k : Int) ∧ Hid (self5 n (l.take k) = false) ∧ wr.heap[w.heap.size]? = some (.cells (ec n (.slice ao l.length cap)) 28 (0, 0)) ∧ Below w.heap.size w wr) (fun i _ => l.length - (intOf i).toNat)
  case atStart => exact ⟨0, Nat.zero_le _, rfl, by show _ = _; simp [self5], HR.out, HB.out⟩
  case round =>
    obtain ⟨k, hk, rfl, HA, hR, hB⟩ := hrel
    have k0 : wr.cell? ⟨w.heap.size, 0, none⟩ = some (.string n.path) := row_cells hR 0
    have k5 : wr.cell? ⟨w.heap.size, 5, none⟩ = some (.slice ao l.length cap) := row_cells hR 5
    have HR1 : Hid (wr.heap[w.heap.size]? = some (.cells (ec n (.slice ao l.length cap)) 28 (0, 0))) := hR
    clear hR HR HB
    by_cases hlt : k < l.length
    · obtain ⟨x, hn⟩ : ∃ n, l[k]? = some n := ⟨l[k], by simp [hlt]⟩
      obtain ⟨b, off, cap', he, _, c0, _, _, _, _⟩ := Sd.at (HS.out.later hB) hn
      simp only [Value.slice.injEq] at he
      obtain ⟨rfl, _, rfl⟩ := he
      obtain ⟨eq, heq⟩ : ∃ b, eqT x.path n.path = b := ⟨_, rfl⟩
      have heq' : (x.path.toList == n.path.toList) = eq := heq
      have HT : Hid (self5 n (l.take (k + 1)) = eq) := by show _ = _; rw [self5_take hn, HA.out, heq]; rfl
      have HX : Hid (eq = true → entry5 n l = false) := by
        intro h1
        rw [HD.out, self5_bad hn (by rw [heq, h1])]
        rfl
      clear hn heq
      cases eq
      · go_wp2_with fail
        go_quiet (fail)
        go_wp2
        go_roundw
        case rel => exact ⟨k + 1, by omega, by go_num, HT, HR1.out, Below.trans hB ⟨rfl, rfl, rfl, Nat.le_refl _, fun _ _ => rfl⟩⟩
        case measure => simp [intOf]; omega
      · have HF : Hid (entry5 n l = false) := HX.out rfl
        clear HX
        go_wp2_with fail
        go_quiet (fail)
        go_wp2
        go_ret
        exact ⟨by rw [HF.out]; rfl, Below.trans hB ⟨rfl, rfl, rfl, Nat.le_refl _, fun _ _ => rfl⟩⟩
    · have HN : Hid (self5 n l = false) := by
        show _ = _
        have := HA.out
        rwa [List.take_of_length_le (by omega)] at this
      have k1 : wr.cell? ⟨w.heap.size, 1, none⟩ = some (.int .i64 n.a) := row_cells HR1.out 1
      have k2 : wr.cell? ⟨w.heap.size, 2, none⟩ = some (.int .i64 n.b) := row_cells HR1.out 2
      have k3 : wr.cell? ⟨w.heap.size, 3, none⟩ = some (.int .i64 n.c) := row_cells HR1.out 3
      have k4 : wr.cell? ⟨w.heap.size, 4, none⟩ = some (.string n.pre) := row_cells HR1.out 4
      obtain ⟨f, hf⟩ : ∃ f, fits4 n.path n.a n.b n.c n.pre = f := ⟨_, rfl⟩
      simp only [hf] at q1
      have HE : Hid (entry5 n l = (f && decide (l.length ≤ 8) && rise l)) := by
        show _ = _
        rw [HD.out, HN.out]
        unfold Nd.ok
        rw [hf]
        rfl
      clear hf
      go_wp2_with fail
      refine (q1 _).mono ?_
      rintro e w2 ⟨rfl, b2⟩
      have hB2 : Below w.heap.size w w2 := hB.trans (b2.mono hB.size)
      have j5 : w2.cell? ⟨w.heap.size, 5, none⟩ = some (.slice ao l.length cap) := row_cells (rowKeep HR1.out b2) 5
      have q3 := q2 w2 hB2
      clear q1 q2 k0 k1 k2 k3 k4 k5 HR1 b2 hB
      cases f
      · have HF : Hid (entry5 n l = false) := HE.out
        go_wp2
        go_ret
        exact ⟨by rw [HF.out]; rfl, hB2⟩
      · by_cases h8 : l.length ≤ 8
        · obtain ⟨r, hr⟩ : ∃ r, rise l = r := ⟨_, rfl⟩
          rw [hr] at q3
          have HF : Hid (entry5 n l = r) := by show _ = _; rw [HE.out, decide_eq_true h8, hr]; rfl
          have d8 : decide ((l.length : Int) ≤ 8) = true := by simp; omega
          clear hr
          go_wp2_with fail
          refine q3.mono ?_
          rintro e w3 ⟨rfl, b3⟩
          go_wp2
          go_ret
          exact ⟨by rw [HF.out]; rfl, hB2.trans (b3.mono hB2.size)⟩
        · have HF : Hid (entry5 n l = false) := by show _ = _; rw [HE.out, decide_eq_false h8]; rfl
          have d8 : decide ((l.length : Int) ≤ 8) = false := by simp; omega
          go_wp2
          go_ret
          exact ⟨by rw [HF.out]; rfl, hB2⟩

end Go.Proofs.YtljlcelbhlkmcabGreatDoor.Ent

/- Contracts of PutNum, the program's and the specification's: both make, in new memory, the bytes that were there and the number's groups behind them. -/
namespace Go.Proofs.YtljlcelbhlkmcabGreatDoor.Puts
open Go.RowKit Go.Proofs.YtljlcelbhlkmcabGreatDoor.Mem Go.Proofs.YtljlcelbhlkmcabGreatDoor.Plain Go.Proofs.YtljlcelbhlkmcabGreatDoor.Laws Go.Proofs.YtljlcelbhlkmcabGreatDoor.Bytes
set_option linter.unusedVariables false

/-- the bytes of a number as it is put -/
def num (n : Int) : List Int := enc (clampN n).toNat
theorem num_byt (n : Int) : Byt (num n) := enc_byte _
theorem num_len (n : Int) : 1 ≤ (num n).length ∧ (num n).length ≤ 5 := ⟨enc_len _, enc_len5 _ (by have := clampN_bd n; omega)⟩

theorem near_any (n : Int) (w : World) : Calls Tryz.prog 75 #[.int .i64 n] w fun e w' => e = .returned (.int .i64 (clampN n)) ∧ w = w' := by
  by_cases h0 : n < 0
  · have HC : Hid (clampN n = 0) := by show clampN n = 0; unfold clampN; rw [if_pos h0]
    go_enter Tryz.func75, Tryz.ntmps75
    go_wp2
    go_ret
    exact ⟨by rw [HC.out]; rfl, rfl⟩
  · by_cases h1 : 1000000000 < n
    · have HC : Hid (clampN n = 1000000000) := by show clampN n = _; unfold clampN; rw [if_neg h0, if_pos h1]
      go_enter Tryz.func75, Tryz.ntmps75
      go_wp2
      go_ret
      exact ⟨by rw [HC.out]; rfl, rfl⟩
    · have HC : Hid (clampN n = n) := by show clampN n = _; unfold clampN; rw [if_neg h0, if_neg h1]
      go_enter Tryz.func75, Tryz.ntmps75
      go_wp2
      go_ret
      exact ⟨by rw [HC.out]; rfl, rfl⟩

set_option maxHeartbeats 400000 in
/-- ownBytes: a copy in new memory. -/
theorem own_any (w : World) (v : Value) (xs : List Int) (h : Sl w v (bs xs)) (hx : xs.length ≤ 140737488355328) :
    Calls Tryz.prog 52 #[v] w fun e w' => ∃ v', e = .returned v' ∧ Own w' w.heap.size w'.heap.size 5 v' (bs xs) ∧ Below w.heap.size w w' := by
  obtain ⟨i0, hi, hz0, hz1, hz2⟩ := info_parts info5
  have hlater : ∀ w', Below w.heap.size w w' → Sl w' v (bs xs) := fun w' hb => h.later hb
  obtain ⟨ao, cap, rfl, hc, _, hr⟩ := h
  rw [bs_len] at hr hc hlater
  rw [bs_len]
  go_enter Tryz.func52, Tryz.ntmps52
  go_wp2_with (first | (at_make; refine wpList_make_full _ rfl _ _ 22 rfl w.heap.size 5 i0 (.int .u8 0) 1 Tryz.underlying22 hi hz0 hz1 _ _ _ _ xs.length rfl rfl rfl rfl (by rw [hz2]; omega) (by unfold maxLen; omega) (Nat.le_refl _) ?_))
  intro w1 hown hgrow
  have hbel : Below w.heap.size w w1 := (Below.refl _ _).grown hgrow (Nat.le_refl _) (by simp)
  obtain ⟨L, hown'⟩ : ∃ L, w1.ownsRow w.heap.size 5 1 (.slice (some ⟨w.heap.size, 0, none⟩) xs.length xs.length) xs.length L := ⟨_, hown⟩
  have hblk : w1.heap[w.heap.size]? = some (.cells L.toArray 5 (0, 0)) := full_block hown'
  have hLn : L.length = xs.length := by have := hown'.1; omega
  have HLn : Hid (L.length = xs.length) := hLn
  obtain ⟨C, hC⟩ : ∃ C, C = bs xs := ⟨_, rfl⟩
  have HC : Hid (C = bs xs ∧ C.length = xs.length) := ⟨hC, by rw [hC, bs_len]⟩
  have hsz : (Tryz.prog.info? 5).map (·.size) = some 1 := by rw [hi]; simp [hz1]
  obtain ⟨ao', cap', he, _, _, hr'⟩ := hlater w1 hbel
  rw [bs_len] at he hr'
  simp only [Value.slice.injEq] at he
  obtain ⟨rfl, _, rfl⟩ := he
  have HS : Hid (0 < C.length → ∃ ad, ao = some ad ∧ ∀ j u, C[j]? = some u → w1.cell? (ad.add j) = some u) := by
    intro hp
    rw [HC.out.2] at hp
    obtain ⟨b, off, rfl, hcell⟩ := hr' hp
    refine ⟨_, rfl, fun j u hj => ?_⟩
    rw [Addr.add_lit, hcell j (by have := (List.getElem?_eq_some_iff.1 hj).1; rw [HC.out.2] at this; exact this), ← HC.out.1]
    exact hj
  have HO : Hid (∀ u ∈ C, u.oneCell' = true) := by show ∀ u ∈ C, u.oneCell' = true; rw [hC]; exact bs_one _
  clear hown hown' hgrow hLn hC hr hr'
  go_wp2_with (refine wpList_copy_splice rfl (.tmp 7) (.tmp 8) 22 22 rfl 5 Tryz.underlying22 hsz _ _ _ _ _ _ rfl rfl w.heap.size 0 L 5 hblk C (HC.out.2.trans (Nat.min_self _).symm) (fun hp => ⟨rfl, HS.out hp⟩) (by rw [HC.out.2, HLn.out]; omega) HO.out w.heap.size w hbel (Nat.le_refl _) ?_)
  intro w2 hg2 hb2
  go_wp2
  go_ret
  have hfin := hg2.out
  rw [splice_all (by rw [HLn.out, HC.out.2])] at hfin
  refine ⟨_, rfl, ?_, hb2⟩
  rw [← HC.out.1]
  exact Own.of (full_own hfin (Nat.le_refl _) HC.out.2 (by unfold maxLen; omega))

theorem byte_small {m : Nat} (h : m < 128) (ys : List Int) : ys ++ [(m : Int)] = ys ++ enc m := by rw [enc_small h]

theorem one_byte (x : Int) : ∀ u ∈ [Value.int .u8 x], u.oneCell' = true := by
  intro u hu
  rw [List.mem_singleton] at hu
  rw [hu]
  rfl

set_option maxRecDepth 1000000 in
set_option maxHeartbeats 1000000 in
/-- addNums of one number, onto a row that the caller owns. -/
theorem nums_one (w : World) (lo : Nat) (v : Value) (xs : List Int) (g : Nat) (n : Int) (h : Own w lo w.heap.size 5 v (bs xs)) (hlo : lo ≤ w.heap.size) (hx : xs.length ≤ 70368744177664)
    (hcell : w.cell? ⟨g, 0, none⟩ = some (.int .i64 n)) :
    Calls Tryz.prog 51 #[v, .slice (some ⟨g, 0, none⟩) 1 1] w fun e w' => ∃ v', e = .returned v' ∧ Own w' lo w'.heap.size 5 v' (bs (xs ++ num n)) ∧ Below lo w w' := by
  obtain ⟨i0, hi, hz0, hz1, hz2⟩ := info_parts info5
  go_enter Tryz.func51, Tryz.ntmps51
  go_wp2
  go_loopw [0, 9] (fun b i wr => (i = .int .i64 0 ∧ w = wr ∧ v = b) ∨ (i = .int .i64 1 ∧ Own wr lo wr.heap.size 5 b (bs (xs ++ num n)) ∧ Below lo w wr)) (fun _ i _ => 1 - (intOf i).toNat)
  case atStart => exact .inl ⟨rfl, rfl, rfl⟩
  case round =>
    rcases hrel with ⟨rfl, rfl, rfl⟩ | ⟨rfl, ho, hb⟩
    · have hcb := clampN_bd n
      go_wp2_with (go_at_call 75; refine (near_any _ _).mono ?_; rintro e w' ⟨rfl, rfl⟩)
      obtain ⟨m0, hm0⟩ : ∃ m0 : Nat, clampN n = (m0 : Int) := ⟨(clampN n).toNat, by omega⟩
      have HM : Hid (num n = enc m0) := by show num n = enc m0; unfold num; rw [hm0]; rfl
      have hm0b : m0 ≤ 1000000000 := by omega
      have hnl := num_len n
      rw [hm0]
      clear hcb hcell hm0
      go_loopw [0, 6] (fun b nn wr => ∃ (m : Nat) (ys : List Int), m ≤ 1000000000 ∧ nn = .int .i64 m ∧ ys ++ enc m = xs ++ num n ∧ Own wr lo wr.heap.size 5 b (bs ys) ∧ Below lo w wr) (fun _ nn _ => (intOf nn).toNat)
      case atStart => exact ⟨m0, xs, hm0b, rfl, by rw [HM.out], h, Below.refl _ _⟩
      case round =>
        obtain ⟨m, ys, hm, rfl, hE0, ho, hb⟩ := hrel
        have HE : Hid (ys ++ enc m = xs ++ num n) := hE0
        have hyl : ys.length ≤ xs.length + 5 := by have := congrArg List.length hE0; simp at this; omega
        have hsz := hb.size
        clear hE0 HM
        by_cases hlt : 128 ≤ m
        · have HS : Hid ((ys ++ [((m % 128 + 128 : Nat) : Int)]) ++ enc (m / 128) = xs ++ num n) := by
            show _ = _; rw [← HE.out, enc_step (show ¬ m < 128 by omega), List.append_assoc]; rfl
          have c2 : (bs ys).length + 1 ≤ maxLen := by rw [bs_len]; unfold maxLen; omega
          have c3 : ((bs ys).length + 1) * 1 ≤ 140737488355328 := by rw [bs_len]; omega
          have c4 : ∀ o, lo ≤ (wr.alloc o).heap.size := fun o => by simp; omega
          go_wp2_with (at_builtin; go_must (refine wpl_app _ rfl (.tmp 17) (.tmp 22) 22 rfl 5 i0 (.int .u8 0) 1 Tryz.underlying22 hi hz0 hz1 hz2 rfl lo _ (bs ys) rfl (ho.alloc _) _ rfl [.int .u8 ((m : Int) % 128 + 128)] (Sl.one _ _ _) (one_byte _) c2 c3 (c4 _) ?_); intro v1 w1 ho1 hb1 hg1)
          have hb2 : Below lo w w1 := (hb.alloc (by omega) _).trans hb1
          have ho2 : Own w1 lo w1.heap.size 5 v1 (bs (ys ++ [((m % 128 + 128 : Nat) : Int)])) := by rw [bs_app]; exact ho1
          go_roundw
          case rel => exact ⟨m / 128, ys ++ [((m % 128 + 128 : Nat) : Int)], by omega, by go_num, HS.out, ho2, hb2⟩
          case measure => simp [intOf]; omega
        · have c2 : (bs ys).length + 1 ≤ maxLen := by rw [bs_len]; unfold maxLen; omega
          have c3 : ((bs ys).length + 1) * 1 ≤ 140737488355328 := by rw [bs_len]; omega
          have c4 : ∀ o, lo ≤ (wr.alloc o).heap.size := fun o => by simp; omega
          have HS : Hid (ys ++ [(m : Int)] = xs ++ num n) := by show _ = _; rw [← HE.out, enc_small (show m < 128 by omega)]
          go_wp2_with (at_builtin; go_must (refine wpl_app _ rfl (.tmp 26) (.tmp 29) 22 rfl 5 i0 (.int .u8 0) 1 Tryz.underlying22 hi hz0 hz1 hz2 rfl lo _ (bs ys) rfl (ho.alloc _) _ rfl [.int .u8 (m : Int)] (Sl.one _ _ _) (one_byte _) c2 c3 (c4 _) ?_); intro v1 w1 ho1 hb1 hg1)
          have hb2 : Below lo w w1 := (hb.alloc (by omega) _).trans hb1
          have ho2 : Own w1 lo w1.heap.size 5 v1 (bs (xs ++ num n)) := by rw [← HS.out, bs_app]; exact ho1
          go_roundw
          case rel => exact .inr ⟨rfl, ho2, hb2⟩
          case measure => simp [intOf]
    · go_wp2
      go_ret
      exact ⟨_, rfl, ho, hb⟩

theorem new_cell (w : World) (u : Value) (t : TypeId) : (w.alloc (.cells #[u] t)).cell? ⟨w.heap.size, 0, none⟩ = some u := by
  rw [cell_of_row _ w.heap.size 0 #[u] t (0, 0) (heap_alloc_new w _)]
  rfl

theorem Own.empty (w : World) (lo : Nat) (h : lo ≤ w.heap.size) : Own (w.alloc (.cells #[] 5)) lo (w.alloc (.cells #[] 5)).heap.size 5 (.slice (some ⟨w.heap.size, 0, none⟩) 0 0) (bs []) :=
  Own.of (World.ownsRow_lit w #[] 0 h (Nat.zero_le _) rfl)

set_option maxRecDepth 1000000 in
set_option maxHeartbeats 1000000 in
theorem put_spec (w : World) (v : Value) (xs : List Int) (n : Int) (h : Sl w v (bs xs)) (hx : xs.length ≤ 70368744177664) :
    Calls Tryz.prog 96 #[v, .int .i64 n] w fun e w' => ∃ v', e = .returned v' ∧ Own w' w.heap.size w'.heap.size 5 v' (bs (xs ++ num n)) ∧ Below w.heap.size w w' := by
  obtain ⟨i0, hi, hz0, hz1, hz2⟩ := info_parts info5
  have c2 : (bs []).length + (bs xs).length ≤ maxLen := by rw [bs_len, bs_len]; unfold maxLen; simp; omega
  have c3 : ((bs []).length + (bs xs).length) * 1 ≤ 140737488355328 := by rw [bs_len, bs_len]; simp; omega
  have c4 : ∀ o, w.heap.size ≤ (w.alloc o).heap.size := fun o => by simp
  have hs2 : ∀ o, Sl (w.alloc o) v (bs xs) := fun o => h.later ((Below.refl _ _).alloc (Nat.le_refl _) o)
  have HB : Hid (0 ≤ clampN n ∧ clampN n ≤ 1000000000) := clampN_bd n
  have hway : (decide (1000000000 < n) = true ∧ clampN n = 1000000000) ∨ (decide (1000000000 < n) = false ∧ decide (n < 0) = true ∧ clampN n = 0) ∨ (decide (1000000000 < n) = false ∧ decide (n < 0) = false ∧ clampN n = n) := by
    simp only [decide_eq_true_eq, decide_eq_false_iff_not]
    unfold clampN; (split <;> (try split)) <;> omega
  rcases hway with ⟨hd1, hcl⟩ | ⟨hd1, hd2, hcl⟩ | ⟨hd1, hd2, hcl⟩
  all_goals
    have HC : Hid (clampN n = _) := hcl
    clear hcl
    go_enter Tryz.func96, Tryz.ntmps96
    go_wp2_with (at_builtin; go_must (refine wpl_app _ rfl (.tmp 6) (.tmp 7) 22 rfl 5 i0 (.int .u8 0) 1 Tryz.underlying22 hi hz0 hz1 hz2 rfl w.heap.size _ (bs []) rfl (Own.empty w _ (Nat.le_refl _)) _ rfl (bs xs) (hs2 _) (bs_one _) c2 c3 (c4 _) ?_))
    intro v1 w1 ho1 hb1 hg1
    have hb2 : Below w.heap.size w w1 := ((Below.refl _ _).alloc (Nat.le_refl _) _).trans hb1
    rw [← bs_app, List.nil_append] at ho1
    clear hg1 hb1 c2 c3 c4 hs2
    go_wp2
    go_loopw [1, 5] (fun nn b wr => ∃ (m : Nat) (ys : List Int), m ≤ 1000000000 ∧ nn = .int .i64 m ∧ ys ++ enc m = xs ++ num n ∧ Own wr w.heap.size wr.heap.size 5 b (bs ys) ∧ Below w.heap.size w wr) (fun nn _ _ => (intOf nn).toNat)
    case atStart =>
      have hcb := HB.out
      have hcl := HC.out
      exact ⟨(clampN n).toNat, xs, by omega, congrArg (Value.int .i64) (by omega), rfl, ho1, hb2⟩
    case round =>
      obtain ⟨m, ys, hm, rfl, hE0, ho, hb⟩ := hrel
      have HE : Hid (ys ++ enc m = xs ++ num n) := hE0
      have hyl : ys.length ≤ xs.length + 5 := by have := congrArg List.length hE0; have := (num_len n).2; simp at *; omega
      have hsz := hb.size
      have c2 : (bs ys).length + 1 ≤ maxLen := by rw [bs_len]; unfold maxLen; omega
      have c3 : ((bs ys).length + 1) * 1 ≤ 140737488355328 := by rw [bs_len]; omega
      have c4 : ∀ o, w.heap.size ≤ (wr.alloc o).heap.size := fun o => by simp; omega
      clear hE0
      by_cases hlt : 127 < m
      · have HS : Hid ((ys ++ [((m % 128 + 128 : Nat) : Int)]) ++ enc (m / 128) = xs ++ num n) := by
          show _ = _; rw [← HE.out, enc_step (show ¬ m < 128 by omega), List.append_assoc]; rfl
        have hmask := and127 (n := (m : Int)) (by omega) (by omega)
        have hor := or128 (n := (m : Int) % 128) (by omega) (by omega)
        go_wp2_with (at_builtin; go_must (refine wpl_app _ rfl (.tmp 15) (.tmp 20) 22 rfl 5 i0 (.int .u8 0) 1 Tryz.underlying22 hi hz0 hz1 hz2 rfl w.heap.size _ (bs ys) rfl (ho.alloc _) _ rfl [.int .u8 ((m : Int) % 128 + 128)] (Sl.one _ _ _) (one_byte _) c2 c3 (c4 _) ?_); intro v3 w3 ho3 hb3 hg3)
        have hb4 : Below w.heap.size w w3 := (hb.alloc (by omega) _).trans hb3
        have ho4 : Own w3 w.heap.size w3.heap.size 5 v3 (bs (ys ++ [((m % 128 + 128 : Nat) : Int)])) := by rw [bs_app]; exact ho3
        go_roundw
        case rel => exact ⟨m / 128, ys ++ [((m % 128 + 128 : Nat) : Int)], by omega, by go_num, HS.out, ho4, hb4⟩
        case measure => simp [intOf]; omega
      · have HS : Hid (ys ++ [(m : Int)] = xs ++ num n) := by show _ = _; rw [← HE.out, enc_small (show m < 128 by omega)]
        go_wp2_with (at_builtin; go_must (refine wpl_app _ rfl (.tmp 24) (.tmp 27) 22 rfl 5 i0 (.int .u8 0) 1 Tryz.underlying22 hi hz0 hz1 hz2 rfl w.heap.size _ (bs ys) rfl (ho.alloc _) _ rfl [.int .u8 (m : Int)] (Sl.one _ _ _) (one_byte _) c2 c3 (c4 _) ?_); intro v3 w3 ho3 hb3 hg3)
        have hb4 : Below w.heap.size w w3 := (hb.alloc (by omega) _).trans hb3
        have ho4 : Own w3 w.heap.size w3.heap.size 5 v3 (bs (xs ++ num n)) := by rw [← HS.out, bs_app]; exact ho3
        go_ret
        exact ⟨_, rfl, ho4, hb4⟩

/-- the bytes of texts, each behind its length -/
def tx (s : ByteArray) : List Int := num (s.size : Int) ++ sb s
def tot : List ByteArray → Nat
  | [] => 0
  | s :: r => s.size + tot r
def txs : List ByteArray → List Int
  | [] => []
  | s :: r => tx s ++ txs r
theorem tx_len (s : ByteArray) : (tx s).length ≤ s.size + 5 := by
  unfold tx; have := num_len (s.size : Int); rw [List.length_append, sb_len]; omega
theorem txs_len (l : List ByteArray) : (txs l).length ≤ 5 * l.length + tot l := by
  induction l with
  | nil => simp [txs, tot]
  | cons s r ih => have := tx_len s; simp only [txs, tot, List.length_append, List.length_cons]; omega
theorem tx_byt (s : ByteArray) : Byt (tx s) := (num_byt _).app (sb_byt _)

set_option maxRecDepth 1000000 in
set_option maxHeartbeats 1000000 in
theorem putt_spec (w : World) (v : Value) (xs : List Int) (s : ByteArray) (h : Sl w v (bs xs)) (hx : xs.length ≤ 35184372088832) (hs : s.size ≤ 35184372088832) :
    Calls Tryz.prog 67 #[v, .string s] w fun e w' => ∃ v', e = .returned v' ∧ Own w' w.heap.size w'.heap.size 5 v' (bs (xs ++ tx s)) ∧ Below w.heap.size w w' := by
  obtain ⟨i0, hi, hz0, hz1, hz2⟩ := info_parts info5
  have hnl := num_len (s.size : Int)
  go_enter Tryz.func67, Tryz.ntmps67
  go_wp2_with fail
  refine (put_spec w v xs _ h (by omega)).mono ?_
  rintro e w1 ⟨v1, rfl, ho1, hb1⟩
  have hsz := hb1.size
  have c1 : (xs ++ num (s.size : Int)).length + s.size ≤ 140737488355328 := by rw [List.length_append]; omega
  go_wp2_with (at_builtin; go_must (refine wpl_str _ rfl (.tmp 8) (.tmp 9) 22 9 rfl 5 i0 Tryz.underlying22 Tryz.underlying9 hi hz0 hz1 hz2 w.heap.size _ _ rfl ho1 s rfl c1 hsz ?_); intro v2 w2 ho2 hb2)
  go_ret
  rw [List.append_assoc] at ho2
  exact ⟨_, rfl, ho2, hb1.trans hb2⟩

set_option maxRecDepth 1000000 in
set_option maxHeartbeats 1000000 in
/-- addTexts, onto a row that the caller owns; the texts lie ahead of it, or there is one of them alone. -/
theorem texts_any (w : World) (lo : Nat) (v : Value) (xs : List Int) (vt : Value) (l : List ByteArray) (h : Own w lo w.heap.size 5 v (bs xs)) (hlo : lo ≤ w.heap.size) (ht : Sl w vt (ss l)) (hkeep : ∀ w', Below lo w w' → 1 < l.length → Sl w' vt (ss l))
    (hx : xs.length + (txs l).length ≤ 35184372088832) (hl : l.length ≤ 35184372088832) :
    Calls Tryz.prog 50 #[v, vt] w fun e w' => ∃ v', e = .returned v' ∧ Own w' lo w'.heap.size 5 v' (bs (xs ++ txs l)) ∧ Below lo w w' := by
  obtain ⟨i0, hi, hz0, hz1, hz2⟩ := info_parts info5
  obtain ⟨ao, cap, rfl, hc, hn, hr⟩ := ht
  rw [ss_len] at hr hc hkeep
  rw [ss_len]
  go_enter Tryz.func50, Tryz.ntmps50
  go_wp2
  go_loopw [0, 9] (fun b i wr => ∃ (k : Nat) (ys : List Int), k ≤ l.length ∧ i = .int .i64 k ∧ ys ++ txs (l.drop k) = xs ++ txs l ∧ Own wr lo wr.heap.size 5 b (bs ys) ∧ Below lo w wr ∧ (k = 0 → wr = w)) (fun _ i _ => l.length - (intOf i).toNat)
  case atStart => exact ⟨0, xs, Nat.zero_le _, rfl, rfl, h, Below.refl _ _, fun _ => rfl⟩
  case round =>
    obtain ⟨k, ys, hk, rfl, hE0, ho, hb, hfirst⟩ := hrel
    have HE : Hid (ys ++ txs (l.drop k) = xs ++ txs l) := hE0
    have hsz := hb.size
    by_cases hlt : k < l.length
    · obtain ⟨s, hs0⟩ : ∃ s, l[k]? = some s := ⟨l[k], by simp⟩
      have HD : Hid (l.drop k = s :: l.drop (k + 1)) := by
        obtain ⟨hk', rfl⟩ := List.getElem?_eq_some_iff.1 hs0
        exact List.drop_eq_getElem_cons hk'
      have hlen : ys.length + (tx s).length ≤ 35184372088832 := by
        have h1 := congrArg List.length HE.out
        rw [HD.out] at h1
        simp only [txs, List.length_append] at h1
        omega
      have htl : s.size ≤ (tx s).length := by unfold tx; rw [List.length_append, sb_len]; omega
      have hnl := num_len (s.size : Int)
      have hcl : ∃ b off, ao = some ⟨b, off, none⟩ ∧ wr.cell? ⟨b, off + k, none⟩ = some (.string s) := by
        have key : ∀ w0 : World, (0 < l.length → ∃ b off, ao = some ⟨b, off, none⟩ ∧ ∀ j, j < l.length → w0.cell? ⟨b, off + j, none⟩ = (ss l)[j]?) → ∃ b off, ao = some ⟨b, off, none⟩ ∧ w0.cell? ⟨b, off + k, none⟩ = some (.string s) := by
          intro w0 hq
          obtain ⟨b, off, he, hc⟩ := hq (by omega)
          exact ⟨b, off, he, by rw [hc k hlt]; simp [ss, hs0]⟩
        by_cases h0 : k = 0
        · rw [hfirst h0]; exact key w hr
        · obtain ⟨ao', cap', he, _, _, hr'⟩ := hkeep wr hb (by omega)
          rw [ss_len] at he hr'
          simp only [Value.slice.injEq] at he
          obtain ⟨rfl, _, rfl⟩ := he
          exact key wr hr'
      obtain ⟨b, off, rfl, hcell⟩ := hcl
      have HN : Hid ((ys ++ tx s) ++ txs (l.drop (k + 1)) = xs ++ txs l) := by
        show _ = _; rw [← HE.out, HD.out, List.append_assoc]; rfl
      clear hs0 HD hE0 HE hr hkeep hfirst h
      have hss : (s.size : Int) ≤ 35184372088832 := by omega
      go_wp2_with fail
      refine (nums_one _ lo _ ys wr.heap.size (s.size : Int) (ho.alloc _) (by simp; omega) (by omega) (new_cell _ _ _)).mono ?_
      rintro e w1 ⟨v1, rfl, ho1, hb1⟩
      have hb1' : Below lo w w1 := (hb.alloc (by omega) _).trans hb1
      have hsz1 : lo ≤ w1.heap.size := by have := hb1'.size; omega
      have c1 : (ys ++ num (s.size : Int)).length + s.size ≤ 140737488355328 := by rw [List.length_append]; omega
      go_wp2_with (at_builtin; go_must (refine wpl_str _ rfl (.tmp 17) (.tmp 18) 22 9 rfl 5 i0 Tryz.underlying22 Tryz.underlying9 hi hz0 hz1 hz2 lo _ _ rfl ho1 s rfl c1 hsz1 ?_); intro v2 w2 ho2 hb2)
      rw [List.append_assoc] at ho2
      have hb3 : Below lo w w2 := hb1'.trans hb2
      go_roundw
      case rel => exact ⟨k + 1, ys ++ tx s, by omega, by go_num, HN.out, ho2, hb3, fun h => by omega⟩
      case measure => simp [intOf]; omega
    · go_wp2
      go_ret
      have h1 := HE.out
      rw [List.drop_eq_nil_of_le (by omega)] at h1
      simp only [txs, List.append_nil] at h1
      rw [h1] at ho
      exact ⟨_, rfl, ho, hb⟩

theorem Sl.oneStr (w : World) (s : ByteArray) (t : TypeId) : Sl (w.alloc (.cells #[.string s] t)) (.slice (some ⟨w.heap.size, 0, none⟩) 1 1) (ss [s]) := Sl.one w (.string s) t

set_option maxRecDepth 1000000 in
set_option maxHeartbeats 1000000 in
theorem putt_impl (w : World) (v : Value) (xs : List Int) (s : ByteArray) (h : Sl w v (bs xs)) (hx : xs.length ≤ 10000000000000) (hs : s.size ≤ 10000000000000) :
    Calls Tryz.prog 23 #[v, .string s] w fun e w' => ∃ v', e = .returned v' ∧ Own w' w.heap.size w'.heap.size 5 v' (bs (xs ++ tx s)) ∧ Below w.heap.size w w' := by
  have htl := tx_len s
  go_enter Tryz.func23, Tryz.ntmps23
  go_wp2_with fail
  refine (own_any w v xs h (by omega)).mono ?_
  rintro e w1 ⟨v1, rfl, ho1, hb1⟩
  have hsz := hb1.size
  go_wp2_with fail
  refine (texts_any _ w.heap.size v1 xs _ [s] (ho1.alloc _) (by simp; omega) (Sl.oneStr _ _ _) (fun w' _ h => by simp at h) (by simp [txs]; omega) (by simp)).mono ?_
  rintro e w2 ⟨v2, rfl, ho2, hb2⟩
  go_wp2
  go_ret
  simp only [txs, List.append_nil] at ho2
  exact ⟨_, rfl, ho2, (hb1.alloc (by omega) _).trans hb2⟩

theorem drop_str {l : List ByteArray} {k : Nat} {s : ByteArray} (h : l[k]? = some s) : l.drop k = s :: l.drop (k + 1) := by
  obtain ⟨hk, rfl⟩ := List.getElem?_eq_some_iff.1 h
  exact List.drop_eq_getElem_cons hk

set_option maxRecDepth 1000000 in
set_option maxHeartbeats 1000000 in
theorem putts_spec (w : World) (v vt : Value) (xs : List Int) (l : List ByteArray) (h : Sl w v (bs xs)) (ht : Sl w vt (ss l)) (hx : xs.length + (txs l).length + 5 ≤ 10000000000000) (hl : l.length ≤ 10000000000000) :
    Calls Tryz.prog 66 #[v, vt] w fun e w' => ∃ v', e = .returned v' ∧ Own w' w.heap.size w'.heap.size 5 v' (bs (xs ++ num (l.length : Int) ++ txs l)) ∧ Below w.heap.size w w' := by
  have hlater : ∀ w', Below w.heap.size w w' → Sl w' vt (ss l) := fun w' hb => ht.later hb
  obtain ⟨ao, cap, rfl, hc, hn, hr⟩ := ht
  rw [ss_len] at hr hc hlater
  rw [ss_len]
  have hnl := num_len (l.length : Int)
  obtain ⟨R, hR⟩ : ∃ R, R = xs ++ num (l.length : Int) ++ txs l := ⟨_, rfl⟩
  have HR : Hid (xs ++ num (l.length : Int) ++ txs l = R) := hR.symm
  have hRl : R.length ≤ 10000000000000 := by rw [hR]; simp only [List.length_append]; omega
  clear hR hr hn
  go_enter Tryz.func66, Tryz.ntmps66
  go_wp2_with fail
  refine (put_spec w v xs _ h (by omega)).mono ?_
  rintro e w1 ⟨v1, rfl, ho1, hb1⟩
  go_wp2_with fail
  go_loopw [5, 6] (fun b i wr => ∃ (k : Nat) (ys : List Int), k ≤ l.length ∧ i = .int .i64 k ∧ ys ++ txs (l.drop k) = R ∧ Own wr w.heap.size wr.heap.size 5 b (bs ys) ∧ Below w.heap.size w wr) (fun _ i _ => l.length - (intOf i).toNat)
  case atStart => exact ⟨0, _, Nat.zero_le _, rfl, HR.out, ho1, hb1⟩
  case round =>
    obtain ⟨k, ys, hk, rfl, hE0, ho, hb⟩ := hrel
    have HE : Hid (ys ++ txs (l.drop k) = R) := hE0
    have hsz := hb.size
    clear hE0 ho1 hb1
    by_cases hlt : k < l.length
    · obtain ⟨ao', cap', he, _, _, hr'⟩ := hlater wr hb
      rw [ss_len] at he hr'
      simp only [Value.slice.injEq] at he
      obtain ⟨rfl, _, rfl⟩ := he
      obtain ⟨b, off, s, rfl, hx0, hcell⟩ := Sl.strAt hr' rfl hlt
      have HN : Hid ((ys ++ tx s) ++ txs (l.drop (k + 1)) = R) := by
        show _ = _; rw [← HE.out, drop_str hx0, List.append_assoc]; rfl
      have hlen : ys.length + (tx s).length ≤ 10000000000000 := by
        have h1 := congrArg List.length HN.out
        simp only [List.length_append] at h1
        omega
      have htl : s.size ≤ (tx s).length := by unfold tx; rw [List.length_append, sb_len]; omega
      clear hx0 hr' hlater HR HE
      go_wp2_with fail
      refine (putt_spec wr _ ys s ho.sl (by omega) (by omega)).mono ?_
      rintro e w2 ⟨v2, rfl, ho2, hb2⟩
      have ho3 := ho2.mono hsz (Nat.le_refl _)
      have hb3 : Below w.heap.size w w2 := hb.trans (hb2.mono hsz)
      go_wp2
      go_roundw
      case rel => exact ⟨k + 1, ys ++ tx s, by omega, by go_num, HN.out, ho3, hb3⟩
      case measure => simp [intOf]; omega
    · go_wp2
      go_ret
      have h1 := HE.out
      rw [List.drop_eq_nil_of_le (by omega)] at h1
      simp only [txs, List.append_nil] at h1
      rw [HR.out, ← h1]
      exact ⟨_, rfl, ho, hb⟩

set_option maxRecDepth 1000000 in
set_option maxHeartbeats 1000000 in
theorem putts_impl (w : World) (v vt : Value) (xs : List Int) (l : List ByteArray) (h : Sl w v (bs xs)) (ht : Sl w vt (ss l)) (hx : xs.length + (txs l).length + 5 ≤ 10000000000000) (hl : l.length ≤ 10000000000000) :
    Calls Tryz.prog 22 #[v, vt] w fun e w' => ∃ v', e = .returned v' ∧ Own w' w.heap.size w'.heap.size 5 v' (bs (xs ++ num (l.length : Int) ++ txs l)) ∧ Below w.heap.size w w' := by
  have hlater : ∀ w', Below w.heap.size w w' → Sl w' vt (ss l) := fun w' hb => ht.later hb
  obtain ⟨ao, cap, rfl, hc, hn, hr⟩ := ht
  rw [ss_len] at hr hc hlater
  rw [ss_len]
  have hnl := num_len (l.length : Int)
  go_enter Tryz.func22, Tryz.ntmps22
  go_wp2_with fail
  refine (own_any w v xs h (by omega)).mono ?_
  rintro e w1 ⟨v1, rfl, ho1, hb1⟩
  have hsz := hb1.size
  go_wp2_with fail
  refine (nums_one _ w.heap.size v1 xs w1.heap.size (l.length : Int) (ho1.alloc _) (by simp; omega) (by omega) (new_cell _ _ _)).mono ?_
  rintro e w2 ⟨v2, rfl, ho2, hb2⟩
  have hb3 : Below w.heap.size w w2 := (hb1.alloc (by omega) _).trans hb2
  have hsz2 := hb3.size
  go_wp2_with fail
  refine (texts_any w2 w.heap.size v2 _ _ l ho2 hsz2 (hlater _ hb3) (fun w' hb _ => hlater w' (hb3.trans hb)) (by rw [List.length_append]; omega) (by omega)).mono ?_
  rintro e w4 ⟨v4, rfl, ho4, hb4⟩
  go_wp2
  go_ret
  exact ⟨_, rfl, ho4, hb3.trans hb4⟩

end Go.Proofs.YtljlcelbhlkmcabGreatDoor.Puts
