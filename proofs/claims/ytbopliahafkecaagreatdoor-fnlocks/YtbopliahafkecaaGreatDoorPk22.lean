/- Texts in one: Mod8, EntD, EntQ. -/
import Derived.Test.YtbopliahafkecaaGreatDoorPk21
import Derived.Test.YtbopliahafkecaaGreatDoorPk13
import Derived.Test.YtbopliahafkecaaGreatDoorPk10
/- Chapter 4's draws: a path and a version. -/
namespace Go.Proofs.YtbopliahafkecaaGreatDoor.Mod
open Go.RowKit Go.Proofs.YtbopliahafkecaaGreatDoor.Mem Go.Proofs.YtbopliahafkecaaGreatDoor.Laws Go.Proofs.YtbopliahafkecaaGreatDoor.Bytes Go.Proofs.YtbopliahafkecaaGreatDoor.Sha Go.Proofs.YtbopliahafkecaaGreatDoor.Draw Go.Proofs.YtbopliahafkecaaGreatDoor.Ver
set_option linter.unusedVariables false
set_option linter.unusedSimpArgs false

theorem results_tmp_row {P : Program} {fn : Func} {p u : Tmp} {ty : TypeId} (h : fn.results = #[.tmp u, .cell p ty]) (tmps : Array Value) (w : World) (g : Nat) (t : TypeId) (cs : Array Value) (fr : Nat × Nat) (d : TypeDesc)
    (hp : tmps.getD p undef = .pointer (some ⟨g, 0, none⟩)) (hh : w.heap[g]? = some (.cells cs t fr)) (hu : P.underlying ty = some d) (hd : (match d with | .struct _ | .array _ _ => true | _ => false) = true) (hi : (P.info? ty).map (·.size) = some cs.size) :
    (results fn tmps).run P w = .ok (.tuple #[tmps.getD u undef, .agg cs]) w := by
  have hp' : tmps[p]?.getD undef = .pointer (some ⟨g, 0, none⟩) := by simpa using hp
  simp [results, h, hp', asAddr, run_loadVar_row w g t ty cs fr d hh hu hd hi]

end Go.Proofs.YtbopliahafkecaaGreatDoor.Mod

/- Chapter 5, draws: a need. -/
namespace Go.Proofs.YtbopliahafkecaaGreatDoor.Ent
open Go.RowKit Go.Proofs.YtbopliahafkecaaGreatDoor.Mem Go.Proofs.YtbopliahafkecaaGreatDoor.Laws Go.Proofs.YtbopliahafkecaaGreatDoor.Bytes Go.Proofs.YtbopliahafkecaaGreatDoor.Sha Go.Proofs.YtbopliahafkecaaGreatDoor.Ver Go.Proofs.YtbopliahafkecaaGreatDoor.Mod Go.Proofs.YtbopliahafkecaaGreatDoor.Draw
set_option linter.unusedVariables false
set_option linter.unusedSimpArgs false

theorem pathL_ok : ∀ s ∈ pathL, path4 (sb s) = true ∧ (major4 s = 1 ∨ major4 s = 2) := by decide +kernel
theorem preL_ok : ∀ p ∈ preL, (decide (p.size = 0) || Ver.pre (sb p)) = true := by decide +kernel
theorem rowApart {w w' : World} {g q : Nat} {o : Obj} (h : w.heap[q]? = some o) (ha : Apart g (g + 1) w w') (hne : q ≠ g) : w'.heap[q]? = some o := (ha.block q (Array.getElem?_eq_some_iff.1 h).1 (by omega)).trans h

/-- what a drawn need is -/
def Dn (n : Nd) : Prop := n.path ∈ pathL ∧ n.ok = true ∧ n.pre ∈ preL
theorem Dn.size {n : Nd} (h : Dn n) : n.path.size ≤ 60 ∧ n.pre.size ≤ 9 := ⟨pathL_size _ h.1, Nat.le_trans (preL_size _ h.2.2) (by omega)⟩
theorem dn_of {s : ByteArray} {a b c : Int} {p : ByteArray} (hs : s ∈ pathL) (hd : Dv a b c p) {m : Int} (hm : m = major4 s ∨ (major4 s = 1 ∧ m = 0)) : Dn ⟨s, m, b, c, p⟩ := by
  obtain ⟨h1, h2⟩ := pathL_ok s hs
  obtain ⟨_, hb, hc, hp⟩ := hd
  refine ⟨hs, ?_, hp⟩
  have hok : okV m b c p = true := by
    unfold okV inM
    rw [preL_ok p hp]
    simp
    omega
  show fits4 s m b c p = true
  unfold fits4
  rw [hok]
  simp
  omega

set_option maxRecDepth 1000000 in
set_option maxHeartbeats 2000000 in
theorem need_any (W0 w : World) (g : Nat) (vb : Value) (xs : List Int) (hs : Sl W0 vb (bs xs)) (hby : Byt xs) (hx : xs.length ≤ 140737488355328) (hB : Below W0.heap.size W0 w) (hg : W0.heap.size ≤ g) (hc : Cur w g vb xs.length) :
    Calls Tryz.prog 22 #[.pointer (some ⟨g, 0, none⟩)] w fun e w' => ∃ n : Nd, e = .returned (.agg #[.string n.path, .int .i64 n.a, .int .i64 n.b, .int .i64 n.c, .string n.pre]) ∧ Dn n ∧ Drawn W0 w g vb xs w' := by
  have hgw := hc.lt
  obtain ⟨W1, HW1, HR1, HD1⟩ : ∃ W1, Hid (w.alloc (.cells #[.string ⟨#[]⟩, .int .i64 0, .int .i64 0, .int .i64 0, .string ⟨#[]⟩] 47) = W1) ∧ Hid (W1.heap[w.heap.size]? = some (.cells (nc5 nil5) 47 (0, 0))) ∧ Hid (Drawn W0 w g vb xs W1) :=
    ⟨_, rfl, heap_alloc_new w _, (Drawn.refl hB hc).on hg hgw ((Below.refl _ _).alloc (Nat.le_refl _) _)⟩
  have q1 := path_any W0 W1 g vb xs hs hby hx HD1.out.below hg HD1.out.cur
  rw [← HW1.out] at q1
  go_enter Tryz.func22, Tryz.ntmps22
  go_wp2_with fail
  refine q1.mono ?_
  rw [HW1.out]
  rintro e w2 ⟨s, rfl, hsm, d2⟩
  have D2 : Hid (Drawn W0 w g vb xs w2) := HD1.out.and d2
  have R2 : Hid (w2.heap[w.heap.size]? = some (.cells (nc5 nil5) 47 (0, 0))) := rowApart HR1.out d2.apart (by omega)
  have q2 := draw_agg W0 w2 g vb xs hs hby hx D2.out.below hg D2.out.cur
  clear q1 HW1 HR1 HD1 d2
  go_wp2_with fail
  refine q2.mono ?_
  rintro e w3 ⟨a, b, c, p, rfl, hdv, d3⟩
  have D3 : Drawn W0 w g vb xs w3 := D2.out.and d3
  have hlt3 : w.heap.size < w3.heap.size := Nat.lt_of_lt_of_le (Array.getElem?_eq_some_iff.1 R2.out).1 d3.apart.size
  have hsz := pathL_size s hsm
  obtain ⟨W4, HW4, HR4, HN4, HD4⟩ : ∃ W4, Hid (w3.alloc (.cells #[.string s, .int .i64 a, .int .i64 b, .int .i64 c, .string p] 47) = W4) ∧ Hid (W4.heap[w.heap.size]? = some (.cells (nc5 nil5) 47 (0, 0))) ∧ Hid (Nr W4 w3.heap.size ⟨s, a, b, c, p⟩) ∧ Hid (Drawn W0 w g vb xs W4) :=
    ⟨_, rfl, rowKeep (rowApart R2.out d3.apart (by omega)) ((Below.refl _ _).alloc (Nat.le_refl _) _), heap_alloc_new w3 _, D3.on hg hgw ((Below.refl _ _).alloc (by omega) _)⟩
  have q3 := major_spec W4 s (by omega)
  rw [← HW4.out] at q3
  clear q2 R2 D2 d3 D3
  go_wp2_with fail
  refine q3.mono ?_
  rw [HW4.out]
  rintro e w5 ⟨rfl, b5⟩
  have R5 : Hid (w5.heap[w.heap.size]? = some (.cells (nc5 nil5) 47 (0, 0))) := rowKeep HR4.out b5
  have N5 : Nr w5 w3.heap.size ⟨s, a, b, c, p⟩ := rowKeep HN4.out b5
  have D5 : Hid (Drawn W0 w g vb xs w5) := HD4.out.on hg hgw (b5.mono (Nat.le_trans (by omega) (Nat.le_of_lt (Array.getElem?_eq_some_iff.1 HN4.out).1)))
  obtain ⟨k0, k1, k2, k3, k4⟩ := Nr.cells N5
  have f1 : w5.frozen? ⟨w3.heap.size, 1, none⟩ = false := frozen_of_row w5 _ 1 _ _ N5
  have hmj := pathL_ok s hsm
  obtain ⟨m, hm⟩ : ∃ m, major4 s = m := ⟨_, rfl⟩
  rw [hm]
  have HM : Hid (major4 s = m) := hm
  obtain ⟨W6, HW6, HR6, HN6, HD6⟩ : ∃ W6, Hid (w5.setCell ⟨w3.heap.size, 1, none⟩ (.int .i64 m) = W6) ∧ Hid (W6.heap[w.heap.size]? = some (.cells (nc5 nil5) 47 (0, 0))) ∧ Hid (Nr W6 w3.heap.size ⟨s, m, b, c, p⟩) ∧ Hid (Drawn W0 w g vb xs W6) := by
    refine ⟨_, rfl, (heap_setCell_other w5 ⟨w3.heap.size, 1, none⟩ _ _ (by show w.heap.size ≠ w3.heap.size; omega)).trans R5.out, ?_, D5.out.on hg hgw ((Below.refl _ _).setCell (p := ⟨w3.heap.size, 1, none⟩) (by show _ ≤ w3.heap.size; omega) _)⟩
    show (w5.setCell _ _).heap[w3.heap.size]? = _
    rw [heap_setCell_same w5 _ 1 _ _ _ N5]
    rfl
  have c1 : (w5.setCell ⟨w3.heap.size, 1, none⟩ (.int .i64 m)).cell? ⟨w3.heap.size, 1, none⟩ = some (.int .i64 m) := by rw [HW6.out]; exact (Nr.cells HN6.out).2.1
  clear q3 HW4 HR4 HN4 HD4 R5 N5 D5 k2 k3 k4 b5 hm
  by_cases hm1 : m = 1
  · have q4 := once_any W0 W6 g vb xs 4 (by omega) (by omega) hs hby hx HD6.out.below hg HD6.out.cur
    rw [← HW6.out] at q4
    have dm : (m == 1) = true := by simpa using hm1
    have HM1 : Hid (m = 1) := hm1
    clear hm1
    go_wp2_with fail
    refine q4.mono ?_
    rw [HW6.out]
    rintro e w7 ⟨on, rfl, d7⟩
    have R7 : Hid (w7.heap[w.heap.size]? = some (.cells (nc5 nil5) 47 (0, 0))) := rowApart HR6.out d7.apart (by omega)
    have N7 : Nr w7 w3.heap.size ⟨s, m, b, c, p⟩ := rowApart HN6.out d7.apart (by omega)
    have D7 : Hid (Drawn W0 w g vb xs w7) := HD6.out.and d7
    clear q4 c1 k0 k1 f1 HW6 HR6 HN6 HD6 d7
    cases on
    · have HDn : Hid (Dn ⟨s, m, b, c, p⟩) := dn_of hsm hdv (.inl HM.out.symm)
      have N7' : Hid _ := N7
      clear N7
      go_wp2_with (first | (refine wpList_load_row rfl 47 _ rfl w3.heap.size rfl 47 (nc5 ⟨s, m, b, c, p⟩) (0, 0) _ N7'.out Tryz.underlying47 rfl (sizeN5 _) ?_) | (refine wpList_store_row rfl 47 _ _ rfl w.heap.size (nc5 ⟨s, m, b, c, p⟩) rfl rfl 47 _ R7.out (sizeN5 _) rfl (oneN5 _) ?_))
      exact bodyPost_ret (v := .agg (nc5 ⟨s, m, b, c, p⟩)) (results_cell_row rfl _ _ w.heap.size 47 _ (0, 0) _ rfl (setRow_heap _ _ _ _ _ (0, 0) R7.out) Tryz.underlying47 rfl (sizeN5 _)) rfl ⟨⟨s, m, b, c, p⟩, rfl, HDn.out, (D7.out).on hg hgw (below_setRow (Below.refl _ _) (Nat.le_refl _) _)⟩
    · have HDn : Hid (Dn ⟨s, 0, b, c, p⟩) := dn_of hsm hdv (.inr ⟨by rw [HM.out, HM1.out], rfl⟩)
      have k1 := (Nr.cells N7).2.1
      have f1 : w7.frozen? ⟨w3.heap.size, 1, none⟩ = false := frozen_of_row w7 _ 1 _ _ N7
      have HN8 : Hid (Nr (w7.setCell ⟨w3.heap.size, 1, none⟩ (.int .i64 0)) w3.heap.size ⟨s, 0, b, c, p⟩) := by
        show (w7.setCell _ _).heap[w3.heap.size]? = _
        rw [heap_setCell_same w7 _ 1 _ _ _ N7]
        rfl
      have HR8 : Hid ((w7.setCell ⟨w3.heap.size, 1, none⟩ (.int .i64 0)).heap[w.heap.size]? = some (.cells (nc5 nil5) 47 (0, 0))) := (heap_setCell_other w7 ⟨w3.heap.size, 1, none⟩ _ _ (by show w.heap.size ≠ w3.heap.size; omega)).trans R7.out
      have HD8 : Hid (Drawn W0 w g vb xs (w7.setCell ⟨w3.heap.size, 1, none⟩ (.int .i64 0))) := D7.out.on hg hgw ((Below.refl _ _).setCell (p := ⟨w3.heap.size, 1, none⟩) (by show _ ≤ w3.heap.size; omega) _)
      clear N7 R7 D7
      go_wp2_with (first | (refine wpList_load_row rfl 47 _ rfl w3.heap.size rfl 47 (nc5 ⟨s, 0, b, c, p⟩) (0, 0) _ HN8.out Tryz.underlying47 rfl (sizeN5 _) ?_) | (refine wpList_store_row rfl 47 _ _ rfl w.heap.size (nc5 ⟨s, 0, b, c, p⟩) rfl rfl 47 _ HR8.out (sizeN5 _) rfl (oneN5 _) ?_))
      exact bodyPost_ret (v := .agg (nc5 ⟨s, 0, b, c, p⟩)) (results_cell_row rfl _ _ w.heap.size 47 _ (0, 0) _ rfl (setRow_heap _ _ _ _ _ (0, 0) HR8.out) Tryz.underlying47 rfl (sizeN5 _)) rfl ⟨⟨s, 0, b, c, p⟩, rfl, HDn.out, (HD8.out).on hg hgw (below_setRow (Below.refl _ _) (Nat.le_refl _) _)⟩
  · have dm : (m == 1) = false := by simpa using hm1
    have HDn : Hid (Dn ⟨s, m, b, c, p⟩) := dn_of hsm hdv (.inl HM.out.symm)
    rw [← HW6.out] at HR6 HN6 HD6
    clear hm1 k0
    go_wp2_with (first | (refine wpList_load_row rfl 47 _ rfl w3.heap.size rfl 47 (nc5 ⟨s, m, b, c, p⟩) (0, 0) _ HN6.out Tryz.underlying47 rfl (sizeN5 _) ?_) | (refine wpList_store_row rfl 47 _ _ rfl w.heap.size (nc5 ⟨s, m, b, c, p⟩) rfl rfl 47 _ HR6.out (sizeN5 _) rfl (oneN5 _) ?_))
    exact bodyPost_ret (v := .agg (nc5 ⟨s, m, b, c, p⟩)) (results_cell_row rfl _ _ w.heap.size 47 _ (0, 0) _ rfl (setRow_heap _ _ _ _ _ (0, 0) HR6.out) Tryz.underlying47 rfl (sizeN5 _)) rfl ⟨⟨s, m, b, c, p⟩, rfl, HDn.out, (HD6.out).on hg hgw (below_setRow (Below.refl _ _) (Nat.le_refl _) _)⟩

end Go.Proofs.YtbopliahafkecaaGreatDoor.Ent

/- Chapter 5, draws: a need put in order; plain facts alone. -/
namespace Go.Proofs.YtbopliahafkecaaGreatDoor.Ent
open Go.RowKit Go.Proofs.YtbopliahafkecaaGreatDoor.Mem Go.Proofs.YtbopliahafkecaaGreatDoor.Laws Go.Proofs.YtbopliahafkecaaGreatDoor.Bytes Go.Proofs.YtbopliahafkecaaGreatDoor.Sha Go.Proofs.YtbopliahafkecaaGreatDoor.Ver Go.Proofs.YtbopliahafkecaaGreatDoor.Mod Go.Proofs.YtbopliahafkecaaGreatDoor.Draw
set_option linter.unusedVariables false
set_option linter.unusedSimpArgs false

/-- one round of putting n in order -/
def stepA (n : Nd) (s : List Nd × Bool) (x : Nd) : List Nd × Bool := if (!s.2 && !ltT x.path n.path) = true then (s.1 ++ [n], true) else s
def stepB (n : Nd) (s : List Nd × Bool) (x : Nd) : List Nd × Bool := if eqT x.path n.path = false then (s.1 ++ [x], s.2) else s
def stepN (n : Nd) (s : List Nd × Bool) (x : Nd) : List Nd × Bool := stepB n (stepA n s x) x
def insN (l : List Nd) (n : Nd) : List Nd := if (l.foldl (stepN n) ([], false)).2 = true then (l.foldl (stepN n) ([], false)).1 else (l.foldl (stepN n) ([], false)).1 ++ [n]

theorem stepN_len (n : Nd) (s : List Nd × Bool) (x : Nd) : (stepN n s x).1.length ≤ s.1.length + 2 := by
  unfold stepN stepB stepA
  split <;> split <;> simp <;> omega
theorem fold_len (n : Nd) : ∀ (l : List Nd) (s : List Nd × Bool), (l.foldl (stepN n) s).1.length ≤ s.1.length + 2 * l.length := by
  intro l
  induction l with
  | nil => intro s; simp
  | cons x r ih =>
    intro s
    have h1 := ih (stepN n s x)
    have h2 := stepN_len n s x
    simp only [List.foldl_cons, List.length_cons]
    omega
theorem stepA_mem {n : Nd} {s : List Nd × Bool} {x y : Nd} (h : y ∈ (stepA n s x).1) : y ∈ s.1 ∨ y = n := by
  unfold stepA at h
  split at h
  · rcases List.mem_append.1 h with h | h
    · exact .inl h
    · simp at h; exact .inr h
  · exact .inl h
theorem stepN_mem {n : Nd} {s : List Nd × Bool} {x y : Nd} (h : y ∈ (stepN n s x).1) : y ∈ s.1 ∨ y = n ∨ y = x := by
  unfold stepN stepB at h
  split at h
  · rcases List.mem_append.1 h with h | h
    · rcases stepA_mem h with h | h
      · exact .inl h
      · exact .inr (.inl h)
    · simp at h; exact .inr (.inr h)
  · rcases stepA_mem h with h | h
    · exact .inl h
    · exact .inr (.inl h)
theorem fold_mem {n : Nd} : ∀ (l : List Nd) (s : List Nd × Bool) (y : Nd), y ∈ (l.foldl (stepN n) s).1 → y ∈ s.1 ∨ y = n ∨ y ∈ l := by
  intro l
  induction l with
  | nil => intro s y h; exact .inl h
  | cons x r ih =>
    intro s y h
    rcases ih _ _ h with h | h | h
    · rcases stepN_mem h with h | h | h
      · exact .inl h
      · exact .inr (.inl h)
      · exact .inr (.inr (by simp [h]))
    · exact .inr (.inl h)
    · exact .inr (.inr (by simp [h]))
theorem ins_mem {l : List Nd} {n y : Nd} (h : y ∈ insN l n) : y = n ∨ y ∈ l := by
  unfold insN at h
  split at h
  · rcases fold_mem _ _ _ h with h | h
    · cases h
    · exact h
  · rcases List.mem_append.1 h with h | h
    · rcases fold_mem _ _ _ h with h | h
      · cases h
      · exact h
    · simp at h; exact .inl h

def lts (n : Nd) (x : Nd) : Bool := ltT x.path n.path
def nes (n : Nd) (x : Nd) : Bool := !eqT x.path n.path
theorem fold_true (n : Nd) : ∀ (l out : List Nd), l.foldl (stepN n) (out, true) = (out ++ l.filter (nes n), true) := by
  intro l
  induction l with
  | nil => intro out; simp
  | cons x r ih =>
    intro out
    rw [List.foldl_cons]
    have hA : stepA n (out, true) x = (out, true) := by unfold stepA; simp
    rw [show stepN n (out, true) x = stepB n (stepA n (out, true) x) x from rfl, hA]
    cases he : eqT x.path n.path
    · have hB : stepB n (out, true) x = (out ++ [x], true) := by unfold stepB; rw [he]; simp
      rw [hB, ih, List.filter_cons_of_pos (by unfold nes; rw [he]; rfl)]
      simp
    · have hB : stepB n (out, true) x = (out, true) := by unfold stepB; rw [he]; simp
      rw [hB, ih, List.filter_cons_of_neg (by unfold nes; rw [he]; simp)]
theorem fold_false (n : Nd) : ∀ (l out : List Nd), (∀ x ∈ l, ltT x.path n.path = true → eqT x.path n.path = false) → l.foldl (stepN n) (out, false) = if (l.dropWhile (lts n)) = [] then (out ++ l, false) else (out ++ l.takeWhile (lts n) ++ [n] ++ (l.dropWhile (lts n)).filter (nes n), true) := by
  intro l
  induction l with
  | nil => intro out _; simp
  | cons x r ih =>
    intro out hirr
    rw [List.foldl_cons]
    cases hl : ltT x.path n.path
    · have hA : stepA n (out, false) x = (out ++ [n], true) := by unfold stepA; rw [hl]; simp
      have hd : (x :: r).dropWhile (lts n) = x :: r := by rw [List.dropWhile_cons_of_neg (by unfold lts; rw [hl]; simp)]
      have ht : (x :: r).takeWhile (lts n) = [] := by rw [List.takeWhile_cons_of_neg (by unfold lts; rw [hl]; simp)]
      rw [hd, ht, if_neg (by simp), show stepN n (out, false) x = stepB n (stepA n (out, false) x) x from rfl, hA]
      cases he : eqT x.path n.path
      · have hB : stepB n (out ++ [n], true) x = (out ++ [n] ++ [x], true) := by unfold stepB; rw [he]; simp
        rw [hB, fold_true, List.filter_cons_of_pos (by unfold nes; rw [he]; rfl)]
        simp
      · have hB : stepB n (out ++ [n], true) x = (out ++ [n], true) := by unfold stepB; rw [he]; simp
        rw [hB, fold_true, List.filter_cons_of_neg (by unfold nes; rw [he]; simp)]
        simp
    · have hA : stepA n (out, false) x = (out, false) := by unfold stepA; rw [hl]; simp
      have hB : stepB n (out, false) x = (out ++ [x], false) := by unfold stepB; rw [hirr x (by simp) hl]; simp
      have hd : (x :: r).dropWhile (lts n) = r.dropWhile (lts n) := by rw [List.dropWhile_cons_of_pos (by unfold lts; rw [hl])]
      have ht : (x :: r).takeWhile (lts n) = x :: r.takeWhile (lts n) := by rw [List.takeWhile_cons_of_pos (by unfold lts; rw [hl])]
      rw [hd, ht, show stepN n (out, false) x = stepB n (stepA n (out, false) x) x from rfl, hA, hB, ih _ (fun y hy => hirr y (by simp [hy]))]
      by_cases hn : r.dropWhile (lts n) = []
      · rw [if_pos hn, if_pos hn]; simp
      · rw [if_neg hn, if_neg hn]; simp

theorem pathL_lt : ∀ a ∈ pathL, ∀ b ∈ pathL, (ltT a b = true → eqT a b = false) ∧ (ltT a b = true ∨ eqT a b = true ∨ ltT b a = true) ∧ (eqT a b = true → ∀ c ∈ pathL, ltT a c = ltT b c) ∧ ∀ c ∈ pathL, ltT a b = true → ltT b c = true → ltT a c = true := by decide +kernel

/-- needs in order, with drawn paths -/
def Srt (l : List Nd) : Prop := (∀ x ∈ l, Dn x) ∧ l.Pairwise fun x y => ltT x.path y.path = true
theorem mem_drop_head {α : Type} (p : α → Bool) : ∀ (l : List α) (z : α) (r : List α), l.dropWhile p = z :: r → p z = false ∧ ∃ a, l = a ++ z :: r := by
  intro l
  induction l with
  | nil => intro z r h; simp at h
  | cons x l ih =>
    intro z r h
    cases hp : p x
    · rw [List.dropWhile_cons_of_neg (by simp [hp])] at h
      simp only [List.cons.injEq] at h
      obtain ⟨rfl, rfl⟩ := h
      exact ⟨hp, [], rfl⟩
    · rw [List.dropWhile_cons_of_pos hp] at h
      obtain ⟨h1, a, h2⟩ := ih z r h
      exact ⟨h1, x :: a, by rw [h2]; rfl⟩
theorem take_lt {α : Type} (p : α → Bool) : ∀ (l : List α), ∀ x ∈ l.takeWhile p, p x = true ∧ x ∈ l := by
  intro l
  induction l with
  | nil => intro x hx; cases hx
  | cons y l ih =>
    intro x hx
    cases hp : p y
    · rw [List.takeWhile_cons_of_neg (by simp [hp])] at hx; cases hx
    · rw [List.takeWhile_cons_of_pos hp] at hx
      rcases List.mem_cons.1 hx with rfl | hx
      · exact ⟨hp, by simp⟩
      · have := ih x hx
        exact ⟨this.1, by simp [this.2]⟩
theorem drop_gt {l : List Nd} {n : Nd} (hl : Srt l) (hn : Dn n) : ∀ y ∈ (l.dropWhile (lts n)).filter (nes n), y ∈ l ∧ ltT n.path y.path = true := by
  intro y hy
  obtain ⟨hy1, hy2⟩ := List.mem_filter.1 hy
  cases hd : l.dropWhile (lts n) with
  | nil => rw [hd] at hy1; cases hy1
  | cons z r =>
    obtain ⟨hz, a, ha⟩ := mem_drop_head _ _ _ _ hd
    rw [hd] at hy1
    have hzl : z ∈ l := by rw [ha]; simp
    have hyl : y ∈ l := by rw [ha]; exact List.mem_append_right _ hy1
    have hzy : y = z ∨ ltT z.path y.path = true := by
      rcases List.mem_cons.1 hy1 with h | h
      · exact .inl h
      · have hp := hl.2
        rw [ha, List.pairwise_append] at hp
        exact .inr ((List.pairwise_cons.1 hp.2.1).1 y h)
    have hze : eqT y.path n.path = false := by unfold nes at hy2; simpa using hy2
    have pz := (hl.1 z hzl).1
    have py := (hl.1 y hyl).1
    have pn := hn.1
    refine ⟨hyl, ?_⟩
    have hz' : ltT z.path n.path = false := hz
    rcases (pathL_lt z.path pz n.path pn).2.1 with h | h | h
    · rw [hz'] at h; cases h
    · rcases hzy with rfl | h2
      · rw [hze] at h; cases h
      · rw [← (pathL_lt z.path pz n.path pn).2.2.1 h y.path py]; exact h2
    · rcases hzy with rfl | h2
      · exact h
      · exact (pathL_lt n.path pn z.path pz).2.2.2 y.path py h h2
/-- a need put in order: they stay in order -/
theorem ins_srt {l : List Nd} {n : Nd} (hl : Srt l) (hn : Dn n) : Srt (insN l n) ∧ (insN l n).length ≤ l.length + 1 := by
  have hm : ∀ x ∈ insN l n, Dn x := by
    intro x hx
    rcases ins_mem hx with rfl | h
    · exact hn
    · exact hl.1 x h
  have hf := fold_false n l [] (fun x hx => (pathL_lt x.path (hl.1 x hx).1 n.path hn.1).1)
  have hall : ∀ x ∈ l.takeWhile (lts n), ltT x.path n.path = true ∧ x ∈ l := take_lt (lts n) l
  have htd : l.takeWhile (lts n) ++ l.dropWhile (lts n) = l := List.takeWhile_append_dropWhile
  have hlen : (l.takeWhile (lts n)).length + (l.dropWhile (lts n)).length = l.length := by rw [← List.length_append, htd]
  by_cases hd : l.dropWhile (lts n) = []
  · rw [if_pos hd] at hf
    have hi : insN l n = l ++ [n] := by unfold insN; rw [hf]; simp
    have ht : l.takeWhile (lts n) = l := by rw [hd, List.append_nil] at htd; exact htd
    rw [ht] at hall
    refine ⟨⟨hm, ?_⟩, by rw [hi]; simp⟩
    rw [hi, List.pairwise_append]
    exact ⟨hl.2, by simp, fun a ha b hb => by simp at hb; subst hb; exact (hall a ha).1⟩
  · rw [if_neg hd] at hf
    have hi : insN l n = l.takeWhile (lts n) ++ [n] ++ (l.dropWhile (lts n)).filter (nes n) := by unfold insN; rw [hf]; simp
    have hgt := drop_gt hl hn
    refine ⟨⟨hm, ?_⟩, ?_⟩
    · rw [hi, List.pairwise_append, List.pairwise_append]
      refine ⟨⟨hl.2.sublist (List.takeWhile_sublist _), by simp, fun a ha b hb => by simp at hb; subst hb; exact (hall a ha).1⟩, (hl.2.sublist (List.dropWhile_sublist _)).sublist List.filter_sublist, ?_⟩
      intro a ha b hb
      obtain ⟨hbl, hbn⟩ := hgt b hb
      rcases List.mem_append.1 ha with ha | ha
      · obtain ⟨h1, h2⟩ := hall a ha
        exact (pathL_lt a.path (hl.1 a h2).1 n.path hn.1).2.2.2 b.path (hl.1 b hbl).1 h1 hbn
      · simp at ha; subst ha; exact hbn
    · rw [hi]
      have := List.length_filter_le (nes n) (l.dropWhile (lts n))
      simp
      omega
theorem srt_rise : ∀ l : List Nd, Srt l → rise l = true := by
  intro l
  induction l with
  | nil => intro _; rfl
  | cons x r ih =>
    intro h
    have hr : Srt r := ⟨fun y hy => h.1 y (by simp [hy]), (List.pairwise_cons.1 h.2).2⟩
    cases r with
    | nil => exact (h.1 x (by simp)).2.1
    | cons y r =>
      show (x.ok && ltT x.path y.path && rise (y :: r)) = true
      rw [(h.1 x (by simp)).2.1, (List.pairwise_cons.1 h.2).1 y (by simp), ih hr]
      rfl

end Go.Proofs.YtbopliahafkecaaGreatDoor.Ent
