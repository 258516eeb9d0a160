/- Chapter 7, the landed code: the edge of texts; one more; its root. -/
import Derived.Test.YthbonifpdpknnaaDoorEsD
namespace Go.Proofs.YthbonifpdpknnaaDoor.Ed
open Go.RowKit Go.Proofs.YthbonifpdpknnaaDoor.Mem Go.Proofs.YthbonifpdpknnaaDoor.Laws Go.Proofs.YthbonifpdpknnaaDoor.Bytes Go.Proofs.YthbonifpdpknnaaDoor.Sha Go.Proofs.YthbonifpdpknnaaDoor.Tr
set_option linter.unusedVariables false
set_option linter.unusedSimpArgs false

theorem okE_nil : okE ((0 : Nat) : Int) [] = true := by rw [okE_iff]; exact ⟨by omega, rfl, fun s hs => by cases hs⟩
theorem allE_of (l : List ByteArray) : (allE 0 [] l).1 = ((edgeOf l).1 : Int) ∧ (allE 0 [] l).2.1 = (edgeOf l).2 := by
  by_cases h : l.length ≤ 200
  · have := allE_edge (l := []) (r := l) (by simp; omega)
    rw [edge_nil, List.nil_append] at this
    rw [show ((([] : List ByteArray).length : Nat) : Int) = 0 from rfl] at this
    rw [this]
    unfold edgeOf
    rw [if_pos h]
    exact ⟨rfl, rfl⟩
  · have := allE_full (r := l) okE_nil (by omega)
    rw [show ((0 : Nat) : Int) = 0 from rfl] at this
    rw [this]
    unfold edgeOf
    rw [if_neg h]
    exact ⟨rfl, rfl⟩
theorem allE_one (n : Int) (hs : List ByteArray) (s : ByteArray) : allE n hs [s] = addE n hs s := by
  by_cases h : okE n hs = true ∧ n ≠ 200
  · unfold allE
    rw [goE, addE_yes h.1 h.2, if_pos rfl]
    rfl
  · unfold allE
    rw [goE, addE_no h, if_neg (by simp)]
theorem eroot_join : ∀ (q : List ByteArray) (y r : ByteArray), eroot (q ++ [y, r]) = eroot (q ++ [nodeH y r])
  | [], y, r => rfl
  | [a], y, r => rfl
  | a :: b :: q, y, r => by
    show eroot (a :: (b :: q ++ [y, r])) = eroot (a :: (b :: q ++ [nodeH y r]))
    rw [eroot_cons (by simp), eroot_cons (by simp), eroot_join (b :: q) y r]

/-- 1 of true -/
def bN : Value → Nat
  | .bool true => 1
  | _ => 0

/-- how many a stack has -/
def skLen (w : World) (gs : Nat) : Nat := match w.cell? ⟨gs, 0, none⟩ with
  | some (.slice _ n _) => n
  | _ => 0
theorem Sk.len {w : World} {lo gs : Nat} {hs : List ByteArray} (h : Sk w lo gs hs) : skLen w gs = hs.length := by
  obtain ⟨v, h1, h2, h3⟩ := h
  obtain ⟨ao, cap, rfl⟩ := h3.len
  have : w.cell? ⟨gs, 0, none⟩ = some (.slice ao (ss hs).length cap) := row_at h2 0
  unfold skLen
  rw [this, ss_len]

set_option maxRecDepth 1000000 in
set_option maxHeartbeats 4000000 in
theorem of_impl (w : World) (v : Value) (l : List ByteArray) (hG : Glob w) (h : Sl w v (ss l)) (hl : l.length ≤ 1000000000) (hz : ∀ s ∈ l, s.size ≤ 10000000000) :
    Calls Tryd.prog 18 #[v] w fun e w' => ∃ v', e = .returned (.agg #[.int .i64 ((edgeOf l).1 : Int), v']) ∧ Own w' w.heap.size w'.heap.size 9 v' (ss (edgeOf l).2) ∧ Below w.heap.size w w' := by
  have hB : Below w.heap.size w (w.alloc (.cells #[.int .i64 0, .slice none 0 0] 34)) := (Below.refl _ _).alloc (Nat.le_refl _) _
  have HR0 : Hid ((w.alloc (.cells #[.int .i64 0, .slice none 0 0] 34)).heap[w.heap.size]? = some (.cells (ee 0 (.slice none 0 0)) 34 (0, 0))) := heap_alloc_new w _
  have q := all_impl (w.alloc (.cells #[.int .i64 0, .slice none 0 0] 34)) 0 (.slice none 0 0) v [] l (hG.later hB) (Sl.nil _) (h.later hB) (by simp) (fun s hs => by cases hs) hl hz
  have HB : Hid _ := hB
  rw [(allE_of l).1, (allE_of l).2] at q
  obtain ⟨n, hn⟩ : ∃ n, (edgeOf l).1 = n := ⟨_, rfl⟩
  obtain ⟨r, hr⟩ : ∃ n, (edgeOf l).2 = n := ⟨_, rfl⟩
  simp only [hn, hr] at q ⊢
  obtain ⟨t, ht⟩ : ∃ t, (allE 0 [] l).2.2 = t := ⟨_, rfl⟩
  rw [ht] at q
  clear hB hn hr ht
  go_enter Tryd.func18, Tryd.ntmps18
  go_wp2_with fail
  refine q.mono ?_
  rintro e w1 ⟨v1, rfl, o1, b1⟩
  obtain ⟨ao1, L1, cap1, rfl, _, _⟩ := o1.form
  have z1 : w.heap.size + 1 ≤ w1.heap.size := by have := b1.size; simp at this; omega
  have B1 : Below w.heap.size w w1 := HB.out.trans (b1.mono HB.out.size)
  have o1 : Own w1 (w.heap.size + 1) w1.heap.size 9 (.slice ao1 L1 cap1) (ss r) := o1.mono (by simp) (Nat.le_refl _)
  have HO : Hid (Own (w1.alloc (.cells (ee (n : Int) (.slice ao1 L1 cap1)) 34)) (w.heap.size + 1) (w1.alloc (.cells (ee (n : Int) (.slice ao1 L1 cap1)) 34)).heap.size 9 (.slice ao1 L1 cap1) (ss r)) := o1.alloc _
  have HB2 : Hid (Below w.heap.size w (w1.alloc (.cells (ee (n : Int) (.slice ao1 L1 cap1)) 34))) := B1.alloc B1.size _
  have HR1 : Hid ((w1.alloc (.cells (ee (n : Int) (.slice ao1 L1 cap1)) 34)).heap[w.heap.size]? = some (.cells (ee 0 (.slice none 0 0)) 34 (0, 0))) := (heap_alloc_old _ _ (by omega)).trans (rowKeep HR0.out b1)
  have HR2 : Hid ((w1.alloc (.cells (ee (n : Int) (.slice ao1 L1 cap1)) 34)).heap[w1.heap.size]? = some (.cells (ee (n : Int) (.slice ao1 L1 cap1)) 34 (0, 0))) := heap_alloc_new _ _
  clear q o1 b1 B1 HB HR0
  go_wp2_with (first | (refine wpList_load_row rfl 34 _ rfl w1.heap.size rfl 34 (ee (n : Int) (.slice ao1 L1 cap1)) (0, 0) _ HR2.out Tryd.underlying34 rfl (sizeEd _ _) ?_) | (refine wpList_store_row rfl 34 _ _ rfl w.heap.size (ee (n : Int) (.slice ao1 L1 cap1)) rfl rfl 34 _ HR1.out (sizeEd _ _) rfl (oneEd _ rfl) ?_))
  refine bodyPost_ret (v := .agg (ee (n : Int) (.slice ao1 L1 cap1))) (results_cell_row rfl _ _ w.heap.size 34 _ (0, 0) _ rfl (setRow_heap _ _ _ _ _ (0, 0) HR1.out) Tryd.underlying34 rfl (sizeEd _ _)) rfl ⟨_, rfl, ?_, below_setRow HB2.out (by omega) _⟩
  exact (HO.out.setRow _ (by omega)).mono (by omega) (by simp)

set_option maxRecDepth 1000000 in
set_option maxHeartbeats 4000000 in
theorem add_impl (w : World) (n : Int) (v : Value) (hs : List ByteArray) (s : ByteArray) (hG : Glob w) (h : Sl w v (ss hs)) (hl : hs.length ≤ 1000000000) (hz : ∀ s ∈ hs, s.size ≤ 1000000000000) (hsz : s.size ≤ 10000000000) :
    Calls Tryd.prog 20 #[.agg #[.int .i64 n, v], .string s] w fun e w' => ∃ v', e = .returned (.tuple #[.agg #[.int .i64 (addE n hs s).1, v'], .bool (addE n hs s).2.2]) ∧ Own w' w.heap.size w'.heap.size 9 v' (ss (addE n hs s).2.1) ∧ Below w.heap.size w w' := by
  obtain ⟨W, hW⟩ : ∃ W, W = (w.alloc (.cells #[.int .i64 n, v] 34)).alloc (.cells #[.int .i64 0, .slice none 0 0] 34) := ⟨_, rfl⟩
  have r0 : W.heap[w.heap.size]? = some (.cells (ee n v) 34 (0, 0)) := by rw [hW]; exact heap_alloc2_old w _ _
  have r1 : W.heap[w.heap.size + 1]? = some (.cells (ee 0 (.slice none 0 0)) 34 (0, 0)) := by
    rw [hW]
    have := heap_alloc_new (w.alloc (.cells #[.int .i64 n, v] 34)) (.cells #[.int .i64 0, .slice none 0 0] 34)
    simpa [ee] using this
  have hB : Below w.heap.size w W := by rw [hW]; exact ((Below.refl _ _).alloc (Nat.le_refl _) _).alloc (by simp) _
  have hz2' : W.heap.size = w.heap.size + 2 := by rw [hW]; simp
  have hB2 : ∀ o, Below w.heap.size w (W.alloc o) := fun o => hB.alloc hB.size _
  have q : ∀ o vl, Sl (W.alloc o) vl (ss [s]) → _ := fun o vl hvl => all_impl (W.alloc o) n v vl hs [s] (hG.later (hB2 o)) (h.later (hB2 o)) hvl hl hz (by simp) (fun t ht => by simp at ht; rw [ht]; omega)
  simp only [allE_one] at q
  have HR1 : Hid _ := r1
  have HB : Hid _ := hB
  have HZ : Hid _ := hz2'
  have HW : Hid _ := hW
  rw [hW] at r0
  obtain ⟨ao, cap, rfl, hcap⟩ := h.form
  rw [ss_len] at *
  have HL0 : Hid _ := r0
  obtain ⟨m, hm⟩ : ∃ m, (addE n hs s).1 = m := ⟨_, rfl⟩
  obtain ⟨r, hr⟩ : ∃ m, (addE n hs s).2.1 = m := ⟨_, rfl⟩
  obtain ⟨t, ht⟩ : ∃ m, (addE n hs s).2.2 = m := ⟨_, rfl⟩
  simp only [hm, hr, ht] at *
  clear hW r0 r1 hB hz2' h hB2 hm hr ht
  go_enter Tryd.func20, Tryd.ntmps20
  go_wp2_with (refine wpList_load_row rfl 34 _ rfl w.heap.size rfl 34 (ee n (.slice ao hs.length cap)) (0, 0) _ HL0.out Tryd.underlying34 rfl (sizeEd _ _) ?_)
  rw [← HW.out]
  have hvl : Sl (W.alloc (.cells #[.string s] 9)) (.slice (some ⟨w.heap.size + 2, 0, none⟩) 1 1) (ss [s]) := by rw [← HZ.out]; exact Laws.Sl.one _ _ _
  refine (q _ _ hvl).mono ?_
  rintro e w1 ⟨v1, rfl, o1, b1⟩
  obtain ⟨ao1, L1, cap1, rfl, _, _⟩ := o1.form
  have zW := HZ.out
  have J1 : w1.heap[w.heap.size + 1]? = some (.cells (ee 0 (.slice none 0 0)) 34 (0, 0)) := (b1.block _ (by simp; omega)).trans ((heap_alloc_old _ _ (by omega)).trans HR1.out)
  have JB : Below w.heap.size w w1 := (HB.out.alloc HB.out.size _).trans (b1.mono (by simp; omega))
  have HO : Hid (Own w1 (w.heap.size + 2) w1.heap.size 9 (.slice ao1 L1 cap1) (ss r)) := o1.mono (by simp; omega) (Nat.le_refl _)
  have HJ : Hid _ := J1
  have HJB : Hid _ := JB
  clear q o1 b1 J1 JB HR1 HB HZ zW HL0
  go_wp2_with (refine wpList_store_row rfl 34 _ _ rfl (w.heap.size + 1) (ee m (.slice ao1 L1 cap1)) rfl rfl 34 _ HJ.out (sizeEd _ _) rfl (oneEd _ rfl) ?_)
  refine bodyPost_ret (res_row_tmp rfl _ _ (w.heap.size + 1) 34 (ee m (.slice ao1 L1 cap1)) (0, 0) _ rfl (setRow_heap _ _ _ _ _ (0, 0) HJ.out) Tryd.underlying34 rfl (sizeEd _ _)) rfl ⟨.slice ao1 L1 cap1, rfl, ?_, below_setRow HJB.out (by omega) _⟩
  exact (HO.out.setRow _ (by omega)).mono (by omega) (by simp)

set_option maxRecDepth 1000000 in
set_option maxHeartbeats 4000000 in
theorem pop_case (w : World) (lo gs : Nat) (q : List ByteArray) (h : Sk w lo gs q) (hl : q.length ≤ 1000000000) : ∃ (y : ByteArray) (mo : Bool) (q1 : List ByteArray), Hid ((mo = true ∧ q = q1 ++ [y]) ∨ (mo = false ∧ q = [] ∧ q1 = [])) ∧
    Calls Tryd.prog 43 #[.pointer (some ⟨gs, 0, none⟩)] w fun e w' => e = .returned (.tuple #[.string y, .bool mo]) ∧ Sk w' lo gs q1 ∧ Below lo w w' := by
  by_cases hn : q = []
  · subst hn
    refine ⟨⟨#[]⟩, false, [], .inr ⟨rfl, rfl, rfl⟩, (pop_none w lo gs h).mono ?_⟩
    rintro e w' ⟨rfl, rfl⟩
    exact ⟨rfl, h, Below.refl _ _⟩
  · have hq := (List.dropLast_concat_getLast hn).symm
    refine ⟨q.getLast hn, true, q.dropLast, .inl ⟨rfl, hq⟩, ?_⟩
    exact pop_some w lo gs q.dropLast (q.getLast hn) (by rw [← hq]; exact h) (by rw [List.length_dropLast]; omega)

/-- what a round of EdgeRoot keeps -/
def Inv (w wr : World) (gs : Nat) (r y : ByteArray) (mo : Bool) (t : ByteArray) : Prop :=
  ∃ q : List ByteArray, Sk wr w.heap.size gs q ∧ Below w.heap.size w wr ∧ q.length ≤ 1000000000 ∧
    (mo = true → t = eroot (q ++ [y, r]) ∧ (∀ s ∈ q, s.size = 32) ∧ y.size = 32 ∧ r.size = 32) ∧ (mo = false → t = r ∧ q = [])

set_option maxRecDepth 1000000 in
set_option maxHeartbeats 4000000 in
theorem rootE_impl (w : World) (n : Int) (v : Value) (hs : List ByteArray) (hG : Glob w) (h : Sl w v (ss hs)) (hl : hs.length ≤ 1000000000) (hz : ∀ s ∈ hs, s.size ≤ 1000000000000) :
    Calls Tryd.prog 22 #[.agg #[.int .i64 n, v]] w fun e w' => e = .returned (.string (rootE n hs)) ∧ Below w.heap.size w w' := by
  have hB : Below w.heap.size w (w.alloc (.cells #[.int .i64 n, v] 34)) := (Below.refl _ _).alloc (Nat.le_refl _) _
  have r0 : (w.alloc (.cells #[.int .i64 n, v] 34)).heap[w.heap.size]? = some (.cells (ee n v) 34 (0, 0)) := heap_alloc_new w _
  have q := ok_impl (w.alloc (.cells #[.int .i64 n, v] 34)) n v hs (h.later hB) (by omega)
  have q3 : ∀ X, Below w.heap.size w X → _ := fun X hX => texts_impl X v hs (h.later hX) hl hz
  have HG : Hid (∀ X, Below w.heap.size w X → Glob X) := fun X hX => hG.later hX
  have HR0 : Hid _ := r0
  have HB : Hid _ := hB
  obtain ⟨ao, cap, rfl, hcap⟩ := h.form
  simp only [ss_len] at *
  clear r0 hB h hz hG
  by_cases hok : okE n hs = false
  · have HN : Hid (rootE n hs = ⟨#[]⟩) := by show _ = _; unfold rootE; rw [if_neg (by rw [hok]; simp)]
    rw [hok] at q
    clear hok q3
    go_enter Tryd.func22, Tryd.ntmps22
    go_wp2_with (refine wpList_load_row rfl 34 _ rfl w.heap.size rfl 34 (ee n (.slice ao hs.length cap)) (0, 0) _ HR0.out Tryd.underlying34 rfl (sizeEd _ _) ?_)
    refine q.mono ?_
    rintro e w1 ⟨rfl, b1⟩
    have HB1 : Hid (Below w.heap.size w w1) := HB.out.trans (b1.mono HB.out.size)
    clear q b1 HB HR0
    go_wp2
    go_ret
    exact ⟨by rw [HN.out]; rfl, HB1.out⟩
  have hok : okE n hs = true := by
    cases e : okE n hs with
    | false => exact absurd e hok
    | true => rfl
  have HN : Hid (rootE n hs = eroot hs) := by show _ = _; unfold rootE; rw [if_pos hok]
  obtain ⟨⟨i1, i2⟩, i3, i4⟩ := okE_iff.1 hok
  have H32 : Hid (∀ s ∈ hs, s.size = 32) := i4
  rw [hok] at q
  clear hok i3 i4
  go_enter Tryd.func22, Tryd.ntmps22
  go_wp2_with (refine wpList_load_row rfl 34 _ rfl w.heap.size rfl 34 (ee n (.slice ao hs.length cap)) (0, 0) _ HR0.out Tryd.underlying34 rfl (sizeEd _ _) ?_)
  refine q.mono ?_
  rintro e w1 ⟨rfl, b1⟩
  have HB1 : Hid (Below w.heap.size w w1) := HB.out.trans (b1.mono HB.out.size)
  have R0 : w1.heap[w.heap.size]? = some (.cells (ee n (.slice ao hs.length cap)) 34 (0, 0)) := rowKeep HR0.out b1
  have k1 : w1.cell? ⟨w.heap.size, 1, none⟩ = some (.slice ao hs.length cap) := row_at R0 1
  clear q b1 HB HR0 R0
  go_wp2_with fail
  refine (q3 _ HB1.out).mono ?_
  rintro e w2 ⟨v2, rfl, o2, b2⟩
  obtain ⟨ao2, L2, cap2, rfl, _, _⟩ := o2.form
  have B2 : Below w.heap.size w w2 := HB1.out.trans (b2.mono HB1.out.size)
  have HS3 : Hid (Sk (w2.alloc (.cells #[.slice ao2 L2 cap2] 64)) w.heap.size w2.heap.size hs) := ⟨_, B2.size, heap_alloc_new _ _, (o2.mono HB1.out.size (Nat.le_refl _)).alloc _⟩
  have HB3 : Hid (Below w.heap.size w (w2.alloc (.cells #[.slice ao2 L2 cap2] 64))) := B2.alloc B2.size _
  clear q3 o2 b2 B2 HB1 k1
  go_wp2_with fail
  by_cases hn : hs = []
  · have HN' : Hid (rootE n hs = rootOf []) := by show _ = _; rw [HN.out, hn]; rfl
    have q4 := pop_none (w2.alloc (.cells #[.slice ao2 L2 cap2] 64)) w.heap.size w2.heap.size (by have := HS3.out; rw [hn] at this; exact this)
    have q5 := root_impl (w2.alloc (.cells #[.slice ao2 L2 cap2] 64)) (.slice none 0 0) [] (HG.out _ HB3.out) (Sl.nil _) (by simp) (fun s hs => by cases hs)
    clear hn HN H32
    refine q4.mono ?_
    rintro e w4 ⟨rfl, rfl⟩
    clear q4
    go_wp2_with fail
    refine q5.mono ?_
    rintro e w5 ⟨rfl, b5⟩
    have HB5 : Hid (Below w.heap.size w w5) := HB3.out.trans (b5.mono HB3.out.size)
    clear q5 b5 HS3 HB3
    go_wp2
    go_ret
    exact ⟨by rw [HN'.out]; rfl, HB5.out⟩
  obtain ⟨q, x, hq⟩ : ∃ q x, hs = q ++ [x] := ⟨hs.dropLast, hs.getLast hn, (List.dropLast_concat_getLast hn).symm⟩
  have hql : q.length + 1 ≤ 1000000000 := by rw [hq, List.length_append] at hl; simpa using hl
  have q4 := pop_some (w2.alloc (.cells #[.slice ao2 L2 cap2] 64)) w.heap.size w2.heap.size q x (by have := HS3.out; rw [hq] at this; exact this) (by omega)
  have HN' : Hid (rootE n hs = eroot (q ++ [x])) := by show _ = _; rw [HN.out, hq]
  have HQ : Hid (∀ s ∈ q, s.size = 32) := fun s hs' => H32.out s (by rw [hq]; simp [hs'])
  have hx : x.size = 32 := H32.out x (by rw [hq]; simp)
  clear hn HN H32 hq
  refine q4.mono ?_
  rintro e w4 ⟨rfl, s4, b4⟩
  have HB4 : Hid (Below w.heap.size w w4) := HB3.out.trans b4
  have HS4 : Hid (Sk w4 w.heap.size w2.heap.size q) := s4
  clear q4 s4 b4 HS3 HB3
  go_wp2_with fail
  -- the next one
  obtain ⟨y, mo, q1, HY, q5⟩ : ∃ (y : ByteArray) (mo : Bool) (q1 : List ByteArray), Hid ((mo = true ∧ q = q1 ++ [y]) ∨ (mo = false ∧ q = [] ∧ q1 = [])) ∧
      Calls Tryd.prog 43 #[.pointer (some ⟨w2.heap.size, 0, none⟩)] w4 fun e w' => e = .returned (.tuple #[.string y, .bool mo]) ∧ Sk w' w.heap.size w2.heap.size q1 ∧ Below w.heap.size w4 w' := pop_case w4 w.heap.size w2.heap.size q HS4.out (by omega)
  refine q5.mono ?_
  rintro e w5 ⟨rfl, s5, b5⟩
  have HI : Hid (Inv w w5 w2.heap.size x y mo (rootE n hs)) := by
    refine ⟨q1, s5, HB4.out.trans b5, ?_, ?_, ?_⟩
    · rcases HY.out with ⟨_, hh⟩ | ⟨_, hh, rfl⟩
      · have := congrArg List.length hh; simp at this; omega
      · simp
    · intro hm
      rcases HY.out with ⟨_, hh⟩ | ⟨hh, _⟩
      · refine ⟨?_, fun s hs' => HQ.out s (by rw [hh]; simp [hs']), HQ.out y (by rw [hh]; simp), hx⟩
        rw [HN'.out, hh, List.append_assoc]; rfl
      · rw [hm] at hh; cases hh
    · intro hm
      rcases HY.out with ⟨hh, _⟩ | ⟨_, hh, hh2⟩
      · rw [hm] at hh; cases hh
      · rw [HN'.out, hh]; exact ⟨rfl, hh2⟩
  clear q5 s5 b5 HY HB4 HS4 HQ HN'
  go_wp2
  go_loopw [5, 7, 8] (fun a b c wr => ∃ (r y : ByteArray) (mo : Bool), a = .string r ∧ b = .string y ∧ c = .bool mo ∧ Hid (Inv w wr w2.heap.size r y mo (rootE n hs))) (fun _ _ c wr => skLen wr w2.heap.size + bN c)
  case atStart => exact ⟨x, y, mo, rfl, rfl, rfl, HI⟩
  case round =>
    clear HI hx
    obtain ⟨r, y, mo, rfl, rfl, rfl, HI⟩ := hrel
    cases mo
    · have HN : Hid (r = rootE n hs) := by
        obtain ⟨q, h1, h2, h3, h4, h5⟩ := HI.out
        exact (h5 rfl).1.symm
      have HB5 : Hid (Below w.heap.size w wr) := by obtain ⟨q, h1, h2, _⟩ := HI.out; exact h2
      clear HI
      go_wp2
      go_ret
      exact ⟨by rw [HN.out]; rfl, HB5.out⟩
    · obtain ⟨q, h1, h2, h3, h4, h5⟩ := HI.out
      obtain ⟨e1, e2, e3, e4⟩ := h4 rfl
      have HL : Hid (skLen wr w2.heap.size = q.length) := h1.len
      have q6 := node_impl wr y r (HG.out _ h2) (by omega) (by omega)
      have HS1 : Hid (Sk wr w.heap.size w2.heap.size q) := h1
      have HB1 : Hid (Below w.heap.size w wr) := h2
      have HE1 : Hid (rootE n hs = eroot (q ++ [y, r])) := e1
      have HE2 : Hid (∀ s ∈ q, s.size = 32) := e2
      clear HI h1 h2 h4 h5 e1 e2 e3 e4
      go_wp2_with fail
      refine q6.mono ?_
      rintro e w7 ⟨rfl, b7⟩
      have HS7 : Hid (Sk w7 w.heap.size w2.heap.size q) := HS1.out.later b7
      have HB7 : Hid (Below w.heap.size w w7) := HB1.out.trans (b7.mono HB1.out.size)
      clear q6 b7 HS1 HB1
      go_wp2_with fail
      obtain ⟨y', mo, q1, HY, q8⟩ : ∃ (y : ByteArray) (mo : Bool) (q1 : List ByteArray), Hid ((mo = true ∧ q = q1 ++ [y]) ∨ (mo = false ∧ q = [] ∧ q1 = [])) ∧
        Calls Tryd.prog 43 #[.pointer (some ⟨w2.heap.size, 0, none⟩)] w7 fun e w' => e = .returned (.tuple #[.string y, .bool mo]) ∧ Sk w' w.heap.size w2.heap.size q1 ∧ Below w.heap.size w7 w' := pop_case w7 w.heap.size w2.heap.size q HS7.out (by omega)
      refine q8.mono ?_
      rintro e w8 ⟨rfl, s8, b8⟩
      have HL8 : Hid (skLen w8 w2.heap.size = q1.length) := s8.len
      have HI : Hid (Inv w w8 w2.heap.size (nodeH y r) y' mo (rootE n hs)) := by
        refine ⟨q1, s8, HB7.out.trans b8, ?_, ?_, ?_⟩
        · rcases HY.out with ⟨_, hh⟩ | ⟨_, hh, rfl⟩
          · have := congrArg List.length hh; simp at this; omega
          · simp
        · intro hm
          rcases HY.out with ⟨_, hh⟩ | ⟨hh, _⟩
          · refine ⟨?_, fun s hs' => HE2.out s (by rw [hh]; simp [hs']), HE2.out y' (by rw [hh]; simp), nodeH_size _ _⟩
            rw [HE1.out, eroot_join, hh, List.append_assoc]; rfl
          · rw [hm] at hh; cases hh
        · intro hm
          rcases HY.out with ⟨hh, _⟩ | ⟨_, hh, hh2⟩
          · rw [hm] at hh; cases hh
          · rw [HE1.out, hh]; exact ⟨rfl, hh2⟩
      have HM : Hid (q1.length + (if mo = true then 1 else 0) ≤ q.length) := by
        show _ ≤ _
        rcases HY.out with ⟨rfl, hh⟩ | ⟨rfl, hh, rfl⟩
        · rw [hh]; simp
        · simp
      clear q8 s8 b8 HY HB7 HS7 HE1 HE2
      go_wp2
      go_roundw
      case rel => exact ⟨nodeH y r, y', mo, rfl, rfl, rfl, HI⟩
      case measure =>
        have h1 := HM.out
        have h2 := HL.out
        have h3 := HL8.out
        cases mo <;> simp [bN] at h1 ⊢ <;> omega

end Go.Proofs.YthbonifpdpknnaaDoor.Ed
