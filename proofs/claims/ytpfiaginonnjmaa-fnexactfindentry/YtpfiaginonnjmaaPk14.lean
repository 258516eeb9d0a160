/- Texts in one: Fg2. -/
import Derived.Test.YtpfiaginonnjmaaPk13
import Derived.Test.YtpfiaginonnjmaaPk6
/- Chapter 15, the laws' helpers: the sizes of a list of entries; whether two are the same. -/
namespace Go.Proofs.Ytpfiaginonnjmaa.Fe
open Go.RowKit Go.Proofs.Ytpfiaginonnjmaa.Mem Go.Proofs.Ytpfiaginonnjmaa.Laws Go.Proofs.Ytpfiaginonnjmaa.Ver Go.Proofs.Ytpfiaginonnjmaa.Ent
set_option linter.unusedVariables false
set_option linter.unusedSimpArgs false

/-- entries and needs, how many there are -/
def tot15 : List Ev → Nat
  | [] => 0
  | x :: r => 1 + x.l.length + tot15 r
theorem tot15_app (l m : List Ev) : tot15 (l ++ m) = tot15 l + tot15 m := by
  induction l with
  | nil => simp [tot15]
  | cons x r ih => simp only [List.cons_append, tot15, ih]; omega
theorem tot15_len (l : List Ev) : l.length ≤ tot15 l := by
  induction l with
  | nil => exact Nat.zero_le _
  | cons x r ih => simp only [List.length_cons, tot15]; omega
theorem tot15_mem {l : List Ev} {x : Ev} (h : x ∈ l) : x.l.length ≤ tot15 l := by
  induction l with
  | nil => cases h
  | cons y r ih =>
    simp only [tot15]
    rcases List.mem_cons.1 h with rfl | h
    · omega
    · have := ih h; omega
theorem tot15_alk {l T : List Ev} (h : Alk l T) : tot15 T = tot15 l := by
  have e : ∀ s : List Ev, tot15 s = ((s.map key15).map fun p => 1 + p.2.length).sum := by
    intro s
    induction s with
    | nil => rfl
    | cons x r ih => rw [tot15, ih]; rfl
  rw [e, e, show T.map key15 = l.map key15 from h]
/-- an entry's texts and needs fit -/
def Fit (left : Nat) (x : Ev) : Prop := x.n.path.size ≤ left ∧ x.n.pre.size ≤ left ∧ ∀ n ∈ x.l, n.path.size ≤ left ∧ n.pre.size ≤ left
def Big (x : Ev) : Prop := x.n.path.size ≤ 9223372036854775807 ∧ x.n.pre.size ≤ 9223372036854775807 ∧ (∀ n ∈ x.l, n.path.size ≤ 9223372036854775807 ∧ n.pre.size ≤ 9223372036854775807) ∧ x.l.length ≤ 9223372036854775807

set_option maxRecDepth 1000000 in
set_option maxHeartbeats 1000000 in
/-- the sizes of needs: they fit, or the answer is below 0 -/
theorem sz_needs2 (w : World) (v : Value) (l : List Nd) (left : Nat) (h : Sd w v l) (hz : ∀ n ∈ l, n.path.size ≤ 9223372036854775807 ∧ n.pre.size ≤ 9223372036854775807) (hx : l.length ≤ 9223372036854775807) (hlf : left ≤ 1048576) :
    Calls Try.prog 26 #[v, .int .i64 (left : Int)] w fun e w' => (∃ r : Int, e = .returned (.int .i64 r) ∧ r ≤ left ∧ (r < 0 ∨ (0 ≤ r ∧ r + l.length ≤ left ∧ ∀ n ∈ l, n.path.size ≤ left ∧ n.pre.size ≤ left))) ∧ Below w.heap.size w w' := by
  have HS : Hid (Sd w v l) := h
  have HZ : Hid (∀ n ∈ l, n.path.size ≤ 9223372036854775807 ∧ n.pre.size ≤ 9223372036854775807) := hz
  obtain ⟨hcl, ao, cap, rfl, hcap, hnn, _⟩ := h
  clear hz
  by_cases hbig : (left : Int) - l.length < 0
  · go_enter Try.func26, Try.ntmps26
    go_wp2
    go_ret
    exact ⟨⟨-1, rfl, by omega, .inl (by omega)⟩, Below.refl _ _⟩
  · go_enter Try.func26, Try.ntmps26
    go_wp2
    go_loopw [1, 5] (fun lf i wr => ∃ (k r : Nat), k ≤ l.length ∧ i = .int .i64 (k : Int) ∧ lf = .int .i64 (r : Int) ∧ r + l.length ≤ left ∧ Hid (∀ n ∈ l.take k, n.path.size ≤ left ∧ n.pre.size ≤ left) ∧ Below w.heap.size w wr) (fun _ i _ => l.length - (intOf i).toNat)
    case atStart => exact ⟨0, left - l.length, Nat.zero_le _, rfl, by go_num, by omega, by intro n hn; simp at hn, Below.refl _ _⟩
    case round =>
      obtain ⟨k, r, hk, rfl, rfl, hr, HA, hB⟩ := hrel
      by_cases hlt : k < l.length
      · obtain ⟨n, hn⟩ : ∃ n, l[k]? = some n := ⟨l[k], by simp [hlt]⟩
        obtain ⟨b, off, cap', he, _, c0, c1, c2, c3, c4⟩ := Sd.at (HS.out.later hB) hn
        simp only [Value.slice.injEq] at he
        obtain ⟨rfl, _, rfl⟩ := he
        have hnz := HZ.out n (List.mem_of_getElem? hn)
        have q : ∀ W, _ := fun W => sz_need W n (r : Int) hnz.1 hnz.2 (by omega) (by omega)
        have HT : Hid (l.take (k + 1) = l.take k ++ [n]) := by show _ = _; rw [List.take_add_one, hn]; rfl
        clear hn hnz
        by_cases hc : (r : Int) - n.path.size - n.pre.size < 0
        · simp only [if_pos hc] at q
          go_wp2_with (go_at_call 52; refine (q _).mono ?_; rintro e W1 ⟨rfl, b1⟩)
          go_ret
          exact ⟨⟨-1, rfl, by omega, .inl (by omega)⟩, hB.trans (b1.mono hB.size)⟩
        · simp only [if_neg hc] at q
          obtain ⟨r2, hr2⟩ : ∃ r2 : Nat, (r : Int) - n.path.size - n.pre.size = (r2 : Int) := ⟨((r : Int) - n.path.size - n.pre.size).toNat, by omega⟩
          simp only [hr2] at q
          have hr3 : r2 + l.length ≤ left := by omega
          have HN : Hid (∀ x ∈ l.take (k + 1), x.path.size ≤ left ∧ x.pre.size ≤ left) := by
            intro x hx
            rw [HT.out] at hx
            rcases List.mem_append.1 hx with h | h
            · exact HA.out x h
            · simp at h
              subst h
              omega
          clear hc hr2
          go_wp2_with (go_at_call 52; refine (q _).mono ?_; rintro e W1 ⟨rfl, b1⟩)
          go_roundw
          case rel => exact ⟨k + 1, r2, by omega, by go_num, rfl, hr3, HN, hB.trans (b1.mono hB.size)⟩
          case measure => simp [intOf]; omega
      · have HN : Hid (∀ n ∈ l, n.path.size ≤ left ∧ n.pre.size ≤ left) := by
          have := HA.out
          rw [List.take_of_length_le (by omega)] at this
          exact this
        go_wp2
        go_ret
        exact ⟨⟨(r : Int), rfl, by omega, .inr ⟨by omega, by omega, HN.out⟩⟩, hB⟩

set_option maxRecDepth 1000000 in
set_option maxHeartbeats 1000000 in
/-- an entry's size: it fits, or the answer is below 0 -/
theorem sz_entry2 (w : World) (n : Nd) (v : Value) (l : List Nd) (left : Nat) (h : Sd w v l) (hp : n.path.size ≤ 9223372036854775807) (hq : n.pre.size ≤ 9223372036854775807) (hz : ∀ n ∈ l, n.path.size ≤ 9223372036854775807 ∧ n.pre.size ≤ 9223372036854775807) (hx : l.length ≤ 9223372036854775807) (hlf : left ≤ 1048576) :
    Calls Try.prog 48 #[.agg #[.string n.path, .int .i64 n.a, .int .i64 n.b, .int .i64 n.c, .string n.pre, v], .int .i64 (left : Int)] w fun e w' => (∃ r : Int, e = .returned (.int .i64 r) ∧ r ≤ left ∧ (r < 0 ∨ (0 ≤ r ∧ n.path.size ≤ left ∧ n.pre.size ≤ left ∧ r + l.length ≤ left ∧ ∀ n ∈ l, n.path.size ≤ left ∧ n.pre.size ≤ left))) ∧ Below w.heap.size w w' := by
  have HR : Hid ((w.alloc (.cells #[.string n.path, .int .i64 n.a, .int .i64 n.b, .int .i64 n.c, .string n.pre, v] 80)).heap[w.heap.size]? = some (.cells #[.string n.path, .int .i64 n.a, .int .i64 n.b, .int .i64 n.c, .string n.pre, v] 80 (0, 0))) := heap_alloc_new w _
  have HB : Hid (Below w.heap.size w (w.alloc (.cells #[.string n.path, .int .i64 n.a, .int .i64 n.b, .int .i64 n.c, .string n.pre, v] 80))) := (Below.refl _ _).alloc (Nat.le_refl _) _
  by_cases hb : (left : Int) - (n.path.size : Int) < 0
  · clear HR
    go_enter Try.func48, Try.ntmps48
    go_wp2
    go_ret
    exact ⟨⟨-1, rfl, by omega, .inl (by omega)⟩, HB.out⟩
  have q : ∀ W, _ := fun W => Ver.sz_any W n.a n.b n.c n.pre ((left : Int) - (n.path.size : Int)) hq (by omega) (by omega)
  unfold Ver.ver at q
  by_cases hc : (left : Int) - (n.path.size : Int) - n.pre.size < 0
  · simp only [if_pos hc] at q
    clear HR
    go_enter Try.func48, Try.ntmps48
    go_wp2_with (go_at_call 14; refine (q _).mono ?_; rintro e W1 ⟨rfl, b1⟩)
    go_ret
    exact ⟨⟨-1, rfl, by omega, .inl (by omega)⟩, HB.out.trans (b1.mono HB.out.size)⟩
  · simp only [if_neg hc] at q
    obtain ⟨r2, hr2⟩ : ∃ r2 : Nat, (left : Int) - n.path.size - n.pre.size = (r2 : Int) := ⟨((left : Int) - n.path.size - n.pre.size).toNat, by omega⟩
    simp only [hr2] at q
    have hr3 : r2 ≤ left := by omega
    have h1 : n.path.size ≤ left := by omega
    have h2 : n.pre.size ≤ left := by omega
    have q3 : ∀ W, Below w.heap.size w W → _ := fun W hW => sz_needs2 W v l r2 (h.later hW) hz hx (by omega)
    clear hc hr2 h
    go_enter Try.func48, Try.ntmps48
    go_wp2_with fail
    refine (q _).mono ?_
    rintro e W1 ⟨rfl, b1⟩
    have hB1 : Below w.heap.size w W1 := HB.out.trans (b1.mono HB.out.size)
    have k5 : W1.cell? ⟨w.heap.size, 5, none⟩ = some v := row_cells (rowKeep HR.out b1) 5
    clear q HR HB b1
    go_wp2_with fail
    refine (q3 _ hB1).mono ?_
    rintro e W2 ⟨⟨r, rfl, hr, hrr⟩, b2⟩
    have hB2 : Below w.heap.size w W2 := hB1.trans (b2.mono hB1.size)
    clear q3 b2 hB1 k5
    rcases hrr with hr0 | ⟨hr0, hl, hall⟩
    · go_wp2
      go_ret
      exact ⟨⟨-1, rfl, by omega, .inl (by omega)⟩, hB2⟩
    · have hr1 : ¬ r < 0 := by omega
      have HA : Hid (∀ n ∈ l, n.path.size ≤ r2 ∧ n.pre.size ≤ r2) := hall
      clear hall
      go_wp2
      go_ret
      exact ⟨⟨r, rfl, by omega, .inr ⟨hr0, h1, h2, by omega, fun x hx => by have := HA.out x hx; omega⟩⟩, hB2⟩

set_option maxRecDepth 1000000 in
set_option maxHeartbeats 2000000 in
/-- the sizes of entries: they fit, or the answer is below 0 -/
theorem sz_entries (w : World) (v : Value) (l : List Ev) (left : Nat) (h : Se w v l) (hz : ∀ x ∈ l, Big x) (hx : l.length ≤ 9223372036854775807) (hlf : left ≤ 1048576) :
    Calls Try.prog 13 #[v, .int .i64 (left : Int)] w fun e w' => (∃ r : Int, e = .returned (.int .i64 r) ∧ r ≤ left ∧ (r < 0 ∨ (0 ≤ r ∧ r + (tot15 l : Int) ≤ left ∧ ∀ x ∈ l, Fit left x))) ∧ Below w.heap.size w w' := by
  have HS : Hid (Se w v l) := h
  have HZ : Hid (∀ x ∈ l, Big x) := hz
  obtain ⟨ao, cap, rfl, hcap⟩ := h.form
  clear hz h
  by_cases hbig : (left : Int) - l.length < 0
  · go_enter Try.func13, Try.ntmps13
    go_wp2
    go_ret
    exact ⟨⟨-1, rfl, by omega, .inl (by omega)⟩, Below.refl _ _⟩
  · go_enter Try.func13, Try.ntmps13
    go_wp2
    go_loopw [1, 5] (fun lf i wr => ∃ (k r : Nat), k ≤ l.length ∧ i = .int .i64 (k : Int) ∧ lf = .int .i64 (r : Int) ∧ r ≤ left ∧ Hid (r + tot15 (l.take k) + l.length ≤ left + k) ∧ Hid (∀ x ∈ l.take k, Fit left x) ∧ Below w.heap.size w wr) (fun _ i _ => l.length - (intOf i).toNat)
    case atStart => exact ⟨0, left - l.length, Nat.zero_le _, rfl, by go_num, by omega, by show _ ≤ _; simp [tot15]; omega, by intro n hn; simp at hn, Below.refl _ _⟩
    case round =>
      obtain ⟨k, r, hk, rfl, rfl, hr, HR, HA, hB⟩ := hrel
      by_cases hlt : k < l.length
      · obtain ⟨x, hx9⟩ : ∃ x, l[k]? = some x := ⟨l[k], by simp [hlt]⟩
        obtain ⟨b, off, cap', he, _, c0, c1, c2, c3, c4, c5, hsd⟩ := Se.at (HS.out.later hB) hx9
        simp only [Value.slice.injEq] at he
        obtain ⟨rfl, _, rfl⟩ := he
        obtain ⟨z1, z2, z3, z4⟩ := HZ.out x (List.mem_of_getElem? hx9)
        have q := sz_entry2 wr x.n x.u x.l r hsd z1 z2 z3 z4 (by omega)
        obtain ⟨ao9, L9, cap9, hu, hL9a, hL9b⟩ : ∃ ao9 L9 cap9, x.u = .slice ao9 L9 cap9 ∧ L9 ≤ x.l.length ∧ x.l.length ≤ L9 := by
          obtain ⟨_, ao9, cap9, hu, _⟩ := hsd
          exact ⟨ao9, _, cap9, hu, Nat.le_refl _, Nat.le_refl _⟩
        rw [hu] at q c5
        have HT : Hid (l.take (k + 1) = l.take k ++ [x]) := by show _ = _; rw [List.take_add_one, hx9]; rfl
        clear hx9 z1 z2 z3 z4 hsd hu
        go_wp2_with fail
        refine q.mono ?_
        rintro e W1 ⟨⟨r1, rfl, hr1, hor⟩, b1⟩
        have hB1 := hB.trans (b1.mono hB.size)
        clear q b1 c0 c1 c2 c3 c4 c5
        rcases hor with hr0 | ⟨hr0, g1, g2, g3, g4⟩
        · go_wp2
          go_ret
          exact ⟨⟨-1, rfl, by omega, .inl (by omega)⟩, hB1⟩
        · have hr2 : ¬ r1 < 0 := by omega
          obtain ⟨r2, rfl⟩ : ∃ r2 : Nat, r1 = (r2 : Int) := ⟨r1.toNat, by omega⟩
          have HR2 : Hid (r2 + tot15 (l.take (k + 1)) + l.length ≤ left + (k + 1)) := by
            show _ ≤ _
            have := HR.out
            rw [HT.out, tot15_app]
            simp only [tot15]
            omega
          have HA2 : Hid (∀ x ∈ l.take (k + 1), Fit left x) := by
            intro y hy
            rw [HT.out] at hy
            rcases List.mem_append.1 hy with h9 | h9
            · exact HA.out y h9
            · rw [List.mem_singleton.1 h9]
              exact ⟨by omega, by omega, fun n hn => by have := g4 n hn; omega⟩
          have hr3 : r2 ≤ left := by omega
          clear g1 g2 g3 g4 HA HR hr1 hr0
          go_wp2
          go_roundw
          case rel => exact ⟨k + 1, r2, by omega, by go_num, rfl, hr3, HR2, HA2, hB1⟩
          case measure => simp [intOf]; omega
      · have hkl : k = l.length := by omega
        subst hkl
        have h1 := HR.out
        have h2 := HA.out
        rw [List.take_of_length_le (by omega)] at h1 h2
        have HH : Hid (∀ x ∈ l, Fit left x) := h2
        clear h2 HA HR
        go_wp2
        go_ret
        exact ⟨⟨(r : Int), rfl, by omega, .inr ⟨by omega, by omega, HH.out⟩⟩, hB⟩

set_option maxRecDepth 1000000 in
set_option maxHeartbeats 2000000 in
theorem eq_entries (w : World) (v1 v2 : Value) (l T : List Ev) (h1 : Se w v1 l) (h2 : Se w v2 T) (ha : Alk l T) (hx : l.length ≤ 1000000000000) (hn : ∀ x ∈ l, x.l.length ≤ 1000000000000) :
    Calls Try.prog 18 #[v1, v2] w fun e w' => e = .returned (.bool true) ∧ Below w.heap.size w w' := by
  have HS1 : Hid (Se w v1 l) := h1
  have HS2 : Hid (Se w v2 T) := h2
  have HA : Hid (Alk l T) := ha
  have HN : Hid (∀ x ∈ l, x.l.length ≤ 1000000000000) := hn
  obtain ⟨ao, cap, rfl, hcap⟩ := h1.form
  obtain ⟨ao2, cap2, rfl, hcap2⟩ := h2.form
  have hTl : T.length = l.length := ha.len
  rw [hTl] at hcap2
  have HT : Hid (T.length = l.length) := hTl
  simp only [hTl]
  clear h1 h2 ha hn hTl
  have n1 : ((l.length : Int) != (l.length : Int)) = false := by simp
  go_enter Try.func18, Try.ntmps18
  go_wp2
  go_loopw [5] (fun i wr => ∃ k : Nat, k ≤ l.length ∧ i = .int .i64 (k : Int) ∧ Below w.heap.size w wr) (fun i _ => l.length - (intOf i).toNat)
  case atStart => exact ⟨0, Nat.zero_le _, rfl, Below.refl _ _⟩
  case round =>
    obtain ⟨k, hk, rfl, hB⟩ := hrel
    by_cases hlt : k < l.length
    · obtain ⟨x, hx9⟩ : ∃ x, l[k]? = some x := ⟨l[k], by simp [hlt]⟩
      obtain ⟨y, hy9⟩ : ∃ y, T[k]? = some y := ⟨T[k]'(by have := HT.out; omega), List.getElem?_eq_getElem (by have := HT.out; omega)⟩
      obtain ⟨b, off, cap', he, _, c0, c1, c2, c3, c4, c5, hd1⟩ := Se.at (HS1.out.later hB) hx9
      simp only [Value.slice.injEq] at he
      obtain ⟨rfl, _, rfl⟩ := he
      obtain ⟨b2, off2, cap2', he2, _, e0, e1, e2, e3, e4, e5, hd2⟩ := Se.at (HS2.out.later hB) hy9
      simp only [Value.slice.injEq] at he2
      obtain ⟨rfl, _, rfl⟩ := he2
      obtain ⟨g1, g2⟩ := HA.out.get hx9 hy9
      rw [g1] at e0 e1 e2 e3 e4
      rw [g2] at hd2
      have q : ∀ W, Below wr.heap.size wr W → _ := fun W hW => eq_entry W x.n x.u y.u x.l (hd1.later hW) (hd2.later hW) (HN.out x (List.mem_of_getElem? hx9))
      clear hx9 hy9 n1 g1 g2 hd1 hd2
      go_wp2_with fail
      refine wp_region_held_drew (S := fun w' => w'.cell? ⟨b, off + k * 6, none⟩ = some (.string x.n.path) ∧ w'.cell? ⟨b, off + k * 6 + 1, none⟩ = some (.int .i64 x.n.a) ∧ w'.cell? ⟨b, off + k * 6 + 2, none⟩ = some (.int .i64 x.n.b) ∧ w'.cell? ⟨b, off + k * 6 + 3, none⟩ = some (.int .i64 x.n.c) ∧ w'.cell? ⟨b, off + k * 6 + 4, none⟩ = some (.string x.n.pre) ∧ w'.cell? ⟨b, off + k * 6 + 5, none⟩ = some x.u ∧ w'.cell? ⟨b2, off2 + k * 6, none⟩ = some (.string x.n.path) ∧ w'.cell? ⟨b2, off2 + k * 6 + 1, none⟩ = some (.int .i64 x.n.a) ∧ w'.cell? ⟨b2, off2 + k * 6 + 2, none⟩ = some (.int .i64 x.n.b) ∧ w'.cell? ⟨b2, off2 + k * 6 + 3, none⟩ = some (.int .i64 x.n.c) ∧ w'.cell? ⟨b2, off2 + k * 6 + 4, none⟩ = some (.string x.n.pre) ∧ w'.cell? ⟨b2, off2 + k * 6 + 5, none⟩ = some y.u) (by kernel_rfl) ⟨c0, c1, c2, c3, c4, c5, e0, e1, e2, e3, e4, e5⟩ (fun hHeld => ?_)
      refine Ke.y 0 rfl (fun _ _ _ h => h) ?_
      try simp only [Act.put, pu1, pu2, pu3, pu4, pu5, pu6]
      refine Ke.y 1 rfl (fun _ _ _ h => h) ?_
      try simp only [Act.put, pu1, pu2, pu3, pu4, pu5, pu6]
      refine Ke.y 2 rfl (fun _ _ _ h => h) ?_
      try simp only [Act.put, pu1, pu2, pu3, pu4, pu5, pu6]
      refine Ke.y 3 rfl (fun _ _ _ h => h) ?_
      try simp only [Act.put, pu1, pu2, pu3, pu4, pu5, pu6]
      refine Ke.y 4 rfl (fun _ _ _ h => h) ?_
      try simp only [Act.put, pu1, pu2, pu3, pu4, pu5, pu6]
      refine Ke.y 5 rfl (fun _ _ _ h => h) ?_
      try simp only [Act.put, pu1, pu2, pu3, pu4, pu5, pu6]
      refine Ke.y 6 rfl (fun _ _ _ h => h) ?_
      try simp only [Act.put, pu1, pu2, pu3, pu4, pu5, pu6]
      refine Ke.y 7 rfl (fun _ _ _ h => h) ?_
      try simp only [Act.put, pu1, pu2, pu3, pu4, pu5, pu6]
      refine Ke.z 8 rfl (fun K hK => ?_)
      go_simp
      refine (q _ (Below.drew (Below.refl _ _))).mono ?_
      rintro e w4 ⟨rfl, b4⟩
      refine hK.out _ _ ?_ (fun hHeld => ?_)
      · obtain ⟨s0, s1, s2, s3, s4, s5, s6, s7, s8, s9, s10, s11⟩ := hHeld; exact ⟨Ver.keepCell s0 b4, Ver.keepCell s1 b4, Ver.keepCell s2 b4, Ver.keepCell s3 b4, Ver.keepCell s4 b4, Ver.keepCell s5 b4, Ver.keepCell s6 b4, Ver.keepCell s7 b4, Ver.keepCell s8 b4, Ver.keepCell s9 b4, Ver.keepCell s10 b4, Ver.keepCell s11 b4⟩
      clear hK K
      try simp only [Act.put, pu1, pu2, pu3, pu4, pu5, pu6]
      refine Ke.y 9 rfl (fun _ _ _ h => h) ?_
      try simp only [Act.put, pu1, pu2, pu3, pu4, pu5, pu6]
      refine wpAnyH_done (by kernel_rfl) ?_ _
      clear hHeld q c0 c1 c2 c3 c4 c5 e0 e1 e2 e3 e4 e5
      have hB4 : Below w.heap.size w w4 := (Below.drew hB).trans (b4.mono (Below.drew hB).size)
      clear b4
      go_wp2
      go_roundw
      case rel => exact ⟨k + 1, by omega, by go_num, hB4⟩
      case measure => simp [intOf]; omega
    · go_wp2
      go_ret
      exact ⟨rfl, hB⟩

end Go.Proofs.Ytpfiaginonnjmaa.Fe
