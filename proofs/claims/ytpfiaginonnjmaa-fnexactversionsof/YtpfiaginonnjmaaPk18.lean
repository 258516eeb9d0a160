/- Texts in one: Open5, Fg5, EntW. -/
import Derived.Test.YtpfiaginonnjmaaPk17
import Derived.Test.YtpfiaginonnjmaaPk10
import Derived.Test.YtpfiaginonnjmaaProg
import Derived.Test.YtpfiaginonnjmaaPk16
import Derived.Test.YtpfiaginonnjmaaPk12
import Derived.ChangeSame
/- What came in, read as versions, needs and entries. -/
namespace Go.Proofs.Ytpfiaginonnjmaa.Open
open Go.RowKit Go.ChangeShapes Go.WideShapes Go.ChangeAt Go.Deep Go.Joins Go.Proofs.Ytpfiaginonnjmaa.Mem Go.Proofs.Ytpfiaginonnjmaa.Ent
set_option linter.unusedVariables false
set_option linter.unusedSimpArgs false

/-- a need whose numbers and texts are such as Go can hold -/
def Okn (n : Nd) : Prop := ((Lit.int .i64 n.a).wf = true ∧ (Lit.int .i64 n.b).wf = true ∧ (Lit.int .i64 n.c).wf = true) ∧ n.path.size ≤ maxLen ∧ n.pre.size ≤ maxLen

section
variable {H : Type} {enc : TypeId × Value → H} {w : World} {base : Nat} {spare : Nat → Bool} {held : Bool}

set_option maxRecDepth 1000000 in
theorem cells_ver : Try.prog.cellsOf 40 = 4 := by kernel_rfl

set_option maxRecDepth 1000000 in
theorem read_ver {fuel : Nat} {cs : List Value} {y : DataW H × List MemPlace} (h : DataW.trod enc Try.prog w base spare held fuel 40 cs = some y) :
    ∃ (a b c : Int) (p : ByteArray), cs = [.int .i64 a, .int .i64 b, .int .i64 c, .string p] ∧ (Lit.int .i64 a).wf = true ∧ (Lit.int .i64 b).wf = true ∧ (Lit.int .i64 c).wf = true ∧ p.size ≤ maxLen := by
  obtain ⟨y0, y1, y2, y3, n, _, hl, h0, h1, h2, h3⟩ := trod_struct4 Try.underlying40 h
  rw [cells_ver] at hl
  match cs, hl with
  | [c0, c1, c2, c3], _ =>
    have k3 : Try.prog.cellsOf 3 = 1 := by kernel_rfl
    have k9 : Try.prog.cellsOf 9 = 1 := by kernel_rfl
    simp only [k3, k9, List.drop_zero, List.drop_succ_cons, List.take_succ_cons, List.take_zero] at h0 h1 h2 h3
    obtain ⟨a, e0, _, wa⟩ := DataW.trod_int Try.underlying3 h0
    obtain ⟨b, e1, _, wb⟩ := DataW.trod_int Try.underlying3 h1
    obtain ⟨c, e2, _, wc⟩ := DataW.trod_int Try.underlying3 h2
    obtain ⟨p, e3, _, wp⟩ := DataW.trod_string Try.underlying9 h3
    simp only [List.cons.injEq, and_true] at e0 e1 e2 e3
    subst e0 e1 e2 e3
    exact ⟨a, b, c, p, rfl, wa, wb, wc, wp⟩

set_option maxRecDepth 1000000 in
theorem cells_need : Try.prog.cellsOf 86 = 5 := by kernel_rfl

set_option maxRecDepth 1000000 in
theorem read_need {fuel : Nat} {cs : List Value} {y : DataW H × List MemPlace} (h : DataW.trod enc Try.prog w base spare held fuel 86 cs = some y) :
    ∃ n : Nd, cs = n.cs ∧ Okn n := by
  obtain ⟨y0, y1, n, _, hl, h0, h1⟩ := trod_struct2 Try.underlying86 h
  rw [cells_need] at hl
  match cs, hl with
  | [c0, c1, c2, c3, c4], _ =>
    have k9 : Try.prog.cellsOf 9 = 1 := by kernel_rfl
    simp only [k9, cells_ver, List.drop_zero, List.drop_succ_cons, List.take_succ_cons, List.take_zero] at h0 h1
    obtain ⟨p, e0, _, wp⟩ := DataW.trod_string Try.underlying9 h0
    obtain ⟨a, b, c, q, e1, wa, wb, wc, wq⟩ := read_ver h1
    simp only [List.cons.injEq, and_true] at e0 e1
    obtain ⟨rfl, rfl, rfl, rfl⟩ := e1
    subst e0
    exact ⟨⟨p, a, b, c, q⟩, rfl, ⟨wa, wb, wc⟩, wp, wq⟩

theorem flat_nds : ∀ l : List Nd, (l.map Nd.cs).flatten = nds l := by
  intro l
  induction l with
  | nil => rfl
  | cons n r ih => rw [List.map_cons, List.flatten_cons, ih]; rfl
theorem rows_nds : ∀ R : List (List Value), (∀ r ∈ R, ∃ n : Nd, r = n.cs ∧ Okn n) → ∃ l : List Nd, R = l.map Nd.cs ∧ ∀ n ∈ l, Okn n := by
  intro R
  induction R with
  | nil => intro _; exact ⟨[], rfl, fun n hn => (by cases hn)⟩
  | cons r R ih =>
    intro h
    obtain ⟨n, rfl, hn⟩ := h r (by simp)
    obtain ⟨l, rfl, hl⟩ := ih (fun x hx => h x (by simp [hx]))
    exact ⟨n :: l, rfl, fun x hx => by rcases List.mem_cons.1 hx with rfl | hx; exact hn; exact hl x hx⟩

set_option maxRecDepth 1000000 in
theorem read_needs {fuel : Nat} {cs : List Value} {y : DataW H × List MemPlace} (h : DataW.trod enc Try.prog w base spare held fuel 53 cs = some y) :
    ∃ (ao : Option Addr) (m cap : Nat) (l : List Nd), cs = [.slice ao m cap] ∧ l.length = m ∧ l.length ≤ maxLen ∧ (∀ n ∈ l, Okn n) ∧ Sd w (.slice ao m cap) l := by
  obtain ⟨ao, m, cap, R, rfl, hm, hR, hr, hs⟩ := rows Try.underlying53 cells_need (by omega) h
  obtain ⟨l, rfl, hl⟩ := rows_nds R (fun r hr' => by
    obtain ⟨_, k, y, hy⟩ := hr r hr'
    exact read_need hy)
  rw [flat_nds] at hs
  rw [List.length_map] at hR
  subst hR
  exact ⟨ao, l.length, cap, l, rfl, rfl, hm, hl, hs⟩

set_option maxRecDepth 1000000 in
theorem cells_entry : Try.prog.cellsOf 80 = 6 := by kernel_rfl

set_option maxRecDepth 1000000 in
theorem read_entry {fuel : Nat} {cs : List Value} {y : DataW H × List MemPlace} (h : DataW.trod enc Try.prog w base spare held fuel 80 cs = some y) :
    ∃ (n : Nd) (ao : Option Addr) (m cap : Nat) (l : List Nd), cs = [.string n.path, .int .i64 n.a, .int .i64 n.b, .int .i64 n.c, .string n.pre, .slice ao m cap] ∧ Okn n ∧ l.length = m ∧ l.length ≤ maxLen ∧ (∀ n ∈ l, Okn n) ∧ Sd w (.slice ao m cap) l := by
  obtain ⟨y0, y1, y2, n, _, hl, h0, h1, h2⟩ := trod_struct3 Try.underlying80 h
  rw [cells_entry] at hl
  match cs, hl with
  | [c0, c1, c2, c3, c4, c5], _ =>
    have k9 : Try.prog.cellsOf 9 = 1 := by kernel_rfl
    have ks : Try.prog.cellsOf 53 = 1 := by kernel_rfl
    simp only [k9, ks, cells_ver, List.drop_zero, List.drop_succ_cons, List.take_succ_cons, List.take_zero] at h0 h1 h2
    obtain ⟨p, e0, _, wp⟩ := DataW.trod_string Try.underlying9 h0
    obtain ⟨a, b, c, q, e1, wa, wb, wc, wq⟩ := read_ver h1
    obtain ⟨ao, m, cap, l, e2, hm, hm2, hl2, hs⟩ := read_needs h2
    simp only [List.cons.injEq, and_true] at e0 e1 e2
    obtain ⟨rfl, rfl, rfl, rfl⟩ := e1
    subst e0 e2
    exact ⟨⟨p, a, b, c, q⟩, ao, m, cap, l, rfl, ⟨⟨wa, wb, wc⟩, wp, wq⟩, hm, hm2, hl2, hs⟩

end

end Go.Proofs.Ytpfiaginonnjmaa.Open

/- Chapter 15: the exact laws of VersionsOf and Lacking, over contracts of the landed functions. -/
namespace Go.Proofs.Ytpfiaginonnjmaa.Fe
open Go.RowKit Go.Proofs.Ytpfiaginonnjmaa.Mem Go.Proofs.Ytpfiaginonnjmaa.Laws Go.Proofs.Ytpfiaginonnjmaa.Ver Go.Proofs.Ytpfiaginonnjmaa.Ent Go.Proofs.Ytpfiaginonnjmaa.Strs
set_option linter.unusedVariables false
set_option linter.unusedSimpArgs false

theorem Od.later {w w' : World} {lo hi B : Nat} {v : Value} {l : List Nd} (h : Od w lo hi v l) (b : Below B w w') (hB : hi ≤ B) : Od w' lo hi v l := On.later h b hB
theorem Od.apart {w w' : World} {lo hi l2 h2 : Nat} {v : Value} {l : List Nd} (h : Od w lo hi v l) (a : Apart l2 h2 w w') (hd : hi ≤ l2 ∨ h2 ≤ lo) (hs : hi ≤ w.heap.size) : Od w' lo hi v l := On.apart h a hd hs
theorem Ow.later {w w' : World} {lo hi B : Nat} {v : Value} {l : List Nd} (h : Ow w lo hi v l) (b : Below B w w') (hB : hi ≤ B) : Ow w' lo hi v l := On.later h b hB
theorem Ow.apart {w w' : World} {lo hi l2 h2 : Nat} {v : Value} {l : List Nd} (h : Ow w lo hi v l) (a : Apart l2 h2 w w') (hd : hi ≤ l2 ∨ h2 ≤ lo) (hs : hi ≤ w.heap.size) : Ow w' lo hi v l := On.apart h a hd hs
theorem vers_len (p : ByteArray) (l : List Nd) : (vers15 p l).length ≤ l.length := List.length_filter_le _ _
theorem lack_len (l s : List Nd) : (lack15 l s).length ≤ s.length := List.length_filter_le _ _
/-- an entry that the laws let in -/
def Fit2 (x : Ev) : Prop := Fit 1048576 x ∧ x.l.length ≤ 1048576
theorem Fit2.alk {l T : List Ev} (h : ∀ x ∈ l, Fit2 x) (a : Alk l T) : ∀ y ∈ T, Fit2 y :=
  Alk.all (p := fun n s => (n.path.size ≤ 1048576 ∧ n.pre.size ≤ 1048576 ∧ ∀ m ∈ s, m.path.size ≤ 1048576 ∧ m.pre.size ≤ 1048576) ∧ s.length ≤ 1048576) a h
/-- an entry whose numbers and texts are such as Go can hold -/
def Oke (x : Ev) : Prop := Open.Okn x.n ∧ x.l.length ≤ maxLen ∧ ∀ n ∈ x.l, Open.Okn n
theorem Oke.big {x : Ev} (h : Oke x) : Big x := by
  obtain ⟨h1, h2, h3⟩ := h
  refine ⟨h1.2.1, h1.2.2, fun n hn => ⟨(h3 n hn).2.1, (h3 n hn).2.2⟩, h2⟩

set_option maxRecDepth 1000000 in
set_option maxHeartbeats 4000000 in
theorem exact_versions (w : World) (v : Value) (l : List Ev) (p : ByteArray) (h : Se w v l) (y : ∀ x ∈ l, Oke x) (hm : l.length ≤ maxLen) (hp : p.size ≤ maxLen)
    (iV : ∀ W v' T, Below w.heap.size w W → Se W v' T → T.length ≤ 1048576 → (∀ x ∈ T, Fit2 x) → p.size ≤ 1048576 → Calls Try.prog 11 #[v', .string p] W fun e w' => ∃ v', e = .returned v' ∧ Ow w' W.heap.size w'.heap.size v' (vers15 p (T.map Ev.n)) ∧ Below W.heap.size W w') :
    Calls Try.prog 5 #[v, .string p] w fun e w' => e = .returned (.bool true) ∧ Below w.heap.size w w' := by
  unfold maxLen at hm hp
  by_cases hbig : 1048576 < p.size
  · have hb : (1048576 : Int) < (p.size : Int) := by omega
    clear hbig iV
    go_enter Try.func5, Try.ntmps5
    go_wp2
    go_ret
    exact ⟨rfl, Below.refl _ _⟩
  have hb : ¬ (1048576 : Int) < (p.size : Int) := by omega
  have HS : Hid (Se w v l) := h
  have q0 := sz_entries w v l 1048576 h (fun x hx => (y x hx).big) (by omega) (by omega)
  clear h hbig y
  go_enter Try.func5, Try.ntmps5
  go_wp2_with fail
  refine (q0).mono ?_
  rintro e W1 ⟨⟨r, rfl, hr, hor⟩, b1⟩
  have z1 := b1.size
  have B1 : Hid (Below w.heap.size w W1) := b1
  clear b1 
  rcases hor with hr0 | ⟨hr0, ht, hf⟩
  · go_wp2
    go_ret
    exact ⟨rfl, B1.out⟩
  have hr1 : ¬ r < 0 := by omega
  have htl := tot15_len l
  have hl : l.length ≤ 1048576 := by omega
  have HN : Hid (∀ x ∈ l, x.l.length ≤ 1048576) := fun x hx => by have := tot15_mem hx; omega
  have HF : Hid (∀ x ∈ l, Fit2 x) := fun x hx => ⟨hf x hx, HN.out x hx⟩
  have htt : tot15 l ≤ 1048576 := by omega
  clear hf q0
  go_wp2_with fail
  refine (to_entries W1 v l (Se.later HS.out B1.out) (by omega) (fun x hx => by have := HN.out x hx; omega)).mono ?_
  rintro e W2 ⟨x1, Tx1, rfl, ox1, ax1, b2⟩
  have z2 := b2.size
  have B2 : Hid (Below w.heap.size w W2) := B1.out.trans (b2.mono B1.out.size)
  clear b2 B1
  have Ex1_2 : Hid (Oes W2 W1.heap.size W2.heap.size x1 Tx1) := ox1
  have Ax1 : Hid (Alk l Tx1) := ax1
  have Lx1 : Tx1.length = l.length := ax1.len
  have Gx1 : tot15 Tx1 = tot15 l := tot15_alk ax1
  clear ox1 ax1
  go_wp2_with fail
  refine (versions_spec W2 x1 Tx1 p Ex1_2.out.se (by omega)).mono ?_
  rintro e W3 ⟨g1, rfl, og1, b3⟩
  have z3 := b3.size
  have B3 : Hid (Below w.heap.size w W3) := B2.out.trans (b3.mono B2.out.size)
  have Ex1_3 : Hid (Oes W3 W1.heap.size W2.heap.size x1 Tx1) := Oes.later Ex1_2.out b3 (by omega)
  clear b3 Ex1_2 B2
  have Vg1_3 : Hid (Ow W3 W2.heap.size W3.heap.size g1 (vers15 p (l.map Ev.n))) := (by have h9 := og1; rw [Ax1.out.names] at h9; exact h9)
  clear og1
  clear Ex1_3
  go_wp2_with fail
  refine (to_entries W3 v l (Se.later HS.out B3.out) (by omega) (fun x hx => by have := HN.out x hx; omega)).mono ?_
  rintro e W4 ⟨x2, Tx2, rfl, ox2, ax2, b4⟩
  have z4 := b4.size
  have B4 : Hid (Below w.heap.size w W4) := B3.out.trans (b4.mono B3.out.size)
  have Vg1_4 : Hid (Ow W4 W2.heap.size W3.heap.size g1 (vers15 p (l.map Ev.n))) := Ow.later Vg1_3.out b4 (by omega)
  clear b4 Vg1_3 B3
  have Ex2_4 : Hid (Oes W4 W3.heap.size W4.heap.size x2 Tx2) := ox2
  have Ax2 : Hid (Alk l Tx2) := ax2
  have Lx2 : Tx2.length = l.length := ax2.len
  have Gx2 : tot15 Tx2 = tot15 l := tot15_alk ax2
  clear ox2 ax2
  go_wp2_with fail
  refine (iV W4 x2 Tx2 B4.out Ex2_4.out.se (by omega) (Fit2.alk HF.out Ax2.out) (by omega)).mono ?_
  rintro e W5 ⟨g2, rfl, og2, b5⟩
  have z5 := b5.size
  have B5 : Hid (Below w.heap.size w W5) := B4.out.trans (b5.mono B4.out.size)
  have Vg1_5 : Hid (Ow W5 W2.heap.size W3.heap.size g1 (vers15 p (l.map Ev.n))) := Ow.later Vg1_4.out b5 (by omega)
  have Ex2_5 : Hid (Oes W5 W3.heap.size W4.heap.size x2 Tx2) := Oes.later Ex2_4.out b5 (by omega)
  clear b5 Vg1_4 Ex2_4 B4
  have Vg2_5 : Hid (Ow W5 W4.heap.size W5.heap.size g2 (vers15 p (l.map Ev.n))) := (by have h9 := og2; rw [Ax2.out.names] at h9; exact h9)
  clear og2
  have hv1 := vers_len p (l.map Ev.n)
  rw [List.length_map] at hv1
  go_wp2_with fail
  refine (eq_versions W5 g2 g1 _ Vg2_5.out.sw Vg1_5.out.sw (by omega)).mono ?_
  rintro e W6 ⟨rfl, b6⟩
  have z6 := b6.size
  have B6 : Hid (Below w.heap.size w W6) := B5.out.trans (b6.mono B5.out.size)
  have Vg1_6 : Hid (Ow W6 W2.heap.size W3.heap.size g1 (vers15 p (l.map Ev.n))) := Ow.later Vg1_5.out b6 (by omega)
  have Ex2_6 : Hid (Oes W6 W3.heap.size W4.heap.size x2 Tx2) := Oes.later Ex2_5.out b6 (by omega)
  have Vg2_6 : Hid (Ow W6 W4.heap.size W5.heap.size g2 (vers15 p (l.map Ev.n))) := Ow.later Vg2_5.out b6 (by omega)
  clear b6 Vg1_5 Ex2_5 Vg2_5 B5
  go_wp2_with fail
  refine (to_entries W6 v l (Se.later HS.out B6.out) (by omega) (fun x hx => by have := HN.out x hx; omega)).mono ?_
  rintro e W7 ⟨x3, Tx3, rfl, ox3, ax3, b7⟩
  have z7 := b7.size
  have B7 : Hid (Below w.heap.size w W7) := B6.out.trans (b7.mono B6.out.size)
  have Vg1_7 : Hid (Ow W7 W2.heap.size W3.heap.size g1 (vers15 p (l.map Ev.n))) := Ow.later Vg1_6.out b7 (by omega)
  have Ex2_7 : Hid (Oes W7 W3.heap.size W4.heap.size x2 Tx2) := Oes.later Ex2_6.out b7 (by omega)
  have Vg2_7 : Hid (Ow W7 W4.heap.size W5.heap.size g2 (vers15 p (l.map Ev.n))) := Ow.later Vg2_6.out b7 (by omega)
  clear b7 Vg1_6 Ex2_6 Vg2_6 B6
  have Ex3_7 : Hid (Oes W7 W6.heap.size W7.heap.size x3 Tx3) := ox3
  have Ax3 : Hid (Alk l Tx3) := ax3
  have Lx3 : Tx3.length = l.length := ax3.len
  have Gx3 : tot15 Tx3 = tot15 l := tot15_alk ax3
  clear ox3 ax3
  go_wp2_with fail
  refine (eq_entries W7 x2 x3 Tx2 Tx3 Ex2_7.out.se Ex3_7.out.se (Alk.trans Ax2.out.symm Ax3.out) (by omega) (Alk.all (p := fun _ s => s.length ≤ 1000000000000) Ax2.out (fun x hx => by have := HN.out x hx; omega))).mono ?_
  rintro e W8 ⟨rfl, b8⟩
  have z8 := b8.size
  have B8 : Hid (Below w.heap.size w W8) := B7.out.trans (b8.mono B7.out.size)
  have Vg1_8 : Hid (Ow W8 W2.heap.size W3.heap.size g1 (vers15 p (l.map Ev.n))) := Ow.later Vg1_7.out b8 (by omega)
  have Ex2_8 : Hid (Oes W8 W3.heap.size W4.heap.size x2 Tx2) := Oes.later Ex2_7.out b8 (by omega)
  have Vg2_8 : Hid (Ow W8 W4.heap.size W5.heap.size g2 (vers15 p (l.map Ev.n))) := Ow.later Vg2_7.out b8 (by omega)
  have Ex3_8 : Hid (Oes W8 W6.heap.size W7.heap.size x3 Tx3) := Oes.later Ex3_7.out b8 (by omega)
  clear b8 Vg1_7 Ex2_7 Vg2_7 Ex3_7 B7
  clear Ex3_8
  go_wp2_with fail
  refine (mark_entries W8 x2 _ _ Tx2 1 Ex2_8.out (by omega) (by omega) (by omega) (by omega)).mono ?_
  rintro e W9 ⟨rfl, b9⟩
  have z9 := b9.size
  have B9 : Hid (Below w.heap.size w W9) := B8.out.trans (b9.below (by omega) (B8.out.size))
  have Vg1_9 : Hid (Ow W9 W2.heap.size W3.heap.size g1 (vers15 p (l.map Ev.n))) := Ow.apart Vg1_8.out b9 (by omega) (by omega)
  have Vg2_9 : Hid (Ow W9 W4.heap.size W5.heap.size g2 (vers15 p (l.map Ev.n))) := Ow.apart Vg2_8.out b9 (by omega) (by omega)
  clear b9 Vg1_8 Ex2_8 Vg2_8 B8
  obtain ⟨M, hM, hM0⟩ : ∃ M : Int, ((1 + 5 * tot15 Tx2 : Nat) : Int) = M ∧ ¬ M < 0 := ⟨_, rfl, by omega⟩
  rw [hM]
  clear hM
  go_wp2_with fail
  refine (eq_versions W9 g2 g1 _ Vg2_9.out.sw Vg1_9.out.sw (by omega)).mono ?_
  rintro e W10 ⟨rfl, b10⟩
  have z10 := b10.size
  have B10 : Hid (Below w.heap.size w W10) := B9.out.trans (b10.mono B9.out.size)
  have Vg1_10 : Hid (Ow W10 W2.heap.size W3.heap.size g1 (vers15 p (l.map Ev.n))) := Ow.later Vg1_9.out b10 (by omega)
  have Vg2_10 : Hid (Ow W10 W4.heap.size W5.heap.size g2 (vers15 p (l.map Ev.n))) := Ow.later Vg2_9.out b10 (by omega)
  clear b10 Vg1_9 Vg2_9 B9
  obtain ⟨C, hC⟩ : ∃ C, (vers15 p (l.map Ev.n)).length = C := ⟨_, rfl⟩
  obtain ⟨N, hN, hN0⟩ : ∃ N : Int, ((1 + 4 * C : Nat) : Int) = N ∧ ¬ N < 0 := ⟨_, rfl, by omega⟩
  have n1 : (N != N) = false := by simp
  have q8 := mark_versions W10 g2 _ _ _ 1 Vg2_10.out (by omega) (by omega) (by omega) (by omega)
  rw [hC, hN] at q8
  have HN2 : Hid (((1 + 4 * C : Nat) : Int) = N) := hN
  clear hN
  go_wp2_with fail
  refine (q8).mono ?_
  rintro e W11 ⟨rfl, om, b11⟩
  have z11 := b11.size
  have B11 : Hid (Below w.heap.size w W11) := B10.out.trans (b11.below (by omega) (B10.out.size))
  have Vg1_11 : Hid (Ow W11 W2.heap.size W3.heap.size g1 (vers15 p (l.map Ev.n))) := Ow.apart Vg1_10.out b11 (by omega) (by omega)
  clear b11 Vg1_10 Vg2_10 B10
  have Vm_11 : Hid (Ow W11 W4.heap.size W5.heap.size g2 (mvs 1 C)) := om
  clear om q8
  have q9 := held_versions W11 g2 C 1 Vm_11.out.sw (by omega) (by omega) (by omega)
  rw [HN2.out] at q9
  go_wp2_with fail
  refine (q9).mono ?_
  rintro e W12 ⟨rfl, b12⟩
  have z12 := b12.size
  have B12 : Hid (Below w.heap.size w W12) := B11.out.trans (b12.mono B11.out.size)
  have Vg1_12 : Hid (Ow W12 W2.heap.size W3.heap.size g1 (vers15 p (l.map Ev.n))) := Ow.later Vg1_11.out b12 (by omega)
  have Vm_12 : Hid (Ow W12 W4.heap.size W5.heap.size g2 (mvs 1 C)) := Ow.later Vm_11.out b12 (by omega)
  clear b12 Vg1_11 Vm_11 B11
  clear q9
  go_wp2_with fail
  refine (to_entries W12 v l (Se.later HS.out B12.out) (by omega) (fun x hx => by have := HN.out x hx; omega)).mono ?_
  rintro e W13 ⟨x4, Tx4, rfl, ox4, ax4, b13⟩
  have z13 := b13.size
  have B13 : Hid (Below w.heap.size w W13) := B12.out.trans (b13.mono B12.out.size)
  have Vg1_13 : Hid (Ow W13 W2.heap.size W3.heap.size g1 (vers15 p (l.map Ev.n))) := Ow.later Vg1_12.out b13 (by omega)
  have Vm_13 : Hid (Ow W13 W4.heap.size W5.heap.size g2 (mvs 1 C)) := Ow.later Vm_12.out b13 (by omega)
  clear b13 Vg1_12 Vm_12 B12
  have Ex4_13 : Hid (Oes W13 W12.heap.size W13.heap.size x4 Tx4) := ox4
  have Ax4 : Hid (Alk l Tx4) := ax4
  have Lx4 : Tx4.length = l.length := ax4.len
  have Gx4 : tot15 Tx4 = tot15 l := tot15_alk ax4
  clear ox4 ax4
  go_wp2_with fail
  refine (iV W13 x4 Tx4 B13.out Ex4_13.out.se (by omega) (Fit2.alk HF.out Ax4.out) (by omega)).mono ?_
  rintro e W14 ⟨g3, rfl, og3, b14⟩
  have z14 := b14.size
  have B14 : Hid (Below w.heap.size w W14) := B13.out.trans (b14.mono B13.out.size)
  have Vg1_14 : Hid (Ow W14 W2.heap.size W3.heap.size g1 (vers15 p (l.map Ev.n))) := Ow.later Vg1_13.out b14 (by omega)
  have Vm_14 : Hid (Ow W14 W4.heap.size W5.heap.size g2 (mvs 1 C)) := Ow.later Vm_13.out b14 (by omega)
  have Ex4_14 : Hid (Oes W14 W12.heap.size W13.heap.size x4 Tx4) := Oes.later Ex4_13.out b14 (by omega)
  clear b14 Vg1_13 Vm_13 Ex4_13 B13
  have Vg3_14 : Hid (Ow W14 W13.heap.size W14.heap.size g3 (vers15 p (l.map Ev.n))) := (by have h9 := og3; rw [Ax4.out.names] at h9; exact h9)
  clear og3
  clear Ex4_14
  go_wp2_with fail
  refine (eq_versions W14 g3 g1 _ Vg3_14.out.sw Vg1_14.out.sw (by omega)).mono ?_
  rintro e W15 ⟨rfl, b15⟩
  have z15 := b15.size
  have B15 : Hid (Below w.heap.size w W15) := B14.out.trans (b15.mono B14.out.size)
  have Vg1_15 : Hid (Ow W15 W2.heap.size W3.heap.size g1 (vers15 p (l.map Ev.n))) := Ow.later Vg1_14.out b15 (by omega)
  have Vm_15 : Hid (Ow W15 W4.heap.size W5.heap.size g2 (mvs 1 C)) := Ow.later Vm_14.out b15 (by omega)
  have Vg3_15 : Hid (Ow W15 W13.heap.size W14.heap.size g3 (vers15 p (l.map Ev.n))) := Ow.later Vg3_14.out b15 (by omega)
  clear b15 Vg1_14 Vm_14 Vg3_14 B14
  have q10 := held_versions W15 g2 C 1 Vm_15.out.sw (by omega) (by omega) (by omega)
  rw [HN2.out] at q10
  go_wp2_with fail
  refine (q10).mono ?_
  rintro e W16 ⟨rfl, b16⟩
  have z16 := b16.size
  have B16 : Hid (Below w.heap.size w W16) := B15.out.trans (b16.mono B15.out.size)
  have Vg1_16 : Hid (Ow W16 W2.heap.size W3.heap.size g1 (vers15 p (l.map Ev.n))) := Ow.later Vg1_15.out b16 (by omega)
  have Vm_16 : Hid (Ow W16 W4.heap.size W5.heap.size g2 (mvs 1 C)) := Ow.later Vm_15.out b16 (by omega)
  have Vg3_16 : Hid (Ow W16 W13.heap.size W14.heap.size g3 (vers15 p (l.map Ev.n))) := Ow.later Vg3_15.out b16 (by omega)
  clear b16 Vg1_15 Vm_15 Vg3_15 B15
  clear q10
  go_wp2
  go_ret
  exact ⟨rfl, B16.out⟩

set_option maxRecDepth 1000000 in
set_option maxHeartbeats 4000000 in
theorem exact_lacking (w : World) (v v1 : Value) (l : List Ev) (s : List Nd) (h : Se w v l) (y : ∀ x ∈ l, Oke x) (hm : l.length ≤ maxLen) (h1 : Sd w v1 s) (y1 : ∀ n ∈ s, Open.Okn n) (hm2 : s.length ≤ maxLen)
    (iL : ∀ W v' u' T, Below w.heap.size w W → Se W v' T → Sd W u' s → T.length ≤ 1048576 → (∀ x ∈ T, Fit2 x) → s.length ≤ 1048576 → (∀ n ∈ s, n.path.size ≤ 1048576 ∧ n.pre.size ≤ 1048576) → Calls Try.prog 12 #[v', u'] W fun e w' => ∃ v', e = .returned v' ∧ Od w' W.heap.size w'.heap.size v' (lack15 (T.map Ev.n) s) ∧ Below W.heap.size W w') :
    Calls Try.prog 6 #[v, v1] w fun e w' => e = .returned (.bool true) ∧ Below w.heap.size w w' := by
  unfold maxLen at hm hm2
  have HS : Hid (Se w v l) := h
  have HD : Hid (Sd w v1 s) := h1
  have HY : Hid (∀ n ∈ s, Open.Okn n) := y1
  have q0 := sz_entries w v l 1048576 h (fun x hx => (y x hx).big) (by omega) (by omega)
  clear h h1 y y1
  go_enter Try.func6, Try.ntmps6
  go_wp2_with fail
  refine (q0).mono ?_
  rintro e W1 ⟨⟨r, rfl, hr, hor⟩, b1⟩
  have z1 := b1.size
  have B1 : Hid (Below w.heap.size w W1) := b1
  clear b1 
  rcases hor with hr0 | ⟨hr0, ht, hf⟩
  · go_wp2
    go_ret
    exact ⟨rfl, B1.out⟩
  have hr1 : ¬ r < 0 := by omega
  have htl := tot15_len l
  have hl : l.length ≤ 1048576 := by omega
  have HN : Hid (∀ x ∈ l, x.l.length ≤ 1048576) := fun x hx => by have := tot15_mem hx; omega
  have HF : Hid (∀ x ∈ l, Fit2 x) := fun x hx => ⟨hf x hx, HN.out x hx⟩
  have htt : tot15 l ≤ 1048576 := by omega
  clear hf q0
  obtain ⟨r0, rfl⟩ : ∃ r0 : Nat, r = (r0 : Int) := ⟨r.toNat, by omega⟩
  go_wp2_with fail
  refine (sz_needs2 W1 v1 s r0 (Sd.later HD.out B1.out) (fun n hn => ⟨(HY.out n hn).2.1, (HY.out n hn).2.2⟩) (by omega) (by omega)).mono ?_
  rintro e W2 ⟨⟨r2, rfl, hr2, hor2⟩, b2⟩
  have z2 := b2.size
  have B2 : Hid (Below w.heap.size w W2) := B1.out.trans (b2.mono B1.out.size)
  clear b2 B1
  rcases hor2 with hs0 | ⟨hs0, hs1, hs2⟩
  · go_wp2
    go_ret
    exact ⟨rfl, B2.out⟩
  have hr3 : ¬ r2 < 0 := by omega
  have hs : s.length ≤ 1048576 := by omega
  have HSF : Hid (∀ n ∈ s, n.path.size ≤ 1048576 ∧ n.pre.size ≤ 1048576) := fun n hn => by have := hs2 n hn; omega
  clear hs2
  go_wp2_with fail
  refine (to_entries W2 v l (Se.later HS.out B2.out) (by omega) (fun x hx => by have := HN.out x hx; omega)).mono ?_
  rintro e W3 ⟨x1, Tx1, rfl, ox1, ax1, b3⟩
  have z3 := b3.size
  have B3 : Hid (Below w.heap.size w W3) := B2.out.trans (b3.mono B2.out.size)
  clear b3 B2
  have Ex1_3 : Hid (Oes W3 W2.heap.size W3.heap.size x1 Tx1) := ox1
  have Ax1 : Hid (Alk l Tx1) := ax1
  have Lx1 : Tx1.length = l.length := ax1.len
  have Gx1 : tot15 Tx1 = tot15 l := tot15_alk ax1
  clear ox1 ax1
  go_wp2_with fail
  refine (to_needs W3 v1 s (Sd.later HD.out B3.out) (by omega)).mono ?_
  rintro e W4 ⟨u1, rfl, ou1, b4⟩
  have z4 := b4.size
  have B4 : Hid (Below w.heap.size w W4) := B3.out.trans (b4.mono B3.out.size)
  have Ex1_4 : Hid (Oes W4 W2.heap.size W3.heap.size x1 Tx1) := Oes.later Ex1_3.out b4 (by omega)
  clear b4 Ex1_3 B3
  have Du1_4 : Hid (Od W4 W3.heap.size W4.heap.size u1 s) := ou1
  clear ou1
  go_wp2_with fail
  refine (lacking_spec W4 x1 u1 Tx1 s Ex1_4.out.se Du1_4.out.sd (by omega) (by omega)).mono ?_
  rintro e W5 ⟨g1, rfl, og1, b5⟩
  have z5 := b5.size
  have B5 : Hid (Below w.heap.size w W5) := B4.out.trans (b5.mono B4.out.size)
  have Ex1_5 : Hid (Oes W5 W2.heap.size W3.heap.size x1 Tx1) := Oes.later Ex1_4.out b5 (by omega)
  have Du1_5 : Hid (Od W5 W3.heap.size W4.heap.size u1 s) := Od.later Du1_4.out b5 (by omega)
  clear b5 Ex1_4 Du1_4 B4
  have Vg1_5 : Hid (Od W5 W4.heap.size W5.heap.size g1 (lack15 (l.map Ev.n) s)) := (by have h9 := og1; rw [Ax1.out.names] at h9; exact h9)
  clear og1
  clear Ex1_5
  clear Du1_5
  go_wp2_with fail
  refine (to_entries W5 v l (Se.later HS.out B5.out) (by omega) (fun x hx => by have := HN.out x hx; omega)).mono ?_
  rintro e W6 ⟨x2, Tx2, rfl, ox2, ax2, b6⟩
  have z6 := b6.size
  have B6 : Hid (Below w.heap.size w W6) := B5.out.trans (b6.mono B5.out.size)
  have Vg1_6 : Hid (Od W6 W4.heap.size W5.heap.size g1 (lack15 (l.map Ev.n) s)) := Od.later Vg1_5.out b6 (by omega)
  clear b6 Vg1_5 B5
  have Ex2_6 : Hid (Oes W6 W5.heap.size W6.heap.size x2 Tx2) := ox2
  have Ax2 : Hid (Alk l Tx2) := ax2
  have Lx2 : Tx2.length = l.length := ax2.len
  have Gx2 : tot15 Tx2 = tot15 l := tot15_alk ax2
  clear ox2 ax2
  go_wp2_with fail
  refine (to_needs W6 v1 s (Sd.later HD.out B6.out) (by omega)).mono ?_
  rintro e W7 ⟨u2, rfl, ou2, b7⟩
  have z7 := b7.size
  have B7 : Hid (Below w.heap.size w W7) := B6.out.trans (b7.mono B6.out.size)
  have Vg1_7 : Hid (Od W7 W4.heap.size W5.heap.size g1 (lack15 (l.map Ev.n) s)) := Od.later Vg1_6.out b7 (by omega)
  have Ex2_7 : Hid (Oes W7 W5.heap.size W6.heap.size x2 Tx2) := Oes.later Ex2_6.out b7 (by omega)
  clear b7 Vg1_6 Ex2_6 B6
  have Du2_7 : Hid (Od W7 W6.heap.size W7.heap.size u2 s) := ou2
  clear ou2
  go_wp2_with fail
  refine (iL W7 x2 u2 Tx2 B7.out Ex2_7.out.se Du2_7.out.sd (by omega) (Fit2.alk HF.out Ax2.out) (by omega) HSF.out).mono ?_
  rintro e W8 ⟨g2, rfl, og2, b8⟩
  have z8 := b8.size
  have B8 : Hid (Below w.heap.size w W8) := B7.out.trans (b8.mono B7.out.size)
  have Vg1_8 : Hid (Od W8 W4.heap.size W5.heap.size g1 (lack15 (l.map Ev.n) s)) := Od.later Vg1_7.out b8 (by omega)
  have Ex2_8 : Hid (Oes W8 W5.heap.size W6.heap.size x2 Tx2) := Oes.later Ex2_7.out b8 (by omega)
  have Du2_8 : Hid (Od W8 W6.heap.size W7.heap.size u2 s) := Od.later Du2_7.out b8 (by omega)
  clear b8 Vg1_7 Ex2_7 Du2_7 B7
  have Vg2_8 : Hid (Od W8 W7.heap.size W8.heap.size g2 (lack15 (l.map Ev.n) s)) := (by have h9 := og2; rw [Ax2.out.names] at h9; exact h9)
  clear og2
  have hv1 := lack_len (l.map Ev.n) s
  go_wp2_with fail
  refine (eq_needs W8 g2 g1 _ Vg2_8.out.sd Vg1_8.out.sd (by omega)).mono ?_
  rintro e W9 ⟨rfl, b9⟩
  have z9 := b9.size
  have B9 : Hid (Below w.heap.size w W9) := B8.out.trans (b9.mono B8.out.size)
  have Vg1_9 : Hid (Od W9 W4.heap.size W5.heap.size g1 (lack15 (l.map Ev.n) s)) := Od.later Vg1_8.out b9 (by omega)
  have Ex2_9 : Hid (Oes W9 W5.heap.size W6.heap.size x2 Tx2) := Oes.later Ex2_8.out b9 (by omega)
  have Du2_9 : Hid (Od W9 W6.heap.size W7.heap.size u2 s) := Od.later Du2_8.out b9 (by omega)
  have Vg2_9 : Hid (Od W9 W7.heap.size W8.heap.size g2 (lack15 (l.map Ev.n) s)) := Od.later Vg2_8.out b9 (by omega)
  clear b9 Vg1_8 Ex2_8 Du2_8 Vg2_8 B8
  go_wp2_with fail
  refine (to_entries W9 v l (Se.later HS.out B9.out) (by omega) (fun x hx => by have := HN.out x hx; omega)).mono ?_
  rintro e W10 ⟨x3, Tx3, rfl, ox3, ax3, b10⟩
  have z10 := b10.size
  have B10 : Hid (Below w.heap.size w W10) := B9.out.trans (b10.mono B9.out.size)
  have Vg1_10 : Hid (Od W10 W4.heap.size W5.heap.size g1 (lack15 (l.map Ev.n) s)) := Od.later Vg1_9.out b10 (by omega)
  have Ex2_10 : Hid (Oes W10 W5.heap.size W6.heap.size x2 Tx2) := Oes.later Ex2_9.out b10 (by omega)
  have Du2_10 : Hid (Od W10 W6.heap.size W7.heap.size u2 s) := Od.later Du2_9.out b10 (by omega)
  have Vg2_10 : Hid (Od W10 W7.heap.size W8.heap.size g2 (lack15 (l.map Ev.n) s)) := Od.later Vg2_9.out b10 (by omega)
  clear b10 Vg1_9 Ex2_9 Du2_9 Vg2_9 B9
  have Ex3_10 : Hid (Oes W10 W9.heap.size W10.heap.size x3 Tx3) := ox3
  have Ax3 : Hid (Alk l Tx3) := ax3
  have Lx3 : Tx3.length = l.length := ax3.len
  have Gx3 : tot15 Tx3 = tot15 l := tot15_alk ax3
  clear ox3 ax3
  go_wp2_with fail
  refine (eq_entries W10 x2 x3 Tx2 Tx3 Ex2_10.out.se Ex3_10.out.se (Alk.trans Ax2.out.symm Ax3.out) (by omega) (Alk.all (p := fun _ s => s.length ≤ 1000000000000) Ax2.out (fun x hx => by have := HN.out x hx; omega))).mono ?_
  rintro e W11 ⟨rfl, b11⟩
  have z11 := b11.size
  have B11 : Hid (Below w.heap.size w W11) := B10.out.trans (b11.mono B10.out.size)
  have Vg1_11 : Hid (Od W11 W4.heap.size W5.heap.size g1 (lack15 (l.map Ev.n) s)) := Od.later Vg1_10.out b11 (by omega)
  have Ex2_11 : Hid (Oes W11 W5.heap.size W6.heap.size x2 Tx2) := Oes.later Ex2_10.out b11 (by omega)
  have Du2_11 : Hid (Od W11 W6.heap.size W7.heap.size u2 s) := Od.later Du2_10.out b11 (by omega)
  have Vg2_11 : Hid (Od W11 W7.heap.size W8.heap.size g2 (lack15 (l.map Ev.n) s)) := Od.later Vg2_10.out b11 (by omega)
  have Ex3_11 : Hid (Oes W11 W9.heap.size W10.heap.size x3 Tx3) := Oes.later Ex3_10.out b11 (by omega)
  clear b11 Vg1_10 Ex2_10 Du2_10 Vg2_10 Ex3_10 B10
  clear Ex3_11
  go_wp2_with fail
  refine (to_needs W11 v1 s (Sd.later HD.out B11.out) (by omega)).mono ?_
  rintro e W12 ⟨u3, rfl, ou3, b12⟩
  have z12 := b12.size
  have B12 : Hid (Below w.heap.size w W12) := B11.out.trans (b12.mono B11.out.size)
  have Vg1_12 : Hid (Od W12 W4.heap.size W5.heap.size g1 (lack15 (l.map Ev.n) s)) := Od.later Vg1_11.out b12 (by omega)
  have Ex2_12 : Hid (Oes W12 W5.heap.size W6.heap.size x2 Tx2) := Oes.later Ex2_11.out b12 (by omega)
  have Du2_12 : Hid (Od W12 W6.heap.size W7.heap.size u2 s) := Od.later Du2_11.out b12 (by omega)
  have Vg2_12 : Hid (Od W12 W7.heap.size W8.heap.size g2 (lack15 (l.map Ev.n) s)) := Od.later Vg2_11.out b12 (by omega)
  clear b12 Vg1_11 Ex2_11 Du2_11 Vg2_11 B11
  have Du3_12 : Hid (Od W12 W11.heap.size W12.heap.size u3 s) := ou3
  clear ou3
  go_wp2_with fail
  refine (eq_needs W12 u2 u3 s Du2_12.out.sd Du3_12.out.sd (by omega)).mono ?_
  rintro e W13 ⟨rfl, b13⟩
  have z13 := b13.size
  have B13 : Hid (Below w.heap.size w W13) := B12.out.trans (b13.mono B12.out.size)
  have Vg1_13 : Hid (Od W13 W4.heap.size W5.heap.size g1 (lack15 (l.map Ev.n) s)) := Od.later Vg1_12.out b13 (by omega)
  have Ex2_13 : Hid (Oes W13 W5.heap.size W6.heap.size x2 Tx2) := Oes.later Ex2_12.out b13 (by omega)
  have Du2_13 : Hid (Od W13 W6.heap.size W7.heap.size u2 s) := Od.later Du2_12.out b13 (by omega)
  have Vg2_13 : Hid (Od W13 W7.heap.size W8.heap.size g2 (lack15 (l.map Ev.n) s)) := Od.later Vg2_12.out b13 (by omega)
  have Du3_13 : Hid (Od W13 W11.heap.size W12.heap.size u3 s) := Od.later Du3_12.out b13 (by omega)
  clear b13 Vg1_12 Ex2_12 Du2_12 Vg2_12 Du3_12 B12
  clear Du3_13
  go_wp2_with fail
  refine (mark_entries W13 x2 _ _ Tx2 1 Ex2_13.out (by omega) (by omega) (by omega) (by omega)).mono ?_
  rintro e W14 ⟨rfl, b14⟩
  have z14 := b14.size
  have B14 : Hid (Below w.heap.size w W14) := B13.out.trans (b14.below (by omega) (B13.out.size))
  have Vg1_14 : Hid (Od W14 W4.heap.size W5.heap.size g1 (lack15 (l.map Ev.n) s)) := Od.apart Vg1_13.out b14 (by omega) (by omega)
  have Du2_14 : Hid (Od W14 W6.heap.size W7.heap.size u2 s) := Od.apart Du2_13.out b14 (by omega) (by omega)
  have Vg2_14 : Hid (Od W14 W7.heap.size W8.heap.size g2 (lack15 (l.map Ev.n) s)) := Od.apart Vg2_13.out b14 (by omega) (by omega)
  clear b14 Vg1_13 Ex2_13 Du2_13 Vg2_13 B13
  obtain ⟨m, hm9⟩ : ∃ m : Nat, 1 + 5 * tot15 Tx2 = m := ⟨_, rfl⟩
  rw [hm9]
  have hm1 : 1 ≤ m := by omega
  have hm3 : m ≤ 10000000 := by omega
  clear hm9
  go_wp2_with fail
  refine (mark_needs W14 u2 _ _ s m Du2_14.out (by omega) (by omega) (by omega) (by omega)).mono ?_
  rintro e W15 ⟨rfl, ou, b15⟩
  have z15 := b15.size
  have B15 : Hid (Below w.heap.size w W15) := B14.out.trans (b15.below (by omega) (B14.out.size))
  have Vg1_15 : Hid (Od W15 W4.heap.size W5.heap.size g1 (lack15 (l.map Ev.n) s)) := Od.apart Vg1_14.out b15 (by omega) (by omega)
  have Vg2_15 : Hid (Od W15 W7.heap.size W8.heap.size g2 (lack15 (l.map Ev.n) s)) := Od.apart Vg2_14.out b15 (by omega) (by omega)
  clear b15 Vg1_14 Du2_14 Vg2_14 B14
  obtain ⟨M, hM, hM0⟩ : ∃ M : Int, ((m + 5 * s.length : Nat) : Int) = M ∧ ¬ M < 0 := ⟨_, rfl, by omega⟩
  rw [hM]
  clear hM ou
  go_wp2_with fail
  refine (eq_needs W15 g2 g1 _ Vg2_15.out.sd Vg1_15.out.sd (by omega)).mono ?_
  rintro e W16 ⟨rfl, b16⟩
  have z16 := b16.size
  have B16 : Hid (Below w.heap.size w W16) := B15.out.trans (b16.mono B15.out.size)
  have Vg1_16 : Hid (Od W16 W4.heap.size W5.heap.size g1 (lack15 (l.map Ev.n) s)) := Od.later Vg1_15.out b16 (by omega)
  have Vg2_16 : Hid (Od W16 W7.heap.size W8.heap.size g2 (lack15 (l.map Ev.n) s)) := Od.later Vg2_15.out b16 (by omega)
  clear b16 Vg1_15 Vg2_15 B15
  obtain ⟨C, hC⟩ : ∃ C, (lack15 (l.map Ev.n) s).length = C := ⟨_, rfl⟩
  obtain ⟨N, hN, hN0⟩ : ∃ N : Int, ((1 + 5 * C : Nat) : Int) = N ∧ ¬ N < 0 := ⟨_, rfl, by omega⟩
  have n1 : (N != N) = false := by simp
  have q8 := mark_needs W16 g2 _ _ _ 1 Vg2_16.out (by omega) (by omega) (by omega) (by omega)
  rw [hC, hN] at q8
  have HN2 : Hid (((1 + 5 * C : Nat) : Int) = N) := hN
  clear hN
  go_wp2_with fail
  refine (q8).mono ?_
  rintro e W17 ⟨rfl, om, b17⟩
  have z17 := b17.size
  have B17 : Hid (Below w.heap.size w W17) := B16.out.trans (b17.below (by omega) (B16.out.size))
  have Vg1_17 : Hid (Od W17 W4.heap.size W5.heap.size g1 (lack15 (l.map Ev.n) s)) := Od.apart Vg1_16.out b17 (by omega) (by omega)
  clear b17 Vg1_16 Vg2_16 B16
  have Vm_17 : Hid (Od W17 W7.heap.size W8.heap.size g2 (mds 1 C)) := om
  clear om q8
  have q9 := held_needs W17 g2 C 1 Vm_17.out.sd (by omega) (by omega) (by omega)
  rw [HN2.out] at q9
  go_wp2_with fail
  refine (q9).mono ?_
  rintro e W18 ⟨rfl, b18⟩
  have z18 := b18.size
  have B18 : Hid (Below w.heap.size w W18) := B17.out.trans (b18.mono B17.out.size)
  have Vg1_18 : Hid (Od W18 W4.heap.size W5.heap.size g1 (lack15 (l.map Ev.n) s)) := Od.later Vg1_17.out b18 (by omega)
  have Vm_18 : Hid (Od W18 W7.heap.size W8.heap.size g2 (mds 1 C)) := Od.later Vm_17.out b18 (by omega)
  clear b18 Vg1_17 Vm_17 B17
  clear q9
  go_wp2_with fail
  refine (to_entries W18 v l (Se.later HS.out B18.out) (by omega) (fun x hx => by have := HN.out x hx; omega)).mono ?_
  rintro e W19 ⟨x4, Tx4, rfl, ox4, ax4, b19⟩
  have z19 := b19.size
  have B19 : Hid (Below w.heap.size w W19) := B18.out.trans (b19.mono B18.out.size)
  have Vg1_19 : Hid (Od W19 W4.heap.size W5.heap.size g1 (lack15 (l.map Ev.n) s)) := Od.later Vg1_18.out b19 (by omega)
  have Vm_19 : Hid (Od W19 W7.heap.size W8.heap.size g2 (mds 1 C)) := Od.later Vm_18.out b19 (by omega)
  clear b19 Vg1_18 Vm_18 B18
  have Ex4_19 : Hid (Oes W19 W18.heap.size W19.heap.size x4 Tx4) := ox4
  have Ax4 : Hid (Alk l Tx4) := ax4
  have Lx4 : Tx4.length = l.length := ax4.len
  have Gx4 : tot15 Tx4 = tot15 l := tot15_alk ax4
  clear ox4 ax4
  go_wp2_with fail
  refine (to_needs W19 v1 s (Sd.later HD.out B19.out) (by omega)).mono ?_
  rintro e W20 ⟨u4, rfl, ou4, b20⟩
  have z20 := b20.size
  have B20 : Hid (Below w.heap.size w W20) := B19.out.trans (b20.mono B19.out.size)
  have Vg1_20 : Hid (Od W20 W4.heap.size W5.heap.size g1 (lack15 (l.map Ev.n) s)) := Od.later Vg1_19.out b20 (by omega)
  have Vm_20 : Hid (Od W20 W7.heap.size W8.heap.size g2 (mds 1 C)) := Od.later Vm_19.out b20 (by omega)
  have Ex4_20 : Hid (Oes W20 W18.heap.size W19.heap.size x4 Tx4) := Oes.later Ex4_19.out b20 (by omega)
  clear b20 Vg1_19 Vm_19 Ex4_19 B19
  have Du4_20 : Hid (Od W20 W19.heap.size W20.heap.size u4 s) := ou4
  clear ou4
  go_wp2_with fail
  refine (iL W20 x4 u4 Tx4 B20.out Ex4_20.out.se Du4_20.out.sd (by omega) (Fit2.alk HF.out Ax4.out) (by omega) HSF.out).mono ?_
  rintro e W21 ⟨g3, rfl, og3, b21⟩
  have z21 := b21.size
  have B21 : Hid (Below w.heap.size w W21) := B20.out.trans (b21.mono B20.out.size)
  have Vg1_21 : Hid (Od W21 W4.heap.size W5.heap.size g1 (lack15 (l.map Ev.n) s)) := Od.later Vg1_20.out b21 (by omega)
  have Vm_21 : Hid (Od W21 W7.heap.size W8.heap.size g2 (mds 1 C)) := Od.later Vm_20.out b21 (by omega)
  have Ex4_21 : Hid (Oes W21 W18.heap.size W19.heap.size x4 Tx4) := Oes.later Ex4_20.out b21 (by omega)
  have Du4_21 : Hid (Od W21 W19.heap.size W20.heap.size u4 s) := Od.later Du4_20.out b21 (by omega)
  clear b21 Vg1_20 Vm_20 Ex4_20 Du4_20 B20
  have Vg3_21 : Hid (Od W21 W20.heap.size W21.heap.size g3 (lack15 (l.map Ev.n) s)) := (by have h9 := og3; rw [Ax4.out.names] at h9; exact h9)
  clear og3
  clear Ex4_21
  clear Du4_21
  go_wp2_with fail
  refine (eq_needs W21 g3 g1 _ Vg3_21.out.sd Vg1_21.out.sd (by omega)).mono ?_
  rintro e W22 ⟨rfl, b22⟩
  have z22 := b22.size
  have B22 : Hid (Below w.heap.size w W22) := B21.out.trans (b22.mono B21.out.size)
  have Vg1_22 : Hid (Od W22 W4.heap.size W5.heap.size g1 (lack15 (l.map Ev.n) s)) := Od.later Vg1_21.out b22 (by omega)
  have Vm_22 : Hid (Od W22 W7.heap.size W8.heap.size g2 (mds 1 C)) := Od.later Vm_21.out b22 (by omega)
  have Vg3_22 : Hid (Od W22 W20.heap.size W21.heap.size g3 (lack15 (l.map Ev.n) s)) := Od.later Vg3_21.out b22 (by omega)
  clear b22 Vg1_21 Vm_21 Vg3_21 B21
  have q10 := held_needs W22 g2 C 1 Vm_22.out.sd (by omega) (by omega) (by omega)
  rw [HN2.out] at q10
  go_wp2_with fail
  refine (q10).mono ?_
  rintro e W23 ⟨rfl, b23⟩
  have z23 := b23.size
  have B23 : Hid (Below w.heap.size w W23) := B22.out.trans (b23.mono B22.out.size)
  have Vg1_23 : Hid (Od W23 W4.heap.size W5.heap.size g1 (lack15 (l.map Ev.n) s)) := Od.later Vg1_22.out b23 (by omega)
  have Vm_23 : Hid (Od W23 W7.heap.size W8.heap.size g2 (mds 1 C)) := Od.later Vm_22.out b23 (by omega)
  have Vg3_23 : Hid (Od W23 W20.heap.size W21.heap.size g3 (lack15 (l.map Ev.n) s)) := Od.later Vg3_22.out b23 (by omega)
  clear b23 Vg1_22 Vm_22 Vg3_22 B22
  clear q10
  go_wp2
  go_ret
  exact ⟨rfl, B23.out⟩

end Go.Proofs.Ytpfiaginonnjmaa.Fe

/- Chapter 5: the exact law of GetEntry, over a contract of the landed function. -/
namespace Go.Proofs.Ytpfiaginonnjmaa.Ent
open Go.RowKit Go.Proofs.Ytpfiaginonnjmaa.Mem Go.Proofs.Ytpfiaginonnjmaa.Laws Go.Proofs.Ytpfiaginonnjmaa.Bytes Go.Proofs.Ytpfiaginonnjmaa.Sha Go.Proofs.Ytpfiaginonnjmaa.Ver Go.Proofs.Ytpfiaginonnjmaa.Mod Go.Proofs.Ytpfiaginonnjmaa.Strs
set_option linter.unusedVariables false
set_option linter.unusedSimpArgs false

theorem get5_len (s : ByteArray) : (get5 s).2.1.length ≤ 8 := by
  unfold get5
  split
  · unfold get5t
    split
    · unfold get5e
      split
      · rename_i h
        unfold entry5 at h
        simp only [Bool.and_eq_true, decide_eq_true_eq] at h
        exact h.1.2
      · exact Nat.zero_le _
    · exact Nat.zero_le _
  · exact Nat.zero_le _

set_option maxRecDepth 1000000 in
set_option maxHeartbeats 4000000 in
theorem mark_entry (w : World) (n : Nd) (v : Value) (lo hi : Nat) (l : List Nd) (k0 : Nat) (h : Od w lo hi v l) (hhi : hi ≤ w.heap.size) (hx : l.length ≤ 1000000000) (hk1 : 1 ≤ k0) (hk0 : k0 ≤ 1000000000) :
    Calls Try.prog 20 #[.agg #[.string n.path, .int .i64 n.a, .int .i64 n.b, .int .i64 n.c, .string n.pre, v], .int .i64 (k0 : Int)] w fun e w' => e = .returned (.int .i64 ((k0 + 5 * l.length : Nat) : Int)) ∧ Od w' lo hi v (mds k0 l.length) ∧ Apart lo hi w w' := by
  have hb : Below w.heap.size w (w.alloc (.cells #[.string n.path, .int .i64 n.a, .int .i64 n.b, .int .i64 n.c, .string n.pre, v] 31)) := (Below.refl _ _).alloc (Nat.le_refl _) _
  have q := mark_needs (w.alloc (.cells #[.string n.path, .int .i64 n.a, .int .i64 n.b, .int .i64 n.c, .string n.pre, v] 31)) v lo hi l k0 (On.later h hb hhi) (Nat.le_trans hhi hb.size) hx hk1 hk0
  have HA : Hid (Apart lo hi w (w.alloc (.cells #[.string n.path, .int .i64 n.a, .int .i64 n.b, .int .i64 n.c, .string n.pre, v] 31))) := (Apart.refl lo hi w).grow hb
  obtain ⟨ao, cap, rfl⟩ := Od.slice h
  obtain ⟨m, hm⟩ : ∃ m : Int, ((k0 + 5 * l.length : Nat) : Int) = m := ⟨_, rfl⟩
  rw [hm] at q ⊢
  clear h hb hm
  go_enter Try.func20, Try.ntmps20
  go_wp2_with fail
  refine q.mono ?_
  rintro e w1 ⟨rfl, o1, a1⟩
  have HO : Hid _ := o1
  have HA2 : Hid (Apart lo hi w w1) := HA.out.trans a1
  clear q o1 a1 HA
  go_wp2
  go_ret
  exact ⟨rfl, HO.out, HA2.out⟩

set_option maxRecDepth 1000000 in
set_option maxHeartbeats 4000000 in
theorem held_entry (w : World) (n : Nd) (v : Value) (m k0 : Nat) (h : Sd w v (mds k0 m)) (hx : m ≤ 1000000000) (hk1 : 1 ≤ k0) (hk0 : k0 ≤ 1000000000) :
    Calls Try.prog 21 #[.agg #[.string n.path, .int .i64 n.a, .int .i64 n.b, .int .i64 n.c, .string n.pre, v], .int .i64 (k0 : Int)] w fun e w' => e = .returned (.int .i64 ((k0 + 5 * m : Nat) : Int)) ∧ Below w.heap.size w w' := by
  have HB : Hid (Below w.heap.size w (w.alloc (.cells #[.string n.path, .int .i64 n.a, .int .i64 n.b, .int .i64 n.c, .string n.pre, v] 31))) := (Below.refl _ _).alloc (Nat.le_refl _) _
  have q := held_needs (w.alloc (.cells #[.string n.path, .int .i64 n.a, .int .i64 n.b, .int .i64 n.c, .string n.pre, v] 31)) v m k0 (h.later HB.out) hx hk1 hk0
  obtain ⟨_, ao, cap, rfl, _⟩ := h
  obtain ⟨r, hr⟩ : ∃ r : Int, ((k0 + 5 * m : Nat) : Int) = r := ⟨_, rfl⟩
  have hr0 : ¬ r < 0 := by omega
  rw [hr] at q ⊢
  clear hr
  go_enter Try.func21, Try.ntmps21
  go_wp2_with fail
  refine q.mono ?_
  rintro e w1 ⟨rfl, b1⟩
  have HB1 : Hid (Below w.heap.size w w1) := HB.out.trans (b1.mono HB.out.size)
  clear q b1 HB
  go_wp2
  go_ret
  exact ⟨rfl, HB1.out⟩

end Go.Proofs.Ytpfiaginonnjmaa.Ent
