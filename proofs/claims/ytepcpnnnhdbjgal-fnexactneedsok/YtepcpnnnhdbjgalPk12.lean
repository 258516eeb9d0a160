/- Texts in one: Open5, EntX. -/
import Derived.Test.YtepcpnnnhdbjgalPk11
import Derived.Test.YtepcpnnnhdbjgalPk7
import Derived.Test.YtepcpnnnhdbjgalProg
import Derived.Test.YtepcpnnnhdbjgalPk10
import Derived.ChangeSame
/- What came in, read as versions, needs and entries. -/
namespace Go.Proofs.Ytepcpnnnhdbjgal.Open
open Go.RowKit Go.ChangeShapes Go.WideShapes Go.ChangeAt Go.Deep Go.Joins Go.Proofs.Ytepcpnnnhdbjgal.Mem Go.Proofs.Ytepcpnnnhdbjgal.Ent
set_option linter.unusedVariables false
set_option linter.unusedSimpArgs false

/-- a need whose numbers and texts are such as Go can hold -/
def Okn (n : Nd) : Prop := ((Lit.int .i64 n.a).wf = true ∧ (Lit.int .i64 n.b).wf = true ∧ (Lit.int .i64 n.c).wf = true) ∧ n.path.size ≤ maxLen ∧ n.pre.size ≤ maxLen

section
variable {H : Type} {enc : TypeId × Value → H} {w : World} {base : Nat} {spare : Nat → Bool} {held : Bool}

set_option maxRecDepth 1000000 in
theorem cells_ver : Try.prog.cellsOf 25 = 4 := by kernel_rfl

set_option maxRecDepth 1000000 in
theorem read_ver {fuel : Nat} {cs : List Value} {y : DataW H × List MemPlace} (h : DataW.trod enc Try.prog w base spare held fuel 25 cs = some y) :
    ∃ (a b c : Int) (p : ByteArray), cs = [.int .i64 a, .int .i64 b, .int .i64 c, .string p] ∧ (Lit.int .i64 a).wf = true ∧ (Lit.int .i64 b).wf = true ∧ (Lit.int .i64 c).wf = true ∧ p.size ≤ maxLen := by
  obtain ⟨y0, y1, y2, y3, n, _, hl, h0, h1, h2, h3⟩ := trod_struct4 Try.underlying25 h
  rw [cells_ver] at hl
  match cs, hl with
  | [c0, c1, c2, c3], _ =>
    have k3 : Try.prog.cellsOf 3 = 1 := by kernel_rfl
    have k9 : Try.prog.cellsOf 9 = 1 := by kernel_rfl
    simp only [k3, k9, List.drop_zero, List.drop_succ_cons, List.take_succ_cons, List.take_zero] at h0 h1 h2 h3
    obtain ⟨a, e0, _, wa⟩ := DataW.trod_int Try.underlying3 h0
    obtain ⟨b, e1, _, wb⟩ := DataW.trod_int Try.underlying3 h1
    obtain ⟨c, e2, _, wc⟩ := DataW.trod_int Try.underlying3 h2
    obtain ⟨p, e3, _, wp⟩ := DataW.trod_string Try.underlying9 h3
    simp only [List.cons.injEq, and_true] at e0 e1 e2 e3
    subst e0 e1 e2 e3
    exact ⟨a, b, c, p, rfl, wa, wb, wc, wp⟩

set_option maxRecDepth 1000000 in
theorem cells_need : Try.prog.cellsOf 33 = 5 := by kernel_rfl

set_option maxRecDepth 1000000 in
theorem read_need {fuel : Nat} {cs : List Value} {y : DataW H × List MemPlace} (h : DataW.trod enc Try.prog w base spare held fuel 33 cs = some y) :
    ∃ n : Nd, cs = n.cs ∧ Okn n := by
  obtain ⟨y0, y1, n, _, hl, h0, h1⟩ := trod_struct2 Try.underlying33 h
  rw [cells_need] at hl
  match cs, hl with
  | [c0, c1, c2, c3, c4], _ =>
    have k9 : Try.prog.cellsOf 9 = 1 := by kernel_rfl
    simp only [k9, cells_ver, List.drop_zero, List.drop_succ_cons, List.take_succ_cons, List.take_zero] at h0 h1
    obtain ⟨p, e0, _, wp⟩ := DataW.trod_string Try.underlying9 h0
    obtain ⟨a, b, c, q, e1, wa, wb, wc, wq⟩ := read_ver h1
    simp only [List.cons.injEq, and_true] at e0 e1
    obtain ⟨rfl, rfl, rfl, rfl⟩ := e1
    subst e0
    exact ⟨⟨p, a, b, c, q⟩, rfl, ⟨wa, wb, wc⟩, wp, wq⟩

theorem flat_nds : ∀ l : List Nd, (l.map Nd.cs).flatten = nds l := by
  intro l
  induction l with
  | nil => rfl
  | cons n r ih => rw [List.map_cons, List.flatten_cons, ih]; rfl
theorem rows_nds : ∀ R : List (List Value), (∀ r ∈ R, ∃ n : Nd, r = n.cs ∧ Okn n) → ∃ l : List Nd, R = l.map Nd.cs ∧ ∀ n ∈ l, Okn n := by
  intro R
  induction R with
  | nil => intro _; exact ⟨[], rfl, fun n hn => (by cases hn)⟩
  | cons r R ih =>
    intro h
    obtain ⟨n, rfl, hn⟩ := h r (by simp)
    obtain ⟨l, rfl, hl⟩ := ih (fun x hx => h x (by simp [hx]))
    exact ⟨n :: l, rfl, fun x hx => by rcases List.mem_cons.1 hx with rfl | hx; exact hn; exact hl x hx⟩

set_option maxRecDepth 1000000 in
theorem read_needs {fuel : Nat} {cs : List Value} {y : DataW H × List MemPlace} (h : DataW.trod enc Try.prog w base spare held fuel 40 cs = some y) :
    ∃ (ao : Option Addr) (m cap : Nat) (l : List Nd), cs = [.slice ao m cap] ∧ l.length = m ∧ l.length ≤ maxLen ∧ (∀ n ∈ l, Okn n) ∧ Sd w (.slice ao m cap) l := by
  obtain ⟨ao, m, cap, R, rfl, hm, hR, hr, hs⟩ := rows Try.underlying40 cells_need (by omega) h
  obtain ⟨l, rfl, hl⟩ := rows_nds R (fun r hr' => by
    obtain ⟨_, k, y, hy⟩ := hr r hr'
    exact read_need hy)
  rw [flat_nds] at hs
  rw [List.length_map] at hR
  subst hR
  exact ⟨ao, l.length, cap, l, rfl, rfl, hm, hl, hs⟩

end

end Go.Proofs.Ytepcpnnnhdbjgal.Open

/- Chapter 5: three exact laws, over contracts of the landed functions. -/
namespace Go.Proofs.Ytepcpnnnhdbjgal.Ent
open Go.RowKit Go.Proofs.Ytepcpnnnhdbjgal.Mem Go.Proofs.Ytepcpnnnhdbjgal.Laws Go.Proofs.Ytepcpnnnhdbjgal.Bytes Go.Proofs.Ytepcpnnnhdbjgal.Sha Go.Proofs.Ytepcpnnnhdbjgal.Ver Go.Proofs.Ytepcpnnnhdbjgal.Mod
set_option linter.unusedVariables false
set_option linter.unusedSimpArgs false

theorem sizeLN (n : Nd) : (Try.prog.info? 33).map (·.size) = some (nc n).size := by
  show _ = some 5
  kernel_rfl

set_option maxRecDepth 1000000 in
set_option maxHeartbeats 2000000 in
theorem exact_need (w : World) (n : Nd) (hn : Open.Okn n)
    (iF : ∀ W, Below w.heap.size w W → n.path.size ≤ 1048576 → n.pre.size ≤ 1048576 → Calls Try.prog 22 #[.agg #[.string n.path, .int .i64 n.a, .int .i64 n.b, .int .i64 n.c, .string n.pre]] W fun e w' => e = .returned (.bool n.ok) ∧ Below W.heap.size W w') :
    Calls Try.prog 7 #[.agg #[.string n.path, .int .i64 n.a, .int .i64 n.b, .int .i64 n.c, .string n.pre]] w fun e w' => e = .returned (.bool true) ∧ Below w.heap.size w w' := by
  obtain ⟨_, hm, hm2⟩ := hn
  unfold maxLen at hm hm2
  have HB : Hid (Below w.heap.size w (w.alloc (.cells #[.string n.path, .int .i64 n.a, .int .i64 n.b, .int .i64 n.c, .string n.pre] 33))) := (Below.refl _ _).alloc (Nat.le_refl _) _
  have HR : Hid ((w.alloc (.cells #[.string n.path, .int .i64 n.a, .int .i64 n.b, .int .i64 n.c, .string n.pre] 33)).heap[w.heap.size]? = some (.cells (nc n) 33 (0, 0))) := heap_alloc_new w _
  have q0 := sz_need (w.alloc (.cells #[.string n.path, .int .i64 n.a, .int .i64 n.b, .int .i64 n.c, .string n.pre] 33)) n 1048576 (by omega) (by omega) (by omega) (by omega)
  by_cases hbig : (1048576 : Int) - n.path.size - n.pre.size < 0
  · rw [if_pos hbig] at q0
    clear hbig iF
    go_enter Try.func7, Try.ntmps7
    go_wp2_with (go_at_call 19; refine q0.mono ?_; rintro e W1 ⟨rfl, b1⟩)
    go_ret
    exact ⟨rfl, HB.out.trans (b1.mono HB.out.size)⟩
  · rw [if_neg hbig] at q0
    have hq0 : ¬ (1048576 : Int) - n.path.size - n.pre.size < 0 := hbig
    have q3 : ∀ W, _ := fun W => need_spec W n (by omega) (by omega)
    have q5 : ∀ W, Below w.heap.size w W → _ := fun W h => iF W h (by omega) (by omega)
    obtain ⟨x, hx⟩ : ∃ x, n.ok = x := ⟨_, rfl⟩
    simp only [hx] at q3 q5
    clear hbig iF hx
    go_enter Try.func7, Try.ntmps7
    go_wp2_with fail
    refine q0.mono ?_
    rintro e W1 ⟨rfl, b1⟩
    have R1 := rowKeep HR.out b1
    have B1 : Below w.heap.size w W1 := HB.out.trans (b1.mono HB.out.size)
    clear q0 b1 HR HB
    go_wp2_with (refine wpList_load_row rfl 33 _ rfl w.heap.size rfl 33 (nc n) (0, 0) _ R1 Try.underlying33 rfl (sizeLN n) ?_)
    refine (to_need W1 n).mono ?_
    rintro e W2 ⟨rfl, b2⟩
    have R2 := rowKeep R1 b2
    have B2 : Below w.heap.size w W2 := B1.trans (b2.mono B1.size)
    clear R1 B1 b2
    go_wp2_with (refine wpList_load_row rfl 33 _ rfl w.heap.size rfl 33 (nc n) (0, 0) _ R2 Try.underlying33 rfl (sizeLN n) ?_)
    refine (q3 W2).mono ?_
    rintro e W3 ⟨rfl, b3⟩
    have R3 := rowKeep R2 b3
    have B3 : Below w.heap.size w W3 := B2.trans (b3.mono B2.size)
    clear R2 B2 b3
    go_wp2_with (refine wpList_load_row rfl 33 _ rfl w.heap.size rfl 33 (nc n) (0, 0) _ R3 Try.underlying33 rfl (sizeLN n) ?_)
    refine (to_need W3 n).mono ?_
    rintro e W4 ⟨rfl, b4⟩
    have R4 := rowKeep R3 b4
    have B4 : Below w.heap.size w W4 := B3.trans (b4.mono B3.size)
    clear R3 B3 b4
    go_wp2_with (refine wpList_load_row rfl 33 _ rfl w.heap.size rfl 33 (nc n) (0, 0) _ R4 Try.underlying33 rfl (sizeLN n) ?_)
    refine (q5 W4 B4).mono ?_
    rintro e W5 ⟨rfl, b5⟩
    have B5 : Below w.heap.size w W5 := B4.trans (b5.mono B4.size)
    clear R4 B4 b5 q3 q5
    cases x
    · go_wp2_with fail
      go_ret
      exact ⟨rfl, B5⟩
    · go_wp2_with fail
      go_ret
      exact ⟨rfl, B5⟩

set_option maxRecDepth 1000000 in
set_option maxHeartbeats 2000000 in
theorem exact_needs (w : World) (v : Value) (l : List Nd) (h : Sd w v l) (ho : ∀ n ∈ l, Open.Okn n) (hm : l.length ≤ maxLen)
    (iF : ∀ W v', Below w.heap.size w W → Sd W v' l → l.length ≤ 1048576 → (∀ n ∈ l, n.path.size ≤ 1048576 ∧ n.pre.size ≤ 1048576) → Calls Try.prog 26 #[v'] W fun e w' => e = .returned (.bool (needs5 l)) ∧ Below W.heap.size W w') :
    Calls Try.prog 8 #[v] w fun e w' => e = .returned (.bool true) ∧ Below w.heap.size w w' := by
  unfold maxLen at hm
  have q0 := sz_needs w v l 1048576 h (fun n hn => by have := (ho n hn).2; unfold maxLen at this; omega) (by omega) (by omega)
  have q1 : ∀ W, Below w.heap.size w W → l.length ≤ 1048576 → _ := fun W hW hl => to_needs W v l (h.later hW) (by omega)
  have q2 : ∀ W v', Sd W v' l → l.length ≤ 1048576 → (∀ n ∈ l, n.path.size ≤ 1048576 ∧ n.pre.size ≤ 1048576) → _ := fun W v' hv hl hz => needs_spec W v' l hv (by omega) (fun n hn => by have := hz n hn; omega)
  have q3 : ∀ W v1 v2, Sd W v1 l → Sd W v2 l → l.length ≤ 1048576 → _ := fun W v1 v2 h1 h2 hl => eq_needs W v1 v2 l h1 h2 (by omega)
  obtain ⟨x, hx⟩ : ∃ x, needs5 l = x := ⟨_, rfl⟩
  simp only [hx] at q2 iF
  clear hx ho h
  go_enter Try.func8, Try.ntmps8
  go_wp2_with fail
  refine q0.mono ?_
  rintro e W1 ⟨⟨r, rfl, hr, hrr⟩, B1⟩
  clear q0
  rcases hrr with hr0 | ⟨hr0, hl, hall⟩
  · clear q1 q2 q3 iF
    go_wp2_with fail
    go_ret
    exact ⟨rfl, B1⟩
  have hr1 : ¬ r < 0 := by omega
  have HA : Hid (∀ n ∈ l, n.path.size ≤ 1048576 ∧ n.pre.size ≤ 1048576) := hall
  clear hall
  go_wp2_with fail
  refine (q1 _ B1 hl).mono ?_
  rintro e W2 ⟨v2, rfl, d2, b2⟩
  have B2 : Below w.heap.size w W2 := B1.trans (b2.mono B1.size)
  clear B1 b2
  go_wp2_with fail
  refine (q2 _ v2 d2.sd hl HA.out).mono ?_
  rintro e W3 ⟨rfl, b3⟩
  have B3 : Below w.heap.size w W3 := B2.trans (b3.mono B2.size)
  clear B2 b3 d2
  go_wp2_with fail
  refine (q1 _ B3 hl).mono ?_
  rintro e W4 ⟨v4, rfl, d4, b4⟩
  have B4 : Below w.heap.size w W4 := B3.trans (b4.mono B3.size)
  clear B3 b4
  go_wp2_with fail
  refine (iF _ v4 B4 d4.sd hl HA.out).mono ?_
  rintro e W5 ⟨rfl, b5⟩
  have B5 : Below w.heap.size w W5 := B4.trans (b5.mono B4.size)
  have s5 : Sd W5 v4 l := d4.sd.later b5
  have HS5 : Hid (Sd W5 v4 l) := s5
  clear B4 b5 d4 iF s5
  cases x
  all_goals
    go_wp2_with fail
    refine (q1 _ B5 hl).mono ?_
    rintro e W6 ⟨v6, rfl, d6, b6⟩
    have B6 : Below w.heap.size w W6 := B5.trans (b6.mono B5.size)
    have s6 := HS5.out.later b6
    go_wp2_with fail
    refine (q3 _ v4 v6 s6 d6.sd hl).mono ?_
    rintro e W7 ⟨rfl, b7⟩
    have B7 : Below w.heap.size w W7 := B6.trans (b7.mono B6.size)
    go_wp2_with fail
    go_ret
    exact ⟨rfl, B7⟩

end Go.Proofs.Ytepcpnnnhdbjgal.Ent
