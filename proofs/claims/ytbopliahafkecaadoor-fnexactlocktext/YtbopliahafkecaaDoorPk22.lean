/- Texts in one: Open5, LmY, Lm1, LmA. -/
import Derived.Test.YtbopliahafkecaaDoorPk21
import Derived.Test.YtbopliahafkecaaDoorPk10
import Derived.Test.YtbopliahafkecaaDoorProg
import Derived.Test.YtbopliahafkecaaDoorPk20
import Derived.Test.YtbopliahafkecaaDoorPk13
import Derived.Test.YtbopliahafkecaaDoorPk19
import Derived.Test.YtbopliahafkecaaDoorPk6
import Derived.ChangeSame
/- What came in, read as versions, needs and entries. -/
namespace Go.Proofs.YtbopliahafkecaaDoor.Open
open Go.RowKit Go.ChangeShapes Go.WideShapes Go.ChangeAt Go.Deep Go.Joins Go.Proofs.YtbopliahafkecaaDoor.Mem Go.Proofs.YtbopliahafkecaaDoor.Ent
set_option linter.unusedVariables false
set_option linter.unusedSimpArgs false

/-- a need whose numbers and texts are such as Go can hold -/
def Okn (n : Nd) : Prop := ((Lit.int .i64 n.a).wf = true ∧ (Lit.int .i64 n.b).wf = true ∧ (Lit.int .i64 n.c).wf = true) ∧ n.path.size ≤ maxLen ∧ n.pre.size ≤ maxLen

section
variable {H : Type} {enc : TypeId × Value → H} {w : World} {base : Nat} {spare : Nat → Bool} {held : Bool}

set_option maxRecDepth 1000000 in
theorem cells_ver : Tryd.prog.cellsOf 36 = 4 := by kernel_rfl

set_option maxRecDepth 1000000 in
theorem read_ver {fuel : Nat} {cs : List Value} {y : DataW H × List MemPlace} (h : DataW.trod enc Tryd.prog w base spare held fuel 36 cs = some y) :
    ∃ (a b c : Int) (p : ByteArray), cs = [.int .i64 a, .int .i64 b, .int .i64 c, .string p] ∧ (Lit.int .i64 a).wf = true ∧ (Lit.int .i64 b).wf = true ∧ (Lit.int .i64 c).wf = true ∧ p.size ≤ maxLen := by
  obtain ⟨y0, y1, y2, y3, n, _, hl, h0, h1, h2, h3⟩ := trod_struct4 Tryd.underlying36 h
  rw [cells_ver] at hl
  match cs, hl with
  | [c0, c1, c2, c3], _ =>
    have k3 : Tryd.prog.cellsOf 3 = 1 := by kernel_rfl
    have k9 : Tryd.prog.cellsOf 9 = 1 := by kernel_rfl
    simp only [k3, k9, List.drop_zero, List.drop_succ_cons, List.take_succ_cons, List.take_zero] at h0 h1 h2 h3
    obtain ⟨a, e0, _, wa⟩ := DataW.trod_int Tryd.underlying3 h0
    obtain ⟨b, e1, _, wb⟩ := DataW.trod_int Tryd.underlying3 h1
    obtain ⟨c, e2, _, wc⟩ := DataW.trod_int Tryd.underlying3 h2
    obtain ⟨p, e3, _, wp⟩ := DataW.trod_string Tryd.underlying9 h3
    simp only [List.cons.injEq, and_true] at e0 e1 e2 e3
    subst e0 e1 e2 e3
    exact ⟨a, b, c, p, rfl, wa, wb, wc, wp⟩

set_option maxRecDepth 1000000 in
theorem cells_need : Tryd.prog.cellsOf 38 = 5 := by kernel_rfl

set_option maxRecDepth 1000000 in
theorem read_need {fuel : Nat} {cs : List Value} {y : DataW H × List MemPlace} (h : DataW.trod enc Tryd.prog w base spare held fuel 38 cs = some y) :
    ∃ n : Nd, cs = n.cs ∧ Okn n := by
  obtain ⟨y0, y1, n, _, hl, h0, h1⟩ := trod_struct2 Tryd.underlying38 h
  rw [cells_need] at hl
  match cs, hl with
  | [c0, c1, c2, c3, c4], _ =>
    have k9 : Tryd.prog.cellsOf 9 = 1 := by kernel_rfl
    simp only [k9, cells_ver, List.drop_zero, List.drop_succ_cons, List.take_succ_cons, List.take_zero] at h0 h1
    obtain ⟨p, e0, _, wp⟩ := DataW.trod_string Tryd.underlying9 h0
    obtain ⟨a, b, c, q, e1, wa, wb, wc, wq⟩ := read_ver h1
    simp only [List.cons.injEq, and_true] at e0 e1
    obtain ⟨rfl, rfl, rfl, rfl⟩ := e1
    subst e0
    exact ⟨⟨p, a, b, c, q⟩, rfl, ⟨wa, wb, wc⟩, wp, wq⟩

theorem flat_nds : ∀ l : List Nd, (l.map Nd.cs).flatten = nds l := by
  intro l
  induction l with
  | nil => rfl
  | cons n r ih => rw [List.map_cons, List.flatten_cons, ih]; rfl

theorem rows_nds : ∀ R : List (List Value), (∀ r ∈ R, ∃ n : Nd, r = n.cs ∧ Okn n) → ∃ l : List Nd, R = l.map Nd.cs ∧ ∀ n ∈ l, Okn n := by
  intro R
  induction R with
  | nil => intro _; exact ⟨[], rfl, fun n hn => (by cases hn)⟩
  | cons r R ih =>
    intro h
    obtain ⟨n, rfl, hn⟩ := h r (by simp)
    obtain ⟨l, rfl, hl⟩ := ih (fun x hx => h x (by simp [hx]))
    exact ⟨n :: l, rfl, fun x hx => by rcases List.mem_cons.1 hx with rfl | hx; exact hn; exact hl x hx⟩

set_option maxRecDepth 1000000 in
theorem read_needs {fuel : Nat} {cs : List Value} {y : DataW H × List MemPlace} (h : DataW.trod enc Tryd.prog w base spare held fuel 24 cs = some y) :
    ∃ (ao : Option Addr) (m cap : Nat) (l : List Nd), cs = [.slice ao m cap] ∧ l.length = m ∧ l.length ≤ maxLen ∧ (∀ n ∈ l, Okn n) ∧ Sd w (.slice ao m cap) l := by
  obtain ⟨ao, m, cap, R, rfl, hm, hR, hr, hs⟩ := rows Tryd.underlying24 cells_need (by omega) h
  obtain ⟨l, rfl, hl⟩ := rows_nds R (fun r hr' => by
    obtain ⟨_, k, y, hy⟩ := hr r hr'
    exact read_need hy)
  rw [flat_nds] at hs
  rw [List.length_map] at hR
  subst hR
  exact ⟨ao, l.length, cap, l, rfl, rfl, hm, hl, hs⟩

end

end Go.Proofs.YtbopliahafkecaaDoor.Open

/- Chapter 17: the exact law of LockText, over a contract of the landed function. -/
namespace Go.Proofs.YtbopliahafkecaaDoor.Lm
open Go.RowKit Go.Proofs.YtbopliahafkecaaDoor.Mem Go.Proofs.YtbopliahafkecaaDoor.Laws Go.Proofs.YtbopliahafkecaaDoor.Bytes Go.Proofs.YtbopliahafkecaaDoor.Sha Go.Proofs.YtbopliahafkecaaDoor.Ver Go.Proofs.YtbopliahafkecaaDoor.Mod Go.Proofs.YtbopliahafkecaaDoor.Ent Go.Proofs.YtbopliahafkecaaDoor.He Go.Proofs.YtbopliahafkecaaDoor.Lk
set_option linter.unusedVariables false
set_option linter.unusedSimpArgs false

set_option maxRecDepth 1000000 in
set_option maxHeartbeats 4000000 in
theorem exact_lock (w : World) (h : Hd) (v : Value) (l : List Nd) (hv : Sd w v l) (ho : ∀ n ∈ l, Open.Okn n) (hm : l.length ≤ maxLen) (hr : h.r.size ≤ maxLen)
    (iF : ∀ W v', Below w.heap.size w W → Sd W v' l → l.length ≤ 1048576 → (∀ n ∈ l, n.path.size ≤ 1048576 ∧ n.pre.size ≤ 1048576) → h.r.size ≤ 1048576 → Calls Tryd.prog 9 #[.agg #[.int .i64 h.n, .string h.r], v'] W fun e w' => e = .returned (.string (lock h l)) ∧ Below W.heap.size W w') :
    Calls Tryd.prog 3 #[.agg #[.int .i64 h.n, .string h.r], v] w fun e w' => e = .returned (.bool true) ∧ Below w.heap.size w w' := by
  unfold maxLen at hm hr
  have HV : Hid (Sd w v l) := hv
  have HO : Hid (∀ n ∈ l, Open.Okn n) := ho
  clear hv ho
  obtain ⟨W1, HW1, b1, y1, hS1, a1⟩ := Ke.l1 w #[.int .i64 h.n, .string h.r] 23
  have B1 : Hid (Below w.heap.size w W1) := b1
  have ca1 := Ke.c a1
  have q0 : ∀ W, _ := fun W => sz_head W h 1048576 hr (by omega) (by omega)
  have q3 : ∀ W, _ := fun W => to_head W h
  by_cases hb : (1048576 : Int) - (h.r.size : Int) < 0
  · simp only [if_pos hb] at q0
    clear iF q3
    go_enter Tryd.func3, Tryd.ntmps3
    go_wp2_with fail
    rw [HW1.out]
    refine (q0 _).mono ?_
    rintro e W2 ⟨rfl, b2⟩
    have B2 := Ke.b B1 b2
    go_wp2
    go_ret
    exact ⟨rfl, B2.out⟩
  simp only [if_neg hb] at q0
  have hr2 : h.r.size ≤ 1048576 := by omega
  obtain ⟨L, hL⟩ : ∃ L : Nat, 1048576 - (h.r.size : Int) = (L : Int) := ⟨1048576 - h.r.size, by omega⟩
  have hL0 : ¬ (L : Int) < 0 := by omega
  have hL1 : L ≤ 1048576 := by omega
  rw [hL] at q0
  clear hL hb
  go_enter Tryd.func3, Tryd.ntmps3
  go_wp2_with fail
  rw [HW1.out]
  refine (q0 _).mono ?_
  rintro e W2 ⟨rfl, b2⟩
  have B2 := Ke.b B1 b2
  have a2 := Ke.r a1 b2
  have ca2 := Ke.c a2
  clear q0 B1 a1 ca1 b1 b2 HW1 hS1
  have q1 := sz_needs W2 v l L (HV.out.later B2.out) (fun n hn => by have := (HO.out n hn).2; unfold maxLen at this; omega) (by omega) hL1
  go_wp2_with fail
  refine q1.mono ?_
  rintro e W3 ⟨⟨r, rfl, hrr, hor⟩, b3⟩
  have B3 := Ke.b B2 b3
  have a3 := Ke.r a2 b3
  have ca3 := Ke.c a3
  clear q1 B2 a2 ca2 b3
  rcases hor with hr0 | ⟨hr0, hl, hall⟩
  · go_wp2
    go_ret
    exact ⟨rfl, B3.out⟩
  have hr1 : ¬ r < 0 := by omega
  have hl2 : l.length ≤ 1048576 := by omega
  have HA : Hid (∀ n ∈ l, n.path.size ≤ 1048576 ∧ n.pre.size ≤ 1048576) := fun n hn => by have := hall n hn; omega
  clear hall
  have q4 : ∀ W, Below w.heap.size w W → _ := fun W hW => to_needs W v l (HV.out.later hW) (by omega)
  obtain ⟨x, hx⟩ : ∃ x, lock h l = x := ⟨_, rfl⟩
  have HX : Hid (lock h l = x) := hx
  simp only [hx] at iF
  clear hx
  go_wp2_with fail
  refine (q3 W3).mono ?_
  rintro e W4 ⟨rfl, b4⟩
  have B4 := Ke.b B3 b4
  have a4 := Ke.r a3 b4
  have ca4 := Ke.c a4
  clear B3 a3 ca3 b4
  go_wp2_with fail
  refine (q4 W4 B4.out).mono ?_
  rintro e W5 ⟨v5, rfl, d5, b5⟩
  have B5 := Ke.b B4 b5
  have a5 := Ke.r a4 b5
  have ca5 := Ke.c a5
  have q5 := lock_spec W5 h v5 l d5.sd (by omega) (by omega) (fun n hn => by have := HA.out n hn; omega)
  rw [HX.out] at q5
  clear B4 a4 ca4 b5 d5
  go_wp2_with fail
  refine q5.mono ?_
  rintro e W6 ⟨rfl, b6⟩
  have B6 := Ke.b B5 b6
  have a6 := Ke.r a5 b6
  have ca6 := Ke.c a6
  clear q5 B5 a5 ca5 b6
  go_wp2_with fail
  refine (q4 W6 B6.out).mono ?_
  rintro e W7 ⟨v7, rfl, d7, b7⟩
  have B7 := Ke.b B6 b7
  have a7 := Ke.r a6 b7
  have ca7 := Ke.c a7
  have D7 : Hid (Sd W7 v7 l) := d7.sd
  clear B6 a6 ca6 b7 d7
  go_wp2_with fail
  refine (q3 W7).mono ?_
  rintro e W8 ⟨rfl, b8⟩
  have B8 := Ke.b B7 b8
  have D8 : Hid (Sd W8 v7 l) := D7.out.later b8
  clear B7 a7 ca7 b8 D7
  have q6 := iF W8 v7 B8.out D8.out hl2 HA.out hr2
  go_wp2_with fail
  refine q6.mono ?_
  rintro e W9 ⟨rfl, b9⟩
  have B9 := Ke.b B8 b9
  have D9 : Hid (Sd W9 v7 l) := D8.out.later b9
  have nx1 : (x.toList == x.toList) = true := by simp
  clear q6 B8 b9 D8 iF q3
  go_wp2_with fail
  refine (q4 W9 B9.out).mono ?_
  rintro e W10 ⟨v10, rfl, d10, b10⟩
  have B10 := Ke.b B9 b10
  have D10 : Hid (Sd W10 v7 l) := D9.out.later b10
  have q7 := eq_needs W10 v7 v10 l D10.out d10.sd (by omega)
  clear B9 b10 D9 d10
  go_wp2_with fail
  refine q7.mono ?_
  rintro e W11 ⟨rfl, b11⟩
  have B11 := Ke.b B10 b11
  clear q7 q4
  go_wp2
  go_ret
  exact ⟨rfl, B11.out⟩

end Go.Proofs.YtbopliahafkecaaDoor.Lm

/- Chapter 17, the landed code: a text's lines, and a lock read by them; plain facts. -/
namespace Go.Proofs.YtbopliahafkecaaDoor.Lm
open Go.RowKit Go.Proofs.YtbopliahafkecaaDoor.Mem Go.Proofs.YtbopliahafkecaaDoor.Laws Go.Proofs.YtbopliahafkecaaDoor.Bytes Go.Proofs.YtbopliahafkecaaDoor.Sha Go.Proofs.YtbopliahafkecaaDoor.Ver Go.Proofs.YtbopliahafkecaaDoor.Mod Go.Proofs.YtbopliahafkecaaDoor.Ent Go.Proofs.YtbopliahafkecaaDoor.He Go.Proofs.YtbopliahafkecaaDoor.Lk
set_option linter.unusedVariables false
set_option linter.unusedSimpArgs false

/-- the place of the first b, or -1; what stands before it and behind -/
def fst1 (b : Int) (t : ByteArray) : Option Nat := (sb t).findIdx? (fun c => c == b)

def at1 (b : Int) (t : ByteArray) : Int := match fst1 b t with
  | some i => (i : Int)
  | none => -1

def cut1 (b : Int) (t : ByteArray) : ByteArray × ByteArray := match fst1 b t with
  | some i => (t.extract 0 i, t.extract (i + 1) t.size)
  | none => (t, ⟨#[]⟩)

/-- does a text end with byte 10? -/
def end10 (t : ByteArray) : Bool := decide ((sb t).getLast? = some 10)

/-- a line without its end -/
def cut10 (t : ByteArray) : ByteArray := if end10 t = true then t.extract 0 (t.size - 1) else t

/-- the lines, without their ends -/
def ends (L : List ByteArray) : List ByteArray := if L.getLast? = some ⟨#[]⟩ then L.dropLast else L

def lines (s : ByteArray) : List ByteArray := ends (splitT 10 s)

theorem sb_ext (s : ByteArray) (f k : Nat) : sb (s.extract f k) = ((sb s).drop f).take (k - f) := by
  rw [ext_txt]
  exact sb_txtv (fun x hx => sb_byt s x (List.mem_of_mem_drop (List.mem_of_mem_take hx)))

theorem fst1_lt {b : Int} {s : ByteArray} {i : Nat} (h : fst1 b s = some i) : i < s.size := by
  have := (List.findIdx?_eq_some_iff_getElem.1 h).1
  rw [sb_len] at this
  exact this

theorem fst1_form {b : Int} {s : ByteArray} {i : Nat} (h : fst1 b s = some i) : sb s = (sb s).take i ++ [b] ++ (sb s).drop (i + 1) ∧ ∀ x ∈ (sb s).take i, x ≠ b := by
  obtain ⟨hi, h1, h2⟩ := List.findIdx?_eq_some_iff_getElem.1 h
  have h1' : (sb s)[i] = b := by simpa using h1
  refine ⟨?_, ?_⟩
  · rw [← h1', List.append_assoc]
    simp
  · intro x hx
    obtain ⟨j, hj, rfl⟩ := List.getElem_of_mem hx
    rw [List.getElem_take]
    have hj' : j < i := by rw [List.length_take] at hj; omega
    have := h2 j hj'
    simpa using this

theorem split_no {b : Int} {R : ByteArray} (h : fst1 b R = none) : splitT b R = [R] := by
  unfold splitT split
  rw [splitL_none b _ _ (fun x hx e => by have := List.findIdx?_eq_none_iff.1 h x hx; simp [e] at this)]
  simp [txt_sbv]

theorem split_yes {b : Int} {R : ByteArray} {i : Nat} (h : fst1 b R = some i) : splitT b R = R.extract 0 i :: splitT b (R.extract (i + 1) R.size) := by
  obtain ⟨e, hno⟩ := fst1_form h
  have e1 : sb (R.extract 0 i) = (sb R).take i := by rw [sb_ext]; simp
  have e2 : sb (R.extract (i + 1) R.size) = (sb R).drop (i + 1) := by
    rw [sb_ext, List.take_of_length_le (by rw [List.length_drop, sb_len]; omega)]
  unfold splitT split
  conv => lhs; rw [e]
  rw [splitL_app, splitL_none b ((sb R).take i) [] hno, e2]
  simp only [List.nil_append, List.map_append, List.map_cons, List.map_nil, List.singleton_append]
  rw [← e1, txt_sbv]

theorem lines_nil {R : ByteArray} (h : R.size = 0) : lines R = [] := by
  have : R = ⟨#[]⟩ := by
    rw [← txt_sbv R, List.eq_nil_of_length_eq_zero (by rw [sb_len]; exact h : (sb R).length = 0)]
    rfl
  subst this
  rfl

theorem lines_no {R : ByteArray} (h : fst1 10 R = none) (hp : 0 < R.size) : lines R = [R] := by
  unfold lines ends
  rw [split_no h, if_neg]
  intro h2
  simp at h2
  rw [h2] at hp
  exact Nat.lt_irrefl 0 hp

theorem ends_cons (x : ByteArray) {L : List ByteArray} (h : 0 < L.length) : ends (x :: L) = x :: ends L := by
  unfold ends
  cases L with
  | nil => simp at h
  | cons y r =>
    rw [List.getLast?_cons_cons]
    split
    · rfl
    · rfl

theorem lines_yes {R : ByteArray} {i : Nat} (h : fst1 10 R = some i) : lines R = R.extract 0 i :: lines (R.extract (i + 1) R.size) := by
  unfold lines
  rw [split_yes h, ends_cons]
  unfold splitT split
  rw [List.length_map]
  exact Ver.splitL_pos 10 _ []

theorem cut10_no {R : ByteArray} (h : fst1 10 R = none) : cut10 R = R := by
  unfold cut10 end10
  rw [if_neg]
  intro h2
  have h3 := of_decide_eq_true h2
  have h4 := List.mem_of_getLast? h3
  have := List.findIdx?_eq_none_iff.1 h _ h4
  simp at this

theorem end10_yes {R : ByteArray} {i : Nat} (h : fst1 10 R = some i) : end10 (R.extract 0 (i + 1)) = true := by
  have hi := fst1_lt h
  obtain ⟨hi2, h1, -⟩ := List.findIdx?_eq_some_iff_getElem.1 h
  have h1' : (sb R)[i] = 10 := by simpa using h1
  unfold end10
  apply decide_eq_true
  rw [sb_ext]
  simp only [List.drop_zero, Nat.sub_zero]
  rw [List.getLast?_eq_getElem?, List.length_take, List.getElem?_take]
  have hl := sb_len R
  rw [if_pos (by omega), Nat.min_eq_left (by omega)]
  show (sb R)[i + 1 - 1]? = some 10
  rw [Nat.add_sub_cancel, List.getElem?_eq_getElem hi2, h1']

theorem cut10_yes {R : ByteArray} {i : Nat} (h : fst1 10 R = some i) : cut10 (R.extract 0 (i + 1)) = R.extract 0 i := by
  have hi := fst1_lt h
  unfold cut10
  rw [if_pos (end10_yes h)]
  rw [ByteArray.size_extract, ByteArray.extract_extract]
  congr 1
  omega

theorem cut10_size (t : ByteArray) : (cut10 t).size ≤ t.size := by
  unfold cut10
  split
  · rw [ByteArray.size_extract]; omega
  · exact Nat.le_refl _

theorem cut1_size (b : Int) (t : ByteArray) : (cut1 b t).1.size ≤ t.size ∧ (cut1 b t).2.size ≤ t.size := by
  unfold cut1
  split
  · simp only [ByteArray.size_extract]; omega
  · exact ⟨Nat.le_refl _, Nat.zero_le _⟩

theorem cut1_at {b : Int} {x y : List Int} (hx : ∀ z ∈ x, z ≠ b) (h1 : Byt (x ++ [b] ++ y)) : cut1 b (Plain.txt (x ++ [b] ++ y)) = (Plain.txt x, Plain.txt y) := by
  have e : fst1 b (Plain.txt (x ++ [b] ++ y)) = some x.length := by
    unfold fst1
    rw [sb_txtv h1]
    refine List.findIdx?_eq_some_iff_getElem.2 ⟨by simp, by simp, fun j hj => ?_⟩
    have e : (x ++ [b] ++ y)[j]'(by simp; omega) = x[j] := by rw [List.getElem_append_left (by simp; omega), List.getElem_append_left hj]
    rw [e]
    have := hx _ (List.getElem_mem hj)
    simpa using this
  have hsz : (Plain.txt (x ++ [b] ++ y)).size = x.length + 1 + y.length := by rw [← sb_len, sb_txtv h1, List.length_append, List.length_append]; rfl
  unfold cut1
  rw [e]
  simp only
  rw [ext_txt, ext_txt, sb_txtv h1, hsz]
  refine Prod.ext ?_ ?_
  · simp only
    congr 1
    rw [List.append_assoc]
    simp
  · simp only
    congr 1
    have : (x ++ [b] ++ y).drop (x.length + 1) = y := by
      rw [show x.length + 1 = (x ++ [b]).length by simp, List.drop_left]
    rw [this, List.take_of_length_le (by omega)]

/-- does a text begin as a lock does? -/
def mark (t : ByteArray) : Bool := decide ((sb t).take 6 = [105, 110, 100, 101, 120, 32])

def behind (t : ByteArray) : ByteArray := if mark t = true then t.extract 6 t.size else t

theorem behind_size (t : ByteArray) : (behind t).size ≤ t.size := by
  unfold behind
  split
  · rw [ByteArray.size_extract]; omega
  · exact Nat.le_refl _

/-- what the first line is read as -/
def size1 (t : ByteArray) : Int × Bool := upTo (sb (cut1 32 (behind t)).1) 200

def root1 (t : ByteArray) : ByteArray × Bool := unHex (cut1 32 (behind t)).2

def rdHead (t : ByteArray) : Hd × Bool := (⟨(size1 t).1, (root1 t).1⟩, mark t && (size1 t).2 && (root1 t).2)

def named (r : List ByteArray) : Bool := r.all (fun t => (pname t).2)

/-- what the landed ParseLock answers -/
def parseI (s : ByteArray) : Hd × List Nd × Bool := match lines s with
  | [] => none17
  | t :: r => if (rdHead t).2 = true ∧ named r = true ∧ lock (rdHead t).1 (r.map need1) = s then ((rdHead t).1, r.map need1, true) else none17

theorem upTo_digF {n : Nat} (h : n ≤ 200) : upTo (digF 6 n) 200 = ((n : Int), true) := by
  have h1 := digF_num (n := n) (by omega)
  obtain ⟨h2, h3⟩ := num_upTo (digF 6 n)
  have hin : inM (number (digF 6 n)) = true := by
    rw [h1]
    unfold inM
    simp
    omega
  have h4 := h2.1 hin
  have h5 := h3 hin
  rw [h1] at h5
  have h6 : isNum (digF 6 n) = true ∧ numv (digF 6 n) = (n : Int) := by
    unfold upTo at h4 h5
    split at h4
    · rename_i hc
      rw [if_pos hc] at h5
      exact ⟨hc.1, h5.symm⟩
    · cases h4
  unfold upTo
  rw [if_pos ⟨h6.1, by omega⟩, h6.2]

theorem line0_form (h : Hd) : line0 h = [105, 110, 100, 101, 120, 32] ++ (digF 6 h.n.toNat ++ [32] ++ hexs (sb h.r)) := by
  unfold line0 word0
  rfl

theorem head_parts (d x : List Int) (hd : ∀ z ∈ d, z ≠ 32) (h : Byt ([105, 110, 100, 101, 120, 32] ++ (d ++ [32] ++ x))) :
    mark (Plain.txt ([105, 110, 100, 101, 120, 32] ++ (d ++ [32] ++ x))) = true ∧ cut1 32 (behind (Plain.txt ([105, 110, 100, 101, 120, 32] ++ (d ++ [32] ++ x)))) = (Plain.txt d, Plain.txt x) := by
  have hb : Byt (d ++ [32] ++ x) := fun z hz => h z (List.mem_append.2 (.inr hz))
  have hm : mark (Plain.txt ([105, 110, 100, 101, 120, 32] ++ (d ++ [32] ++ x))) = true := by
    unfold mark
    apply decide_eq_true
    rw [sb_txtv h]
    exact List.take_left' rfl
  refine ⟨hm, ?_⟩
  have hbh : behind (Plain.txt ([105, 110, 100, 101, 120, 32] ++ (d ++ [32] ++ x))) = Plain.txt (d ++ [32] ++ x) := by
    have hsz : (Plain.txt ([105, 110, 100, 101, 120, 32] ++ (d ++ [32] ++ x))).size = 6 + (d ++ [32] ++ x).length := by
      rw [← sb_len, sb_txtv h, List.length_append]
      rfl
    have h6 : ([105, 110, 100, 101, 120, 32] ++ (d ++ [32] ++ x)).drop 6 = d ++ [32] ++ x := List.drop_left' (l₁ := [105, 110, 100, 101, 120, 32]) rfl
    unfold behind
    rw [if_pos hm, ext_txt, sb_txtv h, hsz, h6, List.take_of_length_le (by omega)]
  rw [hbh]
  exact cut1_at hd hb

theorem rdHead_line0 {h : Hd} (hk : okH h = true) : rdHead (Plain.txt (line0 h)) = (h, true) := by
  have h1 : (0 ≤ h.n ∧ h.n ≤ 200) ∧ h.r.size = 32 := of_decide_eq_true hk
  have hb := line0_byt hk
  rw [line0_form] at hb
  obtain ⟨hm, hc⟩ := head_parts _ _ (digF_no (by omega) 32 (by omega)) hb
  have hs : upTo (sb (Plain.txt (digF 6 h.n.toNat))) 200 = (h.n, true) := by
    rw [sb_txtv (digF_byt 6 _ (by omega)), upTo_digF (by omega), Int.toNat_of_nonneg h1.1.1]
  have hr : unHex (Plain.txt (hexs (sb h.r))) = (h.r, true) := by
    rw [unHex_back (sb_byt _), txt_sbv]
  unfold rdHead size1 root1
  rw [line0_form, hc, hm]
  simp only
  rw [hs, hr]
  rfl

theorem lines_lock {h : Hd} {l : List Nd} (hk : lockOk h l = true) : lines (lock h l) = Plain.txt (line0 h) :: l.map name5 := by
  unfold lines ends
  rw [splitT_lock hk, ← List.cons_append, List.getLast?_concat, if_pos rfl, List.dropLast_concat]

theorem named_map {l : List Nd} (h : ∀ n ∈ l, n.ok = true) : named (l.map name5) = true := by
  unfold named
  rw [List.all_map, List.all_eq_true]
  intro n hn
  show (pname (name5 n)).2 = true
  rw [pname_name (h n hn)]

theorem map_need1 {l : List Nd} (h : ∀ n ∈ l, n.ok = true) : (l.map name5).map need1 = l := by
  rw [List.map_map]
  conv => rhs; rw [← List.map_id l]
  apply List.map_congr_left
  intro n hn
  show need1 (name5 n) = n
  unfold need1
  rw [pname_name (h n hn)]

/-- the landed code reads just what the specification does -/
theorem parseI_eq (s : ByteArray) : parseI s = parse s := by
  have hno : (parse s).2.2 = false → parse s = none17 := parse_no
  have hyes : ∀ h l, parse s = (h, l, true) → parseI s = (h, l, true) := by
    intro h l hp
    obtain ⟨h1, h2⟩ := (parse_iff s h l).1 hp
    have hk := lock_ok h1 h2
    obtain ⟨k1, k2, k3⟩ := lockOk_parts hk
    have hr := rise_ok l k3
    unfold parseI
    rw [← h1, lines_lock hk]
    simp only
    rw [rdHead_line0 k1, named_map hr, map_need1 hr, if_pos ⟨rfl, rfl, rfl⟩]
  cases hb : (parse s).2.2 with
  | true =>
    have e : parse s = ((parse s).1, (parse s).2.1, true) := by rw [← hb]
    rw [hyes _ _ e]
    exact e.symm
  | false =>
    rw [hno hb]
    unfold parseI
    cases hl : lines s with
    | nil => rfl
    | cons t r =>
      simp only
      rw [if_neg]
      rintro ⟨c1, c2, c3⟩
      have h0 : s ≠ ⟨#[]⟩ := by
        rintro rfl
        rw [lines_nil rfl] at hl
        cases hl
      have := (parse_iff s _ _).2 ⟨c3, h0⟩
      rw [this] at hb
      cases hb

theorem lines_sizes (s : ByteArray) : (lines s).length ≤ s.size + 1 ∧ ∀ t ∈ lines s, t.size ≤ s.size := by
  have h1 : ∀ t ∈ lines s, t ∈ splitT 10 s := by
    intro t ht
    unfold lines ends at ht
    split at ht
    · exact List.dropLast_subset _ ht
    · exact ht
  refine ⟨?_, fun t ht => splitT_size 10 s t (h1 t ht)⟩
  have h2 : (lines s).length ≤ (splitT 10 s).length := by
    unfold lines ends
    split
    · rw [List.length_dropLast]; omega
    · exact Nat.le_refl _
  have h3 := Ver.splitL_len 10 (sb s) []
  have h4 : (splitT 10 s).length ≤ s.size + 1 := by
    unfold splitT split
    rw [List.length_map, ← sb_len]
    exact h3
  omega

end Go.Proofs.YtbopliahafkecaaDoor.Lm

/- Chapter 17, the landed code: lines that keep the next one by a pointer; one is put behind the last. -/
namespace Go.Proofs.YtbopliahafkecaaDoor.Lm
open Go.RowKit Go.Proofs.YtbopliahafkecaaDoor.Mem Go.Proofs.YtbopliahafkecaaDoor.Laws Go.Proofs.YtbopliahafkecaaDoor.Bytes Go.Proofs.YtbopliahafkecaaDoor.Sha Go.Proofs.YtbopliahafkecaaDoor.Ver Go.Proofs.YtbopliahafkecaaDoor.Mod Go.Proofs.YtbopliahafkecaaDoor.Ent Go.Proofs.YtbopliahafkecaaDoor.He Go.Proofs.YtbopliahafkecaaDoor.Lk
set_option linter.unusedVariables false
set_option linter.unusedSimpArgs false

/-- a list's first line -/
def nx : List (Nat × ByteArray) → Value
  | [] => .pointer none
  | x :: _ => .pointer (some ⟨x.1, 0, none⟩)

/-- lines (block, text) lie one behind the other -/
def Lns (w : World) : List (Nat × ByteArray) → Prop
  | [] => True
  | x :: r => w.heap[x.1]? = some (.cells #[.string x.2, nx r] 51 (0, 0)) ∧ (∀ y ∈ r, x.1 < y.1) ∧ Lns w r

theorem Lns.lt {w : World} : ∀ {L : List (Nat × ByteArray)}, Lns w L → ∀ x ∈ L, x.1 < w.heap.size := by
  intro L
  induction L with
  | nil => intro _ x hx; cases hx
  | cons y r ih =>
    intro h x hx
    rcases List.mem_cons.1 hx with rfl | hx
    · exact (Array.getElem?_eq_some_iff.1 h.1).1
    · exact ih h.2.2 x hx

theorem Lns.keep {w w' : World} : ∀ {L : List (Nat × ByteArray)}, Lns w L → (∀ x ∈ L, w'.heap[x.1]? = w.heap[x.1]?) → Lns w' L := by
  intro L
  induction L with
  | nil => intro _ _; trivial
  | cons y r ih =>
    intro h hk
    exact ⟨(hk y (by simp)).trans h.1, h.2.1, ih h.2.2 (fun x hx => hk x (by simp [hx]))⟩

theorem Lns.later {w w' : World} {L : List (Nat × ByteArray)} (h : Lns w L) (b : Below w.heap.size w w') : Lns w' L :=
  h.keep (fun x hx => b.block x.1 (h.lt x hx))

/-- some row stands there that is no line -/
theorem Lns.gro {w w' : World} {L : List (Nat × ByteArray)} {r : Option Nat} (h : Lns w L) (g : w.grownBy w' r) (hr : ∀ x ∈ L, r ≠ some x.1) : Lns w' L :=
  h.keep (fun x hx => g.block x.1 (h.lt x hx) (fun e => hr x hx e.symm))

theorem Lns.row {w : World} : ∀ {L : List (Nat × ByteArray)}, Lns w L → ∀ x ∈ L, ∃ v, w.heap[x.1]? = some (.cells #[.string x.2, v] 51 (0, 0)) := by
  intro L
  induction L with
  | nil => intro _ x hx; cases hx
  | cons y r ih =>
    intro h x hx
    rcases List.mem_cons.1 hx with rfl | hx
    · exact ⟨_, h.1⟩
    · exact ih h.2.2 x hx

/-- the row of another type is no line's -/
theorem Lns.ne {w : World} {L : List (Nat × ByteArray)} {g : Nat} {cs : Array Value} {t : TypeId} {fr : Nat × Nat} (h : Lns w L) (hg : w.heap[g]? = some (.cells cs t fr)) (ht : t ≠ 51) : ∀ x ∈ L, g ≠ x.1 := by
  intro x hx e
  obtain ⟨v, hv⟩ := h.row x hx
  rw [← e, hg] at hv
  simp only [Option.some.injEq, Obj.cells.injEq] at hv
  exact ht hv.2.1

theorem nx_app : ∀ (L : List (Nat × ByteArray)) (x : Nat × ByteArray), ∀ M, nx (L ++ x :: M) = nx (L ++ [x]) := by
  intro L x M
  cases L <;> rfl

/-- a line is put behind the last one -/
theorem Lns.snoc {w w' : World} {b g : Nat} {t s : ByteArray} : ∀ {L : List (Nat × ByteArray)}, Lns w (L ++ [(b, t)]) → w'.heap[b]? = some (.cells #[.string t, .pointer (some ⟨g, 0, none⟩)] 51 (0, 0)) →
    w'.heap[g]? = some (.cells #[.string s, .pointer none] 51 (0, 0)) → w.heap.size ≤ g → w.grownBy w' (some b) → Lns w' (L ++ [(b, t)] ++ [(g, s)]) := by
  intro L
  induction L with
  | nil =>
    intro h hb hg hs gr
    refine ⟨hb, ?_, hg, by intro y hy; simp at hy, trivial⟩
    intro y hy
    simp at hy
    subst hy
    have := Lns.lt h (b, t) (by simp)
    show b < g
    simp only at this
    omega
  | cons y r ih =>
    intro h hb hg hs gr
    have hlt := Lns.lt h
    have hne : y.1 < b := h.2.1 (b, t) (by simp)
    refine ⟨?_, ?_, ih h.2.2 hb hg hs gr⟩
    · rw [gr.block y.1 (hlt y (by simp)) (fun e => by injection e with e; omega), h.1]
      show some (Obj.cells #[.string y.2, nx (r ++ [(b, t)])] _ _) = some (Obj.cells #[.string y.2, nx (r ++ [(b, t)] ++ [(g, s)])] _ _)
      rw [List.append_assoc]
      show some (Obj.cells #[.string y.2, nx (r ++ [(b, t)])] _ _) = some (Obj.cells #[.string y.2, nx (r ++ (b, t) :: [(g, s)])] _ _)
      rw [nx_app r (b, t) [(g, s)]]
    · intro z hz
      have hz2 : z ∈ r ++ [(b, t)] ∨ z = (g, s) := by
        simp only [List.append_eq, List.mem_append, List.mem_singleton] at hz ⊢
        rcases hz with hz | hz
        · exact .inl (by simpa using hz)
        · exact .inr hz
      rcases hz2 with hz2 | rfl
      · exact h.2.1 z hz2
      · have := hlt y (by simp)
        show y.1 < g
        omega

set_option maxRecDepth 1000000 in
set_option maxHeartbeats 2000000 in
theorem add_impl (w : World) (b : Nat) (t s : ByteArray) (q : Value) (h : w.heap[b]? = some (.cells #[.string t, q] 51 (0, 0))) :
    Calls Tryd.prog 22 #[.pointer (some ⟨b, 0, none⟩), .string s] w fun e w' => ∃ g, e = .returned (.pointer (some ⟨g, 0, none⟩)) ∧ w.heap.size ≤ g ∧ w'.heap[b]? = some (.cells #[.string t, .pointer (some ⟨g, 0, none⟩)] 51 (0, 0)) ∧ w'.heap[g]? = some (.cells #[.string s, .pointer none] 51 (0, 0)) ∧ w.grownBy w' (some b) := by
  obtain ⟨W1, HW1, b1, y1, hS1, r1⟩ := Ke.l1 w #[.string s, .pointer none] 51
  have hb : b < w.heap.size := (Array.getElem?_eq_some_iff.1 h).1
  have rb : Hid (W1.heap[b]? = some (.cells #[.string t, q] 51 (0, 0))) := rowKeep h b1
  have HS : Hid (w.grownBy W1 none) := ⟨b1.os, b1.tape, b1.output, b1.size, fun k hk _ => b1.block k hk⟩
  clear h b1 hS1
  go_enter Tryd.func22, Tryd.ntmps22
  go_wp2_with (rw [HW1.out]; refine wpl_oneG rfl 49 _ _ rfl b 1 (.pointer (some ⟨w.heap.size, 0, none⟩)) rfl rfl [.string t, q] 51 rb.out (Nat.le_of_ble_eq_true rfl) rfl rfl [.string t, .pointer (some ⟨w.heap.size, 0, none⟩)] rfl ?_)
  intro W2 rb2 gr
  have RB2 : Hid (W2.heap[b]? = some (.cells #[.string t, .pointer (some ⟨w.heap.size, 0, none⟩)] 51 (0, 0))) := rb2
  have c2 := Ke.c RB2
  have RG : Hid (W2.heap[w.heap.size]? = some (.cells #[.string s, .pointer none] 51 (0, 0))) := Ke.s r1 gr
  have GR : Hid (w.grownBy W2 (some b)) := ⟨gr.os.trans HS.out.os, gr.tape.trans HS.out.tape, gr.output.trans HS.out.output, Nat.le_trans HS.out.size gr.size, fun k hk hn => (gr.block k (Nat.lt_of_lt_of_le hk HS.out.size) hn).trans (HS.out.block k hk (by simp))⟩
  clear rb rb2 gr HS HW1 r1
  go_wp2
  go_ret
  exact ⟨_, rfl, Nat.le_refl _, RB2.out, RG.out, GR.out⟩

end Go.Proofs.YtbopliahafkecaaDoor.Lm
