/- Texts in one: Open5, Fg5, Draw, Draw3, Draw4, Draw5, Mod7, Mod8, EntD. -/
import Derived.Test.YtlhmemnaiobgkabGreatDoorPk16
import Derived.Test.YtlhmemnaiobgkabGreatDoorPk10
import Derived.Test.YtlhmemnaiobgkabGreatDoorProg
import Derived.Test.YtlhmemnaiobgkabGreatDoorPk15
import Derived.Test.YtlhmemnaiobgkabGreatDoorPk2
import Derived.Test.YtlhmemnaiobgkabGreatDoorPk3
import Derived.Test.YtlhmemnaiobgkabGreatDoorPk12
import Derived.Test.YtlhmemnaiobgkabGreatDoorPk14
import Derived.ChangeSame
import Derived.Deep.RegionWith
import Derived.Deep.QuietTactic
/- What came in, read as versions, needs and entries. -/
namespace Go.Proofs.YtlhmemnaiobgkabGreatDoor.Open
open Go.RowKit Go.ChangeShapes Go.WideShapes Go.ChangeAt Go.Deep Go.Joins Go.Proofs.YtlhmemnaiobgkabGreatDoor.Mem Go.Proofs.YtlhmemnaiobgkabGreatDoor.Ent
set_option linter.unusedVariables false
set_option linter.unusedSimpArgs false

/-- a need whose numbers and texts are such as Go can hold -/
def Okn (n : Nd) : Prop := ((Lit.int .i64 n.a).wf = true ∧ (Lit.int .i64 n.b).wf = true ∧ (Lit.int .i64 n.c).wf = true) ∧ n.path.size ≤ maxLen ∧ n.pre.size ≤ maxLen

section
variable {H : Type} {enc : TypeId × Value → H} {w : World} {base : Nat} {spare : Nat → Bool} {held : Bool}

set_option maxRecDepth 1000000 in
theorem cells_ver : Tryz.prog.cellsOf 39 = 4 := by kernel_rfl

set_option maxRecDepth 1000000 in
theorem read_ver {fuel : Nat} {cs : List Value} {y : DataW H × List MemPlace} (h : DataW.trod enc Tryz.prog w base spare held fuel 39 cs = some y) :
    ∃ (a b c : Int) (p : ByteArray), cs = [.int .i64 a, .int .i64 b, .int .i64 c, .string p] ∧ (Lit.int .i64 a).wf = true ∧ (Lit.int .i64 b).wf = true ∧ (Lit.int .i64 c).wf = true ∧ p.size ≤ maxLen := by
  obtain ⟨y0, y1, y2, y3, n, _, hl, h0, h1, h2, h3⟩ := trod_struct4 Tryz.underlying39 h
  rw [cells_ver] at hl
  match cs, hl with
  | [c0, c1, c2, c3], _ =>
    have k3 : Tryz.prog.cellsOf 3 = 1 := by kernel_rfl
    have k9 : Tryz.prog.cellsOf 9 = 1 := by kernel_rfl
    simp only [k3, k9, List.drop_zero, List.drop_succ_cons, List.take_succ_cons, List.take_zero] at h0 h1 h2 h3
    obtain ⟨a, e0, _, wa⟩ := DataW.trod_int Tryz.underlying3 h0
    obtain ⟨b, e1, _, wb⟩ := DataW.trod_int Tryz.underlying3 h1
    obtain ⟨c, e2, _, wc⟩ := DataW.trod_int Tryz.underlying3 h2
    obtain ⟨p, e3, _, wp⟩ := DataW.trod_string Tryz.underlying9 h3
    simp only [List.cons.injEq, and_true] at e0 e1 e2 e3
    subst e0 e1 e2 e3
    exact ⟨a, b, c, p, rfl, wa, wb, wc, wp⟩

set_option maxRecDepth 1000000 in
theorem cells_need : Tryz.prog.cellsOf 44 = 5 := by kernel_rfl

set_option maxRecDepth 1000000 in
theorem read_need {fuel : Nat} {cs : List Value} {y : DataW H × List MemPlace} (h : DataW.trod enc Tryz.prog w base spare held fuel 44 cs = some y) :
    ∃ n : Nd, cs = n.cs ∧ Okn n := by
  obtain ⟨y0, y1, n, _, hl, h0, h1⟩ := trod_struct2 Tryz.underlying44 h
  rw [cells_need] at hl
  match cs, hl with
  | [c0, c1, c2, c3, c4], _ =>
    have k9 : Tryz.prog.cellsOf 9 = 1 := by kernel_rfl
    simp only [k9, cells_ver, List.drop_zero, List.drop_succ_cons, List.take_succ_cons, List.take_zero] at h0 h1
    obtain ⟨p, e0, _, wp⟩ := DataW.trod_string Tryz.underlying9 h0
    obtain ⟨a, b, c, q, e1, wa, wb, wc, wq⟩ := read_ver h1
    simp only [List.cons.injEq, and_true] at e0 e1
    obtain ⟨rfl, rfl, rfl, rfl⟩ := e1
    subst e0
    exact ⟨⟨p, a, b, c, q⟩, rfl, ⟨wa, wb, wc⟩, wp, wq⟩

theorem flat_nds : ∀ l : List Nd, (l.map Nd.cs).flatten = nds l := by
  intro l
  induction l with
  | nil => rfl
  | cons n r ih => rw [List.map_cons, List.flatten_cons, ih]; rfl

theorem rows_nds : ∀ R : List (List Value), (∀ r ∈ R, ∃ n : Nd, r = n.cs ∧ Okn n) → ∃ l : List Nd, R = l.map Nd.cs ∧ ∀ n ∈ l, Okn n := by
  intro R
  induction R with
  | nil => intro _; exact ⟨[], rfl, fun n hn => (by cases hn)⟩
  | cons r R ih =>
    intro h
    obtain ⟨n, rfl, hn⟩ := h r (by simp)
    obtain ⟨l, rfl, hl⟩ := ih (fun x hx => h x (by simp [hx]))
    exact ⟨n :: l, rfl, fun x hx => by rcases List.mem_cons.1 hx with rfl | hx; exact hn; exact hl x hx⟩

set_option maxRecDepth 1000000 in
theorem read_needs {fuel : Nat} {cs : List Value} {y : DataW H × List MemPlace} (h : DataW.trod enc Tryz.prog w base spare held fuel 23 cs = some y) :
    ∃ (ao : Option Addr) (m cap : Nat) (l : List Nd), cs = [.slice ao m cap] ∧ l.length = m ∧ l.length ≤ maxLen ∧ (∀ n ∈ l, Okn n) ∧ Sd w (.slice ao m cap) l := by
  obtain ⟨ao, m, cap, R, rfl, hm, hR, hr, hs⟩ := rows Tryz.underlying23 cells_need (by omega) h
  obtain ⟨l, rfl, hl⟩ := rows_nds R (fun r hr' => by
    obtain ⟨_, k, y, hy⟩ := hr r hr'
    exact read_need hy)
  rw [flat_nds] at hs
  rw [List.length_map] at hR
  subst hR
  exact ⟨ao, l.length, cap, l, rfl, rfl, hm, hl, hs⟩

set_option maxRecDepth 1000000 in
theorem cells_entry : Tryz.prog.cellsOf 41 = 6 := by kernel_rfl

set_option maxRecDepth 1000000 in
theorem read_entry {fuel : Nat} {cs : List Value} {y : DataW H × List MemPlace} (h : DataW.trod enc Tryz.prog w base spare held fuel 41 cs = some y) :
    ∃ (n : Nd) (ao : Option Addr) (m cap : Nat) (l : List Nd), cs = [.string n.path, .int .i64 n.a, .int .i64 n.b, .int .i64 n.c, .string n.pre, .slice ao m cap] ∧ Okn n ∧ l.length = m ∧ l.length ≤ maxLen ∧ (∀ n ∈ l, Okn n) ∧ Sd w (.slice ao m cap) l := by
  obtain ⟨y0, y1, y2, n, _, hl, h0, h1, h2⟩ := trod_struct3 Tryz.underlying41 h
  rw [cells_entry] at hl
  match cs, hl with
  | [c0, c1, c2, c3, c4, c5], _ =>
    have k9 : Tryz.prog.cellsOf 9 = 1 := by kernel_rfl
    have ks : Tryz.prog.cellsOf 23 = 1 := by kernel_rfl
    simp only [k9, ks, cells_ver, List.drop_zero, List.drop_succ_cons, List.take_succ_cons, List.take_zero] at h0 h1 h2
    obtain ⟨p, e0, _, wp⟩ := DataW.trod_string Tryz.underlying9 h0
    obtain ⟨a, b, c, q, e1, wa, wb, wc, wq⟩ := read_ver h1
    obtain ⟨ao, m, cap, l, e2, hm, hm2, hl2, hs⟩ := read_needs h2
    simp only [List.cons.injEq, and_true] at e0 e1 e2
    obtain ⟨rfl, rfl, rfl, rfl⟩ := e1
    subst e0 e2
    exact ⟨⟨p, a, b, c, q⟩, ao, m, cap, l, rfl, ⟨⟨wa, wb, wc⟩, wp, wq⟩, hm, hm2, hl2, hs⟩

end

end Go.Proofs.YtlhmemnaiobgkabGreatDoor.Open

/- Chapter 15: the exact laws of VersionsOf and Lacking, over contracts of the landed functions. -/
namespace Go.Proofs.YtlhmemnaiobgkabGreatDoor.Fe
open Go.RowKit Go.Proofs.YtlhmemnaiobgkabGreatDoor.Mem Go.Proofs.YtlhmemnaiobgkabGreatDoor.Laws Go.Proofs.YtlhmemnaiobgkabGreatDoor.Ver Go.Proofs.YtlhmemnaiobgkabGreatDoor.Ent Go.Proofs.YtlhmemnaiobgkabGreatDoor.Strs
set_option linter.unusedVariables false
set_option linter.unusedSimpArgs false

theorem Od.later {w w' : World} {lo hi B : Nat} {v : Value} {l : List Nd} (h : Od w lo hi v l) (b : Below B w w') (hB : hi ≤ B) : Od w' lo hi v l := On.later h b hB

theorem Od.apart {w w' : World} {lo hi l2 h2 : Nat} {v : Value} {l : List Nd} (h : Od w lo hi v l) (a : Apart l2 h2 w w') (hd : hi ≤ l2 ∨ h2 ≤ lo) (hs : hi ≤ w.heap.size) : Od w' lo hi v l := On.apart h a hd hs

theorem Ow.later {w w' : World} {lo hi B : Nat} {v : Value} {l : List Nd} (h : Ow w lo hi v l) (b : Below B w w') (hB : hi ≤ B) : Ow w' lo hi v l := On.later h b hB

theorem Ow.apart {w w' : World} {lo hi l2 h2 : Nat} {v : Value} {l : List Nd} (h : Ow w lo hi v l) (a : Apart l2 h2 w w') (hd : hi ≤ l2 ∨ h2 ≤ lo) (hs : hi ≤ w.heap.size) : Ow w' lo hi v l := On.apart h a hd hs

theorem vers_len (p : ByteArray) (l : List Nd) : (vers15 p l).length ≤ l.length := List.length_filter_le _ _

theorem lack_len (l s : List Nd) : (lack15 l s).length ≤ s.length := List.length_filter_le _ _

/-- an entry that the laws let in -/
def Fit2 (x : Ev) : Prop := Fit 1048576 x ∧ x.l.length ≤ 1048576

theorem Fit2.alk {l T : List Ev} (h : ∀ x ∈ l, Fit2 x) (a : Alk l T) : ∀ y ∈ T, Fit2 y :=
  Alk.all (p := fun n s => (n.path.size ≤ 1048576 ∧ n.pre.size ≤ 1048576 ∧ ∀ m ∈ s, m.path.size ≤ 1048576 ∧ m.pre.size ≤ 1048576) ∧ s.length ≤ 1048576) a h

/-- an entry whose numbers and texts are such as Go can hold -/
def Oke (x : Ev) : Prop := Open.Okn x.n ∧ x.l.length ≤ maxLen ∧ ∀ n ∈ x.l, Open.Okn n

theorem Oke.big {x : Ev} (h : Oke x) : Big x := by
  obtain ⟨h1, h2, h3⟩ := h
  refine ⟨h1.2.1, h1.2.2, fun n hn => ⟨(h3 n hn).2.1, (h3 n hn).2.2⟩, h2⟩

end Go.Proofs.YtlhmemnaiobgkabGreatDoor.Fe

/- Contracts of the specification's draws: what is drawn is some number within its bounds, some bytes, some texts of a list; the cursor alone is written. -/
namespace Go.Proofs.YtlhmemnaiobgkabGreatDoor.Draw
open Go.RowKit Go.Proofs.YtlhmemnaiobgkabGreatDoor.Mem Go.Proofs.YtlhmemnaiobgkabGreatDoor.Laws Go.Proofs.YtlhmemnaiobgkabGreatDoor.Bytes
set_option linter.unusedVariables false

theorem Apart.put {a w : World} {g : Nat} (h : Apart g (g + 1) a w) (j : Nat) (u : Value) : Apart g (g + 1) a (w.setCell ⟨g, j, none⟩ u) :=
  Apart.setCell (p := ⟨g, j, none⟩) h (Nat.le_refl g) (Nat.lt_succ_self g) u

theorem info9 : (Tryz.prog.info? 9).map (fun i => (i.zero, i.size, i.bytes)) = some (some (.string ⟨#[]⟩), 1, 16) := by kernel_rfl

theorem and255 (x : Int) : 0 ≤ bits .and .i64 x 255 ∧ bits .and .i64 x 255 ≤ 255 := by
  have h : ∀ a : BitVec 64, (a &&& (255#64)).toNat ≤ 255 := fun a => by rw [BitVec.toNat_and]; exact Nat.and_le_right
  have e : bits .and .i64 x 255 = IntKind.i64.wrap ((BitVec.ofInt 64 x &&& 255#64).toNat : Int) := rfl
  rw [e]
  have hb := h (BitVec.ofInt 64 x)
  rw [IntKind.wrap_i64]
  omega

/-- ints as cells -/
def is (xs : List Int) : List Value := xs.map (Value.int .i64)

theorem is_len (xs : List Int) : (is xs).length = xs.length := by simp [is]

theorem one_byte (x : Int) : ∀ u ∈ [Value.int .u8 x], u.oneCell' = true := by
  intro u hu
  rw [List.mem_singleton] at hu
  rw [hu]
  rfl

theorem one_str (s : ByteArray) : ∀ u ∈ [Value.string s], u.oneCell' = true := by
  intro u hu
  rw [List.mem_singleton] at hu
  rw [hu]
  rfl

theorem Own.emptyB (w : World) (lo : Nat) (h : lo ≤ w.heap.size) : Own (w.alloc (.cells #[] 5)) lo (w.alloc (.cells #[] 5)).heap.size 5 (.slice (some ⟨w.heap.size, 0, none⟩) 0 0) (bs []) :=
  Own.of (World.ownsRow_lit w #[] 0 h (Nat.zero_le _) rfl)

theorem Own.emptyS (w : World) (lo : Nat) (h : lo ≤ w.heap.size) : Own (w.alloc (.cells #[] 9)) lo (w.alloc (.cells #[] 9)).heap.size 9 (.slice (some ⟨w.heap.size, 0, none⟩) 0 0) (ss []) :=
  Own.of (World.ownsRow_lit w #[] 0 h (Nat.zero_le _) rfl)

theorem lit_block (w : World) (cs : Array Value) (t : TypeId) : (w.alloc (.cells cs t)).heap[w.heap.size]? = some (.cells cs t (0, 0)) := heap_alloc_new w _

theorem mask30 (x : Int) : 0 ≤ bits .and .i64 x 1073741823 ∧ bits .and .i64 x 1073741823 ≤ 1073741823 := by
  have h : ∀ a : BitVec 64, (a &&& (1073741823#64)).toNat ≤ 1073741823 := fun a => by rw [BitVec.toNat_and]; exact Nat.and_le_right
  have e : bits .and .i64 x 1073741823 = IntKind.i64.wrap ((BitVec.ofInt 64 x &&& 1073741823#64).toNat : Int) := rfl
  rw [e]
  have hb := h (BitVec.ofInt 64 x)
  rw [IntKind.wrap_i64]
  omega

/-- the texts that l1Texts draws of -/
def five : List ByteArray := [⟨#[]⟩, ⟨#[97]⟩, ⟨#[98, 99]⟩, ⟨#[0, 255]⟩, ⟨#[115, 111, 109, 101, 32, 109, 111, 114, 101, 32, 98, 121, 116, 101, 115]⟩]

theorem five_size : ∀ s ∈ five, s.size ≤ 15 := by decide

end Go.Proofs.YtlhmemnaiobgkabGreatDoor.Draw

/- Chapter 3's draws: a right version; three; whatever version. -/
namespace Go.Proofs.YtlhmemnaiobgkabGreatDoor.Ver
open Go.RowKit Go.Proofs.YtlhmemnaiobgkabGreatDoor.Mem Go.Proofs.YtlhmemnaiobgkabGreatDoor.Laws Go.Proofs.YtlhmemnaiobgkabGreatDoor.Bytes Go.Proofs.YtlhmemnaiobgkabGreatDoor.Sha Go.Proofs.YtlhmemnaiobgkabGreatDoor.Draw
set_option linter.unusedVariables false
set_option linter.unusedSimpArgs false

/-- what may stand behind a drawn version -/
def preL : List ByteArray := [⟨#[]⟩, ⟨#[]⟩, ⟨#[]⟩, ⟨#[114, 99, 46, 49]⟩, ⟨#[97, 108, 112, 104, 97]⟩, ⟨#[114, 99, 46, 50]⟩, ⟨#[49]⟩, ⟨#[50, 46, 120]⟩, ⟨#[98, 101, 116, 97, 45, 49]⟩, ⟨#[114, 99]⟩]

theorem preL_size : ∀ s ∈ preL, s.size ≤ 8 := by decide

/-- a drawn version -/
def Dv (a b c : Int) (p : ByteArray) : Prop := (0 ≤ a ∧ a ≤ 2) ∧ (0 ≤ b ∧ b < 4) ∧ (0 ≤ c ∧ c < 3) ∧ p ∈ preL

theorem Vr.apart {w w' : World} {g q : Nat} {a b c : Int} {p : ByteArray} (h : Vr w q a b c p) (ha : Apart g (g + 1) w w') (hne : q ≠ g) : Vr w' q a b c p := (ha.block q h.lt (by omega)).trans h

theorem info3v : (Tryz.prog.info? 3).map (fun i => (i.zero, i.size, i.bytes)) = some (some (.int .i64 0), 1, 8) := by kernel_rfl

end Go.Proofs.YtlhmemnaiobgkabGreatDoor.Ver

/- Chapter 3's draws: three right versions. -/
namespace Go.Proofs.YtlhmemnaiobgkabGreatDoor.Ver
open Go.RowKit Go.Proofs.YtlhmemnaiobgkabGreatDoor.Mem Go.Proofs.YtlhmemnaiobgkabGreatDoor.Laws Go.Proofs.YtlhmemnaiobgkabGreatDoor.Bytes Go.Proofs.YtlhmemnaiobgkabGreatDoor.Sha Go.Proofs.YtlhmemnaiobgkabGreatDoor.Draw
set_option linter.unusedVariables false
set_option linter.unusedSimpArgs false

theorem size3 (w : World) (A B C : Obj) : (((w.alloc A).alloc B).alloc C).heap.size = w.heap.size + 1 + 1 + 1 := by
  show (((w.heap.push A).push B).push C).size = _
  simp

theorem below3 (w : World) (A B C : Obj) : Below w.heap.size w (((w.alloc A).alloc B).alloc C) := (((Below.refl _ _).alloc (Nat.le_refl _) _).alloc (by simp) _).alloc (by simp; omega) _

theorem last3 (w : World) (A B C : Obj) : (((w.alloc A).alloc B).alloc C).heap[w.heap.size + 1 + 1]? = some C := by
  have h := heap_alloc_new ((w.alloc A).alloc B) C
  have e : ((w.alloc A).alloc B).heap.size = w.heap.size + 1 + 1 := by
    show ((w.heap.push A).push B).size = _
    simp
  rw [e] at h
  exact h

theorem mid3 (w : World) (A B C : Obj) : (((w.alloc A).alloc B).alloc C).heap[w.heap.size + 1]? = some B := by
  rw [heap_alloc_old ((w.alloc A).alloc B) C (show w.heap.size + 1 < ((w.alloc A).alloc B).heap.size by show _ < ((w.heap.push A).push B).size; simp)]
  exact heap_alloc2_new w A B

theorem first3 (w : World) (A B C : Obj) : (((w.alloc A).alloc B).alloc C).heap[w.heap.size]? = some A := by
  rw [heap_alloc_old ((w.alloc A).alloc B) C (show w.heap.size < ((w.alloc A).alloc B).heap.size by show _ < ((w.heap.push A).push B).size; simp; omega)]
  exact heap_alloc2_old w A B

def put4 (w : World) (g : Nat) (a b c : Int) (p : ByteArray) : World := (put3 w g a b c).setCell ⟨g, 3, none⟩ (.string p)

theorem put4_row {w : World} {g : Nat} {a b c : Int} {p : ByteArray} (h : Vr w g a b c p) (a' b' c' : Int) (p' : ByteArray) : Vr (put4 w g a' b' c' p') g a' b' c' p' := Vr.cellSet (put3_row h a' b' c') 3 _

theorem put4_other {w : World} {g g' : Nat} {a b c : Int} {p : ByteArray} (h : Vr w g a b c p) (hg : g ≠ g') (a' b' c' : Int) (p' : ByteArray) : Vr (put4 w g' a' b' c' p') g a b c p := by
  unfold Vr put4
  rw [Below.heap_setCell _ _ _ _ (by exact hg)]
  exact put3_other h hg a' b' c'

theorem put4_below {B : Nat} {w0 w : World} {g : Nat} (hb : Below B w0 w) (hg : B ≤ g) (a b c : Int) (p : ByteArray) : Below B w0 (put4 w g a b c p) := (put3_below hb hg a b c).setCell (p := ⟨g, 3, none⟩) hg _

theorem results_rows3 {P : Program} {fn : Func} {p q r : Tmp} {ty : TypeId} (h : fn.results = #[.cell p ty, .cell q ty, .cell r ty]) (tmps : Array Value) (w : World) (g1 g2 g3 : Nat) (t : TypeId) (c1 c2 c3 : Array Value) (d : TypeDesc)
    (hp : tmps.getD p undef = .pointer (some ⟨g1, 0, none⟩)) (hq : tmps.getD q undef = .pointer (some ⟨g2, 0, none⟩)) (hr : tmps.getD r undef = .pointer (some ⟨g3, 0, none⟩))
    (h1 : w.heap[g1]? = some (.cells c1 t (0, 0))) (h2 : w.heap[g2]? = some (.cells c2 t (0, 0))) (h3 : w.heap[g3]? = some (.cells c3 t (0, 0)))
    (hu : P.underlying ty = some d) (hd : (match d with | .struct _ | .array _ _ => true | _ => false) = true) (i1 : (P.info? ty).map (·.size) = some c1.size) (i2 : (P.info? ty).map (·.size) = some c2.size) (i3 : (P.info? ty).map (·.size) = some c3.size) :
    (results fn tmps).run P w = .ok (.tuple #[.agg c1, .agg c2, .agg c3]) w := by
  have hp' : tmps[p]?.getD undef = .pointer (some ⟨g1, 0, none⟩) := by simpa using hp
  have hq' : tmps[q]?.getD undef = .pointer (some ⟨g2, 0, none⟩) := by simpa using hq
  have hr' : tmps[r]?.getD undef = .pointer (some ⟨g3, 0, none⟩) := by simpa using hr
  simp [results, h, hp', hq', hr', asAddr, run_loadVar_row w g1 t ty c1 (0, 0) d h1 hu hd i1, run_loadVar_row w g2 t ty c2 (0, 0) d h2 hu hd i2, run_loadVar_row w g3 t ty c3 (0, 0) d h3 hu hd i3]

theorem Vr.drew {w : World} {g : Nat} {a b c : Int} {p : ByteArray} (h : Vr w g a b c p) : Vr w.drew g a b c p := h

theorem Vr.setOther {w : World} {g q : Nat} {a b c : Int} {p : ByteArray} (h : Vr w q a b c p) (hne : q ≠ g) (i : Nat) (v : Value) : Vr (w.setCell ⟨g, i, none⟩ v) q a b c p := by
  unfold Vr
  rw [Below.heap_setCell _ _ _ _ (by exact hne)]
  exact h

theorem Vr.set0 {w : World} {g : Nat} {a b c : Int} {p : ByteArray} (h : Vr w g a b c p) (a' : Int) : Vr (w.setCell ⟨g, 0, none⟩ (.int .i64 a')) g a' b c p := Vr.cellSet h 0 _

theorem Vr.set1 {w : World} {g : Nat} {a b c : Int} {p : ByteArray} (h : Vr w g a b c p) (b' : Int) : Vr (w.setCell ⟨g, 1, none⟩ (.int .i64 b')) g a b' c p := Vr.cellSet h 1 _

theorem Vr.rowOther {w : World} {g q : Nat} {a b c : Int} {p : ByteArray} (h : Vr w q a b c p) (hne : q ≠ g) (cs : Array Value) : Vr (w.setRow g cs) q a b c p := by
  unfold Vr
  rw [setRow_other w g q cs hne]
  exact h

end Go.Proofs.YtlhmemnaiobgkabGreatDoor.Ver

/- Chapter 3's draws: whatever version. -/
namespace Go.Proofs.YtlhmemnaiobgkabGreatDoor.Ver
open Go.RowKit Go.Proofs.YtlhmemnaiobgkabGreatDoor.Mem Go.Proofs.YtlhmemnaiobgkabGreatDoor.Laws Go.Proofs.YtlhmemnaiobgkabGreatDoor.Bytes Go.Proofs.YtlhmemnaiobgkabGreatDoor.Sha Go.Proofs.YtlhmemnaiobgkabGreatDoor.Draw
set_option linter.unusedVariables false
set_option linter.unusedSimpArgs false

/-- what else may stand behind a drawn version -/
def oddL : List ByteArray := [⟨#[46]⟩, ⟨#[48, 49]⟩, ⟨#[97, 46, 46, 98]⟩, ⟨#[97, 46, 98, 46, 99, 46, 100]⟩, ⟨#[97, 46, 98, 46, 99, 46, 100, 46, 101]⟩, ⟨#[110, 105, 110, 101, 98, 121, 116, 101, 115]⟩, ⟨#[195, 169]⟩, ⟨#[48]⟩, ⟨#[97, 95, 98]⟩]

theorem oddL_size : ∀ s ∈ oddL, s.size ≤ 9 := by decide

/-- a drawn version of any kind -/
def Av (a b c : Int) (p : ByteArray) : Prop := (-1 ≤ a ∧ a ≤ 1000001) ∧ (0 ≤ b ∧ b < 4) ∧ (-1 ≤ c ∧ c ≤ 1000001) ∧ p.size ≤ 9

theorem Dv.any {a b c : Int} {p : ByteArray} (h : Dv a b c p) : Av a b c p := by
  obtain ⟨h1, h2, h3, h4⟩ := h
  have := preL_size p h4
  exact ⟨by omega, h2, by omega, by omega⟩

theorem Vr.set2 {w : World} {g : Nat} {a b c : Int} {p : ByteArray} (h : Vr w g a b c p) (c' : Int) : Vr (w.setCell ⟨g, 2, none⟩ (.int .i64 c')) g a b c' p := Vr.cellSet h 2 _

theorem Vr.set3 {w : World} {g : Nat} {a b c : Int} {p : ByteArray} (h : Vr w g a b c p) (p' : ByteArray) : Vr (w.setCell ⟨g, 3, none⟩ (.string p')) g a b c p' := Vr.cellSet h 3 _

end Go.Proofs.YtlhmemnaiobgkabGreatDoor.Ver

/- Chapter 4's draws: a path; whatever path; a path and a version. -/
namespace Go.Proofs.YtlhmemnaiobgkabGreatDoor.Mod
open Go.RowKit Go.Proofs.YtlhmemnaiobgkabGreatDoor.Mem Go.Proofs.YtlhmemnaiobgkabGreatDoor.Laws Go.Proofs.YtlhmemnaiobgkabGreatDoor.Bytes Go.Proofs.YtlhmemnaiobgkabGreatDoor.Sha Go.Proofs.YtlhmemnaiobgkabGreatDoor.Draw Go.Proofs.YtlhmemnaiobgkabGreatDoor.Ver
set_option linter.unusedVariables false
set_option linter.unusedSimpArgs false

def pathL : List ByteArray := [⟨#[97, 46, 111, 114, 103, 47, 120]⟩, ⟨#[97, 46, 111, 114, 103, 47, 121]⟩, ⟨#[98, 46, 105, 111, 47, 122]⟩, ⟨#[98, 46, 105, 111, 47, 122, 47, 118, 50]⟩, ⟨#[99]⟩, ⟨#[97, 46, 111, 114, 103, 47, 119]⟩]

def oddP : List ByteArray := [⟨#[]⟩, ⟨#[47]⟩, ⟨#[97, 47, 47, 98]⟩, ⟨#[65]⟩, ⟨#[45, 97]⟩, ⟨#[97, 47, 118, 49]⟩, ⟨#[97, 47, 118, 50]⟩, ⟨#[97, 47, 118, 48, 50]⟩, ⟨#[118, 50]⟩, ⟨#[97, 47, 118, 49, 48, 48, 48]⟩, ⟨#[97, 47, 118, 49, 48, 48, 49]⟩, ⟨#[97, 47, 98, 47, 99, 47, 100, 47, 101, 47, 102]⟩, ⟨#[97, 47, 98, 47, 99, 47, 100, 47, 101, 47, 102, 47, 103]⟩, ⟨#[116, 119, 101, 110, 116, 121, 111, 110, 101, 98, 121, 116, 101, 115, 45, 116, 119, 101, 110, 116, 121]⟩, ⟨#[97, 46, 98, 95, 99, 45, 100, 47, 118, 51]⟩, ⟨#[46, 97]⟩]

theorem pathL_size : ∀ s ∈ pathL, s.size ≤ 60 := by decide

theorem oddP_size : ∀ s ∈ oddP, s.size ≤ 60 := by decide

end Go.Proofs.YtlhmemnaiobgkabGreatDoor.Mod

/- Chapter 4's draws: a path and a version. -/
namespace Go.Proofs.YtlhmemnaiobgkabGreatDoor.Mod
open Go.RowKit Go.Proofs.YtlhmemnaiobgkabGreatDoor.Mem Go.Proofs.YtlhmemnaiobgkabGreatDoor.Laws Go.Proofs.YtlhmemnaiobgkabGreatDoor.Bytes Go.Proofs.YtlhmemnaiobgkabGreatDoor.Sha Go.Proofs.YtlhmemnaiobgkabGreatDoor.Draw Go.Proofs.YtlhmemnaiobgkabGreatDoor.Ver
set_option linter.unusedVariables false
set_option linter.unusedSimpArgs false

theorem results_tmp_row {P : Program} {fn : Func} {p u : Tmp} {ty : TypeId} (h : fn.results = #[.tmp u, .cell p ty]) (tmps : Array Value) (w : World) (g : Nat) (t : TypeId) (cs : Array Value) (fr : Nat × Nat) (d : TypeDesc)
    (hp : tmps.getD p undef = .pointer (some ⟨g, 0, none⟩)) (hh : w.heap[g]? = some (.cells cs t fr)) (hu : P.underlying ty = some d) (hd : (match d with | .struct _ | .array _ _ => true | _ => false) = true) (hi : (P.info? ty).map (·.size) = some cs.size) :
    (results fn tmps).run P w = .ok (.tuple #[tmps.getD u undef, .agg cs]) w := by
  have hp' : tmps[p]?.getD undef = .pointer (some ⟨g, 0, none⟩) := by simpa using hp
  simp [results, h, hp', asAddr, run_loadVar_row w g t ty cs fr d hh hu hd hi]

end Go.Proofs.YtlhmemnaiobgkabGreatDoor.Mod

/- Chapter 5, draws: a need. -/
namespace Go.Proofs.YtlhmemnaiobgkabGreatDoor.Ent
open Go.RowKit Go.Proofs.YtlhmemnaiobgkabGreatDoor.Mem Go.Proofs.YtlhmemnaiobgkabGreatDoor.Laws Go.Proofs.YtlhmemnaiobgkabGreatDoor.Bytes Go.Proofs.YtlhmemnaiobgkabGreatDoor.Sha Go.Proofs.YtlhmemnaiobgkabGreatDoor.Ver Go.Proofs.YtlhmemnaiobgkabGreatDoor.Mod Go.Proofs.YtlhmemnaiobgkabGreatDoor.Draw
set_option linter.unusedVariables false
set_option linter.unusedSimpArgs false

theorem pathL_ok : ∀ s ∈ pathL, path4 (sb s) = true ∧ (major4 s = 1 ∨ major4 s = 2) := by decide +kernel

theorem preL_ok : ∀ p ∈ preL, (decide (p.size = 0) || Ver.pre (sb p)) = true := by decide +kernel

theorem rowApart {w w' : World} {g q : Nat} {o : Obj} (h : w.heap[q]? = some o) (ha : Apart g (g + 1) w w') (hne : q ≠ g) : w'.heap[q]? = some o := (ha.block q (Array.getElem?_eq_some_iff.1 h).1 (by omega)).trans h

/-- what a drawn need is -/
def Dn (n : Nd) : Prop := n.path ∈ pathL ∧ n.ok = true ∧ n.pre ∈ preL

theorem Dn.size {n : Nd} (h : Dn n) : n.path.size ≤ 60 ∧ n.pre.size ≤ 9 := ⟨pathL_size _ h.1, Nat.le_trans (preL_size _ h.2.2) (by omega)⟩

theorem dn_of {s : ByteArray} {a b c : Int} {p : ByteArray} (hs : s ∈ pathL) (hd : Dv a b c p) {m : Int} (hm : m = major4 s ∨ (major4 s = 1 ∧ m = 0)) : Dn ⟨s, m, b, c, p⟩ := by
  obtain ⟨h1, h2⟩ := pathL_ok s hs
  obtain ⟨_, hb, hc, hp⟩ := hd
  refine ⟨hs, ?_, hp⟩
  have hok : okV m b c p = true := by
    unfold okV inM
    rw [preL_ok p hp]
    simp
    omega
  show fits4 s m b c p = true
  unfold fits4
  rw [hok]
  simp
  omega

end Go.Proofs.YtlhmemnaiobgkabGreatDoor.Ent
