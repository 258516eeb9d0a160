/- Texts in one: Ver9. -/
import Derived.Test.YtbopliahafkecaaDoorPk10
import Derived.Laws.ResultCell
/- Chapter 3, the specification's side: a version that is read of a text. -/
namespace Go.Proofs.YtbopliahafkecaaDoor.Ver
set_option linter.unusedVariables false
set_option linter.unusedSimpArgs false
open Go.RowKit Go.Proofs.YtbopliahafkecaaDoor.Mem Go.Proofs.YtbopliahafkecaaDoor.Laws Go.Proofs.YtbopliahafkecaaDoor.Bytes Go.Proofs.YtbopliahafkecaaDoor.Sha

theorem results_row_tmp {P : Program} {fn : Func} {p u : Tmp} {ty : TypeId} (h : fn.results = #[.cell p ty, .tmp u]) (tmps : Array Value) (w : World) (g : Nat) (t : TypeId) (cs : Array Value) (fr : Nat × Nat) (d : TypeDesc)
    (hp : tmps.getD p undef = .pointer (some ⟨g, 0, none⟩)) (hg : w.heap[g]? = some (.cells cs t fr))
    (hu : P.underlying ty = some d) (hd : (match d with | .struct _ | .array _ _ => true | _ => false) = true) (hi : (P.info? ty).map (·.size) = some cs.size) :
    (results fn tmps).run P w = .ok (.tuple #[.agg cs, tmps.getD u undef]) w := by
  have hp' : tmps[p]?.getD undef = .pointer (some ⟨g, 0, none⟩) := by simpa using hp
  simp [results, h, hp', asAddr, run_loadVar_row w g t ty cs fr d hg hu hd hi]

theorem Vr.frozen {w : World} {g : Nat} {a b c : Int} {p : ByteArray} (h : Vr w g a b c p) (i : Nat) : w.frozen? ⟨g, i, none⟩ = false := by
  have h' : w.heap[g]? = some (.cells (vc a b c p) 44 (0, 0)) := h
  simp [World.frozen?, h']

/-- three numbers stored one by one -/
def put3 (w : World) (g : Nat) (a b c : Int) : World := ((w.setCell ⟨g, 0, none⟩ (.int .i64 a)).setCell ⟨g, 1, none⟩ (.int .i64 b)).setCell ⟨g, 2, none⟩ (.int .i64 c)

theorem Vr.cellSet {w : World} {g : Nat} {cs : Array Value} (h : w.heap[g]? = some (.cells cs 44 (0, 0))) (i : Nat) (v : Value) : (w.setCell ⟨g, i, none⟩ v).heap[g]? = some (.cells (cs.setIfInBounds i v) 44 (0, 0)) := by
  simp [World.setCell, Array.getElem?_modify, h]

theorem put3_row {w : World} {g : Nat} {a b c : Int} {p : ByteArray} (h : Vr w g a b c p) (a' b' c' : Int) : Vr (put3 w g a' b' c') g a' b' c' p := Vr.cellSet (Vr.cellSet (Vr.cellSet h 0 _) 1 _) 2 _

theorem put3_other {w : World} {g g' : Nat} {a b c : Int} {p : ByteArray} (h : Vr w g a b c p) (hg : g ≠ g') (a' b' c' : Int) : Vr (put3 w g' a' b' c') g a b c p := by
  unfold Vr put3
  rw [Below.heap_setCell _ _ _ _ (by exact hg), Below.heap_setCell _ _ _ _ (by exact hg), Below.heap_setCell _ _ _ _ (by exact hg)]
  exact h

theorem put3_below {B : Nat} {w0 w : World} {g : Nat} (hb : Below B w0 w) (hg : B ≤ g) (a b c : Int) : Below B w0 (put3 w g a b c) :=
  ((hb.setCell (p := ⟨g, 0, none⟩) hg _).setCell (p := ⟨g, 1, none⟩) hg _).setCell (p := ⟨g, 2, none⟩) hg _

theorem thirdV (w : World) (A B C : Obj) : (((w.alloc A).alloc B).alloc C).heap[w.heap.size + 1 + 1]? = some C := by
  have h := heap_alloc_new ((w.alloc A).alloc B) C
  have e : ((w.alloc A).alloc B).heap.size = w.heap.size + 1 + 1 := by
    show ((w.heap.push A).push B).size = _
    simp
  rw [e] at h
  exact h

/-- a text's numbers, and what stands behind the first sign - -/
def cut (t : ByteArray) : ByteArray × ByteArray := match (sb t).findIdx? (fun c => c == 45) with
  | some i => (t.extract 0 i, t.extract (i + 1) t.size)
  | none => (t, ⟨#[]⟩)

def parse3 (s u pr : ByteArray) : (Int × Int × Int × ByteArray) × Bool := match splitT 46 u with
  | [x, y, z] => if okV (number (sb x)) (number (sb y)) (number (sb z)) pr = true ∧ eqT (Plain.txt (verText (number (sb x)) (number (sb y)) (number (sb z)) pr)) s = true then ((number (sb x), number (sb y), number (sb z), pr), true) else ((0, 0, 0, ⟨#[]⟩), false)
  | _ => ((0, 0, 0, ⟨#[]⟩), false)

def parseV (s : ByteArray) : (Int × Int × Int × ByteArray) × Bool :=
  if (sb s).head? = some 118 then parse3 s (cut (s.extract 1 s.size)).1 (cut (s.extract 1 s.size)).2 else ((0, 0, 0, ⟨#[]⟩), false)

theorem cut_some {t : ByteArray} {i : Nat} (h1 : (sb t)[i]? = some 45) (h2 : ∀ j, j < i → (sb t)[j]? ≠ some 45) : cut t = (t.extract 0 i, t.extract (i + 1) t.size) := by
  have : (sb t).findIdx? (fun c => c == 45) = some i := by
    rw [List.findIdx?_eq_some_iff_getElem]
    obtain ⟨hi, he⟩ := List.getElem?_eq_some_iff.1 h1
    refine ⟨hi, by simp [he], fun j hj => ?_⟩
    have := h2 j hj
    rw [List.getElem?_eq_getElem (by omega)] at this
    simpa using this
  unfold cut
  rw [this]

theorem cut_none {t : ByteArray} (h2 : ∀ j, j < t.size → (sb t)[j]? ≠ some 45) : cut t = (t, ⟨#[]⟩) := by
  have : (sb t).findIdx? (fun c => c == 45) = none := by
    rw [List.findIdx?_eq_none_iff]
    intro x hx
    obtain ⟨j, hj, rfl⟩ := List.getElem_of_mem hx
    have := h2 j (by rw [sb_len] at hj; exact hj)
    rw [List.getElem?_eq_getElem hj] at this
    simpa using this
  unfold cut
  rw [this]


end Go.Proofs.YtbopliahafkecaaDoor.Ver
