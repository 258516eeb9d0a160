/- Chapter 3's draws: three right versions. -/
import Derived.Test.YtbpgdagmffbagabDoorDraw3
import Derived.Test.YtbpgdagmffbagabDoorVer9
namespace Go.Proofs.YtbpgdagmffbagabDoor.Ver
open Go.RowKit Go.Proofs.YtbpgdagmffbagabDoor.Mem Go.Proofs.YtbpgdagmffbagabDoor.Laws Go.Proofs.YtbpgdagmffbagabDoor.Bytes Go.Proofs.YtbpgdagmffbagabDoor.Sha Go.Proofs.YtbpgdagmffbagabDoor.Draw
set_option linter.unusedVariables false
set_option linter.unusedSimpArgs false

theorem size3 (w : World) (A B C : Obj) : (((w.alloc A).alloc B).alloc C).heap.size = w.heap.size + 1 + 1 + 1 := by
  show (((w.heap.push A).push B).push C).size = _
  simp
theorem below3 (w : World) (A B C : Obj) : Below w.heap.size w (((w.alloc A).alloc B).alloc C) := (((Below.refl _ _).alloc (Nat.le_refl _) _).alloc (by simp) _).alloc (by simp; omega) _
theorem last3 (w : World) (A B C : Obj) : (((w.alloc A).alloc B).alloc C).heap[w.heap.size + 1 + 1]? = some C := by
  have h := heap_alloc_new ((w.alloc A).alloc B) C
  have e : ((w.alloc A).alloc B).heap.size = w.heap.size + 1 + 1 := by
    show ((w.heap.push A).push B).size = _
    simp
  rw [e] at h
  exact h
theorem mid3 (w : World) (A B C : Obj) : (((w.alloc A).alloc B).alloc C).heap[w.heap.size + 1]? = some B := by
  rw [heap_alloc_old ((w.alloc A).alloc B) C (show w.heap.size + 1 < ((w.alloc A).alloc B).heap.size by show _ < ((w.heap.push A).push B).size; simp)]
  exact heap_alloc2_new w A B
theorem first3 (w : World) (A B C : Obj) : (((w.alloc A).alloc B).alloc C).heap[w.heap.size]? = some A := by
  rw [heap_alloc_old ((w.alloc A).alloc B) C (show w.heap.size < ((w.alloc A).alloc B).heap.size by show _ < ((w.heap.push A).push B).size; simp; omega)]
  exact heap_alloc2_old w A B

def put4 (w : World) (g : Nat) (a b c : Int) (p : ByteArray) : World := (put3 w g a b c).setCell ⟨g, 3, none⟩ (.string p)
theorem put4_row {w : World} {g : Nat} {a b c : Int} {p : ByteArray} (h : Vr w g a b c p) (a' b' c' : Int) (p' : ByteArray) : Vr (put4 w g a' b' c' p') g a' b' c' p' := Vr.cellSet (put3_row h a' b' c') 3 _
theorem put4_other {w : World} {g g' : Nat} {a b c : Int} {p : ByteArray} (h : Vr w g a b c p) (hg : g ≠ g') (a' b' c' : Int) (p' : ByteArray) : Vr (put4 w g' a' b' c' p') g a b c p := by
  unfold Vr put4
  rw [Below.heap_setCell _ _ _ _ (by exact hg)]
  exact put3_other h hg a' b' c'
theorem put4_below {B : Nat} {w0 w : World} {g : Nat} (hb : Below B w0 w) (hg : B ≤ g) (a b c : Int) (p : ByteArray) : Below B w0 (put4 w g a b c p) := (put3_below hb hg a b c).setCell (p := ⟨g, 3, none⟩) hg _
theorem results_rows3 {P : Program} {fn : Func} {p q r : Tmp} {ty : TypeId} (h : fn.results = #[.cell p ty, .cell q ty, .cell r ty]) (tmps : Array Value) (w : World) (g1 g2 g3 : Nat) (t : TypeId) (c1 c2 c3 : Array Value) (d : TypeDesc)
    (hp : tmps.getD p undef = .pointer (some ⟨g1, 0, none⟩)) (hq : tmps.getD q undef = .pointer (some ⟨g2, 0, none⟩)) (hr : tmps.getD r undef = .pointer (some ⟨g3, 0, none⟩))
    (h1 : w.heap[g1]? = some (.cells c1 t (0, 0))) (h2 : w.heap[g2]? = some (.cells c2 t (0, 0))) (h3 : w.heap[g3]? = some (.cells c3 t (0, 0)))
    (hu : P.underlying ty = some d) (hd : (match d with | .struct _ | .array _ _ => true | _ => false) = true) (i1 : (P.info? ty).map (·.size) = some c1.size) (i2 : (P.info? ty).map (·.size) = some c2.size) (i3 : (P.info? ty).map (·.size) = some c3.size) :
    (results fn tmps).run P w = .ok (.tuple #[.agg c1, .agg c2, .agg c3]) w := by
  have hp' : tmps[p]?.getD undef = .pointer (some ⟨g1, 0, none⟩) := by simpa using hp
  have hq' : tmps[q]?.getD undef = .pointer (some ⟨g2, 0, none⟩) := by simpa using hq
  have hr' : tmps[r]?.getD undef = .pointer (some ⟨g3, 0, none⟩) := by simpa using hr
  simp [results, h, hp', hq', hr', asAddr, run_loadVar_row w g1 t ty c1 (0, 0) d h1 hu hd i1, run_loadVar_row w g2 t ty c2 (0, 0) d h2 hu hd i2, run_loadVar_row w g3 t ty c3 (0, 0) d h3 hu hd i3]
theorem Vr.drew {w : World} {g : Nat} {a b c : Int} {p : ByteArray} (h : Vr w g a b c p) : Vr w.drew g a b c p := h
theorem Vr.setOther {w : World} {g q : Nat} {a b c : Int} {p : ByteArray} (h : Vr w q a b c p) (hne : q ≠ g) (i : Nat) (v : Value) : Vr (w.setCell ⟨g, i, none⟩ v) q a b c p := by
  unfold Vr
  rw [Below.heap_setCell _ _ _ _ (by exact hne)]
  exact h
theorem Vr.set0 {w : World} {g : Nat} {a b c : Int} {p : ByteArray} (h : Vr w g a b c p) (a' : Int) : Vr (w.setCell ⟨g, 0, none⟩ (.int .i64 a')) g a' b c p := Vr.cellSet h 0 _
theorem Vr.set1 {w : World} {g : Nat} {a b c : Int} {p : ByteArray} (h : Vr w g a b c p) (b' : Int) : Vr (w.setCell ⟨g, 1, none⟩ (.int .i64 b')) g a b' c p := Vr.cellSet h 1 _
theorem Vr.rowOther {w : World} {g q : Nat} {a b c : Int} {p : ByteArray} (h : Vr w q a b c p) (hne : q ≠ g) (cs : Array Value) : Vr (w.setRow g cs) q a b c p := by
  unfold Vr
  rw [setRow_other w g q cs hne]
  exact h
theorem draw_agg (W0 w : World) (g : Nat) (vb : Value) (xs : List Int) (hs : Sl W0 vb (bs xs)) (hby : Byt xs) (hx : xs.length ≤ 140737488355328) (hB : Below W0.heap.size W0 w) (hg : W0.heap.size ≤ g) (hc : Cur w g vb xs.length) :
    Calls Tryd.prog 23 #[.pointer (some ⟨g, 0, none⟩)] w fun e w' => ∃ a b c p, e = .returned (.agg #[.int .i64 a, .int .i64 b, .int .i64 c, .string p]) ∧ Dv a b c p ∧ Drawn W0 w g vb xs w' := draw_any W0 w g vb xs hs hby hx hB hg hc

end Go.Proofs.YtbpgdagmffbagabDoor.Ver
