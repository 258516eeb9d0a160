/- Chapter 3's draws: three right versions. -/
import Derived.Test.YtnoopfpgkgjdcabDraw3
import Derived.Test.YtnoopfpgkgjdcabVer9
namespace Go.Proofs.Ytnoopfpgkgjdcab.Ver
open Go.RowKit Go.Proofs.Ytnoopfpgkgjdcab.Mem Go.Proofs.Ytnoopfpgkgjdcab.Laws Go.Proofs.Ytnoopfpgkgjdcab.Bytes Go.Proofs.Ytnoopfpgkgjdcab.Sha Go.Proofs.Ytnoopfpgkgjdcab.Draw
set_option linter.unusedVariables false
set_option linter.unusedSimpArgs false

theorem size3 (w : World) (A B C : Obj) : (((w.alloc A).alloc B).alloc C).heap.size = w.heap.size + 1 + 1 + 1 := by
  show (((w.heap.push A).push B).push C).size = _
  simp
theorem below3 (w : World) (A B C : Obj) : Below w.heap.size w (((w.alloc A).alloc B).alloc C) := (((Below.refl _ _).alloc (Nat.le_refl _) _).alloc (by simp) _).alloc (by simp; omega) _
theorem last3 (w : World) (A B C : Obj) : (((w.alloc A).alloc B).alloc C).heap[w.heap.size + 1 + 1]? = some C := by
  have h := heap_alloc_new ((w.alloc A).alloc B) C
  have e : ((w.alloc A).alloc B).heap.size = w.heap.size + 1 + 1 := by
    show ((w.heap.push A).push B).size = _
    simp
  rw [e] at h
  exact h
theorem mid3 (w : World) (A B C : Obj) : (((w.alloc A).alloc B).alloc C).heap[w.heap.size + 1]? = some B := by
  rw [heap_alloc_old ((w.alloc A).alloc B) C (show w.heap.size + 1 < ((w.alloc A).alloc B).heap.size by show _ < ((w.heap.push A).push B).size; simp)]
  exact heap_alloc2_new w A B
theorem first3 (w : World) (A B C : Obj) : (((w.alloc A).alloc B).alloc C).heap[w.heap.size]? = some A := by
  rw [heap_alloc_old ((w.alloc A).alloc B) C (show w.heap.size < ((w.alloc A).alloc B).heap.size by show _ < ((w.heap.push A).push B).size; simp; omega)]
  exact heap_alloc2_old w A B

def put4 (w : World) (g : Nat) (a b c : Int) (p : ByteArray) : World := (put3 w g a b c).setCell ⟨g, 3, none⟩ (.string p)
theorem put4_row {w : World} {g : Nat} {a b c : Int} {p : ByteArray} (h : Vr w g a b c p) (a' b' c' : Int) (p' : ByteArray) : Vr (put4 w g a' b' c' p') g a' b' c' p' := Vr.cellSet (put3_row h a' b' c') 3 _
theorem put4_other {w : World} {g g' : Nat} {a b c : Int} {p : ByteArray} (h : Vr w g a b c p) (hg : g ≠ g') (a' b' c' : Int) (p' : ByteArray) : Vr (put4 w g' a' b' c' p') g a b c p := by
  unfold Vr put4
  rw [Below.heap_setCell _ _ _ _ (by exact hg)]
  exact put3_other h hg a' b' c'
theorem put4_below {B : Nat} {w0 w : World} {g : Nat} (hb : Below B w0 w) (hg : B ≤ g) (a b c : Int) (p : ByteArray) : Below B w0 (put4 w g a b c p) := (put3_below hb hg a b c).setCell (p := ⟨g, 3, none⟩) hg _
theorem results_rows3 {P : Program} {fn : Func} {p q r : Tmp} {ty : TypeId} (h : fn.results = #[.cell p ty, .cell q ty, .cell r ty]) (tmps : Array Value) (w : World) (g1 g2 g3 : Nat) (t : TypeId) (c1 c2 c3 : Array Value) (d : TypeDesc)
    (hp : tmps.getD p undef = .pointer (some ⟨g1, 0, none⟩)) (hq : tmps.getD q undef = .pointer (some ⟨g2, 0, none⟩)) (hr : tmps.getD r undef = .pointer (some ⟨g3, 0, none⟩))
    (h1 : w.heap[g1]? = some (.cells c1 t (0, 0))) (h2 : w.heap[g2]? = some (.cells c2 t (0, 0))) (h3 : w.heap[g3]? = some (.cells c3 t (0, 0)))
    (hu : P.underlying ty = some d) (hd : (match d with | .struct _ | .array _ _ => true | _ => false) = true) (i1 : (P.info? ty).map (·.size) = some c1.size) (i2 : (P.info? ty).map (·.size) = some c2.size) (i3 : (P.info? ty).map (·.size) = some c3.size) :
    (results fn tmps).run P w = .ok (.tuple #[.agg c1, .agg c2, .agg c3]) w := by
  have hp' : tmps[p]?.getD undef = .pointer (some ⟨g1, 0, none⟩) := by simpa using hp
  have hq' : tmps[q]?.getD undef = .pointer (some ⟨g2, 0, none⟩) := by simpa using hq
  have hr' : tmps[r]?.getD undef = .pointer (some ⟨g3, 0, none⟩) := by simpa using hr
  simp [results, h, hp', hq', hr', asAddr, run_loadVar_row w g1 t ty c1 (0, 0) d h1 hu hd i1, run_loadVar_row w g2 t ty c2 (0, 0) d h2 hu hd i2, run_loadVar_row w g3 t ty c3 (0, 0) d h3 hu hd i3]
theorem Vr.drew {w : World} {g : Nat} {a b c : Int} {p : ByteArray} (h : Vr w g a b c p) : Vr w.drew g a b c p := h
theorem Vr.setOther {w : World} {g q : Nat} {a b c : Int} {p : ByteArray} (h : Vr w q a b c p) (hne : q ≠ g) (i : Nat) (v : Value) : Vr (w.setCell ⟨g, i, none⟩ v) q a b c p := by
  unfold Vr
  rw [Below.heap_setCell _ _ _ _ (by exact hne)]
  exact h
theorem Vr.set0 {w : World} {g : Nat} {a b c : Int} {p : ByteArray} (h : Vr w g a b c p) (a' : Int) : Vr (w.setCell ⟨g, 0, none⟩ (.int .i64 a')) g a' b c p := Vr.cellSet h 0 _
theorem Vr.set1 {w : World} {g : Nat} {a b c : Int} {p : ByteArray} (h : Vr w g a b c p) (b' : Int) : Vr (w.setCell ⟨g, 1, none⟩ (.int .i64 b')) g a b' c p := Vr.cellSet h 1 _
theorem Vr.rowOther {w : World} {g q : Nat} {a b c : Int} {p : ByteArray} (h : Vr w q a b c p) (hne : q ≠ g) (cs : Array Value) : Vr (w.setRow g cs) q a b c p := by
  unfold Vr
  rw [setRow_other w g q cs hne]
  exact h
theorem draw_agg (W0 w : World) (g : Nat) (vb : Value) (xs : List Int) (hs : Sl W0 vb (bs xs)) (hby : Byt xs) (hx : xs.length ≤ 140737488355328) (hB : Below W0.heap.size W0 w) (hg : W0.heap.size ≤ g) (hc : Cur w g vb xs.length) :
    Calls Try.prog 25 #[.pointer (some ⟨g, 0, none⟩)] w fun e w' => ∃ a b c p, e = .returned (.agg #[.int .i64 a, .int .i64 b, .int .i64 c, .string p]) ∧ Dv a b c p ∧ Drawn W0 w g vb xs w' := draw_any W0 w g vb xs hs hby hx hB hg hc

set_option maxRecDepth 1000000 in
set_option maxHeartbeats 1000000 in
theorem three_any (w : World) (vb : Value) (xs : List Int) (hs : Sl w vb (bs xs)) (hby : Byt xs) (hx : xs.length ≤ 140737488355328) :
    Calls Try.prog 7 #[vb] w fun e w' => ∃ a1 b1 c1 p1 a2 b2 c2 p2 a3 b3 c3 p3, e = .returned (.tuple #[ver a1 b1 c1 p1, ver a2 b2 c2 p2, ver a3 b3 c3 p3]) ∧ Dv a1 b1 c1 p1 ∧ Dv a2 b2 c2 p2 ∧ Dv a3 b3 c3 p3 ∧ Below w.heap.size w w' := by
  obtain ⟨Y, q1, HYs, HYb, HY0, HY1, HY2, hsY⟩ : ∃ Y : World, (Calls Try.prog 24 #[vb] (((w.alloc (.cells (vc 0 0 0 ⟨#[]⟩) 25)).alloc (.cells (vc 0 0 0 ⟨#[]⟩) 25)).alloc (.cells (vc 0 0 0 ⟨#[]⟩) 25)) fun e w' => e = .returned (.pointer (some ⟨(w.heap.size + 1 + 1 + 1), 0, none⟩)) ∧ Drawn Y Y (w.heap.size + 1 + 1 + 1) vb xs w') ∧ Hid (Y.heap.size = (w.heap.size + 1 + 1 + 1)) ∧ Hid (Below w.heap.size w Y) ∧ Hid (Vr Y w.heap.size 0 0 0 ⟨#[]⟩) ∧ Hid (Vr Y (w.heap.size + 1) 0 0 0 ⟨#[]⟩) ∧ Hid (Vr Y (w.heap.size + 1 + 1) 0 0 0 ⟨#[]⟩) ∧ Sl Y vb (bs xs) := by
    have hsY : Sl (((w.alloc (.cells (vc 0 0 0 ⟨#[]⟩) 25)).alloc (.cells (vc 0 0 0 ⟨#[]⟩) 25)).alloc (.cells (vc 0 0 0 ⟨#[]⟩) 25)) vb (bs xs) := hs.later (below3 w _ _ _)
    have q := new_any (((w.alloc (.cells (vc 0 0 0 ⟨#[]⟩) 25)).alloc (.cells (vc 0 0 0 ⟨#[]⟩) 25)).alloc (.cells (vc 0 0 0 ⟨#[]⟩) 25)) vb xs hsY hby hx
    rw [size3] at q
    exact ⟨(((w.alloc (.cells (vc 0 0 0 ⟨#[]⟩) 25)).alloc (.cells (vc 0 0 0 ⟨#[]⟩) 25)).alloc (.cells (vc 0 0 0 ⟨#[]⟩) 25)), q, size3 w _ _ _, below3 w _ _ _, first3 w _ _ _, mid3 w _ _ _, last3 w _ _ _, hsY⟩
  have hgY : Y.heap.size ≤ (w.heap.size + 1 + 1 + 1) := by have := HYs.out; omega
  go_enter Try.func7, Try.ntmps7
  go_wp2_with fail
  refine q1.mono ?_
  rintro e w1 ⟨rfl, d1⟩
  clear q1
  have gl1 := d1.cur.lt
  have HW0 : Hid (Vr w1 w.heap.size 0 0 0 ⟨#[]⟩) := Vr.apart HY0.out d1.apart (by omega)
  have HW1 : Hid (Vr w1 (w.heap.size + 1) 0 0 0 ⟨#[]⟩) := Vr.apart HY1.out d1.apart (by omega)
  have HW2 : Hid (Vr w1 (w.heap.size + 1 + 1) 0 0 0 ⟨#[]⟩) := Vr.apart HY2.out d1.apart (by omega)
  have HB1 : Hid (Below w.heap.size w w1) := HYb.out.trans (d1.below.mono HYb.out.size)
  clear HY0 HY1 HY2
  go_wp2_with fail
  refine (draw_agg Y w1 (w.heap.size + 1 + 1 + 1) vb xs hsY hby hx d1.below hgY d1.cur).mono ?_
  rintro e w2 ⟨a1, b1, c1, p1, rfl, D1, d2⟩
  have gl2 := d2.cur.lt
  have s2 := d2.apart.size
  have n2 : ∀ o, Drawn Y w1 (w.heap.size + 1 + 1 + 1) vb xs (w2.alloc o) := fun o => d2.on hgY gl1 ((Below.refl _ _).alloc s2 _)
  clear d1
  go_wp2_with fail
  refine (draw_agg Y _ (w.heap.size + 1 + 1 + 1) vb xs hsY hby hx (n2 _).below hgY (n2 _).cur).mono ?_
  rintro e w3 ⟨a2, b2, c2, p2, rfl, D2, d3⟩
  have V3 : Vr w3 w2.heap.size a1 b1 c1 p1 := Vr.apart (w := w2.alloc (.cells (vc a1 b1 c1 p1) 25)) (heap_alloc_new w2 _) d3.apart (by omega)
  have e3 := (n2 _).and d3
  have s3 := e3.apart.size
  have t3 := V3.lt
  have n3 : ∀ o, Drawn Y w1 (w.heap.size + 1 + 1 + 1) vb xs (w3.alloc o) := fun o => e3.on hgY gl1 ((Below.refl _ _).alloc s3 _)
  have HV3 : Hid (∀ o, Vr (w3.alloc o) w2.heap.size a1 b1 c1 p1) := fun o => Vr.same V3 ((Below.refl _ _).alloc (Nat.le_refl _) _)
  have gl3 := e3.cur.lt
  clear V3 n2 d2 e3
  go_wp2_with fail
  refine (draw_agg Y _ (w.heap.size + 1 + 1 + 1) vb xs hsY hby hx (n3 _).below hgY (n3 _).cur).mono ?_
  rintro e w4 ⟨a3, b3, c3, p3, rfl, D3, d4⟩
  have V4 : Vr w4 w2.heap.size a1 b1 c1 p1 := Vr.apart (HV3.out _) d4.apart (by omega)
  have V5 : Vr w4 w3.heap.size a2 b2 c2 p2 := Vr.apart (w := w3.alloc (.cells (vc a2 b2 c2 p2) 25)) (heap_alloc_new w3 _) d4.apart (by omega)
  have e4 := (n3 _).and d4
  have s4 := e4.apart.size
  have t4 := V5.lt
  have n4 : ∀ o, Drawn Y w1 (w.heap.size + 1 + 1 + 1) vb xs (w4.alloc o) := fun o => e4.on hgY gl1 ((Below.refl _ _).alloc s4 _)
  have HV4 : Hid (∀ o, Vr (w4.alloc o) w2.heap.size a1 b1 c1 p1) := fun o => Vr.same V4 ((Below.refl _ _).alloc (Nat.le_refl _) _)
  have HV5 : Hid (∀ o, Vr (w4.alloc o) w3.heap.size a2 b2 c2 p2) := fun o => Vr.same V5 ((Below.refl _ _).alloc (Nat.le_refl _) _)
  have gl4 := e4.cur.lt
  clear V4 V5 HV3 n3 d3 d4 e4
  go_wp2_with fail
  refine (once_any Y _ (w.heap.size + 1 + 1 + 1) vb xs 2 (by omega) (by omega) hsY hby hx (n4 _).below hgY (n4 _).cur).mono ?_
  rintro e w5 ⟨on, rfl, d5⟩
  have V6 : Vr w5 w2.heap.size a1 b1 c1 p1 := Vr.apart (HV4.out _) d5.apart (by omega)
  have V7 : Vr w5 w3.heap.size a2 b2 c2 p2 := Vr.apart (HV5.out _) d5.apart (by omega)
  have V8 : Vr w5 w4.heap.size a3 b3 c3 p3 := Vr.apart (w := w4.alloc (.cells (vc a3 b3 c3 p3) 25)) (heap_alloc_new w4 _) d5.apart (by omega)
  have e5 := (n4 _).and d5
  have X0 : Vr w5 w.heap.size 0 0 0 ⟨#[]⟩ := Vr.apart HW0.out e5.apart (by omega)
  have X1 : Vr w5 (w.heap.size + 1) 0 0 0 ⟨#[]⟩ := Vr.apart HW1.out e5.apart (by omega)
  have X2 : Vr w5 (w.heap.size + 1 + 1) 0 0 0 ⟨#[]⟩ := Vr.apart HW2.out e5.apart (by omega)
  have hB5 : Below w.heap.size w w5 := HB1.out.trans ((e5.apart.below (B := w.heap.size) (by omega) HB1.out.size))
  clear n4 HV4 HV5 d5 e5 HW0 HW1 HW2 HB1
  have r67 : w2.heap.size ≠ w3.heap.size := by omega
  have r68 : w2.heap.size ≠ w4.heap.size := by omega
  have r78 : w3.heap.size ≠ w4.heap.size := by omega
  cases on
  · go_wp2_with fail
    obtain ⟨k00, k01, k02, k03⟩ := Vr.cells V6
    obtain ⟨k10, k11, k12, k13⟩ := Vr.cells V7
    obtain ⟨k20, k21, k22, k23⟩ := Vr.cells V8
    obtain ⟨k30, k31, k32, k33⟩ := Vr.cells X0
    obtain ⟨k40, k41, k42, k43⟩ := Vr.cells X1
    obtain ⟨k50, k51, k52, k53⟩ := Vr.cells X2
    have z00 := Vr.frozen X0 0
    have z01 := Vr.frozen X0 1
    have z02 := Vr.frozen X0 2
    have z03 := Vr.frozen X0 3
    have z10 := Vr.frozen X1 0
    have z11 := Vr.frozen X1 1
    have z12 := Vr.frozen X1 2
    have z13 := Vr.frozen X1 3
    have z20 := Vr.frozen X2 0
    have z21 := Vr.frozen X2 1
    have z22 := Vr.frozen X2 2
    have z23 := Vr.frozen X2 3
    have E67 : w2.heap.size ≠ w.heap.size := by omega
    have E68 : w2.heap.size ≠ w.heap.size + 1 := by omega
    have E77 : w3.heap.size ≠ w.heap.size := by omega
    have E78 : w3.heap.size ≠ w.heap.size + 1 := by omega
    have E87 : w4.heap.size ≠ w.heap.size := by omega
    have E88 : w4.heap.size ≠ w.heap.size + 1 := by omega
    have E10 : w.heap.size + 1 ≠ w.heap.size := by omega
    have E20 : w.heap.size + 1 + 1 ≠ w.heap.size := by omega
    have E21 : w.heap.size + 1 + 1 ≠ w.heap.size + 1 := by omega
    have F2 : Hid (Vr ((((((((((((w5.setCell ⟨w.heap.size, 0, none⟩ (.int .i64 a1)).setCell ⟨w.heap.size, 1, none⟩ (.int .i64 b1)).setCell ⟨w.heap.size, 2, none⟩ (.int .i64 c1)).setCell ⟨w.heap.size, 3, none⟩ (.string p1)).setCell ⟨w.heap.size + 1, 0, none⟩ (.int .i64 a2)).setCell ⟨w.heap.size + 1, 1, none⟩ (.int .i64 b2)).setCell ⟨w.heap.size + 1, 2, none⟩ (.int .i64 c2)).setCell ⟨w.heap.size + 1, 3, none⟩ (.string p2)).setCell ⟨w.heap.size + 1 + 1, 0, none⟩ (.int .i64 a3)).setCell ⟨w.heap.size + 1 + 1, 1, none⟩ (.int .i64 b3)).setCell ⟨w.heap.size + 1 + 1, 2, none⟩ (.int .i64 c3)).setCell ⟨w.heap.size + 1 + 1, 3, none⟩ (.string p3)).drew (w.heap.size + 1 + 1) a3 b3 c3 p3) := Vr.drew (w := (put4 (put4 (put4 w5 w.heap.size a1 b1 c1 p1) (w.heap.size + 1) a2 b2 c2 p2) (w.heap.size + 1 + 1) a3 b3 c3 p3)) (put4_row (put4_other (w := (put4 w5 w.heap.size a1 b1 c1 p1)) (put4_other (w := w5) X2 E20 _ _ _ _) E21 _ _ _ _) a3 b3 c3 p3)
    have F1 : Hid (Vr ((((((((((((w5.setCell ⟨w.heap.size, 0, none⟩ (.int .i64 a1)).setCell ⟨w.heap.size, 1, none⟩ (.int .i64 b1)).setCell ⟨w.heap.size, 2, none⟩ (.int .i64 c1)).setCell ⟨w.heap.size, 3, none⟩ (.string p1)).setCell ⟨w.heap.size + 1, 0, none⟩ (.int .i64 a2)).setCell ⟨w.heap.size + 1, 1, none⟩ (.int .i64 b2)).setCell ⟨w.heap.size + 1, 2, none⟩ (.int .i64 c2)).setCell ⟨w.heap.size + 1, 3, none⟩ (.string p2)).setCell ⟨w.heap.size + 1 + 1, 0, none⟩ (.int .i64 a3)).setCell ⟨w.heap.size + 1 + 1, 1, none⟩ (.int .i64 b3)).setCell ⟨w.heap.size + 1 + 1, 2, none⟩ (.int .i64 c3)).setCell ⟨w.heap.size + 1 + 1, 3, none⟩ (.string p3)).drew (w.heap.size + 1) a2 b2 c2 p2) := Vr.drew (w := (put4 (put4 (put4 w5 w.heap.size a1 b1 c1 p1) (w.heap.size + 1) a2 b2 c2 p2) (w.heap.size + 1 + 1) a3 b3 c3 p3)) (put4_other (w := (put4 (put4 w5 w.heap.size a1 b1 c1 p1) (w.heap.size + 1) a2 b2 c2 p2)) (put4_row (put4_other (w := w5) X1 E10 _ _ _ _) a2 b2 c2 p2) E21.symm _ _ _ _)
    have F0 : Hid (Vr ((((((((((((w5.setCell ⟨w.heap.size, 0, none⟩ (.int .i64 a1)).setCell ⟨w.heap.size, 1, none⟩ (.int .i64 b1)).setCell ⟨w.heap.size, 2, none⟩ (.int .i64 c1)).setCell ⟨w.heap.size, 3, none⟩ (.string p1)).setCell ⟨w.heap.size + 1, 0, none⟩ (.int .i64 a2)).setCell ⟨w.heap.size + 1, 1, none⟩ (.int .i64 b2)).setCell ⟨w.heap.size + 1, 2, none⟩ (.int .i64 c2)).setCell ⟨w.heap.size + 1, 3, none⟩ (.string p2)).setCell ⟨w.heap.size + 1 + 1, 0, none⟩ (.int .i64 a3)).setCell ⟨w.heap.size + 1 + 1, 1, none⟩ (.int .i64 b3)).setCell ⟨w.heap.size + 1 + 1, 2, none⟩ (.int .i64 c3)).setCell ⟨w.heap.size + 1 + 1, 3, none⟩ (.string p3)).drew w.heap.size a1 b1 c1 p1) := Vr.drew (w := (put4 (put4 (put4 w5 w.heap.size a1 b1 c1 p1) (w.heap.size + 1) a2 b2 c2 p2) (w.heap.size + 1 + 1) a3 b3 c3 p3)) (put4_other (w := (put4 (put4 w5 w.heap.size a1 b1 c1 p1) (w.heap.size + 1) a2 b2 c2 p2)) (put4_other (w := (put4 w5 w.heap.size a1 b1 c1 p1)) (put4_row (w := w5) X0 a1 b1 c1 p1) E10.symm _ _ _ _) E20.symm _ _ _ _)
    have FB : Hid (Below w.heap.size w ((((((((((((w5.setCell ⟨w.heap.size, 0, none⟩ (.int .i64 a1)).setCell ⟨w.heap.size, 1, none⟩ (.int .i64 b1)).setCell ⟨w.heap.size, 2, none⟩ (.int .i64 c1)).setCell ⟨w.heap.size, 3, none⟩ (.string p1)).setCell ⟨w.heap.size + 1, 0, none⟩ (.int .i64 a2)).setCell ⟨w.heap.size + 1, 1, none⟩ (.int .i64 b2)).setCell ⟨w.heap.size + 1, 2, none⟩ (.int .i64 c2)).setCell ⟨w.heap.size + 1, 3, none⟩ (.string p2)).setCell ⟨w.heap.size + 1 + 1, 0, none⟩ (.int .i64 a3)).setCell ⟨w.heap.size + 1 + 1, 1, none⟩ (.int .i64 b3)).setCell ⟨w.heap.size + 1 + 1, 2, none⟩ (.int .i64 c3)).setCell ⟨w.heap.size + 1 + 1, 3, none⟩ (.string p3)).drew) := Below.drew (w := (put4 (put4 (put4 w5 w.heap.size a1 b1 c1 p1) (w.heap.size + 1) a2 b2 c2 p2) (w.heap.size + 1 + 1) a3 b3 c3 p3)) (put4_below (put4_below (put4_below hB5 (Nat.le_refl _) _ _ _ _) (by omega) _ _ _ _) (by omega) _ _ _ _)
    clear V6 V7 V8 X0 X1 X2 hB5
    go_region
    go_wp2_with fail
    exact bodyPost_ret (results_rows3 rfl _ _ w.heap.size (w.heap.size + 1) (w.heap.size + 1 + 1) 25 (vc a1 b1 c1 p1) (vc a2 b2 c2 p2) (vc a3 b3 c3 p3) _ rfl rfl rfl F0.out F1.out F2.out Try.underlying25 rfl (sizeV a1 b1 c1 p1) (sizeV a2 b2 c2 p2) (sizeV a3 b3 c3 p3)) rfl ⟨a1, b1, c1, p1, a2, b2, c2, p2, a3, b3, c3, p3, rfl, D1, D2, D3, FB.out⟩
  · obtain ⟨k00, k01, k02, k03⟩ := Vr.cells V6
    obtain ⟨k10, k11, k12, k13⟩ := Vr.cells V7
    obtain ⟨k20, k21, k22, k23⟩ := Vr.cells V8
    have z10 := Vr.frozen V7 0
    have z11 := Vr.frozen V7 1
    have z20 := Vr.frozen V8 0
    have z21 := Vr.frozen V8 1
    have V6' : Vr ((((w5.setCell ⟨w3.heap.size, 0, none⟩ (.int .i64 a1)).setCell ⟨w4.heap.size, 0, none⟩ (.int .i64 a1)).setCell ⟨w3.heap.size, 1, none⟩ (.int .i64 b1)).setCell ⟨w4.heap.size, 1, none⟩ (.int .i64 b1)) w2.heap.size a1 b1 c1 p1 := Vr.setOther (Vr.setOther (Vr.setOther (Vr.setOther V6 r67 _ _) r68 _ _) r67 _ _) r68 _ _
    have V7' : Vr ((((w5.setCell ⟨w3.heap.size, 0, none⟩ (.int .i64 a1)).setCell ⟨w4.heap.size, 0, none⟩ (.int .i64 a1)).setCell ⟨w3.heap.size, 1, none⟩ (.int .i64 b1)).setCell ⟨w4.heap.size, 1, none⟩ (.int .i64 b1)) w3.heap.size a1 b1 c2 p2 := Vr.setOther (Vr.set1 (Vr.setOther (Vr.set0 V7 a1) r78 _ _) b1) r78 _ _
    have V8' : Vr ((((w5.setCell ⟨w3.heap.size, 0, none⟩ (.int .i64 a1)).setCell ⟨w4.heap.size, 0, none⟩ (.int .i64 a1)).setCell ⟨w3.heap.size, 1, none⟩ (.int .i64 b1)).setCell ⟨w4.heap.size, 1, none⟩ (.int .i64 b1)) w4.heap.size a1 b1 c3 p3 := Vr.set1 (Vr.setOther (Vr.set0 (Vr.setOther V8 r78.symm _ _) a1) r78.symm _ _) b1
    have N7 : ∀ k, k < w3.heap.size → k ≠ w3.heap.size := fun k hk => by omega
    have X0' : Vr ((((w5.setCell ⟨w3.heap.size, 0, none⟩ (.int .i64 a1)).setCell ⟨w4.heap.size, 0, none⟩ (.int .i64 a1)).setCell ⟨w3.heap.size, 1, none⟩ (.int .i64 b1)).setCell ⟨w4.heap.size, 1, none⟩ (.int .i64 b1)) w.heap.size 0 0 0 ⟨#[]⟩ := Vr.setOther (Vr.setOther (Vr.setOther (Vr.setOther X0 (by omega) _ _) (by omega) _ _) (by omega) _ _) (by omega) _ _
    have X1' : Vr ((((w5.setCell ⟨w3.heap.size, 0, none⟩ (.int .i64 a1)).setCell ⟨w4.heap.size, 0, none⟩ (.int .i64 a1)).setCell ⟨w3.heap.size, 1, none⟩ (.int .i64 b1)).setCell ⟨w4.heap.size, 1, none⟩ (.int .i64 b1)) (w.heap.size + 1) 0 0 0 ⟨#[]⟩ := Vr.setOther (Vr.setOther (Vr.setOther (Vr.setOther X1 (by omega) _ _) (by omega) _ _) (by omega) _ _) (by omega) _ _
    have X2' : Vr ((((w5.setCell ⟨w3.heap.size, 0, none⟩ (.int .i64 a1)).setCell ⟨w4.heap.size, 0, none⟩ (.int .i64 a1)).setCell ⟨w3.heap.size, 1, none⟩ (.int .i64 b1)).setCell ⟨w4.heap.size, 1, none⟩ (.int .i64 b1)) (w.heap.size + 1 + 1) 0 0 0 ⟨#[]⟩ := Vr.setOther (Vr.setOther (Vr.setOther (Vr.setOther X2 (by omega) _ _) (by omega) _ _) (by omega) _ _) (by omega) _ _
    have hB5' : Below w.heap.size w ((((w5.setCell ⟨w3.heap.size, 0, none⟩ (.int .i64 a1)).setCell ⟨w4.heap.size, 0, none⟩ (.int .i64 a1)).setCell ⟨w3.heap.size, 1, none⟩ (.int .i64 b1)).setCell ⟨w4.heap.size, 1, none⟩ (.int .i64 b1)) := (((hB5.setCell (p := ⟨w3.heap.size, 0, none⟩) (by show _ ≤ w3.heap.size; omega) _).setCell (p := ⟨w4.heap.size, 0, none⟩) (by show _ ≤ w4.heap.size; omega) _).setCell (p := ⟨w3.heap.size, 1, none⟩) (by show _ ≤ w3.heap.size; omega) _).setCell (p := ⟨w4.heap.size, 1, none⟩) (by show _ ≤ w4.heap.size; omega) _
    have DD2 : Dv a1 b1 c2 p2 := ⟨D1.1, D1.2.1, D2.2.2.1, D2.2.2.2⟩
    have DD3 : Dv a1 b1 c3 p3 := ⟨D1.1, D1.2.1, D3.2.2.1, D3.2.2.2⟩
    have KV : Hid (Vr ((((w5.setCell ⟨w3.heap.size, 0, none⟩ (.int .i64 a1)).setCell ⟨w4.heap.size, 0, none⟩ (.int .i64 a1)).setCell ⟨w3.heap.size, 1, none⟩ (.int .i64 b1)).setCell ⟨w4.heap.size, 1, none⟩ (.int .i64 b1)) w2.heap.size a1 b1 c1 p1 ∧ Vr ((((w5.setCell ⟨w3.heap.size, 0, none⟩ (.int .i64 a1)).setCell ⟨w4.heap.size, 0, none⟩ (.int .i64 a1)).setCell ⟨w3.heap.size, 1, none⟩ (.int .i64 b1)).setCell ⟨w4.heap.size, 1, none⟩ (.int .i64 b1)) w3.heap.size a1 b1 c2 p2 ∧ Vr ((((w5.setCell ⟨w3.heap.size, 0, none⟩ (.int .i64 a1)).setCell ⟨w4.heap.size, 0, none⟩ (.int .i64 a1)).setCell ⟨w3.heap.size, 1, none⟩ (.int .i64 b1)).setCell ⟨w4.heap.size, 1, none⟩ (.int .i64 b1)) w4.heap.size a1 b1 c3 p3 ∧ Vr ((((w5.setCell ⟨w3.heap.size, 0, none⟩ (.int .i64 a1)).setCell ⟨w4.heap.size, 0, none⟩ (.int .i64 a1)).setCell ⟨w3.heap.size, 1, none⟩ (.int .i64 b1)).setCell ⟨w4.heap.size, 1, none⟩ (.int .i64 b1)) w.heap.size 0 0 0 ⟨#[]⟩ ∧ Vr ((((w5.setCell ⟨w3.heap.size, 0, none⟩ (.int .i64 a1)).setCell ⟨w4.heap.size, 0, none⟩ (.int .i64 a1)).setCell ⟨w3.heap.size, 1, none⟩ (.int .i64 b1)).setCell ⟨w4.heap.size, 1, none⟩ (.int .i64 b1)) (w.heap.size + 1) 0 0 0 ⟨#[]⟩ ∧ Vr ((((w5.setCell ⟨w3.heap.size, 0, none⟩ (.int .i64 a1)).setCell ⟨w4.heap.size, 0, none⟩ (.int .i64 a1)).setCell ⟨w3.heap.size, 1, none⟩ (.int .i64 b1)).setCell ⟨w4.heap.size, 1, none⟩ (.int .i64 b1)) (w.heap.size + 1 + 1) 0 0 0 ⟨#[]⟩ ∧ Below w.heap.size w ((((w5.setCell ⟨w3.heap.size, 0, none⟩ (.int .i64 a1)).setCell ⟨w4.heap.size, 0, none⟩ (.int .i64 a1)).setCell ⟨w3.heap.size, 1, none⟩ (.int .i64 b1)).setCell ⟨w4.heap.size, 1, none⟩ (.int .i64 b1))) := ⟨V6', V7', V8', X0', X1', X2', hB5'⟩
    clear V6 V7 V8 V6' V7' V8' X0 X1 X2 X0' X1' X2' hB5 hB5' N7
    go_wp2_with fail
    obtain ⟨V6, V7, V8, X0, X1, X2, hB5⟩ := KV.out
    clear KV k00 k01 k02 k03 k10 k11 k12 k13 k20 k21 k22 k23 z10 z11 z20 z21
    generalize hU : (((w5.setCell ⟨w3.heap.size, 0, none⟩ (.int .i64 a1)).setCell ⟨w4.heap.size, 0, none⟩ (.int .i64 a1)).setCell ⟨w3.heap.size, 1, none⟩ (.int .i64 b1)).setCell ⟨w4.heap.size, 1, none⟩ (.int .i64 b1) = u5 at V6 V7 V8 X0 X1 X2 hB5 ⊢
    clear hU
    obtain ⟨k00, k01, k02, k03⟩ := Vr.cells V6
    obtain ⟨k10, k11, k12, k13⟩ := Vr.cells V7
    obtain ⟨k20, k21, k22, k23⟩ := Vr.cells V8
    obtain ⟨k30, k31, k32, k33⟩ := Vr.cells X0
    obtain ⟨k40, k41, k42, k43⟩ := Vr.cells X1
    obtain ⟨k50, k51, k52, k53⟩ := Vr.cells X2
    have z00 := Vr.frozen X0 0
    have z01 := Vr.frozen X0 1
    have z02 := Vr.frozen X0 2
    have z03 := Vr.frozen X0 3
    have z10 := Vr.frozen X1 0
    have z11 := Vr.frozen X1 1
    have z12 := Vr.frozen X1 2
    have z13 := Vr.frozen X1 3
    have z20 := Vr.frozen X2 0
    have z21 := Vr.frozen X2 1
    have z22 := Vr.frozen X2 2
    have z23 := Vr.frozen X2 3
    have E67 : w2.heap.size ≠ w.heap.size := by omega
    have E68 : w2.heap.size ≠ w.heap.size + 1 := by omega
    have E77 : w3.heap.size ≠ w.heap.size := by omega
    have E78 : w3.heap.size ≠ w.heap.size + 1 := by omega
    have E87 : w4.heap.size ≠ w.heap.size := by omega
    have E88 : w4.heap.size ≠ w.heap.size + 1 := by omega
    have E10 : w.heap.size + 1 ≠ w.heap.size := by omega
    have E20 : w.heap.size + 1 + 1 ≠ w.heap.size := by omega
    have E21 : w.heap.size + 1 + 1 ≠ w.heap.size + 1 := by omega
    have F2 : Hid (Vr ((((((((((((u5.setCell ⟨w.heap.size, 0, none⟩ (.int .i64 a1)).setCell ⟨w.heap.size, 1, none⟩ (.int .i64 b1)).setCell ⟨w.heap.size, 2, none⟩ (.int .i64 c1)).setCell ⟨w.heap.size, 3, none⟩ (.string p1)).setCell ⟨w.heap.size + 1, 0, none⟩ (.int .i64 a1)).setCell ⟨w.heap.size + 1, 1, none⟩ (.int .i64 b1)).setCell ⟨w.heap.size + 1, 2, none⟩ (.int .i64 c2)).setCell ⟨w.heap.size + 1, 3, none⟩ (.string p2)).setCell ⟨w.heap.size + 1 + 1, 0, none⟩ (.int .i64 a1)).setCell ⟨w.heap.size + 1 + 1, 1, none⟩ (.int .i64 b1)).setCell ⟨w.heap.size + 1 + 1, 2, none⟩ (.int .i64 c3)).setCell ⟨w.heap.size + 1 + 1, 3, none⟩ (.string p3)).drew (w.heap.size + 1 + 1) a1 b1 c3 p3) := Vr.drew (w := (put4 (put4 (put4 u5 w.heap.size a1 b1 c1 p1) (w.heap.size + 1) a1 b1 c2 p2) (w.heap.size + 1 + 1) a1 b1 c3 p3)) (put4_row (put4_other (w := (put4 u5 w.heap.size a1 b1 c1 p1)) (put4_other (w := u5) X2 E20 _ _ _ _) E21 _ _ _ _) a1 b1 c3 p3)
    have F1 : Hid (Vr ((((((((((((u5.setCell ⟨w.heap.size, 0, none⟩ (.int .i64 a1)).setCell ⟨w.heap.size, 1, none⟩ (.int .i64 b1)).setCell ⟨w.heap.size, 2, none⟩ (.int .i64 c1)).setCell ⟨w.heap.size, 3, none⟩ (.string p1)).setCell ⟨w.heap.size + 1, 0, none⟩ (.int .i64 a1)).setCell ⟨w.heap.size + 1, 1, none⟩ (.int .i64 b1)).setCell ⟨w.heap.size + 1, 2, none⟩ (.int .i64 c2)).setCell ⟨w.heap.size + 1, 3, none⟩ (.string p2)).setCell ⟨w.heap.size + 1 + 1, 0, none⟩ (.int .i64 a1)).setCell ⟨w.heap.size + 1 + 1, 1, none⟩ (.int .i64 b1)).setCell ⟨w.heap.size + 1 + 1, 2, none⟩ (.int .i64 c3)).setCell ⟨w.heap.size + 1 + 1, 3, none⟩ (.string p3)).drew (w.heap.size + 1) a1 b1 c2 p2) := Vr.drew (w := (put4 (put4 (put4 u5 w.heap.size a1 b1 c1 p1) (w.heap.size + 1) a1 b1 c2 p2) (w.heap.size + 1 + 1) a1 b1 c3 p3)) (put4_other (w := (put4 (put4 u5 w.heap.size a1 b1 c1 p1) (w.heap.size + 1) a1 b1 c2 p2)) (put4_row (put4_other (w := u5) X1 E10 _ _ _ _) a1 b1 c2 p2) E21.symm _ _ _ _)
    have F0 : Hid (Vr ((((((((((((u5.setCell ⟨w.heap.size, 0, none⟩ (.int .i64 a1)).setCell ⟨w.heap.size, 1, none⟩ (.int .i64 b1)).setCell ⟨w.heap.size, 2, none⟩ (.int .i64 c1)).setCell ⟨w.heap.size, 3, none⟩ (.string p1)).setCell ⟨w.heap.size + 1, 0, none⟩ (.int .i64 a1)).setCell ⟨w.heap.size + 1, 1, none⟩ (.int .i64 b1)).setCell ⟨w.heap.size + 1, 2, none⟩ (.int .i64 c2)).setCell ⟨w.heap.size + 1, 3, none⟩ (.string p2)).setCell ⟨w.heap.size + 1 + 1, 0, none⟩ (.int .i64 a1)).setCell ⟨w.heap.size + 1 + 1, 1, none⟩ (.int .i64 b1)).setCell ⟨w.heap.size + 1 + 1, 2, none⟩ (.int .i64 c3)).setCell ⟨w.heap.size + 1 + 1, 3, none⟩ (.string p3)).drew w.heap.size a1 b1 c1 p1) := Vr.drew (w := (put4 (put4 (put4 u5 w.heap.size a1 b1 c1 p1) (w.heap.size + 1) a1 b1 c2 p2) (w.heap.size + 1 + 1) a1 b1 c3 p3)) (put4_other (w := (put4 (put4 u5 w.heap.size a1 b1 c1 p1) (w.heap.size + 1) a1 b1 c2 p2)) (put4_other (w := (put4 u5 w.heap.size a1 b1 c1 p1)) (put4_row (w := u5) X0 a1 b1 c1 p1) E10.symm _ _ _ _) E20.symm _ _ _ _)
    have FB : Hid (Below w.heap.size w ((((((((((((u5.setCell ⟨w.heap.size, 0, none⟩ (.int .i64 a1)).setCell ⟨w.heap.size, 1, none⟩ (.int .i64 b1)).setCell ⟨w.heap.size, 2, none⟩ (.int .i64 c1)).setCell ⟨w.heap.size, 3, none⟩ (.string p1)).setCell ⟨w.heap.size + 1, 0, none⟩ (.int .i64 a1)).setCell ⟨w.heap.size + 1, 1, none⟩ (.int .i64 b1)).setCell ⟨w.heap.size + 1, 2, none⟩ (.int .i64 c2)).setCell ⟨w.heap.size + 1, 3, none⟩ (.string p2)).setCell ⟨w.heap.size + 1 + 1, 0, none⟩ (.int .i64 a1)).setCell ⟨w.heap.size + 1 + 1, 1, none⟩ (.int .i64 b1)).setCell ⟨w.heap.size + 1 + 1, 2, none⟩ (.int .i64 c3)).setCell ⟨w.heap.size + 1 + 1, 3, none⟩ (.string p3)).drew) := Below.drew (w := (put4 (put4 (put4 u5 w.heap.size a1 b1 c1 p1) (w.heap.size + 1) a1 b1 c2 p2) (w.heap.size + 1 + 1) a1 b1 c3 p3)) (put4_below (put4_below (put4_below hB5 (Nat.le_refl _) _ _ _ _) (by omega) _ _ _ _) (by omega) _ _ _ _)
    clear V6 V7 V8 X0 X1 X2 hB5
    go_region
    go_wp2_with fail
    exact bodyPost_ret (results_rows3 rfl _ _ w.heap.size (w.heap.size + 1) (w.heap.size + 1 + 1) 25 (vc a1 b1 c1 p1) (vc a1 b1 c2 p2) (vc a1 b1 c3 p3) _ rfl rfl rfl F0.out F1.out F2.out Try.underlying25 rfl (sizeV a1 b1 c1 p1) (sizeV a1 b1 c2 p2) (sizeV a1 b1 c3 p3)) rfl ⟨a1, b1, c1, p1, a1, b1, c2, p2, a1, b1, c3, p3, rfl, D1, DD2, DD3, FB.out⟩

end Go.Proofs.Ytnoopfpgkgjdcab.Ver
