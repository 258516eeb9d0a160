/- Texts in one: Ent7, Draw4, Draw5, Mod7, Mod8, EntD, EntQ, Ent6, Puts. -/
import Derived.Test.YtlhmemnaiobgkaaGreatDoorPq10
import Derived.Test.YtlhmemnaiobgkaaGreatDoorPq7
import Derived.Test.YtlhmemnaiobgkaaGreatDoorPq11
import Derived.Test.YtlhmemnaiobgkaaGreatDoorPq5
import Derived.Test.YtlhmemnaiobgkaaGreatDoorPq6
import Derived.Test.YtlhmemnaiobgkaaGreatDoorPq9
import Derived.Test.YtlhmemnaiobgkaaGreatDoorPq2
import Derived.Test.YtlhmemnaiobgkaaGreatDoorPq4
import Derived.Test.YtlhmemnaiobgkaaGreatDoorPq3
import Derived.StillTailTactics
import Derived.Laws.CopyOwn
/- Chapter 5, the specification's side: names. -/
namespace Go.Proofs.YtlhmemnaiobgkaaGreatDoor.Ent
open Go.RowKit Go.Proofs.YtlhmemnaiobgkaaGreatDoor.Mem Go.Proofs.YtlhmemnaiobgkaaGreatDoor.Laws Go.Proofs.YtlhmemnaiobgkaaGreatDoor.Bytes Go.Proofs.YtlhmemnaiobgkaaGreatDoor.Sha Go.Proofs.YtlhmemnaiobgkaaGreatDoor.Ver Go.Proofs.YtlhmemnaiobgkaaGreatDoor.Mod
set_option linter.unusedVariables false
set_option linter.unusedSimpArgs false

/-- the name of a need, or of an entry -/
def name5 (n : Nd) : ByteArray := if n.ok = true then n.path ++ ⟨#[64]⟩ ++ Plain.txt (verText n.a n.b n.c n.pre) else ⟨#[]⟩

def nc5 (n : Nd) : Array Value := #[.string n.path, .int .i64 n.a, .int .i64 n.b, .int .i64 n.c, .string n.pre]
theorem sizeN5 (n : Nd) : (Tryz.prog.info? 38).map (·.size) = some (nc5 n).size := by
  show _ = some 5
  kernel_rfl
theorem oneN5 (n : Nd) : (nc5 n).all (·.oneCell') = true := by simp [nc5, Value.oneCell']
theorem rowStay5 {w w' : World} {g : Nat} {o : Obj} (h : w.heap[g]? = some o) (hb : Below w.heap.size w w') : w'.heap[g]? = some o := (hb.block g (Array.getElem?_eq_some_iff.1 h).1).trans h
def nil5 : Nd := ⟨⟨#[]⟩, 0, 0, 0, ⟨#[]⟩⟩
/-- the need whose name a text is -/
def pn (x : ByteArray) (q : (Int × Int × Int × ByteArray) × Bool) : Nd × Bool :=
  if q.2 = true ∧ fits4 x q.1.1 q.1.2.1 q.1.2.2.1 q.1.2.2.2 = true then (⟨x, q.1.1, q.1.2.1, q.1.2.2.1, q.1.2.2.2⟩, true) else (nil5, false)
def pname (s : ByteArray) : Nd × Bool := match splitT 64 s with
  | [x, y] => pn x (parseV y)
  | _ => (nil5, false)
theorem pname_no {s : ByteArray} (h : (splitT 64 s).length ≠ 2) : pname s = (nil5, false) := by
  unfold pname
  match hs : splitT 64 s with
  | [] => rfl
  | [_] => rfl
  | [_, _] => rw [hs] at h; simp at h
  | _ :: _ :: _ :: _ => rfl

theorem cut_size (t : ByteArray) : (cut t).2.size ≤ t.size := by
  unfold cut
  split
  · simp
  · exact Nat.zero_le _
theorem parse3_size (s u pr : ByteArray) : (parse3 s u pr).1.2.2.2.size ≤ pr.size := by
  unfold parse3
  split
  · split
    · exact Nat.le_refl _
    · exact Nat.zero_le _
  · exact Nat.zero_le _
theorem parseV_size (s : ByteArray) : (parseV s).1.2.2.2.size ≤ s.size := by
  unfold parseV
  split
  · refine Nat.le_trans (parse3_size _ _ _) (Nat.le_trans (cut_size _) ?_)
    simp
  · exact Nat.zero_le _
theorem region_tail5 {P : Program} {id : Nat} {Q : Exit → Act → World → Prop} {a : Act} {w : World} {l : List Oper} (n : Nat) (hm : P.follows .mixedOrders = true) (hB : Region.lexTailB .any l.toArray n = true)
    (h : wpStill P l.toArray w.drew (fun a' => wpList P l.toArray Q (l.drop n) a' w.drew) (l.take n) a) : (Code.region id l.toArray true).wp P Q a w := wp_region_still_tail n hm hB h
theorem below_row {B g : Nat} {a w : World} (h : Below B a w) (hg : B ≤ g) (cs : Array Value) : Below B a (w.setRow g cs) := below_setRow h hg cs

end Go.Proofs.YtlhmemnaiobgkaaGreatDoor.Ent

/- Chapter 3's draws: three right versions. -/
namespace Go.Proofs.YtlhmemnaiobgkaaGreatDoor.Ver
open Go.RowKit Go.Proofs.YtlhmemnaiobgkaaGreatDoor.Mem Go.Proofs.YtlhmemnaiobgkaaGreatDoor.Laws Go.Proofs.YtlhmemnaiobgkaaGreatDoor.Bytes Go.Proofs.YtlhmemnaiobgkaaGreatDoor.Sha Go.Proofs.YtlhmemnaiobgkaaGreatDoor.Draw
set_option linter.unusedVariables false
set_option linter.unusedSimpArgs false

theorem size3 (w : World) (A B C : Obj) : (((w.alloc A).alloc B).alloc C).heap.size = w.heap.size + 1 + 1 + 1 := by
  show (((w.heap.push A).push B).push C).size = _
  simp
theorem below3 (w : World) (A B C : Obj) : Below w.heap.size w (((w.alloc A).alloc B).alloc C) := (((Below.refl _ _).alloc (Nat.le_refl _) _).alloc (by simp) _).alloc (by simp; omega) _
theorem last3 (w : World) (A B C : Obj) : (((w.alloc A).alloc B).alloc C).heap[w.heap.size + 1 + 1]? = some C := by
  have h := heap_alloc_new ((w.alloc A).alloc B) C
  have e : ((w.alloc A).alloc B).heap.size = w.heap.size + 1 + 1 := by
    show ((w.heap.push A).push B).size = _
    simp
  rw [e] at h
  exact h
theorem mid3 (w : World) (A B C : Obj) : (((w.alloc A).alloc B).alloc C).heap[w.heap.size + 1]? = some B := by
  rw [heap_alloc_old ((w.alloc A).alloc B) C (show w.heap.size + 1 < ((w.alloc A).alloc B).heap.size by show _ < ((w.heap.push A).push B).size; simp)]
  exact heap_alloc2_new w A B
theorem first3 (w : World) (A B C : Obj) : (((w.alloc A).alloc B).alloc C).heap[w.heap.size]? = some A := by
  rw [heap_alloc_old ((w.alloc A).alloc B) C (show w.heap.size < ((w.alloc A).alloc B).heap.size by show _ < ((w.heap.push A).push B).size; simp; omega)]
  exact heap_alloc2_old w A B

def put4 (w : World) (g : Nat) (a b c : Int) (p : ByteArray) : World := (put3 w g a b c).setCell ⟨g, 3, none⟩ (.string p)
theorem put4_row {w : World} {g : Nat} {a b c : Int} {p : ByteArray} (h : Vr w g a b c p) (a' b' c' : Int) (p' : ByteArray) : Vr (put4 w g a' b' c' p') g a' b' c' p' := Vr.cellSet (put3_row h a' b' c') 3 _
theorem put4_other {w : World} {g g' : Nat} {a b c : Int} {p : ByteArray} (h : Vr w g a b c p) (hg : g ≠ g') (a' b' c' : Int) (p' : ByteArray) : Vr (put4 w g' a' b' c' p') g a b c p := by
  unfold Vr put4
  rw [Below.heap_setCell _ _ _ _ (by exact hg)]
  exact put3_other h hg a' b' c'
theorem put4_below {B : Nat} {w0 w : World} {g : Nat} (hb : Below B w0 w) (hg : B ≤ g) (a b c : Int) (p : ByteArray) : Below B w0 (put4 w g a b c p) := (put3_below hb hg a b c).setCell (p := ⟨g, 3, none⟩) hg _
theorem results_rows3 {P : Program} {fn : Func} {p q r : Tmp} {ty : TypeId} (h : fn.results = #[.cell p ty, .cell q ty, .cell r ty]) (tmps : Array Value) (w : World) (g1 g2 g3 : Nat) (t : TypeId) (c1 c2 c3 : Array Value) (d : TypeDesc)
    (hp : tmps.getD p undef = .pointer (some ⟨g1, 0, none⟩)) (hq : tmps.getD q undef = .pointer (some ⟨g2, 0, none⟩)) (hr : tmps.getD r undef = .pointer (some ⟨g3, 0, none⟩))
    (h1 : w.heap[g1]? = some (.cells c1 t (0, 0))) (h2 : w.heap[g2]? = some (.cells c2 t (0, 0))) (h3 : w.heap[g3]? = some (.cells c3 t (0, 0)))
    (hu : P.underlying ty = some d) (hd : (match d with | .struct _ | .array _ _ => true | _ => false) = true) (i1 : (P.info? ty).map (·.size) = some c1.size) (i2 : (P.info? ty).map (·.size) = some c2.size) (i3 : (P.info? ty).map (·.size) = some c3.size) :
    (results fn tmps).run P w = .ok (.tuple #[.agg c1, .agg c2, .agg c3]) w := by
  have hp' : tmps[p]?.getD undef = .pointer (some ⟨g1, 0, none⟩) := by simpa using hp
  have hq' : tmps[q]?.getD undef = .pointer (some ⟨g2, 0, none⟩) := by simpa using hq
  have hr' : tmps[r]?.getD undef = .pointer (some ⟨g3, 0, none⟩) := by simpa using hr
  simp [results, h, hp', hq', hr', asAddr, run_loadVar_row w g1 t ty c1 (0, 0) d h1 hu hd i1, run_loadVar_row w g2 t ty c2 (0, 0) d h2 hu hd i2, run_loadVar_row w g3 t ty c3 (0, 0) d h3 hu hd i3]
theorem Vr.drew {w : World} {g : Nat} {a b c : Int} {p : ByteArray} (h : Vr w g a b c p) : Vr w.drew g a b c p := h
theorem Vr.setOther {w : World} {g q : Nat} {a b c : Int} {p : ByteArray} (h : Vr w q a b c p) (hne : q ≠ g) (i : Nat) (v : Value) : Vr (w.setCell ⟨g, i, none⟩ v) q a b c p := by
  unfold Vr
  rw [Below.heap_setCell _ _ _ _ (by exact hne)]
  exact h
theorem Vr.set0 {w : World} {g : Nat} {a b c : Int} {p : ByteArray} (h : Vr w g a b c p) (a' : Int) : Vr (w.setCell ⟨g, 0, none⟩ (.int .i64 a')) g a' b c p := Vr.cellSet h 0 _
theorem Vr.set1 {w : World} {g : Nat} {a b c : Int} {p : ByteArray} (h : Vr w g a b c p) (b' : Int) : Vr (w.setCell ⟨g, 1, none⟩ (.int .i64 b')) g a b' c p := Vr.cellSet h 1 _
theorem Vr.rowOther {w : World} {g q : Nat} {a b c : Int} {p : ByteArray} (h : Vr w q a b c p) (hne : q ≠ g) (cs : Array Value) : Vr (w.setRow g cs) q a b c p := by
  unfold Vr
  rw [setRow_other w g q cs hne]
  exact h
theorem draw_agg (W0 w : World) (g : Nat) (vb : Value) (xs : List Int) (hs : Sl W0 vb (bs xs)) (hby : Byt xs) (hx : xs.length ≤ 140737488355328) (hB : Below W0.heap.size W0 w) (hg : W0.heap.size ≤ g) (hc : Cur w g vb xs.length) :
    Calls Tryz.prog 66 #[.pointer (some ⟨g, 0, none⟩)] w fun e w' => ∃ a b c p, e = .returned (.agg #[.int .i64 a, .int .i64 b, .int .i64 c, .string p]) ∧ Dv a b c p ∧ Drawn W0 w g vb xs w' := draw_any W0 w g vb xs hs hby hx hB hg hc

end Go.Proofs.YtlhmemnaiobgkaaGreatDoor.Ver

/- Chapter 3's draws: whatever version. -/
namespace Go.Proofs.YtlhmemnaiobgkaaGreatDoor.Ver
open Go.RowKit Go.Proofs.YtlhmemnaiobgkaaGreatDoor.Mem Go.Proofs.YtlhmemnaiobgkaaGreatDoor.Laws Go.Proofs.YtlhmemnaiobgkaaGreatDoor.Bytes Go.Proofs.YtlhmemnaiobgkaaGreatDoor.Sha Go.Proofs.YtlhmemnaiobgkaaGreatDoor.Draw
set_option linter.unusedVariables false
set_option linter.unusedSimpArgs false

/-- what else may stand behind a drawn version -/
def oddL : List ByteArray := [⟨#[46]⟩, ⟨#[48, 49]⟩, ⟨#[97, 46, 46, 98]⟩, ⟨#[97, 46, 98, 46, 99, 46, 100]⟩, ⟨#[97, 46, 98, 46, 99, 46, 100, 46, 101]⟩, ⟨#[110, 105, 110, 101, 98, 121, 116, 101, 115]⟩, ⟨#[195, 169]⟩, ⟨#[48]⟩, ⟨#[97, 95, 98]⟩]
theorem oddL_size : ∀ s ∈ oddL, s.size ≤ 9 := by decide
/-- a drawn version of any kind -/
def Av (a b c : Int) (p : ByteArray) : Prop := (-1 ≤ a ∧ a ≤ 1000001) ∧ (0 ≤ b ∧ b < 4) ∧ (-1 ≤ c ∧ c ≤ 1000001) ∧ p.size ≤ 9
theorem Dv.any {a b c : Int} {p : ByteArray} (h : Dv a b c p) : Av a b c p := by
  obtain ⟨h1, h2, h3, h4⟩ := h
  have := preL_size p h4
  exact ⟨by omega, h2, by omega, by omega⟩
theorem Vr.set2 {w : World} {g : Nat} {a b c : Int} {p : ByteArray} (h : Vr w g a b c p) (c' : Int) : Vr (w.setCell ⟨g, 2, none⟩ (.int .i64 c')) g a b c' p := Vr.cellSet h 2 _
theorem Vr.set3 {w : World} {g : Nat} {a b c : Int} {p : ByteArray} (h : Vr w g a b c p) (p' : ByteArray) : Vr (w.setCell ⟨g, 3, none⟩ (.string p')) g a b c p' := Vr.cellSet h 3 _

set_option maxRecDepth 1000000 in
set_option maxHeartbeats 2000000 in
theorem any_any (W0 w : World) (g : Nat) (vb : Value) (xs : List Int) (hs : Sl W0 vb (bs xs)) (hby : Byt xs) (hx : xs.length ≤ 140737488355328) (hB : Below W0.heap.size W0 w) (hg : W0.heap.size ≤ g) (hc : Cur w g vb xs.length) :
    Calls Tryz.prog 70 #[.pointer (some ⟨g, 0, none⟩)] w fun e w' => ∃ a b c p, e = .returned (ver a b c p) ∧ Av a b c p ∧ Drawn W0 w g vb xs w' := by
  have hgw := hc.lt
  have V0 : Vr (w.alloc (.cells (vc 0 0 0 ⟨#[]⟩) 32)) w.heap.size 0 0 0 ⟨#[]⟩ := heap_alloc_new w _
  have hd0 : Drawn W0 w g vb xs (w.alloc (.cells (vc 0 0 0 ⟨#[]⟩) 32)) := (Drawn.refl hB hc).on hg hgw ((Below.refl _ _).alloc (Nat.le_refl _) _)
  go_enter Tryz.func70, Tryz.ntmps70
  go_wp2_with fail
  refine (draw_agg W0 _ g vb xs hs hby hx hd0.below hg hd0.cur).mono ?_
  rintro e w2 ⟨a, b, c, p, rfl, D1, d2⟩
  have A1 := D1.any
  have X2 : Vr w2 w.heap.size 0 0 0 ⟨#[]⟩ := Vr.apart V0 d2.apart (by omega)
  have D2 := hd0.and d2
  have s2 := D2.apart.size
  have t2 := X2.lt
  have gl2 := D2.cur.lt
  have D3 : ∀ o, Drawn W0 w g vb xs (w2.alloc o) := fun o => D2.on hg hgw ((Below.refl _ _).alloc s2 _)
  have X3 : ∀ o, Vr (w2.alloc o) w.heap.size 0 0 0 ⟨#[]⟩ := fun o => Vr.same X2 ((Below.refl _ _).alloc (Nat.le_refl _) _)
  clear V0 hd0 d2 X2 D2
  go_wp2_with fail
  refine (below_any W0 _ g vb xs 12 (by omega) (by omega) hs hby hx (D3 _).below hg (D3 _).cur).mono ?_
  rintro e w3 ⟨x, rfl, x0, x1, d3⟩
  have V3 : Vr w3 w2.heap.size a b c p := Vr.apart (w := w2.alloc (.cells (vc a b c p) 32)) (heap_alloc_new w2 _) d3.apart (by omega)
  have X3' : Vr w3 w.heap.size 0 0 0 ⟨#[]⟩ := Vr.apart (X3 _) d3.apart (by omega)
  have D3' := (D3 _).and d3
  have s3 := D3'.apart.size
  have t3 := V3.lt
  have gl3 := D3'.cur.lt
  have D4 : ∀ o, Drawn W0 w g vb xs (w3.alloc o) := fun o => D3'.on hg hgw ((Below.refl _ _).alloc s3 _)
  have X4 : ∀ o, Vr (w3.alloc o) w.heap.size 0 0 0 ⟨#[]⟩ := fun o => Vr.same X3' ((Below.refl _ _).alloc (Nat.le_refl _) _)
  have V4 : ∀ o, Vr (w3.alloc o) w2.heap.size a b c p := fun o => Vr.same V3 ((Below.refl _ _).alloc (Nat.le_refl _) _)
  clear D3 X3 d3
  by_cases h0 : x = 0
  · have e0 : (x == 0) = true := by simpa using h0
    clear h0 V3 X3' D3'
    go_wp2_with fail
    refine (int_any W0 _ g vb xs w3.heap.size [-1, 1000000, 1000001] (lit_block _ _ _) (by omega) (by simp) (by simp) hs hby hx (D4 _).below hg (D4 _).cur).mono ?_
    rintro e w5 ⟨z, rfl, hm, d5⟩
    have hz : -1 ≤ z ∧ z ≤ 1000001 := by simp at hm; omega
    have V5 : Vr w5 w2.heap.size a b c p := Vr.apart (V4 _) d5.apart (by omega)
    have X5 : Vr w5 w.heap.size 0 0 0 ⟨#[]⟩ := Vr.apart (X4 _) d5.apart (by omega)
    have D5 := (D4 _).and d5
    obtain ⟨k0, k1, k2, k3⟩ := Vr.cells V5
    have zf := Vr.frozen V5 0
    have V6 : Vr (w5.setCell ⟨w2.heap.size, 0, none⟩ (.int .i64 z)) w2.heap.size z b c p := Vr.set0 V5 z
    have X6 : Vr (w5.setCell ⟨w2.heap.size, 0, none⟩ (.int .i64 z)) w.heap.size 0 0 0 ⟨#[]⟩ := Vr.setOther X5 (by omega) _ _
    have D6 : Drawn W0 w g vb xs (w5.setCell ⟨w2.heap.size, 0, none⟩ (.int .i64 z)) := D5.on hg hgw ((Below.refl _ _).setCell (p := ⟨w2.heap.size, 0, none⟩) (show w.heap.size ≤ w2.heap.size by omega) _)
    clear V4 X4 D4 V5 X5 d5 D5 hm
    go_wp2_with (first | (refine wpList_load_row rfl 32 _ rfl w2.heap.size rfl 32 (vc z b c p) (0, 0) _ V6 Tryz.underlying32 rfl (sizeV z b c p) ?_) | (refine wpList_store_row rfl 32 _ _ rfl w.heap.size (vc z b c p) rfl rfl 32 (vc 0 0 0 ⟨#[]⟩) X6 (sizeV z b c p) rfl (oneV z b c p) ?_))
    refine bodyPost_ret (v := .agg (vc z b c p)) (results_cell_row rfl _ _ w.heap.size 32 _ (0, 0) _ rfl (Vr.row X6 z b c p) Tryz.underlying32 rfl (sizeV z b c p)) rfl ⟨z, b, c, p, rfl, ⟨hz, A1.2.1, A1.2.2.1, A1.2.2.2⟩, D6.on hg hgw (below_setRow (Below.refl _ _) (Nat.le_refl _) _)⟩
  by_cases h1 : x = 1
  · have e0 : (x == 0) = false := by simpa using h0
    have e1 : (x == 1) = true := by simpa using h1
    clear h0 h1 V3 X3' D3'
    go_wp2_with fail
    refine (str_any W0 _ g vb xs w3.heap.size oddL (lit_block _ _ _) (by omega) (by decide) (by decide) hs hby hx (D4 _).below hg (D4 _).cur).mono ?_
    rintro e w5 ⟨z, rfl, hm, d5⟩
    have hz := oddL_size z hm
    have V5 : Vr w5 w2.heap.size a b c p := Vr.apart (V4 _) d5.apart (by omega)
    have X5 : Vr w5 w.heap.size 0 0 0 ⟨#[]⟩ := Vr.apart (X4 _) d5.apart (by omega)
    have D5 := (D4 _).and d5
    obtain ⟨k0, k1, k2, k3⟩ := Vr.cells V5
    have zf := Vr.frozen V5 3
    have V6 : Vr (w5.setCell ⟨w2.heap.size, 3, none⟩ (.string z)) w2.heap.size a b c z := Vr.set3 V5 z
    have X6 : Vr (w5.setCell ⟨w2.heap.size, 3, none⟩ (.string z)) w.heap.size 0 0 0 ⟨#[]⟩ := Vr.setOther X5 (by omega) _ _
    have D6 : Drawn W0 w g vb xs (w5.setCell ⟨w2.heap.size, 3, none⟩ (.string z)) := D5.on hg hgw ((Below.refl _ _).setCell (p := ⟨w2.heap.size, 3, none⟩) (show w.heap.size ≤ w2.heap.size by omega) _)
    clear V4 X4 D4 V5 X5 d5 D5 hm
    go_wp2_with (first | (refine wpList_load_row rfl 32 _ rfl w2.heap.size rfl 32 (vc a b c z) (0, 0) _ V6 Tryz.underlying32 rfl (sizeV a b c z) ?_) | (refine wpList_store_row rfl 32 _ _ rfl w.heap.size (vc a b c z) rfl rfl 32 (vc 0 0 0 ⟨#[]⟩) X6 (sizeV a b c z) rfl (oneV a b c z) ?_))
    refine bodyPost_ret (v := .agg (vc a b c z)) (results_cell_row rfl _ _ w.heap.size 32 _ (0, 0) _ rfl (Vr.row X6 a b c z) Tryz.underlying32 rfl (sizeV a b c z)) rfl ⟨a, b, c, z, rfl, ⟨A1.1, A1.2.1, A1.2.2.1, hz⟩, D6.on hg hgw (below_setRow (Below.refl _ _) (Nat.le_refl _) _)⟩
  by_cases h2 : x = 2
  · have e0 : (x == 0) = false := by simpa using h0
    have e1 : (x == 1) = false := by simpa using h1
    have e2 : (x == 2) = true := by simpa using h2
    clear h0 h1 h2 V3 X3' D3'
    go_wp2_with fail
    refine (int_any W0 _ g vb xs w3.heap.size [-1, 1000000, 1000001] (lit_block _ _ _) (by omega) (by simp) (by simp) hs hby hx (D4 _).below hg (D4 _).cur).mono ?_
    rintro e w5 ⟨z, rfl, hm, d5⟩
    have hz : -1 ≤ z ∧ z ≤ 1000001 := by simp at hm; omega
    have V5 : Vr w5 w2.heap.size a b c p := Vr.apart (V4 _) d5.apart (by omega)
    have X5 : Vr w5 w.heap.size 0 0 0 ⟨#[]⟩ := Vr.apart (X4 _) d5.apart (by omega)
    have D5 := (D4 _).and d5
    obtain ⟨k0, k1, k2, k3⟩ := Vr.cells V5
    have zf := Vr.frozen V5 2
    have V6 : Vr (w5.setCell ⟨w2.heap.size, 2, none⟩ (.int .i64 z)) w2.heap.size a b z p := Vr.set2 V5 z
    have X6 : Vr (w5.setCell ⟨w2.heap.size, 2, none⟩ (.int .i64 z)) w.heap.size 0 0 0 ⟨#[]⟩ := Vr.setOther X5 (by omega) _ _
    have D6 : Drawn W0 w g vb xs (w5.setCell ⟨w2.heap.size, 2, none⟩ (.int .i64 z)) := D5.on hg hgw ((Below.refl _ _).setCell (p := ⟨w2.heap.size, 2, none⟩) (show w.heap.size ≤ w2.heap.size by omega) _)
    clear V4 X4 D4 V5 X5 d5 D5 hm
    go_wp2_with (first | (refine wpList_load_row rfl 32 _ rfl w2.heap.size rfl 32 (vc a b z p) (0, 0) _ V6 Tryz.underlying32 rfl (sizeV a b z p) ?_) | (refine wpList_store_row rfl 32 _ _ rfl w.heap.size (vc a b z p) rfl rfl 32 (vc 0 0 0 ⟨#[]⟩) X6 (sizeV a b z p) rfl (oneV a b z p) ?_))
    refine bodyPost_ret (v := .agg (vc a b z p)) (results_cell_row rfl _ _ w.heap.size 32 _ (0, 0) _ rfl (Vr.row X6 a b z p) Tryz.underlying32 rfl (sizeV a b z p)) rfl ⟨a, b, z, p, rfl, ⟨A1.1, A1.2.1, hz, A1.2.2.2⟩, D6.on hg hgw (below_setRow (Below.refl _ _) (Nat.le_refl _) _)⟩
  have e0 : (x == 0) = false := by simpa using h0
  have e1 : (x == 1) = false := by simpa using h1
  have e2 : (x == 2) = false := by simpa using h2
  clear h0 h1 h2 V4 X4 D4
  go_wp2_with (first | (refine wpList_load_row rfl 32 _ rfl w2.heap.size rfl 32 (vc a b c p) (0, 0) _ V3 Tryz.underlying32 rfl (sizeV a b c p) ?_) | (refine wpList_store_row rfl 32 _ _ rfl w.heap.size (vc a b c p) rfl rfl 32 (vc 0 0 0 ⟨#[]⟩) X3' (sizeV a b c p) rfl (oneV a b c p) ?_))
  refine bodyPost_ret (v := .agg (vc a b c p)) (results_cell_row rfl _ _ w.heap.size 32 _ (0, 0) _ rfl (Vr.row X3' a b c p) Tryz.underlying32 rfl (sizeV a b c p)) rfl ⟨a, b, c, p, rfl, A1, D3'.on hg hgw (below_setRow (Below.refl _ _) (Nat.le_refl _) _)⟩

theorem any_agg (W0 w : World) (g : Nat) (vb : Value) (xs : List Int) (hs : Sl W0 vb (bs xs)) (hby : Byt xs) (hx : xs.length ≤ 140737488355328) (hB : Below W0.heap.size W0 w) (hg : W0.heap.size ≤ g) (hc : Cur w g vb xs.length) :
    Calls Tryz.prog 70 #[.pointer (some ⟨g, 0, none⟩)] w fun e w' => ∃ a b c p, e = .returned (.agg #[.int .i64 a, .int .i64 b, .int .i64 c, .string p]) ∧ Av a b c p ∧ Drawn W0 w g vb xs w' := any_any W0 w g vb xs hs hby hx hB hg hc

end Go.Proofs.YtlhmemnaiobgkaaGreatDoor.Ver

/- Chapter 4's draws: a path; whatever path; a path and a version. -/
namespace Go.Proofs.YtlhmemnaiobgkaaGreatDoor.Mod
open Go.RowKit Go.Proofs.YtlhmemnaiobgkaaGreatDoor.Mem Go.Proofs.YtlhmemnaiobgkaaGreatDoor.Laws Go.Proofs.YtlhmemnaiobgkaaGreatDoor.Bytes Go.Proofs.YtlhmemnaiobgkaaGreatDoor.Sha Go.Proofs.YtlhmemnaiobgkaaGreatDoor.Draw Go.Proofs.YtlhmemnaiobgkaaGreatDoor.Ver
set_option linter.unusedVariables false
set_option linter.unusedSimpArgs false

def pathL : List ByteArray := [⟨#[97, 46, 111, 114, 103, 47, 120]⟩, ⟨#[97, 46, 111, 114, 103, 47, 121]⟩, ⟨#[98, 46, 105, 111, 47, 122]⟩, ⟨#[98, 46, 105, 111, 47, 122, 47, 118, 50]⟩, ⟨#[99]⟩, ⟨#[97, 46, 111, 114, 103, 47, 119]⟩]
def oddP : List ByteArray := [⟨#[]⟩, ⟨#[47]⟩, ⟨#[97, 47, 47, 98]⟩, ⟨#[65]⟩, ⟨#[45, 97]⟩, ⟨#[97, 47, 118, 49]⟩, ⟨#[97, 47, 118, 50]⟩, ⟨#[97, 47, 118, 48, 50]⟩, ⟨#[118, 50]⟩, ⟨#[97, 47, 118, 49, 48, 48, 48]⟩, ⟨#[97, 47, 118, 49, 48, 48, 49]⟩, ⟨#[97, 47, 98, 47, 99, 47, 100, 47, 101, 47, 102]⟩, ⟨#[97, 47, 98, 47, 99, 47, 100, 47, 101, 47, 102, 47, 103]⟩, ⟨#[116, 119, 101, 110, 116, 121, 111, 110, 101, 98, 121, 116, 101, 115, 45, 116, 119, 101, 110, 116, 121]⟩, ⟨#[97, 46, 98, 95, 99, 45, 100, 47, 118, 51]⟩, ⟨#[46, 97]⟩]
theorem pathL_size : ∀ s ∈ pathL, s.size ≤ 60 := by decide
theorem oddP_size : ∀ s ∈ oddP, s.size ≤ 60 := by decide

set_option maxRecDepth 1000000 in
set_option maxHeartbeats 1000000 in
theorem path_any (W0 w : World) (g : Nat) (vb : Value) (xs : List Int) (hs : Sl W0 vb (bs xs)) (hby : Byt xs) (hx : xs.length ≤ 140737488355328) (hB : Below W0.heap.size W0 w) (hg : W0.heap.size ≤ g) (hc : Cur w g vb xs.length) :
    Calls Tryz.prog 65 #[.pointer (some ⟨g, 0, none⟩)] w fun e w' => ∃ s, e = .returned (.string s) ∧ s ∈ pathL ∧ Drawn W0 w g vb xs w' := by
  have hgw := hc.lt
  have D1 : ∀ o, Drawn W0 w g vb xs (w.alloc o) := fun o => (Drawn.refl hB hc).on hg hgw ((Below.refl _ _).alloc (Nat.le_refl _) _)
  go_enter Tryz.func65, Tryz.ntmps65
  go_wp2_with fail
  refine (str_any W0 _ g vb xs w.heap.size pathL (lit_block _ _ _) (by omega) (by decide) (by decide) hs hby hx (D1 _).below hg (D1 _).cur).mono ?_
  rintro e w5 ⟨z, rfl, hm, d5⟩
  have D5 := (D1 _).and d5
  clear D1
  go_wp2_with fail
  go_ret
  exact ⟨z, rfl, hm, D5⟩

set_option maxRecDepth 1000000 in
set_option maxHeartbeats 1000000 in
theorem anyP_any (W0 w : World) (g : Nat) (vb : Value) (xs : List Int) (hs : Sl W0 vb (bs xs)) (hby : Byt xs) (hx : xs.length ≤ 140737488355328) (hB : Below W0.heap.size W0 w) (hg : W0.heap.size ≤ g) (hc : Cur w g vb xs.length) :
    Calls Tryz.prog 69 #[.pointer (some ⟨g, 0, none⟩)] w fun e w' => ∃ s, e = .returned (.string s) ∧ s.size ≤ 60 ∧ Drawn W0 w g vb xs w' := by
  have hgw := hc.lt
  go_enter Tryz.func69, Tryz.ntmps69
  go_wp2_with fail
  refine (once_any W0 _ g vb xs 4 (by omega) (by omega) hs hby hx hB hg hc).mono ?_
  rintro e w1 ⟨on, rfl, d1⟩
  have s1 := d1.apart.size
  have gl1 := d1.cur.lt
  have D1 : ∀ o, Drawn W0 w g vb xs (w1.alloc o) := fun o => d1.on hg hgw ((Below.refl _ _).alloc s1 _)
  cases on
  · go_wp2_with fail
    refine (path_any W0 _ g vb xs hs hby hx d1.below hg d1.cur).mono ?_
    rintro e w5 ⟨z, rfl, hm, d5⟩
    have D5 := d1.and d5
    clear D1
    go_wp2_with fail
    go_ret
    exact ⟨z, rfl, pathL_size z hm, D5⟩
  · go_wp2_with fail
    refine (str_any W0 _ g vb xs w1.heap.size oddP (lit_block _ _ _) (by omega) (by decide) (by decide) hs hby hx (D1 _).below hg (D1 _).cur).mono ?_
    rintro e w5 ⟨z, rfl, hm, d5⟩
    have D5 := (D1 _).and d5
    clear D1
    go_wp2_with fail
    go_ret
    exact ⟨z, rfl, oddP_size z hm, D5⟩

end Go.Proofs.YtlhmemnaiobgkaaGreatDoor.Mod

/- Chapter 4's draws: a path and a version. -/
namespace Go.Proofs.YtlhmemnaiobgkaaGreatDoor.Mod
open Go.RowKit Go.Proofs.YtlhmemnaiobgkaaGreatDoor.Mem Go.Proofs.YtlhmemnaiobgkaaGreatDoor.Laws Go.Proofs.YtlhmemnaiobgkaaGreatDoor.Bytes Go.Proofs.YtlhmemnaiobgkaaGreatDoor.Sha Go.Proofs.YtlhmemnaiobgkaaGreatDoor.Draw Go.Proofs.YtlhmemnaiobgkaaGreatDoor.Ver
set_option linter.unusedVariables false
set_option linter.unusedSimpArgs false

theorem results_tmp_row {P : Program} {fn : Func} {p u : Tmp} {ty : TypeId} (h : fn.results = #[.tmp u, .cell p ty]) (tmps : Array Value) (w : World) (g : Nat) (t : TypeId) (cs : Array Value) (fr : Nat × Nat) (d : TypeDesc)
    (hp : tmps.getD p undef = .pointer (some ⟨g, 0, none⟩)) (hh : w.heap[g]? = some (.cells cs t fr)) (hu : P.underlying ty = some d) (hd : (match d with | .struct _ | .array _ _ => true | _ => false) = true) (hi : (P.info? ty).map (·.size) = some cs.size) :
    (results fn tmps).run P w = .ok (.tuple #[tmps.getD u undef, .agg cs]) w := by
  have hp' : tmps[p]?.getD undef = .pointer (some ⟨g, 0, none⟩) := by simpa using hp
  simp [results, h, hp', asAddr, run_loadVar_row w g t ty cs fr d hh hu hd hi]

end Go.Proofs.YtlhmemnaiobgkaaGreatDoor.Mod

/- Chapter 5, draws: a need. -/
namespace Go.Proofs.YtlhmemnaiobgkaaGreatDoor.Ent
open Go.RowKit Go.Proofs.YtlhmemnaiobgkaaGreatDoor.Mem Go.Proofs.YtlhmemnaiobgkaaGreatDoor.Laws Go.Proofs.YtlhmemnaiobgkaaGreatDoor.Bytes Go.Proofs.YtlhmemnaiobgkaaGreatDoor.Sha Go.Proofs.YtlhmemnaiobgkaaGreatDoor.Ver Go.Proofs.YtlhmemnaiobgkaaGreatDoor.Mod Go.Proofs.YtlhmemnaiobgkaaGreatDoor.Draw
set_option linter.unusedVariables false
set_option linter.unusedSimpArgs false

theorem pathL_ok : ∀ s ∈ pathL, path4 (sb s) = true ∧ (major4 s = 1 ∨ major4 s = 2) := by decide +kernel
theorem preL_ok : ∀ p ∈ preL, (decide (p.size = 0) || Ver.pre (sb p)) = true := by decide +kernel
theorem rowApart {w w' : World} {g q : Nat} {o : Obj} (h : w.heap[q]? = some o) (ha : Apart g (g + 1) w w') (hne : q ≠ g) : w'.heap[q]? = some o := (ha.block q (Array.getElem?_eq_some_iff.1 h).1 (by omega)).trans h

/-- what a drawn need is -/
def Dn (n : Nd) : Prop := n.path ∈ pathL ∧ n.ok = true ∧ n.pre ∈ preL
theorem Dn.size {n : Nd} (h : Dn n) : n.path.size ≤ 60 ∧ n.pre.size ≤ 9 := ⟨pathL_size _ h.1, Nat.le_trans (preL_size _ h.2.2) (by omega)⟩
theorem dn_of {s : ByteArray} {a b c : Int} {p : ByteArray} (hs : s ∈ pathL) (hd : Dv a b c p) {m : Int} (hm : m = major4 s ∨ (major4 s = 1 ∧ m = 0)) : Dn ⟨s, m, b, c, p⟩ := by
  obtain ⟨h1, h2⟩ := pathL_ok s hs
  obtain ⟨_, hb, hc, hp⟩ := hd
  refine ⟨hs, ?_, hp⟩
  have hok : okV m b c p = true := by
    unfold okV inM
    rw [preL_ok p hp]
    simp
    omega
  show fits4 s m b c p = true
  unfold fits4
  rw [hok]
  simp
  omega

set_option maxRecDepth 1000000 in
set_option maxHeartbeats 2000000 in
theorem need_any (W0 w : World) (g : Nat) (vb : Value) (xs : List Int) (hs : Sl W0 vb (bs xs)) (hby : Byt xs) (hx : xs.length ≤ 140737488355328) (hB : Below W0.heap.size W0 w) (hg : W0.heap.size ≤ g) (hc : Cur w g vb xs.length) :
    Calls Tryz.prog 37 #[.pointer (some ⟨g, 0, none⟩)] w fun e w' => ∃ n : Nd, e = .returned (.agg #[.string n.path, .int .i64 n.a, .int .i64 n.b, .int .i64 n.c, .string n.pre]) ∧ Dn n ∧ Drawn W0 w g vb xs w' := by
  have hgw := hc.lt
  obtain ⟨W1, HW1, HR1, HD1⟩ : ∃ W1, Hid (w.alloc (.cells #[.string ⟨#[]⟩, .int .i64 0, .int .i64 0, .int .i64 0, .string ⟨#[]⟩] 38) = W1) ∧ Hid (W1.heap[w.heap.size]? = some (.cells (nc5 nil5) 38 (0, 0))) ∧ Hid (Drawn W0 w g vb xs W1) :=
    ⟨_, rfl, heap_alloc_new w _, (Drawn.refl hB hc).on hg hgw ((Below.refl _ _).alloc (Nat.le_refl _) _)⟩
  have q1 := path_any W0 W1 g vb xs hs hby hx HD1.out.below hg HD1.out.cur
  rw [← HW1.out] at q1
  go_enter Tryz.func37, Tryz.ntmps37
  go_wp2_with fail
  refine q1.mono ?_
  rw [HW1.out]
  rintro e w2 ⟨s, rfl, hsm, d2⟩
  have D2 : Hid (Drawn W0 w g vb xs w2) := HD1.out.and d2
  have R2 : Hid (w2.heap[w.heap.size]? = some (.cells (nc5 nil5) 38 (0, 0))) := rowApart HR1.out d2.apart (by omega)
  have q2 := draw_agg W0 w2 g vb xs hs hby hx D2.out.below hg D2.out.cur
  clear q1 HW1 HR1 HD1 d2
  go_wp2_with fail
  refine q2.mono ?_
  rintro e w3 ⟨a, b, c, p, rfl, hdv, d3⟩
  have D3 : Drawn W0 w g vb xs w3 := D2.out.and d3
  have hlt3 : w.heap.size < w3.heap.size := Nat.lt_of_lt_of_le (Array.getElem?_eq_some_iff.1 R2.out).1 d3.apart.size
  have hsz := pathL_size s hsm
  obtain ⟨W4, HW4, HR4, HN4, HD4⟩ : ∃ W4, Hid (w3.alloc (.cells #[.string s, .int .i64 a, .int .i64 b, .int .i64 c, .string p] 38) = W4) ∧ Hid (W4.heap[w.heap.size]? = some (.cells (nc5 nil5) 38 (0, 0))) ∧ Hid (Nr W4 w3.heap.size ⟨s, a, b, c, p⟩) ∧ Hid (Drawn W0 w g vb xs W4) :=
    ⟨_, rfl, rowKeep (rowApart R2.out d3.apart (by omega)) ((Below.refl _ _).alloc (Nat.le_refl _) _), heap_alloc_new w3 _, D3.on hg hgw ((Below.refl _ _).alloc (by omega) _)⟩
  have q3 := major_spec W4 s (by omega)
  rw [← HW4.out] at q3
  clear q2 R2 D2 d3 D3
  go_wp2_with fail
  refine q3.mono ?_
  rw [HW4.out]
  rintro e w5 ⟨rfl, b5⟩
  have R5 : Hid (w5.heap[w.heap.size]? = some (.cells (nc5 nil5) 38 (0, 0))) := rowKeep HR4.out b5
  have N5 : Nr w5 w3.heap.size ⟨s, a, b, c, p⟩ := rowKeep HN4.out b5
  have D5 : Hid (Drawn W0 w g vb xs w5) := HD4.out.on hg hgw (b5.mono (Nat.le_trans (by omega) (Nat.le_of_lt (Array.getElem?_eq_some_iff.1 HN4.out).1)))
  obtain ⟨k0, k1, k2, k3, k4⟩ := Nr.cells N5
  have f1 : w5.frozen? ⟨w3.heap.size, 1, none⟩ = false := frozen_of_row w5 _ 1 _ _ N5
  have hmj := pathL_ok s hsm
  obtain ⟨m, hm⟩ : ∃ m, major4 s = m := ⟨_, rfl⟩
  rw [hm]
  have HM : Hid (major4 s = m) := hm
  obtain ⟨W6, HW6, HR6, HN6, HD6⟩ : ∃ W6, Hid (w5.setCell ⟨w3.heap.size, 1, none⟩ (.int .i64 m) = W6) ∧ Hid (W6.heap[w.heap.size]? = some (.cells (nc5 nil5) 38 (0, 0))) ∧ Hid (Nr W6 w3.heap.size ⟨s, m, b, c, p⟩) ∧ Hid (Drawn W0 w g vb xs W6) := by
    refine ⟨_, rfl, (heap_setCell_other w5 ⟨w3.heap.size, 1, none⟩ _ _ (by show w.heap.size ≠ w3.heap.size; omega)).trans R5.out, ?_, D5.out.on hg hgw ((Below.refl _ _).setCell (p := ⟨w3.heap.size, 1, none⟩) (by show _ ≤ w3.heap.size; omega) _)⟩
    show (w5.setCell _ _).heap[w3.heap.size]? = _
    rw [heap_setCell_same w5 _ 1 _ _ _ N5]
    rfl
  have c1 : (w5.setCell ⟨w3.heap.size, 1, none⟩ (.int .i64 m)).cell? ⟨w3.heap.size, 1, none⟩ = some (.int .i64 m) := by rw [HW6.out]; exact (Nr.cells HN6.out).2.1
  clear q3 HW4 HR4 HN4 HD4 R5 N5 D5 k2 k3 k4 b5 hm
  by_cases hm1 : m = 1
  · have q4 := once_any W0 W6 g vb xs 4 (by omega) (by omega) hs hby hx HD6.out.below hg HD6.out.cur
    rw [← HW6.out] at q4
    have dm : (m == 1) = true := by simpa using hm1
    have HM1 : Hid (m = 1) := hm1
    clear hm1
    go_wp2_with fail
    refine q4.mono ?_
    rw [HW6.out]
    rintro e w7 ⟨on, rfl, d7⟩
    have R7 : Hid (w7.heap[w.heap.size]? = some (.cells (nc5 nil5) 38 (0, 0))) := rowApart HR6.out d7.apart (by omega)
    have N7 : Nr w7 w3.heap.size ⟨s, m, b, c, p⟩ := rowApart HN6.out d7.apart (by omega)
    have D7 : Hid (Drawn W0 w g vb xs w7) := HD6.out.and d7
    clear q4 c1 k0 k1 f1 HW6 HR6 HN6 HD6 d7
    cases on
    · have HDn : Hid (Dn ⟨s, m, b, c, p⟩) := dn_of hsm hdv (.inl HM.out.symm)
      have N7' : Hid _ := N7
      clear N7
      go_wp2_with (first | (refine wpList_load_row rfl 38 _ rfl w3.heap.size rfl 38 (nc5 ⟨s, m, b, c, p⟩) (0, 0) _ N7'.out Tryz.underlying38 rfl (sizeN5 _) ?_) | (refine wpList_store_row rfl 38 _ _ rfl w.heap.size (nc5 ⟨s, m, b, c, p⟩) rfl rfl 38 _ R7.out (sizeN5 _) rfl (oneN5 _) ?_))
      exact bodyPost_ret (v := .agg (nc5 ⟨s, m, b, c, p⟩)) (results_cell_row rfl _ _ w.heap.size 38 _ (0, 0) _ rfl (setRow_heap _ _ _ _ _ (0, 0) R7.out) Tryz.underlying38 rfl (sizeN5 _)) rfl ⟨⟨s, m, b, c, p⟩, rfl, HDn.out, (D7.out).on hg hgw (below_setRow (Below.refl _ _) (Nat.le_refl _) _)⟩
    · have HDn : Hid (Dn ⟨s, 0, b, c, p⟩) := dn_of hsm hdv (.inr ⟨by rw [HM.out, HM1.out], rfl⟩)
      have k1 := (Nr.cells N7).2.1
      have f1 : w7.frozen? ⟨w3.heap.size, 1, none⟩ = false := frozen_of_row w7 _ 1 _ _ N7
      have HN8 : Hid (Nr (w7.setCell ⟨w3.heap.size, 1, none⟩ (.int .i64 0)) w3.heap.size ⟨s, 0, b, c, p⟩) := by
        show (w7.setCell _ _).heap[w3.heap.size]? = _
        rw [heap_setCell_same w7 _ 1 _ _ _ N7]
        rfl
      have HR8 : Hid ((w7.setCell ⟨w3.heap.size, 1, none⟩ (.int .i64 0)).heap[w.heap.size]? = some (.cells (nc5 nil5) 38 (0, 0))) := (heap_setCell_other w7 ⟨w3.heap.size, 1, none⟩ _ _ (by show w.heap.size ≠ w3.heap.size; omega)).trans R7.out
      have HD8 : Hid (Drawn W0 w g vb xs (w7.setCell ⟨w3.heap.size, 1, none⟩ (.int .i64 0))) := D7.out.on hg hgw ((Below.refl _ _).setCell (p := ⟨w3.heap.size, 1, none⟩) (by show _ ≤ w3.heap.size; omega) _)
      clear N7 R7 D7
      go_wp2_with (first | (refine wpList_load_row rfl 38 _ rfl w3.heap.size rfl 38 (nc5 ⟨s, 0, b, c, p⟩) (0, 0) _ HN8.out Tryz.underlying38 rfl (sizeN5 _) ?_) | (refine wpList_store_row rfl 38 _ _ rfl w.heap.size (nc5 ⟨s, 0, b, c, p⟩) rfl rfl 38 _ HR8.out (sizeN5 _) rfl (oneN5 _) ?_))
      exact bodyPost_ret (v := .agg (nc5 ⟨s, 0, b, c, p⟩)) (results_cell_row rfl _ _ w.heap.size 38 _ (0, 0) _ rfl (setRow_heap _ _ _ _ _ (0, 0) HR8.out) Tryz.underlying38 rfl (sizeN5 _)) rfl ⟨⟨s, 0, b, c, p⟩, rfl, HDn.out, (HD8.out).on hg hgw (below_setRow (Below.refl _ _) (Nat.le_refl _) _)⟩
  · have dm : (m == 1) = false := by simpa using hm1
    have HDn : Hid (Dn ⟨s, m, b, c, p⟩) := dn_of hsm hdv (.inl HM.out.symm)
    rw [← HW6.out] at HR6 HN6 HD6
    clear hm1 k0
    go_wp2_with (first | (refine wpList_load_row rfl 38 _ rfl w3.heap.size rfl 38 (nc5 ⟨s, m, b, c, p⟩) (0, 0) _ HN6.out Tryz.underlying38 rfl (sizeN5 _) ?_) | (refine wpList_store_row rfl 38 _ _ rfl w.heap.size (nc5 ⟨s, m, b, c, p⟩) rfl rfl 38 _ HR6.out (sizeN5 _) rfl (oneN5 _) ?_))
    exact bodyPost_ret (v := .agg (nc5 ⟨s, m, b, c, p⟩)) (results_cell_row rfl _ _ w.heap.size 38 _ (0, 0) _ rfl (setRow_heap _ _ _ _ _ (0, 0) HR6.out) Tryz.underlying38 rfl (sizeN5 _)) rfl ⟨⟨s, m, b, c, p⟩, rfl, HDn.out, (HD6.out).on hg hgw (below_setRow (Below.refl _ _) (Nat.le_refl _) _)⟩

end Go.Proofs.YtlhmemnaiobgkaaGreatDoor.Ent

/- Chapter 5, draws: a need put in order; plain facts alone. -/
namespace Go.Proofs.YtlhmemnaiobgkaaGreatDoor.Ent
open Go.RowKit Go.Proofs.YtlhmemnaiobgkaaGreatDoor.Mem Go.Proofs.YtlhmemnaiobgkaaGreatDoor.Laws Go.Proofs.YtlhmemnaiobgkaaGreatDoor.Bytes Go.Proofs.YtlhmemnaiobgkaaGreatDoor.Sha Go.Proofs.YtlhmemnaiobgkaaGreatDoor.Ver Go.Proofs.YtlhmemnaiobgkaaGreatDoor.Mod Go.Proofs.YtlhmemnaiobgkaaGreatDoor.Draw
set_option linter.unusedVariables false
set_option linter.unusedSimpArgs false

/-- one round of putting n in order -/
def stepA (n : Nd) (s : List Nd × Bool) (x : Nd) : List Nd × Bool := if (!s.2 && !ltT x.path n.path) = true then (s.1 ++ [n], true) else s
def stepB (n : Nd) (s : List Nd × Bool) (x : Nd) : List Nd × Bool := if eqT x.path n.path = false then (s.1 ++ [x], s.2) else s
def stepN (n : Nd) (s : List Nd × Bool) (x : Nd) : List Nd × Bool := stepB n (stepA n s x) x
def insN (l : List Nd) (n : Nd) : List Nd := if (l.foldl (stepN n) ([], false)).2 = true then (l.foldl (stepN n) ([], false)).1 else (l.foldl (stepN n) ([], false)).1 ++ [n]

theorem stepN_len (n : Nd) (s : List Nd × Bool) (x : Nd) : (stepN n s x).1.length ≤ s.1.length + 2 := by
  unfold stepN stepB stepA
  split <;> split <;> simp <;> omega
theorem fold_len (n : Nd) : ∀ (l : List Nd) (s : List Nd × Bool), (l.foldl (stepN n) s).1.length ≤ s.1.length + 2 * l.length := by
  intro l
  induction l with
  | nil => intro s; simp
  | cons x r ih =>
    intro s
    have h1 := ih (stepN n s x)
    have h2 := stepN_len n s x
    simp only [List.foldl_cons, List.length_cons]
    omega
theorem stepA_mem {n : Nd} {s : List Nd × Bool} {x y : Nd} (h : y ∈ (stepA n s x).1) : y ∈ s.1 ∨ y = n := by
  unfold stepA at h
  split at h
  · rcases List.mem_append.1 h with h | h
    · exact .inl h
    · simp at h; exact .inr h
  · exact .inl h
theorem stepN_mem {n : Nd} {s : List Nd × Bool} {x y : Nd} (h : y ∈ (stepN n s x).1) : y ∈ s.1 ∨ y = n ∨ y = x := by
  unfold stepN stepB at h
  split at h
  · rcases List.mem_append.1 h with h | h
    · rcases stepA_mem h with h | h
      · exact .inl h
      · exact .inr (.inl h)
    · simp at h; exact .inr (.inr h)
  · rcases stepA_mem h with h | h
    · exact .inl h
    · exact .inr (.inl h)
theorem fold_mem {n : Nd} : ∀ (l : List Nd) (s : List Nd × Bool) (y : Nd), y ∈ (l.foldl (stepN n) s).1 → y ∈ s.1 ∨ y = n ∨ y ∈ l := by
  intro l
  induction l with
  | nil => intro s y h; exact .inl h
  | cons x r ih =>
    intro s y h
    rcases ih _ _ h with h | h | h
    · rcases stepN_mem h with h | h | h
      · exact .inl h
      · exact .inr (.inl h)
      · exact .inr (.inr (by simp [h]))
    · exact .inr (.inl h)
    · exact .inr (.inr (by simp [h]))
theorem ins_mem {l : List Nd} {n y : Nd} (h : y ∈ insN l n) : y = n ∨ y ∈ l := by
  unfold insN at h
  split at h
  · rcases fold_mem _ _ _ h with h | h
    · cases h
    · exact h
  · rcases List.mem_append.1 h with h | h
    · rcases fold_mem _ _ _ h with h | h
      · cases h
      · exact h
    · simp at h; exact .inl h

def lts (n : Nd) (x : Nd) : Bool := ltT x.path n.path
def nes (n : Nd) (x : Nd) : Bool := !eqT x.path n.path
theorem fold_true (n : Nd) : ∀ (l out : List Nd), l.foldl (stepN n) (out, true) = (out ++ l.filter (nes n), true) := by
  intro l
  induction l with
  | nil => intro out; simp
  | cons x r ih =>
    intro out
    rw [List.foldl_cons]
    have hA : stepA n (out, true) x = (out, true) := by unfold stepA; simp
    rw [show stepN n (out, true) x = stepB n (stepA n (out, true) x) x from rfl, hA]
    cases he : eqT x.path n.path
    · have hB : stepB n (out, true) x = (out ++ [x], true) := by unfold stepB; rw [he]; simp
      rw [hB, ih, List.filter_cons_of_pos (by unfold nes; rw [he]; rfl)]
      simp
    · have hB : stepB n (out, true) x = (out, true) := by unfold stepB; rw [he]; simp
      rw [hB, ih, List.filter_cons_of_neg (by unfold nes; rw [he]; simp)]
theorem fold_false (n : Nd) : ∀ (l out : List Nd), (∀ x ∈ l, ltT x.path n.path = true → eqT x.path n.path = false) → l.foldl (stepN n) (out, false) = if (l.dropWhile (lts n)) = [] then (out ++ l, false) else (out ++ l.takeWhile (lts n) ++ [n] ++ (l.dropWhile (lts n)).filter (nes n), true) := by
  intro l
  induction l with
  | nil => intro out _; simp
  | cons x r ih =>
    intro out hirr
    rw [List.foldl_cons]
    cases hl : ltT x.path n.path
    · have hA : stepA n (out, false) x = (out ++ [n], true) := by unfold stepA; rw [hl]; simp
      have hd : (x :: r).dropWhile (lts n) = x :: r := by rw [List.dropWhile_cons_of_neg (by unfold lts; rw [hl]; simp)]
      have ht : (x :: r).takeWhile (lts n) = [] := by rw [List.takeWhile_cons_of_neg (by unfold lts; rw [hl]; simp)]
      rw [hd, ht, if_neg (by simp), show stepN n (out, false) x = stepB n (stepA n (out, false) x) x from rfl, hA]
      cases he : eqT x.path n.path
      · have hB : stepB n (out ++ [n], true) x = (out ++ [n] ++ [x], true) := by unfold stepB; rw [he]; simp
        rw [hB, fold_true, List.filter_cons_of_pos (by unfold nes; rw [he]; rfl)]
        simp
      · have hB : stepB n (out ++ [n], true) x = (out ++ [n], true) := by unfold stepB; rw [he]; simp
        rw [hB, fold_true, List.filter_cons_of_neg (by unfold nes; rw [he]; simp)]
        simp
    · have hA : stepA n (out, false) x = (out, false) := by unfold stepA; rw [hl]; simp
      have hB : stepB n (out, false) x = (out ++ [x], false) := by unfold stepB; rw [hirr x (by simp) hl]; simp
      have hd : (x :: r).dropWhile (lts n) = r.dropWhile (lts n) := by rw [List.dropWhile_cons_of_pos (by unfold lts; rw [hl])]
      have ht : (x :: r).takeWhile (lts n) = x :: r.takeWhile (lts n) := by rw [List.takeWhile_cons_of_pos (by unfold lts; rw [hl])]
      rw [hd, ht, show stepN n (out, false) x = stepB n (stepA n (out, false) x) x from rfl, hA, hB, ih _ (fun y hy => hirr y (by simp [hy]))]
      by_cases hn : r.dropWhile (lts n) = []
      · rw [if_pos hn, if_pos hn]; simp
      · rw [if_neg hn, if_neg hn]; simp

theorem pathL_lt : ∀ a ∈ pathL, ∀ b ∈ pathL, (ltT a b = true → eqT a b = false) ∧ (ltT a b = true ∨ eqT a b = true ∨ ltT b a = true) ∧ (eqT a b = true → ∀ c ∈ pathL, ltT a c = ltT b c) ∧ ∀ c ∈ pathL, ltT a b = true → ltT b c = true → ltT a c = true := by decide +kernel

/-- needs in order, with drawn paths -/
def Srt (l : List Nd) : Prop := (∀ x ∈ l, Dn x) ∧ l.Pairwise fun x y => ltT x.path y.path = true
theorem mem_drop_head {α : Type} (p : α → Bool) : ∀ (l : List α) (z : α) (r : List α), l.dropWhile p = z :: r → p z = false ∧ ∃ a, l = a ++ z :: r := by
  intro l
  induction l with
  | nil => intro z r h; simp at h
  | cons x l ih =>
    intro z r h
    cases hp : p x
    · rw [List.dropWhile_cons_of_neg (by simp [hp])] at h
      simp only [List.cons.injEq] at h
      obtain ⟨rfl, rfl⟩ := h
      exact ⟨hp, [], rfl⟩
    · rw [List.dropWhile_cons_of_pos hp] at h
      obtain ⟨h1, a, h2⟩ := ih z r h
      exact ⟨h1, x :: a, by rw [h2]; rfl⟩
theorem take_lt {α : Type} (p : α → Bool) : ∀ (l : List α), ∀ x ∈ l.takeWhile p, p x = true ∧ x ∈ l := by
  intro l
  induction l with
  | nil => intro x hx; cases hx
  | cons y l ih =>
    intro x hx
    cases hp : p y
    · rw [List.takeWhile_cons_of_neg (by simp [hp])] at hx; cases hx
    · rw [List.takeWhile_cons_of_pos hp] at hx
      rcases List.mem_cons.1 hx with rfl | hx
      · exact ⟨hp, by simp⟩
      · have := ih x hx
        exact ⟨this.1, by simp [this.2]⟩
theorem drop_gt {l : List Nd} {n : Nd} (hl : Srt l) (hn : Dn n) : ∀ y ∈ (l.dropWhile (lts n)).filter (nes n), y ∈ l ∧ ltT n.path y.path = true := by
  intro y hy
  obtain ⟨hy1, hy2⟩ := List.mem_filter.1 hy
  cases hd : l.dropWhile (lts n) with
  | nil => rw [hd] at hy1; cases hy1
  | cons z r =>
    obtain ⟨hz, a, ha⟩ := mem_drop_head _ _ _ _ hd
    rw [hd] at hy1
    have hzl : z ∈ l := by rw [ha]; simp
    have hyl : y ∈ l := by rw [ha]; exact List.mem_append_right _ hy1
    have hzy : y = z ∨ ltT z.path y.path = true := by
      rcases List.mem_cons.1 hy1 with h | h
      · exact .inl h
      · have hp := hl.2
        rw [ha, List.pairwise_append] at hp
        exact .inr ((List.pairwise_cons.1 hp.2.1).1 y h)
    have hze : eqT y.path n.path = false := by unfold nes at hy2; simpa using hy2
    have pz := (hl.1 z hzl).1
    have py := (hl.1 y hyl).1
    have pn := hn.1
    refine ⟨hyl, ?_⟩
    have hz' : ltT z.path n.path = false := hz
    rcases (pathL_lt z.path pz n.path pn).2.1 with h | h | h
    · rw [hz'] at h; cases h
    · rcases hzy with rfl | h2
      · rw [hze] at h; cases h
      · rw [← (pathL_lt z.path pz n.path pn).2.2.1 h y.path py]; exact h2
    · rcases hzy with rfl | h2
      · exact h
      · exact (pathL_lt n.path pn z.path pz).2.2.2 y.path py h h2
/-- a need put in order: they stay in order -/
theorem ins_srt {l : List Nd} {n : Nd} (hl : Srt l) (hn : Dn n) : Srt (insN l n) ∧ (insN l n).length ≤ l.length + 1 := by
  have hm : ∀ x ∈ insN l n, Dn x := by
    intro x hx
    rcases ins_mem hx with rfl | h
    · exact hn
    · exact hl.1 x h
  have hf := fold_false n l [] (fun x hx => (pathL_lt x.path (hl.1 x hx).1 n.path hn.1).1)
  have hall : ∀ x ∈ l.takeWhile (lts n), ltT x.path n.path = true ∧ x ∈ l := take_lt (lts n) l
  have htd : l.takeWhile (lts n) ++ l.dropWhile (lts n) = l := List.takeWhile_append_dropWhile
  have hlen : (l.takeWhile (lts n)).length + (l.dropWhile (lts n)).length = l.length := by rw [← List.length_append, htd]
  by_cases hd : l.dropWhile (lts n) = []
  · rw [if_pos hd] at hf
    have hi : insN l n = l ++ [n] := by unfold insN; rw [hf]; simp
    have ht : l.takeWhile (lts n) = l := by rw [hd, List.append_nil] at htd; exact htd
    rw [ht] at hall
    refine ⟨⟨hm, ?_⟩, by rw [hi]; simp⟩
    rw [hi, List.pairwise_append]
    exact ⟨hl.2, by simp, fun a ha b hb => by simp at hb; subst hb; exact (hall a ha).1⟩
  · rw [if_neg hd] at hf
    have hi : insN l n = l.takeWhile (lts n) ++ [n] ++ (l.dropWhile (lts n)).filter (nes n) := by unfold insN; rw [hf]; simp
    have hgt := drop_gt hl hn
    refine ⟨⟨hm, ?_⟩, ?_⟩
    · rw [hi, List.pairwise_append, List.pairwise_append]
      refine ⟨⟨hl.2.sublist (List.takeWhile_sublist _), by simp, fun a ha b hb => by simp at hb; subst hb; exact (hall a ha).1⟩, (hl.2.sublist (List.dropWhile_sublist _)).sublist List.filter_sublist, ?_⟩
      intro a ha b hb
      obtain ⟨hbl, hbn⟩ := hgt b hb
      rcases List.mem_append.1 ha with ha | ha
      · obtain ⟨h1, h2⟩ := hall a ha
        exact (pathL_lt a.path (hl.1 a h2).1 n.path hn.1).2.2.2 b.path (hl.1 b hbl).1 h1 hbn
      · simp at ha; subst ha; exact hbn
    · rw [hi]
      have := List.length_filter_le (nes n) (l.dropWhile (lts n))
      simp
      omega
theorem srt_rise : ∀ l : List Nd, Srt l → rise l = true := by
  intro l
  induction l with
  | nil => intro _; rfl
  | cons x r ih =>
    intro h
    have hr : Srt r := ⟨fun y hy => h.1 y (by simp [hy]), (List.pairwise_cons.1 h.2).2⟩
    cases r with
    | nil => exact (h.1 x (by simp)).2.1
    | cons y r =>
      show (x.ok && ltT x.path y.path && rise (y :: r)) = true
      rw [(h.1 x (by simp)).2.1, (List.pairwise_cons.1 h.2).1 y (by simp), ih hr]
      rfl

end Go.Proofs.YtlhmemnaiobgkaaGreatDoor.Ent

/- Chapter 5, the specification's side: is an entry right. -/
namespace Go.Proofs.YtlhmemnaiobgkaaGreatDoor.Ent
open Go.RowKit Go.Proofs.YtlhmemnaiobgkaaGreatDoor.Mem Go.Proofs.YtlhmemnaiobgkaaGreatDoor.Laws Go.Proofs.YtlhmemnaiobgkaaGreatDoor.Bytes Go.Proofs.YtlhmemnaiobgkaaGreatDoor.Sha Go.Proofs.YtlhmemnaiobgkaaGreatDoor.Ver Go.Proofs.YtlhmemnaiobgkaaGreatDoor.Mod
set_option linter.unusedVariables false
set_option linter.unusedSimpArgs false

/-- does it need itself -/
def self5 (n : Nd) (l : List Nd) : Bool := l.any fun x => eqT x.path n.path
def entry5 (n : Nd) (l : List Nd) : Bool := !self5 n l && n.ok && decide (l.length ≤ 8) && rise l

theorem self5_take {n x : Nd} {l : List Nd} {k : Nat} (h : l[k]? = some x) : self5 n (l.take (k + 1)) = (self5 n (l.take k) || eqT x.path n.path) := by
  unfold self5
  rw [List.take_add_one, h, List.any_append]
  simp
theorem self5_bad {n x : Nd} {l : List Nd} {k : Nat} (h : l[k]? = some x) (he : eqT x.path n.path = true) : self5 n l = true := by
  unfold self5
  rw [List.any_eq_true]
  exact ⟨x, List.mem_of_getElem? h, he⟩

set_option maxRecDepth 1000000 in
set_option maxHeartbeats 2000000 in
theorem entryok_spec (w : World) (n : Nd) (v : Value) (l : List Nd) (h : Sd w v l) (hl : l.length ≤ 1000000000000) (hp : n.path.size ≤ 1000000000000) (hq : n.pre.size ≤ 1000000000000) (hz : ∀ n ∈ l, n.path.size ≤ 1000000000000 ∧ n.pre.size ≤ 1000000000000) :
    Calls Tryz.prog 46 #[.agg #[.string n.path, .int .i64 n.a, .int .i64 n.b, .int .i64 n.c, .string n.pre, v]] w fun e w' => e = .returned (.bool (entry5 n l)) ∧ Below w.heap.size w w' := by
  have HD : Hid (entry5 n l = (!self5 n l && n.ok && decide (l.length ≤ 8) && rise l)) := rfl
  have q1 : ∀ W, _ := fun W => fits_spec W n.path n.a n.b n.c n.pre hp hq
  unfold Ver.ver at q1
  have q2 : ∀ W, Below w.heap.size w W → _ := fun W hW => rising_spec W v l (h.later hW) hl hz
  have HR : Hid ((w.alloc (.cells #[.string n.path, .int .i64 n.a, .int .i64 n.b, .int .i64 n.c, .string n.pre, v] 34)).heap[w.heap.size]? = some (.cells (ec n v) 34 (0, 0))) := heap_alloc_new w _
  have HB : Hid (Below w.heap.size w (w.alloc (.cells #[.string n.path, .int .i64 n.a, .int .i64 n.b, .int .i64 n.c, .string n.pre, v] 34))) := (Below.refl _ _).alloc (Nat.le_refl _) _
  have HS : Hid (Sd w v l) := h
  obtain ⟨hcl, ao, cap, rfl, hcap, hnn, _⟩ := h
  clear hz
  go_enter Tryz.func46, Tryz.ntmps46
  go_wp2
  go_loopw [3] (fun i wr => ∃ k : Nat, k ≤ l.length ∧ i = .int .i64 (k : Int) ∧ Hid (self5 n (l.take k) = false) ∧ wr.heap[w.heap.size]? = some (.cells (ec n (.slice ao l.length cap)) 34 (0, 0)) ∧ Below w.heap.size w wr) (fun i _ => l.length - (intOf i).toNat)
  case atStart => exact ⟨0, Nat.zero_le _, rfl, by show _ = _; simp [self5], HR.out, HB.out⟩
  case round =>
    obtain ⟨k, hk, rfl, HA, hR, hB⟩ := hrel
    have k0 : wr.cell? ⟨w.heap.size, 0, none⟩ = some (.string n.path) := row_cells hR 0
    have k5 : wr.cell? ⟨w.heap.size, 5, none⟩ = some (.slice ao l.length cap) := row_cells hR 5
    have HR1 : Hid (wr.heap[w.heap.size]? = some (.cells (ec n (.slice ao l.length cap)) 34 (0, 0))) := hR
    clear hR HR HB
    by_cases hlt : k < l.length
    · obtain ⟨x, hn⟩ : ∃ n, l[k]? = some n := ⟨l[k], by simp [hlt]⟩
      obtain ⟨b, off, cap', he, _, c0, _, _, _, _⟩ := Sd.at (HS.out.later hB) hn
      simp only [Value.slice.injEq] at he
      obtain ⟨rfl, _, rfl⟩ := he
      obtain ⟨eq, heq⟩ : ∃ b, eqT x.path n.path = b := ⟨_, rfl⟩
      have heq' : (x.path.toList == n.path.toList) = eq := heq
      have HT : Hid (self5 n (l.take (k + 1)) = eq) := by show _ = _; rw [self5_take hn, HA.out, heq]; rfl
      have HX : Hid (eq = true → entry5 n l = false) := by
        intro h1
        rw [HD.out, self5_bad hn (by rw [heq, h1])]
        rfl
      clear hn heq
      cases eq
      · go_wp2_with fail
        go_quiet (fail)
        go_wp2
        go_roundw
        case rel => exact ⟨k + 1, by omega, by go_num, HT, HR1.out, Below.trans hB ⟨rfl, rfl, rfl, Nat.le_refl _, fun _ _ => rfl⟩⟩
        case measure => simp [intOf]; omega
      · have HF : Hid (entry5 n l = false) := HX.out rfl
        clear HX
        go_wp2_with fail
        go_quiet (fail)
        go_wp2
        go_ret
        exact ⟨by rw [HF.out]; rfl, Below.trans hB ⟨rfl, rfl, rfl, Nat.le_refl _, fun _ _ => rfl⟩⟩
    · have HN : Hid (self5 n l = false) := by
        show _ = _
        have := HA.out
        rwa [List.take_of_length_le (by omega)] at this
      have k1 : wr.cell? ⟨w.heap.size, 1, none⟩ = some (.int .i64 n.a) := row_cells HR1.out 1
      have k2 : wr.cell? ⟨w.heap.size, 2, none⟩ = some (.int .i64 n.b) := row_cells HR1.out 2
      have k3 : wr.cell? ⟨w.heap.size, 3, none⟩ = some (.int .i64 n.c) := row_cells HR1.out 3
      have k4 : wr.cell? ⟨w.heap.size, 4, none⟩ = some (.string n.pre) := row_cells HR1.out 4
      obtain ⟨f, hf⟩ : ∃ f, fits4 n.path n.a n.b n.c n.pre = f := ⟨_, rfl⟩
      simp only [hf] at q1
      have HE : Hid (entry5 n l = (f && decide (l.length ≤ 8) && rise l)) := by
        show _ = _
        rw [HD.out, HN.out]
        unfold Nd.ok
        rw [hf]
        rfl
      clear hf
      go_wp2_with fail
      refine (q1 _).mono ?_
      rintro e w2 ⟨rfl, b2⟩
      have hB2 : Below w.heap.size w w2 := hB.trans (b2.mono hB.size)
      have j5 : w2.cell? ⟨w.heap.size, 5, none⟩ = some (.slice ao l.length cap) := row_cells (rowKeep HR1.out b2) 5
      have q3 := q2 w2 hB2
      clear q1 q2 k0 k1 k2 k3 k4 k5 HR1 b2 hB
      cases f
      · have HF : Hid (entry5 n l = false) := HE.out
        go_wp2
        go_ret
        exact ⟨by rw [HF.out]; rfl, hB2⟩
      · by_cases h8 : l.length ≤ 8
        · obtain ⟨r, hr⟩ : ∃ r, rise l = r := ⟨_, rfl⟩
          rw [hr] at q3
          have HF : Hid (entry5 n l = r) := by show _ = _; rw [HE.out, decide_eq_true h8, hr]; rfl
          have d8 : decide ((l.length : Int) ≤ 8) = true := by simp; omega
          clear hr
          go_wp2_with fail
          refine q3.mono ?_
          rintro e w3 ⟨rfl, b3⟩
          go_wp2
          go_ret
          exact ⟨by rw [HF.out]; rfl, hB2.trans (b3.mono hB2.size)⟩
        · have HF : Hid (entry5 n l = false) := by show _ = _; rw [HE.out, decide_eq_false h8]; rfl
          have d8 : decide ((l.length : Int) ≤ 8) = false := by simp; omega
          go_wp2
          go_ret
          exact ⟨by rw [HF.out]; rfl, hB2⟩

end Go.Proofs.YtlhmemnaiobgkaaGreatDoor.Ent

/- Contracts of PutNum, the program's and the specification's: both make, in new memory, the bytes that were there and the number's groups behind them. -/
namespace Go.Proofs.YtlhmemnaiobgkaaGreatDoor.Puts
open Go.RowKit Go.Proofs.YtlhmemnaiobgkaaGreatDoor.Mem Go.Proofs.YtlhmemnaiobgkaaGreatDoor.Plain Go.Proofs.YtlhmemnaiobgkaaGreatDoor.Laws Go.Proofs.YtlhmemnaiobgkaaGreatDoor.Bytes
set_option linter.unusedVariables false

/-- the bytes of a number as it is put -/
def num (n : Int) : List Int := enc (clampN n).toNat
theorem num_byt (n : Int) : Byt (num n) := enc_byte _
theorem num_len (n : Int) : 1 ≤ (num n).length ∧ (num n).length ≤ 5 := ⟨enc_len _, enc_len5 _ (by have := clampN_bd n; omega)⟩

theorem byte_small {m : Nat} (h : m < 128) (ys : List Int) : ys ++ [(m : Int)] = ys ++ enc m := by rw [enc_small h]

theorem one_byte (x : Int) : ∀ u ∈ [Value.int .u8 x], u.oneCell' = true := by
  intro u hu
  rw [List.mem_singleton] at hu
  rw [hu]
  rfl

theorem new_cell (w : World) (u : Value) (t : TypeId) : (w.alloc (.cells #[u] t)).cell? ⟨w.heap.size, 0, none⟩ = some u := by
  rw [cell_of_row _ w.heap.size 0 #[u] t (0, 0) (heap_alloc_new w _)]
  rfl

theorem Own.empty (w : World) (lo : Nat) (h : lo ≤ w.heap.size) : Own (w.alloc (.cells #[] 5)) lo (w.alloc (.cells #[] 5)).heap.size 5 (.slice (some ⟨w.heap.size, 0, none⟩) 0 0) (bs []) :=
  Own.of (World.ownsRow_lit w #[] 0 h (Nat.zero_le _) rfl)

/-- the bytes of texts, each behind its length -/
def tx (s : ByteArray) : List Int := num (s.size : Int) ++ sb s
def tot : List ByteArray → Nat
  | [] => 0
  | s :: r => s.size + tot r
def txs : List ByteArray → List Int
  | [] => []
  | s :: r => tx s ++ txs r
theorem tx_len (s : ByteArray) : (tx s).length ≤ s.size + 5 := by
  unfold tx; have := num_len (s.size : Int); rw [List.length_append, sb_len]; omega
theorem txs_len (l : List ByteArray) : (txs l).length ≤ 5 * l.length + tot l := by
  induction l with
  | nil => simp [txs, tot]
  | cons s r ih => have := tx_len s; simp only [txs, tot, List.length_append, List.length_cons]; omega
theorem tx_byt (s : ByteArray) : Byt (tx s) := (num_byt _).app (sb_byt _)

theorem Sl.oneStr (w : World) (s : ByteArray) (t : TypeId) : Sl (w.alloc (.cells #[.string s] t)) (.slice (some ⟨w.heap.size, 0, none⟩) 1 1) (ss [s]) := Sl.one w (.string s) t

theorem drop_str {l : List ByteArray} {k : Nat} {s : ByteArray} (h : l[k]? = some s) : l.drop k = s :: l.drop (k + 1) := by
  obtain ⟨hk, rfl⟩ := List.getElem?_eq_some_iff.1 h
  exact List.drop_eq_getElem_cons hk

end Go.Proofs.YtlhmemnaiobgkaaGreatDoor.Puts
