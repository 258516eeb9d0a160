/- Texts in one: EntH. -/
import Derived.Test.YtljlcelbhlkmcabGreatDoorPk17
/- Chapter 5, draws: what PutEntry is handed. -/
namespace Go.Proofs.YtljlcelbhlkmcabGreatDoor.Ent
open Go.RowKit Go.Proofs.YtljlcelbhlkmcabGreatDoor.Mem Go.Proofs.YtljlcelbhlkmcabGreatDoor.Laws Go.Proofs.YtljlcelbhlkmcabGreatDoor.Bytes Go.Proofs.YtljlcelbhlkmcabGreatDoor.Sha Go.Proofs.YtljlcelbhlkmcabGreatDoor.Ver Go.Proofs.YtljlcelbhlkmcabGreatDoor.Mod Go.Proofs.YtljlcelbhlkmcabGreatDoor.Draw
set_option linter.unusedVariables false
set_option linter.unusedSimpArgs false

set_option maxRecDepth 1000000 in
set_option maxHeartbeats 4000000 in
theorem put_drawn (w : World) (vb : Value) (xs : List Int) (hs : Sl w vb (bs xs)) (hby : Byt xs) (hx : xs.length ≤ 140737488355328) :
    Calls Tryz.prog 6 #[vb] w fun e w' => ∃ (n : Nd) (v : Value) (l : List Nd), e = .returned (.agg #[.string n.path, .int .i64 n.a, .int .i64 n.b, .int .i64 n.c, .string n.pre, v]) ∧ Bn n ∧ (∀ x ∈ l, Dn x) ∧ l.length ≤ 4 ∧ Od w' w.heap.size w'.heap.size v l ∧ Below w.heap.size w w' := by
  obtain ⟨Y, q1, HYs, HYb, HY0, hsY⟩ : ∃ Y : World, (Calls Tryz.prog 20 #[vb] (w.alloc (.cells #[.string ⟨#[]⟩, .int .i64 0, .int .i64 0, .int .i64 0, .string ⟨#[]⟩, .slice none 0 0] 28)) fun e w' => e = .returned (.pointer (some ⟨(w.heap.size + 1), 0, none⟩)) ∧ Drawn Y Y (w.heap.size + 1) vb xs w') ∧ Hid (Y.heap.size = w.heap.size + 1) ∧ Hid (Below w.heap.size w Y) ∧ Hid (Y.heap[w.heap.size]? = some (.cells (ec nil5 (.slice none 0 0)) 28 (0, 0))) ∧ Sl Y vb (bs xs) := by
    have hb : Below w.heap.size w (w.alloc (.cells #[.string ⟨#[]⟩, .int .i64 0, .int .i64 0, .int .i64 0, .string ⟨#[]⟩, .slice none 0 0] 28)) := (Below.refl _ _).alloc (Nat.le_refl _) _
    have hsY : Sl (w.alloc (.cells #[.string ⟨#[]⟩, .int .i64 0, .int .i64 0, .int .i64 0, .string ⟨#[]⟩, .slice none 0 0] 28)) vb (bs xs) := hs.later hb
    have q := new_any (w.alloc (.cells #[.string ⟨#[]⟩, .int .i64 0, .int .i64 0, .int .i64 0, .string ⟨#[]⟩, .slice none 0 0] 28)) vb xs hsY hby hx
    have hz : (w.alloc (.cells #[.string ⟨#[]⟩, .int .i64 0, .int .i64 0, .int .i64 0, .string ⟨#[]⟩, .slice none 0 0] 28)).heap.size = w.heap.size + 1 := by show (w.heap.push _).size = _; simp
    rw [hz] at q
    exact ⟨_, q, hz, hb, heap_alloc_new w _, hsY⟩
  have hgY : Y.heap.size ≤ (w.heap.size + 1) := by have := HYs.out; omega
  go_enter Tryz.func6, Tryz.ntmps6
  go_wp2_with fail
  refine q1.mono ?_
  rintro e w1 ⟨rfl, d1⟩
  clear q1
  have gl1 := d1.cur.lt
  have HW0 : Hid (w1.heap[w.heap.size]? = some (.cells (ec nil5 (.slice none 0 0)) 28 (0, 0))) := rowApart HY0.out d1.apart (by have := HYs.out; omega)
  have HB1 : Hid (Below w.heap.size w w1) := HYb.out.trans (d1.below.mono HYb.out.size)
  clear HY0
  go_wp2_with fail
  refine (any5_any Y w1 (w.heap.size + 1) vb xs hsY hby hx d1.below hgY d1.cur).mono ?_
  rintro e w2 ⟨n, v, l, rfl, hbn, hdl, hl4, o2, d2⟩
  have R2 : Hid (w2.heap[w.heap.size]? = some (.cells (ec nil5 (.slice none 0 0)) 28 (0, 0))) := rowApart HW0.out d2.apart (by omega)
  have hB2 : Hid (Below w.heap.size w w2) := HB1.out.trans ((d2.apart.below (B := w.heap.size) (by omega) HB1.out.size))
  obtain ⟨ao, cap, rfl⟩ := on_slice5 o2
  have HO : Hid (Od w2 w1.heap.size w2.heap.size (.slice ao l.length cap) l) := o2
  have hw1 : w.heap.size < w1.heap.size := by omega
  clear d1 d2 HW0 HB1 o2
  go_wp2_with (refine wpList_store_row rfl 28 _ _ rfl w.heap.size (ec n (.slice ao l.length cap)) rfl rfl 28 _ R2.out (sizeE _ _) rfl (oneE _ (one_slice _ _ _)) ?_)
  refine bodyPost_ret (v := .agg (ec n (.slice ao l.length cap))) (results_cell_row rfl _ _ w.heap.size 28 _ (0, 0) _ rfl (setRow_heap _ _ _ _ _ (0, 0) R2.out) Tryz.underlying28 rfl (sizeE _ _)) rfl ⟨n, (.slice ao l.length cap), l, rfl, hbn, hdl, hl4, ?_, below_setRow hB2.out (Nat.le_refl _) _⟩
  exact (Od.keep HO.out fun q h1 h2 => setRow_other _ _ _ _ (by omega)).mono (by omega) (by simp)

end Go.Proofs.YtljlcelbhlkmcabGreatDoor.Ent
