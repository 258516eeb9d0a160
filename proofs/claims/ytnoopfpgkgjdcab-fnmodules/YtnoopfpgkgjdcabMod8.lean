/- Chapter 4's draws: a path and a version. -/
import Derived.Test.YtnoopfpgkgjdcabMod7
namespace Go.Proofs.Ytnoopfpgkgjdcab.Mod
open Go.RowKit Go.Proofs.Ytnoopfpgkgjdcab.Mem Go.Proofs.Ytnoopfpgkgjdcab.Laws Go.Proofs.Ytnoopfpgkgjdcab.Bytes Go.Proofs.Ytnoopfpgkgjdcab.Sha Go.Proofs.Ytnoopfpgkgjdcab.Draw Go.Proofs.Ytnoopfpgkgjdcab.Ver
set_option linter.unusedVariables false
set_option linter.unusedSimpArgs false

theorem results_tmp_row {P : Program} {fn : Func} {p u : Tmp} {ty : TypeId} (h : fn.results = #[.tmp u, .cell p ty]) (tmps : Array Value) (w : World) (g : Nat) (t : TypeId) (cs : Array Value) (fr : Nat × Nat) (d : TypeDesc)
    (hp : tmps.getD p undef = .pointer (some ⟨g, 0, none⟩)) (hh : w.heap[g]? = some (.cells cs t fr)) (hu : P.underlying ty = some d) (hd : (match d with | .struct _ | .array _ _ => true | _ => false) = true) (hi : (P.info? ty).map (·.size) = some cs.size) :
    (results fn tmps).run P w = .ok (.tuple #[tmps.getD u undef, .agg cs]) w := by
  have hp' : tmps[p]?.getD undef = .pointer (some ⟨g, 0, none⟩) := by simpa using hp
  simp [results, h, hp', asAddr, run_loadVar_row w g t ty cs fr d hh hu hd hi]

set_option maxRecDepth 1000000 in
set_option maxHeartbeats 1000000 in
theorem fits_any (w : World) (vb : Value) (xs : List Int) (hs : Sl w vb (bs xs)) (hby : Byt xs) (hx : xs.length ≤ 140737488355328) :
    Calls Try.prog 16 #[vb] w fun e w' => ∃ s a b c p, e = .returned (.tuple #[.string s, ver a b c p]) ∧ s.size ≤ 60 ∧ Av a b c p ∧ Below w.heap.size w w' := by
  obtain ⟨Y, q1, HYs, HYb, HY0, hsY⟩ : ∃ Y : World, (Calls Try.prog 24 #[vb] (w.alloc (.cells (vc 0 0 0 ⟨#[]⟩) 25)) fun e w' => e = .returned (.pointer (some ⟨(w.heap.size + 1), 0, none⟩)) ∧ Drawn Y Y (w.heap.size + 1) vb xs w') ∧ Hid (Y.heap.size = w.heap.size + 1) ∧ Hid (Below w.heap.size w Y) ∧ Hid (Vr Y w.heap.size 0 0 0 ⟨#[]⟩) ∧ Sl Y vb (bs xs) := by
    have hb : Below w.heap.size w (w.alloc (.cells (vc 0 0 0 ⟨#[]⟩) 25)) := (Below.refl _ _).alloc (Nat.le_refl _) _
    have hsY : Sl (w.alloc (.cells (vc 0 0 0 ⟨#[]⟩) 25)) vb (bs xs) := hs.later hb
    have q := new_any (w.alloc (.cells (vc 0 0 0 ⟨#[]⟩) 25)) vb xs hsY hby hx
    have hz : (w.alloc (.cells (vc 0 0 0 ⟨#[]⟩) 25)).heap.size = w.heap.size + 1 := by show (w.heap.push _).size = _; simp
    rw [hz] at q
    exact ⟨_, q, hz, hb, heap_alloc_new w _, hsY⟩
  have hgY : Y.heap.size ≤ (w.heap.size + 1) := by have := HYs.out; omega
  go_enter Try.func16, Try.ntmps16
  go_wp2_with fail
  refine q1.mono ?_
  rintro e w1 ⟨rfl, d1⟩
  clear q1
  have gl1 := d1.cur.lt
  have HW0 : Hid (Vr w1 w.heap.size 0 0 0 ⟨#[]⟩) := Vr.apart HY0.out d1.apart (by omega)
  have HB1 : Hid (Below w.heap.size w w1) := HYb.out.trans (d1.below.mono HYb.out.size)
  clear HY0
  go_wp2_with fail
  refine (anyP_any Y w1 (w.heap.size + 1) vb xs hsY hby hx d1.below hgY d1.cur).mono ?_
  rintro e w2 ⟨s, rfl, hsz, d2⟩
  go_wp2_with fail
  refine (any_agg Y w2 (w.heap.size + 1) vb xs hsY hby hx d2.below hgY d2.cur).mono ?_
  rintro e w3 ⟨a, b, c, p, rfl, A1, d3⟩
  have e3 := d2.and d3
  have V3 : Vr w3 w.heap.size 0 0 0 ⟨#[]⟩ := Vr.apart HW0.out e3.apart (by omega)
  have hB3 : Below w.heap.size w w3 := HB1.out.trans ((e3.apart.below (B := w.heap.size) (by omega) HB1.out.size))
  clear d1 d2 d3 e3 HW0 HB1
  go_wp2_with (refine wpList_store_row rfl 25 _ _ rfl w.heap.size (vc a b c p) rfl rfl 25 (vc 0 0 0 ⟨#[]⟩) V3 (sizeV a b c p) rfl (oneV a b c p) ?_)
  refine bodyPost_ret (results_tmp_row rfl _ _ w.heap.size 25 (vc a b c p) (0, 0) _ rfl (Vr.row V3 a b c p) Try.underlying25 rfl (sizeV a b c p)) rfl ⟨s, a, b, c, p, rfl, hsz, A1, below_setRow hB3 (Nat.le_refl _) _⟩

theorem fits_drawn (w : World) (vb : Value) (xs : List Int) (hs : Sl w vb (bs xs)) (hby : Byt xs) (hx : xs.length ≤ 140737488355328) :
    Calls Try.prog 16 #[vb] w fun e w' => ∃ s a b c p, e = .returned (.tuple #[.string s, .agg #[.int .i64 a, .int .i64 b, .int .i64 c, .string p]]) ∧ s.size ≤ 60 ∧ Av a b c p ∧ Below w.heap.size w w' := fits_any w vb xs hs hby hx

end Go.Proofs.Ytnoopfpgkgjdcab.Mod
