/- Chapter 3's draws: whatever version. -/
import Derived.Test.YtnoopfpgkgjdcabDraw4
namespace Go.Proofs.Ytnoopfpgkgjdcab.Ver
open Go.RowKit Go.Proofs.Ytnoopfpgkgjdcab.Mem Go.Proofs.Ytnoopfpgkgjdcab.Laws Go.Proofs.Ytnoopfpgkgjdcab.Bytes Go.Proofs.Ytnoopfpgkgjdcab.Sha Go.Proofs.Ytnoopfpgkgjdcab.Draw
set_option linter.unusedVariables false
set_option linter.unusedSimpArgs false

/-- what else may stand behind a drawn version -/
def oddL : List ByteArray := [⟨#[46]⟩, ⟨#[48, 49]⟩, ⟨#[97, 46, 46, 98]⟩, ⟨#[97, 46, 98, 46, 99, 46, 100]⟩, ⟨#[97, 46, 98, 46, 99, 46, 100, 46, 101]⟩, ⟨#[110, 105, 110, 101, 98, 121, 116, 101, 115]⟩, ⟨#[195, 169]⟩, ⟨#[48]⟩, ⟨#[97, 95, 98]⟩]
theorem oddL_size : ∀ s ∈ oddL, s.size ≤ 9 := by decide
/-- a drawn version of any kind -/
def Av (a b c : Int) (p : ByteArray) : Prop := (-1 ≤ a ∧ a ≤ 1000001) ∧ (0 ≤ b ∧ b < 4) ∧ (-1 ≤ c ∧ c ≤ 1000001) ∧ p.size ≤ 9
theorem Dv.any {a b c : Int} {p : ByteArray} (h : Dv a b c p) : Av a b c p := by
  obtain ⟨h1, h2, h3, h4⟩ := h
  have := preL_size p h4
  exact ⟨by omega, h2, by omega, by omega⟩
theorem Vr.set2 {w : World} {g : Nat} {a b c : Int} {p : ByteArray} (h : Vr w g a b c p) (c' : Int) : Vr (w.setCell ⟨g, 2, none⟩ (.int .i64 c')) g a b c' p := Vr.cellSet h 2 _
theorem Vr.set3 {w : World} {g : Nat} {a b c : Int} {p : ByteArray} (h : Vr w g a b c p) (p' : ByteArray) : Vr (w.setCell ⟨g, 3, none⟩ (.string p')) g a b c p' := Vr.cellSet h 3 _

set_option maxRecDepth 1000000 in
set_option maxHeartbeats 2000000 in
theorem any_any (W0 w : World) (g : Nat) (vb : Value) (xs : List Int) (hs : Sl W0 vb (bs xs)) (hby : Byt xs) (hx : xs.length ≤ 140737488355328) (hB : Below W0.heap.size W0 w) (hg : W0.heap.size ≤ g) (hc : Cur w g vb xs.length) :
    Calls Try.prog 30 #[.pointer (some ⟨g, 0, none⟩)] w fun e w' => ∃ a b c p, e = .returned (ver a b c p) ∧ Av a b c p ∧ Drawn W0 w g vb xs w' := by
  have hgw := hc.lt
  have V0 : Vr (w.alloc (.cells (vc 0 0 0 ⟨#[]⟩) 25)) w.heap.size 0 0 0 ⟨#[]⟩ := heap_alloc_new w _
  have hd0 : Drawn W0 w g vb xs (w.alloc (.cells (vc 0 0 0 ⟨#[]⟩) 25)) := (Drawn.refl hB hc).on hg hgw ((Below.refl _ _).alloc (Nat.le_refl _) _)
  go_enter Try.func30, Try.ntmps30
  go_wp2_with fail
  refine (draw_agg W0 _ g vb xs hs hby hx hd0.below hg hd0.cur).mono ?_
  rintro e w2 ⟨a, b, c, p, rfl, D1, d2⟩
  have A1 := D1.any
  have X2 : Vr w2 w.heap.size 0 0 0 ⟨#[]⟩ := Vr.apart V0 d2.apart (by omega)
  have D2 := hd0.and d2
  have s2 := D2.apart.size
  have t2 := X2.lt
  have gl2 := D2.cur.lt
  have D3 : ∀ o, Drawn W0 w g vb xs (w2.alloc o) := fun o => D2.on hg hgw ((Below.refl _ _).alloc s2 _)
  have X3 : ∀ o, Vr (w2.alloc o) w.heap.size 0 0 0 ⟨#[]⟩ := fun o => Vr.same X2 ((Below.refl _ _).alloc (Nat.le_refl _) _)
  clear V0 hd0 d2 X2 D2
  go_wp2_with fail
  refine (below_any W0 _ g vb xs 12 (by omega) (by omega) hs hby hx (D3 _).below hg (D3 _).cur).mono ?_
  rintro e w3 ⟨x, rfl, x0, x1, d3⟩
  have V3 : Vr w3 w2.heap.size a b c p := Vr.apart (w := w2.alloc (.cells (vc a b c p) 25)) (heap_alloc_new w2 _) d3.apart (by omega)
  have X3' : Vr w3 w.heap.size 0 0 0 ⟨#[]⟩ := Vr.apart (X3 _) d3.apart (by omega)
  have D3' := (D3 _).and d3
  have s3 := D3'.apart.size
  have t3 := V3.lt
  have gl3 := D3'.cur.lt
  have D4 : ∀ o, Drawn W0 w g vb xs (w3.alloc o) := fun o => D3'.on hg hgw ((Below.refl _ _).alloc s3 _)
  have X4 : ∀ o, Vr (w3.alloc o) w.heap.size 0 0 0 ⟨#[]⟩ := fun o => Vr.same X3' ((Below.refl _ _).alloc (Nat.le_refl _) _)
  have V4 : ∀ o, Vr (w3.alloc o) w2.heap.size a b c p := fun o => Vr.same V3 ((Below.refl _ _).alloc (Nat.le_refl _) _)
  clear D3 X3 d3
  by_cases h0 : x = 0
  · have e0 : (x == 0) = true := by simpa using h0
    clear h0 V3 X3' D3'
    go_wp2_with fail
    refine (int_any W0 _ g vb xs w3.heap.size [-1, 1000000, 1000001] (lit_block _ _ _) (by omega) (by simp) (by simp) hs hby hx (D4 _).below hg (D4 _).cur).mono ?_
    rintro e w5 ⟨z, rfl, hm, d5⟩
    have hz : -1 ≤ z ∧ z ≤ 1000001 := by simp at hm; omega
    have V5 : Vr w5 w2.heap.size a b c p := Vr.apart (V4 _) d5.apart (by omega)
    have X5 : Vr w5 w.heap.size 0 0 0 ⟨#[]⟩ := Vr.apart (X4 _) d5.apart (by omega)
    have D5 := (D4 _).and d5
    obtain ⟨k0, k1, k2, k3⟩ := Vr.cells V5
    have zf := Vr.frozen V5 0
    have V6 : Vr (w5.setCell ⟨w2.heap.size, 0, none⟩ (.int .i64 z)) w2.heap.size z b c p := Vr.set0 V5 z
    have X6 : Vr (w5.setCell ⟨w2.heap.size, 0, none⟩ (.int .i64 z)) w.heap.size 0 0 0 ⟨#[]⟩ := Vr.setOther X5 (by omega) _ _
    have D6 : Drawn W0 w g vb xs (w5.setCell ⟨w2.heap.size, 0, none⟩ (.int .i64 z)) := D5.on hg hgw ((Below.refl _ _).setCell (p := ⟨w2.heap.size, 0, none⟩) (show w.heap.size ≤ w2.heap.size by omega) _)
    clear V4 X4 D4 V5 X5 d5 D5 hm
    go_wp2_with (first | (refine wpList_load_row rfl 25 _ rfl w2.heap.size rfl 25 (vc z b c p) (0, 0) _ V6 Try.underlying25 rfl (sizeV z b c p) ?_) | (refine wpList_store_row rfl 25 _ _ rfl w.heap.size (vc z b c p) rfl rfl 25 (vc 0 0 0 ⟨#[]⟩) X6 (sizeV z b c p) rfl (oneV z b c p) ?_))
    refine bodyPost_ret (v := .agg (vc z b c p)) (results_cell_row rfl _ _ w.heap.size 25 _ (0, 0) _ rfl (Vr.row X6 z b c p) Try.underlying25 rfl (sizeV z b c p)) rfl ⟨z, b, c, p, rfl, ⟨hz, A1.2.1, A1.2.2.1, A1.2.2.2⟩, D6.on hg hgw (below_setRow (Below.refl _ _) (Nat.le_refl _) _)⟩
  by_cases h1 : x = 1
  · have e0 : (x == 0) = false := by simpa using h0
    have e1 : (x == 1) = true := by simpa using h1
    clear h0 h1 V3 X3' D3'
    go_wp2_with fail
    refine (str_any W0 _ g vb xs w3.heap.size oddL (lit_block _ _ _) (by omega) (by decide) (by decide) hs hby hx (D4 _).below hg (D4 _).cur).mono ?_
    rintro e w5 ⟨z, rfl, hm, d5⟩
    have hz := oddL_size z hm
    have V5 : Vr w5 w2.heap.size a b c p := Vr.apart (V4 _) d5.apart (by omega)
    have X5 : Vr w5 w.heap.size 0 0 0 ⟨#[]⟩ := Vr.apart (X4 _) d5.apart (by omega)
    have D5 := (D4 _).and d5
    obtain ⟨k0, k1, k2, k3⟩ := Vr.cells V5
    have zf := Vr.frozen V5 3
    have V6 : Vr (w5.setCell ⟨w2.heap.size, 3, none⟩ (.string z)) w2.heap.size a b c z := Vr.set3 V5 z
    have X6 : Vr (w5.setCell ⟨w2.heap.size, 3, none⟩ (.string z)) w.heap.size 0 0 0 ⟨#[]⟩ := Vr.setOther X5 (by omega) _ _
    have D6 : Drawn W0 w g vb xs (w5.setCell ⟨w2.heap.size, 3, none⟩ (.string z)) := D5.on hg hgw ((Below.refl _ _).setCell (p := ⟨w2.heap.size, 3, none⟩) (show w.heap.size ≤ w2.heap.size by omega) _)
    clear V4 X4 D4 V5 X5 d5 D5 hm
    go_wp2_with (first | (refine wpList_load_row rfl 25 _ rfl w2.heap.size rfl 25 (vc a b c z) (0, 0) _ V6 Try.underlying25 rfl (sizeV a b c z) ?_) | (refine wpList_store_row rfl 25 _ _ rfl w.heap.size (vc a b c z) rfl rfl 25 (vc 0 0 0 ⟨#[]⟩) X6 (sizeV a b c z) rfl (oneV a b c z) ?_))
    refine bodyPost_ret (v := .agg (vc a b c z)) (results_cell_row rfl _ _ w.heap.size 25 _ (0, 0) _ rfl (Vr.row X6 a b c z) Try.underlying25 rfl (sizeV a b c z)) rfl ⟨a, b, c, z, rfl, ⟨A1.1, A1.2.1, A1.2.2.1, hz⟩, D6.on hg hgw (below_setRow (Below.refl _ _) (Nat.le_refl _) _)⟩
  by_cases h2 : x = 2
  · have e0 : (x == 0) = false := by simpa using h0
    have e1 : (x == 1) = false := by simpa using h1
    have e2 : (x == 2) = true := by simpa using h2
    clear h0 h1 h2 V3 X3' D3'
    go_wp2_with fail
    refine (int_any W0 _ g vb xs w3.heap.size [-1, 1000000, 1000001] (lit_block _ _ _) (by omega) (by simp) (by simp) hs hby hx (D4 _).below hg (D4 _).cur).mono ?_
    rintro e w5 ⟨z, rfl, hm, d5⟩
    have hz : -1 ≤ z ∧ z ≤ 1000001 := by simp at hm; omega
    have V5 : Vr w5 w2.heap.size a b c p := Vr.apart (V4 _) d5.apart (by omega)
    have X5 : Vr w5 w.heap.size 0 0 0 ⟨#[]⟩ := Vr.apart (X4 _) d5.apart (by omega)
    have D5 := (D4 _).and d5
    obtain ⟨k0, k1, k2, k3⟩ := Vr.cells V5
    have zf := Vr.frozen V5 2
    have V6 : Vr (w5.setCell ⟨w2.heap.size, 2, none⟩ (.int .i64 z)) w2.heap.size a b z p := Vr.set2 V5 z
    have X6 : Vr (w5.setCell ⟨w2.heap.size, 2, none⟩ (.int .i64 z)) w.heap.size 0 0 0 ⟨#[]⟩ := Vr.setOther X5 (by omega) _ _
    have D6 : Drawn W0 w g vb xs (w5.setCell ⟨w2.heap.size, 2, none⟩ (.int .i64 z)) := D5.on hg hgw ((Below.refl _ _).setCell (p := ⟨w2.heap.size, 2, none⟩) (show w.heap.size ≤ w2.heap.size by omega) _)
    clear V4 X4 D4 V5 X5 d5 D5 hm
    go_wp2_with (first | (refine wpList_load_row rfl 25 _ rfl w2.heap.size rfl 25 (vc a b z p) (0, 0) _ V6 Try.underlying25 rfl (sizeV a b z p) ?_) | (refine wpList_store_row rfl 25 _ _ rfl w.heap.size (vc a b z p) rfl rfl 25 (vc 0 0 0 ⟨#[]⟩) X6 (sizeV a b z p) rfl (oneV a b z p) ?_))
    refine bodyPost_ret (v := .agg (vc a b z p)) (results_cell_row rfl _ _ w.heap.size 25 _ (0, 0) _ rfl (Vr.row X6 a b z p) Try.underlying25 rfl (sizeV a b z p)) rfl ⟨a, b, z, p, rfl, ⟨A1.1, A1.2.1, hz, A1.2.2.2⟩, D6.on hg hgw (below_setRow (Below.refl _ _) (Nat.le_refl _) _)⟩
  have e0 : (x == 0) = false := by simpa using h0
  have e1 : (x == 1) = false := by simpa using h1
  have e2 : (x == 2) = false := by simpa using h2
  clear h0 h1 h2 V4 X4 D4
  go_wp2_with (first | (refine wpList_load_row rfl 25 _ rfl w2.heap.size rfl 25 (vc a b c p) (0, 0) _ V3 Try.underlying25 rfl (sizeV a b c p) ?_) | (refine wpList_store_row rfl 25 _ _ rfl w.heap.size (vc a b c p) rfl rfl 25 (vc 0 0 0 ⟨#[]⟩) X3' (sizeV a b c p) rfl (oneV a b c p) ?_))
  refine bodyPost_ret (v := .agg (vc a b c p)) (results_cell_row rfl _ _ w.heap.size 25 _ (0, 0) _ rfl (Vr.row X3' a b c p) Try.underlying25 rfl (sizeV a b c p)) rfl ⟨a, b, c, p, rfl, A1, D3'.on hg hgw (below_setRow (Below.refl _ _) (Nat.le_refl _) _)⟩

theorem any_agg (W0 w : World) (g : Nat) (vb : Value) (xs : List Int) (hs : Sl W0 vb (bs xs)) (hby : Byt xs) (hx : xs.length ≤ 140737488355328) (hB : Below W0.heap.size W0 w) (hg : W0.heap.size ≤ g) (hc : Cur w g vb xs.length) :
    Calls Try.prog 30 #[.pointer (some ⟨g, 0, none⟩)] w fun e w' => ∃ a b c p, e = .returned (.agg #[.int .i64 a, .int .i64 b, .int .i64 c, .string p]) ∧ Av a b c p ∧ Drawn W0 w g vb xs w' := any_any W0 w g vb xs hs hby hx hB hg hc

end Go.Proofs.Ytnoopfpgkgjdcab.Ver
