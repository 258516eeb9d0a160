/- Chapter 3's draws: a version to be put into a text; a text to be read. -/
import Derived.Test.YtbpgdagmffbagabDoorDraw5
import Derived.Test.YtbpgdagmffbagabDoorVer5
namespace Go.Proofs.YtbpgdagmffbagabDoor.Ver
open Go.RowKit Go.Proofs.YtbpgdagmffbagabDoor.Mem Go.Proofs.YtbpgdagmffbagabDoor.Laws Go.Proofs.YtbpgdagmffbagabDoor.Bytes Go.Proofs.YtbpgdagmffbagabDoor.Sha Go.Proofs.YtbpgdagmffbagabDoor.Draw
set_option linter.unusedVariables false
set_option linter.unusedSimpArgs false

theorem size1 (w : World) (A : Obj) : (w.alloc A).heap.size = w.heap.size + 1 := by
  show (w.heap.push A).size = _
  simp

set_option maxRecDepth 1000000 in
set_option maxHeartbeats 1000000 in
theorem dvt_any (w : World) (vb : Value) (xs : List Int) (hs : Sl w vb (bs xs)) (hby : Byt xs) (hx : xs.length ≤ 140737488355328) :
    Calls Tryd.prog 5 #[vb] w fun e w' => ∃ a b c p, e = .returned (.agg #[.int .i64 a, .int .i64 b, .int .i64 c, .string p]) ∧ Av a b c p ∧ Below w.heap.size w w' := by
  obtain ⟨Y, q1, HYs, HYb, HY0, hsY⟩ : ∃ Y : World, (Calls Tryd.prog 12 #[vb] (w.alloc (.cells (vc 0 0 0 ⟨#[]⟩) 25)) fun e w' => e = .returned (.pointer (some ⟨(w.heap.size + 1), 0, none⟩)) ∧ Drawn Y Y (w.heap.size + 1) vb xs w') ∧ Hid (Y.heap.size = (w.heap.size + 1)) ∧ Hid (Below w.heap.size w Y) ∧ Hid (Vr Y w.heap.size 0 0 0 ⟨#[]⟩) ∧ Sl Y vb (bs xs) := by
    have hb : Below w.heap.size w (w.alloc (.cells (vc 0 0 0 ⟨#[]⟩) 25)) := (Below.refl _ _).alloc (Nat.le_refl _) _
    have hsY : Sl (w.alloc (.cells (vc 0 0 0 ⟨#[]⟩) 25)) vb (bs xs) := hs.later hb
    have q := new_any (w.alloc (.cells (vc 0 0 0 ⟨#[]⟩) 25)) vb xs hsY hby hx
    rw [size1] at q
    exact ⟨w.alloc (.cells (vc 0 0 0 ⟨#[]⟩) 25), q, size1 w _, hb, heap_alloc_new w _, hsY⟩
  have hgY : Y.heap.size ≤ (w.heap.size + 1) := by have := HYs.out; omega
  go_enter Tryd.func5, Tryd.ntmps5
  go_wp2_with fail
  refine q1.mono ?_
  rintro e w1 ⟨rfl, d1⟩
  have X1 : Vr w1 w.heap.size 0 0 0 ⟨#[]⟩ := Vr.apart HY0.out d1.apart (by omega)
  have B1 : Below w.heap.size w w1 := HYb.out.trans (d1.below.mono HYb.out.size)
  clear q1
  go_wp2_with fail
  refine (any_agg Y w1 (w.heap.size + 1) vb xs hsY hby hx d1.below hgY d1.cur).mono ?_
  rintro e w2 ⟨a, b, c, p, rfl, A1, d2⟩
  have X2 : Vr w2 w.heap.size 0 0 0 ⟨#[]⟩ := Vr.apart X1 d2.apart (by omega)
  have B2 : Below w.heap.size w w2 := B1.trans (d2.apart.below (B := w.heap.size) (by omega) B1.size)
  clear X1 B1 d1 d2
  go_wp2_with (refine wpList_store_row rfl 25 _ _ rfl w.heap.size (vc a b c p) rfl rfl 25 (vc 0 0 0 ⟨#[]⟩) X2 (sizeV a b c p) rfl (oneV a b c p) ?_)
  exact bodyPost_ret (v := .agg (vc a b c p)) (results_cell_row rfl _ _ w.heap.size 25 _ (0, 0) _ rfl (Vr.row X2 a b c p) Tryd.underlying25 rfl (sizeV a b c p)) rfl ⟨a, b, c, p, rfl, A1, below_setRow B2 (Nat.le_refl _) _⟩

/-- texts of versions, and of none -/
def textL : List ByteArray := [⟨#[]⟩, ⟨#[118]⟩, ⟨#[49, 46, 50, 46, 51]⟩, ⟨#[118, 49, 46, 50]⟩, ⟨#[118, 49, 46, 50, 46, 51, 46, 52]⟩, ⟨#[118, 48, 49, 46, 50, 46, 51]⟩, ⟨#[118, 49, 46, 50, 46, 51, 45]⟩, ⟨#[118, 49, 46, 50, 46, 51, 45, 48, 49]⟩, ⟨#[118, 49, 46, 50, 46, 51, 45, 97, 46, 98]⟩, ⟨#[118, 49, 46, 50, 46, 51, 45, 97, 46, 46, 98]⟩, ⟨#[118, 49, 46, 45, 50, 46, 51]⟩, ⟨#[86, 49, 46, 50, 46, 51]⟩, ⟨#[118, 49, 46, 50, 46, 51, 45, 114, 99, 45, 49]⟩, ⟨#[118, 49, 48, 48, 48, 48, 48, 48, 46, 48, 46, 48]⟩, ⟨#[118, 49, 48, 48, 48, 48, 48, 49, 46, 48, 46, 48]⟩, ⟨#[118, 49, 50, 51, 52, 53, 54, 55, 56, 57, 46, 48, 46, 48]⟩]
theorem textL_size : ∀ s ∈ textL, s.size ≤ 14 := by decide
theorem verText_size {a b c : Int} {p : ByteArray} (hp : p.size ≤ 9) : (Plain.txt (verText a b c p)).size ≤ 100 := by
  rw [txt_sizev]
  unfold verText
  split
  · unfold vt
    have h1 := digF_len 6 a.toNat
    have h2 := digF_len 6 b.toNat
    have h3 := digF_len 6 c.toNat
    have h4 := sb_len p
    split <;> simp <;> omega
  · simp

set_option maxRecDepth 1000000 in
set_option maxHeartbeats 1000000 in
theorem dpv_any (w : World) (vb : Value) (xs : List Int) (hs : Sl w vb (bs xs)) (hby : Byt xs) (hx : xs.length ≤ 140737488355328) :
    Calls Tryd.prog 10 #[vb] w fun e w' => ∃ t : ByteArray, e = .returned (.string t) ∧ t.size ≤ 100 ∧ Below w.heap.size w w' := by
  go_enter Tryd.func10, Tryd.ntmps10
  go_wp2_with fail
  refine (new_any w vb xs hs hby hx).mono ?_
  rintro e w1 ⟨rfl, d1⟩
  have gl1 := d1.cur.lt
  go_wp2_with fail
  refine (once_any w w1 w.heap.size vb xs 3 (by omega) (by omega) hs hby hx d1.below (Nat.le_refl _) d1.cur).mono ?_
  rintro e w2 ⟨on, rfl, d2⟩
  have gl2 := d2.cur.lt
  cases on
  · go_wp2_with fail
    refine (draw_agg w w2 w.heap.size vb xs hs hby hx d2.below (Nat.le_refl _) d2.cur).mono ?_
    rintro e w3 ⟨a, b, c, p, rfl, D3, d3⟩
    have hp := D3.any.2.2.2
    have q := vtext_spec w3 a b c p (by omega)
    unfold ver at q
    have hz := verText_size (a := a) (b := b) (c := c) hp
    obtain ⟨t, ht⟩ : ∃ t, Plain.txt (verText a b c p) = t := ⟨_, rfl⟩
    rw [ht] at q hz
    have b3 := d3.below
    clear ht d1 d2 d3
    go_wp2_with fail
    refine q.mono ?_
    rintro e w4 ⟨rfl, b4⟩
    go_wp2_with fail
    go_ret
    exact ⟨t, rfl, hz, b3.trans (b4.mono b3.size)⟩
  · have n2 : ∀ o, Drawn w w1 w.heap.size vb xs (w2.alloc o) := fun o => d2.on (Nat.le_refl _) gl1 ((Below.refl _ _).alloc d2.apart.size _)
    clear d1
    go_wp2_with fail
    refine (str_any w _ w.heap.size vb xs w2.heap.size textL (lit_block _ _ _) (by omega) (by decide) (by decide) hs hby hx (n2 _).below (Nat.le_refl _) (n2 _).cur).mono ?_
    rintro e w3 ⟨t, rfl, hm, d3⟩
    have hz := textL_size t hm
    have b3 := d3.below
    clear n2 d2 d3 hm
    go_wp2_with fail
    go_ret
    exact ⟨t, rfl, by omega, b3⟩

end Go.Proofs.YtbpgdagmffbagabDoor.Ver
