/- Texts in one: EntF. -/
import Derived.Test.YtljlcelbhlkmcabGreatDoorPk15
/- Chapter 5, draws: an entry. -/
namespace Go.Proofs.YtljlcelbhlkmcabGreatDoor.Ent
open Go.RowKit Go.Proofs.YtljlcelbhlkmcabGreatDoor.Mem Go.Proofs.YtljlcelbhlkmcabGreatDoor.Laws Go.Proofs.YtljlcelbhlkmcabGreatDoor.Bytes Go.Proofs.YtljlcelbhlkmcabGreatDoor.Sha Go.Proofs.YtljlcelbhlkmcabGreatDoor.Ver Go.Proofs.YtljlcelbhlkmcabGreatDoor.Mod Go.Proofs.YtljlcelbhlkmcabGreatDoor.Draw
set_option linter.unusedVariables false
set_option linter.unusedSimpArgs false

theorem self5_ins {n x : Nd} {l : List Nd} (h : self5 n l = false) (hx : eqT x.path n.path = false) : self5 n (insN l x) = false := by
  unfold self5 at h ⊢
  rw [List.any_eq_false] at h ⊢
  intro y hy
  rcases ins_mem hy with rfl | hy
  · simp [hx]
  · exact h y hy
theorem srt_nil : Srt [] := ⟨fun x hx => (by cases hx), List.Pairwise.nil⟩
theorem Od.apart {w w' : World} {lo hi g : Nat} {v : Value} {l : List Nd} (h : Od w lo hi v l) (ha : Apart g (g + 1) w w') (hg : g < lo) (hh : hi ≤ w.heap.size) : Od w' lo hi v l := On.apart h ha (.inr (by omega)) hh

/-- what a round of l5Entry holds -/
structure Et (W0 w : World) (g : Nat) (vb : Value) (xs : List Int) (ge lo : Nat) (W : World) (n : Nd) (v : Value) (l : List Nd) : Prop where
  od : Od W lo W.heap.size v l
  size : lo ≤ W.heap.size
  row : W.heap[ge]? = some (.cells (ec n v) 28 (0, 0))
  res : W.heap[w.heap.size]? = some (.cells (ec nil5 (.slice none 0 0)) 28 (0, 0))
  dr : Drawn W0 w g vb xs W
theorem Et.drawn {W0 w : World} {g : Nat} {vb : Value} {xs : List Int} {ge lo : Nat} {W W' : World} {n : Nd} {v : Value} {l : List Nd} (h : Et W0 w g vb xs ge lo W n v l) (hd : Drawn W0 W g vb xs W') (h1 : g < w.heap.size) (h2 : w.heap.size < ge) (h3 : ge < lo) : Et W0 w g vb xs ge lo W' n v l :=
  ⟨(Od.apart h.od hd.apart (by omega) (Nat.le_refl _)).mono (Nat.le_refl _) hd.apart.size, Nat.le_trans h.size hd.apart.size, rowApart h.row hd.apart (by omega), rowApart h.res hd.apart (by omega), h.dr.and hd⟩
theorem Et.later {W0 w : World} {g : Nat} {vb : Value} {xs : List Int} {ge lo : Nat} {W W' : World} {n : Nd} {v : Value} {l : List Nd} (h : Et W0 w g vb xs ge lo W n v l) (hb : Below W.heap.size W W') (hg : W0.heap.size ≤ g) (h1 : g < w.heap.size) (h2 : w.heap.size < ge) (h3 : ge < lo) : Et W0 w g vb xs ge lo W' n v l := by
  have := h.size
  exact ⟨On.grow h.od hb, Nat.le_trans h.size hb.size, rowKeep h.row hb, rowKeep h.res hb, h.dr.on hg h1 (hb.mono (by omega))⟩

set_option maxRecDepth 1000000 in
set_option maxHeartbeats 2000000 in
theorem entry_any (W0 w : World) (g : Nat) (vb : Value) (xs : List Int) (hs : Sl W0 vb (bs xs)) (hby : Byt xs) (hx : xs.length ≤ 140737488355328) (hB : Below W0.heap.size W0 w) (hg : W0.heap.size ≤ g) (hc : Cur w g vb xs.length) :
    Calls Tryz.prog 37 #[.pointer (some ⟨g, 0, none⟩)] w fun e w' => ∃ (n : Nd) (v : Value) (l : List Nd), e = .returned (.agg #[.string n.path, .int .i64 n.a, .int .i64 n.b, .int .i64 n.c, .string n.pre, v]) ∧ Dn n ∧ Srt l ∧ l.length ≤ 3 ∧ self5 n l = false ∧ Od w' w.heap.size w'.heap.size v l ∧ Drawn W0 w g vb xs w' := by
  have hgw := hc.lt
  obtain ⟨W1, HW1, HR1, HD1⟩ : ∃ W1, Hid (w.alloc (.cells #[.string ⟨#[]⟩, .int .i64 0, .int .i64 0, .int .i64 0, .string ⟨#[]⟩, .slice none 0 0] 28) = W1) ∧ Hid (W1.heap[w.heap.size]? = some (.cells (ec nil5 (.slice none 0 0)) 28 (0, 0))) ∧ Hid (Drawn W0 w g vb xs W1) :=
    ⟨_, rfl, heap_alloc_new w _, (Drawn.refl hB hc).on hg hgw ((Below.refl _ _).alloc (Nat.le_refl _) _)⟩
  have q1 := need_any W0 W1 g vb xs hs hby hx HD1.out.below hg HD1.out.cur
  rw [← HW1.out] at q1
  go_enter Tryz.func37, Tryz.ntmps37
  go_wp2_with fail
  refine q1.mono ?_
  rw [HW1.out]
  rintro e w2 ⟨n, rfl, hdn, d2⟩
  have hlt2 : w.heap.size < w2.heap.size := Nat.lt_of_lt_of_le (Array.getElem?_eq_some_iff.1 HR1.out).1 d2.apart.size
  obtain ⟨W4, HW4, HE4, HZ4⟩ : ∃ W4, Hid ((w2.alloc (.cells #[.string n.path, .int .i64 n.a, .int .i64 n.b, .int .i64 n.c, .string n.pre] 35)).alloc (.cells #[.string n.path, .int .i64 n.a, .int .i64 n.b, .int .i64 n.c, .string n.pre, .slice none 0 0] 28) = W4) ∧ Hid (Et W0 w g vb xs (w2.heap.size + 1) (w2.heap.size + 1 + 1) W4 n (.slice none 0 0) []) ∧ Hid (W4.heap.size = w2.heap.size + 1 + 1) := by
    have hb : Below w2.heap.size w2 ((w2.alloc (.cells #[.string n.path, .int .i64 n.a, .int .i64 n.b, .int .i64 n.c, .string n.pre] 35)).alloc (.cells #[.string n.path, .int .i64 n.a, .int .i64 n.b, .int .i64 n.c, .string n.pre, .slice none 0 0] 28)) := ((Below.refl _ _).alloc (Nat.le_refl _) _).alloc (by simp) _
    refine ⟨_, rfl, ⟨On.nil 5 _ _ _ _, by simp, heap_alloc2_new w2 _ _, rowKeep (rowApart HR1.out d2.apart (by omega)) hb, (HD1.out.and d2).on hg hgw (hb.mono (by omega))⟩, by show _ = _; simp⟩
  have q2 := below_any W0 W4 g vb xs 4 (by omega) (by omega) hs hby hx HE4.out.dr.below hg HE4.out.dr.cur
  rw [← HW4.out] at q2
  clear q1 HW1 HR1 HD1 d2
  go_wp2_with fail
  refine q2.mono ?_
  rw [HW4.out]
  rintro e w5 ⟨y, rfl, y0, y1, d5⟩
  obtain ⟨m, rfl⟩ := Int.eq_ofNat_of_zero_le y0
  have HE5 : Hid (Et W0 w g vb xs (w2.heap.size + 1) (w2.heap.size + 1 + 1) w5 n (.slice none 0 0) []) := HE4.out.drawn d5 hgw (by omega) (by omega)
  have hm3 : m ≤ 3 := by omega
  clear q2 HW4 HE4 HZ4 d5 y0 y1
  go_wp2
  go_loopw [5] (fun i wr => ∃ (j : Nat) (l : List Nd) (v : Value), i = .int .i64 (j : Int) ∧ l.length + j ≤ 3 ∧ Hid (Srt l ∧ self5 n l = false) ∧ Et W0 w g vb xs (w2.heap.size + 1) (w2.heap.size + 1 + 1) wr n v l) (fun i _ => (intOf i).toNat)
  case atStart => exact ⟨m, [], _, rfl, by simp; omega, ⟨srt_nil, rfl⟩, HE5.out⟩
  case round =>
    obtain ⟨j, l, v, rfl, hlj, HL, hE⟩ := hrel
    clear HE5
    obtain ⟨ao, cap, rfl⟩ := hE.od.slice
    have HE : Hid (Et W0 w g vb xs (w2.heap.size + 1) (w2.heap.size + 1 + 1) wr n (.slice ao l.length cap) l) := hE
    clear hE
    by_cases hj : 0 < j
    · have q3 := need_any W0 wr g vb xs hs hby hx HE.out.dr.below hg HE.out.dr.cur
      go_wp2_with fail
      refine q3.mono ?_
      rintro e w6 ⟨x, rfl, hdx, d6⟩
      obtain ⟨W7, HW7, HE7, HX7⟩ : ∃ W7, Hid (w6.alloc (.cells #[.string x.path, .int .i64 x.a, .int .i64 x.b, .int .i64 x.c, .string x.pre] 35) = W7) ∧ Hid (Et W0 w g vb xs (w2.heap.size + 1) (w2.heap.size + 1 + 1) W7 n (.slice ao l.length cap) l) ∧ Hid (Nr W7 w6.heap.size x) :=
        ⟨_, rfl, (HE.out.drawn d6 hgw (by omega) (by omega)).later ((Below.refl _ _).alloc (Nat.le_refl _) _) hg hgw (by omega) (by omega), heap_alloc_new w6 _⟩
      clear q3 HE d6
      obtain ⟨x0, x1, x2, x3, x4⟩ := Nr.cells HX7.out
      have k0 : W7.cell? ⟨w2.heap.size + 1, 0, none⟩ = some (.string n.path) := row_cells HE7.out.row 0
      have k5 : W7.cell? ⟨w2.heap.size + 1, 5, none⟩ = some (.slice ao l.length cap) := row_cells HE7.out.row 5
      rw [← HW7.out] at x0 x1 x2 x3 x4 k0 k5
      obtain ⟨eq, heq⟩ : ∃ z, eqT x.path n.path = z := ⟨_, rfl⟩
      have heq' : (x.path.toList == n.path.toList) = eq := heq
      have HQ : Hid (eqT x.path n.path = eq) := heq
      clear heq
      cases eq
      · have q4 := put_any W7 (.slice ao l.length cap) l x HE7.out.od.sd (by omega)
        rw [← HW7.out] at q4
        go_wp2_with fail
        refine q4.mono ?_
        rw [HW7.out]
        rintro e w8 ⟨v8, rfl, o8, b8⟩
        obtain ⟨a8, c8, rfl⟩ := o8.slice
        have hi := ins_srt HL.out.1 hdx
        have hsl := self5_ins HL.out.2 HQ.out
        have E8 := HE7.out.later b8 hg hgw (by omega) (by omega)
        have hz7 := HE7.out.size
        obtain ⟨li, hli⟩ : ∃ li, insN l x = li := ⟨_, rfl⟩
        rw [hli] at hi hsl o8
        rw [hli]
        have k9 : w8.cell? ⟨w2.heap.size + 1, 5, none⟩ = some (.slice ao l.length cap) := row_cells E8.row 5
        have f9 : w8.frozen? ⟨w2.heap.size + 1, 5, none⟩ = false := frozen_of_row w8 _ 5 _ _ E8.row
        have HE9 : Hid (Et W0 w g vb xs (w2.heap.size + 1) (w2.heap.size + 1 + 1) (w8.setCell ⟨w2.heap.size + 1, 5, none⟩ (.slice a8 li.length c8)) n (.slice a8 li.length c8) li) := by
          have hz8 := E8.size
          refine ⟨?_, by simp [World.setCell]; omega, ?_, (heap_setCell_other w8 ⟨w2.heap.size + 1, 5, none⟩ _ _ (by show w.heap.size ≠ w2.heap.size + 1; omega)).trans E8.res, E8.dr.on hg hgw ((Below.refl _ _).setCell (p := ⟨w2.heap.size + 1, 5, none⟩) (by show _ ≤ w2.heap.size + 1; omega) _)⟩
          · exact ((On.keep (w := w8) (lo := W7.heap.size) (hi := w8.heap.size) o8 fun q h1 h2 => heap_setCell_other w8 ⟨w2.heap.size + 1, 5, none⟩ q _ (by show q ≠ w2.heap.size + 1; omega)).mono (by omega) (by simp [World.setCell]))
          · rw [heap_setCell_same w8 _ 5 _ _ _ E8.row]
            rfl
        have HS9 : Hid (Srt li ∧ self5 n li = false) := ⟨hi.1, hsl⟩
        have hl9 : li.length + (j - 1) ≤ 3 := by omega
        have hj1 : ((j : Int) - 1) = ((j - 1 : Nat) : Int) := by omega
        clear q4 o8 b8 hi hsl E8 hli x0 x1 x2 x3 x4 k0 k5 HE7 HX7 HL HQ heq' HW7
        go_wp2
        go_roundw
        case rel => exact ⟨j - 1, li, _, by first | rfl | (rw [hj1]) | go_num, hl9, HS9, HE9.out⟩
        case measure => simp [intOf]; omega
      · have hj1 : ((j : Int) - 1) = ((j - 1 : Nat) : Int) := by omega
        have hl9 : l.length + (j - 1) ≤ 3 := by omega
        go_wp2
        rw [HW7.out]
        clear x0 x1 x2 x3 x4 k0 k5
        go_roundw
        case rel => exact ⟨j - 1, l, _, by first | rfl | (rw [hj1]) | go_num, hl9, HL, HE7.out⟩
        case measure => simp [intOf]; omega
    · have hR := HE.out.res
      have HR : Hid _ := hR
      have HRw : Hid _ := HE.out.row
      clear hR
      go_wp2_with (first | (refine wpList_load_row rfl 28 _ rfl (w2.heap.size + 1) rfl 28 (ec n (.slice ao l.length cap)) (0, 0) _ HRw.out Tryz.underlying28 rfl (sizeE n _) ?_) | (refine wpList_store_row rfl 28 _ _ rfl w.heap.size (ec n (.slice ao l.length cap)) rfl rfl 28 _ HR.out (sizeE n _) rfl (oneE n (one_slice _ _ _)) ?_))
      refine bodyPost_ret (v := .agg (ec n (.slice ao l.length cap))) (results_cell_row rfl _ _ w.heap.size 28 _ (0, 0) _ rfl (setRow_heap _ _ _ _ _ (0, 0) HR.out) Tryz.underlying28 rfl (sizeE n _)) rfl ⟨n, .slice ao l.length cap, l, rfl, hdn, HL.out.1, by omega, HL.out.2, ?_, HE.out.dr.on hg hgw (below_setRow (Below.refl _ _) (Nat.le_refl _) _)⟩
      exact (Od.keep HE.out.od fun q h1 h2 => setRow_other _ _ _ _ (by omega)).mono (by omega) (by simp)

end Go.Proofs.YtljlcelbhlkmcabGreatDoor.Ent
