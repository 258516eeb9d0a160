/- Chapter 3's draws: a right version; three; whatever version. -/
import Derived.Test.YtnoopfpgkgjdcabDraw
import Derived.Test.YtnoopfpgkgjdcabVer8
import Derived.Deep.QuietTactic
namespace Go.Proofs.Ytnoopfpgkgjdcab.Ver
open Go.RowKit Go.Proofs.Ytnoopfpgkgjdcab.Mem Go.Proofs.Ytnoopfpgkgjdcab.Laws Go.Proofs.Ytnoopfpgkgjdcab.Bytes Go.Proofs.Ytnoopfpgkgjdcab.Sha Go.Proofs.Ytnoopfpgkgjdcab.Draw
set_option linter.unusedVariables false
set_option linter.unusedSimpArgs false

/-- what may stand behind a drawn version -/
def preL : List ByteArray := [⟨#[]⟩, ⟨#[]⟩, ⟨#[]⟩, ⟨#[114, 99, 46, 49]⟩, ⟨#[97, 108, 112, 104, 97]⟩, ⟨#[114, 99, 46, 50]⟩, ⟨#[49]⟩, ⟨#[50, 46, 120]⟩, ⟨#[98, 101, 116, 97, 45, 49]⟩, ⟨#[114, 99]⟩]
theorem preL_size : ∀ s ∈ preL, s.size ≤ 8 := by decide
/-- a drawn version -/
def Dv (a b c : Int) (p : ByteArray) : Prop := (0 ≤ a ∧ a ≤ 2) ∧ (0 ≤ b ∧ b < 4) ∧ (0 ≤ c ∧ c < 3) ∧ p ∈ preL

theorem Vr.apart {w w' : World} {g q : Nat} {a b c : Int} {p : ByteArray} (h : Vr w q a b c p) (ha : Apart g (g + 1) w w') (hne : q ≠ g) : Vr w' q a b c p := (ha.block q h.lt (by omega)).trans h

theorem info3v : (Try.prog.info? 3).map (fun i => (i.zero, i.size, i.bytes)) = some (some (.int .i64 0), 1, 8) := by kernel_rfl

set_option maxRecDepth 1000000 in
set_option maxHeartbeats 1000000 in
theorem draw_any (W0 w : World) (g : Nat) (vb : Value) (xs : List Int) (hs : Sl W0 vb (bs xs)) (hby : Byt xs) (hx : xs.length ≤ 140737488355328) (hB : Below W0.heap.size W0 w) (hg : W0.heap.size ≤ g) (hc : Cur w g vb xs.length) :
    Calls Try.prog 25 #[.pointer (some ⟨g, 0, none⟩)] w fun e w' => ∃ a b c p, e = .returned (ver a b c p) ∧ Dv a b c p ∧ Drawn W0 w g vb xs w' := by
  have hgw := hc.lt
  have V0 : Vr (w.alloc (.cells (vc 0 0 0 ⟨#[]⟩) 25)) w.heap.size 0 0 0 ⟨#[]⟩ := heap_alloc_new w _
  have hd0 : Drawn W0 w g vb xs (w.alloc (.cells (vc 0 0 0 ⟨#[]⟩) 25)) := (Drawn.refl hB hc).on hg hgw ((Below.refl _ _).alloc (Nat.le_refl _) _)
  have hd1 : ∀ o, Drawn W0 w g vb xs ((w.alloc (.cells (vc 0 0 0 ⟨#[]⟩) 25)).alloc o) := fun o => hd0.on hg hgw ((Below.refl _ _).alloc (by simp) _)
  have V1 : ∀ o, Vr ((w.alloc (.cells (vc 0 0 0 ⟨#[]⟩) 25)).alloc o) w.heap.size 0 0 0 ⟨#[]⟩ := fun o => Vr.same V0 ((Below.refl _ _).alloc (Nat.le_refl _) _)
  have hg2 : w.heap.size + 1 ≠ g := by omega
  clear V0 hd0
  go_enter Try.func25, Try.ntmps25
  go_wp2_with fail
  refine (int_any W0 _ g vb xs (w.heap.size + 1) [1, 0, 1, 2] (heap_alloc2_new w _ _) hg2 (by decide) (by decide) hs hby hx (hd1 _).below hg (hd1 _).cur).mono ?_
  rintro e w2 ⟨a, rfl, ha, hd2⟩
  have V2 := Vr.apart (V1 _) hd2.apart (by omega)
  have D2 := (hd1 _).and hd2
  clear hd1 V1 hd2
  go_wp2_with fail
  refine (below_any W0 _ g vb xs 4 (by omega) (by omega) hs hby hx D2.below hg D2.cur).mono ?_
  rintro e w3 ⟨b, rfl, b0, b1, hd3⟩
  have V3 := Vr.apart V2 hd3.apart (by omega)
  have D3 := D2.and hd3
  clear V2 hd3 D2
  go_wp2_with fail
  refine (below_any W0 _ g vb xs 3 (by omega) (by omega) hs hby hx D3.below hg D3.cur).mono ?_
  rintro e w4 ⟨c, rfl, c0, c1, hd4⟩
  have V4 := Vr.apart V3 hd4.apart (by omega)
  have D4 := D3.and hd4
  have hgr : g < w4.heap.size := D4.cur.lt
  have D5 : ∀ o, Drawn W0 w g vb xs (w4.alloc o) := fun o => D4.on hg hgw ((Below.refl _ _).alloc D4.apart.size _)
  have V5 : ∀ o, Vr (w4.alloc o) w.heap.size 0 0 0 ⟨#[]⟩ := fun o => Vr.same V4 ((Below.refl _ _).alloc (Nat.le_refl _) _)
  clear V3 hd4 D3 V4 D4
  go_wp2_with fail
  refine (str_any W0 _ g vb xs w4.heap.size preL (lit_block _ _ _) (by omega) (by decide) (by decide) hs hby hx (D5 _).below hg (D5 _).cur).mono ?_
  rintro e w6 ⟨p, rfl, hp, hd6⟩
  have V6 := Vr.apart (V5 _) hd6.apart (by omega)
  have D6 := (D5 _).and hd6
  clear V5 hd6 D5
  go_wp2_with (refine wpList_store_row rfl 25 _ _ rfl w.heap.size (vc a b c p) rfl rfl 25 (vc 0 0 0 ⟨#[]⟩) V6 (sizeV a b c p) rfl (oneV a b c p) ?_)
  refine bodyPost_ret (v := .agg (vc a b c p)) (results_cell_row rfl _ _ w.heap.size 25 _ (0, 0) _ rfl (Vr.row V6 a b c p) Try.underlying25 rfl (sizeV a b c p)) rfl ⟨a, b, c, p, rfl, ⟨?_, ⟨b0, b1⟩, ⟨c0, c1⟩, hp⟩, D6.on hg hgw (below_setRow (Below.refl _ _) (Nat.le_refl _) _)⟩
  simp at ha
  omega

set_option maxRecDepth 1000000 in
theorem once_any (W0 w : World) (g : Nat) (vb : Value) (xs : List Int) (n : Int) (hn1 : 1 ≤ n) (hn2 : n ≤ 9223372036854775807) (hs : Sl W0 vb (bs xs)) (hby : Byt xs) (hx : xs.length ≤ 140737488355328) (hB : Below W0.heap.size W0 w) (hg : W0.heap.size ≤ g) (hc : Cur w g vb xs.length) :
    Calls Try.prog 26 #[.pointer (some ⟨g, 0, none⟩), .int .i64 n] w fun e w' => ∃ b : Bool, e = .returned (.bool b) ∧ Drawn W0 w g vb xs w' := by
  go_enter Try.func26, Try.ntmps26
  go_wp2_with fail
  refine (below_any W0 _ g vb xs n hn1 hn2 hs hby hx hB hg hc).mono ?_
  rintro e w2 ⟨a, rfl, a0, a1, hd2⟩
  go_wp2_with fail
  go_ret
  exact ⟨_, rfl, hd2⟩

end Go.Proofs.Ytnoopfpgkgjdcab.Ver
