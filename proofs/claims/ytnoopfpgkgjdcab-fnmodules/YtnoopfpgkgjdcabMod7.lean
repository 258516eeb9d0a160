/- Chapter 4's draws: a path; whatever path; a path and a version. -/
import Derived.Test.YtnoopfpgkgjdcabDraw5
namespace Go.Proofs.Ytnoopfpgkgjdcab.Mod
open Go.RowKit Go.Proofs.Ytnoopfpgkgjdcab.Mem Go.Proofs.Ytnoopfpgkgjdcab.Laws Go.Proofs.Ytnoopfpgkgjdcab.Bytes Go.Proofs.Ytnoopfpgkgjdcab.Sha Go.Proofs.Ytnoopfpgkgjdcab.Draw Go.Proofs.Ytnoopfpgkgjdcab.Ver
set_option linter.unusedVariables false
set_option linter.unusedSimpArgs false

def pathL : List ByteArray := [⟨#[97, 46, 111, 114, 103, 47, 120]⟩, ⟨#[97, 46, 111, 114, 103, 47, 121]⟩, ⟨#[98, 46, 105, 111, 47, 122]⟩, ⟨#[98, 46, 105, 111, 47, 122, 47, 118, 50]⟩, ⟨#[99]⟩, ⟨#[97, 46, 111, 114, 103, 47, 119]⟩]
def oddP : List ByteArray := [⟨#[]⟩, ⟨#[47]⟩, ⟨#[97, 47, 47, 98]⟩, ⟨#[65]⟩, ⟨#[45, 97]⟩, ⟨#[97, 47, 118, 49]⟩, ⟨#[97, 47, 118, 50]⟩, ⟨#[97, 47, 118, 48, 50]⟩, ⟨#[118, 50]⟩, ⟨#[97, 47, 118, 49, 48, 48, 48]⟩, ⟨#[97, 47, 118, 49, 48, 48, 49]⟩, ⟨#[97, 47, 98, 47, 99, 47, 100, 47, 101, 47, 102]⟩, ⟨#[97, 47, 98, 47, 99, 47, 100, 47, 101, 47, 102, 47, 103]⟩, ⟨#[116, 119, 101, 110, 116, 121, 111, 110, 101, 98, 121, 116, 101, 115, 45, 116, 119, 101, 110, 116, 121]⟩, ⟨#[97, 46, 98, 95, 99, 45, 100, 47, 118, 51]⟩, ⟨#[46, 97]⟩]
theorem pathL_size : ∀ s ∈ pathL, s.size ≤ 60 := by decide
theorem oddP_size : ∀ s ∈ oddP, s.size ≤ 60 := by decide

set_option maxRecDepth 1000000 in
set_option maxHeartbeats 1000000 in
theorem path_any (W0 w : World) (g : Nat) (vb : Value) (xs : List Int) (hs : Sl W0 vb (bs xs)) (hby : Byt xs) (hx : xs.length ≤ 140737488355328) (hB : Below W0.heap.size W0 w) (hg : W0.heap.size ≤ g) (hc : Cur w g vb xs.length) :
    Calls Try.prog 53 #[.pointer (some ⟨g, 0, none⟩)] w fun e w' => ∃ s, e = .returned (.string s) ∧ s ∈ pathL ∧ Drawn W0 w g vb xs w' := by
  have hgw := hc.lt
  have D1 : ∀ o, Drawn W0 w g vb xs (w.alloc o) := fun o => (Drawn.refl hB hc).on hg hgw ((Below.refl _ _).alloc (Nat.le_refl _) _)
  go_enter Try.func53, Try.ntmps53
  go_wp2_with fail
  refine (str_any W0 _ g vb xs w.heap.size pathL (lit_block _ _ _) (by omega) (by decide) (by decide) hs hby hx (D1 _).below hg (D1 _).cur).mono ?_
  rintro e w5 ⟨z, rfl, hm, d5⟩
  have D5 := (D1 _).and d5
  clear D1
  go_wp2_with fail
  go_ret
  exact ⟨z, rfl, hm, D5⟩

set_option maxRecDepth 1000000 in
set_option maxHeartbeats 1000000 in
theorem anyP_any (W0 w : World) (g : Nat) (vb : Value) (xs : List Int) (hs : Sl W0 vb (bs xs)) (hby : Byt xs) (hx : xs.length ≤ 140737488355328) (hB : Below W0.heap.size W0 w) (hg : W0.heap.size ≤ g) (hc : Cur w g vb xs.length) :
    Calls Try.prog 35 #[.pointer (some ⟨g, 0, none⟩)] w fun e w' => ∃ s, e = .returned (.string s) ∧ s.size ≤ 60 ∧ Drawn W0 w g vb xs w' := by
  have hgw := hc.lt
  go_enter Try.func35, Try.ntmps35
  go_wp2_with fail
  refine (once_any W0 _ g vb xs 4 (by omega) (by omega) hs hby hx hB hg hc).mono ?_
  rintro e w1 ⟨on, rfl, d1⟩
  have s1 := d1.apart.size
  have gl1 := d1.cur.lt
  have D1 : ∀ o, Drawn W0 w g vb xs (w1.alloc o) := fun o => d1.on hg hgw ((Below.refl _ _).alloc s1 _)
  cases on
  · go_wp2_with fail
    refine (path_any W0 _ g vb xs hs hby hx d1.below hg d1.cur).mono ?_
    rintro e w5 ⟨z, rfl, hm, d5⟩
    have D5 := d1.and d5
    clear D1
    go_wp2_with fail
    go_ret
    exact ⟨z, rfl, pathL_size z hm, D5⟩
  · go_wp2_with fail
    refine (str_any W0 _ g vb xs w1.heap.size oddP (lit_block _ _ _) (by omega) (by decide) (by decide) hs hby hx (D1 _).below hg (D1 _).cur).mono ?_
    rintro e w5 ⟨z, rfl, hm, d5⟩
    have D5 := (D1 _).and d5
    clear D1
    go_wp2_with fail
    go_ret
    exact ⟨z, rfl, oddP_size z hm, D5⟩

end Go.Proofs.Ytnoopfpgkgjdcab.Mod
