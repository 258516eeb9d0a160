/- Texts in one: ShaG. -/
import Derived.Test.YtchonoonclllbaaGreatDoorPh30
import Derived.Lib.LaidTab
import Derived.MakeChecks
set_option maxHeartbeats 16000000
set_option linter.unusedVariables false
set_option linter.unusedSimpArgs false
namespace Go.Proofs.YtchonoonclllbaaGreatDoor.Sha
open Go.RowKit Mem Laws Bytes
theorem gRoot : Tryz.prog.globalNamed "loop.example/g00233/impl.rootWords" = some 0 := by kernel_rfl
theorem gRound : Tryz.prog.globalNamed "loop.example/g00233/impl.roundWords" = some 5 := by kernel_rfl
theorem tRoot : (Tryz.prog.globals[0]?).map (·.type) = some 178 := by kernel_rfl
theorem tRound : (Tryz.prog.globals[5]?).map (·.type) = some 212 := by kernel_rfl
theorem cEl : Tryz.prog.cellsOf 177 = 1 := by kernel_rfl
theorem cRoot : Tryz.prog.cellsOf 178 = 8 := by kernel_rfl
theorem cRound : Tryz.prog.cellsOf 212 = 64 := by kernel_rfl
theorem var_heap {P : Program} {W : World} {n : String} {g : Nat} {cs : Array Value} (hg : P.globalNamed n = some g) (hv : W.var? P n = some cs) : ∃ t fr, W.heap[g]? = some (.cells cs t fr) := by
 unfold World.var? at hv
 rw [hg] at hv
 simp only [Option.bind_some] at hv
 split at hv
 ·rename_i c t fr h
  obtain rfl := Option.some.inj hv
  exact ⟨t, fr, h⟩
 ·cases hv
theorem glob_of {W : World} (h : laidMet Tryz.prog [("loop.example/g00233/impl.rootWords", Rows.laid_loop_example_g00233_impl_rootWords), ("loop.example/g00233/impl.roundWords", Rows.laid_loop_example_g00233_impl_roundWords)] W) : Glob W := by
 obtain ⟨ps, ⟨g0, t0, cs0, f0, p0, q0, hg0, ht0, hv0, hd0, ⟨g1, t1, cs1, f1, p1, q1, hg1, ht1, hv1, hd1, _, _⟩, _⟩, _, _⟩ := h
 obtain rfl := Option.some.inj (gRoot.symm.trans hg0)
 obtain rfl := Option.some.inj (gRound.symm.trans hg1)
 obtain rfl := Option.some.inj (tRoot.symm.trans ht0)
 obtain rfl := Option.some.inj (tRound.symm.trans ht1)
 have e0 : Rows.laid_loop_example_g00233_impl_rootWords = Lib.tabData (H := Unit) .u32 (H0.map fun n : Nat => (n : Int)) := rfl
 have e1 : Rows.laid_loop_example_g00233_impl_roundWords = Lib.tabData (H := Unit) .u32 (KC.map fun n : Nat => (n : Int)) := rfl
 rw [e0] at hd0
 rw [e1] at hd1
 have c0 := Lib.cells_of_tab Tryz.underlying178 Tryz.underlying177 cEl cRoot hd0
 have c1 := Lib.cells_of_tab Tryz.underlying212 Tryz.underlying177 cEl cRound hd1
 refine ⟨?_, fun j hj => ?_⟩
 ·obtain ⟨t, fr, hh⟩ := var_heap gRoot hv0
  have e : cs0 = a8 H0 := by
   apply Array.ext'
   rw [c0]
   rfl
  rw [e] at hh
  exact ⟨t, fr, hh⟩
 ·rw [World.var?_cell gRound hv1 j]
  have e : cs1[j]? = cs1.toList[j]? := by simp
  rw [e, c1]
  have hl : j < KC.length := hj
  simp [List.getD, hl]
end Go.Proofs.YtchonoonclllbaaGreatDoor.Sha
