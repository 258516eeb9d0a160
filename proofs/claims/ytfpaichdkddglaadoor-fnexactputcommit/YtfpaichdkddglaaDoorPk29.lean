/- Texts in one: ShaG, RowSl. -/
import Derived.Test.YtfpaichdkddglaaDoorPk22
import Derived.Test.YtfpaichdkddglaaDoorRows
import Derived.Test.YtfpaichdkddglaaDoorPk1
import Derived.Lib.LaidTab
import Derived.MakeChecks
import Derived.OpenShut
/- From the row's list of variables to the program's two tables of words. -/
namespace Go.Proofs.YtfpaichdkddglaaDoor.Sha
open Go.RowKit Go.Proofs.YtfpaichdkddglaaDoor.Mem Go.Proofs.YtfpaichdkddglaaDoor.Laws Go.Proofs.YtfpaichdkddglaaDoor.Bytes
set_option linter.unusedVariables false

theorem gRoot : Tryd.prog.globalNamed "loop.example/g00233/impl.rootWords" = some 0 := by kernel_rfl
theorem gRound : Tryd.prog.globalNamed "loop.example/g00233/impl.roundWords" = some 2 := by kernel_rfl
theorem tRoot : (Tryd.prog.globals[0]?).map (·.type) = some 85 := by kernel_rfl
theorem tRound : (Tryd.prog.globals[2]?).map (·.type) = some 97 := by kernel_rfl
theorem cEl : Tryd.prog.cellsOf 84 = 1 := by kernel_rfl
theorem cRoot : Tryd.prog.cellsOf 85 = 8 := by kernel_rfl
theorem cRound : Tryd.prog.cellsOf 97 = 64 := by kernel_rfl

theorem var_heap {P : Program} {W : World} {n : String} {g : Nat} {cs : Array Value} (hg : P.globalNamed n = some g) (hv : W.var? P n = some cs) : ∃ t fr, W.heap[g]? = some (.cells cs t fr) := by
  unfold World.var? at hv
  rw [hg] at hv
  simp only [Option.bind_some] at hv
  split at hv
  · rename_i c t fr h
    obtain rfl := Option.some.inj hv
    exact ⟨t, fr, h⟩
  · cases hv

theorem glob_of {W : World} (h : laidMet Tryd.prog [("loop.example/g00233/impl.rootWords", Rows.laid_loop_example_g00233_impl_rootWords), ("loop.example/g00233/impl.roundWords", Rows.laid_loop_example_g00233_impl_roundWords)] W) : Glob W := by
  obtain ⟨ps, ⟨g0, t0, cs0, f0, p0, q0, hg0, ht0, hv0, hd0, ⟨g1, t1, cs1, f1, p1, q1, hg1, ht1, hv1, hd1, _, _⟩, _⟩, _, _⟩ := h
  obtain rfl := Option.some.inj (gRoot.symm.trans hg0)
  obtain rfl := Option.some.inj (gRound.symm.trans hg1)
  obtain rfl := Option.some.inj (tRoot.symm.trans ht0)
  obtain rfl := Option.some.inj (tRound.symm.trans ht1)
  have e0 : Rows.laid_loop_example_g00233_impl_rootWords = Lib.tabData (H := Unit) .u32 (H0.map fun n : Nat => (n : Int)) := rfl
  have e1 : Rows.laid_loop_example_g00233_impl_roundWords = Lib.tabData (H := Unit) .u32 (KC.map fun n : Nat => (n : Int)) := rfl
  rw [e0] at hd0
  rw [e1] at hd1
  have c0 := Lib.cells_of_tab Tryd.underlying85 Tryd.underlying84 cEl cRoot hd0
  have c1 := Lib.cells_of_tab Tryd.underlying97 Tryd.underlying84 cEl cRound hd1
  refine ⟨?_, fun j hj => ?_⟩
  · obtain ⟨t, fr, hh⟩ := var_heap gRoot hv0
    have e : cs0 = a8 H0 := by
      apply Array.ext'
      rw [c0]
      rfl
    rw [e] at hh
    exact ⟨t, fr, hh⟩
  · rw [World.var?_cell gRound hv1 j]
    have e : cs1[j]? = cs1.toList[j]? := by simp
    rw [e, c1]
    have hl : j < KC.length := hj
    simp [List.getD, hl]

end Go.Proofs.YtfpaichdkddglaaDoor.Sha

/- A slice of bytes that came in, as the laws' proofs are told of it, reads as a list of bytes. -/
namespace Go.Proofs.YtfpaichdkddglaaDoor.RowSl
open Go.RowKit Go.Proofs.YtfpaichdkddglaaDoor.Mem

theorem row_sl {w : World} {a : Option Addr} {len cap : Nat} {zs : List Int}
    (h : (a = none ∧ len = 0 ∧ cap = 0 ∧ zs = []) ∨ ∃ x, a = some x ∧ len ≤ cap ∧ cap ≤ maxLen ∧ zs.length = cap ∧ (∀ i, i < zs.length → w.cell? (x.add i) = some (.int .u8 (zs.getD i 0))) ∧ ∀ n ∈ zs, (Lit.int .u8 n).wf = true) :
    ∃ xs : List Int, Sl w (.slice a len cap) (bs xs) ∧ len = xs.length ∧ Byt xs := by
  rcases h with ⟨rfl, rfl, rfl, rfl⟩ | ⟨x, rfl, hl, hm, hz, hc, hw⟩
  · exact ⟨[], Sl.nil w, rfl, fun x hx => by cases hx⟩
  · have hlen : (zs.take len).length = len := by simp; omega
    refine ⟨zs.take len, ⟨some x, cap, by rw [bs_len, hlen], by rw [bs_len, hlen]; exact hl, fun h => (by cases h), fun hp => ?_⟩, hlen.symm, fun y hy => ?_⟩
    · rw [bs_len, hlen] at hp
      obtain ⟨b, off, rfl, hcell⟩ := ints_at hc (by omega)
      refine ⟨b, off, rfl, fun j hj => ?_⟩
      rw [bs_len, hlen] at hj
      rw [hcell j (by omega), bs_get, List.getElem?_take, if_pos hj]
      simp [show j < zs.length by omega]
    · have := hw y (List.mem_of_mem_take hy)
      simpa [Lit.wf, IntKind.min, IntKind.max, IntKind.signed, IntKind.bits] using this

theorem strs_at {w : World} {a : Addr} {zs : List ByteArray} (h : ∀ i, i < zs.length → w.cell? (a.add i) = some (.string (zs.getD i ByteArray.empty))) (hp : 0 < zs.length) :
    ∃ b off, a = ⟨b, off, none⟩ ∧ ∀ j, j < zs.length → w.cell? ⟨b, off + j, none⟩ = some (.string (zs.getD j ByteArray.empty)) := by
  obtain ⟨b, off, spot⟩ := a
  have hspot : spot = none := by simpa [Addr.add] using World.cell?_spot (h 0 hp)
  subst hspot
  exact ⟨b, off, rfl, fun j hj => by rw [← Go.WideShapes.add_plain]; exact h j hj⟩

theorem row_str {w : World} {x : Addr} {len cap : Nat} {zs : List ByteArray} (hl : len ≤ cap) (hm : cap ≤ maxLen) (hz : zs.length = cap)
    (hc : ∀ i, i < zs.length → w.cell? (x.add i) = some (.string (zs.getD i ByteArray.empty))) (hw : ∀ s ∈ zs, s.size ≤ maxLen) :
    ∃ l : List ByteArray, Sl w (.slice (some x) len cap) (ss l) ∧ (∀ s ∈ l, s.size ≤ maxLen) ∧ l.length ≤ maxLen := by
  have hlen : (zs.take len).length = len := by simp; omega
  refine ⟨zs.take len, ⟨some x, cap, by rw [ss_len, hlen], by rw [ss_len, hlen]; exact hl, fun h => (by cases h), fun hp => ?_⟩, fun s hs => hw s (List.mem_of_mem_take hs), by rw [hlen]; exact Nat.le_trans hl hm⟩
  rw [ss_len, hlen] at hp
  obtain ⟨b, off, rfl, hcell⟩ := strs_at hc (by omega)
  refine ⟨b, off, rfl, fun j hj => ?_⟩
  rw [ss_len, hlen] at hj
  rw [hcell j (by omega), ss_get, List.getElem?_take, if_pos hj]
  simp [show j < zs.length by omega]

theorem i64_bd {n : Int} (h : (Lit.int .i64 n).wf = true) : -9223372036854775808 ≤ n ∧ n ≤ 9223372036854775807 := by
  simpa [Lit.wf, IntKind.min, IntKind.max, IntKind.signed, IntKind.bits] using h

end Go.Proofs.YtfpaichdkddglaaDoor.RowSl
