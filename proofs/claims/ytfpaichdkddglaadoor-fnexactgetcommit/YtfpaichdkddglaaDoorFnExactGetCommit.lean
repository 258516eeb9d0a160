/- For every input the law 'FnExactGetCommit' returns true and leaves its arguments as they were: proved of the card: the program's two tables of words, and its errors made by errors.New that the row lists, stand when the call begins as the program's text lays them (tied by the given text; of other packages of the project than those loaded nothing is said); over the turned code of the commit beside it. -/
import Derived.Test.YtfpaichdkddglaaDoorRows
import Derived.Test.YtfpaichdkddglaaDoorCards
import Derived.Test.YtfpaichdkddglaaDoorTie
import Derived.WalkKit
import Derived.LaidMore
import Derived.Stop.Joined
import Derived.OpenVars
import Derived.Test.YtfpaichdkddglaaDoorPk3
import Derived.Test.YtfpaichdkddglaaDoorPk17
import Derived.Test.YtfpaichdkddglaaDoorPk26
import Derived.Test.YtfpaichdkddglaaDoorPk28
import Derived.Test.YtfpaichdkddglaaDoorPk29
import Derived.ProofKit
import Derived.OpenShut
import Derived.ShutString
import Derived.ChangeOld
import Derived.Below
import Derived.SliceStrings
namespace Go.Proofs.YtfpaichdkddglaaDoor.fnExactGetCommit
open Go.ChangeShapes Go.WideShapes Go.ChangeAt Go.RowKit
open Go.ChangeMaps (open_string shut_string)
set_option linter.unusedVariables false

/-- where the program's errors lie -/
def Sents (w : World) : Prop := ∃ ea0 : Addr, Is.At w 1 ea0
theorem gna0 : Tryd.prog.globalNamed "loop.example/g00233/impl.errNoCommit" = some 1 := by kernel_rfl
theorem gta0 : (Tryd.prog.globals[1]?).map (·.type) = some 90 := by kernel_rfl
theorem own : ownKnob Tryd.prog.godebug = none := by kernel_rfl
theorem laidOut : laidOutB Tryd.prog = true := by kernel_rfl

set_option maxRecDepth 1000000 in
set_option maxHeartbeats 4000000 in
theorem walk (w : World) (hG : Sha.Glob w) (hE : Sents w) (v0 : Value) (xs0 : List Int) (a1 : Int) (h0 : Mem.Sl w v0 (Mem.bs xs0)) (y0 : Mem.Byt xs0) (m0 : xs0.length ≤ maxLen) (w1 : (Lit.int .i64 a1).wf = true) :
    Calls Tryd.prog 5 #[v0, .int .i64 a1] w fun e w' => e = .returned (.bool true) ∧ Below w.heap.size w w' := by
  have hE : Sr.NoC w := hE
  have hat := RowSl.i64_bd w1
  exact Sr.exact_getcommit w v0 xs0 h0 y0 m0 a1 hat.1 hat.2 (fun W u hB hs hl => Sr.getc_land W u xs0 a1 (hG.later hB) (Sr.NoC.later hE hB) hs y0 (by omega) hat.1 hat.2)

theorem glob {W : World} (h : laidMetH Tryd.prog Rows.fnExactGetCommitRow.laid W) : Sha.Glob W := by
  rw [MakeChecks.laidMetH_plain _ _ _ (by kernel_rfl)] at h
  have h2 := laidMet.filter (fun p => p.1 == "loop.example/g00233/impl.rootWords" || p.1 == "loop.example/g00233/impl.roundWords") h
  have e : (Rows.fnExactGetCommitRow.laid).filter (fun p => p.1 == "loop.example/g00233/impl.rootWords" || p.1 == "loop.example/g00233/impl.roundWords") = [("loop.example/g00233/impl.rootWords", Rows.laid_loop_example_g00233_impl_rootWords), ("loop.example/g00233/impl.roundWords", Rows.laid_loop_example_g00233_impl_roundWords)] := by kernel_rfl
  rw [e] at h2
  exact Sha.glob_of h2
theorem sents {W : World} (h : laidMetH Tryd.prog Rows.fnExactGetCommitRow.laid W) : Sents W := by
  rw [MakeChecks.laidMetH_plain _ _ _ (by kernel_rfl)] at h
  obtain ⟨p0, hp0⟩ := Is.one (x0 := [116, 104, 101, 115, 101, 32, 98, 121, 116, 101, 115, 32, 97, 114, 101, 32, 110, 111, 32, 99, 111, 109, 109, 105, 116]) (by have h2 := laidMet.filter (fun p => p.1 == "loop.example/g00233/impl.errNoCommit") h; exact h2) gna0 gta0
  exact ⟨p0, hp0⟩

theorem door_met (os : Os) (args : Array Value) : laidMetH Tryd.prog Rows.fnExactGetCommitRow.laid ((World.doorLaid Tryd.prog 400 os).forCall (fun _ _ => 0) ⟨#[], args, []⟩).memory :=
  laidMetH_of_parts3 (fuel := 8) (laidMet_of_run' 8 (by kernel_rfl) (by kernel_rfl)) (by kernel_rfl) (by kernel_rfl)

set_option maxRecDepth 100000 in
theorem lifted (os : Os) (started : os.Started) (H : Type) (enc : TypeId × Value → H) :
    ReturnsInHanded {} Tryd.checked os 5 .any (fun w args => (Rows.fnExactGetCommitSpec.pre enc Tryd.prog Tryd.f5 Rows.fnExactGetCommitRow.domain false w args ∧ laidMetH Tryd.prog Rows.fnExactGetCommitRow.laid w) ∧ sizedMet enc Tryd.prog Tryd.f5 (OpenSpec.ofChange Rows.fnExactGetCommitSpec) false w args) (Rows.fnExactGetCommitSpec.post enc Tryd.prog Tryd.f5 false true false false) := by
  refine returnsInHanded_of_change_and (C := Tryd.checked) (X := fun w _ => laidMetH Tryd.prog Rows.fnExactGetCommitRow.laid w) (fun _ _ _ hh h => h.of_heap hh) own started (by kernel_rfl) Tryd.func5
    (ChangeSpec.witness_shaped (enc := enc) (C := Tryd.checked) (os := os) (X := fun w _ => laidMetH Tryd.prog Rows.fnExactGetCommitRow.laid w) false (World.doorLaid Tryd.prog 400 os) #[.slice none 0 0, .int .i64 0] 8 rfl (World.shaped_of_RefB (by kernel_rfl) (by kernel_rfl)) (by kernel_rfl) (by kernel_rfl) (by kernel_rfl) (door_met os _)) ?_
  intro W base args ds gs before hval0 hW hcnd _ hL _
  have hval : ∀ (j : Nat) t v, Tryd.f5.params[j]? = some t → args[j]? = some v → Value.okWide Tryd.prog W .any base t v := hval0
  have hW' := hW
  obtain ⟨p, q, hA0, hV, rfl, hfz, hnd⟩ := hW
  have hA : DataW.TrodAll enc Tryd.prog W 0 (fun _ => true) true Tryd.f5.params.toList args.toList ds p := hA0
  rw [Tryd.params5] at hA hval
  obtain ⟨v0, vs0, d0, ds0, p0, q0, hargs, rfl, rfl, h0, r0⟩ := trodAll_cons hA
  obtain ⟨v1, vs1, d1, ds1, p1, q1, rfl, rfl, rfl, h1, r1⟩ := trodAll_cons r0
  obtain ⟨rfl, rfl, rfl⟩ := trodAll_nil r1
  obtain rfl : args = #[v0, v1] := by cases args; simp_all
  have hV' := hV
  have hgl := Is.vars_len _ _ _ hV
  obtain ⟨gq0, gq1, gq2, rfl⟩ : ∃ gq0 gq1 gq2, gs = [gq0, gq1, gq2] := by
    match gs, hgl with
    | [gq0, gq1, gq2], _ => exact ⟨_, _, _, rfl⟩
  obtain ⟨a0, len0, cap0, rfl⟩ := okWide_slice Tryd.underlying22 (hval 0 22 v0 rfl rfl)
  have k0 := h0
  have lt0 : ∀ x ∈ p0, x.block < W.heap.size := by obtain ⟨m, hm⟩ := k0; exact DataW.trod_lt m _ _ _ hm
  obtain ⟨xs0, t0, y0, m0⟩ : ∃ xs, Mem.Sl W (.slice a0 len0 cap0) (Mem.bs xs) ∧ Mem.Byt xs ∧ xs.length ≤ maxLen := by
    obtain ⟨fuel, hf⟩ := h0
    rcases open_ints Tryd.underlying22 Tryd.underlying5 (by kernel_rfl) hf with ⟨hcs, _⟩ | ⟨x, l, c, zs, hcs, _, hl, hm, hz, _, hcell, hwz⟩
    · simp [Value.cells] at hcs
      obtain ⟨rfl, rfl, rfl⟩ := hcs
      obtain ⟨xs, hs, _, hy⟩ := RowSl.row_sl (w := W) (a := none) (len := 0) (cap := 0) (zs := []) (.inl ⟨rfl, rfl, rfl, rfl⟩)
      exact ⟨xs, hs, hy, by have h0 : xs.length = 0 := (by omega); rw [h0]; exact Nat.zero_le _⟩
    · simp [Value.cells] at hcs
      obtain ⟨rfl, rfl, rfl⟩ := hcs
      obtain ⟨xs, hs, he, hy⟩ := RowSl.row_sl (w := W) (.inr ⟨_, rfl, hl, hm, by simpa using hz, hcell, hwz⟩)
      exact ⟨xs, hs, hy, by rw [← he]; exact Nat.le_trans hl hm⟩
  obtain ⟨a1, rfl, rfl, rfl, w1⟩ := open_int Tryd.underlying3 (hval 1 3 v1 rfl rfl) h1
  clear hA0 hval0
  refine (walk W (glob hL) (sents hL) _ xs0 a1 t0 y0 m0 w1).mono fun e W' ⟨he, bel⟩ => ?_
  subst he
  exact ⟨_, rfl, _, _, _, [], _, _, hW', trodAll_mk1 (shut_bool Tryd.underlying4 _), (trodAll_cons_mk (Below.trod laidOut (by kernel_rfl) (of_decide_eq_true (by kernel_rfl)) k0 bel lt0) (trodAll_cons_mk (shut_int Tryd.underlying3 w1) trodAll_mk0)), Below.trodVars laidOut bel (by kernel_rfl) hV', bel.frame _, fun h => by cases h⟩

theorem over : Rows.fnExactGetCommitRow.holds Tryd.pinned (OpenSpec.ofChange Rows.fnExactGetCommitSpec) :=
  OpenClaim.holds_of_wide 5 Tryd.f5 rfl rfl rfl rfl rfl rfl rfl ⟨rfl, rfl, rfl, rfl, rfl⟩ rfl rfl rfl rfl rfl (by kernel_rfl) Tryd.func5 (by kernel_rfl)
    (of_decide_eq_true (by kernel_rfl)) (by unfold Func.isWrapper; first | (rw [if_pos (by decide +kernel)]; kernel_rfl) | (rw [if_neg (by decide +kernel)]; exact ⟨rfl, rfl⟩))
    (fun os started H enc _ => lifted os started H enc)

theorem plain (f : FuncId) (fn : Func) (hf : Tryd.pinned.checked.prog.funcNamed "loop.example/g00233/laws.FnExactGetCommit" = some f) (hfn : Tryd.pinned.checked.prog.funcs[f]? = some fn) :
    false = Tryd.pinned.checked.prog.looks [] ∧ ∀ (j : Nat) t, fn.params[j]? = some t → Tryd.pinned.checked.prog.wantsStandIn t = false := by
  obtain rfl : f = 5 := Option.some.inj ((show Tryd.prog.funcNamed "loop.example/g00233/laws.FnExactGetCommit" = some 5 by kernel_rfl).symm.trans hf) |>.symm
  obtain rfl : fn = Tryd.f5 := (Option.some.inj (Tryd.func5.symm.trans hfn)).symm
  refine ⟨by kernel_rfl, fun j t ht => ?_⟩
  rw [Tryd.params5] at ht
  have hm : t ∈ [22, 3] := by simpa using Array.mem_of_getElem? ht
  have hall : ([22, 3].all fun u => !Tryd.prog.wantsStandIn u) = true := by kernel_rfl
  exact (show Tryd.prog.wantsStandIn t = false by simpa using List.all_eq_true.1 hall t hm)

end Go.Proofs.YtfpaichdkddglaaDoor.fnExactGetCommit
namespace Go.Proofs.YtfpaichdkddglaaDoor
theorem fnExactGetCommit_holds : Rows.FnExactGetCommitCardSaid :=
  Claim7.holds_tied_plain_at .later [] _ _ _ _ fnExactGetCommit.over (fun _ h => by cases h) (by kernel_rfl) (fun _ h => by cases h) fnExactGetCommit_row_tie rfl ⟨rfl, rfl⟩ (by kernel_rfl) rfl fnExactGetCommit.plain (by kernel_rfl)
end Go.Proofs.YtfpaichdkddglaaDoor
