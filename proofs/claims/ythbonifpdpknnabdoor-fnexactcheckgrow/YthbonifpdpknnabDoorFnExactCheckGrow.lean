/- For every input the law 'FnExactCheckGrow' returns true and leaves its arguments as they were: proved of the card: the program's two tables of words stand when the call begins as the program's text lays them (tied by the given text; of other packages of the project than those loaded nothing is said); over the turned code of the commit beside it. -/
import Derived.Test.YthbonifpdpknnabDoorRows
import Derived.Test.YthbonifpdpknnabDoorCards
import Derived.Test.YthbonifpdpknnabDoorTie
import Derived.WalkKit
import Derived.LaidMore
import Derived.Stop.Joined
import Derived.OpenVars
import Derived.Test.YthbonifpdpknnabDoorBytes
import Derived.Test.YthbonifpdpknnabDoorTrX
import Derived.Test.YthbonifpdpknnabDoorTsG
import Derived.Test.YthbonifpdpknnabDoorShaG
import Derived.Test.YthbonifpdpknnabDoorRowSl
import Derived.ProofKit
import Derived.OpenShut
import Derived.ShutString
import Derived.ChangeOld
import Derived.Below
import Derived.SliceStrings
namespace Go.Proofs.YthbonifpdpknnabDoor.fnExactCheckGrow
open Go.ChangeShapes Go.WideShapes Go.ChangeAt Go.RowKit
open Go.ChangeMaps (open_string shut_string)
set_option linter.unusedVariables false

theorem own : ownKnob Tryd.prog.godebug = none := by kernel_rfl
theorem laidOut : laidOutB Tryd.prog = true := by kernel_rfl

set_option maxRecDepth 1000000 in
set_option maxHeartbeats 4000000 in
theorem walk (w : World) (hG : Sha.Glob w) (a0 : Int) (a1 : Int) (a2 : ByteArray) (a3 : ByteArray) (v4 : Value) (l4 : List ByteArray) (w0 : (Lit.int .i64 a0).wf = true) (w1 : (Lit.int .i64 a1).wf = true) (w2 : a2.size ≤ maxLen) (w3 : a3.size ≤ maxLen) (h4 : Mem.Sl w v4 (Mem.ss l4)) (y4 : ∀ s ∈ l4, s.size ≤ maxLen) (m4 : l4.length ≤ maxLen) :
    Calls Tryd.prog 8 #[.int .i64 a0, .int .i64 a1, .string a2, .string a3, v4] w fun e w' => e = .returned (.bool true) ∧ Below w.heap.size w w' := by
  exact Tr.exact_checkgrow w a0 a1 a2 a3 v4 l4 w2 w3 h4 y4 m4 (fun W v' hB hs h2 h3 hl hz => Tr.checkGrow_impl W v' a0 a1 a2 a3 l4 (hG.later hB) hs (by omega) (by omega) (fun s h => Nat.le_trans (hz s h) (by omega)))

theorem plainLaid : Rows.fnExactCheckGrowRow.laid = [("loop.example/g00233/impl.rootWords", Rows.laid_loop_example_g00233_impl_rootWords), ("loop.example/g00233/impl.roundWords", Rows.laid_loop_example_g00233_impl_roundWords)] := rfl
theorem glob {W : World} (h : laidMetH Tryd.prog Rows.fnExactCheckGrowRow.laid W) : Sha.Glob W := by
  rw [MakeChecks.laidMetH_plain _ _ _ (by kernel_rfl), plainLaid] at h
  exact Sha.glob_of h

theorem door_met (os : Os) (args : Array Value) : laidMetH Tryd.prog Rows.fnExactCheckGrowRow.laid ((World.doorLaid Tryd.prog 400 os).forCall (fun _ _ => 0) ⟨#[], args, []⟩).memory :=
  laidMetH_of_parts3 (fuel := 8) (laidMet_of_run' 8 (by kernel_rfl) (by kernel_rfl)) (by kernel_rfl) (by kernel_rfl)

set_option maxRecDepth 100000 in
theorem lifted (os : Os) (started : os.Started) (H : Type) (enc : TypeId × Value → H) :
    ReturnsInHanded {} Tryd.checked os 8 .any (fun w args => (Rows.fnExactCheckGrowSpec.pre enc Tryd.prog Tryd.f8 Rows.fnExactCheckGrowRow.domain false w args ∧ laidMetH Tryd.prog Rows.fnExactCheckGrowRow.laid w) ∧ sizedMet enc Tryd.prog Tryd.f8 (OpenSpec.ofChange Rows.fnExactCheckGrowSpec) false w args) (Rows.fnExactCheckGrowSpec.post enc Tryd.prog Tryd.f8 false true false false) := by
  refine returnsInHanded_of_change_and (C := Tryd.checked) (X := fun w _ => laidMetH Tryd.prog Rows.fnExactCheckGrowRow.laid w) (fun _ _ _ hh h => h.of_heap hh) own started (by kernel_rfl) Tryd.func8
    (ChangeSpec.witness_shaped (enc := enc) (C := Tryd.checked) (os := os) (X := fun w _ => laidMetH Tryd.prog Rows.fnExactCheckGrowRow.laid w) false (World.doorLaid Tryd.prog 400 os) #[.int .i64 0, .int .i64 0, .string ⟨#[]⟩, .string ⟨#[]⟩, .slice none 0 0] 8 rfl (World.shaped_of_RefB (by kernel_rfl) (by kernel_rfl)) (by kernel_rfl) (by kernel_rfl) (by kernel_rfl) (door_met os _)) ?_
  intro W base args ds gs before hval0 hW hcnd _ hL _
  have hval : ∀ (j : Nat) t v, Tryd.f8.params[j]? = some t → args[j]? = some v → Value.okWide Tryd.prog W .any base t v := hval0
  have hW' := hW
  obtain ⟨p, q, hA0, hV, rfl, hfz, hnd⟩ := hW
  have hA : DataW.TrodAll enc Tryd.prog W 0 (fun _ => true) true Tryd.f8.params.toList args.toList ds p := hA0
  rw [Tryd.params8] at hA hval
  obtain ⟨v0, vs0, d0, ds0, p0, q0, hargs, rfl, rfl, h0, r0⟩ := trodAll_cons hA
  obtain ⟨v1, vs1, d1, ds1, p1, q1, rfl, rfl, rfl, h1, r1⟩ := trodAll_cons r0
  obtain ⟨v2, vs2, d2, ds2, p2, q2, rfl, rfl, rfl, h2, r2⟩ := trodAll_cons r1
  obtain ⟨v3, vs3, d3, ds3, p3, q3, rfl, rfl, rfl, h3, r3⟩ := trodAll_cons r2
  obtain ⟨v4, vs4, d4, ds4, p4, q4, rfl, rfl, rfl, h4, r4⟩ := trodAll_cons r3
  obtain ⟨rfl, rfl, rfl⟩ := trodAll_nil r4
  obtain rfl : args = #[v0, v1, v2, v3, v4] := by cases args; simp_all
  have hV' := hV
  obtain ⟨gA, tA, csA, fA, dA, pA, gB, tB, csB, fB, dB, pB, rfl, _, _, _, _, _, _, _, _, rfl⟩ := trodVars_two hV
  obtain ⟨a0, rfl, rfl, rfl, w0⟩ := open_int Tryd.underlying3 (hval 0 3 v0 rfl rfl) h0
  obtain ⟨a1, rfl, rfl, rfl, w1⟩ := open_int Tryd.underlying3 (hval 1 3 v1 rfl rfl) h1
  obtain ⟨a2, rfl, rfl, rfl, w2⟩ := open_string Tryd.underlying9 (hval 2 9 v2 rfl rfl) h2
  obtain ⟨a3, rfl, rfl, rfl, w3⟩ := open_string Tryd.underlying9 (hval 3 9 v3 rfl rfl) h3
  obtain ⟨a4, len4, cap4, rfl⟩ := okWide_slice Tryd.underlying24 (hval 4 24 v4 rfl rfl)
  have k4 := h4
  have lt4 : ∀ x ∈ p4, x.block < W.heap.size := by obtain ⟨m, hm⟩ := k4; exact DataW.trod_lt m _ _ _ hm
  obtain ⟨l4, t4, y4, m4⟩ : ∃ l : List ByteArray, Mem.Sl W (.slice a4 len4 cap4) (Mem.ss l) ∧ (∀ s ∈ l, s.size ≤ maxLen) ∧ l.length ≤ maxLen := by
    obtain ⟨fuel, hf⟩ := h4
    rcases open_strings Tryd.underlying24 Tryd.underlying9 (by kernel_rfl) hf with ⟨hcs, _⟩ | ⟨x, l, c, zs, hcs, _, hl, hm, hz, _, hcell, hwz⟩
    · simp [Value.cells] at hcs
      obtain ⟨rfl, rfl, rfl⟩ := hcs
      exact ⟨[], Mem.Sl.nil W, fun s hs => (by cases hs), Nat.zero_le _⟩
    · simp [Value.cells] at hcs
      obtain ⟨rfl, rfl, rfl⟩ := hcs
      exact RowSl.row_str hl hm (by simpa using hz) hcell hwz
  clear hA0 hval0
  refine (walk W (glob hL) a0 a1 a2 a3 _ l4 w0 w1 w2 w3 t4 y4 m4).mono fun e W' ⟨he, bel⟩ => ?_
  subst he
  exact ⟨_, rfl, _, _, _, [], _, _, hW', trodAll_mk1 (shut_bool Tryd.underlying4 _), (trodAll_cons_mk (shut_int Tryd.underlying3 w0) (trodAll_cons_mk (shut_int Tryd.underlying3 w1) (trodAll_cons_mk (shut_string Tryd.underlying9 w2) (trodAll_cons_mk (shut_string Tryd.underlying9 w3) (trodAll_cons_mk (Below.trod laidOut (by kernel_rfl) (of_decide_eq_true (by kernel_rfl)) k4 bel lt4) trodAll_mk0))))), Below.trodVars laidOut bel (by kernel_rfl) hV', bel.frame _, fun h => by cases h⟩

theorem over : Rows.fnExactCheckGrowRow.holds Tryd.pinned (OpenSpec.ofChange Rows.fnExactCheckGrowSpec) :=
  OpenClaim.holds_of_wide 8 Tryd.f8 rfl rfl rfl rfl rfl rfl rfl ⟨rfl, rfl, rfl, rfl, rfl⟩ rfl rfl rfl rfl rfl (by kernel_rfl) Tryd.func8 (by kernel_rfl)
    (of_decide_eq_true (by kernel_rfl)) (by unfold Func.isWrapper; first | (rw [if_pos (by decide +kernel)]; kernel_rfl) | (rw [if_neg (by decide +kernel)]; exact ⟨rfl, rfl⟩))
    (fun os started H enc _ => lifted os started H enc)

theorem plain (f : FuncId) (fn : Func) (hf : Tryd.pinned.checked.prog.funcNamed "loop.example/g00233/laws.FnExactCheckGrow" = some f) (hfn : Tryd.pinned.checked.prog.funcs[f]? = some fn) :
    false = Tryd.pinned.checked.prog.looks [] ∧ ∀ (j : Nat) t, fn.params[j]? = some t → Tryd.pinned.checked.prog.wantsStandIn t = false := by
  obtain rfl : f = 8 := Option.some.inj ((show Tryd.prog.funcNamed "loop.example/g00233/laws.FnExactCheckGrow" = some 8 by kernel_rfl).symm.trans hf) |>.symm
  obtain rfl : fn = Tryd.f8 := (Option.some.inj (Tryd.func8.symm.trans hfn)).symm
  refine ⟨by kernel_rfl, fun j t ht => ?_⟩
  rw [Tryd.params8] at ht
  have hm : t ∈ [3, 3, 9, 9, 24] := by simpa using Array.mem_of_getElem? ht
  have hall : ([3, 3, 9, 9, 24].all fun u => !Tryd.prog.wantsStandIn u) = true := by kernel_rfl
  exact (show Tryd.prog.wantsStandIn t = false by simpa using List.all_eq_true.1 hall t hm)

end Go.Proofs.YthbonifpdpknnabDoor.fnExactCheckGrow
namespace Go.Proofs.YthbonifpdpknnabDoor
theorem fnExactCheckGrow_holds : Rows.FnExactCheckGrowCardSaid :=
  Claim7.holds_tied_plain_at .later [] _ _ _ _ fnExactCheckGrow.over (fun _ h => by cases h) (by kernel_rfl) (fun _ h => by cases h) fnExactCheckGrow_row_tie rfl ⟨rfl, rfl⟩ (by kernel_rfl) rfl fnExactCheckGrow.plain (by kernel_rfl)
end Go.Proofs.YthbonifpdpknnabDoor
