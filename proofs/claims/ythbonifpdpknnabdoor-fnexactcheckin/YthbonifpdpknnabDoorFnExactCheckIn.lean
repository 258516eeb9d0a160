/- For every input the law 'FnExactCheckIn' returns true and leaves its arguments as they were: proved of the card: the program's two tables of words stand when the call begins as the program's text lays them (tied by the given text; of other packages of the project than those loaded nothing is said); over the turned code of the commit beside it. -/
import Derived.Test.YthbonifpdpknnabDoorRows
import Derived.Test.YthbonifpdpknnabDoorCards
import Derived.Test.YthbonifpdpknnabDoorTie
import Derived.WalkKit
import Derived.LaidMore
import Derived.Stop.Joined
import Derived.OpenVars
import Derived.Test.YthbonifpdpknnabDoorBytes
import Derived.Test.YthbonifpdpknnabDoorTrX
import Derived.Test.YthbonifpdpknnabDoorTsE
import Derived.Test.YthbonifpdpknnabDoorShaG
import Derived.Test.YthbonifpdpknnabDoorRowSl
import Derived.ProofKit
import Derived.OpenShut
import Derived.ShutString
import Derived.ChangeOld
import Derived.Below
import Derived.SliceStrings
namespace Go.Proofs.YthbonifpdpknnabDoor.fnExactCheckIn
open Go.ChangeShapes Go.WideShapes Go.ChangeAt Go.RowKit
open Go.ChangeMaps (open_string shut_string)
set_option linter.unusedVariables false

theorem own : ownKnob Tryd.prog.godebug = none := by kernel_rfl
theorem laidOut : laidOutB Tryd.prog = true := by kernel_rfl

set_option maxRecDepth 1000000 in
set_option maxHeartbeats 4000000 in
theorem walk (w : World) (hG : Sha.Glob w) (a0 : ByteArray) (a1 : Int) (a2 : Int) (v3 : Value) (l3 : List ByteArray) (a4 : ByteArray) (w0 : a0.size ≤ maxLen) (w1 : (Lit.int .i64 a1).wf = true) (w2 : (Lit.int .i64 a2).wf = true) (h3 : Mem.Sl w v3 (Mem.ss l3)) (y3 : ∀ s ∈ l3, s.size ≤ maxLen) (m3 : l3.length ≤ maxLen) (w4 : a4.size ≤ maxLen) :
    Calls Tryd.prog 6 #[.string a0, .int .i64 a1, .int .i64 a2, v3, .string a4] w fun e w' => e = .returned (.bool true) ∧ Below w.heap.size w w' := by
  exact Tr.exact_checkin w a0 a1 a2 v3 l3 a4 w0 h3 y3 m3 w4 (fun W v' hB hs h0 h4 hl hz => Tr.checkIn_impl W v' a0 a1 a2 l3 a4 (hG.later hB) hs (by omega) (by omega) (fun s h => Nat.le_trans (hz s h) (by omega)))

theorem plainLaid : Rows.fnExactCheckInRow.laid = [("loop.example/g00233/impl.rootWords", Rows.laid_loop_example_g00233_impl_rootWords), ("loop.example/g00233/impl.roundWords", Rows.laid_loop_example_g00233_impl_roundWords)] := rfl
theorem glob {W : World} (h : laidMetH Tryd.prog Rows.fnExactCheckInRow.laid W) : Sha.Glob W := by
  rw [MakeChecks.laidMetH_plain _ _ _ (by kernel_rfl), plainLaid] at h
  exact Sha.glob_of h

theorem door_met (os : Os) (args : Array Value) : laidMetH Tryd.prog Rows.fnExactCheckInRow.laid ((World.doorLaid Tryd.prog 400 os).forCall (fun _ _ => 0) ⟨#[], args, []⟩).memory :=
  laidMetH_of_parts3 (fuel := 8) (laidMet_of_run' 8 (by kernel_rfl) (by kernel_rfl)) (by kernel_rfl) (by kernel_rfl)

set_option maxRecDepth 100000 in
theorem lifted (os : Os) (started : os.Started) (H : Type) (enc : TypeId × Value → H) :
    ReturnsInHanded {} Tryd.checked os 6 .any (fun w args => (Rows.fnExactCheckInSpec.pre enc Tryd.prog Tryd.f6 Rows.fnExactCheckInRow.domain false w args ∧ laidMetH Tryd.prog Rows.fnExactCheckInRow.laid w) ∧ sizedMet enc Tryd.prog Tryd.f6 (OpenSpec.ofChange Rows.fnExactCheckInSpec) false w args) (Rows.fnExactCheckInSpec.post enc Tryd.prog Tryd.f6 false true false false) := by
  refine returnsInHanded_of_change_and (C := Tryd.checked) (X := fun w _ => laidMetH Tryd.prog Rows.fnExactCheckInRow.laid w) (fun _ _ _ hh h => h.of_heap hh) own started (by kernel_rfl) Tryd.func6
    (ChangeSpec.witness_shaped (enc := enc) (C := Tryd.checked) (os := os) (X := fun w _ => laidMetH Tryd.prog Rows.fnExactCheckInRow.laid w) false (World.doorLaid Tryd.prog 400 os) #[.string ⟨#[]⟩, .int .i64 0, .int .i64 0, .slice none 0 0, .string ⟨#[]⟩] 8 rfl (World.shaped_of_RefB (by kernel_rfl) (by kernel_rfl)) (by kernel_rfl) (by kernel_rfl) (by kernel_rfl) (door_met os _)) ?_
  intro W base args ds gs before hval0 hW hcnd _ hL _
  have hval : ∀ (j : Nat) t v, Tryd.f6.params[j]? = some t → args[j]? = some v → Value.okWide Tryd.prog W .any base t v := hval0
  have hW' := hW
  obtain ⟨p, q, hA0, hV, rfl, hfz, hnd⟩ := hW
  have hA : DataW.TrodAll enc Tryd.prog W 0 (fun _ => true) true Tryd.f6.params.toList args.toList ds p := hA0
  rw [Tryd.params6] at hA hval
  obtain ⟨v0, vs0, d0, ds0, p0, q0, hargs, rfl, rfl, h0, r0⟩ := trodAll_cons hA
  obtain ⟨v1, vs1, d1, ds1, p1, q1, rfl, rfl, rfl, h1, r1⟩ := trodAll_cons r0
  obtain ⟨v2, vs2, d2, ds2, p2, q2, rfl, rfl, rfl, h2, r2⟩ := trodAll_cons r1
  obtain ⟨v3, vs3, d3, ds3, p3, q3, rfl, rfl, rfl, h3, r3⟩ := trodAll_cons r2
  obtain ⟨v4, vs4, d4, ds4, p4, q4, rfl, rfl, rfl, h4, r4⟩ := trodAll_cons r3
  obtain ⟨rfl, rfl, rfl⟩ := trodAll_nil r4
  obtain rfl : args = #[v0, v1, v2, v3, v4] := by cases args; simp_all
  have hV' := hV
  obtain ⟨gA, tA, csA, fA, dA, pA, gB, tB, csB, fB, dB, pB, rfl, _, _, _, _, _, _, _, _, rfl⟩ := trodVars_two hV
  obtain ⟨a0, rfl, rfl, rfl, w0⟩ := open_string Tryd.underlying9 (hval 0 9 v0 rfl rfl) h0
  obtain ⟨a1, rfl, rfl, rfl, w1⟩ := open_int Tryd.underlying3 (hval 1 3 v1 rfl rfl) h1
  obtain ⟨a2, rfl, rfl, rfl, w2⟩ := open_int Tryd.underlying3 (hval 2 3 v2 rfl rfl) h2
  obtain ⟨a3, len3, cap3, rfl⟩ := okWide_slice Tryd.underlying24 (hval 3 24 v3 rfl rfl)
  have k3 := h3
  have lt3 : ∀ x ∈ p3, x.block < W.heap.size := by obtain ⟨m, hm⟩ := k3; exact DataW.trod_lt m _ _ _ hm
  obtain ⟨l3, t3, y3, m3⟩ : ∃ l : List ByteArray, Mem.Sl W (.slice a3 len3 cap3) (Mem.ss l) ∧ (∀ s ∈ l, s.size ≤ maxLen) ∧ l.length ≤ maxLen := by
    obtain ⟨fuel, hf⟩ := h3
    rcases open_strings Tryd.underlying24 Tryd.underlying9 (by kernel_rfl) hf with ⟨hcs, _⟩ | ⟨x, l, c, zs, hcs, _, hl, hm, hz, _, hcell, hwz⟩
    · simp [Value.cells] at hcs
      obtain ⟨rfl, rfl, rfl⟩ := hcs
      exact ⟨[], Mem.Sl.nil W, fun s hs => (by cases hs), Nat.zero_le _⟩
    · simp [Value.cells] at hcs
      obtain ⟨rfl, rfl, rfl⟩ := hcs
      exact RowSl.row_str hl hm (by simpa using hz) hcell hwz
  obtain ⟨a4, rfl, rfl, rfl, w4⟩ := open_string Tryd.underlying9 (hval 4 9 v4 rfl rfl) h4
  clear hA0 hval0
  refine (walk W (glob hL) a0 a1 a2 _ l3 a4 w0 w1 w2 t3 y3 m3 w4).mono fun e W' ⟨he, bel⟩ => ?_
  subst he
  exact ⟨_, rfl, _, _, _, [], _, _, hW', trodAll_mk1 (shut_bool Tryd.underlying4 _), (trodAll_cons_mk (shut_string Tryd.underlying9 w0) (trodAll_cons_mk (shut_int Tryd.underlying3 w1) (trodAll_cons_mk (shut_int Tryd.underlying3 w2) (trodAll_cons_mk (Below.trod laidOut (by kernel_rfl) (of_decide_eq_true (by kernel_rfl)) k3 bel lt3) (trodAll_cons_mk (shut_string Tryd.underlying9 w4) trodAll_mk0))))), Below.trodVars laidOut bel (by kernel_rfl) hV', bel.frame _, fun h => by cases h⟩

theorem over : Rows.fnExactCheckInRow.holds Tryd.pinned (OpenSpec.ofChange Rows.fnExactCheckInSpec) :=
  OpenClaim.holds_of_wide 6 Tryd.f6 rfl rfl rfl rfl rfl rfl rfl ⟨rfl, rfl, rfl, rfl, rfl⟩ rfl rfl rfl rfl rfl (by kernel_rfl) Tryd.func6 (by kernel_rfl)
    (of_decide_eq_true (by kernel_rfl)) (by unfold Func.isWrapper; first | (rw [if_pos (by decide +kernel)]; kernel_rfl) | (rw [if_neg (by decide +kernel)]; exact ⟨rfl, rfl⟩))
    (fun os started H enc _ => lifted os started H enc)

theorem plain (f : FuncId) (fn : Func) (hf : Tryd.pinned.checked.prog.funcNamed "loop.example/g00233/laws.FnExactCheckIn" = some f) (hfn : Tryd.pinned.checked.prog.funcs[f]? = some fn) :
    false = Tryd.pinned.checked.prog.looks [] ∧ ∀ (j : Nat) t, fn.params[j]? = some t → Tryd.pinned.checked.prog.wantsStandIn t = false := by
  obtain rfl : f = 6 := Option.some.inj ((show Tryd.prog.funcNamed "loop.example/g00233/laws.FnExactCheckIn" = some 6 by kernel_rfl).symm.trans hf) |>.symm
  obtain rfl : fn = Tryd.f6 := (Option.some.inj (Tryd.func6.symm.trans hfn)).symm
  refine ⟨by kernel_rfl, fun j t ht => ?_⟩
  rw [Tryd.params6] at ht
  have hm : t ∈ [9, 3, 3, 24, 9] := by simpa using Array.mem_of_getElem? ht
  have hall : ([9, 3, 3, 24, 9].all fun u => !Tryd.prog.wantsStandIn u) = true := by kernel_rfl
  exact (show Tryd.prog.wantsStandIn t = false by simpa using List.all_eq_true.1 hall t hm)

end Go.Proofs.YthbonifpdpknnabDoor.fnExactCheckIn
namespace Go.Proofs.YthbonifpdpknnabDoor
theorem fnExactCheckIn_holds : Rows.FnExactCheckInCardSaid :=
  Claim7.holds_tied_plain_at .later [] _ _ _ _ fnExactCheckIn.over (fun _ h => by cases h) (by kernel_rfl) (fun _ h => by cases h) fnExactCheckIn_row_tie rfl ⟨rfl, rfl⟩ (by kernel_rfl) rfl fnExactCheckIn.plain (by kernel_rfl)
end Go.Proofs.YthbonifpdpknnabDoor
