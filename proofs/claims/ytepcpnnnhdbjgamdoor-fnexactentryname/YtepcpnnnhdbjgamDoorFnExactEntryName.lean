/- For every input the law 'FnExactEntryName' returns true and leaves its arguments as they were: proved of the card: three tables of the library stand when the call begins as the program's text lays them (tied by the given text), and no other condition. -/
import Derived.Test.YtepcpnnnhdbjgamDoorRows
import Derived.Test.YtepcpnnnhdbjgamDoorCards
import Derived.Test.YtepcpnnnhdbjgamDoorTie
import Derived.WalkKit
import Derived.LaidMore
import Derived.Stop.Joined
import Derived.OpenVars
import Derived.Test.YtepcpnnnhdbjgamDoorPk2
import Derived.Test.YtepcpnnnhdbjgamDoorPk13
import Derived.Test.YtepcpnnnhdbjgamDoorPk24
import Derived.Test.YtepcpnnnhdbjgamDoorPk18
import Derived.Test.YtepcpnnnhdbjgamDoorPk19
import Derived.ProofKit
import Derived.OpenShut
import Derived.ShutString
import Derived.ChangeOld
import Derived.Below
import Derived.SliceStrings
import Derived.Lib.SmallJoins
namespace Go.Proofs.YtepcpnnnhdbjgamDoor.fnExactEntryName
open Go.ChangeShapes Go.WideShapes Go.ChangeAt Go.RowKit
open Go.ChangeMaps (open_string shut_string)
set_option linter.unusedVariables false

theorem own : ownKnob Tryd.prog.godebug = none := by kernel_rfl
theorem laidOut : laidOutB Tryd.prog = true := by kernel_rfl

set_option maxRecDepth 1000000 in
set_option maxHeartbeats 4000000 in
theorem walk (w : World) (hG : Ver.Glob w) (a0 : ByteArray) (a1 b1 c1 : Int) (p1 : ByteArray) (w0 : a0.size ≤ maxLen) (wa1 : (Lit.int .i64 a1).wf = true) (wb1 : (Lit.int .i64 b1).wf = true) (wc1 : (Lit.int .i64 c1).wf = true) (wp1 : p1.size ≤ maxLen) :
    Calls Tryd.prog 4 #[.string a0, .agg #[.int .i64 a1, .int .i64 b1, .int .i64 c1, .string p1]] w fun e w' => e = .returned (.bool true) ∧ Below w.heap.size w w' := by
  exact Ent.exact_name w a0 a1 b1 c1 p1 w0 wp1 (fun W hB h1 h2 => Ent.name_impl W (Ver.Glob.later hG hB) ⟨a0, a1, b1, c1, p1⟩ (by show a0.size ≤ _; omega) (by show p1.size ≤ _; omega))

theorem plainLaid : Rows.fnExactEntryNameRow.laid = [("math/bits.deBruijn32tab", Rows.laid_math_bits_deBruijn32tab), ("math/bits.deBruijn64tab", Rows.laid_math_bits_deBruijn64tab), ("internal/strconv.uint64pow10", Rows.laid_internal_strconv_uint64pow10)] := rfl
theorem glob {W : World} (h : laidMetH Tryd.prog Rows.fnExactEntryNameRow.laid W) : Ver.Glob W := by
  rw [MakeChecks.laidMetH_plain _ _ _ (by kernel_rfl), plainLaid] at h
  exact Ver.glob_of h

theorem door_met (os : Os) (args : Array Value) : laidMetH Tryd.prog Rows.fnExactEntryNameRow.laid ((World.doorLaid Tryd.prog 400 os).forCall (fun _ _ => 0) ⟨#[], args, []⟩).memory :=
  laidMetH_of_parts3 (fuel := 8) (laidMet_of_run' 8 (by kernel_rfl) (by kernel_rfl)) (by kernel_rfl) (by kernel_rfl)

set_option maxRecDepth 100000 in
theorem lifted (os : Os) (started : os.Started) (H : Type) (enc : TypeId × Value → H) :
    ReturnsInHanded {} Tryd.checked os 4 .any (fun w args => (Rows.fnExactEntryNameSpec.pre enc Tryd.prog Tryd.f4 Rows.fnExactEntryNameRow.domain false w args ∧ laidMetH Tryd.prog Rows.fnExactEntryNameRow.laid w) ∧ sizedMet enc Tryd.prog Tryd.f4 (OpenSpec.ofChange Rows.fnExactEntryNameSpec) false w args) (Rows.fnExactEntryNameSpec.post enc Tryd.prog Tryd.f4 false true false false) := by
  refine returnsInHanded_of_change_and (C := Tryd.checked) (X := fun w _ => laidMetH Tryd.prog Rows.fnExactEntryNameRow.laid w) (fun _ _ _ hh h => h.of_heap hh) own started (by kernel_rfl) Tryd.func4
    (ChangeSpec.witness_shaped (enc := enc) (C := Tryd.checked) (os := os) (X := fun w _ => laidMetH Tryd.prog Rows.fnExactEntryNameRow.laid w) false (World.doorLaid Tryd.prog 400 os) #[.string ⟨#[]⟩, .agg #[.int .i64 0, .int .i64 0, .int .i64 0, .string ⟨#[]⟩]] 8 rfl (World.shaped_of_RefB (by kernel_rfl) (by kernel_rfl)) (by kernel_rfl) (by kernel_rfl) (by kernel_rfl) (door_met os _)) ?_
  intro W base args ds gs before hval0 hW hcnd _ hL _
  have hval : ∀ (j : Nat) t v, Tryd.f4.params[j]? = some t → args[j]? = some v → Value.okWide Tryd.prog W .any base t v := hval0
  have hW' := hW
  obtain ⟨p, q, hA0, hV, rfl, hfz, hnd⟩ := hW
  have hA : DataW.TrodAll enc Tryd.prog W 0 (fun _ => true) true Tryd.f4.params.toList args.toList ds p := hA0
  rw [Tryd.params4] at hA hval
  obtain ⟨v0, vs0, d0, ds0, p0, q0, hargs, rfl, rfl, h0, r0⟩ := trodAll_cons hA
  obtain ⟨v1, vs1, d1, ds1, p1, q1, rfl, rfl, rfl, h1, r1⟩ := trodAll_cons r0
  obtain ⟨rfl, rfl, rfl⟩ := trodAll_nil r1
  obtain rfl : args = #[v0, v1] := by cases args; simp_all
  obtain ⟨rfl, rfl⟩ := trodVars_none hV
  obtain ⟨a0, rfl, rfl, rfl, w0⟩ := open_string Tryd.underlying9 (hval 0 9 v0 rfl rfl) h0
  have k1 := h1
  have lt1 : ∀ x ∈ p1, x.block < W.heap.size := by obtain ⟨m, hm⟩ := k1; exact DataW.trod_lt m _ _ _ hm
  obtain ⟨s01, s11, s21, s31, y01, y11, y21, y31, n1, rfl, rfl, rfl, z01, z11, z21, z31⟩ := Joins.open_agg4 Tryd.underlying23 (by kernel_rfl) (by kernel_rfl) (hval 1 23 v1 rfl rfl) h1
  obtain ⟨a1, e01, rfl, wa1⟩ := DataW.trod_int Tryd.underlying3 z01
  obtain ⟨b1, e11, rfl, wb1⟩ := DataW.trod_int Tryd.underlying3 z11
  obtain ⟨c1, e21, rfl, wc1⟩ := DataW.trod_int Tryd.underlying3 z21
  obtain ⟨q1s, e31, rfl, wp1⟩ := DataW.trod_string Tryd.underlying9 z31
  simp only [List.cons.injEq, and_true] at e01 e11 e21 e31
  subst e01 e11 e21 e31
  clear z01 z11 z21 z31
  clear hA0 hval0
  refine (walk W (glob hL) a0 a1 b1 c1 q1s w0 wa1 wb1 wc1 wp1).mono fun e W' ⟨he, bel⟩ => ?_
  subst he
  exact ⟨_, rfl, _, _, _, [], _, [], hW', trodAll_mk1 (shut_bool Tryd.underlying4 _), (trodAll_cons_mk (shut_string Tryd.underlying9 w0) (trodAll_cons_mk (Below.trod laidOut (by kernel_rfl) (of_decide_eq_true (by kernel_rfl)) k1 bel lt1) trodAll_mk0)), rfl, bel.frame _, fun h => by cases h⟩

theorem over : Rows.fnExactEntryNameRow.holds Tryd.pinned (OpenSpec.ofChange Rows.fnExactEntryNameSpec) :=
  OpenClaim.holds_of_wide 4 Tryd.f4 rfl rfl rfl rfl rfl rfl rfl ⟨rfl, rfl, rfl, rfl, rfl⟩ rfl rfl rfl rfl rfl (by kernel_rfl) Tryd.func4 (by kernel_rfl)
    (of_decide_eq_true (by kernel_rfl)) (by unfold Func.isWrapper; first | (rw [if_pos (by decide +kernel)]; kernel_rfl) | (rw [if_neg (by decide +kernel)]; exact ⟨rfl, rfl⟩))
    (fun os started H enc _ => lifted os started H enc)

theorem plain (f : FuncId) (fn : Func) (hf : Tryd.pinned.checked.prog.funcNamed "loop.example/g00233/laws.FnExactEntryName" = some f) (hfn : Tryd.pinned.checked.prog.funcs[f]? = some fn) :
    true = Tryd.pinned.checked.prog.looks [] ∧ ∀ (j : Nat) t, fn.params[j]? = some t → Tryd.pinned.checked.prog.wantsStandIn t = false := by
  obtain rfl : f = 4 := Option.some.inj ((show Tryd.prog.funcNamed "loop.example/g00233/laws.FnExactEntryName" = some 4 by kernel_rfl).symm.trans hf) |>.symm
  obtain rfl : fn = Tryd.f4 := (Option.some.inj (Tryd.func4.symm.trans hfn)).symm
  refine ⟨by kernel_rfl, fun j t ht => ?_⟩
  rw [Tryd.params4] at ht
  have hm : t ∈ [9, 23] := by simpa using Array.mem_of_getElem? ht
  have hall : ([9, 23].all fun u => !Tryd.prog.wantsStandIn u) = true := by kernel_rfl
  exact (show Tryd.prog.wantsStandIn t = false by simpa using List.all_eq_true.1 hall t hm)

end Go.Proofs.YtepcpnnnhdbjgamDoor.fnExactEntryName
namespace Go.Proofs.YtepcpnnnhdbjgamDoor
theorem fnExactEntryName_holds : Rows.FnExactEntryNameCardSaid :=
  Claim7.holds_tied_plain_at .later [] _ _ _ _ fnExactEntryName.over (fun _ h => by cases h) (by kernel_rfl) (fun _ h => by cases h) fnExactEntryName_row_tie rfl ⟨rfl, rfl⟩ (by kernel_rfl) rfl fnExactEntryName.plain (by kernel_rfl)
end Go.Proofs.YtepcpnnnhdbjgamDoor
