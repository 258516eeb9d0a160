/- For every input the law 'FnExactEntryOk' returns true and leaves its arguments as they were: proved of the card: the variable errors.errorType stands when the call begins as the program's text lays it (tied by the given text), and no other condition. -/
import Derived.Test.YtepcpnnnhdbjgamDoorRows
import Derived.Test.YtepcpnnnhdbjgamDoorCards
import Derived.Test.YtepcpnnnhdbjgamDoorTie
import Derived.WalkKit
import Derived.LaidMore
import Derived.LaidSub
import Derived.LaidHandle
import Derived.Stop.Joined
import Derived.OpenVars
import Derived.Test.YtepcpnnnhdbjgamDoorPk16
import Derived.Test.YtepcpnnnhdbjgamDoorPk2
import Derived.Test.YtepcpnnnhdbjgamDoorPk12
import Derived.Test.YtepcpnnnhdbjgamDoorPk23
import Derived.Test.YtepcpnnnhdbjgamDoorPk19
import Derived.ProofKit
import Derived.OpenShut
import Derived.ShutString
import Derived.ChangeOld
import Derived.Below
import Derived.SliceStrings
import Derived.Lib.SmallJoins
namespace Go.Proofs.YtepcpnnnhdbjgamDoor.fnExactEntryOk
open Go.ChangeShapes Go.WideShapes Go.ChangeAt Go.RowKit
open Go.ChangeMaps (open_string shut_string)
set_option linter.unusedVariables false

theorem own : ownKnob Tryd.prog.godebug = none := by kernel_rfl
theorem laidOut : laidOutB Tryd.prog = true := by kernel_rfl

set_option maxRecDepth 1000000 in
set_option maxHeartbeats 4000000 in
theorem walk (w : World) (hE : As.Hand w) (n0 : Ent.Nd) (v0 : Value) (l0 : List Ent.Nd) (o0 : Open.Okn n0) (h0 : Ent.Sd w v0 l0) (y0 : ∀ n ∈ l0, Open.Okn n) (m0 : l0.length ≤ maxLen) :
    Calls Tryd.prog 3 #[.agg #[.string n0.path, .int .i64 n0.a, .int .i64 n0.b, .int .i64 n0.c, .string n0.pre, v0]] w fun e w' => e = .returned (.bool true) ∧ Below w.heap.size w w' := by
  exact Ent.exact_entryok w n0 v0 l0 o0 h0 y0 m0 (fun W v' hB hs h1 h2 hl hz => Ent.entryok_impl W (As.Hand.later hE hB) n0 v' l0 hs (by omega) (by omega) (by omega) (fun n hn => ⟨by have := (hz n hn).1; omega, by have := (hz n hn).2; omega⟩))

theorem plainLaid : Rows.fnExactEntryOkRow.laid = As.one := rfl
theorem glob {W : World} (h : laidMetH Tryd.prog Rows.fnExactEntryOkRow.laid W) : As.Hand W := by
  rw [plainLaid] at h
  exact As.hand_of1 h

theorem door_met (os : Os) (args : Array Value) : laidMetH Tryd.prog Rows.fnExactEntryOkRow.laid ((World.doorLaid Tryd.prog 400 os).forCall (fun _ _ => 0) ⟨#[], args, []⟩).memory :=
  laidMetH_of_parts3 (fuel := 8) (laidMet_of_run' 8 (by kernel_rfl) (by kernel_rfl)) (by kernel_rfl) (by kernel_rfl)

set_option maxRecDepth 100000 in
theorem lifted (os : Os) (started : os.Started) (H : Type) (enc : TypeId × Value → H) :
    ReturnsInHanded {} Tryd.checked os 3 .any (fun w args => (Rows.fnExactEntryOkSpec.pre enc Tryd.prog Tryd.f3 Rows.fnExactEntryOkRow.domain false w args ∧ laidMetH Tryd.prog Rows.fnExactEntryOkRow.laid w) ∧ sizedMet enc Tryd.prog Tryd.f3 (OpenSpec.ofChange Rows.fnExactEntryOkSpec) false w args) (Rows.fnExactEntryOkSpec.post enc Tryd.prog Tryd.f3 false true false false) := by
  refine returnsInHanded_of_change_and (C := Tryd.checked) (X := fun w _ => laidMetH Tryd.prog Rows.fnExactEntryOkRow.laid w) (fun _ _ _ hh h => h.of_heap hh) own started (by kernel_rfl) Tryd.func3
    (ChangeSpec.witness_shaped (enc := enc) (C := Tryd.checked) (os := os) (X := fun w _ => laidMetH Tryd.prog Rows.fnExactEntryOkRow.laid w) false (World.doorLaid Tryd.prog 400 os) #[.agg #[.string ⟨#[]⟩, .int .i64 0, .int .i64 0, .int .i64 0, .string ⟨#[]⟩, .slice none 0 0]] 8 rfl (World.shaped_of_RefB (by kernel_rfl) (by kernel_rfl)) (by kernel_rfl) (by kernel_rfl) (by kernel_rfl) (door_met os _)) ?_
  intro W base args ds gs before hval0 hW hcnd _ hL _
  have hval : ∀ (j : Nat) t v, Tryd.f3.params[j]? = some t → args[j]? = some v → Value.okWide Tryd.prog W .any base t v := hval0
  have hW' := hW
  obtain ⟨p, q, hA0, hV, rfl, hfz, hnd⟩ := hW
  have hA : DataW.TrodAll enc Tryd.prog W 0 (fun _ => true) true Tryd.f3.params.toList args.toList ds p := hA0
  rw [Tryd.params3] at hA hval
  obtain ⟨v0, vs0, d0, ds0, p0, q0, hargs, rfl, rfl, h0, r0⟩ := trodAll_cons hA
  obtain ⟨rfl, rfl, rfl⟩ := trodAll_nil r0
  obtain rfl : args = #[v0] := by cases args; simp_all
  obtain ⟨rfl, rfl⟩ := trodVars_none hV
  have k0 := h0
  have lt0 : ∀ x ∈ p0, x.block < W.heap.size := by obtain ⟨m, hm⟩ := k0; exact DataW.trod_lt m _ _ _ hm
  obtain ⟨cs0, rfl, hsz0⟩ := okWide_struct Tryd.underlying26 (hval 0 26 v0 rfl rfl)
  obtain ⟨n0, ao0, mm0, cap0, l0, e0, o0, t0, y0, m0⟩ : ∃ (n : Ent.Nd) (ao : Option Addr) (mm cap : Nat) (l : List Ent.Nd), cs0 = #[.string n.path, .int .i64 n.a, .int .i64 n.b, .int .i64 n.c, .string n.pre, .slice ao mm cap] ∧ Open.Okn n ∧ Ent.Sd W (.slice ao mm cap) l ∧ (∀ n ∈ l, Open.Okn n) ∧ l.length ≤ maxLen := by
    obtain ⟨fuel, hf⟩ := h0
    obtain ⟨n, ao, m, cap, l, e, ho, hm, hm2, hl, hs⟩ := Open.read_entry hf
    exact ⟨n, ao, m, cap, l, by cases cs0; simpa [Value.cells] using e, ho, hs, hl, hm2⟩
  subst e0
  clear hA0 hval0
  refine (walk W (glob hL) n0 _ l0 o0 t0 y0 m0).mono fun e W' ⟨he, bel⟩ => ?_
  subst he
  exact ⟨_, rfl, _, _, _, [], _, [], hW', trodAll_mk1 (shut_bool Tryd.underlying4 _), (trodAll_cons_mk (Below.trod laidOut (by kernel_rfl) (of_decide_eq_true (by kernel_rfl)) k0 bel lt0) trodAll_mk0), rfl, bel.frame _, fun h => by cases h⟩

theorem over : Rows.fnExactEntryOkRow.holds Tryd.pinned (OpenSpec.ofChange Rows.fnExactEntryOkSpec) :=
  OpenClaim.holds_of_wide 3 Tryd.f3 rfl rfl rfl rfl rfl rfl rfl ⟨rfl, rfl, rfl, rfl, rfl⟩ rfl rfl rfl rfl rfl (by kernel_rfl) Tryd.func3 (by kernel_rfl)
    (of_decide_eq_true (by kernel_rfl)) (by unfold Func.isWrapper; first | (rw [if_pos (by decide +kernel)]; kernel_rfl) | (rw [if_neg (by decide +kernel)]; exact ⟨rfl, rfl⟩))
    (fun os started H enc _ => lifted os started H enc)

theorem plain (f : FuncId) (fn : Func) (hf : Tryd.pinned.checked.prog.funcNamed "loop.example/g00233/laws.FnExactEntryOk" = some f) (hfn : Tryd.pinned.checked.prog.funcs[f]? = some fn) :
    true = Tryd.pinned.checked.prog.looks [] ∧ ∀ (j : Nat) t, fn.params[j]? = some t → Tryd.pinned.checked.prog.wantsStandIn t = false := by
  obtain rfl : f = 3 := Option.some.inj ((show Tryd.prog.funcNamed "loop.example/g00233/laws.FnExactEntryOk" = some 3 by kernel_rfl).symm.trans hf) |>.symm
  obtain rfl : fn = Tryd.f3 := (Option.some.inj (Tryd.func3.symm.trans hfn)).symm
  refine ⟨by kernel_rfl, fun j t ht => ?_⟩
  rw [Tryd.params3] at ht
  have hm : t ∈ [26] := by simpa using Array.mem_of_getElem? ht
  have hall : ([26].all fun u => !Tryd.prog.wantsStandIn u) = true := by kernel_rfl
  exact (show Tryd.prog.wantsStandIn t = false by simpa using List.all_eq_true.1 hall t hm)

end Go.Proofs.YtepcpnnnhdbjgamDoor.fnExactEntryOk
namespace Go.Proofs.YtepcpnnnhdbjgamDoor
theorem fnExactEntryOk_holds : Rows.FnExactEntryOkCardSaid :=
  Claim7.holds_tied_plain_at .later [] _ _ _ _ fnExactEntryOk.over (fun _ h => by cases h) (by kernel_rfl) (fun _ h => by cases h) fnExactEntryOk_row_tie rfl ⟨rfl, rfl⟩ (by kernel_rfl) rfl fnExactEntryOk.plain (by kernel_rfl)
end Go.Proofs.YtepcpnnnhdbjgamDoor
