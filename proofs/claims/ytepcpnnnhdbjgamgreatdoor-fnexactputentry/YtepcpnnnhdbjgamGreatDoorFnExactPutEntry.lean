/- For every input the law 'FnExactPutEntry' returns true and leaves its arguments as they were: proved of the card: three tables of the library and the variable errors.errorType stand when the call begins as the program's text lays them (tied by the given text), and no other condition. -/
import Derived.Test.YtepcpnnnhdbjgamGreatDoorRows
import Derived.Test.YtepcpnnnhdbjgamGreatDoorCards
import Derived.Test.YtepcpnnnhdbjgamGreatDoorTie
import Derived.WalkKit
import Derived.LaidMore
import Derived.LaidSub
import Derived.LaidHandle
import Derived.Stop.Joined
import Derived.OpenVars
import Derived.Test.YtepcpnnnhdbjgamGreatDoorPk24
import Derived.Test.YtepcpnnnhdbjgamGreatDoorPk2
import Derived.Test.YtepcpnnnhdbjgamGreatDoorPk14
import Derived.Test.YtepcpnnnhdbjgamGreatDoorPk30
import Derived.Test.YtepcpnnnhdbjgamGreatDoorPk25
import Derived.ProofKit
import Derived.OpenShut
import Derived.ShutString
import Derived.ChangeOld
import Derived.Below
import Derived.SliceStrings
import Derived.Lib.SmallJoins
namespace Go.Proofs.YtepcpnnnhdbjgamGreatDoor.fnExactPutEntry
open Go.ChangeShapes Go.WideShapes Go.ChangeAt Go.RowKit
open Go.ChangeMaps (open_string shut_string)
set_option linter.unusedVariables false

theorem own : ownKnob Tryz.prog.godebug = none := by kernel_rfl
theorem laidOut : laidOutB Tryz.prog = true := by kernel_rfl

set_option maxRecDepth 1000000 in
set_option maxHeartbeats 4000000 in
theorem walk (w : World) (hG : Ver.Glob w) (hE : As.Hand w) (n0 : Ent.Nd) (v0 : Value) (l0 : List Ent.Nd) (o0 : Open.Okn n0) (h0 : Ent.Sd w v0 l0) (y0 : ∀ n ∈ l0, Open.Okn n) (m0 : l0.length ≤ maxLen) :
    Calls Tryz.prog 3 #[.agg #[.string n0.path, .int .i64 n0.a, .int .i64 n0.b, .int .i64 n0.c, .string n0.pre, v0]] w fun e w' => e = .returned (.bool true) ∧ Below w.heap.size w w' := by
  exact Ent.exact_put w n0 v0 l0 o0 h0 y0 m0 (fun W v' hB hs h1 h2 hl hz => Ent.put_impl5 W (Ver.Glob.later hG hB) (As.Hand.later hE hB) n0 v' l0 hs hl h1 h2 hz)

theorem plainLaid : Rows.fnExactPutEntryRow.laid = As.four := rfl
theorem glob {W : World} (h : laidMetH Tryz.prog Rows.fnExactPutEntryRow.laid W) : Ver.Glob W ∧ As.Hand W := by
  rw [plainLaid] at h
  exact ⟨As.glob_of4 h, As.hand_of4 h⟩

theorem door_met (os : Os) (args : Array Value) : laidMetH Tryz.prog Rows.fnExactPutEntryRow.laid ((World.doorLaid Tryz.prog 400 os).forCall (fun _ _ => 0) ⟨#[], args, []⟩).memory :=
  laidMetH_of_parts3 (fuel := 8) (laidMet_of_run' 8 (by kernel_rfl) (by kernel_rfl)) (by kernel_rfl) (by kernel_rfl)

set_option maxRecDepth 100000 in
theorem lifted (os : Os) (started : os.Started) (H : Type) (enc : TypeId × Value → H) :
    ReturnsInHanded {} Tryz.checked os 3 .any (fun w args => (Rows.fnExactPutEntrySpec.pre enc Tryz.prog Tryz.f3 Rows.fnExactPutEntryRow.domain false w args ∧ laidMetH Tryz.prog Rows.fnExactPutEntryRow.laid w) ∧ sizedMet enc Tryz.prog Tryz.f3 (OpenSpec.ofChange Rows.fnExactPutEntrySpec) false w args) (Rows.fnExactPutEntrySpec.post enc Tryz.prog Tryz.f3 false true false false) := by
  refine returnsInHanded_of_change_and (C := Tryz.checked) (X := fun w _ => laidMetH Tryz.prog Rows.fnExactPutEntryRow.laid w) (fun _ _ _ hh h => h.of_heap hh) own started (by kernel_rfl) Tryz.func3
    (ChangeSpec.witness_shaped (enc := enc) (C := Tryz.checked) (os := os) (X := fun w _ => laidMetH Tryz.prog Rows.fnExactPutEntryRow.laid w) false (World.doorLaid Tryz.prog 400 os) #[.agg #[.string ⟨#[]⟩, .int .i64 0, .int .i64 0, .int .i64 0, .string ⟨#[]⟩, .slice none 0 0]] 8 rfl (World.shaped_of_RefB (by kernel_rfl) (by kernel_rfl)) (by kernel_rfl) (by kernel_rfl) (by kernel_rfl) (door_met os _)) ?_
  intro W base args ds gs before hval0 hW hcnd _ hL _
  have hval : ∀ (j : Nat) t v, Tryz.f3.params[j]? = some t → args[j]? = some v → Value.okWide Tryz.prog W .any base t v := hval0
  have hW' := hW
  obtain ⟨p, q, hA0, hV, rfl, hfz, hnd⟩ := hW
  have hA : DataW.TrodAll enc Tryz.prog W 0 (fun _ => true) true Tryz.f3.params.toList args.toList ds p := hA0
  rw [Tryz.params3] at hA hval
  obtain ⟨v0, vs0, d0, ds0, p0, q0, hargs, rfl, rfl, h0, r0⟩ := trodAll_cons hA
  obtain ⟨rfl, rfl, rfl⟩ := trodAll_nil r0
  obtain rfl : args = #[v0] := by cases args; simp_all
  obtain ⟨rfl, rfl⟩ := trodVars_none hV
  have k0 := h0
  have lt0 : ∀ x ∈ p0, x.block < W.heap.size := by obtain ⟨m, hm⟩ := k0; exact DataW.trod_lt m _ _ _ hm
  obtain ⟨cs0, rfl, hsz0⟩ := okWide_struct Tryz.underlying26 (hval 0 26 v0 rfl rfl)
  obtain ⟨n0, ao0, mm0, cap0, l0, e0, o0, t0, y0, m0⟩ : ∃ (n : Ent.Nd) (ao : Option Addr) (mm cap : Nat) (l : List Ent.Nd), cs0 = #[.string n.path, .int .i64 n.a, .int .i64 n.b, .int .i64 n.c, .string n.pre, .slice ao mm cap] ∧ Open.Okn n ∧ Ent.Sd W (.slice ao mm cap) l ∧ (∀ n ∈ l, Open.Okn n) ∧ l.length ≤ maxLen := by
    obtain ⟨fuel, hf⟩ := h0
    obtain ⟨n, ao, m, cap, l, e, ho, hm, hm2, hl, hs⟩ := Open.read_entry hf
    exact ⟨n, ao, m, cap, l, by cases cs0; simpa [Value.cells] using e, ho, hs, hl, hm2⟩
  subst e0
  clear hA0 hval0
  refine (walk W (glob hL).1 (glob hL).2 n0 _ l0 o0 t0 y0 m0).mono fun e W' ⟨he, bel⟩ => ?_
  subst he
  exact ⟨_, rfl, _, _, _, [], _, [], hW', trodAll_mk1 (shut_bool Tryz.underlying4 _), (trodAll_cons_mk (Below.trod laidOut (by kernel_rfl) (of_decide_eq_true (by kernel_rfl)) k0 bel lt0) trodAll_mk0), rfl, bel.frame _, fun h => by cases h⟩

theorem over : Rows.fnExactPutEntryRow.holds Tryz.pinned (OpenSpec.ofChange Rows.fnExactPutEntrySpec) :=
  OpenClaim.holds_of_wide 3 Tryz.f3 rfl rfl rfl rfl rfl rfl rfl ⟨rfl, rfl, rfl, rfl, rfl⟩ rfl rfl rfl rfl rfl (by kernel_rfl) Tryz.func3 (by kernel_rfl)
    (of_decide_eq_true (by kernel_rfl)) (by unfold Func.isWrapper; first | (rw [if_pos (by decide +kernel)]; kernel_rfl) | (rw [if_neg (by decide +kernel)]; exact ⟨rfl, rfl⟩))
    (fun os started H enc _ => lifted os started H enc)

theorem plain (f : FuncId) (fn : Func) (hf : Tryz.pinned.checked.prog.funcNamed "loop.example/g00233/laws.FnExactPutEntry" = some f) (hfn : Tryz.pinned.checked.prog.funcs[f]? = some fn) :
    true = Tryz.pinned.checked.prog.looks [] ∧ ∀ (j : Nat) t, fn.params[j]? = some t → Tryz.pinned.checked.prog.wantsStandIn t = false := by
  obtain rfl : f = 3 := Option.some.inj ((show Tryz.prog.funcNamed "loop.example/g00233/laws.FnExactPutEntry" = some 3 by kernel_rfl).symm.trans hf) |>.symm
  obtain rfl : fn = Tryz.f3 := (Option.some.inj (Tryz.func3.symm.trans hfn)).symm
  refine ⟨by kernel_rfl, fun j t ht => ?_⟩
  rw [Tryz.params3] at ht
  have hm : t ∈ [26] := by simpa using Array.mem_of_getElem? ht
  have hall : ([26].all fun u => !Tryz.prog.wantsStandIn u) = true := by kernel_rfl
  exact (show Tryz.prog.wantsStandIn t = false by simpa using List.all_eq_true.1 hall t hm)

end Go.Proofs.YtepcpnnnhdbjgamGreatDoor.fnExactPutEntry
namespace Go.Proofs.YtepcpnnnhdbjgamGreatDoor
theorem fnExactPutEntry_holds : Rows.FnExactPutEntryCardSaid :=
  Claim7.holds_tied_plain_at .later [] _ _ _ _ fnExactPutEntry.over (fun _ h => by cases h) (by kernel_rfl) (fun _ h => by cases h) fnExactPutEntry_row_tie rfl ⟨rfl, rfl⟩ (by kernel_rfl) rfl fnExactPutEntry.plain (by kernel_rfl)
end Go.Proofs.YtepcpnnnhdbjgamGreatDoor
