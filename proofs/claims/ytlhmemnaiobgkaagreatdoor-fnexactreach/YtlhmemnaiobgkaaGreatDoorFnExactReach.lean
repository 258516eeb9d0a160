/- For every input the law 'FnExactReach' returns true and leaves its arguments as they were: proved of the card: the variable errors.errorType stands when the call begins as the program's text lays it (tied by the given text), and no other condition. -/
import Derived.Test.YtlhmemnaiobgkaaGreatDoorRows
import Derived.Test.YtlhmemnaiobgkaaGreatDoorCards
import Derived.Test.YtlhmemnaiobgkaaGreatDoorTie
import Derived.WalkKit
import Derived.LaidMore
import Derived.LaidSub
import Derived.LaidHandle
import Derived.Stop.Joined
import Derived.OpenVars
import Derived.Test.YtlhmemnaiobgkaaGreatDoorPk28
import Derived.Test.YtlhmemnaiobgkaaGreatDoorPk2
import Derived.Test.YtlhmemnaiobgkaaGreatDoorPk21
import Derived.Test.YtlhmemnaiobgkaaGreatDoorPk35
import Derived.Test.YtlhmemnaiobgkaaGreatDoorPk30
import Derived.ProofKit
import Derived.OpenShut
import Derived.ShutString
import Derived.ChangeOld
import Derived.Below
import Derived.SliceStrings
import Derived.Lib.SmallJoins
namespace Go.Proofs.YtlhmemnaiobgkaaGreatDoor.fnExactReach
open Go.ChangeShapes Go.WideShapes Go.ChangeAt Go.RowKit
open Go.ChangeMaps (open_string shut_string)
set_option linter.unusedVariables false

theorem own : ownKnob Tryz.prog.godebug = none := by kernel_rfl
theorem laidOut : laidOutB Tryz.prog = true := by kernel_rfl

set_option maxRecDepth 1000000 in
set_option maxHeartbeats 4000000 in
theorem walk (w : World) (hE : As.Hand w) (v0 : Value) (l0 : List Fe.Ev) (v1 : Value) (l1 : List Ent.Nd) (h0 : Fe.Se w v0 l0) (y0 : ∀ x ∈ l0, Fe.Oke x) (m0 : l0.length ≤ maxLen) (h1 : Ent.Sd w v1 l1) (y1 : ∀ n ∈ l1, Open.Okn n) (m1 : l1.length ≤ maxLen) :
    Calls Tryz.prog 6 #[v0, v1] w fun e w' => e = .returned (.bool true) ∧ Below w.heap.size w w' := by
  exact Se.exact_reach w v0 v1 l0 l1 h0 y0 m0 h1 y1 m1 (fun W v' u' T hB hS hD hl hf hs hz => Se.reach_impl W (As.Hand.later hE hB) v' u' T l1 hS hD (by omega) (fun e he => by
    obtain ⟨⟨q1, q2, q3⟩, q4⟩ := hf e he
    exact ⟨by omega, by omega, by omega, fun n hn => by have := q3 n hn; omega⟩) (by omega) (fun n hn => by have := hz n hn; omega))

theorem plainLaid : Rows.fnExactReachRow.laid = As.one := rfl
theorem glob {W : World} (h : laidMetH Tryz.prog Rows.fnExactReachRow.laid W) : As.Hand W := by
  rw [plainLaid] at h
  exact As.hand_of1 h

theorem door_met (os : Os) (args : Array Value) : laidMetH Tryz.prog Rows.fnExactReachRow.laid ((World.doorLaid Tryz.prog 400 os).forCall (fun _ _ => 0) ⟨#[], args, []⟩).memory :=
  laidMetH_of_parts3 (fuel := 8) (laidMet_of_run' 8 (by kernel_rfl) (by kernel_rfl)) (by kernel_rfl) (by kernel_rfl)

set_option maxRecDepth 100000 in
theorem lifted (os : Os) (started : os.Started) (H : Type) (enc : TypeId × Value → H) :
    ReturnsInHanded {} Tryz.checked os 6 .any (fun w args => (Rows.fnExactReachSpec.pre enc Tryz.prog Tryz.f6 Rows.fnExactReachRow.domain false w args ∧ laidMetH Tryz.prog Rows.fnExactReachRow.laid w) ∧ sizedMet enc Tryz.prog Tryz.f6 (OpenSpec.ofChange Rows.fnExactReachSpec) false w args) (Rows.fnExactReachSpec.post enc Tryz.prog Tryz.f6 false true false false) := by
  refine returnsInHanded_of_change_and (C := Tryz.checked) (X := fun w _ => laidMetH Tryz.prog Rows.fnExactReachRow.laid w) (fun _ _ _ hh h => h.of_heap hh) own started (by kernel_rfl) Tryz.func6
    (ChangeSpec.witness_shaped (enc := enc) (C := Tryz.checked) (os := os) (X := fun w _ => laidMetH Tryz.prog Rows.fnExactReachRow.laid w) false (World.doorLaid Tryz.prog 400 os) #[.slice none 0 0, .slice none 0 0] 8 rfl (World.shaped_of_RefB (by kernel_rfl) (by kernel_rfl)) (by kernel_rfl) (by kernel_rfl) (by kernel_rfl) (door_met os _)) ?_
  intro W base args ds gs before hval0 hW hcnd _ hL _
  have hval : ∀ (j : Nat) t v, Tryz.f6.params[j]? = some t → args[j]? = some v → Value.okWide Tryz.prog W .any base t v := hval0
  have hW' := hW
  obtain ⟨p, q, hA0, hV, rfl, hfz, hnd⟩ := hW
  have hA : DataW.TrodAll enc Tryz.prog W 0 (fun _ => true) true Tryz.f6.params.toList args.toList ds p := hA0
  rw [Tryz.params6] at hA hval
  obtain ⟨v0, vs0, d0, ds0, p0, q0, hargs, rfl, rfl, h0, r0⟩ := trodAll_cons hA
  obtain ⟨v1, vs1, d1, ds1, p1, q1, rfl, rfl, rfl, h1, r1⟩ := trodAll_cons r0
  obtain ⟨rfl, rfl, rfl⟩ := trodAll_nil r1
  obtain rfl : args = #[v0, v1] := by cases args; simp_all
  obtain ⟨rfl, rfl⟩ := trodVars_none hV
  have k0 := h0
  have lt0 : ∀ x ∈ p0, x.block < W.heap.size := by obtain ⟨m, hm⟩ := k0; exact DataW.trod_lt m _ _ _ hm
  obtain ⟨a0, len0, cap0, rfl⟩ := okWide_slice Tryz.underlying46 (hval 0 46 v0 rfl rfl)
  obtain ⟨l0, t0, y0, m0⟩ : ∃ l : List Fe.Ev, Fe.Se W (.slice a0 len0 cap0) l ∧ (∀ x ∈ l, Fe.Oke x) ∧ l.length ≤ maxLen := by
    obtain ⟨fuel, hf⟩ := h0
    obtain ⟨ao, m, cap, l, e, hm, hm2, ho, hs⟩ := Open.read_entries hf
    simp [Value.cells] at e
    obtain ⟨rfl, rfl, rfl⟩ := e
    exact ⟨l, hs, ho, hm2⟩
  have k1 := h1
  have lt1 : ∀ x ∈ p1, x.block < W.heap.size := by obtain ⟨m, hm⟩ := k1; exact DataW.trod_lt m _ _ _ hm
  obtain ⟨a1, len1, cap1, rfl⟩ := okWide_slice Tryz.underlying47 (hval 1 47 v1 rfl rfl)
  obtain ⟨l1, t1, y1, m1⟩ : ∃ l : List Ent.Nd, Ent.Sd W (.slice a1 len1 cap1) l ∧ (∀ n ∈ l, Open.Okn n) ∧ l.length ≤ maxLen := by
    obtain ⟨fuel, hf⟩ := h1
    obtain ⟨ao, m, cap, l, e, hm, hm2, ho, hs⟩ := Open.read_needs hf
    simp [Value.cells] at e
    obtain ⟨rfl, rfl, rfl⟩ := e
    exact ⟨l, hs, ho, hm2⟩
  clear hA0 hval0
  refine (walk W (glob hL) _ l0 _ l1 t0 y0 m0 t1 y1 m1).mono fun e W' ⟨he, bel⟩ => ?_
  subst he
  exact ⟨_, rfl, _, _, _, [], _, [], hW', trodAll_mk1 (shut_bool Tryz.underlying4 _), (trodAll_cons_mk (Below.trod laidOut (by kernel_rfl) (of_decide_eq_true (by kernel_rfl)) k0 bel lt0) (trodAll_cons_mk (Below.trod laidOut (by kernel_rfl) (of_decide_eq_true (by kernel_rfl)) k1 bel lt1) trodAll_mk0)), rfl, bel.frame _, fun h => by cases h⟩

theorem over : Rows.fnExactReachRow.holds Tryz.pinned (OpenSpec.ofChange Rows.fnExactReachSpec) :=
  OpenClaim.holds_of_wide 6 Tryz.f6 rfl rfl rfl rfl rfl rfl rfl ⟨rfl, rfl, rfl, rfl, rfl⟩ rfl rfl rfl rfl rfl (by kernel_rfl) Tryz.func6 (by kernel_rfl)
    (of_decide_eq_true (by kernel_rfl)) (by unfold Func.isWrapper; first | (rw [if_pos (by decide +kernel)]; kernel_rfl) | (rw [if_neg (by decide +kernel)]; exact ⟨rfl, rfl⟩))
    (fun os started H enc _ => lifted os started H enc)

theorem plain (f : FuncId) (fn : Func) (hf : Tryz.pinned.checked.prog.funcNamed "loop.example/g00233/laws.FnExactReach" = some f) (hfn : Tryz.pinned.checked.prog.funcs[f]? = some fn) :
    true = Tryz.pinned.checked.prog.looks [] ∧ ∀ (j : Nat) t, fn.params[j]? = some t → Tryz.pinned.checked.prog.wantsStandIn t = false := by
  obtain rfl : f = 6 := Option.some.inj ((show Tryz.prog.funcNamed "loop.example/g00233/laws.FnExactReach" = some 6 by kernel_rfl).symm.trans hf) |>.symm
  obtain rfl : fn = Tryz.f6 := (Option.some.inj (Tryz.func6.symm.trans hfn)).symm
  refine ⟨by kernel_rfl, fun j t ht => ?_⟩
  rw [Tryz.params6] at ht
  have hm : t ∈ [46, 47] := by simpa using Array.mem_of_getElem? ht
  have hall : ([46, 47].all fun u => !Tryz.prog.wantsStandIn u) = true := by kernel_rfl
  exact (show Tryz.prog.wantsStandIn t = false by simpa using List.all_eq_true.1 hall t hm)

end Go.Proofs.YtlhmemnaiobgkaaGreatDoor.fnExactReach
namespace Go.Proofs.YtlhmemnaiobgkaaGreatDoor
theorem fnExactReach_holds : Rows.FnExactReachCardSaid :=
  Claim7.holds_tied_plain_at .later [] _ _ _ _ fnExactReach.over (fun _ h => by cases h) (by kernel_rfl) (fun _ h => by cases h) fnExactReach_row_tie rfl ⟨rfl, rfl⟩ (by kernel_rfl) rfl fnExactReach.plain (by kernel_rfl)
end Go.Proofs.YtlhmemnaiobgkaaGreatDoor
