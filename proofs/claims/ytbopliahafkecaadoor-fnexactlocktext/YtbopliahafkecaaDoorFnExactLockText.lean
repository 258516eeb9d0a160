/- For every input the law 'FnExactLockText' returns true and leaves its arguments as they were: proved of the card: three tables of the library stand when the call begins as the program's text lays them (tied by the given text), and no other condition. -/
import Derived.Test.YtbopliahafkecaaDoorRows
import Derived.Test.YtbopliahafkecaaDoorCards
import Derived.Test.YtbopliahafkecaaDoorTie
import Derived.WalkKit
import Derived.LaidMore
import Derived.Stop.Joined
import Derived.OpenVars
import Derived.Test.YtbopliahafkecaaDoorPk3
import Derived.Test.YtbopliahafkecaaDoorPk22
import Derived.Test.YtbopliahafkecaaDoorPk29
import Derived.Test.YtbopliahafkecaaDoorPk24
import Derived.Test.YtbopliahafkecaaDoorPk26
import Derived.ProofKit
import Derived.OpenShut
import Derived.ShutString
import Derived.ChangeOld
import Derived.Below
import Derived.SliceStrings
import Derived.Lib.SmallJoins
namespace Go.Proofs.YtbopliahafkecaaDoor.fnExactLockText
open Go.ChangeShapes Go.WideShapes Go.ChangeAt Go.RowKit
open Go.ChangeMaps (open_string shut_string)
set_option linter.unusedVariables false

theorem own : ownKnob Tryd.prog.godebug = none := by kernel_rfl

theorem laidOut : laidOutB Tryd.prog = true := by kernel_rfl

set_option maxRecDepth 1000000 in
set_option maxHeartbeats 4000000 in
theorem walk (w : World) (hG : Ver.Glob w) (n0 : He.Hd) (v1 : Value) (l1 : List Ent.Nd) (o0 : Open.Okh n0) (h1 : Ent.Sd w v1 l1) (y1 : ∀ n ∈ l1, Open.Okn n) (m1 : l1.length ≤ maxLen) :
    Calls Tryd.prog 3 #[.agg #[.int .i64 n0.n, .string n0.r], v1] w fun e w' => e = .returned (.bool true) ∧ Below w.heap.size w w' := by
  exact Lm.exact_lock w n0 v1 l1 h1 y1 m1 o0.2 (fun W v' hB hs hl hz hr => Lm.lock_impl W (Ver.Glob.later hG hB) n0 v' l1 hs (by omega) (by omega) (fun n hn => by have := hz n hn; omega))

theorem plainLaid : Rows.fnExactLockTextRow.laid = [("math/bits.deBruijn32tab", Rows.laid_math_bits_deBruijn32tab), ("math/bits.deBruijn64tab", Rows.laid_math_bits_deBruijn64tab), ("internal/strconv.uint64pow10", Rows.laid_internal_strconv_uint64pow10)] := rfl

theorem glob {W : World} (h : laidMetH Tryd.prog Rows.fnExactLockTextRow.laid W) : Ver.Glob W := by
  rw [MakeChecks.laidMetH_plain _ _ _ (by kernel_rfl), plainLaid] at h
  exact Ver.glob_of h

theorem door_met (os : Os) (args : Array Value) : laidMetH Tryd.prog Rows.fnExactLockTextRow.laid ((World.doorLaid Tryd.prog 400 os).forCall (fun _ _ => 0) ⟨#[], args, []⟩).memory :=
  laidMetH_of_parts3 (fuel := 8) (laidMet_of_run' 8 (by kernel_rfl) (by kernel_rfl)) (by kernel_rfl) (by kernel_rfl)

set_option maxRecDepth 100000 in
theorem lifted (os : Os) (started : os.Started) (H : Type) (enc : TypeId × Value → H) :
    ReturnsInHanded {} Tryd.checked os 3 .any (fun w args => (Rows.fnExactLockTextSpec.pre enc Tryd.prog Tryd.f3 Rows.fnExactLockTextRow.domain false w args ∧ laidMetH Tryd.prog Rows.fnExactLockTextRow.laid w) ∧ sizedMet enc Tryd.prog Tryd.f3 (OpenSpec.ofChange Rows.fnExactLockTextSpec) false w args) (Rows.fnExactLockTextSpec.post enc Tryd.prog Tryd.f3 false true false false) := by
  refine returnsInHanded_of_change_and (C := Tryd.checked) (X := fun w _ => laidMetH Tryd.prog Rows.fnExactLockTextRow.laid w) (fun _ _ _ hh h => h.of_heap hh) own started (by kernel_rfl) Tryd.func3
    (ChangeSpec.witness_shaped (enc := enc) (C := Tryd.checked) (os := os) (X := fun w _ => laidMetH Tryd.prog Rows.fnExactLockTextRow.laid w) false (World.doorLaid Tryd.prog 400 os) #[.agg #[.int .i64 0, .string ⟨#[]⟩], .slice none 0 0] 8 rfl (World.shaped_of_RefB (by kernel_rfl) (by kernel_rfl)) (by kernel_rfl) (by kernel_rfl) (by kernel_rfl) (door_met os _)) ?_
  intro W base args ds gs before hval0 hW hcnd _ hL _
  have hval : ∀ (j : Nat) t v, Tryd.f3.params[j]? = some t → args[j]? = some v → Value.okWide Tryd.prog W .any base t v := hval0
  have hW' := hW
  obtain ⟨p, q, hA0, hV, rfl, hfz, hnd⟩ := hW
  have hA : DataW.TrodAll enc Tryd.prog W 0 (fun _ => true) true Tryd.f3.params.toList args.toList ds p := hA0
  rw [Tryd.params3] at hA hval
  obtain ⟨v0, vs0, d0, ds0, p0, q0, hargs, rfl, rfl, h0, r0⟩ := trodAll_cons hA
  obtain ⟨v1, vs1, d1, ds1, p1, q1, rfl, rfl, rfl, h1, r1⟩ := trodAll_cons r0
  obtain ⟨rfl, rfl, rfl⟩ := trodAll_nil r1
  obtain rfl : args = #[v0, v1] := by cases args; simp_all
  obtain ⟨rfl, rfl⟩ := trodVars_none hV
  have k0 := h0
  have lt0 : ∀ x ∈ p0, x.block < W.heap.size := by obtain ⟨m, hm⟩ := k0; exact DataW.trod_lt m _ _ _ hm
  obtain ⟨cs0, rfl, hsz0⟩ := okWide_struct Tryd.underlying23 (hval 0 23 v0 rfl rfl)
  obtain ⟨n0, e0, o0⟩ : ∃ n : He.Hd, cs0 = #[.int .i64 n.n, .string n.r] ∧ Open.Okh n := by
    obtain ⟨fuel, hf⟩ := h0
    obtain ⟨n, e, ho⟩ := Open.read_head hf
    exact ⟨n, by cases cs0; simpa [Value.cells, He.Hd.cs] using e, ho⟩
  subst e0
  have k1 := h1
  have lt1 : ∀ x ∈ p1, x.block < W.heap.size := by obtain ⟨m, hm⟩ := k1; exact DataW.trod_lt m _ _ _ hm
  obtain ⟨a1, len1, cap1, rfl⟩ := okWide_slice Tryd.underlying24 (hval 1 24 v1 rfl rfl)
  obtain ⟨l1, t1, y1, m1⟩ : ∃ l : List Ent.Nd, Ent.Sd W (.slice a1 len1 cap1) l ∧ (∀ n ∈ l, Open.Okn n) ∧ l.length ≤ maxLen := by
    obtain ⟨fuel, hf⟩ := h1
    obtain ⟨ao, m, cap, l, e, hm, hm2, ho, hs⟩ := Open.read_needs hf
    simp [Value.cells] at e
    obtain ⟨rfl, rfl, rfl⟩ := e
    exact ⟨l, hs, ho, hm2⟩
  clear hA0 hval0
  refine (walk W (glob hL) n0 _ l1 o0 t1 y1 m1).mono fun e W' ⟨he, bel⟩ => ?_
  subst he
  exact ⟨_, rfl, _, _, _, [], _, [], hW', trodAll_mk1 (shut_bool Tryd.underlying4 _), (trodAll_cons_mk (Below.trod laidOut (by kernel_rfl) (of_decide_eq_true (by kernel_rfl)) k0 bel lt0) (trodAll_cons_mk (Below.trod laidOut (by kernel_rfl) (of_decide_eq_true (by kernel_rfl)) k1 bel lt1) trodAll_mk0)), rfl, bel.frame _, fun h => by cases h⟩

theorem over : Rows.fnExactLockTextRow.holds Tryd.pinned (OpenSpec.ofChange Rows.fnExactLockTextSpec) :=
  OpenClaim.holds_of_wide 3 Tryd.f3 rfl rfl rfl rfl rfl rfl rfl ⟨rfl, rfl, rfl, rfl, rfl⟩ rfl rfl rfl rfl rfl (by kernel_rfl) Tryd.func3 (by kernel_rfl)
    (of_decide_eq_true (by kernel_rfl)) (by unfold Func.isWrapper; first | (rw [if_pos (by decide +kernel)]; kernel_rfl) | (rw [if_neg (by decide +kernel)]; exact ⟨rfl, rfl⟩))
    (fun os started H enc _ => lifted os started H enc)

theorem plain (f : FuncId) (fn : Func) (hf : Tryd.pinned.checked.prog.funcNamed "loop.example/g00233/laws.FnExactLockText" = some f) (hfn : Tryd.pinned.checked.prog.funcs[f]? = some fn) :
    false = Tryd.pinned.checked.prog.looks [] ∧ ∀ (j : Nat) t, fn.params[j]? = some t → Tryd.pinned.checked.prog.wantsStandIn t = false := by
  obtain rfl : f = 3 := Option.some.inj ((show Tryd.prog.funcNamed "loop.example/g00233/laws.FnExactLockText" = some 3 by kernel_rfl).symm.trans hf) |>.symm
  obtain rfl : fn = Tryd.f3 := (Option.some.inj (Tryd.func3.symm.trans hfn)).symm
  refine ⟨by kernel_rfl, fun j t ht => ?_⟩
  rw [Tryd.params3] at ht
  have hm : t ∈ [23, 24] := by simpa using Array.mem_of_getElem? ht
  have hall : ([23, 24].all fun u => !Tryd.prog.wantsStandIn u) = true := by kernel_rfl
  exact (show Tryd.prog.wantsStandIn t = false by simpa using List.all_eq_true.1 hall t hm)

end Go.Proofs.YtbopliahafkecaaDoor.fnExactLockText
namespace Go.Proofs.YtbopliahafkecaaDoor

theorem fnExactLockText_holds : Rows.FnExactLockTextCardSaid :=
  Claim7.holds_tied_plain_at .later [] _ _ _ _ fnExactLockText.over (fun _ h => by cases h) (by kernel_rfl) (fun _ h => by cases h) fnExactLockText_row_tie rfl ⟨rfl, rfl⟩ (by kernel_rfl) rfl fnExactLockText.plain (by kernel_rfl)
end Go.Proofs.YtbopliahafkecaaDoor
