/- For every input the law 'FnExactVersionText' returns true and leaves its arguments as they were: proved of the card: three tables of the library stand when the call begins as the program's text lays them (tied by the given text), and no other condition. -/
import Derived.Test.YtbpgdagmffbagakDoorRows
import Derived.Test.YtbpgdagmffbagakDoorCards
import Derived.Test.YtbpgdagmffbagakDoorTie
import Derived.WalkKit
import Derived.LaidMore
import Derived.Stop.Joined
import Derived.OpenVars
import Derived.Test.YtbpgdagmffbagakDoorBytes
import Derived.Test.YtbpgdagmffbagakDoorVerL
import Derived.Test.YtbpgdagmffbagakDoorImpT
import Derived.Test.YtbpgdagmffbagakDoorVerG
import Derived.Test.YtbpgdagmffbagakDoorRowSl
import Derived.ProofKit
import Derived.OpenShut
import Derived.ShutString
import Derived.ChangeOld
import Derived.Below
import Derived.SliceStrings
import Derived.Lib.SmallJoins
namespace Go.Proofs.YtbpgdagmffbagakDoor.fnExactVersionText
open Go.ChangeShapes Go.WideShapes Go.ChangeAt Go.RowKit
open Go.ChangeMaps (open_string shut_string)
set_option linter.unusedVariables false

theorem own : ownKnob Tryd.prog.godebug = none := by kernel_rfl
theorem laidOut : laidOutB Tryd.prog = true := by kernel_rfl

set_option maxRecDepth 1000000 in
set_option maxHeartbeats 4000000 in
theorem walk (w : World) (hG : Ver.Glob w) (a0 b0 c0 : Int) (p0 : ByteArray) (wa0 : (Lit.int .i64 a0).wf = true) (wb0 : (Lit.int .i64 b0).wf = true) (wc0 : (Lit.int .i64 c0).wf = true) (wp0 : p0.size ≤ maxLen) :
    Calls Tryd.prog 3 #[.agg #[.int .i64 a0, .int .i64 b0, .int .i64 c0, .string p0]] w fun e w' => e = .returned (.bool true) ∧ Below w.heap.size w w' := by
  unfold maxLen at wp0
  have HB : Hid (Below w.heap.size w (w.alloc (.cells #[.int .i64 a0, .int .i64 b0, .int .i64 c0, .string p0] 23))) := (Below.refl _ _).alloc (Nat.le_refl _) _
  have HR : Hid ((w.alloc (.cells #[.int .i64 a0, .int .i64 b0, .int .i64 c0, .string p0] 23)).heap[w.heap.size]? = some (.cells (Ver.vc a0 b0 c0 p0) 23 (0, 0))) := heap_alloc_new w _
  have q0 := Ver.sz_any (w.alloc (.cells #[.int .i64 a0, .int .i64 b0, .int .i64 c0, .string p0] 23)) a0 b0 c0 p0 1048576 (by omega) (by omega) (by omega)
  unfold Ver.ver at q0
  by_cases hbig : (1048576 : Int) - p0.size < 0
  · rw [if_pos hbig] at q0
    clear hbig
    go_enter Tryd.func3, Tryd.ntmps3
    go_wp2_with (go_at_call 4; refine q0.mono ?_; rintro e W1 ⟨rfl, b1⟩)
    go_ret
    exact ⟨rfl, HB.out.trans (b1.mono HB.out.size)⟩
  · rw [if_neg hbig] at q0
    have hp0 : p0.size ≤ 1048576 := by omega
    have hq0 : ¬ (1048576 : Int) - p0.size < 0 := by omega
    clear hbig
    go_enter Tryd.func3, Tryd.ntmps3
    go_wp2_with fail
    refine q0.mono ?_
    rintro e W1 ⟨rfl, b1⟩
    have R1 := Ver.rowStay HR.out b1
    have B1 : Below w.heap.size w W1 := HB.out.trans (b1.mono HB.out.size)
    clear q0 b1 HR HB
    go_wp2_with (refine wpList_load_row rfl 23 _ rfl w.heap.size rfl 23 (Ver.vc a0 b0 c0 p0) (0, 0) _ R1 Tryd.underlying23 rfl (Ver.sizeL a0 b0 c0 p0) ?_)
    refine (Ver.to_ver W1 a0 b0 c0 p0).mono ?_
    rintro e W2 ⟨rfl, b2⟩
    have R2 := Ver.rowStay R1 b2
    have B2 : Below w.heap.size w W2 := B1.trans (b2.mono B1.size)
    clear R1 B1 b2
    go_wp2_with (refine wpList_load_row rfl 23 _ rfl w.heap.size rfl 23 (Ver.vc a0 b0 c0 p0) (0, 0) _ R2 Tryd.underlying23 rfl (Ver.sizeL a0 b0 c0 p0) ?_)
    refine (Ver.vtext_spec W2 a0 b0 c0 p0 (by omega)).mono ?_
    rintro e W3 ⟨rfl, b3⟩
    have R3 := Ver.rowStay R2 b3
    have B3 : Below w.heap.size w W3 := B2.trans (b3.mono B2.size)
    clear R2 B2 b3
    go_wp2_with (refine wpList_load_row rfl 23 _ rfl w.heap.size rfl 23 (Ver.vc a0 b0 c0 p0) (0, 0) _ R3 Tryd.underlying23 rfl (Ver.sizeL a0 b0 c0 p0) ?_)
    refine (Ver.to_ver W3 a0 b0 c0 p0).mono ?_
    rintro e W4 ⟨rfl, b4⟩
    have R4 := Ver.rowStay R3 b4
    have B4 : Below w.heap.size w W4 := B3.trans (b4.mono B3.size)
    clear R3 B3 b4
    go_wp2_with (refine wpList_load_row rfl 23 _ rfl w.heap.size rfl 23 (Ver.vc a0 b0 c0 p0) (0, 0) _ R4 Tryd.underlying23 rfl (Ver.sizeL a0 b0 c0 p0) ?_)
    refine (Ver.vtext_impl W4 a0 b0 c0 p0 (by omega) (Ver.Glob.later hG B4)).mono ?_
    rintro e W5 ⟨rfl, b5⟩
    have R5 := Ver.rowStay R4 b5
    have B5 : Below w.heap.size w W5 := B4.trans (b5.mono B4.size)
    clear R4 B4 b5
    obtain ⟨t, ht⟩ : ∃ t, Plain.txt (Ver.verText a0 b0 c0 p0) = t := ⟨_, rfl⟩
    rw [ht]
    clear ht
    have n1 : (t.toList == t.toList) = true := by simp
    go_wp2_with fail
    go_ret
    exact ⟨rfl, B5⟩

theorem plainLaid : Rows.fnExactVersionTextRow.laid = [("math/bits.deBruijn32tab", Rows.laid_math_bits_deBruijn32tab), ("math/bits.deBruijn64tab", Rows.laid_math_bits_deBruijn64tab), ("internal/strconv.uint64pow10", Rows.laid_internal_strconv_uint64pow10)] := rfl
theorem glob {W : World} (h : laidMetH Tryd.prog Rows.fnExactVersionTextRow.laid W) : Ver.Glob W := by
  rw [MakeChecks.laidMetH_plain _ _ _ (by kernel_rfl), plainLaid] at h
  exact Ver.glob_of h

theorem door_met (os : Os) (args : Array Value) : laidMetH Tryd.prog Rows.fnExactVersionTextRow.laid ((World.doorLaid Tryd.prog 400 os).forCall (fun _ _ => 0) ⟨#[], args, []⟩).memory :=
  laidMetH_of_parts3 (fuel := 8) (laidMet_of_run' 8 (by kernel_rfl) (by kernel_rfl)) (by kernel_rfl) (by kernel_rfl)

set_option maxRecDepth 100000 in
theorem lifted (os : Os) (started : os.Started) (H : Type) (enc : TypeId × Value → H) :
    ReturnsInHanded {} Tryd.checked os 3 .any (fun w args => (Rows.fnExactVersionTextSpec.pre enc Tryd.prog Tryd.f3 Rows.fnExactVersionTextRow.domain false w args ∧ laidMetH Tryd.prog Rows.fnExactVersionTextRow.laid w) ∧ sizedMet enc Tryd.prog Tryd.f3 (OpenSpec.ofChange Rows.fnExactVersionTextSpec) false w args) (Rows.fnExactVersionTextSpec.post enc Tryd.prog Tryd.f3 false true false false) := by
  refine returnsInHanded_of_change_and (C := Tryd.checked) (X := fun w _ => laidMetH Tryd.prog Rows.fnExactVersionTextRow.laid w) (fun _ _ _ hh h => h.of_heap hh) own started (by kernel_rfl) Tryd.func3
    (ChangeSpec.witness_shaped (enc := enc) (C := Tryd.checked) (os := os) (X := fun w _ => laidMetH Tryd.prog Rows.fnExactVersionTextRow.laid w) false (World.doorLaid Tryd.prog 400 os) #[.agg #[.int .i64 0, .int .i64 0, .int .i64 0, .string ⟨#[]⟩]] 8 rfl (World.shaped_of_RefB (by kernel_rfl) (by kernel_rfl)) (by kernel_rfl) (by kernel_rfl) (by kernel_rfl) (door_met os _)) ?_
  intro W base args ds gs before hval0 hW hcnd _ hL _
  have hval : ∀ (j : Nat) t v, Tryd.f3.params[j]? = some t → args[j]? = some v → Value.okWide Tryd.prog W .any base t v := hval0
  have hW' := hW
  obtain ⟨p, q, hA0, hV, rfl, hfz, hnd⟩ := hW
  have hA : DataW.TrodAll enc Tryd.prog W 0 (fun _ => true) true Tryd.f3.params.toList args.toList ds p := hA0
  rw [Tryd.params3] at hA hval
  obtain ⟨v0, vs0, d0, ds0, p0, q0, hargs, rfl, rfl, h0, r0⟩ := trodAll_cons hA
  obtain ⟨rfl, rfl, rfl⟩ := trodAll_nil r0
  obtain rfl : args = #[v0] := by cases args; simp_all
  obtain ⟨rfl, rfl⟩ := trodVars_none hV
  have k0 := h0
  have lt0 : ∀ x ∈ p0, x.block < W.heap.size := by obtain ⟨m, hm⟩ := k0; exact DataW.trod_lt m _ _ _ hm
  obtain ⟨s00, s10, s20, s30, y00, y10, y20, y30, n0, rfl, rfl, rfl, z00, z10, z20, z30⟩ := Joins.open_agg4 Tryd.underlying23 (by kernel_rfl) (by kernel_rfl) (hval 0 23 v0 rfl rfl) h0
  obtain ⟨a0, e00, rfl, wa0⟩ := DataW.trod_int Tryd.underlying3 z00
  obtain ⟨b0, e10, rfl, wb0⟩ := DataW.trod_int Tryd.underlying3 z10
  obtain ⟨c0, e20, rfl, wc0⟩ := DataW.trod_int Tryd.underlying3 z20
  obtain ⟨q0s, e30, rfl, wp0⟩ := DataW.trod_string Tryd.underlying9 z30
  simp only [List.cons.injEq, and_true] at e00 e10 e20 e30
  subst e00 e10 e20 e30
  clear z00 z10 z20 z30
  clear hA0 hval0
  refine (walk W (glob hL) a0 b0 c0 q0s wa0 wb0 wc0 wp0).mono fun e W' ⟨he, bel⟩ => ?_
  subst he
  exact ⟨_, rfl, _, _, _, [], _, [], hW', trodAll_mk1 (shut_bool Tryd.underlying4 _), (trodAll_cons_mk (Below.trod laidOut (by kernel_rfl) (of_decide_eq_true (by kernel_rfl)) k0 bel lt0) trodAll_mk0), rfl, bel.frame _, fun h => by cases h⟩

theorem over : Rows.fnExactVersionTextRow.holds Tryd.pinned (OpenSpec.ofChange Rows.fnExactVersionTextSpec) :=
  OpenClaim.holds_of_wide 3 Tryd.f3 rfl rfl rfl rfl rfl rfl rfl ⟨rfl, rfl, rfl, rfl, rfl⟩ rfl rfl rfl rfl rfl (by kernel_rfl) Tryd.func3 (by kernel_rfl)
    (of_decide_eq_true (by kernel_rfl)) (by unfold Func.isWrapper; first | (rw [if_pos (by decide +kernel)]; kernel_rfl) | (rw [if_neg (by decide +kernel)]; exact ⟨rfl, rfl⟩))
    (fun os started H enc _ => lifted os started H enc)

theorem plain (f : FuncId) (fn : Func) (hf : Tryd.pinned.checked.prog.funcNamed "loop.example/g00233/laws.FnExactVersionText" = some f) (hfn : Tryd.pinned.checked.prog.funcs[f]? = some fn) :
    false = Tryd.pinned.checked.prog.looks [] ∧ ∀ (j : Nat) t, fn.params[j]? = some t → Tryd.pinned.checked.prog.wantsStandIn t = false := by
  obtain rfl : f = 3 := Option.some.inj ((show Tryd.prog.funcNamed "loop.example/g00233/laws.FnExactVersionText" = some 3 by kernel_rfl).symm.trans hf) |>.symm
  obtain rfl : fn = Tryd.f3 := (Option.some.inj (Tryd.func3.symm.trans hfn)).symm
  refine ⟨by kernel_rfl, fun j t ht => ?_⟩
  rw [Tryd.params3] at ht
  have hm : t ∈ [23] := by simpa using Array.mem_of_getElem? ht
  have hall : ([23].all fun u => !Tryd.prog.wantsStandIn u) = true := by kernel_rfl
  exact (show Tryd.prog.wantsStandIn t = false by simpa using List.all_eq_true.1 hall t hm)

end Go.Proofs.YtbpgdagmffbagakDoor.fnExactVersionText
namespace Go.Proofs.YtbpgdagmffbagakDoor
theorem fnExactVersionText_holds : Rows.FnExactVersionTextCardSaid :=
  Claim7.holds_tied_plain_at .later [] _ _ _ _ fnExactVersionText.over (fun _ h => by cases h) (by kernel_rfl) (fun _ h => by cases h) fnExactVersionText_row_tie rfl ⟨rfl, rfl⟩ (by kernel_rfl) rfl fnExactVersionText.plain (by kernel_rfl)
end Go.Proofs.YtbpgdagmffbagakDoor
