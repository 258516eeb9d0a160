/- For every input the law 'FnExactMirrorOk' returns true and leaves its arguments as they were: proved of the card: the program's two tables of words, and its errors made by errors.New that the row lists, stand when the call begins as the program's text lays them (tied by the given text; of other packages of the project than those loaded nothing is said); over the turned code of the commit beside it. -/
import Derived.Test.YtchonoonclllbaaGreatDoorRows
import Derived.Test.YtchonoonclllbaaGreatDoorCards
import Derived.Test.YtchonoonclllbaaGreatDoorTie
import Derived.WalkKit
import Derived.LaidMore
import Derived.Stop.Joined
import Derived.OpenVars
import Derived.Test.YtchonoonclllbaaGreatDoorPv3
import Derived.Test.YtchonoonclllbaaGreatDoorPv24
import Derived.Test.YtchonoonclllbaaGreatDoorPv27
import Derived.Test.YtchonoonclllbaaGreatDoorPv26
import Derived.Test.YtchonoonclllbaaGreatDoorPv28
import Derived.Test.YtchonoonclllbaaGreatDoorPv25
import Derived.ProofKit
import Derived.OpenShut
import Derived.ShutString
import Derived.ChangeOld
import Derived.Below
import Derived.SliceStrings
import Derived.Lib.SmallJoins
namespace Go.Proofs.YtchonoonclllbaaGreatDoor.fnExactMirrorOk
open Go.ChangeShapes Go.WideShapes Go.ChangeAt Go.RowKit
open Go.ChangeMaps (open_string shut_string)
set_option linter.unusedVariables false

/-- where the program's errors lie -/
def Sents (w : World) : Prop := ∃ ea0 : Addr, Is.At w 6 ea0
theorem gna0 : Tryz.prog.globalNamed "loop.example/g00233/impl.errNoCommit" = some 6 := by kernel_rfl
theorem gta0 : (Tryz.prog.globals[6]?).map (·.type) = some 173 := by kernel_rfl
theorem own : ownKnob Tryz.prog.godebug = none := by kernel_rfl
theorem laidOut : laidOutB Tryz.prog = true := by kernel_rfl

set_option maxRecDepth 1000000 in
set_option maxHeartbeats 4000000 in
theorem walk (w : World) (hG : Sha.Glob w) (hE : Sents w) (n0 : He.Hd) (v0 u0 : Value) (l0 : List ByteArray) (b0 : List Int) (s0 i0 : Int) (g0 : He.Hd) (v1 : Value) (l1 : List He.Hd) (o0 : Open.Okh n0) (og0 : Open.Okh g0) (h0 : Mem.Sl w v0 (Mem.ss l0)) (y0 : ∀ s ∈ l0, s.size ≤ maxLen) (m0 : l0.length ≤ maxLen) (hb0 : Mem.Sl w u0 (Mem.bs b0)) (yb0 : Mem.Byt b0) (mb0 : b0.length ≤ maxLen) (ws0 : (Lit.int .i64 s0).wf = true) (wi0 : (Lit.int .i64 i0).wf = true) (h1 : He.Sh w v1 l1) (y1 : ∀ n ∈ l1, Open.Okh n) (m1 : l1.length ≤ maxLen) :
    Calls Tryz.prog 7 #[.agg #[.int .i64 i0, v0, .int .i64 n0.n, .string n0.r, u0, .int .i64 s0, .int .i64 g0.n, .string g0.r], v1] w fun e w' => e = .returned (.bool true) ∧ Below w.heap.size w w' := by
  have hN : Sr.NoC w := hE
  exact Mi.exact_mirrorok w v0 u0 v1 i0 l0 n0 b0 s0 g0 l1 h0 hb0 yb0 y0 m0 mb0 o0.2 og0.2 h1 (fun n hn => (y1 n hn).2) m1 hG hN

theorem glob {W : World} (h : laidMetH Tryz.prog Rows.fnExactMirrorOkRow.laid W) : Sha.Glob W := by
  rw [MakeChecks.laidMetH_plain _ _ _ (by kernel_rfl)] at h
  have h2 := laidMet.filter (fun p => p.1 == "loop.example/g00233/impl.rootWords" || p.1 == "loop.example/g00233/impl.roundWords") h
  have e : (Rows.fnExactMirrorOkRow.laid).filter (fun p => p.1 == "loop.example/g00233/impl.rootWords" || p.1 == "loop.example/g00233/impl.roundWords") = [("loop.example/g00233/impl.rootWords", Rows.laid_loop_example_g00233_impl_rootWords), ("loop.example/g00233/impl.roundWords", Rows.laid_loop_example_g00233_impl_roundWords)] := by kernel_rfl
  rw [e] at h2
  exact Sha.glob_of h2
theorem sents {W : World} (h : laidMetH Tryz.prog Rows.fnExactMirrorOkRow.laid W) : Sents W := by
  rw [MakeChecks.laidMetH_plain _ _ _ (by kernel_rfl)] at h
  obtain ⟨p0, hp0⟩ := Is.one (x0 := [116, 104, 101, 115, 101, 32, 98, 121, 116, 101, 115, 32, 97, 114, 101, 32, 110, 111, 32, 99, 111, 109, 109, 105, 116]) (by have h2 := laidMet.filter (fun p => p.1 == "loop.example/g00233/impl.errNoCommit") h; exact h2) gna0 gta0
  exact ⟨p0, hp0⟩

theorem door_met (os : Os) (args : Array Value) : laidMetH Tryz.prog Rows.fnExactMirrorOkRow.laid ((World.doorLaid Tryz.prog 400 os).forCall (fun _ _ => 0) ⟨#[], args, []⟩).memory :=
  laidMetH_of_parts3 (fuel := 8) (laidMet_of_run' 8 (by kernel_rfl) (by kernel_rfl)) (by kernel_rfl) (by kernel_rfl)

set_option maxRecDepth 100000 in
theorem lifted (os : Os) (started : os.Started) (H : Type) (enc : TypeId × Value → H) :
    ReturnsInHanded {} Tryz.checked os 7 .any (fun w args => (Rows.fnExactMirrorOkSpec.pre enc Tryz.prog Tryz.f7 Rows.fnExactMirrorOkRow.domain false w args ∧ laidMetH Tryz.prog Rows.fnExactMirrorOkRow.laid w) ∧ sizedMet enc Tryz.prog Tryz.f7 (OpenSpec.ofChange Rows.fnExactMirrorOkSpec) false w args) (Rows.fnExactMirrorOkSpec.post enc Tryz.prog Tryz.f7 false true false false) := by
  refine returnsInHanded_of_change_and (C := Tryz.checked) (X := fun w _ => laidMetH Tryz.prog Rows.fnExactMirrorOkRow.laid w) (fun _ _ _ hh h => h.of_heap hh) own started (by kernel_rfl) Tryz.func7
    (ChangeSpec.witness_shaped (enc := enc) (C := Tryz.checked) (os := os) (X := fun w _ => laidMetH Tryz.prog Rows.fnExactMirrorOkRow.laid w) false (World.doorLaid Tryz.prog 400 os) #[.agg #[.int .i64 0, .slice none 0 0, .int .i64 0, .string ⟨#[]⟩, .slice none 0 0, .int .i64 0, .int .i64 0, .string ⟨#[]⟩], .slice none 0 0] 8 rfl (World.shaped_of_RefB (by kernel_rfl) (by kernel_rfl)) (by kernel_rfl) (by kernel_rfl) (by kernel_rfl) (door_met os _)) ?_
  intro W base args ds gs before hval0 hW hcnd _ hL _
  have hval : ∀ (j : Nat) t v, Tryz.f7.params[j]? = some t → args[j]? = some v → Value.okWide Tryz.prog W .any base t v := hval0
  have hW' := hW
  obtain ⟨p, q, hA0, hV, rfl, hfz, hnd⟩ := hW
  have hA : DataW.TrodAll enc Tryz.prog W 0 (fun _ => true) true Tryz.f7.params.toList args.toList ds p := hA0
  rw [Tryz.params7] at hA hval
  obtain ⟨v0, vs0, d0, ds0, p0, q0, hargs, rfl, rfl, h0, r0⟩ := trodAll_cons hA
  obtain ⟨v1, vs1, d1, ds1, p1, q1, rfl, rfl, rfl, h1, r1⟩ := trodAll_cons r0
  obtain ⟨rfl, rfl, rfl⟩ := trodAll_nil r1
  obtain rfl : args = #[v0, v1] := by cases args; simp_all
  have hV' := hV
  have hgl := Is.vars_len _ _ _ hV
  obtain ⟨gq0, gq1, gq2, rfl⟩ : ∃ gq0 gq1 gq2, gs = [gq0, gq1, gq2] := by
    match gs, hgl with
    | [gq0, gq1, gq2], _ => exact ⟨_, _, _, rfl⟩
  have k0 := h0
  have lt0 : ∀ x ∈ p0, x.block < W.heap.size := by obtain ⟨m, hm⟩ := k0; exact DataW.trod_lt m _ _ _ hm
  obtain ⟨cs0, rfl, hsz0⟩ := okWide_struct Tryz.underlying63 (hval 0 63 v0 rfl rfl)
  obtain ⟨i0, n0, ao0, mm0, cap0, l0, bo0, bm0, bap0, b0, s0, g0, e0, o0, og0, m0, y0, t0, mb0, yb0, tb0, ws0, wi0⟩ : ∃ (id : Int) (n : He.Hd) (ao : Option Addr) (mm cap : Nat) (l : List ByteArray) (ao2 : Option Addr) (mm2 cap2 : Nat) (b : List Int) (s : Int) (g : He.Hd), cs0 = #[.int .i64 id, .slice ao mm cap, .int .i64 n.n, .string n.r, .slice ao2 mm2 cap2, .int .i64 s, .int .i64 g.n, .string g.r] ∧ Open.Okh n ∧ Open.Okh g ∧ l.length ≤ maxLen ∧ (∀ s ∈ l, s.size ≤ maxLen) ∧ Mem.Sl W (.slice ao mm cap) (Mem.ss l) ∧ b.length ≤ maxLen ∧ Mem.Byt b ∧ Mem.Sl W (.slice ao2 mm2 cap2) (Mem.bs b) ∧ (Lit.int .i64 s).wf = true ∧ (Lit.int .i64 id).wf = true := by
    obtain ⟨fuel, hf⟩ := h0
    obtain ⟨id, n, ao, m, cap, l, ao2, m2, cap2, b, s, g, e, hrest⟩ := Open.read_mirror hf
    exact ⟨id, n, ao, m, cap, l, ao2, m2, cap2, b, s, g, by cases cs0; simpa [Value.cells] using e, hrest⟩
  subst e0
  have k1 := h1
  have lt1 : ∀ x ∈ p1, x.block < W.heap.size := by obtain ⟨m, hm⟩ := k1; exact DataW.trod_lt m _ _ _ hm
  obtain ⟨a1, len1, cap1, rfl⟩ := okWide_slice Tryz.underlying64 (hval 1 64 v1 rfl rfl)
  obtain ⟨l1, t1, y1, m1⟩ : ∃ l : List He.Hd, He.Sh W (.slice a1 len1 cap1) l ∧ (∀ n ∈ l, Open.Okh n) ∧ l.length ≤ maxLen := by
    obtain ⟨fuel, hf⟩ := h1
    obtain ⟨ao, m, cap, l, e, hm, hm2, ho, hs⟩ := Open.read_heads hf
    simp [Value.cells] at e
    obtain ⟨rfl, rfl, rfl⟩ := e
    exact ⟨l, hs, ho, hm2⟩
  clear hA0 hval0
  refine (walk W (glob hL) (sents hL) n0 _ _ l0 b0 s0 i0 g0 _ l1 o0 og0 t0 y0 m0 tb0 yb0 mb0 ws0 wi0 t1 y1 m1).mono fun e W' ⟨he, bel⟩ => ?_
  subst he
  exact ⟨_, rfl, _, _, _, [], _, _, hW', trodAll_mk1 (shut_bool Tryz.underlying4 _), (trodAll_cons_mk (Below.trod laidOut (by kernel_rfl) (of_decide_eq_true (by kernel_rfl)) k0 bel lt0) (trodAll_cons_mk (Below.trod laidOut (by kernel_rfl) (of_decide_eq_true (by kernel_rfl)) k1 bel lt1) trodAll_mk0)), Below.trodVars laidOut bel (by kernel_rfl) hV', bel.frame _, fun h => by cases h⟩

theorem over : Rows.fnExactMirrorOkRow.holds Tryz.pinned (OpenSpec.ofChange Rows.fnExactMirrorOkSpec) :=
  OpenClaim.holds_of_wide 7 Tryz.f7 rfl rfl rfl rfl rfl rfl rfl ⟨rfl, rfl, rfl, rfl, rfl⟩ rfl rfl rfl rfl rfl (by kernel_rfl) Tryz.func7 (by kernel_rfl)
    (of_decide_eq_true (by kernel_rfl)) (by unfold Func.isWrapper; first | (rw [if_pos (by decide +kernel)]; kernel_rfl) | (rw [if_neg (by decide +kernel)]; exact ⟨rfl, rfl⟩))
    (fun os started H enc _ => lifted os started H enc)

theorem plain (f : FuncId) (fn : Func) (hf : Tryz.pinned.checked.prog.funcNamed "loop.example/g00233/laws.FnExactMirrorOk" = some f) (hfn : Tryz.pinned.checked.prog.funcs[f]? = some fn) :
    true = Tryz.pinned.checked.prog.looks [] ∧ ∀ (j : Nat) t, fn.params[j]? = some t → Tryz.pinned.checked.prog.wantsStandIn t = false := by
  obtain rfl : f = 7 := Option.some.inj ((show Tryz.prog.funcNamed "loop.example/g00233/laws.FnExactMirrorOk" = some 7 by kernel_rfl).symm.trans hf) |>.symm
  obtain rfl : fn = Tryz.f7 := (Option.some.inj (Tryz.func7.symm.trans hfn)).symm
  refine ⟨by kernel_rfl, fun j t ht => ?_⟩
  rw [Tryz.params7] at ht
  have hm : t ∈ [63, 64] := by simpa using Array.mem_of_getElem? ht
  have hall : ([63, 64].all fun u => !Tryz.prog.wantsStandIn u) = true := by kernel_rfl
  exact (show Tryz.prog.wantsStandIn t = false by simpa using List.all_eq_true.1 hall t hm)

end Go.Proofs.YtchonoonclllbaaGreatDoor.fnExactMirrorOk
namespace Go.Proofs.YtchonoonclllbaaGreatDoor
theorem fnExactMirrorOk_holds : Rows.FnExactMirrorOkCardSaid :=
  Claim7.holds_tied_plain_at .later [] _ _ _ _ fnExactMirrorOk.over (fun _ h => by cases h) (by kernel_rfl) (fun _ h => by cases h) fnExactMirrorOk_row_tie rfl ⟨rfl, rfl⟩ (by kernel_rfl) rfl fnExactMirrorOk.plain (by kernel_rfl)
end Go.Proofs.YtchonoonclllbaaGreatDoor
