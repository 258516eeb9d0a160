/- For every input the law 'FnHeard' returns true and leaves its arguments as they were: proved of the card: the program's two tables of words, and its errors made by errors.New that the row lists, stand when the call begins as the program's text lays them (tied by the given text; of other packages of the project than those loaded nothing is said); over the turned code of the commit beside it. -/
import Derived.Test.YtchonoonclllbaaGreatDoorRows
import Derived.Test.YtchonoonclllbaaGreatDoorCards
import Derived.Test.YtchonoonclllbaaGreatDoorTie
import Derived.WalkKit
import Derived.LaidMore
import Derived.Stop.Joined
import Derived.OpenVars
import Derived.Test.YtchonoonclllbaaGreatDoorPh3
import Derived.Test.YtchonoonclllbaaGreatDoorPh40
import Derived.Test.YtchonoonclllbaaGreatDoorPh27
import Derived.Test.YtchonoonclllbaaGreatDoorPh41
import Derived.Test.YtchonoonclllbaaGreatDoorPh42
import Derived.ProofKit
import Derived.OpenShut
import Derived.ShutString
import Derived.ChangeOld
import Derived.Below
import Derived.SliceStrings
namespace Go.Proofs.YtchonoonclllbaaGreatDoor.fnHeard
open Go.ChangeShapes Go.WideShapes Go.ChangeAt Go.RowKit
open Go.ChangeMaps (open_string shut_string)
set_option linter.unusedVariables false

/-- where the program's errors lie -/
def Sents (w : World) : Prop := ∃ ea0 ea1 ea2 ea3 ea4 : Addr, Is.At w 1 ea0 ∧ Is.At w 2 ea1 ∧ Is.At w 3 ea2 ∧ Is.At w 4 ea3 ∧ Is.At w 6 ea4 ∧ ea0 ≠ ea1 ∧ ea0 ≠ ea2 ∧ ea0 ≠ ea3 ∧ ea0 ≠ ea4 ∧ ea1 ≠ ea2 ∧ ea1 ≠ ea3 ∧ ea1 ≠ ea4 ∧ ea2 ≠ ea3 ∧ ea2 ≠ ea4 ∧ ea3 ≠ ea4
theorem gna0 : Tryz.prog.globalNamed "loop.example/g00233/impl.errForm" = some 1 := by kernel_rfl
theorem gta0 : (Tryz.prog.globals[1]?).map (·.type) = some 173 := by kernel_rfl
theorem gna1 : Tryz.prog.globalNamed "loop.example/g00233/impl.errUnsigned" = some 2 := by kernel_rfl
theorem gta1 : (Tryz.prog.globals[2]?).map (·.type) = some 173 := by kernel_rfl
theorem gna2 : Tryz.prog.globalNamed "loop.example/g00233/impl.errBack" = some 3 := by kernel_rfl
theorem gta2 : (Tryz.prog.globals[3]?).map (·.type) = some 173 := by kernel_rfl
theorem gna3 : Tryz.prog.globalNamed "loop.example/g00233/impl.errRoot" = some 4 := by kernel_rfl
theorem gta3 : (Tryz.prog.globals[4]?).map (·.type) = some 173 := by kernel_rfl
theorem gna4 : Tryz.prog.globalNamed "loop.example/g00233/impl.errNoCommit" = some 6 := by kernel_rfl
theorem gta4 : (Tryz.prog.globals[6]?).map (·.type) = some 173 := by kernel_rfl
theorem own : ownKnob Tryz.prog.godebug = none := by kernel_rfl
theorem laidOut : laidOutB Tryz.prog = true := by kernel_rfl

set_option maxRecDepth 1000000 in
set_option maxHeartbeats 4000000 in
theorem walk (w : World) (hG : Sha.Glob w) (hE : Sents w) (v0 : Value) (xs0 : List Int) (h0 : Mem.Sl w v0 (Mem.bs xs0)) (y0 : Mem.Byt xs0) (m0 : xs0.length ≤ maxLen) :
    Calls Tryz.prog 3 #[v0] w fun e w' => e = .returned (.bool true) ∧ Below w.heap.size w w' := by
  obtain ⟨e0, e1, e2, e3, e4, ga0, ga1, ga2, ga3, ga4, n01, n02, n03, n04, n12, n13, n14, n23, n24, n34⟩ := hE
  have hF : Is.Four w e0 e1 e2 e3 := ⟨ga0, ga1, ga2, ga3, n01, n02, n03, n12, n13, n23⟩
  have hN : Sr.NoC w := ⟨_, ga4⟩
  exact Mi.heard w v0 xs0 h0 y0 m0 hG hN hF

theorem glob {W : World} (h : laidMetH Tryz.prog Rows.fnHeardRow.laid W) : Sha.Glob W := by
  rw [MakeChecks.laidMetH_plain _ _ _ (by kernel_rfl)] at h
  have h2 := laidMet.filter (fun p => p.1 == "loop.example/g00233/impl.rootWords" || p.1 == "loop.example/g00233/impl.roundWords") h
  have e : (Rows.fnHeardRow.laid).filter (fun p => p.1 == "loop.example/g00233/impl.rootWords" || p.1 == "loop.example/g00233/impl.roundWords") = [("loop.example/g00233/impl.rootWords", Rows.laid_loop_example_g00233_impl_rootWords), ("loop.example/g00233/impl.roundWords", Rows.laid_loop_example_g00233_impl_roundWords)] := by kernel_rfl
  rw [e] at h2
  exact Sha.glob_of h2
theorem sents {W : World} (h : laidMetH Tryz.prog Rows.fnHeardRow.laid W) : Sents W := by
  rw [MakeChecks.laidMetH_plain _ _ _ (by kernel_rfl)] at h
  obtain ⟨p0_1, q0_1, hp0_1, hq0_1, hn0_1⟩ := Is.two (x0 := [116, 104, 101, 32, 108, 111, 103, 44, 32, 116, 104, 101, 32, 104, 101, 97, 100, 44, 32, 111, 114, 32, 104, 111, 119, 32, 109, 97, 110, 121, 32, 116, 101, 120, 116, 115, 32, 116, 104, 101, 114, 101, 32, 97, 114, 101, 32, 105, 115, 32, 110, 111, 116, 32, 114, 105, 103, 104, 116]) (x1 := [116, 104, 101, 32, 104, 101, 97, 100, 32, 119, 97, 115, 32, 110, 111, 116, 32, 115, 105, 103, 110, 101, 100]) (by have h2 := laidMet.filter (fun p => p.1 == "loop.example/g00233/impl.errForm" || p.1 == "loop.example/g00233/impl.errUnsigned") h; exact h2) gna0 gta0 gna1 gta1
  obtain ⟨p0_2, q0_2, hp0_2, hq0_2, hn0_2⟩ := Is.two (x0 := [116, 104, 101, 32, 108, 111, 103, 44, 32, 116, 104, 101, 32, 104, 101, 97, 100, 44, 32, 111, 114, 32, 104, 111, 119, 32, 109, 97, 110, 121, 32, 116, 101, 120, 116, 115, 32, 116, 104, 101, 114, 101, 32, 97, 114, 101, 32, 105, 115, 32, 110, 111, 116, 32, 114, 105, 103, 104, 116]) (x1 := [116, 104, 101, 114, 101, 32, 97, 114, 101, 32, 110, 111, 32, 116, 101, 120, 116, 115]) (by have h2 := laidMet.filter (fun p => p.1 == "loop.example/g00233/impl.errForm" || p.1 == "loop.example/g00233/impl.errBack") h; exact h2) gna0 gta0 gna2 gta2
  obtain rfl := Is.At.same hp0_1 hp0_2
  obtain ⟨p0_3, q0_3, hp0_3, hq0_3, hn0_3⟩ := Is.two (x0 := [116, 104, 101, 32, 108, 111, 103, 44, 32, 116, 104, 101, 32, 104, 101, 97, 100, 44, 32, 111, 114, 32, 104, 111, 119, 32, 109, 97, 110, 121, 32, 116, 101, 120, 116, 115, 32, 116, 104, 101, 114, 101, 32, 97, 114, 101, 32, 105, 115, 32, 110, 111, 116, 32, 114, 105, 103, 104, 116]) (x1 := [116, 104, 101, 32, 104, 101, 97, 100, 32, 105, 115, 32, 116, 104, 97, 116, 32, 111, 102, 32, 111, 116, 104, 101, 114, 32, 116, 101, 120, 116, 115]) (by have h2 := laidMet.filter (fun p => p.1 == "loop.example/g00233/impl.errForm" || p.1 == "loop.example/g00233/impl.errRoot") h; exact h2) gna0 gta0 gna3 gta3
  obtain rfl := Is.At.same hp0_1 hp0_3
  obtain ⟨p0_4, q0_4, hp0_4, hq0_4, hn0_4⟩ := Is.two (x0 := [116, 104, 101, 32, 108, 111, 103, 44, 32, 116, 104, 101, 32, 104, 101, 97, 100, 44, 32, 111, 114, 32, 104, 111, 119, 32, 109, 97, 110, 121, 32, 116, 101, 120, 116, 115, 32, 116, 104, 101, 114, 101, 32, 97, 114, 101, 32, 105, 115, 32, 110, 111, 116, 32, 114, 105, 103, 104, 116]) (x1 := [116, 104, 101, 115, 101, 32, 98, 121, 116, 101, 115, 32, 97, 114, 101, 32, 110, 111, 32, 99, 111, 109, 109, 105, 116]) (by have h2 := laidMet.filter (fun p => p.1 == "loop.example/g00233/impl.errForm" || p.1 == "loop.example/g00233/impl.errNoCommit") h; exact h2) gna0 gta0 gna4 gta4
  obtain rfl := Is.At.same hp0_1 hp0_4
  obtain ⟨p1_2, q1_2, hp1_2, hq1_2, hn1_2⟩ := Is.two (x0 := [116, 104, 101, 32, 104, 101, 97, 100, 32, 119, 97, 115, 32, 110, 111, 116, 32, 115, 105, 103, 110, 101, 100]) (x1 := [116, 104, 101, 114, 101, 32, 97, 114, 101, 32, 110, 111, 32, 116, 101, 120, 116, 115]) (by have h2 := laidMet.filter (fun p => p.1 == "loop.example/g00233/impl.errUnsigned" || p.1 == "loop.example/g00233/impl.errBack") h; exact h2) gna1 gta1 gna2 gta2
  obtain rfl := Is.At.same hq0_1 hp1_2
  obtain rfl := Is.At.same hq0_2 hq1_2
  obtain ⟨p1_3, q1_3, hp1_3, hq1_3, hn1_3⟩ := Is.two (x0 := [116, 104, 101, 32, 104, 101, 97, 100, 32, 119, 97, 115, 32, 110, 111, 116, 32, 115, 105, 103, 110, 101, 100]) (x1 := [116, 104, 101, 32, 104, 101, 97, 100, 32, 105, 115, 32, 116, 104, 97, 116, 32, 111, 102, 32, 111, 116, 104, 101, 114, 32, 116, 101, 120, 116, 115]) (by have h2 := laidMet.filter (fun p => p.1 == "loop.example/g00233/impl.errUnsigned" || p.1 == "loop.example/g00233/impl.errRoot") h; exact h2) gna1 gta1 gna3 gta3
  obtain rfl := Is.At.same hq0_1 hp1_3
  obtain rfl := Is.At.same hq0_3 hq1_3
  obtain ⟨p1_4, q1_4, hp1_4, hq1_4, hn1_4⟩ := Is.two (x0 := [116, 104, 101, 32, 104, 101, 97, 100, 32, 119, 97, 115, 32, 110, 111, 116, 32, 115, 105, 103, 110, 101, 100]) (x1 := [116, 104, 101, 115, 101, 32, 98, 121, 116, 101, 115, 32, 97, 114, 101, 32, 110, 111, 32, 99, 111, 109, 109, 105, 116]) (by have h2 := laidMet.filter (fun p => p.1 == "loop.example/g00233/impl.errUnsigned" || p.1 == "loop.example/g00233/impl.errNoCommit") h; exact h2) gna1 gta1 gna4 gta4
  obtain rfl := Is.At.same hq0_1 hp1_4
  obtain rfl := Is.At.same hq0_4 hq1_4
  obtain ⟨p2_3, q2_3, hp2_3, hq2_3, hn2_3⟩ := Is.two (x0 := [116, 104, 101, 114, 101, 32, 97, 114, 101, 32, 110, 111, 32, 116, 101, 120, 116, 115]) (x1 := [116, 104, 101, 32, 104, 101, 97, 100, 32, 105, 115, 32, 116, 104, 97, 116, 32, 111, 102, 32, 111, 116, 104, 101, 114, 32, 116, 101, 120, 116, 115]) (by have h2 := laidMet.filter (fun p => p.1 == "loop.example/g00233/impl.errBack" || p.1 == "loop.example/g00233/impl.errRoot") h; exact h2) gna2 gta2 gna3 gta3
  obtain rfl := Is.At.same hq0_2 hp2_3
  obtain rfl := Is.At.same hq0_3 hq2_3
  obtain ⟨p2_4, q2_4, hp2_4, hq2_4, hn2_4⟩ := Is.two (x0 := [116, 104, 101, 114, 101, 32, 97, 114, 101, 32, 110, 111, 32, 116, 101, 120, 116, 115]) (x1 := [116, 104, 101, 115, 101, 32, 98, 121, 116, 101, 115, 32, 97, 114, 101, 32, 110, 111, 32, 99, 111, 109, 109, 105, 116]) (by have h2 := laidMet.filter (fun p => p.1 == "loop.example/g00233/impl.errBack" || p.1 == "loop.example/g00233/impl.errNoCommit") h; exact h2) gna2 gta2 gna4 gta4
  obtain rfl := Is.At.same hq0_2 hp2_4
  obtain rfl := Is.At.same hq0_4 hq2_4
  obtain ⟨p3_4, q3_4, hp3_4, hq3_4, hn3_4⟩ := Is.two (x0 := [116, 104, 101, 32, 104, 101, 97, 100, 32, 105, 115, 32, 116, 104, 97, 116, 32, 111, 102, 32, 111, 116, 104, 101, 114, 32, 116, 101, 120, 116, 115]) (x1 := [116, 104, 101, 115, 101, 32, 98, 121, 116, 101, 115, 32, 97, 114, 101, 32, 110, 111, 32, 99, 111, 109, 109, 105, 116]) (by have h2 := laidMet.filter (fun p => p.1 == "loop.example/g00233/impl.errRoot" || p.1 == "loop.example/g00233/impl.errNoCommit") h; exact h2) gna3 gta3 gna4 gta4
  obtain rfl := Is.At.same hq0_3 hp3_4
  obtain rfl := Is.At.same hq0_4 hq3_4
  exact ⟨p0_1, q0_1, q0_2, q0_3, q0_4, hp0_1, hq0_1, hq0_2, hq0_3, hq0_4, hn0_1, hn0_2, hn0_3, hn0_4, hn1_2, hn1_3, hn1_4, hn2_3, hn2_4, hn3_4⟩

theorem door_met (os : Os) (args : Array Value) : laidMetH Tryz.prog Rows.fnHeardRow.laid ((World.doorLaid Tryz.prog 400 os).forCall (fun _ _ => 0) ⟨#[], args, []⟩).memory :=
  laidMetH_of_parts3 (fuel := 8) (laidMet_of_run' 8 (by kernel_rfl) (by kernel_rfl)) (by kernel_rfl) (by kernel_rfl)

set_option maxRecDepth 100000 in
theorem lifted (os : Os) (started : os.Started) (H : Type) (enc : TypeId × Value → H) :
    ReturnsInHanded {} Tryz.checked os 3 .any (fun w args => (Rows.fnHeardSpec.pre enc Tryz.prog Tryz.f3 Rows.fnHeardRow.domain false w args ∧ laidMetH Tryz.prog Rows.fnHeardRow.laid w) ∧ sizedMet enc Tryz.prog Tryz.f3 (OpenSpec.ofChange Rows.fnHeardSpec) false w args) (Rows.fnHeardSpec.post enc Tryz.prog Tryz.f3 false true false false) := by
  refine returnsInHanded_of_change_and (C := Tryz.checked) (X := fun w _ => laidMetH Tryz.prog Rows.fnHeardRow.laid w) (fun _ _ _ hh h => h.of_heap hh) own started (by kernel_rfl) Tryz.func3
    (ChangeSpec.witness_shaped (enc := enc) (C := Tryz.checked) (os := os) (X := fun w _ => laidMetH Tryz.prog Rows.fnHeardRow.laid w) false (World.doorLaid Tryz.prog 400 os) #[.slice none 0 0] 8 rfl (World.shaped_of_RefB (by kernel_rfl) (by kernel_rfl)) (by kernel_rfl) (by kernel_rfl) (by kernel_rfl) (door_met os _)) ?_
  intro W base args ds gs before hval0 hW hcnd _ hL _
  have hval : ∀ (j : Nat) t v, Tryz.f3.params[j]? = some t → args[j]? = some v → Value.okWide Tryz.prog W .any base t v := hval0
  have hW' := hW
  obtain ⟨p, q, hA0, hV, rfl, hfz, hnd⟩ := hW
  have hA : DataW.TrodAll enc Tryz.prog W 0 (fun _ => true) true Tryz.f3.params.toList args.toList ds p := hA0
  rw [Tryz.params3] at hA hval
  obtain ⟨v0, vs0, d0, ds0, p0, q0, hargs, rfl, rfl, h0, r0⟩ := trodAll_cons hA
  obtain ⟨rfl, rfl, rfl⟩ := trodAll_nil r0
  obtain rfl : args = #[v0] := by cases args; simp_all
  have hV' := hV
  have hgl := Is.vars_len _ _ _ hV
  obtain ⟨gq0, gq1, gq2, gq3, gq4, gq5, gq6, rfl⟩ : ∃ gq0 gq1 gq2 gq3 gq4 gq5 gq6, gs = [gq0, gq1, gq2, gq3, gq4, gq5, gq6] := by
    match gs, hgl with
    | [gq0, gq1, gq2, gq3, gq4, gq5, gq6], _ => exact ⟨_, _, _, _, _, _, _, rfl⟩
  obtain ⟨a0, len0, cap0, rfl⟩ := okWide_slice Tryz.underlying22 (hval 0 22 v0 rfl rfl)
  have k0 := h0
  have lt0 : ∀ x ∈ p0, x.block < W.heap.size := by obtain ⟨m, hm⟩ := k0; exact DataW.trod_lt m _ _ _ hm
  obtain ⟨xs0, t0, y0, m0⟩ : ∃ xs, Mem.Sl W (.slice a0 len0 cap0) (Mem.bs xs) ∧ Mem.Byt xs ∧ xs.length ≤ maxLen := by
    obtain ⟨fuel, hf⟩ := h0
    rcases open_ints Tryz.underlying22 Tryz.underlying5 (by kernel_rfl) hf with ⟨hcs, _⟩ | ⟨x, l, c, zs, hcs, _, hl, hm, hz, _, hcell, hwz⟩
    · simp [Value.cells] at hcs
      obtain ⟨rfl, rfl, rfl⟩ := hcs
      obtain ⟨xs, hs, _, hy⟩ := RowSl.row_sl (w := W) (a := none) (len := 0) (cap := 0) (zs := []) (.inl ⟨rfl, rfl, rfl, rfl⟩)
      exact ⟨xs, hs, hy, by have h0 : xs.length = 0 := (by omega); rw [h0]; exact Nat.zero_le _⟩
    · simp [Value.cells] at hcs
      obtain ⟨rfl, rfl, rfl⟩ := hcs
      obtain ⟨xs, hs, he, hy⟩ := RowSl.row_sl (w := W) (.inr ⟨_, rfl, hl, hm, by simpa using hz, hcell, hwz⟩)
      exact ⟨xs, hs, hy, by rw [← he]; exact Nat.le_trans hl hm⟩
  clear hA0 hval0
  refine (walk W (glob hL) (sents hL) _ xs0 t0 y0 m0).mono fun e W' ⟨he, bel⟩ => ?_
  subst he
  exact ⟨_, rfl, _, _, _, [], _, _, hW', trodAll_mk1 (shut_bool Tryz.underlying4 _), (trodAll_cons_mk (Below.trod laidOut (by kernel_rfl) (of_decide_eq_true (by kernel_rfl)) k0 bel lt0) trodAll_mk0), Below.trodVars laidOut bel (by kernel_rfl) hV', bel.frame _, fun h => by cases h⟩

theorem over : Rows.fnHeardRow.holds Tryz.pinned (OpenSpec.ofChange Rows.fnHeardSpec) :=
  OpenClaim.holds_of_wide 3 Tryz.f3 rfl rfl rfl rfl rfl rfl rfl ⟨rfl, rfl, rfl, rfl, rfl⟩ rfl rfl rfl rfl rfl (by kernel_rfl) Tryz.func3 (by kernel_rfl)
    (of_decide_eq_true (by kernel_rfl)) (by unfold Func.isWrapper; first | (rw [if_pos (by decide +kernel)]; kernel_rfl) | (rw [if_neg (by decide +kernel)]; exact ⟨rfl, rfl⟩))
    (fun os started H enc _ => lifted os started H enc)

theorem plain (f : FuncId) (fn : Func) (hf : Tryz.pinned.checked.prog.funcNamed "loop.example/g00233/laws.FnHeard" = some f) (hfn : Tryz.pinned.checked.prog.funcs[f]? = some fn) :
    true = Tryz.pinned.checked.prog.looks [] ∧ ∀ (j : Nat) t, fn.params[j]? = some t → Tryz.pinned.checked.prog.wantsStandIn t = false := by
  obtain rfl : f = 3 := Option.some.inj ((show Tryz.prog.funcNamed "loop.example/g00233/laws.FnHeard" = some 3 by kernel_rfl).symm.trans hf) |>.symm
  obtain rfl : fn = Tryz.f3 := (Option.some.inj (Tryz.func3.symm.trans hfn)).symm
  refine ⟨by kernel_rfl, fun j t ht => ?_⟩
  rw [Tryz.params3] at ht
  have hm : t ∈ [22] := by simpa using Array.mem_of_getElem? ht
  have hall : ([22].all fun u => !Tryz.prog.wantsStandIn u) = true := by kernel_rfl
  exact (show Tryz.prog.wantsStandIn t = false by simpa using List.all_eq_true.1 hall t hm)

end Go.Proofs.YtchonoonclllbaaGreatDoor.fnHeard
namespace Go.Proofs.YtchonoonclllbaaGreatDoor
theorem fnHeard_holds : Rows.FnHeardCardSaid :=
  Claim7.holds_tied_plain_at .later [] _ _ _ _ fnHeard.over (fun _ h => by cases h) (by kernel_rfl) (fun _ h => by cases h) fnHeard_row_tie rfl ⟨rfl, rfl⟩ (by kernel_rfl) rfl fnHeard.plain (by kernel_rfl)
end Go.Proofs.YtchonoonclllbaaGreatDoor
