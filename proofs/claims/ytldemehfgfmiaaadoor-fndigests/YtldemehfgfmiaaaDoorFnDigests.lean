/- For every input the law 'FnDigests' returns true and leaves its arguments as they were: proved of the card: the program's two tables of words stand when the call begins as the program's text lays them (tied by the given text; of other packages of the project than those loaded nothing is said); over the turned code of the commit beside it. -/
import Derived.Test.YtldemehfgfmiaaaDoorRows
import Derived.Test.YtldemehfgfmiaaaDoorCards
import Derived.Test.YtldemehfgfmiaaaDoorTie
import Derived.WalkKit
import Derived.LaidMore
import Derived.Stop.Joined
import Derived.OpenVars
import Derived.Test.YtldemehfgfmiaaaDoorBytes
import Derived.Test.YtldemehfgfmiaaaDoorSha5
import Derived.Test.YtldemehfgfmiaaaDoorShaI
import Derived.Test.YtldemehfgfmiaaaDoorShaG
import Derived.Test.YtldemehfgfmiaaaDoorDraw2
import Derived.Test.YtldemehfgfmiaaaDoorRowSl
import Derived.ProofKit
import Derived.OpenShut
import Derived.ShutString
import Derived.ChangeOld
import Derived.Below
import Derived.SliceStrings
namespace Go.Proofs.YtldemehfgfmiaaaDoor.fnDigests
open Go.ChangeShapes Go.WideShapes Go.ChangeAt Go.RowKit
open Go.ChangeMaps (open_string shut_string)
set_option linter.unusedVariables false

theorem own : ownKnob Tryd.prog.godebug = none := by kernel_rfl
theorem laidOut : laidOutB Tryd.prog = true := by kernel_rfl

set_option maxRecDepth 1000000 in
set_option maxHeartbeats 4000000 in
theorem walk (w : World) (hG : Sha.Glob w) (v0 : Value) (xs0 : List Int) (h0 : Mem.Sl w v0 (Mem.bs xs0)) (y0 : Mem.Byt xs0) (m0 : xs0.length ≤ maxLen) :
    Calls Tryd.prog 3 #[v0] w fun e w' => e = .returned (.bool true) ∧ Below w.heap.size w w' := by
  have hs := h0
  obtain ⟨ao0, cap0, rfl, -, -, -⟩ := h0
  rw [Mem.bs_len] at hs ⊢
  have hby := y0
  clear m0 y0
  by_cases hbig : 1048576 < xs0.length
  · go_enter Tryd.func3, Tryd.ntmps3
    go_wp2_with (go_at_call 4; refine (Draw.big_yes _ _ _ _ hbig).mono ?_; rintro e w1 ⟨rfl, rfl⟩)
    go_ret
    exact ⟨rfl, Below.refl _ _⟩
  · go_enter Tryd.func3, Tryd.ntmps3
    go_wp2_with fail
    refine (Draw.big_no _ _ _ _ hbig).mono ?_
    rintro e w1 ⟨rfl, rfl⟩
    go_wp2_with fail
    refine (Draw.padded_d w _ xs0 hs hby (by omega)).mono ?_
    rintro e W1 ⟨vb, ys, rfl, hyl, hyb, ob1, b1⟩
    go_wp2_with fail
    refine (Sha.padded_impl W1 _ ys ob1.sl (by omega)).mono ?_
    rintro e W2 ⟨vp, rfl, op2, b2⟩
    have hB2 : Below w.heap.size w W2 := b1.trans (b2.mono b1.size)
    have ob2 := ob1.later b2 (Nat.le_refl _)
    obtain ⟨P, hP⟩ : ∃ P, P = Sha.padded ys := ⟨_, rfl⟩
    have hP1 := Sha.padded_len ys
    have hP2 := Sha.padded_ge ys
    have hP3 := Sha.padded_at ys
    have hP4 := Sha.padded_pre ys
    have hP5 := Sha.padded_le ys
    rw [← hP] at hP1 hP2 hP3 hP4 hP5 op2
    clear hP
    have slb := ob2.sl
    obtain ⟨gp, capp, rfl, hgp1, hgp2, hcapp, hcp⟩ := Sha.Own.form op2 (by rw [Mem.bs_len]; omega)
    obtain ⟨aob, capb, rfl, hcb, hnb, hrb⟩ := ob2.sl
    rw [Mem.bs_len] at hcapp hcb hrb slb
    rw [Mem.bs_len, Mem.bs_len]
    have k128 : W2.cell? ⟨gp, ys.length, none⟩ = some (.int .u8 128) := by
      rw [hcp ys.length (by rw [Mem.bs_len]; omega), Mem.bs_get, hP3]; rfl
    have t1 : ((P.length : Int) % 64 != 0) = false := by simp only [bne_eq_false_iff_eq]; omega
    have t2 : decide ((P.length : Int) < (ys.length : Int) + 9) = false := by simp only [decide_eq_false_iff_not]; omega
    have hcellp : ∀ j c, ys[j]? = some c → W2.cell? ⟨gp, j, none⟩ = some (.int .u8 c) := by
      intro j c hj
      have hlt : j < ys.length := (List.getElem?_eq_some_iff.1 hj).1
      rw [hcp j (by rw [Mem.bs_len]; omega), Mem.bs_get, hP4 j hlt, hj]; rfl
    have hd := Sha.digest_len ys
    have hdb := Sha.digest_byt ys
    clear hP1 hP3 hP4 hP5 hcp op2 ob1 ob2 hnb
    go_wp2
    go_loopw [5] (fun i wr => ∃ k n : Nat, k ≤ ys.length ∧ i = .int .i64 (k : Int) ∧ wr = W2.drewN n) (fun i _ => ys.length - (intOf i).toNat)
    case atStart => exact ⟨0, 0, Nat.zero_le _, rfl, rfl⟩
    case round =>
      obtain ⟨k, n, hk, rfl, rfl⟩ := hrel
      by_cases hlt : k < ys.length
      · obtain ⟨b, off, c, rfl, hx0, hcell⟩ := Mem.Sl.byteAt hrb rfl hlt
        have kp := hcellp k c hx0
        have hlp : (k : Int) < (P.length : Int) := by omega
        clear hx0 hcellp hrb k128 slb
        go_wp2
        go_quiet (fail)
        go_wp2
        go_roundw
        case rel => exact ⟨k + 1, n + nq, by omega, by go_num, rfl⟩
        case measure => simp [intOf]; omega
      · obtain ⟨W3, hW3⟩ : ∃ z, z = W2.drewN n := ⟨_, rfl⟩
        have hB3 : Below w.heap.size w W3 := by rw [hW3]; exact below_drewN hB2 n
        have sl3 : Mem.Sl W3 (.slice aob ys.length capb) (Mem.bs ys) := by rw [hW3]; exact slb
        obtain ⟨D, hD⟩ : ∃ D, D = Plain.txt (Sha.digest ys) := ⟨_, rfl⟩
        have hDs : D.size = 32 := by rw [hD, Sha.txt_size, hd]
        have hDh : Plain.txt (Sha.hexs (Laws.sb D)) = Plain.txt (Sha.hexs (Sha.digest ys)) := by rw [hD, Sha.sb_txt hdb]
        have hDu : Sha.unHex (Plain.txt (Sha.hexs (Laws.sb D))) = (D, true) := by rw [hDh, Sha.unHex_back hdb, hD]
        obtain ⟨X, hX⟩ : ∃ X, X = Plain.txt (Sha.hexs (Laws.sb D)) := ⟨_, rfl⟩
        have hXs : X.size = 64 := by rw [hX, Sha.txt_size, Sha.hexs_len, Laws.sb_len, hDs]
        have p1 := Sha.digest_impl W3 _ ys (hG.later hB3) sl3 hyb (by omega)
        have p2 : ∀ z, _ := fun z => Sha.hex_impl z D (by omega)
        have p3 : ∀ z, _ := fun z => Sha.unhex_impl z X (by omega)
        rw [← hX] at hDu
        rw [← hD] at p1
        simp only [← hX] at p2
        simp only [hDu] at p3
        rw [← hW3]
        have HD : Hid (D = Plain.txt (Sha.digest ys)) := hD
        have e1 : ((D.size : Int) == 32) = true := by rw [hDs]; rfl
        have e2 : ((X.size : Int) == 64) = true := by rw [hXs]; rfl
        clear hW3 hDh hDu hrb k128 hcellp slb hD hX hDs hXs hd
        go_wp2_with fail
        refine p1.mono ?_
        rintro e W4 ⟨rfl, b4⟩
        go_wp2_with fail
        refine (p2 W4).mono ?_
        rintro e W5 ⟨rfl, b5⟩
        go_wp2_with fail
        refine (p3 W5).mono ?_
        rintro e W6 ⟨rfl, b6⟩
        have hB4 : Below w.heap.size w W4 := hB3.trans (b4.mono hB3.size)
        have hB5 : Below w.heap.size w W5 := hB4.trans (b5.mono hB4.size)
        have hB6 : Below w.heap.size w W6 := hB5.trans (b6.mono hB5.size)
        have b46 : Below W3.heap.size W3 W6 := (b4.trans (b5.mono b4.size)).trans (b6.mono (Nat.le_trans b4.size b5.size))
        have p7 := Sha.digest_spec W6 _ ys (sl3.later b46) hyb (by omega)
        rw [← HD.out] at p7
        clear p1 p3 HD
        go_wp2_with fail
        refine p7.mono ?_
        rintro e W7 ⟨rfl, b7⟩
        have hB7 : Below w.heap.size w W7 := hB6.trans (b7.mono hB6.size)
        go_wp2_with fail
        refine (p2 W7).mono ?_
        rintro e W8 ⟨rfl, b8⟩
        have hB8 : Below w.heap.size w W8 := hB7.trans (b8.mono hB7.size)
        go_wp2
        go_ret
        exact ⟨rfl, hB8⟩

theorem plainLaid : Rows.fnDigestsRow.laid = [("loop.example/g00233/impl.rootWords", Rows.laid_loop_example_g00233_impl_rootWords), ("loop.example/g00233/impl.roundWords", Rows.laid_loop_example_g00233_impl_roundWords)] := rfl
theorem glob {W : World} (h : laidMetH Tryd.prog Rows.fnDigestsRow.laid W) : Sha.Glob W := by
  rw [MakeChecks.laidMetH_plain _ _ _ (by kernel_rfl), plainLaid] at h
  exact Sha.glob_of h

theorem door_met (os : Os) (args : Array Value) : laidMetH Tryd.prog Rows.fnDigestsRow.laid ((World.doorLaid Tryd.prog 400 os).forCall (fun _ _ => 0) ⟨#[], args, []⟩).memory :=
  laidMetH_of_parts3 (fuel := 8) (laidMet_of_run' 8 (by kernel_rfl) (by kernel_rfl)) (by kernel_rfl) (by kernel_rfl)

set_option maxRecDepth 100000 in
theorem lifted (os : Os) (started : os.Started) (H : Type) (enc : TypeId × Value → H) :
    ReturnsInHanded {} Tryd.checked os 3 .any (fun w args => (Rows.fnDigestsSpec.pre enc Tryd.prog Tryd.f3 Rows.fnDigestsRow.domain false w args ∧ laidMetH Tryd.prog Rows.fnDigestsRow.laid w) ∧ sizedMet enc Tryd.prog Tryd.f3 (OpenSpec.ofChange Rows.fnDigestsSpec) false w args) (Rows.fnDigestsSpec.post enc Tryd.prog Tryd.f3 false true false false) := by
  refine returnsInHanded_of_change_and (C := Tryd.checked) (X := fun w _ => laidMetH Tryd.prog Rows.fnDigestsRow.laid w) (fun _ _ _ hh h => h.of_heap hh) own started (by kernel_rfl) Tryd.func3
    (ChangeSpec.witness_shaped (enc := enc) (C := Tryd.checked) (os := os) (X := fun w _ => laidMetH Tryd.prog Rows.fnDigestsRow.laid w) false (World.doorLaid Tryd.prog 400 os) #[.slice none 0 0] 8 rfl (World.shaped_of_RefB (by kernel_rfl) (by kernel_rfl)) (by kernel_rfl) (by kernel_rfl) (by kernel_rfl) (door_met os _)) ?_
  intro W base args ds gs before hval0 hW hcnd _ hL _
  have hval : ∀ (j : Nat) t v, Tryd.f3.params[j]? = some t → args[j]? = some v → Value.okWide Tryd.prog W .any base t v := hval0
  have hW' := hW
  obtain ⟨p, q, hA0, hV, rfl, hfz, hnd⟩ := hW
  have hA : DataW.TrodAll enc Tryd.prog W 0 (fun _ => true) true Tryd.f3.params.toList args.toList ds p := hA0
  rw [Tryd.params3] at hA hval
  obtain ⟨v0, vs0, d0, ds0, p0, q0, hargs, rfl, rfl, h0, r0⟩ := trodAll_cons hA
  obtain ⟨rfl, rfl, rfl⟩ := trodAll_nil r0
  obtain rfl : args = #[v0] := by cases args; simp_all
  have hV' := hV
  obtain ⟨gA, tA, csA, fA, dA, pA, gB, tB, csB, fB, dB, pB, rfl, _, _, _, _, _, _, _, _, rfl⟩ := trodVars_two hV
  obtain ⟨a0, len0, cap0, rfl⟩ := okWide_slice Tryd.underlying22 (hval 0 22 v0 rfl rfl)
  have k0 := h0
  have lt0 : ∀ x ∈ p0, x.block < W.heap.size := by obtain ⟨m, hm⟩ := k0; exact DataW.trod_lt m _ _ _ hm
  obtain ⟨xs0, t0, y0, m0⟩ : ∃ xs, Mem.Sl W (.slice a0 len0 cap0) (Mem.bs xs) ∧ Mem.Byt xs ∧ xs.length ≤ maxLen := by
    obtain ⟨fuel, hf⟩ := h0
    rcases open_ints Tryd.underlying22 Tryd.underlying5 (by kernel_rfl) hf with ⟨hcs, _⟩ | ⟨x, l, c, zs, hcs, _, hl, hm, hz, _, hcell, hwz⟩
    · simp [Value.cells] at hcs
      obtain ⟨rfl, rfl, rfl⟩ := hcs
      obtain ⟨xs, hs, _, hy⟩ := RowSl.row_sl (w := W) (a := none) (len := 0) (cap := 0) (zs := []) (.inl ⟨rfl, rfl, rfl, rfl⟩)
      exact ⟨xs, hs, hy, by have h0 : xs.length = 0 := (by omega); rw [h0]; exact Nat.zero_le _⟩
    · simp [Value.cells] at hcs
      obtain ⟨rfl, rfl, rfl⟩ := hcs
      obtain ⟨xs, hs, he, hy⟩ := RowSl.row_sl (w := W) (.inr ⟨_, rfl, hl, hm, by simpa using hz, hcell, hwz⟩)
      exact ⟨xs, hs, hy, by rw [← he]; exact Nat.le_trans hl hm⟩
  clear hA0 hval0
  refine (walk W (glob hL) _ xs0 t0 y0 m0).mono fun e W' ⟨he, bel⟩ => ?_
  subst he
  exact ⟨_, rfl, _, _, _, [], _, _, hW', trodAll_mk1 (shut_bool Tryd.underlying4 _), (trodAll_cons_mk (Below.trod laidOut (by kernel_rfl) (of_decide_eq_true (by kernel_rfl)) k0 bel lt0) trodAll_mk0), Below.trodVars laidOut bel (by kernel_rfl) hV', bel.frame _, fun h => by cases h⟩

theorem over : Rows.fnDigestsRow.holds Tryd.pinned (OpenSpec.ofChange Rows.fnDigestsSpec) :=
  OpenClaim.holds_of_wide 3 Tryd.f3 rfl rfl rfl rfl rfl rfl rfl ⟨rfl, rfl, rfl, rfl, rfl⟩ rfl rfl rfl rfl rfl (by kernel_rfl) Tryd.func3 (by kernel_rfl)
    (of_decide_eq_true (by kernel_rfl)) (by unfold Func.isWrapper; first | (rw [if_pos (by decide +kernel)]; kernel_rfl) | (rw [if_neg (by decide +kernel)]; exact ⟨rfl, rfl⟩))
    (fun os started H enc _ => lifted os started H enc)

theorem plain (f : FuncId) (fn : Func) (hf : Tryd.pinned.checked.prog.funcNamed "loop.example/g00233/laws.FnDigests" = some f) (hfn : Tryd.pinned.checked.prog.funcs[f]? = some fn) :
    false = Tryd.pinned.checked.prog.looks [] ∧ ∀ (j : Nat) t, fn.params[j]? = some t → Tryd.pinned.checked.prog.wantsStandIn t = false := by
  obtain rfl : f = 3 := Option.some.inj ((show Tryd.prog.funcNamed "loop.example/g00233/laws.FnDigests" = some 3 by kernel_rfl).symm.trans hf) |>.symm
  obtain rfl : fn = Tryd.f3 := (Option.some.inj (Tryd.func3.symm.trans hfn)).symm
  refine ⟨by kernel_rfl, fun j t ht => ?_⟩
  rw [Tryd.params3] at ht
  have hm : t ∈ [22] := by simpa using Array.mem_of_getElem? ht
  have hall : ([22].all fun u => !Tryd.prog.wantsStandIn u) = true := by kernel_rfl
  exact (show Tryd.prog.wantsStandIn t = false by simpa using List.all_eq_true.1 hall t hm)

end Go.Proofs.YtldemehfgfmiaaaDoor.fnDigests
namespace Go.Proofs.YtldemehfgfmiaaaDoor
theorem fnDigests_holds : Rows.FnDigestsCardSaid :=
  Claim7.holds_tied_plain_at .later [] _ _ _ _ fnDigests.over (fun _ h => by cases h) (by kernel_rfl) (fun _ h => by cases h) fnDigests_row_tie rfl ⟨rfl, rfl⟩ (by kernel_rfl) rfl fnDigests.plain (by kernel_rfl)
end Go.Proofs.YtldemehfgfmiaaaDoor
