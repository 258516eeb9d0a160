/- For every input the law 'FnNums' returns true and leaves its arguments as they were: proved without a condition, over the turned code of the commit beside it. -/
import Derived.Test.YtoginlmlbppnmaaRows
import Derived.WalkKit
import Derived.Test.YtoginlmlbppnmaaBytes
import Derived.Test.YtoginlmlbppnmaaPlain3
import Derived.Test.YtoginlmlbppnmaaDraw
import Derived.Test.YtoginlmlbppnmaaDrawP
import Derived.Test.YtoginlmlbppnmaaGetT
import Derived.Test.YtoginlmlbppnmaaPuts
import Derived.Test.YtoginlmlbppnmaaGets
import Derived.Test.YtoginlmlbppnmaaRowSl
import Derived.ProofKit
import Derived.OpenShut
import Derived.ShutString
import Derived.ChangeOld
import Derived.Below
import Derived.SliceStrings
namespace Go.Proofs.Ytoginlmlbppnmaa.fnNums
open Go.ChangeShapes Go.WideShapes Go.ChangeAt Go.RowKit
open Go.ChangeMaps (open_string shut_string)
set_option linter.unusedVariables false

theorem own : ownKnob Try.prog.godebug = none := by kernel_rfl
theorem laidOut : laidOutB Try.prog = true := by kernel_rfl

set_option maxRecDepth 1000000 in
set_option maxHeartbeats 4000000 in
theorem walk (w : World) (v0 : Value) (xs0 : List Int) (h0 : Mem.Sl w v0 (Mem.bs xs0)) (y0 : Mem.Byt xs0) (m0 : xs0.length ≤ maxLen) :
    Calls Try.prog 3 #[v0] w fun e w' => e = .returned (.bool true) ∧ Below w.heap.size w w' := by
  have hs := h0
  obtain ⟨ao0, cap0, rfl, -, -, -⟩ := h0
  rw [Mem.bs_len] at hs ⊢
  have hby := y0
  clear m0 y0
  by_cases hbig : 1048576 < xs0.length
  · go_enter Try.func3, Try.ntmps3
    go_wp2_with (go_at_call 5; refine (Draw.big_yes _ _ _ _ hbig).mono ?_; rintro e w1 ⟨rfl, rfl⟩)
    go_ret
    exact ⟨rfl, Below.refl _ _⟩
  · go_enter Try.func3, Try.ntmps3
    go_wp2_with fail
    refine (Draw.big_no _ _ _ _ hbig).mono ?_
    rintro e w1 ⟨rfl, rfl⟩
    go_wp2_with fail
    refine (DrawP.num_any w _ xs0 hs hby (by omega)).mono ?_
    rintro e W1 ⟨vb, ys, n, rfl, hyl, hyb, hn0, hn1, ob1, b1⟩
    have sl1 := ob1.sl
    obtain ⟨aob, capb, rfl⟩ := ob1.len
    rw [Mem.bs_len] at sl1 ob1
    rw [Mem.bs_len]
    go_wp2_with fail
    refine (Puts.put_impl W1 _ ys n sl1 (by omega)).mono ?_
    rintro e W2 ⟨p, rfl, op2, b2⟩
    have hB2 : Below w.heap.size w W2 := b1.trans (b2.mono b1.size)
    obtain ⟨R, hR⟩ : ∃ R, R = ys ++ Puts.num n := ⟨_, rfl⟩
    have hnl := Puts.num_len n
    have hRl : R.length = ys.length + (Puts.num n).length := by rw [hR]; simp
    have hRb : Mem.Byt R := by rw [hR]; exact hyb.app (Puts.num_byt n)
    have HG : Hid (Plain.getNum R (ys.length : Int) = (Plain.clampN n, (R.length : Int), true)) := by
      have h := Plain.getNum_back ys [] n
      rw [List.append_nil, ← hR] at h
      show _ = _
      rw [h, hRl]; simp
    have HC : Hid (Plain.getNum (R.take (R.length - 1)) (ys.length : Int) = (0, 0, false)) := by
      have h := Plain.getNum_cut ys n
      rw [← hR] at h
      exact h
    rw [← hR] at op2
    have slp := op2.sl
    obtain ⟨aop, capp, rfl⟩ := op2.len
    rw [Mem.bs_len] at slp op2
    rw [Mem.bs_len]
    obtain ⟨ao', cap', he, hcapp, _, hrp⟩ := slp
    rw [Mem.bs_len] at he hcapp hrp
    simp only [Value.slice.injEq] at he
    obtain ⟨rfl, _, rfl⟩ := he
    obtain ⟨bp, offp, rfl, _⟩ := hrp (by omega)
    have slp := op2.sl
    have slf := slp.front (R.length - 1) (by rw [Mem.bs_len]; omega)
    have e0 : (Mem.bs R).take (R.length - 1) = Mem.bs (R.take (R.length - 1)) := by unfold Mem.bs; rw [List.map_take]
    rw [e0] at slf
    have hfb : Mem.Byt (R.take (R.length - 1)) := fun x hx => hRb x (List.mem_of_mem_take hx)
    have hfl : (R.take (R.length - 1)).length ≤ 140737488355328 := by simp; omega
    have g1 := Gets.get_impl W2 _ R (ys.length : Int) slp hRb (by omega) (by omega) (by omega)
    have g2 := Gets.get_impl W2 _ (R.take (R.length - 1)) (ys.length : Int) slf hfb hfl (by omega) (by omega)
    rw [HG.out] at g1
    rw [HC.out] at g2
    have hway : (decide (1000000000 < n) = true ∧ Plain.clampN n = 1000000000) ∨ (decide (1000000000 < n) = false ∧ decide (n < 0) = true ∧ Plain.clampN n = 0) ∨ (decide (1000000000 < n) = false ∧ decide (n < 0) = false ∧ Plain.clampN n = n) := by
      simp only [decide_eq_true_eq, decide_eq_false_iff_not]
      unfold Plain.clampN; (split <;> (try split)) <;> omega
    have hslt := hs.later hB2
    have HT := DrawP.text_d W2 _ xs0 hslt hby (by omega)
    have hR1 : 1 ≤ R.length ∧ R.length ≤ 20 := by omega
    clear hRl hR hRb HG HC hnl hrp slf slp hfb hfl e0 op2 ob1 sl1 hyb hn0 hn1 hs
    go_wp2_with fail
    refine g1.mono ?_
    rintro e WX ⟨rfl, hWX⟩
    have hWX := hWX.symm
    subst hWX
    rcases hway with ⟨hd1, hcl⟩ | ⟨hd1, hd2, hcl⟩ | ⟨hd1, hd2, hcl⟩
    all_goals
      rw [hcl]
      clear hcl g1
      go_wp2_with fail
      refine g2.mono ?_
      rintro e WX ⟨rfl, hWX⟩
      have hWX := hWX.symm
      subst hWX
      go_wp2_with fail
      refine HT.mono ?_
      rintro e W3 ⟨vc, zs, ts, rfl, hzl, hzb, htl, htb, oc3, b3⟩
      have hB3 : Below w.heap.size w W3 := hB2.trans (b3.mono hB2.size)
      have slc := oc3.sl
      obtain ⟨aoc, capc, rfl⟩ := oc3.len
      rw [Mem.bs_len] at slc
      rw [Mem.bs_len]
      have hts : (Plain.txt ts).size = ts.length := by show (Plain.txt ts).data.size = _; simp [Plain.txt, Plain.u8s]
      obtain ⟨s, hsE⟩ : ∃ s, s = Plain.txt ts := ⟨_, rfl⟩
      rw [← hsE] at hts ⊢
      have hsz : s.size ≤ 9 := by omega
      clear hts hsE oc3 g2 HT
      go_wp2_with fail
      refine (Puts.putt_impl W3 _ zs s slc (by omega) (by omega)).mono ?_
      rintro e W4 ⟨q, rfl, oq4, b4⟩
      have hB4 : Below w.heap.size w W4 := hB3.trans (b4.mono hB3.size)
      obtain ⟨Q, hQ⟩ : ∃ Q, Q = zs ++ Puts.tx s := ⟨_, rfl⟩
      have htx := Puts.tx_len s
      have hQl : Q.length = zs.length + (Puts.tx s).length := by rw [hQ]; simp
      have hQb : Mem.Byt Q := by rw [hQ]; exact hzb.app (Puts.tx_byt s)
      have HQ : Hid (Plain.getText Q (zs.length : Int) = (s, (Q.length : Int), true)) := by
        have h := Plain.getText_back zs [] s (by omega)
        rw [List.append_nil, ← hQ] at h
        show _ = _
        rw [h, hQl]; simp
      rw [← hQ] at oq4
      have g3 := GetT.text_impl W4 _ Q (zs.length : Int) oq4.sl hQb (by omega) (by omega) (by omega)
      rw [HQ.out] at g3
      obtain ⟨aoq, capq, rfl⟩ := oq4.len
      rw [Mem.bs_len] at g3
      rw [Mem.bs_len]
      have hQ1 : Q.length ≤ 30 := by omega
      clear hQ hQb HQ oq4 hQl htx
      go_wp2_with fail
      refine g3.mono ?_
      rintro e WX ⟨rfl, hWX⟩
      have hWX := hWX.symm
      subst hWX
      clear g3
      go_wp2
      go_ret
      exact ⟨rfl, hB4⟩

set_option maxRecDepth 100000 in
theorem lifted (os : Os) (started : os.Started) (H : Type) (enc : TypeId × Value → H) :
    ReturnsInHanded {} Try.checked os 3 .any (Rows.fnNumsSpec.pre6 enc Try.prog Try.f3 Rows.fnNumsRow.domain false) (Rows.fnNumsSpec.post enc Try.prog Try.f3 false true false false) := by
  refine returnsInHanded_of_change (C := Try.checked) own started (by kernel_rfl) Try.func3
    (ChangeSpec.witness6 (enc := enc) (C := Try.checked) false ⟨#[], #[.slice none 0 0], []⟩ 8 (by kernel_rfl) (by kernel_rfl) (by kernel_rfl) (by kernel_rfl)) ?_
  intro W base args ds gs before hval0 hW hcnd _
  have hval : ∀ (j : Nat) t v, Try.f3.params[j]? = some t → args[j]? = some v → Value.okWide Try.prog W .any base t v := hval0
  have hW' := hW
  obtain ⟨p, q, hA0, hV, rfl, hfz, hnd⟩ := hW
  have hA : DataW.TrodAll enc Try.prog W 0 (fun _ => true) true Try.f3.params.toList args.toList ds p := hA0
  rw [Try.params3] at hA hval
  obtain ⟨v0, vs0, d0, ds0, p0, q0, hargs, rfl, rfl, h0, r0⟩ := trodAll_cons hA
  obtain ⟨rfl, rfl, rfl⟩ := trodAll_nil r0
  obtain rfl : args = #[v0] := by cases args; simp_all
  obtain ⟨rfl, rfl⟩ := trodVars_none hV
  obtain ⟨a0, len0, cap0, rfl⟩ := okWide_slice Try.underlying22 (hval 0 22 v0 rfl rfl)
  have k0 := h0
  have lt0 : ∀ x ∈ p0, x.block < W.heap.size := by obtain ⟨m, hm⟩ := k0; exact DataW.trod_lt m _ _ _ hm
  obtain ⟨xs0, t0, y0, m0⟩ : ∃ xs, Mem.Sl W (.slice a0 len0 cap0) (Mem.bs xs) ∧ Mem.Byt xs ∧ xs.length ≤ maxLen := by
    obtain ⟨fuel, hf⟩ := h0
    rcases open_ints Try.underlying22 Try.underlying5 (by kernel_rfl) hf with ⟨hcs, _⟩ | ⟨x, l, c, zs, hcs, _, hl, hm, hz, _, hcell, hwz⟩
    · simp [Value.cells] at hcs
      obtain ⟨rfl, rfl, rfl⟩ := hcs
      obtain ⟨xs, hs, _, hy⟩ := RowSl.row_sl (w := W) (a := none) (len := 0) (cap := 0) (zs := []) (.inl ⟨rfl, rfl, rfl, rfl⟩)
      exact ⟨xs, hs, hy, by have h0 : xs.length = 0 := (by omega); rw [h0]; exact Nat.zero_le _⟩
    · simp [Value.cells] at hcs
      obtain ⟨rfl, rfl, rfl⟩ := hcs
      obtain ⟨xs, hs, he, hy⟩ := RowSl.row_sl (w := W) (.inr ⟨_, rfl, hl, hm, by simpa using hz, hcell, hwz⟩)
      exact ⟨xs, hs, hy, by rw [← he]; exact Nat.le_trans hl hm⟩
  clear hA0 hval0
  refine (walk W _ xs0 t0 y0 m0).mono fun e W' ⟨he, bel⟩ => ?_
  subst he
  exact ⟨_, rfl, _, _, _, [], _, [], hW', trodAll_mk1 (shut_bool Try.underlying4 _), (trodAll_cons_mk (Below.trod laidOut (by kernel_rfl) (of_decide_eq_true (by kernel_rfl)) k0 bel lt0) trodAll_mk0), rfl, bel.frame _, fun h => by cases h⟩

theorem over : Rows.fnNumsRow.holds Try.pinned (OpenSpec.ofChange Rows.fnNumsSpec) :=
  OpenClaim.holds_of_wide 3 Try.f3 rfl rfl rfl rfl rfl rfl rfl ⟨rfl, rfl, rfl, rfl, rfl⟩ rfl rfl rfl rfl rfl (by kernel_rfl) Try.func3 (by kernel_rfl)
    (of_decide_eq_true (by kernel_rfl)) (by unfold Func.isWrapper; first | (rw [if_pos (by decide +kernel)]; kernel_rfl) | (rw [if_neg (by decide +kernel)]; exact ⟨rfl, rfl⟩))
    (fun os started H enc _ => lifted os started H enc)

end Go.Proofs.Ytoginlmlbppnmaa.fnNums
namespace Go.Proofs.Ytoginlmlbppnmaa
theorem fnNums_holds : Rows.FnNumsSaid := fnNums.over
end Go.Proofs.Ytoginlmlbppnmaa
