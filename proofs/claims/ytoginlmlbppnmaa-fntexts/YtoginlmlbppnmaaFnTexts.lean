/- For every input the law 'FnTexts' returns true and leaves its arguments as they were: proved without a condition, over the turned code of the commit beside it. -/
import Derived.Test.YtoginlmlbppnmaaRows
import Derived.WalkKit
import Derived.Test.YtoginlmlbppnmaaBytes
import Derived.Test.YtoginlmlbppnmaaPlain3
import Derived.Test.YtoginlmlbppnmaaDraw
import Derived.Test.YtoginlmlbppnmaaDrawP
import Derived.Test.YtoginlmlbppnmaaGetTs
import Derived.Test.YtoginlmlbppnmaaPuts
import Derived.Test.YtoginlmlbppnmaaRowSl
import Derived.Test.YtoginlmlbppnmaaLaws
import Derived.ProofKit
import Derived.OpenShut
import Derived.ShutString
import Derived.ChangeOld
import Derived.Below
import Derived.SliceStrings
namespace Go.Proofs.Ytoginlmlbppnmaa.fnTexts
open Go.ChangeShapes Go.WideShapes Go.ChangeAt Go.RowKit
open Go.ChangeMaps (open_string shut_string)
set_option linter.unusedVariables false

theorem own : ownKnob Try.prog.godebug = none := by kernel_rfl
theorem laidOut : laidOutB Try.prog = true := by kernel_rfl

set_option maxRecDepth 1000000 in
set_option maxHeartbeats 4000000 in
theorem walk (w : World) (v0 : Value) (xs0 : List Int) (h0 : Mem.Sl w v0 (Mem.bs xs0)) (y0 : Mem.Byt xs0) (m0 : xs0.length ≤ maxLen) :
    Calls Try.prog 4 #[v0] w fun e w' => e = .returned (.bool true) ∧ Below w.heap.size w w' := by
  obtain ⟨i0, hi, hz0, hz1, hz2⟩ := info_parts Bytes.info5
  have hs := h0
  obtain ⟨ao0, cap0, rfl, -, -, -⟩ := h0
  rw [Mem.bs_len] at hs ⊢
  have hby := y0
  clear m0 y0
  by_cases hbig : 1048576 < xs0.length
  · go_enter Try.func4, Try.ntmps4
    go_wp2_with (go_at_call 5; refine (Draw.big_yes _ _ _ _ hbig).mono ?_; rintro e w1 ⟨rfl, rfl⟩)
    go_ret
    exact ⟨rfl, Below.refl _ _⟩
  · go_enter Try.func4, Try.ntmps4
    go_wp2_with fail
    refine (Draw.big_no _ _ _ _ hbig).mono ?_
    rintro e w1 ⟨rfl, rfl⟩
    go_wp2_with fail
    refine (DrawP.texts_d w _ xs0 hs hby (by omega)).mono ?_
    rintro e W1 ⟨vb, vl, ys, l, rfl, hyl, hyb, hll, hls, ob1, ol1, b1⟩
    have slb := ob1.sl
    have sll := ol1.sl
    obtain ⟨aob, capb, rfl⟩ := ob1.len
    rw [Mem.bs_len] at slb
    rw [Mem.bs_len]
    have htl := Puts.txs_len l
    have hto : Puts.tot l ≤ 15 * l.length := DrawP.tot_le l hls
    go_wp2_with fail
    refine (Puts.putts_impl W1 _ _ ys l slb sll (by omega) (by omega)).mono ?_
    rintro e W2 ⟨p, rfl, op2, b2⟩
    have hB2 : Below w.heap.size w W2 := b1.trans (b2.mono b1.size)
    have ol2 := ol1.later b2 (Nat.le_refl _)
    obtain ⟨R, hR⟩ : ∃ R, R = ys ++ Puts.num (l.length : Int) ++ Puts.txs l := ⟨_, rfl⟩
    have hnl := Puts.num_len (l.length : Int)
    have hRl : R.length ≤ 200 := by rw [hR]; simp only [List.length_append]; omega
    have hRb : Mem.Byt R := by rw [hR]; exact (hyb.app (Puts.num_byt _)).app (DrawP.txs_byt l)
    have HG : Hid (Plain.getTexts (R ++ [1, 2]) (ys.length : Int) = (l, (R.length : Int), true)) := by
      have h := Plain.getTexts_back ys [1, 2] l (by omega) (fun s hs => by have := hls s hs; omega)
      rw [← hR] at h
      exact h
    rw [← hR] at op2
    have slp := op2.sl
    obtain ⟨aop, capp, rfl⟩ := op2.len
    rw [Mem.bs_len] at slp
    rw [Mem.bs_len]
    have hRb2 : Mem.Byt (R ++ [1, 2]) := hRb.app (fun x hx => by simp at hx; omega)
    have slp2 : ∀ o, Mem.Sl (W2.alloc o) (.slice aop R.length capp) (Mem.bs R) := fun o => slp.later ((Below.refl _ _).alloc (Nat.le_refl _) o)
    have c2 : (Mem.bs []).length + (Mem.bs R).length ≤ maxLen := by rw [Mem.bs_len, Mem.bs_len]; unfold maxLen; simp; omega
    have c3 : ((Mem.bs []).length + (Mem.bs R).length) * 1 ≤ 140737488355328 := by rw [Mem.bs_len, Mem.bs_len]; simp; omega
    have c4 : ∀ o, W2.heap.size ≤ (W2.alloc o).heap.size := fun o => by simp
    have s2 := hB2.size
    clear hR hRb hnl htl hto op2 ob1 slb sll hyb hls
    go_wp2_with (at_builtin; go_must (refine Laws.wpl_app _ rfl (.tmp 20) (.tmp 21) 22 rfl 5 i0 (.int .u8 0) 1 Try.underlying22 hi hz0 hz1 hz2 rfl W2.heap.size _ (Mem.bs []) rfl (Draw.Own.emptyB W2 _ (Nat.le_refl _)) _ rfl (Mem.bs R) (slp2 _) (Laws.bs_one _) c2 c3 (c4 _) ?_))
    intro v3 W3 ho3 hb3 hg3
    have hb3' : Below W2.heap.size W2 W3 := ((Below.refl _ _).alloc (Nat.le_refl _) _).trans hb3
    rw [← Mem.bs_app, List.nil_append] at ho3
    have s3 := hb3'.size
    have d2 : (Mem.bs R).length + (Mem.bs [1, 2]).length ≤ maxLen := by rw [Mem.bs_len, Mem.bs_len]; unfold maxLen; simp; omega
    have d3 : ((Mem.bs R).length + (Mem.bs [1, 2]).length) * 1 ≤ 140737488355328 := by rw [Mem.bs_len, Mem.bs_len]; simp; omega
    have d4 : ∀ o, W2.heap.size ≤ (W3.alloc o).heap.size := fun o => by simp; omega
    clear slp2 c2 c3 c4 hg3 hb3
    go_wp2_with (at_builtin; go_must (refine Laws.wpl_app _ rfl (.tmp 22) (.tmp 23) 22 rfl 5 i0 (.int .u8 0) 1 Try.underlying22 hi hz0 hz1 hz2 rfl W2.heap.size _ (Mem.bs R) rfl (ho3.alloc _) _ rfl (Mem.bs [1, 2]) (DrawP.Sl.two _ _ _ _) (Laws.bs_one _) d2 d3 (d4 _) ?_))
    intro v4 W4 ho4 hb4 hg4
    have hb4' : Below W2.heap.size W2 W4 := (hb3'.alloc s3 _).trans hb4
    rw [← Mem.bs_app] at ho4
    have hB4 : Below w.heap.size w W4 := hB2.trans (hb4'.mono s2)
    have ol4 := ol2.later hb4' (by have := b2.size; omega)
    have g5 := GetTs.texts_impl W4 v4 (R ++ [1, 2]) (ys.length : Int) ho4.sl hRb2 (by simp; omega) (by omega) (by omega)
    clear d2 d3 d4 hg4 hb4 ho3 hb3' hRb2
    go_wp2_with fail
    refine g5.mono ?_
    rintro e W5 ⟨v5, rfl, ho5, hb5⟩
    rw [HG.out] at ho5 ⊢
    have hB5 : Below w.heap.size w W5 := hB4.trans (hb5.mono hB4.size)
    have ol5 := ol4.later hb5 (by have := b2.size; have := hb4'.size; omega)
    clear g5
    go_wp2_with fail
    refine (Draw.same_true W5 _ _ l ho5.sl ol5.sl (by omega)).mono ?_
    rintro e W6 ⟨rfl, b6, s6⟩
    go_wp2
    go_ret
    exact ⟨rfl, hB5.trans (b6 _)⟩

set_option maxRecDepth 100000 in
theorem lifted (os : Os) (started : os.Started) (H : Type) (enc : TypeId × Value → H) :
    ReturnsInHanded {} Try.checked os 4 .any (Rows.fnTextsSpec.pre6 enc Try.prog Try.f4 Rows.fnTextsRow.domain false) (Rows.fnTextsSpec.post enc Try.prog Try.f4 false true false false) := by
  refine returnsInHanded_of_change (C := Try.checked) own started (by kernel_rfl) Try.func4
    (ChangeSpec.witness6 (enc := enc) (C := Try.checked) false ⟨#[], #[.slice none 0 0], []⟩ 8 (by kernel_rfl) (by kernel_rfl) (by kernel_rfl) (by kernel_rfl)) ?_
  intro W base args ds gs before hval0 hW hcnd _
  have hval : ∀ (j : Nat) t v, Try.f4.params[j]? = some t → args[j]? = some v → Value.okWide Try.prog W .any base t v := hval0
  have hW' := hW
  obtain ⟨p, q, hA0, hV, rfl, hfz, hnd⟩ := hW
  have hA : DataW.TrodAll enc Try.prog W 0 (fun _ => true) true Try.f4.params.toList args.toList ds p := hA0
  rw [Try.params4] at hA hval
  obtain ⟨v0, vs0, d0, ds0, p0, q0, hargs, rfl, rfl, h0, r0⟩ := trodAll_cons hA
  obtain ⟨rfl, rfl, rfl⟩ := trodAll_nil r0
  obtain rfl : args = #[v0] := by cases args; simp_all
  obtain ⟨rfl, rfl⟩ := trodVars_none hV
  obtain ⟨a0, len0, cap0, rfl⟩ := okWide_slice Try.underlying22 (hval 0 22 v0 rfl rfl)
  have k0 := h0
  have lt0 : ∀ x ∈ p0, x.block < W.heap.size := by obtain ⟨m, hm⟩ := k0; exact DataW.trod_lt m _ _ _ hm
  obtain ⟨xs0, t0, y0, m0⟩ : ∃ xs, Mem.Sl W (.slice a0 len0 cap0) (Mem.bs xs) ∧ Mem.Byt xs ∧ xs.length ≤ maxLen := by
    obtain ⟨fuel, hf⟩ := h0
    rcases open_ints Try.underlying22 Try.underlying5 (by kernel_rfl) hf with ⟨hcs, _⟩ | ⟨x, l, c, zs, hcs, _, hl, hm, hz, _, hcell, hwz⟩
    · simp [Value.cells] at hcs
      obtain ⟨rfl, rfl, rfl⟩ := hcs
      obtain ⟨xs, hs, _, hy⟩ := RowSl.row_sl (w := W) (a := none) (len := 0) (cap := 0) (zs := []) (.inl ⟨rfl, rfl, rfl, rfl⟩)
      exact ⟨xs, hs, hy, by have h0 : xs.length = 0 := (by omega); rw [h0]; exact Nat.zero_le _⟩
    · simp [Value.cells] at hcs
      obtain ⟨rfl, rfl, rfl⟩ := hcs
      obtain ⟨xs, hs, he, hy⟩ := RowSl.row_sl (w := W) (.inr ⟨_, rfl, hl, hm, by simpa using hz, hcell, hwz⟩)
      exact ⟨xs, hs, hy, by rw [← he]; exact Nat.le_trans hl hm⟩
  clear hA0 hval0
  refine (walk W _ xs0 t0 y0 m0).mono fun e W' ⟨he, bel⟩ => ?_
  subst he
  exact ⟨_, rfl, _, _, _, [], _, [], hW', trodAll_mk1 (shut_bool Try.underlying4 _), (trodAll_cons_mk (Below.trod laidOut (by kernel_rfl) (of_decide_eq_true (by kernel_rfl)) k0 bel lt0) trodAll_mk0), rfl, bel.frame _, fun h => by cases h⟩

theorem over : Rows.fnTextsRow.holds Try.pinned (OpenSpec.ofChange Rows.fnTextsSpec) :=
  OpenClaim.holds_of_wide 4 Try.f4 rfl rfl rfl rfl rfl rfl rfl ⟨rfl, rfl, rfl, rfl, rfl⟩ rfl rfl rfl rfl rfl (by kernel_rfl) Try.func4 (by kernel_rfl)
    (of_decide_eq_true (by kernel_rfl)) (by unfold Func.isWrapper; first | (rw [if_pos (by decide +kernel)]; kernel_rfl) | (rw [if_neg (by decide +kernel)]; exact ⟨rfl, rfl⟩))
    (fun os started H enc _ => lifted os started H enc)

end Go.Proofs.Ytoginlmlbppnmaa.fnTexts
namespace Go.Proofs.Ytoginlmlbppnmaa
theorem fnTexts_holds : Rows.FnTextsSaid := fnTexts.over
end Go.Proofs.Ytoginlmlbppnmaa
