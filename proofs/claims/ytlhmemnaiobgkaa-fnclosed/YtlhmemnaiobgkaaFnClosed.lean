/- For every input the law 'FnClosed' returns true and leaves its arguments as they were: proved without a condition, over the turned code of the commit beside it. -/
import Derived.Test.YtlhmemnaiobgkaaRows
import Derived.WalkKit
import Derived.Test.YtlhmemnaiobgkaaPk2
import Derived.Test.YtlhmemnaiobgkaaPk24
import Derived.Test.YtlhmemnaiobgkaaPk32
import Derived.Test.YtlhmemnaiobgkaaPk28
import Derived.ProofKit
import Derived.OpenShut
import Derived.ShutString
import Derived.ChangeOld
import Derived.Below
import Derived.SliceStrings
namespace Go.Proofs.Ytlhmemnaiobgkaa.fnClosed
open Go.ChangeShapes Go.WideShapes Go.ChangeAt Go.RowKit
open Go.ChangeMaps (open_string shut_string)
set_option linter.unusedVariables false
set_option linter.unusedSimpArgs false

theorem own : ownKnob Try.prog.godebug = none := by kernel_rfl
theorem laidOut : laidOutB Try.prog = true := by kernel_rfl

set_option maxRecDepth 1000000 in
set_option maxHeartbeats 4000000 in
theorem walk (w : World) (v0 : Value) (xs0 : List Int) (h0 : Mem.Sl w v0 (Mem.bs xs0)) (y0 : Mem.Byt xs0) (m0 : xs0.length ≤ maxLen) :
    Calls Try.prog 4 #[v0] w fun e w' => e = .returned (.bool true) ∧ Below w.heap.size w w' := by
  have okn : ∀ n, Se.Dq n → Se.okN n := fun n hn => by
    have h := hn.2.1
    unfold Ent.Nd.ok Ver.fits4 at h
    rw [Bool.and_eq_true, Bool.and_eq_true] at h
    exact h.1.2
  exact Se.closed_law w v0 xs0 h0 y0 m0
    (fun W v u T s hB hS hD hT hX hs hq => by
      have q1 := Se.closed_impl W v u T s hS hD (by omega) (fun e he => by
        obtain ⟨h1, h2, h3⟩ := hX e he
        have := Ent.Dn.size h1
        exact ⟨by omega, by omega, by omega, fun n hn => by have := Ent.Dn.size (h3 n hn); omega⟩) (by omega)
        (fun e he => by obtain ⟨h1, h2, h3⟩ := hX e he; exact ⟨by omega, fun n hn => by have := Ent.Dn.size (h3 n hn); omega⟩)
        (fun n hn => by have := Ent.Dn.size (hq n hn); omega)
      rw [Se.closedI_eq (fun n hn => okn n (hq n hn)) (fun e he n hn => okn n ((hX e he).2.2 n hn))] at q1
      exact q1)
    (fun W v T q hB hS hT hX hq => Fe.find_impl W v T q hS (by omega) (fun e he => by
        obtain ⟨h1, h2, h3⟩ := hX e he
        have := Ent.Dn.size h1
        exact ⟨by omega, by omega, by omega, fun n hn => by have := Ent.Dn.size (h3 n hn); omega⟩))
    (fun W v u s t hB hS hU hs hq ht hr => by
      have q1 := Se.covers_impl W v u s t hS hU (by omega) (by omega) (fun n hn => by have := Ent.Dn.size (hq n hn); omega) (fun n hn => by have := Ent.Dn.size (hr n hn); omega)
      rw [Se.coversI_eq (fun n hn => okn n (hq n hn)) (fun n hn => okn n (hr n hn))] at q1
      exact q1)

set_option maxRecDepth 100000 in
theorem lifted (os : Os) (started : os.Started) (H : Type) (enc : TypeId × Value → H) :
    ReturnsInHanded {} Try.checked os 4 .any (Rows.fnClosedSpec.pre6 enc Try.prog Try.f4 Rows.fnClosedRow.domain false) (Rows.fnClosedSpec.post enc Try.prog Try.f4 false true false false) := by
  refine returnsInHanded_of_change (C := Try.checked) own started (by kernel_rfl) Try.func4
    (ChangeSpec.witness6 (enc := enc) (C := Try.checked) false ⟨#[], #[.slice none 0 0], []⟩ 8 (by kernel_rfl) (by kernel_rfl) (by kernel_rfl) (by kernel_rfl)) ?_
  intro W base args ds gs before hval0 hW hcnd _
  have hval : ∀ (j : Nat) t v, Try.f4.params[j]? = some t → args[j]? = some v → Value.okWide Try.prog W .any base t v := hval0
  have hW' := hW
  obtain ⟨p, q, hA0, hV, rfl, hfz, hnd⟩ := hW
  have hA : DataW.TrodAll enc Try.prog W 0 (fun _ => true) true Try.f4.params.toList args.toList ds p := hA0
  rw [Try.params4] at hA hval
  obtain ⟨v0, vs0, d0, ds0, p0, q0, hargs, rfl, rfl, h0, r0⟩ := trodAll_cons hA
  obtain ⟨rfl, rfl, rfl⟩ := trodAll_nil r0
  obtain rfl : args = #[v0] := by cases args; simp_all
  obtain ⟨rfl, rfl⟩ := trodVars_none hV
  obtain ⟨a0, len0, cap0, rfl⟩ := okWide_slice Try.underlying22 (hval 0 22 v0 rfl rfl)
  have k0 := h0
  have lt0 : ∀ x ∈ p0, x.block < W.heap.size := by obtain ⟨m, hm⟩ := k0; exact DataW.trod_lt m _ _ _ hm
  obtain ⟨xs0, t0, y0, m0⟩ : ∃ xs, Mem.Sl W (.slice a0 len0 cap0) (Mem.bs xs) ∧ Mem.Byt xs ∧ xs.length ≤ maxLen := by
    obtain ⟨fuel, hf⟩ := h0
    rcases open_ints Try.underlying22 Try.underlying5 (by kernel_rfl) hf with ⟨hcs, _⟩ | ⟨x, l, c, zs, hcs, _, hl, hm, hz, _, hcell, hwz⟩
    · simp [Value.cells] at hcs
      obtain ⟨rfl, rfl, rfl⟩ := hcs
      obtain ⟨xs, hs, _, hy⟩ := RowSl.row_sl (w := W) (a := none) (len := 0) (cap := 0) (zs := []) (.inl ⟨rfl, rfl, rfl, rfl⟩)
      exact ⟨xs, hs, hy, by have h0 : xs.length = 0 := (by omega); rw [h0]; exact Nat.zero_le _⟩
    · simp [Value.cells] at hcs
      obtain ⟨rfl, rfl, rfl⟩ := hcs
      obtain ⟨xs, hs, he, hy⟩ := RowSl.row_sl (w := W) (.inr ⟨_, rfl, hl, hm, by simpa using hz, hcell, hwz⟩)
      exact ⟨xs, hs, hy, by rw [← he]; exact Nat.le_trans hl hm⟩
  clear hA0 hval0
  refine (walk W _ xs0 t0 y0 m0).mono fun e W' ⟨he, bel⟩ => ?_
  subst he
  exact ⟨_, rfl, _, _, _, [], _, [], hW', trodAll_mk1 (shut_bool Try.underlying4 _), (trodAll_cons_mk (Below.trod laidOut (by kernel_rfl) (of_decide_eq_true (by kernel_rfl)) k0 bel lt0) trodAll_mk0), rfl, bel.frame _, fun h => by cases h⟩

theorem over : Rows.fnClosedRow.holds Try.pinned (OpenSpec.ofChange Rows.fnClosedSpec) :=
  OpenClaim.holds_of_wide 4 Try.f4 rfl rfl rfl rfl rfl rfl rfl ⟨rfl, rfl, rfl, rfl, rfl⟩ rfl rfl rfl rfl rfl (by kernel_rfl) Try.func4 (by kernel_rfl)
    (of_decide_eq_true (by kernel_rfl)) (by unfold Func.isWrapper; first | (rw [if_pos (by decide +kernel)]; kernel_rfl) | (rw [if_neg (by decide +kernel)]; exact ⟨rfl, rfl⟩))
    (fun os started H enc _ => lifted os started H enc)

end Go.Proofs.Ytlhmemnaiobgkaa.fnClosed
namespace Go.Proofs.Ytlhmemnaiobgkaa
theorem fnClosed_holds : Rows.FnClosedSaid := fnClosed.over
end Go.Proofs.Ytlhmemnaiobgkaa
