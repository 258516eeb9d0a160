/- Texts in one: VerG. -/
import Derived.Test.YtbopliahafkecaaGreatDoorItoa
import Derived.Test.YtbopliahafkecaaGreatDoorPk8
import Derived.Test.YtbopliahafkecaaGreatDoorRows
import Derived.Lib.LaidTab
import Derived.Lib.AppendIntMem
import Derived.MakeChecks
/- From the row's list of variables to the library's table of powers of ten; a number's text by strconv.Itoa. -/
namespace Go.Proofs.YtbopliahafkecaaGreatDoor.Ver
open Go.RowKit Go.Proofs.YtbopliahafkecaaGreatDoor.Mem Go.Proofs.YtbopliahafkecaaGreatDoor.Laws Go.Proofs.YtbopliahafkecaaGreatDoor.Bytes Go.Proofs.YtbopliahafkecaaGreatDoor.Sha
set_option linter.unusedVariables false
set_option linter.unusedSimpArgs false

/-- the table of powers of ten stands -/
def Glob (w : World) : Prop := Lib.TabIs Tryz.prog w "internal/strconv.uint64pow10" .u64 Lib.pow10Tab
theorem Glob.later {w w' : World} (h : Glob w) (hb : Below w.heap.size w w') : Glob w' := (Lib.tabBelow_of_tabIs h) w' hb

theorem gA : Tryz.prog.globalNamed "math/bits.deBruijn32tab" = some 2 := by kernel_rfl
theorem gB : Tryz.prog.globalNamed "math/bits.deBruijn64tab" = some 3 := by kernel_rfl
theorem gC : Tryz.prog.globalNamed "internal/strconv.uint64pow10" = some 0 := by kernel_rfl
theorem tC : (Tryz.prog.globals[0]?).map (·.type) = some 134 := by kernel_rfl
theorem cElC : Tryz.prog.cellsOf 117 = 1 := by kernel_rfl
theorem cTabC : Tryz.prog.cellsOf 134 = 20 := by kernel_rfl

theorem glob_of {W : World} (h : laidMet Tryz.prog [("math/bits.deBruijn32tab", Rows.laid_math_bits_deBruijn32tab), ("math/bits.deBruijn64tab", Rows.laid_math_bits_deBruijn64tab), ("internal/strconv.uint64pow10", Rows.laid_internal_strconv_uint64pow10)] W) : Glob W := by
  obtain ⟨ps, ⟨g0, t0, cs0, f0, p0, q0, hg0, ht0, hv0, hd0, ⟨g1, t1, cs1, f1, p1, q1, hg1, ht1, hv1, hd1, ⟨g2, t2, cs2, f2, p2, q2, hg2, ht2, hv2, hd2, _, _⟩, _⟩, _⟩, _, _⟩ := h
  obtain rfl := Option.some.inj (gC.symm.trans hg2)
  obtain rfl := Option.some.inj (tC.symm.trans ht2)
  have e2 : Rows.laid_internal_strconv_uint64pow10 = Lib.tabData (H := Unit) .u64 Lib.pow10Tab := rfl
  rw [e2] at hd2
  have c2 := Lib.cells_of_tab Tryz.underlying134 Tryz.underlying117 cElC cTabC hd2
  unfold Glob Lib.TabIs
  rw [hv2, ← c2]

theorem u8s_one (n : Nat) : Plain.u8s [48 + (n : Int)] = [UInt8.ofNat (48 + n)] := by
  show [UInt8.ofNat (48 + (n : Int)).toNat] = _
  rw [show (48 + (n : Int)).toNat = 48 + n by omega]
theorem digF_succ (f n : Nat) (h : ¬ n < 10) : digF (f + 1) n = digF f (n / 10) ++ [48 + ((n % 10 : Nat) : Int)] := by rw [digF, if_neg h]
theorem dec_digF : ∀ (f n : Nat), n < 10 ^ (f + 1) → Lib.decDigits n = Plain.u8s (digF f n) := by
  intro f
  induction f with
  | zero =>
    intro n hn
    have hn' : n < 10 := by simpa using hn
    rw [Lib.decDigits_one hn', digF, u8s_one]
  | succ f ih =>
    intro n hn
    by_cases h : n < 10
    · rw [Lib.decDigits_one h]
      unfold digF
      rw [if_pos h, u8s_one]
    · rw [Lib.decDigits, dif_neg h, ih (n / 10) (by rw [Nat.pow_succ] at hn; omega)]
      rw [digF_succ f n h]
      have e : ∀ a b : List Int, Plain.u8s (a ++ b) = Plain.u8s a ++ Plain.u8s b := fun a b => by simp [Plain.u8s]
      rw [e, u8s_one]

theorem itoa_impl (w : World) (n : Nat) (hn : n ≤ 1000000) (hG : Glob w) : Calls Tryz.prog 25 #[.int .i64 (n : Int)] w fun e w' => e = .returned (.string (Plain.txt (digF 6 n))) ∧ Below w.heap.size w w' := by
  refine (Any.strconv_Itoa laysItoa (n : Int) (by omega) (by omega) w hG).mono ?_
  rintro e w' ⟨rfl, k, os, rfl⟩
  refine ⟨?_, Lib.below_grow _ w (Nat.le_refl _) k os⟩
  rw [Lib.itoa_nonneg, dec_digF 6 n (by omega)]
  rfl

end Go.Proofs.YtbopliahafkecaaGreatDoor.Ver
