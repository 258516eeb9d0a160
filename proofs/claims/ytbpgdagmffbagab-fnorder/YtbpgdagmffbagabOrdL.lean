/- Chapter 3: contracts in the words of the laws' walks; the order of three drawn versions. -/
import Derived.Test.YtbpgdagmffbagabOrdP
import Derived.Test.YtbpgdagmffbagabOrdE
namespace Go.Proofs.Ytbpgdagmffbagab.Ver
open Go.RowKit Go.Proofs.Ytbpgdagmffbagab.Mem Go.Proofs.Ytbpgdagmffbagab.Laws Go.Proofs.Ytbpgdagmffbagab.Bytes Go.Proofs.Ytbpgdagmffbagab.Sha
set_option linter.unusedVariables false
set_option linter.unusedSimpArgs false

theorem three_agg (w : World) (vb : Value) (xs : List Int) (hs : Sl w vb (bs xs)) (hby : Byt xs) (hx : xs.length ≤ 140737488355328 ∨ xs.length ≤ 1048576) :
    Calls Try.prog 6 #[vb] w fun e w' => ∃ a1 b1 c1 p1 a2 b2 c2 p2 a3 b3 c3 p3, e = .returned (.tuple #[.agg #[.int .i64 a1, .int .i64 b1, .int .i64 c1, .string p1], .agg #[.int .i64 a2, .int .i64 b2, .int .i64 c2, .string p2], .agg #[.int .i64 a3, .int .i64 b3, .int .i64 c3, .string p3]]) ∧ Dv a1 b1 c1 p1 ∧ Dv a2 b2 c2 p2 ∧ Dv a3 b3 c3 p3 ∧ Below w.heap.size w w' :=
  three_any w vb xs hs hby (by omega)

theorem less_agg (W : World) (a1 b1 c1 : Int) (p1 : ByteArray) (a2 b2 c2 : Int) (p2 : ByteArray) (h1 : p1.size ≤ 8) (h2 : p2.size ≤ 8) :
    Calls Try.prog 7 #[.agg #[.int .i64 a1, .int .i64 b1, .int .i64 c1, .string p1], .agg #[.int .i64 a2, .int .i64 b2, .int .i64 c2, .string p2]] W fun e w' => e = .returned (.bool (decide (cmpV a1 b1 c1 p1 a2 b2 c2 p2 < 0))) ∧ Below W.heap.size W w' :=
  less_impl W a1 b1 c1 p1 a2 b2 c2 p2 (by omega) (by omega)

theorem lessS_agg (W : World) (a1 b1 c1 : Int) (p1 : ByteArray) (a2 b2 c2 : Int) (p2 : ByteArray) (h1 : p1.size ≤ 8) (h2 : p2.size ≤ 8) :
    Calls Try.prog 8 #[.agg #[.int .i64 a1, .int .i64 b1, .int .i64 c1, .string p1], .agg #[.int .i64 a2, .int .i64 b2, .int .i64 c2, .string p2]] W fun e w' => e = .returned (.bool (lessV a1 b1 c1 p1 a2 b2 c2 p2)) ∧ Below W.heap.size W w' :=
  less_spec W a1 b1 c1 p1 a2 b2 c2 p2 (by omega) (by omega)

theorem order_facts {a1 b1 c1 : Int} {p1 : ByteArray} {a2 b2 c2 : Int} {p2 : ByteArray} {a3 b3 c3 : Int} {p3 : ByteArray} (h1 : Dv a1 b1 c1 p1) (h2 : Dv a2 b2 c2 p2) (h3 : Dv a3 b3 c3 p3) :
    (decide (cmpV a1 b1 c1 p1 a2 b2 c2 p2 < 0) = true → decide (cmpV a2 b2 c2 p2 a1 b1 c1 p1 < 0) = false) ∧
    ((decide (cmpV a1 b1 c1 p1 a2 b2 c2 p2 < 0) || decide (cmpV a2 b2 c2 p2 a1 b1 c1 p1 < 0)) = !sameV a1 b1 c1 p1 a2 b2 c2 p2) ∧
    (decide (cmpV a1 b1 c1 p1 a2 b2 c2 p2 < 0) = true → decide (cmpV a2 b2 c2 p2 a3 b3 c3 p3 < 0) = true → decide (cmpV a1 b1 c1 p1 a3 b3 c3 p3 < 0) = true) := by
  have m1 := h1.2.2.2
  have m2 := h2.2.2.2
  have m3 := h3.2.2.2
  rw [less_D m1 m2, less_D m2 m1, less_D m2 m3, less_D m1 m3]
  have hs := sameV_iff a1 b1 c1 p1 a2 b2 c2 p2
  rw [← (rank_pre m1 m2).2] at hs
  generalize rank p1 = r1 at *
  generalize rank p2 = r2 at *
  generalize rank p3 = r3 at *
  refine ⟨?_, ?_, ?_⟩
  · simp only [decide_eq_true_eq, decide_eq_false_iff_not]
    omega
  · cases he : sameV a1 b1 c1 p1 a2 b2 c2 p2 with
    | true =>
      have := hs.1 he
      simp
      omega
    | false =>
      have hn : ¬ (a1 = a2 ∧ b1 = b2 ∧ c1 = c2 ∧ r1 = r2) := fun h => by rw [hs.2 h] at he; cases he
      simp
      omega
  · simp only [decide_eq_true_eq]
    omega

end Go.Proofs.Ytbpgdagmffbagab.Ver
