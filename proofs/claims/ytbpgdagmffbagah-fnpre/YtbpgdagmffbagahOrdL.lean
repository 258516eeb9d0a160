/- Chapter 3: contracts in the words of the laws; the order of three drawn versions; what is bumped is later. -/
import Derived.Test.YtbpgdagmffbagahOrdP
import Derived.Test.YtbpgdagmffbagahOrdE
namespace Go.Proofs.Ytbpgdagmffbagah.Ver
open Go.RowKit Go.Proofs.Ytbpgdagmffbagah.Mem Go.Proofs.Ytbpgdagmffbagah.Laws Go.Proofs.Ytbpgdagmffbagah.Bytes Go.Proofs.Ytbpgdagmffbagah.Sha
set_option linter.unusedVariables false
set_option linter.unusedSimpArgs false

theorem three_agg (w : World) (vb : Value) (xs : List Int) (hs : Sl w vb (bs xs)) (hby : Byt xs) (hx : xs.length ≤ 140737488355328 ∨ xs.length ≤ 1048576) :
    Calls Try.prog 5 #[vb] w fun e w' => ∃ a1 b1 c1 p1 a2 b2 c2 p2 a3 b3 c3 p3, e = .returned (.tuple #[.agg #[.int .i64 a1, .int .i64 b1, .int .i64 c1, .string p1], .agg #[.int .i64 a2, .int .i64 b2, .int .i64 c2, .string p2], .agg #[.int .i64 a3, .int .i64 b3, .int .i64 c3, .string p3]]) ∧ Dv a1 b1 c1 p1 ∧ Dv a2 b2 c2 p2 ∧ Dv a3 b3 c3 p3 ∧ Below w.heap.size w w' :=
  three_any w vb xs hs hby (by omega)

theorem less_agg (W : World) (a1 b1 c1 : Int) (p1 : ByteArray) (a2 b2 c2 : Int) (p2 : ByteArray) (h1 : p1.size ≤ 8) (h2 : p2.size ≤ 8) :
    Calls Try.prog 7 #[.agg #[.int .i64 a1, .int .i64 b1, .int .i64 c1, .string p1], .agg #[.int .i64 a2, .int .i64 b2, .int .i64 c2, .string p2]] W fun e w' => e = .returned (.bool (decide (cmpV a1 b1 c1 p1 a2 b2 c2 p2 < 0))) ∧ Below W.heap.size W w' :=
  less_impl W a1 b1 c1 p1 a2 b2 c2 p2 (by omega) (by omega)

theorem order_facts {a1 b1 c1 : Int} {p1 : ByteArray} {a2 b2 c2 : Int} {p2 : ByteArray} {a3 b3 c3 : Int} {p3 : ByteArray} (h1 : Dv a1 b1 c1 p1) (h2 : Dv a2 b2 c2 p2) (h3 : Dv a3 b3 c3 p3) :
    (decide (cmpV a1 b1 c1 p1 a2 b2 c2 p2 < 0) = true → decide (cmpV a2 b2 c2 p2 a1 b1 c1 p1 < 0) = false) ∧
    ((decide (cmpV a1 b1 c1 p1 a2 b2 c2 p2 < 0) || decide (cmpV a2 b2 c2 p2 a1 b1 c1 p1 < 0)) = !sameV a1 b1 c1 p1 a2 b2 c2 p2) ∧
    (decide (cmpV a1 b1 c1 p1 a2 b2 c2 p2 < 0) = true → decide (cmpV a2 b2 c2 p2 a3 b3 c3 p3 < 0) = true → decide (cmpV a1 b1 c1 p1 a3 b3 c3 p3 < 0) = true) := by
  have m1 := h1.2.2.2
  have m2 := h2.2.2.2
  have m3 := h3.2.2.2
  rw [less_D m1 m2, less_D m2 m1, less_D m2 m3, less_D m1 m3]
  have hs := sameV_iff a1 b1 c1 p1 a2 b2 c2 p2
  rw [← (rank_pre m1 m2).2] at hs
  generalize rank p1 = r1 at *
  generalize rank p2 = r2 at *
  generalize rank p3 = r3 at *
  refine ⟨?_, ?_, ?_⟩
  · simp only [decide_eq_true_eq, decide_eq_false_iff_not]
    omega
  · cases he : sameV a1 b1 c1 p1 a2 b2 c2 p2 with
    | true =>
      have := hs.1 he
      simp
      omega
    | false =>
      have hn : ¬ (a1 = a2 ∧ b1 = b2 ∧ c1 = c2 ∧ r1 = r2) := fun h => by rw [hs.2 h] at he; cases he
      simp
      omega
  · simp only [decide_eq_true_eq]
    omega

theorem bump_agg (W : World) (a b c : Int) (p : ByteArray) (part : Int) (h1 : p.size ≤ 8) :
    Calls Try.prog 6 #[.agg #[.int .i64 a, .int .i64 b, .int .i64 c, .string p], .int .i64 part] W fun e w' => e = .returned (.agg #[.int .i64 (bump a b c p part).1, .int .i64 (bump a b c p part).2.1, .int .i64 (bump a b c p part).2.2.1, .string (bump a b c p part).2.2.2]) ∧ Below W.heap.size W w' :=
  bump_impl W a b c p part (by omega)

theorem ok_agg (W : World) (a b c : Int) (p : ByteArray) (h1 : p.size ≤ 8) :
    Calls Try.prog 8 #[.agg #[.int .i64 a, .int .i64 b, .int .i64 c, .string p]] W fun e w' => e = .returned (.bool (okV a b c p)) ∧ Below W.heap.size W w' :=
  ok_impl W a b c p (by omega)

theorem okV_plain {a b c : Int} (ha : 0 ≤ a ∧ a ≤ 1000000) (hb : 0 ≤ b ∧ b ≤ 1000000) (hc : 0 ≤ c ∧ c ≤ 1000000) : okV a b c ⟨#[]⟩ = true := by
  unfold okV inM
  rw [decide_eq_true ha, decide_eq_true hb, decide_eq_true hc]
  rfl
theorem pre_facts {a b c : Int} {p : ByteArray} (h : Dv a b c p) :
    bump a b c ⟨#[]⟩ 2 = (a, b, c + 1, ⟨#[]⟩) ∧ bump a b c ⟨#[]⟩ 1 = (a, b + 1, 0, ⟨#[]⟩) ∧ bump a b c ⟨#[]⟩ 0 = (a + 1, 0, 0, ⟨#[]⟩) ∧
    (¬ p.size = 0 → decide (cmpV a b c p a b c ⟨#[]⟩ < 0) = true) ∧
    decide (cmpV a b c ⟨#[]⟩ a b (c + 1) ⟨#[]⟩ < 0) = true ∧ decide (cmpV a b (c + 1) ⟨#[]⟩ a (b + 1) 0 ⟨#[]⟩ < 0) = true ∧ decide (cmpV a (b + 1) 0 ⟨#[]⟩ (a + 1) 0 0 ⟨#[]⟩ < 0) = true ∧ okV a b c p = true := by
  obtain ⟨ha, hb, hc, hp⟩ := h
  have hm : (⟨#[]⟩ : ByteArray) ∈ preL := by unfold preL; exact List.mem_cons_self ..
  have k0 := okV_plain (a := a) (b := b) (c := c) (by omega) (by omega) (by omega)
  have k1 := okV_plain (a := a) (b := b) (c := c + 1) (by omega) (by omega) (by omega)
  have k2 := okV_plain (a := a) (b := b + 1) (c := 0) (by omega) (by omega) (by omega)
  have k3 := okV_plain (a := a + 1) (b := 0) (c := 0) (by omega) (by omega) (by omega)
  refine ⟨?_, ?_, ?_, ?_, ?_, ?_, ?_, Dv.ok ⟨ha, hb, hc, hp⟩⟩
  · unfold bump; rw [if_pos k0]; simp [k1]
  · unfold bump; rw [if_pos k0]; simp [k2]
  · unfold bump; rw [if_pos k0]; simp [k3]
  · intro hz
    have e : cmpPre p ⟨#[]⟩ = -1 := by
      unfold cmpPre
      rw [if_neg, if_neg hz, if_pos (show (⟨#[]⟩ : ByteArray).size = 0 from rfl)]
      unfold eqT
      rw [ByteArray.toList_eq, ByteArray.toList_eq]
      intro h
      apply hz
      have h2 : p.data.toList = [] := by simpa using h
      have h3 : p.data.toList.length = p.size := by simp
      rw [h2] at h3
      simp at h3
      omega
    simp [cmpV, cmpI, orL, e]
  · rw [less_D hm hm]; exact decide_eq_true (by omega)
  · rw [less_D hm hm]; exact decide_eq_true (by omega)
  · rw [less_D hm hm]; exact decide_eq_true (by omega)

end Go.Proofs.Ytbpgdagmffbagah.Ver
