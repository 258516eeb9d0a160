/- Texts in one: Mg2, Mi2, SrH, MiM, MiN, MiO, MiP, Ed1, Sr6. -/
import Derived.Test.YtchonoonclllbaaGreatDoorPh14
set_option maxHeartbeats 16000000
set_option linter.unusedVariables false
set_option linter.unusedSimpArgs false
namespace Go.Proofs.YtchonoonclllbaaGreatDoor.Mg
open Go.RowKit Mem Laws Bytes Sha Tr He
def mc (m : Ms) (v : Value) : Array Value := #[.int .i64 m.k, .int .i64 m.f, .int .i64 m.t, .int .i64 m.h.n, .string m.h.r, .int .i64 m.n, v]
theorem sizeM (m : Ms) (v : Value) : (Tryz.prog.info? 35).map (·.size) = some (mc m v).size := by
 show _ = some 7
 kernel_rfl
theorem oneM {v : Value} (m : Ms) (hv : v.oneCell' = true) : (mc m v).all (·.oneCell') = true := by
 simp [mc, Value.oneCell']
 exact hv
theorem not_face {m : Ms} (h : ¬ ((0 ≤ m.f ∧ m.f ≤ 20) ∧ (0 ≤ m.t ∧ m.t ≤ 20) ∧ ¬ m.f = m.t ∧ okH m.h = true ∧ (0 ≤ m.n ∧ m.n ≤ 200))) : msgOk m = false := by
 rw [← Bool.not_eq_true]
 intro q
 obtain ⟨a, b, c, d, e, _⟩ := msg_parts q
 exact h ⟨a, b, c, d, e⟩
theorem is_face {m : Ms} (h : (0 ≤ m.f ∧ m.f ≤ 20) ∧ (0 ≤ m.t ∧ m.t ≤ 20) ∧ ¬ m.f = m.t ∧ okH m.h = true ∧ (0 ≤ m.n ∧ m.n ≤ 200)) : msgOk m = kindOk m := by
 obtain ⟨a, b, c, d, e⟩ := h
 unfold msgOk face
 simp [a, b, c, d, e]
set_option maxRecDepth 1000000 in
theorem msgok_spec (w : World) (v : Value) (m : Ms) (hs : Sl w v (ss m.x)) (hl : m.x.length ≤ 1000000000000) :
  Calls Tryz.prog 46 #[.agg #[.int .i64 m.k, .int .i64 m.f, .int .i64 m.t, .int .i64 m.h.n, .string m.h.r, .int .i64 m.n, v]] w fun e w' => e = .returned (.bool (msgOk m)) ∧ Below w.heap.size w w' := by
 obtain ⟨R, hR⟩ : ∃ R, msgOk m = R := ⟨_, rfl⟩
 have HR : Hid (msgOk m = R) := hR
 rw [hR]
 clear hR
 obtain ⟨k, f, t, h, n, x⟩ := m
 simp only at *
 have HS : Hid (Sl w v (ss x)) := hs
 obtain ⟨ao0, cap0, rfl, hc0⟩ := hs.form
 simp only [ss_len] at *
 clear hs
 have B0 : Hid (Below w.heap.size w w) := Below.refl _ _
 obtain ⟨W1, HW1, b1, y1, hS1, r_a1⟩ : ∃ X, Hid ((w.alloc (.cells #[.int .i64 k, .int .i64 f, .int .i64 t, .int .i64 h.n, .string h.r, .int .i64 n, .slice ao0 x.length cap0] 35)) = X) ∧ Below w.heap.size w X ∧ w.heap.size + 1 ≤ X.heap.size ∧ Hid (X.heap.size = w.heap.size + 1) ∧ Hid (X.heap[w.heap.size]? = some (.cells #[.int .i64 k, .int .i64 f, .int .i64 t, .int .i64 h.n, .string h.r, .int .i64 n, .slice ao0 x.length cap0] 35 (0, 0))) := ⟨_, rfl, ((Below.refl _ _).alloc (Nat.le_refl _) _), by simp, by show _ = _; simp, (by show _ = _; exact alloc_nth1_0 w _)⟩
 have z1 : w.heap.size ≤ W1.heap.size := b1.size
 have B1 : Hid (Below w.heap.size w W1) := B0.out.trans (b1.mono B0.out.size)
 have c_a1_1 : W1.cell? ⟨w.heap.size, 1, none⟩ = some (.int .i64 f) := row_at r_a1.out 1
 have c_a1_2 : W1.cell? ⟨w.heap.size, 2, none⟩ = some (.int .i64 t) := row_at r_a1.out 2
 have c_a1_3 : W1.cell? ⟨w.heap.size, 3, none⟩ = some (.int .i64 h.n) := row_at r_a1.out 3
 have c_a1_4 : W1.cell? ⟨w.heap.size, 4, none⟩ = some (.string h.r) := row_at r_a1.out 4
 go_enter Tryz.func46, Tryz.ntmps46
 by_cases hin_f : 0 ≤ f ∧ f ≤ 20
 ·have q2 := in6t W1 hin_f
  have HI_f : Hid (0 ≤ f ∧ f ≤ 20) := hin_f
  have hlo_f := hin_f.1
  have hhi_f := hin_f.2
  clear hin_f
  go_wp2_with fail
  rw [HW1.out]
  refine q2.mono ?_
  rintro e W_ ⟨rfl, hW_⟩
  subst hW_
  clear q2
  by_cases hin_t : 0 ≤ t ∧ t ≤ 20
  ·have q2 := in6t W1 hin_t
   have HI_t : Hid (0 ≤ t ∧ t ≤ 20) := hin_t
   have hlo_t := hin_t.1
   have hhi_t := hin_t.2
   clear hin_t
   go_wp2_with fail
   refine q2.mono ?_
   rintro e W_ ⟨rfl, hW_⟩
   subst hW_
   clear q2
   by_cases hft : f = t
   ·subst hft
    have hbb : (f == f) = true := by simp
    have HN : Hid (R = false) := by show _ = _; rw [← HR.out]; exact not_face (fun q => q.2.2.1 rfl)
    go_wp2
    go_ret
    exact ⟨by rw [HN.out]; rfl, B1.out⟩
   ·have hbb : (f == t) = false := by rw [beq_eq_false_iff_ne]; exact hft
    obtain ⟨A, hA⟩ : ∃ A, okH h = A := ⟨_, rfl⟩
    have q3 := He.ok_spec W1 h
    rw [hA] at q3
    have HA : Hid (okH h = A) := hA
    clear hA
    go_wp2_with fail
    refine (q3).mono ?_
    rintro e W2 ⟨rfl, b2⟩
    have z2 : W1.heap.size ≤ W2.heap.size := b2.size
    have B2 : Hid (Below w.heap.size w W2) := B1.out.trans (b2.mono B1.out.size)
    have r_a2 : Hid (W2.heap[w.heap.size]? = some (.cells #[.int .i64 k, .int .i64 f, .int .i64 t, .int .i64 h.n, .string h.r, .int .i64 n, .slice ao0 x.length cap0] 35 (0, 0))) := rowKeep r_a1.out b2
    have c_a2_0 : W2.cell? ⟨w.heap.size, 0, none⟩ = some (.int .i64 k) := row_at r_a2.out 0
    have c_a2_3 : W2.cell? ⟨w.heap.size, 3, none⟩ = some (.int .i64 h.n) := row_at r_a2.out 3
    have c_a2_5 : W2.cell? ⟨w.heap.size, 5, none⟩ = some (.int .i64 n) := row_at r_a2.out 5
    have c_a2_6 : W2.cell? ⟨w.heap.size, 6, none⟩ = some (.slice ao0 x.length cap0) := row_at r_a2.out 6
    clear r_a1 c_a1_1 c_a1_2 c_a1_3 c_a1_4
    clear q3
    cases A
    ·have HN : Hid (R = false) := by show _ = _; rw [← HR.out]; exact not_face (fun q => by have h9 := q.2.2.2.1; simp only at h9; rw [HA.out] at h9; cases h9)
     go_wp2
     go_ret
     exact ⟨by rw [HN.out]; rfl, B2.out⟩
    ·by_cases hin_n : 0 ≤ n ∧ n ≤ 200
     ·have q2 := in6t W2 hin_n
      have HI_n : Hid (0 ≤ n ∧ n ≤ 200) := hin_n
      have hlo_n := hin_n.1
      have hhi_n := hin_n.2
      clear hin_n
      go_wp2_with fail
      refine q2.mono ?_
      rintro e W_ ⟨rfl, hW_⟩
      subst hW_
      clear q2
      have HK : Hid (kindOk ⟨k, f, t, h, n, x⟩ = R) := by show _ = _; rw [← HR.out]; exact (is_face ⟨HI_f.out, HI_t.out, hft, HA.out, HI_n.out⟩).symm
      have hhn := (okH_parts13 HA.out)
      have hn1 := hhn.1
      have hn2 := hhn.2.1
      clear hhn HR
      have HR : Hid (kindOk ⟨k, f, t, h, n, x⟩ = R) := HK
      clear HK
      by_cases k1 : k = 1
      ·subst k1
       by_cases n0 : n = 0
       ·subst n0
        by_cases l0 : x.length = 0
        ·have l1 : (x.length : Int) = 0 := by omega
         have l2 : ((x.length : Int) == 0) = true := by rw [l1]; rfl
         have HN : Hid (R = true) := by show _ = _; rw [← HR.out]; unfold kindOk; simp [l0]
         go_wp2
         go_ret
         exact ⟨by rw [HN.out]; rfl, B2.out⟩
        ·have l1 : ¬ (x.length : Int) = 0 := by omega
         have l2 : ((x.length : Int) == 0) = false := by rw [beq_eq_false_iff_ne]; exact l1
         have HN : Hid (R = false) := by show _ = _; rw [← HR.out]; unfold kindOk; simp [l0]
         go_wp2
         go_ret
         exact ⟨by rw [HN.out]; rfl, B2.out⟩
       ·have n1 : (n == 0) = false := by rw [beq_eq_false_iff_ne]; exact n0
        have HN : Hid (R = false) := by show _ = _; rw [← HR.out]; unfold kindOk; simp [n0]
        go_wp2
        go_ret
        exact ⟨by rw [HN.out]; rfl, B2.out⟩
      ·have k1b : (k == 1) = false := by rw [beq_eq_false_iff_ne]; exact k1
       by_cases k2 : k = 2
       ·subst k2
        by_cases n0 : n < h.n
        ·have n1 : decide (n < h.n) = true := decide_eq_true n0
         by_cases l0 : x.length = 0
         ·have l1 : (x.length : Int) = 0 := by omega
          have l2 : ((x.length : Int) == 0) = true := by rw [l1]; rfl
          have HN : Hid (R = true) := by show _ = _; rw [← HR.out]; unfold kindOk; simp [l0, n0]
          go_wp2
          go_ret
          exact ⟨by rw [HN.out]; rfl, B2.out⟩
         ·have l1 : ¬ (x.length : Int) = 0 := by omega
          have l2 : ((x.length : Int) == 0) = false := by rw [beq_eq_false_iff_ne]; exact l1
          have HN : Hid (R = false) := by show _ = _; rw [← HR.out]; unfold kindOk; simp [l0]
          go_wp2
          go_ret
          exact ⟨by rw [HN.out]; rfl, B2.out⟩
        ·have n1 : decide (n < h.n) = false := decide_eq_false n0
         have HN : Hid (R = false) := by show _ = _; rw [← HR.out]; unfold kindOk; simp [n0]
         go_wp2
         go_ret
         exact ⟨by rw [HN.out]; rfl, B2.out⟩
       ·have k2b : (k == 2) = false := by rw [beq_eq_false_iff_ne]; exact k2
        by_cases k3 : k = 3
        ·subst k3
         by_cases n0 : n < h.n
         ·have n1 : decide (n < h.n) = true := decide_eq_true n0
          have wr : IntKind.i64.wrap (h.n - n) = h.n - n := by rw [IntKind.wrap_i64]; omega
          by_cases l0 : (x.length : Int) = h.n - n
          ·have l2 : ((x.length : Int) == h.n - n) = true := by rw [l0]; simp
           have HL0 : Hid ((x.length : Int) = h.n - n) := l0
           clear l0
           have HN : Hid (R = true) := by show _ = _; rw [← HR.out]; unfold kindOk; simp [HL0.out, n0]
           go_wp2
           go_ret
           exact ⟨by rw [HN.out]; rfl, B2.out⟩
          ·have l2 : ((x.length : Int) == h.n - n) = false := by rw [beq_eq_false_iff_ne]; exact l0
           have HN : Hid (R = false) := by show _ = _; rw [← HR.out]; unfold kindOk; simp [l0]
           go_wp2
           go_ret
           exact ⟨by rw [HN.out]; rfl, B2.out⟩
         ·have n1 : decide (n < h.n) = false := decide_eq_false n0
          have HN : Hid (R = false) := by show _ = _; rw [← HR.out]; unfold kindOk; simp [n0]
          go_wp2
          go_ret
          exact ⟨by rw [HN.out]; rfl, B2.out⟩
        ·have k3b : (k == 3) = false := by rw [beq_eq_false_iff_ne]; exact k3
         have HN : Hid (R = false) := by show _ = _; rw [← HR.out]; unfold kindOk; simp [k1, k2, k3]
         go_wp2
         go_ret
         exact ⟨by rw [HN.out]; rfl, B2.out⟩
     ·have q2 := in6f W2 hin_n
      have HI_n : Hid (¬ (0 ≤ n ∧ n ≤ 200)) := hin_n
      clear hin_n
      go_wp2_with fail
      refine q2.mono ?_
      rintro e W_ ⟨rfl, hW_⟩
      subst hW_
      clear q2
      have HN : Hid (R = false) := by show _ = _; rw [← HR.out]; exact not_face (fun q => HI_n.out q.2.2.2.2)
      go_wp2
      go_ret
      exact ⟨by rw [HN.out]; rfl, B2.out⟩
  ·have q2 := in6f W1 hin_t
   have HI_t : Hid (¬ (0 ≤ t ∧ t ≤ 20)) := hin_t
   clear hin_t
   go_wp2_with fail
   refine q2.mono ?_
   rintro e W_ ⟨rfl, hW_⟩
   subst hW_
   clear q2
   have HN : Hid (R = false) := by show _ = _; rw [← HR.out]; exact not_face (fun q => HI_t.out q.2.1)
   go_wp2
   go_ret
   exact ⟨by rw [HN.out]; rfl, B1.out⟩
 ·have q2 := in6f W1 hin_f
  have HI_f : Hid (¬ (0 ≤ f ∧ f ≤ 20)) := hin_f
  clear hin_f
  go_wp2_with fail
  rw [HW1.out]
  refine q2.mono ?_
  rintro e W_ ⟨rfl, hW_⟩
  subst hW_
  clear q2
  have HN : Hid (R = false) := by show _ = _; rw [← HR.out]; exact not_face (fun q => HI_f.out q.1)
  go_wp2
  go_ret
  exact ⟨by rw [HN.out]; rfl, B1.out⟩
end Go.Proofs.YtchonoonclllbaaGreatDoor.Mg
namespace Go.Proofs.YtchonoonclllbaaGreatDoor.Mi
open Go.RowKit Mem Laws Bytes Sha Tr He Lg Sr Mg
def mq (id : Int) (v : Value) (h : Hd) (b : Value) (s : Int) (g : Hd) : Array Value := #[.int .i64 id, v, .int .i64 h.n, .string h.r, b, .int .i64 s, .int .i64 g.n, .string g.r]
theorem sizeQ (id : Int) (v : Value) (h : Hd) (b : Value) (s : Int) (g : Hd) : (Tryz.prog.info? 32).map (·.size) = some (mq id v h b s g).size := by
 show _ = some 8
 kernel_rfl
theorem oneQ {v b : Value} (id : Int) (h : Hd) (s : Int) (g : Hd) (hv : v.oneCell' = true) (hb : b.oneCell' = true) : (mq id v h b s g).all (·.oneCell') = true := by
 simp [mq, Value.oneCell']
 exact ⟨hv, hb⟩
end Go.Proofs.YtchonoonclllbaaGreatDoor.Mi
namespace Go.Proofs.YtchonoonclllbaaGreatDoor.Sr
open Go.RowKit Mem Laws Bytes Sha Tr He Lg
theorem pairN {w : World} {lo hi : Nat} {v vb : Value} {cs ds : List Value} (h : Own w lo hi 9 v cs) (k : Own w lo hi 5 vb ds) (hh : lo ≤ hi) : ∃ l1 h1 l2 h2, lo ≤ l1 ∧ l1 ≤ h1 ∧ h1 ≤ hi ∧ lo ≤ l2 ∧ l2 ≤ h2 ∧ h2 ≤ hi ∧ (h1 ≤ l2 ∨ h2 ≤ l1) ∧ Own w l1 h1 9 v cs ∧ Own w l2 h2 5 vb ds := by
 have one : ∀ (e : TypeId) (u : Value) (es : List Value), Own w lo hi e u es → ∃ l1 h1, lo ≤ l1 ∧ l1 ≤ h1 ∧ h1 ≤ hi ∧ Own w l1 h1 e u es ∧ (l1 = h1 ∧ l1 = lo ∨ h1 = l1 + 1 ∧ u.ownBlock = some l1) := by
  intro e u es ho
  obtain ⟨⟨h1, h2⟩, h3⟩ := ho
  rcases h2 with ⟨rfl, h0⟩ | ⟨g, cap, cur, rfl, hb, hg, q⟩
  ·exact ⟨lo, lo, Nat.le_refl _, Nat.le_refl _, hh, ⟨⟨h1, Or.inl ⟨rfl, h0⟩⟩, fun g hg => by simp [Value.ownBlock] at hg⟩, Or.inl ⟨rfl, rfl⟩⟩
  ·have hl := h3 g rfl
   exact ⟨g, g + 1, hb, by omega, hl, ⟨⟨h1, Or.inr ⟨g, cap, cur, rfl, Nat.le_refl _, hg, q⟩⟩, fun g' hg' => by simp [Value.ownBlock] at hg'; omega⟩, Or.inr ⟨rfl, rfl⟩⟩
 obtain ⟨l1, h1, a1, a2, a3, a4, a5⟩ := one 9 v cs h
 obtain ⟨l2, h2, b1, b2, b3, b4, b5⟩ := one 5 vb ds k
 refine ⟨l1, h1, l2, h2, a1, a2, a3, b1, b2, b3, ?_, a4, b4⟩
 rcases a5 with a5 | ⟨a5, a6⟩
 ·omega
 ·rcases b5 with b5 | ⟨b5, b6⟩
  ·omega
  ·have hne := Own.neOwn h k (by decide) l2 b6
   have : l1 ≠ l2 := fun e => hne (by rw [a6, e])
   omega
def Apart2 (l1 h1 l2 h2 : Nat) (w w' : World) : Prop := ∃ m, Apart l1 h1 w m ∧ Apart l2 h2 m w'
theorem Apart2.size {l1 h1 l2 h2 : Nat} {w w' : World} (h : Apart2 l1 h1 l2 h2 w w') : w.heap.size ≤ w'.heap.size := by
 obtain ⟨m, a, b⟩ := h
 exact Nat.le_trans a.size b.size
theorem Apart2.block {l1 h1 l2 h2 : Nat} {w w' : World} (h : Apart2 l1 h1 l2 h2 w w') (k : Nat) (hk : k < w.heap.size) (d1 : k < l1 ∨ h1 ≤ k) (d2 : k < l2 ∨ h2 ≤ k) : w'.heap[k]? = w.heap[k]? := by
 obtain ⟨m, a, b⟩ := h
 rw [b.block k (Nat.lt_of_lt_of_le hk a.size) (by omega), a.block k hk (by omega)]
theorem Apart2.below {l1 h1 l2 h2 B : Nat} {w w' : World} (h : Apart2 l1 h1 l2 h2 w w') (d1 : B ≤ l1) (d2 : B ≤ l2) (hB : B ≤ w.heap.size) : Below B w w' := by
 obtain ⟨m, a, b⟩ := h
 exact (a.below d1 hB).trans (b.below d2 (Nat.le_trans hB a.size))
end Go.Proofs.YtchonoonclllbaaGreatDoor.Sr
namespace Go.Proofs.YtchonoonclllbaaGreatDoor.Mi
open Go.RowKit Mem Laws Bytes Sha Tr He Lg Sr Mg
def Om (w : World) (lo hi : Nat) (v : Value) (q : List Ms) : Prop :=
 (q = [] ∧ ∃ ao cap, v = .slice ao 0 cap) ∨ (∃ m g u, q = [m] ∧ v = .slice (some ⟨g, 0, none⟩) 1 1 ∧ lo ≤ g ∧ g < hi ∧ hi ≤ w.heap.size ∧ w.heap[g]? = some (.cells (mc m u) 35 (0, 0)) ∧ Own w lo hi 9 u (ss m.x))
theorem Om.nil (w : World) (lo hi : Nat) (ao : Option Addr) (cap : Nat) : Om w lo hi (.slice ao 0 cap) [] := .inl ⟨rfl, _, _, rfl⟩
theorem Om.form {w : World} {lo hi : Nat} {v : Value} {q : List Ms} (h : Om w lo hi v q) : ∃ ao L cap, v = .slice ao L cap ∧ L = q.length ∧ L ≤ 1 := by
 rcases h with ⟨rfl, ao, cap, rfl⟩ | ⟨m, g, u, rfl, rfl, _⟩
 ·exact ⟨_, _, _, rfl, rfl, by simp⟩
 ·exact ⟨_, _, _, rfl, rfl, by simp⟩
theorem Om.later {w w' : World} {lo hi B : Nat} {v : Value} {q : List Ms} (h : Om w lo hi v q) (b : Below B w w') (hh : hi ≤ B) : Om w' lo hi v q := by
 rcases h with ⟨rfl, h⟩ | ⟨m, g, u, rfl, rfl, h1, h2, h3, h4, h5⟩
 ·exact .inl ⟨rfl, h⟩
 ·exact .inr ⟨m, g, u, rfl, rfl, h1, h2, Nat.le_trans h3 b.size, (b.block g (by omega)).trans h4, Own.later h5 b hh⟩
theorem Om.mono {w : World} {lo hi lo' hi' : Nat} {v : Value} {q : List Ms} (h : Om w lo hi v q) (h1 : lo' ≤ lo) (h2 : hi ≤ hi') (h3 : hi' ≤ w.heap.size) : Om w lo' hi' v q := by
 rcases h with ⟨rfl, h⟩ | ⟨m, g, u, rfl, rfl, a1, a2, a3, a4, a5⟩
 ·exact .inl ⟨rfl, h⟩
 ·exact .inr ⟨m, g, u, rfl, rfl, by omega, by omega, h3, a4, a5.mono h1 h2⟩
theorem Om.apart {w w' : World} {lo hi l h : Nat} {v : Value} {q : List Ms} (o : Om w lo hi v q) (p : Apart l h w w') (d : hi ≤ l ∨ h ≤ lo) (hs : hi ≤ w.heap.size) : Om w' lo hi v q := by
 rcases o with ⟨rfl, o⟩ | ⟨m, g, u, rfl, rfl, a1, a2, a3, a4, a5⟩
 ·exact .inl ⟨rfl, o⟩
 ·exact .inr ⟨m, g, u, rfl, rfl, a1, a2, Nat.le_trans a3 p.size, (p.block g (by omega) (by omega)).trans a4, Own.apart a5 p d hs⟩
theorem Om.setRow {w : World} {lo hi x : Nat} {v : Value} {q : List Ms} (o : Om w lo hi v q) (form : Array Value) (d : x < lo ∨ hi ≤ x) : Om (w.setRow x form) lo hi v q := by
 rcases o with ⟨rfl, o⟩ | ⟨m, g, u, rfl, rfl, a1, a2, a3, a4, a5⟩
 ·exact .inl ⟨rfl, o⟩
 ·exact .inr ⟨m, g, u, rfl, rfl, a1, a2, by rw [size_setRow]; exact a3, (setRow_other _ _ _ _ (by omega)).trans a4, Own.setRow a5 _ (by omega)⟩
theorem Om.one {w : World} {lo : Nat} {u : Value} (m : Ms) (h : Own w lo w.heap.size 9 u (ss m.x)) (hl : lo ≤ w.heap.size) : Om (w.alloc (.cells (mc m u) 35)) lo (w.alloc (.cells (mc m u) 35)).heap.size (.slice (some ⟨w.heap.size, 0, none⟩) 1 1) [m] :=
 .inr ⟨m, w.heap.size, u, rfl, rfl, hl, by simp, Nat.le_refl _, heap_alloc_new w _, (Own.later h ((Below.refl _ _).alloc (Nat.le_refl _) _) (Nat.le_refl _)).mono (Nat.le_refl _) (by simp)⟩
theorem Om.one0 {w : World} {lo : Nat} (m : Ms) (hx : m.x = []) (hl : lo ≤ w.heap.size) : Om (w.alloc (.cells (mc m (.slice none 0 0)) 35)) lo (w.alloc (.cells (mc m (.slice none 0 0)) 35)).heap.size (.slice (some ⟨w.heap.size, 0, none⟩) 1 1) [m] :=
 Om.one m (by rw [hx]; exact ⟨⟨rfl, Or.inl ⟨rfl, rfl⟩⟩, fun g hg => by simp [Value.ownBlock] at hg⟩) hl
theorem Apart.wide {lo hi l1 h1 : Nat} {a w w' : World} (h : Apart lo hi a w) (k : Apart l1 h1 w w') (e1 : lo ≤ l1) (e2 : h1 ≤ hi) : Apart lo hi a w' :=
 ⟨k.os.trans h.os, k.tape.trans h.tape, k.output.trans h.output, Nat.le_trans h.size k.size, fun i hi1 hi2 => (k.block i (Nat.lt_of_lt_of_le hi1 h.size) (by omega)).trans (h.block i hi1 hi2)⟩
def Oq (w : World) (lo hi : Nat) (v : Value) (t : List Hd) : Prop := Oh w lo hi v t ∧ hi ≤ w.heap.size
theorem Oq.later {w w' : World} {lo hi : Nat} {v : Value} {t : List Hd} (h : Oq w lo hi v t) (b : Below w.heap.size w w') : Oq w' lo hi v t := ⟨h.1.later b h.2, Nat.le_trans h.2 b.size⟩
theorem Oq.apart {w w' : World} {lo hi lo' hi' : Nat} {v : Value} {t : List Hd} (h : Oq w lo hi v t) (a : Apart lo' hi' w w') (hd : hi ≤ lo' ∨ hi' ≤ lo) : Oq w' lo hi v t := ⟨On.apart h.1 a (by omega) h.2, Nat.le_trans h.2 a.size⟩
def Omx (w : World) (lo hi : Nat) (v : Value) (q : List Ms) : Prop := Om w lo hi v q ∧ hi ≤ w.heap.size
theorem Omx.later {w w' : World} {lo hi : Nat} {v : Value} {q : List Ms} (h : Omx w lo hi v q) (b : Below w.heap.size w w') : Omx w' lo hi v q := ⟨h.1.later b h.2, Nat.le_trans h.2 b.size⟩
theorem Omx.apart {w w' : World} {lo hi lo' hi' : Nat} {v : Value} {q : List Ms} (h : Omx w lo hi v q) (a : Apart lo' hi' w w') (hd : hi ≤ lo' ∨ hi' ≤ lo) : Omx w' lo hi v q := ⟨Om.apart h.1 a hd h.2, Nat.le_trans h.2 a.size⟩
theorem Omx.get {w : World} {lo hi L cap : Nat} {ao : Option Addr} {q : Ms} (h : Omx w lo hi (.slice ao L cap) [q]) : ∃ (g : Nat) (u : Value), ao = some ⟨g, 0, none⟩ ∧ L = 1 ∧ cap = 1 ∧ w.heap[g]? = some (.cells (mc q u) 35 (0, 0)) ∧ Own w lo hi 9 u (ss q.x) := by
 rcases h.1 with ⟨h9, _⟩ | ⟨m, g, u, h9, hv, _, _, _, hr, ho⟩
 ·cases h9
 ·obtain rfl : q = m := by injection h9
  simp only [Value.slice.injEq] at hv
  exact ⟨g, u, hv.1, hv.2.1, hv.2.2, hr, ho⟩
end Go.Proofs.YtchonoonclllbaaGreatDoor.Mi
namespace Go.Proofs.YtchonoonclllbaaGreatDoor.Ed
open Go.RowKit Mem Laws Sha Tr
def top (n : Nat) : Nat := half (n + 1)
theorem top_ok {n : Nat} (h : 1 ≤ n) : Pow (top n) ∧ top n ≤ n ∧ n < 2 * top n := by
 obtain ⟨a, b, c⟩ := half_ok (n := n + 1) (by omega)
 exact ⟨a, by unfold top; omega, by unfold top; omega⟩
theorem top_pos {n : Nat} (h : 1 ≤ n) : 1 ≤ top n := by have := (top_ok h).2.2; omega
def edgeF : Nat → List ByteArray → List ByteArray
 | 0, _ => []
 | f + 1, l => if 1 ≤ l.length then root (l.take (top l.length)) :: edgeF f (l.drop (top l.length)) else []
theorem dropT_lt {l : List ByteArray} (h : 1 ≤ l.length) : (l.drop (top l.length)).length < l.length := by
 rw [List.length_drop]; have := top_pos h; omega
theorem edgeF_any : ∀ (f g : Nat) (l : List ByteArray), l.length < f → l.length < g → edgeF f l = edgeF g l := by
 intro f
 induction f with
 | zero => intro g l hf; omega
 | succ f ih =>
  intro g l hf hg
  cases g with
  | zero => omega
  | succ g =>
   by_cases h : 1 ≤ l.length
   ·have h1 := dropT_lt h
    rw [edgeF, edgeF, if_pos h, if_pos h, ih g (l.drop (top l.length)) (by omega) (by omega)]
   ·rw [edgeF, edgeF, if_neg h, if_neg h]
def edge (l : List ByteArray) : List ByteArray := edgeF (l.length + 1) l
theorem edge_nil : edge [] = [] := by unfold edge; rw [edgeF]; simp
theorem edge_some {l : List ByteArray} (h : 1 ≤ l.length) : edge l = root (l.take (top l.length)) :: edge (l.drop (top l.length)) := by
 have h1 := dropT_lt h
 unfold edge
 rw [edgeF, if_pos h, edgeF_any l.length ((l.drop (top l.length)).length + 1) (l.drop (top l.length)) (by omega) (by omega)]
def eroot : List ByteArray → ByteArray
 | [] => Plain.txt (digest [])
 | [h] => h
 | h :: g :: r => nodeH h (eroot (g :: r))
theorem eroot_cons {h : ByteArray} {r : List ByteArray} (hr : r ≠ []) : eroot (h :: r) = nodeH h (eroot r) := by
 cases r with
 | nil => exact absurd rfl hr
 | cons g r => rfl
theorem edge_ne {l : List ByteArray} (h : 1 ≤ l.length) : edge l ≠ [] := by rw [edge_some h]; simp
theorem eroot_edge (l : List ByteArray) : eroot (edge l) = root l := by
 refine lenRec (P := fun l => eroot (edge l) = root l) ?_ l
 intro l ih
 by_cases h : 1 ≤ l.length
 ·obtain ⟨hp, h1, h2⟩ := top_ok h
  have hpos := top_pos h
  rw [edge_some h]
  by_cases he : top l.length = l.length
  ·rw [he, List.take_length, List.drop_length, edge_nil]
   rfl
  ·have hd : 1 ≤ (l.drop (top l.length)).length := by rw [List.length_drop]; omega
   have h3 : 2 ≤ l.length := by omega
   rw [eroot_cons (edge_ne hd), ih (l.drop (top l.length)) (dropT_lt h), root_more h3]
   obtain ⟨a, b, c⟩ := half_ok h3
   rw [pow_one a hp b c (by omega) (by omega)]
 ·obtain rfl : l = [] := List.eq_nil_of_length_eq_zero (by omega)
  rw [edge_nil, root_nil]
  rfl
def carryF : Nat → Nat → List ByteArray → ByteArray → List ByteArray
 | 0, _, _, _ => []
 | f + 1, n, hs, h => if n % 2 = 1 then carryF f (n / 2) hs.dropLast (nodeH (hs.getLastD ⟨#[]⟩) h) else hs ++ [h]
theorem carryF_any : ∀ (f g n : Nat) (hs : List ByteArray) (h : ByteArray), n < f → n < g → carryF f n hs h = carryF g n hs h := by
 intro f
 induction f with
 | zero => intro g n hs h hf; omega
 | succ f ih =>
  intro g n hs h hf hg
  cases g with
  | zero => omega
  | succ g =>
   by_cases h0 : n % 2 = 1
   ·rw [carryF, carryF, if_pos h0, if_pos h0, ih g (n / 2) _ _ (by omega) (by omega)]
   ·rw [carryF, carryF, if_neg h0, if_neg h0]
def carry (n : Nat) (hs : List ByteArray) (h : ByteArray) : List ByteArray := carryF (n + 1) n hs h
theorem carry_if (n : Nat) (hs : List ByteArray) (h : ByteArray) : carry n hs h = if n % 2 = 1 then carry (n / 2) hs.dropLast (nodeH (hs.getLastD ⟨#[]⟩) h) else hs ++ [h] := by
 unfold carry
 by_cases h0 : n % 2 = 1
 ·rw [carryF, if_pos h0, if_pos h0, carryF_any n (n / 2 + 1) (n / 2) _ _ (by omega) (by omega)]
 ·rw [carryF, if_neg h0, if_neg h0]
theorem carry_even {n : Nat} (h0 : ¬ n % 2 = 1) (hs : List ByteArray) (h : ByteArray) : carry n hs h = hs ++ [h] := by rw [carry_if, if_neg h0]
theorem carry_odd {n : Nat} (h0 : n % 2 = 1) (hs : List ByteArray) (g h : ByteArray) : carry n (hs ++ [g]) h = carry (n / 2) hs (nodeH g h) := by
 rw [carry_if, if_pos h0]; simp
theorem pow_half (j : Nat) : half (2 ^ (j + 1)) = 2 ^ j := by
 have h1 : 1 ≤ 2 ^ j := Nat.one_le_two_pow
 have e : 2 ^ (j + 1) = 2 * 2 ^ j := by rw [Nat.pow_succ]; omega
 obtain ⟨a, b, c⟩ := half_ok (n := 2 ^ (j + 1)) (by omega)
 exact pow_one a ⟨j, rfl⟩ b c (by omega) (by omega)
theorem root_two {u t : List ByteArray} {j : Nat} (hu : u.length = 2 ^ j) (ht : t.length = 2 ^ j) : root (u ++ t) = nodeH (root u) (root t) := by
 have h1 : 1 ≤ 2 ^ j := Nat.one_le_two_pow
 have e : 2 ^ (j + 1) = 2 * 2 ^ j := by rw [Nat.pow_succ]; omega
 have hl : (u ++ t).length = 2 ^ (j + 1) := by rw [List.length_append]; omega
 rw [root_more (by omega), hl, pow_half, ← hu, List.take_left, List.drop_left]
theorem top_pow (j : Nat) : top (2 ^ j) = 2 ^ j := by
 have h1 : 1 ≤ 2 ^ j := Nat.one_le_two_pow
 obtain ⟨a, b, c⟩ := top_ok h1
 exact pow_one (n := 2 ^ j + 1) a ⟨j, rfl⟩ (by omega) (by omega) (by omega) (by omega)
theorem edge_pow {t : List ByteArray} {j : Nat} (ht : t.length = 2 ^ j) : edge t = [root t] := by
 have h1 : 1 ≤ 2 ^ j := Nat.one_le_two_pow
 rw [edge_some (by omega), ht, top_pow, ← ht, List.take_length, List.drop_length, edge_nil]
theorem edge_snoc {j : Nat} {t : List ByteArray} (ht : t.length = 2 ^ j) (l : List ByteArray) : ∀ (hl : 2 ^ (j + 1) ∣ l.length), edge (l ++ t) = edge l ++ [root t] := by
 refine lenRec (P := fun l => ∀ (hl : 2 ^ (j + 1) ∣ l.length), edge (l ++ t) = edge l ++ [root t]) ?_ l
 intro l ihl hl
 have h1 : 1 ≤ 2 ^ j := Nat.one_le_two_pow
 have e : 2 ^ (j + 1) = 2 * 2 ^ j := by rw [Nat.pow_succ]; omega
 by_cases h : 1 ≤ l.length
 ·obtain ⟨⟨d, hp⟩, a, b⟩ := top_ok h
  have hpos := top_pos h
  have hle : 2 ^ (j + 1) ≤ l.length := Nat.le_of_dvd (by omega) hl
  have hjd : j + 1 ≤ d := by
   have h4 : 2 ^ (j + 1) < 2 ^ (d + 1) := by rw [Nat.pow_succ 2 d]; omega
   have := (Nat.pow_lt_pow_iff_right (by omega : 1 < 2)).1 h4
   omega
  have hdvd : 2 ^ (j + 1) ∣ top l.length := by rw [hp]; exact Nat.pow_dvd_pow 2 hjd
  have hdrop : 2 ^ (j + 1) ∣ (l.drop (top l.length)).length := by rw [List.length_drop]; exact Nat.dvd_sub hl hdvd
  have hlt : l.length + 2 ^ j < 2 * top l.length := by
   have h5 : 2 ^ (j + 1) ∣ 2 * top l.length - l.length := Nat.dvd_sub (Nat.dvd_trans hdvd (Nat.dvd_mul_left _ _)) hl
   have h6 := Nat.le_of_dvd (by omega) h5
   omega
  have hlen : (l ++ t).length = l.length + 2 ^ j := by rw [List.length_append, ht]
  have htop : top (l ++ t).length = top l.length := by
   obtain ⟨a', b', c'⟩ := top_ok (n := (l ++ t).length) (by omega)
   exact pow_one (n := (l ++ t).length + 1) a' ⟨d, hp⟩ (by omega) (by omega) (by omega) (by omega)
  have ih := ihl (l.drop (top l.length)) (dropT_lt h) hdrop
  rw [edge_some (l := l ++ t) (by omega), htop, List.take_append_of_le_length a, List.drop_append_of_le_length a, ih, edge_some h]
  rfl
 ·obtain rfl : l = [] := List.eq_nil_of_length_eq_zero (by omega)
  rw [List.nil_append, edge_pow ht, edge_nil]
  rfl
theorem carry_edge (n : Nat) : ∀ (j : Nat) (l t : List ByteArray), l.length = n * 2 ^ j → t.length = 2 ^ j → carry n (edge l) (root t) = edge (l ++ t) := by
 refine natRec (P := fun n => ∀ (j : Nat) (l t : List ByteArray), l.length = n * 2 ^ j → t.length = 2 ^ j → carry n (edge l) (root t) = edge (l ++ t)) ?_ n
 intro n ihn j l t hl ht
 have h1 : 1 ≤ 2 ^ j := Nat.one_le_two_pow
 have e : 2 ^ (j + 1) = 2 * 2 ^ j := by rw [Nat.pow_succ]; omega
 by_cases hn : n % 2 = 1
 ·have hm : n * 2 ^ j = (n / 2) * 2 ^ (j + 1) + 2 ^ j := by
   have : n = 2 * (n / 2) + 1 := by omega
   generalize n / 2 = m at this
   rw [this, e, Nat.add_mul, Nat.one_mul, Nat.mul_comm 2 m, Nat.mul_assoc]
  have h2 : (l.take ((n / 2) * 2 ^ (j + 1))).length = (n / 2) * 2 ^ (j + 1) := by rw [List.length_take]; omega
  have h3 : (l.drop ((n / 2) * 2 ^ (j + 1))).length = 2 ^ j := by rw [List.length_drop]; omega
  have h4 : edge l = edge (l.take ((n / 2) * 2 ^ (j + 1))) ++ [root (l.drop ((n / 2) * 2 ^ (j + 1)))] := by
   have := edge_snoc h3 (l.take ((n / 2) * 2 ^ (j + 1))) (by rw [h2]; exact Nat.dvd_mul_left _ _)
   rwa [List.take_append_drop] at this
  rw [h4, carry_odd hn, ← root_two h3 ht, ihn (n / 2) (by omega) (j + 1) _ (l.drop ((n / 2) * 2 ^ (j + 1)) ++ t) h2 (by rw [List.length_append]; omega), ← List.append_assoc, List.take_append_drop]
 ·have hm : l.length = (n / 2) * 2 ^ (j + 1) := by
   have : n = 2 * (n / 2) := by omega
   generalize n / 2 = m at this
   rw [hl, this, e, Nat.mul_comm 2 m, Nat.mul_assoc]
  rw [carry_even hn, edge_snoc ht l (by rw [hm]; exact Nat.dvd_mul_left _ _)]
theorem carry_one (l : List ByteArray) (s : ByteArray) : carry l.length (edge l) (leafH s) = edge (l ++ [s]) := by
 rw [← root_one]
 exact carry_edge l.length 0 l [s] (by simp) (by simp)
def popcF : Nat → Nat → Nat
 | 0, _ => 0
 | f + 1, n => if n = 0 then 0 else n % 2 + popcF f (n / 2)
theorem popcF_any : ∀ (f g n : Nat), n < f → n < g → popcF f n = popcF g n := by
 intro f
 induction f with
 | zero => intro g n hf; omega
 | succ f ih =>
  intro g n hf hg
  cases g with
  | zero => omega
  | succ g =>
   by_cases h0 : n = 0
   ·rw [popcF, popcF, if_pos h0, if_pos h0]
   ·rw [popcF, popcF, if_neg h0, if_neg h0, ih g (n / 2) (by omega) (by omega)]
def popc (n : Nat) : Nat := popcF (n + 1) n
theorem popc_zero : popc 0 = 0 := rfl
theorem popc_step {n : Nat} (h : n ≠ 0) : popc n = n % 2 + popc (n / 2) := by
 unfold popc
 rw [popcF, if_neg h, popcF_any n (n / 2 + 1) (n / 2) (by omega) (by omega)]
theorem carry_len (n : Nat) : ∀ (hs : List ByteArray) (h : ByteArray), hs.length = popc n → (carry n hs h).length = popc (n + 1) := by
 refine natRec (P := fun n => ∀ (hs : List ByteArray) (h : ByteArray), hs.length = popc n → (carry n hs h).length = popc (n + 1)) ?_ n
 intro n ih hs h hl
 by_cases hn : n % 2 = 1
 ·rw [popc_step (by omega), hn] at hl
  rcases List.eq_nil_or_concat hs with rfl | ⟨q, g, rfl⟩
  ·simp at hl
   omega
  ·rw [List.concat_eq_append] at *
   have hq : q.length = popc (n / 2) := by simp at hl; omega
   rw [carry_odd hn, ih (n / 2) (by omega) q _ hq, popc_step (n := n + 1) (by omega), show (n + 1) % 2 = 0 by omega, show (n + 1) / 2 = n / 2 + 1 by omega]
   omega
 ·rw [carry_even hn, List.length_append, hl, popc_step (n := n + 1) (by omega), show (n + 1) % 2 = 1 by omega, show (n + 1) / 2 = n / 2 by omega]
  by_cases h0 : n = 0
  ·subst h0; simp [popc_zero]
  ·rw [popc_step h0, show n % 2 = 0 by omega]; simp; omega
theorem carry_sizes (n : Nat) : ∀ (hs : List ByteArray) (h : ByteArray), (∀ s ∈ hs, s.size = 32) → h.size = 32 → ∀ s ∈ carry n hs h, s.size = 32 := by
 refine natRec (P := fun n => ∀ (hs : List ByteArray) (h : ByteArray), (∀ s ∈ hs, s.size = 32) → h.size = 32 → ∀ s ∈ carry n hs h, s.size = 32) ?_ n
 intro n ih hs h hl h32
 by_cases hn : n % 2 = 1
 ·rw [carry_if, if_pos hn]
  exact ih (n / 2) (by omega) _ _ (fun s hs' => hl s (List.dropLast_subset _ hs')) (nodeH_size _ _)
 ·rw [carry_even hn]
  intro s hs'
  rcases List.mem_append.1 hs' with h1 | h1
  ·exact hl s h1
  ·simp at h1; rw [h1]; exact h32
theorem edge_sizes (l : List ByteArray) : ∀ s ∈ edge l, s.size = 32 := by
 refine lenRec (P := fun l => ∀ s ∈ edge l, s.size = 32) ?_ l
 intro l ih
 by_cases h : 1 ≤ l.length
 ·have hp := top_pos h
  rw [edge_some h]
  intro s hs
  rcases List.mem_cons.1 hs with rfl | hs
  ·exact root_size _
  ·exact ih _ (dropT_lt h) s hs
 ·obtain rfl : l = [] := List.eq_nil_of_length_eq_zero (by omega)
  rw [edge_nil]; intro s hs; cases hs
theorem edge_lenN : ∀ (N : Nat) (l : List ByteArray), l.length = N → (edge l).length = popc N := by
 intro N
 induction N with
 | zero =>
  intro l h
  obtain rfl : l = [] := List.eq_nil_of_length_eq_zero h
  rw [edge_nil, popc_zero]; rfl
 | succ n ih =>
  intro l h
  rcases List.eq_nil_or_concat l with rfl | ⟨q, s, rfl⟩
  ·cases h
  ·rw [List.concat_eq_append] at *
   have hq : q.length = n := by simp at h; exact h
   rw [← carry_one, hq, carry_len _ _ _ (ih q hq)]
theorem edge_len (l : List ByteArray) : (edge l).length = popc l.length := edge_lenN _ l rfl
theorem popc_le : ∀ n : Fin 256, popc n.val ≤ 8 := by decide +kernel
def okE (n : Int) (hs : List ByteArray) : Bool := decide (0 ≤ n ∧ n ≤ 200) && decide (hs.length = popc n.toNat) && hs.all (fun s => decide (s.size = 32))
def addE (n : Int) (hs : List ByteArray) (s : ByteArray) : Int × List ByteArray × Bool :=
 if okE n hs = true ∧ n ≠ 200 then (n + 1, carry n.toNat hs (leafH s), true) else (n, hs, false)
def rootE (n : Int) (hs : List ByteArray) : ByteArray := if okE n hs = true then eroot hs else ⟨#[]⟩
def goE (n : Int) (hs : List ByteArray) : List ByteArray → Option (Int × List ByteArray)
 | [] => some (n, hs)
 | s :: r => if (addE n hs s).2.2 = true then goE (addE n hs s).1 (addE n hs s).2.1 r else none
def allE (n : Int) (hs l : List ByteArray) : Int × List ByteArray × Bool := match goE n hs l with
 | some (m, r) => (m, r, true)
 | none => (n, hs, false)
theorem okE_iff {n : Int} {hs : List ByteArray} : okE n hs = true ↔ (0 ≤ n ∧ n ≤ 200) ∧ hs.length = popc n.toNat ∧ ∀ s ∈ hs, s.size = 32 := by
 unfold okE
 simp [and_assoc]
theorem okE_edge {l : List ByteArray} (h : l.length ≤ 200) : okE (l.length : Int) (edge l) = true :=
 okE_iff.2 ⟨by omega, by rw [edge_len, Int.toNat_natCast], edge_sizes l⟩
theorem addE_yes {n : Int} {hs : List ByteArray} (h : okE n hs = true) (h2 : n ≠ 200) (s : ByteArray) : addE n hs s = (n + 1, carry n.toNat hs (leafH s), true) := by
 unfold addE; rw [if_pos ⟨h, h2⟩]
theorem addE_no {n : Int} {hs : List ByteArray} (h : ¬ (okE n hs = true ∧ n ≠ 200)) (s : ByteArray) : addE n hs s = (n, hs, false) := by
 unfold addE; rw [if_neg h]
theorem addE_ok {n : Int} {hs : List ByteArray} (h : okE n hs = true) (h2 : n ≠ 200) (s : ByteArray) : okE (n + 1) (carry n.toNat hs (leafH s)) = true := by
 obtain ⟨a, b, c⟩ := okE_iff.1 h
 refine okE_iff.2 ⟨by omega, ?_, carry_sizes _ _ _ c (leafH_size s)⟩
 rw [carry_len _ _ _ b, show (n + 1).toNat = n.toNat + 1 by omega]
theorem addE_edge {l : List ByteArray} (h : l.length < 200) (s : ByteArray) : addE (l.length : Int) (edge l) s = (((l ++ [s]).length : Int), edge (l ++ [s]), true) := by
 rw [addE_yes (okE_edge (by omega)) (by omega), Int.toNat_natCast, carry_one, List.length_append]
 rfl
theorem goE_edge : ∀ (r l : List ByteArray), l.length + r.length ≤ 200 → goE (l.length : Int) (edge l) r = some (((l ++ r).length : Int), edge (l ++ r))
 | [], l, _ => by rw [List.append_nil]; rfl
 | s :: r, l, h => by
  have hl : l.length < 200 := by simp at h; omega
  rw [goE, addE_edge hl, if_pos rfl]
  have := goE_edge r (l ++ [s]) (by simp at h ⊢; omega)
  rw [this, List.append_assoc]
  rfl
theorem allE_edge {l r : List ByteArray} (h : l.length + r.length ≤ 200) : allE (l.length : Int) (edge l) r = (((l ++ r).length : Int), edge (l ++ r), true) := by
 unfold allE; rw [goE_edge r l h]
theorem rootE_edge {l : List ByteArray} (h : l.length ≤ 200) : rootE (l.length : Int) (edge l) = root l := by
 unfold rootE; rw [if_pos (okE_edge h), eroot_edge]
end Go.Proofs.YtchonoonclllbaaGreatDoor.Ed
namespace Go.Proofs.YtchonoonclllbaaGreatDoor.Sr
open Go.RowKit Mem Laws Sha Tr He Lg
def commitQ (st : Sto) (t : List Hd) (h : Hd) (x : List ByteArray) : Sto × Int := if st.b.length + (putC h x).length ≤ 60000 then commit1 st t h x else (st, 1)
theorem putC_yes {h : Hd} {x : List ByteArray} (hk : okH h = true) (h1 : 1 ≤ x.length) (h2 : x.length ≤ 200) : putC h x = put h x := by unfold putC; rw [if_pos ⟨hk, h1, h2⟩]
theorem replay_pre (xs : List Int) : ∀ (f a : Nat) (l : List ByteArray) (hd : Hd), l <+: (replayF f xs a l hd).1 := by
 intro f
 induction f with
 | zero => intro a l hd; exact List.prefix_refl _
 | succ f ih2 =>
  intro a l hd
  rw [replayF]
  split
  ·split
   ·split
    ·exact (List.prefix_append _ _).trans (ih2 _ _ _)
    ·exact List.prefix_append _ _
   ·exact List.prefix_refl _
  ·exact List.prefix_refl _
def fin12 (xs : List Int) (T : List ByteArray) (f a : Nat) (l : List ByteArray) (hd : Hd) : Bool := (replayF f xs a l hd).2.2 && decide ((replayF f xs a l hd).1 = T)
theorem fin_end {xs : List Int} {T l : List ByteArray} {f a : Nat} {hd : Hd} (h : ¬ a < xs.length) : fin12 xs T f a l hd = decide (l = T) := by
 unfold fin12
 cases f with
 | zero => exact Bool.true_and _
 | succ f => rw [replayF, if_neg h]; simp
theorem fin_no {xs : List Int} {T l : List ByteArray} {f a : Nat} {hd : Hd} (h : a < xs.length) (hf : xs.length - a ≤ f) (hg : (getC xs (a : Int)).2.2.2 = false) : fin12 xs T f a l hd = false := by
 obtain ⟨f, rfl⟩ : ∃ k, f = k + 1 := ⟨f - 1, by omega⟩
 unfold fin12
 rw [replayF, if_pos h, if_neg (by rw [hg]; simp)]
 simp
theorem fin_far {xs : List Int} {T l : List ByteArray} {f a : Nat} {hd : Hd} (h : a < xs.length) (hf : xs.length - a ≤ f) (hT : ¬ (l ++ (getC xs (a : Int)).2.1) <+: T) : fin12 xs T f a l hd = false := by
 obtain ⟨f, rfl⟩ : ∃ k, f = k + 1 := ⟨f - 1, by omega⟩
 unfold fin12
 rw [replayF, if_pos h]
 split
 ·split
  ·have hp := replay_pre xs f (getC xs (a : Int)).2.2.1.toNat (l ++ (getC xs (a : Int)).2.1) (getC xs (a : Int)).1
   have hne : ¬ (replayF f xs (getC xs (a : Int)).2.2.1.toNat (l ++ (getC xs (a : Int)).2.1) (getC xs (a : Int)).1).1 = T := fun e => hT (by rw [e] at hp; exact hp)
   simp [hne]
  ·simp
 ·simp
theorem fin_head {xs : List Int} {T l : List ByteArray} {f a : Nat} {hd : Hd} (h : a < xs.length) (hf : xs.length - a ≤ f) (he : eqH (getC xs (a : Int)).1 (headOf (l ++ (getC xs (a : Int)).2.1)) = false) : fin12 xs T f a l hd = false := by
 obtain ⟨f, rfl⟩ : ∃ k, f = k + 1 := ⟨f - 1, by omega⟩
 unfold fin12
 rw [replayF, if_pos h]
 split
 ·rw [if_neg (by rw [he]; simp)]; simp
 ·simp
theorem fin_go {xs : List Int} {T l x : List ByteArray} {f a q : Nat} {hd h : Hd} (hlt : a < xs.length) (hf : xs.length - a ≤ f) (hg : getC xs (a : Int) = (h, x, (q : Int), true)) (haq : a < q) (hl : (l ++ x).length ≤ 200) (he : eqH h (headOf (l ++ x)) = true) :
  ∃ f', xs.length - q ≤ f' ∧ fin12 xs T f a l hd = fin12 xs T f' q (l ++ x) h := by
 obtain ⟨f, rfl⟩ : ∃ k, f = k + 1 := ⟨f - 1, by omega⟩
 refine ⟨f, by omega, ?_⟩
 rw [List.length_append] at hl
 unfold fin12
 conv => lhs; rw [replayF, if_pos hlt, hg]
 simp only [Int.toNat_natCast]
 rw [if_pos ⟨trivial, hl⟩, if_pos he]
theorem pre_take {T x : List ByteArray} {m : Nat} (hm : m ≤ T.length) : (T.take m ++ x) <+: T ↔ x <+: T.drop m := by
 conv => lhs; rhs; rw [← List.take_append_drop m T]
 exact List.prefix_append_right_inj _
theorem pre_eq {D x : List ByteArray} (h : x.length ≤ D.length) : x = D.take x.length ↔ x <+: D := by
 constructor
 ·intro e; rw [e]; exact List.take_prefix _ _
 ·intro e; exact List.prefix_iff_eq_take.1 e
theorem take_more {T x : List ByteArray} {m : Nat} (hm : m ≤ T.length) (hx : x <+: T.drop m) : T.take m ++ x = T.take (m + x.length) ∧ m + x.length ≤ T.length := by
 have e := List.prefix_iff_eq_take.1 hx
 have hl := hx.length_le
 rw [List.length_drop] at hl
 refine ⟨?_, by omega⟩
 rw [List.take_add, ← e]
theorem storeOk_fin (st : Sto) (h1 : logOk st.l st.h = true) (h2 : st.b.length ≤ 60000) (h3 : 0 ≤ st.s ∧ st.s ≤ (st.b.length : Int)) : storeOk st = fin12 st.b st.l st.b.length 0 [] (headOf []) := by
 unfold storeOk fin12 replay
 rw [h1]
 simp [h2, h3.1, h3.2]
theorem storeOk_no (st : Sto) (h : ¬ (logOk st.l st.h = true ∧ st.b.length ≤ 60000 ∧ 0 ≤ st.s ∧ st.s ≤ (st.b.length : Int))) : storeOk st = false := by
 rw [← Bool.not_eq_true]
 intro q
 obtain ⟨a, b, c, d, _⟩ := ok_parts q
 exact h ⟨a, b, c, d⟩
theorem headOf_edge {T : List ByteArray} {m : Nat} (h2 : T.length ≤ 200) (hm : m ≤ T.length) : headOf (T.take m) = ⟨(m : Int), Ed.rootE (m : Int) (Ed.edge (T.take m))⟩ := by
 have hl : (T.take m).length = m := by rw [List.length_take]; omega
 unfold headOf
 rw [if_pos (by omega), hl]
 have := Ed.rootE_edge (l := T.take m) (by omega)
 rw [hl] at this
 rw [this]
end Go.Proofs.YtchonoonclllbaaGreatDoor.Sr
